/- NumberBack's walk -/
import Derived.Test.YtggoobbnibpbkaaGreatDoorR20
import Derived.Test.YtggoobbnibpbkaaGreatDoorR21
import Derived.Deep.CutRange
namespace Go.Proofs.YtggoobbnibpbkaaGreatDoor
open Go.RowKit
set_option linter.unusedVariables false

set_option maxHeartbeats 40000000 in
set_option maxRecDepth 20000 in
theorem back15 {w : World} (L : Lays w) (T : Brn w) (U : Uss w)
    {k n1 b e x : Int} {g : Bool} {s : ByteArray} {mo ko : Option Addr} {ml mc kl kc K1 : Nat} (x0 : 0 ≤ x) (x1 : x < 18446744073709551616)
    (hV : ∀ W bb, Below w.heap.size w W → Bx8 W bb (.int .i8 k) (.int .u64 n1) (.bool g) (.slice mo ml mc) (.int .u64 b) (.int .i8 e) (.string s) (.slice ko kl kc) → Calls Tryz.prog 21 #[.slice (some ⟨bb, 0, none⟩) 1 1] W fun e' w' => (∃ q, e' = .returned (.bool q) ∧ (q = false → K1 ≤ 1048576)) ∧ Below W.heap.size W w')
    (hD : ∀ W, Below w.heap.size w W → (∃ z, NRe W (.agg #[.int .i8 k, .int .u64 n1, .bool g, .slice mo ml mc, .int .u64 b, .int .i8 e, .string s, .slice ko kl kc]) K1 z) ∨ NoN W (.agg #[.int .i8 k, .int .u64 n1, .bool g, .slice mo ml mc, .int .u64 b, .int .i8 e, .string s, .slice ko kl kc])) :
    Calls Tryz.prog 7 #[.int .u64 x, .agg #[.int .i8 k, .int .u64 n1, .bool g, .slice mo ml mc, .int .u64 b, .int .i8 e, .string s, .slice ko kl kc]] w fun e' w' => e' = .returned (.bool true) ∧ Below w.heap.size w w' := by
  have HL := hide L
  have HT := hide T
  have HU := hide U
  have HV := hide hV
  have HD := hide hD
  clear L T U hV hD
  go_enter Tryz.func7, Tryz.ntmps7
  go_wp2_with fail
  have B1 := bx8_new w (.int .i8 k) (.int .u64 n1) (.bool g) (.slice mo ml mc) (.int .u64 b) (.int .i8 e) (.string s) (.slice ko kl kc) 32
  have K1' := bel_new w (.cells #[.int .i8 k, .int .u64 n1, .bool g, .slice mo ml mc, .int .u64 b, .int .i8 e, .string s, .slice ko kl kc] 32)
  have hz1 : w.heap.size + 1 = (w.alloc (.cells #[.int .i8 k, .int .u64 n1, .bool g, .slice mo ml mc, .int .u64 b, .int .i8 e, .string s, .slice ko kl kc] 32)).heap.size := by simp
  generalize w.alloc (.cells #[.int .i8 k, .int .u64 n1, .bool g, .slice mo ml mc, .int .u64 b, .int .i8 e, .string s, .slice ko kl kc] 32) = w1 at *
  have B2 := bx8_new w1 (.int .i8 k) (.int .u64 n1) (.bool g) (.slice mo ml mc) (.int .u64 b) (.int .i8 e) (.string s) (.slice ko kl kc) 32
  have K2 := bel_new w1 (.cells #[.int .i8 k, .int .u64 n1, .bool g, .slice mo ml mc, .int .u64 b, .int .i8 e, .string s, .slice ko kl kc] 32)
  rw [← hz1] at B2
  have HB2 := hide (B1.below K2 B1.lt)
  have HK2 := hide (below_trans K1' K2)
  generalize w1.alloc (.cells #[.int .i8 k, .int .u64 n1, .bool g, .slice mo ml mc, .int .u64 b, .int .i8 e, .string s, .slice ko kl kc] 32) = w2 at *
  with_reducible refine (HV.out _ _ HK2.out B2).mono ?_
  rintro e' w3 ⟨⟨q, rfl, hq⟩, K3⟩
  have HB := hide (HB2.out.below K3 HB2.out.lt)
  have HK := hide (HK2.out.trans (K3.mono HK2.out.size))
  clear B1 B2 K1' K2 hz1 K3
  cases q
  case true =>
    go_wp2
    go_ret
    exact ⟨rfl, HK.out⟩
  case false =>
    have hq2 : K1 ≤ 1048577 := by have := hq rfl; omega
    clear hq
    obtain ⟨c0, c1, c2, c3, c4, c5, c6, c7⟩ := HB.out
    go_wp2_with fail
    with_reducible refine (bits_v (HL.out.below HK.out) (HT.out.below HK.out) (HU.out.below HK.out) (HD.out _ HK.out) hq2).mono ?_
    rintro e' w4 ⟨y4, ok4, rfl, y40, y41, hz4, K4⟩
    have HB4 := hide (HB.out.below K4 HB.out.lt)
    have HK4 := hide (HK.out.trans (K4.mono HK.out.size))
    have HZ4 := hide hz4
    have KB4 := hide K4
    clear K4 hz4 c0 c1 c2 c3 c4 c5 c6 c7
    go_upto_if 25 with fail
    go_cut [5] from 7 (fun s5 wx => s5 = .int .u64 y4 ∧ Hid (Below w.heap.size w wx))
    case first =>
      cases ok4
      · go_wp2
        go_meet
        case rel => exact ⟨rfl, HK4⟩
      · obtain ⟨z, hz, hbz⟩ := HZ4.out rfl
        have HN4 := hide (hz.below KB4.out)
        have HBz := hide hbz
        clear hz hbz
        obtain ⟨c0, c1, c2, c3, c4, c5, c6, c7⟩ := HB4.out
        go_wp2_with fail
        with_reducible refine (narrow_e (HL.out.below HK4.out) (HT.out.below HK4.out) (HU.out.below HK4.out) HN4.out hq2).mono ?_
        rintro e' w5 ⟨wd, y5, ok5, rfl, y50, y51, hA, K5⟩
        have HB5 := hide (HB4.out.below K5 HB4.out.lt)
        have HK5 := hide (HK4.out.trans (K5.mono HK4.out.size))
        have HN5 := hide (HN4.out.below K5)
        clear K5 c0 c1 c2 c3 c4 c5 c6 c7
        have HO := hide (fun (W : World) (hW : Below w.heap.size w W) => (nof_64 (HL.out.below hW) (HT.out.below hW) y4 y40 y41).mono (R' := fun e' w' => ∃ v, e' = .returned v ∧ NRd w' v 100 z ∧ Below W.heap.size W w') (by
          rintro e' w' ⟨v, z', h1, h2, h3, h4⟩
          obtain rfl := wide_of wth64 (Int.emod_nonneg _ (by decide)) (bits_wide (nre_fok HN4.out) HBz.out) h3
          exact ⟨v, h1, h2, h4⟩))
        have HS := hide (fun (W : World) (v' : Value) (hW : Below w5.heap.size w5 W) (g' : NRd W v' 100 z) => (sameval_e g'.re (HN5.out.below hW)).mono (R' := fun e' w' => e' = .returned (.bool true) ∧ Below W.heap.size W w') (by
          rintro e' w' ⟨rfl, h⟩
          exact ⟨by simp, h⟩))
        obtain ⟨rfl, ⟨rfl, r5, hy⟩ | ⟨rfl, r5, hy⟩ | ⟨rfl, hy⟩⟩ := nar_cases (nre_fok HN4.out) HBz.out hA
        · have HY := hide hy
          clear hy hA
          have HR := hide (fun (W : World) (hW : Below w.heap.size w W) => (read_16 (HL.out.below hW) (HT.out.below hW) y5 r5.1 r5.2).mono (R' := fun e' w' => ∃ v, e' = .returned v ∧ NRd w' v 100 z ∧ Below W.heap.size W w') (by rintro e' w' ⟨v, z', h1, h2, h3, h4⟩; obtain rfl := HY.out z' h3; exact ⟨v, h1, h2, h4⟩))
          clear HY
          go_wp2_with fail
          have CC : ∀ u : World, Below w5.heap.size w5 u → u.cell? ⟨w.heap.size, 0, none⟩ = some (.int .i8 k) ∧ u.cell? ⟨w.heap.size, 1, none⟩ = some (.int .u64 n1) ∧ u.cell? ⟨w.heap.size, 2, none⟩ = some (.bool g) ∧ u.cell? ⟨w.heap.size, 3, none⟩ = some (.slice mo ml mc) ∧ u.cell? ⟨w.heap.size, 4, none⟩ = some (.int .u64 b) ∧ u.cell? ⟨w.heap.size, 5, none⟩ = some (.int .i8 e) ∧ u.cell? ⟨w.heap.size, 6, none⟩ = some (.string s) ∧ u.cell? ⟨w.heap.size, 7, none⟩ = some (.slice ko kl kc) := fun u hu => by
            obtain ⟨x0, x1, x2, x3, x4, x5, x6, x7⟩ := HB5.out.below hu HB5.out.lt
            exact ⟨x0, x1, x2, x3, x4, x5, x6, x7⟩
          have K : Below w5.heap.size w5 w5.drew := (Below.refl _ _).drew
          have HC0 := CC _ K
          refine wpHl.region (C := fun u => u.cell? ⟨w.heap.size, 0, none⟩ = some (.int .i8 k) ∧ u.cell? ⟨w.heap.size, 1, none⟩ = some (.int .u64 n1) ∧ u.cell? ⟨w.heap.size, 2, none⟩ = some (.bool g) ∧ u.cell? ⟨w.heap.size, 3, none⟩ = some (.slice mo ml mc) ∧ u.cell? ⟨w.heap.size, 4, none⟩ = some (.int .u64 b) ∧ u.cell? ⟨w.heap.size, 5, none⟩ = some (.int .i8 e) ∧ u.cell? ⟨w.heap.size, 6, none⟩ = some (.string s) ∧ u.cell? ⟨w.heap.size, 7, none⟩ = some (.slice ko kl kc)) (D := fun _ => false) (by kernel_rfl) ?_
          refine wpHl.tk (i := 0) (d := some 32) (v := .bool true) rfl (by kernel_rfl) (by kernel_rfl) (by kernel_rfl) (by kernel_rfl) rfl (fun _ _ _ h => h) (Or.inl ⟨by rfl, ?_⟩) HC0 ?_
          · rintro u ⟨z0, z1, z2, z3, z4, z5, z6, z7⟩
            go_simp
          simp only [Act.put, List.setIfInBounds_toArray, List.set_cons_zero, List.set_cons_succ]
          refine wpHl.tk (i := 1) (d := some 33) (v := .bool false) rfl (by kernel_rfl) (by kernel_rfl) (by kernel_rfl) (by kernel_rfl) rfl (fun _ _ _ h => h) (Or.inl ⟨by rfl, ?_⟩) HC0 ?_
          · rintro u ⟨z0, z1, z2, z3, z4, z5, z6, z7⟩
            go_simp
          simp only [Act.put, List.setIfInBounds_toArray, List.set_cons_zero, List.set_cons_succ]
          refine wpHl.tk (i := 2) (d := some 34) (v := .bool false) rfl (by kernel_rfl) (by kernel_rfl) (by kernel_rfl) (by kernel_rfl) rfl (fun _ _ _ h => h) (Or.inl ⟨by rfl, ?_⟩) HC0 ?_
          · rintro u ⟨z0, z1, z2, z3, z4, z5, z6, z7⟩
            go_simp
          simp only [Act.put, List.setIfInBounds_toArray, List.set_cons_zero, List.set_cons_succ]
          refine wpHl.tk (i := 3) (d := some 35) (v := .int .u64 y4) rfl (by kernel_rfl) (by kernel_rfl) (by kernel_rfl) (by kernel_rfl) rfl (fun _ _ _ h => h) (Or.inl ⟨by rfl, ?_⟩) HC0 ?_
          · rintro u ⟨z0, z1, z2, z3, z4, z5, z6, z7⟩
            go_simp
          simp only [Act.put, List.setIfInBounds_toArray, List.set_cons_zero, List.set_cons_succ]
          refine wpHl.tk (i := 5) (d := some 37) (v := .agg #[.int .i8 k, .int .u64 n1, .bool g, .slice mo ml mc, .int .u64 b, .int .i8 e, .string s, .slice ko kl kc]) rfl (by kernel_rfl) (by kernel_rfl) (by kernel_rfl) (by kernel_rfl) rfl (fun _ _ _ h => h) (Or.inl ⟨by rfl, ?_⟩) HC0 ?_
          · rintro u ⟨z0, z1, z2, z3, z4, z5, z6, z7⟩
            go_simp
          simp only [Act.put, List.setIfInBounds_toArray, List.set_cons_zero, List.set_cons_succ]
          refine wpHl.one (i := 4) (by kernel_rfl) rfl (fun K1 hK1 => ?_)
          rw [if_pos (by rfl)]
          go_simp
          go_at_call 10
          with_reducible refine (HO.out _ (HK5.out.trans (K.mono HK5.out.size))).mono ?_
          rintro x w6 ⟨v6, rfl, hR6, hb6⟩
          replace K := K.trans (hb6.mono K.size)
          clear HC0
          have HC0 := CC _ K
          refine hK1 _ _ ⟨fun _ => HC0, ?_⟩
          clear hK1 K1
          try simp only [Act.put, List.setIfInBounds_toArray, List.set_cons_zero, List.set_cons_succ]
          refine wpHl.one (i := 6) (by kernel_rfl) rfl (fun K1 hK1 => ?_)
          rw [if_pos (by rfl)]
          go_simp
          go_at_call 16
          with_reducible refine (HS.out _ _ K hR6).mono ?_
          rintro x w7 ⟨rfl, hb7⟩
          replace K := K.trans (hb7.mono K.size)
          clear HC0
          have HC0 := CC _ K
          refine hK1 _ _ ⟨fun _ => HC0, ?_⟩
          clear hK1 K1
          try simp only [Act.put, List.setIfInBounds_toArray, List.set_cons_zero, List.set_cons_succ]
          refine wpHl.tk (i := 7) (d := some 39) (v := .bool false) rfl (by kernel_rfl) (by kernel_rfl) (by kernel_rfl) (by kernel_rfl) rfl (fun _ _ _ h => h) (Or.inl ⟨by rfl, ?_⟩) HC0 ?_
          · rintro u ⟨z0, z1, z2, z3, z4, z5, z6, z7⟩
            go_simp
          simp only [Act.put, List.setIfInBounds_toArray, List.set_cons_zero, List.set_cons_succ]
          refine wpHl.tk (i := 8) (d := some 40) (v := .bool false) rfl (by kernel_rfl) (by kernel_rfl) (by kernel_rfl) (by kernel_rfl) rfl (fun _ _ _ h => h) (Or.inl ⟨by rfl, ?_⟩) HC0 ?_
          · rintro u ⟨z0, z1, z2, z3, z4, z5, z6, z7⟩
            go_simp
          simp only [Act.put, List.setIfInBounds_toArray, List.set_cons_zero, List.set_cons_succ]
          refine wpHl.tk (i := 9) (d := some 41) (v := .bool false) rfl (by kernel_rfl) (by kernel_rfl) (by kernel_rfl) (by kernel_rfl) rfl (fun _ _ _ h => h) (Or.inl ⟨by rfl, ?_⟩) HC0 ?_
          · rintro u ⟨z0, z1, z2, z3, z4, z5, z6, z7⟩
            go_simp
          simp only [Act.put, List.setIfInBounds_toArray, List.set_cons_zero, List.set_cons_succ]
          refine wpHl.tk (i := 10) (d := some 42) (v := .int .i64 16) rfl (by kernel_rfl) (by kernel_rfl) (by kernel_rfl) (by kernel_rfl) rfl (fun _ _ _ h => h) (Or.inl ⟨by rfl, ?_⟩) HC0 ?_
          · rintro u ⟨z0, z1, z2, z3, z4, z5, z6, z7⟩
            go_simp
          simp only [Act.put, List.setIfInBounds_toArray, List.set_cons_zero, List.set_cons_succ]
          refine wpHl.tk (i := 11) (d := some 43) (v := .int .u64 y5) rfl (by kernel_rfl) (by kernel_rfl) (by kernel_rfl) (by kernel_rfl) rfl (fun _ _ _ h => h) (Or.inl ⟨by rfl, ?_⟩) HC0 ?_
          · rintro u ⟨z0, z1, z2, z3, z4, z5, z6, z7⟩
            go_simp
          simp only [Act.put, List.setIfInBounds_toArray, List.set_cons_zero, List.set_cons_succ]
          refine wpHl.tk (i := 13) (d := some 45) (v := .agg #[.int .i8 k, .int .u64 n1, .bool g, .slice mo ml mc, .int .u64 b, .int .i8 e, .string s, .slice ko kl kc]) rfl (by kernel_rfl) (by kernel_rfl) (by kernel_rfl) (by kernel_rfl) rfl (fun _ _ _ h => h) (Or.inl ⟨by rfl, ?_⟩) HC0 ?_
          · rintro u ⟨z0, z1, z2, z3, z4, z5, z6, z7⟩
            go_simp
          simp only [Act.put, List.setIfInBounds_toArray, List.set_cons_zero, List.set_cons_succ]
          refine wpHl.one (i := 12) (by kernel_rfl) rfl (fun K1 hK1 => ?_)
          rw [if_pos (by rfl)]
          go_simp
          go_at_call 34
          with_reducible refine (HR.out _ (HK5.out.trans (K.mono HK5.out.size))).mono ?_
          rintro x w8 ⟨v8, rfl, hR8, hb8⟩
          replace K := K.trans (hb8.mono K.size)
          clear HC0
          have HC0 := CC _ K
          refine hK1 _ _ ⟨fun _ => HC0, ?_⟩
          clear hK1 K1
          try simp only [Act.put, List.setIfInBounds_toArray, List.set_cons_zero, List.set_cons_succ]
          refine wpHl.one (i := 14) (by kernel_rfl) rfl (fun K1 hK1 => ?_)
          rw [if_pos (by rfl)]
          go_simp
          go_at_call 16
          with_reducible refine (HS.out _ _ K hR8).mono ?_
          rintro x w9 ⟨rfl, hb9⟩
          replace K := K.trans (hb9.mono K.size)
          clear HC0
          have HC0 := CC _ K
          refine hK1 _ _ ⟨fun _ => HC0, ?_⟩
          clear hK1 K1
          try simp only [Act.put, List.setIfInBounds_toArray, List.set_cons_zero, List.set_cons_succ]
          refine wpHl.tk (i := 15) (d := some 47) (v := .bool false) rfl (by kernel_rfl) (by kernel_rfl) (by kernel_rfl) (by kernel_rfl) rfl (fun _ _ _ h => h) (Or.inl ⟨by rfl, ?_⟩) HC0 ?_
          · rintro u ⟨z0, z1, z2, z3, z4, z5, z6, z7⟩
            go_simp
          simp only [Act.put, List.setIfInBounds_toArray, List.set_cons_zero, List.set_cons_succ]
          refine wpHl.tk (i := 16) (d := some 48) (v := .bool false) rfl (by kernel_rfl) (by kernel_rfl) (by kernel_rfl) (by kernel_rfl) rfl (fun _ _ _ h => h) (Or.inl ⟨by rfl, ?_⟩) HC0 ?_
          · rintro u ⟨z0, z1, z2, z3, z4, z5, z6, z7⟩
            go_simp
          simp only [Act.put, List.setIfInBounds_toArray, List.set_cons_zero, List.set_cons_succ]
          refine wpHl.tk (i := 17) (d := some 49) (v := .bool false) rfl (by kernel_rfl) (by kernel_rfl) (by kernel_rfl) (by kernel_rfl) rfl (fun _ _ _ h => h) (Or.inl ⟨by rfl, ?_⟩) HC0 ?_
          · rintro u ⟨z0, z1, z2, z3, z4, z5, z6, z7⟩
            go_simp
          simp only [Act.put, List.setIfInBounds_toArray, List.set_cons_zero, List.set_cons_succ]
          refine wpHl.tk (i := 18) (d := some 50) (v := .int .i64 16) rfl (by kernel_rfl) (by kernel_rfl) (by kernel_rfl) (by kernel_rfl) rfl (fun _ _ _ h => h) (Or.inl ⟨by rfl, ?_⟩) HC0 ?_
          · rintro u ⟨z0, z1, z2, z3, z4, z5, z6, z7⟩
            go_simp
          simp only [Act.put, List.setIfInBounds_toArray, List.set_cons_zero, List.set_cons_succ]
          refine wpHl.tk (i := 19) (d := some 51) (v := .bool false) rfl (by kernel_rfl) (by kernel_rfl) (by kernel_rfl) (by kernel_rfl) rfl (fun _ _ _ h => h) (Or.inl ⟨by rfl, ?_⟩) HC0 ?_
          · rintro u ⟨z0, z1, z2, z3, z4, z5, z6, z7⟩
            go_simp
          simp only [Act.put, List.setIfInBounds_toArray, List.set_cons_zero, List.set_cons_succ]
          refine wpHl.tk (i := 20) (d := some 52) (v := .bool false) rfl (by kernel_rfl) (by kernel_rfl) (by kernel_rfl) (by kernel_rfl) rfl (fun _ _ _ h => h) (Or.inl ⟨by rfl, ?_⟩) HC0 ?_
          · rintro u ⟨z0, z1, z2, z3, z4, z5, z6, z7⟩
            go_simp
          simp only [Act.put, List.setIfInBounds_toArray, List.set_cons_zero, List.set_cons_succ]
          refine wpHl.tk (i := 21) (d := some 53) (v := undef) rfl (by kernel_rfl) (by kernel_rfl) (by kernel_rfl) (by kernel_rfl) rfl (fun _ _ _ h => h) (Or.inr ⟨by rfl, rfl⟩) HC0 ?_
          simp only [Act.put, List.setIfInBounds_toArray, List.set_cons_zero, List.set_cons_succ]
          refine wpHl.tk (i := 22) (d := some 54) (v := undef) rfl (by kernel_rfl) (by kernel_rfl) (by kernel_rfl) (by kernel_rfl) rfl (fun _ _ _ h => h) (Or.inr ⟨by rfl, rfl⟩) HC0 ?_
          simp only [Act.put, List.setIfInBounds_toArray, List.set_cons_zero, List.set_cons_succ]
          refine wpHl.tk (i := 23) (d := some 55) (v := .bool false) rfl (by kernel_rfl) (by kernel_rfl) (by kernel_rfl) (by kernel_rfl) rfl (fun _ _ _ h => h) (Or.inl ⟨by rfl, ?_⟩) HC0 ?_
          · rintro u ⟨z0, z1, z2, z3, z4, z5, z6, z7⟩
            go_simp
          simp only [Act.put, List.setIfInBounds_toArray, List.set_cons_zero, List.set_cons_succ]
          refine wpHl.tk (i := 24) (d := some 56) (v := .bool false) rfl (by kernel_rfl) (by kernel_rfl) (by kernel_rfl) (by kernel_rfl) rfl (fun _ _ _ h => h) (Or.inl ⟨by rfl, ?_⟩) HC0 ?_
          · rintro u ⟨z0, z1, z2, z3, z4, z5, z6, z7⟩
            go_simp
          simp only [Act.put, List.setIfInBounds_toArray, List.set_cons_zero, List.set_cons_succ]
          refine wpHl.tk (i := 25) (d := some 57) (v := undef) rfl (by kernel_rfl) (by kernel_rfl) (by kernel_rfl) (by kernel_rfl) rfl (fun _ _ _ h => h) (Or.inr ⟨by rfl, rfl⟩) HC0 ?_
          simp only [Act.put, List.setIfInBounds_toArray, List.set_cons_zero, List.set_cons_succ]
          refine wpHl.tk (i := 26) (d := some 58) (v := undef) rfl (by kernel_rfl) (by kernel_rfl) (by kernel_rfl) (by kernel_rfl) rfl (fun _ _ _ h => h) (Or.inr ⟨by rfl, rfl⟩) HC0 ?_
          simp only [Act.put, List.setIfInBounds_toArray, List.set_cons_zero, List.set_cons_succ]
          refine wpHl.tk (i := 27) (d := some 59) (v := .bool false) rfl (by kernel_rfl) (by kernel_rfl) (by kernel_rfl) (by kernel_rfl) rfl (fun _ _ _ h => h) (Or.inl ⟨by rfl, ?_⟩) HC0 ?_
          · rintro u ⟨z0, z1, z2, z3, z4, z5, z6, z7⟩
            go_simp
          simp only [Act.put, List.setIfInBounds_toArray, List.set_cons_zero, List.set_cons_succ]
          refine wpHl.tk (i := 28) (d := some 60) (v := .bool false) rfl (by kernel_rfl) (by kernel_rfl) (by kernel_rfl) (by kernel_rfl) rfl (fun _ _ _ h => h) (Or.inl ⟨by rfl, ?_⟩) HC0 ?_
          · rintro u ⟨z0, z1, z2, z3, z4, z5, z6, z7⟩
            go_simp
          simp only [Act.put, List.setIfInBounds_toArray, List.set_cons_zero, List.set_cons_succ]
          refine wpHl.done (by kernel_rfl) ?_ _
          have KZ := hide (HK5.out.trans (K.mono HK5.out.size))
          clear CC K HC0
          go_wp2
          go_meet
          case rel => exact ⟨rfl, KZ⟩
        · have HY := hide hy
          clear hy hA
          have HR := hide (fun (W : World) (hW : Below w.heap.size w W) => (read_32 (HL.out.below hW) (HT.out.below hW) y5 r5.1 r5.2).mono (R' := fun e' w' => ∃ v, e' = .returned v ∧ NRd w' v 100 z ∧ Below W.heap.size W w') (by rintro e' w' ⟨v, z', h1, h2, h3, h4⟩; obtain rfl := HY.out z' h3; exact ⟨v, h1, h2, h4⟩))
          clear HY
          go_wp2_with fail
          have CC : ∀ u : World, Below w5.heap.size w5 u → u.cell? ⟨w.heap.size, 0, none⟩ = some (.int .i8 k) ∧ u.cell? ⟨w.heap.size, 1, none⟩ = some (.int .u64 n1) ∧ u.cell? ⟨w.heap.size, 2, none⟩ = some (.bool g) ∧ u.cell? ⟨w.heap.size, 3, none⟩ = some (.slice mo ml mc) ∧ u.cell? ⟨w.heap.size, 4, none⟩ = some (.int .u64 b) ∧ u.cell? ⟨w.heap.size, 5, none⟩ = some (.int .i8 e) ∧ u.cell? ⟨w.heap.size, 6, none⟩ = some (.string s) ∧ u.cell? ⟨w.heap.size, 7, none⟩ = some (.slice ko kl kc) := fun u hu => by
            obtain ⟨x0, x1, x2, x3, x4, x5, x6, x7⟩ := HB5.out.below hu HB5.out.lt
            exact ⟨x0, x1, x2, x3, x4, x5, x6, x7⟩
          have K : Below w5.heap.size w5 w5.drew := (Below.refl _ _).drew
          have HC0 := CC _ K
          refine wpHl.region (C := fun u => u.cell? ⟨w.heap.size, 0, none⟩ = some (.int .i8 k) ∧ u.cell? ⟨w.heap.size, 1, none⟩ = some (.int .u64 n1) ∧ u.cell? ⟨w.heap.size, 2, none⟩ = some (.bool g) ∧ u.cell? ⟨w.heap.size, 3, none⟩ = some (.slice mo ml mc) ∧ u.cell? ⟨w.heap.size, 4, none⟩ = some (.int .u64 b) ∧ u.cell? ⟨w.heap.size, 5, none⟩ = some (.int .i8 e) ∧ u.cell? ⟨w.heap.size, 6, none⟩ = some (.string s) ∧ u.cell? ⟨w.heap.size, 7, none⟩ = some (.slice ko kl kc)) (D := fun _ => false) (by kernel_rfl) ?_
          refine wpHl.tk (i := 0) (d := some 32) (v := .bool true) rfl (by kernel_rfl) (by kernel_rfl) (by kernel_rfl) (by kernel_rfl) rfl (fun _ _ _ h => h) (Or.inl ⟨by rfl, ?_⟩) HC0 ?_
          · rintro u ⟨z0, z1, z2, z3, z4, z5, z6, z7⟩
            go_simp
          simp only [Act.put, List.setIfInBounds_toArray, List.set_cons_zero, List.set_cons_succ]
          refine wpHl.tk (i := 1) (d := some 33) (v := .bool false) rfl (by kernel_rfl) (by kernel_rfl) (by kernel_rfl) (by kernel_rfl) rfl (fun _ _ _ h => h) (Or.inl ⟨by rfl, ?_⟩) HC0 ?_
          · rintro u ⟨z0, z1, z2, z3, z4, z5, z6, z7⟩
            go_simp
          simp only [Act.put, List.setIfInBounds_toArray, List.set_cons_zero, List.set_cons_succ]
          refine wpHl.tk (i := 2) (d := some 34) (v := .bool false) rfl (by kernel_rfl) (by kernel_rfl) (by kernel_rfl) (by kernel_rfl) rfl (fun _ _ _ h => h) (Or.inl ⟨by rfl, ?_⟩) HC0 ?_
          · rintro u ⟨z0, z1, z2, z3, z4, z5, z6, z7⟩
            go_simp
          simp only [Act.put, List.setIfInBounds_toArray, List.set_cons_zero, List.set_cons_succ]
          refine wpHl.tk (i := 3) (d := some 35) (v := .int .u64 y4) rfl (by kernel_rfl) (by kernel_rfl) (by kernel_rfl) (by kernel_rfl) rfl (fun _ _ _ h => h) (Or.inl ⟨by rfl, ?_⟩) HC0 ?_
          · rintro u ⟨z0, z1, z2, z3, z4, z5, z6, z7⟩
            go_simp
          simp only [Act.put, List.setIfInBounds_toArray, List.set_cons_zero, List.set_cons_succ]
          refine wpHl.tk (i := 5) (d := some 37) (v := .agg #[.int .i8 k, .int .u64 n1, .bool g, .slice mo ml mc, .int .u64 b, .int .i8 e, .string s, .slice ko kl kc]) rfl (by kernel_rfl) (by kernel_rfl) (by kernel_rfl) (by kernel_rfl) rfl (fun _ _ _ h => h) (Or.inl ⟨by rfl, ?_⟩) HC0 ?_
          · rintro u ⟨z0, z1, z2, z3, z4, z5, z6, z7⟩
            go_simp
          simp only [Act.put, List.setIfInBounds_toArray, List.set_cons_zero, List.set_cons_succ]
          refine wpHl.one (i := 4) (by kernel_rfl) rfl (fun K1 hK1 => ?_)
          rw [if_pos (by rfl)]
          go_simp
          go_at_call 10
          with_reducible refine (HO.out _ (HK5.out.trans (K.mono HK5.out.size))).mono ?_
          rintro x w6 ⟨v6, rfl, hR6, hb6⟩
          replace K := K.trans (hb6.mono K.size)
          clear HC0
          have HC0 := CC _ K
          refine hK1 _ _ ⟨fun _ => HC0, ?_⟩
          clear hK1 K1
          try simp only [Act.put, List.setIfInBounds_toArray, List.set_cons_zero, List.set_cons_succ]
          refine wpHl.one (i := 6) (by kernel_rfl) rfl (fun K1 hK1 => ?_)
          rw [if_pos (by rfl)]
          go_simp
          go_at_call 16
          with_reducible refine (HS.out _ _ K hR6).mono ?_
          rintro x w7 ⟨rfl, hb7⟩
          replace K := K.trans (hb7.mono K.size)
          clear HC0
          have HC0 := CC _ K
          refine hK1 _ _ ⟨fun _ => HC0, ?_⟩
          clear hK1 K1
          try simp only [Act.put, List.setIfInBounds_toArray, List.set_cons_zero, List.set_cons_succ]
          refine wpHl.tk (i := 7) (d := some 39) (v := .bool false) rfl (by kernel_rfl) (by kernel_rfl) (by kernel_rfl) (by kernel_rfl) rfl (fun _ _ _ h => h) (Or.inl ⟨by rfl, ?_⟩) HC0 ?_
          · rintro u ⟨z0, z1, z2, z3, z4, z5, z6, z7⟩
            go_simp
          simp only [Act.put, List.setIfInBounds_toArray, List.set_cons_zero, List.set_cons_succ]
          refine wpHl.tk (i := 8) (d := some 40) (v := .bool false) rfl (by kernel_rfl) (by kernel_rfl) (by kernel_rfl) (by kernel_rfl) rfl (fun _ _ _ h => h) (Or.inl ⟨by rfl, ?_⟩) HC0 ?_
          · rintro u ⟨z0, z1, z2, z3, z4, z5, z6, z7⟩
            go_simp
          simp only [Act.put, List.setIfInBounds_toArray, List.set_cons_zero, List.set_cons_succ]
          refine wpHl.tk (i := 9) (d := some 41) (v := .bool false) rfl (by kernel_rfl) (by kernel_rfl) (by kernel_rfl) (by kernel_rfl) rfl (fun _ _ _ h => h) (Or.inl ⟨by rfl, ?_⟩) HC0 ?_
          · rintro u ⟨z0, z1, z2, z3, z4, z5, z6, z7⟩
            go_simp
          simp only [Act.put, List.setIfInBounds_toArray, List.set_cons_zero, List.set_cons_succ]
          refine wpHl.tk (i := 10) (d := some 42) (v := .int .i64 32) rfl (by kernel_rfl) (by kernel_rfl) (by kernel_rfl) (by kernel_rfl) rfl (fun _ _ _ h => h) (Or.inl ⟨by rfl, ?_⟩) HC0 ?_
          · rintro u ⟨z0, z1, z2, z3, z4, z5, z6, z7⟩
            go_simp
          simp only [Act.put, List.setIfInBounds_toArray, List.set_cons_zero, List.set_cons_succ]
          refine wpHl.tk (i := 11) (d := some 43) (v := .int .u64 y5) rfl (by kernel_rfl) (by kernel_rfl) (by kernel_rfl) (by kernel_rfl) rfl (fun _ _ _ h => h) (Or.inl ⟨by rfl, ?_⟩) HC0 ?_
          · rintro u ⟨z0, z1, z2, z3, z4, z5, z6, z7⟩
            go_simp
          simp only [Act.put, List.setIfInBounds_toArray, List.set_cons_zero, List.set_cons_succ]
          refine wpHl.tk (i := 13) (d := some 45) (v := .agg #[.int .i8 k, .int .u64 n1, .bool g, .slice mo ml mc, .int .u64 b, .int .i8 e, .string s, .slice ko kl kc]) rfl (by kernel_rfl) (by kernel_rfl) (by kernel_rfl) (by kernel_rfl) rfl (fun _ _ _ h => h) (Or.inl ⟨by rfl, ?_⟩) HC0 ?_
          · rintro u ⟨z0, z1, z2, z3, z4, z5, z6, z7⟩
            go_simp
          simp only [Act.put, List.setIfInBounds_toArray, List.set_cons_zero, List.set_cons_succ]
          refine wpHl.one (i := 12) (by kernel_rfl) rfl (fun K1 hK1 => ?_)
          rw [if_pos (by rfl)]
          go_simp
          go_at_call 34
          with_reducible refine (HR.out _ (HK5.out.trans (K.mono HK5.out.size))).mono ?_
          rintro x w8 ⟨v8, rfl, hR8, hb8⟩
          replace K := K.trans (hb8.mono K.size)
          clear HC0
          have HC0 := CC _ K
          refine hK1 _ _ ⟨fun _ => HC0, ?_⟩
          clear hK1 K1
          try simp only [Act.put, List.setIfInBounds_toArray, List.set_cons_zero, List.set_cons_succ]
          refine wpHl.one (i := 14) (by kernel_rfl) rfl (fun K1 hK1 => ?_)
          rw [if_pos (by rfl)]
          go_simp
          go_at_call 16
          with_reducible refine (HS.out _ _ K hR8).mono ?_
          rintro x w9 ⟨rfl, hb9⟩
          replace K := K.trans (hb9.mono K.size)
          clear HC0
          have HC0 := CC _ K
          refine hK1 _ _ ⟨fun _ => HC0, ?_⟩
          clear hK1 K1
          try simp only [Act.put, List.setIfInBounds_toArray, List.set_cons_zero, List.set_cons_succ]
          refine wpHl.tk (i := 15) (d := some 47) (v := .bool false) rfl (by kernel_rfl) (by kernel_rfl) (by kernel_rfl) (by kernel_rfl) rfl (fun _ _ _ h => h) (Or.inl ⟨by rfl, ?_⟩) HC0 ?_
          · rintro u ⟨z0, z1, z2, z3, z4, z5, z6, z7⟩
            go_simp
          simp only [Act.put, List.setIfInBounds_toArray, List.set_cons_zero, List.set_cons_succ]
          refine wpHl.tk (i := 16) (d := some 48) (v := .bool false) rfl (by kernel_rfl) (by kernel_rfl) (by kernel_rfl) (by kernel_rfl) rfl (fun _ _ _ h => h) (Or.inl ⟨by rfl, ?_⟩) HC0 ?_
          · rintro u ⟨z0, z1, z2, z3, z4, z5, z6, z7⟩
            go_simp
          simp only [Act.put, List.setIfInBounds_toArray, List.set_cons_zero, List.set_cons_succ]
          refine wpHl.tk (i := 17) (d := some 49) (v := .bool false) rfl (by kernel_rfl) (by kernel_rfl) (by kernel_rfl) (by kernel_rfl) rfl (fun _ _ _ h => h) (Or.inl ⟨by rfl, ?_⟩) HC0 ?_
          · rintro u ⟨z0, z1, z2, z3, z4, z5, z6, z7⟩
            go_simp
          simp only [Act.put, List.setIfInBounds_toArray, List.set_cons_zero, List.set_cons_succ]
          refine wpHl.tk (i := 18) (d := some 50) (v := .int .i64 32) rfl (by kernel_rfl) (by kernel_rfl) (by kernel_rfl) (by kernel_rfl) rfl (fun _ _ _ h => h) (Or.inl ⟨by rfl, ?_⟩) HC0 ?_
          · rintro u ⟨z0, z1, z2, z3, z4, z5, z6, z7⟩
            go_simp
          simp only [Act.put, List.setIfInBounds_toArray, List.set_cons_zero, List.set_cons_succ]
          refine wpHl.tk (i := 19) (d := some 51) (v := .bool true) rfl (by kernel_rfl) (by kernel_rfl) (by kernel_rfl) (by kernel_rfl) rfl (fun _ _ _ h => h) (Or.inl ⟨by rfl, ?_⟩) HC0 ?_
          · rintro u ⟨z0, z1, z2, z3, z4, z5, z6, z7⟩
            go_simp
          simp only [Act.put, List.setIfInBounds_toArray, List.set_cons_zero, List.set_cons_succ]
          refine wpHl.tk (i := 20) (d := some 52) (v := .bool true) rfl (by kernel_rfl) (by kernel_rfl) (by kernel_rfl) (by kernel_rfl) rfl (fun _ _ _ h => h) (Or.inl ⟨by rfl, ?_⟩) HC0 ?_
          · rintro u ⟨z0, z1, z2, z3, z4, z5, z6, z7⟩
            go_simp
          simp only [Act.put, List.setIfInBounds_toArray, List.set_cons_zero, List.set_cons_succ]
          refine wpHl.tk (i := 21) (d := some 53) (v := .int .i64 32) rfl (by kernel_rfl) (by kernel_rfl) (by kernel_rfl) (by kernel_rfl) rfl (fun _ _ _ h => h) (Or.inl ⟨by rfl, ?_⟩) HC0 ?_
          · rintro u ⟨z0, z1, z2, z3, z4, z5, z6, z7⟩
            go_simp
          simp only [Act.put, List.setIfInBounds_toArray, List.set_cons_zero, List.set_cons_succ]
          refine wpHl.tk (i := 22) (d := some 54) (v := .bool false) rfl (by kernel_rfl) (by kernel_rfl) (by kernel_rfl) (by kernel_rfl) rfl (fun _ _ _ h => h) (Or.inl ⟨by rfl, ?_⟩) HC0 ?_
          · rintro u ⟨z0, z1, z2, z3, z4, z5, z6, z7⟩
            go_simp
          simp only [Act.put, List.setIfInBounds_toArray, List.set_cons_zero, List.set_cons_succ]
          refine wpHl.tk (i := 23) (d := some 55) (v := .bool false) rfl (by kernel_rfl) (by kernel_rfl) (by kernel_rfl) (by kernel_rfl) rfl (fun _ _ _ h => h) (Or.inl ⟨by rfl, ?_⟩) HC0 ?_
          · rintro u ⟨z0, z1, z2, z3, z4, z5, z6, z7⟩
            go_simp
          simp only [Act.put, List.setIfInBounds_toArray, List.set_cons_zero, List.set_cons_succ]
          refine wpHl.tk (i := 24) (d := some 56) (v := .bool false) rfl (by kernel_rfl) (by kernel_rfl) (by kernel_rfl) (by kernel_rfl) rfl (fun _ _ _ h => h) (Or.inl ⟨by rfl, ?_⟩) HC0 ?_
          · rintro u ⟨z0, z1, z2, z3, z4, z5, z6, z7⟩
            go_simp
          simp only [Act.put, List.setIfInBounds_toArray, List.set_cons_zero, List.set_cons_succ]
          refine wpHl.tk (i := 25) (d := some 57) (v := undef) rfl (by kernel_rfl) (by kernel_rfl) (by kernel_rfl) (by kernel_rfl) rfl (fun _ _ _ h => h) (Or.inr ⟨by rfl, rfl⟩) HC0 ?_
          simp only [Act.put, List.setIfInBounds_toArray, List.set_cons_zero, List.set_cons_succ]
          refine wpHl.tk (i := 26) (d := some 58) (v := undef) rfl (by kernel_rfl) (by kernel_rfl) (by kernel_rfl) (by kernel_rfl) rfl (fun _ _ _ h => h) (Or.inr ⟨by rfl, rfl⟩) HC0 ?_
          simp only [Act.put, List.setIfInBounds_toArray, List.set_cons_zero, List.set_cons_succ]
          refine wpHl.tk (i := 27) (d := some 59) (v := .bool false) rfl (by kernel_rfl) (by kernel_rfl) (by kernel_rfl) (by kernel_rfl) rfl (fun _ _ _ h => h) (Or.inl ⟨by rfl, ?_⟩) HC0 ?_
          · rintro u ⟨z0, z1, z2, z3, z4, z5, z6, z7⟩
            go_simp
          simp only [Act.put, List.setIfInBounds_toArray, List.set_cons_zero, List.set_cons_succ]
          refine wpHl.tk (i := 28) (d := some 60) (v := .bool false) rfl (by kernel_rfl) (by kernel_rfl) (by kernel_rfl) (by kernel_rfl) rfl (fun _ _ _ h => h) (Or.inl ⟨by rfl, ?_⟩) HC0 ?_
          · rintro u ⟨z0, z1, z2, z3, z4, z5, z6, z7⟩
            go_simp
          simp only [Act.put, List.setIfInBounds_toArray, List.set_cons_zero, List.set_cons_succ]
          refine wpHl.done (by kernel_rfl) ?_ _
          have KZ := hide (HK5.out.trans (K.mono HK5.out.size))
          clear CC K HC0
          go_wp2
          go_meet
          case rel => exact ⟨rfl, KZ⟩
        · have HY := hide hy
          clear hy hA
          have HR := hide (fun (W : World) (hW : Below w.heap.size w W) => (read_64 (HL.out.below hW) (HT.out.below hW) y5 y50 y51).mono (R' := fun e' w' => ∃ v, e' = .returned v ∧ NRd w' v 100 z ∧ Below W.heap.size W w') (by rintro e' w' ⟨v, z', h1, h2, h3, h4⟩; obtain rfl := HY.out z' h3; exact ⟨v, h1, h2, h4⟩))
          clear HY
          go_wp2_with fail
          have CC : ∀ u : World, Below w5.heap.size w5 u → u.cell? ⟨w.heap.size, 0, none⟩ = some (.int .i8 k) ∧ u.cell? ⟨w.heap.size, 1, none⟩ = some (.int .u64 n1) ∧ u.cell? ⟨w.heap.size, 2, none⟩ = some (.bool g) ∧ u.cell? ⟨w.heap.size, 3, none⟩ = some (.slice mo ml mc) ∧ u.cell? ⟨w.heap.size, 4, none⟩ = some (.int .u64 b) ∧ u.cell? ⟨w.heap.size, 5, none⟩ = some (.int .i8 e) ∧ u.cell? ⟨w.heap.size, 6, none⟩ = some (.string s) ∧ u.cell? ⟨w.heap.size, 7, none⟩ = some (.slice ko kl kc) := fun u hu => by
            obtain ⟨x0, x1, x2, x3, x4, x5, x6, x7⟩ := HB5.out.below hu HB5.out.lt
            exact ⟨x0, x1, x2, x3, x4, x5, x6, x7⟩
          have K : Below w5.heap.size w5 w5.drew := (Below.refl _ _).drew
          first | go_region_held3 (fun u => u.cell? ⟨w.heap.size, 0, none⟩ = some (.int .i8 k) ∧ u.cell? ⟨w.heap.size, 1, none⟩ = some (.int .u64 n1) ∧ u.cell? ⟨w.heap.size, 2, none⟩ = some (.bool g) ∧ u.cell? ⟨w.heap.size, 3, none⟩ = some (.slice mo ml mc) ∧ u.cell? ⟨w.heap.size, 4, none⟩ = some (.int .u64 b) ∧ u.cell? ⟨w.heap.size, 5, none⟩ = some (.int .i8 e) ∧ u.cell? ⟨w.heap.size, 6, none⟩ = some (.string s) ∧ u.cell? ⟨w.heap.size, 7, none⟩ = some (.slice ko kl kc)) (first | with_reducible exact CC _ K)
            (first
              | (go_at_call 10; (with_reducible refine (HO.out _ (HK5.out.trans (K.mono HK5.out.size))).mono ?_); rintro x w6 ⟨v6, rfl, hR6, hb6⟩; replace K := K.trans (hb6.mono K.size))
              | (go_at_call 34; (with_reducible refine (HR.out _ (HK5.out.trans (K.mono HK5.out.size))).mono ?_); rintro x w8 ⟨v8, rfl, hR8, hb8⟩; replace K := K.trans (hb8.mono K.size))
              | (go_at_call 16; (with_reducible refine (HS.out _ _ K hR8).mono ?_); rintro x w9 ⟨rfl, hb9⟩; replace K := K.trans (hb9.mono K.size))
              | (go_at_call 16; (with_reducible refine (HS.out _ _ K hR6).mono ?_); rintro x w7 ⟨rfl, hb7⟩; replace K := K.trans (hb7.mono K.size))) | fail
          have KZ := hide (HK5.out.trans (K.mono HK5.out.size))
          clear CC K
          go_wp2
          go_meet
          case rel => exact ⟨rfl, KZ⟩
    obtain ⟨rfl, HKc⟩ := hcut
    go_wp2_with fail
    with_reducible refine (nof_64 (HL.out.below HKc.out) (HT.out.below HKc.out) x x0 x1).mono ?_
    rintro e' u1 ⟨v, z, rfl, hN, hz, K1⟩
    have HN := hide hN
    have HZ := hide hz
    have HK1 := hide (HKc.out.trans (K1.mono HKc.out.size))
    obtain ⟨k3, g3, mo3, ml3, mc3, bt3, rfl⟩ := nrd_shape hN
    have hk3 : (∀ n, z = .w n → k3 = 3) ∧ (∀ y, z = .f y → k3 = 4) := by
      refine ⟨?_, ?_⟩
      · rintro n rfl
        obtain ⟨g', m', a', h, -⟩ := hN
        simp only [nvW, Value.agg.injEq, Array.mk.injEq, List.cons.injEq, Value.int.injEq] at h
        exact h.1.2
      · rintro y rfl
        obtain ⟨h, -⟩ := hN
        simp only [nvF, Value.agg.injEq, Array.mk.injEq, List.cons.injEq, Value.int.injEq] at h
        exact h.1.2
    have HK3 := hide hk3
    have B1 := hide (bx8_new u1 (.int .i8 k3) (.int .u64 0) (.bool g3) (.slice mo3 ml3 mc3) (.int .u64 bt3) (.int .i8 0) (.string ⟨#[]⟩) (.slice none 0 0) 32)
    have K2 := bel_new u1 (.cells #[.int .i8 k3, .int .u64 0, .bool g3, .slice mo3 ml3 mc3, .int .u64 bt3, .int .i8 0, .string ⟨#[]⟩, .slice none 0 0] 32)
    have HN2 := hide (HN.out.below K2)
    have HK2 := hide (HK1.out.trans (K2.mono HK1.out.size))
    clear hN hz K1 K2 hk3
    go_upto_region 9 with fail
    generalize u1.alloc (.cells #[.int .i8 k3, .int .u64 0, .bool g3, .slice mo3 ml3 mc3, .int .u64 bt3, .int .i8 0, .string ⟨#[]⟩, .slice none 0 0] 32) = u2 at *
    obtain ⟨b0, b1, b2, b3, b4, b5, b6, b7⟩ := B1.out
    go_wp2_with fail
    with_reducible refine (nbits_any (HL.out.below HK2.out) (HT.out.below HK2.out) (HU.out.below HK2.out) HN2.out (by decide)).mono ?_
    rintro e' u3 ⟨y, ok, rfl, y0, y1, hA, K3⟩
    have HN3 := hide (HN2.out.below K3)
    have HK3' := hide (HK2.out.trans (K3.mono HK2.out.size))
    have HB3 := hide (B1.out.below K3 B1.out.lt)
    obtain ⟨rfl, hc⟩ := bits_of x0 x1 HZ.out hA
    have HC := hide hc
    clear hA K3 b0 b1 b2 b3 b4 b5 b6 b7 hc
    obtain ⟨b0, b1, b2, b3, b4, b5, b6, b7⟩ := HB3.out
    go_wp2_with fail
    with_reducible refine (ncheck_any (HL.out.below HK3'.out) (HT.out.below HK3'.out) (HU.out.below HK3'.out) HN3.out).mono ?_
    rintro e' u4 ⟨rfl, K4⟩
    have HK4' := hide (HK3'.out.trans (K4.mono HK3'.out.size))
    have HB4' := hide (HB3.out.below K4 HB3.out.lt)
    clear K4 b0 b1 b2 b3 b4 b5 b6 b7
    go_wp2_with fail
    with_reducible refine (nnan_any (HL.out.below HK4'.out) x x0 x1).mono ?_
    rintro e' u5 ⟨rfl, K5⟩
    have HK5' := hide (HK4'.out.trans (K5.mono HK4'.out.size))
    have HB5' := hide (HB4'.out.below K5 HB4'.out.lt)
    clear K5
    by_cases hnan : 9218868437227405312 < x % 9223372036854775808
    · rw [decide_eq_true hnan]
      obtain ⟨rfl, hzf⟩ : y = 9221120237041090560 ∧ z = .f 9221120237041090560 := by
        rcases HC.out with ⟨-, h⟩ | ⟨rfl, -⟩ | ⟨-, h1, h2⟩
        · omega
        · omega
        · exact ⟨h1, h2⟩
      obtain rfl := HK3.out.2 _ hzf
      obtain ⟨b0, b1, b2, b3, b4, b5, b6, b7⟩ := HB5'.out
      clear hnan
      go_wp2_with fail
      with_reducible refine (nlives (HL.out.below HK5'.out) (HT.out.below HK5'.out) (HU.out.below HK5'.out)).mono ?_
      rintro e' u6 ⟨rfl, K6⟩
      have HKz := hide (HK5'.out.trans (K6.mono HK5'.out.size))
      clear K6
      go_wp2
      go_ret
      exact ⟨rfl, HKz.out⟩
    · rw [decide_eq_false hnan]
      obtain ⟨hcc, hco⟩ := back_cmp (y := y) (z := z) x0 x1 (by
        rcases HC.out with h | h | ⟨h, -⟩
        · exact .inl h
        · exact .inr h
        · exact absurd h hnan)
      have HCC := hide hcc
      have HCO := hide hco
      clear hcc hco hnan
      go_wp2_with fail
      with_reducible refine (cmp_64 (HL.out.below HK5'.out) x y x0 x1 y0 y1).mono ?_
      rintro e' u6 ⟨rfl, K6⟩
      rw [HCC.out, HCO.out]
      have HK6 := hide (HK5'.out.trans (K6.mono HK5'.out.size))
      have HB6 := hide (HB5'.out.below K6 HB5'.out.lt)
      clear K6
      go_wp2_with fail
      with_reducible refine (int_64 (HL.out.below HK6.out) (HT.out.below HK6.out) x (x % 9223372036854775808) (decide (9223372036854775808 ≤ x)) x0 x1 rfl rfl).mono ?_
      rintro e' u7 ⟨va, n, ok, rfl, hW, hI, K7⟩
      have HE := hide (show (k3 = 3 ∧ ok = true) ∨ (k3 = 4 ∧ ok = false) by
        rcases HZ.out with ⟨n2, h1, h2⟩ | ⟨n2, b2, ok2, h1, -, h2⟩
        · exact .inl ⟨HK3.out.1 _ h2, (hI.unique (Int.emod_nonneg _ (by decide)) h1).2⟩
        · exact .inr ⟨HK3.out.2 _ h2, (hI.unique (Int.emod_nonneg _ (by decide)) h1).2⟩)
      obtain ⟨ng2, ao2, l2, zs2c, rfl, -⟩ := wnum_nrd hW
      have HK7 := hide (HK6.out.trans (K7.mono HK6.out.size))
      have HB7 := hide (HB6.out.below K7 HB6.out.lt)
      have K8 := bel_new u7 (.cells #[.bool ng2, .slice ao2 l2 zs2c] 26)
      have HK8 := hide (HK7.out.trans (K8.mono HK7.out.size))
      have HB8 := hide (HB7.out.below K8 HB7.out.lt)
      clear K7 hI K8
      go_upto_region 16 with fail
      generalize u7.alloc (.cells #[.bool ng2, .slice ao2 l2 zs2c] 26) = u8 at *
      rcases HE.out with ⟨rfl, rfl⟩ | ⟨rfl, rfl⟩
      all_goals
        obtain ⟨b0, b1, b2, b3, b4, b5, b6, b7⟩ := HB8.out
        go_wp2_with fail
        with_reducible refine (nlives (HL.out.below HK8.out) (HT.out.below HK8.out) (HU.out.below HK8.out)).mono ?_
        rintro e' u9 ⟨rfl, K9⟩
        have HKz := hide (HK8.out.trans (K9.mono HK8.out.size))
        clear K9
        go_wp2
        go_ret
        exact ⟨rfl, HKz.out⟩

end Go.Proofs.YtggoobbnibpbkaaGreatDoor
