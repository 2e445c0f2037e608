/- NNonW, NNonWa, NNonW3, NNonW4, NNonZ -/
import Derived.Test.YtbneipinenglgabGreatDoorR21
import Derived.Test.YtbneipinenglgabGreatDoorR12
import Derived.Test.YtbneipinenglgabGreatDoorR22
import Derived.Deep.RegionHeld3
namespace Go.Proofs.YtbneipinenglgabGreatDoor
open Go.RowKit
set_option linter.unusedVariables false

theorem flr_kids {n1 b e : Int} {g : Bool} {ml kl : Nat} {s : ByteArray} (u : Int) (hu : u = 2 ∨ u = 4) (h : (bits .andNot .u8 (flr n1 g ml b e s kl) u == 0) = true) : kl = 0 := by
  unfold flr at h
  rcases hu with rfl | rfl
  · rw [flB_int] at h
    simp at h
    omega
  · rw [flB_flt] at h
    simp at h
    omega

theorem chk_dec3 {w : World} (L : Lays w) (T : Brn w) (U : Uss w) {et : TypeId} {eo : Option Addr} (hE : w.cell? ⟨0, 0, none⟩ = some (.iface et (.pointer eo))) (hEl : 0 < w.heap.size)
    {n1 b e : Int} {g : Bool} {s : ByteArray} {zs : List Int} {mo ko : Option Addr} {ml mc kl kc : Nat} (hm : Reads .u32 w (.slice mo ml mc) zs) (b0 : 0 ≤ b) (b1 : b < 18446744073709551616) :
    (∀ W, Below w.heap.size w W → Calls Tryz.prog 25 #[.agg #[.int .i8 3, .int .u64 n1, .bool g, .slice mo ml mc, .int .u64 b, .int .i8 e, .string s, .slice ko kl kc]] W fun x W' => x = .returned .nilIface ∧ Below W.heap.size W W') ∨
    (∀ W, Below w.heap.size w W → Calls Tryz.prog 25 #[.agg #[.int .i8 3, .int .u64 n1, .bool g, .slice mo ml mc, .int .u64 b, .int .i8 e, .string s, .slice ko kl kc]] W fun x W' => (∃ p, x = .returned (.iface 116 (.pointer (some p)))) ∧ Below W.heap.size W W') := by
  obtain ⟨fb, hfb⟩ : ∃ fb : Bool, ∀ W, Below w.heap.size w W → Calls Tryz.prog 103 #[.agg #[.int .i8 3, .int .u64 n1, .bool g, .slice mo ml mc, .int .u64 b, .int .i8 e, .string s, .slice ko kl kc]] W fun x w' => x = .returned (.bool fb) ∧ Below W.heap.size W w' := ⟨nrmB g zs, fun W hW => fits_b3 fun W' hW' => isnormal_b ((hm.below hW).below hW')⟩
  have M : ∀ W, Below w.heap.size w W → Calls Tryz.prog 70 #[.agg #[.int .i8 3, .int .u64 n1, .bool g, .slice mo ml mc, .int .u64 b, .int .i8 e, .string s, .slice ko kl kc]] W fun x W' => x = .returned (.bool ((bits .andNot .u8 (flr n1 g ml b e s kl) 2 == 0) && fb)) ∧ Below W.heap.size W W' :=
    fun W hW => maybe_b3 (U.below hW) rfl (fun W' hW' => filled_any) (fun W' hW' => hfb W' (hW.trans (hW'.mono hW.size)))
  cases hzo : ((bits .andNot .u8 (flr n1 g ml b e s kl) 2 == 0) && fb)
  · rw [hzo] at M
    exact .inr fun W hW => check_stop ((hW.cell (p := ⟨0, 0, none⟩) hEl).trans hE) (Nat.lt_of_lt_of_le hEl hW.size) fun W' hW' => M W' (hW.trans (hW'.mono hW.size))
  · rw [hzo] at M
    have hkl : kl = 0 := flr_kids 2 (by decide) (Bool.and_eq_true_iff.1 hzo).1
    subst hkl
    exact .inl fun W hW => check_leaf (by decide) (by decide) (by decide) fun W' hW' => M W' (hW.trans (hW'.mono hW.size))

theorem chk_dec4 {w : World} (L : Lays w) (T : Brn w) (U : Uss w) {et : TypeId} {eo : Option Addr} (hE : w.cell? ⟨0, 0, none⟩ = some (.iface et (.pointer eo))) (hEl : 0 < w.heap.size)
    {n1 b e : Int} {g : Bool} {s : ByteArray} {zs : List Int} {mo ko : Option Addr} {ml mc kl kc : Nat} (hm : Reads .u32 w (.slice mo ml mc) zs) (b0 : 0 ≤ b) (b1 : b < 18446744073709551616) :
    (∀ W, Below w.heap.size w W → Calls Tryz.prog 25 #[.agg #[.int .i8 4, .int .u64 n1, .bool g, .slice mo ml mc, .int .u64 b, .int .i8 e, .string s, .slice ko kl kc]] W fun x W' => x = .returned .nilIface ∧ Below W.heap.size W W') ∨
    (∀ W, Below w.heap.size w W → Calls Tryz.prog 25 #[.agg #[.int .i8 4, .int .u64 n1, .bool g, .slice mo ml mc, .int .u64 b, .int .i8 e, .string s, .slice ko kl kc]] W fun x W' => (∃ p, x = .returned (.iface 116 (.pointer (some p)))) ∧ Below W.heap.size W W') := by
  obtain ⟨fb, hfb⟩ : ∃ fb : Bool, ∀ W, Below w.heap.size w W → Calls Tryz.prog 103 #[.agg #[.int .i8 4, .int .u64 n1, .bool g, .slice mo ml mc, .int .u64 b, .int .i8 e, .string s, .slice ko kl kc]] W fun x w' => x = .returned (.bool fb) ∧ Below W.heap.size W w' := by
    obtain ⟨fb, hf⟩ := isfloat_b b b0 b1
    exact ⟨fb, fun W hW => fits_b4 fun W' hW' => hf W' ((L.below hW).below hW') ((T.below hW).below hW')⟩
  have M : ∀ W, Below w.heap.size w W → Calls Tryz.prog 70 #[.agg #[.int .i8 4, .int .u64 n1, .bool g, .slice mo ml mc, .int .u64 b, .int .i8 e, .string s, .slice ko kl kc]] W fun x W' => x = .returned (.bool ((bits .andNot .u8 (flr n1 g ml b e s kl) 4 == 0) && fb)) ∧ Below W.heap.size W W' :=
    fun W hW => maybe_b4 (U.below hW) rfl (fun W' hW' => filled_any) (fun W' hW' => hfb W' (hW.trans (hW'.mono hW.size)))
  cases hzo : ((bits .andNot .u8 (flr n1 g ml b e s kl) 4 == 0) && fb)
  · rw [hzo] at M
    exact .inr fun W hW => check_stop ((hW.cell (p := ⟨0, 0, none⟩) hEl).trans hE) (Nat.lt_of_lt_of_le hEl hW.size) fun W' hW' => M W' (hW.trans (hW'.mono hW.size))
  · rw [hzo] at M
    have hkl : kl = 0 := flr_kids 4 (by decide) (Bool.and_eq_true_iff.1 hzo).1
    subst hkl
    exact .inl fun W hW => check_leaf (by decide) (by decide) (by decide) fun W' hW' => M W' (hW.trans (hW'.mono hW.size))

end Go.Proofs.YtbneipinenglgabGreatDoor

namespace Go.Proofs.YtbneipinenglgabGreatDoor
open Go.RowKit
set_option linter.unusedVariables false

set_option maxHeartbeats 16000000 in
set_option maxRecDepth 20000 in
theorem none15_a {w : World} (L : Lays w) (T : Brn w) (U : Uss w) {et : TypeId} {eo : Option Addr} (hE : w.cell? ⟨0, 0, none⟩ = some (.iface et (.pointer eo))) (hEl : 0 < w.heap.size)
    {n1 b e y : Int} {g : Bool} {s : ByteArray} {zs : List Int} {mo ko : Option Addr} {ml mc kl kc : Nat} {k : Int} (h3 : k ≠ 3) (h4 : k ≠ 4) (hm : Reads .u32 w (.slice mo ml mc) zs) (b0 : 0 ≤ b) (b1 : b < 18446744073709551616) (y0 : 0 ≤ y) (y1 : y < 18446744073709551616)
    (hV : ∀ W bb, Below w.heap.size w W → Bx8 W bb (.int .i8 k) (.int .u64 n1) (.bool g) (.slice mo ml mc) (.int .u64 b) (.int .i8 e) (.string s) (.slice ko kl kc) → Calls Tryz.prog 24 #[.slice (some ⟨bb, 0, none⟩) 1 1] W fun x w' => (∃ q, x = .returned (.bool q)) ∧ Below W.heap.size W w') :
    Calls Tryz.prog 5 #[.agg #[.int .i8 k, .int .u64 n1, .bool g, .slice mo ml mc, .int .u64 b, .int .i8 e, .string s, .slice ko kl kc], .int .u64 y] w fun x w' => x = .returned (.bool true) ∧ Below w.heap.size w w' := by
  have HN := hide (fun (W : World) (hW : Below w.heap.size w W) => (show NoN W (.agg #[.int .i8 k, .int .u64 n1, .bool g, .slice mo ml mc, .int .u64 b, .int .i8 e, .string s, .slice ko kl kc]) from ⟨_, _, _, _, _, _, _, _, _, _, _, _, rfl, .inl ⟨h3, h4⟩⟩))
  have e3 : (k == 3) = false := by simp [h3]
  have e4 : (k == 4) = false := by simp [h4]
  clear h3 h4
  have HL := hide L
  have HT := hide T
  have HU := hide U
  have HV := hide hV
  have H7 := hide (fun (W : World) (hW : Below w.heap.size w W) => nof_64 (L.below hW) (T.below hW) y y0 y1)
  clear L T U hV hm hE
  go_enter Tryz.func5, Tryz.ntmps5
  go_wp2_with fail
  have B1 := bx8_new w (.int .i8 k) (.int .u64 n1) (.bool g) (.slice mo ml mc) (.int .u64 b) (.int .i8 e) (.string s) (.slice ko kl kc) 33
  have K1 := bel_new w (.cells #[.int .i8 k, .int .u64 n1, .bool g, .slice mo ml mc, .int .u64 b, .int .i8 e, .string s, .slice ko kl kc] 33)
  have hz1 : w.heap.size + 1 = (w.alloc (.cells #[.int .i8 k, .int .u64 n1, .bool g, .slice mo ml mc, .int .u64 b, .int .i8 e, .string s, .slice ko kl kc] 33)).heap.size := by simp
  generalize w.alloc (.cells #[.int .i8 k, .int .u64 n1, .bool g, .slice mo ml mc, .int .u64 b, .int .i8 e, .string s, .slice ko kl kc] 33) = w1 at *
  have B2 := bx8_new w1 (.int .i8 k) (.int .u64 n1) (.bool g) (.slice mo ml mc) (.int .u64 b) (.int .i8 e) (.string s) (.slice ko kl kc) 33
  have K2 := bel_new w1 (.cells #[.int .i8 k, .int .u64 n1, .bool g, .slice mo ml mc, .int .u64 b, .int .i8 e, .string s, .slice ko kl kc] 33)
  rw [← hz1] at B2
  have HB2 := hide (B1.below K2 B1.lt)
  have HK2 := hide (below_trans K1 K2)
  generalize w1.alloc (.cells #[.int .i8 k, .int .u64 n1, .bool g, .slice mo ml mc, .int .u64 b, .int .i8 e, .string s, .slice ko kl kc] 33) = w2 at *
  with_reducible refine (HV.out _ _ HK2.out B2).mono ?_
  rintro x w3 ⟨⟨q, rfl⟩, K3⟩
  have HB := hide (HB2.out.below K3 HB2.out.lt)
  have HK := hide (HK2.out.trans (K3.mono HK2.out.size))
  clear B1 B2 K1 K2 hz1 K3
  cases q
  case true =>
    go_wp2
    go_ret
    exact ⟨rfl, HK.out⟩
  case false =>
    have H8 := hide (fun (W : World) (v' : Value) (z : NZ) (hW : Below w.heap.size w W) (g' : NRd W v' 100 z) => cmp_nl (HL.out.below hW) (HT.out.below hW) (HU.out.below hW) (HN.out W hW) g')
    have H9 := hide (fun (W : World) (v' : Value) (z : NZ) (hW : Below w.heap.size w W) (g' : NRd W v' 100 z) => cmp_nr (HL.out.below hW) (HT.out.below hW) (HU.out.below hW) g' (HN.out W hW))
    obtain ⟨c0, c1, c2, c3, c4, c5, c6, c7⟩ := HB.out
    go_wp2_with fail
    with_reducible refine (bits_none (HN.out _ HK.out)).mono ?_
    rintro x w5 ⟨rfl, K5⟩
    obtain ⟨d0, d1, d2, d3, d4, d5, d6, d7⟩ := HB.out.below K5 HB.out.lt
    have HB5 := hide (HB.out.below K5 HB.out.lt)
    have HK5 := hide (HK.out.trans (K5.mono HK.out.size))
    clear K5 c0 c1 c2 c3 c4 c5 c6 c7
    go_wp2_with fail
    with_reducible refine (narrow_none (HN.out _ HK5.out)).mono ?_
    rintro x w6 ⟨rfl, K6⟩
    have HB6 := hide (HB5.out.below K6 HB5.out.lt)
    have HK6 := hide (HK5.out.trans (K6.mono HK5.out.size))
    clear K6 d0 d1 d2 d3 d4 d5 d6 d7
    go_wp2_with fail
    have CC : ∀ u : World, Below w6.heap.size w6 u → u.cell? ⟨w.heap.size, 0, none⟩ = some (.int .i8 k) ∧ u.cell? ⟨w.heap.size, 1, none⟩ = some (.int .u64 n1) ∧ u.cell? ⟨w.heap.size, 2, none⟩ = some (.bool g) ∧ u.cell? ⟨w.heap.size, 3, none⟩ = some (.slice mo ml mc) ∧ u.cell? ⟨w.heap.size, 4, none⟩ = some (.int .u64 b) ∧ u.cell? ⟨w.heap.size, 5, none⟩ = some (.int .i8 e) ∧ u.cell? ⟨w.heap.size, 6, none⟩ = some (.string s) ∧ u.cell? ⟨w.heap.size, 7, none⟩ = some (.slice ko kl kc) := fun u hu => by
      obtain ⟨x0, x1, x2, x3, x4, x5, x6, x7⟩ := HB6.out.below hu HB6.out.lt
      exact ⟨x0, x1, x2, x3, x4, x5, x6, x7⟩
    have K : Below w6.heap.size w6 w6.drew := (Below.refl _ _).drew
    go_region_held3 (fun u => u.cell? ⟨w.heap.size, 0, none⟩ = some (.int .i8 k) ∧ u.cell? ⟨w.heap.size, 1, none⟩ = some (.int .u64 n1) ∧ u.cell? ⟨w.heap.size, 2, none⟩ = some (.bool g) ∧ u.cell? ⟨w.heap.size, 3, none⟩ = some (.slice mo ml mc) ∧ u.cell? ⟨w.heap.size, 4, none⟩ = some (.int .u64 b) ∧ u.cell? ⟨w.heap.size, 5, none⟩ = some (.int .i8 e) ∧ u.cell? ⟨w.heap.size, 6, none⟩ = some (.string s) ∧ u.cell? ⟨w.heap.size, 7, none⟩ = some (.slice ko kl kc)) (first | with_reducible exact CC _ K)
      (first
        | (go_at_call 7; (with_reducible refine (H7.out _ (HK6.out.trans (K.mono HK6.out.size))).mono ?_); rintro x w7 ⟨v7, z7, rfl, hR7, -, hb7⟩; replace K := K.trans (hb7.mono K.size))
        | (go_at_call 15; (with_reducible refine (H8.out _ _ _ (HK6.out.trans (K.mono HK6.out.size)) hR7).mono ?_); rintro x w8 ⟨rfl, hb8⟩; replace K := K.trans (hb8.mono K.size)))
    have HK8 := hide (HK6.out.trans (K.mono HK6.out.size))
    have HB8 := hide (HB6.out.below K HB6.out.lt)
    clear K CC hR7 hb7 hb8
    go_wp2_with fail
    have CC : ∀ u : World, Below w8.heap.size w8 u → u.cell? ⟨w.heap.size, 0, none⟩ = some (.int .i8 k) ∧ u.cell? ⟨w.heap.size, 1, none⟩ = some (.int .u64 n1) ∧ u.cell? ⟨w.heap.size, 2, none⟩ = some (.bool g) ∧ u.cell? ⟨w.heap.size, 3, none⟩ = some (.slice mo ml mc) ∧ u.cell? ⟨w.heap.size, 4, none⟩ = some (.int .u64 b) ∧ u.cell? ⟨w.heap.size, 5, none⟩ = some (.int .i8 e) ∧ u.cell? ⟨w.heap.size, 6, none⟩ = some (.string s) ∧ u.cell? ⟨w.heap.size, 7, none⟩ = some (.slice ko kl kc) := fun u hu => by
      obtain ⟨x0, x1, x2, x3, x4, x5, x6, x7⟩ := HB8.out.below hu HB8.out.lt
      exact ⟨x0, x1, x2, x3, x4, x5, x6, x7⟩
    have K : Below w8.heap.size w8 w8.drew := (Below.refl _ _).drew
    go_region_held3 (fun u => u.cell? ⟨w.heap.size, 0, none⟩ = some (.int .i8 k) ∧ u.cell? ⟨w.heap.size, 1, none⟩ = some (.int .u64 n1) ∧ u.cell? ⟨w.heap.size, 2, none⟩ = some (.bool g) ∧ u.cell? ⟨w.heap.size, 3, none⟩ = some (.slice mo ml mc) ∧ u.cell? ⟨w.heap.size, 4, none⟩ = some (.int .u64 b) ∧ u.cell? ⟨w.heap.size, 5, none⟩ = some (.int .i8 e) ∧ u.cell? ⟨w.heap.size, 6, none⟩ = some (.string s) ∧ u.cell? ⟨w.heap.size, 7, none⟩ = some (.slice ko kl kc)) (first | with_reducible exact CC _ K)
      (first
        | (go_at_call 7; (with_reducible refine (H7.out _ (HK8.out.trans (K.mono HK8.out.size))).mono ?_); rintro x w9 ⟨v9, z9, rfl, hR9, -, hb9⟩; replace K := K.trans (hb9.mono K.size))
        | (go_at_call 15; (with_reducible refine (H9.out _ _ _ (HK8.out.trans (K.mono HK8.out.size)) hR9).mono ?_); rintro x w10 ⟨rfl, hb10⟩; replace K := K.trans (hb10.mono K.size)))
    have HK10 := hide (HK8.out.trans (K.mono HK8.out.size))
    clear K CC hR9 hb9 hb10
    go_wp2_with fail
    with_reducible refine (nlives (HL.out.below HK10.out) (HT.out.below HK10.out) (HU.out.below HK10.out)).mono ?_
    rintro x w11 ⟨rfl, K11⟩
    have HKz := hide (HK10.out.trans (K11.mono HK10.out.size))
    clear K11
    go_wp2
    go_ret
    exact ⟨rfl, HKz.out⟩

end Go.Proofs.YtbneipinenglgabGreatDoor

namespace Go.Proofs.YtbneipinenglgabGreatDoor
open Go.RowKit
set_option linter.unusedVariables false

set_option maxHeartbeats 16000000 in
set_option maxRecDepth 20000 in
theorem none15_3 {w : World} (L : Lays w) (T : Brn w) (U : Uss w) {et : TypeId} {eo : Option Addr} (hE : w.cell? ⟨0, 0, none⟩ = some (.iface et (.pointer eo))) (hEl : 0 < w.heap.size)
    {n1 b e y : Int} {g : Bool} {s : ByteArray} {zs : List Int} {mo ko : Option Addr} {ml mc kl kc : Nat}  (hm : Reads .u32 w (.slice mo ml mc) zs) (b0 : 0 ≤ b) (b1 : b < 18446744073709551616) (y0 : 0 ≤ y) (y1 : y < 18446744073709551616)
    (hV : ∀ W bb, Below w.heap.size w W → Bx8 W bb (.int .i8 3) (.int .u64 n1) (.bool g) (.slice mo ml mc) (.int .u64 b) (.int .i8 e) (.string s) (.slice ko kl kc) → Calls Tryz.prog 24 #[.slice (some ⟨bb, 0, none⟩) 1 1] W fun x w' => (∃ q, x = .returned (.bool q)) ∧ Below W.heap.size W w') :
    Calls Tryz.prog 5 #[.agg #[.int .i8 3, .int .u64 n1, .bool g, .slice mo ml mc, .int .u64 b, .int .i8 e, .string s, .slice ko kl kc], .int .u64 y] w fun x w' => x = .returned (.bool true) ∧ Below w.heap.size w w' := by
  have HD := hide (chk_dec3 (n1 := n1) (e := e) (g := g) (s := s) (ko := ko) (kl := kl) (kc := kc) L T U hE hEl hm b0 b1)
  have HL := hide L
  have HT := hide T
  have HU := hide U
  have HV := hide hV
  have H7 := hide (fun (W : World) (hW : Below w.heap.size w W) => nof_64 (L.below hW) (T.below hW) y y0 y1)
  clear L T U hV hm hE
  go_enter Tryz.func5, Tryz.ntmps5
  go_wp2_with fail
  have B1 := bx8_new w (.int .i8 3) (.int .u64 n1) (.bool g) (.slice mo ml mc) (.int .u64 b) (.int .i8 e) (.string s) (.slice ko kl kc) 33
  have K1 := bel_new w (.cells #[.int .i8 3, .int .u64 n1, .bool g, .slice mo ml mc, .int .u64 b, .int .i8 e, .string s, .slice ko kl kc] 33)
  have hz1 : w.heap.size + 1 = (w.alloc (.cells #[.int .i8 3, .int .u64 n1, .bool g, .slice mo ml mc, .int .u64 b, .int .i8 e, .string s, .slice ko kl kc] 33)).heap.size := by simp
  generalize w.alloc (.cells #[.int .i8 3, .int .u64 n1, .bool g, .slice mo ml mc, .int .u64 b, .int .i8 e, .string s, .slice ko kl kc] 33) = w1 at *
  have B2 := bx8_new w1 (.int .i8 3) (.int .u64 n1) (.bool g) (.slice mo ml mc) (.int .u64 b) (.int .i8 e) (.string s) (.slice ko kl kc) 33
  have K2 := bel_new w1 (.cells #[.int .i8 3, .int .u64 n1, .bool g, .slice mo ml mc, .int .u64 b, .int .i8 e, .string s, .slice ko kl kc] 33)
  rw [← hz1] at B2
  have HB2 := hide (B1.below K2 B1.lt)
  have HK2 := hide (below_trans K1 K2)
  generalize w1.alloc (.cells #[.int .i8 3, .int .u64 n1, .bool g, .slice mo ml mc, .int .u64 b, .int .i8 e, .string s, .slice ko kl kc] 33) = w2 at *
  with_reducible refine (HV.out _ _ HK2.out B2).mono ?_
  rintro x w3 ⟨⟨q, rfl⟩, K3⟩
  have HB := hide (HB2.out.below K3 HB2.out.lt)
  have HK := hide (HK2.out.trans (K3.mono HK2.out.size))
  clear B1 B2 K1 K2 hz1 K3
  cases q
  case true =>
    go_wp2
    go_ret
    exact ⟨rfl, HK.out⟩
  case false =>
    rcases HD.out with hc | hc
    · have HC := hide hc
      clear hc HD
      obtain ⟨c0, c1, c2, c3, c4, c5, c6, c7⟩ := HB.out
      go_wp2_with fail
      with_reducible refine (HC.out _ HK.out).mono ?_
      rintro x w4 ⟨rfl, K4⟩
      have HK4 := hide (HK.out.trans (K4.mono HK.out.size))
      clear K4 c0 c1 c2 c3 c4 c5 c6 c7
      go_wp2_with fail
      with_reducible refine (nlives (HL.out.below HK4.out) (HT.out.below HK4.out) (HU.out.below HK4.out)).mono ?_
      rintro x w5 ⟨rfl, K5⟩
      have HKz := hide (HK4.out.trans (K5.mono HK4.out.size))
      clear K5
      go_wp2
      go_ret
      exact ⟨rfl, HKz.out⟩
    · have HC := hide hc
      have HN := hide (fun (W : World) (hW : Below w.heap.size w W) => (show NoN W (.agg #[.int .i8 3, .int .u64 n1, .bool g, .slice mo ml mc, .int .u64 b, .int .i8 e, .string s, .slice ko kl kc]) from ⟨_, _, _, _, _, _, _, _, _, _, _, _, rfl, .inr ⟨by decide, fun W' hW' => hc W' (hW.trans (hW'.mono hW.size))⟩⟩))
      clear hc HD
      have H8 := hide (fun (W : World) (v' : Value) (z : NZ) (hW : Below w.heap.size w W) (g' : NRd W v' 100 z) => cmp_nl (HL.out.below hW) (HT.out.below hW) (HU.out.below hW) (HN.out W hW) g')
      have H9 := hide (fun (W : World) (v' : Value) (z : NZ) (hW : Below w.heap.size w W) (g' : NRd W v' 100 z) => cmp_nr (HL.out.below hW) (HT.out.below hW) (HU.out.below hW) g' (HN.out W hW))
      obtain ⟨c0, c1, c2, c3, c4, c5, c6, c7⟩ := HB.out
      go_wp2_with fail
      with_reducible refine (HC.out _ HK.out).mono ?_
      rintro x w4 ⟨⟨p4, rfl⟩, K4⟩
      replace HB := hide (HB.out.below K4 HB.out.lt)
      replace HK := hide (HK.out.trans (K4.mono HK.out.size))
      clear K4 c0 c1 c2 c3 c4 c5 c6 c7
      obtain ⟨c0, c1, c2, c3, c4, c5, c6, c7⟩ := HB.out
      go_wp2_with fail
      with_reducible refine (bits_none (HN.out _ HK.out)).mono ?_
      rintro x w5 ⟨rfl, K5⟩
      obtain ⟨d0, d1, d2, d3, d4, d5, d6, d7⟩ := HB.out.below K5 HB.out.lt
      have HB5 := hide (HB.out.below K5 HB.out.lt)
      have HK5 := hide (HK.out.trans (K5.mono HK.out.size))
      clear K5 c0 c1 c2 c3 c4 c5 c6 c7
      go_wp2_with fail
      with_reducible refine (narrow_none (HN.out _ HK5.out)).mono ?_
      rintro x w6 ⟨rfl, K6⟩
      have HB6 := hide (HB5.out.below K6 HB5.out.lt)
      have HK6 := hide (HK5.out.trans (K6.mono HK5.out.size))
      clear K6 d0 d1 d2 d3 d4 d5 d6 d7
      go_wp2_with fail
      have CC : ∀ u : World, Below w6.heap.size w6 u → u.cell? ⟨w.heap.size, 0, none⟩ = some (.int .i8 3) ∧ u.cell? ⟨w.heap.size, 1, none⟩ = some (.int .u64 n1) ∧ u.cell? ⟨w.heap.size, 2, none⟩ = some (.bool g) ∧ u.cell? ⟨w.heap.size, 3, none⟩ = some (.slice mo ml mc) ∧ u.cell? ⟨w.heap.size, 4, none⟩ = some (.int .u64 b) ∧ u.cell? ⟨w.heap.size, 5, none⟩ = some (.int .i8 e) ∧ u.cell? ⟨w.heap.size, 6, none⟩ = some (.string s) ∧ u.cell? ⟨w.heap.size, 7, none⟩ = some (.slice ko kl kc) := fun u hu => by
        obtain ⟨x0, x1, x2, x3, x4, x5, x6, x7⟩ := HB6.out.below hu HB6.out.lt
        exact ⟨x0, x1, x2, x3, x4, x5, x6, x7⟩
      have K : Below w6.heap.size w6 w6.drew := (Below.refl _ _).drew
      go_region_held3 (fun u => u.cell? ⟨w.heap.size, 0, none⟩ = some (.int .i8 3) ∧ u.cell? ⟨w.heap.size, 1, none⟩ = some (.int .u64 n1) ∧ u.cell? ⟨w.heap.size, 2, none⟩ = some (.bool g) ∧ u.cell? ⟨w.heap.size, 3, none⟩ = some (.slice mo ml mc) ∧ u.cell? ⟨w.heap.size, 4, none⟩ = some (.int .u64 b) ∧ u.cell? ⟨w.heap.size, 5, none⟩ = some (.int .i8 e) ∧ u.cell? ⟨w.heap.size, 6, none⟩ = some (.string s) ∧ u.cell? ⟨w.heap.size, 7, none⟩ = some (.slice ko kl kc)) (first | with_reducible exact CC _ K)
        (first
          | (go_at_call 7; (with_reducible refine (H7.out _ (HK6.out.trans (K.mono HK6.out.size))).mono ?_); rintro x w7 ⟨v7, z7, rfl, hR7, -, hb7⟩; replace K := K.trans (hb7.mono K.size))
          | (go_at_call 15; (with_reducible refine (H8.out _ _ _ (HK6.out.trans (K.mono HK6.out.size)) hR7).mono ?_); rintro x w8 ⟨rfl, hb8⟩; replace K := K.trans (hb8.mono K.size)))
      have HK8 := hide (HK6.out.trans (K.mono HK6.out.size))
      have HB8 := hide (HB6.out.below K HB6.out.lt)
      clear K CC hR7 hb7 hb8
      go_wp2_with fail
      have CC : ∀ u : World, Below w8.heap.size w8 u → u.cell? ⟨w.heap.size, 0, none⟩ = some (.int .i8 3) ∧ u.cell? ⟨w.heap.size, 1, none⟩ = some (.int .u64 n1) ∧ u.cell? ⟨w.heap.size, 2, none⟩ = some (.bool g) ∧ u.cell? ⟨w.heap.size, 3, none⟩ = some (.slice mo ml mc) ∧ u.cell? ⟨w.heap.size, 4, none⟩ = some (.int .u64 b) ∧ u.cell? ⟨w.heap.size, 5, none⟩ = some (.int .i8 e) ∧ u.cell? ⟨w.heap.size, 6, none⟩ = some (.string s) ∧ u.cell? ⟨w.heap.size, 7, none⟩ = some (.slice ko kl kc) := fun u hu => by
        obtain ⟨x0, x1, x2, x3, x4, x5, x6, x7⟩ := HB8.out.below hu HB8.out.lt
        exact ⟨x0, x1, x2, x3, x4, x5, x6, x7⟩
      have K : Below w8.heap.size w8 w8.drew := (Below.refl _ _).drew
      go_region_held3 (fun u => u.cell? ⟨w.heap.size, 0, none⟩ = some (.int .i8 3) ∧ u.cell? ⟨w.heap.size, 1, none⟩ = some (.int .u64 n1) ∧ u.cell? ⟨w.heap.size, 2, none⟩ = some (.bool g) ∧ u.cell? ⟨w.heap.size, 3, none⟩ = some (.slice mo ml mc) ∧ u.cell? ⟨w.heap.size, 4, none⟩ = some (.int .u64 b) ∧ u.cell? ⟨w.heap.size, 5, none⟩ = some (.int .i8 e) ∧ u.cell? ⟨w.heap.size, 6, none⟩ = some (.string s) ∧ u.cell? ⟨w.heap.size, 7, none⟩ = some (.slice ko kl kc)) (first | with_reducible exact CC _ K)
        (first
          | (go_at_call 7; (with_reducible refine (H7.out _ (HK8.out.trans (K.mono HK8.out.size))).mono ?_); rintro x w9 ⟨v9, z9, rfl, hR9, -, hb9⟩; replace K := K.trans (hb9.mono K.size))
          | (go_at_call 15; (with_reducible refine (H9.out _ _ _ (HK8.out.trans (K.mono HK8.out.size)) hR9).mono ?_); rintro x w10 ⟨rfl, hb10⟩; replace K := K.trans (hb10.mono K.size)))
      have HK10 := hide (HK8.out.trans (K.mono HK8.out.size))
      clear K CC hR9 hb9 hb10
      go_wp2_with fail
      with_reducible refine (nlives (HL.out.below HK10.out) (HT.out.below HK10.out) (HU.out.below HK10.out)).mono ?_
      rintro x w11 ⟨rfl, K11⟩
      have HKz := hide (HK10.out.trans (K11.mono HK10.out.size))
      clear K11
      go_wp2
      go_ret
      exact ⟨rfl, HKz.out⟩

end Go.Proofs.YtbneipinenglgabGreatDoor

namespace Go.Proofs.YtbneipinenglgabGreatDoor
open Go.RowKit
set_option linter.unusedVariables false

set_option maxHeartbeats 16000000 in
set_option maxRecDepth 20000 in
theorem none15_4 {w : World} (L : Lays w) (T : Brn w) (U : Uss w) {et : TypeId} {eo : Option Addr} (hE : w.cell? ⟨0, 0, none⟩ = some (.iface et (.pointer eo))) (hEl : 0 < w.heap.size)
    {n1 b e y : Int} {g : Bool} {s : ByteArray} {zs : List Int} {mo ko : Option Addr} {ml mc kl kc : Nat}  (hm : Reads .u32 w (.slice mo ml mc) zs) (b0 : 0 ≤ b) (b1 : b < 18446744073709551616) (y0 : 0 ≤ y) (y1 : y < 18446744073709551616)
    (hV : ∀ W bb, Below w.heap.size w W → Bx8 W bb (.int .i8 4) (.int .u64 n1) (.bool g) (.slice mo ml mc) (.int .u64 b) (.int .i8 e) (.string s) (.slice ko kl kc) → Calls Tryz.prog 24 #[.slice (some ⟨bb, 0, none⟩) 1 1] W fun x w' => (∃ q, x = .returned (.bool q)) ∧ Below W.heap.size W w') :
    Calls Tryz.prog 5 #[.agg #[.int .i8 4, .int .u64 n1, .bool g, .slice mo ml mc, .int .u64 b, .int .i8 e, .string s, .slice ko kl kc], .int .u64 y] w fun x w' => x = .returned (.bool true) ∧ Below w.heap.size w w' := by
  have HD := hide (chk_dec4 (n1 := n1) (e := e) (g := g) (s := s) (ko := ko) (kl := kl) (kc := kc) L T U hE hEl hm b0 b1)
  have HL := hide L
  have HT := hide T
  have HU := hide U
  have HV := hide hV
  have H7 := hide (fun (W : World) (hW : Below w.heap.size w W) => nof_64 (L.below hW) (T.below hW) y y0 y1)
  clear L T U hV hm hE
  go_enter Tryz.func5, Tryz.ntmps5
  go_wp2_with fail
  have B1 := bx8_new w (.int .i8 4) (.int .u64 n1) (.bool g) (.slice mo ml mc) (.int .u64 b) (.int .i8 e) (.string s) (.slice ko kl kc) 33
  have K1 := bel_new w (.cells #[.int .i8 4, .int .u64 n1, .bool g, .slice mo ml mc, .int .u64 b, .int .i8 e, .string s, .slice ko kl kc] 33)
  have hz1 : w.heap.size + 1 = (w.alloc (.cells #[.int .i8 4, .int .u64 n1, .bool g, .slice mo ml mc, .int .u64 b, .int .i8 e, .string s, .slice ko kl kc] 33)).heap.size := by simp
  generalize w.alloc (.cells #[.int .i8 4, .int .u64 n1, .bool g, .slice mo ml mc, .int .u64 b, .int .i8 e, .string s, .slice ko kl kc] 33) = w1 at *
  have B2 := bx8_new w1 (.int .i8 4) (.int .u64 n1) (.bool g) (.slice mo ml mc) (.int .u64 b) (.int .i8 e) (.string s) (.slice ko kl kc) 33
  have K2 := bel_new w1 (.cells #[.int .i8 4, .int .u64 n1, .bool g, .slice mo ml mc, .int .u64 b, .int .i8 e, .string s, .slice ko kl kc] 33)
  rw [← hz1] at B2
  have HB2 := hide (B1.below K2 B1.lt)
  have HK2 := hide (below_trans K1 K2)
  generalize w1.alloc (.cells #[.int .i8 4, .int .u64 n1, .bool g, .slice mo ml mc, .int .u64 b, .int .i8 e, .string s, .slice ko kl kc] 33) = w2 at *
  with_reducible refine (HV.out _ _ HK2.out B2).mono ?_
  rintro x w3 ⟨⟨q, rfl⟩, K3⟩
  have HB := hide (HB2.out.below K3 HB2.out.lt)
  have HK := hide (HK2.out.trans (K3.mono HK2.out.size))
  clear B1 B2 K1 K2 hz1 K3
  cases q
  case true =>
    go_wp2
    go_ret
    exact ⟨rfl, HK.out⟩
  case false =>
    rcases HD.out with hc | hc
    · have HC := hide hc
      clear hc HD
      obtain ⟨c0, c1, c2, c3, c4, c5, c6, c7⟩ := HB.out
      go_wp2_with fail
      with_reducible refine (HC.out _ HK.out).mono ?_
      rintro x w4 ⟨rfl, K4⟩
      have HK4 := hide (HK.out.trans (K4.mono HK.out.size))
      clear K4 c0 c1 c2 c3 c4 c5 c6 c7
      go_wp2_with fail
      with_reducible refine (nlives (HL.out.below HK4.out) (HT.out.below HK4.out) (HU.out.below HK4.out)).mono ?_
      rintro x w5 ⟨rfl, K5⟩
      have HKz := hide (HK4.out.trans (K5.mono HK4.out.size))
      clear K5
      go_wp2
      go_ret
      exact ⟨rfl, HKz.out⟩
    · have HC := hide hc
      have HN := hide (fun (W : World) (hW : Below w.heap.size w W) => (show NoN W (.agg #[.int .i8 4, .int .u64 n1, .bool g, .slice mo ml mc, .int .u64 b, .int .i8 e, .string s, .slice ko kl kc]) from ⟨_, _, _, _, _, _, _, _, _, _, _, _, rfl, .inr ⟨by decide, fun W' hW' => hc W' (hW.trans (hW'.mono hW.size))⟩⟩))
      clear hc HD
      have H8 := hide (fun (W : World) (v' : Value) (z : NZ) (hW : Below w.heap.size w W) (g' : NRd W v' 100 z) => cmp_nl (HL.out.below hW) (HT.out.below hW) (HU.out.below hW) (HN.out W hW) g')
      have H9 := hide (fun (W : World) (v' : Value) (z : NZ) (hW : Below w.heap.size w W) (g' : NRd W v' 100 z) => cmp_nr (HL.out.below hW) (HT.out.below hW) (HU.out.below hW) g' (HN.out W hW))
      obtain ⟨c0, c1, c2, c3, c4, c5, c6, c7⟩ := HB.out
      go_wp2_with fail
      with_reducible refine (HC.out _ HK.out).mono ?_
      rintro x w4 ⟨⟨p4, rfl⟩, K4⟩
      replace HB := hide (HB.out.below K4 HB.out.lt)
      replace HK := hide (HK.out.trans (K4.mono HK.out.size))
      clear K4 c0 c1 c2 c3 c4 c5 c6 c7
      obtain ⟨c0, c1, c2, c3, c4, c5, c6, c7⟩ := HB.out
      go_wp2_with fail
      with_reducible refine (bits_none (HN.out _ HK.out)).mono ?_
      rintro x w5 ⟨rfl, K5⟩
      obtain ⟨d0, d1, d2, d3, d4, d5, d6, d7⟩ := HB.out.below K5 HB.out.lt
      have HB5 := hide (HB.out.below K5 HB.out.lt)
      have HK5 := hide (HK.out.trans (K5.mono HK.out.size))
      clear K5 c0 c1 c2 c3 c4 c5 c6 c7
      go_wp2_with fail
      with_reducible refine (narrow_none (HN.out _ HK5.out)).mono ?_
      rintro x w6 ⟨rfl, K6⟩
      have HB6 := hide (HB5.out.below K6 HB5.out.lt)
      have HK6 := hide (HK5.out.trans (K6.mono HK5.out.size))
      clear K6 d0 d1 d2 d3 d4 d5 d6 d7
      go_wp2_with fail
      have CC : ∀ u : World, Below w6.heap.size w6 u → u.cell? ⟨w.heap.size, 0, none⟩ = some (.int .i8 4) ∧ u.cell? ⟨w.heap.size, 1, none⟩ = some (.int .u64 n1) ∧ u.cell? ⟨w.heap.size, 2, none⟩ = some (.bool g) ∧ u.cell? ⟨w.heap.size, 3, none⟩ = some (.slice mo ml mc) ∧ u.cell? ⟨w.heap.size, 4, none⟩ = some (.int .u64 b) ∧ u.cell? ⟨w.heap.size, 5, none⟩ = some (.int .i8 e) ∧ u.cell? ⟨w.heap.size, 6, none⟩ = some (.string s) ∧ u.cell? ⟨w.heap.size, 7, none⟩ = some (.slice ko kl kc) := fun u hu => by
        obtain ⟨x0, x1, x2, x3, x4, x5, x6, x7⟩ := HB6.out.below hu HB6.out.lt
        exact ⟨x0, x1, x2, x3, x4, x5, x6, x7⟩
      have K : Below w6.heap.size w6 w6.drew := (Below.refl _ _).drew
      go_region_held3 (fun u => u.cell? ⟨w.heap.size, 0, none⟩ = some (.int .i8 4) ∧ u.cell? ⟨w.heap.size, 1, none⟩ = some (.int .u64 n1) ∧ u.cell? ⟨w.heap.size, 2, none⟩ = some (.bool g) ∧ u.cell? ⟨w.heap.size, 3, none⟩ = some (.slice mo ml mc) ∧ u.cell? ⟨w.heap.size, 4, none⟩ = some (.int .u64 b) ∧ u.cell? ⟨w.heap.size, 5, none⟩ = some (.int .i8 e) ∧ u.cell? ⟨w.heap.size, 6, none⟩ = some (.string s) ∧ u.cell? ⟨w.heap.size, 7, none⟩ = some (.slice ko kl kc)) (first | with_reducible exact CC _ K)
        (first
          | (go_at_call 7; (with_reducible refine (H7.out _ (HK6.out.trans (K.mono HK6.out.size))).mono ?_); rintro x w7 ⟨v7, z7, rfl, hR7, -, hb7⟩; replace K := K.trans (hb7.mono K.size))
          | (go_at_call 15; (with_reducible refine (H8.out _ _ _ (HK6.out.trans (K.mono HK6.out.size)) hR7).mono ?_); rintro x w8 ⟨rfl, hb8⟩; replace K := K.trans (hb8.mono K.size)))
      have HK8 := hide (HK6.out.trans (K.mono HK6.out.size))
      have HB8 := hide (HB6.out.below K HB6.out.lt)
      clear K CC hR7 hb7 hb8
      go_wp2_with fail
      have CC : ∀ u : World, Below w8.heap.size w8 u → u.cell? ⟨w.heap.size, 0, none⟩ = some (.int .i8 4) ∧ u.cell? ⟨w.heap.size, 1, none⟩ = some (.int .u64 n1) ∧ u.cell? ⟨w.heap.size, 2, none⟩ = some (.bool g) ∧ u.cell? ⟨w.heap.size, 3, none⟩ = some (.slice mo ml mc) ∧ u.cell? ⟨w.heap.size, 4, none⟩ = some (.int .u64 b) ∧ u.cell? ⟨w.heap.size, 5, none⟩ = some (.int .i8 e) ∧ u.cell? ⟨w.heap.size, 6, none⟩ = some (.string s) ∧ u.cell? ⟨w.heap.size, 7, none⟩ = some (.slice ko kl kc) := fun u hu => by
        obtain ⟨x0, x1, x2, x3, x4, x5, x6, x7⟩ := HB8.out.below hu HB8.out.lt
        exact ⟨x0, x1, x2, x3, x4, x5, x6, x7⟩
      have K : Below w8.heap.size w8 w8.drew := (Below.refl _ _).drew
      go_region_held3 (fun u => u.cell? ⟨w.heap.size, 0, none⟩ = some (.int .i8 4) ∧ u.cell? ⟨w.heap.size, 1, none⟩ = some (.int .u64 n1) ∧ u.cell? ⟨w.heap.size, 2, none⟩ = some (.bool g) ∧ u.cell? ⟨w.heap.size, 3, none⟩ = some (.slice mo ml mc) ∧ u.cell? ⟨w.heap.size, 4, none⟩ = some (.int .u64 b) ∧ u.cell? ⟨w.heap.size, 5, none⟩ = some (.int .i8 e) ∧ u.cell? ⟨w.heap.size, 6, none⟩ = some (.string s) ∧ u.cell? ⟨w.heap.size, 7, none⟩ = some (.slice ko kl kc)) (first | with_reducible exact CC _ K)
        (first
          | (go_at_call 7; (with_reducible refine (H7.out _ (HK8.out.trans (K.mono HK8.out.size))).mono ?_); rintro x w9 ⟨v9, z9, rfl, hR9, -, hb9⟩; replace K := K.trans (hb9.mono K.size))
          | (go_at_call 15; (with_reducible refine (H9.out _ _ _ (HK8.out.trans (K.mono HK8.out.size)) hR9).mono ?_); rintro x w10 ⟨rfl, hb10⟩; replace K := K.trans (hb10.mono K.size)))
      have HK10 := hide (HK8.out.trans (K.mono HK8.out.size))
      clear K CC hR9 hb9 hb10
      go_wp2_with fail
      with_reducible refine (nlives (HL.out.below HK10.out) (HT.out.below HK10.out) (HU.out.below HK10.out)).mono ?_
      rintro x w11 ⟨rfl, K11⟩
      have HKz := hide (HK10.out.trans (K11.mono HK10.out.size))
      clear K11
      go_wp2
      go_ret
      exact ⟨rfl, HKz.out⟩

end Go.Proofs.YtbneipinenglgabGreatDoor

namespace Go.Proofs.YtbneipinenglgabGreatDoor
open Go.RowKit
set_option linter.unusedVariables false

theorem none15_walk {w : World} (L : Lays w) (T : Brn w) (U : Uss w) {et : TypeId} {eo : Option Addr} (hE : w.cell? ⟨0, 0, none⟩ = some (.iface et (.pointer eo))) (hEl : 0 < w.heap.size)
    {x : Va} {v : Value} {y : Int} (h : VaRd w v x) (y0 : 0 ≤ y) (y1 : y < 18446744073709551616) :
    Calls Tryz.prog 5 #[v, .int .u64 y] w fun e w' => e = .returned (.bool true) ∧ Below w.heap.size w w' := by
  obtain ⟨⟨vm, vk, rfl, hm, hk⟩, wf⟩ := h
  obtain ⟨mo, mc, rfl⟩ : ∃ ao cap, vm = .slice ao x.mag.length cap := by obtain ⟨ao, cap, h, _⟩ := hm; exact ⟨ao, cap, h⟩
  obtain ⟨ko, kc, rfl, -, -⟩ := hk.len
  have hV : ∀ W bb, Below w.heap.size w W → Bx8 W bb (.int .i8 x.kind) (.int .u64 x.n) (.bool x.neg) (.slice mo x.mag.length mc) (.int .u64 x.bits) (.int .i8 x.ext) (.string (strOfNums x.text)) (.slice ko x.kids.length kc) →
      Calls Tryz.prog 24 #[.slice (some ⟨bb, 0, none⟩) 1 1] W fun e w' => (∃ q, e = .returned (.bool q)) ∧ Below W.heap.size W w' := fun W bb hW hb => by
    have hs : VaSl W (.slice (some ⟨bb, 0, none⟩) [x].length 1) [x] := by
      refine .mk (some ⟨bb, 0, none⟩) 1 [x] (fun _ => .slice mo x.mag.length mc) (fun _ => .slice ko x.kids.length kc) (by simp) (by unfold maxLen; omega) (by simp) (fun h => by cases h) (fun _ => ⟨bb, 0, rfl, hb.lt, fun i hi => ?_⟩) (fun i hi => ?_) (fun i hi => ?_)
      all_goals
        obtain rfl : i = 0 := by simp at hi; exact hi
      · obtain ⟨z0, z1, z2, z3, z4, z5, z6, z7⟩ := hb
        exact ⟨z0, z1, z2, z3, z4, z5, z6, z7⟩
      · exact ⟨hm.below hW, wf⟩
      · exact hk.far hW
    exact (beyondval_any hs).mono fun e w' h => ⟨h.1.imp fun q hq => hq.1, h.2⟩
  unfold vaV
  by_cases h3 : x.kind = 3
  · rw [h3] at hV ⊢
    exact none15_3 L T U hE hEl hm wf.b0 wf.b1 y0 y1 hV
  · by_cases h4 : x.kind = 4
    · rw [h4] at hV ⊢
      exact none15_4 L T U hE hEl hm wf.b0 wf.b1 y0 y1 hV
    · exact none15_a L T U hE hEl h3 h4 hm wf.b0 wf.b1 y0 y1 hV

end Go.Proofs.YtbneipinenglgabGreatDoor
