import Derived.Test.YticmlelalbaalaaGreatDoorB43
import Derived.Test.YticmlelalbaalaaGreatDoorB23
import Derived.Deep.RegionHeld3
import Derived.Deep.CutRange
import Derived.Test.YticmlelalbaalaaGreatDoorB31
import Derived.BigQuiet
import Derived.Test.YticmlelalbaalaaGreatDoorB40
namespace Go.Proofs.YticmlelalbaalaaGreatDoor
open Go.RowKit
set_option linter.unusedVariables false
set_option linter.unusedSimpArgs false
set_option maxHeartbeats 16000000 in
set_option maxRecDepth 100000 in
theorem rise_any {w : World} (L : Lays w) {v : Value} {xs : List Va} (h : VaSl w v xs) (hp : kpts xs ≤ 1048576) : Calls Tryz.prog 110 #[v] w fun e w' => e = .returned (.bool (risK xs)) ∧ Below w.heap.size w w' := by
  have HV := hide h
  have l20 : xs.length ≤ 1048576 := Nat.le_trans (kpts_len xs) hp
  obtain ⟨ko, kc, rfl, hlc, hcm⟩ := h.len
  obtain ⟨n, hn⟩ : ∃ n, xs.length = n := ⟨_, rfl⟩
  obtain ⟨R, hR⟩ : ∃ r, risK xs = r := ⟨_, rfl⟩
  have HN := hide hn
  have HR := hide hR
  have HP := hide hp
  rw [hn] at HV l20 hlc ⊢
  rw [hR]
  have LL := hide L
  clear hn hR hp h L
  go_enter Tryz.func110, Tryz.ntmps110
  go_wp2
  go_loopw [3] (fun i wr => ∃ j m : Nat, i = .int .i64 (m : Int) ∧ Hid (m = j + 2) ∧ m ≤ n + 2 ∧ Hid (risK (xs.drop j) = R) ∧ Hid (Below w.heap.size w wr)) (fun i _ => n + 4 - (intOf i).toNat)
  case atStart => exact ⟨0, 2, rfl, hide rfl, by omega, hide (by simpa using HR.out), hide (Below.refl _ _)⟩
  case round =>
    obtain ⟨j, m, rfl, HJM, hj, HRJ, HW⟩ := hrel
    have hjm := HJM.out
    by_cases hjx : m < n
    · have q1 : (m : Int) < (n : Int) := by omega
      have HT := hide (risK_at (xs := xs) (i := j) (by rw [HN.out]; omega))
      simp only [← hjm] at HT
      have HM1 := hide (List.getElem_mem (show j < xs.length by rw [HN.out]; omega))
      have HM2 := hide (List.getElem_mem (show m < xs.length by rw [HN.out]; omega))
      obtain ⟨b1, o1, vm1, vk1, rfl, hb1, cc1, hm1, hk1, hw1⟩ := VaSl.at (ao := ko) (cap := kc) (HV.out.far HW.out) (by rw [HN.out]) (show j < xs.length by rw [HN.out]; omega)
      obtain ⟨b2, o2, vm2, vk2, hko, hb2, cc2, hm2, hk2, hw2⟩ := VaSl.at (ao := some ⟨b1, o1, none⟩) (cap := kc) (HV.out.far HW.out) (by rw [HN.out]) (show m < xs.length by rw [HN.out]; omega)
      cases hko
      obtain ⟨y1, hy1⟩ : ∃ y, xs[j]'(by rw [HN.out]; omega) = y := ⟨_, rfl⟩
      obtain ⟨y2, hy2⟩ : ∃ y, xs[m]'(by rw [HN.out]; omega) = y := ⟨_, rfl⟩
      rw [hy1] at cc1 hm1 hk1 hw1 HM1 HT
      rw [hy2] at cc2 hm2 hk2 hw2 HM2 HT
      clear hy1 hy2
      obtain ⟨mo1, mc1, rfl, -⟩ : ∃ ao cap, vm1 = .slice ao y1.mag.length cap ∧ True := by obtain ⟨ao, cap, h, _⟩ := hm1; exact ⟨ao, cap, h, trivial⟩
      obtain ⟨ko1, kc1, rfl, -, -⟩ := hk1.len
      have R1 : VaRd wr (vaV y1 (.slice mo1 y1.mag.length mc1) (.slice ko1 y1.kids.length kc1)) y1 := ⟨⟨_, _, rfl, hm1, hk1⟩, hw1⟩
      unfold vaV at R1
      obtain ⟨n1, hn1⟩ : ∃ n, y1.mag.length = n := ⟨_, rfl⟩
      obtain ⟨l1, hl1⟩ : ∃ n, y1.kids.length = n := ⟨_, rfl⟩
      obtain ⟨t1, ht1⟩ : ∃ t, strOfNums y1.text = t := ⟨_, rfl⟩
      have z1 := cc1
      rw [hn1, hl1] at cc1
      obtain ⟨a10, a11, a12, a13, a14, a15, a16, a17⟩ := cc1
      rw [hn1, hl1, ht1] at R1
      rw [ht1] at a16
      clear hm1 hk1 hw1 hn1 hl1 ht1 z1
      obtain ⟨mo2, mc2, rfl, -⟩ : ∃ ao cap, vm2 = .slice ao y2.mag.length cap ∧ True := by obtain ⟨ao, cap, h, _⟩ := hm2; exact ⟨ao, cap, h, trivial⟩
      obtain ⟨ko2, kc2, rfl, -, -⟩ := hk2.len
      have R2 : VaRd wr (vaV y2 (.slice mo2 y2.mag.length mc2) (.slice ko2 y2.kids.length kc2)) y2 := ⟨⟨_, _, rfl, hm2, hk2⟩, hw2⟩
      unfold vaV at R2
      obtain ⟨n2, hn2⟩ : ∃ n, y2.mag.length = n := ⟨_, rfl⟩
      obtain ⟨l2, hl2⟩ : ∃ n, y2.kids.length = n := ⟨_, rfl⟩
      obtain ⟨t2, ht2⟩ : ∃ t, strOfNums y2.text = t := ⟨_, rfl⟩
      have z2 := cc2
      rw [hn2, hl2] at cc2
      obtain ⟨a20, a21, a22, a23, a24, a25, a26, a27⟩ := cc2
      rw [hn2, hl2, ht2] at R2
      rw [ht2] at a26
      clear hm2 hk2 hw2 hn2 hl2 ht2 z2
      have HC := hide (fun U (k : Below wr.heap.size wr U) => vcompare_any (x := y1) (Nat.le_trans (kpts_mem HM1.out) HP.out) U _ _ y2 ((LL.out.below HW.out).below k) (R1.far k) (R2.far k) (Nat.le_trans (kpts_mem HM2.out) HP.out))
      have bv := vcmp_r y1 y2
      clear R1 R2
      have wj : IntKind.i64.wrap ((m : Int) - 2) = (j : Int) := by rw [IntKind.wrap_i64]; omega
      have wn : IntKind.i64.wrap ((m : Int) + 2) = ((m + 2 : Nat) : Int) := by rw [IntKind.wrap_i64]; omega
      have i0 : (0 : Int) ≤ (j : Int) := by omega
      have i1 : (j : Int) < (n : Int) := by omega
      have i2 : (0 : Int) ≤ (m : Int) := by omega
      have jm2 := hide (show m + 2 = m + 2 from rfl)
      obtain ⟨p1, hp1⟩ : ∃ p, o1 + j * 8 = p := ⟨_, rfl⟩
      obtain ⟨p2, hp2⟩ : ∃ p, o1 + m * 8 = p := ⟨_, rfl⟩
      rw [hp1] at a10 a11 a12 a13 a14 a15 a16 a17
      rw [hp2] at a20 a21 a22 a23 a24 a25 a26 a27
      have CC : ∀ u : World, Below wr.heap.size wr u → u.cell? ⟨b1, p1, none⟩ = some (.int .i8 y1.kind) ∧ u.cell? ⟨b1, p1 + 1, none⟩ = some (.int .u64 y1.n) ∧ u.cell? ⟨b1, p1 + 2, none⟩ = some (.bool y1.neg) ∧ u.cell? ⟨b1, p1 + 3, none⟩ = some (.slice mo1 n1 mc1) ∧ u.cell? ⟨b1, p1 + 4, none⟩ = some (.int .u64 y1.bits) ∧ u.cell? ⟨b1, p1 + 5, none⟩ = some (.int .i8 y1.ext) ∧ u.cell? ⟨b1, p1 + 6, none⟩ = some (.string t1) ∧ u.cell? ⟨b1, p1 + 7, none⟩ = some (.slice ko1 l1 kc1) ∧ u.cell? ⟨b1, p2, none⟩ = some (.int .i8 y2.kind) ∧ u.cell? ⟨b1, p2 + 1, none⟩ = some (.int .u64 y2.n) ∧ u.cell? ⟨b1, p2 + 2, none⟩ = some (.bool y2.neg) ∧ u.cell? ⟨b1, p2 + 3, none⟩ = some (.slice mo2 n2 mc2) ∧ u.cell? ⟨b1, p2 + 4, none⟩ = some (.int .u64 y2.bits) ∧ u.cell? ⟨b1, p2 + 5, none⟩ = some (.int .i8 y2.ext) ∧ u.cell? ⟨b1, p2 + 6, none⟩ = some (.string t2) ∧ u.cell? ⟨b1, p2 + 7, none⟩ = some (.slice ko2 l2 kc2) := fun u hu => ⟨(hu.cell (p := ⟨b1, _, none⟩) hb1).trans a10, (hu.cell (p := ⟨b1, _, none⟩) hb1).trans a11, (hu.cell (p := ⟨b1, _, none⟩) hb1).trans a12, (hu.cell (p := ⟨b1, _, none⟩) hb1).trans a13, (hu.cell (p := ⟨b1, _, none⟩) hb1).trans a14, (hu.cell (p := ⟨b1, _, none⟩) hb1).trans a15, (hu.cell (p := ⟨b1, _, none⟩) hb1).trans a16, (hu.cell (p := ⟨b1, _, none⟩) hb1).trans a17, (hu.cell (p := ⟨b1, _, none⟩) hb1).trans a20, (hu.cell (p := ⟨b1, _, none⟩) hb1).trans a21, (hu.cell (p := ⟨b1, _, none⟩) hb1).trans a22, (hu.cell (p := ⟨b1, _, none⟩) hb1).trans a23, (hu.cell (p := ⟨b1, _, none⟩) hb1).trans a24, (hu.cell (p := ⟨b1, _, none⟩) hb1).trans a25, (hu.cell (p := ⟨b1, _, none⟩) hb1).trans a26, (hu.cell (p := ⟨b1, _, none⟩) hb1).trans a27⟩
      clear a10 a11 a12 a13 a14 a15 a16 a17 a20 a21 a22 a23 a24 a25 a26 a27 hb2
      obtain ⟨c, hc⟩ : ∃ c, vcmp y1 y2 = c := ⟨_, rfl⟩
      rw [hc] at HT HC bv
      clear hc hjm
      unfold R3 at bv
      by_cases c0 : 0 ≤ c
      all_goals
        go_upto_region 4 with fail
        have K : Below wr.heap.size wr wr.drew := (Below.refl _ _).drew
        go_region_held3 (fun u => u.cell? ⟨b1, p1, none⟩ = some (.int .i8 y1.kind) ∧ u.cell? ⟨b1, p1 + 1, none⟩ = some (.int .u64 y1.n) ∧ u.cell? ⟨b1, p1 + 2, none⟩ = some (.bool y1.neg) ∧ u.cell? ⟨b1, p1 + 3, none⟩ = some (.slice mo1 n1 mc1) ∧ u.cell? ⟨b1, p1 + 4, none⟩ = some (.int .u64 y1.bits) ∧ u.cell? ⟨b1, p1 + 5, none⟩ = some (.int .i8 y1.ext) ∧ u.cell? ⟨b1, p1 + 6, none⟩ = some (.string t1) ∧ u.cell? ⟨b1, p1 + 7, none⟩ = some (.slice ko1 l1 kc1) ∧ u.cell? ⟨b1, p2, none⟩ = some (.int .i8 y2.kind) ∧ u.cell? ⟨b1, p2 + 1, none⟩ = some (.int .u64 y2.n) ∧ u.cell? ⟨b1, p2 + 2, none⟩ = some (.bool y2.neg) ∧ u.cell? ⟨b1, p2 + 3, none⟩ = some (.slice mo2 n2 mc2) ∧ u.cell? ⟨b1, p2 + 4, none⟩ = some (.int .u64 y2.bits) ∧ u.cell? ⟨b1, p2 + 5, none⟩ = some (.int .i8 y2.ext) ∧ u.cell? ⟨b1, p2 + 6, none⟩ = some (.string t2) ∧ u.cell? ⟨b1, p2 + 7, none⟩ = some (.slice ko2 l2 kc2)) (first | with_reducible exact CC _ K)
          (first
            | (go_at_call 19; (with_reducible refine (HC.out _ K).mono ?_); rintro e w2 ⟨rfl, hb⟩; replace K := K.trans (hb.mono K.size)))
        have KZ := hide (HW.out.trans (K.mono HW.out.size))
        clear CC K HC
      · have hf := hide (show R = false by rw [← HRJ.out, HT.out]; simp; omega)
        go_wp2
        go_ret
        exact ⟨by rw [hf.out]; first | rfl | skip, KZ.out⟩
      · have hf := hide (show risK (xs.drop m) = R by rw [← HRJ.out, HT.out]; simp; omega)
        go_wp2
        go_roundw
        case rel => exact ⟨m, m + 2, by simp [wn], hide rfl, by omega, hf, KZ⟩
        case measure => simp [intOf]; omega
    · have q1 : ¬ (m : Int) < (n : Int) := by omega
      have hf := hide (show R = true by rw [← HRJ.out]; exact risK_end (by rw [HN.out]; omega))
      go_wp2
      go_ret
      exact ⟨by rw [hf.out]; first | rfl | skip, HW.out⟩
set_option maxHeartbeats 8000000 in
set_option maxRecDepth 20000 in
theorem fits_k1 {w : World} {n1 b e : Int} {g : Bool} {s : ByteArray} {ml mc kl kc : Nat} {mo ko : Option Addr} : Calls Tryz.prog 67 #[.agg #[.int .i8 1, .int .u64 n1, .bool g, .slice mo ml mc, .int .u64 b, .int .i8 e, .string s, .slice ko kl kc]] w fun x w' => x = .returned (.bool (true)) ∧ Below w.heap.size w w' := by
  go_enter Tryz.func67, Tryz.ntmps67
  go_wp2
  go_ret
  exact ⟨rfl, bel_new _ _⟩
set_option maxHeartbeats 8000000 in
set_option maxRecDepth 20000 in
theorem fits_k6 {w : World} {n1 b e : Int} {g : Bool} {s : ByteArray} {ml mc kl kc : Nat} {mo ko : Option Addr} : Calls Tryz.prog 67 #[.agg #[.int .i8 6, .int .u64 n1, .bool g, .slice mo ml mc, .int .u64 b, .int .i8 e, .string s, .slice ko kl kc]] w fun x w' => x = .returned (.bool (true)) ∧ Below w.heap.size w w' := by
  go_enter Tryz.func67, Tryz.ntmps67
  go_wp2
  go_ret
  exact ⟨rfl, bel_new _ _⟩
set_option maxHeartbeats 8000000 in
set_option maxRecDepth 20000 in
theorem fits_k7 {w : World} {n1 b e : Int} {g : Bool} {s : ByteArray} {ml mc kl kc : Nat} {mo ko : Option Addr} : Calls Tryz.prog 67 #[.agg #[.int .i8 7, .int .u64 n1, .bool g, .slice mo ml mc, .int .u64 b, .int .i8 e, .string s, .slice ko kl kc]] w fun x w' => x = .returned (.bool (true)) ∧ Below w.heap.size w w' := by
  go_enter Tryz.func67, Tryz.ntmps67
  go_wp2
  go_ret
  exact ⟨rfl, bel_new _ _⟩
set_option maxHeartbeats 8000000 in
set_option maxRecDepth 20000 in
theorem fits_k11 {w : World} {n1 b e : Int} {g : Bool} {s : ByteArray} {ml mc kl kc : Nat} {mo ko : Option Addr} : Calls Tryz.prog 67 #[.agg #[.int .i8 11, .int .u64 n1, .bool g, .slice mo ml mc, .int .u64 b, .int .i8 e, .string s, .slice ko kl kc]] w fun x w' => x = .returned (.bool (true)) ∧ Below w.heap.size w w' := by
  go_enter Tryz.func67, Tryz.ntmps67
  go_wp2
  go_ret
  exact ⟨rfl, bel_new _ _⟩
set_option maxHeartbeats 8000000 in
set_option maxRecDepth 20000 in
theorem fits_k2 {w : World} {n1 b e : Int} {g : Bool} {s : ByteArray} {ml mc kl kc : Nat} {mo ko : Option Addr} : Calls Tryz.prog 67 #[.agg #[.int .i8 2, .int .u64 n1, .bool g, .slice mo ml mc, .int .u64 b, .int .i8 e, .string s, .slice ko kl kc]] w fun x w' => x = .returned (.bool (decide (n1 ≤ 1))) ∧ Below w.heap.size w w' := by
  go_enter Tryz.func67, Tryz.ntmps67
  go_wp2
  go_ret
  exact ⟨rfl, bel_new _ _⟩
set_option maxHeartbeats 8000000 in
set_option maxRecDepth 20000 in
theorem fits_k5 {w : World} {n1 b e : Int} {g : Bool} {s : ByteArray} {ml mc kl kc : Nat} {mo ko : Option Addr} {fb : Bool} {m : Int} (hfb : (m == (s.size : Int)) = fb) (h : ∀ W, Below w.heap.size w W → Calls Tryz.prog 109 #[.string s] W fun x w' => x = .returned (.int .i64 m) ∧ Below W.heap.size W w') : Calls Tryz.prog 67 #[.agg #[.int .i8 5, .int .u64 n1, .bool g, .slice mo ml mc, .int .u64 b, .int .i8 e, .string s, .slice ko kl kc]] w fun x w' => x = .returned (.bool (fb)) ∧ Below w.heap.size w w' := by
  have H := hide h
  have HF := hide hfb
  clear h hfb
  go_enter Tryz.func67, Tryz.ntmps67
  go_upto_region 9 with fail
  obtain ⟨W, hW⟩ : ∃ W, w.alloc (.cells #[.int .i8 5, .int .u64 n1, .bool g, .slice mo ml mc, .int .u64 b, .int .i8 e, .string s, .slice ko kl kc] 31) = W := ⟨_, rfl⟩
  have B := hide (show Bx8 W w.heap.size (.int .i8 5) (.int .u64 n1) (.bool g) (.slice mo ml mc) (.int .u64 b) (.int .i8 e) (.string s) (.slice ko kl kc) by rw [← hW]; exact bx8_new _ _ _ _ _ _ _ _ _ _)
  have K0 := hide (show Below w.heap.size w W by rw [← hW]; exact bel_new _ _)
  have hs : w.heap.size < W.heap.size := by rw [← hW]; simp
  rw [hW]
  clear hW
  have CC : ∀ u : World, Below W.heap.size W u → u.cell? ⟨w.heap.size, 6, none⟩ = some (.string s) := fun u hu => (B.out.below hu hs).2.2.2.2.2.2.1
  have K : Below W.heap.size W W.drew := (Below.refl _ _).drew
  obtain ⟨fq, hq⟩ : ∃ q, (m == (s.size : Int)) = q := ⟨_, rfl⟩
  have HQ := hide (show fq = fb by rw [← hq]; exact HF.out)
  clear HF hs
  go_region_held3 (fun u => u.cell? ⟨w.heap.size, 6, none⟩ = some (.string s)) (first | with_reducible exact CC _ K)
    (first
      | (go_at_call 109; (refine (H.out _ (K0.out.trans (K.mono K0.out.size))).mono ?_); rintro x w2 ⟨rfl, hb2⟩; replace K := K.trans (hb2.mono K.size)))
  have KZ := hide (K0.out.trans (K.mono K0.out.size))
  clear CC K
  go_wp2
  go_ret
  exact ⟨by rw [← HQ.out]; first | rfl | skip, KZ.out⟩
set_option maxHeartbeats 8000000 in
set_option maxRecDepth 20000 in
theorem fits_k8 {w : World} {n1 b e : Int} {g : Bool} {s : ByteArray} {ml mc kl kc : Nat} {mo ko : Option Addr} {fb : Bool} (hl : kl ≤ 1048576) (h : ∀ W, Below w.heap.size w W → Calls Tryz.prog 110 #[.slice ko kl kc] W fun x w' => x = .returned (.bool fb) ∧ Below W.heap.size W w') : Calls Tryz.prog 67 #[.agg #[.int .i8 8, .int .u64 n1, .bool g, .slice mo ml mc, .int .u64 b, .int .i8 e, .string s, .slice ko kl kc]] w fun x w' => x = .returned (.bool (decide (kl % 2 = 0) && fb)) ∧ Below w.heap.size w w' := by
  have H := hide h
  clear h
  have K1 := bel_new w (.cells #[.int .i8 8, .int .u64 n1, .bool g, .slice mo ml mc, .int .u64 b, .int .i8 e, .string s, .slice ko kl kc] 31)
  have HK := hide K1
  have HC := hide (H.out _ K1)
  clear K1
  have ht : (kl : Int).tmod 2 = ((kl % 2 : Nat) : Int) := by rw [Int.tmod_eq_emod_of_nonneg (by omega)]; omega
  obtain ⟨q, hq⟩ : ∃ q, kl % 2 = q := ⟨_, rfl⟩
  rw [hq] at ht ⊢
  have hq2 : q < 2 := by omega
  clear hq
  have hw : IntKind.i64.wrap (q : Int) = (q : Int) := by rw [IntKind.wrap_i64]; omega
  by_cases h0 : q = 0
  · subst h0
    go_enter Tryz.func67, Tryz.ntmps67
    go_wp2_with (go_at_call 110; refine HC.out.mono ?_; rintro x w2 ⟨rfl, hb⟩; have KZ := hide (below_trans HK.out hb); clear hb)
    go_ret
    exact ⟨rfl, KZ.out⟩
  · have h1 : q = 1 := by omega
    subst h1
    go_enter Tryz.func67, Tryz.ntmps67
    go_wp2
    go_ret
    exact ⟨rfl, HK.out⟩
set_option maxHeartbeats 8000000 in
set_option maxRecDepth 20000 in
theorem fits_k9 {w : World} {n1 b e : Int} {g : Bool} {s : ByteArray} {ml mc kl kc : Nat} {mo ko : Option Addr} : Calls Tryz.prog 67 #[.agg #[.int .i8 9, .int .u64 n1, .bool g, .slice mo ml mc, .int .u64 b, .int .i8 e, .string s, .slice ko kl kc]] w fun x w' => x = .returned (.bool ((n1 != 2 && n1 != 3) && decide (kl = 1))) ∧ Below w.heap.size w w' := by
  by_cases a : n1 = 2
  · subst a
    go_enter Tryz.func67, Tryz.ntmps67
    go_wp2
    go_ret
    exact ⟨rfl, bel_new _ _⟩
  · have a' : (n1 != 2) = true := by simp [a]
    by_cases c : n1 = 3
    · subst c
      go_enter Tryz.func67, Tryz.ntmps67
      go_wp2
      go_ret
      exact ⟨rfl, bel_new _ _⟩
    · have c' : (n1 != 3) = true := by simp [c]
      rw [a', c']
      by_cases d : kl = 1
      · subst d
        go_enter Tryz.func67, Tryz.ntmps67
        go_wp2
        go_ret
        exact ⟨rfl, bel_new _ _⟩
      · have d' : ((kl : Int) == 1) = false := by simp; omega
        rw [decide_eq_false d]
        go_enter Tryz.func67, Tryz.ntmps67
        go_wp2
        go_ret
        exact ⟨rfl, bel_new _ _⟩
set_option maxHeartbeats 8000000 in
set_option maxRecDepth 20000 in
theorem fits_k10 {w : World} {n1 b e : Int} {g : Bool} {s : ByteArray} {ml mc kl kc : Nat} {mo ko : Option Addr} : Calls Tryz.prog 67 #[.agg #[.int .i8 10, .int .u64 n1, .bool g, .slice mo ml mc, .int .u64 b, .int .i8 e, .string s, .slice ko kl kc]] w fun x w' => x = .returned (.bool (decide (n1 ≤ 19) || n1 == 23 || (decide (32 ≤ n1) && decide (n1 ≤ 255)))) ∧ Below w.heap.size w w' := by
  by_cases a : n1 ≤ 19
  · rw [decide_eq_true a, Bool.true_or, Bool.true_or]
    go_enter Tryz.func67, Tryz.ntmps67
    go_wp2
    go_ret
    exact ⟨rfl, bel_new _ _⟩
  · have a' : decide (n1 ≤ 19) = false := decide_eq_false a
    rw [a', Bool.false_or]
    by_cases c : n1 = 23
    · subst c
      rw [show ((23 : Int) == 23) = true from rfl, Bool.true_or]
      go_enter Tryz.func67, Tryz.ntmps67
      go_wp2
      go_ret
      exact ⟨rfl, bel_new _ _⟩
    · have c' : (n1 == 23) = false := by simp [c]
      rw [c', Bool.false_or]
      by_cases d : 32 ≤ n1
      · rw [decide_eq_true d, Bool.true_and]
        go_enter Tryz.func67, Tryz.ntmps67
        go_wp2
        go_ret
        exact ⟨rfl, bel_new _ _⟩
      · have d' : decide (32 ≤ n1) = false := decide_eq_false d
        rw [d', Bool.false_and]
        go_enter Tryz.func67, Tryz.ntmps67
        go_wp2
        go_ret
        exact ⟨rfl, bel_new _ _⟩
set_option maxHeartbeats 8000000 in
set_option maxRecDepth 20000 in
theorem maybe_k {w : World} (U : Uss w) {kn : Nat} {ut : Nat} (hut : Hid (usTab.getD kn 0 = ut)) (k1 : ¬ (kn : Int) < 1) (k2 : ¬ (11 : Int) < (kn : Int)) {n1 b e r : Int} {g fb z : Bool} {s : ByteArray} {ml mc kl kc : Nat} {mo ko : Option Addr} (hr : (bits .andNot .u8 r (ut : Int) == 0) = z)
    (h1 : ∀ W, Below w.heap.size w W → Calls Tryz.prog 66 #[.agg #[.int .i8 (kn : Int), .int .u64 n1, .bool g, .slice mo ml mc, .int .u64 b, .int .i8 e, .string s, .slice ko kl kc]] W fun x w' => x = .returned (.int .u8 r) ∧ Below W.heap.size W w')
    (h2 : ∀ W, Below w.heap.size w W → Calls Tryz.prog 67 #[.agg #[.int .i8 (kn : Int), .int .u64 n1, .bool g, .slice mo ml mc, .int .u64 b, .int .i8 e, .string s, .slice ko kl kc]] W fun x w' => x = .returned (.bool fb) ∧ Below W.heap.size W w') :
    Calls Tryz.prog 33 #[.agg #[.int .i8 (kn : Int), .int .u64 n1, .bool g, .slice mo ml mc, .int .u64 b, .int .i8 e, .string s, .slice ko kl kc]] w fun x w' => x = .returned (.bool (z && fb)) ∧ Below w.heap.size w w' := by
  have i0 : (0 : Int) ≤ (kn : Int) := by omega
  have i1 : (kn : Int) < 12 := by omega
  have H1 := hide h1
  have H2 := hide h2
  have HU := hide U
  clear h1 h2 U
  cases z
  · go_enter Tryz.func33, Tryz.ntmps33
    go_wp2_with fail
    have B := hide (bx8_new w (.int .i8 (kn : Int)) (.int .u64 n1) (.bool g) (.slice mo ml mc) (.int .u64 b) (.int .i8 e) (.string s) (.slice ko kl kc) 31)
    have K0 := hide (bel_new w (.cells #[.int .i8 (kn : Int), .int .u64 n1, .bool g, .slice mo ml mc, .int .u64 b, .int .i8 e, .string s, .slice ko kl kc] 31))
    have hs : w.heap.size < (w.alloc (.cells #[.int .i8 (kn : Int), .int .u64 n1, .bool g, .slice mo ml mc, .int .u64 b, .int .i8 e, .string s, .slice ko kl kc] 31)).heap.size := by simp
    generalize w.alloc (.cells #[.int .i8 (kn : Int), .int .u64 n1, .bool g, .slice mo ml mc, .int .u64 b, .int .i8 e, .string s, .slice ko kl kc] 31) = W at *
    have CC : ∀ u : World, Below W.heap.size W u → u.cell? ⟨w.heap.size, 0, none⟩ = some (.int .i8 (kn : Int)) ∧ u.cell? ⟨w.heap.size, 1, none⟩ = some (.int .u64 n1) ∧ u.cell? ⟨w.heap.size, 2, none⟩ = some (.bool g) ∧ u.cell? ⟨w.heap.size, 3, none⟩ = some (.slice mo ml mc) ∧ u.cell? ⟨w.heap.size, 4, none⟩ = some (.int .u64 b) ∧ u.cell? ⟨w.heap.size, 5, none⟩ = some (.int .i8 e) ∧ u.cell? ⟨w.heap.size, 6, none⟩ = some (.string s) ∧ u.cell? ⟨w.heap.size, 7, none⟩ = some (.slice ko kl kc) ∧ u.cell? ⟨11, kn, none⟩ = some (.int .u8 (ut : Int)) := fun u hu => by
      obtain ⟨h0, h1, h2, h3, h4, h5, h6, h7⟩ := B.out.below hu hs
      exact ⟨h0, h1, h2, h3, h4, h5, h6, h7, (by have h := ((HU.out.below K0.out).below hu).at_ kn (by omega); rwa [hut.out] at h)⟩
    have K : Hid (Below W.heap.size W W.drew) := hide (Below.refl _ _).drew
    obtain ⟨g0, g1, g2, g3, g4, g5, g6, g7, g8⟩ := CC _ K.out
    have HC := hide CC
    clear hs CC
    go_region_with (go_at_call 66; (refine (H1.out _ (K0.out.trans (K.out.mono K0.out.size))).mono ?_); rintro x w2 ⟨rfl, hb2⟩; replace K := hide (K.out.trans (hb2.mono K.out.size)); clear hb2; obtain ⟨y0, y1, y2, y3, y4, y5, y6, y7, y8⟩ := HC.out _ K.out)
    all_goals
      have KZ := hide (K0.out.trans (K.out.mono K0.out.size))
      clear K
      go_wp2
      go_ret
      exact ⟨rfl, KZ.out⟩
  · go_enter Tryz.func33, Tryz.ntmps33
    go_wp2_with fail
    have B := hide (bx8_new w (.int .i8 (kn : Int)) (.int .u64 n1) (.bool g) (.slice mo ml mc) (.int .u64 b) (.int .i8 e) (.string s) (.slice ko kl kc) 31)
    have K0 := hide (bel_new w (.cells #[.int .i8 (kn : Int), .int .u64 n1, .bool g, .slice mo ml mc, .int .u64 b, .int .i8 e, .string s, .slice ko kl kc] 31))
    have hs : w.heap.size < (w.alloc (.cells #[.int .i8 (kn : Int), .int .u64 n1, .bool g, .slice mo ml mc, .int .u64 b, .int .i8 e, .string s, .slice ko kl kc] 31)).heap.size := by simp
    generalize w.alloc (.cells #[.int .i8 (kn : Int), .int .u64 n1, .bool g, .slice mo ml mc, .int .u64 b, .int .i8 e, .string s, .slice ko kl kc] 31) = W at *
    have CC : ∀ u : World, Below W.heap.size W u → u.cell? ⟨w.heap.size, 0, none⟩ = some (.int .i8 (kn : Int)) ∧ u.cell? ⟨w.heap.size, 1, none⟩ = some (.int .u64 n1) ∧ u.cell? ⟨w.heap.size, 2, none⟩ = some (.bool g) ∧ u.cell? ⟨w.heap.size, 3, none⟩ = some (.slice mo ml mc) ∧ u.cell? ⟨w.heap.size, 4, none⟩ = some (.int .u64 b) ∧ u.cell? ⟨w.heap.size, 5, none⟩ = some (.int .i8 e) ∧ u.cell? ⟨w.heap.size, 6, none⟩ = some (.string s) ∧ u.cell? ⟨w.heap.size, 7, none⟩ = some (.slice ko kl kc) ∧ u.cell? ⟨11, kn, none⟩ = some (.int .u8 (ut : Int)) := fun u hu => by
      obtain ⟨h0, h1, h2, h3, h4, h5, h6, h7⟩ := B.out.below hu hs
      exact ⟨h0, h1, h2, h3, h4, h5, h6, h7, (by have h := ((HU.out.below K0.out).below hu).at_ kn (by omega); rwa [hut.out] at h)⟩
    have K : Below W.heap.size W W.drew := (Below.refl _ _).drew
    clear hs
    go_region_held3 (fun u => u.cell? ⟨w.heap.size, 0, none⟩ = some (.int .i8 (kn : Int)) ∧ u.cell? ⟨w.heap.size, 1, none⟩ = some (.int .u64 n1) ∧ u.cell? ⟨w.heap.size, 2, none⟩ = some (.bool g) ∧ u.cell? ⟨w.heap.size, 3, none⟩ = some (.slice mo ml mc) ∧ u.cell? ⟨w.heap.size, 4, none⟩ = some (.int .u64 b) ∧ u.cell? ⟨w.heap.size, 5, none⟩ = some (.int .i8 e) ∧ u.cell? ⟨w.heap.size, 6, none⟩ = some (.string s) ∧ u.cell? ⟨w.heap.size, 7, none⟩ = some (.slice ko kl kc) ∧ u.cell? ⟨11, kn, none⟩ = some (.int .u8 (ut : Int))) (first | with_reducible exact CC _ K)
      (first
        | (go_at_call 66; (refine (H1.out _ (K0.out.trans (K.mono K0.out.size))).mono ?_); rintro x w2 ⟨rfl, hb2⟩; replace K := K.trans (hb2.mono K.size))
        | (go_at_call 67; (refine (H2.out _ (K0.out.trans (K.mono K0.out.size))).mono ?_); rintro x w3 ⟨rfl, hb3⟩; replace K := K.trans (hb3.mono K.size)))
    have KZ := hide (K0.out.trans (K.mono K0.out.size))
    clear CC K
    go_wp2
    go_ret
    exact ⟨rfl, KZ.out⟩
set_option maxHeartbeats 8000000 in
set_option maxRecDepth 20000 in
theorem maybe_out {w : World} {n1 b e : Int} {g : Bool} {s : ByteArray} {ml mc kl kc : Nat} {mo ko : Option Addr} {k : Int} (hk : k < 1 ∨ 11 < k) : Calls Tryz.prog 33 #[.agg #[.int .i8 k, .int .u64 n1, .bool g, .slice mo ml mc, .int .u64 b, .int .i8 e, .string s, .slice ko kl kc]] w fun x w' => x = .returned (.bool false) ∧ Below w.heap.size w w' := by
  rcases hk with h | h
  · go_enter Tryz.func33, Tryz.ntmps33
    go_wp2
    go_ret
    exact ⟨rfl, bel_new _ _⟩
  · have h' : ¬ k < 1 := by omega
    go_enter Tryz.func33, Tryz.ntmps33
    go_wp2
    go_ret
    exact ⟨rfl, bel_new _ _⟩
theorem fits_anyU {w : World} (L : Lays w) (T : Brn w) {v : Value} {x : Va} (h : VaRd w v x) (pk : x.kind = 8 → kpts x.kids ≤ 1048576) (k1 : 1 ≤ x.kind) (k2 : x.kind ≤ 11) : Calls Tryz.prog 67 #[v] w fun e w' => e = .returned (.bool (fitB x)) ∧ Below w.heap.size w w' := by
  obtain ⟨⟨vm, vk, rfl, hm, hk⟩, hw⟩ := h
  have hm' := hm
  obtain ⟨mo, mc, rfl, hmc⟩ := hm'
  obtain ⟨ko, kc, rfl, hkc⟩ := hk.len
  unfold vaV
  have hkk : x.kind = 1 ∨ x.kind = 2 ∨ x.kind = 3 ∨ x.kind = 4 ∨ x.kind = 5 ∨ x.kind = 6 ∨ x.kind = 7 ∨ x.kind = 8 ∨ x.kind = 9 ∨ x.kind = 10 ∨ x.kind = 11 := by omega
  rcases hkk with h | h | h | h | h | h | h | h | h | h | h
  · rw [show fitB x = true by simp [fitB, h], h]; exact fits_k1
  · rw [show fitB x = decide (x.n ≤ 1) by simp [fitB, h], h]; exact fits_k2
  · rw [show fitB x = nrmB x.neg x.mag by simp [fitB, h], h]; exact fits_b3 (fun W hb => isnormal_b (hm.below hb))
  · rw [show fitB x = fltB x.bits by simp [fitB, h], h]; exact fits_b4 (fun W hb => isfloat_any (L.below hb) (T.below hb) hw.b0 hw.b1)
  · have hby : uByt x.text := hw.t
    obtain ⟨ps, t, hS⟩ := USplit.exists _ (Nat.le_refl _) hby
    have hq : (((uFlat ps).length : Int) == ((strOfNums x.text).size : Int)) = t.isEmpty := by
      have e := congrArg List.length hS.eq
      have e2 : (strOfNums x.text).size = x.text.length := strOfNums_size _
      rw [List.length_append] at e
      by_cases ht : t = []
      · subst ht
        rw [List.length_nil] at e
        exact beq_iff_eq.2 (by omega)
      · rw [show t.isEmpty = false by cases t; exact absurd rfl ht; rfl]
        have := List.length_pos_iff.2 ht
        exact beq_eq_false_iff_ne.2 (by omega)
    rw [show fitB x = t.isEmpty by simp [fitB, h, txB_eq hby hS], h]
    exact fits_k5 hq (fun W hb => bad_any hby rfl (by have := hw.tl; omega) hS)
  · rw [show fitB x = true by simp [fitB, h], h]; exact fits_k6
  · rw [show fitB x = true by simp [fitB, h], h]; exact fits_k7
  · rw [show fitB x = (decide (x.kids.length % 2 = 0) && risK x.kids) by simp [fitB, h], h]; exact fits_k8 (Nat.le_trans (kpts_len _) (pk h)) (fun W hb => rise_any (L.below hb) (hk.far hb) (pk h))
  · rw [show fitB x = ((x.n != 2 && x.n != 3) && decide (x.kids.length = 1)) by simp [fitB, h], h]; exact fits_k9
  · rw [show fitB x = (decide (x.n ≤ 19) || x.n == 23 || (decide (32 ≤ x.n) && decide (x.n ≤ 255))) by simp [fitB, h], h]; exact fits_k10
  · rw [show fitB x = true by simp [fitB, h], h]; exact fits_k11
theorem maybe_anyU {w : World} (L : Lays w) (T : Brn w) (U : Uss w) {v : Value} {x : Va} (h : VaRd w v x) (pk : x.kind = 8 → kpts x.kids ≤ 1048576) : Calls Tryz.prog 33 #[v] w fun e w' => e = .returned (.bool (aloB x)) ∧ Below w.heap.size w w' := by
  have h0 := h
  obtain ⟨⟨vm, vk, rfl, hm, hk⟩, hw⟩ := h
  have hm' := hm
  obtain ⟨mo, mc, rfl, hmc⟩ := hm'
  obtain ⟨ko, kc, rfl, hkc⟩ := hk.len
  by_cases hkk : 1 ≤ x.kind ∧ x.kind ≤ 11
  · obtain ⟨k1, k2⟩ := hkk
    have hf := fun W (hb : Below w.heap.size w W) => fits_anyU (L.below hb) (T.below hb) (h0.far hb) pk k1 k2
    rw [show aloB x = ((bits .andNot .u8 (flV x) (usTab.getD x.kind.toNat 0 : Nat) == 0) && fitB x) by unfold aloB; simp [k1, k2]]
    unfold vaV at hf ⊢
    unfold flV
    obtain ⟨fb, hfb⟩ : ∃ fb, fitB x = fb := ⟨_, rfl⟩
    rw [hfb] at hf ⊢
    obtain ⟨kn, hkn⟩ : ∃ kn : Nat, x.kind = (kn : Int) := ⟨x.kind.toNat, by omega⟩
    rw [hkn] at hf k1 k2 ⊢
    rw [Int.toNat_natCast]
    exact maybe_k U (hide rfl) (by omega) (by omega) rfl (fun W hb => filled_any) hf
  · rw [show aloB x = false by
      have hz : (decide (1 ≤ x.kind) && decide (x.kind ≤ 11)) = false := by
        by_cases h1 : 1 ≤ x.kind
        · rw [decide_eq_false (show ¬ x.kind ≤ 11 by omega), Bool.and_false]
        · rw [decide_eq_false h1, Bool.false_and]
      unfold aloB
      rw [hz, Bool.false_and]]
    exact maybe_out (by omega)
set_option maxHeartbeats 16000000 in
set_option maxRecDepth 100000 in
theorem rrising_any {w : World} {v : Value} {xs : List Va} (h : VaSl w v xs) (hp : kpts xs ≤ 1048576) : Calls Tryz.prog 121 #[v] w fun e w' => e = .returned (.bool (decide (xs.length % 2 = 0) && risK xs)) ∧ Below w.heap.size w w' := by
  have HV := hide h
  have l20 : xs.length ≤ 1048576 := Nat.le_trans (kpts_len xs) hp
  obtain ⟨ko, kc, rfl, hlc, hcm⟩ := h.len
  obtain ⟨n, hn⟩ : ∃ n, xs.length = n := ⟨_, rfl⟩
  obtain ⟨R, hR⟩ : ∃ r, risK xs = r := ⟨_, rfl⟩
  have HN := hide hn
  have HR := hide hR
  have HP := hide hp
  rw [hn] at HV l20 hlc ⊢
  rw [hR]
  clear hn hR hp h
  go_enter Tryz.func121, Tryz.ntmps121
  go_wp2
  go_loopw [3] (fun i wr => ∃ j m : Nat, i = .int .i64 (m : Int) ∧ Hid (m = j + 2) ∧ m ≤ n + 2 ∧ Hid (risK (xs.drop j) = R) ∧ Hid (Below w.heap.size w wr)) (fun i _ => n + 4 - (intOf i).toNat)
  case atStart => exact ⟨0, 2, rfl, hide rfl, by omega, hide (by simpa using HR.out), hide (Below.refl _ _)⟩
  case round =>
    obtain ⟨j, m, rfl, HJM, hj, HRJ, HW⟩ := hrel
    have hjm := HJM.out
    by_cases hjx : m < n
    · have q1 : (m : Int) < (n : Int) := by omega
      have HT := hide (risK_at (xs := xs) (i := j) (by rw [HN.out]; omega))
      simp only [← hjm] at HT
      have HM1 := hide (List.getElem_mem (show j < xs.length by rw [HN.out]; omega))
      have HM2 := hide (List.getElem_mem (show m < xs.length by rw [HN.out]; omega))
      obtain ⟨b1, o1, vm1, vk1, rfl, hb1, cc1, hm1, hk1, hw1⟩ := VaSl.at (ao := ko) (cap := kc) (HV.out.far HW.out) (by rw [HN.out]) (show j < xs.length by rw [HN.out]; omega)
      obtain ⟨b2, o2, vm2, vk2, hko, hb2, cc2, hm2, hk2, hw2⟩ := VaSl.at (ao := some ⟨b1, o1, none⟩) (cap := kc) (HV.out.far HW.out) (by rw [HN.out]) (show m < xs.length by rw [HN.out]; omega)
      cases hko
      obtain ⟨y1, hy1⟩ : ∃ y, xs[j]'(by rw [HN.out]; omega) = y := ⟨_, rfl⟩
      obtain ⟨y2, hy2⟩ : ∃ y, xs[m]'(by rw [HN.out]; omega) = y := ⟨_, rfl⟩
      rw [hy1] at cc1 hm1 hk1 hw1 HM1 HT
      rw [hy2] at cc2 hm2 hk2 hw2 HM2 HT
      clear hy1 hy2
      obtain ⟨mo1, mc1, rfl, -⟩ : ∃ ao cap, vm1 = .slice ao y1.mag.length cap ∧ True := by obtain ⟨ao, cap, h, _⟩ := hm1; exact ⟨ao, cap, h, trivial⟩
      obtain ⟨ko1, kc1, rfl, -, -⟩ := hk1.len
      have R1 : VaRd wr (vaV y1 (.slice mo1 y1.mag.length mc1) (.slice ko1 y1.kids.length kc1)) y1 := ⟨⟨_, _, rfl, hm1, hk1⟩, hw1⟩
      unfold vaV at R1
      obtain ⟨n1, hn1⟩ : ∃ n, y1.mag.length = n := ⟨_, rfl⟩
      obtain ⟨l1, hl1⟩ : ∃ n, y1.kids.length = n := ⟨_, rfl⟩
      obtain ⟨t1, ht1⟩ : ∃ t, strOfNums y1.text = t := ⟨_, rfl⟩
      have z1 := cc1
      rw [hn1, hl1] at cc1
      obtain ⟨a10, a11, a12, a13, a14, a15, a16, a17⟩ := cc1
      rw [hn1, hl1, ht1] at R1
      rw [ht1] at a16
      clear hm1 hk1 hw1 hn1 hl1 ht1 z1
      obtain ⟨mo2, mc2, rfl, -⟩ : ∃ ao cap, vm2 = .slice ao y2.mag.length cap ∧ True := by obtain ⟨ao, cap, h, _⟩ := hm2; exact ⟨ao, cap, h, trivial⟩
      obtain ⟨ko2, kc2, rfl, -, -⟩ := hk2.len
      have R2 : VaRd wr (vaV y2 (.slice mo2 y2.mag.length mc2) (.slice ko2 y2.kids.length kc2)) y2 := ⟨⟨_, _, rfl, hm2, hk2⟩, hw2⟩
      unfold vaV at R2
      obtain ⟨n2, hn2⟩ : ∃ n, y2.mag.length = n := ⟨_, rfl⟩
      obtain ⟨l2, hl2⟩ : ∃ n, y2.kids.length = n := ⟨_, rfl⟩
      obtain ⟨t2, ht2⟩ : ∃ t, strOfNums y2.text = t := ⟨_, rfl⟩
      have z2 := cc2
      rw [hn2, hl2] at cc2
      obtain ⟨a20, a21, a22, a23, a24, a25, a26, a27⟩ := cc2
      rw [hn2, hl2, ht2] at R2
      rw [ht2] at a26
      clear hm2 hk2 hw2 hn2 hl2 ht2 z2
      have HC := hide (fun U (k : Below wr.heap.size wr U) => rcompare_any (x := y1) (Nat.le_trans (kpts_mem HM1.out) HP.out) U _ _ y2 (R1.far k) (R2.far k) (Nat.le_trans (kpts_mem HM2.out) HP.out))
      have bv := vcmp_r y1 y2
      clear R1 R2
      have wj : IntKind.i64.wrap ((m : Int) - 2) = (j : Int) := by rw [IntKind.wrap_i64]; omega
      have wn : IntKind.i64.wrap ((m : Int) + 2) = ((m + 2 : Nat) : Int) := by rw [IntKind.wrap_i64]; omega
      have i0 : (0 : Int) ≤ (j : Int) := by omega
      have i1 : (j : Int) < (n : Int) := by omega
      have i2 : (0 : Int) ≤ (m : Int) := by omega
      have jm2 := hide (show m + 2 = m + 2 from rfl)
      obtain ⟨p1, hp1⟩ : ∃ p, o1 + j * 8 = p := ⟨_, rfl⟩
      obtain ⟨p2, hp2⟩ : ∃ p, o1 + m * 8 = p := ⟨_, rfl⟩
      rw [hp1] at a10 a11 a12 a13 a14 a15 a16 a17
      rw [hp2] at a20 a21 a22 a23 a24 a25 a26 a27
      have CC : ∀ u : World, Below wr.heap.size wr u → u.cell? ⟨b1, p1, none⟩ = some (.int .i8 y1.kind) ∧ u.cell? ⟨b1, p1 + 1, none⟩ = some (.int .u64 y1.n) ∧ u.cell? ⟨b1, p1 + 2, none⟩ = some (.bool y1.neg) ∧ u.cell? ⟨b1, p1 + 3, none⟩ = some (.slice mo1 n1 mc1) ∧ u.cell? ⟨b1, p1 + 4, none⟩ = some (.int .u64 y1.bits) ∧ u.cell? ⟨b1, p1 + 5, none⟩ = some (.int .i8 y1.ext) ∧ u.cell? ⟨b1, p1 + 6, none⟩ = some (.string t1) ∧ u.cell? ⟨b1, p1 + 7, none⟩ = some (.slice ko1 l1 kc1) ∧ u.cell? ⟨b1, p2, none⟩ = some (.int .i8 y2.kind) ∧ u.cell? ⟨b1, p2 + 1, none⟩ = some (.int .u64 y2.n) ∧ u.cell? ⟨b1, p2 + 2, none⟩ = some (.bool y2.neg) ∧ u.cell? ⟨b1, p2 + 3, none⟩ = some (.slice mo2 n2 mc2) ∧ u.cell? ⟨b1, p2 + 4, none⟩ = some (.int .u64 y2.bits) ∧ u.cell? ⟨b1, p2 + 5, none⟩ = some (.int .i8 y2.ext) ∧ u.cell? ⟨b1, p2 + 6, none⟩ = some (.string t2) ∧ u.cell? ⟨b1, p2 + 7, none⟩ = some (.slice ko2 l2 kc2) := fun u hu => ⟨(hu.cell (p := ⟨b1, _, none⟩) hb1).trans a10, (hu.cell (p := ⟨b1, _, none⟩) hb1).trans a11, (hu.cell (p := ⟨b1, _, none⟩) hb1).trans a12, (hu.cell (p := ⟨b1, _, none⟩) hb1).trans a13, (hu.cell (p := ⟨b1, _, none⟩) hb1).trans a14, (hu.cell (p := ⟨b1, _, none⟩) hb1).trans a15, (hu.cell (p := ⟨b1, _, none⟩) hb1).trans a16, (hu.cell (p := ⟨b1, _, none⟩) hb1).trans a17, (hu.cell (p := ⟨b1, _, none⟩) hb1).trans a20, (hu.cell (p := ⟨b1, _, none⟩) hb1).trans a21, (hu.cell (p := ⟨b1, _, none⟩) hb1).trans a22, (hu.cell (p := ⟨b1, _, none⟩) hb1).trans a23, (hu.cell (p := ⟨b1, _, none⟩) hb1).trans a24, (hu.cell (p := ⟨b1, _, none⟩) hb1).trans a25, (hu.cell (p := ⟨b1, _, none⟩) hb1).trans a26, (hu.cell (p := ⟨b1, _, none⟩) hb1).trans a27⟩
      clear a10 a11 a12 a13 a14 a15 a16 a17 a20 a21 a22 a23 a24 a25 a26 a27 hb2
      obtain ⟨c, hc⟩ : ∃ c, vcmp y1 y2 = c := ⟨_, rfl⟩
      rw [hc] at HT HC bv
      clear hc hjm
      unfold R3 at bv
      by_cases c0 : 0 ≤ c
      all_goals
        go_upto_region 4 with fail
        have K : Below wr.heap.size wr wr.drew := (Below.refl _ _).drew
        go_region_held3 (fun u => u.cell? ⟨b1, p1, none⟩ = some (.int .i8 y1.kind) ∧ u.cell? ⟨b1, p1 + 1, none⟩ = some (.int .u64 y1.n) ∧ u.cell? ⟨b1, p1 + 2, none⟩ = some (.bool y1.neg) ∧ u.cell? ⟨b1, p1 + 3, none⟩ = some (.slice mo1 n1 mc1) ∧ u.cell? ⟨b1, p1 + 4, none⟩ = some (.int .u64 y1.bits) ∧ u.cell? ⟨b1, p1 + 5, none⟩ = some (.int .i8 y1.ext) ∧ u.cell? ⟨b1, p1 + 6, none⟩ = some (.string t1) ∧ u.cell? ⟨b1, p1 + 7, none⟩ = some (.slice ko1 l1 kc1) ∧ u.cell? ⟨b1, p2, none⟩ = some (.int .i8 y2.kind) ∧ u.cell? ⟨b1, p2 + 1, none⟩ = some (.int .u64 y2.n) ∧ u.cell? ⟨b1, p2 + 2, none⟩ = some (.bool y2.neg) ∧ u.cell? ⟨b1, p2 + 3, none⟩ = some (.slice mo2 n2 mc2) ∧ u.cell? ⟨b1, p2 + 4, none⟩ = some (.int .u64 y2.bits) ∧ u.cell? ⟨b1, p2 + 5, none⟩ = some (.int .i8 y2.ext) ∧ u.cell? ⟨b1, p2 + 6, none⟩ = some (.string t2) ∧ u.cell? ⟨b1, p2 + 7, none⟩ = some (.slice ko2 l2 kc2)) (first | with_reducible exact CC _ K)
          (first
            | (go_at_call 18; (with_reducible refine (HC.out _ K).mono ?_); rintro e w2 ⟨rfl, hb⟩; replace K := K.trans (hb.mono K.size)))
        have KZ := hide (HW.out.trans (K.mono HW.out.size))
        clear CC K HC
      · have hf := hide (show R = false by rw [← HRJ.out, HT.out]; simp; omega)
        go_wp2
        go_ret
        exact ⟨by rw [hf.out]; simp, KZ.out⟩
      · have hf := hide (show risK (xs.drop m) = R by rw [← HRJ.out, HT.out]; simp; omega)
        go_wp2
        go_roundw
        case rel => exact ⟨m, m + 2, by simp [wn], hide rfl, by omega, hf, KZ⟩
        case measure => simp [intOf]; omega
    · have q1 : ¬ (m : Int) < (n : Int) := by omega
      have hf := hide (show R = true by rw [← HRJ.out]; exact risK_end (by rw [HN.out]; omega))
      have hm := Int.tmod_eq_emod_of_nonneg (a := (n : Int)) (b := 2) (by omega)
      by_cases h2 : n % 2 = 0
      · have h3 : (n : Int) % 2 = 0 := by omega
        have H2 := hide h2
        clear h2
        go_wp2
        go_ret
        exact ⟨by rw [hf.out, decide_eq_true H2.out]; first | rfl | simp, HW.out⟩
      · have h3 : (n : Int) % 2 = 1 := by omega
        have H2 := hide h2
        clear h2
        go_wp2
        go_ret
        exact ⟨by rw [hf.out, decide_eq_false H2.out]; first | rfl | simp, HW.out⟩
end Go.Proofs.YticmlelalbaalaaGreatDoor
