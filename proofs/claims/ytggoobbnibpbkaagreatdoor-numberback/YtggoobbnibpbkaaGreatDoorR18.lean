/- NDec, NRf, NRg -/
import Derived.Test.YtggoobbnibpbkaaGreatDoorR16
import Derived.Test.YtggoobbnibpbkaaGreatDoorR12
import Derived.Test.YtggoobbnibpbkaaGreatDoorR17
namespace Go.Proofs.YtggoobbnibpbkaaGreatDoor
open Go.RowKit
set_option linter.unusedVariables false

set_option maxHeartbeats 8000000 in
set_option maxRecDepth 20000 in
theorem isfloat_d (b : Int) (b0 : 0 ≤ b) (b1 : b < 18446744073709551616) : ∃ fb : Bool, (fb = true → FOk b) ∧ ∀ w : World, Lays w → Brn w → Calls Tryz.prog 225 #[.int .u64 b] w fun e w' => e = .returned (.bool fb) ∧ Below w.heap.size w w' := by
  obtain ⟨c, hc⟩ : ∃ c, cls 9223372036854775808 4503599627370496 (b % 9223372036854775808) = c := ⟨_, rfl⟩
  by_cases c5 : c = 5
  · subst c5
    refine ⟨b == 9221120237041090560, fun h => by
      obtain rfl : b = 9221120237041090560 := by simpa using h
      exact ⟨by decide, by decide, by decide, .inl rfl⟩, fun w L T => ?_⟩
    have HC := hide hc
    clear hc
    obtain ⟨q, hq⟩ : ∃ q, (b == 9221120237041090560) = q := ⟨_, rfl⟩
    rw [hq]
    go_enter Tryz.func225, Tryz.ntmps225
    go_wp2_with fail
    with_reducible refine (class_64 L b (b % 9223372036854775808) b0 b1 rfl).mono ?_
    rintro e w1 ⟨rfl, K1⟩
    have HK := hide K1
    clear K1
    rw [HC.out]
    have hq2 := hide hq
    clear hq
    go_wp2
    go_ret
    exact ⟨congrArg (fun q => Ending.returned (.bool q)) hq2.out, HK.out⟩
  by_cases c4 : c = 4
  · subst c4
    have hs : b % 9223372036854775808 = 9218868437227405312 := by
      unfold cls at hc
      split at hc
      · omega
      · split at hc
        · omega
        · split at hc
          · omega
          · split at hc <;> omega
    refine ⟨true, fun _ => ⟨b0, b1, by rintro rfl; omega, .inr (.inl hs)⟩, fun w L T => ?_⟩
    have HC := hide hc
    clear hc c5
    go_enter Tryz.func225, Tryz.ntmps225
    go_wp2_with fail
    with_reducible refine (class_64 L b (b % 9223372036854775808) b0 b1 rfl).mono ?_
    rintro e w1 ⟨rfl, K1⟩
    have HK := hide K1
    clear K1
    rw [HC.out]
    go_wp2
    go_ret
    exact ⟨rfl, HK.out⟩
  · have s0 : 0 ≤ b % 9223372036854775808 := Int.emod_nonneg _ (by decide)
    have s1 : b % 9223372036854775808 < 9218868437227405312 := by
      rcases Int.lt_or_le (b % 9223372036854775808) 9218868437227405312 with g | g
      · exact g
      · exfalso
        unfold cls at hc
        split at hc
        · omega
        · split at hc <;> omega
    obtain ⟨n0, ok0, hI0⟩ := int_ex (ng := decide (9223372036854775808 ≤ b)) wth64 (by decide) s0 s1
    obtain ⟨fb, hfo, hfb⟩ : ∃ fb : Bool, (fb = true → FOk b) ∧ ∀ n ok, IntIs 4503599627370496 (-1074) 9218868437227405312 (b % 9223372036854775808) (decide (9223372036854775808 ≤ b)) n ok → ok = !fb := by
      refine ⟨!ok0, fun h => ?_, fun n ok h => by rw [Bool.not_not]; exact (IntIs.unique s0 h hI0).2⟩
      obtain rfl : ok0 = false := by simpa using h
      have hp := (frac_u (by decide) (by decide) s0 s1 hI0).1
      exact ⟨b0, b1, by rintro rfl; omega, .inr (.inr ⟨s1, n0, hI0⟩)⟩
    clear hI0
    refine ⟨fb, hfo, fun w L T => ?_⟩
    clear hfo s0 s1
    have HC := hide hc
    have HF := hide hfb
    have e5 : (c == 5) = false := by simp [c5]
    have e4 : (c == 4) = false := by simp [c4]
    clear hc hfb c4 c5
    go_enter Tryz.func225, Tryz.ntmps225
    go_wp2_with fail
    with_reducible refine (class_64 L b (b % 9223372036854775808) b0 b1 rfl).mono ?_
    rintro e w1 ⟨rfl, K1⟩
    have HK := hide K1
    have L1 := hide (L.below K1)
    have T1 := hide (T.below K1)
    clear K1
    rw [HC.out]
    go_wp2_with fail
    with_reducible refine (int_64 L1.out T1.out b (b % 9223372036854775808) (decide (9223372036854775808 ≤ b)) b0 b1 rfl rfl).mono ?_
    rintro e w2 ⟨va, n2, ok, rfl, hW, hI, K2⟩
    have hok := hide (HF.out _ _ hI)
    obtain ⟨ng2, m2, a2, rfl, ⟨zs2, ⟨ao2, rfl, -⟩, -⟩, -, -⟩ := hW
    clear hI
    have KK := hide (below_trans HK.out K2)
    clear K2
    go_wp2
    go_ret
    refine ⟨?_, KK.out.alloc (by have := KK.out.size; omega) _⟩
    rw [hok.out]
    simp

theorem flr_3 {n1 b e : Int} {g : Bool} {ml kl : Nat} {s : ByteArray} (h : (bits .andNot .u8 (flr n1 g ml b e s kl) 2 == 0) = true) : n1 = 0 ∧ b = 0 ∧ e = 0 ∧ s = ⟨#[]⟩ ∧ kl = 0 := by
  unfold flr at h
  rw [flB_int] at h
  simp [ByteArray.toList_eq] at h
  obtain ⟨⟨⟨⟨h1, h2⟩, h3⟩, h4⟩, h5⟩ := h
  exact ⟨h1, h2, h3, by cases s; simp_all, by omega⟩
theorem flr_4 {n1 b e : Int} {g : Bool} {ml kl : Nat} {s : ByteArray} (h : (bits .andNot .u8 (flr n1 g ml b e s kl) 4 == 0) = true) : n1 = 0 ∧ g = false ∧ ml = 0 ∧ e = 0 ∧ s = ⟨#[]⟩ ∧ kl = 0 := by
  unfold flr at h
  rw [flB_flt] at h
  simp [ByteArray.toList_eq] at h
  obtain ⟨⟨⟨⟨h1, h2, h2'⟩, h3⟩, h4⟩, h5⟩ := h
  exact ⟨h1, h2, by omega, h3, by cases s; simp_all, by omega⟩
theorem nrm_c {g : Bool} {zs : List Int} (ho : Nt.Ok zs) (h : nrmB g zs = true) : Nt.Canon zs ∧ (g = true → 0 < Nt.val zs) := by
  unfold nrmB at h
  by_cases hz : zs.length = 0
  · rw [if_pos hz] at h
    have : zs = [] := List.length_eq_zero_iff.1 hz
    subst this
    refine ⟨⟨ho, fun h => absurd rfl h⟩, fun hg => ?_⟩
    rw [hg] at h
    cases h
  · rw [if_neg hz] at h
    have hc : Nt.Canon zs := ⟨ho, fun _ => by simpa using h⟩
    refine ⟨hc, fun _ => ?_⟩
    have h0 := Nt.val_nonneg ho
    rcases Int.lt_or_eq_of_le h0 with g | g
    · exact g
    · have : zs = [] := Nt.canon_unique hc ⟨fun i => by simp [Nt.lb], fun h => absurd rfl h⟩ (by rw [← g]; rfl)
      rw [this] at hz
      exact absurd rfl hz

/-- every value is a number or none -/
theorem num_dec {w : World} (L : Lays w) (T : Brn w) (U : Uss w) {et : TypeId} {eo : Option Addr} (hE : w.cell? ⟨0, 0, none⟩ = some (.iface et (.pointer eo))) (hEl : 0 < w.heap.size)
    {x : Va} {v : Value} (h : VaRd w v x) {K : Nat} (hK : x.mag.length ≤ K) : (∃ z, NRe w v K z) ∨ NoN w v := by
  obtain ⟨⟨vm, vk, rfl, hm, hk⟩, wf⟩ := h
  have hm' := hm
  obtain ⟨mo, mc, rfl, -, hmx, -⟩ := hm
  obtain ⟨ko, kc, rfl, -, -⟩ := hk.len
  have stop : ∀ {k : Int}, (k = 3 ∨ k = 4) → (∀ W, Below w.heap.size w W → Calls Tryz.prog 112 #[.agg #[.int .i8 k, .int .u64 x.n, .bool x.neg, .slice mo x.mag.length mc, .int .u64 x.bits, .int .i8 x.ext, .string (strOfNums x.text), .slice ko x.kids.length kc]] W fun e W' => e = .returned (.bool false) ∧ Below W.heap.size W W') →
      NoN w (.agg #[.int .i8 k, .int .u64 x.n, .bool x.neg, .slice mo x.mag.length mc, .int .u64 x.bits, .int .i8 x.ext, .string (strOfNums x.text), .slice ko x.kids.length kc]) := fun hk M =>
    ⟨_, _, _, _, _, _, _, _, _, _, _, _, rfl, .inr ⟨hk, fun W hW => check_stop ((hW.cell (p := ⟨0, 0, none⟩) hEl).trans hE) (Nat.lt_of_lt_of_le hEl hW.size) fun W' hW' => M W' (hW.trans (hW'.mono hW.size))⟩⟩
  unfold vaV
  by_cases h3 : x.kind = 3
  · rw [h3]
    have M : ∀ W, Below w.heap.size w W → Calls Tryz.prog 112 #[.agg #[.int .i8 3, .int .u64 x.n, .bool x.neg, .slice mo x.mag.length mc, .int .u64 x.bits, .int .i8 x.ext, .string (strOfNums x.text), .slice ko x.kids.length kc]] W fun e W' => e = .returned (.bool ((bits .andNot .u8 (flr x.n x.neg x.mag.length x.bits x.ext (strOfNums x.text) x.kids.length) 2 == 0) && nrmB x.neg x.mag)) ∧ Below W.heap.size W W' :=
      fun W hW => maybe_b3 (U.below hW) rfl (fun W' hW' => filled_any) (fun W' hW' => fits_b3 fun W'' hW'' => isnormal_b (((hm'.below hW).below hW').below hW''))
    cases hzo : ((bits .andNot .u8 (flr x.n x.neg x.mag.length x.bits x.ext (strOfNums x.text) x.kids.length) 2 == 0) && nrmB x.neg x.mag)
    · rw [hzo] at M
      exact .inr (stop (.inl rfl) M)
    · obtain ⟨e1, e2⟩ := Bool.and_eq_true_iff.1 hzo
      obtain ⟨q1, q2, q3, q4, q5⟩ := flr_3 e1
      obtain ⟨hc, hp⟩ := nrm_c wf.m e2
      rw [q1, q2, q3, q4, q5]
      exact .inl ⟨.w (wn x.neg (Nt.val x.mag)), _, _, _, _, _, rfl, ⟨x.mag, hm', hc, rfl, hK⟩, rfl, hp⟩
  · by_cases h4 : x.kind = 4
    · rw [h4]
      obtain ⟨fb, hfo, hf⟩ := isfloat_d x.bits wf.b0 wf.b1
      have M : ∀ W, Below w.heap.size w W → Calls Tryz.prog 112 #[.agg #[.int .i8 4, .int .u64 x.n, .bool x.neg, .slice mo x.mag.length mc, .int .u64 x.bits, .int .i8 x.ext, .string (strOfNums x.text), .slice ko x.kids.length kc]] W fun e W' => e = .returned (.bool ((bits .andNot .u8 (flr x.n x.neg x.mag.length x.bits x.ext (strOfNums x.text) x.kids.length) 4 == 0) && fb)) ∧ Below W.heap.size W W' :=
        fun W hW => maybe_b4 (U.below hW) rfl (fun W' hW' => filled_any) (fun W' hW' => fits_b4 fun W'' hW'' => hf W'' (((L.below hW).below hW').below hW'') (((T.below hW).below hW').below hW''))
      cases hzo : ((bits .andNot .u8 (flr x.n x.neg x.mag.length x.bits x.ext (strOfNums x.text) x.kids.length) 4 == 0) && fb)
      · rw [hzo] at M
        exact .inr (stop (.inr rfl) M)
      · obtain ⟨e1, e2⟩ := Bool.and_eq_true_iff.1 hzo
        obtain ⟨q1, q2, q3, q4, q5, q6⟩ := flr_4 e1
        rw [q1, q2, q3, q4, q5, q6]
        exact .inl ⟨.f x.bits, _, _, _, _, rfl, hmx, hfo e2⟩
    · exact .inr ⟨_, _, _, _, _, _, _, _, _, _, _, _, rfl, .inl ⟨h3, h4⟩⟩

end Go.Proofs.YtggoobbnibpbkaaGreatDoor

namespace Go.Proofs.YtggoobbnibpbkaaGreatDoor
open Go.RowKit
set_option linter.unusedVariables false

set_option maxHeartbeats 8000000 in
set_option maxRecDepth 20000 in
theorem narrow_e {w : World} (L : Lays w) (T : Brn w) (U : Uss w) {v : Value} {k : Nat} {z : NZ} (h : NRe w v k z) (hk : k ≤ 1048577) : Calls Tryz.prog 25 #[v] w fun e' w' => ∃ wd y ok, e' = .returned (.tuple #[.int .i64 wd, .int .u64 y, .bool ok]) ∧ 0 ≤ y ∧ y < 18446744073709551616 ∧ NarIs z wd y ok ∧ Below w.heap.size w w' := by
  have HA := hide (fun (W : World) (hW : Below w.heap.size w W) => bits_e (L.below hW) (T.below hW) (U.below hW) (h.below hW) hk)
  have HL := hide L
  have HT := hide T
  obtain ⟨a0, a2, a3, a4, a5, a6, ko, kc, rfl⟩ := nre_shape h
  clear L T U h
  go_enter Tryz.func25, Tryz.ntmps25
  go_wp2_with fail
  have K1 := bel_new w (.cells #[.int .i8 a0, .int .u64 0, .bool a2, .slice a3 a4 a5, .int .u64 a6, .int .i8 0, .string ⟨#[]⟩, .slice ko 0 kc] 32)
  with_reducible refine (HA.out _ K1).mono ?_
  rintro e w2 ⟨bb, bk, rfl, b0, b1, hB, K2⟩
  have KK := hide (below_trans K1 K2)
  have HB := hide hB
  clear K1 K2 hB HA
  cases bk
  · go_wp2
    go_ret3
    exact ⟨0, 0, false, rfl, by decide, by decide, ⟨_, _, HB.out, .inl ⟨rfl, rfl, rfl, rfl⟩⟩, KK.out⟩
  · go_wp2_with fail
    with_reducible refine (to_16_64 (HL.out.below KK.out) (HT.out.below KK.out) bb (bb % 9223372036854775808) (decide (9223372036854775808 ≤ bb)) b0 b1 rfl rfl).mono ?_
    rintro e w3 ⟨y16, k16, rfl, p0, p1, hT1, K3⟩
    have KZ := hide (below_trans KK.out K3)
    have HT1 := hide hT1
    clear K3 hT1
    cases k16
    · go_wp2_with fail
      with_reducible refine (to_32_64 (HL.out.below KZ.out) (HT.out.below KZ.out) bb (bb % 9223372036854775808) (decide (9223372036854775808 ≤ bb)) b0 b1 rfl rfl).mono ?_
      rintro e w4 ⟨y32, k32, rfl, q0, q1, hT2, K4⟩
      have KY := hide (below_trans KZ.out K4)
      have HT2 := hide hT2
      clear K4 hT2
      cases k32
      · go_wp2
        go_ret3
        exact ⟨64, bb, true, rfl, b0, b1, ⟨_, _, HB.out, .inr ⟨rfl, rfl, _, _, HT1.out, .inr ⟨rfl, _, _, HT2.out, .inr ⟨rfl, rfl, rfl⟩⟩⟩⟩, KY.out⟩
      · have hw : IntKind.u64.wrap y32 = y32 := by simp only [IntKind.wrap, IntKind.signed, IntKind.bits]; simp; omega
        go_wp2
        go_ret3
        exact ⟨32, y32, true, rfl, q0, by omega, ⟨_, _, HB.out, .inr ⟨rfl, rfl, _, _, HT1.out, .inr ⟨rfl, _, _, HT2.out, .inl ⟨rfl, rfl, rfl⟩⟩⟩⟩, KY.out⟩
    · have hw : IntKind.u64.wrap y16 = y16 := by simp only [IntKind.wrap, IntKind.signed, IntKind.bits]; simp; omega
      go_wp2
      go_ret3
      exact ⟨16, y16, true, rfl, p0, by omega, ⟨_, _, HB.out, .inr ⟨rfl, rfl, _, _, HT1.out, .inl ⟨rfl, rfl, rfl⟩⟩⟩, KZ.out⟩

set_option maxHeartbeats 8000000 in
set_option maxRecDepth 20000 in
theorem sameval_e {w : World} {v v' : Value} {k k' : Nat} {z z' : NZ} (h : NRe w v k z) (h' : NRe w v' k' z') : Calls Tryz.prog 16 #[v, v'] w fun e' w' => e' = .returned (.bool (decide (z = z'))) ∧ Below w.heap.size w w' := by
  cases z with
  | w n =>
    obtain ⟨g1, m1, a1, ko1, kc1, rfl, ⟨xs, hr1, hc1, hv1, -⟩, rfl, hg1⟩ := h
    have H1 := hide hr1
    obtain ⟨o1, c1, rfl, -⟩ := hr1
    cases z' with
    | w n' =>
      obtain ⟨g2, m2, a2, ko2, kc2, rfl, ⟨ys, hr2, hc2, hv2, -⟩, rfl, hg2⟩ := h'
      have H2 := hide hr2
      obtain ⟨o2, c2, rfl, -⟩ := hr2
      have HE := hide (show (g1 == g2 && decide (xs = ys)) = decide (NZ.w (wn g1 a1) = NZ.w (wn g2 a2)) by
        have hn1 := Nt.val_nonneg hc1.1
        have hn2 := Nt.val_nonneg hc2.1
        rw [hv1] at hn1
        rw [hv2] at hn2
        have hxy : xs = ys ↔ a1 = a2 := by rw [canon_one hc1 hc2, hv1, hv2]
        rw [Bool.eq_iff_iff]
        simp only [Bool.and_eq_true, beq_iff_eq, decide_eq_true_eq, NZ.w.injEq, hxy]
        cases g1 <;> cases g2 <;> simp [wn] <;> (try omega)
        · intro h; have := hg2 rfl; omega
        · intro h; have := hg1 rfl; omega)
      generalize xs.length = l1 at *
      generalize ys.length = l2 at *
      clear hc1 hc2 hv1 hv2 hg1 hg2
      go_enter Tryz.func16, Tryz.ntmps16
      go_wp2_with fail
      have B1 := bx8_new w (.int .i8 3) (.int .u64 0) (.bool g1) (.slice o1 l1 c1) (.int .u64 0) (.int .i8 0) (.string ⟨#[]⟩) (.slice ko1 0 kc1) 32
      have K1 := bel_new w (.cells #[.int .i8 3, .int .u64 0, .bool g1, .slice o1 l1 c1, .int .u64 0, .int .i8 0, .string ⟨#[]⟩, .slice ko1 0 kc1] 32)
      have B2 := bx8_new (w.alloc (.cells #[.int .i8 3, .int .u64 0, .bool g1, .slice o1 l1 c1, .int .u64 0, .int .i8 0, .string ⟨#[]⟩, .slice ko1 0 kc1] 32)) (.int .i8 3) (.int .u64 0) (.bool g2) (.slice o2 l2 c2) (.int .u64 0) (.int .i8 0) (.string ⟨#[]⟩) (.slice ko2 0 kc2) 32
      have K2 := bel_new (w.alloc (.cells #[.int .i8 3, .int .u64 0, .bool g1, .slice o1 l1 c1, .int .u64 0, .int .i8 0, .string ⟨#[]⟩, .slice ko1 0 kc1] 32)) (.cells #[.int .i8 3, .int .u64 0, .bool g2, .slice o2 l2 c2, .int .u64 0, .int .i8 0, .string ⟨#[]⟩, .slice ko2 0 kc2] 32)
      have B1' := B1.below K2 B1.lt
      rw [World.size_alloc] at B2
      have KK := hide (below_trans K1 K2)
      with_reducible refine (sameint_any (H1.out.below KK.out) (H2.out.below KK.out)).mono ?_
      rintro e w2 ⟨rfl, K3⟩
      have K3' := hide K3
      obtain ⟨x0, x1, x2, x3, x4, x5, x6, x7⟩ := B1'.below K3 B1'.lt
      obtain ⟨y0, y1, y2, y3, y4, y5, y6, y7⟩ := B2.below K3 B2.lt
      have KZ := hide (below_trans KK.out K3)
      clear K1 K2 K3 K3' B1 B1' B2
      generalize (g1 == g2 && decide (xs = ys)) = q at *
      cases q
      · go_wp2
        go_ret
        exact ⟨by rw [← HE.out]; rfl, KZ.out⟩
      · go_wp2_with fail
        with_reducible refine samevals_nil.mono ?_
        rintro e w3 ⟨rfl, rfl⟩
        go_wp2
        go_ret
        exact ⟨by rw [← HE.out]; rfl, KZ.out⟩
    | f b =>
      obtain ⟨mo2, mc2, ko2, kc2, rfl, hx2, -⟩ := h'
      generalize xs.length = l1 at *
      clear hc1 hv1 hg1
      go_enter Tryz.func16, Tryz.ntmps16
      go_wp2
      go_ret
      exact ⟨by rw [decide_eq_false (by intro h; cases h)]; rfl, (bel_new _ _).alloc (by simp) _⟩
  | f b =>
    obtain ⟨mo1, mc1, ko1, kc1, rfl, hx1, -⟩ := h
    cases z' with
    | w n' =>
      obtain ⟨g2, m2, a2, ko2, kc2, rfl, ⟨ys, ⟨o2, c2, rfl, -⟩, -⟩, -⟩ := h'
      generalize ys.length = l2 at *
      go_enter Tryz.func16, Tryz.ntmps16
      go_wp2
      go_ret
      exact ⟨by rw [decide_eq_false (by intro h; cases h)]; rfl, (bel_new _ _).alloc (by simp) _⟩
    | f b' =>
      obtain ⟨mo2, mc2, ko2, kc2, rfl, hx2, -⟩ := h'
      by_cases hb : b = b'
      · subst hb
        go_enter Tryz.func16, Tryz.ntmps16
        go_wp2_with fail
        have B1 := bx8_new w (.int .i8 4) (.int .u64 0) (.bool false) (.slice mo1 0 mc1) (.int .u64 b) (.int .i8 0) (.string ⟨#[]⟩) (.slice ko1 0 kc1) 32
        have K1 := bel_new w (.cells #[.int .i8 4, .int .u64 0, .bool false, .slice mo1 0 mc1, .int .u64 b, .int .i8 0, .string ⟨#[]⟩, .slice ko1 0 kc1] 32)
        have B2 := bx8_new (w.alloc (.cells #[.int .i8 4, .int .u64 0, .bool false, .slice mo1 0 mc1, .int .u64 b, .int .i8 0, .string ⟨#[]⟩, .slice ko1 0 kc1] 32)) (.int .i8 4) (.int .u64 0) (.bool false) (.slice mo2 0 mc2) (.int .u64 b) (.int .i8 0) (.string ⟨#[]⟩) (.slice ko2 0 kc2) 32
        have K2 := bel_new (w.alloc (.cells #[.int .i8 4, .int .u64 0, .bool false, .slice mo1 0 mc1, .int .u64 b, .int .i8 0, .string ⟨#[]⟩, .slice ko1 0 kc1] 32)) (.cells #[.int .i8 4, .int .u64 0, .bool false, .slice mo2 0 mc2, .int .u64 b, .int .i8 0, .string ⟨#[]⟩, .slice ko2 0 kc2] 32)
        have B1' := B1.below K2 B1.lt
        rw [World.size_alloc] at B2
        have KK := hide (below_trans K1 K2)
        have hn : ∀ (W : World) (o : Option Addr) (c : Nat), c ≤ maxLen → Reads .u32 W (.slice o 0 c) [] := fun W o c hc => ⟨o, c, rfl, Nat.zero_le _, hc, fun h => absurd h (by simp)⟩
        with_reducible refine (sameint_any (hn _ mo1 mc1 hx1) (hn _ mo2 mc2 hx2)).mono ?_
        rintro e w2 ⟨rfl, K3⟩
        have K3' := hide K3
        obtain ⟨x0, x1, x2, x3, x4, x5, x6, x7⟩ := B1'.below K3 B1'.lt
        obtain ⟨y0, y1, y2, y3, y4, y5, y6, y7⟩ := B2.below K3 B2.lt
        have KZ := hide (below_trans KK.out K3)
        clear K1 K2 K3 K3' B1 B1' B2
        rw [show (false == false && decide (([] : List Int) = [])) = true from rfl]
        go_wp2_with fail
        with_reducible refine samevals_nil.mono ?_
        rintro e w3 ⟨rfl, rfl⟩
        go_wp2
        go_ret
        exact ⟨rfl, KZ.out⟩

      · have hbb : (b == b') = false := by simp [hb]
        have HE := hide (show decide (NZ.f b = NZ.f b') = false by rw [decide_eq_false]; intro h; cases h; exact hb rfl)
        go_enter Tryz.func16, Tryz.ntmps16
        go_wp2
        go_ret
        exact ⟨by rw [HE.out]; rfl, (bel_new _ _).alloc (by simp) _⟩


end Go.Proofs.YtggoobbnibpbkaaGreatDoor

namespace Go.Proofs.YtggoobbnibpbkaaGreatDoor
open Go.RowKit
set_option linter.unusedVariables false

theorem zero8_no {W : World} {b : Nat} {t : TypeId} (h : W.heap[b]? = some (.cells #[.int .i8 0, .int .u64 0, .bool false, .slice none 0 0, .int .u64 0, .int .i8 0, .string ⟨#[]⟩, .slice none 0 0] t (0, 0))) (o : Nat) (z : Int) : W.cell? ⟨b, o, none⟩ ≠ some (.int .u32 z) := by
  intro hc
  have h8 := cells8 h
  match o, hc with
  | 0, hc => rw [h8.1] at hc; cases hc
  | 1, hc => rw [h8.2.1] at hc; cases hc
  | 2, hc => rw [h8.2.2.1] at hc; cases hc
  | 3, hc => rw [h8.2.2.2.1] at hc; cases hc
  | 4, hc => rw [h8.2.2.2.2.1] at hc; cases hc
  | 5, hc => rw [h8.2.2.2.2.2.1] at hc; cases hc
  | 6, hc => rw [h8.2.2.2.2.2.2.1] at hc; cases hc
  | 7, hc => rw [h8.2.2.2.2.2.2.2.1] at hc; cases hc
  | o + 8, hc => simp [World.cell?, h] at hc
theorem reads_off {W W' : World} {b : Nat} {v : Value} {zs : List Int} (h : Reads .u32 W v zs) (hne : ∀ o z, W.cell? ⟨b, o, none⟩ ≠ some (.int .u32 z)) (hsz : W.heap.size ≤ W'.heap.size) (hs : ∀ j, j ≠ b → W'.heap[j]? = W.heap[j]?) : Reads .u32 W' v zs := by
  obtain ⟨ao, cap, rfl, h1, h2, h3⟩ := h
  refine ⟨ao, cap, rfl, h1, h2, fun hp => ?_⟩
  obtain ⟨b', off, rfl, h4, h5⟩ := h3 hp
  have hb : b' ≠ b := by
    rintro rfl
    exact hne _ _ (h5 0 hp)
  refine ⟨b', off, rfl, Nat.lt_of_lt_of_le h4 hsz, fun i hi => ?_⟩
  have := h5 i hi
  simp only [World.cell?, hs b' hb] at this ⊢
  exact this
theorem set1_same {w : World} {b o : Nat} {v : Value} {j : Nat} (h : j ≠ b) : (w.setCell ⟨b, o, none⟩ v).heap[j]? = w.heap[j]? := Below.heap_setCell w ⟨b, o, none⟩ v j h
theorem set8_same {w4 : World} {b : Nat} {v0 v1 v2 v3 v4 v5 v6 v7 : Value} {j : Nat} (h : j ≠ b) : ((((((((w4.setCell ⟨b, 0, none⟩ v0).setCell ⟨b, 1, none⟩ v1).setCell ⟨b, 2, none⟩ v2).setCell ⟨b, 3, none⟩ v3).setCell ⟨b, 4, none⟩ v4).setCell ⟨b, 5, none⟩ v5).setCell ⟨b, 6, none⟩ v6).setCell ⟨b, 7, none⟩ v7).heap[j]? = w4.heap[j]? := by
  rw [set1_same h, set1_same h, set1_same h, set1_same h, set1_same h, set1_same h, set1_same h, set1_same h]
theorem NRd.off {W : World} {b k : Nat} {t : TypeId} {v : Value} {z : NZ} {v0 v1 v2 v3 v4 v5 v6 v7 : Value} (h : NRd W v k z) (hg : W.heap[b]? = some (.cells #[.int .i8 0, .int .u64 0, .bool false, .slice none 0 0, .int .u64 0, .int .i8 0, .string ⟨#[]⟩, .slice none 0 0] t (0, 0))) :
    NRd ((((((((W.setCell ⟨b, 0, none⟩ v0).setCell ⟨b, 1, none⟩ v1).setCell ⟨b, 2, none⟩ v2).setCell ⟨b, 3, none⟩ v3).setCell ⟨b, 4, none⟩ v4).setCell ⟨b, 5, none⟩ v5).setCell ⟨b, 6, none⟩ v6).setCell ⟨b, 7, none⟩ v7) v k z := by
  cases z with
  | w n =>
    obtain ⟨g, m, a, h1, ⟨zs, h2, h3⟩, h4⟩ := h
    exact ⟨g, m, a, h1, ⟨zs, reads_off h2 (zero8_no hg) (set8_below (Below.refl 0 W) (Nat.zero_le _)).size fun j hj => set8_same hj, h3⟩, h4⟩
  | f b =>
    obtain ⟨h1, h2⟩ := h
    exact ⟨h1, h2⟩

set_option maxHeartbeats 8000000 in
set_option maxRecDepth 20000 in
theorem read_64 {w : World} (L : Lays w) (T : Brn w) (x : Int) (x0 : 0 ≤ x) (x1 : x < 18446744073709551616) : Calls Tryz.prog 34 #[.int .i64 64, .int .u64 x] w fun e' w' => ∃ v z, e' = .returned v ∧ NRd w' v 100 z ∧ OfIs 9223372036854775808 4503599627370496 (-1074) 9218868437227405312 4503599627370496 (-1074) 9218868437227405312 (x % 9223372036854775808) (decide (9223372036854775808 ≤ x)) z ∧ Below w.heap.size w w' := by
  have HL := hide L
  have HT := hide T
  clear L T
  have G1 : Hid (∀ u, Below (w.alloc (.cells #[.int .i8 0, .int .u64 0, .bool false, .slice none 0 0, .int .u64 0, .int .i8 0, .string ⟨#[]⟩, .slice none 0 0] 32)).heap.size (w.alloc (.cells #[.int .i8 0, .int .u64 0, .bool false, .slice none 0 0, .int .u64 0, .int .i8 0, .string ⟨#[]⟩, .slice none 0 0] 32)) u → u.heap[w.heap.size]? = some (.cells #[.int .i8 0, .int .u64 0, .bool false, .slice none 0 0, .int .u64 0, .int .i8 0, .string ⟨#[]⟩, .slice none 0 0] 32 (0, 0))) := hide fun u hu => (hu.block _ (by simp)).trans (World.alloc_heap_new w _)
  go_enter Tryz.func34, Tryz.ntmps34
  go_wp2_with fail
  have HK1 := hide (bel_new w (.cells #[.int .i8 0, .int .u64 0, .bool false, .slice none 0 0, .int .u64 0, .int .i8 0, .string ⟨#[]⟩, .slice none 0 0] 32))
  generalize w.alloc (.cells #[.int .i8 0, .int .u64 0, .bool false, .slice none 0 0, .int .u64 0, .int .i8 0, .string ⟨#[]⟩, .slice none 0 0] 32) = w1 at *
  with_reducible refine (nof_64 (HL.out.below HK1.out) (HT.out.below HK1.out) x x0 x1).mono ?_
  rintro e w2 ⟨v, z, rfl, hN, hz, K2⟩
  have hg := G1.out w2 K2
  have HG := hide hg
  have HN := hide hN
  have HZ := hide hz
  have HK2 := hide (below_trans HK1.out K2)
  obtain ⟨k3, g, mo, ml, mc, bt, rfl⟩ := nrd_shape hN
  clear K2 hN hz
  obtain ⟨c0, c1, c2, c3, c4, c5, c6, c7, f0, f1, f2, f3, f4, f5, f6, f7⟩ := cells8 hg
  clear hg
  go_wp2
  refine bodyPost_ret (v := .agg #[.int .i8 k3, .int .u64 0, .bool g, .slice mo ml mc, .int .u64 bt, .int .i8 0, .string ⟨#[]⟩, .slice none 0 0]) ?_ rfl ?_
  · rw [results_cellN rfl]
    go_simp
  · exact ⟨_, z, rfl, HN.out.off HG.out, HZ.out, set8_below HK2.out (Nat.le_refl _)⟩

set_option maxHeartbeats 8000000 in
set_option maxRecDepth 20000 in
theorem read_32 {w : World} (L : Lays w) (T : Brn w) (x : Int) (x0 : 0 ≤ x) (x1 : x < 4294967296) : Calls Tryz.prog 34 #[.int .i64 32, .int .u64 x] w fun e' w' => ∃ v z, e' = .returned v ∧ NRd w' v 100 z ∧ OfIs 9223372036854775808 4503599627370496 (-1074) 9218868437227405312 8388608 (-149) 2139095040 (x % 2147483648) (decide (2147483648 ≤ x)) z ∧ Below w.heap.size w w' := by
  have HL := hide L
  have HT := hide T
  clear L T
  have G1 : Hid (∀ u, Below (w.alloc (.cells #[.int .i8 0, .int .u64 0, .bool false, .slice none 0 0, .int .u64 0, .int .i8 0, .string ⟨#[]⟩, .slice none 0 0] 32)).heap.size (w.alloc (.cells #[.int .i8 0, .int .u64 0, .bool false, .slice none 0 0, .int .u64 0, .int .i8 0, .string ⟨#[]⟩, .slice none 0 0] 32)) u → u.heap[w.heap.size]? = some (.cells #[.int .i8 0, .int .u64 0, .bool false, .slice none 0 0, .int .u64 0, .int .i8 0, .string ⟨#[]⟩, .slice none 0 0] 32 (0, 0))) := hide fun u hu => (hu.block _ (by simp)).trans (World.alloc_heap_new w _)
  have hw : IntKind.u32.wrap x = x := by simp only [IntKind.wrap, IntKind.signed, IntKind.bits]; simp; omega
  go_enter Tryz.func34, Tryz.ntmps34
  go_wp2_with fail
  have HK1 := hide (bel_new w (.cells #[.int .i8 0, .int .u64 0, .bool false, .slice none 0 0, .int .u64 0, .int .i8 0, .string ⟨#[]⟩, .slice none 0 0] 32))
  generalize w.alloc (.cells #[.int .i8 0, .int .u64 0, .bool false, .slice none 0 0, .int .u64 0, .int .i8 0, .string ⟨#[]⟩, .slice none 0 0] 32) = w1 at *
  with_reducible refine (nof_32 (HL.out.below HK1.out) (HT.out.below HK1.out) x x0 x1).mono ?_
  rintro e w2 ⟨v, z, rfl, hN, hz, K2⟩
  have hg := G1.out w2 K2
  have HG := hide hg
  have HN := hide hN
  have HZ := hide hz
  have HK2 := hide (below_trans HK1.out K2)
  obtain ⟨k3, g, mo, ml, mc, bt, rfl⟩ := nrd_shape hN
  clear K2 hN hz
  obtain ⟨c0, c1, c2, c3, c4, c5, c6, c7, f0, f1, f2, f3, f4, f5, f6, f7⟩ := cells8 hg
  clear hg
  go_wp2
  refine bodyPost_ret (v := .agg #[.int .i8 k3, .int .u64 0, .bool g, .slice mo ml mc, .int .u64 bt, .int .i8 0, .string ⟨#[]⟩, .slice none 0 0]) ?_ rfl ?_
  · rw [results_cellN rfl]
    go_simp
  · exact ⟨_, z, rfl, HN.out.off HG.out, HZ.out, set8_below HK2.out (Nat.le_refl _)⟩

set_option maxHeartbeats 8000000 in
set_option maxRecDepth 20000 in
theorem read_16 {w : World} (L : Lays w) (T : Brn w) (x : Int) (x0 : 0 ≤ x) (x1 : x < 65536) : Calls Tryz.prog 34 #[.int .i64 16, .int .u64 x] w fun e' w' => ∃ v z, e' = .returned v ∧ NRd w' v 100 z ∧ OfIs 9223372036854775808 4503599627370496 (-1074) 9218868437227405312 1024 (-24) 31744 (x % 32768) (decide (32768 ≤ x)) z ∧ Below w.heap.size w w' := by
  have HL := hide L
  have HT := hide T
  clear L T
  have G1 : Hid (∀ u, Below (w.alloc (.cells #[.int .i8 0, .int .u64 0, .bool false, .slice none 0 0, .int .u64 0, .int .i8 0, .string ⟨#[]⟩, .slice none 0 0] 32)).heap.size (w.alloc (.cells #[.int .i8 0, .int .u64 0, .bool false, .slice none 0 0, .int .u64 0, .int .i8 0, .string ⟨#[]⟩, .slice none 0 0] 32)) u → u.heap[w.heap.size]? = some (.cells #[.int .i8 0, .int .u64 0, .bool false, .slice none 0 0, .int .u64 0, .int .i8 0, .string ⟨#[]⟩, .slice none 0 0] 32 (0, 0))) := hide fun u hu => (hu.block _ (by simp)).trans (World.alloc_heap_new w _)
  have hw : IntKind.u16.wrap x = x := by simp only [IntKind.wrap, IntKind.signed, IntKind.bits]; simp; omega
  go_enter Tryz.func34, Tryz.ntmps34
  go_wp2_with fail
  have HK1 := hide (bel_new w (.cells #[.int .i8 0, .int .u64 0, .bool false, .slice none 0 0, .int .u64 0, .int .i8 0, .string ⟨#[]⟩, .slice none 0 0] 32))
  generalize w.alloc (.cells #[.int .i8 0, .int .u64 0, .bool false, .slice none 0 0, .int .u64 0, .int .i8 0, .string ⟨#[]⟩, .slice none 0 0] 32) = w1 at *
  with_reducible refine (nof_16 (HL.out.below HK1.out) (HT.out.below HK1.out) x x0 x1).mono ?_
  rintro e w2 ⟨v, z, rfl, hN, hz, K2⟩
  have hg := G1.out w2 K2
  have HG := hide hg
  have HN := hide hN
  have HZ := hide hz
  have HK2 := hide (below_trans HK1.out K2)
  obtain ⟨k3, g, mo, ml, mc, bt, rfl⟩ := nrd_shape hN
  clear K2 hN hz
  obtain ⟨c0, c1, c2, c3, c4, c5, c6, c7, f0, f1, f2, f3, f4, f5, f6, f7⟩ := cells8 hg
  clear hg
  go_wp2
  refine bodyPost_ret (v := .agg #[.int .i8 k3, .int .u64 0, .bool g, .slice mo ml mc, .int .u64 bt, .int .i8 0, .string ⟨#[]⟩, .slice none 0 0]) ?_ rfl ?_
  · rw [results_cellN rfl]
    go_simp
  · exact ⟨_, z, rfl, HN.out.off HG.out, HZ.out, set8_below HK2.out (Nat.le_refl _)⟩

end Go.Proofs.YtggoobbnibpbkaaGreatDoor
