import Derived.Test.YticmlelalbaalaaGreatDoorB08
import Derived.Test.YticmlelalbaalaaGreatDoorB38
import Derived.Deep.RegionHeld3
namespace Go.Proofs.YticmlelalbaalaaGreatDoor
open Go.RowKit
theorem WNum.sign {B : Nat} {w : World} {ng : Bool} {m : Value} {n : Int} {k : Nat} (h : WNum B w (.agg #[.bool ng, m]) n k) : (ng = true → n < 0) ∧ (ng = false → 0 ≤ n) := by
  obtain ⟨neg, m', a, e, h1, rfl, h3⟩ := h
  simp at e
  obtain ⟨rfl, rfl⟩ := e
  have := h1.arg.nonneg
  unfold wn
  cases ng
  · exact ⟨fun h => (by cases h), fun _ => this⟩
  · exact ⟨fun _ => (by have h4 := h3 rfl; simp; exact h4), fun h => (by cases h)⟩
set_option maxRecDepth 20000 in
set_option maxHeartbeats 4000000 in
theorem r3norm_any {w : World} {v1 : Value} {n1 : Int} {k1 : Nat} (h1 : WArg w v1 n1 k1) (j1 : k1 ≤ 1099511627776) :
    Calls Tryz.prog 124 #[v1] w fun e w' => ∃ v, e = .returned v ∧ WNum w.heap.size w' v n1 k1 ∧ Below w.heap.size w w' := by
  obtain ⟨neg1, m1, a1, rfl, ha, hn1⟩ := h1
  have A1 := ha
  have N1 := ha.nonneg
  obtain ⟨zs1, ⟨ao1, cap1, rfl, -⟩, -⟩ := ha
  have Hn := hide hn1
  clear hn1
  have K1 : Below w.heap.size w ((w.alloc (.cells #[.bool neg1, .slice ao1 zs1.length cap1] 28)).alloc (.cells #[.bool false, .slice none 0 0] 28)) := below_trans (bel_alloc _ _) (bel_alloc _ _)
  have C1 := (cell2_new w (.bool neg1) (.slice ao1 zs1.length cap1) 28).alloc (.cells #[.bool false, .slice none 0 0] 28)
  have D1 := (after2 (Below.refl _ ((w.alloc (.cells #[.bool neg1, .slice ao1 zs1.length cap1] 28)).alloc (.cells #[.bool false, .slice none 0 0] 28)))).2
  replace A1 := A1.below K1
  have HC := hide C1
  have HD := hide D1
  have lt1 := D1.lt
  clear C1 D1
  go_enter Tryz.func124, Tryz.ntmps124
  go_wp2_with fail
  with_reducible refine (rnorm_any A1 j1).mono ?_
  rintro e w2 ⟨vn, rfl, hN, K⟩
  have d0 := (HD.out.below K).c0
  have d1 := (HD.out.below K).c1
  have g0 := (HD.out.below K).f0
  have g1 := (HD.out.below K).f1
  have p0 := (HC.out.below K).c0
  have hN' := hN
  obtain ⟨xs, ⟨ro, rfl, hm, _⟩, hc, hv, _⟩ := hN
  have hp : (0 : Int) < (xs.length : Int) ↔ 0 < a1 := by
    constructor
    · intro h0
      rcases Int.lt_or_eq_of_le N1 with h2 | h2
      · exact h2
      · have h3 := Nt.canon_unique hc Nt.canon_nil (by rw [hv, ← h2]; rfl)
        rw [h3] at h0; simp at h0
    · intro h0
      rcases Nat.eq_zero_or_pos xs.length with h1 | h1
      · rw [List.eq_nil_of_length_eq_zero h1] at hv
        have : Nt.val [] = 0 := rfl
        omega
      · omega
  unfold maxLen at hm
  have h63 : (xs.length : Int) ≤ 9223372036854775807 := by omega
  have Hp := hide hp
  clear hp hc hv
  cases neg1
  · go_wp2
    have PD := (HD.out.below K).put (.bool false) (.slice ro xs.length xs.length)
    have KB := below_put2 (b := w.heap.size + 1) (K1.trans (K.mono (by have := K1.size; omega))) (by omega) (.bool false) (.slice ro xs.length xs.length)
    have WN : WNum w.heap.size ((w2.setCell ⟨w.heap.size + 1, 0, none⟩ (.bool false)).setCell ⟨w.heap.size + 1, 1, none⟩ (.slice ro xs.length xs.length)) (.agg #[.bool false, .slice ro xs.length xs.length]) n1 k1 := ⟨_, _, a1, rfl, num_low ((hN'.put lt1 0 _).put lt1 1 _) K1.size, Hn.out, fun h => by cases h⟩
    clear d0 d1 g0 g1 p0 hN' K K1 HD HC
    generalize (w2.setCell ⟨w.heap.size + 1, 0, none⟩ (.bool false)).setCell ⟨w.heap.size + 1, 1, none⟩ (.slice ro xs.length xs.length) = w9 at *
    (try simp only [Exit.inBlock, Exit.then])
    exact bodyPost_ret (v := .agg #[.bool false, .slice ro xs.length xs.length]) (by simp [results, Tryz.results124, go_sem, PD.c0, PD.c1]) rfl ⟨_, rfl, WN, KB⟩
  · obtain ⟨bb, hbb⟩ : ∃ bb, bb = decide ((0 : Int) < (xs.length : Int)) := ⟨_, rfl⟩
    have hb2 : decide (0 < xs.length) = bb := by rw [hbb]; exact decide_eq_decide.2 (by omega)
    have hval : n1 = wn bb a1 ∧ (bb = true → 0 < a1) := by
      have h1 := Hp.out
      have h2 := Hn.out
      by_cases h0 : 0 < a1
      · have : bb = true := by rw [hbb]; exact decide_eq_true (h1.2 h0)
        subst this; exact ⟨h2, fun _ => h0⟩
      · have : bb = false := by rw [hbb]; exact decide_eq_false (fun h => h0 (h1.1 h))
        subst this
        refine ⟨?_, fun h => by cases h⟩
        unfold wn at *; simp at h2 ⊢; omega
    have Hval := hide hval
    have hb3 := hbb.symm
    clear hval hbb Hp
    go_wp2
    have PD := (HD.out.below K).put (.bool bb) (.slice ro xs.length xs.length)
    have KB := below_put2 (b := w.heap.size + 1) (K1.trans (K.mono (by have := K1.size; omega))) (by omega) (.bool bb) (.slice ro xs.length xs.length)
    have WN : WNum w.heap.size ((w2.setCell ⟨w.heap.size + 1, 0, none⟩ (.bool bb)).setCell ⟨w.heap.size + 1, 1, none⟩ (.slice ro xs.length xs.length)) (.agg #[.bool bb, .slice ro xs.length xs.length]) n1 k1 := ⟨_, _, a1, rfl, num_low ((hN'.put lt1 0 _).put lt1 1 _) K1.size, Hval.out.1, Hval.out.2⟩
    clear d0 d1 g0 g1 p0 hN' K K1 HD HC
    generalize (w2.setCell ⟨w.heap.size + 1, 0, none⟩ (.bool bb)).setCell ⟨w.heap.size + 1, 1, none⟩ (.slice ro xs.length xs.length) = w9 at *
    (try simp only [Exit.inBlock, Exit.then])
    exact bodyPost_ret (v := .agg #[.bool bb, .slice ro xs.length xs.length]) (by simp [results, Tryz.results124, go_sem, PD.c0, PD.c1]) rfl ⟨_, rfl, WN, KB⟩
theorem field0_int (z : Bool) (m : Value) (w : World) : (Instr.field 28 (.agg #[.bool z, m]) 0).run Tryz.prog w = .ok (.bool z) w := by
  kernel_rfl
set_option maxRecDepth 20000 in
set_option maxHeartbeats 4000000 in
theorem r3below_any {w : World} {v1 : Value} {n1 : Int} {k1 : Nat} (h1 : WArg w v1 n1 k1) (j1 : k1 ≤ 1099511627776) :
    Calls Tryz.prog 88 #[v1] w fun e w' => e = .returned (.bool (decide (n1 < 0))) ∧ Below w.heap.size w w' := by
  have h1' := h1
  obtain ⟨neg1, m1, a1, rfl, ha, hn1⟩ := h1
  obtain ⟨zs1, ⟨ao1, cap1, rfl, -⟩, -⟩ := ha
  have K1 : Below w.heap.size w (w.alloc (.cells #[.bool neg1, .slice ao1 zs1.length cap1] 28)) := bel_alloc _ _
  have H1 := hide (h1'.below K1)
  clear h1' hn1
  go_enter Tryz.func88, Tryz.ntmps88
  go_wp2_with fail
  with_reducible refine (r3norm_any H1.out j1).mono ?_
  rintro e w2 ⟨vn, rfl, hN, K⟩
  obtain ⟨ng, ro, rl, rfl⟩ := hN.told
  have hs := hN.sign
  have hd : decide (n1 < 0) = ng := by
    cases ng
    · exact decide_eq_false (by have := hs.2 rfl; omega)
    · exact decide_eq_true (hs.1 rfl)
  have KB := K1.trans (K.mono K1.size)
  have Hd := hide hd
  clear hs hd hN K K1 H1
  have hfld : (Instr.field 28 (.agg #[.bool ng, .slice ro rl rl]) 0).run Tryz.prog w2 = .ok (.bool ng) w2 := field0_int _ _ _
  go_wp2
  go_ret
  exact ⟨by rw [Hd.out]; rfl, KB⟩
theorem r3below_told {w : World} {v1 : Value} {n1 : Int} {k1 : Nat} {z : Bool} (hz : decide (n1 < 0) = z) (h1 : WArg w v1 n1 k1) (j1 : k1 ≤ 1099511627776) :
    Calls Tryz.prog 88 #[v1] w fun e w' => e = .returned (.bool z) ∧ Below w.heap.size w w' := by
  subst hz
  exact r3below_any h1 j1
set_option maxRecDepth 20000 in
set_option maxHeartbeats 8000000 in
theorem r3cmp_any {w : World} {v1 : Value} {n1 : Int} {k1 : Nat} {v2 : Value} {n2 : Int} {k2 : Nat} (h1 : WArg w v1 n1 k1) (j1 : k1 ≤ 1099511627776) (h2 : WArg w v2 n2 k2) (j2 : k2 ≤ 1099511627776) :
    Calls Tryz.prog 47 #[v1, v2] w fun e w' => e = .returned (.int .i64 (sgn n1 n2)) ∧ Below w.heap.size w w' := by
  have G1 := h1
  obtain ⟨neg1, m1, a1, rfl, ha, hn1⟩ := h1
  have A1 := ha
  obtain ⟨zs1, ⟨ao1, cap1, rfl, -⟩, -⟩ := ha
  have N1 := A1.nonneg
  have hs1 := sg_self hn1 N1
  clear hn1
  have G2 := h2
  obtain ⟨neg2, m2, a2, rfl, ha, hn2⟩ := h2
  have A2 := ha
  obtain ⟨zs2, ⟨ao2, cap2, rfl, -⟩, -⟩ := ha
  have N2 := A2.nonneg
  have hs2 := sg_self hn2 N2
  clear hn2
  unfold Sg at hs1 hs2
  have KB : Below w.heap.size w ((w.alloc (.cells #[.bool neg1, .slice ao1 zs1.length cap1] 28)).alloc (.cells #[.bool neg2, .slice ao2 zs2.length cap2] 28)) := below_trans (bel_alloc _ _) (bel_alloc _ _)
  have C := after2 (Below.refl _ ((w.alloc (.cells #[.bool neg1, .slice ao1 zs1.length cap1] 28)).alloc (.cells #[.bool neg2, .slice ao2 zs2.length cap2] 28)))
  have HC1 := hide C.1
  have HC2 := hide C.2
  clear C
  replace A1 := A1.below KB
  replace G1 := G1.below KB
  replace A2 := A2.below KB
  replace G2 := G2.below KB
  by_cases hx : n1 < 0
  · by_cases hy : n2 < 0
    ·
      have z1 : Hid (decide (n1 < 0) = true) := hide (decide_eq_true hx)
      have z2 : Hid (decide (n2 < 0) = true) := hide (decide_eq_true hy)
      have hv : Hid (sgn a2 a1 = sgn n1 n2) := hide (by rcases sgn_cases a2 a1 with h | h | h <;> rcases sgn_cases n1 n2 with k | k | k <;> omega)
      clear hs1 hs2 hx hy
      go_enter Tryz.func47, Tryz.ntmps47
      have p1 := HC1.out.c0
      have q1 := HC1.out.c1
      have p2 := HC2.out.c0
      have q2 := HC2.out.c1
      go_wp2_with fail
      (with_reducible refine (r3below_told z1.out G1 j1).mono ?_)
      rintro e w3 ⟨rfl, hb⟩
      clear p1 q1 p2 q2
      replace KB := below_trans KB hb
      replace HC1 := hide (HC1.out.below hb)
      replace HC2 := hide (HC2.out.below hb)
      replace A1 := A1.below hb
      replace A2 := A2.below hb
      replace G1 := G1.below hb
      replace G2 := G2.below hb
      clear hb
      have p1 := HC1.out.c0
      have q1 := HC1.out.c1
      have p2 := HC2.out.c0
      have q2 := HC2.out.c1
      go_wp2_with fail
      (with_reducible refine (r3below_told z2.out G2 j2).mono ?_)
      rintro e w4 ⟨rfl, hb⟩
      clear p1 q1 p2 q2
      replace KB := below_trans KB hb
      replace HC1 := hide (HC1.out.below hb)
      replace HC2 := hide (HC2.out.below hb)
      replace A1 := A1.below hb
      replace A2 := A2.below hb
      replace G1 := G1.below hb
      replace G2 := G2.below hb
      clear hb
      have p1 := HC1.out.c0
      have q1 := HC1.out.c1
      have p2 := HC2.out.c0
      have q2 := HC2.out.c1
      go_wp2_with fail
      (with_reducible refine (r3below_told z1.out G1 j1).mono ?_)
      rintro e w5 ⟨rfl, hb⟩
      clear p1 q1 p2 q2
      replace KB := below_trans KB hb
      replace HC1 := hide (HC1.out.below hb)
      replace HC2 := hide (HC2.out.below hb)
      replace A1 := A1.below hb
      replace A2 := A2.below hb
      replace G1 := G1.below hb
      replace G2 := G2.below hb
      clear hb
      have p1 := HC1.out.c0
      have q1 := HC1.out.c1
      have p2 := HC2.out.c0
      have q2 := HC2.out.c1
      go_wp2_with fail
      (with_reducible refine (r3below_told z1.out G1 j1).mono ?_)
      rintro e w6 ⟨rfl, hb⟩
      clear p1 q1 p2 q2
      replace KB := below_trans KB hb
      replace HC1 := hide (HC1.out.below hb)
      replace HC2 := hide (HC2.out.below hb)
      replace A1 := A1.below hb
      replace A2 := A2.below hb
      replace G1 := G1.below hb
      replace G2 := G2.below hb
      clear hb
      have p1 := HC1.out.c0
      have q1 := HC1.out.c1
      have p2 := HC2.out.c0
      have q2 := HC2.out.c1
      go_wp2_with fail
      (with_reducible refine (rcmp_any A2 A1 (by omega) (by omega)).mono ?_)
      rintro e w7 ⟨rfl, hb⟩
      replace KB := below_trans KB hb
      go_wp2
      go_ret
      exact ⟨by rw [← hv.out]; rfl, KB⟩
    ·
      have z1 : Hid (decide (n1 < 0) = true) := hide (decide_eq_true hx)
      have z2 : Hid (decide (n2 < 0) = false) := hide (decide_eq_false hy)
      have hv : Hid (sgn n1 n2 = -1) := hide (sgn_lt (by omega))
      clear hs1 hs2 hx hy
      go_enter Tryz.func47, Tryz.ntmps47
      have p1 := HC1.out.c0
      have q1 := HC1.out.c1
      have p2 := HC2.out.c0
      have q2 := HC2.out.c1
      go_wp2_with fail
      (with_reducible refine (r3below_told z1.out G1 j1).mono ?_)
      rintro e w3 ⟨rfl, hb⟩
      clear p1 q1 p2 q2
      replace KB := below_trans KB hb
      replace HC1 := hide (HC1.out.below hb)
      replace HC2 := hide (HC2.out.below hb)
      replace A1 := A1.below hb
      replace A2 := A2.below hb
      replace G1 := G1.below hb
      replace G2 := G2.below hb
      clear hb
      have p1 := HC1.out.c0
      have q1 := HC1.out.c1
      have p2 := HC2.out.c0
      have q2 := HC2.out.c1
      go_wp2_with fail
      (with_reducible refine (r3below_told z2.out G2 j2).mono ?_)
      rintro e w4 ⟨rfl, hb⟩
      clear p1 q1 p2 q2
      replace KB := below_trans KB hb
      replace HC1 := hide (HC1.out.below hb)
      replace HC2 := hide (HC2.out.below hb)
      replace A1 := A1.below hb
      replace A2 := A2.below hb
      replace G1 := G1.below hb
      replace G2 := G2.below hb
      clear hb
      go_wp2
      go_ret
      exact ⟨by rw [hv.out]; rfl, KB⟩
  · by_cases hy : n2 < 0
    ·
      have z1 : Hid (decide (n1 < 0) = false) := hide (decide_eq_false hx)
      have z2 : Hid (decide (n2 < 0) = true) := hide (decide_eq_true hy)
      have hv : Hid (sgn n1 n2 = 1) := hide (sgn_gt (by omega))
      clear hs1 hs2 hx hy
      go_enter Tryz.func47, Tryz.ntmps47
      have p1 := HC1.out.c0
      have q1 := HC1.out.c1
      have p2 := HC2.out.c0
      have q2 := HC2.out.c1
      go_wp2_with fail
      (with_reducible refine (r3below_told z1.out G1 j1).mono ?_)
      rintro e w3 ⟨rfl, hb⟩
      clear p1 q1 p2 q2
      replace KB := below_trans KB hb
      replace HC1 := hide (HC1.out.below hb)
      replace HC2 := hide (HC2.out.below hb)
      replace A1 := A1.below hb
      replace A2 := A2.below hb
      replace G1 := G1.below hb
      replace G2 := G2.below hb
      clear hb
      have p1 := HC1.out.c0
      have q1 := HC1.out.c1
      have p2 := HC2.out.c0
      have q2 := HC2.out.c1
      go_wp2_with fail
      (with_reducible refine (r3below_told z1.out G1 j1).mono ?_)
      rintro e w4 ⟨rfl, hb⟩
      clear p1 q1 p2 q2
      replace KB := below_trans KB hb
      replace HC1 := hide (HC1.out.below hb)
      replace HC2 := hide (HC2.out.below hb)
      replace A1 := A1.below hb
      replace A2 := A2.below hb
      replace G1 := G1.below hb
      replace G2 := G2.below hb
      clear hb
      have p1 := HC1.out.c0
      have q1 := HC1.out.c1
      have p2 := HC2.out.c0
      have q2 := HC2.out.c1
      go_wp2_with fail
      (with_reducible refine (r3below_told z2.out G2 j2).mono ?_)
      rintro e w5 ⟨rfl, hb⟩
      clear p1 q1 p2 q2
      replace KB := below_trans KB hb
      replace HC1 := hide (HC1.out.below hb)
      replace HC2 := hide (HC2.out.below hb)
      replace A1 := A1.below hb
      replace A2 := A2.below hb
      replace G1 := G1.below hb
      replace G2 := G2.below hb
      clear hb
      go_wp2
      go_ret
      exact ⟨by rw [hv.out]; rfl, KB⟩
    ·
      have z1 : Hid (decide (n1 < 0) = false) := hide (decide_eq_false hx)
      have z2 : Hid (decide (n2 < 0) = false) := hide (decide_eq_false hy)
      have hv : Hid (sgn a1 a2 = sgn n1 n2) := hide (by rcases sgn_cases a1 a2 with h | h | h <;> rcases sgn_cases n1 n2 with k | k | k <;> omega)
      clear hs1 hs2 hx hy
      go_enter Tryz.func47, Tryz.ntmps47
      have p1 := HC1.out.c0
      have q1 := HC1.out.c1
      have p2 := HC2.out.c0
      have q2 := HC2.out.c1
      go_wp2_with fail
      (with_reducible refine (r3below_told z1.out G1 j1).mono ?_)
      rintro e w3 ⟨rfl, hb⟩
      clear p1 q1 p2 q2
      replace KB := below_trans KB hb
      replace HC1 := hide (HC1.out.below hb)
      replace HC2 := hide (HC2.out.below hb)
      replace A1 := A1.below hb
      replace A2 := A2.below hb
      replace G1 := G1.below hb
      replace G2 := G2.below hb
      clear hb
      have p1 := HC1.out.c0
      have q1 := HC1.out.c1
      have p2 := HC2.out.c0
      have q2 := HC2.out.c1
      go_wp2_with fail
      (with_reducible refine (r3below_told z1.out G1 j1).mono ?_)
      rintro e w4 ⟨rfl, hb⟩
      clear p1 q1 p2 q2
      replace KB := below_trans KB hb
      replace HC1 := hide (HC1.out.below hb)
      replace HC2 := hide (HC2.out.below hb)
      replace A1 := A1.below hb
      replace A2 := A2.below hb
      replace G1 := G1.below hb
      replace G2 := G2.below hb
      clear hb
      have p1 := HC1.out.c0
      have q1 := HC1.out.c1
      have p2 := HC2.out.c0
      have q2 := HC2.out.c1
      go_wp2_with fail
      (with_reducible refine (r3below_told z2.out G2 j2).mono ?_)
      rintro e w5 ⟨rfl, hb⟩
      clear p1 q1 p2 q2
      replace KB := below_trans KB hb
      replace HC1 := hide (HC1.out.below hb)
      replace HC2 := hide (HC2.out.below hb)
      replace A1 := A1.below hb
      replace A2 := A2.below hb
      replace G1 := G1.below hb
      replace G2 := G2.below hb
      clear hb
      have p1 := HC1.out.c0
      have q1 := HC1.out.c1
      have p2 := HC2.out.c0
      have q2 := HC2.out.c1
      go_wp2_with fail
      (with_reducible refine (r3below_told z1.out G1 j1).mono ?_)
      rintro e w6 ⟨rfl, hb⟩
      clear p1 q1 p2 q2
      replace KB := below_trans KB hb
      replace HC1 := hide (HC1.out.below hb)
      replace HC2 := hide (HC2.out.below hb)
      replace A1 := A1.below hb
      replace A2 := A2.below hb
      replace G1 := G1.below hb
      replace G2 := G2.below hb
      clear hb
      have p1 := HC1.out.c0
      have q1 := HC1.out.c1
      have p2 := HC2.out.c0
      have q2 := HC2.out.c1
      go_wp2_with fail
      (with_reducible refine (rcmp_any A1 A2 (by omega) (by omega)).mono ?_)
      rintro e w7 ⟨rfl, hb⟩
      replace KB := below_trans KB hb
      go_wp2
      go_ret
      exact ⟨by rw [← hv.out]; rfl, KB⟩
end Go.Proofs.YticmlelalbaalaaGreatDoor
