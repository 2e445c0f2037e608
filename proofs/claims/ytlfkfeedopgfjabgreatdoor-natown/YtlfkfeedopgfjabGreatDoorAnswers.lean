/- answers: what all calls tell of two numbers -/
import Derived.Test.YtlfkfeedopgfjabGreatDoorBook
import Derived.Test.YtlfkfeedopgfjabGreatDoorLives
import Derived.Test.YtlfkfeedopgfjabGreatDoorNorm
import Derived.Test.YtlfkfeedopgfjabGreatDoorSmall
import Derived.Test.YtlfkfeedopgfjabGreatDoorSub
import Derived.Test.YtlfkfeedopgfjabGreatDoorShr
namespace Go.Proofs.YtlfkfeedopgfjabGreatDoor
open Go.RowKit

theorem num_none (B : Nat) (w : World) (k : Nat) : Num B w (.slice none 0 0) 0 k := ⟨[], ⟨none, rfl, by unfold maxLen; simp, fun h => absurd h (by simp)⟩, Nt.canon_nil, rfl, Nat.zero_le _⟩
/-- every number has a length -/
theorem len_exists {xs : List Int} {ka : Nat} (ho : Nt.Ok xs) (hl : xs.length ≤ ka) : ∃ k, IsLen (Nt.val xs) k ∧ k ≤ 32 * ka := by
  have hv := Nt.val_nonneg ho
  have hb := Nt.val_lt ho
  rw [← p2_32] at hb
  have : ∀ m : Nat, ∀ x : Int, 0 ≤ x → x < p2 m → ∃ k, IsLen x k ∧ k ≤ m := by
    intro m
    induction m with
    | zero => intro x h0 h1; exact ⟨0, ⟨h1, fun h => by omega⟩, Nat.le_refl _⟩
    | succ m ih =>
      intro x h0 h1
      by_cases h : x < p2 m
      · obtain ⟨k, hk, hkm⟩ := ih x h0 h; exact ⟨k, hk, by omega⟩
      · exact ⟨m + 1, ⟨h1, fun _ => by rw [Nat.add_sub_cancel]; omega⟩, Nat.le_refl _⟩
  obtain ⟨k, hk, hk2⟩ := this _ _ hv hb
  exact ⟨k, hk, by omega⟩

/-- shifted left where there is room -/
theorem shl_fits {w : World} {va : Value} {A i : Int} {ka N : Nat} (ha : Arg w va A ka) (hi : i = (N : Int)) (hfit : N + 32 * ka ≤ 8388608) :
    Calls Tryz.prog 22 #[va, .int .i64 i] w fun e w' => ∃ v, e = .returned (.tuple #[v, .bool true]) ∧ Num w.heap.size w' v (A * p2 N) (N / 32 + ka + 1) ∧ Below w.heap.size w w' := by
  subst hi
  have hn := ha.nonneg
  by_cases h0 : A = 0
  · subst h0
    refine (shl_zero ha (by omega)).mono ?_
    rintro e w' ⟨rfl, rfl⟩
    exact ⟨_, rfl, by rw [Int.zero_mul]; exact num_none _ _ _, Below.refl _ _⟩
  · obtain ⟨k, hk, hk2⟩ : ∃ k, IsLen A k ∧ k ≤ 32 * ka := by
      obtain ⟨xs, hr, ho, hv, hl⟩ := ha
      subst hv
      exact len_exists ho hl
    exact shl_ok ha (by omega) (by omega) hk hk2 (by omega) (W := N / 32) (s := N % 32) (by omega) (by omega)

/-- shifted right -/
theorem shr_all {w : World} {va : Value} {A i : Int} {ka N : Nat} {b : Bool} (ha : Arg w va A ka) (hka : ka ≤ 1099511627776) (hi : i = (N : Int)) (hN : N ≤ 9223372036854775807) (hb : decide (0 < A % p2 N) = b) :
    Calls Tryz.prog 23 #[va, .int .i64 i] w fun e w' => ∃ v, e = .returned (.tuple #[v, .bool b, .bool true]) ∧ Num w.heap.size w' v (A / p2 N) ka ∧ Below w.heap.size w w' := by
  subst hi
  subst hb
  have hn := ha.nonneg
  by_cases hf : Nt.pw (N / 32) ≤ A
  · exact shr_near ha hka (W := N / 32) (s := N % 32) (by omega) (by omega) hf
  · have hlt : A < p2 N := by
      have h := p2_mono (m := 32 * (N / 32)) (n := N) (by omega)
      rw [p2_32] at h
      omega
    refine (shr_far ha (by omega) (by omega) (by rw [show ((N : Int) / 32).toNat = N / 32 by omega]; omega)).mono ?_
    rintro e w' ⟨rfl, rfl⟩
    rw [Int.emod_eq_of_lt hn hlt, Int.ediv_eq_zero_of_lt hn hlt]
    exact ⟨_, rfl, num_none _ _ _, Below.refl _ _⟩

theorem small_told {w : World} {va : Value} {n : Int} {ka N : Nat} (ha : Arg w va n ka) (hka : ka ≤ 1099511627776) (hN : N ≤ 255) :
    Calls Tryz.prog 24 #[va, .int .u32 (N : Int)] w fun e w' => ∃ v r b, e = .returned (.tuple #[v, .int .u32 r, .bool b]) ∧ Num w.heap.size w' v (n / (N : Int)) ka ∧ Below w.heap.size w w' := by
  by_cases h0 : N = 0
  · subst h0
    refine small_no.mono ?_
    rintro e w' ⟨rfl, rfl⟩
    exact ⟨_, _, _, rfl, by rw [show n / ((0 : Nat) : Int) = 0 by simp]; exact num_none _ _ _, Below.refl _ _⟩
  · refine (small_yes ha hka (d := (N : Int)) (by omega) (by omega)).mono ?_
    rintro e w' ⟨v, rfl, h1, h2⟩
    exact ⟨v, _, _, rfl, h1, h2⟩

theorem Num.form {B : Nat} {w : World} {v : Value} {n : Int} {k : Nat} (h : Num B w v n k) : ∃ ao L, v = .slice ao L L := by
  obtain ⟨zs, ⟨ao, h1, _⟩, _⟩ := h
  exact ⟨ao, _, h1⟩
/-- the block under it lies between -/
def In (lo hi : Nat) (v : Value) : Prop := ∀ k, blk v = some k → lo ≤ k ∧ k < hi
theorem Num.in {B : Nat} {w : World} {v : Value} {n : Int} {k : Nat} (h : Num B w v n k) : In B w.heap.size v := by
  obtain ⟨zs, h1, _⟩ := h
  intro q hq
  exact ⟨h1.lies.2 q hq, h1.lies.1.lt hq⟩
theorem Num.keep {B : Nat} {w w' : World} {v : Value} {n : Int} {k : Nat} (h : Num B w v n k) (hk : ∀ q, blk v = some q → w'.heap[q]? = w.heap[q]?) : Num B w' v n k := by
  obtain ⟨zs, ⟨ao, rfl, h2, h3⟩, h4⟩ := h
  refine ⟨zs, ⟨ao, rfl, h2, fun hp => ?_⟩, h4⟩
  obtain ⟨g, rest, rfl, h5, h6⟩ := h3 hp
  refine ⟨g, rest, rfl, h5, ?_⟩
  unfold Row
  rw [hk g (by cases hz : zs.length with | zero => omega | succ q => rfl)]
  exact h6
theorem Num.lies {B : Nat} {w : World} {v : Value} {n : Int} {k : Nat} (h : Num B w v n k) : ∃ xs c, Lies w v xs c ∧ xs.length ≤ k := by
  obtain ⟨zs, h1, _, _, h2⟩ := h
  exact ⟨zs, _, h1.lies.1, h2⟩
theorem Num.base {B B' : Nat} {w : World} {v : Value} {n : Int} {k : Nat} (h : Num B w v n k) (hB : B' ≤ B) : Num B' w v n k := by
  obtain ⟨zs, ⟨ao, h1, h2, h3⟩, h4⟩ := h
  refine ⟨zs, ⟨ao, h1, h2, fun hp => ?_⟩, h4⟩
  obtain ⟨g, rest, a, b, c⟩ := h3 hp
  exact ⟨g, rest, a, by omega, c⟩

/-- the seven numbers -/
def ans (A B : Int) (N : Nat) : Nat → Int
  | 0 => A
  | 1 => A + B
  | 2 => if A < B then B - A else A - B
  | 3 => A * B
  | 4 => A * p2 N
  | 5 => A / p2 N
  | _ => A / (N : Int)
def Far (u v : Value) : Prop := ∀ k, blk u = some k → blk v ≠ some k
theorem In.far {a b c d : Nat} {u v : Value} (h : In a b u) (k : In c d v) (hh : b ≤ c ∨ d ≤ a) : Far u v := fun q hu hv => by
  have h1 := h q hu
  have h2 := k q hv
  omega
theorem Tryz.size7 : (Tryz.prog.info? 43).map (·.size) = some 7 := by kernel_rfl
/-- seven answers, in memory of their own -/
structure Seven (lo : Nat) (w : World) (A B : Int) (N : Nat) (vs : List Value) : Prop where
  len : vs.length = 7
  num : ∀ i (h : i < vs.length), Num lo w vs[i] (ans A B N i) 4000
  far : vs.Pairwise Far

theorem seven_mk {lo : Nat} {w : World} {A B : Int} {N : Nat} {v0 v1 v2 v3 v4 v5 v6 : Value} (h0 : Num lo w v0 A 4000) (h1 : Num lo w v1 (A + B) 4000) (h2 : Num lo w v2 (if A < B then B - A else A - B) 4000) (h3 : Num lo w v3 (A * B) 4000) (h4 : Num lo w v4 (A * p2 N) 4000) (h5 : Num lo w v5 (A / p2 N) 4000) (h6 : Num lo w v6 (A / (N : Int)) 4000)
    (hf : [v0, v1, v2, v3, v4, v5, v6].Pairwise Far) : Seven lo w A B N [v0, v1, v2, v3, v4, v5, v6] := by
  refine ⟨rfl, fun i h => ?_, hf⟩
  match i, h with
  | 0, _ => exact h0
  | 1, _ => exact h1
  | 2, _ => exact h2
  | 3, _ => exact h3
  | 4, _ => exact h4
  | 5, _ => exact h5
  | 6, _ => exact h6
theorem far7 {v0 v1 v2 v3 v4 v5 v6 : Value} {a0 b0 a1 b1 a2 b2 a3 b3 a4 b4 a5 b5 a6 b6 : Nat} (i2 : In a2 b2 v2) (i4 : In a4 b4 v4) (i5 : In a5 b5 v5) (i6 : In a6 b6 v6) (i0 : In a0 b0 v0) (i1 : In a1 b1 v1) (i3 : In a3 b3 v3)
    (h24 : b2 ≤ a4) (h4 : a4 ≤ b4) (h45 : b4 ≤ a5) (h5 : a5 ≤ b5) (h56 : b5 ≤ a6) (h6 : a6 ≤ b6) (h60 : b6 ≤ a0) (h0 : a0 ≤ b0) (h01 : b0 ≤ a1) (h1 : a1 ≤ b1) (h13 : b1 ≤ a3) : [v0, v1, v2, v3, v4, v5, v6].Pairwise Far := by
  simp only [List.pairwise_cons, List.mem_cons, List.not_mem_nil, or_false, forall_eq_or_imp, forall_eq, and_true, List.Pairwise.nil]
  refine ⟨⟨?_, ?_, ?_, ?_, ?_, ?_⟩, ⟨?_, ?_, ?_, ?_, ?_⟩, ⟨?_, ?_, ?_, ?_⟩, ⟨?_, ?_, ?_⟩, ⟨?_, ?_⟩, ?_, fun _ h => h.elim⟩
  · exact i0.far i1 (by omega)
  · exact i0.far i2 (by omega)
  · exact i0.far i3 (by omega)
  · exact i0.far i4 (by omega)
  · exact i0.far i5 (by omega)
  · exact i0.far i6 (by omega)
  · exact i1.far i2 (by omega)
  · exact i1.far i3 (by omega)
  · exact i1.far i4 (by omega)
  · exact i1.far i5 (by omega)
  · exact i1.far i6 (by omega)
  · exact i2.far i3 (by omega)
  · exact i2.far i4 (by omega)
  · exact i2.far i5 (by omega)
  · exact i2.far i6 (by omega)
  · exact i3.far i4 (by omega)
  · exact i3.far i5 (by omega)
  · exact i3.far i6 (by omega)
  · exact i4.far i5 (by omega)
  · exact i4.far i6 (by omega)
  · exact i5.far i6 (by omega)

theorem set7 {w : World} {g : Nat} {t : TypeId} {a0 a1 a2 a3 a4 a5 a6 : Value} (h : w.heap[g]? = some (.cells #[a0, a1, a2, a3, a4, a5, a6] t (0, 0))) (v0 v1 v2 v3 v4 v5 v6 : Value) :
    (((((((w.setCell ⟨g, 0, none⟩ v0).setCell ⟨g, 1, none⟩ v1).setCell ⟨g, 2, none⟩ v2).setCell ⟨g, 3, none⟩ v3).setCell ⟨g, 4, none⟩ v4).setCell ⟨g, 5, none⟩ v5).setCell ⟨g, 6, none⟩ v6).heap[g]? = some (.cells #[v0, v1, v2, v3, v4, v5, v6] t (0, 0)) := by
  have h0 := heap_setCell_same w g 0 _ t v0 h
  have h1 := heap_setCell_same _ g 1 _ t v1 h0
  have h2 := heap_setCell_same _ g 2 _ t v2 h1
  have h3 := heap_setCell_same _ g 3 _ t v3 h2
  have h4 := heap_setCell_same _ g 4 _ t v4 h3
  have h5 := heap_setCell_same _ g 5 _ t v5 h4
  have h6 := heap_setCell_same _ g 6 _ t v6 h5
  rw [h6]
  rfl
theorem off7 (w : World) (g : Nat) (v0 v1 v2 v3 v4 v5 v6 : Value) {q : Nat} (hq : q ≠ g) :
    (((((((w.setCell ⟨g, 0, none⟩ v0).setCell ⟨g, 1, none⟩ v1).setCell ⟨g, 2, none⟩ v2).setCell ⟨g, 3, none⟩ v3).setCell ⟨g, 4, none⟩ v4).setCell ⟨g, 5, none⟩ v5).setCell ⟨g, 6, none⟩ v6).heap[q]? = w.heap[q]? := by
  rw [heap_setCell_other _ _ q _ hq, heap_setCell_other _ _ q _ hq, heap_setCell_other _ _ q _ hq, heap_setCell_other _ _ q _ hq, heap_setCell_other _ _ q _ hq, heap_setCell_other _ _ q _ hq, heap_setCell_other _ _ q _ hq]
theorem below7 {w0 w : World} {g B : Nat} (h : Below B w0 w) (hg : B ≤ g) (v0 v1 v2 v3 v4 v5 v6 : Value) :
    Below B w0 (((((((w.setCell ⟨g, 0, none⟩ v0).setCell ⟨g, 1, none⟩ v1).setCell ⟨g, 2, none⟩ v2).setCell ⟨g, 3, none⟩ v3).setCell ⟨g, 4, none⟩ v4).setCell ⟨g, 5, none⟩ v5).setCell ⟨g, 6, none⟩ v6) :=
  ((((((h.setCell (p := ⟨g, 0, none⟩) hg _).setCell (p := ⟨g, 1, none⟩) hg _).setCell (p := ⟨g, 2, none⟩) hg _).setCell (p := ⟨g, 3, none⟩) hg _).setCell (p := ⟨g, 4, none⟩) hg _).setCell (p := ⟨g, 5, none⟩) hg _).setCell (p := ⟨g, 6, none⟩) hg _

set_option maxRecDepth 100000 in
set_option maxHeartbeats 2000000 in
theorem answers_0 {w : World} {va vb : Value} {A B : Int} {N : Nat} (h_a : Arg w va A 1024) (h_b : Arg w vb B 1024) (hN : N ≤ 255) (hO : B ≤ A) :
    Calls Tryz.prog 9 #[va, vb, .int .u8 (N : Int)] w fun e w' => ∃ v0 v1 v2 v3 v4 v5 v6, e = .returned (.agg #[v0, v1, v2, v3, v4, v5, v6]) ∧ Seven w.heap.size w' A B N [v0, v1, v2, v3, v4, v5, v6] ∧ Below w.heap.size w w' := by
  have HO := hide hO
  clear hO
  have hW : Below w.heap.size w (w.alloc (.cells #[.slice none 0 0, .slice none 0 0, .slice none 0 0, .slice none 0 0, .slice none 0 0, .slice none 0 0, .slice none 0 0] 43)) := below_alloc _ _
  replace h_a := h_a.below hW
  replace h_b := h_b.below hW
  have hz0 : (w.alloc (.cells #[.slice none 0 0, .slice none 0 0, .slice none 0 0, .slice none 0 0, .slice none 0 0, .slice none 0 0, .slice none 0 0] 43)).heap.size = w.heap.size + 1 := by simp
  have hV := Below.refl (w.alloc (.cells #[.slice none 0 0, .slice none 0 0, .slice none 0 0, .slice none 0 0, .slice none 0 0, .slice none 0 0, .slice none 0 0] 43)).heap.size (w.alloc (.cells #[.slice none 0 0, .slice none 0 0, .slice none 0 0, .slice none 0 0, .slice none 0 0, .slice none 0 0, .slice none 0 0] 43))
  go_enter Tryz.func9, Tryz.ntmps9
  go_wp2_with fail
  refine (sub_yes h_a h_b (by omega) (by omega) HO.out).mono ?_
  rintro e w2 ⟨v_d, rfl, h_d, hB⟩
  replace hV := below_trans hV hB
  have i_d := hide h_d.in
  have s_d := hB.size
  obtain ⟨o_d, l_d, rfl⟩ := h_d.form
  replace hW := below_trans hW hB
  replace h_a := h_a.below hB
  replace h_b := h_b.below hB
  clear hB
  go_wp2_with fail
  refine (shl_fits h_a rfl (by omega)).mono ?_
  rintro e w3 ⟨v_l, rfl, h_l, hB⟩
  replace hV := below_trans hV hB
  have i_l := hide h_l.in
  have s_l := hB.size
  obtain ⟨o_l, l_l, rfl⟩ := h_l.form
  replace hW := below_trans hW hB
  replace h_a := h_a.below hB
  replace h_b := h_b.below hB
  replace h_d := h_d.below hB
  clear hB
  go_wp2_with fail
  refine (shr_all h_a (by omega) rfl (by omega) rfl).mono ?_
  rintro e w4 ⟨v_r, rfl, h_r, hB⟩
  replace hV := below_trans hV hB
  have i_r := hide h_r.in
  have s_r := hB.size
  obtain ⟨o_r, l_r, rfl⟩ := h_r.form
  replace hW := below_trans hW hB
  replace h_a := h_a.below hB
  replace h_b := h_b.below hB
  replace h_d := h_d.below hB
  replace h_l := h_l.below hB
  clear hB
  go_wp2_with fail
  refine (small_told h_a (by omega) hN).mono ?_
  rintro e w5 ⟨v_q, r_q, b_q, rfl, h_q, hB⟩
  replace hV := below_trans hV hB
  have i_q := hide h_q.in
  have s_q := hB.size
  obtain ⟨o_q, l_q, rfl⟩ := h_q.form
  replace hW := below_trans hW hB
  replace h_a := h_a.below hB
  replace h_b := h_b.below hB
  replace h_d := h_d.below hB
  replace h_l := h_l.below hB
  replace h_r := h_r.below hB
  clear hB
  go_wp2_with fail
  refine (norm_any h_a (by omega)).mono ?_
  rintro e w6 ⟨v_n, rfl, h_n, hB⟩
  replace hV := below_trans hV hB
  have i_n := hide h_n.in
  have s_n := hB.size
  obtain ⟨o_n, l_n, rfl⟩ := h_n.form
  replace hW := below_trans hW hB
  replace h_a := h_a.below hB
  replace h_b := h_b.below hB
  replace h_d := h_d.below hB
  replace h_l := h_l.below hB
  replace h_r := h_r.below hB
  replace h_q := h_q.below hB
  clear hB
  go_wp2_with fail
  refine (add_any h_a h_b (by omega) (by omega)).mono ?_
  rintro e w7 ⟨v_p, rfl, h_p, hB⟩
  replace hV := below_trans hV hB
  have i_p := hide h_p.in
  have s_p := hB.size
  obtain ⟨o_p, l_p, rfl⟩ := h_p.form
  replace hW := below_trans hW hB
  replace h_a := h_a.below hB
  replace h_b := h_b.below hB
  replace h_d := h_d.below hB
  replace h_l := h_l.below hB
  replace h_r := h_r.below hB
  replace h_q := h_q.below hB
  replace h_n := h_n.below hB
  clear hB
  go_wp2_with fail
  refine (mul_any h_a h_b (by omega) (by omega)).mono ?_
  rintro e w8 ⟨v_m, rfl, h_m, hB⟩
  replace hV := below_trans hV hB
  have i_m := hide h_m.in
  have s_m := hB.size
  obtain ⟨o_m, l_m, rfl⟩ := h_m.form
  replace hW := below_trans hW hB
  replace h_d := h_d.below hB
  replace h_l := h_l.below hB
  replace h_r := h_r.below hB
  replace h_q := h_q.below hB
  replace h_n := h_n.below hB
  replace h_p := h_p.below hB
  clear hB h_a h_b
  have hblk := hV.block w.heap.size (by rw [hz0]; omega)
  rw [heap_alloc_new] at hblk
  have c_0 := cell_of_row _ w.heap.size 0 _ _ _ hblk
  have f_0 := frozen_of_row _ w.heap.size 0 _ _ hblk
  have c_1 := cell_of_row _ w.heap.size 1 _ _ _ hblk
  have f_1 := frozen_of_row _ w.heap.size 1 _ _ hblk
  have c_2 := cell_of_row _ w.heap.size 2 _ _ _ hblk
  have f_2 := frozen_of_row _ w.heap.size 2 _ _ hblk
  have c_3 := cell_of_row _ w.heap.size 3 _ _ _ hblk
  have f_3 := frozen_of_row _ w.heap.size 3 _ _ hblk
  have c_4 := cell_of_row _ w.heap.size 4 _ _ _ hblk
  have f_4 := frozen_of_row _ w.heap.size 4 _ _ hblk
  have c_5 := cell_of_row _ w.heap.size 5 _ _ _ hblk
  have f_5 := frozen_of_row _ w.heap.size 5 _ _ hblk
  have c_6 := cell_of_row _ w.heap.size 6 _ _ _ hblk
  have f_6 := frozen_of_row _ w.heap.size 6 _ _ hblk
  simp at c_0 c_1 c_2 c_3 c_4 c_5 c_6
  have h9 := set7 hblk (.slice o_n l_n l_n) (.slice o_p l_p l_p) (.slice o_d l_d l_d) (.slice o_m l_m l_m) (.slice o_l l_l l_l) (.slice o_r l_r l_r) (.slice o_q l_q l_q)
  have e_0 := hide (show (((((((w8.setCell ⟨w.heap.size, 0, none⟩ (.slice o_n l_n l_n)).setCell ⟨w.heap.size, 1, none⟩ (.slice o_p l_p l_p)).setCell ⟨w.heap.size, 2, none⟩ (.slice o_d l_d l_d)).setCell ⟨w.heap.size, 3, none⟩ (.slice o_m l_m l_m)).setCell ⟨w.heap.size, 4, none⟩ (.slice o_l l_l l_l)).setCell ⟨w.heap.size, 5, none⟩ (.slice o_r l_r l_r)).setCell ⟨w.heap.size, 6, none⟩ (.slice o_q l_q l_q)).cell? ⟨w.heap.size, 0, none⟩ = some (.slice o_n l_n l_n) from cell_of_row _ w.heap.size 0 _ _ _ h9)
  have e_1 := hide (show (((((((w8.setCell ⟨w.heap.size, 0, none⟩ (.slice o_n l_n l_n)).setCell ⟨w.heap.size, 1, none⟩ (.slice o_p l_p l_p)).setCell ⟨w.heap.size, 2, none⟩ (.slice o_d l_d l_d)).setCell ⟨w.heap.size, 3, none⟩ (.slice o_m l_m l_m)).setCell ⟨w.heap.size, 4, none⟩ (.slice o_l l_l l_l)).setCell ⟨w.heap.size, 5, none⟩ (.slice o_r l_r l_r)).setCell ⟨w.heap.size, 6, none⟩ (.slice o_q l_q l_q)).cell? ⟨w.heap.size, 1, none⟩ = some (.slice o_p l_p l_p) from cell_of_row _ w.heap.size 1 _ _ _ h9)
  have e_2 := hide (show (((((((w8.setCell ⟨w.heap.size, 0, none⟩ (.slice o_n l_n l_n)).setCell ⟨w.heap.size, 1, none⟩ (.slice o_p l_p l_p)).setCell ⟨w.heap.size, 2, none⟩ (.slice o_d l_d l_d)).setCell ⟨w.heap.size, 3, none⟩ (.slice o_m l_m l_m)).setCell ⟨w.heap.size, 4, none⟩ (.slice o_l l_l l_l)).setCell ⟨w.heap.size, 5, none⟩ (.slice o_r l_r l_r)).setCell ⟨w.heap.size, 6, none⟩ (.slice o_q l_q l_q)).cell? ⟨w.heap.size, 2, none⟩ = some (.slice o_d l_d l_d) from cell_of_row _ w.heap.size 2 _ _ _ h9)
  have e_3 := hide (show (((((((w8.setCell ⟨w.heap.size, 0, none⟩ (.slice o_n l_n l_n)).setCell ⟨w.heap.size, 1, none⟩ (.slice o_p l_p l_p)).setCell ⟨w.heap.size, 2, none⟩ (.slice o_d l_d l_d)).setCell ⟨w.heap.size, 3, none⟩ (.slice o_m l_m l_m)).setCell ⟨w.heap.size, 4, none⟩ (.slice o_l l_l l_l)).setCell ⟨w.heap.size, 5, none⟩ (.slice o_r l_r l_r)).setCell ⟨w.heap.size, 6, none⟩ (.slice o_q l_q l_q)).cell? ⟨w.heap.size, 3, none⟩ = some (.slice o_m l_m l_m) from cell_of_row _ w.heap.size 3 _ _ _ h9)
  have e_4 := hide (show (((((((w8.setCell ⟨w.heap.size, 0, none⟩ (.slice o_n l_n l_n)).setCell ⟨w.heap.size, 1, none⟩ (.slice o_p l_p l_p)).setCell ⟨w.heap.size, 2, none⟩ (.slice o_d l_d l_d)).setCell ⟨w.heap.size, 3, none⟩ (.slice o_m l_m l_m)).setCell ⟨w.heap.size, 4, none⟩ (.slice o_l l_l l_l)).setCell ⟨w.heap.size, 5, none⟩ (.slice o_r l_r l_r)).setCell ⟨w.heap.size, 6, none⟩ (.slice o_q l_q l_q)).cell? ⟨w.heap.size, 4, none⟩ = some (.slice o_l l_l l_l) from cell_of_row _ w.heap.size 4 _ _ _ h9)
  have e_5 := hide (show (((((((w8.setCell ⟨w.heap.size, 0, none⟩ (.slice o_n l_n l_n)).setCell ⟨w.heap.size, 1, none⟩ (.slice o_p l_p l_p)).setCell ⟨w.heap.size, 2, none⟩ (.slice o_d l_d l_d)).setCell ⟨w.heap.size, 3, none⟩ (.slice o_m l_m l_m)).setCell ⟨w.heap.size, 4, none⟩ (.slice o_l l_l l_l)).setCell ⟨w.heap.size, 5, none⟩ (.slice o_r l_r l_r)).setCell ⟨w.heap.size, 6, none⟩ (.slice o_q l_q l_q)).cell? ⟨w.heap.size, 5, none⟩ = some (.slice o_r l_r l_r) from cell_of_row _ w.heap.size 5 _ _ _ h9)
  have e_6 := hide (show (((((((w8.setCell ⟨w.heap.size, 0, none⟩ (.slice o_n l_n l_n)).setCell ⟨w.heap.size, 1, none⟩ (.slice o_p l_p l_p)).setCell ⟨w.heap.size, 2, none⟩ (.slice o_d l_d l_d)).setCell ⟨w.heap.size, 3, none⟩ (.slice o_m l_m l_m)).setCell ⟨w.heap.size, 4, none⟩ (.slice o_l l_l l_l)).setCell ⟨w.heap.size, 5, none⟩ (.slice o_r l_r l_r)).setCell ⟨w.heap.size, 6, none⟩ (.slice o_q l_q l_q)).cell? ⟨w.heap.size, 6, none⟩ = some (.slice o_q l_q l_q) from cell_of_row _ w.heap.size 6 _ _ _ h9)
  have hfin : Seven w.heap.size (((((((w8.setCell ⟨w.heap.size, 0, none⟩ (.slice o_n l_n l_n)).setCell ⟨w.heap.size, 1, none⟩ (.slice o_p l_p l_p)).setCell ⟨w.heap.size, 2, none⟩ (.slice o_d l_d l_d)).setCell ⟨w.heap.size, 3, none⟩ (.slice o_m l_m l_m)).setCell ⟨w.heap.size, 4, none⟩ (.slice o_l l_l l_l)).setCell ⟨w.heap.size, 5, none⟩ (.slice o_r l_r l_r)).setCell ⟨w.heap.size, 6, none⟩ (.slice o_q l_q l_q)) A B N [.slice o_n l_n l_n, .slice o_p l_p l_p, .slice o_d l_d l_d, .slice o_m l_m l_m, .slice o_l l_l l_l, .slice o_r l_r l_r, .slice o_q l_q l_q] ∧ Below w.heap.size w (((((((w8.setCell ⟨w.heap.size, 0, none⟩ (.slice o_n l_n l_n)).setCell ⟨w.heap.size, 1, none⟩ (.slice o_p l_p l_p)).setCell ⟨w.heap.size, 2, none⟩ (.slice o_d l_d l_d)).setCell ⟨w.heap.size, 3, none⟩ (.slice o_m l_m l_m)).setCell ⟨w.heap.size, 4, none⟩ (.slice o_l l_l l_l)).setCell ⟨w.heap.size, 5, none⟩ (.slice o_r l_r l_r)).setCell ⟨w.heap.size, 6, none⟩ (.slice o_q l_q l_q)) := by
    have hfar := far7 i_d.out i_l.out i_r.out i_q.out i_n.out i_p.out i_m.out (Nat.le_refl _) s_l (Nat.le_refl _) s_r (Nat.le_refl _) s_q (Nat.le_refl _) s_n (Nat.le_refl _) s_p (Nat.le_refl _)
    have hk : ∀ {lo : Nat} {v : Value} {n : Int} {k : Nat}, Num lo w8 v n k → w.heap.size + 1 ≤ lo → k ≤ 4000 → (∀ q, blk v = some q → lo ≤ q) → Num w.heap.size (((((((w8.setCell ⟨w.heap.size, 0, none⟩ (.slice o_n l_n l_n)).setCell ⟨w.heap.size, 1, none⟩ (.slice o_p l_p l_p)).setCell ⟨w.heap.size, 2, none⟩ (.slice o_d l_d l_d)).setCell ⟨w.heap.size, 3, none⟩ (.slice o_m l_m l_m)).setCell ⟨w.heap.size, 4, none⟩ (.slice o_l l_l l_l)).setCell ⟨w.heap.size, 5, none⟩ (.slice o_r l_r l_r)).setCell ⟨w.heap.size, 6, none⟩ (.slice o_q l_q l_q)) v n 4000 := by
      intro lo v n k hn hlo hk4 hq
      refine ((hn.keep (fun q hb => ?_)).base (by omega)).mono hk4
      have h1 := hq q hb
      exact off7 _ _ _ _ _ _ _ _ _ (by omega)
    refine ⟨seven_mk ?_ ?_ ?_ ?_ ?_ ?_ ?_ hfar, below7 hW (Nat.le_refl _) _ _ _ _ _ _ _⟩
    · exact hk h_n (by omega) (by omega) (fun q hq => (i_n.out q hq).1)
    · exact hk h_p (by omega) (by omega) (fun q hq => (i_p.out q hq).1)
    · rw [if_neg (by have := HO.out; omega)]
      exact hk h_d (by omega) (by omega) (fun q hq => (i_d.out q hq).1)
    · exact hk h_m (by omega) (by omega) (fun q hq => (i_m.out q hq).1)
    · exact hk h_l (by omega) (by omega) (fun q hq => (i_l.out q hq).1)
    · exact hk h_r (by omega) (by omega) (fun q hq => (i_r.out q hq).1)
    · exact hk h_q (by omega) (by omega) (fun q hq => (i_q.out q hq).1)
  have Hfin := hide hfin
  clear hfin h9 hblk h_n h_p h_d h_m h_l h_r h_q hV hW i_n i_p i_d i_m i_l i_r i_q
  go_wp2
  generalize (((((((w8.setCell ⟨w.heap.size, 0, none⟩ (.slice o_n l_n l_n)).setCell ⟨w.heap.size, 1, none⟩ (.slice o_p l_p l_p)).setCell ⟨w.heap.size, 2, none⟩ (.slice o_d l_d l_d)).setCell ⟨w.heap.size, 3, none⟩ (.slice o_m l_m l_m)).setCell ⟨w.heap.size, 4, none⟩ (.slice o_l l_l l_l)).setCell ⟨w.heap.size, 5, none⟩ (.slice o_r l_r l_r)).setCell ⟨w.heap.size, 6, none⟩ (.slice o_q l_q l_q)) = w99 at Hfin e_0 e_1 e_2 e_3 e_4 e_5 e_6 ⊢
  exact bodyPost_ret (v := .agg #[.slice o_n l_n l_n, .slice o_p l_p l_p, .slice o_d l_d l_d, .slice o_m l_m l_m, .slice o_l l_l l_l, .slice o_r l_r l_r, .slice o_q l_q l_q]) (by simp [results, Tryz.results9, go_sem, e_0.out, e_1.out, e_2.out, e_3.out, e_4.out, e_5.out, e_6.out]) rfl ⟨_, _, _, _, _, _, _, rfl, Hfin.out⟩

set_option maxRecDepth 100000 in
set_option maxHeartbeats 2000000 in
theorem answers_1 {w : World} {va vb : Value} {A B : Int} {N : Nat} (h_a : Arg w va A 1024) (h_b : Arg w vb B 1024) (hN : N ≤ 255) (hO : A < B) :
    Calls Tryz.prog 9 #[va, vb, .int .u8 (N : Int)] w fun e w' => ∃ v0 v1 v2 v3 v4 v5 v6, e = .returned (.agg #[v0, v1, v2, v3, v4, v5, v6]) ∧ Seven w.heap.size w' A B N [v0, v1, v2, v3, v4, v5, v6] ∧ Below w.heap.size w w' := by
  have HO := hide hO
  clear hO
  have hW : Below w.heap.size w (w.alloc (.cells #[.slice none 0 0, .slice none 0 0, .slice none 0 0, .slice none 0 0, .slice none 0 0, .slice none 0 0, .slice none 0 0] 43)) := below_alloc _ _
  replace h_a := h_a.below hW
  replace h_b := h_b.below hW
  have hz0 : (w.alloc (.cells #[.slice none 0 0, .slice none 0 0, .slice none 0 0, .slice none 0 0, .slice none 0 0, .slice none 0 0, .slice none 0 0] 43)).heap.size = w.heap.size + 1 := by simp
  have hV := Below.refl (w.alloc (.cells #[.slice none 0 0, .slice none 0 0, .slice none 0 0, .slice none 0 0, .slice none 0 0, .slice none 0 0, .slice none 0 0] 43)).heap.size (w.alloc (.cells #[.slice none 0 0, .slice none 0 0, .slice none 0 0, .slice none 0 0, .slice none 0 0, .slice none 0 0, .slice none 0 0] 43))
  go_enter Tryz.func9, Tryz.ntmps9
  go_wp2_with fail
  refine (sub_no h_a h_b (by omega) (by omega) HO.out).mono ?_
  rintro e w2 ⟨rfl, hB⟩
  replace hV := below_trans hV hB
  have s_0 := hB.size
  replace hW := below_trans hW hB
  replace h_a := h_a.below hB
  replace h_b := h_b.below hB
  clear hB
  go_wp2_with fail
  refine (sub_yes h_b h_a (by omega) (by omega) (Int.le_of_lt HO.out)).mono ?_
  rintro e w3 ⟨v_d, rfl, h_d, hB⟩
  replace hV := below_trans hV hB
  have i_d := hide h_d.in
  have s_d := hB.size
  obtain ⟨o_d, l_d, rfl⟩ := h_d.form
  replace hW := below_trans hW hB
  replace h_a := h_a.below hB
  replace h_b := h_b.below hB
  clear hB
  go_wp2_with fail
  refine (shl_fits h_a rfl (by omega)).mono ?_
  rintro e w4 ⟨v_l, rfl, h_l, hB⟩
  replace hV := below_trans hV hB
  have i_l := hide h_l.in
  have s_l := hB.size
  obtain ⟨o_l, l_l, rfl⟩ := h_l.form
  replace hW := below_trans hW hB
  replace h_a := h_a.below hB
  replace h_b := h_b.below hB
  replace h_d := h_d.below hB
  clear hB
  go_wp2_with fail
  refine (shr_all h_a (by omega) rfl (by omega) rfl).mono ?_
  rintro e w5 ⟨v_r, rfl, h_r, hB⟩
  replace hV := below_trans hV hB
  have i_r := hide h_r.in
  have s_r := hB.size
  obtain ⟨o_r, l_r, rfl⟩ := h_r.form
  replace hW := below_trans hW hB
  replace h_a := h_a.below hB
  replace h_b := h_b.below hB
  replace h_d := h_d.below hB
  replace h_l := h_l.below hB
  clear hB
  go_wp2_with fail
  refine (small_told h_a (by omega) hN).mono ?_
  rintro e w6 ⟨v_q, r_q, b_q, rfl, h_q, hB⟩
  replace hV := below_trans hV hB
  have i_q := hide h_q.in
  have s_q := hB.size
  obtain ⟨o_q, l_q, rfl⟩ := h_q.form
  replace hW := below_trans hW hB
  replace h_a := h_a.below hB
  replace h_b := h_b.below hB
  replace h_d := h_d.below hB
  replace h_l := h_l.below hB
  replace h_r := h_r.below hB
  clear hB
  go_wp2_with fail
  refine (norm_any h_a (by omega)).mono ?_
  rintro e w7 ⟨v_n, rfl, h_n, hB⟩
  replace hV := below_trans hV hB
  have i_n := hide h_n.in
  have s_n := hB.size
  obtain ⟨o_n, l_n, rfl⟩ := h_n.form
  replace hW := below_trans hW hB
  replace h_a := h_a.below hB
  replace h_b := h_b.below hB
  replace h_d := h_d.below hB
  replace h_l := h_l.below hB
  replace h_r := h_r.below hB
  replace h_q := h_q.below hB
  clear hB
  go_wp2_with fail
  refine (add_any h_a h_b (by omega) (by omega)).mono ?_
  rintro e w8 ⟨v_p, rfl, h_p, hB⟩
  replace hV := below_trans hV hB
  have i_p := hide h_p.in
  have s_p := hB.size
  obtain ⟨o_p, l_p, rfl⟩ := h_p.form
  replace hW := below_trans hW hB
  replace h_a := h_a.below hB
  replace h_b := h_b.below hB
  replace h_d := h_d.below hB
  replace h_l := h_l.below hB
  replace h_r := h_r.below hB
  replace h_q := h_q.below hB
  replace h_n := h_n.below hB
  clear hB
  go_wp2_with fail
  refine (mul_any h_a h_b (by omega) (by omega)).mono ?_
  rintro e w9 ⟨v_m, rfl, h_m, hB⟩
  replace hV := below_trans hV hB
  have i_m := hide h_m.in
  have s_m := hB.size
  obtain ⟨o_m, l_m, rfl⟩ := h_m.form
  replace hW := below_trans hW hB
  replace h_d := h_d.below hB
  replace h_l := h_l.below hB
  replace h_r := h_r.below hB
  replace h_q := h_q.below hB
  replace h_n := h_n.below hB
  replace h_p := h_p.below hB
  clear hB h_a h_b
  have hblk := hV.block w.heap.size (by rw [hz0]; omega)
  rw [heap_alloc_new] at hblk
  have c_0 := cell_of_row _ w.heap.size 0 _ _ _ hblk
  have f_0 := frozen_of_row _ w.heap.size 0 _ _ hblk
  have c_1 := cell_of_row _ w.heap.size 1 _ _ _ hblk
  have f_1 := frozen_of_row _ w.heap.size 1 _ _ hblk
  have c_2 := cell_of_row _ w.heap.size 2 _ _ _ hblk
  have f_2 := frozen_of_row _ w.heap.size 2 _ _ hblk
  have c_3 := cell_of_row _ w.heap.size 3 _ _ _ hblk
  have f_3 := frozen_of_row _ w.heap.size 3 _ _ hblk
  have c_4 := cell_of_row _ w.heap.size 4 _ _ _ hblk
  have f_4 := frozen_of_row _ w.heap.size 4 _ _ hblk
  have c_5 := cell_of_row _ w.heap.size 5 _ _ _ hblk
  have f_5 := frozen_of_row _ w.heap.size 5 _ _ hblk
  have c_6 := cell_of_row _ w.heap.size 6 _ _ _ hblk
  have f_6 := frozen_of_row _ w.heap.size 6 _ _ hblk
  simp at c_0 c_1 c_2 c_3 c_4 c_5 c_6
  have h9 := set7 hblk (.slice o_n l_n l_n) (.slice o_p l_p l_p) (.slice o_d l_d l_d) (.slice o_m l_m l_m) (.slice o_l l_l l_l) (.slice o_r l_r l_r) (.slice o_q l_q l_q)
  have e_0 := hide (show (((((((w9.setCell ⟨w.heap.size, 0, none⟩ (.slice o_n l_n l_n)).setCell ⟨w.heap.size, 1, none⟩ (.slice o_p l_p l_p)).setCell ⟨w.heap.size, 2, none⟩ (.slice o_d l_d l_d)).setCell ⟨w.heap.size, 3, none⟩ (.slice o_m l_m l_m)).setCell ⟨w.heap.size, 4, none⟩ (.slice o_l l_l l_l)).setCell ⟨w.heap.size, 5, none⟩ (.slice o_r l_r l_r)).setCell ⟨w.heap.size, 6, none⟩ (.slice o_q l_q l_q)).cell? ⟨w.heap.size, 0, none⟩ = some (.slice o_n l_n l_n) from cell_of_row _ w.heap.size 0 _ _ _ h9)
  have e_1 := hide (show (((((((w9.setCell ⟨w.heap.size, 0, none⟩ (.slice o_n l_n l_n)).setCell ⟨w.heap.size, 1, none⟩ (.slice o_p l_p l_p)).setCell ⟨w.heap.size, 2, none⟩ (.slice o_d l_d l_d)).setCell ⟨w.heap.size, 3, none⟩ (.slice o_m l_m l_m)).setCell ⟨w.heap.size, 4, none⟩ (.slice o_l l_l l_l)).setCell ⟨w.heap.size, 5, none⟩ (.slice o_r l_r l_r)).setCell ⟨w.heap.size, 6, none⟩ (.slice o_q l_q l_q)).cell? ⟨w.heap.size, 1, none⟩ = some (.slice o_p l_p l_p) from cell_of_row _ w.heap.size 1 _ _ _ h9)
  have e_2 := hide (show (((((((w9.setCell ⟨w.heap.size, 0, none⟩ (.slice o_n l_n l_n)).setCell ⟨w.heap.size, 1, none⟩ (.slice o_p l_p l_p)).setCell ⟨w.heap.size, 2, none⟩ (.slice o_d l_d l_d)).setCell ⟨w.heap.size, 3, none⟩ (.slice o_m l_m l_m)).setCell ⟨w.heap.size, 4, none⟩ (.slice o_l l_l l_l)).setCell ⟨w.heap.size, 5, none⟩ (.slice o_r l_r l_r)).setCell ⟨w.heap.size, 6, none⟩ (.slice o_q l_q l_q)).cell? ⟨w.heap.size, 2, none⟩ = some (.slice o_d l_d l_d) from cell_of_row _ w.heap.size 2 _ _ _ h9)
  have e_3 := hide (show (((((((w9.setCell ⟨w.heap.size, 0, none⟩ (.slice o_n l_n l_n)).setCell ⟨w.heap.size, 1, none⟩ (.slice o_p l_p l_p)).setCell ⟨w.heap.size, 2, none⟩ (.slice o_d l_d l_d)).setCell ⟨w.heap.size, 3, none⟩ (.slice o_m l_m l_m)).setCell ⟨w.heap.size, 4, none⟩ (.slice o_l l_l l_l)).setCell ⟨w.heap.size, 5, none⟩ (.slice o_r l_r l_r)).setCell ⟨w.heap.size, 6, none⟩ (.slice o_q l_q l_q)).cell? ⟨w.heap.size, 3, none⟩ = some (.slice o_m l_m l_m) from cell_of_row _ w.heap.size 3 _ _ _ h9)
  have e_4 := hide (show (((((((w9.setCell ⟨w.heap.size, 0, none⟩ (.slice o_n l_n l_n)).setCell ⟨w.heap.size, 1, none⟩ (.slice o_p l_p l_p)).setCell ⟨w.heap.size, 2, none⟩ (.slice o_d l_d l_d)).setCell ⟨w.heap.size, 3, none⟩ (.slice o_m l_m l_m)).setCell ⟨w.heap.size, 4, none⟩ (.slice o_l l_l l_l)).setCell ⟨w.heap.size, 5, none⟩ (.slice o_r l_r l_r)).setCell ⟨w.heap.size, 6, none⟩ (.slice o_q l_q l_q)).cell? ⟨w.heap.size, 4, none⟩ = some (.slice o_l l_l l_l) from cell_of_row _ w.heap.size 4 _ _ _ h9)
  have e_5 := hide (show (((((((w9.setCell ⟨w.heap.size, 0, none⟩ (.slice o_n l_n l_n)).setCell ⟨w.heap.size, 1, none⟩ (.slice o_p l_p l_p)).setCell ⟨w.heap.size, 2, none⟩ (.slice o_d l_d l_d)).setCell ⟨w.heap.size, 3, none⟩ (.slice o_m l_m l_m)).setCell ⟨w.heap.size, 4, none⟩ (.slice o_l l_l l_l)).setCell ⟨w.heap.size, 5, none⟩ (.slice o_r l_r l_r)).setCell ⟨w.heap.size, 6, none⟩ (.slice o_q l_q l_q)).cell? ⟨w.heap.size, 5, none⟩ = some (.slice o_r l_r l_r) from cell_of_row _ w.heap.size 5 _ _ _ h9)
  have e_6 := hide (show (((((((w9.setCell ⟨w.heap.size, 0, none⟩ (.slice o_n l_n l_n)).setCell ⟨w.heap.size, 1, none⟩ (.slice o_p l_p l_p)).setCell ⟨w.heap.size, 2, none⟩ (.slice o_d l_d l_d)).setCell ⟨w.heap.size, 3, none⟩ (.slice o_m l_m l_m)).setCell ⟨w.heap.size, 4, none⟩ (.slice o_l l_l l_l)).setCell ⟨w.heap.size, 5, none⟩ (.slice o_r l_r l_r)).setCell ⟨w.heap.size, 6, none⟩ (.slice o_q l_q l_q)).cell? ⟨w.heap.size, 6, none⟩ = some (.slice o_q l_q l_q) from cell_of_row _ w.heap.size 6 _ _ _ h9)
  have hfin : Seven w.heap.size (((((((w9.setCell ⟨w.heap.size, 0, none⟩ (.slice o_n l_n l_n)).setCell ⟨w.heap.size, 1, none⟩ (.slice o_p l_p l_p)).setCell ⟨w.heap.size, 2, none⟩ (.slice o_d l_d l_d)).setCell ⟨w.heap.size, 3, none⟩ (.slice o_m l_m l_m)).setCell ⟨w.heap.size, 4, none⟩ (.slice o_l l_l l_l)).setCell ⟨w.heap.size, 5, none⟩ (.slice o_r l_r l_r)).setCell ⟨w.heap.size, 6, none⟩ (.slice o_q l_q l_q)) A B N [.slice o_n l_n l_n, .slice o_p l_p l_p, .slice o_d l_d l_d, .slice o_m l_m l_m, .slice o_l l_l l_l, .slice o_r l_r l_r, .slice o_q l_q l_q] ∧ Below w.heap.size w (((((((w9.setCell ⟨w.heap.size, 0, none⟩ (.slice o_n l_n l_n)).setCell ⟨w.heap.size, 1, none⟩ (.slice o_p l_p l_p)).setCell ⟨w.heap.size, 2, none⟩ (.slice o_d l_d l_d)).setCell ⟨w.heap.size, 3, none⟩ (.slice o_m l_m l_m)).setCell ⟨w.heap.size, 4, none⟩ (.slice o_l l_l l_l)).setCell ⟨w.heap.size, 5, none⟩ (.slice o_r l_r l_r)).setCell ⟨w.heap.size, 6, none⟩ (.slice o_q l_q l_q)) := by
    have hfar := far7 i_d.out i_l.out i_r.out i_q.out i_n.out i_p.out i_m.out (Nat.le_refl _) s_l (Nat.le_refl _) s_r (Nat.le_refl _) s_q (Nat.le_refl _) s_n (Nat.le_refl _) s_p (Nat.le_refl _)
    have hk : ∀ {lo : Nat} {v : Value} {n : Int} {k : Nat}, Num lo w9 v n k → w.heap.size + 1 ≤ lo → k ≤ 4000 → (∀ q, blk v = some q → lo ≤ q) → Num w.heap.size (((((((w9.setCell ⟨w.heap.size, 0, none⟩ (.slice o_n l_n l_n)).setCell ⟨w.heap.size, 1, none⟩ (.slice o_p l_p l_p)).setCell ⟨w.heap.size, 2, none⟩ (.slice o_d l_d l_d)).setCell ⟨w.heap.size, 3, none⟩ (.slice o_m l_m l_m)).setCell ⟨w.heap.size, 4, none⟩ (.slice o_l l_l l_l)).setCell ⟨w.heap.size, 5, none⟩ (.slice o_r l_r l_r)).setCell ⟨w.heap.size, 6, none⟩ (.slice o_q l_q l_q)) v n 4000 := by
      intro lo v n k hn hlo hk4 hq
      refine ((hn.keep (fun q hb => ?_)).base (by omega)).mono hk4
      have h1 := hq q hb
      exact off7 _ _ _ _ _ _ _ _ _ (by omega)
    refine ⟨seven_mk ?_ ?_ ?_ ?_ ?_ ?_ ?_ hfar, below7 hW (Nat.le_refl _) _ _ _ _ _ _ _⟩
    · exact hk h_n (by omega) (by omega) (fun q hq => (i_n.out q hq).1)
    · exact hk h_p (by omega) (by omega) (fun q hq => (i_p.out q hq).1)
    · rw [if_pos HO.out]
      exact hk h_d (by omega) (by omega) (fun q hq => (i_d.out q hq).1)
    · exact hk h_m (by omega) (by omega) (fun q hq => (i_m.out q hq).1)
    · exact hk h_l (by omega) (by omega) (fun q hq => (i_l.out q hq).1)
    · exact hk h_r (by omega) (by omega) (fun q hq => (i_r.out q hq).1)
    · exact hk h_q (by omega) (by omega) (fun q hq => (i_q.out q hq).1)
  have Hfin := hide hfin
  clear hfin h9 hblk h_n h_p h_d h_m h_l h_r h_q hV hW i_n i_p i_d i_m i_l i_r i_q
  go_wp2
  generalize (((((((w9.setCell ⟨w.heap.size, 0, none⟩ (.slice o_n l_n l_n)).setCell ⟨w.heap.size, 1, none⟩ (.slice o_p l_p l_p)).setCell ⟨w.heap.size, 2, none⟩ (.slice o_d l_d l_d)).setCell ⟨w.heap.size, 3, none⟩ (.slice o_m l_m l_m)).setCell ⟨w.heap.size, 4, none⟩ (.slice o_l l_l l_l)).setCell ⟨w.heap.size, 5, none⟩ (.slice o_r l_r l_r)).setCell ⟨w.heap.size, 6, none⟩ (.slice o_q l_q l_q)) = w99 at Hfin e_0 e_1 e_2 e_3 e_4 e_5 e_6 ⊢
  exact bodyPost_ret (v := .agg #[.slice o_n l_n l_n, .slice o_p l_p l_p, .slice o_d l_d l_d, .slice o_m l_m l_m, .slice o_l l_l l_l, .slice o_r l_r l_r, .slice o_q l_q l_q]) (by simp [results, Tryz.results9, go_sem, e_0.out, e_1.out, e_2.out, e_3.out, e_4.out, e_5.out, e_6.out]) rfl ⟨_, _, _, _, _, _, _, rfl, Hfin.out⟩

end Go.Proofs.YtlfkfeedopgfjabGreatDoor
