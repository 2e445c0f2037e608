/- WholeOrder: the walk -/
import Derived.Test.YtmpdkeafbjibpaaDoorWOrd
namespace Go.Proofs.YtmpdkeafbjibpaaDoor
open Go.RowKit

theorem beyond_w3 {w : World} {g : Nat} {a0 a1 a2 : Option Addr} {l0 c0 l1 c1 l2 c2 : Nat} (hg : g < w.heap.size) (j0 : l0 ≤ 70368744177664) (j1 : l1 ≤ 70368744177664) (j2 : l2 ≤ 70368744177664) (h0 : w.cell? ⟨g, 1, none⟩ = some (.slice a0 l0 c0)) (h1 : w.cell? ⟨g, 3, none⟩ = some (.slice a1 l1 c1)) (h2 : w.cell? ⟨g, 5, none⟩ = some (.slice a2 l2 c2)) :
    Calls Tryd.prog 6 #[.slice (some ⟨g, 0, none⟩) 3 3] w fun e w' => e = .returned (.bool (decide (1048576 < 1 + l0 ∨ 1048576 < 1 + l1 ∨ 1048576 < 1 + l2))) ∧ Below w.heap.size w w' := by
  refine (wbeyond_any (ls := [l0, l1, l2]) (by simp) (fun i => ?_) hg (fun i hi => ?_)).mono ?_
  · match i with
    | 0 => simpa using j0
    | 1 => simpa using j1
    | 2 => simpa using j2
    | i + 3 => simp
  · match i, hi with
    | 0, _ => exact ⟨_, _, h0⟩
    | 1, _ => exact ⟨_, _, h1⟩
    | 2, _ => exact ⟨_, _, h2⟩
  · rintro e w' ⟨rfl, hb⟩
    refine ⟨?_, hb⟩
    congr 2
    apply decide_eq_decide.2
    constructor
    · rintro ⟨i, hi, h⟩
      match i, hi, h with
      | 0, _, h => exact Or.inl h
      | 1, _, h => exact Or.inr (Or.inl h)
      | 2, _, h => exact Or.inr (Or.inr (h))
    · intro h
      rcases h with h | h | h
      · exact ⟨0, by simp, h⟩
      · exact ⟨1, by simp, h⟩
      · exact ⟨2, by simp, h⟩

set_option maxRecDepth 100000 in
set_option maxHeartbeats 16000000 in
theorem worder_walk {w : World} {ng_x : Bool} {v_x : Value} {zs_x : List Int} {ng_y : Bool} {v_y : Value} {zs_y : List Int} {ng_z : Bool} {v_z : Value} {zs_z : List Int} {m n : Int}
    (r_x : Reads .u32 w v_x zs_x) (o_x : Nt.Ok zs_x) (j_x : zs_x.length ≤ 70368744177664) (r_y : Reads .u32 w v_y zs_y) (o_y : Nt.Ok zs_y) (j_y : zs_y.length ≤ 70368744177664) (r_z : Reads .u32 w v_z zs_z) (o_z : Nt.Ok zs_z) (j_z : zs_z.length ≤ 70368744177664) (m0 : -9223372036854775808 ≤ m) (m1 : m ≤ 9223372036854775807) (n0 : -9223372036854775808 ≤ n) (n1 : n ≤ 9223372036854775807) :
    Calls Tryd.prog 4 #[.agg #[.bool ng_x, v_x, .bool ng_y, v_y, .bool ng_z, v_z, .int .i64 m, .int .i64 n]] w fun e w' => e = .returned (.bool true) ∧ Below w.heap.size w w' := by
  obtain ⟨ao_x, c_x, rfl, ha1_x, ha2_x, ha3_x⟩ := r_x
  obtain ⟨ao_y, c_y, rfl, ha1_y, ha2_y, ha3_y⟩ := r_y
  obtain ⟨ao_z, c_z, rfl, ha1_z, ha2_z, ha3_z⟩ := r_z
  have KB := bel_alloc w (.cells #[.bool ng_x, .slice ao_x zs_x.length c_x, .bool ng_y, .slice ao_y zs_y.length c_y, .bool ng_z, .slice ao_z zs_z.length c_z, .int .i64 m, .int .i64 n] 35)
  have hlt : w.heap.size < (w.alloc (.cells #[.bool ng_x, .slice ao_x zs_x.length c_x, .bool ng_y, .slice ao_y zs_y.length c_y, .bool ng_z, .slice ao_z zs_z.length c_z, .int .i64 m, .int .i64 n] 35)).heap.size := by simp
  have e0 : (w.alloc (.cells #[.bool ng_x, .slice ao_x zs_x.length c_x, .bool ng_y, .slice ao_y zs_y.length c_y, .bool ng_z, .slice ao_z zs_z.length c_z, .int .i64 m, .int .i64 n] 35)).cell? ⟨w.heap.size, 0, none⟩ = some (.bool ng_x) := by rw [World.cell?_alloc_at _ _ _ _ rfl]; rfl
  have e1 : (w.alloc (.cells #[.bool ng_x, .slice ao_x zs_x.length c_x, .bool ng_y, .slice ao_y zs_y.length c_y, .bool ng_z, .slice ao_z zs_z.length c_z, .int .i64 m, .int .i64 n] 35)).cell? ⟨w.heap.size, 1, none⟩ = some (.slice ao_x zs_x.length c_x) := by rw [World.cell?_alloc_at _ _ _ _ rfl]; rfl
  have e2 : (w.alloc (.cells #[.bool ng_x, .slice ao_x zs_x.length c_x, .bool ng_y, .slice ao_y zs_y.length c_y, .bool ng_z, .slice ao_z zs_z.length c_z, .int .i64 m, .int .i64 n] 35)).cell? ⟨w.heap.size, 2, none⟩ = some (.bool ng_y) := by rw [World.cell?_alloc_at _ _ _ _ rfl]; rfl
  have e3 : (w.alloc (.cells #[.bool ng_x, .slice ao_x zs_x.length c_x, .bool ng_y, .slice ao_y zs_y.length c_y, .bool ng_z, .slice ao_z zs_z.length c_z, .int .i64 m, .int .i64 n] 35)).cell? ⟨w.heap.size, 3, none⟩ = some (.slice ao_y zs_y.length c_y) := by rw [World.cell?_alloc_at _ _ _ _ rfl]; rfl
  have e4 : (w.alloc (.cells #[.bool ng_x, .slice ao_x zs_x.length c_x, .bool ng_y, .slice ao_y zs_y.length c_y, .bool ng_z, .slice ao_z zs_z.length c_z, .int .i64 m, .int .i64 n] 35)).cell? ⟨w.heap.size, 4, none⟩ = some (.bool ng_z) := by rw [World.cell?_alloc_at _ _ _ _ rfl]; rfl
  have e5 : (w.alloc (.cells #[.bool ng_x, .slice ao_x zs_x.length c_x, .bool ng_y, .slice ao_y zs_y.length c_y, .bool ng_z, .slice ao_z zs_z.length c_z, .int .i64 m, .int .i64 n] 35)).cell? ⟨w.heap.size, 5, none⟩ = some (.slice ao_z zs_z.length c_z) := by rw [World.cell?_alloc_at _ _ _ _ rfl]; rfl
  have e6 : (w.alloc (.cells #[.bool ng_x, .slice ao_x zs_x.length c_x, .bool ng_y, .slice ao_y zs_y.length c_y, .bool ng_z, .slice ao_z zs_z.length c_z, .int .i64 m, .int .i64 n] 35)).cell? ⟨w.heap.size, 6, none⟩ = some (.int .i64 m) := by rw [World.cell?_alloc_at _ _ _ _ rfl]; rfl
  have e7 : (w.alloc (.cells #[.bool ng_x, .slice ao_x zs_x.length c_x, .bool ng_y, .slice ao_y zs_y.length c_y, .bool ng_z, .slice ao_z zs_z.length c_z, .int .i64 m, .int .i64 n] 35)).cell? ⟨w.heap.size, 7, none⟩ = some (.int .i64 n) := by rw [World.cell?_alloc_at _ _ _ _ rfl]; rfl
  have HB := hide (show ∀ u : World, Below (w.alloc (.cells #[.bool ng_x, .slice ao_x zs_x.length c_x, .bool ng_y, .slice ao_y zs_y.length c_y, .bool ng_z, .slice ao_z zs_z.length c_z, .int .i64 m, .int .i64 n] 35)).heap.size (w.alloc (.cells #[.bool ng_x, .slice ao_x zs_x.length c_x, .bool ng_y, .slice ao_y zs_y.length c_y, .bool ng_z, .slice ao_z zs_z.length c_z, .int .i64 m, .int .i64 n] 35)) u → u.cell? ⟨w.heap.size, 0, none⟩ = some (.bool ng_x) ∧ u.cell? ⟨w.heap.size, 1, none⟩ = some (.slice ao_x zs_x.length c_x) ∧ u.cell? ⟨w.heap.size, 2, none⟩ = some (.bool ng_y) ∧ u.cell? ⟨w.heap.size, 3, none⟩ = some (.slice ao_y zs_y.length c_y) ∧ u.cell? ⟨w.heap.size, 4, none⟩ = some (.bool ng_z) ∧ u.cell? ⟨w.heap.size, 5, none⟩ = some (.slice ao_z zs_z.length c_z) ∧ u.cell? ⟨w.heap.size, 6, none⟩ = some (.int .i64 m) ∧ u.cell? ⟨w.heap.size, 7, none⟩ = some (.int .i64 n) from fun u hu => ⟨(hu.cell (p := ⟨w.heap.size, 0, none⟩) hlt).trans e0, (hu.cell (p := ⟨w.heap.size, 1, none⟩) hlt).trans e1, (hu.cell (p := ⟨w.heap.size, 2, none⟩) hlt).trans e2, (hu.cell (p := ⟨w.heap.size, 3, none⟩) hlt).trans e3, (hu.cell (p := ⟨w.heap.size, 4, none⟩) hlt).trans e4, (hu.cell (p := ⟨w.heap.size, 5, none⟩) hlt).trans e5, (hu.cell (p := ⟨w.heap.size, 6, none⟩) hlt).trans e6, (hu.cell (p := ⟨w.heap.size, 7, none⟩) hlt).trans e7⟩)
  clear hlt e0 e1 e2 e3 e4 e5 e6 e7
  go_enter Tryd.func4, Tryd.ntmps4
  go_upto_region 1 with fail
  generalize w.alloc (.cells #[.bool ng_x, .slice ao_x zs_x.length c_x, .bool ng_y, .slice ao_y zs_y.length c_y, .bool ng_z, .slice ao_z zs_z.length c_z, .int .i64 m, .int .i64 n] 35) = w1 at *
  go_upto_region 1 with fail
  go_cut [3, 4, 5, 6, 7] from 17 (fun s3 s4 s5 s6 s7 w' => ∃ b_x b_y b_z, s3 = .pointer (some ⟨b_x, 0, none⟩) ∧ Cell2 w' b_x (.bool ng_x) (.slice ao_x zs_x.length c_x) ∧ s4 = .pointer (some ⟨b_y, 0, none⟩) ∧ Cell2 w' b_y (.bool ng_y) (.slice ao_y zs_y.length c_y) ∧ s5 = .pointer (some ⟨b_z, 0, none⟩) ∧ Cell2 w' b_z (.bool ng_z) (.slice ao_z zs_z.length c_z) ∧ s6 = .int .i64 m ∧ s7 = .int .i64 n ∧ Below w1.heap.size w1 w')
  case first =>
    as_aux_lemma =>
      refine wpInvA (J := fun a0 up a w' => ∃ s17 s18 s19 s20 s21 s22 s23 s24 s25 s26 s3 s4 s5 s6 s7, a = (((((((((((((((a0.put (some 17) s17).put (some 18) s18).put (some 19) s19).put (some 20) s20).put (some 21) s21).put (some 22) s22).put (some 23) s23).put (some 24) s24).put (some 25) s25).put (some 26) s26).put (some 3) s3).put (some 4) s4).put (some 5) s5).put (some 6) s6).put (some 7) s7) ∧ Below w1.heap.size w1 w' ∧ LdS (up 0) s17 (.pointer (some ⟨w.heap.size, 0, none⟩)) ∧ LdS (up 1) s18 (.agg #[.bool ng_x, .slice ao_x zs_x.length c_x]) ∧ LdS (up 2) s19 (.pointer (some ⟨w.heap.size, 2, none⟩)) ∧ LdS (up 3) s20 (.agg #[.bool ng_y, .slice ao_y zs_y.length c_y]) ∧ LdS (up 4) s21 (.pointer (some ⟨w.heap.size, 4, none⟩)) ∧ LdS (up 5) s22 (.agg #[.bool ng_z, .slice ao_z zs_z.length c_z]) ∧ LdS (up 6) s23 (.pointer (some ⟨w.heap.size, 6, none⟩)) ∧ LdS (up 7) s24 (.int .i64 m) ∧ LdS (up 8) s25 (.pointer (some ⟨w.heap.size, 7, none⟩)) ∧ LdS (up 9) s26 (.int .i64 n) ∧ AlS (up 10) w1.heap.size w' s3 ∧ AlS (up 11) w1.heap.size w' s4 ∧ AlS (up 12) w1.heap.size w' s5 ∧ StS (up 13) (up 10) (up 1) w' s3 s18 ∧ StS (up 14) (up 11) (up 3) w' s4 s20 ∧ StS (up 15) (up 12) (up 5) w' s5 s22 ∧ LdS (up 16) s6 (.int .i64 m) ∧ LdS (up 17) s7 (.int .i64 n) ∧ UnS (up 10) (up 11) s3 s4 ∧ UnS (up 10) (up 12) s3 s5 ∧ UnS (up 11) (up 12) s4 s5) (by kernel_rfl) (by kernel_rfl) ?_ ?_ ?_
      · refine ⟨?q1_17, ?q1_18, ?q1_19, ?q1_20, ?q1_21, ?q1_22, ?q1_23, ?q1_24, ?q1_25, ?q1_26, ?q1_3, ?q1_4, ?q1_5, ?q1_6, ?q1_7, ?q1, (Below.refl _ _).drew, fun q => (by cases q), fun q => (by cases q), fun q => (by cases q), fun q => (by cases q), fun q => (by cases q), fun q => (by cases q), fun q => (by cases q), fun q => (by cases q), fun q => (by cases q), fun q => (by cases q), fun q => (by cases q), fun q => (by cases q), fun q => (by cases q), fun q => (by cases q), fun q => (by cases q), fun q => (by cases q), fun q => (by cases q), fun q => (by cases q), fun q => (by cases q), fun q => (by cases q), fun q => (by cases q)⟩
        case q1 =>
          simp only [Act.put, List.setIfInBounds_toArray, List.set_cons_zero, List.set_cons_succ]
          rfl
      · intro up a wx i o ho hJ hu hm K hK
        obtain ⟨s17, hJ⟩ := hJ
        obtain ⟨s18, hJ⟩ := hJ
        obtain ⟨s19, hJ⟩ := hJ
        obtain ⟨s20, hJ⟩ := hJ
        obtain ⟨s21, hJ⟩ := hJ
        obtain ⟨s22, hJ⟩ := hJ
        obtain ⟨s23, hJ⟩ := hJ
        obtain ⟨s24, hJ⟩ := hJ
        obtain ⟨s25, hJ⟩ := hJ
        obtain ⟨s26, hJ⟩ := hJ
        obtain ⟨s3, hJ⟩ := hJ
        obtain ⟨s4, hJ⟩ := hJ
        obtain ⟨s5, hJ⟩ := hJ
        obtain ⟨s6, hJ⟩ := hJ
        obtain ⟨s7, hJ⟩ := hJ
        obtain ⟨rfl, hJ⟩ := hJ
        obtain ⟨KW, hJ⟩ := hJ
        obtain ⟨o0, hJ⟩ := hJ
        obtain ⟨o1, hJ⟩ := hJ
        obtain ⟨o2, hJ⟩ := hJ
        obtain ⟨o3, hJ⟩ := hJ
        obtain ⟨o4, hJ⟩ := hJ
        obtain ⟨o5, hJ⟩ := hJ
        obtain ⟨o6, hJ⟩ := hJ
        obtain ⟨o7, hJ⟩ := hJ
        obtain ⟨o8, hJ⟩ := hJ
        obtain ⟨o9, hJ⟩ := hJ
        obtain ⟨o10, hJ⟩ := hJ
        obtain ⟨o11, hJ⟩ := hJ
        obtain ⟨o12, hJ⟩ := hJ
        obtain ⟨o13, hJ⟩ := hJ
        obtain ⟨o14, hJ⟩ := hJ
        obtain ⟨o15, hJ⟩ := hJ
        obtain ⟨o16, hJ⟩ := hJ
        obtain ⟨o17, hJ⟩ := hJ
        obtain ⟨n01, hJ⟩ := hJ
        obtain ⟨n02, hJ⟩ := hJ
        have n12 := hJ
        clear hJ
        simp only [Act.put, List.setIfInBounds_toArray, List.set_cons_zero, List.set_cons_succ]
        have hi : i < 18 := (Array.getElem?_eq_some_iff.1 ho).1
        match i, hi with
        | 0, _ =>
          cases ho
          rw [if_pos (by rfl)]
          go_simp
          refine hK (fun k => if k = 0 then true else up k) _ _ rfl (fun k hk => if_neg hk) (⟨_, s18, s19, s20, s21, s22, s23, s24, s25, s26, s3, s4, s5, s6, s7, ?_, KW, (fun _ => rfl : _), (o1 : _), (o2 : _), (o3 : _), (o4 : _), (o5 : _), (o6 : _), (o7 : _), (o8 : _), (o9 : _), (o10 : _), (o11 : _), (o12 : _), (o13 : _), (o14 : _), (o15 : _), (o16 : _), (o17 : _), (n01 : _), (n02 : _), (n12 : _)⟩)
          simp only [Act.put, List.setIfInBounds_toArray, List.set_cons_zero, List.set_cons_succ]
        | 1, _ =>
          cases ho
          simp [MetB, Region.binds] at hm
          obtain rfl := o0 (by simp [hm])
          obtain ⟨e0, e1, e2, e3, e4, e5, e6, e7⟩ := HB.out _ KW
          rw [if_pos (by rfl)]
          go_simp
          refine hK (fun k => if k = 1 then true else up k) _ _ rfl (fun k hk => if_neg hk) (⟨_, _, s19, s20, s21, s22, s23, s24, s25, s26, s3, s4, s5, s6, s7, ?_, KW, (o0 : _), (fun _ => rfl : _), (o2 : _), (o3 : _), (o4 : _), (o5 : _), (o6 : _), (o7 : _), (o8 : _), (o9 : _), (o10 : _), (o11 : _), (o12 : _), (o13.off (Or.inr hu) : _), (o14 : _), (o15 : _), (o16 : _), (o17 : _), (n01 : _), (n02 : _), (n12 : _)⟩)
          simp only [Act.put, List.setIfInBounds_toArray, List.set_cons_zero, List.set_cons_succ]
        | 2, _ =>
          cases ho
          rw [if_pos (by rfl)]
          go_simp
          refine hK (fun k => if k = 2 then true else up k) _ _ rfl (fun k hk => if_neg hk) (⟨s17, s18, _, s20, s21, s22, s23, s24, s25, s26, s3, s4, s5, s6, s7, ?_, KW, (o0 : _), (o1 : _), (fun _ => rfl : _), (o3 : _), (o4 : _), (o5 : _), (o6 : _), (o7 : _), (o8 : _), (o9 : _), (o10 : _), (o11 : _), (o12 : _), (o13 : _), (o14 : _), (o15 : _), (o16 : _), (o17 : _), (n01 : _), (n02 : _), (n12 : _)⟩)
          simp only [Act.put, List.setIfInBounds_toArray, List.set_cons_zero, List.set_cons_succ]
        | 3, _ =>
          cases ho
          simp [MetB, Region.binds] at hm
          obtain rfl := o2 (by simp [hm])
          obtain ⟨e0, e1, e2, e3, e4, e5, e6, e7⟩ := HB.out _ KW
          rw [if_pos (by rfl)]
          go_simp
          refine hK (fun k => if k = 3 then true else up k) _ _ rfl (fun k hk => if_neg hk) (⟨s17, s18, _, _, s21, s22, s23, s24, s25, s26, s3, s4, s5, s6, s7, ?_, KW, (o0 : _), (o1 : _), (o2 : _), (fun _ => rfl : _), (o4 : _), (o5 : _), (o6 : _), (o7 : _), (o8 : _), (o9 : _), (o10 : _), (o11 : _), (o12 : _), (o13 : _), (o14.off (Or.inr hu) : _), (o15 : _), (o16 : _), (o17 : _), (n01 : _), (n02 : _), (n12 : _)⟩)
          simp only [Act.put, List.setIfInBounds_toArray, List.set_cons_zero, List.set_cons_succ]
        | 4, _ =>
          cases ho
          rw [if_pos (by rfl)]
          go_simp
          refine hK (fun k => if k = 4 then true else up k) _ _ rfl (fun k hk => if_neg hk) (⟨s17, s18, s19, s20, _, s22, s23, s24, s25, s26, s3, s4, s5, s6, s7, ?_, KW, (o0 : _), (o1 : _), (o2 : _), (o3 : _), (fun _ => rfl : _), (o5 : _), (o6 : _), (o7 : _), (o8 : _), (o9 : _), (o10 : _), (o11 : _), (o12 : _), (o13 : _), (o14 : _), (o15 : _), (o16 : _), (o17 : _), (n01 : _), (n02 : _), (n12 : _)⟩)
          simp only [Act.put, List.setIfInBounds_toArray, List.set_cons_zero, List.set_cons_succ]
        | 5, _ =>
          cases ho
          simp [MetB, Region.binds] at hm
          obtain rfl := o4 (by simp [hm])
          obtain ⟨e0, e1, e2, e3, e4, e5, e6, e7⟩ := HB.out _ KW
          rw [if_pos (by rfl)]
          go_simp
          refine hK (fun k => if k = 5 then true else up k) _ _ rfl (fun k hk => if_neg hk) (⟨s17, s18, s19, s20, _, _, s23, s24, s25, s26, s3, s4, s5, s6, s7, ?_, KW, (o0 : _), (o1 : _), (o2 : _), (o3 : _), (o4 : _), (fun _ => rfl : _), (o6 : _), (o7 : _), (o8 : _), (o9 : _), (o10 : _), (o11 : _), (o12 : _), (o13 : _), (o14 : _), (o15.off (Or.inr hu) : _), (o16 : _), (o17 : _), (n01 : _), (n02 : _), (n12 : _)⟩)
          simp only [Act.put, List.setIfInBounds_toArray, List.set_cons_zero, List.set_cons_succ]
        | 6, _ =>
          cases ho
          rw [if_pos (by rfl)]
          go_simp
          refine hK (fun k => if k = 6 then true else up k) _ _ rfl (fun k hk => if_neg hk) (⟨s17, s18, s19, s20, s21, s22, _, s24, s25, s26, s3, s4, s5, s6, s7, ?_, KW, (o0 : _), (o1 : _), (o2 : _), (o3 : _), (o4 : _), (o5 : _), (fun _ => rfl : _), (o7 : _), (o8 : _), (o9 : _), (o10 : _), (o11 : _), (o12 : _), (o13 : _), (o14 : _), (o15 : _), (o16 : _), (o17 : _), (n01 : _), (n02 : _), (n12 : _)⟩)
          simp only [Act.put, List.setIfInBounds_toArray, List.set_cons_zero, List.set_cons_succ]
        | 7, _ =>
          cases ho
          simp [MetB, Region.binds] at hm
          obtain rfl := o6 (by simp [hm])
          obtain ⟨e0, e1, e2, e3, e4, e5, e6, e7⟩ := HB.out _ KW
          rw [if_pos (by rfl)]
          go_simp
          refine hK (fun k => if k = 7 then true else up k) _ _ rfl (fun k hk => if_neg hk) (⟨s17, s18, s19, s20, s21, s22, _, _, s25, s26, s3, s4, s5, s6, s7, ?_, KW, (o0 : _), (o1 : _), (o2 : _), (o3 : _), (o4 : _), (o5 : _), (o6 : _), (fun _ => rfl : _), (o8 : _), (o9 : _), (o10 : _), (o11 : _), (o12 : _), (o13 : _), (o14 : _), (o15 : _), (o16 : _), (o17 : _), (n01 : _), (n02 : _), (n12 : _)⟩)
          simp only [Act.put, List.setIfInBounds_toArray, List.set_cons_zero, List.set_cons_succ]
        | 8, _ =>
          cases ho
          rw [if_pos (by rfl)]
          go_simp
          refine hK (fun k => if k = 8 then true else up k) _ _ rfl (fun k hk => if_neg hk) (⟨s17, s18, s19, s20, s21, s22, s23, s24, _, s26, s3, s4, s5, s6, s7, ?_, KW, (o0 : _), (o1 : _), (o2 : _), (o3 : _), (o4 : _), (o5 : _), (o6 : _), (o7 : _), (fun _ => rfl : _), (o9 : _), (o10 : _), (o11 : _), (o12 : _), (o13 : _), (o14 : _), (o15 : _), (o16 : _), (o17 : _), (n01 : _), (n02 : _), (n12 : _)⟩)
          simp only [Act.put, List.setIfInBounds_toArray, List.set_cons_zero, List.set_cons_succ]
        | 9, _ =>
          cases ho
          simp [MetB, Region.binds] at hm
          obtain rfl := o8 (by simp [hm])
          obtain ⟨e0, e1, e2, e3, e4, e5, e6, e7⟩ := HB.out _ KW
          rw [if_pos (by rfl)]
          go_simp
          refine hK (fun k => if k = 9 then true else up k) _ _ rfl (fun k hk => if_neg hk) (⟨s17, s18, s19, s20, s21, s22, s23, s24, _, _, s3, s4, s5, s6, s7, ?_, KW, (o0 : _), (o1 : _), (o2 : _), (o3 : _), (o4 : _), (o5 : _), (o6 : _), (o7 : _), (o8 : _), (fun _ => rfl : _), (o10 : _), (o11 : _), (o12 : _), (o13 : _), (o14 : _), (o15 : _), (o16 : _), (o17 : _), (n01 : _), (n02 : _), (n12 : _)⟩)
          simp only [Act.put, List.setIfInBounds_toArray, List.set_cons_zero, List.set_cons_succ]
        | 10, _ =>
          cases ho
          rw [if_pos (by rfl)]
          go_simp
          refine hK (fun k => if k = 10 then true else up k) _ _ rfl (fun k hk => if_neg hk) (⟨s17, s18, s19, s20, s21, s22, s23, s24, s25, s26, _, s4, s5, s6, s7, ?_, below_trans KW (bel_alloc _ _), (o0 : _), (o1 : _), (o2 : _), (o3 : _), (o4 : _), (o5 : _), (o6 : _), (o7 : _), (o8 : _), (o9 : _), (AlS.new KW.size _ : _), (o11.below (bel_alloc _ _) : _), (o12.below (bel_alloc _ _) : _), (o13.off (Or.inl hu) : _), (o14.below (bel_alloc _ _) : _), (o15.below (bel_alloc _ _) : _), (o16 : _), (o17 : _), (o11.unlike' : _), (o12.unlike' : _), (n12 : _)⟩)
          simp only [Act.put, List.setIfInBounds_toArray, List.set_cons_zero, List.set_cons_succ]
        | 11, _ =>
          cases ho
          rw [if_pos (by rfl)]
          go_simp
          refine hK (fun k => if k = 11 then true else up k) _ _ rfl (fun k hk => if_neg hk) (⟨s17, s18, s19, s20, s21, s22, s23, s24, s25, s26, s3, _, s5, s6, s7, ?_, below_trans KW (bel_alloc _ _), (o0 : _), (o1 : _), (o2 : _), (o3 : _), (o4 : _), (o5 : _), (o6 : _), (o7 : _), (o8 : _), (o9 : _), (o10.below (bel_alloc _ _) : _), (AlS.new KW.size _ : _), (o12.below (bel_alloc _ _) : _), (o13.below (bel_alloc _ _) : _), (o14.off (Or.inl hu) : _), (o15.below (bel_alloc _ _) : _), (o16 : _), (o17 : _), (o10.unlike : _), (n02 : _), (o12.unlike' : _)⟩)
          simp only [Act.put, List.setIfInBounds_toArray, List.set_cons_zero, List.set_cons_succ]
        | 12, _ =>
          cases ho
          rw [if_pos (by rfl)]
          go_simp
          refine hK (fun k => if k = 12 then true else up k) _ _ rfl (fun k hk => if_neg hk) (⟨s17, s18, s19, s20, s21, s22, s23, s24, s25, s26, s3, s4, _, s6, s7, ?_, below_trans KW (bel_alloc _ _), (o0 : _), (o1 : _), (o2 : _), (o3 : _), (o4 : _), (o5 : _), (o6 : _), (o7 : _), (o8 : _), (o9 : _), (o10.below (bel_alloc _ _) : _), (o11.below (bel_alloc _ _) : _), (AlS.new KW.size _ : _), (o13.below (bel_alloc _ _) : _), (o14.below (bel_alloc _ _) : _), (o15.off (Or.inl hu) : _), (o16 : _), (o17 : _), (n01 : _), (o10.unlike : _), (o11.unlike : _)⟩)
          simp only [Act.put, List.setIfInBounds_toArray, List.set_cons_zero, List.set_cons_succ]
        | 13, _ =>
          cases ho
          rw [if_pos (by rfl)]
          simp [MetB, Region.binds] at hm
          obtain ⟨c, z, u, rfl, hc, Z⟩ := o10 (by simp [hm])
          obtain rfl := o1 (by simp [hm])
          have f0 := Z.f0
          have f1 := Z.f1
          have c0 := Z.c0
          have c1 := Z.c1
          go_simp
          refine hK (fun k => if k = 13 then true else up k) _ _ rfl (fun k hk => if_neg hk) (⟨s17, _, s19, s20, s21, s22, s23, s24, s25, s26, _, s4, s5, s6, s7, ?_, below_put2 KW hc _ _, (o0 : _), (o1 : _), (o2 : _), (o3 : _), (o4 : _), (o5 : _), (o6 : _), (o7 : _), (o8 : _), (o9 : _), (o10.putc Z _ _ : _), (o11.putc Z _ _ : _), (o12.putc Z _ _ : _), (fun _ => ⟨by simp [hm], by simp [hm], c, _, _, rfl, rfl, Z.put _ _⟩ : _), (o14.away (fun e => n01.symm (o14 e).1 (by simp [hm])) _ _ : _), (o15.away (fun e => n02.symm (o15 e).1 (by simp [hm])) _ _ : _), (o16 : _), (o17 : _), (n01 : _), (n02 : _), (n12 : _)⟩)
          simp only [Act.put, List.setIfInBounds_toArray, List.set_cons_zero, List.set_cons_succ]
        | 14, _ =>
          cases ho
          rw [if_pos (by rfl)]
          simp [MetB, Region.binds] at hm
          obtain ⟨c, z, u, rfl, hc, Z⟩ := o11 (by simp [hm])
          obtain rfl := o3 (by simp [hm])
          have f0 := Z.f0
          have f1 := Z.f1
          have c0 := Z.c0
          have c1 := Z.c1
          go_simp
          refine hK (fun k => if k = 14 then true else up k) _ _ rfl (fun k hk => if_neg hk) (⟨s17, s18, s19, _, s21, s22, s23, s24, s25, s26, s3, _, s5, s6, s7, ?_, below_put2 KW hc _ _, (o0 : _), (o1 : _), (o2 : _), (o3 : _), (o4 : _), (o5 : _), (o6 : _), (o7 : _), (o8 : _), (o9 : _), (o10.putc Z _ _ : _), (o11.putc Z _ _ : _), (o12.putc Z _ _ : _), (o13.away (fun e => n01 (o13 e).1 (by simp [hm])) _ _ : _), (fun _ => ⟨by simp [hm], by simp [hm], c, _, _, rfl, rfl, Z.put _ _⟩ : _), (o15.away (fun e => n12.symm (o15 e).1 (by simp [hm])) _ _ : _), (o16 : _), (o17 : _), (n01 : _), (n02 : _), (n12 : _)⟩)
          simp only [Act.put, List.setIfInBounds_toArray, List.set_cons_zero, List.set_cons_succ]
        | 15, _ =>
          cases ho
          rw [if_pos (by rfl)]
          simp [MetB, Region.binds] at hm
          obtain ⟨c, z, u, rfl, hc, Z⟩ := o12 (by simp [hm])
          obtain rfl := o5 (by simp [hm])
          have f0 := Z.f0
          have f1 := Z.f1
          have c0 := Z.c0
          have c1 := Z.c1
          go_simp
          refine hK (fun k => if k = 15 then true else up k) _ _ rfl (fun k hk => if_neg hk) (⟨s17, s18, s19, s20, s21, _, s23, s24, s25, s26, s3, s4, _, s6, s7, ?_, below_put2 KW hc _ _, (o0 : _), (o1 : _), (o2 : _), (o3 : _), (o4 : _), (o5 : _), (o6 : _), (o7 : _), (o8 : _), (o9 : _), (o10.putc Z _ _ : _), (o11.putc Z _ _ : _), (o12.putc Z _ _ : _), (o13.away (fun e => n02 (o13 e).1 (by simp [hm])) _ _ : _), (o14.away (fun e => n12 (o14 e).1 (by simp [hm])) _ _ : _), (fun _ => ⟨by simp [hm], by simp [hm], c, _, _, rfl, rfl, Z.put _ _⟩ : _), (o16 : _), (o17 : _), (n01 : _), (n02 : _), (n12 : _)⟩)
          simp only [Act.put, List.setIfInBounds_toArray, List.set_cons_zero, List.set_cons_succ]
        | 16, _ =>
          cases ho
          simp [MetB, Region.binds] at hm
          obtain rfl := o7 (by simp [hm])
          rw [if_pos (by rfl)]
          go_simp
          refine hK (fun k => if k = 16 then true else up k) _ _ rfl (fun k hk => if_neg hk) (⟨s17, s18, s19, s20, s21, s22, s23, _, s25, s26, s3, s4, s5, _, s7, ?_, KW, (o0 : _), (o1 : _), (o2 : _), (o3 : _), (o4 : _), (o5 : _), (o6 : _), (o7 : _), (o8 : _), (o9 : _), (o10 : _), (o11 : _), (o12 : _), (o13 : _), (o14 : _), (o15 : _), (fun _ => rfl : _), (o17 : _), (n01 : _), (n02 : _), (n12 : _)⟩)
          simp only [Act.put, List.setIfInBounds_toArray, List.set_cons_zero, List.set_cons_succ]
        | 17, _ =>
          cases ho
          simp [MetB, Region.binds] at hm
          obtain rfl := o9 (by simp [hm])
          rw [if_pos (by rfl)]
          go_simp
          refine hK (fun k => if k = 17 then true else up k) _ _ rfl (fun k hk => if_neg hk) (⟨s17, s18, s19, s20, s21, s22, s23, s24, s25, _, s3, s4, s5, s6, _, ?_, KW, (o0 : _), (o1 : _), (o2 : _), (o3 : _), (o4 : _), (o5 : _), (o6 : _), (o7 : _), (o8 : _), (o9 : _), (o10 : _), (o11 : _), (o12 : _), (o13 : _), (o14 : _), (o15 : _), (o16 : _), (fun _ => rfl : _), (n01 : _), (n02 : _), (n12 : _)⟩)
          simp only [Act.put, List.setIfInBounds_toArray, List.set_cons_zero, List.set_cons_succ]
      · intro up a wx hJ hall
        obtain ⟨s17, hJ⟩ := hJ
        obtain ⟨s18, hJ⟩ := hJ
        obtain ⟨s19, hJ⟩ := hJ
        obtain ⟨s20, hJ⟩ := hJ
        obtain ⟨s21, hJ⟩ := hJ
        obtain ⟨s22, hJ⟩ := hJ
        obtain ⟨s23, hJ⟩ := hJ
        obtain ⟨s24, hJ⟩ := hJ
        obtain ⟨s25, hJ⟩ := hJ
        obtain ⟨s26, hJ⟩ := hJ
        obtain ⟨s3, hJ⟩ := hJ
        obtain ⟨s4, hJ⟩ := hJ
        obtain ⟨s5, hJ⟩ := hJ
        obtain ⟨s6, hJ⟩ := hJ
        obtain ⟨s7, hJ⟩ := hJ
        obtain ⟨rfl, hJ⟩ := hJ
        obtain ⟨KW, hJ⟩ := hJ
        obtain ⟨o0, hJ⟩ := hJ
        obtain ⟨o1, hJ⟩ := hJ
        obtain ⟨o2, hJ⟩ := hJ
        obtain ⟨o3, hJ⟩ := hJ
        obtain ⟨o4, hJ⟩ := hJ
        obtain ⟨o5, hJ⟩ := hJ
        obtain ⟨o6, hJ⟩ := hJ
        obtain ⟨o7, hJ⟩ := hJ
        obtain ⟨o8, hJ⟩ := hJ
        obtain ⟨o9, hJ⟩ := hJ
        obtain ⟨o10, hJ⟩ := hJ
        obtain ⟨o11, hJ⟩ := hJ
        obtain ⟨o12, hJ⟩ := hJ
        obtain ⟨o13, hJ⟩ := hJ
        obtain ⟨o14, hJ⟩ := hJ
        obtain ⟨o15, hJ⟩ := hJ
        obtain ⟨o16, hJ⟩ := hJ
        obtain ⟨o17, hJ⟩ := hJ
        obtain ⟨n01, hJ⟩ := hJ
        obtain ⟨n02, hJ⟩ := hJ
        have n12 := hJ
        clear hJ
        simp only [Act.put, List.setIfInBounds_toArray, List.set_cons_zero, List.set_cons_succ]
        obtain rfl := o1 (hall 1 (by decide))
        obtain ⟨-, -, b_x, x_x, y_x, rfl, e_x, C_x⟩ := o13 (hall 13 (by decide))
        cases e_x
        obtain rfl := o3 (hall 3 (by decide))
        obtain ⟨-, -, b_y, x_y, y_y, rfl, e_y, C_y⟩ := o14 (hall 14 (by decide))
        cases e_y
        obtain rfl := o5 (hall 5 (by decide))
        obtain ⟨-, -, b_z, x_z, y_z, rfl, e_z, C_z⟩ := o15 (hall 15 (by decide))
        cases e_z
        obtain rfl := o7 (hall 7 (by decide))
        obtain rfl := o9 (hall 9 (by decide))
        obtain rfl := o16 (hall 16 (by decide))
        obtain rfl := o17 (hall 17 (by decide))
        go_wp2_with fail
        go_meet
        case rel => exact ⟨b_x, b_y, b_z, rfl, C_x, rfl, C_y, rfl, C_z, rfl, rfl, KW⟩
  case rest =>
  obtain ⟨b_x, b_y, b_z, rfl, C_x, rfl, C_y, rfl, C_z, rfl, rfl, K⟩ := hcut
  rename World => w2
  replace KB := below_trans KB K
  clear K HB
  have f0 : (w2.alloc (.cells #[.bool ng_x, .slice ao_x zs_x.length c_x, .bool ng_y, .slice ao_y zs_y.length c_y, .bool ng_z, .slice ao_z zs_z.length c_z] 25)).cell? ⟨w2.heap.size, 1, none⟩ = some (.slice ao_x zs_x.length c_x) := by rw [World.cell?_alloc_at _ _ _ _ rfl]; rfl
  have f1 : (w2.alloc (.cells #[.bool ng_x, .slice ao_x zs_x.length c_x, .bool ng_y, .slice ao_y zs_y.length c_y, .bool ng_z, .slice ao_z zs_z.length c_z] 25)).cell? ⟨w2.heap.size, 3, none⟩ = some (.slice ao_y zs_y.length c_y) := by rw [World.cell?_alloc_at _ _ _ _ rfl]; rfl
  have f2 : (w2.alloc (.cells #[.bool ng_x, .slice ao_x zs_x.length c_x, .bool ng_y, .slice ao_y zs_y.length c_y, .bool ng_z, .slice ao_z zs_z.length c_z] 25)).cell? ⟨w2.heap.size, 5, none⟩ = some (.slice ao_z zs_z.length c_z) := by rw [World.cell?_alloc_at _ _ _ _ rfl]; rfl
  have fz : w2.heap.size < (w2.alloc (.cells #[.bool ng_x, .slice ao_x zs_x.length c_x, .bool ng_y, .slice ao_y zs_y.length c_y, .bool ng_z, .slice ao_z zs_z.length c_z] 25)).heap.size := by simp
  have hbey := beyond_w3 fz j_x j_y j_z f0 f1 f2
  have hb0 := bel_alloc w2 (.cells #[.bool ng_x, .slice ao_x zs_x.length c_x, .bool ng_y, .slice ao_y zs_y.length c_y, .bool ng_z, .slice ao_z zs_z.length c_z] 25)
  clear fz f0 f1 f2
  have p_x := C_x.c0
  have q_x := C_x.c1
  have p_y := C_y.c0
  have q_y := C_y.c1
  have p_z := C_z.c0
  have q_z := C_z.c1
  by_cases hbig : (1048576 < 1 + zs_x.length ∨ 1048576 < 1 + zs_y.length ∨ 1048576 < 1 + zs_z.length)
  · rw [decide_eq_true hbig] at hbey
    have Hbey := hide hbey
    clear hbey hbig
    go_wp2_with fail
    with_reducible refine Hbey.out.mono ?_
    rintro e w3 ⟨rfl, hb⟩
    go_wp2
    go_ret
    exact ⟨rfl, below_trans KB (below_trans hb0 hb)⟩
  rw [decide_eq_false hbig] at hbey
  have Hbey := hide hbey
  clear hbey
  have hl_x : zs_x.length ≤ 1048576 := by omega
  have h_x : WArg w (.agg #[.bool ng_x, .slice ao_x zs_x.length c_x]) (wn ng_x (Nt.val zs_x)) 1048576 := ⟨_, _, _, rfl, ⟨zs_x, ⟨ao_x, c_x, rfl, ha1_x, ha2_x, ha3_x⟩, o_x, rfl, by omega⟩, rfl⟩
  clear ha1_x ha2_x ha3_x o_x
  generalize wn ng_x (Nt.val zs_x) = N_x at *
  replace h_x := h_x.below KB
  have hl_y : zs_y.length ≤ 1048576 := by omega
  have h_y : WArg w (.agg #[.bool ng_y, .slice ao_y zs_y.length c_y]) (wn ng_y (Nt.val zs_y)) 1048576 := ⟨_, _, _, rfl, ⟨zs_y, ⟨ao_y, c_y, rfl, ha1_y, ha2_y, ha3_y⟩, o_y, rfl, by omega⟩, rfl⟩
  clear ha1_y ha2_y ha3_y o_y
  generalize wn ng_y (Nt.val zs_y) = N_y at *
  replace h_y := h_y.below KB
  have hl_z : zs_z.length ≤ 1048576 := by omega
  have h_z : WArg w (.agg #[.bool ng_z, .slice ao_z zs_z.length c_z]) (wn ng_z (Nt.val zs_z)) 1048576 := ⟨_, _, _, rfl, ⟨zs_z, ⟨ao_z, c_z, rfl, ha1_z, ha2_z, ha3_z⟩, o_z, rfl, by omega⟩, rfl⟩
  clear ha1_z ha2_z ha3_z o_z
  generalize wn ng_z (Nt.val zs_z) = N_z at *
  replace h_z := h_z.below KB
  clear hbig
  go_wp2_with fail
  with_reducible refine Hbey.out.mono ?_
  clear Hbey p_x q_x p_y q_y p_z q_z
  rintro e w3 ⟨rfl, hb⟩
  replace hb := below_trans hb0 hb
  clear hb0
  replace KB := below_trans KB hb
  replace h_x := h_x.below hb
  have HC_x := hide (C_x.below hb)
  clear C_x
  replace h_y := h_y.below hb
  have HC_y := hide (C_y.below hb)
  clear C_y
  replace h_z := h_z.below hb
  have HC_z := hide (C_z.below hb)
  clear C_z
  clear hb
  obtain ⟨cxy, hxy⟩ : ∃ c, sgn N_x N_y = c := ⟨_, rfl⟩
  obtain ⟨cyz, hyz⟩ : ∃ c, sgn N_y N_z = c := ⟨_, rfl⟩
  obtain ⟨cxz, hxz⟩ : ∃ c, sgn N_x N_z = c := ⟨_, rfl⟩
  obtain ⟨cyx, hyx⟩ : ∃ c, sgn N_y N_x = c := ⟨_, rfl⟩
  obtain ⟨csg, hsg⟩ : ∃ c, sgn N_z 0 = c := ⟨_, rfl⟩
  obtain ⟨cml, hml⟩ : ∃ c, cxy * csg = c := ⟨_, rfl⟩
  obtain ⟨E0, hE0⟩ : ∃ c, decide (N_x = N_y) = c := ⟨_, rfl⟩
  have gxy := sgn_rng N_x N_y
  have gyz := sgn_rng N_y N_z
  have gsg := sgn_rng N_z 0
  have ayx := sgn_neg N_x N_y
  have aze := sgn_zero N_x N_y
  have aadd := sgn_add N_x N_y N_z
  have amul := sgn_mul N_x N_y N_z
  have asub := sgn_sub N_x N_y
  rw [hxy] at gxy ayx aze aadd amul asub
  rw [hyz] at gyz
  rw [hsg] at gsg amul
  rw [hyx] at ayx
  rw [hE0] at aze
  rw [hml] at amul
  have bxy := sgn_le N_x N_y
  have byz := sgn_le N_y N_z
  have bxz := sgn_le N_x N_z
  have bxy' := sgn_le N_y N_x
  have byz' := sgn_le N_z N_y
  have bxz' := sgn_le N_z N_x
  rw [sgn_neg N_x N_y] at bxy'
  rw [sgn_neg N_y N_z] at byz'
  rw [sgn_neg N_x N_z] at bxz'
  rw [hxy] at bxy bxy'
  rw [hyz] at byz byz'
  rw [hxz] at bxz bxz'
  simp only [decide_eq_decide] at bxy byz bxz bxy' byz' bxz'
  obtain ⟨P1, hP1⟩ : ∃ c, decide (cxy ≤ 0) = c := ⟨_, rfl⟩
  obtain ⟨P2, hP2⟩ : ∃ c, decide (cyz ≤ 0) = c := ⟨_, rfl⟩
  obtain ⟨P3, hP3⟩ : ∃ c, decide (0 < cxz) = c := ⟨_, rfl⟩
  obtain ⟨Q1, hQ1⟩ : ∃ c, decide (0 ≤ cxy) = c := ⟨_, rfl⟩
  obtain ⟨Q2, hQ2⟩ : ∃ c, decide (0 ≤ cyz) = c := ⟨_, rfl⟩
  obtain ⟨Q3, hQ3⟩ : ∃ c, decide (cxz < 0) = c := ⟨_, rfl⟩
  have hP : (P1 && P2 && P3) = false := by
    rw [← hP1, ← hP2, ← hP3, ← Bool.not_eq_true]
    simp only [Bool.and_eq_true, decide_eq_true_eq]
    omega
  have hQ : (Q1 && Q2 && Q3) = false := by
    rw [← hQ1, ← hQ2, ← hQ3, ← Bool.not_eq_true]
    simp only [Bool.and_eq_true, decide_eq_true_eq]
    omega
  have hPQ := hide (And.intro hP1 (And.intro hP2 (And.intro hP3 (And.intro hQ1 (And.intro hQ2 hQ3)))))
  have HH := hide (And.intro hxy (And.intro hyz (And.intro hxz (And.intro hyx (And.intro hsg (And.intro hml hE0))))))
  have HA := hide (And.intro aadd (And.intro amul asub))
  have g1 : decide (cxy < -1) = false := decide_eq_false (by omega)
  have g2 : decide (1 < cxy) = false := decide_eq_false (by omega)
  have g3 : IntKind.i64.wrap (-cxy) = cyx := by rw [IntKind.wrap_i64]; omega
  have g4 : (cyx != cyx) = false := by simp
  have g5 : (E0 != E0) = false := by simp
  have g6 : IntKind.i64.wrap (cxy * csg) = cml := by
    have h1 : cxy * csg ≤ 1 ∧ -1 ≤ cxy * csg := by
      have : cxy = -1 ∨ cxy = 0 ∨ cxy = 1 := by omega
      rcases this with e | e | e <;> subst e <;> omega
    rw [IntKind.wrap_i64, ← hml]
    omega
  have g7 : (cxy != cxy) = false := by simp
  have g8 : (cml != cml) = false := by simp
  have HG := hide (And.intro g1 (And.intro g2 (And.intro g3 (And.intro g4 (And.intro g5 (And.intro g6 (And.intro g7 (And.intro g8 aze))))))))
  clear hxy hyz hxz hyx hsg hml hE0 gxy gyz gsg ayx aze aadd amul asub bxy byz bxz bxy' byz' bxz' hP1 hP2 hP3 hQ1 hQ2 hQ3 g1 g2 g3 g4 g5 g6 g7 g8
  go_upto_region 4 with fail
  go_cut [8, 9, 10] from 32 (fun s8 s9 s10 w' => s8 = .int .i64 cxy ∧ s9 = .int .i64 cyz ∧ s10 = .int .i64 cxz ∧ Below w3.heap.size w3 w')
  case first =>
    as_aux_lemma =>
      have CC : ∀ u : World, Below w3.heap.size w3 u → u.cell? ⟨b_x, 0, none⟩ = some (.bool ng_x) ∧ u.cell? ⟨b_x, 1, none⟩ = some (.slice ao_x zs_x.length c_x) ∧ u.cell? ⟨b_y, 0, none⟩ = some (.bool ng_y) ∧ u.cell? ⟨b_y, 1, none⟩ = some (.slice ao_y zs_y.length c_y) ∧ u.cell? ⟨b_z, 0, none⟩ = some (.bool ng_z) ∧ u.cell? ⟨b_z, 1, none⟩ = some (.slice ao_z zs_z.length c_z) := fun u hu => ⟨(HC_x.out.below hu).c0, (HC_x.out.below hu).c1, (HC_y.out.below hu).c0, (HC_y.out.below hu).c1, (HC_z.out.below hu).c0, (HC_z.out.below hu).c1⟩
      have K : Below w3.heap.size w3 w3.drew := (Below.refl _ _).drew
      have HC0 := CC _ K
      refine wpHl.region0 (C := fun u => u.cell? ⟨b_x, 0, none⟩ = some (.bool ng_x) ∧ u.cell? ⟨b_x, 1, none⟩ = some (.slice ao_x zs_x.length c_x) ∧ u.cell? ⟨b_y, 0, none⟩ = some (.bool ng_y) ∧ u.cell? ⟨b_y, 1, none⟩ = some (.slice ao_y zs_y.length c_y) ∧ u.cell? ⟨b_z, 0, none⟩ = some (.bool ng_z) ∧ u.cell? ⟨b_z, 1, none⟩ = some (.slice ao_z zs_z.length c_z)) (by kernel_rfl) (by kernel_rfl) (fun HS => ?_)
      refine wpHl.tk0 (i := 0) (d := some 32) (v := .agg #[.bool ng_x, .slice ao_x zs_x.length c_x]) rfl HS (by as_aux_lemma => kernel_rfl) rfl (fun _ _ _ h => h) (Or.inl ⟨by rfl, ?_⟩) HC0 ?_
      · intro u hC
        obtain ⟨z0, z1, z2, z3, z4, z5⟩ := hC
        go_simp
      simp only [Act.put, List.setIfInBounds_toArray, List.set_cons_zero, List.set_cons_succ]
      refine wpHl.tk0 (i := 1) (d := some 33) (v := .agg #[.bool ng_y, .slice ao_y zs_y.length c_y]) rfl HS (by as_aux_lemma => kernel_rfl) rfl (fun _ _ _ h => h) (Or.inl ⟨by rfl, ?_⟩) HC0 ?_
      · intro u hC
        obtain ⟨z0, z1, z2, z3, z4, z5⟩ := hC
        go_simp
      simp only [Act.put, List.setIfInBounds_toArray, List.set_cons_zero, List.set_cons_succ]
      refine wpHl.tk0 (i := 3) (d := some 35) (v := .agg #[.bool ng_y, .slice ao_y zs_y.length c_y]) rfl HS (by as_aux_lemma => kernel_rfl) rfl (fun _ _ _ h => h) (Or.inl ⟨by rfl, ?_⟩) HC0 ?_
      · intro u hC
        obtain ⟨z0, z1, z2, z3, z4, z5⟩ := hC
        go_simp
      simp only [Act.put, List.setIfInBounds_toArray, List.set_cons_zero, List.set_cons_succ]
      refine wpHl.tk0 (i := 4) (d := some 36) (v := .agg #[.bool ng_z, .slice ao_z zs_z.length c_z]) rfl HS (by as_aux_lemma => kernel_rfl) rfl (fun _ _ _ h => h) (Or.inl ⟨by rfl, ?_⟩) HC0 ?_
      · intro u hC
        obtain ⟨z0, z1, z2, z3, z4, z5⟩ := hC
        go_simp
      simp only [Act.put, List.setIfInBounds_toArray, List.set_cons_zero, List.set_cons_succ]
      refine wpHl.tk0 (i := 6) (d := some 38) (v := .agg #[.bool ng_x, .slice ao_x zs_x.length c_x]) rfl HS (by as_aux_lemma => kernel_rfl) rfl (fun _ _ _ h => h) (Or.inl ⟨by rfl, ?_⟩) HC0 ?_
      · intro u hC
        obtain ⟨z0, z1, z2, z3, z4, z5⟩ := hC
        go_simp
      simp only [Act.put, List.setIfInBounds_toArray, List.set_cons_zero, List.set_cons_succ]
      refine wpHl.tk0 (i := 7) (d := some 39) (v := .agg #[.bool ng_z, .slice ao_z zs_z.length c_z]) rfl HS (by as_aux_lemma => kernel_rfl) rfl (fun _ _ _ h => h) (Or.inl ⟨by rfl, ?_⟩) HC0 ?_
      · intro u hC
        obtain ⟨z0, z1, z2, z3, z4, z5⟩ := hC
        go_simp
      simp only [Act.put, List.setIfInBounds_toArray, List.set_cons_zero, List.set_cons_succ]
      refine wpHl.one (i := 2) (by as_aux_lemma => kernel_rfl) rfl (fun K1 hK1 => ?_)
      rw [if_pos (by rfl)]
      refine wp_call_of (f := 16) (args := #[.agg #[.bool ng_x, .slice ao_x zs_x.length c_x], .agg #[.bool ng_y, .slice ao_y zs_y.length c_y]]) (by kernel_rfl) ?_
      with_reducible refine (wcmp_told HH.out.1 (h_x.below K) (h_y.below K) (by omega) (by omega)).mono ?_
      rintro e wn ⟨rfl, hb⟩
      replace K := below_trans K hb
      clear HC0
      have HC0 := CC _ K
      refine hK1 (Act.put _ (some 34) _) _ ⟨fun _ => HC0, ?_⟩
      clear hK1 K1 hb
      try simp only [Act.put, List.setIfInBounds_toArray, List.set_cons_zero, List.set_cons_succ]
      refine wpHl.one (i := 5) (by as_aux_lemma => kernel_rfl) rfl (fun K1 hK1 => ?_)
      rw [if_pos (by rfl)]
      refine wp_call_of (f := 16) (args := #[.agg #[.bool ng_y, .slice ao_y zs_y.length c_y], .agg #[.bool ng_z, .slice ao_z zs_z.length c_z]]) (by kernel_rfl) ?_
      with_reducible refine (wcmp_told HH.out.2.1 (h_y.below K) (h_z.below K) (by omega) (by omega)).mono ?_
      rintro e wn ⟨rfl, hb⟩
      replace K := below_trans K hb
      clear HC0
      have HC0 := CC _ K
      refine hK1 (Act.put _ (some 37) _) _ ⟨fun _ => HC0, ?_⟩
      clear hK1 K1 hb
      try simp only [Act.put, List.setIfInBounds_toArray, List.set_cons_zero, List.set_cons_succ]
      refine wpHl.one (i := 8) (by as_aux_lemma => kernel_rfl) rfl (fun K1 hK1 => ?_)
      rw [if_pos (by rfl)]
      refine wp_call_of (f := 16) (args := #[.agg #[.bool ng_x, .slice ao_x zs_x.length c_x], .agg #[.bool ng_z, .slice ao_z zs_z.length c_z]]) (by kernel_rfl) ?_
      with_reducible refine (wcmp_told HH.out.2.2.1 (h_x.below K) (h_z.below K) (by omega) (by omega)).mono ?_
      rintro e wn ⟨rfl, hb⟩
      replace K := below_trans K hb
      clear HC0
      have HC0 := CC _ K
      refine hK1 (Act.put _ (some 40) _) _ ⟨fun _ => HC0, ?_⟩
      clear hK1 K1 hb
      try simp only [Act.put, List.setIfInBounds_toArray, List.set_cons_zero, List.set_cons_succ]
      refine wpHl.tk0 (i := 9) (d := some 8) (v := .int .i64 cxy) rfl HS (by as_aux_lemma => kernel_rfl) rfl (fun _ _ _ h => h) (Or.inl ⟨by rfl, ?_⟩) HC0 ?_
      · intro u hC
        go_simp
      simp only [Act.put, List.setIfInBounds_toArray, List.set_cons_zero, List.set_cons_succ]
      refine wpHl.tk0 (i := 10) (d := some 9) (v := .int .i64 cyz) rfl HS (by as_aux_lemma => kernel_rfl) rfl (fun _ _ _ h => h) (Or.inl ⟨by rfl, ?_⟩) HC0 ?_
      · intro u hC
        go_simp
      simp only [Act.put, List.setIfInBounds_toArray, List.set_cons_zero, List.set_cons_succ]
      refine wpHl.tk0 (i := 11) (d := some 10) (v := .int .i64 cxz) rfl HS (by as_aux_lemma => kernel_rfl) rfl (fun _ _ _ h => h) (Or.inl ⟨by rfl, ?_⟩) HC0 ?_
      · intro u hC
        go_simp
      simp only [Act.put, List.setIfInBounds_toArray, List.set_cons_zero, List.set_cons_succ]
      refine wpHl.done (by as_aux_lemma => kernel_rfl) ?_ _
      clear CC HC0 HS
      have K9 := hide K
      clear K 
      go_wp2_with fail
      go_meet
      case rel => exact ⟨rfl, rfl, rfl, K9.out⟩
  case rest =>
  obtain ⟨rfl, rfl, rfl, K⟩ := hcut
  rename World => w4
  replace KB := below_trans KB K
  replace h_x := h_x.below K
  replace HC_x := hide (HC_x.out.below K)
  replace h_y := h_y.below K
  replace HC_y := hide (HC_y.out.below K)
  replace h_z := h_z.below K
  replace HC_z := hide (HC_z.out.below K)
  clear K
  go_upto_region 5 with fail
  go_cut [88] from 41 (fun s88 w' => s88 = .bool false ∧ Below w4.heap.size w4 w')
  case first =>
    as_aux_lemma =>
      refine wpInvA (J := fun a0 up a w' => ∃ s41 s42 s43 s44 s45 s46 s47 s48 s49 s50 s51 s52 s53 s54 s55 s56 s57 s58 s59 s60 s61 s62 s63 s64 s65 s66 s67 s68 s69 s70 s71 s72 s73 s74 s75 s76 s77 s78 s79 s80 s81 s82 s83 s84 s85 s86 s87 s88, a = ((((((((((((((((((((((((((((((((((((((((((((((((a0.put (some 41) s41).put (some 42) s42).put (some 43) s43).put (some 44) s44).put (some 45) s45).put (some 46) s46).put (some 47) s47).put (some 48) s48).put (some 49) s49).put (some 50) s50).put (some 51) s51).put (some 52) s52).put (some 53) s53).put (some 54) s54).put (some 55) s55).put (some 56) s56).put (some 57) s57).put (some 58) s58).put (some 59) s59).put (some 60) s60).put (some 61) s61).put (some 62) s62).put (some 63) s63).put (some 64) s64).put (some 65) s65).put (some 66) s66).put (some 67) s67).put (some 68) s68).put (some 69) s69).put (some 70) s70).put (some 71) s71).put (some 72) s72).put (some 73) s73).put (some 74) s74).put (some 75) s75).put (some 76) s76).put (some 77) s77).put (some 78) s78).put (some 79) s79).put (some 80) s80).put (some 81) s81).put (some 82) s82).put (some 83) s83).put (some 84) s84).put (some 85) s85).put (some 86) s86).put (some 87) s87).put (some 88) s88) ∧ Below w4.heap.size w4 w' ∧ LdS (up 0) s41 (.int .i64 cxy) ∧ LdS (up 1) s42 (.bool false) ∧ LdS (up 2) s43 (.bool false) ∧ LdS (up 3) s44 (.int .i64 cxy) ∧ LdS (up 4) s45 (.bool false) ∧ LdS (up 5) s46 (.bool false) ∧ LdS (up 6) s47 (.bool false) ∧ LdS (up 7) s48 (.agg #[.bool ng_y, .slice ao_y zs_y.length c_y]) ∧ LdS (up 8) s49 (.agg #[.bool ng_x, .slice ao_x zs_x.length c_x]) ∧ LdS (up 9) s50 (.int .i64 cyx) ∧ LdS (up 10) s51 (.int .i64 cxy) ∧ LdS (up 11) s52 (.int .i64 cyx) ∧ LdS (up 12) s53 (.bool false) ∧ LdS (up 13) s54 (.bool false) ∧ LdS (up 14) s55 (.bool false) ∧ LdS (up 15) s56 (.int .i64 cxy) ∧ LdS (up 16) s57 (.bool E0) ∧ LdS (up 17) s58 (.agg #[.bool ng_x, .slice ao_x zs_x.length c_x]) ∧ ReS (up 18) w' s59 (N_x) 1048576 ∧ LdS (up 19) s60 (.agg #[.bool ng_y, .slice ao_y zs_y.length c_y]) ∧ ReS (up 20) w' s61 (N_y) 1048576 ∧ LdS (up 21) s62 (.bool E0) ∧ LdS (up 22) s63 (.bool false) ∧ LdS (up 23) s64 (.bool false) ∧ LdS (up 24) s65 (.bool false) ∧ LdS (up 25) s66 (.int .i64 cxy) ∧ LdS (up 26) s67 (.bool P1) ∧ LdS (up 27) s68 (.bool P1) ∧ LdS (up 28) s69 (@Bool.rec (fun _ => Value) undef (.int .i64 cyz) P1) ∧ LdS (up 29) s70 (@Bool.rec (fun _ => Value) undef (.bool P2) P1) ∧ LdS (up 30) s71 (.bool (@Bool.rec (fun _ => Bool) false P2 P1)) ∧ LdS (up 31) s72 (.bool (@Bool.rec (fun _ => Bool) false P2 P1)) ∧ LdS (up 32) s73 (@Bool.rec (fun _ => Value) undef (.int .i64 cxz) (@Bool.rec (fun _ => Bool) false P2 P1)) ∧ LdS (up 33) s74 (@Bool.rec (fun _ => Value) undef (.bool P3) (@Bool.rec (fun _ => Bool) false P2 P1)) ∧ LdS (up 34) s75 (.bool false) ∧ LdS (up 35) s76 (.bool false) ∧ LdS (up 36) s77 (.bool false) ∧ LdS (up 37) s78 (.int .i64 cxy) ∧ LdS (up 38) s79 (.bool Q1) ∧ LdS (up 39) s80 (.bool Q1) ∧ LdS (up 40) s81 (@Bool.rec (fun _ => Value) undef (.int .i64 cyz) Q1) ∧ LdS (up 41) s82 (@Bool.rec (fun _ => Value) undef (.bool Q2) Q1) ∧ LdS (up 42) s83 (.bool (@Bool.rec (fun _ => Bool) false Q2 Q1)) ∧ LdS (up 43) s84 (.bool (@Bool.rec (fun _ => Bool) false Q2 Q1)) ∧ LdS (up 44) s85 (@Bool.rec (fun _ => Value) undef (.int .i64 cxz) (@Bool.rec (fun _ => Bool) false Q2 Q1)) ∧ LdS (up 45) s86 (@Bool.rec (fun _ => Value) undef (.bool Q3) (@Bool.rec (fun _ => Bool) false Q2 Q1)) ∧ LdS (up 46) s87 (.bool false) ∧ LdS (up 47) s88 (.bool false)) (by kernel_rfl) (by kernel_rfl) ?_ ?_ ?_
      · refine ⟨?q2_41, ?q2_42, ?q2_43, ?q2_44, ?q2_45, ?q2_46, ?q2_47, ?q2_48, ?q2_49, ?q2_50, ?q2_51, ?q2_52, ?q2_53, ?q2_54, ?q2_55, ?q2_56, ?q2_57, ?q2_58, ?q2_59, ?q2_60, ?q2_61, ?q2_62, ?q2_63, ?q2_64, ?q2_65, ?q2_66, ?q2_67, ?q2_68, ?q2_69, ?q2_70, ?q2_71, ?q2_72, ?q2_73, ?q2_74, ?q2_75, ?q2_76, ?q2_77, ?q2_78, ?q2_79, ?q2_80, ?q2_81, ?q2_82, ?q2_83, ?q2_84, ?q2_85, ?q2_86, ?q2_87, ?q2_88, ?q2, (Below.refl _ _).drew, fun q => (by cases q), fun q => (by cases q), fun q => (by cases q), fun q => (by cases q), fun q => (by cases q), fun q => (by cases q), fun q => (by cases q), fun q => (by cases q), fun q => (by cases q), fun q => (by cases q), fun q => (by cases q), fun q => (by cases q), fun q => (by cases q), fun q => (by cases q), fun q => (by cases q), fun q => (by cases q), fun q => (by cases q), fun q => (by cases q), fun q => (by cases q), fun q => (by cases q), fun q => (by cases q), fun q => (by cases q), fun q => (by cases q), fun q => (by cases q), fun q => (by cases q), fun q => (by cases q), fun q => (by cases q), fun q => (by cases q), fun q => (by cases q), fun q => (by cases q), fun q => (by cases q), fun q => (by cases q), fun q => (by cases q), fun q => (by cases q), fun q => (by cases q), fun q => (by cases q), fun q => (by cases q), fun q => (by cases q), fun q => (by cases q), fun q => (by cases q), fun q => (by cases q), fun q => (by cases q), fun q => (by cases q), fun q => (by cases q), fun q => (by cases q), fun q => (by cases q), fun q => (by cases q), fun q => (by cases q)⟩
        case q2 =>
          simp only [Act.put, List.setIfInBounds_toArray, List.set_cons_zero, List.set_cons_succ]
          rfl
      · intro up a wx i o ho hJ hu hm K hK
        obtain ⟨s41, hJ⟩ := hJ
        obtain ⟨s42, hJ⟩ := hJ
        obtain ⟨s43, hJ⟩ := hJ
        obtain ⟨s44, hJ⟩ := hJ
        obtain ⟨s45, hJ⟩ := hJ
        obtain ⟨s46, hJ⟩ := hJ
        obtain ⟨s47, hJ⟩ := hJ
        obtain ⟨s48, hJ⟩ := hJ
        obtain ⟨s49, hJ⟩ := hJ
        obtain ⟨s50, hJ⟩ := hJ
        obtain ⟨s51, hJ⟩ := hJ
        obtain ⟨s52, hJ⟩ := hJ
        obtain ⟨s53, hJ⟩ := hJ
        obtain ⟨s54, hJ⟩ := hJ
        obtain ⟨s55, hJ⟩ := hJ
        obtain ⟨s56, hJ⟩ := hJ
        obtain ⟨s57, hJ⟩ := hJ
        obtain ⟨s58, hJ⟩ := hJ
        obtain ⟨s59, hJ⟩ := hJ
        obtain ⟨s60, hJ⟩ := hJ
        obtain ⟨s61, hJ⟩ := hJ
        obtain ⟨s62, hJ⟩ := hJ
        obtain ⟨s63, hJ⟩ := hJ
        obtain ⟨s64, hJ⟩ := hJ
        obtain ⟨s65, hJ⟩ := hJ
        obtain ⟨s66, hJ⟩ := hJ
        obtain ⟨s67, hJ⟩ := hJ
        obtain ⟨s68, hJ⟩ := hJ
        obtain ⟨s69, hJ⟩ := hJ
        obtain ⟨s70, hJ⟩ := hJ
        obtain ⟨s71, hJ⟩ := hJ
        obtain ⟨s72, hJ⟩ := hJ
        obtain ⟨s73, hJ⟩ := hJ
        obtain ⟨s74, hJ⟩ := hJ
        obtain ⟨s75, hJ⟩ := hJ
        obtain ⟨s76, hJ⟩ := hJ
        obtain ⟨s77, hJ⟩ := hJ
        obtain ⟨s78, hJ⟩ := hJ
        obtain ⟨s79, hJ⟩ := hJ
        obtain ⟨s80, hJ⟩ := hJ
        obtain ⟨s81, hJ⟩ := hJ
        obtain ⟨s82, hJ⟩ := hJ
        obtain ⟨s83, hJ⟩ := hJ
        obtain ⟨s84, hJ⟩ := hJ
        obtain ⟨s85, hJ⟩ := hJ
        obtain ⟨s86, hJ⟩ := hJ
        obtain ⟨s87, hJ⟩ := hJ
        obtain ⟨s88, hJ⟩ := hJ
        obtain ⟨rfl, hJ⟩ := hJ
        obtain ⟨KW, hJ⟩ := hJ
        obtain ⟨o0, hJ⟩ := hJ
        obtain ⟨o1, hJ⟩ := hJ
        obtain ⟨o2, hJ⟩ := hJ
        obtain ⟨o3, hJ⟩ := hJ
        obtain ⟨o4, hJ⟩ := hJ
        obtain ⟨o5, hJ⟩ := hJ
        obtain ⟨o6, hJ⟩ := hJ
        obtain ⟨o7, hJ⟩ := hJ
        obtain ⟨o8, hJ⟩ := hJ
        obtain ⟨o9, hJ⟩ := hJ
        obtain ⟨o10, hJ⟩ := hJ
        obtain ⟨o11, hJ⟩ := hJ
        obtain ⟨o12, hJ⟩ := hJ
        obtain ⟨o13, hJ⟩ := hJ
        obtain ⟨o14, hJ⟩ := hJ
        obtain ⟨o15, hJ⟩ := hJ
        obtain ⟨o16, hJ⟩ := hJ
        obtain ⟨o17, hJ⟩ := hJ
        obtain ⟨o18, hJ⟩ := hJ
        obtain ⟨o19, hJ⟩ := hJ
        obtain ⟨o20, hJ⟩ := hJ
        obtain ⟨o21, hJ⟩ := hJ
        obtain ⟨o22, hJ⟩ := hJ
        obtain ⟨o23, hJ⟩ := hJ
        obtain ⟨o24, hJ⟩ := hJ
        obtain ⟨o25, hJ⟩ := hJ
        obtain ⟨o26, hJ⟩ := hJ
        obtain ⟨o27, hJ⟩ := hJ
        obtain ⟨o28, hJ⟩ := hJ
        obtain ⟨o29, hJ⟩ := hJ
        obtain ⟨o30, hJ⟩ := hJ
        obtain ⟨o31, hJ⟩ := hJ
        obtain ⟨o32, hJ⟩ := hJ
        obtain ⟨o33, hJ⟩ := hJ
        obtain ⟨o34, hJ⟩ := hJ
        obtain ⟨o35, hJ⟩ := hJ
        obtain ⟨o36, hJ⟩ := hJ
        obtain ⟨o37, hJ⟩ := hJ
        obtain ⟨o38, hJ⟩ := hJ
        obtain ⟨o39, hJ⟩ := hJ
        obtain ⟨o40, hJ⟩ := hJ
        obtain ⟨o41, hJ⟩ := hJ
        obtain ⟨o42, hJ⟩ := hJ
        obtain ⟨o43, hJ⟩ := hJ
        obtain ⟨o44, hJ⟩ := hJ
        obtain ⟨o45, hJ⟩ := hJ
        obtain ⟨o46, hJ⟩ := hJ
        have o47 := hJ
        clear hJ
        simp only [Act.put, List.setIfInBounds_toArray, List.set_cons_zero, List.set_cons_succ]
        have hi : i < 48 := (Array.getElem?_eq_some_iff.1 ho).1
        match i, hi with
        | 0, _ =>
          cases ho
          rw [if_pos (by rfl)]
          go_simp
          refine hK (fun k => if k = 0 then true else up k) _ _ rfl (fun k hk => if_neg hk) (⟨_, s42, s43, s44, s45, s46, s47, s48, s49, s50, s51, s52, s53, s54, s55, s56, s57, s58, s59, s60, s61, s62, s63, s64, s65, s66, s67, s68, s69, s70, s71, s72, s73, s74, s75, s76, s77, s78, s79, s80, s81, s82, s83, s84, s85, s86, s87, s88, ?_, KW, (fun _ => rfl : _), (o1 : _), (o2 : _), (o3 : _), (o4 : _), (o5 : _), (o6 : _), (o7 : _), (o8 : _), (o9 : _), (o10 : _), (o11 : _), (o12 : _), (o13 : _), (o14 : _), (o15 : _), (o16 : _), (o17 : _), (o18 : _), (o19 : _), (o20 : _), (o21 : _), (o22 : _), (o23 : _), (o24 : _), (o25 : _), (o26 : _), (o27 : _), (o28 : _), (o29 : _), (o30 : _), (o31 : _), (o32 : _), (o33 : _), (o34 : _), (o35 : _), (o36 : _), (o37 : _), (o38 : _), (o39 : _), (o40 : _), (o41 : _), (o42 : _), (o43 : _), (o44 : _), (o45 : _), (o46 : _), (o47 : _)⟩)
          simp only [Act.put, List.setIfInBounds_toArray, List.set_cons_zero, List.set_cons_succ]
        | 1, _ =>
          cases ho
          simp [MetB, Region.binds] at hm
          obtain rfl := o0 (by simp [hm])
          have g := HG.out.1
          rw [if_pos (by rfl)]
          go_simp
          refine hK (fun k => if k = 1 then true else up k) _ _ rfl (fun k hk => if_neg hk) (⟨_, _, s43, s44, s45, s46, s47, s48, s49, s50, s51, s52, s53, s54, s55, s56, s57, s58, s59, s60, s61, s62, s63, s64, s65, s66, s67, s68, s69, s70, s71, s72, s73, s74, s75, s76, s77, s78, s79, s80, s81, s82, s83, s84, s85, s86, s87, s88, ?_, KW, (o0 : _), (fun _ => rfl : _), (o2 : _), (o3 : _), (o4 : _), (o5 : _), (o6 : _), (o7 : _), (o8 : _), (o9 : _), (o10 : _), (o11 : _), (o12 : _), (o13 : _), (o14 : _), (o15 : _), (o16 : _), (o17 : _), (o18 : _), (o19 : _), (o20 : _), (o21 : _), (o22 : _), (o23 : _), (o24 : _), (o25 : _), (o26 : _), (o27 : _), (o28 : _), (o29 : _), (o30 : _), (o31 : _), (o32 : _), (o33 : _), (o34 : _), (o35 : _), (o36 : _), (o37 : _), (o38 : _), (o39 : _), (o40 : _), (o41 : _), (o42 : _), (o43 : _), (o44 : _), (o45 : _), (o46 : _), (o47 : _)⟩)
          simp only [Act.put, List.setIfInBounds_toArray, List.set_cons_zero, List.set_cons_succ]
        | 2, _ =>
          cases ho
          simp [MetB, Region.binds] at hm
          obtain rfl := o1 (by simp [hm])
          rw [if_pos (by rfl)]
          go_simp
          refine hK (fun k => if k = 2 then true else up k) _ _ rfl (fun k hk => if_neg hk) (⟨s41, _, _, s44, s45, s46, s47, s48, s49, s50, s51, s52, s53, s54, s55, s56, s57, s58, s59, s60, s61, s62, s63, s64, s65, s66, s67, s68, s69, s70, s71, s72, s73, s74, s75, s76, s77, s78, s79, s80, s81, s82, s83, s84, s85, s86, s87, s88, ?_, KW, (o0 : _), (o1 : _), (fun _ => rfl : _), (o3 : _), (o4 : _), (o5 : _), (o6 : _), (o7 : _), (o8 : _), (o9 : _), (o10 : _), (o11 : _), (o12 : _), (o13 : _), (o14 : _), (o15 : _), (o16 : _), (o17 : _), (o18 : _), (o19 : _), (o20 : _), (o21 : _), (o22 : _), (o23 : _), (o24 : _), (o25 : _), (o26 : _), (o27 : _), (o28 : _), (o29 : _), (o30 : _), (o31 : _), (o32 : _), (o33 : _), (o34 : _), (o35 : _), (o36 : _), (o37 : _), (o38 : _), (o39 : _), (o40 : _), (o41 : _), (o42 : _), (o43 : _), (o44 : _), (o45 : _), (o46 : _), (o47 : _)⟩)
          simp only [Act.put, List.setIfInBounds_toArray, List.set_cons_zero, List.set_cons_succ]
        | 3, _ =>
          cases ho
          simp [MetB, Region.binds] at hm
          obtain rfl := o2 (by simp [hm])
          rw [if_pos (by rfl)]
          go_simp
          refine hK (fun k => if k = 3 then true else up k) _ _ rfl (fun k hk => if_neg hk) (⟨s41, s42, _, _, s45, s46, s47, s48, s49, s50, s51, s52, s53, s54, s55, s56, s57, s58, s59, s60, s61, s62, s63, s64, s65, s66, s67, s68, s69, s70, s71, s72, s73, s74, s75, s76, s77, s78, s79, s80, s81, s82, s83, s84, s85, s86, s87, s88, ?_, KW, (o0 : _), (o1 : _), (o2 : _), (fun _ => rfl : _), (o4 : _), (o5 : _), (o6 : _), (o7 : _), (o8 : _), (o9 : _), (o10 : _), (o11 : _), (o12 : _), (o13 : _), (o14 : _), (o15 : _), (o16 : _), (o17 : _), (o18 : _), (o19 : _), (o20 : _), (o21 : _), (o22 : _), (o23 : _), (o24 : _), (o25 : _), (o26 : _), (o27 : _), (o28 : _), (o29 : _), (o30 : _), (o31 : _), (o32 : _), (o33 : _), (o34 : _), (o35 : _), (o36 : _), (o37 : _), (o38 : _), (o39 : _), (o40 : _), (o41 : _), (o42 : _), (o43 : _), (o44 : _), (o45 : _), (o46 : _), (o47 : _)⟩)
          simp only [Act.put, List.setIfInBounds_toArray, List.set_cons_zero, List.set_cons_succ]
        | 4, _ =>
          cases ho
          simp [MetB, Region.binds] at hm
          obtain rfl := o3 (by simp [hm])
          obtain rfl := o2 (by simp [hm])
          have g := HG.out.2.1
          rw [if_pos (by rfl)]
          go_simp
          refine hK (fun k => if k = 4 then true else up k) _ _ rfl (fun k hk => if_neg hk) (⟨s41, s42, _, _, _, s46, s47, s48, s49, s50, s51, s52, s53, s54, s55, s56, s57, s58, s59, s60, s61, s62, s63, s64, s65, s66, s67, s68, s69, s70, s71, s72, s73, s74, s75, s76, s77, s78, s79, s80, s81, s82, s83, s84, s85, s86, s87, s88, ?_, KW, (o0 : _), (o1 : _), (o2 : _), (o3 : _), (fun _ => rfl : _), (o5 : _), (o6 : _), (o7 : _), (o8 : _), (o9 : _), (o10 : _), (o11 : _), (o12 : _), (o13 : _), (o14 : _), (o15 : _), (o16 : _), (o17 : _), (o18 : _), (o19 : _), (o20 : _), (o21 : _), (o22 : _), (o23 : _), (o24 : _), (o25 : _), (o26 : _), (o27 : _), (o28 : _), (o29 : _), (o30 : _), (o31 : _), (o32 : _), (o33 : _), (o34 : _), (o35 : _), (o36 : _), (o37 : _), (o38 : _), (o39 : _), (o40 : _), (o41 : _), (o42 : _), (o43 : _), (o44 : _), (o45 : _), (o46 : _), (o47 : _)⟩)
          simp only [Act.put, List.setIfInBounds_toArray, List.set_cons_zero, List.set_cons_succ]
        | 5, _ =>
          cases ho
          simp [MetB, Region.binds] at hm
          obtain rfl := o2 (by simp [hm])
          obtain rfl := o4 (by simp [hm])
          rw [if_pos (by rfl)]
          go_simp
          refine hK (fun k => if k = 5 then true else up k) _ _ rfl (fun k hk => if_neg hk) (⟨s41, s42, _, s44, _, _, s47, s48, s49, s50, s51, s52, s53, s54, s55, s56, s57, s58, s59, s60, s61, s62, s63, s64, s65, s66, s67, s68, s69, s70, s71, s72, s73, s74, s75, s76, s77, s78, s79, s80, s81, s82, s83, s84, s85, s86, s87, s88, ?_, KW, (o0 : _), (o1 : _), (o2 : _), (o3 : _), (o4 : _), (fun _ => rfl : _), (o6 : _), (o7 : _), (o8 : _), (o9 : _), (o10 : _), (o11 : _), (o12 : _), (o13 : _), (o14 : _), (o15 : _), (o16 : _), (o17 : _), (o18 : _), (o19 : _), (o20 : _), (o21 : _), (o22 : _), (o23 : _), (o24 : _), (o25 : _), (o26 : _), (o27 : _), (o28 : _), (o29 : _), (o30 : _), (o31 : _), (o32 : _), (o33 : _), (o34 : _), (o35 : _), (o36 : _), (o37 : _), (o38 : _), (o39 : _), (o40 : _), (o41 : _), (o42 : _), (o43 : _), (o44 : _), (o45 : _), (o46 : _), (o47 : _)⟩)
          simp only [Act.put, List.setIfInBounds_toArray, List.set_cons_zero, List.set_cons_succ]
        | 6, _ =>
          cases ho
          simp [MetB, Region.binds] at hm
          obtain rfl := o5 (by simp [hm])
          rw [if_pos (by rfl)]
          go_simp
          refine hK (fun k => if k = 6 then true else up k) _ _ rfl (fun k hk => if_neg hk) (⟨s41, s42, s43, s44, s45, _, _, s48, s49, s50, s51, s52, s53, s54, s55, s56, s57, s58, s59, s60, s61, s62, s63, s64, s65, s66, s67, s68, s69, s70, s71, s72, s73, s74, s75, s76, s77, s78, s79, s80, s81, s82, s83, s84, s85, s86, s87, s88, ?_, KW, (o0 : _), (o1 : _), (o2 : _), (o3 : _), (o4 : _), (o5 : _), (fun _ => rfl : _), (o7 : _), (o8 : _), (o9 : _), (o10 : _), (o11 : _), (o12 : _), (o13 : _), (o14 : _), (o15 : _), (o16 : _), (o17 : _), (o18 : _), (o19 : _), (o20 : _), (o21 : _), (o22 : _), (o23 : _), (o24 : _), (o25 : _), (o26 : _), (o27 : _), (o28 : _), (o29 : _), (o30 : _), (o31 : _), (o32 : _), (o33 : _), (o34 : _), (o35 : _), (o36 : _), (o37 : _), (o38 : _), (o39 : _), (o40 : _), (o41 : _), (o42 : _), (o43 : _), (o44 : _), (o45 : _), (o46 : _), (o47 : _)⟩)
          simp only [Act.put, List.setIfInBounds_toArray, List.set_cons_zero, List.set_cons_succ]
        | 7, _ =>
          cases ho
          simp [MetB, Region.binds] at hm
          obtain rfl := o6 (by simp [hm])
          rw [if_pos (by rfl)]
          have p := (HC_y.out.below KW).c0
          have q := (HC_y.out.below KW).c1
          go_simp
          refine hK (fun k => if k = 7 then true else up k) _ _ rfl (fun k hk => if_neg hk) (⟨s41, s42, s43, s44, s45, s46, _, _, s49, s50, s51, s52, s53, s54, s55, s56, s57, s58, s59, s60, s61, s62, s63, s64, s65, s66, s67, s68, s69, s70, s71, s72, s73, s74, s75, s76, s77, s78, s79, s80, s81, s82, s83, s84, s85, s86, s87, s88, ?_, KW, (o0 : _), (o1 : _), (o2 : _), (o3 : _), (o4 : _), (o5 : _), (o6 : _), (fun _ => rfl : _), (o8 : _), (o9 : _), (o10 : _), (o11 : _), (o12 : _), (o13 : _), (o14 : _), (o15 : _), (o16 : _), (o17 : _), (o18 : _), (o19 : _), (o20 : _), (o21 : _), (o22 : _), (o23 : _), (o24 : _), (o25 : _), (o26 : _), (o27 : _), (o28 : _), (o29 : _), (o30 : _), (o31 : _), (o32 : _), (o33 : _), (o34 : _), (o35 : _), (o36 : _), (o37 : _), (o38 : _), (o39 : _), (o40 : _), (o41 : _), (o42 : _), (o43 : _), (o44 : _), (o45 : _), (o46 : _), (o47 : _)⟩)
          simp only [Act.put, List.setIfInBounds_toArray, List.set_cons_zero, List.set_cons_succ]
        | 8, _ =>
          cases ho
          simp [MetB, Region.binds] at hm
          obtain rfl := o6 (by simp [hm])
          rw [if_pos (by rfl)]
          have p := (HC_x.out.below KW).c0
          have q := (HC_x.out.below KW).c1
          go_simp
          refine hK (fun k => if k = 8 then true else up k) _ _ rfl (fun k hk => if_neg hk) (⟨s41, s42, s43, s44, s45, s46, _, s48, _, s50, s51, s52, s53, s54, s55, s56, s57, s58, s59, s60, s61, s62, s63, s64, s65, s66, s67, s68, s69, s70, s71, s72, s73, s74, s75, s76, s77, s78, s79, s80, s81, s82, s83, s84, s85, s86, s87, s88, ?_, KW, (o0 : _), (o1 : _), (o2 : _), (o3 : _), (o4 : _), (o5 : _), (o6 : _), (o7 : _), (fun _ => rfl : _), (o9 : _), (o10 : _), (o11 : _), (o12 : _), (o13 : _), (o14 : _), (o15 : _), (o16 : _), (o17 : _), (o18 : _), (o19 : _), (o20 : _), (o21 : _), (o22 : _), (o23 : _), (o24 : _), (o25 : _), (o26 : _), (o27 : _), (o28 : _), (o29 : _), (o30 : _), (o31 : _), (o32 : _), (o33 : _), (o34 : _), (o35 : _), (o36 : _), (o37 : _), (o38 : _), (o39 : _), (o40 : _), (o41 : _), (o42 : _), (o43 : _), (o44 : _), (o45 : _), (o46 : _), (o47 : _)⟩)
          simp only [Act.put, List.setIfInBounds_toArray, List.set_cons_zero, List.set_cons_succ]
        | 9, _ =>
          cases ho
          simp [MetB, Region.binds] at hm
          obtain rfl := o7 (by simp [hm])
          obtain rfl := o8 (by simp [hm])
          obtain rfl := o6 (by simp [hm])
          rw [if_pos (by rfl)]
          go_simp
          go_at_call 16
          with_reducible refine (wcmp_told HH.out.2.2.2.1 (h_y.below KW) (h_x.below KW) (by omega) (by omega)).mono ?_
          rintro e wn ⟨rfl, hb⟩
          refine hK (fun k => if k = 9 then true else up k) _ _ rfl (fun k hk => if_neg hk) (⟨s41, s42, s43, s44, s45, s46, _, _, _, _, s51, s52, s53, s54, s55, s56, s57, s58, s59, s60, s61, s62, s63, s64, s65, s66, s67, s68, s69, s70, s71, s72, s73, s74, s75, s76, s77, s78, s79, s80, s81, s82, s83, s84, s85, s86, s87, s88, ?_, below_trans KW hb, (o0 : _), (o1 : _), (o2 : _), (o3 : _), (o4 : _), (o5 : _), (o6 : _), (o7 : _), (o8 : _), (fun _ => rfl : _), (o10 : _), (o11 : _), (o12 : _), (o13 : _), (o14 : _), (o15 : _), (o16 : _), (o17 : _), (o18.below hb : _), (o19 : _), (o20.below hb : _), (o21 : _), (o22 : _), (o23 : _), (o24 : _), (o25 : _), (o26 : _), (o27 : _), (o28 : _), (o29 : _), (o30 : _), (o31 : _), (o32 : _), (o33 : _), (o34 : _), (o35 : _), (o36 : _), (o37 : _), (o38 : _), (o39 : _), (o40 : _), (o41 : _), (o42 : _), (o43 : _), (o44 : _), (o45 : _), (o46 : _), (o47 : _)⟩)
          simp only [Act.put, List.setIfInBounds_toArray, List.set_cons_zero, List.set_cons_succ]
        | 10, _ =>
          cases ho
          simp [MetB, Region.binds] at hm
          obtain rfl := o6 (by simp [hm])
          rw [if_pos (by rfl)]
          go_simp
          refine hK (fun k => if k = 10 then true else up k) _ _ rfl (fun k hk => if_neg hk) (⟨s41, s42, s43, s44, s45, s46, _, s48, s49, s50, _, s52, s53, s54, s55, s56, s57, s58, s59, s60, s61, s62, s63, s64, s65, s66, s67, s68, s69, s70, s71, s72, s73, s74, s75, s76, s77, s78, s79, s80, s81, s82, s83, s84, s85, s86, s87, s88, ?_, KW, (o0 : _), (o1 : _), (o2 : _), (o3 : _), (o4 : _), (o5 : _), (o6 : _), (o7 : _), (o8 : _), (o9 : _), (fun _ => rfl : _), (o11 : _), (o12 : _), (o13 : _), (o14 : _), (o15 : _), (o16 : _), (o17 : _), (o18 : _), (o19 : _), (o20 : _), (o21 : _), (o22 : _), (o23 : _), (o24 : _), (o25 : _), (o26 : _), (o27 : _), (o28 : _), (o29 : _), (o30 : _), (o31 : _), (o32 : _), (o33 : _), (o34 : _), (o35 : _), (o36 : _), (o37 : _), (o38 : _), (o39 : _), (o40 : _), (o41 : _), (o42 : _), (o43 : _), (o44 : _), (o45 : _), (o46 : _), (o47 : _)⟩)
          simp only [Act.put, List.setIfInBounds_toArray, List.set_cons_zero, List.set_cons_succ]
        | 11, _ =>
          cases ho
          simp [MetB, Region.binds] at hm
          obtain rfl := o10 (by simp [hm])
          obtain rfl := o6 (by simp [hm])
          have g := HG.out.2.2.1
          rw [if_pos (by rfl)]
          go_simp
          refine hK (fun k => if k = 11 then true else up k) _ _ rfl (fun k hk => if_neg hk) (⟨s41, s42, s43, s44, s45, s46, _, s48, s49, s50, _, _, s53, s54, s55, s56, s57, s58, s59, s60, s61, s62, s63, s64, s65, s66, s67, s68, s69, s70, s71, s72, s73, s74, s75, s76, s77, s78, s79, s80, s81, s82, s83, s84, s85, s86, s87, s88, ?_, KW, (o0 : _), (o1 : _), (o2 : _), (o3 : _), (o4 : _), (o5 : _), (o6 : _), (o7 : _), (o8 : _), (o9 : _), (o10 : _), (fun _ => rfl : _), (o12 : _), (o13 : _), (o14 : _), (o15 : _), (o16 : _), (o17 : _), (o18 : _), (o19 : _), (o20 : _), (o21 : _), (o22 : _), (o23 : _), (o24 : _), (o25 : _), (o26 : _), (o27 : _), (o28 : _), (o29 : _), (o30 : _), (o31 : _), (o32 : _), (o33 : _), (o34 : _), (o35 : _), (o36 : _), (o37 : _), (o38 : _), (o39 : _), (o40 : _), (o41 : _), (o42 : _), (o43 : _), (o44 : _), (o45 : _), (o46 : _), (o47 : _)⟩)
          simp only [Act.put, List.setIfInBounds_toArray, List.set_cons_zero, List.set_cons_succ]
        | 12, _ =>
          cases ho
          simp [MetB, Region.binds] at hm
          obtain rfl := o9 (by simp [hm])
          obtain rfl := o11 (by simp [hm])
          obtain rfl := o6 (by simp [hm])
          have g := HG.out.2.2.2.1
          rw [if_pos (by rfl)]
          go_simp
          refine hK (fun k => if k = 12 then true else up k) _ _ rfl (fun k hk => if_neg hk) (⟨s41, s42, s43, s44, s45, s46, _, s48, s49, _, s51, _, _, s54, s55, s56, s57, s58, s59, s60, s61, s62, s63, s64, s65, s66, s67, s68, s69, s70, s71, s72, s73, s74, s75, s76, s77, s78, s79, s80, s81, s82, s83, s84, s85, s86, s87, s88, ?_, KW, (o0 : _), (o1 : _), (o2 : _), (o3 : _), (o4 : _), (o5 : _), (o6 : _), (o7 : _), (o8 : _), (o9 : _), (o10 : _), (o11 : _), (fun _ => rfl : _), (o13 : _), (o14 : _), (o15 : _), (o16 : _), (o17 : _), (o18 : _), (o19 : _), (o20 : _), (o21 : _), (o22 : _), (o23 : _), (o24 : _), (o25 : _), (o26 : _), (o27 : _), (o28 : _), (o29 : _), (o30 : _), (o31 : _), (o32 : _), (o33 : _), (o34 : _), (o35 : _), (o36 : _), (o37 : _), (o38 : _), (o39 : _), (o40 : _), (o41 : _), (o42 : _), (o43 : _), (o44 : _), (o45 : _), (o46 : _), (o47 : _)⟩)
          simp only [Act.put, List.setIfInBounds_toArray, List.set_cons_zero, List.set_cons_succ]
        | 13, _ =>
          cases ho
          simp [MetB, Region.binds] at hm
          obtain rfl := o6 (by simp [hm])
          obtain rfl := o12 (by simp [hm])
          rw [if_pos (by rfl)]
          go_simp
          refine hK (fun k => if k = 13 then true else up k) _ _ rfl (fun k hk => if_neg hk) (⟨s41, s42, s43, s44, s45, s46, _, s48, s49, s50, s51, s52, _, _, s55, s56, s57, s58, s59, s60, s61, s62, s63, s64, s65, s66, s67, s68, s69, s70, s71, s72, s73, s74, s75, s76, s77, s78, s79, s80, s81, s82, s83, s84, s85, s86, s87, s88, ?_, KW, (o0 : _), (o1 : _), (o2 : _), (o3 : _), (o4 : _), (o5 : _), (o6 : _), (o7 : _), (o8 : _), (o9 : _), (o10 : _), (o11 : _), (o12 : _), (fun _ => rfl : _), (o14 : _), (o15 : _), (o16 : _), (o17 : _), (o18 : _), (o19 : _), (o20 : _), (o21 : _), (o22 : _), (o23 : _), (o24 : _), (o25 : _), (o26 : _), (o27 : _), (o28 : _), (o29 : _), (o30 : _), (o31 : _), (o32 : _), (o33 : _), (o34 : _), (o35 : _), (o36 : _), (o37 : _), (o38 : _), (o39 : _), (o40 : _), (o41 : _), (o42 : _), (o43 : _), (o44 : _), (o45 : _), (o46 : _), (o47 : _)⟩)
          simp only [Act.put, List.setIfInBounds_toArray, List.set_cons_zero, List.set_cons_succ]
        | 14, _ =>
          cases ho
          simp [MetB, Region.binds] at hm
          obtain rfl := o13 (by simp [hm])
          rw [if_pos (by rfl)]
          go_simp
          refine hK (fun k => if k = 14 then true else up k) _ _ rfl (fun k hk => if_neg hk) (⟨s41, s42, s43, s44, s45, s46, s47, s48, s49, s50, s51, s52, s53, _, _, s56, s57, s58, s59, s60, s61, s62, s63, s64, s65, s66, s67, s68, s69, s70, s71, s72, s73, s74, s75, s76, s77, s78, s79, s80, s81, s82, s83, s84, s85, s86, s87, s88, ?_, KW, (o0 : _), (o1 : _), (o2 : _), (o3 : _), (o4 : _), (o5 : _), (o6 : _), (o7 : _), (o8 : _), (o9 : _), (o10 : _), (o11 : _), (o12 : _), (o13 : _), (fun _ => rfl : _), (o15 : _), (o16 : _), (o17 : _), (o18 : _), (o19 : _), (o20 : _), (o21 : _), (o22 : _), (o23 : _), (o24 : _), (o25 : _), (o26 : _), (o27 : _), (o28 : _), (o29 : _), (o30 : _), (o31 : _), (o32 : _), (o33 : _), (o34 : _), (o35 : _), (o36 : _), (o37 : _), (o38 : _), (o39 : _), (o40 : _), (o41 : _), (o42 : _), (o43 : _), (o44 : _), (o45 : _), (o46 : _), (o47 : _)⟩)
          simp only [Act.put, List.setIfInBounds_toArray, List.set_cons_zero, List.set_cons_succ]
        | 15, _ =>
          cases ho
          simp [MetB, Region.binds] at hm
          obtain rfl := o14 (by simp [hm])
          rw [if_pos (by rfl)]
          go_simp
          refine hK (fun k => if k = 15 then true else up k) _ _ rfl (fun k hk => if_neg hk) (⟨s41, s42, s43, s44, s45, s46, s47, s48, s49, s50, s51, s52, s53, s54, _, _, s57, s58, s59, s60, s61, s62, s63, s64, s65, s66, s67, s68, s69, s70, s71, s72, s73, s74, s75, s76, s77, s78, s79, s80, s81, s82, s83, s84, s85, s86, s87, s88, ?_, KW, (o0 : _), (o1 : _), (o2 : _), (o3 : _), (o4 : _), (o5 : _), (o6 : _), (o7 : _), (o8 : _), (o9 : _), (o10 : _), (o11 : _), (o12 : _), (o13 : _), (o14 : _), (fun _ => rfl : _), (o16 : _), (o17 : _), (o18 : _), (o19 : _), (o20 : _), (o21 : _), (o22 : _), (o23 : _), (o24 : _), (o25 : _), (o26 : _), (o27 : _), (o28 : _), (o29 : _), (o30 : _), (o31 : _), (o32 : _), (o33 : _), (o34 : _), (o35 : _), (o36 : _), (o37 : _), (o38 : _), (o39 : _), (o40 : _), (o41 : _), (o42 : _), (o43 : _), (o44 : _), (o45 : _), (o46 : _), (o47 : _)⟩)
          simp only [Act.put, List.setIfInBounds_toArray, List.set_cons_zero, List.set_cons_succ]
        | 16, _ =>
          cases ho
          simp [MetB, Region.binds] at hm
          obtain rfl := o15 (by simp [hm])
          obtain rfl := o14 (by simp [hm])
          have g := HG.out.2.2.2.2.2.2.2.2
          rw [if_pos (by rfl)]
          go_simp
          refine hK (fun k => if k = 16 then true else up k) _ _ rfl (fun k hk => if_neg hk) (⟨s41, s42, s43, s44, s45, s46, s47, s48, s49, s50, s51, s52, s53, s54, _, _, _, s58, s59, s60, s61, s62, s63, s64, s65, s66, s67, s68, s69, s70, s71, s72, s73, s74, s75, s76, s77, s78, s79, s80, s81, s82, s83, s84, s85, s86, s87, s88, ?_, KW, (o0 : _), (o1 : _), (o2 : _), (o3 : _), (o4 : _), (o5 : _), (o6 : _), (o7 : _), (o8 : _), (o9 : _), (o10 : _), (o11 : _), (o12 : _), (o13 : _), (o14 : _), (o15 : _), (fun _ => rfl : _), (o17 : _), (o18 : _), (o19 : _), (o20 : _), (o21 : _), (o22 : _), (o23 : _), (o24 : _), (o25 : _), (o26 : _), (o27 : _), (o28 : _), (o29 : _), (o30 : _), (o31 : _), (o32 : _), (o33 : _), (o34 : _), (o35 : _), (o36 : _), (o37 : _), (o38 : _), (o39 : _), (o40 : _), (o41 : _), (o42 : _), (o43 : _), (o44 : _), (o45 : _), (o46 : _), (o47 : _)⟩)
          simp only [Act.put, List.setIfInBounds_toArray, List.set_cons_zero, List.set_cons_succ]
        | 17, _ =>
          cases ho
          simp [MetB, Region.binds] at hm
          obtain rfl := o14 (by simp [hm])
          rw [if_pos (by rfl)]
          have p := (HC_x.out.below KW).c0
          have q := (HC_x.out.below KW).c1
          go_simp
          refine hK (fun k => if k = 17 then true else up k) _ _ rfl (fun k hk => if_neg hk) (⟨s41, s42, s43, s44, s45, s46, s47, s48, s49, s50, s51, s52, s53, s54, _, s56, s57, _, s59, s60, s61, s62, s63, s64, s65, s66, s67, s68, s69, s70, s71, s72, s73, s74, s75, s76, s77, s78, s79, s80, s81, s82, s83, s84, s85, s86, s87, s88, ?_, KW, (o0 : _), (o1 : _), (o2 : _), (o3 : _), (o4 : _), (o5 : _), (o6 : _), (o7 : _), (o8 : _), (o9 : _), (o10 : _), (o11 : _), (o12 : _), (o13 : _), (o14 : _), (o15 : _), (o16 : _), (fun _ => rfl : _), (o18 : _), (o19 : _), (o20 : _), (o21 : _), (o22 : _), (o23 : _), (o24 : _), (o25 : _), (o26 : _), (o27 : _), (o28 : _), (o29 : _), (o30 : _), (o31 : _), (o32 : _), (o33 : _), (o34 : _), (o35 : _), (o36 : _), (o37 : _), (o38 : _), (o39 : _), (o40 : _), (o41 : _), (o42 : _), (o43 : _), (o44 : _), (o45 : _), (o46 : _), (o47 : _)⟩)
          simp only [Act.put, List.setIfInBounds_toArray, List.set_cons_zero, List.set_cons_succ]
        | 18, _ =>
          cases ho
          simp [MetB, Region.binds] at hm
          obtain rfl := o17 (by simp [hm])
          obtain rfl := o14 (by simp [hm])
          rw [if_pos (by rfl)]
          go_simp
          go_at_call 7
          with_reducible refine (wnorm_any (h_x.below KW) (by omega)).mono ?_
          rintro e wn ⟨v_t, rfl, t, hb⟩
          have tt := t.told
          refine hK (fun k => if k = 18 then true else up k) _ _ rfl (fun k hk => if_neg hk) (⟨s41, s42, s43, s44, s45, s46, s47, s48, s49, s50, s51, s52, s53, s54, _, s56, s57, _, _, s60, s61, s62, s63, s64, s65, s66, s67, s68, s69, s70, s71, s72, s73, s74, s75, s76, s77, s78, s79, s80, s81, s82, s83, s84, s85, s86, s87, s88, ?_, below_trans KW hb, (o0 : _), (o1 : _), (o2 : _), (o3 : _), (o4 : _), (o5 : _), (o6 : _), (o7 : _), (o8 : _), (o9 : _), (o10 : _), (o11 : _), (o12 : _), (o13 : _), (o14 : _), (o15 : _), (o16 : _), (o17 : _), (fun _ => ⟨tt, t.low (Nat.zero_le _)⟩ : _), (o19 : _), (o20.below hb : _), (o21 : _), (o22 : _), (o23 : _), (o24 : _), (o25 : _), (o26 : _), (o27 : _), (o28 : _), (o29 : _), (o30 : _), (o31 : _), (o32 : _), (o33 : _), (o34 : _), (o35 : _), (o36 : _), (o37 : _), (o38 : _), (o39 : _), (o40 : _), (o41 : _), (o42 : _), (o43 : _), (o44 : _), (o45 : _), (o46 : _), (o47 : _)⟩)
          simp only [Act.put, List.setIfInBounds_toArray, List.set_cons_zero, List.set_cons_succ]
        | 19, _ =>
          cases ho
          simp [MetB, Region.binds] at hm
          obtain rfl := o14 (by simp [hm])
          rw [if_pos (by rfl)]
          have p := (HC_y.out.below KW).c0
          have q := (HC_y.out.below KW).c1
          go_simp
          refine hK (fun k => if k = 19 then true else up k) _ _ rfl (fun k hk => if_neg hk) (⟨s41, s42, s43, s44, s45, s46, s47, s48, s49, s50, s51, s52, s53, s54, _, s56, s57, s58, s59, _, s61, s62, s63, s64, s65, s66, s67, s68, s69, s70, s71, s72, s73, s74, s75, s76, s77, s78, s79, s80, s81, s82, s83, s84, s85, s86, s87, s88, ?_, KW, (o0 : _), (o1 : _), (o2 : _), (o3 : _), (o4 : _), (o5 : _), (o6 : _), (o7 : _), (o8 : _), (o9 : _), (o10 : _), (o11 : _), (o12 : _), (o13 : _), (o14 : _), (o15 : _), (o16 : _), (o17 : _), (o18 : _), (fun _ => rfl : _), (o20 : _), (o21 : _), (o22 : _), (o23 : _), (o24 : _), (o25 : _), (o26 : _), (o27 : _), (o28 : _), (o29 : _), (o30 : _), (o31 : _), (o32 : _), (o33 : _), (o34 : _), (o35 : _), (o36 : _), (o37 : _), (o38 : _), (o39 : _), (o40 : _), (o41 : _), (o42 : _), (o43 : _), (o44 : _), (o45 : _), (o46 : _), (o47 : _)⟩)
          simp only [Act.put, List.setIfInBounds_toArray, List.set_cons_zero, List.set_cons_succ]
        | 20, _ =>
          cases ho
          simp [MetB, Region.binds] at hm
          obtain rfl := o19 (by simp [hm])
          obtain rfl := o14 (by simp [hm])
          rw [if_pos (by rfl)]
          go_simp
          go_at_call 7
          with_reducible refine (wnorm_any (h_y.below KW) (by omega)).mono ?_
          rintro e wn ⟨v_t, rfl, t, hb⟩
          have tt := t.told
          refine hK (fun k => if k = 20 then true else up k) _ _ rfl (fun k hk => if_neg hk) (⟨s41, s42, s43, s44, s45, s46, s47, s48, s49, s50, s51, s52, s53, s54, _, s56, s57, s58, s59, _, _, s62, s63, s64, s65, s66, s67, s68, s69, s70, s71, s72, s73, s74, s75, s76, s77, s78, s79, s80, s81, s82, s83, s84, s85, s86, s87, s88, ?_, below_trans KW hb, (o0 : _), (o1 : _), (o2 : _), (o3 : _), (o4 : _), (o5 : _), (o6 : _), (o7 : _), (o8 : _), (o9 : _), (o10 : _), (o11 : _), (o12 : _), (o13 : _), (o14 : _), (o15 : _), (o16 : _), (o17 : _), (o18.below hb : _), (o19 : _), (fun _ => ⟨tt, t.low (Nat.zero_le _)⟩ : _), (o21 : _), (o22 : _), (o23 : _), (o24 : _), (o25 : _), (o26 : _), (o27 : _), (o28 : _), (o29 : _), (o30 : _), (o31 : _), (o32 : _), (o33 : _), (o34 : _), (o35 : _), (o36 : _), (o37 : _), (o38 : _), (o39 : _), (o40 : _), (o41 : _), (o42 : _), (o43 : _), (o44 : _), (o45 : _), (o46 : _), (o47 : _)⟩)
          simp only [Act.put, List.setIfInBounds_toArray, List.set_cons_zero, List.set_cons_succ]
        | 21, _ =>
          cases ho
          simp [MetB, Region.binds] at hm
          obtain ⟨⟨ng_59, ro_59, rl_59, rfl⟩, r59⟩ := o18 (by simp [hm])
          obtain ⟨⟨ng_61, ro_61, rl_61, rfl⟩, r61⟩ := o20 (by simp [hm])
          obtain rfl := o14 (by simp [hm])
          rw [if_pos (by rfl)]
          go_simp
          go_at_call 11
          with_reducible refine (wsame_dec HH.out.2.2.2.2.2.2 r59 r61).mono ?_
          rintro e wn ⟨rfl, hb⟩
          refine hK (fun k => if k = 21 then true else up k) _ _ rfl (fun k hk => if_neg hk) (⟨s41, s42, s43, s44, s45, s46, s47, s48, s49, s50, s51, s52, s53, s54, _, s56, s57, s58, _, s60, _, _, s63, s64, s65, s66, s67, s68, s69, s70, s71, s72, s73, s74, s75, s76, s77, s78, s79, s80, s81, s82, s83, s84, s85, s86, s87, s88, ?_, below_trans KW hb, (o0 : _), (o1 : _), (o2 : _), (o3 : _), (o4 : _), (o5 : _), (o6 : _), (o7 : _), (o8 : _), (o9 : _), (o10 : _), (o11 : _), (o12 : _), (o13 : _), (o14 : _), (o15 : _), (o16 : _), (o17 : _), (o18.below hb : _), (o19 : _), (o20.below hb : _), (fun _ => rfl : _), (o22 : _), (o23 : _), (o24 : _), (o25 : _), (o26 : _), (o27 : _), (o28 : _), (o29 : _), (o30 : _), (o31 : _), (o32 : _), (o33 : _), (o34 : _), (o35 : _), (o36 : _), (o37 : _), (o38 : _), (o39 : _), (o40 : _), (o41 : _), (o42 : _), (o43 : _), (o44 : _), (o45 : _), (o46 : _), (o47 : _)⟩)
          simp only [Act.put, List.setIfInBounds_toArray, List.set_cons_zero, List.set_cons_succ]
        | 22, _ =>
          cases ho
          simp [MetB, Region.binds] at hm
          obtain rfl := o16 (by simp [hm])
          obtain rfl := o21 (by simp [hm])
          obtain rfl := o14 (by simp [hm])
          have g := HG.out.2.2.2.2.1
          rw [if_pos (by rfl)]
          go_simp
          refine hK (fun k => if k = 22 then true else up k) _ _ rfl (fun k hk => if_neg hk) (⟨s41, s42, s43, s44, s45, s46, s47, s48, s49, s50, s51, s52, s53, s54, _, s56, _, s58, s59, s60, s61, _, _, s64, s65, s66, s67, s68, s69, s70, s71, s72, s73, s74, s75, s76, s77, s78, s79, s80, s81, s82, s83, s84, s85, s86, s87, s88, ?_, KW, (o0 : _), (o1 : _), (o2 : _), (o3 : _), (o4 : _), (o5 : _), (o6 : _), (o7 : _), (o8 : _), (o9 : _), (o10 : _), (o11 : _), (o12 : _), (o13 : _), (o14 : _), (o15 : _), (o16 : _), (o17 : _), (o18 : _), (o19 : _), (o20 : _), (o21 : _), (fun _ => rfl : _), (o23 : _), (o24 : _), (o25 : _), (o26 : _), (o27 : _), (o28 : _), (o29 : _), (o30 : _), (o31 : _), (o32 : _), (o33 : _), (o34 : _), (o35 : _), (o36 : _), (o37 : _), (o38 : _), (o39 : _), (o40 : _), (o41 : _), (o42 : _), (o43 : _), (o44 : _), (o45 : _), (o46 : _), (o47 : _)⟩)
          simp only [Act.put, List.setIfInBounds_toArray, List.set_cons_zero, List.set_cons_succ]
        | 23, _ =>
          cases ho
          simp [MetB, Region.binds] at hm
          obtain rfl := o14 (by simp [hm])
          obtain rfl := o22 (by simp [hm])
          rw [if_pos (by rfl)]
          go_simp
          refine hK (fun k => if k = 23 then true else up k) _ _ rfl (fun k hk => if_neg hk) (⟨s41, s42, s43, s44, s45, s46, s47, s48, s49, s50, s51, s52, s53, s54, _, s56, s57, s58, s59, s60, s61, s62, _, _, s65, s66, s67, s68, s69, s70, s71, s72, s73, s74, s75, s76, s77, s78, s79, s80, s81, s82, s83, s84, s85, s86, s87, s88, ?_, KW, (o0 : _), (o1 : _), (o2 : _), (o3 : _), (o4 : _), (o5 : _), (o6 : _), (o7 : _), (o8 : _), (o9 : _), (o10 : _), (o11 : _), (o12 : _), (o13 : _), (o14 : _), (o15 : _), (o16 : _), (o17 : _), (o18 : _), (o19 : _), (o20 : _), (o21 : _), (o22 : _), (fun _ => rfl : _), (o24 : _), (o25 : _), (o26 : _), (o27 : _), (o28 : _), (o29 : _), (o30 : _), (o31 : _), (o32 : _), (o33 : _), (o34 : _), (o35 : _), (o36 : _), (o37 : _), (o38 : _), (o39 : _), (o40 : _), (o41 : _), (o42 : _), (o43 : _), (o44 : _), (o45 : _), (o46 : _), (o47 : _)⟩)
          simp only [Act.put, List.setIfInBounds_toArray, List.set_cons_zero, List.set_cons_succ]
        | 24, _ =>
          cases ho
          simp [MetB, Region.binds] at hm
          obtain rfl := o23 (by simp [hm])
          rw [if_pos (by rfl)]
          go_simp
          refine hK (fun k => if k = 24 then true else up k) _ _ rfl (fun k hk => if_neg hk) (⟨s41, s42, s43, s44, s45, s46, s47, s48, s49, s50, s51, s52, s53, s54, s55, s56, s57, s58, s59, s60, s61, s62, s63, _, _, s66, s67, s68, s69, s70, s71, s72, s73, s74, s75, s76, s77, s78, s79, s80, s81, s82, s83, s84, s85, s86, s87, s88, ?_, KW, (o0 : _), (o1 : _), (o2 : _), (o3 : _), (o4 : _), (o5 : _), (o6 : _), (o7 : _), (o8 : _), (o9 : _), (o10 : _), (o11 : _), (o12 : _), (o13 : _), (o14 : _), (o15 : _), (o16 : _), (o17 : _), (o18 : _), (o19 : _), (o20 : _), (o21 : _), (o22 : _), (o23 : _), (fun _ => rfl : _), (o25 : _), (o26 : _), (o27 : _), (o28 : _), (o29 : _), (o30 : _), (o31 : _), (o32 : _), (o33 : _), (o34 : _), (o35 : _), (o36 : _), (o37 : _), (o38 : _), (o39 : _), (o40 : _), (o41 : _), (o42 : _), (o43 : _), (o44 : _), (o45 : _), (o46 : _), (o47 : _)⟩)
          simp only [Act.put, List.setIfInBounds_toArray, List.set_cons_zero, List.set_cons_succ]
        | 25, _ =>
          cases ho
          simp [MetB, Region.binds] at hm
          obtain rfl := o24 (by simp [hm])
          rw [if_pos (by rfl)]
          go_simp
          refine hK (fun k => if k = 25 then true else up k) _ _ rfl (fun k hk => if_neg hk) (⟨s41, s42, s43, s44, s45, s46, s47, s48, s49, s50, s51, s52, s53, s54, s55, s56, s57, s58, s59, s60, s61, s62, s63, s64, _, _, s67, s68, s69, s70, s71, s72, s73, s74, s75, s76, s77, s78, s79, s80, s81, s82, s83, s84, s85, s86, s87, s88, ?_, KW, (o0 : _), (o1 : _), (o2 : _), (o3 : _), (o4 : _), (o5 : _), (o6 : _), (o7 : _), (o8 : _), (o9 : _), (o10 : _), (o11 : _), (o12 : _), (o13 : _), (o14 : _), (o15 : _), (o16 : _), (o17 : _), (o18 : _), (o19 : _), (o20 : _), (o21 : _), (o22 : _), (o23 : _), (o24 : _), (fun _ => rfl : _), (o26 : _), (o27 : _), (o28 : _), (o29 : _), (o30 : _), (o31 : _), (o32 : _), (o33 : _), (o34 : _), (o35 : _), (o36 : _), (o37 : _), (o38 : _), (o39 : _), (o40 : _), (o41 : _), (o42 : _), (o43 : _), (o44 : _), (o45 : _), (o46 : _), (o47 : _)⟩)
          simp only [Act.put, List.setIfInBounds_toArray, List.set_cons_zero, List.set_cons_succ]
        | 26, _ =>
          cases ho
          simp [MetB, Region.binds] at hm
          obtain rfl := o25 (by simp [hm])
          obtain rfl := o24 (by simp [hm])
          have g := hPQ.out.1
          rw [if_pos (by rfl)]
          go_simp
          refine hK (fun k => if k = 26 then true else up k) _ _ rfl (fun k hk => if_neg hk) (⟨s41, s42, s43, s44, s45, s46, s47, s48, s49, s50, s51, s52, s53, s54, s55, s56, s57, s58, s59, s60, s61, s62, s63, s64, _, _, _, s68, s69, s70, s71, s72, s73, s74, s75, s76, s77, s78, s79, s80, s81, s82, s83, s84, s85, s86, s87, s88, ?_, KW, (o0 : _), (o1 : _), (o2 : _), (o3 : _), (o4 : _), (o5 : _), (o6 : _), (o7 : _), (o8 : _), (o9 : _), (o10 : _), (o11 : _), (o12 : _), (o13 : _), (o14 : _), (o15 : _), (o16 : _), (o17 : _), (o18 : _), (o19 : _), (o20 : _), (o21 : _), (o22 : _), (o23 : _), (o24 : _), (o25 : _), (fun _ => rfl : _), (o27 : _), (o28 : _), (o29 : _), (o30 : _), (o31 : _), (o32 : _), (o33 : _), (o34 : _), (o35 : _), (o36 : _), (o37 : _), (o38 : _), (o39 : _), (o40 : _), (o41 : _), (o42 : _), (o43 : _), (o44 : _), (o45 : _), (o46 : _), (o47 : _)⟩)
          simp only [Act.put, List.setIfInBounds_toArray, List.set_cons_zero, List.set_cons_succ]
        | 27, _ =>
          cases ho
          simp [MetB, Region.binds] at hm
          obtain rfl := o26 (by simp [hm])
          obtain rfl := o24 (by simp [hm])
          rw [if_pos (by rfl)]
          go_simp
          refine hK (fun k => if k = 27 then true else up k) _ _ rfl (fun k hk => if_neg hk) (⟨s41, s42, s43, s44, s45, s46, s47, s48, s49, s50, s51, s52, s53, s54, s55, s56, s57, s58, s59, s60, s61, s62, s63, s64, _, s66, _, _, s69, s70, s71, s72, s73, s74, s75, s76, s77, s78, s79, s80, s81, s82, s83, s84, s85, s86, s87, s88, ?_, KW, (o0 : _), (o1 : _), (o2 : _), (o3 : _), (o4 : _), (o5 : _), (o6 : _), (o7 : _), (o8 : _), (o9 : _), (o10 : _), (o11 : _), (o12 : _), (o13 : _), (o14 : _), (o15 : _), (o16 : _), (o17 : _), (o18 : _), (o19 : _), (o20 : _), (o21 : _), (o22 : _), (o23 : _), (o24 : _), (o25 : _), (o26 : _), (fun _ => rfl : _), (o28 : _), (o29 : _), (o30 : _), (o31 : _), (o32 : _), (o33 : _), (o34 : _), (o35 : _), (o36 : _), (o37 : _), (o38 : _), (o39 : _), (o40 : _), (o41 : _), (o42 : _), (o43 : _), (o44 : _), (o45 : _), (o46 : _), (o47 : _)⟩)
          simp only [Act.put, List.setIfInBounds_toArray, List.set_cons_zero, List.set_cons_succ]
        | 28, _ =>
          cases ho
          simp [MetB, Region.binds] at hm
          obtain rfl := o27 (by simp [hm])
          cases P1 <;> (
            (try dsimp only)
            (first | rw [if_pos (by rfl)] | rw [if_neg (fun hq => Bool.noConfusion ((show Region.wanted _ _ = false from rfl).symm.trans hq))])
            (try go_simp)
            refine hK (fun k => if k = 28 then true else up k) _ _ rfl (fun k hk => if_neg hk) (⟨s41, s42, s43, s44, s45, s46, s47, s48, s49, s50, s51, s52, s53, s54, s55, s56, s57, s58, s59, s60, s61, s62, s63, s64, s65, s66, s67, _, _, s70, s71, s72, s73, s74, s75, s76, s77, s78, s79, s80, s81, s82, s83, s84, s85, s86, s87, s88, ?_, KW, (o0 : _), (o1 : _), (o2 : _), (o3 : _), (o4 : _), (o5 : _), (o6 : _), (o7 : _), (o8 : _), (o9 : _), (o10 : _), (o11 : _), (o12 : _), (o13 : _), (o14 : _), (o15 : _), (o16 : _), (o17 : _), (o18 : _), (o19 : _), (o20 : _), (o21 : _), (o22 : _), (o23 : _), (o24 : _), (o25 : _), (o26 : _), (o27 : _), (fun _ => rfl : _), (o29 : _), (o30 : _), (o31 : _), (o32 : _), (o33 : _), (o34 : _), (o35 : _), (o36 : _), (o37 : _), (o38 : _), (o39 : _), (o40 : _), (o41 : _), (o42 : _), (o43 : _), (o44 : _), (o45 : _), (o46 : _), (o47 : _)⟩)
            simp only [Act.put, List.setIfInBounds_toArray, List.set_cons_zero, List.set_cons_succ])
        | 29, _ =>
          cases ho
          simp [MetB, Region.binds] at hm
          obtain rfl := o28 (by simp [hm])
          obtain rfl := o27 (by simp [hm])
          have g := hPQ.out.2.1
          cases P1 <;> (
            (try dsimp only)
            (first | rw [if_pos (by rfl)] | rw [if_neg (fun hq => Bool.noConfusion ((show Region.wanted _ _ = false from rfl).symm.trans hq))])
            (try go_simp)
            refine hK (fun k => if k = 29 then true else up k) _ _ rfl (fun k hk => if_neg hk) (⟨s41, s42, s43, s44, s45, s46, s47, s48, s49, s50, s51, s52, s53, s54, s55, s56, s57, s58, s59, s60, s61, s62, s63, s64, s65, s66, s67, _, _, _, s71, s72, s73, s74, s75, s76, s77, s78, s79, s80, s81, s82, s83, s84, s85, s86, s87, s88, ?_, KW, (o0 : _), (o1 : _), (o2 : _), (o3 : _), (o4 : _), (o5 : _), (o6 : _), (o7 : _), (o8 : _), (o9 : _), (o10 : _), (o11 : _), (o12 : _), (o13 : _), (o14 : _), (o15 : _), (o16 : _), (o17 : _), (o18 : _), (o19 : _), (o20 : _), (o21 : _), (o22 : _), (o23 : _), (o24 : _), (o25 : _), (o26 : _), (o27 : _), (o28 : _), (fun _ => rfl : _), (o30 : _), (o31 : _), (o32 : _), (o33 : _), (o34 : _), (o35 : _), (o36 : _), (o37 : _), (o38 : _), (o39 : _), (o40 : _), (o41 : _), (o42 : _), (o43 : _), (o44 : _), (o45 : _), (o46 : _), (o47 : _)⟩)
            simp only [Act.put, List.setIfInBounds_toArray, List.set_cons_zero, List.set_cons_succ])
        | 30, _ =>
          cases ho
          simp [MetB, Region.binds] at hm
          obtain rfl := o27 (by simp [hm])
          obtain rfl := o29 (by simp [hm])
          obtain rfl := o24 (by simp [hm])
          cases P1 <;> (
            (try dsimp only)
            (first | rw [if_pos (by rfl)] | rw [if_neg (fun hq => Bool.noConfusion ((show Region.wanted _ _ = false from rfl).symm.trans hq))])
            (try go_simp)
            refine hK (fun k => if k = 30 then true else up k) _ _ rfl (fun k hk => if_neg hk) (⟨s41, s42, s43, s44, s45, s46, s47, s48, s49, s50, s51, s52, s53, s54, s55, s56, s57, s58, s59, s60, s61, s62, s63, s64, _, s66, s67, _, s69, _, _, s72, s73, s74, s75, s76, s77, s78, s79, s80, s81, s82, s83, s84, s85, s86, s87, s88, ?_, KW, (o0 : _), (o1 : _), (o2 : _), (o3 : _), (o4 : _), (o5 : _), (o6 : _), (o7 : _), (o8 : _), (o9 : _), (o10 : _), (o11 : _), (o12 : _), (o13 : _), (o14 : _), (o15 : _), (o16 : _), (o17 : _), (o18 : _), (o19 : _), (o20 : _), (o21 : _), (o22 : _), (o23 : _), (o24 : _), (o25 : _), (o26 : _), (o27 : _), (o28 : _), (o29 : _), (fun _ => rfl : _), (o31 : _), (o32 : _), (o33 : _), (o34 : _), (o35 : _), (o36 : _), (o37 : _), (o38 : _), (o39 : _), (o40 : _), (o41 : _), (o42 : _), (o43 : _), (o44 : _), (o45 : _), (o46 : _), (o47 : _)⟩)
            simp only [Act.put, List.setIfInBounds_toArray, List.set_cons_zero, List.set_cons_succ])
        | 31, _ =>
          cases ho
          simp [MetB, Region.binds] at hm
          obtain rfl := o30 (by simp [hm])
          obtain rfl := o24 (by simp [hm])
          rw [if_pos (by rfl)]
          go_simp
          refine hK (fun k => if k = 31 then true else up k) _ _ rfl (fun k hk => if_neg hk) (⟨s41, s42, s43, s44, s45, s46, s47, s48, s49, s50, s51, s52, s53, s54, s55, s56, s57, s58, s59, s60, s61, s62, s63, s64, _, s66, s67, s68, s69, s70, _, _, s73, s74, s75, s76, s77, s78, s79, s80, s81, s82, s83, s84, s85, s86, s87, s88, ?_, KW, (o0 : _), (o1 : _), (o2 : _), (o3 : _), (o4 : _), (o5 : _), (o6 : _), (o7 : _), (o8 : _), (o9 : _), (o10 : _), (o11 : _), (o12 : _), (o13 : _), (o14 : _), (o15 : _), (o16 : _), (o17 : _), (o18 : _), (o19 : _), (o20 : _), (o21 : _), (o22 : _), (o23 : _), (o24 : _), (o25 : _), (o26 : _), (o27 : _), (o28 : _), (o29 : _), (o30 : _), (fun _ => rfl : _), (o32 : _), (o33 : _), (o34 : _), (o35 : _), (o36 : _), (o37 : _), (o38 : _), (o39 : _), (o40 : _), (o41 : _), (o42 : _), (o43 : _), (o44 : _), (o45 : _), (o46 : _), (o47 : _)⟩)
          simp only [Act.put, List.setIfInBounds_toArray, List.set_cons_zero, List.set_cons_succ]
        | 32, _ =>
          cases ho
          simp [MetB, Region.binds] at hm
          obtain rfl := o31 (by simp [hm])
          cases P1 <;> cases P2 <;> (
            (try dsimp only)
            (first | rw [if_pos (by rfl)] | rw [if_neg (fun hq => Bool.noConfusion ((show Region.wanted _ _ = false from rfl).symm.trans hq))])
            (try go_simp)
            refine hK (fun k => if k = 32 then true else up k) _ _ rfl (fun k hk => if_neg hk) (⟨s41, s42, s43, s44, s45, s46, s47, s48, s49, s50, s51, s52, s53, s54, s55, s56, s57, s58, s59, s60, s61, s62, s63, s64, s65, s66, s67, s68, s69, s70, s71, _, _, s74, s75, s76, s77, s78, s79, s80, s81, s82, s83, s84, s85, s86, s87, s88, ?_, KW, (o0 : _), (o1 : _), (o2 : _), (o3 : _), (o4 : _), (o5 : _), (o6 : _), (o7 : _), (o8 : _), (o9 : _), (o10 : _), (o11 : _), (o12 : _), (o13 : _), (o14 : _), (o15 : _), (o16 : _), (o17 : _), (o18 : _), (o19 : _), (o20 : _), (o21 : _), (o22 : _), (o23 : _), (o24 : _), (o25 : _), (o26 : _), (o27 : _), (o28 : _), (o29 : _), (o30 : _), (o31 : _), (fun _ => rfl : _), (o33 : _), (o34 : _), (o35 : _), (o36 : _), (o37 : _), (o38 : _), (o39 : _), (o40 : _), (o41 : _), (o42 : _), (o43 : _), (o44 : _), (o45 : _), (o46 : _), (o47 : _)⟩)
            simp only [Act.put, List.setIfInBounds_toArray, List.set_cons_zero, List.set_cons_succ])
        | 33, _ =>
          cases ho
          simp [MetB, Region.binds] at hm
          obtain rfl := o32 (by simp [hm])
          obtain rfl := o31 (by simp [hm])
          have g := hPQ.out.2.2.1
          cases P1 <;> cases P2 <;> (
            (try dsimp only)
            (first | rw [if_pos (by rfl)] | rw [if_neg (fun hq => Bool.noConfusion ((show Region.wanted _ _ = false from rfl).symm.trans hq))])
            (try go_simp)
            refine hK (fun k => if k = 33 then true else up k) _ _ rfl (fun k hk => if_neg hk) (⟨s41, s42, s43, s44, s45, s46, s47, s48, s49, s50, s51, s52, s53, s54, s55, s56, s57, s58, s59, s60, s61, s62, s63, s64, s65, s66, s67, s68, s69, s70, s71, _, _, _, s75, s76, s77, s78, s79, s80, s81, s82, s83, s84, s85, s86, s87, s88, ?_, KW, (o0 : _), (o1 : _), (o2 : _), (o3 : _), (o4 : _), (o5 : _), (o6 : _), (o7 : _), (o8 : _), (o9 : _), (o10 : _), (o11 : _), (o12 : _), (o13 : _), (o14 : _), (o15 : _), (o16 : _), (o17 : _), (o18 : _), (o19 : _), (o20 : _), (o21 : _), (o22 : _), (o23 : _), (o24 : _), (o25 : _), (o26 : _), (o27 : _), (o28 : _), (o29 : _), (o30 : _), (o31 : _), (o32 : _), (fun _ => rfl : _), (o34 : _), (o35 : _), (o36 : _), (o37 : _), (o38 : _), (o39 : _), (o40 : _), (o41 : _), (o42 : _), (o43 : _), (o44 : _), (o45 : _), (o46 : _), (o47 : _)⟩)
            simp only [Act.put, List.setIfInBounds_toArray, List.set_cons_zero, List.set_cons_succ])
        | 34, _ =>
          cases ho
          simp [MetB, Region.binds] at hm
          obtain rfl := o31 (by simp [hm])
          obtain rfl := o33 (by simp [hm])
          obtain rfl := o24 (by simp [hm])
          cases P1 <;> cases P2 <;> cases P3 <;> (first | (exact absurd hP (by decide)) | (
            (try dsimp only)
            (first | rw [if_pos (by rfl)] | rw [if_neg (fun hq => Bool.noConfusion ((show Region.wanted _ _ = false from rfl).symm.trans hq))])
            (try go_simp)
            refine hK (fun k => if k = 34 then true else up k) _ _ rfl (fun k hk => if_neg hk) (⟨s41, s42, s43, s44, s45, s46, s47, s48, s49, s50, s51, s52, s53, s54, s55, s56, s57, s58, s59, s60, s61, s62, s63, s64, _, s66, s67, s68, s69, s70, s71, _, s73, _, _, s76, s77, s78, s79, s80, s81, s82, s83, s84, s85, s86, s87, s88, ?_, KW, (o0 : _), (o1 : _), (o2 : _), (o3 : _), (o4 : _), (o5 : _), (o6 : _), (o7 : _), (o8 : _), (o9 : _), (o10 : _), (o11 : _), (o12 : _), (o13 : _), (o14 : _), (o15 : _), (o16 : _), (o17 : _), (o18 : _), (o19 : _), (o20 : _), (o21 : _), (o22 : _), (o23 : _), (o24 : _), (o25 : _), (o26 : _), (o27 : _), (o28 : _), (o29 : _), (o30 : _), (o31 : _), (o32 : _), (o33 : _), (fun _ => rfl : _), (o35 : _), (o36 : _), (o37 : _), (o38 : _), (o39 : _), (o40 : _), (o41 : _), (o42 : _), (o43 : _), (o44 : _), (o45 : _), (o46 : _), (o47 : _)⟩)
            simp only [Act.put, List.setIfInBounds_toArray, List.set_cons_zero, List.set_cons_succ]))
        | 35, _ =>
          cases ho
          simp [MetB, Region.binds] at hm
          obtain rfl := o24 (by simp [hm])
          obtain rfl := o34 (by simp [hm])
          rw [if_pos (by rfl)]
          go_simp
          refine hK (fun k => if k = 35 then true else up k) _ _ rfl (fun k hk => if_neg hk) (⟨s41, s42, s43, s44, s45, s46, s47, s48, s49, s50, s51, s52, s53, s54, s55, s56, s57, s58, s59, s60, s61, s62, s63, s64, _, s66, s67, s68, s69, s70, s71, s72, s73, s74, _, _, s77, s78, s79, s80, s81, s82, s83, s84, s85, s86, s87, s88, ?_, KW, (o0 : _), (o1 : _), (o2 : _), (o3 : _), (o4 : _), (o5 : _), (o6 : _), (o7 : _), (o8 : _), (o9 : _), (o10 : _), (o11 : _), (o12 : _), (o13 : _), (o14 : _), (o15 : _), (o16 : _), (o17 : _), (o18 : _), (o19 : _), (o20 : _), (o21 : _), (o22 : _), (o23 : _), (o24 : _), (o25 : _), (o26 : _), (o27 : _), (o28 : _), (o29 : _), (o30 : _), (o31 : _), (o32 : _), (o33 : _), (o34 : _), (fun _ => rfl : _), (o36 : _), (o37 : _), (o38 : _), (o39 : _), (o40 : _), (o41 : _), (o42 : _), (o43 : _), (o44 : _), (o45 : _), (o46 : _), (o47 : _)⟩)
          simp only [Act.put, List.setIfInBounds_toArray, List.set_cons_zero, List.set_cons_succ]
        | 36, _ =>
          cases ho
          simp [MetB, Region.binds] at hm
          obtain rfl := o35 (by simp [hm])
          rw [if_pos (by rfl)]
          go_simp
          refine hK (fun k => if k = 36 then true else up k) _ _ rfl (fun k hk => if_neg hk) (⟨s41, s42, s43, s44, s45, s46, s47, s48, s49, s50, s51, s52, s53, s54, s55, s56, s57, s58, s59, s60, s61, s62, s63, s64, s65, s66, s67, s68, s69, s70, s71, s72, s73, s74, s75, _, _, s78, s79, s80, s81, s82, s83, s84, s85, s86, s87, s88, ?_, KW, (o0 : _), (o1 : _), (o2 : _), (o3 : _), (o4 : _), (o5 : _), (o6 : _), (o7 : _), (o8 : _), (o9 : _), (o10 : _), (o11 : _), (o12 : _), (o13 : _), (o14 : _), (o15 : _), (o16 : _), (o17 : _), (o18 : _), (o19 : _), (o20 : _), (o21 : _), (o22 : _), (o23 : _), (o24 : _), (o25 : _), (o26 : _), (o27 : _), (o28 : _), (o29 : _), (o30 : _), (o31 : _), (o32 : _), (o33 : _), (o34 : _), (o35 : _), (fun _ => rfl : _), (o37 : _), (o38 : _), (o39 : _), (o40 : _), (o41 : _), (o42 : _), (o43 : _), (o44 : _), (o45 : _), (o46 : _), (o47 : _)⟩)
          simp only [Act.put, List.setIfInBounds_toArray, List.set_cons_zero, List.set_cons_succ]
        | 37, _ =>
          cases ho
          simp [MetB, Region.binds] at hm
          obtain rfl := o36 (by simp [hm])
          rw [if_pos (by rfl)]
          go_simp
          refine hK (fun k => if k = 37 then true else up k) _ _ rfl (fun k hk => if_neg hk) (⟨s41, s42, s43, s44, s45, s46, s47, s48, s49, s50, s51, s52, s53, s54, s55, s56, s57, s58, s59, s60, s61, s62, s63, s64, s65, s66, s67, s68, s69, s70, s71, s72, s73, s74, s75, s76, _, _, s79, s80, s81, s82, s83, s84, s85, s86, s87, s88, ?_, KW, (o0 : _), (o1 : _), (o2 : _), (o3 : _), (o4 : _), (o5 : _), (o6 : _), (o7 : _), (o8 : _), (o9 : _), (o10 : _), (o11 : _), (o12 : _), (o13 : _), (o14 : _), (o15 : _), (o16 : _), (o17 : _), (o18 : _), (o19 : _), (o20 : _), (o21 : _), (o22 : _), (o23 : _), (o24 : _), (o25 : _), (o26 : _), (o27 : _), (o28 : _), (o29 : _), (o30 : _), (o31 : _), (o32 : _), (o33 : _), (o34 : _), (o35 : _), (o36 : _), (fun _ => rfl : _), (o38 : _), (o39 : _), (o40 : _), (o41 : _), (o42 : _), (o43 : _), (o44 : _), (o45 : _), (o46 : _), (o47 : _)⟩)
          simp only [Act.put, List.setIfInBounds_toArray, List.set_cons_zero, List.set_cons_succ]
        | 38, _ =>
          cases ho
          simp [MetB, Region.binds] at hm
          obtain rfl := o37 (by simp [hm])
          obtain rfl := o36 (by simp [hm])
          have g := hPQ.out.2.2.2.1
          rw [if_pos (by rfl)]
          go_simp
          refine hK (fun k => if k = 38 then true else up k) _ _ rfl (fun k hk => if_neg hk) (⟨s41, s42, s43, s44, s45, s46, s47, s48, s49, s50, s51, s52, s53, s54, s55, s56, s57, s58, s59, s60, s61, s62, s63, s64, s65, s66, s67, s68, s69, s70, s71, s72, s73, s74, s75, s76, _, _, _, s80, s81, s82, s83, s84, s85, s86, s87, s88, ?_, KW, (o0 : _), (o1 : _), (o2 : _), (o3 : _), (o4 : _), (o5 : _), (o6 : _), (o7 : _), (o8 : _), (o9 : _), (o10 : _), (o11 : _), (o12 : _), (o13 : _), (o14 : _), (o15 : _), (o16 : _), (o17 : _), (o18 : _), (o19 : _), (o20 : _), (o21 : _), (o22 : _), (o23 : _), (o24 : _), (o25 : _), (o26 : _), (o27 : _), (o28 : _), (o29 : _), (o30 : _), (o31 : _), (o32 : _), (o33 : _), (o34 : _), (o35 : _), (o36 : _), (o37 : _), (fun _ => rfl : _), (o39 : _), (o40 : _), (o41 : _), (o42 : _), (o43 : _), (o44 : _), (o45 : _), (o46 : _), (o47 : _)⟩)
          simp only [Act.put, List.setIfInBounds_toArray, List.set_cons_zero, List.set_cons_succ]
        | 39, _ =>
          cases ho
          simp [MetB, Region.binds] at hm
          obtain rfl := o38 (by simp [hm])
          obtain rfl := o36 (by simp [hm])
          rw [if_pos (by rfl)]
          go_simp
          refine hK (fun k => if k = 39 then true else up k) _ _ rfl (fun k hk => if_neg hk) (⟨s41, s42, s43, s44, s45, s46, s47, s48, s49, s50, s51, s52, s53, s54, s55, s56, s57, s58, s59, s60, s61, s62, s63, s64, s65, s66, s67, s68, s69, s70, s71, s72, s73, s74, s75, s76, _, s78, _, _, s81, s82, s83, s84, s85, s86, s87, s88, ?_, KW, (o0 : _), (o1 : _), (o2 : _), (o3 : _), (o4 : _), (o5 : _), (o6 : _), (o7 : _), (o8 : _), (o9 : _), (o10 : _), (o11 : _), (o12 : _), (o13 : _), (o14 : _), (o15 : _), (o16 : _), (o17 : _), (o18 : _), (o19 : _), (o20 : _), (o21 : _), (o22 : _), (o23 : _), (o24 : _), (o25 : _), (o26 : _), (o27 : _), (o28 : _), (o29 : _), (o30 : _), (o31 : _), (o32 : _), (o33 : _), (o34 : _), (o35 : _), (o36 : _), (o37 : _), (o38 : _), (fun _ => rfl : _), (o40 : _), (o41 : _), (o42 : _), (o43 : _), (o44 : _), (o45 : _), (o46 : _), (o47 : _)⟩)
          simp only [Act.put, List.setIfInBounds_toArray, List.set_cons_zero, List.set_cons_succ]
        | 40, _ =>
          cases ho
          simp [MetB, Region.binds] at hm
          obtain rfl := o39 (by simp [hm])
          cases Q1 <;> (
            (try dsimp only)
            (first | rw [if_pos (by rfl)] | rw [if_neg (fun hq => Bool.noConfusion ((show Region.wanted _ _ = false from rfl).symm.trans hq))])
            (try go_simp)
            refine hK (fun k => if k = 40 then true else up k) _ _ rfl (fun k hk => if_neg hk) (⟨s41, s42, s43, s44, s45, s46, s47, s48, s49, s50, s51, s52, s53, s54, s55, s56, s57, s58, s59, s60, s61, s62, s63, s64, s65, s66, s67, s68, s69, s70, s71, s72, s73, s74, s75, s76, s77, s78, s79, _, _, s82, s83, s84, s85, s86, s87, s88, ?_, KW, (o0 : _), (o1 : _), (o2 : _), (o3 : _), (o4 : _), (o5 : _), (o6 : _), (o7 : _), (o8 : _), (o9 : _), (o10 : _), (o11 : _), (o12 : _), (o13 : _), (o14 : _), (o15 : _), (o16 : _), (o17 : _), (o18 : _), (o19 : _), (o20 : _), (o21 : _), (o22 : _), (o23 : _), (o24 : _), (o25 : _), (o26 : _), (o27 : _), (o28 : _), (o29 : _), (o30 : _), (o31 : _), (o32 : _), (o33 : _), (o34 : _), (o35 : _), (o36 : _), (o37 : _), (o38 : _), (o39 : _), (fun _ => rfl : _), (o41 : _), (o42 : _), (o43 : _), (o44 : _), (o45 : _), (o46 : _), (o47 : _)⟩)
            simp only [Act.put, List.setIfInBounds_toArray, List.set_cons_zero, List.set_cons_succ])
        | 41, _ =>
          cases ho
          simp [MetB, Region.binds] at hm
          obtain rfl := o40 (by simp [hm])
          obtain rfl := o39 (by simp [hm])
          have g := hPQ.out.2.2.2.2.1
          cases Q1 <;> (
            (try dsimp only)
            (first | rw [if_pos (by rfl)] | rw [if_neg (fun hq => Bool.noConfusion ((show Region.wanted _ _ = false from rfl).symm.trans hq))])
            (try go_simp)
            refine hK (fun k => if k = 41 then true else up k) _ _ rfl (fun k hk => if_neg hk) (⟨s41, s42, s43, s44, s45, s46, s47, s48, s49, s50, s51, s52, s53, s54, s55, s56, s57, s58, s59, s60, s61, s62, s63, s64, s65, s66, s67, s68, s69, s70, s71, s72, s73, s74, s75, s76, s77, s78, s79, _, _, _, s83, s84, s85, s86, s87, s88, ?_, KW, (o0 : _), (o1 : _), (o2 : _), (o3 : _), (o4 : _), (o5 : _), (o6 : _), (o7 : _), (o8 : _), (o9 : _), (o10 : _), (o11 : _), (o12 : _), (o13 : _), (o14 : _), (o15 : _), (o16 : _), (o17 : _), (o18 : _), (o19 : _), (o20 : _), (o21 : _), (o22 : _), (o23 : _), (o24 : _), (o25 : _), (o26 : _), (o27 : _), (o28 : _), (o29 : _), (o30 : _), (o31 : _), (o32 : _), (o33 : _), (o34 : _), (o35 : _), (o36 : _), (o37 : _), (o38 : _), (o39 : _), (o40 : _), (fun _ => rfl : _), (o42 : _), (o43 : _), (o44 : _), (o45 : _), (o46 : _), (o47 : _)⟩)
            simp only [Act.put, List.setIfInBounds_toArray, List.set_cons_zero, List.set_cons_succ])
        | 42, _ =>
          cases ho
          simp [MetB, Region.binds] at hm
          obtain rfl := o39 (by simp [hm])
          obtain rfl := o41 (by simp [hm])
          obtain rfl := o36 (by simp [hm])
          cases Q1 <;> (
            (try dsimp only)
            (first | rw [if_pos (by rfl)] | rw [if_neg (fun hq => Bool.noConfusion ((show Region.wanted _ _ = false from rfl).symm.trans hq))])
            (try go_simp)
            refine hK (fun k => if k = 42 then true else up k) _ _ rfl (fun k hk => if_neg hk) (⟨s41, s42, s43, s44, s45, s46, s47, s48, s49, s50, s51, s52, s53, s54, s55, s56, s57, s58, s59, s60, s61, s62, s63, s64, s65, s66, s67, s68, s69, s70, s71, s72, s73, s74, s75, s76, _, s78, s79, _, s81, _, _, s84, s85, s86, s87, s88, ?_, KW, (o0 : _), (o1 : _), (o2 : _), (o3 : _), (o4 : _), (o5 : _), (o6 : _), (o7 : _), (o8 : _), (o9 : _), (o10 : _), (o11 : _), (o12 : _), (o13 : _), (o14 : _), (o15 : _), (o16 : _), (o17 : _), (o18 : _), (o19 : _), (o20 : _), (o21 : _), (o22 : _), (o23 : _), (o24 : _), (o25 : _), (o26 : _), (o27 : _), (o28 : _), (o29 : _), (o30 : _), (o31 : _), (o32 : _), (o33 : _), (o34 : _), (o35 : _), (o36 : _), (o37 : _), (o38 : _), (o39 : _), (o40 : _), (o41 : _), (fun _ => rfl : _), (o43 : _), (o44 : _), (o45 : _), (o46 : _), (o47 : _)⟩)
            simp only [Act.put, List.setIfInBounds_toArray, List.set_cons_zero, List.set_cons_succ])
        | 43, _ =>
          cases ho
          simp [MetB, Region.binds] at hm
          obtain rfl := o42 (by simp [hm])
          obtain rfl := o36 (by simp [hm])
          rw [if_pos (by rfl)]
          go_simp
          refine hK (fun k => if k = 43 then true else up k) _ _ rfl (fun k hk => if_neg hk) (⟨s41, s42, s43, s44, s45, s46, s47, s48, s49, s50, s51, s52, s53, s54, s55, s56, s57, s58, s59, s60, s61, s62, s63, s64, s65, s66, s67, s68, s69, s70, s71, s72, s73, s74, s75, s76, _, s78, s79, s80, s81, s82, _, _, s85, s86, s87, s88, ?_, KW, (o0 : _), (o1 : _), (o2 : _), (o3 : _), (o4 : _), (o5 : _), (o6 : _), (o7 : _), (o8 : _), (o9 : _), (o10 : _), (o11 : _), (o12 : _), (o13 : _), (o14 : _), (o15 : _), (o16 : _), (o17 : _), (o18 : _), (o19 : _), (o20 : _), (o21 : _), (o22 : _), (o23 : _), (o24 : _), (o25 : _), (o26 : _), (o27 : _), (o28 : _), (o29 : _), (o30 : _), (o31 : _), (o32 : _), (o33 : _), (o34 : _), (o35 : _), (o36 : _), (o37 : _), (o38 : _), (o39 : _), (o40 : _), (o41 : _), (o42 : _), (fun _ => rfl : _), (o44 : _), (o45 : _), (o46 : _), (o47 : _)⟩)
          simp only [Act.put, List.setIfInBounds_toArray, List.set_cons_zero, List.set_cons_succ]
        | 44, _ =>
          cases ho
          simp [MetB, Region.binds] at hm
          obtain rfl := o43 (by simp [hm])
          cases Q1 <;> cases Q2 <;> (
            (try dsimp only)
            (first | rw [if_pos (by rfl)] | rw [if_neg (fun hq => Bool.noConfusion ((show Region.wanted _ _ = false from rfl).symm.trans hq))])
            (try go_simp)
            refine hK (fun k => if k = 44 then true else up k) _ _ rfl (fun k hk => if_neg hk) (⟨s41, s42, s43, s44, s45, s46, s47, s48, s49, s50, s51, s52, s53, s54, s55, s56, s57, s58, s59, s60, s61, s62, s63, s64, s65, s66, s67, s68, s69, s70, s71, s72, s73, s74, s75, s76, s77, s78, s79, s80, s81, s82, s83, _, _, s86, s87, s88, ?_, KW, (o0 : _), (o1 : _), (o2 : _), (o3 : _), (o4 : _), (o5 : _), (o6 : _), (o7 : _), (o8 : _), (o9 : _), (o10 : _), (o11 : _), (o12 : _), (o13 : _), (o14 : _), (o15 : _), (o16 : _), (o17 : _), (o18 : _), (o19 : _), (o20 : _), (o21 : _), (o22 : _), (o23 : _), (o24 : _), (o25 : _), (o26 : _), (o27 : _), (o28 : _), (o29 : _), (o30 : _), (o31 : _), (o32 : _), (o33 : _), (o34 : _), (o35 : _), (o36 : _), (o37 : _), (o38 : _), (o39 : _), (o40 : _), (o41 : _), (o42 : _), (o43 : _), (fun _ => rfl : _), (o45 : _), (o46 : _), (o47 : _)⟩)
            simp only [Act.put, List.setIfInBounds_toArray, List.set_cons_zero, List.set_cons_succ])
        | 45, _ =>
          cases ho
          simp [MetB, Region.binds] at hm
          obtain rfl := o44 (by simp [hm])
          obtain rfl := o43 (by simp [hm])
          have g := hPQ.out.2.2.2.2.2
          cases Q1 <;> cases Q2 <;> (
            (try dsimp only)
            (first | rw [if_pos (by rfl)] | rw [if_neg (fun hq => Bool.noConfusion ((show Region.wanted _ _ = false from rfl).symm.trans hq))])
            (try go_simp)
            refine hK (fun k => if k = 45 then true else up k) _ _ rfl (fun k hk => if_neg hk) (⟨s41, s42, s43, s44, s45, s46, s47, s48, s49, s50, s51, s52, s53, s54, s55, s56, s57, s58, s59, s60, s61, s62, s63, s64, s65, s66, s67, s68, s69, s70, s71, s72, s73, s74, s75, s76, s77, s78, s79, s80, s81, s82, s83, _, _, _, s87, s88, ?_, KW, (o0 : _), (o1 : _), (o2 : _), (o3 : _), (o4 : _), (o5 : _), (o6 : _), (o7 : _), (o8 : _), (o9 : _), (o10 : _), (o11 : _), (o12 : _), (o13 : _), (o14 : _), (o15 : _), (o16 : _), (o17 : _), (o18 : _), (o19 : _), (o20 : _), (o21 : _), (o22 : _), (o23 : _), (o24 : _), (o25 : _), (o26 : _), (o27 : _), (o28 : _), (o29 : _), (o30 : _), (o31 : _), (o32 : _), (o33 : _), (o34 : _), (o35 : _), (o36 : _), (o37 : _), (o38 : _), (o39 : _), (o40 : _), (o41 : _), (o42 : _), (o43 : _), (o44 : _), (fun _ => rfl : _), (o46 : _), (o47 : _)⟩)
            simp only [Act.put, List.setIfInBounds_toArray, List.set_cons_zero, List.set_cons_succ])
        | 46, _ =>
          cases ho
          simp [MetB, Region.binds] at hm
          obtain rfl := o43 (by simp [hm])
          obtain rfl := o45 (by simp [hm])
          obtain rfl := o36 (by simp [hm])
          cases Q1 <;> cases Q2 <;> cases Q3 <;> (first | (exact absurd hQ (by decide)) | (
            (try dsimp only)
            (first | rw [if_pos (by rfl)] | rw [if_neg (fun hq => Bool.noConfusion ((show Region.wanted _ _ = false from rfl).symm.trans hq))])
            (try go_simp)
            refine hK (fun k => if k = 46 then true else up k) _ _ rfl (fun k hk => if_neg hk) (⟨s41, s42, s43, s44, s45, s46, s47, s48, s49, s50, s51, s52, s53, s54, s55, s56, s57, s58, s59, s60, s61, s62, s63, s64, s65, s66, s67, s68, s69, s70, s71, s72, s73, s74, s75, s76, _, s78, s79, s80, s81, s82, s83, _, s85, _, _, s88, ?_, KW, (o0 : _), (o1 : _), (o2 : _), (o3 : _), (o4 : _), (o5 : _), (o6 : _), (o7 : _), (o8 : _), (o9 : _), (o10 : _), (o11 : _), (o12 : _), (o13 : _), (o14 : _), (o15 : _), (o16 : _), (o17 : _), (o18 : _), (o19 : _), (o20 : _), (o21 : _), (o22 : _), (o23 : _), (o24 : _), (o25 : _), (o26 : _), (o27 : _), (o28 : _), (o29 : _), (o30 : _), (o31 : _), (o32 : _), (o33 : _), (o34 : _), (o35 : _), (o36 : _), (o37 : _), (o38 : _), (o39 : _), (o40 : _), (o41 : _), (o42 : _), (o43 : _), (o44 : _), (o45 : _), (fun _ => rfl : _), (o47 : _)⟩)
            simp only [Act.put, List.setIfInBounds_toArray, List.set_cons_zero, List.set_cons_succ]))
        | 47, _ =>
          cases ho
          simp [MetB, Region.binds] at hm
          obtain rfl := o36 (by simp [hm])
          obtain rfl := o46 (by simp [hm])
          rw [if_pos (by rfl)]
          go_simp
          refine hK (fun k => if k = 47 then true else up k) _ _ rfl (fun k hk => if_neg hk) (⟨s41, s42, s43, s44, s45, s46, s47, s48, s49, s50, s51, s52, s53, s54, s55, s56, s57, s58, s59, s60, s61, s62, s63, s64, s65, s66, s67, s68, s69, s70, s71, s72, s73, s74, s75, s76, _, s78, s79, s80, s81, s82, s83, s84, s85, s86, _, _, ?_, KW, (o0 : _), (o1 : _), (o2 : _), (o3 : _), (o4 : _), (o5 : _), (o6 : _), (o7 : _), (o8 : _), (o9 : _), (o10 : _), (o11 : _), (o12 : _), (o13 : _), (o14 : _), (o15 : _), (o16 : _), (o17 : _), (o18 : _), (o19 : _), (o20 : _), (o21 : _), (o22 : _), (o23 : _), (o24 : _), (o25 : _), (o26 : _), (o27 : _), (o28 : _), (o29 : _), (o30 : _), (o31 : _), (o32 : _), (o33 : _), (o34 : _), (o35 : _), (o36 : _), (o37 : _), (o38 : _), (o39 : _), (o40 : _), (o41 : _), (o42 : _), (o43 : _), (o44 : _), (o45 : _), (o46 : _), (fun _ => rfl : _)⟩)
          simp only [Act.put, List.setIfInBounds_toArray, List.set_cons_zero, List.set_cons_succ]
      · intro up a wx hJ hall
        obtain ⟨s41, hJ⟩ := hJ
        obtain ⟨s42, hJ⟩ := hJ
        obtain ⟨s43, hJ⟩ := hJ
        obtain ⟨s44, hJ⟩ := hJ
        obtain ⟨s45, hJ⟩ := hJ
        obtain ⟨s46, hJ⟩ := hJ
        obtain ⟨s47, hJ⟩ := hJ
        obtain ⟨s48, hJ⟩ := hJ
        obtain ⟨s49, hJ⟩ := hJ
        obtain ⟨s50, hJ⟩ := hJ
        obtain ⟨s51, hJ⟩ := hJ
        obtain ⟨s52, hJ⟩ := hJ
        obtain ⟨s53, hJ⟩ := hJ
        obtain ⟨s54, hJ⟩ := hJ
        obtain ⟨s55, hJ⟩ := hJ
        obtain ⟨s56, hJ⟩ := hJ
        obtain ⟨s57, hJ⟩ := hJ
        obtain ⟨s58, hJ⟩ := hJ
        obtain ⟨s59, hJ⟩ := hJ
        obtain ⟨s60, hJ⟩ := hJ
        obtain ⟨s61, hJ⟩ := hJ
        obtain ⟨s62, hJ⟩ := hJ
        obtain ⟨s63, hJ⟩ := hJ
        obtain ⟨s64, hJ⟩ := hJ
        obtain ⟨s65, hJ⟩ := hJ
        obtain ⟨s66, hJ⟩ := hJ
        obtain ⟨s67, hJ⟩ := hJ
        obtain ⟨s68, hJ⟩ := hJ
        obtain ⟨s69, hJ⟩ := hJ
        obtain ⟨s70, hJ⟩ := hJ
        obtain ⟨s71, hJ⟩ := hJ
        obtain ⟨s72, hJ⟩ := hJ
        obtain ⟨s73, hJ⟩ := hJ
        obtain ⟨s74, hJ⟩ := hJ
        obtain ⟨s75, hJ⟩ := hJ
        obtain ⟨s76, hJ⟩ := hJ
        obtain ⟨s77, hJ⟩ := hJ
        obtain ⟨s78, hJ⟩ := hJ
        obtain ⟨s79, hJ⟩ := hJ
        obtain ⟨s80, hJ⟩ := hJ
        obtain ⟨s81, hJ⟩ := hJ
        obtain ⟨s82, hJ⟩ := hJ
        obtain ⟨s83, hJ⟩ := hJ
        obtain ⟨s84, hJ⟩ := hJ
        obtain ⟨s85, hJ⟩ := hJ
        obtain ⟨s86, hJ⟩ := hJ
        obtain ⟨s87, hJ⟩ := hJ
        obtain ⟨s88, hJ⟩ := hJ
        obtain ⟨rfl, hJ⟩ := hJ
        obtain ⟨KW, hJ⟩ := hJ
        obtain ⟨o0, hJ⟩ := hJ
        obtain ⟨o1, hJ⟩ := hJ
        obtain ⟨o2, hJ⟩ := hJ
        obtain ⟨o3, hJ⟩ := hJ
        obtain ⟨o4, hJ⟩ := hJ
        obtain ⟨o5, hJ⟩ := hJ
        obtain ⟨o6, hJ⟩ := hJ
        obtain ⟨o7, hJ⟩ := hJ
        obtain ⟨o8, hJ⟩ := hJ
        obtain ⟨o9, hJ⟩ := hJ
        obtain ⟨o10, hJ⟩ := hJ
        obtain ⟨o11, hJ⟩ := hJ
        obtain ⟨o12, hJ⟩ := hJ
        obtain ⟨o13, hJ⟩ := hJ
        obtain ⟨o14, hJ⟩ := hJ
        obtain ⟨o15, hJ⟩ := hJ
        obtain ⟨o16, hJ⟩ := hJ
        obtain ⟨o17, hJ⟩ := hJ
        obtain ⟨o18, hJ⟩ := hJ
        obtain ⟨o19, hJ⟩ := hJ
        obtain ⟨o20, hJ⟩ := hJ
        obtain ⟨o21, hJ⟩ := hJ
        obtain ⟨o22, hJ⟩ := hJ
        obtain ⟨o23, hJ⟩ := hJ
        obtain ⟨o24, hJ⟩ := hJ
        obtain ⟨o25, hJ⟩ := hJ
        obtain ⟨o26, hJ⟩ := hJ
        obtain ⟨o27, hJ⟩ := hJ
        obtain ⟨o28, hJ⟩ := hJ
        obtain ⟨o29, hJ⟩ := hJ
        obtain ⟨o30, hJ⟩ := hJ
        obtain ⟨o31, hJ⟩ := hJ
        obtain ⟨o32, hJ⟩ := hJ
        obtain ⟨o33, hJ⟩ := hJ
        obtain ⟨o34, hJ⟩ := hJ
        obtain ⟨o35, hJ⟩ := hJ
        obtain ⟨o36, hJ⟩ := hJ
        obtain ⟨o37, hJ⟩ := hJ
        obtain ⟨o38, hJ⟩ := hJ
        obtain ⟨o39, hJ⟩ := hJ
        obtain ⟨o40, hJ⟩ := hJ
        obtain ⟨o41, hJ⟩ := hJ
        obtain ⟨o42, hJ⟩ := hJ
        obtain ⟨o43, hJ⟩ := hJ
        obtain ⟨o44, hJ⟩ := hJ
        obtain ⟨o45, hJ⟩ := hJ
        obtain ⟨o46, hJ⟩ := hJ
        have o47 := hJ
        clear hJ
        simp only [Act.put, List.setIfInBounds_toArray, List.set_cons_zero, List.set_cons_succ]
        obtain rfl := o47 (hall 47 (by decide))
        go_wp2_with fail
        go_meet
        case rel => exact ⟨rfl, KW⟩
  case rest =>
  obtain ⟨rfl, K⟩ := hcut
  rename World => w5
  replace KB := below_trans KB K
  replace h_x := h_x.below K
  replace HC_x := hide (HC_x.out.below K)
  replace h_y := h_y.below K
  replace HC_y := hide (HC_y.out.below K)
  replace h_z := h_z.below K
  replace HC_z := hide (HC_z.out.below K)
  clear K
  clear hP hQ hPQ
  go_upto_region 7 with fail
  go_cut [11] from 89 (fun s11 w' => s11 = .int .i64 csg ∧ Below w5.heap.size w5 w')
  case first =>
    as_aux_lemma =>
      have CC : ∀ u : World, Below w5.heap.size w5 u → u.cell? ⟨b_z, 0, none⟩ = some (.bool ng_z) ∧ u.cell? ⟨b_z, 1, none⟩ = some (.slice ao_z zs_z.length c_z) := fun u hu => ⟨(HC_z.out.below hu).c0, (HC_z.out.below hu).c1⟩
      have K : Below w5.heap.size w5 w5.drew := (Below.refl _ _).drew
      have HC0 := CC _ K
      refine wpHl.region0 (C := fun u => u.cell? ⟨b_z, 0, none⟩ = some (.bool ng_z) ∧ u.cell? ⟨b_z, 1, none⟩ = some (.slice ao_z zs_z.length c_z)) (by kernel_rfl) (by kernel_rfl) (fun HS => ?_)
      refine wpHl.tk0 (i := 0) (d := some 89) (v := .agg #[.bool ng_z, .slice ao_z zs_z.length c_z]) rfl HS (by as_aux_lemma => kernel_rfl) rfl (fun _ _ _ h => h) (Or.inl ⟨by rfl, ?_⟩) HC0 ?_
      · intro u hC
        obtain ⟨z0, z1⟩ := hC
        go_simp
      simp only [Act.put, List.setIfInBounds_toArray, List.set_cons_zero, List.set_cons_succ]
      refine wpHl.one (i := 1) (by as_aux_lemma => kernel_rfl) rfl (fun K1 hK1 => ?_)
      rw [if_pos (by rfl)]
      refine wp_call_of (f := 14) (args := #[.int .i64 0]) (by kernel_rfl) ?_
      with_reducible refine (wfrom_any (n := 0) (by omega) (by omega)).mono ?_
      rintro e wn ⟨v_o, rfl, h_o, hb⟩
      replace K := below_trans K hb
      try replace h_o := h_o.below hb
      obtain ⟨ng_o, ro_o, rl_o, rfl⟩ := h_o.told
      clear HC0
      have HC0 := CC _ K
      refine hK1 (Act.put _ (some 90) _) _ ⟨fun _ => HC0, ?_⟩
      clear hK1 K1 hb
      try simp only [Act.put, List.setIfInBounds_toArray, List.set_cons_zero, List.set_cons_succ]
      refine wpHl.one (i := 2) (by as_aux_lemma => kernel_rfl) rfl (fun K1 hK1 => ?_)
      rw [if_pos (by rfl)]
      refine wp_call_of (f := 16) (args := #[.agg #[.bool ng_z, .slice ao_z zs_z.length c_z], .agg #[.bool ng_o, .slice ro_o rl_o rl_o]]) (by kernel_rfl) ?_
      with_reducible refine (wcmp_told HH.out.2.2.2.2.1 (h_z.below K) h_o.arg (by omega) (by omega)).mono ?_
      rintro e wn ⟨rfl, hb⟩
      replace K := below_trans K hb
      try replace h_o := h_o.below hb
      clear HC0
      have HC0 := CC _ K
      refine hK1 (Act.put _ (some 91) _) _ ⟨fun _ => HC0, ?_⟩
      clear hK1 K1 hb
      try simp only [Act.put, List.setIfInBounds_toArray, List.set_cons_zero, List.set_cons_succ]
      refine wpHl.tk0 (i := 3) (d := some 11) (v := .int .i64 csg) rfl HS (by as_aux_lemma => kernel_rfl) rfl (fun _ _ _ h => h) (Or.inl ⟨by rfl, ?_⟩) HC0 ?_
      · intro u hC
        go_simp
      simp only [Act.put, List.setIfInBounds_toArray, List.set_cons_zero, List.set_cons_succ]
      refine wpHl.done (by as_aux_lemma => kernel_rfl) ?_ _
      clear CC HC0 HS
      have K9 := hide K
      clear K h_o
      go_wp2_with fail
      go_meet
      case rel => exact ⟨rfl, K9.out⟩
  case rest =>
  obtain ⟨rfl, K⟩ := hcut
  rename World => w6
  replace KB := below_trans KB K
  replace h_x := h_x.below K
  replace HC_x := hide (HC_x.out.below K)
  replace h_y := h_y.below K
  replace HC_y := hide (HC_y.out.below K)
  replace h_z := h_z.below K
  replace HC_z := hide (HC_z.out.below K)
  clear K
  go_upto_region 8 with fail
  go_cut [122] from 92 (fun s122 w' => s122 = .bool false ∧ Below w6.heap.size w6 w')
  case first =>
    as_aux_lemma =>
      have g6 := HG.out.2.2.2.2.2.1
      have g7 := HG.out.2.2.2.2.2.2.1
      have g8 := HG.out.2.2.2.2.2.2.2.1
      have CC : ∀ u : World, Below w6.heap.size w6 u → u.cell? ⟨b_x, 0, none⟩ = some (.bool ng_x) ∧ u.cell? ⟨b_x, 1, none⟩ = some (.slice ao_x zs_x.length c_x) ∧ u.cell? ⟨b_y, 0, none⟩ = some (.bool ng_y) ∧ u.cell? ⟨b_y, 1, none⟩ = some (.slice ao_y zs_y.length c_y) ∧ u.cell? ⟨b_z, 0, none⟩ = some (.bool ng_z) ∧ u.cell? ⟨b_z, 1, none⟩ = some (.slice ao_z zs_z.length c_z) := fun u hu => ⟨(HC_x.out.below hu).c0, (HC_x.out.below hu).c1, (HC_y.out.below hu).c0, (HC_y.out.below hu).c1, (HC_z.out.below hu).c0, (HC_z.out.below hu).c1⟩
      have K : Below w6.heap.size w6 w6.drew := (Below.refl _ _).drew
      have HC0 := CC _ K
      refine wpHl.region0 (C := fun u => u.cell? ⟨b_x, 0, none⟩ = some (.bool ng_x) ∧ u.cell? ⟨b_x, 1, none⟩ = some (.slice ao_x zs_x.length c_x) ∧ u.cell? ⟨b_y, 0, none⟩ = some (.bool ng_y) ∧ u.cell? ⟨b_y, 1, none⟩ = some (.slice ao_y zs_y.length c_y) ∧ u.cell? ⟨b_z, 0, none⟩ = some (.bool ng_z) ∧ u.cell? ⟨b_z, 1, none⟩ = some (.slice ao_z zs_z.length c_z)) (by kernel_rfl) (by kernel_rfl) (fun HS => ?_)
      refine wpHl.tk0 (i := 0) (d := some 92) (v := .agg #[.bool ng_x, .slice ao_x zs_x.length c_x]) rfl HS (by as_aux_lemma => kernel_rfl) rfl (fun _ _ _ h => h) (Or.inl ⟨by rfl, ?_⟩) HC0 ?_
      · intro u hC
        obtain ⟨z0, z1, z2, z3, z4, z5⟩ := hC
        go_simp
      simp only [Act.put, List.setIfInBounds_toArray, List.set_cons_zero, List.set_cons_succ]
      refine wpHl.tk0 (i := 1) (d := some 93) (v := .agg #[.bool ng_z, .slice ao_z zs_z.length c_z]) rfl HS (by as_aux_lemma => kernel_rfl) rfl (fun _ _ _ h => h) (Or.inl ⟨by rfl, ?_⟩) HC0 ?_
      · intro u hC
        obtain ⟨z0, z1, z2, z3, z4, z5⟩ := hC
        go_simp
      simp only [Act.put, List.setIfInBounds_toArray, List.set_cons_zero, List.set_cons_succ]
      refine wpHl.tk0 (i := 3) (d := some 95) (v := .agg #[.bool ng_y, .slice ao_y zs_y.length c_y]) rfl HS (by as_aux_lemma => kernel_rfl) rfl (fun _ _ _ h => h) (Or.inl ⟨by rfl, ?_⟩) HC0 ?_
      · intro u hC
        obtain ⟨z0, z1, z2, z3, z4, z5⟩ := hC
        go_simp
      simp only [Act.put, List.setIfInBounds_toArray, List.set_cons_zero, List.set_cons_succ]
      refine wpHl.tk0 (i := 4) (d := some 96) (v := .agg #[.bool ng_z, .slice ao_z zs_z.length c_z]) rfl HS (by as_aux_lemma => kernel_rfl) rfl (fun _ _ _ h => h) (Or.inl ⟨by rfl, ?_⟩) HC0 ?_
      · intro u hC
        obtain ⟨z0, z1, z2, z3, z4, z5⟩ := hC
        go_simp
      simp only [Act.put, List.setIfInBounds_toArray, List.set_cons_zero, List.set_cons_succ]
      refine wpHl.tk0 (i := 7) (d := some 99) (v := .int .i64 cxy) rfl HS (by as_aux_lemma => kernel_rfl) rfl (fun _ _ _ h => h) (Or.inl ⟨by rfl, ?_⟩) HC0 ?_
      · intro u hC
        go_simp
      simp only [Act.put, List.setIfInBounds_toArray, List.set_cons_zero, List.set_cons_succ]
      refine wpHl.one (i := 2) (by as_aux_lemma => kernel_rfl) rfl (fun K1 hK1 => ?_)
      rw [if_pos (by rfl)]
      refine wp_call_of (f := 8) (args := #[.agg #[.bool ng_x, .slice ao_x zs_x.length c_x], .agg #[.bool ng_z, .slice ao_z zs_z.length c_z]]) (by kernel_rfl) ?_
      with_reducible refine (wadd_any (h_x.below K) (by omega) (h_z.below K) (by omega)).mono ?_
      rintro e wn ⟨v_t1, rfl, t1, hb⟩
      replace K := below_trans K hb
      try replace t1 := t1.below hb
      try replace t2 := t2.below hb
      try replace t3 := t3.below hb
      try replace t4 := t4.below hb
      try replace t5 := t5.below hb
      try replace t6 := t6.below hb
      obtain ⟨ng_t1, ro_t1, rl_t1, rfl⟩ := t1.told
      clear HC0
      have HC0 := CC _ K
      refine hK1 (Act.put _ (some 94) _) _ ⟨fun _ => HC0, ?_⟩
      clear hK1 K1 hb
      try simp only [Act.put, List.setIfInBounds_toArray, List.set_cons_zero, List.set_cons_succ]
      refine wpHl.one (i := 5) (by as_aux_lemma => kernel_rfl) rfl (fun K1 hK1 => ?_)
      rw [if_pos (by rfl)]
      refine wp_call_of (f := 8) (args := #[.agg #[.bool ng_y, .slice ao_y zs_y.length c_y], .agg #[.bool ng_z, .slice ao_z zs_z.length c_z]]) (by kernel_rfl) ?_
      with_reducible refine (wadd_any (h_y.below K) (by omega) (h_z.below K) (by omega)).mono ?_
      rintro e wn ⟨v_t2, rfl, t2, hb⟩
      replace K := below_trans K hb
      try replace t1 := t1.below hb
      try replace t2 := t2.below hb
      try replace t3 := t3.below hb
      try replace t4 := t4.below hb
      try replace t5 := t5.below hb
      try replace t6 := t6.below hb
      obtain ⟨ng_t2, ro_t2, rl_t2, rfl⟩ := t2.told
      clear HC0
      have HC0 := CC _ K
      refine hK1 (Act.put _ (some 97) _) _ ⟨fun _ => HC0, ?_⟩
      clear hK1 K1 hb
      try simp only [Act.put, List.setIfInBounds_toArray, List.set_cons_zero, List.set_cons_succ]
      refine wpHl.one (i := 6) (by as_aux_lemma => kernel_rfl) rfl (fun K1 hK1 => ?_)
      rw [if_pos (by rfl)]
      refine wp_call_of (f := 16) (args := #[.agg #[.bool ng_t1, .slice ro_t1 rl_t1 rl_t1], .agg #[.bool ng_t2, .slice ro_t2 rl_t2 rl_t2]]) (by kernel_rfl) ?_
      with_reducible refine (wcmp_told HA.out.1 t1.arg t2.arg (by omega) (by omega)).mono ?_
      rintro e wn ⟨rfl, hb⟩
      replace K := below_trans K hb
      try replace t1 := t1.below hb
      try replace t2 := t2.below hb
      try replace t3 := t3.below hb
      try replace t4 := t4.below hb
      try replace t5 := t5.below hb
      try replace t6 := t6.below hb
      clear HC0
      have HC0 := CC _ K
      refine hK1 (Act.put _ (some 98) _) _ ⟨fun _ => HC0, ?_⟩
      clear hK1 K1 hb
      try simp only [Act.put, List.setIfInBounds_toArray, List.set_cons_zero, List.set_cons_succ]
      refine wpHl.tk0 (i := 8) (d := some 100) (v := .bool false) rfl HS (by as_aux_lemma => kernel_rfl) rfl (fun _ _ _ h => h) (Or.inl ⟨by rfl, ?_⟩) HC0 ?_
      · intro u hC
        go_simp
      simp only [Act.put, List.setIfInBounds_toArray, List.set_cons_zero, List.set_cons_succ]
      refine wpHl.tk0 (i := 9) (d := some 101) (v := .bool false) rfl HS (by as_aux_lemma => kernel_rfl) rfl (fun _ _ _ h => h) (Or.inl ⟨by rfl, ?_⟩) HC0 ?_
      · intro u hC
        go_simp
      simp only [Act.put, List.setIfInBounds_toArray, List.set_cons_zero, List.set_cons_succ]
      refine wpHl.tk0 (i := 10) (d := some 102) (v := .agg #[.bool ng_x, .slice ao_x zs_x.length c_x]) rfl HS (by as_aux_lemma => kernel_rfl) rfl (fun _ _ _ h => h) (Or.inl ⟨by rfl, ?_⟩) HC0 ?_
      · intro u hC
        obtain ⟨z0, z1, z2, z3, z4, z5⟩ := hC
        go_simp
      simp only [Act.put, List.setIfInBounds_toArray, List.set_cons_zero, List.set_cons_succ]
      refine wpHl.tk0 (i := 11) (d := some 103) (v := .agg #[.bool ng_z, .slice ao_z zs_z.length c_z]) rfl HS (by as_aux_lemma => kernel_rfl) rfl (fun _ _ _ h => h) (Or.inl ⟨by rfl, ?_⟩) HC0 ?_
      · intro u hC
        obtain ⟨z0, z1, z2, z3, z4, z5⟩ := hC
        go_simp
      simp only [Act.put, List.setIfInBounds_toArray, List.set_cons_zero, List.set_cons_succ]
      refine wpHl.tk0 (i := 13) (d := some 105) (v := .agg #[.bool ng_y, .slice ao_y zs_y.length c_y]) rfl HS (by as_aux_lemma => kernel_rfl) rfl (fun _ _ _ h => h) (Or.inl ⟨by rfl, ?_⟩) HC0 ?_
      · intro u hC
        obtain ⟨z0, z1, z2, z3, z4, z5⟩ := hC
        go_simp
      simp only [Act.put, List.setIfInBounds_toArray, List.set_cons_zero, List.set_cons_succ]
      refine wpHl.tk0 (i := 14) (d := some 106) (v := .agg #[.bool ng_z, .slice ao_z zs_z.length c_z]) rfl HS (by as_aux_lemma => kernel_rfl) rfl (fun _ _ _ h => h) (Or.inl ⟨by rfl, ?_⟩) HC0 ?_
      · intro u hC
        obtain ⟨z0, z1, z2, z3, z4, z5⟩ := hC
        go_simp
      simp only [Act.put, List.setIfInBounds_toArray, List.set_cons_zero, List.set_cons_succ]
      refine wpHl.tk0 (i := 17) (d := some 109) (v := .int .i64 cxy) rfl HS (by as_aux_lemma => kernel_rfl) rfl (fun _ _ _ h => h) (Or.inl ⟨by rfl, ?_⟩) HC0 ?_
      · intro u hC
        go_simp
      simp only [Act.put, List.setIfInBounds_toArray, List.set_cons_zero, List.set_cons_succ]
      refine wpHl.tk0 (i := 18) (d := some 110) (v := .int .i64 csg) rfl HS (by as_aux_lemma => kernel_rfl) rfl (fun _ _ _ h => h) (Or.inl ⟨by rfl, ?_⟩) HC0 ?_
      · intro u hC
        go_simp
      simp only [Act.put, List.setIfInBounds_toArray, List.set_cons_zero, List.set_cons_succ]
      refine wpHl.tk0 (i := 19) (d := some 111) (v := .int .i64 cml) rfl HS (by as_aux_lemma => kernel_rfl) rfl (fun _ _ _ h => h) (Or.inl ⟨by rfl, ?_⟩) HC0 ?_
      · intro u hC
        go_simp
      simp only [Act.put, List.setIfInBounds_toArray, List.set_cons_zero, List.set_cons_succ]
      refine wpHl.one (i := 12) (by as_aux_lemma => kernel_rfl) rfl (fun K1 hK1 => ?_)
      rw [if_pos (by rfl)]
      refine wp_call_of (f := 9) (args := #[.agg #[.bool ng_x, .slice ao_x zs_x.length c_x], .agg #[.bool ng_z, .slice ao_z zs_z.length c_z]]) (by kernel_rfl) ?_
      with_reducible refine (wmul_any (h_x.below K) (by omega) (h_z.below K) (by omega)).mono ?_
      rintro e wn ⟨v_t3, rfl, t3, hb⟩
      replace K := below_trans K hb
      try replace t1 := t1.below hb
      try replace t2 := t2.below hb
      try replace t3 := t3.below hb
      try replace t4 := t4.below hb
      try replace t5 := t5.below hb
      try replace t6 := t6.below hb
      obtain ⟨ng_t3, ro_t3, rl_t3, rfl⟩ := t3.told
      clear HC0
      have HC0 := CC _ K
      refine hK1 (Act.put _ (some 104) _) _ ⟨fun _ => HC0, ?_⟩
      clear hK1 K1 hb
      try simp only [Act.put, List.setIfInBounds_toArray, List.set_cons_zero, List.set_cons_succ]
      refine wpHl.one (i := 15) (by as_aux_lemma => kernel_rfl) rfl (fun K1 hK1 => ?_)
      rw [if_pos (by rfl)]
      refine wp_call_of (f := 9) (args := #[.agg #[.bool ng_y, .slice ao_y zs_y.length c_y], .agg #[.bool ng_z, .slice ao_z zs_z.length c_z]]) (by kernel_rfl) ?_
      with_reducible refine (wmul_any (h_y.below K) (by omega) (h_z.below K) (by omega)).mono ?_
      rintro e wn ⟨v_t4, rfl, t4, hb⟩
      replace K := below_trans K hb
      try replace t1 := t1.below hb
      try replace t2 := t2.below hb
      try replace t3 := t3.below hb
      try replace t4 := t4.below hb
      try replace t5 := t5.below hb
      try replace t6 := t6.below hb
      obtain ⟨ng_t4, ro_t4, rl_t4, rfl⟩ := t4.told
      clear HC0
      have HC0 := CC _ K
      refine hK1 (Act.put _ (some 107) _) _ ⟨fun _ => HC0, ?_⟩
      clear hK1 K1 hb
      try simp only [Act.put, List.setIfInBounds_toArray, List.set_cons_zero, List.set_cons_succ]
      refine wpHl.one (i := 16) (by as_aux_lemma => kernel_rfl) rfl (fun K1 hK1 => ?_)
      rw [if_pos (by rfl)]
      refine wp_call_of (f := 16) (args := #[.agg #[.bool ng_t3, .slice ro_t3 rl_t3 rl_t3], .agg #[.bool ng_t4, .slice ro_t4 rl_t4 rl_t4]]) (by kernel_rfl) ?_
      with_reducible refine (wcmp_told HA.out.2.1 t3.arg t4.arg (by omega) (by omega)).mono ?_
      rintro e wn ⟨rfl, hb⟩
      replace K := below_trans K hb
      try replace t1 := t1.below hb
      try replace t2 := t2.below hb
      try replace t3 := t3.below hb
      try replace t4 := t4.below hb
      try replace t5 := t5.below hb
      try replace t6 := t6.below hb
      clear HC0
      have HC0 := CC _ K
      refine hK1 (Act.put _ (some 108) _) _ ⟨fun _ => HC0, ?_⟩
      clear hK1 K1 hb
      try simp only [Act.put, List.setIfInBounds_toArray, List.set_cons_zero, List.set_cons_succ]
      refine wpHl.tk0 (i := 20) (d := some 112) (v := .bool false) rfl HS (by as_aux_lemma => kernel_rfl) rfl (fun _ _ _ h => h) (Or.inl ⟨by rfl, ?_⟩) HC0 ?_
      · intro u hC
        go_simp
      simp only [Act.put, List.setIfInBounds_toArray, List.set_cons_zero, List.set_cons_succ]
      refine wpHl.tk0 (i := 21) (d := some 113) (v := .bool false) rfl HS (by as_aux_lemma => kernel_rfl) rfl (fun _ _ _ h => h) (Or.inl ⟨by rfl, ?_⟩) HC0 ?_
      · intro u hC
        go_simp
      simp only [Act.put, List.setIfInBounds_toArray, List.set_cons_zero, List.set_cons_succ]
      refine wpHl.tk0 (i := 22) (d := some 114) (v := .bool false) rfl HS (by as_aux_lemma => kernel_rfl) rfl (fun _ _ _ h => h) (Or.inl ⟨by rfl, ?_⟩) HC0 ?_
      · intro u hC
        go_simp
      simp only [Act.put, List.setIfInBounds_toArray, List.set_cons_zero, List.set_cons_succ]
      refine wpHl.tk0 (i := 23) (d := some 115) (v := .agg #[.bool ng_x, .slice ao_x zs_x.length c_x]) rfl HS (by as_aux_lemma => kernel_rfl) rfl (fun _ _ _ h => h) (Or.inl ⟨by rfl, ?_⟩) HC0 ?_
      · intro u hC
        obtain ⟨z0, z1, z2, z3, z4, z5⟩ := hC
        go_simp
      simp only [Act.put, List.setIfInBounds_toArray, List.set_cons_zero, List.set_cons_succ]
      refine wpHl.tk0 (i := 24) (d := some 116) (v := .agg #[.bool ng_y, .slice ao_y zs_y.length c_y]) rfl HS (by as_aux_lemma => kernel_rfl) rfl (fun _ _ _ h => h) (Or.inl ⟨by rfl, ?_⟩) HC0 ?_
      · intro u hC
        obtain ⟨z0, z1, z2, z3, z4, z5⟩ := hC
        go_simp
      simp only [Act.put, List.setIfInBounds_toArray, List.set_cons_zero, List.set_cons_succ]
      refine wpHl.tk0 (i := 28) (d := some 120) (v := .int .i64 cxy) rfl HS (by as_aux_lemma => kernel_rfl) rfl (fun _ _ _ h => h) (Or.inl ⟨by rfl, ?_⟩) HC0 ?_
      · intro u hC
        go_simp
      simp only [Act.put, List.setIfInBounds_toArray, List.set_cons_zero, List.set_cons_succ]
      refine wpHl.one (i := 25) (by as_aux_lemma => kernel_rfl) rfl (fun K1 hK1 => ?_)
      rw [if_pos (by rfl)]
      refine wp_call_of (f := 12) (args := #[.agg #[.bool ng_x, .slice ao_x zs_x.length c_x], .agg #[.bool ng_y, .slice ao_y zs_y.length c_y]]) (by kernel_rfl) ?_
      with_reducible refine (wsub_any (h_x.below K) (by omega) (h_y.below K) (by omega)).mono ?_
      rintro e wn ⟨v_t5, rfl, t5, hb⟩
      replace K := below_trans K hb
      try replace t1 := t1.below hb
      try replace t2 := t2.below hb
      try replace t3 := t3.below hb
      try replace t4 := t4.below hb
      try replace t5 := t5.below hb
      try replace t6 := t6.below hb
      obtain ⟨ng_t5, ro_t5, rl_t5, rfl⟩ := t5.told
      clear HC0
      have HC0 := CC _ K
      refine hK1 (Act.put _ (some 117) _) _ ⟨fun _ => HC0, ?_⟩
      clear hK1 K1 hb
      try simp only [Act.put, List.setIfInBounds_toArray, List.set_cons_zero, List.set_cons_succ]
      refine wpHl.one (i := 26) (by as_aux_lemma => kernel_rfl) rfl (fun K1 hK1 => ?_)
      rw [if_pos (by rfl)]
      refine wp_call_of (f := 14) (args := #[.int .i64 0]) (by kernel_rfl) ?_
      with_reducible refine (wfrom_any (n := 0) (by omega) (by omega)).mono ?_
      rintro e wn ⟨v_t6, rfl, t6, hb⟩
      replace K := below_trans K hb
      try replace t1 := t1.below hb
      try replace t2 := t2.below hb
      try replace t3 := t3.below hb
      try replace t4 := t4.below hb
      try replace t5 := t5.below hb
      try replace t6 := t6.below hb
      obtain ⟨ng_t6, ro_t6, rl_t6, rfl⟩ := t6.told
      clear HC0
      have HC0 := CC _ K
      refine hK1 (Act.put _ (some 118) _) _ ⟨fun _ => HC0, ?_⟩
      clear hK1 K1 hb
      try simp only [Act.put, List.setIfInBounds_toArray, List.set_cons_zero, List.set_cons_succ]
      refine wpHl.one (i := 27) (by as_aux_lemma => kernel_rfl) rfl (fun K1 hK1 => ?_)
      rw [if_pos (by rfl)]
      refine wp_call_of (f := 16) (args := #[.agg #[.bool ng_t5, .slice ro_t5 rl_t5 rl_t5], .agg #[.bool ng_t6, .slice ro_t6 rl_t6 rl_t6]]) (by kernel_rfl) ?_
      with_reducible refine (wcmp_told HA.out.2.2 t5.arg t6.arg (by omega) (by omega)).mono ?_
      rintro e wn ⟨rfl, hb⟩
      replace K := below_trans K hb
      try replace t1 := t1.below hb
      try replace t2 := t2.below hb
      try replace t3 := t3.below hb
      try replace t4 := t4.below hb
      try replace t5 := t5.below hb
      try replace t6 := t6.below hb
      clear HC0
      have HC0 := CC _ K
      refine hK1 (Act.put _ (some 119) _) _ ⟨fun _ => HC0, ?_⟩
      clear hK1 K1 hb
      try simp only [Act.put, List.setIfInBounds_toArray, List.set_cons_zero, List.set_cons_succ]
      refine wpHl.tk0 (i := 29) (d := some 121) (v := .bool false) rfl HS (by as_aux_lemma => kernel_rfl) rfl (fun _ _ _ h => h) (Or.inl ⟨by rfl, ?_⟩) HC0 ?_
      · intro u hC
        go_simp
      simp only [Act.put, List.setIfInBounds_toArray, List.set_cons_zero, List.set_cons_succ]
      refine wpHl.tk0 (i := 30) (d := some 122) (v := .bool false) rfl HS (by as_aux_lemma => kernel_rfl) rfl (fun _ _ _ h => h) (Or.inl ⟨by rfl, ?_⟩) HC0 ?_
      · intro u hC
        go_simp
      simp only [Act.put, List.setIfInBounds_toArray, List.set_cons_zero, List.set_cons_succ]
      refine wpHl.done (by as_aux_lemma => kernel_rfl) ?_ _
      clear CC HC0 HS
      have K9 := hide K
      clear K t1 t2 t3 t4 t5 t6
      go_wp2_with fail
      go_meet
      case rel => exact ⟨rfl, K9.out⟩
  case rest =>
  obtain ⟨rfl, K⟩ := hcut
  rename World => w7
  replace KB := below_trans KB K
  replace h_x := h_x.below K
  replace HC_x := hide (HC_x.out.below K)
  replace h_y := h_y.below K
  replace HC_y := hide (HC_y.out.below K)
  replace h_z := h_z.below K
  replace HC_z := hide (HC_z.out.below K)
  clear K
  clear h_x h_y h_z HC_x HC_y HC_z HH HA HG
  obtain ⟨cmn, hmn⟩ : ∃ c, sgn m n = c := ⟨_, rfl⟩
  have Hmn := hide hmn
  clear hmn
  obtain ⟨c1, hc1⟩ : ∃ c : Int, (if m < n then -1 else 0) = c := ⟨_, rfl⟩
  have H1 := hide hc1
  clear hc1
  go_upto_if 125 with fail
  go_cut [12] from 123 (fun s12 w' => s12 = .int .i64 c1 ∧ w7 = w')
  case first =>
    as_aux_lemma =>
      by_cases hc : m < n
      · go_wp2
        go_meet
        case rel => exact ⟨by rw [← H1.out, if_pos (by omega)], rfl⟩
      · go_wp2
        go_meet
        case rel => exact ⟨by rw [← H1.out, if_neg (by omega)], rfl⟩
  case rest =>
  obtain ⟨rfl, rfl⟩ := hcut
  go_upto_if 128 with fail
  go_cut [12] from 126 (fun s12 w' => s12 = .int .i64 cmn ∧ w7 = w')
  case first =>
    as_aux_lemma =>
      by_cases hc : n < m
      · go_wp2
        go_meet
        case rel => exact ⟨by rw [← Hmn.out, sgn_gt (by omega)], rfl⟩
      · go_wp2
        go_meet
        case rel => exact ⟨by rw [← Hmn.out, ← H1.out]; unfold sgn; rw [if_neg (show ¬ n < m by omega)], rfl⟩
  case rest =>
  obtain ⟨rfl, rfl⟩ := hcut
  clear H1
  go_wp2_with fail
  with_reducible refine (wfrom_any m0 m1).mono ?_
  rintro e w8 ⟨v_a, rfl, h_a, hb⟩
  obtain ⟨ng_a, ro_a, rl_a, rfl⟩ := h_a.told
  replace KB := below_trans KB hb
  clear hb
  go_wp2_with fail
  with_reducible refine (wint64_any h_a.arg (by omega)).mono ?_
  rintro e w9 ⟨⟨x1, b1, rfl, hx1⟩, hb⟩
  replace KB := below_trans KB hb
  clear hb h_a
  rcases hx1 with ⟨rfl, rfl, -⟩ | ⟨rfl, rfl, hx1⟩
  rotate_left
  · exact absurd ⟨m0, m1⟩ hx1
  go_wp2_with fail
  with_reducible refine (wfrom_any m0 m1).mono ?_
  rintro e w10 ⟨v_a, rfl, h_a, hb⟩
  obtain ⟨ng_a, ro_a, rl_a, rfl⟩ := h_a.told
  replace KB := below_trans KB hb
  clear hb
  go_wp2_with fail
  with_reducible refine (wuint64_any h_a.arg (by omega)).mono ?_
  rintro e w11 ⟨⟨x2, b2, rfl, hx2⟩, hb⟩
  replace KB := below_trans KB hb
  clear hb h_a
  have s1 : (cmn == cmn) = true := by simp
  have s2 : (x1 == x1) = true := by simp
  rcases hx2 with ⟨rfl, rfl, hm0, -⟩ | ⟨rfl, rfl, hx2⟩
  ·
    have hw : IntKind.u64.wrap x2 = x2 := by rw [IntKind.wrap_u64]; omega
    have s3 : decide (0 ≤ x2) = true := decide_eq_true hm0
    go_wp2_with fail
    with_reducible refine (wfrom_any m0 m1).mono ?_
    rintro e wa ⟨v_t1, rfl, t1, hb⟩
    obtain ⟨ng_t1, ro_t1, rl_t1, rfl⟩ := t1.told
    replace KB := below_trans KB hb
    clear hb
    go_wp2_with fail
    with_reducible refine (wfrom_any n0 n1).mono ?_
    rintro e wb ⟨v_t2, rfl, t2, hb⟩
    obtain ⟨ng_t2, ro_t2, rl_t2, rfl⟩ := t2.told
    replace KB := below_trans KB hb
    replace t1 := t1.below hb
    clear hb
    go_wp2_with fail
    with_reducible refine (wcmp_told Hmn.out t1.arg t2.arg (by omega) (by omega)).mono ?_
    rintro e wc ⟨rfl, hb⟩
    replace KB := below_trans KB hb
    clear hb t1 t2
    go_wp2_with fail
    with_reducible refine wlives_any.mono ?_
    rintro e wd ⟨rfl, hb⟩
    replace KB := below_trans KB hb
    clear hb
    go_wp2
    go_ret
    exact ⟨rfl, KB⟩
  ·
    have hm0 : ¬ 0 ≤ x1 := by omega
    have s3 : decide (0 ≤ x1) = false := decide_eq_false hm0
    go_wp2_with fail
    with_reducible refine (wfrom_any m0 m1).mono ?_
    rintro e wa ⟨v_t1, rfl, t1, hb⟩
    obtain ⟨ng_t1, ro_t1, rl_t1, rfl⟩ := t1.told
    replace KB := below_trans KB hb
    clear hb
    go_wp2_with fail
    with_reducible refine (wfrom_any n0 n1).mono ?_
    rintro e wb ⟨v_t2, rfl, t2, hb⟩
    obtain ⟨ng_t2, ro_t2, rl_t2, rfl⟩ := t2.told
    replace KB := below_trans KB hb
    replace t1 := t1.below hb
    clear hb
    go_wp2_with fail
    with_reducible refine (wcmp_told Hmn.out t1.arg t2.arg (by omega) (by omega)).mono ?_
    rintro e wc ⟨rfl, hb⟩
    replace KB := below_trans KB hb
    clear hb t1 t2
    go_wp2_with fail
    with_reducible refine wlives_any.mono ?_
    rintro e wd ⟨rfl, hb⟩
    replace KB := below_trans KB hb
    clear hb
    go_wp2
    go_ret
    exact ⟨rfl, KB⟩

end Go.Proofs.YtmpdkeafbjibpaaDoor
