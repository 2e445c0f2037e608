/- cruciblelaw02.lives: the chapter's first examples -/
import Derived.Test.YtkffaakjbbfiaaaDoorReadC
import Derived.Test.YtkffaakjbbfiaaaDoorGcd
import Derived.Test.YtkffaakjbbfiaaaDoorSame
namespace Go.Proofs.YtkffaakjbbfiaaaDoor
open Go.RowKit

/-- a list that was written out -/
theorem row_lit (w : World) (xs : List Int) : Row .u32 33 (w.alloc (.cells (xs.map (Value.int .u32)).toArray 33)) w.heap.size xs := by
  unfold Row
  rw [heap_alloc_new]
theorem num_lit (w : World) (xs : List Int) {n : Int} {k : Nat} (hc : Nt.Canon xs) (hv : Nt.val xs = n) (hk : xs.length = k) (hm : k ≤ 100) : Num w.heap.size (w.alloc (.cells (xs.map (Value.int .u32)).toArray 33)) (.slice (some ⟨w.heap.size, 0, none⟩) k k) n k := by
  subst hk
  exact ⟨xs, ⟨_, rfl, by unfold maxLen; omega, fun _ => ⟨w.heap.size, [], rfl, Nat.le_refl _, by rw [List.append_nil]; exact row_lit w xs⟩⟩, hc, hv, Nat.le_refl _⟩
theorem arg_lit (w : World) (xs : List Int) {n : Int} {k : Nat} (hc : Nt.Ok xs) (hv : Nt.val xs = n) (hk : xs.length = k) (hm : k ≤ 100) : Arg (w.alloc (.cells (xs.map (Value.int .u32)).toArray 33)) (.slice (some ⟨w.heap.size, 0, none⟩) k k) n k := by
  subst hk
  exact ⟨xs, ⟨_, _, rfl, Nat.le_refl _, by unfold maxLen; omega, fun _ => ⟨w.heap.size, 0, rfl, (row_lit w xs).lt, fun i hi => by rw [Nat.zero_add]; exact (row_lit w xs).cell hi⟩⟩, hc, hv, Nat.le_refl _⟩
theorem ok_list {xs : List Int} (h : ∀ x ∈ xs, 0 ≤ x ∧ x < 4294967296) : Nt.Ok xs := by
  intro i
  by_cases hi : i < xs.length
  · have e : Nt.lb xs i = xs[i] := by simp [Nt.lb, hi]
    rw [e]; exact h _ (List.getElem_mem hi)
  · rw [Nt.lb_out (by omega)]; omega

set_option maxRecDepth 20000 in
set_option maxHeartbeats 8000000 in
theorem qlives_any {w : World} :
    Calls Tryd.prog 9 #[] w fun e w' => e = .returned (.bool true) ∧ Below w.heap.size w w' := by
  have a1 : ∀ u : World, Arg (u.alloc (.cells #[.int .u32 0, .int .u32 0, .int .u32 0, .int .u32 1] 33)) (.slice (some ⟨u.heap.size, 0, none⟩) 4 4) 79228162514264337593543950336 4 := fun u => arg_lit u [0, 0, 0, 1] (ok_list (by simp)) (by decide) rfl (by omega)
  have a2 : ∀ u : World, Arg (u.alloc (.cells #[.int .u32 1, .int .u32 1] 33)) (.slice (some ⟨u.heap.size, 0, none⟩) 2 2) 4294967297 2 := fun u => arg_lit u [1, 1] (ok_list (by simp)) (by decide) rfl (by omega)
  have a3 : ∀ u : World, Arg (u.alloc (.cells #[.int .u32 7] 33)) (.slice (some ⟨u.heap.size, 0, none⟩) 1 1) 7 1 := fun u => arg_lit u [7] (ok_list (by simp)) (by decide) rfl (by omega)
  have a4 : ∀ u : World, Arg (u.alloc (.cells #[.int .u32 7, .int .u32 0] 33)) (.slice (some ⟨u.heap.size, 0, none⟩) 2 2) 7 2 := fun u => arg_lit u [7, 0] (ok_list (by simp)) (by decide) rfl (by omega)
  have a5 : ∀ u : World, Arg (u.alloc (.cells #[.int .u32 65536] 33)) (.slice (some ⟨u.heap.size, 0, none⟩) 1 1) 65536 1 := fun u => arg_lit u [65536] (ok_list (by simp)) (by decide) rfl (by omega)
  have a6 : ∀ u : World, Arg (u.alloc (.cells #[.int .u32 12] 33)) (.slice (some ⟨u.heap.size, 0, none⟩) 1 1) 12 1 := fun u => arg_lit u [12] (ok_list (by simp)) (by decide) rfl (by omega)
  have a7 : ∀ u : World, Arg (u.alloc (.cells #[.int .u32 18] 33)) (.slice (some ⟨u.heap.size, 0, none⟩) 1 1) 18 1 := fun u => arg_lit u [18] (ok_list (by simp)) (by decide) rfl (by omega)
  have m1 : ∀ u : World, Num u.heap.size (u.alloc (.cells #[.int .u32 0, .int .u32 4294967295] 33)) (.slice (some ⟨u.heap.size, 0, none⟩) 2 2) 18446744069414584320 2 := fun u => num_lit u [0, 4294967295] (canon_two (by omega) (by omega)) (by decide) rfl (by omega)
  have m2 : ∀ u : World, Num u.heap.size (u.alloc (.cells #[.int .u32 0, .int .u32 1] 33)) (.slice (some ⟨u.heap.size, 0, none⟩) 2 2) 4294967296 2 := fun u => num_lit u [0, 1] (canon_two (by omega) (by omega)) (by decide) rfl (by omega)
  have m3 : ∀ u : World, Num u.heap.size (u.alloc (.cells #[.int .u32 1000] 33)) (.slice (some ⟨u.heap.size, 0, none⟩) 1 1) 1000 1 := fun u => num_lit u [1000] (canon_one (by omega)) (by decide) rfl (by omega)
  have m4 : ∀ u : World, Num u.heap.size (u.alloc (.cells #[.int .u32 256] 33)) (.slice (some ⟨u.heap.size, 0, none⟩) 1 1) 256 1 := fun u => num_lit u [256] (canon_one (by omega)) (by decide) rfl (by omega)
  have m5 : ∀ u : World, Num u.heap.size (u.alloc (.cells #[.int .u32 6] 33)) (.slice (some ⟨u.heap.size, 0, none⟩) 1 1) 6 1 := fun u => num_lit u [6] (canon_one (by omega)) (by decide) rfl (by omega)
  have A1 := hide a1
  have A2 := hide a2
  have A3 := hide a3
  have A4 := hide a4
  have A5 := hide a5
  have A6 := hide a6
  have A7 := hide a7
  have M1 := hide m1
  have M2 := hide m2
  have M3 := hide m3
  have M4 := hide m4
  have M5 := hide m5
  clear a1 a2 a3 a4 a5 a6 a7 m1 m2 m3 m4 m5
  go_enter Tryd.func9, Tryd.ntmps9
  go_wp2_with fail
  have c1 := div_any ((A1.out w).below (below_alloc _ _)) (A2.out (w.alloc (.cells #[.int .u32 0, .int .u32 0, .int .u32 0, .int .u32 1] 33))) (by omega) (by omega) (by omega)
  rw [show (w.alloc (.cells #[.int .u32 0, .int .u32 0, .int .u32 0, .int .u32 1] 33)).heap.size = w.heap.size + 1 by simp] at c1
  refine c1.mono ?_
  clear c1
  rintro e w1 ⟨q, r, rfl, hq, hr, hb1⟩
  have e1 : (79228162514264337593543950336 : Int) / 4294967297 = 18446744069414584320 := by decide
  have e2 : (79228162514264337593543950336 : Int) % 4294967297 = 4294967296 := by decide
  rw [e1] at hq
  rw [e2] at hr
  have B1 : Below w.heap.size w w1 := below_trans (below_trans (below_alloc w _) (below_alloc _ _)) hb1
  clear hb1 e1 e2
  go_wp2_with fail
  refine (div_zero (A3.out w1) (arg_nil _) (by omega) (by omega)).mono ?_
  rintro e w2 ⟨rfl, rfl⟩
  go_wp2_with fail
  have c3 : Calls Tryd.prog 29 #[.int .u32 10, .int .i64 3] (w1.alloc (.cells #[.int .u32 7] 33)) fun e w' => ∃ v, e = .returned (.tuple #[v, .bool true]) ∧ Num (w1.alloc (.cells #[.int .u32 7] 33)).heap.size w' v ((10 : Int) ^ 3) 2048 ∧ Below (w1.alloc (.cells #[.int .u32 7] 33)).heap.size (w1.alloc (.cells #[.int .u32 7] 33)) w' :=
    pow_ok (b := 10) (N := 3) (k := 4) (by omega) (by omega) ⟨by decide, fun _ => by decide⟩ (by omega) (Or.inr (by decide))
  with_reducible refine c3.mono ?_
  clear c3
  rintro e w3 ⟨p, rfl, hp, hb3⟩
  have e3 : (10 : Int) ^ 3 = 1000 := by decide
  rw [e3] at hp
  have K13 := below_trans (below_alloc w1 _) hb3
  replace hq := hq.below K13
  replace hr := hr.below K13
  have B3 := below_trans B1 K13
  clear hb3 e3 K13 B1
  go_wp2_with fail
  with_reducible refine read_c.mono ?_
  rintro e w4 ⟨n, rfl, hn, hb4⟩
  replace hq := hq.below hb4
  replace hr := hr.below hb4
  replace hp := hp.below hb4
  have B4 := below_trans B3 hb4
  clear hb4 B3
  go_wp2_with fail
  with_reducible refine fromBytes_c.mono ?_
  rintro e w5 ⟨m, rfl, hm, hb5⟩
  replace hq := hq.below hb5
  replace hr := hr.below hb5
  replace hp := hp.below hb5
  replace hn := hn.below hb5
  have B5 := below_trans B4 hb5
  clear hb5 B4
  go_wp2_with fail
  have c6 := same_num (hq.below (below_alloc w5 (.cells #[.int .u32 0, .int .u32 4294967295] 33))) (M1.out w5) rfl
  with_reducible refine c6.mono ?_
  clear c6
  rintro e w6 ⟨rfl, hb6⟩
  have K6 := below_trans (below_alloc w5 (.cells #[.int .u32 0, .int .u32 4294967295] 33)) hb6
  replace hr := hr.below K6
  replace hp := hp.below K6
  replace hn := hn.below K6
  replace hm := hm.below K6
  have B6 := below_trans B5 K6
  clear hq hb6 K6 B5
  go_wp2_with fail
  have c7 := same_num (hr.below (below_alloc w6 (.cells #[.int .u32 0, .int .u32 1] 33))) (M2.out w6) rfl
  with_reducible refine c7.mono ?_
  clear c7
  rintro e w7 ⟨rfl, hb7⟩
  have K7 := below_trans (below_alloc w6 (.cells #[.int .u32 0, .int .u32 1] 33)) hb7
  replace hp := hp.below K7
  replace hn := hn.below K7
  replace hm := hm.below K7
  have B7 := below_trans B6 K7
  clear hr hb7 K7 B6
  go_wp2_with fail
  have c8 := same_num (hp.below (below_alloc w7 (.cells #[.int .u32 1000] 33))) (M3.out w7) rfl
  with_reducible refine c8.mono ?_
  clear c8
  rintro e w8 ⟨rfl, hb8⟩
  have K8 := below_trans (below_alloc w7 (.cells #[.int .u32 1000] 33)) hb8
  replace hn := hn.below K8
  replace hm := hm.below K8
  have B8 := below_trans B7 K8
  clear hp hb8 K8 B7
  go_wp2_with fail
  have c9 := same_num (hn.below (below_alloc w8 (.cells #[.int .u32 0, .int .u32 1] 33))) (M2.out w8) rfl
  with_reducible refine c9.mono ?_
  clear c9
  rintro e w9 ⟨rfl, hb9⟩
  have K9 := below_trans (below_alloc w8 (.cells #[.int .u32 0, .int .u32 1] 33)) hb9
  replace hm := hm.below K9
  have B9 := below_trans B8 K9
  clear hn hb9 K9 B8
  go_wp2_with fail
  have c10 := same_num (hm.below (below_alloc w9 (.cells #[.int .u32 256] 33))) (M4.out w9) rfl
  with_reducible refine c10.mono ?_
  clear c10
  rintro e w10 ⟨rfl, hb10⟩
  have K10 := below_trans (below_alloc w9 (.cells #[.int .u32 256] 33)) hb10
  have B10 := below_trans B9 K10
  clear hm hb10 K10 B9
  go_wp2_with fail
  have c11 := digits_c (A4.out w10) (by omega)
  with_reducible refine c11.mono ?_
  clear c11
  rintro e w11 ⟨rfl, hb11⟩
  have B11 := below_trans B10 (below_trans (below_alloc w10 (.cells #[.int .u32 7, .int .u32 0] 33)) hb11)
  clear hb11 B10
  go_wp2_with fail
  have c12 := bytes_c (A5.out w11)
  with_reducible refine c12.mono ?_
  clear c12
  rintro e w12 ⟨rfl, hb12⟩
  have B12 := below_trans B11 (below_trans (below_alloc w11 (.cells #[.int .u32 65536] 33)) hb12)
  clear hb12 B11
  go_wp2_with fail
  have c13 := gcd_any ((A6.out w12).below (below_alloc _ _)) (A7.out (w12.alloc (.cells #[.int .u32 12] 33))) (by omega) (by omega)
  rw [show (w12.alloc (.cells #[.int .u32 12] 33)).heap.size = w12.heap.size + 1 by simp] at c13
  with_reducible refine c13.mono ?_
  clear c13
  rintro e w13 ⟨g, rfl, hg, hb13⟩
  have eg : gd 12 18 = 6 := by decide
  rw [eg] at hg
  have B13 := below_trans B12 (below_trans (below_trans (below_alloc w12 _) (below_alloc _ _)) hb13)
  clear hb13 B12 eg
  go_wp2_with fail
  have c14 := same_num (hg.below (below_alloc w13 (.cells #[.int .u32 6] 33))) (M5.out w13) rfl
  with_reducible refine c14.mono ?_
  clear c14
  rintro e w14 ⟨rfl, hb14⟩
  have B14 := below_trans B13 (below_trans (below_alloc w13 (.cells #[.int .u32 6] 33)) hb14)
  clear hg hb14 B13
  go_wp2
  go_ret
  exact ⟨rfl, B14⟩

end Go.Proofs.YtkffaakjbbfiaaaDoor
