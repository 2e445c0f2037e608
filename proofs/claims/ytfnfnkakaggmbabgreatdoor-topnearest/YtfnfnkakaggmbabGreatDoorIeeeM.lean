/- ieee: the methods of a layout (mk_ieee.py) -/
import Derived.Test.YtfnfnkakaggmbabGreatDoorIeee
namespace Go.Proofs.YtfnfnkakaggmbabGreatDoor
open Go.RowKit

theorem sign_h (w : World) : Calls Tryz.prog 62 #[.agg #[.int .i64 16, .int .i64 10, .int .i64 (-24)]] w fun e w' => e = .returned (.int .u64 32768) ∧ Below w.heap.size w w' := by
  go_enter Tryz.func62, Tryz.ntmps62
  go_wp2
  go_ret
  exact ⟨rfl, bel_new _ _⟩

theorem leastNormal_h (w : World) : Calls Tryz.prog 30 #[.agg #[.int .i64 16, .int .i64 10, .int .i64 (-24)]] w fun e w' => e = .returned (.int .u64 1024) ∧ Below w.heap.size w w' := by
  go_enter Tryz.func30, Tryz.ntmps30
  go_wp2
  go_ret
  exact ⟨rfl, bel_new _ _⟩

set_option maxHeartbeats 1000000 in
theorem infinite_h (w : World) : Calls Tryz.prog 29 #[.agg #[.int .i64 16, .int .i64 10, .int .i64 (-24)]] w fun e w' => e = .returned (.int .u64 31744) ∧ Below w.heap.size w w' := by
  go_enter Tryz.func29, Tryz.ntmps29
  go_upto_region 1 with fail
  have C1 := cell3_new w (.int .i64 16) (.int .i64 10) (.int .i64 (-24)) 65
  have K1 := bel_new w (.cells #[.int .i64 16, .int .i64 10, .int .i64 (-24)] 65)
  generalize w.alloc (.cells #[.int .i64 16, .int .i64 10, .int .i64 (-24)] 65) = w1 at *
  have K : Below w1.heap.size w1 w1.drew := (Below.refl _ _).drew
  go_region_held3 (fun w' => w'.cell? ⟨w.heap.size, 0, none⟩ = some (.int .i64 16) ∧ w'.cell? ⟨w.heap.size, 1, none⟩ = some (.int .i64 10) ∧ w'.cell? ⟨w.heap.size, 2, none⟩ = some (.int .i64 (-24)))
    (first
      | with_reducible exact ⟨(C1.below K).c0, (C1.below K).c1, (C1.below K).c2⟩
      | go_keep)
    (first
      | (go_at_call 62; (with_reducible refine (sign_h _).mono ?_); rintro e w2 ⟨rfl, hb⟩; replace K := below_trans K hb; clear hb)
      | (go_at_call 30; (with_reducible refine (leastNormal_h _).mono ?_); rintro e w2 ⟨rfl, hb⟩; replace K := below_trans K hb; clear hb))
  all_goals go_wp2
  all_goals go_ret
  all_goals exact ⟨rfl, below_trans K1 K⟩

set_option maxHeartbeats 1000000 in
theorem size_h (w : World) (x s : Int) (h0 : 0 ≤ x) (h1 : x < 65536) (hs : x % 32768 = s) : Calls Tryz.prog 28 #[.agg #[.int .i64 16, .int .i64 10, .int .i64 (-24)], .int .u64 x] w fun e w' => e = .returned (.int .u64 s) ∧ Below w.heap.size w w' := by
  have hb := andNot_h x h0 h1
  rw [hs] at hb
  clear hs
  go_enter Tryz.func28, Tryz.ntmps28
  go_wp2_with fail
  with_reducible refine (sign_h _).mono ?_
  rintro e w2 ⟨rfl, hb2⟩
  go_wp2
  go_ret
  exact ⟨rfl, below_trans (bel_new _ _) hb2⟩

theorem sign_s (w : World) : Calls Tryz.prog 62 #[.agg #[.int .i64 32, .int .i64 23, .int .i64 (-149)]] w fun e w' => e = .returned (.int .u64 2147483648) ∧ Below w.heap.size w w' := by
  go_enter Tryz.func62, Tryz.ntmps62
  go_wp2
  go_ret
  exact ⟨rfl, bel_new _ _⟩

theorem leastNormal_s (w : World) : Calls Tryz.prog 30 #[.agg #[.int .i64 32, .int .i64 23, .int .i64 (-149)]] w fun e w' => e = .returned (.int .u64 8388608) ∧ Below w.heap.size w w' := by
  go_enter Tryz.func30, Tryz.ntmps30
  go_wp2
  go_ret
  exact ⟨rfl, bel_new _ _⟩

set_option maxHeartbeats 1000000 in
theorem infinite_s (w : World) : Calls Tryz.prog 29 #[.agg #[.int .i64 32, .int .i64 23, .int .i64 (-149)]] w fun e w' => e = .returned (.int .u64 2139095040) ∧ Below w.heap.size w w' := by
  go_enter Tryz.func29, Tryz.ntmps29
  go_upto_region 1 with fail
  have C1 := cell3_new w (.int .i64 32) (.int .i64 23) (.int .i64 (-149)) 65
  have K1 := bel_new w (.cells #[.int .i64 32, .int .i64 23, .int .i64 (-149)] 65)
  generalize w.alloc (.cells #[.int .i64 32, .int .i64 23, .int .i64 (-149)] 65) = w1 at *
  have K : Below w1.heap.size w1 w1.drew := (Below.refl _ _).drew
  go_region_held3 (fun w' => w'.cell? ⟨w.heap.size, 0, none⟩ = some (.int .i64 32) ∧ w'.cell? ⟨w.heap.size, 1, none⟩ = some (.int .i64 23) ∧ w'.cell? ⟨w.heap.size, 2, none⟩ = some (.int .i64 (-149)))
    (first
      | with_reducible exact ⟨(C1.below K).c0, (C1.below K).c1, (C1.below K).c2⟩
      | go_keep)
    (first
      | (go_at_call 62; (with_reducible refine (sign_s _).mono ?_); rintro e w2 ⟨rfl, hb⟩; replace K := below_trans K hb; clear hb)
      | (go_at_call 30; (with_reducible refine (leastNormal_s _).mono ?_); rintro e w2 ⟨rfl, hb⟩; replace K := below_trans K hb; clear hb))
  all_goals go_wp2
  all_goals go_ret
  all_goals exact ⟨rfl, below_trans K1 K⟩

set_option maxHeartbeats 1000000 in
theorem size_s (w : World) (x s : Int) (h0 : 0 ≤ x) (h1 : x < 4294967296) (hs : x % 2147483648 = s) : Calls Tryz.prog 28 #[.agg #[.int .i64 32, .int .i64 23, .int .i64 (-149)], .int .u64 x] w fun e w' => e = .returned (.int .u64 s) ∧ Below w.heap.size w w' := by
  have hb := andNot_s x h0 h1
  rw [hs] at hb
  clear hs
  go_enter Tryz.func28, Tryz.ntmps28
  go_wp2_with fail
  with_reducible refine (sign_s _).mono ?_
  rintro e w2 ⟨rfl, hb2⟩
  go_wp2
  go_ret
  exact ⟨rfl, below_trans (bel_new _ _) hb2⟩

theorem sign_d (w : World) : Calls Tryz.prog 62 #[.agg #[.int .i64 64, .int .i64 52, .int .i64 (-1074)]] w fun e w' => e = .returned (.int .u64 9223372036854775808) ∧ Below w.heap.size w w' := by
  go_enter Tryz.func62, Tryz.ntmps62
  go_wp2
  go_ret
  exact ⟨rfl, bel_new _ _⟩

theorem leastNormal_d (w : World) : Calls Tryz.prog 30 #[.agg #[.int .i64 64, .int .i64 52, .int .i64 (-1074)]] w fun e w' => e = .returned (.int .u64 4503599627370496) ∧ Below w.heap.size w w' := by
  go_enter Tryz.func30, Tryz.ntmps30
  go_wp2
  go_ret
  exact ⟨rfl, bel_new _ _⟩

set_option maxHeartbeats 1000000 in
theorem infinite_d (w : World) : Calls Tryz.prog 29 #[.agg #[.int .i64 64, .int .i64 52, .int .i64 (-1074)]] w fun e w' => e = .returned (.int .u64 9218868437227405312) ∧ Below w.heap.size w w' := by
  go_enter Tryz.func29, Tryz.ntmps29
  go_upto_region 1 with fail
  have C1 := cell3_new w (.int .i64 64) (.int .i64 52) (.int .i64 (-1074)) 65
  have K1 := bel_new w (.cells #[.int .i64 64, .int .i64 52, .int .i64 (-1074)] 65)
  generalize w.alloc (.cells #[.int .i64 64, .int .i64 52, .int .i64 (-1074)] 65) = w1 at *
  have K : Below w1.heap.size w1 w1.drew := (Below.refl _ _).drew
  go_region_held3 (fun w' => w'.cell? ⟨w.heap.size, 0, none⟩ = some (.int .i64 64) ∧ w'.cell? ⟨w.heap.size, 1, none⟩ = some (.int .i64 52) ∧ w'.cell? ⟨w.heap.size, 2, none⟩ = some (.int .i64 (-1074)))
    (first
      | with_reducible exact ⟨(C1.below K).c0, (C1.below K).c1, (C1.below K).c2⟩
      | go_keep)
    (first
      | (go_at_call 62; (with_reducible refine (sign_d _).mono ?_); rintro e w2 ⟨rfl, hb⟩; replace K := below_trans K hb; clear hb)
      | (go_at_call 30; (with_reducible refine (leastNormal_d _).mono ?_); rintro e w2 ⟨rfl, hb⟩; replace K := below_trans K hb; clear hb))
  all_goals go_wp2
  all_goals go_ret
  all_goals exact ⟨rfl, below_trans K1 K⟩

set_option maxHeartbeats 1000000 in
theorem size_d (w : World) (x s : Int) (h0 : 0 ≤ x) (h1 : x < 18446744073709551616) (hs : x % 9223372036854775808 = s) : Calls Tryz.prog 28 #[.agg #[.int .i64 64, .int .i64 52, .int .i64 (-1074)], .int .u64 x] w fun e w' => e = .returned (.int .u64 s) ∧ Below w.heap.size w w' := by
  have hb := andNot_d x h0 h1
  rw [hs] at hb
  clear hs
  go_enter Tryz.func28, Tryz.ntmps28
  go_wp2_with fail
  with_reducible refine (sign_d _).mono ?_
  rintro e w2 ⟨rfl, hb2⟩
  go_wp2
  go_ret
  exact ⟨rfl, below_trans (bel_new _ _) hb2⟩

end Go.Proofs.YtfnfnkakaggmbabGreatDoor
