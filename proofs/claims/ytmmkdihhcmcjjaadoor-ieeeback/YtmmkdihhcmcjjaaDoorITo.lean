/- ieee.To: what it answers (mk_iwid.py) -/
import Derived.Test.YtmmkdihhcmcjjaaDoorIeeeO
import Derived.Test.YtmmkdihhcmcjjaaDoorIInt
import Derived.Test.YtmmkdihhcmcjjaaDoorIGap
namespace Go.Proofs.YtmmkdihhcmcjjaaDoor
open Go.RowKit
set_option linter.unusedVariables false

def ToP (Sb Fb Lb Ib Fa La Ia s : Int) (ng : Bool) (y : Int) (ok : Bool) : Prop :=
  (Ia < s ∧ y = Ib + Fb / 2 ∧ ok = true) ∨ (s = Ia ∧ y = Ib + b2i ng * Sb ∧ ok = true) ∨
  (s < Ia ∧ ∃ m E r a n f k, PartIs Fa La Ia s ng ng m E true ∧ Near Fb Lb Ib (2 * m + b2i false) (E - 1) r ∧ y = r + b2i ng * Sb ∧ PartIs Fb Lb Ib r ng a n f k ∧ ok = (k && (n == m) && (f == E)))
def ToR (Sb Fb Lb Ib Fa La Ia s : Int) (ng : Bool) (y : Int) (ok : Bool) : Prop :=
  (Ia < s ∧ y = Ib + Fb / 2 ∧ ok = true) ∨ (s = Ia ∧ y = Ib + b2i ng * Sb ∧ ok = true) ∨
  (s < Ia ∧ ∃ m E r a n f k, PartIs Fa La Ia s ng ng m E true ∧ (∀ r', Near Fb Lb Ib (2 * m + b2i false) (E - 1) r' → r' = r) ∧ y = r + b2i ng * Sb ∧ PartIs Fb Lb Ib r ng a n f k ∧ ok = (k && (n == m) && (f == E)))
theorem to_same {Sb Fb Lb Ib Fa La Ia s : Int} {ng : Bool} {y y' : Int} {ok ok' : Bool} (s0 : 0 ≤ s) (h : ToP Sb Fb Lb Ib Fa La Ia s ng y ok) (h' : ToR Sb Fb Lb Ib Fa La Ia s ng y' ok') : y = y' ∧ ok = ok' := by
  rcases h with ⟨a, rfl, rfl⟩ | ⟨a, rfl, rfl⟩ | ⟨a, m, E, r, p, n, f, k, h1, h2, rfl, h4, rfl⟩
  · rcases h' with ⟨b, rfl, rfl⟩ | ⟨b, _⟩ | ⟨b, _⟩
    · exact ⟨rfl, rfl⟩
    · omega
    · omega
  · rcases h' with ⟨b, _⟩ | ⟨b, rfl, rfl⟩ | ⟨b, _⟩
    · omega
    · exact ⟨rfl, rfl⟩
    · omega
  · rcases h' with ⟨b, _⟩ | ⟨b, _⟩ | ⟨b, m', E', r', p', n', f', k', g1, g2, rfl, g4, rfl⟩
    · omega
    · omega
    · obtain ⟨_, rfl, rfl, _⟩ := h1.unique s0 g1
      obtain rfl := g2 _ h2
      obtain ⟨_, rfl, rfl, rfl⟩ := h4.unique h2.1 g4
      exact ⟨rfl, rfl⟩
theorem sgn_part {S r : Int} (ng : Bool) (r0 : 0 ≤ r) (r1 : r < S) : (r + b2i ng * S) % S = r ∧ ng = decide (S ≤ r + b2i ng * S) ∧ 0 ≤ r + b2i ng * S ∧ r + b2i ng * S < 2 * S := by
  cases ng
  · rw [show b2i false = 0 from rfl, Int.zero_mul, Int.add_zero]
    exact ⟨Int.emod_eq_of_lt r0 r1, by rw [decide_eq_false]; omega, r0, by omega⟩
  · rw [show b2i true = 1 from rfl, Int.one_mul]
    exact ⟨by rw [Int.add_emod_right, Int.emod_eq_of_lt r0 r1], by rw [decide_eq_true]; omega, by omega, by omega⟩

set_option maxHeartbeats 1000000 in
theorem noNumber_h (w : World) : Calls Tryd.prog 123 #[.agg #[.int .i64 16, .int .i64 10, .int .i64 (-24)]] w fun e w' => e = .returned (.int .u64 32256) ∧ Below w.heap.size w w' := by
  have ho : bits .or .u64 31744 512 = 32256 := by decide
  go_enter Tryd.func123, Tryd.ntmps123
  go_upto_region 1 with fail
  have C := cell3_new w (.int .i64 16) (.int .i64 10) (.int .i64 (-24)) 106
  have K1 := bel_new w (.cells #[.int .i64 16, .int .i64 10, .int .i64 (-24)] 106)
  generalize w.alloc (.cells #[.int .i64 16, .int .i64 10, .int .i64 (-24)] 106) = w1 at *
  have K : Below w1.heap.size w1 w1.drew := (Below.refl _ _).drew
  go_region_held3 (fun w' => w'.cell? ⟨w.heap.size, 0, none⟩ = some (.int .i64 16) ∧ w'.cell? ⟨w.heap.size, 1, none⟩ = some (.int .i64 10) ∧ w'.cell? ⟨w.heap.size, 2, none⟩ = some (.int .i64 (-24)))
    (first
      | with_reducible exact ⟨(C.below K).c0, (C.below K).c1, (C.below K).c2⟩
      | go_keep)
    (first
      | (go_at_call 111; (with_reducible refine (infinite_h _).mono ?_); rintro e w2 ⟨rfl, hb⟩; replace K := below_trans K hb; clear hb)
      | (go_at_call 131; (with_reducible refine (leastNormal_h _).mono ?_); rintro e w2 ⟨rfl, hb⟩; replace K := below_trans K hb; clear hb))
  all_goals go_wp2
  all_goals go_ret
  all_goals exact ⟨rfl, below_trans K1 K⟩

set_option maxHeartbeats 1000000 in
theorem noNumber_s (w : World) : Calls Tryd.prog 123 #[.agg #[.int .i64 32, .int .i64 23, .int .i64 (-149)]] w fun e w' => e = .returned (.int .u64 2143289344) ∧ Below w.heap.size w w' := by
  have ho : bits .or .u64 2139095040 4194304 = 2143289344 := by decide
  go_enter Tryd.func123, Tryd.ntmps123
  go_upto_region 1 with fail
  have C := cell3_new w (.int .i64 32) (.int .i64 23) (.int .i64 (-149)) 106
  have K1 := bel_new w (.cells #[.int .i64 32, .int .i64 23, .int .i64 (-149)] 106)
  generalize w.alloc (.cells #[.int .i64 32, .int .i64 23, .int .i64 (-149)] 106) = w1 at *
  have K : Below w1.heap.size w1 w1.drew := (Below.refl _ _).drew
  go_region_held3 (fun w' => w'.cell? ⟨w.heap.size, 0, none⟩ = some (.int .i64 32) ∧ w'.cell? ⟨w.heap.size, 1, none⟩ = some (.int .i64 23) ∧ w'.cell? ⟨w.heap.size, 2, none⟩ = some (.int .i64 (-149)))
    (first
      | with_reducible exact ⟨(C.below K).c0, (C.below K).c1, (C.below K).c2⟩
      | go_keep)
    (first
      | (go_at_call 111; (with_reducible refine (infinite_s _).mono ?_); rintro e w2 ⟨rfl, hb⟩; replace K := below_trans K hb; clear hb)
      | (go_at_call 131; (with_reducible refine (leastNormal_s _).mono ?_); rintro e w2 ⟨rfl, hb⟩; replace K := below_trans K hb; clear hb))
  all_goals go_wp2
  all_goals go_ret
  all_goals exact ⟨rfl, below_trans K1 K⟩

set_option maxHeartbeats 1000000 in
theorem noNumber_d (w : World) : Calls Tryd.prog 123 #[.agg #[.int .i64 64, .int .i64 52, .int .i64 (-1074)]] w fun e w' => e = .returned (.int .u64 9221120237041090560) ∧ Below w.heap.size w w' := by
  have ho : bits .or .u64 9218868437227405312 2251799813685248 = 9221120237041090560 := by decide
  go_enter Tryd.func123, Tryd.ntmps123
  go_upto_region 1 with fail
  have C := cell3_new w (.int .i64 64) (.int .i64 52) (.int .i64 (-1074)) 106
  have K1 := bel_new w (.cells #[.int .i64 64, .int .i64 52, .int .i64 (-1074)] 106)
  generalize w.alloc (.cells #[.int .i64 64, .int .i64 52, .int .i64 (-1074)] 106) = w1 at *
  have K : Below w1.heap.size w1 w1.drew := (Below.refl _ _).drew
  go_region_held3 (fun w' => w'.cell? ⟨w.heap.size, 0, none⟩ = some (.int .i64 64) ∧ w'.cell? ⟨w.heap.size, 1, none⟩ = some (.int .i64 52) ∧ w'.cell? ⟨w.heap.size, 2, none⟩ = some (.int .i64 (-1074)))
    (first
      | with_reducible exact ⟨(C.below K).c0, (C.below K).c1, (C.below K).c2⟩
      | go_keep)
    (first
      | (go_at_call 111; (with_reducible refine (infinite_d _).mono ?_); rintro e w2 ⟨rfl, hb⟩; replace K := below_trans K hb; clear hb)
      | (go_at_call 131; (with_reducible refine (leastNormal_d _).mono ?_); rintro e w2 ⟨rfl, hb⟩; replace K := below_trans K hb; clear hb))
  all_goals go_wp2
  all_goals go_ret
  all_goals exact ⟨rfl, below_trans K1 K⟩

end Go.Proofs.YtmmkdihhcmcjjaaDoor
