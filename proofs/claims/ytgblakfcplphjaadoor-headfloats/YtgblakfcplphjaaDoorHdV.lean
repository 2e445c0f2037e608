/- HeadWrites, HeadFloats: the walks -/
import Derived.Test.YtgblakfcplphjaaDoorHdG
namespace Go.Proofs.YtgblakfcplphjaaDoor
open Go.RowKit
set_option linter.unusedVariables false

theorem hwrites {w : World} {m x : Int} (hB0 : Beh w) (hm0 : 0 ≤ m) (hm : m < 256) (hx0 : 0 ≤ x) (hx1 : x < 18446744073709551616) :
    Calls Tryd.prog 4 #[.int .u8 m, .int .u64 x] w fun e w' => e = .returned (.bool true) ∧ Below w.heap.size w w' := by
  have CW := hide (hwrite_any hB0 hm0 hm hx0 hx1)
  have CR := hide (fun w1 => rwrite_any (w := w1) hm0 hm hx0 hx1)
  obtain ⟨t, ht⟩ : ∃ t, (if hOk m x then strOfNums (hdL m (hS x) x) else ⟨#[]⟩) = t := ⟨_, rfl⟩
  obtain ⟨b, hb⟩ : ∃ b, hOk m x = b := ⟨_, rfl⟩
  rw [ht, hb] at CW CR
  clear ht hb
  go_enter Tryd.func4, Tryd.ntmps4
  go_wp2_with fail
  refine CW.out.mono ?_
  rintro e w1 ⟨rfl, hb1⟩
  have HB1 := hide hb1
  clear hb1
  go_wp2_with fail
  refine (CR.out w1).mono ?_
  rintro e w2 ⟨rfl, hb2⟩
  have HB2 := hide (HB1.out.trans (hb2.mono HB1.out.size))
  clear hb2
  go_wp2
  go_ret
  exact ⟨by simp, HB2.out⟩
theorem hfloats {w : World} {v x : Int} (hB0 : Beh w) (hx0 : 0 ≤ x) (hx1 : x < 18446744073709551616) :
    Calls Tryd.prog 5 #[.int .i64 v, .int .u64 x] w fun e w' => e = .returned (.bool true) ∧ Below w.heap.size w w' := by
  have CW := hide (hfloat_any (v := v) hB0 hx0 hx1)
  have CR := hide (fun w1 => rfloat_any (w := w1) (v := v) hx0 hx1)
  obtain ⟨t, ht⟩ : ∃ t, (if hF v x = 0 then ⟨#[]⟩ else strOfNums (hdL 7 (hF v x) x)) = t := ⟨_, rfl⟩
  obtain ⟨b, hb⟩ : ∃ b, (hF v x != 0) = b := ⟨_, rfl⟩
  rw [ht, hb] at CW CR
  clear ht hb
  go_enter Tryd.func5, Tryd.ntmps5
  go_wp2_with fail
  refine CW.out.mono ?_
  rintro e w1 ⟨rfl, hb1⟩
  have HB1 := hide hb1
  clear hb1
  go_wp2_with fail
  refine (CR.out w1).mono ?_
  rintro e w2 ⟨rfl, hb2⟩
  have HB2 := hide (HB1.out.trans (hb2.mono HB1.out.size))
  clear hb2
  go_wp2
  go_ret
  exact ⟨by simp, HB2.out⟩

end Go.Proofs.YtgblakfcplphjaaDoor
