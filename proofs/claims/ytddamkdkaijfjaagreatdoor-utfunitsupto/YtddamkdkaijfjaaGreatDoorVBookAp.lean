/- the book: Apart -/
import Derived.Test.YtddamkdkaijfjaaGreatDoorVBookL
import Derived.Test.YtddamkdkaijfjaaGreatDoorVBookN
namespace Go.Proofs.YtddamkdkaijfjaaGreatDoor
open Go.RowKit

set_option maxRecDepth 100000 in
set_option maxHeartbeats 8000000 in
theorem apart_any {base : Nat} {w : World} {g : Nat} {lv : Value} {ps : List (Value × Value)} (h : Kept base w g lv ps) (hb : base ≤ w.heap.size) (hn : ps.length < 1000) (he : Each w ps) (ha : Apart ps) (hbk : ∀ i (h : i < ps.length) k, blk ps[i].1 = some k → base ≤ k) (hz : ∀ i (h : i < ps.length), ps[i].2 = .slice none 0 0) :
    Calls Tryz.prog 13 #[.pointer (some ⟨g, 0, none⟩)] w fun e w' => e = .returned (.bool true) ∧ Below base w w' := by
  go_enter Tryz.func13, Tryz.ntmps13
  have hbk0 := h.book
  go_wp2_with fail
  refine (fillLimb_none (hbk0.nil (i := 1) (by omega))).mono ?_
  rintro e _ ⟨rfl, rfl⟩
  go_wp2_with fail
  refine (fillValue_none (hbk0.nil (i := 2) (by omega))).mono ?_
  rintro e _ ⟨rfl, rfl⟩
  go_wp2_with fail
  refine (fillText_none (hbk0.nil (i := 3) (by omega))).mono ?_
  rintro e _ ⟨rfl, rfl⟩
  go_wp2_with fail
  refine (fillByte_none (hbk0.nil (i := 4) (by omega))).mono ?_
  rintro e _ ⟨rfl, rfl⟩
  go_wp2_with fail
  refine (fillSum_none (hbk0.nil (i := 5) (by omega))).mono ?_
  rintro e _ ⟨rfl, rfl⟩
  go_wp2_with fail
  refine (fillRune_none (hbk0.nil (i := 6) (by omega))).mono ?_
  rintro e _ ⟨rfl, rfl⟩
  clear hbk0
  go_wp2_with fail
  refine (fill_any h hb hn he ha hbk hz).mono ?_
  rintro e w1 ⟨rfl, hk, hm, hb1⟩
  have hI : GrowInv base w1 g lv ps.length 0 ps := ⟨rfl, hk, ha, hbk, fun j hj _ => hz j hj, hm, fun j _ h => by omega⟩
  have hbk1 := hk.book
  have hbs : base ≤ w1.heap.size := by have := hb1.size; omega
  clear h he hm hk ha hbk hz
  go_wp2_with fail
  refine (fillInt64_none (hbk1.nil (i := 8) (by omega))).mono ?_
  rintro e _ ⟨rfl, rfl⟩
  go_wp2_with fail
  refine (fillFloat_none (hbk1.nil (i := 9) (by omega))).mono ?_
  rintro e _ ⟨rfl, rfl⟩
  go_wp2_with fail
  refine (fillComplex_none (hbk1.nil (i := 10) (by omega))).mono ?_
  rintro e _ ⟨rfl, rfl⟩
  go_wp2_with fail
  refine (fillInt_none (hbk1.nil (i := 11) (by omega))).mono ?_
  rintro e _ ⟨rfl, rfl⟩
  go_wp2_with fail
  refine (fillEdit_none (hbk1.nil (i := 12) (by omega))).mono ?_
  rintro e _ ⟨rfl, rfl⟩
  go_wp2_with fail
  refine (fillResult_none (hbk1.nil (i := 13) (by omega))).mono ?_
  rintro e _ ⟨rfl, rfl⟩
  go_wp2_with fail
  refine (fillJob_none (hbk1.nil (i := 14) (by omega))).mono ?_
  rintro e _ ⟨rfl, rfl⟩
  go_wp2_with fail
  refine (growLimb_none (hbk1.nil (i := 1) (by omega))).mono ?_
  rintro e _ ⟨rfl, rfl⟩
  go_wp2_with fail
  refine (growValue_none (hbk1.nil (i := 2) (by omega))).mono ?_
  rintro e _ ⟨rfl, rfl⟩
  go_wp2_with fail
  refine (growText_none (hbk1.nil (i := 3) (by omega))).mono ?_
  rintro e _ ⟨rfl, rfl⟩
  go_wp2_with fail
  refine (growByte_none (hbk1.nil (i := 4) (by omega))).mono ?_
  rintro e _ ⟨rfl, rfl⟩
  go_wp2_with fail
  refine (growSum_none (hbk1.nil (i := 5) (by omega))).mono ?_
  rintro e _ ⟨rfl, rfl⟩
  go_wp2_with fail
  refine (growRune_none (hbk1.nil (i := 6) (by omega))).mono ?_
  rintro e _ ⟨rfl, rfl⟩
  go_wp2_with fail
  refine (grow_any hI hbs hn).mono ?_
  rintro e w2 ⟨rfl, ⟨qs, hI2⟩, hb2⟩
  have hbk2 := hI2.kept.book
  clear hI hbk1
  go_wp2_with fail
  refine (growInt64_none (hbk2.nil (i := 8) (by omega))).mono ?_
  rintro e _ ⟨rfl, rfl⟩
  go_wp2_with fail
  refine (growFloat_none (hbk2.nil (i := 9) (by omega))).mono ?_
  rintro e _ ⟨rfl, rfl⟩
  go_wp2_with fail
  refine (growComplex_none (hbk2.nil (i := 10) (by omega))).mono ?_
  rintro e _ ⟨rfl, rfl⟩
  go_wp2_with fail
  refine (growInt_none (hbk2.nil (i := 11) (by omega))).mono ?_
  rintro e _ ⟨rfl, rfl⟩
  go_wp2_with fail
  refine (growEdit_none (hbk2.nil (i := 12) (by omega))).mono ?_
  rintro e _ ⟨rfl, rfl⟩
  go_wp2_with fail
  refine (growResult_none (hbk2.nil (i := 13) (by omega))).mono ?_
  rintro e _ ⟨rfl, rfl⟩
  go_wp2_with fail
  refine (growJob_none (hbk2.nil (i := 14) (by omega))).mono ?_
  rintro e _ ⟨rfl, rfl⟩
  go_wp2_with fail
  refine (lookLimb_none (hbk2.nil (i := 1) (by omega))).mono ?_
  rintro e _ ⟨rfl, rfl⟩
  go_wp2_with fail
  refine (lookValue_none (hbk2.nil (i := 2) (by omega))).mono ?_
  rintro e _ ⟨rfl, rfl⟩
  go_wp2_with fail
  refine (lookText_none (hbk2.nil (i := 3) (by omega))).mono ?_
  rintro e _ ⟨rfl, rfl⟩
  go_wp2_with fail
  refine (lookByte_none (hbk2.nil (i := 4) (by omega))).mono ?_
  rintro e _ ⟨rfl, rfl⟩
  go_wp2_with fail
  refine (lookSum_none (hbk2.nil (i := 5) (by omega))).mono ?_
  rintro e _ ⟨rfl, rfl⟩
  go_wp2_with fail
  refine (lookRune_none (hbk2.nil (i := 6) (by omega))).mono ?_
  rintro e _ ⟨rfl, rfl⟩
  go_wp2_with fail
  refine (look_any hI2 hn).mono ?_
  rintro e w3 ⟨rfl, hg3⟩
  have hI3 := hI2.far hg3
  have hbk3 := hI3.kept.book
  have hfin := grown_below (hb1.trans hb2) (by have := hb1.size; have := hb2.size; omega) hg3 (fun _ e => by cases e)
  have Hfin := hide hfin
  clear hI2 hI3 hbk2 hfin hg3 hb1 hb2
  go_wp2_with fail
  refine (lookInt64_none (hbk3.nil (i := 8) (by omega))).mono ?_
  rintro e _ ⟨rfl, rfl⟩
  go_wp2_with fail
  refine (lookFloat_none (hbk3.nil (i := 9) (by omega))).mono ?_
  rintro e _ ⟨rfl, rfl⟩
  go_wp2_with fail
  refine (lookComplex_none (hbk3.nil (i := 10) (by omega))).mono ?_
  rintro e _ ⟨rfl, rfl⟩
  go_wp2_with fail
  refine (lookInt_none (hbk3.nil (i := 11) (by omega))).mono ?_
  rintro e _ ⟨rfl, rfl⟩
  go_wp2_with fail
  refine (lookEdit_none (hbk3.nil (i := 12) (by omega))).mono ?_
  rintro e _ ⟨rfl, rfl⟩
  go_wp2_with fail
  refine (lookResult_none (hbk3.nil (i := 13) (by omega))).mono ?_
  rintro e _ ⟨rfl, rfl⟩
  go_wp2_with fail
  refine (lookJob_none (hbk3.nil (i := 14) (by omega))).mono ?_
  rintro e _ ⟨rfl, rfl⟩
  go_wp2
  go_ret
  exact ⟨rfl, Hfin.out⟩

end Go.Proofs.YtddamkdkaijfjaaGreatDoor
