/- lives -/
import Derived.Test.YtomieeajmelglaaOAdd
import Derived.Test.YtomieeajmelglaaOTw
namespace Go.Proofs.Ytomieeajmelglaa
open Go.RowKit Go.Shelf
set_option linter.unusedVariables false
set_option linter.unusedSimpArgs false

def lvL : List It := [(3, 0), (-1, 0), (2, 0), (1, 0), (-2, 0)]
def lvS : List It := [(-1, 0), (1, 0), (2, 0), (-2, 0), (3, 0)]
def szF (a b : It) : Int := 7 * ocmp 1 a b
theorem lv_sort : srt szF 1 lvL = lvS := by decide +kernel
theorem lv_srch : bsr szF lvS (2, 0) 0 5 = 2 := by decide +kernel
theorem lv_ok : bsOk szF lvS (2, 0) 2 = true := by decide +kernel
theorem lv_tw : tw szF lvL = 3 := by decide +kernel
theorem lv_add : (adF (fun a b => ocmp 0 a b) ([], 0) lvL).1.length = 5 := by decide +kernel
theorem lv_take : (hAt (adF (fun a b => ocmp 0 a b) ([], 0) lvL).1 0).1 = (-2, 0) := by decide +kernel

set_option maxRecDepth 100000 in
set_option maxHeartbeats 16000000 in
theorem olives {w : World} : Calls Try.prog 15 #[] w fun e w' => e = .returned (.bool true) ∧ Below w.heap.size w w' := by
  obtain ⟨W1, hW1⟩ : ∃ u, w.alloc (.cells #[.int .i64 3, .int .i64 0, .int .i64 (-1), .int .i64 0, .int .i64 2, .int .i64 0, .int .i64 1, .int .i64 0, .int .i64 (-2), .int .i64 0] 27) = u := ⟨_, rfl⟩
  have K1 : Hid (Below w.heap.size w W1) := by rw [← hW1]; exact hide ((Below.refl _ w).alloc (Nat.le_refl _) _)
  have hr1 : ItRow W1 w.heap.size lvL := by rw [← hW1]; exact heap_alloc_new w _
  have rd : ∀ U, Below W1.heap.size W1 U → ItRd (fun g => g = w.heap.size) U (.slice (some ⟨w.heap.size, 0, none⟩) 5 5) lvL := fun U k => (hr1.keep (k.block _ hr1.lt)).rd rfl (Nat.le_refl _) (by unfold maxLen; decide)
  have HL1 := hide hr1.lt
  have C1 := hide (itsort_any (I := fun _ => True) (w := W1) (by decide) ((rd W1 (Below.refl _ _)).mono (fun _ _ _ => trivial)) bySize_is trivial (fun _ _ _ _ => trivial))
  have RD := hide rd
  clear hr1 rd
  go_enter Try.func15, Try.ntmps15
  go_wp2_with fail
  refine C1.out.mono ?_
  rintro e w2 ⟨⟨v, rfl, ho⟩, k2⟩
  rw [show srt (fun a b => 7 * ocmp 1 a b) 1 lvL = lvS from lv_sort] at ho
  rcases ho with ⟨h, _⟩ | ⟨gs, rfl, hgs, hrs, _⟩
  · cases h
  have K2 := hide k2
  have HRS := hide hrs
  have rds := hrs.rd (G := fun _ => True) trivial (Nat.le_refl _) (by unfold maxLen; decide)
  have C2 := hide (search_any (I := fun _ => True) (w := w2) (x := (2, 0)) rds (by decide) bySize_is (fun _ _ => trivial))
  rw [show bsr (fun a b => 7 * ocmp 1 a b) lvS (2, 0) 0 lvS.length = 2 from lv_srch, show bsOk (fun a b => 7 * ocmp 1 a b) lvS (2, 0) 2 = true from lv_ok] at C2
  clear hrs k2 C1 rds hW1
  go_wp2_with fail
  refine C2.out.mono ?_
  rintro e w3 ⟨rfl, k3⟩
  have K3 := hide k3
  clear k3 C2
  go_wp2_with fail
  refine new_any.mono ?_
  rintro e w4 ⟨rfl, hb4, k4, s4⟩
  have K14 : Hid (Below W1.heap.size W1 w4) := hide (K2.out.trans ((K3.out.trans (k4.mono K3.out.size)).mono K2.out.size))
  have HB4 := hide hb4
  have C5 := hide (add_any (I := fun _ => True) (w := w4) (base := w3.heap.size) (st := ([], 0)) (l := lvL) (f := fun a b => ocmp 0 a b) ⟨_, hb4, World.ownsRow_nil _ _ _ _⟩ (Nat.le_refl _) ((RD.out w4 K14.out).mono (fun g _ h => by have := HL1.out; have := K2.out.size; have := K3.out.size; omega)) (by decide) (by decide) (by decide) byKey_is (fun _ _ => trivial))
  have K4 := hide k4
  have S4 := hide s4
  clear hb4 k4 s4
  go_wp2_with fail
  refine C5.out.mono ?_
  rintro e w5 ⟨rfl, hb5, k5⟩
  obtain ⟨hv, hba, hrw⟩ := hb5
  have hl5 := lv_add
  have ht5 := lv_take
  obtain ⟨st, hst⟩ : ∃ st, adF (fun a b => ocmp 0 a b) ([], 0) lvL = st := ⟨_, rfl⟩
  rw [hst] at hba hrw hl5 ht5
  obtain ⟨ho, hcp, rfl, hc1, hc2, hgf⟩ := hrw.form
  obtain ⟨g, rfl, hg1, hg2⟩ := hgf (by omega)
  have C6 := hide (take_any (I := fun _ => True) hba hrw hg2 rfl (by omega) (by omega) hc1 hc2 byKey_is (fun _ _ => trivial))
  rw [ht5, hl5] at C6
  rw [hl5] at hba
  have K5 := hide k5
  have S5 : Hid (w3.heap.size < w5.heap.size) := hide hba.lt
  have HG := hide (And.intro hg1 hg2)
  clear hba hrw hl5 ht5 hst hc1 hc2 hgf k5 C5 HB4 hg1 hg2
  go_wp2_with fail
  refine C6.out.mono ?_
  rintro e w6 ⟨rfl, hb6, _, k6⟩
  clear C6
  obtain ⟨W7, hW7⟩ : ∃ u, w6.alloc (.cells #[.int .i64 (-2), .int .i64 0] 27) = u := ⟨_, rfl⟩
  have K7 : Below w6.heap.size w6 W7 := by rw [← hW7]; exact (Below.refl _ w6).alloc (Nat.le_refl _) _
  have hx7 : W7.heap[w6.heap.size]? = some (.cells #[.int .i64 (-2), .int .i64 0] 27 (0, 0)) := by rw [← hW7]; exact heap_alloc_new w6 _
  have k57 : Below w3.heap.size w5 W7 := (k6.below (B := w3.heap.size) (by have := S5.out; omega) (fun k hk h => by have := HG.out.1; omega)).trans (K7.mono (by have := S5.out; have := k6.size; omega))
  have k37 : Below w3.heap.size w3 W7 := (K4.out.trans (K5.out.mono (Nat.le_refl _))).trans k57
  have k27 : Below w2.heap.size w2 W7 := K3.out.trans (k37.mono K3.out.size)
  have K17 : Hid (Below W1.heap.size W1 W7) := hide (K2.out.trans (k27.mono K2.out.size))
  have rs7 : ItRow W7 gs lvS := HRS.out.keep (k27.block _ HRS.out.lt)
  have e0 := (rs7.cell (i := 0) (by decide)).1
  have e3 := (rs7.cell (i := 3) (by decide)).1
  simp [lvS] at e0 e3
  have b7 : BagAt W7 w3.heap.size (.func (.func 11) #[] #[]) st.2 (.slice (some ⟨g, 0, none⟩) 4 hcp) := hb6.keep (K7.block _ hb6.lt)
  have C8 := hide (twice_any (I := fun _ => True) (w := W7) ((RD.out W7 K17.out).mono (fun _ _ _ => trivial)) (by decide) bySize_is (fun _ _ => trivial))
  rw [show tw (fun a b => 7 * ocmp 1 a b) lvL = 3 from lv_tw] at C8
  have HX7 := hide hx7
  have B7 := hide b7
  have hl : lvS.length = 5 := rfl
  rw [hl]
  subst hW7
  clear hb6 k6 K7 hx7 k57 k37 k27 rs7 b7 K2 K3 K4 K5 S4 S5 HG HRS K14
  go_wp2_with fail
  refine C8.out.mono ?_
  rintro e w8 ⟨rfl, k8⟩
  have B8 := hide (B7.out.keep (k8.block _ B7.out.lt))
  have c8 := cell_of_row w8 _ 0 _ _ _ ((k8.block _ (Array.getElem?_eq_some_iff.1 HX7.out).1).trans HX7.out)
  simp at c8
  have K8 := hide (K1.out.trans ((K17.out.trans (k8.mono K17.out.size)).mono K1.out.size))
  clear k8 C8
  go_wp2_with fail
  refine (len_any B8.out (by decide)).mono ?_
  rintro e w9 ⟨rfl, rfl⟩
  go_wp2
  go_ret
  exact ⟨rfl, K8.out⟩

end Go.Proofs.Ytomieeajmelglaa
