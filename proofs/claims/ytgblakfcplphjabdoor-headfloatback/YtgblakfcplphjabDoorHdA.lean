/- layer 19: lives -/
import Derived.Test.YtgblakfcplphjabDoorHdR
import Derived.Test.YtgblakfcplphjabDoorHdE
namespace Go.Proofs.YtgblakfcplphjabDoor
open Go.RowKit
set_option linter.unusedVariables false

theorem RdE.flt {w' : World} {a : Nat → Addr} {k : Int} {e : Ending} (h : RdE w' a (.bad k) e) : ∃ v, e = .returned (.tuple #[hdV 0 0 0 0, v]) ∧ Flt3 w' a k v := by
  obtain ⟨g, h1, h2⟩ := h
  exact ⟨_, h1, g, rfl, h2⟩
theorem keep4 {w w' : World} {b : Nat} {x0 x1 x2 x3 : Value} {T : TypeId} (h : w.heap[b]? = some (.cells #[x0, x1, x2, x3] T (0, 0))) (hb : Below w.heap.size w w') : w'.heap[b]? = some (.cells #[x0, x1, x2, x3] T (0, 0)) := by
  rw [hb.block _ (Array.getElem?_eq_some_iff.1 h).1]; exact h
/-- a fault is an error -/
theorem Flt3.ifc {w : World} {a : Nat → Addr} {k : Int} {v : Value} (h : Flt3 w a k v) : ∃ g, v = .iface 53 (.pointer (some ⟨g, 0, none⟩)) := by
  obtain ⟨g, h1, _⟩ := h
  exact ⟨g, h1⟩
set_option maxRecDepth 100000 in
set_option maxHeartbeats 4000000 in
theorem lives19 {w : World} {a : Nat → Addr} (hSn : Snt w a) (hH : Hnd w) (hT : Beh w) :
    Calls Tryd.prog 4 #[] w fun e w' => e = .returned (.bool true) ∧ Below w.heap.size w w' := by
  have CW := hide (hwrite_any (m := 5) (x := 256) hT (by omega) (by omega) (by omega) (by omega))
  rw [show hOk 5 256 = true by decide, if_pos rfl, show strOfNums (hdL 5 (hS 256) 256) = ⟨#[185, 1, 0]⟩ by kernel_rfl] at CW
  have C1 := hide (fun w1 (h : Below w.heap.size w w1) => hread_any (a := a) (es := [0, 185, 1, 0]) (s := ⟨#[0, 185, 1, 0]⟩) (k := 1) (hSn.below h) (hT.below h) (by unfold uByt; decide) (by kernel_rfl) (by decide))
  rw [show rdH [0, 185, 1, 0] 1 = .hd 5 25 256 3 by rfl] at C1
  have C2 := hide (fun w1 (h : Below w.heap.size w w1) => hread_any (a := a) (es := [25, 1]) (s := ⟨#[25, 1]⟩) (k := 0) (hSn.below h) (hT.below h) (by unfold uByt; decide) (by kernel_rfl) (by decide))
  rw [show rdH [25, 1] 0 = .bad 2 by rfl] at C2
  have HS := hide hSn
  have HH := hide hH
  clear hSn hH hT
  go_enter Tryd.func4, Tryd.ntmps4
  go_wp2_with fail
  refine CW.out.mono ?_
  rintro e w1 ⟨rfl, hb1⟩
  have HB1 := hide hb1
  clear hb1 CW
  go_wp2_with fail
  refine (C1.out w1 HB1.out).mono ?_
  rintro e w2 ⟨hE, hb2⟩
  obtain rfl := hE
  have HB2 := hide (HB1.out.trans (hb2.mono HB1.out.size))
  clear hb2 C1 HB1
  simp only [hdV]
  go_wp2_with fail
  obtain ⟨W2, hW2⟩ : ∃ W, w2.alloc (.cells #[.int .u8 5, .int .u8 25, .int .u64 256, .int .i64 3] 27) = W := ⟨_, rfl⟩
  have bW2 : Below w2.heap.size w2 W2 := hW2 ▸ (Below.refl _ _).alloc (Nat.le_refl _) _
  have K2 := hide (show W2.heap[w2.heap.size]? = some (.cells #[.int .u8 5, .int .u8 25, .int .u64 256, .int .i64 3] 27 (0, 0)) from hW2 ▸ heap_alloc_new w2 _)
  have HB3 := hide (HB2.out.trans (bW2.mono HB2.out.size))
  rw [hW2]
  clear bW2
  refine (C2.out W2 HB3.out).mono ?_
  rintro e w3 ⟨hE, hb3⟩
  obtain ⟨v, rfl, hF⟩ := hE.flt
  have K3 := hide (keep4 K2.out hb3)
  have HB4 := hide (HB3.out.trans (hb3.mono HB3.out.size))
  clear hb3 C2 HB3 hE
  simp only [hdV]
  obtain ⟨f0, f1, f2, f3, _⟩ := four_cells (keep4 K3.out ((Below.refl w3.heap.size w3).alloc (Nat.le_refl _) (.cells #[.int .u8 0, .int .u8 0, .int .u64 0, .int .i64 0] 27)))
  have HF := hide hF
  clear hF
  go_wp2_with fail
  obtain ⟨W3, hW3⟩ : ∃ W, w3.alloc (.cells #[.int .u8 0, .int .u8 0, .int .u64 0, .int .i64 0] 27) = W := ⟨_, rfl⟩
  have bW3 : Below w3.heap.size w3 W3 := hW3 ▸ (Below.refl _ _).alloc (Nat.le_refl _) _
  have HB5 := hide (HB4.out.trans (bW3.mono HB4.out.size))
  have CI := hide (f3isat 2 (HF.out.below bW3) (HS.out.below HB5.out) (HH.out.below HB5.out))
  rw [decide_eq_true rfl] at CI
  rw [hW3]
  clear bW3
  refine CI.out.mono ?_
  rintro e w4 ⟨rfl, hb4⟩
  have HB6 := hide (HB5.out.trans (hb4.mono HB5.out.size))
  clear hb4 CI
  go_wp2
  go_ret
  exact ⟨by simp, HB6.out⟩

end Go.Proofs.YtgblakfcplphjabDoor
