import Derived.Test.YticmlelalbaalaaGreatDoorB05
import Derived.Test.YticmlelalbaalaaGreatDoorTie
import Derived.Test.YticmlelalbaalaaGreatDoorCards
import Derived.LaidMore
import Derived.SevenTiedAt
import Derived.Deep.Strs
import Derived.Lib.LaidTab
import Derived.Test.YticmlelalbaalaaGreatDoorB02
import Derived.Test.YticmlelalbaalaaGreatDoorRows
import Derived.ProofKit
import Derived.OpenShut
import Derived.ShutString
import Derived.ChangeOld
import Derived.SizedLaws
import Derived.ChangeSame
namespace Go.Proofs.YticmlelalbaalaaGreatDoor
open Go.ChangeShapes Go.WideShapes Go.ChangeAt Go.RowKit
open Go.ChangeMaps (open_string shut_string)
theorem own : ownKnob Tryz.prog.godebug = none := by kernel_rfl
theorem laidOut : laidOutB Tryz.prog = true := by kernel_rfl
end Go.Proofs.YticmlelalbaalaaGreatDoor
namespace Go.Proofs.YticmlelalbaalaaGreatDoor
open Go.ChangeShapes Go.WideShapes Go.ChangeAt Go.RowKit Go.Deep
theorem gLays : Tryz.prog.globalNamed "crucible/ieee.layouts" = some 14 := by kernel_rfl
theorem gBrn : Tryz.prog.globalNamed "math/bits.deBruijn64tab" = some 16 := by kernel_rfl
theorem tLays : (Tryz.prog.globals[14]?).map (·.type) = some 213 := by kernel_rfl
theorem cLay : Tryz.prog.cellsOf 180 = 3 := by kernel_rfl
theorem cI64 : Tryz.prog.cellsOf 3 = 1 := by kernel_rfl
set_option maxRecDepth 100000 in
theorem triple {W : World} {sp : Nat → Bool} {held : Bool} {m : Nat} {cs : List Value} {x : DataW Unit × List MemPlace} {enc : TypeId × Value → Unit} {a b c : Int} (h : DataW.trod enc Tryz.prog W 0 sp held m 180 cs = some x)
    (hx : x.1 = .agg [.lit (.int .i64 a), .lit (.int .i64 b), .lit (.int .i64 c)]) : cs = [.int .i64 a, .int .i64 b, .int .i64 c] := by
  obtain ⟨y0, y1, y2, n, rfl, hl, h0, h1, h2⟩ := trod_struct3 Tryz.underlying180 h
  obtain ⟨n0, e0, rfl, _⟩ := DataW.trod_int Tryz.underlying3 h0
  obtain ⟨n1, e1, rfl, _⟩ := DataW.trod_int Tryz.underlying3 h1
  obtain ⟨n2, e2, rfl, _⟩ := DataW.trod_int Tryz.underlying3 h2
  rw [cI64] at e0 e1 e2
  rw [cLay] at hl
  simp at hx
  obtain ⟨rfl, rfl, rfl⟩ := hx
  match cs, hl with
  | [c0, c1, c2], _ =>
    simp at e0 e1 e2
    rw [e0, e1, e2]
set_option maxRecDepth 100000 in
theorem lays_of_var {W : World} {sp : Nat → Bool} {held : Bool} {f : Nat} {cs : Array Value} {p : List MemPlace} {enc : TypeId × Value → Unit} (hv : W.var? Tryz.prog "crucible/ieee.layouts" = some cs) (hd : DataW.trod enc Tryz.prog W 0 sp held f 213 cs.toList = some (Rows.laid_crucible_ieee_layouts, p)) : Lays W := by
  obtain ⟨xs, m, rfl, hx, hl, hn, hel⟩ := DataW.trod_array Tryz.underlying213 hd
  have hx1 := (Prod.mk.inj hx).1
  clear hx
  match xs, hn, hx1, hel with
  | [x0, x1, x2], _, hx1, hel =>
    simp only [Rows.laid_crucible_ieee_layouts, List.map_cons, List.map_nil, DataW.agg.injEq, List.cons.injEq, and_true] at hx1
    obtain ⟨q0, q1, q2⟩ := hx1
    have t0 := triple (hel 0 (by decide)) q0.symm
    have t1 := triple (hel 1 (by decide)) q1.symm
    have t2 := triple (hel 2 (by decide)) q2.symm
    rw [cLay] at t0 t1 t2
    have hlt : 14 < W.heap.size := by
      have h := hv
      simp only [World.var?, gLays, Option.bind_some] at h
      split at h
      · rename_i e
        exact (Array.getElem?_eq_some_iff.1 e).1
      · cases h
    have hc := World.var?_cell gLays hv
    have at0 : ∀ (l r : List Value) (i j : Nat) (y : Value), (l.drop j).take 3 = r → r[i]? = some y → l[j + i]? = some y := by
      intro l r i j y h1 h2
      subst h1
      rw [List.getElem?_take] at h2
      split at h2
      · rwa [List.getElem?_drop] at h2
      · cases h2
    refine ⟨⟨?_, ?_, ?_, hlt⟩, ⟨?_, ?_, ?_, hlt⟩, ⟨?_, ?_, ?_, hlt⟩⟩
    · rw [hc, ← Array.getElem?_toList]; exact at0 _ _ 0 0 _ t0 rfl
    · rw [hc, ← Array.getElem?_toList]; exact at0 _ _ 1 0 _ t0 rfl
    · rw [hc, ← Array.getElem?_toList]; exact at0 _ _ 2 0 _ t0 rfl
    · rw [hc, ← Array.getElem?_toList]; exact at0 _ _ 0 3 _ t1 rfl
    · rw [hc, ← Array.getElem?_toList]; exact at0 _ _ 1 3 _ t1 rfl
    · rw [hc, ← Array.getElem?_toList]; exact at0 _ _ 2 3 _ t1 rfl
    · rw [hc, ← Array.getElem?_toList]; exact at0 _ _ 0 6 _ t2 rfl
    · rw [hc, ← Array.getElem?_toList]; exact at0 _ _ 1 6 _ t2 rfl
    · rw [hc, ← Array.getElem?_toList]; exact at0 _ _ 2 6 _ t2 rfl
set_option maxRecDepth 100000 in
theorem lays_two {W : World} (h : laidMetH Tryz.prog [("math/bits.deBruijn64tab", Rows.laid_math_bits_deBruijn64tab), ("crucible/ieee.layouts", Rows.laid_crucible_ieee_layouts)] W) : Lays W ∧ Brn W := by
  rw [MakeChecks.laidMetH_plain _ _ _ (by kernel_rfl)] at h
  have ht : Lib.TabIs Tryz.prog W "math/bits.deBruijn64tab" .u8 (Lib.deBruijn64tab.map (fun (n : Nat) => (n : Int))) :=
    Lib.tabIs_of_head (g := 16) (t := 256) (e := 5) (n := 64) (by kernel_rfl) (by kernel_rfl) Tryz.underlying256 Tryz.underlying5 (by kernel_rfl) (by kernel_rfl) h
  obtain ⟨ps, ⟨g0, t0, cs0, f0, p0, q0, hg0, ht0, hv0, hd0, ⟨g1, t1, cs1, f1, p1, q1, hg1, ht1, hv1, hd1, _, _⟩, _⟩, _, _⟩ := h
  obtain rfl := Option.some.inj (gLays.symm.trans hg1)
  obtain rfl := Option.some.inj (tLays.symm.trans ht1)
  refine ⟨lays_of_var hv1 hd1, ⟨fun j hj => ?_, ?_⟩⟩
  · rw [World.var?_cell gBrn ht j]
    have hl : Lib.deBruijn64tab.length = 64 := by decide
    simp only [List.getElem?_toArray, List.getElem?_map]
    rw [List.getElem?_eq_getElem (by omega), List.getD_eq_getElem?_getD, List.getElem?_eq_getElem (by omega)]
    rfl
  · have h := ht
    unfold Lib.TabIs at h
    simp only [World.var?, gBrn, Option.bind_some] at h
    split at h
    · rename_i e
      exact (Array.getElem?_eq_some_iff.1 e).1
    · cases h
end Go.Proofs.YticmlelalbaalaaGreatDoor
