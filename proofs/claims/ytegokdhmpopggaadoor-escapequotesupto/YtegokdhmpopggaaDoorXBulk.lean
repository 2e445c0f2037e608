/- rows of layer 10: the table of letters, the sentinels, the handle; the argument -/
import Derived.Test.YtegokdhmpopggaaDoorXErrB
import Derived.Test.YtegokdhmpopggaaDoorTie
import Derived.Test.YtegokdhmpopggaaDoorCards
import Derived.ProofKit
import Derived.OpenShut
import Derived.ShutString
import Derived.ChangeOld
import Derived.SizedLaws
import Derived.ChangeSame
import Derived.ChangeMaps5
import Derived.LaidMore
import Derived.SevenTiedAt
import Derived.Deep.Strs
import Derived.Lib.LaidTab
import Derived.LaidSub
import Derived.LaidHandle
import Derived.Deep.DeepHandedRow
import Derived.Stop.LaidErr
import Derived.Stop.LaidTwo
namespace Go.Proofs.YtegokdhmpopggaaDoor
open Go.ChangeShapes Go.WideShapes Go.ChangeAt Go.RowKit Go.Deep Go.Stop Go.Extern.Stop
set_option linter.unusedVariables false

theorem own : ownKnob Tryd.prog.godebug = none := by kernel_rfl
theorem laidOut : laidOutB Tryd.prog = true := by kernel_rfl
theorem gTab : Tryd.prog.globalNamed "crucible/escape.letters" = some 12 := by kernel_rfl
theorem tTab : (Tryd.prog.globals[12]?).map (·.type) = some 106 := by kernel_rfl
theorem cTab : Tryd.prog.cellsOf 105 = 2 := by kernel_rfl
theorem cU8 : Tryd.prog.cellsOf 5 = 1 := by kernel_rfl
set_option maxRecDepth 100000 in
theorem pairOf {W : World} {sp : Nat → Bool} {held : Bool} {m : Nat} {cs : List Value} {x : DataW Unit × List MemPlace} {enc : TypeId × Value → Unit} {a b : Int} (h : DataW.trod enc Tryd.prog W 0 sp held m 105 cs = some x)
    (hx : x.1 = .agg [.lit (.int .u8 a), .lit (.int .u8 b)]) : cs = [.int .u8 a, .int .u8 b] := by
  obtain ⟨y0, y1, n, rfl, hl, h0, h1⟩ := trod_struct2 Tryd.underlying105 h
  obtain ⟨n0, e0, rfl, _⟩ := DataW.trod_int Tryd.underlying5 h0
  obtain ⟨n1, e1, rfl, _⟩ := DataW.trod_int Tryd.underlying5 h1
  rw [cU8] at e0 e1
  rw [cTab] at hl
  simp at hx
  obtain ⟨rfl, rfl⟩ := hx
  match cs, hl with
  | [c0, c1], _ =>
    simp at e0 e1
    rw [e0, e1]
set_option maxRecDepth 100000 in
theorem tab_of_var {W : World} {sp : Nat → Bool} {held : Bool} {f : Nat} {cs : Array Value} {p : List MemPlace} {enc : TypeId × Value → Unit} (hv : W.var? Tryd.prog "crucible/escape.letters" = some cs) (hd : DataW.trod enc Tryd.prog W 0 sp held f 106 cs.toList = some (Rows.laid_crucible_escape_letters, p)) : Tab W := by
  obtain ⟨xs, m, rfl, hx, hl, hn, hel⟩ := DataW.trod_array Tryd.underlying106 hd
  have hx1 := (Prod.mk.inj hx).1
  clear hx
  match xs, hn, hx1, hel with
  | [x0, x1, x2, x3, x4, x5, x6, x7], _, hx1, hel =>
    simp only [Rows.laid_crucible_escape_letters, List.map_cons, List.map_nil, DataW.agg.injEq, List.cons.injEq, and_true] at hx1
    obtain ⟨q0, q1, q2, q3, q4, q5, q6, q7⟩ := hx1
    have t0 := pairOf (hel 0 (by decide)) q0.symm
    have t1 := pairOf (hel 1 (by decide)) q1.symm
    have t2 := pairOf (hel 2 (by decide)) q2.symm
    have t3 := pairOf (hel 3 (by decide)) q3.symm
    have t4 := pairOf (hel 4 (by decide)) q4.symm
    have t5 := pairOf (hel 5 (by decide)) q5.symm
    have t6 := pairOf (hel 6 (by decide)) q6.symm
    have t7 := pairOf (hel 7 (by decide)) q7.symm
    rw [cTab] at t0 t1 t2 t3 t4 t5 t6 t7
    have hlt : 12 < W.heap.size := by
      have h := hv
      simp only [World.var?, gTab, Option.bind_some] at h
      split at h
      · rename_i e
        exact (Array.getElem?_eq_some_iff.1 e).1
      · cases h
    have hc := World.var?_cell gTab hv
    have at0 : ∀ (l r : List Value) (i j : Nat) (y : Value), (l.drop j).take 2 = r → r[i]? = some y → l[j + i]? = some y := by
      intro l r i j y h1 h2
      subst h1
      rw [List.getElem?_take] at h2
      split at h2
      · rwa [List.getElem?_drop] at h2
      · cases h2
    refine ⟨hlt, fun j hj => ?_⟩
    rw [hc, ← Array.getElem?_toList]
    rcases (by omega : j = 0 ∨ j = 1 ∨ j = 2 ∨ j = 3 ∨ j = 4 ∨ j = 5 ∨ j = 6 ∨ j = 7 ∨ j = 8 ∨ j = 9 ∨ j = 10 ∨ j = 11 ∨ j = 12 ∨ j = 13 ∨ j = 14 ∨ j = 15) with rfl | rfl | rfl | rfl | rfl | rfl | rfl | rfl | rfl | rfl | rfl | rfl | rfl | rfl | rfl | rfl
    · exact at0 _ _ 0 0 _ t0 rfl
    · exact at0 _ _ 1 0 _ t0 rfl
    · exact at0 _ _ 0 2 _ t1 rfl
    · exact at0 _ _ 1 2 _ t1 rfl
    · exact at0 _ _ 0 4 _ t2 rfl
    · exact at0 _ _ 1 4 _ t2 rfl
    · exact at0 _ _ 0 6 _ t3 rfl
    · exact at0 _ _ 1 6 _ t3 rfl
    · exact at0 _ _ 0 8 _ t4 rfl
    · exact at0 _ _ 1 8 _ t4 rfl
    · exact at0 _ _ 0 10 _ t5 rfl
    · exact at0 _ _ 1 10 _ t5 rfl
    · exact at0 _ _ 0 12 _ t6 rfl
    · exact at0 _ _ 1 12 _ t6 rfl
    · exact at0 _ _ 0 14 _ t7 rfl
    · exact at0 _ _ 1 14 _ t7 rfl
theorem tab_one {W : World} (h : laidMetH Tryd.prog [("crucible/escape.letters", Rows.laid_crucible_escape_letters)] W) : Tab W := by
  rw [MakeChecks.laidMetH_plain _ _ _ (by kernel_rfl)] at h
  obtain ⟨ps, ⟨g0, t0, cs0, f0, p0, q0, hg0, ht0, hv0, hd0, _, _⟩, _, _⟩ := h
  obtain rfl := Option.some.inj (gTab.symm.trans hg0)
  obtain rfl := Option.some.inj (tTab.symm.trans ht0)
  exact tab_of_var hv0 hd0
/-- a row's thirteen variables -/
def all13 : List (String × DataW Unit) := [("errors.errorType", Rows.laid_errors_errorType), ("crucible/api.ErrArg", Rows.laid_crucible_api_ErrArg), ("crucible/api.ErrNil", Rows.laid_crucible_api_ErrNil), ("crucible/api.ErrInput", Rows.laid_crucible_api_ErrInput), ("crucible/api.ErrRep", Rows.laid_crucible_api_ErrRep), ("crucible/api.ErrLimit", Rows.laid_crucible_api_ErrLimit), ("crucible/api.ErrNone", Rows.laid_crucible_api_ErrNone), ("crucible/api.ErrBusy", Rows.laid_crucible_api_ErrBusy), ("crucible/api.ErrHandle", Rows.laid_crucible_api_ErrHandle), ("crucible/api.ErrKey", Rows.laid_crucible_api_ErrKey), ("crucible/api.ErrStopped", Rows.laid_crucible_api_ErrStopped), ("crucible/api.ErrScript", Rows.laid_crucible_api_ErrScript), ("crucible/escape.letters", Rows.laid_crucible_escape_letters)]
theorem tab_all {W : World} (h : laidMetH Tryd.prog all13 W) : Tab W := by
  have h2 := h.filter (fun x => x.1 == "crucible/escape.letters")
  rw [show (all13.filter fun x => x.1 == "crucible/escape.letters") = [("crucible/escape.letters", Rows.laid_crucible_escape_letters)] from by kernel_rfl] at h2
  exact tab_one h2
theorem sStar : "*" ++ "errors.errorString" = "*errors.errorString" := by decide
theorem sRow (u : TypeId) (h : Tryd.prog.typeName? 3 u = some "*errors.errorString") : u = 137 :=
  typeName_ptr_named (nm := "errors.errorString") (by rw [sStar]; kernel_rfl) (by kernel_rfl) (by decide) u (by rw [sStar]; exact h)
theorem cErr : Tryd.prog.cellsOf 157 = 1 := by kernel_rfl
theorem cStr : Tryd.prog.cellsOf 9 = 1 := by kernel_rfl
def xText (i : Nat) : List UInt8 := ([[97, 110, 32, 97, 114, 103, 117, 109, 101, 110, 116, 32, 116, 104, 97, 116, 32, 109, 97, 121, 32, 110, 111, 116, 32, 98, 101], [97, 110, 32, 111, 98, 106, 101, 99, 116, 32, 116, 104, 97, 116, 32, 105, 115, 32, 110, 111, 116, 32, 116, 104, 101, 114, 101], [110, 111, 32, 100, 111, 99, 117, 109, 101, 110, 116, 32, 111, 102, 32, 105, 116, 115, 32, 102, 111, 114, 109, 97, 116], [97, 32, 118, 97, 108, 117, 101, 32, 116, 104, 97, 116, 32, 116, 104, 101, 32, 102, 111, 114, 109, 97, 116, 32, 104, 97, 115, 32, 110, 111, 116], [97, 32, 108, 105, 109, 105, 116], [110, 111, 32, 115, 117, 99, 104, 32, 116, 104, 105, 110, 103], [116, 111, 111, 32, 109, 97, 110, 121, 32, 115, 101, 115, 115, 105, 111, 110, 115], [110, 111, 32, 115, 117, 99, 104, 32, 115, 101, 115, 115, 105, 111, 110], [97, 110, 111, 116, 104, 101, 114, 32, 107, 101, 121], [115, 116, 111, 112, 112, 101, 100], [110, 111, 32, 115, 99, 114, 105, 112, 116]] : List (List UInt8)).getD i []
theorem xText_ne : ∀ i j : Fin 11, i ≠ j → xText i.val ≠ xText j.val := by decide +kernel
theorem gErrArg : Tryd.prog.globalNamed "crucible/api.ErrArg" = some 0 := by kernel_rfl
theorem tErrArg : (Tryd.prog.globals[0]?).map (·.type) = some 26 := by kernel_rfl
theorem gErrNil : Tryd.prog.globalNamed "crucible/api.ErrNil" = some 1 := by kernel_rfl
theorem tErrNil : (Tryd.prog.globals[1]?).map (·.type) = some 26 := by kernel_rfl
theorem gErrInput : Tryd.prog.globalNamed "crucible/api.ErrInput" = some 2 := by kernel_rfl
theorem tErrInput : (Tryd.prog.globals[2]?).map (·.type) = some 26 := by kernel_rfl
theorem gErrRep : Tryd.prog.globalNamed "crucible/api.ErrRep" = some 3 := by kernel_rfl
theorem tErrRep : (Tryd.prog.globals[3]?).map (·.type) = some 26 := by kernel_rfl
theorem gErrLimit : Tryd.prog.globalNamed "crucible/api.ErrLimit" = some 4 := by kernel_rfl
theorem tErrLimit : (Tryd.prog.globals[4]?).map (·.type) = some 26 := by kernel_rfl
theorem gErrNone : Tryd.prog.globalNamed "crucible/api.ErrNone" = some 5 := by kernel_rfl
theorem tErrNone : (Tryd.prog.globals[5]?).map (·.type) = some 26 := by kernel_rfl
theorem gErrBusy : Tryd.prog.globalNamed "crucible/api.ErrBusy" = some 6 := by kernel_rfl
theorem tErrBusy : (Tryd.prog.globals[6]?).map (·.type) = some 26 := by kernel_rfl
theorem gErrHandle : Tryd.prog.globalNamed "crucible/api.ErrHandle" = some 7 := by kernel_rfl
theorem tErrHandle : (Tryd.prog.globals[7]?).map (·.type) = some 26 := by kernel_rfl
theorem gErrKey : Tryd.prog.globalNamed "crucible/api.ErrKey" = some 8 := by kernel_rfl
theorem tErrKey : (Tryd.prog.globals[8]?).map (·.type) = some 26 := by kernel_rfl
theorem gErrStopped : Tryd.prog.globalNamed "crucible/api.ErrStopped" = some 9 := by kernel_rfl
theorem tErrStopped : (Tryd.prog.globals[9]?).map (·.type) = some 26 := by kernel_rfl
theorem gErrScript : Tryd.prog.globalNamed "crucible/api.ErrScript" = some 10 := by kernel_rfl
theorem tErrScript : (Tryd.prog.globals[10]?).map (·.type) = some 26 := by kernel_rfl
theorem two_0 {W : World} (h : laidMetH Tryd.prog all13 W) : ∃ (a0 a1 : Addr) (s0 s1 : ByteArray) (c0 c1 : Array Value) (t0 t1 : TypeId),
      W.var? Tryd.prog "crucible/api.ErrArg" = some #[.iface 137 (.pointer (some a0))] ∧ W.var? Tryd.prog "crucible/api.ErrNil" = some #[.iface 137 (.pointer (some a1))] ∧
      W.cell? a0 = some (.string s0) ∧ s0.data.toList = xText 0 ∧ s0.size ≤ maxLen ∧ W.cell? a1 = some (.string s1) ∧ s1.data.toList = xText 1 ∧ s1.size ≤ maxLen ∧ a0 ≠ a1 ∧
      W.heap[a0.block]? = some (.cells c0 t0 (0, 0)) ∧ W.heap[a1.block]? = some (.cells c1 t1 (0, 0)) := by
  have h2 := h.filter (fun x => x.1 == "crucible/api.ErrArg" || x.1 == "crucible/api.ErrNil")
  rw [show (all13.filter fun x => x.1 == "crucible/api.ErrArg" || x.1 == "crucible/api.ErrNil") = [("crucible/api.ErrArg", Rows.laid_crucible_api_ErrArg), ("crucible/api.ErrNil", Rows.laid_crucible_api_ErrNil)] from by kernel_rfl] at h2
  rw [MakeChecks.laidMetH_plain _ _ _ (by kernel_rfl)] at h2
  exact laid_sentinels2 h2 gErrArg tErrArg gErrNil tErrNil Tryd.underlying26 sRow Tryd.underlying137 Tryd.underlying157 rfl rfl Tryd.underlying9 cErr cStr
theorem two_2 {W : World} (h : laidMetH Tryd.prog all13 W) : ∃ (a0 a1 : Addr) (s0 s1 : ByteArray) (c0 c1 : Array Value) (t0 t1 : TypeId),
      W.var? Tryd.prog "crucible/api.ErrInput" = some #[.iface 137 (.pointer (some a0))] ∧ W.var? Tryd.prog "crucible/api.ErrRep" = some #[.iface 137 (.pointer (some a1))] ∧
      W.cell? a0 = some (.string s0) ∧ s0.data.toList = xText 2 ∧ s0.size ≤ maxLen ∧ W.cell? a1 = some (.string s1) ∧ s1.data.toList = xText 3 ∧ s1.size ≤ maxLen ∧ a0 ≠ a1 ∧
      W.heap[a0.block]? = some (.cells c0 t0 (0, 0)) ∧ W.heap[a1.block]? = some (.cells c1 t1 (0, 0)) := by
  have h2 := h.filter (fun x => x.1 == "crucible/api.ErrInput" || x.1 == "crucible/api.ErrRep")
  rw [show (all13.filter fun x => x.1 == "crucible/api.ErrInput" || x.1 == "crucible/api.ErrRep") = [("crucible/api.ErrInput", Rows.laid_crucible_api_ErrInput), ("crucible/api.ErrRep", Rows.laid_crucible_api_ErrRep)] from by kernel_rfl] at h2
  rw [MakeChecks.laidMetH_plain _ _ _ (by kernel_rfl)] at h2
  exact laid_sentinels2 h2 gErrInput tErrInput gErrRep tErrRep Tryd.underlying26 sRow Tryd.underlying137 Tryd.underlying157 rfl rfl Tryd.underlying9 cErr cStr
theorem two_4 {W : World} (h : laidMetH Tryd.prog all13 W) : ∃ (a0 a1 : Addr) (s0 s1 : ByteArray) (c0 c1 : Array Value) (t0 t1 : TypeId),
      W.var? Tryd.prog "crucible/api.ErrLimit" = some #[.iface 137 (.pointer (some a0))] ∧ W.var? Tryd.prog "crucible/api.ErrNone" = some #[.iface 137 (.pointer (some a1))] ∧
      W.cell? a0 = some (.string s0) ∧ s0.data.toList = xText 4 ∧ s0.size ≤ maxLen ∧ W.cell? a1 = some (.string s1) ∧ s1.data.toList = xText 5 ∧ s1.size ≤ maxLen ∧ a0 ≠ a1 ∧
      W.heap[a0.block]? = some (.cells c0 t0 (0, 0)) ∧ W.heap[a1.block]? = some (.cells c1 t1 (0, 0)) := by
  have h2 := h.filter (fun x => x.1 == "crucible/api.ErrLimit" || x.1 == "crucible/api.ErrNone")
  rw [show (all13.filter fun x => x.1 == "crucible/api.ErrLimit" || x.1 == "crucible/api.ErrNone") = [("crucible/api.ErrLimit", Rows.laid_crucible_api_ErrLimit), ("crucible/api.ErrNone", Rows.laid_crucible_api_ErrNone)] from by kernel_rfl] at h2
  rw [MakeChecks.laidMetH_plain _ _ _ (by kernel_rfl)] at h2
  exact laid_sentinels2 h2 gErrLimit tErrLimit gErrNone tErrNone Tryd.underlying26 sRow Tryd.underlying137 Tryd.underlying157 rfl rfl Tryd.underlying9 cErr cStr
theorem two_6 {W : World} (h : laidMetH Tryd.prog all13 W) : ∃ (a0 a1 : Addr) (s0 s1 : ByteArray) (c0 c1 : Array Value) (t0 t1 : TypeId),
      W.var? Tryd.prog "crucible/api.ErrBusy" = some #[.iface 137 (.pointer (some a0))] ∧ W.var? Tryd.prog "crucible/api.ErrHandle" = some #[.iface 137 (.pointer (some a1))] ∧
      W.cell? a0 = some (.string s0) ∧ s0.data.toList = xText 6 ∧ s0.size ≤ maxLen ∧ W.cell? a1 = some (.string s1) ∧ s1.data.toList = xText 7 ∧ s1.size ≤ maxLen ∧ a0 ≠ a1 ∧
      W.heap[a0.block]? = some (.cells c0 t0 (0, 0)) ∧ W.heap[a1.block]? = some (.cells c1 t1 (0, 0)) := by
  have h2 := h.filter (fun x => x.1 == "crucible/api.ErrBusy" || x.1 == "crucible/api.ErrHandle")
  rw [show (all13.filter fun x => x.1 == "crucible/api.ErrBusy" || x.1 == "crucible/api.ErrHandle") = [("crucible/api.ErrBusy", Rows.laid_crucible_api_ErrBusy), ("crucible/api.ErrHandle", Rows.laid_crucible_api_ErrHandle)] from by kernel_rfl] at h2
  rw [MakeChecks.laidMetH_plain _ _ _ (by kernel_rfl)] at h2
  exact laid_sentinels2 h2 gErrBusy tErrBusy gErrHandle tErrHandle Tryd.underlying26 sRow Tryd.underlying137 Tryd.underlying157 rfl rfl Tryd.underlying9 cErr cStr
theorem two_8 {W : World} (h : laidMetH Tryd.prog all13 W) : ∃ (a0 a1 : Addr) (s0 s1 : ByteArray) (c0 c1 : Array Value) (t0 t1 : TypeId),
      W.var? Tryd.prog "crucible/api.ErrKey" = some #[.iface 137 (.pointer (some a0))] ∧ W.var? Tryd.prog "crucible/api.ErrStopped" = some #[.iface 137 (.pointer (some a1))] ∧
      W.cell? a0 = some (.string s0) ∧ s0.data.toList = xText 8 ∧ s0.size ≤ maxLen ∧ W.cell? a1 = some (.string s1) ∧ s1.data.toList = xText 9 ∧ s1.size ≤ maxLen ∧ a0 ≠ a1 ∧
      W.heap[a0.block]? = some (.cells c0 t0 (0, 0)) ∧ W.heap[a1.block]? = some (.cells c1 t1 (0, 0)) := by
  have h2 := h.filter (fun x => x.1 == "crucible/api.ErrKey" || x.1 == "crucible/api.ErrStopped")
  rw [show (all13.filter fun x => x.1 == "crucible/api.ErrKey" || x.1 == "crucible/api.ErrStopped") = [("crucible/api.ErrKey", Rows.laid_crucible_api_ErrKey), ("crucible/api.ErrStopped", Rows.laid_crucible_api_ErrStopped)] from by kernel_rfl] at h2
  rw [MakeChecks.laidMetH_plain _ _ _ (by kernel_rfl)] at h2
  exact laid_sentinels2 h2 gErrKey tErrKey gErrStopped tErrStopped Tryd.underlying26 sRow Tryd.underlying137 Tryd.underlying157 rfl rfl Tryd.underlying9 cErr cStr
theorem two_9 {W : World} (h : laidMetH Tryd.prog all13 W) : ∃ (a0 a1 : Addr) (s0 s1 : ByteArray) (c0 c1 : Array Value) (t0 t1 : TypeId),
      W.var? Tryd.prog "crucible/api.ErrStopped" = some #[.iface 137 (.pointer (some a0))] ∧ W.var? Tryd.prog "crucible/api.ErrScript" = some #[.iface 137 (.pointer (some a1))] ∧
      W.cell? a0 = some (.string s0) ∧ s0.data.toList = xText 9 ∧ s0.size ≤ maxLen ∧ W.cell? a1 = some (.string s1) ∧ s1.data.toList = xText 10 ∧ s1.size ≤ maxLen ∧ a0 ≠ a1 ∧
      W.heap[a0.block]? = some (.cells c0 t0 (0, 0)) ∧ W.heap[a1.block]? = some (.cells c1 t1 (0, 0)) := by
  have h2 := h.filter (fun x => x.1 == "crucible/api.ErrStopped" || x.1 == "crucible/api.ErrScript")
  rw [show (all13.filter fun x => x.1 == "crucible/api.ErrStopped" || x.1 == "crucible/api.ErrScript") = [("crucible/api.ErrStopped", Rows.laid_crucible_api_ErrStopped), ("crucible/api.ErrScript", Rows.laid_crucible_api_ErrScript)] from by kernel_rfl] at h2
  rw [MakeChecks.laidMetH_plain _ _ _ (by kernel_rfl)] at h2
  exact laid_sentinels2 h2 gErrStopped tErrStopped gErrScript tErrScript Tryd.underlying26 sRow Tryd.underlying137 Tryd.underlying157 rfl rfl Tryd.underlying9 cErr cStr
set_option maxHeartbeats 2000000 in
theorem snt_all {W : World} (h : laidMetH Tryd.prog all13 W) : ∃ a, Snt W a := by
  obtain ⟨a0, a1, s0, s1, c0, c1, t0, t1, v0, v1, d0, e0, _, d1, e1, _, _, b0, b1⟩ := two_0 h
  obtain ⟨a2, a3, s2, s3, c2, c3, t2, t3, v2, v3, d2, e2, _, d3, e3, _, _, b2, b3⟩ := two_2 h
  obtain ⟨a4, a5, s4, s5, c4, c5, t4, t5, v4, v5, d4, e4, _, d5, e5, _, _, b4, b5⟩ := two_4 h
  obtain ⟨a6, a7, s6, s7, c6, c7, t6, t7, v6, v7, d6, e6, _, d7, e7, _, _, b6, b7⟩ := two_6 h
  obtain ⟨a8, a9, s8, s9, c8, c9, t8, t9, v8, v9, d8, e8, _, d9, e9, _, _, b8, b9⟩ := two_8 h
  obtain ⟨a99, a10, s99, s10, c99, c10, t99, t10, v99, v10, d99, e99, _, d10, e10, _, _, b99, b10⟩ := two_9 h
  let A : Nat → Addr := fun i => ([a0, a1, a2, a3, a4, a5, a6, a7, a8, a9, a10] : List Addr).getD i a0
  have hd : ∀ i, i < 11 → ∃ s, W.cell? (A i) = some (.string s) ∧ s.data.toList = xText i := fun i hi => by
    rcases (by omega : i = 0 ∨ i = 1 ∨ i = 2 ∨ i = 3 ∨ i = 4 ∨ i = 5 ∨ i = 6 ∨ i = 7 ∨ i = 8 ∨ i = 9 ∨ i = 10) with rfl | rfl | rfl | rfl | rfl | rfl | rfl | rfl | rfl | rfl | rfl
    · exact ⟨s0, d0, e0⟩
    · exact ⟨s1, d1, e1⟩
    · exact ⟨s2, d2, e2⟩
    · exact ⟨s3, d3, e3⟩
    · exact ⟨s4, d4, e4⟩
    · exact ⟨s5, d5, e5⟩
    · exact ⟨s6, d6, e6⟩
    · exact ⟨s7, d7, e7⟩
    · exact ⟨s8, d8, e8⟩
    · exact ⟨s9, d9, e9⟩
    · exact ⟨s10, d10, e10⟩
  refine ⟨A, fun i hi => ?_, fun i hi => ?_, fun i j hi hj hne he => ?_⟩
  · rcases (by omega : i = 0 ∨ i = 1 ∨ i = 2 ∨ i = 3 ∨ i = 4 ∨ i = 5 ∨ i = 6 ∨ i = 7 ∨ i = 8 ∨ i = 9 ∨ i = 10) with rfl | rfl | rfl | rfl | rfl | rfl | rfl | rfl | rfl | rfl | rfl
    · exact (World.var?_cell gErrArg v0 0).trans rfl
    · exact (World.var?_cell gErrNil v1 0).trans rfl
    · exact (World.var?_cell gErrInput v2 0).trans rfl
    · exact (World.var?_cell gErrRep v3 0).trans rfl
    · exact (World.var?_cell gErrLimit v4 0).trans rfl
    · exact (World.var?_cell gErrNone v5 0).trans rfl
    · exact (World.var?_cell gErrBusy v6 0).trans rfl
    · exact (World.var?_cell gErrHandle v7 0).trans rfl
    · exact (World.var?_cell gErrKey v8 0).trans rfl
    · exact (World.var?_cell gErrStopped v9 0).trans rfl
    · exact (World.var?_cell gErrScript v10 0).trans rfl
  · rcases (by omega : i = 0 ∨ i = 1 ∨ i = 2 ∨ i = 3 ∨ i = 4 ∨ i = 5 ∨ i = 6 ∨ i = 7 ∨ i = 8 ∨ i = 9 ∨ i = 10) with rfl | rfl | rfl | rfl | rfl | rfl | rfl | rfl | rfl | rfl | rfl
    · exact ⟨c0, t0, b0⟩
    · exact ⟨c1, t1, b1⟩
    · exact ⟨c2, t2, b2⟩
    · exact ⟨c3, t3, b3⟩
    · exact ⟨c4, t4, b4⟩
    · exact ⟨c5, t5, b5⟩
    · exact ⟨c6, t6, b6⟩
    · exact ⟨c7, t7, b7⟩
    · exact ⟨c8, t8, b8⟩
    · exact ⟨c9, t9, b9⟩
    · exact ⟨c10, t10, b10⟩
  · obtain ⟨s, h1, h2⟩ := hd i hi
    obtain ⟨s', h3, h4⟩ := hd j hj
    rw [he, h3] at h1
    have e : s' = s := by simpa using h1
    subst e
    exact xText_ne ⟨i, hi⟩ ⟨j, hj⟩ (fun e => hne (by simpa using e)) (h2.symm.trans h4)
theorem hEt : Tryd.prog.globalNamed "errors.errorType" = some 11 := by kernel_rfl
theorem hRt : (Tryd.prog.cutTypes.find? (·.1 == "internal/reflectlite.rtype")).map (·.2) = some 112 := by kernel_rfl
theorem hOne : ((List.range Tryd.prog.types.size).filter fun t => Tryd.prog.rowNamed t [101, 114, 114, 111, 114]) = [26] := by kernel_rfl
theorem hnd_all {W : World} (h : laidMetH Tryd.prog all13 W) : Hnd W := by
  have h2 := h.filter (fun x => x.1 == "errors.errorType")
  rw [show (all13.filter fun x => x.1 == "errors.errorType") = [("errors.errorType", Rows.laid_errors_errorType)] from by kernel_rfl] at h2
  have h' : laidMet Tryd.prog [] W ∧ handlesMet Tryd.prog [("errors.errorType", Rows.laid_errors_errorType)] W := h2
  obtain ⟨name, u, ty, e1, e2, e3, e4, e5⟩ := h'.2 _ (List.mem_singleton.2 rfl)
  have en : name = [101, 114, 114, 111, 114] := (Option.some.inj e1).symm
  subst en
  obtain rfl := Option.some.inj (hRt.symm.trans e2)
  have hm : ty ∈ (List.range Tryd.prog.types.size).filter fun t => Tryd.prog.rowNamed t [101, 114, 114, 111, 114] := List.mem_filter.2 ⟨List.mem_range.2 e3, e4⟩
  rw [hOne] at hm
  obtain rfl := List.mem_singleton.1 hm
  have hh : typeHandle Tryd.prog 26 = .pointer (some ⟨14, 26, none⟩) := by kernel_rfl
  rw [hh] at e5
  show W.cell? _ = _
  simpa using World.var?_cell hEt e5 0

theorem bulk_one {H : Type} (d : DataW H) : 1 ≤ Rows.uptoBulk d := by
  cases d with
  | lit l => cases l <;> simp [Rows.uptoBulk]
  | _ => simp [Rows.uptoBulk]
/-- the door's own heap -/
noncomputable def tabledWorld (os : Os) : World := World.doorLaid Tryd.prog 4000 os
theorem sized_str {H : Type} {ts : List TypeId} {ds : List (DataW H)} (h : (DataW.weightsEach Tryd.prog ts ds).all (· ≤ reachBytes) = true) {j : Nat} {bytes : List UInt8} (ht : ts[j]? = some 9) (hd : ds[j]? = some (.lit (.string bytes))) : bytes.length ≤ 140737488351232 := by
  have := List.all_eq_true.1 h _ (DataW.weights_mem_each ht hd bytes.length (by simp [DataW.weights]))
  have hr : reachBytes = 140737488351232 := rfl
  rw [hr] at this
  simpa using this

end Go.Proofs.YtegokdhmpopggaaDoor
