import Derived.Test.YticmlelalbaalaaGreatDoorB17
import Derived.Test.YticmlelalbaalaaGreatDoorB47
import Derived.Test.YticmlelalbaalaaGreatDoorTie
import Derived.Test.YticmlelalbaalaaGreatDoorCards
import Derived.ProofKit
import Derived.OpenShut
import Derived.ShutString
import Derived.ChangeOld
import Derived.SizedLaws
import Derived.ChangeSame
import Derived.ChangeMaps5
import Derived.LaidMore
import Derived.SevenTiedAt
import Derived.Deep.Strs
import Derived.Lib.LaidTab
import Derived.LaidSub
import Derived.LaidHandle
import Derived.Deep.DeepHandedRow
import Derived.Stop.LaidErr
import Derived.Stop.LaidTwo
namespace Go.Proofs.YticmlelalbaalaaGreatDoor
open Go.ChangeShapes Go.WideShapes Go.ChangeAt Go.RowKit Go.Deep Go.Stop Go.Extern.Stop
set_option linter.unusedVariables false
def all20 : List (String × DataW Unit) := [("math/bits.deBruijn32tab", Rows.laid_math_bits_deBruijn32tab), ("math/bits.deBruijn64tab", Rows.laid_math_bits_deBruijn64tab), ("internal/strconv.uint64pow10", Rows.laid_internal_strconv_uint64pow10), ("unicode/utf8.acceptRanges", Rows.laid_unicode_utf8_acceptRanges), ("errors.errorType", Rows.laid_errors_errorType), ("crucible/api.ErrArg", Rows.laid_crucible_api_ErrArg), ("crucible/api.ErrNil", Rows.laid_crucible_api_ErrNil), ("crucible/api.ErrInput", Rows.laid_crucible_api_ErrInput), ("crucible/api.ErrRep", Rows.laid_crucible_api_ErrRep), ("crucible/api.ErrLimit", Rows.laid_crucible_api_ErrLimit), ("crucible/api.ErrNone", Rows.laid_crucible_api_ErrNone), ("crucible/api.ErrBusy", Rows.laid_crucible_api_ErrBusy), ("crucible/api.ErrHandle", Rows.laid_crucible_api_ErrHandle), ("crucible/api.ErrKey", Rows.laid_crucible_api_ErrKey), ("crucible/api.ErrStopped", Rows.laid_crucible_api_ErrStopped), ("crucible/api.ErrScript", Rows.laid_crucible_api_ErrScript), ("crucible/fault.errOther", Rows.laid_crucible_fault_errOther), ("crucible/ieee.layouts", Rows.laid_crucible_ieee_layouts), ("crucible/value.uses", Rows.laid_crucible_value_uses), ("unicode/utf8.first", Rows.laid_unicode_utf8_first)]
def xText (i : Nat) : List UInt8 := ([[97, 110, 32, 97, 114, 103, 117, 109, 101, 110, 116, 32, 116, 104, 97, 116, 32, 109, 97, 121, 32, 110, 111, 116, 32, 98, 101], [97, 110, 32, 111, 98, 106, 101, 99, 116, 32, 116, 104, 97, 116, 32, 105, 115, 32, 110, 111, 116, 32, 116, 104, 101, 114, 101], [110, 111, 32, 100, 111, 99, 117, 109, 101, 110, 116, 32, 111, 102, 32, 105, 116, 115, 32, 102, 111, 114, 109, 97, 116], [97, 32, 118, 97, 108, 117, 101, 32, 116, 104, 97, 116, 32, 116, 104, 101, 32, 102, 111, 114, 109, 97, 116, 32, 104, 97, 115, 32, 110, 111, 116], [97, 32, 108, 105, 109, 105, 116], [110, 111, 32, 115, 117, 99, 104, 32, 116, 104, 105, 110, 103], [116, 111, 111, 32, 109, 97, 110, 121, 32, 115, 101, 115, 115, 105, 111, 110, 115], [110, 111, 32, 115, 117, 99, 104, 32, 115, 101, 115, 115, 105, 111, 110], [97, 110, 111, 116, 104, 101, 114, 32, 107, 101, 121], [115, 116, 111, 112, 112, 101, 100], [110, 111, 32, 115, 99, 114, 105, 112, 116], [97, 110, 32, 101, 114, 114, 111, 114, 32, 102, 114, 111, 109, 32, 101, 108, 115, 101, 119, 104, 101, 114, 101]] : List (List UInt8)).getD i []
theorem xText_ne : ∀ i j : Fin 12, i ≠ j → xText i.val ≠ xText j.val := by decide +kernel
theorem gErrNil : Tryz.prog.globalNamed "crucible/api.ErrNil" = some 2 := by kernel_rfl
theorem tErrNil : (Tryz.prog.globals[2]?).map (·.type) = some 36 := by kernel_rfl
theorem gErrInput : Tryz.prog.globalNamed "crucible/api.ErrInput" = some 3 := by kernel_rfl
theorem tErrInput : (Tryz.prog.globals[3]?).map (·.type) = some 36 := by kernel_rfl
theorem gErrRep : Tryz.prog.globalNamed "crucible/api.ErrRep" = some 4 := by kernel_rfl
theorem tErrRep : (Tryz.prog.globals[4]?).map (·.type) = some 36 := by kernel_rfl
theorem gErrLimit : Tryz.prog.globalNamed "crucible/api.ErrLimit" = some 1 := by kernel_rfl
theorem tErrLimit : (Tryz.prog.globals[1]?).map (·.type) = some 36 := by kernel_rfl
theorem gErrNone : Tryz.prog.globalNamed "crucible/api.ErrNone" = some 5 := by kernel_rfl
theorem tErrNone : (Tryz.prog.globals[5]?).map (·.type) = some 36 := by kernel_rfl
theorem gErrBusy : Tryz.prog.globalNamed "crucible/api.ErrBusy" = some 6 := by kernel_rfl
theorem tErrBusy : (Tryz.prog.globals[6]?).map (·.type) = some 36 := by kernel_rfl
theorem gErrHandle : Tryz.prog.globalNamed "crucible/api.ErrHandle" = some 7 := by kernel_rfl
theorem tErrHandle : (Tryz.prog.globals[7]?).map (·.type) = some 36 := by kernel_rfl
theorem gErrKey : Tryz.prog.globalNamed "crucible/api.ErrKey" = some 8 := by kernel_rfl
theorem tErrKey : (Tryz.prog.globals[8]?).map (·.type) = some 36 := by kernel_rfl
theorem gErrStopped : Tryz.prog.globalNamed "crucible/api.ErrStopped" = some 9 := by kernel_rfl
theorem tErrStopped : (Tryz.prog.globals[9]?).map (·.type) = some 36 := by kernel_rfl
theorem gErrScript : Tryz.prog.globalNamed "crucible/api.ErrScript" = some 10 := by kernel_rfl
theorem tErrScript : (Tryz.prog.globals[10]?).map (·.type) = some 36 := by kernel_rfl
theorem gerrOther : Tryz.prog.globalNamed "crucible/fault.errOther" = some 13 := by kernel_rfl
theorem terrOther : (Tryz.prog.globals[13]?).map (·.type) = some 36 := by kernel_rfl
theorem two_0 {W : World} (h : laidMetH Tryz.prog all20 W) : ∃ (a0 a1 : Addr) (s0 s1 : ByteArray) (c0 c1 : Array Value) (t0 t1 : TypeId),
      W.var? Tryz.prog "crucible/api.ErrArg" = some #[.iface 267 (.pointer (some a0))] ∧ W.var? Tryz.prog "crucible/api.ErrNil" = some #[.iface 267 (.pointer (some a1))] ∧
      W.cell? a0 = some (.string s0) ∧ s0.data.toList = xText 0 ∧ s0.size ≤ maxLen ∧ W.cell? a1 = some (.string s1) ∧ s1.data.toList = xText 1 ∧ s1.size ≤ maxLen ∧ a0 ≠ a1 ∧
      W.heap[a0.block]? = some (.cells c0 t0 (0, 0)) ∧ W.heap[a1.block]? = some (.cells c1 t1 (0, 0)) := by
  have h2 := h.filter (fun x => x.1 == "crucible/api.ErrArg" || x.1 == "crucible/api.ErrNil")
  rw [show (all20.filter fun x => x.1 == "crucible/api.ErrArg" || x.1 == "crucible/api.ErrNil") = [("crucible/api.ErrArg", Rows.laid_crucible_api_ErrArg), ("crucible/api.ErrNil", Rows.laid_crucible_api_ErrNil)] from by kernel_rfl] at h2
  rw [MakeChecks.laidMetH_plain _ _ _ (by kernel_rfl)] at h2
  exact laid_sentinels2 h2 gErrArg tErrArg gErrNil tErrNil Tryz.underlying36 sRow Tryz.underlying267 Tryz.underlying286 rfl rfl Tryz.underlying9 cErr cStr
theorem two_2 {W : World} (h : laidMetH Tryz.prog all20 W) : ∃ (a0 a1 : Addr) (s0 s1 : ByteArray) (c0 c1 : Array Value) (t0 t1 : TypeId),
      W.var? Tryz.prog "crucible/api.ErrInput" = some #[.iface 267 (.pointer (some a0))] ∧ W.var? Tryz.prog "crucible/api.ErrRep" = some #[.iface 267 (.pointer (some a1))] ∧
      W.cell? a0 = some (.string s0) ∧ s0.data.toList = xText 2 ∧ s0.size ≤ maxLen ∧ W.cell? a1 = some (.string s1) ∧ s1.data.toList = xText 3 ∧ s1.size ≤ maxLen ∧ a0 ≠ a1 ∧
      W.heap[a0.block]? = some (.cells c0 t0 (0, 0)) ∧ W.heap[a1.block]? = some (.cells c1 t1 (0, 0)) := by
  have h2 := h.filter (fun x => x.1 == "crucible/api.ErrInput" || x.1 == "crucible/api.ErrRep")
  rw [show (all20.filter fun x => x.1 == "crucible/api.ErrInput" || x.1 == "crucible/api.ErrRep") = [("crucible/api.ErrInput", Rows.laid_crucible_api_ErrInput), ("crucible/api.ErrRep", Rows.laid_crucible_api_ErrRep)] from by kernel_rfl] at h2
  rw [MakeChecks.laidMetH_plain _ _ _ (by kernel_rfl)] at h2
  exact laid_sentinels2 h2 gErrInput tErrInput gErrRep tErrRep Tryz.underlying36 sRow Tryz.underlying267 Tryz.underlying286 rfl rfl Tryz.underlying9 cErr cStr
theorem two_4 {W : World} (h : laidMetH Tryz.prog all20 W) : ∃ (a0 a1 : Addr) (s0 s1 : ByteArray) (c0 c1 : Array Value) (t0 t1 : TypeId),
      W.var? Tryz.prog "crucible/api.ErrLimit" = some #[.iface 267 (.pointer (some a0))] ∧ W.var? Tryz.prog "crucible/api.ErrNone" = some #[.iface 267 (.pointer (some a1))] ∧
      W.cell? a0 = some (.string s0) ∧ s0.data.toList = xText 4 ∧ s0.size ≤ maxLen ∧ W.cell? a1 = some (.string s1) ∧ s1.data.toList = xText 5 ∧ s1.size ≤ maxLen ∧ a0 ≠ a1 ∧
      W.heap[a0.block]? = some (.cells c0 t0 (0, 0)) ∧ W.heap[a1.block]? = some (.cells c1 t1 (0, 0)) := by
  have h2 := h.filter (fun x => x.1 == "crucible/api.ErrLimit" || x.1 == "crucible/api.ErrNone")
  rw [show (all20.filter fun x => x.1 == "crucible/api.ErrLimit" || x.1 == "crucible/api.ErrNone") = [("crucible/api.ErrLimit", Rows.laid_crucible_api_ErrLimit), ("crucible/api.ErrNone", Rows.laid_crucible_api_ErrNone)] from by kernel_rfl] at h2
  rw [MakeChecks.laidMetH_plain _ _ _ (by kernel_rfl)] at h2
  exact laid_sentinels2 h2 gErrLimit tErrLimit gErrNone tErrNone Tryz.underlying36 sRow Tryz.underlying267 Tryz.underlying286 rfl rfl Tryz.underlying9 cErr cStr
theorem two_6 {W : World} (h : laidMetH Tryz.prog all20 W) : ∃ (a0 a1 : Addr) (s0 s1 : ByteArray) (c0 c1 : Array Value) (t0 t1 : TypeId),
      W.var? Tryz.prog "crucible/api.ErrBusy" = some #[.iface 267 (.pointer (some a0))] ∧ W.var? Tryz.prog "crucible/api.ErrHandle" = some #[.iface 267 (.pointer (some a1))] ∧
      W.cell? a0 = some (.string s0) ∧ s0.data.toList = xText 6 ∧ s0.size ≤ maxLen ∧ W.cell? a1 = some (.string s1) ∧ s1.data.toList = xText 7 ∧ s1.size ≤ maxLen ∧ a0 ≠ a1 ∧
      W.heap[a0.block]? = some (.cells c0 t0 (0, 0)) ∧ W.heap[a1.block]? = some (.cells c1 t1 (0, 0)) := by
  have h2 := h.filter (fun x => x.1 == "crucible/api.ErrBusy" || x.1 == "crucible/api.ErrHandle")
  rw [show (all20.filter fun x => x.1 == "crucible/api.ErrBusy" || x.1 == "crucible/api.ErrHandle") = [("crucible/api.ErrBusy", Rows.laid_crucible_api_ErrBusy), ("crucible/api.ErrHandle", Rows.laid_crucible_api_ErrHandle)] from by kernel_rfl] at h2
  rw [MakeChecks.laidMetH_plain _ _ _ (by kernel_rfl)] at h2
  exact laid_sentinels2 h2 gErrBusy tErrBusy gErrHandle tErrHandle Tryz.underlying36 sRow Tryz.underlying267 Tryz.underlying286 rfl rfl Tryz.underlying9 cErr cStr
theorem two_8 {W : World} (h : laidMetH Tryz.prog all20 W) : ∃ (a0 a1 : Addr) (s0 s1 : ByteArray) (c0 c1 : Array Value) (t0 t1 : TypeId),
      W.var? Tryz.prog "crucible/api.ErrKey" = some #[.iface 267 (.pointer (some a0))] ∧ W.var? Tryz.prog "crucible/api.ErrStopped" = some #[.iface 267 (.pointer (some a1))] ∧
      W.cell? a0 = some (.string s0) ∧ s0.data.toList = xText 8 ∧ s0.size ≤ maxLen ∧ W.cell? a1 = some (.string s1) ∧ s1.data.toList = xText 9 ∧ s1.size ≤ maxLen ∧ a0 ≠ a1 ∧
      W.heap[a0.block]? = some (.cells c0 t0 (0, 0)) ∧ W.heap[a1.block]? = some (.cells c1 t1 (0, 0)) := by
  have h2 := h.filter (fun x => x.1 == "crucible/api.ErrKey" || x.1 == "crucible/api.ErrStopped")
  rw [show (all20.filter fun x => x.1 == "crucible/api.ErrKey" || x.1 == "crucible/api.ErrStopped") = [("crucible/api.ErrKey", Rows.laid_crucible_api_ErrKey), ("crucible/api.ErrStopped", Rows.laid_crucible_api_ErrStopped)] from by kernel_rfl] at h2
  rw [MakeChecks.laidMetH_plain _ _ _ (by kernel_rfl)] at h2
  exact laid_sentinels2 h2 gErrKey tErrKey gErrStopped tErrStopped Tryz.underlying36 sRow Tryz.underlying267 Tryz.underlying286 rfl rfl Tryz.underlying9 cErr cStr
theorem two_10 {W : World} (h : laidMetH Tryz.prog all20 W) : ∃ (a0 a1 : Addr) (s0 s1 : ByteArray) (c0 c1 : Array Value) (t0 t1 : TypeId),
      W.var? Tryz.prog "crucible/api.ErrScript" = some #[.iface 267 (.pointer (some a0))] ∧ W.var? Tryz.prog "crucible/fault.errOther" = some #[.iface 267 (.pointer (some a1))] ∧
      W.cell? a0 = some (.string s0) ∧ s0.data.toList = xText 10 ∧ s0.size ≤ maxLen ∧ W.cell? a1 = some (.string s1) ∧ s1.data.toList = xText 11 ∧ s1.size ≤ maxLen ∧ a0 ≠ a1 ∧
      W.heap[a0.block]? = some (.cells c0 t0 (0, 0)) ∧ W.heap[a1.block]? = some (.cells c1 t1 (0, 0)) := by
  have h2 := h.filter (fun x => x.1 == "crucible/api.ErrScript" || x.1 == "crucible/fault.errOther")
  rw [show (all20.filter fun x => x.1 == "crucible/api.ErrScript" || x.1 == "crucible/fault.errOther") = [("crucible/api.ErrScript", Rows.laid_crucible_api_ErrScript), ("crucible/fault.errOther", Rows.laid_crucible_fault_errOther)] from by kernel_rfl] at h2
  rw [MakeChecks.laidMetH_plain _ _ _ (by kernel_rfl)] at h2
  exact laid_sentinels2 h2 gErrScript tErrScript gerrOther terrOther Tryz.underlying36 sRow Tryz.underlying267 Tryz.underlying286 rfl rfl Tryz.underlying9 cErr cStr
set_option maxHeartbeats 2000000 in
theorem snt_all {W : World} (h : laidMetH Tryz.prog all20 W) : ∃ a, Snt W a := by
  obtain ⟨a0, a1, s0, s1, c0, c1, t0, t1, v0, v1, d0, e0, _, d1, e1, _, _, b0, b1⟩ := two_0 h
  obtain ⟨a2, a3, s2, s3, c2, c3, t2, t3, v2, v3, d2, e2, _, d3, e3, _, _, b2, b3⟩ := two_2 h
  obtain ⟨a4, a5, s4, s5, c4, c5, t4, t5, v4, v5, d4, e4, _, d5, e5, _, _, b4, b5⟩ := two_4 h
  obtain ⟨a6, a7, s6, s7, c6, c7, t6, t7, v6, v7, d6, e6, _, d7, e7, _, _, b6, b7⟩ := two_6 h
  obtain ⟨a8, a9, s8, s9, c8, c9, t8, t9, v8, v9, d8, e8, _, d9, e9, _, _, b8, b9⟩ := two_8 h
  obtain ⟨a10, a11, s10, s11, c10, c11, t10, t11, v10, v11, d10, e10, _, d11, e11, _, _, b10, b11⟩ := two_10 h
  let A : Nat → Addr := fun i => ([a0, a1, a2, a3, a4, a5, a6, a7, a8, a9, a10, a11] : List Addr).getD i a0
  have hd : ∀ i, i < 12 → ∃ s, W.cell? (A i) = some (.string s) ∧ s.data.toList = xText i := fun i hi => by
    rcases (by omega : i = 0 ∨ i = 1 ∨ i = 2 ∨ i = 3 ∨ i = 4 ∨ i = 5 ∨ i = 6 ∨ i = 7 ∨ i = 8 ∨ i = 9 ∨ i = 10 ∨ i = 11) with rfl | rfl | rfl | rfl | rfl | rfl | rfl | rfl | rfl | rfl | rfl | rfl
    · exact ⟨s0, d0, e0⟩
    · exact ⟨s1, d1, e1⟩
    · exact ⟨s2, d2, e2⟩
    · exact ⟨s3, d3, e3⟩
    · exact ⟨s4, d4, e4⟩
    · exact ⟨s5, d5, e5⟩
    · exact ⟨s6, d6, e6⟩
    · exact ⟨s7, d7, e7⟩
    · exact ⟨s8, d8, e8⟩
    · exact ⟨s9, d9, e9⟩
    · exact ⟨s10, d10, e10⟩
    · exact ⟨s11, d11, e11⟩
  refine ⟨A, fun i hi => ?_, fun i hi => ?_, fun i j hi hj hne he => ?_⟩
  · rcases (by omega : i = 0 ∨ i = 1 ∨ i = 2 ∨ i = 3 ∨ i = 4 ∨ i = 5 ∨ i = 6 ∨ i = 7 ∨ i = 8 ∨ i = 9 ∨ i = 10 ∨ i = 11) with rfl | rfl | rfl | rfl | rfl | rfl | rfl | rfl | rfl | rfl | rfl | rfl
    · exact (World.var?_cell gErrArg v0 0).trans rfl
    · exact (World.var?_cell gErrNil v1 0).trans rfl
    · exact (World.var?_cell gErrInput v2 0).trans rfl
    · exact (World.var?_cell gErrRep v3 0).trans rfl
    · exact (World.var?_cell gErrLimit v4 0).trans rfl
    · exact (World.var?_cell gErrNone v5 0).trans rfl
    · exact (World.var?_cell gErrBusy v6 0).trans rfl
    · exact (World.var?_cell gErrHandle v7 0).trans rfl
    · exact (World.var?_cell gErrKey v8 0).trans rfl
    · exact (World.var?_cell gErrStopped v9 0).trans rfl
    · exact (World.var?_cell gErrScript v10 0).trans rfl
    · exact (World.var?_cell gerrOther v11 0).trans rfl
  · rcases (by omega : i = 0 ∨ i = 1 ∨ i = 2 ∨ i = 3 ∨ i = 4 ∨ i = 5 ∨ i = 6 ∨ i = 7 ∨ i = 8 ∨ i = 9 ∨ i = 10 ∨ i = 11) with rfl | rfl | rfl | rfl | rfl | rfl | rfl | rfl | rfl | rfl | rfl | rfl
    · exact ⟨c0, t0, b0⟩
    · exact ⟨c1, t1, b1⟩
    · exact ⟨c2, t2, b2⟩
    · exact ⟨c3, t3, b3⟩
    · exact ⟨c4, t4, b4⟩
    · exact ⟨c5, t5, b5⟩
    · exact ⟨c6, t6, b6⟩
    · exact ⟨c7, t7, b7⟩
    · exact ⟨c8, t8, b8⟩
    · exact ⟨c9, t9, b9⟩
    · exact ⟨c10, t10, b10⟩
    · exact ⟨c11, t11, b11⟩
  · obtain ⟨s, h1, h2⟩ := hd i hi
    obtain ⟨s', h3, h4⟩ := hd j hj
    rw [he, h3] at h1
    have e : s' = s := by simpa using h1
    subst e
    exact xText_ne ⟨i, hi⟩ ⟨j, hj⟩ (fun e => hne (by simpa using e)) (h2.symm.trans h4)
theorem hEt : Tryz.prog.globalNamed "errors.errorType" = some 12 := by kernel_rfl
theorem hRt : (Tryz.prog.cutTypes.find? (·.1 == "internal/reflectlite.rtype")).map (·.2) = some 163 := by kernel_rfl
theorem hOne : ((List.range Tryz.prog.types.size).filter fun t => Tryz.prog.rowNamed t [101, 114, 114, 111, 114]) = [36] := by kernel_rfl
theorem hnd_all {W : World} (h : laidMetH Tryz.prog all20 W) : Hnd W := by
  have h2 := h.filter (fun x => x.1 == "errors.errorType")
  rw [show (all20.filter fun x => x.1 == "errors.errorType") = [("errors.errorType", Rows.laid_errors_errorType)] from by kernel_rfl] at h2
  have h' : laidMet Tryz.prog [] W ∧ handlesMet Tryz.prog [("errors.errorType", Rows.laid_errors_errorType)] W := h2
  obtain ⟨name, u, ty, e1, e2, e3, e4, e5⟩ := h'.2 _ (List.mem_singleton.2 rfl)
  have en : name = [101, 114, 114, 111, 114] := (Option.some.inj e1).symm
  subst en
  obtain rfl := Option.some.inj (hRt.symm.trans e2)
  have hm : ty ∈ (List.range Tryz.prog.types.size).filter fun t => Tryz.prog.rowNamed t [101, 114, 114, 111, 114] := List.mem_filter.2 ⟨List.mem_range.2 e3, e4⟩
  rw [hOne] at hm
  obtain rfl := List.mem_singleton.1 hm
  have hh : typeHandle Tryz.prog 36 = .pointer (some ⟨21, 36, none⟩) := by kernel_rfl
  rw [hh] at e5
  show W.cell? _ = _
  simpa using World.var?_cell hEt e5 0
theorem gPowV : Tryz.prog.globalNamed "internal/strconv.uint64pow10" = some 15 := by kernel_rfl
set_option maxRecDepth 100000 in
theorem pow_of {W : World} {l : List (String × DataW Unit)} (h : laidMetH Tryz.prog l W) (hl : (l.filter fun x => x.1 == "internal/strconv.uint64pow10") = [("internal/strconv.uint64pow10", Rows.laid_internal_strconv_uint64pow10)]) :
    Lib.TabIs Tryz.prog W "internal/strconv.uint64pow10" .u64 Lib.pow10Tab ∧ 15 < W.heap.size := by
  have h2 := h.filter (fun x => x.1 == "internal/strconv.uint64pow10")
  rw [hl] at h2
  rw [MakeChecks.laidMetH_plain _ _ _ (by kernel_rfl)] at h2
  have ht : Lib.TabIs Tryz.prog W "internal/strconv.uint64pow10" .u64 Lib.pow10Tab :=
    Lib.tabIs_of_head (g := 15) (t := 246) (e := 24) (n := 20) (by kernel_rfl) (by kernel_rfl) Tryz.underlying246 Tryz.underlying24 (by kernel_rfl) (by kernel_rfl) h2
  refine ⟨ht, ?_⟩
  have h := ht
  unfold Lib.TabIs at h
  simp only [World.var?, gPowV, Option.bind_some] at h
  split at h
  · rename_i e
    exact (Array.getElem?_eq_some_iff.1 e).1
  · cases h
structure VEnv (W : World) (a : Nat → Addr) : Prop where
  L : Lays W
  T : Brn W
  U : Uss W
  P : PtW W
  S : Snt W a
  H : Hnd W
set_option maxRecDepth 100000 in
theorem env_all {W : World} (h : laidMetH Tryz.prog all20 W) : ∃ a, VEnv W a := by
  obtain ⟨a, hS⟩ := snt_all h
  obtain ⟨hL, hT, hU⟩ := tabs_of h (by kernel_rfl) (by kernel_rfl)
  obtain ⟨p1, p2⟩ := pow_of h (by kernel_rfl)
  exact ⟨a, hL, hT, hU, ⟨p2, p1⟩, hS, hnd_all h⟩
def putCells (cs : Array Value) : Obj → Obj
  | .cells _ t frozen => .cells cs t frozen
  | o => o
noncomputable def tabledWorld (os : Os) : World :=
  { World.doorLaid Tryz.prog 1000 os with heap := (World.doorLaid Tryz.prog 1000 os).heap.modify 19 (putCells (Go.Pinned.utf8FirstZ.map fun (n : Nat) => Value.int .u8 (n : Int)).toArray) }
end Go.Proofs.YticmlelalbaalaaGreatDoor
