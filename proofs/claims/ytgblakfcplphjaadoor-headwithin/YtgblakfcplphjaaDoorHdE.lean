/- layer 19: what the laws ask of an error: Code, At, Is, IsAt -/
import Derived.Test.YtgblakfcplphjaaDoorFEr
namespace Go.Proofs.YtgblakfcplphjaaDoor
open Go.RowKit
set_option linter.unusedVariables false

/-- a fault of the third kind at a place -/
def Flt3 (w : World) (a : Nat → Addr) (k : Int) (v : Value) : Prop := ∃ g, v = .iface 63 (.pointer (some ⟨g, 0, none⟩)) ∧ FltAt w g (.iface 102 (.pointer (some (a 2)))) k ⟨#[]⟩
theorem Flt3.below {w w' : World} {a : Nat → Addr} {k : Int} {v : Value} (h : Flt3 w a k v) (hb : Below w.heap.size w w') : Flt3 w' a k v := by
  obtain ⟨g, h1, h2⟩ := h
  exact ⟨g, h1, h2.below hb⟩
theorem Flt3.er {w : World} {a : Nat → Addr} {k : Int} {v : Value} (h : Flt3 w a k v) (hS : Snt w a) (hH : Hnd w) :
    ∃ u x r, v = .iface u x ∧ ErrIs w a u x (fun i => decide (i = 2)) ∧ AsIs w u x r ∧ Told w r (some (k, ⟨#[]⟩)) := by
  obtain ⟨g, rfl, h2⟩ := h
  exact er_flt hS hH (m := 2) (by omega) h2
theorem f3code {w : World} {a : Nat → Addr} {k : Int} {v : Value} (h : Flt3 w a k v) (hS : Snt w a) (hH : Hnd w) :
    Calls Tryd.prog 18 #[v] w fun e w' => e = .returned (.int .i64 3) ∧ Below w.heap.size w w' := by
  obtain ⟨u, x, r, rfl, h1, h2, h3⟩ := h.er hS hH
  refine (hcode_any hS h1).mono ?_
  rintro e w' ⟨rfl, hb⟩
  refine ⟨?_, hb⟩
  rw [hcB_dec, if_pos (by omega)]
  rfl
theorem f3at {w : World} {a : Nat → Addr} {k : Int} {v : Value} (h : Flt3 w a k v) (hS : Snt w a) (hH : Hnd w) :
    Calls Tryd.prog 19 #[v] w fun e w' => e = .returned (.tuple #[.int .i64 k, .bool true]) ∧ Below w.heap.size w w' := by
  obtain ⟨u, x, r, rfl, h1, h2, h3⟩ := h.er hS hH
  exact hat_any h2 h3
theorem f3isat {w : World} {a : Nat → Addr} {k : Int} {v : Value} (z : Int) (h : Flt3 w a k v) (hS : Snt w a) (hH : Hnd w) :
    Calls Tryd.prog 12 #[v, .int .i64 3, .int .i64 z] w fun e w' => e = .returned (.bool (decide (k = z))) ∧ Below w.heap.size w w' := by
  have CC := hide (f3code h hS hH)
  obtain ⟨u, x, r, rfl, h1, h2, h3⟩ := h.er hS hH
  have HA := hide h2
  have HT := hide h3
  clear h h1 h2 h3 hS hH
  go_enter Tryd.func12, Tryd.ntmps12
  go_wp2_with fail
  refine CC.out.mono ?_
  rintro e w1 ⟨rfl, hb1⟩
  have HB1 := hide hb1
  have CAt := hide (hat_any (HA.out.below hb1) (HT.out.below hb1))
  clear hb1 CC
  go_wp2_with fail
  refine CAt.out.mono ?_
  rintro e w2 ⟨rfl, hb2⟩
  have HB2 := hide (HB1.out.trans (hb2.mono HB1.out.size))
  have CP := hide (hpath_any (HA.out.below HB2.out) (HT.out.below HB2.out))
  clear hb2 CAt HB1
  simp only [atV]
  go_wp2_with fail
  refine CP.out.mono ?_
  rintro e w3 ⟨rfl, hb3⟩
  have HB3 := hide (HB2.out.trans (hb3.mono HB2.out.size))
  clear hb3 CP HB2
  simp only [pathV]
  by_cases hk : k = z
  · subst hk
    go_wp2
    go_ret
    exact ⟨by simp, HB3.out⟩
  · go_wp2
    go_ret
    exact ⟨by simp [hk], HB3.out⟩
theorem nilisat {w : World} {j : Int} : Calls Tryd.prog 12 #[.nilIface, .int .i64 0, .int .i64 j] w fun e w' => e = .returned (.bool true) ∧ w' = w := by
  go_enter Tryd.func12, Tryd.ntmps12
  go_wp2
  go_ret
  exact ⟨rfl, rfl⟩
theorem nilisatB {w : World} {j : Int} : Calls Tryd.prog 12 #[.nilIface, .int .i64 0, .int .i64 j] w fun e w' => e = .returned (.bool true) ∧ Below w.heap.size w w' :=
  nilisat.mono fun e w' ⟨h, g⟩ => ⟨h, g ▸ Below.refl _ _⟩
theorem argis {w : World} {a : Nat → Addr} (hS : Snt w a) : Calls Tryd.prog 11 #[.iface 102 (.pointer (some (a 0))), .int .i64 1] w fun e w' => e = .returned (.bool true) ∧ Below w.heap.size w w' := by
  have CC := hide (hcode_any hS (errIs_snt hS (m := 0) (by omega)))
  rw [hcB_dec, if_pos (by omega)] at CC
  clear hS
  go_enter Tryd.func11, Tryd.ntmps11
  go_wp2_with fail
  refine CC.out.mono ?_
  rintro e w1 ⟨rfl, hb1⟩
  go_wp2
  go_ret
  exact ⟨rfl, hb1⟩

end Go.Proofs.YtgblakfcplphjaaDoor
