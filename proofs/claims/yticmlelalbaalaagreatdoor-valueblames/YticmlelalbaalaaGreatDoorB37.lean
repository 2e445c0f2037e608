import Derived.Test.YticmlelalbaalaaGreatDoorB36
import Derived.Deep.RegionHeld3
import Derived.Lib.Bytealg
namespace Go.Proofs.YticmlelalbaalaaGreatDoor
open Go.RowKit
set_option linter.unusedVariables false
def Er (w : World) (a : Nat → Addr) (v : Value) (b : Nat → Bool) (o : Option (Int × ByteArray)) : Prop :=
  ∃ u x r, v = .iface u x ∧ ErrIs w a u x b ∧ AsIs w u x r ∧ Told w r o
theorem er_flt {w : World} {a : Nat → Addr} (hS : Snt w a) (hH : Hnd w) {g m : Nat} {k : Int} {s : ByteArray} (hm : m < 12) (hg : FltAt w g (.iface 267 (.pointer (some (a m)))) k s) :
    Er w a (.iface 62 (.pointer (some ⟨g, 0, none⟩))) (fun i => decide (i = m)) (some (k, s)) :=
  ⟨_, _, _, rfl, errIs_flt hS hm hg, asIs_flt hH, Or.inr ⟨g, _, k, s, rfl, rfl, hg, Or.inr ⟨_, _, rfl⟩⟩⟩
def oA (o : Option (Int × ByteArray)) : Int := match o with | none => 0 | some q => q.1
def Flt3 (w : World) (a : Nat → Addr) (k : Int) (v : Value) : Prop := ∃ g, v = .iface 62 (.pointer (some ⟨g, 0, none⟩)) ∧ FltAt w g (.iface 267 (.pointer (some (a 2)))) k ⟨#[]⟩
theorem Flt3.er {w : World} {a : Nat → Addr} {k : Int} {v : Value} (h : Flt3 w a k v) (hS : Snt w a) (hH : Hnd w) :
    ∃ u x r, v = .iface u x ∧ ErrIs w a u x (fun i => decide (i = 2)) ∧ AsIs w u x r ∧ Told w r (some (k, ⟨#[]⟩)) := by
  obtain ⟨g, rfl, h2⟩ := h
  exact er_flt hS hH (m := 2) (by omega) h2
theorem f3code {w : World} {a : Nat → Addr} {k : Int} {v : Value} (h : Flt3 w a k v) (hS : Snt w a) (hH : Hnd w) :
    Calls Tryz.prog 16 #[v] w fun e w' => e = .returned (.int .i64 3) ∧ Below w.heap.size w w' := by
  obtain ⟨u, x, r, rfl, h1, h2, h3⟩ := h.er hS hH
  refine (hcode_any hS h1).mono ?_
  rintro e w' ⟨rfl, hb⟩
  refine ⟨?_, hb⟩
  rw [hcB_dec, if_pos (by omega)]
  rfl
theorem f3isat {w : World} {a : Nat → Addr} {k : Int} {v : Value} (z : Int) (h : Flt3 w a k v) (hS : Snt w a) (hH : Hnd w) :
    Calls Tryz.prog 40 #[v, .int .i64 3, .int .i64 z] w fun e w' => e = .returned (.bool (decide (k = z))) ∧ Below w.heap.size w w' := by
  have CC := hide (f3code h hS hH)
  obtain ⟨u, x, r, rfl, h1, h2, h3⟩ := h.er hS hH
  have HA := hide h2
  have HT := hide h3
  clear h h1 h2 h3 hS hH
  go_enter Tryz.func40, Tryz.ntmps40
  go_wp2_with fail
  refine CC.out.mono ?_
  rintro e w1 ⟨rfl, hb1⟩
  have HB1 := hide hb1
  have CAt := hide (hat_any (HA.out.below hb1) (HT.out.below hb1))
  clear hb1 CC
  go_wp2_with fail
  refine CAt.out.mono ?_
  rintro e w2 ⟨rfl, hb2⟩
  have HB2 := hide (HB1.out.trans (hb2.mono HB1.out.size))
  have CP := hide (hpath_any (HA.out.below HB2.out) (HT.out.below HB2.out))
  clear hb2 CAt HB1
  simp only [atV]
  go_wp2_with fail
  refine CP.out.mono ?_
  rintro e w3 ⟨rfl, hb3⟩
  have HB3 := hide (HB2.out.trans (hb3.mono HB2.out.size))
  clear hb3 CP HB2
  simp only [pathV]
  by_cases hk : k = z
  · subst hk
    go_wp2
    go_ret
    exact ⟨by simp, HB3.out⟩
  · go_wp2
    go_ret
    exact ⟨by simp [hk], HB3.out⟩
end Go.Proofs.YticmlelalbaalaaGreatDoor
