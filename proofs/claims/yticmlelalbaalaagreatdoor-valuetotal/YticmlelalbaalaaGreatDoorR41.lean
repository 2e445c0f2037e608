/- FEr, HdE -/
import Derived.Test.YticmlelalbaalaaGreatDoorR40
import Derived.Deep.RegionHeld3
import Derived.Lib.Bytealg
namespace Go.Proofs.YticmlelalbaalaaGreatDoor
open Go.RowKit
set_option linter.unusedVariables false

/-- an error that is not nil: which of the eleven it is, and the place that it tells -/
def Er (w : World) (a : Nat → Addr) (v : Value) (b : Nat → Bool) (o : Option (Int × ByteArray)) : Prop :=
  ∃ u x r, v = .iface u x ∧ ErrIs w a u x b ∧ AsIs w u x r ∧ Told w r o
theorem Er.below {w w' : World} {a : Nat → Addr} {v : Value} {b : Nat → Bool} {o : Option (Int × ByteArray)} (h : Er w a v b o) (hb : Below w.heap.size w w') : Er w' a v b o := by
  obtain ⟨u, x, r, rfl, h1, h2, h3⟩ := h
  exact ⟨u, x, r, rfl, h1.below hb, h2.below hb, h3.below hb⟩
theorem er_flt {w : World} {a : Nat → Addr} (hS : Snt w a) (hH : Hnd w) {g m : Nat} {k : Int} {s : ByteArray} (hm : m < 12) (hg : FltAt w g (.iface 267 (.pointer (some (a m)))) k s) :
    Er w a (.iface 62 (.pointer (some ⟨g, 0, none⟩))) (fun i => decide (i = m)) (some (k, s)) :=
  ⟨_, _, _, rfl, errIs_flt hS hm hg, asIs_flt hH, Or.inr ⟨g, _, k, s, rfl, rfl, hg, Or.inr ⟨_, _, rfl⟩⟩⟩

theorem new_at {w : World} {o : Obj} {n : Nat} (h : n = w.heap.size) : (w.alloc o).heap[n]? = some o := h ▸ heap_alloc_new w o

/-- what is ahead of a path where there is none -/
def oA (o : Option (Int × ByteArray)) : Int := match o with | none => 0 | some q => q.1
def oS (o : Option (Int × ByteArray)) : ByteArray := match o with | none => ⟨#[]⟩ | some q => q.2

theorem fin_nil {w : World} {s : ByteArray} : Calls Tryz.prog 72 #[.nilIface, .string s] w fun e w' => e = .returned .nilIface ∧ w' = w := by
  go_enter Tryz.func72, Tryz.ntmps72
  go_wp2
  go_ret
  exact ⟨rfl, rfl⟩

/-- a step as it is written -/
def WrIs (w0 : World) (s t : ByteArray) : Prop := ∀ w, Below w0.heap.size w0 w → Calls Tryz.prog 115 #[.string s] w fun e w' => e = .returned (.string t) ∧ Below w.heap.size w w'

set_option maxHeartbeats 4000000 in
set_option maxRecDepth 100000 in
theorem fin_any {w : World} {a : Nat → Addr} {v : Value} {b : Nat → Bool} {o : Option (Int × ByteArray)} {z t : ByteArray} (hS : Snt w a) (hE : Er w a v b o) (hW : WrIs w z t) (hL : t.size + (oS o).size ≤ 9223372036854775807) :
    Calls Tryz.prog 72 #[v, .string z] w fun e w' => ∃ g, w.heap.size ≤ g ∧ e = .returned (.iface 62 (.pointer (some ⟨g, 0, none⟩))) ∧ FltAt w' g (.iface 267 (.pointer (some (a (bareN b))))) (oA o) (t ++ oS o) ∧ Below w.heap.size w w' := by
  obtain ⟨u, x, r, rfl, h1, h2, h3⟩ := hE
  have HF := hide (found_any h2 h3)
  have HE := hide h1
  have HS := hide hS
  have HW := hide hW
  obtain ⟨k, hk⟩ : ∃ k, k = oA o := ⟨_, rfl⟩
  obtain ⟨s, hs⟩ : ∃ s, s = oS o := ⟨_, rfl⟩
  rw [← hk, ← hs]
  rw [← hs] at hL
  have q1 : ¬ ((9223372036854775807 : Int) < (t.size : Int) + (s.size : Int)) := by omega
  have q2 : (t.size : Int) + (s.size : Int) ≤ 9223372036854775807 := by omega
  have q3 : ¬ (9223372036854775807 < t.size + s.size) := by omega
  clear hS h1 h2 h3 hW
  go_enter Tryz.func72, Tryz.ntmps72
  go_wp2_with fail
  refine HF.out.mono ?_
  rintro e w1 ⟨⟨v, rfl, hv⟩, hb⟩
  obtain ⟨v, bo, hfv, hv⟩ : ∃ (v' : Value) (bo : Bool), fndV o v = .tuple #[.agg #[v', .int .i64 k, .string s], .bool bo] ∧ (v' = .nilIface ∨ ∃ u x, v' = .iface u x) := by
    rw [hk, hs]
    cases o with
    | none => exact ⟨_, _, rfl, Or.inl rfl⟩
    | some q => exact ⟨_, _, rfl, hv⟩
  rw [hfv]
  clear hfv hk hs
  have K1 := hide (hb.alloc hb.size (.cells #[v, .int .i64 k, .string s] 65))
  have HN := hide (heap_alloc_new w1 (.cells #[v, .int .i64 k, .string s] 65))
  have HB := hide (fun (u0 : World) (hu : Below (w1.alloc (.cells #[v, .int .i64 k, .string s] 65)).heap.size (w1.alloc (.cells #[v, .int .i64 k, .string s] 65)) u0) => bare_any ((HS.out.below K1.out).below hu) ((HE.out.below K1.out).below hu))
  have hsz := hb.size
  clear hb HF HE HS
  rcases hv with rfl | ⟨vu, vx, rfl⟩
  · go_wp2_with fail
    generalize w1.alloc (.cells #[.nilIface, .int .i64 k, .string s] 65) = W at *
    have CC : ∀ u : World, Below W.heap.size W u → u.cell? ⟨w1.heap.size, 1, none⟩ = some (.int .i64 k) ∧ u.cell? ⟨w1.heap.size, 2, none⟩ = some (.string s) := fun u hu => by
      have hg := HN.out
      rw [← hu.block _ (Array.getElem?_eq_some_iff.1 hg).1] at hg
      exact ⟨(Lib.cell_of_heap hg 1).trans rfl, (Lib.cell_of_heap hg 2).trans rfl⟩
    have K : Below W.heap.size W W.drew := (Below.refl _ _).drew
    clear HN
    go_region_held3 (fun u => u.cell? ⟨w1.heap.size, 1, none⟩ = some (.int .i64 k) ∧ u.cell? ⟨w1.heap.size, 2, none⟩ = some (.string s)) (first | with_reducible exact CC _ K | with_reducible exact CC _ (Below.alloc K K.size _))
      (first
        | (go_at_call 114; (refine (HB.out _ K).mono ?_); rintro e w2 ⟨rfl, hb2⟩; replace K := K.trans (hb2.mono K.size))
        | (go_at_call 115; (refine (HW.out _ (K1.out.trans (K.mono K1.out.size))).mono ?_); rintro e w3 ⟨rfl, hb3⟩; replace K := K.trans (hb3.mono K.size)))
    have hk := K1.out.size
    have hk2 := K.size
    have KZ := hide (K1.out.trans (K.mono hk))
    clear CC
    go_wp2
    go_ret
    exact ⟨w3.heap.size, by omega, rfl, new_at rfl, KZ.out.alloc (by omega) _⟩
  · go_wp2_with fail
    generalize w1.alloc (.cells #[.iface vu vx, .int .i64 k, .string s] 65) = W at *
    have CC : ∀ u : World, Below W.heap.size W u → u.cell? ⟨w1.heap.size, 1, none⟩ = some (.int .i64 k) ∧ u.cell? ⟨w1.heap.size, 2, none⟩ = some (.string s) := fun u hu => by
      have hg := HN.out
      rw [← hu.block _ (Array.getElem?_eq_some_iff.1 hg).1] at hg
      exact ⟨(Lib.cell_of_heap hg 1).trans rfl, (Lib.cell_of_heap hg 2).trans rfl⟩
    have K : Below W.heap.size W W.drew := (Below.refl _ _).drew
    clear HN
    go_region_held3 (fun u => u.cell? ⟨w1.heap.size, 1, none⟩ = some (.int .i64 k) ∧ u.cell? ⟨w1.heap.size, 2, none⟩ = some (.string s)) (first | with_reducible exact CC _ K | with_reducible exact CC _ (Below.alloc K K.size _))
      (first
        | (go_at_call 114; (refine (HB.out _ K).mono ?_); rintro e w2 ⟨rfl, hb2⟩; replace K := K.trans (hb2.mono K.size))
        | (go_at_call 115; (refine (HW.out _ (K1.out.trans (K.mono K1.out.size))).mono ?_); rintro e w3 ⟨rfl, hb3⟩; replace K := K.trans (hb3.mono K.size)))
    have hk := K1.out.size
    have hk2 := K.size
    have KZ := hide (K1.out.trans (K.mono hk))
    clear CC
    go_wp2
    go_ret
    exact ⟨w3.heap.size, by omega, rfl, new_at rfl, KZ.out.alloc (by omega) _⟩

end Go.Proofs.YticmlelalbaalaaGreatDoor

namespace Go.Proofs.YticmlelalbaalaaGreatDoor
open Go.RowKit
set_option linter.unusedVariables false

/-- a fault of the third kind at a place -/
def Flt3 (w : World) (a : Nat → Addr) (k : Int) (v : Value) : Prop := ∃ g, v = .iface 62 (.pointer (some ⟨g, 0, none⟩)) ∧ FltAt w g (.iface 267 (.pointer (some (a 2)))) k ⟨#[]⟩
theorem Flt3.below {w w' : World} {a : Nat → Addr} {k : Int} {v : Value} (h : Flt3 w a k v) (hb : Below w.heap.size w w') : Flt3 w' a k v := by
  obtain ⟨g, h1, h2⟩ := h
  exact ⟨g, h1, h2.below hb⟩
theorem Flt3.er {w : World} {a : Nat → Addr} {k : Int} {v : Value} (h : Flt3 w a k v) (hS : Snt w a) (hH : Hnd w) :
    ∃ u x r, v = .iface u x ∧ ErrIs w a u x (fun i => decide (i = 2)) ∧ AsIs w u x r ∧ Told w r (some (k, ⟨#[]⟩)) := by
  obtain ⟨g, rfl, h2⟩ := h
  exact er_flt hS hH (m := 2) (by omega) h2
theorem f3code {w : World} {a : Nat → Addr} {k : Int} {v : Value} (h : Flt3 w a k v) (hS : Snt w a) (hH : Hnd w) :
    Calls Tryz.prog 16 #[v] w fun e w' => e = .returned (.int .i64 3) ∧ Below w.heap.size w w' := by
  obtain ⟨u, x, r, rfl, h1, h2, h3⟩ := h.er hS hH
  refine (hcode_any hS h1).mono ?_
  rintro e w' ⟨rfl, hb⟩
  refine ⟨?_, hb⟩
  rw [hcB_dec, if_pos (by omega)]
  rfl
theorem f3at {w : World} {a : Nat → Addr} {k : Int} {v : Value} (h : Flt3 w a k v) (hS : Snt w a) (hH : Hnd w) :
    Calls Tryz.prog 45 #[v] w fun e w' => e = .returned (.tuple #[.int .i64 k, .bool true]) ∧ Below w.heap.size w w' := by
  obtain ⟨u, x, r, rfl, h1, h2, h3⟩ := h.er hS hH
  exact hat_any h2 h3
theorem f3isat {w : World} {a : Nat → Addr} {k : Int} {v : Value} (z : Int) (h : Flt3 w a k v) (hS : Snt w a) (hH : Hnd w) :
    Calls Tryz.prog 40 #[v, .int .i64 3, .int .i64 z] w fun e w' => e = .returned (.bool (decide (k = z))) ∧ Below w.heap.size w w' := by
  have CC := hide (f3code h hS hH)
  obtain ⟨u, x, r, rfl, h1, h2, h3⟩ := h.er hS hH
  have HA := hide h2
  have HT := hide h3
  clear h h1 h2 h3 hS hH
  go_enter Tryz.func40, Tryz.ntmps40
  go_wp2_with fail
  refine CC.out.mono ?_
  rintro e w1 ⟨rfl, hb1⟩
  have HB1 := hide hb1
  have CAt := hide (hat_any (HA.out.below hb1) (HT.out.below hb1))
  clear hb1 CC
  go_wp2_with fail
  refine CAt.out.mono ?_
  rintro e w2 ⟨rfl, hb2⟩
  have HB2 := hide (HB1.out.trans (hb2.mono HB1.out.size))
  have CP := hide (hpath_any (HA.out.below HB2.out) (HT.out.below HB2.out))
  clear hb2 CAt HB1
  simp only [atV]
  go_wp2_with fail
  refine CP.out.mono ?_
  rintro e w3 ⟨rfl, hb3⟩
  have HB3 := hide (HB2.out.trans (hb3.mono HB2.out.size))
  clear hb3 CP HB2
  simp only [pathV]
  by_cases hk : k = z
  · subst hk
    go_wp2
    go_ret
    exact ⟨by simp, HB3.out⟩
  · go_wp2
    go_ret
    exact ⟨by simp [hk], HB3.out⟩
theorem nilisat {w : World} {j : Int} : Calls Tryz.prog 40 #[.nilIface, .int .i64 0, .int .i64 j] w fun e w' => e = .returned (.bool true) ∧ w' = w := by
  go_enter Tryz.func40, Tryz.ntmps40
  go_wp2
  go_ret
  exact ⟨rfl, rfl⟩
theorem nilisatB {w : World} {j : Int} : Calls Tryz.prog 40 #[.nilIface, .int .i64 0, .int .i64 j] w fun e w' => e = .returned (.bool true) ∧ Below w.heap.size w w' :=
  nilisat.mono fun e w' ⟨h, g⟩ => ⟨h, g ▸ Below.refl _ _⟩

end Go.Proofs.YticmlelalbaalaaGreatDoor
