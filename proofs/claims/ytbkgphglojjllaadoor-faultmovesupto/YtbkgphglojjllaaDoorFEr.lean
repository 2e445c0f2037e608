/- an error: what it is, its place; New, Shift, In; tells, has -/
import Derived.Test.YtbkgphglojjllaaDoorFTell
import Derived.Deep.RegionHeld3
import Derived.Lib.Bytealg
namespace Go.Proofs.YtbkgphglojjllaaDoor
open Go.RowKit
set_option linter.unusedVariables false

/-- an error that is not nil: which of the eleven it is, and the place that it tells -/
def Er (w : World) (a : Nat → Addr) (v : Value) (b : Nat → Bool) (o : Option (Int × ByteArray)) : Prop :=
  ∃ u x r, v = .iface u x ∧ ErrIs w a u x b ∧ AsIs w u x r ∧ Told w r o
theorem Er.below {w w' : World} {a : Nat → Addr} {v : Value} {b : Nat → Bool} {o : Option (Int × ByteArray)} (h : Er w a v b o) (hb : Below w.heap.size w w') : Er w' a v b o := by
  obtain ⟨u, x, r, rfl, h1, h2, h3⟩ := h
  exact ⟨u, x, r, rfl, h1.below hb, h2.below hb, h3.below hb⟩
theorem er_flt {w : World} {a : Nat → Addr} (hS : Snt w a) (hH : Hnd w) {g m : Nat} {k : Int} {s : ByteArray} (hm : m < 12) (hg : FltAt w g (.iface 95 (.pointer (some (a m)))) k s) :
    Er w a (.iface 41 (.pointer (some ⟨g, 0, none⟩))) (fun i => decide (i = m)) (some (k, s)) :=
  ⟨_, _, _, rfl, errIs_flt hS hm hg, asIs_flt hH, Or.inr ⟨g, _, k, s, rfl, rfl, hg, Or.inr ⟨_, _, rfl⟩⟩⟩

theorem new_at {w : World} {o : Obj} {n : Nat} (h : n = w.heap.size) : (w.alloc o).heap[n]? = some o := h ▸ heap_alloc_new w o
theorem fnew_none {w : World} {a : Nat → Addr} {c k : Int} {s : ByteArray} (hS : Snt w a) (hc : c < 1 ∨ 11 < c) :
    Calls Tryd.prog 15 #[.int .i64 c, .int .i64 k, .string s] w fun e w' => e = .returned .nilIface ∧ Below w.heap.size w w' := by
  have HN := hide (numbered_any hS)
  clear hS
  go_enter Tryd.func15, Tryd.ntmps15
  go_wp2_with fail
  refine HN.out.mono ?_
  rintro e w1 ⟨rfl, hb1⟩
  have K1 := hide (hb1.alloc hb1.size (.cells #[sE a 0, sE a 1, sE a 2, sE a 3, sE a 4, sE a 5, sE a 6, sE a 7, sE a 8, sE a 9, sE a 10] 78))
  simp only [sE] at K1
  clear hb1 HN
  simp only [sAgg, sE]
  rcases hc with h | h
  · go_wp2
    go_ret
    exact ⟨rfl, K1.out⟩
  · have h2 : ¬ c < 1 := by omega
    go_wp2
    go_ret
    exact ⟨rfl, K1.out⟩
set_option maxRecDepth 100000 in
theorem fnew_some {w : World} {a : Nat → Addr} {m : Nat} {k : Int} {s : ByteArray} (hS : Snt w a) (hm : m < 11) :
    Calls Tryd.prog 15 #[.int .i64 ((m : Int) + 1), .int .i64 k, .string s] w fun e w' => ∃ g, w.heap.size ≤ g ∧ e = .returned (.iface 41 (.pointer (some ⟨g, 0, none⟩))) ∧ FltAt w' g (.iface 95 (.pointer (some (a m)))) k s ∧ Below w.heap.size w w' := by
  have HN := hide (numbered_any hS)
  clear hS
  have p1 : ¬ ((m : Int) + 1 < 1) := by omega
  have p2 : ¬ (11 < (m : Int) + 1) := by omega
  have p3 : (m : Int) + 1 - 1 = m := by omega
  have p4 : (0 : Int) ≤ (m : Int) := by omega
  have p5 : (m : Int) < 11 := by omega
  go_enter Tryd.func15, Tryd.ntmps15
  go_wp2_with fail
  refine HN.out.mono ?_
  rintro e w1 ⟨rfl, hb1⟩
  have K1 := hide (hb1.alloc hb1.size (.cells #[sE a 0, sE a 1, sE a 2, sE a 3, sE a 4, sE a 5, sE a 6, sE a 7, sE a 8, sE a 9, sE a 10] 78))
  have HC := hide (show (w1.alloc (.cells #[sE a 0, sE a 1, sE a 2, sE a 3, sE a 4, sE a 5, sE a 6, sE a 7, sE a 8, sE a 9, sE a 10] 78)).cell? ⟨w1.heap.size, m, none⟩ = some (.iface 95 (.pointer (some (a m)))) from by
    rw [Lib.cell_of_heap (heap_alloc_new w1 _)]
    rcases (by omega : m = 0 ∨ m = 1 ∨ m = 2 ∨ m = 3 ∨ m = 4 ∨ m = 5 ∨ m = 6 ∨ m = 7 ∨ m = 8 ∨ m = 9 ∨ m = 10) with rfl | rfl | rfl | rfl | rfl | rfl | rfl | rfl | rfl | rfl | rfl <;> rfl)
  have hsz := hb1.size
  simp only [sE] at K1 HC
  clear hb1 HN
  simp only [sAgg, sE]
  have hc := HC.out
  clear HC
  go_wp2
  go_ret
  exact ⟨w1.heap.size + 1, by omega, rfl, new_at (by simp), K1.out.alloc (by simp; omega) _⟩

/-- what is ahead of a path where there is none -/
def oA (o : Option (Int × ByteArray)) : Int := match o with | none => 0 | some q => q.1
def oS (o : Option (Int × ByteArray)) : ByteArray := match o with | none => ⟨#[]⟩ | some q => q.2

theorem fshift_nil {w : World} {k : Int} : Calls Tryd.prog 18 #[.nilIface, .int .i64 k] w fun e w' => e = .returned .nilIface ∧ w' = w := by
  go_enter Tryd.func18, Tryd.ntmps18
  go_wp2
  go_ret
  exact ⟨rfl, rfl⟩
theorem fin_nil {w : World} {s : ByteArray} : Calls Tryd.prog 19 #[.nilIface, .string s] w fun e w' => e = .returned .nilIface ∧ w' = w := by
  go_enter Tryd.func19, Tryd.ntmps19
  go_wp2
  go_ret
  exact ⟨rfl, rfl⟩
theorem fshift_bare {w : World} {a : Nat → Addr} {v : Value} {b : Nat → Bool} {k : Int} (hS : Snt w a) (hE : Er w a v b none) :
    Calls Tryd.prog 18 #[v, .int .i64 k] w fun e w' => e = .returned (.iface 95 (.pointer (some (a (bareN b))))) ∧ Below w.heap.size w w' := by
  obtain ⟨u, x, r, rfl, h1, h2, h3⟩ := hE
  have HF := hide (found_any h2 h3)
  have HE := hide h1
  have HS := hide hS
  clear hS h1 h2 h3
  go_enter Tryd.func18, Tryd.ntmps18
  go_wp2_with fail
  refine HF.out.mono ?_
  rintro e w1 ⟨⟨v, rfl, hv⟩, hb⟩
  simp only [fndV]
  have K1 := hide (hb.alloc hb.size (.cells #[.nilIface, .int .i64 0, .string ⟨#[]⟩] 45))
  have HB := hide (bare_any (HS.out.below K1.out) (HE.out.below K1.out))
  clear hb HF
  go_wp2_with fail
  refine HB.out.mono ?_
  rintro e w2 ⟨rfl, hb2⟩
  have K2 := hide (K1.out.trans (hb2.mono K1.out.size))
  clear hb2 HB
  go_wp2
  go_ret
  exact ⟨rfl, K2.out⟩
set_option maxHeartbeats 4000000 in
set_option maxRecDepth 100000 in
theorem fshift_some {w : World} {a : Nat → Addr} {v : Value} {b : Nat → Bool} {k n : Int} {s : ByteArray} (hS : Snt w a) (hE : Er w a v b (some (k, s))) :
    Calls Tryd.prog 18 #[v, .int .i64 n] w fun e w' => ∃ g, w.heap.size ≤ g ∧ e = .returned (.iface 41 (.pointer (some ⟨g, 0, none⟩))) ∧ FltAt w' g (.iface 95 (.pointer (some (a (bareN b))))) (IntKind.i64.wrap (k + n)) s ∧ Below w.heap.size w w' := by
  obtain ⟨u, x, r, rfl, h1, h2, h3⟩ := hE
  have HF := hide (found_any h2 h3)
  have HE := hide h1
  have HS := hide hS
  clear hS h1 h2 h3
  go_enter Tryd.func18, Tryd.ntmps18
  go_wp2_with fail
  refine HF.out.mono ?_
  rintro e w1 ⟨⟨v, rfl, hv⟩, hb⟩
  simp only [fndV]
  have K1 := hide (hb.alloc hb.size (.cells #[v, .int .i64 k, .string s] 45))
  have HN := hide (heap_alloc_new w1 (.cells #[v, .int .i64 k, .string s] 45))
  have HB := hide (fun (u0 : World) (hu : Below (w1.alloc (.cells #[v, .int .i64 k, .string s] 45)).heap.size (w1.alloc (.cells #[v, .int .i64 k, .string s] 45)) u0) => bare_any ((HS.out.below K1.out).below hu) ((HE.out.below K1.out).below hu))
  have hsz := hb.size
  clear hb HF HE HS
  rcases hv with rfl | ⟨vu, vx, rfl⟩
  · go_wp2_with fail
    generalize w1.alloc (.cells #[.nilIface, .int .i64 k, .string s] 45) = W at *
    have CC : ∀ u : World, Below W.heap.size W u → u.cell? ⟨w1.heap.size, 1, none⟩ = some (.int .i64 k) ∧ u.cell? ⟨w1.heap.size, 2, none⟩ = some (.string s) := fun u hu => by
      have hg := HN.out
      rw [← hu.block _ (Array.getElem?_eq_some_iff.1 hg).1] at hg
      exact ⟨(Lib.cell_of_heap hg 1).trans rfl, (Lib.cell_of_heap hg 2).trans rfl⟩
    have K : Below W.heap.size W W.drew := (Below.refl _ _).drew
    clear HN
    go_region_held3 (fun u => u.cell? ⟨w1.heap.size, 1, none⟩ = some (.int .i64 k) ∧ u.cell? ⟨w1.heap.size, 2, none⟩ = some (.string s)) (first | with_reducible exact CC _ K | with_reducible exact CC _ (Below.alloc K K.size _))
      (first
        | (go_at_call 41; (refine (HB.out _ K).mono ?_); rintro e w2 ⟨rfl, hb2⟩; replace K := K.trans (hb2.mono K.size)))
    have hk := K1.out.size
    have hk2 := K.size
    have KZ := hide (K1.out.trans (K.mono hk))
    clear CC
    go_wp2
    go_ret
    exact ⟨w2.heap.size, by omega, rfl, new_at rfl, KZ.out.alloc (by omega) _⟩
  · go_wp2_with fail
    generalize w1.alloc (.cells #[.iface vu vx, .int .i64 k, .string s] 45) = W at *
    have CC : ∀ u : World, Below W.heap.size W u → u.cell? ⟨w1.heap.size, 1, none⟩ = some (.int .i64 k) ∧ u.cell? ⟨w1.heap.size, 2, none⟩ = some (.string s) := fun u hu => by
      have hg := HN.out
      rw [← hu.block _ (Array.getElem?_eq_some_iff.1 hg).1] at hg
      exact ⟨(Lib.cell_of_heap hg 1).trans rfl, (Lib.cell_of_heap hg 2).trans rfl⟩
    have K : Below W.heap.size W W.drew := (Below.refl _ _).drew
    clear HN
    go_region_held3 (fun u => u.cell? ⟨w1.heap.size, 1, none⟩ = some (.int .i64 k) ∧ u.cell? ⟨w1.heap.size, 2, none⟩ = some (.string s)) (first | with_reducible exact CC _ K | with_reducible exact CC _ (Below.alloc K K.size _))
      (first
        | (go_at_call 41; (refine (HB.out _ K).mono ?_); rintro e w2 ⟨rfl, hb2⟩; replace K := K.trans (hb2.mono K.size)))
    have hk := K1.out.size
    have hk2 := K.size
    have KZ := hide (K1.out.trans (K.mono hk))
    clear CC
    go_wp2
    go_ret
    exact ⟨w2.heap.size, by omega, rfl, new_at rfl, KZ.out.alloc (by omega) _⟩
/-- a step as it is written -/
def WrIs (w0 : World) (s t : ByteArray) : Prop := ∀ w, Below w0.heap.size w0 w → Calls Tryd.prog 42 #[.string s] w fun e w' => e = .returned (.string t) ∧ Below w.heap.size w w'
set_option maxHeartbeats 4000000 in
set_option maxRecDepth 100000 in
theorem fin_any {w : World} {a : Nat → Addr} {v : Value} {b : Nat → Bool} {o : Option (Int × ByteArray)} {z t : ByteArray} (hS : Snt w a) (hE : Er w a v b o) (hW : WrIs w z t) (hL : t.size + (oS o).size ≤ 9223372036854775807) :
    Calls Tryd.prog 19 #[v, .string z] w fun e w' => ∃ g, w.heap.size ≤ g ∧ e = .returned (.iface 41 (.pointer (some ⟨g, 0, none⟩))) ∧ FltAt w' g (.iface 95 (.pointer (some (a (bareN b))))) (oA o) (t ++ oS o) ∧ Below w.heap.size w w' := by
  obtain ⟨u, x, r, rfl, h1, h2, h3⟩ := hE
  have HF := hide (found_any h2 h3)
  have HE := hide h1
  have HS := hide hS
  have HW := hide hW
  obtain ⟨k, hk⟩ : ∃ k, k = oA o := ⟨_, rfl⟩
  obtain ⟨s, hs⟩ : ∃ s, s = oS o := ⟨_, rfl⟩
  rw [← hk, ← hs]
  rw [← hs] at hL
  have q1 : ¬ ((9223372036854775807 : Int) < (t.size : Int) + (s.size : Int)) := by omega
  have q2 : (t.size : Int) + (s.size : Int) ≤ 9223372036854775807 := by omega
  have q3 : ¬ (9223372036854775807 < t.size + s.size) := by omega
  clear hS h1 h2 h3 hW
  go_enter Tryd.func19, Tryd.ntmps19
  go_wp2_with fail
  refine HF.out.mono ?_
  rintro e w1 ⟨⟨v, rfl, hv⟩, hb⟩
  obtain ⟨v, bo, hfv, hv⟩ : ∃ (v' : Value) (bo : Bool), fndV o v = .tuple #[.agg #[v', .int .i64 k, .string s], .bool bo] ∧ (v' = .nilIface ∨ ∃ u x, v' = .iface u x) := by
    rw [hk, hs]
    cases o with
    | none => exact ⟨_, _, rfl, Or.inl rfl⟩
    | some q => exact ⟨_, _, rfl, hv⟩
  rw [hfv]
  clear hfv hk hs
  have K1 := hide (hb.alloc hb.size (.cells #[v, .int .i64 k, .string s] 45))
  have HN := hide (heap_alloc_new w1 (.cells #[v, .int .i64 k, .string s] 45))
  have HB := hide (fun (u0 : World) (hu : Below (w1.alloc (.cells #[v, .int .i64 k, .string s] 45)).heap.size (w1.alloc (.cells #[v, .int .i64 k, .string s] 45)) u0) => bare_any ((HS.out.below K1.out).below hu) ((HE.out.below K1.out).below hu))
  have hsz := hb.size
  clear hb HF HE HS
  rcases hv with rfl | ⟨vu, vx, rfl⟩
  · go_wp2_with fail
    generalize w1.alloc (.cells #[.nilIface, .int .i64 k, .string s] 45) = W at *
    have CC : ∀ u : World, Below W.heap.size W u → u.cell? ⟨w1.heap.size, 1, none⟩ = some (.int .i64 k) ∧ u.cell? ⟨w1.heap.size, 2, none⟩ = some (.string s) := fun u hu => by
      have hg := HN.out
      rw [← hu.block _ (Array.getElem?_eq_some_iff.1 hg).1] at hg
      exact ⟨(Lib.cell_of_heap hg 1).trans rfl, (Lib.cell_of_heap hg 2).trans rfl⟩
    have K : Below W.heap.size W W.drew := (Below.refl _ _).drew
    clear HN
    go_region_held3 (fun u => u.cell? ⟨w1.heap.size, 1, none⟩ = some (.int .i64 k) ∧ u.cell? ⟨w1.heap.size, 2, none⟩ = some (.string s)) (first | with_reducible exact CC _ K | with_reducible exact CC _ (Below.alloc K K.size _))
      (first
        | (go_at_call 41; (refine (HB.out _ K).mono ?_); rintro e w2 ⟨rfl, hb2⟩; replace K := K.trans (hb2.mono K.size))
        | (go_at_call 42; (refine (HW.out _ (K1.out.trans (K.mono K1.out.size))).mono ?_); rintro e w3 ⟨rfl, hb3⟩; replace K := K.trans (hb3.mono K.size)))
    have hk := K1.out.size
    have hk2 := K.size
    have KZ := hide (K1.out.trans (K.mono hk))
    clear CC
    go_wp2
    go_ret
    exact ⟨w3.heap.size, by omega, rfl, new_at rfl, KZ.out.alloc (by omega) _⟩
  · go_wp2_with fail
    generalize w1.alloc (.cells #[.iface vu vx, .int .i64 k, .string s] 45) = W at *
    have CC : ∀ u : World, Below W.heap.size W u → u.cell? ⟨w1.heap.size, 1, none⟩ = some (.int .i64 k) ∧ u.cell? ⟨w1.heap.size, 2, none⟩ = some (.string s) := fun u hu => by
      have hg := HN.out
      rw [← hu.block _ (Array.getElem?_eq_some_iff.1 hg).1] at hg
      exact ⟨(Lib.cell_of_heap hg 1).trans rfl, (Lib.cell_of_heap hg 2).trans rfl⟩
    have K : Below W.heap.size W W.drew := (Below.refl _ _).drew
    clear HN
    go_region_held3 (fun u => u.cell? ⟨w1.heap.size, 1, none⟩ = some (.int .i64 k) ∧ u.cell? ⟨w1.heap.size, 2, none⟩ = some (.string s)) (first | with_reducible exact CC _ K | with_reducible exact CC _ (Below.alloc K K.size _))
      (first
        | (go_at_call 41; (refine (HB.out _ K).mono ?_); rintro e w2 ⟨rfl, hb2⟩; replace K := K.trans (hb2.mono K.size))
        | (go_at_call 42; (refine (HW.out _ (K1.out.trans (K.mono K1.out.size))).mono ?_); rintro e w3 ⟨rfl, hb3⟩; replace K := K.trans (hb3.mono K.size)))
    have hk := K1.out.size
    have hk2 := K.size
    have KZ := hide (K1.out.trans (K.mono hk))
    clear CC
    go_wp2
    go_ret
    exact ⟨w3.heap.size, by omega, rfl, new_at rfl, KZ.out.alloc (by omega) _⟩

end Go.Proofs.YtbkgphglojjllaaDoor
