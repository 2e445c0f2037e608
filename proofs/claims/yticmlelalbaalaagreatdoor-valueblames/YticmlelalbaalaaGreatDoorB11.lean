import Derived.Test.YticmlelalbaalaaGreatDoorB10
import Derived.Test.YticmlelalbaalaaGreatDoorB02
import Derived.Shelf.Abstract
import Derived.Shelf.RegionOpen
import Derived.OwnWalkIn
import Derived.TacticsInMore
import Derived.LoopNIn
import Derived.LoopIn
namespace Go.Proofs.YticmlelalbaalaaGreatDoor
open Go.RowKit Go.Shelf
set_option linter.unusedVariables false
attribute [local go_sem] Oper.semAt_some
theorem yield_any {n m : Nat} {P : Program} {l : Nat} {args : Array Value} {W : World} {R : Ending → World → Prop} (h : YieldAt Fence.wide n P l args W R) : YieldAt Fence.wide m P l args W R := by
  obtain ⟨fn, tmps, assign, body, h1, h2, h3⟩ := h
  exact ⟨fn, tmps, assign, body, h1, h2, fun c cs _ => h3 c cs (fun d hd => by cases hd)⟩
theorem store_fn {P : Program} {w : World} {a : Addr} {f : Fn} {y : Array Value} {u : Value} (hc : w.cell? a = some u) (hf : w.frozen? a = false) : (store a (.func f #[] y)).run P w = .ok () (w.setCell a (.func f #[] y)) := by
  rw [run_store _ _ _ _ _ rfl, hc, hf]
  rfl
def Bx8 (w : World) (b : Nat) (a0 a1 a2 a3 a4 a5 a6 a7 : Value) : Prop :=
  w.cell? ⟨b, 0, none⟩ = some a0 ∧ w.cell? ⟨b, 1, none⟩ = some a1 ∧ w.cell? ⟨b, 2, none⟩ = some a2 ∧ w.cell? ⟨b, 3, none⟩ = some a3 ∧ w.cell? ⟨b, 4, none⟩ = some a4 ∧ w.cell? ⟨b, 5, none⟩ = some a5 ∧ w.cell? ⟨b, 6, none⟩ = some a6 ∧ w.cell? ⟨b, 7, none⟩ = some a7
theorem bx8_new (w : World) (a0 a1 a2 a3 a4 a5 a6 a7 : Value) (t : Nat) : Bx8 (w.alloc (.cells #[a0, a1, a2, a3, a4, a5, a6, a7] t)) w.heap.size a0 a1 a2 a3 a4 a5 a6 a7 := by
  refine ⟨?_, ?_, ?_, ?_, ?_, ?_, ?_, ?_⟩ <;> (rw [World.cell?_alloc_at _ _ _ _ rfl]; rfl)
theorem Bx8.same {w w' : World} {b : Nat} {a0 a1 a2 a3 a4 a5 a6 a7 : Value} (h : Bx8 w b a0 a1 a2 a3 a4 a5 a6 a7) (hb : w'.heap[b]? = w.heap[b]?) : Bx8 w' b a0 a1 a2 a3 a4 a5 a6 a7 := by
  obtain ⟨h0, h1, h2, h3, h4, h5, h6, h7⟩ := h
  have e : ∀ o, w'.cell? ⟨b, o, none⟩ = w.cell? ⟨b, o, none⟩ := fun o => World.cell?_of_block (w := w) hb
  exact ⟨(e _).trans h0, (e _).trans h1, (e _).trans h2, (e _).trans h3, (e _).trans h4, (e _).trans h5, (e _).trans h6, (e _).trans h7⟩
theorem Bx8.below {w w' : World} {b : Nat} {a0 a1 a2 a3 a4 a5 a6 a7 : Value} (h : Bx8 w b a0 a1 a2 a3 a4 a5 a6 a7) (hb : Below w.heap.size w w') (hl : b < w.heap.size) : Bx8 w' b a0 a1 a2 a3 a4 a5 a6 a7 := h.same (hb.block b hl)
theorem Bx8.lt {w : World} {b : Nat} {a0 a1 a2 a3 a4 a5 a6 a7 : Value} (h : Bx8 w b a0 a1 a2 a3 a4 a5 a6 a7) : b < w.heap.size := by
  rcases Nat.lt_or_ge b w.heap.size with g | g
  · exact g
  · have := h.1
    simp [World.cell?, Array.getElem?_eq_none g] at this
set_option maxRecDepth 100000 in
set_option maxHeartbeats 1000000 in
theorem nodes_any {a0 a1 a2 a3 a4 a5 a6 a7 : Value} {w : World} : Calls Tryz.prog 32 #[.agg #[a0, a1, a2, a3, a4, a5, a6, a7]] w fun e w' => e = .returned (.func (.func 64) #[] #[.pointer (some ⟨w.heap.size, 0, none⟩)]) ∧ w' = w.alloc (.cells #[a0, a1, a2, a3, a4, a5, a6, a7] 31) := by
  go_enter Tryz.func32, Tryz.ntmps32
  go_wp2
  go_ret
  exact ⟨rfl, rfl⟩
abbrev leafEnc (a0 a1 a2 a3 a4 a5 a6 k : Value) (_ : Unit) : Array Value := #[.slice none 0 0, .agg #[a0, a1, a2, a3, a4, a5, a6, k]]
theorem results_cellN {fn : Func} {p : Tmp} {ty : TypeId} (h : fn.results = #[.cell p ty]) (tmps : Array Value) (P : Program) (w : World) :
    (results fn tmps).run P w = ((asAddr (tmps.getD p undef)).run P w).andThen fun a w₁ => (loadVar ty a).run P w₁ := by
  simp only [results, h]
  simp [Sem.run_bind, Result.andThen]
end Go.Proofs.YticmlelalbaalaaGreatDoor
