/- a range over a function whose body is asked only for what the iterator tells: an own law, as layer 15's (NSeq) -/
import Derived.RangeFuncNested
import Derived.RangeFuncBound
import Derived.RangeFuncCalls
import Derived.RangeFuncLeaves
import Derived.RangeFuncBox
import Derived.Test.YtomieeajmelglaaOMrgC
namespace Go.Proofs.Ytomieeajmelglaa
open Go.RowKit
set_option linter.unusedVariables false

theorem bel_grown {A B : World} (h : Below A.heap.size A B) : A.grownBy B none := ⟨h.os, h.tape, h.output, h.size, fun k hk _ => h.block k hk⟩
variable {F : Fence} {n : Nat} {P : Program}
/-- an iterator, and what is known of what it hands to yield -/
def SeqP {α : Type} (F : Fence) (n : Nat) (P : Program) (g : Nat) (lb : Array Value) (encs : α → Array Value) (Kp : World → World → Prop) (Rd : List α → α → Prop) (S Sp : List α → Prop) (w : World) : Prop :=
  ∀ (l : Nat) (J Jx : List α → World → Prop) (W : World), Below w.heap.size w W → AbidesFrom W.heap.size J → AbidesFrom W.heap.size Jx →
    (∀ pre x W1, J pre W1 → Rd pre x → YieldAt F (n - 1) P l (encs x) W1 fun e W' =>
      (e = .returned (.bool true) ∧ J (pre ++ [x]) W' ∧ Kp W1 W') ∨ (e = .returned (.bool false) ∧ Jx (pre ++ [x]) W')) →
    J [] W →
    CallsIn F n P g (#[.func (.yield l) #[] #[]] ++ lb) W fun e W' => (∃ v, e = .returned v) ∧ ((∃ xs, S xs ∧ J xs W') ∨ (∃ pre, Sp pre ∧ Jx pre W'))

theorem wpIn_rangeP {α : Type} {g : Operand} {ps : Array Tmp} {assign body : Code} {Q : Exit → Act → World → Prop} {a : Act} {w : World}
    (hro : F.round = none) (h1 : 1 ≤ n) {gf : Nat} {lb : Array Value} (hg : a.eval g = .func (.func gf) #[] lb) (hFg : F.fn gf) (eg : ∀ args w, (callFunc gf args).run P w = .ok (.enter gf args) w)
    {encs : α → Array Value} {Kp : World → World → Prop} {Rd : List α → α → Prop} {S Sp : List α → Prop} {w0 : World} (hseq : SeqP F (n - 1) P gf lb encs Kp Rd S Sp w0)
    (hKt : ∀ {A B C : World}, Kp A B → Kp B C → Kp A C) (hKb : ∀ (W : World) (l : Nat) (o' : Obj), w.heap.size ≤ l → Kp W (W.putObj l o')) (hKa : ∀ A C : World, Below A.heap.size A C → w.heap.size ≤ A.heap.size → Kp A C) (hb0 : Below w0.heap.size w0 w) (hps : ∀ x, (encs x).size = ps.size)
    (I : List α → World → Prop) (Ix : Code → List α → World → Prop) (hI : OwnFrom w.heap.size I) (hIx : ∀ c, OwnFrom w.heap.size (Ix c)) (h0 : I [] w) (At : α → Act → World → Prop) (hAt : ∀ x a' (A : World) (l : Nat) (r r' : Loop), At x a' A → A.heap[l]? = some (.loop r) → At x a' (A.putObj l (.loop r')))
    (hassign : ∀ (l : Nat) (x : α) (W : World) (K : Act → World → Prop), (∀ a₁ W₁, Below W.heap.size W W₁ → At x a₁ W₁ → K a₁ W₁) →
      assign.wpIn (F.inRound l) (n - 1 - 1) P (Exit.then K (fun _ _ _ => False)) { tmps := (ps.zip (encs x)).foldl (fun t (p, v) => t.setIfInBounds p v) a.tmps, defers := [] } W)
    (hbody : ∀ (l : Nat) (pre : List α) (x : α) (a₁ : Act) (W : World), I pre W → Rd pre x → At x a₁ W → w.heap.size ≤ W.heap.size → body.wpIn (F.inRound l) (n - 1 - 1) P (ownPostG w.heap.size Kp I Ix (pre ++ [x]) W) a₁ W)
    (hdone : ∀ (D : Nat) (xs : List α) (W : World), w.heap.size ≤ D → S xs → I xs W → W.heap[D]? = some (.deferred (some [])) → Q .normal { a with defers := { target := .collected D, args := #[] } :: a.defers } W)
    (hstop : ∀ (D : Nat) (c : Code) (pre : List α) (W : World), w.heap.size ≤ D → Sp pre → Ix c pre W → W.heap[D]? = some (.deferred (some [])) → c.wpIn F n P Q { a with defers := { target := .collected D, args := #[] } :: a.defers } W) :
    (Code.rangeFunc g ps assign body).wpIn F n P Q a w := by
  refine wpIn_rangeFunc fun fn hfn => ?_
  rw [hro]
  have go : ∃ W1 : World, ∃ r0 : Loop, (Instr.enterLoop fn a.tmps ps assign body none).run P w = .ok (w.heap.size + 1, [{ target := .collected w.heap.size, args := #[] }]) W1 ∧ Below w.heap.size w W1 ∧ W1.heap.size = w.heap.size + 2 ∧
      W1.heap[w.heap.size + 1]? = some (.loop r0) ∧ W1.heap[w.heap.size]? = some (.deferred (some [])) ∧ r0.state = .ready ∧ r0.pending = none ∧ r0.fn = fn ∧ r0.tmps = a.tmps ∧ r0.params = ps ∧ r0.assign = assign ∧ r0.body = body := by
    refine ⟨_, { state := .ready, pending := none, fn, tmps := a.tmps, params := ps, assign, body, defers := w.heap.size }, run_enterLoop_outer _ _ _ _ _, ((Below.refl _ w).alloc (Nat.le_refl _) _).alloc (by simp) _, by simp, ?_, ?_, rfl, rfl, rfl, rfl, rfl, rfl, rfl⟩
    · have := World.alloc_heap_new (w.alloc (.deferred (some []))) (.loop { state := .ready, pending := none, fn, tmps := a.tmps, params := ps, assign, body, defers := w.heap.size })
      rwa [World.size_alloc] at this
    · exact (Below.heap_alloc _ _ _ (by simp)).trans (World.alloc_heap_new w _)
  obtain ⟨W1, r0, hen, hB1, hsz, hL, hD, e1, e2, e3, e4, e5, e6, e7⟩ := go
  have isg : ∀ {pre : List α} {A B : World}, I pre A → Below A.heap.size A B → I pre B := fun h hb => hI _ _ _ none h (bel_grown hb) (fun r e => by cases e)
  have ipt : ∀ {pre : List α} {A : World} {r : Loop} (r' : Loop), I pre A → A.heap[w.heap.size + 1]? = some (.loop r) → I pre (A.putObj (w.heap.size + 1) (.loop r')) := fun r' h hl => hI.putObj _ h (by omega) hl rfl
  have xpt : ∀ {c : Code} {pre : List α} {A : World} {r : Loop} (r' : Loop), Ix c pre A → A.heap[w.heap.size + 1]? = some (.loop r) → Ix c pre (A.putObj (w.heap.size + 1) (.loop r')) := fun r' h hl => (hIx _).putObj _ h (by omega) hl rfl
  refine ⟨w.heap.size + 1, [{ target := .collected w.heap.size, args := #[] }], W1, { target := .fn (.func gf) lb, args := #[.func (.yield (w.heap.size + 1)) #[] #[]] }, W1, gf, #[.func (.yield (w.heap.size + 1)) #[] #[]] ++ lb, W1, hen, ?_, ?_, ?_, fun _ => h1, ?_⟩
  · simp only [resolve, hg]
    simp [go_sem]
  · intro f' hf'
    simp [Target.leads] at hf'
    subst hf'
    exact hFg
  · simp [invoke, go_sem, eg]
  have nr : ∀ {A B : World} {row : Option Nat} {k : Nat}, A.grownBy B row → (∀ r, row = some r → W1.heap.size ≤ r ∧ ∃ o : Obj, A.heap[r]? = some o ∧ o.isWalk = true) → k < A.heap.size → k < W1.heap.size → B.heap[k]? = A.heap[k]? := fun hg' hr h2 h3 => hg'.block _ h2 (fun e => by have := (hr _ e.symm).1; omega)
  have hnw : ∀ {A : World} {row : Option Nat}, (∀ r, row = some r → W1.heap.size ≤ r ∧ ∃ o : Obj, A.heap[r]? = some o ∧ o.isWalk = true) → (∀ r, row = some r → w.heap.size ≤ r ∧ ∃ o : Obj, A.heap[r]? = some o ∧ o.isCells = false) := fun hr r e => by
    obtain ⟨hB, o, ho, hw⟩ := hr r e
    exact ⟨by omega, o, ho, Obj.not_cells_of_walk hw⟩
  refine (hseq (w.heap.size + 1) (fun pre W => I pre W ∧ W.heap[w.heap.size + 1]? = some (.loop r0) ∧ W.heap[w.heap.size]? = some (.deferred (some [])))
    (fun pre W => ∃ c r, Ix c pre W ∧ W.heap[w.heap.size + 1]? = some (.loop r) ∧ r.state ≠ .busy ∧ r.pending = some c ∧ W.heap[w.heap.size]? = some (.deferred (some []))) W1 (hb0.trans (hB1.mono hb0.size)) ?_ ?_ ?_ ⟨?_, hL, hD⟩).mono ?_
  · rintro s A B row ⟨hi, hl, hd⟩ hg' hr
    have l1 := (Array.getElem?_eq_some_iff.1 hl).1
    exact ⟨hI s A B row hi hg' (hnw hr), (nr hg' hr l1 (by omega)).trans hl, (nr hg' hr (by omega) (by omega)).trans hd⟩
  · rintro s A B row ⟨c, r, hi, hl, h3, h4, hd⟩ hg' hr
    have l1 := (Array.getElem?_eq_some_iff.1 hl).1
    exact ⟨c, r, hIx c s A B row hi hg' (hnw hr), (nr hg' hr l1 (by omega)).trans hl, h3, h4, (nr hg' hr (by omega) (by omega)).trans hd⟩
  · rintro pre x W ⟨hi, hl, hd⟩ hr
    have hlt0 : w.heap.size + 1 < W.heap.size := (Array.getElem?_eq_some_iff.1 hl).1
    refine ⟨r0.fn, _, r0.assign, r0.body, run_yield (P := P) (args := encs x) hl (by rw [e5]; exact hps x), roundIn_of_wpIn (by rw [e3]; exact hfn) ?_⟩
    rw [e4, e5, e6, e7]
    refine hassign _ x W _ fun a₁ W₁ hbb hat => ?_
    have kA : Kp W W₁ := hKa _ _ hbb (by omega)
    replace hi := isg hi hbb
    replace hl := (hbb.block _ hlt0).trans hl
    replace hd := (hbb.block _ (by omega)).trans hd
    have hlt : w.heap.size + 1 < W₁.heap.size := (Array.getElem?_eq_some_iff.1 hl).1
    refine ⟨_, run_beginRound hl e1, ?_⟩
    have hl2 : (W₁.putObj (w.heap.size + 1) (.loop { r0 with state := .busy })).heap[w.heap.size + 1]? = some (.loop { r0 with state := .busy }) := World.putObj_heap_same hlt
    have hd2 : (W₁.putObj (w.heap.size + 1) (.loop { r0 with state := .busy })).heap[w.heap.size]? = some (.deferred (some [])) := (World.putObj_heap_other (by omega)).trans hd
    have kB : Kp W (W₁.putObj (w.heap.size + 1) (.loop { r0 with state := .busy })) := hKt kA (hKb _ _ _ (by omega))
    refine wpIn_mono (hbody _ pre x a₁ _ (ipt _ hi hl) hr (hAt _ _ _ _ _ _ hat hl) (by simp; omega)) ?_
    have fin : ∀ (jump : Option Code) (W3 : World), KeepsFrom w.heap.size (W₁.putObj (w.heap.size + 1) (.loop { r0 with state := .busy })) W3 →
        (Instr.endRound (w.heap.size + 1) jump).run P W3 = .ok (.bool jump.isNone) (W3.putObj (w.heap.size + 1) (.loop { r0 with state := (if jump.isNone then .ready else .done), pending := jump })) ∧
        (W3.putObj (w.heap.size + 1) (.loop { r0 with state := (if jump.isNone then .ready else .done), pending := jump })).heap[w.heap.size + 1]? = some (.loop { r0 with state := (if jump.isNone then .ready else .done), pending := jump }) ∧
        (W3.putObj (w.heap.size + 1) (.loop { r0 with state := (if jump.isNone then .ready else .done), pending := jump })).heap[w.heap.size]? = some (.deferred (some [])) ∧ W3.heap[w.heap.size + 1]? = some (.loop { r0 with state := .busy }) := fun jump W3 hk => by
      have hs := hk.size
      simp only [World.putObj_size] at hs
      have hl3 := hk.same (w.heap.size + 1) _ (by omega) hl2 rfl
      have hr3 := run_endRound (P := P) (r := { r0 with state := .busy }) jump hl3
      exact ⟨hr3, World.putObj_heap_same (by omega), (World.putObj_heap_other (by omega)).trans (hk.same w.heap.size _ (Nat.le_refl _) hd2 rfl), hl3⟩
    rintro e a3 W3 hp
    cases e with
    | normal =>
      obtain ⟨hk, hkp, hi3⟩ := hp
      obtain ⟨g1, g2, g3, g4⟩ := fin none W3 hk
      refine ⟨_, _, g1, .inl ⟨rfl, ⟨ipt _ hi3 g4, ?_, g3⟩, ?_⟩⟩
      · rw [g2]
        have : r0 = { r0 with state := .ready, pending := none } := by rw [← e1, ← e2]
        rw [this]
        rfl
      · exact hKt (hKt kB hkp) (hKb _ _ _ (by omega))
    | ret =>
      obtain ⟨hk, hi3⟩ := hp
      obtain ⟨g1, g2, g3, g4⟩ := fin (some .ret) W3 hk
      exact ⟨_, _, g1, .inr ⟨rfl, .ret, _, xpt _ hi3 g4, g2, by simp, rfl, g3⟩⟩
    | exit id =>
      obtain ⟨hk, hi3⟩ := hp
      obtain ⟨g1, g2, g3, g4⟩ := fin (some (.exit id)) W3 hk
      exact ⟨_, _, g1, .inr ⟨rfl, .exit id, _, xpt _ hi3 g4, g2, by simp, rfl, g3⟩⟩
    | goto t =>
      obtain ⟨hk, hi3⟩ := hp
      obtain ⟨g1, g2, g3, g4⟩ := fin (some (.goto t)) W3 hk
      exact ⟨_, _, g1, .inr ⟨rfl, .goto t, _, xpt _ hi3 g4, g2, by simp, rfl, g3⟩⟩
    | panic ch => exact hp.elim
    | outgrown => exact hp.elim
  · exact hI _ _ _ none h0 ⟨hB1.os, hB1.tape, hB1.output, hB1.size, fun k hk _ => hB1.block k hk⟩ (fun r e => by cases e)
  · rintro e W2 ⟨⟨v, rfl⟩, (⟨xs, hS, hi, hl, hd⟩ | ⟨pre, hSp, c, r, hi, hl, h3, h4, hd⟩)⟩
    · have h := run_endLoop (P := P) hl (by rw [e1]; simp)
      rw [e2] at h
      exact ⟨none, _, h, hdone _ xs _ (Nat.le_refl _) hS (ipt _ hi hl) ((World.putObj_heap_other (by omega)).trans hd)⟩
    · have h := run_endLoop (P := P) hl h3
      rw [h4] at h
      exact ⟨some c, _, h, hstop _ c pre _ (Nat.le_refl _) hSp (xpt _ hi hl) ((World.putObj_heap_other (by omega)).trans hd)⟩

end Go.Proofs.Ytomieeajmelglaa
