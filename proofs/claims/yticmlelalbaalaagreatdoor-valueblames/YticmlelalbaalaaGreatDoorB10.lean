import Derived.RangeFuncNested
import Derived.RangeFuncBound
import Derived.RangeFuncCalls
import Derived.RangeFuncLeaves
import Derived.RangeFuncBox
namespace Go.Proofs.YticmlelalbaalaaGreatDoor
open Go.RowKit
set_option linter.unusedVariables false
structure Stay (B : Nat) (W W' : World) : Prop where
  size : W.heap.size ≤ W'.heap.size
  same : ∀ k, B ≤ k → k < W.heap.size → W'.heap[k]? = W.heap[k]?
theorem put_below {B l : Nat} (W : World) (o : Obj) (h : B ≤ l) : Below B W (W.putObj l o) := ⟨rfl, rfl, rfl, by simp, fun k hk => World.putObj_heap_other (by omega)⟩
variable {F : Fence} {n : Nat} {P : Program}
end Go.Proofs.YticmlelalbaalaaGreatDoor
namespace Go.Proofs.YticmlelalbaalaaGreatDoor
open Go.RowKit
set_option linter.unusedVariables false
variable {F : Fence} {n : Nat} {P : Program}
structure FrV (s : Nat) (O : Nat → Prop) (A B : World) : Prop where
  os : B.os = A.os
  tape : B.tape = A.tape
  output : B.output = A.output
  size : A.heap.size ≤ B.heap.size
  block : ∀ k, k < A.heap.size → (k < s ∨ O k) → B.heap[k]? = A.heap[k]?
theorem FrV.of_below {s : Nat} {O : Nat → Prop} {A B : World} (h : Below A.heap.size A B) : FrV s O A B := ⟨h.os, h.tape, h.output, h.size, fun k hk _ => h.block k hk⟩
def AbV {α : Type} (s : Nat) (J : (Nat → Prop) → List α → World → Prop) : Prop := ∀ O pre A B, J O pre A → FrV s O A B → J O pre B
def KbV (s : Nat) (O : Nat → Prop) (A B : World) : Prop := A.heap.size ≤ B.heap.size ∧ ∀ k, s ≤ k → k < A.heap.size → ¬ O k → B.heap[k]? = A.heap[k]?
def SeqV {α : Type} (F : Fence) (n : Nat) (P : Program) (g : Nat) (lb : Array Value) (encs : α → Array Value) (Rd : List α → α → World → Prop) (S Sp : List α → Prop) (Kp : World → Prop) (w : World) : Prop :=
  ∀ (l : Nat) (J Jx : (Nat → Prop) → List α → World → Prop) (W : World), Below w.heap.size w W → AbV W.heap.size J → AbV W.heap.size Jx →
    (∀ O pre x W1, J O pre W1 → W.heap.size ≤ W1.heap.size → Rd pre x W1 → YieldAt F (n - 1) P l (encs x) W1 fun e W' =>
      (e = .returned (.bool true) ∧ ∃ O', J O' (pre ++ [x]) W' ∧ KbV W.heap.size O W1 W' ∧ ∀ k, O' k → (O k ∨ W1.heap.size ≤ k) ∧ k < W'.heap.size) ∨ (e = .returned (.bool false) ∧ ∃ O', Jx O' (pre ++ [x]) W')) →
    (∀ O pre W1, J O pre W1 → Kp W1) → J (fun _ => False) [] W →
    CallsIn F n P g (#[.func (.yield l) #[] #[]] ++ lb) W fun e W' => (∃ v, e = .returned v) ∧ ((∃ O xs, S xs ∧ J O xs W') ∨ (∃ O pre, Sp pre ∧ Jx O pre W'))
def postV {α : Type} (b : Nat) (I : (Nat → Prop) → List α → World → Prop) (Ix : Code → (Nat → Prop) → List α → World → Prop) (O : Nat → Prop) (xs : List α) (W : World) : Exit → Act → World → Prop
  | .normal, _, W' => KeepsFrom b W W' ∧ KbV (b + 2) O W W' ∧ ∃ O', I O' xs W' ∧ ∀ k, O' k → (O k ∨ W.heap.size ≤ k) ∧ k < W'.heap.size
  | .ret, _, W' => KeepsFrom b W W' ∧ ∃ O', Ix .ret O' xs W'
  | .exit id, _, W' => KeepsFrom b W W' ∧ ∃ O', Ix (.exit id) O' xs W'
  | .goto t, _, W' => KeepsFrom b W W' ∧ ∃ O', Ix (.goto t) O' xs W'
  | .panic _, _, _ => False
  | .outgrown, _, _ => False
theorem wpIn_rangeV {α : Type} {g : Operand} {ps : Array Tmp} {assign body : Code} {Q : Exit → Act → World → Prop} {a : Act} {w : World}
    (hro : F.round = none) (h1 : 1 ≤ n) {gf : Nat} {lb : Array Value} (hg : a.eval g = .func (.func gf) #[] lb) (hFg : F.fn gf) (eg : ∀ args w, (callFunc gf args).run P w = .ok (.enter gf args) w)
    {encs : α → Array Value} {Rd : List α → α → World → Prop} {S Sp : List α → Prop} {Kp : World → Prop} {w0 : World} (hseq : SeqV F (n - 1) P gf lb encs Rd S Sp Kp w0)
    (hRd : ∀ pre x (A : World) (l : Nat) (r r' : Loop), Rd pre x A → A.heap[l]? = some (.loop r) → Rd pre x (A.putObj l (.loop r'))) (hRb : ∀ pre x (A C : World), Rd pre x A → Below A.heap.size A C → Rd pre x C)
    (hb0 : Below w0.heap.size w0 w) (hps : ∀ x, (encs x).size = ps.size)
    (I : (Nat → Prop) → List α → World → Prop) (Ix : Code → (Nat → Prop) → List α → World → Prop) (hI : AbV (w.heap.size + 2) I) (hIx : ∀ c, AbV (w.heap.size + 2) (Ix c))
    (hIp : ∀ O pre (A : World) (l : Nat) (r r' : Loop), I O pre A → A.heap[l]? = some (.loop r) → w.heap.size ≤ l → I O pre (A.putObj l (.loop r'))) (hIxp : ∀ c O pre (A : World) (l : Nat) (r r' : Loop), Ix c O pre A → A.heap[l]? = some (.loop r) → w.heap.size ≤ l → Ix c O pre (A.putObj l (.loop r')))
    (hKp : ∀ O pre W1, I O pre W1 → Kp W1) (h0 : I (fun _ => False) [] w) (At : α → Act → World → Prop) (hAt : ∀ x a' (A : World) (l : Nat) (r r' : Loop), At x a' A → A.heap[l]? = some (.loop r) → At x a' (A.putObj l (.loop r')))
    (hassign : ∀ (l : Nat) (x : α) (W : World) (K : Act → World → Prop), (∀ a₁ W₁, Below W.heap.size W W₁ → At x a₁ W₁ → K a₁ W₁) →
      assign.wpIn (F.inRound l) (n - 1 - 1) P (Exit.then K (fun _ _ _ => False)) { tmps := (ps.zip (encs x)).foldl (fun t (p, v) => t.setIfInBounds p v) a.tmps, defers := [] } W)
    (hbody : ∀ (l : Nat) (O : Nat → Prop) (pre : List α) (x : α) (a₁ : Act) (W : World), I O pre W → Rd pre x W → At x a₁ W → w.heap.size + 2 ≤ W.heap.size → body.wpIn (F.inRound l) (n - 1 - 1) P (postV w.heap.size I Ix O (pre ++ [x]) W) a₁ W)
    (hdone : ∀ (D : Nat) (O : Nat → Prop) (xs : List α) (W : World), w.heap.size ≤ D → S xs → I O xs W → W.heap[D]? = some (.deferred (some [])) → Q .normal { a with defers := { target := .collected D, args := #[] } :: a.defers } W)
    (hstop : ∀ (D : Nat) (c : Code) (O : Nat → Prop) (pre : List α) (W : World), w.heap.size ≤ D → Sp pre → Ix c O pre W → W.heap[D]? = some (.deferred (some [])) → c.wpIn F n P Q { a with defers := { target := .collected D, args := #[] } :: a.defers } W) :
    (Code.rangeFunc g ps assign body).wpIn F n P Q a w := by
  refine wpIn_rangeFunc fun fn hfn => ?_
  rw [hro]
  have go : ∃ W1 : World, ∃ r0 : Loop, (Instr.enterLoop fn a.tmps ps assign body none).run P w = .ok (w.heap.size + 1, [{ target := .collected w.heap.size, args := #[] }]) W1 ∧ Below w.heap.size w W1 ∧ W1.heap.size = w.heap.size + 2 ∧
      W1.heap[w.heap.size + 1]? = some (.loop r0) ∧ W1.heap[w.heap.size]? = some (.deferred (some [])) ∧ r0.state = .ready ∧ r0.pending = none ∧ r0.fn = fn ∧ r0.tmps = a.tmps ∧ r0.params = ps ∧ r0.assign = assign ∧ r0.body = body := by
    refine ⟨_, { state := .ready, pending := none, fn, tmps := a.tmps, params := ps, assign, body, defers := w.heap.size }, run_enterLoop_outer _ _ _ _ _, ((Below.refl _ w).alloc (Nat.le_refl _) _).alloc (by simp) _, by simp, ?_, ?_, rfl, rfl, rfl, rfl, rfl, rfl, rfl⟩
    · have := World.alloc_heap_new (w.alloc (.deferred (some []))) (.loop { state := .ready, pending := none, fn, tmps := a.tmps, params := ps, assign, body, defers := w.heap.size })
      rwa [World.size_alloc] at this
    · exact (Below.heap_alloc _ _ _ (by simp)).trans (World.alloc_heap_new w _)
  obtain ⟨W1, r0, hen, hB1, hsz, hL, hD, e1, e2, e3, e4, e5, e6, e7⟩ := go
  have isg : ∀ {O : Nat → Prop} {pre : List α} {A B : World}, I O pre A → Below A.heap.size A B → I O pre B := fun h hb => hI _ _ _ _ h (FrV.of_below hb)
  refine ⟨w.heap.size + 1, [{ target := .collected w.heap.size, args := #[] }], W1, { target := .fn (.func gf) lb, args := #[.func (.yield (w.heap.size + 1)) #[] #[]] }, W1, gf, #[.func (.yield (w.heap.size + 1)) #[] #[]] ++ lb, W1, hen, ?_, ?_, ?_, fun _ => h1, ?_⟩
  · simp only [resolve, hg]
    simp [go_sem]
  · intro f' hf'
    simp [Target.leads] at hf'
    subst hf'
    exact hFg
  · simp [invoke, go_sem, eg]
  refine (hseq (w.heap.size + 1) (fun O pre W => I O pre W ∧ W.heap[w.heap.size + 1]? = some (.loop r0) ∧ W.heap[w.heap.size]? = some (.deferred (some [])))
    (fun O pre W => ∃ c r, Ix c O pre W ∧ W.heap[w.heap.size + 1]? = some (.loop r) ∧ r.state ≠ .busy ∧ r.pending = some c ∧ W.heap[w.heap.size]? = some (.deferred (some []))) W1 (hb0.trans (hB1.mono hb0.size)) ?_ ?_ ?_ (fun O pre W1 h => hKp O pre W1 h.1) ⟨?_, hL, hD⟩).mono ?_
  · rintro O s A B ⟨hi, hl, hd⟩ hf
    have l1 := (Array.getElem?_eq_some_iff.1 hl).1
    rw [hsz] at hf
    exact ⟨hI O s A B hi hf, (hf.block _ l1 (.inl (by omega))).trans hl, (hf.block _ (by omega) (.inl (by omega))).trans hd⟩
  · rintro O s A B ⟨c, r, hi, hl, h3, h4, hd⟩ hf
    have l1 := (Array.getElem?_eq_some_iff.1 hl).1
    rw [hsz] at hf
    exact ⟨c, r, hIx c O s A B hi hf, (hf.block _ l1 (.inl (by omega))).trans hl, h3, h4, (hf.block _ (by omega) (.inl (by omega))).trans hd⟩
  · rintro O pre x W ⟨hi, hl, hd⟩ hWs hr
    rw [hsz] at hWs
    have hlt0 : w.heap.size + 1 < W.heap.size := (Array.getElem?_eq_some_iff.1 hl).1
    refine ⟨r0.fn, _, r0.assign, r0.body, run_yield (P := P) (args := encs x) hl (by rw [e5]; exact hps x), roundIn_of_wpIn (by rw [e3]; exact hfn) ?_⟩
    rw [e4, e5, e6, e7]
    refine hassign _ x W _ fun a₁ W₁ hbb hat => ?_
    have kA := hbb
    replace hi := isg hi hbb
    replace hl := (hbb.block _ hlt0).trans hl
    replace hd := (hbb.block _ (by omega)).trans hd
    have hlt : w.heap.size + 1 < W₁.heap.size := (Array.getElem?_eq_some_iff.1 hl).1
    refine ⟨_, run_beginRound hl e1, ?_⟩
    have hl2 : (W₁.putObj (w.heap.size + 1) (.loop { r0 with state := .busy })).heap[w.heap.size + 1]? = some (.loop { r0 with state := .busy }) := World.putObj_heap_same hlt
    have hd2 : (W₁.putObj (w.heap.size + 1) (.loop { r0 with state := .busy })).heap[w.heap.size]? = some (.deferred (some [])) := (World.putObj_heap_other (by omega)).trans hd
    refine wpIn_mono (hbody _ O pre x a₁ _ (hIp _ _ _ _ _ _ hi hl (by omega)) (hRd _ _ _ _ _ _ (hRb _ _ _ _ hr hbb) hl) (hAt _ _ _ _ _ _ hat hl) (by have := hbb.size; simp; omega)) ?_
    have fin : ∀ (jump : Option Code) (W3 : World), KeepsFrom w.heap.size (W₁.putObj (w.heap.size + 1) (.loop { r0 with state := .busy })) W3 →
        (Instr.endRound (w.heap.size + 1) jump).run P W3 = .ok (.bool jump.isNone) (W3.putObj (w.heap.size + 1) (.loop { r0 with state := (if jump.isNone then .ready else .done), pending := jump })) ∧
        (W3.putObj (w.heap.size + 1) (.loop { r0 with state := (if jump.isNone then .ready else .done), pending := jump })).heap[w.heap.size + 1]? = some (.loop { r0 with state := (if jump.isNone then .ready else .done), pending := jump }) ∧
        (W3.putObj (w.heap.size + 1) (.loop { r0 with state := (if jump.isNone then .ready else .done), pending := jump })).heap[w.heap.size]? = some (.deferred (some [])) ∧ W3.heap[w.heap.size + 1]? = some (.loop { r0 with state := .busy }) := fun jump W3 hk => by
      have hs := hk.size
      simp only [World.putObj_size] at hs
      have hl3 := hk.same (w.heap.size + 1) _ (by omega) hl2 rfl
      have hr3 := run_endRound (P := P) (r := { r0 with state := .busy }) jump hl3
      exact ⟨hr3, World.putObj_heap_same (by omega), (World.putObj_heap_other (by omega)).trans (hk.same w.heap.size _ (Nat.le_refl _) hd2 rfl), hl3⟩
    rintro e a3 W3 hp
    cases e with
    | normal =>
      obtain ⟨hk, hkb, O', hi3, ho⟩ := hp
      obtain ⟨g1, g2, g3, g4⟩ := fin none W3 hk
      have hs2 := hkb.1
      have hs1 := hbb.size
      simp only [World.putObj_size] at hs2
      refine ⟨_, _, g1, .inl ⟨rfl, O', ⟨hIp _ _ _ _ _ _ hi3 g4 (by omega), ?_, g3⟩, ⟨by simp; omega, fun k hk1 hk2 hk3 => ?_⟩, fun k hk => ?_⟩⟩
      · rw [g2]
        have : r0 = { r0 with state := .ready, pending := none } := by rw [← e1, ← e2]
        rw [this]
        rfl
      · rw [hsz] at hk1
        have h5 := hkb.2 k hk1 (by simp; omega) hk3
        exact (World.putObj_heap_other (by omega)).trans (h5.trans ((World.putObj_heap_other (by omega)).trans (hbb.block k hk2)))
      · have := ho k hk
        simp only [World.putObj_size] at this ⊢
        exact ⟨this.1.imp_right (fun h => by omega), this.2⟩
    | ret =>
      obtain ⟨hk, O', hi3⟩ := hp
      obtain ⟨g1, g2, g3, g4⟩ := fin (some .ret) W3 hk
      exact ⟨_, _, g1, .inr ⟨rfl, O', .ret, _, hIxp _ _ _ _ _ _ _ hi3 g4 (by omega), g2, by simp, rfl, g3⟩⟩
    | exit id =>
      obtain ⟨hk, O', hi3⟩ := hp
      obtain ⟨g1, g2, g3, g4⟩ := fin (some (.exit id)) W3 hk
      exact ⟨_, _, g1, .inr ⟨rfl, O', .exit id, _, hIxp _ _ _ _ _ _ _ hi3 g4 (by omega), g2, by simp, rfl, g3⟩⟩
    | goto t =>
      obtain ⟨hk, O', hi3⟩ := hp
      obtain ⟨g1, g2, g3, g4⟩ := fin (some (.goto t)) W3 hk
      exact ⟨_, _, g1, .inr ⟨rfl, O', .goto t, _, hIxp _ _ _ _ _ _ _ hi3 g4 (by omega), g2, by simp, rfl, g3⟩⟩
    | panic ch => exact hp.elim
    | outgrown => exact hp.elim
  · exact isg h0 hB1
  · rintro e W2 ⟨⟨v, rfl⟩, (⟨O, xs, hS, hi, hl, hd⟩ | ⟨O, pre, hSp, c, r, hi, hl, h3, h4, hd⟩)⟩
    · have h := run_endLoop (P := P) hl (by rw [e1]; simp)
      rw [e2] at h
      exact ⟨none, _, h, hdone _ O xs _ (Nat.le_refl _) hS (hIp _ _ _ _ _ _ hi hl (by omega)) ((World.putObj_heap_other (by omega)).trans hd)⟩
    · have h := run_endLoop (P := P) hl h3
      rw [h4] at h
      exact ⟨some c, _, h, hstop _ c O pre _ (Nat.le_refl _) hSp (hIxp _ _ _ _ _ _ _ hi hl (by omega)) ((World.putObj_heap_other (by omega)).trans hd)⟩
end Go.Proofs.YticmlelalbaalaaGreatDoor
