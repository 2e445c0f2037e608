/- apart: lists of items that lie in blocks of their own -/
import Derived.Test.YtomieeajmelglaaOApA
namespace Go.Proofs.Ytomieeajmelglaa
open Go.RowKit Go.Shelf
set_option linter.unusedVariables false
set_option linter.unusedSimpArgs false

theorem wpList_ap1 {w : World} {ops : Array Oper} {rest : List Oper} {o : Oper} {a : Act} {Q : Exit → Act → World → Prop} (hgd : o.guard = none) (s x : Operand)
    (ho : o.op = .call { callee := .builtin .append, args := #[s, x], argTypes := #[22, 22] })
    (base : Nat) (v : Value) (n : Nat) (ys : List Value) (hs : a.eval s = v) (hown : w.ownsRow base 27 2 v n ys) (ad : Addr) (c : Nat) (y : It) (hx : a.eval x = .slice (some ad) 1 c) (hnews : ∀ j u, (flat [y])[j]? = some u → w.cell? (ad.add j) = some u)
    (hby : n + 1 ≤ 8796093022208) (hbase : base ≤ w.heap.size)
    (h : ∀ v' w', w'.ownsRow base 27 2 v' (n + 1) (ys ++ flat [y]) → ((w.grownBy w' none ∧ v'.ownBlock = some w.heap.size) ∨ ∃ g cap, n + 1 ≤ cap ∧ v = .slice (some ⟨g, 0, none⟩) n cap ∧ v' = .slice (some ⟨g, 0, none⟩) (n + 1) cap ∧ w.grownBy w' (some g)) → wpList Try.prog ops Q rest (a.put o.dst v') w') : wpList Try.prog ops Q (o :: rest) a w := by
  refine wpList_plain hgd fun K hK => ?_
  obtain ⟨v', w', hr, h2, h3⟩ := run_ap1 hown hnews hby hbase o.type
  unfold Oper.wp execOp
  simp only [ho, resolve, invoke, builtin, Sem.run_bind, Sem.run_pure, Result.andThen_ok, List.map_toArray, List.map_cons, List.map_nil, hs, hx]
  rw [hr]
  exact hK _ _ (h v' w' h2 h3)
def mkd (i n : Nat) : List It := (List.range n).map fun (k : Nat) => (((i : Nat) : Int), 100000 + ((k : Nat) : Int))
theorem mkd_len (i n : Nat) : (mkd i n).length = n := by simp [mkd]
theorem mkd_get (i n k : Nat) (h : k < (mkd i n).length) : (mkd i n)[k] = ((i : Int), 100000 + (k : Int)) := by simp [mkd]
def RW (base m : Nat) (v : Nat → Value) (n : Nat → Nat) (W : World) (C : Nat → List It) : Prop := ∀ j, j < m → W.ownsRow base 27 2 (v j) (n j) (flat (C j))
def AP (m : Nat) (v : Nat → Value) : Prop := ∀ i j, i < m → j < m → i ≠ j → ∀ k, (v i).ownBlock = some k → (v j).ownBlock ≠ some k
def LL (gl m : Nat) (v : Nat → Value) (W : World) : Prop := ∀ j, j < m → W.cell? ⟨gl, j, none⟩ = some (v j)
theorem RW.len {base m : Nat} {v : Nat → Value} {n : Nat → Nat} {W : World} {C : Nat → List It} (h : RW base m v n W C) {j : Nat} (hj : j < m) : (C j).length = n j := by
  have := (h j hj).1
  rw [flat_len] at this
  omega
theorem own_shape {W : World} {base e n : Nat} {v : Value} {xs : List Value} (h : W.ownsRow base e 2 v n xs) : ∃ po pc, v = .slice po n pc ∧ (0 < n → ∃ g, po = some ⟨g, 0, none⟩) := by
  obtain ⟨h0, ⟨rfl, h1⟩ | ⟨g, cap, cur, rfl, _⟩⟩ := h
  · exact ⟨none, 0, by rw [h1], fun e => by omega⟩
  · exact ⟨_, cap, rfl, fun _ => ⟨g, rfl⟩⟩
theorem RW.set {base m : Nat} {v : Nat → Value} {n : Nat → Nat} {W : World} {C : Nat → List It} (h : RW base m v n W C) (ha : AP m v) {i g cap k : Nat} (hi : i < m) (hv : v i = .slice (some ⟨g, 0, none⟩) (n i) cap) (hk : k < n i) (x : It) :
    RW base m v n ((W.setCell ⟨g, k * 2, none⟩ (.int .i64 x.1)).setCell ⟨g, k * 2 + 1, none⟩ (.int .i64 x.2)) (fun j => if j = i then (C i).set k x else C j) := by
  intro j hj
  by_cases hji : j = i
  · subst hji
    simp only [if_true]
    have := h j hj
    rw [hv] at this ⊢
    exact owns_set this (by rw [h.len hj]; exact hk) x
  · simp only [if_neg hji]
    have hb : (v j).ownBlock ≠ some g := ha i j hi hj (fun e => hji e.symm) g (by rw [hv]; rfl)
    exact ownsRow_setCell_other (ownsRow_setCell_other (h j hj) hb _) hb _
theorem LL.set {gl m : Nat} {v : Nat → Value} {W : World} (h : LL gl m v W) {g k : Nat} (hg : gl ≠ g) (a b : Value) : LL gl m v ((W.setCell ⟨g, k * 2, none⟩ a).setCell ⟨g, k * 2 + 1, none⟩ b) := by
  intro j hj
  have b1 : BelX (fun k => k = g) (gl + 1) W ((W.setCell ⟨g, k * 2, none⟩ a).setCell ⟨g, k * 2 + 1, none⟩ b) := (belx_set (X := fun k => k = g) W a rfl).trans (belx_set (X := fun k => k = g) _ b rfl)
  exact (b1.cell (p := ⟨gl, j, none⟩) (Nat.lt_succ_self _) hg).trans (h j hj)
theorem below_set {B : Nat} {w W : World} (h : Below B w W) {g k : Nat} (hg : B ≤ g) (a b : Value) : Below B w ((W.setCell ⟨g, k * 2, none⟩ a).setCell ⟨g, k * 2 + 1, none⟩ b) := by
  have b1 : BelX (fun k => k = g) B W ((W.setCell ⟨g, k * 2, none⟩ a).setCell ⟨g, k * 2 + 1, none⟩ b) := (belx_set (X := fun k => k = g) W a rfl).trans (belx_set (X := fun k => k = g) _ b rfl)
  exact h.trans (b1.below (Nat.le_refl _) (fun k hk e => by omega))
/-- where a list that grows lies -/
def Pla (v0 : Value) (n0 s0 cp q : Nat) (vg : Value) : Prop := vg.ownBlock = none ∨ (∃ g, v0 = .slice (some ⟨g, 0, none⟩) n0 cp ∧ vg = .slice (some ⟨g, 0, none⟩) (n0 + q) cp) ∨ ∃ k, vg.ownBlock = some k ∧ s0 ≤ k
theorem grow_step {base m s0 i q cp : Nat} {v : Nat → Value} {n : Nat → Nat} {W w' : World} {vg v' : Value} {ys : List It} {gl : Nat} {w : World} {y : It} (hR : RW base m v n W (fun j => mkd j (n j))) (hA : AP m v) (hi : i < m) (hs0 : s0 ≤ W.heap.size) (hbs : base ≤ s0) (hrs : ∀ j, j < m → ∀ k, (v j).ownBlock = some k → k < s0)
    (hL : LL gl m v W) (hgl : gl < s0) (hgn : ∀ j, j < m → (v j).ownBlock ≠ some gl) (hB : Below base w W) (hp : Pla (v i) (n i) s0 cp q vg) (ho : w'.ownsRow base 27 2 v' (n i + q + 1) (flat ((mkd i (n i) ++ ys) ++ [y])))
    (hh : (W.grownBy w' none ∧ ∃ z, v'.ownBlock = some z ∧ s0 ≤ z) ∨ ∃ g cap, n i + q + 1 ≤ cap ∧ vg = .slice (some ⟨g, 0, none⟩) (n i + q) cap ∧ v' = .slice (some ⟨g, 0, none⟩) (n i + q + 1) cap ∧ W.grownBy w' (some g)) :
    RW base m v n w' (fun j => mkd j (n j)) ∧ LL gl m v w' ∧ Below base w w' ∧ Pla (v i) (n i) s0 cp (q + 1) v' ∧ s0 ≤ w'.heap.size := by
  rcases hh with ⟨h1, z, h2, hz⟩ | ⟨g, cap, h0, h1, h2, h3⟩
  · have hb : Below W.heap.size W w' := (BelX.grown (X := fun _ => False) h1 (Nat.le_refl _) (fun k e => by cases e)).below (Nat.le_refl _) (fun _ _ e => e)
    refine ⟨fun j hj => owns_on (hR j hj) h1 (fun r e => by cases e), fun j hj => (hb.cell (p := ⟨gl, j, none⟩) (by show gl < W.heap.size; omega)).trans (hL j hj), hB.trans (hb.mono (by omega)), .inr (.inr ⟨_, h2, hz⟩), Nat.le_trans hs0 hb.size⟩
  · subst h1
    subst h2
    have hbx : ∀ N, N ≤ W.heap.size → BelX (fun k => k = g) N W w' := fun N hN => BelX.grown h3 hN (fun k e => by cases e; exact .inr rfl)
    have hsz : W.heap.size ≤ w'.heap.size := (hbx 0 (by omega)).size
    have hg0 : base ≤ g := by
      obtain ⟨_, ⟨e, _⟩ | ⟨g', cap', cur, e, e2, _⟩⟩ := ho
      · cases e
      · cases e
        exact e2
    have hBw : Below base w w' := hB.trans ((hbx base (by omega)).below (Nat.le_refl _) (fun k hk e => by omega))
    rcases hp with e | ⟨g', e1, e2⟩ | ⟨k, e1, e2⟩
    · cases e
    · cases e2
      have hgb : (v i).ownBlock = some g := by rw [e1]; rfl
      have hgg : gl ≠ g := fun e => hgn i hi (by rw [hgb, e])
      refine ⟨fun j hj => ?_, fun j hj => ((hbx (gl + 1) (by omega)).cell (p := ⟨gl, j, none⟩) (Nat.lt_succ_self _) hgg).trans (hL j hj), hBw, .inr (.inl ⟨g, e1, rfl⟩), by omega⟩
      by_cases hji : j = i
      · subst hji
        rw [e1]
        rw [List.append_assoc] at ho
        have := owns_pre ho
        rw [mkd_len] at this
        exact this
      · exact owns_on2 (hR j hj) h3 (fun e => hA i j hi hj (fun e' => hji e'.symm) g hgb e)
    · have hk : k = g := by cases e1; rfl
      subst hk
      refine ⟨fun j hj => owns_on2 (hR j hj) h3 (fun e => by have := hrs j hj _ e; omega), fun j hj => ((hbx (gl + 1) (by omega)).cell (p := ⟨gl, j, none⟩) (Nat.lt_succ_self _) (by show gl ≠ k; omega)).trans (hL j hj), hBw, .inr (.inr ⟨k, rfl, e2⟩), by omega⟩

end Go.Proofs.Ytomieeajmelglaa
