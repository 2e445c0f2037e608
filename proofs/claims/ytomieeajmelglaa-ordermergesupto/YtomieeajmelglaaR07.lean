/- OFi0, OApA, OAp, OLnd, OMgN, ORmg, ORun -/
import Derived.Test.YtomieeajmelglaaR05
import Derived.Test.YtomieeajmelglaaR04
import Derived.Test.YtomieeajmelglaaR06
import Derived.Test.YtomieeajmelglaaR03
import Derived.Maps.AppendAt
namespace Go.Proofs.Ytomieeajmelglaa
open Go.RowKit Go.Shelf
set_option linter.unusedVariables false
set_option linter.unusedSimpArgs false

theorem ItRd.far {w w' : World} {v : Value} {l : List It} (h : ItRd (fun _ => True) w v l) (hb : Below w.heap.size w w') : ItRd (fun _ => True) w' v l := by
  obtain ⟨ao, ca, h1, h2, h3, h4⟩ := h
  refine ⟨ao, ca, h1, h2, h3, fun hp => ?_⟩
  obtain ⟨g, o, h5, h6, h7, h8⟩ := h4 hp
  exact ⟨g, o, h5, h6, Nat.lt_of_lt_of_le h7 hb.size, fun i hi => ⟨(hb.cell (p := ⟨g, _, none⟩) h7).trans (h8 i hi).1, (hb.cell (p := ⟨g, _, none⟩) h7).trans (h8 i hi).2⟩⟩
theorem Lent.far {base : Nat} {w w' : World} {g cap : Nat} {l : List It} (h : Lent base w g cap l) (hb : Below w.heap.size w w') : Lent base w' g cap l := by
  have hg := h.itin.2.1
  obtain ⟨h0, ⟨h1, h2⟩ | ⟨g', cap', cur, h1, h2, h3, h4⟩⟩ := h
  · cases h1
  · cases h1
    exact ⟨h0, .inr ⟨g, cap, cur, rfl, h2, (hb.block _ hg).trans h3, h4⟩⟩
theorem Lent.rd {base : Nat} {w : World} {g cap : Nat} {l : List It} (h : Lent base w g cap l) : ItRd (fun _ => True) w (.slice (some ⟨g, 0, none⟩) l.length cap) l := by
  obtain ⟨_, hg, hcap, hcm, hin⟩ := h.itin
  exact ⟨_, cap, rfl, by omega, hcm, fun _ => ⟨g, 0, rfl, trivial, hg, fun i hi => by
    have q := hin i (by simp; omega)
    rw [List.getElem_append_left hi] at q
    exact q⟩⟩

theorem bsOk_at {o : Int} {l : List It} {x : It} {k : Nat} (h : k < l.length) {z : It} (hz : l[k] = z) : bsOk (byF o) l x k = decide (ocmp o z x = 0) := by
  unfold bsOk
  have e : l[k]?.getD (0, 0) = z := by rw [List.getElem?_eq_getElem h]; exact hz
  rw [e]
  simp [h, byF_zero]

end Go.Proofs.Ytomieeajmelglaa

namespace Go.Proofs.Ytomieeajmelglaa
open Go.RowKit Go.Shelf
set_option linter.unusedVariables false
set_option linter.unusedSimpArgs false

theorem owns_set {W : World} {base g n cap k : Nat} {c : List It} (h : W.ownsRow base 27 2 (.slice (some ⟨g, 0, none⟩) n cap) n (flat c)) (hk : k < c.length) (x : It) :
    ((W.setCell ⟨g, k * 2, none⟩ (.int .i64 x.1)).setCell ⟨g, k * 2 + 1, none⟩ (.int .i64 x.2)).ownsRow base 27 2 (.slice (some ⟨g, 0, none⟩) n cap) n (flat (c.set k x)) := by
  obtain ⟨h0, ⟨h1, _⟩ | ⟨g', cap', cur, h1, h2, h3, h4, h5, h6, h7⟩⟩ := h
  · cases h1
  · cases h1
    have hc : c.length = n := by rw [flat_len] at h0; omega
    refine ⟨by rw [flat_len] at h0 ⊢; simpa using h0, .inr ⟨g, cap, _, rfl, h2, heap_setCell_same _ g _ _ _ _ (heap_setCell_same W g (k * 2) _ _ _ h3), h4, h5, by simp [h6], ?_⟩⟩
    rw [← flat_set c k hk x, ← h7]
    simp only [Array.toList_setIfInBounds]
    rw [List.take_set, List.take_set]
theorem owns_cell {W : World} {base g n cap : Nat} {c : List It} (h : W.ownsRow base 27 2 (.slice (some ⟨g, 0, none⟩) n cap) n (flat c)) {k : Nat} (hk : k < c.length) : W.cell? ⟨g, k * 2, none⟩ = some (.int .i64 c[k].1) ∧ W.cell? ⟨g, k * 2 + 1, none⟩ = some (.int .i64 c[k].2) ∧ W.frozen? ⟨g, k * 2, none⟩ = false ∧ W.frozen? ⟨g, k * 2 + 1, none⟩ = false := by
  obtain ⟨h0, ⟨h1, _⟩ | ⟨g', cap', cur, h1, h2, h3, h4, h5, h6, h7⟩⟩ := h
  · cases h1
  · cases h1
    obtain ⟨f1, f2⟩ := flat_get c k hk
    have t1 : ∀ j u, (flat c)[j]? = some u → W.cell? ⟨g, j, none⟩ = some u := fun j u hj => by
      have e : cur[j]? = some u := by
        rw [← h7, List.getElem?_take] at hj
        split at hj
        · simpa using hj
        · cases hj
      rw [cell_of_row W g j cur _ _ h3]
      exact e
    exact ⟨t1 _ _ f1, t1 _ _ f2, frozen_of_row W g _ _ _ h3, frozen_of_row W g _ _ _ h3⟩
theorem owns_pre {W : World} {base g m cap : Nat} {c d : List It} (h : W.ownsRow base 27 2 (.slice (some ⟨g, 0, none⟩) m cap) m (flat (c ++ d))) : W.ownsRow base 27 2 (.slice (some ⟨g, 0, none⟩) c.length cap) c.length (flat c) := by
  obtain ⟨h0, ⟨h1, _⟩ | ⟨g', cap', cur, h1, h2, h3, h4, h5, h6, h7⟩⟩ := h
  · cases h1
  · cases h1
    rw [flat_len, List.length_append] at h0
    refine ⟨flat_len c, .inr ⟨g, cap, cur, rfl, h2, h3, by omega, h5, h6, ?_⟩⟩
    have e : cur.toList.take (c.length * 2) = (cur.toList.take (m * 2)).take (c.length * 2) := by rw [List.take_take, Nat.min_eq_left (by omega)]
    rw [e, h7, flat_append, ← flat_len c, List.take_left]
theorem owns_on2 {W W' : World} {base e n g : Nat} {v : Value} {xs : List Value} (h : W.ownsRow base e 2 v n xs) (hg : W.grownBy W' (some g)) (hr : v.ownBlock ≠ some g) : W'.ownsRow base e 2 v n xs := by
  obtain ⟨h0, h1 | ⟨g', cap, cur, rfl, h2, h3, h4⟩⟩ := h
  · exact ⟨h0, .inl h1⟩
  · exact ⟨h0, .inr ⟨g', cap, cur, rfl, h2, (hg.block g' (Array.getElem?_eq_some_iff.1 h3).1 (fun e => hr e)).trans h3, h4⟩⟩
theorem run_ap1 {w : World} {base n : Nat} {v : Value} {ys : List Value} {x : It} {ad : Addr} {c : Nat} (hown : w.ownsRow base 27 2 v n ys) (hnews : ∀ j u, (flat [x])[j]? = some u → w.cell? (ad.add j) = some u)
    (hby : n + 1 ≤ 8796093022208) (hbase : base ≤ w.heap.size) (ty : TypeId) :
    ∃ v' w', (Builtin.append_ #[22, 22] ty #[v, .slice (some ad) 1 c]).run Try.prog w = .ok v' w' ∧ w'.ownsRow base 27 2 v' (n + 1) (ys ++ flat [x]) ∧
      ((w.grownBy w' none ∧ v'.ownBlock = some w.heap.size) ∨ ∃ g cap, n + 1 ≤ cap ∧ v = .slice (some ⟨g, 0, none⟩) n cap ∧ v' = .slice (some ⟨g, 0, none⟩) (n + 1) cap ∧ w.grownBy w' (some g)) := by
  obtain ⟨i0, hi0, hz0, hz1, hz2⟩ := info_parts itinfoM
  have hl : (flat [x]).length = 1 * 2 := flat_len _
  have hown' := hown
  obtain ⟨h0, ⟨rfl, h1⟩ | ⟨g, cap, cur, rfl, h2, h3, h4, h5, h6, h7⟩⟩ := hown'
  · obtain ⟨v', w', r1, r2, r3, r4, r5⟩ := run_append_own_at (P := Try.prog) w base 22 ty 27 i0 _ 2 16 Try.underlying22 hi0 hz0 hz1 hz2 rfl (by decide) _ n ys hown ad 1 c (flat [x]) hl hnews (flat_one _) (by unfold maxLen; omega) (by omega) hbase
    refine ⟨v', w', r1, r2, .inl ⟨r3, ?_⟩⟩
    rcases r5 with e | e
    · obtain ⟨_, ⟨e1, e2⟩ | ⟨g, cap, cur, rfl, _⟩⟩ := r2
      · omega
      · cases e
    · exact e
  · by_cases hc : n + 1 ≤ cap
    · obtain ⟨w', r1, r2, r3⟩ := run_append_fits (P := Try.prog) w base 22 ty 27 i0 2 Try.underlying22 hi0 hz1 g n cap ys hown ad 1 c (flat [x]) hl hnews (flat_one _) hc
      exact ⟨_, w', r1, r2, .inr ⟨g, cap, hc, rfl, rfl, r3⟩⟩
    · obtain ⟨v', w', r1, r2, r3, r4, r5⟩ := run_append_own_at (P := Try.prog) w base 22 ty 27 i0 _ 2 16 Try.underlying22 hi0 hz0 hz1 hz2 rfl (by decide) _ n ys hown ad 1 c (flat [x]) hl hnews (flat_one _) (by unfold maxLen; omega) (by omega) hbase
      have hr := run_append_grow (P := Try.prog) w 22 ty 27 i0 _ Try.underlying22 hi0 hz0 ⟨g, 0, none⟩ n cap ys (by rw [hz1]; exact hown.1) (hown.cells (g := g) rfl) ad 1 c (flat [x]) (by rw [hz1]; exact hl) hnews (by omega) (by omega) (growslice_fits (by omega) (by rw [hz2]; omega))
      rw [hr] at r1
      injection r1 with e1 e2
      refine ⟨v', w', by rw [hr, e1, e2], r2, .inl ⟨?_, by rw [← e1]; rfl⟩⟩
      rw [← e2]
      exact ⟨rfl, rfl, rfl, by simp, fun k hk _ => (Below.heap_alloc w.drew _ k hk).trans rfl⟩

end Go.Proofs.Ytomieeajmelglaa

namespace Go.Proofs.Ytomieeajmelglaa
open Go.RowKit Go.Shelf
set_option linter.unusedVariables false
set_option linter.unusedSimpArgs false

theorem wpList_ap1 {w : World} {ops : Array Oper} {rest : List Oper} {o : Oper} {a : Act} {Q : Exit → Act → World → Prop} (hgd : o.guard = none) (s x : Operand)
    (ho : o.op = .call { callee := .builtin .append, args := #[s, x], argTypes := #[22, 22] })
    (base : Nat) (v : Value) (n : Nat) (ys : List Value) (hs : a.eval s = v) (hown : w.ownsRow base 27 2 v n ys) (ad : Addr) (c : Nat) (y : It) (hx : a.eval x = .slice (some ad) 1 c) (hnews : ∀ j u, (flat [y])[j]? = some u → w.cell? (ad.add j) = some u)
    (hby : n + 1 ≤ 8796093022208) (hbase : base ≤ w.heap.size)
    (h : ∀ v' w', w'.ownsRow base 27 2 v' (n + 1) (ys ++ flat [y]) → ((w.grownBy w' none ∧ v'.ownBlock = some w.heap.size) ∨ ∃ g cap, n + 1 ≤ cap ∧ v = .slice (some ⟨g, 0, none⟩) n cap ∧ v' = .slice (some ⟨g, 0, none⟩) (n + 1) cap ∧ w.grownBy w' (some g)) → wpList Try.prog ops Q rest (a.put o.dst v') w') : wpList Try.prog ops Q (o :: rest) a w := by
  refine wpList_plain hgd fun K hK => ?_
  obtain ⟨v', w', hr, h2, h3⟩ := run_ap1 hown hnews hby hbase o.type
  unfold Oper.wp execOp
  simp only [ho, resolve, invoke, builtin, Sem.run_bind, Sem.run_pure, Result.andThen_ok, List.map_toArray, List.map_cons, List.map_nil, hs, hx]
  rw [hr]
  exact hK _ _ (h v' w' h2 h3)
def mkd (i n : Nat) : List It := (List.range n).map fun (k : Nat) => (((i : Nat) : Int), 100000 + ((k : Nat) : Int))
theorem mkd_len (i n : Nat) : (mkd i n).length = n := by simp [mkd]
theorem mkd_get (i n k : Nat) (h : k < (mkd i n).length) : (mkd i n)[k] = ((i : Int), 100000 + (k : Int)) := by simp [mkd]
def RW (base m : Nat) (v : Nat → Value) (n : Nat → Nat) (W : World) (C : Nat → List It) : Prop := ∀ j, j < m → W.ownsRow base 27 2 (v j) (n j) (flat (C j))
def AP (m : Nat) (v : Nat → Value) : Prop := ∀ i j, i < m → j < m → i ≠ j → ∀ k, (v i).ownBlock = some k → (v j).ownBlock ≠ some k
def LL (gl m : Nat) (v : Nat → Value) (W : World) : Prop := ∀ j, j < m → W.cell? ⟨gl, j, none⟩ = some (v j)
theorem RW.len {base m : Nat} {v : Nat → Value} {n : Nat → Nat} {W : World} {C : Nat → List It} (h : RW base m v n W C) {j : Nat} (hj : j < m) : (C j).length = n j := by
  have := (h j hj).1
  rw [flat_len] at this
  omega
theorem own_shape {W : World} {base e n : Nat} {v : Value} {xs : List Value} (h : W.ownsRow base e 2 v n xs) : ∃ po pc, v = .slice po n pc ∧ (0 < n → ∃ g, po = some ⟨g, 0, none⟩) := by
  obtain ⟨h0, ⟨rfl, h1⟩ | ⟨g, cap, cur, rfl, _⟩⟩ := h
  · exact ⟨none, 0, by rw [h1], fun e => by omega⟩
  · exact ⟨_, cap, rfl, fun _ => ⟨g, rfl⟩⟩
theorem RW.set {base m : Nat} {v : Nat → Value} {n : Nat → Nat} {W : World} {C : Nat → List It} (h : RW base m v n W C) (ha : AP m v) {i g cap k : Nat} (hi : i < m) (hv : v i = .slice (some ⟨g, 0, none⟩) (n i) cap) (hk : k < n i) (x : It) :
    RW base m v n ((W.setCell ⟨g, k * 2, none⟩ (.int .i64 x.1)).setCell ⟨g, k * 2 + 1, none⟩ (.int .i64 x.2)) (fun j => if j = i then (C i).set k x else C j) := by
  intro j hj
  by_cases hji : j = i
  · subst hji
    simp only [if_true]
    have := h j hj
    rw [hv] at this ⊢
    exact owns_set this (by rw [h.len hj]; exact hk) x
  · simp only [if_neg hji]
    have hb : (v j).ownBlock ≠ some g := ha i j hi hj (fun e => hji e.symm) g (by rw [hv]; rfl)
    exact ownsRow_setCell_other (ownsRow_setCell_other (h j hj) hb _) hb _
theorem LL.set {gl m : Nat} {v : Nat → Value} {W : World} (h : LL gl m v W) {g k : Nat} (hg : gl ≠ g) (a b : Value) : LL gl m v ((W.setCell ⟨g, k * 2, none⟩ a).setCell ⟨g, k * 2 + 1, none⟩ b) := by
  intro j hj
  have b1 : BelX (fun k => k = g) (gl + 1) W ((W.setCell ⟨g, k * 2, none⟩ a).setCell ⟨g, k * 2 + 1, none⟩ b) := (belx_set (X := fun k => k = g) W a rfl).trans (belx_set (X := fun k => k = g) _ b rfl)
  exact (b1.cell (p := ⟨gl, j, none⟩) (Nat.lt_succ_self _) hg).trans (h j hj)
theorem below_set {B : Nat} {w W : World} (h : Below B w W) {g k : Nat} (hg : B ≤ g) (a b : Value) : Below B w ((W.setCell ⟨g, k * 2, none⟩ a).setCell ⟨g, k * 2 + 1, none⟩ b) := by
  have b1 : BelX (fun k => k = g) B W ((W.setCell ⟨g, k * 2, none⟩ a).setCell ⟨g, k * 2 + 1, none⟩ b) := (belx_set (X := fun k => k = g) W a rfl).trans (belx_set (X := fun k => k = g) _ b rfl)
  exact h.trans (b1.below (Nat.le_refl _) (fun k hk e => by omega))
/-- where a list that grows lies -/
def Pla (v0 : Value) (n0 s0 cp q : Nat) (vg : Value) : Prop := vg.ownBlock = none ∨ (∃ g, v0 = .slice (some ⟨g, 0, none⟩) n0 cp ∧ vg = .slice (some ⟨g, 0, none⟩) (n0 + q) cp) ∨ ∃ k, vg.ownBlock = some k ∧ s0 ≤ k
theorem grow_step {base m s0 i q cp : Nat} {v : Nat → Value} {n : Nat → Nat} {W w' : World} {vg v' : Value} {ys : List It} {gl : Nat} {w : World} {y : It} (hR : RW base m v n W (fun j => mkd j (n j))) (hA : AP m v) (hi : i < m) (hs0 : s0 ≤ W.heap.size) (hbs : base ≤ s0) (hrs : ∀ j, j < m → ∀ k, (v j).ownBlock = some k → k < s0)
    (hL : LL gl m v W) (hgl : gl < s0) (hgn : ∀ j, j < m → (v j).ownBlock ≠ some gl) (hB : Below base w W) (hp : Pla (v i) (n i) s0 cp q vg) (ho : w'.ownsRow base 27 2 v' (n i + q + 1) (flat ((mkd i (n i) ++ ys) ++ [y])))
    (hh : (W.grownBy w' none ∧ ∃ z, v'.ownBlock = some z ∧ s0 ≤ z) ∨ ∃ g cap, n i + q + 1 ≤ cap ∧ vg = .slice (some ⟨g, 0, none⟩) (n i + q) cap ∧ v' = .slice (some ⟨g, 0, none⟩) (n i + q + 1) cap ∧ W.grownBy w' (some g)) :
    RW base m v n w' (fun j => mkd j (n j)) ∧ LL gl m v w' ∧ Below base w w' ∧ Pla (v i) (n i) s0 cp (q + 1) v' ∧ s0 ≤ w'.heap.size := by
  rcases hh with ⟨h1, z, h2, hz⟩ | ⟨g, cap, h0, h1, h2, h3⟩
  · have hb : Below W.heap.size W w' := (BelX.grown (X := fun _ => False) h1 (Nat.le_refl _) (fun k e => by cases e)).below (Nat.le_refl _) (fun _ _ e => e)
    refine ⟨fun j hj => owns_on (hR j hj) h1 (fun r e => by cases e), fun j hj => (hb.cell (p := ⟨gl, j, none⟩) (by show gl < W.heap.size; omega)).trans (hL j hj), hB.trans (hb.mono (by omega)), .inr (.inr ⟨_, h2, hz⟩), Nat.le_trans hs0 hb.size⟩
  · subst h1
    subst h2
    have hbx : ∀ N, N ≤ W.heap.size → BelX (fun k => k = g) N W w' := fun N hN => BelX.grown h3 hN (fun k e => by cases e; exact .inr rfl)
    have hsz : W.heap.size ≤ w'.heap.size := (hbx 0 (by omega)).size
    have hg0 : base ≤ g := by
      obtain ⟨_, ⟨e, _⟩ | ⟨g', cap', cur, e, e2, _⟩⟩ := ho
      · cases e
      · cases e
        exact e2
    have hBw : Below base w w' := hB.trans ((hbx base (by omega)).below (Nat.le_refl _) (fun k hk e => by omega))
    rcases hp with e | ⟨g', e1, e2⟩ | ⟨k, e1, e2⟩
    · cases e
    · cases e2
      have hgb : (v i).ownBlock = some g := by rw [e1]; rfl
      have hgg : gl ≠ g := fun e => hgn i hi (by rw [hgb, e])
      refine ⟨fun j hj => ?_, fun j hj => ((hbx (gl + 1) (by omega)).cell (p := ⟨gl, j, none⟩) (Nat.lt_succ_self _) hgg).trans (hL j hj), hBw, .inr (.inl ⟨g, e1, rfl⟩), by omega⟩
      by_cases hji : j = i
      · subst hji
        rw [e1]
        rw [List.append_assoc] at ho
        have := owns_pre ho
        rw [mkd_len] at this
        exact this
      · exact owns_on2 (hR j hj) h3 (fun e => hA i j hi hj (fun e' => hji e'.symm) g hgb e)
    · have hk : k = g := by cases e1; rfl
      subst hk
      refine ⟨fun j hj => owns_on2 (hR j hj) h3 (fun e => by have := hrs j hj _ e; omega), fun j hj => ((hbx (gl + 1) (by omega)).cell (p := ⟨gl, j, none⟩) (Nat.lt_succ_self _) (by show gl ≠ k; omega)).trans (hL j hj), hBw, .inr (.inr ⟨k, rfl, e2⟩), by omega⟩

end Go.Proofs.Ytomieeajmelglaa

namespace Go.Proofs.Ytomieeajmelglaa
open Go.RowKit Go.Shelf
set_option linter.unusedVariables false
set_option linter.unusedSimpArgs false

theorem wpList_append_fit {w : World} {ops : Array Oper} {rest : List Oper} {o : Oper} {a : Act} {Q : Exit → Act → World → Prop} (hgd : o.guard = none) (s x : Operand)
    (ho : o.op = .call { callee := .builtin .append, args := #[s, x], argTypes := #[22, 22] })
    (base g n cap : Nat) (ys : List Value) (hs : a.eval s = .slice (some ⟨g, 0, none⟩) n cap) (hown : w.ownsRow base 27 2 (.slice (some ⟨g, 0, none⟩) n cap) n ys)
    (va : Value) (l : List It) (hx : a.eval x = va) (hrd : ItRd (fun _ => True) w va l) (hno : ∀ c, va = .slice none 0 c → c = 0) (hroom : n + l.length ≤ cap) (hbase : base ≤ w.heap.size)
    (h : ∀ w', w'.ownsRow base 27 2 (.slice (some ⟨g, 0, none⟩) (n + l.length) cap) (n + l.length) (ys ++ flat l) → Below base w w' → wpList Try.prog ops Q rest (a.put o.dst (.slice (some ⟨g, 0, none⟩) (n + l.length) cap)) w') : wpList Try.prog ops Q (o :: rest) a w := by
  obtain ⟨i0, hi0, hz0, hz1, hz2⟩ := info_parts itinfoM
  obtain ⟨ao, ca, rfl, hac, ham, hcl⟩ := hrd
  have hgb : base ≤ g := by
    obtain ⟨_, ⟨e, _⟩ | ⟨g', cap', cur, e, e2, _⟩⟩ := hown
    · cases e
    · cases e
      exact e2
  rcases ao with _ | ad
  · have e : l.length = 0 := by
      rcases Nat.eq_zero_or_pos l.length with e | e
      · exact e
      · obtain ⟨g, o', he, _⟩ := hcl e
        cases he
    obtain rfl := List.eq_nil_of_length_eq_zero e
    obtain rfl := hno ca rfl
    refine wpList_plain hgd fun K hK => ?_
    have hr := run_append_owned_none (P := Try.prog) (w := w) base 22 o.type 27 i0 2 Try.underlying22 hi0 _ n ys hown
    unfold Oper.wp execOp
    simp only [ho, resolve, invoke, builtin, Sem.run_bind, Sem.run_pure, Result.andThen_ok, List.map_toArray, List.map_cons, List.map_nil, hs, hx]
    simp only [List.length_nil] at hr ⊢
    rw [hr]
    exact hK _ _ (h w (by simpa [flat] using hown) (Below.refl _ _))
  · refine wpList_append_fits w hgd s x 22 ho base 27 i0 2 Try.underlying22 hi0 hz1 g n cap ys hs hown ad l.length ca (flat l) hx (flat_len l) (by
      by_cases e : l.length = 0
      · obtain rfl := List.eq_nil_of_length_eq_zero e
        intro j u hu
        simp [flat] at hu
      · obtain ⟨g, o', he, _, hg, hin⟩ := hcl (by omega)
        cases he
        exact news_items hin) (flat_one l) hroom ?_
    intro w' h1 h2
    exact h w' h1 ((BelX.grown (X := fun k => k = g) (n := base) h2 hbase (fun k e => by cases e; exact .inr rfl)).below (Nat.le_refl _) (fun k hk e => by omega))

set_option maxRecDepth 100000 in
set_option maxHeartbeats 8000000 in
theorem lend2_any {w : World} {va : Value} {l : List It} (ha : ItRd (fun _ => True) w va l) (hno : ∀ c, va = .slice none 0 c → c = 0) (hl : l.length ≤ 8796093022200) :
    Calls Try.prog 7 #[va] w fun e w' => (∃ g, e = .returned (.slice (some ⟨g, 0, none⟩) l.length (l.length + 4)) ∧ Lent w.heap.size w' g (l.length + 4) l) ∧ Below w.heap.size w w' := by
  obtain ⟨m, hm⟩ : ∃ m, l.length + 4 = m := ⟨_, rfl⟩
  have mk := mk_room2 (n := m) (by omega)
  have e1 : IntKind.i64.wrap ((l.length : Int) + 4) = (m : Int) := by rw [IntKind.wrap_i64]; omega
  have e2 : (l.length : Int) + 4 = (m : Int) := by omega
  have HM := hide hm
  clear hm
  have H63 := hide (show l.length + 4 ≤ maxLen ∧ (l.length + 4) * 16 ≤ 140737488355328 from ⟨by unfold maxLen; omega, by omega⟩)
  obtain ⟨W0, hW0⟩ : ∃ u, w.alloc (.cells (flat (List.replicate m ((0, 0) : It))).toArray 27) = u := ⟨_, rfl⟩
  have K0 : Hid (Below w.heap.size w W0) := by rw [← hW0]; exact hide ((Below.refl _ w).alloc (Nat.le_refl _) _)
  have O0 : Hid (W0.ownsRow w.heap.size 27 2 (.slice (some ⟨w.heap.size, 0, none⟩) 0 m) 0 []) := by
    have := HM.out
    rw [← hW0]
    exact hide (World.ownsRow_made w _ m (Nat.le_refl _) (by unfold maxLen; omega) (by simp [flat_len]))
  have S0 : Hid (w.heap.size ≤ W0.heap.size) := hide K0.out.size
  have RD := hide ha
  have NO := hide hno
  have R0 : Hid (ItRd (fun _ => True) W0 va l) := by
    obtain ⟨ao, ca, h1, h2, h3, h4⟩ := ha
    refine hide ⟨ao, ca, h1, h2, h3, fun hp => ?_⟩
    obtain ⟨g, o, h5, h6, h7, h8⟩ := h4 hp
    exact ⟨g, o, h5, h6, Nat.lt_of_lt_of_le h7 K0.out.size, fun i hi => ⟨(K0.out.cell (p := ⟨g, _, none⟩) h7).trans (h8 i hi).1, (K0.out.cell (p := ⟨g, _, none⟩) h7).trans (h8 i hi).2⟩⟩
  obtain ⟨ao, ca, hva, -, -, -⟩ := ha
  subst hva
  clear hno
  go_enter Try.func7, Try.ntmps7
  go_wp2_with (at_builtin; refine wpList_append_fit rfl _ _ rfl w.heap.size w.heap.size 0 m _ rfl O0.out _ l rfl R0.out NO.out (by have := HM.out; omega) S0.out ?_)
  intro w1 own1 bel1
  have O1 := hide own1
  have B1 := hide (K0.out.trans bel1)
  clear own1 bel1
  go_wp2
  go_loopw [3, 4] (fun v p wr => ∃ (i : Nat), p = .int .i64 i ∧ v = .slice (some ⟨w.heap.size, 0, none⟩) (l.length + i) m ∧ i ≤ 4 ∧ Hid (wr.ownsRow w.heap.size 27 2 (.slice (some ⟨w.heap.size, 0, none⟩) (l.length + i) m) (l.length + i) (flat (l ++ mks i))) ∧ Hid (Below w.heap.size w wr)) (fun _ p _ => 4 - (intOf p).toNat)
  case atStart => exact ⟨0, rfl, by simp, by omega, hide (by have := O1.out; simpa [mks] using this), B1⟩
  case round =>
    obtain ⟨i, rfl, rfl, hi, hO, hB⟩ := hrel
    by_cases hil : i < 4
    · have q1 : (i : Int) < 4 := by omega
      have w1' : IntKind.i64.wrap (-1 - (i : Int)) = -1 - (i : Int) := by rw [IntKind.wrap_i64]; omega
      have w2' : IntKind.i64.wrap ((i : Int) + 1) = (i : Int) + 1 := by rw [IntKind.wrap_i64]; omega
      have SZ := hide hB.out.size
      have RN := hide (fun (W : World) => one_rd W (-77) (-1 - (i : Int)))
      go_wp2_with (at_builtin; refine wpList_append_fit rfl _ _ rfl w.heap.size w.heap.size (l.length + i) m _ rfl (hO.out.alloc _) _ [(-77, -1 - (i : Int))] rfl (RN.out _) (by intro c h; cases h) (by have := HM.out; simp; omega) (by have := SZ.out; simp; omega) ?_)
      intro w2 own2 bel2
      have HO2 := hide own2
      have HB2 := hide ((hB.out.alloc SZ.out _).trans bel2)
      clear own2 bel2
      go_wp2
      refine ⟨⟨i + 1, by simp, by simp [Nat.add_assoc], by omega, hide ?_, HB2⟩, by simp [intOf]; omega⟩
      have e3 : l ++ mks (i + 1) = (l ++ mks i) ++ [(-77, -1 - (i : Int))] := by rw [mks_succ, List.append_assoc]
      rw [e3, flat_append]
      exact HO2.out
    · have hi4 : i = 4 := by omega
      subst hi4
      have c1 : l.length ≤ m := by have := HM.out; omega
      have c2 : m ≤ 2 ^ 63 - 1 := by have := HM.out; omega
      go_wp2
      go_ret
      obtain rfl : m = l.length + 4 := HM.out.symm
      exact ⟨⟨_, rfl, hO.out⟩, hB.out⟩

end Go.Proofs.Ytomieeajmelglaa

namespace Go.Proofs.Ytomieeajmelglaa
open Go.RowKit Go.Shelf
set_option linter.unusedVariables false
set_option linter.unusedSimpArgs false

theorem mrg_congr {α : Type} {f g : α → α → Int} (h : ∀ a b, f a b < 0 ↔ g a b < 0) (xs ys : List α) : mrg f xs ys = mrg g xs ys := by
  induction hn : xs.length + ys.length generalizing xs ys with
  | zero =>
    obtain rfl : xs = [] := List.eq_nil_of_length_eq_zero (by omega)
    obtain rfl : ys = [] := List.eq_nil_of_length_eq_zero (by omega)
    simp [mrg]
  | succ n ih =>
    cases xs with
    | nil => simp [mrg]
    | cons x xs =>
      cases ys with
      | nil => simp [mrg]
      | cons y ys =>
        simp only [mrg]
        by_cases e : f y x < 0
        · rw [if_pos e, if_pos ((h y x).1 e), ih _ _ (by simp at hn ⊢; omega)]
        · rw [if_neg e, if_neg (fun k => e ((h y x).2 k)), ih _ _ (by simp at hn ⊢; omega)]
theorem fsr_congr {α : Type} {f g : α → α → Int} (h : ∀ a b, f a b = 0 ↔ g a b = 0) : ∀ (l : List α) (p : α), fsr f p l = fsr g p l
  | [], p => rfl
  | b :: t, p => by
    simp only [fsr]
    rw [fsr_congr h t b]
    by_cases e : f p b = 0
    · rw [if_pos e, if_pos ((h p b).1 e)]
    · rw [if_neg e, if_neg (fun k => e ((h p b).2 k))]
theorem fs1_congr {α : Type} {f g : α → α → Int} (h : ∀ a b, f a b = 0 ↔ g a b = 0) (l : List α) : fs1 f l = fs1 g l := by
  cases l with
  | nil => rfl
  | cons a t => simp only [fs1]; rw [fsr_congr h]
theorem mrg_by (o : Int) (xs ys : List It) : mrg (ocmp o) xs ys = mrg (byF o) xs ys := (mrg_congr (fun a b => byF_neg o a b) xs ys).symm
theorem fs1_by (o : Int) (l : List It) : fs1 (ocmp o) l = fs1 (byF o) l := (fs1_congr (fun a b => byF_zero o a b) l).symm
set_option maxRecDepth 100000 in
set_option maxHeartbeats 2000000 in
theorem merge_nil {w : World} {ao bo : Option Addr} {n c n2 c2 : Nat} : Calls Try.prog 16 #[.slice ao n c, .slice bo n2 c2, .nilFunc] w fun e w' => e = .returned (.slice none 0 0) ∧ Below w.heap.size w w' := by
  have hfn : ∀ w : World, (binOp .eql 28 .nilFunc .nilFunc).run Try.prog w = .ok (.bool true) w := onil_nil itdesc
  go_enter Try.func16, Try.ntmps16
  go_wp2
  go_ret
  exact ⟨rfl, Below.refl _ _⟩
set_option maxRecDepth 100000 in
set_option maxHeartbeats 2000000 in
theorem unique_nil {w : World} {ao : Option Addr} {n c : Nat} : Calls Try.prog 17 #[.slice ao n c, .nilFunc] w fun e w' => e = .returned (.slice none 0 0) ∧ Below w.heap.size w w' := by
  have hfn : ∀ w : World, (binOp .eql 28 .nilFunc .nilFunc).run Try.prog w = .ok (.bool true) w := onil_nil itdesc
  go_enter Try.func17, Try.ntmps17
  go_wp2
  go_ret
  exact ⟨rfl, (Below.refl _ w).alloc (Nat.le_refl _) _⟩

end Go.Proofs.Ytomieeajmelglaa

namespace Go.Proofs.Ytomieeajmelglaa
open Go.RowKit Go.Shelf
set_option linter.unusedVariables false
set_option linter.unusedSimpArgs false

set_option maxRecDepth 100000 in
set_option maxHeartbeats 8000000 in
theorem rmerge_any {w : World} {va vb : Value} {xs ys : List It} {o : Int} (ha : ItRd (fun _ => True) w va xs) (hb : ItRd (fun _ => True) w vb ys) (hl : xs.length + ys.length ≤ 8796093022200) :
    Calls Try.prog 18 #[va, vb, .int .i64 o] w fun e w' => (∃ v, e = .returned v ∧ ∃ n, w'.ownsRow w.heap.size 27 2 v n (flat (mrg (ocmp o) xs ys))) ∧ Below w.heap.size w w' := by
  obtain ⟨ao, ca, rfl, hac, ham, hacl⟩ := ha
  obtain ⟨bo, cb, rfl, hbc, hbm, hbcl⟩ := hb
  have QA := hide hacl
  have QB := hide hbcl
  have HLL := hide hl
  clear hacl hac ham hbcl hbc hbm
  go_enter Try.func18, Try.ntmps18
  go_wp2
  go_loopw [7, 8, 9] (fun v p q wr => ∃ (i k : Nat) (dn : List It), p = .int .i64 i ∧ q = .int .i64 k ∧ i ≤ xs.length ∧ k ≤ ys.length ∧ Hid (dn ++ mrg (ocmp o) (xs.drop i) (ys.drop k) = mrg (ocmp o) xs ys) ∧ Hid (wr.ownsRow w.heap.size 27 2 v (i + k) (flat dn)) ∧ Hid (Below w.heap.size w wr)) (fun _ p q _ => xs.length + ys.length - (intOf p).toNat - (intOf q).toNat)
  case atStart => exact ⟨0, 0, [], rfl, rfl, by omega, by omega, hide (by simp), hide (by simpa [flat] using World.ownsRow_nil _ _ _ _), hide (Below.refl _ _)⟩
  case round =>
    obtain ⟨i, k, dn, rfl, rfl, hi, hk, hD, hO, hB⟩ := hrel
    have wi : IntKind.i64.wrap ((i : Int) + 1) = (i : Int) + 1 := by rw [IntKind.wrap_i64]; omega
    have wk : IntKind.i64.wrap ((k : Int) + 1) = (k : Int) + 1 := by rw [IntKind.wrap_i64]; omega
    by_cases hil : i < xs.length
    · obtain ⟨ga, oa, rfl, _, hga, hina⟩ := QA.out (by omega)
      have qi : (i : Int) < (xs.length : Int) := by omega
      have qi2 : ¬ (i : Int) = (xs.length : Int) := by omega
      have qi3 : ¬ i = xs.length := by omega
      obtain ⟨⟨x1, x2⟩, hx⟩ : ∃ y, xs[i] = y := ⟨_, rfl⟩
      have qx := hina i hil
      rw [hx] at qx
      by_cases hkl : k < ys.length
      · obtain ⟨gb, ob, rfl, _, hgb, hinb⟩ := QB.out (by omega)
        have qk : (k : Int) < (ys.length : Int) := by omega
        obtain ⟨⟨y1, y2⟩, hy⟩ : ∃ y, ys[k] = y := ⟨_, rfl⟩
        have qy := hinb k hkl
        rw [hy] at qy
        have CF : Hid (∀ V, Below wr.heap.size wr V → V.cell? ⟨gb, ob + k * 2, none⟩ = some (.int .i64 y1) ∧ V.cell? ⟨gb, ob + k * 2 + 1, none⟩ = some (.int .i64 y2) ∧ V.cell? ⟨ga, oa + i * 2, none⟩ = some (.int .i64 x1) ∧ V.cell? ⟨ga, oa + i * 2 + 1, none⟩ = some (.int .i64 x2)) := hide (fun V kk => by
          have k2 := hB.out.trans (kk.mono hB.out.size)
          exact ⟨(k2.cell (p := ⟨gb, _, none⟩) hgb).trans qy.1, (k2.cell (p := ⟨gb, _, none⟩) hgb).trans qy.2, (k2.cell (p := ⟨ga, _, none⟩) hga).trans qx.1, (k2.cell (p := ⟨ga, _, none⟩) hga).trans qx.2⟩)
        have HC := hide (fun (V : World) => ocmp_any (w := V) (o := o) (a := (y1, y2)) (b := (x1, x2)))
        have ML := hide (mrg_lt (f := ocmp o) hil hkl hx hy)
        have MG := hide (mrg_ge (f := ocmp o) hil hkl hx hy)
        rw [hx, hy] at ML MG
        obtain ⟨c, hc⟩ : ∃ c, ocmp o (y1, y2) (x1, x2) = c := ⟨_, rfl⟩
        rw [hc] at HC ML MG
        by_cases hc0 : c < 0
        · have ST : Hid (dn ++ ([(y1, y2)] ++ mrg (ocmp o) (xs.drop i) (ys.drop (k + 1))) = mrg (ocmp o) xs ys) := hide (by have := hD.out; rw [ML.out hc0] at this; exact this)
          have CI := hide (fun V (kk : Below w.heap.size w V) => (show V.cell? ⟨gb, ob + k * 2, none⟩ = some (.int .i64 y1) ∧ V.cell? ⟨gb, ob + k * 2 + 1, none⟩ = some (.int .i64 y2) from ⟨(kk.cell (p := ⟨gb, _, none⟩) hgb).trans qy.1, (kk.cell (p := ⟨gb, _, none⟩) hgb).trans qy.2⟩))
          have d0 : decide (c < 0) = true := by simpa using hc0
          clear hina hinb qx qy hx hy hc ML MG
          go_wp2
          have CC : ∀ u : World, Below wr.heap.size wr u → u.cell? ⟨gb, ob + k * 2, none⟩ = some (.int .i64 y1) ∧ u.cell? ⟨gb, ob + k * 2 + 1, none⟩ = some (.int .i64 y2) ∧ u.cell? ⟨ga, oa + i * 2, none⟩ = some (.int .i64 x1) ∧ u.cell? ⟨ga, oa + i * 2 + 1, none⟩ = some (.int .i64 x2) := fun u hu => CF.out u hu
          have K : Below wr.heap.size wr wr.drew := (Below.refl _ _).drew
          have HC0 := CC _ K
          refine wpHl.region0 (C := fun u => u.cell? ⟨gb, ob + k * 2, none⟩ = some (.int .i64 y1) ∧ u.cell? ⟨gb, ob + k * 2 + 1, none⟩ = some (.int .i64 y2) ∧ u.cell? ⟨ga, oa + i * 2, none⟩ = some (.int .i64 x1) ∧ u.cell? ⟨ga, oa + i * 2 + 1, none⟩ = some (.int .i64 x2)) (by kernel_rfl) (by kernel_rfl) (fun HS => ?_)
          refine wpHl.tk0 (i := 0) (d := some 20) (v := .int .i64 (i : Int)) rfl HS (by as_aux_lemma => kernel_rfl) rfl (fun _ _ _ h => h) (Or.inl ⟨by rfl, ?_⟩) HC0 ?_
          · intro u hC
            go_simp
          simp only [Act.put, List.setIfInBounds_toArray, List.set_cons_zero, List.set_cons_succ]
          refine wpHl.tk0 (i := 1) (d := some 21) (v := .slice (some ⟨ga, oa, none⟩) xs.length ca) rfl HS (by as_aux_lemma => kernel_rfl) rfl (fun _ _ _ h => h) (Or.inl ⟨by rfl, ?_⟩) HC0 ?_
          · intro u hC
            go_simp
          simp only [Act.put, List.setIfInBounds_toArray, List.set_cons_zero, List.set_cons_succ]
          refine wpHl.tk0 (i := 2) (d := some 22) (v := .int .i64 (xs.length : Int)) rfl HS (by as_aux_lemma => kernel_rfl) rfl (fun _ _ _ h => h) (Or.inl ⟨by rfl, ?_⟩) HC0 ?_
          · intro u hC
            go_simp
          simp only [Act.put, List.setIfInBounds_toArray, List.set_cons_zero, List.set_cons_succ]
          refine wpHl.tk0 (i := 3) (d := some 23) (v := .bool false) rfl HS (by as_aux_lemma => kernel_rfl) rfl (fun _ _ _ h => h) (Or.inl ⟨by rfl, ?_⟩) HC0 ?_
          · intro u hC
            go_simp
          simp only [Act.put, List.setIfInBounds_toArray, List.set_cons_zero, List.set_cons_succ]
          refine wpHl.tk0 (i := 4) (d := some 24) (v := .bool false) rfl HS (by as_aux_lemma => kernel_rfl) rfl (fun _ _ _ h => h) (Or.inl ⟨by rfl, ?_⟩) HC0 ?_
          · intro u hC
            go_simp
          simp only [Act.put, List.setIfInBounds_toArray, List.set_cons_zero, List.set_cons_succ]
          refine wpHl.tk0 (i := 5) (d := some 25) (v := .int .i64 (k : Int)) rfl HS (by as_aux_lemma => kernel_rfl) rfl (fun _ _ _ h => h) (Or.inl ⟨by rfl, ?_⟩) HC0 ?_
          · intro u hC
            go_simp
          simp only [Act.put, List.setIfInBounds_toArray, List.set_cons_zero, List.set_cons_succ]
          refine wpHl.tk0 (i := 6) (d := some 26) (v := .slice (some ⟨gb, ob, none⟩) ys.length cb) rfl HS (by as_aux_lemma => kernel_rfl) rfl (fun _ _ _ h => h) (Or.inl ⟨by rfl, ?_⟩) HC0 ?_
          · intro u hC
            go_simp
          simp only [Act.put, List.setIfInBounds_toArray, List.set_cons_zero, List.set_cons_succ]
          refine wpHl.tk0 (i := 7) (d := some 27) (v := .int .i64 (ys.length : Int)) rfl HS (by as_aux_lemma => kernel_rfl) rfl (fun _ _ _ h => h) (Or.inl ⟨by rfl, ?_⟩) HC0 ?_
          · intro u hC
            go_simp
          simp only [Act.put, List.setIfInBounds_toArray, List.set_cons_zero, List.set_cons_succ]
          refine wpHl.tk0 (i := 8) (d := some 28) (v := .bool true) rfl HS (by as_aux_lemma => kernel_rfl) rfl (fun _ _ _ h => h) (Or.inl ⟨by rfl, ?_⟩) HC0 ?_
          · intro u hC
            go_simp
          simp only [Act.put, List.setIfInBounds_toArray, List.set_cons_zero, List.set_cons_succ]
          refine wpHl.tk0 (i := 9) (d := some 29) (v := .bool true) rfl HS (by as_aux_lemma => kernel_rfl) rfl (fun _ _ _ h => h) (Or.inl ⟨by rfl, ?_⟩) HC0 ?_
          · intro u hC
            go_simp
          simp only [Act.put, List.setIfInBounds_toArray, List.set_cons_zero, List.set_cons_succ]
          refine wpHl.tk0 (i := 10) (d := some 30) (v := .int .i64 o) rfl HS (by as_aux_lemma => kernel_rfl) rfl (fun _ _ _ h => h) (Or.inl ⟨by rfl, ?_⟩) HC0 ?_
          · intro u hC
            go_simp
          simp only [Act.put, List.setIfInBounds_toArray, List.set_cons_zero, List.set_cons_succ]
          refine wpHl.tk0 (i := 11) (d := some 31) (v := .slice (some ⟨gb, ob, none⟩) ys.length cb) rfl HS (by as_aux_lemma => kernel_rfl) rfl (fun _ _ _ h => h) (Or.inl ⟨by rfl, ?_⟩) HC0 ?_
          · intro u hC
            go_simp
          simp only [Act.put, List.setIfInBounds_toArray, List.set_cons_zero, List.set_cons_succ]
          refine wpHl.tk0 (i := 12) (d := some 32) (v := .int .i64 (k : Int)) rfl HS (by as_aux_lemma => kernel_rfl) rfl (fun _ _ _ h => h) (Or.inl ⟨by rfl, ?_⟩) HC0 ?_
          · intro u hC
            go_simp
          simp only [Act.put, List.setIfInBounds_toArray, List.set_cons_zero, List.set_cons_succ]
          refine wpHl.tk0 (i := 13) (d := some 33) (v := .pointer (some ⟨gb, ob + k * 2, none⟩)) rfl HS (by as_aux_lemma => kernel_rfl) rfl (fun _ _ _ h => h) (Or.inl ⟨by rfl, ?_⟩) HC0 ?_
          · intro u hC
            go_simp
          simp only [Act.put, List.setIfInBounds_toArray, List.set_cons_zero, List.set_cons_succ]
          refine wpHl.tk0 (i := 14) (d := some 34) (v := .agg #[.int .i64 y1, .int .i64 y2]) rfl HS (by as_aux_lemma => kernel_rfl) rfl (fun _ _ _ h => h) (Or.inl ⟨by rfl, ?_⟩) HC0 ?_
          · intro u hC
            obtain ⟨z0, z1, z2, z3⟩ := hC
            go_simp
          simp only [Act.put, List.setIfInBounds_toArray, List.set_cons_zero, List.set_cons_succ]
          refine wpHl.tk0 (i := 15) (d := some 35) (v := .slice (some ⟨ga, oa, none⟩) xs.length ca) rfl HS (by as_aux_lemma => kernel_rfl) rfl (fun _ _ _ h => h) (Or.inl ⟨by rfl, ?_⟩) HC0 ?_
          · intro u hC
            go_simp
          simp only [Act.put, List.setIfInBounds_toArray, List.set_cons_zero, List.set_cons_succ]
          refine wpHl.tk0 (i := 16) (d := some 36) (v := .int .i64 (i : Int)) rfl HS (by as_aux_lemma => kernel_rfl) rfl (fun _ _ _ h => h) (Or.inl ⟨by rfl, ?_⟩) HC0 ?_
          · intro u hC
            go_simp
          simp only [Act.put, List.setIfInBounds_toArray, List.set_cons_zero, List.set_cons_succ]
          refine wpHl.tk0 (i := 17) (d := some 37) (v := .pointer (some ⟨ga, oa + i * 2, none⟩)) rfl HS (by as_aux_lemma => kernel_rfl) rfl (fun _ _ _ h => h) (Or.inl ⟨by rfl, ?_⟩) HC0 ?_
          · intro u hC
            go_simp
          simp only [Act.put, List.setIfInBounds_toArray, List.set_cons_zero, List.set_cons_succ]
          refine wpHl.tk0 (i := 18) (d := some 38) (v := .agg #[.int .i64 x1, .int .i64 x2]) rfl HS (by as_aux_lemma => kernel_rfl) rfl (fun _ _ _ h => h) (Or.inl ⟨by rfl, ?_⟩) HC0 ?_
          · intro u hC
            obtain ⟨z0, z1, z2, z3⟩ := hC
            go_simp
          simp only [Act.put, List.setIfInBounds_toArray, List.set_cons_zero, List.set_cons_succ]
          refine wpHl.one (i := 19) (by as_aux_lemma => kernel_rfl) rfl (fun K1 hK1 => ?_)
          rw [if_pos (by rfl)]
          refine wp_call_of (f := 23) (args := #[.int .i64 o, .agg #[.int .i64 y1, .int .i64 y2], .agg #[.int .i64 x1, .int .i64 x2]]) (by kernel_rfl) ?_
          with_reducible refine (HC.out _).mono ?_
          rintro e wn ⟨rfl, hb⟩
          replace K := below_trans K hb
          clear HC0
          have HC0 := CC _ K
          refine hK1 (Act.put _ (some 39) _) _ ⟨fun _ => HC0, ?_⟩
          clear hK1 K1 hb
          try simp only [Act.put, List.setIfInBounds_toArray, List.set_cons_zero, List.set_cons_succ]
          refine wpHl.tk0 (i := 20) (d := some 40) (v := .bool true) rfl HS (by as_aux_lemma => kernel_rfl) rfl (fun _ _ _ h => h) (Or.inl ⟨by rfl, ?_⟩) HC0 ?_
          · intro u hC
            go_simp
          simp only [Act.put, List.setIfInBounds_toArray, List.set_cons_zero, List.set_cons_succ]
          refine wpHl.tk0 (i := 21) (d := some 41) (v := .bool true) rfl HS (by as_aux_lemma => kernel_rfl) rfl (fun _ _ _ h => h) (Or.inl ⟨by rfl, ?_⟩) HC0 ?_
          · intro u hC
            go_simp
          simp only [Act.put, List.setIfInBounds_toArray, List.set_cons_zero, List.set_cons_succ]
          refine wpHl.tk0 (i := 22) (d := some 42) (v := .bool true) rfl HS (by as_aux_lemma => kernel_rfl) rfl (fun _ _ _ h => h) (Or.inl ⟨by rfl, ?_⟩) HC0 ?_
          · intro u hC
            go_simp
          simp only [Act.put, List.setIfInBounds_toArray, List.set_cons_zero, List.set_cons_succ]
          refine wpHl.done (by as_aux_lemma => kernel_rfl) ?_ _
          clear CC HC0 HS
          have KB := hide (hB.out.trans (K.mono hB.out.size))
          have OC := hide (owns_on hO.out (ograwn K) (fun r e => by cases e))
          have SZ := hide KB.out.size
          obtain ⟨d1, d2⟩ := CI.out _ KB.out
          have RN := hide (fun (W : World) => one_rd W y1 y2)
          clear K
          go_wp2_with (at_builtin; refine wpList_append_items rfl _ _ rfl w.heap.size _ (i + k) _ rfl (OC.out.alloc _) _ [(y1, y2)] rfl (RN.out _) (by intro c h; cases h) (by have := HLL.out; unfold maxLen; simp; omega) (by have := HLL.out; simp; omega) (by have := SZ.out; simp; omega) ?_)
          intro v2 w2 own2 bel2
          rw [← flat_append] at own2
          have HB2 := hide ((KB.out.alloc SZ.out _).trans bel2)
          have HO2 := hide own2
          clear own2 bel2 d1 d2
          go_wp2
          go_roundw
          case rel => exact ⟨i, k + 1, dn ++ [(y1, y2)], by simp, by simp, by omega, by omega, hide (by rw [List.append_assoc]; exact ST.out), HO2, HB2⟩
          case measure => simp [intOf]; omega
        · have ST : Hid (dn ++ ([(x1, x2)] ++ mrg (ocmp o) (xs.drop (i + 1)) (ys.drop k)) = mrg (ocmp o) xs ys) := hide (by have := hD.out; rw [MG.out (by omega)] at this; exact this)
          have CI := hide (fun V (kk : Below w.heap.size w V) => (show V.cell? ⟨ga, oa + i * 2, none⟩ = some (.int .i64 x1) ∧ V.cell? ⟨ga, oa + i * 2 + 1, none⟩ = some (.int .i64 x2) from ⟨(kk.cell (p := ⟨ga, _, none⟩) hga).trans qx.1, (kk.cell (p := ⟨ga, _, none⟩) hga).trans qx.2⟩))
          have d0 : decide (c < 0) = false := by simpa using hc0
          clear hina hinb qx qy hx hy hc ML MG
          go_wp2
          have CC : ∀ u : World, Below wr.heap.size wr u → u.cell? ⟨gb, ob + k * 2, none⟩ = some (.int .i64 y1) ∧ u.cell? ⟨gb, ob + k * 2 + 1, none⟩ = some (.int .i64 y2) ∧ u.cell? ⟨ga, oa + i * 2, none⟩ = some (.int .i64 x1) ∧ u.cell? ⟨ga, oa + i * 2 + 1, none⟩ = some (.int .i64 x2) := fun u hu => CF.out u hu
          have K : Below wr.heap.size wr wr.drew := (Below.refl _ _).drew
          have HC0 := CC _ K
          refine wpHl.region0 (C := fun u => u.cell? ⟨gb, ob + k * 2, none⟩ = some (.int .i64 y1) ∧ u.cell? ⟨gb, ob + k * 2 + 1, none⟩ = some (.int .i64 y2) ∧ u.cell? ⟨ga, oa + i * 2, none⟩ = some (.int .i64 x1) ∧ u.cell? ⟨ga, oa + i * 2 + 1, none⟩ = some (.int .i64 x2)) (by kernel_rfl) (by kernel_rfl) (fun HS => ?_)
          refine wpHl.tk0 (i := 0) (d := some 20) (v := .int .i64 (i : Int)) rfl HS (by as_aux_lemma => kernel_rfl) rfl (fun _ _ _ h => h) (Or.inl ⟨by rfl, ?_⟩) HC0 ?_
          · intro u hC
            go_simp
          simp only [Act.put, List.setIfInBounds_toArray, List.set_cons_zero, List.set_cons_succ]
          refine wpHl.tk0 (i := 1) (d := some 21) (v := .slice (some ⟨ga, oa, none⟩) xs.length ca) rfl HS (by as_aux_lemma => kernel_rfl) rfl (fun _ _ _ h => h) (Or.inl ⟨by rfl, ?_⟩) HC0 ?_
          · intro u hC
            go_simp
          simp only [Act.put, List.setIfInBounds_toArray, List.set_cons_zero, List.set_cons_succ]
          refine wpHl.tk0 (i := 2) (d := some 22) (v := .int .i64 (xs.length : Int)) rfl HS (by as_aux_lemma => kernel_rfl) rfl (fun _ _ _ h => h) (Or.inl ⟨by rfl, ?_⟩) HC0 ?_
          · intro u hC
            go_simp
          simp only [Act.put, List.setIfInBounds_toArray, List.set_cons_zero, List.set_cons_succ]
          refine wpHl.tk0 (i := 3) (d := some 23) (v := .bool false) rfl HS (by as_aux_lemma => kernel_rfl) rfl (fun _ _ _ h => h) (Or.inl ⟨by rfl, ?_⟩) HC0 ?_
          · intro u hC
            go_simp
          simp only [Act.put, List.setIfInBounds_toArray, List.set_cons_zero, List.set_cons_succ]
          refine wpHl.tk0 (i := 4) (d := some 24) (v := .bool false) rfl HS (by as_aux_lemma => kernel_rfl) rfl (fun _ _ _ h => h) (Or.inl ⟨by rfl, ?_⟩) HC0 ?_
          · intro u hC
            go_simp
          simp only [Act.put, List.setIfInBounds_toArray, List.set_cons_zero, List.set_cons_succ]
          refine wpHl.tk0 (i := 5) (d := some 25) (v := .int .i64 (k : Int)) rfl HS (by as_aux_lemma => kernel_rfl) rfl (fun _ _ _ h => h) (Or.inl ⟨by rfl, ?_⟩) HC0 ?_
          · intro u hC
            go_simp
          simp only [Act.put, List.setIfInBounds_toArray, List.set_cons_zero, List.set_cons_succ]
          refine wpHl.tk0 (i := 6) (d := some 26) (v := .slice (some ⟨gb, ob, none⟩) ys.length cb) rfl HS (by as_aux_lemma => kernel_rfl) rfl (fun _ _ _ h => h) (Or.inl ⟨by rfl, ?_⟩) HC0 ?_
          · intro u hC
            go_simp
          simp only [Act.put, List.setIfInBounds_toArray, List.set_cons_zero, List.set_cons_succ]
          refine wpHl.tk0 (i := 7) (d := some 27) (v := .int .i64 (ys.length : Int)) rfl HS (by as_aux_lemma => kernel_rfl) rfl (fun _ _ _ h => h) (Or.inl ⟨by rfl, ?_⟩) HC0 ?_
          · intro u hC
            go_simp
          simp only [Act.put, List.setIfInBounds_toArray, List.set_cons_zero, List.set_cons_succ]
          refine wpHl.tk0 (i := 8) (d := some 28) (v := .bool true) rfl HS (by as_aux_lemma => kernel_rfl) rfl (fun _ _ _ h => h) (Or.inl ⟨by rfl, ?_⟩) HC0 ?_
          · intro u hC
            go_simp
          simp only [Act.put, List.setIfInBounds_toArray, List.set_cons_zero, List.set_cons_succ]
          refine wpHl.tk0 (i := 9) (d := some 29) (v := .bool true) rfl HS (by as_aux_lemma => kernel_rfl) rfl (fun _ _ _ h => h) (Or.inl ⟨by rfl, ?_⟩) HC0 ?_
          · intro u hC
            go_simp
          simp only [Act.put, List.setIfInBounds_toArray, List.set_cons_zero, List.set_cons_succ]
          refine wpHl.tk0 (i := 10) (d := some 30) (v := .int .i64 o) rfl HS (by as_aux_lemma => kernel_rfl) rfl (fun _ _ _ h => h) (Or.inl ⟨by rfl, ?_⟩) HC0 ?_
          · intro u hC
            go_simp
          simp only [Act.put, List.setIfInBounds_toArray, List.set_cons_zero, List.set_cons_succ]
          refine wpHl.tk0 (i := 11) (d := some 31) (v := .slice (some ⟨gb, ob, none⟩) ys.length cb) rfl HS (by as_aux_lemma => kernel_rfl) rfl (fun _ _ _ h => h) (Or.inl ⟨by rfl, ?_⟩) HC0 ?_
          · intro u hC
            go_simp
          simp only [Act.put, List.setIfInBounds_toArray, List.set_cons_zero, List.set_cons_succ]
          refine wpHl.tk0 (i := 12) (d := some 32) (v := .int .i64 (k : Int)) rfl HS (by as_aux_lemma => kernel_rfl) rfl (fun _ _ _ h => h) (Or.inl ⟨by rfl, ?_⟩) HC0 ?_
          · intro u hC
            go_simp
          simp only [Act.put, List.setIfInBounds_toArray, List.set_cons_zero, List.set_cons_succ]
          refine wpHl.tk0 (i := 13) (d := some 33) (v := .pointer (some ⟨gb, ob + k * 2, none⟩)) rfl HS (by as_aux_lemma => kernel_rfl) rfl (fun _ _ _ h => h) (Or.inl ⟨by rfl, ?_⟩) HC0 ?_
          · intro u hC
            go_simp
          simp only [Act.put, List.setIfInBounds_toArray, List.set_cons_zero, List.set_cons_succ]
          refine wpHl.tk0 (i := 14) (d := some 34) (v := .agg #[.int .i64 y1, .int .i64 y2]) rfl HS (by as_aux_lemma => kernel_rfl) rfl (fun _ _ _ h => h) (Or.inl ⟨by rfl, ?_⟩) HC0 ?_
          · intro u hC
            obtain ⟨z0, z1, z2, z3⟩ := hC
            go_simp
          simp only [Act.put, List.setIfInBounds_toArray, List.set_cons_zero, List.set_cons_succ]
          refine wpHl.tk0 (i := 15) (d := some 35) (v := .slice (some ⟨ga, oa, none⟩) xs.length ca) rfl HS (by as_aux_lemma => kernel_rfl) rfl (fun _ _ _ h => h) (Or.inl ⟨by rfl, ?_⟩) HC0 ?_
          · intro u hC
            go_simp
          simp only [Act.put, List.setIfInBounds_toArray, List.set_cons_zero, List.set_cons_succ]
          refine wpHl.tk0 (i := 16) (d := some 36) (v := .int .i64 (i : Int)) rfl HS (by as_aux_lemma => kernel_rfl) rfl (fun _ _ _ h => h) (Or.inl ⟨by rfl, ?_⟩) HC0 ?_
          · intro u hC
            go_simp
          simp only [Act.put, List.setIfInBounds_toArray, List.set_cons_zero, List.set_cons_succ]
          refine wpHl.tk0 (i := 17) (d := some 37) (v := .pointer (some ⟨ga, oa + i * 2, none⟩)) rfl HS (by as_aux_lemma => kernel_rfl) rfl (fun _ _ _ h => h) (Or.inl ⟨by rfl, ?_⟩) HC0 ?_
          · intro u hC
            go_simp
          simp only [Act.put, List.setIfInBounds_toArray, List.set_cons_zero, List.set_cons_succ]
          refine wpHl.tk0 (i := 18) (d := some 38) (v := .agg #[.int .i64 x1, .int .i64 x2]) rfl HS (by as_aux_lemma => kernel_rfl) rfl (fun _ _ _ h => h) (Or.inl ⟨by rfl, ?_⟩) HC0 ?_
          · intro u hC
            obtain ⟨z0, z1, z2, z3⟩ := hC
            go_simp
          simp only [Act.put, List.setIfInBounds_toArray, List.set_cons_zero, List.set_cons_succ]
          refine wpHl.one (i := 19) (by as_aux_lemma => kernel_rfl) rfl (fun K1 hK1 => ?_)
          rw [if_pos (by rfl)]
          refine wp_call_of (f := 23) (args := #[.int .i64 o, .agg #[.int .i64 y1, .int .i64 y2], .agg #[.int .i64 x1, .int .i64 x2]]) (by kernel_rfl) ?_
          with_reducible refine (HC.out _).mono ?_
          rintro e wn ⟨rfl, hb⟩
          replace K := below_trans K hb
          clear HC0
          have HC0 := CC _ K
          refine hK1 (Act.put _ (some 39) _) _ ⟨fun _ => HC0, ?_⟩
          clear hK1 K1 hb
          try simp only [Act.put, List.setIfInBounds_toArray, List.set_cons_zero, List.set_cons_succ]
          refine wpHl.tk0 (i := 20) (d := some 40) (v := .bool false) rfl HS (by as_aux_lemma => kernel_rfl) rfl (fun _ _ _ h => h) (Or.inl ⟨by rfl, ?_⟩) HC0 ?_
          · intro u hC
            go_simp
          simp only [Act.put, List.setIfInBounds_toArray, List.set_cons_zero, List.set_cons_succ]
          refine wpHl.tk0 (i := 21) (d := some 41) (v := .bool false) rfl HS (by as_aux_lemma => kernel_rfl) rfl (fun _ _ _ h => h) (Or.inl ⟨by rfl, ?_⟩) HC0 ?_
          · intro u hC
            go_simp
          simp only [Act.put, List.setIfInBounds_toArray, List.set_cons_zero, List.set_cons_succ]
          refine wpHl.tk0 (i := 22) (d := some 42) (v := .bool false) rfl HS (by as_aux_lemma => kernel_rfl) rfl (fun _ _ _ h => h) (Or.inl ⟨by rfl, ?_⟩) HC0 ?_
          · intro u hC
            go_simp
          simp only [Act.put, List.setIfInBounds_toArray, List.set_cons_zero, List.set_cons_succ]
          refine wpHl.done (by as_aux_lemma => kernel_rfl) ?_ _
          clear CC HC0 HS
          have KB := hide (hB.out.trans (K.mono hB.out.size))
          have OC := hide (owns_on hO.out (ograwn K) (fun r e => by cases e))
          have SZ := hide KB.out.size
          obtain ⟨d1, d2⟩ := CI.out _ KB.out
          have RN := hide (fun (W : World) => one_rd W x1 x2)
          clear K
          go_wp2_with (at_builtin; refine wpList_append_items rfl _ _ rfl w.heap.size _ (i + k) _ rfl (OC.out.alloc _) _ [(x1, x2)] rfl (RN.out _) (by intro c h; cases h) (by have := HLL.out; unfold maxLen; simp; omega) (by have := HLL.out; simp; omega) (by have := SZ.out; simp; omega) ?_)
          intro v2 w2 own2 bel2
          rw [← flat_append] at own2
          have HB2 := hide ((KB.out.alloc SZ.out _).trans bel2)
          have HO2 := hide own2
          clear own2 bel2 d1 d2
          go_wp2
          go_roundw
          case rel => exact ⟨i + 1, k, dn ++ [(x1, x2)], by simp, by simp, by omega, by omega, hide (by rw [List.append_assoc]; exact ST.out), hide (by rw [Nat.add_right_comm]; exact HO2.out), HB2⟩
          case measure => simp [intOf]; omega
      · have qk : ¬ (k : Int) < (ys.length : Int) := by omega
        have ST : Hid (dn ++ ([(x1, x2)] ++ mrg (ocmp o) (xs.drop (i + 1)) (ys.drop k)) = mrg (ocmp o) xs ys) := hide (by have := hD.out; rw [mrg_a hil hkl hx] at this; exact this)
        have CI := hide (fun V (kk : Below w.heap.size w V) => (show V.cell? ⟨ga, oa + i * 2, none⟩ = some (.int .i64 x1) ∧ V.cell? ⟨ga, oa + i * 2 + 1, none⟩ = some (.int .i64 x2) from ⟨(kk.cell (p := ⟨ga, _, none⟩) hga).trans qx.1, (kk.cell (p := ⟨ga, _, none⟩) hga).trans qx.2⟩))
        clear hina qx hx
        go_wp2
        have CC : ∀ u : World, Below wr.heap.size wr u → True := fun u hu => trivial
        have K : Below wr.heap.size wr wr.drew := (Below.refl _ _).drew
        have HC0 := CC _ K
        refine wpHl.region0 (C := fun u => True) (by kernel_rfl) (by kernel_rfl) (fun HS => ?_)
        refine wpHl.tk0 (i := 0) (d := some 20) (v := .int .i64 (i : Int)) rfl HS (by as_aux_lemma => kernel_rfl) rfl (fun _ _ _ h => h) (Or.inl ⟨by rfl, ?_⟩) HC0 ?_
        · intro u hC
          go_simp
        simp only [Act.put, List.setIfInBounds_toArray, List.set_cons_zero, List.set_cons_succ]
        refine wpHl.tk0 (i := 1) (d := some 21) (v := .slice (some ⟨ga, oa, none⟩) xs.length ca) rfl HS (by as_aux_lemma => kernel_rfl) rfl (fun _ _ _ h => h) (Or.inl ⟨by rfl, ?_⟩) HC0 ?_
        · intro u hC
          go_simp
        simp only [Act.put, List.setIfInBounds_toArray, List.set_cons_zero, List.set_cons_succ]
        refine wpHl.tk0 (i := 2) (d := some 22) (v := .int .i64 (xs.length : Int)) rfl HS (by as_aux_lemma => kernel_rfl) rfl (fun _ _ _ h => h) (Or.inl ⟨by rfl, ?_⟩) HC0 ?_
        · intro u hC
          go_simp
        simp only [Act.put, List.setIfInBounds_toArray, List.set_cons_zero, List.set_cons_succ]
        refine wpHl.tk0 (i := 3) (d := some 23) (v := .bool false) rfl HS (by as_aux_lemma => kernel_rfl) rfl (fun _ _ _ h => h) (Or.inl ⟨by rfl, ?_⟩) HC0 ?_
        · intro u hC
          go_simp
        simp only [Act.put, List.setIfInBounds_toArray, List.set_cons_zero, List.set_cons_succ]
        refine wpHl.tk0 (i := 4) (d := some 24) (v := .bool false) rfl HS (by as_aux_lemma => kernel_rfl) rfl (fun _ _ _ h => h) (Or.inl ⟨by rfl, ?_⟩) HC0 ?_
        · intro u hC
          go_simp
        simp only [Act.put, List.setIfInBounds_toArray, List.set_cons_zero, List.set_cons_succ]
        refine wpHl.tk0 (i := 5) (d := some 25) (v := .int .i64 (k : Int)) rfl HS (by as_aux_lemma => kernel_rfl) rfl (fun _ _ _ h => h) (Or.inl ⟨by rfl, ?_⟩) HC0 ?_
        · intro u hC
          go_simp
        simp only [Act.put, List.setIfInBounds_toArray, List.set_cons_zero, List.set_cons_succ]
        refine wpHl.tk0 (i := 6) (d := some 26) (v := .slice bo ys.length cb) rfl HS (by as_aux_lemma => kernel_rfl) rfl (fun _ _ _ h => h) (Or.inl ⟨by rfl, ?_⟩) HC0 ?_
        · intro u hC
          go_simp
        simp only [Act.put, List.setIfInBounds_toArray, List.set_cons_zero, List.set_cons_succ]
        refine wpHl.tk0 (i := 7) (d := some 27) (v := .int .i64 (ys.length : Int)) rfl HS (by as_aux_lemma => kernel_rfl) rfl (fun _ _ _ h => h) (Or.inl ⟨by rfl, ?_⟩) HC0 ?_
        · intro u hC
          go_simp
        simp only [Act.put, List.setIfInBounds_toArray, List.set_cons_zero, List.set_cons_succ]
        refine wpHl.tk0 (i := 8) (d := some 28) (v := .bool false) rfl HS (by as_aux_lemma => kernel_rfl) rfl (fun _ _ _ h => h) (Or.inl ⟨by rfl, ?_⟩) HC0 ?_
        · intro u hC
          go_simp
        simp only [Act.put, List.setIfInBounds_toArray, List.set_cons_zero, List.set_cons_succ]
        refine wpHl.tk0 (i := 9) (d := some 29) (v := .bool false) rfl HS (by as_aux_lemma => kernel_rfl) rfl (fun _ _ _ h => h) (Or.inl ⟨by rfl, ?_⟩) HC0 ?_
        · intro u hC
          go_simp
        simp only [Act.put, List.setIfInBounds_toArray, List.set_cons_zero, List.set_cons_succ]
        refine wpHl.tk0 (i := 10) (d := some 30) (v := undef) rfl HS (by as_aux_lemma => kernel_rfl) rfl (fun _ _ _ h => h) (Or.inr ⟨by rfl, rfl⟩) HC0 ?_
        simp only [Act.put, List.setIfInBounds_toArray, List.set_cons_zero, List.set_cons_succ]
        refine wpHl.tk0 (i := 11) (d := some 31) (v := undef) rfl HS (by as_aux_lemma => kernel_rfl) rfl (fun _ _ _ h => h) (Or.inr ⟨by rfl, rfl⟩) HC0 ?_
        simp only [Act.put, List.setIfInBounds_toArray, List.set_cons_zero, List.set_cons_succ]
        refine wpHl.tk0 (i := 12) (d := some 32) (v := undef) rfl HS (by as_aux_lemma => kernel_rfl) rfl (fun _ _ _ h => h) (Or.inr ⟨by rfl, rfl⟩) HC0 ?_
        simp only [Act.put, List.setIfInBounds_toArray, List.set_cons_zero, List.set_cons_succ]
        refine wpHl.tk0 (i := 13) (d := some 33) (v := undef) rfl HS (by as_aux_lemma => kernel_rfl) rfl (fun _ _ _ h => h) (Or.inr ⟨by rfl, rfl⟩) HC0 ?_
        simp only [Act.put, List.setIfInBounds_toArray, List.set_cons_zero, List.set_cons_succ]
        refine wpHl.tk0 (i := 14) (d := some 34) (v := undef) rfl HS (by as_aux_lemma => kernel_rfl) rfl (fun _ _ _ h => h) (Or.inr ⟨by rfl, rfl⟩) HC0 ?_
        simp only [Act.put, List.setIfInBounds_toArray, List.set_cons_zero, List.set_cons_succ]
        refine wpHl.tk0 (i := 15) (d := some 35) (v := undef) rfl HS (by as_aux_lemma => kernel_rfl) rfl (fun _ _ _ h => h) (Or.inr ⟨by rfl, rfl⟩) HC0 ?_
        simp only [Act.put, List.setIfInBounds_toArray, List.set_cons_zero, List.set_cons_succ]
        refine wpHl.tk0 (i := 16) (d := some 36) (v := undef) rfl HS (by as_aux_lemma => kernel_rfl) rfl (fun _ _ _ h => h) (Or.inr ⟨by rfl, rfl⟩) HC0 ?_
        simp only [Act.put, List.setIfInBounds_toArray, List.set_cons_zero, List.set_cons_succ]
        refine wpHl.tk0 (i := 17) (d := some 37) (v := undef) rfl HS (by as_aux_lemma => kernel_rfl) rfl (fun _ _ _ h => h) (Or.inr ⟨by rfl, rfl⟩) HC0 ?_
        simp only [Act.put, List.setIfInBounds_toArray, List.set_cons_zero, List.set_cons_succ]
        refine wpHl.tk0 (i := 18) (d := some 38) (v := undef) rfl HS (by as_aux_lemma => kernel_rfl) rfl (fun _ _ _ h => h) (Or.inr ⟨by rfl, rfl⟩) HC0 ?_
        simp only [Act.put, List.setIfInBounds_toArray, List.set_cons_zero, List.set_cons_succ]
        refine wpHl.one (i := 19) (by as_aux_lemma => kernel_rfl) rfl (fun K1 hK1 => ?_)
        refine hK1 (Act.put _ (some 39) undef) _ ⟨fun _ => HC0, ?_⟩
        clear hK1 K1
        try simp only [Act.put, List.setIfInBounds_toArray, List.set_cons_zero, List.set_cons_succ]
        refine wpHl.tk0 (i := 20) (d := some 40) (v := undef) rfl HS (by as_aux_lemma => kernel_rfl) rfl (fun _ _ _ h => h) (Or.inr ⟨by rfl, rfl⟩) HC0 ?_
        simp only [Act.put, List.setIfInBounds_toArray, List.set_cons_zero, List.set_cons_succ]
        refine wpHl.tk0 (i := 21) (d := some 41) (v := .bool false) rfl HS (by as_aux_lemma => kernel_rfl) rfl (fun _ _ _ h => h) (Or.inl ⟨by rfl, ?_⟩) HC0 ?_
        · intro u hC
          go_simp
        simp only [Act.put, List.setIfInBounds_toArray, List.set_cons_zero, List.set_cons_succ]
        refine wpHl.tk0 (i := 22) (d := some 42) (v := .bool false) rfl HS (by as_aux_lemma => kernel_rfl) rfl (fun _ _ _ h => h) (Or.inl ⟨by rfl, ?_⟩) HC0 ?_
        · intro u hC
          go_simp
        simp only [Act.put, List.setIfInBounds_toArray, List.set_cons_zero, List.set_cons_succ]
        refine wpHl.done (by as_aux_lemma => kernel_rfl) ?_ _
        clear CC HC0 HS
        obtain ⟨wz, hwz⟩ : ∃ z, wr.drew = z := ⟨_, rfl⟩
        rw [hwz] at K ⊢
        clear hwz
        have KB := hide (hB.out.trans (K.mono hB.out.size))
        have OC := hide (owns_on hO.out (ograwn K) (fun r e => by cases e))
        have SZ := hide KB.out.size
        obtain ⟨d1, d2⟩ := CI.out _ KB.out
        have RN := hide (fun (W : World) => one_rd W x1 x2)
        clear K
        go_wp2_with (at_builtin; refine wpList_append_items rfl _ _ rfl w.heap.size _ (i + k) _ rfl (OC.out.alloc _) _ [(x1, x2)] rfl (RN.out _) (by intro c h; cases h) (by have := HLL.out; unfold maxLen; simp; omega) (by have := HLL.out; simp; omega) (by have := SZ.out; simp; omega) ?_)
        intro v2 w2 own2 bel2
        rw [← flat_append] at own2
        have HB2 := hide ((KB.out.alloc SZ.out _).trans bel2)
        have HO2 := hide own2
        clear own2 bel2 d1 d2
        go_wp2
        go_roundw
        case rel => exact ⟨i + 1, k, dn ++ [(x1, x2)], by simp, by simp, by omega, by omega, hide (by rw [List.append_assoc]; exact ST.out), hide (by rw [Nat.add_right_comm]; exact HO2.out), HB2⟩
        case measure => simp [intOf]; omega
    · have qi : ¬ (i : Int) < (xs.length : Int) := by omega
      by_cases hkl : k < ys.length
      · obtain rfl : i = xs.length := by omega
        obtain ⟨i, hi0⟩ : ∃ i, xs.length = i := ⟨_, rfl⟩
        obtain ⟨gb, ob, rfl, _, hgb, hinb⟩ := QB.out (by omega)
        have qk : (k : Int) < (ys.length : Int) := by omega
        obtain ⟨⟨y1, y2⟩, hy⟩ : ∃ y, ys[k] = y := ⟨_, rfl⟩
        have qy := hinb k hkl
        rw [hy] at qy
        have ST : Hid (dn ++ ([(y1, y2)] ++ mrg (ocmp o) (xs.drop xs.length) (ys.drop (k + 1))) = mrg (ocmp o) xs ys) := hide (by have := hD.out; rw [mrg_b hil hkl hy] at this; exact this)
        have CI := hide (fun V (kk : Below w.heap.size w V) => (show V.cell? ⟨gb, ob + k * 2, none⟩ = some (.int .i64 y1) ∧ V.cell? ⟨gb, ob + k * 2 + 1, none⟩ = some (.int .i64 y2) from ⟨(kk.cell (p := ⟨gb, _, none⟩) hgb).trans qy.1, (kk.cell (p := ⟨gb, _, none⟩) hgb).trans qy.2⟩))
        clear hinb qy hy hi0
        go_wp2
        have CC : ∀ u : World, Below wr.heap.size wr u → True := fun u hu => trivial
        have K : Below wr.heap.size wr wr.drew := (Below.refl _ _).drew
        have HC0 := CC _ K
        refine wpHl.region0 (C := fun u => True) (by kernel_rfl) (by kernel_rfl) (fun HS => ?_)
        refine wpHl.tk0 (i := 0) (d := some 20) (v := .int .i64 (xs.length : Int)) rfl HS (by as_aux_lemma => kernel_rfl) rfl (fun _ _ _ h => h) (Or.inl ⟨by rfl, ?_⟩) HC0 ?_
        · intro u hC
          go_simp
        simp only [Act.put, List.setIfInBounds_toArray, List.set_cons_zero, List.set_cons_succ]
        refine wpHl.tk0 (i := 1) (d := some 21) (v := .slice ao xs.length ca) rfl HS (by as_aux_lemma => kernel_rfl) rfl (fun _ _ _ h => h) (Or.inl ⟨by rfl, ?_⟩) HC0 ?_
        · intro u hC
          go_simp
        simp only [Act.put, List.setIfInBounds_toArray, List.set_cons_zero, List.set_cons_succ]
        refine wpHl.tk0 (i := 2) (d := some 22) (v := .int .i64 (xs.length : Int)) rfl HS (by as_aux_lemma => kernel_rfl) rfl (fun _ _ _ h => h) (Or.inl ⟨by rfl, ?_⟩) HC0 ?_
        · intro u hC
          go_simp
        simp only [Act.put, List.setIfInBounds_toArray, List.set_cons_zero, List.set_cons_succ]
        refine wpHl.tk0 (i := 3) (d := some 23) (v := .bool true) rfl HS (by as_aux_lemma => kernel_rfl) rfl (fun _ _ _ h => h) (Or.inl ⟨by rfl, ?_⟩) HC0 ?_
        · intro u hC
          go_simp
        simp only [Act.put, List.setIfInBounds_toArray, List.set_cons_zero, List.set_cons_succ]
        refine wpHl.tk0 (i := 4) (d := some 24) (v := .bool true) rfl HS (by as_aux_lemma => kernel_rfl) rfl (fun _ _ _ h => h) (Or.inl ⟨by rfl, ?_⟩) HC0 ?_
        · intro u hC
          go_simp
        simp only [Act.put, List.setIfInBounds_toArray, List.set_cons_zero, List.set_cons_succ]
        refine wpHl.tk0 (i := 5) (d := some 25) (v := undef) rfl HS (by as_aux_lemma => kernel_rfl) rfl (fun _ _ _ h => h) (Or.inr ⟨by rfl, rfl⟩) HC0 ?_
        simp only [Act.put, List.setIfInBounds_toArray, List.set_cons_zero, List.set_cons_succ]
        refine wpHl.tk0 (i := 6) (d := some 26) (v := undef) rfl HS (by as_aux_lemma => kernel_rfl) rfl (fun _ _ _ h => h) (Or.inr ⟨by rfl, rfl⟩) HC0 ?_
        simp only [Act.put, List.setIfInBounds_toArray, List.set_cons_zero, List.set_cons_succ]
        refine wpHl.tk0 (i := 7) (d := some 27) (v := undef) rfl HS (by as_aux_lemma => kernel_rfl) rfl (fun _ _ _ h => h) (Or.inr ⟨by rfl, rfl⟩) HC0 ?_
        simp only [Act.put, List.setIfInBounds_toArray, List.set_cons_zero, List.set_cons_succ]
        refine wpHl.tk0 (i := 8) (d := some 28) (v := undef) rfl HS (by as_aux_lemma => kernel_rfl) rfl (fun _ _ _ h => h) (Or.inr ⟨by rfl, rfl⟩) HC0 ?_
        simp only [Act.put, List.setIfInBounds_toArray, List.set_cons_zero, List.set_cons_succ]
        refine wpHl.tk0 (i := 9) (d := some 29) (v := undef) rfl HS (by as_aux_lemma => kernel_rfl) rfl (fun _ _ _ h => h) (Or.inr ⟨by rfl, rfl⟩) HC0 ?_
        simp only [Act.put, List.setIfInBounds_toArray, List.set_cons_zero, List.set_cons_succ]
        refine wpHl.tk0 (i := 10) (d := some 30) (v := undef) rfl HS (by as_aux_lemma => kernel_rfl) rfl (fun _ _ _ h => h) (Or.inr ⟨by rfl, rfl⟩) HC0 ?_
        simp only [Act.put, List.setIfInBounds_toArray, List.set_cons_zero, List.set_cons_succ]
        refine wpHl.tk0 (i := 11) (d := some 31) (v := undef) rfl HS (by as_aux_lemma => kernel_rfl) rfl (fun _ _ _ h => h) (Or.inr ⟨by rfl, rfl⟩) HC0 ?_
        simp only [Act.put, List.setIfInBounds_toArray, List.set_cons_zero, List.set_cons_succ]
        refine wpHl.tk0 (i := 12) (d := some 32) (v := undef) rfl HS (by as_aux_lemma => kernel_rfl) rfl (fun _ _ _ h => h) (Or.inr ⟨by rfl, rfl⟩) HC0 ?_
        simp only [Act.put, List.setIfInBounds_toArray, List.set_cons_zero, List.set_cons_succ]
        refine wpHl.tk0 (i := 13) (d := some 33) (v := undef) rfl HS (by as_aux_lemma => kernel_rfl) rfl (fun _ _ _ h => h) (Or.inr ⟨by rfl, rfl⟩) HC0 ?_
        simp only [Act.put, List.setIfInBounds_toArray, List.set_cons_zero, List.set_cons_succ]
        refine wpHl.tk0 (i := 14) (d := some 34) (v := undef) rfl HS (by as_aux_lemma => kernel_rfl) rfl (fun _ _ _ h => h) (Or.inr ⟨by rfl, rfl⟩) HC0 ?_
        simp only [Act.put, List.setIfInBounds_toArray, List.set_cons_zero, List.set_cons_succ]
        refine wpHl.tk0 (i := 15) (d := some 35) (v := undef) rfl HS (by as_aux_lemma => kernel_rfl) rfl (fun _ _ _ h => h) (Or.inr ⟨by rfl, rfl⟩) HC0 ?_
        simp only [Act.put, List.setIfInBounds_toArray, List.set_cons_zero, List.set_cons_succ]
        refine wpHl.tk0 (i := 16) (d := some 36) (v := undef) rfl HS (by as_aux_lemma => kernel_rfl) rfl (fun _ _ _ h => h) (Or.inr ⟨by rfl, rfl⟩) HC0 ?_
        simp only [Act.put, List.setIfInBounds_toArray, List.set_cons_zero, List.set_cons_succ]
        refine wpHl.tk0 (i := 17) (d := some 37) (v := undef) rfl HS (by as_aux_lemma => kernel_rfl) rfl (fun _ _ _ h => h) (Or.inr ⟨by rfl, rfl⟩) HC0 ?_
        simp only [Act.put, List.setIfInBounds_toArray, List.set_cons_zero, List.set_cons_succ]
        refine wpHl.tk0 (i := 18) (d := some 38) (v := undef) rfl HS (by as_aux_lemma => kernel_rfl) rfl (fun _ _ _ h => h) (Or.inr ⟨by rfl, rfl⟩) HC0 ?_
        simp only [Act.put, List.setIfInBounds_toArray, List.set_cons_zero, List.set_cons_succ]
        refine wpHl.one (i := 19) (by as_aux_lemma => kernel_rfl) rfl (fun K1 hK1 => ?_)
        refine hK1 (Act.put _ (some 39) undef) _ ⟨fun _ => HC0, ?_⟩
        clear hK1 K1
        try simp only [Act.put, List.setIfInBounds_toArray, List.set_cons_zero, List.set_cons_succ]
        refine wpHl.tk0 (i := 20) (d := some 40) (v := undef) rfl HS (by as_aux_lemma => kernel_rfl) rfl (fun _ _ _ h => h) (Or.inr ⟨by rfl, rfl⟩) HC0 ?_
        simp only [Act.put, List.setIfInBounds_toArray, List.set_cons_zero, List.set_cons_succ]
        refine wpHl.tk0 (i := 21) (d := some 41) (v := undef) rfl HS (by as_aux_lemma => kernel_rfl) rfl (fun _ _ _ h => h) (Or.inr ⟨by rfl, rfl⟩) HC0 ?_
        simp only [Act.put, List.setIfInBounds_toArray, List.set_cons_zero, List.set_cons_succ]
        refine wpHl.tk0 (i := 22) (d := some 42) (v := .bool true) rfl HS (by as_aux_lemma => kernel_rfl) rfl (fun _ _ _ h => h) (Or.inl ⟨by rfl, ?_⟩) HC0 ?_
        · intro u hC
          go_simp
        simp only [Act.put, List.setIfInBounds_toArray, List.set_cons_zero, List.set_cons_succ]
        refine wpHl.done (by as_aux_lemma => kernel_rfl) ?_ _
        clear CC HC0 HS
        obtain ⟨wz, hwz⟩ : ∃ z, wr.drew = z := ⟨_, rfl⟩
        rw [hwz] at K ⊢
        clear hwz
        have KB := hide (hB.out.trans (K.mono hB.out.size))
        have OC := hide (owns_on hO.out (ograwn K) (fun r e => by cases e))
        have SZ := hide KB.out.size
        obtain ⟨d1, d2⟩ := CI.out _ KB.out
        have RN := hide (fun (W : World) => one_rd W y1 y2)
        clear K
        go_wp2_with (at_builtin; refine wpList_append_items rfl _ _ rfl w.heap.size _ (xs.length + k) _ rfl (OC.out.alloc _) _ [(y1, y2)] rfl (RN.out _) (by intro c h; cases h) (by have := HLL.out; unfold maxLen; simp; omega) (by have := HLL.out; simp; omega) (by have := SZ.out; simp; omega) ?_)
        intro v2 w2 own2 bel2
        rw [← flat_append] at own2
        have HB2 := hide ((KB.out.alloc SZ.out _).trans bel2)
        have HO2 := hide own2
        clear own2 bel2 d1 d2
        go_wp2
        go_roundw
        case rel => exact ⟨xs.length, k + 1, dn ++ [(y1, y2)], by simp, by simp, by omega, by omega, hide (by rw [List.append_assoc]; exact ST.out), HO2, HB2⟩
        case measure => simp [intOf]; omega
      · obtain rfl : i = xs.length := by omega
        obtain rfl : k = ys.length := by omega
        have qk : ∀ x : Nat, ¬ (x : Int) < (x : Int) := fun x => by omega
        have hDD := hD.out
        rw [List.drop_length, List.drop_length, mrg_nil, List.append_nil] at hDD
        subst hDD
        go_wp2
        go_ret
        exact ⟨⟨_, rfl, _, hO.out⟩, hB.out⟩

end Go.Proofs.Ytomieeajmelglaa

namespace Go.Proofs.Ytomieeajmelglaa
open Go.RowKit Go.Shelf
set_option linter.unusedVariables false
set_option linter.unusedSimpArgs false

set_option maxRecDepth 100000 in
set_option maxHeartbeats 8000000 in
theorem runique_any {w : World} {va : Value} {l : List It} {o : Int} (ha : ItRd (fun _ => True) w va l) (hl : l.length ≤ 8796093022200) :
    Calls Try.prog 19 #[va, .int .i64 o] w fun e w' => (∃ v, e = .returned v ∧ ∃ n, w'.ownsRow w.heap.size 27 2 v n (flat (fs1 (ocmp o) l))) ∧ Below w.heap.size w w' := by
  obtain ⟨ao, ca, rfl, hac, ham, hacl⟩ := ha
  have QA := hide hacl
  have HLL := hide hl
  clear hacl hac ham
  go_enter Try.func19, Try.ntmps19
  go_wp2
  go_loopw [5, 6] (fun v p wr => ∃ (i n : Nat), p = .int .i64 i ∧ i ≤ l.length ∧ n ≤ i ∧ Hid (wr.ownsRow w.heap.size 27 2 v n (flat (fs1 (ocmp o) (l.take i)))) ∧ Hid (Below w.heap.size w wr)) (fun _ p _ => l.length - (intOf p).toNat)
  case atStart => exact ⟨0, 0, rfl, by omega, by omega, hide (by simpa [flat, fs1] using World.ownsRow_nil _ _ _ _), hide (Below.refl _ _)⟩
  case round =>
    obtain ⟨i, n, rfl, hi, hni, hO, hB⟩ := hrel
    by_cases hil : i < l.length
    · obtain ⟨ga, oa, rfl, _, hga, hin⟩ := QA.out (by omega)
      have HNL : Hid (n + 1 ≤ 8796093022200) := hide (by omega)
      obtain ⟨⟨y1, y2⟩, hy⟩ : ∃ y, l[i] = y := ⟨_, rfl⟩
      have FT := fs1_take (ocmp o) (0, 0) l hil
      obtain ⟨dn, hdn⟩ : ∃ d, fs1 (ocmp o) (l.take i) = d := ⟨_, rfl⟩
      rw [hdn] at hO FT
      have qy := hin i hil
      rw [hy] at qy FT
      clear hdn
      by_cases h0 : i = 0
      · subst h0
        rw [if_pos (.inl rfl)] at FT
        have HFS := hide FT
        simp only [Nat.zero_mul, Nat.add_zero] at qy
        have q1 : (0 : Int) < (l.length : Int) := by omega
        have CI := hide (fun V (kk : Below w.heap.size w V) => (show V.cell? ⟨ga, oa, none⟩ = some (.int .i64 y1) ∧ V.cell? ⟨ga, oa + 1, none⟩ = some (.int .i64 y2) from ⟨(kk.cell (p := ⟨ga, _, none⟩) hga).trans qy.1, (kk.cell (p := ⟨ga, _, none⟩) hga).trans qy.2⟩))
        clear hin qy hy FT
        go_wp2
        have CC : ∀ u : World, Below wr.heap.size wr u → True := fun u hu => trivial
        have K : Below wr.heap.size wr wr.drew := (Below.refl _ _).drew
        have HC0 := CC _ K
        refine wpHl.region0 (C := fun u => True) (by kernel_rfl) (by kernel_rfl) (fun HS => ?_)
        refine wpHl.tk0 (i := 0) (d := some 13) (v := .int .i64 0) rfl HS (by as_aux_lemma => kernel_rfl) rfl (fun _ _ _ h => h) (Or.inl ⟨by rfl, ?_⟩) HC0 ?_
        · intro u hC
          go_simp
        simp only [Act.put, List.setIfInBounds_toArray, List.set_cons_zero, List.set_cons_succ]
        refine wpHl.tk0 (i := 1) (d := some 14) (v := .bool true) rfl HS (by as_aux_lemma => kernel_rfl) rfl (fun _ _ _ h => h) (Or.inl ⟨by rfl, ?_⟩) HC0 ?_
        · intro u hC
          go_simp
        simp only [Act.put, List.setIfInBounds_toArray, List.set_cons_zero, List.set_cons_succ]
        refine wpHl.tk0 (i := 2) (d := some 15) (v := .bool true) rfl HS (by as_aux_lemma => kernel_rfl) rfl (fun _ _ _ h => h) (Or.inl ⟨by rfl, ?_⟩) HC0 ?_
        · intro u hC
          go_simp
        simp only [Act.put, List.setIfInBounds_toArray, List.set_cons_zero, List.set_cons_succ]
        refine wpHl.tk0 (i := 3) (d := some 16) (v := undef) rfl HS (by as_aux_lemma => kernel_rfl) rfl (fun _ _ _ h => h) (Or.inr ⟨by rfl, rfl⟩) HC0 ?_
        simp only [Act.put, List.setIfInBounds_toArray, List.set_cons_zero, List.set_cons_succ]
        refine wpHl.tk0 (i := 4) (d := some 17) (v := undef) rfl HS (by as_aux_lemma => kernel_rfl) rfl (fun _ _ _ h => h) (Or.inr ⟨by rfl, rfl⟩) HC0 ?_
        simp only [Act.put, List.setIfInBounds_toArray, List.set_cons_zero, List.set_cons_succ]
        refine wpHl.tk0 (i := 5) (d := some 18) (v := undef) rfl HS (by as_aux_lemma => kernel_rfl) rfl (fun _ _ _ h => h) (Or.inr ⟨by rfl, rfl⟩) HC0 ?_
        simp only [Act.put, List.setIfInBounds_toArray, List.set_cons_zero, List.set_cons_succ]
        refine wpHl.tk0 (i := 6) (d := some 19) (v := undef) rfl HS (by as_aux_lemma => kernel_rfl) rfl (fun _ _ _ h => h) (Or.inr ⟨by rfl, rfl⟩) HC0 ?_
        simp only [Act.put, List.setIfInBounds_toArray, List.set_cons_zero, List.set_cons_succ]
        refine wpHl.tk0 (i := 7) (d := some 20) (v := undef) rfl HS (by as_aux_lemma => kernel_rfl) rfl (fun _ _ _ h => h) (Or.inr ⟨by rfl, rfl⟩) HC0 ?_
        simp only [Act.put, List.setIfInBounds_toArray, List.set_cons_zero, List.set_cons_succ]
        refine wpHl.tk0 (i := 8) (d := some 21) (v := undef) rfl HS (by as_aux_lemma => kernel_rfl) rfl (fun _ _ _ h => h) (Or.inr ⟨by rfl, rfl⟩) HC0 ?_
        simp only [Act.put, List.setIfInBounds_toArray, List.set_cons_zero, List.set_cons_succ]
        refine wpHl.tk0 (i := 9) (d := some 22) (v := undef) rfl HS (by as_aux_lemma => kernel_rfl) rfl (fun _ _ _ h => h) (Or.inr ⟨by rfl, rfl⟩) HC0 ?_
        simp only [Act.put, List.setIfInBounds_toArray, List.set_cons_zero, List.set_cons_succ]
        refine wpHl.tk0 (i := 10) (d := some 23) (v := undef) rfl HS (by as_aux_lemma => kernel_rfl) rfl (fun _ _ _ h => h) (Or.inr ⟨by rfl, rfl⟩) HC0 ?_
        simp only [Act.put, List.setIfInBounds_toArray, List.set_cons_zero, List.set_cons_succ]
        refine wpHl.tk0 (i := 11) (d := some 24) (v := undef) rfl HS (by as_aux_lemma => kernel_rfl) rfl (fun _ _ _ h => h) (Or.inr ⟨by rfl, rfl⟩) HC0 ?_
        simp only [Act.put, List.setIfInBounds_toArray, List.set_cons_zero, List.set_cons_succ]
        refine wpHl.tk0 (i := 12) (d := some 25) (v := undef) rfl HS (by as_aux_lemma => kernel_rfl) rfl (fun _ _ _ h => h) (Or.inr ⟨by rfl, rfl⟩) HC0 ?_
        simp only [Act.put, List.setIfInBounds_toArray, List.set_cons_zero, List.set_cons_succ]
        refine wpHl.one (i := 13) (by as_aux_lemma => kernel_rfl) rfl (fun K1 hK1 => ?_)
        refine hK1 (Act.put _ (some 26) undef) _ ⟨fun _ => HC0, ?_⟩
        clear hK1 K1
        try simp only [Act.put, List.setIfInBounds_toArray, List.set_cons_zero, List.set_cons_succ]
        refine wpHl.tk0 (i := 14) (d := some 27) (v := undef) rfl HS (by as_aux_lemma => kernel_rfl) rfl (fun _ _ _ h => h) (Or.inr ⟨by rfl, rfl⟩) HC0 ?_
        simp only [Act.put, List.setIfInBounds_toArray, List.set_cons_zero, List.set_cons_succ]
        refine wpHl.tk0 (i := 15) (d := some 28) (v := .bool true) rfl HS (by as_aux_lemma => kernel_rfl) rfl (fun _ _ _ h => h) (Or.inl ⟨by rfl, ?_⟩) HC0 ?_
        · intro u hC
          go_simp
        simp only [Act.put, List.setIfInBounds_toArray, List.set_cons_zero, List.set_cons_succ]
        refine wpHl.done (by as_aux_lemma => kernel_rfl) ?_ _
        clear CC HC0 HS
        obtain ⟨wz, hwz⟩ : ∃ z, wr.drew = z := ⟨_, rfl⟩
        rw [hwz] at K ⊢
        clear hwz
        have KB := hide (hB.out.trans (K.mono hB.out.size))
        have OC := hide (owns_on hO.out (ograwn K) (fun r e => by cases e))
        have SZ := hide KB.out.size
        obtain ⟨d1, d2⟩ := CI.out _ KB.out
        have RN := hide (fun (W : World) => one_rd W y1 y2)
        clear K
        go_wp2_with (at_builtin; refine wpList_append_items rfl _ _ rfl w.heap.size _ n _ rfl (OC.out.alloc _) _ [(y1, y2)] rfl (RN.out _) (by intro c h; cases h) (by have := HNL.out; unfold maxLen; simp; omega) (by have := HNL.out; simp; omega) (by have := SZ.out; simp; omega) ?_)
        intro v2 w2 own2 bel2
        rw [← flat_append, ← HFS.out] at own2
        have HB2 := hide ((KB.out.alloc SZ.out _).trans bel2)
        have HO2 := hide own2
        clear own2 bel2 d1 d2
        go_wp2
        go_roundw
        case rel => exact ⟨1, n + 1, by simp, by omega, by omega, HO2, HB2⟩
        case measure => simp [intOf]; omega
      · obtain ⟨k, rfl⟩ : ∃ k, i = k + 1 := ⟨i - 1, by omega⟩
        have hkl : k < l.length := by omega
        obtain ⟨⟨x1, x2⟩, hx⟩ : ∃ y, l[k] = y := ⟨_, rfl⟩
        have qx := hin k hkl
        rw [hx] at qx
        have ex : l[k + 1 - 1]?.getD (0, 0) = (x1, x2) := by rw [Nat.add_sub_cancel, List.getElem?_eq_getElem hkl, hx]; rfl
        rw [ex] at FT
        have HC := hide (fun (V : World) => ocmp_any (w := V) (o := o) (a := (x1, x2)) (b := (y1, y2)))
        obtain ⟨c, hc⟩ : ∃ c, ocmp o (x1, x2) (y1, y2) = c := ⟨_, rfl⟩
        rw [hc] at HC FT
        have w0 : IntKind.i64.wrap ((k : Int) + 1 - 1) = (k : Int) := by rw [IntKind.wrap_i64]; omega
        have w1 : IntKind.i64.wrap ((k : Int) + 1 + 1) = (k : Int) + 1 + 1 := by rw [IntKind.wrap_i64]; omega
        have q0 : (k : Int) < (l.length : Int) := by omega
        have q1 : ¬ (k : Int) + 1 = 0 := by omega
        rw [show ((k + 1 : Nat) : Int) = (k : Int) + 1 by omega]
        obtain ⟨j, hj⟩ : ∃ j, k + 1 = j := ⟨_, rfl⟩
        have hjc : (k : Int) + 1 = (j : Int) := by omega
        rw [hj] at qy FT hil hni
        rw [hjc] at w0 w1 q1 ⊢
        have q2 : (j : Int) < (l.length : Int) := by omega
        have q3 : ¬ j = 0 := by omega
        have CF : Hid (∀ V, Below wr.heap.size wr V → V.cell? ⟨ga, oa + k * 2, none⟩ = some (.int .i64 x1) ∧ V.cell? ⟨ga, oa + k * 2 + 1, none⟩ = some (.int .i64 x2) ∧ V.cell? ⟨ga, oa + j * 2, none⟩ = some (.int .i64 y1) ∧ V.cell? ⟨ga, oa + j * 2 + 1, none⟩ = some (.int .i64 y2)) := hide (fun V kk => by
          have k2 := hB.out.trans (kk.mono hB.out.size)
          exact ⟨(k2.cell (p := ⟨ga, _, none⟩) hga).trans qx.1, (k2.cell (p := ⟨ga, _, none⟩) hga).trans qx.2, (k2.cell (p := ⟨ga, _, none⟩) hga).trans qy.1, (k2.cell (p := ⟨ga, _, none⟩) hga).trans qy.2⟩)
        have CI := hide (fun V (kk : Below w.heap.size w V) => (show V.cell? ⟨ga, oa + j * 2, none⟩ = some (.int .i64 y1) ∧ V.cell? ⟨ga, oa + j * 2 + 1, none⟩ = some (.int .i64 y2) from ⟨(kk.cell (p := ⟨ga, _, none⟩) hga).trans qy.1, (kk.cell (p := ⟨ga, _, none⟩) hga).trans qy.2⟩))
        clear hin qx qy hc hy hx ex h0 hi
        by_cases hc0 : c = 0
        · rw [if_neg (fun h => h.elim (fun h => by omega) (fun h => h hc0)), List.append_nil] at FT
          have HFS := hide FT
          subst hc0
          clear FT hj
          go_wp2
          have CC : ∀ u : World, Below wr.heap.size wr u → u.cell? ⟨ga, oa + k * 2, none⟩ = some (.int .i64 x1) ∧ u.cell? ⟨ga, oa + k * 2 + 1, none⟩ = some (.int .i64 x2) ∧ u.cell? ⟨ga, oa + j * 2, none⟩ = some (.int .i64 y1) ∧ u.cell? ⟨ga, oa + j * 2 + 1, none⟩ = some (.int .i64 y2) := fun u hu => CF.out u hu
          have K : Below wr.heap.size wr wr.drew := (Below.refl _ _).drew
          have HC0 := CC _ K
          refine wpHl.region0 (C := fun u => u.cell? ⟨ga, oa + k * 2, none⟩ = some (.int .i64 x1) ∧ u.cell? ⟨ga, oa + k * 2 + 1, none⟩ = some (.int .i64 x2) ∧ u.cell? ⟨ga, oa + j * 2, none⟩ = some (.int .i64 y1) ∧ u.cell? ⟨ga, oa + j * 2 + 1, none⟩ = some (.int .i64 y2)) (by kernel_rfl) (by kernel_rfl) (fun HS => ?_)
          refine wpHl.tk0 (i := 0) (d := some 13) (v := .int .i64 (j : Int)) rfl HS (by as_aux_lemma => kernel_rfl) rfl (fun _ _ _ h => h) (Or.inl ⟨by rfl, ?_⟩) HC0 ?_
          · intro u hC
            go_simp
          simp only [Act.put, List.setIfInBounds_toArray, List.set_cons_zero, List.set_cons_succ]
          refine wpHl.tk0 (i := 1) (d := some 14) (v := .bool false) rfl HS (by as_aux_lemma => kernel_rfl) rfl (fun _ _ _ h => h) (Or.inl ⟨by rfl, ?_⟩) HC0 ?_
          · intro u hC
            go_simp
          simp only [Act.put, List.setIfInBounds_toArray, List.set_cons_zero, List.set_cons_succ]
          refine wpHl.tk0 (i := 2) (d := some 15) (v := .bool false) rfl HS (by as_aux_lemma => kernel_rfl) rfl (fun _ _ _ h => h) (Or.inl ⟨by rfl, ?_⟩) HC0 ?_
          · intro u hC
            go_simp
          simp only [Act.put, List.setIfInBounds_toArray, List.set_cons_zero, List.set_cons_succ]
          refine wpHl.tk0 (i := 3) (d := some 16) (v := .int .i64 o) rfl HS (by as_aux_lemma => kernel_rfl) rfl (fun _ _ _ h => h) (Or.inl ⟨by rfl, ?_⟩) HC0 ?_
          · intro u hC
            go_simp
          simp only [Act.put, List.setIfInBounds_toArray, List.set_cons_zero, List.set_cons_succ]
          refine wpHl.tk0 (i := 4) (d := some 17) (v := .slice (some ⟨ga, oa, none⟩) l.length ca) rfl HS (by as_aux_lemma => kernel_rfl) rfl (fun _ _ _ h => h) (Or.inl ⟨by rfl, ?_⟩) HC0 ?_
          · intro u hC
            go_simp
          simp only [Act.put, List.setIfInBounds_toArray, List.set_cons_zero, List.set_cons_succ]
          refine wpHl.tk0 (i := 5) (d := some 18) (v := .int .i64 (j : Int)) rfl HS (by as_aux_lemma => kernel_rfl) rfl (fun _ _ _ h => h) (Or.inl ⟨by rfl, ?_⟩) HC0 ?_
          · intro u hC
            go_simp
          simp only [Act.put, List.setIfInBounds_toArray, List.set_cons_zero, List.set_cons_succ]
          refine wpHl.tk0 (i := 6) (d := some 19) (v := .int .i64 (k : Int)) rfl HS (by as_aux_lemma => kernel_rfl) rfl (fun _ _ _ h => h) (Or.inl ⟨by rfl, ?_⟩) HC0 ?_
          · intro u hC
            go_simp
          simp only [Act.put, List.setIfInBounds_toArray, List.set_cons_zero, List.set_cons_succ]
          refine wpHl.tk0 (i := 7) (d := some 20) (v := .pointer (some ⟨ga, oa + k * 2, none⟩)) rfl HS (by as_aux_lemma => kernel_rfl) rfl (fun _ _ _ h => h) (Or.inl ⟨by rfl, ?_⟩) HC0 ?_
          · intro u hC
            go_simp
          simp only [Act.put, List.setIfInBounds_toArray, List.set_cons_zero, List.set_cons_succ]
          refine wpHl.tk0 (i := 8) (d := some 21) (v := .agg #[.int .i64 x1, .int .i64 x2]) rfl HS (by as_aux_lemma => kernel_rfl) rfl (fun _ _ _ h => h) (Or.inl ⟨by rfl, ?_⟩) HC0 ?_
          · intro u hC
            obtain ⟨z0, z1, z2, z3⟩ := hC
            go_simp
          simp only [Act.put, List.setIfInBounds_toArray, List.set_cons_zero, List.set_cons_succ]
          refine wpHl.tk0 (i := 9) (d := some 22) (v := .slice (some ⟨ga, oa, none⟩) l.length ca) rfl HS (by as_aux_lemma => kernel_rfl) rfl (fun _ _ _ h => h) (Or.inl ⟨by rfl, ?_⟩) HC0 ?_
          · intro u hC
            go_simp
          simp only [Act.put, List.setIfInBounds_toArray, List.set_cons_zero, List.set_cons_succ]
          refine wpHl.tk0 (i := 10) (d := some 23) (v := .int .i64 (j : Int)) rfl HS (by as_aux_lemma => kernel_rfl) rfl (fun _ _ _ h => h) (Or.inl ⟨by rfl, ?_⟩) HC0 ?_
          · intro u hC
            go_simp
          simp only [Act.put, List.setIfInBounds_toArray, List.set_cons_zero, List.set_cons_succ]
          refine wpHl.tk0 (i := 11) (d := some 24) (v := .pointer (some ⟨ga, oa + j * 2, none⟩)) rfl HS (by as_aux_lemma => kernel_rfl) rfl (fun _ _ _ h => h) (Or.inl ⟨by rfl, ?_⟩) HC0 ?_
          · intro u hC
            go_simp
          simp only [Act.put, List.setIfInBounds_toArray, List.set_cons_zero, List.set_cons_succ]
          refine wpHl.tk0 (i := 12) (d := some 25) (v := .agg #[.int .i64 y1, .int .i64 y2]) rfl HS (by as_aux_lemma => kernel_rfl) rfl (fun _ _ _ h => h) (Or.inl ⟨by rfl, ?_⟩) HC0 ?_
          · intro u hC
            obtain ⟨z0, z1, z2, z3⟩ := hC
            go_simp
          simp only [Act.put, List.setIfInBounds_toArray, List.set_cons_zero, List.set_cons_succ]
          refine wpHl.one (i := 13) (by as_aux_lemma => kernel_rfl) rfl (fun K1 hK1 => ?_)
          rw [if_pos (by rfl)]
          refine wp_call_of (f := 23) (args := #[.int .i64 o, .agg #[.int .i64 x1, .int .i64 x2], .agg #[.int .i64 y1, .int .i64 y2]]) (by kernel_rfl) ?_
          with_reducible refine (HC.out _).mono ?_
          rintro e wn ⟨rfl, hb⟩
          replace K := below_trans K hb
          clear HC0
          have HC0 := CC _ K
          refine hK1 (Act.put _ (some 26) _) _ ⟨fun _ => HC0, ?_⟩
          clear hK1 K1 hb
          try simp only [Act.put, List.setIfInBounds_toArray, List.set_cons_zero, List.set_cons_succ]
          refine wpHl.tk0 (i := 14) (d := some 27) (v := .bool false) rfl HS (by as_aux_lemma => kernel_rfl) rfl (fun _ _ _ h => h) (Or.inl ⟨by rfl, ?_⟩) HC0 ?_
          · intro u hC
            go_simp
          simp only [Act.put, List.setIfInBounds_toArray, List.set_cons_zero, List.set_cons_succ]
          refine wpHl.tk0 (i := 15) (d := some 28) (v := .bool false) rfl HS (by as_aux_lemma => kernel_rfl) rfl (fun _ _ _ h => h) (Or.inl ⟨by rfl, ?_⟩) HC0 ?_
          · intro u hC
            go_simp
          simp only [Act.put, List.setIfInBounds_toArray, List.set_cons_zero, List.set_cons_succ]
          refine wpHl.done (by as_aux_lemma => kernel_rfl) ?_ _
          clear CC HC0 HS
          have KB := hide (hB.out.trans (K.mono hB.out.size))
          have OC := hide (owns_on hO.out (ograwn K) (fun r e => by cases e))
          clear K
          go_wp2
          go_roundw
          case rel => exact ⟨j + 1, n, by simp, by omega, by omega, hide (by rw [HFS.out]; exact OC.out), KB⟩
          case measure => simp [intOf]; omega
        · rw [if_pos (.inr hc0)] at FT
          have HFS := hide FT
          clear FT hj
          go_wp2
          have CC : ∀ u : World, Below wr.heap.size wr u → u.cell? ⟨ga, oa + k * 2, none⟩ = some (.int .i64 x1) ∧ u.cell? ⟨ga, oa + k * 2 + 1, none⟩ = some (.int .i64 x2) ∧ u.cell? ⟨ga, oa + j * 2, none⟩ = some (.int .i64 y1) ∧ u.cell? ⟨ga, oa + j * 2 + 1, none⟩ = some (.int .i64 y2) := fun u hu => CF.out u hu
          have K : Below wr.heap.size wr wr.drew := (Below.refl _ _).drew
          have HC0 := CC _ K
          refine wpHl.region0 (C := fun u => u.cell? ⟨ga, oa + k * 2, none⟩ = some (.int .i64 x1) ∧ u.cell? ⟨ga, oa + k * 2 + 1, none⟩ = some (.int .i64 x2) ∧ u.cell? ⟨ga, oa + j * 2, none⟩ = some (.int .i64 y1) ∧ u.cell? ⟨ga, oa + j * 2 + 1, none⟩ = some (.int .i64 y2)) (by kernel_rfl) (by kernel_rfl) (fun HS => ?_)
          refine wpHl.tk0 (i := 0) (d := some 13) (v := .int .i64 (j : Int)) rfl HS (by as_aux_lemma => kernel_rfl) rfl (fun _ _ _ h => h) (Or.inl ⟨by rfl, ?_⟩) HC0 ?_
          · intro u hC
            go_simp
          simp only [Act.put, List.setIfInBounds_toArray, List.set_cons_zero, List.set_cons_succ]
          refine wpHl.tk0 (i := 1) (d := some 14) (v := .bool false) rfl HS (by as_aux_lemma => kernel_rfl) rfl (fun _ _ _ h => h) (Or.inl ⟨by rfl, ?_⟩) HC0 ?_
          · intro u hC
            go_simp
          simp only [Act.put, List.setIfInBounds_toArray, List.set_cons_zero, List.set_cons_succ]
          refine wpHl.tk0 (i := 2) (d := some 15) (v := .bool false) rfl HS (by as_aux_lemma => kernel_rfl) rfl (fun _ _ _ h => h) (Or.inl ⟨by rfl, ?_⟩) HC0 ?_
          · intro u hC
            go_simp
          simp only [Act.put, List.setIfInBounds_toArray, List.set_cons_zero, List.set_cons_succ]
          refine wpHl.tk0 (i := 3) (d := some 16) (v := .int .i64 o) rfl HS (by as_aux_lemma => kernel_rfl) rfl (fun _ _ _ h => h) (Or.inl ⟨by rfl, ?_⟩) HC0 ?_
          · intro u hC
            go_simp
          simp only [Act.put, List.setIfInBounds_toArray, List.set_cons_zero, List.set_cons_succ]
          refine wpHl.tk0 (i := 4) (d := some 17) (v := .slice (some ⟨ga, oa, none⟩) l.length ca) rfl HS (by as_aux_lemma => kernel_rfl) rfl (fun _ _ _ h => h) (Or.inl ⟨by rfl, ?_⟩) HC0 ?_
          · intro u hC
            go_simp
          simp only [Act.put, List.setIfInBounds_toArray, List.set_cons_zero, List.set_cons_succ]
          refine wpHl.tk0 (i := 5) (d := some 18) (v := .int .i64 (j : Int)) rfl HS (by as_aux_lemma => kernel_rfl) rfl (fun _ _ _ h => h) (Or.inl ⟨by rfl, ?_⟩) HC0 ?_
          · intro u hC
            go_simp
          simp only [Act.put, List.setIfInBounds_toArray, List.set_cons_zero, List.set_cons_succ]
          refine wpHl.tk0 (i := 6) (d := some 19) (v := .int .i64 (k : Int)) rfl HS (by as_aux_lemma => kernel_rfl) rfl (fun _ _ _ h => h) (Or.inl ⟨by rfl, ?_⟩) HC0 ?_
          · intro u hC
            go_simp
          simp only [Act.put, List.setIfInBounds_toArray, List.set_cons_zero, List.set_cons_succ]
          refine wpHl.tk0 (i := 7) (d := some 20) (v := .pointer (some ⟨ga, oa + k * 2, none⟩)) rfl HS (by as_aux_lemma => kernel_rfl) rfl (fun _ _ _ h => h) (Or.inl ⟨by rfl, ?_⟩) HC0 ?_
          · intro u hC
            go_simp
          simp only [Act.put, List.setIfInBounds_toArray, List.set_cons_zero, List.set_cons_succ]
          refine wpHl.tk0 (i := 8) (d := some 21) (v := .agg #[.int .i64 x1, .int .i64 x2]) rfl HS (by as_aux_lemma => kernel_rfl) rfl (fun _ _ _ h => h) (Or.inl ⟨by rfl, ?_⟩) HC0 ?_
          · intro u hC
            obtain ⟨z0, z1, z2, z3⟩ := hC
            go_simp
          simp only [Act.put, List.setIfInBounds_toArray, List.set_cons_zero, List.set_cons_succ]
          refine wpHl.tk0 (i := 9) (d := some 22) (v := .slice (some ⟨ga, oa, none⟩) l.length ca) rfl HS (by as_aux_lemma => kernel_rfl) rfl (fun _ _ _ h => h) (Or.inl ⟨by rfl, ?_⟩) HC0 ?_
          · intro u hC
            go_simp
          simp only [Act.put, List.setIfInBounds_toArray, List.set_cons_zero, List.set_cons_succ]
          refine wpHl.tk0 (i := 10) (d := some 23) (v := .int .i64 (j : Int)) rfl HS (by as_aux_lemma => kernel_rfl) rfl (fun _ _ _ h => h) (Or.inl ⟨by rfl, ?_⟩) HC0 ?_
          · intro u hC
            go_simp
          simp only [Act.put, List.setIfInBounds_toArray, List.set_cons_zero, List.set_cons_succ]
          refine wpHl.tk0 (i := 11) (d := some 24) (v := .pointer (some ⟨ga, oa + j * 2, none⟩)) rfl HS (by as_aux_lemma => kernel_rfl) rfl (fun _ _ _ h => h) (Or.inl ⟨by rfl, ?_⟩) HC0 ?_
          · intro u hC
            go_simp
          simp only [Act.put, List.setIfInBounds_toArray, List.set_cons_zero, List.set_cons_succ]
          refine wpHl.tk0 (i := 12) (d := some 25) (v := .agg #[.int .i64 y1, .int .i64 y2]) rfl HS (by as_aux_lemma => kernel_rfl) rfl (fun _ _ _ h => h) (Or.inl ⟨by rfl, ?_⟩) HC0 ?_
          · intro u hC
            obtain ⟨z0, z1, z2, z3⟩ := hC
            go_simp
          simp only [Act.put, List.setIfInBounds_toArray, List.set_cons_zero, List.set_cons_succ]
          refine wpHl.one (i := 13) (by as_aux_lemma => kernel_rfl) rfl (fun K1 hK1 => ?_)
          rw [if_pos (by rfl)]
          refine wp_call_of (f := 23) (args := #[.int .i64 o, .agg #[.int .i64 x1, .int .i64 x2], .agg #[.int .i64 y1, .int .i64 y2]]) (by kernel_rfl) ?_
          with_reducible refine (HC.out _).mono ?_
          rintro e wn ⟨rfl, hb⟩
          replace K := below_trans K hb
          clear HC0
          have HC0 := CC _ K
          refine hK1 (Act.put _ (some 26) _) _ ⟨fun _ => HC0, ?_⟩
          clear hK1 K1 hb
          try simp only [Act.put, List.setIfInBounds_toArray, List.set_cons_zero, List.set_cons_succ]
          refine wpHl.tk0 (i := 14) (d := some 27) (v := .bool true) rfl HS (by as_aux_lemma => kernel_rfl) rfl (fun _ _ _ h => h) (Or.inl ⟨by rfl, ?_⟩) HC0 ?_
          · intro u hC
            go_simp
          simp only [Act.put, List.setIfInBounds_toArray, List.set_cons_zero, List.set_cons_succ]
          refine wpHl.tk0 (i := 15) (d := some 28) (v := .bool true) rfl HS (by as_aux_lemma => kernel_rfl) rfl (fun _ _ _ h => h) (Or.inl ⟨by rfl, ?_⟩) HC0 ?_
          · intro u hC
            go_simp
          simp only [Act.put, List.setIfInBounds_toArray, List.set_cons_zero, List.set_cons_succ]
          refine wpHl.done (by as_aux_lemma => kernel_rfl) ?_ _
          clear CC HC0 HS
          have KB := hide (hB.out.trans (K.mono hB.out.size))
          have OC := hide (owns_on hO.out (ograwn K) (fun r e => by cases e))
          have SZ := hide KB.out.size
          obtain ⟨d1, d2⟩ := CI.out _ KB.out
          have RN := hide (fun (W : World) => one_rd W y1 y2)
          clear K
          go_wp2_with (at_builtin; refine wpList_append_items rfl _ _ rfl w.heap.size _ n _ rfl (OC.out.alloc _) _ [(y1, y2)] rfl (RN.out _) (by intro c h; cases h) (by have := HNL.out; unfold maxLen; simp; omega) (by have := HNL.out; simp; omega) (by have := SZ.out; simp; omega) ?_)
          intro v2 w2 own2 bel2
          rw [← flat_append, ← HFS.out] at own2
          have HB2 := hide ((KB.out.alloc SZ.out _).trans bel2)
          have HO2 := hide own2
          clear own2 bel2 d1 d2
          go_wp2
          go_roundw
          case rel => exact ⟨j + 1, n + 1, by simp, by omega, by omega, HO2, HB2⟩
          case measure => simp [intOf]; omega
    · obtain rfl : i = l.length := by omega
      rw [List.take_length] at hO
      have qk : ∀ x : Nat, ¬ (x : Int) < (x : Int) := fun x => by omega
      go_wp2
      go_ret
      exact ⟨⟨_, rfl, _, hO.out⟩, hB.out⟩

end Go.Proofs.Ytomieeajmelglaa
