/- layer 12: rows of items; runs; marks of loops behind us -/
import Derived.Test.YtomieeajmelglaaOMerged
namespace Go.Proofs.Ytomieeajmelglaa
open Go.RowKit Go.Shelf
set_option linter.unusedVariables false

def flat (xs : List It) : List Value := xs.flatMap fun x => [.int .i64 x.1, .int .i64 x.2]
theorem flat_cons (x : It) (xs : List It) : flat (x :: xs) = .int .i64 x.1 :: .int .i64 x.2 :: flat xs := rfl
theorem flat_len (xs : List It) : (flat xs).length = xs.length * 2 := by
  induction xs with
  | nil => rfl
  | cons x xs ih => rw [flat_cons, List.length_cons, List.length_cons, ih, List.length_cons]; omega
theorem flat_append (xs ys : List It) : flat (xs ++ ys) = flat xs ++ flat ys := by simp [flat]
theorem flat_get (xs : List It) (i : Nat) (h : i < xs.length) : (flat xs)[i * 2]? = some (.int .i64 xs[i].1) ∧ (flat xs)[i * 2 + 1]? = some (.int .i64 xs[i].2) := by
  induction xs generalizing i with
  | nil => simp at h
  | cons x xs ih =>
    rw [flat_cons]
    cases i with
    | zero => simp
    | succ i =>
      have := ih i (by simpa using h)
      rw [show (i + 1) * 2 = i * 2 + 1 + 1 by omega]
      simpa using this
theorem flat_set (xs : List It) (i : Nat) (h : i < xs.length) (x : It) : ((flat xs).set (i * 2) (.int .i64 x.1)).set (i * 2 + 1) (.int .i64 x.2) = flat (xs.set i x) := by
  induction xs generalizing i with
  | nil => simp at h
  | cons y xs ih =>
    cases i with
    | zero => simp [flat_cons]
    | succ i =>
      rw [flat_cons, List.set_cons_succ, flat_cons, ← ih i (by simpa using h), show (i + 1) * 2 = i * 2 + 1 + 1 by omega]
      simp
/-- a block of items, all of it known -/
def ItRow (w : World) (g : Nat) (xs : List It) : Prop := w.heap[g]? = some (.cells (flat xs).toArray 27 (0, 0))
theorem ItRow.lt {w : World} {g : Nat} {xs : List It} (h : ItRow w g xs) : g < w.heap.size := (Array.getElem?_eq_some_iff.1 h).1
theorem ItRow.cell {w : World} {g : Nat} {xs : List It} (h : ItRow w g xs) {i : Nat} (hi : i < xs.length) : w.cell? ⟨g, i * 2, none⟩ = some (.int .i64 xs[i].1) ∧ w.cell? ⟨g, i * 2 + 1, none⟩ = some (.int .i64 xs[i].2) := by
  have q := flat_get xs i hi
  constructor
  · rw [cell_of_row w g (i * 2) _ _ _ h]; simpa using q.1
  · rw [cell_of_row w g (i * 2 + 1) _ _ _ h]; simpa using q.2
theorem ItRow.frozen {w : World} {g : Nat} {xs : List It} (h : ItRow w g xs) (i : Nat) : w.frozen? ⟨g, i, none⟩ = false := frozen_of_row w g i _ _ h
theorem ItRow.set {w : World} {g : Nat} {xs : List It} (h : ItRow w g xs) {i : Nat} (hi : i < xs.length) (x : It) : ItRow ((w.setCell ⟨g, i * 2, none⟩ (.int .i64 x.1)).setCell ⟨g, i * 2 + 1, none⟩ (.int .i64 x.2)) g (xs.set i x) := by
  unfold ItRow
  rw [heap_setCell_same _ g _ _ _ _ (heap_setCell_same w g (i * 2) _ _ _ h), ← flat_set xs i hi x]
  simp
theorem ItRow.keep {w w' : World} {g : Nat} {xs : List It} (h : ItRow w g xs) (e : w'.heap[g]? = w.heap[g]?) : ItRow w' g xs := e.trans h
theorem ItRow.rd {w : World} {g c : Nat} {xs : List It} (h : ItRow w g xs) {G : Nat → Prop} (hG : G g) (h1 : xs.length ≤ c) (h2 : c ≤ maxLen) : ItRd G w (.slice (some ⟨g, 0, none⟩) xs.length c) xs :=
  ⟨_, c, rfl, h1, h2, fun _ => ⟨g, 0, rfl, hG, h.lt, fun i hi => by simpa using h.cell hi⟩⟩

/-- each two runs of s as one -/
def runs {α : Type} (f : α → α → Int) (s : Nat) (xs : List α) : List α :=
  if h : xs = [] ∨ s = 0 then xs else mrg f (xs.take s) ((xs.drop s).take s) ++ runs f s (xs.drop (2 * s))
termination_by xs.length
decreasing_by
  have : 0 < xs.length := List.length_pos_iff.2 (fun e => h (.inl e))
  rw [List.length_drop]
  omega
theorem runs_nil {α : Type} (f : α → α → Int) (s : Nat) : runs f s [] = [] := by rw [runs]; simp
theorem runs_step {α : Type} (f : α → α → Int) {s : Nat} (hs : 0 < s) {xs : List α} (h : xs ≠ []) : runs f s xs = mrg f (xs.take s) ((xs.drop s).take s) ++ runs f s (xs.drop (2 * s)) := by
  rw [runs, dif_neg (by rintro (h' | h'); exact h h'; omega)]
theorem runs_len {α : Type} (f : α → α → Int) (s : Nat) (xs : List α) : (runs f s xs).length = xs.length := by
  fun_induction runs f s xs with
  | case1 xs h => rfl
  | case2 xs h ih => rw [List.length_append, ih, mrg_len]; simp; omega

theorem sub_rd {w U : World} {gi ga oa ca k M : Nat} {xs ys : List It} {G : Nat → Prop} (ia : ItIn w ga oa xs) (hB : BelX (fun k => k = gi) w.heap.size w U) (ga1 : ga ≠ gi) (ga2 : ga < w.heap.size) (hG : G ga) (hl : ys.length = M - k) (hk : k ≤ M) (hM : M ≤ xs.length) (hg : ∀ i, i < M - k → ys[i]? = xs[k + i]?) (hc : M ≤ ca) (hcm : ca ≤ maxLen) :
    ItRd G U (.slice (some ⟨ga, oa + k * 2, none⟩) (M - k) (ca - k)) ys := by
  refine ⟨_, ca - k, by rw [hl], by omega, by omega, fun hp => ⟨ga, _, rfl, hG, Nat.lt_of_lt_of_le ga2 hB.size, fun i hi => ?_⟩⟩
  have e := hg i (by omega)
  rw [List.getElem?_eq_getElem hi, List.getElem?_eq_getElem (by omega)] at e
  injection e with e
  have q := ia (k + i) (by omega)
  rw [e, show oa + k * 2 + i * 2 = oa + (k + i) * 2 by omega]
  exact ⟨(hB.cell (p := ⟨ga, _, none⟩) ga2 ga1).trans q.1, (hB.cell (p := ⟨ga, _, none⟩) ga2 ga1).trans q.2⟩
theorem nil_rd {U : World} {ao : Option Addr} {n c : Nat} {ys : List It} {G : Nat → Prop} (hn : n = 0) (hy : ys = []) (hc : c ≤ maxLen) : ItRd G U (.slice ao n c) ys := by
  subst hn hy
  exact ⟨ao, c, rfl, Nat.zero_le _, hc, fun h => absurd h (by simp)⟩
theorem run_a {α : Type} (xs : List α) {k s M : Nat} (hM : M = min (k + s) xs.length) (i : Nat) (h : i < M - k) : ((xs.drop k).take s)[i]? = xs[k + i]? := by
  rw [List.getElem?_take_of_lt (by omega), List.getElem?_drop]
theorem run_b {α : Type} (xs : List α) {k s M E : Nat} (hM : M = min (k + s) xs.length) (hE : E = min (M + s) xs.length) (i : Nat) (h : i < E - M) : (((xs.drop k).drop s).take s)[i]? = xs[M + i]? := by
  rw [List.getElem?_take_of_lt (by omega), List.getElem?_drop, List.getElem?_drop, ← Nat.add_assoc, show k + s = M by omega]
theorem run_al {α : Type} (xs : List α) {k s M : Nat} (hM : M = min (k + s) xs.length) : ((xs.drop k).take s).length = M - k := by
  rw [List.length_take, List.length_drop]; omega
theorem run_bl {α : Type} (xs : List α) {k s M E : Nat} (hM : M = min (k + s) xs.length) (hE : E = min (M + s) xs.length) : (((xs.drop k).drop s).take s).length = E - M := by
  rw [List.length_take, List.length_drop, List.length_drop]; omega
theorem run_next {α : Type} (f : α → α → Int) {xs : List α} {k s M E : Nat} (hs : 0 < s) (hk : k < xs.length) (hM : M = min (k + s) xs.length) (hE : E = min (M + s) xs.length) : runs f s (xs.drop k) = mrg f ((xs.drop k).take s) (((xs.drop k).drop s).take s) ++ runs f s (xs.drop E) := by
  rw [runs_step f hs (by intro e; have := congrArg List.length e; rw [List.length_drop] at this; simp at this; omega)]
  congr 2
  rw [List.drop_drop]
  by_cases h : k + 2 * s ≤ xs.length
  · congr 1; omega
  · rw [List.drop_eq_nil_of_le (by omega), List.drop_eq_nil_of_le (by omega)]
theorem take_set_next {α : Type} {zs dn : List α} {m : Nat} {x : α} (hm : m < zs.length) (h : zs.take m = dn) : (zs.set m x).take (m + 1) = dn ++ [x] := by
  rw [List.take_add_one, List.take_set_of_le (Nat.le_refl _), h]
  simp [hm]

def mark (D : Nat) : Deferred := { target := .collected D, args := #[] }
/-- the marks of the loops behind us, taken one by one -/
theorem marks_leave {F : Fence} {n : Nat} {P : Program} {fn : Func} {tmps : Array Value} {R : Ending → World → Prop} {A : Nat} {Inv : World → Prop}
    (hI : ∀ w D, Inv w → A ≤ D → w.heap[D]? = some (.deferred (some [])) → Inv (w.putObj D (.deferred none)))
    (hR : ∀ w, Inv w → ∃ v, (results fn tmps).run P w = .ok v w ∧ R (.returned v) w) :
    ∀ (Ds : List Nat) (w : World), (∀ D ∈ Ds, A ≤ D ∧ w.heap[D]? = some (.deferred (some []))) → Ds.Nodup → Inv w → LeavesInM F n P fn tmps R (Ds.map mark) .returning w := by
  intro Ds
  induction Ds with
  | nil => intro w _ _ hi; exact hR w hi
  | cons D Ds ih =>
    intro w h hd hi
    obtain ⟨hD1, hD2⟩ := h D List.mem_cons_self
    refine ⟨by simp, .inl ⟨D, _, rfl, run_takeDeferred hD2, ih _ ?_ (List.nodup_cons.1 hd).2 (hI w D hi hD1 hD2)⟩⟩
    intro E hE
    obtain ⟨h1, h2⟩ := h E (List.mem_cons_of_mem _ hE)
    have hne : E ≠ D := fun e => (List.nodup_cons.1 hd).1 (e ▸ hE)
    exact ⟨h1, (World.putObj_heap_other (fun e => hne e)).trans h2⟩
theorem marks_more {Ds : List Nat} {D A : Nat} {W W' : World} (h : ∀ D ∈ Ds, A ≤ D ∧ W.heap[D]? = some (.deferred (some []))) (hn : Ds.Nodup) (hB : ∀ E ∈ Ds, W'.heap[E]? = W.heap[E]?) (hD : W'.heap[D]? = some (.deferred (some []))) (h1 : W.heap.size ≤ D) (h2 : A ≤ D) :
    (∀ E ∈ D :: Ds, A ≤ E ∧ W'.heap[E]? = some (.deferred (some []))) ∧ (D :: Ds).Nodup := by
  have hlt : ∀ E ∈ Ds, E < W.heap.size := fun E hE => (Array.getElem?_eq_some_iff.1 (h E hE).2).1
  refine ⟨fun E hE => ?_, List.nodup_cons.2 ⟨fun hE => by have := hlt D hE; omega, hn⟩⟩
  rcases List.mem_cons.1 hE with rfl | hE
  · exact ⟨h2, hD⟩
  · exact ⟨(h E hE).1, (hB E hE).trans (h E hE).2⟩
theorem belx_putObj {X : Nat → Prop} {n : Nat} {W : World} {l : Nat} (o' : Obj) (hl : n ≤ l) : BelX X n W (W.putObj l o') := by
  have h := grownBy_putObj' W l o'
  exact ⟨h.os, h.tape, h.output, h.size, fun k hk _ => World.putObj_heap_other (fun e => by omega)⟩
theorem belx_set {X : Nat → Prop} {n b i : Nat} (W : World) (v : Value) (h : X b) : BelX X n W (W.setCell ⟨b, i, none⟩ v) := by
  have hz := (Below.refl 0 W).setCell (p := ⟨b, i, none⟩) (Nat.zero_le _) v
  exact ⟨hz.os, hz.tape, hz.output, hz.size, fun k _ hk => heap_setCell_other W _ k _ (fun e => hk (e ▸ h))⟩
theorem grown_set2 (w : World) (b i : Nat) (x : Value) : w.grownBy (w.setCell ⟨b, i, none⟩ x) (some b) := by
  have hz := (Below.refl 0 w).setCell (p := ⟨b, i, none⟩) (Nat.zero_le _) x
  exact ⟨hz.os, hz.tape, hz.output, hz.size, fun k _ hk => heap_setCell_other w _ k _ (fun e => hk (by rw [e]))⟩
theorem _root_.Go.World.grownBy.trans2 {a b c : World} {r : Option Nat} (h : a.grownBy b r) (k : b.grownBy c r) : a.grownBy c r :=
  ⟨k.os.trans h.os, k.tape.trans h.tape, k.output.trans h.output, Nat.le_trans h.size k.size, fun i hi hr => (k.block i (Nat.lt_of_lt_of_le hi h.size) hr).trans (h.block i hi hr)⟩

end Go.Proofs.Ytomieeajmelglaa
