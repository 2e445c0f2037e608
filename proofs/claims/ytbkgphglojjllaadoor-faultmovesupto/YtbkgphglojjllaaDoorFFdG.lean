/- what errors.As finds, and the block that it lies in -/
import Derived.Test.YtbkgphglojjllaaDoorFBtG
namespace Go.Proofs.YtbkgphglojjllaaDoor
open Go.RowKit
set_option linter.unusedVariables false

/-- what was found lies in a block of G -/
def InG (G : Nat → Prop) (r : Option (Option Addr)) : Prop := ∀ p, r = some (some p) → G p.block
theorem fs_inG {G : Nat → Prop} {rs : Nat → Option (Option Addr)} {n : Nat} (h : ∀ i, i < n → InG G (rs i)) : InG G (fs rs n) := by
  induction n with
  | zero => intro p hp; cases hp
  | succ n ih =>
    intro p hp
    rw [fs] at hp
    cases hf : fs rs n with
    | some q => rw [hf] at hp; exact ih (fun i hi => h i (by omega)) p (hf.trans hp)
    | none => rw [hf] at hp; exact h n (by omega) p hp
/-- every block that holds no Fault stands -/
def Unf (w w' : World) : Prop := w.heap.size ≤ w'.heap.size ∧ ∀ (k : Nat) (cs : Array Value) (T : TypeId) (q : Nat × Nat), w.heap[k]? = some (Obj.cells cs T q) → T ≠ 45 → w'.heap[k]? = some (Obj.cells cs T q)
theorem Unf.refl (w : World) : Unf w w := ⟨Nat.le_refl _, fun _ _ _ _ h _ => h⟩
theorem Unf.below {w w' w'' : World} (h : Unf w w') (hb : Below w'.heap.size w' w'') : Unf w w'' :=
  ⟨Nat.le_trans h.1 hb.size, fun k cs T q hk hT => by
    have := h.2 k cs T q hk hT
    rw [hb.block k (Array.getElem?_eq_some_iff.1 this).1]; exact this⟩
theorem Unf.over {w w' w'' : World} {g : Nat} {cs : Array Value} {q : Nat × Nat} (h : Unf w w') (hg : w.heap[g]? = some (.cells cs 45 q)) (hs : w'.heap.size ≤ w''.heap.size) (hb : ∀ k, k ≠ g → k < w'.heap.size → w''.heap[k]? = w'.heap[k]?) : Unf w w'' :=
  ⟨Nat.le_trans h.1 hs, fun k cs' T q' hk hT => by
    have := h.2 k cs' T q' hk hT
    have hne : k ≠ g := fun e => by
      subst e
      rw [hg] at hk
      injection hk with hk
      injection hk with _ hk2 _
      exact hT hk2.symm
    rw [hb k hne (Array.getElem?_eq_some_iff.1 this).1]; exact this⟩
theorem fd_of_btG {w : World} {a : Nat → Addr} {G : Nat → Prop} : ∀ (N : Nat) (x : Nd), SizeOf.sizeOf x ≤ N → ∀ v, BtG w a G v x → ∃ r, (∀ w', Unf w w' → FdR w' v x r) ∧ FdT w x r ∧ InG G r := by
  intro N
  induction N with
  | zero => intro x hx; have := sz_pos x; omega
  | succ N ih =>
    intro x hx v hB
    have no : InG G none := fun p hp => by cases hp
    cases hB with
    | nil _ hk => exact ⟨none, fun _ _ => .nil x, Or.inl ⟨nd_nil_F hk, rfl⟩, no⟩
    | api _ m hk hm hc => exact ⟨none, fun _ _ => .str x _, Or.inl ⟨by rw [ndF_eq, if_neg (by omega), if_neg (by omega), if_neg (by omega)], rfl⟩, no⟩
    | other _ g s hk hG hg hne => exact ⟨none, fun _ _ => .str x _, Or.inl ⟨by rw [ndF_eq, if_neg (by omega), if_neg (by omega), if_neg (by omega)], rfl⟩, no⟩
    | claim _ g hk hG hg => exact ⟨none, fun _ _ => .claim x _, Or.inl ⟨by rw [ndF_eq, if_neg (by omega), if_neg (by omega), if_neg (by omega)], rfl⟩, no⟩
    | nilf _ hk => exact ⟨some none, fun _ _ => .flt x none, Or.inr (Or.inl ⟨x, by rw [ndF_eq, if_pos (Or.inr hk)], hk, rfl⟩), fun p hp => by cases hp⟩
    | flt _ g e hk hG hg h0 h1 =>
      refine ⟨some (some ⟨g, 0, none⟩), fun _ _ => .flt x _, Or.inr (Or.inr ⟨x, g, e, by rw [ndF_eq, if_pos (Or.inl hk)], by omega, rfl, hg, ?_⟩), fun p hp => by cases hp; exact hG⟩
      rcases Nat.eq_zero_or_pos x.kids.length with hz | hz
      · exact Or.inl (h0 (List.eq_nil_of_length_eq_zero hz))
      · rcases (h1 hz).bt.iface with ⟨h, _⟩ | ⟨u, p, h, _⟩
        · exact Or.inl h
        · exact Or.inr ⟨u, p, h⟩
    | wraps _ g e hk hG hg h0 h1 =>
      have hf : ndF x = hdF x.kids := by rw [ndF_eq, if_neg (by omega), if_pos hk]
      rcases Nat.eq_zero_or_pos x.kids.length with hz | hz
      · have hk0 := List.eq_nil_of_length_eq_zero hz
        refine ⟨none, fun w' hu => .wraps x g e none (hu.2 g _ _ _ hg (by decide)) (fun h => ⟨h0 h, rfl⟩) (fun h => by omega), Or.inl ⟨?_, rfl⟩, no⟩
        rw [hf, hk0]; simp only [hdF]
      · obtain ⟨r, h2, h3, h4⟩ := ih x.kids[0] (by have := Nd.kid_lt hz; omega) e (h1 hz)
        refine ⟨r, fun w' hu => .wraps x g e r (hu.2 g _ _ _ hg (by decide)) (fun h => by rw [h] at hz; simp at hz) (fun h => h2 w' hu), h3.same ?_, h4⟩
        rw [hf]
        conv => lhs; rw [← List.drop_zero (l := x.kids), List.drop_eq_getElem_cons hz]
        simp only [hdF]
    | many _ g ao cap vs hk hG hg hl hx2 h1 =>
      have hf : ndF x = anyF x.kids := by rw [ndF_eq, if_neg (by omega), if_neg (by omega), if_pos hk]
      have hex : ∀ i, ∃ r, ∀ h : i < x.kids.length, (∀ w', Unf w w' → FdR w' (vs i) x.kids[i] r) ∧ FdT w x.kids[i] r ∧ InG G r := fun i => by
        by_cases h : i < x.kids.length
        · obtain ⟨r, h2, h3, h4⟩ := ih x.kids[i] (by have := Nd.kid_lt h; omega) (vs i) (h1 i h)
          exact ⟨r, fun _ => ⟨h2, h3, h4⟩⟩
        · exact ⟨none, fun h' => absurd h' h⟩
      obtain ⟨rs, hrs⟩ := Classical.axiomOfChoice hex
      exact ⟨_, fun w' hu => .many x g ao cap vs rs (hu.2 g _ _ _ hg (by decide)) hl (fun hp => by
        obtain ⟨b, e1, e2, _, e3, cs, q, e5⟩ := hx2 hp
        refine ⟨b, e1, Nat.lt_of_lt_of_le e2 hu.1, fun i hi => ?_⟩
        rw [show w'.cell? ⟨b, i, none⟩ = w.cell? ⟨b, i, none⟩ from by simp only [World.cell?]; rw [hu.2 b _ _ _ e5 (by decide), e5]]
        exact e3 i hi) (fun i h => (hrs i h).1 w' hu), fs_any x.kids rs (fun i h => (hrs i h).2.1) x hf, fs_inG (fun i h => (hrs i h).2.2)⟩
/-- one of the twelve by itself: no place -/
theorem er_snt {w : World} {a : Nat → Addr} (hS : Snt w a) (hH : Hnd w) {m : Nat} (hm : m < 12) : Er w a (.iface 95 (.pointer (some (a m)))) (fun i => decide (i = m)) none :=
  ⟨_, _, none, rfl, errIs_snt hS hm, fun w' hb => As_fd (hH.below hb) (.str default _), Or.inl ⟨rfl, Or.inl rfl⟩⟩

end Go.Proofs.YtbkgphglojjllaaDoor
