/- what errors.As finds in an error that is built of nodes -/
import Derived.Test.YtbkgphglojjllaaDoorFIsB
namespace Go.Proofs.YtbkgphglojjllaaDoor
open Go.RowKit
set_option linter.unusedVariables false

/-- the first that is found -/
def fs (rs : Nat → Option (Option Addr)) : Nat → Option (Option Addr)
  | 0 => none
  | k + 1 => match fs rs k with
    | some p => some p
    | none => rs k
theorem fs_stays {rs : Nat → Option (Option Addr)} {k : Nat} {p : Option Addr} (h : fs rs k = some p) : ∀ j, k ≤ j → fs rs j = some p := by
  intro j hj
  induction j with
  | zero => rw [← Nat.le_zero.1 hj]; exact h
  | succ j ih =>
    rcases Nat.lt_or_ge k (j + 1) with g | g
    · rw [fs, ih (by omega)]
    · rw [← Nat.le_antisymm hj g]; exact h
theorem fs_hit {rs : Nat → Option (Option Addr)} {k n : Nat} {p : Option Addr} (h0 : fs rs k = none) (h : rs k = some p) (hn : k < n) : fs rs n = some p :=
  fs_stays (k := k + 1) (by rw [fs, h0]; exact h) n hn
theorem fs_miss {rs : Nat → Option (Option Addr)} {k : Nat} (h0 : fs rs k = none) (h : rs k = none) : fs rs (k + 1) = none := by rw [fs, h0]; exact h
/-- what is found in an error -/
inductive FdR (w : World) : Value → Nd → Option (Option Addr) → Prop
  | nil (x : Nd) : FdR w .nilIface x none
  | str (x : Nd) (p : Value) : FdR w (.iface 95 p) x none
  | claim (x : Nd) (p : Value) : FdR w (.iface 73 p) x none
  | flt (x : Nd) (p : Option Addr) : FdR w (.iface 41 (.pointer p)) x (some p)
  | wraps (x : Nd) (g : Nat) (e : Value) (r : Option (Option Addr)) (hg : w.heap[g]? = some (.cells #[e] 69 (0, 0))) (h0 : x.kids = [] → e = .nilIface ∧ r = none) (h1 : ∀ h : 0 < x.kids.length, FdR w e x.kids[0] r) : FdR w (.iface 67 (.pointer (some ⟨g, 0, none⟩))) x r
  | many (x : Nd) (g : Nat) (ao : Option Addr) (cap : Nat) (vs : Nat → Value) (rs : Nat → Option (Option Addr)) (hg : w.heap[g]? = some (.cells #[.slice ao x.kids.length cap] 72 (0, 0))) (hl : x.kids.length ≤ 10000)
      (hx : 0 < x.kids.length → ∃ b, ao = some ⟨b, 0, none⟩ ∧ b < w.heap.size ∧ ∀ i, i < x.kids.length → w.cell? ⟨b, i, none⟩ = some (vs i)) (h1 : ∀ i (h : i < x.kids.length), FdR w (vs i) x.kids[i] (rs i)) : FdR w (.iface 70 (.pointer (some ⟨g, 0, none⟩))) x (fs rs x.kids.length)
theorem FdR.far {w w' : World} {v : Value} {x : Nd} {r : Option (Option Addr)} (h : FdR w v x r) (hb : Below w.heap.size w w') : FdR w' v x r := by
  induction h with
  | nil x => exact .nil x
  | str x p => exact .str x p
  | claim x p => exact .claim x p
  | flt x p => exact .flt x p
  | wraps x g e r hg h0 h1 ih => exact .wraps x g e r ((hb.block _ (Array.getElem?_eq_some_iff.1 hg).1).trans hg) h0 ih
  | many x g ao cap vs rs hg hl hx h1 ih =>
    refine .many x g ao cap vs rs ((hb.block _ (Array.getElem?_eq_some_iff.1 hg).1).trans hg) hl (fun hp => ?_) ih
    obtain ⟨b, e1, e2, e3⟩ := hx hp
    exact ⟨b, e1, Nat.lt_of_lt_of_le e2 hb.size, fun i hi => (hb.cell (p := ⟨b, i, none⟩) e2).trans (e3 i hi)⟩
theorem FdR.iface {w : World} {v : Value} {x : Nd} {r : Option (Option Addr)} (h : FdR w v x r) : (v = .nilIface ∧ r = none) ∨ ∃ u p, v = .iface u p := by
  cases h with
  | nil _ => exact Or.inl ⟨rfl, rfl⟩
  | str _ p => exact Or.inr ⟨_, _, rfl⟩
  | claim _ p => exact Or.inr ⟨_, _, rfl⟩
  | flt _ p => exact Or.inr ⟨_, _, rfl⟩
  | wraps _ g e => exact Or.inr ⟨_, _, rfl⟩
  | many _ g => exact Or.inr ⟨_, _, rfl⟩
/-- what was found, against the node that is told -/
def FdT (w : World) (x : Nd) (r : Option (Option Addr)) : Prop := (ndF x = none ∧ r = none) ∨ (∃ y, ndF x = some y ∧ y.kind = 6 ∧ r = some none) ∨
  (∃ y g e, ndF x = some y ∧ y.kind ≠ 6 ∧ r = some (some ⟨g, 0, none⟩) ∧ FltAt w g e y.place y.path ∧ (e = .nilIface ∨ ∃ u p, e = .iface u p))
theorem FdT.told {w : World} {x : Nd} {r : Option (Option Addr)} (h : FdT w x r) : Told w r (ndO x) := by
  unfold ndO
  rcases h with ⟨h1, h2⟩ | ⟨y, h1, h2, h3⟩ | ⟨y, g, e, h1, h2, h3, h4, h5⟩
  · rw [h1]; exact Or.inl ⟨rfl, Or.inl h2⟩
  · rw [h1]; exact Or.inl ⟨if_pos h2, Or.inr h3⟩
  · rw [h1]; exact Or.inr ⟨g, e, y.place, y.path, if_neg h2, h3, h4, h5⟩
theorem FdT.same {w : World} {x y : Nd} {r : Option (Option Addr)} (h : FdT w y r) (e : ndF x = ndF y) : FdT w x r := by
  unfold FdT; rw [e]; exact h
theorem fs_any {w : World} (ks : List Nd) (rs : Nat → Option (Option Addr)) (h : ∀ i (hi : i < ks.length), FdT w ks[i] (rs i)) (y : Nd) (hy : ndF y = anyF ks) : FdT w y (fs rs ks.length) := by
  have key : ∀ k, k ≤ ks.length → (anyF (ks.take k) = none ∧ fs rs k = none) ∨ (∃ j, ∃ hj : j < ks.length, ∃ z, anyF ks = some z ∧ ndF ks[j] = some z ∧ ∃ p, rs j = some p ∧ fs rs ks.length = some p) := by
    intro k hk
    induction k with
    | zero => exact Or.inl ⟨by simp [anyF], rfl⟩
    | succ k ih =>
      rcases ih (by omega) with ⟨h1, h2⟩ | h1
      · have hk2 : k < ks.length := by omega
        rcases h k hk2 with ⟨e1, e2⟩ | ⟨z, e1, e2, e3⟩ | ⟨z, g, e, e1, e2, e3, _⟩
        · exact Or.inl ⟨(anyF_take_succ hk2 h1).trans e1, fs_miss h2 e2⟩
        · exact Or.inr ⟨k, hk2, z, anyF_some hk2 h1 e1, e1, _, e3, fs_hit h2 e3 hk2⟩
        · exact Or.inr ⟨k, hk2, z, anyF_some hk2 h1 e1, e1, _, e3, fs_hit h2 e3 hk2⟩
      · exact Or.inr h1
  rcases key ks.length (Nat.le_refl _) with ⟨h1, h2⟩ | ⟨j, hj, z, e1, e2, p, e3, e4⟩
  · rw [List.take_length] at h1
    exact Or.inl ⟨hy.trans h1, h2⟩
  · have hz := h j hj
    have := hz.same (x := y) (by rw [hy, e1, e2])
    rw [e4, ← e3]; exact this
theorem fd_of_bt {w : World} {a : Nat → Addr} : ∀ (N : Nat) (x : Nd), SizeOf.sizeOf x ≤ N → ∀ v, Bt w a v x → ∃ r, FdR w v x r ∧ FdT w x r := by
  intro N
  induction N with
  | zero => intro x hx; have := sz_pos x; omega
  | succ N ih =>
    intro x hx v hB
    cases hB with
    | nil _ hk => exact ⟨none, .nil x, Or.inl ⟨nd_nil_F hk, rfl⟩⟩
    | api _ m hk hm hc => exact ⟨none, .str x _, Or.inl ⟨by rw [ndF_eq, if_neg (by omega), if_neg (by omega), if_neg (by omega)], rfl⟩⟩
    | other _ g s hk hg hne => exact ⟨none, .str x _, Or.inl ⟨by rw [ndF_eq, if_neg (by omega), if_neg (by omega), if_neg (by omega)], rfl⟩⟩
    | claim _ g hk hg => exact ⟨none, .claim x _, Or.inl ⟨by rw [ndF_eq, if_neg (by omega), if_neg (by omega), if_neg (by omega)], rfl⟩⟩
    | nilf _ hk => exact ⟨some none, .flt x none, Or.inr (Or.inl ⟨x, by rw [ndF_eq, if_pos (Or.inr hk)], hk, rfl⟩)⟩
    | flt _ g e hk hg h0 h1 =>
      refine ⟨some (some ⟨g, 0, none⟩), .flt x _, Or.inr (Or.inr ⟨x, g, e, by rw [ndF_eq, if_pos (Or.inl hk)], by omega, rfl, hg, ?_⟩)⟩
      rcases Nat.eq_zero_or_pos x.kids.length with hz | hz
      · exact Or.inl (h0 (List.eq_nil_of_length_eq_zero hz))
      · rcases (h1 hz).iface with ⟨h, _⟩ | ⟨u, p, h, _⟩
        · exact Or.inl h
        · exact Or.inr ⟨u, p, h⟩
    | wraps _ g e hk hg h0 h1 =>
      have hf : ndF x = hdF x.kids := by rw [ndF_eq, if_neg (by omega), if_pos hk]
      rcases Nat.eq_zero_or_pos x.kids.length with hz | hz
      · have hk0 := List.eq_nil_of_length_eq_zero hz
        refine ⟨none, .wraps x g e none hg (fun h => ⟨h0 h, rfl⟩) (fun h => by omega), Or.inl ⟨?_, rfl⟩⟩
        rw [hf, hk0]; simp only [hdF]
      · obtain ⟨r, h2, h3⟩ := ih x.kids[0] (by have := Nd.kid_lt hz; omega) e (h1 hz)
        refine ⟨r, .wraps x g e r hg (fun h => by rw [h] at hz; simp at hz) (fun h => h2), h3.same ?_⟩
        rw [hf]
        conv => lhs; rw [← List.drop_zero (l := x.kids), List.drop_eq_getElem_cons hz]
        simp only [hdF]
    | many _ g ao cap vs hk hg hl hx2 h1 =>
      have hf : ndF x = anyF x.kids := by rw [ndF_eq, if_neg (by omega), if_neg (by omega), if_pos hk]
      have hex : ∀ i, ∃ r, ∀ h : i < x.kids.length, FdR w (vs i) x.kids[i] r ∧ FdT w x.kids[i] r := fun i => by
        by_cases h : i < x.kids.length
        · obtain ⟨r, h2, h3⟩ := ih x.kids[i] (by have := Nd.kid_lt h; omega) (vs i) (h1 i h)
          exact ⟨r, fun _ => ⟨h2, h3⟩⟩
        · exact ⟨none, fun h' => absurd h' h⟩
      obtain ⟨rs, hrs⟩ := Classical.axiomOfChoice hex
      exact ⟨_, .many x g ao cap vs rs hg hl hx2 (fun i h => (hrs i h).1), fs_any x.kids rs (fun i h => (hrs i h).2) x hf⟩

end Go.Proofs.YtbkgphglojjllaaDoor
