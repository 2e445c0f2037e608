/- literals in plain numbers: from place to place. No Go text is met here. -/
import Derived.Test.YtegokdhmpopggaaDoorXTake
namespace Go.Proofs.YtegokdhmpopggaaDoor
set_option linter.unusedVariables false

/-- from the place k in the state σ to the place j in the state τ, no end between -/
def XOn (ls : List Int) (k : Nat) (σ : XS) (t : List Int) (j : Nat) (τ : XS) (u : List Int) : Prop :=
  k ≤ j ∧ j ≤ ls.length ∧ xGo σ ((ls.drop k).take (j - k)) t = some (τ, u)
/-- .. and no farther -/
def XBad (ls : List Int) (k : Nat) (σ : XS) (t : List Int) (j : Nat) : Prop :=
  ∃ τ u, XOn ls k σ t j τ u ∧ (j < ls.length → xStep τ (Nt.lb ls j) = none)
theorem XOn.refl {ls : List Int} {k : Nat} {σ : XS} {t : List Int} (h : k ≤ ls.length) : XOn ls k σ t k σ t := ⟨Nat.le_refl _, h, by rw [Nat.sub_self, List.take_zero]; rfl⟩
theorem XOn.trans {ls : List Int} {k j i : Nat} {σ τ ρ : XS} {t u v : List Int} (h : XOn ls k σ t j τ u) (g : XOn ls j τ u i ρ v) : XOn ls k σ t i ρ v := by
  obtain ⟨h1, h2, h3⟩ := h
  obtain ⟨g1, g2, g3⟩ := g
  refine ⟨by omega, g2, ?_⟩
  have e : (ls.drop k).take (i - k) = (ls.drop k).take (j - k) ++ (ls.drop j).take (i - j) := by
    have a1 : i - k = (j - k) + (i - j) := by omega
    rw [a1, List.take_add, List.drop_drop]
    congr 3
    omega
  rw [e, xGo_app h3, g3]
theorem XOn.step {ls : List Int} {k : Nat} {σ τ : XS} {t u : List Int} (hk : k < ls.length) (hs : xStep σ (Nt.lb ls k) = some (τ, u)) (hf : τ ≠ .fin) : XOn ls k σ t (k + 1) τ (t ++ u) := by
  refine ⟨by omega, by omega, ?_⟩
  rw [show k + 1 - k = 1 by omega, udrop_lb hk, List.take_succ_cons, List.take_zero, xGo_cons hs hf]
  rfl
theorem XOn.step0 {ls : List Int} {k : Nat} {σ τ : XS} {t : List Int} (hk : k < ls.length) (hs : xStep σ (Nt.lb ls k) = some (τ, [])) (hf : τ ≠ .fin) : XOn ls k σ t (k + 1) τ t := by
  have := XOn.step (t := t) hk hs hf
  rwa [List.append_nil] at this
theorem XBad.stop {ls : List Int} {k : Nat} {σ : XS} {t : List Int} (hk : k ≤ ls.length) (h : k < ls.length → xStep σ (Nt.lb ls k) = none) : XBad ls k σ t k := ⟨σ, t, XOn.refl hk, h⟩
theorem XOn.bad {ls : List Int} {k j i : Nat} {σ τ : XS} {t u : List Int} (h : XOn ls k σ t j τ u) (g : XBad ls j τ u i) : XBad ls k σ t i := by
  obtain ⟨ρ, v, g1, g2⟩ := g
  exact ⟨ρ, v, h.trans g1, g2⟩
theorem XOn.run {ls : List Int} {k j : Nat} {σ τ : XS} {t u : List Int} (h : XOn ls k σ t j τ u) : xRun σ (ls.drop k) t k = xRun τ (ls.drop j) u j := by
  obtain ⟨h1, h2, h3⟩ := h
  have e : ls.drop k = (ls.drop k).take (j - k) ++ ls.drop j := by
    conv => lhs; rw [← List.take_append_drop (j - k) (ls.drop k)]
    rw [List.drop_drop]
    congr 2
    omega
  rw [e, xRun_go h3]
  congr 1
  rw [List.length_take, List.length_drop]
  omega
theorem XBad.run {ls : List Int} {k j : Nat} {σ : XS} {t : List Int} (h : XBad ls k σ t j) : xRun σ (ls.drop k) t k = .bad j := by
  obtain ⟨τ, u, h1, h2⟩ := h
  rw [h1.run]
  by_cases hj : j < ls.length
  · rw [udrop_lb hj, xRun_bad (h2 hj)]
  · rw [List.drop_of_length_le (by omega)]; rfl

/-! ### spans -/
def dSp : List (Int × Int) := [(48, 57), (97, 102), (65, 70)]
theorem xTk_lt {ls : List Int} {k : Nat} {sp : List (Int × Int)} (h : xTk ls k sp = true) : k < ls.length := by unfold xTk at h; simp at h; exact h.1
theorem xTk_sp {ls : List Int} {k : Nat} {sp : List (Int × Int)} (h : xTk ls k sp = true) : xSp (Nt.lb ls k) sp = true := by unfold xTk at h; simp at h; exact h.2
theorem xTk_no {ls : List Int} {k : Nat} {sp : List (Int × Int)} (h : xTk ls k sp = false) (hk : k < ls.length) : xSp (Nt.lb ls k) sp = false := by unfold xTk at h; simp at h; exact h hk
theorem xSp_one {c f l : Int} : xSp c [(f, l)] = true ↔ f ≤ c ∧ c ≤ l := by unfold xSp; simp
theorem xSp_two {c f l f2 l2 : Int} : xSp c [(f, l), (f2, l2)] = true ↔ (f ≤ c ∧ c ≤ l) ∨ (f2 ≤ c ∧ c ≤ l2) := by unfold xSp; simp
theorem xSp_three {c f l f2 l2 f3 l3 : Int} : xSp c [(f, l), (f2, l2), (f3, l3)] = true ↔ (f ≤ c ∧ c ≤ l) ∨ (f2 ≤ c ∧ c ≤ l2) ∨ (f3 ≤ c ∧ c ≤ l3) := by unfold xSp; simp
theorem xSp_no {c : Int} {sp : List (Int × Int)} (h : xSp c sp = false) : ¬ xSp c sp = true := by rw [h]; simp
theorem xTk_one {ls : List Int} {k : Nat} {c : Int} (h : xTk ls k [(c, c)] = true) : k < ls.length ∧ Nt.lb ls k = c := by
  have := xSp_one.1 (xTk_sp h)
  exact ⟨xTk_lt h, by omega⟩
theorem xTk_one_no {ls : List Int} {k : Nat} {c : Int} (h : xTk ls k [(c, c)] = false) (hk : k < ls.length) : Nt.lb ls k ≠ c := by
  have := xSp_no (xTk_no h hk)
  rw [xSp_one] at this
  omega
theorem xDig_sp {c : Int} : xSp c dSp = true ↔ 0 ≤ xDig c ∧ xDig c < 16 := by
  unfold dSp
  rw [xSp_three]
  unfold xDig
  split
  · omega
  · split
    · omega
    · split <;> omega
theorem xDig_no {c : Int} (h : xSp c dSp = false) : xDig c = -1 := by
  have := xSp_no h
  unfold dSp at this
  rw [xSp_three] at this
  unfold xDig
  rw [if_neg (by omega), if_neg (by omega), if_neg (by omega)]
/-- a digit's number -/
def xV (ls : List Int) (k : Nat) : Int := xDig (Nt.lb ls k)
def xNum (ls : List Int) (k : Nat) : Int := ((xV ls k * 16 + xV ls (k + 1)) * 16 + xV ls (k + 2)) * 16 + xV ls (k + 3)
theorem xTk_dig {ls : List Int} {k : Nat} (h : xTk ls k dSp = true) : k < ls.length ∧ 0 ≤ xV ls k ∧ xV ls k < 16 := ⟨xTk_lt h, xDig_sp.1 (xTk_sp h)⟩
theorem xDgs_bad {ls : List Int} {k l : Nat} {n h : Int} (hk : xTk ls k dSp = false) : k < ls.length → xStep (.digs l n h) (Nt.lb ls k) = none := fun hl => by
  show xDgs l n h _ = _
  unfold xDgs; rw [xDig_no (xTk_no hk hl), if_pos (by decide)]
theorem xDgs_bar {c n h : Int} {l : Nat} (hb : xDig c < 0 ∨ xBar (l - 1) (16 * n + xDig c) h) : xStep (.digs l n h) c = none := by
  show xDgs l n h _ = _
  unfold xDgs
  by_cases g : xDig c < 0
  · rw [if_pos g]
  · rw [if_neg g, if_pos (hb.resolve_left g)]
theorem XOn.dig {ls : List Int} {k l : Nat} {n h m : Int} {t : List Int} (hk : xTk ls k dSp = true) (hb : ¬ xBar (l - 1) (16 * n + xV ls k) h) (hl : 2 ≤ l) (hm : m = 16 * n + xV ls k) : XOn ls k (.digs l n h) t (k + 1) (.digs (l - 1) m h) t := by
  subst hm
  have hd := xTk_dig hk
  refine XOn.step0 hd.1 ?_ (by simp)
  show xDgs l n h _ = _
  unfold xV at hb hd ⊢
  unfold xDgs
  rw [if_neg (by omega), if_neg hb, if_pos (by omega)]
theorem xEnd_fin (n h : Int) : (xEnd n h).1 ≠ .fin := by unfold xEnd; split; simp; split <;> simp
theorem XOn.last {ls : List Int} {k : Nat} {n h m : Int} {t : List Int} (hk : xTk ls k dSp = true) (hb : ¬ xBar 0 (16 * n + xV ls k) h) (hm : m = 16 * n + xV ls k) : XOn ls k (.digs 1 n h) t (k + 1) (xEnd m h).1 (t ++ (xEnd m h).2) := by
  subst hm
  have hd := xTk_dig hk
  refine XOn.step hd.1 ?_ (xEnd_fin _ _)
  show xDgs 1 n h _ = _
  unfold xV at hb hd ⊢
  unfold xDgs
  rw [if_neg (by omega), if_neg hb, if_neg (by decide)]
theorem xBar_no0 {n h : Int} : ¬ xBar 0 n h := by unfold xBar; omega
theorem xBar_no1 {n h : Int} : ¬ xBar 1 n h := by unfold xBar; omega
theorem xBar_no3 {n : Int} : ¬ xBar 3 n 0 := by unfold xBar; omega

/-! ### four digits -/
abbrev hSp : List (Int × Int) := [(56, 57), (97, 98), (65, 66)]
theorem xD_iff {c : Int} : xSp c [(100, 100), (68, 68)] = true ↔ xDig c = 13 := by
  rw [xSp_two]; unfold xDig
  split
  · omega
  · split
    · omega
    · split <;> omega
theorem xH_iff {c : Int} : xSp c hSp = true ↔ 8 ≤ xDig c ∧ xDig c ≤ 11 := by
  unfold hSp; rw [xSp_three]; unfold xDig
  split
  · omega
  · split
    · omega
    · split <;> omega
theorem x7_iff {c : Int} : xSp c [(48, 55)] = true ↔ 0 ≤ xDig c ∧ xDig c ≤ 7 := by
  rw [xSp_one]; unfold xDig
  split
  · omega
  · split
    · omega
    · split <;> omega
theorem xC_iff {c : Int} : xSp c [(99, 102), (67, 70)] = true ↔ 12 ≤ xDig c := by
  rw [xSp_two]; unfold xDig
  split
  · omega
  · split
    · omega
    · split <;> omega
theorem xDig_of {c : Int} (h : 0 ≤ xDig c) : xSp c dSp = true := by
  rw [xDig_sp]; refine ⟨h, ?_⟩; unfold xDig
  split
  · omega
  · split
    · omega
    · split <;> omega
theorem xTk_of {ls : List Int} {k : Nat} {sp sp' : List (Int × Int)} (h : xTk ls k sp = true) (g : xSp (Nt.lb ls k) sp = true → xSp (Nt.lb ls k) sp' = true) : xTk ls k sp' = true := by
  unfold xTk; rw [decide_eq_true (xTk_lt h), g (xTk_sp h)]; rfl
/-- what unit answers: a first half?, well?, and the place -/
def XUnit (ls : List Int) (k : Nat) (half ok : Bool) (j : Nat) : Prop :=
  (ok = true ∧ j = k + 4 ∧ k + 4 ≤ ls.length ∧ (∀ i, i < 4 → xTk ls (k + i) dSp = true) ∧ half = decide (55296 ≤ xNum ls k ∧ xNum ls k ≤ 56319) ∧ ¬ (56320 ≤ xNum ls k ∧ xNum ls k ≤ 57343) ∧ ∀ t, XOn ls k (.digs 4 0 0) t (k + 4) (xEnd (xNum ls k) 0).1 (t ++ (xEnd (xNum ls k) 0).2))
  ∨ (ok = false ∧ ∀ t, XBad ls k (.digs 4 0 0) t j)
theorem four {ls : List Int} {k : Nat} (h0 : xTk ls k dSp = true) (h1 : xTk ls (k + 1) dSp = true) (h2 : xTk ls (k + 2) dSp = true) (h3 : xTk ls (k + 3) dSp = true) : ∀ i, i < 4 → xTk ls (k + i) dSp = true := by
  intro i hi
  match i, hi with
  | 0, _ => exact h0
  | 1, _ => exact h1
  | 2, _ => exact h2
  | 3, _ => exact h3
theorem unit_one {ls : List Int} {k : Nat} (t : List Int) (h0 : xTk ls k dSp = true) : XOn ls k (.digs 4 0 0) t (k + 1) (.digs 3 (xV ls k) 0) t := XOn.dig h0 xBar_no3 (by omega) (by omega)
theorem unit_two {ls : List Int} {k : Nat} (t : List Int) (h0 : xTk ls k dSp = true) (h1 : xTk ls (k + 1) dSp = true) (hn : ¬ (xV ls k = 13 ∧ 12 ≤ xV ls (k + 1))) : XOn ls k (.digs 4 0 0) t (k + 2) (.digs 2 (16 * xV ls k + xV ls (k + 1)) 0) t :=
  (unit_one t h0).trans (XOn.dig h1 (by have a := xTk_dig h0; have b := xTk_dig h1; unfold xBar; omega) (by omega) rfl)
theorem unit_three {ls : List Int} {k : Nat} (t : List Int) (h0 : xTk ls k dSp = true) (h1 : xTk ls (k + 1) dSp = true) (hn : ¬ (xV ls k = 13 ∧ 12 ≤ xV ls (k + 1))) (h2 : xTk ls (k + 2) dSp = true) : XOn ls k (.digs 4 0 0) t (k + 3) (.digs 1 (16 * (16 * xV ls k + xV ls (k + 1)) + xV ls (k + 2)) 0) t :=
  (unit_two t h0 h1 hn).trans (XOn.dig h2 xBar_no1 (by omega) rfl)
theorem unit_four {ls : List Int} {k : Nat} (t : List Int) (h0 : xTk ls k dSp = true) (h1 : xTk ls (k + 1) dSp = true) (hn : ¬ (xV ls k = 13 ∧ 12 ≤ xV ls (k + 1))) (h2 : xTk ls (k + 2) dSp = true) (h3 : xTk ls (k + 3) dSp = true) : XOn ls k (.digs 4 0 0) t (k + 4) (xEnd (xNum ls k) 0).1 (t ++ (xEnd (xNum ls k) 0).2) :=
  (unit_three t h0 h1 hn h2).trans (XOn.last h3 xBar_no0 (by unfold xNum; omega))
theorem unit_ok {ls : List Int} {k : Nat} {half : Bool} (h0 : xTk ls k dSp = true) (h1 : xTk ls (k + 1) dSp = true) (hn : ¬ (xV ls k = 13 ∧ 12 ≤ xV ls (k + 1))) (h2 : xTk ls (k + 2) dSp = true) (h3 : xTk ls (k + 3) dSp = true) (hh : half = decide (xV ls k = 13 ∧ 8 ≤ xV ls (k + 1))) : XUnit ls k half true (k + 4) := by
  have a := xTk_dig h0; have b := xTk_dig h1; have c := xTk_dig h2; have d := xTk_dig h3
  refine .inl ⟨rfl, rfl, by omega, four h0 h1 h2 h3, ?_, ?_, fun t => unit_four t h0 h1 hn h2 h3⟩
  · rw [hh]
    congr 1
    unfold xNum
    apply propext
    omega
  · unfold xNum; omega
theorem unit_b0 {ls : List Int} {k : Nat} {half : Bool} (hk : k ≤ ls.length) (h0 : xTk ls k dSp = false) : XUnit ls k half false k := .inr ⟨rfl, fun t => XBad.stop hk (xDgs_bad h0)⟩
theorem unit_b1 {ls : List Int} {k : Nat} {half : Bool} (h0 : xTk ls k dSp = true) (h1 : xTk ls (k + 1) dSp = false ∨ (xV ls k = 13 ∧ (k + 1 < ls.length → 12 ≤ xV ls (k + 1) ∨ xV ls (k + 1) < 0))) : XUnit ls k half false (k + 1) :=
  .inr ⟨rfl, fun t => (unit_one t h0).bad (XBad.stop (xTk_lt h0) (by
    rcases h1 with h1 | h1
    · exact xDgs_bad h1
    · intro hl
      have := h1.2 hl
      refine xDgs_bar ?_
      rcases this with g | g
      · have g2 : xV ls (k + 1) < 16 := by unfold xV xDig; split; omega; split; omega; split <;> omega
        refine .inr (.inr ⟨rfl, rfl, ?_⟩)
        unfold xV at g g2
        have := h1.1
        omega
      · exact .inl g))⟩
theorem unit_b2 {ls : List Int} {k : Nat} {half : Bool} (h0 : xTk ls k dSp = true) (h1 : xTk ls (k + 1) dSp = true) (hn : ¬ (xV ls k = 13 ∧ 12 ≤ xV ls (k + 1))) (h2 : xTk ls (k + 2) dSp = false) : XUnit ls k half false (k + 2) :=
  .inr ⟨rfl, fun t => (unit_two t h0 h1 hn).bad (XBad.stop (xTk_lt h1) (xDgs_bad h2))⟩
theorem unit_b3 {ls : List Int} {k : Nat} {half : Bool} (h0 : xTk ls k dSp = true) (h1 : xTk ls (k + 1) dSp = true) (hn : ¬ (xV ls k = 13 ∧ 12 ≤ xV ls (k + 1))) (h2 : xTk ls (k + 2) dSp = true) (h3 : xTk ls (k + 3) dSp = false) : XUnit ls k half false (k + 3) :=
  .inr ⟨rfl, fun t => (unit_three t h0 h1 hn h2).bad (XBad.stop (xTk_lt h2) (xDgs_bad h3))⟩

end Go.Proofs.YtegokdhmpopggaaDoor
