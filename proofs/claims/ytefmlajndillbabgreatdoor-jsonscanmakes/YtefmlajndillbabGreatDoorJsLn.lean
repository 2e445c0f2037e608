/- JsonscanLiterals, plain: a literal by itself -/
import Derived.Test.YtefmlajndillbabGreatDoorJsLm
import Derived.Test.YtefmlajndillbabGreatDoorJsV
namespace Go.Proofs.YtefmlajndillbabGreatDoor
open Go.RowKit
set_option linter.unusedVariables false

theorem lr_ends {t : St} {σ : XS} {m : Md} (h : Lr t σ m) (e : Bool) : Lr { t with ends := e } σ m := by cases m <;> exact h
/-- within a literal that is no key, nothing open -/
structure LitS (s : Sc) (σ : XS) : Prop where
  bad : s.st.bad = 0
  key : s.st.isKey = false
  opn : s.st.opn = []
  en : s.st.ends = false
  lr : Lr s.st σ s.md
/-- behind a whole value, nothing open -/
structure BhS (s : Sc) : Prop where
  md : s.md = .behind
  bad : s.st.bad = 0
  opn : s.st.opn = []
  en : s.st.ends = true
theorem lit_take {s : Sc} {σ : XS} (h : LitS s σ) (b : Int) (h0 : 0 ≤ b) (h1 : b < 256) :
    (xStep σ b = none ∧ (takeB b s).st.bad = 3 ∧ (takeB b s).size = s.size)
    ∨ (∃ σ' u, xStep σ b = some (σ', u) ∧ σ' ≠ .fin ∧ LitS (takeB b s) σ' ∧ (takeB b s).size = s.size + 1)
    ∨ (xStep σ b = some (.fin, []) ∧ BhS (takeB b s) ∧ (takeB b s).size = s.size + 1) := by
  have hs := sim_step (lr_ends h.lr false) b h0 h1
  rcases hs with ⟨hr, hx⟩ | ⟨m', t', σ', u, hr, hx, hf, hl, hk, ho, hb, he⟩ | ⟨hr, hx, hbg⟩
  · refine Or.inl ⟨hx, ?_, ?_⟩ <;> (unfold takeB; rw [hr])
    simp [h.bad]
  · have e : takeB b s = ⟨m', s.size + 1, t'⟩ := by unfold takeB; rw [hr]
    rw [e]
    exact Or.inr (Or.inl ⟨σ', u, hx, hf, ⟨hb.trans h.bad, hk.trans h.key, ho.trans h.opn, he, hl⟩, rfl⟩)
  · have hu : unquotedB { s.st with ends := false } = (some .behind, { s.st with ends := true }) := by simp [unquotedB, h.key, mayE]
    have e : takeB b s = ⟨.behind, s.size + 1, { s.st with ends := true }⟩ := by unfold takeB; rw [hr, hu]
    rw [e]
    exact Or.inr (Or.inr ⟨hx, ⟨rfl, h.bad, h.opn, rfl⟩, rfl⟩)
theorem lit_code {s : Sc} {σ : XS} (h : LitS s σ) : codeC s = 3 := by simp [codeC, wholeB', h.bad, h.en]
/-- what the automaton tells of bytes, and what the scanner does -/
def RunIs (s : Sc) (ls : List Int) (k : Nat) : XO → Prop
  | .bad n => k ≤ n ∧ n ≤ k + ls.length ∧ codeC (writeB ls s) = 3 ∧ (writeB ls s).size = s.size + (n - k)
  | .ok _ n => k < n ∧ n ≤ k + ls.length ∧ BhS (writeB (ls.take (n - k)) s) ∧ (writeB (ls.take (n - k)) s).size = s.size + (n - k)
theorem lit_run (ls : List Int) : ∀ (s : Sc) (σ : XS) (t : List Int) (k : Nat), LitS s σ → uByt ls → RunIs s ls k (xRun σ ls t k) := by
  induction ls with
  | nil =>
    intro s σ t k h _
    rw [xRun_end]
    exact ⟨Nat.le_refl _, by simp, lit_code h, by simp [writeB]⟩
  | cons b ls ih =>
    intro s σ t k h hb
    have b0 := (hb b (by simp)).1
    have b1 := (hb b (by simp)).2
    have hb' : uByt ls := fun x hx => hb x (by simp [hx])
    rcases lit_take h b b0 b1 with ⟨hx, h1, h2⟩ | ⟨σ', u, hx, hf, hl, hz⟩ | ⟨hx, hl, hz⟩
    · rw [xRun_bad hx]
      have e : writeB (b :: ls) s = takeB b s := by rw [writeB, if_pos h.bad, writeB_bad (by omega)]
      refine ⟨Nat.le_refl _, by simp, ?_, ?_⟩ <;> rw [e]
      · rw [codeC, if_neg (by omega), h1]
      · rw [h2]; simp
    · rw [xRun_step hx hf]
      have hr := ih (takeB b s) σ' (t ++ u) (k + 1) hl hb'
      have e : writeB (b :: ls) s = writeB ls (takeB b s) := by rw [writeB, if_pos h.bad]
      cases hq : xRun σ' ls (t ++ u) (k + 1) with
      | bad n =>
        rw [hq] at hr
        obtain ⟨q1, q2, q3, q4⟩ := hr
        refine ⟨by omega, by simp; omega, by rw [e]; exact q3, ?_⟩
        rw [e, q4, hz]; omega
      | ok t' n =>
        rw [hq] at hr
        obtain ⟨q1, q2, q3, q4⟩ := hr
        obtain ⟨m, hm⟩ : ∃ m, n - k = m + 1 := ⟨n - k - 1, by omega⟩
        have hm2 : n - (k + 1) = m := by omega
        rw [hm2] at q3 q4
        have e2 : writeB ((b :: ls).take (m + 1)) s = writeB (ls.take m) (takeB b s) := by rw [List.take_succ_cons, writeB, if_pos h.bad]
        refine ⟨by omega, by simp; omega, ?_, ?_⟩ <;> rw [hm, e2]
        · exact q3
        · rw [q4, hz]; omega
    · rw [xRun_fin hx]
      have e2 : writeB ((b :: ls).take 1) s = takeB b s := by rw [List.take_succ_cons, writeB, if_pos h.bad]; rfl
      refine ⟨by omega, by simp, ?_, ?_⟩ <;> rw [show k + 1 - k = 1 by omega, e2]
      · exact hl
      · exact hz
/-- blanks behind -/
def blks (r : List Int) : Nat := (r.takeWhile blankB).length
theorem blks_cons (b : Int) (r : List Int) : blks (b :: r) = if blankB b then blks r + 1 else 0 := by
  unfold blks
  cases h : blankB b <;> simp [h]
theorem blks_le (r : List Int) : blks r ≤ r.length := by
  induction r with
  | nil => simp [blks]
  | cons b r ih => rw [blks_cons]; split <;> simp <;> omega
theorem bh_blank {s : Sc} (h : BhS s) {b : Int} (hb : blankB b = true) : BhS (takeB b s) ∧ (takeB b s).size = s.size + 1 := by
  obtain ⟨m, z, t⟩ := s
  obtain ⟨rfl, h2, h3, h4⟩ := h
  have e : takeB b ⟨.behind, z, t⟩ = ⟨.behind, z + 1, { t with ends := true }⟩ := by simp [takeB, stepB, behindB, hb, mayE]
  rw [e]
  exact ⟨⟨rfl, h2, h3, rfl⟩, rfl⟩
theorem bh_other {s : Sc} (h : BhS s) {b : Int} (hb : blankB b = false) : (takeB b s).st.bad = 3 ∧ (takeB b s).size = s.size := by
  obtain ⟨m, z, t⟩ := s
  obtain ⟨rfl, h2, h3, h4⟩ := h
  simp only at h2 h3
  simp [takeB, stepB, behindB, hb, h2, h3, no]
theorem bh_run (r : List Int) : ∀ s, BhS s → (blks r = r.length → BhS (writeB r s) ∧ (writeB r s).size = s.size + r.length) ∧ (blks r < r.length → (writeB r s).st.bad = 3 ∧ (writeB r s).size = s.size + blks r) := by
  induction r with
  | nil => intro s h; exact ⟨fun _ => ⟨h, by simp [writeB]⟩, fun e => by simp [blks] at e⟩
  | cons b r ih =>
    intro s h
    have hl := blks_le r
    cases hb : blankB b with
    | true =>
      have h1 := bh_blank h hb
      have e : writeB (b :: r) s = writeB r (takeB b s) := by rw [writeB, if_pos h.bad]
      have h2 := ih _ h1.1
      rw [e, blks_cons, hb, if_pos rfl]
      refine ⟨fun q => ?_, fun q => ?_⟩
      · have := h2.1 (by simpa using q)
        exact ⟨this.1, by rw [this.2, h1.2]; simp; omega⟩
      · have := h2.2 (by simpa using q)
        exact ⟨this.1, by rw [this.2, h1.2]; omega⟩
    | false =>
      have h1 := bh_other h hb
      have e : writeB (b :: r) s = takeB b s := by rw [writeB, if_pos h.bad, writeB_bad (by omega)]
      rw [e, blks_cons, hb]
      exact ⟨fun q => by simp at q, fun _ => ⟨h1.1, by rw [h1.2]; simp⟩⟩
theorem bh_code {s : Sc} (h : BhS s) : codeC s = 0 := by simp [codeC, wholeB', h.bad, h.opn, h.en]
theorem white_run (ws : List Int) (h : ∀ b ∈ ws, blankB b = true) : writeB ws sc0 = ⟨.value, ws.length, sc0.st⟩ := by
  have key : ∀ z, writeB ws ⟨.value, z, sc0.st⟩ = ⟨.value, z + ws.length, sc0.st⟩ := by
    induction ws with
    | nil => intro z; simp [writeB]
    | cons b ws ih =>
      intro z
      have hb := h b (by simp)
      have e : takeB b ⟨.value, z, sc0.st⟩ = ⟨.value, z + 1, sc0.st⟩ := by simp [takeB, stepB, valueB, hb, go, sc0]
      rw [writeB, if_pos (show sc0.st.bad = 0 from rfl), e, ih (fun x hx => h x (by simp [hx]))]
      simp; omega
  have := key 0
  rw [Nat.zero_add] at this
  exact this
theorem lit_first (z : Nat) : LitS (takeB 34 ⟨.value, z, sc0.st⟩) .inn ∧ (takeB 34 ⟨.value, z, sc0.st⟩).size = z + 1 :=
  ⟨⟨rfl, rfl, rfl, rfl, rfl, rfl⟩, rfl⟩
theorem blks_all {ws : List Int} (h : ∀ b ∈ ws, blankB b = true) : blks ws = ws.length := by
  induction ws with
  | nil => rfl
  | cons b ws ih => rw [blks_cons, if_pos (h b (by simp)), ih (fun x hx => h x (by simp [hx]))]; simp
theorem all_blks {r : List Int} (h : blks r = r.length) : ∀ b ∈ r, blankB b = true := by
  induction r with
  | nil => exact nofun
  | cons b r ih =>
    rw [blks_cons] at h
    split at h
    · rename_i hb
      intro x hx
      rcases List.mem_cons.1 hx with e | e
      · rw [e]; exact hb
      · exact ih (by simpa using h) x e
    · simp at h
/-- a literal with what stands behind it -/
theorem lit_all {ls : List Int} (hb : uByt ls) : match xRun .start (34 :: ls) [] 0 with
    | .bad n => codeC (writeB (34 :: ls) sc0) = 3 ∧ (writeB (34 :: ls) sc0).size = n
    | .ok _ n => n ≤ ls.length + 1 ∧ (n + blks ((34 :: ls).drop n) < ls.length + 1 → (writeB (34 :: ls) sc0).st.bad = 3 ∧ (writeB (34 :: ls) sc0).size = n + blks ((34 :: ls).drop n))
        ∧ (n + blks ((34 :: ls).drop n) = ls.length + 1 → ∀ ws vs : List Int, (∀ b ∈ ws, blankB b = true) → (∀ b ∈ vs, blankB b = true) → codeC (writeB (ws ++ (34 :: ls) ++ vs) sc0) = 0 ∧ (writeB (ws ++ (34 :: ls) ++ vs) sc0).size = ws.length + (ls.length + 1) + vs.length) := by
  have hx : xRun .start (34 :: ls) [] 0 = xRun .inn ls [] 1 := by rw [xRun_step (σ' := .inn) (u := []) rfl nofun]; rfl
  rw [hx]
  have hw : writeB (34 :: ls) sc0 = writeB ls (takeB 34 sc0) := by rw [writeB, if_pos (show sc0.st.bad = 0 from rfl)]
  have h0 := lit_first 0
  have hs0 : takeB 34 sc0 = takeB 34 ⟨.value, 0, sc0.st⟩ := rfl
  cases hq : xRun .inn ls [] 1 with
  | bad n =>
    have hr := lit_run ls (takeB 34 sc0) .inn [] 1 h0.1 hb
    rw [hq] at hr
    obtain ⟨q1, q2, q3, q4⟩ := hr
    show codeC (writeB (34 :: ls) sc0) = 3 ∧ (writeB (34 :: ls) sc0).size = n
    rw [hw]
    exact ⟨q3, by rw [q4, hs0, h0.2]; omega⟩
  | ok t n =>
    have gen : ∀ z, 1 < n ∧ n ≤ 1 + ls.length ∧ BhS (writeB (ls.take (n - 1)) (takeB 34 ⟨.value, z, sc0.st⟩)) ∧ (writeB (ls.take (n - 1)) (takeB 34 ⟨.value, z, sc0.st⟩)).size = z + n := fun z => by
      have hr := lit_run ls (takeB 34 ⟨.value, z, sc0.st⟩) .inn [] 1 (lit_first z).1 hb
      rw [hq] at hr
      obtain ⟨q1, q2, q3, q4⟩ := hr
      exact ⟨q1, q2, q3, by rw [q4, (lit_first z).2]; omega⟩
    have g0 := gen 0
    obtain ⟨m, hm⟩ : ∃ m, n = m + 1 := ⟨n - 1, by omega⟩
    have hdrop : (34 :: ls).drop n = ls.drop m := by rw [hm, List.drop_succ_cons]
    have hlen : (ls.drop m).length = ls.length - m := by simp
    have hsp : ∀ z, writeB ls (takeB 34 ⟨.value, z, sc0.st⟩) = writeB (ls.drop m) (writeB (ls.take m) (takeB 34 ⟨.value, z, sc0.st⟩)) := fun z => by rw [← writeB_append, List.take_append_drop]
    have hm1 : n - 1 = m := by omega
    have hbl := blks_le (ls.drop m)
    refine ⟨by omega, ?_, ?_⟩
    · rw [hdrop]
      intro hlt
      rw [hw, hs0, hsp 0]
      have hB := g0.2.2.1
      have hZ := g0.2.2.2
      rw [hm1] at hB hZ
      have := (bh_run (ls.drop m) _ hB).2 (by omega)
      exact ⟨this.1, by rw [this.2, hZ]; omega⟩
    · rw [hdrop]
      intro heq ws vs h1 h2
      have g := gen ws.length
      rw [hm1] at g
      have e : writeB (ws ++ (34 :: ls) ++ vs) sc0 = writeB (ls.drop m ++ vs) (writeB (ls.take m) (takeB 34 ⟨.value, ws.length, sc0.st⟩)) := by
        rw [writeB_append, writeB_append, white_run ws h1, writeB, if_pos (show sc0.st.bad = 0 from rfl), hsp ws.length, ← writeB_append]
      rw [e]
      have hall : ∀ b ∈ ls.drop m ++ vs, blankB b = true := fun b hb => by
        rcases List.mem_append.1 hb with q | q
        · exact all_blks (by omega) b q
        · exact h2 b q
      have := (bh_run (ls.drop m ++ vs) _ g.2.2.1).1 (blks_all hall)
      refine ⟨bh_code this.1, ?_⟩
      rw [this.2, g.2.2.2]
      simp
      omega

end Go.Proofs.YtefmlajndillbabGreatDoor
