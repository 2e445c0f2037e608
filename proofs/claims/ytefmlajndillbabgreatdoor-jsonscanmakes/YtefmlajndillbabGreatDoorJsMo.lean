/- JsonscanMakes, plain: what lists and maps of texts are -/
import Derived.Test.YtefmlajndillbabGreatDoorJsMn
import Derived.Test.YtefmlajndillbabGreatDoorXTxt
namespace Go.Proofs.YtefmlajndillbabGreatDoor
open Go.RowKit
set_option linter.unusedVariables false

/-- within a literal that is a key -/
structure LitK (p : List Int) (s : Sc) (σ : XS) : Prop where
  bad : s.st.bad = 0
  key : s.st.isKey = true
  opn : s.st.opn = p
  en : s.st.ends = false
  lr : Lr s.st σ s.md
theorem litk_take {p : List Int} {s : Sc} {σ : XS} (h : LitK p s σ) (b : Int) (h0 : 0 ≤ b) (h1 : b < 256) :
    xStep σ b = none ∨ (∃ σ' u, xStep σ b = some (σ', u) ∧ σ' ≠ .fin ∧ LitK p (takeB b s) σ') ∨ (xStep σ b = some (.fin, []) ∧ InS .colon p (takeB b s)) := by
  have hs := sim_step (lr_ends h.lr false) b h0 h1
  rcases hs with ⟨hr, hx⟩ | ⟨m', t', σ', u, hr, hx, hf, hl, hk, ho, hb, he⟩ | ⟨hr, hx, hbg⟩
  · exact Or.inl hx
  · have e : takeB b s = ⟨m', s.size + 1, t'⟩ := by unfold takeB; rw [hr]
    rw [e]
    exact Or.inr (Or.inl ⟨σ', u, hx, hf, ⟨hb.trans h.bad, hk.trans h.key, ho.trans h.opn, he, hl⟩⟩)
  · have hu : unquotedB { s.st with ends := false } = (some .colon, { s.st with ends := false }) := by simp [unquotedB, h.key, go]
    have e : takeB b s = ⟨.colon, s.size + 1, { s.st with ends := false }⟩ := by unfold takeB; rw [hr, hu]
    rw [e]
    exact Or.inr (Or.inr ⟨hx, ⟨rfl, h.bad, h.opn, hbg, rfl⟩⟩)
theorem litk_run {p : List Int} (ls : List Int) : ∀ (s : Sc) (σ : XS) (t : List Int) (k : Nat) (u : List Int) (n : Nat), LitK p s σ → uByt ls → xRun σ ls t k = .ok u n → k < n ∧ n ≤ k + ls.length ∧ InS .colon p (writeB (ls.take (n - k)) s) := by
  induction ls with
  | nil => intro s σ t k u n h _ hx; rw [xRun_end] at hx; cases hx
  | cons b ls ih =>
    intro s σ t k u n h hb hx
    have b0 := (hb b (by simp)).1
    have b1 := (hb b (by simp)).2
    have hb' : uByt ls := fun x hx => hb x (by simp [hx])
    rcases litk_take h b b0 b1 with hs | ⟨σ', v, hs, hf, hl⟩ | ⟨hs, hl⟩
    · rw [xRun_bad hs] at hx; cases hx
    · rw [xRun_step hs hf] at hx
      obtain ⟨q1, q2, q3⟩ := ih (takeB b s) σ' (t ++ v) (k + 1) u n hl hb' hx
      obtain ⟨m, hm⟩ : ∃ m, n - k = m + 1 := ⟨n - k - 1, by omega⟩
      have hm2 : n - (k + 1) = m := by omega
      rw [hm2] at q3
      have e2 : writeB ((b :: ls).take (m + 1)) s = writeB (ls.take m) (takeB b s) := by rw [List.take_succ_cons, writeB, if_pos h.bad]
      exact ⟨by omega, by simp; omega, by rw [hm, e2]; exact q3⟩
    · rw [xRun_fin hs] at hx
      obtain ⟨_, rfl⟩ := XO.ok.inj hx
      have e2 : writeB ((b :: ls).take 1) s = takeB b s := by rw [List.take_succ_cons, writeB, if_pos h.bad]; rfl
      exact ⟨by omega, by simp, by rw [show k + 1 - k = 1 by omega, e2]; exact hl⟩
theorem key_first {p : List Int} {s : Sc} (h : InS .firstKey p s ∨ InS .key p s) : LitK p (takeB 34 s) .inn := by
  have e : takeB 34 s = ⟨.piece, s.size + 1, { s.st with ends := false, isKey := true }⟩ := by
    obtain ⟨m, z, t⟩ := s
    rcases h with h | h <;> (obtain ⟨rfl, _⟩ := h; rfl)
  rw [e]
  rcases h with h | h <;> exact ⟨h.bad, rfl, h.opn, rfl, h.bg, rfl⟩
theorem key_run {p ps : List Int} (hp : uPts ps) (hb : uByt (uFlat ps)) {s : Sc} (h : InS .firstKey p s ∨ InS .key p s) : InS .colon p (writeB (xQ (uFlat ps)) s) := by
  have hx := xRun_quoted (r := []) hp
  have hq : uByt (xQ (uFlat ps)) := xQ_byt hb
  have hs0 : s.st.bad = 0 := by rcases h with h | h <;> exact h.bad
  have e : xQ (uFlat ps) = 34 :: ((uFlat ps).flatMap xEsc ++ [34]) := by simp [xQ]
  rw [List.append_nil] at hx
  rw [e] at hx hq ⊢
  rw [xRun_step (σ' := .inn) (u := []) rfl nofun] at hx
  have hr := litk_run _ (takeB 34 s) .inn _ _ _ _ (key_first h) (fun x g => hq x (by simp [g])) hx
  rw [writeB, if_pos hs0]
  have := hr.2.2
  rwa [List.take_of_length_le (by simp)] at this
theorem colon_58 {p : List Int} {s : Sc} (h : InS .colon p s) : InS .value p (takeB 58 s) := by
  obtain ⟨m, z, t⟩ := s
  obtain ⟨rfl, h2, h3, h4, h5⟩ := h
  exact ⟨rfl, h2, h3, h4, rfl⟩
theorem colon_32 {p : List Int} {s : Sc} (h : InS .colon p s) : InS .colon p (takeB 32 s) := by
  obtain ⟨m, z, t⟩ := s
  obtain ⟨rfl, h2, h3, h4, h5⟩ := h
  exact ⟨rfl, h2, h3, h4, rfl⟩
theorem value_32 {p : List Int} {s : Sc} (h : InS .value p s) : InS .value p (takeB 32 s) := by
  obtain ⟨m, z, t⟩ := s
  obtain ⟨rfl, h2, h3, h4, h5⟩ := h
  exact ⟨rfl, h2, h3, h4, rfl⟩
theorem open_91 : InS .firstElement [93] (takeB 91 sc0) := ⟨rfl, rfl, rfl, rfl, rfl⟩
theorem open_123 : InS .firstKey [125] (takeB 123 sc0) := ⟨rfl, rfl, rfl, rfl, rfl⟩
theorem writeB_one {b : Int} {s : Sc} (h : s.st.bad = 0) (l : List Int) : writeB (b :: l) s = writeB l (takeB b s) := by rw [writeB, if_pos h]
theorem code_five {l : List Int} {s : Sc} (h : s.st.bad = 5) : codeC (writeB l s) = 5 := by
  rw [writeB_bad (by omega), codeC, if_neg (by omega), h]
/-- the limit of an element is the limit of a value -/
theorem first_lim (p q l : List Int) (hpq : p.length = q.length) (hl : uByt l) : ∀ s0 s1 s2, Ct p s0 { s1 with md := .value } → s0.md = .value → InS .firstElement p s1 → Ct q s0 s2 → (writeB l s0).st.bad = 0 → (writeB l s2).st.bad = 5 → (writeB l s1).st.bad = 5 := by
  induction l with
  | nil => intro s0 s1 s2 _ _ _ h2 _ hb; exact absurd (show s2.st.bad = 5 from hb) (by have := h2.r.core.bd.2; omega)
  | cons b l ih =>
    intro s0 s1 s2 hc hm hi h2 h0 hb
    have hl' : uByt l := fun x hx => hl x (by simp [hx])
    have b0 := (hl b (by simp)).1
    have b1 := (hl b (by simp)).2
    cases hq : blankB b with
    | true =>
      rw [writeB_one hc.r.core.bd.1] at h0
      rw [writeB_one h2.r.core.bd.2] at hb
      rw [writeB_one hi.bad]
      have k0 : takeB b s0 = ⟨.value, s0.size + 1, { s0.st with ends := false }⟩ := by
        obtain ⟨m, z, t⟩ := s0
        simp only at hm
        subst hm
        simp [takeB, stepB, valueB, hq, go]
      have k1 : takeB b s1 = ⟨.firstElement, s1.size + 1, { s1.st with ends := false }⟩ := by
        obtain ⟨m, z, t⟩ := s1
        obtain ⟨rfl, _⟩ := hi
        simp [takeB, stepB, firstElementB, hq, go]
      have hbt := bad_take h0
      have hcr := hc.r.core
      have hg := hc.gd
      rw [hm] at hg
      rcases ct_take h2 b b0 b1 hbt with ⟨_, _, j1, _⟩ | ⟨j1, _⟩
      · rw [k0] at j1
        simp at j1
      · rw [k0] at h0 j1
        rw [k1]
        exact ih hl' ⟨.value, s0.size + 1, { s0.st with ends := false }⟩ ⟨.firstElement, s1.size + 1, { s1.st with ends := false }⟩ _ ⟨rfl, ⟨⟨hcr.opn, rfl, hcr.bg, hcr.bd⟩, nofun, nofun, nofun⟩, good_false hg⟩ rfl ⟨rfl, hi.bad, hi.opn, hi.bg, rfl⟩ j1 h0 hb
    | false =>
      have hL := ct_limit p q (b :: l) hpq hl s0 _ s2 hc h2 h0 hb
      rw [writeB_one hc.r.core.bd.1] at h0
      have hbt := bad_take h0
      have h93 : b ≠ 93 := fun e => by
        subst e
        have : takeB 93 s0 = ⟨s0.md, s0.size, { s0.st with ends := false, bad := if s0.st.bad = 0 then 3 else s0.st.bad }⟩ := by
          obtain ⟨m, z, t⟩ := s0
          simp only at hm
          subst hm
          rfl
        rw [this] at hbt
        simp only at hbt
        split at hbt
        · cases hbt
        · rename_i q; exact q hbt
      rw [writeB_one hi.bad]
      rw [writeB_one (show ({ s1 with md := .value } : Sc).st.bad = 0 from hi.bad)] at hL
      rcases first_same hi hq h93 with e | ⟨e, _, e2⟩
      · rw [e]; exact hL
      · rw [writeB_bad e2] at hL
        have : (takeB b s1).st.bad = 5 := by rw [e]; exact hL
        rw [writeB_bad (by omega)]; exact this
/-- a list of two texts -/
def lstT (a b : List Int) : List Int := [91] ++ a ++ [44] ++ b ++ [93]
/-- a map of two texts -/
def mapT (k a b : List Int) : List Int := [123] ++ k ++ [58] ++ a ++ [44] ++ k ++ [32, 58, 32] ++ b ++ [125]
theorem list_code {a b : List Int} (ha : uByt a) (hb : uByt b) (ta : Txt a) (tb : Txt b) : codeC (writeB (lstT a b) sc0) = 5 ∨ codeC (writeB (lstT a b) sc0) = 0 := by
  have e : writeB (lstT a b) sc0 = writeB [93] (writeB b (writeB [44] (writeB a (takeB 91 sc0)))) := by
    unfold lstT
    rw [writeB_append, writeB_append, writeB_append, writeB_append]
    rfl
  rw [e]
  rcases seg_first ha open_91 ta with q | ⟨q, _⟩
  · left
    rw [writeB_bad (l := [44]) (by omega), writeB_bad (l := b) (by omega)]
    exact code_five q
  · rw [writeB_one q.bad [], show ∀ s, writeB [] s = s from fun _ => rfl]
    rcases seg_value hb (comma_list q).1 tb with r | ⟨r, _⟩
    · exact Or.inl (code_five r)
    · right
      rw [writeB_one r.bad []]
      exact bh_code (close_of (Or.inl rfl) r)
theorem pair_code {a b ps : List Int} (ha : uByt a) (hb : uByt b) (ta : Txt a) (tb : Txt b) (hp : uPts ps) (hk : uByt (uFlat ps)) (h : codeC (writeB (lstT a b) sc0) ≠ 5) : codeC (writeB (mapT (xQ (uFlat ps)) a b) sc0) = 0 := by
  have nil : ∀ s, writeB [] s = s := fun _ => rfl
  have e : writeB (lstT a b) sc0 = writeB [93] (writeB b (writeB [44] (writeB a (takeB 91 sc0)))) := by
    unfold lstT
    rw [writeB_append, writeB_append, writeB_append, writeB_append]
    rfl
  have e2 : writeB (mapT (xQ (uFlat ps)) a b) sc0 = writeB [125] (writeB b (writeB [32, 58, 32] (writeB (xQ (uFlat ps)) (writeB [44] (writeB a (writeB [58] (writeB (xQ (uFlat ps)) (takeB 123 sc0)))))))) := by
    unfold mapT
    rw [writeB_append, writeB_append, writeB_append, writeB_append, writeB_append, writeB_append, writeB_append, writeB_append]
    rfl
  rw [e] at h
  rw [e2]
  have m1 := key_run hp hk (Or.inl open_123)
  rw [writeB_one m1.bad [], nil]
  have m2 := colon_58 m1
  have na : (writeB a (takeB 91 sc0)).st.bad ≠ 5 := fun q => h (by
    rw [writeB_bad (l := [44]) (by omega), writeB_bad (l := b) (by omega)]
    exact code_five q)
  rcases seg_first ha open_91 ta with q | ⟨q, _⟩
  · exact absurd q na
  rw [writeB_one q.bad [], nil] at h
  have nb : (writeB b (takeB 44 (writeB a (takeB 91 sc0)))).st.bad ≠ 5 := fun q => h (code_five q)
  rcases seg_value ha m2 ta with r | ⟨r, _⟩
  · exact absurd (first_lim [93] [125] a rfl ha sc0 (takeB 91 sc0) _ (in_first open_91) rfl open_91 (in_ct m2) (txt_end ta).1 r) na
  rw [writeB_one r.bad [], nil]
  have m3 := (comma_map r).1
  have m4 := key_run hp hk (Or.inr m3)
  have m5 := colon_32 m4
  have m6 := colon_58 m5
  have m7 := value_32 m6
  rw [writeB_one m4.bad, writeB_one m5.bad, writeB_one m6.bad, nil]
  rcases seg_value hb m7 tb with u | ⟨u, _⟩
  · exact absurd (ct_limit [93] [125] b rfl hb sc0 _ _ (in_ct (comma_list q).1) (in_ct m7) (txt_end tb).1 u) nb
  rw [writeB_one u.bad []]
  exact bh_code (close_of (Or.inr rfl) u)
theorem pair_no (a b : List Int) : codeC (writeB (mapT [] a b) sc0) = 3 := by
  have e : writeB (mapT [] a b) sc0 = writeB (a ++ [44] ++ [] ++ [32, 58, 32] ++ b ++ [125]) (takeB 58 (takeB 123 sc0)) := by
    unfold mapT
    simp only [List.cons_append, List.nil_append, List.append_nil, List.append_assoc]
    rw [writeB_one rfl, writeB_one rfl]
  have h3 : (takeB 58 (takeB 123 sc0)).st.bad = 3 := rfl
  rw [e, writeB_bad (by omega), codeC, if_neg (by omega), h3]
theorem take_bad {s : Sc} (h : GoodS s) (h0 : s.st.bad = 0) {b : Int} (b0 : 0 ≤ b) (b1 : b < 256) (hb : (takeB b s).st.bad ≠ 0) : (takeB b s).size = s.size := by
  have hg := gr_step (good_false (h.ok h0)) b b0 b1
  revert hb hg
  unfold takeB
  rcases stepB s.md b { s.st with ends := false } with ⟨_ | m, t⟩
  · intro _ _; rfl
  · intro hb hg; exact absurd (hg.2.trans h0) hb
/-- what stands ahead of the place is good -/
theorem ahead (l : List Int) (hl : uByt l) : ∀ s, GoodS s → s.st.bad = 0 → (writeB (l.take ((writeB l s).size - s.size)) s).st.bad = 0 := by
  induction l with
  | nil => intro s _ h; simpa [writeB] using h
  | cons b l ih =>
    intro s hg h
    have b0 := (hl b (by simp)).1
    have b1 := (hl b (by simp)).2
    have hl' : uByt l := fun x hx => hl x (by simp [hx])
    rw [writeB_one h]
    by_cases hb : (takeB b s).st.bad = 0
    · have hz := (take_size b s).2.2 hb
      have h2 := (write_size l (takeB b s)).2.1
      obtain ⟨m, hm⟩ : ∃ m, (writeB l (takeB b s)).size - s.size = m + 1 := ⟨(writeB l (takeB b s)).size - s.size - 1, by omega⟩
      have hi := ih hl' _ (good_take hg h b b0 b1) hb
      rw [show (writeB l (takeB b s)).size - (takeB b s).size = m by omega] at hi
      rw [hm, List.take_succ_cons, writeB_one h]
      exact hi
    · rw [writeB_bad hb, take_bad hg h b0 b1 hb, Nat.sub_self]
      exact h
theorem one_code {a : List Int} (ha : uByt a) : codeC (writeB ([91] ++ a) sc0) = 5 ∨ (writeB a sc0).size + 1 ≤ (writeB ([91] ++ a) sc0).size := by
  obtain ⟨n, hn⟩ : ∃ n, (writeB a sc0).size = n := ⟨_, rfl⟩
  have hle : n ≤ a.length := by have := (write_size a sc0).1; simp [sc0] at this; simpa [← hn, sc0] using this
  have h0 := ahead a ha sc0 good0 rfl
  rw [hn, show sc0.size = 0 from rfl, Nat.sub_zero] at h0
  have e : writeB ([91] ++ a) sc0 = writeB (a.drop n) (writeB (a.take n) (takeB 91 sc0)) := by
    rw [← writeB_append, List.take_append_drop]; rfl
  rw [e, hn]
  have hu : uByt (a.take n) := fun x hx => ha x (List.mem_of_mem_take hx)
  rcases first_run [93] (a.take n) hu sc0 (takeB 91 sc0) (in_first open_91) rfl open_91 h0 with q | ⟨q, _⟩
  · exact Or.inl (code_five q)
  · right
    have h1 := (write_size (a.drop n) (writeB (a.take n) (takeB 91 sc0))).2.1
    have h2 : (takeB 91 sc0).size = 1 := rfl
    have h3 : (a.take n).length = n := by simp; omega
    omega

end Go.Proofs.YtefmlajndillbabGreatDoor
