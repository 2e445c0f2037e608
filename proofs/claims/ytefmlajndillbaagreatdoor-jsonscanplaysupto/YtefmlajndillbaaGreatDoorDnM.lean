/- layer 16, plain: the document's scanner as a machine, beside the program's -/
import Derived.Test.YtefmlajndillbaaGreatDoorJsLm
import Derived.Test.YtefmlajndillbaaGreatDoorXOk
namespace Go.Proofs.YtefmlajndillbaaGreatDoor
open Go.RowKit
set_option linter.unusedVariables false

/-- what its cells say but for a literal's -/
structure Dn where
  mode : Nat
  opn : List Int
  keys : Bool
  rest : List Int
def dMd : Md → Nat
  | .value => 0 | .firstElement => 1 | .firstKey => 2 | .key => 3 | .colon => 4 | .behind => 5 | .letter => 7 | .minus => 8 | .wholePart => 9
  | .digits => 10 | .point => 11 | .fraction => 12 | .exponent => 13 | .sign => 14 | .power => 15 | _ => 6
def dCl (c : Int) (o : List Int) : Bool := !(o.isEmpty || (o.getLastD 0 == 91 && c != 93) || (o.getLastD 0 == 123 && c != 125))
def dVal (c : Int) (n : Dn) : Nat × Dn :=
  if c = 91 then (if n.opn.length = 128 then (5, n) else (0, { n with opn := n.opn ++ [91], mode := 1 }))
  else if c = 123 then (if n.opn.length = 128 then (5, n) else (0, { n with opn := n.opn ++ [123], mode := 2 }))
  else if c = 34 then (0, { n with keys := false, mode := 6 })
  else if c = 110 then (0, { n with mode := 7, rest := [117, 108, 108] })
  else if c = 116 then (0, { n with mode := 7, rest := [114, 117, 101] })
  else if c = 102 then (0, { n with mode := 7, rest := [97, 108, 115, 101] })
  else if c = 45 then (0, { n with mode := 8 })
  else if c = 48 then (0, { n with mode := 9 })
  else if 49 ≤ c ∧ c ≤ 57 then (0, { n with mode := 10 })
  else (3, n)
def dSign (c : Int) (n : Dn) : Nat × Dn :=
  if (n.mode = 1 ∨ n.mode = 2 ∨ n.mode = 5) ∧ (c = 93 ∨ c = 125) ∧ dCl c n.opn = true then (0, { n with opn := n.opn.dropLast, mode := 5 })
  else if n.mode = 4 ∧ c = 58 then (0, { n with mode := 0 })
  else if n.mode = 5 ∧ c = 44 ∧ n.opn ≠ [] then (0, { n with mode := if n.opn.getLastD 0 = 123 then 3 else 0 })
  else if c = 34 ∧ (n.mode = 2 ∨ n.mode = 3) then (0, { n with keys := true, mode := 6 })
  else if n.mode = 0 ∨ n.mode = 1 then dVal c n
  else (3, n)
/-- of a number: where it goes on with a byte -/
def dGo (m : Nat) (c : Int) : Option Nat :=
  if m = 8 ∧ c = 48 then some 9
  else if m = 8 ∧ digB c = true then some 10
  else if (m = 10 ∨ m = 12 ∨ m = 15) ∧ digB c = true then some m
  else if (m = 9 ∨ m = 10) ∧ c = 46 then some 11
  else if m = 11 ∧ digB c = true then some 12
  else if (m = 9 ∨ m = 10 ∨ m = 12) ∧ (c = 101 ∨ c = 69) then some 13
  else if m = 13 ∧ (c = 43 ∨ c = 45) then some 14
  else if (m = 13 ∨ m = 14) ∧ digB c = true then some 15
  else none
def dMay (m : Nat) : Bool := m == 9 || m == 10 || m == 12 || m == 15
def dBet (c : Int) (n : Dn) : Nat × Dn := if blankB c then (0, n) else dSign c n
def dStp (c : Int) (n : Dn) : Nat × Dn :=
  if n.mode = 7 then (if c = n.rest.headD 0 then (0, { n with rest := n.rest.tail, mode := if n.rest.tail = [] then 5 else 7 }) else (3, n))
  else if 8 ≤ n.mode then
    match dGo n.mode c with
    | some m => (0, { n with mode := m })
    | none => if dMay n.mode then dBet c { n with mode := 5 } else (3, n)
  else dBet c n
theorem dGo_ge {m k : Nat} {c : Int} (h : dGo m c = some k) (h8 : 8 ≤ m) : 9 ≤ k := by
  unfold dGo at h
  repeat' split at h
  all_goals (try cases h)
  all_goals omega
/-- may the text end there? -/
def endM : Md → Bool
  | .behind => true | .wholePart => true | .digits => true | .fraction => true | .power => true | _ => false
/-- both machines -/
structure DnR (m : Md) (t : St) (n : Dn) : Prop where
  md : n.mode = dMd m
  op : n.opn = t.opn.map (fun c => c - 2)
  wd : m = .letter → n.rest = t.word
  ky : n.mode = 6 → n.keys = t.isKey
  fe : m = .firstElement → t.opn.getLastD 0 = 93
  fk : m = .firstKey → t.opn.getLastD 0 = 125
/-- one step of both -/
def DSim (t : St) (r : Rs) (q : Nat × Dn) : Prop :=
  (∃ u, r = (none, u) ∧ q.1 = (if u.bad = 0 then 3 else u.bad) ∧ q.1 ≠ 0 ∧ q.2.opn = t.opn.map (fun c => c - 2) ∧ u.opn = t.opn)
  ∨ (∃ m' u, r = (some m', u) ∧ q.1 = 0 ∧ DnR m' u q.2 ∧ u.ends = endM m' ∧ (q.2.mode = 6 → m' = .piece) ∧ u.begun = t.begun)
theorem dsim_no {t : St} {n : Dn} (hb : t.bad = 0) (ho : n.opn = t.opn.map (fun c => c - 2)) : DSim t (no t) (3, n) :=
  Or.inl ⟨t, rfl, by simp [hb], by simp, ho, rfl⟩
theorem last_map (l : List Int) (h : l ≠ []) : (l.map (fun c => c - 2)).getLastD 0 = l.getLastD 0 - 2 := by
  obtain ⟨l', x, rfl⟩ : ∃ l' x, l = l' ++ [x] := ⟨l.dropLast, l.getLast h, (List.dropLast_concat_getLast h).symm⟩
  simp
theorem last_mem (l : List Int) (h : l ≠ []) : l.getLastD 0 ∈ l := by
  obtain ⟨l', x, rfl⟩ : ∃ l' x, l = l' ++ [x] := ⟨l.dropLast, l.getLast h, (List.dropLast_concat_getLast h).symm⟩
  simp
theorem dsim_val {t : St} {n : Dn} {b : Int} (hc : Core t) (hb : t.bad = 0) (he : t.ends = false) (ho : n.opn = t.opn.map (fun c => c - 2)) (hn : blankB b = false) : DSim t (valueB b t) (dVal b n) := by
  unfold valueB dVal
  rw [if_neg (by simp [hn])]
  have hl : n.opn.length = t.opn.length := by rw [ho]; simp
  by_cases k1 : b = 34
  · subst k1
    exact Or.inr ⟨_, _, rfl, rfl, ⟨rfl, ho, nofun, fun _ => rfl, nofun, nofun⟩, he, fun _ => rfl, rfl⟩
  rw [if_neg k1]
  by_cases k2 : b = 91
  · subst k2
    rw [if_pos rfl, if_pos rfl]
    unfold opened
    by_cases k : t.opn.length = 128
    · rw [if_pos k, if_pos (by omega)]
      exact Or.inl ⟨_, rfl, by simp, by simp, ho, rfl⟩
    · rw [if_neg k, if_neg (by omega)]
      exact Or.inr ⟨_, _, rfl, rfl, ⟨rfl, by simp [ho], nofun, nofun, fun _ => by simp, nofun⟩, he, nofun, rfl⟩
  rw [if_neg k2, if_neg k2]
  by_cases k3 : b = 123
  · subst k3
    rw [if_pos rfl, if_pos rfl]
    unfold opened
    by_cases k : t.opn.length = 128
    · rw [if_pos k, if_pos (by omega)]
      exact Or.inl ⟨_, rfl, by simp, by simp, ho, rfl⟩
    · rw [if_neg k, if_neg (by omega)]
      exact Or.inr ⟨_, _, rfl, rfl, ⟨rfl, by simp [ho], nofun, nofun, nofun, fun _ => by simp⟩, he, nofun, rfl⟩
  rw [if_neg k3, if_neg k3, if_neg k1]
  by_cases k4 : b = 45
  · subst k4
    exact Or.inr ⟨_, _, rfl, rfl, ⟨rfl, ho, nofun, nofun, nofun, nofun⟩, he, nofun, rfl⟩
  rw [if_neg k4]
  cases hd : digB b with
  | true =>
    rw [if_pos rfl]
    unfold numberB minusB
    rw [if_neg k4]
    simp [digB] at hd
    rw [if_neg (show ¬ b = 110 by omega), if_neg (show ¬ b = 116 by omega), if_neg (show ¬ b = 102 by omega), if_neg k4]
    by_cases k5 : b = 48
    · rw [if_pos k5, if_pos k5]
      exact Or.inr ⟨_, _, rfl, rfl, ⟨rfl, ho, nofun, nofun, nofun, nofun⟩, rfl, nofun, rfl⟩
    · rw [if_neg k5, if_neg k5, if_pos (show digB b = true by simp [digB]; omega), if_pos (show 49 ≤ b ∧ b ≤ 57 by omega)]
      exact Or.inr ⟨_, _, rfl, rfl, ⟨rfl, ho, nofun, nofun, nofun, nofun⟩, rfl, nofun, rfl⟩
  | false =>
    rw [if_neg (by simp)]
    unfold namedB
    by_cases k6 : b = 110
    · subst k6; exact Or.inr ⟨_, _, rfl, rfl, ⟨rfl, ho, fun _ => rfl, nofun, nofun, nofun⟩, he, nofun, rfl⟩
    by_cases k7 : b = 116
    · subst k7; exact Or.inr ⟨_, _, rfl, rfl, ⟨rfl, ho, fun _ => rfl, nofun, nofun, nofun⟩, he, nofun, rfl⟩
    by_cases k8 : b = 102
    · subst k8; exact Or.inr ⟨_, _, rfl, rfl, ⟨rfl, ho, fun _ => rfl, nofun, nofun, nofun⟩, he, nofun, rfl⟩
    have hd' : ¬ (48 ≤ b ∧ b ≤ 57) := by
      intro e
      rw [show digB b = true by simp [digB]; omega] at hd
      cases hd
    rw [if_neg k6, if_neg k7, if_neg k8, if_neg k6, if_neg k7, if_neg k8, if_neg k4, if_neg (show ¬ b = 48 by omega), if_neg (show ¬ (49 ≤ b ∧ b ≤ 57) by omega)]
    exact dsim_no hb ho
theorem dCl_yes {t : St} {b : Int} (hk : ∀ c ∈ t.opn, c = 93 ∨ c = 125) (hb : b = 93 ∨ b = 125) : dCl b (t.opn.map (fun c => c - 2)) = true ↔ t.opn ≠ [] ∧ b = t.opn.getLastD 0 := by
  by_cases h : t.opn = []
  · rw [h]; simp [dCl]
  · have h1 := last_map t.opn h
    have h2 := hk _ (last_mem t.opn h)
    unfold dCl
    rw [h1]
    have h3 : (t.opn.map (fun c => c - 2)).isEmpty = false := by cases e : t.opn <;> simp_all
    rw [h3]
    rcases h2 with e | e <;> rcases hb with g | g <;> rw [e, g] <;> simp [h]
theorem dsim_behind {t : St} {n : Dn} {b : Int} (hc : Core t) (hb : t.bad = 0) (he0 : t.ends = false) (ho : n.opn = t.opn.map (fun c => c - 2)) (hm : n.mode = 5) : DSim t (behindB b t) (dBet b n) := by
  unfold behindB dBet
  cases hn : blankB b with
  | true =>
    rw [if_pos rfl, if_pos rfl]
    exact Or.inr ⟨_, _, rfl, rfl, ⟨hm, ho, nofun, (fun e => by rw [hm] at e; cases e), nofun, nofun⟩, rfl, (fun e => by simp only [hm] at e; cases e), rfl⟩
  | false =>
    have hff : ¬ (false = true) := by simp
    rw [if_neg hff, if_neg hff]
    unfold dSign
    rw [hm, ho]
    by_cases he : t.opn = []
    · have g1 : ¬ ((5 = 1 ∨ 5 = 2 ∨ 5 = 5) ∧ (b = 93 ∨ b = 125) ∧ dCl b (t.opn.map (fun c => c - 2)) = true) := fun e => ((dCl_yes hc.brk e.2.1).1 e.2.2).1 he
      have g2 : ¬ (5 = 5 ∧ b = 44 ∧ t.opn.map (fun c => c - 2) ≠ []) := fun e => e.2.2 (by rw [he]; rfl)
      rw [if_pos he, if_neg g1, if_neg (show ¬ (5 = 4 ∧ b = 58) by omega), if_neg g2, if_neg (show ¬ (b = 34 ∧ (5 = 2 ∨ 5 = 3)) by omega), if_neg (show ¬ (5 = 0 ∨ 5 = 1) by omega)]
      exact dsim_no hb ho
    · rw [if_neg he]
      have h2 := hc.brk _ (last_mem t.opn he)
      by_cases k1 : b = t.opn.getLastD 0
      · have g1 : (5 = 1 ∨ 5 = 2 ∨ 5 = 5) ∧ (b = 93 ∨ b = 125) ∧ dCl b (t.opn.map (fun c => c - 2)) = true := ⟨by omega, by omega, (dCl_yes hc.brk (by omega)).2 ⟨he, k1⟩⟩
        rw [if_pos k1, if_pos g1]
        refine Or.inr ⟨_, _, rfl, rfl, ⟨rfl, ?_, nofun, nofun, nofun, nofun⟩, rfl, nofun, rfl⟩
        simp [List.map_dropLast]
      · have g1 : ¬ ((5 = 1 ∨ 5 = 2 ∨ 5 = 5) ∧ (b = 93 ∨ b = 125) ∧ dCl b (t.opn.map (fun c => c - 2)) = true) := fun e => k1 ((dCl_yes hc.brk e.2.1).1 e.2.2).2
        rw [if_neg k1, if_neg g1, if_neg (show ¬ (5 = 4 ∧ b = 58) by omega)]
        by_cases k2 : b = 44
        · have g2 : 5 = 5 ∧ b = 44 ∧ t.opn.map (fun c => c - 2) ≠ [] := ⟨rfl, k2, by simp [he]⟩
          rw [if_pos k2, if_pos g2, last_map _ he]
          by_cases k3 : t.opn.getLastD 0 = 93
          · rw [if_pos k3, if_neg (by omega)]
            exact Or.inr ⟨_, _, rfl, rfl, ⟨rfl, rfl, nofun, nofun, nofun, nofun⟩, he0, nofun, rfl⟩
          · rw [if_neg k3, if_pos (by omega)]
            exact Or.inr ⟨_, _, rfl, rfl, ⟨rfl, rfl, nofun, nofun, nofun, nofun⟩, he0, nofun, rfl⟩
        · have g2 : ¬ (5 = 5 ∧ b = 44 ∧ t.opn.map (fun c => c - 2) ≠ []) := fun e => k2 e.2.1
          rw [if_neg k2, if_neg g2, if_neg (show ¬ (b = 34 ∧ (5 = 2 ∨ 5 = 3)) by omega), if_neg (show ¬ (5 = 0 ∨ 5 = 1) by omega)]
          exact dsim_no hb ho
theorem dsim_go {t : St} {n : Dn} {m : Md} (he : t.ends = endM m) (h : DnR m t n) (hl : n.mode ≠ 6) : DSim t (go m t) (0, n) := Or.inr ⟨_, _, rfl, rfl, h, he, fun e => absurd e hl, rfl⟩
theorem dsim_may {t : St} {n : Dn} {m : Md} (he : endM m = true) (h : DnR m t n) (hl : n.mode ≠ 6) : DSim t (mayE m t) (0, n) := Or.inr ⟨_, _, rfl, rfl, ⟨h.md, h.op, h.wd, h.ky, h.fe, h.fk⟩, he.symm, fun e => absurd e hl, rfl⟩
theorem dig_no {b : Int} (h : ¬ digB b = true) : ¬ (48 ≤ b ∧ b ≤ 57) := fun e => h (by simp [digB]; omega)
theorem dig_is {b : Int} (h : digB b = true) : 48 ≤ b ∧ b ≤ 57 := by simpa [digB] using h
theorem dStp_num {n : Dn} {b : Int} (h : 8 ≤ n.mode) : dStp b n = match dGo n.mode b with
    | some m => (0, { n with mode := m })
    | none => if dMay n.mode then dBet b { n with mode := 5 } else (3, n) := by
  unfold dStp
  rw [if_neg (by omega), if_pos h]
theorem dGo_13 {m : Nat} {b : Int} (h : m = 9 ∨ m = 10 ∨ m = 12) (hb : b = 101 ∨ b = 69) : dGo m b = some 13 := by
  have hd : digB b = false := by rcases hb with rfl | rfl <;> rfl
  unfold dGo
  rw [if_neg (by omega), if_neg (by simp [hd]), if_neg (by simp [hd]), if_neg (by omega), if_neg (by simp [hd]), if_pos ⟨h, hb⟩]
/-- outside of literals -/
theorem dsim_step {m : Md} {t : St} {n : Dn} {b : Int} (hg : Good m t) (hb : t.bad = 0) (he : t.ends = false) (hr : DnR m t n) (h6 : n.mode ≠ 6) : DSim t (stepB m b t) (dStp b n) := by
  have hc := hg.core
  have hnum : ∀ k, 8 ≤ n.mode → dGo n.mode b = some k → ∀ m', dMd m' = k → endM m' = true → k ≠ 6 → m' ≠ .letter → m' ≠ .firstElement → m' ≠ .firstKey → DSim t (mayE m' t) (dStp b n) := fun k h8 h1 m' h2 h3 h4 h5 h7 h9 => by
    rw [dStp_num h8, h1]
    exact dsim_may h3 ⟨h2.symm, hr.op, fun e => absurd e h5, fun e => absurd e h4, fun e => absurd e h7, fun e => absurd e h9⟩ h4
  have hnug : ∀ k, 8 ≤ n.mode → dGo n.mode b = some k → ∀ m', dMd m' = k → endM m' = false → k ≠ 6 → m' ≠ .letter → m' ≠ .firstElement → m' ≠ .firstKey → DSim t (go m' t) (dStp b n) := fun k h8 h1 m' h2 h3 h4 h5 h7 h9 => by
    rw [dStp_num h8, h1]
    exact dsim_go (he.trans h3.symm) ⟨h2.symm, hr.op, fun e => absurd e h5, fun e => absurd e h4, fun e => absurd e h7, fun e => absurd e h9⟩ h4
  have hnun : 8 ≤ n.mode → dGo n.mode b = none → dMay n.mode = false → DSim t (no t) (dStp b n) := fun h8 h1 h2 => by
    rw [dStp_num h8, h1]
    simp only [h2]
    exact dsim_no hb hr.op
  have hnub : 8 ≤ n.mode → dGo n.mode b = none → dMay n.mode = true → DSim t (behindB b t) (dStp b n) := fun h8 h1 h2 => by
    rw [dStp_num h8, h1]
    simp only [h2, if_true]
    exact dsim_behind hc hb he hr.op rfl
  have hbet : n.mode < 7 → dStp b n = dBet b n := fun h => by unfold dStp; rw [if_neg (by omega), if_neg (by omega)]
  have hmd := hr.md
  have hgo : ∀ M, n.mode = M → dGo n.mode b = dGo M b := fun M e => by rw [e]
  cases m with
  | value =>
    have e : n.mode = 0 := hmd
    rw [hbet (by omega)]
    unfold dBet
    cases hn : blankB b with
    | true =>
      have : stepB .value b t = go .value t := by show valueB b t = _; unfold valueB; rw [if_pos hn]
      rw [this, if_pos rfl]
      exact dsim_go he hr h6
    | false =>
      have hff : ¬ (false = true) := by simp
      have : dSign b n = dVal b n := by
        unfold dSign
        rw [e, if_neg (by omega), if_neg (by omega), if_neg (by omega), if_neg (by omega), if_pos (by omega)]
      rw [if_neg hff, this]
      exact dsim_val hc hb he hr.op hn
  | firstElement =>
    have e : n.mode = 1 := hmd
    rw [hbet (by omega)]
    unfold dBet
    have h0 : stepB .firstElement b t = firstElementB b t := rfl
    rw [h0]
    unfold firstElementB
    have ho := hg.op (Or.inl rfl)
    cases hn : blankB b with
    | true => rw [if_pos rfl, if_pos rfl]; exact dsim_go he hr h6
    | false =>
      have hff : ¬ (false = true) := by simp
      rw [if_neg hff, if_neg hff]
      have hl := hr.fe rfl
      unfold dSign
      rw [e, hr.op]
      by_cases k1 : b = 93
      · have g1 : (1 = 1 ∨ 1 = 2 ∨ 1 = 5) ∧ (b = 93 ∨ b = 125) ∧ dCl b (t.opn.map (fun c => c - 2)) = true := ⟨by omega, by omega, (dCl_yes hc.brk (by omega)).2 ⟨ho, by rw [hl]; exact k1⟩⟩
        rw [if_pos k1, if_pos g1]
        exact Or.inr ⟨_, _, rfl, rfl, ⟨rfl, by simp [List.map_dropLast], nofun, nofun, nofun, nofun⟩, rfl, nofun, rfl⟩
      · have g1 : ¬ ((1 = 1 ∨ 1 = 2 ∨ 1 = 5) ∧ (b = 93 ∨ b = 125) ∧ dCl b (t.opn.map (fun c => c - 2)) = true) := fun q => k1 (hl ▸ ((dCl_yes hc.brk q.2.1).1 q.2.2).2)
        rw [if_neg k1, if_neg g1, if_neg (show ¬ (1 = 4 ∧ b = 58) by omega), if_neg (show ¬ (1 = 5 ∧ b = 44 ∧ t.opn.map (fun c => c - 2) ≠ []) by omega), if_neg (show ¬ (b = 34 ∧ (1 = 2 ∨ 1 = 3)) by omega), if_pos (show 1 = 0 ∨ 1 = 1 by omega)]
        exact dsim_val hc hb he hr.op hn
  | firstKey =>
    have e : n.mode = 2 := hmd
    rw [hbet (by omega)]
    unfold dBet
    have h0 : stepB .firstKey b t = firstKeyB b t := rfl
    rw [h0]
    unfold firstKeyB
    have ho := hg.op (Or.inr rfl)
    cases hn : blankB b with
    | true => rw [if_pos rfl, if_pos rfl]; exact dsim_go he hr h6
    | false =>
      have hff : ¬ (false = true) := by simp
      rw [if_neg hff, if_neg hff]
      have hl := hr.fk rfl
      unfold dSign
      rw [e, hr.op]
      by_cases k1 : b = 125
      · have g1 : (2 = 1 ∨ 2 = 2 ∨ 2 = 5) ∧ (b = 93 ∨ b = 125) ∧ dCl b (t.opn.map (fun c => c - 2)) = true := ⟨by omega, by omega, (dCl_yes hc.brk (by omega)).2 ⟨ho, by rw [hl]; exact k1⟩⟩
        rw [if_pos k1, if_pos g1]
        exact Or.inr ⟨_, _, rfl, rfl, ⟨rfl, by simp [List.map_dropLast], nofun, nofun, nofun, nofun⟩, rfl, nofun, rfl⟩
      · have g1 : ¬ ((2 = 1 ∨ 2 = 2 ∨ 2 = 5) ∧ (b = 93 ∨ b = 125) ∧ dCl b (t.opn.map (fun c => c - 2)) = true) := fun q => k1 (hl ▸ ((dCl_yes hc.brk q.2.1).1 q.2.2).2)
        rw [if_neg k1, if_neg g1, if_neg (show ¬ (2 = 4 ∧ b = 58) by omega), if_neg (show ¬ (2 = 5 ∧ b = 44 ∧ t.opn.map (fun c => c - 2) ≠ []) by omega)]
        unfold keyB
        rw [hn, if_neg hff]
        by_cases k2 : b = 34
        · rw [if_pos k2, if_pos (show b = 34 ∧ (2 = 2 ∨ 2 = 3) by omega)]
          exact Or.inr ⟨_, _, rfl, rfl, ⟨rfl, rfl, nofun, fun _ => rfl, nofun, nofun⟩, he, fun _ => rfl, rfl⟩
        · rw [if_neg k2, if_neg (show ¬ (b = 34 ∧ (2 = 2 ∨ 2 = 3)) by omega), if_neg (show ¬ (2 = 0 ∨ 2 = 1) by omega)]
          exact dsim_no hb hr.op
  | key =>
    have e : n.mode = 3 := hmd
    rw [hbet (by omega)]
    unfold dBet
    have h0 : stepB .key b t = keyB b t := rfl
    rw [h0]
    unfold keyB
    cases hn : blankB b with
    | true => rw [if_pos rfl, if_pos rfl]; exact dsim_go he hr h6
    | false =>
      have hff : ¬ (false = true) := by simp
      rw [if_neg hff, if_neg hff]
      unfold dSign
      rw [e, if_neg (show ¬ ((3 = 1 ∨ 3 = 2 ∨ 3 = 5) ∧ (b = 93 ∨ b = 125) ∧ dCl b n.opn = true) by omega), if_neg (show ¬ (3 = 4 ∧ b = 58) by omega), if_neg (show ¬ (3 = 5 ∧ b = 44 ∧ n.opn ≠ []) by omega)]
      by_cases k2 : b = 34
      · rw [if_pos k2, if_pos (show b = 34 ∧ (3 = 2 ∨ 3 = 3) by omega)]
        exact Or.inr ⟨_, _, rfl, rfl, ⟨rfl, hr.op, nofun, fun _ => rfl, nofun, nofun⟩, he, fun _ => rfl, rfl⟩
      · rw [if_neg k2, if_neg (show ¬ (b = 34 ∧ (3 = 2 ∨ 3 = 3)) by omega), if_neg (show ¬ (3 = 0 ∨ 3 = 1) by omega)]
        exact dsim_no hb hr.op
  | colon =>
    have e : n.mode = 4 := hmd
    rw [hbet (by omega)]
    unfold dBet
    have h0 : stepB .colon b t = colonB b t := rfl
    rw [h0]
    unfold colonB
    cases hn : blankB b with
    | true => rw [if_pos rfl, if_pos rfl]; exact dsim_go he hr h6
    | false =>
      have hff : ¬ (false = true) := by simp
      rw [if_neg hff, if_neg hff]
      unfold dSign
      rw [e, if_neg (show ¬ ((4 = 1 ∨ 4 = 2 ∨ 4 = 5) ∧ (b = 93 ∨ b = 125) ∧ dCl b n.opn = true) by omega)]
      by_cases k2 : b = 58
      · rw [if_pos k2, if_pos (show 4 = 4 ∧ b = 58 by omega)]
        exact dsim_go he ⟨rfl, hr.op, nofun, nofun, nofun, nofun⟩ (by simp)
      · rw [if_neg k2, if_neg (show ¬ (4 = 4 ∧ b = 58) by omega), if_neg (show ¬ (4 = 5 ∧ b = 44 ∧ n.opn ≠ []) by omega), if_neg (show ¬ (b = 34 ∧ (4 = 2 ∨ 4 = 3)) by omega), if_neg (show ¬ (4 = 0 ∨ 4 = 1) by omega)]
        exact dsim_no hb hr.op
  | behind =>
    have e : n.mode = 5 := hmd
    rw [hbet (by omega)]
    exact dsim_behind hc hb he hr.op e
  | letter =>
    have e : n.mode = 7 := hmd
    have h0 : stepB .letter b t = letterB b t := rfl
    rw [h0]
    unfold letterB dStp
    rw [if_pos e, hr.wd rfl]
    by_cases k1 : b = t.word.headD 0
    · rw [if_pos k1, if_pos k1]
      by_cases k2 : t.word.tail = []
      · rw [if_pos k2, if_pos k2]
        exact Or.inr ⟨_, _, rfl, rfl, ⟨rfl, hr.op, nofun, nofun, nofun, nofun⟩, rfl, nofun, rfl⟩
      · rw [if_neg k2, if_neg k2]
        exact Or.inr ⟨_, _, rfl, rfl, ⟨rfl, hr.op, fun _ => rfl, nofun, nofun, nofun⟩, he, nofun, rfl⟩
    · rw [if_neg k1, if_neg k1]
      exact dsim_no hb hr.op
  | minus =>
    have e : n.mode = 8 := hmd
    have h0 : stepB .minus b t = minusB b t := rfl
    rw [h0]
    unfold minusB
    by_cases k1 : b = 48
    · rw [if_pos k1]
      exact hnum 9 (by omega) (by rw [hgo 8 e, k1]; rfl) .wholePart rfl rfl (by omega) nofun nofun nofun
    rw [if_neg k1]
    by_cases k2 : digB b = true
    · rw [if_pos k2]
      exact hnum 10 (by omega) (by rw [hgo 8 e]; unfold dGo; rw [if_neg (by omega), if_pos ⟨rfl, k2⟩]) .digits rfl rfl (by omega) nofun nofun nofun
    · rw [if_neg k2]
      exact hnun (by omega) (by rw [hgo 8 e]; simp [dGo, k1, k2]) (by rw [e]; rfl)
  | wholePart =>
    have e : n.mode = 9 := hmd
    have h0 : stepB .wholePart b t = wholeB b t := rfl
    rw [h0]
    unfold wholeB decimalsB
    by_cases k1 : b = 46
    · rw [if_pos k1]
      exact hnug 11 (by omega) (by rw [hgo 9 e, k1]; rfl) .point rfl rfl (by omega) nofun nofun nofun
    rw [if_neg k1]
    by_cases k2 : b = 101 ∨ b = 69
    · rw [if_pos k2]
      exact hnug 13 (by omega) (by rw [hgo 9 e]; exact dGo_13 (by omega) k2) .exponent rfl rfl (by omega) nofun nofun nofun
    · rw [if_neg k2]
      exact hnub (by omega) (by rw [hgo 9 e]; simp [dGo, k1, k2]) (by rw [e]; rfl)
  | digits =>
    have e : n.mode = 10 := hmd
    have h0 : stepB .digits b t = digitsB b t := rfl
    rw [h0]
    unfold digitsB wholeB decimalsB
    by_cases k0 : digB b = true
    · rw [if_pos k0]
      exact hnum 10 (by omega) (by rw [hgo 10 e]; simp [dGo, k0]) .digits rfl rfl (by omega) nofun nofun nofun
    rw [if_neg k0]
    by_cases k1 : b = 46
    · rw [if_pos k1]
      exact hnug 11 (by omega) (by rw [hgo 10 e, k1]; rfl) .point rfl rfl (by omega) nofun nofun nofun
    rw [if_neg k1]
    by_cases k2 : b = 101 ∨ b = 69
    · rw [if_pos k2]
      exact hnug 13 (by omega) (by rw [hgo 10 e]; exact dGo_13 (by omega) k2) .exponent rfl rfl (by omega) nofun nofun nofun
    · rw [if_neg k2]
      exact hnub (by omega) (by rw [hgo 10 e]; simp [dGo, k0, k1, k2]) (by rw [e]; rfl)
  | point =>
    have e : n.mode = 11 := hmd
    have h0 : stepB .point b t = pointB b t := rfl
    rw [h0]
    unfold pointB
    by_cases k0 : digB b = true
    · rw [if_pos k0]
      exact hnum 12 (by omega) (by rw [hgo 11 e]; simp [dGo, k0]) .fraction rfl rfl (by omega) nofun nofun nofun
    · rw [if_neg k0]
      exact hnun (by omega) (by rw [hgo 11 e]; simp [dGo, k0]) (by rw [e]; rfl)
  | fraction =>
    have e : n.mode = 12 := hmd
    have h0 : stepB .fraction b t = fractionB b t := rfl
    rw [h0]
    unfold fractionB decimalsB
    by_cases k0 : digB b = true
    · rw [if_pos k0]
      exact hnum 12 (by omega) (by rw [hgo 12 e]; simp [dGo, k0]) .fraction rfl rfl (by omega) nofun nofun nofun
    rw [if_neg k0]
    by_cases k2 : b = 101 ∨ b = 69
    · rw [if_pos k2]
      exact hnug 13 (by omega) (by rw [hgo 12 e]; exact dGo_13 (by omega) k2) .exponent rfl rfl (by omega) nofun nofun nofun
    · rw [if_neg k2]
      exact hnub (by omega) (by rw [hgo 12 e]; simp [dGo, k0, k2]) (by rw [e]; rfl)
  | exponent =>
    have e : n.mode = 13 := hmd
    have h0 : stepB .exponent b t = exponentB b t := rfl
    rw [h0]
    unfold exponentB signB
    by_cases k1 : b = 43 ∨ b = 45
    · rw [if_pos k1]
      exact hnug 14 (by omega) (by rw [hgo 13 e]; rcases k1 with rfl | rfl <;> rfl) .sign rfl rfl (by omega) nofun nofun nofun
    rw [if_neg k1]
    by_cases k0 : digB b = true
    · rw [if_pos k0]
      exact hnum 15 (by omega) (by rw [hgo 13 e]; simp [dGo, k0, k1]) .power rfl rfl (by omega) nofun nofun nofun
    · rw [if_neg k0]
      exact hnun (by omega) (by rw [hgo 13 e]; simp [dGo, k0, k1]) (by rw [e]; rfl)
  | sign =>
    have e : n.mode = 14 := hmd
    have h0 : stepB .sign b t = signB b t := rfl
    rw [h0]
    unfold signB
    by_cases k0 : digB b = true
    · rw [if_pos k0]
      exact hnum 15 (by omega) (by rw [hgo 14 e]; simp [dGo, k0]) .power rfl rfl (by omega) nofun nofun nofun
    · rw [if_neg k0]
      exact hnun (by omega) (by rw [hgo 14 e]; simp [dGo, k0]) (by rw [e]; rfl)
  | power =>
    have e : n.mode = 15 := hmd
    have h0 : stepB .power b t = powerB b t := rfl
    rw [h0]
    unfold powerB
    by_cases k0 : digB b = true
    · rw [if_pos k0]
      exact hnum 15 (by omega) (by rw [hgo 15 e]; simp [dGo, k0]) .power rfl rfl (by omega) nofun nofun nofun
    · rw [if_neg k0]
      exact hnub (by omega) (by rw [hgo 15 e]; simp [dGo, k0]) (by rw [e]; rfl)
  | _ => exact absurd hmd h6
/-- the bytes of a literal that have said nothing yet -/
def pend : XS → Nat
  | .stroke => 1
  | .digs l _ h => if h = 0 then 6 - l else 12 - l
  | .second _ => 6
  | .letter _ => 7
  | _ => 0
theorem uEnc_le4 (p : Int) : (uEnc p).length ≤ 4 := by
  unfold uEnc
  repeat' split
  all_goals simp
theorem uEnc_le3 {p : Int} (h : p < 65536) : (uEnc p).length ≤ 3 := by
  unfold uEnc
  repeat' split
  all_goals first | omega | simp
theorem pend_step {σ τ : XS} {c : Int} {u : List Int} (hok : xOk σ) (h : xStep σ c = some (τ, u)) : u.length + pend τ ≤ pend σ + 1 := by
  cases σ with
  | start =>
    change (if c = 34 then some (XS.inn, ([] : List Int)) else none) = _ at h
    split at h <;> cases h
    simp [pend]
  | inn =>
    change xIn c = _ at h
    unfold xIn at h
    repeat' split at h
    all_goals cases h
    all_goals simp [pend]
  | stroke =>
    change xStr c = _ at h
    unfold xStr at h
    repeat' split at h
    all_goals cases h
    all_goals simp [pend]
  | digs l n hh =>
    change xDgs l n hh c = _ at h
    unfold xDgs at h
    obtain ⟨h1, h2, h3, h4, h5, h6, h7, h8⟩ := hok
    have hd := xDig_lt c
    split at h
    · cases h
    split at h
    · cases h
    split at h
    · cases h
      simp only [pend, List.length_nil]
      split <;> omega
    · have hl : l = 1 := by omega
      subst hl
      injection h with h
      unfold xEnd at h
      split at h
      · cases h
        have := uEnc_le4 (65536 + (hh - 55296) * 1024 + (16 * n + xDig c) - 56320)
        simp only [pend]
        rw [if_neg (by omega)]
        omega
      · split at h
        · cases h
          simp only [pend, List.length_nil]
          rw [if_pos (by omega)]
          omega
        · cases h
          have := uEnc_le3 (p := 16 * n + xDig c) (by omega)
          simp only [pend]
          rw [if_pos (by omega)]
          omega
  | second hh =>
    change (if c = 92 then some (XS.letter hh, ([] : List Int)) else none) = _ at h
    split at h <;> cases h
    simp [pend]
  | letter hh =>
    change (if c = 117 then some (XS.digs 4 0 hh, ([] : List Int)) else none) = _ at h
    split at h <;> cases h
    have : hh ≠ 0 := by have := hok.1; omega
    simp [pend, this]
  | byts l lo mo =>
    change xByt l lo mo c = _ at h
    unfold xByt at h
    split at h
    · cases h
    · cases h
      split <;> simp [pend]
  | fin => cases h

end Go.Proofs.YtefmlajndillbaaGreatDoor
