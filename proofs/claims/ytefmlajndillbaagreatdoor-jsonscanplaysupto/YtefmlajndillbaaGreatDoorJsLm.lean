/- literals, plain: the scanner's steps beside the literal's automaton -/
import Derived.Test.YtefmlajndillbaaGreatDoorJsM
import Derived.Test.YtefmlajndillbaaGreatDoorXAut
namespace Go.Proofs.YtefmlajndillbaaGreatDoor
open Go.RowKit
set_option linter.unusedVariables false

theorem lfst_dec (l : List Int) (h : l ≠ []) : uFst l 0 = uDec l := by
  have hl : 0 < l.length := List.length_pos_iff.2 h
  have := uFst_in (es := l) (k := 0) hl
  simpa using this
theorem rch_beg {l : List Int} : rch l = 0 ↔ xBeg l = false := by
  rw [xBeg_no]
  unfold rch
  rw [lfst_dec _ (by simp), lfst_dec _ (by simp)]
  omega
theorem hex_dig {c : Int} : jhxB c = true ↔ 0 ≤ xDig c := by
  unfold jhxB digB xDig
  simp only [Bool.or_eq_true, Bool.and_eq_true, decide_eq_true_eq]
  split
  · simp; omega
  · split
    · simp; omega
    · split
      · simp; omega
      · simp; omega
theorem dig_le {c : Int} : xDig c ≤ 15 := by unfold xDig; repeat' split
                                             all_goals omega
theorem esc_let {c : Int} : escB c = true ↔ xLet c ≠ -1 := by
  unfold escB xLet
  repeat' split
  all_goals simp_all
/-- digits to come: what they may come to -/
def Dok (half : Bool) (l : Nat) (n h : Int) : Prop :=
  if half then h = 0 ∧ ((l = 2 ∧ 216 ≤ n ∧ n ≤ 219) ∨ (l = 1 ∧ 3456 ≤ n ∧ n ≤ 3519))
  else (h = 0 ∧ ((l = 3 ∧ 0 ≤ n ∧ n ≤ 15 ∧ n ≠ 13) ∨ (l = 2 ∧ 0 ≤ n ∧ n ≤ 255 ∧ (n < 216 ∨ 223 < n)) ∨ (l = 1 ∧ 0 ≤ n ∧ n ≤ 4095 ∧ (n < 3456 ∨ 3583 < n)))) ∨ (0 < h ∧ ((l = 2 ∧ 220 ≤ n ∧ n ≤ 223) ∨ (l = 1 ∧ 3520 ≤ n ∧ n ≤ 3583)))
/-- an encoding that has begun -/
def EncR (u : List Int) (σ : XS) : Prop :=
  (∃ a, u = [a] ∧ 194 ≤ a ∧ a ≤ 244 ∧ σ = .byts (xLeft a) (xLow a) (xMost a))
  ∨ (∃ a b, u = [a, b] ∧ 224 ≤ a ∧ a ≤ 244 ∧ (xLow a ≤ b ∧ b ≤ xMost a) ∧ σ = .byts (xLeft a - 1) 128 191)
  ∨ (∃ a b c, u = [a, b, c] ∧ 240 ≤ a ∧ a ≤ 244 ∧ (xLow a ≤ b ∧ b ≤ xMost a) ∧ (128 ≤ c ∧ c ≤ 191) ∧ σ = .byts 1 128 191)
/-- the scanner within a literal, and the automaton -/
def Lr (t : St) (σ : XS) : Md → Prop
  | .piece => t.begun = [] ∧ σ = .inn
  | .backslash => t.begun = [] ∧ σ = .stroke
  | .unit => t.begun = [] ∧ σ = .digs 4 0 0
  | .behindD => t.begun = [] ∧ σ = .digs 3 13 0
  | .digitsLeft => t.begun = [] ∧ ∃ (l : Nat) (n h : Int), σ = .digs l n h ∧ t.left = l ∧ Dok t.half l n h
  | .secondHalf => t.begun = [] ∧ ∃ h, 0 < h ∧ σ = .second h
  | .secondU => t.begun = [] ∧ ∃ h, 0 < h ∧ σ = .letter h
  | .secondD => t.begun = [] ∧ ∃ h, 0 < h ∧ σ = .digs 4 0 h
  | .secondSpan => t.begun = [] ∧ ∃ h, 0 < h ∧ σ = .digs 3 13 h
  | .encoding => EncR t.begun σ
  | _ => False
/-- one step of both -/
def Sim (t : St) (r : Rs) (x : Option (XS × List Int)) : Prop :=
  (r = (none, t) ∧ x = none)
  ∨ (∃ m' t' σ' u, r = (some m', t') ∧ x = some (σ', u) ∧ σ' ≠ .fin ∧ Lr t' σ' m' ∧ t'.isKey = t.isKey ∧ t'.opn = t.opn ∧ t'.bad = t.bad ∧ t'.ends = t.ends)
  ∨ (r = unquotedB t ∧ x = some (.fin, []) ∧ t.begun = [])
theorem sim_no {t : St} : Sim t (no t) none := Or.inl ⟨rfl, rfl⟩
theorem sim_go {t : St} {m : Md} {σ : XS} {u : List Int} (h : Lr t σ m) (hf : σ ≠ .fin) : Sim t (go m t) (some (σ, u)) := Or.inr (Or.inl ⟨m, t, σ, u, rfl, rfl, hf, h, rfl, rfl, rfl, rfl⟩)
theorem sim_more {t : St} {n : Int} {l : Nat} {k : Bool} {q h : Int} {u : List Int} (hb : t.begun = []) (hn : n = l) (hd : Dok k l q h) : Sim t (moreB n k t) (some (.digs l q h, u)) :=
  Or.inr (Or.inl ⟨_, _, _, u, rfl, rfl, nofun, ⟨hb, l, q, h, rfl, hn, hd⟩, rfl, rfl, rfl, rfl⟩)
theorem sim_left {t : St} {m : Md} {σ : XS} {u : List Int} (h : Lr { t with left := t.left - 1 } σ m) (hf : σ ≠ .fin) : Sim t (go m { t with left := t.left - 1 }) (some (σ, u)) :=
  Or.inr (Or.inl ⟨m, _, σ, u, rfl, rfl, hf, h, rfl, rfl, rfl, rfl⟩)
theorem dec_val (a : Int) (r : List Int) : (uDec (a :: r)).2 = 0 ∨ (uDec (a :: r)).2 = (uLead a).2 := by
  simp only [uDec]
  repeat' split
  all_goals simp
theorem rch_val {a : Int} {r : List Int} (h : rch (a :: r) ≠ 0) : rch (a :: r) = (uLead a).2 := by
  unfold rch at h ⊢
  rw [lfst_dec _ (by simp), lfst_dec _ (by simp)] at h ⊢
  simp only [List.cons_append] at h ⊢
  have h1 := dec_val a (r ++ [128, 128, 128])
  have h2 := dec_val a (r ++ [191, 191, 191])
  omega
theorem lead_of {a : Int} (h1 : 194 ≤ a) (h2 : a ≤ 244) : (uLead a).2 = xLeft a + 1 := by
  unfold xLeft
  by_cases q : a < 224
  · rw [xLead_two (by omega) q, if_neg (by omega), if_neg (by omega)]
  · by_cases q2 : a < 240
    · rw [xLead_three (by omega) q2, if_neg (by omega), if_pos (by omega)]
    · rw [xLead_four (by omega) (by omega), if_pos (by omega)]
theorem xleft_le {a : Int} : 1 ≤ xLeft a ∧ xLeft a ≤ 3 := by unfold xLeft; repeat' split
                                                             all_goals omega
theorem sim_enc {t : St} {b a : Int} {r : List Int} {l : Nat} {lo mo : Int} (hu : t.begun = a :: r) (h1 : 194 ≤ a) (h2 : a ≤ 244) (hl : l + r.length = xLeft a) (hl0 : 1 ≤ l)
    (hb : xBeg (a :: r ++ [b]) = true ↔ lo ≤ b ∧ b ≤ mo) (hE : lo ≤ b → b ≤ mo → 2 ≤ l → EncR (a :: r ++ [b]) (.byts (l - 1) 128 191)) : Sim t (encodingB b t) (xStep (.byts l lo mo) b) := by
  unfold encodingB
  rw [hu]
  by_cases hr : rch (a :: r ++ [b]) = 0
  · rw [if_pos hr]
    have hx : ¬ (lo ≤ b ∧ b ≤ mo) := by rw [← hb, rch_beg.1 hr]; simp
    rw [xByt_no hx]
    exact sim_no
  · rw [if_neg hr]
    have hx : lo ≤ b ∧ b ≤ mo := by
      rw [← hb]
      cases q : xBeg (a :: r ++ [b]) with
      | true => rfl
      | false => exact absurd (rch_beg.2 q) hr
    have hv : rch (a :: r ++ [b]) = xLeft a + 1 := by rw [← lead_of h1 h2]; exact rch_val hr
    rw [hv]
    by_cases q : 2 ≤ l
    · rw [if_pos (by simp; omega), xByt_yes hx q]
      refine Or.inr (Or.inl ⟨_, _, _, _, rfl, rfl, nofun, ?_, rfl, rfl, rfl, rfl⟩)
      exact hE hx.1 hx.2 q
    · have hl1 : l = 1 := by omega
      subst hl1
      rw [if_neg (by simp; omega), xByt_last hx]
      exact Or.inr (Or.inl ⟨_, _, _, _, rfl, rfl, nofun, ⟨rfl, rfl⟩, rfl, rfl, rfl, rfl⟩)
theorem sim_encoding {t : St} {b : Int} {σ : XS} (h : EncR t.begun σ) : Sim t (encodingB b t) (xStep σ b) := by
  rcases h with ⟨a, hu, h1, h2, rfl⟩ | ⟨a, b', hu, h1, h2, h3, rfl⟩ | ⟨a, b', c, hu, h1, h2, h3, h4, rfl⟩
  · refine sim_enc hu h1 h2 (by simp) xleft_le.1 (xBeg_two h1 h2) (fun e1 e2 q => Or.inr (Or.inl ⟨a, b, rfl, ?_, h2, ⟨e1, e2⟩, rfl⟩))
    rcases Int.lt_or_le a 224 with g | g
    · rw [xLeft_one g] at q; omega
    · exact g
  · refine sim_enc hu (by omega) h2 (l := xLeft a - 1) ?_ ?_ (xBeg_three h1 h2 h3) (fun e1 e2 q => Or.inr (Or.inr ⟨a, b', b, rfl, ?_, h2, h3, ⟨e1, e2⟩, ?_⟩))
    · have : 2 ≤ xLeft a := by unfold xLeft; repeat' split
                               all_goals omega
      simp; omega
    · have : 2 ≤ xLeft a := by unfold xLeft; repeat' split
                               all_goals omega
      omega
    · rcases Int.lt_or_le a 240 with g | g
      · rw [xLeft_two h1 g] at q; omega
      · exact g
    · have g : 240 ≤ a := by
        rcases Int.lt_or_le a 240 with g | g
        · rw [xLeft_two h1 g] at q; omega
        · exact g
      rw [xLeft_three g]
  · refine sim_enc hu (by omega) h2 (l := 1) ?_ (Nat.le_refl _) (xBeg_four h1 h2 h3 h4) (fun _ _ q => by omega)
    rw [xLeft_three h1]; simp
theorem sim_piece {t : St} {b : Int} (h0 : 0 ≤ b) (h1 : b < 256) (hb : t.begun = []) : Sim t (pieceB b t) (xStep .inn b) := by
  show Sim t (pieceB b t) (xIn b)
  unfold pieceB xIn
  by_cases k1 : b = 34
  · rw [if_pos k1, if_pos k1]; exact Or.inr (Or.inr ⟨rfl, rfl, hb⟩)
  rw [if_neg k1, if_neg k1]
  by_cases k2 : b = 92
  · rw [if_pos k2, if_pos k2]; exact sim_go ⟨hb, rfl⟩ nofun
  rw [if_neg k2, if_neg k2]
  by_cases k3 : b < 32
  · rw [if_pos k3, if_pos (Or.inl k3)]; exact sim_no
  rw [if_neg k3]
  by_cases k4 : b < 128
  · rw [if_pos k4, if_neg (by omega), if_pos k4]; exact sim_go ⟨hb, rfl⟩ nofun
  rw [if_neg k4]
  unfold encodingB
  rw [hb]
  simp only [List.nil_append, List.length_nil]
  by_cases k5 : 194 ≤ b ∧ b ≤ 244
  · have hr : rch [b] ≠ 0 := fun e => by
      have := rch_beg.1 e
      rw [(xBeg_one (by omega)).2 k5] at this
      cases this
    rw [if_neg hr, rch_val hr, lead_of k5.1 k5.2, if_pos (by have := xleft_le (a := b); omega), if_neg (by omega), if_neg (by omega)]
    refine Or.inr (Or.inl ⟨_, _, _, _, rfl, rfl, nofun, ?_, rfl, rfl, rfl, rfl⟩)
    exact Or.inl ⟨b, rfl, k5.1, k5.2, rfl⟩
  · have hr : rch [b] = 0 := by
      rw [rch_beg]
      cases q : xBeg [b] with
      | false => rfl
      | true => exact absurd ((xBeg_one (by omega)).1 q) k5
    rw [if_pos hr, if_pos (by omega)]
    exact sim_no
theorem dig_cases (b : Int) : (48 ≤ b ∧ b ≤ 57 ∧ xDig b = b - 48) ∨ (97 ≤ b ∧ b ≤ 102 ∧ xDig b = b - 87) ∨ (65 ≤ b ∧ b ≤ 70 ∧ xDig b = b - 55) ∨ (¬ (48 ≤ b ∧ b ≤ 57) ∧ ¬ (97 ≤ b ∧ b ≤ 102) ∧ ¬ (65 ≤ b ∧ b ≤ 70) ∧ xDig b = -1) := by
  unfold xDig
  repeat' split
  all_goals omega
theorem dgs_none {l : Nat} {n h b : Int} (hx : xDig b < 0 ∨ xBar (l - 1) (16 * n + xDig b) h) : xStep (.digs l n h) b = none := by
  show xDgs l n h b = none
  unfold xDgs
  split
  · rfl
  · rename_i q
    rw [if_pos (by rcases hx with e | e; exact absurd e q; exact e)]
theorem dgs_go {l : Nat} {n h b : Int} (hx : ¬ xDig b < 0) (hb : ¬ xBar (l - 1) (16 * n + xDig b) h) (hl : 2 ≤ l) : xStep (.digs l n h) b = some (.digs (l - 1) (16 * n + xDig b) h, []) := by
  show xDgs l n h b = _
  unfold xDgs
  rw [if_neg hx, if_neg hb, if_pos (by omega)]
theorem dgs_end {n h b : Int} (hx : ¬ xDig b < 0) : xStep (.digs 1 n h) b = some (xEnd (16 * n + xDig b) h) := by
  show xDgs 1 n h b = _
  unfold xDgs
  rw [if_neg hx, if_neg (by unfold xBar; omega), if_neg (by omega)]
theorem sim_step {t : St} {σ : XS} {m : Md} (h : Lr t σ m) (b : Int) (h0 : 0 ≤ b) (h1 : b < 256) : Sim t (stepB m b t) (xStep σ b) := by
  have hd := hex_dig (c := b)
  have hle := dig_le (c := b)
  cases m with
  | piece => obtain ⟨hb, rfl⟩ := h; exact sim_piece h0 h1 hb
  | encoding => exact sim_encoding h
  | backslash =>
    obtain ⟨hb, rfl⟩ := h
    show Sim t (backslashB b t) (xStr b)
    unfold backslashB xStr
    by_cases k1 : b = 117
    · subst k1; exact sim_go (m := .unit) ⟨hb, rfl⟩ nofun
    · rw [if_neg k1]
      cases q : escB b with
      | true => rw [if_pos rfl, if_pos (esc_let.1 q)]; exact sim_go ⟨hb, rfl⟩ nofun
      | false =>
        rw [if_neg (by simp), if_neg (fun e => by rw [esc_let.2 e] at q; cases q), if_neg k1]
        exact sim_no
  | unit =>
    obtain ⟨hb, rfl⟩ := h
    show Sim t (unitB b t) _
    unfold unitB
    have hc := dig_cases b
    by_cases k1 : b = 100 ∨ b = 68
    · have e : xDig b = 13 := by omega
      rw [if_pos k1, dgs_go (by omega) (by unfold xBar; omega) (by omega), e]
      exact sim_go ⟨hb, rfl⟩ nofun
    · rw [if_neg k1]
      cases q : jhxB b with
      | true =>
        have := hd.1 q
        rw [if_pos rfl, dgs_go (by omega) (by unfold xBar; omega) (by omega)]
        have hDk : Dok false 3 (16 * 0 + xDig b) 0 := by
          unfold Dok; rw [if_neg (by simp)]; omega
        exact sim_more (l := 3) hb rfl hDk
      | false =>
        have : ¬ 0 ≤ xDig b := fun e => by rw [hd.2 e] at q; cases q
        rw [if_neg (by simp), dgs_none (by omega)]
        exact sim_no
  | behindD =>
    obtain ⟨hb, rfl⟩ := h
    show Sim t (behindDB b t) _
    unfold behindDB
    have hc := dig_cases b
    by_cases k1 : 48 ≤ b ∧ b ≤ 55
    · rw [if_pos k1, dgs_go (by omega) (by unfold xBar; omega) (by omega)]
      have hDk : Dok false 2 (16 * 13 + xDig b) 0 := by
        unfold Dok; rw [if_neg (by simp)]; omega
      exact sim_more (l := 2) hb rfl hDk
    · rw [if_neg k1]
      by_cases k2 : b = 56 ∨ b = 57 ∨ b = 97 ∨ b = 98 ∨ b = 65 ∨ b = 66
      · rw [if_pos k2, dgs_go (by omega) (by unfold xBar; omega) (by omega)]
        have hDk : Dok true 2 (16 * 13 + xDig b) 0 := by
          unfold Dok; rw [if_pos rfl]; omega
        exact sim_more (l := 2) hb rfl hDk
      · rw [if_neg k2, dgs_none (by unfold xBar; omega)]
        exact sim_no
  | digitsLeft =>
    obtain ⟨hb, l, n, x, rfl, hl, hD⟩ := h
    show Sim t (digitsLeftB b t) _
    unfold digitsLeftB
    have hc := dig_cases b
    cases q : jhxB b with
    | false =>
      have : ¬ 0 ≤ xDig b := fun e => by rw [hd.2 e] at q; cases q
      rw [if_neg (by simp), dgs_none (by omega)]
      exact sim_no
    | true =>
      have hq := hd.1 q
      rw [if_pos rfl]
      by_cases k1 : 0 < t.left - 1
      · rw [if_pos k1]
        have hl2 : 2 ≤ l := by omega
        by_cases hh : t.half = true
        · rw [hh] at hD
          simp only [Dok, if_true] at hD
          rw [dgs_go (by omega) (by unfold xBar; omega) hl2]
          refine sim_left (t := t) (m := .digitsLeft) ⟨hb, l - 1, 16 * n + xDig b, x, rfl, by simp; omega, ?_⟩ nofun
          simp only [hh, Dok, if_true]; omega
        · have hf : t.half = false := by simpa using hh
          rw [hf] at hD
          simp only [Dok, Bool.false_eq_true, if_false] at hD
          rw [dgs_go (by omega) (by unfold xBar; omega) hl2]
          refine sim_left (t := t) (m := .digitsLeft) ⟨hb, l - 1, 16 * n + xDig b, x, rfl, by simp; omega, ?_⟩ nofun
          simp only [hf, Dok, Bool.false_eq_true, if_false]; omega
      · rw [if_neg k1]
        by_cases hh : t.half = true
        · rw [hh] at hD
          simp only [Dok, if_true] at hD
          have hl1 : l = 1 := by omega
          subst hl1
          have e : xEnd (16 * n + xDig b) x = (.second (16 * n + xDig b), []) := by
            unfold xEnd; rw [if_neg (by omega), if_pos (by omega)]
          rw [if_pos hh, dgs_end (by omega), e]
          exact sim_left (t := t) (m := .secondHalf) ⟨hb, 16 * n + xDig b, by omega, rfl⟩ nofun
        · have hf : t.half = false := by simpa using hh
          rw [hf] at hD
          simp only [Dok, Bool.false_eq_true, if_false] at hD
          have hl1 : l = 1 := by omega
          subst hl1
          have e : ∃ u, xEnd (16 * n + xDig b) x = (.inn, u) := by
            unfold xEnd
            by_cases hx : 0 < x
            · rw [if_pos hx]; exact ⟨_, rfl⟩
            · rw [if_neg hx, if_neg (by omega)]; exact ⟨_, rfl⟩
          obtain ⟨u, e⟩ := e
          rw [if_neg hh, dgs_end (by omega), e]
          exact sim_left (t := t) (m := .piece) ⟨hb, rfl⟩ nofun
  | secondHalf =>
    obtain ⟨hb, x, hx, rfl⟩ := h
    show Sim t (secondHalfB b t) (if b = 92 then some (.letter x, []) else none)
    unfold secondHalfB
    by_cases k : b = 92
    · rw [if_pos k, if_pos k]; exact sim_go ⟨hb, x, hx, rfl⟩ nofun
    · rw [if_neg k, if_neg k]; exact sim_no
  | secondU =>
    obtain ⟨hb, x, hx, rfl⟩ := h
    show Sim t (secondUB b t) (if b = 117 then some (.digs 4 0 x, []) else none)
    unfold secondUB
    by_cases k : b = 117
    · rw [if_pos k, if_pos k]; exact sim_go ⟨hb, x, hx, rfl⟩ nofun
    · rw [if_neg k, if_neg k]; exact sim_no
  | secondD =>
    obtain ⟨hb, x, hx, rfl⟩ := h
    show Sim t (secondDB b t) _
    unfold secondDB
    have hc := dig_cases b
    by_cases k1 : b = 100 ∨ b = 68
    · have e : xDig b = 13 := by omega
      rw [if_pos k1, dgs_go (by omega) (by unfold xBar; omega) (by omega), e]
      exact sim_go ⟨hb, x, hx, rfl⟩ nofun
    · rw [if_neg k1, dgs_none (by unfold xBar; omega)]
      exact sim_no
  | secondSpan =>
    obtain ⟨hb, x, hx, rfl⟩ := h
    show Sim t (secondSpanB b t) _
    unfold secondSpanB
    have hc := dig_cases b
    by_cases k1 : (99 ≤ b ∧ b ≤ 102) ∨ (67 ≤ b ∧ b ≤ 70)
    · rw [if_pos k1, dgs_go (by omega) (by unfold xBar; omega) (by omega)]
      have hDk : Dok false 2 (16 * 13 + xDig b) x := by
        unfold Dok; rw [if_neg (by simp)]; omega
      exact sim_more (l := 2) hb rfl hDk
    · rw [if_neg k1, dgs_none (by unfold xBar; omega)]
      exact sim_no
  | _ => exact absurd h (by simp [Lr])

end Go.Proofs.YtefmlajndillbaaGreatDoor
