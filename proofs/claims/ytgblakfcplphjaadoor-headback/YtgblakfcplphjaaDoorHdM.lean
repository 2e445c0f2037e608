/- layer 19: heads, as mathematics -/
import Derived.Test.YtgblakfcplphjaaDoorUMath
import Derived.Test.YtgblakfcplphjaaDoorMath
namespace Go.Proofs.YtgblakfcplphjaaDoor
set_option linter.unusedVariables false

/-- how many bytes an information has behind it, below 0 where no head has it -/
def hN (i : Int) : Int := if i < 24 then 0 else if i = 24 then 1 else if i = 25 then 2 else if i = 26 then 4 else if i = 27 then 8 else if i = 31 then 0 else -1
/-- is there a head of this major type and information? -/
def hB (m i : Int) : Bool := if i = 31 then decide (m = 2 ∨ m = 3 ∨ m = 4 ∨ m = 5 ∨ m = 7) else decide (0 ≤ hN i)
theorem hN_cases (i : Int) : (i < 24 ∧ hN i = 0) ∨ (i = 24 ∧ hN i = 1) ∨ (i = 25 ∧ hN i = 2) ∨ (i = 26 ∧ hN i = 4) ∨ (i = 27 ∧ hN i = 8) ∨ (i = 31 ∧ hN i = 0) ∨ (28 ≤ i ∧ i ≠ 31 ∧ hN i = -1) := by
  unfold hN
  (repeat' split) <;> omega
theorem hB_n {m i : Int} (h : hB m i = true) : 0 ≤ hN i ∧ hN i ≤ 8 := by
  have := hN_cases i
  unfold hB at h
  split at h
  · omega
  · simp at h; omega
theorem hB_not {m i : Int} (h : hB m i = false) (hi : i ≤ 31) : (i = 31 ∧ ¬ (m = 2 ∨ m = 3 ∨ m = 4 ∨ m = 5 ∨ m = 7)) ∨ (28 ≤ i ∧ i ≤ 30) := by
  have := hN_cases i
  unfold hB at h
  split at h
  · exact Or.inl ⟨‹_›, of_decide_eq_false h⟩
  · simp at h; omega
/-- a number of bytes, the highest first, behind one that is there -/
def beV : Int → List Int → Int
  | a, [] => a
  | a, b :: l => beV (256 * a + b) l
theorem beV_snoc (l : List Int) : ∀ (a b : Int), beV a (l ++ [b]) = 256 * beV a l + b := by
  induction l with
  | nil => intro a b; rfl
  | cons x l ih => intro a b; exact ih _ _
/-- the lowest bytes of a number, the highest first -/
def beL : Nat → Int → List Int
  | 0, _ => []
  | n + 1, x => beL n (x / 256) ++ [x % 256]
theorem beL_len (n : Nat) : ∀ x, (beL n x).length = n := by
  induction n with
  | zero => intro x; rfl
  | succ n ih => intro x; simp [beL, ih]
theorem beL_byt (n : Nat) : ∀ x, uByt (beL n x) := by
  induction n with
  | zero => intro x y hy; cases hy
  | succ n ih =>
    intro x y hy
    rcases List.mem_append.1 hy with h | h
    · exact ih _ y h
    · rw [List.mem_singleton.1 h]; omega
def p256 : Nat → Int
  | 0 => 1
  | n + 1 => 256 * p256 n
theorem p256_pos (n : Nat) : 0 < p256 n := by
  induction n with
  | zero => decide
  | succ n ih => rw [p256]; omega
theorem beV_beL (n : Nat) : ∀ x, 0 ≤ x → x < p256 n → beV 0 (beL n x) = x := by
  induction n with
  | zero => intro x h0 h1; simp [p256] at h1; simp [beL, beV]; omega
  | succ n ih =>
    intro x h0 h1
    rw [p256] at h1
    rw [beL, beV_snoc, ih (x / 256) (by omega) (by omega)]
    omega
theorem beV_lt (l : List Int) : ∀ (a : Int) (k : Nat), 0 ≤ a → a < p256 k → uByt l → 0 ≤ beV a l ∧ beV a l < p256 (k + l.length) := by
  induction l with
  | nil => intro a k h0 h1 _; exact ⟨h0, h1⟩
  | cons b l ih =>
    intro a k h0 h1 hb
    have hb0 := hb b List.mem_cons_self
    have := ih (256 * a + b) (k + 1) (by omega) (by rw [p256]; omega) (fun x hx => hb x (List.mem_cons_of_mem _ hx))
    rw [show k + 1 + l.length = k + (b :: l).length by simp; omega] at this
    exact this
theorem beL_beV : ∀ (n : Nat) (l : List Int), l.length = n → uByt l → beL n (beV 0 l) = l := by
  intro n
  induction n with
  | zero => intro l h _; rw [List.length_eq_zero_iff.1 h]; rfl
  | succ n ih =>
    intro l h hb
    have hne : l ≠ [] := by intro e; rw [e] at h; simp at h
    obtain ⟨l', b, rfl⟩ : ∃ l' b, l = l' ++ [b] := ⟨l.dropLast, l.getLast hne, (List.dropLast_concat_getLast hne).symm⟩
    have hb0 := hb b (by simp)
    have hb' : uByt l' := fun x hx => hb x (by simp [hx])
    rw [beV_snoc, beL, show (256 * beV 0 l' + b) / 256 = beV 0 l' by omega, show (256 * beV 0 l' + b) % 256 = b by omega, ih l' (by simpa using h) hb']
theorem beL_split (n : Nat) : ∀ (m : Nat) (x : Int), beL (m + n) x = beL m (x / p256 n) ++ beL n x := by
  induction n with
  | zero => intro m x; simp [p256, beL]
  | succ n ih =>
    intro m x
    have e : beL (m + (n + 1)) x = beL (m + n) (x / 256) ++ [x % 256] := rfl
    rw [e, ih m (x / 256), p256, beL, Int.ediv_ediv_of_nonneg (by decide), List.append_assoc]
theorem beL_drop {n : Nat} (h : n ≤ 8) (x : Int) : (beL 8 x).drop (8 - n) = beL n x := by
  have e := beL_split n (8 - n) x
  rw [show 8 - n + n = 8 by omega] at e
  rw [e, List.drop_append_of_le_length (by rw [beL_len]; omega), List.drop_of_length_le (by rw [beL_len]; omega)]
  rfl
theorem p256_1 : p256 1 = 256 := rfl
theorem p256_2 : p256 2 = 65536 := rfl
theorem p256_4 : p256 4 = 4294967296 := rfl
theorem p256_8 : p256 8 = 18446744073709551616 := rfl

/-- a head -/
def hdL (m i x : Int) : List Int := (32 * m + i) :: beL (hN i).toNat x
/-- the information with which an argument takes the fewest bytes -/
def hS (x : Int) : Int := if x < 24 then x else if x < 256 then 24 else if x < 65536 then 25 else if x < 4294967296 then 26 else 27
def hSi (x : Int) : Bool := decide (x < 24) || (decide (31 < x) && decide (x < 256))
/-- which heads there are -/
def hOk (m x : Int) : Bool := decide (m < 7) || (decide (m = 7) && hSi x)
def hF (w x : Int) : Int := if w = 16 ∧ x < 65536 then 25 else if w = 32 ∧ x < 4294967296 then 26 else if w = 64 then 27 else 0
theorem hdL_len (m i x : Int) : (hdL m i x).length = 1 + (hN i).toNat := by simp [hdL, beL_len]; omega
theorem hdL_byt {m i : Int} (x : Int) (hm : 0 ≤ m ∧ m ≤ 7) (hi : 0 ≤ i ∧ i ≤ 31) : uByt (hdL m i x) := by
  intro y hy
  rcases List.mem_cons.1 hy with rfl | h
  · omega
  · exact beL_byt _ _ _ h

inductive Rd where
  | arg
  | bad (k : Int)
  | hd (m i x n : Int)
/-- what Read tells -/
def rdH (es : List Int) (k : Int) : Rd :=
  if k < 0 ∨ (es.length : Int) < k then .arg else if k = es.length then .bad k else
  if hB (Nt.lb es k.toNat / 32) (Nt.lb es k.toNat % 32) = false then .bad k else
  if (es.length : Int) - k < 1 + hN (Nt.lb es k.toNat % 32) then .bad es.length else
  .hd (Nt.lb es k.toNat / 32) (Nt.lb es k.toNat % 32) (if Nt.lb es k.toNat % 32 < 24 then Nt.lb es k.toNat % 32 else beV 0 ((es.drop (k.toNat + 1)).take (hN (Nt.lb es k.toNat % 32)).toNat)) (1 + hN (Nt.lb es k.toNat % 32))

theorem lb_byt {es : List Int} (h : uByt es) (k : Nat) : 0 ≤ Nt.lb es k ∧ Nt.lb es k < 256 := by
  unfold Nt.lb
  rcases Nat.lt_or_ge k es.length with g | g
  · rw [List.getD_eq_getElem?_getD, List.getElem?_eq_getElem g]; exact h _ (List.getElem_mem g)
  · rw [List.getD_eq_getElem?_getD, List.getElem?_eq_none g]; decide
theorem lb_app {a s : List Int} {k : Nat} : Nt.lb (a ++ s) (a.length + k) = Nt.lb s k := by
  simp [Nt.lb, List.getD_eq_getElem?_getD, List.getElem?_append_right]
theorem lb_lapp {s b : List Int} {k : Nat} (h : k < s.length) : Nt.lb (s ++ b) k = Nt.lb s k := by
  simp [Nt.lb, List.getD_eq_getElem?_getD, List.getElem?_append_left h]

/-- a head is read as it is -/
theorem rd_hdL {m i x : Int} (hm : 0 ≤ m ∧ m ≤ 7) (hi : 0 ≤ i ∧ i ≤ 27) (hx0 : 0 ≤ x) (hx : x < p256 (hN i).toNat ∨ i = x ∧ x < 24) (h24 : i < 24 → x = i) :
    rdH (hdL m i x) 0 = .hd m i x (1 + hN i) := by
  have hl := hdL_len m i x
  have hc := hN_cases i
  have e0 : Nt.lb (hdL m i x) 0 = 32 * m + i := rfl
  have e1 : (32 * m + i) / 32 = m := by omega
  have e2 : (32 * m + i) % 32 = i := by omega
  have hb : hB m i = true := by
    unfold hB
    rw [if_neg (by omega)]; simp; omega
  unfold rdH
  rw [if_neg (by omega), if_neg (by omega), show (0 : Int).toNat = 0 from rfl, e0, e1, e2, if_neg (by rw [hb]; decide), if_neg (by omega)]
  congr 1
  split
  · exact (h24 ‹_›).symm
  · rw [show (hdL m i x).drop (0 + 1) = beL (hN i).toNat x from rfl, List.take_of_length_le (by rw [beL_len]; exact Nat.le_refl _)]
    exact beV_beL _ _ hx0 (by omega)
/-- its beginnings are not -/
theorem rd_take {m i x : Int} (hm : 0 ≤ m ∧ m ≤ 7) (hi : 0 ≤ i ∧ i ≤ 27) {k : Nat} (hk : k < (hdL m i x).length) :
    rdH ((hdL m i x).take k) 0 = .bad k := by
  have hl := hdL_len m i x
  have hc := hN_cases i
  have hlt : ((hdL m i x).take k).length = k := by rw [List.length_take]; omega
  have hb : hB m i = true := by
    unfold hB
    rw [if_neg (by omega)]; simp; omega
  unfold rdH
  rw [hlt, if_neg (by omega)]
  rcases Nat.eq_zero_or_pos k with rfl | hp
  · rfl
  · have e0 : Nt.lb ((hdL m i x).take k) 0 = 32 * m + i := by rw [Nt.lb_take hp]; rfl
    have e1 : (32 * m + i) / 32 = m := by omega
    have e2 : (32 * m + i) % 32 = i := by omega
    rw [if_neg (by omega), show (0 : Int).toNat = 0 from rfl, e0, e1, e2, if_neg (by rw [hb]; decide), if_pos (by omega)]
theorem hS_rng {x : Int} (h0 : 0 ≤ x) (h1 : x < 18446744073709551616) : 0 ≤ hS x ∧ hS x ≤ 27 ∧ (x < p256 (hN (hS x)).toNat ∨ hS x = x ∧ x < 24) ∧ (hS x < 24 → x = hS x) := by
  have hc := hN_cases (hS x)
  have e : (x < 24 ∧ hS x = x) ∨ (24 ≤ x ∧ x < 256 ∧ hS x = 24) ∨ (256 ≤ x ∧ x < 65536 ∧ hS x = 25) ∨ (65536 ≤ x ∧ x < 4294967296 ∧ hS x = 26) ∨ (4294967296 ≤ x ∧ hS x = 27) := by
    unfold hS
    (repeat' split) <;> omega
  rcases e with ⟨a, b⟩ | ⟨a, c, b⟩ | ⟨a, c, b⟩ | ⟨a, c, b⟩ | ⟨a, b⟩
  · omega
  · rw [show hN (hS x) = 1 by omega]; exact ⟨by omega, by omega, Or.inl c, by omega⟩
  · rw [show hN (hS x) = 2 by omega]; exact ⟨by omega, by omega, Or.inl c, by omega⟩
  · rw [show hN (hS x) = 4 by omega]; exact ⟨by omega, by omega, Or.inl c, by omega⟩
  · rw [show hN (hS x) = 8 by omega]; exact ⟨by omega, by omega, Or.inl h1, by omega⟩
theorem rd_write {m x : Int} (hm : 0 ≤ m ∧ m ≤ 7) (h0 : 0 ≤ x) (h1 : x < 18446744073709551616) : rdH (hdL m (hS x) x) 0 = .hd m (hS x) x (1 + hN (hS x)) := by
  obtain ⟨a, b, c, d⟩ := hS_rng h0 h1
  exact rd_hdL hm ⟨a, b⟩ h0 c d
theorem hd_inj {m x y : Int} (hm : 0 ≤ m ∧ m ≤ 7) (h0 : 0 ≤ x) (h1 : x < 18446744073709551616) (g0 : 0 ≤ y) (g1 : y < 18446744073709551616) : hdL m (hS x) x = hdL m (hS y) y ↔ x = y := by
  constructor
  · intro e
    have e1 := rd_write hm h0 h1
    rw [e, rd_write hm g0 g1] at e1
    injection e1 with _ _ h _
    exact h.symm
  · rintro rfl; rfl
/-- the shortest of those that say the same -/
theorem rd_least {es : List Int} {m i x n : Int} (hb : uByt es) (h : rdH es 0 = .hd m i x n) (hm : m ≠ 7) (hi : i ≠ 31) :
    (0 ≤ m ∧ m < 7) ∧ 0 ≤ x ∧ x < 18446744073709551616 ∧ ((hdL m (hS x) x).length : Int) ≤ n ∧ (((hdL m (hS x) x).length : Int) = n ↔ hdL m (hS x) x = es.take n.toNat) := by
  unfold rdH at h
  rw [show (0 : Int).toNat = 0 from rfl] at h
  obtain ⟨b, hbv⟩ : ∃ b, Nt.lb es 0 = b := ⟨_, rfl⟩
  have hb0 := lb_byt hb 0
  rw [hbv] at h hb0
  split at h
  · cases h
  rename_i q1
  split at h
  · cases h
  rename_i q2
  split at h
  · cases h
  rename_i q3
  split at h
  · cases h
  rename_i q4
  injection h with e1 e2 e3 e4
  have hc := hN_cases i
  have hcB := hB_n (m := b / 32) (i := b % 32) (by simpa using q3)
  have hes : es = b :: es.drop 1 := by
    cases es with
    | nil => simp at q2
    | cons y es => rw [← hbv]; rfl
  obtain ⟨l, hl⟩ : ∃ l, (es.drop (0 + 1)).take (hN (b % 32)).toNat = l := ⟨_, rfl⟩
  rw [hl] at e3
  have hlb : uByt l := fun y hy => hb y (List.mem_of_mem_drop (List.mem_of_mem_take (hl ▸ hy)))
  have hll : l.length = (hN (b % 32)).toNat := by rw [← hl, List.length_take, List.length_drop]; omega
  have htk : es.take n.toNat = b :: l := by
    rw [← e4, show (1 + hN (b % 32)).toNat = (hN (b % 32)).toNat + 1 by omega, ← hl]
    rw [hes]; rfl
  rw [e2] at e3 e4 hll hcB
  have hx : 0 ≤ x ∧ x < p256 (hN i).toNat ∨ i < 24 ∧ x = i := by
    by_cases hi24 : i < 24
    · rw [if_pos hi24] at e3; omega
    · rw [if_neg hi24] at e3
      have := beV_lt l 0 0 (by omega) (by decide) hlb
      rw [e3, hll, Nat.zero_add] at this
      exact Or.inl this
  have hlen := hdL_len m (hS x) x
  have hcS := hN_cases (hS x)
  have hSe : (x < 24 ∧ hS x = x) ∨ (24 ≤ x ∧ x < 256 ∧ hS x = 24) ∨ (256 ≤ x ∧ x < 65536 ∧ hS x = 25) ∨ (65536 ≤ x ∧ x < 4294967296 ∧ hS x = 26) ∨ (4294967296 ≤ x ∧ hS x = 27) := by
    unfold hS
    (repeat' split) <;> omega
  have hxx : (i < 24 ∧ x = i) ∨ (24 ≤ i ∧ 0 ≤ x ∧ x < p256 (hN i).toNat) := by
    by_cases hi24 : i < 24
    · rw [if_pos hi24] at e3; exact Or.inl ⟨hi24, e3.symm⟩
    · rcases hx with h | h
      · exact Or.inr ⟨by omega, h⟩
      · omega
  have hxn : (i < 24 ∧ x = i ∧ 0 ≤ x) ∨ (i = 24 ∧ 0 ≤ x ∧ x < 256) ∨ (i = 25 ∧ 0 ≤ x ∧ x < 65536) ∨ (i = 26 ∧ 0 ≤ x ∧ x < 4294967296) ∨ (i = 27 ∧ 0 ≤ x ∧ x < 18446744073709551616) := by
    rcases hxx with ⟨a, c⟩ | ⟨a, c, d⟩
    · exact Or.inl ⟨a, c, by omega⟩
    · rcases hc with ⟨p, q⟩ | ⟨p, q⟩ | ⟨p, q⟩ | ⟨p, q⟩ | ⟨p, q⟩ | ⟨p, q⟩ | ⟨p, q, r⟩
      · omega
      · rw [q] at d; exact Or.inr (Or.inl ⟨p, c, d⟩)
      · rw [q] at d; exact Or.inr (Or.inr (Or.inl ⟨p, c, d⟩))
      · rw [q] at d; exact Or.inr (Or.inr (Or.inr (Or.inl ⟨p, c, d⟩)))
      · rw [q] at d; exact Or.inr (Or.inr (Or.inr (Or.inr ⟨p, c, d⟩)))
      · exact absurd p hi
      · omega
  have hle : hN (hS x) ≤ hN i ∧ (hN (hS x) = hN i → hS x = i) ∧ 0 ≤ hN (hS x) := by omega
  refine ⟨by omega, by omega, by omega, by omega, ?_⟩
  rw [htk]
  constructor
  · intro h
    have hSi : hS x = i := hle.2.1 (by omega)
    rw [hSi, hdL]
    have hbb : 32 * m + i = b := by omega
    rw [hbb]
    congr 1
    by_cases hi24 : i < 24
    · have h0 : (hN i).toNat = 0 := by omega
      rw [h0] at hll ⊢
      rw [List.length_eq_zero_iff.1 hll]; rfl
    · rw [if_neg hi24] at e3
      rw [← e3]
      exact beL_beV _ _ hll hlb
  · intro h
    rw [h, List.length_cons, hll]; omega
/-- what stands about a head makes no difference -/
theorem rd_within {a s b : List Int} (hb : uByt s) :
    (∀ m i x n, rdH s 0 = .hd m i x n → rdH (a ++ s ++ b) a.length = .hd m i x n) ∧ (∀ k, rdH s 0 = .bad k → k = s.length ∨ k = 0 ∧ rdH (a ++ s ++ b) a.length = .bad a.length) ∧ rdH s 0 ≠ .arg := by
  have hl : (a ++ s ++ b).length = a.length + s.length + b.length := by simp; omega
  have hk : ((a.length : Int)).toNat = a.length + 0 := by omega
  have h0 : (0 : Int).toNat = 0 := rfl
  by_cases hs : s.length = 0
  · have hsn := List.length_eq_zero_iff.1 hs
    subst hsn
    refine ⟨fun m i x n h => ?_, fun k h => ?_, fun h => ?_⟩ <;> (unfold rdH at h; simp at h) 
    exact Or.inl (by simp [← h])
  have e : Nt.lb (a ++ s ++ b) (a.length + 0) = Nt.lb s 0 := by rw [List.append_assoc, lb_app, lb_lapp (by omega)]
  have hnn : ∀ x y : Int, ¬ (1 + hN (Nt.lb s 0 % 32) > s.length) → hB (Nt.lb s 0 / 32) (Nt.lb s 0 % 32) = true → ((a ++ s ++ b).drop (a.length + 0 + 1)).take (hN (Nt.lb s 0 % 32)).toNat = (s.drop (0 + 1)).take (hN (Nt.lb s 0 % 32)).toNat := by
    intro _ _ h hB0
    have := hB_n hB0
    rw [List.append_assoc, show a.length + 0 + 1 = a.length + (0 + 1) by omega, List.drop_append, List.drop_of_length_le (by omega), List.nil_append, show a.length + (0 + 1) - a.length = 1 by omega, List.drop_append_of_le_length (by omega), List.take_append_of_le_length (by rw [List.length_drop]; omega)]
  refine ⟨fun m i x n h => ?_, fun k h => ?_, fun h => ?_⟩
  · unfold rdH at h ⊢
    rw [hl, hk, e]
    rw [h0] at h
    rw [if_neg (by omega), if_neg (by omega)] at h
    rw [if_neg (by omega), if_neg (by omega)]
    by_cases g : hB (Nt.lb s 0 / 32) (Nt.lb s 0 % 32) = false
    · rw [if_pos g] at h; cases h
    · rw [if_neg g] at h ⊢
      by_cases g2 : (s.length : Int) - 0 < 1 + hN (Nt.lb s 0 % 32)
      · rw [if_pos g2] at h; cases h
      · rw [if_neg g2] at h
        rw [if_neg (by omega), hnn 0 0 (by omega) (by simpa using g)]
        exact h
  · unfold rdH at h ⊢
    rw [hl, hk, e]
    rw [h0] at h
    rw [if_neg (by omega), if_neg (by omega)] at h
    rw [if_neg (by omega), if_neg (by omega)]
    by_cases g : hB (Nt.lb s 0 / 32) (Nt.lb s 0 % 32) = false
    · rw [if_pos g] at h ⊢
      injection h with h
      exact Or.inr ⟨h.symm, rfl⟩
    · rw [if_neg g] at h
      by_cases g2 : (s.length : Int) - 0 < 1 + hN (Nt.lb s 0 % 32)
      · rw [if_pos g2] at h
        injection h with h
        exact Or.inl h.symm
      · rw [if_neg g2] at h; cases h
  · unfold rdH at h
    rw [if_neg (by omega)] at h
    split at h
    · cases h
    split at h
    · cases h
    split at h <;> cases h

end Go.Proofs.YtgblakfcplphjaaDoor
