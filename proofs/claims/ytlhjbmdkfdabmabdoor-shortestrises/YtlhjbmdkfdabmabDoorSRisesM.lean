/- a greater pattern, a greater decimal number: by whole numbers alone -/
import Derived.Test.YtlhjbmdkfdabmabDoorSB
namespace Go.Proofs.YtlhjbmdkfdabmabDoor
set_option linter.unusedVariables false

/-- the number that digits tell -/
def bv : List Int → Int
  | [] => 0
  | a :: x => (a - 48) * 10 ^ x.length + bv x
theorem bv_snoc (xs : List Int) (b : Int) : bv (xs ++ [b]) = 10 * bv xs + (b - 48) := by
  induction xs with
  | nil => simp [bv]
  | cons a x ih =>
    rw [List.cons_append, bv, ih, bv, List.length_append, List.length_singleton, Int.pow_succ]
    rw [Int.mul_add, ← Int.mul_assoc, Int.mul_comm ((a - 48) * 10 ^ x.length) 10]
    omega
theorem bv_dl (k : Nat) : ∀ d, 0 ≤ d → d < 10 ^ k → bv (dl k d) = d := by
  induction k with
  | zero => intro d h0 h1; simp at h1; simp [dl, bv]; omega
  | succ k ih =>
    intro d h0 h1
    rw [Int.pow_succ] at h1
    rw [dl, bv_snoc, ih (d / 10) (by omega) (by omega)]
    omega
theorem bv_range {xs : List Int} (h : ∀ x ∈ xs, 48 ≤ x ∧ x ≤ 57) : 0 ≤ bv xs ∧ bv xs < 10 ^ xs.length := by
  induction xs with
  | nil => simp [bv]
  | cons a x ih =>
    obtain ⟨i0, i1⟩ := ih (fun y hy => h y (List.mem_cons_of_mem _ hy))
    obtain ⟨a0, a1⟩ := h a List.mem_cons_self
    rw [bv, List.length_cons, Int.pow_succ]
    have p := ten_pos x.length
    have q0 : 0 ≤ (a - 48) * 10 ^ x.length := Int.mul_nonneg (by omega) (by omega)
    have q1 : (a - 48) * 10 ^ x.length ≤ 9 * 10 ^ x.length := Int.mul_le_mul_of_nonneg_right (by omega) (by omega)
    omega
def by8 (xs : List Int) : List UInt8 := xs.map fun n => UInt8.ofNat n.toNat
theorem by8_lt {a b : Int} (ha : 48 ≤ a ∧ a ≤ 57) (hb : 48 ≤ b ∧ b ≤ 57) : (UInt8.ofNat a.toNat < UInt8.ofNat b.toNat ↔ a < b) ∧ (UInt8.ofNat a.toNat = UInt8.ofNat b.toNat ↔ a = b) := by
  have e : ∀ {x : Int}, 48 ≤ x ∧ x ≤ 57 → (UInt8.ofNat x.toNat).toNat = x.toNat := fun {x} h => by
    rw [UInt8.toNat_ofNat']; omega
  constructor
  · rw [UInt8.lt_iff_toNat_lt, e ha, e hb]; omega
  · rw [← UInt8.toNat_inj, e ha, e hb]; omega
theorem less_digits : ∀ (xs ys : List Int), (∀ x ∈ xs, 48 ≤ x ∧ x ≤ 57) → (∀ x ∈ ys, 48 ≤ x ∧ x ≤ 57) → bv xs * 10 ^ ys.length < bv ys * 10 ^ xs.length →
    Op.bytesLess (by8 xs) (by8 ys) = true ∧ Op.bytesLess (by8 ys) (by8 xs) = false
  | xs, [], hx, hy, h => by
    exfalso
    have := (bv_range hx).1
    simp [bv] at h
    omega
  | [], b :: y, hx, hy, h => by simp [by8, Op.bytesLess]
  | a :: x, b :: y, hx, hy, h => by
    have ha := hx a List.mem_cons_self
    have hb := hy b List.mem_cons_self
    have hx' := fun z hz => hx z (List.mem_cons_of_mem a hz)
    have hy' := fun z hz => hy z (List.mem_cons_of_mem b hz)
    obtain ⟨l1, l2⟩ := by8_lt ha hb
    obtain ⟨m1, m2⟩ := by8_lt hb ha
    obtain ⟨rx0, rx1⟩ := bv_range hx'
    obtain ⟨ry0, ry1⟩ := bv_range hy'
    have key : a ≤ b ∧ (a = b → bv x * 10 ^ y.length < bv y * 10 ^ x.length) := by
      rw [bv, bv, List.length_cons, List.length_cons, Int.pow_succ, Int.pow_succ] at h
      have px := ten_pos x.length
      have py := ten_pos y.length
      generalize (10 : Int) ^ x.length = P at *
      generalize (10 : Int) ^ y.length = R at *
      generalize bv x = X at *
      generalize bv y = Y at *
      have e1 : ((a - 48) * P + X) * (R * 10) = ((a - 48) * (P * R) + X * R) * 10 := by rw [← Int.mul_assoc, Int.add_mul, Int.mul_assoc (a - 48)]
      have e2 : ((b - 48) * R + Y) * (P * 10) = ((b - 48) * (P * R) + Y * P) * 10 := by rw [← Int.mul_assoc, Int.add_mul, Int.mul_assoc (b - 48), Int.mul_comm R P]
      rw [e1, e2] at h
      have pp : 0 < P * R := Int.mul_pos px py
      have x0 : 0 ≤ X * R := Int.mul_nonneg rx0 (by omega)
      have y1 : Y * P < P * R := by rw [Int.mul_comm P R]; exact Int.mul_lt_mul_of_pos_right ry1 px
      constructor
      · rcases Int.lt_or_le b a with c | c
        · exfalso
          have : (b - 48 + 1) * (P * R) ≤ (a - 48) * (P * R) := Int.mul_le_mul_of_nonneg_right (by omega) (by omega)
          rw [Int.add_mul, Int.one_mul] at this
          omega
        · exact c
      · intro e
        subst e
        omega
    simp only [by8, List.map_cons, Op.bytesLess]
    by_cases c : a = b
    · obtain ⟨i1, i2⟩ := less_digits x y hx' hy' (key.2 c)
      subst c
      constructor
      · rw [show Op.bytesLess (x.map fun n => UInt8.ofNat n.toNat) (y.map fun n => UInt8.ofNat n.toNat) = true from i1]; simp
      · rw [show Op.bytesLess (y.map fun n => UInt8.ofNat n.toNat) (x.map fun n => UInt8.ofNat n.toNat) = false from i2]; simp
    · have lt : a < b := by have := key.1; omega
      constructor
      · simp [l1.2 lt]
      · have n1 : ¬ UInt8.ofNat b.toNat < UInt8.ofNat a.toNat := fun k => by have := m1.1 k; omega
        have n2 : ¬ UInt8.ofNat b.toNat = UInt8.ofNat a.toNat := fun k => by have := m2.1 k; omega
        simp [n1, n2]
theorem less_self : ∀ xs : List UInt8, Op.bytesLess xs xs = false
  | [] => by simp [Op.bytesLess]
  | a :: x => by simp [Op.bytesLess, less_self x]

/-- what is told of a size above 0: digits and point of a number within reach -/
def Tl (F L s : Int) (t : ByteArray) (P : Int) : Prop :=
  ∃ (k : Nat) (d : Int), t = strOfNums (dl k d) ∧ 1 ≤ k ∧ k ≤ 17 ∧ 10 ^ (k - 1) ≤ d ∧ d < 10 ^ k ∧ -450 ≤ P - k ∧ d % 10 ≠ 0 ∧ Inn (vLo F L s) (vHi F L s) (s % 2 = 0) (d * TT (gG L) (P - k))
theorem tl_of {F L s p c : Int} {k : Nat} (hF : 0 < F) (h0 : 0 < s) (hL : -1074 ≤ L) (h : ShP F L s p k c) (h17 : k ≤ 17) : Tl F L s (strOfNums (txt k c)) (pt k c p) := by
  have hp := point_low hF h0 hL h.hi
  have hG := gG_pos L
  have inn : Inn (vLo F L s) (vHi F L s) (s % 2 = 0) (c * TT (gG L) (p - k)) := by
    rcases h.pick with ⟨e, g, _⟩ | ⟨e, g, _⟩ <;> rw [e] <;> exact g
  rcases h.cases hG (by omega) with ⟨e, rfl, _, e10⟩ | ⟨e, c0, c1, c2, _⟩
  · refine ⟨1, 1, ?_, by omega, by omega, by decide, by decide, ?_, by decide, ?_⟩
    · unfold txt; rw [if_pos e]; rfl
    · unfold pt; rw [if_pos e]; omega
    · unfold pt; rw [if_pos e]
      rw [e10] at inn
      have : TT (gG L) (p + 1 - (1 : Nat)) = 10 * TT (gG L) (p - (1 : Nat)) := by
        rw [← TT_succ (by omega)]; congr 1; omega
      rw [this, Int.one_mul]; exact inn
  · refine ⟨k, c, ?_, h.k1, h17, c0, c1, ?_, c2, ?_⟩
    · unfold txt; rw [if_neg e]
    · unfold pt; rw [if_neg e]; omega
    · unfold pt; rw [if_neg e]; exact inn
theorem str_list (xs : List Int) : (strOfNums xs).toList = by8 xs := by rw [ByteArray.toList_eq, strOfNums_data]; rfl
theorem rise {F L I s s' P P' : Int} {t t' : ByteArray} (hF : 0 < F) (h0 : 0 < s) (h1 : s < s') (h2 : s' < I) (h : Tl F L s t P) (h' : Tl F L s' t' P') :
    P < P' ∨ (P = P' ∧ Op.bytesLess t.toList t'.toList = true ∧ Op.bytesLess t'.toList t.toList = false) := by
  obtain ⟨k, d, rfl, k1, _, d0, d1, q, _, i1⟩ := h
  obtain ⟨k', d', rfl, k1', _, d0', d1', q', _, i2⟩ := h'
  have hG := gG_pos L
  have n1 := (nx_inn (I := I) hF h0 (by omega)).2 i1
  have n2 := (nx_inn (I := I) hF (by omega) h2).2 i2
  have lt : d * TT (gG L) (P - k) < d' * TT (gG L) (P' - k') := by
    rcases Int.lt_or_le (d * TT (gG L) (P - k)) (d' * TT (gG L) (P' - k')) with c | c
    · exact c
    · have := nx_le hF n2 n1 c; omega
  have lo : TT (gG L) (P - 1) ≤ d * TT (gG L) (P - k) := by
    have e : TT (gG L) (P - 1) = 10 ^ (k - 1) * TT (gG L) (P - k) := by rw [← TT_add (by omega)]; congr 1; omega
    rw [e]
    exact Int.mul_le_mul_of_nonneg_right d0 (Int.le_of_lt (TT_pos hG _))
  have hi : d' * TT (gG L) (P' - k') < TT (gG L) P' := by
    have e : TT (gG L) P' = 10 ^ k' * TT (gG L) (P' - k') := by rw [← TT_add (by omega)]; congr 1; omega
    rw [e]
    exact Int.mul_lt_mul_of_pos_right d1' (TT_pos hG _)
  have le := TT_lt hG (show TT (gG L) (P - 1) < TT (gG L) P' by omega)
  rcases Int.lt_or_le P P' with c | c
  · exact Or.inl c
  · have e : P = P' := by omega
    subst e
    refine Or.inr ⟨rfl, ?_⟩
    rw [str_list, str_list]
    refine less_digits _ _ (dl_byte k d) (dl_byte k' d') ?_
    rw [dl_len, dl_len, bv_dl k d (by have := ten_pos (k - 1); omega) d1, bv_dl k' d' (by have := ten_pos (k' - 1); omega) d1']
    -- both as so many of the finer step
    have fine : ∀ {a b : Nat} {x : Int}, -500 ≤ P - a - b → x * TT (gG L) (P - a) = x * 10 ^ b * TT (gG L) (P - a - b) := by
      intro a b x hh
      have e : TT (gG L) (P - a) = 10 ^ b * TT (gG L) (P - a - b) := by rw [← TT_add hh]; congr 1; omega
      rw [e, Int.mul_assoc]
    rw [fine (a := k) (b := k') (by omega), fine (a := k') (b := k) (by omega), show P - (k' : Int) - k = P - k - k' by omega] at lt
    exact Int.lt_of_mul_lt_mul_right lt (Int.le_of_lt (TT_pos hG _))

end Go.Proofs.YtlhjbmdkfdabmabDoor
