/- decimal.Exact, for a seat without Read and Cmp (mk_dexx.py) -/
import Derived.Test.YtigehipclkoecaaDoorDDig5
import Derived.Test.YtigehipclkoecaaDoorIScaled0
import Derived.Test.YtigehipclkoecaaDoorDNum
import Derived.Test.YtigehipclkoecaaDoorCmp
import Derived.Test.YtigehipclkoecaaDoorIeeeP
import Derived.Laws.Cover1
namespace Go.Proofs.YtigehipclkoecaaDoor
open Go.RowKit
set_option linter.unusedVariables false

theorem dg_pos_last {xs : List Int} (h : Dg xs) (hl : 0 < xs.length) (h1 : Nt.lb xs (xs.length - 1) ≠ 48) : 0 < dg xs := by
  rcases List.eq_nil_or_concat xs with e | ⟨l, b, e⟩
  · subst e; simp at hl
  · rw [List.concat_eq_append] at e
    subst e
    have hb : Nt.lb (l ++ [b]) ((l ++ [b]).length - 1) = b := by simp [Nt.lb]
    rw [hb] at h1
    have := h b (by simp)
    have := dg_range (xs := l) (fun x hx => h x (by simp [hx]))
    rw [dg_snoc]; omega
theorem lb_drop {xs : List Int} (k i : Nat) : Nt.lb (xs.drop k) i = Nt.lb xs (k + i) := by simp [Nt.lb, List.getElem?_drop]
theorem lb_take {xs : List Int} {k i : Nat} (h : i < k) : Nt.lb (xs.take k) i = Nt.lb xs i := by simp [Nt.lb, h]
theorem pow5_pos (n : Nat) : (0 : Int) < 5 ^ n := Int.pow_pos (by omega)
theorem isLen_le {x : Int} {k m : Nat} (h : IsLen x k) (hx : x < p2 m) : k ≤ m := by
  rcases Nat.lt_or_ge m k with g | g
  · have a := h.2 (by omega)
    have b := p2_mono (show m ≤ k - 1 by omega)
    omega
  · exact g

set_option maxHeartbeats 1000000 in
theorem layoutOf_o {w : World} (L : Lays w) : Calls Tryd.prog 37 #[] w fun e w' => e = .returned (.agg #[.int .i64 16, .int .i64 10, .int .i64 (-24)]) ∧ Below w.heap.size w w' := by
  have C := (L.below (bel_new w (.cells #[.int .i64 0, .int .i64 0, .int .i64 0] 56))).h
  have c0 := C.c0
  have c1 := C.c1
  have c2 := C.c2
  have lt := L.h.lt
  clear C L
  go_enter Tryd.func37, Tryd.ntmps37
  go_wp2
  go_returns
  exact ⟨rfl, bel_new _ _⟩

def d8 (xs : List Int) : List UInt8 := xs.map fun n => UInt8.ofNat n.toNat
theorem d8_lt {a b : Int} (ha : 48 ≤ a ∧ a ≤ 57) (hb : 48 ≤ b ∧ b ≤ 57) : (UInt8.ofNat a.toNat < UInt8.ofNat b.toNat ↔ a < b) ∧ (UInt8.ofNat a.toNat = UInt8.ofNat b.toNat ↔ a = b) := by
  have e : ∀ {x : Int}, 48 ≤ x ∧ x ≤ 57 → (UInt8.ofNat x.toNat).toNat = x.toNat := fun {x} h => by
    rw [UInt8.toNat_ofNat']; omega
  constructor
  · rw [UInt8.lt_iff_toNat_lt, e ha, e hb]; omega
  · rw [← UInt8.toNat_inj, e ha, e hb]; omega
theorem less_dg : ∀ (xs ys : List Int), Dg xs → Dg ys → dg xs * tn ys.length < dg ys * tn xs.length →
    Op.bytesLess (d8 xs) (d8 ys) = true ∧ Op.bytesLess (d8 ys) (d8 xs) = false
  | xs, [], hx, hy, h => by
    exfalso
    have := (dg_range hx).1
    simp [dg, tn_zero] at h
    omega
  | [], b :: y, hx, hy, h => by simp [d8, Op.bytesLess]
  | a :: x, b :: y, hx, hy, h => by
    have ha := hx a List.mem_cons_self
    have hb := hy b List.mem_cons_self
    have hx' : Dg x := fun z hz => hx z (List.mem_cons_of_mem a hz)
    have hy' : Dg y := fun z hz => hy z (List.mem_cons_of_mem b hz)
    obtain ⟨l1, l2⟩ := d8_lt ha hb
    obtain ⟨m1, m2⟩ := d8_lt hb ha
    obtain ⟨rx0, rx1⟩ := dg_range hx'
    obtain ⟨ry0, ry1⟩ := dg_range hy'
    have key : a ≤ b ∧ (a = b → dg x * tn y.length < dg y * tn x.length) := by
      rw [dg, dg, List.length_cons, List.length_cons, tn_succ, tn_succ, Int.mul_comm 10, Int.mul_comm 10] at h
      have px := tn_pos x.length
      have py := tn_pos y.length
      generalize tn x.length = P at *
      generalize tn y.length = R at *
      generalize dg x = X at *
      generalize dg y = Y at *
      have e1 : ((a - 48) * P + X) * (R * 10) = ((a - 48) * (P * R) + X * R) * 10 := by rw [← Int.mul_assoc, Int.add_mul, Int.mul_assoc (a - 48)]
      have e2 : ((b - 48) * R + Y) * (P * 10) = ((b - 48) * (P * R) + Y * P) * 10 := by rw [← Int.mul_assoc, Int.add_mul, Int.mul_assoc (b - 48), Int.mul_comm R P]
      rw [e1, e2] at h
      have pp : 0 < P * R := Int.mul_pos px py
      have x0 : 0 ≤ X * R := Int.mul_nonneg rx0 (by omega)
      have y1 : Y * P < P * R := by rw [Int.mul_comm P R]; exact Int.mul_lt_mul_of_pos_right ry1 px
      constructor
      · rcases Int.lt_or_le b a with c | c
        · exfalso
          have : (b - 48 + 1) * (P * R) ≤ (a - 48) * (P * R) := Int.mul_le_mul_of_nonneg_right (by omega) (by omega)
          rw [Int.add_mul, Int.one_mul] at this
          omega
        · exact c
      · intro e
        subst e
        omega
    simp only [d8, List.map_cons, Op.bytesLess]
    by_cases c : a = b
    · obtain ⟨i1, i2⟩ := less_dg x y hx' hy' (key.2 c)
      subst c
      constructor
      · rw [show Op.bytesLess (x.map fun n => UInt8.ofNat n.toNat) (y.map fun n => UInt8.ofNat n.toNat) = true from i1]; simp
      · rw [show Op.bytesLess (y.map fun n => UInt8.ofNat n.toNat) (x.map fun n => UInt8.ofNat n.toNat) = false from i2]; simp
    · have lt : a < b := by have := key.1; omega
      constructor
      · simp [l1.2 lt]
      · have n1 : ¬ UInt8.ofNat b.toNat < UInt8.ofNat a.toNat := fun k => by have := m1.1 k; omega
        have n2 : ¬ UInt8.ofNat b.toNat = UInt8.ofNat a.toNat := fun k => by have := m2.1 k; omega
        simp [n1, n2]
theorem less_same : ∀ xs : List UInt8, Op.bytesLess xs xs = false
  | [] => by simp [Op.bytesLess]
  | a :: x => by simp [Op.bytesLess, less_same x]
theorem txt_list (xs : List Int) : (strOfNums xs).toList = d8 xs := by rw [ByteArray.toList_eq, strOfNums_data]; rfl
/-- no nought at the end -/
def Nt0 (xs : List Int) : Prop := 0 < xs.length → Nt.lb xs (xs.length - 1) ≠ 48
theorem Nt0.tail {a : Int} {x : List Int} (h : Nt0 (a :: x)) : Nt0 x := fun hx => by
  have k := h (by simp)
  rw [show (a :: x).length - 1 = x.length - 1 + 1 by simp; omega] at k
  simpa [Nt.lb] using k
theorem frac_eq : ∀ (xs ys : List Int), Dg xs → Dg ys → Nt0 xs → Nt0 ys → dg xs * tn ys.length = dg ys * tn xs.length → xs = ys
  | [], [], _, _, _, _, _ => rfl
  | a :: x, [], hx, hy, nx, ny, h => by
    exfalso
    have := dg_pos_last hx (by simp) (nx (by simp))
    simp [dg, tn_zero] at h
    rw [dg] at this
    omega
  | [], b :: y, hx, hy, nx, ny, h => by
    exfalso
    have := dg_pos_last hy (by simp) (ny (by simp))
    simp [dg, tn_zero] at h
    rw [dg] at this
    omega
  | a :: x, b :: y, hx, hy, nx, ny, h => by
    have ha := hx a List.mem_cons_self
    have hb := hy b List.mem_cons_self
    have hx' : Dg x := fun z hz => hx z (List.mem_cons_of_mem a hz)
    have hy' : Dg y := fun z hz => hy z (List.mem_cons_of_mem b hz)
    obtain ⟨rx0, rx1⟩ := dg_range hx'
    obtain ⟨ry0, ry1⟩ := dg_range hy'
    have key : a = b ∧ dg x * tn y.length = dg y * tn x.length := by
      rw [dg, dg, List.length_cons, List.length_cons, tn_succ, tn_succ, Int.mul_comm 10, Int.mul_comm 10] at h
      have px := tn_pos x.length
      have py := tn_pos y.length
      generalize tn x.length = P at *
      generalize tn y.length = R at *
      generalize dg x = X at *
      generalize dg y = Y at *
      have e1 : ((a - 48) * P + X) * (R * 10) = ((a - 48) * (P * R) + X * R) * 10 := by rw [← Int.mul_assoc, Int.add_mul, Int.mul_assoc (a - 48)]
      have e2 : ((b - 48) * R + Y) * (P * 10) = ((b - 48) * (P * R) + Y * P) * 10 := by rw [← Int.mul_assoc, Int.add_mul, Int.mul_assoc (b - 48), Int.mul_comm R P]
      rw [e1, e2] at h
      have pp : 0 < P * R := Int.mul_pos px py
      have x0 : 0 ≤ X * R := Int.mul_nonneg rx0 (by omega)
      have y0 : 0 ≤ Y * P := Int.mul_nonneg ry0 (by omega)
      have x1 : X * R < P * R := Int.mul_lt_mul_of_pos_right rx1 py
      have y1 : Y * P < P * R := by rw [Int.mul_comm P R]; exact Int.mul_lt_mul_of_pos_right ry1 px
      have ab : a = b := by
        rcases Int.lt_trichotomy a b with c | c | c
        · exfalso
          have : (a - 48 + 1) * (P * R) ≤ (b - 48) * (P * R) := Int.mul_le_mul_of_nonneg_right (by omega) (by omega)
          rw [Int.add_mul, Int.one_mul] at this
          omega
        · exact c
        · exfalso
          have : (b - 48 + 1) * (P * R) ≤ (a - 48) * (P * R) := Int.mul_le_mul_of_nonneg_right (by omega) (by omega)
          rw [Int.add_mul, Int.one_mul] at this
          omega
      subst ab
      exact ⟨rfl, by omega⟩
    obtain ⟨rfl, k⟩ := key
    rw [frac_eq x y hx' hy' nx.tail ny.tail k]

def sgv (ng : Bool) (x : Int) : Int := if ng then -x else x
/-- -1, 0 or 1 of two decimal numbers -/
def dcmp (X q Y q' : Int) : Int := sgn (X * tn (q.toNat + (-q').toNat)) (Y * tn (q'.toNat + (-q).toNat))
theorem sgn_of {x y x' y' : Int} (h : x ≤ y ↔ x' ≤ y') (k : y ≤ x ↔ y' ≤ x') : sgn x y = sgn x' y' := by
  unfold sgn
  have a : x < y ↔ x' < y' := by omega
  have b : y < x ↔ y' < x' := by omega
  simp only [a, b]
theorem dcmp_base {X q Y q' b : Int} (h : b ≤ q) (h' : b ≤ q') : dcmp X q Y q' = sgn (X * tn (q - b).toNat) (Y * tn (q' - b).toNat) :=
  sgn_of (tn_shift (by omega)) (tn_shift (by omega))
/-- one decimal number, told twice -/
def Same10 (X q X' q' : Int) : Prop := X * tn (q.toNat + (-q').toNat) = X' * tn (q'.toNat + (-q).toNat)
theorem Same10.refl (X q : Int) : Same10 X q X q := rfl
theorem Same10.at {X q X' q' b : Int} (h : Same10 X q X' q') (h1 : b ≤ q) (h2 : b ≤ q') : X * tn (q - b).toNat = X' * tn (q' - b).toNat := (tn_shift_eq (by omega)).1 h
theorem same10_of {X q X' q' b : Int} (h1 : b ≤ q) (h2 : b ≤ q') (h : X * tn (q - b).toNat = X' * tn (q' - b).toNat) : Same10 X q X' q' := (tn_shift_eq (by omega)).2 h
theorem dcmp_same {X q X' q' Y p Y' p' : Int} (h : Same10 X q X' q') (k : Same10 Y p Y' p') : dcmp X q Y p = dcmp X' q' Y' p' := by
  obtain ⟨b, b1, b2, b3, b4⟩ : ∃ b : Int, b ≤ q ∧ b ≤ q' ∧ b ≤ p ∧ b ≤ p' := ⟨min (min q q') (min p p'), by omega, by omega, by omega, by omega⟩
  rw [dcmp_base b1 b3, dcmp_base b2 b4, h.at b1 b2, k.at b3 b4]
theorem sgv_mul (ng : Bool) (x c : Int) : sgv ng x * c = sgv ng (x * c) := by
  unfold sgv; split
  · rw [Int.neg_mul]
  · rfl
/-- digits without noughts at both ends -/
def Nm (ds : List Int) : Prop := Dg ds ∧ (0 < ds.length → Nt.lb ds 0 ≠ 48) ∧ Nt0 ds
/-- digits with noughts at both ends say no more -/
theorem same_between {es : List Int} {N a b : Nat} {ng : Bool} {P : Int} (hN : es.length = N) (h2 : a < b) (h3 : b ≤ N) (h6 : ∀ j, j < a → Nt.lb es j = 48) (h7 : ∀ j, b ≤ j → j < N → Nt.lb es j = 48) :
    Same10 (sgv ng (dg es)) (P - N) (sgv ng (dg ((es.take b).drop a))) (P - a - (b - a : Nat)) := by
  have e := dg_between (es := es) (f := a) (e := b) (by omega) (by omega) h6 (fun j hj hk => h7 j hj (by omega))
  rw [hN] at e
  refine same10_of (b := P - N) (by omega) (by omega) ?_
  rw [show (P - N - (P - N)).toNat = 0 by omega, tn_zero, Int.mul_one, sgv_mul, show (P - (a : Int) - ((b - a : Nat) : Int) - (P - N)).toNat = N - b by omega, ← e]
theorem nm_between {es : List Int} {N a b : Nat} (hd : Dg es) (hN : es.length = N) (h2 : a < b) (h3 : b ≤ N) (h4 : Nt.lb es a ≠ 48) (h5 : Nt.lb es (b - 1) ≠ 48) : Nm ((es.take b).drop a) ∧ ((es.take b).drop a).length = b - a := by
  have hl : ((es.take b).drop a).length = b - a := by rw [List.length_drop, List.length_take, hN]; omega
  refine ⟨⟨(hd.take b).drop a, fun _ => by rw [lb_drop, Nat.add_zero, lb_take (by omega)]; exact h4, fun _ => ?_⟩, hl⟩
  rw [hl, lb_drop, lb_take (by omega), show a + (b - a - 1) = b - 1 by omega]
  exact h5
/-- the place of the first digit, then the digits -/
theorem dcmp_places {ds es : List Int} {p q : Int} (hd : Nm ds) (he : Nm es) (d0 : 0 < ds.length) (e0 : 0 < es.length) :
    dcmp (dg ds) (p - ds.length) (dg es) (q - es.length) = if p < q then -1 else if q < p then 1 else sgn (dg ds * tn es.length) (dg es * tn ds.length) := by
  obtain ⟨b, b1, b2⟩ : ∃ b : Int, b ≤ p - ds.length ∧ b ≤ q - es.length := ⟨min (p - ds.length) (q - es.length), by omega, by omega⟩
  rw [dcmp_base b1 b2]
  have ld := dg_lead' hd.1 d0 (hd.2.1 d0)
  have le := dg_lead' he.1 e0 (he.2.1 e0)
  have rd := (dg_range hd.1).2
  have re := (dg_range he.1).2
  have low : ∀ {X : Int} {k : Nat} {p : Int}, 0 < k → tn (k - 1) ≤ X → X < tn k → b ≤ p - k → tn (p - 1 - b).toNat ≤ X * tn (p - k - b).toNat ∧ X * tn (p - k - b).toNat < tn (p - b).toNat := by
    intro X k p k0 h1 h2 hb
    have T := tn_pos (p - k - b).toNat
    have a := Int.mul_le_mul_of_nonneg_right h1 (Int.le_of_lt T)
    have c := Int.mul_lt_mul_of_pos_right h2 T
    rw [← tn_add] at a c
    rw [show k - 1 + (p - k - b).toNat = (p - 1 - b).toNat by omega] at a
    rw [show k + (p - k - b).toNat = (p - b).toNat by omega] at c
    exact ⟨a, c⟩
  obtain ⟨u1, u2⟩ := low d0 ld rd b1
  obtain ⟨v1, v2⟩ := low e0 le re b2
  by_cases c : p < q
  · rw [if_pos c]
    have := tn_mono (show (p - b).toNat ≤ (q - 1 - b).toNat by omega)
    exact sgn_lt (by omega)
  · rw [if_neg c]
    by_cases c2 : q < p
    · rw [if_pos c2]
      have := tn_mono (show (q - b).toNat ≤ (p - 1 - b).toNat by omega)
      exact sgn_gt (by omega)
    · rw [if_neg c2]
      have e : p = q := by omega
      subst e
      exact sgn_of (tn_shift (by omega)) (tn_shift (by omega))
theorem dcmp_neg (X q Y q' : Int) : dcmp (-X) q (-Y) q' = - dcmp X q Y q' := by
  unfold dcmp sgn
  rw [Int.neg_mul, Int.neg_mul]
  generalize X * tn (q.toNat + (-q').toNat) = x
  generalize Y * tn (q'.toNat + (-q).toNat) = y
  by_cases c : x < y
  · rw [if_neg (by omega), if_pos (by omega), if_pos c]; rfl
  · by_cases d : y < x
    · rw [if_pos (by omega), if_neg c, if_pos d]
    · rw [if_neg (by omega), if_neg (by omega), if_neg c, if_neg d]; rfl
/-- of unlike signs -/
theorem dcmp_signs {X q Y q' : Int} : (X < 0 → 0 ≤ Y → dcmp X q Y q' = -1) ∧ (X ≤ 0 → 0 < Y → dcmp X q Y q' = -1) ∧ (0 ≤ X → Y < 0 → dcmp X q Y q' = 1) ∧ (0 < X → Y ≤ 0 → dcmp X q Y q' = 1) ∧ (X = 0 → Y = 0 → dcmp X q Y q' = 0) := by
  unfold dcmp
  have T := tn_pos (q.toNat + (-q').toNat)
  have U := tn_pos (q'.toNat + (-q).toNat)
  generalize tn (q.toNat + (-q').toNat) = t at *
  generalize tn (q'.toNat + (-q).toNat) = u at *
  have neg : ∀ {x c : Int}, x < 0 → 0 < c → x * c < 0 := fun hx hc => Int.mul_neg_of_neg_of_pos hx hc
  have pos : ∀ {x c : Int}, 0 < x → 0 < c → 0 < x * c := fun hx hc => Int.mul_pos hx hc
  have nn : ∀ {x c : Int}, 0 ≤ x → 0 < c → 0 ≤ x * c := fun hx hc => Int.mul_nonneg hx (by omega)
  have np : ∀ {x c : Int}, x ≤ 0 → 0 < c → x * c ≤ 0 := fun hx hc => Int.mul_nonpos_of_nonpos_of_nonneg hx (by omega)
  refine ⟨fun h k => sgn_lt ?_, fun h k => sgn_lt ?_, fun h k => sgn_gt ?_, fun h k => sgn_gt ?_, fun h k => sgn_eq ?_⟩
  · have := neg h T; have := nn k U; omega
  · have := np h T; have := pos k U; omega
  · have := nn h T; have := neg k U; omega
  · have := pos h T; have := np k U; omega
  · rw [h, k, Int.zero_mul, Int.zero_mul]

/-- the width that a number tells -/
def Wd (v F L I S n : Int) : Prop := 0 ≤ v ∧ v < 256 ∧
  ((v % 4 = 0 ∧ F = 1024 ∧ L = -24 ∧ I = 31744 ∧ S = 32768 ∧ n = 16) ∨ (v % 4 = 1 ∧ F = 8388608 ∧ L = -149 ∧ I = 2139095040 ∧ S = 2147483648 ∧ n = 32) ∨
   (v % 4 = 2 ∧ F = 4503599627370496 ∧ L = -1074 ∧ I = 9218868437227405312 ∧ S = 9223372036854775808 ∧ n = 64) ∨ (v % 4 = 3 ∧ F = 1024 ∧ L = -24 ∧ I = 31744 ∧ S = 32768 ∧ n = 16))
theorem wd_of (v : Int) (h0 : 0 ≤ v) (h1 : v < 256) : ∃ F L I S n, Wd v F L I S n := by
  rcases (by omega : v % 4 = 0 ∨ v % 4 = 1 ∨ v % 4 = 2 ∨ v % 4 = 3) with h | h | h | h
  · exact ⟨_, _, _, _, _, h0, h1, .inl ⟨h, rfl, rfl, rfl, rfl, rfl⟩⟩
  · exact ⟨_, _, _, _, _, h0, h1, .inr (.inl ⟨h, rfl, rfl, rfl, rfl, rfl⟩)⟩
  · exact ⟨_, _, _, _, _, h0, h1, .inr (.inr (.inl ⟨h, rfl, rfl, rfl, rfl, rfl⟩))⟩
  · exact ⟨_, _, _, _, _, h0, h1, .inr (.inr (.inr ⟨h, rfl, rfl, rfl, rfl, rfl⟩))⟩
theorem Wd.wide {v F L I S n : Int} (h : Wd v F L I S n) : Wide F L I := by
  rcases h.2.2 with ⟨_, rfl, rfl, rfl, _⟩ | ⟨_, rfl, rfl, rfl, _⟩ | ⟨_, rfl, rfl, rfl, _⟩ | ⟨_, rfl, rfl, rfl, _⟩
  · exact wide_h
  · exact wide_s
  · exact wide_d
  · exact wide_h
theorem Wd.ends {v F L I S n : Int} (h : Wd v F L I S n) : 0 < I ∧ I < S ∧ S ≤ 9223372036854775808 ∧ 16 ≤ n ∧ n ≤ 64 ∧ S = p2 (n - 1).toNat := by
  rcases h.2.2 with ⟨_, rfl, rfl, rfl, rfl, rfl⟩ | ⟨_, rfl, rfl, rfl, rfl, rfl⟩ | ⟨_, rfl, rfl, rfl, rfl, rfl⟩ | ⟨_, rfl, rfl, rfl, rfl, rfl⟩ <;> decide

/-- what the function that takes digits off keeps: V is left -/
def Low (w : World) (gc ga gg : Nat) (V : Int) : Prop := ∃ (A g : Int) (c : Nat) (va : Value),
  w.cell? ⟨gc, 0, none⟩ = some (.int .i64 c) ∧ w.cell? ⟨ga, 0, none⟩ = some va ∧ w.cell? ⟨gg, 0, none⟩ = some (.int .u32 g) ∧ Arg w va A 130 ∧ (∀ b off l cap, va = .slice (some ⟨b, off, none⟩) l cap → 0 < l → b ≠ gc ∧ b ≠ ga ∧ b ≠ gg) ∧
  c ≤ 9 ∧ 0 ≤ g ∧ g < tn c ∧ V = A * tn c + g ∧ w.frozen? ⟨gc, 0, none⟩ = false ∧ w.frozen? ⟨ga, 0, none⟩ = false ∧ w.frozen? ⟨gg, 0, none⟩ = false ∧ gc < w.heap.size ∧ ga < w.heap.size ∧ gg < w.heap.size
theorem Arg.setCell {w : World} {v : Value} {n : Int} {k : Nat} {p : Addr} {u : Value} (h : Arg w v n k) (hne : ∀ b off l cap, v = .slice (some ⟨b, off, none⟩) l cap → 0 < l → b ≠ p.block) : Arg (w.setCell p u) v n k := by
  obtain ⟨zs, ⟨ao, cap, rfl, h1, h2, h3⟩, h4, h5, h6⟩ := h
  refine ⟨zs, ⟨ao, cap, rfl, h1, h2, fun hp => ?_⟩, h4, h5, h6⟩
  obtain ⟨b, off, rfl, hb, hc⟩ := h3 hp
  have hn := hne b off _ _ rfl hp
  refine ⟨b, off, rfl, by simpa [World.setCell] using hb, fun i hi => ?_⟩
  rw [World.cell?_setCell_other _ _ _ _ (by intro e; exact hn (congrArg Addr.block e).symm)]
  exact hc i hi
theorem setc_other {w : World} {a b : Nat} {u : Value} (h : a ≠ b) : (w.setCell ⟨a, 0, none⟩ u).cell? ⟨b, 0, none⟩ = w.cell? ⟨b, 0, none⟩ := World.cell?_setCell_other _ _ _ _ (by intro e; injection e with e _ _; exact h e)
theorem tn_9 : tn 9 = 1000000000 := by decide
theorem tn_8 : tn 8 = 100000000 := by decide
theorem low_math0 {A g V : Int} (h : V = A * tn 0 + g) (h0 : 0 ≤ g) (h1 : g < tn 0) (hA : 0 ≤ A) : V = A ∧ V % 10 = A % 1000000000 % 10 ∧ V / 10 = A / 1000000000 * tn 8 + A % 1000000000 / 10 := by
  rw [tn_zero] at h h1
  have e : V = A := by omega
  rw [e, tn_8]
  omega
theorem low_math {A g V : Int} {c : Nat} (h : V = A * tn (c + 1) + g) (h0 : 0 ≤ g) (h1 : g < tn (c + 1)) : V % 10 = g % 10 ∧ V / 10 = A * tn c + g / 10 ∧ g / 10 < tn c := by
  rw [tn_succ] at h h1
  have e : A * (10 * tn c) = 10 * (A * tn c) := by rw [Int.mul_left_comm]
  rw [e] at h
  omega

set_option maxRecDepth 20000 in
set_option maxHeartbeats 4000000 in
theorem low_next {w : World} {gc ga gg B : Nat} {V : Int} (h : Low w gc ga gg V) (d1 : gc ≠ ga) (d2 : gc ≠ gg) (d3 : ga ≠ gg) (b1 : B ≤ gc) (b2 : B ≤ ga) (b3 : B ≤ gg) :
    Calls Tryd.prog 70 #[.pointer (some ⟨gc, 0, none⟩), .pointer (some ⟨ga, 0, none⟩), .pointer (some ⟨gg, 0, none⟩)] w fun e w' => e = .returned (.int .u8 (48 + V % 10)) ∧ Low w' gc ga gg (V / 10) ∧ Below B w w' := by
  obtain ⟨A, g, c, va, h1, h2, h3, ha, hne, hc9, g0, g1, hV, f1, f2, f3, s1, s2, s3⟩ := h
  have t1 : ¬ ga = gc := fun e => d1 e.symm
  have t2 : ¬ gg = gc := fun e => d2 e.symm
  have t3 : ¬ gg = ga := fun e => d3 e.symm
  have HA := hide ha
  have HN := hide hne
  have hA := ha.nonneg
  cases c with
  | zero =>
    obtain ⟨e1, e2, e3⟩ := low_math0 hV g0 g1 hA
    have hsm := small_yes (d := 1000000000) ha (by omega) (by omega) (by omega)
    have HE := hide (And.intro e2 e3)
    obtain ⟨zs0, ⟨ao, cap, rfl, _, _, _⟩, _⟩ := ha
    clear hV g0 g1 e1 e2 e3 hne
    go_enter Tryd.func70, Tryd.ntmps70
    go_wp2_with fail
    refine hsm.mono ?_
    clear hsm
    rintro e w1 ⟨v, rfl, hn, hb⟩
    have HV := hide hn
    have hne2 := hide (show ∀ b off l cap, v = .slice (some ⟨b, off, none⟩) l cap → 0 < l → w.heap.size ≤ b from fun b off l cap e hl => by
      obtain ⟨zs, ⟨vo, e1, _, e3⟩, _⟩ := hn
      rw [e] at e1
      injection e1 with e1 e4 _
      obtain ⟨g, rest, e5, e6, _⟩ := e3 (by omega)
      rw [← e1] at e5
      injection e5 with e5
      injection e5 with e5 _ _
      omega)
    obtain ⟨zs, ⟨vo, rfl, _, _⟩, _, _, _⟩ := hn
    have k1 := (hb.cell (p := ⟨gc, 0, none⟩) s1).trans h1
    have k2 := (hb.cell (p := ⟨ga, 0, none⟩) s2).trans h2
    have k3 := (hb.cell (p := ⟨gg, 0, none⟩) s3).trans h3
    have l1 := (hb.frozen (p := ⟨gc, 0, none⟩) s1).trans f1
    have l2 := (hb.frozen (p := ⟨ga, 0, none⟩) s2).trans f2
    have l3 := (hb.frozen (p := ⟨gg, 0, none⟩) s3).trans f3
    have m0 := Int.emod_nonneg A (b := 1000000000) (by omega)
    have m1 := Int.emod_lt_of_pos A (b := 1000000000) (by omega)
    go_wp2
    go_ret
    have z1 := hb.size
    refine ⟨ret_int (by rw [HE.out.1]; omega), ⟨A / 1000000000, A % 1000000000 / 10, 8, _, World.cell?_setCell_same _ _ _ (by rw [setc_other t2]; exact World.cell?_setCell_same _ _ _ (by rw [setc_other t2, setc_other t1]; exact k1)), by rw [setc_other d1, setc_other t3, setc_other d1, setc_other t3]; exact World.cell?_setCell_same _ _ _ k2, by rw [setc_other d2]; exact World.cell?_setCell_same _ _ _ (by rw [setc_other d2]; exact World.cell?_setCell_same _ _ _ (by rw [setc_other d3]; exact k3)), ?_, ?_, by omega, by omega, by rw [tn_8]; omega, HE.out.2, by go_simp, by go_simp, by go_simp, by simp [World.setCell]; omega, by simp [World.setCell]; omega, by simp [World.setCell]; omega⟩, ?_⟩
    · refine Arg.setCell (Arg.setCell (Arg.setCell (Arg.setCell (Arg.setCell HV.out.arg ?_) ?_) ?_) ?_) ?_ <;> (intro b off l cap e hl; have k := hne2.out b off l cap e hl; simp only; omega)
    · intro b off l cap e hl
      have k := hne2.out b off l cap e hl
      omega
    · exact (((((hb.mono (by omega)).setCell (p := ⟨ga, 0, none⟩) b2 _).setCell (p := ⟨gg, 0, none⟩) b3 _).setCell (p := ⟨gc, 0, none⟩) b1 _).setCell (p := ⟨gg, 0, none⟩) b3 _).setCell (p := ⟨gc, 0, none⟩) b1 _
  | succ c =>
    obtain ⟨e1, e2, e3⟩ := low_math hV g0 g1
    have HE := hide (And.intro e1 (And.intro e2 e3))
    have c1 : ((c : Int) + 1 == 0) = false := by simp; omega
    have g2 : g < 4294967296 := by have := tn_mono hc9; rw [tn_9] at this; omega
    clear hV g1 e1 e2 e3 hne
    go_enter Tryd.func70, Tryd.ntmps70
    go_wp2
    go_ret
    refine ⟨ret_int (by rw [HE.out.1]), ⟨A, g / 10, c, va, by go_simp, by go_simp, by go_simp, ?_, HN.out, by omega, by omega, HE.out.2.2, HE.out.2.1, by go_simp, by go_simp, by go_simp, by simp [World.setCell]; omega, by simp [World.setCell]; omega, by simp [World.setCell]; omega⟩, ?_⟩
    · refine Arg.setCell (Arg.setCell HA.out ?_) ?_ <;> (intro b off l cap e hl; have k := HN.out b off l cap e hl; simp only; omega)
    · exact ((Below.refl _ _).setCell (p := ⟨gg, 0, none⟩) b3 _).setCell (p := ⟨gc, 0, none⟩) b1 _

theorem arg_not_row {w : World} {v : Value} {n : Int} {k gt : Nat} {ys : List Int} (h : Arg w v n k) (hr : Row .u8 5 w gt ys) : ∀ b off l cap, v = .slice (some ⟨b, off, none⟩) l cap → 0 < l → b ≠ gt := by
  intro b off l cap e hl hb
  obtain ⟨zs, ⟨ao, c, e1, _, _, hc⟩, _⟩ := h
  rw [e] at e1
  injection e1 with e1 e2 _
  obtain ⟨b', o', e3, _, hcell⟩ := hc (by omega)
  rw [e3] at e1
  injection e1 with e1
  injection e1 with e1 e4 _
  have c0 := hcell 0 (by omega)
  rw [← e1, ← e4, hb, cell_of_row w gt _ _ _ _ hr] at c0
  simp at c0
theorem Low.store {w : World} {gc ga gg gt j : Nat} {V : Int} {ys : List Int} {u : Value} (h : Low w gc ga gg V) (hr : Row .u8 5 w gt ys) (n1 : gt ≠ gc) (n2 : gt ≠ ga) (n3 : gt ≠ gg) : Low (w.setCell ⟨gt, j, none⟩ u) gc ga gg V := by
  obtain ⟨A, g, c, va, h1, h2, h3, ha, hne, hc9, g0, g1, hV, f1, f2, f3, s1, s2, s3⟩ := h
  have ot : ∀ {b : Nat}, gt ≠ b → (w.setCell ⟨gt, j, none⟩ u).cell? ⟨b, 0, none⟩ = w.cell? ⟨b, 0, none⟩ := fun {b} hb => World.cell?_setCell_other _ _ _ _ (by intro e; injection e with e _ _; exact hb e)
  exact ⟨A, g, c, va, by rw [ot n1]; exact h1, by rw [ot n2]; exact h2, by rw [ot n3]; exact h3, ha.setCell (fun b off l cap e hl => arg_not_row ha hr b off l cap e hl), hne, hc9, g0, g1, hV, by simpa using f1, by simpa using f2, by simpa using f3, by simpa [World.setCell] using s1, by simpa [World.setCell] using s2, by simpa [World.setCell] using s3⟩
/-- n digits of V, from off on -/
def Put (zs : List Int) (off n : Nat) (V : Int) (ys : List Int) : Prop := ys.length = zs.length ∧ (∀ i, i < n → Nt.lb ys (off + i) = 48 + V / tn (n - 1 - i) % 10) ∧ (∀ i, i < off ∨ off + n ≤ i → Nt.lb ys i = Nt.lb zs i)
theorem Row.at {w : World} {g : Nat} {zs : List Int} (h : Row .u8 5 w g zs) {i : Nat} (hi : i < zs.length) : w.cell? ⟨g, i, none⟩ = some (.int .u8 (Nt.lb zs i)) := h.cell hi
theorem div_tn (V : Int) (k : Nat) : V / tn k / 10 = V / tn (k + 1) := by rw [tn_succ, Int.mul_comm, Int.ediv_ediv_of_nonneg (Int.le_of_lt (tn_pos k))]

set_option maxRecDepth 20000 in
set_option maxHeartbeats 8000000 in
theorem tell_leaf {w : World} {gt off n cap : Nat} {zs : List Int} {va : Value} {V : Int} {po : Option Addr} {pc : Nat} (hr : Row .u8 5 w gt zs) (hn : off + n ≤ zs.length) (hm : zs.length ≤ 2000) (ha : Arg w va V 130) :
    Calls Tryd.prog 48 #[.slice (some ⟨gt, off, none⟩) n cap, va, .slice po 0 pc] w fun e w' => e = .returned (.tuple #[]) ∧ (∃ ys, Row .u8 5 w' gt ys ∧ Put zs off n V ys) ∧ Below gt w w' ∧ (∀ b, b < w.heap.size → b ≠ gt → w'.heap[b]? = w.heap[b]?) := by
  have HA := hide ha
  have hV := ha.nonneg
  obtain ⟨zs0, ⟨ao, ac, rfl, _, _, hcl⟩, _⟩ := ha
  have hgt := hr.lt
  go_enter Tryd.func48, Tryd.ntmps48
  go_wp2_with fail
  refine lowest_e5.mono ?_
  rintro e w1 ⟨rfl, h2, h3, h1, f2, f3, f1, hsz, hb⟩
  have HL : Low w1 (w.heap.size + 2) w.heap.size (w.heap.size + 1) V := ⟨V, 0, 0, _, h1, h2, h3, HA.out.below hb, fun b o l c e hl => by
    injection e with e1 e2 _
    obtain ⟨b', o', e3, e4, _⟩ := hcl (by omega)
    rw [e3] at e1
    injection e1 with e1
    injection e1 with e1 _ _
    omega, by omega, by omega, by decide, by rw [tn_zero]; omega, f1, f2, f3, by omega, by omega, by omega⟩
  have HH := hide HL
  have hr1 : Row .u8 5 w1 gt zs := hr.keeps hb
  have HB := hide hb
  clear h1 h2 h3 f1 f2 f3 HL hb
  go_wp2
  go_loopg [20] n (fun c iv wr => ∃ (i : Nat) (ys : List Int), i ≤ n ∧ c = n - i ∧ iv = .int .i64 i ∧ ys.length = zs.length ∧ (∀ j, j < i → Nt.lb ys (off + (n - 1 - j)) = 48 + V / tn j % 10) ∧ (∀ j, j < off + (n - i) ∨ off + n ≤ j → Nt.lb ys j = Nt.lb zs j) ∧ Row .u8 5 wr gt ys ∧ Low wr (w.heap.size + 2) w.heap.size (w.heap.size + 1) (V / tn i) ∧ Below gt w wr ∧ (∀ b, b < w.heap.size → b ≠ gt → wr.heap[b]? = w.heap[b]?))
  case atStart => exact ⟨0, zs, by omega, rfl, rfl, rfl, fun j hj => absurd hj (by omega), fun _ _ => rfl, hr1, by rw [tn_zero, Int.ediv_one]; exact HH.out, HB.out.mono (by omega), fun b hb _ => HB.out.block b hb⟩
  case round =>
    obtain ⟨i, ys, hi, hgi, rfl, hyl, hy1, hy2, hrow, hlow, hbr, hoth⟩ := hrel
    have HY := hide (And.intro hy1 (And.intro hy2 (And.intro hbr hoth)))
    clear hy1 hy2 hbr hoth hr1 HH HB hcl
    by_cases hin : i < n
    · have q4 : (i : Int) < (n : Int) := by omega
      have hnx := low_next (B := w.heap.size) hlow (by omega) (by omega) (by omega) (by omega) (by omega) (by omega)
      have hsw : w.heap.size ≤ wr.heap.size := HY.out.2.2.1.size
      go_wp2_with fail
      with_reducible refine hnx.mono ?_
      clear hnx
      rintro e w3 ⟨rfl, hlow3, b3⟩
      obtain ⟨P, hP⟩ : ∃ P : Nat, P = n - 1 - i := ⟨_, rfl⟩
      have qi : (n : Int) - 1 - (i : Int) = (P : Int) := by omega
      have hP1 : off + P < ys.length := by omega
      have hrow3 : Row .u8 5 w3 gt ys := hrow.below b3 hgt
      have hc3 := hrow3.cell (i := off + P) hP1
      have hf3 := hrow3.frozen (off + P)
      have q5 : (0 : Int) ≤ (P : Int) ∧ (P : Int) < (n : Int) := by omega
      obtain ⟨d, hdd⟩ : ∃ d, 48 + V / tn i % 10 = d := ⟨_, rfl⟩
      have hrow4 := hrow3.set (off + P) d
      have hlow4 := hlow3.store (j := off + P) (u := .int .u8 d) hrow3 (by omega) (by omega) (by omega)
      rw [div_tn] at hlow4
      have b4 : Below gt w (w3.setCell ⟨gt, off + P, none⟩ (.int .u8 d)) := (HY.out.2.2.1.trans (b3.mono (by omega))).setCell (p := ⟨gt, off + P, none⟩) (Nat.le_refl _) _
      have ho4 : ∀ b, b < w.heap.size → b ≠ gt → (w3.setCell ⟨gt, off + P, none⟩ (.int .u8 d)).heap[b]? = w.heap[b]? := fun b hb hn => by
        rw [Below.heap_setCell _ _ _ _ (by show b ≠ gt; exact hn), b3.block b (by omega)]
        exact HY.out.2.2.2 b hb hn
      rw [hdd]
      have HF := hide (And.intro hrow4 (And.intro hlow4 (And.intro b4 ho4)))
      have HP := hide (And.intro hP hdd)
      clear hrow4 hlow4 b4 ho4 hP hdd hlow hlow3 b3
      go_wp2
      go_roundg (n - (i + 1))
      case measure => omega
      case rel =>
        refine ⟨i + 1, ys.set (off + P) d, by omega, rfl, by simp, by rw [List.length_set]; exact hyl, fun j hj => ?_, fun j hj => ?_, HF.out.1, HF.out.2.1, HF.out.2.2.1, HF.out.2.2.2⟩
        · rcases Nat.lt_or_ge j i with k | k
          · rw [Nt.lb_set_ne (by have := HP.out.1; omega)]; exact HY.out.1 j k
          · rw [show j = i by omega, show off + (n - 1 - i) = off + P by rw [HP.out.1], Nt.lb_set_eq hP1]; exact HP.out.2.symm
        · rw [Nt.lb_set_ne (by have := HP.out.1; omega)]; exact HY.out.2.1 j (by omega)
    · have hie : i = n := by omega
      subst hie
      go_wp2
      refine bodyPost_ret (results_none rfl _ _ _) rfl ?_
      refine ⟨rfl, ⟨ys, hrow, hyl, fun j hj => ?_, fun j hj => HY.out.2.1 j (by omega)⟩, HY.out.2.2.1, HY.out.2.2.2⟩
      have k := HY.out.1 (i - 1 - j) (by omega)
      rw [show i - 1 - (i - 1 - j) = j by omega] at k
      exact k

theorem put_two {zs ys xs : List Int} {n at_ : Nat} {V : Int} (hV : 0 ≤ V) (hn : n = at_ + 576) (h1 : Put zs 0 at_ (V / tn 576) ys) (h2 : Put ys at_ 576 (V % tn 576) xs) (hl : zs.length = n) : Put zs 0 n V xs := by
  obtain ⟨a1, a2, a3⟩ := h1
  obtain ⟨b1, b2, b3⟩ := h2
  refine ⟨by omega, fun i hi => ?_, fun i hi => ?_⟩
  · rcases Nat.lt_or_ge i at_ with c | c
    · rw [b3 (0 + i) (by omega), a2 i c]
      congr 2
      rw [Int.ediv_ediv_of_nonneg (Int.le_of_lt (tn_pos _)), ← tn_add]
      congr 2
      omega
    · have k := b2 (i - at_) (by omega)
      rw [show at_ + (i - at_) = 0 + i by omega] at k
      rw [k]
      congr 1
      obtain ⟨j, hj⟩ : ∃ j, 576 = (n - 1 - i) + 1 + j := ⟨576 - (n - 1 - i) - 1, by omega⟩
      rw [show 576 - 1 - (i - at_) = n - 1 - i by omega]
      have T := tn_pos (n - 1 - i)
      have e : tn 576 = tn (n - 1 - i) * (10 * tn j) := by rw [hj, tn_add, tn_add]; rw [show tn 1 = 10 from rfl, Int.mul_assoc]
      have d := Int.mul_ediv_add_emod V (tn 576)
      have e2 : V = tn (n - 1 - i) * (10 * tn j * (V / tn 576)) + V % tn 576 := by rw [← Int.mul_assoc, ← e]; exact d.symm
      have e3 : V / tn (n - 1 - i) = 10 * tn j * (V / tn 576) + V % tn 576 / tn (n - 1 - i) := by
        have h : V / tn (n - 1 - i) = (tn (n - 1 - i) * (10 * tn j * (V / tn 576)) + V % tn 576) / tn (n - 1 - i) := congrArg (fun x => x / tn (n - 1 - i)) e2
        rw [Int.mul_add_ediv_left _ _ (by omega)] at h
        exact h
      rw [e3, Int.mul_assoc]
      omega
  · rw [b3 i (by omega), a3 i (by omega)]

set_option maxRecDepth 20000 in
set_option maxHeartbeats 8000000 in
theorem tell_few {w : World} {gt n : Nat} {zs : List Int} {va tv : Value} {V : Int} (hr : Row .u8 5 w gt zs) (hn : zs.length = n) (hm : n ≤ 1152) (ha : Arg w va V 120) (ht : Tens w n tv) (htb : ∀ g c, tv = .slice (some ⟨g, 0, none⟩) 1 c → g ≠ gt) :
    Calls Tryd.prog 48 #[.slice (some ⟨gt, 0, none⟩) n n, va, tv] w fun e w' => e = .returned (.tuple #[]) ∧ (∃ ys, Row .u8 5 w' gt ys ∧ Put zs 0 n V ys) ∧ Below gt w w' := by
  have hV := ha.nonneg
  have ha2 : Arg w va V 130 := by obtain ⟨z, z1, z2, z3, z4⟩ := ha; exact ⟨z, z1, z2, z3, by omega⟩
  rcases ht with ⟨h1, rfl⟩ | ⟨h1, g, pv, rfl, hg, hc, hp⟩
  · refine (tell_leaf (off := 0) hr (by omega) (by omega) ha2).mono ?_
    rintro e w' ⟨h2, h3, h4, _⟩
    exact ⟨h2, h3, h4⟩
  · obtain ⟨at_, hat⟩ : ∃ a : Nat, (n : Int) - 576 = (a : Int) := ⟨n - 576, by omega⟩
    have hat0 : ¬ (at_ : Int) < 0 := by omega
    have ha1 : at_ ≤ n := by omega
    have hgt := hr.lt
    have HP := hide hp
    have HA := hide ha
    have HR := hide hr
    have HG := hide (htb g 1 rfl)
    clear hp ha ha2 hr htb
    go_enter Tryd.func48, Tryd.ntmps48
    go_wp2_with fail
    refine (div_any HA.out HP.out (by omega) (by omega) (tn_pos 576)).mono ?_
    rintro e w1 ⟨vq, vr, rfl, hq, hr2, b1⟩
    have HQ := hide (And.intro hq.arg (And.intro hr2.arg b1))
    have hrow1 : Row .u8 5 w1 gt zs := HR.out.keeps b1
    clear hq hr2 b1 hc
    go_upto_region 10 with fail
    have HQ1 := hide (show Arg w1.drew vq (V / tn 576) 130 by obtain ⟨z, z1, z2, z3, z4⟩ := HQ.out.1.below ((Below.refl _ _).drew (w := w1)); exact ⟨z, z1, z2, z3, by omega⟩)
    have hrow1d : Row .u8 5 w1.drew gt zs := hrow1
    have hlen : at_ ≤ zs.length := by omega
    go_region_held3 (fun _ => True) (exact trivial)
      (first
        | (go_at_call 48; (refine (tell_leaf (off := 0) (n := at_) hrow1d ?_ ?_ HQ1.out).mono ?_); omega; omega; rintro r w2 ⟨rfl, ⟨ys, hy, hput⟩, b2, ho2⟩))
    have HY := hide hput
    have hyl := hput.1
    have HQ2 := hide (show Arg w2 vr (V % tn 576) 130 by
      have a := HQ.out.2.1.below ((Below.refl _ _).drew (w := w1))
      have a2 : ∀ b off l cap, vr = .slice (some ⟨b, off, none⟩) l cap → 0 < l → b ≠ gt := arg_not_row a hrow1d
      obtain ⟨z, ⟨ao, cap, rfl, z1, z2, z3⟩, z4, z5, z6⟩ := a
      refine ⟨z, ⟨ao, cap, rfl, z1, z2, fun hp => ?_⟩, z4, z5, by omega⟩
      obtain ⟨b, off, rfl, hb, hc⟩ := z3 hp
      have hne := a2 b off _ _ rfl hp
      refine ⟨b, off, rfl, Nat.lt_of_lt_of_le hb b2.size, fun i hi => ?_⟩
      rw [World.cell?_of_block (ho2 b hb hne)]
      exact hc i hi)
    have K2 : Below gt w w2 := (HQ.out.2.2.mono (by omega)).trans ((Below.refl _ _).drew.trans b2)
    clear hput b2 ho2 hrow1 hrow1d HQ1
    go_upto_region 11 with fail
    have HQ3 := hide (show Arg w2.drew vr (V % tn 576) 130 from HQ2.out.below (Below.refl _ _).drew)
    have hyd : Row .u8 5 w2.drew gt ys := hy
    have hsub : (n : Int) - (at_ : Int) = 576 := by omega
    have hsub2 : n - at_ = 576 := by omega
    have hnat : ¬ n = at_ := by omega
    go_region_held3 (fun _ => True) (exact trivial)
      (first
        | (go_at_call 48; (with_reducible refine (tell_leaf (off := at_) (n := 576) hyd ?_ ?_ HQ3.out).mono ?_); omega; omega; rintro r w3 ⟨rfl, ⟨xs, hx, hput⟩, b3, ho3⟩))
    have HX := hide hput
    have K3 : Below gt w w3 := K2.trans ((Below.refl _ _).drew.trans b3)
    clear hput b3 ho3 HQ3 hyd hy
    go_wp2
    refine bodyPost_end (results_none rfl _ _ _) rfl ?_
    exact ⟨rfl, ⟨xs, hx, put_two hV (by omega) HY.out HX.out hn⟩, K3⟩

theorem put_dg {zs ys : List Int} {n : Nat} {V : Int} (hV : 0 ≤ V) (hl : zs.length = n) (hp : Put zs 0 n V ys) (h : V < tn n) : Dg ys ∧ dg ys = V ∧ ys.length = n := by
  obtain ⟨h1, h2, _⟩ := hp
  have hyl : ys.length = n := by omega
  have hd : Dg ys := all_dg (fun j hj => by
    have k := h2 j (by omega)
    rw [Nat.zero_add] at k
    rw [k]
    have := Int.emod_nonneg (V / tn (n - 1 - j)) (b := 10) (by omega)
    have := Int.emod_lt_of_pos (V / tn (n - 1 - j)) (b := 10) (by omega)
    omega)
  have key : ∀ k, k ≤ n → dg (ys.take k) = V / tn (n - k) := by
    intro k
    induction k with
    | zero =>
      intro _
      rw [List.take_zero, Nat.sub_zero, Int.ediv_eq_zero_of_lt hV h]; rfl
    | succ k ih =>
      intro hk
      rw [dg_take (by omega), ih (by omega)]
      have e := h2 k (by omega)
      rw [Nat.zero_add] at e
      rw [e, show n - k = (n - 1 - k) + 1 by omega, ← div_tn, show n - (k + 1) = n - 1 - k by omega]
      omega
  refine ⟨hd, ?_, hyl⟩
  have k := key n (Nat.le_refl _)
  rw [Nat.sub_self, tn_zero, Int.ediv_one, List.take_of_length_le (by omega)] at k
  exact k
theorem first_digit {es : List Int} (hd : Dg es) (hp : 0 < dg es) : ∃ a, a < es.length ∧ Nt.lb es a ≠ 48 ∧ ∀ j, j < a → Nt.lb es j = 48 := by
  have aux : ∀ k, k ≤ es.length → (∀ j, j < k → Nt.lb es j = 48) ∨ ∃ a, a < k ∧ Nt.lb es a ≠ 48 ∧ ∀ j, j < a → Nt.lb es j = 48 := by
    intro k
    induction k with
    | zero => intro _; left; intro j hj; omega
    | succ k ih =>
      intro hk
      rcases ih (by omega) with h | ⟨a, h1, h2, h3⟩
      · by_cases c : Nt.lb es k = 48
        · left; intro j hj
          rcases Nat.lt_or_ge j k with q | q
          · exact h j q
          · rw [show j = k by omega]; exact c
        · right; exact ⟨k, by omega, c, h⟩
      · right; exact ⟨a, by omega, h2, h3⟩
  rcases aux es.length (Nat.le_refl _) with h | h
  · exfalso
    rw [dg_all h, dg_noughts] at hp
    omega
  · exact h

set_option maxRecDepth 20000 in
set_option maxHeartbeats 4000000 in
theorem trimL {w : World} {es : List Int} {s : ByteArray} {N a : Nat} (hd : Dg es) (hs : s = strOfNums es) (hN : es.length = N) (hm : N ≤ 2000) (ha : a < N) (h0 : Nt.lb es a ≠ 48) (hz : ∀ j, j < a → Nt.lb es j = 48) :
    Calls Tryd.prog 50 #[.string s, .string ⟨#[48]⟩] w fun e w' => e = .returned (.string (strOfNums (es.drop a))) ∧ w' = w := by
  have hb : Calls Tryd.prog 61 #[.string s, .int .u8 48] w fun e w' => e = .returned (.string (strOfNums (es.drop a))) ∧ w' = w := by
    have HD := hide (And.intro hd (And.intro hs (And.intro hN (And.intro h0 hz))))
    clear hd hs hN h0 hz
    go_enter Tryd.func61, Tryd.ntmps61
    go_wp2
    go_loopg [0] N (fun c sv wr => ∃ i : Nat, i ≤ a ∧ c = N - i ∧ sv = .string (strOfNums (es.drop i)) ∧ wr = w)
    case atStart => exact ⟨0, by omega, rfl, by rw [HD.out.2.1]; rfl, rfl⟩
    case round =>
      obtain ⟨i, hi, hgi, rfl, hw⟩ := hrel
      replace hw := hw.symm
      subst hw
      obtain ⟨t, ht⟩ : ∃ t, t = strOfNums (es.drop i) := ⟨_, rfl⟩
      obtain ⟨M, hM⟩ : ∃ M : Nat, M + i = N := ⟨N - i, by omega⟩
      have htz : t.size = M := by rw [ht, strOfNums_size, List.length_drop, HD.out.2.2.1]; omega
      have hp0 : 0 < t.size := by omega
      have hix := (txt_ix ht (HD.out.1.drop i) 0 hp0).1
      rw [lb_drop, Nat.add_zero] at hix
      have HT := hide ht
      rw [← ht]
      clear ht
      have m0 : (0 : Int) < (M : Int) := by omega
      have HM := hide hM
      have hMl : M ≤ 2000 := by omega
      have hgk : gk = M := by omega
      clear hM hgi
      by_cases c : i < a
      · have e := HD.out.2.2.2.2 i c
        rw [e] at hix
        have hx : t.extract 1 M = strOfNums (es.drop (i + 1)) := by
          rw [HT.out, txt_cut, List.take_of_length_le (by rw [List.length_drop, HD.out.2.2.1]; have := HM.out; omega), List.drop_drop]
        have hM1 : 1 ≤ M := by omega
        clear e
        go_wp2
        go_roundg (N - (i + 1))
        case measure => have := HM.out; omega
        case rel => exact ⟨i + 1, by omega, rfl, rfl, rfl⟩
      · have hia : i = a := by omega
        subst hia
        obtain ⟨d, hdd⟩ : ∃ d, Nt.lb es i = d := ⟨_, rfl⟩
        have h48 : (d == 48) = false := by simp; intro e; exact HD.out.2.2.2.1 (by rw [hdd, e])
        rw [hdd] at hix
        clear hdd
        go_wp2
        go_ret
        exact ⟨by rw [← HT.out]; rfl, rfl⟩
  have hne : s.toList.isEmpty = false := txt_full (by rw [hs, strOfNums_size, hN]; omega)
  clear hd hs hN h0 hz
  go_enter Tryd.func50, Tryd.ntmps50
  go_wp2_with fail
  refine hb.mono ?_
  clear hb
  rintro e w' ⟨rfl, rfl⟩
  go_wp2
  go_ret
  exact ⟨rfl, rfl⟩

theorem room_tab : (List.range 3801).all (fun k => decide (2 ^ k ≤ 10 ^ (k * 30103 / 100000 + 1))) = true := by decide +kernel
theorem room_enough {k : Nat} (h : k ≤ 3800) : p2 k ≤ tn (k * 30103 / 100000 + 1) := by
  have a := List.all_eq_true.1 room_tab k (List.mem_range.2 (by omega))
  have b : 2 ^ k ≤ 10 ^ (k * 30103 / 100000 + 1) := of_decide_eq_true a
  rw [p2_pow, tn_nat]
  have c : ((2 ^ k : Nat) : Int) ≤ ((10 ^ (k * 30103 / 100000 + 1) : Nat) : Int) := Int.ofNat_le.2 b
  simpa using c

set_option maxRecDepth 20000 in
set_option maxHeartbeats 4000000 in
theorem digits_few {w : World} {va : Value} {V : Int} (ha : Arg w va V 118) (hV : 0 < V) (hb : V < p2 3776) :
    Calls Tryd.prog 32 #[va] w fun e w' => ∃ ds, e = .returned (.string (strOfNums ds)) ∧ Dg ds ∧ 0 < ds.length ∧ ds.length ≤ 1152 ∧ Nt.lb ds 0 ≠ 48 ∧ dg ds = V ∧ Below w.heap.size w w' := by
  have HA := hide ha
  clear ha
  go_enter Tryd.func32, Tryd.ntmps32
  go_wp2_with fail
  refine (len_any HA.out (by omega)).mono ?_
  rintro e w' ⟨k, rfl, hk, _, rfl⟩
  have hk2 : k ≤ 3776 := isLen_le hk hb
  have hlt : V < tn (k * 30103 / 100000 + 1) := by have := room_enough (k := k) (by omega); have := hk.1; omega
  go_wp2_with fail
  refine (qroom_any (n := (k : Int)) (by omega) (by omega)).mono ?_
  rintro e w1 ⟨rfl, rfl⟩
  obtain ⟨n, hn⟩ : ∃ n : Nat, k * 30103 / 100000 + 1 = n := ⟨_, rfl⟩
  have hn2 : (k : Int) * 30103 / 100000 + 1 = (n : Int) := by omega
  rw [hn2]
  rw [hn] at hlt
  have n1 : 1 ≤ n := by omega
  have n2 : n ≤ 1152 := by omega
  have HV := hide (And.intro hV hlt)
  clear hk hlt hn hn2 hV hb
  go_wp2_with (at_make; refine wpList_make_row _ rfl _ _ 42 rfl 5 .u8 1 Tryd.underlying42 Tryd.infoB8 _ _ _ _ n n rfl rfl (by omega) (by omega) (Nat.le_refl _) (by omega) (by unfold maxLen; omega) ?_)
  intro w2 hr hbel hsz
  have hzl : (List.replicate n (0 : Int)).length = n := by simp
  generalize List.replicate n (0 : Int) = zs at *
  go_wp2_with fail
  refine (tens_few n2).mono ?_
  rintro e w3 ⟨tv, rfl, hT, b3⟩
  have hr3 : Row .u8 5 w3 w1.heap.size zs := hr.keeps b3
  have HT := hide hT
  have hTn := hide (show ∀ g c, tv = .slice (some ⟨g, 0, none⟩) 1 c → g ≠ w1.heap.size from fun g c e => by
    rcases hT with ⟨_, h⟩ | ⟨_, g', pv, h, _, hc, hp⟩
    · rw [e] at h; cases h
    · intro hg
      rw [e] at h
      injection h with h _ _
      injection h with h
      injection h with h _ _
      rw [← h, hg, cell_of_row w3 _ 0 _ _ _ hr3] at hc
      obtain ⟨z, ⟨ao, cap, rfl, _⟩, _⟩ := hp
      cases zs with
      | nil => simp at hzl; omega
      | cons a r => simp at hc)
  have K3 := below_trans hbel b3
  clear hT b3 hr hsz
  have htv : ∃ ao l c, tv = .slice ao l c := by
    rcases HT.out with ⟨_, h⟩ | ⟨_, g', pv, h, _⟩
    · exact ⟨_, _, _, h⟩
    · exact ⟨_, _, _, h⟩
  go_wp2_with fail
  refine (tell_few hr3 hzl n2 (show Arg w3 va V 120 by obtain ⟨z, z1, z2, z3, z4⟩ := HA.out.below K3; exact ⟨z, z1, z2, z3, by omega⟩) HT.out hTn.out).mono ?_
  rintro e w4 ⟨rfl, ⟨ys, hy, hput⟩, b4⟩
  obtain ⟨p1, p2', p3⟩ := put_dg (Int.le_of_lt HV.out.1) hzl hput HV.out.2
  obtain ⟨a, a1, a2, a3⟩ := first_digit p1 (by rw [p2']; exact HV.out.1)
  have hcv := row_txt (cap := n) hy
  rw [p3] at hcv
  have K4 : Below w1.heap.size w1 w4 := K3.trans b4
  have HP := hide (And.intro p1 (And.intro p2' (And.intro p3 (And.intro a1 (And.intro a2 a3)))))
  clear hput p1 p2' p3 a1 a2 a3 b4 hr3 K3 HT hTn hbel
  go_wp2_with fail
  refine (trimL HP.out.1 rfl HP.out.2.2.1 (by omega) (by have := HP.out.2.2.1; have := HP.out.2.2.2.1; omega) HP.out.2.2.2.2.1 HP.out.2.2.2.2.2).mono ?_
  rintro e w5 ⟨rfl, rfl⟩
  have hne : (strOfNums (ys.drop a)).toList.isEmpty = false := txt_full (by rw [strOfNums_size, List.length_drop]; have := HP.out.2.2.2.1; omega)
  have hfin := hide (show dg (ys.drop a) = V by
    have e := dg_between (es := ys) (f := a) (e := ys.length) (Nat.le_refl _) (by have := HP.out.2.2.2.1; omega) HP.out.2.2.2.2.2 (fun j h1 h2 => absurd h2 (by omega))
    rw [Nat.sub_self, tn_zero, Int.mul_one, List.take_of_length_le (Nat.le_refl _), HP.out.2.1] at e
    exact e.symm)
  clear hcv
  go_wp2
  go_ret
  exact ⟨ys.drop a, rfl, HP.out.1.drop a, by rw [List.length_drop]; have := HP.out.2.2.2.1; omega, by rw [List.length_drop]; have := HP.out.2.2.1; omega, by rw [lb_drop, Nat.add_zero]; exact HP.out.2.2.2.2.1, hfin.out, K4⟩

theorem last_digit {es : List Int} (hd : Dg es) (hp : 0 < dg es) : ∃ b, b ≤ es.length ∧ 0 < b ∧ Nt.lb es (b - 1) ≠ 48 ∧ ∀ j, b ≤ j → j < es.length → Nt.lb es j = 48 := by
  have aux : ∀ k, k ≤ es.length → (∀ j, es.length - k ≤ j → j < es.length → Nt.lb es j = 48) ∨ ∃ b, b ≤ es.length ∧ 0 < b ∧ Nt.lb es (b - 1) ≠ 48 ∧ ∀ j, b ≤ j → j < es.length → Nt.lb es j = 48 := by
    intro k
    induction k with
    | zero => intro _; left; intro j h1 h2; omega
    | succ k ih =>
      intro hk
      rcases ih (by omega) with h | h
      · by_cases c : Nt.lb es (es.length - (k + 1)) = 48
        · left; intro j h1 h2
          rcases Nat.lt_or_ge j (es.length - k) with q | q
          · rw [show j = es.length - (k + 1) by omega]; exact c
          · exact h j q h2
        · right; exact ⟨es.length - k, by omega, by omega, by rw [show es.length - k - 1 = es.length - (k + 1) by omega]; exact c, h⟩
      · right; exact h
  rcases aux es.length (Nat.le_refl _) with h | h
  · exfalso
    rw [dg_all (fun j hj => h j (by omega) hj), dg_noughts] at hp
    omega
  · exact h

set_option maxRecDepth 20000 in
set_option maxHeartbeats 4000000 in
theorem trimR {w : World} {es : List Int} {s : ByteArray} {N b : Nat} (hd : Dg es) (hs : s = strOfNums es) (hN : es.length = N) (hm : N ≤ 2000) (hb0 : 0 < b) (hbN : b ≤ N) (h0 : Nt.lb es (b - 1) ≠ 48) (hz : ∀ j, b ≤ j → j < N → Nt.lb es j = 48) :
    Calls Tryd.prog 33 #[.string s, .string ⟨#[48]⟩] w fun e w' => e = .returned (.string (strOfNums (es.take b))) ∧ w' = w := by
  have hb : Calls Tryd.prog 51 #[.string s, .int .u8 48] w fun e w' => e = .returned (.string (strOfNums (es.take b))) ∧ w' = w := by
    have HD := hide (And.intro hd (And.intro hs (And.intro hN (And.intro h0 hz))))
    clear hd hs hN h0 hz
    go_enter Tryd.func51, Tryd.ntmps51
    go_wp2
    go_loopg [0] N (fun c sv wr => ∃ M : Nat, b ≤ M ∧ M ≤ N ∧ c = M ∧ sv = .string (strOfNums (es.take M)) ∧ wr = w)
    case atStart => exact ⟨N, hbN, Nat.le_refl _, rfl, by rw [HD.out.2.1, List.take_of_length_le (by rw [HD.out.2.2.1]; exact Nat.le_refl _)], rfl⟩
    case round =>
      obtain ⟨M, hM1, hM2, hgk, rfl, hw⟩ := hrel
      replace hw := hw.symm
      subst hw
      obtain ⟨t, ht⟩ : ∃ t, t = strOfNums (es.take M) := ⟨_, rfl⟩
      have htz : t.size = M := by rw [ht, strOfNums_size, List.length_take, HD.out.2.2.1]; omega
      have hp0 : M - 1 < t.size := by omega
      have hix := (txt_ix ht (HD.out.1.take M) (M - 1) hp0).1
      rw [lb_take (by omega)] at hix
      have HT := hide ht
      rw [← ht]
      clear ht
      have m0 : (0 : Int) < (M : Int) := by omega
      have q6 : ((M : Int) - 1).toNat = M - 1 := by omega
      have q7 : (0 : Int) ≤ (M : Int) - 1 := by omega
      have hMl : M ≤ 2000 := by omega
      by_cases c : b < M
      · have e := HD.out.2.2.2.2 (M - 1) (by omega) (by omega)
        rw [e] at hix
        have hx : t.extract 0 (M - 1) = strOfNums (es.take (M - 1)) := by
          rw [HT.out, txt_cut, List.drop_zero, List.take_take, show min (M - 1) M = M - 1 by omega]
        clear e
        go_wp2
        go_roundg (M - 1)
        case measure => omega
        case rel => exact ⟨M - 1, by omega, by omega, rfl, rfl, rfl⟩
      · have hia : M = b := by omega
        subst hia
        obtain ⟨d, hdd⟩ : ∃ d, Nt.lb es (M - 1) = d := ⟨_, rfl⟩
        have h48 : (d == 48) = false := by simp; intro e; exact HD.out.2.2.2.1 (by rw [hdd, e])
        rw [hdd] at hix
        clear hdd
        go_wp2
        go_ret
        exact ⟨by rw [← HT.out]; rfl, rfl⟩
  have hne : s.toList.isEmpty = false := txt_full (by rw [hs, strOfNums_size, hN]; omega)
  clear hd hs hN h0 hz
  go_enter Tryd.func33, Tryd.ntmps33
  go_wp2_with fail
  refine hb.mono ?_
  clear hb
  rintro e w' ⟨rfl, rfl⟩
  go_wp2
  go_ret
  exact ⟨rfl, rfl⟩

/-- digits and point of m times 2 to the power of e -/
def InDec (m e : Int) (ds : List Int) (pt : Int) : Prop := Nm ds ∧ 0 < ds.length ∧ ds.length ≤ 1152 ∧ -2000 ≤ pt ∧ pt ≤ 2000 ∧ dg ds * tn (pt - ds.length).toNat * p2 (-e).toNat = m * p2 e.toNat * tn (-(pt - ds.length)).toNat
theorem pow5_odd (n : Nat) : (5 : Int) ^ n % 2 = 1 := by
  induction n with
  | zero => decide
  | succ n ih => rw [Int.pow_succ]; omega
theorem dg_last_mod {ds : List Int} (h : Dg ds) (hl : 0 < ds.length) (hodd : dg ds % 2 = 1) : Nt.lb ds (ds.length - 1) ≠ 48 := by
  rcases List.eq_nil_or_concat ds with e | ⟨l, b, e⟩
  · subst e; simp at hl
  · rw [List.concat_eq_append] at e
    subst e
    have hb : Nt.lb (l ++ [b]) ((l ++ [b]).length - 1) = b := by simp [Nt.lb]
    rw [hb]
    rw [dg_snoc] at hodd
    omega
theorem mod_odd {a b : Int} (ha : a % 2 = 1) (hb : b % 2 = 1) : a * b % 2 = 1 := by rw [Int.mul_emod, ha, hb]; rfl
theorem small_prod {m : Int} {n : Nat} (h0 : 0 < m) (h1 : m < p2 64) (hn : n ≤ 1074) : m * 5 ^ n < p2 3776 := by
  have a : (5 : Int) ^ n ≤ 5 ^ 1074 := by
    obtain ⟨d, hd⟩ : ∃ d, 1074 = n + d := ⟨1074 - n, by omega⟩
    rw [hd, Int.pow_add]
    have := pow5_pos d
    have := Int.mul_le_mul_of_nonneg_left (show (1 : Int) ≤ 5 ^ d by omega) (Int.le_of_lt (pow5_pos n))
    omega
  have b : (5 : Int) ^ 1074 < p2 3000 := by rw [p2_pow]; decide +kernel
  have c : m * 5 ^ n ≤ p2 64 * p2 3000 := Int.mul_le_mul (by omega) (by omega) (Int.le_of_lt (pow5_pos n)) (Int.le_of_lt (p2_pos _))
  rw [← p2_add] at c
  have d : p2 (64 + 3000) < p2 3776 := by rw [p2_pow, p2_pow]; decide +kernel
  omega

set_option maxRecDepth 20000 in
set_option maxHeartbeats 8000000 in
theorem inDec_any {w : World} {m e : Int} (m0 : 0 < m) (m1 : m < 18446744073709551616) (modd : m % 2 = 1) (e0 : -1074 ≤ e) (e1 : e ≤ 1100) :
    Calls Tryd.prog 17 #[.int .u64 m, .int .i64 e] w fun x w' => ∃ ds pt, x = .returned (.tuple #[.string (strOfNums ds), .int .i64 pt]) ∧ InDec m e ds pt ∧ Below w.heap.size w w' := by
  have hm64 : m < p2 64 := by have : p2 64 = 18446744073709551616 := by decide
                              omega
  by_cases c : 0 ≤ e
  · obtain ⟨n, rfl⟩ : ∃ n : Nat, e = n := ⟨e.toNat, by omega⟩
    have hbig : m * p2 n < p2 3776 := by
      have a : m * p2 n < p2 64 * p2 n := Int.mul_lt_mul_of_pos_right hm64 (p2_pos n)
      rw [← p2_add] at a
      have b := p2_mono (show 64 + n ≤ 3776 by omega)
      omega
    have hpos : 0 < m * p2 n := Int.mul_pos m0 (p2_pos n)
    have HB := hide (And.intro hbig hpos)
    clear hbig hpos hm64
    go_enter Tryd.func17, Tryd.ntmps17
    go_wp2_with fail
    with_reducible refine (from_any m (by omega) (by omega)).mono ?_
    rintro x w1 ⟨v1, rfl, h1, b1⟩
    have H1 := hide h1.arg
    clear h1
    go_wp2_with fail
    with_reducible refine (shl_room (N := n) H1.out (by omega) (by omega)).mono ?_
    rintro x w2 ⟨v2, rfl, h2, b2⟩
    have H2 := hide (show Arg w2 v2 (m * p2 n) 118 from (h2.tight (k' := 118) (by rw [← p2_32]; exact HB.out.1)).arg)
    have K2 := below_trans b1 b2
    clear h2 b1 b2
    go_wp2_with fail
    refine (digits_few H2.out HB.out.2 HB.out.1).mono ?_
    rintro x w3 ⟨ds, rfl, D1, D2, D3, D4, D5, b3⟩
    obtain ⟨b, g1, g2, g3, g4⟩ := last_digit D1 (by rw [D5]; exact HB.out.2)
    have K3 := below_trans K2 b3
    obtain ⟨N, hN⟩ : ∃ N, ds.length = N := ⟨_, rfl⟩
    have hsz : (strOfNums ds).size = N := by rw [strOfNums_size, hN]
    have HDs := hide (And.intro D1 (And.intro D4 (And.intro D5 (And.intro g3 (And.intro g4 hN)))))
    have HTr := hide (show ∀ w : World, _ from fun w => trimR (w := w) (b := b) D1 rfl hN (by omega) g2 (by omega) g3 (fun j h1 h2 => g4 j h1 (by omega)))
    have q1 : b ≤ N := by omega
    have q2 : N ≤ 1152 := by omega
    clear D1 D2 D3 D4 D5 g1 g3 g4 b3 K2 hN
    go_wp2_with fail
    refine (HTr.out _).mono ?_
    rintro x w4 ⟨rfl, rfl⟩
    have hfin := hide (show InDec m n (ds.take b) N by
      have hl : (ds.take b).length = b := by rw [List.length_take, HDs.out.2.2.2.2.2]; omega
      refine ⟨⟨HDs.out.1.take b, fun _ => by rw [lb_take (by omega)]; exact HDs.out.2.1, fun _ => by rw [hl, lb_take (by omega)]; exact HDs.out.2.2.2.1⟩, by omega, by omega, by omega, by omega, ?_⟩
      rw [hl, show ((N : Int) - b).toNat = N - b by omega, show (-((N : Int) - b)).toNat = 0 by omega, show (-(n : Int)).toNat = 0 by omega, Int.toNat_natCast, tn_zero, show p2 0 = 1 from rfl, Int.mul_one, Int.mul_one]
      have e := dg_between (es := ds) (f := 0) (e := b) (by rw [HDs.out.2.2.2.2.2]; exact q1) (by omega) (fun j hj => absurd hj (by omega)) HDs.out.2.2.2.2.1
      rw [List.drop_zero, HDs.out.2.2.2.2.2, HDs.out.2.2.1] at e
      exact e.symm)
    go_wp2
    go_ret2
    exact ⟨_, _, rfl, hfin.out, K3⟩
  · obtain ⟨n, rfl⟩ : ∃ n : Nat, e = -(n : Int) := ⟨(-e).toNat, by omega⟩
    have hbig := small_prod (n := n) m0 hm64 (by omega)
    have hpos : 0 < m * 5 ^ n := Int.mul_pos m0 (pow5_pos n)
    have HB := hide (And.intro hbig hpos)
    have Hodd := hide (mod_odd modd (pow5_odd n))
    clear hbig hpos hm64
    go_enter Tryd.func17, Tryd.ntmps17
    go_wp2_with fail
    refine (pow_ok (b := 5) (N := n) (k := 3) (by omega) (by omega) ⟨by decide, fun _ => by decide⟩ (by omega) (.inr (by omega))).mono ?_
    rintro x w1 ⟨v1, rfl, h1, b1⟩
    have H1 := hide h1.arg
    clear h1
    go_wp2_with fail
    with_reducible refine (from_any m (by omega) (by omega)).mono ?_
    rintro x w2 ⟨v2, rfl, h2, b2⟩
    have H2 := hide h2.arg
    have P1 := hide (H1.out.below b2)
    have K := below_trans b1 b2
    clear h2 b1 b2
    go_wp2_with fail
    with_reducible refine (mul_any H2.out P1.out (by omega) (by omega)).mono ?_
    rintro x w3 ⟨v3, rfl, h3, b3⟩
    have H3 := hide (show Arg w3 v3 (m * 5 ^ n) 118 from (h3.tight (k' := 118) (by rw [← p2_32]; exact HB.out.1)).arg)
    have K3 := below_trans K b3
    clear h3 b3 K
    go_wp2_with fail
    refine (digits_few H3.out HB.out.2 HB.out.1).mono ?_
    rintro x w4 ⟨ds, rfl, D1, D2, D3, D4, D5, b4⟩
    have K4 := below_trans K3 b4
    have hsz : (strOfNums ds).size = ds.length := strOfNums_size _
    have hfin := hide (show InDec m (-(n : Int)) ds (ds.length + -(n : Int)) by
      refine ⟨⟨D1, fun _ => D4, fun hl => dg_last_mod D1 hl (by rw [D5]; exact Hodd.out)⟩, D2, D3, by omega, by omega, ?_⟩
      rw [show ((ds.length : Int) + -(n : Int) - ds.length).toNat = 0 by omega, show (- -(n : Int)).toNat = n by omega, show (-(n : Int)).toNat = 0 by omega, show (-((ds.length : Int) + -(n : Int) - ds.length)).toNat = n by omega, D5, tn_zero, Int.mul_one, show p2 0 = 1 from rfl, Int.mul_one, tn_p2, ← Int.mul_assoc])
    clear D1 D2 D4 D5 b4 K3
    go_wp2
    go_ret2
    exact ⟨_, _, rfl, hfin.out, K4⟩

/-- all digits of a size -/
def ExV (F L s : Int) (ds : List Int) (pt : Int) : Prop := Nm ds ∧ ds.length ≤ 1152 ∧ -2000 ≤ pt ∧ pt ≤ 2000 ∧ (s = 0 → ds = [] ∧ pt = 0) ∧ (0 < s → 0 < ds.length) ∧ dg ds * tn (pt - ds.length).toNat * p2 (-L).toNat = um F L L s * tn (-(pt - ds.length)).toNat
theorem um_zero {F L : Int} (hF : 0 < F) : um F L L 0 = 0 := by unfold um sc mst; rw [if_pos hF, Int.zero_mul]
theorem exv_zero {F L : Int} (hF : 0 < F) : ExV F L 0 [] 0 := by
  refine ⟨⟨fun x hx => absurd hx (by simp), fun h => absurd h (by simp), fun h => absurd h (by simp)⟩, by simp, by omega, by omega, fun _ => ⟨rfl, rfl⟩, fun h => absurd h (by omega), ?_⟩
  rw [um_zero hF, show dg [] = 0 from rfl, Int.zero_mul, Int.zero_mul, Int.zero_mul]
theorem exv_of {F L s m e : Int} {k : Nat} {ds : List Int} {pt : Int} (hF : 0 < F) (hs : 0 < s) (hL : L ≤ 0) (hm : mst F s = m * p2 k) (he : e = est F L s + k) (h : InDec m e ds pt) : ExV F L s ds pt := by
  obtain ⟨h1, h2, h3, h4, h5, h6⟩ := h
  have l := est_ge (F := F) (L := L) (s := s) hF
  refine ⟨h1, h3, h4, h5, fun z => absurd z (by omega), fun _ => h2, ?_⟩
  obtain ⟨j, hj⟩ : ∃ j : Nat, (-e).toNat + j = (-L).toNat := ⟨(-L).toNat - (-e).toNat, by omega⟩
  have hu : um F L L s = m * p2 (e.toNat + j) := by
    rw [um_here, hm, Int.mul_assoc, ← p2_add]
    congr 2
    omega
  rw [hu, ← hj, p2_add, p2_add, ← Int.mul_assoc, h6]
  generalize tn (-(pt - (ds.length : Int))).toNat = T
  rw [Int.mul_assoc, Int.mul_comm T, ← Int.mul_assoc, Int.mul_assoc m]

set_option maxHeartbeats 4000000 in
theorem parts_x {w : World} (L : Lays w) (T : Brn w) (x s : Int) (ng : Bool) (h0 : 0 ≤ x) (h1 : x < 65536) (hs : x % 32768 = s) (hng : ng = decide (32768 ≤ x)) : Calls Tryd.prog 19 #[.int .u16 x] w fun e w' => ∃ a m E ok, e = .returned (.tuple #[.bool a, .int .u64 m, .int .i64 E, .bool ok]) ∧ PartIs 1024 (-24) 31744 s ng a m E ok ∧ Below w.heap.size w w' := by
  have s0 : 0 ≤ s := by omega
  have s1 : s < 32768 := by omega
  have hx : (s == x) = !ng := by
    subst hng
    by_cases c : 32768 ≤ x
    · rw [decide_eq_true c]; simp; omega
    · rw [decide_eq_false c]; simp; omega
  have hx2 : (s != x) = ng := by rw [bne, hx]; simp
  go_enter Tryd.func19, Tryd.ntmps19
  go_wp2_with fail
  with_reducible refine (layoutOf_o L).mono ?_
  rintro e w1 ⟨rfl, K1⟩
  go_upto_region 2 with fail
  have C := cell3_new w1 (.int .i64 16) (.int .i64 10) (.int .i64 (-24)) 56
  have K2 := below_trans K1 (bel_new w1 (.cells #[.int .i64 16, .int .i64 10, .int .i64 (-24)] 56))
  generalize w1.alloc (.cells #[.int .i64 16, .int .i64 10, .int .i64 (-24)] 56) = w2 at *
  have c0 := C.c0; have c1 := C.c1; have c2 := C.c2
  go_wp2_with fail
  with_reducible refine (size_h _ x s h0 h1 hs).mono ?_
  rintro e w3 ⟨rfl, b3⟩
  clear c0 c1 c2
  replace C := C.below b3
  replace K2 := below_trans K2 b3
  clear b3
  clear hs hng
  have c0 := C.c0; have c1 := C.c1; have c2 := C.c2
  go_wp2_with fail
  with_reducible refine (infinite_h _).mono ?_
  rintro e w4 ⟨rfl, b4⟩
  clear c0 c1 c2
  replace C := C.below b4
  replace K2 := below_trans K2 b4
  clear b4
  by_cases a1 : 31744 ≤ s
  · have HP : PartIs 1024 (-24) 31744 s ng false 0 0 false := ⟨fun _ => ⟨rfl, rfl, rfl, rfl⟩, fun h => by omega⟩
    clear hx hx2
    go_wp2
    (try simp only [Exit.inBlock, Exit.then])
    exact bodyPost_ret (v := .tuple #[.bool false, .int .u64 0, .int .i64 0, .bool false]) (by simp [results, Tryd.results19, go_sem]) rfl ⟨_, _, _, _, rfl, HP, K2⟩
  by_cases a2 : s = 0
  · have HP : PartIs 1024 (-24) 31744 s ng ng 0 0 true := ⟨fun h => by omega, fun _ => ⟨rfl, rfl, fun _ => ⟨rfl, rfl⟩, fun h => by omega⟩⟩
    have a2' : (s == 0) = true := by simp [a2]
    have HPP := hide HP
    clear a2 HP
    go_wp2
    (try simp only [Exit.inBlock, Exit.then])
    exact bodyPost_ret (v := .tuple #[.bool ng, .int .u64 0, .int .i64 0, .bool true]) (by simp [results, Tryd.results19, go_sem]) rfl ⟨_, _, _, _, rfl, HPP.out, K2⟩
  have a2' : (s == 0) = false := by simp [a2]
  have c0 := C.c0; have c1 := C.c1; have c2 := C.c2
  go_wp2_with fail
  with_reducible refine (steps_h _ s s0 s1).mono ?_
  rintro e w5 ⟨rfl, b5⟩
  clear c0 c1 c2
  replace C := C.below b5
  replace K2 := below_trans K2 b5
  clear b5
  obtain ⟨m0, m1⟩ := mst_range (F := 1024) (s := s) (S := 32768) (by decide) (by omega) (by decide) s1
  obtain ⟨g0, g1⟩ : -1074 ≤ est 1024 (-24) s ∧ est 1024 (-24) s < 65536 := by unfold est; split <;> omega
  generalize hM : mst 1024 s = mm at *
  generalize hE : est 1024 (-24) s = ee at *
  have HM := hide hM
  have HE := hide hE
  clear hM hE
  go_wp2_with fail
  with_reducible refine (tz_any (T.below K2) mm (by omega) (by omega)).mono ?_
  rintro e w6 ⟨k, m, rfl, k64, hmk, modd, rfl⟩
  have HP : PartIs 1024 (-24) 31744 s ng ng m (ee + k) true := ⟨fun h => by omega, fun _ => ⟨rfl, rfl, fun h => by omega, fun _ => ⟨modd, k, k64, by rw [HM.out]; exact hmk, by rw [HE.out]⟩⟩⟩
  have hq := quot_p2 hmk
  have hmin : min k 64 = k := by omega
  have Hmk := hide hmk
  have Hodd := hide modd
  have HPP := hide HP
  have kk : (0 : Int) ≤ (k : Int) := by omega
  have hwr : IntKind.i64.wrap (ee + k) = ee + k := by rw [IntKind.wrap_i64]; omega
  clear hmk HP modd HM HE
  go_upto_region 10 with fail
  have K : Below w6.heap.size w6 w6.drew := (Below.refl _ _).drew
  go_region_held3 (fun _ => True)
    (trivial)
    (fail)
  all_goals (
    replace K2 := below_trans K2 K
    clear K)
  all_goals go_wp2
  all_goals (try simp only [Exit.inBlock, Exit.then])
  all_goals exact bodyPost_ret (v := .tuple #[.bool ng, .int .u64 m, .int .i64 (ee + k), .bool true]) (by simp [results, Tryd.results19, go_sem]) rfl ⟨_, _, _, _, rfl, HPP.out, K2⟩

set_option maxRecDepth 100000 in
set_option maxHeartbeats 8000000 in
theorem exact_h {w : World} (T : Lays w) (U : Brn w) {x s : Int} {ng : Bool} (x0 : 0 ≤ x) (x1 : x < 65536) (hs : x % 32768 = s) (hng : ng = decide (32768 ≤ x)) :
    Calls Tryd.prog 11 #[.int .u16 x] w fun e w' => Below w.heap.size w w' ∧ ((31744 ≤ s ∧ e = .returned (.tuple #[.agg #[.bool false, .string ⟨#[]⟩, .int .i64 0], .bool false])) ∨
      (s < 31744 ∧ ∃ ds pt, e = .returned (.tuple #[.agg #[.bool ng, .string (strOfNums ds), .int .i64 pt], .bool true]) ∧ ExV 1024 (-24) s ds pt)) := by
  have K0 : Below w.heap.size w (w.alloc (.cells #[.bool false, .string ⟨#[]⟩, .int .i64 0] 25)) := al_one _ _
  have C := cell3_new w (.bool false) (.string ⟨#[]⟩) (.int .i64 0) 25
  have F0 : ∀ i, (w.alloc (.cells #[.bool false, .string ⟨#[]⟩, .int .i64 0] 25)).frozen? ⟨w.heap.size, i, none⟩ = false := fun i => World.frozen?_alloc_at _ _ _ _ rfl
  have s0 : 0 ≤ s := by omega
  go_enter Tryd.func11, Tryd.ntmps11
  go_wp2_with fail
  with_reducible refine (parts_16 (T.below K0) (U.below K0) x s ng x0 x1 hs hng).mono ?_
  rintro y w1 ⟨a, m, E, ok, rfl, hP, b1⟩
  clear hs hng
  have D := C.below b1
  have f0 := (b1.frozen (p := ⟨w.heap.size, 0, none⟩) (by simp)).trans (F0 0)
  have f1 := (b1.frozen (p := ⟨w.heap.size, 1, none⟩) (by simp)).trans (F0 1)
  have f2 := (b1.frozen (p := ⟨w.heap.size, 2, none⟩) (by simp)).trans (F0 2)
  have hsz1 : w.heap.size < w1.heap.size := D.lt
  have K1 := below_trans K0 b1
  clear K0 C F0 b1
  rcases Int.lt_or_le s 31744 with c | c
  · obtain ⟨p1, p2', p3, p4⟩ := hP.2 c
    subst p1 p2'
    rcases Int.lt_or_eq_of_le s0 with z | z
    · obtain ⟨modd, k, hk, hm, he⟩ := p4 z
      have mr := mst_rng (F := 1024) (s := s) (by decide) s0
      have pk := p2_pos k
      have m0 : 0 < m := by
        rcases Int.lt_or_le 0 m with h | h
        · exact h
        · exfalso
          have hz : m * p2 k ≤ 0 := Int.mul_nonpos_of_nonpos_of_nonneg h (by omega)
          have : mst 1024 s = 0 := by omega
          unfold mst at this
          split at this <;> omega
      have m1 : m < 18446744073709551616 := by
        have : m * 1 ≤ m * p2 k := Int.mul_le_mul_of_nonneg_left (by omega) (by omega)
        omega
      have er : -1074 ≤ E ∧ E ≤ 1100 := by
        have l := est_ge (F := 1024) (L := -24) (s := s) (by decide)
        have u : est 1024 (-24) s ≤ 1000 := by
          unfold est
          split
          · omega
          · have : s / 1024 ≤ 31744 / 1024 := Int.ediv_le_ediv (by decide) (by omega)
            omega
        omega
      have mz : (m == 0) = false := by simp; omega
      have HV := hide (And.intro hm he)
      have HI := hide (inDec_any (w := w1) m0 m1 modd er.1 er.2)
      clear hP p3 p4 hm he mr pk modd
      go_wp2_with fail
      refine HI.out.mono ?_
      clear HI
      rintro y w2 ⟨ds, pt, rfl, hI, b2⟩
      have HX := hide (exv_of (F := 1024) (L := -24) (by decide) z (by decide) HV.out.1 HV.out.2 hI)
      have D2 := D.below b2
      have g0 := (b2.frozen (p := ⟨w.heap.size, 0, none⟩) hsz1).trans f0
      have g1 := (b2.frozen (p := ⟨w.heap.size, 1, none⟩) hsz1).trans f1
      have g2 := (b2.frozen (p := ⟨w.heap.size, 2, none⟩) hsz1).trans f2
      have c0 := D2.c0; have c1 := D2.c1; have c2 := D2.c2
      have K2 := below_trans K1 b2
      clear b2 D D2 f0 f1 f2 K1 hI HV
      go_wp2
      (try simp only [Exit.inBlock, Exit.then])
      refine bodyPost_ret (v := .tuple #[.agg #[.bool a, .string (strOfNums ds), .int .i64 pt], .bool true]) (by rw [results_cell_tmp rfl]; go_simp) rfl ?_
      exact ⟨((K2.setCell (p := ⟨w.heap.size, 0, none⟩) (Nat.le_refl _) _).setCell (p := ⟨w.heap.size, 1, none⟩) (Nat.le_refl _) _).setCell (p := ⟨w.heap.size, 2, none⟩) (Nat.le_refl _) _, .inr ⟨c, ds, pt, rfl, HX.out⟩⟩
    · obtain ⟨q1, q2⟩ := p3 z.symm
      subst q1 q2
      have hz : s = 0 := z.symm
      subst hz
      have c0 := D.c0; have c1 := D.c1; have c2 := D.c2
      clear hP p3 p4
      go_wp2
      (try simp only [Exit.inBlock, Exit.then])
      refine bodyPost_ret (v := .tuple #[.agg #[.bool a, .string ⟨#[]⟩, .int .i64 0], .bool true]) (by rw [results_cell_tmp rfl]; go_simp) rfl ?_
      exact ⟨((K1.setCell (p := ⟨w.heap.size, 0, none⟩) (Nat.le_refl _) _).setCell (p := ⟨w.heap.size, 1, none⟩) (Nat.le_refl _) _).setCell (p := ⟨w.heap.size, 2, none⟩) (Nat.le_refl _) _, .inr ⟨c, [], 0, rfl, exv_zero (by decide)⟩⟩
  · obtain ⟨p1, p2', p3, p4⟩ := hP.1 c
    subst p1 p2' p3 p4
    have c0 := D.c0; have c1 := D.c1; have c2 := D.c2
    clear hP
    go_wp2
    (try simp only [Exit.inBlock, Exit.then])
    refine bodyPost_ret (v := .tuple #[.agg #[.bool false, .string ⟨#[]⟩, .int .i64 0], .bool false]) (by rw [results_cell_tmp rfl]; go_simp) rfl ?_
    exact ⟨((K1.setCell (p := ⟨w.heap.size, 0, none⟩) (Nat.le_refl _) _).setCell (p := ⟨w.heap.size, 1, none⟩) (Nat.le_refl _) _).setCell (p := ⟨w.heap.size, 2, none⟩) (Nat.le_refl _) _, .inl ⟨c, rfl⟩⟩

set_option maxRecDepth 100000 in
set_option maxHeartbeats 8000000 in
theorem exact_s {w : World} (T : Lays w) (U : Brn w) {x s : Int} {ng : Bool} (x0 : 0 ≤ x) (x1 : x < 4294967296) (hs : x % 2147483648 = s) (hng : ng = decide (2147483648 ≤ x)) :
    Calls Tryd.prog 8 #[.int .u32 x] w fun e w' => Below w.heap.size w w' ∧ ((2139095040 ≤ s ∧ e = .returned (.tuple #[.agg #[.bool false, .string ⟨#[]⟩, .int .i64 0], .bool false])) ∨
      (s < 2139095040 ∧ ∃ ds pt, e = .returned (.tuple #[.agg #[.bool ng, .string (strOfNums ds), .int .i64 pt], .bool true]) ∧ ExV 8388608 (-149) s ds pt)) := by
  have K0 : Below w.heap.size w (w.alloc (.cells #[.bool false, .string ⟨#[]⟩, .int .i64 0] 25)) := al_one _ _
  have C := cell3_new w (.bool false) (.string ⟨#[]⟩) (.int .i64 0) 25
  have F0 : ∀ i, (w.alloc (.cells #[.bool false, .string ⟨#[]⟩, .int .i64 0] 25)).frozen? ⟨w.heap.size, i, none⟩ = false := fun i => World.frozen?_alloc_at _ _ _ _ rfl
  have s0 : 0 ≤ s := by omega
  go_enter Tryd.func8, Tryd.ntmps8
  go_wp2_with fail
  with_reducible refine (parts_32 (T.below K0) (U.below K0) x s ng x0 x1 hs hng).mono ?_
  rintro y w1 ⟨a, m, E, ok, rfl, hP, b1⟩
  clear hs hng
  have D := C.below b1
  have f0 := (b1.frozen (p := ⟨w.heap.size, 0, none⟩) (by simp)).trans (F0 0)
  have f1 := (b1.frozen (p := ⟨w.heap.size, 1, none⟩) (by simp)).trans (F0 1)
  have f2 := (b1.frozen (p := ⟨w.heap.size, 2, none⟩) (by simp)).trans (F0 2)
  have hsz1 : w.heap.size < w1.heap.size := D.lt
  have K1 := below_trans K0 b1
  clear K0 C F0 b1
  rcases Int.lt_or_le s 2139095040 with c | c
  · obtain ⟨p1, p2', p3, p4⟩ := hP.2 c
    subst p1 p2'
    rcases Int.lt_or_eq_of_le s0 with z | z
    · obtain ⟨modd, k, hk, hm, he⟩ := p4 z
      have mr := mst_rng (F := 8388608) (s := s) (by decide) s0
      have pk := p2_pos k
      have m0 : 0 < m := by
        rcases Int.lt_or_le 0 m with h | h
        · exact h
        · exfalso
          have hz : m * p2 k ≤ 0 := Int.mul_nonpos_of_nonpos_of_nonneg h (by omega)
          have : mst 8388608 s = 0 := by omega
          unfold mst at this
          split at this <;> omega
      have m1 : m < 18446744073709551616 := by
        have : m * 1 ≤ m * p2 k := Int.mul_le_mul_of_nonneg_left (by omega) (by omega)
        omega
      have er : -1074 ≤ E ∧ E ≤ 1100 := by
        have l := est_ge (F := 8388608) (L := -149) (s := s) (by decide)
        have u : est 8388608 (-149) s ≤ 1000 := by
          unfold est
          split
          · omega
          · have : s / 8388608 ≤ 2139095040 / 8388608 := Int.ediv_le_ediv (by decide) (by omega)
            omega
        omega
      have mz : (m == 0) = false := by simp; omega
      have HV := hide (And.intro hm he)
      have HI := hide (inDec_any (w := w1) m0 m1 modd er.1 er.2)
      clear hP p3 p4 hm he mr pk modd
      go_wp2_with fail
      refine HI.out.mono ?_
      clear HI
      rintro y w2 ⟨ds, pt, rfl, hI, b2⟩
      have HX := hide (exv_of (F := 8388608) (L := -149) (by decide) z (by decide) HV.out.1 HV.out.2 hI)
      have D2 := D.below b2
      have g0 := (b2.frozen (p := ⟨w.heap.size, 0, none⟩) hsz1).trans f0
      have g1 := (b2.frozen (p := ⟨w.heap.size, 1, none⟩) hsz1).trans f1
      have g2 := (b2.frozen (p := ⟨w.heap.size, 2, none⟩) hsz1).trans f2
      have c0 := D2.c0; have c1 := D2.c1; have c2 := D2.c2
      have K2 := below_trans K1 b2
      clear b2 D D2 f0 f1 f2 K1 hI HV
      go_wp2
      (try simp only [Exit.inBlock, Exit.then])
      refine bodyPost_ret (v := .tuple #[.agg #[.bool a, .string (strOfNums ds), .int .i64 pt], .bool true]) (by rw [results_cell_tmp rfl]; go_simp) rfl ?_
      exact ⟨((K2.setCell (p := ⟨w.heap.size, 0, none⟩) (Nat.le_refl _) _).setCell (p := ⟨w.heap.size, 1, none⟩) (Nat.le_refl _) _).setCell (p := ⟨w.heap.size, 2, none⟩) (Nat.le_refl _) _, .inr ⟨c, ds, pt, rfl, HX.out⟩⟩
    · obtain ⟨q1, q2⟩ := p3 z.symm
      subst q1 q2
      have hz : s = 0 := z.symm
      subst hz
      have c0 := D.c0; have c1 := D.c1; have c2 := D.c2
      clear hP p3 p4
      go_wp2
      (try simp only [Exit.inBlock, Exit.then])
      refine bodyPost_ret (v := .tuple #[.agg #[.bool a, .string ⟨#[]⟩, .int .i64 0], .bool true]) (by rw [results_cell_tmp rfl]; go_simp) rfl ?_
      exact ⟨((K1.setCell (p := ⟨w.heap.size, 0, none⟩) (Nat.le_refl _) _).setCell (p := ⟨w.heap.size, 1, none⟩) (Nat.le_refl _) _).setCell (p := ⟨w.heap.size, 2, none⟩) (Nat.le_refl _) _, .inr ⟨c, [], 0, rfl, exv_zero (by decide)⟩⟩
  · obtain ⟨p1, p2', p3, p4⟩ := hP.1 c
    subst p1 p2' p3 p4
    have c0 := D.c0; have c1 := D.c1; have c2 := D.c2
    clear hP
    go_wp2
    (try simp only [Exit.inBlock, Exit.then])
    refine bodyPost_ret (v := .tuple #[.agg #[.bool false, .string ⟨#[]⟩, .int .i64 0], .bool false]) (by rw [results_cell_tmp rfl]; go_simp) rfl ?_
    exact ⟨((K1.setCell (p := ⟨w.heap.size, 0, none⟩) (Nat.le_refl _) _).setCell (p := ⟨w.heap.size, 1, none⟩) (Nat.le_refl _) _).setCell (p := ⟨w.heap.size, 2, none⟩) (Nat.le_refl _) _, .inl ⟨c, rfl⟩⟩

set_option maxRecDepth 100000 in
set_option maxHeartbeats 8000000 in
theorem exact_d {w : World} (T : Lays w) (U : Brn w) {x s : Int} {ng : Bool} (x0 : 0 ≤ x) (x1 : x < 18446744073709551616) (hs : x % 9223372036854775808 = s) (hng : ng = decide (9223372036854775808 ≤ x)) :
    Calls Tryd.prog 9 #[.int .u64 x] w fun e w' => Below w.heap.size w w' ∧ ((9218868437227405312 ≤ s ∧ e = .returned (.tuple #[.agg #[.bool false, .string ⟨#[]⟩, .int .i64 0], .bool false])) ∨
      (s < 9218868437227405312 ∧ ∃ ds pt, e = .returned (.tuple #[.agg #[.bool ng, .string (strOfNums ds), .int .i64 pt], .bool true]) ∧ ExV 4503599627370496 (-1074) s ds pt)) := by
  have K0 : Below w.heap.size w (w.alloc (.cells #[.bool false, .string ⟨#[]⟩, .int .i64 0] 25)) := al_one _ _
  have C := cell3_new w (.bool false) (.string ⟨#[]⟩) (.int .i64 0) 25
  have F0 : ∀ i, (w.alloc (.cells #[.bool false, .string ⟨#[]⟩, .int .i64 0] 25)).frozen? ⟨w.heap.size, i, none⟩ = false := fun i => World.frozen?_alloc_at _ _ _ _ rfl
  have s0 : 0 ≤ s := by omega
  go_enter Tryd.func9, Tryd.ntmps9
  go_wp2_with fail
  with_reducible refine (parts_64 (T.below K0) (U.below K0) x s ng x0 x1 hs hng).mono ?_
  rintro y w1 ⟨a, m, E, ok, rfl, hP, b1⟩
  clear hs hng
  have D := C.below b1
  have f0 := (b1.frozen (p := ⟨w.heap.size, 0, none⟩) (by simp)).trans (F0 0)
  have f1 := (b1.frozen (p := ⟨w.heap.size, 1, none⟩) (by simp)).trans (F0 1)
  have f2 := (b1.frozen (p := ⟨w.heap.size, 2, none⟩) (by simp)).trans (F0 2)
  have hsz1 : w.heap.size < w1.heap.size := D.lt
  have K1 := below_trans K0 b1
  clear K0 C F0 b1
  rcases Int.lt_or_le s 9218868437227405312 with c | c
  · obtain ⟨p1, p2', p3, p4⟩ := hP.2 c
    subst p1 p2'
    rcases Int.lt_or_eq_of_le s0 with z | z
    · obtain ⟨modd, k, hk, hm, he⟩ := p4 z
      have mr := mst_rng (F := 4503599627370496) (s := s) (by decide) s0
      have pk := p2_pos k
      have m0 : 0 < m := by
        rcases Int.lt_or_le 0 m with h | h
        · exact h
        · exfalso
          have hz : m * p2 k ≤ 0 := Int.mul_nonpos_of_nonpos_of_nonneg h (by omega)
          have : mst 4503599627370496 s = 0 := by omega
          unfold mst at this
          split at this <;> omega
      have m1 : m < 18446744073709551616 := by
        have : m * 1 ≤ m * p2 k := Int.mul_le_mul_of_nonneg_left (by omega) (by omega)
        omega
      have er : -1074 ≤ E ∧ E ≤ 1100 := by
        have l := est_ge (F := 4503599627370496) (L := -1074) (s := s) (by decide)
        have u : est 4503599627370496 (-1074) s ≤ 1000 := by
          unfold est
          split
          · omega
          · have : s / 4503599627370496 ≤ 9218868437227405312 / 4503599627370496 := Int.ediv_le_ediv (by decide) (by omega)
            omega
        omega
      have mz : (m == 0) = false := by simp; omega
      have HV := hide (And.intro hm he)
      have HI := hide (inDec_any (w := w1) m0 m1 modd er.1 er.2)
      clear hP p3 p4 hm he mr pk modd
      go_wp2_with fail
      refine HI.out.mono ?_
      clear HI
      rintro y w2 ⟨ds, pt, rfl, hI, b2⟩
      have HX := hide (exv_of (F := 4503599627370496) (L := -1074) (by decide) z (by decide) HV.out.1 HV.out.2 hI)
      have D2 := D.below b2
      have g0 := (b2.frozen (p := ⟨w.heap.size, 0, none⟩) hsz1).trans f0
      have g1 := (b2.frozen (p := ⟨w.heap.size, 1, none⟩) hsz1).trans f1
      have g2 := (b2.frozen (p := ⟨w.heap.size, 2, none⟩) hsz1).trans f2
      have c0 := D2.c0; have c1 := D2.c1; have c2 := D2.c2
      have K2 := below_trans K1 b2
      clear b2 D D2 f0 f1 f2 K1 hI HV
      go_wp2
      (try simp only [Exit.inBlock, Exit.then])
      refine bodyPost_ret (v := .tuple #[.agg #[.bool a, .string (strOfNums ds), .int .i64 pt], .bool true]) (by rw [results_cell_tmp rfl]; go_simp) rfl ?_
      exact ⟨((K2.setCell (p := ⟨w.heap.size, 0, none⟩) (Nat.le_refl _) _).setCell (p := ⟨w.heap.size, 1, none⟩) (Nat.le_refl _) _).setCell (p := ⟨w.heap.size, 2, none⟩) (Nat.le_refl _) _, .inr ⟨c, ds, pt, rfl, HX.out⟩⟩
    · obtain ⟨q1, q2⟩ := p3 z.symm
      subst q1 q2
      have hz : s = 0 := z.symm
      subst hz
      have c0 := D.c0; have c1 := D.c1; have c2 := D.c2
      clear hP p3 p4
      go_wp2
      (try simp only [Exit.inBlock, Exit.then])
      refine bodyPost_ret (v := .tuple #[.agg #[.bool a, .string ⟨#[]⟩, .int .i64 0], .bool true]) (by rw [results_cell_tmp rfl]; go_simp) rfl ?_
      exact ⟨((K1.setCell (p := ⟨w.heap.size, 0, none⟩) (Nat.le_refl _) _).setCell (p := ⟨w.heap.size, 1, none⟩) (Nat.le_refl _) _).setCell (p := ⟨w.heap.size, 2, none⟩) (Nat.le_refl _) _, .inr ⟨c, [], 0, rfl, exv_zero (by decide)⟩⟩
  · obtain ⟨p1, p2', p3, p4⟩ := hP.1 c
    subst p1 p2' p3 p4
    have c0 := D.c0; have c1 := D.c1; have c2 := D.c2
    clear hP
    go_wp2
    (try simp only [Exit.inBlock, Exit.then])
    refine bodyPost_ret (v := .tuple #[.agg #[.bool false, .string ⟨#[]⟩, .int .i64 0], .bool false]) (by rw [results_cell_tmp rfl]; go_simp) rfl ?_
    exact ⟨((K1.setCell (p := ⟨w.heap.size, 0, none⟩) (Nat.le_refl _) _).setCell (p := ⟨w.heap.size, 1, none⟩) (Nat.le_refl _) _).setCell (p := ⟨w.heap.size, 2, none⟩) (Nat.le_refl _) _, .inl ⟨c, rfl⟩⟩

set_option maxRecDepth 100000 in
set_option maxHeartbeats 8000000 in
theorem exact_o {w : World} (T : Lays w) (U : Brn w) {x s : Int} {ng : Bool} (x0 : 0 ≤ x) (x1 : x < 65536) (hs : x % 32768 = s) (hng : ng = decide (32768 ≤ x)) :
    Calls Tryd.prog 10 #[.int .u16 x] w fun e w' => Below w.heap.size w w' ∧ ((31744 ≤ s ∧ e = .returned (.tuple #[.agg #[.bool false, .string ⟨#[]⟩, .int .i64 0], .bool false])) ∨
      (s < 31744 ∧ ∃ ds pt, e = .returned (.tuple #[.agg #[.bool ng, .string (strOfNums ds), .int .i64 pt], .bool true]) ∧ ExV 1024 (-24) s ds pt)) := by
  have K0 : Below w.heap.size w (w.alloc (.cells #[.bool false, .string ⟨#[]⟩, .int .i64 0] 25)) := al_one _ _
  have C := cell3_new w (.bool false) (.string ⟨#[]⟩) (.int .i64 0) 25
  have F0 : ∀ i, (w.alloc (.cells #[.bool false, .string ⟨#[]⟩, .int .i64 0] 25)).frozen? ⟨w.heap.size, i, none⟩ = false := fun i => World.frozen?_alloc_at _ _ _ _ rfl
  have s0 : 0 ≤ s := by omega
  go_enter Tryd.func10, Tryd.ntmps10
  go_wp2_with fail
  with_reducible refine (parts_x (T.below K0) (U.below K0) x s ng x0 x1 hs hng).mono ?_
  rintro y w1 ⟨a, m, E, ok, rfl, hP, b1⟩
  clear hs hng
  have D := C.below b1
  have f0 := (b1.frozen (p := ⟨w.heap.size, 0, none⟩) (by simp)).trans (F0 0)
  have f1 := (b1.frozen (p := ⟨w.heap.size, 1, none⟩) (by simp)).trans (F0 1)
  have f2 := (b1.frozen (p := ⟨w.heap.size, 2, none⟩) (by simp)).trans (F0 2)
  have hsz1 : w.heap.size < w1.heap.size := D.lt
  have K1 := below_trans K0 b1
  clear K0 C F0 b1
  rcases Int.lt_or_le s 31744 with c | c
  · obtain ⟨p1, p2', p3, p4⟩ := hP.2 c
    subst p1 p2'
    rcases Int.lt_or_eq_of_le s0 with z | z
    · obtain ⟨modd, k, hk, hm, he⟩ := p4 z
      have mr := mst_rng (F := 1024) (s := s) (by decide) s0
      have pk := p2_pos k
      have m0 : 0 < m := by
        rcases Int.lt_or_le 0 m with h | h
        · exact h
        · exfalso
          have hz : m * p2 k ≤ 0 := Int.mul_nonpos_of_nonpos_of_nonneg h (by omega)
          have : mst 1024 s = 0 := by omega
          unfold mst at this
          split at this <;> omega
      have m1 : m < 18446744073709551616 := by
        have : m * 1 ≤ m * p2 k := Int.mul_le_mul_of_nonneg_left (by omega) (by omega)
        omega
      have er : -1074 ≤ E ∧ E ≤ 1100 := by
        have l := est_ge (F := 1024) (L := -24) (s := s) (by decide)
        have u : est 1024 (-24) s ≤ 1000 := by
          unfold est
          split
          · omega
          · have : s / 1024 ≤ 31744 / 1024 := Int.ediv_le_ediv (by decide) (by omega)
            omega
        omega
      have mz : (m == 0) = false := by simp; omega
      have HV := hide (And.intro hm he)
      have HI := hide (inDec_any (w := w1) m0 m1 modd er.1 er.2)
      clear hP p3 p4 hm he mr pk modd
      go_wp2_with fail
      refine HI.out.mono ?_
      clear HI
      rintro y w2 ⟨ds, pt, rfl, hI, b2⟩
      have HX := hide (exv_of (F := 1024) (L := -24) (by decide) z (by decide) HV.out.1 HV.out.2 hI)
      have D2 := D.below b2
      have g0 := (b2.frozen (p := ⟨w.heap.size, 0, none⟩) hsz1).trans f0
      have g1 := (b2.frozen (p := ⟨w.heap.size, 1, none⟩) hsz1).trans f1
      have g2 := (b2.frozen (p := ⟨w.heap.size, 2, none⟩) hsz1).trans f2
      have c0 := D2.c0; have c1 := D2.c1; have c2 := D2.c2
      have K2 := below_trans K1 b2
      clear b2 D D2 f0 f1 f2 K1 hI HV
      go_wp2
      (try simp only [Exit.inBlock, Exit.then])
      refine bodyPost_ret (v := .tuple #[.agg #[.bool a, .string (strOfNums ds), .int .i64 pt], .bool true]) (by rw [results_cell_tmp rfl]; go_simp) rfl ?_
      exact ⟨((K2.setCell (p := ⟨w.heap.size, 0, none⟩) (Nat.le_refl _) _).setCell (p := ⟨w.heap.size, 1, none⟩) (Nat.le_refl _) _).setCell (p := ⟨w.heap.size, 2, none⟩) (Nat.le_refl _) _, .inr ⟨c, ds, pt, rfl, HX.out⟩⟩
    · obtain ⟨q1, q2⟩ := p3 z.symm
      subst q1 q2
      have hz : s = 0 := z.symm
      subst hz
      have c0 := D.c0; have c1 := D.c1; have c2 := D.c2
      clear hP p3 p4
      go_wp2
      (try simp only [Exit.inBlock, Exit.then])
      refine bodyPost_ret (v := .tuple #[.agg #[.bool a, .string ⟨#[]⟩, .int .i64 0], .bool true]) (by rw [results_cell_tmp rfl]; go_simp) rfl ?_
      exact ⟨((K1.setCell (p := ⟨w.heap.size, 0, none⟩) (Nat.le_refl _) _).setCell (p := ⟨w.heap.size, 1, none⟩) (Nat.le_refl _) _).setCell (p := ⟨w.heap.size, 2, none⟩) (Nat.le_refl _) _, .inr ⟨c, [], 0, rfl, exv_zero (by decide)⟩⟩
  · obtain ⟨p1, p2', p3, p4⟩ := hP.1 c
    subst p1 p2' p3 p4
    have c0 := D.c0; have c1 := D.c1; have c2 := D.c2
    clear hP
    go_wp2
    (try simp only [Exit.inBlock, Exit.then])
    refine bodyPost_ret (v := .tuple #[.agg #[.bool false, .string ⟨#[]⟩, .int .i64 0], .bool false]) (by rw [results_cell_tmp rfl]; go_simp) rfl ?_
    exact ⟨((K1.setCell (p := ⟨w.heap.size, 0, none⟩) (Nat.le_refl _) _).setCell (p := ⟨w.heap.size, 1, none⟩) (Nat.le_refl _) _).setCell (p := ⟨w.heap.size, 2, none⟩) (Nat.le_refl _) _, .inl ⟨c, rfl⟩⟩

/-- what Exact answers of a pattern -/
def ExIs (F L I S x : Int) (v : Value) (ok : Bool) : Prop :=
  (I ≤ x % S ∧ v = .agg #[.bool false, .string ⟨#[]⟩, .int .i64 0] ∧ ok = false) ∨
  (x % S < I ∧ ok = true ∧ ∃ ds pt, v = .agg #[.bool (decide (S ≤ x)), .string (strOfNums ds), .int .i64 pt] ∧ ExV F L (x % S) ds pt)

set_option maxHeartbeats 2000000 in
theorem lfit_h {w : World} {v x : Int} (v0 : 0 ≤ v) (v1 : v < 256) (hv : v % 4 = 0) (x0 : 0 ≤ x) (x1 : x < 18446744073709551616) :
    Calls Tryd.prog 4 #[.int .u8 v, .int .u64 x] w fun e w' => e = .returned (.int .u64 (x % 65536)) ∧ w' = w := by
  have m0 := Int.emod_nonneg x (b := 65536) (by omega)
  have m1 := Int.emod_lt_of_pos x (b := 65536) (by omega)
  have wx : IntKind.u16.wrap x = x % 65536 := by rw [IntKind.wrap_u16]
  have wy : x % 18446744073709551616 = x := Int.emod_eq_of_lt x0 x1
  go_enter Tryd.func4, Tryd.ntmps4
  go_wp2
  go_ret
  exact ⟨ret_int (by omega), rfl⟩

set_option maxRecDepth 100000 in
set_option maxHeartbeats 8000000 in
theorem lexact_h {w : World} (T : Lays w) (U : Brn w) {v x : Int} (v0 : 0 ≤ v) (v1 : v < 256) (hv : v % 4 = 0) (x0 : 0 ≤ x) (x1 : x < 65536) :
    Calls Tryd.prog 5 #[.int .u8 v, .int .u64 x] w fun e w' => Below w.heap.size w w' ∧ ∃ y ok, e = .returned (.tuple #[y, .bool ok]) ∧ ExIs 1024 (-24) 31744 32768 x y ok := by
  have K0 : Below w.heap.size w (w.alloc (.cells #[.bool false, .string ⟨#[]⟩, .int .i64 0] 25)) := al_one _ _
  have C := cell3_new w (.bool false) (.string ⟨#[]⟩) (.int .i64 0) 25
  have F0 : ∀ i, (w.alloc (.cells #[.bool false, .string ⟨#[]⟩, .int .i64 0] 25)).frozen? ⟨w.heap.size, i, none⟩ = false := fun i => World.frozen?_alloc_at _ _ _ _ rfl
  have H := hide (exact_h (T.below K0) (U.below K0) x0 x1 rfl rfl)
  go_enter Tryd.func5, Tryd.ntmps5
  go_wp2_with fail
  refine H.out.mono ?_
  clear H
  rintro y w1 ⟨b1, hcase⟩
  have D := C.below b1
  have f0 := (b1.frozen (p := ⟨w.heap.size, 0, none⟩) (by simp)).trans (F0 0)
  have f1 := (b1.frozen (p := ⟨w.heap.size, 1, none⟩) (by simp)).trans (F0 1)
  have f2 := (b1.frozen (p := ⟨w.heap.size, 2, none⟩) (by simp)).trans (F0 2)
  have c0 := D.c0; have c1 := D.c1; have c2 := D.c2
  have K1 := below_trans K0 b1
  clear K0 C F0 b1 D
  rcases hcase with ⟨h1, rfl⟩ | ⟨h1, ds, pt, rfl, hX⟩
  · go_wp2
    (try simp only [Exit.inBlock, Exit.then])
    refine bodyPost_ret (v := .tuple #[.agg #[.bool false, .string ⟨#[]⟩, .int .i64 0], .bool false]) (by rw [results_cell_tmp rfl]; go_simp) rfl ?_
    exact ⟨((K1.setCell (p := ⟨w.heap.size, 0, none⟩) (Nat.le_refl _) _).setCell (p := ⟨w.heap.size, 1, none⟩) (Nat.le_refl _) _).setCell (p := ⟨w.heap.size, 2, none⟩) (Nat.le_refl _) _, _, _, rfl, .inl ⟨h1, rfl, rfl⟩⟩
  · have HX := hide hX
    obtain ⟨ng, hng⟩ : ∃ b, decide (32768 ≤ x) = b := ⟨_, rfl⟩
    rw [hng]
    have HN := hide hng
    clear hX hng
    go_wp2
    (try simp only [Exit.inBlock, Exit.then])
    refine bodyPost_ret (v := .tuple #[.agg #[.bool ng, .string (strOfNums ds), .int .i64 pt], .bool true]) (by rw [results_cell_tmp rfl]; go_simp) rfl ?_
    exact ⟨((K1.setCell (p := ⟨w.heap.size, 0, none⟩) (Nat.le_refl _) _).setCell (p := ⟨w.heap.size, 1, none⟩) (Nat.le_refl _) _).setCell (p := ⟨w.heap.size, 2, none⟩) (Nat.le_refl _) _, _, _, rfl, .inr ⟨h1, rfl, ds, pt, by rw [HN.out], HX.out⟩⟩

set_option maxHeartbeats 2000000 in
theorem lfit_s {w : World} {v x : Int} (v0 : 0 ≤ v) (v1 : v < 256) (hv : v % 4 = 1) (x0 : 0 ≤ x) (x1 : x < 18446744073709551616) :
    Calls Tryd.prog 4 #[.int .u8 v, .int .u64 x] w fun e w' => e = .returned (.int .u64 (x % 4294967296)) ∧ w' = w := by
  have m0 := Int.emod_nonneg x (b := 4294967296) (by omega)
  have m1 := Int.emod_lt_of_pos x (b := 4294967296) (by omega)
  have wx : IntKind.u32.wrap x = x % 4294967296 := by rw [IntKind.wrap_u32]
  have wy : x % 18446744073709551616 = x := Int.emod_eq_of_lt x0 x1
  go_enter Tryd.func4, Tryd.ntmps4
  go_wp2
  go_ret
  exact ⟨ret_int (by omega), rfl⟩

set_option maxRecDepth 100000 in
set_option maxHeartbeats 8000000 in
theorem lexact_s {w : World} (T : Lays w) (U : Brn w) {v x : Int} (v0 : 0 ≤ v) (v1 : v < 256) (hv : v % 4 = 1) (x0 : 0 ≤ x) (x1 : x < 4294967296) :
    Calls Tryd.prog 5 #[.int .u8 v, .int .u64 x] w fun e w' => Below w.heap.size w w' ∧ ∃ y ok, e = .returned (.tuple #[y, .bool ok]) ∧ ExIs 8388608 (-149) 2139095040 2147483648 x y ok := by
  have K0 : Below w.heap.size w (w.alloc (.cells #[.bool false, .string ⟨#[]⟩, .int .i64 0] 25)) := al_one _ _
  have C := cell3_new w (.bool false) (.string ⟨#[]⟩) (.int .i64 0) 25
  have F0 : ∀ i, (w.alloc (.cells #[.bool false, .string ⟨#[]⟩, .int .i64 0] 25)).frozen? ⟨w.heap.size, i, none⟩ = false := fun i => World.frozen?_alloc_at _ _ _ _ rfl
  have H := hide (exact_s (T.below K0) (U.below K0) x0 x1 rfl rfl)
  go_enter Tryd.func5, Tryd.ntmps5
  go_wp2_with fail
  refine H.out.mono ?_
  clear H
  rintro y w1 ⟨b1, hcase⟩
  have D := C.below b1
  have f0 := (b1.frozen (p := ⟨w.heap.size, 0, none⟩) (by simp)).trans (F0 0)
  have f1 := (b1.frozen (p := ⟨w.heap.size, 1, none⟩) (by simp)).trans (F0 1)
  have f2 := (b1.frozen (p := ⟨w.heap.size, 2, none⟩) (by simp)).trans (F0 2)
  have c0 := D.c0; have c1 := D.c1; have c2 := D.c2
  have K1 := below_trans K0 b1
  clear K0 C F0 b1 D
  rcases hcase with ⟨h1, rfl⟩ | ⟨h1, ds, pt, rfl, hX⟩
  · go_wp2
    (try simp only [Exit.inBlock, Exit.then])
    refine bodyPost_ret (v := .tuple #[.agg #[.bool false, .string ⟨#[]⟩, .int .i64 0], .bool false]) (by rw [results_cell_tmp rfl]; go_simp) rfl ?_
    exact ⟨((K1.setCell (p := ⟨w.heap.size, 0, none⟩) (Nat.le_refl _) _).setCell (p := ⟨w.heap.size, 1, none⟩) (Nat.le_refl _) _).setCell (p := ⟨w.heap.size, 2, none⟩) (Nat.le_refl _) _, _, _, rfl, .inl ⟨h1, rfl, rfl⟩⟩
  · have HX := hide hX
    obtain ⟨ng, hng⟩ : ∃ b, decide (2147483648 ≤ x) = b := ⟨_, rfl⟩
    rw [hng]
    have HN := hide hng
    clear hX hng
    go_wp2
    (try simp only [Exit.inBlock, Exit.then])
    refine bodyPost_ret (v := .tuple #[.agg #[.bool ng, .string (strOfNums ds), .int .i64 pt], .bool true]) (by rw [results_cell_tmp rfl]; go_simp) rfl ?_
    exact ⟨((K1.setCell (p := ⟨w.heap.size, 0, none⟩) (Nat.le_refl _) _).setCell (p := ⟨w.heap.size, 1, none⟩) (Nat.le_refl _) _).setCell (p := ⟨w.heap.size, 2, none⟩) (Nat.le_refl _) _, _, _, rfl, .inr ⟨h1, rfl, ds, pt, by rw [HN.out], HX.out⟩⟩

set_option maxHeartbeats 2000000 in
theorem lfit_d {w : World} {v x : Int} (v0 : 0 ≤ v) (v1 : v < 256) (hv : v % 4 = 2) (x0 : 0 ≤ x) (x1 : x < 18446744073709551616) :
    Calls Tryd.prog 4 #[.int .u8 v, .int .u64 x] w fun e w' => e = .returned (.int .u64 (x % 18446744073709551616)) ∧ w' = w := by
  have m0 := Int.emod_nonneg x (b := 18446744073709551616) (by omega)
  have m1 := Int.emod_lt_of_pos x (b := 18446744073709551616) (by omega)
  have wx : IntKind.u64.wrap x = x % 18446744073709551616 := by rw [IntKind.wrap_u64]
  have wy : x % 18446744073709551616 = x := Int.emod_eq_of_lt x0 x1
  go_enter Tryd.func4, Tryd.ntmps4
  go_wp2
  go_ret
  exact ⟨ret_int (by omega), rfl⟩

set_option maxRecDepth 100000 in
set_option maxHeartbeats 8000000 in
theorem lexact_d {w : World} (T : Lays w) (U : Brn w) {v x : Int} (v0 : 0 ≤ v) (v1 : v < 256) (hv : v % 4 = 2) (x0 : 0 ≤ x) (x1 : x < 18446744073709551616) :
    Calls Tryd.prog 5 #[.int .u8 v, .int .u64 x] w fun e w' => Below w.heap.size w w' ∧ ∃ y ok, e = .returned (.tuple #[y, .bool ok]) ∧ ExIs 4503599627370496 (-1074) 9218868437227405312 9223372036854775808 x y ok := by
  have K0 : Below w.heap.size w (w.alloc (.cells #[.bool false, .string ⟨#[]⟩, .int .i64 0] 25)) := al_one _ _
  have C := cell3_new w (.bool false) (.string ⟨#[]⟩) (.int .i64 0) 25
  have F0 : ∀ i, (w.alloc (.cells #[.bool false, .string ⟨#[]⟩, .int .i64 0] 25)).frozen? ⟨w.heap.size, i, none⟩ = false := fun i => World.frozen?_alloc_at _ _ _ _ rfl
  have H := hide (exact_d (T.below K0) (U.below K0) x0 x1 rfl rfl)
  go_enter Tryd.func5, Tryd.ntmps5
  go_wp2_with fail
  refine H.out.mono ?_
  clear H
  rintro y w1 ⟨b1, hcase⟩
  have D := C.below b1
  have f0 := (b1.frozen (p := ⟨w.heap.size, 0, none⟩) (by simp)).trans (F0 0)
  have f1 := (b1.frozen (p := ⟨w.heap.size, 1, none⟩) (by simp)).trans (F0 1)
  have f2 := (b1.frozen (p := ⟨w.heap.size, 2, none⟩) (by simp)).trans (F0 2)
  have c0 := D.c0; have c1 := D.c1; have c2 := D.c2
  have K1 := below_trans K0 b1
  clear K0 C F0 b1 D
  rcases hcase with ⟨h1, rfl⟩ | ⟨h1, ds, pt, rfl, hX⟩
  · go_wp2
    (try simp only [Exit.inBlock, Exit.then])
    refine bodyPost_ret (v := .tuple #[.agg #[.bool false, .string ⟨#[]⟩, .int .i64 0], .bool false]) (by rw [results_cell_tmp rfl]; go_simp) rfl ?_
    exact ⟨((K1.setCell (p := ⟨w.heap.size, 0, none⟩) (Nat.le_refl _) _).setCell (p := ⟨w.heap.size, 1, none⟩) (Nat.le_refl _) _).setCell (p := ⟨w.heap.size, 2, none⟩) (Nat.le_refl _) _, _, _, rfl, .inl ⟨h1, rfl, rfl⟩⟩
  · have HX := hide hX
    obtain ⟨ng, hng⟩ : ∃ b, decide (9223372036854775808 ≤ x) = b := ⟨_, rfl⟩
    rw [hng]
    have HN := hide hng
    clear hX hng
    go_wp2
    (try simp only [Exit.inBlock, Exit.then])
    refine bodyPost_ret (v := .tuple #[.agg #[.bool ng, .string (strOfNums ds), .int .i64 pt], .bool true]) (by rw [results_cell_tmp rfl]; go_simp) rfl ?_
    exact ⟨((K1.setCell (p := ⟨w.heap.size, 0, none⟩) (Nat.le_refl _) _).setCell (p := ⟨w.heap.size, 1, none⟩) (Nat.le_refl _) _).setCell (p := ⟨w.heap.size, 2, none⟩) (Nat.le_refl _) _, _, _, rfl, .inr ⟨h1, rfl, ds, pt, by rw [HN.out], HX.out⟩⟩

set_option maxHeartbeats 2000000 in
theorem lfit_o {w : World} {v x : Int} (v0 : 0 ≤ v) (v1 : v < 256) (hv : v % 4 = 3) (x0 : 0 ≤ x) (x1 : x < 18446744073709551616) :
    Calls Tryd.prog 4 #[.int .u8 v, .int .u64 x] w fun e w' => e = .returned (.int .u64 (x % 65536)) ∧ w' = w := by
  have m0 := Int.emod_nonneg x (b := 65536) (by omega)
  have m1 := Int.emod_lt_of_pos x (b := 65536) (by omega)
  have wx : IntKind.u16.wrap x = x % 65536 := by rw [IntKind.wrap_u16]
  have wy : x % 18446744073709551616 = x := Int.emod_eq_of_lt x0 x1
  go_enter Tryd.func4, Tryd.ntmps4
  go_wp2
  go_ret
  exact ⟨ret_int (by omega), rfl⟩

set_option maxRecDepth 100000 in
set_option maxHeartbeats 8000000 in
theorem lexact_o {w : World} (T : Lays w) (U : Brn w) {v x : Int} (v0 : 0 ≤ v) (v1 : v < 256) (hv : v % 4 = 3) (x0 : 0 ≤ x) (x1 : x < 65536) :
    Calls Tryd.prog 5 #[.int .u8 v, .int .u64 x] w fun e w' => Below w.heap.size w w' ∧ ∃ y ok, e = .returned (.tuple #[y, .bool ok]) ∧ ExIs 1024 (-24) 31744 32768 x y ok := by
  have K0 : Below w.heap.size w (w.alloc (.cells #[.bool false, .string ⟨#[]⟩, .int .i64 0] 25)) := al_one _ _
  have C := cell3_new w (.bool false) (.string ⟨#[]⟩) (.int .i64 0) 25
  have F0 : ∀ i, (w.alloc (.cells #[.bool false, .string ⟨#[]⟩, .int .i64 0] 25)).frozen? ⟨w.heap.size, i, none⟩ = false := fun i => World.frozen?_alloc_at _ _ _ _ rfl
  have H := hide (exact_o (T.below K0) (U.below K0) x0 x1 rfl rfl)
  go_enter Tryd.func5, Tryd.ntmps5
  go_wp2_with fail
  refine H.out.mono ?_
  clear H
  rintro y w1 ⟨b1, hcase⟩
  have D := C.below b1
  have f0 := (b1.frozen (p := ⟨w.heap.size, 0, none⟩) (by simp)).trans (F0 0)
  have f1 := (b1.frozen (p := ⟨w.heap.size, 1, none⟩) (by simp)).trans (F0 1)
  have f2 := (b1.frozen (p := ⟨w.heap.size, 2, none⟩) (by simp)).trans (F0 2)
  have c0 := D.c0; have c1 := D.c1; have c2 := D.c2
  have K1 := below_trans K0 b1
  clear K0 C F0 b1 D
  rcases hcase with ⟨h1, rfl⟩ | ⟨h1, ds, pt, rfl, hX⟩
  · go_wp2
    (try simp only [Exit.inBlock, Exit.then])
    refine bodyPost_ret (v := .tuple #[.agg #[.bool false, .string ⟨#[]⟩, .int .i64 0], .bool false]) (by rw [results_cell_tmp rfl]; go_simp) rfl ?_
    exact ⟨((K1.setCell (p := ⟨w.heap.size, 0, none⟩) (Nat.le_refl _) _).setCell (p := ⟨w.heap.size, 1, none⟩) (Nat.le_refl _) _).setCell (p := ⟨w.heap.size, 2, none⟩) (Nat.le_refl _) _, _, _, rfl, .inl ⟨h1, rfl, rfl⟩⟩
  · have HX := hide hX
    obtain ⟨ng, hng⟩ : ∃ b, decide (32768 ≤ x) = b := ⟨_, rfl⟩
    rw [hng]
    have HN := hide hng
    clear hX hng
    go_wp2
    (try simp only [Exit.inBlock, Exit.then])
    refine bodyPost_ret (v := .tuple #[.agg #[.bool ng, .string (strOfNums ds), .int .i64 pt], .bool true]) (by rw [results_cell_tmp rfl]; go_simp) rfl ?_
    exact ⟨((K1.setCell (p := ⟨w.heap.size, 0, none⟩) (Nat.le_refl _) _).setCell (p := ⟨w.heap.size, 1, none⟩) (Nat.le_refl _) _).setCell (p := ⟨w.heap.size, 2, none⟩) (Nat.le_refl _) _, _, _, rfl, .inr ⟨h1, rfl, ds, pt, by rw [HN.out], HX.out⟩⟩

theorem lfit_any {w : World} {v F L I S n x : Int} (h : Wd v F L I S n) (x0 : 0 ≤ x) (x1 : x < 18446744073709551616) :
    Calls Tryd.prog 4 #[.int .u8 v, .int .u64 x] w fun e w' => e = .returned (.int .u64 (x % (2 * S))) ∧ w' = w := by
  obtain ⟨v0, v1, h⟩ := h
  rcases h with ⟨h, rfl, rfl, rfl, rfl, rfl⟩ | ⟨h, rfl, rfl, rfl, rfl, rfl⟩ | ⟨h, rfl, rfl, rfl, rfl, rfl⟩ | ⟨h, rfl, rfl, rfl, rfl, rfl⟩
  · exact lfit_h v0 v1 h x0 x1
  · exact lfit_s v0 v1 h x0 x1
  · exact lfit_d v0 v1 h x0 x1
  · exact lfit_o v0 v1 h x0 x1

theorem lexact_any {w : World} (T : Lays w) (U : Brn w) {v F L I S n x : Int} (h : Wd v F L I S n) (x0 : 0 ≤ x) (x1 : x < 2 * S) :
    Calls Tryd.prog 5 #[.int .u8 v, .int .u64 x] w fun e w' => Below w.heap.size w w' ∧ ∃ y ok, e = .returned (.tuple #[y, .bool ok]) ∧ ExIs F L I S x y ok := by
  obtain ⟨v0, v1, h⟩ := h
  rcases h with ⟨h, rfl, rfl, rfl, rfl, rfl⟩ | ⟨h, rfl, rfl, rfl, rfl, rfl⟩ | ⟨h, rfl, rfl, rfl, rfl, rfl⟩ | ⟨h, rfl, rfl, rfl, rfl, rfl⟩
  · exact lexact_h T U v0 v1 h x0 (by omega)
  · exact lexact_s T U v0 v1 h x0 (by omega)
  · exact lexact_d T U v0 v1 h x0 (by omega)
  · exact lexact_o T U v0 v1 h x0 (by omega)

theorem part_bounds {F L I S s : Int} {ng a ok : Bool} {m E : Int} (hF : 0 < F) (hS : 2 * F ≤ S) (hL : -1100 ≤ L) (s0 : 0 ≤ s) (s1 : s < S) (hq : est F L s ≤ 2100) (hS2 : S ≤ 9223372036854775808) (h : PartIs F L I s ng a m E ok) : 0 ≤ m ∧ m < 9223372036854775808 ∧ -1100 ≤ E ∧ E ≤ 2200 := by
  obtain ⟨h1, h2⟩ := h
  rcases Int.lt_or_le s I with c | c
  · obtain ⟨_, _, p, q⟩ := h2 c
    rcases Int.lt_or_eq_of_le s0 with g | g
    · obtain ⟨o, n, n64, hm, hE⟩ := q g
      obtain ⟨m0, m1⟩ := mst_range (F := F) (s := s) (S := S) hF g hS s1
      have hp := p2_pos n
      have e0 := est_ge (F := F) (L := L) (s := s) hF
      have mp : 0 < m := by
        rcases Int.lt_or_le 0 m with k | k
        · exact k
        · have : m * p2 n ≤ 0 := Int.mul_nonpos_of_nonpos_of_nonneg k (by omega)
          omega
      have : m * 1 ≤ m * p2 n := Int.mul_le_mul_of_nonneg_left (by omega) (by omega)
      exact ⟨by omega, by omega, by omega, by omega⟩
    · obtain ⟨rfl, rfl⟩ := p g.symm
      exact ⟨by decide, by decide, by decide, by decide⟩
  · obtain ⟨_, rfl, rfl, _⟩ := h1 c
    exact ⟨by decide, by decide, by decide, by decide⟩

/-- a spelling of a pattern's number -/
def ExW (F L s : Int) (ds : List Int) (pt : Int) : Prop := Nm ds ∧ (s = 0 → ds = [] ∧ pt = 0) ∧ (0 < s → 0 < ds.length) ∧ dg ds * tn (pt - ds.length).toNat * p2 (-L).toNat = um F L L s * tn (-(pt - ds.length)).toNat
/-- one number has one spelling -/
theorem exv_one {F L F' L' s s' pt pt' : Int} {ds ds' : List Int} (hF : 0 < F) (hL : L' ≤ L) (hL0 : L ≤ 0) (s0 : 0 ≤ s) (s0' : 0 ≤ s') (hz : s = 0 ↔ s' = 0) (hu : um F' L' L' s' = um F L L' s) (h : ExV F L s ds pt) (h' : ExW F' L' s' ds' pt') : ds' = ds ∧ pt' = pt := by
  obtain ⟨n1, -, -, -, z1, p1, e1⟩ := h
  obtain ⟨n2, z2, p2', e2⟩ := h'
  rcases Int.lt_or_eq_of_le s0 with c | c
  rotate_left
  · obtain ⟨rfl, rfl⟩ := z1 c.symm
    obtain ⟨rfl, rfl⟩ := z2 (hz.1 c.symm)
    exact ⟨rfl, rfl⟩
  have d1 := p1 c
  have d2 := p2' (by rcases Int.lt_or_eq_of_le s0' with k | k; exact k; exact absurd (hz.2 k.symm) (by omega))
  rw [um_lift hF hL] at hu
  generalize hq : pt - (ds.length : Int) = q at *
  generalize hq' : pt' - (ds'.length : Int) = q' at *
  have P := p2_pos (-L).toNat
  have Q := p2_pos (L - L').toNat
  have PQ : p2 (-L').toNat = p2 (-L).toNat * p2 (L - L').toNat := by
    rw [← p2_add]; congr 1; omega
  have key : dg ds * tn (q.toNat + (-q').toNat) = dg ds' * tn (q'.toNat + (-q).toNat) := by
    have PP := Int.mul_pos P Q
    refine Int.eq_of_mul_eq_mul_right (a := p2 (-L).toNat * p2 (L - L').toNat) (by omega) ?_
    have a1 : dg ds * tn (q.toNat + (-q').toNat) * (p2 (-L).toNat * p2 (L - L').toNat) = um F L L s * p2 (L - L').toNat * (tn (-q).toNat * tn (-q').toNat) := by
      have k : um F L L s * p2 (L - L').toNat * (tn (-q).toNat * tn (-q').toNat) = (um F L L s * tn (-q).toNat) * (p2 (L - L').toNat * tn (-q').toNat) := by ac_rfl
      rw [k, ← e1, tn_add]; ac_rfl
    have a2 : dg ds' * tn (q'.toNat + (-q).toNat) * (p2 (-L).toNat * p2 (L - L').toNat) = um F' L' L' s' * (tn (-q).toNat * tn (-q').toNat) := by
      have k : um F' L' L' s' * (tn (-q).toNat * tn (-q').toNat) = (um F' L' L' s' * tn (-q').toNat) * tn (-q).toNat := by ac_rfl
      rw [k, ← e2, PQ, tn_add]; ac_rfl
    rw [a1, a2, hu]
  have dz : dcmp (dg ds) q (dg ds') q' = 0 := by
    unfold dcmp
    rw [key]
    unfold sgn
    simp
  have pl := dcmp_places (p := pt) (q := pt') n1 n2 d1 d2
  rw [hq, hq', dz] at pl
  by_cases k1 : pt < pt'
  · rw [if_pos k1] at pl; omega
  rw [if_neg k1] at pl
  by_cases k2 : pt' < pt
  · rw [if_pos k2] at pl; omega
  rw [if_neg k2] at pl
  have fe : dg ds * tn ds'.length = dg ds' * tn ds.length := by
    unfold sgn at pl
    revert pl
    repeat' split
    all_goals intro pl
    all_goals omega
  exact ⟨(frac_eq ds ds' n1.1 n2.1 n1.2.2 n2.2.2 fe).symm, by omega⟩

end Go.Proofs.YtigehipclkoecaaDoor
