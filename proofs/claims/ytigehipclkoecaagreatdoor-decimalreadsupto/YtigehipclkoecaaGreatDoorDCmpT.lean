/- decimal.Cmp, whole -/
import Derived.Test.YtigehipclkoecaaGreatDoorDRead
import Derived.Test.YtigehipclkoecaaGreatDoorCmp
import Derived.Laws.Cover1
namespace Go.Proofs.YtigehipclkoecaaGreatDoor
open Go.RowKit
set_option linter.unusedVariables false

def d8 (xs : List Int) : List UInt8 := xs.map fun n => UInt8.ofNat n.toNat
theorem d8_lt {a b : Int} (ha : 48 ≤ a ∧ a ≤ 57) (hb : 48 ≤ b ∧ b ≤ 57) : (UInt8.ofNat a.toNat < UInt8.ofNat b.toNat ↔ a < b) ∧ (UInt8.ofNat a.toNat = UInt8.ofNat b.toNat ↔ a = b) := by
  have e : ∀ {x : Int}, 48 ≤ x ∧ x ≤ 57 → (UInt8.ofNat x.toNat).toNat = x.toNat := fun {x} h => by
    rw [UInt8.toNat_ofNat']; omega
  constructor
  · rw [UInt8.lt_iff_toNat_lt, e ha, e hb]; omega
  · rw [← UInt8.toNat_inj, e ha, e hb]; omega
theorem less_dg : ∀ (xs ys : List Int), Dg xs → Dg ys → dg xs * tn ys.length < dg ys * tn xs.length →
    Op.bytesLess (d8 xs) (d8 ys) = true ∧ Op.bytesLess (d8 ys) (d8 xs) = false
  | xs, [], hx, hy, h => by
    exfalso
    have := (dg_range hx).1
    simp [dg, tn_zero] at h
    omega
  | [], b :: y, hx, hy, h => by simp [d8, Op.bytesLess]
  | a :: x, b :: y, hx, hy, h => by
    have ha := hx a List.mem_cons_self
    have hb := hy b List.mem_cons_self
    have hx' : Dg x := fun z hz => hx z (List.mem_cons_of_mem a hz)
    have hy' : Dg y := fun z hz => hy z (List.mem_cons_of_mem b hz)
    obtain ⟨l1, l2⟩ := d8_lt ha hb
    obtain ⟨m1, m2⟩ := d8_lt hb ha
    obtain ⟨rx0, rx1⟩ := dg_range hx'
    obtain ⟨ry0, ry1⟩ := dg_range hy'
    have key : a ≤ b ∧ (a = b → dg x * tn y.length < dg y * tn x.length) := by
      rw [dg, dg, List.length_cons, List.length_cons, tn_succ, tn_succ, Int.mul_comm 10, Int.mul_comm 10] at h
      have px := tn_pos x.length
      have py := tn_pos y.length
      generalize tn x.length = P at *
      generalize tn y.length = R at *
      generalize dg x = X at *
      generalize dg y = Y at *
      have e1 : ((a - 48) * P + X) * (R * 10) = ((a - 48) * (P * R) + X * R) * 10 := by rw [← Int.mul_assoc, Int.add_mul, Int.mul_assoc (a - 48)]
      have e2 : ((b - 48) * R + Y) * (P * 10) = ((b - 48) * (P * R) + Y * P) * 10 := by rw [← Int.mul_assoc, Int.add_mul, Int.mul_assoc (b - 48), Int.mul_comm R P]
      rw [e1, e2] at h
      have pp : 0 < P * R := Int.mul_pos px py
      have x0 : 0 ≤ X * R := Int.mul_nonneg rx0 (by omega)
      have y1 : Y * P < P * R := by rw [Int.mul_comm P R]; exact Int.mul_lt_mul_of_pos_right ry1 px
      constructor
      · rcases Int.lt_or_le b a with c | c
        · exfalso
          have : (b - 48 + 1) * (P * R) ≤ (a - 48) * (P * R) := Int.mul_le_mul_of_nonneg_right (by omega) (by omega)
          rw [Int.add_mul, Int.one_mul] at this
          omega
        · exact c
      · intro e
        subst e
        omega
    simp only [d8, List.map_cons, Op.bytesLess]
    by_cases c : a = b
    · obtain ⟨i1, i2⟩ := less_dg x y hx' hy' (key.2 c)
      subst c
      constructor
      · rw [show Op.bytesLess (x.map fun n => UInt8.ofNat n.toNat) (y.map fun n => UInt8.ofNat n.toNat) = true from i1]; simp
      · rw [show Op.bytesLess (y.map fun n => UInt8.ofNat n.toNat) (x.map fun n => UInt8.ofNat n.toNat) = false from i2]; simp
    · have lt : a < b := by have := key.1; omega
      constructor
      · simp [l1.2 lt]
      · have n1 : ¬ UInt8.ofNat b.toNat < UInt8.ofNat a.toNat := fun k => by have := m1.1 k; omega
        have n2 : ¬ UInt8.ofNat b.toNat = UInt8.ofNat a.toNat := fun k => by have := m2.1 k; omega
        simp [n1, n2]
theorem less_same : ∀ xs : List UInt8, Op.bytesLess xs xs = false
  | [] => by simp [Op.bytesLess]
  | a :: x => by simp [Op.bytesLess, less_same x]
theorem txt_list (xs : List Int) : (strOfNums xs).toList = d8 xs := by rw [ByteArray.toList_eq, strOfNums_data]; rfl
/-- no nought at the end -/
def Nt0 (xs : List Int) : Prop := 0 < xs.length → Nt.lb xs (xs.length - 1) ≠ 48
theorem Nt0.tail {a : Int} {x : List Int} (h : Nt0 (a :: x)) : Nt0 x := fun hx => by
  have k := h (by simp)
  rw [show (a :: x).length - 1 = x.length - 1 + 1 by simp; omega] at k
  simpa [Nt.lb] using k
theorem frac_eq : ∀ (xs ys : List Int), Dg xs → Dg ys → Nt0 xs → Nt0 ys → dg xs * tn ys.length = dg ys * tn xs.length → xs = ys
  | [], [], _, _, _, _, _ => rfl
  | a :: x, [], hx, hy, nx, ny, h => by
    exfalso
    have := dg_pos_last hx (by simp) (nx (by simp))
    simp [dg, tn_zero] at h
    rw [dg] at this
    omega
  | [], b :: y, hx, hy, nx, ny, h => by
    exfalso
    have := dg_pos_last hy (by simp) (ny (by simp))
    simp [dg, tn_zero] at h
    rw [dg] at this
    omega
  | a :: x, b :: y, hx, hy, nx, ny, h => by
    have ha := hx a List.mem_cons_self
    have hb := hy b List.mem_cons_self
    have hx' : Dg x := fun z hz => hx z (List.mem_cons_of_mem a hz)
    have hy' : Dg y := fun z hz => hy z (List.mem_cons_of_mem b hz)
    obtain ⟨rx0, rx1⟩ := dg_range hx'
    obtain ⟨ry0, ry1⟩ := dg_range hy'
    have key : a = b ∧ dg x * tn y.length = dg y * tn x.length := by
      rw [dg, dg, List.length_cons, List.length_cons, tn_succ, tn_succ, Int.mul_comm 10, Int.mul_comm 10] at h
      have px := tn_pos x.length
      have py := tn_pos y.length
      generalize tn x.length = P at *
      generalize tn y.length = R at *
      generalize dg x = X at *
      generalize dg y = Y at *
      have e1 : ((a - 48) * P + X) * (R * 10) = ((a - 48) * (P * R) + X * R) * 10 := by rw [← Int.mul_assoc, Int.add_mul, Int.mul_assoc (a - 48)]
      have e2 : ((b - 48) * R + Y) * (P * 10) = ((b - 48) * (P * R) + Y * P) * 10 := by rw [← Int.mul_assoc, Int.add_mul, Int.mul_assoc (b - 48), Int.mul_comm R P]
      rw [e1, e2] at h
      have pp : 0 < P * R := Int.mul_pos px py
      have x0 : 0 ≤ X * R := Int.mul_nonneg rx0 (by omega)
      have y0 : 0 ≤ Y * P := Int.mul_nonneg ry0 (by omega)
      have x1 : X * R < P * R := Int.mul_lt_mul_of_pos_right rx1 py
      have y1 : Y * P < P * R := by rw [Int.mul_comm P R]; exact Int.mul_lt_mul_of_pos_right ry1 px
      have ab : a = b := by
        rcases Int.lt_trichotomy a b with c | c | c
        · exfalso
          have : (a - 48 + 1) * (P * R) ≤ (b - 48) * (P * R) := Int.mul_le_mul_of_nonneg_right (by omega) (by omega)
          rw [Int.add_mul, Int.one_mul] at this
          omega
        · exact c
        · exfalso
          have : (b - 48 + 1) * (P * R) ≤ (a - 48) * (P * R) := Int.mul_le_mul_of_nonneg_right (by omega) (by omega)
          rw [Int.add_mul, Int.one_mul] at this
          omega
      subst ab
      exact ⟨rfl, by omega⟩
    obtain ⟨rfl, k⟩ := key
    rw [frac_eq x y hx' hy' nx.tail ny.tail k]

def sgv (ng : Bool) (x : Int) : Int := if ng then -x else x
/-- -1, 0 or 1 of two decimal numbers -/
def dcmp (X q Y q' : Int) : Int := sgn (X * tn (q.toNat + (-q').toNat)) (Y * tn (q'.toNat + (-q).toNat))
theorem sgn_of {x y x' y' : Int} (h : x ≤ y ↔ x' ≤ y') (k : y ≤ x ↔ y' ≤ x') : sgn x y = sgn x' y' := by
  unfold sgn
  have a : x < y ↔ x' < y' := by omega
  have b : y < x ↔ y' < x' := by omega
  simp only [a, b]
theorem dcmp_base {X q Y q' b : Int} (h : b ≤ q) (h' : b ≤ q') : dcmp X q Y q' = sgn (X * tn (q - b).toNat) (Y * tn (q' - b).toNat) :=
  sgn_of (tn_shift (by omega)) (tn_shift (by omega))
/-- one decimal number, told twice -/
def Same10 (X q X' q' : Int) : Prop := X * tn (q.toNat + (-q').toNat) = X' * tn (q'.toNat + (-q).toNat)
theorem Same10.refl (X q : Int) : Same10 X q X q := rfl
theorem Same10.at {X q X' q' b : Int} (h : Same10 X q X' q') (h1 : b ≤ q) (h2 : b ≤ q') : X * tn (q - b).toNat = X' * tn (q' - b).toNat := (tn_shift_eq (by omega)).1 h
theorem same10_of {X q X' q' b : Int} (h1 : b ≤ q) (h2 : b ≤ q') (h : X * tn (q - b).toNat = X' * tn (q' - b).toNat) : Same10 X q X' q' := (tn_shift_eq (by omega)).2 h
theorem dcmp_same {X q X' q' Y p Y' p' : Int} (h : Same10 X q X' q') (k : Same10 Y p Y' p') : dcmp X q Y p = dcmp X' q' Y' p' := by
  obtain ⟨b, b1, b2, b3, b4⟩ : ∃ b : Int, b ≤ q ∧ b ≤ q' ∧ b ≤ p ∧ b ≤ p' := ⟨min (min q q') (min p p'), by omega, by omega, by omega, by omega⟩
  rw [dcmp_base b1 b3, dcmp_base b2 b4, h.at b1 b2, k.at b3 b4]
theorem sgv_mul (ng : Bool) (x c : Int) : sgv ng x * c = sgv ng (x * c) := by
  unfold sgv; split
  · rw [Int.neg_mul]
  · rfl
/-- digits without noughts at both ends -/
def Nm (ds : List Int) : Prop := Dg ds ∧ (0 < ds.length → Nt.lb ds 0 ≠ 48) ∧ Nt0 ds
/-- digits with noughts at both ends say no more -/
theorem same_between {es : List Int} {N a b : Nat} {ng : Bool} {P : Int} (hN : es.length = N) (h2 : a < b) (h3 : b ≤ N) (h6 : ∀ j, j < a → Nt.lb es j = 48) (h7 : ∀ j, b ≤ j → j < N → Nt.lb es j = 48) :
    Same10 (sgv ng (dg es)) (P - N) (sgv ng (dg ((es.take b).drop a))) (P - a - (b - a : Nat)) := by
  have e := dg_between (es := es) (f := a) (e := b) (by omega) (by omega) h6 (fun j hj hk => h7 j hj (by omega))
  rw [hN] at e
  refine same10_of (b := P - N) (by omega) (by omega) ?_
  rw [show (P - N - (P - N)).toNat = 0 by omega, tn_zero, Int.mul_one, sgv_mul, show (P - (a : Int) - ((b - a : Nat) : Int) - (P - N)).toNat = N - b by omega, ← e]
theorem nm_between {es : List Int} {N a b : Nat} (hd : Dg es) (hN : es.length = N) (h2 : a < b) (h3 : b ≤ N) (h4 : Nt.lb es a ≠ 48) (h5 : Nt.lb es (b - 1) ≠ 48) : Nm ((es.take b).drop a) ∧ ((es.take b).drop a).length = b - a := by
  have hl : ((es.take b).drop a).length = b - a := by rw [List.length_drop, List.length_take, hN]; omega
  refine ⟨⟨(hd.take b).drop a, fun _ => by rw [lb_drop, Nat.add_zero, lb_take (by omega)]; exact h4, fun _ => ?_⟩, hl⟩
  rw [hl, lb_drop, lb_take (by omega), show a + (b - a - 1) = b - 1 by omega]
  exact h5
/-- the place of the first digit, then the digits -/
theorem dcmp_places {ds es : List Int} {p q : Int} (hd : Nm ds) (he : Nm es) (d0 : 0 < ds.length) (e0 : 0 < es.length) :
    dcmp (dg ds) (p - ds.length) (dg es) (q - es.length) = if p < q then -1 else if q < p then 1 else sgn (dg ds * tn es.length) (dg es * tn ds.length) := by
  obtain ⟨b, b1, b2⟩ : ∃ b : Int, b ≤ p - ds.length ∧ b ≤ q - es.length := ⟨min (p - ds.length) (q - es.length), by omega, by omega⟩
  rw [dcmp_base b1 b2]
  have ld := dg_lead' hd.1 d0 (hd.2.1 d0)
  have le := dg_lead' he.1 e0 (he.2.1 e0)
  have rd := (dg_range hd.1).2
  have re := (dg_range he.1).2
  have low : ∀ {X : Int} {k : Nat} {p : Int}, 0 < k → tn (k - 1) ≤ X → X < tn k → b ≤ p - k → tn (p - 1 - b).toNat ≤ X * tn (p - k - b).toNat ∧ X * tn (p - k - b).toNat < tn (p - b).toNat := by
    intro X k p k0 h1 h2 hb
    have T := tn_pos (p - k - b).toNat
    have a := Int.mul_le_mul_of_nonneg_right h1 (Int.le_of_lt T)
    have c := Int.mul_lt_mul_of_pos_right h2 T
    rw [← tn_add] at a c
    rw [show k - 1 + (p - k - b).toNat = (p - 1 - b).toNat by omega] at a
    rw [show k + (p - k - b).toNat = (p - b).toNat by omega] at c
    exact ⟨a, c⟩
  obtain ⟨u1, u2⟩ := low d0 ld rd b1
  obtain ⟨v1, v2⟩ := low e0 le re b2
  by_cases c : p < q
  · rw [if_pos c]
    have := tn_mono (show (p - b).toNat ≤ (q - 1 - b).toNat by omega)
    exact sgn_lt (by omega)
  · rw [if_neg c]
    by_cases c2 : q < p
    · rw [if_pos c2]
      have := tn_mono (show (q - b).toNat ≤ (p - 1 - b).toNat by omega)
      exact sgn_gt (by omega)
    · rw [if_neg c2]
      have e : p = q := by omega
      subst e
      exact sgn_of (tn_shift (by omega)) (tn_shift (by omega))
theorem dcmp_neg (X q Y q' : Int) : dcmp (-X) q (-Y) q' = - dcmp X q Y q' := by
  unfold dcmp sgn
  rw [Int.neg_mul, Int.neg_mul]
  generalize X * tn (q.toNat + (-q').toNat) = x
  generalize Y * tn (q'.toNat + (-q).toNat) = y
  by_cases c : x < y
  · rw [if_neg (by omega), if_pos (by omega), if_pos c]; rfl
  · by_cases d : y < x
    · rw [if_pos (by omega), if_neg c, if_pos d]
    · rw [if_neg (by omega), if_neg (by omega), if_neg c, if_neg d]; rfl
/-- of unlike signs -/
theorem dcmp_signs {X q Y q' : Int} : (X < 0 → 0 ≤ Y → dcmp X q Y q' = -1) ∧ (X ≤ 0 → 0 < Y → dcmp X q Y q' = -1) ∧ (0 ≤ X → Y < 0 → dcmp X q Y q' = 1) ∧ (0 < X → Y ≤ 0 → dcmp X q Y q' = 1) ∧ (X = 0 → Y = 0 → dcmp X q Y q' = 0) := by
  unfold dcmp
  have T := tn_pos (q.toNat + (-q').toNat)
  have U := tn_pos (q'.toNat + (-q).toNat)
  generalize tn (q.toNat + (-q').toNat) = t at *
  generalize tn (q'.toNat + (-q).toNat) = u at *
  have neg : ∀ {x c : Int}, x < 0 → 0 < c → x * c < 0 := fun hx hc => Int.mul_neg_of_neg_of_pos hx hc
  have pos : ∀ {x c : Int}, 0 < x → 0 < c → 0 < x * c := fun hx hc => Int.mul_pos hx hc
  have nn : ∀ {x c : Int}, 0 ≤ x → 0 < c → 0 ≤ x * c := fun hx hc => Int.mul_nonneg hx (by omega)
  have np : ∀ {x c : Int}, x ≤ 0 → 0 < c → x * c ≤ 0 := fun hx hc => Int.mul_nonpos_of_nonpos_of_nonneg hx (by omega)
  refine ⟨fun h k => sgn_lt ?_, fun h k => sgn_lt ?_, fun h k => sgn_gt ?_, fun h k => sgn_gt ?_, fun h k => sgn_eq ?_⟩
  · have := neg h T; have := nn k U; omega
  · have := np h T; have := pos k U; omega
  · have := nn h T; have := neg k U; omega
  · have := pos h T; have := np k U; omega
  · rw [h, k, Int.zero_mul, Int.zero_mul]

set_option maxHeartbeats 1000000 in
theorem compare_uint (x y : Int) (w : World) :
    Calls Tryz.prog 117 #[.int .u64 x, .int .u64 y] w fun e w' => e = .returned (.int .i64 (sgn x y)) ∧ w' = w := by
  have hx : (x != x) = false := by simp
  have hy : (y != y) = false := by simp
  rcases Int.lt_trichotomy x y with h | h | h
  · rw [sgn_lt h]
    go_enter Tryz.func117, Tryz.ntmps117
    go_wp2
    go_ret
    exact ⟨rfl, rfl⟩
  · subst h
    rw [sgn_eq rfl]
    go_enter Tryz.func117, Tryz.ntmps117
    go_wp2
    go_ret
    exact ⟨rfl, rfl⟩
  · rw [sgn_gt h]
    have h' : ¬ x < y := by omega
    go_enter Tryz.func117, Tryz.ntmps117
    go_wp2
    go_ret
    exact ⟨rfl, rfl⟩

set_option maxHeartbeats 1000000 in
theorem compare_str {s t : ByteArray} (w : World) (c : Int) (h : (Op.bytesLess s.toList t.toList = true ∧ c = -1) ∨ (Op.bytesLess s.toList t.toList = false ∧ s.toList ≠ t.toList ∧ c = 1) ∨ (s = t ∧ c = 0)) :
    Calls Tryz.prog 79 #[.string s, .string t] w fun e w' => e = .returned (.int .i64 c) ∧ w' = w := by
  rcases h with ⟨h1, rfl⟩ | ⟨h1, h2, rfl⟩ | ⟨rfl, rfl⟩
  · go_enter Tryz.func79, Tryz.ntmps79
    go_wp2
    go_ret
    exact ⟨rfl, rfl⟩
  · have h3 : (s.toList == t.toList) = false := by simpa using h2
    go_enter Tryz.func79, Tryz.ntmps79
    go_wp2
    go_ret
    exact ⟨rfl, rfl⟩
  · have h1 := less_same s.toList
    have h3 : (s.toList == s.toList) = true := by simp
    go_enter Tryz.func79, Tryz.ntmps79
    go_wp2
    go_ret
    exact ⟨rfl, rfl⟩

theorem bytes_pos {s : ByteArray} (h : s.toList.isEmpty = true) : s.size = 0 := by
  rw [ByteArray.toList_eq, List.isEmpty_iff] at h
  have : s.data.size = 0 := by rw [← Array.length_toList, h]; rfl
  exact this
/-- the sign of a number -/
def nsg (ng : Bool) (n : Nat) : Int := if n = 0 then 0 else if ng then -1 else 1
set_option maxHeartbeats 1000000 in
theorem nsign_any {w : World} {s : ByteArray} {ng : Bool} {P a : Int} :
    Calls Tryz.prog 76 #[.agg #[.bool ng, .string s, .int .i64 P, .int .i64 a]] w fun e w' => e = .returned (.int .i64 (nsg ng s.size)) ∧ Below w.heap.size w w' := by
  have K0 : Below w.heap.size w (w.alloc (.cells #[.bool ng, .string s, .int .i64 P, .int .i64 a] 79)) := al_one _ _
  by_cases c : s.size = 0
  · have e : s.toList.isEmpty = true := by
      rw [ByteArray.toList_eq, List.isEmpty_iff]
      exact List.eq_nil_of_length_eq_zero (by rw [Array.length_toList]; exact c)
    go_enter Tryz.func76, Tryz.ntmps76
    go_wp2
    go_ret
    exact ⟨ret_int (by unfold nsg; rw [if_pos c]), K0⟩
  · have e : s.toList.isEmpty = false := txt_full (by omega)
    cases ng
    · go_enter Tryz.func76, Tryz.ntmps76
      go_wp2
      go_ret
      exact ⟨ret_int (by unfold nsg; rw [if_neg c]; rfl), K0⟩
    · go_enter Tryz.func76, Tryz.ntmps76
      go_wp2
      go_ret
      exact ⟨ret_int (by unfold nsg; rw [if_neg c]; rfl), K0⟩

set_option maxRecDepth 100000 in
set_option maxHeartbeats 4000000 in
theorem places_ge {w : World} {s s' : ByteArray} {ng ng' : Bool} {P a P' a' : Int} (p0 : -9223372036854775808 ≤ P) (p1 : P ≤ 9223372036854775807) (q0 : -9223372036854775808 ≤ P') (q1 : P' ≤ 9223372036854775807) (a0 : 0 ≤ a) (a1 : a ≤ 4611686018427387904) (b0 : 0 ≤ a') (b1 : a' ≤ 4611686018427387904) (h : ¬ P < P') :
    Calls Tryz.prog 78 #[.agg #[.bool ng, .string s, .int .i64 P, .int .i64 a], .agg #[.bool ng', .string s', .int .i64 P', .int .i64 a']] w fun e w' => e = .returned (.int .i64 (sgn (P - a) (P' - a'))) ∧ Below w.heap.size w w' := by
  have K0 : Below w.heap.size w ((w.alloc (.cells #[.bool ng, .string s, .int .i64 P, .int .i64 a] 79)).alloc (.cells #[.bool ng', .string s', .int .i64 P', .int .i64 a'] 79)) := below_trans (al_one _ _) (al_one _ _)
  by_cases c : a - a' < 0
  · go_enter Tryz.func78, Tryz.ntmps78
    go_wp2
    go_ret
    exact ⟨ret_int (sgn_gt (by omega)).symm, K0⟩
  · go_enter Tryz.func78, Tryz.ntmps78
    have hw : IntKind.u64.wrap (IntKind.u64.wrap P - IntKind.u64.wrap P') = P - P' := by rw [IntKind.wrap_u64, IntKind.wrap_u64, IntKind.wrap_u64]; omega
    go_wp2_with fail
    refine (compare_uint _ _ _).mono ?_
    rintro x w1 ⟨rfl, rfl⟩
    have he : sgn (P - P') (a - a') = sgn (P - a) (P' - a') := sgn_of (by omega) (by omega)
    go_wp2
    go_ret
    exact ⟨rfl, K0⟩

theorem sgn_flip (x y : Int) : - sgn y x = sgn x y := by
  unfold sgn
  by_cases c : x < y
  · rw [if_pos c, if_neg (by omega), if_pos c]
  · by_cases d : y < x
    · rw [if_pos d, if_neg c, if_pos d]; rfl
    · rw [if_neg d, if_neg c, if_neg c, if_neg d]; rfl
theorem sgn_range (x y : Int) : -1 ≤ sgn x y ∧ sgn x y ≤ 1 := by
  unfold sgn
  split
  · omega
  · split <;> omega
set_option maxRecDepth 100000 in
set_option maxHeartbeats 4000000 in
theorem places_any {w : World} {s s' : ByteArray} {ng ng' : Bool} {P a P' a' : Int} (p0 : -9223372036854775808 ≤ P) (p1 : P ≤ 9223372036854775807) (q0 : -9223372036854775808 ≤ P') (q1 : P' ≤ 9223372036854775807) (a0 : 0 ≤ a) (a1 : a ≤ 4611686018427387904) (b0 : 0 ≤ a') (b1 : a' ≤ 4611686018427387904) :
    Calls Tryz.prog 78 #[.agg #[.bool ng, .string s, .int .i64 P, .int .i64 a], .agg #[.bool ng', .string s', .int .i64 P', .int .i64 a']] w fun e w' => e = .returned (.int .i64 (sgn (P - a) (P' - a'))) ∧ Below w.heap.size w w' := by
  by_cases h : P < P'
  · have K0 : Below w.heap.size w ((w.alloc (.cells #[.bool ng, .string s, .int .i64 P, .int .i64 a] 79)).alloc (.cells #[.bool ng', .string s', .int .i64 P', .int .i64 a'] 79)) := below_trans (al_one _ _) (al_one _ _)
    go_enter Tryz.func78, Tryz.ntmps78
    go_wp2_with fail
    refine (places_ge q0 q1 p0 p1 b0 b1 a0 a1 (by omega)).mono ?_
    rintro x w1 ⟨rfl, b2⟩
    have K1 := below_trans K0 b2
    obtain ⟨r0, r1⟩ := sgn_range (P' - a') (P - a)
    have hf := sgn_flip (P - a) (P' - a')
    clear b2 K0
    go_wp2
    go_ret
    exact ⟨rfl, K1⟩
  · exact places_ge p0 p1 q0 q1 a0 a1 b0 b1 h

/-- four cells of a struct -/
structure Cl4 (w : World) (b : Nat) (v0 v1 v2 v3 : Value) : Prop where
  c0 : w.cell? ⟨b, 0, none⟩ = some v0
  c1 : w.cell? ⟨b, 1, none⟩ = some v1
  c2 : w.cell? ⟨b, 2, none⟩ = some v2
  c3 : w.cell? ⟨b, 3, none⟩ = some v3
  lt : b < w.heap.size
theorem Cl4.below {w w' : World} {b : Nat} {v0 v1 v2 v3 : Value} (h : Cl4 w b v0 v1 v2 v3) (hb : Below w.heap.size w w') : Cl4 w' b v0 v1 v2 v3 :=
  ⟨(hb.cell (p := ⟨b, 0, none⟩) h.lt).trans h.c0, (hb.cell (p := ⟨b, 1, none⟩) h.lt).trans h.c1, (hb.cell (p := ⟨b, 2, none⟩) h.lt).trans h.c2, (hb.cell (p := ⟨b, 3, none⟩) h.lt).trans h.c3, Nat.lt_of_lt_of_le h.lt hb.size⟩
theorem cl4_new (w : World) (v0 v1 v2 v3 : Value) (t : TypeId) : Cl4 (w.alloc (.cells #[v0, v1, v2, v3] t)) w.heap.size v0 v1 v2 v3 := by
  refine ⟨?_, ?_, ?_, ?_, by simp⟩ <;> (rw [World.cell?_alloc_at _ _ _ _ rfl]; rfl)
theorem nm_text {ds es : List Int} (hd : Nm ds) (he : Nm es) : (Op.bytesLess (strOfNums ds).toList (strOfNums es).toList = true ∧ sgn (dg ds * tn es.length) (dg es * tn ds.length) = -1) ∨
    (Op.bytesLess (strOfNums ds).toList (strOfNums es).toList = false ∧ (strOfNums ds).toList ≠ (strOfNums es).toList ∧ sgn (dg ds * tn es.length) (dg es * tn ds.length) = 1) ∨ (strOfNums ds = strOfNums es ∧ sgn (dg ds * tn es.length) (dg es * tn ds.length) = 0) := by
  rw [txt_list, txt_list]
  rcases Int.lt_trichotomy (dg ds * tn es.length) (dg es * tn ds.length) with c | c | c
  · exact .inl ⟨(less_dg ds es hd.1 he.1 c).1, sgn_lt c⟩
  · exact .inr (.inr ⟨by rw [frac_eq ds es hd.1 he.1 hd.2.2 he.2.2 c], sgn_eq c⟩)
  · obtain ⟨u, v⟩ := less_dg es ds he.1 hd.1 c
    refine .inr (.inl ⟨v, fun e => ?_, sgn_gt c⟩)
    rw [e, less_same] at u
    exact absurd u (by decide)

theorem nsg_val {ds : List Int} (ng : Bool) (hd : Nm ds) : (nsg ng ds.length = 0 ∧ sgv ng (dg ds) = 0 ∧ ds.length = 0) ∨ (nsg ng ds.length = -1 ∧ sgv ng (dg ds) < 0 ∧ 0 < ds.length ∧ ng = true) ∨ (nsg ng ds.length = 1 ∧ 0 < sgv ng (dg ds) ∧ 0 < ds.length ∧ ng = false) := by
  by_cases c : ds.length = 0
  · left
    have e := List.eq_nil_of_length_eq_zero c
    subst e
    refine ⟨by simp [nsg], ?_, rfl⟩
    unfold sgv dg; split <;> rfl
  · right
    have k := dg_lead' hd.1 (by omega) (hd.2.1 (by omega))
    have p := tn_pos (ds.length - 1)
    cases ng
    · exact .inr ⟨by unfold nsg; rw [if_neg c]; rfl, by show 0 < dg ds; omega, by omega, rfl⟩
    · exact .inl ⟨by unfold nsg; rw [if_neg c]; rfl, by show -dg ds < 0; omega, by omega, rfl⟩
/-- what cmp answers -/
theorem ncmp_is {ds es : List Int} {ng ng' : Bool} {p q : Int} (hd : Nm ds) (he : Nm es) :
    (nsg ng ds.length ≠ nsg ng' es.length → dcmp (sgv ng (dg ds)) (p - ds.length) (sgv ng' (dg es)) (q - es.length) = sgn (nsg ng ds.length) (nsg ng' es.length)) ∧
    (nsg ng ds.length = nsg ng' es.length → dcmp (sgv ng (dg ds)) (p - ds.length) (sgv ng' (dg es)) (q - es.length) = nsg ng ds.length * (if sgn p q = 0 then sgn (dg ds * tn es.length) (dg es * tn ds.length) else sgn p q)) := by
  obtain ⟨s1, s2, s3, s4, s5⟩ := dcmp_signs (X := sgv ng (dg ds)) (q := p - ds.length) (Y := sgv ng' (dg es)) (q' := q - es.length)
  have same : 0 < ds.length → 0 < es.length → dcmp (dg ds) (p - ds.length) (dg es) (q - es.length) = (if sgn p q = 0 then sgn (dg ds * tn es.length) (dg es * tn ds.length) else sgn p q) := by
    intro d0 e0
    rw [dcmp_places hd he d0 e0]
    by_cases c : p < q
    · rw [if_pos c, sgn_lt c, if_neg (by decide)]
    · by_cases c2 : q < p
      · rw [if_neg c, if_pos c2, sgn_gt c2, if_neg (by decide)]
      · rw [if_neg c, if_neg c2, sgn_eq (show p = q by omega), if_pos rfl]
  rcases nsg_val ng hd with ⟨a1, a2, a3⟩ | ⟨a1, a2, a3, a4⟩ | ⟨a1, a2, a3, a4⟩ <;> rcases nsg_val ng' he with ⟨b1, b2, b3⟩ | ⟨b1, b2, b3, b4⟩ | ⟨b1, b2, b3, b4⟩ <;> rw [a1, b1] <;> refine ⟨fun h => ?_, fun h => ?_⟩ <;> first
    | exact absurd rfl h
    | exact absurd h (by decide)
    | (rw [s5 a2 b2, Int.zero_mul])
    | (rw [s1 a2 (by omega)]; rfl)
    | (rw [s2 (by omega) b2]; rfl)
    | (rw [s3 (by omega) b2]; rfl)
    | (rw [s4 a2 (by omega)]; rfl)
    | (subst a4 b4; rw [show sgv true (dg ds) = -dg ds from rfl, show sgv true (dg es) = -dg es from rfl, dcmp_neg, same a3 b3]; omega)
    | (subst a4 b4; rw [show sgv false (dg ds) = dg ds from rfl, show sgv false (dg es) = dg es from rfl, same a3 b3]; omega)

set_option maxRecDepth 100000 in
set_option maxHeartbeats 4000000 in
theorem ncmp_any {w : World} {ds ds' : List Int} {s s' : ByteArray} {ng ng' : Bool} {P a P' a' : Int} (hd : Nm ds) (he : Nm ds') (hs : s = strOfNums ds) (hs' : s' = strOfNums ds')
    (p0 : -9223372036854775808 ≤ P) (p1 : P ≤ 9223372036854775807) (q0 : -9223372036854775808 ≤ P') (q1 : P' ≤ 9223372036854775807) (a0 : 0 ≤ a) (a1 : a ≤ 4611686018427387904) (b0 : 0 ≤ a') (b1 : a' ≤ 4611686018427387904) :
    Calls Tryz.prog 43 #[.agg #[.bool ng, .string s, .int .i64 P, .int .i64 a], .agg #[.bool ng', .string s', .int .i64 P', .int .i64 a']] w fun e w' => e = .returned (.int .i64 (dcmp (sgv ng (dg ds)) (P - a - ds.length) (sgv ng' (dg ds')) (P' - a' - ds'.length))) ∧ Below w.heap.size w w' := by
  obtain ⟨c, hc⟩ : ∃ c, dcmp (sgv ng (dg ds)) (P - a - ds.length) (sgv ng' (dg ds')) (P' - a' - ds'.length) = c := ⟨_, rfl⟩
  rw [hc]
  have K0 : Below w.heap.size w ((w.alloc (.cells #[.bool ng, .string s, .int .i64 P, .int .i64 a] 79)).alloc (.cells #[.bool ng', .string s', .int .i64 P', .int .i64 a'] 79)) := below_trans (al_one _ _) (al_one _ _)
  obtain ⟨n1, hn1⟩ : ∃ n, nsg ng s.size = n := ⟨_, rfl⟩
  obtain ⟨n2, hn2⟩ : ∃ n, nsg ng' s'.size = n := ⟨_, rfl⟩
  obtain ⟨m, hm⟩ : ∃ m, sgn (P - a) (P' - a') = m := ⟨_, rfl⟩
  obtain ⟨d, hdd⟩ : ∃ d, sgn (dg ds * tn ds'.length) (dg ds' * tn ds.length) = d := ⟨_, rfl⟩
  have hrel : (n1 ≠ n2 → sgn n1 n2 = c) ∧ (n1 = n2 → n1 * (if m = 0 then d else m) = c) := by
    have k := ncmp_is (ng := ng) (ng' := ng') (p := P - a) (q := P' - a') hd he
    rw [hs, strOfNums_size] at hn1
    rw [hs', strOfNums_size] at hn2
    rw [hn1, hn2, hc, hm, hdd] at k
    exact ⟨fun g => (k.1 g).symm, fun g => (k.2 g).symm⟩
  have HT := hide (nm_text hd he)
  rw [hdd, ← hs, ← hs'] at HT
  have HR := hide hrel
  have nr1 : -1 ≤ n1 ∧ n1 ≤ 1 := by rw [← hn1]; unfold nsg; split; omega; split <;> omega
  have mr := sgn_range (P - a) (P' - a')
  rw [hm] at mr
  have dr := sgn_range (dg ds * tn ds'.length) (dg ds' * tn ds.length)
  rw [hdd] at dr
  have HM := hide hm
  clear hrel hm hdd
  have HX2 := hide hn2
  clear hd he hc hs hs'
  have C1 := (cl4_new w (.bool ng) (.string s) (.int .i64 P) (.int .i64 a) 79).below (al_one _ (.cells #[.bool ng', .string s', .int .i64 P', .int .i64 a'] 79))
  have C2 := cl4_new (w.alloc (.cells #[.bool ng, .string s, .int .i64 P, .int .i64 a] 79)) (.bool ng') (.string s') (.int .i64 P') (.int .i64 a') 79
  rw [show (w.alloc (.cells #[.bool ng, .string s, .int .i64 P, .int .i64 a] 79)).heap.size = w.heap.size + 1 by simp] at C2
  go_enter Tryz.func43, Tryz.ntmps43
  go_upto_region 1 with fail
  generalize ((w.alloc (.cells #[.bool ng, .string s, .int .i64 P, .int .i64 a] 79)).alloc (.cells #[.bool ng', .string s', .int .i64 P', .int .i64 a'] 79)) = w2 at *
  have c10 := C1.c0; have c11 := C1.c1; have c12 := C1.c2; have c13 := C1.c3
  have c20 := C2.c0; have c21 := C2.c1; have c22 := C2.c2; have c23 := C2.c3
  go_wp2_with fail
  refine nsign_any.mono ?_
  rintro x w3 ⟨rfl, b3⟩
  rw [hn1]
  clear hn1
  clear c10 c11 c12 c13 c20 c21 c22 c23
  replace C1 := C1.below b3; replace C2 := C2.below b3; replace K0 := below_trans K0 b3
  clear b3
  have c20 := C2.c0; have c21 := C2.c1; have c22 := C2.c2; have c23 := C2.c3
  go_wp2_with fail
  refine nsign_any.mono ?_
  rintro x w4 ⟨rfl, b4⟩
  clear c20 c21 c22 c23
  replace C1 := C1.below b4; replace C2 := C2.below b4; replace K0 := below_trans K0 b4
  clear b4
  rw [hn2]
  clear hn2
  by_cases e : n1 = n2
  · have e1 : (n1 != n2) = false := by simp [e]
    have c10 := C1.c0; have c11 := C1.c1; have c12 := C1.c2; have c13 := C1.c3
    have c20 := C2.c0; have c21 := C2.c1; have c22 := C2.c2; have c23 := C2.c3
    go_wp2_with fail
    refine (places_any p0 p1 q0 q1 a0 a1 b0 b1).mono ?_
    rintro x w5 ⟨rfl, b5⟩
    clear c10 c11 c12 c13 c20 c21 c22 c23
    replace C1 := C1.below b5; replace C2 := C2.below b5; replace K0 := below_trans K0 b5
    clear b5
    rw [HM.out]
    subst e
    obtain ⟨nr0, nr1⟩ := nr1
    obtain ⟨mr0, mr1⟩ := mr
    obtain ⟨dr0, dr1⟩ := dr
    have prod : ∀ {x y : Int}, -1 ≤ x → x ≤ 1 → -1 ≤ y → y ≤ 1 → -1 ≤ x * y ∧ x * y ≤ 1 := by
      intro x y h1 h2 h3 h4
      rcases (by omega : x = -1 ∨ x = 0 ∨ x = 1) with rfl | rfl | rfl <;> omega
    by_cases z : m = 0
    · have z1 : (m == 0) = true := by simp [z]
      have hp := prod nr0 nr1 dr0 dr1
      have hp1 := hp.1
      have hp2 := hp.2
      have hfin := hide (show n1 * d = c by have k := HR.out.2 rfl; rwa [if_pos z] at k)
      clear hp prod
      have c11 := C1.c1; have c21 := C2.c1
      go_wp2_with fail
      refine (compare_str _ d HT.out).mono ?_
      rintro x w6 ⟨rfl, rfl⟩
      clear c11 c21
      go_wp2
      go_ret
      exact ⟨ret_int hfin.out, K0⟩
    · have z1 : (m == 0) = false := by simp [z]
      have hp := prod nr0 nr1 mr0 mr1
      have hp1 := hp.1
      have hp2 := hp.2
      have hfin := hide (show n1 * m = c by have k := HR.out.2 rfl; rwa [if_neg z] at k)
      clear hp prod
      go_wp2
      go_ret
      exact ⟨ret_int hfin.out, K0⟩
  · have e1 : (n1 != n2) = true := by simp [e]
    have c20 := C2.c0; have c21 := C2.c1; have c22 := C2.c2; have c23 := C2.c3
    go_wp2_with fail
    refine nsign_any.mono ?_
    rintro x w5 ⟨rfl, b5⟩
    clear c20 c21 c22 c23
    replace K0 := below_trans K0 b5
    clear b5
    rw [HX2.out]
    go_wp2_with fail
    refine (compare_int _ _ _).mono ?_
    rintro x w6 ⟨rfl, rfl⟩
    have hfin := hide (HR.out.1 e)
    go_wp2
    go_ret
    exact ⟨ret_int hfin.out, K0⟩

/-- what numberOf answers: the number without its outer noughts -/
def NumIs (es : List Int) (N : Nat) (ng : Bool) (P : Int) (ds : List Int) (P' a : Int) : Prop :=
  Nm ds ∧ Same10 (sgv ng (dg es)) (P - N) (sgv ng (dg ds)) (P' - a - ds.length) ∧ -9223372036854775808 ≤ P' ∧ P' ≤ 9223372036854775807 ∧ 0 ≤ a ∧ a ≤ 4611686018427387904
theorem numberOf_is {w : World} {es : List Int} {s : ByteArray} {N : Nat} {ng : Bool} {P : Int} (hd : Byt es) (hs : s = strOfNums es) (hN : es.length = N) (hl : N ≤ 4611686018427387904) (hP : -9223372036854775808 ≤ P) (hP2 : P ≤ 9223372036854775807) :
    Calls Tryz.prog 42 #[.agg #[.bool ng, .string s, .int .i64 P]] w fun e w' => Below w.heap.size w w' ∧
      ((¬ Dg es ∧ ∃ v0 v1 v2 v3, e = .returned (.tuple #[.agg #[.bool v0, .string v1, .int .i64 v2, .int .i64 v3], .bool false])) ∨
       (Dg es ∧ ∃ ds P' a, NumIs es N ng P ds P' a ∧ e = .returned (.tuple #[.agg #[.bool ng, .string (strOfNums ds), .int .i64 P', .int .i64 a], .bool true]))) := by
  refine (numberOf_any hd hs hN (by omega)).mono ?_
  rintro e w1 ⟨b1, hcase⟩
  refine ⟨b1, ?_⟩
  rcases hcase with ⟨h1, rfl⟩ | ⟨h1, h2, rfl⟩ | ⟨h1, a, b, h2, h3, h4, h5, h6, h7, rfl⟩
  · exact .inl ⟨h1, _, _, _, _, rfl⟩
  · refine .inr ⟨h1, [], 0, 0, ⟨⟨fun x hx => absurd hx (by simp), fun h => absurd h (by simp), fun h => absurd h (by simp)⟩, ?_, by omega, by omega, by omega, by omega⟩, rfl⟩
    have e : dg es = 0 := by rw [dg_all (es := es) (fun j hj => h2 j (by omega)), dg_noughts]
    unfold Same10
    rw [e, show dg [] = 0 from rfl]
    unfold sgv
    split
    · rw [Int.neg_zero, Int.zero_mul, Int.zero_mul]
    · rw [Int.zero_mul, Int.zero_mul]
  · obtain ⟨n1, n2⟩ := nm_between h1 hN h2 h3 h4 h5
    refine .inr ⟨h1, _, P, a, ⟨n1, ?_, hP, hP2, by omega, by omega⟩, rfl⟩
    rw [n2]
    exact same_between hN h2 h3 h6 h7

set_option maxRecDepth 100000 in
set_option maxHeartbeats 8000000 in
theorem dcmp_any {w : World} {es es' : List Int} {s s' : ByteArray} {N N' : Nat} {ng ng' : Bool} {P P' : Int} (hd : Byt es) (hs : s = strOfNums es) (hN : es.length = N) (hl : N ≤ 4611686018427387904) (hP : -9223372036854775808 ≤ P) (hP2 : P ≤ 9223372036854775807)
    (hd' : Byt es') (hs' : s' = strOfNums es') (hN' : es'.length = N') (hl' : N' ≤ 4611686018427387904) (hP' : -9223372036854775808 ≤ P') (hP2' : P' ≤ 9223372036854775807) :
    Calls Tryz.prog 16 #[.agg #[.bool ng, .string s, .int .i64 P], .agg #[.bool ng', .string s', .int .i64 P']] w fun e w' => Below w.heap.size w w' ∧
      ((¬ (Dg es ∧ Dg es') ∧ e = .returned (.tuple #[.int .i64 0, .bool false])) ∨ (Dg es ∧ Dg es' ∧ e = .returned (.tuple #[.int .i64 (dcmp (sgv ng (dg es)) (P - N) (sgv ng' (dg es')) (P' - N')), .bool true]))) := by
  have H1 := hide (show ∀ w : World, _ from fun w => numberOf_is (w := w) (ng := ng) hd hs hN hl hP hP2)
  have H2 := hide (show ∀ w : World, _ from fun w => numberOf_is (w := w) (ng := ng') hd' hs' hN' hl' hP' hP2')
  clear hd hs hN hd' hs' hN'
  have K0 : Below w.heap.size w ((w.alloc (.cells #[.bool ng, .string s, .int .i64 P] 23)).alloc (.cells #[.bool ng', .string s', .int .i64 P'] 23)) := below_trans (al_one _ _) (al_one _ _)
  have C2 := cell3_new (w.alloc (.cells #[.bool ng, .string s, .int .i64 P] 23)) (.bool ng') (.string s') (.int .i64 P') 23
  rw [show (w.alloc (.cells #[.bool ng, .string s, .int .i64 P] 23)).heap.size = w.heap.size + 1 by simp] at C2
  go_enter Tryz.func16, Tryz.ntmps16
  go_wp2_with fail
  refine (H1.out _).mono ?_
  rintro x w1 ⟨b1, hcase⟩
  replace K0 := below_trans K0 b1
  replace C2 := C2.below b1
  clear b1 H1
  rcases hcase with ⟨h1, v0, v1, v2, v3, rfl⟩ | ⟨h1, ds, Pd, ad, hn, rfl⟩
  · have H := hide h1
    clear h1
    go_wp2
    go_ret2
    exact ⟨below_trans K0 (al_one _ _), .inl ⟨fun g => H.out g.1, rfl⟩⟩
  · have H := hide h1
    have HN := hide hn
    clear h1 hn
    have D2 := C2.below (al_one w1 (.cells #[.bool ng, .string (strOfNums ds), .int .i64 Pd, .int .i64 ad] 79))
    have E1 := cl4_new w1 (.bool ng) (.string (strOfNums ds)) (.int .i64 Pd) (.int .i64 ad) 79
    replace K0 := below_trans K0 (al_one w1 (.cells #[.bool ng, .string (strOfNums ds), .int .i64 Pd, .int .i64 ad] 79))
    have c0 := D2.c0; have c1 := D2.c1; have c2 := D2.c2
    go_wp2_with fail
    refine (H2.out _).mono ?_
    rintro x w3 ⟨b3, hcase⟩
    replace K0 := below_trans K0 b3
    replace E1 := E1.below b3
    clear b3 H2 c0 c1 c2 D2 C2
    rcases hcase with ⟨h1, v0, v1, v2, v3, rfl⟩ | ⟨h1, ds', Pe, ae, hn, rfl⟩
    · have H3 := hide h1
      clear h1
      go_wp2
      go_ret2
      exact ⟨below_trans K0 (al_one _ _), .inl ⟨fun g => H3.out g.2, rfl⟩⟩
    · have H3 := hide h1
      have HM := hide hn
      clear h1 hn
      replace E1 := E1.below (al_one w3 (.cells #[.bool ng', .string (strOfNums ds'), .int .i64 Pe, .int .i64 ae] 79))
      have c0 := E1.c0; have c1 := E1.c1; have c2 := E1.c2; have c3 := E1.c3
      replace K0 := below_trans K0 (al_one w3 (.cells #[.bool ng', .string (strOfNums ds'), .int .i64 Pe, .int .i64 ae] 79))
      go_wp2_with fail
      refine (ncmp_any HN.out.1 HM.out.1 rfl rfl HN.out.2.2.1 HN.out.2.2.2.1 HM.out.2.2.1 HM.out.2.2.2.1 HN.out.2.2.2.2.1 HN.out.2.2.2.2.2 HM.out.2.2.2.2.1 HM.out.2.2.2.2.2).mono ?_
      rintro x w4 ⟨rfl, b4⟩
      replace K0 := below_trans K0 b4
      clear b4 c0 c1 c2 c3 E1
      rw [← dcmp_same HN.out.2.1 HM.out.2.1]
      go_wp2
      go_ret2
      exact ⟨K0, .inr ⟨H.out, H3.out, rfl⟩⟩

end Go.Proofs.YtigehipclkoecaaGreatDoor
