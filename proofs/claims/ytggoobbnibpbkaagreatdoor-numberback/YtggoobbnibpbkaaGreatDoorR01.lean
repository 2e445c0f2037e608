/- Math, VMath -/
namespace Go.Proofs.YtggoobbnibpbkaaGreatDoor
namespace Nt

/-- 2^32 to the power of n -/
def pw : Nat → Int
  | 0 => 1
  | n + 1 => 4294967296 * pw n

theorem pw_pos (n : Nat) : 0 < pw n := by
  induction n with
  | zero => decide
  | succ n ih => simp only [pw]; omega

theorem pw_succ (n : Nat) : pw (n + 1) = 4294967296 * pw n := rfl
theorem pw_zero : pw 0 = 1 := rfl

theorem pw_add (m n : Nat) : pw (m + n) = pw m * pw n := by
  induction n with
  | zero => simp [pw]
  | succ n ih => rw [← Nat.add_assoc, pw_succ, ih, pw_succ, Int.mul_left_comm]

theorem pw_mono {m n : Nat} (h : m ≤ n) : pw m ≤ pw n := by
  induction n with
  | zero => have : m = 0 := by omega
            subst this; exact Int.le_refl _
  | succ n ih =>
    by_cases e : m = n + 1
    · subst e; exact Int.le_refl _
    · have := ih (by omega); have := pw_pos n; rw [pw_succ]; omega

/-- the limb at a place, 0 behind the end -/
def lb (xs : List Int) (i : Nat) : Int := xs.getD i 0

/-- the number of the first n limbs -/
def vt (xs : List Int) : Nat → Int
  | 0 => 0
  | n + 1 => vt xs n + lb xs n * pw n

/-- the number of a list -/
def val (xs : List Int) : Int := vt xs xs.length

def Ok (xs : List Int) : Prop := ∀ i, 0 ≤ lb xs i ∧ lb xs i < 4294967296

/-- the list of its number: no nought at its end -/
def Canon (xs : List Int) : Prop := Ok xs ∧ (xs ≠ [] → lb xs (xs.length - 1) ≠ 0)

theorem vt_zero (xs : List Int) : vt xs 0 = 0 := rfl
theorem vt_succ (xs : List Int) (n : Nat) : vt xs (n + 1) = vt xs n + lb xs n * pw n := rfl

theorem lb_out {xs : List Int} {i : Nat} (h : xs.length ≤ i) : lb xs i = 0 := by
  simp [lb, List.getElem?_eq_none h]

theorem vt_out {xs : List Int} {n : Nat} (h : xs.length ≤ n) : vt xs n = val xs := by
  induction n with
  | zero => unfold val; rw [show xs.length = 0 by omega]
  | succ n ih =>
    by_cases e : xs.length = n + 1
    · unfold val; rw [e]
    · rw [vt_succ, ih (by omega), lb_out (by omega)]; simp

theorem vt_bounds {xs : List Int} (h : Ok xs) (n : Nat) : 0 ≤ vt xs n ∧ vt xs n < pw n := by
  induction n with
  | zero => simp [vt, pw]
  | succ n ih =>
    have hp := pw_pos n
    have hx := h n
    have h1 : 0 ≤ lb xs n * pw n := Int.mul_nonneg hx.1 (by omega)
    have h2 : lb xs n * pw n ≤ 4294967295 * pw n := Int.mul_le_mul_of_nonneg_right (by omega) (by omega)
    rw [vt_succ, pw_succ]
    omega

theorem val_nonneg {xs : List Int} (h : Ok xs) : 0 ≤ val xs := (vt_bounds h _).1
theorem val_lt {xs : List Int} (h : Ok xs) : val xs < pw xs.length := (vt_bounds h _).2

/-- two lists that agree on the first n limbs -/
theorem vt_congr {xs ys : List Int} {n : Nat} (h : ∀ i, i < n → lb xs i = lb ys i) : vt xs n = vt ys n := by
  induction n with
  | zero => rfl
  | succ n ih => rw [vt_succ, vt_succ, ih (fun i hi => h i (by omega)), h n (by omega)]

theorem mul_pw_cancel {a b x y p : Int} (hp : 0 < p) (ha : 0 ≤ a ∧ a < p) (hb : 0 ≤ b ∧ b < p) (h : a + x * p = b + y * p) : x = y ∧ a = b := by
  have hxy : x = y := by
    rcases Int.lt_trichotomy x y with h' | h' | h'
    · have : (x + 1) * p ≤ y * p := Int.mul_le_mul_of_nonneg_right (by omega) (by omega)
      rw [Int.add_mul] at this; omega
    · exact h'
    · have : (y + 1) * p ≤ x * p := Int.mul_le_mul_of_nonneg_right (by omega) (by omega)
      rw [Int.add_mul] at this; omega
  subst hxy
  exact ⟨rfl, by omega⟩

/-- one number, one row of limbs -/
theorem vt_inj {xs ys : List Int} (hx : Ok xs) (hy : Ok ys) {n : Nat} (h : vt xs n = vt ys n) : ∀ i, i < n → lb xs i = lb ys i := by
  induction n with
  | zero => intro i hi; omega
  | succ n ih =>
    rw [vt_succ, vt_succ] at h
    obtain ⟨h1, h2⟩ := mul_pw_cancel (pw_pos n) (vt_bounds hx n) (vt_bounds hy n) h
    intro i hi
    by_cases e : i = n
    · subst e; exact h1
    · exact ih h2 i (by omega)

theorem ext_lb {xs ys : List Int} (hl : xs.length = ys.length) (h : ∀ i, i < xs.length → lb xs i = lb ys i) : xs = ys := by
  apply List.ext_getElem hl
  intro i h1 h2
  have := h i h1
  simpa [lb, h1, h2] using this

theorem canon_low {xs : List Int} (h : Canon xs) (hn : xs ≠ []) : pw (xs.length - 1) ≤ val xs := by
  obtain ⟨n, hl⟩ : ∃ n, xs.length = n + 1 := ⟨xs.length - 1, by have := List.length_pos_iff.2 hn; omega⟩
  have h0 := h.2 hn
  rw [hl, Nat.add_sub_cancel] at h0 ⊢
  have hb := h.1 n
  have hv := vt_bounds h.1 n
  unfold val
  rw [hl, vt_succ]
  have : 1 * pw n ≤ lb xs n * pw n := Int.mul_le_mul_of_nonneg_right (by omega) (by have := pw_pos n; omega)
  omega

/-- the longer list is the greater number's -/
theorem canon_lt {xs ys : List Int} (hx : Ok xs) (hy : Canon ys) (h : xs.length < ys.length) : val xs < val ys := by
  have h1 := val_lt hx
  have h2 := canon_low hy (by intro e; subst e; simp at h)
  have h3 := pw_mono (m := xs.length) (n := ys.length - 1) (by omega)
  omega

theorem canon_unique {xs ys : List Int} (hx : Canon xs) (hy : Canon ys) (h : val xs = val ys) : xs = ys := by
  have hl : xs.length = ys.length := by
    rcases Nat.lt_trichotomy xs.length ys.length with h' | h' | h'
    · have := canon_lt hx.1 hy h'; omega
    · exact h'
    · have := canon_lt hy.1 hx h'; omega
  exact ext_lb hl (vt_inj hx.1 hy.1 (by unfold val at h; rw [hl] at h ⊢; exact h))

theorem val_nil : val [] = 0 := rfl

theorem canon_nil : Canon [] := ⟨fun i => by simp [lb], fun h => absurd rfl h⟩

theorem canon_zero {xs : List Int} (h : Canon xs) : val xs = 0 ↔ xs = [] := by
  constructor
  · intro e; exact canon_unique h canon_nil (by rw [e, val_nil])
  · intro e; subst e; rfl

theorem lb_take {xs : List Int} {k i : Nat} (h : i < k) : lb (xs.take k) i = lb xs i := by
  simp only [lb, List.getD_eq_getElem?_getD, List.getElem?_take, h, if_true]

theorem lb_take_out {xs : List Int} {k i : Nat} (h : k ≤ i) : lb (xs.take k) i = 0 := by
  simp only [lb, List.getD_eq_getElem?_getD, List.getElem?_take, show ¬ i < k by omega, if_false]; rfl

theorem ok_take {xs : List Int} (h : Ok xs) (k : Nat) : Ok (xs.take k) := by
  intro i
  by_cases e : i < k
  · rw [lb_take e]; exact h i
  · rw [lb_take_out (by omega)]; omega

theorem val_take {xs : List Int} {k : Nat} (hk : k ≤ xs.length) : val (xs.take k) = vt xs k := by
  unfold val
  rw [List.length_take, Nat.min_eq_left hk]
  exact vt_congr fun i hi => lb_take hi

/-- noughts at the end say nothing -/
theorem vt_cut {xs : List Int} {k n : Nat} (hk : k ≤ n) (h : ∀ i, k ≤ i → i < n → lb xs i = 0) : vt xs n = vt xs k := by
  induction n with
  | zero => rw [show k = 0 by omega]
  | succ n ih =>
    by_cases e : k = n + 1
    · rw [e]
    · rw [vt_succ, h n (by omega) (by omega), ih (by omega) (fun i a b => h i a (by omega))]; simp

theorem canon_take {xs : List Int} {k : Nat} (ho : Ok xs) (hk : k ≤ xs.length) (h0 : 0 < k → lb xs (k - 1) ≠ 0) : Canon (xs.take k) := by
  refine ⟨ok_take ho k, fun hn => ?_⟩
  have hl : (xs.take k).length = k := by rw [List.length_take, Nat.min_eq_left hk]
  have hp := List.length_pos_iff.2 hn
  rw [hl] at hp ⊢
  rw [lb_take (by omega)]
  exact h0 hp

theorem lb_set_eq {xs : List Int} {i : Nat} (h : i < xs.length) (v : Int) : lb (xs.set i v) i = v := by
  simp [lb, h]
theorem lb_set_ne {xs : List Int} {i j : Nat} (h : i ≠ j) (v : Int) : lb (xs.set i v) j = lb xs j := by
  simp [lb, List.getElem?_set_ne h]

theorem ok_set {xs : List Int} (h : Ok xs) {i : Nat} {v : Int} (hv : 0 ≤ v ∧ v < 4294967296) : Ok (xs.set i v) := by
  intro j
  by_cases e : i = j
  · subst e
    by_cases hl : i < xs.length
    · rw [lb_set_eq hl]; exact hv
    · rw [lb_out (by simp; omega)]; omega
  · rw [lb_set_ne e]; exact h j

theorem vt_set {xs : List Int} {i n : Nat} (h : n ≤ i) (v : Int) : vt (xs.set i v) n = vt xs n :=
  vt_congr fun j hj => lb_set_ne (by omega) v

theorem ok_nil : Ok [] := canon_nil.1

theorem ok_replicate (n : Nat) : Ok (List.replicate n 0) := by
  intro i
  by_cases h : i < n <;> simp [lb, h]

theorem lb_replicate (n i : Nat) : lb (List.replicate n 0) i = 0 := by
  by_cases h : i < n <;> simp [lb, h]

/-- equal above a place, less there: less -/
theorem vt_lt_at {xs ys : List Int} (hx : Ok xs) (hy : Ok ys) {p n : Nat} (hp : p < n) (he : ∀ i, p < i → i < n → lb xs i = lb ys i) (hl : lb xs p < lb ys p) : vt xs n < vt ys n := by
  induction n with
  | zero => omega
  | succ n ih =>
    by_cases e : p = n
    · subst e
      rw [vt_succ, vt_succ]
      have h1 := vt_bounds hx p
      have h2 := vt_bounds hy p
      have : (lb xs p + 1) * pw p ≤ lb ys p * pw p := Int.mul_le_mul_of_nonneg_right (by omega) (by have := pw_pos p; omega)
      rw [Int.add_mul] at this
      omega
    · rw [vt_succ, vt_succ, he n (by omega) (by omega)]
      have := ih (by omega) (fun i a b => he i a (by omega))
      omega

end Nt
end Go.Proofs.YtggoobbnibpbkaaGreatDoor

namespace Go.Proofs.YtggoobbnibpbkaaGreatDoor
set_option linter.unusedVariables false

/-- a struct api.Value: its fields, the limbs of its Int, its Kids -/
inductive Va where
  | mk (kind n : Int) (neg : Bool) (mag : List Int) (bits ext : Int) (text : List Int) (kids : List Va)
instance : Inhabited Va := ⟨.mk 0 0 false [] 0 0 [] []⟩
def Va.kind : Va → Int | .mk k _ _ _ _ _ _ _ => k
def Va.n : Va → Int | .mk _ n _ _ _ _ _ _ => n
def Va.neg : Va → Bool | .mk _ _ g _ _ _ _ _ => g
def Va.mag : Va → List Int | .mk _ _ _ m _ _ _ _ => m
def Va.bits : Va → Int | .mk _ _ _ _ b _ _ _ => b
def Va.ext : Va → Int | .mk _ _ _ _ _ e _ _ => e
def Va.text : Va → List Int | .mk _ _ _ _ _ _ t _ => t
def Va.kids : Va → List Va | .mk _ _ _ _ _ _ _ ks => ks
theorem Va.kid_lt {x : Va} {y : Va} (h : y ∈ x.kids) : SizeOf.sizeOf y < SizeOf.sizeOf x := by
  cases x with
  | mk k n g m b e t ks =>
    have h1 : SizeOf.sizeOf y < SizeOf.sizeOf ks := List.sizeOf_lt_of_mem h
    simp only [Va.mk.sizeOf_spec]
    omega
/-- -1, 0, 1 -/
def sg3 (x y : Int) : Int := if x < y then -1 else if y < x then 1 else 0
/-- the first difference counts -/
def lx (p q : Int) : Int := if p = 0 then q else p
/-- lists, element by element, the beginning of a longer one below it -/
def tcmp : List Int → List Int → Int
  | [], [] => 0
  | [], _ :: _ => -1
  | _ :: _, [] => 1
  | a :: x, b :: y => lx (sg3 a b) (tcmp x y)
/-- the keys of a pattern of 64 bits in the total order: the sign turns the size -/
def tkey (b : Int) : Int := if b < 9223372036854775808 then b else 9223372036854775807 - b
/-- the whole number -/
def vnum (x : Va) : Int := if x.neg then -(Nt.val x.mag) else Nt.val x.mag
/-- the fields ahead of the Kids -/
def hcmp (a b : Va) : Int := lx (sg3 a.kind b.kind) (lx (sg3 a.n b.n) (lx (sg3 a.ext b.ext) (lx (sg3 (vnum a) (vnum b)) (lx (sg3 (tkey a.bits) (tkey b.bits)) (tcmp a.text b.text)))))
mutual
def vcmp : Va → Va → Int
  | .mk k n g m b e t ks, y => lx (hcmp (.mk k n g m b e t ks) y) (kcmp ks y.kids)
def kcmp : List Va → List Va → Int
  | [], [] => 0
  | [], _ :: _ => -1
  | _ :: _, [] => 1
  | a :: x, b :: y => lx (vcmp a b) (kcmp x y)
end
theorem vcmp_eq (x y : Va) : vcmp x y = lx (hcmp x y) (kcmp x.kids y.kids) := by cases x; rw [vcmp]; rfl
/-- what holds of an order's three answers: a against b, b against d, a against d -/
def Tr (x y z : Int) : Prop := (x ≤ 0 → y ≤ 0 → z ≤ 0 ∧ (z = 0 → x = 0 ∧ y = 0)) ∧ (x = 0 → y = 0 → z = 0)
def R3 (x : Int) : Prop := -1 ≤ x ∧ x ≤ 1
theorem lx_r {p q : Int} (hp : R3 p) (hq : R3 q) : R3 (lx p q) := by unfold lx; split <;> assumption
theorem lx_neg (p q : Int) : lx (-p) (-q) = -lx p q := by unfold lx; split <;> split <;> omega
theorem lx_zero {p q : Int} : lx p q = 0 ↔ p = 0 ∧ q = 0 := by unfold lx; split <;> constructor <;> intro h <;> first | exact ⟨by omega, by omega⟩ | omega
theorem lx_tr {p q p' q' p'' q'' : Int} (h : Tr p p' p'') (h' : Tr q q' q'') : Tr (lx p q) (lx p' q') (lx p'' q'') := by
  obtain ⟨a1, a2⟩ := h
  by_cases e1 : p = 0
  · by_cases e2 : p' = 0
    · have e3 := a2 e1 e2
      unfold lx
      rw [if_pos e1, if_pos e2, if_pos e3]
      exact h'
    · unfold lx Tr
      rw [if_pos e1, if_neg e2]
      refine ⟨fun h1 h2 => ?_, fun h1 h2 => absurd h2 e2⟩
      obtain ⟨k1, k2⟩ := a1 (by omega) h2
      have e3 : p'' ≠ 0 := fun e => e2 (k2 e).2
      rw [if_neg e3]
      exact ⟨k1, fun e => absurd e e3⟩
  · by_cases e2 : p' = 0
    · unfold lx Tr
      rw [if_neg e1, if_pos e2]
      refine ⟨fun h1 h2 => ?_, fun h1 h2 => absurd h1 e1⟩
      obtain ⟨k1, k2⟩ := a1 h1 (by omega)
      have e3 : p'' ≠ 0 := fun e => e1 (k2 e).1
      rw [if_neg e3]
      exact ⟨k1, fun e => absurd e e3⟩
    · unfold lx Tr
      rw [if_neg e1, if_neg e2]
      refine ⟨fun h1 h2 => ?_, fun h1 h2 => absurd h1 e1⟩
      obtain ⟨k1, k2⟩ := a1 h1 h2
      have e3 : p'' ≠ 0 := fun e => e1 (k2 e).1
      rw [if_neg e3]
      exact ⟨k1, fun e => absurd e e3⟩
theorem sg3_r (x y : Int) : R3 (sg3 x y) := by unfold sg3 R3; repeat' split
                                               all_goals omega
theorem sg3_neg (x y : Int) : sg3 y x = -sg3 x y := by unfold sg3; repeat' split
                                                       all_goals omega
theorem sg3_zero {x y : Int} : sg3 x y = 0 ↔ x = y := by
  unfold sg3
  by_cases h1 : x < y
  · rw [if_pos h1]; constructor <;> intro h <;> omega
  · rw [if_neg h1]
    by_cases h2 : y < x
    · rw [if_pos h2]; constructor <;> intro h <;> omega
    · rw [if_neg h2]; constructor <;> intro h <;> omega
theorem sg3_tr (x y z : Int) : Tr (sg3 x y) (sg3 y z) (sg3 x z) := by
  unfold sg3 Tr
  constructor
  · intro h1 h2
    constructor
    · repeat' split at h1
      all_goals (repeat' split at h2)
      all_goals (repeat' split)
      all_goals omega
    · intro h3
      repeat' split at h1
      all_goals (repeat' split at h2)
      all_goals (repeat' split at h3)
      all_goals first | omega | (constructor <;> omega)
  · intro h1 h2
    repeat' split at h1
    all_goals (repeat' split at h2)
    all_goals (repeat' split)
    all_goals omega
theorem tcmp_r : ∀ x y, R3 (tcmp x y)
  | [], [] => by unfold tcmp R3; omega
  | [], _ :: _ => by unfold tcmp R3; omega
  | _ :: _, [] => by unfold tcmp R3; omega
  | a :: x, b :: y => by rw [tcmp]; exact lx_r (sg3_r a b) (tcmp_r x y)
theorem tcmp_neg : ∀ x y, tcmp y x = -tcmp x y
  | [], [] => rfl
  | [], _ :: _ => rfl
  | _ :: _, [] => rfl
  | a :: x, b :: y => by rw [tcmp, tcmp, sg3_neg, tcmp_neg x y, lx_neg]
theorem tcmp_zero : ∀ {x y}, tcmp x y = 0 ↔ x = y
  | [], [] => by simp [tcmp]
  | [], _ :: _ => by simp [tcmp]
  | _ :: _, [] => by simp [tcmp]
  | a :: x, b :: y => by rw [tcmp, lx_zero, sg3_zero, tcmp_zero, List.cons.injEq]
theorem tcmp_tr : ∀ x y z, Tr (tcmp x y) (tcmp y z) (tcmp x z)
  | [], [], z => by cases z <;> (unfold tcmp Tr; omega)
  | [], _ :: _, z => by cases z <;> (unfold tcmp Tr; omega)
  | _ :: _, [], z => by cases z <;> (unfold tcmp Tr; omega)
  | a :: x, b :: y, [] => by
    unfold Tr
    have e1 : tcmp (b :: y) [] = 1 := rfl
    have e2 : tcmp (a :: x) [] = 1 := rfl
    rw [e1, e2]; omega
  | a :: x, b :: y, c :: z => by rw [tcmp, tcmp, tcmp]; exact lx_tr (sg3_tr a b c) (tcmp_tr x y z)
theorem hcmp_r (a b : Va) : R3 (hcmp a b) := lx_r (sg3_r _ _) (lx_r (sg3_r _ _) (lx_r (sg3_r _ _) (lx_r (sg3_r _ _) (lx_r (sg3_r _ _) (tcmp_r _ _)))))
theorem hcmp_neg (a b : Va) : hcmp b a = -hcmp a b := by
  unfold hcmp
  rw [sg3_neg a.kind, sg3_neg a.n, sg3_neg a.ext, sg3_neg (vnum a), sg3_neg (tkey a.bits), tcmp_neg a.text, lx_neg, lx_neg, lx_neg, lx_neg, lx_neg]
theorem hcmp_self (a : Va) : hcmp a a = 0 := by
  unfold hcmp
  rw [lx_zero, lx_zero, lx_zero, lx_zero, lx_zero]
  exact ⟨sg3_zero.2 rfl, sg3_zero.2 rfl, sg3_zero.2 rfl, sg3_zero.2 rfl, sg3_zero.2 rfl, tcmp_zero.2 rfl⟩
theorem hcmp_tr (a b c : Va) : Tr (hcmp a b) (hcmp b c) (hcmp a c) :=
  lx_tr (sg3_tr _ _ _) (lx_tr (sg3_tr _ _ _) (lx_tr (sg3_tr _ _ _) (lx_tr (sg3_tr _ _ _) (lx_tr (sg3_tr _ _ _) (tcmp_tr _ _ _)))))
/-- of lists, where it holds of the first one's elements -/
theorem kcmp_r : ∀ {x : List Va} (y : List Va), (∀ a ∈ x, ∀ b, R3 (vcmp a b)) → R3 (kcmp x y)
  | [], [], _ => by unfold kcmp R3; omega
  | [], _ :: _, _ => by unfold kcmp R3; omega
  | _ :: _, [], _ => by unfold kcmp R3; omega
  | a :: x, b :: y, h => by rw [kcmp]; exact lx_r (h a List.mem_cons_self b) (kcmp_r y fun c hc => h c (List.mem_cons_of_mem _ hc))
theorem kcmp_neg : ∀ {x : List Va} (y : List Va), (∀ a ∈ x, ∀ b, vcmp b a = -vcmp a b) → kcmp y x = -kcmp x y
  | [], [], _ => by simp [kcmp]
  | [], _ :: _, _ => by simp [kcmp]
  | _ :: _, [], _ => by simp [kcmp]
  | a :: x, b :: y, h => by rw [kcmp, kcmp, h a List.mem_cons_self b, kcmp_neg y (fun c hc => h c (List.mem_cons_of_mem _ hc)), lx_neg]
theorem kcmp_self : ∀ {x : List Va}, (∀ a ∈ x, vcmp a a = 0) → kcmp x x = 0
  | [], _ => by simp [kcmp]
  | a :: x, h => by rw [kcmp, lx_zero]; exact ⟨h a List.mem_cons_self, kcmp_self fun c hc => h c (List.mem_cons_of_mem _ hc)⟩
theorem kcmp_tr : ∀ {x : List Va} (y z : List Va), (∀ a ∈ x, ∀ b c, Tr (vcmp a b) (vcmp b c) (vcmp a c)) → Tr (kcmp x y) (kcmp y z) (kcmp x z)
  | [], [], z, _ => by cases z <;> (simp only [kcmp]; unfold Tr; omega)
  | [], _ :: _, z, _ => by
    cases z with
    | nil => simp only [kcmp]; unfold Tr; omega
    | cons c z => simp only [kcmp]; unfold Tr; omega
  | _ :: _, [], z, _ => by cases z <;> (simp only [kcmp]; unfold Tr; omega)
  | a :: x, b :: y, [], _ => by simp only [kcmp]; unfold Tr; omega
  | a :: x, b :: y, c :: z, h => by
    rw [kcmp, kcmp, kcmp]
    exact lx_tr (h a List.mem_cons_self b c) (kcmp_tr y z fun d hd => h d (List.mem_cons_of_mem _ hd))
/-- the order of values is one -/
theorem vcmp_order : ∀ (N : Nat) (a : Va), SizeOf.sizeOf a ≤ N → (∀ b, R3 (vcmp a b)) ∧ (∀ b, vcmp b a = -vcmp a b) ∧ vcmp a a = 0 ∧ ∀ b c, Tr (vcmp a b) (vcmp b c) (vcmp a c) := by
  intro N
  induction N with
  | zero => intro a h; cases a; simp at h
  | succ N ih =>
    intro a h
    have hk : ∀ x ∈ a.kids, SizeOf.sizeOf x ≤ N := fun x hx => by have := Va.kid_lt hx; omega
    refine ⟨fun b => ?_, fun b => ?_, ?_, fun b c => ?_⟩
    · rw [vcmp_eq]; exact lx_r (hcmp_r _ _) (kcmp_r _ fun x hx => (ih x (hk x hx)).1)
    · rw [vcmp_eq, vcmp_eq, hcmp_neg, kcmp_neg _ (fun x hx => (ih x (hk x hx)).2.1), lx_neg]
    · rw [vcmp_eq, lx_zero]; exact ⟨hcmp_self a, kcmp_self fun x hx => (ih x (hk x hx)).2.2.1⟩
    · rw [vcmp_eq, vcmp_eq, vcmp_eq]; exact lx_tr (hcmp_tr _ _ _) (kcmp_tr _ _ fun x hx => (ih x (hk x hx)).2.2.2)
theorem vcmp_r (a b : Va) : R3 (vcmp a b) := (vcmp_order _ a (Nat.le_refl _)).1 b
theorem vcmp_neg (a b : Va) : vcmp b a = -vcmp a b := (vcmp_order _ a (Nat.le_refl _)).2.1 b
theorem vcmp_self (a : Va) : vcmp a a = 0 := (vcmp_order _ a (Nat.le_refl _)).2.2.1
theorem vcmp_tr (a b c : Va) : Tr (vcmp a b) (vcmp b c) (vcmp a c) := (vcmp_order _ a (Nat.le_refl _)).2.2.2 b c
/-- is it a container? -/
def vcont (x : Va) : Bool := x.kind == 7 || x.kind == 8 || x.kind == 9
mutual
/-- how deep, how many nodes, how many parts (limbs too) -/
def vdep : Va → Int
  | .mk k _ _ _ _ _ _ ks => if k == 7 || k == 8 || k == 9 then kdep ks + 1 else 0
def kdep : List Va → Int
  | [] => 0
  | a :: x => max (vdep a) (kdep x)
end
mutual
def vnod : Va → Nat
  | .mk _ _ _ _ _ _ _ ks => 1 + knod ks
def knod : List Va → Nat
  | [] => 0
  | a :: x => vnod a + knod x
end
mutual
def vpts : Va → Nat
  | .mk _ _ _ m _ _ _ ks => 1 + m.length + kpts ks
def kpts : List Va → Nat
  | [] => 0
  | a :: x => vpts a + kpts x
end
theorem vdep_eq (x : Va) : vdep x = if vcont x then kdep x.kids + 1 else 0 := by cases x; rw [vdep]; rfl
theorem vnod_eq (x : Va) : vnod x = 1 + knod x.kids := by cases x; simp only [vnod, Va.kids]
theorem vpts_eq (x : Va) : vpts x = 1 + x.mag.length + kpts x.kids := by cases x; simp only [vpts, Va.kids, Va.mag]
theorem kpts_app (x y : List Va) : kpts (x ++ y) = kpts x + kpts y := by
  induction x with
  | nil => simp [kpts]
  | cons a x ih => rw [List.cons_append, kpts, kpts, ih]; omega
/-- level by level -/
theorem kpts_level (x : List Va) : kpts x = x.length + (x.map fun a => a.mag.length).sum + kpts (x.flatMap Va.kids) := by
  induction x with
  | nil => simp [kpts]
  | cons a x ih => rw [kpts, List.flatMap_cons, kpts_app, vpts_eq, ih, List.length_cons, List.map_cons, List.sum_cons]; omega

end Go.Proofs.YtggoobbnibpbkaaGreatDoor
