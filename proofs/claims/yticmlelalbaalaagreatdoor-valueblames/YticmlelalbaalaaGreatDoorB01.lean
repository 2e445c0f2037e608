namespace Go.Proofs.YticmlelalbaalaaGreatDoor
namespace Nt
def pw : Nat → Int
  | 0 => 1
  | n + 1 => 4294967296 * pw n
theorem pw_pos (n : Nat) : 0 < pw n := by
  induction n with
  | zero => decide
  | succ n ih => simp only [pw]; omega
theorem pw_succ (n : Nat) : pw (n + 1) = 4294967296 * pw n := rfl
theorem pw_add (m n : Nat) : pw (m + n) = pw m * pw n := by
  induction n with
  | zero => simp [pw]
  | succ n ih => rw [← Nat.add_assoc, pw_succ, ih, pw_succ, Int.mul_left_comm]
theorem pw_mono {m n : Nat} (h : m ≤ n) : pw m ≤ pw n := by
  induction n with
  | zero => have : m = 0 := by omega
            subst this; exact Int.le_refl _
  | succ n ih =>
    by_cases e : m = n + 1
    · subst e; exact Int.le_refl _
    · have := ih (by omega); have := pw_pos n; rw [pw_succ]; omega
def lb (xs : List Int) (i : Nat) : Int := xs.getD i 0
def vt (xs : List Int) : Nat → Int
  | 0 => 0
  | n + 1 => vt xs n + lb xs n * pw n
def val (xs : List Int) : Int := vt xs xs.length
def Ok (xs : List Int) : Prop := ∀ i, 0 ≤ lb xs i ∧ lb xs i < 4294967296
def Canon (xs : List Int) : Prop := Ok xs ∧ (xs ≠ [] → lb xs (xs.length - 1) ≠ 0)
theorem vt_succ (xs : List Int) (n : Nat) : vt xs (n + 1) = vt xs n + lb xs n * pw n := rfl
theorem lb_out {xs : List Int} {i : Nat} (h : xs.length ≤ i) : lb xs i = 0 := by
  simp [lb, List.getElem?_eq_none h]
theorem vt_out {xs : List Int} {n : Nat} (h : xs.length ≤ n) : vt xs n = val xs := by
  induction n with
  | zero => unfold val; rw [show xs.length = 0 by omega]
  | succ n ih =>
    by_cases e : xs.length = n + 1
    · unfold val; rw [e]
    · rw [vt_succ, ih (by omega), lb_out (by omega)]; simp
theorem vt_bounds {xs : List Int} (h : Ok xs) (n : Nat) : 0 ≤ vt xs n ∧ vt xs n < pw n := by
  induction n with
  | zero => simp [vt, pw]
  | succ n ih =>
    have hp := pw_pos n
    have hx := h n
    have h1 : 0 ≤ lb xs n * pw n := Int.mul_nonneg hx.1 (by omega)
    have h2 : lb xs n * pw n ≤ 4294967295 * pw n := Int.mul_le_mul_of_nonneg_right (by omega) (by omega)
    rw [vt_succ, pw_succ]
    omega
theorem val_nonneg {xs : List Int} (h : Ok xs) : 0 ≤ val xs := (vt_bounds h _).1
theorem val_lt {xs : List Int} (h : Ok xs) : val xs < pw xs.length := (vt_bounds h _).2
theorem vt_congr {xs ys : List Int} {n : Nat} (h : ∀ i, i < n → lb xs i = lb ys i) : vt xs n = vt ys n := by
  induction n with
  | zero => rfl
  | succ n ih => rw [vt_succ, vt_succ, ih (fun i hi => h i (by omega)), h n (by omega)]
theorem mul_pw_cancel {a b x y p : Int} (hp : 0 < p) (ha : 0 ≤ a ∧ a < p) (hb : 0 ≤ b ∧ b < p) (h : a + x * p = b + y * p) : x = y ∧ a = b := by
  have hxy : x = y := by
    rcases Int.lt_trichotomy x y with h' | h' | h'
    · have : (x + 1) * p ≤ y * p := Int.mul_le_mul_of_nonneg_right (by omega) (by omega)
      rw [Int.add_mul] at this; omega
    · exact h'
    · have : (y + 1) * p ≤ x * p := Int.mul_le_mul_of_nonneg_right (by omega) (by omega)
      rw [Int.add_mul] at this; omega
  subst hxy
  exact ⟨rfl, by omega⟩
theorem vt_inj {xs ys : List Int} (hx : Ok xs) (hy : Ok ys) {n : Nat} (h : vt xs n = vt ys n) : ∀ i, i < n → lb xs i = lb ys i := by
  induction n with
  | zero => intro i hi; omega
  | succ n ih =>
    rw [vt_succ, vt_succ] at h
    obtain ⟨h1, h2⟩ := mul_pw_cancel (pw_pos n) (vt_bounds hx n) (vt_bounds hy n) h
    intro i hi
    by_cases e : i = n
    · subst e; exact h1
    · exact ih h2 i (by omega)
theorem ext_lb {xs ys : List Int} (hl : xs.length = ys.length) (h : ∀ i, i < xs.length → lb xs i = lb ys i) : xs = ys := by
  apply List.ext_getElem hl
  intro i h1 h2
  have := h i h1
  simpa [lb, h1, h2] using this
theorem canon_low {xs : List Int} (h : Canon xs) (hn : xs ≠ []) : pw (xs.length - 1) ≤ val xs := by
  obtain ⟨n, hl⟩ : ∃ n, xs.length = n + 1 := ⟨xs.length - 1, by have := List.length_pos_iff.2 hn; omega⟩
  have h0 := h.2 hn
  rw [hl, Nat.add_sub_cancel] at h0 ⊢
  have hb := h.1 n
  have hv := vt_bounds h.1 n
  unfold val
  rw [hl, vt_succ]
  have : 1 * pw n ≤ lb xs n * pw n := Int.mul_le_mul_of_nonneg_right (by omega) (by have := pw_pos n; omega)
  omega
theorem canon_lt {xs ys : List Int} (hx : Ok xs) (hy : Canon ys) (h : xs.length < ys.length) : val xs < val ys := by
  have h1 := val_lt hx
  have h2 := canon_low hy (by intro e; subst e; simp at h)
  have h3 := pw_mono (m := xs.length) (n := ys.length - 1) (by omega)
  omega
theorem canon_unique {xs ys : List Int} (hx : Canon xs) (hy : Canon ys) (h : val xs = val ys) : xs = ys := by
  have hl : xs.length = ys.length := by
    rcases Nat.lt_trichotomy xs.length ys.length with h' | h' | h'
    · have := canon_lt hx.1 hy h'; omega
    · exact h'
    · have := canon_lt hy.1 hx h'; omega
  exact ext_lb hl (vt_inj hx.1 hy.1 (by unfold val at h; rw [hl] at h ⊢; exact h))
theorem val_nil : val [] = 0 := rfl
theorem canon_nil : Canon [] := ⟨fun i => by simp [lb], fun h => absurd rfl h⟩
theorem canon_zero {xs : List Int} (h : Canon xs) : val xs = 0 ↔ xs = [] := by
  constructor
  · intro e; exact canon_unique h canon_nil (by rw [e, val_nil])
  · intro e; subst e; rfl
theorem lb_take {xs : List Int} {k i : Nat} (h : i < k) : lb (xs.take k) i = lb xs i := by
  simp only [lb, List.getD_eq_getElem?_getD, List.getElem?_take, h, if_true]
theorem lb_take_out {xs : List Int} {k i : Nat} (h : k ≤ i) : lb (xs.take k) i = 0 := by
  simp only [lb, List.getD_eq_getElem?_getD, List.getElem?_take, show ¬ i < k by omega, if_false]; rfl
theorem ok_take {xs : List Int} (h : Ok xs) (k : Nat) : Ok (xs.take k) := by
  intro i
  by_cases e : i < k
  · rw [lb_take e]; exact h i
  · rw [lb_take_out (by omega)]; omega
theorem val_take {xs : List Int} {k : Nat} (hk : k ≤ xs.length) : val (xs.take k) = vt xs k := by
  unfold val
  rw [List.length_take, Nat.min_eq_left hk]
  exact vt_congr fun i hi => lb_take hi
theorem vt_cut {xs : List Int} {k n : Nat} (hk : k ≤ n) (h : ∀ i, k ≤ i → i < n → lb xs i = 0) : vt xs n = vt xs k := by
  induction n with
  | zero => rw [show k = 0 by omega]
  | succ n ih =>
    by_cases e : k = n + 1
    · rw [e]
    · rw [vt_succ, h n (by omega) (by omega), ih (by omega) (fun i a b => h i a (by omega))]; simp
theorem canon_take {xs : List Int} {k : Nat} (ho : Ok xs) (hk : k ≤ xs.length) (h0 : 0 < k → lb xs (k - 1) ≠ 0) : Canon (xs.take k) := by
  refine ⟨ok_take ho k, fun hn => ?_⟩
  have hl : (xs.take k).length = k := by rw [List.length_take, Nat.min_eq_left hk]
  have hp := List.length_pos_iff.2 hn
  rw [hl] at hp ⊢
  rw [lb_take (by omega)]
  exact h0 hp
theorem lb_set_eq {xs : List Int} {i : Nat} (h : i < xs.length) (v : Int) : lb (xs.set i v) i = v := by
  simp [lb, h]
theorem lb_set_ne {xs : List Int} {i j : Nat} (h : i ≠ j) (v : Int) : lb (xs.set i v) j = lb xs j := by
  simp [lb, List.getElem?_set_ne h]
theorem ok_set {xs : List Int} (h : Ok xs) {i : Nat} {v : Int} (hv : 0 ≤ v ∧ v < 4294967296) : Ok (xs.set i v) := by
  intro j
  by_cases e : i = j
  · subst e
    by_cases hl : i < xs.length
    · rw [lb_set_eq hl]; exact hv
    · rw [lb_out (by simp; omega)]; omega
  · rw [lb_set_ne e]; exact h j
theorem vt_set {xs : List Int} {i n : Nat} (h : n ≤ i) (v : Int) : vt (xs.set i v) n = vt xs n :=
  vt_congr fun j hj => lb_set_ne (by omega) v
theorem ok_nil : Ok [] := canon_nil.1
theorem ok_replicate (n : Nat) : Ok (List.replicate n 0) := by
  intro i
  by_cases h : i < n <;> simp [lb, h]
theorem lb_replicate (n i : Nat) : lb (List.replicate n 0) i = 0 := by
  by_cases h : i < n <;> simp [lb, h]
theorem vt_lt_at {xs ys : List Int} (hx : Ok xs) (hy : Ok ys) {p n : Nat} (hp : p < n) (he : ∀ i, p < i → i < n → lb xs i = lb ys i) (hl : lb xs p < lb ys p) : vt xs n < vt ys n := by
  induction n with
  | zero => omega
  | succ n ih =>
    by_cases e : p = n
    · subst e
      rw [vt_succ, vt_succ]
      have h1 := vt_bounds hx p
      have h2 := vt_bounds hy p
      have : (lb xs p + 1) * pw p ≤ lb ys p * pw p := Int.mul_le_mul_of_nonneg_right (by omega) (by have := pw_pos p; omega)
      rw [Int.add_mul] at this
      omega
    · rw [vt_succ, vt_succ, he n (by omega) (by omega)]
      have := ih (by omega) (fun i a b => he i a (by omega))
      omega
end Nt
end Go.Proofs.YticmlelalbaalaaGreatDoor
namespace Go.Proofs.YticmlelalbaalaaGreatDoor
set_option linter.unusedVariables false
inductive Va where
  | mk (kind n : Int) (neg : Bool) (mag : List Int) (bits ext : Int) (text : List Int) (kids : List Va)
instance : Inhabited Va := ⟨.mk 0 0 false [] 0 0 [] []⟩
def Va.kind : Va → Int | .mk k _ _ _ _ _ _ _ => k
def Va.n : Va → Int | .mk _ n _ _ _ _ _ _ => n
def Va.neg : Va → Bool | .mk _ _ g _ _ _ _ _ => g
def Va.mag : Va → List Int | .mk _ _ _ m _ _ _ _ => m
def Va.bits : Va → Int | .mk _ _ _ _ b _ _ _ => b
def Va.ext : Va → Int | .mk _ _ _ _ _ e _ _ => e
def Va.text : Va → List Int | .mk _ _ _ _ _ _ t _ => t
def Va.kids : Va → List Va | .mk _ _ _ _ _ _ _ ks => ks
theorem Va.kid_lt {x : Va} {y : Va} (h : y ∈ x.kids) : SizeOf.sizeOf y < SizeOf.sizeOf x := by
  cases x with
  | mk k n g m b e t ks =>
    have h1 : SizeOf.sizeOf y < SizeOf.sizeOf ks := List.sizeOf_lt_of_mem h
    simp only [Va.mk.sizeOf_spec]
    omega
def sg3 (x y : Int) : Int := if x < y then -1 else if y < x then 1 else 0
def lx (p q : Int) : Int := if p = 0 then q else p
def tcmp : List Int → List Int → Int
  | [], [] => 0
  | [], _ :: _ => -1
  | _ :: _, [] => 1
  | a :: x, b :: y => lx (sg3 a b) (tcmp x y)
def tkey (b : Int) : Int := if b < 9223372036854775808 then b else 9223372036854775807 - b
def vnum (x : Va) : Int := if x.neg then -(Nt.val x.mag) else Nt.val x.mag
def hcmp (a b : Va) : Int := lx (sg3 a.kind b.kind) (lx (sg3 a.n b.n) (lx (sg3 a.ext b.ext) (lx (sg3 (vnum a) (vnum b)) (lx (sg3 (tkey a.bits) (tkey b.bits)) (tcmp a.text b.text)))))
mutual
def vcmp : Va → Va → Int
  | .mk k n g m b e t ks, y => lx (hcmp (.mk k n g m b e t ks) y) (kcmp ks y.kids)
def kcmp : List Va → List Va → Int
  | [], [] => 0
  | [], _ :: _ => -1
  | _ :: _, [] => 1
  | a :: x, b :: y => lx (vcmp a b) (kcmp x y)
end
theorem vcmp_eq (x y : Va) : vcmp x y = lx (hcmp x y) (kcmp x.kids y.kids) := by cases x; rw [vcmp]; rfl
def Tr (x y z : Int) : Prop := (x ≤ 0 → y ≤ 0 → z ≤ 0 ∧ (z = 0 → x = 0 ∧ y = 0)) ∧ (x = 0 → y = 0 → z = 0)
def R3 (x : Int) : Prop := -1 ≤ x ∧ x ≤ 1
theorem lx_r {p q : Int} (hp : R3 p) (hq : R3 q) : R3 (lx p q) := by unfold lx; split <;> assumption
theorem lx_neg (p q : Int) : lx (-p) (-q) = -lx p q := by unfold lx; split <;> split <;> omega
theorem lx_zero {p q : Int} : lx p q = 0 ↔ p = 0 ∧ q = 0 := by unfold lx; split <;> constructor <;> intro h <;> first | exact ⟨by omega, by omega⟩ | omega
theorem lx_tr {p q p' q' p'' q'' : Int} (h : Tr p p' p'') (h' : Tr q q' q'') : Tr (lx p q) (lx p' q') (lx p'' q'') := by
  obtain ⟨a1, a2⟩ := h
  by_cases e1 : p = 0
  · by_cases e2 : p' = 0
    · have e3 := a2 e1 e2
      unfold lx
      rw [if_pos e1, if_pos e2, if_pos e3]
      exact h'
    · unfold lx Tr
      rw [if_pos e1, if_neg e2]
      refine ⟨fun h1 h2 => ?_, fun h1 h2 => absurd h2 e2⟩
      obtain ⟨k1, k2⟩ := a1 (by omega) h2
      have e3 : p'' ≠ 0 := fun e => e2 (k2 e).2
      rw [if_neg e3]
      exact ⟨k1, fun e => absurd e e3⟩
  · by_cases e2 : p' = 0
    · unfold lx Tr
      rw [if_neg e1, if_pos e2]
      refine ⟨fun h1 h2 => ?_, fun h1 h2 => absurd h1 e1⟩
      obtain ⟨k1, k2⟩ := a1 h1 (by omega)
      have e3 : p'' ≠ 0 := fun e => e1 (k2 e).1
      rw [if_neg e3]
      exact ⟨k1, fun e => absurd e e3⟩
    · unfold lx Tr
      rw [if_neg e1, if_neg e2]
      refine ⟨fun h1 h2 => ?_, fun h1 h2 => absurd h1 e1⟩
      obtain ⟨k1, k2⟩ := a1 h1 h2
      have e3 : p'' ≠ 0 := fun e => e1 (k2 e).1
      rw [if_neg e3]
      exact ⟨k1, fun e => absurd e e3⟩
theorem sg3_r (x y : Int) : R3 (sg3 x y) := by unfold sg3 R3; repeat' split
                                               all_goals omega
theorem sg3_neg (x y : Int) : sg3 y x = -sg3 x y := by unfold sg3; repeat' split
                                                       all_goals omega
theorem sg3_zero {x y : Int} : sg3 x y = 0 ↔ x = y := by
  unfold sg3
  by_cases h1 : x < y
  · rw [if_pos h1]; constructor <;> intro h <;> omega
  · rw [if_neg h1]
    by_cases h2 : y < x
    · rw [if_pos h2]; constructor <;> intro h <;> omega
    · rw [if_neg h2]; constructor <;> intro h <;> omega
theorem sg3_tr (x y z : Int) : Tr (sg3 x y) (sg3 y z) (sg3 x z) := by
  unfold sg3 Tr
  constructor
  · intro h1 h2
    constructor
    · repeat' split at h1
      all_goals (repeat' split at h2)
      all_goals (repeat' split)
      all_goals omega
    · intro h3
      repeat' split at h1
      all_goals (repeat' split at h2)
      all_goals (repeat' split at h3)
      all_goals first | omega | (constructor <;> omega)
  · intro h1 h2
    repeat' split at h1
    all_goals (repeat' split at h2)
    all_goals (repeat' split)
    all_goals omega
theorem tcmp_r : ∀ x y, R3 (tcmp x y)
  | [], [] => by unfold tcmp R3; omega
  | [], _ :: _ => by unfold tcmp R3; omega
  | _ :: _, [] => by unfold tcmp R3; omega
  | a :: x, b :: y => by rw [tcmp]; exact lx_r (sg3_r a b) (tcmp_r x y)
theorem tcmp_neg : ∀ x y, tcmp y x = -tcmp x y
  | [], [] => rfl
  | [], _ :: _ => rfl
  | _ :: _, [] => rfl
  | a :: x, b :: y => by rw [tcmp, tcmp, sg3_neg, tcmp_neg x y, lx_neg]
theorem tcmp_zero : ∀ {x y}, tcmp x y = 0 ↔ x = y
  | [], [] => by simp [tcmp]
  | [], _ :: _ => by simp [tcmp]
  | _ :: _, [] => by simp [tcmp]
  | a :: x, b :: y => by rw [tcmp, lx_zero, sg3_zero, tcmp_zero, List.cons.injEq]
theorem tcmp_tr : ∀ x y z, Tr (tcmp x y) (tcmp y z) (tcmp x z)
  | [], [], z => by cases z <;> (unfold tcmp Tr; omega)
  | [], _ :: _, z => by cases z <;> (unfold tcmp Tr; omega)
  | _ :: _, [], z => by cases z <;> (unfold tcmp Tr; omega)
  | a :: x, b :: y, [] => by
    unfold Tr
    have e1 : tcmp (b :: y) [] = 1 := rfl
    have e2 : tcmp (a :: x) [] = 1 := rfl
    rw [e1, e2]; omega
  | a :: x, b :: y, c :: z => by rw [tcmp, tcmp, tcmp]; exact lx_tr (sg3_tr a b c) (tcmp_tr x y z)
theorem hcmp_r (a b : Va) : R3 (hcmp a b) := lx_r (sg3_r _ _) (lx_r (sg3_r _ _) (lx_r (sg3_r _ _) (lx_r (sg3_r _ _) (lx_r (sg3_r _ _) (tcmp_r _ _)))))
theorem hcmp_neg (a b : Va) : hcmp b a = -hcmp a b := by
  unfold hcmp
  rw [sg3_neg a.kind, sg3_neg a.n, sg3_neg a.ext, sg3_neg (vnum a), sg3_neg (tkey a.bits), tcmp_neg a.text, lx_neg, lx_neg, lx_neg, lx_neg, lx_neg]
theorem hcmp_self (a : Va) : hcmp a a = 0 := by
  unfold hcmp
  rw [lx_zero, lx_zero, lx_zero, lx_zero, lx_zero]
  exact ⟨sg3_zero.2 rfl, sg3_zero.2 rfl, sg3_zero.2 rfl, sg3_zero.2 rfl, sg3_zero.2 rfl, tcmp_zero.2 rfl⟩
theorem hcmp_tr (a b c : Va) : Tr (hcmp a b) (hcmp b c) (hcmp a c) :=
  lx_tr (sg3_tr _ _ _) (lx_tr (sg3_tr _ _ _) (lx_tr (sg3_tr _ _ _) (lx_tr (sg3_tr _ _ _) (lx_tr (sg3_tr _ _ _) (tcmp_tr _ _ _)))))
theorem kcmp_r : ∀ {x : List Va} (y : List Va), (∀ a ∈ x, ∀ b, R3 (vcmp a b)) → R3 (kcmp x y)
  | [], [], _ => by unfold kcmp R3; omega
  | [], _ :: _, _ => by unfold kcmp R3; omega
  | _ :: _, [], _ => by unfold kcmp R3; omega
  | a :: x, b :: y, h => by rw [kcmp]; exact lx_r (h a List.mem_cons_self b) (kcmp_r y fun c hc => h c (List.mem_cons_of_mem _ hc))
theorem kcmp_neg : ∀ {x : List Va} (y : List Va), (∀ a ∈ x, ∀ b, vcmp b a = -vcmp a b) → kcmp y x = -kcmp x y
  | [], [], _ => by simp [kcmp]
  | [], _ :: _, _ => by simp [kcmp]
  | _ :: _, [], _ => by simp [kcmp]
  | a :: x, b :: y, h => by rw [kcmp, kcmp, h a List.mem_cons_self b, kcmp_neg y (fun c hc => h c (List.mem_cons_of_mem _ hc)), lx_neg]
theorem kcmp_self : ∀ {x : List Va}, (∀ a ∈ x, vcmp a a = 0) → kcmp x x = 0
  | [], _ => by simp [kcmp]
  | a :: x, h => by rw [kcmp, lx_zero]; exact ⟨h a List.mem_cons_self, kcmp_self fun c hc => h c (List.mem_cons_of_mem _ hc)⟩
theorem kcmp_tr : ∀ {x : List Va} (y z : List Va), (∀ a ∈ x, ∀ b c, Tr (vcmp a b) (vcmp b c) (vcmp a c)) → Tr (kcmp x y) (kcmp y z) (kcmp x z)
  | [], [], z, _ => by cases z <;> (simp only [kcmp]; unfold Tr; omega)
  | [], _ :: _, z, _ => by
    cases z with
    | nil => simp only [kcmp]; unfold Tr; omega
    | cons c z => simp only [kcmp]; unfold Tr; omega
  | _ :: _, [], z, _ => by cases z <;> (simp only [kcmp]; unfold Tr; omega)
  | a :: x, b :: y, [], _ => by simp only [kcmp]; unfold Tr; omega
  | a :: x, b :: y, c :: z, h => by
    rw [kcmp, kcmp, kcmp]
    exact lx_tr (h a List.mem_cons_self b c) (kcmp_tr y z fun d hd => h d (List.mem_cons_of_mem _ hd))
theorem vcmp_order : ∀ (N : Nat) (a : Va), SizeOf.sizeOf a ≤ N → (∀ b, R3 (vcmp a b)) ∧ (∀ b, vcmp b a = -vcmp a b) ∧ vcmp a a = 0 ∧ ∀ b c, Tr (vcmp a b) (vcmp b c) (vcmp a c) := by
  intro N
  induction N with
  | zero => intro a h; cases a; simp at h
  | succ N ih =>
    intro a h
    have hk : ∀ x ∈ a.kids, SizeOf.sizeOf x ≤ N := fun x hx => by have := Va.kid_lt hx; omega
    refine ⟨fun b => ?_, fun b => ?_, ?_, fun b c => ?_⟩
    · rw [vcmp_eq]; exact lx_r (hcmp_r _ _) (kcmp_r _ fun x hx => (ih x (hk x hx)).1)
    · rw [vcmp_eq, vcmp_eq, hcmp_neg, kcmp_neg _ (fun x hx => (ih x (hk x hx)).2.1), lx_neg]
    · rw [vcmp_eq, lx_zero]; exact ⟨hcmp_self a, kcmp_self fun x hx => (ih x (hk x hx)).2.2.1⟩
    · rw [vcmp_eq, vcmp_eq, vcmp_eq]; exact lx_tr (hcmp_tr _ _ _) (kcmp_tr _ _ fun x hx => (ih x (hk x hx)).2.2.2)
theorem vcmp_r (a b : Va) : R3 (vcmp a b) := (vcmp_order _ a (Nat.le_refl _)).1 b
def vcont (x : Va) : Bool := x.kind == 7 || x.kind == 8 || x.kind == 9
mutual
def vdep : Va → Int
  | .mk k _ _ _ _ _ _ ks => if k == 7 || k == 8 || k == 9 then kdep ks + 1 else 0
def kdep : List Va → Int
  | [] => 0
  | a :: x => max (vdep a) (kdep x)
end
mutual
def vnod : Va → Nat
  | .mk _ _ _ _ _ _ _ ks => 1 + knod ks
def knod : List Va → Nat
  | [] => 0
  | a :: x => vnod a + knod x
end
mutual
def vpts : Va → Nat
  | .mk _ _ _ m _ _ _ ks => 1 + m.length + kpts ks
def kpts : List Va → Nat
  | [] => 0
  | a :: x => vpts a + kpts x
end
theorem vdep_eq (x : Va) : vdep x = if vcont x then kdep x.kids + 1 else 0 := by cases x; rw [vdep]; rfl
theorem vnod_eq (x : Va) : vnod x = 1 + knod x.kids := by cases x; simp only [vnod, Va.kids]
theorem vpts_eq (x : Va) : vpts x = 1 + x.mag.length + kpts x.kids := by cases x; simp only [vpts, Va.kids, Va.mag]
theorem kpts_app (x y : List Va) : kpts (x ++ y) = kpts x + kpts y := by
  induction x with
  | nil => simp [kpts]
  | cons a x ih => rw [List.cons_append, kpts, kpts, ih]; omega
theorem kpts_level (x : List Va) : kpts x = x.length + (x.map fun a => a.mag.length).sum + kpts (x.flatMap Va.kids) := by
  induction x with
  | nil => simp [kpts]
  | cons a x ih => rw [kpts, List.flatMap_cons, kpts_app, vpts_eq, ih, List.length_cons, List.map_cons, List.sum_cons]; omega
end Go.Proofs.YticmlelalbaalaaGreatDoor
namespace Go.Proofs.YticmlelalbaalaaGreatDoor
set_option linter.unusedVariables false
mutual
def preV (p : List Int) : Va → List (List Int × Va)
  | .mk k n g m b e t ks => (p, .mk k n g m b e t ks) :: preK p 0 ks
def preK (p : List Int) (i : Nat) : List Va → List (List Int × Va)
  | [] => []
  | y :: ys => preV (p ++ [(i : Int)]) y ++ preK p (i + 1) ys
end
theorem preV_eq (p : List Int) (x : Va) : preV p x = (p, x) :: preK p 0 x.kids := by cases x; rw [preV]; rfl
theorem preK_at (p : List Int) (xs : List Va) {i : Nat} (h : i < xs.length) : preK p i (xs.drop i) = preV (p ++ [(i : Int)]) xs[i] ++ preK p (i + 1) (xs.drop (i + 1)) := by
  rw [List.drop_eq_getElem_cons h, preK]
theorem preK_end (p : List Int) (xs : List Va) {i : Nat} (h : xs.length ≤ i) : preK p i (xs.drop i) = [] := by
  rw [List.drop_eq_nil_of_le h, preK]
theorem preK_len : ∀ (p : List Int) (xs : List Va) (i : Nat), (∀ x ∈ xs, ∀ p, (preV p x).length = vnod x) → (preK p i xs).length = knod xs
  | _, [], _, _ => by simp [preK, knod]
  | p, x :: xs, i, h => by
    rw [preK, List.length_append, h x List.mem_cons_self, knod, preK_len p xs (i + 1) (fun y hy => h y (List.mem_cons_of_mem _ hy))]
theorem preV_len : ∀ (N : Nat) (x : Va), SizeOf.sizeOf x ≤ N → ∀ p, (preV p x).length = vnod x := by
  intro N
  induction N with
  | zero => intro x h; cases x; simp at h
  | succ N ih =>
    intro x h p
    rw [preV_eq, List.length_cons, vnod_eq, preK_len p x.kids 0 (fun y hy => ih y (by have := Va.kid_lt hy; omega))]
    omega
theorem vnod_pos (x : Va) : 1 ≤ vnod x := by rw [vnod_eq]; omega
theorem knod_mem : ∀ {xs : List Va} {x : Va}, x ∈ xs → vnod x ≤ knod xs
  | [], _, h => by cases h
  | y :: ys, x, h => by
    rw [knod]
    rcases List.mem_cons.1 h with rfl | h
    · omega
    · have := knod_mem h; omega
theorem knod_lt {x : Va} {i : Nat} (h : i < x.kids.length) : vnod x.kids[i] + 1 ≤ vnod x := by
  rw [vnod_eq x]
  have := knod_mem (List.getElem_mem h)
  omega
theorem knod_len : ∀ (xs : List Va), xs.length ≤ knod xs
  | [] => by simp
  | x :: xs => by rw [knod, List.length_cons]; have := knod_len xs; have := vnod_pos x; omega
theorem pre_mem : ∀ (N : Nat) (x : Va), SizeOf.sizeOf x ≤ N → ∀ (p : List Int) (q : List Int × Va), q ∈ preV p x → ∃ r : List Int, q.1 = p ++ r ∧ (∀ z ∈ r, 0 ≤ z ∧ z < vnod x) ∧ r.length < vnod x := by
  intro N
  induction N with
  | zero => intro x h; cases x; simp at h
  | succ N ih =>
    intro x h p q hq
    have key : ∀ (ks : List Va) (i : Nat), (∀ y ∈ ks, y ∈ x.kids) → i + ks.length ≤ x.kids.length → q ∈ preK p i ks → ∃ r : List Int, q.1 = p ++ r ∧ (∀ z ∈ r, 0 ≤ z ∧ z < vnod x) ∧ r.length < vnod x := by
      intro ks
      induction ks with
      | nil => intro i _ _ hq; simp [preK] at hq
      | cons y ys ihk =>
        intro i hm hi hq
        rw [preK, List.mem_append] at hq
        have hxk := vnod_eq x
        have hkl := knod_len x.kids
        rcases hq with hq | hq
        · have hy := hm y List.mem_cons_self
          obtain ⟨r, h1, h2, h3⟩ := ih y (by have := Va.kid_lt hy; omega) _ q hq
          have hv := knod_mem hy
          refine ⟨(i : Int) :: r, by rw [h1]; simp, fun z hz => ?_, by simp; omega⟩
          rcases List.mem_cons.1 hz with rfl | hz
          · simp only [List.length_cons] at hi
            omega
          · have := h2 z hz; omega
        · exact ihk (i + 1) (fun z hz => hm z (List.mem_cons_of_mem _ hz)) (by simp only [List.length_cons] at hi; omega) hq
    rw [preV_eq] at hq
    rcases List.mem_cons.1 hq with rfl | hq
    · exact ⟨[], by simp, by simp, by simp; exact vnod_pos x⟩
    · exact key x.kids 0 (fun y hy => hy) (by omega) hq
end Go.Proofs.YticmlelalbaalaaGreatDoor
namespace Go.Proofs.YticmlelalbaalaaGreatDoor
set_option linter.unusedVariables false
def uCont (c : Int) : Bool := decide (128 ≤ c) && decide (c < 192)
def uPt (p : Int) : Bool := decide (0 ≤ p) && decide (p ≤ 1114111) && (decide (p < 55296) || decide (57343 < p))
def uEnc (p : Int) : List Int :=
  if p < 128 then [p] else if p < 2048 then [192 + p / 64, 128 + p % 64]
  else if p < 65536 then [224 + p / 4096, 128 + p / 64 % 64, 128 + p % 64]
  else [240 + p / 262144, 128 + p / 4096 % 64, 128 + p / 64 % 64, 128 + p % 64]
def uSz (p : Int) : Nat := if uPt p then (if p < 128 then 1 else if p < 2048 then 2 else if p < 65536 then 3 else 4) else 0
theorem uPt_iff {p : Int} : uPt p = true ↔ 0 ≤ p ∧ p ≤ 1114111 ∧ (p < 55296 ∨ 57343 < p) := by
  unfold uPt; simp; omega
theorem uEnc_len (p : Int) : (uEnc p).length = if p < 128 then 1 else if p < 2048 then 2 else if p < 65536 then 3 else 4 := by
  unfold uEnc; split
  · rfl
  · split
    · rfl
    · split <;> rfl
theorem uSz_pt {p : Int} (h : uPt p = true) : uSz p = (uEnc p).length := by
  rw [uEnc_len]; unfold uSz; rw [if_pos h]
theorem uEnc_pos (p : Int) : 0 < (uEnc p).length := by rw [uEnc_len]; split; omega; split; omega; split <;> omega
theorem uEnc_le (p : Int) : (uEnc p).length ≤ 4 := by rw [uEnc_len]; split; omega; split; omega; split <;> omega
theorem uSz_zero {p : Int} : uSz p = 0 ↔ uPt p = false := by
  unfold uSz
  cases h : uPt p
  · simp
  · simp; split; omega; split; omega; split <;> omega
def uLead (a : Int) : Int × Nat :=
  if a < 128 then (a, 1) else if a < 192 then (0, 0) else if a < 224 then (a - 192, 2) else if a < 240 then (a - 224, 3) else if a < 248 then (a - 240, 4) else (0, 0)
def uAcc : Int → List Int → Int
  | r, [] => r
  | r, c :: cs => uAcc (r * 64 + (c - 128)) cs
def uDec : List Int → Int × Nat
  | [] => (0, 0)
  | a :: r =>
    if (uLead a).2 = 0 then (0, 0)
    else if r.length < (uLead a).2 - 1 then (0, 0)
    else if (r.take ((uLead a).2 - 1)).all uCont = false then (0, 0)
    else if uSz (uAcc (uLead a).1 (r.take ((uLead a).2 - 1))) = (uLead a).2 then (uAcc (uLead a).1 (r.take ((uLead a).2 - 1)), (uLead a).2)
    else (0, 0)
def uByt (es : List Int) : Prop := ∀ x ∈ es, 0 ≤ x ∧ x < 256
theorem uEnc_byt {p : Int} (h : uPt p = true) : uByt (uEnc p) := by
  rw [uPt_iff] at h
  unfold uEnc uByt
  intro x
  split
  · simp; omega
  · split
    · simp; omega
    · split
      · simp; omega
      · simp; omega
theorem uDec_enc {p : Int} (r : List Int) (h : uPt p = true) : uDec (uEnc p ++ r) = (p, (uEnc p).length) := by
  have hp := uPt_iff.1 h
  have hs := uSz_pt h
  rw [uEnc_len] at hs ⊢
  unfold uEnc
  by_cases h1 : p < 128
  · rw [if_pos h1] at hs ⊢
    rw [if_pos h1]
    simp [uDec, uLead, h1, uAcc, hs]
  · rw [if_neg h1] at hs ⊢
    rw [if_neg h1]
    by_cases h2 : p < 2048
    · rw [if_pos h2] at hs ⊢
      rw [if_pos h2]
      have a1 : ¬ 192 + p / 64 < 128 := by omega
      have a2 : ¬ 192 + p / 64 < 192 := by omega
      have a3 : 192 + p / 64 < 224 := by omega
      have e : (192 + p / 64 - 192) * 64 + (128 + p % 64 - 128) = p := by omega
      simp only [List.cons_append, List.nil_append, uDec, uLead, if_neg a1, if_neg a2, if_pos a3]
      have k1 : uCont (128 + p % 64) = true := by unfold uCont; simp; omega
      simp [uAcc, k1, e, hs]
    · rw [if_neg h2] at hs ⊢
      rw [if_neg h2]
      by_cases h3 : p < 65536
      · rw [if_pos h3] at hs ⊢
        rw [if_pos h3]
        have a1 : ¬ 224 + p / 4096 < 128 := by omega
        have a2 : ¬ 224 + p / 4096 < 192 := by omega
        have a3 : ¬ 224 + p / 4096 < 224 := by omega
        have a4 : 224 + p / 4096 < 240 := by omega
        have e : ((224 + p / 4096 - 224) * 64 + (128 + p / 64 % 64 - 128)) * 64 + (128 + p % 64 - 128) = p := by omega
        simp only [List.cons_append, List.nil_append, uDec, uLead, if_neg a1, if_neg a2, if_neg a3, if_pos a4]
        have k1 : uCont (128 + p % 64) = true := by unfold uCont; simp; omega
        have k2 : uCont (128 + p / 64 % 64) = true := by unfold uCont; simp; omega
        have q : ¬ r.length + 1 + 1 < 2 := by omega
        simp [uAcc, k1, k2, e, hs, q]
      · rw [if_neg h3] at hs ⊢
        rw [if_neg h3]
        have a1 : ¬ 240 + p / 262144 < 128 := by omega
        have a2 : ¬ 240 + p / 262144 < 192 := by omega
        have a3 : ¬ 240 + p / 262144 < 224 := by omega
        have a4 : ¬ 240 + p / 262144 < 240 := by omega
        have a5 : 240 + p / 262144 < 248 := by omega
        have e : (((240 + p / 262144 - 240) * 64 + (128 + p / 4096 % 64 - 128)) * 64 + (128 + p / 64 % 64 - 128)) * 64 + (128 + p % 64 - 128) = p := by omega
        simp only [List.cons_append, List.nil_append, uDec, uLead, if_neg a1, if_neg a2, if_neg a3, if_neg a4, if_pos a5]
        have k1 : uCont (128 + p % 64) = true := by unfold uCont; simp; omega
        have k2 : uCont (128 + p / 64 % 64) = true := by unfold uCont; simp; omega
        have k3 : uCont (128 + p / 4096 % 64) = true := by unfold uCont; simp; omega
        have q : ¬ r.length + 1 + 1 + 1 < 3 := by omega
        simp [uAcc, k1, k2, k3, e, hs, q]
theorem uDec_le (l : List Int) : (uDec l).2 ≤ l.length := by
  cases l with
  | nil => simp [uDec]
  | cons a r =>
    simp only [uDec]
    split; simp
    split; simp
    split; simp
    split
    · simp; omega
    · simp
theorem uDec_cases {l : List Int} (hb : uByt l) (h : (uDec l).2 ≠ 0) : uPt (uDec l).1 = true ∧ (uEnc (uDec l).1).length = (uDec l).2 ∧ l = uEnc (uDec l).1 ++ l.drop (uDec l).2 := by
  cases l with
  | nil => simp [uDec] at h
  | cons a r =>
    have ha := hb a List.mem_cons_self
    simp only [uDec] at h ⊢
    split at h; simp at h
    split at h; simp at h
    split at h; simp at h
    split at h
    · rename_i g1 g2 g3 g4
      rw [if_neg g1, if_neg g2, if_neg g3, if_pos g4]
      have hpt : uPt (uAcc (uLead a).1 (List.take ((uLead a).2 - 1) r)) = true := by
        cases hp : uPt (uAcc (uLead a).1 (List.take ((uLead a).2 - 1) r))
        · rw [uSz_zero.2 hp] at g4; omega
        · rfl
      have hsz := uSz_pt hpt
      refine ⟨hpt, by rw [← hsz, g4], ?_⟩
      have hlen := hsz.symm.trans g4
      rw [uEnc_len] at hlen
      have hq := uPt_iff.1 hpt
      have g3' : (r.take ((uLead a).2 - 1)).all uCont = true := by simpa using g3
      clear g1 hpt h g3
      unfold uLead at *
      by_cases b1 : a < 128
      · simp only [if_pos b1, uAcc, Nat.sub_self, List.take_zero, List.drop_succ_cons, List.drop_zero] at *
        unfold uEnc; rw [if_pos (by omega)]; rfl
      · simp only [if_neg b1] at *
        by_cases b2 : a < 192
        · exfalso
          simp only [if_pos b2] at hlen
          revert hlen
          split
          · omega
          · split
            · omega
            · split <;> omega
        · simp only [if_neg b2] at *
          by_cases b3 : a < 224
          · simp only [if_pos b3] at *
            match r, g2 with
            | [], g2 => simp at g2
            | b :: t, _ =>
              simp [uAcc, uCont] at g3' hlen hq ⊢
              have hl1 : ¬ (a - 192) * 64 + (b - 128) < 128 := by intro hx; rw [if_pos hx] at hlen; omega
              have hl2 : (a - 192) * 64 + (b - 128) < 2048 := by omega
              unfold uEnc
              rw [if_neg hl1, if_pos hl2]
              simp only [List.cons_append, List.nil_append, List.cons.injEq, and_true]
              omega
          · simp only [if_neg b3] at *
            by_cases b4 : a < 240
            · simp only [if_pos b4] at *
              match r, g2 with
              | [], g2 => simp at g2
              | [_], g2 => simp at g2
              | b :: c :: t, _ =>
                simp [uAcc, uCont] at g3' hlen hq ⊢
                have hl1 : ¬ ((a - 224) * 64 + (b - 128)) * 64 + (c - 128) < 128 := by intro hx; rw [if_pos hx] at hlen; omega
                rw [if_neg hl1] at hlen
                have hl2 : ¬ ((a - 224) * 64 + (b - 128)) * 64 + (c - 128) < 2048 := by intro hx; rw [if_pos hx] at hlen; omega
                have hl3 : ((a - 224) * 64 + (b - 128)) * 64 + (c - 128) < 65536 := by omega
                unfold uEnc
                rw [if_neg hl1, if_neg hl2, if_pos hl3]
                simp only [List.cons_append, List.nil_append, List.cons.injEq, and_true]
                omega
            · simp only [if_neg b4] at *
              by_cases b5 : a < 248
              · simp only [if_pos b5] at *
                match r, g2 with
                | [], g2 => simp at g2
                | [_], g2 => simp at g2
                | [_, _], g2 => simp at g2
                | b :: c :: d :: t, _ =>
                  simp [uAcc, uCont] at g3' hlen hq ⊢
                  have hl1 : ¬ (((a - 240) * 64 + (b - 128)) * 64 + (c - 128)) * 64 + (d - 128) < 128 := by intro hx; rw [if_pos hx] at hlen; omega
                  rw [if_neg hl1] at hlen
                  have hl2 : ¬ (((a - 240) * 64 + (b - 128)) * 64 + (c - 128)) * 64 + (d - 128) < 2048 := by intro hx; rw [if_pos hx] at hlen; omega
                  rw [if_neg hl2] at hlen
                  have hl3 : ¬ (((a - 240) * 64 + (b - 128)) * 64 + (c - 128)) * 64 + (d - 128) < 65536 := by intro hx; rw [if_pos hx] at hlen; omega
                  unfold uEnc
                  rw [if_neg hl1, if_neg hl2, if_neg hl3]
                  simp only [List.cons_append, List.nil_append, List.cons.injEq, and_true]
                  omega
              · simp only [if_neg b5] at *
                simp [uAcc] at hlen
    · simp at h
def uFlat (ps : List Int) : List Int := ps.flatMap uEnc
theorem uFlat_nil : uFlat [] = [] := rfl
theorem uFlat_cons (p : Int) (ps : List Int) : uFlat (p :: ps) = uEnc p ++ uFlat ps := rfl
theorem uFlat_append (ps qs : List Int) : uFlat (ps ++ qs) = uFlat ps ++ uFlat qs := by simp [uFlat]
theorem uFlat_snoc (ps : List Int) (p : Int) : uFlat (ps ++ [p]) = uFlat ps ++ uEnc p := by simp [uFlat]
def uPts (ps : List Int) : Prop := ∀ p ∈ ps, uPt p = true
theorem uPts.cons {p : Int} {ps : List Int} (h : uPts (p :: ps)) : uPt p = true ∧ uPts ps := ⟨h p List.mem_cons_self, fun q hq => h q (List.mem_cons_of_mem _ hq)⟩
theorem uPts.mk {p : Int} {ps : List Int} (h : uPt p = true) (g : uPts ps) : uPts (p :: ps) := fun q hq => by
  rcases List.mem_cons.1 hq with e | e
  · rw [e]; exact h
  · exact g q e
theorem uByt.drop {l : List Int} (h : uByt l) (n : Nat) : uByt (l.drop n) := fun x hx => h x (List.mem_of_mem_drop hx)
structure USplit (l ps t : List Int) : Prop where
  pts : uPts ps
  eq : l = uFlat ps ++ t
  bad : (uDec t).2 = 0
theorem USplit.exists : ∀ (n : Nat) {l : List Int}, l.length ≤ n → uByt l → ∃ ps t, USplit l ps t := by
  intro n
  induction n with
  | zero =>
    intro l hl hb
    have : l = [] := List.length_eq_zero_iff.1 (by omega)
    subst this
    exact ⟨[], [], fun p hp => absurd hp (by simp), rfl, rfl⟩
  | succ n ih =>
    intro l hl hb
    by_cases h : (uDec l).2 = 0
    · exact ⟨[], l, fun p hp => absurd hp (by simp), rfl, h⟩
    · obtain ⟨h1, h2, h3⟩ := uDec_cases hb h
      have hle := uDec_le l
      obtain ⟨ps, t, hs⟩ := ih (l := l.drop (uDec l).2) (by rw [List.length_drop]; omega) (hb.drop _)
      refine ⟨(uDec l).1 :: ps, t, uPts.mk h1 hs.pts, ?_, hs.bad⟩
      rw [uFlat_cons, List.append_assoc, ← hs.eq]
      exact h3
theorem USplit.unique {l ps t ps' t' : List Int} (h : USplit l ps t) (h' : USplit l ps' t') : ps = ps' ∧ t = t' := by
  induction ps generalizing l ps' with
  | nil =>
    cases ps' with
    | nil =>
      have a := h.eq; have b := h'.eq
      simp [uFlat] at a b
      exact ⟨rfl, a.symm.trans b⟩
    | cons p ps' =>
      exfalso
      have a := h.eq; have b := h'.eq
      simp [uFlat_nil] at a
      subst a
      have c := h.bad
      rw [b, uFlat_cons, List.append_assoc, uDec_enc _ h'.pts.cons.1] at c
      have := uEnc_pos p
      simp at c
      rw [c] at this
      simp at this
  | cons p ps ih =>
    have a := h.eq
    rw [uFlat_cons, List.append_assoc] at a
    have d : uDec l = (p, (uEnc p).length) := by rw [a]; exact uDec_enc _ h.pts.cons.1
    cases ps' with
    | nil =>
      exfalso
      have b := h'.eq
      simp [uFlat_nil] at b
      subst b
      have c := h'.bad
      rw [d] at c
      have := uEnc_pos p
      simp at c
      rw [c] at this
      simp at this
    | cons q qs =>
      have b := h'.eq
      rw [uFlat_cons, List.append_assoc] at b
      have d' : uDec l = (q, (uEnc q).length) := by rw [b]; exact uDec_enc _ h'.pts.cons.1
      have e : p = q := (Prod.mk.inj (d.symm.trans d')).1
      subst e
      have e2 : uFlat ps ++ t = uFlat qs ++ t' := List.append_cancel_left (a.symm.trans b)
      obtain ⟨r1, r2⟩ := ih (l := uFlat ps ++ t) ⟨h.pts.cons.2, rfl, h.bad⟩ ⟨h'.pts.cons.2, e2, h'.bad⟩
      exact ⟨by rw [r1], r2⟩
theorem USplit.step {l ps t : List Int} {p : Int} (h : USplit l (p :: ps) t) : uDec l = (p, (uEnc p).length) := by
  have a := h.eq
  rw [uFlat_cons, List.append_assoc] at a
  rw [a]; exact uDec_enc _ h.pts.cons.1
theorem USplit.at {l pre rest t : List Int} (h : USplit l (pre ++ rest) t) : l.drop (uFlat pre).length = uFlat rest ++ t := by
  rw [h.eq, uFlat_append, List.append_assoc, List.drop_left]
theorem USplit.rest {l pre rest t : List Int} (h : USplit l (pre ++ rest) t) : USplit (l.drop (uFlat pre).length) rest t :=
  ⟨fun p hp => h.pts p (List.mem_append_right _ hp), h.at, h.bad⟩
inductive USteps : List Int → List Int → Prop
  | nil : USteps [] []
  | good {l qs : List Int} {p : Int} {n : Nat} : uDec l = (p, n) → n ≠ 0 → USteps (l.drop n) qs → USteps l (p :: qs)
  | bad {a : Int} {r qs : List Int} : (uDec (a :: r)).2 = 0 → USteps r qs → USteps (a :: r) ((2000000 + a) :: qs)
def uW (q : Int) : Int := if q < 2000000 then (if q < 65536 then q * 65536 else (55296 + (q - 65536) / 1024) * 65536 + (56320 + (q - 65536) % 1024)) else (65536 + (q - 2000000)) * 65536
end Go.Proofs.YticmlelalbaalaaGreatDoor
namespace Go.Proofs.YticmlelalbaalaaGreatDoor
namespace Nb
open Nt (lb lb_out ext_lb lb_take lb_take_out lb_set_eq lb_set_ne lb_replicate mul_pw_cancel)
def pw : Nat → Int
  | 0 => 1
  | n + 1 => 256 * pw n
theorem pw_pos (n : Nat) : 0 < pw n := by
  induction n with
  | zero => decide
  | succ n ih => simp only [pw]; omega
theorem pw_succ (n : Nat) : pw (n + 1) = 256 * pw n := rfl
theorem pw_add (m n : Nat) : pw (m + n) = pw m * pw n := by
  induction n with
  | zero => simp [pw]
  | succ n ih => rw [← Nat.add_assoc, pw_succ, ih, pw_succ, Int.mul_left_comm]
theorem pw_mono {m n : Nat} (h : m ≤ n) : pw m ≤ pw n := by
  induction n with
  | zero => have : m = 0 := by omega
            subst this; exact Int.le_refl _
  | succ n ih =>
    by_cases e : m = n + 1
    · subst e; exact Int.le_refl _
    · have := ih (by omega); have := pw_pos n; rw [pw_succ]; omega
def vt (xs : List Int) : Nat → Int
  | 0 => 0
  | n + 1 => vt xs n + lb xs n * pw n
def val (xs : List Int) : Int := vt xs xs.length
def Ok (xs : List Int) : Prop := ∀ i, 0 ≤ lb xs i ∧ lb xs i < 256
def Canon (xs : List Int) : Prop := Ok xs ∧ (xs ≠ [] → lb xs (xs.length - 1) ≠ 0)
theorem vt_succ (xs : List Int) (n : Nat) : vt xs (n + 1) = vt xs n + lb xs n * pw n := rfl
theorem vt_out {xs : List Int} {n : Nat} (h : xs.length ≤ n) : vt xs n = val xs := by
  induction n with
  | zero => unfold val; rw [show xs.length = 0 by omega]
  | succ n ih =>
    by_cases e : xs.length = n + 1
    · unfold val; rw [e]
    · rw [vt_succ, ih (by omega), lb_out (by omega)]; simp
theorem vt_bounds {xs : List Int} (h : Ok xs) (n : Nat) : 0 ≤ vt xs n ∧ vt xs n < pw n := by
  induction n with
  | zero => simp [vt, pw]
  | succ n ih =>
    have hp := pw_pos n
    have hx := h n
    have h1 : 0 ≤ lb xs n * pw n := Int.mul_nonneg hx.1 (by omega)
    have h2 : lb xs n * pw n ≤ 255 * pw n := Int.mul_le_mul_of_nonneg_right (by omega) (by omega)
    rw [vt_succ, pw_succ]
    omega
theorem val_nonneg {xs : List Int} (h : Ok xs) : 0 ≤ val xs := (vt_bounds h _).1
theorem val_lt {xs : List Int} (h : Ok xs) : val xs < pw xs.length := (vt_bounds h _).2
theorem vt_congr {xs ys : List Int} {n : Nat} (h : ∀ i, i < n → lb xs i = lb ys i) : vt xs n = vt ys n := by
  induction n with
  | zero => rfl
  | succ n ih => rw [vt_succ, vt_succ, ih (fun i hi => h i (by omega)), h n (by omega)]
theorem vt_inj {xs ys : List Int} (hx : Ok xs) (hy : Ok ys) {n : Nat} (h : vt xs n = vt ys n) : ∀ i, i < n → lb xs i = lb ys i := by
  induction n with
  | zero => intro i hi; omega
  | succ n ih =>
    rw [vt_succ, vt_succ] at h
    obtain ⟨h1, h2⟩ := mul_pw_cancel (pw_pos n) (vt_bounds hx n) (vt_bounds hy n) h
    intro i hi
    by_cases e : i = n
    · subst e; exact h1
    · exact ih h2 i (by omega)
theorem canon_low {xs : List Int} (h : Canon xs) (hn : xs ≠ []) : pw (xs.length - 1) ≤ val xs := by
  obtain ⟨n, hl⟩ : ∃ n, xs.length = n + 1 := ⟨xs.length - 1, by have := List.length_pos_iff.2 hn; omega⟩
  have h0 := h.2 hn
  rw [hl, Nat.add_sub_cancel] at h0 ⊢
  have hb := h.1 n
  have hv := vt_bounds h.1 n
  unfold val
  rw [hl, vt_succ]
  have : 1 * pw n ≤ lb xs n * pw n := Int.mul_le_mul_of_nonneg_right (by omega) (by have := pw_pos n; omega)
  omega
theorem canon_lt {xs ys : List Int} (hx : Ok xs) (hy : Canon ys) (h : xs.length < ys.length) : val xs < val ys := by
  have h1 := val_lt hx
  have h2 := canon_low hy (by intro e; subst e; simp at h)
  have h3 := pw_mono (m := xs.length) (n := ys.length - 1) (by omega)
  omega
theorem canon_unique {xs ys : List Int} (hx : Canon xs) (hy : Canon ys) (h : val xs = val ys) : xs = ys := by
  have hl : xs.length = ys.length := by
    rcases Nat.lt_trichotomy xs.length ys.length with h' | h' | h'
    · have := canon_lt hx.1 hy h'; omega
    · exact h'
    · have := canon_lt hy.1 hx h'; omega
  exact ext_lb hl (vt_inj hx.1 hy.1 (by unfold val at h; rw [hl] at h ⊢; exact h))
theorem val_nil : val [] = 0 := rfl
theorem canon_nil : Canon [] := ⟨fun i => by simp [lb], fun h => absurd rfl h⟩
theorem canon_zero {xs : List Int} (h : Canon xs) : val xs = 0 ↔ xs = [] := by
  constructor
  · intro e; exact canon_unique h canon_nil (by rw [e, val_nil])
  · intro e; subst e; rfl
theorem ok_take {xs : List Int} (h : Ok xs) (k : Nat) : Ok (xs.take k) := by
  intro i
  by_cases e : i < k
  · rw [lb_take e]; exact h i
  · rw [lb_take_out (by omega)]; omega
theorem val_take {xs : List Int} {k : Nat} (hk : k ≤ xs.length) : val (xs.take k) = vt xs k := by
  unfold val
  rw [List.length_take, Nat.min_eq_left hk]
  exact vt_congr fun i hi => lb_take hi
theorem vt_cut {xs : List Int} {k n : Nat} (hk : k ≤ n) (h : ∀ i, k ≤ i → i < n → lb xs i = 0) : vt xs n = vt xs k := by
  induction n with
  | zero => rw [show k = 0 by omega]
  | succ n ih =>
    by_cases e : k = n + 1
    · rw [e]
    · rw [vt_succ, h n (by omega) (by omega), ih (by omega) (fun i a b => h i a (by omega))]; simp
theorem canon_take {xs : List Int} {k : Nat} (ho : Ok xs) (hk : k ≤ xs.length) (h0 : 0 < k → lb xs (k - 1) ≠ 0) : Canon (xs.take k) := by
  refine ⟨ok_take ho k, fun hn => ?_⟩
  have hl : (xs.take k).length = k := by rw [List.length_take, Nat.min_eq_left hk]
  have hp := List.length_pos_iff.2 hn
  rw [hl] at hp ⊢
  rw [lb_take (by omega)]
  exact h0 hp
theorem ok_set {xs : List Int} (h : Ok xs) {i : Nat} {v : Int} (hv : 0 ≤ v ∧ v < 256) : Ok (xs.set i v) := by
  intro j
  by_cases e : i = j
  · subst e
    by_cases hl : i < xs.length
    · rw [lb_set_eq hl]; exact hv
    · rw [lb_out (by simp; omega)]; omega
  · rw [lb_set_ne e]; exact h j
theorem vt_set {xs : List Int} {i n : Nat} (h : n ≤ i) (v : Int) : vt (xs.set i v) n = vt xs n :=
  vt_congr fun j hj => lb_set_ne (by omega) v
theorem ok_nil : Ok [] := canon_nil.1
theorem ok_replicate (n : Nat) : Ok (List.replicate n 0) := by
  intro i
  by_cases h : i < n <;> simp [lb, h]
theorem vt_lt_at {xs ys : List Int} (hx : Ok xs) (hy : Ok ys) {p n : Nat} (hp : p < n) (he : ∀ i, p < i → i < n → lb xs i = lb ys i) (hl : lb xs p < lb ys p) : vt xs n < vt ys n := by
  induction n with
  | zero => omega
  | succ n ih =>
    by_cases e : p = n
    · subst e
      rw [vt_succ, vt_succ]
      have h1 := vt_bounds hx p
      have h2 := vt_bounds hy p
      have : (lb xs p + 1) * pw p ≤ lb ys p * pw p := Int.mul_le_mul_of_nonneg_right (by omega) (by have := pw_pos p; omega)
      rw [Int.add_mul] at this
      omega
    · rw [vt_succ, vt_succ, he n (by omega) (by omega)]
      have := ih (by omega) (fun i a b => he i a (by omega))
      omega
theorem lb_snoc_lt {xs : List Int} {z : Int} {i : Nat} (h : i < xs.length) : lb (xs ++ [z]) i = lb xs i := by
  simp [lb, List.getElem?_append_left h]
theorem lb_snoc (xs : List Int) (z : Int) : lb (xs ++ [z]) xs.length = z := by simp [lb]
theorem val_snoc (xs : List Int) (z : Int) : val (xs ++ [z]) = val xs + z * pw xs.length := by
  unfold val
  rw [List.length_append, List.length_singleton, vt_succ, lb_snoc, vt_congr (ys := xs) (fun i hi => lb_snoc_lt hi)]
theorem ok_snoc {xs : List Int} {z : Int} (h : Ok xs) (hz : 0 ≤ z ∧ z < 256) : Ok (xs ++ [z]) := by
  intro i
  by_cases h1 : i < xs.length
  · rw [lb_snoc_lt h1]; exact h i
  · by_cases h2 : i = xs.length
    · subst h2; rw [lb_snoc]; exact hz
    · rw [lb_out (by simp; omega)]; omega
theorem pw_four (n : Nat) : pw (4 * n) = Nt.pw n := by
  induction n with
  | zero => rfl
  | succ n ih => rw [Nat.mul_succ, pw_add, ih, Nt.pw_succ, show pw 4 = 4294967296 by decide, Int.mul_comm]
end Nb
end Go.Proofs.YticmlelalbaalaaGreatDoor
namespace Go.Proofs.YticmlelalbaalaaGreatDoor
namespace Nt
end Nt
end Go.Proofs.YticmlelalbaalaaGreatDoor
