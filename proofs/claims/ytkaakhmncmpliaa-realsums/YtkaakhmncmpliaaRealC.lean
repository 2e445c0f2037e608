/- real: sums of floats, drawn bits of what is no number; Minus, Flip, SameComplex, Plus -/
import Derived.Test.YtkaakhmncmpliaaRealB
namespace Go.Proofs.Ytkaakhmncmpliaa
open Go.RowKit

/-- the bits that an operation gives in a world, and the world behind it -/
def opW (op : BinOp) (w : World) (a b : Nat) : Nat := match floatBits op .f64 a b with
  | some r => r
  | none => Question.cut (.nanBits .f64 a b) (w.tape w.drawn (.nanBits .f64 a b))
def opV (op : BinOp) (w : World) (a b : Nat) : World := match floatBits op .f64 a b with
  | some _ => w
  | none => w.drew
def okOp (op : BinOp) : Prop := op = .add ∨ op = .sub ∨ op = .mul ∨ op = .quo
theorem run_opW {P : Program} (w : World) {op : BinOp} (ho : okOp op) (a b : Nat) : (Op.floatArith op .f64 a b).run P w = .ok (.float .f64 (opW op w a b)) (opV op w a b) := by
  unfold opW opV
  cases h : floatBits op .f64 a b with
  | some r => exact run_floatArith w h
  | none =>
    unfold floatBits at h
    rcases ho with rfl | rfl | rfl | rfl <;> simp only at h <;> simp [Op.floatArith, h, Question.forced] <;> rfl
theorem run_opWc {P : Program} (w : World) {op : BinOp} (ho : okOp op) (a b : Nat) : (Op.Complex.arith op .f64 a b).run P w = .ok (opW op w a b) (opV op w a b) := by
  simp [Op.Complex.arith, run_opW w ho]
theorem run_cadd {P : Program} (w : World) (t : TypeId) (a b c d : Nat) : (binOp .add t (.complex .f64 a b) (.complex .f64 c d)).run P w = .ok (.complex .f64 (opW .add w a c) (opW .add (opV .add w a c) b d)) (opV .add (opV .add w a c) b d) := by
  simp [binOp, Op.complexOp, run_opWc _ (Or.inl rfl : okOp .add)]
theorem run_csub {P : Program} (w : World) (t : TypeId) (a b c d : Nat) : (binOp .sub t (.complex .f64 a b) (.complex .f64 c d)).run P w = .ok (.complex .f64 (opW .sub w a c) (opW .sub (opV .sub w a c) b d)) (opV .sub (opV .sub w a c) b d) := by
  simp [binOp, Op.complexOp, run_opWc _ (Or.inr (Or.inl rfl) : okOp .sub)]
/-- r is what the operation gives -/
def OpIs (op : BinOp) (a b r : Nat) : Prop := floatBits op .f64 a b = some r ∨ (floatBits op .f64 a b = none ∧ nanD r ∧ r < 18446744073709551616)
theorem nan_cut (a b t : Nat) : nanD (Question.cut (.nanBits .f64 a b) t) ∧ Question.cut (.nanBits .f64 a b) t < 18446744073709551616 := by
  change nanD ((t % 2) * 2 ^ 63 + 0x7ff0000000000000 + 1 + (t / 2) % (2 ^ 52 - 1)) ∧ (t % 2) * 2 ^ 63 + 0x7ff0000000000000 + 1 + (t / 2) % (2 ^ 52 - 1) < 18446744073709551616
  have h1 : t / 2 % (2 ^ 52 - 1) < 4503599627370495 := Nat.mod_lt _ (by decide)
  have h2 : t % 2 < 2 := Nat.mod_lt _ (by decide)
  generalize t / 2 % (2 ^ 52 - 1) = u at *
  unfold nanD szD
  obtain h | h : t % 2 = 0 ∨ t % 2 = 1 := by omega
  · rw [h]; omega
  · rw [h]; omega
theorem opW_is (op : BinOp) (w : World) (a b : Nat) : OpIs op a b (opW op w a b) := by
  unfold OpIs opW
  cases h : floatBits op .f64 a b with
  | some r => exact Or.inl rfl
  | none => exact Or.inr ⟨rfl, nan_cut _ _ _⟩
theorem opV_heap (op : BinOp) (w : World) (a b : Nat) : (opV op w a b).heap = w.heap := by
  unfold opV
  cases floatBits op .f64 a b <;> rfl
theorem opV_below (op : BinOp) (w : World) (a b : Nat) {B : Nat} : Below B w (opV op w a b) := by
  unfold opV
  cases floatBits op .f64 a b
  · exact (Below.refl _ _).drew
  · exact Below.refl _ _
/-- a world of which only draws have been made -/
structure Drew (w w' : World) : Prop where
  heap : w'.heap = w.heap
  below : ∀ B, Below B w w'
theorem Drew.refl (w : World) : Drew w w := ⟨rfl, fun _ => Below.refl _ _⟩
theorem Drew.trans {a b c : World} (h : Drew a b) (g : Drew b c) : Drew a c := ⟨g.heap.trans h.heap, fun B => (h.below B).trans (g.below B)⟩
theorem drew_opV (op : BinOp) (w : World) (a b : Nat) : Drew w (opV op w a b) := ⟨opV_heap _ _ _ _, fun _ => opV_below _ _ _ _⟩
theorem Drew.cell {w w' : World} (h : Drew w w') (a : Addr) (hn : a.block < w.heap.size) : w'.cell? a = w.cell? a := (h.below w.heap.size).cell hn

/-- the sum, of no number the one -/
def sumD (a b : Nat) : Nat := (Ieee.double.add a b).getD 9221120237041090560
def subD (a b : Nat) : Nat := (Ieee.double.sub a b).getD 9221120237041090560
theorem nan_one : nanD 9221120237041090560 := by decide
theorem one_nan {b : Nat} (h : nanD b) : oneD b = 9221120237041090560 := by unfold oneD; rw [if_pos h]
theorem one_not {b : Nat} (h : ¬ nanD b) : oneD b = b := by unfold oneD; rw [if_neg h]
theorem one_like {a b : Nat} : oneD a = oneD b ↔ (nanD a ∧ nanD b) ∨ a = b := by
  by_cases h : nanD a
  · rw [one_nan h]
    by_cases g : nanD b
    · rw [one_nan g]; exact ⟨fun _ => Or.inl ⟨h, g⟩, fun _ => rfl⟩
    · rw [one_not g]
      constructor
      · intro e
        have : b = 9221120237041090560 := by omega
        exact absurd (this ▸ nan_one) g
      · rintro (⟨_, k⟩ | k)
        · exact absurd k g
        · exact absurd (k ▸ h) g
  · rw [one_not h]
    by_cases g : nanD b
    · rw [one_nan g]
      constructor
      · intro e
        have : a = 9221120237041090560 := by omega
        exact absurd (this ▸ nan_one) h
      · rintro (⟨k, _⟩ | k)
        · exact absurd k h
        · exact absurd (k ▸ g) h
    · rw [one_not g]
      constructor
      · intro e; exact Or.inr (by omega)
      · rintro (⟨k, _⟩ | k)
        · exact absurd k h
        · omega
theorem add_nan {a b : Nat} (h : nanD a ∨ nanD b) : Ieee.double.add a b = none := by
  unfold Ieee.Format.add
  rcases h with h | h
  · obtain ⟨t, e⟩ := read_nan h
    rw [e]; rfl
  · obtain ⟨t, e⟩ := read_nan h
    rw [e]
    cases Ieee.double.read a <;> rfl
theorem sub_nan {a b : Nat} (h : nanD a ∨ nanD b) : Ieee.double.sub a b = none := by
  unfold Ieee.Format.sub
  rcases h with h | h
  · obtain ⟨t, e⟩ := read_nan h
    rw [e]; rfl
  · obtain ⟨t, e⟩ := read_nan h
    rw [e]
    cases Ieee.double.read a <;> rfl
theorem one_add {a b r : Nat} (h : OpIs .add a b r) : oneD r = oneD (sumD a b) := by
  unfold sumD
  rcases h with h | ⟨h, g, _⟩
  · rw [show Ieee.double.add a b = some r from h]; rfl
  · rw [show Ieee.double.add a b = none from h, one_nan g]; exact (one_nan nan_one).symm
theorem one_sub {a b r : Nat} (h : OpIs .sub a b r) : oneD r = oneD (subD a b) := by
  unfold subD
  rcases h with h | ⟨h, g, _⟩
  · rw [show Ieee.double.sub a b = some r from h]; rfl
  · rw [show Ieee.double.sub a b = none from h, one_nan g]; exact (one_nan nan_one).symm
theorem sum_like {a a' b b' : Nat} (h : oneD a = oneD a') (g : oneD b = oneD b') : oneD (sumD a b) = oneD (sumD a' b') := by
  unfold sumD
  rcases one_like.1 h with ⟨h1, h2⟩ | rfl
  · rw [add_nan (Or.inl h1), add_nan (Or.inl h2)]
  · rcases one_like.1 g with ⟨g1, g2⟩ | rfl
    · rw [add_nan (Or.inr g1), add_nan (Or.inr g2)]
    · rfl
theorem sub_like {a a' b b' : Nat} (h : oneD a = oneD a') (g : oneD b = oneD b') : oneD (subD a b) = oneD (subD a' b') := by
  unfold subD
  rcases one_like.1 h with ⟨h1, h2⟩ | rfl
  · rw [sub_nan (Or.inl h1), sub_nan (Or.inl h2)]
  · rcases one_like.1 g with ⟨g1, g2⟩ | rfl
    · rw [sub_nan (Or.inr g1), sub_nan (Or.inr g2)]
    · rfl
theorem opIs_lt {op : BinOp} {a b r : Nat} (h : OpIs op a b r) : r < 18446744073709551616 := by
  rcases h with h | ⟨_, _, h⟩
  · have := floatBits_wf h
    simpa [Lit.wf] using this
  · exact h

theorem minus_any (w : World) (a b c d : Nat) : Calls Try.prog 35 #[.complex .f64 a b, .complex .f64 c d] w fun e w' => ∃ x y, e = .returned (.complex .f64 x y) ∧ OpIs .sub a c x ∧ OpIs .sub b d y ∧ Drew w w' := by
  have hs : ∀ w, (binOp .sub 59 (.complex .f64 a b) (.complex .f64 c d)).run Try.prog w = .ok (.complex .f64 (opW .sub w a c) (opW .sub (opV .sub w a c) b d)) (opV .sub (opV .sub w a c) b d) := fun w => run_csub w _ a b c d
  go_enter Try.func35, Try.ntmps35
  go_wp2
  go_ret
  exact ⟨_, _, rfl, opW_is _ _ _ _, opW_is _ _ _ _, (drew_opV _ _ _ _).trans (drew_opV _ _ _ _)⟩

/-- the other sign -/
def flipD (b : Nat) : Nat := b ^^^ 2 ^ 63
theorem flip_any (w : World) (a b : Nat) : Calls Try.prog 32 #[.complex .f64 a b] w fun e w' => e = .returned (.complex .f64 a (flipD b)) ∧ w' = w := by
  have hn : ∀ w, (Op.unary .neg (.float .f64 b)).run Try.prog w = .ok (.float .f64 (flipD b)) w := fun w => rfl
  go_enter Try.func32, Try.ntmps32
  go_wp2
  go_ret
  exact ⟨rfl, rfl⟩

set_option maxHeartbeats 1000000 in
theorem samec_any (w : World) (a b c d : Nat) : Calls Try.prog 31 #[.complex .f64 a b, .complex .f64 c d] w fun e w' => e = .returned (.bool (oneD a == oneD c && oneD b == oneD d)) ∧ w' = w := by
  go_enter Try.func31, Try.ntmps31
  have q1 : ∀ (w : World), Calls Try.prog 28 #[.float .f64 a, .float .f64 c] w fun e w' => e = .returned (.bool (oneD a == oneD c)) ∧ w' = w := fun w => same_any w a c
  have q2 : ∀ (w : World), Calls Try.prog 28 #[.float .f64 b, .float .f64 d] w fun e w' => e = .returned (.bool (oneD b == oneD d)) ∧ w' = w := fun w => same_any w b d
  rcases h1 : (oneD a == oneD c) with _ | _
  · rw [h1] at q1
    have H1 := hide h1
    clear h1
    go_wp2_with (first | (with_reducible refine (q1 _).mono ?_; rintro e w1 ⟨rfl, rfl⟩) | (with_reducible refine (q2 _).mono ?_; rintro e w1 ⟨rfl, rfl⟩))
    go_ret
    exact ⟨by rw [Bool.false_and]; rfl, rfl⟩
  · rw [h1] at q1
    have H1 := hide h1
    clear h1
    rcases h2 : (oneD b == oneD d) with _ | _
    · rw [h2] at q2
      clear h2
      go_wp2_with (first | (with_reducible refine (q1 _).mono ?_; rintro e w1 ⟨rfl, rfl⟩) | (with_reducible refine (q2 _).mono ?_; rintro e w1 ⟨rfl, rfl⟩))
      go_ret
      exact ⟨rfl, rfl⟩
    · rw [h2] at q2
      clear h2
      go_wp2_with (first | (with_reducible refine (q1 _).mono ?_; rintro e w1 ⟨rfl, rfl⟩) | (with_reducible refine (q2 _).mono ?_; rintro e w1 ⟨rfl, rfl⟩))
      go_ret
      exact ⟨rfl, rfl⟩

/-- the parts of one of them -/
def cre (zs : List (Nat × Nat)) (i : Nat) : Nat := (zs.getD i (0, 0)).1
def cim (zs : List (Nat × Nat)) (i : Nat) : Nat := (zs.getD i (0, 0)).2
/-- the cells of a list of complex numbers -/
def CCells (w : World) (ao : Option Addr) (zs : List (Nat × Nat)) : Prop :=
  0 < zs.length → ∃ b off, ao = some ⟨b, off, none⟩ ∧ b < w.heap.size ∧ ∀ i, i < zs.length → w.cell? ⟨b, off + i, none⟩ = some (.complex .f64 (cre zs i) (cim zs i))
theorem CCells.below {w w' : World} {ao : Option Addr} {zs : List (Nat × Nat)} (h : CCells w ao zs) (hb : Below w.heap.size w w') : CCells w' ao zs := by
  intro hp
  obtain ⟨b, off, h1, h2, h3⟩ := h hp
  exact ⟨b, off, h1, Nat.lt_of_lt_of_le h2 hb.size, fun i hi => (hb.cell (p := ⟨b, off + i, none⟩) h2).trans (h3 i hi)⟩
/-- sums of the first so many -/
def SumIs : List (Nat × Nat) → Nat → Nat → Nat → Nat → Prop
  | [], a, b, x, y => x = a ∧ y = b
  | z :: zs, a, b, x, y => ∃ p q, OpIs .add a z.1 p ∧ OpIs .add b z.2 q ∧ SumIs zs p q x y
theorem SumIs.snoc {zs : List (Nat × Nat)} {z : Nat × Nat} {a b x y p q : Nat} (h : SumIs zs a b x y) (h1 : OpIs .add x z.1 p) (h2 : OpIs .add y z.2 q) : SumIs (zs ++ [z]) a b p q := by
  induction zs generalizing a b with
  | nil =>
    obtain ⟨rfl, rfl⟩ := h
    exact ⟨p, q, h1, h2, rfl, rfl⟩
  | cons t ts ih =>
    obtain ⟨u, v, g1, g2, g3⟩ := h
    exact ⟨u, v, g1, g2, ih g3⟩
theorem take_snoc {zs : List (Nat × Nat)} {i : Nat} (h : i < zs.length) : zs.take (i + 1) = zs.take i ++ [(cre zs i, cim zs i)] := by
  rw [List.take_add_one, List.getElem?_eq_getElem h]
  unfold cre cim
  rw [List.getD_eq_getElem?_getD, List.getElem?_eq_getElem h]
  rfl

set_option maxHeartbeats 2000000 in
theorem plus_any {w : World} {ao : Option Addr} {cap : Nat} {zs : List (Nat × Nat)} (hc : CCells w ao zs) (hm : zs.length ≤ maxLen) :
    Calls Try.prog 43 #[.slice ao zs.length cap] w fun e w' => ∃ x y, e = .returned (.complex .f64 x y) ∧ SumIs zs 0 0 x y ∧ Drew w w' := by
  unfold maxLen at hm
  go_enter Try.func43, Try.ntmps43
  go_wp2
  go_loopw [3, 5, 8] (fun s c i wr => ∃ (k : Nat) (x y : Nat), k ≤ zs.length ∧ i = .int .i64 k ∧ s = .complex .f64 x y ∧ SumIs (zs.take k) 0 0 x y ∧ Drew w wr) (fun _ _ i _ => zs.length - (intOf i).toNat)
  case atStart => exact ⟨0, 0, 0, by omega, rfl, rfl, ⟨rfl, rfl⟩, Drew.refl _⟩
  case round =>
    obtain ⟨k, x, y, hk, rfl, rfl, hS, hD⟩ := hrel
    by_cases hlt : k < zs.length
    · obtain ⟨b, off, rfl, hb, hcell⟩ := hc (by omega)
      have hg := (hD.cell ⟨b, off + k, none⟩ hb).trans (hcell k hlt)
      have ha : ∀ w, (binOp .add 59 (.complex .f64 x y) (.complex .f64 (cre zs k) (cim zs k))).run Try.prog w = .ok (.complex .f64 (opW .add w x (cre zs k)) (opW .add (opV .add w x (cre zs k)) y (cim zs k))) (opV .add (opV .add w x (cre zs k)) y (cim zs k)) := fun w => run_cadd w _ _ _ _ _
      clear hcell
      go_wp2
      go_roundw
      case rel => exact ⟨k + 1, _, _, by omega, rfl, rfl, by rw [take_snoc hlt]; exact hS.snoc (opW_is _ _ _ _) (opW_is _ _ _ _), hD.trans ((drew_opV _ _ _ _).trans (drew_opV _ _ _ _))⟩
      case measure => simp [intOf]; omega
    · go_wp2
      go_ret
      rw [List.take_of_length_le (by omega)] at hS
      exact ⟨x, y, rfl, hS, hD⟩

theorem plus_n {w : World} {ao : Option Addr} {n cap : Nat} {zs : List (Nat × Nat)} (hc : CCells w ao zs) (hl : zs.length = n) (hm : n ≤ maxLen) :
    Calls Try.prog 43 #[.slice ao n cap] w fun e w' => ∃ x y, e = .returned (.complex .f64 x y) ∧ SumIs zs 0 0 x y ∧ Drew w w' := by
  subst hl
  exact plus_any hc hm

end Go.Proofs.Ytkaakhmncmpliaa
