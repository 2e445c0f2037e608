/- RPx, SRefA, SRisesM, SRead6, SNst, SReadsA, SFewL, SAgain, SDeci, SFewN, SBeat, SFewest -/
import Derived.Test.YtlhjbmdkfdabmaaGreatDoorPow
import Derived.Test.YtlhjbmdkfdabmaaGreatDoorRE4
import Derived.Test.YtlhjbmdkfdabmaaGreatDoorSB
import Derived.Deep.LoopGhost
import Derived.Deep.RegionHeld3
import Derived.Deep.Cut
import Derived.Test.YtlhjbmdkfdabmaaGreatDoorSDw
import Derived.Test.YtlhjbmdkfdabmaaGreatDoorRR4
import Derived.Test.YtlhjbmdkfdabmaaGreatDoorRDM
namespace Go.Proofs.YtlhjbmdkfdabmaaGreatDoor
open Go.RowKit
set_option linter.unusedVariables false

theorem ok_one_limb {x : Int} (h : 0 ≤ x ∧ x < 4294967296) : Nt.Ok [x] := by
  intro i
  match i with
  | 0 => exact h
  | i + 1 => simp [Nt.lb]
theorem val_one (x : Int) : Nt.val [x] = x := by
  show Nt.vt _ 1 = x
  simp only [Nt.vt, Nt.pw, Nt.lb, List.getD_cons_zero]
  omega
theorem canon_one {x : Int} (hx : 0 < x ∧ x < 4294967296) : Nt.Canon [x] := ⟨ok_one_limb ⟨by omega, hx.2⟩, fun _ => by show x ≠ 0; omega⟩
theorem row_one (w : World) (x : Int) : Row .u32 22 (w.alloc (.cells #[.int .u32 x] 22)) w.heap.size [x] := by
  unfold Row
  rw [heap_alloc_new]
  rfl

theorem arg_one (w : World) {x : Int} (h : 0 ≤ x ∧ x < 4294967296) : Arg (w.alloc (.cells #[.int .u32 x] 22)) (.slice (some ⟨w.heap.size, 0, none⟩) 1 1) x 1 := by
  refine ⟨[x], ⟨some ⟨w.heap.size, 0, none⟩, 1, rfl, Nat.le_refl _, by unfold maxLen; omega, fun _ => ⟨w.heap.size, 0, rfl, (row_one w x).lt, fun i hi => ?_⟩⟩, ok_one_limb h, val_one x, Nat.le_refl _⟩
  rw [Nat.zero_add]
  exact (row_one w x).cell hi

theorem below_alloc (w : World) (o : Obj) : Below w.heap.size w (w.alloc o) := (Below.refl _ _).alloc (Nat.le_refl _) _

theorem num_row1 {B g : Nat} {w : World} {x : Int} (hr : Row .u32 22 w g [x]) (hB : B ≤ g) (hx : 0 < x ∧ x < 4294967296) : Num B w (.slice (some ⟨g, 0, none⟩) 1 1) x 1 :=
  ⟨[x], ⟨some ⟨g, 0, none⟩, rfl, by unfold maxLen; simp, fun _ => ⟨g, [], rfl, hB, hr⟩⟩, canon_one hx, val_one x, Nat.le_refl _⟩

set_option maxRecDepth 20000 in
set_option maxHeartbeats 1000000 in
theorem rpower_zero {w : World} {b : Int} :
    Calls Tryz.prog 85 #[.int .u32 b, .int .i64 0] w fun e w' => ∃ v, e = .returned v ∧ Num w.heap.size w' v 1 2048 ∧ Below w.heap.size w w' := by
  have hnum := num_row1 (B := w.heap.size) (x := 1) (row_one w 1) (Nat.le_refl _) (by omega)
  have HN := hide hnum
  clear hnum
  go_enter Tryz.func85, Tryz.ntmps85
  go_wp2
  go_ret
  exact ⟨_, rfl, HN.out.mono (by omega), below_alloc _ _⟩

theorem pow_mono_le {b : Int} (hb : 1 ≤ b) {m n : Nat} (h : m ≤ n) : b ^ m ≤ b ^ n := by
  obtain ⟨d, rfl⟩ : ∃ d, n = m + d := ⟨n - m, by omega⟩
  rw [Int.pow_add]
  have h1 := pow_ge_one hb d
  have h2 : b ^ m * 1 ≤ b ^ m * b ^ d := Int.mul_le_mul_of_nonneg_left h1 (by have := pow_ge_one hb m; omega)
  omega

set_option maxRecDepth 20000 in
set_option maxHeartbeats 4000000 in
theorem rpower_any (N : Nat) : ∀ {w : World} {b : Int}, 1 ≤ b → b < 4294967296 → (N : Int) ≤ 9223372036854775807 → b ^ N < Nt.pw 2048 →
    Calls Tryz.prog 85 #[.int .u32 b, .int .i64 N] w fun e w' => ∃ v, e = .returned v ∧ Num w.heap.size w' v (b ^ N) 2048 ∧ Below w.heap.size w w' := by
  induction N using Nat.strongRecOn with
  | _ N ih =>
    intro w b hb1 hb2 hN hlt
    by_cases h0 : N = 0
    · subst h0
      refine (rpower_zero (w := w) (b := b)).mono ?_
      rintro e w' ⟨v, rfl, hn, hb⟩
      exact ⟨v, rfl, by rw [Int.pow_zero]; exact hn, hb⟩
    · obtain ⟨q, hq⟩ : ∃ q, q = N / 2 := ⟨_, rfl⟩
      have j1 : (N : Int) / 2 = (q : Int) := by omega
      have hqlt : b ^ q < Nt.pw 2048 := Int.lt_of_le_of_lt (pow_mono_le hb1 (by omega)) hlt
      have hc := ih q (by omega) (w := w) (b := b) hb1 hb2 (by omega) hqlt
      have n0 : ((N : Int) == 0) = false := by simp; omega
      have hh := pow_half (s := b) N
      have e2 : (b * b) ^ q = b ^ q * b ^ q := by rw [Int.mul_pow]
      rw [← hq, e2] at hh
      have hsq : b ^ q * b ^ q < Nt.pw 2048 := by
        have h1 : b ^ q * b ^ q = b ^ (q + q) := by rw [Int.pow_add]
        rw [h1]
        exact Int.lt_of_le_of_lt (pow_mono_le hb1 (by omega)) hlt
      have HH := hide hh
      have HL := hide hlt
      have HS := hide hsq
      clear ih hh hlt hsq hqlt hq
      go_enter Tryz.func85, Tryz.ntmps85
      go_wp2_with fail
      with_reducible refine hc.mono ?_
      clear hc
      rintro e w1 ⟨v1, rfl, h1, hb⟩
      go_wp2_with fail
      with_reducible refine (rmul_any h1.arg h1.arg (by omega) (by omega)).mono ?_
      rintro e w2 ⟨v2, rfl, h2, hB2⟩
      have h2' := h2.tight (k' := 2048) HS.out
      have hW := below_trans hb hB2
      have hbs := hb.size
      clear h1 hB2 h2
      by_cases hodd : N % 2 = 1
      · have j2 : (N : Int) % 2 = 1 := by omega
        have j3 : ((N : Int) % 2 == 1) = true := by simp [j2]
        go_wp2_with fail
        with_reducible refine (rmul_any (h2'.arg.below (below_alloc _ _)) (arg_one w2 (x := b) ⟨by omega, hb2⟩) (by omega) (by omega)).mono ?_
        rintro e w3 ⟨v3, rfl, h3, hB3⟩
        have hW3 := below_trans hW (below_trans (below_alloc w2 _) hB3)
        have hfin : Num w.heap.size w3 v3 (b ^ N) 2048 := by
          have e3 : b ^ q * b ^ q * b = b ^ N := by have h := HH.out; rw [if_pos hodd] at h; exact h.symm
          rw [e3] at h3
          exact (h3.low (by have := hW.size; simp; omega)).tight HL.out
        have HF := hide hfin
        clear h3 hfin h2' hb hB3
        go_wp2
        go_ret
        exact ⟨_, rfl, HF.out, hW3⟩
      · have j2 : (N : Int) % 2 = 0 := by omega
        have j3 : ((N : Int) % 2 == 1) = false := by simp [j2]
        have hfin : Num w.heap.size w2 v2 (b ^ N) 2048 := by
          have e3 : b ^ q * b ^ q = b ^ N := by have h := HH.out; rw [if_neg hodd] at h; simpa using h.symm
          rw [← e3]
          exact h2'.low hbs
        have HF := hide hfin
        clear hfin h2' hb
        go_wp2
        go_ret
        exact ⟨_, rfl, HF.out, hW⟩

theorem len_ten4 : IsLen 10 4 := by unfold IsLen; decide

set_option maxRecDepth 20000 in
set_option maxHeartbeats 4000000 in
theorem rpow_in {w : World} {b : Int} {N k : Nat} (hb2 : 2 ≤ b) (hb1 : b < 4294967296) (hk : IsLen b k) (hk0 : 0 < k) (hin : ¬ 65536 / (k : Int) < (N : Int)) (hN : (N : Int) ≤ 9223372036854775807) (hlt : b ^ N < Nt.pw 2048) :
    Calls Tryz.prog 45 #[.int .u32 b, .int .i64 N] w fun e w' => ∃ v, e = .returned (.tuple #[v, .bool true]) ∧ Num w.heap.size w' v (b ^ N) 2048 ∧ Below w.heap.size w w' := by
  have hlen := rlen_any (arg_one w (x := b) ⟨by omega, hb1⟩) (by omega) hk
  have Hlen := hide hlen
  clear hlen
  have hB0 : Below w.heap.size w (w.alloc (.cells #[.int .u32 b] 22)) := below_alloc _ _
  have HLt := hide hlt
  have hn0 : ¬ (N : Int) < 0 := by omega
  have hin2 : decide (65536 / (k : Int) < (N : Int)) = false := decide_eq_false hin
  have hkz : ¬ (k : Int) = 0 := by omega
  have z0 : (b == 0) = false := by simp; omega
  have z1 : (b == 1) = false := by simp; omega
  obtain ⟨Q, hQ⟩ : ∃ Q, 65536 / (k : Int) = Q := ⟨_, rfl⟩
  rw [hQ] at hin hin2
  clear hlt hk
  go_enter Tryz.func45, Tryz.ntmps45
  go_wp2_with fail
  with_reducible refine Hlen.out.mono ?_
  rintro e w1 ⟨rfl, hB1⟩
  go_wp2_with fail
  with_reducible refine (rpower_any N (by omega) hb1 hN HLt.out).mono ?_
  rintro e w2 ⟨v, rfl, hv, hB2⟩
  have hW := below_trans (below_trans hB0 hB1) hB2
  have HF := hide (hv.low (below_trans hB0 hB1).size)
  clear hv hB1 hB2
  go_wp2
  go_ret2
  exact ⟨_, rfl, HF.out, hW⟩
theorem rpow_ten {w : World} (N : Nat) (hN : N ≤ 2000) :
    Calls Tryz.prog 45 #[.int .u32 10, .int .i64 N] w fun e w' => ∃ v, e = .returned (.tuple #[v, .bool true]) ∧ Num w.heap.size w' v (10 ^ N) 2048 ∧ Below w.heap.size w w' :=
  rpow_in (by omega) (by omega) len_ten4 (by omega) (by have : (65536 : Int) / ((4 : Nat) : Int) = 16384 := by decide
                                                        omega) (by omega) (pow_lt (by omega) len_ten4 (Or.inr (by omega)))

end Go.Proofs.YtlhjbmdkfdabmaaGreatDoor

namespace Go.Proofs.YtlhjbmdkfdabmaaGreatDoor
open Go.RowKit
set_option linter.unusedVariables false

theorem arg_top {w : World} {v : Value} {n : Int} {k : Nat} (h : Arg w v n k) : n < p2 (32 * k) := by
  obtain ⟨zs, _, h2, rfl, h4⟩ := h
  have a := Nt.val_lt h2
  have b : Nt.pw zs.length ≤ Nt.pw k := by rw [← p2_32, ← p2_32]; exact p2_mono (by omega)
  rw [p2_32]
  omega
theorem some_len : ∀ (m : Nat) (x : Int), 0 ≤ x → x < p2 m → ∃ k, IsLen x k ∧ k ≤ m := by
  intro m
  induction m with
  | zero => intro x h0 h; exact ⟨0, ⟨h, fun g => by omega⟩, Nat.le_refl _⟩
  | succ m ih =>
    intro x h0 h
    rcases Int.lt_or_le x (p2 m) with g | g
    · obtain ⟨k, h1, h2⟩ := ih x h0 g
      exact ⟨k, h1, by omega⟩
    · exact ⟨m + 1, ⟨h, fun _ => by rw [Nat.add_sub_cancel]; exact g⟩, Nat.le_refl _⟩

set_option maxHeartbeats 1000000 in
theorem shl6 {w : World} {va : Value} {A : Int} {ka N : Nat} (ha : Arg w va A ka) (hka : ka ≤ 1000) (hN : N ≤ 6000) :
    Calls Tryz.prog 47 #[va, .int .i64 N] w fun e w' => ∃ v, e = .returned v ∧ Num w.heap.size w' v (A * p2 N) (ka + 760) ∧ Below w.heap.size w w' := by
  have a0 := ha.nonneg
  by_cases z : A = 0
  · subst z
    go_enter Tryz.func47, Tryz.ntmps47
    go_wp2_with fail
    refine (rshl_zero ha (by omega) (by omega)).mono ?_
    rintro r w1 ⟨rfl, b1⟩
    go_wp2
    go_ret
    refine ⟨_, rfl, ?_, b1⟩
    rw [Int.zero_mul]
    exact ⟨[], ⟨none, rfl, by unfold maxLen; simp, fun h => absurd h (by simp)⟩, Nt.canon_nil, rfl, Nat.zero_le _⟩
  · obtain ⟨k, hk, hk2⟩ := some_len (32 * ka) A a0 (arg_top ha)
    obtain ⟨W, hW⟩ : ∃ W, W = N / 8 := ⟨_, rfl⟩
    obtain ⟨s, hs⟩ : ∃ s, s = N % 8 := ⟨_, rfl⟩
    have Hk := hide hk
    have HW := hide (show N = 8 * W + s ∧ s < 8 ∧ W ≤ 750 by omega)
    clear hk hW hs
    go_enter Tryz.func47, Tryz.ntmps47
    go_wp2_with fail
    refine (rshl_ok (W := W) (s := s) ha (by omega) (by omega) Hk.out hk2 (by omega) HW.out.1 HW.out.2.1).mono ?_
    rintro r w1 ⟨v, rfl, hv, b1⟩
    have HV := hide (hv.mono (k' := ka + 760) (by have := HW.out.2.2; omega))
    clear hv
    go_wp2
    go_ret
    exact ⟨_, rfl, HV.out, b1⟩

set_option maxHeartbeats 1000000 in
theorem ten6 {w : World} {va : Value} {A : Int} {ka N : Nat} (ha : Arg w va A ka) (hka : ka ≤ 3000) (hN : N ≤ 2000) :
    Calls Tryz.prog 44 #[va, .int .i64 N] w fun e w' => ∃ v, e = .returned v ∧ Num w.heap.size w' v (A * 10 ^ N) (ka + 2049) ∧ Below w.heap.size w w' := by
  go_enter Tryz.func44, Tryz.ntmps44
  go_wp2_with fail
  refine (rpow_ten N hN).mono ?_
  rintro r w1 ⟨v, rfl, hv, b1⟩
  go_wp2_with fail
  refine (rmul_any (ha.below b1) hv.arg (by omega) (by omega)).mono ?_
  rintro r w2 ⟨v2, rfl, hv2, b2⟩
  have HV := hide (hv2.low b1.size)
  have K := below_trans b1 b2
  clear hv hv2
  go_wp2
  go_ret
  exact ⟨_, rfl, HV.out.mono (by omega), K⟩

end Go.Proofs.YtlhjbmdkfdabmaaGreatDoor

namespace Go.Proofs.YtlhjbmdkfdabmaaGreatDoor
set_option linter.unusedVariables false

/-- the number that digits tell -/
def bv : List Int → Int
  | [] => 0
  | a :: x => (a - 48) * 10 ^ x.length + bv x
theorem bv_snoc (xs : List Int) (b : Int) : bv (xs ++ [b]) = 10 * bv xs + (b - 48) := by
  induction xs with
  | nil => simp [bv]
  | cons a x ih =>
    rw [List.cons_append, bv, ih, bv, List.length_append, List.length_singleton, Int.pow_succ]
    rw [Int.mul_add, ← Int.mul_assoc, Int.mul_comm ((a - 48) * 10 ^ x.length) 10]
    omega
theorem bv_dl (k : Nat) : ∀ d, 0 ≤ d → d < 10 ^ k → bv (dl k d) = d := by
  induction k with
  | zero => intro d h0 h1; simp at h1; simp [dl, bv]; omega
  | succ k ih =>
    intro d h0 h1
    rw [Int.pow_succ] at h1
    rw [dl, bv_snoc, ih (d / 10) (by omega) (by omega)]
    omega
theorem bv_range {xs : List Int} (h : ∀ x ∈ xs, 48 ≤ x ∧ x ≤ 57) : 0 ≤ bv xs ∧ bv xs < 10 ^ xs.length := by
  induction xs with
  | nil => simp [bv]
  | cons a x ih =>
    obtain ⟨i0, i1⟩ := ih (fun y hy => h y (List.mem_cons_of_mem _ hy))
    obtain ⟨a0, a1⟩ := h a List.mem_cons_self
    rw [bv, List.length_cons, Int.pow_succ]
    have p := ten_pos x.length
    have q0 : 0 ≤ (a - 48) * 10 ^ x.length := Int.mul_nonneg (by omega) (by omega)
    have q1 : (a - 48) * 10 ^ x.length ≤ 9 * 10 ^ x.length := Int.mul_le_mul_of_nonneg_right (by omega) (by omega)
    omega
def by8 (xs : List Int) : List UInt8 := xs.map fun n => UInt8.ofNat n.toNat
theorem by8_lt {a b : Int} (ha : 48 ≤ a ∧ a ≤ 57) (hb : 48 ≤ b ∧ b ≤ 57) : (UInt8.ofNat a.toNat < UInt8.ofNat b.toNat ↔ a < b) ∧ (UInt8.ofNat a.toNat = UInt8.ofNat b.toNat ↔ a = b) := by
  have e : ∀ {x : Int}, 48 ≤ x ∧ x ≤ 57 → (UInt8.ofNat x.toNat).toNat = x.toNat := fun {x} h => by
    rw [UInt8.toNat_ofNat']; omega
  constructor
  · rw [UInt8.lt_iff_toNat_lt, e ha, e hb]; omega
  · rw [← UInt8.toNat_inj, e ha, e hb]; omega
theorem less_digits : ∀ (xs ys : List Int), (∀ x ∈ xs, 48 ≤ x ∧ x ≤ 57) → (∀ x ∈ ys, 48 ≤ x ∧ x ≤ 57) → bv xs * 10 ^ ys.length < bv ys * 10 ^ xs.length →
    Op.bytesLess (by8 xs) (by8 ys) = true ∧ Op.bytesLess (by8 ys) (by8 xs) = false
  | xs, [], hx, hy, h => by
    exfalso
    have := (bv_range hx).1
    simp [bv] at h
    omega
  | [], b :: y, hx, hy, h => by simp [by8, Op.bytesLess]
  | a :: x, b :: y, hx, hy, h => by
    have ha := hx a List.mem_cons_self
    have hb := hy b List.mem_cons_self
    have hx' := fun z hz => hx z (List.mem_cons_of_mem a hz)
    have hy' := fun z hz => hy z (List.mem_cons_of_mem b hz)
    obtain ⟨l1, l2⟩ := by8_lt ha hb
    obtain ⟨m1, m2⟩ := by8_lt hb ha
    obtain ⟨rx0, rx1⟩ := bv_range hx'
    obtain ⟨ry0, ry1⟩ := bv_range hy'
    have key : a ≤ b ∧ (a = b → bv x * 10 ^ y.length < bv y * 10 ^ x.length) := by
      rw [bv, bv, List.length_cons, List.length_cons, Int.pow_succ, Int.pow_succ] at h
      have px := ten_pos x.length
      have py := ten_pos y.length
      generalize (10 : Int) ^ x.length = P at *
      generalize (10 : Int) ^ y.length = R at *
      generalize bv x = X at *
      generalize bv y = Y at *
      have e1 : ((a - 48) * P + X) * (R * 10) = ((a - 48) * (P * R) + X * R) * 10 := by rw [← Int.mul_assoc, Int.add_mul, Int.mul_assoc (a - 48)]
      have e2 : ((b - 48) * R + Y) * (P * 10) = ((b - 48) * (P * R) + Y * P) * 10 := by rw [← Int.mul_assoc, Int.add_mul, Int.mul_assoc (b - 48), Int.mul_comm R P]
      rw [e1, e2] at h
      have pp : 0 < P * R := Int.mul_pos px py
      have x0 : 0 ≤ X * R := Int.mul_nonneg rx0 (by omega)
      have y1 : Y * P < P * R := by rw [Int.mul_comm P R]; exact Int.mul_lt_mul_of_pos_right ry1 px
      constructor
      · rcases Int.lt_or_le b a with c | c
        · exfalso
          have : (b - 48 + 1) * (P * R) ≤ (a - 48) * (P * R) := Int.mul_le_mul_of_nonneg_right (by omega) (by omega)
          rw [Int.add_mul, Int.one_mul] at this
          omega
        · exact c
      · intro e
        subst e
        omega
    simp only [by8, List.map_cons, Op.bytesLess]
    by_cases c : a = b
    · obtain ⟨i1, i2⟩ := less_digits x y hx' hy' (key.2 c)
      subst c
      constructor
      · rw [show Op.bytesLess (x.map fun n => UInt8.ofNat n.toNat) (y.map fun n => UInt8.ofNat n.toNat) = true from i1]; simp
      · rw [show Op.bytesLess (y.map fun n => UInt8.ofNat n.toNat) (x.map fun n => UInt8.ofNat n.toNat) = false from i2]; simp
    · have lt : a < b := by have := key.1; omega
      constructor
      · simp [l1.2 lt]
      · have n1 : ¬ UInt8.ofNat b.toNat < UInt8.ofNat a.toNat := fun k => by have := m1.1 k; omega
        have n2 : ¬ UInt8.ofNat b.toNat = UInt8.ofNat a.toNat := fun k => by have := m2.1 k; omega
        simp [n1, n2]
theorem less_self : ∀ xs : List UInt8, Op.bytesLess xs xs = false
  | [] => by simp [Op.bytesLess]
  | a :: x => by simp [Op.bytesLess, less_self x]

/-- what is told of a size above 0: digits and point of a number within reach -/
def Tl (F L s : Int) (t : ByteArray) (P : Int) : Prop :=
  ∃ (k : Nat) (d : Int), t = strOfNums (dl k d) ∧ 1 ≤ k ∧ k ≤ 17 ∧ 10 ^ (k - 1) ≤ d ∧ d < 10 ^ k ∧ -450 ≤ P - k ∧ d % 10 ≠ 0 ∧ Inn (vLo F L s) (vHi F L s) (s % 2 = 0) (d * TT (gG L) (P - k))
theorem tl_of {F L s p c : Int} {k : Nat} (hF : 0 < F) (h0 : 0 < s) (hL : -1074 ≤ L) (h : ShP F L s p k c) (h17 : k ≤ 17) : Tl F L s (strOfNums (txt k c)) (pt k c p) := by
  have hp := point_low hF h0 hL h.hi
  have hG := gG_pos L
  have inn : Inn (vLo F L s) (vHi F L s) (s % 2 = 0) (c * TT (gG L) (p - k)) := by
    rcases h.pick with ⟨e, g, _⟩ | ⟨e, g, _⟩ <;> rw [e] <;> exact g
  rcases h.cases hG (by omega) with ⟨e, rfl, _, e10⟩ | ⟨e, c0, c1, c2, _⟩
  · refine ⟨1, 1, ?_, by omega, by omega, by decide, by decide, ?_, by decide, ?_⟩
    · unfold txt; rw [if_pos e]; rfl
    · unfold pt; rw [if_pos e]; omega
    · unfold pt; rw [if_pos e]
      rw [e10] at inn
      have : TT (gG L) (p + 1 - (1 : Nat)) = 10 * TT (gG L) (p - (1 : Nat)) := by
        rw [← TT_succ (by omega)]; congr 1; omega
      rw [this, Int.one_mul]; exact inn
  · refine ⟨k, c, ?_, h.k1, h17, c0, c1, ?_, c2, ?_⟩
    · unfold txt; rw [if_neg e]
    · unfold pt; rw [if_neg e]; omega
    · unfold pt; rw [if_neg e]; exact inn
theorem str_list (xs : List Int) : (strOfNums xs).toList = by8 xs := by rw [ByteArray.toList_eq, strOfNums_data]; rfl
theorem rise {F L I s s' P P' : Int} {t t' : ByteArray} (hF : 0 < F) (h0 : 0 < s) (h1 : s < s') (h2 : s' < I) (h : Tl F L s t P) (h' : Tl F L s' t' P') :
    P < P' ∨ (P = P' ∧ Op.bytesLess t.toList t'.toList = true ∧ Op.bytesLess t'.toList t.toList = false) := by
  obtain ⟨k, d, rfl, k1, _, d0, d1, q, _, i1⟩ := h
  obtain ⟨k', d', rfl, k1', _, d0', d1', q', _, i2⟩ := h'
  have hG := gG_pos L
  have n1 := (nx_inn (I := I) hF h0 (by omega)).2 i1
  have n2 := (nx_inn (I := I) hF (by omega) h2).2 i2
  have lt : d * TT (gG L) (P - k) < d' * TT (gG L) (P' - k') := by
    rcases Int.lt_or_le (d * TT (gG L) (P - k)) (d' * TT (gG L) (P' - k')) with c | c
    · exact c
    · have := nx_le hF n2 n1 c; omega
  have lo : TT (gG L) (P - 1) ≤ d * TT (gG L) (P - k) := by
    have e : TT (gG L) (P - 1) = 10 ^ (k - 1) * TT (gG L) (P - k) := by rw [← TT_add (by omega)]; congr 1; omega
    rw [e]
    exact Int.mul_le_mul_of_nonneg_right d0 (Int.le_of_lt (TT_pos hG _))
  have hi : d' * TT (gG L) (P' - k') < TT (gG L) P' := by
    have e : TT (gG L) P' = 10 ^ k' * TT (gG L) (P' - k') := by rw [← TT_add (by omega)]; congr 1; omega
    rw [e]
    exact Int.mul_lt_mul_of_pos_right d1' (TT_pos hG _)
  have le := TT_lt hG (show TT (gG L) (P - 1) < TT (gG L) P' by omega)
  rcases Int.lt_or_le P P' with c | c
  · exact Or.inl c
  · have e : P = P' := by omega
    subst e
    refine Or.inr ⟨rfl, ?_⟩
    rw [str_list, str_list]
    refine less_digits _ _ (dl_byte k d) (dl_byte k' d') ?_
    rw [dl_len, dl_len, bv_dl k d (by have := ten_pos (k - 1); omega) d1, bv_dl k' d' (by have := ten_pos (k' - 1); omega) d1']
    -- both as so many of the finer step
    have fine : ∀ {a b : Nat} {x : Int}, -500 ≤ P - a - b → x * TT (gG L) (P - a) = x * 10 ^ b * TT (gG L) (P - a - b) := by
      intro a b x hh
      have e : TT (gG L) (P - a) = 10 ^ b * TT (gG L) (P - a - b) := by rw [← TT_add hh]; congr 1; omega
      rw [e, Int.mul_assoc]
    rw [fine (a := k) (b := k') (by omega), fine (a := k') (b := k) (by omega), show P - (k' : Int) - k = P - k - k' by omega] at lt
    exact Int.lt_of_mul_lt_mul_right lt (Int.le_of_lt (TT_pos hG _))

end Go.Proofs.YtlhjbmdkfdabmaaGreatDoor

namespace Go.Proofs.YtlhjbmdkfdabmaaGreatDoor
open Go.RowKit
set_option linter.unusedVariables false

theorem str_at {es : List Int} {p : Nat} (h : p < (strOfNums es).size) (hp : 0 ≤ Nt.lb es p ∧ Nt.lb es p < 256) : (((strOfNums es)[p]'h).toNat : Int) = Nt.lb es p := by
  have hl : p < es.length := by rw [strOfNums_size] at h; exact h
  have e : (strOfNums es)[p]'h = UInt8.ofNat (es[p]).toNat := by
    show (strOfNums es).data[p]'h = _
    simp [strOfNums]
  have e2 : Nt.lb es p = es[p] := by simp [Nt.lb, hl]
  rw [e2] at hp ⊢
  rw [e, UInt8.toNat_ofNat']
  omega
theorem lb_mem {es : List Int} {p : Nat} (h : p < es.length) : Nt.lb es p ∈ es := by
  have e2 : Nt.lb es p = es[p] := by simp [Nt.lb, h]
  rw [e2]; exact List.getElem_mem h
theorem bv_take {ds : List Int} {k : Nat} (h : k < ds.length) : bv (ds.take (k + 1)) = 10 * bv (ds.take k) + (Nt.lb ds k - 48) := by
  have e2 : Nt.lb ds k = ds[k] := by simp [Nt.lb, h]
  rw [List.take_add_one, List.getElem?_eq_getElem h, e2]
  exact bv_snoc _ _
theorem bv_small {ds : List Int} (hd : ∀ x ∈ ds, 48 ≤ x ∧ x ≤ 57) (hl : ds.length ≤ 18) (k : Nat) : 0 ≤ bv (ds.take k) ∧ bv (ds.take k) < 1000000000000000000 := by
  obtain ⟨a, b⟩ := bv_range (xs := ds.take k) (fun x hx => hd x (List.mem_of_mem_take hx))
  have c : (10 : Int) ^ (ds.take k).length ≤ 10 ^ 18 := by
    obtain ⟨d, hd⟩ : ∃ d, 18 = (ds.take k).length + d := ⟨18 - (ds.take k).length, by rw [List.length_take]; omega⟩
    rw [hd, Int.pow_add]
    have := ten_pos d
    have : (10 : Int) ^ (ds.take k).length * 1 ≤ 10 ^ (ds.take k).length * 10 ^ d := Int.mul_le_mul_of_nonneg_left (by omega) (Int.le_of_lt (ten_pos _))
    omega
  have e : (10 : Int) ^ 18 = 1000000000000000000 := by decide
  exact ⟨a, by omega⟩
theorem arg_nil6 (w : World) (k : Nat) : Arg w (.slice none 0 0) 0 k := ⟨[], ⟨none, 0, rfl, Nat.le_refl _, by unfold maxLen; omega, fun h => absurd h (by simp)⟩, Nt.canon_nil.1, rfl, Nat.zero_le _⟩

theorem lt_two {n : Int} (h : n < 1000000000000000000) : n < Nt.pw 2 := by
  have : Nt.pw 2 = 18446744073709551616 := by decide
  omega
theorem num_slc {B : Nat} {w : World} {v : Value} {n : Int} {k j : Nat} (h : Num B w v n k) (hj : n < Nt.pw j) : ∃ a l, v = .slice a l l ∧ l ≤ j ∧ Arg w v n j := by
  have g := h.fit hj
  have ga := g.arg
  obtain ⟨zs, ⟨ao, h1, _⟩, _, _, h4⟩ := g
  exact ⟨ao, zs.length, h1, h4, ga⟩
abbrev c1 (x : Int) : Obj := .cells #[.int .u32 x] 22
theorem al1 (w : World) (o : Obj) : Below w.heap.size w (w.alloc o) := (Below.refl _ _).alloc (Nat.le_refl _) _
theorem al1d (w : World) (o : Obj) : Below w.heap.size w (w.alloc o).drew := (al1 w o).drew
theorem al2 (w : World) (o o' : Obj) : Below w.heap.size w ((w.alloc o).alloc o') := below_trans (al1 w o) (al1 _ o')
theorem al2d (w : World) (o o' : Obj) : Below w.heap.size w ((w.alloc o).alloc o').drew := (al2 w o o').drew
theorem one_1 (w : World) (x : Int) (h0 : 0 ≤ x) (h1 : x < 4294967296) : Arg (w.alloc (c1 x)) (.slice (some ⟨w.heap.size, 0, none⟩) 1 1) x 1 := arg_one w ⟨h0, h1⟩
theorem one_1d (w : World) (x : Int) (h0 : 0 ≤ x) (h1 : x < 4294967296) : Arg (w.alloc (c1 x)).drew (.slice (some ⟨w.heap.size, 0, none⟩) 1 1) x 1 := (one_1 w x h0 h1).below (Below.refl _ _).drew
theorem one_2 (w : World) (o : Obj) (x : Int) (h0 : 0 ≤ x) (h1 : x < 4294967296) : Arg ((w.alloc (c1 x)).alloc o) (.slice (some ⟨w.heap.size, 0, none⟩) 1 1) x 1 := (one_1 w x h0 h1).below (al1 _ _)
theorem one_2d (w : World) (o : Obj) (x : Int) (h0 : 0 ≤ x) (h1 : x < 4294967296) : Arg ((w.alloc (c1 x)).alloc o).drew (.slice (some ⟨w.heap.size, 0, none⟩) 1 1) x 1 := (one_2 w o x h0 h1).below (Below.refl _ _).drew
theorem one_3 (w : World) (o : Obj) (x : Int) (h0 : 0 ≤ x) (h1 : x < 4294967296) : Arg ((w.alloc o).alloc (c1 x)) (.slice (some ⟨w.heap.size + 1, 0, none⟩) 1 1) x 1 := by
  have := one_1 (w.alloc o) x h0 h1
  rwa [show (w.alloc o).heap.size = w.heap.size + 1 by simp] at this
theorem one_3d (w : World) (o : Obj) (x : Int) (h0 : 0 ≤ x) (h1 : x < 4294967296) : Arg ((w.alloc o).alloc (c1 x)).drew (.slice (some ⟨w.heap.size + 1, 0, none⟩) 1 1) x 1 := (one_3 w o x h0 h1).below (Below.refl _ _).drew

set_option maxRecDepth 100000 in
set_option maxHeartbeats 8000000 in
theorem read6 {w : World} {ds : List Int} {s : ByteArray} {N : Nat} (hd : ∀ x ∈ ds, 48 ≤ x ∧ x ≤ 57) (hs : s = strOfNums ds) (hN : ds.length = N) (n0 : 0 < N) (hl : N ≤ 18) (h0 : Nt.lb ds 0 ≠ 48) :
    Calls Tryz.prog 42 #[.string s] w fun e w' => ∃ v, e = .returned (.tuple #[v, .bool true]) ∧ Arg w' v (bv ds) 2 ∧ Below w.heap.size w w' := by
  have hsz : s.size = N := by rw [hs, strOfNums_size, hN]
  have hix : ∀ p (h : p < s.size), ((s[p]'h).toNat : Int) = Nt.lb ds p ∧ 48 ≤ Nt.lb ds p ∧ Nt.lb ds p ≤ 57 := by
    intro p h
    subst hs
    have hp : p < ds.length := by rw [strOfNums_size] at h; exact h
    have b := hd _ (lb_mem hp)
    exact ⟨str_at h (by omega), b⟩
  have Hix := hide hix
  have Hd := hide hd
  have HN := hide hN
  have H0 := hide h0
  have hx0 := (hix 0 (by omega)).1
  have hz : (Nt.lb ds 0 == 48) = false := by simp [h0]
  obtain ⟨d0, hd0⟩ : ∃ d, Nt.lb ds 0 = d := ⟨_, rfl⟩
  rw [hd0] at hx0 hz
  have hn0 : ((N : Int) == 0) = false := by simp; omega
  have hp0 : 0 < s.size := by omega
  have hN0 : (0 : Int) < (N : Int) := by omega
  clear hix hd hN h0 hs hd0
  go_enter Tryz.func42, Tryz.ntmps42
  go_wp2
  clear hx0 hz hn0
  go_loopg [5] N (fun c i wr => ∃ k : Nat, k ≤ N ∧ c = N - k ∧ i = .int .i64 k ∧ wr = w)
  case atStart => exact ⟨0, by omega, rfl, rfl, rfl⟩
  case round =>
    obtain ⟨k, hk, hgk, rfl, hw⟩ := hrel
    replace hw := hw.symm
    subst hw
    by_cases hkl : k < N
    · have hps : k < s.size := by omega
      obtain ⟨hx, x0, x1⟩ := Hix.out k hps
      obtain ⟨d, hdd⟩ : ∃ d, Nt.lb ds k = d := ⟨_, rfl⟩
      rw [hdd] at hx x0 x1
      clear hdd
      have q4 : (k : Int) < (N : Int) := by omega
      have l1 : ¬ d < 48 := by omega
      have l2 : ¬ 57 < d := by omega
      go_wp2
      go_roundg (N - (k + 1))
      case measure => omega
      case rel => exact ⟨k + 1, by omega, rfl, by simp, rfl⟩
    · have hke : k = N := by omega
      subst hke
      clear hgk hk hkl
      go_wp2
      go_loopg [4, 6] k (fun c va i wr => ∃ j : Nat, j ≤ k ∧ c = k - j ∧ i = .int .i64 j ∧ Arg wr va (bv (ds.take j)) 2 ∧ Below w.heap.size w wr)
      case atStart => exact ⟨0, by omega, rfl, rfl, by simpa [bv] using arg_nil6 w 2, Below.refl _ _⟩
      case round =>
        obtain ⟨j, hj, hgj, rfl, ha, hb⟩ := hrel
        have HA := hide ha
        obtain ⟨zs, ⟨ao, cap, rfl, z2, z3, z4⟩, z5, z6, z7⟩ := ha
        clear z2 z3 z4 z5 z6
        by_cases hjl : j < k
        · have hps : j < s.size := by omega
          obtain ⟨hx, x0, x1⟩ := Hix.out j hps
          have hv := hide (bv_take (ds := ds) (k := j) (by rw [HN.out]; exact hjl))
          obtain ⟨d, hdd⟩ : ∃ d, Nt.lb ds j = d := ⟨_, rfl⟩
          rw [hdd] at hx x0 x1 hv
          clear hdd
          have sm := bv_small Hd.out (by rw [HN.out]; exact hl) j
          have sm1 := bv_small Hd.out (by rw [HN.out]; exact hl) (j + 1)
          have Sm := hide (And.intro sm sm1)
          clear sm sm1
          have q4 : (j : Int) < (k : Int) := by omega
          have wd : IntKind.u8.wrap (d - 48) = d - 48 := by rw [IntKind.wrap_u8]; omega
          have wd2 : IntKind.u32.wrap (d - 48) = d - 48 := by rw [IntKind.wrap_u32]; omega
          have e0 : 0 ≤ d - 48 := by omega
          have e9 : d - 48 ≤ 9 := by omega
          have T0 := hide (show (0 : Int) ≤ 10 ∧ (10 : Int) < 4294967296 by omega)
          have T1 := hide (show 0 ≤ d - 48 ∧ d - 48 < 4294967296 by omega)
          have LT := hide (show bv (ds.take j) * 10 + (d - 48) < Nt.pw 2 from lt_two (by have := hv.out; have := Sm.out.2.2; omega))
          go_upto_region 12 with fail
          go_region_held3 (fun _ => True) (exact trivial)
            (first
              | (go_at_call 74; (refine (rmul_any (n := bv (ds.take j)) (m := 10) ?_ ?_ (ka := 2) (kb := 1) ?_ ?_).mono ?_); (first | exact HA.out.below (al1 _ _) | exact HA.out.below (al1d _ _) | exact HA.out.below (al2 _ _ _) | exact HA.out.below (al2d _ _ _)); (first | exact one_1 _ 10 T0.out.1 T0.out.2 | exact one_1d _ 10 T0.out.1 T0.out.2 | exact one_2 _ _ 10 T0.out.1 T0.out.2 | exact one_2d _ _ 10 T0.out.1 T0.out.2 | exact one_3 _ _ 10 T0.out.1 T0.out.2 | exact one_3d _ _ 10 T0.out.1 T0.out.2); omega; omega; rintro r w2 ⟨x, rfl, hx2, b2⟩)
              | (go_at_call 69; (refine (radd_any (n := bv (ds.take j) * 10) (m := d - 48) ?_ ?_ (ka := 4) (kb := 1) ?_ ?_).mono ?_); (first | exact hx2.arg | exact hx2.arg.below (al1 _ _)); (first | exact one_1 _ (d - 48) T1.out.1 T1.out.2 | exact (one_2 _ _ (d - 48) T1.out.1 T1.out.2).below b2 | exact (one_2d _ _ (d - 48) T1.out.1 T1.out.2).below b2 | exact (one_3 _ _ (d - 48) T1.out.1 T1.out.2).below b2 | exact (one_3d _ _ (d - 48) T1.out.1 T1.out.2).below b2); omega; omega; rintro r w3 ⟨y, rfl, hy, b3⟩; obtain ⟨ya, yl, rfl, yl2, hyA⟩ := num_slc hy (j := 2) LT.out))
          all_goals (
            have K : Below wr.heap.size wr w3 := by first | exact below_trans (below_trans (below_trans (al1d _ _) b2) (al1 _ _)) b3 | exact below_trans (below_trans (al2d _ _ _) b2) b3
            have nl : ¬ (262144 : Int) < (yl : Int) := by omega
            have Fin := hide (And.intro hyA (below_trans hb K))
            clear hx2 hy b2 b3 hyA K hb
            go_wp2
            go_roundg (k - (j + 1))
            case measure => omega
            case rel => exact ⟨j + 1, by omega, rfl, by simp, by rw [hv.out, Int.mul_comm 10]; exact Fin.out.1, Fin.out.2⟩)
        · have hje : j = k := by omega
          subst hje
          go_wp2
          go_ret2
          refine ⟨_, rfl, ?_, hb⟩
          have e := HA.out
          rwa [List.take_of_length_le (by rw [HN.out]; omega)] at e

end Go.Proofs.YtlhjbmdkfdabmaaGreatDoor

namespace Go.Proofs.YtlhjbmdkfdabmaaGreatDoor
open Go.RowKit
set_option linter.unusedVariables false

theorem mid_kind2 {F L r : Int} (u v : Nat) (hF : 0 < F) (hL : L ≤ 0) (h0 : 0 ≤ r) : (∃ j, (um F L L r + um F L L (r + 1)) * p2 u = j * (gG L * p2 v)) ∨ (um F L L r + um F L L (r + 1)) * p2 u < 2 * F * (gG L * p2 v) := by
  obtain ⟨m0, m1⟩ := mst_lt hF h0
  have l1 := est_ge (F := F) (L := L) (s := r) hF
  have e : um F L L r + um F L L (r + 1) = (2 * mst F r + 1) * p2 (est F L r - L).toNat := by
    rw [um_succ hF h0 (by omega), um_at, Int.add_mul, Int.one_mul, Int.mul_assoc]; omega
  have g0 : gG L * p2 v = p2 ((1 - L).toNat + v) := by unfold gG; rw [p2_add]
  rw [e, Int.mul_assoc, ← p2_add, g0]
  by_cases c : (1 - L).toNat + v ≤ (est F L r - L).toNat + u
  · left
    obtain ⟨d, hd⟩ : ∃ d, (est F L r - L).toNat + u = d + ((1 - L).toNat + v) := ⟨(est F L r - L).toNat + u - ((1 - L).toNat + v), by omega⟩
    rw [hd, p2_add d]
    exact ⟨(2 * mst F r + 1) * p2 d, by rw [Int.mul_assoc]⟩
  · right
    have g : p2 ((est F L r - L).toNat + u + 1) ≤ p2 ((1 - L).toNat + v) := p2_mono (by omega)
    rw [p2] at g
    have x0 := p2_pos ((est F L r - L).toNat + u)
    generalize p2 ((est F L r - L).toNat + u) = x at *
    generalize p2 ((1 - L).toNat + v) = y at *
    have k : (2 * mst F r + 1) * x ≤ (4 * F - 1) * x := Int.mul_le_mul_of_nonneg_right (by omega) (by omega)
    have k2 : 2 * F * (2 * x) ≤ 2 * F * y := Int.mul_le_mul_of_nonneg_left g (by omega)
    have k3 : (4 * F - 1) * x = 2 * F * (2 * x) - x := by
      rw [Int.sub_mul, Int.one_mul]; congr 1; rw [Int.mul_comm 2 x, ← Int.mul_assoc, Int.mul_comm (2 * F * x) 2, ← Int.mul_assoc, ← Int.mul_assoc]; rfl
    omega
theorem near_nx2 {F L I a D rest X mb r : Int} {u v : Nat} (hF : 0 < F) (hL : L ≤ 0) (hD : 0 < D) (r0 : 0 ≤ rest) (r1 : rest < D) (hmb : mb = if rest = 0 then 0 else 1) (ha : rest ≠ 0 → 2 * F ≤ a)
    (hX : X * (D * p2 u) = (a * D + rest) * (gG L * p2 v * E5)) (h : Near F L I (2 * a + mb) ((v : Int) - u - 1) r) : NX F L I X r := by
  obtain ⟨h0, h1, hn⟩ := h
  obtain ⟨hu, hl⟩ := hn (L - u - 1) (by omega) (by omega)
  have G0 : 0 < gG L * p2 v := Int.mul_pos (gG_pos L) (p2_pos v)
  have E0 := E5_pos
  have P0 := p2_pos u
  have es : sc (2 * a + mb) ((v : Int) - u - 1) (L - u - 1) = (2 * a + mb) * p2 ((v : Int) - L).toNat := by
    unfold sc; congr 2; omega
  have eg : gG L * p2 v = 2 * p2 ((v : Int) - L).toNat := by
    unfold gG; rw [← p2_add, show (1 - L).toNat + v = ((v : Int) - L).toNat + 1 by omega, p2]
  have ep : p2 (L - (L - (u : Int) - 1)).toNat = 2 * p2 u := by
    rw [show (L - (L - (u : Int) - 1)).toNat = u + 1 by omega, p2]
  have um' : ∀ s, um F L (L - u - 1) s = um F L L s * (2 * p2 u) := fun s => by rw [um_base_shift hF (by omega), ep]
  have hs : 2 * ((2 * a + mb) * p2 ((v : Int) - L).toNat) = (2 * a + mb) * (gG L * p2 v) := by rw [eg]; rw [Int.mul_left_comm]
  have hm : ∀ x y, x * (2 * p2 u) + y * (2 * p2 u) = 2 * ((x + y) * p2 u) := fun x y => by rw [← Int.add_mul, Int.mul_left_comm]
  rw [es, um', um', hs, hm] at hu
  rw [es, um', um', hs, hm] at hl
  have cmp : ∀ h' : Int, ((a * D + rest) * (gG L * p2 v) ≤ h' * p2 u * D ↔ X ≤ h' * E5) ∧ (h' * p2 u * D ≤ (a * D + rest) * (gG L * p2 v) ↔ h' * E5 ≤ X) := by
    intro h'
    have c0 : 0 < D * p2 u := Int.mul_pos hD P0
    have e1 : (a * D + rest) * (gG L * p2 v) * E5 = X * (D * p2 u) := by rw [hX, Int.mul_assoc]
    have e2 : h' * p2 u * D * E5 = h' * E5 * (D * p2 u) := by
      generalize E5 = E; ac_rfl
    have le : ∀ {x y c : Int}, 0 < c → (x * c ≤ y * c ↔ x ≤ y) := fun {x y c} hc => ⟨fun h => Int.le_of_mul_le_mul_right h hc, fun h => Int.mul_le_mul_of_nonneg_right h (by omega)⟩
    constructor
    · rw [← le E0, e1, e2, le c0]
    · rw [← le E0 (x := h' * p2 u * D), e1, e2, le c0]
  refine ⟨h0, h1, fun g => ?_, fun g => ?_⟩
  · obtain ⟨u1, u2⟩ := hu g
    obtain ⟨v1, v2⟩ := dec_up (F := F) G0 hD r0 r1 hmb (mid_kind2 u v hF hL h0) ha u1
    obtain ⟨c1, c2⟩ := cmp (um F L L r + um F L L (r + 1))
    refine ⟨c1.1 v1, fun e => u2 (v2 ?_)⟩
    have := c2.2 (by unfold vHi at e; omega)
    omega
  · obtain ⟨u1, u2⟩ := hl g
    have k := mid_kind2 (L := L) (r := r - 1) u v hF hL (by omega)
    rw [show r - 1 + 1 = r by omega] at k
    obtain ⟨v1, v2⟩ := dec_dn (F := F) G0 hD r0 r1 hmb k ha u1
    obtain ⟨c1, c2⟩ := cmp (um F L L (r - 1) + um F L L r)
    refine ⟨c2.1 v1, fun e => u2 (v2 ?_)⟩
    have := c1.2 (by unfold vLo at e; omega)
    omega
/-- what the reference's rounding gives, of a long division -/
theorem round_nx {S F L I A D rest X e : Int} {up fr : Nat} {neg more : Bool} {x : Ending} (hfr : F = p2 fr) (h52 : fr ≤ 52) (hL : L ≤ 0) (hD : 0 < D) (A0 : 0 ≤ A) (r0 : 0 ≤ rest) (r1 : rest < D) (hm : more = decide (rest ≠ 0)) (ha : rest ≠ 0 → p2 60 ≤ A) (he : e = -(up : Int))
    (hX : X * (D * p2 up) = (A * D + rest) * (gG L * E5)) (h : RoundIs S F L I neg A more e x) : ∃ r, x = .returned (.int .u64 (r + b2i neg * S)) ∧ NX F L I X r := by
  have hF : 0 < F := by rw [hfr]; exact p2_pos fr
  have f60 : 2 * F ≤ p2 60 := by
    have : p2 (fr + 1) ≤ p2 60 := p2_mono (by omega)
    rw [p2, ← hfr] at this
    exact this
  obtain ⟨r, A', e', mb', hx, hn, hs⟩ := h
  refine ⟨r, hx, ?_⟩
  rcases hs with ⟨e1, e2, e3⟩ | ⟨d, e1, e2, e3, e4⟩
  · subst e1 e2 e3
    refine near_nx2 (a := A') (D := D) (rest := rest) (mb := b2i' mb') (u := up) (v := 0) hF hL hD r0 r1 ?_ (fun g => by have := ha g; omega) ?_ ?_
    · rw [hm]
      by_cases z : rest = 0 <;> simp [b2i', z]
    · rw [hX, show p2 0 = 1 from rfl, Int.mul_one]
    · rw [show ((0 : Nat) : Int) - up - 1 = e' - 1 by omega]; exact hn
  · have pd := p2_pos d
    have hdm := Int.mul_ediv_add_emod A (p2 d)
    have q0 := Int.emod_nonneg A (b := p2 d) (by omega)
    have q1 := Int.emod_lt_of_pos A pd
    rw [← e1] at hdm
    have k0 : 0 ≤ A % p2 d * D := Int.mul_nonneg q0 (by omega)
    have k1 : (A % p2 d + 1) * D ≤ p2 d * D := Int.mul_le_mul_of_nonneg_right (by omega) (by omega)
    rw [Int.add_mul, Int.one_mul] at k1
    refine near_nx2 (a := A') (D := p2 d * D) (rest := A % p2 d * D + rest) (mb := b2i' mb') (u := up) (v := d) hF hL (Int.mul_pos pd hD) (by omega) (by omega) ?_ (fun _ => ?_) ?_ ?_
    · rw [e4, hm]
      have zz : A % p2 d * D + rest = 0 ↔ A % p2 d = 0 ∧ rest = 0 := by
        constructor
        · intro g
          refine ⟨?_, by omega⟩
          rcases Int.lt_or_le 0 (A % p2 d) with c | c
          · have := Int.mul_pos c hD; omega
          · omega
        · rintro ⟨g1, g2⟩; rw [g1, g2]; simp
      by_cases z1 : A % p2 d = 0
      · by_cases z2 : rest = 0
        · rw [if_pos (zz.2 ⟨z1, z2⟩)]; simp [b2i', z1, z2]
        · rw [if_neg (fun g => z2 (zz.1 g).2)]; simp [b2i', z2]
      · rw [if_neg (fun g => z1 (zz.1 g).1)]
        have : 0 < A % p2 d := by omega
        simp [b2i', this]
    · have : p2 60 ≤ p2 100 := p2_mono (by omega)
      omega
    · have a1 : A' * (p2 d * D) + (A % p2 d * D + rest) = A * D + rest := by
        rw [← Int.mul_assoc, ← Int.add_assoc, ← Int.add_mul, Int.mul_comm A' (p2 d), hdm]
      rw [a1, show X * (p2 d * D * p2 up) = X * (D * p2 up) * p2 d by ac_rfl, hX]
      generalize E5 = E
      ac_rfl
    · rw [show (d : Int) - up - 1 = e' - 1 by omega]; exact hn

theorem nst_up {L n P : Int} {N j : Nat} (hq : P - (N : Int) = j) : n * TT (gG L) (P - N) * (1 * p2 0) = (n * 10 ^ j * 1 + 0) * (gG L * E5) := by
  have e : TT (gG L) (P - N) = 10 ^ j * (E5 * gG L) := by
    have h := TT_add (G := gG L) (q := 0) (by omega) j
    rw [show TT (gG L) 0 = E5 * gG L from rfl] at h
    rw [hq, ← h]; congr 1; omega
  rw [e, show p2 0 = 1 from rfl]
  generalize E5 = E
  generalize (10 : Int) ^ j = T
  rw [Int.mul_one, Int.mul_one, Int.mul_one, Int.add_zero]
  ac_rfl
theorem nst_dn {L n P q : Int} {N j up : Nat} (hq : P - (N : Int) = q) (hj : -q = j) (hb : j ≤ 450) : n * TT (gG L) (P - N) * (10 ^ j * p2 up) = (n * p2 up / 10 ^ j * 10 ^ j + n * p2 up % 10 ^ j) * (gG L * E5) := by
  have e : E5 * gG L = 10 ^ j * TT (gG L) (P - N) := by
    have h := TT_add (G := gG L) (q := P - N) (by omega) j
    rw [show P - (N : Int) + j = 0 by omega] at h
    exact h
  have d := Int.mul_ediv_add_emod (n * p2 up) (10 ^ j)
  rw [Int.mul_comm ((10 : Int) ^ j)] at d
  rw [d, Int.mul_comm (gG L), e]
  generalize TT (gG L) (P - N) = T
  ac_rfl
theorem ten_1500 {j : Nat} (h : j ≤ 450) : (10 : Int) ^ j < p2 1500 := by
  have a : (10 : Int) ^ j ≤ 10 ^ 450 := by
    obtain ⟨d, hd⟩ : ∃ d, 450 = j + d := ⟨450 - j, by omega⟩
    rw [hd, Int.pow_add]
    have := ten_pos d
    have : (10 : Int) ^ j * 1 ≤ 10 ^ j * 10 ^ d := Int.mul_le_mul_of_nonneg_left (by omega) (Int.le_of_lt (ten_pos _))
    omega
  have b : (10 ^ 450 : Nat) < 2 ^ 1500 := by decide +kernel
  have c : (10 : Int) ^ 450 < p2 1500 := by
    rw [p2_is, ten_is]
    generalize (10 ^ 450 : Nat) = x at *
    generalize (2 ^ 1500 : Nat) = y at *
    exact_mod_cast b
  omega
theorem nst_big {n : Int} {j l1 l2 up : Nat} (h1 : IsLen (10 ^ j) l1) (h2 : IsLen n l2) (hu : (l1 : Int) - l2 + 80 = up) (hn : 0 < n) : p2 60 ≤ n * p2 up / 10 ^ j := by
  have l0 : 0 < l2 := by
    rcases Nat.lt_or_ge 0 l2 with c | c
    · exact c
    · have e := h2.1
      rw [show l2 = 0 by omega, show p2 0 = 1 from rfl] at e
      omega
  have a := h2.2 l0
  have b := h1.1
  rw [Int.le_ediv_iff_mul_le (ten_pos j)]
  have c : p2 60 * 10 ^ j ≤ p2 60 * p2 l1 := Int.mul_le_mul_of_nonneg_left (Int.le_of_lt b) (Int.le_of_lt (p2_pos _))
  have d : p2 (l2 - 1) * p2 up ≤ n * p2 up := Int.mul_le_mul_of_nonneg_right a (Int.le_of_lt (p2_pos _))
  rw [← p2_add] at c d
  have e : p2 (60 + l1) ≤ p2 (l2 - 1 + up) := p2_mono (by omega)
  omega
theorem num_len {B : Nat} {w : World} {v : Value} {n : Int} {k : Nat} (h : Num B w v n k) : ∃ a l, v = .slice a l l ∧ decide (0 < l) = decide (n ≠ 0) := by
  obtain ⟨zs, ⟨ao, h1, _⟩, h2, h3, _⟩ := h
  refine ⟨ao, zs.length, h1, ?_⟩
  by_cases e : zs = []
  · subst e; rw [← h3]; rfl
  · have a := Nt.canon_low h2 e
    have b := Nt.pw_pos (zs.length - 1)
    have c := List.length_pos_iff.2 e
    rw [decide_eq_true (by omega), decide_eq_true (by omega)]

set_option maxRecDepth 100000 in
set_option maxHeartbeats 8000000 in
theorem nearest6_h {w : World} {ds : List Int} {s : ByteArray} {N : Nat} {neg : Bool} {P : Int} (hd : ∀ x ∈ ds, 48 ≤ x ∧ x ≤ 57) (hs : s = strOfNums ds) (hN : ds.length = N) (n0 : 0 < N) (hl : N ≤ 18) (h0 : Nt.lb ds 0 ≠ 48) (hp : 0 < bv ds) (P0 : -400 ≤ P) (P1 : P ≤ 400) :
    Calls Tryz.prog 20 #[.int .i64 16, .agg #[.bool neg, .string s, .int .i64 P]] w fun e w' => (∃ r, e = .returned (.int .u64 (r + b2i neg * 32768)) ∧ NX 1024 (-24) 31744 (bv ds * TT (gG (-24)) (P - N)) r) ∧ Below w.heap.size w w' := by
  have hsz : s.size = N := by rw [hs, strOfNums_size, hN]
  have bs := bv_small hd (by omega) N
  rw [List.take_of_length_le (by omega)] at bs
  have RD := fun (w : World) => read6 (w := w) hd hs hN n0 hl h0
  have C := cell3_new w (.bool neg) (.string s) (.int .i64 P) 24
  have K0 := bel_new w (.cells #[.bool neg, .string s, .int .i64 P] 24)
  have Bs := hide bs
  clear hd hs hN bs h0
  go_enter Tryz.func20, Tryz.ntmps20
  have HRD := hide RD
  clear RD
  go_upto_region 1 with fail
  generalize w.alloc (.cells #[.bool neg, .string s, .int .i64 P] 24) = w0 at *
  have c1 := C.c1
  go_wp2_with fail
  refine (HRD.out w0).mono ?_
  rintro r w1 ⟨v, rfl, hv, b1⟩
  have K1 := below_trans K0 b1
  replace C := C.below b1
  have hvn := hide hv
  clear hv HRD b1 c1
  obtain ⟨q, hq⟩ : ∃ q, P - (N : Int) = q := ⟨_, rfl⟩
  have wq : IntKind.i64.wrap (P - (N : Int)) = q := by rw [hq, IntKind.wrap_i64]; omega
  have qb : -450 ≤ q ∧ q ≤ 450 := by omega
  have Hq := hide hq
  clear hq
  have c0 := C.c0
  have c1 := C.c1
  have c2 := C.c2
  by_cases qs : 0 ≤ q
  · obtain ⟨j, rfl⟩ : ∃ j : Nat, q = j := ⟨q.toNat, by omega⟩
    go_upto_region 4 with fail
    clear c0 c1 c2
    have XQ := hide (nst_up (L := -24) (n := bv ds) Hq.out)
    have FC := hide (show (10 : Nat) ≤ 52 ∧ (-24 : Int) ≤ 0 ∧ (0 : Int) < 1 ∧ false = decide ((0 : Int) ≠ 0) ∧ 0 ≤ bv ds * 10 ^ j from ⟨by decide, by decide, by decide, by decide, Int.mul_nonneg Bs.out.1 (Int.le_of_lt (ten_pos j))⟩)
    have NO := hide (show (0 : Int) ≠ 0 → p2 60 ≤ bv ds * 10 ^ j from fun h => absurd rfl h)
    have K : Below w1.heap.size w1 w1.drew := (Below.refl _ _).drew
    go_region_held3 (fun w' => w'.cell? ⟨w.heap.size, 0, none⟩ = some (.bool neg))
      (first
        | with_reducible exact (C.below K).c0
        | go_keep)
      (first
        | (go_at_call 44; (refine (ten6 (N := j) (hvn.out.below K) ?_ ?_).mono ?_); omega; omega; rintro r w2 ⟨u, rfl, hu, b2⟩; replace K := below_trans K b2; clear b2)
        | (go_at_call 43; (refine (rRound_h (e := 0) hu.arg ?_ ?_ ?_).mono ?_); omega; omega; omega; rintro r w3 ⟨hr, b3⟩; obtain ⟨r0, rfl, nx⟩ := round_nx (D := 1) (rest := 0) (up := 0) (fr := 10) (X := bv ds * TT (gG (-24)) (P - N)) fr_h FC.out.1 FC.out.2.1 FC.out.2.2.1 FC.out.2.2.2.2 (Int.le_refl _) FC.out.2.2.1 FC.out.2.2.2.1 NO.out rfl XQ.out hr; replace K := below_trans K b3; clear b3))
    all_goals (
      go_wp2
      go_ret
      exact ⟨⟨r0, rfl, nx⟩, below_trans K1 K⟩)
  · obtain ⟨j, hj⟩ : ∃ j : Nat, -q = j := ⟨(-q).toNat, by omega⟩
    have wj : IntKind.i64.wrap (-q) = (j : Int) := by rw [hj, IntKind.wrap_i64]; omega
    have j1 : j ≤ 450 := by omega
    go_upto_region 5 with fail
    clear c0 c1 c2
    obtain ⟨l1, hl1, l1b⟩ := some_len 1500 (10 ^ j) (Int.le_of_lt (ten_pos j)) (ten_1500 j1)
    obtain ⟨l2, hl2, l2b⟩ := some_len 60 (bv ds) Bs.out.1 (by have := Bs.out.2; have e : p2 60 = 1152921504606846976 := by decide
                                                              omega)
    obtain ⟨up, hup⟩ : ∃ u : Nat, (l1 : Int) - l2 + 80 = u := ⟨((l1 : Int) - l2 + 80).toNat, by omega⟩
    have w1' : IntKind.i64.wrap ((l1 : Int) - l2) = (l1 : Int) - l2 := by rw [IntKind.wrap_i64]; omega
    have w2' : IntKind.i64.wrap ((l1 : Int) - l2 + 80) = (up : Int) := by rw [hup, IntKind.wrap_i64]; omega
    have w3' : IntKind.i64.wrap (-(up : Int)) = -(up : Int) := by rw [IntKind.wrap_i64]; omega
    have ub : up ≤ 1600 := by omega
    have u0 : (0 : Int) ≤ (up : Int) := by omega
    have l1p : 1 ≤ l1 := by
      rcases Nat.lt_or_ge 0 l1 with c | c
      · exact c
      · have e := hl1.1
        rw [show l1 = 0 by omega, show p2 0 = 1 from rfl] at e
        have := ten_pos j
        omega
    have u1 : (0 : Int) < (up : Int) := by omega
    have u2 : ¬ (up : Int) < 0 := by omega
    have u3 : ¬ (up : Int) ≤ 0 := by omega
    have u4 : 0 < up := by omega
    have mx : max (0 : Int) (up : Int) = up := by omega
    have XQ := hide (nst_dn (L := -24) (n := bv ds) (up := up) Hq.out hj j1)
    have big := hide (nst_big hl1 hl2 hup hp)
    have Hl1 := hide hl1
    have Hl2 := hide hl2
    clear hl1 hl2 hup
    go_wp2_with fail
    refine (rpow_ten j (by omega)).mono ?_
    rintro r w2 ⟨vb, rfl, hb, b2⟩
    go_wp2_with fail
    refine (rlen_any hb.arg (by omega) Hl1.out).mono ?_
    rintro r w3 ⟨rfl, b3⟩
    have N3 := hide ((hvn.out.below b2).below b3)
    have B3 := hide (hb.below b3)
    have K3 := below_trans (below_trans K1 b2) b3
    replace C := (C.below b2).below b3
    clear hb b2 b3 hvn
    go_wp2_with fail
    refine (rlen_any N3.out (by omega) Hl2.out).mono ?_
    rintro r w4 ⟨rfl, b4⟩
    have N4 := hide (N3.out.below b4)
    have B4 := hide (B3.out.below b4)
    replace K3 := below_trans K3 b4
    replace C := C.below b4
    clear b4 N3 B3
    go_wp2_with fail
    refine (shl6 N4.out (by omega) (by omega)).mono ?_
    rintro r w5 ⟨vs, rfl, hvs, b5⟩
    go_wp2_with fail
    refine (rdiv_any hvs.arg (B4.out.arg.below b5) (by omega) (by omega) (by have := ten_pos j; omega)).mono ?_
    rintro r w6 ⟨vq, vr, rfl, hvq, hvr, b6⟩
    obtain ⟨ra, rl, rfl, hrl⟩ := num_len hvr
    replace K3 := below_trans (below_trans K3 b5) b6
    replace C := (C.below b5).below b6
    have c0 := C.c0
    have HQ := hide hvq.arg
    have HM := hide hrl
    clear hvs hvq hvr b5 b6 N4 B4 hrl
    go_wp2_with fail
    refine (rRound_h (e := -(up : Int)) HQ.out (by omega) (by omega) (by omega)).mono ?_
    rintro r w7 ⟨hr, b7⟩
    obtain ⟨r0, rfl, nx⟩ := round_nx (D := 10 ^ j) (rest := bv ds * p2 up % 10 ^ j) (up := up) (fr := 10) (X := bv ds * TT (gG (-24)) (P - N)) fr_h (by decide) (by decide) (ten_pos j) (Int.ediv_nonneg (Int.mul_nonneg Bs.out.1 (Int.le_of_lt (p2_pos up))) (Int.le_of_lt (ten_pos j))) (Int.emod_nonneg _ (by have := ten_pos j; omega)) (Int.emod_lt_of_pos _ (ten_pos j)) HM.out (fun _ => big.out) rfl XQ.out hr
    have F := hide (And.intro (And.intro (rfl : r0 = r0) nx) (below_trans K3 b7))
    clear hr nx b7
    go_wp2
    go_ret
    exact ⟨⟨r0, rfl, F.out.1.2⟩, F.out.2⟩

set_option maxRecDepth 100000 in
set_option maxHeartbeats 8000000 in
theorem nearest6_s {w : World} {ds : List Int} {s : ByteArray} {N : Nat} {neg : Bool} {P : Int} (hd : ∀ x ∈ ds, 48 ≤ x ∧ x ≤ 57) (hs : s = strOfNums ds) (hN : ds.length = N) (n0 : 0 < N) (hl : N ≤ 18) (h0 : Nt.lb ds 0 ≠ 48) (hp : 0 < bv ds) (P0 : -400 ≤ P) (P1 : P ≤ 400) :
    Calls Tryz.prog 20 #[.int .i64 32, .agg #[.bool neg, .string s, .int .i64 P]] w fun e w' => (∃ r, e = .returned (.int .u64 (r + b2i neg * 2147483648)) ∧ NX 8388608 (-149) 2139095040 (bv ds * TT (gG (-149)) (P - N)) r) ∧ Below w.heap.size w w' := by
  have hsz : s.size = N := by rw [hs, strOfNums_size, hN]
  have bs := bv_small hd (by omega) N
  rw [List.take_of_length_le (by omega)] at bs
  have RD := fun (w : World) => read6 (w := w) hd hs hN n0 hl h0
  have C := cell3_new w (.bool neg) (.string s) (.int .i64 P) 24
  have K0 := bel_new w (.cells #[.bool neg, .string s, .int .i64 P] 24)
  have Bs := hide bs
  clear hd hs hN bs h0
  go_enter Tryz.func20, Tryz.ntmps20
  have HRD := hide RD
  clear RD
  go_upto_region 1 with fail
  generalize w.alloc (.cells #[.bool neg, .string s, .int .i64 P] 24) = w0 at *
  have c1 := C.c1
  go_wp2_with fail
  refine (HRD.out w0).mono ?_
  rintro r w1 ⟨v, rfl, hv, b1⟩
  have K1 := below_trans K0 b1
  replace C := C.below b1
  have hvn := hide hv
  clear hv HRD b1 c1
  obtain ⟨q, hq⟩ : ∃ q, P - (N : Int) = q := ⟨_, rfl⟩
  have wq : IntKind.i64.wrap (P - (N : Int)) = q := by rw [hq, IntKind.wrap_i64]; omega
  have qb : -450 ≤ q ∧ q ≤ 450 := by omega
  have Hq := hide hq
  clear hq
  have c0 := C.c0
  have c1 := C.c1
  have c2 := C.c2
  by_cases qs : 0 ≤ q
  · obtain ⟨j, rfl⟩ : ∃ j : Nat, q = j := ⟨q.toNat, by omega⟩
    go_upto_region 4 with fail
    clear c0 c1 c2
    have XQ := hide (nst_up (L := -149) (n := bv ds) Hq.out)
    have FC := hide (show (23 : Nat) ≤ 52 ∧ (-149 : Int) ≤ 0 ∧ (0 : Int) < 1 ∧ false = decide ((0 : Int) ≠ 0) ∧ 0 ≤ bv ds * 10 ^ j from ⟨by decide, by decide, by decide, by decide, Int.mul_nonneg Bs.out.1 (Int.le_of_lt (ten_pos j))⟩)
    have NO := hide (show (0 : Int) ≠ 0 → p2 60 ≤ bv ds * 10 ^ j from fun h => absurd rfl h)
    have K : Below w1.heap.size w1 w1.drew := (Below.refl _ _).drew
    go_region_held3 (fun w' => w'.cell? ⟨w.heap.size, 0, none⟩ = some (.bool neg))
      (first
        | with_reducible exact (C.below K).c0
        | go_keep)
      (first
        | (go_at_call 44; (refine (ten6 (N := j) (hvn.out.below K) ?_ ?_).mono ?_); omega; omega; rintro r w2 ⟨u, rfl, hu, b2⟩; replace K := below_trans K b2; clear b2)
        | (go_at_call 43; (refine (rRound_s (e := 0) hu.arg ?_ ?_ ?_).mono ?_); omega; omega; omega; rintro r w3 ⟨hr, b3⟩; obtain ⟨r0, rfl, nx⟩ := round_nx (D := 1) (rest := 0) (up := 0) (fr := 23) (X := bv ds * TT (gG (-149)) (P - N)) fr_s FC.out.1 FC.out.2.1 FC.out.2.2.1 FC.out.2.2.2.2 (Int.le_refl _) FC.out.2.2.1 FC.out.2.2.2.1 NO.out rfl XQ.out hr; replace K := below_trans K b3; clear b3))
    all_goals (
      go_wp2
      go_ret
      exact ⟨⟨r0, rfl, nx⟩, below_trans K1 K⟩)
  · obtain ⟨j, hj⟩ : ∃ j : Nat, -q = j := ⟨(-q).toNat, by omega⟩
    have wj : IntKind.i64.wrap (-q) = (j : Int) := by rw [hj, IntKind.wrap_i64]; omega
    have j1 : j ≤ 450 := by omega
    go_upto_region 5 with fail
    clear c0 c1 c2
    obtain ⟨l1, hl1, l1b⟩ := some_len 1500 (10 ^ j) (Int.le_of_lt (ten_pos j)) (ten_1500 j1)
    obtain ⟨l2, hl2, l2b⟩ := some_len 60 (bv ds) Bs.out.1 (by have := Bs.out.2; have e : p2 60 = 1152921504606846976 := by decide
                                                              omega)
    obtain ⟨up, hup⟩ : ∃ u : Nat, (l1 : Int) - l2 + 80 = u := ⟨((l1 : Int) - l2 + 80).toNat, by omega⟩
    have w1' : IntKind.i64.wrap ((l1 : Int) - l2) = (l1 : Int) - l2 := by rw [IntKind.wrap_i64]; omega
    have w2' : IntKind.i64.wrap ((l1 : Int) - l2 + 80) = (up : Int) := by rw [hup, IntKind.wrap_i64]; omega
    have w3' : IntKind.i64.wrap (-(up : Int)) = -(up : Int) := by rw [IntKind.wrap_i64]; omega
    have ub : up ≤ 1600 := by omega
    have u0 : (0 : Int) ≤ (up : Int) := by omega
    have l1p : 1 ≤ l1 := by
      rcases Nat.lt_or_ge 0 l1 with c | c
      · exact c
      · have e := hl1.1
        rw [show l1 = 0 by omega, show p2 0 = 1 from rfl] at e
        have := ten_pos j
        omega
    have u1 : (0 : Int) < (up : Int) := by omega
    have u2 : ¬ (up : Int) < 0 := by omega
    have u3 : ¬ (up : Int) ≤ 0 := by omega
    have u4 : 0 < up := by omega
    have mx : max (0 : Int) (up : Int) = up := by omega
    have XQ := hide (nst_dn (L := -149) (n := bv ds) (up := up) Hq.out hj j1)
    have big := hide (nst_big hl1 hl2 hup hp)
    have Hl1 := hide hl1
    have Hl2 := hide hl2
    clear hl1 hl2 hup
    go_wp2_with fail
    refine (rpow_ten j (by omega)).mono ?_
    rintro r w2 ⟨vb, rfl, hb, b2⟩
    go_wp2_with fail
    refine (rlen_any hb.arg (by omega) Hl1.out).mono ?_
    rintro r w3 ⟨rfl, b3⟩
    have N3 := hide ((hvn.out.below b2).below b3)
    have B3 := hide (hb.below b3)
    have K3 := below_trans (below_trans K1 b2) b3
    replace C := (C.below b2).below b3
    clear hb b2 b3 hvn
    go_wp2_with fail
    refine (rlen_any N3.out (by omega) Hl2.out).mono ?_
    rintro r w4 ⟨rfl, b4⟩
    have N4 := hide (N3.out.below b4)
    have B4 := hide (B3.out.below b4)
    replace K3 := below_trans K3 b4
    replace C := C.below b4
    clear b4 N3 B3
    go_wp2_with fail
    refine (shl6 N4.out (by omega) (by omega)).mono ?_
    rintro r w5 ⟨vs, rfl, hvs, b5⟩
    go_wp2_with fail
    refine (rdiv_any hvs.arg (B4.out.arg.below b5) (by omega) (by omega) (by have := ten_pos j; omega)).mono ?_
    rintro r w6 ⟨vq, vr, rfl, hvq, hvr, b6⟩
    obtain ⟨ra, rl, rfl, hrl⟩ := num_len hvr
    replace K3 := below_trans (below_trans K3 b5) b6
    replace C := (C.below b5).below b6
    have c0 := C.c0
    have HQ := hide hvq.arg
    have HM := hide hrl
    clear hvs hvq hvr b5 b6 N4 B4 hrl
    go_wp2_with fail
    refine (rRound_s (e := -(up : Int)) HQ.out (by omega) (by omega) (by omega)).mono ?_
    rintro r w7 ⟨hr, b7⟩
    obtain ⟨r0, rfl, nx⟩ := round_nx (D := 10 ^ j) (rest := bv ds * p2 up % 10 ^ j) (up := up) (fr := 23) (X := bv ds * TT (gG (-149)) (P - N)) fr_s (by decide) (by decide) (ten_pos j) (Int.ediv_nonneg (Int.mul_nonneg Bs.out.1 (Int.le_of_lt (p2_pos up))) (Int.le_of_lt (ten_pos j))) (Int.emod_nonneg _ (by have := ten_pos j; omega)) (Int.emod_lt_of_pos _ (ten_pos j)) HM.out (fun _ => big.out) rfl XQ.out hr
    have F := hide (And.intro (And.intro (rfl : r0 = r0) nx) (below_trans K3 b7))
    clear hr nx b7
    go_wp2
    go_ret
    exact ⟨⟨r0, rfl, F.out.1.2⟩, F.out.2⟩

set_option maxRecDepth 100000 in
set_option maxHeartbeats 8000000 in
theorem nearest6_d {w : World} {ds : List Int} {s : ByteArray} {N : Nat} {neg : Bool} {P : Int} (hd : ∀ x ∈ ds, 48 ≤ x ∧ x ≤ 57) (hs : s = strOfNums ds) (hN : ds.length = N) (n0 : 0 < N) (hl : N ≤ 18) (h0 : Nt.lb ds 0 ≠ 48) (hp : 0 < bv ds) (P0 : -400 ≤ P) (P1 : P ≤ 400) :
    Calls Tryz.prog 20 #[.int .i64 64, .agg #[.bool neg, .string s, .int .i64 P]] w fun e w' => (∃ r, e = .returned (.int .u64 (r + b2i neg * 9223372036854775808)) ∧ NX 4503599627370496 (-1074) 9218868437227405312 (bv ds * TT (gG (-1074)) (P - N)) r) ∧ Below w.heap.size w w' := by
  have hsz : s.size = N := by rw [hs, strOfNums_size, hN]
  have bs := bv_small hd (by omega) N
  rw [List.take_of_length_le (by omega)] at bs
  have RD := fun (w : World) => read6 (w := w) hd hs hN n0 hl h0
  have C := cell3_new w (.bool neg) (.string s) (.int .i64 P) 24
  have K0 := bel_new w (.cells #[.bool neg, .string s, .int .i64 P] 24)
  have Bs := hide bs
  clear hd hs hN bs h0
  go_enter Tryz.func20, Tryz.ntmps20
  have HRD := hide RD
  clear RD
  go_upto_region 1 with fail
  generalize w.alloc (.cells #[.bool neg, .string s, .int .i64 P] 24) = w0 at *
  have c1 := C.c1
  go_wp2_with fail
  refine (HRD.out w0).mono ?_
  rintro r w1 ⟨v, rfl, hv, b1⟩
  have K1 := below_trans K0 b1
  replace C := C.below b1
  have hvn := hide hv
  clear hv HRD b1 c1
  obtain ⟨q, hq⟩ : ∃ q, P - (N : Int) = q := ⟨_, rfl⟩
  have wq : IntKind.i64.wrap (P - (N : Int)) = q := by rw [hq, IntKind.wrap_i64]; omega
  have qb : -450 ≤ q ∧ q ≤ 450 := by omega
  have Hq := hide hq
  clear hq
  have c0 := C.c0
  have c1 := C.c1
  have c2 := C.c2
  by_cases qs : 0 ≤ q
  · obtain ⟨j, rfl⟩ : ∃ j : Nat, q = j := ⟨q.toNat, by omega⟩
    go_upto_region 4 with fail
    clear c0 c1 c2
    have XQ := hide (nst_up (L := -1074) (n := bv ds) Hq.out)
    have FC := hide (show (52 : Nat) ≤ 52 ∧ (-1074 : Int) ≤ 0 ∧ (0 : Int) < 1 ∧ false = decide ((0 : Int) ≠ 0) ∧ 0 ≤ bv ds * 10 ^ j from ⟨by decide, by decide, by decide, by decide, Int.mul_nonneg Bs.out.1 (Int.le_of_lt (ten_pos j))⟩)
    have NO := hide (show (0 : Int) ≠ 0 → p2 60 ≤ bv ds * 10 ^ j from fun h => absurd rfl h)
    have K : Below w1.heap.size w1 w1.drew := (Below.refl _ _).drew
    go_region_held3 (fun w' => w'.cell? ⟨w.heap.size, 0, none⟩ = some (.bool neg))
      (first
        | with_reducible exact (C.below K).c0
        | go_keep)
      (first
        | (go_at_call 44; (refine (ten6 (N := j) (hvn.out.below K) ?_ ?_).mono ?_); omega; omega; rintro r w2 ⟨u, rfl, hu, b2⟩; replace K := below_trans K b2; clear b2)
        | (go_at_call 43; (refine (rRound_d (e := 0) hu.arg ?_ ?_ ?_).mono ?_); omega; omega; omega; rintro r w3 ⟨hr, b3⟩; obtain ⟨r0, rfl, nx⟩ := round_nx (D := 1) (rest := 0) (up := 0) (fr := 52) (X := bv ds * TT (gG (-1074)) (P - N)) fr_d FC.out.1 FC.out.2.1 FC.out.2.2.1 FC.out.2.2.2.2 (Int.le_refl _) FC.out.2.2.1 FC.out.2.2.2.1 NO.out rfl XQ.out hr; replace K := below_trans K b3; clear b3))
    all_goals (
      go_wp2
      go_ret
      exact ⟨⟨r0, rfl, nx⟩, below_trans K1 K⟩)
  · obtain ⟨j, hj⟩ : ∃ j : Nat, -q = j := ⟨(-q).toNat, by omega⟩
    have wj : IntKind.i64.wrap (-q) = (j : Int) := by rw [hj, IntKind.wrap_i64]; omega
    have j1 : j ≤ 450 := by omega
    go_upto_region 5 with fail
    clear c0 c1 c2
    obtain ⟨l1, hl1, l1b⟩ := some_len 1500 (10 ^ j) (Int.le_of_lt (ten_pos j)) (ten_1500 j1)
    obtain ⟨l2, hl2, l2b⟩ := some_len 60 (bv ds) Bs.out.1 (by have := Bs.out.2; have e : p2 60 = 1152921504606846976 := by decide
                                                              omega)
    obtain ⟨up, hup⟩ : ∃ u : Nat, (l1 : Int) - l2 + 80 = u := ⟨((l1 : Int) - l2 + 80).toNat, by omega⟩
    have w1' : IntKind.i64.wrap ((l1 : Int) - l2) = (l1 : Int) - l2 := by rw [IntKind.wrap_i64]; omega
    have w2' : IntKind.i64.wrap ((l1 : Int) - l2 + 80) = (up : Int) := by rw [hup, IntKind.wrap_i64]; omega
    have w3' : IntKind.i64.wrap (-(up : Int)) = -(up : Int) := by rw [IntKind.wrap_i64]; omega
    have ub : up ≤ 1600 := by omega
    have u0 : (0 : Int) ≤ (up : Int) := by omega
    have l1p : 1 ≤ l1 := by
      rcases Nat.lt_or_ge 0 l1 with c | c
      · exact c
      · have e := hl1.1
        rw [show l1 = 0 by omega, show p2 0 = 1 from rfl] at e
        have := ten_pos j
        omega
    have u1 : (0 : Int) < (up : Int) := by omega
    have u2 : ¬ (up : Int) < 0 := by omega
    have u3 : ¬ (up : Int) ≤ 0 := by omega
    have u4 : 0 < up := by omega
    have mx : max (0 : Int) (up : Int) = up := by omega
    have XQ := hide (nst_dn (L := -1074) (n := bv ds) (up := up) Hq.out hj j1)
    have big := hide (nst_big hl1 hl2 hup hp)
    have Hl1 := hide hl1
    have Hl2 := hide hl2
    clear hl1 hl2 hup
    go_wp2_with fail
    refine (rpow_ten j (by omega)).mono ?_
    rintro r w2 ⟨vb, rfl, hb, b2⟩
    go_wp2_with fail
    refine (rlen_any hb.arg (by omega) Hl1.out).mono ?_
    rintro r w3 ⟨rfl, b3⟩
    have N3 := hide ((hvn.out.below b2).below b3)
    have B3 := hide (hb.below b3)
    have K3 := below_trans (below_trans K1 b2) b3
    replace C := (C.below b2).below b3
    clear hb b2 b3 hvn
    go_wp2_with fail
    refine (rlen_any N3.out (by omega) Hl2.out).mono ?_
    rintro r w4 ⟨rfl, b4⟩
    have N4 := hide (N3.out.below b4)
    have B4 := hide (B3.out.below b4)
    replace K3 := below_trans K3 b4
    replace C := C.below b4
    clear b4 N3 B3
    go_wp2_with fail
    refine (shl6 N4.out (by omega) (by omega)).mono ?_
    rintro r w5 ⟨vs, rfl, hvs, b5⟩
    go_wp2_with fail
    refine (rdiv_any hvs.arg (B4.out.arg.below b5) (by omega) (by omega) (by have := ten_pos j; omega)).mono ?_
    rintro r w6 ⟨vq, vr, rfl, hvq, hvr, b6⟩
    obtain ⟨ra, rl, rfl, hrl⟩ := num_len hvr
    replace K3 := below_trans (below_trans K3 b5) b6
    replace C := (C.below b5).below b6
    have c0 := C.c0
    have HQ := hide hvq.arg
    have HM := hide hrl
    clear hvs hvq hvr b5 b6 N4 B4 hrl
    go_wp2_with fail
    refine (rRound_d (e := -(up : Int)) HQ.out (by omega) (by omega) (by omega)).mono ?_
    rintro r w7 ⟨hr, b7⟩
    obtain ⟨r0, rfl, nx⟩ := round_nx (D := 10 ^ j) (rest := bv ds * p2 up % 10 ^ j) (up := up) (fr := 52) (X := bv ds * TT (gG (-1074)) (P - N)) fr_d (by decide) (by decide) (ten_pos j) (Int.ediv_nonneg (Int.mul_nonneg Bs.out.1 (Int.le_of_lt (p2_pos up))) (Int.le_of_lt (ten_pos j))) (Int.emod_nonneg _ (by have := ten_pos j; omega)) (Int.emod_lt_of_pos _ (ten_pos j)) HM.out (fun _ => big.out) rfl XQ.out hr
    have F := hide (And.intro (And.intro (rfl : r0 = r0) nx) (below_trans K3 b7))
    clear hr nx b7
    go_wp2
    go_ret
    exact ⟨⟨r0, rfl, F.out.1.2⟩, F.out.2⟩

end Go.Proofs.YtlhjbmdkfdabmaaGreatDoor

namespace Go.Proofs.YtlhjbmdkfdabmaaGreatDoor
open Go.RowKit
set_option linter.unusedVariables false

/-- the digits that are told: as many as there may be -/
structure Td (F L s : Int) (M : Nat) (t : ByteArray) (P : Int) (ds : List Int) (N : Nat) : Prop where
  t : t = strOfNums ds
  dg : ∀ x ∈ ds, 48 ≤ x ∧ x ≤ 57
  len : ds.length = N
  n0 : 0 < N
  n1 : N ≤ M + 1
  n2 : N ≤ 17
  first : Nt.lb ds 0 ≠ 48
  last : Nt.lb ds (N - 1) ≠ 48
  pos : 0 < bv ds
  p0 : -400 < P
  p1 : P < 400
  inn : Inn (vLo F L s) (vHi F L s) (s % 2 = 0) (bv ds * TT (gG L) (P - N))
theorem dl_last (k : Nat) (d : Int) : Nt.lb (dl (k + 1) d) k = 48 + d % 10 := by
  rw [dl]
  simp [Nt.lb, dl_len]
theorem dl_first {k : Nat} {d : Int} (k1 : 1 ≤ k) (h0 : 10 ^ (k - 1) ≤ d) (h1 : d < 10 ^ k) : Nt.lb (dl k d) 0 ≠ 48 := by
  intro e
  have b := bv_dl k d (by have := ten_pos (k - 1); omega) h1
  have l := dl_len k d
  have hb := dl_byte k d
  cases hd : dl k d with
  | nil => rw [hd] at l; simp at l; omega
  | cons a x =>
    rw [hd] at b e l hb
    have ea : a = 48 := by simpa [Nt.lb] using e
    subst ea
    rw [bv] at b
    obtain ⟨_, r1⟩ := bv_range (xs := x) (fun y hy => hb y (List.mem_cons_of_mem _ hy))
    rw [List.length_cons] at l
    rw [show x.length = k - 1 by omega] at r1
    omega
theorem td_of {F L s p c : Int} {k M fr : Nat} (hfr : F = p2 fr) (h0 : 0 < s) (hL : -1074 ≤ L) (hL0 : L ≤ 0) (he : est F L s ≤ 1023 - fr) (hM : 2 * F ≤ 10 ^ M) (hM2 : M ≤ 16) (h : ShP F L s p k c) (h17 : k ≤ 17) : ∃ ds N, Td F L s M (strOfNums (txt k c)) (pt k c p) ds N := by
  have hF : 0 < F := by rw [hfr]; exact p2_pos fr
  have hp := point_low hF h0 hL h.hi
  have hp2 := point_high hfr (by omega) hL0 he h.lo
  have hG := gG_pos L
  have kM : k ≤ M + 1 := by
    rcases Nat.lt_or_ge (M + 1) k with g | g
    · exact absurd (h.out (M + 1) (by omega) g) (v_most hF h0 hM (by omega) h.lo)
    · exact g
  have inn : Inn (vLo F L s) (vHi F L s) (s % 2 = 0) (c * TT (gG L) (p - k)) := by
    rcases h.pick with ⟨e, g, _⟩ | ⟨e, g, _⟩ <;> rw [e] <;> exact g
  rcases h.cases hG (by omega) with ⟨e, rfl, _, e10⟩ | ⟨e, c0, c1, c2, _⟩
  · refine ⟨[49], 1, ?_, by simp, rfl, by omega, by omega, by omega, by decide, by decide, by decide, ?_, ?_, ?_⟩
    · unfold txt; rw [if_pos e]
    · unfold pt; rw [if_pos e]; omega
    · unfold pt; rw [if_pos e]; omega
    · unfold pt; rw [if_pos e]
      rw [e10] at inn
      have : TT (gG L) (p + 1 - (1 : Nat)) = 10 * TT (gG L) (p - (1 : Nat)) := by
        rw [← TT_succ (by omega)]; congr 1; omega
      rw [this, show bv [49] = 1 from rfl, Int.one_mul]; exact inn
  · have k1 := h.k1
    have cp : 0 < c := by have := ten_pos (k - 1); omega
    have eb := bv_dl k c (by omega) c1
    refine ⟨dl k c, k, ?_, dl_byte k c, dl_len k c, by omega, kM, h17, dl_first k1 c0 c1, ?_, by rw [eb]; exact cp, ?_, ?_, ?_⟩
    · unfold txt; rw [if_neg e]
    · obtain ⟨m, rfl⟩ : ∃ m, k = m + 1 := ⟨k - 1, by omega⟩
      rw [Nat.add_sub_cancel, dl_last]; omega
    · unfold pt; rw [if_neg e]; omega
    · unfold pt; rw [if_neg e]; omega
    · unfold pt; rw [if_neg e, eb]; exact inn

set_option maxRecDepth 100000 in
set_option maxHeartbeats 4000000 in
theorem plain6 {w : World} {ds : List Int} {s : ByteArray} {N : Nat} (hd : ∀ x ∈ ds, 48 ≤ x ∧ x ≤ 57) (hs : s = strOfNums ds) (hN : ds.length = N) (n0 : 0 < N) (hl : N ≤ 17) (h0 : Nt.lb ds 0 ≠ 48) (h1 : Nt.lb ds (N - 1) ≠ 48) :
    Calls Tryz.prog 18 #[.string s] w fun e w' => e = .returned (.bool true) ∧ w' = w := by
  have hsz : s.size = N := by rw [hs, strOfNums_size, hN]
  have hix : ∀ p (h : p < s.size), ((s[p]'h).toNat : Int) = Nt.lb ds p ∧ 48 ≤ Nt.lb ds p ∧ Nt.lb ds p ≤ 57 := by
    intro p h
    subst hs
    have hp : p < ds.length := by rw [strOfNums_size] at h; exact h
    have b := hd _ (lb_mem hp)
    exact ⟨str_at h (by omega), b⟩
  have Hix := hide hix
  have H0 := hide h0
  have H1 := hide h1
  clear hix hd hN h0 h1 hs
  go_enter Tryz.func18, Tryz.ntmps18
  go_wp2
  go_loopg [3] N (fun c i wr => ∃ k : Nat, k ≤ N ∧ c = N - k ∧ i = .int .i64 k ∧ wr = w)
  case atStart => exact ⟨0, by omega, rfl, rfl, rfl⟩
  case round =>
    obtain ⟨k, hk, hgk, rfl, hw⟩ := hrel
    replace hw := hw.symm
    subst hw
    by_cases hkl : k < N
    · have hps : k < s.size := by omega
      obtain ⟨hx, x0, x1⟩ := Hix.out k hps
      obtain ⟨d, hdd⟩ : ∃ d, Nt.lb ds k = d := ⟨_, rfl⟩
      rw [hdd] at hx x0 x1
      clear hdd
      have q4 : (k : Int) < (N : Int) := by omega
      have l1 : ¬ d < 48 := by omega
      have l2 : ¬ 57 < d := by omega
      go_wp2
      go_roundg (N - (k + 1))
      case measure => omega
      case rel => exact ⟨k + 1, by omega, rfl, by simp, rfl⟩
    · have hke : k = N := by omega
      subst hke
      clear hgk hk hkl
      obtain ⟨m, rfl⟩ : ∃ m, k = m + 1 := ⟨k - 1, by omega⟩
      have hp0 : 0 < s.size := by omega
      have hpm : m < s.size := by omega
      have hx0 := (Hix.out 0 hp0).1
      have hxm := (Hix.out m hpm).1
      have z0 : (Nt.lb ds 0 != 48) = true := by simp; exact H0.out
      have zm : (Nt.lb ds m != 48) = true := by
        have := H1.out
        rw [Nat.add_sub_cancel] at this
        simp; exact this
      obtain ⟨a, ha⟩ : ∃ a, Nt.lb ds 0 = a := ⟨_, rfl⟩
      obtain ⟨b, hb⟩ : ∃ b, Nt.lb ds m = b := ⟨_, rfl⟩
      rw [ha] at hx0 z0
      rw [hb] at hxm zm
      clear ha hb
      have e1 : ((m + 1 : Nat) : Int) - 1 = (m : Int) := by omega
      have e2 : ((m : Int) + 1) - 1 = (m : Int) := by omega
      have e3 : (m : Int) < (m : Int) + 1 := by omega
      have e4 : (0 : Int) < (m : Int) + 1 := by omega
      go_wp2
      go_ret
      exact ⟨rfl, rfl⟩

theorem most6_h (w : World) : Calls Tryz.prog 19 #[.int .i64 16] w fun e w' => e = .returned (.int .i64 5) ∧ w' = w := by
  go_enter Tryz.func19, Tryz.ntmps19
  go_wp2
  go_ret
  exact ⟨rfl, rfl⟩

theorem most6_s (w : World) : Calls Tryz.prog 19 #[.int .i64 32] w fun e w' => e = .returned (.int .i64 9) ∧ w' = w := by
  go_enter Tryz.func19, Tryz.ntmps19
  go_wp2
  go_ret
  exact ⟨rfl, rfl⟩

theorem most6_d (w : World) : Calls Tryz.prog 19 #[.int .i64 64] w fun e w' => e = .returned (.int .i64 17) ∧ w' = w := by
  go_enter Tryz.func19, Tryz.ntmps19
  go_wp2
  go_ret
  exact ⟨rfl, rfl⟩

end Go.Proofs.YtlhjbmdkfdabmaaGreatDoor

namespace Go.Proofs.YtlhjbmdkfdabmaaGreatDoor
open Go.RowKit
set_option linter.unusedVariables false

set_option maxRecDepth 100000 in
set_option maxHeartbeats 4000000 in
theorem number6 {w : World} {ds : List Int} {s : ByteArray} {N : Nat} (hd : ∀ x ∈ ds, 48 ≤ x ∧ x ≤ 57) (hs : s = strOfNums ds) (hN : ds.length = N) (hl : N ≤ 18) :
    Calls Tryz.prog 21 #[.string s] w fun e w' => e = .returned (.int .u64 (bv ds)) ∧ w' = w := by
  have hsz : s.size = N := by rw [hs, strOfNums_size, hN]
  have hix : ∀ p (h : p < s.size), ((s[p]'h).toNat : Int) = Nt.lb ds p ∧ 48 ≤ Nt.lb ds p ∧ Nt.lb ds p ≤ 57 := by
    intro p h
    subst hs
    have hp : p < ds.length := by rw [strOfNums_size] at h; exact h
    have b := hd _ (lb_mem hp)
    exact ⟨str_at h (by omega), b⟩
  have Hix := hide hix
  have Hd := hide hd
  have HN := hide hN
  clear hix hd hN hs
  go_enter Tryz.func21, Tryz.ntmps21
  go_wp2
  go_loopg [3, 4] N (fun c sn i wr => ∃ (k : Nat) (n : Int), k ≤ N ∧ c = N - k ∧ i = .int .i64 k ∧ sn = .int .u64 n ∧ n = bv (ds.take k) ∧ wr = w)
  case atStart => exact ⟨0, 0, by omega, rfl, rfl, rfl, by simp [bv], rfl⟩
  case round =>
    obtain ⟨k, n, hk, hgk, rfl, rfl, hn, hw⟩ := hrel
    replace hw := hw.symm
    subst hw
    have sm := bv_small Hd.out (by rw [HN.out]; exact hl) k
    rw [← hn] at sm
    have Hn := hide hn
    clear hn
    by_cases hkl : k < N
    · have hps : k < s.size := by omega
      obtain ⟨hx, x0, x1⟩ := Hix.out k hps
      have hv := hide (bv_take (ds := ds) (k := k) (by rw [HN.out]; exact hkl))
      obtain ⟨d, hdd⟩ : ∃ d, Nt.lb ds k = d := ⟨_, rfl⟩
      rw [hdd] at hx x0 x1 hv
      clear hdd
      have q4 : (k : Int) < (N : Int) := by omega
      have e1 : IntKind.u64.wrap (n * 10) = n * 10 := by rw [IntKind.wrap_u64]; omega
      have e2 : IntKind.u8.wrap (d - 48) = d - 48 := by rw [IntKind.wrap_u8]; omega
      have e3 : IntKind.u64.wrap (d - 48) = d - 48 := by rw [IntKind.wrap_u64]; omega
      have e4 : IntKind.u64.wrap (n * 10 + (d - 48)) = n * 10 + (d - 48) := by rw [IntKind.wrap_u64]; omega
      go_wp2
      go_roundg (N - (k + 1))
      case measure => omega
      case rel => exact ⟨k + 1, n * 10 + (d - 48), by omega, rfl, by simp, rfl, by rw [hv.out, ← Hn.out, Int.mul_comm 10], rfl⟩
    · have hke : k = N := by omega
      subst hke
      go_wp2
      go_ret
      have e := Hn.out
      rw [List.take_of_length_le (by rw [HN.out]; omega)] at e
      exact ⟨by rw [← e]; rfl, rfl⟩

theorem two_row (w : World) (x y : Int) (hx : 0 ≤ x ∧ x < 4294967296) (hy : 0 ≤ y ∧ y < 4294967296) : Arg (w.alloc (.cells #[.int .u32 x, .int .u32 y] 22)) (.slice (some ⟨w.heap.size, 0, none⟩) 2 2) (x + y * 4294967296) 2 := by
  have hr : Row .u32 22 (w.alloc (.cells #[.int .u32 x, .int .u32 y] 22)) w.heap.size [x, y] := heap_alloc_new _ _
  refine ⟨[x, y], ⟨some ⟨w.heap.size, 0, none⟩, 2, rfl, by simp, by unfold maxLen; simp, ?_⟩, ?_, ?_, by simp⟩
  · have := row_cells (off := 0) (n := 2) hr (by simp)
    simpa using this
  · intro i
    match i with
    | 0 => simpa [Nt.lb] using hx
    | 1 => simpa [Nt.lb] using hy
    | i + 2 => simp [Nt.lb]
  · rw [val_le_two (by simp)]
    simp [Nt.lb]
    omega

set_option maxHeartbeats 1000000 in
theorem nat6 {w : World} (n : Int) (h0 : 0 ≤ n) (h1 : n < 18446744073709551616) :
    Calls Tryz.prog 50 #[.int .u64 n] w fun e w' => ∃ v, e = .returned v ∧ Arg w' v n 2 ∧ Below w.heap.size w w' := by
  have e1 : n.tmod 4294967296 = n % 4294967296 := Int.tmod_eq_emod_of_nonneg h0
  have e2 : n.tdiv 4294967296 = n / 4294967296 := Int.tdiv_eq_ediv_of_nonneg h0
  obtain ⟨x, hx⟩ : ∃ x, n % 4294967296 = x := ⟨_, rfl⟩
  obtain ⟨y, hy⟩ : ∃ y, n / 4294967296 = y := ⟨_, rfl⟩
  rw [hx] at e1
  rw [hy] at e2
  have e3 : IntKind.u32.wrap x = x := by rw [IntKind.wrap_u32]; omega
  have e4 : IntKind.u32.wrap y = y := by rw [IntKind.wrap_u32]; omega
  have A := hide (two_row w x y (by omega) (by omega))
  have K := bel_new w (.cells #[.int .u32 x, .int .u32 y] 22)
  have E := hide (show x + y * 4294967296 = n by omega)
  go_enter Tryz.func50, Tryz.ntmps50
  go_wp2
  go_ret
  exact ⟨_, rfl, by rw [← E.out]; exact A.out, K⟩

end Go.Proofs.YtlhjbmdkfdabmaaGreatDoor

namespace Go.Proofs.YtlhjbmdkfdabmaaGreatDoor
open Go.RowKit
set_option linter.unusedVariables false

set_option maxHeartbeats 1000000 in
theorem shl6' {w : World} {va : Value} {A : Int} {ka N : Nat} (ha : Arg w va A ka) (hka : ka ≤ 3000) (hN : N ≤ 6000) :
    Calls Tryz.prog 47 #[va, .int .i64 N] w fun e w' => ∃ v, e = .returned v ∧ Num w.heap.size w' v (A * p2 N) (ka + 760) ∧ Below w.heap.size w w' := by
  have a0 := ha.nonneg
  by_cases z : A = 0
  · subst z
    go_enter Tryz.func47, Tryz.ntmps47
    go_wp2_with fail
    refine (rshl_zero ha (by omega) (by omega)).mono ?_
    rintro r w1 ⟨rfl, b1⟩
    go_wp2
    go_ret
    refine ⟨_, rfl, ?_, b1⟩
    rw [Int.zero_mul]
    exact ⟨[], ⟨none, rfl, by unfold maxLen; simp, fun h => absurd h (by simp)⟩, Nt.canon_nil, rfl, Nat.zero_le _⟩
  · obtain ⟨k, hk, hk2⟩ := some_len (32 * ka) A a0 (arg_top ha)
    obtain ⟨W, hW⟩ : ∃ W, W = N / 8 := ⟨_, rfl⟩
    obtain ⟨s, hs⟩ : ∃ s, s = N % 8 := ⟨_, rfl⟩
    have Hk := hide hk
    have HW := hide (show N = 8 * W + s ∧ s < 8 ∧ W ≤ 750 by omega)
    clear hk hW hs
    go_enter Tryz.func47, Tryz.ntmps47
    go_wp2_with fail
    refine (rshl_ok (W := W) (s := s) ha (by omega) (by omega) Hk.out hk2 (by omega) HW.out.1 HW.out.2.1).mono ?_
    rintro r w1 ⟨v, rfl, hv, b1⟩
    have HV := hide (hv.mono (k' := ka + 760) (by have := HW.out.2.2; omega))
    clear hv
    go_wp2
    go_ret
    exact ⟨_, rfl, HV.out, b1⟩

set_option maxRecDepth 100000 in
set_option maxHeartbeats 8000000 in
theorem against6 {w : World} {va vb : Value} {n m q e : Int} {ka kb q1 q2 e1 e2 : Nat} (ha : Arg w va n ka) (hb : Arg w vb m kb) (hka : ka ≤ 10) (hkb : kb ≤ 10) (hq1 : max q 0 = q1) (hq2 : max (-q) 0 = q2) (he1 : max e 0 = e1) (he2 : max (-e) 0 = e2) (b1 : q1 ≤ 600) (b2 : q2 ≤ 600) (b3 : e1 ≤ 1200) (b4 : e2 ≤ 1200) :
    Calls Tryz.prog 49 #[va, .int .i64 q, vb, .int .i64 e] w fun r w' => r = .returned (.int .i64 (sgn (n * 10 ^ q1 * p2 e2) (m * p2 e1 * 10 ^ q2))) ∧ Below w.heap.size w w' := by
  have w1 : IntKind.i64.wrap (-q) = -q := by rw [IntKind.wrap_i64]; omega
  have w2 : IntKind.i64.wrap (-e) = -e := by rw [IntKind.wrap_i64]; omega
  have h1 := hide ha
  have h2 := hide hb
  clear ha hb
  rcases Int.lt_trichotomy q 0 with cq | cq | cq
  · rcases Int.lt_trichotomy e 0 with ce | ce | ce
    · obtain ⟨j, hj⟩ : ∃ j : Nat, -q = j := ⟨(-q).toNat, by omega⟩
      rw [hj] at w1
      have f1 : (0 : Int) < (j : Int) := by omega
      have f2 : ¬ (j : Int) < 0 := by omega
      have f3 : ¬ (0 : Int) < q := by omega
      have f5 : ¬ (j : Int) ≤ 0 := by omega
      obtain rfl : q2 = j := by omega
      obtain rfl : q1 = 0 := by omega
      obtain ⟨i, hi⟩ : ∃ i : Nat, -e = i := ⟨(-e).toNat, by omega⟩
      rw [hi] at w2
      have g1 : (0 : Int) < (i : Int) := by omega
      have g2 : ¬ (i : Int) < 0 := by omega
      have g3 : ¬ (0 : Int) < e := by omega
      have g5 : ¬ (i : Int) ≤ 0 := by omega
      obtain rfl : e2 = i := by omega
      obtain rfl : e1 = 0 := by omega
      go_enter Tryz.func49, Tryz.ntmps49
      go_wp2_with fail
      refine (ten6 (N := 0) h1.out (by omega) (by omega)).mono ?_
      rintro r w3 ⟨x1, rfl, hx1, c1⟩
      go_wp2_with fail
      refine (shl6' (N := e2) hx1.arg (by omega) (by omega)).mono ?_
      rintro r w4 ⟨x2, rfl, hx2, c2⟩
      go_wp2_with fail
      refine (shl6' (N := 0) ((h2.out.below c1).below c2) (by omega) (by omega)).mono ?_
      rintro r w5 ⟨y1, rfl, hy1, c3⟩
      go_wp2_with fail
      refine (ten6 (N := q2) hy1.arg (by omega) (by omega)).mono ?_
      rintro r w6 ⟨y2, rfl, hy2, c4⟩
      have K := below_trans (below_trans (below_trans c1 c2) c3) c4
      go_wp2_with fail
      refine (rcmp_any ((hx2.arg.below c3).below c4) hy2.arg (by omega) (by omega)).mono ?_
      rintro r w7 ⟨rfl, c5⟩
      have F := hide (below_trans K c5)
      generalize hz : sgn _ _ = z
      have Hz := hide hz
      clear hz
      clear hx1 hx2 hy1 hy2 c1 c2 c3 c4 c5 K
      go_wp2
      go_ret
      exact ⟨by rw [Hz.out]; rfl, F.out⟩
    · obtain ⟨j, hj⟩ : ∃ j : Nat, -q = j := ⟨(-q).toNat, by omega⟩
      rw [hj] at w1
      have f1 : (0 : Int) < (j : Int) := by omega
      have f2 : ¬ (j : Int) < 0 := by omega
      have f3 : ¬ (0 : Int) < q := by omega
      have f5 : ¬ (j : Int) ≤ 0 := by omega
      obtain rfl : q2 = j := by omega
      obtain rfl : q1 = 0 := by omega
      subst ce
      obtain rfl : e2 = 0 := by omega
      obtain rfl : e1 = 0 := by omega
      go_enter Tryz.func49, Tryz.ntmps49
      go_wp2_with fail
      refine (ten6 (N := 0) h1.out (by omega) (by omega)).mono ?_
      rintro r w3 ⟨x1, rfl, hx1, c1⟩
      go_wp2_with fail
      refine (shl6' (N := 0) hx1.arg (by omega) (by omega)).mono ?_
      rintro r w4 ⟨x2, rfl, hx2, c2⟩
      go_wp2_with fail
      refine (shl6' (N := 0) ((h2.out.below c1).below c2) (by omega) (by omega)).mono ?_
      rintro r w5 ⟨y1, rfl, hy1, c3⟩
      go_wp2_with fail
      refine (ten6 (N := q2) hy1.arg (by omega) (by omega)).mono ?_
      rintro r w6 ⟨y2, rfl, hy2, c4⟩
      have K := below_trans (below_trans (below_trans c1 c2) c3) c4
      go_wp2_with fail
      refine (rcmp_any ((hx2.arg.below c3).below c4) hy2.arg (by omega) (by omega)).mono ?_
      rintro r w7 ⟨rfl, c5⟩
      have F := hide (below_trans K c5)
      generalize hz : sgn _ _ = z
      have Hz := hide hz
      clear hz
      clear hx1 hx2 hy1 hy2 c1 c2 c3 c4 c5 K
      go_wp2
      go_ret
      exact ⟨by rw [Hz.out]; rfl, F.out⟩
    · obtain ⟨j, hj⟩ : ∃ j : Nat, -q = j := ⟨(-q).toNat, by omega⟩
      rw [hj] at w1
      have f1 : (0 : Int) < (j : Int) := by omega
      have f2 : ¬ (j : Int) < 0 := by omega
      have f3 : ¬ (0 : Int) < q := by omega
      have f5 : ¬ (j : Int) ≤ 0 := by omega
      obtain rfl : q2 = j := by omega
      obtain rfl : q1 = 0 := by omega
      obtain ⟨i, rfl⟩ : ∃ i : Nat, e = i := ⟨e.toNat, by omega⟩
      have g1 : (0 : Int) < (i : Int) := ce
      have g2 : ¬ (i : Int) < 0 := by omega
      have g3 : -(i : Int) < 0 := by omega
      have g4 : ¬ (0 : Int) < -(i : Int) := by omega
      have g5 : ¬ (i : Int) ≤ 0 := by omega
      obtain rfl : e1 = i := by omega
      obtain rfl : e2 = 0 := by omega
      go_enter Tryz.func49, Tryz.ntmps49
      go_wp2_with fail
      refine (ten6 (N := 0) h1.out (by omega) (by omega)).mono ?_
      rintro r w3 ⟨x1, rfl, hx1, c1⟩
      go_wp2_with fail
      refine (shl6' (N := 0) hx1.arg (by omega) (by omega)).mono ?_
      rintro r w4 ⟨x2, rfl, hx2, c2⟩
      go_wp2_with fail
      refine (shl6' (N := e1) ((h2.out.below c1).below c2) (by omega) (by omega)).mono ?_
      rintro r w5 ⟨y1, rfl, hy1, c3⟩
      go_wp2_with fail
      refine (ten6 (N := q2) hy1.arg (by omega) (by omega)).mono ?_
      rintro r w6 ⟨y2, rfl, hy2, c4⟩
      have K := below_trans (below_trans (below_trans c1 c2) c3) c4
      go_wp2_with fail
      refine (rcmp_any ((hx2.arg.below c3).below c4) hy2.arg (by omega) (by omega)).mono ?_
      rintro r w7 ⟨rfl, c5⟩
      have F := hide (below_trans K c5)
      generalize hz : sgn _ _ = z
      have Hz := hide hz
      clear hz
      clear hx1 hx2 hy1 hy2 c1 c2 c3 c4 c5 K
      go_wp2
      go_ret
      exact ⟨by rw [Hz.out]; rfl, F.out⟩
  · rcases Int.lt_trichotomy e 0 with ce | ce | ce
    · subst cq
      obtain rfl : q2 = 0 := by omega
      obtain rfl : q1 = 0 := by omega
      obtain ⟨i, hi⟩ : ∃ i : Nat, -e = i := ⟨(-e).toNat, by omega⟩
      rw [hi] at w2
      have g1 : (0 : Int) < (i : Int) := by omega
      have g2 : ¬ (i : Int) < 0 := by omega
      have g3 : ¬ (0 : Int) < e := by omega
      have g5 : ¬ (i : Int) ≤ 0 := by omega
      obtain rfl : e2 = i := by omega
      obtain rfl : e1 = 0 := by omega
      go_enter Tryz.func49, Tryz.ntmps49
      go_wp2_with fail
      refine (ten6 (N := 0) h1.out (by omega) (by omega)).mono ?_
      rintro r w3 ⟨x1, rfl, hx1, c1⟩
      go_wp2_with fail
      refine (shl6' (N := e2) hx1.arg (by omega) (by omega)).mono ?_
      rintro r w4 ⟨x2, rfl, hx2, c2⟩
      go_wp2_with fail
      refine (shl6' (N := 0) ((h2.out.below c1).below c2) (by omega) (by omega)).mono ?_
      rintro r w5 ⟨y1, rfl, hy1, c3⟩
      go_wp2_with fail
      refine (ten6 (N := 0) hy1.arg (by omega) (by omega)).mono ?_
      rintro r w6 ⟨y2, rfl, hy2, c4⟩
      have K := below_trans (below_trans (below_trans c1 c2) c3) c4
      go_wp2_with fail
      refine (rcmp_any ((hx2.arg.below c3).below c4) hy2.arg (by omega) (by omega)).mono ?_
      rintro r w7 ⟨rfl, c5⟩
      have F := hide (below_trans K c5)
      generalize hz : sgn _ _ = z
      have Hz := hide hz
      clear hz
      clear hx1 hx2 hy1 hy2 c1 c2 c3 c4 c5 K
      go_wp2
      go_ret
      exact ⟨by rw [Hz.out]; rfl, F.out⟩
    · subst cq
      obtain rfl : q2 = 0 := by omega
      obtain rfl : q1 = 0 := by omega
      subst ce
      obtain rfl : e2 = 0 := by omega
      obtain rfl : e1 = 0 := by omega
      go_enter Tryz.func49, Tryz.ntmps49
      go_wp2_with fail
      refine (ten6 (N := 0) h1.out (by omega) (by omega)).mono ?_
      rintro r w3 ⟨x1, rfl, hx1, c1⟩
      go_wp2_with fail
      refine (shl6' (N := 0) hx1.arg (by omega) (by omega)).mono ?_
      rintro r w4 ⟨x2, rfl, hx2, c2⟩
      go_wp2_with fail
      refine (shl6' (N := 0) ((h2.out.below c1).below c2) (by omega) (by omega)).mono ?_
      rintro r w5 ⟨y1, rfl, hy1, c3⟩
      go_wp2_with fail
      refine (ten6 (N := 0) hy1.arg (by omega) (by omega)).mono ?_
      rintro r w6 ⟨y2, rfl, hy2, c4⟩
      have K := below_trans (below_trans (below_trans c1 c2) c3) c4
      go_wp2_with fail
      refine (rcmp_any ((hx2.arg.below c3).below c4) hy2.arg (by omega) (by omega)).mono ?_
      rintro r w7 ⟨rfl, c5⟩
      have F := hide (below_trans K c5)
      generalize hz : sgn _ _ = z
      have Hz := hide hz
      clear hz
      clear hx1 hx2 hy1 hy2 c1 c2 c3 c4 c5 K
      go_wp2
      go_ret
      exact ⟨by rw [Hz.out]; rfl, F.out⟩
    · subst cq
      obtain rfl : q2 = 0 := by omega
      obtain rfl : q1 = 0 := by omega
      obtain ⟨i, rfl⟩ : ∃ i : Nat, e = i := ⟨e.toNat, by omega⟩
      have g1 : (0 : Int) < (i : Int) := ce
      have g2 : ¬ (i : Int) < 0 := by omega
      have g3 : -(i : Int) < 0 := by omega
      have g4 : ¬ (0 : Int) < -(i : Int) := by omega
      have g5 : ¬ (i : Int) ≤ 0 := by omega
      obtain rfl : e1 = i := by omega
      obtain rfl : e2 = 0 := by omega
      go_enter Tryz.func49, Tryz.ntmps49
      go_wp2_with fail
      refine (ten6 (N := 0) h1.out (by omega) (by omega)).mono ?_
      rintro r w3 ⟨x1, rfl, hx1, c1⟩
      go_wp2_with fail
      refine (shl6' (N := 0) hx1.arg (by omega) (by omega)).mono ?_
      rintro r w4 ⟨x2, rfl, hx2, c2⟩
      go_wp2_with fail
      refine (shl6' (N := e1) ((h2.out.below c1).below c2) (by omega) (by omega)).mono ?_
      rintro r w5 ⟨y1, rfl, hy1, c3⟩
      go_wp2_with fail
      refine (ten6 (N := 0) hy1.arg (by omega) (by omega)).mono ?_
      rintro r w6 ⟨y2, rfl, hy2, c4⟩
      have K := below_trans (below_trans (below_trans c1 c2) c3) c4
      go_wp2_with fail
      refine (rcmp_any ((hx2.arg.below c3).below c4) hy2.arg (by omega) (by omega)).mono ?_
      rintro r w7 ⟨rfl, c5⟩
      have F := hide (below_trans K c5)
      generalize hz : sgn _ _ = z
      have Hz := hide hz
      clear hz
      clear hx1 hx2 hy1 hy2 c1 c2 c3 c4 c5 K
      go_wp2
      go_ret
      exact ⟨by rw [Hz.out]; rfl, F.out⟩
  · rcases Int.lt_trichotomy e 0 with ce | ce | ce
    · obtain ⟨j, rfl⟩ : ∃ j : Nat, q = j := ⟨q.toNat, by omega⟩
      have f1 : (0 : Int) < (j : Int) := cq
      have f2 : ¬ (j : Int) < 0 := by omega
      have f3 : -(j : Int) < 0 := by omega
      have f4 : ¬ (0 : Int) < -(j : Int) := by omega
      have f5 : ¬ (j : Int) ≤ 0 := by omega
      obtain rfl : q1 = j := by omega
      obtain rfl : q2 = 0 := by omega
      obtain ⟨i, hi⟩ : ∃ i : Nat, -e = i := ⟨(-e).toNat, by omega⟩
      rw [hi] at w2
      have g1 : (0 : Int) < (i : Int) := by omega
      have g2 : ¬ (i : Int) < 0 := by omega
      have g3 : ¬ (0 : Int) < e := by omega
      have g5 : ¬ (i : Int) ≤ 0 := by omega
      obtain rfl : e2 = i := by omega
      obtain rfl : e1 = 0 := by omega
      go_enter Tryz.func49, Tryz.ntmps49
      go_wp2_with fail
      refine (ten6 (N := q1) h1.out (by omega) (by omega)).mono ?_
      rintro r w3 ⟨x1, rfl, hx1, c1⟩
      go_wp2_with fail
      refine (shl6' (N := e2) hx1.arg (by omega) (by omega)).mono ?_
      rintro r w4 ⟨x2, rfl, hx2, c2⟩
      go_wp2_with fail
      refine (shl6' (N := 0) ((h2.out.below c1).below c2) (by omega) (by omega)).mono ?_
      rintro r w5 ⟨y1, rfl, hy1, c3⟩
      go_wp2_with fail
      refine (ten6 (N := 0) hy1.arg (by omega) (by omega)).mono ?_
      rintro r w6 ⟨y2, rfl, hy2, c4⟩
      have K := below_trans (below_trans (below_trans c1 c2) c3) c4
      go_wp2_with fail
      refine (rcmp_any ((hx2.arg.below c3).below c4) hy2.arg (by omega) (by omega)).mono ?_
      rintro r w7 ⟨rfl, c5⟩
      have F := hide (below_trans K c5)
      generalize hz : sgn _ _ = z
      have Hz := hide hz
      clear hz
      clear hx1 hx2 hy1 hy2 c1 c2 c3 c4 c5 K
      go_wp2
      go_ret
      exact ⟨by rw [Hz.out]; rfl, F.out⟩
    · obtain ⟨j, rfl⟩ : ∃ j : Nat, q = j := ⟨q.toNat, by omega⟩
      have f1 : (0 : Int) < (j : Int) := cq
      have f2 : ¬ (j : Int) < 0 := by omega
      have f3 : -(j : Int) < 0 := by omega
      have f4 : ¬ (0 : Int) < -(j : Int) := by omega
      have f5 : ¬ (j : Int) ≤ 0 := by omega
      obtain rfl : q1 = j := by omega
      obtain rfl : q2 = 0 := by omega
      subst ce
      obtain rfl : e2 = 0 := by omega
      obtain rfl : e1 = 0 := by omega
      go_enter Tryz.func49, Tryz.ntmps49
      go_wp2_with fail
      refine (ten6 (N := q1) h1.out (by omega) (by omega)).mono ?_
      rintro r w3 ⟨x1, rfl, hx1, c1⟩
      go_wp2_with fail
      refine (shl6' (N := 0) hx1.arg (by omega) (by omega)).mono ?_
      rintro r w4 ⟨x2, rfl, hx2, c2⟩
      go_wp2_with fail
      refine (shl6' (N := 0) ((h2.out.below c1).below c2) (by omega) (by omega)).mono ?_
      rintro r w5 ⟨y1, rfl, hy1, c3⟩
      go_wp2_with fail
      refine (ten6 (N := 0) hy1.arg (by omega) (by omega)).mono ?_
      rintro r w6 ⟨y2, rfl, hy2, c4⟩
      have K := below_trans (below_trans (below_trans c1 c2) c3) c4
      go_wp2_with fail
      refine (rcmp_any ((hx2.arg.below c3).below c4) hy2.arg (by omega) (by omega)).mono ?_
      rintro r w7 ⟨rfl, c5⟩
      have F := hide (below_trans K c5)
      generalize hz : sgn _ _ = z
      have Hz := hide hz
      clear hz
      clear hx1 hx2 hy1 hy2 c1 c2 c3 c4 c5 K
      go_wp2
      go_ret
      exact ⟨by rw [Hz.out]; rfl, F.out⟩
    · obtain ⟨j, rfl⟩ : ∃ j : Nat, q = j := ⟨q.toNat, by omega⟩
      have f1 : (0 : Int) < (j : Int) := cq
      have f2 : ¬ (j : Int) < 0 := by omega
      have f3 : -(j : Int) < 0 := by omega
      have f4 : ¬ (0 : Int) < -(j : Int) := by omega
      have f5 : ¬ (j : Int) ≤ 0 := by omega
      obtain rfl : q1 = j := by omega
      obtain rfl : q2 = 0 := by omega
      obtain ⟨i, rfl⟩ : ∃ i : Nat, e = i := ⟨e.toNat, by omega⟩
      have g1 : (0 : Int) < (i : Int) := ce
      have g2 : ¬ (i : Int) < 0 := by omega
      have g3 : -(i : Int) < 0 := by omega
      have g4 : ¬ (0 : Int) < -(i : Int) := by omega
      have g5 : ¬ (i : Int) ≤ 0 := by omega
      obtain rfl : e1 = i := by omega
      obtain rfl : e2 = 0 := by omega
      go_enter Tryz.func49, Tryz.ntmps49
      go_wp2_with fail
      refine (ten6 (N := q1) h1.out (by omega) (by omega)).mono ?_
      rintro r w3 ⟨x1, rfl, hx1, c1⟩
      go_wp2_with fail
      refine (shl6' (N := 0) hx1.arg (by omega) (by omega)).mono ?_
      rintro r w4 ⟨x2, rfl, hx2, c2⟩
      go_wp2_with fail
      refine (shl6' (N := e1) ((h2.out.below c1).below c2) (by omega) (by omega)).mono ?_
      rintro r w5 ⟨y1, rfl, hy1, c3⟩
      go_wp2_with fail
      refine (ten6 (N := 0) hy1.arg (by omega) (by omega)).mono ?_
      rintro r w6 ⟨y2, rfl, hy2, c4⟩
      have K := below_trans (below_trans (below_trans c1 c2) c3) c4
      go_wp2_with fail
      refine (rcmp_any ((hx2.arg.below c3).below c4) hy2.arg (by omega) (by omega)).mono ?_
      rintro r w7 ⟨rfl, c5⟩
      have F := hide (below_trans K c5)
      generalize hz : sgn _ _ = z
      have Hz := hide hz
      clear hz
      clear hx1 hx2 hy1 hy2 c1 c2 c3 c4 c5 K
      go_wp2
      go_ret
      exact ⟨by rw [Hz.out]; rfl, F.out⟩

end Go.Proofs.YtlhjbmdkfdabmaaGreatDoor

namespace Go.Proofs.YtlhjbmdkfdabmaaGreatDoor
open Go.RowKit
set_option linter.unusedVariables false

theorem dl_cons (j : Nat) : ∀ (a m : Int), 0 ≤ a → a ≤ 9 → 0 ≤ m → m < 10 ^ j → dl (j + 1) (a * 10 ^ j + m) = (48 + a) :: dl j m := by
  induction j with
  | zero =>
    intro a m a0 a9 m0 m1
    simp at m1
    have : m = 0 := by omega
    subst this
    simp [dl]
    omega
  | succ j ih =>
    intro a m a0 a9 m0 m1
    rw [Int.pow_succ] at m1
    have p := ten_pos j
    have e : a * 10 ^ (j + 1) + m = 10 * (a * 10 ^ j + m / 10) + m % 10 := by
      rw [Int.pow_succ, ← Int.mul_assoc]; omega
    rw [e, dl_snoc _ _ _ (by omega) (by omega), ih a (m / 10) a0 a9 (by omega) (by omega), List.cons_append]
    congr 1
theorem dl_next (j : Nat) (n : Int) (h : 0 ≤ n) : dl (j + 1) (n % 10 ^ (j + 1)) = (48 + n / 10 ^ j % 10) :: dl j (n % 10 ^ j) := by
  have p := ten_pos j
  have e : n % 10 ^ (j + 1) = n / 10 ^ j % 10 * 10 ^ j + n % 10 ^ j := by
    have a := Int.mul_ediv_add_emod n (10 ^ j)
    have b := Int.mul_ediv_add_emod (n / 10 ^ j) 10
    have c0 := Int.emod_nonneg n (b := (10 : Int) ^ j) (by omega)
    have c1 := Int.emod_lt_of_pos n p
    have u := (Int.ediv_emod_unique (a := n) (b := 10 ^ (j + 1)) (r := n / 10 ^ j % 10 * 10 ^ j + n % 10 ^ j) (q := n / 10 ^ j / 10) (ten_pos (j + 1))).2
    refine (u ⟨?_, ?_, ?_⟩).2
    · rw [Int.pow_succ]
      generalize n / 10 ^ j = d at *
      generalize n % 10 ^ j = r at *
      generalize (10 : Int) ^ j = T at *
      have e1 : T * 10 * (d / 10) = T * (10 * (d / 10)) := by rw [Int.mul_assoc]
      rw [e1, Int.mul_comm (d % 10) T]
      have e2 : T * (10 * (d / 10)) + T * (d % 10) = T * d := by rw [← Int.mul_add, b]
      omega
    · have := Int.mul_nonneg (show 0 ≤ n / 10 ^ j % 10 by omega) (Int.le_of_lt p); omega
    · rw [Int.pow_succ]
      have : n / 10 ^ j % 10 * 10 ^ j ≤ 9 * 10 ^ j := Int.mul_le_mul_of_nonneg_right (by omega) (Int.le_of_lt p)
      omega
  rw [e]
  exact dl_cons j _ _ (by omega) (by omega) (Int.emod_nonneg _ (by omega)) (Int.emod_lt_of_pos _ p)
theorem own_one (w : World) (x : Int) : (w.alloc (.cells #[.int .u8 x] 5)).ownsRow w.heap.size 5 1 (.slice (some ⟨w.heap.size, 0, none⟩) 1 1) 1 ([x].map (Value.int .u8)) := by
  refine ⟨by simp, Or.inr ⟨w.heap.size, 1, #[.int .u8 x], rfl, Nat.le_refl _, heap_alloc_new _ _, Nat.le_refl _, by unfold maxLen; omega, by simp, by simp⟩⟩
theorem div_next (n : Int) (j : Nat) : n / 10 ^ j / 10 = n / 10 ^ (j + 1) := by
  rw [Int.pow_succ, Int.ediv_ediv_of_nonneg (Int.le_of_lt (ten_pos j))]
theorem text_of {w : World} {v : Value} {zs : List Int} (h : Reads .u8 w v zs) (hn : 0 < zs.length) :
    ∃ b off cap, v = .slice (some ⟨b, off, none⟩) zs.length cap ∧ (convert 83 9 (.slice (some ⟨b, off, none⟩) zs.length cap)).run Tryz.prog w = .ok (.string (strOfNums zs)) w := by
  obtain ⟨ao, cap, h1, h2, h3, h4⟩ := h
  obtain ⟨b, off, rfl, _, e3⟩ := h4 hn
  refine ⟨b, off, cap, h1, ?_⟩
  refine run_convert_bytes_arg w 83 5 Tryz.underlying83 Tryz.underlying5 b off zs.length cap zs rfl ?_ 9 Tryz.underlying9
  intro i hi
  rw [e3 i hi]; simp [Nt.lb]

set_option maxRecDepth 100000 in
set_option maxHeartbeats 4000000 in
theorem decimal6 {w : World} {neg : Bool} {n q : Int} {K : Nat} (k1 : 1 ≤ K) (k18 : K ≤ 18) (h0 : 10 ^ (K - 1) ≤ n) (h1 : n < 10 ^ K) (q0 : -1000 ≤ q) (q1 : q ≤ 1000) (hb : n < 18446744073709551616) :
    Calls Tryz.prog 22 #[.bool neg, .int .u64 n, .int .i64 q] w fun e w' => e = .returned (.agg #[.bool neg, .string (strOfNums (dl K n)), .int .i64 (q + K)]) ∧ Below w.heap.size w w' := by
  have np : 0 < n := by have := ten_pos (K - 1); omega
  have H0 := hide h0
  have H1 := hide h1
  clear h0 h1
  go_enter Tryz.func22, Tryz.ntmps22
  go_wp2
  have D : Dc (w.alloc (.cells #[.bool false, .string ⟨#[]⟩, .int .i64 0] 24)) w.heap.size (.bool false) (.string ⟨#[]⟩) (.int .i64 0) := heap_alloc_new _ _
  have K0 := bel_new w (.cells #[.bool false, .string ⟨#[]⟩, .int .i64 0] 24)
  generalize w.alloc (.cells #[.bool false, .string ⟨#[]⟩, .int .i64 0] 24) = w0 at *
  go_loopg [1, 7] K (fun c sn sv wr => ∃ (j : Nat) (m : Int), j ≤ K ∧ c = K - j ∧ sn = .int .u64 m ∧ m = n / 10 ^ j ∧ Reads .u8 wr sv (dl j (n % 10 ^ j)) ∧ Below w0.heap.size w0 wr)
  case atStart => exact ⟨0, n, by omega, rfl, rfl, by simp, ⟨none, 0, rfl, Nat.le_refl _, by unfold maxLen; omega, fun h => absurd h (by simp [dl])⟩, Below.refl _ _⟩
  case round =>
    obtain ⟨j, m, hj, hgj, rfl, hm, hrd, hbw⟩ := hrel
    have m0 : 0 ≤ m := by rw [hm]; exact Int.ediv_nonneg (by omega) (Int.le_of_lt (ten_pos j))
    have mn : m ≤ n := by rw [hm]; exact Int.ediv_le_self _ (by omega)
    have Hm := hide hm
    clear hm
    by_cases hjl : j < K
    · have mp : 0 < m := by
        rw [Hm.out]
        have a := H0.out
        have b : (10 : Int) ^ j ≤ 10 ^ (K - 1) := by
          obtain ⟨d, hd⟩ : ∃ d, K - 1 = j + d := ⟨K - 1 - j, by omega⟩
          rw [hd, Int.pow_add]
          have := ten_pos d
          have : (10 : Int) ^ j * 1 ≤ 10 ^ j * 10 ^ d := Int.mul_le_mul_of_nonneg_left (by omega) (Int.le_of_lt (ten_pos _))
          omega
        exact Int.lt_of_lt_of_le (by decide) ((Int.le_ediv_iff_mul_le (ten_pos j)).2 (by omega : 1 * (10 : Int) ^ j ≤ n))
      have e1 : m.tmod 10 = m % 10 := Int.tmod_eq_emod_of_nonneg m0
      have e2 : m.tdiv 10 = m / 10 := Int.tdiv_eq_ediv_of_nonneg m0
      obtain ⟨d, hd⟩ : ∃ d, m % 10 = d := ⟨_, rfl⟩
      rw [hd] at e1
      have e3 : IntKind.u64.wrap (48 + d) = 48 + d := by rw [IntKind.wrap_u64]; omega
      have e4 : IntKind.u8.wrap (48 + d) = 48 + d := by rw [IntKind.wrap_u8]; omega
      have hnx := hide (show dl (j + 1) (n % 10 ^ (j + 1)) = [48 + d] ++ dl j (n % 10 ^ j) by rw [dl_next j n (by omega), ← Hm.out, hd]; rfl)
      have hdv := hide (show m / 10 = n / 10 ^ (j + 1) by rw [Hm.out, div_next])
      clear hd
      have HR := hide hrd
      obtain ⟨ao, cap, rfl, z2, z3, z4⟩ := hrd
      have zl : (dl j (n % 10 ^ j)).length = j := dl_len _ _
      clear z2 z3
      go_wp2_with (at_builtin; refine wpList_append_cells _ rfl _ _ 83 rfl wr.heap.size 5 .u8 1 Tryz.underlying83 Tryz.infoU8s _ 1 [48 + d] rfl (own_one _ _) ao cap (dl j (n % 10 ^ j)) rfl (z4.below (bel_new _ _)) (by unfold maxLen; simp; omega) (by simp; omega) (by simp) ?_)
      intro v' w5 hown' hgrow
      have hb5 : Below wr.heap.size wr w5 := below_own (bel_new wr _) (by simp) (own_one _ _) hgrow
      have hr5 : Reads .u8 w5 v' ([48 + d] ++ dl j (n % 10 ^ j)) := reads_of_owns hown'
      have Fin := hide (And.intro hr5 (below_trans hbw hb5))
      clear hown' hgrow hb5 hr5 z4 hbw
      go_wp2
      go_roundg (K - (j + 1))
      case measure => omega
      case rel => exact ⟨j + 1, m / 10, by omega, rfl, by first | rfl | (rw [e2]), hdv.out, by rw [hnx.out]; exact Fin.out.1, Fin.out.2⟩
    · have hje : j = K := by omega
      subst hje
      have mz : m = 0 := by rw [Hm.out]; exact Int.ediv_eq_zero_of_lt (by omega) H1.out
      subst mz
      have hrd' := hrd
      rw [Int.emod_eq_of_lt (by omega) H1.out] at hrd'
      obtain ⟨b, off, cap, rfl, hcv⟩ := text_of hrd' (by rw [dl_len]; omega)
      have zl : (dl j n).length = j := dl_len _ _
      rw [zl] at hcv
      have wq : IntKind.i64.wrap (q + (j : Int)) = q + j := by rw [IntKind.wrap_i64]; omega
      replace D := D.keeps hbw
      have KK := below_trans K0 hbw
      rw [zl]
      clear hrd hrd' hbw K0
      generalize htx : strOfNums (dl j n) = tx at *
      have Htx := hide htx
      clear htx
      have d0 := D.c0
      have d1 := D.c1
      have d2 := D.c2
      have df := D.frozen
      go_wp2
      obtain ⟨PD, KB⟩ : Dc (put3 wr w.heap.size (.bool neg) (.string tx) (.int .i64 (q + j))) w.heap.size (.bool neg) (.string tx) (.int .i64 (q + j)) ∧ Below w.heap.size w (put3 wr w.heap.size (.bool neg) (.string tx) (.int .i64 (q + j))) := ⟨D.put _ _ _, put3_below KK (Nat.le_refl _) _ _ _⟩
      clear d0 d1 d2 df D KK
      unfold put3 at PD KB
      generalize ((wr.setCell ⟨w.heap.size, 0, none⟩ (.bool neg)).setCell ⟨w.heap.size, 1, none⟩ (.string tx)).setCell ⟨w.heap.size, 2, none⟩ (.int .i64 (q + j)) = wf at *
      (try simp only [Exit.inBlock, Exit.then])
      exact bodyPost_ret (v := .agg #[.bool neg, .string tx, .int .i64 (q + j)]) (by simp [results, Tryz.results22, go_sem, PD.c0, PD.c1, PD.c2]) rfl ⟨by rw [Htx.out], KB⟩

end Go.Proofs.YtlhjbmdkfdabmaaGreatDoor

namespace Go.Proofs.YtlhjbmdkfdabmaaGreatDoor
set_option linter.unusedVariables false

/-- what is said of fewer digits and of the neighbours -/
structure Fw (F L s : Int) (d P : Int) (N : Nat) : Prop where
  f1 : 1 < N → ∀ i, i = 0 ∨ i = 1 → ¬ Inn (vLo F L s) (vHi F L s) (s % 2 = 0) ((d / 10 + i) * TT (gG L) (P - N + 1))
  f2 : Inn (vLo F L s) (vHi F L s) (s % 2 = 0) ((d + 1) * TT (gG L) (P - N)) → ¬ (d + (d + 1)) * TT (gG L) (P - N) < 2 * vV F L s ∧ ¬ ((d + (d + 1)) * TT (gG L) (P - N) = 2 * vV F L s ∧ d % 2 = 1)
  f3 : Inn (vLo F L s) (vHi F L s) (s % 2 = 0) ((d - 1) * TT (gG L) (P - N)) → 1 < d → ¬ 2 * vV F L s < (d + (d - 1)) * TT (gG L) (P - N) ∧ ¬ ((d + (d - 1)) * TT (gG L) (P - N) = 2 * vV F L s ∧ d % 2 = 1)
theorem fw_of {F L s p c : Int} {k : Nat} (hF : 0 < F) (h0 : 0 < s) (hL : -1074 ≤ L) (h : ShP F L s p k c) (h17 : k ≤ 17) : ∃ ds, strOfNums (txt k c) = strOfNums ds ∧ ds.length = k ∧ txt k c = ds ∧ Fw F L s (bv ds) (pt k c p) k := by
  have hp := point_low hF h0 hL h.hi
  have hG := gG_pos L
  have hV : 0 ≤ vV F L s := by have a := (v_half (L := L) hF h0).1; have b := vLo_lt (L := L) hF h0; omega
  rcases h.cases hG (by omega) with ⟨e, rfl, e9, e10⟩ | ⟨e, c0, c1, c2, c3⟩
  · refine ⟨[49], by unfold txt; rw [if_pos e], rfl, by unfold txt; rw [if_pos e], ⟨fun g => by omega, fun _ => ?_, fun _ g => by simp [bv] at g⟩⟩
    have hi := h.hi
    have e0 : pt 1 c p - ((1 : Nat) : Int) = p := by unfold pt; rw [if_pos e]; omega
    have eb : bv [49] = 1 := rfl
    have t0 := TT_pos hG p
    rw [e0, eb]
    constructor
    · omega
    · rintro ⟨g, _⟩; omega
  · have k1 := h.k1
    have cp : 0 < c := by have := ten_pos (k - 1); omega
    have eb := bv_dl k c (by omega) c1
    refine ⟨dl k c, by unfold txt; rw [if_neg e], dl_len k c, by unfold txt; rw [if_neg e], ?_⟩
    have ep : pt k c p = p := by unfold pt; rw [if_neg e]
    rw [ep, eb]
    have t0 := TT_pos hG (p - k)
    have r0 := Int.emod_nonneg (vV F L s) (b := TT (gG L) (p - k)) (by omega)
    have r1 := Int.emod_lt_of_pos (vV F L s) t0
    have r2 := Int.mul_ediv_add_emod (vV F L s) (TT (gG L) (p - k))
    rw [Int.mul_comm] at r2
    have pk := h.pick
    refine ⟨fun g => ?_, fun hin => ?_, fun hin g => ?_⟩
    · have o := h.out (k - 1) (by omega) (by omega)
      have e1 : TT (gG L) (p - (k - 1 : Nat)) = TT (gG L) (p - k + 1) := by congr 1; omega
      have e2 : TT (gG L) (p - k + 1) = 10 * TT (gG L) (p - k) := TT_succ (by omega)
      have e3 : vV F L s / (10 * TT (gG L) (p - k)) = vV F L s / TT (gG L) (p - k) / 10 := by
        rw [Int.mul_comm, Int.ediv_ediv_of_nonneg (Int.le_of_lt t0)]
      unfold Out at o
      rw [e1, e2, e3, ← c3] at o
      rw [e2]
      intro i hi
      rcases hi with rfl | rfl
      · rw [Int.add_zero]; exact o.1
      · exact o.2
    · unfold Pick at pk
      clear c0 c1 c2 c3 e eb ep h
      generalize hC : vV F L s / TT (gG L) (p - k) = C at *
      generalize TT (gG L) (p - k) = t at *
      rcases pk with ⟨ec, p1, p2⟩ | ⟨ec, p1, p2⟩
      · rw [ec] at hin ⊢
        have q : ¬ Cls (vV F L s) t C := fun k => p2 ⟨hin, k⟩
        unfold Cls at q
        rw [show C + (C + 1) = 2 * C + 1 by omega]
        exact ⟨fun k => q (Or.inl k), fun k => q (Or.inr k)⟩
      · rw [ec]
        have a1 : (C + 1 + (C + 1 + 1)) * t = 2 * (C * t) + 3 * t := by rw [show C + 1 + (C + 1 + 1) = 2 * C + 3 by omega, Int.add_mul, Int.mul_assoc]
        rw [a1]
        exact ⟨by omega, fun k => by omega⟩
    · unfold Pick at pk
      clear c0 c1 c2 c3 e eb ep h
      generalize hC : vV F L s / TT (gG L) (p - k) = C at *
      generalize TT (gG L) (p - k) = t at *
      rcases pk with ⟨ec, p1, p2⟩ | ⟨ec, p1, p2⟩
      · rw [ec]
        have a1 : (C + (C - 1)) * t = 2 * (C * t) - t := by rw [show C + (C - 1) = 2 * C - 1 by omega, Int.sub_mul, Int.mul_assoc, Int.one_mul]
        rw [a1]
        exact ⟨by omega, fun k => by omega⟩
      · rw [ec, show C + 1 - 1 = C by omega] at hin
        rw [ec, show C + 1 + (C + 1 - 1) = 2 * C + 1 by omega]
        rcases p2 with p2 | p2
        · exact absurd hin p2
        · unfold Cls at p2
          rcases p2 with p2 | ⟨p2, p3⟩
          · exact ⟨by omega, fun k => by omega⟩
          · exact ⟨by omega, fun k => by omega⟩
/-- the reference's comparison, in units -/
theorem sgn_units {F L s A q : Int} {q1 q2 e1 e2 : Nat} (hF : 0 < F) (hL : L ≤ 0) (hq1 : max q 0 = q1) (hq2 : max (-q) 0 = q2) (he1 : max (est F L s) 0 = e1) (he2 : max (-est F L s) 0 = e2) (hq : -500 ≤ q) :
    sgn (A * 10 ^ q1 * p2 e2) (2 * mst F s * p2 e1 * 10 ^ q2) = sgn (A * TT (gG L) q) (2 * vV F L s) := by
  have l1 := est_ge (F := F) (L := L) (s := s) hF
  have T0 : 0 < TT (gG L) 0 := TT_pos (gG_pos L) 0
  have Z0 : 0 < 10 ^ q2 * p2 e2 := Int.mul_pos (ten_pos q2) (p2_pos e2)
  have a1 : TT (gG L) q * 10 ^ q2 = TT (gG L) 0 * 10 ^ q1 := by
    rcases Int.lt_or_le q 0 with c | c
    · have z1 : q1 = 0 := by omega
      have z2 : q + q2 = 0 := by omega
      have := TT_add (G := gG L) (q := q) hq q2
      rw [z2] at this
      rw [this, z1, Int.pow_zero, Int.mul_one, Int.mul_comm]
    · have z2 : q2 = 0 := by omega
      have z1 : (0 : Int) + q1 = q := by omega
      have := TT_add (G := gG L) (q := 0) (by omega) q1
      rw [z1] at this
      rw [this, z2, Int.pow_zero, Int.mul_one, Int.mul_comm]
  have a2 : vV F L s * p2 e2 = mst F s * p2 e1 * TT (gG L) 0 := by
    have b1 : p2 (est F L s - L).toNat * p2 e2 = p2 e1 * p2 (-L).toNat := by rw [← p2_add, ← p2_add]; congr 1; omega
    have b2 : gG L = 2 * p2 (-L).toNat := by unfold gG; rw [show (1 - L).toNat = (-L).toNat + 1 by omega, p2]
    rw [show TT (gG L) 0 = E5 * gG L from rfl, b2]
    unfold vV
    rw [um_at]
    generalize E5 = E
    rw [show 2 * (mst F s * p2 (est F L s - L).toNat) * E * p2 e2 = 2 * mst F s * E * (p2 (est F L s - L).toNat * p2 e2) by ac_rfl, b1]
    ac_rfl
  rw [← sgn_scale T0, ← sgn_scale Z0 (x := A * TT (gG L) q)]
  congr 1
  · rw [show A * TT (gG L) q * (10 ^ q2 * p2 e2) = A * (TT (gG L) q * 10 ^ q2) * p2 e2 by ac_rfl, a1]; ac_rfl
  · rw [show 2 * vV F L s * (10 ^ q2 * p2 e2) = 2 * (vV F L s * p2 e2) * 10 ^ q2 by ac_rfl, a2]; ac_rfl

end Go.Proofs.YtlhjbmdkfdabmaaGreatDoor

namespace Go.Proofs.YtlhjbmdkfdabmaaGreatDoor
open Go.RowKit
set_option linter.unusedVariables false

theorem lt18 {n : Int} (h : n ≤ 100000000000000000) : n < 10 ^ 18 := by
  have e : (10 : Int) ^ 18 = 1000000000000000000 := by decide
  omega
theorem some_digits {n : Int} (h0 : 0 < n) : ∀ K : Nat, n < 10 ^ K → ∃ k, 1 ≤ k ∧ k ≤ K ∧ 10 ^ (k - 1) ≤ n ∧ n < 10 ^ k := by
  intro K
  induction K with
  | zero => intro h; simp at h; omega
  | succ K ih =>
    intro h
    rcases Int.lt_or_le n (10 ^ K) with c | c
    · obtain ⟨k, a, b, d⟩ := ih c
      exact ⟨k, a, by omega, d⟩
    · exact ⟨K + 1, by omega, by omega, by rw [Nat.add_sub_cancel]; exact c, h⟩

theorem nst_dl_h {w : World} {ng : Bool} {e q s xx : Int} {K : Nat} (k1 : 1 ≤ K) (k18 : K ≤ 18) (h0 : 10 ^ (K - 1) ≤ e) (h1 : e < 10 ^ K) (q0 : -380 ≤ q) (q1 : q ≤ 380) (s0 : 0 < s) (s1 : s < 31744) (hx : xx = s + b2i ng * 32768) :
    Calls Tryz.prog 20 #[.int .i64 16, .agg #[.bool ng, .string (strOfNums (dl K e)), .int .i64 (q + K)]] w fun r w' => ∃ y, r = .returned (.int .u64 y) ∧ (y = xx ↔ Inn (vLo 1024 (-24) s) (vHi 1024 (-24) s) (s % 2 = 0) (e * TT (gG (-24)) q)) ∧ Below w.heap.size w w' := by
  have ep : 0 < e := by have := ten_pos (K - 1); omega
  have eb := bv_dl K e (by omega) h1
  refine (nearest6_h (dl_byte K e) rfl (dl_len K e) (by omega) k18 (dl_first k1 h0 h1) (by rw [eb]; exact ep) (by omega) (by omega)).mono ?_
  rintro r w' ⟨⟨r0, rfl, nx⟩, b⟩
  rw [eb, show q + (K : Int) - K = q by omega] at nx
  refine ⟨_, rfl, ?_, b⟩
  rw [← nx_inn (I := 31744) (by decide) s0 s1, hx]
  constructor
  · intro g
    have : r0 = s := by omega
    rw [← this]; exact nx
  · intro g
    rw [nx_unique (by decide) nx g]

set_option maxRecDepth 100000 in
set_option maxHeartbeats 8000000 in
theorem beaten6_h {w : World} {ng : Bool} {t : ByteArray} {P s xx c other : Int} {N : Nat} (hsz : t.size = N) (n1 : 1 ≤ N) (n17 : N ≤ 17) (P0 : -340 < P) (P1 : P < 340) (c0 : 0 < c) (c1 : c < 100000000000000000) (s0 : 0 < s) (s1 : s < 31744) (hx : xx = s + b2i ng * 32768)
    (ho : (other = c + 1 ∧ (Inn (vLo 1024 (-24) s) (vHi 1024 (-24) s) (s % 2 = 0) ((c + 1) * TT (gG (-24)) (P - N)) → ¬ (c + (c + 1)) * TT (gG (-24)) (P - N) < 2 * vV 1024 (-24) s ∧ ¬ ((c + (c + 1)) * TT (gG (-24)) (P - N) = 2 * vV 1024 (-24) s ∧ c % 2 = 1))) ∨
      (other = c - 1 ∧ (Inn (vLo 1024 (-24) s) (vHi 1024 (-24) s) (s % 2 = 0) ((c - 1) * TT (gG (-24)) (P - N)) → 1 < c → ¬ 2 * vV 1024 (-24) s < (c + (c - 1)) * TT (gG (-24)) (P - N) ∧ ¬ ((c + (c - 1)) * TT (gG (-24)) (P - N) = 2 * vV 1024 (-24) s ∧ c % 2 = 1)))) :
    Calls Tryz.prog 23 #[.int .i64 16, .int .u64 xx, .agg #[.bool ng, .string t, .int .i64 P], .int .u64 c, .int .u64 other] w fun e w' => e = .returned (.bool false) ∧ Below w.heap.size w w' := by
  have o0 : 0 ≤ other := by rcases ho with ⟨h, _⟩ | ⟨h, _⟩ <;> omega
  have o1 : other ≤ 100000000000000000 := by rcases ho with ⟨h, _⟩ | ⟨h, _⟩ <;> omega
  have Ho := hide ho
  have Hx := hide hx
  clear ho hx
  have C := cell3_new w (.bool ng) (.string t) (.int .i64 P) 24
  have K0 := bel_new w (.cells #[.bool ng, .string t, .int .i64 P] 24)
  obtain ⟨q, hq⟩ : ∃ q, P - (N : Int) = q := ⟨_, rfl⟩
  have wq : IntKind.i64.wrap (P - (N : Int)) = q := by rw [hq, IntKind.wrap_i64]; omega
  have qb : -357 ≤ q ∧ q ≤ 339 := by omega
  have Hq := hide hq
  clear hq
  go_enter Tryz.func23, Tryz.ntmps23
  go_upto_region 1 with fail
  generalize w.alloc (.cells #[.bool ng, .string t, .int .i64 P] 24) = w0 at *
  have c0' := C.c0
  have c1' := C.c1
  have c2' := C.c2
  by_cases oz : other = 0
  · have oz' : (other == 0) = true := by simp [oz]
    go_wp2
    go_ret
    exact ⟨rfl, K0⟩
  have oz' : (other == 0) = false := by simp [oz]
  obtain ⟨k, k1, k18, kd0, kd1⟩ := some_digits (n := other) (by omega) 18 (lt18 o1)
  have Hk := hide (And.intro kd0 kd1)
  clear kd0 kd1
  go_wp2_with fail
  refine (decimal6 (K := k) (q := q) k1 k18 Hk.out.1 Hk.out.2 (by omega) (by omega) (by omega)).mono ?_
  rintro r w1 ⟨rfl, b1⟩
  go_wp2_with fail
  refine (nst_dl_h k1 k18 Hk.out.1 Hk.out.2 (by omega) (by omega) s0 s1 Hx.out).mono ?_
  rintro r w2 ⟨y, rfl, hy, b2⟩
  have K := below_trans (below_trans K0 b1) b2
  replace C := (C.below b1).below b2
  clear c0' c1' c2' b1 b2 K0
  have c2' := C.c2
  have Hy := hide hy
  clear hy
  by_cases ye : y = xx
  · have inn := hide (Hy.out.1 ye)
    have yq : (y != xx) = false := by simp [ye]
    go_wp2_with fail
    refine (rSize_h w2 xx s (by have := Hx.out; cases ng <;> simp [b2i] at this <;> omega) (by have := Hx.out; cases ng <;> simp [b2i] at this <;> omega) (by have := Hx.out; cases ng <;> simp [b2i] at this <;> omega)).mono ?_
    rintro r w3 ⟨rfl, hw⟩
    replace hw := hw.symm
    subst hw
    go_wp2_with fail
    refine (rNumber_h w2 s (by omega) (by omega)).mono ?_
    rintro r w3 ⟨rfl, b3⟩
    obtain ⟨mm0, mm1⟩ := mst_lt (F := 1024) (s := s) (by decide) (by omega)
    have e0 := est_ge (F := 1024) (L := -24) (s := s) (by decide)
    have e1 := est_top (F := 1024) (L := -24) (s := s) (n := 31) (by decide) (by decide) (by omega) (by omega)
    have SU := fun (A : Int) (a b c d : Nat) h1 h2 h3 h4 => sgn_units (F := 1024) (L := -24) (s := s) (A := A) (q := q) (q1 := a) (q2 := b) (e1 := c) (e2 := d) (by decide) (by decide) h1 h2 h3 h4 (by omega)
    obtain ⟨mm, hmm⟩ : ∃ m, mst 1024 s = m := ⟨_, rfl⟩
    obtain ⟨ee, hee⟩ : ∃ e, est 1024 (-24) s = e := ⟨_, rfl⟩
    rw [hmm] at mm0 mm1
    rw [hee] at e0 e1
    simp only [hmm, hee] at SU
    rw [hmm, hee]
    clear hmm hee
    have HSU := hide SU
    clear SU
    replace K := below_trans K b3
    replace C := C.below b3
    clear c2' b3
    have w1' : IntKind.u64.wrap (c + other) = c + other := by rw [IntKind.wrap_u64]; omega
    have w2' : IntKind.u64.wrap (2 * mm) = 2 * mm := by rw [IntKind.wrap_u64]; omega
    obtain ⟨q1, hq1⟩ : ∃ a : Nat, max q 0 = a := ⟨(max q 0).toNat, by omega⟩
    obtain ⟨q2, hq2⟩ : ∃ a : Nat, max (-q) 0 = a := ⟨(max (-q) 0).toNat, by omega⟩
    obtain ⟨e1', he1⟩ : ∃ a : Nat, max ee 0 = a := ⟨(max ee 0).toNat, by omega⟩
    obtain ⟨e2', he2⟩ : ∃ a : Nat, max (-ee) 0 = a := ⟨(max (-ee) 0).toNat, by omega⟩
    have HM := hide (And.intro (And.intro hq1 hq2) (And.intro he1 he2))
    have HB := hide (show (0 ≤ c + other ∧ c + other < 18446744073709551616) ∧ (0 ≤ 2 * mm ∧ 2 * mm < 18446744073709551616) ∧ (q1 ≤ 600 ∧ q2 ≤ 600) ∧ (e1' ≤ 1200 ∧ e2' ≤ 1200) by omega)
    have H10 := hide (show (2 : Nat) ≤ 10 by omega)
    clear hq1 hq2 he1 he2
    go_upto_region 5 with fail
    have KD : Below w3.heap.size w3 w3.drew := (Below.refl _ _).drew
    go_region_held3 (fun w' => w'.cell? ⟨w.heap.size, 2, none⟩ = some (.int .i64 P))
      (first
        | with_reducible exact (C.below KD).c2
        | go_keep)
      (first
        | (go_at_call 49; (refine (against6 (q := q) (e := ee) (ha1.below hb2) ha2 H10.out H10.out HM.out.1.1 HM.out.1.2 HM.out.2.1 HM.out.2.2 HB.out.2.2.1.1 HB.out.2.2.1.2 HB.out.2.2.2.1 HB.out.2.2.2.2).mono ?_); rintro r w6 ⟨rfl, hb3⟩; replace KD := below_trans KD hb3; clear hb3)
        | (go_at_call 50; have _g := ha1; (refine (nat6 _ HB.out.2.1.1 HB.out.2.1.2).mono ?_); rintro r w5 ⟨v2, rfl, ha2, hb2⟩; replace KD := below_trans KD hb2)
        | (go_at_call 50; (refine (nat6 _ HB.out.1.1 HB.out.1.2).mono ?_); rintro r w4 ⟨v1, rfl, ha1, hb1⟩; replace KD := below_trans KD hb1; clear hb1))
    all_goals (
      rw [HSU.out (c + other) q1 q2 e1' e2' HM.out.1.1 HM.out.1.2 HM.out.2.1 HM.out.2.2]
      have sg := sgn_cases ((c + other) * TT (gG (-24)) q) (2 * vV 1024 (-24) s)
      generalize sgn ((c + other) * TT (gG (-24)) q) (2 * vV 1024 (-24) s) = z at *
      have KK := hide (below_trans K KD)
      clear K KD ha1 ha2 hb2
      have tm : c.tmod 2 = c % 2 := Int.tmod_eq_emod_of_nonneg (by omega)
      have FA := Ho.out
      rw [Hq.out] at FA
      rcases FA with ⟨eo, f⟩ | ⟨eo, f⟩
      · subst eo
        have ff := f inn.out
        have gt : c < c + 1 := by omega
        rcases sg with ⟨rfl, l⟩ | ⟨rfl, l⟩ | ⟨rfl, l⟩
        · (exfalso; have := ff.1; omega)
        · have od : ¬ c % 2 = 1 := fun k => ff.2 ⟨l, k⟩
          have od2 : (c % 2 == 1) = false := by simp [od]
          clear f ff l Ho
          go_wp2
          go_ret
          exact ⟨rfl, KK.out⟩
        · clear f ff l Ho
          go_wp2
          go_ret
          exact ⟨rfl, KK.out⟩
      · subst eo
        have ff := f inn.out (by omega)
        have gt : ¬ c < c - 1 := by omega
        rcases sg with ⟨rfl, l⟩ | ⟨rfl, l⟩ | ⟨rfl, l⟩
        · clear f ff l Ho
          go_wp2
          go_ret
          exact ⟨rfl, KK.out⟩
        · have od : ¬ c % 2 = 1 := fun k => ff.2 ⟨l, k⟩
          have od2 : (c % 2 == 1) = false := by simp [od]
          clear f ff l Ho
          go_wp2
          go_ret
          exact ⟨rfl, KK.out⟩
        · (exfalso; have := ff.1; omega))
  · have yq : (y != xx) = true := by simp [ye]
    go_wp2
    go_ret
    exact ⟨rfl, K⟩

theorem nst_dl_s {w : World} {ng : Bool} {e q s xx : Int} {K : Nat} (k1 : 1 ≤ K) (k18 : K ≤ 18) (h0 : 10 ^ (K - 1) ≤ e) (h1 : e < 10 ^ K) (q0 : -380 ≤ q) (q1 : q ≤ 380) (s0 : 0 < s) (s1 : s < 2139095040) (hx : xx = s + b2i ng * 2147483648) :
    Calls Tryz.prog 20 #[.int .i64 32, .agg #[.bool ng, .string (strOfNums (dl K e)), .int .i64 (q + K)]] w fun r w' => ∃ y, r = .returned (.int .u64 y) ∧ (y = xx ↔ Inn (vLo 8388608 (-149) s) (vHi 8388608 (-149) s) (s % 2 = 0) (e * TT (gG (-149)) q)) ∧ Below w.heap.size w w' := by
  have ep : 0 < e := by have := ten_pos (K - 1); omega
  have eb := bv_dl K e (by omega) h1
  refine (nearest6_s (dl_byte K e) rfl (dl_len K e) (by omega) k18 (dl_first k1 h0 h1) (by rw [eb]; exact ep) (by omega) (by omega)).mono ?_
  rintro r w' ⟨⟨r0, rfl, nx⟩, b⟩
  rw [eb, show q + (K : Int) - K = q by omega] at nx
  refine ⟨_, rfl, ?_, b⟩
  rw [← nx_inn (I := 2139095040) (by decide) s0 s1, hx]
  constructor
  · intro g
    have : r0 = s := by omega
    rw [← this]; exact nx
  · intro g
    rw [nx_unique (by decide) nx g]

set_option maxRecDepth 100000 in
set_option maxHeartbeats 8000000 in
theorem beaten6_s {w : World} {ng : Bool} {t : ByteArray} {P s xx c other : Int} {N : Nat} (hsz : t.size = N) (n1 : 1 ≤ N) (n17 : N ≤ 17) (P0 : -340 < P) (P1 : P < 340) (c0 : 0 < c) (c1 : c < 100000000000000000) (s0 : 0 < s) (s1 : s < 2139095040) (hx : xx = s + b2i ng * 2147483648)
    (ho : (other = c + 1 ∧ (Inn (vLo 8388608 (-149) s) (vHi 8388608 (-149) s) (s % 2 = 0) ((c + 1) * TT (gG (-149)) (P - N)) → ¬ (c + (c + 1)) * TT (gG (-149)) (P - N) < 2 * vV 8388608 (-149) s ∧ ¬ ((c + (c + 1)) * TT (gG (-149)) (P - N) = 2 * vV 8388608 (-149) s ∧ c % 2 = 1))) ∨
      (other = c - 1 ∧ (Inn (vLo 8388608 (-149) s) (vHi 8388608 (-149) s) (s % 2 = 0) ((c - 1) * TT (gG (-149)) (P - N)) → 1 < c → ¬ 2 * vV 8388608 (-149) s < (c + (c - 1)) * TT (gG (-149)) (P - N) ∧ ¬ ((c + (c - 1)) * TT (gG (-149)) (P - N) = 2 * vV 8388608 (-149) s ∧ c % 2 = 1)))) :
    Calls Tryz.prog 23 #[.int .i64 32, .int .u64 xx, .agg #[.bool ng, .string t, .int .i64 P], .int .u64 c, .int .u64 other] w fun e w' => e = .returned (.bool false) ∧ Below w.heap.size w w' := by
  have o0 : 0 ≤ other := by rcases ho with ⟨h, _⟩ | ⟨h, _⟩ <;> omega
  have o1 : other ≤ 100000000000000000 := by rcases ho with ⟨h, _⟩ | ⟨h, _⟩ <;> omega
  have Ho := hide ho
  have Hx := hide hx
  clear ho hx
  have C := cell3_new w (.bool ng) (.string t) (.int .i64 P) 24
  have K0 := bel_new w (.cells #[.bool ng, .string t, .int .i64 P] 24)
  obtain ⟨q, hq⟩ : ∃ q, P - (N : Int) = q := ⟨_, rfl⟩
  have wq : IntKind.i64.wrap (P - (N : Int)) = q := by rw [hq, IntKind.wrap_i64]; omega
  have qb : -357 ≤ q ∧ q ≤ 339 := by omega
  have Hq := hide hq
  clear hq
  go_enter Tryz.func23, Tryz.ntmps23
  go_upto_region 1 with fail
  generalize w.alloc (.cells #[.bool ng, .string t, .int .i64 P] 24) = w0 at *
  have c0' := C.c0
  have c1' := C.c1
  have c2' := C.c2
  by_cases oz : other = 0
  · have oz' : (other == 0) = true := by simp [oz]
    go_wp2
    go_ret
    exact ⟨rfl, K0⟩
  have oz' : (other == 0) = false := by simp [oz]
  obtain ⟨k, k1, k18, kd0, kd1⟩ := some_digits (n := other) (by omega) 18 (lt18 o1)
  have Hk := hide (And.intro kd0 kd1)
  clear kd0 kd1
  go_wp2_with fail
  refine (decimal6 (K := k) (q := q) k1 k18 Hk.out.1 Hk.out.2 (by omega) (by omega) (by omega)).mono ?_
  rintro r w1 ⟨rfl, b1⟩
  go_wp2_with fail
  refine (nst_dl_s k1 k18 Hk.out.1 Hk.out.2 (by omega) (by omega) s0 s1 Hx.out).mono ?_
  rintro r w2 ⟨y, rfl, hy, b2⟩
  have K := below_trans (below_trans K0 b1) b2
  replace C := (C.below b1).below b2
  clear c0' c1' c2' b1 b2 K0
  have c2' := C.c2
  have Hy := hide hy
  clear hy
  by_cases ye : y = xx
  · have inn := hide (Hy.out.1 ye)
    have yq : (y != xx) = false := by simp [ye]
    go_wp2_with fail
    refine (rSize_s w2 xx s (by have := Hx.out; cases ng <;> simp [b2i] at this <;> omega) (by have := Hx.out; cases ng <;> simp [b2i] at this <;> omega) (by have := Hx.out; cases ng <;> simp [b2i] at this <;> omega)).mono ?_
    rintro r w3 ⟨rfl, hw⟩
    replace hw := hw.symm
    subst hw
    go_wp2_with fail
    refine (rNumber_s w2 s (by omega) (by omega)).mono ?_
    rintro r w3 ⟨rfl, b3⟩
    obtain ⟨mm0, mm1⟩ := mst_lt (F := 8388608) (s := s) (by decide) (by omega)
    have e0 := est_ge (F := 8388608) (L := -149) (s := s) (by decide)
    have e1 := est_top (F := 8388608) (L := -149) (s := s) (n := 255) (by decide) (by decide) (by omega) (by omega)
    have SU := fun (A : Int) (a b c d : Nat) h1 h2 h3 h4 => sgn_units (F := 8388608) (L := -149) (s := s) (A := A) (q := q) (q1 := a) (q2 := b) (e1 := c) (e2 := d) (by decide) (by decide) h1 h2 h3 h4 (by omega)
    obtain ⟨mm, hmm⟩ : ∃ m, mst 8388608 s = m := ⟨_, rfl⟩
    obtain ⟨ee, hee⟩ : ∃ e, est 8388608 (-149) s = e := ⟨_, rfl⟩
    rw [hmm] at mm0 mm1
    rw [hee] at e0 e1
    simp only [hmm, hee] at SU
    rw [hmm, hee]
    clear hmm hee
    have HSU := hide SU
    clear SU
    replace K := below_trans K b3
    replace C := C.below b3
    clear c2' b3
    have w1' : IntKind.u64.wrap (c + other) = c + other := by rw [IntKind.wrap_u64]; omega
    have w2' : IntKind.u64.wrap (2 * mm) = 2 * mm := by rw [IntKind.wrap_u64]; omega
    obtain ⟨q1, hq1⟩ : ∃ a : Nat, max q 0 = a := ⟨(max q 0).toNat, by omega⟩
    obtain ⟨q2, hq2⟩ : ∃ a : Nat, max (-q) 0 = a := ⟨(max (-q) 0).toNat, by omega⟩
    obtain ⟨e1', he1⟩ : ∃ a : Nat, max ee 0 = a := ⟨(max ee 0).toNat, by omega⟩
    obtain ⟨e2', he2⟩ : ∃ a : Nat, max (-ee) 0 = a := ⟨(max (-ee) 0).toNat, by omega⟩
    have HM := hide (And.intro (And.intro hq1 hq2) (And.intro he1 he2))
    have HB := hide (show (0 ≤ c + other ∧ c + other < 18446744073709551616) ∧ (0 ≤ 2 * mm ∧ 2 * mm < 18446744073709551616) ∧ (q1 ≤ 600 ∧ q2 ≤ 600) ∧ (e1' ≤ 1200 ∧ e2' ≤ 1200) by omega)
    have H10 := hide (show (2 : Nat) ≤ 10 by omega)
    clear hq1 hq2 he1 he2
    go_upto_region 5 with fail
    have KD : Below w3.heap.size w3 w3.drew := (Below.refl _ _).drew
    go_region_held3 (fun w' => w'.cell? ⟨w.heap.size, 2, none⟩ = some (.int .i64 P))
      (first
        | with_reducible exact (C.below KD).c2
        | go_keep)
      (first
        | (go_at_call 49; (refine (against6 (q := q) (e := ee) (ha1.below hb2) ha2 H10.out H10.out HM.out.1.1 HM.out.1.2 HM.out.2.1 HM.out.2.2 HB.out.2.2.1.1 HB.out.2.2.1.2 HB.out.2.2.2.1 HB.out.2.2.2.2).mono ?_); rintro r w6 ⟨rfl, hb3⟩; replace KD := below_trans KD hb3; clear hb3)
        | (go_at_call 50; have _g := ha1; (refine (nat6 _ HB.out.2.1.1 HB.out.2.1.2).mono ?_); rintro r w5 ⟨v2, rfl, ha2, hb2⟩; replace KD := below_trans KD hb2)
        | (go_at_call 50; (refine (nat6 _ HB.out.1.1 HB.out.1.2).mono ?_); rintro r w4 ⟨v1, rfl, ha1, hb1⟩; replace KD := below_trans KD hb1; clear hb1))
    all_goals (
      rw [HSU.out (c + other) q1 q2 e1' e2' HM.out.1.1 HM.out.1.2 HM.out.2.1 HM.out.2.2]
      have sg := sgn_cases ((c + other) * TT (gG (-149)) q) (2 * vV 8388608 (-149) s)
      generalize sgn ((c + other) * TT (gG (-149)) q) (2 * vV 8388608 (-149) s) = z at *
      have KK := hide (below_trans K KD)
      clear K KD ha1 ha2 hb2
      have tm : c.tmod 2 = c % 2 := Int.tmod_eq_emod_of_nonneg (by omega)
      have FA := Ho.out
      rw [Hq.out] at FA
      rcases FA with ⟨eo, f⟩ | ⟨eo, f⟩
      · subst eo
        have ff := f inn.out
        have gt : c < c + 1 := by omega
        rcases sg with ⟨rfl, l⟩ | ⟨rfl, l⟩ | ⟨rfl, l⟩
        · (exfalso; have := ff.1; omega)
        · have od : ¬ c % 2 = 1 := fun k => ff.2 ⟨l, k⟩
          have od2 : (c % 2 == 1) = false := by simp [od]
          clear f ff l Ho
          go_wp2
          go_ret
          exact ⟨rfl, KK.out⟩
        · clear f ff l Ho
          go_wp2
          go_ret
          exact ⟨rfl, KK.out⟩
      · subst eo
        have ff := f inn.out (by omega)
        have gt : ¬ c < c - 1 := by omega
        rcases sg with ⟨rfl, l⟩ | ⟨rfl, l⟩ | ⟨rfl, l⟩
        · clear f ff l Ho
          go_wp2
          go_ret
          exact ⟨rfl, KK.out⟩
        · have od : ¬ c % 2 = 1 := fun k => ff.2 ⟨l, k⟩
          have od2 : (c % 2 == 1) = false := by simp [od]
          clear f ff l Ho
          go_wp2
          go_ret
          exact ⟨rfl, KK.out⟩
        · (exfalso; have := ff.1; omega))
  · have yq : (y != xx) = true := by simp [ye]
    go_wp2
    go_ret
    exact ⟨rfl, K⟩

theorem nst_dl_d {w : World} {ng : Bool} {e q s xx : Int} {K : Nat} (k1 : 1 ≤ K) (k18 : K ≤ 18) (h0 : 10 ^ (K - 1) ≤ e) (h1 : e < 10 ^ K) (q0 : -380 ≤ q) (q1 : q ≤ 380) (s0 : 0 < s) (s1 : s < 9218868437227405312) (hx : xx = s + b2i ng * 9223372036854775808) :
    Calls Tryz.prog 20 #[.int .i64 64, .agg #[.bool ng, .string (strOfNums (dl K e)), .int .i64 (q + K)]] w fun r w' => ∃ y, r = .returned (.int .u64 y) ∧ (y = xx ↔ Inn (vLo 4503599627370496 (-1074) s) (vHi 4503599627370496 (-1074) s) (s % 2 = 0) (e * TT (gG (-1074)) q)) ∧ Below w.heap.size w w' := by
  have ep : 0 < e := by have := ten_pos (K - 1); omega
  have eb := bv_dl K e (by omega) h1
  refine (nearest6_d (dl_byte K e) rfl (dl_len K e) (by omega) k18 (dl_first k1 h0 h1) (by rw [eb]; exact ep) (by omega) (by omega)).mono ?_
  rintro r w' ⟨⟨r0, rfl, nx⟩, b⟩
  rw [eb, show q + (K : Int) - K = q by omega] at nx
  refine ⟨_, rfl, ?_, b⟩
  rw [← nx_inn (I := 9218868437227405312) (by decide) s0 s1, hx]
  constructor
  · intro g
    have : r0 = s := by omega
    rw [← this]; exact nx
  · intro g
    rw [nx_unique (by decide) nx g]

set_option maxRecDepth 100000 in
set_option maxHeartbeats 8000000 in
theorem beaten6_d {w : World} {ng : Bool} {t : ByteArray} {P s xx c other : Int} {N : Nat} (hsz : t.size = N) (n1 : 1 ≤ N) (n17 : N ≤ 17) (P0 : -340 < P) (P1 : P < 340) (c0 : 0 < c) (c1 : c < 100000000000000000) (s0 : 0 < s) (s1 : s < 9218868437227405312) (hx : xx = s + b2i ng * 9223372036854775808)
    (ho : (other = c + 1 ∧ (Inn (vLo 4503599627370496 (-1074) s) (vHi 4503599627370496 (-1074) s) (s % 2 = 0) ((c + 1) * TT (gG (-1074)) (P - N)) → ¬ (c + (c + 1)) * TT (gG (-1074)) (P - N) < 2 * vV 4503599627370496 (-1074) s ∧ ¬ ((c + (c + 1)) * TT (gG (-1074)) (P - N) = 2 * vV 4503599627370496 (-1074) s ∧ c % 2 = 1))) ∨
      (other = c - 1 ∧ (Inn (vLo 4503599627370496 (-1074) s) (vHi 4503599627370496 (-1074) s) (s % 2 = 0) ((c - 1) * TT (gG (-1074)) (P - N)) → 1 < c → ¬ 2 * vV 4503599627370496 (-1074) s < (c + (c - 1)) * TT (gG (-1074)) (P - N) ∧ ¬ ((c + (c - 1)) * TT (gG (-1074)) (P - N) = 2 * vV 4503599627370496 (-1074) s ∧ c % 2 = 1)))) :
    Calls Tryz.prog 23 #[.int .i64 64, .int .u64 xx, .agg #[.bool ng, .string t, .int .i64 P], .int .u64 c, .int .u64 other] w fun e w' => e = .returned (.bool false) ∧ Below w.heap.size w w' := by
  have o0 : 0 ≤ other := by rcases ho with ⟨h, _⟩ | ⟨h, _⟩ <;> omega
  have o1 : other ≤ 100000000000000000 := by rcases ho with ⟨h, _⟩ | ⟨h, _⟩ <;> omega
  have Ho := hide ho
  have Hx := hide hx
  clear ho hx
  have C := cell3_new w (.bool ng) (.string t) (.int .i64 P) 24
  have K0 := bel_new w (.cells #[.bool ng, .string t, .int .i64 P] 24)
  obtain ⟨q, hq⟩ : ∃ q, P - (N : Int) = q := ⟨_, rfl⟩
  have wq : IntKind.i64.wrap (P - (N : Int)) = q := by rw [hq, IntKind.wrap_i64]; omega
  have qb : -357 ≤ q ∧ q ≤ 339 := by omega
  have Hq := hide hq
  clear hq
  go_enter Tryz.func23, Tryz.ntmps23
  go_upto_region 1 with fail
  generalize w.alloc (.cells #[.bool ng, .string t, .int .i64 P] 24) = w0 at *
  have c0' := C.c0
  have c1' := C.c1
  have c2' := C.c2
  by_cases oz : other = 0
  · have oz' : (other == 0) = true := by simp [oz]
    go_wp2
    go_ret
    exact ⟨rfl, K0⟩
  have oz' : (other == 0) = false := by simp [oz]
  obtain ⟨k, k1, k18, kd0, kd1⟩ := some_digits (n := other) (by omega) 18 (lt18 o1)
  have Hk := hide (And.intro kd0 kd1)
  clear kd0 kd1
  go_wp2_with fail
  refine (decimal6 (K := k) (q := q) k1 k18 Hk.out.1 Hk.out.2 (by omega) (by omega) (by omega)).mono ?_
  rintro r w1 ⟨rfl, b1⟩
  go_wp2_with fail
  refine (nst_dl_d k1 k18 Hk.out.1 Hk.out.2 (by omega) (by omega) s0 s1 Hx.out).mono ?_
  rintro r w2 ⟨y, rfl, hy, b2⟩
  have K := below_trans (below_trans K0 b1) b2
  replace C := (C.below b1).below b2
  clear c0' c1' c2' b1 b2 K0
  have c2' := C.c2
  have Hy := hide hy
  clear hy
  by_cases ye : y = xx
  · have inn := hide (Hy.out.1 ye)
    have yq : (y != xx) = false := by simp [ye]
    go_wp2_with fail
    refine (rSize_d w2 xx s (by have := Hx.out; cases ng <;> simp [b2i] at this <;> omega) (by have := Hx.out; cases ng <;> simp [b2i] at this <;> omega) (by have := Hx.out; cases ng <;> simp [b2i] at this <;> omega)).mono ?_
    rintro r w3 ⟨rfl, hw⟩
    replace hw := hw.symm
    subst hw
    go_wp2_with fail
    refine (rNumber_d w2 s (by omega) (by omega)).mono ?_
    rintro r w3 ⟨rfl, b3⟩
    obtain ⟨mm0, mm1⟩ := mst_lt (F := 4503599627370496) (s := s) (by decide) (by omega)
    have e0 := est_ge (F := 4503599627370496) (L := -1074) (s := s) (by decide)
    have e1 := est_top (F := 4503599627370496) (L := -1074) (s := s) (n := 2047) (by decide) (by decide) (by omega) (by omega)
    have SU := fun (A : Int) (a b c d : Nat) h1 h2 h3 h4 => sgn_units (F := 4503599627370496) (L := -1074) (s := s) (A := A) (q := q) (q1 := a) (q2 := b) (e1 := c) (e2 := d) (by decide) (by decide) h1 h2 h3 h4 (by omega)
    obtain ⟨mm, hmm⟩ : ∃ m, mst 4503599627370496 s = m := ⟨_, rfl⟩
    obtain ⟨ee, hee⟩ : ∃ e, est 4503599627370496 (-1074) s = e := ⟨_, rfl⟩
    rw [hmm] at mm0 mm1
    rw [hee] at e0 e1
    simp only [hmm, hee] at SU
    rw [hmm, hee]
    clear hmm hee
    have HSU := hide SU
    clear SU
    replace K := below_trans K b3
    replace C := C.below b3
    clear c2' b3
    have w1' : IntKind.u64.wrap (c + other) = c + other := by rw [IntKind.wrap_u64]; omega
    have w2' : IntKind.u64.wrap (2 * mm) = 2 * mm := by rw [IntKind.wrap_u64]; omega
    obtain ⟨q1, hq1⟩ : ∃ a : Nat, max q 0 = a := ⟨(max q 0).toNat, by omega⟩
    obtain ⟨q2, hq2⟩ : ∃ a : Nat, max (-q) 0 = a := ⟨(max (-q) 0).toNat, by omega⟩
    obtain ⟨e1', he1⟩ : ∃ a : Nat, max ee 0 = a := ⟨(max ee 0).toNat, by omega⟩
    obtain ⟨e2', he2⟩ : ∃ a : Nat, max (-ee) 0 = a := ⟨(max (-ee) 0).toNat, by omega⟩
    have HM := hide (And.intro (And.intro hq1 hq2) (And.intro he1 he2))
    have HB := hide (show (0 ≤ c + other ∧ c + other < 18446744073709551616) ∧ (0 ≤ 2 * mm ∧ 2 * mm < 18446744073709551616) ∧ (q1 ≤ 600 ∧ q2 ≤ 600) ∧ (e1' ≤ 1200 ∧ e2' ≤ 1200) by omega)
    have H10 := hide (show (2 : Nat) ≤ 10 by omega)
    clear hq1 hq2 he1 he2
    go_upto_region 5 with fail
    have KD : Below w3.heap.size w3 w3.drew := (Below.refl _ _).drew
    go_region_held3 (fun w' => w'.cell? ⟨w.heap.size, 2, none⟩ = some (.int .i64 P))
      (first
        | with_reducible exact (C.below KD).c2
        | go_keep)
      (first
        | (go_at_call 49; (refine (against6 (q := q) (e := ee) (ha1.below hb2) ha2 H10.out H10.out HM.out.1.1 HM.out.1.2 HM.out.2.1 HM.out.2.2 HB.out.2.2.1.1 HB.out.2.2.1.2 HB.out.2.2.2.1 HB.out.2.2.2.2).mono ?_); rintro r w6 ⟨rfl, hb3⟩; replace KD := below_trans KD hb3; clear hb3)
        | (go_at_call 50; have _g := ha1; (refine (nat6 _ HB.out.2.1.1 HB.out.2.1.2).mono ?_); rintro r w5 ⟨v2, rfl, ha2, hb2⟩; replace KD := below_trans KD hb2)
        | (go_at_call 50; (refine (nat6 _ HB.out.1.1 HB.out.1.2).mono ?_); rintro r w4 ⟨v1, rfl, ha1, hb1⟩; replace KD := below_trans KD hb1; clear hb1))
    all_goals (
      rw [HSU.out (c + other) q1 q2 e1' e2' HM.out.1.1 HM.out.1.2 HM.out.2.1 HM.out.2.2]
      have sg := sgn_cases ((c + other) * TT (gG (-1074)) q) (2 * vV 4503599627370496 (-1074) s)
      generalize sgn ((c + other) * TT (gG (-1074)) q) (2 * vV 4503599627370496 (-1074) s) = z at *
      have KK := hide (below_trans K KD)
      clear K KD ha1 ha2 hb2
      have tm : c.tmod 2 = c % 2 := Int.tmod_eq_emod_of_nonneg (by omega)
      have FA := Ho.out
      rw [Hq.out] at FA
      rcases FA with ⟨eo, f⟩ | ⟨eo, f⟩
      · subst eo
        have ff := f inn.out
        have gt : c < c + 1 := by omega
        rcases sg with ⟨rfl, l⟩ | ⟨rfl, l⟩ | ⟨rfl, l⟩
        · (exfalso; have := ff.1; omega)
        · have od : ¬ c % 2 = 1 := fun k => ff.2 ⟨l, k⟩
          have od2 : (c % 2 == 1) = false := by simp [od]
          clear f ff l Ho
          go_wp2
          go_ret
          exact ⟨rfl, KK.out⟩
        · clear f ff l Ho
          go_wp2
          go_ret
          exact ⟨rfl, KK.out⟩
      · subst eo
        have ff := f inn.out (by omega)
        have gt : ¬ c < c - 1 := by omega
        rcases sg with ⟨rfl, l⟩ | ⟨rfl, l⟩ | ⟨rfl, l⟩
        · clear f ff l Ho
          go_wp2
          go_ret
          exact ⟨rfl, KK.out⟩
        · have od : ¬ c % 2 = 1 := fun k => ff.2 ⟨l, k⟩
          have od2 : (c % 2 == 1) = false := by simp [od]
          clear f ff l Ho
          go_wp2
          go_ret
          exact ⟨rfl, KK.out⟩
        · (exfalso; have := ff.1; omega))
  · have yq : (y != xx) = true := by simp [ye]
    go_wp2
    go_ret
    exact ⟨rfl, K⟩

end Go.Proofs.YtlhjbmdkfdabmaaGreatDoor

namespace Go.Proofs.YtlhjbmdkfdabmaaGreatDoor
open Go.RowKit
set_option linter.unusedVariables false

theorem td_txt {F L s p c : Int} {k M fr : Nat} (hfr : F = p2 fr) (h0 : 0 < s) (hL : -1074 ≤ L) (hL0 : L ≤ 0) (he : est F L s ≤ 1023 - fr) (hM : 2 * F ≤ 10 ^ M) (hM2 : M ≤ 16) (h : ShP F L s p k c) (h17 : k ≤ 17) : Td F L s M (strOfNums (txt k c)) (pt k c p) (txt k c) k := by
  have hF : 0 < F := by rw [hfr]; exact p2_pos fr
  have hp := point_low hF h0 hL h.hi
  have hp2 := point_high hfr (by omega) hL0 he h.lo
  have hG := gG_pos L
  have kM : k ≤ M + 1 := by
    rcases Nat.lt_or_ge (M + 1) k with g | g
    · exact absurd (h.out (M + 1) (by omega) g) (v_most hF h0 hM (by omega) h.lo)
    · exact g
  have inn : Inn (vLo F L s) (vHi F L s) (s % 2 = 0) (c * TT (gG L) (p - k)) := by
    rcases h.pick with ⟨e, g, _⟩ | ⟨e, g, _⟩ <;> rw [e] <;> exact g
  rcases h.cases hG (by omega) with ⟨e, rfl, _, e10⟩ | ⟨e, c0, c1, c2, _⟩
  · have tx : txt 1 c = [49] := by unfold txt; rw [if_pos e]
    rw [tx]
    refine ⟨rfl, by simp, rfl, by omega, by omega, by omega, by decide, by decide, by decide, ?_, ?_, ?_⟩
    · unfold pt; rw [if_pos e]; omega
    · unfold pt; rw [if_pos e]; omega
    · unfold pt; rw [if_pos e]
      rw [e10] at inn
      have : TT (gG L) (p + 1 - (1 : Nat)) = 10 * TT (gG L) (p - (1 : Nat)) := by
        rw [← TT_succ (by omega)]; congr 1; omega
      rw [this, show bv [49] = 1 from rfl, Int.one_mul]; exact inn
  · have k1 := h.k1
    have cp : 0 < c := by have := ten_pos (k - 1); omega
    have eb := bv_dl k c (by omega) c1
    have tx : txt k c = dl k c := by unfold txt; rw [if_neg e]
    rw [tx]
    refine ⟨rfl, dl_byte k c, dl_len k c, by omega, kM, h17, dl_first k1 c0 c1, ?_, by rw [eb]; exact cp, ?_, ?_, ?_⟩
    · obtain ⟨m, rfl⟩ : ∃ m, k = m + 1 := ⟨k - 1, by omega⟩
      rw [Nat.add_sub_cancel, dl_last]; omega
    · unfold pt; rw [if_neg e]; omega
    · unfold pt; rw [if_neg e]; omega
    · unfold pt; rw [if_neg e, eb]; exact inn
theorem few_top {F L s P : Int} {M N : Nat} {t : ByteArray} {ds : List Int} (h : Td F L s M t P ds N) : bv ds < 100000000000000000 := by
  have a := (bv_range h.dg).2
  rw [h.len] at a
  have c : (10 : Int) ^ N ≤ 10 ^ 17 := by
    obtain ⟨d, hd⟩ : ∃ d, 17 = N + d := ⟨17 - N, by have := h.n2; omega⟩
    rw [hd, Int.pow_add]
    have := ten_pos d
    have : (10 : Int) ^ N * 1 ≤ 10 ^ N * 10 ^ d := Int.mul_le_mul_of_nonneg_left (by omega) (Int.le_of_lt (ten_pos _))
    omega
  have e : (10 : Int) ^ 17 = 100000000000000000 := by decide
  omega
theorem few_ne {t : ByteArray} (h : 0 < t.size) : (t.toList == []) = false := by
  have h' : 0 < t.data.size := h
  have : t.toList ≠ [] := by
    intro e
    rw [ByteArray.toList_eq] at e
    have e2 := congrArg List.length e
    rw [Array.length_toList] at e2
    rw [List.length_nil] at e2
    omega
  cases hb : (t.toList == []) with
  | false => rfl
  | true => exact absurd (by simpa using hb) this
theorem few_low {F L s p c : Int} {k : Nat} (hF : 0 < F) (h0 : 0 < s) (hL : -1074 ≤ L) (h : ShP F L s p k c) (h17 : k ≤ 17) (g : 1 < k) : 10 ≤ bv (txt k c) := by
  have hp := point_low hF h0 hL h.hi
  have hG := gG_pos L
  rcases h.cases hG (by omega) with ⟨e, e1, _, e10⟩ | ⟨e, c0, c1, c2, _⟩
  · omega
  · have cp : 0 < c := by have := ten_pos (k - 1); omega
    have eb := bv_dl k c (by omega) c1
    have tx : txt k c = dl k c := by unfold txt; rw [if_neg e]
    rw [tx, eb]
    obtain ⟨m, hm⟩ : ∃ m, k - 1 = m + 1 := ⟨k - 2, by omega⟩
    rw [hm, Int.pow_succ] at c0
    have := ten_pos m
    omega

set_option maxRecDepth 100000 in
set_option maxHeartbeats 8000000 in
theorem fewest_h {w : World} (T : Lays w) (U : Brn w) (x n : Int) (x0 : 0 ≤ x) (x1 : x < 18446744073709551616) (n0 : 0 ≤ n) (n1 : n < 256) (hr : n % 3 = 0) :
    Calls Tryz.prog 6 #[.int .u64 x, .int .u8 n] w fun e w' => e = .returned (.bool true) ∧ Below w.heap.size w w' := by
  go_enter Tryz.func6, Tryz.ntmps6
  go_wp2_with fail
  refine (lwidth_h w n n0 n1 hr).mono ?_
  rintro r w' ⟨rfl, rfl⟩
  go_wp2_with fail
  refine (lcut_h w' x x0 x1).mono ?_
  rintro r w ⟨rfl, rfl⟩
  obtain ⟨xx, hxx⟩ : ∃ a, x % 65536 = a := ⟨_, rfl⟩
  have y0 : 0 ≤ xx := by omega
  have y1 : xx < 65536 := by omega
  rw [hxx]
  clear hxx hr
  obtain ⟨s, hs⟩ : ∃ a, xx % 32768 = a := ⟨_, rfl⟩
  have s0 : 0 ≤ s := by omega
  obtain ⟨ng, hng'⟩ : ∃ b, decide (32768 ≤ xx) = b := ⟨_, rfl⟩
  have hng := hide hng'
  have XS := hide (show xx = s + b2i ng * 32768 by
    rw [← hng']
    by_cases c : 32768 ≤ xx
    · rw [decide_eq_true c]; simp [b2i]; omega
    · rw [decide_eq_false c]; simp [b2i]; omega)
  clear hng'
  go_wp2_with fail
  refine (ldigits_h T U xx s ng (by omega) (by omega) hs hng.out.symm).mono ?_
  rintro r w1 ⟨a, ta, qa, ok, rfl, dg, K1⟩
  have CA := cell3_new w1 (.bool a) (.string ta) (.int .i64 qa) 24
  have K := below_trans K1 (bel_new w1 (.cells #[.bool a, .string ta, .int .i64 qa] 24))
  have HD := hide dg
  clear dg K1 hs
  go_upto_region 4 with fail
  generalize w1.alloc (.cells #[.bool a, .string ta, .int .i64 qa] 24) = w2 at *
  have c0 := CA.c0
  have c1 := CA.c1
  have c2 := CA.c2
  by_cases fin : s < 31744
  · by_cases z : s = 0
    · obtain ⟨e1, rfl⟩ := HD.out.2.1 z
      injection e1 with e1
      simp at e1
      obtain ⟨rfl, rfl, rfl⟩ := e1
      rw [show strOfNums [] = ⟨#[]⟩ from rfl] at CA c1 HD
      go_wp2_with fail
      refine (lives6 (T.below K) (U.below K)).mono ?_
      rintro r wb ⟨rfl, bb⟩
      go_wp2
      go_ret
      exact ⟨rfl, below_trans K bb⟩
    · have sp : 0 < s := by omega
      obtain ⟨rfl, p, k, c, sh, k17, e1⟩ := HD.out.2.2 sp fin
      injection e1 with e1
      simp at e1
      have et := est_top (F := 1024) (L := -24) (s := s) (n := 31) (by decide) (by decide) (by omega) (by omega)
      have pl := point_low (F := 1024) (L := -24) (by decide) sp (by decide) sh.hi
      have ph := point_high (F := 1024) (L := -24) fr_h (by omega) (by decide) (by omega) sh.lo
      have pp : -340 < pt k c p ∧ pt k c p < 340 := by unfold pt; split <;> omega
      have td := td_txt (M := 4) fr_h sp (by decide) (by decide) (by omega) (by decide) (by decide) sh k17
      obtain ⟨ds', hs1, hs2, hs3, fw⟩ := fw_of (F := 1024) (L := -24) (by decide) sp (by decide) sh k17
      rw [← hs3] at fw
      have low := few_low (F := 1024) (L := -24) (by decide) sp (by decide) sh k17
      clear hs1 hs2 hs3
      rw [← e1.2.1, ← e1.2.2] at td
      rw [← e1.2.2] at fw pp
      generalize txt k c = ds at *
      generalize k = N at *
      have ea := e1.1
      subst ea
      clear e1 sh pl ph et k17
      have TD := hide td
      have FW := hide fw
      have sz : ta.size = N := by rw [td.t, strOfNums_size, td.len]
      have nn := td.n2
      have nz := td.n0
      obtain ⟨P0, P1⟩ := pp
      have cb := hide (bv_range td.dg)
      have cpos := td.pos
      have ctop : bv ds < 100000000000000000 := few_top td
      clear td fw
      have ne2 : (ta.toList == []) = false := few_ne (by omega)
      have q17 : ¬ (17 : Int) < (N : Int) := by omega
      have r1 : ¬ qa < -400 := by omega
      have r2 : ¬ 400 < qa := by omega
      obtain ⟨cc, hcc⟩ : ∃ c, bv ds = c := ⟨_, rfl⟩
      rw [hcc] at cpos ctop low
      go_wp2_with fail
      refine (plain6 TD.out.dg TD.out.t TD.out.len TD.out.n0 TD.out.n2 TD.out.first TD.out.last).mono ?_
      rintro r w3 ⟨rfl, hw⟩
      replace hw := hw.symm
      subst hw
      go_wp2_with fail
      refine (number6 TD.out.dg TD.out.t TD.out.len (by omega)).mono ?_
      rintro r w3 ⟨rfl, hw⟩
      replace hw := hw.symm
      subst hw
      rw [hcc]
      rw [hcc] at FW
      clear hcc cb
      have w1' : IntKind.u64.wrap (cc + 1) = cc + 1 := by rw [IntKind.wrap_u64]; omega
      have w2' : IntKind.u64.wrap (cc - 1) = cc - 1 := by rw [IntKind.wrap_u64]; omega
      by_cases many : 1 < N
      · have mc : (1 : Int) < (N : Int) := by omega
        have lo := low many
        clear low
        obtain ⟨q, hq⟩ : ∃ q, qa - (N : Int) + 1 = q := ⟨_, rfl⟩
        have u1 : IntKind.i64.wrap (qa - (N : Int)) = qa - (N : Int) := by rw [IntKind.wrap_i64]; omega
        have u2 : IntKind.i64.wrap (qa - (N : Int) + 1) = q := by rw [hq, IntKind.wrap_i64]; omega
        have qb : -360 ≤ q ∧ q ≤ 350 := by omega
        have f1 := FW.out.f1 many
        rw [hq] at f1
        have F1 := hide f1
        clear f1 hq
        have td10 : cc.tdiv 10 = cc / 10 := Int.tdiv_eq_ediv_of_nonneg (by omega)
        obtain ⟨e, he⟩ : ∃ e, cc / 10 = e := ⟨_, rfl⟩
        have e0 : 0 < e := by omega
        have etop : e < 10000000000000000 := by omega
        rw [he] at td10 F1
        clear he
        go_wp2
        go_loopg [10] 2 (fun c i wr => ∃ k : Nat, k ≤ 2 ∧ c = 2 - k ∧ i = .int .u64 k ∧ Below w2.heap.size w2 wr)
        case atStart => exact ⟨0, by omega, rfl, rfl, Below.refl _ _⟩
        case round =>
          obtain ⟨k, hk, hgk, rfl, hbw⟩ := hrel
          replace CA := CA.below hbw
          replace K := below_trans K hbw
          clear c0 c1 c2
          have c0 := CA.c0
          have c1 := CA.c1
          have c2 := CA.c2
          by_cases hkl : k < 2
          · have q4 : (k : Int) < 2 := by omega
            have u3 : IntKind.u64.wrap (e + (k : Int)) = e + (k : Int) := by rw [IntKind.wrap_u64]; omega
            have u4 : IntKind.u64.wrap ((k : Int) + 1) = (k : Int) + 1 := by rw [IntKind.wrap_u64]; omega
            obtain ⟨kk, k1, k18, kd0, kd1⟩ := some_digits (n := e + (k : Int)) (by omega) 18 (lt18 (by omega))
            have Hk := hide (And.intro kd0 kd1)
            clear kd0 kd1
            have nin := hide (F1.out (k : Int) (by omega))
            go_wp2_with fail
            refine (decimal6 (K := kk) (q := q) k1 k18 Hk.out.1 Hk.out.2 (by omega) (by omega) (by omega)).mono ?_
            rintro r w3 ⟨rfl, b3⟩
            go_wp2_with fail
            refine (nst_dl_h k1 k18 Hk.out.1 Hk.out.2 (by omega) (by omega) sp fin XS.out).mono ?_
            rintro r w4 ⟨y, rfl, hy, b4⟩
            have yq : (y == xx) = false := by
              have : ¬ y = xx := fun h => nin.out (hy.1 h)
              simp [this]
            clear hy
            go_wp2
            go_roundg (2 - (k + 1))
            case measure => omega
            case rel => exact ⟨k + 1, by omega, rfl, by simp, below_trans hbw (below_trans b3 b4)⟩
          · have hke : k = 2 := by omega
            subst hke
            clear hgk hk hkl
            go_wp2_with fail
            refine (beaten6_h (N := N) sz (by omega) nn P0 P1 cpos ctop sp fin XS.out (Or.inl ⟨rfl, FW.out.f2⟩)).mono ?_
            rintro r w5 ⟨rfl, b5⟩
            replace CA := CA.below b5
            replace K := below_trans K b5
            clear c0 c1 c2 b5
            have c0 := CA.c0
            have c1 := CA.c1
            have c2 := CA.c2
            go_wp2_with fail
            refine (beaten6_h (N := N) sz (by omega) nn P0 P1 cpos ctop sp fin XS.out (Or.inr ⟨rfl, FW.out.f3⟩)).mono ?_
            rintro r w6 ⟨rfl, b6⟩
            replace K := below_trans K b6
            go_wp2_with fail
            refine (lives6 (T.below K) (U.below K)).mono ?_
            rintro r wb ⟨rfl, bb⟩
            go_wp2
            go_ret
            exact ⟨rfl, below_trans K bb⟩
      · have mc : ¬ (1 : Int) < (N : Int) := by omega
        clear low
        go_wp2_with fail
        refine (beaten6_h (N := N) sz (by omega) nn P0 P1 cpos ctop sp fin XS.out (Or.inl ⟨rfl, FW.out.f2⟩)).mono ?_
        rintro r w5 ⟨rfl, b5⟩
        replace CA := CA.below b5
        replace K := below_trans K b5
        clear c0 c1 c2 b5
        have c0 := CA.c0
        have c1 := CA.c1
        have c2 := CA.c2
        go_wp2_with fail
        refine (beaten6_h (N := N) sz (by omega) nn P0 P1 cpos ctop sp fin XS.out (Or.inr ⟨rfl, FW.out.f3⟩)).mono ?_
        rintro r w6 ⟨rfl, b6⟩
        replace K := below_trans K b6
        go_wp2_with fail
        refine (lives6 (T.below K) (U.below K)).mono ?_
        rintro r wb ⟨rfl, bb⟩
        go_wp2
        go_ret
        exact ⟨rfl, below_trans K bb⟩
  · obtain ⟨e1, rfl⟩ := HD.out.1 (by omega)
    injection e1 with e1
    simp at e1
    obtain ⟨rfl, rfl, rfl⟩ := e1
    go_wp2_with fail
    refine (lives6 (T.below K) (U.below K)).mono ?_
    rintro r wb ⟨rfl, bb⟩
    go_wp2
    go_ret
    exact ⟨rfl, below_trans K bb⟩

set_option maxRecDepth 100000 in
set_option maxHeartbeats 8000000 in
theorem fewest_s {w : World} (T : Lays w) (U : Brn w) (x n : Int) (x0 : 0 ≤ x) (x1 : x < 18446744073709551616) (n0 : 0 ≤ n) (n1 : n < 256) (hr : n % 3 = 1) :
    Calls Tryz.prog 6 #[.int .u64 x, .int .u8 n] w fun e w' => e = .returned (.bool true) ∧ Below w.heap.size w w' := by
  go_enter Tryz.func6, Tryz.ntmps6
  go_wp2_with fail
  refine (lwidth_s w n n0 n1 hr).mono ?_
  rintro r w' ⟨rfl, rfl⟩
  go_wp2_with fail
  refine (lcut_s w' x x0 x1).mono ?_
  rintro r w ⟨rfl, rfl⟩
  obtain ⟨xx, hxx⟩ : ∃ a, x % 4294967296 = a := ⟨_, rfl⟩
  have y0 : 0 ≤ xx := by omega
  have y1 : xx < 4294967296 := by omega
  rw [hxx]
  clear hxx hr
  obtain ⟨s, hs⟩ : ∃ a, xx % 2147483648 = a := ⟨_, rfl⟩
  have s0 : 0 ≤ s := by omega
  obtain ⟨ng, hng'⟩ : ∃ b, decide (2147483648 ≤ xx) = b := ⟨_, rfl⟩
  have hng := hide hng'
  have XS := hide (show xx = s + b2i ng * 2147483648 by
    rw [← hng']
    by_cases c : 2147483648 ≤ xx
    · rw [decide_eq_true c]; simp [b2i]; omega
    · rw [decide_eq_false c]; simp [b2i]; omega)
  clear hng'
  go_wp2_with fail
  refine (ldigits_s T U xx s ng (by omega) (by omega) hs hng.out.symm).mono ?_
  rintro r w1 ⟨a, ta, qa, ok, rfl, dg, K1⟩
  have CA := cell3_new w1 (.bool a) (.string ta) (.int .i64 qa) 24
  have K := below_trans K1 (bel_new w1 (.cells #[.bool a, .string ta, .int .i64 qa] 24))
  have HD := hide dg
  clear dg K1 hs
  go_upto_region 4 with fail
  generalize w1.alloc (.cells #[.bool a, .string ta, .int .i64 qa] 24) = w2 at *
  have c0 := CA.c0
  have c1 := CA.c1
  have c2 := CA.c2
  by_cases fin : s < 2139095040
  · by_cases z : s = 0
    · obtain ⟨e1, rfl⟩ := HD.out.2.1 z
      injection e1 with e1
      simp at e1
      obtain ⟨rfl, rfl, rfl⟩ := e1
      rw [show strOfNums [] = ⟨#[]⟩ from rfl] at CA c1 HD
      go_wp2_with fail
      refine (lives6 (T.below K) (U.below K)).mono ?_
      rintro r wb ⟨rfl, bb⟩
      go_wp2
      go_ret
      exact ⟨rfl, below_trans K bb⟩
    · have sp : 0 < s := by omega
      obtain ⟨rfl, p, k, c, sh, k17, e1⟩ := HD.out.2.2 sp fin
      injection e1 with e1
      simp at e1
      have et := est_top (F := 8388608) (L := -149) (s := s) (n := 255) (by decide) (by decide) (by omega) (by omega)
      have pl := point_low (F := 8388608) (L := -149) (by decide) sp (by decide) sh.hi
      have ph := point_high (F := 8388608) (L := -149) fr_s (by omega) (by decide) (by omega) sh.lo
      have pp : -340 < pt k c p ∧ pt k c p < 340 := by unfold pt; split <;> omega
      have td := td_txt (M := 8) fr_s sp (by decide) (by decide) (by omega) (by decide) (by decide) sh k17
      obtain ⟨ds', hs1, hs2, hs3, fw⟩ := fw_of (F := 8388608) (L := -149) (by decide) sp (by decide) sh k17
      rw [← hs3] at fw
      have low := few_low (F := 8388608) (L := -149) (by decide) sp (by decide) sh k17
      clear hs1 hs2 hs3
      rw [← e1.2.1, ← e1.2.2] at td
      rw [← e1.2.2] at fw pp
      generalize txt k c = ds at *
      generalize k = N at *
      have ea := e1.1
      subst ea
      clear e1 sh pl ph et k17
      have TD := hide td
      have FW := hide fw
      have sz : ta.size = N := by rw [td.t, strOfNums_size, td.len]
      have nn := td.n2
      have nz := td.n0
      obtain ⟨P0, P1⟩ := pp
      have cb := hide (bv_range td.dg)
      have cpos := td.pos
      have ctop : bv ds < 100000000000000000 := few_top td
      clear td fw
      have ne2 : (ta.toList == []) = false := few_ne (by omega)
      have q17 : ¬ (17 : Int) < (N : Int) := by omega
      have r1 : ¬ qa < -400 := by omega
      have r2 : ¬ 400 < qa := by omega
      obtain ⟨cc, hcc⟩ : ∃ c, bv ds = c := ⟨_, rfl⟩
      rw [hcc] at cpos ctop low
      go_wp2_with fail
      refine (plain6 TD.out.dg TD.out.t TD.out.len TD.out.n0 TD.out.n2 TD.out.first TD.out.last).mono ?_
      rintro r w3 ⟨rfl, hw⟩
      replace hw := hw.symm
      subst hw
      go_wp2_with fail
      refine (number6 TD.out.dg TD.out.t TD.out.len (by omega)).mono ?_
      rintro r w3 ⟨rfl, hw⟩
      replace hw := hw.symm
      subst hw
      rw [hcc]
      rw [hcc] at FW
      clear hcc cb
      have w1' : IntKind.u64.wrap (cc + 1) = cc + 1 := by rw [IntKind.wrap_u64]; omega
      have w2' : IntKind.u64.wrap (cc - 1) = cc - 1 := by rw [IntKind.wrap_u64]; omega
      by_cases many : 1 < N
      · have mc : (1 : Int) < (N : Int) := by omega
        have lo := low many
        clear low
        obtain ⟨q, hq⟩ : ∃ q, qa - (N : Int) + 1 = q := ⟨_, rfl⟩
        have u1 : IntKind.i64.wrap (qa - (N : Int)) = qa - (N : Int) := by rw [IntKind.wrap_i64]; omega
        have u2 : IntKind.i64.wrap (qa - (N : Int) + 1) = q := by rw [hq, IntKind.wrap_i64]; omega
        have qb : -360 ≤ q ∧ q ≤ 350 := by omega
        have f1 := FW.out.f1 many
        rw [hq] at f1
        have F1 := hide f1
        clear f1 hq
        have td10 : cc.tdiv 10 = cc / 10 := Int.tdiv_eq_ediv_of_nonneg (by omega)
        obtain ⟨e, he⟩ : ∃ e, cc / 10 = e := ⟨_, rfl⟩
        have e0 : 0 < e := by omega
        have etop : e < 10000000000000000 := by omega
        rw [he] at td10 F1
        clear he
        go_wp2
        go_loopg [10] 2 (fun c i wr => ∃ k : Nat, k ≤ 2 ∧ c = 2 - k ∧ i = .int .u64 k ∧ Below w2.heap.size w2 wr)
        case atStart => exact ⟨0, by omega, rfl, rfl, Below.refl _ _⟩
        case round =>
          obtain ⟨k, hk, hgk, rfl, hbw⟩ := hrel
          replace CA := CA.below hbw
          replace K := below_trans K hbw
          clear c0 c1 c2
          have c0 := CA.c0
          have c1 := CA.c1
          have c2 := CA.c2
          by_cases hkl : k < 2
          · have q4 : (k : Int) < 2 := by omega
            have u3 : IntKind.u64.wrap (e + (k : Int)) = e + (k : Int) := by rw [IntKind.wrap_u64]; omega
            have u4 : IntKind.u64.wrap ((k : Int) + 1) = (k : Int) + 1 := by rw [IntKind.wrap_u64]; omega
            obtain ⟨kk, k1, k18, kd0, kd1⟩ := some_digits (n := e + (k : Int)) (by omega) 18 (lt18 (by omega))
            have Hk := hide (And.intro kd0 kd1)
            clear kd0 kd1
            have nin := hide (F1.out (k : Int) (by omega))
            go_wp2_with fail
            refine (decimal6 (K := kk) (q := q) k1 k18 Hk.out.1 Hk.out.2 (by omega) (by omega) (by omega)).mono ?_
            rintro r w3 ⟨rfl, b3⟩
            go_wp2_with fail
            refine (nst_dl_s k1 k18 Hk.out.1 Hk.out.2 (by omega) (by omega) sp fin XS.out).mono ?_
            rintro r w4 ⟨y, rfl, hy, b4⟩
            have yq : (y == xx) = false := by
              have : ¬ y = xx := fun h => nin.out (hy.1 h)
              simp [this]
            clear hy
            go_wp2
            go_roundg (2 - (k + 1))
            case measure => omega
            case rel => exact ⟨k + 1, by omega, rfl, by simp, below_trans hbw (below_trans b3 b4)⟩
          · have hke : k = 2 := by omega
            subst hke
            clear hgk hk hkl
            go_wp2_with fail
            refine (beaten6_s (N := N) sz (by omega) nn P0 P1 cpos ctop sp fin XS.out (Or.inl ⟨rfl, FW.out.f2⟩)).mono ?_
            rintro r w5 ⟨rfl, b5⟩
            replace CA := CA.below b5
            replace K := below_trans K b5
            clear c0 c1 c2 b5
            have c0 := CA.c0
            have c1 := CA.c1
            have c2 := CA.c2
            go_wp2_with fail
            refine (beaten6_s (N := N) sz (by omega) nn P0 P1 cpos ctop sp fin XS.out (Or.inr ⟨rfl, FW.out.f3⟩)).mono ?_
            rintro r w6 ⟨rfl, b6⟩
            replace K := below_trans K b6
            go_wp2_with fail
            refine (lives6 (T.below K) (U.below K)).mono ?_
            rintro r wb ⟨rfl, bb⟩
            go_wp2
            go_ret
            exact ⟨rfl, below_trans K bb⟩
      · have mc : ¬ (1 : Int) < (N : Int) := by omega
        clear low
        go_wp2_with fail
        refine (beaten6_s (N := N) sz (by omega) nn P0 P1 cpos ctop sp fin XS.out (Or.inl ⟨rfl, FW.out.f2⟩)).mono ?_
        rintro r w5 ⟨rfl, b5⟩
        replace CA := CA.below b5
        replace K := below_trans K b5
        clear c0 c1 c2 b5
        have c0 := CA.c0
        have c1 := CA.c1
        have c2 := CA.c2
        go_wp2_with fail
        refine (beaten6_s (N := N) sz (by omega) nn P0 P1 cpos ctop sp fin XS.out (Or.inr ⟨rfl, FW.out.f3⟩)).mono ?_
        rintro r w6 ⟨rfl, b6⟩
        replace K := below_trans K b6
        go_wp2_with fail
        refine (lives6 (T.below K) (U.below K)).mono ?_
        rintro r wb ⟨rfl, bb⟩
        go_wp2
        go_ret
        exact ⟨rfl, below_trans K bb⟩
  · obtain ⟨e1, rfl⟩ := HD.out.1 (by omega)
    injection e1 with e1
    simp at e1
    obtain ⟨rfl, rfl, rfl⟩ := e1
    go_wp2_with fail
    refine (lives6 (T.below K) (U.below K)).mono ?_
    rintro r wb ⟨rfl, bb⟩
    go_wp2
    go_ret
    exact ⟨rfl, below_trans K bb⟩

set_option maxRecDepth 100000 in
set_option maxHeartbeats 8000000 in
theorem fewest_d {w : World} (T : Lays w) (U : Brn w) (x n : Int) (x0 : 0 ≤ x) (x1 : x < 18446744073709551616) (n0 : 0 ≤ n) (n1 : n < 256) (hr : n % 3 = 2) :
    Calls Tryz.prog 6 #[.int .u64 x, .int .u8 n] w fun e w' => e = .returned (.bool true) ∧ Below w.heap.size w w' := by
  go_enter Tryz.func6, Tryz.ntmps6
  go_wp2_with fail
  refine (lwidth_d w n n0 n1 hr).mono ?_
  rintro r w' ⟨rfl, rfl⟩
  go_wp2_with fail
  refine (lcut_d w' x x0 x1).mono ?_
  rintro r w ⟨rfl, rfl⟩
  obtain ⟨xx, hxx⟩ : ∃ a, x % 18446744073709551616 = a := ⟨_, rfl⟩
  have y0 : 0 ≤ xx := by omega
  have y1 : xx < 18446744073709551616 := by omega
  rw [hxx]
  clear hxx hr
  obtain ⟨s, hs⟩ : ∃ a, xx % 9223372036854775808 = a := ⟨_, rfl⟩
  have s0 : 0 ≤ s := by omega
  obtain ⟨ng, hng'⟩ : ∃ b, decide (9223372036854775808 ≤ xx) = b := ⟨_, rfl⟩
  have hng := hide hng'
  have XS := hide (show xx = s + b2i ng * 9223372036854775808 by
    rw [← hng']
    by_cases c : 9223372036854775808 ≤ xx
    · rw [decide_eq_true c]; simp [b2i]; omega
    · rw [decide_eq_false c]; simp [b2i]; omega)
  clear hng'
  go_wp2_with fail
  refine (ldigits_d T U xx s ng (by omega) (by omega) hs hng.out.symm).mono ?_
  rintro r w1 ⟨a, ta, qa, ok, rfl, dg, K1⟩
  have CA := cell3_new w1 (.bool a) (.string ta) (.int .i64 qa) 24
  have K := below_trans K1 (bel_new w1 (.cells #[.bool a, .string ta, .int .i64 qa] 24))
  have HD := hide dg
  clear dg K1 hs
  go_upto_region 4 with fail
  generalize w1.alloc (.cells #[.bool a, .string ta, .int .i64 qa] 24) = w2 at *
  have c0 := CA.c0
  have c1 := CA.c1
  have c2 := CA.c2
  by_cases fin : s < 9218868437227405312
  · by_cases z : s = 0
    · obtain ⟨e1, rfl⟩ := HD.out.2.1 z
      injection e1 with e1
      simp at e1
      obtain ⟨rfl, rfl, rfl⟩ := e1
      rw [show strOfNums [] = ⟨#[]⟩ from rfl] at CA c1 HD
      go_wp2_with fail
      refine (lives6 (T.below K) (U.below K)).mono ?_
      rintro r wb ⟨rfl, bb⟩
      go_wp2
      go_ret
      exact ⟨rfl, below_trans K bb⟩
    · have sp : 0 < s := by omega
      obtain ⟨rfl, p, k, c, sh, k17, e1⟩ := HD.out.2.2 sp fin
      injection e1 with e1
      simp at e1
      have et := est_top (F := 4503599627370496) (L := -1074) (s := s) (n := 2047) (by decide) (by decide) (by omega) (by omega)
      have pl := point_low (F := 4503599627370496) (L := -1074) (by decide) sp (by decide) sh.hi
      have ph := point_high (F := 4503599627370496) (L := -1074) fr_d (by omega) (by decide) (by omega) sh.lo
      have pp : -340 < pt k c p ∧ pt k c p < 340 := by unfold pt; split <;> omega
      have td := td_txt (M := 16) fr_d sp (by decide) (by decide) (by omega) (by decide) (by decide) sh k17
      obtain ⟨ds', hs1, hs2, hs3, fw⟩ := fw_of (F := 4503599627370496) (L := -1074) (by decide) sp (by decide) sh k17
      rw [← hs3] at fw
      have low := few_low (F := 4503599627370496) (L := -1074) (by decide) sp (by decide) sh k17
      clear hs1 hs2 hs3
      rw [← e1.2.1, ← e1.2.2] at td
      rw [← e1.2.2] at fw pp
      generalize txt k c = ds at *
      generalize k = N at *
      have ea := e1.1
      subst ea
      clear e1 sh pl ph et k17
      have TD := hide td
      have FW := hide fw
      have sz : ta.size = N := by rw [td.t, strOfNums_size, td.len]
      have nn := td.n2
      have nz := td.n0
      obtain ⟨P0, P1⟩ := pp
      have cb := hide (bv_range td.dg)
      have cpos := td.pos
      have ctop : bv ds < 100000000000000000 := few_top td
      clear td fw
      have ne2 : (ta.toList == []) = false := few_ne (by omega)
      have q17 : ¬ (17 : Int) < (N : Int) := by omega
      have r1 : ¬ qa < -400 := by omega
      have r2 : ¬ 400 < qa := by omega
      obtain ⟨cc, hcc⟩ : ∃ c, bv ds = c := ⟨_, rfl⟩
      rw [hcc] at cpos ctop low
      go_wp2_with fail
      refine (plain6 TD.out.dg TD.out.t TD.out.len TD.out.n0 TD.out.n2 TD.out.first TD.out.last).mono ?_
      rintro r w3 ⟨rfl, hw⟩
      replace hw := hw.symm
      subst hw
      go_wp2_with fail
      refine (number6 TD.out.dg TD.out.t TD.out.len (by omega)).mono ?_
      rintro r w3 ⟨rfl, hw⟩
      replace hw := hw.symm
      subst hw
      rw [hcc]
      rw [hcc] at FW
      clear hcc cb
      have w1' : IntKind.u64.wrap (cc + 1) = cc + 1 := by rw [IntKind.wrap_u64]; omega
      have w2' : IntKind.u64.wrap (cc - 1) = cc - 1 := by rw [IntKind.wrap_u64]; omega
      by_cases many : 1 < N
      · have mc : (1 : Int) < (N : Int) := by omega
        have lo := low many
        clear low
        obtain ⟨q, hq⟩ : ∃ q, qa - (N : Int) + 1 = q := ⟨_, rfl⟩
        have u1 : IntKind.i64.wrap (qa - (N : Int)) = qa - (N : Int) := by rw [IntKind.wrap_i64]; omega
        have u2 : IntKind.i64.wrap (qa - (N : Int) + 1) = q := by rw [hq, IntKind.wrap_i64]; omega
        have qb : -360 ≤ q ∧ q ≤ 350 := by omega
        have f1 := FW.out.f1 many
        rw [hq] at f1
        have F1 := hide f1
        clear f1 hq
        have td10 : cc.tdiv 10 = cc / 10 := Int.tdiv_eq_ediv_of_nonneg (by omega)
        obtain ⟨e, he⟩ : ∃ e, cc / 10 = e := ⟨_, rfl⟩
        have e0 : 0 < e := by omega
        have etop : e < 10000000000000000 := by omega
        rw [he] at td10 F1
        clear he
        go_wp2
        go_loopg [10] 2 (fun c i wr => ∃ k : Nat, k ≤ 2 ∧ c = 2 - k ∧ i = .int .u64 k ∧ Below w2.heap.size w2 wr)
        case atStart => exact ⟨0, by omega, rfl, rfl, Below.refl _ _⟩
        case round =>
          obtain ⟨k, hk, hgk, rfl, hbw⟩ := hrel
          replace CA := CA.below hbw
          replace K := below_trans K hbw
          clear c0 c1 c2
          have c0 := CA.c0
          have c1 := CA.c1
          have c2 := CA.c2
          by_cases hkl : k < 2
          · have q4 : (k : Int) < 2 := by omega
            have u3 : IntKind.u64.wrap (e + (k : Int)) = e + (k : Int) := by rw [IntKind.wrap_u64]; omega
            have u4 : IntKind.u64.wrap ((k : Int) + 1) = (k : Int) + 1 := by rw [IntKind.wrap_u64]; omega
            obtain ⟨kk, k1, k18, kd0, kd1⟩ := some_digits (n := e + (k : Int)) (by omega) 18 (lt18 (by omega))
            have Hk := hide (And.intro kd0 kd1)
            clear kd0 kd1
            have nin := hide (F1.out (k : Int) (by omega))
            go_wp2_with fail
            refine (decimal6 (K := kk) (q := q) k1 k18 Hk.out.1 Hk.out.2 (by omega) (by omega) (by omega)).mono ?_
            rintro r w3 ⟨rfl, b3⟩
            go_wp2_with fail
            refine (nst_dl_d k1 k18 Hk.out.1 Hk.out.2 (by omega) (by omega) sp fin XS.out).mono ?_
            rintro r w4 ⟨y, rfl, hy, b4⟩
            have yq : (y == xx) = false := by
              have : ¬ y = xx := fun h => nin.out (hy.1 h)
              simp [this]
            clear hy
            go_wp2
            go_roundg (2 - (k + 1))
            case measure => omega
            case rel => exact ⟨k + 1, by omega, rfl, by simp, below_trans hbw (below_trans b3 b4)⟩
          · have hke : k = 2 := by omega
            subst hke
            clear hgk hk hkl
            go_wp2_with fail
            refine (beaten6_d (N := N) sz (by omega) nn P0 P1 cpos ctop sp fin XS.out (Or.inl ⟨rfl, FW.out.f2⟩)).mono ?_
            rintro r w5 ⟨rfl, b5⟩
            replace CA := CA.below b5
            replace K := below_trans K b5
            clear c0 c1 c2 b5
            have c0 := CA.c0
            have c1 := CA.c1
            have c2 := CA.c2
            go_wp2_with fail
            refine (beaten6_d (N := N) sz (by omega) nn P0 P1 cpos ctop sp fin XS.out (Or.inr ⟨rfl, FW.out.f3⟩)).mono ?_
            rintro r w6 ⟨rfl, b6⟩
            replace K := below_trans K b6
            go_wp2_with fail
            refine (lives6 (T.below K) (U.below K)).mono ?_
            rintro r wb ⟨rfl, bb⟩
            go_wp2
            go_ret
            exact ⟨rfl, below_trans K bb⟩
      · have mc : ¬ (1 : Int) < (N : Int) := by omega
        clear low
        go_wp2_with fail
        refine (beaten6_d (N := N) sz (by omega) nn P0 P1 cpos ctop sp fin XS.out (Or.inl ⟨rfl, FW.out.f2⟩)).mono ?_
        rintro r w5 ⟨rfl, b5⟩
        replace CA := CA.below b5
        replace K := below_trans K b5
        clear c0 c1 c2 b5
        have c0 := CA.c0
        have c1 := CA.c1
        have c2 := CA.c2
        go_wp2_with fail
        refine (beaten6_d (N := N) sz (by omega) nn P0 P1 cpos ctop sp fin XS.out (Or.inr ⟨rfl, FW.out.f3⟩)).mono ?_
        rintro r w6 ⟨rfl, b6⟩
        replace K := below_trans K b6
        go_wp2_with fail
        refine (lives6 (T.below K) (U.below K)).mono ?_
        rintro r wb ⟨rfl, bb⟩
        go_wp2
        go_ret
        exact ⟨rfl, below_trans K bb⟩
  · obtain ⟨e1, rfl⟩ := HD.out.1 (by omega)
    injection e1 with e1
    simp at e1
    obtain ⟨rfl, rfl, rfl⟩ := e1
    go_wp2_with fail
    refine (lives6 (T.below K) (U.below K)).mono ?_
    rintro r wb ⟨rfl, bb⟩
    go_wp2
    go_ret
    exact ⟨rfl, below_trans K bb⟩

theorem fewest_walk {w : World} (h : Lays w ∧ Brn w) (x : Int) (x0 : 0 ≤ x) (x1 : x < 18446744073709551616) (n : Int) (n0 : 0 ≤ n) (n1 : n < 256) :
    Calls Tryz.prog 6 #[.int .u64 x, .int .u8 n] w fun e w' => e = .returned (.bool true) ∧ Below w.heap.size w w' := by
  have : n % 3 = 0 ∨ n % 3 = 1 ∨ n % 3 = 2 := by omega
  rcases this with r | r | r
  · exact fewest_h h.1 h.2 x n x0 x1 n0 n1 r
  · exact fewest_s h.1 h.2 x n x0 x1 n0 n1 r
  · exact fewest_d h.1 h.2 x n x0 x1 n0 n1 r

end Go.Proofs.YtlhjbmdkfdabmaaGreatDoor
