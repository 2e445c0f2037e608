/- Len, Raise, DivMath, QbMath, Into, Cmp, Sub, TakeOff, Raised, Small, RefA -/
import Derived.Test.YtejenbkhhcjeaaaGreatDoorR02
import Derived.Deep.RegionWith
import Derived.Test.YtejenbkhhcjeaaaGreatDoorR01
namespace Go.Proofs.YtejenbkhhcjeaaaGreatDoor
open Go.RowKit

/-- 2 to the power of n -/
def p2 : Nat → Int
  | 0 => 1
  | n + 1 => 2 * p2 n
theorem p2_pos (n : Nat) : 0 < p2 n := by
  induction n with
  | zero => decide
  | succ n ih => simp only [p2]; omega
theorem p2_add (m n : Nat) : p2 (m + n) = p2 m * p2 n := by
  induction n with
  | zero => simp [p2]
  | succ n ih => rw [← Nat.add_assoc]; simp only [p2]; rw [ih, Int.mul_left_comm]
theorem p2_mono {m n : Nat} (h : m ≤ n) : p2 m ≤ p2 n := by
  obtain ⟨k, rfl⟩ := Nat.exists_eq_add_of_le h
  rw [p2_add]
  have h1 := p2_pos k
  have h2 := p2_pos m
  have : p2 m * 1 ≤ p2 m * p2 k := Int.mul_le_mul_of_nonneg_left (by omega) (by omega)
  omega
theorem p2_32 (n : Nat) : p2 (32 * n) = Nt.pw n := by
  induction n with
  | zero => rfl
  | succ n ih => rw [Nat.mul_succ, p2_add, ih, Nt.pw_succ, show p2 32 = 4294967296 from by decide, Int.mul_comm]

/-- k binary digits -/
def IsLen (x : Int) (k : Nat) : Prop := x < p2 k ∧ (0 < k → p2 (k - 1) ≤ x)
theorem isLen_unique {x : Int} {k m : Nat} (h1 : IsLen x k) (h2 : IsLen x m) : k = m := by
  rcases Nat.lt_trichotomy k m with h | h | h
  · have a := h2.2 (by omega)
    have b := p2_mono (m := k) (n := m - 1) (by omega)
    have c := h1.1
    omega
  · exact h
  · have a := h1.2 (by omega)
    have b := p2_mono (m := m) (n := k - 1) (by omega)
    have c := h2.1
    omega

theorem isLen_shift {x : Int} {k m : Nat} {P : Int} (hP : P = p2 m) (h : IsLen (x / P) k) (hk : 0 < k) : IsLen x (k + m) := by
  subst hP
  have hm := p2_pos m
  have hd : p2 m * (x / p2 m) ≤ x := by have := Int.mul_ediv_add_emod x (p2 m); have := Int.emod_nonneg x (b := p2 m) (by omega); omega
  have hu : x < p2 m * (x / p2 m) + p2 m := by have := Int.mul_ediv_add_emod x (p2 m); have := Int.emod_lt_of_pos x (b := p2 m) (by omega); omega
  obtain ⟨h1, h2⟩ := h
  have h3 := h2 hk
  refine ⟨?_, fun _ => ?_⟩
  · rw [p2_add, Int.mul_comm]
    have : p2 m * (x / p2 m + 1) ≤ p2 m * p2 k := Int.mul_le_mul_of_nonneg_left (by omega) (by omega)
    rw [Int.mul_add] at this
    omega
  · rw [show k + m - 1 = (k - 1) + m by omega, p2_add, Int.mul_comm]
    have : p2 m * p2 (k - 1) ≤ p2 m * (x / p2 m) := Int.mul_le_mul_of_nonneg_left h3 (by omega)
    omega

/-- how many binary digits a byte has -/
def lenTab : ByteArray := ⟨#[0, 1, 2, 2, 3, 3, 3, 3, 4, 4, 4, 4, 4, 4, 4, 4, 5, 5, 5, 5, 5, 5, 5, 5, 5, 5, 5, 5, 5, 5, 5, 5, 6, 6, 6, 6, 6, 6, 6, 6, 6, 6, 6, 6, 6, 6, 6, 6, 6, 6, 6, 6, 6, 6, 6, 6, 6, 6, 6, 6, 6, 6, 6, 6, 7, 7, 7, 7, 7, 7, 7, 7, 7, 7, 7, 7, 7, 7, 7, 7, 7, 7, 7, 7, 7, 7, 7, 7, 7, 7, 7, 7, 7, 7, 7, 7, 7, 7, 7, 7, 7, 7, 7, 7, 7, 7, 7, 7, 7, 7, 7, 7, 7, 7, 7, 7, 7, 7, 7, 7, 7, 7, 7, 7, 7, 7, 7, 7, 8, 8, 8, 8, 8, 8, 8, 8, 8, 8, 8, 8, 8, 8, 8, 8, 8, 8, 8, 8, 8, 8, 8, 8, 8, 8, 8, 8, 8, 8, 8, 8, 8, 8, 8, 8, 8, 8, 8, 8, 8, 8, 8, 8, 8, 8, 8, 8, 8, 8, 8, 8, 8, 8, 8, 8, 8, 8, 8, 8, 8, 8, 8, 8, 8, 8, 8, 8, 8, 8, 8, 8, 8, 8, 8, 8, 8, 8, 8, 8, 8, 8, 8, 8, 8, 8, 8, 8, 8, 8, 8, 8, 8, 8, 8, 8, 8, 8, 8, 8, 8, 8, 8, 8, 8, 8, 8, 8, 8, 8, 8, 8, 8, 8, 8, 8, 8, 8, 8, 8, 8, 8, 8, 8, 8, 8, 8, 8]⟩
theorem lenTab_all : (List.range 256).all (fun n => decide ((n : Int) < p2 (lenTab.data.getD n 0).toNat) && (decide ((lenTab.data.getD n 0).toNat = 0) || decide (p2 ((lenTab.data.getD n 0).toNat - 1) ≤ (n : Int))) && decide ((lenTab.data.getD n 0).toNat ≤ 8)) = true := by decide +kernel
theorem lenTab_size : lenTab.size = 256 := by decide +kernel
theorem lenTab_ok (n : Nat) (h : n < 256) (h' : n < lenTab.size) : IsLen (n : Int) (lenTab[n]'h').toNat ∧ (lenTab[n]'h').toNat ≤ 8 := by
  have := List.all_eq_true.1 lenTab_all n (by simpa using h)
  have e : lenTab.data.getD n 0 = lenTab[n]'h' := by
    simp [Array.getD, ByteArray.getElem_eq_getElem_data]
    rw [dif_pos h']
  rw [e] at this
  simp only [Bool.and_eq_true, Bool.or_eq_true, decide_eq_true_eq] at this
  exact ⟨⟨this.1.1, fun hk => by rcases this.1.2 with h | h; omega; exact h⟩, this.2⟩
theorem ret_int {k : IntKind} {a b : Int} (h : a = b) : Ending.returned (.int k a) = .returned (.int k b) := by rw [h]
theorem tab_at (y : Int) (h0 : 0 ≤ y) (h1 : y < 256) (h' : y.toNat < lenTab.size) : IsLen y (lenTab[y.toNat]'h').toNat ∧ (lenTab[y.toNat]'h').toNat ≤ 8 := by
  have := lenTab_ok y.toNat (by omega) h'
  rw [Int.toNat_of_nonneg h0] at this
  exact this
theorem len_pos {y : Int} {k : Nat} (h : IsLen y k) (hy : 1 ≤ y) : 0 < k := by
  rcases Nat.eq_zero_or_pos k with h0 | h0
  · subst h0; have := h.1; simp only [p2] at this; omega
  · exact h0

set_option maxRecDepth 100000 in
set_option maxHeartbeats 1000000 in
theorem len32_any (x : Int) (w : World) (hx0 : 0 ≤ x) (hx1 : x < 4294967296) :
    Calls Tryz.prog 104 #[.int .u32 x] w fun e w' => ∃ k : Nat, e = .returned (.int .i64 k) ∧ IsLen x k ∧ k ≤ 32 ∧ w' = w := by
  by_cases h1 : x < 256
  · have a1 : ¬ 65536 ≤ x := by omega
    have a2 : ¬ 256 ≤ x := by omega
    go_enter Tryz.func104, Tryz.ntmps104
    go_wp2
    go_ret
    have hsz := lenTab_size
    have hs' : (x).toNat < lenTab.size := by omega
    obtain ⟨t1, t2⟩ := tab_at (x) (by omega) (by omega) hs'
    refine ⟨_, ?_, t1, by omega, rfl⟩
    refine ret_int ?_
    show wrap64 (wrap64 (((lenTab[x.toNat]'hs').toNat : Nat) : Int)) = _
    generalize (lenTab[x.toNat]'hs').toNat = N at t2 ⊢
    unfold wrap64; omega
  by_cases h2 : x < 65536
  · have a1 : ¬ 65536 ≤ x := by omega
    have a2 : 256 ≤ x := by omega
    go_enter Tryz.func104, Tryz.ntmps104
    go_wp2
    go_ret
    have hsz := lenTab_size
    have hs' : (x / 256).toNat < lenTab.size := by omega
    obtain ⟨t1, t2⟩ := tab_at (x / 256) (by omega) (by omega) hs'
    refine ⟨(lenTab[(x / 256).toNat]'hs').toNat + 8, ?_, isLen_shift (P := 256) (by decide) t1 (len_pos t1 (by omega)), by omega, rfl⟩
    refine ret_int ?_
    show wrap64 (8 + wrap64 (((lenTab[(x / 256).toNat]'hs').toNat : Nat) : Int)) = _
    generalize (lenTab[(x / 256).toNat]'hs').toNat = N at t2 ⊢
    unfold wrap64; omega
  by_cases h3 : x < 16777216
  · have a1 : 65536 ≤ x := by omega
    have a2 : ¬ 256 ≤ x / 65536 := by omega
    go_enter Tryz.func104, Tryz.ntmps104
    go_wp2
    go_ret
    have hsz := lenTab_size
    have hs' : (x / 65536).toNat < lenTab.size := by omega
    obtain ⟨t1, t2⟩ := tab_at (x / 65536) (by omega) (by omega) hs'
    refine ⟨(lenTab[(x / 65536).toNat]'hs').toNat + 16, ?_, isLen_shift (P := 65536) (by decide) t1 (len_pos t1 (by omega)), by omega, rfl⟩
    refine ret_int ?_
    show wrap64 (16 + wrap64 (((lenTab[(x / 65536).toNat]'hs').toNat : Nat) : Int)) = _
    generalize (lenTab[(x / 65536).toNat]'hs').toNat = N at t2 ⊢
    unfold wrap64; omega
  · have a1 : 65536 ≤ x := by omega
    have a2 : 256 ≤ x / 65536 := by omega
    go_enter Tryz.func104, Tryz.ntmps104
    go_wp2
    go_ret
    have hsz := lenTab_size
    have hs' : (x / 65536 / 256).toNat < lenTab.size := by omega
    obtain ⟨t1, t2⟩ := tab_at (x / 65536 / 256) (by omega) (by omega) hs'
    have t3 := isLen_shift (P := 256) (m := 8) (by decide) t1 (len_pos t1 (by omega))
    have t4 := isLen_shift (x := x) (P := 65536) (m := 16) (by decide) t3 (by omega)
    refine ⟨(lenTab[(x / 65536 / 256).toNat]'hs').toNat + 8 + 16, ?_, t4, by omega, rfl⟩
    refine ret_int ?_
    show wrap64 (24 + wrap64 (((lenTab[(x / 65536 / 256).toNat]'hs').toNat : Nat) : Int)) = _
    generalize (lenTab[(x / 65536 / 256).toNat]'hs').toNat = N at t2 ⊢
    unfold wrap64; omega

/-- the length of a number by its highest limb -/
theorem isLen_top {xs : List Int} {k : Nat} (hx : Nt.Canon xs) (hn : 0 < xs.length) (h : IsLen (Nt.lb xs (xs.length - 1)) k) : IsLen (Nt.val xs) ((xs.length - 1) * 32 + k) := by
  obtain ⟨n, hl⟩ : ∃ n, xs.length = n + 1 := ⟨xs.length - 1, by omega⟩
  have hne : xs ≠ [] := by intro e; subst e; simp at hn
  have h0 := hx.2 hne
  have hb := hx.1 n
  have hv := Nt.vt_bounds hx.1 n
  rw [hl, Nat.add_sub_cancel] at h h0 ⊢
  have hval : Nt.val xs = Nt.vt xs n + Nt.lb xs n * Nt.pw n := by unfold Nt.val; rw [hl, Nt.vt_succ]
  have hp := Nt.pw_pos n
  have hk := len_pos h (by omega)
  rw [hval]
  refine ⟨?_, fun _ => ?_⟩
  · rw [p2_add, Nat.mul_comm, p2_32]
    have : Nt.pw n * (Nt.lb xs n + 1) ≤ Nt.pw n * p2 k := Int.mul_le_mul_of_nonneg_left (by have := h.1; omega) (by omega)
    rw [Int.mul_add, Int.mul_comm] at this
    omega
  · rw [show n * 32 + k - 1 = n * 32 + (k - 1) by omega, p2_add, Nat.mul_comm, p2_32]
    have : Nt.pw n * p2 (k - 1) ≤ Nt.pw n * Nt.lb xs n := Int.mul_le_mul_of_nonneg_left (h.2 hk) (by omega)
    rw [Int.mul_comm _ (Nt.lb xs n)] at this
    omega

set_option maxHeartbeats 1000000 in
theorem len_any {w : World} {va : Value} {n : Int} {ka : Nat} (ha : Arg w va n ka) (hka : ka ≤ 1099511627776) :
    Calls Tryz.prog 25 #[va] w fun e w' => ∃ k : Nat, e = .returned (.int .i64 k) ∧ IsLen n k ∧ k ≤ 32 * ka ∧ w' = w := by
  go_enter Tryz.func25, Tryz.ntmps25
  go_wp2_with fail
  refine (trim_arg ha).mono ?_
  rintro e w' ⟨rfl, ao, xs, rfl, hxk, hxm, hxc, hx, rfl⟩
  clear ha
  by_cases h0 : xs.length = 0
  · have h0' : ((xs.length : Int) == 0) = true := by simp [h0]
    have hxe : xs = [] := List.eq_nil_of_length_eq_zero h0
    clear h0
    go_wp2
    go_ret
    refine ⟨0, rfl, ?_, by omega, rfl⟩
    rw [hxe, Nt.val_nil]
    exact ⟨by decide, fun h => by omega⟩
  · have h0' : ((xs.length : Int) == 0) = false := by simp; intro e; subst e; simp at h0
    obtain ⟨b, off, rfl, hb, hcell⟩ := hxc (by omega)
    have hg := hcell (xs.length - 1) (by omega)
    have hp : (1 : Int) ≤ (xs.length : Int) := by omega
    obtain ⟨bx0, bx1⟩ := hx.1 (xs.length - 1)
    clear hcell hxc
    go_wp2_with fail
    refine (len32_any _ _ bx0 bx1).mono ?_
    rintro e w1 ⟨k, rfl, hk, hk32, rfl⟩
    have hfin := isLen_top hx (by omega) hk
    have Hf := hide hfin
    have Hk := hide hk
    clear hfin hk
    go_wp2
    go_ret
    refine ⟨(xs.length - 1) * 32 + k, ret_int ?_, Hf.out, by omega, rfl⟩
    omega

end Go.Proofs.YtejenbkhhcjeaaaGreatDoor

namespace Go.Proofs.YtejenbkhhcjeaaaGreatDoor
open Go.RowKit

theorem p2_pow (n : Nat) : p2 n = (2 : Int) ^ n := by
  induction n with
  | zero => rfl
  | succ n ih => simp only [p2]; rw [ih, Int.pow_succ, Int.mul_comm]
theorem p2_cast (n : Nat) : p2 n = ((2 ^ n : Nat) : Int) := by rw [p2_pow]; simp
theorem p2_split {n : Nat} (hn : n ≤ 32) : p2 n * p2 (32 - n) = 4294967296 := by
  rw [← p2_add, show n + (32 - n) = 32 by omega]; decide

/-- the product of a limb with a power: what stays, what goes on -/
theorem shl_parts {x : Int} {P Q : Int} (hP : 0 < P) (hQ : 0 < Q) (hPQ : P * Q = 4294967296) : x * P % 4294967296 = (x % Q) * P ∧ x * P / 4294967296 = x / Q := by
  have h1 : x * P = (x % Q) * P + 4294967296 * (x / Q) := by
    have e := Int.emod_add_mul_ediv x Q
    have e2 : (x % Q + Q * (x / Q)) * P = x * P := by rw [e]
    rw [Int.add_mul] at e2
    rw [← hPQ, ← e2, Int.mul_comm P Q, Int.mul_assoc, Int.mul_assoc, Int.mul_comm P]
  have h2 : 0 ≤ (x % Q) * P := Int.mul_nonneg (Int.emod_nonneg _ (by omega)) (by omega)
  have h3 : (x % Q) * P < 4294967296 := by
    have : (x % Q + 1) * P ≤ Q * P := Int.mul_le_mul_of_nonneg_right (by have := Int.emod_lt_of_pos x hQ; omega) (by omega)
    rw [Int.add_mul, Int.mul_comm Q P, hPQ] at this
    omega
  have := (Int.ediv_emod_unique (a := x * P) (b := 4294967296) (r := (x % Q) * P) (q := x / Q) (by decide)).2 ⟨h1.symm, h2, h3⟩
  exact ⟨this.2, this.1⟩

/-- bits that do not meet are added -/
theorem or_add {n : Nat} {a c : Int} (ha : 0 ≤ a) (hc0 : 0 ≤ c) (hc1 : c < p2 n) (hlt : a * p2 n + c < 4294967296) : bits .or .u32 (a * p2 n) c = a * p2 n + c ∧ bits .or .u32 c (a * p2 n) = a * p2 n + c := by
  obtain ⟨A, rfl⟩ := Int.eq_ofNat_of_zero_le ha
  obtain ⟨C, rfl⟩ := Int.eq_ofNat_of_zero_le hc0
  rw [p2_cast] at *
  have e : ((A : Int) * ((2 ^ n : Nat) : Int)) = ((A * 2 ^ n : Nat) : Int) := by simp
  rw [e] at hlt ⊢
  have hA : 0 ≤ A * 2 ^ n := Nat.zero_le _
  have hj := nat_join n (A * 2 ^ n) C (Nat.mul_mod_left _ _) (by omega)
  rw [u32_or_nat _ _ (by omega) (by omega), u32_or_nat _ _ (by omega) (by omega), Nat.or_comm C, hj]
  omega

theorem raise_digit {x c : Int} {n : Nat} (hn : n < 32) (hx0 : 0 ≤ x) (hx1 : x < 4294967296) (hc0 : 0 ≤ c) (hc1 : c < p2 n) :
    (0 ≤ bits .or .u32 (x * 2 ^ n % 4294967296) c ∧ bits .or .u32 (x * 2 ^ n % 4294967296) c < 4294967296) ∧ (0 ≤ x / 2 ^ (32 - n) ∧ x / 2 ^ (32 - n) < p2 n) ∧
      bits .or .u32 (x * 2 ^ n % 4294967296) c + (x / 2 ^ (32 - n)) * 4294967296 = x * p2 n + c := by
  rw [← p2_pow, ← p2_pow]
  have hP := p2_pos n
  have hQ := p2_pos (32 - n)
  have hPQ := p2_split (n := n) (by omega)
  obtain ⟨h1, h2⟩ := shl_parts (x := x) hP hQ hPQ
  rw [h1]
  have hr0 := Int.emod_nonneg x (b := p2 (32 - n)) (by omega)
  have hr1 := Int.emod_lt_of_pos x hQ
  have hlt : x % p2 (32 - n) * p2 n + c < 4294967296 := by
    have : (x % p2 (32 - n) + 1) * p2 n ≤ p2 (32 - n) * p2 n := Int.mul_le_mul_of_nonneg_right (by omega) (by omega)
    rw [Int.add_mul, Int.mul_comm (p2 (32 - n)) (p2 n), hPQ] at this
    omega
  have hnn : 0 ≤ x % p2 (32 - n) * p2 n := Int.mul_nonneg hr0 (by omega)
  rw [(or_add hr0 hc0 hc1 hlt).1]
  refine ⟨⟨by omega, hlt⟩, ⟨Int.ediv_nonneg hx0 (by omega), Int.ediv_lt_of_lt_mul hQ (by rw [hPQ]; exact hx1)⟩, ?_⟩
  have e := Int.emod_add_mul_ediv (x * p2 n) 4294967296
  rw [h1, h2] at e
  omega

theorem raise_step {os zs : List Int} {off k : Nat} {q D q' P : Int} (hk : off + k < zs.length) (hd : D + q' * 4294967296 = Nt.lb os (off + k) * P + q)
    (h : Nt.vt zs (off + k) + q * Nt.pw (off + k) = Nt.vt os off + P * (Nt.vt os (off + k) - Nt.vt os off)) :
    Nt.vt (zs.set (off + k) D) (off + (k + 1)) + q' * Nt.pw (off + (k + 1)) = Nt.vt os off + P * (Nt.vt os (off + (k + 1)) - Nt.vt os off) := by
  rw [← Nat.add_assoc, Nt.vt_succ, Nt.vt_set (Nat.le_refl _), Nt.lb_set_eq hk, Nt.vt_succ, Nt.pw_succ]
  have e2 : (D + q' * 4294967296) * Nt.pw (off + k) = (Nt.lb os (off + k) * P + q) * Nt.pw (off + k) := by rw [hd]
  rw [Int.add_mul, Int.add_mul, Int.mul_assoc q'] at e2
  rw [Int.mul_sub] at h
  rw [Int.mul_sub, Int.mul_add]
  rw [← Int.mul_assoc P, Int.mul_comm P (Nt.lb os (off + k))]
  omega

/-- a limb cut, with what came from above -/
theorem lower_digit {x r : Int} {n : Nat} (hn : n < 32) (hx0 : 0 ≤ x) (hx1 : x < 4294967296) (hr0 : 0 ≤ r) (hr1 : r < p2 n) :
    (0 ≤ bits .or .u32 (x / 2 ^ n) (r * p2 (32 - n)) ∧ bits .or .u32 (x / 2 ^ n) (r * p2 (32 - n)) < 4294967296) ∧ bits .or .u32 (x / 2 ^ n) (r * p2 (32 - n)) = x / p2 n + r * p2 (32 - n) ∧ x * 2 ^ (32 - n) % 4294967296 = (x % p2 n) * p2 (32 - n) := by
  rw [← p2_pow, ← p2_pow]
  have hP := p2_pos n
  have hQ := p2_pos (32 - n)
  have hPQ := p2_split (n := n) (by omega)
  obtain ⟨h1, _⟩ := shl_parts (x := x) hQ hP (by rw [Int.mul_comm]; exact hPQ)
  have q0 : 0 ≤ x / p2 n := Int.ediv_nonneg hx0 (by omega)
  have q1 : x / p2 n < p2 (32 - n) := Int.ediv_lt_of_lt_mul hP (by rw [Int.mul_comm, hPQ]; exact hx1)
  have hlt : r * p2 (32 - n) + x / p2 n < 4294967296 := by
    have : (r + 1) * p2 (32 - n) ≤ p2 n * p2 (32 - n) := Int.mul_le_mul_of_nonneg_right (by omega) (by omega)
    rw [Int.add_mul, hPQ] at this
    omega
  have hnn : 0 ≤ r * p2 (32 - n) := Int.mul_nonneg hr0 (by omega)
  have ho := (or_add (n := 32 - n) hr0 q0 q1 hlt).2
  rw [ho]
  exact ⟨⟨by omega, hlt⟩, by omega, h1⟩

theorem vt_set_gen {zs : List Int} {i : Nat} (hi : i < zs.length) (q : Int) (n : Nat) (hn : i < n) : Nt.vt (zs.set i q) n = Nt.vt zs n + (q - Nt.lb zs i) * Nt.pw i := by
  induction n with
  | zero => omega
  | succ n ih =>
    rw [Nt.vt_succ, Nt.vt_succ]
    by_cases e : i = n
    · subst e; rw [Nt.vt_set (Nat.le_refl _), Nt.lb_set_eq hi, Int.sub_mul]; omega
    · rw [Nt.lb_set_ne e, ih (by omega)]; omega

theorem lower_step {os zs : List Int} {p : Nat} {D r r' P Q : Int} (hp : p < zs.length) (hPQ : P * Q = 4294967296) (hD : D = Nt.lb os p / P + r * Q) (hr' : r' = Nt.lb os p % P)
    (h : (Nt.val zs - Nt.vt zs (p + 1)) * P + r * Nt.pw (p + 1) = Nt.val os - Nt.vt os (p + 1)) :
    (Nt.val (zs.set p D) - Nt.vt (zs.set p D) p) * P + r' * Nt.pw p = Nt.val os - Nt.vt os p := by
  have e0 : Nt.val (zs.set p D) = Nt.val zs + (D - Nt.lb zs p) * Nt.pw p := by
    unfold Nt.val; rw [List.length_set]; exact vt_set_gen hp D _ hp
  rw [e0, Nt.vt_set (Nat.le_refl _)]
  rw [Nt.vt_succ, Nt.vt_succ, Nt.pw_succ] at h
  have e := Int.emod_add_mul_ediv (Nt.lb os p) P
  rw [← hr'] at e
  have e1 : D * P + r' = Nt.lb os p + r * 4294967296 := by
    rw [hD, Int.add_mul, Int.mul_assoc, Int.mul_comm Q P, hPQ, Int.mul_comm (_ / _) P]; omega
  have e2 : (D * P + r') * Nt.pw p = (Nt.lb os p + r * 4294967296) * Nt.pw p := by rw [e1]
  rw [Int.add_mul, Int.add_mul, Int.mul_assoc r] at e2
  have e3 : (Nt.val zs + (D - Nt.lb zs p) * Nt.pw p - Nt.vt zs p) * P = (Nt.val zs - (Nt.vt zs p + Nt.lb zs p * Nt.pw p)) * P + D * P * Nt.pw p := by
    rw [Int.sub_mul D, Int.mul_right_comm D, ← Int.add_mul]
    congr 1
    omega
  rw [e3]
  omega

set_option maxHeartbeats 1000000 in
theorem lower_any {w0 w : World} {g n cap : Nat} {os : List Int} (hb : Below w0.heap.size w0 w) (hg : w0.heap.size ≤ g) (hn : n < 32) (hL : os.length ≤ 1099511627776)
    (hr : Row .u32 41 w g os) (hoo : Nt.Ok os) :
    Calls Tryz.prog 186 #[.slice (some ⟨g, 0, none⟩) os.length cap, .int .u64 n] w fun e w' => ∃ (r : Int) (zs : List Int), e = .returned (.int .u32 (r * p2 (32 - n))) ∧ 0 ≤ r ∧ r < p2 n ∧ zs.length = os.length ∧ Nt.Ok zs ∧
      Nt.val zs * p2 n + r = Nt.val os ∧ Row .u32 41 w' g zs ∧ Below w0.heap.size w0 w' := by
  go_enter Tryz.func186, Tryz.ntmps186
  go_wp2
  go_loopw [5, 11] (fun c i wr => ∃ (k : Nat) (r : Int) (zs : List Int), k ≤ os.length ∧ i = .int .i64 k ∧ c = .int .u32 (r * p2 (32 - n)) ∧ 0 ≤ r ∧ r < p2 n ∧ zs.length = os.length ∧ Nt.Ok zs ∧ (∀ j, j < os.length - k → Nt.lb zs j = Nt.lb os j) ∧
      Row .u32 41 wr g zs ∧ Below w0.heap.size w0 wr ∧ (Nt.val zs - Nt.vt zs (os.length - k)) * p2 n + r * Nt.pw (os.length - k) = Nt.val os - Nt.vt os (os.length - k)) (fun _ i _ => os.length - (intOf i).toNat)
  case atStart => exact ⟨0, 0, os, by omega, rfl, by simp, by omega, p2_pos n, rfl, hoo, fun _ _ => rfl, hr, hb, by simp [Nt.val]⟩
  case round =>
    obtain ⟨k, r, zs, hk, rfl, rfl, hr0, hr1, hzl, hzo, hsame, hrow, hbr, heq⟩ := hrel
    have Heq := hide heq
    have Hzl := hide hzl
    have Hs := hide hsame
    have Hr0 := hide hr0
    have Hr1 := hide hr1
    clear heq hzl hsame hr hb hr0 hr1
    by_cases hkl : k < os.length
    · have g2 := hrow.cell (i := os.length - 1 - k) (by have := Hzl.out; omega)
      have hfz := hrow.frozen (os.length - 1 - k)
      obtain ⟨bz0, bz1⟩ := hzo (os.length - 1 - k)
      have hn32 : (n : Int) < 32 := by omega
      obtain ⟨⟨d0, d1⟩, hd, hc⟩ := lower_digit hn bz0 bz1 Hr0.out Hr1.out
      have Hd0 := hide d0
      have Hd1 := hide d1
      have Hd := hide hd
      have Hc := hide hc
      have hzp := hide (Hs.out (os.length - 1 - k) (by omega))
      clear d0 d1 hd hc
      go_wp2
      go_roundw
      case rel =>
        refine ⟨k + 1, Nt.lb zs (os.length - 1 - k) % p2 n, zs.set (os.length - 1 - k) (bits BinOp.or IntKind.u32 (Nt.lb zs (os.length - 1 - k) / 2 ^ n) (r * p2 (32 - n))), by omega, by go_num, by rw [Hc.out], Int.emod_nonneg _ (by have := p2_pos n; omega), Int.emod_lt_of_pos _ (p2_pos n), by have := Hzl.out; simp [this], Nt.ok_set hzo ⟨Hd0.out, Hd1.out⟩, fun j hj => by
          rw [Nt.lb_set_ne (by omega)]; exact Hs.out j (by omega), hrow.set _ _, hbr.setCell (p := ⟨g, os.length - 1 - k, none⟩) hg _, ?_⟩
        rw [show os.length - (k + 1) = os.length - 1 - k by omega]
        exact lower_step (Q := p2 (32 - n)) (r := r) (by have := Hzl.out; omega) (p2_split (by omega)) (by rw [Hd.out, hzp.out]) (by rw [hzp.out]) (by rw [show os.length - 1 - k + 1 = os.length - k by omega]; exact Heq.out)
      case measure => simp [intOf]; omega
    · have hke : k = os.length := by omega
      subst hke
      go_wp2
      go_ret
      refine ⟨r, zs, rfl, Hr0.out, Hr1.out, Hzl.out, hzo, ?_, hrow, hbr⟩
      have := Heq.out
      rw [Nat.sub_self] at this
      simp only [Nt.vt, Nt.pw, Int.sub_zero, Int.mul_one] at this
      exact this

end Go.Proofs.YtejenbkhhcjeaaaGreatDoor

namespace Go.Proofs.YtejenbkhhcjeaaaGreatDoor

/-- noughts at the end, cut off -/
theorem canon_exists (xs : List Int) (ho : Nt.Ok xs) : ∃ k, k ≤ xs.length ∧ Nt.Canon (xs.take k) ∧ Nt.val (xs.take k) = Nt.val xs := by
  have key : ∀ n, n ≤ xs.length → (∀ i, n ≤ i → i < xs.length → Nt.lb xs i = 0) → ∃ k, k ≤ xs.length ∧ Nt.Canon (xs.take k) ∧ Nt.val (xs.take k) = Nt.val xs := by
    intro n
    induction n with
    | zero =>
      intro _ hz
      refine ⟨0, by omega, by simpa using Nt.canon_nil, ?_⟩
      rw [Nt.val_take (by omega), ← Nt.vt_cut (xs := xs) (k := 0) (n := xs.length) (by omega) (fun i h1 h2 => hz i h1 h2)]
      rfl
    | succ n ih =>
      intro hn hz
      by_cases h : Nt.lb xs n = 0
      · exact ih (by omega) fun i h1 h2 => by
          by_cases e : i = n
          · subst e; exact h
          · exact hz i (by omega) h2
      · refine ⟨n + 1, hn, Nt.canon_take ho hn (fun _ => by rw [Nat.add_sub_cancel]; exact h), ?_⟩
        rw [Nt.val_take hn, ← Nt.vt_cut (xs := xs) (k := n + 1) (n := xs.length) hn (fun i h1 h2 => hz i h1 h2)]
        rfl
  exact key xs.length (Nat.le_refl _) (fun i h1 h2 => by omega)

/-- how many limbs, by the bits -/
theorem limbs_of_len {zs : List Int} {k : Nat} (hc : Nt.Canon zs) (h : IsLen (Nt.val zs) k) : (k + 31) / 32 = zs.length := by
  by_cases hz : zs = []
  · subst hz
    have h0 : ¬ 0 < k := fun hk => by
      have h1 := h.2 hk
      have h2 := p2_pos (k - 1)
      rw [Nt.val_nil] at h1
      omega
    simp; omega
  · have h1 := Nt.canon_low hc hz
    have h2 := Nt.val_lt hc.1
    have hp := List.length_pos_iff.2 hz
    have h3 : 32 * (zs.length - 1) < k := by
      rcases Nat.lt_or_ge (32 * (zs.length - 1)) k with e | e
      · exact e
      · have h4 := p2_mono e
        rw [p2_32] at h4
        have h5 := h.1
        omega
    have h6 : k ≤ 32 * zs.length := by
      rcases Nat.lt_or_ge (32 * zs.length) k with e | e
      · have h7 := h.2 (by omega)
        have h8 := p2_mono (m := 32 * zs.length) (n := k - 1) (by omega)
        rw [p2_32] at h8
        omega
      · exact e
    omega

theorem div_parts {n m P Q R : Int} (hP : 0 < P) (hR0 : 0 ≤ R) (hR : R < m * P) (h : n * P = R + m * P * Q) (hm : 0 < m) : Q = n / m ∧ R / P = n % m ∧ R % P = 0 := by
  have e : R = (n - m * Q) * P := by grind
  have h1 : 0 ≤ n - m * Q := by
    rcases Int.lt_or_le (n - m * Q) 0 with h2 | h2
    · have := Int.mul_lt_mul_of_pos_right h2 hP; omega
    · exact h2
  have h2 : n - m * Q < m := by
    apply Nt.lt_of_mul_lt hP
    rw [← e]; exact hR
  have e2 : n = (n - m * Q) + m * Q := by omega
  have hq : n / m = Q := by
    rw [e2, Int.add_mul_ediv_left _ _ (by omega), Int.ediv_eq_zero_of_lt h1 h2]; omega
  have hr : n % m = n - m * Q := by
    have := Int.emod_add_mul_ediv n m
    rw [hq] at this; omega
  refine ⟨hq.symm, ?_, ?_⟩
  · rw [e, Int.mul_ediv_cancel _ (by omega), hr]
  · rw [e]; exact Int.mul_emod_left _ _

/-- raised by the bits that its highest limb lacks, a number has as many limbs as before -/
theorem raised_fits {ys : List Int} {k : Nat} (hc : Nt.Canon ys) (hp : 0 < ys.length) (h : IsLen (Nt.lb ys (ys.length - 1)) k) (hk : k ≤ 32) : Nt.val ys * p2 (32 - k) < Nt.pw ys.length := by
  have h1 := (isLen_top hc hp h).1
  have h2 : Nt.val ys * p2 (32 - k) < p2 ((ys.length - 1) * 32 + k) * p2 (32 - k) := Int.mul_lt_mul_of_pos_right h1 (p2_pos _)
  rw [← p2_add] at h2
  rw [← p2_32, show 32 * ys.length = (ys.length - 1) * 32 + k + (32 - k) by omega]
  exact h2

end Go.Proofs.YtejenbkhhcjeaaaGreatDoor

namespace Go.Proofs.YtejenbkhhcjeaaaGreatDoor

/-- the byte at a place of a number that is given by its limbs -/
def dg (xs : List Int) (i : Nat) : Int := Nt.lb xs (i / 4) / Nb.pw (i % 4) % 256
/-- the number of the first so many bytes -/
def dv (xs : List Int) : Nat → Int
  | 0 => 0
  | n + 1 => dv xs n + dg xs n * Nb.pw n

theorem dg_bd (xs : List Int) (i : Nat) : 0 ≤ dg xs i ∧ dg xs i < 256 := by unfold dg; omega
theorem dg_at (xs : List Int) (j r : Nat) (hr : r < 4) : dg xs (4 * j + r) = Nt.lb xs j / Nb.pw r % 256 := by
  unfold dg
  rw [show (4 * j + r) / 4 = j by omega, show (4 * j + r) % 4 = r by omega]
theorem dv_four {xs : List Int} (ho : Nt.Ok xs) (m : Nat) : dv xs (4 * m) = Nt.vt xs m := by
  induction m with
  | zero => rfl
  | succ m ih =>
    have e : 4 * (m + 1) = 4 * m + 3 + 1 := by omega
    rw [e]
    show dv xs (4 * m + 3) + dg xs (4 * m + 3) * Nb.pw (4 * m + 3) = _
    have e2 : dv xs (4 * m + 3) = dv xs (4 * m) + dg xs (4 * m) * Nb.pw (4 * m) + dg xs (4 * m + 1) * Nb.pw (4 * m + 1) + dg xs (4 * m + 2) * Nb.pw (4 * m + 2) := rfl
    have d0 := dg_at xs m 0 (by omega)
    rw [Nat.add_zero] at d0
    rw [e2, ih, d0, dg_at xs m 1 (by omega), dg_at xs m 2 (by omega), dg_at xs m 3 (by omega), Nt.vt_succ, Nb.pw_add (4 * m) 3, Nb.pw_add (4 * m) 2, Nb.pw_add (4 * m) 1, Nb.pw_four]
    have p1 : Nb.pw 1 = 256 := by decide
    have p2' : Nb.pw 2 = 65536 := by decide
    have p3 : Nb.pw 3 = 16777216 := by decide
    have p0 : Nb.pw 0 = 1 := rfl
    rw [p0, p1, p2', p3]
    have hx := ho m
    generalize Nt.lb xs m = x at *
    have hs : x = x / 1 % 256 + x / 256 % 256 * 256 + x / 65536 % 256 * 65536 + x / 16777216 % 256 * 16777216 := by omega
    generalize x / 1 % 256 = a at *
    generalize x / 256 % 256 = b at *
    generalize x / 65536 % 256 = c at *
    generalize x / 16777216 % 256 = d at *
    rw [hs]
    grind
theorem dv_split (xs : List Int) (l j : Nat) : ∃ r : Int, 0 ≤ r ∧ dv xs (l + j) = dv xs l + Nb.pw l * r := by
  induction j with
  | zero => exact ⟨0, Int.le_refl _, by simp⟩
  | succ j ih =>
    obtain ⟨r, h0, h⟩ := ih
    refine ⟨r + dg xs (l + j) * Nb.pw j, Int.add_nonneg h0 (Int.mul_nonneg (dg_bd xs _).1 (by have := Nb.pw_pos j; omega)), ?_⟩
    show dv xs (l + j) + dg xs (l + j) * Nb.pw (l + j) = _
    rw [h, Nb.pw_add]
    grind
theorem dv_nonneg (xs : List Int) (l : Nat) : 0 ≤ dv xs l := by
  obtain ⟨r, h0, h⟩ := dv_split xs 0 l
  rw [Nat.zero_add] at h
  rw [h]
  simp only [dv, Nb.pw]
  omega
/-- a number's bytes, as many as it has bits -/
theorem dv_all {xs : List Int} (ho : Nt.Ok xs) {l : Nat} (hl : l ≤ 4 * xs.length) (hlt : Nt.val xs < Nb.pw l) : dv xs l = Nt.val xs := by
  obtain ⟨r, h0, h⟩ := dv_split xs l (4 * xs.length - l)
  rw [show l + (4 * xs.length - l) = 4 * xs.length by omega, dv_four ho] at h
  have e : Nt.vt xs xs.length = Nt.val xs := rfl
  rw [e] at h
  have h1 := dv_nonneg xs l
  have h2 := Nb.pw_pos l
  rcases Int.lt_or_le 0 r with h3 | h3
  · have h4 : Nb.pw l * 1 ≤ Nb.pw l * r := Int.mul_le_mul_of_nonneg_left (by omega) (by omega)
    omega
  · have h5 : r = 0 := by omega
    rw [h5] at h
    simp at h
    omega
theorem nb_vt_dv {xs ds : List Int} {n : Nat} (h : ∀ i, i < n → Nt.lb ds i = dg xs i) : Nb.vt ds n = dv xs n := by
  induction n with
  | zero => rfl
  | succ n ih => rw [Nb.vt_succ, ih (fun i hi => h i (by omega)), h n (by omega)]; rfl

theorem p2_8 (n : Nat) : p2 (8 * n) = Nb.pw n := by
  induction n with
  | zero => rfl
  | succ n ih => rw [show 8 * (n + 1) = 8 * n + 8 by omega, p2_add, ih, Nb.pw_succ, Int.mul_comm]; rfl

/-- the list of a number's bytes, the lowest first, out of its limbs -/
theorem bytes_canon {xs ds : List Int} {k : Nat} (ho : Nt.Ok xs) (hk : IsLen (Nt.val xs) k) (hk2 : k ≤ 32 * xs.length) (hl : ds.length = (k + 7) / 8) (h : ∀ i, i < ds.length → Nt.lb ds i = dg xs i) : Nb.Canon ds ∧ Nb.val ds = Nt.val xs := by
  have hlt : Nt.val xs < Nb.pw ds.length := by
    have h1 := p2_mono (m := k) (n := 8 * ds.length) (by omega)
    rw [p2_8] at h1
    have := hk.1
    omega
  have hval : Nb.val ds = Nt.val xs := by
    show Nb.vt ds ds.length = _
    rw [nb_vt_dv h, dv_all ho (by omega) hlt]
  have hok : Nb.Ok ds := by
    intro i
    by_cases hi : i < ds.length
    · rw [h i hi]; exact dg_bd xs i
    · rw [Nt.lb_out (by omega)]; omega
  refine ⟨⟨hok, fun hn => ?_⟩, hval⟩
  intro h0
  have hp := List.length_pos_iff.2 hn
  have h1 : Nb.val ds = Nb.vt ds (ds.length - 1) := by
    obtain ⟨m, hm⟩ : ∃ m, ds.length = m + 1 := ⟨ds.length - 1, by omega⟩
    have e : ds.length - 1 = m := by omega
    rw [e] at h0 ⊢
    show Nb.vt ds ds.length = _
    rw [hm, Nb.vt_succ, h0]; simp
  have h2 := (Nb.vt_bounds hok (ds.length - 1)).2
  have h3 := hk.2 (by omega)
  have h4 := p2_mono (m := 8 * (ds.length - 1)) (n := k - 1) (by omega)
  rw [p2_8] at h4
  omega

end Go.Proofs.YtejenbkhhcjeaaaGreatDoor

namespace Go.Proofs.YtejenbkhhcjeaaaGreatDoor
open Go.RowKit

set_option maxHeartbeats 2000000 in
theorem into_any {w : World} {ro bo : Option Addr} {rc bc g off L : Nat} {bs os : List Int} (hr : Row .u32 41 w g os) (hoo : Nt.Ok os) (hoff : off + L = os.length) (hol : os.length ≤ 2199023255552)
    (hro : 0 < L → ro = some ⟨g, off, none⟩) (hbl : bs.length ≤ bc) (hbm : bc ≤ maxLen) (hbc : Cells .u32 w bo bs) (hbo : Nt.Ok bs) (haw : 0 < bs.length → Away g bo)
    (hfit : Nt.val os + Nt.val bs * Nt.pw off < Nt.pw os.length) :
    Calls Tryz.prog 175 #[.slice ro L rc, .slice bo bs.length bc] w fun e w' => ∃ zs : List Int, e = .returned (.tuple #[]) ∧ zs.length = os.length ∧ Nt.Ok zs ∧
      Nt.val zs = Nt.val os + Nt.val bs * Nt.pw off ∧ Row .u32 41 w' g zs ∧ Only g w w' := by
  go_enter Tryz.func175, Tryz.ntmps175
  go_wp2_with fail
  refine (trim_any bo bc bs w hbl hbm hbc hbo).mono ?_
  rintro e w' ⟨rfl, n, hn, rfl, hcn, hv⟩
  have hfits := Nt.into_fits (off := off) (n := os.length) hcn hv (Nt.val_nonneg hoo) hfit (by omega)
  have hct := hbc.take hn
  have hat : 0 < (bs.take n).length → Away g bo := fun h => haw (by rw [List.length_take] at h; omega)
  have hlt : (bs.take n).length = n := by rw [List.length_take, Nat.min_eq_left hn]
  rw [← hv] at hfit
  have HV := hide hv
  generalize bs.take n = ys at *
  have HY := hide hlt
  have Hfit := hide hfit
  rw [hlt] at hfits
  have hnm : n ≤ 2199023255552 := by omega
  clear hv hbc hbo haw hfit hn hbl hlt
  go_wp2
  go_loopw [4, 11] (fun c i wr => ∃ (k : Nat) (q : Int) (zs : List Int), k ≤ n ∧ i = .int .i64 k ∧ c = .int .u32 q ∧ 0 ≤ q ∧ q ≤ 1 ∧ zs.length = os.length ∧ Nt.Ok zs ∧ (∀ j, off + k ≤ j → Nt.lb zs j = Nt.lb os j) ∧
      Row .u32 41 wr g zs ∧ Only g w' wr ∧ Nt.vt zs (off + k) + q * Nt.pw (off + k) = Nt.vt os (off + k) + Nt.vt ys k * Nt.pw off) (fun _ i _ => n - (intOf i).toNat)
  case atStart => exact ⟨0, 0, os, by omega, rfl, rfl, by omega, by omega, rfl, hoo, fun _ _ => rfl, hr, Only.refl _ _, by simp [Nt.vt]⟩
  case round =>
    obtain ⟨k, q, zs, hk, rfl, rfl, hq0, hq1, hzl, hzo, hsame, hrow, hbr, heq⟩ := hrel
    have Heq := hide heq
    have Hzl := hide hzl
    have Hs := hide hsame
    clear heq hzl hsame hr
    by_cases hkl : k < n
    · have hR := hro (by omega)
      subst hR
      obtain ⟨b1, o1, rfl, _, hc1⟩ := (hbr.cells hct hat) (by rw [HY.out]; omega)
      have g1 := hc1 k (by rw [HY.out]; omega)
      have g2 := hrow.cell (i := off + k) (by have := Hzl.out; omega)
      have hfz := hrow.frozen (off + k)
      have byk := hcn.1 k
      have bzk := hzo (off + k)
      clear hc1
      go_wp2
      go_region_with (go_at_call 114; refine (add32_any _ _ _ _ bzk byk ⟨hq0, hq1⟩).mono ?_; rintro e w3 ⟨rfl, rfl⟩)
      all_goals go_wp2
      all_goals go_roundw
      all_goals first
        | exact ⟨k + 1, (Nt.lb zs (off + k) + Nt.lb ys k + q) / 4294967296, zs.set (off + k) ((Nt.lb zs (off + k) + Nt.lb ys k + q) % 4294967296), by omega, by go_num, rfl, by omega, by omega, by have := Hzl.out; simp [this], Nt.ok_set hzo (by omega), fun j hj => by
            rw [Nt.lb_set_ne (by omega)]; exact Hs.out j (by omega), hrow.set _ _, hbr.drew.set _ _, Nt.into_step (by have := Hzl.out; omega) (Hs.out _ (by omega)) Heq.out⟩
        | (simp [intOf]; omega)
    · have hke : k = n := by omega
      have Hke := hide hke
      have e0 : Nt.vt zs (off + n) + q * Nt.pw (off + n) = Nt.vt os (off + n) + Nt.val ys * Nt.pw off := by
        have h := Heq.out
        rw [hke, Nt.vt_out (xs := ys) (by rw [HY.out]; omega)] at h
        exact h
      have HE := hide e0
      have HS0 : Hid (∀ j, off + n ≤ j → Nt.lb zs j = Nt.lb os j) := by
        have h := Hs.out
        rw [hke] at h
        exact h
      clear e0 Heq Hs hke
      go_wp2
      go_loopw [4, 6] (fun c i wr => ∃ (k : Nat) (q : Int) (zs : List Int), n ≤ k ∧ off + k ≤ os.length ∧ i = .int .i64 k ∧ c = .int .u32 q ∧ 0 ≤ q ∧ q ≤ 1 ∧ zs.length = os.length ∧ Nt.Ok zs ∧ (∀ j, off + k ≤ j → Nt.lb zs j = Nt.lb os j) ∧
        Row .u32 41 wr g zs ∧ Only g w' wr ∧ Nt.vt zs (off + k) + q * Nt.pw (off + k) = Nt.vt os (off + k) + Nt.vt ys k * Nt.pw off) (fun _ i _ => os.length - (intOf i).toNat)
      case atStart => exact ⟨n, q, zs, by omega, by omega, rfl, rfl, hq0, hq1, Hzl.out, hzo, HS0.out, hrow, hbr, by rw [Nt.vt_out (xs := ys) (by rw [HY.out]; omega)]; exact HE.out⟩
      case round =>
        clear HE HS0 hrow hbr hzo hq0 hq1 Hzl hk hkl Hke
        obtain ⟨k, q, zs, hnk, hko, rfl, rfl, hq0, hq1, hzl, hzo, hsame, hrow, hbr, heq⟩ := hrel
        rw [Nt.vt_out (xs := ys) (n := k) (by rw [HY.out]; omega)] at heq
        have Heq := hide heq
        have Hzl := hide hzl
        have Hs := hide hsame
        clear heq hzl hsame
        by_cases hq : q = 0
        · have hfin : Nt.val zs = Nt.val os + Nt.val ys * Nt.pw off := by
            have h1 := Nt.vt_tail (zs := zs) (os := os) Hs.out os.length hko
            have h2 := Heq.out
            have h3 := Hzl.out
            rw [hq] at h2
            unfold Nt.val at h2 ⊢
            rw [h3]
            omega
          have Hf := hide hfin
          have hq' : (q == 0) = true := by simp [hq]
          clear hfin Heq hq
          go_wp2
          go_end0
          exact ⟨zs, rfl, Hzl.out, hzo, by rw [← HV.out]; exact Hf.out, hrow, hbr⟩
        · have hlt : off + k < os.length := by
            rcases Nat.lt_or_ge (off + k) os.length with h | h
            · exact h
            · exfalso
              have h1 : off + k = os.length := by omega
              have h2 := Heq.out
              rw [h1, show q = 1 by omega] at h2
              exact Nt.into_no_carry hzo h2 Hfit.out
          have hR := hro (by omega)
          subst hR
          have g2 := hrow.cell (i := off + k) (by have := Hzl.out; omega)
          have hfz := hrow.frozen (off + k)
          have bzk := hzo (off + k)
          have hq' : (q == 0) = false := by simp [hq]
          have hkL : (k : Int) < (L : Int) := by omega
          go_wp2_with fail
          refine (add32_any _ _ _ _ bzk (by omega) ⟨hq0, hq1⟩).mono ?_
          rintro e w3 ⟨rfl, rfl⟩
          have hst := Nt.into_step (ys := ys) (zs := zs) (os := os) (off := off) (k := k) (c := q) (by have := Hzl.out; omega) (Hs.out _ (by omega)) (by rw [Nt.vt_out (xs := ys) (n := k) (by rw [HY.out]; omega)]; exact Heq.out)
          rw [Nt.lb_out (xs := ys) (i := k) (by rw [HY.out]; omega), Int.add_zero] at hst
          have Hst := hide hst
          clear hst
          go_wp2
          go_roundw
          case rel => exact ⟨k + 1, (Nt.lb zs (off + k) + q) / 4294967296, zs.set (off + k) ((Nt.lb zs (off + k) + q) % 4294967296), by omega, by omega, by go_num, rfl, by omega, by omega, by have := Hzl.out; simp [this], Nt.ok_set hzo (by omega), fun j hj => by
            rw [Nt.lb_set_ne (by omega)]; exact Hs.out j (by omega), hrow.set _ _, hbr.set _ _, Hst.out⟩
          case measure => simp [intOf]; omega

end Go.Proofs.YtejenbkhhcjeaaaGreatDoor

namespace Go.Proofs.YtejenbkhhcjeaaaGreatDoor
open Go.RowKit

/-- -1, 0, 1 -/
def sgn (x y : Int) : Int := if x < y then -1 else if y < x then 1 else 0
theorem sgn_lt {x y : Int} (h : x < y) : sgn x y = -1 := by simp [sgn, h]
theorem sgn_gt {x y : Int} (h : y < x) : sgn x y = 1 := by unfold sgn; rw [if_neg (by omega), if_pos h]
theorem sgn_eq {x y : Int} (h : x = y) : sgn x y = 0 := by subst h; simp [sgn]

set_option maxHeartbeats 1000000 in
theorem compare_int (x y : Int) (w : World) :
    Calls Tryz.prog 152 #[.int .i64 x, .int .i64 y] w fun e w' => e = .returned (.int .i64 (sgn x y)) ∧ w' = w := by
  have hx : (x != x) = false := by simp
  have hy : (y != y) = false := by simp
  rcases Int.lt_trichotomy x y with h | h | h
  · rw [sgn_lt h]
    go_enter Tryz.func152, Tryz.ntmps152
    go_wp2
    go_ret
    exact ⟨rfl, rfl⟩
  · subst h
    rw [sgn_eq rfl]
    go_enter Tryz.func152, Tryz.ntmps152
    go_wp2
    go_ret
    exact ⟨rfl, rfl⟩
  · rw [sgn_gt h]
    have h' : ¬ x < y := by omega
    go_enter Tryz.func152, Tryz.ntmps152
    go_wp2
    go_ret
    exact ⟨rfl, rfl⟩

set_option maxHeartbeats 1000000 in
theorem compare_u32 (x y : Int) (w : World) :
    Calls Tryz.prog 153 #[.int .u32 x, .int .u32 y] w fun e w' => e = .returned (.int .i64 (sgn x y)) ∧ w' = w := by
  have hx : (x != x) = false := by simp
  have hy : (y != y) = false := by simp
  rcases Int.lt_trichotomy x y with h | h | h
  · rw [sgn_lt h]
    go_enter Tryz.func153, Tryz.ntmps153
    go_wp2
    go_ret
    exact ⟨rfl, rfl⟩
  · subst h
    rw [sgn_eq rfl]
    go_enter Tryz.func153, Tryz.ntmps153
    go_wp2
    go_ret
    exact ⟨rfl, rfl⟩
  · rw [sgn_gt h]
    have h' : ¬ x < y := by omega
    go_enter Tryz.func153, Tryz.ntmps153
    go_wp2
    go_ret
    exact ⟨rfl, rfl⟩

set_option maxHeartbeats 1000000 in
theorem cmp_any {w : World} {va vb : Value} {n m : Int} {ka kb : Nat} (ha : Arg w va n ka) (hb : Arg w vb m kb) (hka : ka ≤ 1099511627776) (_hkb : kb ≤ 1099511627776) :
    Calls Tryz.prog 101 #[va, vb] w fun e w' => e = .returned (.int .i64 (sgn n m)) ∧ Below w.heap.size w w' := by
  go_enter Tryz.func101, Tryz.ntmps101
  go_wp2_with fail
  refine (trim_arg ha).mono ?_
  rintro e w' ⟨rfl, ao, xs, rfl, hxk, hxm, hxc, hx, rfl⟩
  go_wp2_with fail
  refine (trim_arg hb).mono ?_
  rintro e w' ⟨rfl, bo, ys, rfl, hyk, hym, hyc, hy, rfl⟩
  clear ha hb
  by_cases hl : xs.length = ys.length
  · have hl1 : ((xs.length : Int) != (ys.length : Int)) = false := by simp [hl]
    have Hl : Hid (xs.length = ys.length) := hl
    clear hl
    go_wp2
    go_loopw [23] (fun i wr => ∃ k : Nat, k ≤ xs.length ∧ i = .int .i64 k ∧ (∀ j, xs.length ≤ j + k → j < xs.length → Nt.lb xs j = Nt.lb ys j) ∧ Below w'.heap.size w' wr) (fun i _ => xs.length - (intOf i).toNat)
    case atStart => exact ⟨0, Nat.zero_le _, rfl, fun j hj h2 => by omega, Below.refl _ _⟩
    case round =>
      obtain ⟨k, hk, rfl, hsame, hbr⟩ := hrel
      have HS : Hid (∀ j, xs.length ≤ j + k → j < xs.length → Nt.lb xs j = Nt.lb ys j) := hsame
      clear hsame
      by_cases hlt : k < xs.length
      · have hlt2 : xs.length - 1 - k < ys.length := by have := Hl.out; omega
        obtain ⟨b1, o1, rfl, _, hc1⟩ := (hxc.below hbr) (by omega)
        obtain ⟨b2, o2, rfl, _, hc2⟩ := (hyc.below hbr) (by omega)
        have g1 := hc1 (xs.length - 1 - k) (by omega)
        have g2 := hc2 (xs.length - 1 - k) hlt2
        clear hc1 hc2 hxc hyc
        by_cases hq : Nt.lb xs (xs.length - 1 - k) = Nt.lb ys (xs.length - 1 - k)
        · have hq' : (Nt.lb xs (xs.length - 1 - k) != Nt.lb ys (xs.length - 1 - k)) = false := by simp [hq]
          have Hq : Hid (Nt.lb xs (xs.length - 1 - k) = Nt.lb ys (xs.length - 1 - k)) := hq
          clear hq
          go_wp2
          go_region
          all_goals go_wp2
          all_goals go_roundw
          all_goals first
            | exact ⟨k + 1, by omega, by go_num, fun j hj h2 => by
                by_cases e : j = xs.length - 1 - k
                · subst e; exact Hq.out
                · exact HS.out j (by omega) h2, by repeat (first | exact hbr | apply Below.drew)⟩
            | (simp [intOf]; omega)
        · have hq' : (Nt.lb xs (xs.length - 1 - k) != Nt.lb ys (xs.length - 1 - k)) = true := by simp [hq]
          have Hq : Hid (¬ Nt.lb xs (xs.length - 1 - k) = Nt.lb ys (xs.length - 1 - k)) := hq
          clear hq
          have hs : sgn (Nt.val xs) (Nt.val ys) = sgn (Nt.lb xs (xs.length - 1 - k)) (Nt.lb ys (xs.length - 1 - k)) := by
            have hll : xs.length = ys.length := Hl.out
            rcases Int.lt_trichotomy (Nt.lb xs (xs.length - 1 - k)) (Nt.lb ys (xs.length - 1 - k)) with h | h | h
            · rw [sgn_lt h, sgn_lt]
              unfold Nt.val
              rw [← hll]
              exact Nt.vt_lt_at hx.1 hy.1 (p := xs.length - 1 - k) (by omega) (fun i a b => HS.out i (by omega) b) h
            · exact absurd h Hq.out
            · rw [sgn_gt h, sgn_gt]
              unfold Nt.val
              rw [← hll]
              exact Nt.vt_lt_at hy.1 hx.1 (p := xs.length - 1 - k) (by omega) (fun i a b => (HS.out i (by omega) b).symm) h
          have HSg : Hid _ := hs
          clear hs
          go_wp2
          go_region
          all_goals go_wp2
          all_goals go_region_with (go_at_call 153; refine (compare_u32 _ _ _).mono ?_; rintro e w2 ⟨rfl, rfl⟩)
          all_goals go_wp2
          all_goals go_ret
          all_goals
            refine ⟨?_, by repeat (first | exact hbr | apply Below.drew)⟩
            rw [HSg.out]
            rfl
      · have hke : k = xs.length := by omega
        subst hke
        go_wp2
        go_ret
        refine ⟨?_, hbr⟩
        rw [sgn_eq]
        · rfl
        · have hll : xs.length = ys.length := Hl.out
          unfold Nt.val
          rw [← hll]
          exact Nt.vt_congr fun i hi => HS.out i (by omega) hi
  · have hl1 : ((xs.length : Int) != (ys.length : Int)) = true := by simp; omega
    have Hl : Hid (¬ xs.length = ys.length) := hl
    clear hl
    have hs : sgn (Nt.val xs) (Nt.val ys) = sgn xs.length ys.length := by
      rcases Nat.lt_trichotomy xs.length ys.length with h | h | h
      · rw [sgn_lt (Nt.canon_lt hx.1 hy h), sgn_lt (by omega)]
      · exact absurd h Hl.out
      · rw [sgn_gt (Nt.canon_lt hy.1 hx h), sgn_gt (by omega)]
    have HSg : Hid _ := hs
    clear hs
    go_wp2_with (go_at_call 152; refine (compare_int _ _ _).mono ?_; rintro e w2 ⟨rfl, rfl⟩)
    go_ret
    refine ⟨?_, Below.refl _ _⟩
    rw [HSg.out]
    rfl

end Go.Proofs.YtejenbkhhcjeaaaGreatDoor

namespace Go.Proofs.YtejenbkhhcjeaaaGreatDoor
open Go.RowKit

/-- one round of a difference -/
theorem sub_step {xs ys zs : List Int} {k : Nat} {c : Int} (hk : k < zs.length)
    (h : Nt.vt zs k - c * Nt.pw k = Nt.vt xs k - Nt.vt ys k) :
    Nt.vt (zs.set k ((Nt.lb xs k - Nt.lb ys k - c) % 4294967296)) (k + 1) - (-((Nt.lb xs k - Nt.lb ys k - c) / 4294967296)) * Nt.pw (k + 1) = Nt.vt xs (k + 1) - Nt.vt ys (k + 1) := by
  rw [Nt.vt_succ, Nt.vt_set (Nat.le_refl _), Nt.lb_set_eq hk, Nt.vt_succ, Nt.vt_succ, Nt.pw_succ]
  have e : (Nt.lb xs k - Nt.lb ys k - c) % 4294967296 + 4294967296 * ((Nt.lb xs k - Nt.lb ys k - c) / 4294967296) = Nt.lb xs k - Nt.lb ys k - c := Int.emod_add_mul_ediv _ _
  generalize (Nt.lb xs k - Nt.lb ys k - c) % 4294967296 = r at *
  generalize (Nt.lb xs k - Nt.lb ys k - c) / 4294967296 = q at *
  have e2 : (r + 4294967296 * q) * Nt.pw k = (Nt.lb xs k - Nt.lb ys k - c) * Nt.pw k := by rw [e]
  rw [Int.add_mul, Int.sub_mul, Int.sub_mul, Int.mul_assoc] at e2
  rw [Int.neg_mul, Int.mul_left_comm q]
  generalize r * Nt.pw k = a1 at *
  generalize Nt.lb xs k * Nt.pw k = a2 at *
  generalize Nt.lb ys k * Nt.pw k = a3 at *
  generalize c * Nt.pw k = a4 at *
  generalize q * Nt.pw k = a5 at *
  omega

theorem arg_of_cells {w : World} {ao : Option Addr} {xs : List Int} (hm : xs.length ≤ maxLen) (hc : Cells .u32 w ao xs) (ho : Nt.Ok xs) : Arg w (.slice ao xs.length xs.length) (Nt.val xs) xs.length :=
  ⟨xs, ⟨ao, _, rfl, Nat.le_refl _, hm, hc⟩, ho, rfl, Nat.le_refl _⟩

set_option maxHeartbeats 1000000 in
theorem sub_no {w : World} {va vb : Value} {n m : Int} {ka kb : Nat} (ha : Arg w va n ka) (hb : Arg w vb m kb) (hka : ka ≤ 1099511627776) (hkb : kb ≤ 1099511627776) (hlt : n < m) :
    Calls Tryz.prog 23 #[va, vb] w fun e w' => e = .returned (.tuple #[.slice none 0 0, .bool false]) ∧ Below w.heap.size w w' := by
  go_enter Tryz.func23, Tryz.ntmps23
  go_wp2_with fail
  refine (trim_arg ha).mono ?_
  rintro e w' ⟨rfl, ao, xs, rfl, hxk, hxm, hxc, hx, rfl⟩
  go_wp2_with fail
  refine (trim_arg hb).mono ?_
  rintro e w' ⟨rfl, bo, ys, rfl, hyk, hym, hyc, hy, rfl⟩
  clear ha hb
  have hs := sgn_lt hlt
  have c := cmp_any (arg_of_cells hxm hxc hx.1) (arg_of_cells hym hyc hy.1) (by omega) (by omega)
  rw [hs] at c
  clear hs
  go_wp2_with fail
  refine c.mono ?_
  clear c
  rintro e w2 ⟨rfl, hbel⟩
  go_wp2
  go_ret2
  exact ⟨rfl, hbel⟩

set_option maxHeartbeats 2000000 in
theorem sub_yes {w : World} {va vb : Value} {n m : Int} {ka kb : Nat} (ha : Arg w va n ka) (hb : Arg w vb m kb) (hka : ka ≤ 1099511627776) (hkb : kb ≤ 1099511627776) (hge : m ≤ n) :
    Calls Tryz.prog 23 #[va, vb] w fun e w' => ∃ v, e = .returned (.tuple #[v, .bool true]) ∧ Num w.heap.size w' v (n - m) ka ∧ Below w.heap.size w w' := by
  go_enter Tryz.func23, Tryz.ntmps23
  go_wp2_with fail
  refine (trim_arg ha).mono ?_
  rintro e w' ⟨rfl, ao, xs, rfl, hxk, hxm, hxc, hx, rfl⟩
  go_wp2_with fail
  refine (trim_arg hb).mono ?_
  rintro e w' ⟨rfl, bo, ys, rfl, hyk, hym, hyc, hy, rfl⟩
  clear ha hb
  have hs : 0 ≤ sgn (Nt.val xs) (Nt.val ys) := by unfold sgn; rw [if_neg (by omega)]; split <;> omega
  have c := cmp_any (arg_of_cells hxm hxc hx.1) (arg_of_cells hym hyc hy.1) (by omega) (by omega)
  have hll : ys.length ≤ xs.length := by
    by_cases h : xs.length < ys.length
    · have := Nt.canon_lt hx.1 hy h; omega
    · omega
  go_wp2_with fail
  refine c.mono ?_
  clear c
  rintro e w2 ⟨rfl, hbel⟩
  go_wp2_with (at_make; refine wpList_make_row _ rfl _ _ 23 rfl 41 .u32 4 Tryz.underlying23 Tryz.infoU32 _ _ _ _ xs.length xs.length rfl rfl (by omega) (by omega) (Nat.le_refl _) (by omega) (by unfold maxLen; omega) ?_)
  intro w1 hr hbel1 hsz
  have hBs := hbel.size
  have hbel2 : Below w'.heap.size w' w1 := hbel.trans (hbel1.mono hBs)
  clear hs
  have Hge : Hid (Nt.val ys ≤ Nt.val xs) := hge
  clear hge
  go_wp2
  go_loopw [7, 22] (fun c i wr => ∃ (k : Nat) (q : Int) (zs : List Int), k ≤ xs.length ∧ i = .int .i64 k ∧ c = .int .u32 q ∧ 0 ≤ q ∧ q ≤ 1 ∧ zs.length = xs.length ∧ Nt.Ok zs ∧ Row .u32 41 wr w2.heap.size zs ∧ Below w'.heap.size w' wr ∧ Nt.vt zs k - q * Nt.pw k = Nt.vt xs k - Nt.vt ys k) (fun _ i _ => xs.length - (intOf i).toNat)
  case atStart => exact ⟨0, 0, List.replicate xs.length 0, by omega, rfl, rfl, by omega, by omega, by simp, Nt.ok_replicate _, hr, hbel2, by simp [Nt.vt]⟩
  case round =>
    obtain ⟨k, q, zs, hk, rfl, rfl, hq0, hq1, hzl, hzo, hrow, hbr, heq⟩ := hrel
    have Heq : Hid (Nt.vt zs k - q * Nt.pw k = Nt.vt xs k - Nt.vt ys k) := heq
    have Hzl : Hid (zs.length = xs.length) := hzl
    have hcx : Cells .u32 wr ao xs := hxc.below hbr
    have hcy : Cells .u32 wr bo ys := hyc.below hbr
    clear heq hzl hr hbel1 hbel2
    by_cases hkl : k < xs.length
    · have bx := hx.1 k
      have by' := hy.1 k
      have hfz := hrow.frozen k
      have hcl := hrow.cell (i := k) (by have := Hzl.out; omega)
      obtain ⟨b1, o1, rfl, _, hc1⟩ := hcx (by omega)
      have g1 := hc1 k hkl
      clear hc1 hcx hxc
      go_wp2
      go_region_with (first | (go_at_call 103; refine (limb_any bo ys.length ys k _ hym (by exact hcy)).mono ?_; rintro e w3 ⟨rfl, rfl⟩) | (go_at_call 102; refine (sub32_any _ _ _ _ bx by' ⟨hq0, hq1⟩).mono ?_; rintro e w3 ⟨rfl, rfl⟩))
      all_goals go_wp2
      all_goals go_roundw
      all_goals first
        | exact ⟨k + 1, -((Nt.lb xs k - Nt.lb ys k - q) / 4294967296), zs.set k ((Nt.lb xs k - Nt.lb ys k - q) % 4294967296), by omega, by go_num, rfl, by omega, by omega, by have := Hzl.out; simp [this], Nt.ok_set hzo (by omega), hrow.set _ _, (hbr.setCell (p := ⟨w2.heap.size, k, none⟩) hBs _).drew, sub_step (by have := Hzl.out; omega) Heq.out⟩
        | (simp [intOf]; omega)
    · have hke : k = xs.length := by omega
      subst hke
      have hz2 : zs.length = xs.length := Hzl.out
      have hfin : Nt.val zs = Nt.val xs - Nt.val ys := by
        have h1 := Heq.out
        have h2 := Hge.out
        rw [Nt.vt_out (xs := xs) (by omega), Nt.vt_out (xs := ys) (by omega), Nt.vt_out (xs := zs) (by omega)] at h1
        have h3 := Nt.val_lt hzo
        rw [hz2] at h3
        have : q = 0 ∨ q = 1 := by omega
        rcases this with rfl | rfl
        · omega
        · omega
      have ht := trim_row (B := w'.heap.size) (cap := zs.length) hrow hBs (Nat.le_refl _) (by rw [hz2]; unfold maxLen; omega) hzo
      rw [hz2, hfin] at ht
      clear hz2
      have Hfin : Hid _ := hfin
      clear hfin Heq
      go_wp2_with fail
      refine ht.mono ?_
      rintro e w3 ⟨rfl, v, rfl, hnum⟩
      go_wp2
      go_ret2
      exact ⟨_, rfl, hnum.mono hxk, hbr⟩

end Go.Proofs.YtejenbkhhcjeaaaGreatDoor

namespace Go.Proofs.YtejenbkhhcjeaaaGreatDoor
open Go.RowKit

theorem prod_bd2 {x y : Int} (hx : 0 ≤ x ∧ x < 4294967296) (hy : 0 ≤ y ∧ y < 4294967296) : 0 ≤ y * x ∧ y * x ≤ 18446744065119617025 := by
  refine ⟨Int.mul_nonneg hy.1 hx.1, ?_⟩
  have h1 : y * x ≤ 4294967295 * x := Int.mul_le_mul_of_nonneg_right (by omega) hx.1
  omega
theorem xor_ones (n : Nat) (h : n < 4294967296) : 4294967295 ^^^ n = 4294967295 - n := by
  have e : (BitVec.allOnes 32 ^^^ BitVec.ofNat 32 n).toNat = (~~~ BitVec.ofNat 32 n).toNat := by rw [BitVec.allOnes_xor]
  rw [BitVec.toNat_xor, BitVec.toNat_not, BitVec.toNat_allOnes, BitVec.toNat_ofNat, Nat.mod_eq_of_lt (by omega)] at e
  simpa using e
theorem not32 {y : Int} (h0 : 0 ≤ y) (h1 : y < 4294967296) : bits BinOp.xor IntKind.u32 (if IntKind.u32.signed = true then -1 else IntKind.u32.max) y = 4294967295 - y := by
  obtain ⟨n, rfl⟩ := Int.eq_ofNat_of_zero_le h0
  have e : (if IntKind.u32.signed = true then (-1 : Int) else IntKind.u32.max) = ((4294967295 : Nat) : Int) := by decide
  rw [e, u32_xor_nat _ _ (by omega) (by omega), xor_ones n (by omega)]
  omega

set_option maxHeartbeats 2000000 in
theorem lessen_any {w : World} {ro bo : Option Addr} {rc bc g off L : Nat} {vs os : List Int} {x : Int} (hr : Row .u32 41 w g os) (hoo : Nt.Ok os) (hL : vs.length = L) (hfit : off + L ≤ os.length) (hro : 0 < L → ro = some ⟨g, off, none⟩)
    (hvc : Cells .u32 w bo vs) (hvo : Nt.Ok vs) (haw : 0 < vs.length → Away g bo) (hm : L ≤ 2199023255552) (hx : 0 ≤ x ∧ x < 4294967296) :
    Calls Tryz.prog 197 #[.slice ro L rc, .slice bo L bc, .int .u64 x] w fun e w' => ∃ (c : Int) (zs : List Int), e = .returned (.int .u32 c) ∧ 0 ≤ c ∧ c < 4294967296 ∧ zs.length = os.length ∧ Nt.Ok zs ∧
      (∀ j, j < off ∨ off + L ≤ j → Nt.lb zs j = Nt.lb os j) ∧ Nt.vt zs (off + L) - c * Nt.pw (off + L) = Nt.vt os (off + L) - x * Nt.val vs * Nt.pw off ∧ Row .u32 41 w' g zs ∧ Only g w w' := by
  obtain ⟨hx0, hx1⟩ := hx
  have HL := hide hL
  clear hL
  go_enter Tryz.func197, Tryz.ntmps197
  go_wp2
  go_loopw [7, 11] (fun c i wr => ∃ (k : Nat) (q : Int) (zs : List Int), k ≤ L ∧ i = .int .i64 k ∧ c = .int .u64 q ∧ 0 ≤ q ∧ q < 4294967296 ∧ zs.length = os.length ∧ Nt.Ok zs ∧ (∀ j, j < off ∨ off + k ≤ j → Nt.lb zs j = Nt.lb os j) ∧
      Row .u32 41 wr g zs ∧ Only g w wr ∧ Nt.vt zs (off + k) - q * Nt.pw (off + k) = Nt.vt os (off + k) - x * Nt.vt vs k * Nt.pw off) (fun _ i _ => L - (intOf i).toNat)
  case atStart => exact ⟨0, 0, os, by omega, rfl, rfl, by omega, by omega, rfl, hoo, fun _ _ => rfl, hr, Only.refl _ _, by simp [Nt.vt]⟩
  case round =>
    obtain ⟨k, q, zs, hk, rfl, rfl, hq0, hq1, hzl, hzo, hsame, hrow, hbr, heq⟩ := hrel
    have Heq := hide heq
    have Hzl := hide hzl
    have Hs := hide hsame
    clear heq hzl hsame hr
    by_cases hkl : k < L
    · have hR := hro (by omega)
      subst hR
      obtain ⟨b1, o1, rfl, _, hc1⟩ := (hbr.cells hvc haw) (by rw [HL.out]; omega)
      have g1 := hc1 k (by rw [HL.out]; omega)
      have g2 := hrow.cell (i := off + k) (by have := Hzl.out; omega)
      have hfz := hrow.frozen (off + k)
      obtain ⟨by0, by1⟩ := hvo k
      obtain ⟨bz0, bz1⟩ := hzo (off + k)
      obtain ⟨bp0, bp1⟩ := prod_bd2 ⟨hx0, hx1⟩ ⟨by0, by1⟩
      clear hc1
      have n1 := not32 bz0 bz1
      have n2 := not32 (y := (q + (Nt.lb vs k * x + (4294967295 - Nt.lb zs (off + k)))) % 4294967296) (by omega) (by omega)
      go_wp2
      go_region
      all_goals go_wp2
      all_goals go_roundw
      all_goals first
        | exact ⟨k + 1, (q + (Nt.lb vs k * x + (4294967295 - Nt.lb zs (off + k)))) / 4294967296, zs.set (off + k) (4294967295 - (q + (Nt.lb vs k * x + (4294967295 - Nt.lb zs (off + k)))) % 4294967296), by omega, by go_num, rfl, by omega, by omega, by have := Hzl.out; simp [this], Nt.ok_set hzo (by omega), fun j hj => by
            rw [Nt.lb_set_ne (by omega)]; exact Hs.out j (by omega), hrow.set _ _, hbr.drew.set _ _, Nt.less_step (by have := Hzl.out; omega) (Hs.out _ (by omega)) rfl Heq.out⟩
        | (simp [intOf]; omega)
    · have hke : k = L := by omega
      have hv : Nt.vt zs (off + L) - q * Nt.pw (off + L) = Nt.vt os (off + L) - x * Nt.val vs * Nt.pw off := by
        have h := Heq.out
        rw [hke, Nt.vt_out (xs := vs) (by rw [HL.out]; omega)] at h
        exact h
      have HV := hide hv
      have HS0 : Hid (∀ j, j < off ∨ off + L ≤ j → Nt.lb zs j = Nt.lb os j) := by
        have h := Hs.out
        rw [hke] at h
        exact h
      clear hv Heq Hs
      subst hke
      go_wp2
      go_ret
      exact ⟨q, zs, by simp, hq0, hq1, Hzl.out, hzo, HS0.out, HV.out, hrow, hbr⟩

set_option maxHeartbeats 2000000 in
theorem addBack_any {w : World} {ro bo : Option Addr} {rc bc g off L : Nat} {vs os : List Int} {x : Int} (hr : Row .u32 41 w g os) (hoo : Nt.Ok os) (hL : vs.length = L) (hfit : off + L ≤ os.length) (hro : 0 < L → ro = some ⟨g, off, none⟩)
    (hvc : Cells .u32 w bo vs) (hvo : Nt.Ok vs) (haw : 0 < vs.length → Away g bo) (hm : L ≤ 2199023255552) (hx : 0 ≤ x ∧ x < 4294967296) :
    Calls Tryz.prog 198 #[.slice ro L rc, .slice bo L bc, .int .u64 x] w fun e w' => ∃ (c : Int) (zs : List Int), e = .returned (.tuple #[]) ∧ 0 ≤ c ∧ c < 4294967296 ∧ zs.length = os.length ∧ Nt.Ok zs ∧
      (∀ j, j < off ∨ off + L ≤ j → Nt.lb zs j = Nt.lb os j) ∧ Nt.vt zs (off + L) + c * Nt.pw (off + L) = Nt.vt os (off + L) + x * Nt.val vs * Nt.pw off ∧ Row .u32 41 w' g zs ∧ Only g w w' := by
  obtain ⟨hx0, hx1⟩ := hx
  have HL := hide hL
  clear hL
  go_enter Tryz.func198, Tryz.ntmps198
  go_wp2
  go_loopw [6, 10] (fun c i wr => ∃ (k : Nat) (q : Int) (zs : List Int), k ≤ L ∧ i = .int .i64 k ∧ c = .int .u64 q ∧ 0 ≤ q ∧ q < 4294967296 ∧ zs.length = os.length ∧ Nt.Ok zs ∧ (∀ j, j < off ∨ off + k ≤ j → Nt.lb zs j = Nt.lb os j) ∧
      Row .u32 41 wr g zs ∧ Only g w wr ∧ Nt.vt zs (off + k) + q * Nt.pw (off + k) = Nt.vt os (off + k) + x * Nt.vt vs k * Nt.pw off) (fun _ i _ => L - (intOf i).toNat)
  case atStart => exact ⟨0, 0, os, by omega, rfl, rfl, by omega, by omega, rfl, hoo, fun _ _ => rfl, hr, Only.refl _ _, by simp [Nt.vt]⟩
  case round =>
    obtain ⟨k, q, zs, hk, rfl, rfl, hq0, hq1, hzl, hzo, hsame, hrow, hbr, heq⟩ := hrel
    have Heq := hide heq
    have Hzl := hide hzl
    have Hs := hide hsame
    clear heq hzl hsame hr
    by_cases hkl : k < L
    · have hR := hro (by omega)
      subst hR
      obtain ⟨b1, o1, rfl, _, hc1⟩ := (hbr.cells hvc haw) (by rw [HL.out]; omega)
      have g1 := hc1 k (by rw [HL.out]; omega)
      have g2 := hrow.cell (i := off + k) (by have := Hzl.out; omega)
      have hfz := hrow.frozen (off + k)
      obtain ⟨by0, by1⟩ := hvo k
      obtain ⟨bz0, bz1⟩ := hzo (off + k)
      obtain ⟨bp0, bp1⟩ := prod_bd2 ⟨hx0, hx1⟩ ⟨by0, by1⟩
      clear hc1
      go_wp2
      go_region
      all_goals go_wp2
      all_goals go_roundw
      all_goals first
        | exact ⟨k + 1, (q + (Nt.lb vs k * x + Nt.lb zs (off + k))) / 4294967296, zs.set (off + k) ((q + (Nt.lb vs k * x + Nt.lb zs (off + k))) % 4294967296), by omega, by go_num, rfl, by omega, by omega, by have := Hzl.out; simp [this], Nt.ok_set hzo (by omega), fun j hj => by
            rw [Nt.lb_set_ne (by omega)]; exact Hs.out j (by omega), hrow.set _ _, hbr.drew.set _ _, Nt.back_step (by have := Hzl.out; omega) (Hs.out _ (by omega)) rfl Heq.out⟩
        | (simp [intOf]; omega)
    · have hke : k = L := by omega
      have hv : Nt.vt zs (off + L) + q * Nt.pw (off + L) = Nt.vt os (off + L) + x * Nt.val vs * Nt.pw off := by
        have h := Heq.out
        rw [hke, Nt.vt_out (xs := vs) (by rw [HL.out]; omega)] at h
        exact h
      have HV := hide hv
      have HS0 : Hid (∀ j, j < off ∨ off + L ≤ j → Nt.lb zs j = Nt.lb os j) := by
        have h := Hs.out
        rw [hke] at h
        exact h
      clear hv Heq Hs
      subst hke
      go_wp2
      go_end0
      exact ⟨q, zs, by simp, hq0, hq1, Hzl.out, hzo, HS0.out, HV.out, hrow, hbr⟩

set_option maxHeartbeats 2000000 in
theorem takeOff_yes {w : World} {bo : Option Addr} {rc bc g off L : Nat} {vs os : List Int} {x : Int} (hr : Row .u32 41 w g os) (hoo : Nt.Ok os) (hL : vs.length = L) (hfit : off + L < os.length) (hrc : L + 1 ≤ rc)
    (hvc : Cells .u32 w bo vs) (hvo : Nt.Ok vs) (haw : 0 < vs.length → Away g bo) (hm : L ≤ 2199023255552) (hx : 0 ≤ x ∧ x < 4294967296) (hge : x * Nt.val vs * Nt.pw off ≤ Nt.vt os (off + L + 1) - Nt.vt os off) :
    Calls Tryz.prog 185 #[.slice (some ⟨g, off, none⟩) (L + 1) rc, .slice bo L bc, .int .u64 x] w fun e w' => ∃ zs : List Int, e = .returned (.bool true) ∧ zs.length = os.length ∧ Nt.Ok zs ∧
      (∀ j, j < off ∨ off + L + 1 ≤ j → Nt.lb zs j = Nt.lb os j) ∧ Nt.vt zs (off + L + 1) = Nt.vt os (off + L + 1) - x * Nt.val vs * Nt.pw off ∧ Row .u32 41 w' g zs ∧ Only g w w' := by
  have i1 : L ≤ rc := by omega
  have HG := hide hge
  clear hge
  go_enter Tryz.func185, Tryz.ntmps185
  go_wp2_with fail
  refine (lessen_any hr hoo hL (by omega) (fun _ => rfl) hvc hvo haw hm hx).mono ?_
  rintro e w1 ⟨c, zs, rfl, hc0, hc1, hzl, hzo, hsame, hv, hrow, hon⟩
  have hsg := Nt.off_sign hzo (fun j hj => hsame j (by omega)) (hsame (off + L) (by omega)) hv
  have hcz : c ≤ Nt.lb zs (off + L) := by
    rcases Int.lt_or_le (Nt.lb zs (off + L)) c with h | h
    · have h1 := hsg.1 h; have h2 := HG.out; omega
    · exact h
  have hnl : ¬ Nt.lb zs (off + L) < c := by omega
  have bz := hzo (off + L)
  obtain ⟨bz0, bz1⟩ := bz
  have g2 := hrow.cell (i := off + L) (by omega)
  have hfz := hrow.frozen (off + L)
  have htop := hsame (off + L) (by omega)
  have hfin : Nt.vt (zs.set (off + L) (Nt.lb zs (off + L) - c)) (off + L + 1) = Nt.vt os (off + L + 1) - x * Nt.val vs * Nt.pw off := by
    rw [Nt.vt_succ, Nt.vt_set (Nat.le_refl _), Nt.lb_set_eq (by omega), Nt.vt_succ, ← htop]
    grind
  have HF := hide hfin
  have HS := hide hsame
  have HZ := hide hzl
  clear hfin hsame hzl hsg hv htop
  go_wp2
  go_ret
  exact ⟨zs.set (off + L) (Nt.lb zs (off + L) - c), rfl, by rw [List.length_set]; exact HZ.out, Nt.ok_set hzo (by omega), fun j hj => by rw [Nt.lb_set_ne (by omega)]; exact HS.out j (by omega), HF.out, hrow.set _ _, hon.set _ _⟩

set_option maxHeartbeats 2000000 in
theorem takeOff_no {w : World} {bo : Option Addr} {rc bc g off L : Nat} {vs os : List Int} {x : Int} (hr : Row .u32 41 w g os) (hoo : Nt.Ok os) (hL : vs.length = L) (hfit : off + L < os.length) (hrc : L + 1 ≤ rc)
    (hvc : Cells .u32 w bo vs) (hvo : Nt.Ok vs) (haw : 0 < vs.length → Away g bo) (hm : L ≤ 2199023255552) (hx : 0 ≤ x ∧ x < 4294967296) (hlt : Nt.vt os (off + L + 1) - Nt.vt os off < x * Nt.val vs * Nt.pw off) :
    Calls Tryz.prog 185 #[.slice (some ⟨g, off, none⟩) (L + 1) rc, .slice bo L bc, .int .u64 x] w fun e w' => e = .returned (.bool false) ∧ Row .u32 41 w' g os ∧ Only g w w' := by
  have i1 : L ≤ rc := by omega
  have HG := hide hlt
  clear hlt
  go_enter Tryz.func185, Tryz.ntmps185
  go_wp2_with fail
  refine (lessen_any hr hoo hL (by omega) (fun _ => rfl) hvc hvo haw hm hx).mono ?_
  rintro e w1 ⟨c, zs, rfl, hc0, hc1, hzl, hzo, hsame, hv, hrow, hon⟩
  have hsg := Nt.off_sign hzo (fun j hj => hsame j (by omega)) (hsame (off + L) (by omega)) hv
  have hcz : Nt.lb zs (off + L) < c := by
    rcases Int.lt_or_le (Nt.lb zs (off + L)) c with h | h
    · exact h
    · have h1 := hsg.2 h; have h2 := HG.out; omega
  have bz := hzo (off + L)
  obtain ⟨bz0, bz1⟩ := bz
  have g2 := hrow.cell (i := off + L) (by omega)
  have HV := hide hv
  have HS := hide hsame
  have HZ := hide hzl
  clear hsame hzl hsg hv
  go_wp2_with fail
  refine (addBack_any hrow hzo hL (by rw [HZ.out]; omega) (fun _ => rfl) (hon.cells hvc haw) hvo haw hm hx).mono ?_
  rintro e w2 ⟨d, ys, rfl, hd0, hd1, hyl, hyo, hsame2, hv2, hrow2, hon2⟩
  have hys : ys = os := Nt.back_same hyo hoo (by rw [hyl, HZ.out]) (fun j hj => (hsame2 j hj).trans (HS.out j hj)) HV.out hv2
  rw [hys] at hrow2
  clear hsame2 hv2 hyl hys
  go_wp2
  go_ret
  exact ⟨rfl, hrow2, hon.trans hon2⟩

end Go.Proofs.YtejenbkhhcjeaaaGreatDoor

namespace Go.Proofs.YtejenbkhhcjeaaaGreatDoor
open Go.RowKit

theorem raised_step {xs zs : List Int} {k : Nat} {q P t : Int} (hk : k < zs.length) (ht : t = q + Nt.lb xs k * P) (h : Nt.vt zs k + q * Nt.pw k = Nt.vt xs k * P) :
    Nt.vt (zs.set k (t % 4294967296)) (k + 1) + t / 4294967296 * Nt.pw (k + 1) = Nt.vt xs (k + 1) * P := by
  rw [Nt.vt_succ, Nt.vt_set (Nat.le_refl _), Nt.lb_set_eq hk, Nt.vt_succ, Nt.pw_succ]
  have e : t % 4294967296 + 4294967296 * (t / 4294967296) = t := Int.emod_add_mul_ediv _ _
  generalize t % 4294967296 = r at *
  generalize t / 4294967296 = s at *
  grind
/-- the bits that are carried lie below those that are shifted -/
theorem or_low {n : Nat} {a c : Int} (ha : 0 ≤ a) (hc0 : 0 ≤ c) (hc1 : c < p2 n) (hlt : a * p2 n + c < 18446744073709551616) : bits .or .u64 c (a * p2 n) = c + a * p2 n := by
  obtain ⟨x, rfl⟩ := Int.eq_ofNat_of_zero_le ha
  obtain ⟨y, rfl⟩ := Int.eq_ofNat_of_zero_le hc0
  rw [p2_cast] at *
  have e : ((x : Int) * ((2 ^ n : Nat) : Int)) = ((x * 2 ^ n : Nat) : Int) := by rw [Int.natCast_mul]
  rw [e] at hlt ⊢
  have hy : y < 2 ^ n := by omega
  rw [u64_or_nat _ _ (by omega) (by omega), Nat.or_comm, nat_join n (x * 2 ^ n) y (Nat.mul_mod_left _ _) hy]
  omega

set_option maxHeartbeats 2000000 in
theorem raised_any {w : World} {ao : Option Addr} {ca n : Nat} {xs : List Int} (hxc : Cells .u32 w ao xs) (hxo : Nt.Ok xs) (hm : xs.length ≤ 1099511627776) (hn : n < 32) :
    Calls Tryz.prog 162 #[.slice ao xs.length ca, .int .i64 n] w fun e w' => ∃ (g : Nat) (zs : List Int), e = .returned (.slice (some ⟨g, 0, none⟩) zs.length zs.length) ∧ w.heap.size ≤ g ∧ Row .u32 41 w' g zs ∧ Nt.Ok zs ∧
      zs.length = xs.length + 1 ∧ Nt.val zs = Nt.val xs * p2 n ∧ Below w.heap.size w w' := by
  have hn0 : ¬ (n : Int) < 0 := by omega
  have hn32 : (n : Int) < 32 := by omega
  have hp := p2_pos n
  have hp31 : p2 n ≤ 2147483648 := p2_mono (m := n) (n := 31) (by omega)
  go_enter Tryz.func162, Tryz.ntmps162
  go_wp2_with (at_make; refine wpList_make_row _ rfl _ _ 23 rfl 41 .u32 4 Tryz.underlying23 Tryz.infoU32 _ _ _ _ (xs.length + 1) (xs.length + 1) rfl rfl (by omega) (by omega) (Nat.le_refl _) (by omega) (by unfold maxLen; omega) ?_)
  intro w1 hr hbel hsz
  go_wp2
  go_loopw [6, 14] (fun c i wr => ∃ (k : Nat) (q : Int) (zs : List Int), k ≤ xs.length ∧ i = .int .i64 k ∧ c = .int .u64 q ∧ 0 ≤ q ∧ q < p2 n ∧ zs.length = xs.length + 1 ∧ Nt.Ok zs ∧ Row .u32 41 wr w.heap.size zs ∧ Below w.heap.size w wr ∧ Nt.vt zs k + q * Nt.pw k = Nt.vt xs k * p2 n) (fun _ i _ => xs.length - (intOf i).toNat)
  case atStart => exact ⟨0, 0, List.replicate (xs.length + 1) 0, by omega, rfl, rfl, by omega, hp, by simp, Nt.ok_replicate _, hr, hbel, by simp [Nt.vt]⟩
  case round =>
    obtain ⟨k, q, zs, hk, rfl, rfl, hq0, hq1, hzl, hzo, hrow, hbr, heq⟩ := hrel
    have Heq := hide heq
    have Hzl := hide hzl
    clear heq hzl hr hbel
    by_cases hkl : k < xs.length
    · obtain ⟨b1, o1, rfl, _, hc1⟩ := (hxc.below hbr) (by omega)
      have g1 := hc1 k hkl
      have g2 := hrow.cell (i := k) (by have := Hzl.out; omega)
      have hfz := hrow.frozen k
      obtain ⟨bx0, bx1⟩ := hxo k
      have hb1 : 0 ≤ Nt.lb xs k * p2 n := Int.mul_nonneg bx0 (by omega)
      have hb2 : Nt.lb xs k * p2 n ≤ 4294967295 * p2 n := Int.mul_le_mul_of_nonneg_right (by omega) (by omega)
      have hor := or_low (n := n) (a := Nt.lb xs k) (c := q) bx0 hq0 hq1 (by omega)
      have hpn := p2_pow n
      have hst := raised_step (xs := xs) (zs := zs) (k := k) (q := q) (P := p2 n) (by have := Hzl.out; omega) rfl Heq.out
      have hq2 : (q + Nt.lb xs k * p2 n) / 4294967296 < p2 n := by omega
      have hq3 : 0 ≤ (q + Nt.lb xs k * p2 n) / 4294967296 := by omega
      rw [hpn] at hor hb1 hb2
      have Hst := hide hst
      have Hq2 := hide hq2
      have Hq3 := hide hq3
      have Hpn := hide hpn
      have hwr : IntKind.u64.wrap (Nt.lb xs k * 2 ^ n) = Nt.lb xs k * 2 ^ n := by rw [IntKind.wrap_u64]; exact Int.emod_eq_of_lt hb1 (by omega)
      clear hc1 hst hq2 hq3 hpn
      go_wp2
      go_roundw
      case rel => exact ⟨k + 1, (q + Nt.lb xs k * p2 n) / 4294967296, zs.set k ((q + Nt.lb xs k * p2 n) % 4294967296), by omega, by go_num, by rw [Hpn.out], Hq3.out, Hq2.out, by have := Hzl.out; simp [this], Nt.ok_set hzo (by omega), by rw [Hpn.out]; exact hrow.set _ _, hbr.setCell (Nat.le_refl _) _, Hst.out⟩
      case measure => simp [intOf]; omega
    · have hke : k = xs.length := by omega
      subst hke
      have g2 := hrow.cell (i := xs.length) (by have := Hzl.out; omega)
      have hfz := hrow.frozen xs.length
      have hq2 : q < 4294967296 := by omega
      have hz2 : zs.length = xs.length + 1 := Hzl.out
      have hfin : Nt.val (zs.set xs.length q) = Nt.val xs * p2 n := by
        unfold Nt.val
        rw [List.length_set, hz2, Nt.vt_succ, Nt.vt_set (Nat.le_refl _), Nt.lb_set_eq (by omega)]
        exact Heq.out
      have HF := hide hfin
      have hok : Nt.Ok (zs.set xs.length q) := Nt.ok_set hzo (by omega)
      clear hfin Heq hz2
      go_wp2
      go_ret
      exact ⟨w.heap.size, zs.set xs.length q, by rw [List.length_set, Hzl.out]; rfl, Nat.le_refl _, hrow.set _ _, hok, by rw [List.length_set, Hzl.out], HF.out, hbr.setCell (Nat.le_refl _) _⟩

end Go.Proofs.YtejenbkhhcjeaaaGreatDoor

namespace Go.Proofs.YtejenbkhhcjeaaaGreatDoor
open Go.RowKit

set_option maxHeartbeats 1000000 in
theorem div32_any (x y d : Int) (w : World) (hx0 : 0 ≤ x) (hx1 : x < d) (hy0 : 0 ≤ y) (hy1 : y < 4294967296) (hd1 : d < 4294967296) :
    Calls Tryz.prog 184 #[.int .u32 x, .int .u32 y, .int .u32 d] w fun e w' => e = .returned (.tuple #[.int .u32 ((x * 4294967296 + y) / d), .int .u32 ((x * 4294967296 + y) % d)]) ∧ Below w.heap.size w w' := by
  have hj := or_join x y hx0 (by omega) hy0 hy1
  have h1 : (d != 0) = true := by simp; omega
  have h2 : ¬ d ≤ x := by omega
  go_enter Tryz.func184, Tryz.ntmps184
  go_wp2
  go_region
  all_goals go_wp2
  all_goals go_ret2
  have q0 : 0 ≤ (x * 4294967296 + y) / d := Int.ediv_nonneg (by omega) (by omega)
  have q1 : (x * 4294967296 + y) / d < 4294967296 := Int.ediv_lt_of_lt_mul (by omega) (by omega)
  have r0 : 0 ≤ (x * 4294967296 + y) % d := Int.emod_nonneg _ (by omega)
  have r1 : (x * 4294967296 + y) % d < d := Int.emod_lt_of_pos _ (by omega)
  have e1 : (x * 4294967296 + y) / d % 4294967296 = (x * 4294967296 + y) / d := by omega
  have e2 : (x * 4294967296 + y) % d % 4294967296 = (x * 4294967296 + y) % d := by omega
  refine ⟨?_, (Below.refl _ _).drew⟩
  rw [e1, e2]
  rfl

theorem vt_set_add {zs : List Int} {i : Nat} (hi : i < zs.length) (h0 : Nt.lb zs i = 0) (q : Int) (n : Nat) (hn : i < n) : Nt.vt (zs.set i q) n = Nt.vt zs n + q * Nt.pw i := by
  induction n with
  | zero => omega
  | succ n ih =>
    rw [Nt.vt_succ, Nt.vt_succ]
    by_cases e : i = n
    · subst e; rw [Nt.vt_set (Nat.le_refl _), Nt.lb_set_eq hi, h0]; simp
    · rw [Nt.lb_set_ne e, ih (by omega)]; omega
theorem val_set_add {zs : List Int} {i : Nat} (hi : i < zs.length) (h0 : Nt.lb zs i = 0) (q : Int) : Nt.val (zs.set i q) = Nt.val zs + q * Nt.pw i := by
  unfold Nt.val
  rw [List.length_set]
  exact vt_set_add hi h0 q _ hi

/-- one round of a division, from the top -/
theorem small_step {xs zs : List Int} {m : Nat} {r d V : Int} (hm : m < zs.length) (h0 : Nt.lb zs m = 0) (h : V = Nt.vt xs (m + 1) + Nt.val zs * d + r * Nt.pw (m + 1)) :
    V = Nt.vt xs m + Nt.val (zs.set m ((r * 4294967296 + Nt.lb xs m) / d)) * d + ((r * 4294967296 + Nt.lb xs m) % d) * Nt.pw m := by
  rw [h, val_set_add hm h0, Nt.vt_succ, Nt.pw_succ]
  have e : (r * 4294967296 + Nt.lb xs m) % d + d * ((r * 4294967296 + Nt.lb xs m) / d) = r * 4294967296 + Nt.lb xs m := Int.emod_add_mul_ediv _ _
  generalize (r * 4294967296 + Nt.lb xs m) % d = s at *
  generalize (r * 4294967296 + Nt.lb xs m) / d = q at *
  have e2 : (s + d * q) * Nt.pw m = (r * 4294967296 + Nt.lb xs m) * Nt.pw m := by rw [e]
  rw [Int.add_mul, Int.add_mul] at e2
  rw [Int.add_mul, ← Int.mul_assoc r]
  have e3 : q * Nt.pw m * d = d * q * Nt.pw m := by rw [Int.mul_comm, ← Int.mul_assoc]
  rw [e3]
  omega

set_option maxHeartbeats 1000000 in
theorem small_no {w : World} {va : Value} :
    Calls Tryz.prog 160 #[va, .int .u32 0] w fun e w' => e = .returned (.tuple #[.slice none 0 0, .int .u32 0, .bool false]) ∧ w' = w := by
  go_enter Tryz.func160, Tryz.ntmps160
  go_wp2
  go_ret3
  exact ⟨rfl, rfl⟩

set_option maxHeartbeats 2000000 in
theorem small_yes {w : World} {va : Value} {n d : Int} {ka : Nat} (ha : Arg w va n ka) (hka : ka ≤ 1099511627776) (hd0 : 0 < d) (hd1 : d < 4294967296) :
    Calls Tryz.prog 160 #[va, .int .u32 d] w fun e w' => ∃ v, e = .returned (.tuple #[v, .int .u32 (n % d), .bool true]) ∧ Num w.heap.size w' v (n / d) ka ∧ Below w.heap.size w w' := by
  have hdz : (d == 0) = false := by simp; omega
  go_enter Tryz.func160, Tryz.ntmps160
  go_wp2_with fail
  refine (trim_arg ha).mono ?_
  rintro e w' ⟨rfl, ao, xs, rfl, hxk, hxm, hxc, hx, rfl⟩
  clear ha
  go_wp2_with (at_make; refine wpList_make_row _ rfl _ _ 23 rfl 41 .u32 4 Tryz.underlying23 Tryz.infoU32 _ _ _ _ xs.length xs.length rfl rfl (by omega) (by omega) (Nat.le_refl _) (by omega) (by unfold maxLen; omega) ?_)
  intro w1 hr hbel hsz
  go_wp2
  go_loopw [5, 19] (fun c i wr => ∃ (k : Nat) (r : Int) (zs : List Int), k ≤ xs.length ∧ i = .int .i64 k ∧ c = .int .u32 r ∧ 0 ≤ r ∧ r < d ∧ zs.length = xs.length ∧ Nt.Ok zs ∧ (∀ j, j < xs.length - k → Nt.lb zs j = 0) ∧ Row .u32 41 wr w'.heap.size zs ∧ Below w'.heap.size w' wr ∧
      Nt.val xs = Nt.vt xs (xs.length - k) + Nt.val zs * d + r * Nt.pw (xs.length - k)) (fun _ i _ => xs.length - (intOf i).toNat)
  case atStart => exact ⟨0, 0, List.replicate xs.length 0, by omega, rfl, rfl, by omega, by omega, by simp, Nt.ok_replicate _, fun j _ => Nt.lb_replicate _ _, hr, hbel, by
    have e : Nt.val (List.replicate xs.length 0) = 0 := by
      unfold Nt.val; rw [Nt.vt_cut (k := 0) (by omega) (fun i _ _ => Nt.lb_replicate _ _)]; rfl
    rw [e]; simp [Nt.val]⟩
  case round =>
    obtain ⟨k, r, zs, hk, rfl, rfl, hr0, hr1, hzl, hzo, hz0, hrow, hbr, heq⟩ := hrel
    have Heq := hide heq
    have Hzl := hide hzl
    have Hz := hide hz0
    clear heq hzl hz0 hr hbel
    by_cases hkl : k < xs.length
    · obtain ⟨b1, o1, rfl, hb1, hc1⟩ := (hxc.below hbr) (by omega)
      have g1 := hc1 (xs.length - 1 - k) (by omega)
      have bx := hx.1 (xs.length - 1 - k)
      obtain ⟨bx0, bx1⟩ := bx
      have hfz := hrow.frozen (xs.length - 1 - k)
      have hcl := hrow.cell (i := xs.length - 1 - k) (by have := Hzl.out; omega)
      have q0 : 0 ≤ (r * 4294967296 + Nt.lb xs (xs.length - 1 - k)) / d := Int.ediv_nonneg (by omega) (by omega)
      have q1 : (r * 4294967296 + Nt.lb xs (xs.length - 1 - k)) / d < 4294967296 := Int.ediv_lt_of_lt_mul (by omega) (by omega)
      have r0 : 0 ≤ (r * 4294967296 + Nt.lb xs (xs.length - 1 - k)) % d := Int.emod_nonneg _ (by omega)
      have r1 : (r * 4294967296 + Nt.lb xs (xs.length - 1 - k)) % d < d := Int.emod_lt_of_pos _ (by omega)
      have hst := small_step (xs := xs) (zs := zs) (m := xs.length - 1 - k) (r := r) (d := d) (V := Nt.val xs) (by have := Hzl.out; omega) (Hz.out _ (by omega)) (by rw [show xs.length - 1 - k + 1 = xs.length - k by omega]; exact Heq.out)
      have Hst := hide hst
      clear hc1 hxc hst
      go_wp2_with fail
      refine (div32_any r (Nt.lb xs (xs.length - 1 - k)) d _ hr0 hr1 bx0 bx1 hd1).mono ?_
      rintro e w3 ⟨rfl, hb3⟩
      have hr3 := hrow.keeps hb3
      have hfz3 := hr3.frozen (xs.length - 1 - k)
      have hcl3 := hr3.cell (i := xs.length - 1 - k) (by have := Hzl.out; omega)
      have hbr3 : Below w'.heap.size w' w3 := hbr.trans (hb3.mono hbr.size)
      clear hfz hcl hrow hb3 hbr
      go_wp2
      go_roundw
      case rel => exact ⟨k + 1, (r * 4294967296 + Nt.lb xs (xs.length - 1 - k)) % d, zs.set (xs.length - 1 - k) ((r * 4294967296 + Nt.lb xs (xs.length - 1 - k)) / d), by omega, by go_num, rfl, r0, r1, by have := Hzl.out; simp [this], Nt.ok_set hzo ⟨q0, q1⟩, fun j hj => by
        rw [Nt.lb_set_ne (by omega)]; exact Hz.out j (by omega), hr3.set _ _, hbr3.setCell (p := ⟨w'.heap.size, xs.length - 1 - k, none⟩) (Nat.le_refl _) _, by
        rw [show xs.length - (k + 1) = xs.length - 1 - k by omega]; exact Hst.out⟩
      case measure => simp [intOf]; omega
    · have hke : k = xs.length := by omega
      subst hke
      have hz2 : zs.length = xs.length := Hzl.out
      have hfin : Nt.val xs = Nt.val zs * d + r := by
        have := Heq.out
        rw [Nat.sub_self] at this
        simp only [Nt.vt, Nt.pw] at this
        omega
      have hq : Nt.val xs / d = Nt.val zs ∧ Nt.val xs % d = r := by
        rw [Int.ediv_emod_unique hd0]
        refine ⟨?_, hr0, hr1⟩
        rw [hfin, Int.mul_comm]; omega
      obtain ⟨hq1, hq2⟩ := hq
      have ht := trim_row (B := w'.heap.size) (cap := zs.length) hrow (Nat.le_refl _) (Nat.le_refl _) (by rw [hz2]; unfold maxLen; omega) hzo
      rw [hz2] at ht
      have Hq1 := hide hq1
      have Hq2 := hide hq2
      clear hz2 hfin Heq hq1 hq2
      go_wp2_with fail
      refine ht.mono ?_
      rintro e w3 ⟨rfl, v, rfl, hnum⟩
      go_wp2
      go_ret3
      refine ⟨v, ?_, ?_, hbr⟩
      · rw [Hq2.out]; rfl
      · rw [Hq1.out]; exact hnum.mono hxk

end Go.Proofs.YtejenbkhhcjeaaaGreatDoor

namespace Go.Proofs.YtejenbkhhcjeaaaGreatDoor
open Go.RowKit

set_option maxHeartbeats 400000 in
theorem at_any (ao : Option Addr) (cap : Nat) (xs : List Int) (k : Nat) (w : World) (hm : xs.length ≤ maxLen) (hc : Cells .i64 w ao xs) :
    Calls Tryz.prog 157 #[.slice ao xs.length cap, .int .i64 k] w fun e w' => e = .returned (.int .i64 (Nt.lb xs k)) ∧ w' = w := by
  unfold maxLen at hm
  by_cases h : k < xs.length
  · obtain ⟨b, off, rfl, hb, hcell⟩ := hc (by omega)
    have hg := hcell k h
    clear hcell hc
    go_enter Tryz.func157, Tryz.ntmps157
    go_wp2
    go_ret
    exact ⟨rfl, rfl⟩
  · have e0 : Nt.lb xs k = 0 := Nt.lb_out (by omega)
    rw [e0]
    clear e0 hc
    go_enter Tryz.func157, Tryz.ntmps157
    go_wp2
    go_ret
    exact ⟨rfl, rfl⟩

set_option maxHeartbeats 400000 in
theorem rnorm_any {w : World} {va : Value} {A : Int} {ka : Nat} (ha : Arg w va A ka) (hka : ka ≤ 1099511627776) :
    Calls Tryz.prog 110 #[va] w fun e w' => ∃ v, e = .returned v ∧ Num w.heap.size w' v A ka ∧ Below w.heap.size w w' := by
  go_enter Tryz.func110, Tryz.ntmps110
  go_wp2_with fail
  refine (bytes_any ha hka).mono ?_
  rintro e w1 ⟨v1, rfl, h1, hb1⟩
  go_wp2_with fail
  refine (limbs_any h1.arg (by omega)).mono ?_
  rintro e w2 ⟨v2, rfl, h2, hb2⟩
  go_wp2
  go_ret
  exact ⟨v2, rfl, (num_since h2 hb1.size).mono (by omega), below_trans hb1 hb2⟩

set_option maxHeartbeats 1000000 in
theorem rfrom_any {w : World} (X : Int) (h0 : 0 ≤ X) (h1 : X < 18446744073709551616) :
    Calls Tryz.prog 120 #[.int .u64 X] w fun e w' => ∃ v, e = .returned v ∧ Num w.heap.size w' v X 2 ∧ Below w.heap.size w w' := by
  go_enter Tryz.func120, Tryz.ntmps120
  go_wp2
  go_loopw [0, 3] (fun sx out wr => ∃ (x : Int) (zs : List Int), sx = .int .u64 x ∧ 0 ≤ x ∧ x ≤ X ∧ zs.length ≤ 8 ∧ x < Nb.pw (8 - zs.length) ∧ Nb.Ok zs ∧ Nb.val zs + x * Nb.pw zs.length = X ∧ wr.ownsRow w.heap.size 3 1 out zs.length (zs.map (Value.int .i64)) ∧ Below w.heap.size w wr)
    (fun sx _ _ => (intOf sx).toNat)
  case atStart => exact ⟨X, [], rfl, h0, Int.le_refl _, by simp, by rw [List.length_nil, show Nb.pw (8 - 0) = 18446744073709551616 by decide]; exact h1, Nb.ok_nil, by simp [Nb.val, Nb.vt, Nb.pw], by simpa using World.ownsRow_nil w w.heap.size 3 1, Below.refl _ _⟩
  case round =>
    obtain ⟨x, zs, rfl, hx0, hxX, hzl, hx1, hzo, hzv, hown, hbr⟩ := hrel
    have Hx1 := hide hx1
    have Hzv := hide hzv
    clear hx1 hzv
    by_cases hp : 0 < x
    · have hlt : zs.length < 8 := by
        by_cases h : zs.length < 8
        · exact h
        · have := Hx1.out
          rw [show 8 - zs.length = 0 by omega] at this
          simp only [Nb.pw] at this
          omega
      have hsz := hbr.size
      go_wp2_with (at_builtin; refine wpList_append_cells _ rfl _ _ 99 rfl w.heap.size 3 .i64 8 Tryz.underlying99 Tryz.infoI64 _ zs.length zs rfl (hown.alloc _) (some ⟨wr.heap.size, 0, none⟩) 1 [x % 256] rfl (cells_one _ _ _ _) (by unfold maxLen; simp; omega) (by simp; omega) (by simp; omega) ?_)
      intro v' w1 hown' hgrow
      have hb1 : Below w.heap.size w w1 := below_own (hbr.alloc hsz _) (by simp; omega) (hown.alloc _) hgrow
      have Hst := hide (byte_step (V := Nb.val zs) (x := x) (P := Nb.pw zs.length))
      have Hown' := hide hown'
      clear hown' hgrow hown
      go_wp2
      go_roundw
      case rel => exact ⟨x / 256, zs ++ [x % 256], rfl, by omega, by omega, by simp; omega, by
        have h := Hx1.out
        rw [show 8 - zs.length = (8 - (zs.length + 1)) + 1 by omega, Nb.pw_succ] at h
        rw [List.length_append, List.length_singleton]
        omega, Nb.ok_snoc hzo (by omega), by
        rw [Nb.val_snoc, List.length_append, List.length_singleton, Nb.pw_succ, Hst.out]; exact Hzv.out, by simpa using Hown'.out, hb1⟩
      case measure => simp [intOf]; omega
    · have hx00 : x = 0 := by omega
      subst hx00
      go_wp2_with fail
      refine (limbs_any (ka := 8) ⟨zs, reads_of_owns hown, hzo, rfl, hzl⟩ (by omega)).mono ?_
      rintro e w2 ⟨v, rfl, hv, hb2⟩
      have hX : Nb.val zs = X := by have := Hzv.out; rw [Int.zero_mul, Int.add_zero] at this; exact this
      rw [hX] at hv
      have Hv := hide hv
      clear hv hX
      go_wp2
      go_ret
      exact ⟨v, rfl, num_since Hv.out hbr.size, hbr.trans (hb2.mono hbr.size)⟩

theorem pb_eight : Nb.pw 8 = 18446744073709551616 := by decide

end Go.Proofs.YtejenbkhhcjeaaaGreatDoor
