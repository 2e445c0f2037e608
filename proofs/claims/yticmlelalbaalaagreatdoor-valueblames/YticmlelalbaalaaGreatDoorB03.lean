import Derived.Test.YticmlelalbaalaaGreatDoorB02
import Derived.Deep.RegionWith
namespace Go.Proofs.YticmlelalbaalaaGreatDoor
open Go.RowKit
def p2 : Nat → Int
  | 0 => 1
  | n + 1 => 2 * p2 n
theorem p2_pos (n : Nat) : 0 < p2 n := by
  induction n with
  | zero => decide
  | succ n ih => simp only [p2]; omega
theorem p2_add (m n : Nat) : p2 (m + n) = p2 m * p2 n := by
  induction n with
  | zero => simp [p2]
  | succ n ih => rw [← Nat.add_assoc]; simp only [p2]; rw [ih, Int.mul_left_comm]
theorem p2_mono {m n : Nat} (h : m ≤ n) : p2 m ≤ p2 n := by
  obtain ⟨k, rfl⟩ := Nat.exists_eq_add_of_le h
  rw [p2_add]
  have h1 := p2_pos k
  have h2 := p2_pos m
  have : p2 m * 1 ≤ p2 m * p2 k := Int.mul_le_mul_of_nonneg_left (by omega) (by omega)
  omega
theorem p2_32 (n : Nat) : p2 (32 * n) = Nt.pw n := by
  induction n with
  | zero => rfl
  | succ n ih => rw [Nat.mul_succ, p2_add, ih, Nt.pw_succ, show p2 32 = 4294967296 from by decide, Int.mul_comm]
def IsLen (x : Int) (k : Nat) : Prop := x < p2 k ∧ (0 < k → p2 (k - 1) ≤ x)
theorem isLen_unique {x : Int} {k m : Nat} (h1 : IsLen x k) (h2 : IsLen x m) : k = m := by
  rcases Nat.lt_trichotomy k m with h | h | h
  · have a := h2.2 (by omega)
    have b := p2_mono (m := k) (n := m - 1) (by omega)
    have c := h1.1
    omega
  · exact h
  · have a := h1.2 (by omega)
    have b := p2_mono (m := m) (n := k - 1) (by omega)
    have c := h2.1
    omega
theorem isLen_shift {x : Int} {k m : Nat} {P : Int} (hP : P = p2 m) (h : IsLen (x / P) k) (hk : 0 < k) : IsLen x (k + m) := by
  subst hP
  have hm := p2_pos m
  have hd : p2 m * (x / p2 m) ≤ x := by have := Int.mul_ediv_add_emod x (p2 m); have := Int.emod_nonneg x (b := p2 m) (by omega); omega
  have hu : x < p2 m * (x / p2 m) + p2 m := by have := Int.mul_ediv_add_emod x (p2 m); have := Int.emod_lt_of_pos x (b := p2 m) (by omega); omega
  obtain ⟨h1, h2⟩ := h
  have h3 := h2 hk
  refine ⟨?_, fun _ => ?_⟩
  · rw [p2_add, Int.mul_comm]
    have : p2 m * (x / p2 m + 1) ≤ p2 m * p2 k := Int.mul_le_mul_of_nonneg_left (by omega) (by omega)
    rw [Int.mul_add] at this
    omega
  · rw [show k + m - 1 = (k - 1) + m by omega, p2_add, Int.mul_comm]
    have : p2 m * p2 (k - 1) ≤ p2 m * (x / p2 m) := Int.mul_le_mul_of_nonneg_left h3 (by omega)
    omega
def lenTab : ByteArray := ⟨#[0, 1, 2, 2, 3, 3, 3, 3, 4, 4, 4, 4, 4, 4, 4, 4, 5, 5, 5, 5, 5, 5, 5, 5, 5, 5, 5, 5, 5, 5, 5, 5, 6, 6, 6, 6, 6, 6, 6, 6, 6, 6, 6, 6, 6, 6, 6, 6, 6, 6, 6, 6, 6, 6, 6, 6, 6, 6, 6, 6, 6, 6, 6, 6, 7, 7, 7, 7, 7, 7, 7, 7, 7, 7, 7, 7, 7, 7, 7, 7, 7, 7, 7, 7, 7, 7, 7, 7, 7, 7, 7, 7, 7, 7, 7, 7, 7, 7, 7, 7, 7, 7, 7, 7, 7, 7, 7, 7, 7, 7, 7, 7, 7, 7, 7, 7, 7, 7, 7, 7, 7, 7, 7, 7, 7, 7, 7, 7, 8, 8, 8, 8, 8, 8, 8, 8, 8, 8, 8, 8, 8, 8, 8, 8, 8, 8, 8, 8, 8, 8, 8, 8, 8, 8, 8, 8, 8, 8, 8, 8, 8, 8, 8, 8, 8, 8, 8, 8, 8, 8, 8, 8, 8, 8, 8, 8, 8, 8, 8, 8, 8, 8, 8, 8, 8, 8, 8, 8, 8, 8, 8, 8, 8, 8, 8, 8, 8, 8, 8, 8, 8, 8, 8, 8, 8, 8, 8, 8, 8, 8, 8, 8, 8, 8, 8, 8, 8, 8, 8, 8, 8, 8, 8, 8, 8, 8, 8, 8, 8, 8, 8, 8, 8, 8, 8, 8, 8, 8, 8, 8, 8, 8, 8, 8, 8, 8, 8, 8, 8, 8, 8, 8, 8, 8, 8, 8]⟩
theorem lenTab_all : (List.range 256).all (fun n => decide ((n : Int) < p2 (lenTab.data.getD n 0).toNat) && (decide ((lenTab.data.getD n 0).toNat = 0) || decide (p2 ((lenTab.data.getD n 0).toNat - 1) ≤ (n : Int))) && decide ((lenTab.data.getD n 0).toNat ≤ 8)) = true := by decide +kernel
theorem lenTab_size : lenTab.size = 256 := by decide +kernel
theorem lenTab_ok (n : Nat) (h : n < 256) (h' : n < lenTab.size) : IsLen (n : Int) (lenTab[n]'h').toNat ∧ (lenTab[n]'h').toNat ≤ 8 := by
  have := List.all_eq_true.1 lenTab_all n (by simpa using h)
  have e : lenTab.data.getD n 0 = lenTab[n]'h' := by
    simp [Array.getD, ByteArray.getElem_eq_getElem_data]
    rw [dif_pos h']
  rw [e] at this
  simp only [Bool.and_eq_true, Bool.or_eq_true, decide_eq_true_eq] at this
  exact ⟨⟨this.1.1, fun hk => by rcases this.1.2 with h | h; omega; exact h⟩, this.2⟩
theorem ret_int {k : IntKind} {a b : Int} (h : a = b) : Ending.returned (.int k a) = .returned (.int k b) := by rw [h]
theorem tab_at (y : Int) (h0 : 0 ≤ y) (h1 : y < 256) (h' : y.toNat < lenTab.size) : IsLen y (lenTab[y.toNat]'h').toNat ∧ (lenTab[y.toNat]'h').toNat ≤ 8 := by
  have := lenTab_ok y.toNat (by omega) h'
  rw [Int.toNat_of_nonneg h0] at this
  exact this
theorem len_pos {y : Int} {k : Nat} (h : IsLen y k) (hy : 1 ≤ y) : 0 < k := by
  rcases Nat.eq_zero_or_pos k with h0 | h0
  · subst h0; have := h.1; simp only [p2] at this; omega
  · exact h0
set_option maxRecDepth 100000 in
set_option maxHeartbeats 1000000 in
theorem len32_any (x : Int) (w : World) (hx0 : 0 ≤ x) (hx1 : x < 4294967296) :
    Calls Tryz.prog 156 #[.int .u32 x] w fun e w' => ∃ k : Nat, e = .returned (.int .i64 k) ∧ IsLen x k ∧ k ≤ 32 ∧ w' = w := by
  by_cases h1 : x < 256
  · have a1 : ¬ 65536 ≤ x := by omega
    have a2 : ¬ 256 ≤ x := by omega
    go_enter Tryz.func156, Tryz.ntmps156
    go_wp2
    go_ret
    have hsz := lenTab_size
    have hs' : (x).toNat < lenTab.size := by omega
    obtain ⟨t1, t2⟩ := tab_at (x) (by omega) (by omega) hs'
    refine ⟨_, ?_, t1, by omega, rfl⟩
    refine ret_int ?_
    show wrap64 (wrap64 (((lenTab[x.toNat]'hs').toNat : Nat) : Int)) = _
    generalize (lenTab[x.toNat]'hs').toNat = N at t2 ⊢
    unfold wrap64; omega
  by_cases h2 : x < 65536
  · have a1 : ¬ 65536 ≤ x := by omega
    have a2 : 256 ≤ x := by omega
    go_enter Tryz.func156, Tryz.ntmps156
    go_wp2
    go_ret
    have hsz := lenTab_size
    have hs' : (x / 256).toNat < lenTab.size := by omega
    obtain ⟨t1, t2⟩ := tab_at (x / 256) (by omega) (by omega) hs'
    refine ⟨(lenTab[(x / 256).toNat]'hs').toNat + 8, ?_, isLen_shift (P := 256) (by decide) t1 (len_pos t1 (by omega)), by omega, rfl⟩
    refine ret_int ?_
    show wrap64 (8 + wrap64 (((lenTab[(x / 256).toNat]'hs').toNat : Nat) : Int)) = _
    generalize (lenTab[(x / 256).toNat]'hs').toNat = N at t2 ⊢
    unfold wrap64; omega
  by_cases h3 : x < 16777216
  · have a1 : 65536 ≤ x := by omega
    have a2 : ¬ 256 ≤ x / 65536 := by omega
    go_enter Tryz.func156, Tryz.ntmps156
    go_wp2
    go_ret
    have hsz := lenTab_size
    have hs' : (x / 65536).toNat < lenTab.size := by omega
    obtain ⟨t1, t2⟩ := tab_at (x / 65536) (by omega) (by omega) hs'
    refine ⟨(lenTab[(x / 65536).toNat]'hs').toNat + 16, ?_, isLen_shift (P := 65536) (by decide) t1 (len_pos t1 (by omega)), by omega, rfl⟩
    refine ret_int ?_
    show wrap64 (16 + wrap64 (((lenTab[(x / 65536).toNat]'hs').toNat : Nat) : Int)) = _
    generalize (lenTab[(x / 65536).toNat]'hs').toNat = N at t2 ⊢
    unfold wrap64; omega
  · have a1 : 65536 ≤ x := by omega
    have a2 : 256 ≤ x / 65536 := by omega
    go_enter Tryz.func156, Tryz.ntmps156
    go_wp2
    go_ret
    have hsz := lenTab_size
    have hs' : (x / 65536 / 256).toNat < lenTab.size := by omega
    obtain ⟨t1, t2⟩ := tab_at (x / 65536 / 256) (by omega) (by omega) hs'
    have t3 := isLen_shift (P := 256) (m := 8) (by decide) t1 (len_pos t1 (by omega))
    have t4 := isLen_shift (x := x) (P := 65536) (m := 16) (by decide) t3 (by omega)
    refine ⟨(lenTab[(x / 65536 / 256).toNat]'hs').toNat + 8 + 16, ?_, t4, by omega, rfl⟩
    refine ret_int ?_
    show wrap64 (24 + wrap64 (((lenTab[(x / 65536 / 256).toNat]'hs').toNat : Nat) : Int)) = _
    generalize (lenTab[(x / 65536 / 256).toNat]'hs').toNat = N at t2 ⊢
    unfold wrap64; omega
theorem isLen_top {xs : List Int} {k : Nat} (hx : Nt.Canon xs) (hn : 0 < xs.length) (h : IsLen (Nt.lb xs (xs.length - 1)) k) : IsLen (Nt.val xs) ((xs.length - 1) * 32 + k) := by
  obtain ⟨n, hl⟩ : ∃ n, xs.length = n + 1 := ⟨xs.length - 1, by omega⟩
  have hne : xs ≠ [] := by intro e; subst e; simp at hn
  have h0 := hx.2 hne
  have hb := hx.1 n
  have hv := Nt.vt_bounds hx.1 n
  rw [hl, Nat.add_sub_cancel] at h h0 ⊢
  have hval : Nt.val xs = Nt.vt xs n + Nt.lb xs n * Nt.pw n := by unfold Nt.val; rw [hl, Nt.vt_succ]
  have hp := Nt.pw_pos n
  have hk := len_pos h (by omega)
  rw [hval]
  refine ⟨?_, fun _ => ?_⟩
  · rw [p2_add, Nat.mul_comm, p2_32]
    have : Nt.pw n * (Nt.lb xs n + 1) ≤ Nt.pw n * p2 k := Int.mul_le_mul_of_nonneg_left (by have := h.1; omega) (by omega)
    rw [Int.mul_add, Int.mul_comm] at this
    omega
  · rw [show n * 32 + k - 1 = n * 32 + (k - 1) by omega, p2_add, Nat.mul_comm, p2_32]
    have : Nt.pw n * p2 (k - 1) ≤ Nt.pw n * Nt.lb xs n := Int.mul_le_mul_of_nonneg_left (h.2 hk) (by omega)
    rw [Int.mul_comm _ (Nt.lb xs n)] at this
    omega
set_option maxHeartbeats 1000000 in
theorem len_any {w : World} {va : Value} {n : Int} {ka : Nat} (ha : Arg w va n ka) (hka : ka ≤ 1099511627776) :
    Calls Tryz.prog 127 #[va] w fun e w' => ∃ k : Nat, e = .returned (.int .i64 k) ∧ IsLen n k ∧ k ≤ 32 * ka ∧ w' = w := by
  go_enter Tryz.func127, Tryz.ntmps127
  go_wp2_with fail
  refine (trim_arg ha).mono ?_
  rintro e w' ⟨rfl, ao, xs, rfl, hxk, hxm, hxc, hx, rfl⟩
  clear ha
  by_cases h0 : xs.length = 0
  · have h0' : ((xs.length : Int) == 0) = true := by simp [h0]
    have hxe : xs = [] := List.eq_nil_of_length_eq_zero h0
    clear h0
    go_wp2
    go_ret
    refine ⟨0, rfl, ?_, by omega, rfl⟩
    rw [hxe, Nt.val_nil]
    exact ⟨by decide, fun h => by omega⟩
  · have h0' : ((xs.length : Int) == 0) = false := by simp; intro e; subst e; simp at h0
    obtain ⟨b, off, rfl, hb, hcell⟩ := hxc (by omega)
    have hg := hcell (xs.length - 1) (by omega)
    have hp : (1 : Int) ≤ (xs.length : Int) := by omega
    obtain ⟨bx0, bx1⟩ := hx.1 (xs.length - 1)
    clear hcell hxc
    go_wp2_with fail
    refine (len32_any _ _ bx0 bx1).mono ?_
    rintro e w1 ⟨k, rfl, hk, hk32, rfl⟩
    have hfin := isLen_top hx (by omega) hk
    have Hf := hide hfin
    have Hk := hide hk
    clear hfin hk
    go_wp2
    go_ret
    refine ⟨(xs.length - 1) * 32 + k, ret_int ?_, Hf.out, by omega, rfl⟩
    omega
end Go.Proofs.YticmlelalbaalaaGreatDoor
namespace Go.Proofs.YticmlelalbaalaaGreatDoor
set_option linter.unusedVariables false
def mst (F s : Int) : Int := if s < F then s else s % F + F
def est (F L s : Int) : Int := if s < F then L else L - 1 + s / F
def sc (N E B : Int) : Int := N * p2 (E - B).toNat
def um (F L B s : Int) : Int := sc (mst F s) (est F L s) B
theorem est_ge {F L s : Int} (hF : 0 < F) : L ≤ est F L s := by
  unfold est
  split
  · omega
  · have : 1 ≤ s / F := by rw [Int.le_ediv_iff_mul_le hF]; omega
    omega
end Go.Proofs.YticmlelalbaalaaGreatDoor
namespace Go.Proofs.YticmlelalbaalaaGreatDoor
open Go.RowKit
theorem p2_pow (n : Nat) : p2 n = (2 : Int) ^ n := by
  induction n with
  | zero => rfl
  | succ n ih => simp only [p2]; rw [ih, Int.pow_succ, Int.mul_comm]
theorem p2_cast (n : Nat) : p2 n = ((2 ^ n : Nat) : Int) := by rw [p2_pow]; simp
theorem p2_split {n : Nat} (hn : n ≤ 32) : p2 n * p2 (32 - n) = 4294967296 := by
  rw [← p2_add, show n + (32 - n) = 32 by omega]; decide
theorem shl_parts {x : Int} {P Q : Int} (hP : 0 < P) (hQ : 0 < Q) (hPQ : P * Q = 4294967296) : x * P % 4294967296 = (x % Q) * P ∧ x * P / 4294967296 = x / Q := by
  have h1 : x * P = (x % Q) * P + 4294967296 * (x / Q) := by
    have e := Int.emod_add_mul_ediv x Q
    have e2 : (x % Q + Q * (x / Q)) * P = x * P := by rw [e]
    rw [Int.add_mul] at e2
    rw [← hPQ, ← e2, Int.mul_comm P Q, Int.mul_assoc, Int.mul_assoc, Int.mul_comm P]
  have h2 : 0 ≤ (x % Q) * P := Int.mul_nonneg (Int.emod_nonneg _ (by omega)) (by omega)
  have h3 : (x % Q) * P < 4294967296 := by
    have : (x % Q + 1) * P ≤ Q * P := Int.mul_le_mul_of_nonneg_right (by have := Int.emod_lt_of_pos x hQ; omega) (by omega)
    rw [Int.add_mul, Int.mul_comm Q P, hPQ] at this
    omega
  have := (Int.ediv_emod_unique (a := x * P) (b := 4294967296) (r := (x % Q) * P) (q := x / Q) (by decide)).2 ⟨h1.symm, h2, h3⟩
  exact ⟨this.2, this.1⟩
theorem or_add {n : Nat} {a c : Int} (ha : 0 ≤ a) (hc0 : 0 ≤ c) (hc1 : c < p2 n) (hlt : a * p2 n + c < 4294967296) : bits .or .u32 (a * p2 n) c = a * p2 n + c ∧ bits .or .u32 c (a * p2 n) = a * p2 n + c := by
  obtain ⟨A, rfl⟩ := Int.eq_ofNat_of_zero_le ha
  obtain ⟨C, rfl⟩ := Int.eq_ofNat_of_zero_le hc0
  rw [p2_cast] at *
  have e : ((A : Int) * ((2 ^ n : Nat) : Int)) = ((A * 2 ^ n : Nat) : Int) := by simp
  rw [e] at hlt ⊢
  have hA : 0 ≤ A * 2 ^ n := Nat.zero_le _
  have hj := nat_join n (A * 2 ^ n) C (Nat.mul_mod_left _ _) (by omega)
  rw [u32_or_nat _ _ (by omega) (by omega), u32_or_nat _ _ (by omega) (by omega), Nat.or_comm C, hj]
  omega
theorem raise_digit {x c : Int} {n : Nat} (hn : n < 32) (hx0 : 0 ≤ x) (hx1 : x < 4294967296) (hc0 : 0 ≤ c) (hc1 : c < p2 n) :
    (0 ≤ bits .or .u32 (x * 2 ^ n % 4294967296) c ∧ bits .or .u32 (x * 2 ^ n % 4294967296) c < 4294967296) ∧ (0 ≤ x / 2 ^ (32 - n) ∧ x / 2 ^ (32 - n) < p2 n) ∧
      bits .or .u32 (x * 2 ^ n % 4294967296) c + (x / 2 ^ (32 - n)) * 4294967296 = x * p2 n + c := by
  rw [← p2_pow, ← p2_pow]
  have hP := p2_pos n
  have hQ := p2_pos (32 - n)
  have hPQ := p2_split (n := n) (by omega)
  obtain ⟨h1, h2⟩ := shl_parts (x := x) hP hQ hPQ
  rw [h1]
  have hr0 := Int.emod_nonneg x (b := p2 (32 - n)) (by omega)
  have hr1 := Int.emod_lt_of_pos x hQ
  have hlt : x % p2 (32 - n) * p2 n + c < 4294967296 := by
    have : (x % p2 (32 - n) + 1) * p2 n ≤ p2 (32 - n) * p2 n := Int.mul_le_mul_of_nonneg_right (by omega) (by omega)
    rw [Int.add_mul, Int.mul_comm (p2 (32 - n)) (p2 n), hPQ] at this
    omega
  have hnn : 0 ≤ x % p2 (32 - n) * p2 n := Int.mul_nonneg hr0 (by omega)
  rw [(or_add hr0 hc0 hc1 hlt).1]
  refine ⟨⟨by omega, hlt⟩, ⟨Int.ediv_nonneg hx0 (by omega), Int.ediv_lt_of_lt_mul hQ (by rw [hPQ]; exact hx1)⟩, ?_⟩
  have e := Int.emod_add_mul_ediv (x * p2 n) 4294967296
  rw [h1, h2] at e
  omega
theorem raise_step {os zs : List Int} {off k : Nat} {q D q' P : Int} (hk : off + k < zs.length) (hd : D + q' * 4294967296 = Nt.lb os (off + k) * P + q)
    (h : Nt.vt zs (off + k) + q * Nt.pw (off + k) = Nt.vt os off + P * (Nt.vt os (off + k) - Nt.vt os off)) :
    Nt.vt (zs.set (off + k) D) (off + (k + 1)) + q' * Nt.pw (off + (k + 1)) = Nt.vt os off + P * (Nt.vt os (off + (k + 1)) - Nt.vt os off) := by
  rw [← Nat.add_assoc, Nt.vt_succ, Nt.vt_set (Nat.le_refl _), Nt.lb_set_eq hk, Nt.vt_succ, Nt.pw_succ]
  have e2 : (D + q' * 4294967296) * Nt.pw (off + k) = (Nt.lb os (off + k) * P + q) * Nt.pw (off + k) := by rw [hd]
  rw [Int.add_mul, Int.add_mul, Int.mul_assoc q'] at e2
  rw [Int.mul_sub] at h
  rw [Int.mul_sub, Int.mul_add]
  rw [← Int.mul_assoc P, Int.mul_comm P (Nt.lb os (off + k))]
  omega
set_option maxHeartbeats 1000000 in
theorem raise_any {w0 w : World} {ro : Option Addr} {rc g off n L : Nat} {os : List Int} (hb : Below w0.heap.size w0 w) (hg : w0.heap.size ≤ g) (hn : n < 32) (hL : L ≤ 2199023255552)
    (hr : Row .u32 70 w g os) (hoo : Nt.Ok os) (hfit : off + L ≤ os.length) (hro : 0 < L → ro = some ⟨g, off, none⟩) :
    Calls Tryz.prog 186 #[.slice ro L rc, .int .u64 n] w fun e w' => ∃ (c : Int) (zs : List Int), e = .returned (.tuple #[]) ∧ zs.length = os.length ∧ Nt.Ok zs ∧
      (∀ j, j < off ∨ off + L ≤ j → Nt.lb zs j = Nt.lb os j) ∧ Nt.vt zs (off + L) + c * Nt.pw (off + L) = Nt.vt os off + p2 n * (Nt.vt os (off + L) - Nt.vt os off) ∧ (0 < L → c = Nt.lb os (off + L - 1) / p2 (32 - n)) ∧ Row .u32 70 w' g zs ∧ Below w0.heap.size w0 w' := by
  go_enter Tryz.func186, Tryz.ntmps186
  go_wp2
  go_loopw [4, 9] (fun c i wr => ∃ (k : Nat) (q : Int) (zs : List Int), k ≤ L ∧ i = .int .i64 k ∧ c = .int .u32 q ∧ 0 ≤ q ∧ q < p2 n ∧ zs.length = os.length ∧ Nt.Ok zs ∧ (∀ j, j < off ∨ off + k ≤ j → Nt.lb zs j = Nt.lb os j) ∧
      Row .u32 70 wr g zs ∧ Below w0.heap.size w0 wr ∧ Nt.vt zs (off + k) + q * Nt.pw (off + k) = Nt.vt os off + p2 n * (Nt.vt os (off + k) - Nt.vt os off) ∧ (0 < k → q = Nt.lb os (off + k - 1) / p2 (32 - n))) (fun _ i _ => L - (intOf i).toNat)
  case atStart => exact ⟨0, 0, os, by omega, rfl, rfl, by omega, p2_pos n, rfl, hoo, fun _ _ => rfl, hr, hb, by simp, fun h => by omega⟩
  case round =>
    obtain ⟨k, q, zs, hk, rfl, rfl, hq0, hq1, hzl, hzo, hsame, hrow, hbr, heq, hqe⟩ := hrel
    have Heq := hide heq
    have Hzl := hide hzl
    have Hs := hide hsame
    have Hq := hide hq1
    have Hqe := hide hqe
    clear heq hzl hsame hr hb hqe hq1
    by_cases hkl : k < L
    · have hR := hro (by omega)
      subst hR
      have g2 := hrow.cell (i := off + k) (by have := Hzl.out; omega)
      have hfz := hrow.frozen (off + k)
      obtain ⟨bz0, bz1⟩ := hzo (off + k)
      have hn32 : (n : Int) < 32 := by omega
      obtain ⟨⟨d0, d1⟩, ⟨c0, c1⟩, hd⟩ := raise_digit hn bz0 bz1 hq0 Hq.out
      have Hd0 := hide d0
      have Hd1 := hide d1
      have Hc0 := hide c0
      have Hc1 := hide c1
      have Hd := hide hd
      clear d0 d1 c0 c1 hd
      go_wp2
      go_roundw
      case rel => exact ⟨k + 1, Nt.lb zs (off + k) / 2 ^ (32 - n), zs.set (off + k) (bits BinOp.or IntKind.u32 (Nt.lb zs (off + k) * 2 ^ n % 4294967296) q), by omega, by go_num, rfl, Hc0.out, Hc1.out, by have := Hzl.out; simp [this], Nt.ok_set hzo ⟨Hd0.out, Hd1.out⟩, fun j hj => by
        rw [Nt.lb_set_ne (by omega)]; exact Hs.out j (by omega), hrow.set _ _, hbr.setCell (p := ⟨g, off + k, none⟩) hg _, raise_step (by have := Hzl.out; omega) (by have := Hd.out; rw [← Hs.out (off + k) (by omega)]; exact this) Heq.out, fun _ => by
        rw [p2_pow, show off + (k + 1) - 1 = off + k by omega, ← Hs.out (off + k) (by omega)]⟩
      case measure => simp [intOf]; omega
    · have hke : k = L := by omega
      subst hke
      go_wp2
      go_end0
      exact ⟨q, zs, rfl, Hzl.out, hzo, Hs.out, Heq.out, Hqe.out, hrow, hbr⟩
def sgn (x y : Int) : Int := if x < y then -1 else if y < x then 1 else 0
theorem sgn_lt {x y : Int} (h : x < y) : sgn x y = -1 := by simp [sgn, h]
theorem sgn_gt {x y : Int} (h : y < x) : sgn x y = 1 := by unfold sgn; rw [if_neg (by omega), if_pos h]
theorem sgn_eq {x y : Int} (h : x = y) : sgn x y = 0 := by subst h; simp [sgn]
set_option maxHeartbeats 1000000 in
theorem compare_int (x y : Int) (w : World) :
    Calls Tryz.prog 130 #[.int .i64 x, .int .i64 y] w fun e w' => e = .returned (.int .i64 (sgn x y)) ∧ w' = w := by
  have hx : (x != x) = false := by simp
  have hy : (y != y) = false := by simp
  rcases Int.lt_trichotomy x y with h | h | h
  · rw [sgn_lt h]
    go_enter Tryz.func130, Tryz.ntmps130
    go_wp2
    go_ret
    exact ⟨rfl, rfl⟩
  · subst h
    rw [sgn_eq rfl]
    go_enter Tryz.func130, Tryz.ntmps130
    go_wp2
    go_ret
    exact ⟨rfl, rfl⟩
  · rw [sgn_gt h]
    have h' : ¬ x < y := by omega
    go_enter Tryz.func130, Tryz.ntmps130
    go_wp2
    go_ret
    exact ⟨rfl, rfl⟩
set_option maxHeartbeats 1000000 in
theorem compare_u32 (x y : Int) (w : World) :
    Calls Tryz.prog 131 #[.int .u32 x, .int .u32 y] w fun e w' => e = .returned (.int .i64 (sgn x y)) ∧ w' = w := by
  have hx : (x != x) = false := by simp
  have hy : (y != y) = false := by simp
  rcases Int.lt_trichotomy x y with h | h | h
  · rw [sgn_lt h]
    go_enter Tryz.func131, Tryz.ntmps131
    go_wp2
    go_ret
    exact ⟨rfl, rfl⟩
  · subst h
    rw [sgn_eq rfl]
    go_enter Tryz.func131, Tryz.ntmps131
    go_wp2
    go_ret
    exact ⟨rfl, rfl⟩
  · rw [sgn_gt h]
    have h' : ¬ x < y := by omega
    go_enter Tryz.func131, Tryz.ntmps131
    go_wp2
    go_ret
    exact ⟨rfl, rfl⟩
set_option maxHeartbeats 1000000 in
theorem cmp_any {w : World} {va vb : Value} {n m : Int} {ka kb : Nat} (ha : Arg w va n ka) (hb : Arg w vb m kb) (hka : ka ≤ 1099511627776) (_hkb : kb ≤ 1099511627776) :
    Calls Tryz.prog 96 #[va, vb] w fun e w' => e = .returned (.int .i64 (sgn n m)) ∧ Below w.heap.size w w' := by
  go_enter Tryz.func96, Tryz.ntmps96
  go_wp2_with fail
  refine (trim_arg ha).mono ?_
  rintro e w' ⟨rfl, ao, xs, rfl, hxk, hxm, hxc, hx, rfl⟩
  go_wp2_with fail
  refine (trim_arg hb).mono ?_
  rintro e w' ⟨rfl, bo, ys, rfl, hyk, hym, hyc, hy, rfl⟩
  clear ha hb
  by_cases hl : xs.length = ys.length
  · have hl1 : ((xs.length : Int) != (ys.length : Int)) = false := by simp [hl]
    have Hl : Hid (xs.length = ys.length) := hl
    clear hl
    go_wp2
    go_loopw [23] (fun i wr => ∃ k : Nat, k ≤ xs.length ∧ i = .int .i64 k ∧ (∀ j, xs.length ≤ j + k → j < xs.length → Nt.lb xs j = Nt.lb ys j) ∧ Below w'.heap.size w' wr) (fun i _ => xs.length - (intOf i).toNat)
    case atStart => exact ⟨0, Nat.zero_le _, rfl, fun j hj h2 => by omega, Below.refl _ _⟩
    case round =>
      obtain ⟨k, hk, rfl, hsame, hbr⟩ := hrel
      have HS : Hid (∀ j, xs.length ≤ j + k → j < xs.length → Nt.lb xs j = Nt.lb ys j) := hsame
      clear hsame
      by_cases hlt : k < xs.length
      · have hlt2 : xs.length - 1 - k < ys.length := by have := Hl.out; omega
        obtain ⟨b1, o1, rfl, _, hc1⟩ := (hxc.below hbr) (by omega)
        obtain ⟨b2, o2, rfl, _, hc2⟩ := (hyc.below hbr) (by omega)
        have g1 := hc1 (xs.length - 1 - k) (by omega)
        have g2 := hc2 (xs.length - 1 - k) hlt2
        clear hc1 hc2 hxc hyc
        by_cases hq : Nt.lb xs (xs.length - 1 - k) = Nt.lb ys (xs.length - 1 - k)
        · have hq' : (Nt.lb xs (xs.length - 1 - k) != Nt.lb ys (xs.length - 1 - k)) = false := by simp [hq]
          have Hq : Hid (Nt.lb xs (xs.length - 1 - k) = Nt.lb ys (xs.length - 1 - k)) := hq
          clear hq
          go_wp2
          go_region
          all_goals go_wp2
          all_goals go_roundw
          all_goals first
            | exact ⟨k + 1, by omega, by go_num, fun j hj h2 => by
                by_cases e : j = xs.length - 1 - k
                · subst e; exact Hq.out
                · exact HS.out j (by omega) h2, by repeat (first | exact hbr | apply Below.drew)⟩
            | (simp [intOf]; omega)
        · have hq' : (Nt.lb xs (xs.length - 1 - k) != Nt.lb ys (xs.length - 1 - k)) = true := by simp [hq]
          have Hq : Hid (¬ Nt.lb xs (xs.length - 1 - k) = Nt.lb ys (xs.length - 1 - k)) := hq
          clear hq
          have hs : sgn (Nt.val xs) (Nt.val ys) = sgn (Nt.lb xs (xs.length - 1 - k)) (Nt.lb ys (xs.length - 1 - k)) := by
            have hll : xs.length = ys.length := Hl.out
            rcases Int.lt_trichotomy (Nt.lb xs (xs.length - 1 - k)) (Nt.lb ys (xs.length - 1 - k)) with h | h | h
            · rw [sgn_lt h, sgn_lt]
              unfold Nt.val
              rw [← hll]
              exact Nt.vt_lt_at hx.1 hy.1 (p := xs.length - 1 - k) (by omega) (fun i a b => HS.out i (by omega) b) h
            · exact absurd h Hq.out
            · rw [sgn_gt h, sgn_gt]
              unfold Nt.val
              rw [← hll]
              exact Nt.vt_lt_at hy.1 hx.1 (p := xs.length - 1 - k) (by omega) (fun i a b => (HS.out i (by omega) b).symm) h
          have HSg : Hid _ := hs
          clear hs
          go_wp2
          go_region
          all_goals go_wp2
          all_goals go_region_with (go_at_call 131; refine (compare_u32 _ _ _).mono ?_; rintro e w2 ⟨rfl, rfl⟩)
          all_goals go_wp2
          all_goals go_ret
          all_goals
            refine ⟨?_, by repeat (first | exact hbr | apply Below.drew)⟩
            rw [HSg.out]
            rfl
      · have hke : k = xs.length := by omega
        subst hke
        go_wp2
        go_ret
        refine ⟨?_, hbr⟩
        rw [sgn_eq]
        · rfl
        · have hll : xs.length = ys.length := Hl.out
          unfold Nt.val
          rw [← hll]
          exact Nt.vt_congr fun i hi => HS.out i (by omega) hi
  · have hl1 : ((xs.length : Int) != (ys.length : Int)) = true := by simp; omega
    have Hl : Hid (¬ xs.length = ys.length) := hl
    clear hl
    have hs : sgn (Nt.val xs) (Nt.val ys) = sgn xs.length ys.length := by
      rcases Nat.lt_trichotomy xs.length ys.length with h | h | h
      · rw [sgn_lt (Nt.canon_lt hx.1 hy h), sgn_lt (by omega)]
      · exact absurd h Hl.out
      · rw [sgn_gt (Nt.canon_lt hy.1 hx h), sgn_gt (by omega)]
    have HSg : Hid _ := hs
    clear hs
    go_wp2_with (go_at_call 130; refine (compare_int _ _ _).mono ?_; rintro e w2 ⟨rfl, rfl⟩)
    go_ret
    refine ⟨?_, Below.refl _ _⟩
    rw [HSg.out]
    rfl
end Go.Proofs.YticmlelalbaalaaGreatDoor
namespace Go.Proofs.YticmlelalbaalaaGreatDoor
open Go.RowKit
set_option linter.unusedVariables false
def mid2 (F L r : Int) : Int := um F L L r + um F L L (r + 1)
def tn (n : Nat) : Int := 10 ^ n
theorem tn_pos (n : Nat) : 0 < tn n := Int.pow_pos (by omega)
theorem tn_add (a b : Nat) : tn (a + b) = tn a * tn b := Int.pow_add 10 a b
theorem tn_succ (a : Nat) : tn (a + 1) = 10 * tn a := by unfold tn; rw [Int.pow_succ, Int.mul_comm]
theorem tn_zero : tn 0 = 1 := rfl
theorem tn_mono {a b : Nat} (h : a ≤ b) : tn a ≤ tn b := by
  obtain ⟨c, rfl⟩ : ∃ c, b = a + c := ⟨b - a, by omega⟩
  rw [tn_add]
  have h1 := tn_pos c
  have h2 := tn_pos a
  have := Int.mul_le_mul_of_nonneg_left (show (1 : Int) ≤ tn c by omega) (show 0 ≤ tn a by omega)
  omega
structure Wide (F L I : Int) : Prop where
  f0 : 2 ≤ F
  l0 : -1074 ≤ L
  l1 : L < 0
  i0 : 1 < I
  few : 2 * F * 5 ^ (-L).toNat ≤ tn 799
  low : 2 * p2 (-L).toNat ≤ tn 330
  top : mid2 F L (I - 1) < 2 * tn 310 * p2 (-L).toNat
def Byt (es : List Int) : Prop := ∀ x ∈ es, 0 ≤ x ∧ x < 256
theorem txt_of (s : ByteArray) : ∃ es, Byt es ∧ es.length = s.size ∧ s = strOfNums es := by
  refine ⟨s.data.toList.map fun b => (b.toNat : Int), ?_, by simp, ?_⟩
  · intro x hx
    obtain ⟨b, _, rfl⟩ := List.mem_map.1 hx
    have := b.toNat_lt
    omega
  · apply Go.WideShapes.bytes_inj
    rw [strOfNums_data, List.map_map]
    have : (fun n : Int => UInt8.ofNat n.toNat) ∘ (fun b : UInt8 => (b.toNat : Int)) = id := by
      funext b; simp
    rw [this, List.map_id]
end Go.Proofs.YticmlelalbaalaaGreatDoor
namespace Go.Proofs.YticmlelalbaalaaGreatDoor
open Go.RowKit
set_option maxHeartbeats 400000 in
theorem rnorm_any {w : World} {va : Value} {A : Int} {ka : Nat} (ha : Arg w va A ka) (hka : ka ≤ 1099511627776) :
    Calls Tryz.prog 152 #[va] w fun e w' => ∃ v, e = .returned v ∧ Num w.heap.size w' v A ka ∧ Below w.heap.size w w' := by
  go_enter Tryz.func152, Tryz.ntmps152
  go_wp2_with fail
  refine (bytes_any ha hka).mono ?_
  rintro e w1 ⟨v1, rfl, h1, hb1⟩
  go_wp2_with fail
  refine (limbs_any h1.arg (by omega)).mono ?_
  rintro e w2 ⟨v2, rfl, h2, hb2⟩
  go_wp2
  go_ret
  exact ⟨v2, rfl, (num_since h2 hb1.size).mono (by omega), below_trans hb1 hb2⟩
set_option maxHeartbeats 1000000 in
theorem rfrom_any {w : World} (X : Int) (h0 : 0 ≤ X) (h1 : X < 18446744073709551616) :
    Calls Tryz.prog 123 #[.int .u64 X] w fun e w' => ∃ v, e = .returned v ∧ Num w.heap.size w' v X 2 ∧ Below w.heap.size w w' := by
  go_enter Tryz.func123, Tryz.ntmps123
  go_wp2
  go_loopw [0, 3] (fun sx out wr => ∃ (x : Int) (zs : List Int), sx = .int .u64 x ∧ 0 ≤ x ∧ x ≤ X ∧ zs.length ≤ 8 ∧ x < Nb.pw (8 - zs.length) ∧ Nb.Ok zs ∧ Nb.val zs + x * Nb.pw zs.length = X ∧ wr.ownsRow w.heap.size 3 1 out zs.length (zs.map (Value.int .i64)) ∧ Below w.heap.size w wr)
    (fun sx _ _ => (intOf sx).toNat)
  case atStart => exact ⟨X, [], rfl, h0, Int.le_refl _, by simp, by rw [List.length_nil, show Nb.pw (8 - 0) = 18446744073709551616 by decide]; exact h1, Nb.ok_nil, by simp [Nb.val, Nb.vt, Nb.pw], by simpa using World.ownsRow_nil w w.heap.size 3 1, Below.refl _ _⟩
  case round =>
    obtain ⟨x, zs, rfl, hx0, hxX, hzl, hx1, hzo, hzv, hown, hbr⟩ := hrel
    have Hx1 := hide hx1
    have Hzv := hide hzv
    clear hx1 hzv
    by_cases hp : 0 < x
    · have hlt : zs.length < 8 := by
        by_cases h : zs.length < 8
        · exact h
        · have := Hx1.out
          rw [show 8 - zs.length = 0 by omega] at this
          simp only [Nb.pw] at this
          omega
      have hsz := hbr.size
      go_wp2_with (at_builtin; refine wpList_append_cells _ rfl _ _ 61 rfl w.heap.size 3 .i64 8 Tryz.underlying61 Tryz.infoI64 _ zs.length zs rfl (hown.alloc _) (some ⟨wr.heap.size, 0, none⟩) 1 [x % 256] rfl (cells_one _ _ _ _) (by unfold maxLen; simp; omega) (by simp; omega) (by simp; omega) ?_)
      intro v' w1 hown' hgrow
      have hb1 : Below w.heap.size w w1 := below_own (hbr.alloc hsz _) (by simp; omega) (hown.alloc _) hgrow
      have Hst := hide (byte_step (V := Nb.val zs) (x := x) (P := Nb.pw zs.length))
      have Hown' := hide hown'
      clear hown' hgrow hown
      go_wp2
      go_roundw
      case rel => exact ⟨x / 256, zs ++ [x % 256], rfl, by omega, by omega, by simp; omega, by
        have h := Hx1.out
        rw [show 8 - zs.length = (8 - (zs.length + 1)) + 1 by omega, Nb.pw_succ] at h
        rw [List.length_append, List.length_singleton]
        omega, Nb.ok_snoc hzo (by omega), by
        rw [Nb.val_snoc, List.length_append, List.length_singleton, Nb.pw_succ, Hst.out]; exact Hzv.out, by simpa using Hown'.out, hb1⟩
      case measure => simp [intOf]; omega
    · have hx00 : x = 0 := by omega
      subst hx00
      go_wp2_with fail
      refine (limbs_any (ka := 8) ⟨zs, reads_of_owns hown, hzo, rfl, hzl⟩ (by omega)).mono ?_
      rintro e w2 ⟨v, rfl, hv, hb2⟩
      have hX : Nb.val zs = X := by have := Hzv.out; rw [Int.zero_mul, Int.add_zero] at this; exact this
      rw [hX] at hv
      have Hv := hide hv
      clear hv hX
      go_wp2
      go_ret
      exact ⟨v, rfl, num_since Hv.out hbr.size, hbr.trans (hb2.mono hbr.size)⟩
end Go.Proofs.YticmlelalbaalaaGreatDoor
