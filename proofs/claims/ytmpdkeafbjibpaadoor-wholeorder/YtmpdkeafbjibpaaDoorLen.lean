/- bits.Len32, nat.Len, nat.Uint -/
import Derived.Test.YtmpdkeafbjibpaaDoorLimb
import Derived.Deep.RegionWith
namespace Go.Proofs.YtmpdkeafbjibpaaDoor
open Go.RowKit

/-- 2 to the power of n -/
def p2 : Nat → Int
  | 0 => 1
  | n + 1 => 2 * p2 n
theorem p2_pos (n : Nat) : 0 < p2 n := by
  induction n with
  | zero => decide
  | succ n ih => simp only [p2]; omega
theorem p2_add (m n : Nat) : p2 (m + n) = p2 m * p2 n := by
  induction n with
  | zero => simp [p2]
  | succ n ih => rw [← Nat.add_assoc]; simp only [p2]; rw [ih, Int.mul_left_comm]
theorem p2_mono {m n : Nat} (h : m ≤ n) : p2 m ≤ p2 n := by
  obtain ⟨k, rfl⟩ := Nat.exists_eq_add_of_le h
  rw [p2_add]
  have h1 := p2_pos k
  have h2 := p2_pos m
  have : p2 m * 1 ≤ p2 m * p2 k := Int.mul_le_mul_of_nonneg_left (by omega) (by omega)
  omega
theorem p2_32 (n : Nat) : p2 (32 * n) = Nt.pw n := by
  induction n with
  | zero => rfl
  | succ n ih => rw [Nat.mul_succ, p2_add, ih, Nt.pw_succ, show p2 32 = 4294967296 from by decide, Int.mul_comm]

/-- k binary digits -/
def IsLen (x : Int) (k : Nat) : Prop := x < p2 k ∧ (0 < k → p2 (k - 1) ≤ x)
theorem isLen_unique {x : Int} {k m : Nat} (h1 : IsLen x k) (h2 : IsLen x m) : k = m := by
  rcases Nat.lt_trichotomy k m with h | h | h
  · have a := h2.2 (by omega)
    have b := p2_mono (m := k) (n := m - 1) (by omega)
    have c := h1.1
    omega
  · exact h
  · have a := h1.2 (by omega)
    have b := p2_mono (m := m) (n := k - 1) (by omega)
    have c := h2.1
    omega

theorem isLen_shift {x : Int} {k m : Nat} {P : Int} (hP : P = p2 m) (h : IsLen (x / P) k) (hk : 0 < k) : IsLen x (k + m) := by
  subst hP
  have hm := p2_pos m
  have hd : p2 m * (x / p2 m) ≤ x := by have := Int.mul_ediv_add_emod x (p2 m); have := Int.emod_nonneg x (b := p2 m) (by omega); omega
  have hu : x < p2 m * (x / p2 m) + p2 m := by have := Int.mul_ediv_add_emod x (p2 m); have := Int.emod_lt_of_pos x (b := p2 m) (by omega); omega
  obtain ⟨h1, h2⟩ := h
  have h3 := h2 hk
  refine ⟨?_, fun _ => ?_⟩
  · rw [p2_add, Int.mul_comm]
    have : p2 m * (x / p2 m + 1) ≤ p2 m * p2 k := Int.mul_le_mul_of_nonneg_left (by omega) (by omega)
    rw [Int.mul_add] at this
    omega
  · rw [show k + m - 1 = (k - 1) + m by omega, p2_add, Int.mul_comm]
    have : p2 m * p2 (k - 1) ≤ p2 m * (x / p2 m) := Int.mul_le_mul_of_nonneg_left h3 (by omega)
    omega

/-- how many binary digits a byte has -/
def lenTab : ByteArray := ⟨#[0, 1, 2, 2, 3, 3, 3, 3, 4, 4, 4, 4, 4, 4, 4, 4, 5, 5, 5, 5, 5, 5, 5, 5, 5, 5, 5, 5, 5, 5, 5, 5, 6, 6, 6, 6, 6, 6, 6, 6, 6, 6, 6, 6, 6, 6, 6, 6, 6, 6, 6, 6, 6, 6, 6, 6, 6, 6, 6, 6, 6, 6, 6, 6, 7, 7, 7, 7, 7, 7, 7, 7, 7, 7, 7, 7, 7, 7, 7, 7, 7, 7, 7, 7, 7, 7, 7, 7, 7, 7, 7, 7, 7, 7, 7, 7, 7, 7, 7, 7, 7, 7, 7, 7, 7, 7, 7, 7, 7, 7, 7, 7, 7, 7, 7, 7, 7, 7, 7, 7, 7, 7, 7, 7, 7, 7, 7, 7, 8, 8, 8, 8, 8, 8, 8, 8, 8, 8, 8, 8, 8, 8, 8, 8, 8, 8, 8, 8, 8, 8, 8, 8, 8, 8, 8, 8, 8, 8, 8, 8, 8, 8, 8, 8, 8, 8, 8, 8, 8, 8, 8, 8, 8, 8, 8, 8, 8, 8, 8, 8, 8, 8, 8, 8, 8, 8, 8, 8, 8, 8, 8, 8, 8, 8, 8, 8, 8, 8, 8, 8, 8, 8, 8, 8, 8, 8, 8, 8, 8, 8, 8, 8, 8, 8, 8, 8, 8, 8, 8, 8, 8, 8, 8, 8, 8, 8, 8, 8, 8, 8, 8, 8, 8, 8, 8, 8, 8, 8, 8, 8, 8, 8, 8, 8, 8, 8, 8, 8, 8, 8, 8, 8, 8, 8, 8, 8]⟩
theorem lenTab_all : (List.range 256).all (fun n => decide ((n : Int) < p2 (lenTab.data.getD n 0).toNat) && (decide ((lenTab.data.getD n 0).toNat = 0) || decide (p2 ((lenTab.data.getD n 0).toNat - 1) ≤ (n : Int))) && decide ((lenTab.data.getD n 0).toNat ≤ 8)) = true := by decide +kernel
theorem lenTab_size : lenTab.size = 256 := by decide +kernel
theorem lenTab_ok (n : Nat) (h : n < 256) (h' : n < lenTab.size) : IsLen (n : Int) (lenTab[n]'h').toNat ∧ (lenTab[n]'h').toNat ≤ 8 := by
  have := List.all_eq_true.1 lenTab_all n (by simpa using h)
  have e : lenTab.data.getD n 0 = lenTab[n]'h' := by
    simp [Array.getD, ByteArray.getElem_eq_getElem_data]
    rw [dif_pos h']
  rw [e] at this
  simp only [Bool.and_eq_true, Bool.or_eq_true, decide_eq_true_eq] at this
  exact ⟨⟨this.1.1, fun hk => by rcases this.1.2 with h | h; omega; exact h⟩, this.2⟩
theorem ret_int {k : IntKind} {a b : Int} (h : a = b) : Ending.returned (.int k a) = .returned (.int k b) := by rw [h]
theorem tab_at (y : Int) (h0 : 0 ≤ y) (h1 : y < 256) (h' : y.toNat < lenTab.size) : IsLen y (lenTab[y.toNat]'h').toNat ∧ (lenTab[y.toNat]'h').toNat ≤ 8 := by
  have := lenTab_ok y.toNat (by omega) h'
  rw [Int.toNat_of_nonneg h0] at this
  exact this
theorem len_pos {y : Int} {k : Nat} (h : IsLen y k) (hy : 1 ≤ y) : 0 < k := by
  rcases Nat.eq_zero_or_pos k with h0 | h0
  · subst h0; have := h.1; simp only [p2] at this; omega
  · exact h0

set_option maxRecDepth 100000 in
set_option maxHeartbeats 1000000 in
theorem len32_any (x : Int) (w : World) (hx0 : 0 ≤ x) (hx1 : x < 4294967296) :
    Calls Tryd.prog 54 #[.int .u32 x] w fun e w' => ∃ k : Nat, e = .returned (.int .i64 k) ∧ IsLen x k ∧ k ≤ 32 ∧ w' = w := by
  by_cases h1 : x < 256
  · have a1 : ¬ 65536 ≤ x := by omega
    have a2 : ¬ 256 ≤ x := by omega
    go_enter Tryd.func54, Tryd.ntmps54
    go_wp2
    go_ret
    have hsz := lenTab_size
    have hs' : (x).toNat < lenTab.size := by omega
    obtain ⟨t1, t2⟩ := tab_at (x) (by omega) (by omega) hs'
    refine ⟨_, ?_, t1, by omega, rfl⟩
    refine ret_int ?_
    show wrap64 (wrap64 (((lenTab[x.toNat]'hs').toNat : Nat) : Int)) = _
    generalize (lenTab[x.toNat]'hs').toNat = N at t2 ⊢
    unfold wrap64; omega
  by_cases h2 : x < 65536
  · have a1 : ¬ 65536 ≤ x := by omega
    have a2 : 256 ≤ x := by omega
    go_enter Tryd.func54, Tryd.ntmps54
    go_wp2
    go_ret
    have hsz := lenTab_size
    have hs' : (x / 256).toNat < lenTab.size := by omega
    obtain ⟨t1, t2⟩ := tab_at (x / 256) (by omega) (by omega) hs'
    refine ⟨(lenTab[(x / 256).toNat]'hs').toNat + 8, ?_, isLen_shift (P := 256) (by decide) t1 (len_pos t1 (by omega)), by omega, rfl⟩
    refine ret_int ?_
    show wrap64 (8 + wrap64 (((lenTab[(x / 256).toNat]'hs').toNat : Nat) : Int)) = _
    generalize (lenTab[(x / 256).toNat]'hs').toNat = N at t2 ⊢
    unfold wrap64; omega
  by_cases h3 : x < 16777216
  · have a1 : 65536 ≤ x := by omega
    have a2 : ¬ 256 ≤ x / 65536 := by omega
    go_enter Tryd.func54, Tryd.ntmps54
    go_wp2
    go_ret
    have hsz := lenTab_size
    have hs' : (x / 65536).toNat < lenTab.size := by omega
    obtain ⟨t1, t2⟩ := tab_at (x / 65536) (by omega) (by omega) hs'
    refine ⟨(lenTab[(x / 65536).toNat]'hs').toNat + 16, ?_, isLen_shift (P := 65536) (by decide) t1 (len_pos t1 (by omega)), by omega, rfl⟩
    refine ret_int ?_
    show wrap64 (16 + wrap64 (((lenTab[(x / 65536).toNat]'hs').toNat : Nat) : Int)) = _
    generalize (lenTab[(x / 65536).toNat]'hs').toNat = N at t2 ⊢
    unfold wrap64; omega
  · have a1 : 65536 ≤ x := by omega
    have a2 : 256 ≤ x / 65536 := by omega
    go_enter Tryd.func54, Tryd.ntmps54
    go_wp2
    go_ret
    have hsz := lenTab_size
    have hs' : (x / 65536 / 256).toNat < lenTab.size := by omega
    obtain ⟨t1, t2⟩ := tab_at (x / 65536 / 256) (by omega) (by omega) hs'
    have t3 := isLen_shift (P := 256) (m := 8) (by decide) t1 (len_pos t1 (by omega))
    have t4 := isLen_shift (x := x) (P := 65536) (m := 16) (by decide) t3 (by omega)
    refine ⟨(lenTab[(x / 65536 / 256).toNat]'hs').toNat + 8 + 16, ?_, t4, by omega, rfl⟩
    refine ret_int ?_
    show wrap64 (24 + wrap64 (((lenTab[(x / 65536 / 256).toNat]'hs').toNat : Nat) : Int)) = _
    generalize (lenTab[(x / 65536 / 256).toNat]'hs').toNat = N at t2 ⊢
    unfold wrap64; omega

/-- the length of a number by its highest limb -/
theorem isLen_top {xs : List Int} {k : Nat} (hx : Nt.Canon xs) (hn : 0 < xs.length) (h : IsLen (Nt.lb xs (xs.length - 1)) k) : IsLen (Nt.val xs) ((xs.length - 1) * 32 + k) := by
  obtain ⟨n, hl⟩ : ∃ n, xs.length = n + 1 := ⟨xs.length - 1, by omega⟩
  have hne : xs ≠ [] := by intro e; subst e; simp at hn
  have h0 := hx.2 hne
  have hb := hx.1 n
  have hv := Nt.vt_bounds hx.1 n
  rw [hl, Nat.add_sub_cancel] at h h0 ⊢
  have hval : Nt.val xs = Nt.vt xs n + Nt.lb xs n * Nt.pw n := by unfold Nt.val; rw [hl, Nt.vt_succ]
  have hp := Nt.pw_pos n
  have hk := len_pos h (by omega)
  rw [hval]
  refine ⟨?_, fun _ => ?_⟩
  · rw [p2_add, Nat.mul_comm, p2_32]
    have : Nt.pw n * (Nt.lb xs n + 1) ≤ Nt.pw n * p2 k := Int.mul_le_mul_of_nonneg_left (by have := h.1; omega) (by omega)
    rw [Int.mul_add, Int.mul_comm] at this
    omega
  · rw [show n * 32 + k - 1 = n * 32 + (k - 1) by omega, p2_add, Nat.mul_comm, p2_32]
    have : Nt.pw n * p2 (k - 1) ≤ Nt.pw n * Nt.lb xs n := Int.mul_le_mul_of_nonneg_left (h.2 hk) (by omega)
    rw [Int.mul_comm _ (Nt.lb xs n)] at this
    omega

set_option maxHeartbeats 1000000 in
theorem len_any {w : World} {va : Value} {n : Int} {ka : Nat} (ha : Arg w va n ka) (hka : ka ≤ 1099511627776) :
    Calls Tryd.prog 36 #[va] w fun e w' => ∃ k : Nat, e = .returned (.int .i64 k) ∧ IsLen n k ∧ k ≤ 32 * ka ∧ w' = w := by
  go_enter Tryd.func36, Tryd.ntmps36
  go_wp2_with fail
  refine (trim_arg ha).mono ?_
  rintro e w' ⟨rfl, ao, xs, rfl, hxk, hxm, hxc, hx, rfl⟩
  clear ha
  by_cases h0 : xs.length = 0
  · have h0' : ((xs.length : Int) == 0) = true := by simp [h0]
    have hxe : xs = [] := List.eq_nil_of_length_eq_zero h0
    clear h0
    go_wp2
    go_ret
    refine ⟨0, rfl, ?_, by omega, rfl⟩
    rw [hxe, Nt.val_nil]
    exact ⟨by decide, fun h => by omega⟩
  · have h0' : ((xs.length : Int) == 0) = false := by simp; intro e; subst e; simp at h0
    obtain ⟨b, off, rfl, hb, hcell⟩ := hxc (by omega)
    have hg := hcell (xs.length - 1) (by omega)
    have hp : (1 : Int) ≤ (xs.length : Int) := by omega
    obtain ⟨bx0, bx1⟩ := hx.1 (xs.length - 1)
    clear hcell hxc
    go_wp2_with fail
    refine (len32_any _ _ bx0 bx1).mono ?_
    rintro e w1 ⟨k, rfl, hk, hk32, rfl⟩
    have hfin := isLen_top hx (by omega) hk
    have Hf := hide hfin
    have Hk := hide hk
    clear hfin hk
    go_wp2
    go_ret
    refine ⟨(xs.length - 1) * 32 + k, ret_int ?_, Hf.out, by omega, rfl⟩
    omega

end Go.Proofs.YtmpdkeafbjibpaaDoor
