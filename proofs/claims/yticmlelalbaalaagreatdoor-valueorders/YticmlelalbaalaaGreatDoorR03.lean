/- Len, IMath, Raise, Cmp, Sub, JStr -/
import Derived.Test.YticmlelalbaalaaGreatDoorR02
import Derived.Deep.RegionWith
namespace Go.Proofs.YticmlelalbaalaaGreatDoor
open Go.RowKit

/-- 2 to the power of n -/
def p2 : Nat → Int
  | 0 => 1
  | n + 1 => 2 * p2 n
theorem p2_pos (n : Nat) : 0 < p2 n := by
  induction n with
  | zero => decide
  | succ n ih => simp only [p2]; omega
theorem p2_add (m n : Nat) : p2 (m + n) = p2 m * p2 n := by
  induction n with
  | zero => simp [p2]
  | succ n ih => rw [← Nat.add_assoc]; simp only [p2]; rw [ih, Int.mul_left_comm]
theorem p2_mono {m n : Nat} (h : m ≤ n) : p2 m ≤ p2 n := by
  obtain ⟨k, rfl⟩ := Nat.exists_eq_add_of_le h
  rw [p2_add]
  have h1 := p2_pos k
  have h2 := p2_pos m
  have : p2 m * 1 ≤ p2 m * p2 k := Int.mul_le_mul_of_nonneg_left (by omega) (by omega)
  omega
theorem p2_32 (n : Nat) : p2 (32 * n) = Nt.pw n := by
  induction n with
  | zero => rfl
  | succ n ih => rw [Nat.mul_succ, p2_add, ih, Nt.pw_succ, show p2 32 = 4294967296 from by decide, Int.mul_comm]

/-- k binary digits -/
def IsLen (x : Int) (k : Nat) : Prop := x < p2 k ∧ (0 < k → p2 (k - 1) ≤ x)
theorem isLen_unique {x : Int} {k m : Nat} (h1 : IsLen x k) (h2 : IsLen x m) : k = m := by
  rcases Nat.lt_trichotomy k m with h | h | h
  · have a := h2.2 (by omega)
    have b := p2_mono (m := k) (n := m - 1) (by omega)
    have c := h1.1
    omega
  · exact h
  · have a := h1.2 (by omega)
    have b := p2_mono (m := m) (n := k - 1) (by omega)
    have c := h2.1
    omega

theorem isLen_shift {x : Int} {k m : Nat} {P : Int} (hP : P = p2 m) (h : IsLen (x / P) k) (hk : 0 < k) : IsLen x (k + m) := by
  subst hP
  have hm := p2_pos m
  have hd : p2 m * (x / p2 m) ≤ x := by have := Int.mul_ediv_add_emod x (p2 m); have := Int.emod_nonneg x (b := p2 m) (by omega); omega
  have hu : x < p2 m * (x / p2 m) + p2 m := by have := Int.mul_ediv_add_emod x (p2 m); have := Int.emod_lt_of_pos x (b := p2 m) (by omega); omega
  obtain ⟨h1, h2⟩ := h
  have h3 := h2 hk
  refine ⟨?_, fun _ => ?_⟩
  · rw [p2_add, Int.mul_comm]
    have : p2 m * (x / p2 m + 1) ≤ p2 m * p2 k := Int.mul_le_mul_of_nonneg_left (by omega) (by omega)
    rw [Int.mul_add] at this
    omega
  · rw [show k + m - 1 = (k - 1) + m by omega, p2_add, Int.mul_comm]
    have : p2 m * p2 (k - 1) ≤ p2 m * (x / p2 m) := Int.mul_le_mul_of_nonneg_left h3 (by omega)
    omega

/-- how many binary digits a byte has -/
def lenTab : ByteArray := ⟨#[0, 1, 2, 2, 3, 3, 3, 3, 4, 4, 4, 4, 4, 4, 4, 4, 5, 5, 5, 5, 5, 5, 5, 5, 5, 5, 5, 5, 5, 5, 5, 5, 6, 6, 6, 6, 6, 6, 6, 6, 6, 6, 6, 6, 6, 6, 6, 6, 6, 6, 6, 6, 6, 6, 6, 6, 6, 6, 6, 6, 6, 6, 6, 6, 7, 7, 7, 7, 7, 7, 7, 7, 7, 7, 7, 7, 7, 7, 7, 7, 7, 7, 7, 7, 7, 7, 7, 7, 7, 7, 7, 7, 7, 7, 7, 7, 7, 7, 7, 7, 7, 7, 7, 7, 7, 7, 7, 7, 7, 7, 7, 7, 7, 7, 7, 7, 7, 7, 7, 7, 7, 7, 7, 7, 7, 7, 7, 7, 8, 8, 8, 8, 8, 8, 8, 8, 8, 8, 8, 8, 8, 8, 8, 8, 8, 8, 8, 8, 8, 8, 8, 8, 8, 8, 8, 8, 8, 8, 8, 8, 8, 8, 8, 8, 8, 8, 8, 8, 8, 8, 8, 8, 8, 8, 8, 8, 8, 8, 8, 8, 8, 8, 8, 8, 8, 8, 8, 8, 8, 8, 8, 8, 8, 8, 8, 8, 8, 8, 8, 8, 8, 8, 8, 8, 8, 8, 8, 8, 8, 8, 8, 8, 8, 8, 8, 8, 8, 8, 8, 8, 8, 8, 8, 8, 8, 8, 8, 8, 8, 8, 8, 8, 8, 8, 8, 8, 8, 8, 8, 8, 8, 8, 8, 8, 8, 8, 8, 8, 8, 8, 8, 8, 8, 8, 8, 8]⟩
theorem lenTab_all : (List.range 256).all (fun n => decide ((n : Int) < p2 (lenTab.data.getD n 0).toNat) && (decide ((lenTab.data.getD n 0).toNat = 0) || decide (p2 ((lenTab.data.getD n 0).toNat - 1) ≤ (n : Int))) && decide ((lenTab.data.getD n 0).toNat ≤ 8)) = true := by decide +kernel
theorem lenTab_size : lenTab.size = 256 := by decide +kernel
theorem lenTab_ok (n : Nat) (h : n < 256) (h' : n < lenTab.size) : IsLen (n : Int) (lenTab[n]'h').toNat ∧ (lenTab[n]'h').toNat ≤ 8 := by
  have := List.all_eq_true.1 lenTab_all n (by simpa using h)
  have e : lenTab.data.getD n 0 = lenTab[n]'h' := by
    simp [Array.getD, ByteArray.getElem_eq_getElem_data]
    rw [dif_pos h']
  rw [e] at this
  simp only [Bool.and_eq_true, Bool.or_eq_true, decide_eq_true_eq] at this
  exact ⟨⟨this.1.1, fun hk => by rcases this.1.2 with h | h; omega; exact h⟩, this.2⟩
theorem ret_int {k : IntKind} {a b : Int} (h : a = b) : Ending.returned (.int k a) = .returned (.int k b) := by rw [h]
theorem tab_at (y : Int) (h0 : 0 ≤ y) (h1 : y < 256) (h' : y.toNat < lenTab.size) : IsLen y (lenTab[y.toNat]'h').toNat ∧ (lenTab[y.toNat]'h').toNat ≤ 8 := by
  have := lenTab_ok y.toNat (by omega) h'
  rw [Int.toNat_of_nonneg h0] at this
  exact this
theorem len_pos {y : Int} {k : Nat} (h : IsLen y k) (hy : 1 ≤ y) : 0 < k := by
  rcases Nat.eq_zero_or_pos k with h0 | h0
  · subst h0; have := h.1; simp only [p2] at this; omega
  · exact h0

set_option maxRecDepth 100000 in
set_option maxHeartbeats 1000000 in
theorem len32_any (x : Int) (w : World) (hx0 : 0 ≤ x) (hx1 : x < 4294967296) :
    Calls Tryz.prog 156 #[.int .u32 x] w fun e w' => ∃ k : Nat, e = .returned (.int .i64 k) ∧ IsLen x k ∧ k ≤ 32 ∧ w' = w := by
  by_cases h1 : x < 256
  · have a1 : ¬ 65536 ≤ x := by omega
    have a2 : ¬ 256 ≤ x := by omega
    go_enter Tryz.func156, Tryz.ntmps156
    go_wp2
    go_ret
    have hsz := lenTab_size
    have hs' : (x).toNat < lenTab.size := by omega
    obtain ⟨t1, t2⟩ := tab_at (x) (by omega) (by omega) hs'
    refine ⟨_, ?_, t1, by omega, rfl⟩
    refine ret_int ?_
    show wrap64 (wrap64 (((lenTab[x.toNat]'hs').toNat : Nat) : Int)) = _
    generalize (lenTab[x.toNat]'hs').toNat = N at t2 ⊢
    unfold wrap64; omega
  by_cases h2 : x < 65536
  · have a1 : ¬ 65536 ≤ x := by omega
    have a2 : 256 ≤ x := by omega
    go_enter Tryz.func156, Tryz.ntmps156
    go_wp2
    go_ret
    have hsz := lenTab_size
    have hs' : (x / 256).toNat < lenTab.size := by omega
    obtain ⟨t1, t2⟩ := tab_at (x / 256) (by omega) (by omega) hs'
    refine ⟨(lenTab[(x / 256).toNat]'hs').toNat + 8, ?_, isLen_shift (P := 256) (by decide) t1 (len_pos t1 (by omega)), by omega, rfl⟩
    refine ret_int ?_
    show wrap64 (8 + wrap64 (((lenTab[(x / 256).toNat]'hs').toNat : Nat) : Int)) = _
    generalize (lenTab[(x / 256).toNat]'hs').toNat = N at t2 ⊢
    unfold wrap64; omega
  by_cases h3 : x < 16777216
  · have a1 : 65536 ≤ x := by omega
    have a2 : ¬ 256 ≤ x / 65536 := by omega
    go_enter Tryz.func156, Tryz.ntmps156
    go_wp2
    go_ret
    have hsz := lenTab_size
    have hs' : (x / 65536).toNat < lenTab.size := by omega
    obtain ⟨t1, t2⟩ := tab_at (x / 65536) (by omega) (by omega) hs'
    refine ⟨(lenTab[(x / 65536).toNat]'hs').toNat + 16, ?_, isLen_shift (P := 65536) (by decide) t1 (len_pos t1 (by omega)), by omega, rfl⟩
    refine ret_int ?_
    show wrap64 (16 + wrap64 (((lenTab[(x / 65536).toNat]'hs').toNat : Nat) : Int)) = _
    generalize (lenTab[(x / 65536).toNat]'hs').toNat = N at t2 ⊢
    unfold wrap64; omega
  · have a1 : 65536 ≤ x := by omega
    have a2 : 256 ≤ x / 65536 := by omega
    go_enter Tryz.func156, Tryz.ntmps156
    go_wp2
    go_ret
    have hsz := lenTab_size
    have hs' : (x / 65536 / 256).toNat < lenTab.size := by omega
    obtain ⟨t1, t2⟩ := tab_at (x / 65536 / 256) (by omega) (by omega) hs'
    have t3 := isLen_shift (P := 256) (m := 8) (by decide) t1 (len_pos t1 (by omega))
    have t4 := isLen_shift (x := x) (P := 65536) (m := 16) (by decide) t3 (by omega)
    refine ⟨(lenTab[(x / 65536 / 256).toNat]'hs').toNat + 8 + 16, ?_, t4, by omega, rfl⟩
    refine ret_int ?_
    show wrap64 (24 + wrap64 (((lenTab[(x / 65536 / 256).toNat]'hs').toNat : Nat) : Int)) = _
    generalize (lenTab[(x / 65536 / 256).toNat]'hs').toNat = N at t2 ⊢
    unfold wrap64; omega

/-- the length of a number by its highest limb -/
theorem isLen_top {xs : List Int} {k : Nat} (hx : Nt.Canon xs) (hn : 0 < xs.length) (h : IsLen (Nt.lb xs (xs.length - 1)) k) : IsLen (Nt.val xs) ((xs.length - 1) * 32 + k) := by
  obtain ⟨n, hl⟩ : ∃ n, xs.length = n + 1 := ⟨xs.length - 1, by omega⟩
  have hne : xs ≠ [] := by intro e; subst e; simp at hn
  have h0 := hx.2 hne
  have hb := hx.1 n
  have hv := Nt.vt_bounds hx.1 n
  rw [hl, Nat.add_sub_cancel] at h h0 ⊢
  have hval : Nt.val xs = Nt.vt xs n + Nt.lb xs n * Nt.pw n := by unfold Nt.val; rw [hl, Nt.vt_succ]
  have hp := Nt.pw_pos n
  have hk := len_pos h (by omega)
  rw [hval]
  refine ⟨?_, fun _ => ?_⟩
  · rw [p2_add, Nat.mul_comm, p2_32]
    have : Nt.pw n * (Nt.lb xs n + 1) ≤ Nt.pw n * p2 k := Int.mul_le_mul_of_nonneg_left (by have := h.1; omega) (by omega)
    rw [Int.mul_add, Int.mul_comm] at this
    omega
  · rw [show n * 32 + k - 1 = n * 32 + (k - 1) by omega, p2_add, Nat.mul_comm, p2_32]
    have : Nt.pw n * p2 (k - 1) ≤ Nt.pw n * Nt.lb xs n := Int.mul_le_mul_of_nonneg_left (h.2 hk) (by omega)
    rw [Int.mul_comm _ (Nt.lb xs n)] at this
    omega

set_option maxHeartbeats 1000000 in
theorem len_any {w : World} {va : Value} {n : Int} {ka : Nat} (ha : Arg w va n ka) (hka : ka ≤ 1099511627776) :
    Calls Tryz.prog 127 #[va] w fun e w' => ∃ k : Nat, e = .returned (.int .i64 k) ∧ IsLen n k ∧ k ≤ 32 * ka ∧ w' = w := by
  go_enter Tryz.func127, Tryz.ntmps127
  go_wp2_with fail
  refine (trim_arg ha).mono ?_
  rintro e w' ⟨rfl, ao, xs, rfl, hxk, hxm, hxc, hx, rfl⟩
  clear ha
  by_cases h0 : xs.length = 0
  · have h0' : ((xs.length : Int) == 0) = true := by simp [h0]
    have hxe : xs = [] := List.eq_nil_of_length_eq_zero h0
    clear h0
    go_wp2
    go_ret
    refine ⟨0, rfl, ?_, by omega, rfl⟩
    rw [hxe, Nt.val_nil]
    exact ⟨by decide, fun h => by omega⟩
  · have h0' : ((xs.length : Int) == 0) = false := by simp; intro e; subst e; simp at h0
    obtain ⟨b, off, rfl, hb, hcell⟩ := hxc (by omega)
    have hg := hcell (xs.length - 1) (by omega)
    have hp : (1 : Int) ≤ (xs.length : Int) := by omega
    obtain ⟨bx0, bx1⟩ := hx.1 (xs.length - 1)
    clear hcell hxc
    go_wp2_with fail
    refine (len32_any _ _ bx0 bx1).mono ?_
    rintro e w1 ⟨k, rfl, hk, hk32, rfl⟩
    have hfin := isLen_top hx (by omega) hk
    have Hf := hide hfin
    have Hk := hide hk
    clear hfin hk
    go_wp2
    go_ret
    refine ⟨(xs.length - 1) * 32 + k, ret_int ?_, Hf.out, by omega, rfl⟩
    omega

end Go.Proofs.YticmlelalbaalaaGreatDoor

namespace Go.Proofs.YticmlelalbaalaaGreatDoor
set_option linter.unusedVariables false

/-- the steps that a size counts, and the power of 2 that a step is -/
def mst (F s : Int) : Int := if s < F then s else s % F + F
def est (F L s : Int) : Int := if s < F then L else L - 1 + s / F
/-- N times 2 to the power of E, in steps of 2 to the power of B -/
def sc (N E B : Int) : Int := N * p2 (E - B).toNat
/-- the number of a size -/
def um (F L B s : Int) : Int := sc (mst F s) (est F L s) B
/-- r is the nearest pattern to N times 2 to the power of E -/
def Near (F L I N E r : Int) : Prop := 0 ≤ r ∧ r ≤ I ∧ ∀ B, B ≤ E → B ≤ L → 
  (r < I → 2 * sc N E B ≤ um F L B r + um F L B (r + 1) ∧ (2 * sc N E B = um F L B r + um F L B (r + 1) → r % 2 = 0)) ∧
  (0 < r → um F L B (r - 1) + um F L B r ≤ 2 * sc N E B ∧ (2 * sc N E B = um F L B (r - 1) + um F L B r → r % 2 = 0))

theorem p2_toNat_add {a b : Int} (ha : 0 ≤ a) (hb : 0 ≤ b) : p2 (a + b).toNat = p2 a.toNat * p2 b.toNat := by
  rw [← p2_add]; congr 1; omega
theorem sc_shift {N E B C : Int} (h : C ≤ B) (hE : B ≤ E) : sc N E C = sc N E B * p2 (B - C).toNat := by
  unfold sc
  rw [show E - C = (E - B) + (B - C) by omega, p2_toNat_add (by omega) (by omega), Int.mul_assoc]
theorem sc_up {N E B : Int} {k : Nat} (hE : B ≤ E) : sc N (E + k) B = sc (N * p2 k) E B := by
  unfold sc
  rw [show E + k - B = k + (E - B) by omega, p2_toNat_add (by omega) (by omega), Int.toNat_natCast, Int.mul_assoc]
theorem est_ge {F L s : Int} (hF : 0 < F) : L ≤ est F L s := by
  unfold est
  split
  · omega
  · have : 1 ≤ s / F := by rw [Int.le_ediv_iff_mul_le hF]; omega
    omega
/-- one step more -/
theorem um_succ {F L B s : Int} (hF : 0 < F) (h0 : 0 ≤ s) (hB : B ≤ L) : um F L B (s + 1) = um F L B s + p2 (est F L s - B).toNat := by
  unfold um sc
  by_cases a : s + 1 < F
  · have e1 : mst F (s + 1) = s + 1 := by unfold mst; rw [if_pos a]
    have e2 : mst F s = s := by unfold mst; rw [if_pos (by omega)]
    have e3 : est F L (s + 1) = L := by unfold est; rw [if_pos a]
    have e4 : est F L s = L := by unfold est; rw [if_pos (by omega)]
    rw [e1, e2, e3, e4, Int.add_mul, Int.one_mul]
  · by_cases b : s < F
    · have hs : s + 1 = F := by omega
      have e1 : mst F (s + 1) = s + 1 := by unfold mst; rw [if_neg a, hs, Int.emod_self]; omega
      have e2 : mst F s = s := by unfold mst; rw [if_pos b]
      have e3 : est F L (s + 1) = L := by unfold est; rw [if_neg a, hs, Int.ediv_self (by omega)]; omega
      have e4 : est F L s = L := by unfold est; rw [if_pos b]
      rw [e1, e2, e3, e4, Int.add_mul, Int.one_mul]
    · have e2 : mst F s = s % F + F := by unfold mst; rw [if_neg b]
      have e4 : est F L s = L - 1 + s / F := by unfold est; rw [if_neg b]
      have hd := Int.mul_ediv_add_emod s F
      have m0 := Int.emod_nonneg s (b := F) (by omega)
      have m1 := Int.emod_lt_of_pos s hF
      have hq1 : 1 ≤ s / F := by rw [Int.le_ediv_iff_mul_le hF]; omega
      by_cases c : s % F + 1 < F
      · have hq : (s + 1) / F = s / F := by
          rw [show s + 1 = (s % F + 1) + F * (s / F) by omega, Int.add_mul_ediv_left _ _ (by omega), Int.ediv_eq_zero_of_lt (by omega) c, Int.zero_add]
        have hr : (s + 1) % F = s % F + 1 := by
          rw [show s + 1 = (s % F + 1) + F * (s / F) by omega, Int.add_mul_emod_self_left, Int.emod_eq_of_lt (by omega) c]
        have e1 : mst F (s + 1) = s % F + 1 + F := by unfold mst; rw [if_neg a, hr]
        have e3 : est F L (s + 1) = L - 1 + s / F := by unfold est; rw [if_neg a, hq]
        rw [e1, e2, e3, e4, show s % F + 1 + F = (s % F + F) + 1 by omega, Int.add_mul, Int.one_mul]
      · have hr0 : s % F = F - 1 := by omega
        have hs1 : s + 1 = F * (s / F + 1) := by rw [Int.mul_add, Int.mul_one]; omega
        have hq : (s + 1) / F = s / F + 1 := by rw [hs1, Int.mul_ediv_cancel_left _ (by omega)]
        have hr : (s + 1) % F = 0 := by rw [hs1, Int.mul_emod_right]
        have e1 : mst F (s + 1) = F := by unfold mst; rw [if_neg a, hr]; omega
        have e3 : est F L (s + 1) = L - 1 + s / F + 1 := by unfold est; rw [if_neg a, hq]; omega
        rw [e1, e2, e3, e4, hr0, show L - 1 + s / F + 1 - B = 1 + (L - 1 + s / F - B) by omega, p2_toNat_add (by omega) (by omega), show p2 (1 : Int).toNat = 2 from rfl]
        generalize p2 (L - 1 + s / F - B).toNat = P
        rw [show F - 1 + F = 2 * F - 1 by omega, Int.sub_mul, Int.one_mul, ← Int.mul_assoc, Int.mul_comm F 2]
        omega
theorem um_lt {F L B s : Int} (hF : 0 < F) (h0 : 0 ≤ s) (hB : B ≤ L) : um F L B s < um F L B (s + 1) := by
  rw [um_succ hF h0 hB]
  have := p2_pos (est F L s - B).toNat
  omega
theorem um_mono {F L B s : Int} (hF : 0 < F) (h0 : 0 ≤ s) (hB : B ≤ L) (n : Nat) : um F L B s ≤ um F L B (s + n) := by
  induction n with
  | zero => simp
  | succ n ih =>
    have := um_lt (s := s + n) hF (by omega) hB
    rw [show s + ((n + 1 : Nat) : Int) = s + n + 1 by omega]
    omega
theorem um_le {F L B s t : Int} (hF : 0 < F) (h0 : 0 ≤ s) (hB : B ≤ L) (h : s ≤ t) : um F L B s ≤ um F L B t := by
  have := um_mono hF h0 hB (t - s).toNat
  rwa [show s + ((t - s).toNat : Int) = t by omega] at this
theorem um_lt' {F L B s t : Int} (hF : 0 < F) (h0 : 0 ≤ s) (hB : B ≤ L) (h : s < t) : um F L B s < um F L B t := by
  have h1 := um_lt (s := s) hF h0 hB
  have h2 := um_le (s := s + 1) (t := t) hF (by omega) hB (by omega)
  omega
/-- the nearest patterns of two numbers are in their order -/
theorem near_le {F L I N E N' E' r r' B : Int} (hF : 0 < F) (h : Near F L I N E r) (h' : Near F L I N' E' r') (hE : B ≤ E) (hE' : B ≤ E') (hB : B ≤ L) (hv : sc N E B ≤ sc N' E' B) : r ≤ r' := by
  rcases Int.lt_or_le r' r with c | c
  · exfalso
    obtain ⟨r0, r1, hn⟩ := h
    obtain ⟨q0, q1, hn'⟩ := h'
    obtain ⟨_, lo⟩ := hn B hE hB
    obtain ⟨hi, _⟩ := hn' B hE' hB
    obtain ⟨l1, l2⟩ := lo (by omega)
    obtain ⟨u1, u2⟩ := hi (by omega)
    have a1 := um_le (s := r') (t := r - 1) hF q0 hB (by omega)
    have a2 := um_le (s := r' + 1) (t := r) hF (by omega) hB (by omega)
    by_cases e : r' + 1 = r
    · have e1 : r - 1 = r' := by omega
      rw [e1, ← e] at l1 l2
      have p1 := l2 (by omega)
      have p2 := u2 (by omega)
      omega
    · have a3 := um_lt' (s := r') (t := r - 1) hF q0 hB (by omega)
      omega
  · exact c
theorem near_unique {F L I N E r r' : Int} (hF : 0 < F) (h : Near F L I N E r) (h' : Near F L I N E r') : r = r' := by
  have a := near_le (B := min E L) hF h h' (by omega) (by omega) (by omega) (Int.le_refl _)
  have b := near_le (B := min E L) hF h' h (by omega) (by omega) (by omega) (Int.le_refl _)
  omega
/-- q is the whole number next to V / 2T, of two the even one -/
def Half (q T V : Int) : Prop := 2 * q * T - T ≤ V ∧ V ≤ 2 * q * T + T ∧ (V = 2 * q * T - T → q % 2 = 0) ∧ (V = 2 * q * T + T → q % 2 = 0)
/-- the value of what pattern makes -/
theorem um_pattern {F L B q t : Int} (hF : 0 < F) (hB : B ≤ L) (ht : L ≤ t) (q0 : 0 ≤ q) (q1 : q ≤ 2 * F) (hq : t = L ∨ F ≤ q) : um F L B (q + (t - L) * F) = q * p2 (t - B).toNat := by
  by_cases a : q < F
  · obtain rfl : t = L := by omega
    rw [Int.sub_self, Int.zero_mul, Int.add_zero]
    unfold um sc mst est
    rw [if_pos a, if_pos a]
  · have hn : ¬ q + (t - L) * F < F := by
      have : 0 ≤ (t - L) * F := Int.mul_nonneg (by omega) (by omega)
      omega
    by_cases b : q = 2 * F
    · have hd : (q + (t - L) * F) = F * (t - L + 2) := by rw [b, Int.mul_add, Int.mul_comm F (t - L)]; omega
      have e1 : mst F (q + (t - L) * F) = F := by unfold mst; rw [if_neg hn, hd, Int.mul_emod_right]; omega
      have e2 : est F L (q + (t - L) * F) = t + 1 := by unfold est; rw [if_neg hn, hd, Int.mul_ediv_cancel_left _ (by omega)]; omega
      unfold um sc
      rw [e1, e2, b, show t + 1 - B = 1 + (t - B) by omega, p2_toNat_add (by omega) (by omega), show p2 (1 : Int).toNat = 2 from rfl, ← Int.mul_assoc, Int.mul_comm F 2]
    · have hd : (q + (t - L) * F) = (q - F) + F * (t - L + 1) := by rw [Int.mul_add, Int.mul_comm F (t - L)]; omega
      have e1 : mst F (q + (t - L) * F) = q := by unfold mst; rw [if_neg hn, hd, Int.add_mul_emod_self_left, Int.emod_eq_of_lt (by omega) (by omega)]; omega
      have e2 : est F L (q + (t - L) * F) = t := by unfold est; rw [if_neg hn, hd, Int.add_mul_ediv_left _ _ (by omega), Int.ediv_eq_zero_of_lt (by omega) (by omega)]; omega
      unfold um sc
      rw [e1, e2]
theorem est_pattern {F L q t : Int} (hF : 0 < F) (ht : L ≤ t) (q0 : 0 ≤ q) (q1 : q < 2 * F) (hq : t = L ∨ F ≤ q) : est F L (q + (t - L) * F) = t := by
  by_cases a : q < F
  · obtain rfl : t = L := by omega
    rw [Int.sub_self, Int.zero_mul, Int.add_zero]
    unfold est
    rw [if_pos a]
  · have hn : ¬ q + (t - L) * F < F := by
      have : 0 ≤ (t - L) * F := Int.mul_nonneg (by omega) (by omega)
      omega
    have hd : (q + (t - L) * F) = (q - F) + F * (t - L + 1) := by rw [Int.mul_add, Int.mul_comm F (t - L)]; omega
    unfold est
    rw [if_neg hn, hd, Int.add_mul_ediv_left _ _ (by omega), Int.ediv_eq_zero_of_lt (by omega) (by omega)]; omega
/-- what pattern makes of a rounded number of steps is the nearest -/
theorem near_pattern {F L I N E q t : Int} (hF : 0 < F) (hF2 : F % 2 = 0) (ht : L ≤ t) (q0 : 0 ≤ q) (q1 : q ≤ 2 * F) (hq : t = L ∨ F ≤ q) (hI : q + (t - L) * F ≤ I)
    (hh : ∀ B, B ≤ E → B ≤ L → Half q (p2 (t - B).toNat) (2 * sc N E B)) (hlow : L < t → ∀ B, B ≤ E → B ≤ L → 2 * F * p2 (t - B).toNat ≤ 2 * sc N E B) : Near F L I N E (q + (t - L) * F) := by
  have h0 : 0 ≤ (t - L) * F := Int.mul_nonneg (by omega) (by omega)
  have hpar : (q + (t - L) * F) % 2 = q % 2 := by
    have : ((t - L) * F) % 2 = 0 := by rw [Int.mul_emod, hF2, Int.mul_zero]; rfl
    omega
  refine ⟨by omega, hI, fun B hE hB => ?_⟩
  obtain ⟨h1, h2, h3, h4⟩ := hh B hE hB
  have hu := um_pattern (B := B) hF hB ht q0 q1 hq
  have hT := p2_pos (t - B).toNat
  have e2q : 2 * q * p2 (t - B).toNat = 2 * (q * p2 (t - B).toNat) := Int.mul_assoc _ _ _
  rw [hpar]
  refine ⟨fun _ => ?_, fun hr => ?_⟩
  · rw [um_succ hF (by omega) hB, hu]
    by_cases c : q < 2 * F
    · rw [est_pattern hF ht q0 c hq]
      refine ⟨by omega, fun e => h4 (by omega)⟩
    · have e : q = 2 * F := by omega
      have hd : (q + (t - L) * F) = F * (t - L + 2) := by rw [e, Int.mul_add, Int.mul_comm F (t - L)]; omega
      have hest : est F L (q + (t - L) * F) = t + 1 := by
        unfold est
        rw [if_neg (by omega), hd, Int.mul_ediv_cancel_left _ (by omega)]; omega
      rw [hest, show t + 1 - B = 1 + (t - B) by omega, p2_toNat_add (by omega) (by omega), show p2 (1 : Int).toNat = 2 from rfl]
      refine ⟨by omega, fun e => by omega⟩
  · have hs := um_succ (s := q + (t - L) * F - 1) hF (by omega) hB
    rw [Int.sub_add_cancel, hu] at hs
    by_cases c : t = L ∨ F < q
    · have hest : est F L (q + (t - L) * F - 1) = t := by
        rw [show q + (t - L) * F - 1 = (q - 1) + (t - L) * F by omega]
        rcases Int.lt_or_le (q - 1) 0 with d | d
        · have : q = 0 := by omega
          have ht' : t = L := by omega
          subst ht'
          rw [Int.sub_self, Int.zero_mul] at hr
          omega
        · exact est_pattern hF ht d (by omega) (by omega)
      rw [hest] at hs
      rw [hu]
      refine ⟨by omega, fun e => h3 (by omega)⟩
    · have e : q = F := by omega
      have hl := hlow (by omega) B hE hB
      have hp := p2_pos (est F L (q + (t - L) * F - 1) - B).toNat
      have e3 : 2 * F * p2 (t - B).toNat = 2 * (q * p2 (t - B).toNat) := by rw [e, Int.mul_assoc]
      rw [hu]
      refine ⟨by omega, fun e => by omega⟩
/-- digits far behind say no more than that something is there -/
theorem half_sticky {q T Z a b top k : Int} (hZ : 0 < Z) (hT : T = k * Z) (a0 : 0 ≤ a) (a1 : a < Z) (b0 : 0 ≤ b) (b1 : b < Z) (hab : a = 0 ↔ b = 0) (h : Half q T (top * Z + b)) : Half q T (top * Z + a) := by
  obtain ⟨h1, h2, h3, h4⟩ := h
  subst hT
  have e1 : 2 * q * (k * Z) - k * Z = (2 * q * k - k) * Z := by rw [Int.sub_mul, Int.mul_assoc (2 * q) k Z]
  have e2 : 2 * q * (k * Z) + k * Z = (2 * q * k + k) * Z := by rw [Int.add_mul, Int.mul_assoc (2 * q) k Z]
  unfold Half
  rw [e1] at h1 h3 ⊢
  rw [e2] at h2 h4 ⊢
  generalize 2 * q * k - k = u at *
  generalize 2 * q * k + k = v at *
  have low : ∀ c, 0 ≤ c → c < Z → (u * Z ≤ top * Z + c ↔ u ≤ top) := by
    intro c c0 c1
    constructor
    · intro h
      rcases Int.lt_or_le top u with d | d
      · have : (top + 1) * Z ≤ u * Z := Int.mul_le_mul_of_nonneg_right (by omega) (by omega)
        rw [Int.add_mul, Int.one_mul] at this
        omega
      · exact d
    · intro h
      have : u * Z ≤ top * Z := Int.mul_le_mul_of_nonneg_right h (by omega)
      omega
  have eq : ∀ c x, 0 ≤ c → c < Z → (top * Z + c = x * Z ↔ top = x ∧ c = 0) := by
    intro c x c0 c1
    constructor
    · intro h
      rcases Int.lt_trichotomy top x with d | d | d
      · have : (top + 1) * Z ≤ x * Z := Int.mul_le_mul_of_nonneg_right (by omega) (by omega)
        rw [Int.add_mul, Int.one_mul] at this
        omega
      · subst d; exact ⟨rfl, by omega⟩
      · have : (x + 1) * Z ≤ top * Z := Int.mul_le_mul_of_nonneg_right (by omega) (by omega)
        rw [Int.add_mul, Int.one_mul] at this
        omega
    · rintro ⟨rfl, rfl⟩; omega
  have up : ∀ c, 0 ≤ c → c < Z → (top * Z + c ≤ v * Z ↔ (top < v ∨ (top = v ∧ c = 0))) := by
    intro c c0 c1
    constructor
    · intro h
      rcases Int.lt_trichotomy top v with d | d | d
      · exact Or.inl d
      · subst d; exact Or.inr ⟨rfl, by omega⟩
      · have : (v + 1) * Z ≤ top * Z := Int.mul_le_mul_of_nonneg_right (by omega) (by omega)
        rw [Int.add_mul, Int.one_mul] at this
        omega
    · rintro (d | ⟨rfl, rfl⟩)
      · have : (top + 1) * Z ≤ v * Z := Int.mul_le_mul_of_nonneg_right (by omega) (by omega)
        rw [Int.add_mul, Int.one_mul] at this
        omega
      · omega
  rw [low b b0 b1] at h1
  rw [up b b0 b1] at h2
  rw [eq b u b0 b1] at h3
  rw [eq b v b0 b1] at h4
  rw [low a a0 a1, up a a0 a1, eq a u a0 a1, eq a v a0 a1, hab]
  exact ⟨h1, h2, h3, h4⟩

end Go.Proofs.YticmlelalbaalaaGreatDoor

namespace Go.Proofs.YticmlelalbaalaaGreatDoor
open Go.RowKit

theorem p2_pow (n : Nat) : p2 n = (2 : Int) ^ n := by
  induction n with
  | zero => rfl
  | succ n ih => simp only [p2]; rw [ih, Int.pow_succ, Int.mul_comm]
theorem p2_cast (n : Nat) : p2 n = ((2 ^ n : Nat) : Int) := by rw [p2_pow]; simp
theorem p2_split {n : Nat} (hn : n ≤ 32) : p2 n * p2 (32 - n) = 4294967296 := by
  rw [← p2_add, show n + (32 - n) = 32 by omega]; decide

/-- the product of a limb with a power: what stays, what goes on -/
theorem shl_parts {x : Int} {P Q : Int} (hP : 0 < P) (hQ : 0 < Q) (hPQ : P * Q = 4294967296) : x * P % 4294967296 = (x % Q) * P ∧ x * P / 4294967296 = x / Q := by
  have h1 : x * P = (x % Q) * P + 4294967296 * (x / Q) := by
    have e := Int.emod_add_mul_ediv x Q
    have e2 : (x % Q + Q * (x / Q)) * P = x * P := by rw [e]
    rw [Int.add_mul] at e2
    rw [← hPQ, ← e2, Int.mul_comm P Q, Int.mul_assoc, Int.mul_assoc, Int.mul_comm P]
  have h2 : 0 ≤ (x % Q) * P := Int.mul_nonneg (Int.emod_nonneg _ (by omega)) (by omega)
  have h3 : (x % Q) * P < 4294967296 := by
    have : (x % Q + 1) * P ≤ Q * P := Int.mul_le_mul_of_nonneg_right (by have := Int.emod_lt_of_pos x hQ; omega) (by omega)
    rw [Int.add_mul, Int.mul_comm Q P, hPQ] at this
    omega
  have := (Int.ediv_emod_unique (a := x * P) (b := 4294967296) (r := (x % Q) * P) (q := x / Q) (by decide)).2 ⟨h1.symm, h2, h3⟩
  exact ⟨this.2, this.1⟩

/-- bits that do not meet are added -/
theorem or_add {n : Nat} {a c : Int} (ha : 0 ≤ a) (hc0 : 0 ≤ c) (hc1 : c < p2 n) (hlt : a * p2 n + c < 4294967296) : bits .or .u32 (a * p2 n) c = a * p2 n + c ∧ bits .or .u32 c (a * p2 n) = a * p2 n + c := by
  obtain ⟨A, rfl⟩ := Int.eq_ofNat_of_zero_le ha
  obtain ⟨C, rfl⟩ := Int.eq_ofNat_of_zero_le hc0
  rw [p2_cast] at *
  have e : ((A : Int) * ((2 ^ n : Nat) : Int)) = ((A * 2 ^ n : Nat) : Int) := by simp
  rw [e] at hlt ⊢
  have hA : 0 ≤ A * 2 ^ n := Nat.zero_le _
  have hj := nat_join n (A * 2 ^ n) C (Nat.mul_mod_left _ _) (by omega)
  rw [u32_or_nat _ _ (by omega) (by omega), u32_or_nat _ _ (by omega) (by omega), Nat.or_comm C, hj]
  omega

theorem raise_digit {x c : Int} {n : Nat} (hn : n < 32) (hx0 : 0 ≤ x) (hx1 : x < 4294967296) (hc0 : 0 ≤ c) (hc1 : c < p2 n) :
    (0 ≤ bits .or .u32 (x * 2 ^ n % 4294967296) c ∧ bits .or .u32 (x * 2 ^ n % 4294967296) c < 4294967296) ∧ (0 ≤ x / 2 ^ (32 - n) ∧ x / 2 ^ (32 - n) < p2 n) ∧
      bits .or .u32 (x * 2 ^ n % 4294967296) c + (x / 2 ^ (32 - n)) * 4294967296 = x * p2 n + c := by
  rw [← p2_pow, ← p2_pow]
  have hP := p2_pos n
  have hQ := p2_pos (32 - n)
  have hPQ := p2_split (n := n) (by omega)
  obtain ⟨h1, h2⟩ := shl_parts (x := x) hP hQ hPQ
  rw [h1]
  have hr0 := Int.emod_nonneg x (b := p2 (32 - n)) (by omega)
  have hr1 := Int.emod_lt_of_pos x hQ
  have hlt : x % p2 (32 - n) * p2 n + c < 4294967296 := by
    have : (x % p2 (32 - n) + 1) * p2 n ≤ p2 (32 - n) * p2 n := Int.mul_le_mul_of_nonneg_right (by omega) (by omega)
    rw [Int.add_mul, Int.mul_comm (p2 (32 - n)) (p2 n), hPQ] at this
    omega
  have hnn : 0 ≤ x % p2 (32 - n) * p2 n := Int.mul_nonneg hr0 (by omega)
  rw [(or_add hr0 hc0 hc1 hlt).1]
  refine ⟨⟨by omega, hlt⟩, ⟨Int.ediv_nonneg hx0 (by omega), Int.ediv_lt_of_lt_mul hQ (by rw [hPQ]; exact hx1)⟩, ?_⟩
  have e := Int.emod_add_mul_ediv (x * p2 n) 4294967296
  rw [h1, h2] at e
  omega

theorem raise_step {os zs : List Int} {off k : Nat} {q D q' P : Int} (hk : off + k < zs.length) (hd : D + q' * 4294967296 = Nt.lb os (off + k) * P + q)
    (h : Nt.vt zs (off + k) + q * Nt.pw (off + k) = Nt.vt os off + P * (Nt.vt os (off + k) - Nt.vt os off)) :
    Nt.vt (zs.set (off + k) D) (off + (k + 1)) + q' * Nt.pw (off + (k + 1)) = Nt.vt os off + P * (Nt.vt os (off + (k + 1)) - Nt.vt os off) := by
  rw [← Nat.add_assoc, Nt.vt_succ, Nt.vt_set (Nat.le_refl _), Nt.lb_set_eq hk, Nt.vt_succ, Nt.pw_succ]
  have e2 : (D + q' * 4294967296) * Nt.pw (off + k) = (Nt.lb os (off + k) * P + q) * Nt.pw (off + k) := by rw [hd]
  rw [Int.add_mul, Int.add_mul, Int.mul_assoc q'] at e2
  rw [Int.mul_sub] at h
  rw [Int.mul_sub, Int.mul_add]
  rw [← Int.mul_assoc P, Int.mul_comm P (Nt.lb os (off + k))]
  omega

set_option maxHeartbeats 1000000 in
theorem raise_any {w0 w : World} {ro : Option Addr} {rc g off n L : Nat} {os : List Int} (hb : Below w0.heap.size w0 w) (hg : w0.heap.size ≤ g) (hn : n < 32) (hL : L ≤ 2199023255552)
    (hr : Row .u32 70 w g os) (hoo : Nt.Ok os) (hfit : off + L ≤ os.length) (hro : 0 < L → ro = some ⟨g, off, none⟩) :
    Calls Tryz.prog 186 #[.slice ro L rc, .int .u64 n] w fun e w' => ∃ (c : Int) (zs : List Int), e = .returned (.tuple #[]) ∧ zs.length = os.length ∧ Nt.Ok zs ∧
      (∀ j, j < off ∨ off + L ≤ j → Nt.lb zs j = Nt.lb os j) ∧ Nt.vt zs (off + L) + c * Nt.pw (off + L) = Nt.vt os off + p2 n * (Nt.vt os (off + L) - Nt.vt os off) ∧ (0 < L → c = Nt.lb os (off + L - 1) / p2 (32 - n)) ∧ Row .u32 70 w' g zs ∧ Below w0.heap.size w0 w' := by
  go_enter Tryz.func186, Tryz.ntmps186
  go_wp2
  go_loopw [4, 9] (fun c i wr => ∃ (k : Nat) (q : Int) (zs : List Int), k ≤ L ∧ i = .int .i64 k ∧ c = .int .u32 q ∧ 0 ≤ q ∧ q < p2 n ∧ zs.length = os.length ∧ Nt.Ok zs ∧ (∀ j, j < off ∨ off + k ≤ j → Nt.lb zs j = Nt.lb os j) ∧
      Row .u32 70 wr g zs ∧ Below w0.heap.size w0 wr ∧ Nt.vt zs (off + k) + q * Nt.pw (off + k) = Nt.vt os off + p2 n * (Nt.vt os (off + k) - Nt.vt os off) ∧ (0 < k → q = Nt.lb os (off + k - 1) / p2 (32 - n))) (fun _ i _ => L - (intOf i).toNat)
  case atStart => exact ⟨0, 0, os, by omega, rfl, rfl, by omega, p2_pos n, rfl, hoo, fun _ _ => rfl, hr, hb, by simp, fun h => by omega⟩
  case round =>
    obtain ⟨k, q, zs, hk, rfl, rfl, hq0, hq1, hzl, hzo, hsame, hrow, hbr, heq, hqe⟩ := hrel
    have Heq := hide heq
    have Hzl := hide hzl
    have Hs := hide hsame
    have Hq := hide hq1
    have Hqe := hide hqe
    clear heq hzl hsame hr hb hqe hq1
    by_cases hkl : k < L
    · have hR := hro (by omega)
      subst hR
      have g2 := hrow.cell (i := off + k) (by have := Hzl.out; omega)
      have hfz := hrow.frozen (off + k)
      obtain ⟨bz0, bz1⟩ := hzo (off + k)
      have hn32 : (n : Int) < 32 := by omega
      obtain ⟨⟨d0, d1⟩, ⟨c0, c1⟩, hd⟩ := raise_digit hn bz0 bz1 hq0 Hq.out
      have Hd0 := hide d0
      have Hd1 := hide d1
      have Hc0 := hide c0
      have Hc1 := hide c1
      have Hd := hide hd
      clear d0 d1 c0 c1 hd
      go_wp2
      go_roundw
      case rel => exact ⟨k + 1, Nt.lb zs (off + k) / 2 ^ (32 - n), zs.set (off + k) (bits BinOp.or IntKind.u32 (Nt.lb zs (off + k) * 2 ^ n % 4294967296) q), by omega, by go_num, rfl, Hc0.out, Hc1.out, by have := Hzl.out; simp [this], Nt.ok_set hzo ⟨Hd0.out, Hd1.out⟩, fun j hj => by
        rw [Nt.lb_set_ne (by omega)]; exact Hs.out j (by omega), hrow.set _ _, hbr.setCell (p := ⟨g, off + k, none⟩) hg _, raise_step (by have := Hzl.out; omega) (by have := Hd.out; rw [← Hs.out (off + k) (by omega)]; exact this) Heq.out, fun _ => by
        rw [p2_pow, show off + (k + 1) - 1 = off + k by omega, ← Hs.out (off + k) (by omega)]⟩
      case measure => simp [intOf]; omega
    · have hke : k = L := by omega
      subst hke
      go_wp2
      go_end0
      exact ⟨q, zs, rfl, Hzl.out, hzo, Hs.out, Heq.out, Hqe.out, hrow, hbr⟩

/-- a limb cut, with what came from above -/
theorem lower_digit {x r : Int} {n : Nat} (hn : n < 32) (hx0 : 0 ≤ x) (hx1 : x < 4294967296) (hr0 : 0 ≤ r) (hr1 : r < p2 n) :
    (0 ≤ bits .or .u32 (x / 2 ^ n) (r * p2 (32 - n)) ∧ bits .or .u32 (x / 2 ^ n) (r * p2 (32 - n)) < 4294967296) ∧ bits .or .u32 (x / 2 ^ n) (r * p2 (32 - n)) = x / p2 n + r * p2 (32 - n) ∧ x * 2 ^ (32 - n) % 4294967296 = (x % p2 n) * p2 (32 - n) := by
  rw [← p2_pow, ← p2_pow]
  have hP := p2_pos n
  have hQ := p2_pos (32 - n)
  have hPQ := p2_split (n := n) (by omega)
  obtain ⟨h1, _⟩ := shl_parts (x := x) hQ hP (by rw [Int.mul_comm]; exact hPQ)
  have q0 : 0 ≤ x / p2 n := Int.ediv_nonneg hx0 (by omega)
  have q1 : x / p2 n < p2 (32 - n) := Int.ediv_lt_of_lt_mul hP (by rw [Int.mul_comm, hPQ]; exact hx1)
  have hlt : r * p2 (32 - n) + x / p2 n < 4294967296 := by
    have : (r + 1) * p2 (32 - n) ≤ p2 n * p2 (32 - n) := Int.mul_le_mul_of_nonneg_right (by omega) (by omega)
    rw [Int.add_mul, hPQ] at this
    omega
  have hnn : 0 ≤ r * p2 (32 - n) := Int.mul_nonneg hr0 (by omega)
  have ho := (or_add (n := 32 - n) hr0 q0 q1 hlt).2
  rw [ho]
  exact ⟨⟨by omega, hlt⟩, by omega, h1⟩

theorem vt_set_gen {zs : List Int} {i : Nat} (hi : i < zs.length) (q : Int) (n : Nat) (hn : i < n) : Nt.vt (zs.set i q) n = Nt.vt zs n + (q - Nt.lb zs i) * Nt.pw i := by
  induction n with
  | zero => omega
  | succ n ih =>
    rw [Nt.vt_succ, Nt.vt_succ]
    by_cases e : i = n
    · subst e; rw [Nt.vt_set (Nat.le_refl _), Nt.lb_set_eq hi, Int.sub_mul]; omega
    · rw [Nt.lb_set_ne e, ih (by omega)]; omega

theorem lower_step {os zs : List Int} {p : Nat} {D r r' P Q : Int} (hp : p < zs.length) (hPQ : P * Q = 4294967296) (hD : D = Nt.lb os p / P + r * Q) (hr' : r' = Nt.lb os p % P)
    (h : (Nt.val zs - Nt.vt zs (p + 1)) * P + r * Nt.pw (p + 1) = Nt.val os - Nt.vt os (p + 1)) :
    (Nt.val (zs.set p D) - Nt.vt (zs.set p D) p) * P + r' * Nt.pw p = Nt.val os - Nt.vt os p := by
  have e0 : Nt.val (zs.set p D) = Nt.val zs + (D - Nt.lb zs p) * Nt.pw p := by
    unfold Nt.val; rw [List.length_set]; exact vt_set_gen hp D _ hp
  rw [e0, Nt.vt_set (Nat.le_refl _)]
  rw [Nt.vt_succ, Nt.vt_succ, Nt.pw_succ] at h
  have e := Int.emod_add_mul_ediv (Nt.lb os p) P
  rw [← hr'] at e
  have e1 : D * P + r' = Nt.lb os p + r * 4294967296 := by
    rw [hD, Int.add_mul, Int.mul_assoc, Int.mul_comm Q P, hPQ, Int.mul_comm (_ / _) P]; omega
  have e2 : (D * P + r') * Nt.pw p = (Nt.lb os p + r * 4294967296) * Nt.pw p := by rw [e1]
  rw [Int.add_mul, Int.add_mul, Int.mul_assoc r] at e2
  have e3 : (Nt.val zs + (D - Nt.lb zs p) * Nt.pw p - Nt.vt zs p) * P = (Nt.val zs - (Nt.vt zs p + Nt.lb zs p * Nt.pw p)) * P + D * P * Nt.pw p := by
    rw [Int.sub_mul D, Int.mul_right_comm D, ← Int.add_mul]
    congr 1
    omega
  rw [e3]
  omega

end Go.Proofs.YticmlelalbaalaaGreatDoor

namespace Go.Proofs.YticmlelalbaalaaGreatDoor
open Go.RowKit

/-- -1, 0, 1 -/
def sgn (x y : Int) : Int := if x < y then -1 else if y < x then 1 else 0
theorem sgn_lt {x y : Int} (h : x < y) : sgn x y = -1 := by simp [sgn, h]
theorem sgn_gt {x y : Int} (h : y < x) : sgn x y = 1 := by unfold sgn; rw [if_neg (by omega), if_pos h]
theorem sgn_eq {x y : Int} (h : x = y) : sgn x y = 0 := by subst h; simp [sgn]

set_option maxHeartbeats 1000000 in
theorem compare_int (x y : Int) (w : World) :
    Calls Tryz.prog 130 #[.int .i64 x, .int .i64 y] w fun e w' => e = .returned (.int .i64 (sgn x y)) ∧ w' = w := by
  have hx : (x != x) = false := by simp
  have hy : (y != y) = false := by simp
  rcases Int.lt_trichotomy x y with h | h | h
  · rw [sgn_lt h]
    go_enter Tryz.func130, Tryz.ntmps130
    go_wp2
    go_ret
    exact ⟨rfl, rfl⟩
  · subst h
    rw [sgn_eq rfl]
    go_enter Tryz.func130, Tryz.ntmps130
    go_wp2
    go_ret
    exact ⟨rfl, rfl⟩
  · rw [sgn_gt h]
    have h' : ¬ x < y := by omega
    go_enter Tryz.func130, Tryz.ntmps130
    go_wp2
    go_ret
    exact ⟨rfl, rfl⟩

set_option maxHeartbeats 1000000 in
theorem compare_u32 (x y : Int) (w : World) :
    Calls Tryz.prog 131 #[.int .u32 x, .int .u32 y] w fun e w' => e = .returned (.int .i64 (sgn x y)) ∧ w' = w := by
  have hx : (x != x) = false := by simp
  have hy : (y != y) = false := by simp
  rcases Int.lt_trichotomy x y with h | h | h
  · rw [sgn_lt h]
    go_enter Tryz.func131, Tryz.ntmps131
    go_wp2
    go_ret
    exact ⟨rfl, rfl⟩
  · subst h
    rw [sgn_eq rfl]
    go_enter Tryz.func131, Tryz.ntmps131
    go_wp2
    go_ret
    exact ⟨rfl, rfl⟩
  · rw [sgn_gt h]
    have h' : ¬ x < y := by omega
    go_enter Tryz.func131, Tryz.ntmps131
    go_wp2
    go_ret
    exact ⟨rfl, rfl⟩

set_option maxHeartbeats 1000000 in
theorem cmp_any {w : World} {va vb : Value} {n m : Int} {ka kb : Nat} (ha : Arg w va n ka) (hb : Arg w vb m kb) (hka : ka ≤ 1099511627776) (_hkb : kb ≤ 1099511627776) :
    Calls Tryz.prog 96 #[va, vb] w fun e w' => e = .returned (.int .i64 (sgn n m)) ∧ Below w.heap.size w w' := by
  go_enter Tryz.func96, Tryz.ntmps96
  go_wp2_with fail
  refine (trim_arg ha).mono ?_
  rintro e w' ⟨rfl, ao, xs, rfl, hxk, hxm, hxc, hx, rfl⟩
  go_wp2_with fail
  refine (trim_arg hb).mono ?_
  rintro e w' ⟨rfl, bo, ys, rfl, hyk, hym, hyc, hy, rfl⟩
  clear ha hb
  by_cases hl : xs.length = ys.length
  · have hl1 : ((xs.length : Int) != (ys.length : Int)) = false := by simp [hl]
    have Hl : Hid (xs.length = ys.length) := hl
    clear hl
    go_wp2
    go_loopw [23] (fun i wr => ∃ k : Nat, k ≤ xs.length ∧ i = .int .i64 k ∧ (∀ j, xs.length ≤ j + k → j < xs.length → Nt.lb xs j = Nt.lb ys j) ∧ Below w'.heap.size w' wr) (fun i _ => xs.length - (intOf i).toNat)
    case atStart => exact ⟨0, Nat.zero_le _, rfl, fun j hj h2 => by omega, Below.refl _ _⟩
    case round =>
      obtain ⟨k, hk, rfl, hsame, hbr⟩ := hrel
      have HS : Hid (∀ j, xs.length ≤ j + k → j < xs.length → Nt.lb xs j = Nt.lb ys j) := hsame
      clear hsame
      by_cases hlt : k < xs.length
      · have hlt2 : xs.length - 1 - k < ys.length := by have := Hl.out; omega
        obtain ⟨b1, o1, rfl, _, hc1⟩ := (hxc.below hbr) (by omega)
        obtain ⟨b2, o2, rfl, _, hc2⟩ := (hyc.below hbr) (by omega)
        have g1 := hc1 (xs.length - 1 - k) (by omega)
        have g2 := hc2 (xs.length - 1 - k) hlt2
        clear hc1 hc2 hxc hyc
        by_cases hq : Nt.lb xs (xs.length - 1 - k) = Nt.lb ys (xs.length - 1 - k)
        · have hq' : (Nt.lb xs (xs.length - 1 - k) != Nt.lb ys (xs.length - 1 - k)) = false := by simp [hq]
          have Hq : Hid (Nt.lb xs (xs.length - 1 - k) = Nt.lb ys (xs.length - 1 - k)) := hq
          clear hq
          go_wp2
          go_region
          all_goals go_wp2
          all_goals go_roundw
          all_goals first
            | exact ⟨k + 1, by omega, by go_num, fun j hj h2 => by
                by_cases e : j = xs.length - 1 - k
                · subst e; exact Hq.out
                · exact HS.out j (by omega) h2, by repeat (first | exact hbr | apply Below.drew)⟩
            | (simp [intOf]; omega)
        · have hq' : (Nt.lb xs (xs.length - 1 - k) != Nt.lb ys (xs.length - 1 - k)) = true := by simp [hq]
          have Hq : Hid (¬ Nt.lb xs (xs.length - 1 - k) = Nt.lb ys (xs.length - 1 - k)) := hq
          clear hq
          have hs : sgn (Nt.val xs) (Nt.val ys) = sgn (Nt.lb xs (xs.length - 1 - k)) (Nt.lb ys (xs.length - 1 - k)) := by
            have hll : xs.length = ys.length := Hl.out
            rcases Int.lt_trichotomy (Nt.lb xs (xs.length - 1 - k)) (Nt.lb ys (xs.length - 1 - k)) with h | h | h
            · rw [sgn_lt h, sgn_lt]
              unfold Nt.val
              rw [← hll]
              exact Nt.vt_lt_at hx.1 hy.1 (p := xs.length - 1 - k) (by omega) (fun i a b => HS.out i (by omega) b) h
            · exact absurd h Hq.out
            · rw [sgn_gt h, sgn_gt]
              unfold Nt.val
              rw [← hll]
              exact Nt.vt_lt_at hy.1 hx.1 (p := xs.length - 1 - k) (by omega) (fun i a b => (HS.out i (by omega) b).symm) h
          have HSg : Hid _ := hs
          clear hs
          go_wp2
          go_region
          all_goals go_wp2
          all_goals go_region_with (go_at_call 131; refine (compare_u32 _ _ _).mono ?_; rintro e w2 ⟨rfl, rfl⟩)
          all_goals go_wp2
          all_goals go_ret
          all_goals
            refine ⟨?_, by repeat (first | exact hbr | apply Below.drew)⟩
            rw [HSg.out]
            rfl
      · have hke : k = xs.length := by omega
        subst hke
        go_wp2
        go_ret
        refine ⟨?_, hbr⟩
        rw [sgn_eq]
        · rfl
        · have hll : xs.length = ys.length := Hl.out
          unfold Nt.val
          rw [← hll]
          exact Nt.vt_congr fun i hi => HS.out i (by omega) hi
  · have hl1 : ((xs.length : Int) != (ys.length : Int)) = true := by simp; omega
    have Hl : Hid (¬ xs.length = ys.length) := hl
    clear hl
    have hs : sgn (Nt.val xs) (Nt.val ys) = sgn xs.length ys.length := by
      rcases Nat.lt_trichotomy xs.length ys.length with h | h | h
      · rw [sgn_lt (Nt.canon_lt hx.1 hy h), sgn_lt (by omega)]
      · exact absurd h Hl.out
      · rw [sgn_gt (Nt.canon_lt hy.1 hx h), sgn_gt (by omega)]
    have HSg : Hid _ := hs
    clear hs
    go_wp2_with (go_at_call 130; refine (compare_int _ _ _).mono ?_; rintro e w2 ⟨rfl, rfl⟩)
    go_ret
    refine ⟨?_, Below.refl _ _⟩
    rw [HSg.out]
    rfl

end Go.Proofs.YticmlelalbaalaaGreatDoor

namespace Go.Proofs.YticmlelalbaalaaGreatDoor
open Go.RowKit

/-- one round of a difference -/
theorem sub_step {xs ys zs : List Int} {k : Nat} {c : Int} (hk : k < zs.length)
    (h : Nt.vt zs k - c * Nt.pw k = Nt.vt xs k - Nt.vt ys k) :
    Nt.vt (zs.set k ((Nt.lb xs k - Nt.lb ys k - c) % 4294967296)) (k + 1) - (-((Nt.lb xs k - Nt.lb ys k - c) / 4294967296)) * Nt.pw (k + 1) = Nt.vt xs (k + 1) - Nt.vt ys (k + 1) := by
  rw [Nt.vt_succ, Nt.vt_set (Nat.le_refl _), Nt.lb_set_eq hk, Nt.vt_succ, Nt.vt_succ, Nt.pw_succ]
  have e : (Nt.lb xs k - Nt.lb ys k - c) % 4294967296 + 4294967296 * ((Nt.lb xs k - Nt.lb ys k - c) / 4294967296) = Nt.lb xs k - Nt.lb ys k - c := Int.emod_add_mul_ediv _ _
  generalize (Nt.lb xs k - Nt.lb ys k - c) % 4294967296 = r at *
  generalize (Nt.lb xs k - Nt.lb ys k - c) / 4294967296 = q at *
  have e2 : (r + 4294967296 * q) * Nt.pw k = (Nt.lb xs k - Nt.lb ys k - c) * Nt.pw k := by rw [e]
  rw [Int.add_mul, Int.sub_mul, Int.sub_mul, Int.mul_assoc] at e2
  rw [Int.neg_mul, Int.mul_left_comm q]
  generalize r * Nt.pw k = a1 at *
  generalize Nt.lb xs k * Nt.pw k = a2 at *
  generalize Nt.lb ys k * Nt.pw k = a3 at *
  generalize c * Nt.pw k = a4 at *
  generalize q * Nt.pw k = a5 at *
  omega

theorem arg_of_cells {w : World} {ao : Option Addr} {xs : List Int} (hm : xs.length ≤ maxLen) (hc : Cells .u32 w ao xs) (ho : Nt.Ok xs) : Arg w (.slice ao xs.length xs.length) (Nt.val xs) xs.length :=
  ⟨xs, ⟨ao, _, rfl, Nat.le_refl _, hm, hc⟩, ho, rfl, Nat.le_refl _⟩

end Go.Proofs.YticmlelalbaalaaGreatDoor

namespace Go.Proofs.YticmlelalbaalaaGreatDoor
open Go.RowKit
set_option linter.unusedVariables false

/-- the middle above a size, twice, in steps of 2 to the power of L -/
def mid2 (F L r : Int) : Int := um F L L r + um F L L (r + 1)
/-- r is the nearest pattern to X over D, in steps of 2 to the power of L -/
def DN (F L I X D r : Int) : Prop := 0 ≤ r ∧ r ≤ I ∧
  (r < I → 2 * X ≤ mid2 F L r * D ∧ (2 * X = mid2 F L r * D → r % 2 = 0)) ∧
  (0 < r → mid2 F L (r - 1) * D ≤ 2 * X ∧ (2 * X = mid2 F L (r - 1) * D → r % 2 = 0))
theorem mid2_lt {F L s t : Int} (hF : 0 < F) (h0 : 0 ≤ s) (h : s < t) : mid2 F L s < mid2 F L t := by
  unfold mid2
  have a := um_lt' (L := L) (B := L) (s := s) (t := t) hF h0 (by omega) h
  have b := um_lt' (L := L) (B := L) (s := s + 1) (t := t + 1) hF (by omega) (by omega) (by omega)
  omega
theorem mid2_le {F L s t : Int} (hF : 0 < F) (h0 : 0 ≤ s) (h : s ≤ t) : mid2 F L s ≤ mid2 F L t := by
  rcases Int.lt_or_le s t with g | g
  · have := mid2_lt (L := L) hF h0 g; omega
  · rw [show s = t by omega]; exact Int.le_refl _
theorem dn_le {F L I X D r X' D' r' : Int} (hF : 0 < F) (hD : 0 < D) (hD' : 0 < D') (h : DN F L I X D r) (h' : DN F L I X' D' r') (hv : X * D' ≤ X' * D) : r ≤ r' := by
  rcases Int.lt_or_le r' r with g | g
  · exfalso
    obtain ⟨a0, a1, a2, a3⟩ := h
    obtain ⟨b0, b1, b2, b3⟩ := h'
    obtain ⟨c1, c2⟩ := a3 (by omega)
    obtain ⟨d1, d2⟩ := b2 (by omega)
    have m := mid2_le (L := L) (s := r') (t := r - 1) hF b0 (by omega)
    have DD : 0 < D * D' := Int.mul_pos hD hD'
    have e1 : mid2 F L (r - 1) * D * D' ≤ 2 * X * D' := Int.mul_le_mul_of_nonneg_right c1 (by omega)
    have e2 : 2 * X' * D ≤ mid2 F L r' * D' * D := Int.mul_le_mul_of_nonneg_right d1 (by omega)
    have e3 : mid2 F L r' * (D * D') ≤ mid2 F L (r - 1) * (D * D') := Int.mul_le_mul_of_nonneg_right m (by omega)
    have f1 : mid2 F L (r - 1) * D * D' = mid2 F L (r - 1) * (D * D') := Int.mul_assoc _ _ _
    have f2 : mid2 F L r' * D' * D = mid2 F L r' * (D * D') := by rw [Int.mul_assoc, Int.mul_comm D' D]
    have f3 : 2 * X * D' = 2 * (X * D') := Int.mul_assoc _ _ _
    have f4 : 2 * X' * D = 2 * (X' * D) := Int.mul_assoc _ _ _
    rw [f1, f3] at e1
    rw [f2, f4] at e2
    have g1 : mid2 F L r' * (D * D') = mid2 F L (r - 1) * (D * D') := by omega
    have g2 := Int.eq_of_mul_eq_mul_right (by omega) g1
    have g3 : r' = r - 1 := by
      rcases Int.lt_or_le r' (r - 1) with k | k
      · have := mid2_lt (L := L) hF b0 k; omega
      · omega
    have h1 : 2 * X = mid2 F L (r - 1) * D := by
      have : 2 * X * D' = mid2 F L (r - 1) * D * D' := by rw [f3, f1]; omega
      exact Int.eq_of_mul_eq_mul_right (by omega) this
    have h2 : 2 * X' = mid2 F L r' * D' := by
      have : 2 * X' * D = mid2 F L r' * D' * D := by rw [f4, f2]; omega
      exact Int.eq_of_mul_eq_mul_right (by omega) this
    have := c2 h1
    have := d2 h2
    omega
  · exact g
theorem dn_unique {F L I X D r X' D' r' : Int} (hF : 0 < F) (hD : 0 < D) (hD' : 0 < D') (h : DN F L I X D r) (h' : DN F L I X' D' r') (hv : X * D' = X' * D) : r = r' := by
  have := dn_le hF hD hD' h h' (by omega)
  have := dn_le hF hD' hD h' h (by omega)
  omega

/-- what is cut off and only told as something more changes nothing -/
theorem dc_up {a D rest G H F mb : Int} (hG : 0 < G) (hD : 0 < D) (r0 : 0 ≤ rest) (r1 : rest < D) (hmb : mb = if rest = 0 then 0 else 1) (hH : (∃ j, H = j * G) ∨ H < 2 * F * G) (ha : rest ≠ 0 → 2 * F ≤ a)
    (h : (2 * a + mb) * G ≤ 2 * H) : (a * D + rest) * G ≤ H * D ∧ ((a * D + rest) * G = H * D → (2 * a + mb) * G = 2 * H) := by
  by_cases z : rest = 0
  · rw [if_pos z] at hmb
    subst hmb
    subst z
    have e : (a * D + 0) * G = a * G * D := by rw [Int.add_zero]; ac_rfl
    have f : (2 * a + 0) * G = 2 * (a * G) := by rw [Int.add_zero, Int.mul_assoc]
    rw [e, f]
    rw [f] at h
    refine ⟨Int.mul_le_mul_of_nonneg_right (by omega) (by omega), fun g => ?_⟩
    have := Int.eq_of_mul_eq_mul_right (by omega) g
    omega
  · rw [if_neg z] at hmb
    subst hmb
    have ha := ha z
    have key : (a * D + rest) * G < H * D := by
      rcases hH with ⟨j, rfl⟩ | hH
      · have g : (2 * a + 1) * G ≤ 2 * j * G := by rw [Int.mul_assoc]; exact h
        have g2 := Int.le_of_mul_le_mul_right g hG
        have g3 : (a + 1) * D ≤ j * D := Int.mul_le_mul_of_nonneg_right (by omega) (by omega)
        rw [Int.add_mul, Int.one_mul] at g3
        have g4 : (a * D + rest) * G < j * D * G := Int.mul_lt_mul_of_pos_right (by omega) hG
        rw [show j * G * D = j * D * G by ac_rfl]
        exact g4
      · exfalso
        have g : 2 * F * G ≤ a * G := Int.mul_le_mul_of_nonneg_right ha (by omega)
        have f : (2 * a + 1) * G = 2 * (a * G) + G := by rw [Int.add_mul, Int.one_mul, Int.mul_assoc]
        omega
    exact ⟨by omega, fun g => by omega⟩
theorem dc_dn {a D rest G H F mb : Int} (hG : 0 < G) (hD : 0 < D) (r0 : 0 ≤ rest) (r1 : rest < D) (hmb : mb = if rest = 0 then 0 else 1) (hH : (∃ j, H = j * G) ∨ H < 2 * F * G) (ha : rest ≠ 0 → 2 * F ≤ a)
    (h : 2 * H ≤ (2 * a + mb) * G) : H * D ≤ (a * D + rest) * G ∧ ((a * D + rest) * G = H * D → (2 * a + mb) * G = 2 * H) := by
  by_cases z : rest = 0
  · rw [if_pos z] at hmb
    subst hmb
    subst z
    have e : (a * D + 0) * G = a * G * D := by rw [Int.add_zero]; ac_rfl
    have f : (2 * a + 0) * G = 2 * (a * G) := by rw [Int.add_zero, Int.mul_assoc]
    rw [e, f]
    rw [f] at h
    refine ⟨Int.mul_le_mul_of_nonneg_right (by omega) (by omega), fun g => ?_⟩
    have := Int.eq_of_mul_eq_mul_right (by omega) g
    omega
  · rw [if_neg z] at hmb
    subst hmb
    have ha := ha z
    have low : H ≤ a * G := by
      rcases hH with ⟨j, rfl⟩ | hH
      · have g : 2 * j * G ≤ (2 * a + 1) * G := by rw [Int.mul_assoc]; exact h
        have g2 := Int.le_of_mul_le_mul_right g hG
        exact Int.mul_le_mul_of_nonneg_right (by omega) (by omega)
      · have g : 2 * F * G ≤ a * G := Int.mul_le_mul_of_nonneg_right ha (by omega)
        omega
    have key : H * D < (a * D + rest) * G := by
      have g1 : H * D ≤ a * G * D := Int.mul_le_mul_of_nonneg_right low (by omega)
      have g2 : 0 < rest * G := Int.mul_pos (by omega) hG
      rw [Int.add_mul, show a * D * G = a * G * D by ac_rfl]
      omega
    exact ⟨by omega, fun g => by omega⟩

theorem um_lift {F L B s : Int} (hF : 0 < F) (hB : B ≤ L) : um F L B s = um F L L s * p2 (L - B).toNat := by
  unfold um
  exact sc_shift hB (est_ge hF)
theorem um_here (F L s : Int) : um F L L s = mst F s * p2 (est F L s - L).toNat := rfl
theorem mst_rng {F s : Int} (hF : 0 < F) (h0 : 0 ≤ s) : 0 ≤ mst F s ∧ mst F s < 2 * F := by
  unfold mst
  split
  · omega
  · have := Int.emod_nonneg s (b := F) (by omega)
    have := Int.emod_lt_of_pos s hF
    omega
theorem mid2_at {F L r : Int} (hF : 0 < F) (h0 : 0 ≤ r) : mid2 F L r = (2 * mst F r + 1) * p2 (est F L r - L).toNat := by
  unfold mid2
  rw [um_succ hF h0 (by omega), um_here, Int.add_mul, Int.one_mul, Int.mul_assoc]; omega
/-- the middle above r, as so many steps -/
theorem mid2_kind {F L r : Int} (up : Nat) (hF : 0 < F) (hL : L ≤ 0) (h0 : 0 ≤ r) : (∃ j, mid2 F L r * p2 up = j * p2 (1 - L).toNat) ∨ mid2 F L r * p2 up < 2 * F * p2 (1 - L).toNat := by
  obtain ⟨m0, m1⟩ := mst_rng hF h0
  have l1 := est_ge (F := F) (L := L) (s := r) hF
  rw [mid2_at hF h0, Int.mul_assoc, ← p2_add]
  by_cases c : (1 - L).toNat ≤ (est F L r - L).toNat + up
  · left
    obtain ⟨d, hd⟩ : ∃ d, (est F L r - L).toNat + up = d + (1 - L).toNat := ⟨(est F L r - L).toNat + up - (1 - L).toNat, by omega⟩
    rw [hd, p2_add]
    exact ⟨(2 * mst F r + 1) * p2 d, by rw [Int.mul_assoc]⟩
  · right
    have g : p2 ((est F L r - L).toNat + up + 1) ≤ p2 (1 - L).toNat := p2_mono (by omega)
    rw [p2] at g
    have x0 := p2_pos ((est F L r - L).toNat + up)
    generalize p2 ((est F L r - L).toNat + up) = x at *
    have k : (2 * mst F r + 1) * x ≤ (4 * F - 1) * x := Int.mul_le_mul_of_nonneg_right (by omega) (by omega)
    have k2 : 2 * F * (2 * x) ≤ 2 * F * p2 (1 - L).toNat := Int.mul_le_mul_of_nonneg_left g (by omega)
    have k3 : (4 * F - 1) * x = 2 * F * (2 * x) - x := by
      rw [Int.sub_mul, Int.one_mul]; congr 1; rw [Int.mul_comm 2 x, ← Int.mul_assoc, Int.mul_comm (2 * F * x) 2, ← Int.mul_assoc, ← Int.mul_assoc]; rfl
    omega

/-- one rounding of what long division gives -/
theorem near_dn {F L I a D rest X Y mb r : Int} {up : Nat} (hF : 0 < F) (hL : L ≤ 0) (hD : 0 < D) (hY : 0 < Y) (r0 : 0 ≤ rest) (r1 : rest < D) (hmb : mb = if rest = 0 then 0 else 1) (ha : rest ≠ 0 → 2 * F ≤ a)
    (hX : X * (D * p2 up) = (a * D + rest) * (p2 (-L).toNat * Y)) (h : Near F L I (2 * a + mb) (-(up : Int) - 1) r) : DN F L I X Y r := by
  obtain ⟨h0, h1, hn⟩ := h
  obtain ⟨hu, hl⟩ := hn (L - up - 1) (by omega) (by omega)
  have G0 := p2_pos (1 - L).toNat
  have P0 := p2_pos up
  have es : sc (2 * a + mb) (-(up : Int) - 1) (L - up - 1) = (2 * a + mb) * p2 (-L).toNat := by
    unfold sc; congr 2; omega
  have eg : p2 (1 - L).toNat = 2 * p2 (-L).toNat := by
    rw [show (1 - L).toNat = (-L).toNat + 1 by omega, p2]
  have ep : p2 (L - (L - (up : Int) - 1)).toNat = 2 * p2 up := by
    rw [show (L - (L - (up : Int) - 1)).toNat = up + 1 by omega, p2]
  have um' : ∀ s, um F L (L - up - 1) s = um F L L s * (2 * p2 up) := fun s => by rw [um_lift hF (by omega), ep]
  have hs : 2 * ((2 * a + mb) * p2 (-L).toNat) = (2 * a + mb) * p2 (1 - L).toNat := by rw [eg]; rw [Int.mul_left_comm]
  have hm : ∀ x y, x * (2 * p2 up) + y * (2 * p2 up) = 2 * ((x + y) * p2 up) := fun x y => by rw [← Int.add_mul, Int.mul_left_comm]
  rw [es, um', um', hs, hm] at hu
  rw [es, um', um', hs, hm] at hl
  have cmp : ∀ h' : Int, ((a * D + rest) * p2 (1 - L).toNat ≤ h' * p2 up * D ↔ 2 * X ≤ h' * Y) ∧ (h' * p2 up * D ≤ (a * D + rest) * p2 (1 - L).toNat ↔ h' * Y ≤ 2 * X) := by
    intro h'
    have c0 : 0 < D * p2 up := Int.mul_pos hD P0
    have e1 : (a * D + rest) * p2 (1 - L).toNat * Y = 2 * X * (D * p2 up) := by rw [Int.mul_assoc 2, hX, eg]; ac_rfl
    have e2 : h' * p2 up * D * Y = h' * Y * (D * p2 up) := by ac_rfl
    have le : ∀ {x y c : Int}, 0 < c → (x * c ≤ y * c ↔ x ≤ y) := fun {x y c} hc => ⟨fun h => Int.le_of_mul_le_mul_right h hc, fun h => Int.mul_le_mul_of_nonneg_right h (by omega)⟩
    constructor
    · rw [← le hY, e1, e2, le c0]
    · rw [← le hY (x := h' * p2 up * D), e1, e2, le c0]
  refine ⟨h0, h1, fun g => ?_, fun g => ?_⟩
  · obtain ⟨u1, u2⟩ := hu g
    obtain ⟨v1, v2⟩ := dc_up (F := F) G0 hD r0 r1 hmb (mid2_kind up hF hL h0) ha u1
    obtain ⟨c1, c2⟩ := cmp (mid2 F L r)
    refine ⟨c1.1 v1, fun e => u2 (v2 ?_)⟩
    have := c2.2 (by omega)
    unfold mid2 at *
    omega
  · obtain ⟨u1, u2⟩ := hl g
    have k := mid2_kind (L := L) (r := r - 1) up hF hL (by omega)
    have k' : mid2 F L (r - 1) = um F L L (r - 1) + um F L L r := by unfold mid2; rw [show r - 1 + 1 = r by omega]
    rw [← k'] at u1 u2
    obtain ⟨v1, v2⟩ := dc_dn (F := F) G0 hD r0 r1 hmb k ha u1
    obtain ⟨c1, c2⟩ := cmp (mid2 F L (r - 1))
    refine ⟨c2.1 v1, fun e => u2 (v2 ?_)⟩
    have := c1.2 (by omega)
    omega
/-- a whole number -/
theorem near_dn_up {F L I N r : Int} {e : Nat} (hF : 0 < F) (hL : L < 0) (h : Near F L I (2 * N + 0) ((e : Int) - 1) r) : DN F L I (N * p2 e * p2 (-L).toNat) 1 r := by
  obtain ⟨h0, h1, hn⟩ := h
  obtain ⟨hu, hl⟩ := hn L (by omega) (by omega)
  have es : sc (2 * N + 0) ((e : Int) - 1) L = N * p2 e * p2 (-L).toNat := by
    unfold sc
    rw [Int.add_zero, Int.mul_assoc N, ← p2_add, show e + (-L).toNat = ((e : Int) - 1 - L).toNat + 1 by omega, p2]
    ac_rfl
  rw [es] at hu hl
  refine ⟨h0, h1, fun g => ?_, fun g => ?_⟩
  · rw [Int.mul_one]; exact hu g
  · rw [Int.mul_one]
    have := hl g
    unfold mid2
    rw [show r - 1 + 1 = r by omega]
    exact this

/-- 10 to a power -/
def tn (n : Nat) : Int := 10 ^ n
theorem tn_pos (n : Nat) : 0 < tn n := Int.pow_pos (by omega)
theorem tn_add (a b : Nat) : tn (a + b) = tn a * tn b := Int.pow_add 10 a b
theorem tn_succ (a : Nat) : tn (a + 1) = 10 * tn a := by unfold tn; rw [Int.pow_succ, Int.mul_comm]
theorem tn_zero : tn 0 = 1 := rfl
theorem tn_nat (n : Nat) : tn n = ((10 ^ n : Nat) : Int) := by unfold tn; simp
theorem tn_mono {a b : Nat} (h : a ≤ b) : tn a ≤ tn b := by
  obtain ⟨c, rfl⟩ : ∃ c, b = a + c := ⟨b - a, by omega⟩
  rw [tn_add]
  have h1 := tn_pos c
  have h2 := tn_pos a
  have := Int.mul_le_mul_of_nonneg_left (show (1 : Int) ≤ tn c by omega) (show 0 ≤ tn a by omega)
  omega
theorem mle {x y c : Int} (hc : 0 < c) : (x * c ≤ y * c ↔ x ≤ y) := ⟨fun h => Int.le_of_mul_le_mul_right h hc, fun h => Int.mul_le_mul_of_nonneg_right h (by omega)⟩
theorem mlt {x y c : Int} (hc : 0 < c) : (x * c < y * c ↔ x < y) := ⟨fun h => Int.lt_of_mul_lt_mul_right h (by omega), fun h => Int.mul_lt_mul_of_pos_right h hc⟩
theorem tn_shift {A B : Int} {x y x' y' : Nat} (h : x + y' = x' + y) : A * tn x ≤ B * tn y ↔ A * tn x' ≤ B * tn y' := by
  rcases Nat.le_total x x' with g | g
  · obtain ⟨c, rfl⟩ : ∃ c, x' = x + c := ⟨x' - x, by omega⟩
    have e : y' = y + c := by omega
    subst e
    rw [tn_add, tn_add, ← Int.mul_assoc, ← Int.mul_assoc, mle (tn_pos c)]
  · obtain ⟨c, rfl⟩ : ∃ c, x = x' + c := ⟨x - x', by omega⟩
    have e : y = y' + c := by omega
    subst e
    rw [tn_add, tn_add, ← Int.mul_assoc, ← Int.mul_assoc, mle (tn_pos c)]
theorem tn_shift_eq {A B : Int} {x y x' y' : Nat} (h : x + y' = x' + y) : A * tn x = B * tn y ↔ A * tn x' = B * tn y' := by
  have a := tn_shift (A := A) (B := B) h
  have b := tn_shift (A := B) (B := A) (x := y) (y := x) (x' := y') (y' := x') (by omega)
  omega
/-- r is the nearest pattern to N times 10 to the power of q -/
def DV (F L I N q r : Int) : Prop := DN F L I (N * tn q.toNat * p2 (-L).toNat) (tn (-q).toNat) r
/-- one decimal number is at most another -/
def dle (N q N' q' : Int) : Prop := N * tn (q.toNat + (-q').toNat) ≤ N' * tn (q'.toNat + (-q).toNat)
theorem dle_base {N q N' q' b : Int} (h : b ≤ q) (h' : b ≤ q') : dle N q N' q' ↔ N * tn (q - b).toNat ≤ N' * tn (q' - b).toNat := by
  unfold dle
  exact tn_shift (by omega)
theorem dv_cross {F L I N q r N' q' r' : Int} (hF : 0 < F) (h : DV F L I N q r) (h' : DV F L I N' q' r') (hv : dle N q N' q') : r ≤ r' := by
  refine dn_le hF (tn_pos _) (tn_pos _) h h' ?_
  unfold dle at hv
  have P := p2_pos (-L).toNat
  rw [tn_add, tn_add] at hv
  have := Int.mul_le_mul_of_nonneg_right hv (show 0 ≤ p2 (-L).toNat by omega)
  have e1 : N * tn q.toNat * p2 (-L).toNat * tn (-q').toNat = N * (tn q.toNat * tn (-q').toNat) * p2 (-L).toNat := by ac_rfl
  have e2 : N' * tn q'.toNat * p2 (-L).toNat * tn (-q).toNat = N' * (tn q'.toNat * tn (-q).toNat) * p2 (-L).toNat := by ac_rfl
  rw [e1, e2]; exact this
theorem dv_same {F L I N q r N' q' r' : Int} (hF : 0 < F) (h : DV F L I N q r) (h' : DV F L I N' q' r') (hv : dle N q N' q') (hv' : dle N' q' N q) : r = r' := by
  have := dv_cross hF h h' hv
  have := dv_cross hF h' h hv'
  omega
theorem dle_refl (N q : Int) : dle N q N q := Int.le_refl _
theorem dn_scale {F L I X D X' D' r : Int} (hD : 0 < D) (hD' : 0 < D') (e : X * D' = X' * D) (h : DN F L I X D r) : DN F L I X' D' r := by
  have key : ∀ m : Int, (2 * X ≤ m * D ↔ 2 * X' ≤ m * D') ∧ (m * D ≤ 2 * X ↔ m * D' ≤ 2 * X') := by
    intro m
    have e1 : 2 * X * D' = 2 * X' * D := by rw [Int.mul_assoc, e, Int.mul_assoc]
    have e2 : m * D * D' = m * D' * D := by ac_rfl
    constructor
    · rw [← mle hD', e1, e2, mle hD]
    · rw [← mle hD' (x := m * D), e1, e2, mle hD]
  obtain ⟨h0, h1, h2, h3⟩ := h
  refine ⟨h0, h1, fun g => ?_, fun g => ?_⟩
  · obtain ⟨a, b⟩ := h2 g
    obtain ⟨k1, k2⟩ := key (mid2 F L r)
    exact ⟨k1.1 a, fun z => b (by have := k2.2 (by omega); omega)⟩
  · obtain ⟨a, b⟩ := h3 g
    obtain ⟨k1, k2⟩ := key (mid2 F L (r - 1))
    exact ⟨k2.1 a, fun z => b (by have := k1.2 (by omega); omega)⟩
theorem dv_move {F L I N q r N' q' : Int} (h : DV F L I N q r) (e : N * tn (q.toNat + (-q').toNat) = N' * tn (q'.toNat + (-q).toNat)) : DV F L I N' q' r := by
  refine dn_scale (tn_pos _) (tn_pos _) ?_ h
  rw [tn_add, tn_add] at e
  have e1 : N * tn q.toNat * p2 (-L).toNat * tn (-q').toNat = N * (tn q.toNat * tn (-q').toNat) * p2 (-L).toNat := by ac_rfl
  have e2 : N' * tn q'.toNat * p2 (-L).toNat * tn (-q).toNat = N' * (tn q'.toNat * tn (-q).toNat) * p2 (-L).toNat := by ac_rfl
  rw [e1, e2, e]
/-- noughts behind -/
theorem dv_behind {F L I N q r : Int} (c : Nat) (h : DV F L I N q r) : DV F L I (N * tn c) (q - c) r := by
  refine dv_move h ?_
  rw [Int.mul_assoc, ← tn_add]
  congr 2
  omega
theorem dv_ahead {F L I N q r : Int} (c : Nat) (h : DV F L I (N * tn c) (q - c) r) : DV F L I N q r := by
  refine dv_move h ?_
  rw [Int.mul_assoc, ← tn_add]
  congr 2
  omega

/-- what is said of a width: so few digits, the ends of its numbers -/
structure Wide (F L I : Int) : Prop where
  f0 : 2 ≤ F
  l0 : -1074 ≤ L
  l1 : L < 0
  i0 : 1 < I
  few : 2 * F * 5 ^ (-L).toNat ≤ tn 799
  low : 2 * p2 (-L).toNat ≤ tn 330
  top : mid2 F L (I - 1) < 2 * tn 310 * p2 (-L).toNat

theorem mid2_zero {F L : Int} (hF : 2 ≤ F) : mid2 F L 0 = 1 := by
  rw [mid2_at (by omega) (by omega)]
  have a : mst F 0 = 0 := by unfold mst; rw [if_pos (by omega)]
  have b : est F L 0 = L := by unfold est; rw [if_pos (by omega)]
  rw [a, b, Int.sub_self]; rfl
theorem dv_zero {F L I q : Int} (W : Wide F L I) : DV F L I 0 q 0 := by
  have := W.i0
  have := tn_pos (-q).toNat
  refine ⟨by omega, by omega, fun _ => ?_, fun g => absurd g (by omega)⟩
  rw [Int.zero_mul, Int.zero_mul, mid2_zero W.f0]
  refine ⟨by omega, fun _ => by decide⟩
theorem dv_small {F L I N q : Int} {k : Nat} (W : Wide F L I) (h0 : 0 ≤ N) (hN : N < tn k) (hq : q + k ≤ -330) : DV F L I N q 0 := by
  have := W.i0
  have hlow := W.low
  have key : 2 * (N * tn q.toNat * p2 (-L).toNat) < tn (-q).toNat := by
    have e0 : q.toNat = 0 := by omega
    obtain ⟨c, hc⟩ : ∃ c, (-q).toNat = k + 330 + c := ⟨(-q).toNat - k - 330, by omega⟩
    rw [e0, tn_zero, Int.mul_one, hc]
    have a : N * (2 * p2 (-L).toNat) < tn k * (2 * p2 (-L).toNat) := Int.mul_lt_mul_of_pos_right hN (by have := p2_pos (-L).toNat; omega)
    have b : tn k * (2 * p2 (-L).toNat) ≤ tn k * tn 330 := Int.mul_le_mul_of_nonneg_left hlow (by have := tn_pos k; omega)
    have d : tn (k + 330) ≤ tn (k + 330 + c) := tn_mono (by omega)
    rw [tn_add] at d
    have e : 2 * (N * p2 (-L).toNat) = N * (2 * p2 (-L).toNat) := by ac_rfl
    omega
  refine ⟨by omega, by omega, fun _ => ?_, fun g => absurd g (by omega)⟩
  rw [mid2_zero W.f0]
  exact ⟨by omega, fun _ => by decide⟩
theorem dv_large {F L I N q : Int} {k : Nat} (W : Wide F L I) (hN : tn k ≤ N) (hq : 310 ≤ q + k) : DV F L I N q I := by
  have := W.i0
  have htop := W.top
  have P := p2_pos (-L).toNat
  refine ⟨by omega, by omega, fun g => absurd g (by omega), fun _ => ?_⟩
  have a : mid2 F L (I - 1) * tn (-q).toNat < 2 * tn 310 * p2 (-L).toNat * tn (-q).toNat := Int.mul_lt_mul_of_pos_right htop (tn_pos _)
  have b : tn (310 + (-q).toNat) ≤ tn (k + q.toNat) := tn_mono (by omega)
  have c : tn k * tn q.toNat ≤ N * tn q.toNat := Int.mul_le_mul_of_nonneg_right hN (by have := tn_pos q.toNat; omega)
  rw [tn_add, tn_add] at b
  have d : tn 310 * tn (-q).toNat * (2 * p2 (-L).toNat) ≤ N * tn q.toNat * (2 * p2 (-L).toNat) := Int.mul_le_mul_of_nonneg_right (by omega) (by omega)
  have e1 : 2 * tn 310 * p2 (-L).toNat * tn (-q).toNat = tn 310 * tn (-q).toNat * (2 * p2 (-L).toNat) := by ac_rfl
  have e2 : 2 * (N * tn q.toNat * p2 (-L).toNat) = N * tn q.toNat * (2 * p2 (-L).toNat) := by ac_rfl
  rw [e1] at a
  rw [e2]
  exact ⟨by omega, fun g => by omega⟩
theorem tn_p2 (n : Nat) : tn n = 5 ^ n * p2 n := by
  rw [p2_pow, ← Int.mul_pow]; rfl
/-- no middle has so many digits -/
theorem mid2_off {F L I A r : Int} {c : Nat} (W : Wide F L I) (hA : tn 799 ≤ A) (h0 : 0 ≤ r) : mid2 F L r * tn c ≤ A * p2 (1 - L).toNat ∨ (A + 1) * p2 (1 - L).toNat ≤ mid2 F L r * tn c := by
  have f0 := W.f0
  have l1 := W.l1
  have G0 := p2_pos (1 - L).toNat
  by_cases z : ∃ j, mid2 F L r * tn c = j * p2 (1 - L).toNat
  · obtain ⟨j, hj⟩ := z
    rw [hj, mle G0, mle G0]
    omega
  · left
    obtain ⟨m0, m1⟩ := mst_rng (F := F) (s := r) (by omega) h0
    have l2 := est_ge (F := F) (L := L) (s := r) (by omega)
    have k : (est F L r - L).toNat + c < (1 - L).toNat := by
      rcases Nat.lt_or_ge ((est F L r - L).toNat + c) (1 - L).toNat with g | g
      · exact g
      · exfalso
        obtain ⟨d, hd⟩ : ∃ d, (est F L r - L).toNat + c = d + (1 - L).toNat := ⟨(est F L r - L).toNat + c - (1 - L).toNat, by omega⟩
        refine z ⟨(2 * mst F r + 1) * p2 d * 5 ^ c, ?_⟩
        rw [mid2_at (by omega) h0, tn_p2]
        have e : (2 * mst F r + 1) * p2 (est F L r - L).toNat * (5 ^ c * p2 c) = (2 * mst F r + 1) * (p2 (est F L r - L).toNat * p2 c) * 5 ^ c := by ac_rfl
        rw [e, ← p2_add, hd, p2_add]
        ac_rfl
    have e : mid2 F L r * tn c = (2 * mst F r + 1) * (p2 ((est F L r - L).toNat + c) * 5 ^ c) := by
      rw [mid2_at (by omega) h0, tn_p2, p2_add]; ac_rfl
    have q0 : 0 < (5 : Int) ^ c := Int.pow_pos (by omega)
    have g1 : p2 ((est F L r - L).toNat + c) * 5 ^ c ≤ p2 (-L).toNat * 5 ^ (-L).toNat := by
      have a : p2 ((est F L r - L).toNat + c) ≤ p2 (-L).toNat := p2_mono (by omega)
      have b : (5 : Int) ^ c ≤ 5 ^ (-L).toNat := by
        obtain ⟨d, hd⟩ : ∃ d, (-L).toNat = c + d := ⟨(-L).toNat - c, by omega⟩
        rw [hd, Int.pow_add]
        have : 0 < (5 : Int) ^ d := Int.pow_pos (by omega)
        have := Int.mul_le_mul_of_nonneg_left (show (1 : Int) ≤ 5 ^ d by omega) (show 0 ≤ (5 : Int) ^ c by omega)
        omega
      have x := p2_pos ((est F L r - L).toNat + c)
      exact Int.mul_le_mul a b (by omega) (by have := p2_pos (-L).toNat; omega)
    have P := p2_pos (-L).toNat
    have g2 : (2 * mst F r + 1) * (p2 ((est F L r - L).toNat + c) * 5 ^ c) ≤ 4 * F * (p2 (-L).toNat * 5 ^ (-L).toNat) :=
      Int.mul_le_mul (by omega) g1 (Int.mul_nonneg (by have := p2_pos ((est F L r - L).toNat + c); omega) (by omega)) (by omega)
    have eg : p2 (1 - L).toNat = 2 * p2 (-L).toNat := by rw [show (1 - L).toNat = (-L).toNat + 1 by omega, p2]
    have g3 : 4 * F * (p2 (-L).toNat * 5 ^ (-L).toNat) = 2 * F * 5 ^ (-L).toNat * p2 (1 - L).toNat := by
      rw [eg, show 4 * F = 2 * (2 * F) by omega]; ac_rfl
    have g4 : 2 * F * 5 ^ (-L).toNat * p2 (1 - L).toNat ≤ A * p2 (1 - L).toNat := Int.mul_le_mul_of_nonneg_right (by have := W.few; omega) (by omega)
    rw [e]
    omega
/-- digits behind so many count only as something more -/
theorem dn_cut {F L I A N N' r : Int} {j j' c : Nat} (W : Wide F L I) (hA : tn 799 ≤ A) (a1 : A * tn j < N) (a2 : N < (A + 1) * tn j) (b1 : A * tn j' < N') (b2 : N' < (A + 1) * tn j')
    (h : DN F L I (N * p2 (-L).toNat) (tn (j + c)) r) : DN F L I (N' * p2 (-L).toNat) (tn (j' + c)) r := by
  have l1 := W.l1
  have G0 := p2_pos (1 - L).toNat
  have eg : p2 (1 - L).toNat = 2 * p2 (-L).toNat := by rw [show (1 - L).toNat = (-L).toNat + 1 by omega, p2]
  have side : ∀ {M : Int} {i : Nat} (s : Int), A * tn i < M → M < (A + 1) * tn i → 0 ≤ s →
      (mid2 F L s * tn c ≤ A * p2 (1 - L).toNat → mid2 F L s * tn (i + c) < 2 * (M * p2 (-L).toNat)) ∧ ((A + 1) * p2 (1 - L).toNat ≤ mid2 F L s * tn c → 2 * (M * p2 (-L).toNat) < mid2 F L s * tn (i + c)) := by
    intro M i s u1 u2 hs
    have T := tn_pos i
    have e1 : 2 * (M * p2 (-L).toNat) = M * p2 (1 - L).toNat := by rw [eg]; ac_rfl
    have e2 : mid2 F L s * tn (i + c) = mid2 F L s * tn c * tn i := by rw [tn_add]; ac_rfl
    rw [e1, e2]
    constructor
    · intro g
      have v1 := Int.mul_le_mul_of_nonneg_right g (show 0 ≤ tn i by omega)
      have v2 := Int.mul_lt_mul_of_pos_right u1 G0
      have e3 : A * p2 (1 - L).toNat * tn i = A * tn i * p2 (1 - L).toNat := by ac_rfl
      omega
    · intro g
      have v1 := Int.mul_le_mul_of_nonneg_right g (show 0 ≤ tn i by omega)
      have v2 := Int.mul_lt_mul_of_pos_right u2 G0
      have e3 : (A + 1) * p2 (1 - L).toNat * tn i = (A + 1) * tn i * p2 (1 - L).toNat := by ac_rfl
      omega
  obtain ⟨h0, h1, h2, h3⟩ := h
  refine ⟨h0, h1, fun g => ?_, fun g => ?_⟩
  · obtain ⟨x1, x2⟩ := h2 g
    obtain ⟨s1, s2⟩ := side (M := N) (i := j) r a1 a2 h0
    obtain ⟨t1, t2⟩ := side (M := N') (i := j') r b1 b2 h0
    rcases mid2_off (c := c) W hA h0 with k | k
    · have := s1 k; omega
    · have := t2 k
      exact ⟨by omega, fun z => by omega⟩
  · obtain ⟨x1, x2⟩ := h3 g
    obtain ⟨s1, s2⟩ := side (M := N) (i := j) (r - 1) a1 a2 (by omega)
    obtain ⟨t1, t2⟩ := side (M := N') (i := j') (r - 1) b1 b2 (by omega)
    rcases mid2_off (c := c) (r := r - 1) W hA (by omega) with k | k
    · have := t1 k
      exact ⟨by omega, fun z => by omega⟩
    · have := s2 k; omega
theorem dv_cut {F L I A N N' q q' r : Int} {j j' : Nat} (W : Wide F L I) (hA : tn 799 ≤ A) (a1 : A * tn j < N) (a2 : N < (A + 1) * tn j) (b1 : A * tn j' < N') (b2 : N' < (A + 1) * tn j')
    (hq : q + j ≤ 0) (hq' : q' + j' = q + j) (h : DV F L I N q r) : DV F L I N' q' r := by
  unfold DV at h ⊢
  obtain ⟨c, hc⟩ : ∃ c : Nat, (c : Int) = -(q + j) := ⟨(-(q + j)).toNat, by omega⟩
  rw [show q.toNat = 0 by omega, tn_zero, Int.mul_one, show (-q).toNat = j + c by omega] at h
  rw [show q'.toNat = 0 by omega, tn_zero, Int.mul_one, show (-q').toNat = j' + c by omega]
  exact dn_cut W hA a1 a2 b1 b2 h

theorem wide_h : Wide 1024 (-24) 31744 := ⟨by decide, by decide, by decide, by decide, by unfold tn; decide +kernel, by unfold tn; decide +kernel, by rw [mid2_at (by decide) (by decide)]; unfold tn; decide +kernel⟩
theorem wide_s : Wide 8388608 (-149) 2139095040 := ⟨by decide, by decide, by decide, by decide, by unfold tn; decide +kernel, by unfold tn; decide +kernel, by rw [mid2_at (by decide) (by decide)]; unfold tn; decide +kernel⟩
theorem wide_d : Wide 4503599627370496 (-1074) 9218868437227405312 := ⟨by decide, by decide, by decide, by decide, by unfold tn; decide +kernel, by unfold tn; decide +kernel, by rw [mid2_at (by decide) (by decide)]; unfold tn; decide +kernel⟩

/-- the number that digits tell -/
def dg : List Int → Int
  | [] => 0
  | a :: x => (a - 48) * tn x.length + dg x
/-- digits alone -/
def Dgt (es : List Int) : Prop := ∀ x ∈ es, 48 ≤ x ∧ x ≤ 57
/-- bytes -/
def Byt (es : List Int) : Prop := ∀ x ∈ es, 0 ≤ x ∧ x < 256
theorem Dgt.byt {es : List Int} (h : Dgt es) : Byt es := fun x hx => by have := h x hx; omega
theorem Dgt.take {es : List Int} (h : Dgt es) (n : Nat) : Dgt (es.take n) := fun x hx => h x (List.mem_of_mem_take hx)
theorem Dgt.drop {es : List Int} (h : Dgt es) (n : Nat) : Dgt (es.drop n) := fun x hx => h x (List.mem_of_mem_drop hx)
theorem Dgt.append {es fs : List Int} (h : Dgt es) (g : Dgt fs) : Dgt (es ++ fs) := fun x hx => by
  rcases List.mem_append.1 hx with k | k
  · exact h x k
  · exact g x k
theorem dg_append (xs ys : List Int) : dg (xs ++ ys) = dg xs * tn ys.length + dg ys := by
  induction xs with
  | nil => simp [dg]
  | cons a x ih =>
    rw [List.cons_append, dg, ih, dg, List.length_append, tn_add, Int.add_mul, ← Int.mul_assoc]
    omega
theorem dg_one (a : Int) : dg [a] = a - 48 := by simp [dg, tn_zero]
theorem dg_snoc (xs : List Int) (b : Int) : dg (xs ++ [b]) = dg xs * 10 + (b - 48) := by
  rw [dg_append, dg_one]; rfl
theorem dg_range {xs : List Int} (h : Dgt xs) : 0 ≤ dg xs ∧ dg xs < tn xs.length := by
  induction xs with
  | nil => simp [dg, tn_zero]
  | cons a x ih =>
    obtain ⟨i0, i1⟩ := ih (fun y hy => h y (List.mem_cons_of_mem _ hy))
    obtain ⟨a0, a1⟩ := h a List.mem_cons_self
    rw [dg, List.length_cons, tn_succ]
    have p := tn_pos x.length
    have q0 : 0 ≤ (a - 48) * tn x.length := Int.mul_nonneg (by omega) (by omega)
    have q1 : (a - 48) * tn x.length ≤ 9 * tn x.length := Int.mul_le_mul_of_nonneg_right (by omega) (by omega)
    omega
theorem dg_lead {a : Int} {xs : List Int} (h : Dgt (a :: xs)) (ha : a ≠ 48) : tn xs.length ≤ dg (a :: xs) := by
  obtain ⟨i0, i1⟩ := dg_range (xs := xs) (fun y hy => h y (List.mem_cons_of_mem _ hy))
  obtain ⟨a0, a1⟩ := h a List.mem_cons_self
  have p := tn_pos xs.length
  have q1 : 1 * tn xs.length ≤ (a - 48) * tn xs.length := Int.mul_le_mul_of_nonneg_right (by omega) (by omega)
  rw [dg]; omega
theorem dg_lead' {xs : List Int} (h : Dgt xs) (hl : 0 < xs.length) (ha : Nt.lb xs 0 ≠ 48) : tn (xs.length - 1) ≤ dg xs := by
  cases xs with
  | nil => simp at hl
  | cons a x => exact dg_lead h (by simpa [Nt.lb] using ha)
theorem dg_noughts (n : Nat) : dg (List.replicate n 48) = 0 := by
  induction n with
  | zero => rfl
  | succ n ih => rw [List.replicate_succ, dg, ih]; omega
theorem lb_get {es : List Int} {p : Nat} (h : p < es.length) : Nt.lb es p = es[p] := by simp [Nt.lb, h]
theorem lb_in {es : List Int} {p : Nat} (h : p < es.length) : Nt.lb es p ∈ es := by rw [lb_get h]; exact List.getElem_mem h
theorem dg_take {ds : List Int} {k : Nat} (h : k < ds.length) : dg (ds.take (k + 1)) = dg (ds.take k) * 10 + (Nt.lb ds k - 48) := by
  rw [List.take_add_one, List.getElem?_eq_getElem h, lb_get h]
  exact dg_snoc _ _
/-- a text's byte -/
theorem txt_at {es : List Int} {p : Nat} (h : p < (strOfNums es).size) (hb : Byt es) : (((strOfNums es)[p]'h).toNat : Int) = Nt.lb es p := by
  have hl : p < es.length := by rw [strOfNums_size] at h; exact h
  have e : (strOfNums es)[p]'h = UInt8.ofNat (es[p]).toNat := by
    show (strOfNums es).data[p]'h = _
    simp [strOfNums]
  have hp := hb _ (lb_in hl)
  rw [lb_get hl] at hp ⊢
  rw [e, UInt8.toNat_ofNat']
  omega
theorem txt_cut (es : List Int) (a b : Nat) : (strOfNums es).extract a b = strOfNums ((es.take b).drop a) := by
  apply Go.WideShapes.bytes_inj
  simp [strOfNums, List.map_take, List.map_drop]
  try rw [List.drop_take]
theorem txt_of (s : ByteArray) : ∃ es, Byt es ∧ es.length = s.size ∧ s = strOfNums es := by
  refine ⟨s.data.toList.map fun b => (b.toNat : Int), ?_, by simp, ?_⟩
  · intro x hx
    obtain ⟨b, _, rfl⟩ := List.mem_map.1 hx
    have := b.toNat_lt
    omega
  · apply Go.WideShapes.bytes_inj
    rw [strOfNums_data, List.map_map]
    have : (fun n : Int => UInt8.ofNat n.toNat) ∘ (fun b : UInt8 => (b.toNat : Int)) = id := by
      funext b; simp
    rw [this, List.map_id]
theorem txt_join (xs ys : List Int) : strOfNums xs ++ strOfNums ys = strOfNums (xs ++ ys) := by
  apply Go.WideShapes.bytes_inj
  simp [strOfNums]
theorem dg_all {es : List Int} (h : ∀ j, j < es.length → Nt.lb es j = 48) : es = List.replicate es.length 48 := by
  apply List.ext_getElem (by simp)
  intro i h1 h2
  rw [List.getElem_replicate, ← lb_get h1]
  exact h i h1
/-- the digits between the noughts at both ends -/
theorem dg_between {es : List Int} {f e : Nat} (he : e ≤ es.length) (hf : f ≤ e) (h0 : ∀ j, j < f → Nt.lb es j = 48) (h1 : ∀ j, e ≤ j → j < es.length → Nt.lb es j = 48) :
    dg es = dg ((es.take e).drop f) * tn (es.length - e) := by
  have a : es = es.take e ++ es.drop e := (List.take_append_drop e es).symm
  have b : es.take e = (es.take e).take f ++ (es.take e).drop f := (List.take_append_drop f _).symm
  have c : (es.take e).take f = List.replicate f 48 := by
    have := dg_all (es := (es.take e).take f) (fun j hj => by
      have hj' : j < f ∧ j < e := by rw [List.length_take, List.length_take] at hj; omega
      rw [lb_get hj, List.getElem_take, List.getElem_take, ← lb_get (by omega)]
      exact h0 j hj'.1)
    rw [this]; congr 1; rw [List.length_take, List.length_take]; omega
  have d : es.drop e = List.replicate (es.length - e) 48 := by
    have := dg_all (es := es.drop e) (fun j hj => by
      have hj' : e + j < es.length := by rw [List.length_drop] at hj; omega
      rw [lb_get hj, List.getElem_drop, ← lb_get (by omega)]
      exact h1 _ (by omega) hj')
    rw [this]; congr 1; rw [List.length_drop]
  have g1 : dg (es.take e) = dg ((es.take e).drop f) := by
    have k := congrArg dg b
    rw [dg_append, c, dg_noughts, Int.zero_mul, Int.zero_add] at k
    exact k
  have k := congrArg dg a
  rw [dg_append, g1, d, dg_noughts, List.length_replicate, Int.add_zero] at k
  exact k

end Go.Proofs.YticmlelalbaalaaGreatDoor
