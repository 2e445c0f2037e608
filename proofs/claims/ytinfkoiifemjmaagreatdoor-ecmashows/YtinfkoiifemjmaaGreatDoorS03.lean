/- Len, IMath, JStr, Cmp, RefA, RefB, Raise, Into, Sub, IRound, DivMath, TakeOff, Raised, Small, Len64 -/
import Derived.Test.YtinfkoiifemjmaaGreatDoorS02
import Derived.Deep.RegionWith
import Derived.Test.YtinfkoiifemjmaaGreatDoorS01
namespace Go.Proofs.YtinfkoiifemjmaaGreatDoor
open Go.RowKit

/-- 2 to the power of n -/
def p2 : Nat → Int
  | 0 => 1
  | n + 1 => 2 * p2 n
theorem p2_pos (n : Nat) : 0 < p2 n := by
  induction n with
  | zero => decide
  | succ n ih => simp only [p2]; omega
theorem p2_add (m n : Nat) : p2 (m + n) = p2 m * p2 n := by
  induction n with
  | zero => simp [p2]
  | succ n ih => rw [← Nat.add_assoc]; simp only [p2]; rw [ih, Int.mul_left_comm]
theorem p2_mono {m n : Nat} (h : m ≤ n) : p2 m ≤ p2 n := by
  obtain ⟨k, rfl⟩ := Nat.exists_eq_add_of_le h
  rw [p2_add]
  have h1 := p2_pos k
  have h2 := p2_pos m
  have : p2 m * 1 ≤ p2 m * p2 k := Int.mul_le_mul_of_nonneg_left (by omega) (by omega)
  omega
theorem p2_32 (n : Nat) : p2 (32 * n) = Nt.pw n := by
  induction n with
  | zero => rfl
  | succ n ih => rw [Nat.mul_succ, p2_add, ih, Nt.pw_succ, show p2 32 = 4294967296 from by decide, Int.mul_comm]

/-- k binary digits -/
def IsLen (x : Int) (k : Nat) : Prop := x < p2 k ∧ (0 < k → p2 (k - 1) ≤ x)
theorem isLen_unique {x : Int} {k m : Nat} (h1 : IsLen x k) (h2 : IsLen x m) : k = m := by
  rcases Nat.lt_trichotomy k m with h | h | h
  · have a := h2.2 (by omega)
    have b := p2_mono (m := k) (n := m - 1) (by omega)
    have c := h1.1
    omega
  · exact h
  · have a := h1.2 (by omega)
    have b := p2_mono (m := m) (n := k - 1) (by omega)
    have c := h2.1
    omega

theorem isLen_shift {x : Int} {k m : Nat} {P : Int} (hP : P = p2 m) (h : IsLen (x / P) k) (hk : 0 < k) : IsLen x (k + m) := by
  subst hP
  have hm := p2_pos m
  have hd : p2 m * (x / p2 m) ≤ x := by have := Int.mul_ediv_add_emod x (p2 m); have := Int.emod_nonneg x (b := p2 m) (by omega); omega
  have hu : x < p2 m * (x / p2 m) + p2 m := by have := Int.mul_ediv_add_emod x (p2 m); have := Int.emod_lt_of_pos x (b := p2 m) (by omega); omega
  obtain ⟨h1, h2⟩ := h
  have h3 := h2 hk
  refine ⟨?_, fun _ => ?_⟩
  · rw [p2_add, Int.mul_comm]
    have : p2 m * (x / p2 m + 1) ≤ p2 m * p2 k := Int.mul_le_mul_of_nonneg_left (by omega) (by omega)
    rw [Int.mul_add] at this
    omega
  · rw [show k + m - 1 = (k - 1) + m by omega, p2_add, Int.mul_comm]
    have : p2 m * p2 (k - 1) ≤ p2 m * (x / p2 m) := Int.mul_le_mul_of_nonneg_left h3 (by omega)
    omega

/-- how many binary digits a byte has -/
def lenTab : ByteArray := ⟨#[0, 1, 2, 2, 3, 3, 3, 3, 4, 4, 4, 4, 4, 4, 4, 4, 5, 5, 5, 5, 5, 5, 5, 5, 5, 5, 5, 5, 5, 5, 5, 5, 6, 6, 6, 6, 6, 6, 6, 6, 6, 6, 6, 6, 6, 6, 6, 6, 6, 6, 6, 6, 6, 6, 6, 6, 6, 6, 6, 6, 6, 6, 6, 6, 7, 7, 7, 7, 7, 7, 7, 7, 7, 7, 7, 7, 7, 7, 7, 7, 7, 7, 7, 7, 7, 7, 7, 7, 7, 7, 7, 7, 7, 7, 7, 7, 7, 7, 7, 7, 7, 7, 7, 7, 7, 7, 7, 7, 7, 7, 7, 7, 7, 7, 7, 7, 7, 7, 7, 7, 7, 7, 7, 7, 7, 7, 7, 7, 8, 8, 8, 8, 8, 8, 8, 8, 8, 8, 8, 8, 8, 8, 8, 8, 8, 8, 8, 8, 8, 8, 8, 8, 8, 8, 8, 8, 8, 8, 8, 8, 8, 8, 8, 8, 8, 8, 8, 8, 8, 8, 8, 8, 8, 8, 8, 8, 8, 8, 8, 8, 8, 8, 8, 8, 8, 8, 8, 8, 8, 8, 8, 8, 8, 8, 8, 8, 8, 8, 8, 8, 8, 8, 8, 8, 8, 8, 8, 8, 8, 8, 8, 8, 8, 8, 8, 8, 8, 8, 8, 8, 8, 8, 8, 8, 8, 8, 8, 8, 8, 8, 8, 8, 8, 8, 8, 8, 8, 8, 8, 8, 8, 8, 8, 8, 8, 8, 8, 8, 8, 8, 8, 8, 8, 8, 8, 8]⟩
theorem lenTab_all : (List.range 256).all (fun n => decide ((n : Int) < p2 (lenTab.data.getD n 0).toNat) && (decide ((lenTab.data.getD n 0).toNat = 0) || decide (p2 ((lenTab.data.getD n 0).toNat - 1) ≤ (n : Int))) && decide ((lenTab.data.getD n 0).toNat ≤ 8)) = true := by decide +kernel
theorem lenTab_size : lenTab.size = 256 := by decide +kernel
theorem lenTab_ok (n : Nat) (h : n < 256) (h' : n < lenTab.size) : IsLen (n : Int) (lenTab[n]'h').toNat ∧ (lenTab[n]'h').toNat ≤ 8 := by
  have := List.all_eq_true.1 lenTab_all n (by simpa using h)
  have e : lenTab.data.getD n 0 = lenTab[n]'h' := by
    simp [Array.getD, ByteArray.getElem_eq_getElem_data]
    rw [dif_pos h']
  rw [e] at this
  simp only [Bool.and_eq_true, Bool.or_eq_true, decide_eq_true_eq] at this
  exact ⟨⟨this.1.1, fun hk => by rcases this.1.2 with h | h; omega; exact h⟩, this.2⟩
theorem ret_int {k : IntKind} {a b : Int} (h : a = b) : Ending.returned (.int k a) = .returned (.int k b) := by rw [h]
theorem tab_at (y : Int) (h0 : 0 ≤ y) (h1 : y < 256) (h' : y.toNat < lenTab.size) : IsLen y (lenTab[y.toNat]'h').toNat ∧ (lenTab[y.toNat]'h').toNat ≤ 8 := by
  have := lenTab_ok y.toNat (by omega) h'
  rw [Int.toNat_of_nonneg h0] at this
  exact this
theorem len_pos {y : Int} {k : Nat} (h : IsLen y k) (hy : 1 ≤ y) : 0 < k := by
  rcases Nat.eq_zero_or_pos k with h0 | h0
  · subst h0; have := h.1; simp only [p2] at this; omega
  · exact h0

set_option maxRecDepth 100000 in
set_option maxHeartbeats 1000000 in
theorem len32_any (x : Int) (w : World) (hx0 : 0 ≤ x) (hx1 : x < 4294967296) :
    Calls Tryz.prog 110 #[.int .u32 x] w fun e w' => ∃ k : Nat, e = .returned (.int .i64 k) ∧ IsLen x k ∧ k ≤ 32 ∧ w' = w := by
  by_cases h1 : x < 256
  · have a1 : ¬ 65536 ≤ x := by omega
    have a2 : ¬ 256 ≤ x := by omega
    go_enter Tryz.func110, Tryz.ntmps110
    go_wp2
    go_ret
    have hsz := lenTab_size
    have hs' : (x).toNat < lenTab.size := by omega
    obtain ⟨t1, t2⟩ := tab_at (x) (by omega) (by omega) hs'
    refine ⟨_, ?_, t1, by omega, rfl⟩
    refine ret_int ?_
    show wrap64 (wrap64 (((lenTab[x.toNat]'hs').toNat : Nat) : Int)) = _
    generalize (lenTab[x.toNat]'hs').toNat = N at t2 ⊢
    unfold wrap64; omega
  by_cases h2 : x < 65536
  · have a1 : ¬ 65536 ≤ x := by omega
    have a2 : 256 ≤ x := by omega
    go_enter Tryz.func110, Tryz.ntmps110
    go_wp2
    go_ret
    have hsz := lenTab_size
    have hs' : (x / 256).toNat < lenTab.size := by omega
    obtain ⟨t1, t2⟩ := tab_at (x / 256) (by omega) (by omega) hs'
    refine ⟨(lenTab[(x / 256).toNat]'hs').toNat + 8, ?_, isLen_shift (P := 256) (by decide) t1 (len_pos t1 (by omega)), by omega, rfl⟩
    refine ret_int ?_
    show wrap64 (8 + wrap64 (((lenTab[(x / 256).toNat]'hs').toNat : Nat) : Int)) = _
    generalize (lenTab[(x / 256).toNat]'hs').toNat = N at t2 ⊢
    unfold wrap64; omega
  by_cases h3 : x < 16777216
  · have a1 : 65536 ≤ x := by omega
    have a2 : ¬ 256 ≤ x / 65536 := by omega
    go_enter Tryz.func110, Tryz.ntmps110
    go_wp2
    go_ret
    have hsz := lenTab_size
    have hs' : (x / 65536).toNat < lenTab.size := by omega
    obtain ⟨t1, t2⟩ := tab_at (x / 65536) (by omega) (by omega) hs'
    refine ⟨(lenTab[(x / 65536).toNat]'hs').toNat + 16, ?_, isLen_shift (P := 65536) (by decide) t1 (len_pos t1 (by omega)), by omega, rfl⟩
    refine ret_int ?_
    show wrap64 (16 + wrap64 (((lenTab[(x / 65536).toNat]'hs').toNat : Nat) : Int)) = _
    generalize (lenTab[(x / 65536).toNat]'hs').toNat = N at t2 ⊢
    unfold wrap64; omega
  · have a1 : 65536 ≤ x := by omega
    have a2 : 256 ≤ x / 65536 := by omega
    go_enter Tryz.func110, Tryz.ntmps110
    go_wp2
    go_ret
    have hsz := lenTab_size
    have hs' : (x / 65536 / 256).toNat < lenTab.size := by omega
    obtain ⟨t1, t2⟩ := tab_at (x / 65536 / 256) (by omega) (by omega) hs'
    have t3 := isLen_shift (P := 256) (m := 8) (by decide) t1 (len_pos t1 (by omega))
    have t4 := isLen_shift (x := x) (P := 65536) (m := 16) (by decide) t3 (by omega)
    refine ⟨(lenTab[(x / 65536 / 256).toNat]'hs').toNat + 8 + 16, ?_, t4, by omega, rfl⟩
    refine ret_int ?_
    show wrap64 (24 + wrap64 (((lenTab[(x / 65536 / 256).toNat]'hs').toNat : Nat) : Int)) = _
    generalize (lenTab[(x / 65536 / 256).toNat]'hs').toNat = N at t2 ⊢
    unfold wrap64; omega

/-- the length of a number by its highest limb -/
theorem isLen_top {xs : List Int} {k : Nat} (hx : Nt.Canon xs) (hn : 0 < xs.length) (h : IsLen (Nt.lb xs (xs.length - 1)) k) : IsLen (Nt.val xs) ((xs.length - 1) * 32 + k) := by
  obtain ⟨n, hl⟩ : ∃ n, xs.length = n + 1 := ⟨xs.length - 1, by omega⟩
  have hne : xs ≠ [] := by intro e; subst e; simp at hn
  have h0 := hx.2 hne
  have hb := hx.1 n
  have hv := Nt.vt_bounds hx.1 n
  rw [hl, Nat.add_sub_cancel] at h h0 ⊢
  have hval : Nt.val xs = Nt.vt xs n + Nt.lb xs n * Nt.pw n := by unfold Nt.val; rw [hl, Nt.vt_succ]
  have hp := Nt.pw_pos n
  have hk := len_pos h (by omega)
  rw [hval]
  refine ⟨?_, fun _ => ?_⟩
  · rw [p2_add, Nat.mul_comm, p2_32]
    have : Nt.pw n * (Nt.lb xs n + 1) ≤ Nt.pw n * p2 k := Int.mul_le_mul_of_nonneg_left (by have := h.1; omega) (by omega)
    rw [Int.mul_add, Int.mul_comm] at this
    omega
  · rw [show n * 32 + k - 1 = n * 32 + (k - 1) by omega, p2_add, Nat.mul_comm, p2_32]
    have : Nt.pw n * p2 (k - 1) ≤ Nt.pw n * Nt.lb xs n := Int.mul_le_mul_of_nonneg_left (h.2 hk) (by omega)
    rw [Int.mul_comm _ (Nt.lb xs n)] at this
    omega

set_option maxHeartbeats 1000000 in
theorem len_any {w : World} {va : Value} {n : Int} {ka : Nat} (ha : Arg w va n ka) (hka : ka ≤ 1099511627776) :
    Calls Tryz.prog 71 #[va] w fun e w' => ∃ k : Nat, e = .returned (.int .i64 k) ∧ IsLen n k ∧ k ≤ 32 * ka ∧ w' = w := by
  go_enter Tryz.func71, Tryz.ntmps71
  go_wp2_with fail
  refine (trim_arg ha).mono ?_
  rintro e w' ⟨rfl, ao, xs, rfl, hxk, hxm, hxc, hx, rfl⟩
  clear ha
  by_cases h0 : xs.length = 0
  · have h0' : ((xs.length : Int) == 0) = true := by simp [h0]
    have hxe : xs = [] := List.eq_nil_of_length_eq_zero h0
    clear h0
    go_wp2
    go_ret
    refine ⟨0, rfl, ?_, by omega, rfl⟩
    rw [hxe, Nt.val_nil]
    exact ⟨by decide, fun h => by omega⟩
  · have h0' : ((xs.length : Int) == 0) = false := by simp; intro e; subst e; simp at h0
    obtain ⟨b, off, rfl, hb, hcell⟩ := hxc (by omega)
    have hg := hcell (xs.length - 1) (by omega)
    have hp : (1 : Int) ≤ (xs.length : Int) := by omega
    obtain ⟨bx0, bx1⟩ := hx.1 (xs.length - 1)
    clear hcell hxc
    go_wp2_with fail
    refine (len32_any _ _ bx0 bx1).mono ?_
    rintro e w1 ⟨k, rfl, hk, hk32, rfl⟩
    have hfin := isLen_top hx (by omega) hk
    have Hf := hide hfin
    have Hk := hide hk
    clear hfin hk
    go_wp2
    go_ret
    refine ⟨(xs.length - 1) * 32 + k, ret_int ?_, Hf.out, by omega, rfl⟩
    omega

end Go.Proofs.YtinfkoiifemjmaaGreatDoor

namespace Go.Proofs.YtinfkoiifemjmaaGreatDoor
set_option linter.unusedVariables false

/-- the steps that a size counts, and the power of 2 that a step is -/
def mst (F s : Int) : Int := if s < F then s else s % F + F
def est (F L s : Int) : Int := if s < F then L else L - 1 + s / F
/-- N times 2 to the power of E, in steps of 2 to the power of B -/
def sc (N E B : Int) : Int := N * p2 (E - B).toNat
/-- the number of a size -/
def um (F L B s : Int) : Int := sc (mst F s) (est F L s) B
/-- r is the nearest pattern to N times 2 to the power of E -/
def Near (F L I N E r : Int) : Prop := 0 ≤ r ∧ r ≤ I ∧ ∀ B, B ≤ E → B ≤ L → 
  (r < I → 2 * sc N E B ≤ um F L B r + um F L B (r + 1) ∧ (2 * sc N E B = um F L B r + um F L B (r + 1) → r % 2 = 0)) ∧
  (0 < r → um F L B (r - 1) + um F L B r ≤ 2 * sc N E B ∧ (2 * sc N E B = um F L B (r - 1) + um F L B r → r % 2 = 0))

theorem p2_toNat_add {a b : Int} (ha : 0 ≤ a) (hb : 0 ≤ b) : p2 (a + b).toNat = p2 a.toNat * p2 b.toNat := by
  rw [← p2_add]; congr 1; omega
theorem sc_shift {N E B C : Int} (h : C ≤ B) (hE : B ≤ E) : sc N E C = sc N E B * p2 (B - C).toNat := by
  unfold sc
  rw [show E - C = (E - B) + (B - C) by omega, p2_toNat_add (by omega) (by omega), Int.mul_assoc]
theorem est_ge {F L s : Int} (hF : 0 < F) : L ≤ est F L s := by
  unfold est
  split
  · omega
  · have : 1 ≤ s / F := by rw [Int.le_ediv_iff_mul_le hF]; omega
    omega
/-- one step more -/
theorem um_succ {F L B s : Int} (hF : 0 < F) (h0 : 0 ≤ s) (hB : B ≤ L) : um F L B (s + 1) = um F L B s + p2 (est F L s - B).toNat := by
  unfold um sc
  by_cases a : s + 1 < F
  · have e1 : mst F (s + 1) = s + 1 := by unfold mst; rw [if_pos a]
    have e2 : mst F s = s := by unfold mst; rw [if_pos (by omega)]
    have e3 : est F L (s + 1) = L := by unfold est; rw [if_pos a]
    have e4 : est F L s = L := by unfold est; rw [if_pos (by omega)]
    rw [e1, e2, e3, e4, Int.add_mul, Int.one_mul]
  · by_cases b : s < F
    · have hs : s + 1 = F := by omega
      have e1 : mst F (s + 1) = s + 1 := by unfold mst; rw [if_neg a, hs, Int.emod_self]; omega
      have e2 : mst F s = s := by unfold mst; rw [if_pos b]
      have e3 : est F L (s + 1) = L := by unfold est; rw [if_neg a, hs, Int.ediv_self (by omega)]; omega
      have e4 : est F L s = L := by unfold est; rw [if_pos b]
      rw [e1, e2, e3, e4, Int.add_mul, Int.one_mul]
    · have e2 : mst F s = s % F + F := by unfold mst; rw [if_neg b]
      have e4 : est F L s = L - 1 + s / F := by unfold est; rw [if_neg b]
      have hd := Int.mul_ediv_add_emod s F
      have m0 := Int.emod_nonneg s (b := F) (by omega)
      have m1 := Int.emod_lt_of_pos s hF
      have hq1 : 1 ≤ s / F := by rw [Int.le_ediv_iff_mul_le hF]; omega
      by_cases c : s % F + 1 < F
      · have hq : (s + 1) / F = s / F := by
          rw [show s + 1 = (s % F + 1) + F * (s / F) by omega, Int.add_mul_ediv_left _ _ (by omega), Int.ediv_eq_zero_of_lt (by omega) c, Int.zero_add]
        have hr : (s + 1) % F = s % F + 1 := by
          rw [show s + 1 = (s % F + 1) + F * (s / F) by omega, Int.add_mul_emod_self_left, Int.emod_eq_of_lt (by omega) c]
        have e1 : mst F (s + 1) = s % F + 1 + F := by unfold mst; rw [if_neg a, hr]
        have e3 : est F L (s + 1) = L - 1 + s / F := by unfold est; rw [if_neg a, hq]
        rw [e1, e2, e3, e4, show s % F + 1 + F = (s % F + F) + 1 by omega, Int.add_mul, Int.one_mul]
      · have hr0 : s % F = F - 1 := by omega
        have hs1 : s + 1 = F * (s / F + 1) := by rw [Int.mul_add, Int.mul_one]; omega
        have hq : (s + 1) / F = s / F + 1 := by rw [hs1, Int.mul_ediv_cancel_left _ (by omega)]
        have hr : (s + 1) % F = 0 := by rw [hs1, Int.mul_emod_right]
        have e1 : mst F (s + 1) = F := by unfold mst; rw [if_neg a, hr]; omega
        have e3 : est F L (s + 1) = L - 1 + s / F + 1 := by unfold est; rw [if_neg a, hq]; omega
        rw [e1, e2, e3, e4, hr0, show L - 1 + s / F + 1 - B = 1 + (L - 1 + s / F - B) by omega, p2_toNat_add (by omega) (by omega), show p2 (1 : Int).toNat = 2 from rfl]
        generalize p2 (L - 1 + s / F - B).toNat = P
        rw [show F - 1 + F = 2 * F - 1 by omega, Int.sub_mul, Int.one_mul, ← Int.mul_assoc, Int.mul_comm F 2]
        omega
theorem um_lt {F L B s : Int} (hF : 0 < F) (h0 : 0 ≤ s) (hB : B ≤ L) : um F L B s < um F L B (s + 1) := by
  rw [um_succ hF h0 hB]
  have := p2_pos (est F L s - B).toNat
  omega
theorem um_mono {F L B s : Int} (hF : 0 < F) (h0 : 0 ≤ s) (hB : B ≤ L) (n : Nat) : um F L B s ≤ um F L B (s + n) := by
  induction n with
  | zero => simp
  | succ n ih =>
    have := um_lt (s := s + n) hF (by omega) hB
    rw [show s + ((n + 1 : Nat) : Int) = s + n + 1 by omega]
    omega
theorem um_le {F L B s t : Int} (hF : 0 < F) (h0 : 0 ≤ s) (hB : B ≤ L) (h : s ≤ t) : um F L B s ≤ um F L B t := by
  have := um_mono hF h0 hB (t - s).toNat
  rwa [show s + ((t - s).toNat : Int) = t by omega] at this
theorem um_lt' {F L B s t : Int} (hF : 0 < F) (h0 : 0 ≤ s) (hB : B ≤ L) (h : s < t) : um F L B s < um F L B t := by
  have h1 := um_lt (s := s) hF h0 hB
  have h2 := um_le (s := s + 1) (t := t) hF (by omega) hB (by omega)
  omega
/-- q is the whole number next to V / 2T, of two the even one -/
def Half (q T V : Int) : Prop := 2 * q * T - T ≤ V ∧ V ≤ 2 * q * T + T ∧ (V = 2 * q * T - T → q % 2 = 0) ∧ (V = 2 * q * T + T → q % 2 = 0)
/-- the value of what pattern makes -/
theorem um_pattern {F L B q t : Int} (hF : 0 < F) (hB : B ≤ L) (ht : L ≤ t) (q0 : 0 ≤ q) (q1 : q ≤ 2 * F) (hq : t = L ∨ F ≤ q) : um F L B (q + (t - L) * F) = q * p2 (t - B).toNat := by
  by_cases a : q < F
  · obtain rfl : t = L := by omega
    rw [Int.sub_self, Int.zero_mul, Int.add_zero]
    unfold um sc mst est
    rw [if_pos a, if_pos a]
  · have hn : ¬ q + (t - L) * F < F := by
      have : 0 ≤ (t - L) * F := Int.mul_nonneg (by omega) (by omega)
      omega
    by_cases b : q = 2 * F
    · have hd : (q + (t - L) * F) = F * (t - L + 2) := by rw [b, Int.mul_add, Int.mul_comm F (t - L)]; omega
      have e1 : mst F (q + (t - L) * F) = F := by unfold mst; rw [if_neg hn, hd, Int.mul_emod_right]; omega
      have e2 : est F L (q + (t - L) * F) = t + 1 := by unfold est; rw [if_neg hn, hd, Int.mul_ediv_cancel_left _ (by omega)]; omega
      unfold um sc
      rw [e1, e2, b, show t + 1 - B = 1 + (t - B) by omega, p2_toNat_add (by omega) (by omega), show p2 (1 : Int).toNat = 2 from rfl, ← Int.mul_assoc, Int.mul_comm F 2]
    · have hd : (q + (t - L) * F) = (q - F) + F * (t - L + 1) := by rw [Int.mul_add, Int.mul_comm F (t - L)]; omega
      have e1 : mst F (q + (t - L) * F) = q := by unfold mst; rw [if_neg hn, hd, Int.add_mul_emod_self_left, Int.emod_eq_of_lt (by omega) (by omega)]; omega
      have e2 : est F L (q + (t - L) * F) = t := by unfold est; rw [if_neg hn, hd, Int.add_mul_ediv_left _ _ (by omega), Int.ediv_eq_zero_of_lt (by omega) (by omega)]; omega
      unfold um sc
      rw [e1, e2]
theorem est_pattern {F L q t : Int} (hF : 0 < F) (ht : L ≤ t) (q0 : 0 ≤ q) (q1 : q < 2 * F) (hq : t = L ∨ F ≤ q) : est F L (q + (t - L) * F) = t := by
  by_cases a : q < F
  · obtain rfl : t = L := by omega
    rw [Int.sub_self, Int.zero_mul, Int.add_zero]
    unfold est
    rw [if_pos a]
  · have hn : ¬ q + (t - L) * F < F := by
      have : 0 ≤ (t - L) * F := Int.mul_nonneg (by omega) (by omega)
      omega
    have hd : (q + (t - L) * F) = (q - F) + F * (t - L + 1) := by rw [Int.mul_add, Int.mul_comm F (t - L)]; omega
    unfold est
    rw [if_neg hn, hd, Int.add_mul_ediv_left _ _ (by omega), Int.ediv_eq_zero_of_lt (by omega) (by omega)]; omega
/-- what pattern makes of a rounded number of steps is the nearest -/
theorem near_pattern {F L I N E q t : Int} (hF : 0 < F) (hF2 : F % 2 = 0) (ht : L ≤ t) (q0 : 0 ≤ q) (q1 : q ≤ 2 * F) (hq : t = L ∨ F ≤ q) (hI : q + (t - L) * F ≤ I)
    (hh : ∀ B, B ≤ E → B ≤ L → Half q (p2 (t - B).toNat) (2 * sc N E B)) (hlow : L < t → ∀ B, B ≤ E → B ≤ L → 2 * F * p2 (t - B).toNat ≤ 2 * sc N E B) : Near F L I N E (q + (t - L) * F) := by
  have h0 : 0 ≤ (t - L) * F := Int.mul_nonneg (by omega) (by omega)
  have hpar : (q + (t - L) * F) % 2 = q % 2 := by
    have : ((t - L) * F) % 2 = 0 := by rw [Int.mul_emod, hF2, Int.mul_zero]; rfl
    omega
  refine ⟨by omega, hI, fun B hE hB => ?_⟩
  obtain ⟨h1, h2, h3, h4⟩ := hh B hE hB
  have hu := um_pattern (B := B) hF hB ht q0 q1 hq
  have hT := p2_pos (t - B).toNat
  have e2q : 2 * q * p2 (t - B).toNat = 2 * (q * p2 (t - B).toNat) := Int.mul_assoc _ _ _
  rw [hpar]
  refine ⟨fun _ => ?_, fun hr => ?_⟩
  · rw [um_succ hF (by omega) hB, hu]
    by_cases c : q < 2 * F
    · rw [est_pattern hF ht q0 c hq]
      refine ⟨by omega, fun e => h4 (by omega)⟩
    · have e : q = 2 * F := by omega
      have hd : (q + (t - L) * F) = F * (t - L + 2) := by rw [e, Int.mul_add, Int.mul_comm F (t - L)]; omega
      have hest : est F L (q + (t - L) * F) = t + 1 := by
        unfold est
        rw [if_neg (by omega), hd, Int.mul_ediv_cancel_left _ (by omega)]; omega
      rw [hest, show t + 1 - B = 1 + (t - B) by omega, p2_toNat_add (by omega) (by omega), show p2 (1 : Int).toNat = 2 from rfl]
      refine ⟨by omega, fun e => by omega⟩
  · have hs := um_succ (s := q + (t - L) * F - 1) hF (by omega) hB
    rw [Int.sub_add_cancel, hu] at hs
    by_cases c : t = L ∨ F < q
    · have hest : est F L (q + (t - L) * F - 1) = t := by
        rw [show q + (t - L) * F - 1 = (q - 1) + (t - L) * F by omega]
        rcases Int.lt_or_le (q - 1) 0 with d | d
        · have : q = 0 := by omega
          have ht' : t = L := by omega
          subst ht'
          rw [Int.sub_self, Int.zero_mul] at hr
          omega
        · exact est_pattern hF ht d (by omega) (by omega)
      rw [hest] at hs
      rw [hu]
      refine ⟨by omega, fun e => h3 (by omega)⟩
    · have e : q = F := by omega
      have hl := hlow (by omega) B hE hB
      have hp := p2_pos (est F L (q + (t - L) * F - 1) - B).toNat
      have e3 : 2 * F * p2 (t - B).toNat = 2 * (q * p2 (t - B).toNat) := by rw [e, Int.mul_assoc]
      rw [hu]
      refine ⟨by omega, fun e => by omega⟩
/-- digits far behind say no more than that something is there -/
theorem half_sticky {q T Z a b top k : Int} (hZ : 0 < Z) (hT : T = k * Z) (a0 : 0 ≤ a) (a1 : a < Z) (b0 : 0 ≤ b) (b1 : b < Z) (hab : a = 0 ↔ b = 0) (h : Half q T (top * Z + b)) : Half q T (top * Z + a) := by
  obtain ⟨h1, h2, h3, h4⟩ := h
  subst hT
  have e1 : 2 * q * (k * Z) - k * Z = (2 * q * k - k) * Z := by rw [Int.sub_mul, Int.mul_assoc (2 * q) k Z]
  have e2 : 2 * q * (k * Z) + k * Z = (2 * q * k + k) * Z := by rw [Int.add_mul, Int.mul_assoc (2 * q) k Z]
  unfold Half
  rw [e1] at h1 h3 ⊢
  rw [e2] at h2 h4 ⊢
  generalize 2 * q * k - k = u at *
  generalize 2 * q * k + k = v at *
  have low : ∀ c, 0 ≤ c → c < Z → (u * Z ≤ top * Z + c ↔ u ≤ top) := by
    intro c c0 c1
    constructor
    · intro h
      rcases Int.lt_or_le top u with d | d
      · have : (top + 1) * Z ≤ u * Z := Int.mul_le_mul_of_nonneg_right (by omega) (by omega)
        rw [Int.add_mul, Int.one_mul] at this
        omega
      · exact d
    · intro h
      have : u * Z ≤ top * Z := Int.mul_le_mul_of_nonneg_right h (by omega)
      omega
  have eq : ∀ c x, 0 ≤ c → c < Z → (top * Z + c = x * Z ↔ top = x ∧ c = 0) := by
    intro c x c0 c1
    constructor
    · intro h
      rcases Int.lt_trichotomy top x with d | d | d
      · have : (top + 1) * Z ≤ x * Z := Int.mul_le_mul_of_nonneg_right (by omega) (by omega)
        rw [Int.add_mul, Int.one_mul] at this
        omega
      · subst d; exact ⟨rfl, by omega⟩
      · have : (x + 1) * Z ≤ top * Z := Int.mul_le_mul_of_nonneg_right (by omega) (by omega)
        rw [Int.add_mul, Int.one_mul] at this
        omega
    · rintro ⟨rfl, rfl⟩; omega
  have up : ∀ c, 0 ≤ c → c < Z → (top * Z + c ≤ v * Z ↔ (top < v ∨ (top = v ∧ c = 0))) := by
    intro c c0 c1
    constructor
    · intro h
      rcases Int.lt_trichotomy top v with d | d | d
      · exact Or.inl d
      · subst d; exact Or.inr ⟨rfl, by omega⟩
      · have : (v + 1) * Z ≤ top * Z := Int.mul_le_mul_of_nonneg_right (by omega) (by omega)
        rw [Int.add_mul, Int.one_mul] at this
        omega
    · rintro (d | ⟨rfl, rfl⟩)
      · have : (top + 1) * Z ≤ v * Z := Int.mul_le_mul_of_nonneg_right (by omega) (by omega)
        rw [Int.add_mul, Int.one_mul] at this
        omega
      · omega
  rw [low b b0 b1] at h1
  rw [up b b0 b1] at h2
  rw [eq b u b0 b1] at h3
  rw [eq b v b0 b1] at h4
  rw [low a a0 a1, up a a0 a1, eq a u a0 a1, eq a v a0 a1, hab]
  exact ⟨h1, h2, h3, h4⟩

end Go.Proofs.YtinfkoiifemjmaaGreatDoor

namespace Go.Proofs.YtinfkoiifemjmaaGreatDoor
open Go.RowKit
set_option linter.unusedVariables false

/-- the middle above a size, twice, in steps of 2 to the power of L -/
def mid2 (F L r : Int) : Int := um F L L r + um F L L (r + 1)
/-- r is the nearest pattern to X over D, in steps of 2 to the power of L -/
def DN (F L I X D r : Int) : Prop := 0 ≤ r ∧ r ≤ I ∧
  (r < I → 2 * X ≤ mid2 F L r * D ∧ (2 * X = mid2 F L r * D → r % 2 = 0)) ∧
  (0 < r → mid2 F L (r - 1) * D ≤ 2 * X ∧ (2 * X = mid2 F L (r - 1) * D → r % 2 = 0))
theorem mid2_lt {F L s t : Int} (hF : 0 < F) (h0 : 0 ≤ s) (h : s < t) : mid2 F L s < mid2 F L t := by
  unfold mid2
  have a := um_lt' (L := L) (B := L) (s := s) (t := t) hF h0 (by omega) h
  have b := um_lt' (L := L) (B := L) (s := s + 1) (t := t + 1) hF (by omega) (by omega) (by omega)
  omega
theorem mid2_le {F L s t : Int} (hF : 0 < F) (h0 : 0 ≤ s) (h : s ≤ t) : mid2 F L s ≤ mid2 F L t := by
  rcases Int.lt_or_le s t with g | g
  · have := mid2_lt (L := L) hF h0 g; omega
  · rw [show s = t by omega]; exact Int.le_refl _
theorem dn_le {F L I X D r X' D' r' : Int} (hF : 0 < F) (hD : 0 < D) (hD' : 0 < D') (h : DN F L I X D r) (h' : DN F L I X' D' r') (hv : X * D' ≤ X' * D) : r ≤ r' := by
  rcases Int.lt_or_le r' r with g | g
  · exfalso
    obtain ⟨a0, a1, a2, a3⟩ := h
    obtain ⟨b0, b1, b2, b3⟩ := h'
    obtain ⟨c1, c2⟩ := a3 (by omega)
    obtain ⟨d1, d2⟩ := b2 (by omega)
    have m := mid2_le (L := L) (s := r') (t := r - 1) hF b0 (by omega)
    have DD : 0 < D * D' := Int.mul_pos hD hD'
    have e1 : mid2 F L (r - 1) * D * D' ≤ 2 * X * D' := Int.mul_le_mul_of_nonneg_right c1 (by omega)
    have e2 : 2 * X' * D ≤ mid2 F L r' * D' * D := Int.mul_le_mul_of_nonneg_right d1 (by omega)
    have e3 : mid2 F L r' * (D * D') ≤ mid2 F L (r - 1) * (D * D') := Int.mul_le_mul_of_nonneg_right m (by omega)
    have f1 : mid2 F L (r - 1) * D * D' = mid2 F L (r - 1) * (D * D') := Int.mul_assoc _ _ _
    have f2 : mid2 F L r' * D' * D = mid2 F L r' * (D * D') := by rw [Int.mul_assoc, Int.mul_comm D' D]
    have f3 : 2 * X * D' = 2 * (X * D') := Int.mul_assoc _ _ _
    have f4 : 2 * X' * D = 2 * (X' * D) := Int.mul_assoc _ _ _
    rw [f1, f3] at e1
    rw [f2, f4] at e2
    have g1 : mid2 F L r' * (D * D') = mid2 F L (r - 1) * (D * D') := by omega
    have g2 := Int.eq_of_mul_eq_mul_right (by omega) g1
    have g3 : r' = r - 1 := by
      rcases Int.lt_or_le r' (r - 1) with k | k
      · have := mid2_lt (L := L) hF b0 k; omega
      · omega
    have h1 : 2 * X = mid2 F L (r - 1) * D := by
      have : 2 * X * D' = mid2 F L (r - 1) * D * D' := by rw [f3, f1]; omega
      exact Int.eq_of_mul_eq_mul_right (by omega) this
    have h2 : 2 * X' = mid2 F L r' * D' := by
      have : 2 * X' * D = mid2 F L r' * D' * D := by rw [f4, f2]; omega
      exact Int.eq_of_mul_eq_mul_right (by omega) this
    have := c2 h1
    have := d2 h2
    omega
  · exact g
/-- what is cut off and only told as something more changes nothing -/
theorem dc_up {a D rest G H F mb : Int} (hG : 0 < G) (hD : 0 < D) (r0 : 0 ≤ rest) (r1 : rest < D) (hmb : mb = if rest = 0 then 0 else 1) (hH : (∃ j, H = j * G) ∨ H < 2 * F * G) (ha : rest ≠ 0 → 2 * F ≤ a)
    (h : (2 * a + mb) * G ≤ 2 * H) : (a * D + rest) * G ≤ H * D ∧ ((a * D + rest) * G = H * D → (2 * a + mb) * G = 2 * H) := by
  by_cases z : rest = 0
  · rw [if_pos z] at hmb
    subst hmb
    subst z
    have e : (a * D + 0) * G = a * G * D := by rw [Int.add_zero]; ac_rfl
    have f : (2 * a + 0) * G = 2 * (a * G) := by rw [Int.add_zero, Int.mul_assoc]
    rw [e, f]
    rw [f] at h
    refine ⟨Int.mul_le_mul_of_nonneg_right (by omega) (by omega), fun g => ?_⟩
    have := Int.eq_of_mul_eq_mul_right (by omega) g
    omega
  · rw [if_neg z] at hmb
    subst hmb
    have ha := ha z
    have key : (a * D + rest) * G < H * D := by
      rcases hH with ⟨j, rfl⟩ | hH
      · have g : (2 * a + 1) * G ≤ 2 * j * G := by rw [Int.mul_assoc]; exact h
        have g2 := Int.le_of_mul_le_mul_right g hG
        have g3 : (a + 1) * D ≤ j * D := Int.mul_le_mul_of_nonneg_right (by omega) (by omega)
        rw [Int.add_mul, Int.one_mul] at g3
        have g4 : (a * D + rest) * G < j * D * G := Int.mul_lt_mul_of_pos_right (by omega) hG
        rw [show j * G * D = j * D * G by ac_rfl]
        exact g4
      · exfalso
        have g : 2 * F * G ≤ a * G := Int.mul_le_mul_of_nonneg_right ha (by omega)
        have f : (2 * a + 1) * G = 2 * (a * G) + G := by rw [Int.add_mul, Int.one_mul, Int.mul_assoc]
        omega
    exact ⟨by omega, fun g => by omega⟩
theorem dc_dn {a D rest G H F mb : Int} (hG : 0 < G) (hD : 0 < D) (r0 : 0 ≤ rest) (r1 : rest < D) (hmb : mb = if rest = 0 then 0 else 1) (hH : (∃ j, H = j * G) ∨ H < 2 * F * G) (ha : rest ≠ 0 → 2 * F ≤ a)
    (h : 2 * H ≤ (2 * a + mb) * G) : H * D ≤ (a * D + rest) * G ∧ ((a * D + rest) * G = H * D → (2 * a + mb) * G = 2 * H) := by
  by_cases z : rest = 0
  · rw [if_pos z] at hmb
    subst hmb
    subst z
    have e : (a * D + 0) * G = a * G * D := by rw [Int.add_zero]; ac_rfl
    have f : (2 * a + 0) * G = 2 * (a * G) := by rw [Int.add_zero, Int.mul_assoc]
    rw [e, f]
    rw [f] at h
    refine ⟨Int.mul_le_mul_of_nonneg_right (by omega) (by omega), fun g => ?_⟩
    have := Int.eq_of_mul_eq_mul_right (by omega) g
    omega
  · rw [if_neg z] at hmb
    subst hmb
    have ha := ha z
    have low : H ≤ a * G := by
      rcases hH with ⟨j, rfl⟩ | hH
      · have g : 2 * j * G ≤ (2 * a + 1) * G := by rw [Int.mul_assoc]; exact h
        have g2 := Int.le_of_mul_le_mul_right g hG
        exact Int.mul_le_mul_of_nonneg_right (by omega) (by omega)
      · have g : 2 * F * G ≤ a * G := Int.mul_le_mul_of_nonneg_right ha (by omega)
        omega
    have key : H * D < (a * D + rest) * G := by
      have g1 : H * D ≤ a * G * D := Int.mul_le_mul_of_nonneg_right low (by omega)
      have g2 : 0 < rest * G := Int.mul_pos (by omega) hG
      rw [Int.add_mul, show a * D * G = a * G * D by ac_rfl]
      omega
    exact ⟨by omega, fun g => by omega⟩

theorem um_lift {F L B s : Int} (hF : 0 < F) (hB : B ≤ L) : um F L B s = um F L L s * p2 (L - B).toNat := by
  unfold um
  exact sc_shift hB (est_ge hF)
theorem um_here (F L s : Int) : um F L L s = mst F s * p2 (est F L s - L).toNat := rfl
theorem mst_rng {F s : Int} (hF : 0 < F) (h0 : 0 ≤ s) : 0 ≤ mst F s ∧ mst F s < 2 * F := by
  unfold mst
  split
  · omega
  · have := Int.emod_nonneg s (b := F) (by omega)
    have := Int.emod_lt_of_pos s hF
    omega
theorem mid2_at {F L r : Int} (hF : 0 < F) (h0 : 0 ≤ r) : mid2 F L r = (2 * mst F r + 1) * p2 (est F L r - L).toNat := by
  unfold mid2
  rw [um_succ hF h0 (by omega), um_here, Int.add_mul, Int.one_mul, Int.mul_assoc]; omega
/-- the middle above r, as so many steps -/
theorem mid2_kind {F L r : Int} (up : Nat) (hF : 0 < F) (hL : L ≤ 0) (h0 : 0 ≤ r) : (∃ j, mid2 F L r * p2 up = j * p2 (1 - L).toNat) ∨ mid2 F L r * p2 up < 2 * F * p2 (1 - L).toNat := by
  obtain ⟨m0, m1⟩ := mst_rng hF h0
  have l1 := est_ge (F := F) (L := L) (s := r) hF
  rw [mid2_at hF h0, Int.mul_assoc, ← p2_add]
  by_cases c : (1 - L).toNat ≤ (est F L r - L).toNat + up
  · left
    obtain ⟨d, hd⟩ : ∃ d, (est F L r - L).toNat + up = d + (1 - L).toNat := ⟨(est F L r - L).toNat + up - (1 - L).toNat, by omega⟩
    rw [hd, p2_add]
    exact ⟨(2 * mst F r + 1) * p2 d, by rw [Int.mul_assoc]⟩
  · right
    have g : p2 ((est F L r - L).toNat + up + 1) ≤ p2 (1 - L).toNat := p2_mono (by omega)
    rw [p2] at g
    have x0 := p2_pos ((est F L r - L).toNat + up)
    generalize p2 ((est F L r - L).toNat + up) = x at *
    have k : (2 * mst F r + 1) * x ≤ (4 * F - 1) * x := Int.mul_le_mul_of_nonneg_right (by omega) (by omega)
    have k2 : 2 * F * (2 * x) ≤ 2 * F * p2 (1 - L).toNat := Int.mul_le_mul_of_nonneg_left g (by omega)
    have k3 : (4 * F - 1) * x = 2 * F * (2 * x) - x := by
      rw [Int.sub_mul, Int.one_mul]; congr 1; rw [Int.mul_comm 2 x, ← Int.mul_assoc, Int.mul_comm (2 * F * x) 2, ← Int.mul_assoc, ← Int.mul_assoc]; rfl
    omega

/-- one rounding of what long division gives -/
theorem near_dn {F L I a D rest X Y mb r : Int} {up : Nat} (hF : 0 < F) (hL : L ≤ 0) (hD : 0 < D) (hY : 0 < Y) (r0 : 0 ≤ rest) (r1 : rest < D) (hmb : mb = if rest = 0 then 0 else 1) (ha : rest ≠ 0 → 2 * F ≤ a)
    (hX : X * (D * p2 up) = (a * D + rest) * (p2 (-L).toNat * Y)) (h : Near F L I (2 * a + mb) (-(up : Int) - 1) r) : DN F L I X Y r := by
  obtain ⟨h0, h1, hn⟩ := h
  obtain ⟨hu, hl⟩ := hn (L - up - 1) (by omega) (by omega)
  have G0 := p2_pos (1 - L).toNat
  have P0 := p2_pos up
  have es : sc (2 * a + mb) (-(up : Int) - 1) (L - up - 1) = (2 * a + mb) * p2 (-L).toNat := by
    unfold sc; congr 2; omega
  have eg : p2 (1 - L).toNat = 2 * p2 (-L).toNat := by
    rw [show (1 - L).toNat = (-L).toNat + 1 by omega, p2]
  have ep : p2 (L - (L - (up : Int) - 1)).toNat = 2 * p2 up := by
    rw [show (L - (L - (up : Int) - 1)).toNat = up + 1 by omega, p2]
  have um' : ∀ s, um F L (L - up - 1) s = um F L L s * (2 * p2 up) := fun s => by rw [um_lift hF (by omega), ep]
  have hs : 2 * ((2 * a + mb) * p2 (-L).toNat) = (2 * a + mb) * p2 (1 - L).toNat := by rw [eg]; rw [Int.mul_left_comm]
  have hm : ∀ x y, x * (2 * p2 up) + y * (2 * p2 up) = 2 * ((x + y) * p2 up) := fun x y => by rw [← Int.add_mul, Int.mul_left_comm]
  rw [es, um', um', hs, hm] at hu
  rw [es, um', um', hs, hm] at hl
  have cmp : ∀ h' : Int, ((a * D + rest) * p2 (1 - L).toNat ≤ h' * p2 up * D ↔ 2 * X ≤ h' * Y) ∧ (h' * p2 up * D ≤ (a * D + rest) * p2 (1 - L).toNat ↔ h' * Y ≤ 2 * X) := by
    intro h'
    have c0 : 0 < D * p2 up := Int.mul_pos hD P0
    have e1 : (a * D + rest) * p2 (1 - L).toNat * Y = 2 * X * (D * p2 up) := by rw [Int.mul_assoc 2, hX, eg]; ac_rfl
    have e2 : h' * p2 up * D * Y = h' * Y * (D * p2 up) := by ac_rfl
    have le : ∀ {x y c : Int}, 0 < c → (x * c ≤ y * c ↔ x ≤ y) := fun {x y c} hc => ⟨fun h => Int.le_of_mul_le_mul_right h hc, fun h => Int.mul_le_mul_of_nonneg_right h (by omega)⟩
    constructor
    · rw [← le hY, e1, e2, le c0]
    · rw [← le hY (x := h' * p2 up * D), e1, e2, le c0]
  refine ⟨h0, h1, fun g => ?_, fun g => ?_⟩
  · obtain ⟨u1, u2⟩ := hu g
    obtain ⟨v1, v2⟩ := dc_up (F := F) G0 hD r0 r1 hmb (mid2_kind up hF hL h0) ha u1
    obtain ⟨c1, c2⟩ := cmp (mid2 F L r)
    refine ⟨c1.1 v1, fun e => u2 (v2 ?_)⟩
    have := c2.2 (by omega)
    unfold mid2 at *
    omega
  · obtain ⟨u1, u2⟩ := hl g
    have k := mid2_kind (L := L) (r := r - 1) up hF hL (by omega)
    have k' : mid2 F L (r - 1) = um F L L (r - 1) + um F L L r := by unfold mid2; rw [show r - 1 + 1 = r by omega]
    rw [← k'] at u1 u2
    obtain ⟨v1, v2⟩ := dc_dn (F := F) G0 hD r0 r1 hmb k ha u1
    obtain ⟨c1, c2⟩ := cmp (mid2 F L (r - 1))
    refine ⟨c2.1 v1, fun e => u2 (v2 ?_)⟩
    have := c1.2 (by omega)
    omega
/-- a whole number -/
theorem near_dn_up {F L I N r : Int} {e : Nat} (hF : 0 < F) (hL : L < 0) (h : Near F L I (2 * N + 0) ((e : Int) - 1) r) : DN F L I (N * p2 e * p2 (-L).toNat) 1 r := by
  obtain ⟨h0, h1, hn⟩ := h
  obtain ⟨hu, hl⟩ := hn L (by omega) (by omega)
  have es : sc (2 * N + 0) ((e : Int) - 1) L = N * p2 e * p2 (-L).toNat := by
    unfold sc
    rw [Int.add_zero, Int.mul_assoc N, ← p2_add, show e + (-L).toNat = ((e : Int) - 1 - L).toNat + 1 by omega, p2]
    ac_rfl
  rw [es] at hu hl
  refine ⟨h0, h1, fun g => ?_, fun g => ?_⟩
  · rw [Int.mul_one]; exact hu g
  · rw [Int.mul_one]
    have := hl g
    unfold mid2
    rw [show r - 1 + 1 = r by omega]
    exact this

/-- 10 to a power -/
def tn (n : Nat) : Int := 10 ^ n
theorem tn_pos (n : Nat) : 0 < tn n := Int.pow_pos (by omega)
theorem tn_add (a b : Nat) : tn (a + b) = tn a * tn b := Int.pow_add 10 a b
theorem tn_succ (a : Nat) : tn (a + 1) = 10 * tn a := by unfold tn; rw [Int.pow_succ, Int.mul_comm]
theorem tn_zero : tn 0 = 1 := rfl
theorem tn_mono {a b : Nat} (h : a ≤ b) : tn a ≤ tn b := by
  obtain ⟨c, rfl⟩ : ∃ c, b = a + c := ⟨b - a, by omega⟩
  rw [tn_add]
  have h1 := tn_pos c
  have h2 := tn_pos a
  have := Int.mul_le_mul_of_nonneg_left (show (1 : Int) ≤ tn c by omega) (show 0 ≤ tn a by omega)
  omega
theorem mle {x y c : Int} (hc : 0 < c) : (x * c ≤ y * c ↔ x ≤ y) := ⟨fun h => Int.le_of_mul_le_mul_right h hc, fun h => Int.mul_le_mul_of_nonneg_right h (by omega)⟩
theorem tn_shift {A B : Int} {x y x' y' : Nat} (h : x + y' = x' + y) : A * tn x ≤ B * tn y ↔ A * tn x' ≤ B * tn y' := by
  rcases Nat.le_total x x' with g | g
  · obtain ⟨c, rfl⟩ : ∃ c, x' = x + c := ⟨x' - x, by omega⟩
    have e : y' = y + c := by omega
    subst e
    rw [tn_add, tn_add, ← Int.mul_assoc, ← Int.mul_assoc, mle (tn_pos c)]
  · obtain ⟨c, rfl⟩ : ∃ c, x = x' + c := ⟨x - x', by omega⟩
    have e : y = y' + c := by omega
    subst e
    rw [tn_add, tn_add, ← Int.mul_assoc, ← Int.mul_assoc, mle (tn_pos c)]
theorem tn_shift_eq {A B : Int} {x y x' y' : Nat} (h : x + y' = x' + y) : A * tn x = B * tn y ↔ A * tn x' = B * tn y' := by
  have a := tn_shift (A := A) (B := B) h
  have b := tn_shift (A := B) (B := A) (x := y) (y := x) (x' := y') (y' := x') (by omega)
  omega
/-- r is the nearest pattern to N times 10 to the power of q -/
def DV (F L I N q r : Int) : Prop := DN F L I (N * tn q.toNat * p2 (-L).toNat) (tn (-q).toNat) r
/-- one decimal number is at most another -/
def dle (N q N' q' : Int) : Prop := N * tn (q.toNat + (-q').toNat) ≤ N' * tn (q'.toNat + (-q).toNat)
theorem dv_cross {F L I N q r N' q' r' : Int} (hF : 0 < F) (h : DV F L I N q r) (h' : DV F L I N' q' r') (hv : dle N q N' q') : r ≤ r' := by
  refine dn_le hF (tn_pos _) (tn_pos _) h h' ?_
  unfold dle at hv
  have P := p2_pos (-L).toNat
  rw [tn_add, tn_add] at hv
  have := Int.mul_le_mul_of_nonneg_right hv (show 0 ≤ p2 (-L).toNat by omega)
  have e1 : N * tn q.toNat * p2 (-L).toNat * tn (-q').toNat = N * (tn q.toNat * tn (-q').toNat) * p2 (-L).toNat := by ac_rfl
  have e2 : N' * tn q'.toNat * p2 (-L).toNat * tn (-q).toNat = N' * (tn q'.toNat * tn (-q).toNat) * p2 (-L).toNat := by ac_rfl
  rw [e1, e2]; exact this
theorem dv_same {F L I N q r N' q' r' : Int} (hF : 0 < F) (h : DV F L I N q r) (h' : DV F L I N' q' r') (hv : dle N q N' q') (hv' : dle N' q' N q) : r = r' := by
  have := dv_cross hF h h' hv
  have := dv_cross hF h' h hv'
  omega
theorem dle_refl (N q : Int) : dle N q N q := Int.le_refl _
theorem dn_scale {F L I X D X' D' r : Int} (hD : 0 < D) (hD' : 0 < D') (e : X * D' = X' * D) (h : DN F L I X D r) : DN F L I X' D' r := by
  have key : ∀ m : Int, (2 * X ≤ m * D ↔ 2 * X' ≤ m * D') ∧ (m * D ≤ 2 * X ↔ m * D' ≤ 2 * X') := by
    intro m
    have e1 : 2 * X * D' = 2 * X' * D := by rw [Int.mul_assoc, e, Int.mul_assoc]
    have e2 : m * D * D' = m * D' * D := by ac_rfl
    constructor
    · rw [← mle hD', e1, e2, mle hD]
    · rw [← mle hD' (x := m * D), e1, e2, mle hD]
  obtain ⟨h0, h1, h2, h3⟩ := h
  refine ⟨h0, h1, fun g => ?_, fun g => ?_⟩
  · obtain ⟨a, b⟩ := h2 g
    obtain ⟨k1, k2⟩ := key (mid2 F L r)
    exact ⟨k1.1 a, fun z => b (by have := k2.2 (by omega); omega)⟩
  · obtain ⟨a, b⟩ := h3 g
    obtain ⟨k1, k2⟩ := key (mid2 F L (r - 1))
    exact ⟨k2.1 a, fun z => b (by have := k1.2 (by omega); omega)⟩
theorem dv_move {F L I N q r N' q' : Int} (h : DV F L I N q r) (e : N * tn (q.toNat + (-q').toNat) = N' * tn (q'.toNat + (-q).toNat)) : DV F L I N' q' r := by
  refine dn_scale (tn_pos _) (tn_pos _) ?_ h
  rw [tn_add, tn_add] at e
  have e1 : N * tn q.toNat * p2 (-L).toNat * tn (-q').toNat = N * (tn q.toNat * tn (-q').toNat) * p2 (-L).toNat := by ac_rfl
  have e2 : N' * tn q'.toNat * p2 (-L).toNat * tn (-q).toNat = N' * (tn q'.toNat * tn (-q).toNat) * p2 (-L).toNat := by ac_rfl
  rw [e1, e2, e]
/-- noughts behind -/
theorem dv_behind {F L I N q r : Int} (c : Nat) (h : DV F L I N q r) : DV F L I (N * tn c) (q - c) r := by
  refine dv_move h ?_
  rw [Int.mul_assoc, ← tn_add]
  congr 2
  omega
theorem dv_ahead {F L I N q r : Int} (c : Nat) (h : DV F L I (N * tn c) (q - c) r) : DV F L I N q r := by
  refine dv_move h ?_
  rw [Int.mul_assoc, ← tn_add]
  congr 2
  omega

/-- what is said of a width: so few digits, the ends of its numbers -/
structure Wide (F L I : Int) : Prop where
  f0 : 2 ≤ F
  l0 : -1074 ≤ L
  l1 : L < 0
  i0 : 1 < I
  few : 2 * F * 5 ^ (-L).toNat ≤ tn 799
  low : 2 * p2 (-L).toNat ≤ tn 330
  top : mid2 F L (I - 1) < 2 * tn 310 * p2 (-L).toNat

theorem mid2_zero {F L : Int} (hF : 2 ≤ F) : mid2 F L 0 = 1 := by
  rw [mid2_at (by omega) (by omega)]
  have a : mst F 0 = 0 := by unfold mst; rw [if_pos (by omega)]
  have b : est F L 0 = L := by unfold est; rw [if_pos (by omega)]
  rw [a, b, Int.sub_self]; rfl
theorem dv_zero {F L I q : Int} (W : Wide F L I) : DV F L I 0 q 0 := by
  have := W.i0
  have := tn_pos (-q).toNat
  refine ⟨by omega, by omega, fun _ => ?_, fun g => absurd g (by omega)⟩
  rw [Int.zero_mul, Int.zero_mul, mid2_zero W.f0]
  refine ⟨by omega, fun _ => by decide⟩
theorem dv_small {F L I N q : Int} {k : Nat} (W : Wide F L I) (h0 : 0 ≤ N) (hN : N < tn k) (hq : q + k ≤ -330) : DV F L I N q 0 := by
  have := W.i0
  have hlow := W.low
  have key : 2 * (N * tn q.toNat * p2 (-L).toNat) < tn (-q).toNat := by
    have e0 : q.toNat = 0 := by omega
    obtain ⟨c, hc⟩ : ∃ c, (-q).toNat = k + 330 + c := ⟨(-q).toNat - k - 330, by omega⟩
    rw [e0, tn_zero, Int.mul_one, hc]
    have a : N * (2 * p2 (-L).toNat) < tn k * (2 * p2 (-L).toNat) := Int.mul_lt_mul_of_pos_right hN (by have := p2_pos (-L).toNat; omega)
    have b : tn k * (2 * p2 (-L).toNat) ≤ tn k * tn 330 := Int.mul_le_mul_of_nonneg_left hlow (by have := tn_pos k; omega)
    have d : tn (k + 330) ≤ tn (k + 330 + c) := tn_mono (by omega)
    rw [tn_add] at d
    have e : 2 * (N * p2 (-L).toNat) = N * (2 * p2 (-L).toNat) := by ac_rfl
    omega
  refine ⟨by omega, by omega, fun _ => ?_, fun g => absurd g (by omega)⟩
  rw [mid2_zero W.f0]
  exact ⟨by omega, fun _ => by decide⟩
theorem dv_large {F L I N q : Int} {k : Nat} (W : Wide F L I) (hN : tn k ≤ N) (hq : 310 ≤ q + k) : DV F L I N q I := by
  have := W.i0
  have htop := W.top
  have P := p2_pos (-L).toNat
  refine ⟨by omega, by omega, fun g => absurd g (by omega), fun _ => ?_⟩
  have a : mid2 F L (I - 1) * tn (-q).toNat < 2 * tn 310 * p2 (-L).toNat * tn (-q).toNat := Int.mul_lt_mul_of_pos_right htop (tn_pos _)
  have b : tn (310 + (-q).toNat) ≤ tn (k + q.toNat) := tn_mono (by omega)
  have c : tn k * tn q.toNat ≤ N * tn q.toNat := Int.mul_le_mul_of_nonneg_right hN (by have := tn_pos q.toNat; omega)
  rw [tn_add, tn_add] at b
  have d : tn 310 * tn (-q).toNat * (2 * p2 (-L).toNat) ≤ N * tn q.toNat * (2 * p2 (-L).toNat) := Int.mul_le_mul_of_nonneg_right (by omega) (by omega)
  have e1 : 2 * tn 310 * p2 (-L).toNat * tn (-q).toNat = tn 310 * tn (-q).toNat * (2 * p2 (-L).toNat) := by ac_rfl
  have e2 : 2 * (N * tn q.toNat * p2 (-L).toNat) = N * tn q.toNat * (2 * p2 (-L).toNat) := by ac_rfl
  rw [e1] at a
  rw [e2]
  exact ⟨by omega, fun g => by omega⟩
theorem p2_pow (n : Nat) : p2 n = 2 ^ n := by
  induction n with
  | zero => rfl
  | succ n ih => rw [p2, ih, Int.pow_succ, Int.mul_comm]
theorem tn_p2 (n : Nat) : tn n = 5 ^ n * p2 n := by
  rw [p2_pow, ← Int.mul_pow]; rfl
/-- no middle has so many digits -/
theorem mid2_off {F L I A r : Int} {c : Nat} (W : Wide F L I) (hA : tn 799 ≤ A) (h0 : 0 ≤ r) : mid2 F L r * tn c ≤ A * p2 (1 - L).toNat ∨ (A + 1) * p2 (1 - L).toNat ≤ mid2 F L r * tn c := by
  have f0 := W.f0
  have l1 := W.l1
  have G0 := p2_pos (1 - L).toNat
  by_cases z : ∃ j, mid2 F L r * tn c = j * p2 (1 - L).toNat
  · obtain ⟨j, hj⟩ := z
    rw [hj, mle G0, mle G0]
    omega
  · left
    obtain ⟨m0, m1⟩ := mst_rng (F := F) (s := r) (by omega) h0
    have l2 := est_ge (F := F) (L := L) (s := r) (by omega)
    have k : (est F L r - L).toNat + c < (1 - L).toNat := by
      rcases Nat.lt_or_ge ((est F L r - L).toNat + c) (1 - L).toNat with g | g
      · exact g
      · exfalso
        obtain ⟨d, hd⟩ : ∃ d, (est F L r - L).toNat + c = d + (1 - L).toNat := ⟨(est F L r - L).toNat + c - (1 - L).toNat, by omega⟩
        refine z ⟨(2 * mst F r + 1) * p2 d * 5 ^ c, ?_⟩
        rw [mid2_at (by omega) h0, tn_p2]
        have e : (2 * mst F r + 1) * p2 (est F L r - L).toNat * (5 ^ c * p2 c) = (2 * mst F r + 1) * (p2 (est F L r - L).toNat * p2 c) * 5 ^ c := by ac_rfl
        rw [e, ← p2_add, hd, p2_add]
        ac_rfl
    have e : mid2 F L r * tn c = (2 * mst F r + 1) * (p2 ((est F L r - L).toNat + c) * 5 ^ c) := by
      rw [mid2_at (by omega) h0, tn_p2, p2_add]; ac_rfl
    have q0 : 0 < (5 : Int) ^ c := Int.pow_pos (by omega)
    have g1 : p2 ((est F L r - L).toNat + c) * 5 ^ c ≤ p2 (-L).toNat * 5 ^ (-L).toNat := by
      have a : p2 ((est F L r - L).toNat + c) ≤ p2 (-L).toNat := p2_mono (by omega)
      have b : (5 : Int) ^ c ≤ 5 ^ (-L).toNat := by
        obtain ⟨d, hd⟩ : ∃ d, (-L).toNat = c + d := ⟨(-L).toNat - c, by omega⟩
        rw [hd, Int.pow_add]
        have : 0 < (5 : Int) ^ d := Int.pow_pos (by omega)
        have := Int.mul_le_mul_of_nonneg_left (show (1 : Int) ≤ 5 ^ d by omega) (show 0 ≤ (5 : Int) ^ c by omega)
        omega
      have x := p2_pos ((est F L r - L).toNat + c)
      exact Int.mul_le_mul a b (by omega) (by have := p2_pos (-L).toNat; omega)
    have P := p2_pos (-L).toNat
    have g2 : (2 * mst F r + 1) * (p2 ((est F L r - L).toNat + c) * 5 ^ c) ≤ 4 * F * (p2 (-L).toNat * 5 ^ (-L).toNat) :=
      Int.mul_le_mul (by omega) g1 (Int.mul_nonneg (by have := p2_pos ((est F L r - L).toNat + c); omega) (by omega)) (by omega)
    have eg : p2 (1 - L).toNat = 2 * p2 (-L).toNat := by rw [show (1 - L).toNat = (-L).toNat + 1 by omega, p2]
    have g3 : 4 * F * (p2 (-L).toNat * 5 ^ (-L).toNat) = 2 * F * 5 ^ (-L).toNat * p2 (1 - L).toNat := by
      rw [eg, show 4 * F = 2 * (2 * F) by omega]; ac_rfl
    have g4 : 2 * F * 5 ^ (-L).toNat * p2 (1 - L).toNat ≤ A * p2 (1 - L).toNat := Int.mul_le_mul_of_nonneg_right (by have := W.few; omega) (by omega)
    rw [e]
    omega
/-- digits behind so many count only as something more -/
theorem dn_cut {F L I A N N' r : Int} {j j' c : Nat} (W : Wide F L I) (hA : tn 799 ≤ A) (a1 : A * tn j < N) (a2 : N < (A + 1) * tn j) (b1 : A * tn j' < N') (b2 : N' < (A + 1) * tn j')
    (h : DN F L I (N * p2 (-L).toNat) (tn (j + c)) r) : DN F L I (N' * p2 (-L).toNat) (tn (j' + c)) r := by
  have l1 := W.l1
  have G0 := p2_pos (1 - L).toNat
  have eg : p2 (1 - L).toNat = 2 * p2 (-L).toNat := by rw [show (1 - L).toNat = (-L).toNat + 1 by omega, p2]
  have side : ∀ {M : Int} {i : Nat} (s : Int), A * tn i < M → M < (A + 1) * tn i → 0 ≤ s →
      (mid2 F L s * tn c ≤ A * p2 (1 - L).toNat → mid2 F L s * tn (i + c) < 2 * (M * p2 (-L).toNat)) ∧ ((A + 1) * p2 (1 - L).toNat ≤ mid2 F L s * tn c → 2 * (M * p2 (-L).toNat) < mid2 F L s * tn (i + c)) := by
    intro M i s u1 u2 hs
    have T := tn_pos i
    have e1 : 2 * (M * p2 (-L).toNat) = M * p2 (1 - L).toNat := by rw [eg]; ac_rfl
    have e2 : mid2 F L s * tn (i + c) = mid2 F L s * tn c * tn i := by rw [tn_add]; ac_rfl
    rw [e1, e2]
    constructor
    · intro g
      have v1 := Int.mul_le_mul_of_nonneg_right g (show 0 ≤ tn i by omega)
      have v2 := Int.mul_lt_mul_of_pos_right u1 G0
      have e3 : A * p2 (1 - L).toNat * tn i = A * tn i * p2 (1 - L).toNat := by ac_rfl
      omega
    · intro g
      have v1 := Int.mul_le_mul_of_nonneg_right g (show 0 ≤ tn i by omega)
      have v2 := Int.mul_lt_mul_of_pos_right u2 G0
      have e3 : (A + 1) * p2 (1 - L).toNat * tn i = (A + 1) * tn i * p2 (1 - L).toNat := by ac_rfl
      omega
  obtain ⟨h0, h1, h2, h3⟩ := h
  refine ⟨h0, h1, fun g => ?_, fun g => ?_⟩
  · obtain ⟨x1, x2⟩ := h2 g
    obtain ⟨s1, s2⟩ := side (M := N) (i := j) r a1 a2 h0
    obtain ⟨t1, t2⟩ := side (M := N') (i := j') r b1 b2 h0
    rcases mid2_off (c := c) W hA h0 with k | k
    · have := s1 k; omega
    · have := t2 k
      exact ⟨by omega, fun z => by omega⟩
  · obtain ⟨x1, x2⟩ := h3 g
    obtain ⟨s1, s2⟩ := side (M := N) (i := j) (r - 1) a1 a2 (by omega)
    obtain ⟨t1, t2⟩ := side (M := N') (i := j') (r - 1) b1 b2 (by omega)
    rcases mid2_off (c := c) (r := r - 1) W hA (by omega) with k | k
    · have := t1 k
      exact ⟨by omega, fun z => by omega⟩
    · have := s2 k; omega
theorem dv_cut {F L I A N N' q q' r : Int} {j j' : Nat} (W : Wide F L I) (hA : tn 799 ≤ A) (a1 : A * tn j < N) (a2 : N < (A + 1) * tn j) (b1 : A * tn j' < N') (b2 : N' < (A + 1) * tn j')
    (hq : q + j ≤ 0) (hq' : q' + j' = q + j) (h : DV F L I N q r) : DV F L I N' q' r := by
  unfold DV at h ⊢
  obtain ⟨c, hc⟩ : ∃ c : Nat, (c : Int) = -(q + j) := ⟨(-(q + j)).toNat, by omega⟩
  rw [show q.toNat = 0 by omega, tn_zero, Int.mul_one, show (-q).toNat = j + c by omega] at h
  rw [show q'.toNat = 0 by omega, tn_zero, Int.mul_one, show (-q').toNat = j' + c by omega]
  exact dn_cut W hA a1 a2 b1 b2 h

theorem wide_d : Wide 4503599627370496 (-1074) 9218868437227405312 := ⟨by decide, by decide, by decide, by decide, by unfold tn; decide +kernel, by unfold tn; decide +kernel, by rw [mid2_at (by decide) (by decide)]; unfold tn; decide +kernel⟩

/-- the number that digits tell -/
def dg : List Int → Int
  | [] => 0
  | a :: x => (a - 48) * tn x.length + dg x
/-- digits alone -/
def Dgt (es : List Int) : Prop := ∀ x ∈ es, 48 ≤ x ∧ x ≤ 57
/-- bytes -/
def Byt (es : List Int) : Prop := ∀ x ∈ es, 0 ≤ x ∧ x < 256
theorem Dgt.byt {es : List Int} (h : Dgt es) : Byt es := fun x hx => by have := h x hx; omega
theorem Dgt.take {es : List Int} (h : Dgt es) (n : Nat) : Dgt (es.take n) := fun x hx => h x (List.mem_of_mem_take hx)
theorem Dgt.drop {es : List Int} (h : Dgt es) (n : Nat) : Dgt (es.drop n) := fun x hx => h x (List.mem_of_mem_drop hx)
theorem Dgt.append {es fs : List Int} (h : Dgt es) (g : Dgt fs) : Dgt (es ++ fs) := fun x hx => by
  rcases List.mem_append.1 hx with k | k
  · exact h x k
  · exact g x k
theorem dg_append (xs ys : List Int) : dg (xs ++ ys) = dg xs * tn ys.length + dg ys := by
  induction xs with
  | nil => simp [dg]
  | cons a x ih =>
    rw [List.cons_append, dg, ih, dg, List.length_append, tn_add, Int.add_mul, ← Int.mul_assoc]
    omega
theorem dg_one (a : Int) : dg [a] = a - 48 := by simp [dg, tn_zero]
theorem dg_snoc (xs : List Int) (b : Int) : dg (xs ++ [b]) = dg xs * 10 + (b - 48) := by
  rw [dg_append, dg_one]; rfl
theorem dg_range {xs : List Int} (h : Dgt xs) : 0 ≤ dg xs ∧ dg xs < tn xs.length := by
  induction xs with
  | nil => simp [dg, tn_zero]
  | cons a x ih =>
    obtain ⟨i0, i1⟩ := ih (fun y hy => h y (List.mem_cons_of_mem _ hy))
    obtain ⟨a0, a1⟩ := h a List.mem_cons_self
    rw [dg, List.length_cons, tn_succ]
    have p := tn_pos x.length
    have q0 : 0 ≤ (a - 48) * tn x.length := Int.mul_nonneg (by omega) (by omega)
    have q1 : (a - 48) * tn x.length ≤ 9 * tn x.length := Int.mul_le_mul_of_nonneg_right (by omega) (by omega)
    omega
theorem dg_lead {a : Int} {xs : List Int} (h : Dgt (a :: xs)) (ha : a ≠ 48) : tn xs.length ≤ dg (a :: xs) := by
  obtain ⟨i0, i1⟩ := dg_range (xs := xs) (fun y hy => h y (List.mem_cons_of_mem _ hy))
  obtain ⟨a0, a1⟩ := h a List.mem_cons_self
  have p := tn_pos xs.length
  have q1 : 1 * tn xs.length ≤ (a - 48) * tn xs.length := Int.mul_le_mul_of_nonneg_right (by omega) (by omega)
  rw [dg]; omega
theorem dg_lead' {xs : List Int} (h : Dgt xs) (hl : 0 < xs.length) (ha : Nt.lb xs 0 ≠ 48) : tn (xs.length - 1) ≤ dg xs := by
  cases xs with
  | nil => simp at hl
  | cons a x => exact dg_lead h (by simpa [Nt.lb] using ha)
theorem dg_noughts (n : Nat) : dg (List.replicate n 48) = 0 := by
  induction n with
  | zero => rfl
  | succ n ih => rw [List.replicate_succ, dg, ih]; omega
theorem lb_get {es : List Int} {p : Nat} (h : p < es.length) : Nt.lb es p = es[p] := by simp [Nt.lb, h]
theorem lb_in {es : List Int} {p : Nat} (h : p < es.length) : Nt.lb es p ∈ es := by rw [lb_get h]; exact List.getElem_mem h
theorem dg_take {ds : List Int} {k : Nat} (h : k < ds.length) : dg (ds.take (k + 1)) = dg (ds.take k) * 10 + (Nt.lb ds k - 48) := by
  rw [List.take_add_one, List.getElem?_eq_getElem h, lb_get h]
  exact dg_snoc _ _
/-- a text's byte -/
theorem txt_at {es : List Int} {p : Nat} (h : p < (strOfNums es).size) (hb : Byt es) : (((strOfNums es)[p]'h).toNat : Int) = Nt.lb es p := by
  have hl : p < es.length := by rw [strOfNums_size] at h; exact h
  have e : (strOfNums es)[p]'h = UInt8.ofNat (es[p]).toNat := by
    show (strOfNums es).data[p]'h = _
    simp [strOfNums]
  have hp := hb _ (lb_in hl)
  rw [lb_get hl] at hp ⊢
  rw [e, UInt8.toNat_ofNat']
  omega
theorem txt_cut (es : List Int) (a b : Nat) : (strOfNums es).extract a b = strOfNums ((es.take b).drop a) := by
  apply Go.WideShapes.bytes_inj
  simp [strOfNums, List.map_take, List.map_drop]
  try rw [List.drop_take]
theorem txt_join (xs ys : List Int) : strOfNums xs ++ strOfNums ys = strOfNums (xs ++ ys) := by
  apply Go.WideShapes.bytes_inj
  simp [strOfNums]
theorem dg_all {es : List Int} (h : ∀ j, j < es.length → Nt.lb es j = 48) : es = List.replicate es.length 48 := by
  apply List.ext_getElem (by simp)
  intro i h1 h2
  rw [List.getElem_replicate, ← lb_get h1]
  exact h i h1
/-- the digits between the noughts at both ends -/
theorem dg_between {es : List Int} {f e : Nat} (he : e ≤ es.length) (hf : f ≤ e) (h0 : ∀ j, j < f → Nt.lb es j = 48) (h1 : ∀ j, e ≤ j → j < es.length → Nt.lb es j = 48) :
    dg es = dg ((es.take e).drop f) * tn (es.length - e) := by
  have a : es = es.take e ++ es.drop e := (List.take_append_drop e es).symm
  have b : es.take e = (es.take e).take f ++ (es.take e).drop f := (List.take_append_drop f _).symm
  have c : (es.take e).take f = List.replicate f 48 := by
    have := dg_all (es := (es.take e).take f) (fun j hj => by
      have hj' : j < f ∧ j < e := by rw [List.length_take, List.length_take] at hj; omega
      rw [lb_get hj, List.getElem_take, List.getElem_take, ← lb_get (by omega)]
      exact h0 j hj'.1)
    rw [this]; congr 1; rw [List.length_take, List.length_take]; omega
  have d : es.drop e = List.replicate (es.length - e) 48 := by
    have := dg_all (es := es.drop e) (fun j hj => by
      have hj' : e + j < es.length := by rw [List.length_drop] at hj; omega
      rw [lb_get hj, List.getElem_drop, ← lb_get (by omega)]
      exact h1 _ (by omega) hj')
    rw [this]; congr 1; rw [List.length_drop]
  have g1 : dg (es.take e) = dg ((es.take e).drop f) := by
    have k := congrArg dg b
    rw [dg_append, c, dg_noughts, Int.zero_mul, Int.zero_add] at k
    exact k
  have k := congrArg dg a
  rw [dg_append, g1, d, dg_noughts, List.length_replicate, Int.add_zero] at k
  exact k

end Go.Proofs.YtinfkoiifemjmaaGreatDoor

namespace Go.Proofs.YtinfkoiifemjmaaGreatDoor
open Go.RowKit

/-- -1, 0, 1 -/
def sgn (x y : Int) : Int := if x < y then -1 else if y < x then 1 else 0
theorem sgn_lt {x y : Int} (h : x < y) : sgn x y = -1 := by simp [sgn, h]
theorem sgn_gt {x y : Int} (h : y < x) : sgn x y = 1 := by unfold sgn; rw [if_neg (by omega), if_pos h]
theorem sgn_eq {x y : Int} (h : x = y) : sgn x y = 0 := by subst h; simp [sgn]

set_option maxHeartbeats 1000000 in
theorem compare_int (x y : Int) (w : World) :
    Calls Tryz.prog 114 #[.int .i64 x, .int .i64 y] w fun e w' => e = .returned (.int .i64 (sgn x y)) ∧ w' = w := by
  have hx : (x != x) = false := by simp
  have hy : (y != y) = false := by simp
  rcases Int.lt_trichotomy x y with h | h | h
  · rw [sgn_lt h]
    go_enter Tryz.func114, Tryz.ntmps114
    go_wp2
    go_ret
    exact ⟨rfl, rfl⟩
  · subst h
    rw [sgn_eq rfl]
    go_enter Tryz.func114, Tryz.ntmps114
    go_wp2
    go_ret
    exact ⟨rfl, rfl⟩
  · rw [sgn_gt h]
    have h' : ¬ x < y := by omega
    go_enter Tryz.func114, Tryz.ntmps114
    go_wp2
    go_ret
    exact ⟨rfl, rfl⟩

set_option maxHeartbeats 1000000 in
theorem compare_u32 (x y : Int) (w : World) :
    Calls Tryz.prog 115 #[.int .u32 x, .int .u32 y] w fun e w' => e = .returned (.int .i64 (sgn x y)) ∧ w' = w := by
  have hx : (x != x) = false := by simp
  have hy : (y != y) = false := by simp
  rcases Int.lt_trichotomy x y with h | h | h
  · rw [sgn_lt h]
    go_enter Tryz.func115, Tryz.ntmps115
    go_wp2
    go_ret
    exact ⟨rfl, rfl⟩
  · subst h
    rw [sgn_eq rfl]
    go_enter Tryz.func115, Tryz.ntmps115
    go_wp2
    go_ret
    exact ⟨rfl, rfl⟩
  · rw [sgn_gt h]
    have h' : ¬ x < y := by omega
    go_enter Tryz.func115, Tryz.ntmps115
    go_wp2
    go_ret
    exact ⟨rfl, rfl⟩

set_option maxHeartbeats 1000000 in
theorem cmp_any {w : World} {va vb : Value} {n m : Int} {ka kb : Nat} (ha : Arg w va n ka) (hb : Arg w vb m kb) (hka : ka ≤ 1099511627776) (_hkb : kb ≤ 1099511627776) :
    Calls Tryz.prog 75 #[va, vb] w fun e w' => e = .returned (.int .i64 (sgn n m)) ∧ Below w.heap.size w w' := by
  go_enter Tryz.func75, Tryz.ntmps75
  go_wp2_with fail
  refine (trim_arg ha).mono ?_
  rintro e w' ⟨rfl, ao, xs, rfl, hxk, hxm, hxc, hx, rfl⟩
  go_wp2_with fail
  refine (trim_arg hb).mono ?_
  rintro e w' ⟨rfl, bo, ys, rfl, hyk, hym, hyc, hy, rfl⟩
  clear ha hb
  by_cases hl : xs.length = ys.length
  · have hl1 : ((xs.length : Int) != (ys.length : Int)) = false := by simp [hl]
    have Hl : Hid (xs.length = ys.length) := hl
    clear hl
    go_wp2
    go_loopw [23] (fun i wr => ∃ k : Nat, k ≤ xs.length ∧ i = .int .i64 k ∧ (∀ j, xs.length ≤ j + k → j < xs.length → Nt.lb xs j = Nt.lb ys j) ∧ Below w'.heap.size w' wr) (fun i _ => xs.length - (intOf i).toNat)
    case atStart => exact ⟨0, Nat.zero_le _, rfl, fun j hj h2 => by omega, Below.refl _ _⟩
    case round =>
      obtain ⟨k, hk, rfl, hsame, hbr⟩ := hrel
      have HS : Hid (∀ j, xs.length ≤ j + k → j < xs.length → Nt.lb xs j = Nt.lb ys j) := hsame
      clear hsame
      by_cases hlt : k < xs.length
      · have hlt2 : xs.length - 1 - k < ys.length := by have := Hl.out; omega
        obtain ⟨b1, o1, rfl, _, hc1⟩ := (hxc.below hbr) (by omega)
        obtain ⟨b2, o2, rfl, _, hc2⟩ := (hyc.below hbr) (by omega)
        have g1 := hc1 (xs.length - 1 - k) (by omega)
        have g2 := hc2 (xs.length - 1 - k) hlt2
        clear hc1 hc2 hxc hyc
        by_cases hq : Nt.lb xs (xs.length - 1 - k) = Nt.lb ys (xs.length - 1 - k)
        · have hq' : (Nt.lb xs (xs.length - 1 - k) != Nt.lb ys (xs.length - 1 - k)) = false := by simp [hq]
          have Hq : Hid (Nt.lb xs (xs.length - 1 - k) = Nt.lb ys (xs.length - 1 - k)) := hq
          clear hq
          go_wp2
          go_region
          all_goals go_wp2
          all_goals go_roundw
          all_goals first
            | exact ⟨k + 1, by omega, by go_num, fun j hj h2 => by
                by_cases e : j = xs.length - 1 - k
                · subst e; exact Hq.out
                · exact HS.out j (by omega) h2, by repeat (first | exact hbr | apply Below.drew)⟩
            | (simp [intOf]; omega)
        · have hq' : (Nt.lb xs (xs.length - 1 - k) != Nt.lb ys (xs.length - 1 - k)) = true := by simp [hq]
          have Hq : Hid (¬ Nt.lb xs (xs.length - 1 - k) = Nt.lb ys (xs.length - 1 - k)) := hq
          clear hq
          have hs : sgn (Nt.val xs) (Nt.val ys) = sgn (Nt.lb xs (xs.length - 1 - k)) (Nt.lb ys (xs.length - 1 - k)) := by
            have hll : xs.length = ys.length := Hl.out
            rcases Int.lt_trichotomy (Nt.lb xs (xs.length - 1 - k)) (Nt.lb ys (xs.length - 1 - k)) with h | h | h
            · rw [sgn_lt h, sgn_lt]
              unfold Nt.val
              rw [← hll]
              exact Nt.vt_lt_at hx.1 hy.1 (p := xs.length - 1 - k) (by omega) (fun i a b => HS.out i (by omega) b) h
            · exact absurd h Hq.out
            · rw [sgn_gt h, sgn_gt]
              unfold Nt.val
              rw [← hll]
              exact Nt.vt_lt_at hy.1 hx.1 (p := xs.length - 1 - k) (by omega) (fun i a b => (HS.out i (by omega) b).symm) h
          have HSg : Hid _ := hs
          clear hs
          go_wp2
          go_region
          all_goals go_wp2
          all_goals go_region_with (go_at_call 115; refine (compare_u32 _ _ _).mono ?_; rintro e w2 ⟨rfl, rfl⟩)
          all_goals go_wp2
          all_goals go_ret
          all_goals
            refine ⟨?_, by repeat (first | exact hbr | apply Below.drew)⟩
            rw [HSg.out]
            rfl
      · have hke : k = xs.length := by omega
        subst hke
        go_wp2
        go_ret
        refine ⟨?_, hbr⟩
        rw [sgn_eq]
        · rfl
        · have hll : xs.length = ys.length := Hl.out
          unfold Nt.val
          rw [← hll]
          exact Nt.vt_congr fun i hi => HS.out i (by omega) hi
  · have hl1 : ((xs.length : Int) != (ys.length : Int)) = true := by simp; omega
    have Hl : Hid (¬ xs.length = ys.length) := hl
    clear hl
    have hs : sgn (Nt.val xs) (Nt.val ys) = sgn xs.length ys.length := by
      rcases Nat.lt_trichotomy xs.length ys.length with h | h | h
      · rw [sgn_lt (Nt.canon_lt hx.1 hy h), sgn_lt (by omega)]
      · exact absurd h Hl.out
      · rw [sgn_gt (Nt.canon_lt hy.1 hx h), sgn_gt (by omega)]
    have HSg : Hid _ := hs
    clear hs
    go_wp2_with (go_at_call 114; refine (compare_int _ _ _).mono ?_; rintro e w2 ⟨rfl, rfl⟩)
    go_ret
    refine ⟨?_, Below.refl _ _⟩
    rw [HSg.out]
    rfl

end Go.Proofs.YtinfkoiifemjmaaGreatDoor

namespace Go.Proofs.YtinfkoiifemjmaaGreatDoor
open Go.RowKit

set_option maxHeartbeats 400000 in
theorem at_any (ao : Option Addr) (cap : Nat) (xs : List Int) (k : Nat) (w : World) (hm : xs.length ≤ maxLen) (hc : Cells .i64 w ao xs) :
    Calls Tryz.prog 159 #[.slice ao xs.length cap, .int .i64 k] w fun e w' => e = .returned (.int .i64 (Nt.lb xs k)) ∧ w' = w := by
  unfold maxLen at hm
  by_cases h : k < xs.length
  · obtain ⟨b, off, rfl, hb, hcell⟩ := hc (by omega)
    have hg := hcell k h
    clear hcell hc
    go_enter Tryz.func159, Tryz.ntmps159
    go_wp2
    go_ret
    exact ⟨rfl, rfl⟩
  · have e0 : Nt.lb xs k = 0 := Nt.lb_out (by omega)
    rw [e0]
    clear e0 hc
    go_enter Tryz.func159, Tryz.ntmps159
    go_wp2
    go_ret
    exact ⟨rfl, rfl⟩

set_option maxHeartbeats 400000 in
theorem rnorm_any {w : World} {va : Value} {A : Int} {ka : Nat} (ha : Arg w va A ka) (hka : ka ≤ 1099511627776) :
    Calls Tryz.prog 52 #[va] w fun e w' => ∃ v, e = .returned v ∧ Num w.heap.size w' v A ka ∧ Below w.heap.size w w' := by
  go_enter Tryz.func52, Tryz.ntmps52
  go_wp2_with fail
  refine (bytes_any ha hka).mono ?_
  rintro e w1 ⟨v1, rfl, h1, hb1⟩
  go_wp2_with fail
  refine (limbs_any h1.arg (by omega)).mono ?_
  rintro e w2 ⟨v2, rfl, h2, hb2⟩
  go_wp2
  go_ret
  exact ⟨v2, rfl, (num_since h2 hb1.size).mono (by omega), below_trans hb1 hb2⟩

set_option maxHeartbeats 1000000 in
theorem rfrom_any {w : World} (X : Int) (h0 : 0 ≤ X) (h1 : X < 18446744073709551616) :
    Calls Tryz.prog 29 #[.int .u64 X] w fun e w' => ∃ v, e = .returned v ∧ Num w.heap.size w' v X 2 ∧ Below w.heap.size w w' := by
  go_enter Tryz.func29, Tryz.ntmps29
  go_wp2
  go_loopw [0, 3] (fun sx out wr => ∃ (x : Int) (zs : List Int), sx = .int .u64 x ∧ 0 ≤ x ∧ x ≤ X ∧ zs.length ≤ 8 ∧ x < Nb.pw (8 - zs.length) ∧ Nb.Ok zs ∧ Nb.val zs + x * Nb.pw zs.length = X ∧ wr.ownsRow w.heap.size 3 1 out zs.length (zs.map (Value.int .i64)) ∧ Below w.heap.size w wr)
    (fun sx _ _ => (intOf sx).toNat)
  case atStart => exact ⟨X, [], rfl, h0, Int.le_refl _, by simp, by rw [List.length_nil, show Nb.pw (8 - 0) = 18446744073709551616 by decide]; exact h1, Nb.ok_nil, by simp [Nb.val, Nb.vt, Nb.pw], by simpa using World.ownsRow_nil w w.heap.size 3 1, Below.refl _ _⟩
  case round =>
    obtain ⟨x, zs, rfl, hx0, hxX, hzl, hx1, hzo, hzv, hown, hbr⟩ := hrel
    have Hx1 := hide hx1
    have Hzv := hide hzv
    clear hx1 hzv
    by_cases hp : 0 < x
    · have hlt : zs.length < 8 := by
        by_cases h : zs.length < 8
        · exact h
        · have := Hx1.out
          rw [show 8 - zs.length = 0 by omega] at this
          simp only [Nb.pw] at this
          omega
      have hsz := hbr.size
      go_wp2_with (at_builtin; refine wpList_append_cells _ rfl _ _ 99 rfl w.heap.size 3 .i64 8 Tryz.underlying99 Tryz.infoI64 _ zs.length zs rfl (hown.alloc _) (some ⟨wr.heap.size, 0, none⟩) 1 [x % 256] rfl (cells_one _ _ _ _) (by unfold maxLen; simp; omega) (by simp; omega) (by simp; omega) ?_)
      intro v' w1 hown' hgrow
      have hb1 : Below w.heap.size w w1 := below_own (hbr.alloc hsz _) (by simp; omega) (hown.alloc _) hgrow
      have Hst := hide (byte_step (V := Nb.val zs) (x := x) (P := Nb.pw zs.length))
      have Hown' := hide hown'
      clear hown' hgrow hown
      go_wp2
      go_roundw
      case rel => exact ⟨x / 256, zs ++ [x % 256], rfl, by omega, by omega, by simp; omega, by
        have h := Hx1.out
        rw [show 8 - zs.length = (8 - (zs.length + 1)) + 1 by omega, Nb.pw_succ] at h
        rw [List.length_append, List.length_singleton]
        omega, Nb.ok_snoc hzo (by omega), by
        rw [Nb.val_snoc, List.length_append, List.length_singleton, Nb.pw_succ, Hst.out]; exact Hzv.out, by simpa using Hown'.out, hb1⟩
      case measure => simp [intOf]; omega
    · have hx00 : x = 0 := by omega
      subst hx00
      go_wp2_with fail
      refine (limbs_any (ka := 8) ⟨zs, reads_of_owns hown, hzo, rfl, hzl⟩ (by omega)).mono ?_
      rintro e w2 ⟨v, rfl, hv, hb2⟩
      have hX : Nb.val zs = X := by have := Hzv.out; rw [Int.zero_mul, Int.add_zero] at this; exact this
      rw [hX] at hv
      have Hv := hide hv
      clear hv hX
      go_wp2
      go_ret
      exact ⟨v, rfl, num_since Hv.out hbr.size, hbr.trans (hb2.mono hbr.size)⟩

theorem pb_eight : Nb.pw 8 = 18446744073709551616 := by decide

set_option maxHeartbeats 1000000 in
theorem ruint_yes {w : World} {va : Value} {A : Int} {ka : Nat} (ha : Arg w va A ka) (hka : ka ≤ 1099511627776) (hn : A < 18446744073709551616) :
    Calls Tryz.prog 155 #[va] w fun e w' => e = .returned (.tuple #[.int .u64 A, .bool true]) ∧ Below w.heap.size w w' := by
  go_enter Tryz.func155, Tryz.ntmps155
  go_wp2_with fail
  refine (bytes_any ha hka).mono ?_
  rintro e w1 ⟨v1, rfl, ⟨ys, ⟨ao, cap, rfl, hl, hm, hyc⟩, hy, rfl, hyk⟩, hb1⟩
  have h8 : ¬ (8 : Int) < (ys.length : Int) := by
    by_cases h : ys.length ≤ 8
    · omega
    · have hne : ys ≠ [] := by intro e; subst e; simp at h
      have h1 := Nb.canon_low hy hne
      have h2 := Nb.pw_mono (m := 8) (n := ys.length - 1) (by omega)
      rw [pb_eight] at h2
      omega
  clear ha
  have Hn := hide hn
  clear hn
  go_wp2
  go_loop [5, 6] (fun sx si => ∃ (m : Nat) (x : Int), m ≤ ys.length ∧ si = .int .i64 ((m : Int) - 1) ∧ sx = .int .u64 x ∧ 0 ≤ x ∧ x < 18446744073709551616 ∧ Nb.val ys = Nb.vt ys m + x * Nb.pw m) (fun _ si => (intOf si + 1).toNat)
  case atStart => exact ⟨ys.length, 0, Nat.le_refl _, rfl, rfl, by omega, by omega, by simp [Nb.val]⟩
  case round =>
    obtain ⟨m, x, hml, rfl, rfl, hx0, hx1, heq⟩ := hrel
    have Heq := hide heq
    clear heq
    by_cases hm0 : m = 0
    · subst hm0
      go_wp2
      go_ret2
      have h : Nb.val ys = x := by have h := Heq.out; simp only [Nb.vt, Nb.pw] at h; omega
      rw [h]
      exact ⟨rfl, hb1⟩
    · obtain ⟨p, rfl⟩ : ∃ p, m = p + 1 := ⟨m - 1, by omega⟩
      obtain ⟨b1, o1, rfl, hbb, hc1⟩ := hyc (by omega)
      have g1 := hc1 p (by omega)
      have hpl : p < ys.length := by omega
      obtain ⟨by0, by1⟩ := hy.1 p
      have hnew : Nb.val ys = Nb.vt ys p + (x * 256 + Nt.lb ys p) * Nb.pw p := by
        rw [Heq.out, Nb.vt_succ, Nb.pw_succ, Int.add_mul, Int.mul_assoc]; omega
      have hbd : x * 256 + Nt.lb ys p < 18446744073709551616 := by
        have hp := Nb.pw_pos p
        have hv := (Nb.vt_bounds hy.1 p).1
        have h1 : (x * 256 + Nt.lb ys p) * 1 ≤ (x * 256 + Nt.lb ys p) * Nb.pw p := Int.mul_le_mul_of_nonneg_left (by omega) (by omega)
        have := Hn.out
        omega
      have Hnew := hide hnew
      clear hc1 hnew
      go_wp2
      go_round
      case rel => exact ⟨p, x * 256 + Nt.lb ys p, by omega, rfl, rfl, by omega, hbd, Hnew.out⟩
      case measure => simp [intOf]

end Go.Proofs.YtinfkoiifemjmaaGreatDoor

namespace Go.Proofs.YtinfkoiifemjmaaGreatDoor
open Go.RowKit

theorem p2_8 (n : Nat) : p2 (8 * n) = Nb.pw n := by
  induction n with
  | zero => rfl
  | succ n ih => rw [Nat.mul_succ, p2_add, ih, Nb.pw_succ, show p2 8 = 256 from by decide, Int.mul_comm]

/-- the length of a number by its highest byte -/
theorem isLen_byte {xs : List Int} {k : Nat} (hx : Nb.Canon xs) (hn : 0 < xs.length) (h : IsLen (Nt.lb xs (xs.length - 1)) k) : IsLen (Nb.val xs) (8 * (xs.length - 1) + k) := by
  obtain ⟨n, hl⟩ : ∃ n, xs.length = n + 1 := ⟨xs.length - 1, by omega⟩
  have hne : xs ≠ [] := by intro e; subst e; simp at hn
  have h0 := hx.2 hne
  have hb := hx.1 n
  have hv := Nb.vt_bounds hx.1 n
  rw [hl, Nat.add_sub_cancel] at h h0 ⊢
  have hval : Nb.val xs = Nb.vt xs n + Nt.lb xs n * Nb.pw n := by unfold Nb.val; rw [hl, Nb.vt_succ]
  have hp := Nb.pw_pos n
  have hk := len_pos h (by omega)
  rw [hval]
  refine ⟨?_, fun _ => ?_⟩
  · rw [p2_add, p2_8]
    have : Nb.pw n * (Nt.lb xs n + 1) ≤ Nb.pw n * p2 k := Int.mul_le_mul_of_nonneg_left (by have := h.1; omega) (by omega)
    rw [Int.mul_add, Int.mul_comm] at this
    omega
  · rw [show 8 * n + k - 1 = 8 * n + (k - 1) by omega, p2_add, p2_8]
    have : Nb.pw n * p2 (k - 1) ≤ Nb.pw n * Nt.lb xs n := Int.mul_le_mul_of_nonneg_left (h.2 hk) (by omega)
    rw [Int.mul_comm _ (Nt.lb xs n)] at this
    omega

theorem half_step {T : Int} {j : Nat} (hp : 0 < T / p2 j) : T / p2 j / 2 = T / p2 (j + 1) ∧ p2 (j + 1 - 1) ≤ T := by
  have h2 := p2_pos j
  refine ⟨?_, ?_⟩
  · rw [Int.ediv_ediv_of_nonneg (by omega)]
    congr 1
    simp only [p2]; omega
  · rw [Nat.add_sub_cancel]
    by_cases h : p2 j ≤ T
    · exact h
    · by_cases h0 : 0 ≤ T
      · rw [Int.ediv_eq_zero_of_lt h0 (by omega)] at hp; omega
      · have := Int.ediv_neg_of_neg_of_pos (show T < 0 by omega) h2; omega

set_option maxHeartbeats 1000000 in
theorem rlen_any {w : World} {va : Value} {A : Int} {ka k : Nat} (ha : Arg w va A ka) (hka : ka ≤ 1099511627776) (hk : IsLen A k) :
    Calls Tryz.prog 119 #[va] w fun e w' => e = .returned (.int .i64 k) ∧ Below w.heap.size w w' := by
  have HK := hide hk
  clear hk
  go_enter Tryz.func119, Tryz.ntmps119
  go_wp2_with fail
  refine (bytes_any ha hka).mono ?_
  rintro e w1 ⟨v1, rfl, ⟨ys, ⟨ao, cap, rfl, hl, hm, hyc⟩, hy, rfl, hyk⟩, hb1⟩
  clear ha
  by_cases h0 : ys.length = 0
  · have h0' : ((ys.length : Int) == 0) = true := by simp [h0]
    have hye : ys = [] := List.eq_nil_of_length_eq_zero h0
    clear h0
    go_wp2
    go_ret
    have hk0 : k = 0 := isLen_unique HK.out (by rw [hye]; exact ⟨by decide, fun h => by omega⟩)
    rw [hk0]
    exact ⟨rfl, hb1⟩
  · have h0' : ((ys.length : Int) == 0) = false := by simp; intro e; subst e; simp at h0
    obtain ⟨b, off, rfl, hb, hcell⟩ := hyc (by omega)
    have hg := hcell (ys.length - 1) (by omega)
    have hp : (1 : Int) ≤ (ys.length : Int) := by omega
    obtain ⟨bx0, bx1⟩ := hy.1 (ys.length - 1)
    obtain ⟨T, hT⟩ : ∃ T, Nt.lb ys (ys.length - 1) = T := ⟨_, rfl⟩
    rw [hT] at hg bx0 bx1
    have HT := hide hT
    clear hcell hyc hT
    go_wp2
    go_loop [4, 5] (fun sn st => ∃ (j : Nat) (t : Int), sn = .int .i64 (8 * ((ys.length : Int) - 1) + j) ∧ st = .int .i64 t ∧ 0 ≤ t ∧ t < 256 ∧ t = T / p2 j ∧ (0 < j → p2 (j - 1) ≤ T) ∧ j ≤ 8) (fun _ st => (intOf st).toNat)
    case atStart => exact ⟨0, T, by simp, rfl, bx0, bx1, by simp [p2], fun h => by omega, by omega⟩
    case round =>
      obtain ⟨j, t, rfl, rfl, ht0, ht1, ht, hj, hj8⟩ := hrel
      have Ht := hide ht
      have Hj := hide hj
      clear ht hj
      by_cases hp0 : 0 < t
      · have hs := half_step (T := T) (j := j) (by rw [← Ht.out]; exact hp0)
        have hj9 : j + 1 ≤ 8 := by
          by_cases h : j + 1 ≤ 8
          · exact h
          · have h1 := hs.2
            have h2 := p2_mono (m := 8) (n := j + 1 - 1) (by omega)
            rw [show p2 8 = 256 by decide] at h2
            omega
        have Hs := hide hs
        clear hs
        go_wp2
        go_round
        case rel => exact ⟨j + 1, t / 2, by go_num, rfl, by omega, by omega, by rw [Ht.out]; exact Hs.out.1, fun _ => Hs.out.2, hj9⟩
        case measure => simp [intOf]; omega
      · have ht00 : t = 0 := by omega
        have hlt : T < p2 j := by
          have h := Ht.out
          rw [ht00] at h
          have h2 := p2_pos j
          have h3 := Int.mul_ediv_add_emod T (p2 j)
          have h4 := Int.emod_lt_of_pos T h2
          rw [← h, Int.mul_zero] at h3
          omega
        have hfin := isLen_byte hy (by omega) (k := j) (by rw [HT.out]; exact ⟨hlt, Hj.out⟩)
        have hke : k = 8 * (ys.length - 1) + j := isLen_unique HK.out hfin
        have Hke := hide hke
        clear hfin hlt hke
        go_wp2
        go_ret
        refine ⟨ret_int ?_, hb1⟩
        have := Hke.out
        omega

set_option maxHeartbeats 1000000 in
theorem rcmp_any {w : World} {va vb : Value} {n m : Int} {ka kb : Nat} (ha : Arg w va n ka) (hb : Arg w vb m kb) (hka : ka ≤ 1099511627776) (hkb : kb ≤ 1099511627776) :
    Calls Tryz.prog 181 #[va, vb] w fun e w' => e = .returned (.int .i64 (sgn n m)) ∧ Below w.heap.size w w' := by
  go_enter Tryz.func181, Tryz.ntmps181
  go_wp2_with fail
  refine (bytes_any ha hka).mono ?_
  rintro e w1 ⟨v1, rfl, ⟨xs, ⟨ao, ca, rfl, hxl, hxm, hxc⟩, hx, rfl, hxk⟩, hb1⟩
  go_wp2_with fail
  refine (bytes_any (hb.below hb1) hkb).mono ?_
  rintro e w2 ⟨v2, rfl, ⟨ys, ⟨bo, cb, rfl, hyl, hym, hyc⟩, hy, rfl, hyk⟩, hb2⟩
  replace hxc := hxc.below hb2
  have hbb := below_trans hb1 hb2
  clear ha hb hb1 hb2
  by_cases hl : xs.length = ys.length
  · have hl1 : ((xs.length : Int) != (ys.length : Int)) = false := by simp [hl]
    have Hl := hide hl
    clear hl
    go_wp2
    go_loopw [7] (fun si wr => ∃ j : Nat, j ≤ xs.length ∧ si = .int .i64 ((j : Int) - 1) ∧ (∀ i, j ≤ i → i < xs.length → Nt.lb xs i = Nt.lb ys i) ∧ Below w2.heap.size w2 wr) (fun si _ => (intOf si + 1).toNat)
    case atStart => exact ⟨xs.length, Nat.le_refl _, rfl, fun i h1 h2 => by omega, Below.refl _ _⟩
    case round =>
      obtain ⟨j, hj, rfl, hsame, hbr⟩ := hrel
      have HS := hide hsame
      clear hsame
      by_cases hj0 : j = 0
      · subst hj0
        go_wp2
        go_ret
        refine ⟨?_, hbb.trans (hbr.mono hbb.size)⟩
        rw [sgn_eq]
        · rfl
        · unfold Nb.val
          rw [← Hl.out]
          exact Nb.vt_congr fun i hi => HS.out i (by omega) hi
      · obtain ⟨p, rfl⟩ : ∃ p, j = p + 1 := ⟨j - 1, by omega⟩
        have hpx : p < xs.length := by omega
        have hpy : p < ys.length := by have := Hl.out; omega
        obtain ⟨b1, o1, rfl, _, hc1⟩ := (hxc.below hbr) (by omega)
        obtain ⟨b2, o2, rfl, _, hc2⟩ := (hyc.below hbr) (by omega)
        have g1 := hc1 p hpx
        have g2 := hc2 p hpy
        clear hc1 hc2 hxc hyc
        rcases Int.lt_trichotomy (Nt.lb xs p) (Nt.lb ys p) with h | h | h
        · have hq' : (Nt.lb xs p != Nt.lb ys p) = true := by simp; omega
          have hs := hide (sgn_lt (by unfold Nb.val; rw [← Hl.out]; exact Nb.vt_lt_at hx.1 hy.1 (p := p) hpx (fun i a b => HS.out i (by omega) b) h : Nb.val xs < Nb.val ys))
          go_wp2
          go_region
          all_goals go_wp2
          all_goals go_region
          all_goals go_wp2
          all_goals go_ret
          all_goals
            refine ⟨?_, hbb.trans (Below.mono (by repeat (first | exact hbr | apply Below.drew)) hbb.size)⟩
            rw [hs.out]
            rfl
        · have hq' : (Nt.lb xs p != Nt.lb ys p) = false := by simp [h]
          have Hq := hide h
          clear h
          go_wp2
          go_region
          all_goals go_wp2
          all_goals go_roundw
          all_goals first
            | exact ⟨p, by omega, rfl, fun i h1 h2 => by
                by_cases e : i = p
                · subst e; exact Hq.out
                · exact HS.out i (by omega) h2, by repeat (first | exact hbr | apply Below.drew)⟩
            | simp [intOf]
        · have hq' : (Nt.lb xs p != Nt.lb ys p) = true := by simp; omega
          have h' : ¬ Nt.lb xs p < Nt.lb ys p := by omega
          have hs := hide (sgn_gt (by unfold Nb.val; rw [← Hl.out]; exact Nb.vt_lt_at hy.1 hx.1 (p := p) hpx (fun i a b => (HS.out i (by omega) b).symm) h : Nb.val ys < Nb.val xs))
          go_wp2
          go_region
          all_goals go_wp2
          all_goals go_region
          all_goals go_wp2
          all_goals go_ret
          all_goals
            refine ⟨?_, hbb.trans (Below.mono (by repeat (first | exact hbr | apply Below.drew)) hbb.size)⟩
            rw [hs.out]
            rfl
  · have hl1 : ((xs.length : Int) != (ys.length : Int)) = true := by simp; omega
    by_cases hlt : xs.length < ys.length
    · have hs := hide (sgn_lt (Nb.canon_lt hx.1 hy hlt))
      go_wp2
      go_ret
      refine ⟨?_, hbb⟩
      rw [hs.out]
      rfl
    · have hs := hide (sgn_gt (Nb.canon_lt hy.1 hx (by omega)))
      have hlt' : ¬ (xs.length : Int) < (ys.length : Int) := by omega
      go_wp2
      go_ret
      refine ⟨?_, hbb⟩
      rw [hs.out]
      rfl

end Go.Proofs.YtinfkoiifemjmaaGreatDoor

namespace Go.Proofs.YtinfkoiifemjmaaGreatDoor
open Go.RowKit

theorem p2_cast (n : Nat) : p2 n = ((2 ^ n : Nat) : Int) := by rw [p2_pow]; simp
theorem p2_split {n : Nat} (hn : n ≤ 32) : p2 n * p2 (32 - n) = 4294967296 := by
  rw [← p2_add, show n + (32 - n) = 32 by omega]; decide

/-- the product of a limb with a power: what stays, what goes on -/
theorem shl_parts {x : Int} {P Q : Int} (hP : 0 < P) (hQ : 0 < Q) (hPQ : P * Q = 4294967296) : x * P % 4294967296 = (x % Q) * P ∧ x * P / 4294967296 = x / Q := by
  have h1 : x * P = (x % Q) * P + 4294967296 * (x / Q) := by
    have e := Int.emod_add_mul_ediv x Q
    have e2 : (x % Q + Q * (x / Q)) * P = x * P := by rw [e]
    rw [Int.add_mul] at e2
    rw [← hPQ, ← e2, Int.mul_comm P Q, Int.mul_assoc, Int.mul_assoc, Int.mul_comm P]
  have h2 : 0 ≤ (x % Q) * P := Int.mul_nonneg (Int.emod_nonneg _ (by omega)) (by omega)
  have h3 : (x % Q) * P < 4294967296 := by
    have : (x % Q + 1) * P ≤ Q * P := Int.mul_le_mul_of_nonneg_right (by have := Int.emod_lt_of_pos x hQ; omega) (by omega)
    rw [Int.add_mul, Int.mul_comm Q P, hPQ] at this
    omega
  have := (Int.ediv_emod_unique (a := x * P) (b := 4294967296) (r := (x % Q) * P) (q := x / Q) (by decide)).2 ⟨h1.symm, h2, h3⟩
  exact ⟨this.2, this.1⟩

/-- bits that do not meet are added -/
theorem or_add {n : Nat} {a c : Int} (ha : 0 ≤ a) (hc0 : 0 ≤ c) (hc1 : c < p2 n) (hlt : a * p2 n + c < 4294967296) : bits .or .u32 (a * p2 n) c = a * p2 n + c ∧ bits .or .u32 c (a * p2 n) = a * p2 n + c := by
  obtain ⟨A, rfl⟩ := Int.eq_ofNat_of_zero_le ha
  obtain ⟨C, rfl⟩ := Int.eq_ofNat_of_zero_le hc0
  rw [p2_cast] at *
  have e : ((A : Int) * ((2 ^ n : Nat) : Int)) = ((A * 2 ^ n : Nat) : Int) := by simp
  rw [e] at hlt ⊢
  have hA : 0 ≤ A * 2 ^ n := Nat.zero_le _
  have hj := nat_join n (A * 2 ^ n) C (Nat.mul_mod_left _ _) (by omega)
  rw [u32_or_nat _ _ (by omega) (by omega), u32_or_nat _ _ (by omega) (by omega), Nat.or_comm C, hj]
  omega

theorem raise_digit {x c : Int} {n : Nat} (hn : n < 32) (hx0 : 0 ≤ x) (hx1 : x < 4294967296) (hc0 : 0 ≤ c) (hc1 : c < p2 n) :
    (0 ≤ bits .or .u32 (x * 2 ^ n % 4294967296) c ∧ bits .or .u32 (x * 2 ^ n % 4294967296) c < 4294967296) ∧ (0 ≤ x / 2 ^ (32 - n) ∧ x / 2 ^ (32 - n) < p2 n) ∧
      bits .or .u32 (x * 2 ^ n % 4294967296) c + (x / 2 ^ (32 - n)) * 4294967296 = x * p2 n + c := by
  rw [← p2_pow, ← p2_pow]
  have hP := p2_pos n
  have hQ := p2_pos (32 - n)
  have hPQ := p2_split (n := n) (by omega)
  obtain ⟨h1, h2⟩ := shl_parts (x := x) hP hQ hPQ
  rw [h1]
  have hr0 := Int.emod_nonneg x (b := p2 (32 - n)) (by omega)
  have hr1 := Int.emod_lt_of_pos x hQ
  have hlt : x % p2 (32 - n) * p2 n + c < 4294967296 := by
    have : (x % p2 (32 - n) + 1) * p2 n ≤ p2 (32 - n) * p2 n := Int.mul_le_mul_of_nonneg_right (by omega) (by omega)
    rw [Int.add_mul, Int.mul_comm (p2 (32 - n)) (p2 n), hPQ] at this
    omega
  have hnn : 0 ≤ x % p2 (32 - n) * p2 n := Int.mul_nonneg hr0 (by omega)
  rw [(or_add hr0 hc0 hc1 hlt).1]
  refine ⟨⟨by omega, hlt⟩, ⟨Int.ediv_nonneg hx0 (by omega), Int.ediv_lt_of_lt_mul hQ (by rw [hPQ]; exact hx1)⟩, ?_⟩
  have e := Int.emod_add_mul_ediv (x * p2 n) 4294967296
  rw [h1, h2] at e
  omega

theorem raise_step {os zs : List Int} {off k : Nat} {q D q' P : Int} (hk : off + k < zs.length) (hd : D + q' * 4294967296 = Nt.lb os (off + k) * P + q)
    (h : Nt.vt zs (off + k) + q * Nt.pw (off + k) = Nt.vt os off + P * (Nt.vt os (off + k) - Nt.vt os off)) :
    Nt.vt (zs.set (off + k) D) (off + (k + 1)) + q' * Nt.pw (off + (k + 1)) = Nt.vt os off + P * (Nt.vt os (off + (k + 1)) - Nt.vt os off) := by
  rw [← Nat.add_assoc, Nt.vt_succ, Nt.vt_set (Nat.le_refl _), Nt.lb_set_eq hk, Nt.vt_succ, Nt.pw_succ]
  have e2 : (D + q' * 4294967296) * Nt.pw (off + k) = (Nt.lb os (off + k) * P + q) * Nt.pw (off + k) := by rw [hd]
  rw [Int.add_mul, Int.add_mul, Int.mul_assoc q'] at e2
  rw [Int.mul_sub] at h
  rw [Int.mul_sub, Int.mul_add]
  rw [← Int.mul_assoc P, Int.mul_comm P (Nt.lb os (off + k))]
  omega

set_option maxHeartbeats 1000000 in
theorem raise_any {w0 w : World} {ro : Option Addr} {rc g off n L : Nat} {os : List Int} (hb : Below w0.heap.size w0 w) (hg : w0.heap.size ≤ g) (hn : n < 32) (hL : L ≤ 2199023255552)
    (hr : Row .u32 96 w g os) (hoo : Nt.Ok os) (hfit : off + L ≤ os.length) (hro : 0 < L → ro = some ⟨g, off, none⟩) :
    Calls Tryz.prog 109 #[.slice ro L rc, .int .u64 n] w fun e w' => ∃ (c : Int) (zs : List Int), e = .returned (.tuple #[]) ∧ zs.length = os.length ∧ Nt.Ok zs ∧
      (∀ j, j < off ∨ off + L ≤ j → Nt.lb zs j = Nt.lb os j) ∧ Nt.vt zs (off + L) + c * Nt.pw (off + L) = Nt.vt os off + p2 n * (Nt.vt os (off + L) - Nt.vt os off) ∧ (0 < L → c = Nt.lb os (off + L - 1) / p2 (32 - n)) ∧ Row .u32 96 w' g zs ∧ Below w0.heap.size w0 w' := by
  go_enter Tryz.func109, Tryz.ntmps109
  go_wp2
  go_loopw [4, 9] (fun c i wr => ∃ (k : Nat) (q : Int) (zs : List Int), k ≤ L ∧ i = .int .i64 k ∧ c = .int .u32 q ∧ 0 ≤ q ∧ q < p2 n ∧ zs.length = os.length ∧ Nt.Ok zs ∧ (∀ j, j < off ∨ off + k ≤ j → Nt.lb zs j = Nt.lb os j) ∧
      Row .u32 96 wr g zs ∧ Below w0.heap.size w0 wr ∧ Nt.vt zs (off + k) + q * Nt.pw (off + k) = Nt.vt os off + p2 n * (Nt.vt os (off + k) - Nt.vt os off) ∧ (0 < k → q = Nt.lb os (off + k - 1) / p2 (32 - n))) (fun _ i _ => L - (intOf i).toNat)
  case atStart => exact ⟨0, 0, os, by omega, rfl, rfl, by omega, p2_pos n, rfl, hoo, fun _ _ => rfl, hr, hb, by simp, fun h => by omega⟩
  case round =>
    obtain ⟨k, q, zs, hk, rfl, rfl, hq0, hq1, hzl, hzo, hsame, hrow, hbr, heq, hqe⟩ := hrel
    have Heq := hide heq
    have Hzl := hide hzl
    have Hs := hide hsame
    have Hq := hide hq1
    have Hqe := hide hqe
    clear heq hzl hsame hr hb hqe hq1
    by_cases hkl : k < L
    · have hR := hro (by omega)
      subst hR
      have g2 := hrow.cell (i := off + k) (by have := Hzl.out; omega)
      have hfz := hrow.frozen (off + k)
      obtain ⟨bz0, bz1⟩ := hzo (off + k)
      have hn32 : (n : Int) < 32 := by omega
      obtain ⟨⟨d0, d1⟩, ⟨c0, c1⟩, hd⟩ := raise_digit hn bz0 bz1 hq0 Hq.out
      have Hd0 := hide d0
      have Hd1 := hide d1
      have Hc0 := hide c0
      have Hc1 := hide c1
      have Hd := hide hd
      clear d0 d1 c0 c1 hd
      go_wp2
      go_roundw
      case rel => exact ⟨k + 1, Nt.lb zs (off + k) / 2 ^ (32 - n), zs.set (off + k) (bits BinOp.or IntKind.u32 (Nt.lb zs (off + k) * 2 ^ n % 4294967296) q), by omega, by go_num, rfl, Hc0.out, Hc1.out, by have := Hzl.out; simp [this], Nt.ok_set hzo ⟨Hd0.out, Hd1.out⟩, fun j hj => by
        rw [Nt.lb_set_ne (by omega)]; exact Hs.out j (by omega), hrow.set _ _, hbr.setCell (p := ⟨g, off + k, none⟩) hg _, raise_step (by have := Hzl.out; omega) (by have := Hd.out; rw [← Hs.out (off + k) (by omega)]; exact this) Heq.out, fun _ => by
        rw [p2_pow, show off + (k + 1) - 1 = off + k by omega, ← Hs.out (off + k) (by omega)]⟩
      case measure => simp [intOf]; omega
    · have hke : k = L := by omega
      subst hke
      go_wp2
      go_end0
      exact ⟨q, zs, rfl, Hzl.out, hzo, Hs.out, Heq.out, Hqe.out, hrow, hbr⟩

/-- a limb cut, with what came from above -/
theorem lower_digit {x r : Int} {n : Nat} (hn : n < 32) (hx0 : 0 ≤ x) (hx1 : x < 4294967296) (hr0 : 0 ≤ r) (hr1 : r < p2 n) :
    (0 ≤ bits .or .u32 (x / 2 ^ n) (r * p2 (32 - n)) ∧ bits .or .u32 (x / 2 ^ n) (r * p2 (32 - n)) < 4294967296) ∧ bits .or .u32 (x / 2 ^ n) (r * p2 (32 - n)) = x / p2 n + r * p2 (32 - n) ∧ x * 2 ^ (32 - n) % 4294967296 = (x % p2 n) * p2 (32 - n) := by
  rw [← p2_pow, ← p2_pow]
  have hP := p2_pos n
  have hQ := p2_pos (32 - n)
  have hPQ := p2_split (n := n) (by omega)
  obtain ⟨h1, _⟩ := shl_parts (x := x) hQ hP (by rw [Int.mul_comm]; exact hPQ)
  have q0 : 0 ≤ x / p2 n := Int.ediv_nonneg hx0 (by omega)
  have q1 : x / p2 n < p2 (32 - n) := Int.ediv_lt_of_lt_mul hP (by rw [Int.mul_comm, hPQ]; exact hx1)
  have hlt : r * p2 (32 - n) + x / p2 n < 4294967296 := by
    have : (r + 1) * p2 (32 - n) ≤ p2 n * p2 (32 - n) := Int.mul_le_mul_of_nonneg_right (by omega) (by omega)
    rw [Int.add_mul, hPQ] at this
    omega
  have hnn : 0 ≤ r * p2 (32 - n) := Int.mul_nonneg hr0 (by omega)
  have ho := (or_add (n := 32 - n) hr0 q0 q1 hlt).2
  rw [ho]
  exact ⟨⟨by omega, hlt⟩, by omega, h1⟩

theorem vt_set_gen {zs : List Int} {i : Nat} (hi : i < zs.length) (q : Int) (n : Nat) (hn : i < n) : Nt.vt (zs.set i q) n = Nt.vt zs n + (q - Nt.lb zs i) * Nt.pw i := by
  induction n with
  | zero => omega
  | succ n ih =>
    rw [Nt.vt_succ, Nt.vt_succ]
    by_cases e : i = n
    · subst e; rw [Nt.vt_set (Nat.le_refl _), Nt.lb_set_eq hi, Int.sub_mul]; omega
    · rw [Nt.lb_set_ne e, ih (by omega)]; omega

theorem lower_step {os zs : List Int} {p : Nat} {D r r' P Q : Int} (hp : p < zs.length) (hPQ : P * Q = 4294967296) (hD : D = Nt.lb os p / P + r * Q) (hr' : r' = Nt.lb os p % P)
    (h : (Nt.val zs - Nt.vt zs (p + 1)) * P + r * Nt.pw (p + 1) = Nt.val os - Nt.vt os (p + 1)) :
    (Nt.val (zs.set p D) - Nt.vt (zs.set p D) p) * P + r' * Nt.pw p = Nt.val os - Nt.vt os p := by
  have e0 : Nt.val (zs.set p D) = Nt.val zs + (D - Nt.lb zs p) * Nt.pw p := by
    unfold Nt.val; rw [List.length_set]; exact vt_set_gen hp D _ hp
  rw [e0, Nt.vt_set (Nat.le_refl _)]
  rw [Nt.vt_succ, Nt.vt_succ, Nt.pw_succ] at h
  have e := Int.emod_add_mul_ediv (Nt.lb os p) P
  rw [← hr'] at e
  have e1 : D * P + r' = Nt.lb os p + r * 4294967296 := by
    rw [hD, Int.add_mul, Int.mul_assoc, Int.mul_comm Q P, hPQ, Int.mul_comm (_ / _) P]; omega
  have e2 : (D * P + r') * Nt.pw p = (Nt.lb os p + r * 4294967296) * Nt.pw p := by rw [e1]
  rw [Int.add_mul, Int.add_mul, Int.mul_assoc r] at e2
  have e3 : (Nt.val zs + (D - Nt.lb zs p) * Nt.pw p - Nt.vt zs p) * P = (Nt.val zs - (Nt.vt zs p + Nt.lb zs p * Nt.pw p)) * P + D * P * Nt.pw p := by
    rw [Int.sub_mul D, Int.mul_right_comm D, ← Int.add_mul]
    congr 1
    omega
  rw [e3]
  omega

set_option maxHeartbeats 1000000 in
theorem lower_any {w0 w : World} {g n cap : Nat} {os : List Int} (hb : Below w0.heap.size w0 w) (hg : w0.heap.size ≤ g) (hn : n < 32) (hL : os.length ≤ 1099511627776)
    (hr : Row .u32 96 w g os) (hoo : Nt.Ok os) :
    Calls Tryz.prog 178 #[.slice (some ⟨g, 0, none⟩) os.length cap, .int .u64 n] w fun e w' => ∃ (r : Int) (zs : List Int), e = .returned (.int .u32 (r * p2 (32 - n))) ∧ 0 ≤ r ∧ r < p2 n ∧ zs.length = os.length ∧ Nt.Ok zs ∧
      Nt.val zs * p2 n + r = Nt.val os ∧ Row .u32 96 w' g zs ∧ Below w0.heap.size w0 w' := by
  go_enter Tryz.func178, Tryz.ntmps178
  go_wp2
  go_loopw [5, 11] (fun c i wr => ∃ (k : Nat) (r : Int) (zs : List Int), k ≤ os.length ∧ i = .int .i64 k ∧ c = .int .u32 (r * p2 (32 - n)) ∧ 0 ≤ r ∧ r < p2 n ∧ zs.length = os.length ∧ Nt.Ok zs ∧ (∀ j, j < os.length - k → Nt.lb zs j = Nt.lb os j) ∧
      Row .u32 96 wr g zs ∧ Below w0.heap.size w0 wr ∧ (Nt.val zs - Nt.vt zs (os.length - k)) * p2 n + r * Nt.pw (os.length - k) = Nt.val os - Nt.vt os (os.length - k)) (fun _ i _ => os.length - (intOf i).toNat)
  case atStart => exact ⟨0, 0, os, by omega, rfl, by simp, by omega, p2_pos n, rfl, hoo, fun _ _ => rfl, hr, hb, by simp [Nt.val]⟩
  case round =>
    obtain ⟨k, r, zs, hk, rfl, rfl, hr0, hr1, hzl, hzo, hsame, hrow, hbr, heq⟩ := hrel
    have Heq := hide heq
    have Hzl := hide hzl
    have Hs := hide hsame
    have Hr0 := hide hr0
    have Hr1 := hide hr1
    clear heq hzl hsame hr hb hr0 hr1
    by_cases hkl : k < os.length
    · have g2 := hrow.cell (i := os.length - 1 - k) (by have := Hzl.out; omega)
      have hfz := hrow.frozen (os.length - 1 - k)
      obtain ⟨bz0, bz1⟩ := hzo (os.length - 1 - k)
      have hn32 : (n : Int) < 32 := by omega
      obtain ⟨⟨d0, d1⟩, hd, hc⟩ := lower_digit hn bz0 bz1 Hr0.out Hr1.out
      have Hd0 := hide d0
      have Hd1 := hide d1
      have Hd := hide hd
      have Hc := hide hc
      have hzp := hide (Hs.out (os.length - 1 - k) (by omega))
      clear d0 d1 hd hc
      go_wp2
      go_roundw
      case rel =>
        refine ⟨k + 1, Nt.lb zs (os.length - 1 - k) % p2 n, zs.set (os.length - 1 - k) (bits BinOp.or IntKind.u32 (Nt.lb zs (os.length - 1 - k) / 2 ^ n) (r * p2 (32 - n))), by omega, by go_num, by rw [Hc.out], Int.emod_nonneg _ (by have := p2_pos n; omega), Int.emod_lt_of_pos _ (p2_pos n), by have := Hzl.out; simp [this], Nt.ok_set hzo ⟨Hd0.out, Hd1.out⟩, fun j hj => by
          rw [Nt.lb_set_ne (by omega)]; exact Hs.out j (by omega), hrow.set _ _, hbr.setCell (p := ⟨g, os.length - 1 - k, none⟩) hg _, ?_⟩
        rw [show os.length - (k + 1) = os.length - 1 - k by omega]
        exact lower_step (Q := p2 (32 - n)) (r := r) (by have := Hzl.out; omega) (p2_split (by omega)) (by rw [Hd.out, hzp.out]) (by rw [hzp.out]) (by rw [show os.length - 1 - k + 1 = os.length - k by omega]; exact Heq.out)
      case measure => simp [intOf]; omega
    · have hke : k = os.length := by omega
      subst hke
      go_wp2
      go_ret
      refine ⟨r, zs, rfl, Hr0.out, Hr1.out, Hzl.out, hzo, ?_, hrow, hbr⟩
      have := Heq.out
      rw [Nat.sub_self] at this
      simp only [Nt.vt, Nt.pw, Int.sub_zero, Int.mul_one] at this
      exact this

end Go.Proofs.YtinfkoiifemjmaaGreatDoor

namespace Go.Proofs.YtinfkoiifemjmaaGreatDoor
open Go.RowKit

set_option maxHeartbeats 2000000 in
theorem into_any {w : World} {ro bo : Option Addr} {rc bc g off L : Nat} {bs os : List Int} (hr : Row .u32 96 w g os) (hoo : Nt.Ok os) (hoff : off + L = os.length) (hol : os.length ≤ 2199023255552)
    (hro : 0 < L → ro = some ⟨g, off, none⟩) (hbl : bs.length ≤ bc) (hbm : bc ≤ maxLen) (hbc : Cells .u32 w bo bs) (hbo : Nt.Ok bs) (haw : 0 < bs.length → Away g bo)
    (hfit : Nt.val os + Nt.val bs * Nt.pw off < Nt.pw os.length) :
    Calls Tryz.prog 112 #[.slice ro L rc, .slice bo bs.length bc] w fun e w' => ∃ zs : List Int, e = .returned (.tuple #[]) ∧ zs.length = os.length ∧ Nt.Ok zs ∧
      Nt.val zs = Nt.val os + Nt.val bs * Nt.pw off ∧ Row .u32 96 w' g zs ∧ Only g w w' := by
  go_enter Tryz.func112, Tryz.ntmps112
  go_wp2_with fail
  refine (trim_any bo bc bs w hbl hbm hbc hbo).mono ?_
  rintro e w' ⟨rfl, n, hn, rfl, hcn, hv⟩
  have hfits := Nt.into_fits (off := off) (n := os.length) hcn hv (Nt.val_nonneg hoo) hfit (by omega)
  have hct := hbc.take hn
  have hat : 0 < (bs.take n).length → Away g bo := fun h => haw (by rw [List.length_take] at h; omega)
  have hlt : (bs.take n).length = n := by rw [List.length_take, Nat.min_eq_left hn]
  rw [← hv] at hfit
  have HV := hide hv
  generalize bs.take n = ys at *
  have HY := hide hlt
  have Hfit := hide hfit
  rw [hlt] at hfits
  have hnm : n ≤ 2199023255552 := by omega
  clear hv hbc hbo haw hfit hn hbl hlt
  go_wp2
  go_loopw [4, 11] (fun c i wr => ∃ (k : Nat) (q : Int) (zs : List Int), k ≤ n ∧ i = .int .i64 k ∧ c = .int .u32 q ∧ 0 ≤ q ∧ q ≤ 1 ∧ zs.length = os.length ∧ Nt.Ok zs ∧ (∀ j, off + k ≤ j → Nt.lb zs j = Nt.lb os j) ∧
      Row .u32 96 wr g zs ∧ Only g w' wr ∧ Nt.vt zs (off + k) + q * Nt.pw (off + k) = Nt.vt os (off + k) + Nt.vt ys k * Nt.pw off) (fun _ i _ => n - (intOf i).toNat)
  case atStart => exact ⟨0, 0, os, by omega, rfl, rfl, by omega, by omega, rfl, hoo, fun _ _ => rfl, hr, Only.refl _ _, by simp [Nt.vt]⟩
  case round =>
    obtain ⟨k, q, zs, hk, rfl, rfl, hq0, hq1, hzl, hzo, hsame, hrow, hbr, heq⟩ := hrel
    have Heq := hide heq
    have Hzl := hide hzl
    have Hs := hide hsame
    clear heq hzl hsame hr
    by_cases hkl : k < n
    · have hR := hro (by omega)
      subst hR
      obtain ⟨b1, o1, rfl, _, hc1⟩ := (hbr.cells hct hat) (by rw [HY.out]; omega)
      have g1 := hc1 k (by rw [HY.out]; omega)
      have g2 := hrow.cell (i := off + k) (by have := Hzl.out; omega)
      have hfz := hrow.frozen (off + k)
      have byk := hcn.1 k
      have bzk := hzo (off + k)
      clear hc1
      go_wp2
      go_region_with (go_at_call 142; refine (add32_any _ _ _ _ bzk byk ⟨hq0, hq1⟩).mono ?_; rintro e w3 ⟨rfl, rfl⟩)
      all_goals go_wp2
      all_goals go_roundw
      all_goals first
        | exact ⟨k + 1, (Nt.lb zs (off + k) + Nt.lb ys k + q) / 4294967296, zs.set (off + k) ((Nt.lb zs (off + k) + Nt.lb ys k + q) % 4294967296), by omega, by go_num, rfl, by omega, by omega, by have := Hzl.out; simp [this], Nt.ok_set hzo (by omega), fun j hj => by
            rw [Nt.lb_set_ne (by omega)]; exact Hs.out j (by omega), hrow.set _ _, hbr.drew.set _ _, Nt.into_step (by have := Hzl.out; omega) (Hs.out _ (by omega)) Heq.out⟩
        | (simp [intOf]; omega)
    · have hke : k = n := by omega
      have Hke := hide hke
      have e0 : Nt.vt zs (off + n) + q * Nt.pw (off + n) = Nt.vt os (off + n) + Nt.val ys * Nt.pw off := by
        have h := Heq.out
        rw [hke, Nt.vt_out (xs := ys) (by rw [HY.out]; omega)] at h
        exact h
      have HE := hide e0
      have HS0 : Hid (∀ j, off + n ≤ j → Nt.lb zs j = Nt.lb os j) := by
        have h := Hs.out
        rw [hke] at h
        exact h
      clear e0 Heq Hs hke
      go_wp2
      go_loopw [4, 6] (fun c i wr => ∃ (k : Nat) (q : Int) (zs : List Int), n ≤ k ∧ off + k ≤ os.length ∧ i = .int .i64 k ∧ c = .int .u32 q ∧ 0 ≤ q ∧ q ≤ 1 ∧ zs.length = os.length ∧ Nt.Ok zs ∧ (∀ j, off + k ≤ j → Nt.lb zs j = Nt.lb os j) ∧
        Row .u32 96 wr g zs ∧ Only g w' wr ∧ Nt.vt zs (off + k) + q * Nt.pw (off + k) = Nt.vt os (off + k) + Nt.vt ys k * Nt.pw off) (fun _ i _ => os.length - (intOf i).toNat)
      case atStart => exact ⟨n, q, zs, by omega, by omega, rfl, rfl, hq0, hq1, Hzl.out, hzo, HS0.out, hrow, hbr, by rw [Nt.vt_out (xs := ys) (by rw [HY.out]; omega)]; exact HE.out⟩
      case round =>
        clear HE HS0 hrow hbr hzo hq0 hq1 Hzl hk hkl Hke
        obtain ⟨k, q, zs, hnk, hko, rfl, rfl, hq0, hq1, hzl, hzo, hsame, hrow, hbr, heq⟩ := hrel
        rw [Nt.vt_out (xs := ys) (n := k) (by rw [HY.out]; omega)] at heq
        have Heq := hide heq
        have Hzl := hide hzl
        have Hs := hide hsame
        clear heq hzl hsame
        by_cases hq : q = 0
        · have hfin : Nt.val zs = Nt.val os + Nt.val ys * Nt.pw off := by
            have h1 := Nt.vt_tail (zs := zs) (os := os) Hs.out os.length hko
            have h2 := Heq.out
            have h3 := Hzl.out
            rw [hq] at h2
            unfold Nt.val at h2 ⊢
            rw [h3]
            omega
          have Hf := hide hfin
          have hq' : (q == 0) = true := by simp [hq]
          clear hfin Heq hq
          go_wp2
          go_end0
          exact ⟨zs, rfl, Hzl.out, hzo, by rw [← HV.out]; exact Hf.out, hrow, hbr⟩
        · have hlt : off + k < os.length := by
            rcases Nat.lt_or_ge (off + k) os.length with h | h
            · exact h
            · exfalso
              have h1 : off + k = os.length := by omega
              have h2 := Heq.out
              rw [h1, show q = 1 by omega] at h2
              exact Nt.into_no_carry hzo h2 Hfit.out
          have hR := hro (by omega)
          subst hR
          have g2 := hrow.cell (i := off + k) (by have := Hzl.out; omega)
          have hfz := hrow.frozen (off + k)
          have bzk := hzo (off + k)
          have hq' : (q == 0) = false := by simp [hq]
          have hkL : (k : Int) < (L : Int) := by omega
          go_wp2_with fail
          refine (add32_any _ _ _ _ bzk (by omega) ⟨hq0, hq1⟩).mono ?_
          rintro e w3 ⟨rfl, rfl⟩
          have hst := Nt.into_step (ys := ys) (zs := zs) (os := os) (off := off) (k := k) (c := q) (by have := Hzl.out; omega) (Hs.out _ (by omega)) (by rw [Nt.vt_out (xs := ys) (n := k) (by rw [HY.out]; omega)]; exact Heq.out)
          rw [Nt.lb_out (xs := ys) (i := k) (by rw [HY.out]; omega), Int.add_zero] at hst
          have Hst := hide hst
          clear hst
          go_wp2
          go_roundw
          case rel => exact ⟨k + 1, (Nt.lb zs (off + k) + q) / 4294967296, zs.set (off + k) ((Nt.lb zs (off + k) + q) % 4294967296), by omega, by omega, by go_num, rfl, by omega, by omega, by have := Hzl.out; simp [this], Nt.ok_set hzo (by omega), fun j hj => by
            rw [Nt.lb_set_ne (by omega)]; exact Hs.out j (by omega), hrow.set _ _, hbr.set _ _, Hst.out⟩
          case measure => simp [intOf]; omega

end Go.Proofs.YtinfkoiifemjmaaGreatDoor

namespace Go.Proofs.YtinfkoiifemjmaaGreatDoor
open Go.RowKit

/-- one round of a difference -/
theorem sub_step {xs ys zs : List Int} {k : Nat} {c : Int} (hk : k < zs.length)
    (h : Nt.vt zs k - c * Nt.pw k = Nt.vt xs k - Nt.vt ys k) :
    Nt.vt (zs.set k ((Nt.lb xs k - Nt.lb ys k - c) % 4294967296)) (k + 1) - (-((Nt.lb xs k - Nt.lb ys k - c) / 4294967296)) * Nt.pw (k + 1) = Nt.vt xs (k + 1) - Nt.vt ys (k + 1) := by
  rw [Nt.vt_succ, Nt.vt_set (Nat.le_refl _), Nt.lb_set_eq hk, Nt.vt_succ, Nt.vt_succ, Nt.pw_succ]
  have e : (Nt.lb xs k - Nt.lb ys k - c) % 4294967296 + 4294967296 * ((Nt.lb xs k - Nt.lb ys k - c) / 4294967296) = Nt.lb xs k - Nt.lb ys k - c := Int.emod_add_mul_ediv _ _
  generalize (Nt.lb xs k - Nt.lb ys k - c) % 4294967296 = r at *
  generalize (Nt.lb xs k - Nt.lb ys k - c) / 4294967296 = q at *
  have e2 : (r + 4294967296 * q) * Nt.pw k = (Nt.lb xs k - Nt.lb ys k - c) * Nt.pw k := by rw [e]
  rw [Int.add_mul, Int.sub_mul, Int.sub_mul, Int.mul_assoc] at e2
  rw [Int.neg_mul, Int.mul_left_comm q]
  generalize r * Nt.pw k = a1 at *
  generalize Nt.lb xs k * Nt.pw k = a2 at *
  generalize Nt.lb ys k * Nt.pw k = a3 at *
  generalize c * Nt.pw k = a4 at *
  generalize q * Nt.pw k = a5 at *
  omega

theorem arg_of_cells {w : World} {ao : Option Addr} {xs : List Int} (hm : xs.length ≤ maxLen) (hc : Cells .u32 w ao xs) (ho : Nt.Ok xs) : Arg w (.slice ao xs.length xs.length) (Nt.val xs) xs.length :=
  ⟨xs, ⟨ao, _, rfl, Nat.le_refl _, hm, hc⟩, ho, rfl, Nat.le_refl _⟩

set_option maxHeartbeats 2000000 in
theorem sub_yes {w : World} {va vb : Value} {n m : Int} {ka kb : Nat} (ha : Arg w va n ka) (hb : Arg w vb m kb) (hka : ka ≤ 1099511627776) (hkb : kb ≤ 1099511627776) (hge : m ≤ n) :
    Calls Tryz.prog 143 #[va, vb] w fun e w' => ∃ v, e = .returned (.tuple #[v, .bool true]) ∧ Num w.heap.size w' v (n - m) ka ∧ Below w.heap.size w w' := by
  go_enter Tryz.func143, Tryz.ntmps143
  go_wp2_with fail
  refine (trim_arg ha).mono ?_
  rintro e w' ⟨rfl, ao, xs, rfl, hxk, hxm, hxc, hx, rfl⟩
  go_wp2_with fail
  refine (trim_arg hb).mono ?_
  rintro e w' ⟨rfl, bo, ys, rfl, hyk, hym, hyc, hy, rfl⟩
  clear ha hb
  have hs : 0 ≤ sgn (Nt.val xs) (Nt.val ys) := by unfold sgn; rw [if_neg (by omega)]; split <;> omega
  have c := cmp_any (arg_of_cells hxm hxc hx.1) (arg_of_cells hym hyc hy.1) (by omega) (by omega)
  have hll : ys.length ≤ xs.length := by
    by_cases h : xs.length < ys.length
    · have := Nt.canon_lt hx.1 hy h; omega
    · omega
  go_wp2_with fail
  refine c.mono ?_
  clear c
  rintro e w2 ⟨rfl, hbel⟩
  go_wp2_with (at_make; refine wpList_make_row _ rfl _ _ 61 rfl 96 .u32 4 Tryz.underlying61 Tryz.infoU32 _ _ _ _ xs.length xs.length rfl rfl (by omega) (by omega) (Nat.le_refl _) (by omega) (by unfold maxLen; omega) ?_)
  intro w1 hr hbel1 hsz
  have hBs := hbel.size
  have hbel2 : Below w'.heap.size w' w1 := hbel.trans (hbel1.mono hBs)
  clear hs
  have Hge : Hid (Nt.val ys ≤ Nt.val xs) := hge
  clear hge
  go_wp2
  go_loopw [7, 22] (fun c i wr => ∃ (k : Nat) (q : Int) (zs : List Int), k ≤ xs.length ∧ i = .int .i64 k ∧ c = .int .u32 q ∧ 0 ≤ q ∧ q ≤ 1 ∧ zs.length = xs.length ∧ Nt.Ok zs ∧ Row .u32 96 wr w2.heap.size zs ∧ Below w'.heap.size w' wr ∧ Nt.vt zs k - q * Nt.pw k = Nt.vt xs k - Nt.vt ys k) (fun _ i _ => xs.length - (intOf i).toNat)
  case atStart => exact ⟨0, 0, List.replicate xs.length 0, by omega, rfl, rfl, by omega, by omega, by simp, Nt.ok_replicate _, hr, hbel2, by simp [Nt.vt]⟩
  case round =>
    obtain ⟨k, q, zs, hk, rfl, rfl, hq0, hq1, hzl, hzo, hrow, hbr, heq⟩ := hrel
    have Heq : Hid (Nt.vt zs k - q * Nt.pw k = Nt.vt xs k - Nt.vt ys k) := heq
    have Hzl : Hid (zs.length = xs.length) := hzl
    have hcx : Cells .u32 wr ao xs := hxc.below hbr
    have hcy : Cells .u32 wr bo ys := hyc.below hbr
    clear heq hzl hr hbel1 hbel2
    by_cases hkl : k < xs.length
    · have bx := hx.1 k
      have by' := hy.1 k
      have hfz := hrow.frozen k
      have hcl := hrow.cell (i := k) (by have := Hzl.out; omega)
      obtain ⟨b1, o1, rfl, _, hc1⟩ := hcx (by omega)
      have g1 := hc1 k hkl
      clear hc1 hcx hxc
      go_wp2
      go_region_with (first | (go_at_call 153; refine (limb_any bo ys.length ys k _ hym (by exact hcy)).mono ?_; rintro e w3 ⟨rfl, rfl⟩) | (go_at_call 175; refine (sub32_any _ _ _ _ bx by' ⟨hq0, hq1⟩).mono ?_; rintro e w3 ⟨rfl, rfl⟩))
      all_goals go_wp2
      all_goals go_roundw
      all_goals first
        | exact ⟨k + 1, -((Nt.lb xs k - Nt.lb ys k - q) / 4294967296), zs.set k ((Nt.lb xs k - Nt.lb ys k - q) % 4294967296), by omega, by go_num, rfl, by omega, by omega, by have := Hzl.out; simp [this], Nt.ok_set hzo (by omega), hrow.set _ _, (hbr.setCell (p := ⟨w2.heap.size, k, none⟩) hBs _).drew, sub_step (by have := Hzl.out; omega) Heq.out⟩
        | (simp [intOf]; omega)
    · have hke : k = xs.length := by omega
      subst hke
      have hz2 : zs.length = xs.length := Hzl.out
      have hfin : Nt.val zs = Nt.val xs - Nt.val ys := by
        have h1 := Heq.out
        have h2 := Hge.out
        rw [Nt.vt_out (xs := xs) (by omega), Nt.vt_out (xs := ys) (by omega), Nt.vt_out (xs := zs) (by omega)] at h1
        have h3 := Nt.val_lt hzo
        rw [hz2] at h3
        have : q = 0 ∨ q = 1 := by omega
        rcases this with rfl | rfl
        · omega
        · omega
      have ht := trim_row (B := w'.heap.size) (cap := zs.length) hrow hBs (Nat.le_refl _) (by rw [hz2]; unfold maxLen; omega) hzo
      rw [hz2, hfin] at ht
      clear hz2
      have Hfin : Hid _ := hfin
      clear hfin Heq
      go_wp2_with fail
      refine ht.mono ?_
      rintro e w3 ⟨rfl, v, rfl, hnum⟩
      go_wp2
      go_ret2
      exact ⟨_, rfl, hnum.mono hxk, hbr⟩

end Go.Proofs.YtinfkoiifemjmaaGreatDoor

namespace Go.Proofs.YtinfkoiifemjmaaGreatDoor
set_option linter.unusedVariables false

theorem half_scale {q P v c : Int} (hc : 0 < c) (h : Half q P v) : Half q (P * c) (v * c) := by
  obtain ⟨h1, h2, h3, h4⟩ := h
  have e1 : 2 * q * (P * c) - P * c = (2 * q * P - P) * c := by rw [Int.sub_mul, Int.mul_assoc (2 * q) P c]
  have e2 : 2 * q * (P * c) + P * c = (2 * q * P + P) * c := by rw [Int.add_mul, Int.mul_assoc (2 * q) P c]
  unfold Half
  rw [e1, e2]
  refine ⟨Int.mul_le_mul_of_nonneg_right h1 (by omega), Int.mul_le_mul_of_nonneg_right h2 (by omega), fun e => h3 (Int.eq_of_mul_eq_mul_right (by omega) e), fun e => h4 (Int.eq_of_mul_eq_mul_right (by omega) e)⟩
theorem half_exact {q T : Int} (hT : 0 < T) : Half q T (2 * q * T) := ⟨by omega, by omega, fun e => by omega, fun e => by omega⟩
/-- what the rounding of the cut number says of the number itself -/
theorem near_of {F L I A mb st e q t lim : Int} {fr size d : Nat} (hfr : F = p2 fr) (fr1 : 1 ≤ fr) (fr2 : fr ≤ 52) (hI : I = (lim + 1 - fr - L) * F) (hlim : L ≤ lim - 1 - fr)
    (hlen : IsLen A size) (hA : 0 ≤ A) (hmb : mb = 0 ∨ mb = 1) (hz : ¬ (size = 0 ∧ mb = 0)) (he : e + size ≤ lim) (hd : d = size - 62)
    (hst : (st = 0 ∧ A % p2 d = 0 ∧ mb = 0) ∨ (st = 1 ∧ ¬ (A % p2 d = 0 ∧ mb = 0))) (ht : t = max (e + size - 1 - fr) L)
    (hq1 : t ≤ e + d - 1 → q = (2 * (A / p2 d) + st) * p2 (e + d - 1 - t).toNat) (hq2 : e + d - 1 < t → Half q (p2 (t - (e + d - 1)).toNat) (2 * (2 * (A / p2 d) + st))) (q0 : 0 ≤ q) :
    q ≤ 2 * F ∧ (t = L ∨ F ≤ q) ∧ q + (t - L) * F ≤ I ∧ Near F L I (2 * A + mb) (e - 1) (q + (t - L) * F) := by
  have hF0 : 0 < F := by rw [hfr]; exact p2_pos fr
  have tL : L ≤ t := by omega
  -- the rounding of the cut number, in steps of 2^B
  have hcut : ∀ B, B ≤ e - 1 → B ≤ L → Half q (p2 (t - B).toNat) (2 * (2 * (A / p2 d) + st) * p2 (e + d - 1 - B).toNat) := by
    intro B hB hBL
    have hu := p2_pos (e + d - 1 - B).toNat
    rcases Int.lt_or_le (e + d - 1) t with c | c
    · have h := half_scale hu (hq2 c)
      rw [← p2_toNat_add (by omega) (by omega), show t - (e + d - 1) + (e + d - 1 - B) = t - B by omega] at h
      exact h
    · have hT := p2_pos (t - B).toNat
      have := half_exact (q := q) hT
      rw [show 2 * q * p2 (t - B).toNat = 2 * (2 * (A / p2 d) + st) * p2 (e + d - 1 - B).toNat by
        rw [hq1 c, show e + d - 1 - B = (e + d - 1 - t) + (t - B) by omega, p2_toNat_add (by omega) (by omega), ← Int.mul_assoc, ← Int.mul_assoc]] at this
      exact this
  -- that of the number itself
  have hhalf : ∀ B, B ≤ e - 1 → B ≤ L → Half q (p2 (t - B).toNat) (2 * sc (2 * A + mb) (e - 1) B) := by
    intro B hB hBL
    have hc := hcut B hB hBL
    unfold sc
    rcases Nat.eq_zero_or_pos d with c | c
    · have e0 : p2 d = 1 := by rw [c]; rfl
      rw [e0, Int.ediv_one] at hc
      have hs : st = mb := by
        rw [e0, Int.emod_one] at hst
        rcases hst with ⟨h1, _, h2⟩ | ⟨h1, h2⟩ <;> omega
      rw [hs, show e + (d : Int) - 1 - B = e - 1 - B by omega, Int.mul_assoc] at hc
      exact hc
    · have hD := p2_pos d
      have hu := p2_pos (e - 1 - B).toNat
      have eT : p2 (e + d - 1 - B).toNat = p2 d * p2 (e - 1 - B).toNat := by
        rw [show e + (d : Int) - 1 - B = (d : Int) + (e - 1 - B) by omega, p2_toNat_add (by omega) (by omega), Int.toNat_natCast]
      have gap : 10 ≤ t - (e + d - 1) := by omega
      have eTT : p2 (t - B).toNat = p2 (t - (e + d - 1) - 2).toNat * (4 * p2 d * p2 (e - 1 - B).toNat) := by
        rw [show t - B = (t - (e + d - 1) - 2) + (2 + (e + d - 1 - B)) by omega, p2_toNat_add (by omega) (by omega), p2_toNat_add (by omega) (by omega), eT, show p2 (2 : Int).toNat = 4 from rfl, Int.mul_assoc 4]
      rw [eT] at hc
      generalize p2 (t - (e + d - 1) - 2).toNat = kk at eTT
      generalize p2 (e - 1 - B).toNat = u at *
      have hr0 := Int.emod_nonneg A (b := p2 d) (by omega)
      have hr1 := Int.emod_lt_of_pos A hD
      have hdm := Int.mul_ediv_add_emod A (p2 d)
      generalize A % p2 d = rest at *
      generalize A / p2 d = top at *
      generalize p2 d = D at *
      have hDu : 0 < D * u := Int.mul_pos hD hu
      have v1 : 2 * (2 * top + st) * (D * u) = top * (4 * D * u) + 2 * st * (D * u) := by grind
      have v2 : 2 * ((2 * A + mb) * u) = top * (4 * D * u) + 2 * (2 * rest + mb) * u := by rw [← hdm]; grind
      rw [v1] at hc
      rw [v2]
      have z1 : 4 * D * u = 4 * (D * u) := Int.mul_assoc 4 D u
      refine half_sticky (Z := 4 * D * u) (by omega) eTT ?_ ?_ ?_ ?_ ?_ hc
      · exact Int.mul_nonneg (by omega) (by omega)
      · have h1 : (2 * (2 * rest + mb)) * u < (4 * D) * u := Int.mul_lt_mul_of_pos_right (by omega) hu
        exact h1
      · exact Int.mul_nonneg (by omega) (by omega)
      · have h1 : (2 * st) * (D * u) < 4 * (D * u) := Int.mul_lt_mul_of_pos_right (by omega) hDu
        omega
      · constructor
        · intro h
          have h1 : 2 * (2 * rest + mb) = 0 := by
            rcases Int.mul_eq_zero.1 h with h | h
            · exact h
            · omega
          have : st = 0 := by rcases hst with ⟨h2, _⟩ | ⟨_, h2⟩ <;> omega
          rw [this]; simp
        · intro h
          have h1 : 2 * st = 0 := by
            rcases Int.mul_eq_zero.1 h with h | h
            · exact h
            · omega
          have h2 : 2 * (2 * rest + mb) = 0 := by rcases hst with ⟨h2, h3, h4⟩ | ⟨h2, h3⟩ <;> omega
          rw [h2, Int.zero_mul]
  -- the number lies between two powers
  have hnum1 : 2 * A + mb < 2 * p2 size := by have := hlen.1; omega
  have hnum0 : p2 size ≤ 2 * A + mb := by
    rcases Nat.eq_zero_or_pos size with c | c
    · subst c
      simp only [p2]
      omega
    · have := hlen.2 c
      obtain ⟨n, rfl⟩ : ∃ n, size = n + 1 := ⟨size - 1, by omega⟩
      rw [Nat.add_sub_cancel] at this
      simp only [p2]
      omega
  have hlow : L < t → ∀ B, B ≤ e - 1 → B ≤ L → 2 * F * p2 (t - B).toNat ≤ 2 * sc (2 * A + mb) (e - 1) B := by
    intro hl B hB hBL
    have ht' : t = e + size - 1 - fr := by omega
    unfold sc
    have h1 : 2 * F * p2 (t - B).toNat = 2 * (p2 size * p2 (e - 1 - B).toNat) := by
      rw [hfr, Int.mul_assoc, show p2 fr = p2 ((fr : Int)).toNat by rw [Int.toNat_natCast], ← p2_toNat_add (by omega) (by omega), show p2 size = p2 ((size : Int)).toNat by rw [Int.toNat_natCast], ← p2_toNat_add (by omega) (by omega)]
      congr 3
      omega
    rw [h1]
    have hu := p2_pos (e - 1 - B).toNat
    have := Int.mul_le_mul_of_nonneg_right hnum0 (c := p2 (e - 1 - B).toNat) (by omega)
    omega
  have hB1 : min (e - 1) L ≤ e - 1 := by omega
  have hB2 : min (e - 1) L ≤ L := by omega
  have hh := hhalf (min (e - 1) L) hB1 hB2
  have hT := p2_pos (t - min (e - 1) L).toNat
  have hup : 2 * sc (2 * A + mb) (e - 1) (min (e - 1) L) < 4 * F * p2 (t - min (e - 1) L).toNat := by
    unfold sc
    have hu := p2_pos (e - 1 - min (e - 1) L).toNat
    have h1 : (2 * A + mb) * p2 (e - 1 - min (e - 1) L).toNat < 2 * p2 size * p2 (e - 1 - min (e - 1) L).toNat := Int.mul_lt_mul_of_pos_right hnum1 hu
    have h2 : 2 * p2 size * p2 (e - 1 - min (e - 1) L).toNat = p2 (size + 1 + (e - 1 - min (e - 1) L)).toNat := by
      rw [show ((size : Int) + 1 + (e - 1 - min (e - 1) L)) = ((size + 1 : Nat) : Int) + (e - 1 - min (e - 1) L) by omega, p2_toNat_add (by omega) (by omega), Int.toNat_natCast, p2]
    have h3 : 4 * F * p2 (t - min (e - 1) L).toNat = 2 * p2 (fr + 1 + (t - min (e - 1) L)).toNat := by
      rw [show ((fr : Int) + 1 + (t - min (e - 1) L)) = ((fr + 1 : Nat) : Int) + (t - min (e - 1) L) by omega, p2_toNat_add (by omega) (by omega), Int.toNat_natCast, p2, hfr, show (4 : Int) * p2 fr = 2 * (2 * p2 fr) by omega, Int.mul_assoc 2]
    have h4 := p2_mono (m := (size + 1 + (e - 1 - min (e - 1) L)).toNat) (n := (fr + 1 + (t - min (e - 1) L)).toNat) (by omega)
    rw [h3]
    rw [h2] at h1
    omega
  have hq2F : q ≤ 2 * F := by
    rcases Int.lt_or_le (2 * F) q with c | c
    · have h1 := hh.1
      have h2 : (2 * F + 1) * (2 * p2 (t - min (e - 1) L).toNat) ≤ q * (2 * p2 (t - min (e - 1) L).toNat) := Int.mul_le_mul_of_nonneg_right (by omega) (by omega)
      generalize p2 (t - min (e - 1) L).toNat = T at *
      have e1 : q * (2 * T) = 2 * q * T := by grind
      have e2 : (2 * F + 1) * (2 * T) = 4 * F * T + 2 * T := by grind
      omega
    · exact c
  have hqF : t = L ∨ F ≤ q := by
    rcases Int.lt_or_eq_of_le tL with c | c
    · right
      have h1 := hlow c _ hB1 hB2
      have h2 := hh.2.1
      rcases Int.lt_or_le q F with c2 | c2
      · have h3 : q * (2 * p2 (t - min (e - 1) L).toNat) ≤ (F - 1) * (2 * p2 (t - min (e - 1) L).toNat) := Int.mul_le_mul_of_nonneg_right (by omega) (by omega)
        generalize p2 (t - min (e - 1) L).toNat = T at *
        have e1 : q * (2 * T) = 2 * q * T := by grind
        have e2 : (F - 1) * (2 * T) = 2 * F * T - 2 * T := by grind
        omega
      · exact c2
    · left; exact c.symm
  have hrI : q + (t - L) * F ≤ I := by
    have h1 : (t - L) * F ≤ (lim - 1 - fr - L) * F := Int.mul_le_mul_of_nonneg_right (by omega) (by omega)
    have h2 : (lim + 1 - fr - L) * F = (lim - 1 - fr - L) * F + 2 * F := by rw [show lim + 1 - fr - L = (lim - 1 - fr - L) + 2 by omega, Int.add_mul]
    omega
  refine ⟨hq2F, hqF, hrI, near_pattern hF0 ?_ tL q0 hq2F hqF hrI hhalf hlow⟩
  rw [hfr]
  obtain ⟨n, rfl⟩ : ∃ n, fr = n + 1 := ⟨fr - 1, by omega⟩
  rw [p2]
  omega
/-- nothing, or far too little -/
theorem near_low {F L I A mb e : Int} {size : Nat} (hF : 1 < F) (hI : 0 < I) (hA : 0 ≤ A) (hlen : IsLen A size) (hmb : mb = 0 ∨ mb = 1) (h : (size = 0 ∧ mb = 0) ∨ e < L - size) : Near F L I (2 * A + mb) (e - 1) 0 := by
  refine ⟨by omega, by omega, fun B hB hBL => ⟨fun _ => ?_, fun h => by omega⟩⟩
  have e0 : um F L B 0 = 0 := by unfold um sc mst; rw [if_pos (by omega), Int.zero_mul]
  have e1 : um F L B (0 + 1) = p2 (L - B).toNat := by rw [um_succ (by omega) (by omega) hBL, e0, Int.zero_add]; unfold est; rw [if_pos (by omega)]
  rw [e0, e1, Int.zero_add]
  have hT := p2_pos (L - B).toNat
  unfold sc
  rcases h with ⟨h1, h2⟩ | h
  · subst h1
    have := hlen.1
    simp only [p2] at this
    have hz : 2 * A + mb = 0 := by omega
    rw [hz, Int.zero_mul, Int.mul_zero]
    exact ⟨by omega, fun e => by omega⟩
  · have hnum1 : 2 * A + mb < 2 * p2 size := by have := hlen.1; omega
    have hu := p2_pos (e - 1 - B).toNat
    have h1 : (2 * A + mb) * p2 (e - 1 - B).toNat < 2 * p2 size * p2 (e - 1 - B).toNat := Int.mul_lt_mul_of_pos_right hnum1 hu
    have h2 : 2 * (2 * p2 size * p2 (e - 1 - B).toNat) = p2 (size + 2 + (e - 1 - B)).toNat := by
      rw [show ((size : Int) + 2 + (e - 1 - B)) = ((size + 2 : Nat) : Int) + (e - 1 - B) by omega, p2_toNat_add (by omega) (by omega), Int.toNat_natCast, p2, p2, ← Int.mul_assoc]
    have h4 := p2_mono (m := (size + 2 + (e - 1 - B)).toNat) (n := (L - B).toNat) (by omega)
    exact ⟨by omega, fun e => by omega⟩
/-- far too great -/
theorem near_high {F L I A mb e lim : Int} {fr size : Nat} (hfr : F = p2 fr) (hI : I = (lim + 1 - fr - L) * F) (hlim : L ≤ lim - 1 - fr) (hA : 0 ≤ A) (hlen : IsLen A size) (hmb : mb = 0 ∨ mb = 1) (hz : ¬ (size = 0 ∧ mb = 0)) (h : lim - size < e) : Near F L I (2 * A + mb) (e - 1) I := by
  have hF0 : 0 < F := by rw [hfr]; exact p2_pos fr
  have hI0 : 2 * F ≤ I := by
    have h1 : 2 * F ≤ (lim + 1 - fr - L) * F := Int.mul_le_mul_of_nonneg_right (by omega) (by omega)
    omega
  refine ⟨by omega, by omega, fun B hB hBL => ⟨fun h => by omega, fun _ => ?_⟩⟩
  have hIq : I = F * (lim + 1 - fr - L) := by rw [hI, Int.mul_comm]
  have eI : um F L B I = p2 (lim - B).toNat := by
    unfold um sc mst est
    rw [if_neg (by omega), if_neg (by omega), hIq, Int.mul_emod_right, Int.mul_ediv_cancel_left _ (by omega), Int.zero_add, hfr, show L - 1 + (lim + 1 - fr - L) - B = lim - fr - B by omega, show p2 fr = p2 ((fr : Int)).toNat by rw [Int.toNat_natCast], ← p2_toNat_add (by omega) (by omega)]
    congr 2
    omega
  have hs := um_lt (F := F) (L := L) (B := B) (s := I - 1) hF0 (by omega) hBL
  rw [Int.sub_add_cancel, eI] at hs
  rw [eI]
  have hnum0 : p2 size ≤ 2 * A + mb := by
    rcases Nat.eq_zero_or_pos size with c | c
    · subst c
      simp only [p2]
      omega
    · have := hlen.2 c
      obtain ⟨n, rfl⟩ : ∃ n, size = n + 1 := ⟨size - 1, by omega⟩
      rw [Nat.add_sub_cancel] at this
      simp only [p2]
      omega
  unfold sc
  have hu := p2_pos (e - 1 - B).toNat
  have h1 := Int.mul_le_mul_of_nonneg_right hnum0 (c := p2 (e - 1 - B).toNat) (by omega)
  have h2 : p2 size * p2 (e - 1 - B).toNat = p2 (size + (e - 1 - B)).toNat := by rw [p2_toNat_add (by omega) (by omega), Int.toNat_natCast]
  have h4 := p2_mono (m := (lim - B).toNat) (n := (size + (e - 1 - B)).toNat) (by omega)
  exact ⟨by omega, fun e => by omega⟩

end Go.Proofs.YtinfkoiifemjmaaGreatDoor

namespace Go.Proofs.YtinfkoiifemjmaaGreatDoor

/-- noughts at the end, cut off -/
theorem canon_exists (xs : List Int) (ho : Nt.Ok xs) : ∃ k, k ≤ xs.length ∧ Nt.Canon (xs.take k) ∧ Nt.val (xs.take k) = Nt.val xs := by
  have key : ∀ n, n ≤ xs.length → (∀ i, n ≤ i → i < xs.length → Nt.lb xs i = 0) → ∃ k, k ≤ xs.length ∧ Nt.Canon (xs.take k) ∧ Nt.val (xs.take k) = Nt.val xs := by
    intro n
    induction n with
    | zero =>
      intro _ hz
      refine ⟨0, by omega, by simpa using Nt.canon_nil, ?_⟩
      rw [Nt.val_take (by omega), ← Nt.vt_cut (xs := xs) (k := 0) (n := xs.length) (by omega) (fun i h1 h2 => hz i h1 h2)]
      rfl
    | succ n ih =>
      intro hn hz
      by_cases h : Nt.lb xs n = 0
      · exact ih (by omega) fun i h1 h2 => by
          by_cases e : i = n
          · subst e; exact h
          · exact hz i (by omega) h2
      · refine ⟨n + 1, hn, Nt.canon_take ho hn (fun _ => by rw [Nat.add_sub_cancel]; exact h), ?_⟩
        rw [Nt.val_take hn, ← Nt.vt_cut (xs := xs) (k := n + 1) (n := xs.length) hn (fun i h1 h2 => hz i h1 h2)]
        rfl
  exact key xs.length (Nat.le_refl _) (fun i h1 h2 => by omega)

/-- how many limbs, by the bits -/
theorem limbs_of_len {zs : List Int} {k : Nat} (hc : Nt.Canon zs) (h : IsLen (Nt.val zs) k) : (k + 31) / 32 = zs.length := by
  by_cases hz : zs = []
  · subst hz
    have h0 : ¬ 0 < k := fun hk => by
      have h1 := h.2 hk
      have h2 := p2_pos (k - 1)
      rw [Nt.val_nil] at h1
      omega
    simp; omega
  · have h1 := Nt.canon_low hc hz
    have h2 := Nt.val_lt hc.1
    have hp := List.length_pos_iff.2 hz
    have h3 : 32 * (zs.length - 1) < k := by
      rcases Nat.lt_or_ge (32 * (zs.length - 1)) k with e | e
      · exact e
      · have h4 := p2_mono e
        rw [p2_32] at h4
        have h5 := h.1
        omega
    have h6 : k ≤ 32 * zs.length := by
      rcases Nat.lt_or_ge (32 * zs.length) k with e | e
      · have h7 := h.2 (by omega)
        have h8 := p2_mono (m := 32 * zs.length) (n := k - 1) (by omega)
        rw [p2_32] at h8
        omega
      · exact e
    omega

theorem div_parts {n m P Q R : Int} (hP : 0 < P) (hR0 : 0 ≤ R) (hR : R < m * P) (h : n * P = R + m * P * Q) (hm : 0 < m) : Q = n / m ∧ R / P = n % m ∧ R % P = 0 := by
  have e : R = (n - m * Q) * P := by grind
  have h1 : 0 ≤ n - m * Q := by
    rcases Int.lt_or_le (n - m * Q) 0 with h2 | h2
    · have := Int.mul_lt_mul_of_pos_right h2 hP; omega
    · exact h2
  have h2 : n - m * Q < m := by
    apply Nt.lt_of_mul_lt hP
    rw [← e]; exact hR
  have e2 : n = (n - m * Q) + m * Q := by omega
  have hq : n / m = Q := by
    rw [e2, Int.add_mul_ediv_left _ _ (by omega), Int.ediv_eq_zero_of_lt h1 h2]; omega
  have hr : n % m = n - m * Q := by
    have := Int.emod_add_mul_ediv n m
    rw [hq] at this; omega
  refine ⟨hq.symm, ?_, ?_⟩
  · rw [e, Int.mul_ediv_cancel _ (by omega), hr]
  · rw [e]; exact Int.mul_emod_left _ _

/-- raised by the bits that its highest limb lacks, a number has as many limbs as before -/
theorem raised_fits {ys : List Int} {k : Nat} (hc : Nt.Canon ys) (hp : 0 < ys.length) (h : IsLen (Nt.lb ys (ys.length - 1)) k) (hk : k ≤ 32) : Nt.val ys * p2 (32 - k) < Nt.pw ys.length := by
  have h1 := (isLen_top hc hp h).1
  have h2 : Nt.val ys * p2 (32 - k) < p2 ((ys.length - 1) * 32 + k) * p2 (32 - k) := Int.mul_lt_mul_of_pos_right h1 (p2_pos _)
  rw [← p2_add] at h2
  rw [← p2_32, show 32 * ys.length = (ys.length - 1) * 32 + k + (32 - k) by omega]
  exact h2

end Go.Proofs.YtinfkoiifemjmaaGreatDoor

namespace Go.Proofs.YtinfkoiifemjmaaGreatDoor
open Go.RowKit

theorem prod_bd2 {x y : Int} (hx : 0 ≤ x ∧ x < 4294967296) (hy : 0 ≤ y ∧ y < 4294967296) : 0 ≤ y * x ∧ y * x ≤ 18446744065119617025 := by
  refine ⟨Int.mul_nonneg hy.1 hx.1, ?_⟩
  have h1 : y * x ≤ 4294967295 * x := Int.mul_le_mul_of_nonneg_right (by omega) hx.1
  omega
theorem xor_ones (n : Nat) (h : n < 4294967296) : 4294967295 ^^^ n = 4294967295 - n := by
  have e : (BitVec.allOnes 32 ^^^ BitVec.ofNat 32 n).toNat = (~~~ BitVec.ofNat 32 n).toNat := by rw [BitVec.allOnes_xor]
  rw [BitVec.toNat_xor, BitVec.toNat_not, BitVec.toNat_allOnes, BitVec.toNat_ofNat, Nat.mod_eq_of_lt (by omega)] at e
  simpa using e
theorem not32 {y : Int} (h0 : 0 ≤ y) (h1 : y < 4294967296) : bits BinOp.xor IntKind.u32 (if IntKind.u32.signed = true then -1 else IntKind.u32.max) y = 4294967295 - y := by
  obtain ⟨n, rfl⟩ := Int.eq_ofNat_of_zero_le h0
  have e : (if IntKind.u32.signed = true then (-1 : Int) else IntKind.u32.max) = ((4294967295 : Nat) : Int) := by decide
  rw [e, u32_xor_nat _ _ (by omega) (by omega), xor_ones n (by omega)]
  omega

set_option maxHeartbeats 2000000 in
theorem lessen_any {w : World} {ro bo : Option Addr} {rc bc g off L : Nat} {vs os : List Int} {x : Int} (hr : Row .u32 96 w g os) (hoo : Nt.Ok os) (hL : vs.length = L) (hfit : off + L ≤ os.length) (hro : 0 < L → ro = some ⟨g, off, none⟩)
    (hvc : Cells .u32 w bo vs) (hvo : Nt.Ok vs) (haw : 0 < vs.length → Away g bo) (hm : L ≤ 2199023255552) (hx : 0 ≤ x ∧ x < 4294967296) :
    Calls Tryz.prog 188 #[.slice ro L rc, .slice bo L bc, .int .u64 x] w fun e w' => ∃ (c : Int) (zs : List Int), e = .returned (.int .u32 c) ∧ 0 ≤ c ∧ c < 4294967296 ∧ zs.length = os.length ∧ Nt.Ok zs ∧
      (∀ j, j < off ∨ off + L ≤ j → Nt.lb zs j = Nt.lb os j) ∧ Nt.vt zs (off + L) - c * Nt.pw (off + L) = Nt.vt os (off + L) - x * Nt.val vs * Nt.pw off ∧ Row .u32 96 w' g zs ∧ Only g w w' := by
  obtain ⟨hx0, hx1⟩ := hx
  have HL := hide hL
  clear hL
  go_enter Tryz.func188, Tryz.ntmps188
  go_wp2
  go_loopw [7, 11] (fun c i wr => ∃ (k : Nat) (q : Int) (zs : List Int), k ≤ L ∧ i = .int .i64 k ∧ c = .int .u64 q ∧ 0 ≤ q ∧ q < 4294967296 ∧ zs.length = os.length ∧ Nt.Ok zs ∧ (∀ j, j < off ∨ off + k ≤ j → Nt.lb zs j = Nt.lb os j) ∧
      Row .u32 96 wr g zs ∧ Only g w wr ∧ Nt.vt zs (off + k) - q * Nt.pw (off + k) = Nt.vt os (off + k) - x * Nt.vt vs k * Nt.pw off) (fun _ i _ => L - (intOf i).toNat)
  case atStart => exact ⟨0, 0, os, by omega, rfl, rfl, by omega, by omega, rfl, hoo, fun _ _ => rfl, hr, Only.refl _ _, by simp [Nt.vt]⟩
  case round =>
    obtain ⟨k, q, zs, hk, rfl, rfl, hq0, hq1, hzl, hzo, hsame, hrow, hbr, heq⟩ := hrel
    have Heq := hide heq
    have Hzl := hide hzl
    have Hs := hide hsame
    clear heq hzl hsame hr
    by_cases hkl : k < L
    · have hR := hro (by omega)
      subst hR
      obtain ⟨b1, o1, rfl, _, hc1⟩ := (hbr.cells hvc haw) (by rw [HL.out]; omega)
      have g1 := hc1 k (by rw [HL.out]; omega)
      have g2 := hrow.cell (i := off + k) (by have := Hzl.out; omega)
      have hfz := hrow.frozen (off + k)
      obtain ⟨by0, by1⟩ := hvo k
      obtain ⟨bz0, bz1⟩ := hzo (off + k)
      obtain ⟨bp0, bp1⟩ := prod_bd2 ⟨hx0, hx1⟩ ⟨by0, by1⟩
      clear hc1
      have n1 := not32 bz0 bz1
      have n2 := not32 (y := (q + (Nt.lb vs k * x + (4294967295 - Nt.lb zs (off + k)))) % 4294967296) (by omega) (by omega)
      go_wp2
      go_region
      all_goals go_wp2
      all_goals go_roundw
      all_goals first
        | exact ⟨k + 1, (q + (Nt.lb vs k * x + (4294967295 - Nt.lb zs (off + k)))) / 4294967296, zs.set (off + k) (4294967295 - (q + (Nt.lb vs k * x + (4294967295 - Nt.lb zs (off + k)))) % 4294967296), by omega, by go_num, rfl, by omega, by omega, by have := Hzl.out; simp [this], Nt.ok_set hzo (by omega), fun j hj => by
            rw [Nt.lb_set_ne (by omega)]; exact Hs.out j (by omega), hrow.set _ _, hbr.drew.set _ _, Nt.less_step (by have := Hzl.out; omega) (Hs.out _ (by omega)) rfl Heq.out⟩
        | (simp [intOf]; omega)
    · have hke : k = L := by omega
      have hv : Nt.vt zs (off + L) - q * Nt.pw (off + L) = Nt.vt os (off + L) - x * Nt.val vs * Nt.pw off := by
        have h := Heq.out
        rw [hke, Nt.vt_out (xs := vs) (by rw [HL.out]; omega)] at h
        exact h
      have HV := hide hv
      have HS0 : Hid (∀ j, j < off ∨ off + L ≤ j → Nt.lb zs j = Nt.lb os j) := by
        have h := Hs.out
        rw [hke] at h
        exact h
      clear hv Heq Hs
      subst hke
      go_wp2
      go_ret
      exact ⟨q, zs, by simp, hq0, hq1, Hzl.out, hzo, HS0.out, HV.out, hrow, hbr⟩

set_option maxHeartbeats 2000000 in
theorem addBack_any {w : World} {ro bo : Option Addr} {rc bc g off L : Nat} {vs os : List Int} {x : Int} (hr : Row .u32 96 w g os) (hoo : Nt.Ok os) (hL : vs.length = L) (hfit : off + L ≤ os.length) (hro : 0 < L → ro = some ⟨g, off, none⟩)
    (hvc : Cells .u32 w bo vs) (hvo : Nt.Ok vs) (haw : 0 < vs.length → Away g bo) (hm : L ≤ 2199023255552) (hx : 0 ≤ x ∧ x < 4294967296) :
    Calls Tryz.prog 189 #[.slice ro L rc, .slice bo L bc, .int .u64 x] w fun e w' => ∃ (c : Int) (zs : List Int), e = .returned (.tuple #[]) ∧ 0 ≤ c ∧ c < 4294967296 ∧ zs.length = os.length ∧ Nt.Ok zs ∧
      (∀ j, j < off ∨ off + L ≤ j → Nt.lb zs j = Nt.lb os j) ∧ Nt.vt zs (off + L) + c * Nt.pw (off + L) = Nt.vt os (off + L) + x * Nt.val vs * Nt.pw off ∧ Row .u32 96 w' g zs ∧ Only g w w' := by
  obtain ⟨hx0, hx1⟩ := hx
  have HL := hide hL
  clear hL
  go_enter Tryz.func189, Tryz.ntmps189
  go_wp2
  go_loopw [6, 10] (fun c i wr => ∃ (k : Nat) (q : Int) (zs : List Int), k ≤ L ∧ i = .int .i64 k ∧ c = .int .u64 q ∧ 0 ≤ q ∧ q < 4294967296 ∧ zs.length = os.length ∧ Nt.Ok zs ∧ (∀ j, j < off ∨ off + k ≤ j → Nt.lb zs j = Nt.lb os j) ∧
      Row .u32 96 wr g zs ∧ Only g w wr ∧ Nt.vt zs (off + k) + q * Nt.pw (off + k) = Nt.vt os (off + k) + x * Nt.vt vs k * Nt.pw off) (fun _ i _ => L - (intOf i).toNat)
  case atStart => exact ⟨0, 0, os, by omega, rfl, rfl, by omega, by omega, rfl, hoo, fun _ _ => rfl, hr, Only.refl _ _, by simp [Nt.vt]⟩
  case round =>
    obtain ⟨k, q, zs, hk, rfl, rfl, hq0, hq1, hzl, hzo, hsame, hrow, hbr, heq⟩ := hrel
    have Heq := hide heq
    have Hzl := hide hzl
    have Hs := hide hsame
    clear heq hzl hsame hr
    by_cases hkl : k < L
    · have hR := hro (by omega)
      subst hR
      obtain ⟨b1, o1, rfl, _, hc1⟩ := (hbr.cells hvc haw) (by rw [HL.out]; omega)
      have g1 := hc1 k (by rw [HL.out]; omega)
      have g2 := hrow.cell (i := off + k) (by have := Hzl.out; omega)
      have hfz := hrow.frozen (off + k)
      obtain ⟨by0, by1⟩ := hvo k
      obtain ⟨bz0, bz1⟩ := hzo (off + k)
      obtain ⟨bp0, bp1⟩ := prod_bd2 ⟨hx0, hx1⟩ ⟨by0, by1⟩
      clear hc1
      go_wp2
      go_region
      all_goals go_wp2
      all_goals go_roundw
      all_goals first
        | exact ⟨k + 1, (q + (Nt.lb vs k * x + Nt.lb zs (off + k))) / 4294967296, zs.set (off + k) ((q + (Nt.lb vs k * x + Nt.lb zs (off + k))) % 4294967296), by omega, by go_num, rfl, by omega, by omega, by have := Hzl.out; simp [this], Nt.ok_set hzo (by omega), fun j hj => by
            rw [Nt.lb_set_ne (by omega)]; exact Hs.out j (by omega), hrow.set _ _, hbr.drew.set _ _, Nt.back_step (by have := Hzl.out; omega) (Hs.out _ (by omega)) rfl Heq.out⟩
        | (simp [intOf]; omega)
    · have hke : k = L := by omega
      have hv : Nt.vt zs (off + L) + q * Nt.pw (off + L) = Nt.vt os (off + L) + x * Nt.val vs * Nt.pw off := by
        have h := Heq.out
        rw [hke, Nt.vt_out (xs := vs) (by rw [HL.out]; omega)] at h
        exact h
      have HV := hide hv
      have HS0 : Hid (∀ j, j < off ∨ off + L ≤ j → Nt.lb zs j = Nt.lb os j) := by
        have h := Hs.out
        rw [hke] at h
        exact h
      clear hv Heq Hs
      subst hke
      go_wp2
      go_end0
      exact ⟨q, zs, by simp, hq0, hq1, Hzl.out, hzo, HS0.out, HV.out, hrow, hbr⟩

set_option maxHeartbeats 2000000 in
theorem takeOff_yes {w : World} {bo : Option Addr} {rc bc g off L : Nat} {vs os : List Int} {x : Int} (hr : Row .u32 96 w g os) (hoo : Nt.Ok os) (hL : vs.length = L) (hfit : off + L < os.length) (hrc : L + 1 ≤ rc)
    (hvc : Cells .u32 w bo vs) (hvo : Nt.Ok vs) (haw : 0 < vs.length → Away g bo) (hm : L ≤ 2199023255552) (hx : 0 ≤ x ∧ x < 4294967296) (hge : x * Nt.val vs * Nt.pw off ≤ Nt.vt os (off + L + 1) - Nt.vt os off) :
    Calls Tryz.prog 177 #[.slice (some ⟨g, off, none⟩) (L + 1) rc, .slice bo L bc, .int .u64 x] w fun e w' => ∃ zs : List Int, e = .returned (.bool true) ∧ zs.length = os.length ∧ Nt.Ok zs ∧
      (∀ j, j < off ∨ off + L + 1 ≤ j → Nt.lb zs j = Nt.lb os j) ∧ Nt.vt zs (off + L + 1) = Nt.vt os (off + L + 1) - x * Nt.val vs * Nt.pw off ∧ Row .u32 96 w' g zs ∧ Only g w w' := by
  have i1 : L ≤ rc := by omega
  have HG := hide hge
  clear hge
  go_enter Tryz.func177, Tryz.ntmps177
  go_wp2_with fail
  refine (lessen_any hr hoo hL (by omega) (fun _ => rfl) hvc hvo haw hm hx).mono ?_
  rintro e w1 ⟨c, zs, rfl, hc0, hc1, hzl, hzo, hsame, hv, hrow, hon⟩
  have hsg := Nt.off_sign hzo (fun j hj => hsame j (by omega)) (hsame (off + L) (by omega)) hv
  have hcz : c ≤ Nt.lb zs (off + L) := by
    rcases Int.lt_or_le (Nt.lb zs (off + L)) c with h | h
    · have h1 := hsg.1 h; have h2 := HG.out; omega
    · exact h
  have hnl : ¬ Nt.lb zs (off + L) < c := by omega
  have bz := hzo (off + L)
  obtain ⟨bz0, bz1⟩ := bz
  have g2 := hrow.cell (i := off + L) (by omega)
  have hfz := hrow.frozen (off + L)
  have htop := hsame (off + L) (by omega)
  have hfin : Nt.vt (zs.set (off + L) (Nt.lb zs (off + L) - c)) (off + L + 1) = Nt.vt os (off + L + 1) - x * Nt.val vs * Nt.pw off := by
    rw [Nt.vt_succ, Nt.vt_set (Nat.le_refl _), Nt.lb_set_eq (by omega), Nt.vt_succ, ← htop]
    grind
  have HF := hide hfin
  have HS := hide hsame
  have HZ := hide hzl
  clear hfin hsame hzl hsg hv htop
  go_wp2
  go_ret
  exact ⟨zs.set (off + L) (Nt.lb zs (off + L) - c), rfl, by rw [List.length_set]; exact HZ.out, Nt.ok_set hzo (by omega), fun j hj => by rw [Nt.lb_set_ne (by omega)]; exact HS.out j (by omega), HF.out, hrow.set _ _, hon.set _ _⟩

set_option maxHeartbeats 2000000 in
theorem takeOff_no {w : World} {bo : Option Addr} {rc bc g off L : Nat} {vs os : List Int} {x : Int} (hr : Row .u32 96 w g os) (hoo : Nt.Ok os) (hL : vs.length = L) (hfit : off + L < os.length) (hrc : L + 1 ≤ rc)
    (hvc : Cells .u32 w bo vs) (hvo : Nt.Ok vs) (haw : 0 < vs.length → Away g bo) (hm : L ≤ 2199023255552) (hx : 0 ≤ x ∧ x < 4294967296) (hlt : Nt.vt os (off + L + 1) - Nt.vt os off < x * Nt.val vs * Nt.pw off) :
    Calls Tryz.prog 177 #[.slice (some ⟨g, off, none⟩) (L + 1) rc, .slice bo L bc, .int .u64 x] w fun e w' => e = .returned (.bool false) ∧ Row .u32 96 w' g os ∧ Only g w w' := by
  have i1 : L ≤ rc := by omega
  have HG := hide hlt
  clear hlt
  go_enter Tryz.func177, Tryz.ntmps177
  go_wp2_with fail
  refine (lessen_any hr hoo hL (by omega) (fun _ => rfl) hvc hvo haw hm hx).mono ?_
  rintro e w1 ⟨c, zs, rfl, hc0, hc1, hzl, hzo, hsame, hv, hrow, hon⟩
  have hsg := Nt.off_sign hzo (fun j hj => hsame j (by omega)) (hsame (off + L) (by omega)) hv
  have hcz : Nt.lb zs (off + L) < c := by
    rcases Int.lt_or_le (Nt.lb zs (off + L)) c with h | h
    · exact h
    · have h1 := hsg.2 h; have h2 := HG.out; omega
  have bz := hzo (off + L)
  obtain ⟨bz0, bz1⟩ := bz
  have g2 := hrow.cell (i := off + L) (by omega)
  have HV := hide hv
  have HS := hide hsame
  have HZ := hide hzl
  clear hsame hzl hsg hv
  go_wp2_with fail
  refine (addBack_any hrow hzo hL (by rw [HZ.out]; omega) (fun _ => rfl) (hon.cells hvc haw) hvo haw hm hx).mono ?_
  rintro e w2 ⟨d, ys, rfl, hd0, hd1, hyl, hyo, hsame2, hv2, hrow2, hon2⟩
  have hys : ys = os := Nt.back_same hyo hoo (by rw [hyl, HZ.out]) (fun j hj => (hsame2 j hj).trans (HS.out j hj)) HV.out hv2
  rw [hys] at hrow2
  clear hsame2 hv2 hyl hys
  go_wp2
  go_ret
  exact ⟨rfl, hrow2, hon.trans hon2⟩

end Go.Proofs.YtinfkoiifemjmaaGreatDoor

namespace Go.Proofs.YtinfkoiifemjmaaGreatDoor
open Go.RowKit

theorem raised_step {xs zs : List Int} {k : Nat} {q P t : Int} (hk : k < zs.length) (ht : t = q + Nt.lb xs k * P) (h : Nt.vt zs k + q * Nt.pw k = Nt.vt xs k * P) :
    Nt.vt (zs.set k (t % 4294967296)) (k + 1) + t / 4294967296 * Nt.pw (k + 1) = Nt.vt xs (k + 1) * P := by
  rw [Nt.vt_succ, Nt.vt_set (Nat.le_refl _), Nt.lb_set_eq hk, Nt.vt_succ, Nt.pw_succ]
  have e : t % 4294967296 + 4294967296 * (t / 4294967296) = t := Int.emod_add_mul_ediv _ _
  generalize t % 4294967296 = r at *
  generalize t / 4294967296 = s at *
  grind
/-- the bits that are carried lie below those that are shifted -/
theorem or_low {n : Nat} {a c : Int} (ha : 0 ≤ a) (hc0 : 0 ≤ c) (hc1 : c < p2 n) (hlt : a * p2 n + c < 18446744073709551616) : bits .or .u64 c (a * p2 n) = c + a * p2 n := by
  obtain ⟨x, rfl⟩ := Int.eq_ofNat_of_zero_le ha
  obtain ⟨y, rfl⟩ := Int.eq_ofNat_of_zero_le hc0
  rw [p2_cast] at *
  have e : ((x : Int) * ((2 ^ n : Nat) : Int)) = ((x * 2 ^ n : Nat) : Int) := by rw [Int.natCast_mul]
  rw [e] at hlt ⊢
  have hy : y < 2 ^ n := by omega
  rw [u64_or_nat _ _ (by omega) (by omega), Nat.or_comm, nat_join n (x * 2 ^ n) y (Nat.mul_mod_left _ _) hy]
  omega

set_option maxHeartbeats 2000000 in
theorem raised_any {w : World} {ao : Option Addr} {ca n : Nat} {xs : List Int} (hxc : Cells .u32 w ao xs) (hxo : Nt.Ok xs) (hm : xs.length ≤ 1099511627776) (hn : n < 32) :
    Calls Tryz.prog 150 #[.slice ao xs.length ca, .int .i64 n] w fun e w' => ∃ (g : Nat) (zs : List Int), e = .returned (.slice (some ⟨g, 0, none⟩) zs.length zs.length) ∧ w.heap.size ≤ g ∧ Row .u32 96 w' g zs ∧ Nt.Ok zs ∧
      zs.length = xs.length + 1 ∧ Nt.val zs = Nt.val xs * p2 n ∧ Below w.heap.size w w' := by
  have hn0 : ¬ (n : Int) < 0 := by omega
  have hn32 : (n : Int) < 32 := by omega
  have hp := p2_pos n
  have hp31 : p2 n ≤ 2147483648 := p2_mono (m := n) (n := 31) (by omega)
  go_enter Tryz.func150, Tryz.ntmps150
  go_wp2_with (at_make; refine wpList_make_row _ rfl _ _ 61 rfl 96 .u32 4 Tryz.underlying61 Tryz.infoU32 _ _ _ _ (xs.length + 1) (xs.length + 1) rfl rfl (by omega) (by omega) (Nat.le_refl _) (by omega) (by unfold maxLen; omega) ?_)
  intro w1 hr hbel hsz
  go_wp2
  go_loopw [6, 14] (fun c i wr => ∃ (k : Nat) (q : Int) (zs : List Int), k ≤ xs.length ∧ i = .int .i64 k ∧ c = .int .u64 q ∧ 0 ≤ q ∧ q < p2 n ∧ zs.length = xs.length + 1 ∧ Nt.Ok zs ∧ Row .u32 96 wr w.heap.size zs ∧ Below w.heap.size w wr ∧ Nt.vt zs k + q * Nt.pw k = Nt.vt xs k * p2 n) (fun _ i _ => xs.length - (intOf i).toNat)
  case atStart => exact ⟨0, 0, List.replicate (xs.length + 1) 0, by omega, rfl, rfl, by omega, hp, by simp, Nt.ok_replicate _, hr, hbel, by simp [Nt.vt]⟩
  case round =>
    obtain ⟨k, q, zs, hk, rfl, rfl, hq0, hq1, hzl, hzo, hrow, hbr, heq⟩ := hrel
    have Heq := hide heq
    have Hzl := hide hzl
    clear heq hzl hr hbel
    by_cases hkl : k < xs.length
    · obtain ⟨b1, o1, rfl, _, hc1⟩ := (hxc.below hbr) (by omega)
      have g1 := hc1 k hkl
      have g2 := hrow.cell (i := k) (by have := Hzl.out; omega)
      have hfz := hrow.frozen k
      obtain ⟨bx0, bx1⟩ := hxo k
      have hb1 : 0 ≤ Nt.lb xs k * p2 n := Int.mul_nonneg bx0 (by omega)
      have hb2 : Nt.lb xs k * p2 n ≤ 4294967295 * p2 n := Int.mul_le_mul_of_nonneg_right (by omega) (by omega)
      have hor := or_low (n := n) (a := Nt.lb xs k) (c := q) bx0 hq0 hq1 (by omega)
      have hpn := p2_pow n
      have hst := raised_step (xs := xs) (zs := zs) (k := k) (q := q) (P := p2 n) (by have := Hzl.out; omega) rfl Heq.out
      have hq2 : (q + Nt.lb xs k * p2 n) / 4294967296 < p2 n := by omega
      have hq3 : 0 ≤ (q + Nt.lb xs k * p2 n) / 4294967296 := by omega
      rw [hpn] at hor hb1 hb2
      have Hst := hide hst
      have Hq2 := hide hq2
      have Hq3 := hide hq3
      have Hpn := hide hpn
      have hwr : IntKind.u64.wrap (Nt.lb xs k * 2 ^ n) = Nt.lb xs k * 2 ^ n := by rw [IntKind.wrap_u64]; exact Int.emod_eq_of_lt hb1 (by omega)
      clear hc1 hst hq2 hq3 hpn
      go_wp2
      go_roundw
      case rel => exact ⟨k + 1, (q + Nt.lb xs k * p2 n) / 4294967296, zs.set k ((q + Nt.lb xs k * p2 n) % 4294967296), by omega, by go_num, by rw [Hpn.out], Hq3.out, Hq2.out, by have := Hzl.out; simp [this], Nt.ok_set hzo (by omega), by rw [Hpn.out]; exact hrow.set _ _, hbr.setCell (Nat.le_refl _) _, Hst.out⟩
      case measure => simp [intOf]; omega
    · have hke : k = xs.length := by omega
      subst hke
      have g2 := hrow.cell (i := xs.length) (by have := Hzl.out; omega)
      have hfz := hrow.frozen xs.length
      have hq2 : q < 4294967296 := by omega
      have hz2 : zs.length = xs.length + 1 := Hzl.out
      have hfin : Nt.val (zs.set xs.length q) = Nt.val xs * p2 n := by
        unfold Nt.val
        rw [List.length_set, hz2, Nt.vt_succ, Nt.vt_set (Nat.le_refl _), Nt.lb_set_eq (by omega)]
        exact Heq.out
      have HF := hide hfin
      have hok : Nt.Ok (zs.set xs.length q) := Nt.ok_set hzo (by omega)
      clear hfin Heq hz2
      go_wp2
      go_ret
      exact ⟨w.heap.size, zs.set xs.length q, by rw [List.length_set, Hzl.out]; rfl, Nat.le_refl _, hrow.set _ _, hok, by rw [List.length_set, Hzl.out], HF.out, hbr.setCell (Nat.le_refl _) _⟩

end Go.Proofs.YtinfkoiifemjmaaGreatDoor

namespace Go.Proofs.YtinfkoiifemjmaaGreatDoor
open Go.RowKit

set_option maxHeartbeats 1000000 in
theorem div32_any (x y d : Int) (w : World) (hx0 : 0 ≤ x) (hx1 : x < d) (hy0 : 0 ≤ y) (hy1 : y < 4294967296) (hd1 : d < 4294967296) :
    Calls Tryz.prog 176 #[.int .u32 x, .int .u32 y, .int .u32 d] w fun e w' => e = .returned (.tuple #[.int .u32 ((x * 4294967296 + y) / d), .int .u32 ((x * 4294967296 + y) % d)]) ∧ Below w.heap.size w w' := by
  have hj := or_join x y hx0 (by omega) hy0 hy1
  have h1 : (d != 0) = true := by simp; omega
  have h2 : ¬ d ≤ x := by omega
  go_enter Tryz.func176, Tryz.ntmps176
  go_wp2
  go_region
  all_goals go_wp2
  all_goals go_ret2
  have q0 : 0 ≤ (x * 4294967296 + y) / d := Int.ediv_nonneg (by omega) (by omega)
  have q1 : (x * 4294967296 + y) / d < 4294967296 := Int.ediv_lt_of_lt_mul (by omega) (by omega)
  have r0 : 0 ≤ (x * 4294967296 + y) % d := Int.emod_nonneg _ (by omega)
  have r1 : (x * 4294967296 + y) % d < d := Int.emod_lt_of_pos _ (by omega)
  have e1 : (x * 4294967296 + y) / d % 4294967296 = (x * 4294967296 + y) / d := by omega
  have e2 : (x * 4294967296 + y) % d % 4294967296 = (x * 4294967296 + y) % d := by omega
  refine ⟨?_, (Below.refl _ _).drew⟩
  rw [e1, e2]
  rfl

theorem vt_set_add {zs : List Int} {i : Nat} (hi : i < zs.length) (h0 : Nt.lb zs i = 0) (q : Int) (n : Nat) (hn : i < n) : Nt.vt (zs.set i q) n = Nt.vt zs n + q * Nt.pw i := by
  induction n with
  | zero => omega
  | succ n ih =>
    rw [Nt.vt_succ, Nt.vt_succ]
    by_cases e : i = n
    · subst e; rw [Nt.vt_set (Nat.le_refl _), Nt.lb_set_eq hi, h0]; simp
    · rw [Nt.lb_set_ne e, ih (by omega)]; omega
theorem val_set_add {zs : List Int} {i : Nat} (hi : i < zs.length) (h0 : Nt.lb zs i = 0) (q : Int) : Nt.val (zs.set i q) = Nt.val zs + q * Nt.pw i := by
  unfold Nt.val
  rw [List.length_set]
  exact vt_set_add hi h0 q _ hi

/-- one round of a division, from the top -/
theorem small_step {xs zs : List Int} {m : Nat} {r d V : Int} (hm : m < zs.length) (h0 : Nt.lb zs m = 0) (h : V = Nt.vt xs (m + 1) + Nt.val zs * d + r * Nt.pw (m + 1)) :
    V = Nt.vt xs m + Nt.val (zs.set m ((r * 4294967296 + Nt.lb xs m) / d)) * d + ((r * 4294967296 + Nt.lb xs m) % d) * Nt.pw m := by
  rw [h, val_set_add hm h0, Nt.vt_succ, Nt.pw_succ]
  have e : (r * 4294967296 + Nt.lb xs m) % d + d * ((r * 4294967296 + Nt.lb xs m) / d) = r * 4294967296 + Nt.lb xs m := Int.emod_add_mul_ediv _ _
  generalize (r * 4294967296 + Nt.lb xs m) % d = s at *
  generalize (r * 4294967296 + Nt.lb xs m) / d = q at *
  have e2 : (s + d * q) * Nt.pw m = (r * 4294967296 + Nt.lb xs m) * Nt.pw m := by rw [e]
  rw [Int.add_mul, Int.add_mul] at e2
  rw [Int.add_mul, ← Int.mul_assoc r]
  have e3 : q * Nt.pw m * d = d * q * Nt.pw m := by rw [Int.mul_comm, ← Int.mul_assoc]
  rw [e3]
  omega

set_option maxHeartbeats 2000000 in
theorem small_yes {w : World} {va : Value} {n d : Int} {ka : Nat} (ha : Arg w va n ka) (hka : ka ≤ 1099511627776) (hd0 : 0 < d) (hd1 : d < 4294967296) :
    Calls Tryz.prog 148 #[va, .int .u32 d] w fun e w' => ∃ v, e = .returned (.tuple #[v, .int .u32 (n % d), .bool true]) ∧ Num w.heap.size w' v (n / d) ka ∧ Below w.heap.size w w' := by
  have hdz : (d == 0) = false := by simp; omega
  go_enter Tryz.func148, Tryz.ntmps148
  go_wp2_with fail
  refine (trim_arg ha).mono ?_
  rintro e w' ⟨rfl, ao, xs, rfl, hxk, hxm, hxc, hx, rfl⟩
  clear ha
  go_wp2_with (at_make; refine wpList_make_row _ rfl _ _ 61 rfl 96 .u32 4 Tryz.underlying61 Tryz.infoU32 _ _ _ _ xs.length xs.length rfl rfl (by omega) (by omega) (Nat.le_refl _) (by omega) (by unfold maxLen; omega) ?_)
  intro w1 hr hbel hsz
  go_wp2
  go_loopw [5, 19] (fun c i wr => ∃ (k : Nat) (r : Int) (zs : List Int), k ≤ xs.length ∧ i = .int .i64 k ∧ c = .int .u32 r ∧ 0 ≤ r ∧ r < d ∧ zs.length = xs.length ∧ Nt.Ok zs ∧ (∀ j, j < xs.length - k → Nt.lb zs j = 0) ∧ Row .u32 96 wr w'.heap.size zs ∧ Below w'.heap.size w' wr ∧
      Nt.val xs = Nt.vt xs (xs.length - k) + Nt.val zs * d + r * Nt.pw (xs.length - k)) (fun _ i _ => xs.length - (intOf i).toNat)
  case atStart => exact ⟨0, 0, List.replicate xs.length 0, by omega, rfl, rfl, by omega, by omega, by simp, Nt.ok_replicate _, fun j _ => Nt.lb_replicate _ _, hr, hbel, by
    have e : Nt.val (List.replicate xs.length 0) = 0 := by
      unfold Nt.val; rw [Nt.vt_cut (k := 0) (by omega) (fun i _ _ => Nt.lb_replicate _ _)]; rfl
    rw [e]; simp [Nt.val]⟩
  case round =>
    obtain ⟨k, r, zs, hk, rfl, rfl, hr0, hr1, hzl, hzo, hz0, hrow, hbr, heq⟩ := hrel
    have Heq := hide heq
    have Hzl := hide hzl
    have Hz := hide hz0
    clear heq hzl hz0 hr hbel
    by_cases hkl : k < xs.length
    · obtain ⟨b1, o1, rfl, hb1, hc1⟩ := (hxc.below hbr) (by omega)
      have g1 := hc1 (xs.length - 1 - k) (by omega)
      have bx := hx.1 (xs.length - 1 - k)
      obtain ⟨bx0, bx1⟩ := bx
      have hfz := hrow.frozen (xs.length - 1 - k)
      have hcl := hrow.cell (i := xs.length - 1 - k) (by have := Hzl.out; omega)
      have q0 : 0 ≤ (r * 4294967296 + Nt.lb xs (xs.length - 1 - k)) / d := Int.ediv_nonneg (by omega) (by omega)
      have q1 : (r * 4294967296 + Nt.lb xs (xs.length - 1 - k)) / d < 4294967296 := Int.ediv_lt_of_lt_mul (by omega) (by omega)
      have r0 : 0 ≤ (r * 4294967296 + Nt.lb xs (xs.length - 1 - k)) % d := Int.emod_nonneg _ (by omega)
      have r1 : (r * 4294967296 + Nt.lb xs (xs.length - 1 - k)) % d < d := Int.emod_lt_of_pos _ (by omega)
      have hst := small_step (xs := xs) (zs := zs) (m := xs.length - 1 - k) (r := r) (d := d) (V := Nt.val xs) (by have := Hzl.out; omega) (Hz.out _ (by omega)) (by rw [show xs.length - 1 - k + 1 = xs.length - k by omega]; exact Heq.out)
      have Hst := hide hst
      clear hc1 hxc hst
      go_wp2_with fail
      refine (div32_any r (Nt.lb xs (xs.length - 1 - k)) d _ hr0 hr1 bx0 bx1 hd1).mono ?_
      rintro e w3 ⟨rfl, hb3⟩
      have hr3 := hrow.keeps hb3
      have hfz3 := hr3.frozen (xs.length - 1 - k)
      have hcl3 := hr3.cell (i := xs.length - 1 - k) (by have := Hzl.out; omega)
      have hbr3 : Below w'.heap.size w' w3 := hbr.trans (hb3.mono hbr.size)
      clear hfz hcl hrow hb3 hbr
      go_wp2
      go_roundw
      case rel => exact ⟨k + 1, (r * 4294967296 + Nt.lb xs (xs.length - 1 - k)) % d, zs.set (xs.length - 1 - k) ((r * 4294967296 + Nt.lb xs (xs.length - 1 - k)) / d), by omega, by go_num, rfl, r0, r1, by have := Hzl.out; simp [this], Nt.ok_set hzo ⟨q0, q1⟩, fun j hj => by
        rw [Nt.lb_set_ne (by omega)]; exact Hz.out j (by omega), hr3.set _ _, hbr3.setCell (p := ⟨w'.heap.size, xs.length - 1 - k, none⟩) (Nat.le_refl _) _, by
        rw [show xs.length - (k + 1) = xs.length - 1 - k by omega]; exact Hst.out⟩
      case measure => simp [intOf]; omega
    · have hke : k = xs.length := by omega
      subst hke
      have hz2 : zs.length = xs.length := Hzl.out
      have hfin : Nt.val xs = Nt.val zs * d + r := by
        have := Heq.out
        rw [Nat.sub_self] at this
        simp only [Nt.vt, Nt.pw] at this
        omega
      have hq : Nt.val xs / d = Nt.val zs ∧ Nt.val xs % d = r := by
        rw [Int.ediv_emod_unique hd0]
        refine ⟨?_, hr0, hr1⟩
        rw [hfin, Int.mul_comm]; omega
      obtain ⟨hq1, hq2⟩ := hq
      have ht := trim_row (B := w'.heap.size) (cap := zs.length) hrow (Nat.le_refl _) (Nat.le_refl _) (by rw [hz2]; unfold maxLen; omega) hzo
      rw [hz2] at ht
      have Hq1 := hide hq1
      have Hq2 := hide hq2
      clear hz2 hfin Heq hq1 hq2
      go_wp2_with fail
      refine ht.mono ?_
      rintro e w3 ⟨rfl, v, rfl, hnum⟩
      go_wp2
      go_ret3
      refine ⟨v, ?_, ?_, hbr⟩
      · rw [Hq2.out]; rfl
      · rw [Hq1.out]; exact hnum.mono hxk

end Go.Proofs.YtinfkoiifemjmaaGreatDoor

namespace Go.Proofs.YtinfkoiifemjmaaGreatDoor
open Go.RowKit

set_option maxRecDepth 100000 in
set_option maxHeartbeats 4000000 in
theorem len64_any (x : Int) (w : World) (hx0 : 0 ≤ x) (hx1 : x < 18446744073709551616) :
    Calls Tryz.prog 161 #[.int .u64 x] w fun e w' => ∃ k : Nat, e = .returned (.int .i64 k) ∧ IsLen x k ∧ k ≤ 64 ∧ w' = w := by
  have hsz := lenTab_size
  by_cases h1 : x < 4294967296
  · by_cases h2 : x < 65536
    · by_cases h3 : x < 256
      · skip
        have a1 : ¬ 4294967296 ≤ x := by omega
        have a2 : ¬ 65536 ≤ x := by omega
        have a3 : ¬ 256 ≤ x := by omega
        go_enter Tryz.func161, Tryz.ntmps161
        go_wp2
        go_ret
        have hs' : (x).toNat < lenTab.size := by omega
        obtain ⟨t1, t2⟩ := tab_at (x) (by omega) (by omega) hs'
        refine ⟨(lenTab[(x).toNat]'hs').toNat, ?_, t1, by omega, rfl⟩
        refine ret_int ?_
        generalize hN : (lenTab[(x).toNat]'hs').toNat = N at t2 ⊢
        show wrap64 (wrap64 (((lenTab[(x).toNat]'hs').toNat : Nat) : Int)) = _
        rw [hN]
        unfold wrap64; omega
      · skip
        have a1 : ¬ 4294967296 ≤ x := by omega
        have a2 : ¬ 65536 ≤ x := by omega
        have a3 : 256 ≤ x := by omega
        go_enter Tryz.func161, Tryz.ntmps161
        go_wp2
        go_ret
        have hs' : ((x / 256)).toNat < lenTab.size := by omega
        obtain ⟨t1, t2⟩ := tab_at ((x / 256)) (by omega) (by omega) hs'
        have t3 := isLen_shift (P := 256) (m := 8) (by decide) t1 (len_pos t1 (by omega))
        refine ⟨(lenTab[((x / 256)).toNat]'hs').toNat + 8, ?_, t3, by omega, rfl⟩
        refine ret_int ?_
        generalize hN : (lenTab[((x / 256)).toNat]'hs').toNat = N at t2 ⊢
        show wrap64 (8 + wrap64 (((lenTab[((x / 256)).toNat]'hs').toNat : Nat) : Int)) = _
        rw [hN]
        unfold wrap64; omega
    · by_cases h3 : x / 65536 < 256
      · skip
        have a1 : ¬ 4294967296 ≤ x := by omega
        have a2 : 65536 ≤ x := by omega
        have a3 : ¬ 256 ≤ (x / 65536) := by omega
        go_enter Tryz.func161, Tryz.ntmps161
        go_wp2
        go_ret
        have hs' : ((x / 65536)).toNat < lenTab.size := by omega
        obtain ⟨t1, t2⟩ := tab_at ((x / 65536)) (by omega) (by omega) hs'
        have t3 := isLen_shift (P := 65536) (m := 16) (by decide) t1 (len_pos t1 (by omega))
        refine ⟨(lenTab[((x / 65536)).toNat]'hs').toNat + 16, ?_, t3, by omega, rfl⟩
        refine ret_int ?_
        generalize hN : (lenTab[((x / 65536)).toNat]'hs').toNat = N at t2 ⊢
        show wrap64 (16 + wrap64 (((lenTab[((x / 65536)).toNat]'hs').toNat : Nat) : Int)) = _
        rw [hN]
        unfold wrap64; omega
      · skip
        have a1 : ¬ 4294967296 ≤ x := by omega
        have a2 : 65536 ≤ x := by omega
        have a3 : 256 ≤ (x / 65536) := by omega
        go_enter Tryz.func161, Tryz.ntmps161
        go_wp2
        go_ret
        have hs' : (((x / 65536) / 256)).toNat < lenTab.size := by omega
        obtain ⟨t1, t2⟩ := tab_at (((x / 65536) / 256)) (by omega) (by omega) hs'
        have t3 := isLen_shift (P := 256) (m := 8) (by decide) t1 (len_pos t1 (by omega))
        have t4 := isLen_shift (P := 65536) (m := 16) (by decide) t3 (by omega)
        refine ⟨(lenTab[(((x / 65536) / 256)).toNat]'hs').toNat + 8 + 16, ?_, t4, by omega, rfl⟩
        refine ret_int ?_
        generalize hN : (lenTab[(((x / 65536) / 256)).toNat]'hs').toNat = N at t2 ⊢
        show wrap64 (24 + wrap64 (((lenTab[(((x / 65536) / 256)).toNat]'hs').toNat : Nat) : Int)) = _
        rw [hN]
        unfold wrap64; omega
  · by_cases h2 : x / 4294967296 < 65536
    · by_cases h3 : x / 4294967296 < 256
      · skip
        have a1 : 4294967296 ≤ x := by omega
        have a2 : ¬ 65536 ≤ (x / 4294967296) := by omega
        have a3 : ¬ 256 ≤ (x / 4294967296) := by omega
        go_enter Tryz.func161, Tryz.ntmps161
        go_wp2
        go_ret
        have hs' : ((x / 4294967296)).toNat < lenTab.size := by omega
        obtain ⟨t1, t2⟩ := tab_at ((x / 4294967296)) (by omega) (by omega) hs'
        have t3 := isLen_shift (P := 4294967296) (m := 32) (by decide) t1 (len_pos t1 (by omega))
        refine ⟨(lenTab[((x / 4294967296)).toNat]'hs').toNat + 32, ?_, t3, by omega, rfl⟩
        refine ret_int ?_
        generalize hN : (lenTab[((x / 4294967296)).toNat]'hs').toNat = N at t2 ⊢
        show wrap64 (32 + wrap64 (((lenTab[((x / 4294967296)).toNat]'hs').toNat : Nat) : Int)) = _
        rw [hN]
        unfold wrap64; omega
      · skip
        have a1 : 4294967296 ≤ x := by omega
        have a2 : ¬ 65536 ≤ (x / 4294967296) := by omega
        have a3 : 256 ≤ (x / 4294967296) := by omega
        go_enter Tryz.func161, Tryz.ntmps161
        go_wp2
        go_ret
        have hs' : (((x / 4294967296) / 256)).toNat < lenTab.size := by omega
        obtain ⟨t1, t2⟩ := tab_at (((x / 4294967296) / 256)) (by omega) (by omega) hs'
        have t3 := isLen_shift (P := 256) (m := 8) (by decide) t1 (len_pos t1 (by omega))
        have t4 := isLen_shift (P := 4294967296) (m := 32) (by decide) t3 (by omega)
        refine ⟨(lenTab[(((x / 4294967296) / 256)).toNat]'hs').toNat + 8 + 32, ?_, t4, by omega, rfl⟩
        refine ret_int ?_
        generalize hN : (lenTab[(((x / 4294967296) / 256)).toNat]'hs').toNat = N at t2 ⊢
        show wrap64 (40 + wrap64 (((lenTab[(((x / 4294967296) / 256)).toNat]'hs').toNat : Nat) : Int)) = _
        rw [hN]
        unfold wrap64; omega
    · by_cases h3 : x / 4294967296 / 65536 < 256
      · skip
        have a1 : 4294967296 ≤ x := by omega
        have a2 : 65536 ≤ (x / 4294967296) := by omega
        have a3 : ¬ 256 ≤ ((x / 4294967296) / 65536) := by omega
        go_enter Tryz.func161, Tryz.ntmps161
        go_wp2
        go_ret
        have hs' : (((x / 4294967296) / 65536)).toNat < lenTab.size := by omega
        obtain ⟨t1, t2⟩ := tab_at (((x / 4294967296) / 65536)) (by omega) (by omega) hs'
        have t3 := isLen_shift (P := 65536) (m := 16) (by decide) t1 (len_pos t1 (by omega))
        have t4 := isLen_shift (P := 4294967296) (m := 32) (by decide) t3 (by omega)
        refine ⟨(lenTab[(((x / 4294967296) / 65536)).toNat]'hs').toNat + 16 + 32, ?_, t4, by omega, rfl⟩
        refine ret_int ?_
        generalize hN : (lenTab[(((x / 4294967296) / 65536)).toNat]'hs').toNat = N at t2 ⊢
        show wrap64 (48 + wrap64 (((lenTab[(((x / 4294967296) / 65536)).toNat]'hs').toNat : Nat) : Int)) = _
        rw [hN]
        unfold wrap64; omega
      · skip
        have a1 : 4294967296 ≤ x := by omega
        have a2 : 65536 ≤ (x / 4294967296) := by omega
        have a3 : 256 ≤ ((x / 4294967296) / 65536) := by omega
        go_enter Tryz.func161, Tryz.ntmps161
        go_wp2
        go_ret
        have hs' : ((((x / 4294967296) / 65536) / 256)).toNat < lenTab.size := by omega
        obtain ⟨t1, t2⟩ := tab_at ((((x / 4294967296) / 65536) / 256)) (by omega) (by omega) hs'
        have t3 := isLen_shift (P := 256) (m := 8) (by decide) t1 (len_pos t1 (by omega))
        have t4 := isLen_shift (P := 65536) (m := 16) (by decide) t3 (by omega)
        have t5 := isLen_shift (P := 4294967296) (m := 32) (by decide) t4 (by omega)
        refine ⟨(lenTab[((((x / 4294967296) / 65536) / 256)).toNat]'hs').toNat + 8 + 16 + 32, ?_, t5, by omega, rfl⟩
        refine ret_int ?_
        generalize hN : (lenTab[((((x / 4294967296) / 65536) / 256)).toNat]'hs').toNat = N at t2 ⊢
        show wrap64 (56 + wrap64 (((lenTab[((((x / 4294967296) / 65536) / 256)).toNat]'hs').toNat : Nat) : Int)) = _
        rw [hN]
        unfold wrap64; omega

end Go.Proofs.YtinfkoiifemjmaaGreatDoor
