/- Len, IMath, IRound, Len64, Raise, Cmp, Sub, IGap, JStr, RefA, RefB, RefC -/
import Derived.Test.YtjigofmcflmelaaGreatDoorC02
import Derived.Deep.RegionWith
namespace Go.Proofs.YtjigofmcflmelaaGreatDoor
open Go.RowKit

/-- 2 to the power of n -/
def p2 : Nat → Int
  | 0 => 1
  | n + 1 => 2 * p2 n
theorem p2_pos (n : Nat) : 0 < p2 n := by
  induction n with
  | zero => decide
  | succ n ih => simp only [p2]; omega
theorem p2_add (m n : Nat) : p2 (m + n) = p2 m * p2 n := by
  induction n with
  | zero => simp [p2]
  | succ n ih => rw [← Nat.add_assoc]; simp only [p2]; rw [ih, Int.mul_left_comm]
theorem p2_mono {m n : Nat} (h : m ≤ n) : p2 m ≤ p2 n := by
  obtain ⟨k, rfl⟩ := Nat.exists_eq_add_of_le h
  rw [p2_add]
  have h1 := p2_pos k
  have h2 := p2_pos m
  have : p2 m * 1 ≤ p2 m * p2 k := Int.mul_le_mul_of_nonneg_left (by omega) (by omega)
  omega
theorem p2_32 (n : Nat) : p2 (32 * n) = Nt.pw n := by
  induction n with
  | zero => rfl
  | succ n ih => rw [Nat.mul_succ, p2_add, ih, Nt.pw_succ, show p2 32 = 4294967296 from by decide, Int.mul_comm]

/-- k binary digits -/
def IsLen (x : Int) (k : Nat) : Prop := x < p2 k ∧ (0 < k → p2 (k - 1) ≤ x)
theorem isLen_unique {x : Int} {k m : Nat} (h1 : IsLen x k) (h2 : IsLen x m) : k = m := by
  rcases Nat.lt_trichotomy k m with h | h | h
  · have a := h2.2 (by omega)
    have b := p2_mono (m := k) (n := m - 1) (by omega)
    have c := h1.1
    omega
  · exact h
  · have a := h1.2 (by omega)
    have b := p2_mono (m := m) (n := k - 1) (by omega)
    have c := h2.1
    omega

theorem isLen_shift {x : Int} {k m : Nat} {P : Int} (hP : P = p2 m) (h : IsLen (x / P) k) (hk : 0 < k) : IsLen x (k + m) := by
  subst hP
  have hm := p2_pos m
  have hd : p2 m * (x / p2 m) ≤ x := by have := Int.mul_ediv_add_emod x (p2 m); have := Int.emod_nonneg x (b := p2 m) (by omega); omega
  have hu : x < p2 m * (x / p2 m) + p2 m := by have := Int.mul_ediv_add_emod x (p2 m); have := Int.emod_lt_of_pos x (b := p2 m) (by omega); omega
  obtain ⟨h1, h2⟩ := h
  have h3 := h2 hk
  refine ⟨?_, fun _ => ?_⟩
  · rw [p2_add, Int.mul_comm]
    have : p2 m * (x / p2 m + 1) ≤ p2 m * p2 k := Int.mul_le_mul_of_nonneg_left (by omega) (by omega)
    rw [Int.mul_add] at this
    omega
  · rw [show k + m - 1 = (k - 1) + m by omega, p2_add, Int.mul_comm]
    have : p2 m * p2 (k - 1) ≤ p2 m * (x / p2 m) := Int.mul_le_mul_of_nonneg_left h3 (by omega)
    omega

/-- how many binary digits a byte has -/
def lenTab : ByteArray := ⟨#[0, 1, 2, 2, 3, 3, 3, 3, 4, 4, 4, 4, 4, 4, 4, 4, 5, 5, 5, 5, 5, 5, 5, 5, 5, 5, 5, 5, 5, 5, 5, 5, 6, 6, 6, 6, 6, 6, 6, 6, 6, 6, 6, 6, 6, 6, 6, 6, 6, 6, 6, 6, 6, 6, 6, 6, 6, 6, 6, 6, 6, 6, 6, 6, 7, 7, 7, 7, 7, 7, 7, 7, 7, 7, 7, 7, 7, 7, 7, 7, 7, 7, 7, 7, 7, 7, 7, 7, 7, 7, 7, 7, 7, 7, 7, 7, 7, 7, 7, 7, 7, 7, 7, 7, 7, 7, 7, 7, 7, 7, 7, 7, 7, 7, 7, 7, 7, 7, 7, 7, 7, 7, 7, 7, 7, 7, 7, 7, 8, 8, 8, 8, 8, 8, 8, 8, 8, 8, 8, 8, 8, 8, 8, 8, 8, 8, 8, 8, 8, 8, 8, 8, 8, 8, 8, 8, 8, 8, 8, 8, 8, 8, 8, 8, 8, 8, 8, 8, 8, 8, 8, 8, 8, 8, 8, 8, 8, 8, 8, 8, 8, 8, 8, 8, 8, 8, 8, 8, 8, 8, 8, 8, 8, 8, 8, 8, 8, 8, 8, 8, 8, 8, 8, 8, 8, 8, 8, 8, 8, 8, 8, 8, 8, 8, 8, 8, 8, 8, 8, 8, 8, 8, 8, 8, 8, 8, 8, 8, 8, 8, 8, 8, 8, 8, 8, 8, 8, 8, 8, 8, 8, 8, 8, 8, 8, 8, 8, 8, 8, 8, 8, 8, 8, 8, 8, 8]⟩
theorem lenTab_all : (List.range 256).all (fun n => decide ((n : Int) < p2 (lenTab.data.getD n 0).toNat) && (decide ((lenTab.data.getD n 0).toNat = 0) || decide (p2 ((lenTab.data.getD n 0).toNat - 1) ≤ (n : Int))) && decide ((lenTab.data.getD n 0).toNat ≤ 8)) = true := by decide +kernel
theorem lenTab_size : lenTab.size = 256 := by decide +kernel
theorem lenTab_ok (n : Nat) (h : n < 256) (h' : n < lenTab.size) : IsLen (n : Int) (lenTab[n]'h').toNat ∧ (lenTab[n]'h').toNat ≤ 8 := by
  have := List.all_eq_true.1 lenTab_all n (by simpa using h)
  have e : lenTab.data.getD n 0 = lenTab[n]'h' := by
    simp [Array.getD, ByteArray.getElem_eq_getElem_data]
    rw [dif_pos h']
  rw [e] at this
  simp only [Bool.and_eq_true, Bool.or_eq_true, decide_eq_true_eq] at this
  exact ⟨⟨this.1.1, fun hk => by rcases this.1.2 with h | h; omega; exact h⟩, this.2⟩
theorem ret_int {k : IntKind} {a b : Int} (h : a = b) : Ending.returned (.int k a) = .returned (.int k b) := by rw [h]
theorem tab_at (y : Int) (h0 : 0 ≤ y) (h1 : y < 256) (h' : y.toNat < lenTab.size) : IsLen y (lenTab[y.toNat]'h').toNat ∧ (lenTab[y.toNat]'h').toNat ≤ 8 := by
  have := lenTab_ok y.toNat (by omega) h'
  rw [Int.toNat_of_nonneg h0] at this
  exact this
theorem len_pos {y : Int} {k : Nat} (h : IsLen y k) (hy : 1 ≤ y) : 0 < k := by
  rcases Nat.eq_zero_or_pos k with h0 | h0
  · subst h0; have := h.1; simp only [p2] at this; omega
  · exact h0

set_option maxRecDepth 100000 in
set_option maxHeartbeats 1000000 in
theorem len32_any (x : Int) (w : World) (hx0 : 0 ≤ x) (hx1 : x < 4294967296) :
    Calls Tryz.prog 226 #[.int .u32 x] w fun e w' => ∃ k : Nat, e = .returned (.int .i64 k) ∧ IsLen x k ∧ k ≤ 32 ∧ w' = w := by
  by_cases h1 : x < 256
  · have a1 : ¬ 65536 ≤ x := by omega
    have a2 : ¬ 256 ≤ x := by omega
    go_enter Tryz.func226, Tryz.ntmps226
    go_wp2
    go_ret
    have hsz := lenTab_size
    have hs' : (x).toNat < lenTab.size := by omega
    obtain ⟨t1, t2⟩ := tab_at (x) (by omega) (by omega) hs'
    refine ⟨_, ?_, t1, by omega, rfl⟩
    refine ret_int ?_
    show wrap64 (wrap64 (((lenTab[x.toNat]'hs').toNat : Nat) : Int)) = _
    generalize (lenTab[x.toNat]'hs').toNat = N at t2 ⊢
    unfold wrap64; omega
  by_cases h2 : x < 65536
  · have a1 : ¬ 65536 ≤ x := by omega
    have a2 : 256 ≤ x := by omega
    go_enter Tryz.func226, Tryz.ntmps226
    go_wp2
    go_ret
    have hsz := lenTab_size
    have hs' : (x / 256).toNat < lenTab.size := by omega
    obtain ⟨t1, t2⟩ := tab_at (x / 256) (by omega) (by omega) hs'
    refine ⟨(lenTab[(x / 256).toNat]'hs').toNat + 8, ?_, isLen_shift (P := 256) (by decide) t1 (len_pos t1 (by omega)), by omega, rfl⟩
    refine ret_int ?_
    show wrap64 (8 + wrap64 (((lenTab[(x / 256).toNat]'hs').toNat : Nat) : Int)) = _
    generalize (lenTab[(x / 256).toNat]'hs').toNat = N at t2 ⊢
    unfold wrap64; omega
  by_cases h3 : x < 16777216
  · have a1 : 65536 ≤ x := by omega
    have a2 : ¬ 256 ≤ x / 65536 := by omega
    go_enter Tryz.func226, Tryz.ntmps226
    go_wp2
    go_ret
    have hsz := lenTab_size
    have hs' : (x / 65536).toNat < lenTab.size := by omega
    obtain ⟨t1, t2⟩ := tab_at (x / 65536) (by omega) (by omega) hs'
    refine ⟨(lenTab[(x / 65536).toNat]'hs').toNat + 16, ?_, isLen_shift (P := 65536) (by decide) t1 (len_pos t1 (by omega)), by omega, rfl⟩
    refine ret_int ?_
    show wrap64 (16 + wrap64 (((lenTab[(x / 65536).toNat]'hs').toNat : Nat) : Int)) = _
    generalize (lenTab[(x / 65536).toNat]'hs').toNat = N at t2 ⊢
    unfold wrap64; omega
  · have a1 : 65536 ≤ x := by omega
    have a2 : 256 ≤ x / 65536 := by omega
    go_enter Tryz.func226, Tryz.ntmps226
    go_wp2
    go_ret
    have hsz := lenTab_size
    have hs' : (x / 65536 / 256).toNat < lenTab.size := by omega
    obtain ⟨t1, t2⟩ := tab_at (x / 65536 / 256) (by omega) (by omega) hs'
    have t3 := isLen_shift (P := 256) (m := 8) (by decide) t1 (len_pos t1 (by omega))
    have t4 := isLen_shift (x := x) (P := 65536) (m := 16) (by decide) t3 (by omega)
    refine ⟨(lenTab[(x / 65536 / 256).toNat]'hs').toNat + 8 + 16, ?_, t4, by omega, rfl⟩
    refine ret_int ?_
    show wrap64 (24 + wrap64 (((lenTab[(x / 65536 / 256).toNat]'hs').toNat : Nat) : Int)) = _
    generalize (lenTab[(x / 65536 / 256).toNat]'hs').toNat = N at t2 ⊢
    unfold wrap64; omega

/-- the length of a number by its highest limb -/
theorem isLen_top {xs : List Int} {k : Nat} (hx : Nt.Canon xs) (hn : 0 < xs.length) (h : IsLen (Nt.lb xs (xs.length - 1)) k) : IsLen (Nt.val xs) ((xs.length - 1) * 32 + k) := by
  obtain ⟨n, hl⟩ : ∃ n, xs.length = n + 1 := ⟨xs.length - 1, by omega⟩
  have hne : xs ≠ [] := by intro e; subst e; simp at hn
  have h0 := hx.2 hne
  have hb := hx.1 n
  have hv := Nt.vt_bounds hx.1 n
  rw [hl, Nat.add_sub_cancel] at h h0 ⊢
  have hval : Nt.val xs = Nt.vt xs n + Nt.lb xs n * Nt.pw n := by unfold Nt.val; rw [hl, Nt.vt_succ]
  have hp := Nt.pw_pos n
  have hk := len_pos h (by omega)
  rw [hval]
  refine ⟨?_, fun _ => ?_⟩
  · rw [p2_add, Nat.mul_comm, p2_32]
    have : Nt.pw n * (Nt.lb xs n + 1) ≤ Nt.pw n * p2 k := Int.mul_le_mul_of_nonneg_left (by have := h.1; omega) (by omega)
    rw [Int.mul_add, Int.mul_comm] at this
    omega
  · rw [show n * 32 + k - 1 = n * 32 + (k - 1) by omega, p2_add, Nat.mul_comm, p2_32]
    have : Nt.pw n * p2 (k - 1) ≤ Nt.pw n * Nt.lb xs n := Int.mul_le_mul_of_nonneg_left (h.2 hk) (by omega)
    rw [Int.mul_comm _ (Nt.lb xs n)] at this
    omega

set_option maxHeartbeats 1000000 in
theorem len_any {w : World} {va : Value} {n : Int} {ka : Nat} (ha : Arg w va n ka) (hka : ka ≤ 1099511627776) :
    Calls Tryz.prog 198 #[va] w fun e w' => ∃ k : Nat, e = .returned (.int .i64 k) ∧ IsLen n k ∧ k ≤ 32 * ka ∧ w' = w := by
  go_enter Tryz.func198, Tryz.ntmps198
  go_wp2_with fail
  refine (trim_arg ha).mono ?_
  rintro e w' ⟨rfl, ao, xs, rfl, hxk, hxm, hxc, hx, rfl⟩
  clear ha
  by_cases h0 : xs.length = 0
  · have h0' : ((xs.length : Int) == 0) = true := by simp [h0]
    have hxe : xs = [] := List.eq_nil_of_length_eq_zero h0
    clear h0
    go_wp2
    go_ret
    refine ⟨0, rfl, ?_, by omega, rfl⟩
    rw [hxe, Nt.val_nil]
    exact ⟨by decide, fun h => by omega⟩
  · have h0' : ((xs.length : Int) == 0) = false := by simp; intro e; subst e; simp at h0
    obtain ⟨b, off, rfl, hb, hcell⟩ := hxc (by omega)
    have hg := hcell (xs.length - 1) (by omega)
    have hp : (1 : Int) ≤ (xs.length : Int) := by omega
    obtain ⟨bx0, bx1⟩ := hx.1 (xs.length - 1)
    clear hcell hxc
    go_wp2_with fail
    refine (len32_any _ _ bx0 bx1).mono ?_
    rintro e w1 ⟨k, rfl, hk, hk32, rfl⟩
    have hfin := isLen_top hx (by omega) hk
    have Hf := hide hfin
    have Hk := hide hk
    clear hfin hk
    go_wp2
    go_ret
    refine ⟨(xs.length - 1) * 32 + k, ret_int ?_, Hf.out, by omega, rfl⟩
    omega

end Go.Proofs.YtjigofmcflmelaaGreatDoor

namespace Go.Proofs.YtjigofmcflmelaaGreatDoor
set_option linter.unusedVariables false

/-- the steps that a size counts, and the power of 2 that a step is -/
def mst (F s : Int) : Int := if s < F then s else s % F + F
def est (F L s : Int) : Int := if s < F then L else L - 1 + s / F
/-- N times 2 to the power of E, in steps of 2 to the power of B -/
def sc (N E B : Int) : Int := N * p2 (E - B).toNat
/-- the number of a size -/
def um (F L B s : Int) : Int := sc (mst F s) (est F L s) B
/-- r is the nearest pattern to N times 2 to the power of E -/
def Near (F L I N E r : Int) : Prop := 0 ≤ r ∧ r ≤ I ∧ ∀ B, B ≤ E → B ≤ L → 
  (r < I → 2 * sc N E B ≤ um F L B r + um F L B (r + 1) ∧ (2 * sc N E B = um F L B r + um F L B (r + 1) → r % 2 = 0)) ∧
  (0 < r → um F L B (r - 1) + um F L B r ≤ 2 * sc N E B ∧ (2 * sc N E B = um F L B (r - 1) + um F L B r → r % 2 = 0))

theorem p2_toNat_add {a b : Int} (ha : 0 ≤ a) (hb : 0 ≤ b) : p2 (a + b).toNat = p2 a.toNat * p2 b.toNat := by
  rw [← p2_add]; congr 1; omega
theorem sc_up {N E B : Int} {k : Nat} (hE : B ≤ E) : sc N (E + k) B = sc (N * p2 k) E B := by
  unfold sc
  rw [show E + k - B = k + (E - B) by omega, p2_toNat_add (by omega) (by omega), Int.toNat_natCast, Int.mul_assoc]
theorem est_ge {F L s : Int} (hF : 0 < F) : L ≤ est F L s := by
  unfold est
  split
  · omega
  · have : 1 ≤ s / F := by rw [Int.le_ediv_iff_mul_le hF]; omega
    omega
/-- one step more -/
theorem um_succ {F L B s : Int} (hF : 0 < F) (h0 : 0 ≤ s) (hB : B ≤ L) : um F L B (s + 1) = um F L B s + p2 (est F L s - B).toNat := by
  unfold um sc
  by_cases a : s + 1 < F
  · have e1 : mst F (s + 1) = s + 1 := by unfold mst; rw [if_pos a]
    have e2 : mst F s = s := by unfold mst; rw [if_pos (by omega)]
    have e3 : est F L (s + 1) = L := by unfold est; rw [if_pos a]
    have e4 : est F L s = L := by unfold est; rw [if_pos (by omega)]
    rw [e1, e2, e3, e4, Int.add_mul, Int.one_mul]
  · by_cases b : s < F
    · have hs : s + 1 = F := by omega
      have e1 : mst F (s + 1) = s + 1 := by unfold mst; rw [if_neg a, hs, Int.emod_self]; omega
      have e2 : mst F s = s := by unfold mst; rw [if_pos b]
      have e3 : est F L (s + 1) = L := by unfold est; rw [if_neg a, hs, Int.ediv_self (by omega)]; omega
      have e4 : est F L s = L := by unfold est; rw [if_pos b]
      rw [e1, e2, e3, e4, Int.add_mul, Int.one_mul]
    · have e2 : mst F s = s % F + F := by unfold mst; rw [if_neg b]
      have e4 : est F L s = L - 1 + s / F := by unfold est; rw [if_neg b]
      have hd := Int.mul_ediv_add_emod s F
      have m0 := Int.emod_nonneg s (b := F) (by omega)
      have m1 := Int.emod_lt_of_pos s hF
      have hq1 : 1 ≤ s / F := by rw [Int.le_ediv_iff_mul_le hF]; omega
      by_cases c : s % F + 1 < F
      · have hq : (s + 1) / F = s / F := by
          rw [show s + 1 = (s % F + 1) + F * (s / F) by omega, Int.add_mul_ediv_left _ _ (by omega), Int.ediv_eq_zero_of_lt (by omega) c, Int.zero_add]
        have hr : (s + 1) % F = s % F + 1 := by
          rw [show s + 1 = (s % F + 1) + F * (s / F) by omega, Int.add_mul_emod_self_left, Int.emod_eq_of_lt (by omega) c]
        have e1 : mst F (s + 1) = s % F + 1 + F := by unfold mst; rw [if_neg a, hr]
        have e3 : est F L (s + 1) = L - 1 + s / F := by unfold est; rw [if_neg a, hq]
        rw [e1, e2, e3, e4, show s % F + 1 + F = (s % F + F) + 1 by omega, Int.add_mul, Int.one_mul]
      · have hr0 : s % F = F - 1 := by omega
        have hs1 : s + 1 = F * (s / F + 1) := by rw [Int.mul_add, Int.mul_one]; omega
        have hq : (s + 1) / F = s / F + 1 := by rw [hs1, Int.mul_ediv_cancel_left _ (by omega)]
        have hr : (s + 1) % F = 0 := by rw [hs1, Int.mul_emod_right]
        have e1 : mst F (s + 1) = F := by unfold mst; rw [if_neg a, hr]; omega
        have e3 : est F L (s + 1) = L - 1 + s / F + 1 := by unfold est; rw [if_neg a, hq]; omega
        rw [e1, e2, e3, e4, hr0, show L - 1 + s / F + 1 - B = 1 + (L - 1 + s / F - B) by omega, p2_toNat_add (by omega) (by omega), show p2 (1 : Int).toNat = 2 from rfl]
        generalize p2 (L - 1 + s / F - B).toNat = P
        rw [show F - 1 + F = 2 * F - 1 by omega, Int.sub_mul, Int.one_mul, ← Int.mul_assoc, Int.mul_comm F 2]
        omega
theorem um_lt {F L B s : Int} (hF : 0 < F) (h0 : 0 ≤ s) (hB : B ≤ L) : um F L B s < um F L B (s + 1) := by
  rw [um_succ hF h0 hB]
  have := p2_pos (est F L s - B).toNat
  omega
theorem um_mono {F L B s : Int} (hF : 0 < F) (h0 : 0 ≤ s) (hB : B ≤ L) (n : Nat) : um F L B s ≤ um F L B (s + n) := by
  induction n with
  | zero => simp
  | succ n ih =>
    have := um_lt (s := s + n) hF (by omega) hB
    rw [show s + ((n + 1 : Nat) : Int) = s + n + 1 by omega]
    omega
theorem um_le {F L B s t : Int} (hF : 0 < F) (h0 : 0 ≤ s) (hB : B ≤ L) (h : s ≤ t) : um F L B s ≤ um F L B t := by
  have := um_mono hF h0 hB (t - s).toNat
  rwa [show s + ((t - s).toNat : Int) = t by omega] at this
theorem um_lt' {F L B s t : Int} (hF : 0 < F) (h0 : 0 ≤ s) (hB : B ≤ L) (h : s < t) : um F L B s < um F L B t := by
  have h1 := um_lt (s := s) hF h0 hB
  have h2 := um_le (s := s + 1) (t := t) hF (by omega) hB (by omega)
  omega
/-- the nearest patterns of two numbers are in their order -/
theorem near_le {F L I N E N' E' r r' B : Int} (hF : 0 < F) (h : Near F L I N E r) (h' : Near F L I N' E' r') (hE : B ≤ E) (hE' : B ≤ E') (hB : B ≤ L) (hv : sc N E B ≤ sc N' E' B) : r ≤ r' := by
  rcases Int.lt_or_le r' r with c | c
  · exfalso
    obtain ⟨r0, r1, hn⟩ := h
    obtain ⟨q0, q1, hn'⟩ := h'
    obtain ⟨_, lo⟩ := hn B hE hB
    obtain ⟨hi, _⟩ := hn' B hE' hB
    obtain ⟨l1, l2⟩ := lo (by omega)
    obtain ⟨u1, u2⟩ := hi (by omega)
    have a1 := um_le (s := r') (t := r - 1) hF q0 hB (by omega)
    have a2 := um_le (s := r' + 1) (t := r) hF (by omega) hB (by omega)
    by_cases e : r' + 1 = r
    · have e1 : r - 1 = r' := by omega
      rw [e1, ← e] at l1 l2
      have p1 := l2 (by omega)
      have p2 := u2 (by omega)
      omega
    · have a3 := um_lt' (s := r') (t := r - 1) hF q0 hB (by omega)
      omega
  · exact c
theorem near_unique {F L I N E r r' : Int} (hF : 0 < F) (h : Near F L I N E r) (h' : Near F L I N E r') : r = r' := by
  have a := near_le (B := min E L) hF h h' (by omega) (by omega) (by omega) (Int.le_refl _)
  have b := near_le (B := min E L) hF h' h (by omega) (by omega) (by omega) (Int.le_refl _)
  omega
/-- q is the whole number next to V / 2T, of two the even one -/
def Half (q T V : Int) : Prop := 2 * q * T - T ≤ V ∧ V ≤ 2 * q * T + T ∧ (V = 2 * q * T - T → q % 2 = 0) ∧ (V = 2 * q * T + T → q % 2 = 0)
/-- the value of what pattern makes -/
theorem um_pattern {F L B q t : Int} (hF : 0 < F) (hB : B ≤ L) (ht : L ≤ t) (q0 : 0 ≤ q) (q1 : q ≤ 2 * F) (hq : t = L ∨ F ≤ q) : um F L B (q + (t - L) * F) = q * p2 (t - B).toNat := by
  by_cases a : q < F
  · obtain rfl : t = L := by omega
    rw [Int.sub_self, Int.zero_mul, Int.add_zero]
    unfold um sc mst est
    rw [if_pos a, if_pos a]
  · have hn : ¬ q + (t - L) * F < F := by
      have : 0 ≤ (t - L) * F := Int.mul_nonneg (by omega) (by omega)
      omega
    by_cases b : q = 2 * F
    · have hd : (q + (t - L) * F) = F * (t - L + 2) := by rw [b, Int.mul_add, Int.mul_comm F (t - L)]; omega
      have e1 : mst F (q + (t - L) * F) = F := by unfold mst; rw [if_neg hn, hd, Int.mul_emod_right]; omega
      have e2 : est F L (q + (t - L) * F) = t + 1 := by unfold est; rw [if_neg hn, hd, Int.mul_ediv_cancel_left _ (by omega)]; omega
      unfold um sc
      rw [e1, e2, b, show t + 1 - B = 1 + (t - B) by omega, p2_toNat_add (by omega) (by omega), show p2 (1 : Int).toNat = 2 from rfl, ← Int.mul_assoc, Int.mul_comm F 2]
    · have hd : (q + (t - L) * F) = (q - F) + F * (t - L + 1) := by rw [Int.mul_add, Int.mul_comm F (t - L)]; omega
      have e1 : mst F (q + (t - L) * F) = q := by unfold mst; rw [if_neg hn, hd, Int.add_mul_emod_self_left, Int.emod_eq_of_lt (by omega) (by omega)]; omega
      have e2 : est F L (q + (t - L) * F) = t := by unfold est; rw [if_neg hn, hd, Int.add_mul_ediv_left _ _ (by omega), Int.ediv_eq_zero_of_lt (by omega) (by omega)]; omega
      unfold um sc
      rw [e1, e2]
theorem est_pattern {F L q t : Int} (hF : 0 < F) (ht : L ≤ t) (q0 : 0 ≤ q) (q1 : q < 2 * F) (hq : t = L ∨ F ≤ q) : est F L (q + (t - L) * F) = t := by
  by_cases a : q < F
  · obtain rfl : t = L := by omega
    rw [Int.sub_self, Int.zero_mul, Int.add_zero]
    unfold est
    rw [if_pos a]
  · have hn : ¬ q + (t - L) * F < F := by
      have : 0 ≤ (t - L) * F := Int.mul_nonneg (by omega) (by omega)
      omega
    have hd : (q + (t - L) * F) = (q - F) + F * (t - L + 1) := by rw [Int.mul_add, Int.mul_comm F (t - L)]; omega
    unfold est
    rw [if_neg hn, hd, Int.add_mul_ediv_left _ _ (by omega), Int.ediv_eq_zero_of_lt (by omega) (by omega)]; omega
/-- what pattern makes of a rounded number of steps is the nearest -/
theorem near_pattern {F L I N E q t : Int} (hF : 0 < F) (hF2 : F % 2 = 0) (ht : L ≤ t) (q0 : 0 ≤ q) (q1 : q ≤ 2 * F) (hq : t = L ∨ F ≤ q) (hI : q + (t - L) * F ≤ I)
    (hh : ∀ B, B ≤ E → B ≤ L → Half q (p2 (t - B).toNat) (2 * sc N E B)) (hlow : L < t → ∀ B, B ≤ E → B ≤ L → 2 * F * p2 (t - B).toNat ≤ 2 * sc N E B) : Near F L I N E (q + (t - L) * F) := by
  have h0 : 0 ≤ (t - L) * F := Int.mul_nonneg (by omega) (by omega)
  have hpar : (q + (t - L) * F) % 2 = q % 2 := by
    have : ((t - L) * F) % 2 = 0 := by rw [Int.mul_emod, hF2, Int.mul_zero]; rfl
    omega
  refine ⟨by omega, hI, fun B hE hB => ?_⟩
  obtain ⟨h1, h2, h3, h4⟩ := hh B hE hB
  have hu := um_pattern (B := B) hF hB ht q0 q1 hq
  have hT := p2_pos (t - B).toNat
  have e2q : 2 * q * p2 (t - B).toNat = 2 * (q * p2 (t - B).toNat) := Int.mul_assoc _ _ _
  rw [hpar]
  refine ⟨fun _ => ?_, fun hr => ?_⟩
  · rw [um_succ hF (by omega) hB, hu]
    by_cases c : q < 2 * F
    · rw [est_pattern hF ht q0 c hq]
      refine ⟨by omega, fun e => h4 (by omega)⟩
    · have e : q = 2 * F := by omega
      have hd : (q + (t - L) * F) = F * (t - L + 2) := by rw [e, Int.mul_add, Int.mul_comm F (t - L)]; omega
      have hest : est F L (q + (t - L) * F) = t + 1 := by
        unfold est
        rw [if_neg (by omega), hd, Int.mul_ediv_cancel_left _ (by omega)]; omega
      rw [hest, show t + 1 - B = 1 + (t - B) by omega, p2_toNat_add (by omega) (by omega), show p2 (1 : Int).toNat = 2 from rfl]
      refine ⟨by omega, fun e => by omega⟩
  · have hs := um_succ (s := q + (t - L) * F - 1) hF (by omega) hB
    rw [Int.sub_add_cancel, hu] at hs
    by_cases c : t = L ∨ F < q
    · have hest : est F L (q + (t - L) * F - 1) = t := by
        rw [show q + (t - L) * F - 1 = (q - 1) + (t - L) * F by omega]
        rcases Int.lt_or_le (q - 1) 0 with d | d
        · have : q = 0 := by omega
          have ht' : t = L := by omega
          subst ht'
          rw [Int.sub_self, Int.zero_mul] at hr
          omega
        · exact est_pattern hF ht d (by omega) (by omega)
      rw [hest] at hs
      rw [hu]
      refine ⟨by omega, fun e => h3 (by omega)⟩
    · have e : q = F := by omega
      have hl := hlow (by omega) B hE hB
      have hp := p2_pos (est F L (q + (t - L) * F - 1) - B).toNat
      have e3 : 2 * F * p2 (t - B).toNat = 2 * (q * p2 (t - B).toNat) := by rw [e, Int.mul_assoc]
      rw [hu]
      refine ⟨by omega, fun e => by omega⟩
/-- digits far behind say no more than that something is there -/
theorem half_sticky {q T Z a b top k : Int} (hZ : 0 < Z) (hT : T = k * Z) (a0 : 0 ≤ a) (a1 : a < Z) (b0 : 0 ≤ b) (b1 : b < Z) (hab : a = 0 ↔ b = 0) (h : Half q T (top * Z + b)) : Half q T (top * Z + a) := by
  obtain ⟨h1, h2, h3, h4⟩ := h
  subst hT
  have e1 : 2 * q * (k * Z) - k * Z = (2 * q * k - k) * Z := by rw [Int.sub_mul, Int.mul_assoc (2 * q) k Z]
  have e2 : 2 * q * (k * Z) + k * Z = (2 * q * k + k) * Z := by rw [Int.add_mul, Int.mul_assoc (2 * q) k Z]
  unfold Half
  rw [e1] at h1 h3 ⊢
  rw [e2] at h2 h4 ⊢
  generalize 2 * q * k - k = u at *
  generalize 2 * q * k + k = v at *
  have low : ∀ c, 0 ≤ c → c < Z → (u * Z ≤ top * Z + c ↔ u ≤ top) := by
    intro c c0 c1
    constructor
    · intro h
      rcases Int.lt_or_le top u with d | d
      · have : (top + 1) * Z ≤ u * Z := Int.mul_le_mul_of_nonneg_right (by omega) (by omega)
        rw [Int.add_mul, Int.one_mul] at this
        omega
      · exact d
    · intro h
      have : u * Z ≤ top * Z := Int.mul_le_mul_of_nonneg_right h (by omega)
      omega
  have eq : ∀ c x, 0 ≤ c → c < Z → (top * Z + c = x * Z ↔ top = x ∧ c = 0) := by
    intro c x c0 c1
    constructor
    · intro h
      rcases Int.lt_trichotomy top x with d | d | d
      · have : (top + 1) * Z ≤ x * Z := Int.mul_le_mul_of_nonneg_right (by omega) (by omega)
        rw [Int.add_mul, Int.one_mul] at this
        omega
      · subst d; exact ⟨rfl, by omega⟩
      · have : (x + 1) * Z ≤ top * Z := Int.mul_le_mul_of_nonneg_right (by omega) (by omega)
        rw [Int.add_mul, Int.one_mul] at this
        omega
    · rintro ⟨rfl, rfl⟩; omega
  have up : ∀ c, 0 ≤ c → c < Z → (top * Z + c ≤ v * Z ↔ (top < v ∨ (top = v ∧ c = 0))) := by
    intro c c0 c1
    constructor
    · intro h
      rcases Int.lt_trichotomy top v with d | d | d
      · exact Or.inl d
      · subst d; exact Or.inr ⟨rfl, by omega⟩
      · have : (v + 1) * Z ≤ top * Z := Int.mul_le_mul_of_nonneg_right (by omega) (by omega)
        rw [Int.add_mul, Int.one_mul] at this
        omega
    · rintro (d | ⟨rfl, rfl⟩)
      · have : (top + 1) * Z ≤ v * Z := Int.mul_le_mul_of_nonneg_right (by omega) (by omega)
        rw [Int.add_mul, Int.one_mul] at this
        omega
      · omega
  rw [low b b0 b1] at h1
  rw [up b b0 b1] at h2
  rw [eq b u b0 b1] at h3
  rw [eq b v b0 b1] at h4
  rw [low a a0 a1, up a a0 a1, eq a u a0 a1, eq a v a0 a1, hab]
  exact ⟨h1, h2, h3, h4⟩

end Go.Proofs.YtjigofmcflmelaaGreatDoor

namespace Go.Proofs.YtjigofmcflmelaaGreatDoor
set_option linter.unusedVariables false

theorem half_scale {q P v c : Int} (hc : 0 < c) (h : Half q P v) : Half q (P * c) (v * c) := by
  obtain ⟨h1, h2, h3, h4⟩ := h
  have e1 : 2 * q * (P * c) - P * c = (2 * q * P - P) * c := by rw [Int.sub_mul, Int.mul_assoc (2 * q) P c]
  have e2 : 2 * q * (P * c) + P * c = (2 * q * P + P) * c := by rw [Int.add_mul, Int.mul_assoc (2 * q) P c]
  unfold Half
  rw [e1, e2]
  refine ⟨Int.mul_le_mul_of_nonneg_right h1 (by omega), Int.mul_le_mul_of_nonneg_right h2 (by omega), fun e => h3 (Int.eq_of_mul_eq_mul_right (by omega) e), fun e => h4 (Int.eq_of_mul_eq_mul_right (by omega) e)⟩
theorem half_exact {q T : Int} (hT : 0 < T) : Half q T (2 * q * T) := ⟨by omega, by omega, fun e => by omega, fun e => by omega⟩
/-- what the rounding of the cut number says of the number itself -/
theorem near_of {F L I A mb st e q t lim : Int} {fr size d : Nat} (hfr : F = p2 fr) (fr1 : 1 ≤ fr) (fr2 : fr ≤ 52) (hI : I = (lim + 1 - fr - L) * F) (hlim : L ≤ lim - 1 - fr)
    (hlen : IsLen A size) (hA : 0 ≤ A) (hmb : mb = 0 ∨ mb = 1) (hz : ¬ (size = 0 ∧ mb = 0)) (he : e + size ≤ lim) (hd : d = size - 62)
    (hst : (st = 0 ∧ A % p2 d = 0 ∧ mb = 0) ∨ (st = 1 ∧ ¬ (A % p2 d = 0 ∧ mb = 0))) (ht : t = max (e + size - 1 - fr) L)
    (hq1 : t ≤ e + d - 1 → q = (2 * (A / p2 d) + st) * p2 (e + d - 1 - t).toNat) (hq2 : e + d - 1 < t → Half q (p2 (t - (e + d - 1)).toNat) (2 * (2 * (A / p2 d) + st))) (q0 : 0 ≤ q) :
    q ≤ 2 * F ∧ (t = L ∨ F ≤ q) ∧ q + (t - L) * F ≤ I ∧ Near F L I (2 * A + mb) (e - 1) (q + (t - L) * F) := by
  have hF0 : 0 < F := by rw [hfr]; exact p2_pos fr
  have tL : L ≤ t := by omega
  -- the rounding of the cut number, in steps of 2^B
  have hcut : ∀ B, B ≤ e - 1 → B ≤ L → Half q (p2 (t - B).toNat) (2 * (2 * (A / p2 d) + st) * p2 (e + d - 1 - B).toNat) := by
    intro B hB hBL
    have hu := p2_pos (e + d - 1 - B).toNat
    rcases Int.lt_or_le (e + d - 1) t with c | c
    · have h := half_scale hu (hq2 c)
      rw [← p2_toNat_add (by omega) (by omega), show t - (e + d - 1) + (e + d - 1 - B) = t - B by omega] at h
      exact h
    · have hT := p2_pos (t - B).toNat
      have := half_exact (q := q) hT
      rw [show 2 * q * p2 (t - B).toNat = 2 * (2 * (A / p2 d) + st) * p2 (e + d - 1 - B).toNat by
        rw [hq1 c, show e + d - 1 - B = (e + d - 1 - t) + (t - B) by omega, p2_toNat_add (by omega) (by omega), ← Int.mul_assoc, ← Int.mul_assoc]] at this
      exact this
  -- that of the number itself
  have hhalf : ∀ B, B ≤ e - 1 → B ≤ L → Half q (p2 (t - B).toNat) (2 * sc (2 * A + mb) (e - 1) B) := by
    intro B hB hBL
    have hc := hcut B hB hBL
    unfold sc
    rcases Nat.eq_zero_or_pos d with c | c
    · have e0 : p2 d = 1 := by rw [c]; rfl
      rw [e0, Int.ediv_one] at hc
      have hs : st = mb := by
        rw [e0, Int.emod_one] at hst
        rcases hst with ⟨h1, _, h2⟩ | ⟨h1, h2⟩ <;> omega
      rw [hs, show e + (d : Int) - 1 - B = e - 1 - B by omega, Int.mul_assoc] at hc
      exact hc
    · have hD := p2_pos d
      have hu := p2_pos (e - 1 - B).toNat
      have eT : p2 (e + d - 1 - B).toNat = p2 d * p2 (e - 1 - B).toNat := by
        rw [show e + (d : Int) - 1 - B = (d : Int) + (e - 1 - B) by omega, p2_toNat_add (by omega) (by omega), Int.toNat_natCast]
      have gap : 10 ≤ t - (e + d - 1) := by omega
      have eTT : p2 (t - B).toNat = p2 (t - (e + d - 1) - 2).toNat * (4 * p2 d * p2 (e - 1 - B).toNat) := by
        rw [show t - B = (t - (e + d - 1) - 2) + (2 + (e + d - 1 - B)) by omega, p2_toNat_add (by omega) (by omega), p2_toNat_add (by omega) (by omega), eT, show p2 (2 : Int).toNat = 4 from rfl, Int.mul_assoc 4]
      rw [eT] at hc
      generalize p2 (t - (e + d - 1) - 2).toNat = kk at eTT
      generalize p2 (e - 1 - B).toNat = u at *
      have hr0 := Int.emod_nonneg A (b := p2 d) (by omega)
      have hr1 := Int.emod_lt_of_pos A hD
      have hdm := Int.mul_ediv_add_emod A (p2 d)
      generalize A % p2 d = rest at *
      generalize A / p2 d = top at *
      generalize p2 d = D at *
      have hDu : 0 < D * u := Int.mul_pos hD hu
      have v1 : 2 * (2 * top + st) * (D * u) = top * (4 * D * u) + 2 * st * (D * u) := by grind
      have v2 : 2 * ((2 * A + mb) * u) = top * (4 * D * u) + 2 * (2 * rest + mb) * u := by rw [← hdm]; grind
      rw [v1] at hc
      rw [v2]
      have z1 : 4 * D * u = 4 * (D * u) := Int.mul_assoc 4 D u
      refine half_sticky (Z := 4 * D * u) (by omega) eTT ?_ ?_ ?_ ?_ ?_ hc
      · exact Int.mul_nonneg (by omega) (by omega)
      · have h1 : (2 * (2 * rest + mb)) * u < (4 * D) * u := Int.mul_lt_mul_of_pos_right (by omega) hu
        exact h1
      · exact Int.mul_nonneg (by omega) (by omega)
      · have h1 : (2 * st) * (D * u) < 4 * (D * u) := Int.mul_lt_mul_of_pos_right (by omega) hDu
        omega
      · constructor
        · intro h
          have h1 : 2 * (2 * rest + mb) = 0 := by
            rcases Int.mul_eq_zero.1 h with h | h
            · exact h
            · omega
          have : st = 0 := by rcases hst with ⟨h2, _⟩ | ⟨_, h2⟩ <;> omega
          rw [this]; simp
        · intro h
          have h1 : 2 * st = 0 := by
            rcases Int.mul_eq_zero.1 h with h | h
            · exact h
            · omega
          have h2 : 2 * (2 * rest + mb) = 0 := by rcases hst with ⟨h2, h3, h4⟩ | ⟨h2, h3⟩ <;> omega
          rw [h2, Int.zero_mul]
  -- the number lies between two powers
  have hnum1 : 2 * A + mb < 2 * p2 size := by have := hlen.1; omega
  have hnum0 : p2 size ≤ 2 * A + mb := by
    rcases Nat.eq_zero_or_pos size with c | c
    · subst c
      simp only [p2]
      omega
    · have := hlen.2 c
      obtain ⟨n, rfl⟩ : ∃ n, size = n + 1 := ⟨size - 1, by omega⟩
      rw [Nat.add_sub_cancel] at this
      simp only [p2]
      omega
  have hlow : L < t → ∀ B, B ≤ e - 1 → B ≤ L → 2 * F * p2 (t - B).toNat ≤ 2 * sc (2 * A + mb) (e - 1) B := by
    intro hl B hB hBL
    have ht' : t = e + size - 1 - fr := by omega
    unfold sc
    have h1 : 2 * F * p2 (t - B).toNat = 2 * (p2 size * p2 (e - 1 - B).toNat) := by
      rw [hfr, Int.mul_assoc, show p2 fr = p2 ((fr : Int)).toNat by rw [Int.toNat_natCast], ← p2_toNat_add (by omega) (by omega), show p2 size = p2 ((size : Int)).toNat by rw [Int.toNat_natCast], ← p2_toNat_add (by omega) (by omega)]
      congr 3
      omega
    rw [h1]
    have hu := p2_pos (e - 1 - B).toNat
    have := Int.mul_le_mul_of_nonneg_right hnum0 (c := p2 (e - 1 - B).toNat) (by omega)
    omega
  have hB1 : min (e - 1) L ≤ e - 1 := by omega
  have hB2 : min (e - 1) L ≤ L := by omega
  have hh := hhalf (min (e - 1) L) hB1 hB2
  have hT := p2_pos (t - min (e - 1) L).toNat
  have hup : 2 * sc (2 * A + mb) (e - 1) (min (e - 1) L) < 4 * F * p2 (t - min (e - 1) L).toNat := by
    unfold sc
    have hu := p2_pos (e - 1 - min (e - 1) L).toNat
    have h1 : (2 * A + mb) * p2 (e - 1 - min (e - 1) L).toNat < 2 * p2 size * p2 (e - 1 - min (e - 1) L).toNat := Int.mul_lt_mul_of_pos_right hnum1 hu
    have h2 : 2 * p2 size * p2 (e - 1 - min (e - 1) L).toNat = p2 (size + 1 + (e - 1 - min (e - 1) L)).toNat := by
      rw [show ((size : Int) + 1 + (e - 1 - min (e - 1) L)) = ((size + 1 : Nat) : Int) + (e - 1 - min (e - 1) L) by omega, p2_toNat_add (by omega) (by omega), Int.toNat_natCast, p2]
    have h3 : 4 * F * p2 (t - min (e - 1) L).toNat = 2 * p2 (fr + 1 + (t - min (e - 1) L)).toNat := by
      rw [show ((fr : Int) + 1 + (t - min (e - 1) L)) = ((fr + 1 : Nat) : Int) + (t - min (e - 1) L) by omega, p2_toNat_add (by omega) (by omega), Int.toNat_natCast, p2, hfr, show (4 : Int) * p2 fr = 2 * (2 * p2 fr) by omega, Int.mul_assoc 2]
    have h4 := p2_mono (m := (size + 1 + (e - 1 - min (e - 1) L)).toNat) (n := (fr + 1 + (t - min (e - 1) L)).toNat) (by omega)
    rw [h3]
    rw [h2] at h1
    omega
  have hq2F : q ≤ 2 * F := by
    rcases Int.lt_or_le (2 * F) q with c | c
    · have h1 := hh.1
      have h2 : (2 * F + 1) * (2 * p2 (t - min (e - 1) L).toNat) ≤ q * (2 * p2 (t - min (e - 1) L).toNat) := Int.mul_le_mul_of_nonneg_right (by omega) (by omega)
      generalize p2 (t - min (e - 1) L).toNat = T at *
      have e1 : q * (2 * T) = 2 * q * T := by grind
      have e2 : (2 * F + 1) * (2 * T) = 4 * F * T + 2 * T := by grind
      omega
    · exact c
  have hqF : t = L ∨ F ≤ q := by
    rcases Int.lt_or_eq_of_le tL with c | c
    · right
      have h1 := hlow c _ hB1 hB2
      have h2 := hh.2.1
      rcases Int.lt_or_le q F with c2 | c2
      · have h3 : q * (2 * p2 (t - min (e - 1) L).toNat) ≤ (F - 1) * (2 * p2 (t - min (e - 1) L).toNat) := Int.mul_le_mul_of_nonneg_right (by omega) (by omega)
        generalize p2 (t - min (e - 1) L).toNat = T at *
        have e1 : q * (2 * T) = 2 * q * T := by grind
        have e2 : (F - 1) * (2 * T) = 2 * F * T - 2 * T := by grind
        omega
      · exact c2
    · left; exact c.symm
  have hrI : q + (t - L) * F ≤ I := by
    have h1 : (t - L) * F ≤ (lim - 1 - fr - L) * F := Int.mul_le_mul_of_nonneg_right (by omega) (by omega)
    have h2 : (lim + 1 - fr - L) * F = (lim - 1 - fr - L) * F + 2 * F := by rw [show lim + 1 - fr - L = (lim - 1 - fr - L) + 2 by omega, Int.add_mul]
    omega
  refine ⟨hq2F, hqF, hrI, near_pattern hF0 ?_ tL q0 hq2F hqF hrI hhalf hlow⟩
  rw [hfr]
  obtain ⟨n, rfl⟩ : ∃ n, fr = n + 1 := ⟨fr - 1, by omega⟩
  rw [p2]
  omega
/-- nothing, or far too little -/
theorem near_low {F L I A mb e : Int} {size : Nat} (hF : 1 < F) (hI : 0 < I) (hA : 0 ≤ A) (hlen : IsLen A size) (hmb : mb = 0 ∨ mb = 1) (h : (size = 0 ∧ mb = 0) ∨ e < L - size) : Near F L I (2 * A + mb) (e - 1) 0 := by
  refine ⟨by omega, by omega, fun B hB hBL => ⟨fun _ => ?_, fun h => by omega⟩⟩
  have e0 : um F L B 0 = 0 := by unfold um sc mst; rw [if_pos (by omega), Int.zero_mul]
  have e1 : um F L B (0 + 1) = p2 (L - B).toNat := by rw [um_succ (by omega) (by omega) hBL, e0, Int.zero_add]; unfold est; rw [if_pos (by omega)]
  rw [e0, e1, Int.zero_add]
  have hT := p2_pos (L - B).toNat
  unfold sc
  rcases h with ⟨h1, h2⟩ | h
  · subst h1
    have := hlen.1
    simp only [p2] at this
    have hz : 2 * A + mb = 0 := by omega
    rw [hz, Int.zero_mul, Int.mul_zero]
    exact ⟨by omega, fun e => by omega⟩
  · have hnum1 : 2 * A + mb < 2 * p2 size := by have := hlen.1; omega
    have hu := p2_pos (e - 1 - B).toNat
    have h1 : (2 * A + mb) * p2 (e - 1 - B).toNat < 2 * p2 size * p2 (e - 1 - B).toNat := Int.mul_lt_mul_of_pos_right hnum1 hu
    have h2 : 2 * (2 * p2 size * p2 (e - 1 - B).toNat) = p2 (size + 2 + (e - 1 - B)).toNat := by
      rw [show ((size : Int) + 2 + (e - 1 - B)) = ((size + 2 : Nat) : Int) + (e - 1 - B) by omega, p2_toNat_add (by omega) (by omega), Int.toNat_natCast, p2, p2, ← Int.mul_assoc]
    have h4 := p2_mono (m := (size + 2 + (e - 1 - B)).toNat) (n := (L - B).toNat) (by omega)
    exact ⟨by omega, fun e => by omega⟩
/-- far too great -/
theorem near_high {F L I A mb e lim : Int} {fr size : Nat} (hfr : F = p2 fr) (hI : I = (lim + 1 - fr - L) * F) (hlim : L ≤ lim - 1 - fr) (hA : 0 ≤ A) (hlen : IsLen A size) (hmb : mb = 0 ∨ mb = 1) (hz : ¬ (size = 0 ∧ mb = 0)) (h : lim - size < e) : Near F L I (2 * A + mb) (e - 1) I := by
  have hF0 : 0 < F := by rw [hfr]; exact p2_pos fr
  have hI0 : 2 * F ≤ I := by
    have h1 : 2 * F ≤ (lim + 1 - fr - L) * F := Int.mul_le_mul_of_nonneg_right (by omega) (by omega)
    omega
  refine ⟨by omega, by omega, fun B hB hBL => ⟨fun h => by omega, fun _ => ?_⟩⟩
  have hIq : I = F * (lim + 1 - fr - L) := by rw [hI, Int.mul_comm]
  have eI : um F L B I = p2 (lim - B).toNat := by
    unfold um sc mst est
    rw [if_neg (by omega), if_neg (by omega), hIq, Int.mul_emod_right, Int.mul_ediv_cancel_left _ (by omega), Int.zero_add, hfr, show L - 1 + (lim + 1 - fr - L) - B = lim - fr - B by omega, show p2 fr = p2 ((fr : Int)).toNat by rw [Int.toNat_natCast], ← p2_toNat_add (by omega) (by omega)]
    congr 2
    omega
  have hs := um_lt (F := F) (L := L) (B := B) (s := I - 1) hF0 (by omega) hBL
  rw [Int.sub_add_cancel, eI] at hs
  rw [eI]
  have hnum0 : p2 size ≤ 2 * A + mb := by
    rcases Nat.eq_zero_or_pos size with c | c
    · subst c
      simp only [p2]
      omega
    · have := hlen.2 c
      obtain ⟨n, rfl⟩ : ∃ n, size = n + 1 := ⟨size - 1, by omega⟩
      rw [Nat.add_sub_cancel] at this
      simp only [p2]
      omega
  unfold sc
  have hu := p2_pos (e - 1 - B).toNat
  have h1 := Int.mul_le_mul_of_nonneg_right hnum0 (c := p2 (e - 1 - B).toNat) (by omega)
  have h2 : p2 size * p2 (e - 1 - B).toNat = p2 (size + (e - 1 - B)).toNat := by rw [p2_toNat_add (by omega) (by omega), Int.toNat_natCast]
  have h4 := p2_mono (m := (lim - B).toNat) (n := (size + (e - 1 - B)).toNat) (by omega)
  exact ⟨by omega, fun e => by omega⟩

end Go.Proofs.YtjigofmcflmelaaGreatDoor

namespace Go.Proofs.YtjigofmcflmelaaGreatDoor
open Go.RowKit

set_option maxRecDepth 100000 in
set_option maxHeartbeats 4000000 in
theorem len64_any (x : Int) (w : World) (hx0 : 0 ≤ x) (hx1 : x < 18446744073709551616) :
    Calls Tryz.prog 216 #[.int .u64 x] w fun e w' => ∃ k : Nat, e = .returned (.int .i64 k) ∧ IsLen x k ∧ k ≤ 64 ∧ w' = w := by
  have hsz := lenTab_size
  by_cases h1 : x < 4294967296
  · by_cases h2 : x < 65536
    · by_cases h3 : x < 256
      · skip
        have a1 : ¬ 4294967296 ≤ x := by omega
        have a2 : ¬ 65536 ≤ x := by omega
        have a3 : ¬ 256 ≤ x := by omega
        go_enter Tryz.func216, Tryz.ntmps216
        go_wp2
        go_ret
        have hs' : (x).toNat < lenTab.size := by omega
        obtain ⟨t1, t2⟩ := tab_at (x) (by omega) (by omega) hs'
        refine ⟨(lenTab[(x).toNat]'hs').toNat, ?_, t1, by omega, rfl⟩
        refine ret_int ?_
        generalize hN : (lenTab[(x).toNat]'hs').toNat = N at t2 ⊢
        show wrap64 (wrap64 (((lenTab[(x).toNat]'hs').toNat : Nat) : Int)) = _
        rw [hN]
        unfold wrap64; omega
      · skip
        have a1 : ¬ 4294967296 ≤ x := by omega
        have a2 : ¬ 65536 ≤ x := by omega
        have a3 : 256 ≤ x := by omega
        go_enter Tryz.func216, Tryz.ntmps216
        go_wp2
        go_ret
        have hs' : ((x / 256)).toNat < lenTab.size := by omega
        obtain ⟨t1, t2⟩ := tab_at ((x / 256)) (by omega) (by omega) hs'
        have t3 := isLen_shift (P := 256) (m := 8) (by decide) t1 (len_pos t1 (by omega))
        refine ⟨(lenTab[((x / 256)).toNat]'hs').toNat + 8, ?_, t3, by omega, rfl⟩
        refine ret_int ?_
        generalize hN : (lenTab[((x / 256)).toNat]'hs').toNat = N at t2 ⊢
        show wrap64 (8 + wrap64 (((lenTab[((x / 256)).toNat]'hs').toNat : Nat) : Int)) = _
        rw [hN]
        unfold wrap64; omega
    · by_cases h3 : x / 65536 < 256
      · skip
        have a1 : ¬ 4294967296 ≤ x := by omega
        have a2 : 65536 ≤ x := by omega
        have a3 : ¬ 256 ≤ (x / 65536) := by omega
        go_enter Tryz.func216, Tryz.ntmps216
        go_wp2
        go_ret
        have hs' : ((x / 65536)).toNat < lenTab.size := by omega
        obtain ⟨t1, t2⟩ := tab_at ((x / 65536)) (by omega) (by omega) hs'
        have t3 := isLen_shift (P := 65536) (m := 16) (by decide) t1 (len_pos t1 (by omega))
        refine ⟨(lenTab[((x / 65536)).toNat]'hs').toNat + 16, ?_, t3, by omega, rfl⟩
        refine ret_int ?_
        generalize hN : (lenTab[((x / 65536)).toNat]'hs').toNat = N at t2 ⊢
        show wrap64 (16 + wrap64 (((lenTab[((x / 65536)).toNat]'hs').toNat : Nat) : Int)) = _
        rw [hN]
        unfold wrap64; omega
      · skip
        have a1 : ¬ 4294967296 ≤ x := by omega
        have a2 : 65536 ≤ x := by omega
        have a3 : 256 ≤ (x / 65536) := by omega
        go_enter Tryz.func216, Tryz.ntmps216
        go_wp2
        go_ret
        have hs' : (((x / 65536) / 256)).toNat < lenTab.size := by omega
        obtain ⟨t1, t2⟩ := tab_at (((x / 65536) / 256)) (by omega) (by omega) hs'
        have t3 := isLen_shift (P := 256) (m := 8) (by decide) t1 (len_pos t1 (by omega))
        have t4 := isLen_shift (P := 65536) (m := 16) (by decide) t3 (by omega)
        refine ⟨(lenTab[(((x / 65536) / 256)).toNat]'hs').toNat + 8 + 16, ?_, t4, by omega, rfl⟩
        refine ret_int ?_
        generalize hN : (lenTab[(((x / 65536) / 256)).toNat]'hs').toNat = N at t2 ⊢
        show wrap64 (24 + wrap64 (((lenTab[(((x / 65536) / 256)).toNat]'hs').toNat : Nat) : Int)) = _
        rw [hN]
        unfold wrap64; omega
  · by_cases h2 : x / 4294967296 < 65536
    · by_cases h3 : x / 4294967296 < 256
      · skip
        have a1 : 4294967296 ≤ x := by omega
        have a2 : ¬ 65536 ≤ (x / 4294967296) := by omega
        have a3 : ¬ 256 ≤ (x / 4294967296) := by omega
        go_enter Tryz.func216, Tryz.ntmps216
        go_wp2
        go_ret
        have hs' : ((x / 4294967296)).toNat < lenTab.size := by omega
        obtain ⟨t1, t2⟩ := tab_at ((x / 4294967296)) (by omega) (by omega) hs'
        have t3 := isLen_shift (P := 4294967296) (m := 32) (by decide) t1 (len_pos t1 (by omega))
        refine ⟨(lenTab[((x / 4294967296)).toNat]'hs').toNat + 32, ?_, t3, by omega, rfl⟩
        refine ret_int ?_
        generalize hN : (lenTab[((x / 4294967296)).toNat]'hs').toNat = N at t2 ⊢
        show wrap64 (32 + wrap64 (((lenTab[((x / 4294967296)).toNat]'hs').toNat : Nat) : Int)) = _
        rw [hN]
        unfold wrap64; omega
      · skip
        have a1 : 4294967296 ≤ x := by omega
        have a2 : ¬ 65536 ≤ (x / 4294967296) := by omega
        have a3 : 256 ≤ (x / 4294967296) := by omega
        go_enter Tryz.func216, Tryz.ntmps216
        go_wp2
        go_ret
        have hs' : (((x / 4294967296) / 256)).toNat < lenTab.size := by omega
        obtain ⟨t1, t2⟩ := tab_at (((x / 4294967296) / 256)) (by omega) (by omega) hs'
        have t3 := isLen_shift (P := 256) (m := 8) (by decide) t1 (len_pos t1 (by omega))
        have t4 := isLen_shift (P := 4294967296) (m := 32) (by decide) t3 (by omega)
        refine ⟨(lenTab[(((x / 4294967296) / 256)).toNat]'hs').toNat + 8 + 32, ?_, t4, by omega, rfl⟩
        refine ret_int ?_
        generalize hN : (lenTab[(((x / 4294967296) / 256)).toNat]'hs').toNat = N at t2 ⊢
        show wrap64 (40 + wrap64 (((lenTab[(((x / 4294967296) / 256)).toNat]'hs').toNat : Nat) : Int)) = _
        rw [hN]
        unfold wrap64; omega
    · by_cases h3 : x / 4294967296 / 65536 < 256
      · skip
        have a1 : 4294967296 ≤ x := by omega
        have a2 : 65536 ≤ (x / 4294967296) := by omega
        have a3 : ¬ 256 ≤ ((x / 4294967296) / 65536) := by omega
        go_enter Tryz.func216, Tryz.ntmps216
        go_wp2
        go_ret
        have hs' : (((x / 4294967296) / 65536)).toNat < lenTab.size := by omega
        obtain ⟨t1, t2⟩ := tab_at (((x / 4294967296) / 65536)) (by omega) (by omega) hs'
        have t3 := isLen_shift (P := 65536) (m := 16) (by decide) t1 (len_pos t1 (by omega))
        have t4 := isLen_shift (P := 4294967296) (m := 32) (by decide) t3 (by omega)
        refine ⟨(lenTab[(((x / 4294967296) / 65536)).toNat]'hs').toNat + 16 + 32, ?_, t4, by omega, rfl⟩
        refine ret_int ?_
        generalize hN : (lenTab[(((x / 4294967296) / 65536)).toNat]'hs').toNat = N at t2 ⊢
        show wrap64 (48 + wrap64 (((lenTab[(((x / 4294967296) / 65536)).toNat]'hs').toNat : Nat) : Int)) = _
        rw [hN]
        unfold wrap64; omega
      · skip
        have a1 : 4294967296 ≤ x := by omega
        have a2 : 65536 ≤ (x / 4294967296) := by omega
        have a3 : 256 ≤ ((x / 4294967296) / 65536) := by omega
        go_enter Tryz.func216, Tryz.ntmps216
        go_wp2
        go_ret
        have hs' : ((((x / 4294967296) / 65536) / 256)).toNat < lenTab.size := by omega
        obtain ⟨t1, t2⟩ := tab_at ((((x / 4294967296) / 65536) / 256)) (by omega) (by omega) hs'
        have t3 := isLen_shift (P := 256) (m := 8) (by decide) t1 (len_pos t1 (by omega))
        have t4 := isLen_shift (P := 65536) (m := 16) (by decide) t3 (by omega)
        have t5 := isLen_shift (P := 4294967296) (m := 32) (by decide) t4 (by omega)
        refine ⟨(lenTab[((((x / 4294967296) / 65536) / 256)).toNat]'hs').toNat + 8 + 16 + 32, ?_, t5, by omega, rfl⟩
        refine ret_int ?_
        generalize hN : (lenTab[((((x / 4294967296) / 65536) / 256)).toNat]'hs').toNat = N at t2 ⊢
        show wrap64 (56 + wrap64 (((lenTab[((((x / 4294967296) / 65536) / 256)).toNat]'hs').toNat : Nat) : Int)) = _
        rw [hN]
        unfold wrap64; omega

end Go.Proofs.YtjigofmcflmelaaGreatDoor

namespace Go.Proofs.YtjigofmcflmelaaGreatDoor
open Go.RowKit

theorem p2_pow (n : Nat) : p2 n = (2 : Int) ^ n := by
  induction n with
  | zero => rfl
  | succ n ih => simp only [p2]; rw [ih, Int.pow_succ, Int.mul_comm]
theorem p2_cast (n : Nat) : p2 n = ((2 ^ n : Nat) : Int) := by rw [p2_pow]; simp
theorem p2_split {n : Nat} (hn : n ≤ 32) : p2 n * p2 (32 - n) = 4294967296 := by
  rw [← p2_add, show n + (32 - n) = 32 by omega]; decide

/-- the product of a limb with a power: what stays, what goes on -/
theorem shl_parts {x : Int} {P Q : Int} (hP : 0 < P) (hQ : 0 < Q) (hPQ : P * Q = 4294967296) : x * P % 4294967296 = (x % Q) * P ∧ x * P / 4294967296 = x / Q := by
  have h1 : x * P = (x % Q) * P + 4294967296 * (x / Q) := by
    have e := Int.emod_add_mul_ediv x Q
    have e2 : (x % Q + Q * (x / Q)) * P = x * P := by rw [e]
    rw [Int.add_mul] at e2
    rw [← hPQ, ← e2, Int.mul_comm P Q, Int.mul_assoc, Int.mul_assoc, Int.mul_comm P]
  have h2 : 0 ≤ (x % Q) * P := Int.mul_nonneg (Int.emod_nonneg _ (by omega)) (by omega)
  have h3 : (x % Q) * P < 4294967296 := by
    have : (x % Q + 1) * P ≤ Q * P := Int.mul_le_mul_of_nonneg_right (by have := Int.emod_lt_of_pos x hQ; omega) (by omega)
    rw [Int.add_mul, Int.mul_comm Q P, hPQ] at this
    omega
  have := (Int.ediv_emod_unique (a := x * P) (b := 4294967296) (r := (x % Q) * P) (q := x / Q) (by decide)).2 ⟨h1.symm, h2, h3⟩
  exact ⟨this.2, this.1⟩

/-- bits that do not meet are added -/
theorem or_add {n : Nat} {a c : Int} (ha : 0 ≤ a) (hc0 : 0 ≤ c) (hc1 : c < p2 n) (hlt : a * p2 n + c < 4294967296) : bits .or .u32 (a * p2 n) c = a * p2 n + c ∧ bits .or .u32 c (a * p2 n) = a * p2 n + c := by
  obtain ⟨A, rfl⟩ := Int.eq_ofNat_of_zero_le ha
  obtain ⟨C, rfl⟩ := Int.eq_ofNat_of_zero_le hc0
  rw [p2_cast] at *
  have e : ((A : Int) * ((2 ^ n : Nat) : Int)) = ((A * 2 ^ n : Nat) : Int) := by simp
  rw [e] at hlt ⊢
  have hA : 0 ≤ A * 2 ^ n := Nat.zero_le _
  have hj := nat_join n (A * 2 ^ n) C (Nat.mul_mod_left _ _) (by omega)
  rw [u32_or_nat _ _ (by omega) (by omega), u32_or_nat _ _ (by omega) (by omega), Nat.or_comm C, hj]
  omega

theorem raise_digit {x c : Int} {n : Nat} (hn : n < 32) (hx0 : 0 ≤ x) (hx1 : x < 4294967296) (hc0 : 0 ≤ c) (hc1 : c < p2 n) :
    (0 ≤ bits .or .u32 (x * 2 ^ n % 4294967296) c ∧ bits .or .u32 (x * 2 ^ n % 4294967296) c < 4294967296) ∧ (0 ≤ x / 2 ^ (32 - n) ∧ x / 2 ^ (32 - n) < p2 n) ∧
      bits .or .u32 (x * 2 ^ n % 4294967296) c + (x / 2 ^ (32 - n)) * 4294967296 = x * p2 n + c := by
  rw [← p2_pow, ← p2_pow]
  have hP := p2_pos n
  have hQ := p2_pos (32 - n)
  have hPQ := p2_split (n := n) (by omega)
  obtain ⟨h1, h2⟩ := shl_parts (x := x) hP hQ hPQ
  rw [h1]
  have hr0 := Int.emod_nonneg x (b := p2 (32 - n)) (by omega)
  have hr1 := Int.emod_lt_of_pos x hQ
  have hlt : x % p2 (32 - n) * p2 n + c < 4294967296 := by
    have : (x % p2 (32 - n) + 1) * p2 n ≤ p2 (32 - n) * p2 n := Int.mul_le_mul_of_nonneg_right (by omega) (by omega)
    rw [Int.add_mul, Int.mul_comm (p2 (32 - n)) (p2 n), hPQ] at this
    omega
  have hnn : 0 ≤ x % p2 (32 - n) * p2 n := Int.mul_nonneg hr0 (by omega)
  rw [(or_add hr0 hc0 hc1 hlt).1]
  refine ⟨⟨by omega, hlt⟩, ⟨Int.ediv_nonneg hx0 (by omega), Int.ediv_lt_of_lt_mul hQ (by rw [hPQ]; exact hx1)⟩, ?_⟩
  have e := Int.emod_add_mul_ediv (x * p2 n) 4294967296
  rw [h1, h2] at e
  omega

theorem raise_step {os zs : List Int} {off k : Nat} {q D q' P : Int} (hk : off + k < zs.length) (hd : D + q' * 4294967296 = Nt.lb os (off + k) * P + q)
    (h : Nt.vt zs (off + k) + q * Nt.pw (off + k) = Nt.vt os off + P * (Nt.vt os (off + k) - Nt.vt os off)) :
    Nt.vt (zs.set (off + k) D) (off + (k + 1)) + q' * Nt.pw (off + (k + 1)) = Nt.vt os off + P * (Nt.vt os (off + (k + 1)) - Nt.vt os off) := by
  rw [← Nat.add_assoc, Nt.vt_succ, Nt.vt_set (Nat.le_refl _), Nt.lb_set_eq hk, Nt.vt_succ, Nt.pw_succ]
  have e2 : (D + q' * 4294967296) * Nt.pw (off + k) = (Nt.lb os (off + k) * P + q) * Nt.pw (off + k) := by rw [hd]
  rw [Int.add_mul, Int.add_mul, Int.mul_assoc q'] at e2
  rw [Int.mul_sub] at h
  rw [Int.mul_sub, Int.mul_add]
  rw [← Int.mul_assoc P, Int.mul_comm P (Nt.lb os (off + k))]
  omega

set_option maxHeartbeats 1000000 in
theorem raise_any {w0 w : World} {ro : Option Addr} {rc g off n L : Nat} {os : List Int} (hb : Below w0.heap.size w0 w) (hg : w0.heap.size ≤ g) (hn : n < 32) (hL : L ≤ 2199023255552)
    (hr : Row .u32 48 w g os) (hoo : Nt.Ok os) (hfit : off + L ≤ os.length) (hro : 0 < L → ro = some ⟨g, off, none⟩) :
    Calls Tryz.prog 199 #[.slice ro L rc, .int .u64 n] w fun e w' => ∃ (c : Int) (zs : List Int), e = .returned (.tuple #[]) ∧ zs.length = os.length ∧ Nt.Ok zs ∧
      (∀ j, j < off ∨ off + L ≤ j → Nt.lb zs j = Nt.lb os j) ∧ Nt.vt zs (off + L) + c * Nt.pw (off + L) = Nt.vt os off + p2 n * (Nt.vt os (off + L) - Nt.vt os off) ∧ (0 < L → c = Nt.lb os (off + L - 1) / p2 (32 - n)) ∧ Row .u32 48 w' g zs ∧ Below w0.heap.size w0 w' := by
  go_enter Tryz.func199, Tryz.ntmps199
  go_wp2
  go_loopw [4, 9] (fun c i wr => ∃ (k : Nat) (q : Int) (zs : List Int), k ≤ L ∧ i = .int .i64 k ∧ c = .int .u32 q ∧ 0 ≤ q ∧ q < p2 n ∧ zs.length = os.length ∧ Nt.Ok zs ∧ (∀ j, j < off ∨ off + k ≤ j → Nt.lb zs j = Nt.lb os j) ∧
      Row .u32 48 wr g zs ∧ Below w0.heap.size w0 wr ∧ Nt.vt zs (off + k) + q * Nt.pw (off + k) = Nt.vt os off + p2 n * (Nt.vt os (off + k) - Nt.vt os off) ∧ (0 < k → q = Nt.lb os (off + k - 1) / p2 (32 - n))) (fun _ i _ => L - (intOf i).toNat)
  case atStart => exact ⟨0, 0, os, by omega, rfl, rfl, by omega, p2_pos n, rfl, hoo, fun _ _ => rfl, hr, hb, by simp, fun h => by omega⟩
  case round =>
    obtain ⟨k, q, zs, hk, rfl, rfl, hq0, hq1, hzl, hzo, hsame, hrow, hbr, heq, hqe⟩ := hrel
    have Heq := hide heq
    have Hzl := hide hzl
    have Hs := hide hsame
    have Hq := hide hq1
    have Hqe := hide hqe
    clear heq hzl hsame hr hb hqe hq1
    by_cases hkl : k < L
    · have hR := hro (by omega)
      subst hR
      have g2 := hrow.cell (i := off + k) (by have := Hzl.out; omega)
      have hfz := hrow.frozen (off + k)
      obtain ⟨bz0, bz1⟩ := hzo (off + k)
      have hn32 : (n : Int) < 32 := by omega
      obtain ⟨⟨d0, d1⟩, ⟨c0, c1⟩, hd⟩ := raise_digit hn bz0 bz1 hq0 Hq.out
      have Hd0 := hide d0
      have Hd1 := hide d1
      have Hc0 := hide c0
      have Hc1 := hide c1
      have Hd := hide hd
      clear d0 d1 c0 c1 hd
      go_wp2
      go_roundw
      case rel => exact ⟨k + 1, Nt.lb zs (off + k) / 2 ^ (32 - n), zs.set (off + k) (bits BinOp.or IntKind.u32 (Nt.lb zs (off + k) * 2 ^ n % 4294967296) q), by omega, by go_num, rfl, Hc0.out, Hc1.out, by have := Hzl.out; simp [this], Nt.ok_set hzo ⟨Hd0.out, Hd1.out⟩, fun j hj => by
        rw [Nt.lb_set_ne (by omega)]; exact Hs.out j (by omega), hrow.set _ _, hbr.setCell (p := ⟨g, off + k, none⟩) hg _, raise_step (by have := Hzl.out; omega) (by have := Hd.out; rw [← Hs.out (off + k) (by omega)]; exact this) Heq.out, fun _ => by
        rw [p2_pow, show off + (k + 1) - 1 = off + k by omega, ← Hs.out (off + k) (by omega)]⟩
      case measure => simp [intOf]; omega
    · have hke : k = L := by omega
      subst hke
      go_wp2
      go_end0
      exact ⟨q, zs, rfl, Hzl.out, hzo, Hs.out, Heq.out, Hqe.out, hrow, hbr⟩

/-- a limb cut, with what came from above -/
theorem lower_digit {x r : Int} {n : Nat} (hn : n < 32) (hx0 : 0 ≤ x) (hx1 : x < 4294967296) (hr0 : 0 ≤ r) (hr1 : r < p2 n) :
    (0 ≤ bits .or .u32 (x / 2 ^ n) (r * p2 (32 - n)) ∧ bits .or .u32 (x / 2 ^ n) (r * p2 (32 - n)) < 4294967296) ∧ bits .or .u32 (x / 2 ^ n) (r * p2 (32 - n)) = x / p2 n + r * p2 (32 - n) ∧ x * 2 ^ (32 - n) % 4294967296 = (x % p2 n) * p2 (32 - n) := by
  rw [← p2_pow, ← p2_pow]
  have hP := p2_pos n
  have hQ := p2_pos (32 - n)
  have hPQ := p2_split (n := n) (by omega)
  obtain ⟨h1, _⟩ := shl_parts (x := x) hQ hP (by rw [Int.mul_comm]; exact hPQ)
  have q0 : 0 ≤ x / p2 n := Int.ediv_nonneg hx0 (by omega)
  have q1 : x / p2 n < p2 (32 - n) := Int.ediv_lt_of_lt_mul hP (by rw [Int.mul_comm, hPQ]; exact hx1)
  have hlt : r * p2 (32 - n) + x / p2 n < 4294967296 := by
    have : (r + 1) * p2 (32 - n) ≤ p2 n * p2 (32 - n) := Int.mul_le_mul_of_nonneg_right (by omega) (by omega)
    rw [Int.add_mul, hPQ] at this
    omega
  have hnn : 0 ≤ r * p2 (32 - n) := Int.mul_nonneg hr0 (by omega)
  have ho := (or_add (n := 32 - n) hr0 q0 q1 hlt).2
  rw [ho]
  exact ⟨⟨by omega, hlt⟩, by omega, h1⟩

theorem vt_set_gen {zs : List Int} {i : Nat} (hi : i < zs.length) (q : Int) (n : Nat) (hn : i < n) : Nt.vt (zs.set i q) n = Nt.vt zs n + (q - Nt.lb zs i) * Nt.pw i := by
  induction n with
  | zero => omega
  | succ n ih =>
    rw [Nt.vt_succ, Nt.vt_succ]
    by_cases e : i = n
    · subst e; rw [Nt.vt_set (Nat.le_refl _), Nt.lb_set_eq hi, Int.sub_mul]; omega
    · rw [Nt.lb_set_ne e, ih (by omega)]; omega

theorem lower_step {os zs : List Int} {p : Nat} {D r r' P Q : Int} (hp : p < zs.length) (hPQ : P * Q = 4294967296) (hD : D = Nt.lb os p / P + r * Q) (hr' : r' = Nt.lb os p % P)
    (h : (Nt.val zs - Nt.vt zs (p + 1)) * P + r * Nt.pw (p + 1) = Nt.val os - Nt.vt os (p + 1)) :
    (Nt.val (zs.set p D) - Nt.vt (zs.set p D) p) * P + r' * Nt.pw p = Nt.val os - Nt.vt os p := by
  have e0 : Nt.val (zs.set p D) = Nt.val zs + (D - Nt.lb zs p) * Nt.pw p := by
    unfold Nt.val; rw [List.length_set]; exact vt_set_gen hp D _ hp
  rw [e0, Nt.vt_set (Nat.le_refl _)]
  rw [Nt.vt_succ, Nt.vt_succ, Nt.pw_succ] at h
  have e := Int.emod_add_mul_ediv (Nt.lb os p) P
  rw [← hr'] at e
  have e1 : D * P + r' = Nt.lb os p + r * 4294967296 := by
    rw [hD, Int.add_mul, Int.mul_assoc, Int.mul_comm Q P, hPQ, Int.mul_comm (_ / _) P]; omega
  have e2 : (D * P + r') * Nt.pw p = (Nt.lb os p + r * 4294967296) * Nt.pw p := by rw [e1]
  rw [Int.add_mul, Int.add_mul, Int.mul_assoc r] at e2
  have e3 : (Nt.val zs + (D - Nt.lb zs p) * Nt.pw p - Nt.vt zs p) * P = (Nt.val zs - (Nt.vt zs p + Nt.lb zs p * Nt.pw p)) * P + D * P * Nt.pw p := by
    rw [Int.sub_mul D, Int.mul_right_comm D, ← Int.add_mul]
    congr 1
    omega
  rw [e3]
  omega

set_option maxHeartbeats 1000000 in
theorem lower_any {w0 w : World} {g n cap : Nat} {os : List Int} (hb : Below w0.heap.size w0 w) (hg : w0.heap.size ≤ g) (hn : n < 32) (hL : os.length ≤ 1099511627776)
    (hr : Row .u32 48 w g os) (hoo : Nt.Ok os) :
    Calls Tryz.prog 223 #[.slice (some ⟨g, 0, none⟩) os.length cap, .int .u64 n] w fun e w' => ∃ (r : Int) (zs : List Int), e = .returned (.int .u32 (r * p2 (32 - n))) ∧ 0 ≤ r ∧ r < p2 n ∧ zs.length = os.length ∧ Nt.Ok zs ∧
      Nt.val zs * p2 n + r = Nt.val os ∧ Row .u32 48 w' g zs ∧ Below w0.heap.size w0 w' := by
  go_enter Tryz.func223, Tryz.ntmps223
  go_wp2
  go_loopw [5, 11] (fun c i wr => ∃ (k : Nat) (r : Int) (zs : List Int), k ≤ os.length ∧ i = .int .i64 k ∧ c = .int .u32 (r * p2 (32 - n)) ∧ 0 ≤ r ∧ r < p2 n ∧ zs.length = os.length ∧ Nt.Ok zs ∧ (∀ j, j < os.length - k → Nt.lb zs j = Nt.lb os j) ∧
      Row .u32 48 wr g zs ∧ Below w0.heap.size w0 wr ∧ (Nt.val zs - Nt.vt zs (os.length - k)) * p2 n + r * Nt.pw (os.length - k) = Nt.val os - Nt.vt os (os.length - k)) (fun _ i _ => os.length - (intOf i).toNat)
  case atStart => exact ⟨0, 0, os, by omega, rfl, by simp, by omega, p2_pos n, rfl, hoo, fun _ _ => rfl, hr, hb, by simp [Nt.val]⟩
  case round =>
    obtain ⟨k, r, zs, hk, rfl, rfl, hr0, hr1, hzl, hzo, hsame, hrow, hbr, heq⟩ := hrel
    have Heq := hide heq
    have Hzl := hide hzl
    have Hs := hide hsame
    have Hr0 := hide hr0
    have Hr1 := hide hr1
    clear heq hzl hsame hr hb hr0 hr1
    by_cases hkl : k < os.length
    · have g2 := hrow.cell (i := os.length - 1 - k) (by have := Hzl.out; omega)
      have hfz := hrow.frozen (os.length - 1 - k)
      obtain ⟨bz0, bz1⟩ := hzo (os.length - 1 - k)
      have hn32 : (n : Int) < 32 := by omega
      obtain ⟨⟨d0, d1⟩, hd, hc⟩ := lower_digit hn bz0 bz1 Hr0.out Hr1.out
      have Hd0 := hide d0
      have Hd1 := hide d1
      have Hd := hide hd
      have Hc := hide hc
      have hzp := hide (Hs.out (os.length - 1 - k) (by omega))
      clear d0 d1 hd hc
      go_wp2
      go_roundw
      case rel =>
        refine ⟨k + 1, Nt.lb zs (os.length - 1 - k) % p2 n, zs.set (os.length - 1 - k) (bits BinOp.or IntKind.u32 (Nt.lb zs (os.length - 1 - k) / 2 ^ n) (r * p2 (32 - n))), by omega, by go_num, by rw [Hc.out], Int.emod_nonneg _ (by have := p2_pos n; omega), Int.emod_lt_of_pos _ (p2_pos n), by have := Hzl.out; simp [this], Nt.ok_set hzo ⟨Hd0.out, Hd1.out⟩, fun j hj => by
          rw [Nt.lb_set_ne (by omega)]; exact Hs.out j (by omega), hrow.set _ _, hbr.setCell (p := ⟨g, os.length - 1 - k, none⟩) hg _, ?_⟩
        rw [show os.length - (k + 1) = os.length - 1 - k by omega]
        exact lower_step (Q := p2 (32 - n)) (r := r) (by have := Hzl.out; omega) (p2_split (by omega)) (by rw [Hd.out, hzp.out]) (by rw [hzp.out]) (by rw [show os.length - 1 - k + 1 = os.length - k by omega]; exact Heq.out)
      case measure => simp [intOf]; omega
    · have hke : k = os.length := by omega
      subst hke
      go_wp2
      go_ret
      refine ⟨r, zs, rfl, Hr0.out, Hr1.out, Hzl.out, hzo, ?_, hrow, hbr⟩
      have := Heq.out
      rw [Nat.sub_self] at this
      simp only [Nt.vt, Nt.pw, Int.sub_zero, Int.mul_one] at this
      exact this

end Go.Proofs.YtjigofmcflmelaaGreatDoor

namespace Go.Proofs.YtjigofmcflmelaaGreatDoor
open Go.RowKit

/-- -1, 0, 1 -/
def sgn (x y : Int) : Int := if x < y then -1 else if y < x then 1 else 0
theorem sgn_lt {x y : Int} (h : x < y) : sgn x y = -1 := by simp [sgn, h]
theorem sgn_gt {x y : Int} (h : y < x) : sgn x y = 1 := by unfold sgn; rw [if_neg (by omega), if_pos h]
theorem sgn_eq {x y : Int} (h : x = y) : sgn x y = 0 := by subst h; simp [sgn]

set_option maxHeartbeats 1000000 in
theorem compare_int (x y : Int) (w : World) :
    Calls Tryz.prog 220 #[.int .i64 x, .int .i64 y] w fun e w' => e = .returned (.int .i64 (sgn x y)) ∧ w' = w := by
  have hx : (x != x) = false := by simp
  have hy : (y != y) = false := by simp
  rcases Int.lt_trichotomy x y with h | h | h
  · rw [sgn_lt h]
    go_enter Tryz.func220, Tryz.ntmps220
    go_wp2
    go_ret
    exact ⟨rfl, rfl⟩
  · subst h
    rw [sgn_eq rfl]
    go_enter Tryz.func220, Tryz.ntmps220
    go_wp2
    go_ret
    exact ⟨rfl, rfl⟩
  · rw [sgn_gt h]
    have h' : ¬ x < y := by omega
    go_enter Tryz.func220, Tryz.ntmps220
    go_wp2
    go_ret
    exact ⟨rfl, rfl⟩

set_option maxHeartbeats 1000000 in
theorem compare_u32 (x y : Int) (w : World) :
    Calls Tryz.prog 221 #[.int .u32 x, .int .u32 y] w fun e w' => e = .returned (.int .i64 (sgn x y)) ∧ w' = w := by
  have hx : (x != x) = false := by simp
  have hy : (y != y) = false := by simp
  rcases Int.lt_trichotomy x y with h | h | h
  · rw [sgn_lt h]
    go_enter Tryz.func221, Tryz.ntmps221
    go_wp2
    go_ret
    exact ⟨rfl, rfl⟩
  · subst h
    rw [sgn_eq rfl]
    go_enter Tryz.func221, Tryz.ntmps221
    go_wp2
    go_ret
    exact ⟨rfl, rfl⟩
  · rw [sgn_gt h]
    have h' : ¬ x < y := by omega
    go_enter Tryz.func221, Tryz.ntmps221
    go_wp2
    go_ret
    exact ⟨rfl, rfl⟩

set_option maxHeartbeats 1000000 in
theorem cmp_any {w : World} {va vb : Value} {n m : Int} {ka kb : Nat} (ha : Arg w va n ka) (hb : Arg w vb m kb) (hka : ka ≤ 1099511627776) (_hkb : kb ≤ 1099511627776) :
    Calls Tryz.prog 192 #[va, vb] w fun e w' => e = .returned (.int .i64 (sgn n m)) ∧ Below w.heap.size w w' := by
  go_enter Tryz.func192, Tryz.ntmps192
  go_wp2_with fail
  refine (trim_arg ha).mono ?_
  rintro e w' ⟨rfl, ao, xs, rfl, hxk, hxm, hxc, hx, rfl⟩
  go_wp2_with fail
  refine (trim_arg hb).mono ?_
  rintro e w' ⟨rfl, bo, ys, rfl, hyk, hym, hyc, hy, rfl⟩
  clear ha hb
  by_cases hl : xs.length = ys.length
  · have hl1 : ((xs.length : Int) != (ys.length : Int)) = false := by simp [hl]
    have Hl : Hid (xs.length = ys.length) := hl
    clear hl
    go_wp2
    go_loopw [23] (fun i wr => ∃ k : Nat, k ≤ xs.length ∧ i = .int .i64 k ∧ (∀ j, xs.length ≤ j + k → j < xs.length → Nt.lb xs j = Nt.lb ys j) ∧ Below w'.heap.size w' wr) (fun i _ => xs.length - (intOf i).toNat)
    case atStart => exact ⟨0, Nat.zero_le _, rfl, fun j hj h2 => by omega, Below.refl _ _⟩
    case round =>
      obtain ⟨k, hk, rfl, hsame, hbr⟩ := hrel
      have HS : Hid (∀ j, xs.length ≤ j + k → j < xs.length → Nt.lb xs j = Nt.lb ys j) := hsame
      clear hsame
      by_cases hlt : k < xs.length
      · have hlt2 : xs.length - 1 - k < ys.length := by have := Hl.out; omega
        obtain ⟨b1, o1, rfl, _, hc1⟩ := (hxc.below hbr) (by omega)
        obtain ⟨b2, o2, rfl, _, hc2⟩ := (hyc.below hbr) (by omega)
        have g1 := hc1 (xs.length - 1 - k) (by omega)
        have g2 := hc2 (xs.length - 1 - k) hlt2
        clear hc1 hc2 hxc hyc
        by_cases hq : Nt.lb xs (xs.length - 1 - k) = Nt.lb ys (xs.length - 1 - k)
        · have hq' : (Nt.lb xs (xs.length - 1 - k) != Nt.lb ys (xs.length - 1 - k)) = false := by simp [hq]
          have Hq : Hid (Nt.lb xs (xs.length - 1 - k) = Nt.lb ys (xs.length - 1 - k)) := hq
          clear hq
          go_wp2
          go_region
          all_goals go_wp2
          all_goals go_roundw
          all_goals first
            | exact ⟨k + 1, by omega, by go_num, fun j hj h2 => by
                by_cases e : j = xs.length - 1 - k
                · subst e; exact Hq.out
                · exact HS.out j (by omega) h2, by repeat (first | exact hbr | apply Below.drew)⟩
            | (simp [intOf]; omega)
        · have hq' : (Nt.lb xs (xs.length - 1 - k) != Nt.lb ys (xs.length - 1 - k)) = true := by simp [hq]
          have Hq : Hid (¬ Nt.lb xs (xs.length - 1 - k) = Nt.lb ys (xs.length - 1 - k)) := hq
          clear hq
          have hs : sgn (Nt.val xs) (Nt.val ys) = sgn (Nt.lb xs (xs.length - 1 - k)) (Nt.lb ys (xs.length - 1 - k)) := by
            have hll : xs.length = ys.length := Hl.out
            rcases Int.lt_trichotomy (Nt.lb xs (xs.length - 1 - k)) (Nt.lb ys (xs.length - 1 - k)) with h | h | h
            · rw [sgn_lt h, sgn_lt]
              unfold Nt.val
              rw [← hll]
              exact Nt.vt_lt_at hx.1 hy.1 (p := xs.length - 1 - k) (by omega) (fun i a b => HS.out i (by omega) b) h
            · exact absurd h Hq.out
            · rw [sgn_gt h, sgn_gt]
              unfold Nt.val
              rw [← hll]
              exact Nt.vt_lt_at hy.1 hx.1 (p := xs.length - 1 - k) (by omega) (fun i a b => (HS.out i (by omega) b).symm) h
          have HSg : Hid _ := hs
          clear hs
          go_wp2
          go_region
          all_goals go_wp2
          all_goals go_region_with (go_at_call 221; refine (compare_u32 _ _ _).mono ?_; rintro e w2 ⟨rfl, rfl⟩)
          all_goals go_wp2
          all_goals go_ret
          all_goals
            refine ⟨?_, by repeat (first | exact hbr | apply Below.drew)⟩
            rw [HSg.out]
            rfl
      · have hke : k = xs.length := by omega
        subst hke
        go_wp2
        go_ret
        refine ⟨?_, hbr⟩
        rw [sgn_eq]
        · rfl
        · have hll : xs.length = ys.length := Hl.out
          unfold Nt.val
          rw [← hll]
          exact Nt.vt_congr fun i hi => HS.out i (by omega) hi
  · have hl1 : ((xs.length : Int) != (ys.length : Int)) = true := by simp; omega
    have Hl : Hid (¬ xs.length = ys.length) := hl
    clear hl
    have hs : sgn (Nt.val xs) (Nt.val ys) = sgn xs.length ys.length := by
      rcases Nat.lt_trichotomy xs.length ys.length with h | h | h
      · rw [sgn_lt (Nt.canon_lt hx.1 hy h), sgn_lt (by omega)]
      · exact absurd h Hl.out
      · rw [sgn_gt (Nt.canon_lt hy.1 hx h), sgn_gt (by omega)]
    have HSg : Hid _ := hs
    clear hs
    go_wp2_with (go_at_call 220; refine (compare_int _ _ _).mono ?_; rintro e w2 ⟨rfl, rfl⟩)
    go_ret
    refine ⟨?_, Below.refl _ _⟩
    rw [HSg.out]
    rfl

end Go.Proofs.YtjigofmcflmelaaGreatDoor

namespace Go.Proofs.YtjigofmcflmelaaGreatDoor
open Go.RowKit

end Go.Proofs.YtjigofmcflmelaaGreatDoor

namespace Go.Proofs.YtjigofmcflmelaaGreatDoor
set_option linter.unusedVariables false

theorem mst_top {F s : Int} (hF : 0 < F) (s0 : 0 ≤ s) : mst F s ≤ 2 * F - 1 := by
  unfold mst
  split
  · omega
  · have := Int.emod_lt_of_pos s hF; omega
theorem sgn_scale {x y c : Int} (hc : 0 < c) : sgn (x * c) (y * c) = sgn x y := by
  unfold sgn
  have h1 : x * c < y * c ↔ x < y := ⟨fun h => Int.lt_of_mul_lt_mul_right h (Int.le_of_lt hc), fun h => Int.mul_lt_mul_of_pos_right h hc⟩
  have h2 : y * c < x * c ↔ y < x := ⟨fun h => Int.lt_of_mul_lt_mul_right h (Int.le_of_lt hc), fun h => Int.mul_lt_mul_of_pos_right h hc⟩
  simp only [h1, h2]
def b2i' (b : Bool) : Int := if b then 1 else 0
/-- what stands behind so many digits says no more than that something does -/
def Stick (A : Int) (mb : Bool) (e A' : Int) (mb' : Bool) (e' : Int) : Prop :=
  (A' = A ∧ mb' = mb ∧ e' = e) ∨ ∃ d : Nat, A' = A / p2 d ∧ e' = e + d ∧ p2 100 ≤ A' ∧ mb' = (mb || decide (0 < A % p2 d))
end Go.Proofs.YtjigofmcflmelaaGreatDoor

namespace Go.Proofs.YtjigofmcflmelaaGreatDoor
open Go.RowKit
set_option linter.unusedVariables false

/-- the middle above a size, twice, in steps of 2 to the power of L -/
def mid2 (F L r : Int) : Int := um F L L r + um F L L (r + 1)
/-- r is the nearest pattern to X over D, in steps of 2 to the power of L -/
def DN (F L I X D r : Int) : Prop := 0 ≤ r ∧ r ≤ I ∧
  (r < I → 2 * X ≤ mid2 F L r * D ∧ (2 * X = mid2 F L r * D → r % 2 = 0)) ∧
  (0 < r → mid2 F L (r - 1) * D ≤ 2 * X ∧ (2 * X = mid2 F L (r - 1) * D → r % 2 = 0))
/-- 10 to a power -/
def tn (n : Nat) : Int := 10 ^ n
/-- r is the nearest pattern to N times 10 to the power of q -/
def DV (F L I N q r : Int) : Prop := DN F L I (N * tn q.toNat * p2 (-L).toNat) (tn (-q).toNat) r
/-- one decimal number is at most another -/
def dle (N q N' q' : Int) : Prop := N * tn (q.toNat + (-q').toNat) ≤ N' * tn (q'.toNat + (-q).toNat)
/-- what is said of a width: so few digits, the ends of its numbers -/
structure Wide (F L I : Int) : Prop where
  f0 : 2 ≤ F
  l0 : -1074 ≤ L
  l1 : L < 0
  i0 : 1 < I
  few : 2 * F * 5 ^ (-L).toNat ≤ tn 799
  low : 2 * p2 (-L).toNat ≤ tn 330
  top : mid2 F L (I - 1) < 2 * tn 310 * p2 (-L).toNat

/-- the number that digits tell -/
def dg : List Int → Int
  | [] => 0
  | a :: x => (a - 48) * tn x.length + dg x
/-- digits alone -/
def Dgt (es : List Int) : Prop := ∀ x ∈ es, 48 ≤ x ∧ x ≤ 57
/-- bytes -/
def Byt (es : List Int) : Prop := ∀ x ∈ es, 0 ≤ x ∧ x < 256
theorem Dgt.take {es : List Int} (h : Dgt es) (n : Nat) : Dgt (es.take n) := fun x hx => h x (List.mem_of_mem_take hx)
theorem Dgt.drop {es : List Int} (h : Dgt es) (n : Nat) : Dgt (es.drop n) := fun x hx => h x (List.mem_of_mem_drop hx)
theorem Dgt.append {es fs : List Int} (h : Dgt es) (g : Dgt fs) : Dgt (es ++ fs) := fun x hx => by
  rcases List.mem_append.1 hx with k | k
  · exact h x k
  · exact g x k
theorem txt_of (s : ByteArray) : ∃ es, Byt es ∧ es.length = s.size ∧ s = strOfNums es := by
  refine ⟨s.data.toList.map fun b => (b.toNat : Int), ?_, by simp, ?_⟩
  · intro x hx
    obtain ⟨b, _, rfl⟩ := List.mem_map.1 hx
    have := b.toNat_lt
    omega
  · apply Go.WideShapes.bytes_inj
    rw [strOfNums_data, List.map_map]
    have : (fun n : Int => UInt8.ofNat n.toNat) ∘ (fun b : UInt8 => (b.toNat : Int)) = id := by
      funext b; simp
    rw [this, List.map_id]
end Go.Proofs.YtjigofmcflmelaaGreatDoor

namespace Go.Proofs.YtjigofmcflmelaaGreatDoor
open Go.RowKit

set_option maxHeartbeats 400000 in
theorem rnorm_any {w : World} {va : Value} {A : Int} {ka : Nat} (ha : Arg w va A ka) (hka : ka ≤ 1099511627776) :
    Calls Tryz.prog 102 #[va] w fun e w' => ∃ v, e = .returned v ∧ Num w.heap.size w' v A ka ∧ Below w.heap.size w w' := by
  go_enter Tryz.func102, Tryz.ntmps102
  go_wp2_with fail
  refine (bytes_any ha hka).mono ?_
  rintro e w1 ⟨v1, rfl, h1, hb1⟩
  go_wp2_with fail
  refine (limbs_any h1.arg (by omega)).mono ?_
  rintro e w2 ⟨v2, rfl, h2, hb2⟩
  go_wp2
  go_ret
  exact ⟨v2, rfl, (num_since h2 hb1.size).mono (by omega), below_trans hb1 hb2⟩

set_option maxHeartbeats 1000000 in
theorem rfrom_any {w : World} (X : Int) (h0 : 0 ≤ X) (h1 : X < 18446744073709551616) :
    Calls Tryz.prog 124 #[.int .u64 X] w fun e w' => ∃ v, e = .returned v ∧ Num w.heap.size w' v X 2 ∧ Below w.heap.size w w' := by
  go_enter Tryz.func124, Tryz.ntmps124
  go_wp2
  go_loopw [0, 3] (fun sx out wr => ∃ (x : Int) (zs : List Int), sx = .int .u64 x ∧ 0 ≤ x ∧ x ≤ X ∧ zs.length ≤ 8 ∧ x < Nb.pw (8 - zs.length) ∧ Nb.Ok zs ∧ Nb.val zs + x * Nb.pw zs.length = X ∧ wr.ownsRow w.heap.size 3 1 out zs.length (zs.map (Value.int .i64)) ∧ Below w.heap.size w wr)
    (fun sx _ _ => (intOf sx).toNat)
  case atStart => exact ⟨X, [], rfl, h0, Int.le_refl _, by simp, by rw [List.length_nil, show Nb.pw (8 - 0) = 18446744073709551616 by decide]; exact h1, Nb.ok_nil, by simp [Nb.val, Nb.vt, Nb.pw], by simpa using World.ownsRow_nil w w.heap.size 3 1, Below.refl _ _⟩
  case round =>
    obtain ⟨x, zs, rfl, hx0, hxX, hzl, hx1, hzo, hzv, hown, hbr⟩ := hrel
    have Hx1 := hide hx1
    have Hzv := hide hzv
    clear hx1 hzv
    by_cases hp : 0 < x
    · have hlt : zs.length < 8 := by
        by_cases h : zs.length < 8
        · exact h
        · have := Hx1.out
          rw [show 8 - zs.length = 0 by omega] at this
          simp only [Nb.pw] at this
          omega
      have hsz := hbr.size
      go_wp2_with (at_builtin; refine wpList_append_cells _ rfl _ _ 191 rfl w.heap.size 3 .i64 8 Tryz.underlying191 Tryz.infoI64 _ zs.length zs rfl (hown.alloc _) (some ⟨wr.heap.size, 0, none⟩) 1 [x % 256] rfl (cells_one _ _ _ _) (by unfold maxLen; simp; omega) (by simp; omega) (by simp; omega) ?_)
      intro v' w1 hown' hgrow
      have hb1 : Below w.heap.size w w1 := below_own (hbr.alloc hsz _) (by simp; omega) (hown.alloc _) hgrow
      have Hst := hide (byte_step (V := Nb.val zs) (x := x) (P := Nb.pw zs.length))
      have Hown' := hide hown'
      clear hown' hgrow hown
      go_wp2
      go_roundw
      case rel => exact ⟨x / 256, zs ++ [x % 256], rfl, by omega, by omega, by simp; omega, by
        have h := Hx1.out
        rw [show 8 - zs.length = (8 - (zs.length + 1)) + 1 by omega, Nb.pw_succ] at h
        rw [List.length_append, List.length_singleton]
        omega, Nb.ok_snoc hzo (by omega), by
        rw [Nb.val_snoc, List.length_append, List.length_singleton, Nb.pw_succ, Hst.out]; exact Hzv.out, by simpa using Hown'.out, hb1⟩
      case measure => simp [intOf]; omega
    · have hx00 : x = 0 := by omega
      subst hx00
      go_wp2_with fail
      refine (limbs_any (ka := 8) ⟨zs, reads_of_owns hown, hzo, rfl, hzl⟩ (by omega)).mono ?_
      rintro e w2 ⟨v, rfl, hv, hb2⟩
      have hX : Nb.val zs = X := by have := Hzv.out; rw [Int.zero_mul, Int.add_zero] at this; exact this
      rw [hX] at hv
      have Hv := hide hv
      clear hv hX
      go_wp2
      go_ret
      exact ⟨v, rfl, num_since Hv.out hbr.size, hbr.trans (hb2.mono hbr.size)⟩

end Go.Proofs.YtjigofmcflmelaaGreatDoor

namespace Go.Proofs.YtjigofmcflmelaaGreatDoor
open Go.RowKit

theorem p2_8 (n : Nat) : p2 (8 * n) = Nb.pw n := by
  induction n with
  | zero => rfl
  | succ n ih => rw [Nat.mul_succ, p2_add, ih, Nb.pw_succ, show p2 8 = 256 from by decide, Int.mul_comm]

/-- the length of a number by its highest byte -/
theorem isLen_byte {xs : List Int} {k : Nat} (hx : Nb.Canon xs) (hn : 0 < xs.length) (h : IsLen (Nt.lb xs (xs.length - 1)) k) : IsLen (Nb.val xs) (8 * (xs.length - 1) + k) := by
  obtain ⟨n, hl⟩ : ∃ n, xs.length = n + 1 := ⟨xs.length - 1, by omega⟩
  have hne : xs ≠ [] := by intro e; subst e; simp at hn
  have h0 := hx.2 hne
  have hb := hx.1 n
  have hv := Nb.vt_bounds hx.1 n
  rw [hl, Nat.add_sub_cancel] at h h0 ⊢
  have hval : Nb.val xs = Nb.vt xs n + Nt.lb xs n * Nb.pw n := by unfold Nb.val; rw [hl, Nb.vt_succ]
  have hp := Nb.pw_pos n
  have hk := len_pos h (by omega)
  rw [hval]
  refine ⟨?_, fun _ => ?_⟩
  · rw [p2_add, p2_8]
    have : Nb.pw n * (Nt.lb xs n + 1) ≤ Nb.pw n * p2 k := Int.mul_le_mul_of_nonneg_left (by have := h.1; omega) (by omega)
    rw [Int.mul_add, Int.mul_comm] at this
    omega
  · rw [show 8 * n + k - 1 = 8 * n + (k - 1) by omega, p2_add, p2_8]
    have : Nb.pw n * p2 (k - 1) ≤ Nb.pw n * Nt.lb xs n := Int.mul_le_mul_of_nonneg_left (h.2 hk) (by omega)
    rw [Int.mul_comm _ (Nt.lb xs n)] at this
    omega

theorem half_step {T : Int} {j : Nat} (hp : 0 < T / p2 j) : T / p2 j / 2 = T / p2 (j + 1) ∧ p2 (j + 1 - 1) ≤ T := by
  have h2 := p2_pos j
  refine ⟨?_, ?_⟩
  · rw [Int.ediv_ediv_of_nonneg (by omega)]
    congr 1
    simp only [p2]; omega
  · rw [Nat.add_sub_cancel]
    by_cases h : p2 j ≤ T
    · exact h
    · by_cases h0 : 0 ≤ T
      · rw [Int.ediv_eq_zero_of_lt h0 (by omega)] at hp; omega
      · have := Int.ediv_neg_of_neg_of_pos (show T < 0 by omega) h2; omega

set_option maxHeartbeats 1000000 in
theorem rlen_any {w : World} {va : Value} {A : Int} {ka k : Nat} (ha : Arg w va A ka) (hka : ka ≤ 1099511627776) (hk : IsLen A k) :
    Calls Tryz.prog 135 #[va] w fun e w' => e = .returned (.int .i64 k) ∧ Below w.heap.size w w' := by
  have HK := hide hk
  clear hk
  go_enter Tryz.func135, Tryz.ntmps135
  go_wp2_with fail
  refine (bytes_any ha hka).mono ?_
  rintro e w1 ⟨v1, rfl, ⟨ys, ⟨ao, cap, rfl, hl, hm, hyc⟩, hy, rfl, hyk⟩, hb1⟩
  clear ha
  by_cases h0 : ys.length = 0
  · have h0' : ((ys.length : Int) == 0) = true := by simp [h0]
    have hye : ys = [] := List.eq_nil_of_length_eq_zero h0
    clear h0
    go_wp2
    go_ret
    have hk0 : k = 0 := isLen_unique HK.out (by rw [hye]; exact ⟨by decide, fun h => by omega⟩)
    rw [hk0]
    exact ⟨rfl, hb1⟩
  · have h0' : ((ys.length : Int) == 0) = false := by simp; intro e; subst e; simp at h0
    obtain ⟨b, off, rfl, hb, hcell⟩ := hyc (by omega)
    have hg := hcell (ys.length - 1) (by omega)
    have hp : (1 : Int) ≤ (ys.length : Int) := by omega
    obtain ⟨bx0, bx1⟩ := hy.1 (ys.length - 1)
    obtain ⟨T, hT⟩ : ∃ T, Nt.lb ys (ys.length - 1) = T := ⟨_, rfl⟩
    rw [hT] at hg bx0 bx1
    have HT := hide hT
    clear hcell hyc hT
    go_wp2
    go_loop [4, 5] (fun sn st => ∃ (j : Nat) (t : Int), sn = .int .i64 (8 * ((ys.length : Int) - 1) + j) ∧ st = .int .i64 t ∧ 0 ≤ t ∧ t < 256 ∧ t = T / p2 j ∧ (0 < j → p2 (j - 1) ≤ T) ∧ j ≤ 8) (fun _ st => (intOf st).toNat)
    case atStart => exact ⟨0, T, by simp, rfl, bx0, bx1, by simp [p2], fun h => by omega, by omega⟩
    case round =>
      obtain ⟨j, t, rfl, rfl, ht0, ht1, ht, hj, hj8⟩ := hrel
      have Ht := hide ht
      have Hj := hide hj
      clear ht hj
      by_cases hp0 : 0 < t
      · have hs := half_step (T := T) (j := j) (by rw [← Ht.out]; exact hp0)
        have hj9 : j + 1 ≤ 8 := by
          by_cases h : j + 1 ≤ 8
          · exact h
          · have h1 := hs.2
            have h2 := p2_mono (m := 8) (n := j + 1 - 1) (by omega)
            rw [show p2 8 = 256 by decide] at h2
            omega
        have Hs := hide hs
        clear hs
        go_wp2
        go_round
        case rel => exact ⟨j + 1, t / 2, by go_num, rfl, by omega, by omega, by rw [Ht.out]; exact Hs.out.1, fun _ => Hs.out.2, hj9⟩
        case measure => simp [intOf]; omega
      · have ht00 : t = 0 := by omega
        have hlt : T < p2 j := by
          have h := Ht.out
          rw [ht00] at h
          have h2 := p2_pos j
          have h3 := Int.mul_ediv_add_emod T (p2 j)
          have h4 := Int.emod_lt_of_pos T h2
          rw [← h, Int.mul_zero] at h3
          omega
        have hfin := isLen_byte hy (by omega) (k := j) (by rw [HT.out]; exact ⟨hlt, Hj.out⟩)
        have hke : k = 8 * (ys.length - 1) + j := isLen_unique HK.out hfin
        have Hke := hide hke
        clear hfin hlt hke
        go_wp2
        go_ret
        refine ⟨ret_int ?_, hb1⟩
        have := Hke.out
        omega

set_option maxHeartbeats 1000000 in
theorem rcmp_any {w : World} {va vb : Value} {n m : Int} {ka kb : Nat} (ha : Arg w va n ka) (hb : Arg w vb m kb) (hka : ka ≤ 1099511627776) (hkb : kb ≤ 1099511627776) :
    Calls Tryz.prog 105 #[va, vb] w fun e w' => e = .returned (.int .i64 (sgn n m)) ∧ Below w.heap.size w w' := by
  go_enter Tryz.func105, Tryz.ntmps105
  go_wp2_with fail
  refine (bytes_any ha hka).mono ?_
  rintro e w1 ⟨v1, rfl, ⟨xs, ⟨ao, ca, rfl, hxl, hxm, hxc⟩, hx, rfl, hxk⟩, hb1⟩
  go_wp2_with fail
  refine (bytes_any (hb.below hb1) hkb).mono ?_
  rintro e w2 ⟨v2, rfl, ⟨ys, ⟨bo, cb, rfl, hyl, hym, hyc⟩, hy, rfl, hyk⟩, hb2⟩
  replace hxc := hxc.below hb2
  have hbb := below_trans hb1 hb2
  clear ha hb hb1 hb2
  by_cases hl : xs.length = ys.length
  · have hl1 : ((xs.length : Int) != (ys.length : Int)) = false := by simp [hl]
    have Hl := hide hl
    clear hl
    go_wp2
    go_loopw [7] (fun si wr => ∃ j : Nat, j ≤ xs.length ∧ si = .int .i64 ((j : Int) - 1) ∧ (∀ i, j ≤ i → i < xs.length → Nt.lb xs i = Nt.lb ys i) ∧ Below w2.heap.size w2 wr) (fun si _ => (intOf si + 1).toNat)
    case atStart => exact ⟨xs.length, Nat.le_refl _, rfl, fun i h1 h2 => by omega, Below.refl _ _⟩
    case round =>
      obtain ⟨j, hj, rfl, hsame, hbr⟩ := hrel
      have HS := hide hsame
      clear hsame
      by_cases hj0 : j = 0
      · subst hj0
        go_wp2
        go_ret
        refine ⟨?_, hbb.trans (hbr.mono hbb.size)⟩
        rw [sgn_eq]
        · rfl
        · unfold Nb.val
          rw [← Hl.out]
          exact Nb.vt_congr fun i hi => HS.out i (by omega) hi
      · obtain ⟨p, rfl⟩ : ∃ p, j = p + 1 := ⟨j - 1, by omega⟩
        have hpx : p < xs.length := by omega
        have hpy : p < ys.length := by have := Hl.out; omega
        obtain ⟨b1, o1, rfl, _, hc1⟩ := (hxc.below hbr) (by omega)
        obtain ⟨b2, o2, rfl, _, hc2⟩ := (hyc.below hbr) (by omega)
        have g1 := hc1 p hpx
        have g2 := hc2 p hpy
        clear hc1 hc2 hxc hyc
        rcases Int.lt_trichotomy (Nt.lb xs p) (Nt.lb ys p) with h | h | h
        · have hq' : (Nt.lb xs p != Nt.lb ys p) = true := by simp; omega
          have hs := hide (sgn_lt (by unfold Nb.val; rw [← Hl.out]; exact Nb.vt_lt_at hx.1 hy.1 (p := p) hpx (fun i a b => HS.out i (by omega) b) h : Nb.val xs < Nb.val ys))
          go_wp2
          go_region
          all_goals go_wp2
          all_goals go_region
          all_goals go_wp2
          all_goals go_ret
          all_goals
            refine ⟨?_, hbb.trans (Below.mono (by repeat (first | exact hbr | apply Below.drew)) hbb.size)⟩
            rw [hs.out]
            rfl
        · have hq' : (Nt.lb xs p != Nt.lb ys p) = false := by simp [h]
          have Hq := hide h
          clear h
          go_wp2
          go_region
          all_goals go_wp2
          all_goals go_roundw
          all_goals first
            | exact ⟨p, by omega, rfl, fun i h1 h2 => by
                by_cases e : i = p
                · subst e; exact Hq.out
                · exact HS.out i (by omega) h2, by repeat (first | exact hbr | apply Below.drew)⟩
            | simp [intOf]
        · have hq' : (Nt.lb xs p != Nt.lb ys p) = true := by simp; omega
          have h' : ¬ Nt.lb xs p < Nt.lb ys p := by omega
          have hs := hide (sgn_gt (by unfold Nb.val; rw [← Hl.out]; exact Nb.vt_lt_at hy.1 hx.1 (p := p) hpx (fun i a b => (HS.out i (by omega) b).symm) h : Nb.val ys < Nb.val xs))
          go_wp2
          go_region
          all_goals go_wp2
          all_goals go_region
          all_goals go_wp2
          all_goals go_ret
          all_goals
            refine ⟨?_, hbb.trans (Below.mono (by repeat (first | exact hbr | apply Below.drew)) hbb.size)⟩
            rw [hs.out]
            rfl
  · have hl1 : ((xs.length : Int) != (ys.length : Int)) = true := by simp; omega
    by_cases hlt : xs.length < ys.length
    · have hs := hide (sgn_lt (Nb.canon_lt hx.1 hy hlt))
      go_wp2
      go_ret
      refine ⟨?_, hbb⟩
      rw [hs.out]
      rfl
    · have hs := hide (sgn_gt (Nb.canon_lt hy.1 hx (by omega)))
      have hlt' : ¬ (xs.length : Int) < (ys.length : Int) := by omega
      go_wp2
      go_ret
      refine ⟨?_, hbb⟩
      rw [hs.out]
      rfl

end Go.Proofs.YtjigofmcflmelaaGreatDoor

namespace Go.Proofs.YtjigofmcflmelaaGreatDoor
open Go.RowKit

end Go.Proofs.YtjigofmcflmelaaGreatDoor
