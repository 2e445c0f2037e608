/- plain numbers: the bytes of limbs -/
import Derived.Test.YtmpdkeafbjibpaaDoorNb
import Derived.Test.YtmpdkeafbjibpaaDoorDivMath
namespace Go.Proofs.YtmpdkeafbjibpaaDoor

/-- the byte at a place of a number that is given by its limbs -/
def dg (xs : List Int) (i : Nat) : Int := Nt.lb xs (i / 4) / Nb.pw (i % 4) % 256
/-- the number of the first so many bytes -/
def dv (xs : List Int) : Nat → Int
  | 0 => 0
  | n + 1 => dv xs n + dg xs n * Nb.pw n

theorem dg_bd (xs : List Int) (i : Nat) : 0 ≤ dg xs i ∧ dg xs i < 256 := by unfold dg; omega
theorem dg_at (xs : List Int) (j r : Nat) (hr : r < 4) : dg xs (4 * j + r) = Nt.lb xs j / Nb.pw r % 256 := by
  unfold dg
  rw [show (4 * j + r) / 4 = j by omega, show (4 * j + r) % 4 = r by omega]
theorem dv_four {xs : List Int} (ho : Nt.Ok xs) (m : Nat) : dv xs (4 * m) = Nt.vt xs m := by
  induction m with
  | zero => rfl
  | succ m ih =>
    have e : 4 * (m + 1) = 4 * m + 3 + 1 := by omega
    rw [e]
    show dv xs (4 * m + 3) + dg xs (4 * m + 3) * Nb.pw (4 * m + 3) = _
    have e2 : dv xs (4 * m + 3) = dv xs (4 * m) + dg xs (4 * m) * Nb.pw (4 * m) + dg xs (4 * m + 1) * Nb.pw (4 * m + 1) + dg xs (4 * m + 2) * Nb.pw (4 * m + 2) := rfl
    have d0 := dg_at xs m 0 (by omega)
    rw [Nat.add_zero] at d0
    rw [e2, ih, d0, dg_at xs m 1 (by omega), dg_at xs m 2 (by omega), dg_at xs m 3 (by omega), Nt.vt_succ, Nb.pw_add (4 * m) 3, Nb.pw_add (4 * m) 2, Nb.pw_add (4 * m) 1, Nb.pw_four]
    have p1 : Nb.pw 1 = 256 := by decide
    have p2' : Nb.pw 2 = 65536 := by decide
    have p3 : Nb.pw 3 = 16777216 := by decide
    have p0 : Nb.pw 0 = 1 := rfl
    rw [p0, p1, p2', p3]
    have hx := ho m
    generalize Nt.lb xs m = x at *
    have hs : x = x / 1 % 256 + x / 256 % 256 * 256 + x / 65536 % 256 * 65536 + x / 16777216 % 256 * 16777216 := by omega
    generalize x / 1 % 256 = a at *
    generalize x / 256 % 256 = b at *
    generalize x / 65536 % 256 = c at *
    generalize x / 16777216 % 256 = d at *
    rw [hs]
    grind
theorem dv_split (xs : List Int) (l j : Nat) : ∃ r : Int, 0 ≤ r ∧ dv xs (l + j) = dv xs l + Nb.pw l * r := by
  induction j with
  | zero => exact ⟨0, Int.le_refl _, by simp⟩
  | succ j ih =>
    obtain ⟨r, h0, h⟩ := ih
    refine ⟨r + dg xs (l + j) * Nb.pw j, Int.add_nonneg h0 (Int.mul_nonneg (dg_bd xs _).1 (by have := Nb.pw_pos j; omega)), ?_⟩
    show dv xs (l + j) + dg xs (l + j) * Nb.pw (l + j) = _
    rw [h, Nb.pw_add]
    grind
theorem dv_nonneg (xs : List Int) (l : Nat) : 0 ≤ dv xs l := by
  obtain ⟨r, h0, h⟩ := dv_split xs 0 l
  rw [Nat.zero_add] at h
  rw [h]
  simp only [dv, Nb.pw]
  omega
/-- a number's bytes, as many as it has bits -/
theorem dv_all {xs : List Int} (ho : Nt.Ok xs) {l : Nat} (hl : l ≤ 4 * xs.length) (hlt : Nt.val xs < Nb.pw l) : dv xs l = Nt.val xs := by
  obtain ⟨r, h0, h⟩ := dv_split xs l (4 * xs.length - l)
  rw [show l + (4 * xs.length - l) = 4 * xs.length by omega, dv_four ho] at h
  have e : Nt.vt xs xs.length = Nt.val xs := rfl
  rw [e] at h
  have h1 := dv_nonneg xs l
  have h2 := Nb.pw_pos l
  rcases Int.lt_or_le 0 r with h3 | h3
  · have h4 : Nb.pw l * 1 ≤ Nb.pw l * r := Int.mul_le_mul_of_nonneg_left (by omega) (by omega)
    omega
  · have h5 : r = 0 := by omega
    rw [h5] at h
    simp at h
    omega
theorem nb_vt_dv {xs ds : List Int} {n : Nat} (h : ∀ i, i < n → Nt.lb ds i = dg xs i) : Nb.vt ds n = dv xs n := by
  induction n with
  | zero => rfl
  | succ n ih => rw [Nb.vt_succ, ih (fun i hi => h i (by omega)), h n (by omega)]; rfl

theorem p2_8 (n : Nat) : p2 (8 * n) = Nb.pw n := by
  induction n with
  | zero => rfl
  | succ n ih => rw [show 8 * (n + 1) = 8 * n + 8 by omega, p2_add, ih, Nb.pw_succ, Int.mul_comm]; rfl

/-- the list of a number's bytes, the lowest first, out of its limbs -/
theorem bytes_canon {xs ds : List Int} {k : Nat} (ho : Nt.Ok xs) (hk : IsLen (Nt.val xs) k) (hk2 : k ≤ 32 * xs.length) (hl : ds.length = (k + 7) / 8) (h : ∀ i, i < ds.length → Nt.lb ds i = dg xs i) : Nb.Canon ds ∧ Nb.val ds = Nt.val xs := by
  have hlt : Nt.val xs < Nb.pw ds.length := by
    have h1 := p2_mono (m := k) (n := 8 * ds.length) (by omega)
    rw [p2_8] at h1
    have := hk.1
    omega
  have hval : Nb.val ds = Nt.val xs := by
    show Nb.vt ds ds.length = _
    rw [nb_vt_dv h, dv_all ho (by omega) hlt]
  have hok : Nb.Ok ds := by
    intro i
    by_cases hi : i < ds.length
    · rw [h i hi]; exact dg_bd xs i
    · rw [Nt.lb_out (by omega)]; omega
  refine ⟨⟨hok, fun hn => ?_⟩, hval⟩
  intro h0
  have hp := List.length_pos_iff.2 hn
  have h1 : Nb.val ds = Nb.vt ds (ds.length - 1) := by
    obtain ⟨m, hm⟩ : ∃ m, ds.length = m + 1 := ⟨ds.length - 1, by omega⟩
    have e : ds.length - 1 = m := by omega
    rw [e] at h0 ⊢
    show Nb.vt ds ds.length = _
    rw [hm, Nb.vt_succ, h0]; simp
  have h2 := (Nb.vt_bounds hok (ds.length - 1)).2
  have h3 := hk.2 (by omega)
  have h4 := p2_mono (m := 8 * (ds.length - 1)) (n := k - 1) (by omega)
  rw [p2_8] at h4
  omega

end Go.Proofs.YtmpdkeafbjibpaaDoor
