/- plain numbers for long division -/
import Derived.Test.YtmpdkeafbjibpaaDoorMulMath
namespace Go.Proofs.YtmpdkeafbjibpaaDoor
namespace Nt

theorem vt_mono {xs : List Int} (h : Ok xs) {m n : Nat} (hmn : m ≤ n) : vt xs m ≤ vt xs n := by
  have e := vt_drop xs m (n - m)
  rw [show m + (n - m) = n by omega] at e
  have h1 : 0 ≤ pw m * vt (xs.drop m) (n - m) := Int.mul_nonneg (by have := pw_pos m; omega) (vt_bounds (ok_drop h _) _).1
  omega

theorem less_step {vs zs os : List Int} {off k : Nat} {c x t : Int} (hk : off + k < zs.length) (hz : lb zs (off + k) = lb os (off + k)) (ht : t = c + (lb vs k * x + (4294967295 - lb zs (off + k))))
    (h : vt zs (off + k) - c * pw (off + k) = vt os (off + k) - x * vt vs k * pw off) :
    vt (zs.set (off + k) (4294967295 - t % 4294967296)) (off + (k + 1)) - t / 4294967296 * pw (off + (k + 1)) = vt os (off + (k + 1)) - x * vt vs (k + 1) * pw off := by
  rw [← Nat.add_assoc, vt_succ, vt_set (Nat.le_refl _), lb_set_eq hk, vt_succ, vt_succ, pw_succ]
  have e : t % 4294967296 + 4294967296 * (t / 4294967296) = t := Int.emod_add_mul_ediv _ _
  generalize t % 4294967296 = r at *
  generalize t / 4294967296 = q at *
  rw [pw_add] at *
  rw [← hz]
  grind

theorem back_step {vs zs os : List Int} {off k : Nat} {c x t : Int} (hk : off + k < zs.length) (hz : lb zs (off + k) = lb os (off + k)) (ht : t = c + (lb vs k * x + lb zs (off + k)))
    (h : vt zs (off + k) + c * pw (off + k) = vt os (off + k) + x * vt vs k * pw off) :
    vt (zs.set (off + k) (t % 4294967296)) (off + (k + 1)) + t / 4294967296 * pw (off + (k + 1)) = vt os (off + (k + 1)) + x * vt vs (k + 1) * pw off := by
  rw [← Nat.add_assoc, vt_succ, vt_set (Nat.le_refl _), lb_set_eq hk, vt_succ, vt_succ, pw_succ]
  have e : t % 4294967296 + 4294967296 * (t / 4294967296) = t := Int.emod_add_mul_ediv _ _
  generalize t % 4294967296 = r at *
  generalize t / 4294967296 = q at *
  rw [pw_add] at *
  rw [← hz]
  grind

/-- what is to be taken off is more than there is, just if the carry is above the highest limb -/
theorem off_sign {zs os : List Int} {off l : Nat} {c x V : Int} (hz : Ok zs) (hlow : ∀ j, j < off → lb zs j = lb os j) (htop : lb zs (off + l) = lb os (off + l))
    (h : vt zs (off + l) - c * pw (off + l) = vt os (off + l) - x * V * pw off) :
    (lb zs (off + l) < c → vt os (off + l + 1) - vt os off < x * V * pw off) ∧ (c ≤ lb zs (off + l) → x * V * pw off ≤ vt os (off + l + 1) - vt os off) := by
  have h1 := vt_mono hz (m := off) (n := off + l) (by omega)
  have h2 := (vt_bounds hz (off + l)).2
  have h3 : vt zs off = vt os off := vt_congr hlow
  have h4 := (vt_bounds hz off).1
  have h5 := pw_pos (off + l)
  rw [vt_succ, ← htop]
  constructor
  · intro hlt
    have h6 : (lb zs (off + l) + 1) * pw (off + l) ≤ c * pw (off + l) := Int.mul_le_mul_of_nonneg_right (by omega) (by omega)
    rw [Int.add_mul] at h6
    omega
  · intro hle
    have h6 : c * pw (off + l) ≤ lb zs (off + l) * pw (off + l) := Int.mul_le_mul_of_nonneg_right hle (by omega)
    omega

/-- added back: as it was -/
theorem back_same {zs ys os : List Int} {off l : Nat} {c d x V : Int} (hy : Ok ys) (ho : Ok os) (hl : ys.length = os.length) (hlow : ∀ j, j < off ∨ off + l ≤ j → lb ys j = lb os j)
    (h : vt zs (off + l) - c * pw (off + l) = vt os (off + l) - x * V * pw off) (h2 : vt ys (off + l) + d * pw (off + l) = vt zs (off + l) + x * V * pw off) : ys = os := by
  have e : vt ys (off + l) + d * pw (off + l) = vt os (off + l) + c * pw (off + l) := by omega
  have e2 := (mul_pw_cancel (pw_pos _) (vt_bounds hy (off + l)) (vt_bounds ho (off + l)) e).2
  have e3 := vt_inj hy ho e2
  exact ext_lb hl fun i _ => by
    by_cases h : i < off + l
    · exact e3 i h
    · exact hlow i (by omega)

end Nt
end Go.Proofs.YtmpdkeafbjibpaaDoor
