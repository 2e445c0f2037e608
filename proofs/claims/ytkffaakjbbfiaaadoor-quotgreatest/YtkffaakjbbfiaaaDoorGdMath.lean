/- the greatest common divisor: what the law asks -/
import Derived.Test.YtkffaakjbbfiaaaDoorQKit
namespace Go.Proofs.YtkffaakjbbfiaaaDoor

theorem gd_nat (a b : Nat) : gd (a : Int) (b : Int) = ((Nat.gcd a b : Nat) : Int) := by unfold gd; simp
theorem gd_nonneg (n m : Int) : 0 ≤ gd n m := by unfold gd; omega
theorem gd_comm (n m : Int) : gd n m = gd m n := by unfold gd; rw [Nat.gcd_comm]
theorem gd_pos {n m : Int} (hn : 0 ≤ n) (hm : 0 ≤ m) (h : ¬ (n = 0 ∧ m = 0)) : 0 < gd n m := by
  unfold gd
  have : 0 < Nat.gcd n.toNat m.toNat := by
    rcases Nat.eq_zero_or_pos (Nat.gcd n.toNat m.toNat) with e | e
    · have h1 := Nat.eq_zero_of_gcd_eq_zero_left e
      have h2 := Nat.eq_zero_of_gcd_eq_zero_right e
      omega
    · exact e
  omega
theorem gd_left {n m : Int} (hn : 0 ≤ n) (hm : 0 ≤ m) : n % gd n m = 0 := by
  obtain ⟨a, rfl⟩ := Int.eq_ofNat_of_zero_le hn
  obtain ⟨b, rfl⟩ := Int.eq_ofNat_of_zero_le hm
  rw [gd_nat]
  exact Int.emod_eq_zero_of_dvd (Int.natCast_dvd_natCast.2 (Nat.gcd_dvd_left a b))
theorem gd_right {n m : Int} (hn : 0 ≤ n) (hm : 0 ≤ m) : m % gd n m = 0 := by rw [gd_comm]; exact gd_left hm hn
theorem gd_one {n m : Int} (hn : 0 ≤ n) (hm : 0 ≤ m) (h : 0 < gd n m) : gd (n / gd n m) (m / gd n m) = 1 := by
  obtain ⟨a, rfl⟩ := Int.eq_ofNat_of_zero_le hn
  obtain ⟨b, rfl⟩ := Int.eq_ofNat_of_zero_le hm
  rw [gd_nat] at *
  rw [← Int.natCast_ediv, ← Int.natCast_ediv, gd_nat, Nat.gcd_div (Nat.gcd_dvd_left a b) (Nat.gcd_dvd_right a b), Nat.div_self (by omega)]
  rfl
theorem gd_mul {n m c : Int} (hn : 0 ≤ n) (hm : 0 ≤ m) (hc : 0 ≤ c) : gd (n * c) (m * c) = gd n m * c := by
  obtain ⟨a, rfl⟩ := Int.eq_ofNat_of_zero_le hn
  obtain ⟨b, rfl⟩ := Int.eq_ofNat_of_zero_le hm
  obtain ⟨d, rfl⟩ := Int.eq_ofNat_of_zero_le hc
  rw [← Int.natCast_mul, ← Int.natCast_mul, gd_nat, gd_nat, Nat.gcd_mul_right, Int.natCast_mul]
theorem gd_all {n m c : Int} (hn : 0 ≤ n) (hm : 0 ≤ m) (hc : 0 < c) (h1 : n % c = 0) (h2 : m % c = 0) : gd n m % c = 0 := by
  obtain ⟨a, rfl⟩ := Int.eq_ofNat_of_zero_le hn
  obtain ⟨b, rfl⟩ := Int.eq_ofNat_of_zero_le hm
  obtain ⟨d, rfl⟩ := Int.eq_ofNat_of_zero_le (Int.le_of_lt hc)
  rw [gd_nat]
  have e1 := Int.natCast_dvd_natCast.1 (Int.dvd_of_emod_eq_zero h1)
  have e2 := Int.natCast_dvd_natCast.1 (Int.dvd_of_emod_eq_zero h2)
  exact Int.emod_eq_zero_of_dvd (Int.natCast_dvd_natCast.2 (Nat.dvd_gcd e1 e2))

end Go.Proofs.YtkffaakjbbfiaaaDoor
