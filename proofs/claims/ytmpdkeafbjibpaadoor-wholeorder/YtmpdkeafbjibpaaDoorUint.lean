/- nat.Uint -/
import Derived.Test.YtmpdkeafbjibpaaDoorLimb
namespace Go.Proofs.YtmpdkeafbjibpaaDoor
open Go.RowKit

theorem val_le_two {xs : List Int} (h : xs.length ≤ 2) : Nt.val xs = Nt.lb xs 1 * 4294967296 + Nt.lb xs 0 := by
  rw [← Nt.vt_out h]
  simp only [Nt.vt, Nt.pw]
  omega
theorem pw_two : Nt.pw 2 = 18446744073709551616 := by decide

set_option maxHeartbeats 1000000 in
theorem uint_yes {w : World} {va : Value} {n : Int} {ka : Nat} (ha : Arg w va n ka) (hn : n < 18446744073709551616) :
    Calls Tryd.prog 34 #[va] w fun e w' => e = .returned (.tuple #[.int .u64 n, .bool true]) ∧ w' = w := by
  go_enter Tryd.func34, Tryd.ntmps34
  go_wp2_with fail
  refine (trim_arg ha).mono ?_
  rintro e w' ⟨rfl, ao, xs, rfl, hxk, hxm, hxc, hx, rfl⟩
  have hl : xs.length ≤ 2 := by
    by_cases h : xs.length ≤ 2
    · exact h
    · have h1 := Nt.canon_low hx (by intro e; subst e; simp at h)
      have h2 := Nt.pw_mono (m := 2) (n := xs.length - 1) (by omega)
      rw [pw_two] at h2
      omega
  have hv := val_le_two hl
  have b0 := hx.1 0
  have b1 := hx.1 1
  have hj := or_join (Nt.lb xs 1) (Nt.lb xs 0) b1.1 b1.2 b0.1 b0.2
  have Hv := hide hv
  have hl' : ¬ (2 : Int) < (xs.length : Int) := by omega
  obtain ⟨b00, b01⟩ := b0
  obtain ⟨b10, b11⟩ := b1
  clear hv ha hn
  go_wp2_with fail
  refine (limb_int ao _ xs 1 1 rfl _ hxm hxc).mono ?_
  rintro e w1 ⟨rfl, rfl⟩
  go_wp2_with fail
  refine (limb_int ao _ xs 0 0 rfl _ hxm hxc).mono ?_
  rintro e w1 ⟨rfl, rfl⟩
  go_wp2
  go_ret2
  rw [Hv.out]
  exact ⟨rfl, rfl⟩

set_option maxHeartbeats 1000000 in
theorem uint_no {w : World} {va : Value} {n : Int} {ka : Nat} (ha : Arg w va n ka) (hn : 18446744073709551616 ≤ n) :
    Calls Tryd.prog 34 #[va] w fun e w' => e = .returned (.tuple #[.int .u64 0, .bool false]) ∧ w' = w := by
  go_enter Tryd.func34, Tryd.ntmps34
  go_wp2_with fail
  refine (trim_arg ha).mono ?_
  rintro e w' ⟨rfl, ao, xs, rfl, hxk, hxm, hxc, hx, rfl⟩
  have hl : 2 < xs.length := by
    by_cases h : 2 < xs.length
    · exact h
    · have h1 := Nt.val_lt hx.1
      have h2 := Nt.pw_mono (m := xs.length) (n := 2) (by omega)
      rw [pw_two] at h2
      omega
  have hl' : (2 : Int) < (xs.length : Int) := by omega
  clear ha hn
  go_wp2
  go_ret2
  exact ⟨rfl, rfl⟩

end Go.Proofs.YtmpdkeafbjibpaaDoor
