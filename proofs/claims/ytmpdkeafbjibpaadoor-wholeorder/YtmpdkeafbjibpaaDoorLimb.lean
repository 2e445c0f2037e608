/- nat.limb, bits.Add32, bits.Sub32 -/
import Derived.Test.YtmpdkeafbjibpaaDoorTrim
namespace Go.Proofs.YtmpdkeafbjibpaaDoor
open Go.RowKit

set_option maxHeartbeats 400000 in
theorem limb_any (ao : Option Addr) (cap : Nat) (xs : List Int) (k : Nat) (w : World) (hm : xs.length ≤ maxLen) (hc : Cells .u32 w ao xs) :
    Calls Tryd.prog 52 #[.slice ao xs.length cap, .int .i64 k] w fun e w' => e = .returned (.int .u32 (Nt.lb xs k)) ∧ w' = w := by
  unfold maxLen at hm
  by_cases h : k < xs.length
  · obtain ⟨b, off, rfl, hb, hcell⟩ := hc (by omega)
    have hg := hcell k h
    clear hcell hc
    go_enter Tryd.func52, Tryd.ntmps52
    go_wp2
    go_ret
    exact ⟨rfl, rfl⟩
  · have e0 : Nt.lb xs k = 0 := Nt.lb_out (by omega)
    rw [e0]
    clear e0 hc
    go_enter Tryd.func52, Tryd.ntmps52
    go_wp2
    go_ret
    exact ⟨rfl, rfl⟩

set_option maxHeartbeats 400000 in
theorem add32_any (x y c : Int) (w : World) (hx : 0 ≤ x ∧ x < 4294967296) (hy : 0 ≤ y ∧ y < 4294967296) (hc : 0 ≤ c ∧ c ≤ 1) :
    Calls Tryd.prog 56 #[.int .u32 x, .int .u32 y, .int .u32 c] w fun e w' => e = .returned (.tuple #[.int .u32 ((x + y + c) % 4294967296), .int .u32 ((x + y + c) / 4294967296)]) ∧ w' = w := by
  obtain ⟨hx0, hx1⟩ := hx
  obtain ⟨hy0, hy1⟩ := hy
  obtain ⟨hc0, hc1⟩ := hc
  go_enter Tryd.func56, Tryd.ntmps56
  go_wp2
  go_ret2
  exact ⟨rfl, rfl⟩

theorem or_join (h l : Int) (h0 : 0 ≤ h) (h1 : h < 4294967296) (l0 : 0 ≤ l) (l1 : l < 4294967296) : bits .or .u64 (h * 4294967296) l = h * 4294967296 + l := by
  obtain ⟨a, rfl⟩ := Int.eq_ofNat_of_zero_le h0
  obtain ⟨b, rfl⟩ := Int.eq_ofNat_of_zero_le l0
  have e : ((a : Int) * 4294967296) = ((a * 4294967296 : Nat) : Int) := by omega
  rw [e, u64_or_nat _ _ (by omega) (by omega), nat_join 32 (a * 4294967296) b (by omega) (by omega)]
  omega

theorem limb_int (ao : Option Addr) (cap : Nat) (xs : List Int) (i : Int) (k : Nat) (hi : i = k) (w : World) (hm : xs.length ≤ maxLen) (hc : Cells .u32 w ao xs) :
    Calls Tryd.prog 52 #[.slice ao xs.length cap, .int .i64 i] w fun e w' => e = .returned (.int .u32 (Nt.lb xs k)) ∧ w' = w := by
  subst hi
  exact limb_any ao cap xs k w hm hc

end Go.Proofs.YtmpdkeafbjibpaaDoor
