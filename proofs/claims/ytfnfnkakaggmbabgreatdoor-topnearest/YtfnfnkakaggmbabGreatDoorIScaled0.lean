/- nat.Shl where there is room (out of IScaled) -/
import Derived.Test.YtfnfnkakaggmbabGreatDoorShl
namespace Go.Proofs.YtfnfnkakaggmbabGreatDoor
open Go.RowKit
set_option linter.unusedVariables false

theorem len_of {w : World} {va : Value} {A : Int} {ka : Nat} (ha : Arg w va A ka) : ∃ k, IsLen A k ∧ k ≤ 32 * ka := by
  have hA := ha.nonneg
  obtain ⟨zs, _, ho, hv, hl⟩ := ha
  have hb := Nt.val_lt ho
  rw [hv, ← p2_32] at hb
  have hb2 := p2_mono (m := 32 * zs.length) (n := 32 * ka) (by omega)
  have : ∀ m : Nat, ∀ x : Int, 0 ≤ x → x < p2 m → ∃ k, IsLen x k ∧ k ≤ m := by
    intro m
    induction m with
    | zero => intro x h0 h1; exact ⟨0, ⟨h1, fun h => by omega⟩, Nat.le_refl _⟩
    | succ m ih =>
      intro x h0 h1
      rcases Int.lt_or_le x (p2 m) with c | c
      · obtain ⟨k, h, hk⟩ := ih x h0 c
        exact ⟨k, h, by omega⟩
      · exact ⟨m + 1, ⟨h1, fun _ => by rwa [Nat.add_sub_cancel]⟩, Nat.le_refl _⟩
  exact this _ A hA (by omega)
/-- nat.Shl where there is room -/
theorem shl_room {w : World} {va : Value} {A : Int} {ka N : Nat} (ha : Arg w va A ka) (hka : ka ≤ 100000) (hN : N ≤ 100000) :
    Calls Tryz.prog 52 #[va, .int .i64 N] w fun e w' => ∃ v, e = .returned (.tuple #[v, .bool true]) ∧ Num w.heap.size w' v (A * p2 N) (N / 32 + ka + 1) ∧ Below w.heap.size w w' := by
  rcases Int.lt_or_eq_of_le ha.nonneg with c | c
  · obtain ⟨k, hk, hk2⟩ := len_of ha
    exact shl_ok (W := N / 32) (s := N % 32) ha (by omega) c hk hk2 (by omega) (by omega) (by omega)
  · subst c
    refine (shl_zero ha (n := (N : Int)) (by omega)).mono ?_
    rintro e w' ⟨rfl, rfl⟩
    refine ⟨.slice none 0 0, rfl, ?_, Below.refl _ _⟩
    rw [Int.zero_mul]
    exact ⟨[], ⟨none, rfl, by simp [maxLen], fun h => by simp at h⟩, Nt.canon_nil, by simp [Nt.val, Nt.vt], by simp⟩
theorem shl_int {w : World} {va : Value} {A n : Int} {ka : Nat} (ha : Arg w va A ka) (hka : ka ≤ 10) (h0 : 0 ≤ n) (hN : n ≤ 2500) :
    Calls Tryz.prog 52 #[va, .int .i64 n] w fun e w' => ∃ v, e = .returned (.tuple #[v, .bool true]) ∧ Num w.heap.size w' v (A * p2 n.toNat) 100 ∧ Below w.heap.size w w' := by
  obtain ⟨N, rfl⟩ := Int.eq_ofNat_of_zero_le h0
  refine (shl_room ha (by omega) (by omega)).mono ?_
  rintro x w1 ⟨vs, rfl, hv, K⟩
  rw [Int.toNat_natCast]
  exact ⟨vs, rfl, hv.mono (by omega), K⟩

end Go.Proofs.YtfnfnkakaggmbabGreatDoor
