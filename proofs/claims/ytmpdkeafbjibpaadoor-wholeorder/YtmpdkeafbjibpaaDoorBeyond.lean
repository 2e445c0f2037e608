/- BeyondNat -/
import Derived.Test.YtmpdkeafbjibpaaDoorKit
namespace Go.Proofs.YtmpdkeafbjibpaaDoor
open Go.RowKit

/-- how many parts: a limb each, and one a list -/
def tot : List Nat → Nat
  | [] => 0
  | x :: r => 1 + x + tot r
theorem tot_append (a b : List Nat) : tot (a ++ b) = tot a + tot b := by
  induction a with
  | nil => simp [tot]
  | cons x r ih => simp only [List.cons_append, tot, ih]; omega
theorem tot_take_succ (ls : List Nat) (k : Nat) (h : k < ls.length) : tot (ls.take (k + 1)) = tot (ls.take k) + 1 + ls.getD k 0 := by
  rw [List.take_succ_eq_append_getElem h, tot_append]
  simp [tot, h]; omega
theorem tot_take_le (ls : List Nat) (k : Nat) : tot (ls.take k) ≤ tot ls := by
  have := tot_append (ls.take k) (ls.drop k)
  rw [List.take_append_drop] at this
  omega

set_option maxHeartbeats 1000000 in
theorem beyond_any {w : World} {g : Nat} {ls : List Nat} (hm : ls.length ≤ 1000) (hl : ∀ i, ls.getD i 0 ≤ 70368744177664)
    (hc : ∀ i, i < ls.length → ∃ ao cap, w.cell? ⟨g, i, none⟩ = some (.slice ao (ls.getD i 0) cap)) :
    Calls Tryd.prog 21 #[.slice (some ⟨g, 0, none⟩) ls.length ls.length] w fun e w' => e = .returned (.bool (decide (1048576 < tot ls))) ∧ w' = w := by
  go_enter Tryd.func21, Tryd.ntmps21
  go_wp2
  go_loop [3, 4] (fun n i => ∃ (k N : Nat), k ≤ ls.length ∧ i = .int .i64 k ∧ n = .int .i64 N ∧ N = tot (ls.take k) ∧ N ≤ 1048576) (fun _ i => ls.length - (intOf i).toNat)
  case atStart => exact ⟨0, 0, Nat.zero_le _, rfl, rfl, by simp [tot], by omega⟩
  case round =>
    obtain ⟨k, N, hk, rfl, rfl, hN, hle⟩ := hrel
    have HN : Hid (N = tot (ls.take k)) := hN
    clear hN
    by_cases hkl : k < ls.length
    · obtain ⟨ao, cap, hcell⟩ := hc k hkl
      have hlk := hl k
      have hst := tot_take_succ ls k hkl
      have hto := tot_take_le ls (k + 1)
      have HS : Hid _ := hst
      have HT : Hid _ := hto
      clear hst hto hl hc
      generalize hL : ls.getD k 0 = L at *
      have HL : Hid _ := hL
      clear hL
      by_cases hq : 1048576 < N + 1 + L
      · have hq' : (1048576 : Int) < (N : Int) + 1 + (L : Int) := by omega
        go_wp2
        go_ret
        refine ⟨?_, rfl⟩
        have h1 := HN.out
        have h2 := HS.out
        have h3 := HT.out
        rw [decide_eq_true (by omega)]
        rfl
      · have hq' : ¬ (1048576 : Int) < (N : Int) + 1 + (L : Int) := by omega
        go_wp2
        go_round
        case rel => exact ⟨k + 1, N + 1 + L, by omega, by go_num, by go_num, by have h1 := HN.out; have h2 := HS.out; omega, by omega⟩
        case measure => simp [intOf]; omega
    · have hke : k = ls.length := by omega
      subst hke
      go_wp2
      go_ret
      refine ⟨?_, rfl⟩
      have h1 := HN.out
      rw [List.take_length] at h1
      rw [decide_eq_false (by omega)]
      rfl

end Go.Proofs.YtmpdkeafbjibpaaDoor
