/- what the laws of layer 2 call besides -/
import Derived.Test.YtkffaakjbbfiaaaDoorQLives
import Derived.Test.YtkffaakjbbfiaaaDoorTwin
namespace Go.Proofs.YtkffaakjbbfiaaaDoor
open Go.RowKit

theorem twin_arg {w : World} {va : Value} {n : Int} {k : Nat} (ha : Arg w va n k) (hk : k ≤ 70368744176000) :
    Calls Tryd.prog 7 #[va] w fun e w' => ∃ v, e = .returned v ∧ Arg w' v n k ∧ Below w.heap.size w w' := by
  obtain ⟨xs, hr, ho, hv, hl⟩ := ha
  refine (twin_any hr (by omega)).mono ?_
  rintro e w' ⟨v, rfl, ht, hb⟩
  exact ⟨v, rfl, ⟨xs, ht.reads, ho, hv, hl⟩, hb⟩

set_option maxHeartbeats 1000000 in
theorem tight_num {w : World} {v : Value} {n : Int} {B k : Nat} (h : Num B w v n k) :
    Calls Tryd.prog 13 #[v] w fun e w' => e = .returned (.bool true) ∧ w' = w := by
  obtain ⟨zs, ⟨ao, rfl, hm, hr⟩, hc, _, _⟩ := h
  by_cases hz : zs = []
  · subst hz
    go_enter Tryd.func13, Tryd.ntmps13
    go_wp2
    go_ret
    exact ⟨rfl, rfl⟩
  · have hp := List.length_pos_iff.2 hz
    have ht := hc.2 hz
    obtain ⟨g, rest, rfl, _, hrow⟩ := hr hp
    have hcell := hrow.cell (i := zs.length - 1) (by rw [List.length_append]; omega)
    rw [lb_append_left (by omega)] at hcell
    obtain ⟨l, hl⟩ : ∃ l, l = zs.length - 1 := ⟨_, rfl⟩
    rw [← hl] at hcell ht
    obtain ⟨n, hn⟩ : ∃ n, n = zs.length := ⟨_, rfl⟩
    rw [← hn]
    have q1 : (n : Int) - 1 = (l : Int) := by omega
    have q2 : (l : Int) < (n : Int) := by omega
    have q3 : ((n : Int) == 0) = false := by simp; omega
    have q4 : (Nt.lb zs l != 0) = true := by simp [ht]
    have q5 : (n : Int) ≤ 9223372036854775807 := by unfold maxLen at hm; omega
    clear hl hr hrow hm hn hz hp ht
    go_enter Tryd.func13, Tryd.ntmps13
    go_wp2
    go_ret
    exact ⟨rfl, rfl⟩

theorem isLen_zero : IsLen 0 0 := ⟨by decide, fun h => by omega⟩
theorem isLen_pos {n : Int} {k : Nat} (h : IsLen n k) (hn : 0 < n) : 0 < k := by
  rcases Nat.eq_zero_or_pos k with h0 | h0
  · subst h0; have h3 := h.1; simp only [p2] at h3; omega
  · exact h0
theorem sgn_self (n : Int) : sgn n n = 0 := by unfold sgn; simp

end Go.Proofs.YtkffaakjbbfiaaaDoor
