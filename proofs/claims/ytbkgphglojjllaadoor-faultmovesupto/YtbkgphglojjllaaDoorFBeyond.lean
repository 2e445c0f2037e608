/- law13.beyond -/
import Derived.Test.YtbkgphglojjllaaDoorFPartsW
namespace Go.Proofs.YtbkgphglojjllaaDoor
open Go.RowKit
set_option linter.unusedVariables false

theorem allZ_take {xs : List Nd} {i : Nat} (h : i < xs.length) : allZ (xs.take (i + 1)) = allZ (xs.take i) + ndZ xs[i] := by
  rw [List.take_succ_eq_append_getElem h, allZ_app]; simp [allZ]
/-- either more than these, or no more -/
def BynIs (e : Ending) (z : Nat) : Prop := ∃ b : Bool, e = .returned (.bool b) ∧ (b = true ∨ z ≤ 10000)
set_option maxHeartbeats 8000000 in
set_option maxRecDepth 100000 in
theorem beyond_any {w : World} {v : Value} {xs : List Nd} (h : NdSl w v xs) :
    Calls Tryd.prog 9 #[v] w fun e w' => BynIs e (allZ xs) ∧ Below w.heap.size w w' := by
  have HV := hide h
  obtain ⟨ao, cap, rfl, hcap, hmax⟩ := h.len
  have hsm := h.small
  clear h
  go_enter Tryd.func9, Tryd.ntmps9
  go_wp2
  go_loopw [3, 4] (fun n q wr => ∃ (i : Nat), q = .int .i64 i ∧ i ≤ xs.length ∧ n = .int .i64 (allZ (xs.take i) : Nat) ∧ allZ (xs.take i) ≤ 10000 ∧ Hid (Below w.heap.size w wr)) (fun _ q _ => xs.length - (intOf q).toNat)
  case atStart => exact ⟨0, rfl, by omega, by simp [allZ], by simp [allZ], hide (Below.refl _ _)⟩
  case round =>
    obtain ⟨i, rfl, hi, rfl, hle, HB⟩ := hrel
    by_cases hil : i < xs.length
    · have q1 : (i : Int) < (xs.length : Int) := by omega
      have q0 : (0 : Int) ≤ (i : Int) := by omega
      obtain ⟨b, off, vi, rfl, hbl, hcc, hks⟩ := NdSl.at (HV.out.far HB.out) rfl hil
      obtain ⟨z0, z1, z2, z3, z4⟩ := hcc
      have hst := allZ_take hil
      have hcall := parts_any hks
      unfold ndV at hcall
      have HC := hide hcall
      replace hst := hide hst
      generalize xs[i] = y at *
      obtain ⟨ao2, cap2, rfl, _, _⟩ := hks.len
      have w2' : IntKind.i64.wrap ((i : Int) + 1) = (i : Int) + 1 := by rw [IntKind.wrap_i64]; omega
      obtain ⟨n0, hn0⟩ : ∃ n0, allZ (xs.take i) = n0 := ⟨_, rfl⟩
      rw [hn0] at hst hle ⊢
      clear hcall hks hbl hn0
      go_wp2_with fail
      refine HC.out.mono ?_
      rintro e w2 ⟨⟨r, rfl, hr⟩, hb2⟩
      have HB2 := hide (HB.out.trans (hb2.mono HB.out.size))
      clear hb2 HC z0 z1 z2 z3 z4
      by_cases hbig : 10000 < (n0 : Int) + r
      · have w3 : IntKind.i64.wrap ((n0 : Int) + r) = (n0 : Int) + r := by rw [IntKind.wrap_i64]; omega
        clear hr
        go_wp2
        go_ret
        exact ⟨⟨true, rfl, Or.inl rfl⟩, HB2.out⟩
      · have w3 : IntKind.i64.wrap ((n0 : Int) + r) = (n0 : Int) + r := by rw [IntKind.wrap_i64]; omega
        obtain ⟨hr1, hr2⟩ : r = ndZ y ∧ ndZ y ≤ 10000 := by
          rcases hr with h | h
          · omega
          · exact h
        subst hr1
        clear hr
        go_wp2
        go_roundw
        case rel => exact ⟨i + 1, by simp, by omega, by rw [hst.out]; simp, by rw [hst.out]; omega, HB2⟩
        case measure => simp [intOf]; omega
    · have q1 : ¬ ((i : Int) < (xs.length : Int)) := by omega
      rw [List.take_of_length_le (by omega)] at hle
      replace hle := hide hle
      go_wp2
      go_ret
      exact ⟨⟨false, rfl, Or.inr hle.out⟩, HB.out⟩

end Go.Proofs.YtbkgphglojjllaaDoor
