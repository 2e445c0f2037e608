/- lists of texts that are alike -/
import Derived.Test.YtbkgphglojjllaaDoorFSteps
import Derived.Test.YtbkgphglojjllaaDoorFShifts
namespace Go.Proofs.YtbkgphglojjllaaDoor
open Go.RowKit
set_option linter.unusedVariables false

/-- the value is a list of texts -/
def TxRd (w : World) (v : Value) (xs : List (List UInt8)) : Prop :=
  ∃ ao cap, v = .slice ao xs.length cap ∧ xs.length ≤ cap ∧ cap ≤ maxLen ∧ (0 < xs.length → ∃ b off, ao = some ⟨b, off, none⟩ ∧ b < w.heap.size ∧ ∀ i (h : i < xs.length), w.cell? ⟨b, off + i, none⟩ = some (tV xs[i]))
theorem TxRd.below {w w' : World} {v : Value} {xs : List (List UInt8)} (h : TxRd w v xs) (hb : Below w.heap.size w w') : TxRd w' v xs := by
  obtain ⟨ao, cap, h1, h2, h3, h4⟩ := h
  refine ⟨ao, cap, h1, h2, h3, fun hp => ?_⟩
  obtain ⟨b, off, g1, g2, g3⟩ := h4 hp
  exact ⟨b, off, g1, Nat.lt_of_lt_of_le g2 hb.size, fun i hi => (hb.cell (p := ⟨b, off + i, none⟩) g2).trans (g3 i hi)⟩
set_option maxHeartbeats 4000000 in
set_option maxRecDepth 100000 in
theorem sameTexts_any {w : World} {va vb : Value} {xs : List (List UInt8)} (ha : TxRd w va xs) (hb : TxRd w vb xs) :
    Calls Tryd.prog 29 #[va, vb] w fun e w' => e = .returned (.bool true) ∧ Below w.heap.size w w' := by
  obtain ⟨ao, ca, rfl, hac, ham, hacl⟩ := ha
  obtain ⟨bo, cb, rfl, hbc, hbm, hbcl⟩ := hb
  unfold maxLen at ham
  have RA := hide hacl
  have RB := hide hbcl
  have hlm : xs.length ≤ 9223372036854775807 := by omega
  clear hacl hbcl hac hbc hbm
  go_enter Tryd.func29, Tryd.ntmps29
  go_wp2
  go_loopw [5] (fun p wr => ∃ (i : Nat), p = .int .i64 i ∧ i ≤ xs.length ∧ Hid (Below w.heap.size w wr)) (fun p _ => xs.length - (intOf p).toNat)
  case atStart => exact ⟨0, rfl, by omega, hide (Below.refl _ w)⟩
  case round =>
    obtain ⟨i, rfl, hi, hB⟩ := hrel
    by_cases hil : i < xs.length
    · obtain ⟨ga, oa, rfl, hga, hin⟩ := RA.out (by omega)
      obtain ⟨gb, ob, rfl, hgb, hinb⟩ := RB.out (by omega)
      have q1 : (i : Int) < (xs.length : Int) := by omega
      obtain ⟨t, ht⟩ : ∃ t : ByteArray, tV xs[i] = .string t := ⟨_, rfl⟩
      have qz := hin i hil
      rw [ht] at qz
      have q1a := (hB.out.cell (p := ⟨ga, _, none⟩) hga).trans qz
      have qy := hinb i hil
      rw [ht] at qy
      have q1b := (hB.out.cell (p := ⟨gb, _, none⟩) hgb).trans qy
      clear hin hinb qz qy ht
      go_wp2
      go_quiet (fail)
      have HB2 := hide (below_drewN hB.out nq)
      have w2' : IntKind.i64.wrap ((i : Int) + 1) = (i : Int) + 1 := by rw [IntKind.wrap_i64]; omega
      go_wp2
      go_roundw
      case rel => exact ⟨i + 1, by simp, by omega, HB2⟩
      case measure => simp [intOf]; omega
    · go_wp2
      go_ret
      exact ⟨rfl, hB.out⟩

end Go.Proofs.YtbkgphglojjllaaDoor
