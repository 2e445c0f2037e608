/- UtfSteps: the walk -/
import Derived.Test.YteejbcknikjkjaaURefB
namespace Go.Proofs.Yteejbcknikjkjaa
open Go.RowKit
set_option linter.unusedVariables false

set_option maxRecDepth 100000 in
set_option maxHeartbeats 4000000 in
theorem usteps_walk {w : World} {s : ByteArray} {at_ : Int} (hl : s.size ≤ 9223372036854775800) :
    Calls Try.prog 3 #[.string s, .int .i64 at_] w fun e w' => e = .returned (.bool true) ∧ Below w.heap.size w w' := by
  obtain ⟨es, hb, hle, hs⟩ := utxt_of s
  rw [← hle] at hl
  obtain ⟨ps, t, hS⟩ := USplit.exists es.length (Nat.le_refl _) hb
  have hsz : s.size = es.length := hle.symm
  have c1 := hide (fun w => bad_any (w := w) hb hs (by omega) hS)
  have c2 := hide (fun w => rbad_any (w := w) hb hs hl hS)
  have c3 := hide (fun w => first_any (w := w) (at_ := at_) hb hs (by omega))
  have c4 := hide (fun (k : Nat) hk w => rfirst_any (w := w) (k := k) hb hs hl hk)
  have hpt := hide (fun (k : Nat) h => (uDec_cases (hb.drop k) h).1)
  obtain ⟨L, hL⟩ : ∃ L, es.length = L := ⟨_, rfl⟩
  have HL := hide hL
  rw [hL] at hsz hl c4
  obtain ⟨m, hm⟩ : ∃ m, (uFlat ps).length = m := ⟨_, rfl⟩
  rw [hm] at c1 c2
  clear hb hle hs hS hL hm
  have q0 : ((m : Int) != (m : Int)) = false := by simp
  by_cases hin : 0 ≤ at_ ∧ at_ < L
  · obtain ⟨k, rfl⟩ : ∃ k : Nat, at_ = k := ⟨at_.toNat, by omega⟩
    have hk : k < L := by omega
    have f1 : ¬ (k : Int) < 0 := by omega
    have f2 : ¬ (L : Int) ≤ (k : Int) := by omega
    have c4k := hide (c4.out k hk)
    have hptk := hide (hpt.out k)
    rw [uFst_in (by rw [HL.out]; exact hk)] at c3
    obtain ⟨⟨p, n⟩, hD⟩ : ∃ D, uDec (es.drop k) = D := ⟨_, rfl⟩
    rw [hD] at c3 c4k hptk
    clear c4 hpt hin
    by_cases hn : n = 0
    · have hp0 : p = 0 := by
        subst hn
        have := uDec_zero (l := es.drop k) (by rw [hD])
        rw [hD] at this
        exact (Prod.mk.inj this).1
      subst hn hp0
      rw [uStepV_no] at c4k
      clear hD
      go_enter Try.func3, Try.ntmps3
      go_wp2_with (first | (go_at_call 7; refine (c1.out _).mono ?_; rintro e w1 ⟨rfl, hB1⟩) | (go_at_call 8; refine (c2.out _).mono ?_; rintro e w2 ⟨rfl, hB2⟩) | (go_at_call 9; refine (c3.out _).mono ?_; rintro e w' ⟨rfl, rfl⟩) | (go_at_call 11; refine (c4k.out _).mono ?_; rintro e w3 ⟨rfl, hB3⟩) | (go_at_call 10; refine ulives_any.mono ?_; rintro e w4 ⟨rfl, hB4⟩))
      go_ret
      have z1 := hB1.size
      have z2 := hB2.size
      have z3 := hB3.size
      refine ⟨rfl, ((hB1.trans (hB2.mono z1)).trans (hB3.mono (by omega))).trans ?_⟩
      exact ((Below.refl _ _).alloc (by omega) _).trans (hB4.mono (by simp; omega))
    · have hptt : uPt p = true := hptk.out hn
      have hpr := uPt_iff.1 hptt
      rw [uStepV_yes _ _ hn] at c4k
      have q1 : ((n != 0) : Bool) = true := by simp [hn]
      have q2 : ((n : Int) == (n : Int)) = true := by simp
      have q3 : (p == p) = true := by simp
      have q4 : IntKind.i64.wrap p = p := by simp [IntKind.wrap, IntKind.bits, IntKind.signed]; omega
      clear hD hptt
      go_enter Try.func3, Try.ntmps3
      go_wp2_with (first | (go_at_call 7; refine (c1.out _).mono ?_; rintro e w1 ⟨rfl, hB1⟩) | (go_at_call 8; refine (c2.out _).mono ?_; rintro e w2 ⟨rfl, hB2⟩) | (go_at_call 9; refine (c3.out _).mono ?_; rintro e w' ⟨rfl, rfl⟩) | (go_at_call 11; refine (c4k.out _).mono ?_; rintro e w3 ⟨rfl, hB3⟩) | (go_at_call 10; refine ulives_any.mono ?_; rintro e w4 ⟨rfl, hB4⟩))
      go_ret
      have z1 := hB1.size
      have z2 := hB2.size
      have z3 := hB3.size
      refine ⟨rfl, ((hB1.trans (hB2.mono z1)).trans (hB3.mono (by omega))).trans ?_⟩
      exact ((Below.refl _ _).alloc (by omega) _).trans (hB4.mono (by simp; omega))
  · have e : uFst es at_ = (0, 0) := by unfold uFst; rw [if_neg (by rw [HL.out]; exact hin)]
    rw [e] at c3
    clear e c4 hpt
    by_cases f1 : at_ < 0
    · go_enter Try.func3, Try.ntmps3
      go_wp2_with (first | (go_at_call 7; refine (c1.out _).mono ?_; rintro e w1 ⟨rfl, hB1⟩) | (go_at_call 8; refine (c2.out _).mono ?_; rintro e w2 ⟨rfl, hB2⟩) | (go_at_call 9; refine (c3.out _).mono ?_; rintro e w' ⟨rfl, rfl⟩) | (go_at_call 10; refine ulives_any.mono ?_; rintro e w4 ⟨rfl, hB4⟩))
      go_ret
      have z1 := hB1.size
      have z2 := hB2.size
      exact ⟨rfl, (hB1.trans (hB2.mono z1)).trans (hB4.mono (by omega))⟩
    · have f2 : decide ((L : Int) ≤ at_) = true := decide_eq_true (by omega)
      go_enter Try.func3, Try.ntmps3
      go_wp2_with (first | (go_at_call 7; refine (c1.out _).mono ?_; rintro e w1 ⟨rfl, hB1⟩) | (go_at_call 8; refine (c2.out _).mono ?_; rintro e w2 ⟨rfl, hB2⟩) | (go_at_call 9; refine (c3.out _).mono ?_; rintro e w' ⟨rfl, rfl⟩) | (go_at_call 10; refine ulives_any.mono ?_; rintro e w4 ⟨rfl, hB4⟩))
      go_ret
      have z1 := hB1.size
      have z2 := hB2.size
      exact ⟨rfl, (hB1.trans (hB2.mono z1)).trans (hB4.mono (by omega))⟩

end Go.Proofs.Yteejbcknikjkjaa
