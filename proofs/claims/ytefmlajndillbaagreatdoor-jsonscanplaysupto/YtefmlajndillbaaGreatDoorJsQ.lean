/- layer 16: behind -/
import Derived.Test.YtefmlajndillbaaGreatDoorJsP
namespace Go.Proofs.YtefmlajndillbaaGreatDoor
open Go.RowKit
set_option linter.unusedVariables false

set_option maxRecDepth 100000 in
set_option maxHeartbeats 4000000 in
theorem jbehind {w : World} {a : Nat → Addr} {B p : Nat} {nx ov : Value} {sz : Int} {t : St} {b : Int} (h : ScS w a B p nx sz ov t) :
    Calls Tryz.prog 57 #[.pointer (some ⟨p, 0, none⟩), .int .u8 b] w (Outs w a B p nx sz ov (behindB b t)) := by
  cases kb : blankB b with
  | true =>
    have E : behindB b t = mayE .behind t := by simp [behindB, kb]
    rw [E]; clear E
    have C0 := hide (jblankE (w := w) kb)
    have CL := hide (jmayEnd h (.func (.func 57) #[.pointer (some ⟨p, 0, none⟩)] #[]))
    go_enter Tryz.func57, Tryz.ntmps57
    go_wp2_with fail
    refine C0.out.mono ?_
    rintro e w1 ⟨rfl, rfl⟩
    go_wp2_with fail
    refine CL.out.mono ?_
    rintro e w1 ⟨rfl, h1, f1⟩
    go_wp2
    go_ret
    exact ⟨ov, rfl, h1, f1⟩
  | false =>
    have C0 := hide (jblankE (w := w) kb)
    have c3 := h.cell 3
    simp only [scC] at c3
    by_cases hn : t.opn = []
    · have E : behindB b t = no t := by simp [behindB, kb, hn]
      rw [E]; clear E
      have hz : ∃ s0 c0, ov = .slice s0 0 c0 := by
        rcases h.own.2 with ⟨rfl, h0⟩ | ⟨g, cap, cur, rfl, _⟩
        · exact ⟨_, _, rfl⟩
        · rw [hn]; exact ⟨_, _, rfl⟩
      obtain ⟨s0, c0, rfl⟩ := hz
      go_enter Tryz.func57, Tryz.ntmps57
      go_wp2_with fail
      refine C0.out.mono ?_
      rintro e w1 ⟨rfl, rfl⟩
      go_wp2
      go_ret
      exact ⟨_, rfl, h, Fr.refl _ _ _⟩
    · obtain ⟨l, c, hlc⟩ : ∃ l c, t.opn = l ++ [c] := ⟨t.opn.dropLast, t.opn.getLast hn, (List.dropLast_concat_getLast hn).symm⟩
      have hlast : t.opn.getLastD 0 = c := by rw [hlc]; simp
      have ho := h.own
      rw [hlc] at ho
      rcases ho.2 with ⟨_, h0⟩ | ⟨g, cap, cur, rfl, hb, hg, hnn, hcm, hcs, ht⟩
      · simp at h0
      obtain ⟨q1, q2, q3, q4, q5⟩ := own_short ho
      have HC := hide (jclosed h.drew hn)
      have HH := hide h
      rw [q1] at c3 q2 HC HH ⊢
      clear ho q5 hg ht hnn hcs h
      obtain ⟨L, hL⟩ : ∃ L, l.length = L := ⟨_, rfl⟩
      rw [hL] at c3 HC HH q1 q2 q4 ⊢
      have HE := hide hlast
      clear hlc hlast q1 hL
      have b1 : ((L + 1 : Nat) : Int) - 1 = (L : Int) := by omega
      have b2 : (0 : Int) ≤ (L : Int) := by omega
      have b3 : (L : Int) < ((L + 1 : Nat) : Int) := by omega
      have b4 : (L : Int) ≤ 9223372036854775807 := by unfold maxLen at hcm; omega
      have b5 : ¬ (((L + 1 : Nat) : Int) = 0) := by omega
      have b6 : (0 : Int) ≤ (L : Int) ∧ (L : Int) < ((L + 1 : Nat) : Int) := ⟨b2, b3⟩
      by_cases k1 : b = c
      · have E : behindB b t = closed t := by rw [behindB, if_neg (by simp [kb]), if_neg hn, if_pos (by rw [HE.out]; exact k1)]
        rw [E]; clear E
        subst k1
        clear HE hcm q2 q3 hb cur
        go_enter Tryz.func57, Tryz.ntmps57
        go_wp2_with fail
        refine C0.out.mono ?_
        rintro e w1 ⟨rfl, rfl⟩
        go_wp2_with fail
        go_region
        go_wp2_with fail
        refine HC.out.mono ?_
        rintro e w1 ⟨ov1, rfl, h1, f1⟩
        go_wp2
        go_ret
        exact ⟨ov1, rfl, h1, (Fr.of_below (Below.refl _ _).drew).trans f1⟩
      · have k1' : ¬ (c = b) := fun e => k1 e.symm
        by_cases k2 : b = 44
        · by_cases k3 : c = 93
          · have E : behindB b t = go .value t := by rw [behindB, if_neg (by simp [kb]), if_neg hn, if_neg (by rw [HE.out]; exact k1), if_pos k2, if_pos (by rw [HE.out]; exact k3)]
            rw [E]; clear E
            subst k2
            subst k3
            clear HE hcm q2 q3 hb cur
            go_enter Tryz.func57, Tryz.ntmps57
            go_wp2_with fail
            refine C0.out.mono ?_
            rintro e w1 ⟨rfl, rfl⟩
            go_wp2_with fail
            go_region
            go_wp2
            go_ret
            exact ⟨_, rfl, HH.out.drew, Fr.of_below (Below.refl _ _).drew⟩
          · have E : behindB b t = go .key t := by rw [behindB, if_neg (by simp [kb]), if_neg hn, if_neg (by rw [HE.out]; exact k1), if_pos k2, if_neg (by rw [HE.out]; exact k3)]
            rw [E]; clear E
            subst k2
            clear HE hcm q2 q3 hb cur
            go_enter Tryz.func57, Tryz.ntmps57
            go_wp2_with fail
            refine C0.out.mono ?_
            rintro e w1 ⟨rfl, rfl⟩
            go_wp2_with fail
            go_region
            go_wp2
            go_ret
            exact ⟨_, rfl, HH.out.drew, Fr.of_below (Below.refl _ _).drew⟩
        · have E : behindB b t = no t := by rw [behindB, if_neg (by simp [kb]), if_neg hn, if_neg (by rw [HE.out]; exact k1), if_neg k2]
          rw [E]; clear E
          clear HE hcm q2 q3 hb cur
          go_enter Tryz.func57, Tryz.ntmps57
          go_wp2_with fail
          refine C0.out.mono ?_
          rintro e w1 ⟨rfl, rfl⟩
          go_wp2_with fail
          go_region
          go_wp2
          go_ret
          exact ⟨_, rfl, HH.out.drew, Fr.of_below (Below.refl _ _).drew⟩

end Go.Proofs.YtefmlajndillbaaGreatDoor
