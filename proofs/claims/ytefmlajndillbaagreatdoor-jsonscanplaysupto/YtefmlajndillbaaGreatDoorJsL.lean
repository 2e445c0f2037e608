/- layer 16: the scanner's steps within literals -/
import Derived.Test.YtefmlajndillbaaGreatDoorJsK
namespace Go.Proofs.YtefmlajndillbaaGreatDoor
open Go.RowKit
set_option linter.unusedVariables false

theorem jsecondHalf {w : World} {a : Nat → Addr} {B p : Nat} {nx ov : Value} {sz : Int} {t : St} {b : Int} (h : ScS w a B p nx sz ov t) : Calls Tryz.prog 98 #[.pointer (some ⟨p, 0, none⟩), .int .u8 b] w (Outs w a B p nx sz ov (secondHalfB b t)) := by
  by_cases k1 : b = 92
  · subst k1
    have E : secondHalfB 92 t = go .secondU t := by rfl
    rw [E]; clear E
    go_enter Tryz.func98, Tryz.ntmps98
    go_wp2
    all_goals go_ret
    all_goals exact ⟨ov, rfl, h, Fr.refl _ _ _⟩
  · have nk1 : (b == 92) = false := by simpa using k1
    have E : secondHalfB b t = no t := by simp [secondHalfB, k1]
    rw [E]; clear E
    go_enter Tryz.func98, Tryz.ntmps98
    go_wp2
    all_goals go_ret
    all_goals exact ⟨ov, rfl, h, Fr.refl _ _ _⟩
theorem jsecondU {w : World} {a : Nat → Addr} {B p : Nat} {nx ov : Value} {sz : Int} {t : St} {b : Int} (h : ScS w a B p nx sz ov t) : Calls Tryz.prog 102 #[.pointer (some ⟨p, 0, none⟩), .int .u8 b] w (Outs w a B p nx sz ov (secondUB b t)) := by
  by_cases k1 : b = 117
  · subst k1
    have E : secondUB 117 t = go .secondD t := by rfl
    rw [E]; clear E
    go_enter Tryz.func102, Tryz.ntmps102
    go_wp2
    all_goals go_ret
    all_goals exact ⟨ov, rfl, h, Fr.refl _ _ _⟩
  · have nk1 : (b == 117) = false := by simpa using k1
    have E : secondUB b t = no t := by simp [secondUB, k1]
    rw [E]; clear E
    go_enter Tryz.func102, Tryz.ntmps102
    go_wp2
    all_goals go_ret
    all_goals exact ⟨ov, rfl, h, Fr.refl _ _ _⟩
theorem jsecondD {w : World} {a : Nat → Addr} {B p : Nat} {nx ov : Value} {sz : Int} {t : St} {b : Int} (h : ScS w a B p nx sz ov t) : Calls Tryz.prog 103 #[.pointer (some ⟨p, 0, none⟩), .int .u8 b] w (Outs w a B p nx sz ov (secondDB b t)) := by
  by_cases k1 : b = 100
  · subst k1
    have E : secondDB 100 t = go .secondSpan t := by rfl
    rw [E]; clear E
    go_enter Tryz.func103, Tryz.ntmps103
    go_wp2
    all_goals go_ret
    all_goals exact ⟨ov, rfl, h, Fr.refl _ _ _⟩
  · have nk1 : (b == 100) = false := by simpa using k1
    by_cases k2 : b = 68
    · subst k2
      have E : secondDB 68 t = go .secondSpan t := by rfl
      rw [E]; clear E
      go_enter Tryz.func103, Tryz.ntmps103
      go_wp2
      all_goals go_ret
      all_goals exact ⟨ov, rfl, h, Fr.refl _ _ _⟩
    · have nk2 : (b == 68) = false := by simpa using k2
      have E : secondDB b t = no t := by simp [secondDB, k1, k2]
      rw [E]; clear E
      go_enter Tryz.func103, Tryz.ntmps103
      go_wp2
      all_goals go_ret
      all_goals exact ⟨ov, rfl, h, Fr.refl _ _ _⟩
theorem junit {w : World} {a : Nat → Addr} {B p : Nat} {nx ov : Value} {sz : Int} {t : St} {b : Int} (h : ScS w a B p nx sz ov t) : Calls Tryz.prog 75 #[.pointer (some ⟨p, 0, none⟩), .int .u8 b] w (Outs w a B p nx sz ov (unitB b t)) := by
  by_cases k1 : b = 100
  · subst k1
    have E : unitB 100 t = go .behindD t := by rfl
    rw [E]; clear E
    go_enter Tryz.func75, Tryz.ntmps75
    go_wp2
    all_goals go_ret
    all_goals exact ⟨ov, rfl, h, Fr.refl _ _ _⟩
  · have nk1 : (b == 100) = false := by simpa using k1
    by_cases k2 : b = 68
    · subst k2
      have E : unitB 68 t = go .behindD t := by rfl
      rw [E]; clear E
      go_enter Tryz.func75, Tryz.ntmps75
      go_wp2
      all_goals go_ret
      all_goals exact ⟨ov, rfl, h, Fr.refl _ _ _⟩
    · have nk2 : (b == 68) = false := by simpa using k2
      cases k3 : jhxB b with
      | true =>
        have E : unitB b t = moreB 3 false t := by simp [unitB, k1, k2, k3]
        rw [E]; clear E
        have C0 := hide (jhexE (w := w) (b := b) (v := true) k3)
        have CL := hide (jmore h 3 false)
        go_enter Tryz.func75, Tryz.ntmps75
        go_wp2_with fail
        refine C0.out.mono ?_
        rintro e w1 ⟨rfl, rfl⟩
        go_wp2_with fail
        refine CL.out.mono ?_
        rintro e w1 ⟨ov1, rfl, h1, f1⟩
        go_wp2
        go_ret
        exact ⟨ov1, rfl, h1, f1⟩
      | false =>
        have E : unitB b t = no t := by simp [unitB, k1, k2, k3]
        rw [E]; clear E
        have C0 := hide (jhexE (w := w) (b := b) (v := false) k3)
        go_enter Tryz.func75, Tryz.ntmps75
        go_wp2_with fail
        refine C0.out.mono ?_
        rintro e w1 ⟨rfl, rfl⟩
        go_wp2
        all_goals go_ret
        all_goals exact ⟨ov, rfl, h, Fr.refl _ _ _⟩
theorem jbehindD {w : World} {a : Nat → Addr} {B p : Nat} {nx ov : Value} {sz : Int} {t : St} {b : Int} (h : ScS w a B p nx sz ov t) : Calls Tryz.prog 86 #[.pointer (some ⟨p, 0, none⟩), .int .u8 b] w (Outs w a B p nx sz ov (behindDB b t)) := by
  by_cases k1 : 48 ≤ b ∧ b ≤ 55
  · have _ := k1
    have xk10 : 48 ≤ b := by omega
    have xk11 : b ≤ 55 := by omega
    have E : behindDB b t = moreB 2 false t := by simp [behindDB, k1]
    rw [E]; clear E
    have CL := hide (jmore h 2 false)
    go_enter Tryz.func86, Tryz.ntmps86
    go_wp2_with fail
    refine CL.out.mono ?_
    rintro e w1 ⟨ov1, rfl, h1, f1⟩
    go_wp2
    go_ret
    exact ⟨ov1, rfl, h1, f1⟩
  · have _ := k1
    by_cases k2 : b = 56
    · subst k2
      have E : behindDB 56 t = moreB 2 true t := by rfl
      rw [E]; clear E
      have CL := hide (jmore h 2 true)
      go_enter Tryz.func86, Tryz.ntmps86
      go_wp2_with fail
      refine CL.out.mono ?_
      rintro e w1 ⟨ov1, rfl, h1, f1⟩
      go_wp2
      go_ret
      exact ⟨ov1, rfl, h1, f1⟩
    · have nk2 : (b == 56) = false := by simpa using k2
      by_cases k3 : b = 57
      · subst k3
        have E : behindDB 57 t = moreB 2 true t := by rfl
        rw [E]; clear E
        have CL := hide (jmore h 2 true)
        go_enter Tryz.func86, Tryz.ntmps86
        go_wp2_with fail
        refine CL.out.mono ?_
        rintro e w1 ⟨ov1, rfl, h1, f1⟩
        go_wp2
        go_ret
        exact ⟨ov1, rfl, h1, f1⟩
      · have nk3 : (b == 57) = false := by simpa using k3
        by_cases k4 : b = 97
        · subst k4
          have E : behindDB 97 t = moreB 2 true t := by rfl
          rw [E]; clear E
          have CL := hide (jmore h 2 true)
          go_enter Tryz.func86, Tryz.ntmps86
          go_wp2_with fail
          refine CL.out.mono ?_
          rintro e w1 ⟨ov1, rfl, h1, f1⟩
          go_wp2
          go_ret
          exact ⟨ov1, rfl, h1, f1⟩
        · have nk4 : (b == 97) = false := by simpa using k4
          by_cases k5 : b = 98
          · subst k5
            have E : behindDB 98 t = moreB 2 true t := by rfl
            rw [E]; clear E
            have CL := hide (jmore h 2 true)
            go_enter Tryz.func86, Tryz.ntmps86
            go_wp2_with fail
            refine CL.out.mono ?_
            rintro e w1 ⟨ov1, rfl, h1, f1⟩
            go_wp2
            go_ret
            exact ⟨ov1, rfl, h1, f1⟩
          · have nk5 : (b == 98) = false := by simpa using k5
            by_cases k6 : b = 65
            · subst k6
              have E : behindDB 65 t = moreB 2 true t := by rfl
              rw [E]; clear E
              have CL := hide (jmore h 2 true)
              go_enter Tryz.func86, Tryz.ntmps86
              go_wp2_with fail
              refine CL.out.mono ?_
              rintro e w1 ⟨ov1, rfl, h1, f1⟩
              go_wp2
              go_ret
              exact ⟨ov1, rfl, h1, f1⟩
            · have nk6 : (b == 65) = false := by simpa using k6
              by_cases k7 : b = 66
              · subst k7
                have E : behindDB 66 t = moreB 2 true t := by rfl
                rw [E]; clear E
                have CL := hide (jmore h 2 true)
                go_enter Tryz.func86, Tryz.ntmps86
                go_wp2_with fail
                refine CL.out.mono ?_
                rintro e w1 ⟨ov1, rfl, h1, f1⟩
                go_wp2
                go_ret
                exact ⟨ov1, rfl, h1, f1⟩
              · have nk7 : (b == 66) = false := by simpa using k7
                have E : behindDB b t = no t := by simp [behindDB, k1, k2, k3, k4, k5, k6, k7]
                rw [E]; clear E
                go_enter Tryz.func86, Tryz.ntmps86
                go_wp2
                all_goals go_ret
                all_goals exact ⟨ov, rfl, h, Fr.refl _ _ _⟩
theorem jpiece {w : World} {a : Nat → Addr} {B p : Nat} {nx ov : Value} {sz : Int} {t : St} {b : Int} (h : ScS w a B p nx sz ov t) (hb0 : 0 ≤ b) (hb1 : b < 256) (hbg : t.begun.length ≤ 3) (hbb : uByt t.begun) : Calls Tryz.prog 40 #[.pointer (some ⟨p, 0, none⟩), .int .u8 b] w (Outs w a B p nx sz ov (pieceB b t)) := by
  by_cases k1 : b = 34
  · subst k1
    have E : pieceB 34 t = unquotedB t := by rfl
    rw [E]; clear E
    have CL := hide (junquoted h)
    go_enter Tryz.func40, Tryz.ntmps40
    go_wp2_with fail
    refine CL.out.mono ?_
    rintro e w1 ⟨ov1, rfl, h1, f1⟩
    go_wp2
    go_ret
    exact ⟨ov1, rfl, h1, f1⟩
  · have nk1 : (b == 34) = false := by simpa using k1
    by_cases k2 : b = 92
    · subst k2
      have E : pieceB 92 t = go .backslash t := by rfl
      rw [E]; clear E
      go_enter Tryz.func40, Tryz.ntmps40
      go_wp2
      all_goals go_ret
      all_goals exact ⟨ov, rfl, h, Fr.refl _ _ _⟩
    · have nk2 : (b == 92) = false := by simpa using k2
      by_cases k3 : b < 32
      · have _ := k3
        have E : pieceB b t = no t := by simp [pieceB, k1, k2, k3]
        rw [E]; clear E
        go_enter Tryz.func40, Tryz.ntmps40
        go_wp2
        all_goals go_ret
        all_goals exact ⟨ov, rfl, h, Fr.refl _ _ _⟩
      · have _ := k3
        have xk30 : 32 ≤ b := by omega
        by_cases k4 : b < 128
        · have _ := k4
          have E : pieceB b t = go .piece t := by simp [pieceB, k1, k2, k3, k4]
          rw [E]; clear E
          go_enter Tryz.func40, Tryz.ntmps40
          go_wp2
          all_goals go_ret
          all_goals exact ⟨ov, rfl, h, Fr.refl _ _ _⟩
        · have _ := k4
          have xk40 : 128 ≤ b := by omega
          have E : pieceB b t = encodingB b t := by simp [pieceB, k1, k2, k3, k4]
          rw [E]; clear E
          have CL := hide (jencoding h (b := b) hb0 hb1 hbg hbb)
          go_enter Tryz.func40, Tryz.ntmps40
          go_wp2_with fail
          refine CL.out.mono ?_
          rintro e w1 ⟨ov1, rfl, h1, f1⟩
          go_wp2
          go_ret
          exact ⟨ov1, rfl, h1, f1⟩

end Go.Proofs.YtefmlajndillbaaGreatDoor
