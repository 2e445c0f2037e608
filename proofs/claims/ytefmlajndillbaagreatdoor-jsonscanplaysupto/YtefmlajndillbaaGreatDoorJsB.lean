/- layer 16: the scanner's steps between tokens and in numbers -/
import Derived.Test.YtefmlajndillbaaGreatDoorJsQ
namespace Go.Proofs.YtefmlajndillbaaGreatDoor
open Go.RowKit
set_option linter.unusedVariables false

theorem jminus {w : World} {a : Nat → Addr} {B p : Nat} {nx ov : Value} {sz : Int} {t : St} {b : Int} (h : ScS w a B p nx sz ov t) : Calls Tryz.prog 43 #[.pointer (some ⟨p, 0, none⟩), .int .u8 b] w (Outs w a B p nx sz ov (minusB b t)) := by
  by_cases k1 : b = 48
  · subst k1
    have E : minusB 48 t = mayE .wholePart t := by rfl
    rw [E]; clear E
    have CL := hide (jmayEnd h (.func (.func 58) #[.pointer (some ⟨p, 0, none⟩)] #[]))
    go_enter Tryz.func43, Tryz.ntmps43
    go_wp2_with fail
    refine CL.out.mono ?_
    rintro e w1 ⟨rfl, h1, f1⟩
    go_wp2
    go_ret
    exact ⟨ov, rfl, h1, f1⟩
  · have nk1 : (b == 48) = false := by simpa using k1
    cases k2 : digB b with
    | true =>
      have E : minusB b t = mayE .digits t := by simp [minusB, k1, k2]
      rw [E]; clear E
      have C0 := hide (jdigitE (w := w) (b := b) (v := true) k2)
      have CL := hide (jmayEnd h (.func (.func 59) #[.pointer (some ⟨p, 0, none⟩)] #[]))
      go_enter Tryz.func43, Tryz.ntmps43
      go_wp2_with fail
      refine C0.out.mono ?_
      rintro e w1 ⟨rfl, rfl⟩
      go_wp2_with fail
      refine CL.out.mono ?_
      rintro e w1 ⟨rfl, h1, f1⟩
      go_wp2
      go_ret
      exact ⟨ov, rfl, h1, f1⟩
    | false =>
      have E : minusB b t = no t := by simp [minusB, k1, k2]
      rw [E]; clear E
      have C0 := hide (jdigitE (w := w) (b := b) (v := false) k2)
      go_enter Tryz.func43, Tryz.ntmps43
      go_wp2_with fail
      refine C0.out.mono ?_
      rintro e w1 ⟨rfl, rfl⟩
      go_wp2
      all_goals go_ret
      all_goals exact ⟨ov, rfl, h, Fr.refl _ _ _⟩
theorem jnumber {w : World} {a : Nat → Addr} {B p : Nat} {nx ov : Value} {sz : Int} {t : St} {b : Int} (h : ScS w a B p nx sz ov t) : Calls Tryz.prog 28 #[.pointer (some ⟨p, 0, none⟩), .int .u8 b] w (Outs w a B p nx sz ov (numberB b t)) := by
  by_cases k1 : b = 45
  · subst k1
    have E : numberB 45 t = go .minus t := by rfl
    rw [E]; clear E
    go_enter Tryz.func28, Tryz.ntmps28
    go_wp2
    all_goals go_ret
    all_goals exact ⟨ov, rfl, h, Fr.refl _ _ _⟩
  · have nk1 : (b == 45) = false := by simpa using k1
    have E : numberB b t = minusB b t := by simp [numberB, k1]
    rw [E]; clear E
    have CL := hide (jminus h (b := b))
    go_enter Tryz.func28, Tryz.ntmps28
    go_wp2_with fail
    refine CL.out.mono ?_
    rintro e w1 ⟨ov1, rfl, h1, f1⟩
    go_wp2
    go_ret
    exact ⟨ov1, rfl, h1, f1⟩
theorem jsign {w : World} {a : Nat → Addr} {B p : Nat} {nx ov : Value} {sz : Int} {t : St} {b : Int} (h : ScS w a B p nx sz ov t) : Calls Tryz.prog 97 #[.pointer (some ⟨p, 0, none⟩), .int .u8 b] w (Outs w a B p nx sz ov (signB b t)) := by
  cases k1 : digB b with
  | true =>
    have E : signB b t = mayE .power t := by simp [signB, k1]
    rw [E]; clear E
    have C0 := hide (jdigitE (w := w) (b := b) (v := true) k1)
    have CL := hide (jmayEnd h (.func (.func 101) #[.pointer (some ⟨p, 0, none⟩)] #[]))
    go_enter Tryz.func97, Tryz.ntmps97
    go_wp2_with fail
    refine C0.out.mono ?_
    rintro e w1 ⟨rfl, rfl⟩
    go_wp2_with fail
    refine CL.out.mono ?_
    rintro e w1 ⟨rfl, h1, f1⟩
    go_wp2
    go_ret
    exact ⟨ov, rfl, h1, f1⟩
  | false =>
    have E : signB b t = no t := by simp [signB, k1]
    rw [E]; clear E
    have C0 := hide (jdigitE (w := w) (b := b) (v := false) k1)
    go_enter Tryz.func97, Tryz.ntmps97
    go_wp2_with fail
    refine C0.out.mono ?_
    rintro e w1 ⟨rfl, rfl⟩
    go_wp2
    all_goals go_ret
    all_goals exact ⟨ov, rfl, h, Fr.refl _ _ _⟩
theorem jpoint {w : World} {a : Nat → Addr} {B p : Nat} {nx ov : Value} {sz : Int} {t : St} {b : Int} (h : ScS w a B p nx sz ov t) : Calls Tryz.prog 78 #[.pointer (some ⟨p, 0, none⟩), .int .u8 b] w (Outs w a B p nx sz ov (pointB b t)) := by
  cases k1 : digB b with
  | true =>
    have E : pointB b t = mayE .fraction t := by simp [pointB, k1]
    rw [E]; clear E
    have C0 := hide (jdigitE (w := w) (b := b) (v := true) k1)
    have CL := hide (jmayEnd h (.func (.func 91) #[.pointer (some ⟨p, 0, none⟩)] #[]))
    go_enter Tryz.func78, Tryz.ntmps78
    go_wp2_with fail
    refine C0.out.mono ?_
    rintro e w1 ⟨rfl, rfl⟩
    go_wp2_with fail
    refine CL.out.mono ?_
    rintro e w1 ⟨rfl, h1, f1⟩
    go_wp2
    go_ret
    exact ⟨ov, rfl, h1, f1⟩
  | false =>
    have E : pointB b t = no t := by simp [pointB, k1]
    rw [E]; clear E
    have C0 := hide (jdigitE (w := w) (b := b) (v := false) k1)
    go_enter Tryz.func78, Tryz.ntmps78
    go_wp2_with fail
    refine C0.out.mono ?_
    rintro e w1 ⟨rfl, rfl⟩
    go_wp2
    all_goals go_ret
    all_goals exact ⟨ov, rfl, h, Fr.refl _ _ _⟩
theorem jexponent {w : World} {a : Nat → Addr} {B p : Nat} {nx ov : Value} {sz : Int} {t : St} {b : Int} (h : ScS w a B p nx sz ov t) : Calls Tryz.prog 92 #[.pointer (some ⟨p, 0, none⟩), .int .u8 b] w (Outs w a B p nx sz ov (exponentB b t)) := by
  by_cases k1 : b = 43
  · subst k1
    have E : exponentB 43 t = go .sign t := by rfl
    rw [E]; clear E
    go_enter Tryz.func92, Tryz.ntmps92
    go_wp2
    all_goals go_ret
    all_goals exact ⟨ov, rfl, h, Fr.refl _ _ _⟩
  · have nk1 : (b == 43) = false := by simpa using k1
    by_cases k2 : b = 45
    · subst k2
      have E : exponentB 45 t = go .sign t := by rfl
      rw [E]; clear E
      go_enter Tryz.func92, Tryz.ntmps92
      go_wp2
      all_goals go_ret
      all_goals exact ⟨ov, rfl, h, Fr.refl _ _ _⟩
    · have nk2 : (b == 45) = false := by simpa using k2
      have E : exponentB b t = signB b t := by simp [exponentB, k1, k2]
      rw [E]; clear E
      have CL := hide (jsign h (b := b))
      go_enter Tryz.func92, Tryz.ntmps92
      go_wp2_with fail
      refine CL.out.mono ?_
      rintro e w1 ⟨ov1, rfl, h1, f1⟩
      go_wp2
      go_ret
      exact ⟨ov1, rfl, h1, f1⟩
theorem jcolon {w : World} {a : Nat → Addr} {B p : Nat} {nx ov : Value} {sz : Int} {t : St} {b : Int} (h : ScS w a B p nx sz ov t) : Calls Tryz.prog 74 #[.pointer (some ⟨p, 0, none⟩), .int .u8 b] w (Outs w a B p nx sz ov (colonB b t)) := by
  cases k1 : blankB b with
  | true =>
    have E : colonB b t = go .colon t := by simp [colonB, k1]
    rw [E]; clear E
    have C0 := hide (jblankE (w := w) (b := b) (v := true) k1)
    go_enter Tryz.func74, Tryz.ntmps74
    go_wp2_with fail
    refine C0.out.mono ?_
    rintro e w1 ⟨rfl, rfl⟩
    go_wp2
    all_goals go_ret
    all_goals exact ⟨ov, rfl, h, Fr.refl _ _ _⟩
  | false =>
    by_cases k2 : b = 58
    · subst k2
      have E : colonB 58 t = go .value t := by rfl
      rw [E]; clear E
      have C0 := hide (jblankE (w := w) (b := 58) (v := false) (by decide))
      go_enter Tryz.func74, Tryz.ntmps74
      go_wp2_with fail
      refine C0.out.mono ?_
      rintro e w1 ⟨rfl, rfl⟩
      go_wp2
      all_goals go_ret
      all_goals exact ⟨ov, rfl, h, Fr.refl _ _ _⟩
    · have nk2 : (b == 58) = false := by simpa using k2
      have E : colonB b t = no t := by simp [colonB, k1, k2]
      rw [E]; clear E
      have C0 := hide (jblankE (w := w) (b := b) (v := false) k1)
      go_enter Tryz.func74, Tryz.ntmps74
      go_wp2_with fail
      refine C0.out.mono ?_
      rintro e w1 ⟨rfl, rfl⟩
      go_wp2
      all_goals go_ret
      all_goals exact ⟨ov, rfl, h, Fr.refl _ _ _⟩
theorem jkey {w : World} {a : Nat → Addr} {B p : Nat} {nx ov : Value} {sz : Int} {t : St} {b : Int} (h : ScS w a B p nx sz ov t) : Calls Tryz.prog 42 #[.pointer (some ⟨p, 0, none⟩), .int .u8 b] w (Outs w a B p nx sz ov (keyB b t)) := by
  cases k1 : blankB b with
  | true =>
    have E : keyB b t = go .key t := by simp [keyB, k1]
    rw [E]; clear E
    have C0 := hide (jblankE (w := w) (b := b) (v := true) k1)
    go_enter Tryz.func42, Tryz.ntmps42
    go_wp2_with fail
    refine C0.out.mono ?_
    rintro e w1 ⟨rfl, rfl⟩
    go_wp2
    all_goals go_ret
    all_goals exact ⟨ov, rfl, h, Fr.refl _ _ _⟩
  | false =>
    by_cases k2 : b = 34
    · subst k2
      have E : keyB 34 t = quotedB true t := by rfl
      rw [E]; clear E
      have C0 := hide (jblankE (w := w) (b := 34) (v := false) (by decide))
      have CL := hide (jquoted h true)
      go_enter Tryz.func42, Tryz.ntmps42
      go_wp2_with fail
      refine C0.out.mono ?_
      rintro e w1 ⟨rfl, rfl⟩
      go_wp2_with fail
      refine CL.out.mono ?_
      rintro e w1 ⟨ov1, rfl, h1, f1⟩
      go_wp2
      go_ret
      exact ⟨ov1, rfl, h1, f1⟩
    · have nk2 : (b == 34) = false := by simpa using k2
      have E : keyB b t = no t := by simp [keyB, k1, k2]
      rw [E]; clear E
      have C0 := hide (jblankE (w := w) (b := b) (v := false) k1)
      go_enter Tryz.func42, Tryz.ntmps42
      go_wp2_with fail
      refine C0.out.mono ?_
      rintro e w1 ⟨rfl, rfl⟩
      go_wp2
      all_goals go_ret
      all_goals exact ⟨ov, rfl, h, Fr.refl _ _ _⟩
theorem jfirstKey {w : World} {a : Nat → Addr} {B p : Nat} {nx ov : Value} {sz : Int} {t : St} {b : Int} (h : ScS w a B p nx sz ov t) (hne : t.opn ≠ []) : Calls Tryz.prog 26 #[.pointer (some ⟨p, 0, none⟩), .int .u8 b] w (Outs w a B p nx sz ov (firstKeyB b t)) := by
  cases k1 : blankB b with
  | true =>
    have E : firstKeyB b t = go .firstKey t := by simp [firstKeyB, k1]
    rw [E]; clear E
    have C0 := hide (jblankE (w := w) (b := b) (v := true) k1)
    go_enter Tryz.func26, Tryz.ntmps26
    go_wp2_with fail
    refine C0.out.mono ?_
    rintro e w1 ⟨rfl, rfl⟩
    go_wp2
    all_goals go_ret
    all_goals exact ⟨ov, rfl, h, Fr.refl _ _ _⟩
  | false =>
    by_cases k2 : b = 125
    · subst k2
      have E : firstKeyB 125 t = closed t := by rfl
      rw [E]; clear E
      have C0 := hide (jblankE (w := w) (b := 125) (v := false) (by decide))
      have CL := hide (jclosed h hne)
      go_enter Tryz.func26, Tryz.ntmps26
      go_wp2_with fail
      refine C0.out.mono ?_
      rintro e w1 ⟨rfl, rfl⟩
      go_wp2_with fail
      refine CL.out.mono ?_
      rintro e w1 ⟨ov1, rfl, h1, f1⟩
      go_wp2
      go_ret
      exact ⟨ov1, rfl, h1, f1⟩
    · have nk2 : (b == 125) = false := by simpa using k2
      have E : firstKeyB b t = keyB b t := by simp [firstKeyB, k1, k2]
      rw [E]; clear E
      have C0 := hide (jblankE (w := w) (b := b) (v := false) k1)
      have CL := hide (jkey h (b := b))
      go_enter Tryz.func26, Tryz.ntmps26
      go_wp2_with fail
      refine C0.out.mono ?_
      rintro e w1 ⟨rfl, rfl⟩
      go_wp2_with fail
      refine CL.out.mono ?_
      rintro e w1 ⟨ov1, rfl, h1, f1⟩
      go_wp2
      go_ret
      exact ⟨ov1, rfl, h1, f1⟩
theorem jdecimals {w : World} {a : Nat → Addr} {B p : Nat} {nx ov : Value} {sz : Int} {t : St} {b : Int} (h : ScS w a B p nx sz ov t) : Calls Tryz.prog 79 #[.pointer (some ⟨p, 0, none⟩), .int .u8 b] w (Outs w a B p nx sz ov (decimalsB b t)) := by
  by_cases k1 : b = 101
  · subst k1
    have E : decimalsB 101 t = go .exponent t := by rfl
    rw [E]; clear E
    go_enter Tryz.func79, Tryz.ntmps79
    go_wp2
    all_goals go_ret
    all_goals exact ⟨ov, rfl, h, Fr.refl _ _ _⟩
  · have nk1 : (b == 101) = false := by simpa using k1
    by_cases k2 : b = 69
    · subst k2
      have E : decimalsB 69 t = go .exponent t := by rfl
      rw [E]; clear E
      go_enter Tryz.func79, Tryz.ntmps79
      go_wp2
      all_goals go_ret
      all_goals exact ⟨ov, rfl, h, Fr.refl _ _ _⟩
    · have nk2 : (b == 69) = false := by simpa using k2
      have E : decimalsB b t = behindB b t := by simp [decimalsB, k1, k2]
      rw [E]; clear E
      have CL := hide (jbehind h (b := b))
      go_enter Tryz.func79, Tryz.ntmps79
      go_wp2_with fail
      refine CL.out.mono ?_
      rintro e w1 ⟨ov1, rfl, h1, f1⟩
      go_wp2
      go_ret
      exact ⟨ov1, rfl, h1, f1⟩
theorem jwhole {w : World} {a : Nat → Addr} {B p : Nat} {nx ov : Value} {sz : Int} {t : St} {b : Int} (h : ScS w a B p nx sz ov t) : Calls Tryz.prog 58 #[.pointer (some ⟨p, 0, none⟩), .int .u8 b] w (Outs w a B p nx sz ov (wholeB b t)) := by
  by_cases k1 : b = 46
  · subst k1
    have E : wholeB 46 t = go .point t := by rfl
    rw [E]; clear E
    go_enter Tryz.func58, Tryz.ntmps58
    go_wp2
    all_goals go_ret
    all_goals exact ⟨ov, rfl, h, Fr.refl _ _ _⟩
  · have nk1 : (b == 46) = false := by simpa using k1
    have E : wholeB b t = decimalsB b t := by simp [wholeB, k1]
    rw [E]; clear E
    have CL := hide (jdecimals h (b := b))
    go_enter Tryz.func58, Tryz.ntmps58
    go_wp2_with fail
    refine CL.out.mono ?_
    rintro e w1 ⟨ov1, rfl, h1, f1⟩
    go_wp2
    go_ret
    exact ⟨ov1, rfl, h1, f1⟩
theorem jdigits {w : World} {a : Nat → Addr} {B p : Nat} {nx ov : Value} {sz : Int} {t : St} {b : Int} (h : ScS w a B p nx sz ov t) : Calls Tryz.prog 59 #[.pointer (some ⟨p, 0, none⟩), .int .u8 b] w (Outs w a B p nx sz ov (digitsB b t)) := by
  cases k1 : digB b with
  | true =>
    have E : digitsB b t = mayE .digits t := by simp [digitsB, k1]
    rw [E]; clear E
    have C0 := hide (jdigitE (w := w) (b := b) (v := true) k1)
    have CL := hide (jmayEnd h (.func (.func 59) #[.pointer (some ⟨p, 0, none⟩)] #[]))
    go_enter Tryz.func59, Tryz.ntmps59
    go_wp2_with fail
    refine C0.out.mono ?_
    rintro e w1 ⟨rfl, rfl⟩
    go_wp2_with fail
    refine CL.out.mono ?_
    rintro e w1 ⟨rfl, h1, f1⟩
    go_wp2
    go_ret
    exact ⟨ov, rfl, h1, f1⟩
  | false =>
    have E : digitsB b t = wholeB b t := by simp [digitsB, k1]
    rw [E]; clear E
    have C0 := hide (jdigitE (w := w) (b := b) (v := false) k1)
    have CL := hide (jwhole h (b := b))
    go_enter Tryz.func59, Tryz.ntmps59
    go_wp2_with fail
    refine C0.out.mono ?_
    rintro e w1 ⟨rfl, rfl⟩
    go_wp2_with fail
    refine CL.out.mono ?_
    rintro e w1 ⟨ov1, rfl, h1, f1⟩
    go_wp2
    go_ret
    exact ⟨ov1, rfl, h1, f1⟩
theorem jfraction {w : World} {a : Nat → Addr} {B p : Nat} {nx ov : Value} {sz : Int} {t : St} {b : Int} (h : ScS w a B p nx sz ov t) : Calls Tryz.prog 91 #[.pointer (some ⟨p, 0, none⟩), .int .u8 b] w (Outs w a B p nx sz ov (fractionB b t)) := by
  cases k1 : digB b with
  | true =>
    have E : fractionB b t = mayE .fraction t := by simp [fractionB, k1]
    rw [E]; clear E
    have C0 := hide (jdigitE (w := w) (b := b) (v := true) k1)
    have CL := hide (jmayEnd h (.func (.func 91) #[.pointer (some ⟨p, 0, none⟩)] #[]))
    go_enter Tryz.func91, Tryz.ntmps91
    go_wp2_with fail
    refine C0.out.mono ?_
    rintro e w1 ⟨rfl, rfl⟩
    go_wp2_with fail
    refine CL.out.mono ?_
    rintro e w1 ⟨rfl, h1, f1⟩
    go_wp2
    go_ret
    exact ⟨ov, rfl, h1, f1⟩
  | false =>
    have E : fractionB b t = decimalsB b t := by simp [fractionB, k1]
    rw [E]; clear E
    have C0 := hide (jdigitE (w := w) (b := b) (v := false) k1)
    have CL := hide (jdecimals h (b := b))
    go_enter Tryz.func91, Tryz.ntmps91
    go_wp2_with fail
    refine C0.out.mono ?_
    rintro e w1 ⟨rfl, rfl⟩
    go_wp2_with fail
    refine CL.out.mono ?_
    rintro e w1 ⟨ov1, rfl, h1, f1⟩
    go_wp2
    go_ret
    exact ⟨ov1, rfl, h1, f1⟩
theorem jpower {w : World} {a : Nat → Addr} {B p : Nat} {nx ov : Value} {sz : Int} {t : St} {b : Int} (h : ScS w a B p nx sz ov t) : Calls Tryz.prog 101 #[.pointer (some ⟨p, 0, none⟩), .int .u8 b] w (Outs w a B p nx sz ov (powerB b t)) := by
  cases k1 : digB b with
  | true =>
    have E : powerB b t = mayE .power t := by simp [powerB, k1]
    rw [E]; clear E
    have C0 := hide (jdigitE (w := w) (b := b) (v := true) k1)
    have CL := hide (jmayEnd h (.func (.func 101) #[.pointer (some ⟨p, 0, none⟩)] #[]))
    go_enter Tryz.func101, Tryz.ntmps101
    go_wp2_with fail
    refine C0.out.mono ?_
    rintro e w1 ⟨rfl, rfl⟩
    go_wp2_with fail
    refine CL.out.mono ?_
    rintro e w1 ⟨rfl, h1, f1⟩
    go_wp2
    go_ret
    exact ⟨ov, rfl, h1, f1⟩
  | false =>
    have E : powerB b t = behindB b t := by simp [powerB, k1]
    rw [E]; clear E
    have C0 := hide (jdigitE (w := w) (b := b) (v := false) k1)
    have CL := hide (jbehind h (b := b))
    go_enter Tryz.func101, Tryz.ntmps101
    go_wp2_with fail
    refine C0.out.mono ?_
    rintro e w1 ⟨rfl, rfl⟩
    go_wp2_with fail
    refine CL.out.mono ?_
    rintro e w1 ⟨ov1, rfl, h1, f1⟩
    go_wp2
    go_ret
    exact ⟨ov1, rfl, h1, f1⟩
theorem jvalue {w : World} {a : Nat → Addr} {B p : Nat} {nx ov : Value} {sz : Int} {t : St} {b : Int} (h : ScS w a B p nx sz ov t) (hS : Snt w a) (hl : t.opn.length ≤ 128) (hB : B ≤ w.heap.size) : Calls Tryz.prog 11 #[.pointer (some ⟨p, 0, none⟩), .int .u8 b] w (Outs w a B p nx sz ov (valueB b t)) := by
  cases k1 : blankB b with
  | true =>
    have E : valueB b t = go .value t := by simp [valueB, k1]
    rw [E]; clear E
    have C0 := hide (jblankE (w := w) (b := b) (v := true) k1)
    go_enter Tryz.func11, Tryz.ntmps11
    go_wp2_with fail
    refine C0.out.mono ?_
    rintro e w1 ⟨rfl, rfl⟩
    go_wp2
    all_goals go_ret
    all_goals exact ⟨ov, rfl, h, Fr.refl _ _ _⟩
  | false =>
    by_cases k2 : b = 34
    · subst k2
      have E : valueB 34 t = quotedB false t := by rfl
      rw [E]; clear E
      have C0 := hide (jblankE (w := w) (b := 34) (v := false) (by decide))
      have CL := hide (jquoted h false)
      go_enter Tryz.func11, Tryz.ntmps11
      go_wp2_with fail
      refine C0.out.mono ?_
      rintro e w1 ⟨rfl, rfl⟩
      go_wp2_with fail
      refine CL.out.mono ?_
      rintro e w1 ⟨ov1, rfl, h1, f1⟩
      go_wp2
      go_ret
      exact ⟨ov1, rfl, h1, f1⟩
    · have nk2 : (b == 34) = false := by simpa using k2
      by_cases k3 : b = 91
      · subst k3
        have E : valueB 91 t = opened 93 .firstElement t := by rfl
        rw [E]; clear E
        have C0 := hide (jblankE (w := w) (b := 91) (v := false) (by decide))
        have CL := hide (jopened h hS hl hB 93 .firstElement (.func (.func 25) #[.pointer (some ⟨p, 0, none⟩)] #[]) rfl)
        go_enter Tryz.func11, Tryz.ntmps11
        go_wp2_with fail
        refine C0.out.mono ?_
        rintro e w1 ⟨rfl, rfl⟩
        go_wp2_with fail
        refine CL.out.mono ?_
        rintro e w1 ⟨ov1, rfl, h1, f1⟩
        go_wp2
        go_ret
        exact ⟨ov1, rfl, h1, f1⟩
      · have nk3 : (b == 91) = false := by simpa using k3
        by_cases k4 : b = 123
        · subst k4
          have E : valueB 123 t = opened 125 .firstKey t := by rfl
          rw [E]; clear E
          have C0 := hide (jblankE (w := w) (b := 123) (v := false) (by decide))
          have CL := hide (jopened h hS hl hB 125 .firstKey (.func (.func 26) #[.pointer (some ⟨p, 0, none⟩)] #[]) rfl)
          go_enter Tryz.func11, Tryz.ntmps11
          go_wp2_with fail
          refine C0.out.mono ?_
          rintro e w1 ⟨rfl, rfl⟩
          go_wp2_with fail
          refine CL.out.mono ?_
          rintro e w1 ⟨ov1, rfl, h1, f1⟩
          go_wp2
          go_ret
          exact ⟨ov1, rfl, h1, f1⟩
        · have nk4 : (b == 123) = false := by simpa using k4
          by_cases k5 : b = 45
          · subst k5
            have E : valueB 45 t = numberB 45 t := by rfl
            rw [E]; clear E
            have C0 := hide (jblankE (w := w) (b := 45) (v := false) (by decide))
            have CL := hide (jnumber h (b := 45))
            go_enter Tryz.func11, Tryz.ntmps11
            go_wp2_with fail
            refine C0.out.mono ?_
            rintro e w1 ⟨rfl, rfl⟩
            go_wp2_with fail
            refine CL.out.mono ?_
            rintro e w1 ⟨ov1, rfl, h1, f1⟩
            go_wp2
            go_ret
            exact ⟨ov1, rfl, h1, f1⟩
          · have nk5 : (b == 45) = false := by simpa using k5
            cases k6 : digB b with
            | true =>
              have E : valueB b t = numberB b t := by simp [valueB, k1, k2, k3, k4, k5, k6]
              rw [E]; clear E
              have C0 := hide (jblankE (w := w) (b := b) (v := false) k1)
              have C1 := hide (jdigitE (w := w) (b := b) (v := true) k6)
              have CL := hide (jnumber h (b := b))
              go_enter Tryz.func11, Tryz.ntmps11
              go_wp2_with fail
              refine C0.out.mono ?_
              rintro e w1 ⟨rfl, rfl⟩
              go_wp2_with fail
              refine C1.out.mono ?_
              rintro e w1 ⟨rfl, rfl⟩
              go_wp2_with fail
              refine CL.out.mono ?_
              rintro e w1 ⟨ov1, rfl, h1, f1⟩
              go_wp2
              go_ret
              exact ⟨ov1, rfl, h1, f1⟩
            | false =>
              have E : valueB b t = namedB b t := by simp [valueB, k1, k2, k3, k4, k5, k6]
              rw [E]; clear E
              have C0 := hide (jblankE (w := w) (b := b) (v := false) k1)
              have C1 := hide (jdigitE (w := w) (b := b) (v := false) k6)
              have CL := hide (jnamed h (b := b))
              go_enter Tryz.func11, Tryz.ntmps11
              go_wp2_with fail
              refine C0.out.mono ?_
              rintro e w1 ⟨rfl, rfl⟩
              go_wp2_with fail
              refine C1.out.mono ?_
              rintro e w1 ⟨rfl, rfl⟩
              go_wp2_with fail
              refine CL.out.mono ?_
              rintro e w1 ⟨ov1, rfl, h1, f1⟩
              go_wp2
              go_ret
              exact ⟨ov1, rfl, h1, f1⟩
theorem jfirstElement {w : World} {a : Nat → Addr} {B p : Nat} {nx ov : Value} {sz : Int} {t : St} {b : Int} (h : ScS w a B p nx sz ov t) (hne : t.opn ≠ []) (hS : Snt w a) (hl : t.opn.length ≤ 128) (hB : B ≤ w.heap.size) : Calls Tryz.prog 25 #[.pointer (some ⟨p, 0, none⟩), .int .u8 b] w (Outs w a B p nx sz ov (firstElementB b t)) := by
  cases k1 : blankB b with
  | true =>
    have E : firstElementB b t = go .firstElement t := by simp [firstElementB, k1]
    rw [E]; clear E
    have C0 := hide (jblankE (w := w) (b := b) (v := true) k1)
    go_enter Tryz.func25, Tryz.ntmps25
    go_wp2_with fail
    refine C0.out.mono ?_
    rintro e w1 ⟨rfl, rfl⟩
    go_wp2
    all_goals go_ret
    all_goals exact ⟨ov, rfl, h, Fr.refl _ _ _⟩
  | false =>
    by_cases k2 : b = 93
    · subst k2
      have E : firstElementB 93 t = closed t := by rfl
      rw [E]; clear E
      have C0 := hide (jblankE (w := w) (b := 93) (v := false) (by decide))
      have CL := hide (jclosed h hne)
      go_enter Tryz.func25, Tryz.ntmps25
      go_wp2_with fail
      refine C0.out.mono ?_
      rintro e w1 ⟨rfl, rfl⟩
      go_wp2_with fail
      refine CL.out.mono ?_
      rintro e w1 ⟨ov1, rfl, h1, f1⟩
      go_wp2
      go_ret
      exact ⟨ov1, rfl, h1, f1⟩
    · have nk2 : (b == 93) = false := by simpa using k2
      have E : firstElementB b t = valueB b t := by simp [firstElementB, k1, k2]
      rw [E]; clear E
      have C0 := hide (jblankE (w := w) (b := b) (v := false) k1)
      have CL := hide (jvalue h (b := b) hS hl hB)
      go_enter Tryz.func25, Tryz.ntmps25
      go_wp2_with fail
      refine C0.out.mono ?_
      rintro e w1 ⟨rfl, rfl⟩
      go_wp2_with fail
      refine CL.out.mono ?_
      rintro e w1 ⟨ov1, rfl, h1, f1⟩
      go_wp2
      go_ret
      exact ⟨ov1, rfl, h1, f1⟩

end Go.Proofs.YtefmlajndillbaaGreatDoor
