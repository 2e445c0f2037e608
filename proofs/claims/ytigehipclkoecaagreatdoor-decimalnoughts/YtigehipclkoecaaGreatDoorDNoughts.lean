/- DecimalNoughts: the walk -/
import Derived.Test.YtigehipclkoecaaGreatDoorDLaw
import Derived.Test.YtigehipclkoecaaGreatDoorDLives
namespace Go.Proofs.YtigehipclkoecaaGreatDoor
open Go.RowKit
set_option linter.unusedVariables false

theorem join_0 (k : Nat) : strOfNums (List.replicate k 48) ++ (⟨#[48]⟩ : ByteArray) = strOfNums (List.replicate (k + 1) 48) := by
  rw [List.replicate_succ', ← txt_join]; rfl
set_option maxRecDepth 100000 in
set_option maxHeartbeats 4000000 in
theorem noughts_any {w : World} {n : Nat} (hn : n ≤ 255) : Calls Tryz.prog 18 #[.int .i64 n] w fun e w' => e = .returned (.string (strOfNums (List.replicate n 48))) ∧ w' = w := by
  go_enter Tryz.func18, Tryz.ntmps18
  go_wp2
  go_loopg [3, 4] n (fun c sv iv wr => ∃ k : Nat, k ≤ n ∧ c = n - k ∧ iv = .int .i64 k ∧ sv = .string (strOfNums (List.replicate k 48)) ∧ wr = w)
  case atStart => exact ⟨0, by omega, rfl, rfl, rfl, rfl⟩
  case round =>
    obtain ⟨k, hk, hgk, rfl, rfl, hw⟩ := hrel
    replace hw := hw.symm
    subst hw
    by_cases hkl : k < n
    · have q4 : (k : Int) < (n : Int) := by omega
      have hj := join_0 k
      have hz : (strOfNums (List.replicate k 48)).size = k := by rw [strOfNums_size, List.length_replicate]
      go_wp2
      go_roundg (n - (k + 1))
      case measure => omega
      case rel => exact ⟨k + 1, by omega, rfl, by simp, rfl, rfl⟩
    · have hke : k = n := by omega
      subst hke
      go_wp2
      go_ret
      exact ⟨rfl, rfl⟩

/-- noughts at both ends -/
theorem dg_with (es : List Int) (a b : Nat) : dg (List.replicate a 48 ++ (es ++ List.replicate b 48)) = dg es * tn b := by
  rw [dg_append, dg_append, dg_noughts, dg_noughts, Int.zero_mul, Int.zero_add, Int.add_zero, List.length_replicate]
theorem dig_rep (a : Nat) : Dg (List.replicate a 48) := fun x hx => by rw [List.eq_of_mem_replicate hx]; decide
theorem dig_with {es : List Int} (a b : Nat) : Dg (List.replicate a 48 ++ (es ++ List.replicate b 48)) ↔ Dg es :=
  ⟨fun h x hx => h x (by simp [hx]), fun h => (dig_rep a).append (h.append (dig_rep b))⟩
theorem byt_with {es : List Int} (h : Byt es) (a b : Nat) : Byt (List.replicate a 48 ++ (es ++ List.replicate b 48)) := fun x hx => by
  rcases List.mem_append.1 hx with k | k
  · exact (dig_rep a).byt x k
  · rcases List.mem_append.1 k with k | k
    · exact h x k
    · exact (dig_rep b).byt x k

set_option maxRecDepth 100000 in
set_option maxHeartbeats 8000000 in
theorem noughts_walk {w : World} (TT : Lays w ∧ Brn w) {v : Int} (v0 : 0 ≤ v) (v1 : v < 256) {es : List Int} {s : ByteArray} {N A B : Nat} {ng : Bool} {P : Int} (hd : Byt es) (hs : s = strOfNums es) (hN : es.length = N) (hl : N ≤ 2305843009213693952) (hP : -9223372036854775808 ≤ P) (hP2 : P ≤ 9223372036854775807) (hA : A < 256) (hB : B < 256) :
    Calls Tryz.prog 6 #[.int .u8 v, .agg #[.bool ng, .string s, .int .i64 P], .int .u8 A, .int .u8 B] w fun e w' => e = .returned (.bool true) ∧ Below w.heap.size w w' := by
  obtain ⟨T, U⟩ := TT
  have hA' : A ≤ 255 := by omega
  have hB' : B ≤ 255 := by omega
  obtain ⟨F, L, I, S, n, hW⟩ := wd_of v v0 v1
  have HW := hide hW
  clear hW
  have HD := hide (And.intro hd (And.intro hs hN))
  have hsz : s.size = N := by rw [hs, strOfNums_size, hN]
  clear hd hs hN
  have K0 : Below w.heap.size w (w.alloc (.cells #[.bool ng, .string s, .int .i64 P] 23)) := al_one _ _
  have C := cell3_new w (.bool ng) (.string s) (.int .i64 P) 23
  go_enter Tryz.func6, Tryz.ntmps6
  go_wp2_with fail
  refine (lives7 (T.below K0) (U.below K0)).mono ?_
  rintro x w1 ⟨rfl, b1⟩
  replace K0 := below_trans K0 b1
  replace C := C.below b1
  clear b1
  have c0 := C.c0; have c1 := C.c1; have c2 := C.c2
  by_cases big : 4611686018427387904 < P
  · go_wp2
    go_ret
    exact ⟨rfl, K0⟩
  · go_upto_region 5 with fail
    have h1 : (strOfNums (List.replicate A 48)).size = A := by rw [strOfNums_size, List.length_replicate]
    have h2 : (strOfNums (List.replicate B 48)).size = B := by rw [strOfNums_size, List.length_replicate]
    have j1 : strOfNums (List.replicate A 48) ++ s = strOfNums (List.replicate A 48 ++ es) := by rw [HD.out.2.1, txt_join]
    have h3 : (strOfNums (List.replicate A 48 ++ es)).size = A + N := by rw [strOfNums_size, List.length_append, List.length_replicate, HD.out.2.2]
    have j2 : strOfNums (List.replicate A 48 ++ es) ++ strOfNums (List.replicate B 48) = strOfNums (List.replicate A 48 ++ (es ++ List.replicate B 48)) := by rw [txt_join, List.append_assoc]
    have CC := fun o => C.below (al_one w1 o)
    have y1 : ¬ 9223372036854775807 < A + N := by omega
    have y2 : ¬ 9223372036854775807 < A + N + B := by omega
    have z1 : ¬ (9223372036854775807 : Int) < (A : Int) + N := by omega
    have z2 : ¬ (9223372036854775807 : Int) < (A : Int) + N + B := by omega
    have z3 : (A : Int) + N ≤ 9223372036854775807 := by omega
    have z4 : (A : Int) + N + B ≤ 9223372036854775807 := by omega
    have z5 : A + N ≤ 9223372036854775807 := by omega
    have z6 : A + N + B ≤ 9223372036854775807 := by omega
    have wA : IntKind.i64.wrap (A : Int) = A := by rw [IntKind.wrap_i64]; omega
    have wP : IntKind.i64.wrap (P + A) = P + A := by rw [IntKind.wrap_i64]; omega
    have wB : IntKind.i64.wrap (B : Int) = B := by rw [IntKind.wrap_i64]; omega
    clear c0 c1 c2
    go_region_held3 (fun u => u.cell? ⟨w.heap.size, 0, none⟩ = some (.bool ng) ∧ u.cell? ⟨w.heap.size, 1, none⟩ = some (.string s) ∧ u.cell? ⟨w.heap.size, 2, none⟩ = some (.int .i64 P)) (first | exact ⟨C.c0, C.c1, C.c2⟩ | exact ⟨(CC _).c0, (CC _).c1, (CC _).c2⟩)
      (first
        | (go_at_call 18; (with_reducible refine (noughts_any (n := A) hA').mono ?_); rintro r w' ⟨rfl, rfl⟩)
        | (go_at_call 18; (with_reducible refine (noughts_any (n := B) hB').mono ?_); rintro r w' ⟨rfl, rfl⟩))
    all_goals
      have CL := (cell3_new w1 (.bool ng) (.string (strOfNums (List.replicate A 48 ++ (es ++ List.replicate B 48)))) (.int .i64 (P + A)) 23).below (Below.refl _ _).drew
      have CD := (CC (.cells #[.bool ng, .string (strOfNums (List.replicate A 48 ++ (es ++ List.replicate B 48))), .int .i64 (P + A)] 23)).below (Below.refl _ _).drew
      have KD := (below_trans K0 (al_one w1 (.cells #[.bool ng, .string (strOfNums (List.replicate A 48 ++ (es ++ List.replicate B 48))), .int .i64 (P + A)] 23))).drew
      generalize (w1.alloc (.cells #[.bool ng, .string (strOfNums (List.replicate A 48 ++ (es ++ List.replicate B 48))), .int .i64 (P + A)] 23)).drew = w2 at *
      clear CC C K0 wA wB wP y1 y2 z1 z2 z3 z4 z5 z6 h1 h2 h3 j1 j2
      have KO := below_trans KD (al_one w2 (.cells #[.bool (!ng), .string s, .int .i64 P] 23))
      have CO := cell3_new w2 (.bool (!ng)) (.string s) (.int .i64 P) 23
      replace CL := CL.below (al_one w2 (.cells #[.bool (!ng), .string s, .int .i64 P] 23))
      have CD0 := CD.below (al_one w2 (.cells #[.bool (!ng), .string s, .int .i64 P] 23))
      have d0 := CD.c0; have d1 := CD.c1; have d2 := CD.c2
      have c0 := CD0.c0; have c1 := CD0.c1; have c2 := CD0.c2
      go_wp2_with fail
      refine (lread_any (T.below KO) HW.out HD.out.1 HD.out.2.1 HD.out.2.2 (by omega) hP hP2).mono ?_
      rintro x w3 ⟨b3, y1, ok1, rfl, R1⟩
      clear c0 c1 c2 d0 d1 d2
      replace KO := below_trans KO b3; replace CL := CL.below b3; replace CO := CO.below b3; replace CD0 := CD0.below b3
      have HR1 := hide R1
      clear b3 R1
      have c0 := CL.c0; have c1 := CL.c1; have c2 := CL.c2
      go_wp2_with fail
      refine (lread_any (N := A + (N + B)) (T.below KO) HW.out (byt_with HD.out.1 A B) rfl (by simp [HD.out.2.2]) (by omega) (by omega) (by omega)).mono ?_
      rintro x w4 ⟨b4, y2, ok2, rfl, R2⟩
      clear c0 c1 c2
      replace KO := below_trans KO b4; replace CL := CL.below b4; replace CO := CO.below b4; replace CD0 := CD0.below b4
      have HR2 := hide R2
      clear b4 R2
      have c0 := CO.c0; have c1 := CO.c1; have c2 := CO.c2
      go_wp2_with fail
      refine (lread_any (T.below KO) HW.out HD.out.1 HD.out.2.1 HD.out.2.2 (by omega) hP hP2).mono ?_
      rintro x w5 ⟨b5, y3, ok3, rfl, R3⟩
      clear c0 c1 c2
      replace KO := below_trans KO b5; replace CL := CL.below b5; replace CD0 := CD0.below b5
      have HR3 := hide R3
      clear b5 R3 CO
      have c0 := CD0.c0; have c1 := CD0.c1; have c2 := CD0.c2
      have d0 := CL.c0; have d1 := CL.c1; have d2 := CL.c2
      go_wp2_with fail
      refine (dcmp_any (N := N) (N' := A + (N + B)) HD.out.1 HD.out.2.1 HD.out.2.2 (by omega) hP hP2 (byt_with HD.out.1 A B) rfl (by simp [HD.out.2.2]) (by omega) (by omega) (by omega)).mono ?_
      rintro x w6 ⟨b6, hcase⟩
      clear c0 c1 c2 d0 d1 d2
      replace KO := below_trans KO b6; replace CD0 := CD0.below b6
      clear b6 CL
      have c0 := CD0.c0
      rcases HR1.out with ⟨n1, rfl, rfl⟩ | ⟨n1, rfl, r1, rfl, r10, r11, dv1⟩
      · rcases HR2.out with ⟨n2, rfl, rfl⟩ | ⟨n2, _⟩
        · rcases HR3.out with ⟨n3, rfl, rfl⟩ | ⟨n3, _⟩
          · rcases hcase with ⟨_, rfl⟩ | ⟨n4, _⟩
            · clear HR1 HR2 HR3
              go_wp2
              go_ret
              exact ⟨rfl, KO⟩
            · exact absurd n4 n1
          · exact absurd n3 n1
        · exact absurd ((dig_with A B).1 n2) n1
      · rcases HR2.out with ⟨n2, _⟩ | ⟨n2, rfl, r2, rfl, r20, r21, dv2⟩
        · exact absurd ((dig_with A B).2 n1) n2
        · rcases HR3.out with ⟨n3, _⟩ | ⟨n3, rfl, r3, rfl, r30, r31, dv3⟩
          · exact absurd n1 n3
          · rcases hcase with ⟨n4, _⟩ | ⟨_, _, rfl⟩
            · exact absurd ⟨n1, n2⟩ n4
            · have e2 : r2 = r1 := dv_first HW.out.wide dv2 (by rw [dg_with]; have k := dv_behind B dv1; rwa [show P - (N : Int) - B = P + A - ((A + (N + B) : Nat) : Int) by omega] at k)
              have e3 : r3 = r1 := dv_first HW.out.wide dv3 dv1
              have e4 : dcmp (sgv ng (dg es)) (P - N) (sgv ng (dg (List.replicate A 48 ++ (es ++ List.replicate B 48)))) (P + A - (A + (N + B) : Nat)) = 0 := by
                rw [dg_with, dcmp_base (b := P - N - B) (by omega) (by omega), sgv_mul, show (P - (N : Int) - (P - N - B)).toNat = B by omega, show (P + (A : Int) - ((A + (N + B) : Nat) : Int) - (P - N - B)).toNat = 0 by omega, tn_zero, Int.mul_one]
                exact sgn_eq rfl
              rw [e2, e3, e4]
              clear dv1 dv2 dv3 n1 n2 n3 HR1 HR2 HR3 e2 e3 e4 r20 r21 r30 r31
              have rS : r1 < S := by have := HW.out.ends; omega
              have hwd := fun w => lwidth7 (w := w) HW.out
              rcases HW.out.2.2 with ⟨hv, rfl, rfl, rfl, rfl, rfl⟩ | ⟨hv, rfl, rfl, rfl, rfl, rfl⟩ | ⟨hv, rfl, rfl, rfl, rfl, rfl⟩ | ⟨hv, rfl, rfl, rfl, rfl, rfl⟩ <;> clear hv <;> cases ng
              all_goals
                (first | rw [show b2i (!true) = 0 from rfl, show b2i true = 1 from rfl] | rw [show b2i (!false) = 1 from rfl, show b2i false = 0 from rfl])
                rw [Int.zero_mul, Int.one_mul, Int.add_zero]
                go_wp2_with fail
                with_reducible refine (hwd _).mono ?_
                rintro x w7 ⟨rfl, rfl⟩
                go_wp2
                go_ret
                exact ⟨rfl, KO⟩

end Go.Proofs.YtigehipclkoecaaGreatDoor
