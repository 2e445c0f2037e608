/- the orders -/
import Derived.Test.YtomieeajmelglaaOSort
namespace Go.Proofs.Ytomieeajmelglaa
open Go.RowKit Go.Shelf
set_option linter.unusedVariables false
set_option linter.unusedSimpArgs false

def oSz (x : Int) : Int := if x < 0 then IntKind.u64.wrap (wrap64 (-x)) else IntKind.u64.wrap x
def oUp (x : Int) : Int := IntKind.u64.wrap (IntKind.u64.wrap x + 9223372036854775808)
def oRs (x : Int) : Int := (IntKind.u64.wrap x).tmod 4
/-- what the orders look at -/
def oKey (o : Int) (x : Int) : Int := if o = 0 ∨ o = 2 then oUp x else if o = 1 then oSz x else if o = 3 then oRs x else 0
def oSgn (x y : Int) : Int := if x < y then -1 else if y < x then 1 else 0
def ocmp (o : Int) (a b : It) : Int := if o = 2 then - oSgn (oKey o a.1) (oKey o b.1) else oSgn (oKey o a.1) (oKey o b.1)

set_option maxRecDepth 100000 in
set_option maxHeartbeats 4000000 in
theorem osize_any {w : World} {x : Int} : Calls Try.prog 42 #[.int .i64 x] w fun e w' => e = .returned (.int .u64 (oSz x)) ∧ w' = w := by
  by_cases h : x < 0
  · have d : decide (x < 0) = true := by simpa using h
    have H := hide h
    go_enter Try.func42, Try.ntmps42
    go_wp2
    go_ret
    exact ⟨by rw [oSz, if_pos H.out]; rfl, rfl⟩
  · have d : decide (x < 0) = false := by simpa using h
    have H := hide h
    go_enter Try.func42, Try.ntmps42
    go_wp2
    go_ret
    exact ⟨by rw [oSz, if_neg (by have := H.out; omega)]; rfl, rfl⟩

set_option maxRecDepth 100000 in
set_option maxHeartbeats 8000000 in
theorem ocmp_any {w : World} {o : Int} {a b : It} : Calls Try.prog 23 #[.int .i64 o, itV a, itV b] w fun e w' => e = .returned (.int .i64 (ocmp o a b)) ∧ Below w.heap.size w w' := by
  obtain ⟨a1, a2⟩ := a
  obtain ⟨b1, b2⟩ := b
  have K2 : Hid (Below w.heap.size w ((w.alloc (.cells #[.int .i64 a1, .int .i64 a2] 27)).alloc (.cells #[.int .i64 b1, .int .i64 b2] 27))) := hide (((Below.refl _ w).alloc (Nat.le_refl _) _).alloc (by simp) _)
  obtain ⟨W2, hW2⟩ : ∃ u, (w.alloc (.cells #[.int .i64 a1, .int .i64 a2] 27)).alloc (.cells #[.int .i64 b1, .int .i64 b2] 27) = u := ⟨_, rfl⟩
  have c1 : W2.cell? ⟨w.heap.size, 0, none⟩ = some (.int .i64 a1) := by rw [← hW2]; simp
  have c2 : W2.cell? ⟨w.heap.size + 1, 0, none⟩ = some (.int .i64 b1) := by rw [← hW2]; simp
  rw [hW2] at K2
  have HS := hide (fun (x : Int) (u : World) => osize_any (w := u) (x := x))
  by_cases h0 : o = 0
  · subst h0
    obtain ⟨X, hX⟩ : ∃ X, IntKind.u64.wrap (IntKind.u64.wrap a1 + 9223372036854775808) = X := ⟨_, rfl⟩
    obtain ⟨Y, hY⟩ : ∃ Y, IntKind.u64.wrap (IntKind.u64.wrap b1 + 9223372036854775808) = Y := ⟨_, rfl⟩
    have HO : Hid (ocmp 0 (a1, a2) (b1, b2) = oSgn X Y) := hide (by rw [← hX, ← hY]; rfl)
    by_cases hlt : X < Y
    · have d1 : decide (X < Y) = true := by simpa using hlt
      have d2 : decide (Y < X) = false := by simp; omega
      have HR : Hid (oSgn X Y = -1) := hide (by rw [oSgn, if_pos hlt])
      clear hlt
      go_enter Try.func23, Try.ntmps23
      go_wp2
      go_quiet (fail)
      go_wp2
      go_ret
      exact ⟨by rw [HO.out, HR.out]; rfl, K2.out.trans ((obel_drewN W2 _).mono K2.out.size)⟩
    · by_cases hgt : Y < X
      · have d1 : decide (X < Y) = false := by simpa using hlt
        have d2 : decide (Y < X) = true := by simpa using hgt
        have HR : Hid (oSgn X Y = 1) := hide (by rw [oSgn, if_neg hlt, if_pos hgt])
        clear hlt hgt
        go_enter Try.func23, Try.ntmps23
        go_wp2
        go_quiet (fail)
        go_wp2
        go_ret
        exact ⟨by rw [HO.out, HR.out]; rfl, K2.out.trans ((obel_drewN W2 _).mono K2.out.size)⟩
      · have d1 : decide (X < Y) = false := by simpa using hlt
        have d2 : decide (Y < X) = false := by simpa using hgt
        have HR : Hid (oSgn X Y = 0) := hide (by rw [oSgn, if_neg hlt, if_neg hgt])
        clear hlt hgt
        go_enter Try.func23, Try.ntmps23
        go_wp2
        go_quiet (fail)
        go_wp2
        go_ret
        exact ⟨by rw [HO.out, HR.out]; rfl, K2.out.trans ((obel_drewN W2 _).mono K2.out.size)⟩
  · by_cases h2 : o = 2
    · subst h2
      obtain ⟨X, hX⟩ : ∃ X, IntKind.u64.wrap (IntKind.u64.wrap a1 + 9223372036854775808) = X := ⟨_, rfl⟩
      obtain ⟨Y, hY⟩ : ∃ Y, IntKind.u64.wrap (IntKind.u64.wrap b1 + 9223372036854775808) = Y := ⟨_, rfl⟩
      have HO : Hid (ocmp 2 (a1, a2) (b1, b2) = - oSgn X Y) := hide (by rw [← hX, ← hY]; rfl)
      by_cases hlt : X < Y
      · have d1 : decide (X < Y) = true := by simpa using hlt
        have d2 : decide (Y < X) = false := by simp; omega
        have HR : Hid (oSgn X Y = -1) := hide (by rw [oSgn, if_pos hlt])
        clear hlt
        go_enter Try.func23, Try.ntmps23
        go_wp2
        go_quiet (fail)
        go_wp2
        go_ret
        exact ⟨by rw [HO.out, HR.out]; rfl, K2.out.trans ((obel_drewN W2 _).mono K2.out.size)⟩
      · by_cases hgt : Y < X
        · have d1 : decide (X < Y) = false := by simpa using hlt
          have d2 : decide (Y < X) = true := by simpa using hgt
          have HR : Hid (oSgn X Y = 1) := hide (by rw [oSgn, if_neg hlt, if_pos hgt])
          clear hlt hgt
          go_enter Try.func23, Try.ntmps23
          go_wp2
          go_quiet (fail)
          go_wp2
          go_ret
          exact ⟨by rw [HO.out, HR.out]; rfl, K2.out.trans ((obel_drewN W2 _).mono K2.out.size)⟩
        · have d1 : decide (X < Y) = false := by simpa using hlt
          have d2 : decide (Y < X) = false := by simpa using hgt
          have HR : Hid (oSgn X Y = 0) := hide (by rw [oSgn, if_neg hlt, if_neg hgt])
          clear hlt hgt
          go_enter Try.func23, Try.ntmps23
          go_wp2
          go_quiet (fail)
          go_wp2
          go_ret
          exact ⟨by rw [HO.out, HR.out]; rfl, K2.out.trans ((obel_drewN W2 _).mono K2.out.size)⟩
    · by_cases h1 : o = 1
      · subst h1
        obtain ⟨X, hX⟩ : ∃ X, oSz a1 = X := ⟨_, rfl⟩
        obtain ⟨Y, hY⟩ : ∃ Y, oSz b1 = Y := ⟨_, rfl⟩
        have HO : Hid (ocmp 1 (a1, a2) (b1, b2) = oSgn X Y) := hide (by rw [← hX, ← hY]; rfl)
        by_cases hlt : X < Y
        · have d1 : decide (X < Y) = true := by simpa using hlt
          have d2 : decide (Y < X) = false := by simp; omega
          have HR : Hid (oSgn X Y = -1) := hide (by rw [oSgn, if_pos hlt])
          clear hlt
          go_enter Try.func23, Try.ntmps23
          go_wp2
          go_quiet ((go_at_call 42; exact Calls.quiet_of_same (HS.out _ _)))
          go_wp2
          go_ret
          exact ⟨by rw [HO.out, HR.out]; rfl, K2.out.trans ((obel_drewN W2 _).mono K2.out.size)⟩
        · by_cases hgt : Y < X
          · have d1 : decide (X < Y) = false := by simpa using hlt
            have d2 : decide (Y < X) = true := by simpa using hgt
            have HR : Hid (oSgn X Y = 1) := hide (by rw [oSgn, if_neg hlt, if_pos hgt])
            clear hlt hgt
            go_enter Try.func23, Try.ntmps23
            go_wp2
            go_quiet ((go_at_call 42; exact Calls.quiet_of_same (HS.out _ _)))
            go_wp2
            go_ret
            exact ⟨by rw [HO.out, HR.out]; rfl, K2.out.trans ((obel_drewN W2 _).mono K2.out.size)⟩
          · have d1 : decide (X < Y) = false := by simpa using hlt
            have d2 : decide (Y < X) = false := by simpa using hgt
            have HR : Hid (oSgn X Y = 0) := hide (by rw [oSgn, if_neg hlt, if_neg hgt])
            clear hlt hgt
            go_enter Try.func23, Try.ntmps23
            go_wp2
            go_quiet ((go_at_call 42; exact Calls.quiet_of_same (HS.out _ _)))
            go_wp2
            go_ret
            exact ⟨by rw [HO.out, HR.out]; rfl, K2.out.trans ((obel_drewN W2 _).mono K2.out.size)⟩
      · by_cases h3 : o = 3
        · subst h3
          obtain ⟨X, hX⟩ : ∃ X, (IntKind.u64.wrap a1).tmod 4 = X := ⟨_, rfl⟩
          obtain ⟨Y, hY⟩ : ∃ Y, (IntKind.u64.wrap b1).tmod 4 = Y := ⟨_, rfl⟩
          have HO : Hid (ocmp 3 (a1, a2) (b1, b2) = oSgn X Y) := hide (by rw [← hX, ← hY]; rfl)
          by_cases hlt : X < Y
          · have d1 : decide (X < Y) = true := by simpa using hlt
            have d2 : decide (Y < X) = false := by simp; omega
            have HR : Hid (oSgn X Y = -1) := hide (by rw [oSgn, if_pos hlt])
            clear hlt
            go_enter Try.func23, Try.ntmps23
            go_wp2
            go_quiet (fail)
            go_wp2
            go_ret
            exact ⟨by rw [HO.out, HR.out]; rfl, K2.out.trans ((obel_drewN W2 _).mono K2.out.size)⟩
          · by_cases hgt : Y < X
            · have d1 : decide (X < Y) = false := by simpa using hlt
              have d2 : decide (Y < X) = true := by simpa using hgt
              have HR : Hid (oSgn X Y = 1) := hide (by rw [oSgn, if_neg hlt, if_pos hgt])
              clear hlt hgt
              go_enter Try.func23, Try.ntmps23
              go_wp2
              go_quiet (fail)
              go_wp2
              go_ret
              exact ⟨by rw [HO.out, HR.out]; rfl, K2.out.trans ((obel_drewN W2 _).mono K2.out.size)⟩
            · have d1 : decide (X < Y) = false := by simpa using hlt
              have d2 : decide (Y < X) = false := by simpa using hgt
              have HR : Hid (oSgn X Y = 0) := hide (by rw [oSgn, if_neg hlt, if_neg hgt])
              clear hlt hgt
              go_enter Try.func23, Try.ntmps23
              go_wp2
              go_quiet (fail)
              go_wp2
              go_ret
              exact ⟨by rw [HO.out, HR.out]; rfl, K2.out.trans ((obel_drewN W2 _).mono K2.out.size)⟩
        · have HO : Hid (ocmp o (a1, a2) (b1, b2) = 0) := hide (by simp [ocmp, oKey, h0, h1, h2, h3, oSgn])
          have g0 : (o == 0) = false := by simpa using h0
          have g1 : (o == 1) = false := by simpa using h1
          have g2 : (o == 2) = false := by simpa using h2
          have g3 : (o == 3) = false := by simpa using h3
          clear h0 h1 h2 h3
          go_enter Try.func23, Try.ntmps23
          go_wp2
          go_ret
          exact ⟨by rw [HO.out]; rfl, K2.out⟩

theorem ocmp_in (o : Int) (a b : It) : ocmp o a b = -1 ∨ ocmp o a b = 0 ∨ ocmp o a b = 1 := by
  unfold ocmp oSgn
  split <;> split <;> (try split) <;> simp

set_option maxRecDepth 100000 in
set_option maxHeartbeats 4000000 in
theorem byKey_is : CmpIs (fun _ => True) (.func (.func 11) #[] #[]) (fun a b => ocmp 0 a b) := by
  refine ⟨_, _, rfl, enters_of Try.func11 (by kernel_rfl) rfl, fun W a b _ => ?_⟩
  have HC := hide (fun (u : World) (c d : It) => ocmp_any (w := u) (o := 0) (a := c) (b := d))
  have hin := ocmp_in 0 a b
  obtain ⟨z, hz⟩ : ∃ z, ocmp 0 a b = z := ⟨_, rfl⟩
  have HZ := hide hz
  rw [hz] at hin ⊢
  clear hz
  obtain ⟨a1, a2⟩ := a
  obtain ⟨b1, b2⟩ := b
  have K2 : Hid (Below W.heap.size W ((W.alloc (.cells #[.int .i64 a1, .int .i64 a2] 27)).alloc (.cells #[.int .i64 b1, .int .i64 b2] 27))) := hide (((Below.refl _ W).alloc (Nat.le_refl _) _).alloc (by simp) _)
  show Calls Try.prog 11 #[itV (a1, a2), itV (b1, b2)] W _
  go_enter Try.func11, Try.ntmps11
  go_wp2_with fail
  refine (HC.out _ (a1, a2) (b1, b2)).mono ?_
  rintro e w1 ⟨rfl, k1⟩
  rw [HZ.out]
  have K3 := hide (K2.out.trans (k1.mono K2.out.size))
  clear k1
  rcases hin with rfl | rfl | rfl
  all_goals go_wp2
  all_goals go_ret
  all_goals exact ⟨rfl, K3.out⟩

set_option maxRecDepth 100000 in
set_option maxHeartbeats 4000000 in
theorem bySize_is : CmpIs (fun _ => True) (.func (.func 34) #[] #[]) (fun a b => 7 * ocmp 1 a b) := by
  refine ⟨_, _, rfl, enters_of Try.func34 (by kernel_rfl) rfl, fun W a b _ => ?_⟩
  have HC := hide (fun (u : World) (c d : It) => ocmp_any (w := u) (o := 1) (a := c) (b := d))
  have hin := ocmp_in 1 a b
  obtain ⟨z, hz⟩ : ∃ z, ocmp 1 a b = z := ⟨_, rfl⟩
  have HZ := hide hz
  rw [hz] at hin ⊢
  clear hz
  obtain ⟨a1, a2⟩ := a
  obtain ⟨b1, b2⟩ := b
  have K2 : Hid (Below W.heap.size W ((W.alloc (.cells #[.int .i64 a1, .int .i64 a2] 27)).alloc (.cells #[.int .i64 b1, .int .i64 b2] 27))) := hide (((Below.refl _ W).alloc (Nat.le_refl _) _).alloc (by simp) _)
  show Calls Try.prog 34 #[itV (a1, a2), itV (b1, b2)] W _
  go_enter Try.func34, Try.ntmps34
  go_wp2_with fail
  refine (HC.out _ (a1, a2) (b1, b2)).mono ?_
  rintro e w1 ⟨rfl, k1⟩
  rw [HZ.out]
  have K3 := hide (K2.out.trans (k1.mono K2.out.size))
  clear k1
  rcases hin with rfl | rfl | rfl
  all_goals go_wp2
  all_goals go_ret
  all_goals exact ⟨rfl, K3.out⟩

set_option maxRecDepth 100000 in
set_option maxHeartbeats 4000000 in
theorem byAbove_is : CmpIs (fun _ => True) (.func (.func 35) #[] #[]) (fun a b => ocmp 2 a b) := by
  refine ⟨_, _, rfl, enters_of Try.func35 (by kernel_rfl) rfl, fun W a b _ => ?_⟩
  have HC := hide (fun (u : World) (c d : It) => ocmp_any (w := u) (o := 2) (a := c) (b := d))
  have hin := ocmp_in 2 a b
  obtain ⟨z, hz⟩ : ∃ z, ocmp 2 a b = z := ⟨_, rfl⟩
  have HZ := hide hz
  rw [hz] at hin ⊢
  clear hz
  obtain ⟨a1, a2⟩ := a
  obtain ⟨b1, b2⟩ := b
  have K2 : Hid (Below W.heap.size W ((W.alloc (.cells #[.int .i64 a1, .int .i64 a2] 27)).alloc (.cells #[.int .i64 b1, .int .i64 b2] 27))) := hide (((Below.refl _ W).alloc (Nat.le_refl _) _).alloc (by simp) _)
  show Calls Try.prog 35 #[itV (a1, a2), itV (b1, b2)] W _
  go_enter Try.func35, Try.ntmps35
  go_wp2_with fail
  refine (HC.out _ (a1, a2) (b1, b2)).mono ?_
  rintro e w1 ⟨rfl, k1⟩
  rw [HZ.out]
  have K3 := hide (K2.out.trans (k1.mono K2.out.size))
  clear k1
  rcases hin with rfl | rfl | rfl
  all_goals go_wp2
  all_goals go_ret
  all_goals exact ⟨rfl, K3.out⟩

set_option maxRecDepth 100000 in
set_option maxHeartbeats 4000000 in
theorem byRest_is : CmpIs (fun _ => True) (.func (.func 36) #[] #[]) (fun a b => 1099511627776 * ocmp 3 a b) := by
  refine ⟨_, _, rfl, enters_of Try.func36 (by kernel_rfl) rfl, fun W a b _ => ?_⟩
  have HC := hide (fun (u : World) (c d : It) => ocmp_any (w := u) (o := 3) (a := c) (b := d))
  have hin := ocmp_in 3 a b
  obtain ⟨z, hz⟩ : ∃ z, ocmp 3 a b = z := ⟨_, rfl⟩
  have HZ := hide hz
  rw [hz] at hin ⊢
  clear hz
  obtain ⟨a1, a2⟩ := a
  obtain ⟨b1, b2⟩ := b
  have K2 : Hid (Below W.heap.size W ((W.alloc (.cells #[.int .i64 a1, .int .i64 a2] 27)).alloc (.cells #[.int .i64 b1, .int .i64 b2] 27))) := hide (((Below.refl _ W).alloc (Nat.le_refl _) _).alloc (by simp) _)
  show Calls Try.prog 36 #[itV (a1, a2), itV (b1, b2)] W _
  go_enter Try.func36, Try.ntmps36
  go_wp2_with fail
  refine (HC.out _ (a1, a2) (b1, b2)).mono ?_
  rintro e w1 ⟨rfl, k1⟩
  rw [HZ.out]
  have K3 := hide (K2.out.trans (k1.mono K2.out.size))
  clear k1
  rcases hin with rfl | rfl | rfl
  all_goals go_wp2
  all_goals go_ret
  all_goals exact ⟨rfl, K3.out⟩

set_option maxRecDepth 100000 in
set_option maxHeartbeats 4000000 in
theorem alike_is : CmpIs (fun _ => True) (.func (.func 37) #[] #[]) (fun _ _ => 0) := by
  refine ⟨_, _, rfl, enters_of Try.func37 (by kernel_rfl) rfl, fun W a b _ => ?_⟩
  obtain ⟨a1, a2⟩ := a
  obtain ⟨b1, b2⟩ := b
  show Calls Try.prog 37 #[itV (a1, a2), itV (b1, b2)] W _
  go_enter Try.func37, Try.ntmps37
  go_wp2
  go_ret
  first | exact ⟨rfl, Below.refl _ _⟩ | exact ⟨rfl, ((Below.refl _ W).alloc (Nat.le_refl _) _).alloc (by simp) _⟩

/-- the order of a number -/
def byV (o : Int) : Value := .func (.func (if o = 0 then 11 else if o = 1 then 34 else if o = 2 then 35 else if o = 3 then 36 else 37)) #[] #[]
def byF (o : Int) (a b : It) : Int := if o = 0 then ocmp 0 a b else if o = 1 then 7 * ocmp 1 a b else if o = 2 then ocmp 2 a b else if o = 3 then 1099511627776 * ocmp 3 a b else 0
theorem by_is (o : Int) : CmpIs (fun _ => True) (byV o) (byF o) := by
  unfold byV
  by_cases h0 : o = 0
  · subst h0; exact byKey_is
  · by_cases h1 : o = 1
    · subst h1; exact bySize_is
    · by_cases h2 : o = 2
      · subst h2; exact byAbove_is
      · by_cases h3 : o = 3
        · subst h3; exact byRest_is
        · simp only [h0, h1, h2, h3, if_false]
          have e : byF o = fun _ _ => 0 := by funext a b; simp [byF, h0, h1, h2, h3]
          rw [e]
          exact alike_is
theorem byF_neg (o : Int) (a b : It) : byF o a b < 0 ↔ ocmp o a b < 0 := by
  unfold byF
  split
  · next h => subst h; rfl
  · split
    · next h => subst h; omega
    · split
      · next h => subst h; rfl
      · split
        · next h => subst h; omega
        · next h0 h1 h2 h3 => simp [ocmp, oKey, h0, h1, h2, h3, oSgn]
theorem byF_zero (o : Int) (a b : It) : byF o a b = 0 ↔ ocmp o a b = 0 := by
  unfold byF
  split
  · next h => subst h; rfl
  · split
    · next h => subst h; omega
    · split
      · next h => subst h; rfl
      · split
        · next h => subst h; omega
        · next h0 h1 h2 h3 => simp [ocmp, oKey, h0, h1, h2, h3, oSgn]

set_option maxRecDepth 100000 in
set_option maxHeartbeats 4000000 in
theorem by_any {w : World} {o : Int} : Calls Try.prog 10 #[.int .i64 o] w fun e w' => e = .returned (byV o) ∧ w' = w := by
  by_cases h0 : o = 0
  · subst h0
    go_enter Try.func10, Try.ntmps10
    go_wp2
    go_ret
    exact ⟨rfl, rfl⟩
  · by_cases h1 : o = 1
    · subst h1
      go_enter Try.func10, Try.ntmps10
      go_wp2
      go_ret
      exact ⟨rfl, rfl⟩
    · by_cases h2 : o = 2
      · subst h2
        go_enter Try.func10, Try.ntmps10
        go_wp2
        go_ret
        exact ⟨rfl, rfl⟩
      · by_cases h3 : o = 3
        · subst h3
          go_enter Try.func10, Try.ntmps10
          go_wp2
          go_ret
          exact ⟨rfl, rfl⟩
        · have g0 : (o == 0) = false := by simpa using h0
          have g1 : (o == 1) = false := by simpa using h1
          have g2 : (o == 2) = false := by simpa using h2
          have g3 : (o == 3) = false := by simpa using h3
          have HV : Hid (byV o = .func (.func 37) #[] #[]) := hide (by simp [byV, h0, h1, h2, h3])
          clear h0 h1 h2 h3
          go_enter Try.func10, Try.ntmps10
          go_wp2
          go_ret
          exact ⟨by rw [HV.out]; rfl, rfl⟩

end Go.Proofs.Ytomieeajmelglaa
