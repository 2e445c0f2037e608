/- real: the chapter's first examples -/
import Derived.Test.YtkaakhmncmpliaaRealC
namespace Go.Proofs.Ytkaakhmncmpliaa
open Go.RowKit

theorem bel_new (w : World) (o : Obj) : Below w.heap.size w (w.alloc o) := (Below.refl _ _).alloc (Nat.le_refl _) _
theorem single_15 (w : World) : Calls Try.prog 18 #[.float .f64 4609434218613702656] w fun e w' => e = .returned (.tuple #[.float .f32 1069547520, .bool true]) ∧ w' = w := by
  have h1 : ∀ w, (convert 24 26 (.float .f64 4609434218613702656)).run Try.prog w = .ok (.float .f32 1069547520) w := fun w => run_convert_float_float w _ _ _ _ _ _ (by kernel_rfl) (by kernel_rfl) (by decide)
  have h2 : ∀ w, (convert 26 24 (.float .f32 1069547520)).run Try.prog w = .ok (.float .f64 4609434218613702656) w := fun w => run_convert_float_float w _ _ _ _ _ _ (by kernel_rfl) (by kernel_rfl) (by decide)
  have h3 : (FloatKind.f64.format.order 4609434218613702656 4609434218613702656 == some .eq) = true := by decide
  go_enter Try.func18, Try.ntmps18
  go_wp2
  go_ret2
  exact ⟨rfl, rfl⟩

theorem andNot_d (x : Int) (h0 : 0 ≤ x) (h1 : x < 18446744073709551616) : bits .andNot .u64 x 9223372036854775808 = x % 9223372036854775808 := by
  rw [u64_andNot x 9223372036854775808 h0 (by omega) (by decide) (by decide)]
  have h2 : x.toNat &&& (18446744073709551615 - 2 ^ 63) = x.toNat % 2 ^ 63 := by
    rw [show 18446744073709551615 - 2 ^ 63 = 2 ^ 63 - 1 from rfl, nat_mask0]
  rw [show (9223372036854775808 : Int).toNat = 2 ^ 63 from rfl, h2]
  omega

theorem sizeOf_any (w : World) (b : Nat) (hb : b < 18446744073709551616) (hn : ¬ nanD b) : Calls Try.prog 50 #[.float .f64 b] w fun e w' => e = .returned (.float .f64 (szD b)) ∧ w' = w := by
  have e1 := andNot_d b (by omega) (by omega)
  have Hz := hide (show ((b : Int) % 9223372036854775808).toNat = szD b by unfold szD; omega)
  generalize (b : Int) % 9223372036854775808 = X at *
  have Ho := hide (one_not hn)
  go_enter Try.func50, Try.ntmps50
  go_wp2_with fail
  with_reducible refine (bits_any _ b).mono ?_
  rintro e w1 ⟨rfl, rfl⟩
  rw [Ho.out]
  go_wp2_with fail
  with_reducible refine (float_any _ X).mono ?_
  rintro e w1 ⟨rfl, rfl⟩
  rw [Hz.out]
  go_wp2
  go_ret
  exact ⟨rfl, rfl⟩

set_option maxHeartbeats 2000000 in
theorem half_big (w : World) (b : Nat) (hb : b < 18446744073709551616) (hn : ¬ nanD b) (hz : 4679240012837945344 ≤ szD b) :
    Calls Try.prog 19 #[.float .f64 b] w fun e w' => e = .returned (.tuple #[.int .u16 ((if ngD b = true then 32768 else 0) + 31744), .bool (decide (szD b = 9218868437227405312))]) ∧ w' = w := by
  have o1 := order_self' b
  rw [decide_eq_false hn] at o1
  have nz : ¬ nanD (szD b) := by unfold nanD szD at hn ⊢; omega
  have r1 : rkD (szD b) = szD b := by
    have := szD_lt b
    unfold rkD ngD
    rw [show szD b / 9223372036854775808 = 0 by omega]
    unfold szD
    simp
  have n2 : ¬ nanD 4679240012837945344 := by decide
  have r2 : rkD 4679240012837945344 = 4679240012837945344 := by decide
  have n3 : ¬ nanD 9218868437227405312 := by decide
  have r3 : rkD 9218868437227405312 = 9218868437227405312 := by decide
  have o2 : (FloatKind.f64.format.order (szD b) 4679240012837945344 == some .gt || FloatKind.f64.format.order (szD b) 4679240012837945344 == some .eq) = true := by
    rw [order_gt, order_eq, r1, r2, decide_eq_false nz, decide_eq_false n2]
    simp only [Bool.not_false, Bool.true_and, Bool.or_eq_true, decide_eq_true_eq]
    omega
  have o3 : (FloatKind.f64.format.order (szD b) 9218868437227405312 == some .eq) = decide (szD b = 9218868437227405312) := by
    rw [order_eq, r1, r3, decide_eq_false nz, decide_eq_false n3]
    simp only [Bool.not_false, Bool.true_and]
    by_cases c : szD b = 9218868437227405312
    · rw [decide_eq_true c, decide_eq_true (by omega)]
    · rw [decide_eq_false c, decide_eq_false (by omega)]
  have Ho := hide (one_not hn)
  have e1 : ∀ y : Int, y = 0 ∨ y = 32768 → bits .or .u16 y 31744 = y + 31744 := by
    rintro y (rfl | rfl) <;> decide
  have e2 : bits .and .u16 ((b : Int) / 281474976710656) 32768 = if ngD b = true then 32768 else 0 := by
    rw [u16_and _ 32768 (by omega) (by omega) (by decide) (by decide)]
    have := nat_mask ((b : Int) / 281474976710656).toNat 15 1
    rw [show (32768 : Int).toNat = (2 ^ 1 - 1) * 2 ^ 15 from rfl, this]
    unfold ngD
    by_cases c : b < 9223372036854775808
    · rw [show b / 9223372036854775808 = 0 by omega]
      simp
      omega
    · rw [show b / 9223372036854775808 = 1 by omega]
      simp
      omega
  have hy : (if ngD b = true then (32768 : Int) else 0) = 0 ∨ (if ngD b = true then (32768 : Int) else 0) = 32768 := by cases ngD b <;> simp
  generalize (if ngD b = true then (32768 : Int) else 0) = Y at *
  replace e1 := e1 Y hy
  clear hy
  go_enter Try.func19, Try.ntmps19
  go_wp2_with fail
  with_reducible refine (bits_any _ b).mono ?_
  rintro e w1 ⟨rfl, rfl⟩
  rw [Ho.out]
  go_wp2_with fail
  with_reducible refine (sizeOf_any _ b hb hn).mono ?_
  rintro e w1 ⟨rfl, rfl⟩
  clear hn nz r1 n2 r2 n3 r3 hb hz
  go_wp2_with fail
  with_reducible refine (float_any _ 9218868437227405312).mono ?_
  rintro e w1 ⟨rfl, rfl⟩
  rw [show (9218868437227405312 : Int).toNat = 9218868437227405312 from rfl]
  go_wp2
  go_ret2
  exact ⟨rfl, rfl⟩

theorem halfSize_c (w : World) : Calls Try.prog 53 #[.int .u16 15872] w fun e w' => e = .returned (.float .f64 4609434218613702656) ∧ w' = w := by
  go_enter Try.func53, Try.ntmps53
  go_wp2_with fail
  with_reducible refine (float_any _ 4609434218613702656).mono ?_
  rintro e w1 ⟨rfl, rfl⟩
  go_wp2
  go_ret
  exact ⟨rfl, rfl⟩
theorem fromHalf_c (w : World) : Calls Try.prog 20 #[.int .u16 15872] w fun e w' => e = .returned (.float .f64 4609434218613702656) ∧ w' = w := by
  have e1 : bits .andNot .u16 15872 32768 = 15872 := by decide
  have e2 : bits .and .u16 15872 32768 = 0 := by decide
  go_enter Try.func20, Try.ntmps20
  go_wp2_with fail
  with_reducible refine (halfSize_c _).mono ?_
  rintro e w1 ⟨rfl, rfl⟩
  go_wp2
  go_ret
  exact ⟨rfl, rfl⟩

theorem whole_c (w : World) : Calls Try.prog 23 #[.float .f64 13970166044103278592] w fun e w' => e = .returned (.tuple #[.int .i64 (-2147483648), .bool true]) ∧ w' = w := by
  have o1 : (FloatKind.f64.format.order 13970166044103278592 14114281232179134464 == some .gt || FloatKind.f64.format.order 13970166044103278592 14114281232179134464 == some .eq) = true := by decide
  have o2 : (FloatKind.f64.format.order 13970166044103278592 4890909195324358656 == some .lt) = true := by decide
  have o3 : (FloatKind.f64.format.order 13970166044103278592 13970166044103278592 != some .eq) = false := by decide
  have h1 : ∀ w, (convert 24 2 (.float .f64 13970166044103278592)).run Try.prog w = .ok (.int .i64 (-2147483648)) w := fun w => run_convert_float_int w _ _ _ _ _ _ (by kernel_rfl) (by kernel_rfl) (by decide)
  have h2 : ∀ w, (convert 2 24 (.int .i64 (-2147483648))).run Try.prog w = .ok (.float .f64 13970166044103278592) w := fun w => by
    rw [run_convert_int_float w _ _ _ .f64 _ (by kernel_rfl) (by kernel_rfl)]
    rw [show floatOfInt .f64 (-2147483648) = 13970166044103278592 by decide]
  go_enter Try.func23, Try.ntmps23
  go_wp2
  go_ret2
  exact ⟨rfl, rfl⟩

theorem sum_c {x y : Nat} (h : SumIs [(4607182418800017408, 4607182418800017408), (4607182418800017408, 4611686018427387904)] 0 0 x y) : x = 4611686018427387904 ∧ y = 4613937818241073152 := by
  obtain ⟨p, q, h1, h2, r, s, h3, h4, rfl, rfl⟩ := h
  have a1 : floatBits .add .f64 0 4607182418800017408 = some 4607182418800017408 := by decide +kernel
  have a2 : floatBits .add .f64 4607182418800017408 4607182418800017408 = some 4611686018427387904 := by decide +kernel
  have a3 : floatBits .add .f64 4607182418800017408 4611686018427387904 = some 4613937818241073152 := by decide +kernel
  have ep : p = 4607182418800017408 := by
    rcases h1 with h | ⟨h, _⟩
    · rw [a1] at h; exact (Option.some.inj h).symm
    · rw [a1] at h; cases h
  have eq : q = 4607182418800017408 := by
    rcases h2 with h | ⟨h, _⟩
    · rw [a1] at h; exact (Option.some.inj h).symm
    · rw [a1] at h; cases h
  subst ep eq
  refine ⟨?_, ?_⟩
  · rcases h3 with h | ⟨h, _⟩
    · rw [a2] at h; exact (Option.some.inj h).symm
    · rw [a2] at h; cases h
  · rcases h4 with h | ⟨h, _⟩
    · rw [a3] at h; exact (Option.some.inj h).symm
    · rw [a3] at h; cases h
theorem len_c : [((4607182418800017408 : Nat), (4607182418800017408 : Nat)), (4607182418800017408, 4611686018427387904)].length = 2 := rfl
theorem two_le : 2 ≤ maxLen := by unfold maxLen; decide
theorem ccells_c (w : World) : CCells (w.alloc (.cells #[.complex .f64 4607182418800017408 4607182418800017408, .complex .f64 4607182418800017408 4611686018427387904] 59)) (some ⟨w.heap.size, 0, none⟩) [(4607182418800017408, 4607182418800017408), (4607182418800017408, 4611686018427387904)] := by
  refine fun _ => ⟨w.heap.size, 0, rfl, by simp, fun i hi => ?_⟩
  rw [World.cell?_alloc_at _ _ _ _ rfl]
  match i, hi with
  | 0, _ => rfl
  | 1, _ => rfl

set_option maxHeartbeats 4000000 in
theorem lives_ok (w : World) : Calls Try.prog 16 #[] w fun e w' => e = .returned (.bool true) ∧ Below w.heap.size w w' := by
  have o1 : (FloatKind.f64.format.order 4609434218613702656 4609434218613702656 == some .eq) = true := by decide
  go_enter Try.func16, Try.ntmps16
  go_wp2_with fail
  with_reducible refine (float_any _ 4609434218613702656).mono ?_
  rintro e w1 ⟨rfl, rfl⟩
  rw [show (4609434218613702656 : Int).toNat = 4609434218613702656 from rfl]
  go_wp2_with fail
  with_reducible refine (single_15 _).mono ?_
  rintro e w1 ⟨rfl, rfl⟩
  go_wp2_with fail
  with_reducible refine (float_any _ 13970166044103278592).mono ?_
  rintro e w1 ⟨rfl, rfl⟩
  rw [show (13970166044103278592 : Int).toNat = 13970166044103278592 from rfl]
  go_wp2_with fail
  with_reducible refine (half_big _ 13970166044103278592 (by decide) (by decide) (by decide)).mono ?_
  rintro e w1 ⟨rfl, rfl⟩
  rw [show ((if ngD 13970166044103278592 = true then (32768 : Int) else 0) + 31744) = 64512 by decide, show decide (szD 13970166044103278592 = 9218868437227405312) = false by decide]
  go_wp2_with fail
  with_reducible refine (float_any _ 13970166044103278592).mono ?_
  rintro e w1 ⟨rfl, rfl⟩
  rw [show (13970166044103278592 : Int).toNat = 13970166044103278592 from rfl]
  go_wp2_with fail
  with_reducible refine (whole_c _).mono ?_
  rintro e w1 ⟨rfl, rfl⟩
  go_wp2_with fail
  with_reducible refine (float_any _ 9223372036854775808).mono ?_
  rintro e w1 ⟨rfl, rfl⟩
  rw [show (9223372036854775808 : Int).toNat = 9223372036854775808 from rfl]
  go_wp2_with fail
  with_reducible refine (rcmp5_any _ 0 9223372036854775808).mono ?_
  rintro e w1 ⟨rfl, rfl⟩
  rw [show cmpD 0 9223372036854775808 = 0 by decide, show (!decide (nanD 0) && !decide (nanD 9223372036854775808)) = true by decide]
  go_wp2_with (with_reducible refine (join_any _ _ _).mono ?_; rintro e w1 ⟨rfl, rfl⟩)
  with_reducible refine (plus_n (n := 2) (cap := 2) (ccells_c w1) len_c two_le).mono ?_
  rintro e w2 ⟨x, y, rfl, hS, hD⟩
  obtain ⟨rfl, rfl⟩ := sum_c hS
  have K := below_trans (bel_new w1 _) (hD.below _)
  clear hS hD
  have q1 : ∀ w, Calls Try.prog 11 #[.float .f64 4607182418800017408] w fun e w' => e = .returned (.int .u64 4607182418800017408) ∧ w' = w := fun w => by
    have := bits_any w 4607182418800017408
    rwa [show oneD 4607182418800017408 = 4607182418800017408 by decide] at this
  have q2 : ∀ w, Calls Try.prog 13 #[.float .f32 1069547520] w fun e w' => e = .returned (.int .u32 1069547520) ∧ w' = w := fun w => by
    have := bits32_any w 1069547520
    rwa [show oneS 1069547520 = 1069547520 by decide] at this
  have q3 : ∀ w, Calls Try.prog 9 #[.int .u64 9223372036854775808] w fun e w' => e = .returned (.float .f64 9223372036854775808) ∧ w' = w := fun w => float_any w 9223372036854775808
  have q4 : ∀ w, Calls Try.prog 28 #[.float .f64 0, .float .f64 9223372036854775808] w fun e w' => e = .returned (.bool false) ∧ w' = w := fun w => by
    have := same_any w 0 9223372036854775808
    rwa [show (oneD 0 == oneD 9223372036854775808) = false by decide] at this
  have q5 : ∀ w, Calls Try.prog 31 #[.complex .f64 4611686018427387904 4613937818241073152, .complex .f64 4611686018427387904 4613937818241073152] w fun e w' => e = .returned (.bool true) ∧ w' = w := fun w => by
    have := samec_any w 4611686018427387904 4613937818241073152 4611686018427387904 4613937818241073152
    rwa [show (oneD 4611686018427387904 == oneD 4611686018427387904 && oneD 4613937818241073152 == oneD 4613937818241073152) = true by decide] at this
  go_wp2_with (first | (with_reducible refine (q1 _).mono ?_; rintro e w3 ⟨rfl, rfl⟩) | (with_reducible refine (q2 _).mono ?_; rintro e w3 ⟨rfl, rfl⟩) | (with_reducible refine (q3 _).mono ?_; rintro e w3 ⟨rfl, rfl⟩) | (with_reducible refine (q4 _).mono ?_; rintro e w3 ⟨rfl, rfl⟩) | (with_reducible refine (q5 _).mono ?_; rintro e w3 ⟨rfl, rfl⟩) | (with_reducible refine (join_any _ _ _).mono ?_; rintro e w3 ⟨rfl, rfl⟩) | (with_reducible refine (fromHalf_c _).mono ?_; rintro e w3 ⟨rfl, rfl⟩))
  go_ret
  exact ⟨rfl, K⟩

end Go.Proofs.Ytkaakhmncmpliaa
