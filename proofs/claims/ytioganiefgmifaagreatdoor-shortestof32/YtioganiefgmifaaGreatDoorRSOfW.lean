/- ShortestOf64, 32, 16: the walks (mk_sof.py) -/
import Derived.Test.YtioganiefgmifaaGreatDoorR19
import Derived.Test.YtioganiefgmifaaGreatDoorR04
import Derived.Laws.StructEq
namespace Go.Proofs.YtioganiefgmifaaGreatDoor
open Go.RowKit
set_option linter.unusedVariables false

theorem ref6_h {w : World} (x s : Int) (ng : Bool) (h0 : 0 ≤ x) (h1 : x < 65536) (hs : x % 32768 = s) (hng : ng = decide (32768 ≤ x)) :
    Calls Tryz.prog 6 #[.int .i64 16, .int .u64 x] w fun e w' => ∃ v ok, e = .returned (.tuple #[v, .bool ok]) ∧ Dg 1024 (-24) 31744 s ng v ok ∧ Below w.heap.size w w' := by
  have hp : (1024 : Int) = p2 10 := by decide
  exact (rdigits6 (F := 1024) (L := -24) (I := 31744) (S := 32768) (fun u => rSize_h u x s h0 (by omega) hs) (fun u => by rw [hng]; exact rNeg_h u x) (fun u => rInf_h u) (fun u z a b => rNumber_h u z a b) hp (by omega) (by omega) (by omega) (by omega) (by omega) (by omega) (by omega)
    (fun z a b => by
      have hF : (0 : Int) < 1024 := by decide
      have := est_top (F := 1024) (L := -24) (s := z) (n := 31) (by decide) (by decide) (by omega) (by omega); omega)
    (fun z a b => by
      have hF : (0 : Int) < 1024 := by decide
      have := est_top (F := 1024) (L := -24) (s := z + 1) (n := 32) (by decide) (by decide) (by omega) (by omega); omega)).mono fun e w' h => h

set_option maxRecDepth 100000 in
set_option maxHeartbeats 8000000 in
theorem of16_walk {w : World} (h : Lays w ∧ Brn w) (x : Int) (x0 : 0 ≤ x) (x1 : x < 65536) :
    Calls Tryz.prog 4 #[.int .u16 x] w fun e w' => e = .returned (.bool true) ∧ Below w.heap.size w w' := by
  obtain ⟨T, U⟩ := h
  obtain ⟨s, hs⟩ : ∃ a, x % 32768 = a := ⟨_, rfl⟩
  have s0 : 0 ≤ s := by omega
  obtain ⟨ng, hng'⟩ : ∃ b, decide (32768 ≤ x) = b := ⟨_, rfl⟩
  have hng := hide hng'
  have HS := hide hs
  clear hng' hs
  go_enter Tryz.func4, Tryz.ntmps4
  go_wp2_with fail
  with_reducible refine (digits_h T U x s ng x0 x1 HS.out hng.out.symm).mono ?_
  rintro r w1 ⟨v, ok, rfl, dg, K1⟩
  obtain ⟨a, tx, q, rfl⟩ := Dg.told (by decide) s0 dg
  have C := cell3_new w1 (.bool a) (.string tx) (.int .i64 q) 24
  have K := below_trans K1 (bel_new w1 (.cells #[.bool a, .string tx, .int .i64 q] 24))
  have HD := hide dg
  clear dg K1
  have y1 : IntKind.u64.wrap x = x := by rw [IntKind.wrap_u64]; omega
  go_wp2_with fail
  generalize w1.alloc (.cells #[.bool a, .string tx, .int .i64 q] 24) = w2 at *
  with_reducible refine (digits_o (T.below K) (U.below K) x s ng x0 x1 HS.out hng.out.symm).mono ?_
  rintro r w3 ⟨v2, ok2, rfl, dg2, K2⟩
  obtain ⟨b, ty, p, rfl⟩ := Dg.told (by decide) s0 dg2
  obtain ⟨hok, hcase⟩ := Dg.unique (by decide) s0 HD.out dg2
  subst hok
  have HCa := hide hcase
  replace C := (C.below K2).below (bel_new w3 (.cells #[.bool b, .string ty, .int .i64 p] 24))
  have D := cell3_new w3 (.bool b) (.string ty) (.int .i64 p) 24
  replace K := below_trans (below_trans K K2) (bel_new w3 (.cells #[.bool b, .string ty, .int .i64 p] 24))
  clear K2 dg2 hcase
  go_wp2_with fail
  generalize w3.alloc (.cells #[.bool b, .string ty, .int .i64 p] 24) = w4 at *
  with_reducible refine (ref6_h (w := w4) x s ng x0 (by omega) HS.out hng.out.symm).mono ?_
  rintro r w5 ⟨v3, is, rfl, dg3, K3⟩
  obtain ⟨b3, tz, p3, rfl⟩ := Dg.told (by decide) s0 dg3
  obtain ⟨hok, hcase⟩ := Dg.unique (by decide) s0 HD.out dg3
  subst hok
  replace C := (C.below K3).below (bel_new w5 (.cells #[.bool b3, .string tz, .int .i64 p3] 24))
  replace D := (D.below K3).below (bel_new w5 (.cells #[.bool b3, .string tz, .int .i64 p3] 24))
  have E : Dc (w5.alloc (.cells #[.bool b3, .string tz, .int .i64 p3] 24)) w5.heap.size (.bool b3) (.string tz) (.int .i64 p3) := heap_alloc_new _ _
  replace K := below_trans (below_trans K K3) (bel_new w5 (.cells #[.bool b3, .string tz, .int .i64 p3] 24))
  clear K3 dg3 HD
  go_upto_region 4 with fail
  generalize w5.alloc (.cells #[.bool b3, .string tz, .int .i64 p3] 24) = w6 at *
  have c0 := C.c0
  have c1 := C.c1
  have c2 := C.c2
  have d0 := D.c0
  have d1 := D.c1
  have d2 := D.c2
  have e0 := E.c0
  have e1 := E.c1
  have e2 := E.c2
  have hc2 := HCa.out
  rcases hcase with ⟨rfl, hi, r1, r2⟩ | ⟨rfl, hi, t0, q0, r1, r2⟩
  · rcases hc2 with ⟨_, _, r3, r4⟩ | ⟨r3, _⟩
    · injection r1 with r1
      injection r2 with r2
      injection r4 with r4
      simp at r1 r2 r4
      obtain ⟨rfl, rfl, rfl⟩ := r1
      obtain ⟨rfl, rfl, rfl⟩ := r2
      obtain ⟨rfl, rfl, rfl⟩ := r4
      clear r3 HCa
      go_wp2_with fail
      refine (lives6 (T.below K) (U.below K)).mono ?_
      rintro r w7 ⟨rfl, K5⟩
      go_wp2
      go_ret
      exact ⟨rfl, below_trans K K5⟩
    · cases r3
  · rcases hc2 with ⟨r3, _⟩ | ⟨_, _, t1, q1, r3, r4⟩
    · cases r3
    · injection r1 with r1
      injection r2 with r2
      simp at r1 r2
      obtain ⟨rfl, rfl, rfl⟩ := r1
      obtain ⟨rfl, rfl, rfl⟩ := r2
      injection r3 with r3
      injection r4 with r4
      simp at r3 r4
      obtain ⟨r5, r6⟩ := r3
      subst r5 r6
      obtain ⟨rfl, rfl, rfl⟩ := r4
      clear HCa
      go_wp2_with fail
      refine (lives6 (T.below K) (U.below K)).mono ?_
      rintro r w7 ⟨rfl, K5⟩
      go_wp2
      go_ret
      exact ⟨rfl, below_trans K K5⟩

theorem ref6_s {w : World} (x s : Int) (ng : Bool) (h0 : 0 ≤ x) (h1 : x < 4294967296) (hs : x % 2147483648 = s) (hng : ng = decide (2147483648 ≤ x)) :
    Calls Tryz.prog 6 #[.int .i64 32, .int .u64 x] w fun e w' => ∃ v ok, e = .returned (.tuple #[v, .bool ok]) ∧ Dg 8388608 (-149) 2139095040 s ng v ok ∧ Below w.heap.size w w' := by
  have hp : (8388608 : Int) = p2 23 := by decide
  exact (rdigits6 (F := 8388608) (L := -149) (I := 2139095040) (S := 2147483648) (fun u => rSize_s u x s h0 (by omega) hs) (fun u => by rw [hng]; exact rNeg_s u x) (fun u => rInf_s u) (fun u z a b => rNumber_s u z a b) hp (by omega) (by omega) (by omega) (by omega) (by omega) (by omega) (by omega)
    (fun z a b => by
      have hF : (0 : Int) < 8388608 := by decide
      have := est_top (F := 8388608) (L := -149) (s := z) (n := 255) (by decide) (by decide) (by omega) (by omega); omega)
    (fun z a b => by
      have hF : (0 : Int) < 8388608 := by decide
      have := est_top (F := 8388608) (L := -149) (s := z + 1) (n := 256) (by decide) (by decide) (by omega) (by omega); omega)).mono fun e w' h => h

set_option maxRecDepth 100000 in
set_option maxHeartbeats 8000000 in
theorem of32_walk {w : World} (h : Lays w ∧ Brn w) (x : Int) (x0 : 0 ≤ x) (x1 : x < 4294967296) :
    Calls Tryz.prog 3 #[.int .u32 x] w fun e w' => e = .returned (.bool true) ∧ Below w.heap.size w w' := by
  obtain ⟨T, U⟩ := h
  obtain ⟨s, hs⟩ : ∃ a, x % 2147483648 = a := ⟨_, rfl⟩
  have s0 : 0 ≤ s := by omega
  obtain ⟨ng, hng'⟩ : ∃ b, decide (2147483648 ≤ x) = b := ⟨_, rfl⟩
  have hng := hide hng'
  have HS := hide hs
  clear hng' hs
  go_enter Tryz.func3, Tryz.ntmps3
  go_wp2_with fail
  with_reducible refine (digits_s T U x s ng x0 x1 HS.out hng.out.symm).mono ?_
  rintro r w1 ⟨v, ok, rfl, dg, K1⟩
  obtain ⟨a, tx, q, rfl⟩ := Dg.told (by decide) s0 dg
  have C := cell3_new w1 (.bool a) (.string tx) (.int .i64 q) 24
  have K := below_trans K1 (bel_new w1 (.cells #[.bool a, .string tx, .int .i64 q] 24))
  have HD := hide dg
  clear dg K1
  go_wp2_with fail
  generalize w1.alloc (.cells #[.bool a, .string tx, .int .i64 q] 24) = w2 at *
  with_reducible refine (ref6_s (w := w2) x s ng x0 (by omega) HS.out hng.out.symm).mono ?_
  rintro r w3 ⟨v2, is, rfl, dg2, K2⟩
  obtain ⟨b, ty, p, rfl⟩ := Dg.told (by decide) s0 dg2
  obtain ⟨hok, hcase⟩ := Dg.unique (by decide) s0 HD.out dg2
  subst hok
  replace C := (C.below K2).below (bel_new w3 (.cells #[.bool b, .string ty, .int .i64 p] 24))
  have D : Dc (w3.alloc (.cells #[.bool b, .string ty, .int .i64 p] 24)) w3.heap.size (.bool b) (.string ty) (.int .i64 p) := heap_alloc_new _ _
  have KC := below_trans (below_trans K K2) (bel_new w3 (.cells #[.bool b, .string ty, .int .i64 p] 24))
  clear K K2 HD dg2
  go_upto_region 3 with fail
  generalize w3.alloc (.cells #[.bool b, .string ty, .int .i64 p] 24) = w4 at *
  have c0 := C.c0
  have c1 := C.c1
  have c2 := C.c2
  have d0 := D.c0
  have d1 := D.c1
  have d2 := D.c2
  rcases hcase with ⟨rfl, hi, e1, e2⟩ | ⟨rfl, hi, t0, q0, e1, e2⟩
  · injection e1 with e1
    injection e2 with e2
    simp at e1 e2
    obtain ⟨rfl, rfl, rfl⟩ := e1
    obtain ⟨rfl, rfl, rfl⟩ := e2
    go_wp2_with fail
    refine (lives6 (T.below KC) (U.below KC)).mono ?_
    rintro r w5 ⟨rfl, K5⟩
    go_wp2
    go_ret
    exact ⟨rfl, below_trans KC K5⟩
  · injection e1 with e1
    injection e2 with e2
    simp at e1 e2
    obtain ⟨rfl, rfl, rfl⟩ := e1
    obtain ⟨rfl, rfl, rfl⟩ := e2
    go_wp2_with fail
    refine (lives6 (T.below KC) (U.below KC)).mono ?_
    rintro r w5 ⟨rfl, K5⟩
    go_wp2
    go_ret
    exact ⟨rfl, below_trans KC K5⟩

theorem ref6_d {w : World} (x s : Int) (ng : Bool) (h0 : 0 ≤ x) (h1 : x < 18446744073709551616) (hs : x % 9223372036854775808 = s) (hng : ng = decide (9223372036854775808 ≤ x)) :
    Calls Tryz.prog 6 #[.int .i64 64, .int .u64 x] w fun e w' => ∃ v ok, e = .returned (.tuple #[v, .bool ok]) ∧ Dg 4503599627370496 (-1074) 9218868437227405312 s ng v ok ∧ Below w.heap.size w w' := by
  have hp : (4503599627370496 : Int) = p2 52 := by decide
  exact (rdigits6 (F := 4503599627370496) (L := -1074) (I := 9218868437227405312) (S := 9223372036854775808) (fun u => rSize_d u x s h0 (by omega) hs) (fun u => by rw [hng]; exact rNeg_d u x) (fun u => rInf_d u) (fun u z a b => rNumber_d u z a b) hp (by omega) (by omega) (by omega) (by omega) (by omega) (by omega) (by omega)
    (fun z a b => by
      have hF : (0 : Int) < 4503599627370496 := by decide
      have := est_top (F := 4503599627370496) (L := -1074) (s := z) (n := 2047) (by decide) (by decide) (by omega) (by omega); omega)
    (fun z a b => by
      have hF : (0 : Int) < 4503599627370496 := by decide
      have := est_top (F := 4503599627370496) (L := -1074) (s := z + 1) (n := 2048) (by decide) (by decide) (by omega) (by omega); omega)).mono fun e w' h => h

end Go.Proofs.YtioganiefgmifaaGreatDoor
