/- EShw -/
import Derived.Test.YthnpndlobhgdhaaGreatDoorS28
import Derived.Test.YthnpndlobhgdhaaGreatDoorS23
namespace Go.Proofs.YthnpndlobhgdhaaGreatDoor
open Go.RowKit
set_option linter.unusedVariables false

theorem td_bare {F L s : Int} {M N : Nat} {t : ByteArray} {P : Int} {ds : List Int} (h : Td F L s M t P ds N) : bareB ds = true := by
  unfold bareB
  have h1 : 0 < ds.length := by rw [h.len]; exact h.n0
  have h2 : ds.all isD = true := List.all_eq_true.2 (fun x hx => by have := h.dg x hx; unfold isD; simp; omega)
  have h3 := h.first
  have h4 := h.last
  rw [← h.len] at h4
  simp [h1, h2, h3, h4]
set_option maxHeartbeats 4000000 in
set_option maxRecDepth 100000 in
theorem show_fin {w : World} (T : Lays w) (U : Brn w) (hT : Lib.TabIs Tryz.prog w "internal/strconv.uint64pow10" .u64 Lib.pow10Tab) (hG : 14 < w.heap.size) {x s : Int} {ng : Bool} (x0 : 0 ≤ x) (x1 : x < 18446744073709551616) (hs : x % 9223372036854775808 = s) (hng : ng = decide (9223372036854775808 ≤ x)) (s0 : 0 < s) (s1 : s < 9218868437227405312) :
    Calls Tryz.prog 9 #[.int .u64 x] w fun e w' => ∃ ds N P, Td 4503599627370496 (-1074) s 16 (strOfNums ds) P ds N ∧ e = .returned (.string (strOfNums (layoutT ng ds P))) ∧ Below w.heap.size w w' := by
  have HCL := hide (class_64 T x s x0 x1 hs)
  obtain ⟨k, hk⟩ : ∃ k, cls 9223372036854775808 4503599627370496 s = k := ⟨_, rfl⟩
  have k5 : (k == 5) = false ∧ (k == 4) = false ∧ (k == 1) = false := by
    rw [← hk]
    unfold cls
    refine ⟨beq_eq_false_iff_ne.2 ?_, beq_eq_false_iff_ne.2 ?_, beq_eq_false_iff_ne.2 ?_⟩ <;> (repeat' split) <;> omega
  obtain ⟨k5, k4, k1⟩ := k5
  rw [hk] at HCL
  have HD := hide (fun (W : World) (TW : Lays W) (UW : Brn W) => digits_d (w := W) TW UW x s ng x0 x1 hs hng)
  clear hk hs hng
  go_enter Tryz.func9, Tryz.ntmps9
  go_wp2_with fail
  refine HCL.out.mono ?_
  rintro e w1 ⟨rfl, b1⟩
  clear HCL
  go_wp2_with fail
  refine (HD.out _ (T.below b1) (U.below b1)).mono ?_
  clear HD
  rintro r w2 ⟨v, ok, rfl, dg, b2⟩
  obtain ⟨rfl, p, kk, c, sh, h17, rfl⟩ := dg.2.2 s0 s1
  obtain ⟨ds, N, td⟩ := td_of (M := 16) fr_d s0 (by decide) (by decide) (by have := est_top (F := 4503599627370496) (L := -1074) (s := s) (n := 2047) (by decide) (by decide) (by omega) (by omega); omega) (by decide) (by decide) sh h17
  have htx := td.t
  obtain ⟨P, hP⟩ : ∃ P, pt kk c p = P := ⟨_, rfl⟩
  rw [hP] at td ⊢
  have td2 : Td 4503599627370496 (-1074) s 16 (strOfNums ds) P ds N := { td with t := rfl }
  have hTX := htx
  obtain ⟨tx, htx2⟩ : ∃ tx, strOfNums (txt kk c) = tx := ⟨_, rfl⟩
  rw [htx2] at hTX ⊢
  have HTD := hide td2
  have b12 := below_trans b1 b2
  have C := cell3_new w2 (.bool ng) (.string tx) (.int .i64 P) 23
  have K := below_trans b12 (bel_new w2 (.cells #[.bool ng, .string tx, .int .i64 P] 23))
  have HPT := hide ((show Pt w.heap.size w from ⟨hG, hT⟩).below K)
  have HY := hide (fun (W : World) (h1 : Lib.TabIs Tryz.prog W "internal/strconv.uint64pow10" .u64 Lib.pow10Tab) (h2 : 14 < W.heap.size) => layout_yes (w := W) (ng := ng) (s := tx) (es := ds) (n := P) (by have := td2.p0; omega) (by have := td2.p1; omega) (fun x hx => by have := td2.dg x hx; omega) hTX (by have := td2.len; have := td2.n2; omega) (td_bare td2) h1 h2)
  have c0 := C.c0; have c1 := C.c1; have c2 := C.c2
  have ks := K.size
  clear b1 b2 b12 C dg sh td td2 htx hTX htx2 hP hT
  go_wp2_with fail
  refine (HY.out _ HPT.out.2 (by simp at ks ⊢; omega)).mono ?_
  rintro e w3 ⟨rfl, b3⟩
  have KK := below_trans K b3
  clear K b3 HY
  go_wp2
  go_ret
  exact ⟨ds, N, P, HTD.out, rfl, KK⟩

/-- no number, infinite, nought -/
theorem show_zero {w : World} (T : Lays w) {x : Int} (x0 : 0 ≤ x) (x1 : x < 18446744073709551616) (hs : x % 9223372036854775808 = 0) :
    Calls Tryz.prog 9 #[.int .u64 x] w fun e w' => e = .returned (.string ⟨#[48]⟩) ∧ Below w.heap.size w w' := by
  have H := hide (class_64 T x 0 x0 x1 hs)
  rw [show cls 9223372036854775808 4503599627370496 0 = 1 by decide] at H
  clear hs
  go_enter Tryz.func9, Tryz.ntmps9
  go_wp2_with fail
  refine H.out.mono ?_
  rintro e w1 ⟨rfl, b1⟩
  go_wp2
  go_ret
  exact ⟨rfl, b1⟩
theorem show_nan {w : World} (T : Lays w) {x : Int} (x0 : 0 ≤ x) (x1 : x < 18446744073709551616) (hs : 9218868437227405312 < x % 9223372036854775808) :
    Calls Tryz.prog 9 #[.int .u64 x] w fun e w' => e = .returned (.string ⟨#[78, 97, 78]⟩) ∧ Below w.heap.size w w' := by
  have H := hide (class_64 T x _ x0 x1 rfl)
  rw [show cls 9223372036854775808 4503599627370496 (x % 9223372036854775808) = 5 by unfold cls; rw [if_pos (by omega)]] at H
  clear hs
  go_enter Tryz.func9, Tryz.ntmps9
  go_wp2_with fail
  refine H.out.mono ?_
  rintro e w1 ⟨rfl, b1⟩
  go_wp2
  go_ret
  exact ⟨rfl, b1⟩
theorem show_inf {w : World} (T : Lays w) : Calls Tryz.prog 9 #[.int .u64 9218868437227405312] w fun e w' => e = .returned (.string ⟨#[73, 110, 102, 105, 110, 105, 116, 121]⟩) ∧ Below w.heap.size w w' := by
  have H := hide (class_64 T 9218868437227405312 9218868437227405312 (by decide) (by decide) (by decide))
  rw [show cls 9223372036854775808 4503599627370496 9218868437227405312 = 4 by decide] at H
  go_enter Tryz.func9, Tryz.ntmps9
  go_wp2_with fail
  refine H.out.mono ?_
  rintro e w1 ⟨rfl, b1⟩
  go_wp2
  go_ret
  exact ⟨rfl, b1⟩
theorem show_ninf {w : World} (T : Lays w) : Calls Tryz.prog 9 #[.int .u64 18442240474082181120] w fun e w' => e = .returned (.string ⟨#[45, 73, 110, 102, 105, 110, 105, 116, 121]⟩) ∧ Below w.heap.size w w' := by
  have H := hide (class_64 T 18442240474082181120 9218868437227405312 (by decide) (by decide) (by decide))
  rw [show cls 9223372036854775808 4503599627370496 9218868437227405312 = 4 by decide] at H
  go_enter Tryz.func9, Tryz.ntmps9
  go_wp2_with fail
  refine H.out.mono ?_
  rintro e w1 ⟨rfl, b1⟩
  go_wp2
  go_ret
  exact ⟨rfl, b1⟩

end Go.Proofs.YthnpndlobhgdhaaGreatDoor
