/- TopShown: the walk -/
import Derived.Test.YtfnfnkakaggmbabGreatDoorQECl
namespace Go.Proofs.YtfnfnkakaggmbabGreatDoor
open Go.RowKit
set_option linter.unusedVariables false

theorem cls_kind {s : Int} (s0 : 0 ≤ s) : (s = 0 ∧ cls 9223372036854775808 4503599627370496 s = 1) ∨ (s ≠ 0 ∧ (cls 9223372036854775808 4503599627370496 s == 1) = false) := by
  by_cases h : s = 0
  · left; subst h; exact ⟨rfl, by decide⟩
  · right
    refine ⟨h, beq_eq_false_iff_ne.2 ?_⟩
    unfold cls
    repeat' split
    all_goals omega
set_option maxHeartbeats 16000000 in
set_option maxRecDepth 100000 in
theorem tshown_walk {w : World} (E : Ev w) {x : Int} (x0 : 0 ≤ x) (x1 : x < 18446744073709551616) :
    Calls Tryz.prog 4 #[.int .u64 x] w fun e w' => e = .returned (.bool true) ∧ Below w.heap.size w w' := by
  have HX := hide (And.intro x0 x1)
  obtain ⟨s, hs⟩ : ∃ s, x % 9223372036854775808 = s := ⟨_, rfl⟩
  obtain ⟨ng, hng⟩ : ∃ ng, ng = decide (9223372036854775808 ≤ x) := ⟨_, rfl⟩
  have s0 : 0 ≤ s := by omega
  have HS := hide (And.intro hs hng)
  have HXS := hide (show s + b2i ng * 9223372036854775808 = x by
    rw [hng]
    by_cases g : 9223372036854775808 ≤ x
    · rw [decide_eq_true g, show b2i true = 1 from rfl]; omega
    · rw [decide_eq_false g, show b2i false = 0 from rfl]; omega)
  obtain ⟨cl, hcl⟩ : ∃ cl, cls 9223372036854775808 4503599627370496 s = cl := ⟨_, rfl⟩
  have HK := cls_kind s0
  rw [hcl] at HK
  have HCL := hide hcl
  clear hs hng x0 x1 hcl
  go_enter Tryz.func4, Tryz.ntmps4
  go_wp2_with fail
  refine (known08_any E.T E.U).mono ?_
  rintro e w0 ⟨rfl, b0⟩
  have E0 := E.below b0
  have K := b0
  clear b0 E
  go_wp2_with fail
  refine (digits_d E0.T E0.U x s ng HX.out.1 HX.out.2 HS.out.1 HS.out.2).mono ?_
  rintro e w1 ⟨v, ok, rfl, dgs, b1⟩
  have E1 := E0.below b1
  replace K := below_trans K b1
  clear b1 E0
  by_cases hi : 9218868437227405312 ≤ s
  · obtain ⟨rfl, rfl⟩ := dgs.1 hi
    have HI := hide hi
    have hk1 : (cl == 1) = false := by
      rcases HK with ⟨h, _⟩ | ⟨_, h⟩
      · omega
      · exact h
    have KA := bel_new w1 (.cells #[.bool false, .string (strOfNums []), .int .i64 0] 32)
    have E2 := E1.below KA
    replace K := below_trans K KA
    clear dgs hi KA E1 HK
    go_wp2_with fail
    refine (class_64 E2.T x s HX.out.1 HX.out.2 HS.out.1).mono ?_
    rintro e w3 ⟨rfl, b3⟩
    rw [HCL.out]
    have E3 := E2.below b3
    replace K := below_trans K b3
    clear b3 E2
    have HSH : Hid (Calls Tryz.prog 10 #[.int .u64 x] w3 fun e w' => (∃ t, e = .returned (.string t)) ∧ Below w3.heap.size w3 w') := hide (by
      by_cases h1 : s = 9218868437227405312
      · by_cases h2 : x < 9223372036854775808
        · have : x = 9218868437227405312 := by have := HS.out.1; have := HX.out; omega
          subst this
          exact (show_inf E3.T).mono fun e w' h => ⟨⟨_, h.1⟩, h.2⟩
        · have : x = 18442240474082181120 := by have := HS.out.1; have := HX.out; omega
          subst this
          exact (show_ninf E3.T).mono fun e w' h => ⟨⟨_, h.1⟩, h.2⟩
      · exact (show_nan E3.T HX.out.1 HX.out.2 (by have := HS.out.1; have := HI.out; omega)).mono fun e w' h => ⟨⟨_, h.1⟩, h.2⟩)
    go_wp2_with fail
    refine HSH.out.mono ?_
    rintro e w4 ⟨⟨t, rfl⟩, b4⟩
    replace K := below_trans K b4
    have hk2 : (cl != 1) = true := by simp [bne, hk1]
    clear b4 E3 HSH
    go_wp2
    go_ret
    exact ⟨rfl, K⟩
  have HI := hide (show s < 9218868437227405312 by omega)
  clear hi
  by_cases hz : s = 0
  · obtain ⟨rfl, rfl⟩ := dgs.2.1 hz
    obtain rfl : cl = 1 := by
      rcases HK with ⟨_, h⟩ | ⟨h, _⟩
      · exact h
      · exact absurd hz h
    have HZ := hide hz
    have KA := bel_new w1 (.cells #[.bool ng, .string (strOfNums []), .int .i64 0] 32)
    have E2 := E1.below KA
    replace K := below_trans K KA
    clear dgs hz KA E1 HK
    go_wp2_with fail
    refine (class_64 E2.T x s HX.out.1 HX.out.2 HS.out.1).mono ?_
    rintro e w3 ⟨rfl, b3⟩
    rw [HCL.out]
    have E3 := E2.below b3
    replace K := below_trans K b3
    clear b3 E2
    go_wp2_with fail
    refine (show_zero E3.T HX.out.1 HX.out.2 (by rw [HS.out.1, HZ.out])).mono ?_
    rintro e w4 ⟨rfl, b4⟩
    replace K := below_trans K b4
    clear b4 E3
    go_wp2
    go_ret
    exact ⟨rfl, K⟩
  obtain ⟨rfl, p, k, c, sh, h17, rfl⟩ := dgs.2.2 (by omega) HI.out
  have sp : 0 < s := by omega
  have hk1 : (cl == 1) = false := by
    rcases HK with ⟨h, _⟩ | ⟨_, h⟩
    · omega
    · exact h
  obtain ⟨N, td⟩ := td_64 sp HI.out sh h17
  have HSH := hide (And.intro sh h17)
  have HSN := hide (shn_of ng sp HI.out sh h17)
  obtain ⟨tx, htx⟩ : ∃ tx, strOfNums (txt k c) = tx := ⟨_, rfl⟩
  have hsz : tx.size = (txt k c).length := by rw [← htx, strOfNums_size]
  obtain ⟨n, hn⟩ : ∃ n, (txt k c).length = n := ⟨_, rfl⟩
  have n0 : 0 < n := by rw [← hn, td.len]; exact td.n0
  have n17 : n ≤ 17 := by rw [← hn, td.len]; exact td.n2
  have HN := hide hn
  rw [hn] at hsz
  obtain ⟨P, hP⟩ : ∃ P, pt k c p = P := ⟨_, rfl⟩
  obtain ⟨tt, htt⟩ : ∃ tt, strOfNums (layoutT ng (txt k c) (pt k c p)) = tt := ⟨_, rfl⟩
  have HTT := hide htt
  rw [hP, htx]
  have KA := bel_new w1 (.cells #[.bool ng, .string tx, .int .i64 P] 32)
  have C := cell3_new w1 (.bool ng) (.string tx) (.int .i64 P) 32
  have E2 := E1.below KA
  replace K := below_trans K KA
  clear KA E1 dgs sh h17 td htx hn hP htt hz HK
  go_wp2_with fail
  generalize w1.alloc (.cells #[.bool ng, .string tx, .int .i64 P] 32) = w2 at *
  obtain ⟨b, hb⟩ : ∃ b, b = w1.heap.size := ⟨_, rfl⟩
  rw [← hb] at C ⊢
  clear hb
  refine (class_64 E2.T x s HX.out.1 HX.out.2 HS.out.1).mono ?_
  rintro e w3 ⟨rfl, b3⟩
  rw [HCL.out]
  have E3 := E2.below b3
  replace C := C.below b3
  replace K := below_trans K b3
  clear b3 E2
  go_wp2_with fail
  refine (show_sh E3.T E3.U E3.P E3.g HX.out.1 HX.out.2 HS.out.1 HS.out.2 sp HI.out).mono ?_
  rintro e w4 ⟨p', k', c', sh', h17', rfl, b4⟩
  obtain ⟨rfl, rfl, rfl⟩ := Sh.unique (gG_pos _) HSH.out.1 sh'
  rw [HTT.out]
  have E4 := E3.below b4
  replace C := C.below b4
  replace K := below_trans K b4
  clear b4 E3 sh' h17'
  go_wp2_with fail
  refine (read_shn E4 HSN.out (by omega) HI.out HTT.out.symm).mono ?_
  rintro e w5 ⟨rfl, b5⟩
  rw [HXS.out]
  have E5 := E4.below b5
  replace C := C.below b5
  replace K := below_trans K b5
  clear b5 E4
  go_wp2_with fail
  refine (exact_d E5.T E5.U HX.out.1 HX.out.2 HS.out.1 HS.out.2).mono ?_
  rintro e w6 ⟨b6, ⟨h, _⟩ | ⟨_, es, pq, rfl, hex⟩⟩
  · exact absurd HI.out (by omega)
  have E6 := E5.below b6
  replace C := C.below b6
  replace K := below_trans K b6
  clear b6 E5
  obtain ⟨te, hte⟩ : ∃ te, strOfNums es = te := ⟨_, rfl⟩
  rw [hte]
  have HEX := hide hex
  have HTE := hide hte
  have hez : te.size = es.length := by rw [← hte, strOfNums_size]
  have CE := cell3_new w6 (.bool ng) (.string te) (.int .i64 pq) 32
  have KE := bel_new w6 (.cells #[.bool ng, .string te, .int .i64 pq] 32)
  have E7 := E6.below KE
  replace C := C.below KE
  replace K := below_trans K KE
  clear hex hte KE E6
  go_upto_region 12 with fail
  generalize w6.alloc (.cells #[.bool ng, .string te, .int .i64 pq] 32) = w7 at *
  obtain ⟨be, hbe⟩ : ∃ be, be = w6.heap.size := ⟨_, rfl⟩
  rw [← hbe] at CE ⊢
  clear hbe
  have c1 := C.c1
  have d0 := CE.c0; have d1 := CE.c1; have d2 := CE.c2
  by_cases h1 : n = 1
  · subst h1
    clear C CE E7
    go_wp2
    go_ret
    exact ⟨rfl, K⟩
  obtain ⟨k2, hlen, _, _⟩ := txt_less (F := 4503599627370496) (L := -1074) (by decide) sp (by decide) HSH.out.1 HSH.out.2 (by rw [HN.out]; exact h1)
  obtain ⟨hNm, hl1152, hp0, hp1, _, hpos, heq⟩ := HEX.out
  have hD : Dgt es := hNm.1
  have hfst : Nt.lb es 0 ≠ 48 := hNm.2.1 (hpos sp)
  have hpt := exv_pt (F := 4503599627370496) (L := -1074) hD (by decide) sp heq (by decide)
  obtain ⟨_, hkl⟩ := exv_more (F := 4503599627370496) (L := -1074) (by decide) sp (by decide) (by decide) HSH.out.1 HSH.out.2 hD (hpos sp) hfst hpt heq
  obtain ⟨m, hm⟩ : ∃ m, n - 1 = m := ⟨_, rfl⟩
  have hnk : n = k := by rw [← HN.out]; exact hlen
  have hmk : m = k - 1 := by omega
  have HCLO := hide (closer_any (x := x) E7.T (es := es) (s := te) (ng := ng) (P := pq) (k := m) hD HTE.out.symm (by omega) (by omega) (by omega) (by omega) (by omega) (fun X r hX hv e => by
    rw [hmk] at hX hv
    have := exv_fewer (F := 4503599627370496) (L := -1074) (I := 9218868437227405312) (by decide) sp HI.out (by decide) (by decide) HSH.out.1 HSH.out.2 k2 hD (hpos sp) hfst hpt heq hX hv
    rw [← HXS.out] at e
    omega))
  have e1n : ((n : Int) == 1) = false := beq_eq_false_iff_ne.2 (by omega)
  have w1m : IntKind.i64.wrap ((n : Int) - 1) = (m : Int) := by rw [IntKind.wrap_i64]; omega
  have w2m : (n : Int) - 1 = (m : Int) := by omega
  have lm : (m : Int) < (te.size : Int) := by omega
  have hmin : min (m : Int) (te.size : Int) = (m : Int) := by omega
  clear hNm hl1152 hp0 hp1 hpos heq hD hfst hpt hkl hlen k2 hnk hmk hm h1 hez C CE
  go_wp2_with fail
  refine HCLO.out.mono ?_
  rintro e w8 ⟨rfl, b8⟩
  replace K := below_trans K b8
  clear b8 E7 HCLO
  go_wp2
  go_ret
  exact ⟨rfl, K⟩

end Go.Proofs.YtfnfnkakaggmbabGreatDoor
