/- EcmaFewest: the walk -/
import Derived.Test.YtfnfnkakaggmbaaGreatDoorQEBk
import Derived.Laws.BytesArg
namespace Go.Proofs.YtfnfnkakaggmbaaGreatDoor
open Go.RowKit
set_option linter.unusedVariables false

/-- bytes that lie in a block, and may be written -/
def Sgm (w : World) (g : Nat) (zs : List Int) : Prop := ∀ i, i < zs.length → w.cell? ⟨g, i, none⟩ = some (.int .u8 (Nt.lb zs i)) ∧ w.frozen? ⟨g, i, none⟩ = false
theorem Sgm.set {w : World} {g : Nat} {zs : List Int} (h : Sgm w g zs) {i : Nat} (hi : i < zs.length) (v : Int) : Sgm (w.setCell ⟨g, i, none⟩ (.int .u8 v)) g (zs.set i v) := by
  intro j hj
  rw [List.length_set] at hj
  obtain ⟨h1, h2⟩ := h j hj
  refine ⟨?_, by rw [World.frozen?_setCell]; exact h2⟩
  by_cases e : i = j
  · subst e
    rw [World.cell?_setCell_same' _ _ _ (by rw [h1]; rfl)]
    simp [Nt.lb, hi]
  · have hne : (⟨g, j, none⟩ : Addr) ≠ ⟨g, i, none⟩ := fun h => e (by injection h with _ h2; exact h2.symm)
    rw [World.cell?_setCell_other _ _ _ _ hne.symm, h1]
    simp [Nt.lb, e]
theorem Sgm.below {w w' : World} {g : Nat} {zs : List Int} (h : Sgm w g zs) (hb : Below w.heap.size w w') (hg : g < w.heap.size) : Sgm w' g zs := fun i hi => by
  obtain ⟨h1, h2⟩ := h i hi
  refine ⟨(hb.cell (p := ⟨g, i, none⟩) hg).trans h1, ?_⟩
  simp only [World.frozen?] at h2 ⊢
  rw [hb.block g hg]; exact h2
theorem sgm_bytes {w : World} {es : List Int} (ho : Byt es) (C : Nat) (x : Nat × Nat) (hx : es.length ≤ x.1) : Sgm (w.drew.alloc (.cells (bytesRow (strOfNums es) C) 5 x)) w.heap.size es := by
  intro i hi
  have hb : (w.drew.alloc (.cells (bytesRow (strOfNums es) C) 5 x)).heap[w.heap.size]? = some (.cells (bytesRow (strOfNums es) C) 5 x) := by
    show (w.heap.push _)[w.heap.size]? = _
    simp
  have e : Nt.lb es i = es[i] := lb_get hi
  have hv := ho es[i] (List.getElem_mem hi)
  rw [e]
  constructor
  · simp only [World.cell?, hb]
    simp [bytesRow, strOfNums, hi, Array.getElem?_append]
    omega
  · simp only [World.frozen?, hb]
    simp
    omega
theorem dg_bump {L : List Int} (h : 0 < L.length) : dg (L.set (L.length - 1) (Nt.lb L (L.length - 1) + 1)) = dg L + 1 := by
  obtain ⟨A, b, rfl⟩ : ∃ A b, L = A ++ [b] := ⟨L.dropLast, L.getLast (List.length_pos_iff.1 h), (List.dropLast_concat_getLast _).symm⟩
  have e1 : (A ++ [b]).length - 1 = A.length := by simp
  have e2 : Nt.lb (A ++ [b]) A.length = b := by simp [Nt.lb]
  rw [e1, e2, List.set_append_right _ _ (Nat.le_refl _), Nat.sub_self, List.set_cons_zero, dg_snoc, dg_snoc]
  omega
/-- the digits that are told, one fewer -/
theorem txt_less {F L s p c : Int} {k : Nat} (hF : 0 < F) (h0 : 0 < s) (hL : -1074 ≤ L) (h : ShP F L s p k c) (h17 : k ≤ 17) (hn : (txt k c).length ≠ 1) : 2 ≤ k ∧ (txt k c).length = k ∧ pt k c p = p ∧ dg ((txt k c).take (k - 1)) = c / 10 := by
  have hp := point_low hF h0 hL h.hi
  have k1 := h.k1
  rcases h.cases (gG_pos L) (by omega) with ⟨e, _⟩ | ⟨e, c0, c1, _⟩
  · exfalso; apply hn; unfold txt; rw [if_pos e]; rfl
  · have et : txt k c = dl k c := by unfold txt; rw [if_neg e]
    have hl : (txt k c).length = k := by rw [et, dl_len]
    refine ⟨by omega, hl, by unfold pt; rw [if_neg e], ?_⟩
    obtain ⟨m, rfl⟩ : ∃ m, k = m + 1 := ⟨k - 1, by omega⟩
    rw [et, dl, Nat.add_sub_cancel, List.take_append_of_le_length (by rw [dl_len]; exact Nat.le_refl _), List.take_of_length_le (by rw [dl_len]; exact Nat.le_refl _), ← bv_dg]
    have t0 := ten_pos m
    rw [Int.pow_succ] at c1
    refine bv_dl m (c / 10) ?_ ?_
    · have := ten_pos (m + 1 - 1); omega
    · omega
set_option maxHeartbeats 16000000 in
set_option maxRecDepth 100000 in
theorem efew_walk {w : World} {a : Nat → Addr} (E : Ew w a) {x : Int} (x0 : 0 ≤ x) (x1 : x < 18446744073709551616) :
    Calls Tryz.prog 7 #[.int .u64 x] w fun e w' => e = .returned (.bool true) ∧ Below w.heap.size w w' := by
  have HX := hide (And.intro x0 x1)
  obtain ⟨s, hs⟩ : ∃ s, x % 9223372036854775808 = s := ⟨_, rfl⟩
  obtain ⟨ng, hng⟩ : ∃ ng, ng = decide (9223372036854775808 ≤ x) := ⟨_, rfl⟩
  have s0 : 0 ≤ s := by omega
  have HD := hide (digits_d E.T E.U x s ng x0 x1 hs hng)
  have HS := hide (And.intro hs hng)
  have HXS := hide (show s + b2i ng * 9223372036854775808 = x by
    rw [hng]
    by_cases g : 9223372036854775808 ≤ x
    · rw [decide_eq_true g, show b2i true = 1 from rfl]; omega
    · rw [decide_eq_false g, show b2i false = 0 from rfl]; omega)
  clear hs hng x0 x1
  go_enter Tryz.func7, Tryz.ntmps7
  go_wp2_with fail
  refine HD.out.mono ?_
  clear HD
  rintro e w1 ⟨v, ok, rfl, dgs, b1⟩
  have E1 := E.below b1
  have K := b1
  clear b1 E
  by_cases hi : 9218868437227405312 ≤ s
  · obtain ⟨rfl, rfl⟩ := dgs.1 hi
    rw [show strOfNums [] = (⟨#[]⟩ : ByteArray) from rfl]
    have HI := hide hi
    clear dgs hi
    have KA := bel_new w1 (.cells #[.bool false, .string ⟨#[]⟩, .int .i64 0] 23)
    have E2 := E1.below KA
    replace K := below_trans K KA
    clear KA E1
    go_wp2_with fail
    refine (finite_any E2.T HX.out.1 HX.out.2).mono ?_
    rintro e w3 ⟨rfl, b3⟩
    have E3 := E2.below b3
    replace K := below_trans K b3
    clear b3 E2
    rw [decide_eq_false (by have := HS.out.1; have := HI.out; omega)]
    go_wp2_with fail
    refine (finite_any E3.T HX.out.1 HX.out.2).mono ?_
    rintro e w4 ⟨rfl, b4⟩
    have E4 := E3.below b4
    replace K := below_trans K b4
    clear b4 E3
    rw [decide_eq_false (by have := HS.out.1; have := HI.out; omega)]
    go_wp2_with fail
    refine (lives8_any E4).mono ?_
    rintro e wl ⟨rfl, bl⟩
    replace K := below_trans K bl
    clear bl E4
    go_wp2
    go_ret
    exact ⟨rfl, K⟩
  have HI := hide (show s < 9218868437227405312 by omega)
  clear hi
  by_cases hz : s = 0
  · obtain ⟨rfl, rfl⟩ := dgs.2.1 hz
    rw [show strOfNums [] = (⟨#[]⟩ : ByteArray) from rfl]
    clear dgs hz
    have KA := bel_new w1 (.cells #[.bool ng, .string ⟨#[]⟩, .int .i64 0] 23)
    have C := cell3_new w1 (.bool ng) (.string ⟨#[]⟩) (.int .i64 0) 23
    have E2 := E1.below KA
    replace K := below_trans K KA
    clear KA E1
    go_wp2_with fail
    refine (finite_any E2.T HX.out.1 HX.out.2).mono ?_
    rintro e w3 ⟨rfl, b3⟩
    have E3 := E2.below b3
    have C3 := C.below b3
    have c1 := C3.c1
    replace K := below_trans K b3
    clear b3 E2 C C3
    rw [decide_eq_true (by have := HS.out.1; have := HI.out; omega)]
    go_wp2_with fail
    refine (finite_any E3.T HX.out.1 HX.out.2).mono ?_
    rintro e w4 ⟨rfl, b4⟩
    have E4 := E3.below b4
    replace K := below_trans K b4
    clear b4 E3
    rw [decide_eq_true (by have := HS.out.1; have := HI.out; omega)]
    go_wp2_with fail
    refine (lives8_any E4).mono ?_
    rintro e wl ⟨rfl, bl⟩
    replace K := below_trans K bl
    clear bl E4
    go_wp2
    go_ret
    exact ⟨rfl, K⟩
  obtain ⟨rfl, p, k, c, sh, h17, rfl⟩ := dgs.2.2 (by omega) HI.out
  have sp : 0 < s := by omega
  obtain ⟨N, td⟩ := td_64 sp HI.out sh h17
  have HTD := hide td
  have HSH := hide (And.intro sh h17)
  have HSN := hide (shn_of ng sp HI.out sh h17)
  obtain ⟨tx, htx⟩ : ∃ tx, strOfNums (txt k c) = tx := ⟨_, rfl⟩
  have HTX := hide htx
  have hsz : tx.size = (txt k c).length := by rw [← htx, strOfNums_size]
  obtain ⟨n, hn⟩ : ∃ n, (txt k c).length = n := ⟨_, rfl⟩
  have n0 : 0 < n := by rw [← hn, td.len]; exact td.n0
  have n17 : n ≤ 17 := by rw [← hn, td.len]; exact td.n2
  have HN := hide hn
  rw [hn] at hsz
  obtain ⟨P, hP⟩ : ∃ P, pt k c p = P := ⟨_, rfl⟩
  have HP := hide hP
  have p0 := td.p0
  have p1 := td.p1
  rw [hP] at p0 p1
  obtain ⟨tt, htt⟩ : ∃ tt, strOfNums (layoutT ng (txt k c) (pt k c p)) = tt := ⟨_, rfl⟩
  have HTT := hide htt
  have HLY := hide (fun (W : World) (h1 : Lib.TabIs Tryz.prog W "internal/strconv.uint64pow10" .u64 Lib.pow10Tab) (h2 : 15 < W.heap.size) => layout_yes (w := W) (ng := ng) (s := tx) (es := txt k c) (n := pt k c p) (by rw [hP]; omega) (by rw [hP]; omega) (txt_dig k c).byt htx.symm (by rw [hn]; omega) (td_bare td) h1 h2)
  rw [hP] at HLY htt
  rw [htt] at HLY
  rw [hP, htx]
  have e0 : tx.toList.isEmpty = false := txt_full (by omega)
  have KA := bel_new w1 (.cells #[.bool ng, .string tx, .int .i64 P] 23)
  have C := cell3_new w1 (.bool ng) (.string tx) (.int .i64 P) 23
  have E2 := E1.below KA
  replace K := below_trans K KA
  clear KA E1 dgs sh h17 td htx hn hP htt hz p0 p1
  go_wp2_with fail
  generalize w1.alloc (.cells #[.bool ng, .string tx, .int .i64 P] 23) = w2 at *
  obtain ⟨b, hb⟩ : ∃ b, b = w1.heap.size := ⟨_, rfl⟩
  rw [← hb] at C ⊢
  clear hb
  refine (finite_any E2.T HX.out.1 HX.out.2).mono ?_
  rintro e w3 ⟨rfl, b3⟩
  have E3 := E2.below b3
  replace C := C.below b3
  replace K := below_trans K b3
  clear b3 E2
  rw [decide_eq_true (by have := HS.out.1; have := HI.out; omega)]
  have c0 := C.c0; have c1 := C.c1; have c2 := C.c2
  go_wp2_with fail
  refine (HLY.out _ E3.P E3.g).mono ?_
  rintro e w4 ⟨rfl, b4⟩
  have E4 := E3.below b4
  replace C := C.below b4
  replace K := below_trans K b4
  clear b4 E3 HLY c0 c1 c2
  go_wp2_with fail
  refine (read_shn E4.ev2 HSN.out (by omega) HI.out HTT.out.symm).mono ?_
  rintro e w5 ⟨rfl, b5⟩
  rw [HXS.out]
  have E5 := E4.below b5
  replace C := C.below b5
  replace K := below_trans K b5
  clear b5 E4
  go_wp2_with fail
  refine (show_sh E5.T E5.U E5.P E5.g HX.out.1 HX.out.2 HS.out.1 HS.out.2 sp HI.out).mono ?_
  rintro e w6 ⟨p', k', c', sh', h17', rfl, b6⟩
  obtain ⟨rfl, rfl, rfl⟩ := Sh.unique (gG_pos _) HSH.out.1 sh'
  rw [HTT.out]
  have E6 := E5.below b6
  replace C := C.below b6
  replace K := below_trans K b6
  clear b6 E5 sh' h17'
  go_wp2_with fail
  refine code_nil.mono ?_
  rintro e w7 ⟨rfl, rfl⟩
  have c1 := C.c1
  by_cases h1 : n = 1
  · subst h1
    go_wp2_with fail
    refine (lives8_any E6).mono ?_
    rintro e wl ⟨rfl, bl⟩
    replace K := below_trans K bl
    clear bl E6
    go_wp2
    go_ret
    exact ⟨rfl, K⟩
  obtain ⟨k2, hlen, hpt, hdg⟩ := txt_less (F := 4503599627370496) (L := -1074) (by decide) sp (by decide) HSH.out.1 HSH.out.2 (by rw [HN.out]; exact h1)
  have hnk : n = k := by rw [← HN.out]; exact hlen
  have e1n : ((n : Int) == 1) = false := beq_eq_false_iff_ne.2 (by omega)
  obtain ⟨m, hm⟩ : ∃ m, n - 1 = m := ⟨_, rfl⟩
  obtain ⟨q, hq⟩ : ∃ q, n - 2 = q := ⟨_, rfl⟩
  have hm0 : m < n := by omega
  have hqm : q < m := by omega
  have hds : dg ((txt k c).take m) = c / 10 := by rw [← hm, hnk]; exact hdg
  have hdl : ((txt k c).take m).length = m := by rw [List.length_take, HN.out]; omega
  have hdD : Dgt ((txt k c).take m) := (txt_dig k c).take m
  have hPm : P - m = p - (k - 1 : Nat) := by rw [← HP.out, hpt, ← hm, hnk]
  have HFEW := hide (fun (r X : Int) (hX : X = c / 10 ∨ X = c / 10 + 1) (hv : DV 4503599627370496 (-1074) 9218868437227405312 X (P - m) r) => sh_fewer (I := 9218868437227405312) (by decide) (by decide) (by decide) sp HI.out HSH.out.1 HSH.out.2 k2 hX (by rw [← hPm]; exact hv))
  have w1m : IntKind.i64.wrap ((n : Int) - 1) = (m : Int) := by rw [IntKind.wrap_i64]; omega
  have w2m : (n : Int) - 1 = (m : Int) := by omega
  have w1q : IntKind.i64.wrap ((n : Int) - 2) = (q : Int) := by rw [IntKind.wrap_i64]; omega
  have w2q : (n : Int) - 2 = (q : Int) := by omega
  have xcut : tx.extract 0 m = strOfNums ((txt k c).take m) := by rw [← HTX.out, txt_cut, List.drop_zero]
  have mle' : m ≤ tx.size := by omega
  obtain ⟨tl, htl⟩ : ∃ tl, strOfNums ((txt k c).take m) = tl := ⟨_, rfl⟩
  rw [htl] at xcut
  have htz : tl.size = m := by rw [← htl, strOfNums_size, hdl]
  have hcb := run_bytes_of_string (P := Tryz.prog) w7 9 41 5 tl Tryz.underlying9 Tryz.underlying41 Tryz.underlying5
  obtain ⟨Cc, hC⟩ : ∃ C, C = grownCap w7 tl.size 0 5 := ⟨_, rfl⟩
  rw [← hC, htz] at hcb
  clear hC
  have SG : Sgm (w7.alloc (Obj.cells (bytesRow tl Cc) 5 ((bytesRow tl Cc).size, (bytesRow tl Cc).size + 1))).drew w7.heap.size ((txt k c).take m) := by
    have h := sgm_bytes (w := w7) hdD.byt Cc ((bytesRow tl Cc).size, (bytesRow tl Cc).size + 1) (by rw [← htl]; simp [bytesRow, strOfNums])
    rw [htl] at h
    exact h
  have K8 : Below w7.heap.size w7 (w7.alloc (Obj.cells (bytesRow tl Cc) 5 ((bytesRow tl Cc).size, (bytesRow tl Cc).size + 1))).drew := (bel_new _ _).drew
  have G8 : w7.heap.size < (w7.alloc (Obj.cells (bytesRow tl Cc) 5 ((bytesRow tl Cc).size, (bytesRow tl Cc).size + 1))).drew.heap.size := by
    show w7.heap.size < (w7.heap.push _).size
    simp
  have HSG := hide SG
  have HK8 := hide K8
  have HDS := hide (And.intro hdD (And.intro hds hdl))
  have HC := hide C
  have HE6 := hide E6
  clear SG K8 hdD hds hdl hPm hlen hpt hdg hnk htl C E6 hm hq k2 h1
  go_upto_region 12 with fail
  clear hcb xcut c1
  generalize (w7.alloc (Obj.cells (bytesRow tl Cc) 5 ((bytesRow tl Cc).size, (bytesRow tl Cc).size + 1))).drew = w8 at *
  obtain ⟨g, hg⟩ : ∃ g, g = w7.heap.size := ⟨_, rfl⟩
  rw [← hg] at HSG G8 ⊢
  have HG := hide hg
  clear hg htz
  go_wp2
  go_loopw [11] (fun i wr => ∃ (j : Nat) (Ls : List Int), i = .int .i64 j ∧ j ≤ 2 ∧ Ls.length = m ∧ Hid (Dgt Ls ∧ dg Ls = c / 10 + j) ∧ Hid (Sgm wr g Ls) ∧ Hid (Below w7.heap.size w7 wr) ∧ g < wr.heap.size) (fun i _ => 2 - (intOf i).toNat)
  case atStart => exact ⟨0, (txt k c).take m, rfl, by omega, HDS.out.2.2, hide ⟨HDS.out.1, by rw [HDS.out.2.1]; simp⟩, HSG, HK8, G8⟩
  case round =>
    obtain ⟨j, Ls, rfl, hj, hLl, HL, HSL, HBL, hgl⟩ := hrel
    have EW := HE6.out.below HBL.out
    by_cases hj2 : j < 2
    · have q1 : (j : Int) < 2 := by omega
      have CW := HC.out.below HBL.out
      have c0 := CW.c0; have c1 := CW.c1; have c2 := CW.c2
      have hcv := run_convert_bytes_arg (P := Tryz.prog) wr 41 5 Tryz.underlying41 Tryz.underlying5 g 0 m Cc Ls hLl (fun i hi => by rw [Nat.zero_add]; exact (HSL.out i (by rw [hLl]; exact hi)).1) 9 Tryz.underlying9
      have HRD := hide (dread_d EW.T (es := Ls) (s := strOfNums Ls) (N := m) (ng := ng) (P := P) HL.out.1.byt rfl hLl (by omega) (by have := HTD.out.p0; rw [HP.out] at this; omega) (by have := HTD.out.p1; rw [HP.out] at this; omega))
      obtain ⟨tL, htL⟩ : ∃ tL, strOfNums Ls = tL := ⟨_, rfl⟩
      rw [htL] at hcv HRD
      clear htL CW
      have HEW := hide EW
      clear EW
      go_wp2_with fail
      refine HRD.out.mono ?_
      rintro y w9 ⟨b9, ⟨h, rfl⟩ | ⟨h, r, rfl, hv⟩⟩
      · exact absurd HL.out.1 h
      have hne : r ≠ s := HFEW.out r (dg Ls) (by rw [HL.out.2]; rcases (by omega : j = 0 ∨ j = 1) with rfl | rfl <;> simp) hv
      have ey : (r + b2i ng * 9223372036854775808 == x) = false := beq_eq_false_iff_ne.2 (fun e => hne (by rw [← HXS.out] at e; omega))
      obtain ⟨yy, hyy⟩ : ∃ yy, r + b2i ng * 9223372036854775808 = yy := ⟨_, rfl⟩
      rw [hyy] at ey ⊢
      have HB9 := hide (HBL.out.trans (b9.mono HBL.out.size))
      have HS9 := hide (HSL.out.below b9 hgl)
      have hg9 : g < w9.heap.size := Nat.lt_of_lt_of_le hgl b9.size
      clear hv hyy h hne b9 hcv HRD c0 c1 c2
      have cq := (HS9.out q (by omega)).1
      have fq := (HS9.out q (by omega)).2
      obtain ⟨bq, hbq⟩ : ∃ bq, Nt.lb Ls q = bq := ⟨_, rfl⟩
      have hbr : 48 ≤ bq ∧ bq ≤ 57 := by rw [← hbq]; exact HL.out.1 _ (lb_in (by omega))
      rw [hbq] at cq
      have HBQ := hide hbq
      clear hbq
      by_cases h9 : bq = 57
      · subst h9
        have EW9 := HE6.out.below HB9.out
        go_wp2_with fail
        refine (lives8_any EW9).mono ?_
        rintro e wl ⟨rfl, bl⟩
        have KL := hide (below_trans (K.trans (HB9.out.mono K.size)) bl)
        clear bl EW9
        go_wp2
        go_ret
        exact ⟨rfl, KL.out⟩
      · have e9 : (bq == 57) = false := beq_eq_false_iff_ne.2 h9
        have wb : IntKind.u8.wrap (bq + 1) = bq + 1 := by rw [IntKind.wrap_u8]; omega
        have w2' : IntKind.i64.wrap ((j : Int) + 1) = (j : Int) + 1 := by rw [IntKind.wrap_i64]; omega
        go_wp2
        go_roundw
        case rel =>
          refine ⟨j + 1, Ls.set q (bq + 1), by simp, by omega, by rw [List.length_set]; exact hLl, hide ⟨?_, ?_⟩, hide (HS9.out.set (by omega) (bq + 1)), hide (HB9.out.setCell (p := ⟨g, q, none⟩) (by rw [← HG.out]; exact Nat.le_refl _) _), by simpa using hg9⟩
          · intro z hz
            rcases List.mem_or_eq_of_mem_set hz with h | h
            · exact HL.out.1 z h
            · omega
          · have hql : q = Ls.length - 1 := by omega
            have := dg_bump (L := Ls) (by omega)
            rw [← hql, HBQ.out] at this
            rw [this, HL.out.2]; simp; omega
        case measure => simp [intOf]; omega
    · have q1 : ¬ (j : Int) < 2 := by omega
      go_wp2_with fail
      refine (lives8_any EW).mono ?_
      rintro e wl ⟨rfl, bl⟩
      have KL := hide (below_trans (K.trans (HBL.out.mono K.size)) bl)
      clear bl EW
      go_wp2
      go_ret
      exact ⟨rfl, KL.out⟩

end Go.Proofs.YtfnfnkakaggmbaaGreatDoor
