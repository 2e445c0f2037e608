/- same; FaultShifts' walk -/
import Derived.Test.YtbkgphglojjllaaDoorFRep
namespace Go.Proofs.YtbkgphglojjllaaDoor
open Go.RowKit
set_option linter.unusedVariables false

theorem below_drewN {B : Nat} {w w' : World} (h : Below B w w') (n : Nat) : Below B w (w'.drewN n) := ⟨h.os, h.tape, h.output, h.size, h.block⟩
set_option maxHeartbeats 4000000 in
set_option maxRecDepth 100000 in
theorem same_true {w : World} {a : Nat → Addr} {v1 v2 : Value} {b1 b2 : Nat → Bool} {o : Option (Int × ByteArray)} (hS : Snt w a) (hE : Er w a v1 b1 o) (hF : Er w a v2 b2 o) (hb : leastB b1 11 = leastB b2 11) :
    Calls Tryd.prog 24 #[v1, v2] w fun e w' => e = .returned (.bool true) ∧ Below w.heap.size w w' := by
  obtain ⟨u, x, r, rfl, h1, h2, h3⟩ := hE
  obtain ⟨u2, x2, r2, rfl, g1, g2, g3⟩ := hF
  have HA := hide (fat_any h2 h3)
  have HP := hide (fun (w1 : World) (hb : Below w.heap.size w w1) => fpath_any (h2.below hb) (h3.below hb))
  have HC := hide (fun (w1 : World) (hb : Below w.heap.size w w1) => fcode_any (hS.below hb) (h1.below hb))
  have HA2 := hide (fun (w1 : World) (hb : Below w.heap.size w w1) => fat_any (g2.below hb) (g3.below hb))
  have HP2 := hide (fun (w1 : World) (hb : Below w.heap.size w w1) => fpath_any (g2.below hb) (g3.below hb))
  have HC2 := hide (fun (w1 : World) (hb : Below w.heap.size w w1) => fcode_any (hS.below hb) (g1.below hb))
  rw [atV_eq] at HA
  simp only [atV_eq] at HA2
  simp only [pathV_eq] at HP HP2
  simp only [hb] at HC
  clear hS h1 h2 h3 g1 g2 g3 hb
  generalize leastB b2 11 = c at *
  generalize oA o = k at *
  generalize oS o = s at *
  generalize oB o = q at *
  go_enter Tryd.func24, Tryd.ntmps24
  go_wp2_with fail
  refine HA.out.mono ?_
  rintro e w1 ⟨rfl, hb1⟩
  have K1 := hide hb1
  clear hb1 HA
  go_wp2_with fail
  refine (HA2.out _ K1.out).mono ?_
  rintro e w2 ⟨rfl, hb2⟩
  have K2 := hide (K1.out.trans (hb2.mono K1.out.size))
  clear hb2 HA2 K1
  go_wp2_with fail
  refine (HP.out _ K2.out).mono ?_
  rintro e w3 ⟨rfl, hb3⟩
  have K3 := hide (K2.out.trans (hb3.mono K2.out.size))
  clear hb3 HP K2
  go_wp2_with fail
  refine (HP2.out _ K3.out).mono ?_
  rintro e w4 ⟨rfl, hb4⟩
  have K4 := hide (K3.out.trans (hb4.mono K3.out.size))
  clear hb4 HP2 K3
  go_wp2_with fail
  refine (HC.out _ K4.out).mono ?_
  rintro e w5 ⟨rfl, hb5⟩
  have K5 := hide (K4.out.trans (hb5.mono K4.out.size))
  clear hb5 HC K4
  go_wp2_with fail
  refine (HC2.out _ K5.out).mono ?_
  rintro e w6 ⟨rfl, hb6⟩
  have K6 := hide (K5.out.trans (hb6.mono K5.out.size))
  clear hb6 HC2 K5
  go_wp2
  go_ret
  exact ⟨rfl, K6.out⟩
theorem wr_two (k a b : Int) : IntKind.i64.wrap (IntKind.i64.wrap (k + a) + b) = IntKind.i64.wrap (k + IntKind.i64.wrap (a + b)) := by
  simp only [IntKind.wrap_i64]; omega
theorem wr_id {k : Int} (h0 : -9223372036854775808 ≤ k) (h1 : k ≤ 9223372036854775807) : IntKind.i64.wrap (k + 0) = k := by
  simp only [IntKind.wrap_i64]; omega
/-- the number that a code stands for, less one -/
def cdM (c : Int) : Nat := ((c.tmod 11 + 11) % 11).toNat
theorem cdM_lt (c : Int) : cdM c < 11 := by unfold cdM; omega
theorem cdM_of (c : Int) : (¬ (1 + c.tmod 11 < 1) ∧ 1 + c.tmod 11 = (cdM c : Int) + 1) ∨ (1 + c.tmod 11 < 1 ∧ 1 + c.tmod 11 + 11 = (cdM c : Int) + 1) := by
  have h1 : c.tmod 11 < 11 := Int.tmod_lt_of_pos c (by decide)
  have h2 : -11 < c.tmod 11 := by
    have := Int.tmod_lt_of_pos (-c) (b := 11) (by decide)
    rw [Int.neg_tmod] at this
    omega
  unfold cdM
  omega
set_option maxHeartbeats 8000000 in
set_option maxRecDepth 100000 in
theorem shifts_walk {w : World} {a : Nat → Addr} {c k A B : Int} {p z : ByteArray} (hS : Snt w a) (hH : Hnd w) (hM : Mx w) (hz : z.size ≤ 1048576) (hp : p.size ≤ 1048576)
    (c0 : -9223372036854775808 ≤ c) (c1 : c ≤ 9223372036854775807) (k0 : -9223372036854775808 ≤ k) (k1 : k ≤ 9223372036854775807) :
    Calls Tryd.prog 7 #[.agg #[.int .i64 c, .int .i64 k, .string p, .string z, .int .i64 A, .int .i64 B]] w fun e w' => e = .returned (.bool true) ∧ Below w.heap.size w w' := by
  have K0 := hide ((Below.refl w.heap.size w).alloc (Nat.le_refl _) (.cells #[.int .i64 c, .int .i64 k, .string p, .string z, .int .i64 A, .int .i64 B] 51))
  have HS := hide hS
  have HH := hide hH
  have HM := hide hM
  have CC := hide (fun (u : World) (hu : Below (w.alloc (.cells #[.int .i64 c, .int .i64 k, .string p, .string z, .int .i64 A, .int .i64 B] 51)).heap.size (w.alloc (.cells #[.int .i64 c, .int .i64 k, .string p, .string z, .int .i64 A, .int .i64 B] 51)) u) => (show u.cell? ⟨w.heap.size, 0, none⟩ = some (.int .i64 c) ∧ u.cell? ⟨w.heap.size, 1, none⟩ = some (.int .i64 k) ∧ u.cell? ⟨w.heap.size, 2, none⟩ = some (.string p) ∧ u.cell? ⟨w.heap.size, 3, none⟩ = some (.string z) ∧ u.cell? ⟨w.heap.size, 4, none⟩ = some (.int .i64 A) ∧ u.cell? ⟨w.heap.size, 5, none⟩ = some (.int .i64 B) from by
    have hg := heap_alloc_new w (.cells #[.int .i64 c, .int .i64 k, .string p, .string z, .int .i64 A, .int .i64 B] 51)
    rw [← hu.block _ (Array.getElem?_eq_some_iff.1 hg).1] at hg
    exact ⟨(Lib.cell_of_heap hg 0).trans rfl, (Lib.cell_of_heap hg 1).trans rfl, (Lib.cell_of_heap hg 2).trans rfl, (Lib.cell_of_heap hg 3).trans rfl, (Lib.cell_of_heap hg 4).trans rfl, (Lib.cell_of_heap hg 5).trans rfl⟩))
  clear hS hH hM
  have h2 : -11 < c.tmod 11 := by
    have := Int.tmod_lt_of_pos (-c) (b := 11) (by decide)
    rw [Int.neg_tmod] at this
    omega
  have h3 : c.tmod 11 < 11 := Int.tmod_lt_of_pos c (by decide)
  have hcd := cdM_of c
  have hlt := cdM_lt c
  have hn11 : ¬ ((11 : Int) = 0) := by decide
  generalize cdM c = m at *
  obtain ⟨q, hq⟩ : ∃ q, c.tmod 11 = q := ⟨_, rfl⟩
  rw [hq] at h2 h3 hcd
  have wr1 : IntKind.i64.wrap q = q := by simp only [IntKind.wrap_i64]; omega
  obtain ⟨KM, hKM⟩ : ∃ KM, IntKind.i64.wrap (k + IntKind.i64.wrap (A + B)) = KM := ⟨_, rfl⟩
  have hKN : IntKind.i64.wrap (k + wrap64 (A + B)) = KM := by rw [← hKM]; simp only [IntKind.wrap_i64, wrap64]
  have hT := hide ((wr_two k A B).trans hKM)
  have HL := hide (show ∀ x : Int, (⟨(wrt z.data.toList).toArray⟩ : ByteArray).size + (oS (some (x, p))).size ≤ 9223372036854775807 from by
    intro x
    have e1 := wrt_len z.data.toList
    have e2 : z.data.toList.length = z.size := (Lib.size_eq z).symm
    have e3 : (⟨(wrt z.data.toList).toArray⟩ : ByteArray).size = (wrt z.data.toList).length := by rw [Lib.size_eq]
    have e4 : (oS (some (x, p))).size = p.size := rfl
    omega)
  go_enter Tryd.func7, Tryd.ntmps7
  go_wp2_with fail
  refine (lives13 (HS.out.below K0.out) (HH.out.below K0.out)).mono ?_
  rintro e w1 ⟨rfl, hb1⟩
  have K1 := hide (K0.out.trans (hb1.mono K0.out.size))
  obtain ⟨d0, d1, d2, d3, d4, d5⟩ := CC.out w1 hb1
  have C1 := hide hb1
  clear hb1
  rcases hcd with ⟨n1, n2⟩ | ⟨n1, n2⟩
  · have wr2 : IntKind.i64.wrap (1 + q) = (m : Int) + 1 := by simp only [IntKind.wrap_i64]; omega
    have n3 : ¬ ((m : Int) + 1 < 1) := by omega
    clear h2 h3 n1 n2
    go_wp2_with fail
    go_quiet (fail)
    have C2 := hide (show Below (w.alloc (.cells #[.int .i64 c, .int .i64 k, .string p, .string z, .int .i64 A, .int .i64 B] 51)).heap.size (w.alloc (.cells #[.int .i64 c, .int .i64 k, .string p, .string z, .int .i64 A, .int .i64 B] 51)) (w1.drewN nq) from below_drewN C1.out nq)
    have K2 := hide (K0.out.trans (C2.out.mono K0.out.size))
    clear C1 K1 d0 d1 d2 d3 d4 d5
    generalize w1.drewN nq = w2 at *
    obtain ⟨d0, d1, d2, d3, d4, d5⟩ := CC.out w2 C2.out
    go_wp2_with fail
    refine (fnew_some (HS.out.below K2.out) hlt).mono ?_
    rintro e w3 ⟨g3, hg3, rfl, F3, hb3⟩
    have C3 := hide (C2.out.trans (hb3.mono C2.out.size))
    have K3 := hide (K0.out.trans (C3.out.mono K0.out.size))
    have E3 := hide (er_flt (HS.out.below K3.out) (HH.out.below K3.out) (by omega) F3)
    clear hb3 F3 hg3 C2 K2 d0 d1 d2 d3 d4 d5
    go_wp2_with fail
    refine (fshift_some (HS.out.below K3.out) E3.out).mono ?_
    rintro e w4 ⟨g4, hg4, rfl, F4, hb4⟩
    rw [bareN_dec (by omega)] at F4
    have C4 := hide (C3.out.trans (hb4.mono C3.out.size))
    have K4 := hide (K0.out.trans (C4.out.mono K0.out.size))
    have E4 := hide (er_flt (HS.out.below K4.out) (HH.out.below K4.out) (by omega) F4)
    replace E3 := hide (E3.out.below hb4)
    clear hb4 F4 hg4 C3 K3
    go_wp2_with fail
    refine (fshift_some (HS.out.below K4.out) E4.out).mono ?_
    rintro e w5 ⟨g5, hg5, rfl, F5, hb5⟩
    rw [bareN_dec (by omega), hT.out] at F5
    have C5 := hide (C4.out.trans (hb5.mono C4.out.size))
    have K5 := hide (K0.out.trans (C5.out.mono K0.out.size))
    have E5 := hide (er_flt (HS.out.below K5.out) (HH.out.below K5.out) (by omega) F5)
    replace E3 := hide (E3.out.below hb5)
    clear hb5 F5 hg5 C4 K4 E4
    go_wp2_with fail
    refine (fshift_some (HS.out.below K5.out) E3.out).mono ?_
    rintro e w6 ⟨g6, hg6, rfl, F6, hb6⟩
    rw [bareN_dec (by omega), hKN] at F6
    have C6 := hide (C5.out.trans (hb6.mono C5.out.size))
    have K6 := hide (K0.out.trans (C6.out.mono K0.out.size))
    have E6 := hide (er_flt (HS.out.below K6.out) (HH.out.below K6.out) (by omega) F6)
    replace E3 := hide (E3.out.below hb6)
    replace E5 := hide (E5.out.below hb6)
    clear hb6 F6 hg6 C5 K5
    go_wp2_with fail
    refine (same_true (HS.out.below K6.out) E5.out E6.out rfl).mono ?_
    rintro e w7 ⟨rfl, hb7⟩
    have C7 := hide (C6.out.trans (hb7.mono C6.out.size))
    have K7 := hide (K0.out.trans (C7.out.mono K0.out.size))
    replace E3 := hide (E3.out.below hb7)
    replace E5 := hide (E5.out.below hb7)
    clear hb7 C6 K6 E6
    go_wp2_with fail
    refine (fshift_some (HS.out.below K7.out) E3.out).mono ?_
    rintro e w8 ⟨g8, hg8, rfl, F8, hb8⟩
    rw [bareN_dec (by omega), wr_id k0 k1] at F8
    have C8 := hide (C7.out.trans (hb8.mono C7.out.size))
    have K8 := hide (K0.out.trans (C8.out.mono K0.out.size))
    have E8 := hide (er_flt (HS.out.below K8.out) (HH.out.below K8.out) (by omega) F8)
    replace E3 := hide (E3.out.below hb8)
    replace E5 := hide (E5.out.below hb8)
    clear hb8 F8 hg8 C7 K7
    go_wp2_with fail
    refine (same_true (HS.out.below K8.out) E8.out E3.out rfl).mono ?_
    rintro e w9 ⟨rfl, hb9⟩
    have C9 := hide (C8.out.trans (hb9.mono C8.out.size))
    have K9 := hide (K0.out.trans (C9.out.mono K0.out.size))
    replace E3 := hide (E3.out.below hb9)
    replace E5 := hide (E5.out.below hb9)
    clear hb9 C8 K8 E8
    obtain ⟨d0, d1, d2, d3, d4, d5⟩ := CC.out w9 C9.out
    go_wp2_with fail
    refine (fin_any (HS.out.below K9.out) E5.out (wrIs_any (HM.out.below K9.out) (by omega)) (HL.out _)).mono ?_
    rintro e w10 ⟨g10, hg10, rfl, F10, hb10⟩
    rw [bareN_dec (by omega)] at F10
    have C10 := hide (C9.out.trans (hb10.mono C9.out.size))
    have K10 := hide (K0.out.trans (C10.out.mono K0.out.size))
    have E10 := hide (er_flt (HS.out.below K10.out) (HH.out.below K10.out) (by omega) F10)
    replace E3 := hide (E3.out.below hb10)
    clear hb10 F10 hg10 C9 K9 E5 d0 d1 d2 d3 d4 d5
    obtain ⟨d0, d1, d2, d3, d4, d5⟩ := CC.out w10 C10.out
    go_wp2_with fail
    refine (fin_any (HS.out.below K10.out) E3.out (wrIs_any (HM.out.below K10.out) (by omega)) (HL.out _)).mono ?_
    rintro e w11 ⟨g11, hg11, rfl, F11, hb11⟩
    rw [bareN_dec (by omega)] at F11
    have C11 := hide (C10.out.trans (hb11.mono C10.out.size))
    have K11 := hide (K0.out.trans (C11.out.mono K0.out.size))
    have E11 := hide (er_flt (HS.out.below K11.out) (HH.out.below K11.out) (by omega) F11)
    replace E10 := hide (E10.out.below hb11)
    clear hb11 F11 hg11 C10 K10 E3 d0 d1 d2 d3 d4 d5
    go_wp2_with fail
    refine (fshift_some (HS.out.below K11.out) E11.out).mono ?_
    rintro e w12 ⟨g12, hg12, rfl, F12, hb12⟩
    rw [bareN_dec (by omega), show oA (some (k, p)) = k from rfl, hKN] at F12
    have C12 := hide (C11.out.trans (hb12.mono C11.out.size))
    have K12 := hide (K0.out.trans (C12.out.mono K0.out.size))
    have E12 := hide (er_flt (HS.out.below K12.out) (HH.out.below K12.out) (by omega) F12)
    replace E10 := hide (E10.out.below hb12)
    clear hb12 F12 hg12 C11 K11 E11
    obtain ⟨u, x, r, he, h1, h2, h3⟩ := E10.out
    have HA := hide (fat_any h2 h3)
    rw [← he] at HA
    simp only [atV] at HA
    clear he h1 h2 h3
    go_wp2_with fail
    refine HA.out.mono ?_
    rintro e w13 ⟨rfl, hb13⟩
    have C13 := hide (C12.out.trans (hb13.mono C12.out.size))
    have K13 := hide (K0.out.trans (C13.out.mono K0.out.size))
    replace E10 := hide (E10.out.below hb13)
    replace E12 := hide (E12.out.below hb13)
    clear hb13 C12 K12 HA
    go_wp2_with fail
    refine (same_true (HS.out.below K13.out) E10.out E12.out rfl).mono ?_
    rintro e w14 ⟨rfl, hb14⟩
    have C14 := hide (C13.out.trans (hb14.mono C13.out.size))
    have K14 := hide (K0.out.trans (C14.out.mono K0.out.size))
    clear hb14 C13 K13 E10 E12
    obtain ⟨d0, d1, d2, d3, d4, d5⟩ := CC.out w14 C14.out
    have hTT : wrap64 (wrap64 (k + A) + B) = KM := by rw [← hT.out]; simp only [IntKind.wrap_i64, wrap64]
    have hTU := hT.out
    have eKM : oA (some (KM, p)) = KM := rfl
    go_wp2
    go_ret
    exact ⟨rfl, K14.out⟩
  · have wr2 : IntKind.i64.wrap (1 + q) = 1 + q := by simp only [IntKind.wrap_i64]; omega
    have wr3 : IntKind.i64.wrap (1 + q + 11) = (m : Int) + 1 := by simp only [IntKind.wrap_i64]; omega
    clear h2 h3 n2
    go_wp2_with fail
    go_quiet (fail)
    have C2 := hide (show Below (w.alloc (.cells #[.int .i64 c, .int .i64 k, .string p, .string z, .int .i64 A, .int .i64 B] 51)).heap.size (w.alloc (.cells #[.int .i64 c, .int .i64 k, .string p, .string z, .int .i64 A, .int .i64 B] 51)) (w1.drewN nq) from below_drewN C1.out nq)
    have K2 := hide (K0.out.trans (C2.out.mono K0.out.size))
    clear C1 K1 d0 d1 d2 d3 d4 d5
    generalize w1.drewN nq = w2 at *
    obtain ⟨d0, d1, d2, d3, d4, d5⟩ := CC.out w2 C2.out
    go_wp2_with fail
    refine (fnew_some (HS.out.below K2.out) hlt).mono ?_
    rintro e w3 ⟨g3, hg3, rfl, F3, hb3⟩
    have C3 := hide (C2.out.trans (hb3.mono C2.out.size))
    have K3 := hide (K0.out.trans (C3.out.mono K0.out.size))
    have E3 := hide (er_flt (HS.out.below K3.out) (HH.out.below K3.out) (by omega) F3)
    clear hb3 F3 hg3 C2 K2 d0 d1 d2 d3 d4 d5
    go_wp2_with fail
    refine (fshift_some (HS.out.below K3.out) E3.out).mono ?_
    rintro e w4 ⟨g4, hg4, rfl, F4, hb4⟩
    rw [bareN_dec (by omega)] at F4
    have C4 := hide (C3.out.trans (hb4.mono C3.out.size))
    have K4 := hide (K0.out.trans (C4.out.mono K0.out.size))
    have E4 := hide (er_flt (HS.out.below K4.out) (HH.out.below K4.out) (by omega) F4)
    replace E3 := hide (E3.out.below hb4)
    clear hb4 F4 hg4 C3 K3
    go_wp2_with fail
    refine (fshift_some (HS.out.below K4.out) E4.out).mono ?_
    rintro e w5 ⟨g5, hg5, rfl, F5, hb5⟩
    rw [bareN_dec (by omega), hT.out] at F5
    have C5 := hide (C4.out.trans (hb5.mono C4.out.size))
    have K5 := hide (K0.out.trans (C5.out.mono K0.out.size))
    have E5 := hide (er_flt (HS.out.below K5.out) (HH.out.below K5.out) (by omega) F5)
    replace E3 := hide (E3.out.below hb5)
    clear hb5 F5 hg5 C4 K4 E4
    go_wp2_with fail
    refine (fshift_some (HS.out.below K5.out) E3.out).mono ?_
    rintro e w6 ⟨g6, hg6, rfl, F6, hb6⟩
    rw [bareN_dec (by omega), hKN] at F6
    have C6 := hide (C5.out.trans (hb6.mono C5.out.size))
    have K6 := hide (K0.out.trans (C6.out.mono K0.out.size))
    have E6 := hide (er_flt (HS.out.below K6.out) (HH.out.below K6.out) (by omega) F6)
    replace E3 := hide (E3.out.below hb6)
    replace E5 := hide (E5.out.below hb6)
    clear hb6 F6 hg6 C5 K5
    go_wp2_with fail
    refine (same_true (HS.out.below K6.out) E5.out E6.out rfl).mono ?_
    rintro e w7 ⟨rfl, hb7⟩
    have C7 := hide (C6.out.trans (hb7.mono C6.out.size))
    have K7 := hide (K0.out.trans (C7.out.mono K0.out.size))
    replace E3 := hide (E3.out.below hb7)
    replace E5 := hide (E5.out.below hb7)
    clear hb7 C6 K6 E6
    go_wp2_with fail
    refine (fshift_some (HS.out.below K7.out) E3.out).mono ?_
    rintro e w8 ⟨g8, hg8, rfl, F8, hb8⟩
    rw [bareN_dec (by omega), wr_id k0 k1] at F8
    have C8 := hide (C7.out.trans (hb8.mono C7.out.size))
    have K8 := hide (K0.out.trans (C8.out.mono K0.out.size))
    have E8 := hide (er_flt (HS.out.below K8.out) (HH.out.below K8.out) (by omega) F8)
    replace E3 := hide (E3.out.below hb8)
    replace E5 := hide (E5.out.below hb8)
    clear hb8 F8 hg8 C7 K7
    go_wp2_with fail
    refine (same_true (HS.out.below K8.out) E8.out E3.out rfl).mono ?_
    rintro e w9 ⟨rfl, hb9⟩
    have C9 := hide (C8.out.trans (hb9.mono C8.out.size))
    have K9 := hide (K0.out.trans (C9.out.mono K0.out.size))
    replace E3 := hide (E3.out.below hb9)
    replace E5 := hide (E5.out.below hb9)
    clear hb9 C8 K8 E8
    obtain ⟨d0, d1, d2, d3, d4, d5⟩ := CC.out w9 C9.out
    go_wp2_with fail
    refine (fin_any (HS.out.below K9.out) E5.out (wrIs_any (HM.out.below K9.out) (by omega)) (HL.out _)).mono ?_
    rintro e w10 ⟨g10, hg10, rfl, F10, hb10⟩
    rw [bareN_dec (by omega)] at F10
    have C10 := hide (C9.out.trans (hb10.mono C9.out.size))
    have K10 := hide (K0.out.trans (C10.out.mono K0.out.size))
    have E10 := hide (er_flt (HS.out.below K10.out) (HH.out.below K10.out) (by omega) F10)
    replace E3 := hide (E3.out.below hb10)
    clear hb10 F10 hg10 C9 K9 E5 d0 d1 d2 d3 d4 d5
    obtain ⟨d0, d1, d2, d3, d4, d5⟩ := CC.out w10 C10.out
    go_wp2_with fail
    refine (fin_any (HS.out.below K10.out) E3.out (wrIs_any (HM.out.below K10.out) (by omega)) (HL.out _)).mono ?_
    rintro e w11 ⟨g11, hg11, rfl, F11, hb11⟩
    rw [bareN_dec (by omega)] at F11
    have C11 := hide (C10.out.trans (hb11.mono C10.out.size))
    have K11 := hide (K0.out.trans (C11.out.mono K0.out.size))
    have E11 := hide (er_flt (HS.out.below K11.out) (HH.out.below K11.out) (by omega) F11)
    replace E10 := hide (E10.out.below hb11)
    clear hb11 F11 hg11 C10 K10 E3 d0 d1 d2 d3 d4 d5
    go_wp2_with fail
    refine (fshift_some (HS.out.below K11.out) E11.out).mono ?_
    rintro e w12 ⟨g12, hg12, rfl, F12, hb12⟩
    rw [bareN_dec (by omega), show oA (some (k, p)) = k from rfl, hKN] at F12
    have C12 := hide (C11.out.trans (hb12.mono C11.out.size))
    have K12 := hide (K0.out.trans (C12.out.mono K0.out.size))
    have E12 := hide (er_flt (HS.out.below K12.out) (HH.out.below K12.out) (by omega) F12)
    replace E10 := hide (E10.out.below hb12)
    clear hb12 F12 hg12 C11 K11 E11
    obtain ⟨u, x, r, he, h1, h2, h3⟩ := E10.out
    have HA := hide (fat_any h2 h3)
    rw [← he] at HA
    simp only [atV] at HA
    clear he h1 h2 h3
    go_wp2_with fail
    refine HA.out.mono ?_
    rintro e w13 ⟨rfl, hb13⟩
    have C13 := hide (C12.out.trans (hb13.mono C12.out.size))
    have K13 := hide (K0.out.trans (C13.out.mono K0.out.size))
    replace E10 := hide (E10.out.below hb13)
    replace E12 := hide (E12.out.below hb13)
    clear hb13 C12 K12 HA
    go_wp2_with fail
    refine (same_true (HS.out.below K13.out) E10.out E12.out rfl).mono ?_
    rintro e w14 ⟨rfl, hb14⟩
    have C14 := hide (C13.out.trans (hb14.mono C13.out.size))
    have K14 := hide (K0.out.trans (C14.out.mono K0.out.size))
    clear hb14 C13 K13 E10 E12
    obtain ⟨d0, d1, d2, d3, d4, d5⟩ := CC.out w14 C14.out
    have hTT : wrap64 (wrap64 (k + A) + B) = KM := by rw [← hT.out]; simp only [IntKind.wrap_i64, wrap64]
    have hTU := hT.out
    have eKM : oA (some (KM, p)) = KM := rfl
    go_wp2
    go_ret
    exact ⟨rfl, K14.out⟩

end Go.Proofs.YtbkgphglojjllaaDoor
