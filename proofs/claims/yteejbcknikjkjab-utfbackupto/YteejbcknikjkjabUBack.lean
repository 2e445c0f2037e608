/- UtfBack: the walk -/
import Derived.Test.YteejbcknikjkjabUWrong
import Derived.Test.YteejbcknikjkjabUSame
import Derived.Deep.CutRange
namespace Go.Proofs.Yteejbcknikjkjab
open Go.RowKit
set_option linter.unusedVariables false

theorem reads_nil {k : IntKind} {w : World} : Reads k w (.slice none 0 0) [] := ⟨none, 0, rfl, by simp, by unfold maxLen; omega, fun h => absurd h (by simp)⟩
theorem isEmpty_no {t : List Int} (h : t ≠ []) : t.isEmpty = false := by cases t; exact absurd rfl h; rfl

theorem runes_rd {s : ByteArray} {es ps t : List Int} {w : World} (hb : uByt es) (hs : s = strOfNums es) (hl : es.length ≤ 17592186044416) (hS : USplit es ps t) :
    Calls Try.prog 6 #[.string s] w fun e w' => ∃ v, e = .returned (.tuple #[v, .bool t.isEmpty]) ∧ Reads .i32 w' v (if t.isEmpty then ps else []) ∧ Below w.heap.size w w' := by
  by_cases ht : t = []
  · subst ht
    refine (runes_text hb hs hl hS).mono ?_
    rintro e w' ⟨v, rfl, ho, h⟩
    exact ⟨v, rfl, owns_reads rfl ho, h⟩
  · refine (runes_not hb hs hl hS ht).mono ?_
    rintro e w' ⟨rfl, h⟩
    rw [isEmpty_no ht]
    exact ⟨_, rfl, reads_nil, h⟩
theorem units_rd {s : ByteArray} {es ps t : List Int} {w : World} (hb : uByt es) (hs : s = strOfNums es) (hl : es.length ≤ 17592186044416) (hS : USplit es ps t) :
    Calls Try.prog 7 #[.string s] w fun e w' => ∃ v, e = .returned (.tuple #[v, .bool t.isEmpty]) ∧ Reads .u16 w' v (if t.isEmpty then ps.flatMap uU else []) ∧ Below w.heap.size w w' := by
  by_cases ht : t = []
  · subst ht
    refine (units_text hb hs hl hS).mono ?_
    rintro e w' ⟨v, rfl, ho, h⟩
    exact ⟨v, rfl, owns_reads rfl ho, h⟩
  · refine (units_not hb hs hl hS ht).mono ?_
    rintro e w' ⟨rfl, h⟩
    rw [isEmpty_no ht]
    exact ⟨_, rfl, reads_nil, h⟩

def uHigh (ps : List Int) : Nat := ps.countP fun p => decide (65535 < p)
theorem uHigh_snoc (ps : List Int) (p : Int) : uHigh (ps ++ [p]) = uHigh ps + if 65535 < p then 1 else 0 := by
  unfold uHigh
  rw [List.countP_append, List.countP_singleton]
  by_cases h : 65535 < p <;> simp [h]
theorem uHigh_len (ps : List Int) : (ps.flatMap uU).length = ps.length + uHigh ps := by
  induction ps with
  | nil => rfl
  | cons p ps ih =>
    rw [List.flatMap_cons, List.length_append, List.length_cons, ih]
    unfold uHigh uU
    rw [List.countP_cons]
    by_cases h : 65535 < p
    · rw [if_neg (by omega)]; simp [h]; omega
    · rw [if_pos (by omega)]; simp [h]; omega
theorem uHigh_le (ps : List Int) : uHigh ps ≤ ps.length := List.countP_le_length

theorem uU_16 {ps : List Int} (h : uPts ps) : uU16 (ps.flatMap uU) := by
  intro x hx
  obtain ⟨p, hp, hx⟩ := List.mem_flatMap.1 hx
  have hp := uPt_iff.1 (h p hp)
  unfold uU at hx
  split at hx
  · rw [List.mem_singleton] at hx; omega
  · rcases List.mem_cons.1 hx with e | e
    · omega
    · rw [List.mem_singleton] at e; omega

set_option maxRecDepth 100000 in
set_option maxHeartbeats 8000000 in
theorem uback_walk {w : World} {s : ByteArray} {v1 v2 : Value} {xs us : List Int} (h1 : s.size ≤ 1048576) (r1 : Reads .i32 w v1 xs) (m1 : ∀ x ∈ xs, -2147483648 ≤ x ∧ x ≤ 2147483647) (l1 : xs.length ≤ 1048576) (r2 : Reads .u16 w v2 us) (m2 : ∀ x ∈ us, 0 ≤ x ∧ x ≤ 65535) (l2 : us.length ≤ 1048576) :
    Calls Try.prog 3 #[.string s, v1, v2] w fun e w' => e = .returned (.bool true) ∧ Below w.heap.size w w' := by
  obtain ⟨es, hb, hle, hs⟩ := utxt_of s
  have hse : es.length ≤ 1048576 := by omega
  obtain ⟨ps, t, hS⟩ := USplit.exists es.length (Nat.le_refl _) hb
  obtain ⟨qs, t2, hJ⟩ := UJoin.exists us.length (Nat.le_refl _) m2
  have c1 := hide (fun w => runes_rd (w := w) hb hs (by omega) hS)
  have c2 := hide (fun w => units_rd (w := w) hb hs (by omega) hS)
  have c3 := hide (fun w => bad_any (w := w) hb hs (by omega) hS)
  have hq : (((uFlat ps).length : Int) == (s.size : Int)) = t.isEmpty := by
    have e := congrArg List.length hS.eq
    rw [List.length_append, hle] at e
    by_cases ht : t = []
    · subst ht
      rw [List.length_nil] at e
      exact beq_iff_eq.2 (by omega)
    · rw [isEmpty_no ht]
      have := List.length_pos_iff.2 ht
      exact beq_eq_false_iff_ne.2 (by omega)
  have hps := hide hS.pts
  have hpl : ps.length ≤ 1048576 := by
    have := uFlat_len ps
    have e := congrArg List.length hS.eq
    rw [List.length_append] at e
    omega
  have htx : Hid (t.isEmpty = true → strOfNums (uFlat ps) = s) := hide (fun h => by
    have ht : t = [] := List.isEmpty_iff.1 h
    subst ht
    rw [hs, hS.eq, List.append_nil])
  have HJ := hide hJ
  have M2 := hide m2
  obtain ⟨T, hT⟩ : ∃ T, t.isEmpty = T := ⟨_, rfl⟩
  rw [hT] at hq htx
  simp only [hT] at c1 c2
  obtain ⟨B, hB⟩ : ∃ B : Int, ((uFlat ps).length : Int) = B := ⟨_, rfl⟩
  simp only [hB] at c3
  rw [hB] at hq
  clear hb hs hle hse hS hJ hT hB m2
  have R1 := hide r1
  have R2 := hide r2
  have n1 : (T != T) = false := by cases T <;> rfl
  go_enter Try.func3, Try.ntmps3
  go_wp2_with fail
  refine (c1.out _).mono ?_
  rintro e w1 ⟨y1, rfl, hr1, hB1⟩
  go_wp2_with fail
  refine (c2.out _).mono ?_
  rintro e w2 ⟨y2, rfl, hr2, hB2⟩
  go_wp2_with fail
  refine (c3.out _).mono ?_
  rintro e w3 ⟨rfl, hB3⟩
  have z1 := hB1.size
  have z2 := hB2.size
  have z3 := hB3.size
  have HA := hide ((hr1.below hB2).below hB3)
  have HU := hide (hr2.below hB3)
  have HB := hide ((hB1.trans (hB2.mono z1)).trans (hB3.mono (by omega)))
  clear c1 c2 c3 hr1 hr2 hB1 hB2 hB3 z1 z2 z3
  go_upto_if 47 with fail
  go_cut [11, 12, 13, 14, 15, 16] from 48 to 103 (fun s11 s12 s13 s14 s15 s16 wr => Below w3.heap.size w3 wr)
  case first =>
    cases T with
    | true =>
      rw [if_pos rfl] at HA HU
      have htext : strOfNums (uFlat ps) = s := htx.out rfl
      have T1 := hide (text_any (w := w3) HA.out (by omega))
      rw [show ps.all uPt = true from List.all_eq_true.2 hps.out, if_pos rfl, htext] at T1
      have hul := uHigh_len ps
      have huh := uHigh_le ps
      have T2 := hide (fun w' (k : Below w3.heap.size w3 w') => fromunits_any (w := w') (HU.out.below k) (uU_16 hps.out) (by omega) (UJoin.text hps.out))
      simp only [List.isEmpty_nil, if_pos, htext] at T2
      clear htext htx
      go_wp2_with fail
      refine T1.out.mono ?_
      rintro e w4 ⟨rfl, k4⟩
      go_wp2_with fail
      refine (T2.out _ k4).mono ?_
      rintro e w5 ⟨rfl, k5⟩
      obtain ⟨a1, ka, rfl, ha1, ha2, ca⟩ := (HA.out.below k4).below k5
      obtain ⟨a2, kb, hy2, _, _, _⟩ := HU.out
      obtain ⟨M, hM⟩ : ∃ M, (ps.flatMap uU).length = M := ⟨_, rfl⟩
      rw [hM] at hul hy2
      subst hy2
      have HK := hide (k4.trans (k5.mono k4.size))
      have HUL := hide hul
      have n4 : (s.toList == s.toList) = true := by simp
      clear T1 T2 HA HU k4 k5 hul hM
      go_wp2_with fail
      go_loopg [15, 16] ps.length (fun c g i wr => ∃ k : Nat, k ≤ ps.length ∧ i = .int .i64 k ∧ g = .int .i64 ((uHigh (ps.take k) : Nat) : Int) ∧ c = ps.length - k ∧ w5 = wr)
      case atStart => exact ⟨0, by omega, rfl, rfl, by omega, rfl⟩
      case round =>
        obtain ⟨k, hk, rfl, rfl, hg, hw⟩ := hrel
        subst hw
        have hh := uHigh_le (ps.take k)
        rw [List.length_take] at hh
        by_cases hlt : k < ps.length
        · have p1 : (k : Int) < (ps.length : Int) := by omega
          obtain ⟨b1, o1, rfl, _, hc1⟩ := ca (by omega)
          have g1 := hc1 k hlt
          have HT := hide (show uHigh (ps.take (k + 1)) = uHigh (ps.take k) + if 65535 < Nt.lb ps k then 1 else 0 by rw [List.take_add_one, List.getElem?_eq_getElem hlt, ← uHigh_snoc, ← ulb_get hlt]; rfl)
          obtain ⟨p, hp⟩ : ∃ p, Nt.lb ps k = p := ⟨_, rfl⟩
          rw [hp] at g1 HT
          clear hc1 hp
          obtain ⟨G, hG⟩ : ∃ G, uHigh (ps.take k) = G := ⟨_, rfl⟩
          rw [hG] at HT hh ⊢
          clear hG
          by_cases a1 : 65535 < p
          · rw [if_pos a1] at HT
            go_wp2
            go_roundg (ps.length - (k + 1))
            case measure => omega
            case rel => exact ⟨k + 1, by omega, by simp, by rw [HT.out]; simp, rfl, rfl⟩
          · rw [if_neg a1] at HT
            go_wp2
            go_roundg (ps.length - (k + 1))
            case measure => omega
            case rel => exact ⟨k + 1, by omega, by simp, by rw [HT.out]; simp, rfl, rfl⟩
        · have p1 : ¬ (k : Int) < (ps.length : Int) := by omega
          rw [List.take_of_length_le (by omega)] at hh ⊢
          have n5 : ((M : Int) != (ps.length : Int) + (uHigh ps : Int)) = false := by rw [HUL.out]; simp
          go_wp2
          go_meet
          exact HK.out
    | false =>
      rw [if_neg (by decide)] at HA HU
      obtain ⟨a1, ka, rfl, _, _, _⟩ := HA.out
      obtain ⟨a2, kb, rfl, _, _, _⟩ := HU.out
      clear HA HU htx
      go_wp2
      go_meet
      exact Below.refl _ _
  case rest =>
    have KW := hide (HB.out.trans (hcut.mono HB.out.size))
    have T3 := hide (text_any (w := wc) (R1.out.below KW.out) (by omega))
    obtain ⟨P, hP⟩ : ∃ P, xs.all uPt = P := ⟨_, rfl⟩
    rw [hP] at T3
    obtain ⟨tx, hx⟩ : ∃ tx, strOfNums (if P = true then uFlat xs else []) = tx := ⟨_, rfl⟩
    rw [hx] at T3
    have HX := hide hx
    have HP := hide hP
    clear hx hP hcut HB HA HU htx hps n1 hq
    go_wp2_with fail
    refine T3.out.mono ?_
    rintro e w6 ⟨rfl, k6⟩
    have K6 := hide (KW.out.trans (k6.mono KW.out.size))
    clear k6 T3 KW
    go_upto_if 109 with fail
    go_cut [19, 20] from 110 to 129 (fun s19 s20 wr => Below w6.heap.size w6 wr)
    case first =>
      cases P with
      | true =>
        have hpx : uPts xs := List.all_eq_true.1 HP.out
        have hxx := HX.out
        rw [if_pos rfl] at hxx
        have c1 := hide (fun w => runes_text (w := w) (uFlat_byt hpx) hxx.symm (by have := uFlat_le xs; omega) (USplit.text hpx))
        clear hpx hxx HX HP
        go_wp2_with fail
        refine (c1.out _).mono ?_
        rintro e w7 ⟨y, rfl, ho, k7⟩
        have S1 := hide (same_runes (owns_reads rfl ho) ((R1.out.below K6.out).below k7))
        rw [decide_eq_true rfl] at S1
        clear ho c1
        go_wp2_with fail
        refine S1.out.mono ?_
        rintro e w8 ⟨rfl, k8⟩
        go_wp2
        go_meet
        exact k7.trans (k8.mono k7.size)
      | false =>
        have W1 := hide (wrong_any (w := w6) (R1.out.below K6.out))
        rw [HP.out] at W1
        have hxx := HX.out
        rw [if_neg (by decide)] at hxx
        have n6 : tx.toList = [] := by rw [← hxx]; decide +kernel
        clear HP HX hxx
        go_wp2_with fail
        refine W1.out.mono ?_
        rintro e w7 ⟨rfl, rfl⟩
        go_wp2
        go_meet
        exact Below.refl _ _
    case rest =>
      have KW := hide (K6.out.trans (hcut.mono K6.out.size))
      have T4 := hide (fromunits_any (R2.out.below KW.out) M2.out (by omega) HJ.out)
      obtain ⟨P2, hP2⟩ : ∃ P, t2.isEmpty = P := ⟨_, rfl⟩
      rw [hP2] at T4
      obtain ⟨ty, hy⟩ : ∃ ty, strOfNums (if P2 = true then uFlat qs else []) = ty := ⟨_, rfl⟩
      rw [hy] at T4
      have HX := hide hy
      have HP := hide hP2
      clear hy hP2 hcut K6
      go_wp2_with fail
      refine T4.out.mono ?_
      rintro e w9 ⟨rfl, k9⟩
      have K9 := hide (KW.out.trans (k9.mono KW.out.size))
      clear k9 T4 KW
      cases P2 with
      | true =>
        have ht2 : t2 = [] := List.isEmpty_iff.1 HP.out
        have hpx : uPts qs := HJ.out.pts
        have he := HJ.out.eq
        rw [ht2, List.append_nil] at he
        have hql : qs.length ≤ 1048576 := by
          have e := congrArg List.length he
          rw [uHigh_len] at e
          omega
        have hxx := HX.out
        rw [if_pos rfl] at hxx
        have c1 := hide (fun w => units_text (w := w) (uFlat_byt hpx) hxx.symm (by have := uFlat_le qs; omega) (USplit.text hpx))
        rw [← he] at c1
        clear hpx hxx HX HP ht2 he
        go_wp2_with fail
        refine (c1.out _).mono ?_
        rintro e w10 ⟨y, rfl, ho, k7⟩
        have S1 := hide (same_units (owns_reads rfl ho) ((R2.out.below K9.out).below k7))
        rw [decide_eq_true rfl] at S1
        have K10 := hide (K9.out.trans (k7.mono K9.out.size))
        clear ho c1 k7 K9
        go_wp2_with fail
        refine S1.out.mono ?_
        rintro e w11 ⟨rfl, k8⟩
        have K11 := hide (K10.out.trans (k8.mono K10.out.size))
        clear k8 K10
        go_wp2_with (go_at_call 14; refine ulives_any.mono ?_; rintro e w12 ⟨rfl, hB5⟩)
        go_ret
        exact ⟨rfl, K11.out.trans (hB5.mono K11.out.size)⟩
      | false =>
        have hxx := HX.out
        rw [if_neg (by decide)] at hxx
        have n6 : ty.toList = [] := by rw [← hxx]; decide +kernel
        clear HP HX hxx
        go_wp2_with (go_at_call 14; refine ulives_any.mono ?_; rintro e w12 ⟨rfl, hB5⟩)
        go_ret
        exact ⟨rfl, K9.out.trans (hB5.mono K9.out.size)⟩

end Go.Proofs.Yteejbcknikjkjab
