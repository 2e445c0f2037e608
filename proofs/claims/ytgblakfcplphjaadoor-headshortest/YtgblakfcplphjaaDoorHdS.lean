/- HeadShortest: the walk -/
import Derived.Test.YtgblakfcplphjaaDoorHdA
namespace Go.Proofs.YtgblakfcplphjaaDoor
open Go.RowKit
set_option linter.unusedVariables false

theorem toList_neS {s t : ByteArray} (h : ¬ s = t) : (s.toList == t.toList) = false := by
  apply beq_eq_false_iff_ne.2
  intro e
  rw [ByteArray.toList_eq, ByteArray.toList_eq] at e
  exact h (by cases s; cases t; simp at e; rw [e])
/-- what a head that was read is -/
theorem rd_shape {es : List Int} {m i x n : Int} (hb : uByt es) (h : rdH es 0 = .hd m i x n) :
    0 < es.length ∧ m = Nt.lb es 0 / 32 ∧ i = Nt.lb es 0 % 32 ∧ n = 1 + hN i ∧ 1 ≤ n ∧ n ≤ 9 ∧ n ≤ es.length ∧ (0 ≤ m ∧ m ≤ 7) ∧ (0 ≤ i ∧ i ≤ 31) ∧ 0 ≤ x ∧ x < 18446744073709551616 ∧ (i = 31 → x = 0 ∧ n = 1) := by
  have hb0 := lb_byt hb 0
  unfold rdH at h
  rw [show (0 : Int).toNat = 0 from rfl] at h
  split at h
  · cases h
  rename_i q1
  split at h
  · cases h
  rename_i q2
  split at h
  · cases h
  rename_i q3
  split at h
  · cases h
  rename_i q4
  injection h with e1 e2 e3 e4
  have hcB := hB_n (m := Nt.lb es 0 / 32) (i := Nt.lb es 0 % 32) (by simpa using q3)
  rw [e2] at e3 e4 hcB q4
  have hc := hN_cases i
  obtain ⟨l, hl⟩ : ∃ l, (es.drop (0 + 1)).take (hN i).toNat = l := ⟨_, rfl⟩
  rw [hl] at e3
  have hlb : uByt l := fun y hy => hb y (List.mem_of_mem_drop (List.mem_of_mem_take (hl ▸ hy)))
  have hll : l.length = (hN i).toNat := by rw [← hl, List.length_take, List.length_drop]; omega
  have hx : 0 ≤ x ∧ x < 18446744073709551616 := by
    by_cases hi24 : i < 24
    · rw [if_pos hi24] at e3; omega
    · rw [if_neg hi24] at e3
      have := beV_lt l 0 0 (by omega) (by decide) hlb
      rw [e3, hll, Nat.zero_add] at this
      rcases (by omega : hN i = 0 ∨ hN i = 1 ∨ hN i = 2 ∨ hN i = 4 ∨ hN i = 8) with h | h | h | h | h <;> rw [h] at this <;> simp only [Int.toNat, p256] at this <;> omega
  refine ⟨by omega, e1.symm, e2.symm, e4.symm, by omega, by omega, by omega, by omega, by omega, hx.1, hx.2, fun h31 => ?_⟩
  have h0 : hN i = 0 := by omega
  rw [if_neg (by omega)] at e3
  rw [h0] at hll
  rw [List.length_eq_zero_iff.1 hll] at e3
  exact ⟨e3.symm, by omega⟩
set_option maxRecDepth 100000 in
set_option maxHeartbeats 4000000 in
theorem hshortest {w : World} {a : Nat → Addr} {es : List Int} {s : ByteArray} (hSn : Snt w a) (hH : Hnd w) (hT : Beh w) (hb : uByt es) (hs : s = strOfNums es) (hl : es.length ≤ 9223372036854775807) :
    Calls Tryd.prog 7 #[.string s] w fun e w' => e = .returned (.bool true) ∧ Below w.heap.size w w' := by
  have CL := hide (lives19 hSn hH hT)
  have CR := hide (fun w1 (h : Below w.heap.size w w1) => hread_any (w := w1) (a := a) (es := es) (s := s) (k := 0) (hSn.below h) (hT.below h) hb hs hl)
  have HS := hide hSn
  have HH := hide hH
  have HT := hide hT
  have HBy := hide hb
  have HSt := hide hs
  have hsz : s.size = es.length := by rw [hs, strOfNums_size]
  have Hix := hide (show ∀ p (h : p < s.size), (((s[p]'h).toNat : Nat) : Int) = Nt.lb es p from fun p h => by subst hs; exact utxt_at h hb)
  have HW0 := hide (rd_within (a := []) (s := es) (b := []) hb)
  clear hSn hH hT hb hs
  obtain ⟨r, hr⟩ : ∃ r, rdH es 0 = r := ⟨_, rfl⟩
  rw [hr] at CR
  have HR := hide hr
  clear hr
  go_enter Tryd.func7, Tryd.ntmps7
  go_wp2_with fail
  refine CL.out.mono ?_
  rintro e w1 ⟨rfl, hb1⟩
  have HB1 := hide hb1
  clear hb1 CL
  go_wp2_with fail
  refine (CR.out w1 HB1.out).mono ?_
  rintro e w2 ⟨hE, hb2⟩
  have HB2 := hide (HB1.out.trans (hb2.mono HB1.out.size))
  clear hb2 CR HB1
  cases r with
  | arg => exact absurd HR.out HW0.out.2.2
  | bad j =>
    obtain ⟨v, rfl, hF⟩ := hE.flt
    have HF := hide hF
    obtain ⟨g, hv⟩ := hF.ifc
    clear hE hF
    simp only [hdV]
    subst hv
    go_wp2_with fail
    obtain ⟨W2, hW2⟩ : ∃ W, w2.alloc (.cells #[.int .u8 0, .int .u8 0, .int .u64 0, .int .i64 0] 24) = W := ⟨_, rfl⟩
    have bW2 : Below w2.heap.size w2 W2 := hW2 ▸ (Below.refl _ _).alloc (Nat.le_refl _) _
    have HB3 := hide (HB2.out.trans (bW2.mono HB2.out.size))
    have CC := hide (f3code (HF.out.below bW2) (HS.out.below HB3.out) (HH.out.below HB3.out))
    rw [hW2]
    clear bW2
    refine CC.out.mono ?_
    rintro e w3 ⟨rfl, hb3⟩
    have HB4 := hide (HB3.out.trans (hb3.mono HB3.out.size))
    clear hb3 CC
    go_wp2
    go_ret
    exact ⟨by simp, HB4.out⟩
  | hd m i x n =>
    obtain rfl := hE
    obtain ⟨e0, e1, e2, e3, n1, n9, nl, hm, hi, hx0, hx1, h31⟩ := rd_shape HBy.out HR.out
    have hps : 0 < s.size := by omega
    have hx := Hix.out 0 hps
    have hd := lb_byt HBy.out 0
    obtain ⟨d, hd'⟩ : ∃ d, Nt.lb es 0 = d := ⟨_, rfl⟩
    rw [hd'] at hx hd e1 e2
    have hand := and31 d hd.1 hd.2
    rw [← e2] at hand
    have hdv : d / 32 = m := e1.symm
    have HL := hide (rd_least HBy.out HR.out)
    obtain ⟨nn, hnn⟩ : ∃ k : Nat, n = k := ⟨n.toNat, by omega⟩
    subst hnn
    clear hd' e1 e2 e3
    simp only [hdV]
    obtain ⟨L, hL⟩ : ∃ L, es.length = L := ⟨_, rfl⟩
    rw [hL] at hsz nl hl e0
    have HLn := hide hL
    clear hL
    have d1 : decide ((nn : Int) < 1) = false := decide_eq_false (by omega)
    have d2 : decide ((9 : Int) < (nn : Int)) = false := decide_eq_false (by omega)
    have d3 : decide (L < nn) = false := decide_eq_false (by omega)
    go_wp2_with fail
    go_quiet (fail)
    have bV : Below w2.heap.size w2 ((w2.alloc (.cells #[.int .u8 m, .int .u8 i, .int .u64 x, .int .i64 (nn : Int)] 24)).drewN nq) := by
      have b0 : Below w2.heap.size w2 (w2.alloc (.cells #[.int .u8 m, .int .u8 i, .int .u64 x, .int .i64 (nn : Int)] 24)) := (Below.refl _ _).alloc (Nat.le_refl _) _
      exact b0.trans ((below_drewN _ nq).mono b0.size)
    have kV : ((w2.alloc (.cells #[.int .u8 m, .int .u8 i, .int .u64 x, .int .i64 (nn : Int)] 24)).drewN nq).heap[w2.heap.size]? = some (.cells #[.int .u8 m, .int .u8 i, .int .u64 x, .int .i64 (nn : Int)] 24 (0, 0)) :=
      keep4 (heap_alloc_new w2 _) (below_drewN _ nq)
    generalize (w2.alloc (.cells #[.int .u8 m, .int .u8 i, .int .u64 x, .int .i64 (nn : Int)] 24)).drewN nq = V at *
    have HB3 := hide (HB2.out.trans (bV.mono HB2.out.size))
    obtain ⟨f0, f1, f2, f3, _⟩ := four_cells kV
    have KV := hide kV
    clear bV kV HB2
    by_cases hm7 : m = 7
    · subst hm7
      by_cases hi31 : i = 31
      · obtain ⟨rfl, hn1⟩ := h31 hi31
        obtain rfl : nn = 1 := by omega
        subst hi31
        go_wp2
        go_ret
        exact ⟨rfl, HB3.out⟩
      · have hi31' : (i != 31) = true := by simpa using hi31
        go_wp2
        go_ret
        exact ⟨rfl, HB3.out⟩
    · have hm7' : (m == 7) = false := by simpa using hm7
      by_cases hi31 : i = 31
      · obtain ⟨rfl, hn1⟩ := h31 hi31
        obtain rfl : nn = 1 := by omega
        subst hi31
        go_wp2
        go_ret
        exact ⟨rfl, HB3.out⟩
      · have hi31' : (i == 31) = false := by simpa using hi31
        obtain ⟨_, _, _, l4, l5⟩ := HL.out hm7 hi31
        have hok : hOk m x = true := by unfold hOk; simp; omega
        have CW := hide (hwrite_any (w := V) (HT.out.below HB3.out) hm.1 (by omega) hx0 hx1)
        obtain ⟨r0, r1, _, _⟩ := hS_rng hx0 hx1
        have hby := hdL_byt x hm ⟨r0, (by omega : hS x ≤ 31)⟩
        rw [hok, if_pos rfl] at CW
        obtain ⟨ts, hts⟩ : ∃ ts, hdL m (hS x) x = ts := ⟨_, rfl⟩
        rw [hts] at CW l4 l5 hby
        obtain ⟨t, ht⟩ : ∃ t, strOfNums ts = t := ⟨_, rfl⟩
        rw [ht] at CW
        obtain ⟨K, hK⟩ : ∃ K, ts.length = K := ⟨_, rfl⟩
        have htz : t.size = K := by rw [← ht, strOfNums_size, hK]
        rw [hK] at l4 l5
        rw [Int.toNat_natCast] at l5
        obtain ⟨u, hu⟩ : ∃ u, strOfNums (es.take nn) = u := ⟨_, rfl⟩
        have hsl : ∀ v, (Instr.slice 9 (.string s) none (some (.int .i64 (nn : Int))) none).run Tryd.prog v = .ok (.string u) v := fun v => by
          rw [run_slice_string_h (kh := .i64) (h := (nn : Int)), Int.toNat_natCast, HSt.out, utxt_cut, List.drop_zero, hu]
          all_goals first | exact Tryd.underlying9 | omega
        have htu : (K = nn ↔ t = u) := by
          rw [← ht, ← hu]
          constructor
          · intro h; rw [l5.1 (by omega)]
          · intro h
            have := l5.2 (utxt_inj hby (fun y hy => HBy.out y (List.mem_of_mem_take hy)) h)
            omega
        clear hts ht hK hu l5 hby HL
        go_wp2_with fail
        refine CW.out.mono ?_
        rintro e w3 ⟨rfl, hb3⟩
        have HB4 := hide (HB3.out.trans (hb3.mono HB3.out.size))
        clear f0 f1 f2 f3
        obtain ⟨f0, f1, f2, f3, _⟩ := four_cells (keep4 KV.out hb3)
        clear hb3 CW
        have g1 : decide ((K : Int) ≤ (nn : Int)) = true := decide_eq_true (by omega)
        have g2 : decide (K ≤ nn) = true := decide_eq_true (by omega)
        by_cases hKn : K = nn
        · have e := htu.1 hKn
          subst e
          subst hKn
          go_wp2_with fail
          go_quiet (fail)
          go_wp2
          go_ret
          exact ⟨rfl, HB4.out.trans ((below_drewN _ nq).mono HB4.out.size)⟩
        · have hne : (t.toList == u.toList) = false := toList_neS (fun h => hKn (htu.2 h))
          have g3 : ((K : Int) == (nn : Int)) = false := by simp; omega
          go_wp2_with fail
          go_quiet (fail)
          go_wp2
          go_ret
          exact ⟨rfl, HB4.out.trans ((below_drewN _ nq).mono HB4.out.size)⟩

end Go.Proofs.YtgblakfcplphjaaDoor
