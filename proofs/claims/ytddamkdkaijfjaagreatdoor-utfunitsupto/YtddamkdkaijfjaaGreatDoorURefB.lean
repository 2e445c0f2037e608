/- ref09: stands, First, Bad -/
import Derived.Test.YtddamkdkaijfjaaGreatDoorURef
namespace Go.Proofs.YtddamkdkaijfjaaGreatDoor
open Go.RowKit
set_option linter.unusedVariables false

/-- does it stand there? -/
def uPre (bs l : List Int) : Bool := decide (l.take bs.length = bs)
theorem uPre_ext {bs l : List Int} (hl : bs.length ≤ l.length) (h : ∀ j, j < bs.length → Nt.lb l j = Nt.lb bs j) : uPre bs l = true := by
  unfold uPre
  rw [decide_eq_true_iff]
  apply List.ext_getElem
  · rw [List.length_take]; omega
  · intro i h1 h2
    have := h i h2
    rw [ulb_get h2, ulb_get (by omega)] at this
    rw [List.getElem_take]; exact this
theorem uPre_no {bs l : List Int} {j : Nat} (hj : j < bs.length) (hl : j < l.length) (h : Nt.lb l j ≠ Nt.lb bs j) : uPre bs l = false := by
  unfold uPre
  rw [decide_eq_false_iff_not]
  intro e
  have g := Nt.lb_take (xs := l) hj
  rw [e] at g
  exact h g.symm
theorem uPre_short {bs l : List Int} (h : l.length < bs.length) : uPre bs l = false := by
  unfold uPre
  rw [decide_eq_false_iff_not]
  intro e
  have := congrArg List.length e
  rw [List.length_take] at this
  omega
theorem ulb_drop (es : List Int) (k j : Nat) : Nt.lb (es.drop k) j = Nt.lb es (k + j) := by simp [Nt.lb, List.getElem?_drop]

set_option maxRecDepth 100000 in
set_option maxHeartbeats 4000000 in
theorem rstands_any {w : World} {s : ByteArray} {es bs : List Int} {v : Value} {k : Nat} (hb : uByt es) (hs : s = strOfNums es) (hl : es.length ≤ 9223372036854775807) (hk : k ≤ es.length) (hv : Reads .u8 w v bs) (hbs : bs.length ≤ 4) (hkb : (k : Int) + bs.length ≤ 9223372036854775807) :
    Calls Tryz.prog 124 #[.string s, .int .i64 k, v] w fun e w' => e = .returned (.bool (uPre bs (es.drop k))) ∧ Below w.heap.size w w' := by
  have hsz : s.size = es.length := by rw [hs, strOfNums_size]
  have Hix := hide (show ∀ p (h : p < s.size), (((s[p]'h).toNat : Nat) : Int) = Nt.lb es p from fun p h => by subst hs; exact utxt_at h hb)
  have HD := hide (List.length_drop (i := k) (l := es))
  obtain ⟨L, hL⟩ : ∃ L, es.length = L := ⟨_, rfl⟩
  rw [hL] at hsz hl hk HD
  clear hs hL hb
  obtain ⟨ao, ca, rfl, hxl, hxm, hxc⟩ := hv
  unfold maxLen at hxm
  obtain ⟨R, hR⟩ : ∃ R, uPre bs (es.drop k) = R := ⟨_, rfl⟩
  rw [hR]
  have HR := hide hR
  clear hR
  by_cases hsh : k + bs.length ≤ L
  · have f1 : decide ((L : Int) < (k : Int) + (bs.length : Int)) = false := decide_eq_false (by omega)
    go_enter Tryz.func124, Tryz.ntmps124
    go_wp2
    go_loopw [7] (fun i wr => ∃ j : Nat, j ≤ bs.length ∧ i = .int .i64 j ∧ Hid (∀ i, i < j → Nt.lb (es.drop k) i = Nt.lb bs i) ∧ Below w.heap.size w wr) (fun i _ => bs.length - (intOf i).toNat)
    case atStart => exact ⟨0, Nat.zero_le _, rfl, hide (fun j hj => by omega), Below.refl _ _⟩
    case round =>
      obtain ⟨j, hj, rfl, hsame, hbr⟩ := hrel
      by_cases hlt : j < bs.length
      · obtain ⟨b1, o1, rfl, _, hc1⟩ := (hxc.below hbr) (by omega)
        have g1 := hc1 j hlt
        have hps : k + j < s.size := by omega
        have hx := Hix.out (k + j) hps
        have f2 : 0 ≤ (k : Int) + (j : Int) ∧ (k : Int) + (j : Int) < (L : Int) := by omega
        have f3 : (j : Int) < (bs.length : Int) := by omega
        have hld := hide (ulb_drop es k j)
        clear hc1 hxc
        by_cases hq : Nt.lb es (k + j) = Nt.lb bs j
        · have hq' : (Nt.lb es (k + j) != Nt.lb bs j) = false := by simp [hq]
          have Hq := hide hq
          clear hq
          go_wp2
          go_quiet (fail)
          go_wp2
          go_roundw
          case rel => exact ⟨j + 1, by omega, by go_num, hide (fun i hi => by
                by_cases e : i = j
                · subst e; rw [hld.out]; exact Hq.out
                · exact hsame.out i (by omega)), ubelow_drewN hbr⟩
          case measure => simp [intOf]; omega
        · have hq' : (Nt.lb es (k + j) != Nt.lb bs j) = true := by simp [hq]
          have Hq := hide hq
          clear hq
          go_wp2
          go_quiet (fail)
          go_wp2
          go_ret
          refine ⟨ret_bool ?_, ubelow_drewN hbr⟩
          rw [← HR.out, uPre_no hlt (by rw [HD.out]; omega) (by rw [hld.out]; exact Hq.out)]
      · have f3 : ¬ (j : Int) < (bs.length : Int) := by omega
        go_wp2
        go_ret
        refine ⟨ret_bool ?_, hbr⟩
        rw [← HR.out, uPre_ext (by rw [HD.out]; omega) (fun i hi => hsame.out i (by omega))]
  · have f1 : decide ((L : Int) < (k : Int) + (bs.length : Int)) = true := decide_eq_true (by omega)
    go_enter Tryz.func124, Tryz.ntmps124
    go_wp2
    go_ret
    refine ⟨ret_bool ?_, Below.refl _ _⟩
    rw [← HR.out, uPre_short (by rw [HD.out]; omega)]

theorem ubcell {W w1 : World} (hb : Below W.heap.size W w1) : (∀ b o, b < W.heap.size → w1.cell? ⟨b, o, none⟩ = W.cell? ⟨b, o, none⟩) ∧ (∀ b o, b < W.heap.size → w1.frozen? ⟨b, o, none⟩ = W.frozen? ⟨b, o, none⟩) :=
  ⟨fun b o h => hb.cell (p := ⟨b, o, none⟩) h, fun b o h => hb.frozen (p := ⟨b, o, none⟩) h⟩
theorem ubelow4 {w W : World} {o : Obj} {a b c d : Value} (h : Below (w.alloc o).heap.size (w.alloc o) W) : Below w.heap.size w ((((W.setCell ⟨w.heap.size, 0, none⟩ a).setCell ⟨w.heap.size, 1, none⟩ b).setCell ⟨w.heap.size, 2, none⟩ c).setCell ⟨w.heap.size, 3, none⟩ d) :=
  (((((((Below.refl w.heap.size w).alloc (Nat.le_refl _) o).trans (h.mono (by simp))).setCell (p := ⟨w.heap.size, 0, none⟩) (Nat.le_refl _) a).setCell (p := ⟨w.heap.size, 1, none⟩) (Nat.le_refl _) b).setCell (p := ⟨w.heap.size, 2, none⟩) (Nat.le_refl _) c).setCell (p := ⟨w.heap.size, 3, none⟩) (Nat.le_refl _) d)
/-- what the reference's First finds is what stands there -/
theorem rdec_yes {es : List Int} {k n : Nat} {p : Int} (hk : k < es.length) (hn : (uLead (Nt.lb es k)).2 = n) (hp : p = uRaw (uLead (Nt.lb es k)).1 ((es.drop (k + 1)).take (n - 1))) (h1 : uPt p = true) (h2 : uPre (uEnc p) (es.drop k) = true) (h3 : (uEnc p).length = n) : uDec (es.drop k) = (p, n) := by
  unfold uPre at h2
  have e := of_decide_eq_true h2
  have := List.take_append_drop (uEnc p).length (es.drop k)
  rw [e] at this
  rw [← this, uDec_enc _ h1, h3]
theorem rdec_no {es : List Int} {k n : Nat} {p : Int} (hb : uByt es) (hk : k < es.length) (hn : (uLead (Nt.lb es k)).2 = n) (hp : p = uRaw (uLead (Nt.lb es k)).1 ((es.drop (k + 1)).take (n - 1))) (h : ¬ (uPt p = true ∧ uPre (uEnc p) (es.drop k) = true ∧ (uEnc p).length = n)) : uDec (es.drop k) = (0, 0) := by
  apply uDec_zero
  apply Classical.byContradiction
  intro hne
  obtain ⟨a1, a2, a3⟩ := uDec_cases (hb.drop k) hne
  have hd := uDec_at hk
  rw [hn] at hd
  rw [hd] at hne a1 a2 a3
  split at hne
  · exact hne rfl
  · rename_i g1
    rw [if_neg g1] at a1 a2 a3
    split at hne
    · exact hne rfl
    · rename_i g2
      rw [if_neg g2] at a1 a2 a3
      rw [uGo_eq] at hne a1 a2 a3
      split at hne
      · exact hne rfl
      · rename_i g3
        rw [if_neg g3] at a1 a2 a3
        split at hne
        · rename_i g4
          rw [if_pos g4] at a1 a2 a3
          simp only at a1 a2 a3
          rw [← uRaw_acc (by simpa using g3), ← hp] at a1 a2 a3
          refine h ⟨a1, ?_, a2⟩
          unfold uPre
          rw [decide_eq_true_iff, a3, a2]
          rw [← a2, List.take_left]
        · exact hne rfl
theorem uLead_zero {es : List Int} {k : Nat} (hk : k < es.length) (h : (uLead (Nt.lb es k)).2 = 0 ∨ es.length < k + (uLead (Nt.lb es k)).2) : uDec (es.drop k) = (0, 0) := by
  rw [uDec_at hk]
  split
  · rfl
  · rw [if_pos (by omega)]

/-- the step as the reference has it -/
def uStepV (k : Nat) (c : Int) (D : Int × Nat) : Value := if D.2 = 0 then .agg #[.int .i64 k, .int .i64 1, .int .i64 c, .bool false] else .agg #[.int .i64 k, .int .i64 D.2, .int .i64 D.1, .bool true]
theorem uStepV_no (k : Nat) (c : Int) : uStepV k c (0, 0) = .agg #[.int .i64 k, .int .i64 1, .int .i64 c, .bool false] := rfl
theorem uStepV_yes (k : Nat) (c : Int) {p : Int} {n : Nat} (h : n ≠ 0) : uStepV k c (p, n) = .agg #[.int .i64 k, .int .i64 n, .int .i64 p, .bool true] := by unfold uStepV; rw [if_neg h]

set_option maxRecDepth 100000 in
set_option maxHeartbeats 4000000 in
theorem rfirst_any {w : World} {s : ByteArray} {es : List Int} {k : Nat} (hb : uByt es) (hs : s = strOfNums es) (hl : es.length ≤ 9223372036854775800) (hk : k < es.length) :
    Calls Tryz.prog 89 #[.string s, .int .i64 k] w fun e w' => e = .returned (uStepV k (Nt.lb es k) (uDec (es.drop k))) ∧ Below w.heap.size w w' := by
  have hsz : s.size = es.length := by rw [hs, strOfNums_size]
  have hx : (((s[k]'(by rw [hsz]; exact hk)).toNat : Nat) : Int) = Nt.lb es k := by subst hs; exact utxt_at _ hb
  have hc : 0 ≤ Nt.lb es k ∧ Nt.lb es k < 256 := by have := hb _ (List.getElem_mem hk); simpa [Nt.lb, hk] using this
  have hZ := hide (fun h => uLead_zero (es := es) hk h)
  have hY := hide (fun (p : Int) (n : Nat) h => rdec_yes (es := es) (n := n) (p := p) hk h)
  have hN := hide (fun (p : Int) (n : Nat) h => rdec_no (es := es) (n := n) (p := p) hb hk h)
  have HM := hide (fun h => uLead_mod hc.1 hc.2 h)
  have HBT := hide (fun (n : Nat) hn hkn w => rbits_any (w := w) (n := n) (k := k) hb hs (by omega) hn hkn)
  have HST := hide (fun (bs : List Int) (v : Value) (w : World) hv h1 h2 => rstands_any (w := w) (bs := bs) (v := v) (k := k) hb hs (by omega) (by omega) hv h1 h2)
  have hn4 := uLead_le (Nt.lb es k)
  have HSZ := hide (fun w => rsize_any (w := w) hc.1 hc.2)
  obtain ⟨D, hD⟩ : ∃ D, uDec (es.drop k) = D := ⟨_, rfl⟩
  rw [hD] at hZ hY hN ⊢
  obtain ⟨⟨b, n⟩, hle⟩ : ∃ P, uLead (Nt.lb es k) = P := ⟨_, rfl⟩
  rw [hle] at hZ hY hN HM hn4 HSZ
  obtain ⟨c, hcc⟩ : ∃ c, Nt.lb es k = c := ⟨_, rfl⟩
  rw [hcc] at hx hc HM HBT HSZ ⊢
  simp only at hn4 HSZ HM
  obtain ⟨L, hL⟩ : ∃ L, es.length = L := ⟨_, rfl⟩
  have HL := hide hL
  rw [hL] at hsz hl hk hZ HBT
  have hps : k < s.size := by omega
  have f0 : 0 ≤ (k : Int) ∧ (k : Int) < (L : Int) := by omega
  clear hs hb hD hcc hle hL
  by_cases hn : n = 0
  · subst hn
    have hDe : D = (0, 0) := hZ.out (.inl rfl)
    subst hDe
    rw [uStepV_no]
    go_enter Tryz.func89, Tryz.ntmps89
    go_wp2_with (go_at_call 122; refine (HSZ.out _).mono ?_; rintro e w' ⟨rfl, rfl⟩)
    refine bodyPost_ret (v := .agg #[.int .i64 k, .int .i64 1, .int .i64 c, .bool false]) (by simp [results, Tryz.results89, go_sem]) rfl ⟨rfl, ?_⟩
    exact (Below.refl _ _).alloc (Nat.le_refl _) _
  · have f1 : (0 : Int) < (n : Int) := by omega
    by_cases hlen : k + n ≤ L
    · have f2 : (k : Int) + (n : Int) ≤ (L : Int) := by omega
      have HB2 := hide (HBT.out n (by omega) hlen)
      rw [HM.out hn] at HB2
      obtain ⟨p, hp⟩ : ∃ p, uRaw b ((es.drop (k + 1)).take (n - 1)) = p := ⟨_, rfl⟩
      rw [hp] at HB2
      have hY2 := hide (hY.out p n rfl hp.symm)
      have hN2 := hide (hN.out p n rfl hp.symm)
      clear hY hN hp HBT hZ HM
      cases hpt : uPt p with
      | true =>
        cases hpre : uPre (uEnc p) (es.drop k) with
        | true =>
          by_cases hlen2 : (uEnc p).length = n
          · have hDe : D = (p, n) := hY2.out hpt hpre hlen2
            subst hDe
            rw [uStepV_yes k c hn]
            have q1 : ((n : Int) == (n : Int)) = true := beq_self_eq_true _
            clear hY2 hN2
            go_enter Tryz.func89, Tryz.ntmps89
            go_wp2_with fail
            refine (HSZ.out _).mono ?_
            rintro e w' ⟨rfl, rfl⟩
            go_wp2_with fail
            refine (HB2.out _).mono ?_
            rintro e w1 ⟨rfl, hB1⟩
            go_wp2_with fail
            refine rpoint_any.mono ?_
            rintro e w' ⟨rfl, rfl⟩
            rw [hpt]
            go_wp2_with fail
            refine (renc_any hpt).mono ?_
            rintro e w2 ⟨rfl, rfl⟩
            have hrd : Reads .u8 (w'.alloc (.cells ((uEnc p).map (Value.int .u8)).toArray 5)) (.slice (some ⟨w'.heap.size, 0, none⟩) (uEnc p).length (uEnc p).length) (uEnc p) := built_reads (by have := uEnc_le p; omega)
            have HSTp := hide (HST.out _ _ _ hrd (uEnc_le p) (by have := uEnc_le p; omega))
            rw [hpre, hlen2] at HSTp
            go_wp2_with fail
            refine HSTp.out.mono ?_
            rintro e w3 ⟨rfl, hB3⟩
            have hB4 := hB1.trans (((Below.refl _ _).alloc hB1.size _).trans (hB3.mono (by have := hB1.size; simp at this ⊢; omega)))
            go_wp2_with fail
            refine (renc_any hpt).mono ?_
            rintro e w4 ⟨rfl, rfl⟩
            have hB4 := hB4.trans ((Below.refl _ _).alloc hB4.size (.cells ((uEnc p).map (Value.int .u8)).toArray 5))
            obtain ⟨hcl, hfr⟩ := ubcell hB4
            have HB4 := hide hB4
            go_wp2
            refine bodyPost_ret (v := .agg #[.int .i64 k, .int .i64 n, .int .i64 p, .bool true]) (by simp [results, Tryz.results89, go_sem, hcl]) rfl ⟨rfl, ?_⟩
            exact ubelow4 HB4.out
          · have hDe : D = (0, 0) := hN2.out (fun h => hlen2 h.2.2)
            subst hDe
            rw [uStepV_no]
            obtain ⟨m, hm⟩ : ∃ m, (uEnc p).length = m := ⟨_, rfl⟩
            have q1 : ((m : Int) == (n : Int)) = false := beq_eq_false_iff_ne.2 (by omega)
            clear hY2 hN2 hlen2
            go_enter Tryz.func89, Tryz.ntmps89
            go_wp2_with fail
            refine (HSZ.out _).mono ?_
            rintro e w' ⟨rfl, rfl⟩
            go_wp2_with fail
            refine (HB2.out _).mono ?_
            rintro e w1 ⟨rfl, hB1⟩
            go_wp2_with fail
            refine rpoint_any.mono ?_
            rintro e w' ⟨rfl, rfl⟩
            rw [hpt]
            go_wp2_with fail
            refine (renc_any hpt).mono ?_
            rintro e w2 ⟨rfl, rfl⟩
            have hrd : Reads .u8 (w'.alloc (.cells ((uEnc p).map (Value.int .u8)).toArray 5)) (.slice (some ⟨w'.heap.size, 0, none⟩) (uEnc p).length (uEnc p).length) (uEnc p) := built_reads (by have := uEnc_le p; omega)
            have HSTp := hide (HST.out _ _ _ hrd (uEnc_le p) (by have := uEnc_le p; omega))
            rw [hpre, hm] at HSTp
            go_wp2_with fail
            refine HSTp.out.mono ?_
            rintro e w3 ⟨rfl, hB3⟩
            have hB4 := hB1.trans (((Below.refl _ _).alloc hB1.size _).trans (hB3.mono (by have := hB1.size; simp at this ⊢; omega)))
            go_wp2_with fail
            refine (renc_any hpt).mono ?_
            rintro e w4 ⟨rfl, rfl⟩
            have hB4 := hB4.trans ((Below.refl _ _).alloc hB4.size (.cells ((uEnc p).map (Value.int .u8)).toArray 5))
            obtain ⟨hcl, hfr⟩ := ubcell hB4
            have HB4 := hide hB4
            go_wp2
            refine bodyPost_ret (v := .agg #[.int .i64 k, .int .i64 1, .int .i64 c, .bool false]) (by simp [results, Tryz.results89, go_sem, hcl]) rfl ⟨rfl, ?_⟩
            exact ubelow4 HB4.out
        | false =>
          have hDe : D = (0, 0) := hN2.out (fun h => by rw [hpre] at h; exact absurd h.2.1 (by simp))
          subst hDe
          rw [uStepV_no]
          obtain ⟨m, hm⟩ : ∃ m, (uEnc p).length = m := ⟨_, rfl⟩
          clear hY2 hN2
          go_enter Tryz.func89, Tryz.ntmps89
          go_wp2_with fail
          refine (HSZ.out _).mono ?_
          rintro e w' ⟨rfl, rfl⟩
          go_wp2_with fail
          refine (HB2.out _).mono ?_
          rintro e w1 ⟨rfl, hB1⟩
          go_wp2_with fail
          refine rpoint_any.mono ?_
          rintro e w' ⟨rfl, rfl⟩
          rw [hpt]
          go_wp2_with fail
          refine (renc_any hpt).mono ?_
          rintro e w2 ⟨rfl, rfl⟩
          have hrd : Reads .u8 (w'.alloc (.cells ((uEnc p).map (Value.int .u8)).toArray 5)) (.slice (some ⟨w'.heap.size, 0, none⟩) (uEnc p).length (uEnc p).length) (uEnc p) := built_reads (by have := uEnc_le p; omega)
          have HSTp := hide (HST.out _ _ _ hrd (uEnc_le p) (by have := uEnc_le p; omega))
          rw [hpre, hm] at HSTp
          go_wp2_with fail
          refine HSTp.out.mono ?_
          rintro e w3 ⟨rfl, hB3⟩
          have hB4 := hB1.trans (((Below.refl _ _).alloc hB1.size _).trans (hB3.mono (by have := hB1.size; simp at this ⊢; omega)))
          obtain ⟨hcl, hfr⟩ := ubcell hB4
          have HB4 := hide hB4
          go_wp2
          refine bodyPost_ret (v := .agg #[.int .i64 k, .int .i64 1, .int .i64 c, .bool false]) (by simp [results, Tryz.results89, go_sem, hcl]) rfl ⟨rfl, ?_⟩
          exact ubelow4 HB4.out
      | false =>
        have hDe : D = (0, 0) := hN2.out (fun h => by rw [hpt] at h; exact absurd h.1 (by simp))
        subst hDe
        rw [uStepV_no]
        clear hY2 hN2
        go_enter Tryz.func89, Tryz.ntmps89
        go_wp2_with fail
        refine (HSZ.out _).mono ?_
        rintro e w' ⟨rfl, rfl⟩
        go_wp2_with fail
        refine (HB2.out _).mono ?_
        rintro e w1 ⟨rfl, hB1⟩
        go_wp2_with fail
        refine rpoint_any.mono ?_
        rintro e w' ⟨rfl, rfl⟩
        rw [hpt]
        obtain ⟨hcl, hfr⟩ := ubcell hB1
        have HB4 := hide hB1
        go_wp2
        refine bodyPost_ret (v := .agg #[.int .i64 k, .int .i64 1, .int .i64 c, .bool false]) (by simp [results, Tryz.results89, go_sem, hcl]) rfl ⟨rfl, ?_⟩
        exact ubelow4 HB4.out
    · have f2 : decide ((k : Int) + (n : Int) ≤ (L : Int)) = false := decide_eq_false (by omega)
      have hDe : D = (0, 0) := hZ.out (.inr (by simp only; omega))
      subst hDe
      rw [uStepV_no]
      clear hY hN hZ
      go_enter Tryz.func89, Tryz.ntmps89
      go_wp2_with (go_at_call 122; refine (HSZ.out _).mono ?_; rintro e w' ⟨rfl, rfl⟩)
      refine bodyPost_ret (v := .agg #[.int .i64 k, .int .i64 1, .int .i64 c, .bool false]) (by simp [results, Tryz.results89, go_sem]) rfl ⟨rfl, ?_⟩
      exact (Below.refl _ _).alloc (Nat.le_refl _) _

set_option maxRecDepth 100000 in
set_option maxHeartbeats 4000000 in
theorem rbad_any {w : World} {s : ByteArray} {es ps t : List Int} (hb : uByt es) (hs : s = strOfNums es) (hl : es.length ≤ 9223372036854775800) (hS : USplit es ps t) :
    Calls Tryz.prog 88 #[.string s] w fun e w' => e = .returned (.int .i64 ((uFlat ps).length : Nat)) ∧ Below w.heap.size w w' := by
  have hsz : s.size = es.length := by rw [hs, strOfNums_size]
  have HF := hide (fun (k : Nat) hk w => rfirst_any (w := w) (k := k) hb hs hl hk)
  have HS := hide hS
  obtain ⟨L, hL⟩ : ∃ L, es.length = L := ⟨_, rfl⟩
  rw [hL] at hsz hl
  have HL := hide hL
  clear hs hb hL hS
  go_enter Tryz.func88, Tryz.ntmps88
  go_wp2_with fail
  go_loopg [3] L (fun c i wr => ∃ (k : Nat) (ds rest : List Int), i = .int .i64 k ∧ c = L - k ∧ Hid (ps = ds ++ rest) ∧ Hid ((uFlat ds).length = k) ∧ Below w.heap.size w wr)
  case atStart => exact ⟨0, [], ps, rfl, by simp, hide rfl, hide rfl, Below.refl _ _⟩
  case round =>
    obtain ⟨k, ds, rest, rfl, hg, hp, hk, hbr⟩ := hrel
    have hSp : USplit es (ds ++ rest) t := by rw [← hp.out]; exact HS.out
    have hat := hSp.at
    have hle : k ≤ L := by rw [← hk.out, ← HL.out, hSp.eq, uFlat_append, List.append_assoc, List.length_append]; omega
    rw [hk.out] at hat
    cases rest with
    | nil =>
      have hbad := hSp.bad
      rw [uFlat_nil, List.nil_append] at hat
      have hps : ps = ds := by rw [hp.out, List.append_nil]
      subst hps
      by_cases hlt : k < L
      · have q : (k : Int) < (L : Int) := by omega
        have hz : uDec (es.drop k) = (0, 0) := by rw [hat]; exact uDec_zero hbad
        have HFk := hide (HF.out k (by rw [HL.out]; exact hlt))
        rw [hz, uStepV_no] at HFk
        have HHat := hide hat
        have HSp := hide hSp
        clear hz hat hbad hSp HF
        go_wp2_with (go_at_call 89; refine (HFk.out _).mono ?_; rintro e w1 ⟨rfl, hB1⟩)
        go_ret
        have z1 := hbr.size
        have z2 := hB1.size
        exact ⟨ret_i64 (by rw [hk.out]), (hbr.trans (hB1.mono z1)).alloc (by omega) _⟩
      · have q : ¬ (k : Int) < (L : Int) := by omega
        go_wp2
        go_ret
        exact ⟨ret_i64 (by rw [hk.out]; omega), hbr⟩
    | cons p rest =>
      have hst : uDec (es.drop k) = (p, (uEnc p).length) := by have := hSp.rest.step; rw [hk.out] at this; exact this
      have hpos := uEnc_pos p
      have hall : (uFlat (ds ++ [p])).length ≤ L := by
        rw [← HL.out, hSp.eq, show ds ++ p :: rest = (ds ++ [p]) ++ rest by simp, uFlat_append (ds ++ [p]), List.append_assoc, List.length_append]; omega
      rw [uFlat_snoc, List.length_append, hk.out] at hall
      have Hfs := hide (show (uFlat (ds ++ [p])).length = k + (uEnc p).length by rw [uFlat_snoc, List.length_append, hk.out])
      obtain ⟨z, hz⟩ : ∃ z, (uEnc p).length = z := ⟨_, rfl⟩
      rw [hz] at hst hpos hall Hfs
      have q : (k : Int) < (L : Int) := by omega
      have HFk := hide (HF.out k (by rw [HL.out]; omega))
      rw [hst, uStepV_yes _ _ (by omega)] at HFk
      have HSp := hide hSp
      clear hat hSp hst hz HF
      go_wp2_with (go_at_call 89; refine (HFk.out _).mono ?_; rintro e w1 ⟨rfl, hB1⟩)
      go_roundg (L - (k + z))
      case measure => omega
      case rel =>
        have z1 := hbr.size
        have z2 := hB1.size
        exact ⟨k + z, ds ++ [p], rest, by simp, rfl, hide (by rw [hp.out]; simp), Hfs, (hbr.trans (hB1.mono z1)).alloc (by omega) _⟩

end Go.Proofs.YtddamkdkaijfjaaGreatDoor
