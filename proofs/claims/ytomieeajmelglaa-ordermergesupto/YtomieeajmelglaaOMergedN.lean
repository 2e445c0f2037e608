/- merged: the iterator over two lists (nt) -/
import Derived.Test.YtomieeajmelglaaOKitN
namespace Go.Proofs.Ytomieeajmelglaa
open Go.RowKit Go.Shelf
set_option linter.unusedVariables false
attribute [local go_sem] Oper.semAt_some

set_option maxRecDepth 100000 in
set_option maxHeartbeats 1000000 in
theorem ntmerged_any {w : World} {ao bo : Option Addr} {la ca lb cb g : Nat} {cs : Array Value} : Calls Try.prog 57 #[.slice ao la ca, .slice bo lb cb, .func (.func g) #[] cs] w fun e w' => e = .returned (.func (.func 58) #[] #[.pointer (some ⟨w.heap.size, 0, none⟩), .pointer (some ⟨w.heap.size + 1, 0, none⟩), .pointer (some ⟨w.heap.size + 2, 0, none⟩)]) ∧ w' = ((w.alloc (.cells #[.slice ao la ca] 61)).alloc (.cells #[.slice bo lb cb] 61)).alloc (.cells #[.func (.func g) #[] cs] 60) := by
  go_enter Try.func57, Try.ntmps57
  go_wp2
  go_ret
  exact ⟨rfl, rfl⟩

set_option maxRecDepth 100000 in
set_option maxHeartbeats 8000000 in
theorem ntmerged1_in {n l Ba Bb Bc n₀ N m : Nat} {X : Nat → Prop} {I : World → Prop} {w : World} {va vb cv : Value} {xs ys : List Int} {f : Int → Int → Int} (hn : 1 ≤ n)
    (bA : Boxed w Ba 61 va) (bB : Boxed w Bb 61 vb) (bC : Boxed w Bc 60 cv) (lA : Ba < n₀ ∧ ¬ X Ba) (lB : Bb < n₀ ∧ ¬ X Bb) (lC : Bc < n₀ ∧ ¬ X Bc)
    (ha : NtRd (fun g => g < n₀ ∧ ¬ X g) w va xs) (hb : NtRd (fun g => g < n₀ ∧ ¬ X g) w vb ys) (hc : CmpIsN I cv m f) (hIw : I w) (hI : ∀ W W', I W → BelX X n₀ W W' → I W') (hw : n₀ ≤ w.heap.size) (hN : xs.length + ys.length ≤ N) (hx : xs.length ≤ 4611686018427387903) (hy : ys.length ≤ 4611686018427387903) (hxm : ∀ x ∈ xs, 0 ≤ x ∧ x < (m : Int)) (hym : ∀ x ∈ ys, 0 ≤ x ∧ x < (m : Int))
    (J Jx : List Int → World → Prop) (hY : ∀ pre x W, J pre W → pre.length < N → YieldAt Fence.wide (n - 1) Try.prog l (ntEncs x) W fun e W' =>
      (e = .returned (.bool true) ∧ J (pre ++ [x]) W' ∧ BelX X n₀ W W') ∨ (e = .returned (.bool false) ∧ Jx (pre ++ [x]) W'))
    (W : World) (hJ : AbidesFrom W.heap.size J) (hW : Below w.heap.size w W) (h0 : J [] W) :
    CallsIn Fence.wide n Try.prog 58 #[.func (.yield l) #[] #[], .pointer (some ⟨Ba, 0, none⟩), .pointer (some ⟨Bb, 0, none⟩), .pointer (some ⟨Bc, 0, none⟩)] W fun e W' => (∃ v, e = .returned v) ∧
      ((∃ zs, zs = mrg f xs ys ∧ J zs W') ∨ (∃ pre, pre <+: mrg f xs ys ∧ Jx pre W')) := by
  obtain ⟨cg, cl, rfl, eg, hcall⟩ := hc.val
  obtain ⟨ao, ca, rfl, hac, ham, hacl⟩ := ha
  obtain ⟨bo, cb, rfl, hbc, hbm, hbcl⟩ := hb
  unfold maxLen at ham hbm
  have RA := hide hacl
  have RB := hide hbcl
  have HC := hide hcall
  have HY := hide hY
  have HII := hide hI
  have HIw := hide hIw
  have HJ := hide hJ
  have BA := hide bA
  have BB := hide bB
  have BC := hide bC
  clear hacl hbcl hcall hY hI hIw hJ bA bB bC hc
  have HXM := hide hxm
  have HYM := hide hym
  clear hxm hym
  obtain ⟨Z, hZ⟩ : ∃ Z, mrg f xs ys = Z := ⟨_, rfl⟩
  rw [hZ]
  have HZ := hide hZ
  clear hZ
  refine callsIn_of_wp Try.func58 rfl trivial ?_ rfl
  simp only [Try.ntmps58, List.size_toArray, List.length_cons, List.length_nil, Nat.reduceAdd, Nat.reduceSub, Array.replicate_succ, Array.replicate_zero, List.push_toArray, List.append_toArray, List.nil_append, List.cons_append]
  gi_wp2
  gi_loopw [5, 6] (fun p q wr => ∃ (i j : Nat) (pre : List Int), p = .int .i64 i ∧ q = .int .i64 j ∧ i ≤ xs.length ∧ j ≤ ys.length ∧ Hid (pre ++ mrg f (xs.drop i) (ys.drop j) = Z) ∧ pre.length = i + j ∧ Hid (BelX X n₀ w wr) ∧ W.heap.size ≤ wr.heap.size ∧ J pre wr)
    (fun p q _ => xs.length + ys.length - ((intOf p).toNat + (intOf q).toNat))
  case atStart => exact ⟨0, 0, [], rfl, rfl, by omega, by omega, hide (by simpa using HZ.out), rfl, hide (BelX.of hW hw), Nat.le_refl _, h0⟩
  case round =>
    obtain ⟨i, j, pre, rfl, rfl, hi, hj, hpre, hpl, hB, hWr, hJw⟩ := hrel
    have bA := hB.out.boxed BA.out lA.1 lA.2
    have bB := hB.out.boxed BB.out lB.1 lB.2
    have bC := hB.out.boxed BC.out lC.1 lC.2
    have cA := bA.cell
    have cB := bB.cell
    have cC := bC.cell
    by_cases hi1 : i < xs.length
    · by_cases hj1 : j < ys.length
      · skip
        by_cases hf : f ys[j] xs[i] < 0
        · skip
          have q1 : (i : Int) < (xs.length : Int) := by omega
          have d1 : decide ((i : Int) < (xs.length : Int)) = true := by simp; omega
          have e1 : ((i : Int) == (xs.length : Int)) = false := by simp; omega
          obtain ⟨ga, oa, rfl, Ga, la, ia⟩ := RA.out (by omega)
          obtain ⟨x1, hxi⟩ : ∃ x, xs[i] = x := ⟨_, rfl⟩
          have HX1 := hide (show 0 ≤ x1 ∧ x1 < (m : Int) by rw [← hxi]; exact HXM.out _ (List.getElem_mem _))
          have IA := hide (ia i hi1)
          rw [hxi] at IA
          clear ia
          have q2 : (j : Int) < (ys.length : Int) := by omega
          have d2 : decide ((j : Int) < (ys.length : Int)) = true := by simp; omega
          obtain ⟨gb, ob, rfl, Gb, lb, ib⟩ := RB.out (by omega)
          obtain ⟨y1, hyj⟩ : ∃ y, ys[j] = y := ⟨_, rfl⟩
          have HY1 := hide (show 0 ≤ y1 ∧ y1 < (m : Int) by rw [← hyj]; exact HYM.out _ (List.getElem_mem _))
          have IB := hide (ib j hj1)
          rw [hyj] at IB
          clear ib
          have hf' := hf
          rw [hxi, hyj] at hf'
          obtain ⟨fv, hfv⟩ : ∃ fv, f y1 x1 = fv := ⟨_, rfl⟩
          rw [hfv] at hf'
          have HFV := hide hfv
          clear hfv
          have d3 : decide (fv < 0) = true := by simpa using hf'
          have HF := hide hf
          clear hf
          gi_wp2
          obtain ⟨W1, hW1⟩ : ∃ W1, wr = W1 := ⟨_, rfl⟩
          have K1 : Below wr.heap.size wr W1 := by rw [← hW1]; exact Below.refl _ wr
          rw [hW1]
          have HWW := hide hW1
          clear hW1 cA cB cC
          have B1 : Hid (BelX X n₀ w W1) := hide (hB.out.trans (BelX.of K1 (Nat.le_trans hw hB.out.size)))
          have WC : Hid (∀ (U : World), Below W1.heap.size W1 U → ∀ (p : Addr), p.block < n₀ ∧ ¬ X p.block → U.cell? p = w.cell? p) := hide (fun U k p hp => (B1.out.trans (BelX.of k (Nat.le_trans hw B1.out.size))).cell hp.1 hp.2)
          have CF : Hid (∀ U, Below W1.heap.size W1 U → U.cell? ⟨Ba, 0, none⟩ = some (.slice (some ⟨ga, oa, none⟩) xs.length ca) ∧ U.cell? ⟨Bb, 0, none⟩ = some (.slice (some ⟨gb, ob, none⟩) ys.length cb) ∧ U.cell? ⟨Bc, 0, none⟩ = some (.func (.func cg) #[] cl) ∧ U.cell? ⟨ga, oa + i, none⟩ = some (.int .i64 x1) ∧ U.cell? ⟨gb, ob + j, none⟩ = some (.int .i64 y1)) := hide (fun U k => ⟨(WC.out U k ⟨Ba, 0, none⟩ lA).trans BA.out.cell, (WC.out U k ⟨Bb, 0, none⟩ lB).trans BB.out.cell, (WC.out U k ⟨Bc, 0, none⟩ lC).trans BC.out.cell, (WC.out U k ⟨ga, _, none⟩ Ga).trans IA.out, (WC.out U k ⟨gb, _, none⟩ Gb).trans IB.out⟩)
          refine wpIn_wide.2 ?_
          have K : Below W1.heap.size W1 W1.drew := (Below.refl _ _).drew
          first | go_region_held3 (fun u => u.cell? ⟨Ba, 0, none⟩ = some (.slice (some ⟨ga, oa, none⟩) xs.length ca) ∧ u.cell? ⟨Bb, 0, none⟩ = some (.slice (some ⟨gb, ob, none⟩) ys.length cb) ∧ u.cell? ⟨Bc, 0, none⟩ = some (.func (.func cg) #[] cl) ∧ u.cell? ⟨ga, oa + i, none⟩ = some (.int .i64 x1) ∧ u.cell? ⟨gb, ob + j, none⟩ = some (.int .i64 y1))
            (first | with_reducible exact CF.out _ K | go_keep)
            (first | (go_at_fn cg; (with_reducible refine (HC.out _ y1 x1 (HII.out _ _ HIw.out (B1.out.trans (BelX.of K (Nat.le_trans hw B1.out.size)))) HY1.out.1 HY1.out.2 HX1.out.1 HX1.out.2).mono ?_); rintro e w8 ⟨rfl, hb⟩; rw [HFV.out]; replace K := K.trans (hb.mono K.size); clear hb)) | fail "region"
          obtain ⟨f0, f1, f2, f3, f4⟩ := CF.out _ K
          have HU : Below wr.heap.size wr w8 := K1.trans (K.mono K1.size)
          have Jp := HJ.out pre wr _ none hJw (ograwn HU) (fun r e => by cases e)
          obtain ⟨fn, tmps, assign, body, hy, hR⟩ := HY.out pre y1 _ Jp (by omega)
          dsimp only [ntEncs, ntV] at hy
          have HU := hide HU
          clear K K1 CF WC B1
          gi_wp2
          refine hR.mono ?_
          rintro e W3 (⟨rfl, hJ3, hk3⟩ | ⟨rfl, hJx3⟩)
          · have hB3 := hide (hB.out.trans ((BelX.of HU.out (Nat.le_trans hw hB.out.size)).trans hk3))
            have hs3 := Nat.le_trans hWr (Nat.le_trans HU.out.size hk3.size)
            gi_wp2
            go_roundw
            case rel => exact ⟨i, j + 1, _, rfl, by simp, by omega, by omega, hide (by rw [← hpre.out, mrg_lt hi1 hj1 hxi hyj HF.out]; simp), by simp; omega, hB3, hs3, hJ3⟩
            case measure => simp [intOf]; omega
          · gi_wp2
            refine bodyPost_ret (results_none rfl _ _ _) rfl ?_
            refine ⟨⟨_, rfl⟩, .inr ⟨_, ?_, hJx3⟩⟩
            rw [← hpre.out, mrg_lt hi1 hj1 hxi hyj HF.out]
            exact ⟨mrg f (xs.drop i) (ys.drop (j + 1)), by simp⟩
        · skip
          have q1 : (i : Int) < (xs.length : Int) := by omega
          have d1 : decide ((i : Int) < (xs.length : Int)) = true := by simp; omega
          have e1 : ((i : Int) == (xs.length : Int)) = false := by simp; omega
          obtain ⟨ga, oa, rfl, Ga, la, ia⟩ := RA.out (by omega)
          obtain ⟨x1, hxi⟩ : ∃ x, xs[i] = x := ⟨_, rfl⟩
          have HX1 := hide (show 0 ≤ x1 ∧ x1 < (m : Int) by rw [← hxi]; exact HXM.out _ (List.getElem_mem _))
          have IA := hide (ia i hi1)
          rw [hxi] at IA
          clear ia
          have q2 : (j : Int) < (ys.length : Int) := by omega
          have d2 : decide ((j : Int) < (ys.length : Int)) = true := by simp; omega
          obtain ⟨gb, ob, rfl, Gb, lb, ib⟩ := RB.out (by omega)
          obtain ⟨y1, hyj⟩ : ∃ y, ys[j] = y := ⟨_, rfl⟩
          have HY1 := hide (show 0 ≤ y1 ∧ y1 < (m : Int) by rw [← hyj]; exact HYM.out _ (List.getElem_mem _))
          have IB := hide (ib j hj1)
          rw [hyj] at IB
          clear ib
          have hf' := hf
          rw [hxi, hyj] at hf'
          obtain ⟨fv, hfv⟩ : ∃ fv, f y1 x1 = fv := ⟨_, rfl⟩
          rw [hfv] at hf'
          have HFV := hide hfv
          clear hfv
          have d3 : decide (fv < 0) = false := by simpa using hf'
          have HF := hide hf
          clear hf
          gi_wp2
          obtain ⟨W1, hW1⟩ : ∃ W1, wr = W1 := ⟨_, rfl⟩
          have K1 : Below wr.heap.size wr W1 := by rw [← hW1]; exact Below.refl _ wr
          rw [hW1]
          have HWW := hide hW1
          clear hW1 cA cB cC
          have B1 : Hid (BelX X n₀ w W1) := hide (hB.out.trans (BelX.of K1 (Nat.le_trans hw hB.out.size)))
          have WC : Hid (∀ (U : World), Below W1.heap.size W1 U → ∀ (p : Addr), p.block < n₀ ∧ ¬ X p.block → U.cell? p = w.cell? p) := hide (fun U k p hp => (B1.out.trans (BelX.of k (Nat.le_trans hw B1.out.size))).cell hp.1 hp.2)
          have CF : Hid (∀ U, Below W1.heap.size W1 U → U.cell? ⟨Ba, 0, none⟩ = some (.slice (some ⟨ga, oa, none⟩) xs.length ca) ∧ U.cell? ⟨Bb, 0, none⟩ = some (.slice (some ⟨gb, ob, none⟩) ys.length cb) ∧ U.cell? ⟨Bc, 0, none⟩ = some (.func (.func cg) #[] cl) ∧ U.cell? ⟨ga, oa + i, none⟩ = some (.int .i64 x1) ∧ U.cell? ⟨gb, ob + j, none⟩ = some (.int .i64 y1)) := hide (fun U k => ⟨(WC.out U k ⟨Ba, 0, none⟩ lA).trans BA.out.cell, (WC.out U k ⟨Bb, 0, none⟩ lB).trans BB.out.cell, (WC.out U k ⟨Bc, 0, none⟩ lC).trans BC.out.cell, (WC.out U k ⟨ga, _, none⟩ Ga).trans IA.out, (WC.out U k ⟨gb, _, none⟩ Gb).trans IB.out⟩)
          refine wpIn_wide.2 ?_
          have K : Below W1.heap.size W1 W1.drew := (Below.refl _ _).drew
          first | go_region_held3 (fun u => u.cell? ⟨Ba, 0, none⟩ = some (.slice (some ⟨ga, oa, none⟩) xs.length ca) ∧ u.cell? ⟨Bb, 0, none⟩ = some (.slice (some ⟨gb, ob, none⟩) ys.length cb) ∧ u.cell? ⟨Bc, 0, none⟩ = some (.func (.func cg) #[] cl) ∧ u.cell? ⟨ga, oa + i, none⟩ = some (.int .i64 x1) ∧ u.cell? ⟨gb, ob + j, none⟩ = some (.int .i64 y1))
            (first | with_reducible exact CF.out _ K | go_keep)
            (first | (go_at_fn cg; (with_reducible refine (HC.out _ y1 x1 (HII.out _ _ HIw.out (B1.out.trans (BelX.of K (Nat.le_trans hw B1.out.size)))) HY1.out.1 HY1.out.2 HX1.out.1 HX1.out.2).mono ?_); rintro e w8 ⟨rfl, hb⟩; rw [HFV.out]; replace K := K.trans (hb.mono K.size); clear hb)) | fail "region"
          obtain ⟨f0, f1, f2, f3, f4⟩ := CF.out _ K
          have HU : Below wr.heap.size wr w8 := K1.trans (K.mono K1.size)
          have Jp := HJ.out pre wr _ none hJw (ograwn HU) (fun r e => by cases e)
          obtain ⟨fn, tmps, assign, body, hy, hR⟩ := HY.out pre x1 _ Jp (by omega)
          dsimp only [ntEncs, ntV] at hy
          have HU := hide HU
          clear K K1 CF WC B1
          gi_wp2
          refine hR.mono ?_
          rintro e W3 (⟨rfl, hJ3, hk3⟩ | ⟨rfl, hJx3⟩)
          · have hB3 := hide (hB.out.trans ((BelX.of HU.out (Nat.le_trans hw hB.out.size)).trans hk3))
            have hs3 := Nat.le_trans hWr (Nat.le_trans HU.out.size hk3.size)
            gi_wp2
            go_roundw
            case rel => exact ⟨i + 1, j, _, by simp, rfl, by omega, by omega, hide (by rw [← hpre.out, mrg_ge hi1 hj1 hxi hyj HF.out]; simp), by simp; omega, hB3, hs3, hJ3⟩
            case measure => simp [intOf]; omega
          · gi_wp2
            refine bodyPost_ret (results_none rfl _ _ _) rfl ?_
            refine ⟨⟨_, rfl⟩, .inr ⟨_, ?_, hJx3⟩⟩
            rw [← hpre.out, mrg_ge hi1 hj1 hxi hyj HF.out]
            exact ⟨mrg f (xs.drop (i + 1)) (ys.drop j), by simp⟩
      · skip
        have q1 : (i : Int) < (xs.length : Int) := by omega
        have d1 : decide ((i : Int) < (xs.length : Int)) = true := by simp; omega
        have e1 : ((i : Int) == (xs.length : Int)) = false := by simp; omega
        obtain ⟨ga, oa, rfl, Ga, la, ia⟩ := RA.out (by omega)
        obtain ⟨x1, hxi⟩ : ∃ x, xs[i] = x := ⟨_, rfl⟩
        have HX1 := hide (show 0 ≤ x1 ∧ x1 < (m : Int) by rw [← hxi]; exact HXM.out _ (List.getElem_mem _))
        have IA := hide (ia i hi1)
        rw [hxi] at IA
        clear ia
        have q2 : ¬ (j : Int) < (ys.length : Int) := by omega
        have d2 : decide ((j : Int) < (ys.length : Int)) = false := by simp; omega
        skip
        gi_wp2
        obtain ⟨W1, hW1⟩ : ∃ W1, wr = W1 := ⟨_, rfl⟩
        have K1 : Below wr.heap.size wr W1 := by rw [← hW1]; exact Below.refl _ wr
        rw [hW1]
        have HWW := hide hW1
        clear hW1 cA cB cC
        have B1 : Hid (BelX X n₀ w W1) := hide (hB.out.trans (BelX.of K1 (Nat.le_trans hw hB.out.size)))
        have WC : Hid (∀ (U : World), Below W1.heap.size W1 U → ∀ (p : Addr), p.block < n₀ ∧ ¬ X p.block → U.cell? p = w.cell? p) := hide (fun U k p hp => (B1.out.trans (BelX.of k (Nat.le_trans hw B1.out.size))).cell hp.1 hp.2)
        have CF : Hid (∀ U, Below W1.heap.size W1 U → U.cell? ⟨Ba, 0, none⟩ = some (.slice (some ⟨ga, oa, none⟩) xs.length ca) ∧ U.cell? ⟨Bb, 0, none⟩ = some (.slice bo ys.length cb) ∧ U.cell? ⟨Bc, 0, none⟩ = some (.func (.func cg) #[] cl) ∧ U.cell? ⟨ga, oa + i, none⟩ = some (.int .i64 x1)) := hide (fun U k => ⟨(WC.out U k ⟨Ba, 0, none⟩ lA).trans BA.out.cell, (WC.out U k ⟨Bb, 0, none⟩ lB).trans BB.out.cell, (WC.out U k ⟨Bc, 0, none⟩ lC).trans BC.out.cell, (WC.out U k ⟨ga, _, none⟩ Ga).trans IA.out⟩)
        refine wpIn_wide.2 ?_
        obtain ⟨f0, f1, f2, f3⟩ := CF.out W1 (Below.refl _ _)
        go_quiet (fail)
        obtain ⟨w8, hU⟩ : ∃ U, W1.drewN nq = U := ⟨_, rfl⟩
        have K : Below W1.heap.size W1 w8 := by rw [← hU]; exact obel_drewN W1 nq
        rw [hU]
        clear hU f0 f1 f2 f3
        obtain ⟨f0, f1, f2, f3⟩ := CF.out _ K
        have HU : Below wr.heap.size wr w8 := K1.trans (K.mono K1.size)
        have Jp := HJ.out pre wr _ none hJw (ograwn HU) (fun r e => by cases e)
        obtain ⟨fn, tmps, assign, body, hy, hR⟩ := HY.out pre x1 _ Jp (by omega)
        dsimp only [ntEncs, ntV] at hy
        have HU := hide HU
        clear K K1 CF WC B1
        gi_wp2
        refine hR.mono ?_
        rintro e W3 (⟨rfl, hJ3, hk3⟩ | ⟨rfl, hJx3⟩)
        · have hB3 := hide (hB.out.trans ((BelX.of HU.out (Nat.le_trans hw hB.out.size)).trans hk3))
          have hs3 := Nat.le_trans hWr (Nat.le_trans HU.out.size hk3.size)
          gi_wp2
          go_roundw
          case rel => exact ⟨i + 1, j, _, by simp, rfl, by omega, by omega, hide (by rw [← hpre.out, mrg_a hi1 hj1 hxi]; simp), by simp; omega, hB3, hs3, hJ3⟩
          case measure => simp [intOf]; omega
        · gi_wp2
          refine bodyPost_ret (results_none rfl _ _ _) rfl ?_
          refine ⟨⟨_, rfl⟩, .inr ⟨_, ?_, hJx3⟩⟩
          rw [← hpre.out, mrg_a hi1 hj1 hxi]
          exact ⟨mrg f (xs.drop (i + 1)) (ys.drop j), by simp⟩
    · by_cases hj1 : j < ys.length
      · skip
        have q1 : ¬ (i : Int) < (xs.length : Int) := by omega
        have d1 : decide ((i : Int) < (xs.length : Int)) = false := by simp; omega
        have e1 : ((i : Int) == (xs.length : Int)) = true := by simp; omega
        have q2 : (j : Int) < (ys.length : Int) := by omega
        have d2 : decide ((j : Int) < (ys.length : Int)) = true := by simp; omega
        obtain ⟨gb, ob, rfl, Gb, lb, ib⟩ := RB.out (by omega)
        obtain ⟨y1, hyj⟩ : ∃ y, ys[j] = y := ⟨_, rfl⟩
        have HY1 := hide (show 0 ≤ y1 ∧ y1 < (m : Int) by rw [← hyj]; exact HYM.out _ (List.getElem_mem _))
        have IB := hide (ib j hj1)
        rw [hyj] at IB
        clear ib
        skip
        gi_wp2
        obtain ⟨W1, hW1⟩ : ∃ W1, wr = W1 := ⟨_, rfl⟩
        have K1 : Below wr.heap.size wr W1 := by rw [← hW1]; exact Below.refl _ wr
        rw [hW1]
        have HWW := hide hW1
        clear hW1 cA cB cC
        have B1 : Hid (BelX X n₀ w W1) := hide (hB.out.trans (BelX.of K1 (Nat.le_trans hw hB.out.size)))
        have WC : Hid (∀ (U : World), Below W1.heap.size W1 U → ∀ (p : Addr), p.block < n₀ ∧ ¬ X p.block → U.cell? p = w.cell? p) := hide (fun U k p hp => (B1.out.trans (BelX.of k (Nat.le_trans hw B1.out.size))).cell hp.1 hp.2)
        have CF : Hid (∀ U, Below W1.heap.size W1 U → U.cell? ⟨Ba, 0, none⟩ = some (.slice ao xs.length ca) ∧ U.cell? ⟨Bb, 0, none⟩ = some (.slice (some ⟨gb, ob, none⟩) ys.length cb) ∧ U.cell? ⟨Bc, 0, none⟩ = some (.func (.func cg) #[] cl) ∧ U.cell? ⟨gb, ob + j, none⟩ = some (.int .i64 y1)) := hide (fun U k => ⟨(WC.out U k ⟨Ba, 0, none⟩ lA).trans BA.out.cell, (WC.out U k ⟨Bb, 0, none⟩ lB).trans BB.out.cell, (WC.out U k ⟨Bc, 0, none⟩ lC).trans BC.out.cell, (WC.out U k ⟨gb, _, none⟩ Gb).trans IB.out⟩)
        refine wpIn_wide.2 ?_
        obtain ⟨f0, f1, f2, f3⟩ := CF.out W1 (Below.refl _ _)
        go_quiet (fail)
        obtain ⟨w8, hU⟩ : ∃ U, W1.drewN nq = U := ⟨_, rfl⟩
        have K : Below W1.heap.size W1 w8 := by rw [← hU]; exact obel_drewN W1 nq
        rw [hU]
        clear hU f0 f1 f2 f3
        obtain ⟨f0, f1, f2, f3⟩ := CF.out _ K
        have HU : Below wr.heap.size wr w8 := K1.trans (K.mono K1.size)
        have Jp := HJ.out pre wr _ none hJw (ograwn HU) (fun r e => by cases e)
        obtain ⟨fn, tmps, assign, body, hy, hR⟩ := HY.out pre y1 _ Jp (by omega)
        dsimp only [ntEncs, ntV] at hy
        have HU := hide HU
        clear K K1 CF WC B1
        gi_wp2
        refine hR.mono ?_
        rintro e W3 (⟨rfl, hJ3, hk3⟩ | ⟨rfl, hJx3⟩)
        · have hB3 := hide (hB.out.trans ((BelX.of HU.out (Nat.le_trans hw hB.out.size)).trans hk3))
          have hs3 := Nat.le_trans hWr (Nat.le_trans HU.out.size hk3.size)
          gi_wp2
          go_roundw
          case rel => exact ⟨i, j + 1, _, rfl, by simp, by omega, by omega, hide (by rw [← hpre.out, mrg_b hi1 hj1 hyj]; simp), by simp; omega, hB3, hs3, hJ3⟩
          case measure => simp [intOf]; omega
        · gi_wp2
          refine bodyPost_ret (results_none rfl _ _ _) rfl ?_
          refine ⟨⟨_, rfl⟩, .inr ⟨_, ?_, hJx3⟩⟩
          rw [← hpre.out, mrg_b hi1 hj1 hyj]
          exact ⟨mrg f (xs.drop i) (ys.drop (j + 1)), by simp⟩
      · obtain rfl : i = xs.length := by omega
        obtain rfl : j = ys.length := by omega
        gi_wp2
        go_end0
        exact ⟨⟨_, rfl⟩, .inl ⟨pre, by have := hpre.out; simpa [mrg] using this, hJw⟩⟩

/-- the iterator, over two lists that lie in boxes -/
theorem ntmerged_stops {n Ba Bb Bc n₀ m : Nat} {X : Nat → Prop} {I : World → Prop} {w : World} {va vb cv : Value} {xs ys : List Int} {f : Int → Int → Int} (hn : 1 ≤ n)
    (bA : Boxed w Ba 61 va) (bB : Boxed w Bb 61 vb) (bC : Boxed w Bc 60 cv) (lA : Ba < n₀ ∧ ¬ X Ba) (lB : Bb < n₀ ∧ ¬ X Bb) (lC : Bc < n₀ ∧ ¬ X Bc)
    (ha : NtRd (fun g => g < n₀ ∧ ¬ X g) w va xs) (hb : NtRd (fun g => g < n₀ ∧ ¬ X g) w vb ys) (hc : CmpIsN I cv m f) (hIw : I w) (hI : ∀ W W', I W → BelX X n₀ W W' → I W') (hw : n₀ ≤ w.heap.size) (hx : xs.length ≤ 4611686018427387903) (hy : ys.length ≤ 4611686018427387903) (hxm : ∀ x ∈ xs, 0 ≤ x ∧ x < (m : Int)) (hym : ∀ x ∈ ys, 0 ≤ x ∧ x < (m : Int)) :
    SeqStopsK Fence.wide n Try.prog 58 #[.pointer (some ⟨Ba, 0, none⟩), .pointer (some ⟨Bb, 0, none⟩), .pointer (some ⟨Bc, 0, none⟩)] ntEncs (BelX X n₀) (fun zs => zs = mrg f xs ys) (fun pre => pre <+: mrg f xs ys) (xs.length + ys.length) w := fun l J Jx W hW hJ _ hY h0 =>
  ntmerged1_in hn bA bB bC lA lB lC ha hb hc hIw hI hw (Nat.le_refl _) hx hy hxm hym J Jx hY W hJ hW h0

end Go.Proofs.Ytomieeajmelglaa
