import Derived.Test.YticmlelalbaalaaGreatDoorB18
import Derived.Sort.CutIn
import Derived.Test.YticmlelalbaalaaGreatDoorB19
namespace Go.Proofs.YticmlelalbaalaaGreatDoor
open Go.RowKit Go.Shelf
set_option linter.unusedVariables false
set_option linter.unusedSimpArgs false
attribute [local go_sem] Oper.semAt_some
set_option maxRecDepth 100000 in
set_option maxHeartbeats 1000000 in
theorem enmerged_any {w : World} {ao bo : Option Addr} {la ca lb cb g : Nat} {cs : Array Value} : Calls Tryz.prog 147 #[.slice ao la ca, .slice bo lb cb, .func (.func g) #[] cs] w fun e w' => e = .returned (.func (.func 176) #[] #[.pointer (some ⟨w.heap.size, 0, none⟩), .pointer (some ⟨w.heap.size + 1, 0, none⟩), .pointer (some ⟨w.heap.size + 2, 0, none⟩)]) ∧ w' = ((w.alloc (.cells #[.slice ao la ca] 107)).alloc (.cells #[.slice bo lb cb] 107)).alloc (.cells #[.func (.func g) #[] cs] 114) := by
  go_enter Tryz.func147, Tryz.ntmps147
  go_wp2
  go_ret
  exact ⟨rfl, rfl⟩
theorem ent_new {wr W1 U : World} {z : Array Value} (h : W1.heap[wr.heap.size]? = some (.cells z 112 (0, 0))) (K : Below W1.heap.size W1 U) (K1 : Below wr.heap.size wr W1) (x : En) (hz : z.size = 17 := by rfl) :
    U.there wr.heap.size 0 17 ∧ (U.setCells wr.heap.size 0 (enL x)).rangeAt wr.heap.size 0 (enL x) ∧ Below wr.heap.size wr (U.setCells wr.heap.size 0 (enL x)) := by
  have hl : wr.heap.size < W1.heap.size := (Array.getElem?_eq_some_iff.1 h).1
  have h2 := (K.block _ hl).trans h
  have ht := there_blk h2 (o := 0) (n := 17) (by rw [hz]; exact Nat.le_refl _)
  exact ⟨ht, World.rangeAt_setCells_same U _ 0 (enL x) (by rw [enL_len]; exact ht), below_cells (K1.trans (K.mono (by omega))) (Nat.le_refl _) _ _⟩
set_option maxRecDepth 100000 in
set_option maxHeartbeats 8000000 in
theorem enmerged1_in {n l Ba Bb Bc n₀ N : Nat} {X : Nat → Prop} {I : World → Prop} {w : World} {va vb cv : Value} {xs ys : List En} {f : En → En → Int} (hn : 1 ≤ n)
    (bA : Boxed w Ba 107 va) (bB : Boxed w Bb 107 vb) (bC : Boxed w Bc 114 cv) (lA : Ba < n₀ ∧ ¬ X Ba) (lB : Bb < n₀ ∧ ¬ X Bb) (lC : Bc < n₀ ∧ ¬ X Bc)
    (ha : EnRd (fun g => g < n₀ ∧ ¬ X g) w va xs) (hb : EnRd (fun g => g < n₀ ∧ ¬ X g) w vb ys) {Pd : En → Prop} (hc : CmpIsE I cv Pd f) (hpa : ∀ x ∈ xs, Pd x) (hpb : ∀ x ∈ ys, Pd x) (hIw : I w) (hI : ∀ W W', I W → BelX X n₀ W W' → I W') (hw : n₀ ≤ w.heap.size) (hN : xs.length + ys.length ≤ N) (hx : xs.length ≤ 4611686018427387903) (hy : ys.length ≤ 4611686018427387903)
    (J Jx : List En → World → Prop) (hY : ∀ pre x W, J pre W → pre.length < N → YieldAt Fence.wide (n - 1) Tryz.prog l (enEncs x) W fun e W' =>
      (e = .returned (.bool true) ∧ J (pre ++ [x]) W' ∧ BelX X n₀ W W') ∨ (e = .returned (.bool false) ∧ Jx (pre ++ [x]) W'))
    (W : World) (hJ : AbidesFrom W.heap.size J) (hW : Below w.heap.size w W) (h0 : J [] W) :
    CallsIn Fence.wide n Tryz.prog 176 #[.func (.yield l) #[] #[], .pointer (some ⟨Ba, 0, none⟩), .pointer (some ⟨Bb, 0, none⟩), .pointer (some ⟨Bc, 0, none⟩)] W fun e W' => (∃ v, e = .returned v) ∧
      ((∃ zs, zs = mrg f xs ys ∧ J zs W') ∨ (∃ pre, pre <+: mrg f xs ys ∧ Jx pre W')) := by
  obtain ⟨cg, cl, rfl, eg, hcall⟩ := hc.val
  obtain ⟨ao, ca, rfl, hac, ham, hacl⟩ := ha
  obtain ⟨bo, cb, rfl, hbc, hbm, hbcl⟩ := hb
  unfold maxLen at ham hbm
  have HPA := hide hpa
  have HPB := hide hpb
  clear hpa hpb
  have RA := hide hacl
  have RB := hide hbcl
  have HC := hide hcall
  have HY := hide hY
  have HII := hide hI
  have HIw := hide hIw
  have HJ := hide hJ
  have BA := hide bA
  have BB := hide bB
  have BC := hide bC
  clear hacl hbcl hcall hY hI hIw hJ bA bB bC hc
  obtain ⟨Z, hZ⟩ : ∃ Z, mrg f xs ys = Z := ⟨_, rfl⟩
  rw [hZ]
  have HZ := hide hZ
  clear hZ
  refine callsIn_of_wp Tryz.func176 rfl trivial ?_ rfl
  simp only [Tryz.ntmps176, List.size_toArray, List.length_cons, List.length_nil, Nat.reduceAdd, Nat.reduceSub, Array.replicate_succ, Array.replicate_zero, List.push_toArray, List.append_toArray, List.nil_append, List.cons_append]
  gi_wp2
  gi_loopw [5, 6] (fun p q wr => ∃ (i j : Nat) (pre : List En), p = .int .i64 i ∧ q = .int .i64 j ∧ i ≤ xs.length ∧ j ≤ ys.length ∧ Hid (pre ++ mrg f (xs.drop i) (ys.drop j) = Z) ∧ pre.length = i + j ∧ Hid (BelX X n₀ w wr) ∧ W.heap.size ≤ wr.heap.size ∧ J pre wr)
    (fun p q _ => xs.length + ys.length - ((intOf p).toNat + (intOf q).toNat))
  case atStart => exact ⟨0, 0, [], rfl, rfl, by omega, by omega, hide (by simpa using HZ.out), rfl, hide (BelX.of hW hw), Nat.le_refl _, h0⟩
  case round =>
    obtain ⟨i, j, pre, rfl, rfl, hi, hj, hpre, hpl, hB, hWr, hJw⟩ := hrel
    have bA := hB.out.boxed BA.out lA.1 lA.2
    have bB := hB.out.boxed BB.out lB.1 lB.2
    have bC := hB.out.boxed BC.out lC.1 lC.2
    have cA := bA.cell
    have cB := bB.cell
    have cC := bC.cell
    by_cases hi1 : i < xs.length
    · by_cases hj1 : j < ys.length
      · skip
        by_cases hf : f ys[j] xs[i] < 0
        · skip
          have q1 : (i : Int) < (xs.length : Int) := by omega
          have d1 : decide ((i : Int) < (xs.length : Int)) = true := by simp; omega
          have e1 : ((i : Int) == (xs.length : Int)) = false := by simp; omega
          obtain ⟨ga, oa, rfl, Ga, la, ia⟩ := RA.out (by omega)
          obtain ⟨x, hxi⟩ : ∃ x, xs[i] = x := ⟨_, rfl⟩
          have HPx := hide (show Pd x by rw [← hxi]; exact HPA.out _ (List.getElem_mem _))
          have IA := hide (ia i hi1)
          rw [hxi] at IA
          clear ia
          have q2 : (j : Int) < (ys.length : Int) := by omega
          have d2 : decide ((j : Int) < (ys.length : Int)) = true := by simp; omega
          obtain ⟨gb, ob, rfl, Gb, lb, ib⟩ := RB.out (by omega)
          obtain ⟨y, hyj⟩ : ∃ y, ys[j] = y := ⟨_, rfl⟩
          have HPy := hide (show Pd y by rw [← hyj]; exact HPB.out _ (List.getElem_mem _))
          have IB := hide (ib j hj1)
          rw [hyj] at IB
          clear ib
          have hf' := hf
          rw [hxi, hyj] at hf'
          obtain ⟨fv, hfv⟩ : ∃ fv, f y x = fv := ⟨_, rfl⟩
          rw [hfv] at hf'
          have HFV := hide hfv
          clear hfv
          have d3 : decide (fv < 0) = true := by simpa using hf'
          have HF := hide hf
          clear hf
          gi_wp2
          obtain ⟨W1, hW1⟩ : ∃ W1, wr.alloc (.cells #[.int .i8 0, .int .u64 0, .bool false, .slice none 0 0, .int .u64 0, .int .i8 0, .string ⟨#[]⟩, .slice none 0 0, .int .i8 0, .int .u64 0, .bool false, .slice none 0 0, .int .u64 0, .int .i8 0, .string ⟨#[]⟩, .slice none 0 0, .int .i64 0] 112) = W1 := ⟨_, rfl⟩
          have K1 : Below wr.heap.size wr W1 := by rw [← hW1]; exact (Below.refl _ wr).alloc (Nat.le_refl _) _
          have hx0 : Hid (W1.heap[wr.heap.size]? = some (.cells #[.int .i8 0, .int .u64 0, .bool false, .slice none 0 0, .int .u64 0, .int .i8 0, .string ⟨#[]⟩, .slice none 0 0, .int .i8 0, .int .u64 0, .bool false, .slice none 0 0, .int .u64 0, .int .i8 0, .string ⟨#[]⟩, .slice none 0 0, .int .i64 0] 112 (0, 0))) := by rw [← hW1]; exact World.alloc_heap_new wr _
          rw [hW1]
          clear hW1 cA cB cC
          have B1 : Hid (BelX X n₀ w W1) := hide (hB.out.trans (BelX.of K1 (Nat.le_trans hw hB.out.size)))
          have WC : Hid (∀ (U : World), Below W1.heap.size W1 U → ∀ (p : Addr), p.block < n₀ ∧ ¬ X p.block → U.cell? p = w.cell? p) := hide (fun U k p hp => (B1.out.trans (BelX.of k (Nat.le_trans hw B1.out.size))).cell hp.1 hp.2)
          have CF : Hid (∀ U, Below W1.heap.size W1 U → U.cell? ⟨Ba, 0, none⟩ = some (.slice (some ⟨ga, oa, none⟩) xs.length ca) ∧ U.cell? ⟨Bb, 0, none⟩ = some (.slice (some ⟨gb, ob, none⟩) ys.length cb) ∧ U.cell? ⟨Bc, 0, none⟩ = some (.func (.func cg) #[] cl) ∧ U.rangeAt ga (oa + i * 17) (enL x) ∧ U.rangeAt gb (ob + j * 17) (enL y)) := hide (fun U k => ⟨(WC.out U k ⟨Ba, 0, none⟩ lA).trans BA.out.cell, (WC.out U k ⟨Bb, 0, none⟩ lB).trans BB.out.cell, (WC.out U k ⟨Bc, 0, none⟩ lC).trans BC.out.cell, fun j v hv => (WC.out U k ⟨ga, _, none⟩ Ga).trans (IA.out j v hv), fun j v hv => (WC.out U k ⟨gb, _, none⟩ Gb).trans (IB.out j v hv)⟩)
          refine wpIn_wide.2 ?_
          have K : Below W1.heap.size W1 W1.drew := (Below.refl _ _).drew
          have HC0 := CF.out _ K
          obtain ⟨dE, dE1, dE2⟩ := enDesc
          refine wpHl.region0 (C := fun u => u.cell? ⟨Ba, 0, none⟩ = some (.slice (some ⟨ga, oa, none⟩) xs.length ca) ∧ u.cell? ⟨Bb, 0, none⟩ = some (.slice (some ⟨gb, ob, none⟩) ys.length cb) ∧ u.cell? ⟨Bc, 0, none⟩ = some (.func (.func cg) #[] cl) ∧ u.rangeAt ga (oa + i * 17) (enL x) ∧ u.rangeAt gb (ob + j * 17) (enL y)) (by kernel_rfl) (by kernel_rfl) (fun HS => ?_)
          refine wpHl.tk0 (i := 0) (d := some 18) (v := .int .i64 i) rfl HS (by as_aux_lemma => kernel_rfl) rfl (fun _ _ _ h => h) (Or.inl ⟨by rfl, ?_⟩) HC0 ?_
          · intro u hC
            go_simp
          simp only [Act.put, List.setIfInBounds_toArray, List.set_cons_zero, List.set_cons_succ]
          refine wpHl.tk0 (i := 1) (d := some 19) (v := .slice (some ⟨ga, oa, none⟩) xs.length ca) rfl HS (by as_aux_lemma => kernel_rfl) rfl (fun _ _ _ h => h) (Or.inl ⟨by rfl, ?_⟩) HC0 ?_
          · intro u hC
            obtain ⟨z0, z1, z2, z3, z4⟩ := hC
            clear z3 z4
            go_simp
          simp only [Act.put, List.setIfInBounds_toArray, List.set_cons_zero, List.set_cons_succ]
          refine wpHl.tk0 (i := 2) (d := some 20) (v := .int .i64 xs.length) rfl HS (by as_aux_lemma => kernel_rfl) rfl (fun _ _ _ h => h) (Or.inl ⟨by rfl, ?_⟩) HC0 ?_
          · intro u hC
            go_simp
          simp only [Act.put, List.setIfInBounds_toArray, List.set_cons_zero, List.set_cons_succ]
          refine wpHl.tk0 (i := 3) (d := some 21) (v := .bool false) rfl HS (by as_aux_lemma => kernel_rfl) rfl (fun _ _ _ h => h) (Or.inl ⟨by rfl, ?_⟩) HC0 ?_
          · intro u hC
            go_simp
          simp only [Act.put, List.setIfInBounds_toArray, List.set_cons_zero, List.set_cons_succ]
          refine wpHl.tk0 (i := 4) (d := some 22) (v := .bool false) rfl HS (by as_aux_lemma => kernel_rfl) rfl (fun _ _ _ h => h) (Or.inl ⟨by rfl, ?_⟩) HC0 ?_
          · intro u hC
            go_simp
          simp only [Act.put, List.setIfInBounds_toArray, List.set_cons_zero, List.set_cons_succ]
          refine wpHl.tk0 (i := 5) (d := some 23) (v := .int .i64 j) rfl HS (by as_aux_lemma => kernel_rfl) rfl (fun _ _ _ h => h) (Or.inl ⟨by rfl, ?_⟩) HC0 ?_
          · intro u hC
            go_simp
          simp only [Act.put, List.setIfInBounds_toArray, List.set_cons_zero, List.set_cons_succ]
          refine wpHl.tk0 (i := 6) (d := some 24) (v := .slice (some ⟨gb, ob, none⟩) ys.length cb) rfl HS (by as_aux_lemma => kernel_rfl) rfl (fun _ _ _ h => h) (Or.inl ⟨by rfl, ?_⟩) HC0 ?_
          · intro u hC
            obtain ⟨z0, z1, z2, z3, z4⟩ := hC
            clear z3 z4
            go_simp
          simp only [Act.put, List.setIfInBounds_toArray, List.set_cons_zero, List.set_cons_succ]
          refine wpHl.tk0 (i := 7) (d := some 25) (v := .int .i64 ys.length) rfl HS (by as_aux_lemma => kernel_rfl) rfl (fun _ _ _ h => h) (Or.inl ⟨by rfl, ?_⟩) HC0 ?_
          · intro u hC
            go_simp
          simp only [Act.put, List.setIfInBounds_toArray, List.set_cons_zero, List.set_cons_succ]
          refine wpHl.tk0 (i := 8) (d := some 26) (v := .bool true) rfl HS (by as_aux_lemma => kernel_rfl) rfl (fun _ _ _ h => h) (Or.inl ⟨by rfl, ?_⟩) HC0 ?_
          · intro u hC
            go_simp
          simp only [Act.put, List.setIfInBounds_toArray, List.set_cons_zero, List.set_cons_succ]
          refine wpHl.tk0 (i := 9) (d := some 27) (v := .bool true) rfl HS (by as_aux_lemma => kernel_rfl) rfl (fun _ _ _ h => h) (Or.inl ⟨by rfl, ?_⟩) HC0 ?_
          · intro u hC
            go_simp
          simp only [Act.put, List.setIfInBounds_toArray, List.set_cons_zero, List.set_cons_succ]
          refine wpHl.tk0 (i := 10) (d := some 28) (v := .func (.func cg) #[] cl) rfl HS (by as_aux_lemma => kernel_rfl) rfl (fun _ _ _ h => h) (Or.inl ⟨by rfl, ?_⟩) HC0 ?_
          · intro u hC
            obtain ⟨z0, z1, z2, z3, z4⟩ := hC
            clear z3 z4
            go_simp
          simp only [Act.put, List.setIfInBounds_toArray, List.set_cons_zero, List.set_cons_succ]
          refine wpHl.tk0 (i := 11) (d := some 29) (v := .slice (some ⟨gb, ob, none⟩) ys.length cb) rfl HS (by as_aux_lemma => kernel_rfl) rfl (fun _ _ _ h => h) (Or.inl ⟨by rfl, ?_⟩) HC0 ?_
          · intro u hC
            obtain ⟨z0, z1, z2, z3, z4⟩ := hC
            clear z3 z4
            go_simp
          simp only [Act.put, List.setIfInBounds_toArray, List.set_cons_zero, List.set_cons_succ]
          refine wpHl.tk0 (i := 12) (d := some 30) (v := .int .i64 j) rfl HS (by as_aux_lemma => kernel_rfl) rfl (fun _ _ _ h => h) (Or.inl ⟨by rfl, ?_⟩) HC0 ?_
          · intro u hC
            go_simp
          simp only [Act.put, List.setIfInBounds_toArray, List.set_cons_zero, List.set_cons_succ]
          refine wpHl.tk0 (i := 13) (d := some 31) (v := .pointer (some ⟨gb, ob + j * 17, none⟩)) rfl HS (by as_aux_lemma => kernel_rfl) rfl (fun _ _ _ h => h) (Or.inl ⟨by rfl, ?_⟩) HC0 ?_
          · intro u hC
            go_simp
          simp only [Act.put, List.setIfInBounds_toArray, List.set_cons_zero, List.set_cons_succ]
          refine wpHl.tk0 (i := 14) (d := some 32) (v := enV y) rfl HS (by as_aux_lemma => kernel_rfl) rfl (fun _ _ _ h => h) (yieldsIf_load_mid (by rfl) _ _ rfl gb (ob + j * 17) rfl (enL y) dE (fun u hu => hu.2.2.2.2) dE1 dE2 enInfo) HC0 ?_
          simp only [Act.put, List.setIfInBounds_toArray, List.set_cons_zero, List.set_cons_succ]
          refine wpHl.tk0 (i := 15) (d := some 33) (v := .slice (some ⟨ga, oa, none⟩) xs.length ca) rfl HS (by as_aux_lemma => kernel_rfl) rfl (fun _ _ _ h => h) (Or.inl ⟨by rfl, ?_⟩) HC0 ?_
          · intro u hC
            obtain ⟨z0, z1, z2, z3, z4⟩ := hC
            clear z3 z4
            go_simp
          simp only [Act.put, List.setIfInBounds_toArray, List.set_cons_zero, List.set_cons_succ]
          refine wpHl.tk0 (i := 16) (d := some 34) (v := .int .i64 i) rfl HS (by as_aux_lemma => kernel_rfl) rfl (fun _ _ _ h => h) (Or.inl ⟨by rfl, ?_⟩) HC0 ?_
          · intro u hC
            go_simp
          simp only [Act.put, List.setIfInBounds_toArray, List.set_cons_zero, List.set_cons_succ]
          refine wpHl.tk0 (i := 17) (d := some 35) (v := .pointer (some ⟨ga, oa + i * 17, none⟩)) rfl HS (by as_aux_lemma => kernel_rfl) rfl (fun _ _ _ h => h) (Or.inl ⟨by rfl, ?_⟩) HC0 ?_
          · intro u hC
            go_simp
          simp only [Act.put, List.setIfInBounds_toArray, List.set_cons_zero, List.set_cons_succ]
          refine wpHl.tk0 (i := 18) (d := some 36) (v := enV x) rfl HS (by as_aux_lemma => kernel_rfl) rfl (fun _ _ _ h => h) (yieldsIf_load_mid (by rfl) _ _ rfl ga (oa + i * 17) rfl (enL x) dE (fun u hu => hu.2.2.2.1) dE1 dE2 enInfo) HC0 ?_
          simp only [Act.put, List.setIfInBounds_toArray, List.set_cons_zero, List.set_cons_succ]
          refine wpHl.one (i := 19) (by as_aux_lemma => kernel_rfl) rfl (fun KK hKK => ?_)
          rw [if_pos (by rfl)]
          go_simp
          go_at_fn cg
          with_reducible refine (HC.out _ y x (HII.out _ _ HIw.out (B1.out.trans (BelX.of K (Nat.le_trans hw B1.out.size)))) HPy.out HPx.out).mono ?_
          rintro e w8 ⟨rfl, hb⟩
          rw [HFV.out]
          replace K := K.trans (hb.mono K.size)
          clear hb HC0
          have HC0 := CF.out _ K
          refine hKK _ _ ⟨fun _ => HC0, ?_⟩
          clear hKK KK
          try simp only [Act.put, List.setIfInBounds_toArray, List.set_cons_zero, List.set_cons_succ]
          refine wpHl.tk0 (i := 20) (d := some 38) (v := .bool true) rfl HS (by as_aux_lemma => kernel_rfl) rfl (fun _ _ _ h => h) (Or.inl ⟨by rfl, ?_⟩) HC0 ?_
          · intro u hC
            go_simp
          simp only [Act.put, List.setIfInBounds_toArray, List.set_cons_zero, List.set_cons_succ]
          refine wpHl.tk0 (i := 21) (d := some 39) (v := .bool true) rfl HS (by as_aux_lemma => kernel_rfl) rfl (fun _ _ _ h => h) (Or.inl ⟨by rfl, ?_⟩) HC0 ?_
          · intro u hC
            go_simp
          simp only [Act.put, List.setIfInBounds_toArray, List.set_cons_zero, List.set_cons_succ]
          refine wpHl.tk0 (i := 22) (d := some 40) (v := .bool true) rfl HS (by as_aux_lemma => kernel_rfl) rfl (fun _ _ _ h => h) (Or.inl ⟨by rfl, ?_⟩) HC0 ?_
          · intro u hC
            go_simp
          simp only [Act.put, List.setIfInBounds_toArray, List.set_cons_zero, List.set_cons_succ]
          refine wpHl.done (by as_aux_lemma => kernel_rfl) ?_ _
          clear HC0 dE1 dE2
          obtain ⟨f0, f1, f2, -⟩ := CF.out _ K
          obtain ⟨HTH, HRG, HU⟩ := ent_new hx0.out K K1 y
          have HR8 := hide (show w8.rangeAt gb (ob + j * 17) (enL y) from fun j v hv => (WC.out _ K ⟨gb, _, none⟩ Gb).trans (IB.out j v hv))
          replace HTH := hide HTH
          replace HRG := hide HRG
          have Jp := HJ.out pre wr _ none hJw (ograwn HU) (fun r e => by cases e)
          obtain ⟨fn, tmps, assign, body, hy, hR⟩ := HY.out pre y _ Jp (by omega)
          dsimp only [enEncs] at hy
          have HU := hide HU
          clear K K1 CF WC B1 hx0
          gi_upto_region 5 with (first | (refine wpListIn_ld rfl _ rfl gb (ob + j * 17) rfl y HR8.out ?_; try simp only [Act.put, List.setIfInBounds_toArray, List.set_cons_zero, List.set_cons_succ]) | (refine wpListIn_st rfl _ _ rfl wr.heap.size 0 rfl y rfl HTH.out ?_; try simp only [Act.put, List.setIfInBounds_toArray, List.set_cons_zero, List.set_cons_succ]))
          generalize w8.setCells wr.heap.size 0 (enL y) = W9 at *
          gi_wp2_with (refine wpListIn_ld rfl _ rfl wr.heap.size 0 rfl y HRG.out ?_; try simp only [Act.put, List.setIfInBounds_toArray, List.set_cons_zero, List.set_cons_succ])
          refine hR.mono ?_
          rintro e W3 (⟨rfl, hJ3, hk3⟩ | ⟨rfl, hJx3⟩)
          · have hB3 := hide (hB.out.trans ((BelX.of HU.out (Nat.le_trans hw hB.out.size)).trans hk3))
            have hs3 := Nat.le_trans hWr (Nat.le_trans HU.out.size hk3.size)
            gi_wp2
            go_roundw
            case rel => exact ⟨i, j + 1, _, rfl, by simp, by omega, by omega, hide (by rw [← hpre.out, mrg_lt hi1 hj1 hxi hyj HF.out]; simp), by simp; omega, hB3, hs3, hJ3⟩
            case measure => simp [intOf]; omega
          · gi_wp2
            refine bodyPost_ret (results_none rfl _ _ _) rfl ?_
            refine ⟨⟨_, rfl⟩, .inr ⟨_, ?_, hJx3⟩⟩
            rw [← hpre.out, mrg_lt hi1 hj1 hxi hyj HF.out]
            exact ⟨mrg f (xs.drop i) (ys.drop (j + 1)), by simp⟩
        · skip
          have q1 : (i : Int) < (xs.length : Int) := by omega
          have d1 : decide ((i : Int) < (xs.length : Int)) = true := by simp; omega
          have e1 : ((i : Int) == (xs.length : Int)) = false := by simp; omega
          obtain ⟨ga, oa, rfl, Ga, la, ia⟩ := RA.out (by omega)
          obtain ⟨x, hxi⟩ : ∃ x, xs[i] = x := ⟨_, rfl⟩
          have HPx := hide (show Pd x by rw [← hxi]; exact HPA.out _ (List.getElem_mem _))
          have IA := hide (ia i hi1)
          rw [hxi] at IA
          clear ia
          have q2 : (j : Int) < (ys.length : Int) := by omega
          have d2 : decide ((j : Int) < (ys.length : Int)) = true := by simp; omega
          obtain ⟨gb, ob, rfl, Gb, lb, ib⟩ := RB.out (by omega)
          obtain ⟨y, hyj⟩ : ∃ y, ys[j] = y := ⟨_, rfl⟩
          have HPy := hide (show Pd y by rw [← hyj]; exact HPB.out _ (List.getElem_mem _))
          have IB := hide (ib j hj1)
          rw [hyj] at IB
          clear ib
          have hf' := hf
          rw [hxi, hyj] at hf'
          obtain ⟨fv, hfv⟩ : ∃ fv, f y x = fv := ⟨_, rfl⟩
          rw [hfv] at hf'
          have HFV := hide hfv
          clear hfv
          have d3 : decide (fv < 0) = false := by simpa using hf'
          have HF := hide hf
          clear hf
          gi_wp2
          obtain ⟨W1, hW1⟩ : ∃ W1, wr.alloc (.cells #[.int .i8 0, .int .u64 0, .bool false, .slice none 0 0, .int .u64 0, .int .i8 0, .string ⟨#[]⟩, .slice none 0 0, .int .i8 0, .int .u64 0, .bool false, .slice none 0 0, .int .u64 0, .int .i8 0, .string ⟨#[]⟩, .slice none 0 0, .int .i64 0] 112) = W1 := ⟨_, rfl⟩
          have K1 : Below wr.heap.size wr W1 := by rw [← hW1]; exact (Below.refl _ wr).alloc (Nat.le_refl _) _
          have hx0 : Hid (W1.heap[wr.heap.size]? = some (.cells #[.int .i8 0, .int .u64 0, .bool false, .slice none 0 0, .int .u64 0, .int .i8 0, .string ⟨#[]⟩, .slice none 0 0, .int .i8 0, .int .u64 0, .bool false, .slice none 0 0, .int .u64 0, .int .i8 0, .string ⟨#[]⟩, .slice none 0 0, .int .i64 0] 112 (0, 0))) := by rw [← hW1]; exact World.alloc_heap_new wr _
          rw [hW1]
          clear hW1 cA cB cC
          have B1 : Hid (BelX X n₀ w W1) := hide (hB.out.trans (BelX.of K1 (Nat.le_trans hw hB.out.size)))
          have WC : Hid (∀ (U : World), Below W1.heap.size W1 U → ∀ (p : Addr), p.block < n₀ ∧ ¬ X p.block → U.cell? p = w.cell? p) := hide (fun U k p hp => (B1.out.trans (BelX.of k (Nat.le_trans hw B1.out.size))).cell hp.1 hp.2)
          have CF : Hid (∀ U, Below W1.heap.size W1 U → U.cell? ⟨Ba, 0, none⟩ = some (.slice (some ⟨ga, oa, none⟩) xs.length ca) ∧ U.cell? ⟨Bb, 0, none⟩ = some (.slice (some ⟨gb, ob, none⟩) ys.length cb) ∧ U.cell? ⟨Bc, 0, none⟩ = some (.func (.func cg) #[] cl) ∧ U.rangeAt ga (oa + i * 17) (enL x) ∧ U.rangeAt gb (ob + j * 17) (enL y)) := hide (fun U k => ⟨(WC.out U k ⟨Ba, 0, none⟩ lA).trans BA.out.cell, (WC.out U k ⟨Bb, 0, none⟩ lB).trans BB.out.cell, (WC.out U k ⟨Bc, 0, none⟩ lC).trans BC.out.cell, fun j v hv => (WC.out U k ⟨ga, _, none⟩ Ga).trans (IA.out j v hv), fun j v hv => (WC.out U k ⟨gb, _, none⟩ Gb).trans (IB.out j v hv)⟩)
          refine wpIn_wide.2 ?_
          have K : Below W1.heap.size W1 W1.drew := (Below.refl _ _).drew
          have HC0 := CF.out _ K
          obtain ⟨dE, dE1, dE2⟩ := enDesc
          refine wpHl.region0 (C := fun u => u.cell? ⟨Ba, 0, none⟩ = some (.slice (some ⟨ga, oa, none⟩) xs.length ca) ∧ u.cell? ⟨Bb, 0, none⟩ = some (.slice (some ⟨gb, ob, none⟩) ys.length cb) ∧ u.cell? ⟨Bc, 0, none⟩ = some (.func (.func cg) #[] cl) ∧ u.rangeAt ga (oa + i * 17) (enL x) ∧ u.rangeAt gb (ob + j * 17) (enL y)) (by kernel_rfl) (by kernel_rfl) (fun HS => ?_)
          refine wpHl.tk0 (i := 0) (d := some 18) (v := .int .i64 i) rfl HS (by as_aux_lemma => kernel_rfl) rfl (fun _ _ _ h => h) (Or.inl ⟨by rfl, ?_⟩) HC0 ?_
          · intro u hC
            go_simp
          simp only [Act.put, List.setIfInBounds_toArray, List.set_cons_zero, List.set_cons_succ]
          refine wpHl.tk0 (i := 1) (d := some 19) (v := .slice (some ⟨ga, oa, none⟩) xs.length ca) rfl HS (by as_aux_lemma => kernel_rfl) rfl (fun _ _ _ h => h) (Or.inl ⟨by rfl, ?_⟩) HC0 ?_
          · intro u hC
            obtain ⟨z0, z1, z2, z3, z4⟩ := hC
            clear z3 z4
            go_simp
          simp only [Act.put, List.setIfInBounds_toArray, List.set_cons_zero, List.set_cons_succ]
          refine wpHl.tk0 (i := 2) (d := some 20) (v := .int .i64 xs.length) rfl HS (by as_aux_lemma => kernel_rfl) rfl (fun _ _ _ h => h) (Or.inl ⟨by rfl, ?_⟩) HC0 ?_
          · intro u hC
            go_simp
          simp only [Act.put, List.setIfInBounds_toArray, List.set_cons_zero, List.set_cons_succ]
          refine wpHl.tk0 (i := 3) (d := some 21) (v := .bool false) rfl HS (by as_aux_lemma => kernel_rfl) rfl (fun _ _ _ h => h) (Or.inl ⟨by rfl, ?_⟩) HC0 ?_
          · intro u hC
            go_simp
          simp only [Act.put, List.setIfInBounds_toArray, List.set_cons_zero, List.set_cons_succ]
          refine wpHl.tk0 (i := 4) (d := some 22) (v := .bool false) rfl HS (by as_aux_lemma => kernel_rfl) rfl (fun _ _ _ h => h) (Or.inl ⟨by rfl, ?_⟩) HC0 ?_
          · intro u hC
            go_simp
          simp only [Act.put, List.setIfInBounds_toArray, List.set_cons_zero, List.set_cons_succ]
          refine wpHl.tk0 (i := 5) (d := some 23) (v := .int .i64 j) rfl HS (by as_aux_lemma => kernel_rfl) rfl (fun _ _ _ h => h) (Or.inl ⟨by rfl, ?_⟩) HC0 ?_
          · intro u hC
            go_simp
          simp only [Act.put, List.setIfInBounds_toArray, List.set_cons_zero, List.set_cons_succ]
          refine wpHl.tk0 (i := 6) (d := some 24) (v := .slice (some ⟨gb, ob, none⟩) ys.length cb) rfl HS (by as_aux_lemma => kernel_rfl) rfl (fun _ _ _ h => h) (Or.inl ⟨by rfl, ?_⟩) HC0 ?_
          · intro u hC
            obtain ⟨z0, z1, z2, z3, z4⟩ := hC
            clear z3 z4
            go_simp
          simp only [Act.put, List.setIfInBounds_toArray, List.set_cons_zero, List.set_cons_succ]
          refine wpHl.tk0 (i := 7) (d := some 25) (v := .int .i64 ys.length) rfl HS (by as_aux_lemma => kernel_rfl) rfl (fun _ _ _ h => h) (Or.inl ⟨by rfl, ?_⟩) HC0 ?_
          · intro u hC
            go_simp
          simp only [Act.put, List.setIfInBounds_toArray, List.set_cons_zero, List.set_cons_succ]
          refine wpHl.tk0 (i := 8) (d := some 26) (v := .bool true) rfl HS (by as_aux_lemma => kernel_rfl) rfl (fun _ _ _ h => h) (Or.inl ⟨by rfl, ?_⟩) HC0 ?_
          · intro u hC
            go_simp
          simp only [Act.put, List.setIfInBounds_toArray, List.set_cons_zero, List.set_cons_succ]
          refine wpHl.tk0 (i := 9) (d := some 27) (v := .bool true) rfl HS (by as_aux_lemma => kernel_rfl) rfl (fun _ _ _ h => h) (Or.inl ⟨by rfl, ?_⟩) HC0 ?_
          · intro u hC
            go_simp
          simp only [Act.put, List.setIfInBounds_toArray, List.set_cons_zero, List.set_cons_succ]
          refine wpHl.tk0 (i := 10) (d := some 28) (v := .func (.func cg) #[] cl) rfl HS (by as_aux_lemma => kernel_rfl) rfl (fun _ _ _ h => h) (Or.inl ⟨by rfl, ?_⟩) HC0 ?_
          · intro u hC
            obtain ⟨z0, z1, z2, z3, z4⟩ := hC
            clear z3 z4
            go_simp
          simp only [Act.put, List.setIfInBounds_toArray, List.set_cons_zero, List.set_cons_succ]
          refine wpHl.tk0 (i := 11) (d := some 29) (v := .slice (some ⟨gb, ob, none⟩) ys.length cb) rfl HS (by as_aux_lemma => kernel_rfl) rfl (fun _ _ _ h => h) (Or.inl ⟨by rfl, ?_⟩) HC0 ?_
          · intro u hC
            obtain ⟨z0, z1, z2, z3, z4⟩ := hC
            clear z3 z4
            go_simp
          simp only [Act.put, List.setIfInBounds_toArray, List.set_cons_zero, List.set_cons_succ]
          refine wpHl.tk0 (i := 12) (d := some 30) (v := .int .i64 j) rfl HS (by as_aux_lemma => kernel_rfl) rfl (fun _ _ _ h => h) (Or.inl ⟨by rfl, ?_⟩) HC0 ?_
          · intro u hC
            go_simp
          simp only [Act.put, List.setIfInBounds_toArray, List.set_cons_zero, List.set_cons_succ]
          refine wpHl.tk0 (i := 13) (d := some 31) (v := .pointer (some ⟨gb, ob + j * 17, none⟩)) rfl HS (by as_aux_lemma => kernel_rfl) rfl (fun _ _ _ h => h) (Or.inl ⟨by rfl, ?_⟩) HC0 ?_
          · intro u hC
            go_simp
          simp only [Act.put, List.setIfInBounds_toArray, List.set_cons_zero, List.set_cons_succ]
          refine wpHl.tk0 (i := 14) (d := some 32) (v := enV y) rfl HS (by as_aux_lemma => kernel_rfl) rfl (fun _ _ _ h => h) (yieldsIf_load_mid (by rfl) _ _ rfl gb (ob + j * 17) rfl (enL y) dE (fun u hu => hu.2.2.2.2) dE1 dE2 enInfo) HC0 ?_
          simp only [Act.put, List.setIfInBounds_toArray, List.set_cons_zero, List.set_cons_succ]
          refine wpHl.tk0 (i := 15) (d := some 33) (v := .slice (some ⟨ga, oa, none⟩) xs.length ca) rfl HS (by as_aux_lemma => kernel_rfl) rfl (fun _ _ _ h => h) (Or.inl ⟨by rfl, ?_⟩) HC0 ?_
          · intro u hC
            obtain ⟨z0, z1, z2, z3, z4⟩ := hC
            clear z3 z4
            go_simp
          simp only [Act.put, List.setIfInBounds_toArray, List.set_cons_zero, List.set_cons_succ]
          refine wpHl.tk0 (i := 16) (d := some 34) (v := .int .i64 i) rfl HS (by as_aux_lemma => kernel_rfl) rfl (fun _ _ _ h => h) (Or.inl ⟨by rfl, ?_⟩) HC0 ?_
          · intro u hC
            go_simp
          simp only [Act.put, List.setIfInBounds_toArray, List.set_cons_zero, List.set_cons_succ]
          refine wpHl.tk0 (i := 17) (d := some 35) (v := .pointer (some ⟨ga, oa + i * 17, none⟩)) rfl HS (by as_aux_lemma => kernel_rfl) rfl (fun _ _ _ h => h) (Or.inl ⟨by rfl, ?_⟩) HC0 ?_
          · intro u hC
            go_simp
          simp only [Act.put, List.setIfInBounds_toArray, List.set_cons_zero, List.set_cons_succ]
          refine wpHl.tk0 (i := 18) (d := some 36) (v := enV x) rfl HS (by as_aux_lemma => kernel_rfl) rfl (fun _ _ _ h => h) (yieldsIf_load_mid (by rfl) _ _ rfl ga (oa + i * 17) rfl (enL x) dE (fun u hu => hu.2.2.2.1) dE1 dE2 enInfo) HC0 ?_
          simp only [Act.put, List.setIfInBounds_toArray, List.set_cons_zero, List.set_cons_succ]
          refine wpHl.one (i := 19) (by as_aux_lemma => kernel_rfl) rfl (fun KK hKK => ?_)
          rw [if_pos (by rfl)]
          go_simp
          go_at_fn cg
          with_reducible refine (HC.out _ y x (HII.out _ _ HIw.out (B1.out.trans (BelX.of K (Nat.le_trans hw B1.out.size)))) HPy.out HPx.out).mono ?_
          rintro e w8 ⟨rfl, hb⟩
          rw [HFV.out]
          replace K := K.trans (hb.mono K.size)
          clear hb HC0
          have HC0 := CF.out _ K
          refine hKK _ _ ⟨fun _ => HC0, ?_⟩
          clear hKK KK
          try simp only [Act.put, List.setIfInBounds_toArray, List.set_cons_zero, List.set_cons_succ]
          refine wpHl.tk0 (i := 20) (d := some 38) (v := .bool false) rfl HS (by as_aux_lemma => kernel_rfl) rfl (fun _ _ _ h => h) (Or.inl ⟨by rfl, ?_⟩) HC0 ?_
          · intro u hC
            go_simp
          simp only [Act.put, List.setIfInBounds_toArray, List.set_cons_zero, List.set_cons_succ]
          refine wpHl.tk0 (i := 21) (d := some 39) (v := .bool false) rfl HS (by as_aux_lemma => kernel_rfl) rfl (fun _ _ _ h => h) (Or.inl ⟨by rfl, ?_⟩) HC0 ?_
          · intro u hC
            go_simp
          simp only [Act.put, List.setIfInBounds_toArray, List.set_cons_zero, List.set_cons_succ]
          refine wpHl.tk0 (i := 22) (d := some 40) (v := .bool false) rfl HS (by as_aux_lemma => kernel_rfl) rfl (fun _ _ _ h => h) (Or.inl ⟨by rfl, ?_⟩) HC0 ?_
          · intro u hC
            go_simp
          simp only [Act.put, List.setIfInBounds_toArray, List.set_cons_zero, List.set_cons_succ]
          refine wpHl.done (by as_aux_lemma => kernel_rfl) ?_ _
          clear HC0 dE1 dE2
          obtain ⟨f0, f1, f2, -⟩ := CF.out _ K
          obtain ⟨HTH, HRG, HU⟩ := ent_new hx0.out K K1 x
          have HR8 := hide (show w8.rangeAt ga (oa + i * 17) (enL x) from fun j v hv => (WC.out _ K ⟨ga, _, none⟩ Ga).trans (IA.out j v hv))
          replace HTH := hide HTH
          replace HRG := hide HRG
          have Jp := HJ.out pre wr _ none hJw (ograwn HU) (fun r e => by cases e)
          obtain ⟨fn, tmps, assign, body, hy, hR⟩ := HY.out pre x _ Jp (by omega)
          dsimp only [enEncs] at hy
          have HU := hide HU
          clear K K1 CF WC B1 hx0
          gi_upto_region 7 with (first | (refine wpListIn_ld rfl _ rfl ga (oa + i * 17) rfl x HR8.out ?_; try simp only [Act.put, List.setIfInBounds_toArray, List.set_cons_zero, List.set_cons_succ]) | (refine wpListIn_st rfl _ _ rfl wr.heap.size 0 rfl x rfl HTH.out ?_; try simp only [Act.put, List.setIfInBounds_toArray, List.set_cons_zero, List.set_cons_succ]))
          generalize w8.setCells wr.heap.size 0 (enL x) = W9 at *
          gi_wp2_with (refine wpListIn_ld rfl _ rfl wr.heap.size 0 rfl x HRG.out ?_; try simp only [Act.put, List.setIfInBounds_toArray, List.set_cons_zero, List.set_cons_succ])
          refine hR.mono ?_
          rintro e W3 (⟨rfl, hJ3, hk3⟩ | ⟨rfl, hJx3⟩)
          · have hB3 := hide (hB.out.trans ((BelX.of HU.out (Nat.le_trans hw hB.out.size)).trans hk3))
            have hs3 := Nat.le_trans hWr (Nat.le_trans HU.out.size hk3.size)
            gi_wp2
            go_roundw
            case rel => exact ⟨i + 1, j, _, by simp, rfl, by omega, by omega, hide (by rw [← hpre.out, mrg_ge hi1 hj1 hxi hyj HF.out]; simp), by simp; omega, hB3, hs3, hJ3⟩
            case measure => simp [intOf]; omega
          · gi_wp2
            refine bodyPost_ret (results_none rfl _ _ _) rfl ?_
            refine ⟨⟨_, rfl⟩, .inr ⟨_, ?_, hJx3⟩⟩
            rw [← hpre.out, mrg_ge hi1 hj1 hxi hyj HF.out]
            exact ⟨mrg f (xs.drop (i + 1)) (ys.drop j), by simp⟩
      · skip
        have q1 : (i : Int) < (xs.length : Int) := by omega
        have d1 : decide ((i : Int) < (xs.length : Int)) = true := by simp; omega
        have e1 : ((i : Int) == (xs.length : Int)) = false := by simp; omega
        obtain ⟨ga, oa, rfl, Ga, la, ia⟩ := RA.out (by omega)
        obtain ⟨x, hxi⟩ : ∃ x, xs[i] = x := ⟨_, rfl⟩
        have HPx := hide (show Pd x by rw [← hxi]; exact HPA.out _ (List.getElem_mem _))
        have IA := hide (ia i hi1)
        rw [hxi] at IA
        clear ia
        have q2 : ¬ (j : Int) < (ys.length : Int) := by omega
        have d2 : decide ((j : Int) < (ys.length : Int)) = false := by simp; omega
        skip
        gi_wp2
        obtain ⟨W1, hW1⟩ : ∃ W1, wr.alloc (.cells #[.int .i8 0, .int .u64 0, .bool false, .slice none 0 0, .int .u64 0, .int .i8 0, .string ⟨#[]⟩, .slice none 0 0, .int .i8 0, .int .u64 0, .bool false, .slice none 0 0, .int .u64 0, .int .i8 0, .string ⟨#[]⟩, .slice none 0 0, .int .i64 0] 112) = W1 := ⟨_, rfl⟩
        have K1 : Below wr.heap.size wr W1 := by rw [← hW1]; exact (Below.refl _ wr).alloc (Nat.le_refl _) _
        have hx0 : Hid (W1.heap[wr.heap.size]? = some (.cells #[.int .i8 0, .int .u64 0, .bool false, .slice none 0 0, .int .u64 0, .int .i8 0, .string ⟨#[]⟩, .slice none 0 0, .int .i8 0, .int .u64 0, .bool false, .slice none 0 0, .int .u64 0, .int .i8 0, .string ⟨#[]⟩, .slice none 0 0, .int .i64 0] 112 (0, 0))) := by rw [← hW1]; exact World.alloc_heap_new wr _
        rw [hW1]
        clear hW1 cA cB cC
        have B1 : Hid (BelX X n₀ w W1) := hide (hB.out.trans (BelX.of K1 (Nat.le_trans hw hB.out.size)))
        have WC : Hid (∀ (U : World), Below W1.heap.size W1 U → ∀ (p : Addr), p.block < n₀ ∧ ¬ X p.block → U.cell? p = w.cell? p) := hide (fun U k p hp => (B1.out.trans (BelX.of k (Nat.le_trans hw B1.out.size))).cell hp.1 hp.2)
        have CF : Hid (∀ U, Below W1.heap.size W1 U → U.cell? ⟨Ba, 0, none⟩ = some (.slice (some ⟨ga, oa, none⟩) xs.length ca) ∧ U.cell? ⟨Bb, 0, none⟩ = some (.slice bo ys.length cb) ∧ U.cell? ⟨Bc, 0, none⟩ = some (.func (.func cg) #[] cl) ∧ U.rangeAt ga (oa + i * 17) (enL x)) := hide (fun U k => ⟨(WC.out U k ⟨Ba, 0, none⟩ lA).trans BA.out.cell, (WC.out U k ⟨Bb, 0, none⟩ lB).trans BB.out.cell, (WC.out U k ⟨Bc, 0, none⟩ lC).trans BC.out.cell, fun j v hv => (WC.out U k ⟨ga, _, none⟩ Ga).trans (IA.out j v hv)⟩)
        refine wpIn_wide.2 ?_
        obtain ⟨f0, f1, f2, -⟩ := CF.out W1 (Below.refl _ _)
        go_quiet (fail)
        obtain ⟨w8, hU⟩ : ∃ U, W1.drewN nq = U := ⟨_, rfl⟩
        have K : Below W1.heap.size W1 w8 := by rw [← hU]; exact obel_drewN W1 nq
        rw [hU]
        clear hU f0 f1 f2
        obtain ⟨f0, f1, f2, -⟩ := CF.out _ K
        obtain ⟨HTH, HRG, HU⟩ := ent_new hx0.out K K1 x
        have HR8 := hide (show w8.rangeAt ga (oa + i * 17) (enL x) from fun j v hv => (WC.out _ K ⟨ga, _, none⟩ Ga).trans (IA.out j v hv))
        replace HTH := hide HTH
        replace HRG := hide HRG
        have Jp := HJ.out pre wr _ none hJw (ograwn HU) (fun r e => by cases e)
        obtain ⟨fn, tmps, assign, body, hy, hR⟩ := HY.out pre x _ Jp (by omega)
        dsimp only [enEncs] at hy
        have HU := hide HU
        clear K K1 CF WC B1 hx0
        gi_upto_region 7 with (first | (refine wpListIn_ld rfl _ rfl ga (oa + i * 17) rfl x HR8.out ?_; try simp only [Act.put, List.setIfInBounds_toArray, List.set_cons_zero, List.set_cons_succ]) | (refine wpListIn_st rfl _ _ rfl wr.heap.size 0 rfl x rfl HTH.out ?_; try simp only [Act.put, List.setIfInBounds_toArray, List.set_cons_zero, List.set_cons_succ]))
        generalize w8.setCells wr.heap.size 0 (enL x) = W9 at *
        gi_wp2_with (refine wpListIn_ld rfl _ rfl wr.heap.size 0 rfl x HRG.out ?_; try simp only [Act.put, List.setIfInBounds_toArray, List.set_cons_zero, List.set_cons_succ])
        refine hR.mono ?_
        rintro e W3 (⟨rfl, hJ3, hk3⟩ | ⟨rfl, hJx3⟩)
        · have hB3 := hide (hB.out.trans ((BelX.of HU.out (Nat.le_trans hw hB.out.size)).trans hk3))
          have hs3 := Nat.le_trans hWr (Nat.le_trans HU.out.size hk3.size)
          gi_wp2
          go_roundw
          case rel => exact ⟨i + 1, j, _, by simp, rfl, by omega, by omega, hide (by rw [← hpre.out, mrg_a hi1 hj1 hxi]; simp), by simp; omega, hB3, hs3, hJ3⟩
          case measure => simp [intOf]; omega
        · gi_wp2
          refine bodyPost_ret (results_none rfl _ _ _) rfl ?_
          refine ⟨⟨_, rfl⟩, .inr ⟨_, ?_, hJx3⟩⟩
          rw [← hpre.out, mrg_a hi1 hj1 hxi]
          exact ⟨mrg f (xs.drop (i + 1)) (ys.drop j), by simp⟩
    · by_cases hj1 : j < ys.length
      · skip
        have q1 : ¬ (i : Int) < (xs.length : Int) := by omega
        have d1 : decide ((i : Int) < (xs.length : Int)) = false := by simp; omega
        have e1 : ((i : Int) == (xs.length : Int)) = true := by simp; omega
        have q2 : (j : Int) < (ys.length : Int) := by omega
        have d2 : decide ((j : Int) < (ys.length : Int)) = true := by simp; omega
        obtain ⟨gb, ob, rfl, Gb, lb, ib⟩ := RB.out (by omega)
        obtain ⟨y, hyj⟩ : ∃ y, ys[j] = y := ⟨_, rfl⟩
        have HPy := hide (show Pd y by rw [← hyj]; exact HPB.out _ (List.getElem_mem _))
        have IB := hide (ib j hj1)
        rw [hyj] at IB
        clear ib
        skip
        gi_wp2
        obtain ⟨W1, hW1⟩ : ∃ W1, wr.alloc (.cells #[.int .i8 0, .int .u64 0, .bool false, .slice none 0 0, .int .u64 0, .int .i8 0, .string ⟨#[]⟩, .slice none 0 0, .int .i8 0, .int .u64 0, .bool false, .slice none 0 0, .int .u64 0, .int .i8 0, .string ⟨#[]⟩, .slice none 0 0, .int .i64 0] 112) = W1 := ⟨_, rfl⟩
        have K1 : Below wr.heap.size wr W1 := by rw [← hW1]; exact (Below.refl _ wr).alloc (Nat.le_refl _) _
        have hx0 : Hid (W1.heap[wr.heap.size]? = some (.cells #[.int .i8 0, .int .u64 0, .bool false, .slice none 0 0, .int .u64 0, .int .i8 0, .string ⟨#[]⟩, .slice none 0 0, .int .i8 0, .int .u64 0, .bool false, .slice none 0 0, .int .u64 0, .int .i8 0, .string ⟨#[]⟩, .slice none 0 0, .int .i64 0] 112 (0, 0))) := by rw [← hW1]; exact World.alloc_heap_new wr _
        rw [hW1]
        clear hW1 cA cB cC
        have B1 : Hid (BelX X n₀ w W1) := hide (hB.out.trans (BelX.of K1 (Nat.le_trans hw hB.out.size)))
        have WC : Hid (∀ (U : World), Below W1.heap.size W1 U → ∀ (p : Addr), p.block < n₀ ∧ ¬ X p.block → U.cell? p = w.cell? p) := hide (fun U k p hp => (B1.out.trans (BelX.of k (Nat.le_trans hw B1.out.size))).cell hp.1 hp.2)
        have CF : Hid (∀ U, Below W1.heap.size W1 U → U.cell? ⟨Ba, 0, none⟩ = some (.slice ao xs.length ca) ∧ U.cell? ⟨Bb, 0, none⟩ = some (.slice (some ⟨gb, ob, none⟩) ys.length cb) ∧ U.cell? ⟨Bc, 0, none⟩ = some (.func (.func cg) #[] cl) ∧ U.rangeAt gb (ob + j * 17) (enL y)) := hide (fun U k => ⟨(WC.out U k ⟨Ba, 0, none⟩ lA).trans BA.out.cell, (WC.out U k ⟨Bb, 0, none⟩ lB).trans BB.out.cell, (WC.out U k ⟨Bc, 0, none⟩ lC).trans BC.out.cell, fun j v hv => (WC.out U k ⟨gb, _, none⟩ Gb).trans (IB.out j v hv)⟩)
        refine wpIn_wide.2 ?_
        obtain ⟨f0, f1, f2, -⟩ := CF.out W1 (Below.refl _ _)
        go_quiet (fail)
        obtain ⟨w8, hU⟩ : ∃ U, W1.drewN nq = U := ⟨_, rfl⟩
        have K : Below W1.heap.size W1 w8 := by rw [← hU]; exact obel_drewN W1 nq
        rw [hU]
        clear hU f0 f1 f2
        obtain ⟨f0, f1, f2, -⟩ := CF.out _ K
        obtain ⟨HTH, HRG, HU⟩ := ent_new hx0.out K K1 y
        have HR8 := hide (show w8.rangeAt gb (ob + j * 17) (enL y) from fun j v hv => (WC.out _ K ⟨gb, _, none⟩ Gb).trans (IB.out j v hv))
        replace HTH := hide HTH
        replace HRG := hide HRG
        have Jp := HJ.out pre wr _ none hJw (ograwn HU) (fun r e => by cases e)
        obtain ⟨fn, tmps, assign, body, hy, hR⟩ := HY.out pre y _ Jp (by omega)
        dsimp only [enEncs] at hy
        have HU := hide HU
        clear K K1 CF WC B1 hx0
        gi_upto_region 5 with (first | (refine wpListIn_ld rfl _ rfl gb (ob + j * 17) rfl y HR8.out ?_; try simp only [Act.put, List.setIfInBounds_toArray, List.set_cons_zero, List.set_cons_succ]) | (refine wpListIn_st rfl _ _ rfl wr.heap.size 0 rfl y rfl HTH.out ?_; try simp only [Act.put, List.setIfInBounds_toArray, List.set_cons_zero, List.set_cons_succ]))
        generalize w8.setCells wr.heap.size 0 (enL y) = W9 at *
        gi_wp2_with (refine wpListIn_ld rfl _ rfl wr.heap.size 0 rfl y HRG.out ?_; try simp only [Act.put, List.setIfInBounds_toArray, List.set_cons_zero, List.set_cons_succ])
        refine hR.mono ?_
        rintro e W3 (⟨rfl, hJ3, hk3⟩ | ⟨rfl, hJx3⟩)
        · have hB3 := hide (hB.out.trans ((BelX.of HU.out (Nat.le_trans hw hB.out.size)).trans hk3))
          have hs3 := Nat.le_trans hWr (Nat.le_trans HU.out.size hk3.size)
          gi_wp2
          go_roundw
          case rel => exact ⟨i, j + 1, _, rfl, by simp, by omega, by omega, hide (by rw [← hpre.out, mrg_b hi1 hj1 hyj]; simp), by simp; omega, hB3, hs3, hJ3⟩
          case measure => simp [intOf]; omega
        · gi_wp2
          refine bodyPost_ret (results_none rfl _ _ _) rfl ?_
          refine ⟨⟨_, rfl⟩, .inr ⟨_, ?_, hJx3⟩⟩
          rw [← hpre.out, mrg_b hi1 hj1 hyj]
          exact ⟨mrg f (xs.drop i) (ys.drop (j + 1)), by simp⟩
      · obtain rfl : i = xs.length := by omega
        obtain rfl : j = ys.length := by omega
        gi_wp2
        go_end0
        exact ⟨⟨_, rfl⟩, .inl ⟨pre, by have := hpre.out; simpa [mrg] using this, hJw⟩⟩
theorem enmerged_stops {n Ba Bb Bc n₀ : Nat} {X : Nat → Prop} {I : World → Prop} {w : World} {va vb cv : Value} {xs ys : List En} {f : En → En → Int} (hn : 1 ≤ n)
    (bA : Boxed w Ba 107 va) (bB : Boxed w Bb 107 vb) (bC : Boxed w Bc 114 cv) (lA : Ba < n₀ ∧ ¬ X Ba) (lB : Bb < n₀ ∧ ¬ X Bb) (lC : Bc < n₀ ∧ ¬ X Bc)
    (ha : EnRd (fun g => g < n₀ ∧ ¬ X g) w va xs) (hb : EnRd (fun g => g < n₀ ∧ ¬ X g) w vb ys) {Pd : En → Prop} (hc : CmpIsE I cv Pd f) (hpa : ∀ x ∈ xs, Pd x) (hpb : ∀ x ∈ ys, Pd x) (hIw : I w) (hI : ∀ W W', I W → BelX X n₀ W W' → I W') (hw : n₀ ≤ w.heap.size) (hx : xs.length ≤ 4611686018427387903) (hy : ys.length ≤ 4611686018427387903) :
    SeqStopsK Fence.wide n Tryz.prog 176 #[.pointer (some ⟨Ba, 0, none⟩), .pointer (some ⟨Bb, 0, none⟩), .pointer (some ⟨Bc, 0, none⟩)] enEncs (BelX X n₀) (fun zs => zs = mrg f xs ys) (fun pre => pre <+: mrg f xs ys) (xs.length + ys.length) w := fun l J Jx W hW hJ _ hY h0 =>
  enmerged1_in hn bA bB bC lA lB lC ha hb hc hpa hpb hIw hI hw (Nat.le_refl _) hx hy J Jx hY W hJ hW h0
end Go.Proofs.YticmlelalbaalaaGreatDoor
namespace Go.Proofs.YticmlelalbaalaaGreatDoor
open Go.RowKit Go.Shelf
set_option linter.unusedVariables false
def flatE (xs : List En) : List Value := xs.flatMap enL
theorem flatE_cons (x : En) (xs : List En) : flatE (x :: xs) = enL x ++ flatE xs := rfl
theorem flatE_len (xs : List En) : (flatE xs).length = xs.length * 17 := by
  induction xs with
  | nil => rfl
  | cons x xs ih => rw [flatE_cons, List.length_append, ih, List.length_cons, enL_len]; omega
theorem flatE_append (xs ys : List En) : flatE (xs ++ ys) = flatE xs ++ flatE ys := by simp [flatE]
theorem flatE_get (xs : List En) (i : Nat) (h : i < xs.length) (j : Nat) (hj : j < 17) : (flatE xs)[i * 17 + j]? = (enL xs[i])[j]? := by
  induction xs generalizing i with
  | nil => simp at h
  | cons x xs ih =>
    rw [flatE_cons]
    cases i with
    | zero => rw [List.getElem?_append_left (by rw [enL_len]; omega)]; simp
    | succ i =>
      have := ih i (by simpa using h)
      rw [List.getElem?_append_right (by rw [enL_len]; omega), enL_len, show (i + 1) * 17 + j - 17 = i * 17 + j by omega, this]
      simp
theorem flatE_set (xs : List En) (i : Nat) (h : i < xs.length) (x : En) : (flatE xs).take (i * 17) ++ enL x ++ (flatE xs).drop (i * 17 + 17) = flatE (xs.set i x) := by
  induction xs generalizing i with
  | nil => simp at h
  | cons y xs ih =>
    cases i with
    | zero => rw [flatE_cons, List.set_cons_zero, flatE_cons, Nat.zero_mul, List.take_zero, List.nil_append, Nat.zero_add, List.drop_left' (enL_len y)]
    | succ i =>
      have e := ih i (by simpa using h)
      rw [flatE_cons, List.set_cons_succ, flatE_cons, ← e, show (i + 1) * 17 = (enL y).length + i * 17 by rw [enL_len]; omega, List.take_length_add_append, show (enL y).length + i * 17 + 17 = (enL y).length + (i * 17 + 17) by omega, List.drop_length_add_append]
      simp
theorem heap_cells_eq (b : Nat) (t : TypeId) : ∀ (vs : List Value) (o : Nat) (w : World) (cur : Array Value), w.heap[b]? = some (.cells cur t (0, 0)) → o + vs.length ≤ cur.size → (w.setCells b o vs).heap[b]? = some (.cells (cur.toList.take o ++ vs ++ cur.toList.drop (o + vs.length)).toArray t (0, 0))
  | [], o, w, cur, h, _ => by
    rw [World.setCells, h]
    simp
  | v :: r, o, w, cur, h, hl => by
    simp only [List.length_cons] at hl
    rw [World.setCells, heap_cells_eq b t r (o + 1) _ _ (heap_setCell_same w b o _ _ v h) (by simp; omega)]
    congr 3
    rw [Array.toList_setIfInBounds, List.take_add_one, List.take_set_of_le (Nat.le_refl _), List.drop_set_of_lt (by omega), List.length_cons, show o + 1 + r.length = o + (r.length + 1) by omega]
    have ho : o < cur.size := by omega
    simp [ho]
def EnRow (w : World) (g : Nat) (xs : List En) : Prop := w.heap[g]? = some (.cells (flatE xs).toArray 112 (0, 0))
theorem EnRow.lt {w : World} {g : Nat} {xs : List En} (h : EnRow w g xs) : g < w.heap.size := (Array.getElem?_eq_some_iff.1 h).1
theorem EnRow.cell {w : World} {g : Nat} {xs : List En} (h : EnRow w g xs) {i : Nat} (hi : i < xs.length) : w.rangeAt g (i * 17) (enL xs[i]) := by
  intro j v hv
  have hj : j < 17 := by have := (List.getElem?_eq_some_iff.1 hv).1; rw [enL_len] at this; exact this
  rw [cell_of_row w g (i * 17 + j) _ _ _ h]
  have := flatE_get xs i hi j hj
  rw [hv] at this
  simpa using this
theorem EnRow.there {w : World} {g : Nat} {xs : List En} (h : EnRow w g xs) {i : Nat} (hi : i < xs.length) : w.there g (i * 17) 17 := there_blk h (by rw [List.size_toArray, flatE_len]; omega)
theorem EnRow.set {w : World} {g : Nat} {xs : List En} (h : EnRow w g xs) {i : Nat} (hi : i < xs.length) (x : En) : EnRow (w.setCells g (i * 17) (enL x)) g (xs.set i x) := by
  unfold EnRow
  rw [heap_cells_eq g _ _ _ w _ h (by rw [enL_len, List.size_toArray, flatE_len]; omega), ← flatE_set xs i hi x, enL_len]
theorem EnRow.keep {w w' : World} {g : Nat} {xs : List En} (h : EnRow w g xs) (e : w'.heap[g]? = w.heap[g]?) : EnRow w' g xs := e.trans h
theorem EnRow.rd {w : World} {g c : Nat} {xs : List En} (h : EnRow w g xs) {G : Nat → Prop} (hG : G g) (h1 : xs.length ≤ c) (h2 : c ≤ maxLen) : EnRd G w (.slice (some ⟨g, 0, none⟩) xs.length c) xs :=
  ⟨_, c, rfl, h1, h2, fun _ => ⟨g, 0, rfl, hG, h.lt, fun i hi => by rw [Nat.zero_add]; exact h.cell hi⟩⟩
def runs {α : Type} (f : α → α → Int) (s : Nat) (xs : List α) : List α :=
  if h : xs = [] ∨ s = 0 then xs else mrg f (xs.take s) ((xs.drop s).take s) ++ runs f s (xs.drop (2 * s))
termination_by xs.length
decreasing_by
  have : 0 < xs.length := List.length_pos_iff.2 (fun e => h (.inl e))
  rw [List.length_drop]
  omega
theorem runs_nil {α : Type} (f : α → α → Int) (s : Nat) : runs f s [] = [] := by rw [runs]; simp
theorem runs_step {α : Type} (f : α → α → Int) {s : Nat} (hs : 0 < s) {xs : List α} (h : xs ≠ []) : runs f s xs = mrg f (xs.take s) ((xs.drop s).take s) ++ runs f s (xs.drop (2 * s)) := by
  rw [runs, dif_neg (by rintro (h' | h'); exact h h'; omega)]
theorem runs_len {α : Type} (f : α → α → Int) (s : Nat) (xs : List α) : (runs f s xs).length = xs.length := by
  fun_induction runs f s xs with
  | case1 xs h => rfl
  | case2 xs h ih => rw [List.length_append, ih, mrg_len]; simp; omega
theorem sub_rd {w U : World} {gi ga oa ca k M : Nat} {xs ys : List En} {G : Nat → Prop} (ia : EnIn w ga oa xs) (hB : BelX (fun k => k = gi) w.heap.size w U) (ga1 : ga ≠ gi) (ga2 : ga < w.heap.size) (hG : G ga) (hl : ys.length = M - k) (hk : k ≤ M) (hM : M ≤ xs.length) (hg : ∀ i, i < M - k → ys[i]? = xs[k + i]?) (hc : M ≤ ca) (hcm : ca ≤ maxLen) :
    EnRd G U (.slice (some ⟨ga, oa + k * 17, none⟩) (M - k) (ca - k)) ys := by
  refine ⟨_, ca - k, by rw [hl], by omega, by omega, fun hp => ⟨ga, _, rfl, hG, Nat.lt_of_lt_of_le ga2 hB.size, fun i hi => ?_⟩⟩
  have e := hg i (by omega)
  rw [List.getElem?_eq_getElem hi, List.getElem?_eq_getElem (by omega)] at e
  injection e with e
  have q := ia (k + i) (by omega)
  rw [e, show oa + k * 17 + i * 17 = oa + (k + i) * 17 by omega]
  exact range_blk q (hB.block ga ga2 ga1)
theorem nil_rd {U : World} {ao : Option Addr} {n c : Nat} {ys : List En} {G : Nat → Prop} (hn : n = 0) (hy : ys = []) (hc : c ≤ maxLen) : EnRd G U (.slice ao n c) ys := by
  subst hn hy
  exact ⟨ao, c, rfl, Nat.zero_le _, hc, fun h => absurd h (by simp)⟩
theorem run_a {α : Type} (xs : List α) {k s M : Nat} (hM : M = min (k + s) xs.length) (i : Nat) (h : i < M - k) : ((xs.drop k).take s)[i]? = xs[k + i]? := by
  rw [List.getElem?_take_of_lt (by omega), List.getElem?_drop]
theorem run_b {α : Type} (xs : List α) {k s M E : Nat} (hM : M = min (k + s) xs.length) (hE : E = min (M + s) xs.length) (i : Nat) (h : i < E - M) : (((xs.drop k).drop s).take s)[i]? = xs[M + i]? := by
  rw [List.getElem?_take_of_lt (by omega), List.getElem?_drop, List.getElem?_drop, ← Nat.add_assoc, show k + s = M by omega]
theorem run_al {α : Type} (xs : List α) {k s M : Nat} (hM : M = min (k + s) xs.length) : ((xs.drop k).take s).length = M - k := by
  rw [List.length_take, List.length_drop]; omega
theorem run_bl {α : Type} (xs : List α) {k s M E : Nat} (hM : M = min (k + s) xs.length) (hE : E = min (M + s) xs.length) : (((xs.drop k).drop s).take s).length = E - M := by
  rw [List.length_take, List.length_drop, List.length_drop]; omega
theorem run_next {α : Type} (f : α → α → Int) {xs : List α} {k s M E : Nat} (hs : 0 < s) (hk : k < xs.length) (hM : M = min (k + s) xs.length) (hE : E = min (M + s) xs.length) : runs f s (xs.drop k) = mrg f ((xs.drop k).take s) (((xs.drop k).drop s).take s) ++ runs f s (xs.drop E) := by
  rw [runs_step f hs (by intro e; have := congrArg List.length e; rw [List.length_drop] at this; simp at this; omega)]
  congr 2
  rw [List.drop_drop]
  by_cases h : k + 2 * s ≤ xs.length
  · congr 1; omega
  · rw [List.drop_eq_nil_of_le (by omega), List.drop_eq_nil_of_le (by omega)]
theorem take_set_next {α : Type} {zs dn : List α} {m : Nat} {x : α} (hm : m < zs.length) (h : zs.take m = dn) : (zs.set m x).take (m + 1) = dn ++ [x] := by
  rw [List.take_add_one, List.take_set_of_le (Nat.le_refl _), h]
  simp [hm]
def mark (D : Nat) : Deferred := { target := .collected D, args := #[] }
theorem marks_leave {F : Fence} {n : Nat} {P : Program} {fn : Func} {tmps : Array Value} {R : Ending → World → Prop} {A : Nat} {Inv : World → Prop}
    (hI : ∀ w D, Inv w → A ≤ D → w.heap[D]? = some (.deferred (some [])) → Inv (w.putObj D (.deferred none)))
    (hR : ∀ w, Inv w → ∃ v, (results fn tmps).run P w = .ok v w ∧ R (.returned v) w) :
    ∀ (Ds : List Nat) (w : World), (∀ D ∈ Ds, A ≤ D ∧ w.heap[D]? = some (.deferred (some []))) → Ds.Nodup → Inv w → LeavesInM F n P fn tmps R (Ds.map mark) .returning w := by
  intro Ds
  induction Ds with
  | nil => intro w _ _ hi; exact hR w hi
  | cons D Ds ih =>
    intro w h hd hi
    obtain ⟨hD1, hD2⟩ := h D List.mem_cons_self
    refine ⟨by simp, .inl ⟨D, _, rfl, run_takeDeferred hD2, ih _ ?_ (List.nodup_cons.1 hd).2 (hI w D hi hD1 hD2)⟩⟩
    intro E hE
    obtain ⟨h1, h2⟩ := h E (List.mem_cons_of_mem _ hE)
    have hne : E ≠ D := fun e => (List.nodup_cons.1 hd).1 (e ▸ hE)
    exact ⟨h1, (World.putObj_heap_other (fun e => hne e)).trans h2⟩
theorem marks_more {Ds : List Nat} {D A : Nat} {W W' : World} (h : ∀ D ∈ Ds, A ≤ D ∧ W.heap[D]? = some (.deferred (some []))) (hn : Ds.Nodup) (hB : ∀ E ∈ Ds, W'.heap[E]? = W.heap[E]?) (hD : W'.heap[D]? = some (.deferred (some []))) (h1 : W.heap.size ≤ D) (h2 : A ≤ D) :
    (∀ E ∈ D :: Ds, A ≤ E ∧ W'.heap[E]? = some (.deferred (some []))) ∧ (D :: Ds).Nodup := by
  have hlt : ∀ E ∈ Ds, E < W.heap.size := fun E hE => (Array.getElem?_eq_some_iff.1 (h E hE).2).1
  refine ⟨fun E hE => ?_, List.nodup_cons.2 ⟨fun hE => by have := hlt D hE; omega, hn⟩⟩
  rcases List.mem_cons.1 hE with rfl | hE
  · exact ⟨h2, hD⟩
  · exact ⟨(h E hE).1, (hB E hE).trans (h E hE).2⟩
theorem belx_putObj {X : Nat → Prop} {n : Nat} {W : World} {l : Nat} (o' : Obj) (hl : n ≤ l) : BelX X n W (W.putObj l o') := by
  have h := grownBy_putObj' W l o'
  exact ⟨h.os, h.tape, h.output, h.size, fun k hk _ => World.putObj_heap_other (fun e => by omega)⟩
theorem belx_set {X : Nat → Prop} {n b i : Nat} (W : World) (v : Value) (h : X b) : BelX X n W (W.setCell ⟨b, i, none⟩ v) := by
  have hz := (Below.refl 0 W).setCell (p := ⟨b, i, none⟩) (Nat.zero_le _) v
  exact ⟨hz.os, hz.tape, hz.output, hz.size, fun k _ hk => heap_setCell_other W _ k _ (fun e => hk (e ▸ h))⟩
end Go.Proofs.YticmlelalbaalaaGreatDoor
namespace Go.Proofs.YticmlelalbaalaaGreatDoor
open Go.RowKit Go.Shelf
set_option linter.unusedVariables false
set_option linter.unusedSimpArgs false
attribute [local go_sem] Oper.semAt_some
theorem enmerged_box {w : World} {ao bo : Option Addr} {la ca lb cb g : Nat} {cs : Array Value} : Calls Tryz.prog 147 #[.slice ao la ca, .slice bo lb cb, .func (.func g) #[] cs] w fun e w' => e = .returned (.func (.func 176) #[] #[.pointer (some ⟨w.heap.size, 0, none⟩), .pointer (some ⟨w.heap.size + 1, 0, none⟩), .pointer (some ⟨w.heap.size + 2, 0, none⟩)]) ∧ Boxed w' w.heap.size 107 (.slice ao la ca) ∧ Boxed w' (w.heap.size + 1) 107 (.slice bo lb cb) ∧ Boxed w' (w.heap.size + 2) 114 (.func (.func g) #[] cs) ∧ Below w.heap.size w w' := by
  refine enmerged_any.mono ?_
  rintro e w' ⟨rfl, rfl⟩
  refine ⟨rfl, ((Boxed.new _ _ _).alloc _).alloc _, ?_, ?_, ((((Below.refl _ w).alloc (Nat.le_refl _) _).alloc (by simp) _).alloc (by simp; omega) _)⟩
  · have := (Boxed.new (w.alloc (.cells #[.slice ao la ca] 107)) 107 (.slice bo lb cb)).alloc (.cells #[.func (.func g) #[] cs] 114)
    simpa using this
  · have := Boxed.new ((w.alloc (.cells #[.slice ao la ca] 107)).alloc (.cells #[.slice bo lb cb] 107)) 114 (.func (.func g) #[] cs)
    simpa using this
def OI (gi Bt Bi ci n k : Nat) (dn : List En) (w8 : World) (pre : List En) (W : World) : Prop := ∃ zs, EnRow W gi zs ∧ zs.length = n ∧ zs.take (k + pre.length) = dn ++ pre ∧ Boxed W Bt 3 (.int .i64 ((k + pre.length : Nat) : Int)) ∧ Boxed W Bi 107 (.slice (some ⟨gi, 0, none⟩) n ci) ∧ BelX (fun k => k = gi ∨ k = Bt) w8.heap.size w8 W
theorem oi_own {gi Bt Bi ci n k : Nat} {dn : List En} {w8 : World} (h1 : gi < w8.heap.size) (h2 : Bt < w8.heap.size) (h3 : Bi < w8.heap.size) : OwnFrom w8.heap.size (OI gi Bt Bi ci n k dn w8) := by
  rintro pre W W' row ⟨zs, a, b, c, d, e, f⟩ hg hr
  have ne : ∀ r, r < w8.heap.size → some r ≠ row := fun r h e => by have := (hr r e.symm).1; omega
  exact ⟨zs, a.keep (hg.block gi a.lt (ne _ h1)), b, c, d.kept hg (ne _ h2), e.kept hg (ne _ h3), f.trans (BelX.grown hg f.size (fun r e => .inl (hr r e).1))⟩
theorem oi_start {gi Bt Bi ci n k : Nat} {dn zs : List En} {w8 : World} (h : EnRow w8 gi zs) (h1 : zs.length = n) (h2 : zs.take k = dn) (b : Boxed w8 Bt 3 (.int .i64 k)) (c : Boxed w8 Bi 107 (.slice (some ⟨gi, 0, none⟩) n ci)) : OI gi Bt Bi ci n k dn w8 [] w8 := ⟨zs, h, h1, by simpa using h2, b, c, BelX.refl _ _ _⟩
theorem cells_size (b : Nat) : ∀ (vs : List Value) (o : Nat) (W : World), (W.setCells b o vs).heap.size = W.heap.size
  | [], _, _ => rfl
  | v :: r, o, W => by rw [World.setCells, cells_size b r]; simp [World.setCell]
theorem belx_cells {X : Nat → Prop} {n b : Nat} (W : World) (h : X b) : ∀ (vs : List Value) (o : Nat), BelX X n W (W.setCells b o vs) := by
  intro vs o
  have hz := grown_cells b vs o W
  exact ⟨hz.os, hz.tape, hz.output, hz.size, fun k hk hx => by
    rcases Nat.lt_or_ge k W.heap.size with g | g
    · exact hz.block k g (fun e => hx (by cases e; exact h))
    · have e1 : (W.setCells b o vs).heap.size = W.heap.size := cells_size b vs o W
      rw [Array.getElem?_eq_none g, Array.getElem?_eq_none (by omega)]⟩
theorem ko_cells (b : Nat) : ∀ (vs : List Value) (o : Nat) (W : World), KeepsOthers W (W.setCells b o vs)
  | [], _, W => KeepsOthers.refl W
  | v :: r, o, W => (KeepsOthers.setCell W ⟨b, o, none⟩ v).trans (ko_cells b r (o + 1) _)
theorem new_ent (W : World) (x : En) : ((W.alloc (.cells #[.int .i8 0, .int .u64 0, .bool false, .slice none 0 0, .int .u64 0, .int .i8 0, .string ⟨#[]⟩, .slice none 0 0, .int .i8 0, .int .u64 0, .bool false, .slice none 0 0, .int .u64 0, .int .i8 0, .string ⟨#[]⟩, .slice none 0 0, .int .i64 0] 112)).setCells W.heap.size 0 (enL x)).heap[W.heap.size]? = some (.cells (enL x).toArray 112 (0, 0)) := by
  rw [heap_cells_eq _ 112 (enL x) 0 _ _ (World.alloc_heap_new W (.cells #[.int .i8 0, .int .u64 0, .bool false, .slice none 0 0, .int .u64 0, .int .i8 0, .string ⟨#[]⟩, .slice none 0 0, .int .i8 0, .int .u64 0, .bool false, .slice none 0 0, .int .u64 0, .int .i8 0, .string ⟨#[]⟩, .slice none 0 0, .int .i64 0] 112)) (by rw [enL_len]; decide)]
  rfl
theorem oi_step {gi Bt Bi ci n k m : Nat} {dn : List En} {w8 : World} {pre : List En} {W : World} (h : OI gi Bt Bi ci n k dn w8 pre W) (hm : k + pre.length = m) (hml : m < n) (h1 : Bt ≠ gi) (h2 : Bi ≠ gi) (h3 : Bi ≠ Bt) (x : En) :
    OI gi Bt Bi ci n k dn w8 (pre ++ [x]) ((W.setCells gi (m * 17) (enL x)).setCell ⟨Bt, 0, none⟩ (.int .i64 ((m : Int) + 1))) ∧ BelX (fun k => k = gi ∨ k = Bt) w8.heap.size W ((W.setCells gi (m * 17) (enL x)).setCell ⟨Bt, 0, none⟩ (.int .i64 ((m : Int) + 1))) ∧ KeepsFrom w8.heap.size W ((W.setCells gi (m * 17) (enL x)).setCell ⟨Bt, 0, none⟩ (.int .i64 ((m : Int) + 1))) := by
  obtain ⟨zs, a, b, c, d, e, f⟩ := h
  rw [hm] at c d
  have g1 := grown_cells gi (enL x) (m * 17) W
  have bx : BelX (fun k => k = gi ∨ k = Bt) w8.heap.size W ((W.setCells gi (m * 17) (enL x)).setCell ⟨Bt, 0, none⟩ (.int .i64 ((m : Int) + 1))) := (belx_cells _ (.inl rfl) _ _).trans (belx_set _ _ (.inr rfl))
  refine ⟨⟨zs.set m x, ?_, by rw [List.length_set]; exact b, ?_, ?_, ?_, f.trans bx⟩, bx, ((ko_cells gi (enL x) (m * 17) W).trans (KeepsOthers.setCell _ _ _)).from _⟩
  · exact (a.set (i := m) (by omega) x).keep (heap_setCell_other _ _ _ _ (fun e => h1 e.symm))
  · rw [List.length_append, List.length_singleton, ← Nat.add_assoc, hm, take_set_next (by omega) c, List.append_assoc]
  · have := (d.kept g1 (fun e => h1 (by cases e; rfl))).set (.int .i64 ((m : Int) + 1))
    rw [List.length_append, List.length_singleton, ← Nat.add_assoc, hm]
    simpa using this
  · exact (e.kept g1 (fun e => h2 (by cases e; rfl))).other h3 _
set_option maxRecDepth 100000 in
set_option maxHeartbeats 8000000 in
theorem enruns_any {w : World} {gi ci s : Nat} {va cv : Value} {xs ws : List En} {I : World → Prop} {f : En → En → Int} (hs : 0 < s) (hs2 : s ≤ 1152921504606846976) (hx : xs.length ≤ 1152921504606846976) (hr : EnRow w gi ws) (hw : ws.length = xs.length) (hci : xs.length ≤ ci) (hcm : ci ≤ maxLen)
    (ha : EnRd (fun g => g ≠ gi) w va xs) {Pd : En → Prop} (hc : CmpIsE I cv Pd f) (hpd : ∀ x ∈ xs, Pd x) (hIw : I w) (hI : ∀ W W', I W → BelX (fun k => k = gi) w.heap.size W W' → I W') :
    Calls Tryz.prog 116 #[.slice (some ⟨gi, 0, none⟩) xs.length ci, va, .int .i64 s, cv] w fun e w' => e = .returned (.tuple #[]) ∧ EnRow w' gi (runs f s xs) ∧ BelX (fun k => k = gi) w.heap.size w w' := by
  have hcc := hc
  obtain ⟨cg, cl, rfl, eg, hcall⟩ := hc.val
  have haa := ha
  obtain ⟨ao, ca, rfl, hac, ham, hacl⟩ := ha
  have HPD := hide hpd
  clear hpd
  have HA := hide haa
  have HCC := hide hcc
  have HR := hide hr
  have HIw := hide hIw
  have HI := hide hI
  have HACL := hide hacl
  have hgi := hr.lt
  unfold maxLen at hcm ham
  clear hcc hc hcall haa hacl hr hIw hI
  refine (callsIn_wide (n := 4)).1 ?_
  refine callsIn_of_wp_marks Tryz.func116 rfl trivial ?_ rfl
  simp only [Tryz.ntmps116, List.size_toArray, List.length_cons, List.length_nil, Nat.reduceAdd, Nat.reduceSub, Array.replicate_succ, Array.replicate_zero, List.push_toArray, List.append_toArray, List.nil_append, List.cons_append]
  refine wpIn_wide.2 ?_
  go_wp2
  refine wp_loop (fun a W => ∃ (k : Nat) (Ds : List Nat) (dn : List En) (zs : List En) (x9 x10 x11 x12 x13 x14 x15 x16 x17 x18 x19 x20 x21 x22 x23 x24 x25 x26 x27 x28 x29 x30 x31 x32 x33 x34 x35 x36 x37 x38 x39 x40 x41 x42 x43 x44 : Value), a = { tmps := #[.slice (some ⟨gi, 0, none⟩) xs.length ci, .slice ao xs.length ca, .int .i64 s, .func (.func cg) #[] cl, .pointer (some ⟨w.heap.size, 0, none⟩), undef, undef, undef, .pointer (some ⟨w.heap.size + 1, 0, none⟩), x9, x10, x11, x12, x13, x14, x15, x16, x17, x18, x19, x20, x21, x22, x23, x24, x25, x26, x27, x28, x29, x30, x31, x32, x33, x34, x35, x36, x37, x38, x39, x40, x41, x42, x43, x44], defers := Ds.map mark } ∧ k ≤ xs.length ∧ dn.length = k ∧ dn ++ runs f s (xs.drop k) = runs f s xs ∧ EnRow W gi zs ∧ zs.length = xs.length ∧ zs.take k = dn ∧ Boxed W w.heap.size 107 (.slice (some ⟨gi, 0, none⟩) xs.length ci) ∧ Boxed W (w.heap.size + 1) 3 (.int .i64 k) ∧ BelX (fun k => k = gi) w.heap.size w W ∧ (∀ D ∈ Ds, w.heap.size + 2 ≤ D ∧ W.heap[D]? = some (.deferred (some []))) ∧ Ds.Nodup) (fun a W => xs.length - (intOf ((W.cell? ⟨w.heap.size + 1, 0, none⟩).getD undef)).toNat) ?_ ?_
  · have bI := (Boxed.new w 107 (.slice (some ⟨gi, 0, none⟩) xs.length ci)).alloc (.cells #[.int .i64 0] 3)
    have bT := Boxed.new (w.alloc (.cells #[.slice (some ⟨gi, 0, none⟩) xs.length ci] 107)) 3 (.int .i64 0)
    have hb2 : Below w.heap.size w ((w.alloc (.cells #[.slice (some ⟨gi, 0, none⟩) xs.length ci] 107)).alloc (.cells #[.int .i64 0] 3)) := ((Below.refl _ w).alloc (Nat.le_refl _) _).alloc (by simp) _
    rw [World.size_alloc] at bT
    exact ⟨0, [], [], ws, undef, undef, undef, undef, undef, undef, undef, undef, undef, undef, undef, undef, undef, undef, undef, undef, undef, undef, undef, undef, undef, undef, undef, undef, undef, undef, undef, undef, undef, undef, undef, undef, undef, undef, undef, undef, rfl, by omega, rfl, by simp, HR.out.keep (hb2.block _ hgi), hw, by simp, bI, bT, BelX.of hb2 (Nat.le_refl _), by simp, by simp⟩
  · rintro a W ⟨k, Ds, dn, zs, x9, x10, x11, x12, x13, x14, x15, x16, x17, x18, x19, x20, x21, x22, x23, x24, x25, x26, x27, x28, x29, x30, x31, x32, x33, x34, x35, x36, x37, x38, x39, x40, x41, x42, x43, x44, rfl, hk, hdl, hdn, hrow, hzl, hzt, bI, bT, hB, hDs, hnd⟩
    have cI := bI.cell
    have cT := bT.cell
    by_cases hkl : k < xs.length
    · have q1 : (k : Int) < (xs.length : Int) := by omega
      have q0 : (k : Int) ≤ (xs.length : Int) := by omega
      obtain ⟨ga, oa, rfl, ga1, ga2, ia⟩ := HACL.out (by omega)
      have IA := hide ia
      clear ia
      have HB := hide hB
      have HROW := hide hrow
      have BI := hide bI
      have HZT := hide hzt
      have HDN := hide hdn
      have HDS := hide hDs
      have n1 : ¬ ca = k := by omega
      clear hB hrow bI hzt hdn hDs cI
      by_cases h1 : k + s < xs.length
      · obtain ⟨M, hM⟩ : ∃ M, M = k + s := ⟨_, rfl⟩
        have e1 : (k : Int) + (s : Int) = (M : Int) := by omega
        have q2 : (M : Int) ≤ (xs.length : Int) := by omega
        have q3 : (k : Int) ≤ (M : Int) := by omega
        have n2 : k ≤ M := by omega
        have n3 : M ≤ ca := by omega
        have HM := hide (show M = min (k + s) xs.length by omega)
        clear hM
        by_cases h2 : M + s ≤ xs.length
        · obtain ⟨E, hE⟩ : ∃ E, E = M + s := ⟨_, rfl⟩
          have e2 : (M : Int) + (s : Int) = (E : Int) := by omega
          have q4 : (E : Int) ≤ (xs.length : Int) := by omega
          have q5 : (M : Int) ≤ (E : Int) := by omega
          have n4 : ¬ ca = M := by omega
          have n5 : M ≤ E := by omega
          have n6 : E ≤ ca := by omega
          have HE := hide (show E = min (M + s) xs.length by omega)
          clear hE h2
          have K : Below W.heap.size W W.drew := (Below.refl _ _).drew
          have HT := hide bT
          have CF := hide (fun U (k' : Below W.heap.size W U) => (k'.cell (p := ⟨w.heap.size + 1, 0, none⟩) HT.out.lt).trans HT.out.cell)
          go_wp2
          first | go_region_held3 (fun u => u.cell? ⟨w.heap.size + 1, 0, none⟩ = some (.int .i64 k))
            (first | with_reducible exact CF.out _ K | go_keep)
            (first | (go_at_call 147; (with_reducible refine enmerged_box.mono ?_); rintro e w8 ⟨rfl, b1, b2, b3, hb⟩; have KX := K; replace K := K.trans (hb.mono K.size); clear hb)) | fail "region"
          have hsz : W.heap.size + 3 ≤ w8.heap.size := by have := b3.lt; simp at this; omega
          have hwW := HB.out.size
          have hbtW := HT.out.lt
          have hB8 : BelX (fun k => k = gi) w.heap.size w w8 := HB.out.trans (BelX.of K hwW)
          have hrow8 : EnRow w8 gi zs := HROW.out.keep (K.block _ HROW.out.lt)
          have bI8 : Boxed w8 w.heap.size 107 (.slice (some ⟨gi, 0, none⟩) xs.length ci) := (K.block _ BI.out.lt).trans BI.out
          have bT8 : Boxed w8 (w.heap.size + 1) 3 (.int .i64 k) := (K.block _ HT.out.lt).trans HT.out
          have RA : EnRd (fun g => g < w8.heap.size ∧ ¬ (g = gi ∨ g = w.heap.size + 1)) w8 (.slice (some ⟨ga, oa + k * 17, none⟩) (M - k) (ca - k)) ((xs.drop k).take s) := sub_rd IA.out hB8 ga1 ga2 ⟨by omega, by omega⟩ (run_al xs HM.out) (by omega) (by omega) (run_a xs HM.out) (by omega) (by unfold maxLen; omega)
          have RB : EnRd (fun g => g < w8.heap.size ∧ ¬ (g = gi ∨ g = w.heap.size + 1)) w8 (.slice (some ⟨ga, oa + M * 17, none⟩) (E - M) (ca - M)) (((xs.drop k).drop s).take s) := sub_rd IA.out hB8 ga1 ga2 ⟨by omega, by omega⟩ (run_bl xs HM.out HE.out) (by omega) (by omega) (run_b xs HM.out HE.out) (by omega) (by unfold maxLen; omega)
          have hI8 := hide (HI.out w w8 HIw.out hB8)
          have hIm := hide (fun (U U' : World) (h : I U) (kk : BelX (fun k => k = gi ∨ k = w.heap.size + 1) w8.heap.size U U') => HI.out U U' h (kk.mono (m := w.heap.size) (by omega) (fun j hj h => h.resolve_right (by omega))))
          have hseq := enmerged_stops (n := 3) (X := (fun k => k = gi ∨ k = w.heap.size + 1)) (n₀ := w8.heap.size) (by omega) b1 b2 b3 ⟨by have := b1.lt; simpa using this, by simp; omega⟩ ⟨by have := b2.lt; simpa using this, by simp; omega⟩ ⟨by have := b3.lt; simpa using this, by simp; omega⟩ RA RB HCC.out (fun x hx => HPD.out x (List.mem_of_mem_drop (List.mem_of_mem_take hx))) (fun x hx => HPD.out x (List.mem_of_mem_drop (List.mem_of_mem_drop (List.mem_of_mem_take hx)))) hI8.out hIm.out (Nat.le_refl _) (by rw [run_al xs HM.out]; omega) (by rw [run_bl xs HM.out HE.out]; omega)
          obtain ⟨Z, hZ⟩ : ∃ Z, mrg f ((xs.drop k).take s) (((xs.drop k).drop s).take s) = Z := ⟨_, rfl⟩
          have hZl : Z.length = E - k := by rw [← hZ, mrg_len, run_al xs HM.out, run_bl xs HM.out HE.out]; omega
          have hN : ((xs.drop k).take s).length + (((xs.drop k).drop s).take s).length = E - k := by rw [run_al xs HM.out, run_bl xs HM.out HE.out]; omega
          have hnx := run_next f hs hkl HM.out HE.out
          rw [hZ, hN] at hseq
          rw [hZ] at hnx
          have HSEQ := hide hseq
          have HNX := hide hnx
          have HK := hide K
          have HB8 := hide hB8
          clear hseq hnx K hB8 RA RB hZ hN b1 b2 b3 hI8 hIm CF KX
          have hgi8 : gi < w8.heap.size := by omega
          have hbt8 : w.heap.size + 1 < w8.heap.size := by omega
          have hbi8 : w.heap.size < w8.heap.size := by omega
          go_wp2_with fail
          refine (wpIn_wide (n := 4)).1 ?_
          refine' wpIn_rangeFunc_ownH rfl (by omega) (gf := 176) (lb := #[.pointer (some ⟨W.heap.size, 0, none⟩), .pointer (some ⟨W.heap.size + 1, 0, none⟩), .pointer (some ⟨W.heap.size + 2, 0, none⟩)]) (by simp [go_sem]) trivial (enters_of Tryz.func176 (by kernel_rfl) rfl)
            HSEQ.out BelX.trans (fun W l o o' hl _ _ _ => belx_putObj o' hl) (Below.refl _ _) (fun _ => rfl)
            (fun pre W' => OI gi (w.heap.size + 1) w.heap.size ci xs.length k dn w8 pre W')
            (fun _ _ _ => False) (oi_own (by omega) (by omega) (by omega)) (fun _ _ _ _ _ hs _ _ => hs) (oi_start hrow8 hzl HZT.out bT8 bI8)
            (fun x a' W' => ∃ Bx, w8.heap.size ≤ Bx ∧ W'.heap[Bx]? = some (.cells (enL x).toArray 112 (0, 0)) ∧ a' = { tmps := #[.slice (some ⟨gi, 0, none⟩) xs.length ci, .slice (some ⟨ga, oa, none⟩) xs.length ca, .int .i64 s, .func (.func cg) #[] cl, .pointer (some ⟨w.heap.size, 0, none⟩), undef, undef, undef, .pointer (some ⟨w.heap.size + 1, 0, none⟩), .int .i64 M, .int .i64 E, .pointer (some ⟨Bx, 0, none⟩), .int .i64 k, .slice (some ⟨ga, oa, none⟩) xs.length ca, .int .i64 xs.length, .bool true, .int .i64 k, .int .i64 s, .int .i64 (M), .slice (some ⟨ga, oa, none⟩) xs.length ca, .int .i64 xs.length, .int .i64 M, .int .i64 M, .int .i64 s, .int .i64 (E), .slice (some ⟨ga, oa, none⟩) xs.length ca, .int .i64 xs.length, .int .i64 E, .slice (some ⟨ga, oa, none⟩) xs.length ca, .int .i64 k, .int .i64 M, .slice (some ⟨ga, oa + k * 17, none⟩) (M - k) (ca - k), .slice (some ⟨ga, oa, none⟩) xs.length ca, .int .i64 M, .int .i64 E, .slice (some ⟨ga, oa + M * 17, none⟩) (E - M) (ca - M), .func (.func cg) #[] cl, .func (.func 176) #[] #[.pointer (some ⟨W.heap.size, 0, none⟩), .pointer (some ⟨W.heap.size + 1, 0, none⟩), .pointer (some ⟨W.heap.size + 2, 0, none⟩)], enV x, x39, x40, x41, x42, x43, x44], defers := [] }) ?hAx ?hassign ?hbody ?hdone ?hstop
          case hAx =>
            rintro x a' u X Y row ⟨Bx, h1, h2, h3⟩ hg hr
            exact ⟨Bx, h1, (hg.block Bx (Array.getElem?_eq_some_iff.1 h2).1 (fun e => by obtain ⟨_, o, ho, hc⟩ := hr Bx e.symm; rw [h2] at ho; cases ho; cases hc)).trans h2, h3⟩
          case hassign =>
            rintro l pre x W' K hi hK
            unfold enEncs
            have TH := hide (there_blk (o := 0) (n := 17) (World.alloc_heap_new W' (.cells #[.int .i8 0, .int .u64 0, .bool false, .slice none 0 0, .int .u64 0, .int .i8 0, .string ⟨#[]⟩, .slice none 0 0, .int .i8 0, .int .u64 0, .bool false, .slice none 0 0, .int .u64 0, .int .i8 0, .string ⟨#[]⟩, .slice none 0 0, .int .i64 0] 112)) (by decide))
            have KB := hide (below_cells (((Below.refl _ W').alloc (Nat.le_refl _) (.cells #[.int .i8 0, .int .u64 0, .bool false, .slice none 0 0, .int .u64 0, .int .i8 0, .string ⟨#[]⟩, .slice none 0 0, .int .i8 0, .int .u64 0, .bool false, .slice none 0 0, .int .u64 0, .int .i8 0, .string ⟨#[]⟩, .slice none 0 0, .int .i64 0] 112))) (Nat.le_refl _) (enL x) 0)
            have KH := hide (new_ent W' x)
            have KO := hide ((KeepsOthers.alloc W' (.cells #[.int .i8 0, .int .u64 0, .bool false, .slice none 0 0, .int .u64 0, .int .i8 0, .string ⟨#[]⟩, .slice none 0 0, .int .i8 0, .int .u64 0, .bool false, .slice none 0 0, .int .u64 0, .int .i8 0, .string ⟨#[]⟩, .slice none 0 0, .int .i64 0] 112)).trans (ko_cells W'.heap.size (enL x) 0 _))
            obtain ⟨W9, hW9⟩ : ∃ W9, (W'.alloc (.cells #[.int .i8 0, .int .u64 0, .bool false, .slice none 0 0, .int .u64 0, .int .i8 0, .string ⟨#[]⟩, .slice none 0 0, .int .i8 0, .int .u64 0, .bool false, .slice none 0 0, .int .u64 0, .int .i8 0, .string ⟨#[]⟩, .slice none 0 0, .int .i64 0] 112)).setCells W'.heap.size 0 (enL x) = W9 := ⟨_, rfl⟩
            rw [hW9] at KB KH KO
            have HW9 := hide hW9
            clear hW9
            have HKK := hide hK
            have HII := hide hi
            clear hK hi
            gi_wp2_with (refine wpListIn_st rfl _ _ rfl W'.heap.size 0 rfl x rfl TH.out ?_; rw [HW9.out]; try simp only [Act.put, List.setIfInBounds_toArray, List.set_cons_zero, List.set_cons_succ])
            have hK := HKK.out
            have hi := HII.out
            have hs8 := hi.choose_spec.2.2.2.2.2.size
            exact hK _ _ (KO.out.from _) (BelX.of KB.out hs8) (oi_own hgi8 hbt8 hbi8 pre W' _ none hi (ograwn KB.out) (fun r e => by cases e)) ⟨W'.heap.size, hs8, KH.out, rfl⟩
          case hbody =>
            rintro l pre x a' W' hl hr ⟨zs', r1, r2, r3, r4, r5, r6⟩ ⟨Bx, hBx, hx0, rfl⟩ hlt
            have c4 := r4.cell
            have c5 := r5.cell
            have f4 := r4.frozen
            obtain ⟨m, hm⟩ : ∃ m, k + pre.length = m := ⟨_, rfl⟩
            rw [hm] at c4 r3 r4
            have hml : m < xs.length := by omega
            have q6 : (m : Int) < (xs.length : Int) := by omega
            have HRX := hide (show W'.rangeAt Bx 0 (enL x) from fun j v hv => by rw [cell_of_row W' Bx (0 + j) _ _ _ hx0, Nat.zero_add]; simpa using hv)
            have HTG := hide (r1.there (i := m) (by omega))
            have r4k := r4.kept (grown_cells gi (enL x) (m * 17) W') (by simp; omega)
            have HC4 := hide r4k.cell
            have HF4 := hide r4k.frozen
            have HR1 := hide r1
            have HR3 := hide r3
            have HR4 := hide r4
            have HR5 := hide r5
            have HR6 := hide r6
            have HMM := hide hm
            have HX0 := hide hx0
            clear hx0 r1 r3 r4 r5 r6 hm r4k
            have HOI := hide (oi_step ⟨zs', HR1.out, r2, by rw [HMM.out]; exact HR3.out, by rw [HMM.out]; exact HR4.out, HR5.out, HR6.out⟩ HMM.out hml (by omega) (by omega) (by omega) x)
            gi_upto_region 8 with (first | (refine wpListIn_ld rfl _ rfl Bx 0 rfl x HRX.out ?_; try simp only [Act.put, List.setIfInBounds_toArray, List.set_cons_zero, List.set_cons_succ]) | (refine wpListIn_st rfl _ _ rfl gi (m * 17) rfl x rfl HTG.out ?_; try simp only [Act.put, List.setIfInBounds_toArray, List.set_cons_zero, List.set_cons_succ]))
            obtain ⟨W9, hW9⟩ : ∃ W9, W'.setCells gi (m * 17) (enL x) = W9 := ⟨_, rfl⟩
            rw [hW9] at HOI HC4 HF4 ⊢
            clear hW9 c4 f4
            have c4 := HC4.out
            have f4 := HF4.out
            gi_wp2
            exact ⟨HOI.out.2.2, HOI.out.2.1, HOI.out.1⟩
          case hdone =>
            rintro D ys W' hD rfl ⟨zs', r1, r2, r3, r4, r5, r6⟩ hK
            have hkE : k + ys.length = E := by omega
            rw [hkE] at r3 r4
            have HX := hide (marks_more HDS.out hnd (fun F hF => (r6.block F (by have := (Array.getElem?_eq_some_iff.1 (HDS.out F hF).2).1; omega) (by have := (HDS.out F hF).1; omega)).trans (HK.out.block F (Array.getElem?_eq_some_iff.1 (HDS.out F hF).2).1)) hK (by omega) (show w.heap.size + 2 ≤ D by omega))
            have HBB := hide (HB8.out.trans (r6.mono (m := w.heap.size) (by omega) (fun j hj h => h.resolve_right (by omega))))
            have HDD := hide (show (dn ++ ys) ++ runs f s (xs.drop E) = runs f s xs by rw [List.append_assoc, ← HNX.out, HDN.out])
            have c1 := HT.out.cell
            have c2 := r4.cell
            have R1 := hide r1
            have R3 := hide r3
            have R4 := hide r4
            have R5 := hide r5
            have CC := hide (And.intro c1 c2)
            clear r1 r3 r4 r5 r6 hK c1 c2
            go_wp2
            refine ⟨⟨E, D :: Ds, dn ++ ys, zs', _, _, _, _, _, _, _, _, _, _, _, _, _, _, _, _, _, _, _, _, _, _, _, _, _, _, _, _, _, _, _, _, _, _, _, _, rfl, by omega, by rw [List.length_append]; omega, HDD.out, R1.out, r2, R3.out, R5.out, R4.out, HBB.out, HX.out.1, HX.out.2⟩, ?_⟩
            rw [CC.out.1, CC.out.2]
            simp [intOf]
            omega
          case hstop =>
            rintro D c pre W' hD hpx h hK
            exact h.elim
        · have q4 : ¬ (M : Int) + (s : Int) ≤ (xs.length : Int) := by omega
          have q5 : (M : Int) ≤ (xs.length : Int) := by omega
          have n4 : ¬ ca = M := by omega
          have n5 : M ≤ xs.length := by omega
          have n6 : xs.length ≤ ca := by omega
          have HE := hide (show xs.length = min (M + s) xs.length by omega)
          clear h2
          have K : Below W.heap.size W W.drew := (Below.refl _ _).drew
          have HT := hide bT
          have CF := hide (fun U (k' : Below W.heap.size W U) => (k'.cell (p := ⟨w.heap.size + 1, 0, none⟩) HT.out.lt).trans HT.out.cell)
          go_wp2
          first | go_region_held3 (fun u => u.cell? ⟨w.heap.size + 1, 0, none⟩ = some (.int .i64 k))
            (first | with_reducible exact CF.out _ K | go_keep)
            (first | (go_at_call 147; (with_reducible refine enmerged_box.mono ?_); rintro e w8 ⟨rfl, b1, b2, b3, hb⟩; have KX := K; replace K := K.trans (hb.mono K.size); clear hb)) | fail "region"
          have hsz : W.heap.size + 3 ≤ w8.heap.size := by have := b3.lt; simp at this; omega
          have hwW := HB.out.size
          have hbtW := HT.out.lt
          have hB8 : BelX (fun k => k = gi) w.heap.size w w8 := HB.out.trans (BelX.of K hwW)
          have hrow8 : EnRow w8 gi zs := HROW.out.keep (K.block _ HROW.out.lt)
          have bI8 : Boxed w8 w.heap.size 107 (.slice (some ⟨gi, 0, none⟩) xs.length ci) := (K.block _ BI.out.lt).trans BI.out
          have bT8 : Boxed w8 (w.heap.size + 1) 3 (.int .i64 k) := (K.block _ HT.out.lt).trans HT.out
          have RA : EnRd (fun g => g < w8.heap.size ∧ ¬ (g = gi ∨ g = w.heap.size + 1)) w8 (.slice (some ⟨ga, oa + k * 17, none⟩) (M - k) (ca - k)) ((xs.drop k).take s) := sub_rd IA.out hB8 ga1 ga2 ⟨by omega, by omega⟩ (run_al xs HM.out) (by omega) (by omega) (run_a xs HM.out) (by omega) (by unfold maxLen; omega)
          have RB : EnRd (fun g => g < w8.heap.size ∧ ¬ (g = gi ∨ g = w.heap.size + 1)) w8 (.slice (some ⟨ga, oa + M * 17, none⟩) (xs.length - M) (ca - M)) (((xs.drop k).drop s).take s) := sub_rd IA.out hB8 ga1 ga2 ⟨by omega, by omega⟩ (run_bl xs HM.out HE.out) (by omega) (by omega) (run_b xs HM.out HE.out) (by omega) (by unfold maxLen; omega)
          have hI8 := hide (HI.out w w8 HIw.out hB8)
          have hIm := hide (fun (U U' : World) (h : I U) (kk : BelX (fun k => k = gi ∨ k = w.heap.size + 1) w8.heap.size U U') => HI.out U U' h (kk.mono (m := w.heap.size) (by omega) (fun j hj h => h.resolve_right (by omega))))
          have hseq := enmerged_stops (n := 3) (X := (fun k => k = gi ∨ k = w.heap.size + 1)) (n₀ := w8.heap.size) (by omega) b1 b2 b3 ⟨by have := b1.lt; simpa using this, by simp; omega⟩ ⟨by have := b2.lt; simpa using this, by simp; omega⟩ ⟨by have := b3.lt; simpa using this, by simp; omega⟩ RA RB HCC.out (fun x hx => HPD.out x (List.mem_of_mem_drop (List.mem_of_mem_take hx))) (fun x hx => HPD.out x (List.mem_of_mem_drop (List.mem_of_mem_drop (List.mem_of_mem_take hx)))) hI8.out hIm.out (Nat.le_refl _) (by rw [run_al xs HM.out]; omega) (by rw [run_bl xs HM.out HE.out]; omega)
          obtain ⟨Z, hZ⟩ : ∃ Z, mrg f ((xs.drop k).take s) (((xs.drop k).drop s).take s) = Z := ⟨_, rfl⟩
          have hZl : Z.length = xs.length - k := by rw [← hZ, mrg_len, run_al xs HM.out, run_bl xs HM.out HE.out]; omega
          have hN : ((xs.drop k).take s).length + (((xs.drop k).drop s).take s).length = xs.length - k := by rw [run_al xs HM.out, run_bl xs HM.out HE.out]; omega
          have hnx := run_next f hs hkl HM.out HE.out
          rw [hZ, hN] at hseq
          rw [hZ] at hnx
          have HSEQ := hide hseq
          have HNX := hide hnx
          have HK := hide K
          have HB8 := hide hB8
          clear hseq hnx K hB8 RA RB hZ hN b1 b2 b3 hI8 hIm CF KX
          have hgi8 : gi < w8.heap.size := by omega
          have hbt8 : w.heap.size + 1 < w8.heap.size := by omega
          have hbi8 : w.heap.size < w8.heap.size := by omega
          go_wp2_with fail
          refine (wpIn_wide (n := 4)).1 ?_
          refine' wpIn_rangeFunc_ownH rfl (by omega) (gf := 176) (lb := #[.pointer (some ⟨W.heap.size, 0, none⟩), .pointer (some ⟨W.heap.size + 1, 0, none⟩), .pointer (some ⟨W.heap.size + 2, 0, none⟩)]) (by simp [go_sem]) trivial (enters_of Tryz.func176 (by kernel_rfl) rfl)
            HSEQ.out BelX.trans (fun W l o o' hl _ _ _ => belx_putObj o' hl) (Below.refl _ _) (fun _ => rfl)
            (fun pre W' => OI gi (w.heap.size + 1) w.heap.size ci xs.length k dn w8 pre W')
            (fun _ _ _ => False) (oi_own (by omega) (by omega) (by omega)) (fun _ _ _ _ _ hs _ _ => hs) (oi_start hrow8 hzl HZT.out bT8 bI8)
            (fun x a' W' => ∃ Bx, w8.heap.size ≤ Bx ∧ W'.heap[Bx]? = some (.cells (enL x).toArray 112 (0, 0)) ∧ a' = { tmps := #[.slice (some ⟨gi, 0, none⟩) xs.length ci, .slice (some ⟨ga, oa, none⟩) xs.length ca, .int .i64 s, .func (.func cg) #[] cl, .pointer (some ⟨w.heap.size, 0, none⟩), undef, undef, undef, .pointer (some ⟨w.heap.size + 1, 0, none⟩), .int .i64 M, .int .i64 xs.length, .pointer (some ⟨Bx, 0, none⟩), .int .i64 k, .slice (some ⟨ga, oa, none⟩) xs.length ca, .int .i64 xs.length, .bool true, .int .i64 k, .int .i64 s, .int .i64 (M), .slice (some ⟨ga, oa, none⟩) xs.length ca, .int .i64 xs.length, .int .i64 M, .int .i64 M, .int .i64 s, .int .i64 ((M : Int) + (s : Int)), .slice (some ⟨ga, oa, none⟩) xs.length ca, .int .i64 xs.length, .int .i64 xs.length, .slice (some ⟨ga, oa, none⟩) xs.length ca, .int .i64 k, .int .i64 M, .slice (some ⟨ga, oa + k * 17, none⟩) (M - k) (ca - k), .slice (some ⟨ga, oa, none⟩) xs.length ca, .int .i64 M, .int .i64 xs.length, .slice (some ⟨ga, oa + M * 17, none⟩) (xs.length - M) (ca - M), .func (.func cg) #[] cl, .func (.func 176) #[] #[.pointer (some ⟨W.heap.size, 0, none⟩), .pointer (some ⟨W.heap.size + 1, 0, none⟩), .pointer (some ⟨W.heap.size + 2, 0, none⟩)], enV x, x39, x40, x41, x42, x43, x44], defers := [] }) ?hAx ?hassign ?hbody ?hdone ?hstop
          case hAx =>
            rintro x a' u X Y row ⟨Bx, h1, h2, h3⟩ hg hr
            exact ⟨Bx, h1, (hg.block Bx (Array.getElem?_eq_some_iff.1 h2).1 (fun e => by obtain ⟨_, o, ho, hc⟩ := hr Bx e.symm; rw [h2] at ho; cases ho; cases hc)).trans h2, h3⟩
          case hassign =>
            rintro l pre x W' K hi hK
            unfold enEncs
            have TH := hide (there_blk (o := 0) (n := 17) (World.alloc_heap_new W' (.cells #[.int .i8 0, .int .u64 0, .bool false, .slice none 0 0, .int .u64 0, .int .i8 0, .string ⟨#[]⟩, .slice none 0 0, .int .i8 0, .int .u64 0, .bool false, .slice none 0 0, .int .u64 0, .int .i8 0, .string ⟨#[]⟩, .slice none 0 0, .int .i64 0] 112)) (by decide))
            have KB := hide (below_cells (((Below.refl _ W').alloc (Nat.le_refl _) (.cells #[.int .i8 0, .int .u64 0, .bool false, .slice none 0 0, .int .u64 0, .int .i8 0, .string ⟨#[]⟩, .slice none 0 0, .int .i8 0, .int .u64 0, .bool false, .slice none 0 0, .int .u64 0, .int .i8 0, .string ⟨#[]⟩, .slice none 0 0, .int .i64 0] 112))) (Nat.le_refl _) (enL x) 0)
            have KH := hide (new_ent W' x)
            have KO := hide ((KeepsOthers.alloc W' (.cells #[.int .i8 0, .int .u64 0, .bool false, .slice none 0 0, .int .u64 0, .int .i8 0, .string ⟨#[]⟩, .slice none 0 0, .int .i8 0, .int .u64 0, .bool false, .slice none 0 0, .int .u64 0, .int .i8 0, .string ⟨#[]⟩, .slice none 0 0, .int .i64 0] 112)).trans (ko_cells W'.heap.size (enL x) 0 _))
            obtain ⟨W9, hW9⟩ : ∃ W9, (W'.alloc (.cells #[.int .i8 0, .int .u64 0, .bool false, .slice none 0 0, .int .u64 0, .int .i8 0, .string ⟨#[]⟩, .slice none 0 0, .int .i8 0, .int .u64 0, .bool false, .slice none 0 0, .int .u64 0, .int .i8 0, .string ⟨#[]⟩, .slice none 0 0, .int .i64 0] 112)).setCells W'.heap.size 0 (enL x) = W9 := ⟨_, rfl⟩
            rw [hW9] at KB KH KO
            have HW9 := hide hW9
            clear hW9
            have HKK := hide hK
            have HII := hide hi
            clear hK hi
            gi_wp2_with (refine wpListIn_st rfl _ _ rfl W'.heap.size 0 rfl x rfl TH.out ?_; rw [HW9.out]; try simp only [Act.put, List.setIfInBounds_toArray, List.set_cons_zero, List.set_cons_succ])
            have hK := HKK.out
            have hi := HII.out
            have hs8 := hi.choose_spec.2.2.2.2.2.size
            exact hK _ _ (KO.out.from _) (BelX.of KB.out hs8) (oi_own hgi8 hbt8 hbi8 pre W' _ none hi (ograwn KB.out) (fun r e => by cases e)) ⟨W'.heap.size, hs8, KH.out, rfl⟩
          case hbody =>
            rintro l pre x a' W' hl hr ⟨zs', r1, r2, r3, r4, r5, r6⟩ ⟨Bx, hBx, hx0, rfl⟩ hlt
            have c4 := r4.cell
            have c5 := r5.cell
            have f4 := r4.frozen
            obtain ⟨m, hm⟩ : ∃ m, k + pre.length = m := ⟨_, rfl⟩
            rw [hm] at c4 r3 r4
            have hml : m < xs.length := by omega
            have q6 : (m : Int) < (xs.length : Int) := by omega
            have HRX := hide (show W'.rangeAt Bx 0 (enL x) from fun j v hv => by rw [cell_of_row W' Bx (0 + j) _ _ _ hx0, Nat.zero_add]; simpa using hv)
            have HTG := hide (r1.there (i := m) (by omega))
            have r4k := r4.kept (grown_cells gi (enL x) (m * 17) W') (by simp; omega)
            have HC4 := hide r4k.cell
            have HF4 := hide r4k.frozen
            have HR1 := hide r1
            have HR3 := hide r3
            have HR4 := hide r4
            have HR5 := hide r5
            have HR6 := hide r6
            have HMM := hide hm
            have HX0 := hide hx0
            clear hx0 r1 r3 r4 r5 r6 hm r4k
            have HOI := hide (oi_step ⟨zs', HR1.out, r2, by rw [HMM.out]; exact HR3.out, by rw [HMM.out]; exact HR4.out, HR5.out, HR6.out⟩ HMM.out hml (by omega) (by omega) (by omega) x)
            gi_upto_region 8 with (first | (refine wpListIn_ld rfl _ rfl Bx 0 rfl x HRX.out ?_; try simp only [Act.put, List.setIfInBounds_toArray, List.set_cons_zero, List.set_cons_succ]) | (refine wpListIn_st rfl _ _ rfl gi (m * 17) rfl x rfl HTG.out ?_; try simp only [Act.put, List.setIfInBounds_toArray, List.set_cons_zero, List.set_cons_succ]))
            obtain ⟨W9, hW9⟩ : ∃ W9, W'.setCells gi (m * 17) (enL x) = W9 := ⟨_, rfl⟩
            rw [hW9] at HOI HC4 HF4 ⊢
            clear hW9 c4 f4
            have c4 := HC4.out
            have f4 := HF4.out
            gi_wp2
            exact ⟨HOI.out.2.2, HOI.out.2.1, HOI.out.1⟩
          case hdone =>
            rintro D ys W' hD rfl ⟨zs', r1, r2, r3, r4, r5, r6⟩ hK
            have hkE : k + ys.length = xs.length := by omega
            rw [hkE] at r3 r4
            have HX := hide (marks_more HDS.out hnd (fun F hF => (r6.block F (by have := (Array.getElem?_eq_some_iff.1 (HDS.out F hF).2).1; omega) (by have := (HDS.out F hF).1; omega)).trans (HK.out.block F (Array.getElem?_eq_some_iff.1 (HDS.out F hF).2).1)) hK (by omega) (show w.heap.size + 2 ≤ D by omega))
            have HBB := hide (HB8.out.trans (r6.mono (m := w.heap.size) (by omega) (fun j hj h => h.resolve_right (by omega))))
            have HDD := hide (show (dn ++ ys) ++ runs f s (xs.drop xs.length) = runs f s xs by rw [List.append_assoc, ← HNX.out, HDN.out])
            have c1 := HT.out.cell
            have c2 := r4.cell
            have R1 := hide r1
            have R3 := hide r3
            have R4 := hide r4
            have R5 := hide r5
            have CC := hide (And.intro c1 c2)
            clear r1 r3 r4 r5 r6 hK c1 c2
            go_wp2
            refine ⟨⟨xs.length, D :: Ds, dn ++ ys, zs', _, _, _, _, _, _, _, _, _, _, _, _, _, _, _, _, _, _, _, _, _, _, _, _, _, _, _, _, _, _, _, _, _, _, _, _, rfl, by omega, by rw [List.length_append]; omega, HDD.out, R1.out, r2, R3.out, R5.out, R4.out, HBB.out, HX.out.1, HX.out.2⟩, ?_⟩
            rw [CC.out.1, CC.out.2]
            simp [intOf]
            omega
          case hstop =>
            rintro D c pre W' hD hpx h hK
            exact h.elim
      · have HM := hide (show xs.length = min (k + s) xs.length by omega)
        have HE := hide (show xs.length = min (xs.length + s) xs.length by omega)
        have q4 : ¬ (xs.length : Int) + (s : Int) ≤ (xs.length : Int) := by omega
        have n3 : xs.length ≤ ca := by omega
        have n2 : k ≤ xs.length := by omega
        by_cases h3 : k + s = xs.length
        · have e1 : (k : Int) + (s : Int) = (xs.length : Int) := by omega
          clear h3
          by_cases n4 : ca = xs.length
          · subst n4
            have K : Below W.heap.size W W.drew := (Below.refl _ _).drew
            have HT := hide bT
            have CF := hide (fun U (k' : Below W.heap.size W U) => (k'.cell (p := ⟨w.heap.size + 1, 0, none⟩) HT.out.lt).trans HT.out.cell)
            go_wp2
            first | go_region_held3 (fun u => u.cell? ⟨w.heap.size + 1, 0, none⟩ = some (.int .i64 k))
              (first | with_reducible exact CF.out _ K | go_keep)
              (first | (go_at_call 147; (with_reducible refine enmerged_box.mono ?_); rintro e w8 ⟨rfl, b1, b2, b3, hb⟩; have KX := K; replace K := K.trans (hb.mono K.size); clear hb)) | fail "region"
            have hsz : W.heap.size + 3 ≤ w8.heap.size := by have := b3.lt; simp at this; omega
            have hwW := HB.out.size
            have hbtW := HT.out.lt
            have hB8 : BelX (fun k => k = gi) w.heap.size w w8 := HB.out.trans (BelX.of K hwW)
            have hrow8 : EnRow w8 gi zs := HROW.out.keep (K.block _ HROW.out.lt)
            have bI8 : Boxed w8 w.heap.size 107 (.slice (some ⟨gi, 0, none⟩) xs.length ci) := (K.block _ BI.out.lt).trans BI.out
            have bT8 : Boxed w8 (w.heap.size + 1) 3 (.int .i64 k) := (K.block _ HT.out.lt).trans HT.out
            have RA : EnRd (fun g => g < w8.heap.size ∧ ¬ (g = gi ∨ g = w.heap.size + 1)) w8 (.slice (some ⟨ga, oa + k * 17, none⟩) (xs.length - k) (xs.length - k)) ((xs.drop k).take s) := sub_rd IA.out hB8 ga1 ga2 ⟨by omega, by omega⟩ (run_al xs HM.out) (by omega) (by omega) (run_a xs HM.out) (by omega) (by unfold maxLen; omega)
            have RB : EnRd (fun g => g < w8.heap.size ∧ ¬ (g = gi ∨ g = w.heap.size + 1)) w8 (.slice (some ⟨ga, oa, none⟩) 0 0) (((xs.drop k).drop s).take s) := nil_rd (by omega) (List.eq_nil_of_length_eq_zero (by rw [run_bl xs HM.out HE.out]; omega)) (by unfold maxLen; omega)
            have hI8 := hide (HI.out w w8 HIw.out hB8)
            have hIm := hide (fun (U U' : World) (h : I U) (kk : BelX (fun k => k = gi ∨ k = w.heap.size + 1) w8.heap.size U U') => HI.out U U' h (kk.mono (m := w.heap.size) (by omega) (fun j hj h => h.resolve_right (by omega))))
            have hseq := enmerged_stops (n := 3) (X := (fun k => k = gi ∨ k = w.heap.size + 1)) (n₀ := w8.heap.size) (by omega) b1 b2 b3 ⟨by have := b1.lt; simpa using this, by simp; omega⟩ ⟨by have := b2.lt; simpa using this, by simp; omega⟩ ⟨by have := b3.lt; simpa using this, by simp; omega⟩ RA RB HCC.out (fun x hx => HPD.out x (List.mem_of_mem_drop (List.mem_of_mem_take hx))) (fun x hx => HPD.out x (List.mem_of_mem_drop (List.mem_of_mem_drop (List.mem_of_mem_take hx)))) hI8.out hIm.out (Nat.le_refl _) (by rw [run_al xs HM.out]; omega) (by rw [run_bl xs HM.out HE.out]; omega)
            obtain ⟨Z, hZ⟩ : ∃ Z, mrg f ((xs.drop k).take s) (((xs.drop k).drop s).take s) = Z := ⟨_, rfl⟩
            have hZl : Z.length = xs.length - k := by rw [← hZ, mrg_len, run_al xs HM.out, run_bl xs HM.out HE.out]; omega
            have hN : ((xs.drop k).take s).length + (((xs.drop k).drop s).take s).length = xs.length - k := by rw [run_al xs HM.out, run_bl xs HM.out HE.out]; omega
            have hnx := run_next f hs hkl HM.out HE.out
            rw [hZ, hN] at hseq
            rw [hZ] at hnx
            have HSEQ := hide hseq
            have HNX := hide hnx
            have HK := hide K
            have HB8 := hide hB8
            clear hseq hnx K hB8 RA RB hZ hN b1 b2 b3 hI8 hIm CF KX
            have hgi8 : gi < w8.heap.size := by omega
            have hbt8 : w.heap.size + 1 < w8.heap.size := by omega
            have hbi8 : w.heap.size < w8.heap.size := by omega
            go_wp2_with fail
            refine (wpIn_wide (n := 4)).1 ?_
            refine' wpIn_rangeFunc_ownH rfl (by omega) (gf := 176) (lb := #[.pointer (some ⟨W.heap.size, 0, none⟩), .pointer (some ⟨W.heap.size + 1, 0, none⟩), .pointer (some ⟨W.heap.size + 2, 0, none⟩)]) (by simp [go_sem]) trivial (enters_of Tryz.func176 (by kernel_rfl) rfl)
              HSEQ.out BelX.trans (fun W l o o' hl _ _ _ => belx_putObj o' hl) (Below.refl _ _) (fun _ => rfl)
              (fun pre W' => OI gi (w.heap.size + 1) w.heap.size ci xs.length k dn w8 pre W')
              (fun _ _ _ => False) (oi_own (by omega) (by omega) (by omega)) (fun _ _ _ _ _ hs _ _ => hs) (oi_start hrow8 hzl HZT.out bT8 bI8)
              (fun x a' W' => ∃ Bx, w8.heap.size ≤ Bx ∧ W'.heap[Bx]? = some (.cells (enL x).toArray 112 (0, 0)) ∧ a' = { tmps := #[.slice (some ⟨gi, 0, none⟩) xs.length ci, .slice (some ⟨ga, oa, none⟩) xs.length xs.length, .int .i64 s, .func (.func cg) #[] cl, .pointer (some ⟨w.heap.size, 0, none⟩), undef, undef, undef, .pointer (some ⟨w.heap.size + 1, 0, none⟩), .int .i64 xs.length, .int .i64 xs.length, .pointer (some ⟨Bx, 0, none⟩), .int .i64 k, .slice (some ⟨ga, oa, none⟩) xs.length xs.length, .int .i64 xs.length, .bool true, .int .i64 k, .int .i64 s, .int .i64 (xs.length), .slice (some ⟨ga, oa, none⟩) xs.length xs.length, .int .i64 xs.length, .int .i64 xs.length, .int .i64 xs.length, .int .i64 s, .int .i64 ((xs.length : Int) + (s : Int)), .slice (some ⟨ga, oa, none⟩) xs.length xs.length, .int .i64 xs.length, .int .i64 xs.length, .slice (some ⟨ga, oa, none⟩) xs.length xs.length, .int .i64 k, .int .i64 xs.length, .slice (some ⟨ga, oa + k * 17, none⟩) (xs.length - k) (xs.length - k), .slice (some ⟨ga, oa, none⟩) xs.length xs.length, .int .i64 xs.length, .int .i64 xs.length, .slice (some ⟨ga, oa, none⟩) 0 0, .func (.func cg) #[] cl, .func (.func 176) #[] #[.pointer (some ⟨W.heap.size, 0, none⟩), .pointer (some ⟨W.heap.size + 1, 0, none⟩), .pointer (some ⟨W.heap.size + 2, 0, none⟩)], enV x, x39, x40, x41, x42, x43, x44], defers := [] }) ?hAx ?hassign ?hbody ?hdone ?hstop
            case hAx =>
              rintro x a' u X Y row ⟨Bx, h1, h2, h3⟩ hg hr
              exact ⟨Bx, h1, (hg.block Bx (Array.getElem?_eq_some_iff.1 h2).1 (fun e => by obtain ⟨_, o, ho, hc⟩ := hr Bx e.symm; rw [h2] at ho; cases ho; cases hc)).trans h2, h3⟩
            case hassign =>
              rintro l pre x W' K hi hK
              unfold enEncs
              have TH := hide (there_blk (o := 0) (n := 17) (World.alloc_heap_new W' (.cells #[.int .i8 0, .int .u64 0, .bool false, .slice none 0 0, .int .u64 0, .int .i8 0, .string ⟨#[]⟩, .slice none 0 0, .int .i8 0, .int .u64 0, .bool false, .slice none 0 0, .int .u64 0, .int .i8 0, .string ⟨#[]⟩, .slice none 0 0, .int .i64 0] 112)) (by decide))
              have KB := hide (below_cells (((Below.refl _ W').alloc (Nat.le_refl _) (.cells #[.int .i8 0, .int .u64 0, .bool false, .slice none 0 0, .int .u64 0, .int .i8 0, .string ⟨#[]⟩, .slice none 0 0, .int .i8 0, .int .u64 0, .bool false, .slice none 0 0, .int .u64 0, .int .i8 0, .string ⟨#[]⟩, .slice none 0 0, .int .i64 0] 112))) (Nat.le_refl _) (enL x) 0)
              have KH := hide (new_ent W' x)
              have KO := hide ((KeepsOthers.alloc W' (.cells #[.int .i8 0, .int .u64 0, .bool false, .slice none 0 0, .int .u64 0, .int .i8 0, .string ⟨#[]⟩, .slice none 0 0, .int .i8 0, .int .u64 0, .bool false, .slice none 0 0, .int .u64 0, .int .i8 0, .string ⟨#[]⟩, .slice none 0 0, .int .i64 0] 112)).trans (ko_cells W'.heap.size (enL x) 0 _))
              obtain ⟨W9, hW9⟩ : ∃ W9, (W'.alloc (.cells #[.int .i8 0, .int .u64 0, .bool false, .slice none 0 0, .int .u64 0, .int .i8 0, .string ⟨#[]⟩, .slice none 0 0, .int .i8 0, .int .u64 0, .bool false, .slice none 0 0, .int .u64 0, .int .i8 0, .string ⟨#[]⟩, .slice none 0 0, .int .i64 0] 112)).setCells W'.heap.size 0 (enL x) = W9 := ⟨_, rfl⟩
              rw [hW9] at KB KH KO
              have HW9 := hide hW9
              clear hW9
              have HKK := hide hK
              have HII := hide hi
              clear hK hi
              gi_wp2_with (refine wpListIn_st rfl _ _ rfl W'.heap.size 0 rfl x rfl TH.out ?_; rw [HW9.out]; try simp only [Act.put, List.setIfInBounds_toArray, List.set_cons_zero, List.set_cons_succ])
              have hK := HKK.out
              have hi := HII.out
              have hs8 := hi.choose_spec.2.2.2.2.2.size
              exact hK _ _ (KO.out.from _) (BelX.of KB.out hs8) (oi_own hgi8 hbt8 hbi8 pre W' _ none hi (ograwn KB.out) (fun r e => by cases e)) ⟨W'.heap.size, hs8, KH.out, rfl⟩
            case hbody =>
              rintro l pre x a' W' hl hr ⟨zs', r1, r2, r3, r4, r5, r6⟩ ⟨Bx, hBx, hx0, rfl⟩ hlt
              have c4 := r4.cell
              have c5 := r5.cell
              have f4 := r4.frozen
              obtain ⟨m, hm⟩ : ∃ m, k + pre.length = m := ⟨_, rfl⟩
              rw [hm] at c4 r3 r4
              have hml : m < xs.length := by omega
              have q6 : (m : Int) < (xs.length : Int) := by omega
              have HRX := hide (show W'.rangeAt Bx 0 (enL x) from fun j v hv => by rw [cell_of_row W' Bx (0 + j) _ _ _ hx0, Nat.zero_add]; simpa using hv)
              have HTG := hide (r1.there (i := m) (by omega))
              have r4k := r4.kept (grown_cells gi (enL x) (m * 17) W') (by simp; omega)
              have HC4 := hide r4k.cell
              have HF4 := hide r4k.frozen
              have HR1 := hide r1
              have HR3 := hide r3
              have HR4 := hide r4
              have HR5 := hide r5
              have HR6 := hide r6
              have HMM := hide hm
              have HX0 := hide hx0
              clear hx0 r1 r3 r4 r5 r6 hm r4k
              have HOI := hide (oi_step ⟨zs', HR1.out, r2, by rw [HMM.out]; exact HR3.out, by rw [HMM.out]; exact HR4.out, HR5.out, HR6.out⟩ HMM.out hml (by omega) (by omega) (by omega) x)
              gi_upto_region 8 with (first | (refine wpListIn_ld rfl _ rfl Bx 0 rfl x HRX.out ?_; try simp only [Act.put, List.setIfInBounds_toArray, List.set_cons_zero, List.set_cons_succ]) | (refine wpListIn_st rfl _ _ rfl gi (m * 17) rfl x rfl HTG.out ?_; try simp only [Act.put, List.setIfInBounds_toArray, List.set_cons_zero, List.set_cons_succ]))
              obtain ⟨W9, hW9⟩ : ∃ W9, W'.setCells gi (m * 17) (enL x) = W9 := ⟨_, rfl⟩
              rw [hW9] at HOI HC4 HF4 ⊢
              clear hW9 c4 f4
              have c4 := HC4.out
              have f4 := HF4.out
              gi_wp2
              exact ⟨HOI.out.2.2, HOI.out.2.1, HOI.out.1⟩
            case hdone =>
              rintro D ys W' hD rfl ⟨zs', r1, r2, r3, r4, r5, r6⟩ hK
              have hkE : k + ys.length = xs.length := by omega
              rw [hkE] at r3 r4
              have HX := hide (marks_more HDS.out hnd (fun F hF => (r6.block F (by have := (Array.getElem?_eq_some_iff.1 (HDS.out F hF).2).1; omega) (by have := (HDS.out F hF).1; omega)).trans (HK.out.block F (Array.getElem?_eq_some_iff.1 (HDS.out F hF).2).1)) hK (by omega) (show w.heap.size + 2 ≤ D by omega))
              have HBB := hide (HB8.out.trans (r6.mono (m := w.heap.size) (by omega) (fun j hj h => h.resolve_right (by omega))))
              have HDD := hide (show (dn ++ ys) ++ runs f s (xs.drop xs.length) = runs f s xs by rw [List.append_assoc, ← HNX.out, HDN.out])
              have c1 := HT.out.cell
              have c2 := r4.cell
              have R1 := hide r1
              have R3 := hide r3
              have R4 := hide r4
              have R5 := hide r5
              have CC := hide (And.intro c1 c2)
              clear r1 r3 r4 r5 r6 hK c1 c2
              go_wp2
              refine ⟨⟨xs.length, D :: Ds, dn ++ ys, zs', _, _, _, _, _, _, _, _, _, _, _, _, _, _, _, _, _, _, _, _, _, _, _, _, _, _, _, _, _, _, _, _, _, _, _, _, rfl, by omega, by rw [List.length_append]; omega, HDD.out, R1.out, r2, R3.out, R5.out, R4.out, HBB.out, HX.out.1, HX.out.2⟩, ?_⟩
              rw [CC.out.1, CC.out.2]
              simp [intOf]
              omega
            case hstop =>
              rintro D c pre W' hD hpx h hK
              exact h.elim
          · skip
            have K : Below W.heap.size W W.drew := (Below.refl _ _).drew
            have HT := hide bT
            have CF := hide (fun U (k' : Below W.heap.size W U) => (k'.cell (p := ⟨w.heap.size + 1, 0, none⟩) HT.out.lt).trans HT.out.cell)
            go_wp2
            first | go_region_held3 (fun u => u.cell? ⟨w.heap.size + 1, 0, none⟩ = some (.int .i64 k))
              (first | with_reducible exact CF.out _ K | go_keep)
              (first | (go_at_call 147; (with_reducible refine enmerged_box.mono ?_); rintro e w8 ⟨rfl, b1, b2, b3, hb⟩; have KX := K; replace K := K.trans (hb.mono K.size); clear hb)) | fail "region"
            have hsz : W.heap.size + 3 ≤ w8.heap.size := by have := b3.lt; simp at this; omega
            have hwW := HB.out.size
            have hbtW := HT.out.lt
            have hB8 : BelX (fun k => k = gi) w.heap.size w w8 := HB.out.trans (BelX.of K hwW)
            have hrow8 : EnRow w8 gi zs := HROW.out.keep (K.block _ HROW.out.lt)
            have bI8 : Boxed w8 w.heap.size 107 (.slice (some ⟨gi, 0, none⟩) xs.length ci) := (K.block _ BI.out.lt).trans BI.out
            have bT8 : Boxed w8 (w.heap.size + 1) 3 (.int .i64 k) := (K.block _ HT.out.lt).trans HT.out
            have RA : EnRd (fun g => g < w8.heap.size ∧ ¬ (g = gi ∨ g = w.heap.size + 1)) w8 (.slice (some ⟨ga, oa + k * 17, none⟩) (xs.length - k) (ca - k)) ((xs.drop k).take s) := sub_rd IA.out hB8 ga1 ga2 ⟨by omega, by omega⟩ (run_al xs HM.out) (by omega) (by omega) (run_a xs HM.out) (by omega) (by unfold maxLen; omega)
            have RB : EnRd (fun g => g < w8.heap.size ∧ ¬ (g = gi ∨ g = w.heap.size + 1)) w8 (.slice (some ⟨ga, oa + xs.length * 17, none⟩) 0 (ca - xs.length)) (((xs.drop k).drop s).take s) := nil_rd (by omega) (List.eq_nil_of_length_eq_zero (by rw [run_bl xs HM.out HE.out]; omega)) (by unfold maxLen; omega)
            have hI8 := hide (HI.out w w8 HIw.out hB8)
            have hIm := hide (fun (U U' : World) (h : I U) (kk : BelX (fun k => k = gi ∨ k = w.heap.size + 1) w8.heap.size U U') => HI.out U U' h (kk.mono (m := w.heap.size) (by omega) (fun j hj h => h.resolve_right (by omega))))
            have hseq := enmerged_stops (n := 3) (X := (fun k => k = gi ∨ k = w.heap.size + 1)) (n₀ := w8.heap.size) (by omega) b1 b2 b3 ⟨by have := b1.lt; simpa using this, by simp; omega⟩ ⟨by have := b2.lt; simpa using this, by simp; omega⟩ ⟨by have := b3.lt; simpa using this, by simp; omega⟩ RA RB HCC.out (fun x hx => HPD.out x (List.mem_of_mem_drop (List.mem_of_mem_take hx))) (fun x hx => HPD.out x (List.mem_of_mem_drop (List.mem_of_mem_drop (List.mem_of_mem_take hx)))) hI8.out hIm.out (Nat.le_refl _) (by rw [run_al xs HM.out]; omega) (by rw [run_bl xs HM.out HE.out]; omega)
            obtain ⟨Z, hZ⟩ : ∃ Z, mrg f ((xs.drop k).take s) (((xs.drop k).drop s).take s) = Z := ⟨_, rfl⟩
            have hZl : Z.length = xs.length - k := by rw [← hZ, mrg_len, run_al xs HM.out, run_bl xs HM.out HE.out]; omega
            have hN : ((xs.drop k).take s).length + (((xs.drop k).drop s).take s).length = xs.length - k := by rw [run_al xs HM.out, run_bl xs HM.out HE.out]; omega
            have hnx := run_next f hs hkl HM.out HE.out
            rw [hZ, hN] at hseq
            rw [hZ] at hnx
            have HSEQ := hide hseq
            have HNX := hide hnx
            have HK := hide K
            have HB8 := hide hB8
            clear hseq hnx K hB8 RA RB hZ hN b1 b2 b3 hI8 hIm CF KX
            have hgi8 : gi < w8.heap.size := by omega
            have hbt8 : w.heap.size + 1 < w8.heap.size := by omega
            have hbi8 : w.heap.size < w8.heap.size := by omega
            go_wp2_with fail
            refine (wpIn_wide (n := 4)).1 ?_
            refine' wpIn_rangeFunc_ownH rfl (by omega) (gf := 176) (lb := #[.pointer (some ⟨W.heap.size, 0, none⟩), .pointer (some ⟨W.heap.size + 1, 0, none⟩), .pointer (some ⟨W.heap.size + 2, 0, none⟩)]) (by simp [go_sem]) trivial (enters_of Tryz.func176 (by kernel_rfl) rfl)
              HSEQ.out BelX.trans (fun W l o o' hl _ _ _ => belx_putObj o' hl) (Below.refl _ _) (fun _ => rfl)
              (fun pre W' => OI gi (w.heap.size + 1) w.heap.size ci xs.length k dn w8 pre W')
              (fun _ _ _ => False) (oi_own (by omega) (by omega) (by omega)) (fun _ _ _ _ _ hs _ _ => hs) (oi_start hrow8 hzl HZT.out bT8 bI8)
              (fun x a' W' => ∃ Bx, w8.heap.size ≤ Bx ∧ W'.heap[Bx]? = some (.cells (enL x).toArray 112 (0, 0)) ∧ a' = { tmps := #[.slice (some ⟨gi, 0, none⟩) xs.length ci, .slice (some ⟨ga, oa, none⟩) xs.length ca, .int .i64 s, .func (.func cg) #[] cl, .pointer (some ⟨w.heap.size, 0, none⟩), undef, undef, undef, .pointer (some ⟨w.heap.size + 1, 0, none⟩), .int .i64 xs.length, .int .i64 xs.length, .pointer (some ⟨Bx, 0, none⟩), .int .i64 k, .slice (some ⟨ga, oa, none⟩) xs.length ca, .int .i64 xs.length, .bool true, .int .i64 k, .int .i64 s, .int .i64 (xs.length), .slice (some ⟨ga, oa, none⟩) xs.length ca, .int .i64 xs.length, .int .i64 xs.length, .int .i64 xs.length, .int .i64 s, .int .i64 ((xs.length : Int) + (s : Int)), .slice (some ⟨ga, oa, none⟩) xs.length ca, .int .i64 xs.length, .int .i64 xs.length, .slice (some ⟨ga, oa, none⟩) xs.length ca, .int .i64 k, .int .i64 xs.length, .slice (some ⟨ga, oa + k * 17, none⟩) (xs.length - k) (ca - k), .slice (some ⟨ga, oa, none⟩) xs.length ca, .int .i64 xs.length, .int .i64 xs.length, .slice (some ⟨ga, oa + xs.length * 17, none⟩) 0 (ca - xs.length), .func (.func cg) #[] cl, .func (.func 176) #[] #[.pointer (some ⟨W.heap.size, 0, none⟩), .pointer (some ⟨W.heap.size + 1, 0, none⟩), .pointer (some ⟨W.heap.size + 2, 0, none⟩)], enV x, x39, x40, x41, x42, x43, x44], defers := [] }) ?hAx ?hassign ?hbody ?hdone ?hstop
            case hAx =>
              rintro x a' u X Y row ⟨Bx, h1, h2, h3⟩ hg hr
              exact ⟨Bx, h1, (hg.block Bx (Array.getElem?_eq_some_iff.1 h2).1 (fun e => by obtain ⟨_, o, ho, hc⟩ := hr Bx e.symm; rw [h2] at ho; cases ho; cases hc)).trans h2, h3⟩
            case hassign =>
              rintro l pre x W' K hi hK
              unfold enEncs
              have TH := hide (there_blk (o := 0) (n := 17) (World.alloc_heap_new W' (.cells #[.int .i8 0, .int .u64 0, .bool false, .slice none 0 0, .int .u64 0, .int .i8 0, .string ⟨#[]⟩, .slice none 0 0, .int .i8 0, .int .u64 0, .bool false, .slice none 0 0, .int .u64 0, .int .i8 0, .string ⟨#[]⟩, .slice none 0 0, .int .i64 0] 112)) (by decide))
              have KB := hide (below_cells (((Below.refl _ W').alloc (Nat.le_refl _) (.cells #[.int .i8 0, .int .u64 0, .bool false, .slice none 0 0, .int .u64 0, .int .i8 0, .string ⟨#[]⟩, .slice none 0 0, .int .i8 0, .int .u64 0, .bool false, .slice none 0 0, .int .u64 0, .int .i8 0, .string ⟨#[]⟩, .slice none 0 0, .int .i64 0] 112))) (Nat.le_refl _) (enL x) 0)
              have KH := hide (new_ent W' x)
              have KO := hide ((KeepsOthers.alloc W' (.cells #[.int .i8 0, .int .u64 0, .bool false, .slice none 0 0, .int .u64 0, .int .i8 0, .string ⟨#[]⟩, .slice none 0 0, .int .i8 0, .int .u64 0, .bool false, .slice none 0 0, .int .u64 0, .int .i8 0, .string ⟨#[]⟩, .slice none 0 0, .int .i64 0] 112)).trans (ko_cells W'.heap.size (enL x) 0 _))
              obtain ⟨W9, hW9⟩ : ∃ W9, (W'.alloc (.cells #[.int .i8 0, .int .u64 0, .bool false, .slice none 0 0, .int .u64 0, .int .i8 0, .string ⟨#[]⟩, .slice none 0 0, .int .i8 0, .int .u64 0, .bool false, .slice none 0 0, .int .u64 0, .int .i8 0, .string ⟨#[]⟩, .slice none 0 0, .int .i64 0] 112)).setCells W'.heap.size 0 (enL x) = W9 := ⟨_, rfl⟩
              rw [hW9] at KB KH KO
              have HW9 := hide hW9
              clear hW9
              have HKK := hide hK
              have HII := hide hi
              clear hK hi
              gi_wp2_with (refine wpListIn_st rfl _ _ rfl W'.heap.size 0 rfl x rfl TH.out ?_; rw [HW9.out]; try simp only [Act.put, List.setIfInBounds_toArray, List.set_cons_zero, List.set_cons_succ])
              have hK := HKK.out
              have hi := HII.out
              have hs8 := hi.choose_spec.2.2.2.2.2.size
              exact hK _ _ (KO.out.from _) (BelX.of KB.out hs8) (oi_own hgi8 hbt8 hbi8 pre W' _ none hi (ograwn KB.out) (fun r e => by cases e)) ⟨W'.heap.size, hs8, KH.out, rfl⟩
            case hbody =>
              rintro l pre x a' W' hl hr ⟨zs', r1, r2, r3, r4, r5, r6⟩ ⟨Bx, hBx, hx0, rfl⟩ hlt
              have c4 := r4.cell
              have c5 := r5.cell
              have f4 := r4.frozen
              obtain ⟨m, hm⟩ : ∃ m, k + pre.length = m := ⟨_, rfl⟩
              rw [hm] at c4 r3 r4
              have hml : m < xs.length := by omega
              have q6 : (m : Int) < (xs.length : Int) := by omega
              have HRX := hide (show W'.rangeAt Bx 0 (enL x) from fun j v hv => by rw [cell_of_row W' Bx (0 + j) _ _ _ hx0, Nat.zero_add]; simpa using hv)
              have HTG := hide (r1.there (i := m) (by omega))
              have r4k := r4.kept (grown_cells gi (enL x) (m * 17) W') (by simp; omega)
              have HC4 := hide r4k.cell
              have HF4 := hide r4k.frozen
              have HR1 := hide r1
              have HR3 := hide r3
              have HR4 := hide r4
              have HR5 := hide r5
              have HR6 := hide r6
              have HMM := hide hm
              have HX0 := hide hx0
              clear hx0 r1 r3 r4 r5 r6 hm r4k
              have HOI := hide (oi_step ⟨zs', HR1.out, r2, by rw [HMM.out]; exact HR3.out, by rw [HMM.out]; exact HR4.out, HR5.out, HR6.out⟩ HMM.out hml (by omega) (by omega) (by omega) x)
              gi_upto_region 8 with (first | (refine wpListIn_ld rfl _ rfl Bx 0 rfl x HRX.out ?_; try simp only [Act.put, List.setIfInBounds_toArray, List.set_cons_zero, List.set_cons_succ]) | (refine wpListIn_st rfl _ _ rfl gi (m * 17) rfl x rfl HTG.out ?_; try simp only [Act.put, List.setIfInBounds_toArray, List.set_cons_zero, List.set_cons_succ]))
              obtain ⟨W9, hW9⟩ : ∃ W9, W'.setCells gi (m * 17) (enL x) = W9 := ⟨_, rfl⟩
              rw [hW9] at HOI HC4 HF4 ⊢
              clear hW9 c4 f4
              have c4 := HC4.out
              have f4 := HF4.out
              gi_wp2
              exact ⟨HOI.out.2.2, HOI.out.2.1, HOI.out.1⟩
            case hdone =>
              rintro D ys W' hD rfl ⟨zs', r1, r2, r3, r4, r5, r6⟩ hK
              have hkE : k + ys.length = xs.length := by omega
              rw [hkE] at r3 r4
              have HX := hide (marks_more HDS.out hnd (fun F hF => (r6.block F (by have := (Array.getElem?_eq_some_iff.1 (HDS.out F hF).2).1; omega) (by have := (HDS.out F hF).1; omega)).trans (HK.out.block F (Array.getElem?_eq_some_iff.1 (HDS.out F hF).2).1)) hK (by omega) (show w.heap.size + 2 ≤ D by omega))
              have HBB := hide (HB8.out.trans (r6.mono (m := w.heap.size) (by omega) (fun j hj h => h.resolve_right (by omega))))
              have HDD := hide (show (dn ++ ys) ++ runs f s (xs.drop xs.length) = runs f s xs by rw [List.append_assoc, ← HNX.out, HDN.out])
              have c1 := HT.out.cell
              have c2 := r4.cell
              have R1 := hide r1
              have R3 := hide r3
              have R4 := hide r4
              have R5 := hide r5
              have CC := hide (And.intro c1 c2)
              clear r1 r3 r4 r5 r6 hK c1 c2
              go_wp2
              refine ⟨⟨xs.length, D :: Ds, dn ++ ys, zs', _, _, _, _, _, _, _, _, _, _, _, _, _, _, _, _, _, _, _, _, _, _, _, _, _, _, _, _, _, _, _, _, _, _, _, _, rfl, by omega, by rw [List.length_append]; omega, HDD.out, R1.out, r2, R3.out, R5.out, R4.out, HBB.out, HX.out.1, HX.out.2⟩, ?_⟩
              rw [CC.out.1, CC.out.2]
              simp [intOf]
              omega
            case hstop =>
              rintro D c pre W' hD hpx h hK
              exact h.elim
        · have q2 : ¬ (k : Int) + (s : Int) ≤ (xs.length : Int) := by omega
          clear h3
          by_cases n4 : ca = xs.length
          · subst n4
            have K : Below W.heap.size W W.drew := (Below.refl _ _).drew
            have HT := hide bT
            have CF := hide (fun U (k' : Below W.heap.size W U) => (k'.cell (p := ⟨w.heap.size + 1, 0, none⟩) HT.out.lt).trans HT.out.cell)
            go_wp2
            first | go_region_held3 (fun u => u.cell? ⟨w.heap.size + 1, 0, none⟩ = some (.int .i64 k))
              (first | with_reducible exact CF.out _ K | go_keep)
              (first | (go_at_call 147; (with_reducible refine enmerged_box.mono ?_); rintro e w8 ⟨rfl, b1, b2, b3, hb⟩; have KX := K; replace K := K.trans (hb.mono K.size); clear hb)) | fail "region"
            have hsz : W.heap.size + 3 ≤ w8.heap.size := by have := b3.lt; simp at this; omega
            have hwW := HB.out.size
            have hbtW := HT.out.lt
            have hB8 : BelX (fun k => k = gi) w.heap.size w w8 := HB.out.trans (BelX.of K hwW)
            have hrow8 : EnRow w8 gi zs := HROW.out.keep (K.block _ HROW.out.lt)
            have bI8 : Boxed w8 w.heap.size 107 (.slice (some ⟨gi, 0, none⟩) xs.length ci) := (K.block _ BI.out.lt).trans BI.out
            have bT8 : Boxed w8 (w.heap.size + 1) 3 (.int .i64 k) := (K.block _ HT.out.lt).trans HT.out
            have RA : EnRd (fun g => g < w8.heap.size ∧ ¬ (g = gi ∨ g = w.heap.size + 1)) w8 (.slice (some ⟨ga, oa + k * 17, none⟩) (xs.length - k) (xs.length - k)) ((xs.drop k).take s) := sub_rd IA.out hB8 ga1 ga2 ⟨by omega, by omega⟩ (run_al xs HM.out) (by omega) (by omega) (run_a xs HM.out) (by omega) (by unfold maxLen; omega)
            have RB : EnRd (fun g => g < w8.heap.size ∧ ¬ (g = gi ∨ g = w.heap.size + 1)) w8 (.slice (some ⟨ga, oa, none⟩) 0 0) (((xs.drop k).drop s).take s) := nil_rd (by omega) (List.eq_nil_of_length_eq_zero (by rw [run_bl xs HM.out HE.out]; omega)) (by unfold maxLen; omega)
            have hI8 := hide (HI.out w w8 HIw.out hB8)
            have hIm := hide (fun (U U' : World) (h : I U) (kk : BelX (fun k => k = gi ∨ k = w.heap.size + 1) w8.heap.size U U') => HI.out U U' h (kk.mono (m := w.heap.size) (by omega) (fun j hj h => h.resolve_right (by omega))))
            have hseq := enmerged_stops (n := 3) (X := (fun k => k = gi ∨ k = w.heap.size + 1)) (n₀ := w8.heap.size) (by omega) b1 b2 b3 ⟨by have := b1.lt; simpa using this, by simp; omega⟩ ⟨by have := b2.lt; simpa using this, by simp; omega⟩ ⟨by have := b3.lt; simpa using this, by simp; omega⟩ RA RB HCC.out (fun x hx => HPD.out x (List.mem_of_mem_drop (List.mem_of_mem_take hx))) (fun x hx => HPD.out x (List.mem_of_mem_drop (List.mem_of_mem_drop (List.mem_of_mem_take hx)))) hI8.out hIm.out (Nat.le_refl _) (by rw [run_al xs HM.out]; omega) (by rw [run_bl xs HM.out HE.out]; omega)
            obtain ⟨Z, hZ⟩ : ∃ Z, mrg f ((xs.drop k).take s) (((xs.drop k).drop s).take s) = Z := ⟨_, rfl⟩
            have hZl : Z.length = xs.length - k := by rw [← hZ, mrg_len, run_al xs HM.out, run_bl xs HM.out HE.out]; omega
            have hN : ((xs.drop k).take s).length + (((xs.drop k).drop s).take s).length = xs.length - k := by rw [run_al xs HM.out, run_bl xs HM.out HE.out]; omega
            have hnx := run_next f hs hkl HM.out HE.out
            rw [hZ, hN] at hseq
            rw [hZ] at hnx
            have HSEQ := hide hseq
            have HNX := hide hnx
            have HK := hide K
            have HB8 := hide hB8
            clear hseq hnx K hB8 RA RB hZ hN b1 b2 b3 hI8 hIm CF KX
            have hgi8 : gi < w8.heap.size := by omega
            have hbt8 : w.heap.size + 1 < w8.heap.size := by omega
            have hbi8 : w.heap.size < w8.heap.size := by omega
            go_wp2_with fail
            refine (wpIn_wide (n := 4)).1 ?_
            refine' wpIn_rangeFunc_ownH rfl (by omega) (gf := 176) (lb := #[.pointer (some ⟨W.heap.size, 0, none⟩), .pointer (some ⟨W.heap.size + 1, 0, none⟩), .pointer (some ⟨W.heap.size + 2, 0, none⟩)]) (by simp [go_sem]) trivial (enters_of Tryz.func176 (by kernel_rfl) rfl)
              HSEQ.out BelX.trans (fun W l o o' hl _ _ _ => belx_putObj o' hl) (Below.refl _ _) (fun _ => rfl)
              (fun pre W' => OI gi (w.heap.size + 1) w.heap.size ci xs.length k dn w8 pre W')
              (fun _ _ _ => False) (oi_own (by omega) (by omega) (by omega)) (fun _ _ _ _ _ hs _ _ => hs) (oi_start hrow8 hzl HZT.out bT8 bI8)
              (fun x a' W' => ∃ Bx, w8.heap.size ≤ Bx ∧ W'.heap[Bx]? = some (.cells (enL x).toArray 112 (0, 0)) ∧ a' = { tmps := #[.slice (some ⟨gi, 0, none⟩) xs.length ci, .slice (some ⟨ga, oa, none⟩) xs.length xs.length, .int .i64 s, .func (.func cg) #[] cl, .pointer (some ⟨w.heap.size, 0, none⟩), undef, undef, undef, .pointer (some ⟨w.heap.size + 1, 0, none⟩), .int .i64 xs.length, .int .i64 xs.length, .pointer (some ⟨Bx, 0, none⟩), .int .i64 k, .slice (some ⟨ga, oa, none⟩) xs.length xs.length, .int .i64 xs.length, .bool true, .int .i64 k, .int .i64 s, .int .i64 ((k : Int) + (s : Int)), .slice (some ⟨ga, oa, none⟩) xs.length xs.length, .int .i64 xs.length, .int .i64 xs.length, .int .i64 xs.length, .int .i64 s, .int .i64 ((xs.length : Int) + (s : Int)), .slice (some ⟨ga, oa, none⟩) xs.length xs.length, .int .i64 xs.length, .int .i64 xs.length, .slice (some ⟨ga, oa, none⟩) xs.length xs.length, .int .i64 k, .int .i64 xs.length, .slice (some ⟨ga, oa + k * 17, none⟩) (xs.length - k) (xs.length - k), .slice (some ⟨ga, oa, none⟩) xs.length xs.length, .int .i64 xs.length, .int .i64 xs.length, .slice (some ⟨ga, oa, none⟩) 0 0, .func (.func cg) #[] cl, .func (.func 176) #[] #[.pointer (some ⟨W.heap.size, 0, none⟩), .pointer (some ⟨W.heap.size + 1, 0, none⟩), .pointer (some ⟨W.heap.size + 2, 0, none⟩)], enV x, x39, x40, x41, x42, x43, x44], defers := [] }) ?hAx ?hassign ?hbody ?hdone ?hstop
            case hAx =>
              rintro x a' u X Y row ⟨Bx, h1, h2, h3⟩ hg hr
              exact ⟨Bx, h1, (hg.block Bx (Array.getElem?_eq_some_iff.1 h2).1 (fun e => by obtain ⟨_, o, ho, hc⟩ := hr Bx e.symm; rw [h2] at ho; cases ho; cases hc)).trans h2, h3⟩
            case hassign =>
              rintro l pre x W' K hi hK
              unfold enEncs
              have TH := hide (there_blk (o := 0) (n := 17) (World.alloc_heap_new W' (.cells #[.int .i8 0, .int .u64 0, .bool false, .slice none 0 0, .int .u64 0, .int .i8 0, .string ⟨#[]⟩, .slice none 0 0, .int .i8 0, .int .u64 0, .bool false, .slice none 0 0, .int .u64 0, .int .i8 0, .string ⟨#[]⟩, .slice none 0 0, .int .i64 0] 112)) (by decide))
              have KB := hide (below_cells (((Below.refl _ W').alloc (Nat.le_refl _) (.cells #[.int .i8 0, .int .u64 0, .bool false, .slice none 0 0, .int .u64 0, .int .i8 0, .string ⟨#[]⟩, .slice none 0 0, .int .i8 0, .int .u64 0, .bool false, .slice none 0 0, .int .u64 0, .int .i8 0, .string ⟨#[]⟩, .slice none 0 0, .int .i64 0] 112))) (Nat.le_refl _) (enL x) 0)
              have KH := hide (new_ent W' x)
              have KO := hide ((KeepsOthers.alloc W' (.cells #[.int .i8 0, .int .u64 0, .bool false, .slice none 0 0, .int .u64 0, .int .i8 0, .string ⟨#[]⟩, .slice none 0 0, .int .i8 0, .int .u64 0, .bool false, .slice none 0 0, .int .u64 0, .int .i8 0, .string ⟨#[]⟩, .slice none 0 0, .int .i64 0] 112)).trans (ko_cells W'.heap.size (enL x) 0 _))
              obtain ⟨W9, hW9⟩ : ∃ W9, (W'.alloc (.cells #[.int .i8 0, .int .u64 0, .bool false, .slice none 0 0, .int .u64 0, .int .i8 0, .string ⟨#[]⟩, .slice none 0 0, .int .i8 0, .int .u64 0, .bool false, .slice none 0 0, .int .u64 0, .int .i8 0, .string ⟨#[]⟩, .slice none 0 0, .int .i64 0] 112)).setCells W'.heap.size 0 (enL x) = W9 := ⟨_, rfl⟩
              rw [hW9] at KB KH KO
              have HW9 := hide hW9
              clear hW9
              have HKK := hide hK
              have HII := hide hi
              clear hK hi
              gi_wp2_with (refine wpListIn_st rfl _ _ rfl W'.heap.size 0 rfl x rfl TH.out ?_; rw [HW9.out]; try simp only [Act.put, List.setIfInBounds_toArray, List.set_cons_zero, List.set_cons_succ])
              have hK := HKK.out
              have hi := HII.out
              have hs8 := hi.choose_spec.2.2.2.2.2.size
              exact hK _ _ (KO.out.from _) (BelX.of KB.out hs8) (oi_own hgi8 hbt8 hbi8 pre W' _ none hi (ograwn KB.out) (fun r e => by cases e)) ⟨W'.heap.size, hs8, KH.out, rfl⟩
            case hbody =>
              rintro l pre x a' W' hl hr ⟨zs', r1, r2, r3, r4, r5, r6⟩ ⟨Bx, hBx, hx0, rfl⟩ hlt
              have c4 := r4.cell
              have c5 := r5.cell
              have f4 := r4.frozen
              obtain ⟨m, hm⟩ : ∃ m, k + pre.length = m := ⟨_, rfl⟩
              rw [hm] at c4 r3 r4
              have hml : m < xs.length := by omega
              have q6 : (m : Int) < (xs.length : Int) := by omega
              have HRX := hide (show W'.rangeAt Bx 0 (enL x) from fun j v hv => by rw [cell_of_row W' Bx (0 + j) _ _ _ hx0, Nat.zero_add]; simpa using hv)
              have HTG := hide (r1.there (i := m) (by omega))
              have r4k := r4.kept (grown_cells gi (enL x) (m * 17) W') (by simp; omega)
              have HC4 := hide r4k.cell
              have HF4 := hide r4k.frozen
              have HR1 := hide r1
              have HR3 := hide r3
              have HR4 := hide r4
              have HR5 := hide r5
              have HR6 := hide r6
              have HMM := hide hm
              have HX0 := hide hx0
              clear hx0 r1 r3 r4 r5 r6 hm r4k
              have HOI := hide (oi_step ⟨zs', HR1.out, r2, by rw [HMM.out]; exact HR3.out, by rw [HMM.out]; exact HR4.out, HR5.out, HR6.out⟩ HMM.out hml (by omega) (by omega) (by omega) x)
              gi_upto_region 8 with (first | (refine wpListIn_ld rfl _ rfl Bx 0 rfl x HRX.out ?_; try simp only [Act.put, List.setIfInBounds_toArray, List.set_cons_zero, List.set_cons_succ]) | (refine wpListIn_st rfl _ _ rfl gi (m * 17) rfl x rfl HTG.out ?_; try simp only [Act.put, List.setIfInBounds_toArray, List.set_cons_zero, List.set_cons_succ]))
              obtain ⟨W9, hW9⟩ : ∃ W9, W'.setCells gi (m * 17) (enL x) = W9 := ⟨_, rfl⟩
              rw [hW9] at HOI HC4 HF4 ⊢
              clear hW9 c4 f4
              have c4 := HC4.out
              have f4 := HF4.out
              gi_wp2
              exact ⟨HOI.out.2.2, HOI.out.2.1, HOI.out.1⟩
            case hdone =>
              rintro D ys W' hD rfl ⟨zs', r1, r2, r3, r4, r5, r6⟩ hK
              have hkE : k + ys.length = xs.length := by omega
              rw [hkE] at r3 r4
              have HX := hide (marks_more HDS.out hnd (fun F hF => (r6.block F (by have := (Array.getElem?_eq_some_iff.1 (HDS.out F hF).2).1; omega) (by have := (HDS.out F hF).1; omega)).trans (HK.out.block F (Array.getElem?_eq_some_iff.1 (HDS.out F hF).2).1)) hK (by omega) (show w.heap.size + 2 ≤ D by omega))
              have HBB := hide (HB8.out.trans (r6.mono (m := w.heap.size) (by omega) (fun j hj h => h.resolve_right (by omega))))
              have HDD := hide (show (dn ++ ys) ++ runs f s (xs.drop xs.length) = runs f s xs by rw [List.append_assoc, ← HNX.out, HDN.out])
              have c1 := HT.out.cell
              have c2 := r4.cell
              have R1 := hide r1
              have R3 := hide r3
              have R4 := hide r4
              have R5 := hide r5
              have CC := hide (And.intro c1 c2)
              clear r1 r3 r4 r5 r6 hK c1 c2
              go_wp2
              refine ⟨⟨xs.length, D :: Ds, dn ++ ys, zs', _, _, _, _, _, _, _, _, _, _, _, _, _, _, _, _, _, _, _, _, _, _, _, _, _, _, _, _, _, _, _, _, _, _, _, _, rfl, by omega, by rw [List.length_append]; omega, HDD.out, R1.out, r2, R3.out, R5.out, R4.out, HBB.out, HX.out.1, HX.out.2⟩, ?_⟩
              rw [CC.out.1, CC.out.2]
              simp [intOf]
              omega
            case hstop =>
              rintro D c pre W' hD hpx h hK
              exact h.elim
          · skip
            have K : Below W.heap.size W W.drew := (Below.refl _ _).drew
            have HT := hide bT
            have CF := hide (fun U (k' : Below W.heap.size W U) => (k'.cell (p := ⟨w.heap.size + 1, 0, none⟩) HT.out.lt).trans HT.out.cell)
            go_wp2
            first | go_region_held3 (fun u => u.cell? ⟨w.heap.size + 1, 0, none⟩ = some (.int .i64 k))
              (first | with_reducible exact CF.out _ K | go_keep)
              (first | (go_at_call 147; (with_reducible refine enmerged_box.mono ?_); rintro e w8 ⟨rfl, b1, b2, b3, hb⟩; have KX := K; replace K := K.trans (hb.mono K.size); clear hb)) | fail "region"
            have hsz : W.heap.size + 3 ≤ w8.heap.size := by have := b3.lt; simp at this; omega
            have hwW := HB.out.size
            have hbtW := HT.out.lt
            have hB8 : BelX (fun k => k = gi) w.heap.size w w8 := HB.out.trans (BelX.of K hwW)
            have hrow8 : EnRow w8 gi zs := HROW.out.keep (K.block _ HROW.out.lt)
            have bI8 : Boxed w8 w.heap.size 107 (.slice (some ⟨gi, 0, none⟩) xs.length ci) := (K.block _ BI.out.lt).trans BI.out
            have bT8 : Boxed w8 (w.heap.size + 1) 3 (.int .i64 k) := (K.block _ HT.out.lt).trans HT.out
            have RA : EnRd (fun g => g < w8.heap.size ∧ ¬ (g = gi ∨ g = w.heap.size + 1)) w8 (.slice (some ⟨ga, oa + k * 17, none⟩) (xs.length - k) (ca - k)) ((xs.drop k).take s) := sub_rd IA.out hB8 ga1 ga2 ⟨by omega, by omega⟩ (run_al xs HM.out) (by omega) (by omega) (run_a xs HM.out) (by omega) (by unfold maxLen; omega)
            have RB : EnRd (fun g => g < w8.heap.size ∧ ¬ (g = gi ∨ g = w.heap.size + 1)) w8 (.slice (some ⟨ga, oa + xs.length * 17, none⟩) 0 (ca - xs.length)) (((xs.drop k).drop s).take s) := nil_rd (by omega) (List.eq_nil_of_length_eq_zero (by rw [run_bl xs HM.out HE.out]; omega)) (by unfold maxLen; omega)
            have hI8 := hide (HI.out w w8 HIw.out hB8)
            have hIm := hide (fun (U U' : World) (h : I U) (kk : BelX (fun k => k = gi ∨ k = w.heap.size + 1) w8.heap.size U U') => HI.out U U' h (kk.mono (m := w.heap.size) (by omega) (fun j hj h => h.resolve_right (by omega))))
            have hseq := enmerged_stops (n := 3) (X := (fun k => k = gi ∨ k = w.heap.size + 1)) (n₀ := w8.heap.size) (by omega) b1 b2 b3 ⟨by have := b1.lt; simpa using this, by simp; omega⟩ ⟨by have := b2.lt; simpa using this, by simp; omega⟩ ⟨by have := b3.lt; simpa using this, by simp; omega⟩ RA RB HCC.out (fun x hx => HPD.out x (List.mem_of_mem_drop (List.mem_of_mem_take hx))) (fun x hx => HPD.out x (List.mem_of_mem_drop (List.mem_of_mem_drop (List.mem_of_mem_take hx)))) hI8.out hIm.out (Nat.le_refl _) (by rw [run_al xs HM.out]; omega) (by rw [run_bl xs HM.out HE.out]; omega)
            obtain ⟨Z, hZ⟩ : ∃ Z, mrg f ((xs.drop k).take s) (((xs.drop k).drop s).take s) = Z := ⟨_, rfl⟩
            have hZl : Z.length = xs.length - k := by rw [← hZ, mrg_len, run_al xs HM.out, run_bl xs HM.out HE.out]; omega
            have hN : ((xs.drop k).take s).length + (((xs.drop k).drop s).take s).length = xs.length - k := by rw [run_al xs HM.out, run_bl xs HM.out HE.out]; omega
            have hnx := run_next f hs hkl HM.out HE.out
            rw [hZ, hN] at hseq
            rw [hZ] at hnx
            have HSEQ := hide hseq
            have HNX := hide hnx
            have HK := hide K
            have HB8 := hide hB8
            clear hseq hnx K hB8 RA RB hZ hN b1 b2 b3 hI8 hIm CF KX
            have hgi8 : gi < w8.heap.size := by omega
            have hbt8 : w.heap.size + 1 < w8.heap.size := by omega
            have hbi8 : w.heap.size < w8.heap.size := by omega
            go_wp2_with fail
            refine (wpIn_wide (n := 4)).1 ?_
            refine' wpIn_rangeFunc_ownH rfl (by omega) (gf := 176) (lb := #[.pointer (some ⟨W.heap.size, 0, none⟩), .pointer (some ⟨W.heap.size + 1, 0, none⟩), .pointer (some ⟨W.heap.size + 2, 0, none⟩)]) (by simp [go_sem]) trivial (enters_of Tryz.func176 (by kernel_rfl) rfl)
              HSEQ.out BelX.trans (fun W l o o' hl _ _ _ => belx_putObj o' hl) (Below.refl _ _) (fun _ => rfl)
              (fun pre W' => OI gi (w.heap.size + 1) w.heap.size ci xs.length k dn w8 pre W')
              (fun _ _ _ => False) (oi_own (by omega) (by omega) (by omega)) (fun _ _ _ _ _ hs _ _ => hs) (oi_start hrow8 hzl HZT.out bT8 bI8)
              (fun x a' W' => ∃ Bx, w8.heap.size ≤ Bx ∧ W'.heap[Bx]? = some (.cells (enL x).toArray 112 (0, 0)) ∧ a' = { tmps := #[.slice (some ⟨gi, 0, none⟩) xs.length ci, .slice (some ⟨ga, oa, none⟩) xs.length ca, .int .i64 s, .func (.func cg) #[] cl, .pointer (some ⟨w.heap.size, 0, none⟩), undef, undef, undef, .pointer (some ⟨w.heap.size + 1, 0, none⟩), .int .i64 xs.length, .int .i64 xs.length, .pointer (some ⟨Bx, 0, none⟩), .int .i64 k, .slice (some ⟨ga, oa, none⟩) xs.length ca, .int .i64 xs.length, .bool true, .int .i64 k, .int .i64 s, .int .i64 ((k : Int) + (s : Int)), .slice (some ⟨ga, oa, none⟩) xs.length ca, .int .i64 xs.length, .int .i64 xs.length, .int .i64 xs.length, .int .i64 s, .int .i64 ((xs.length : Int) + (s : Int)), .slice (some ⟨ga, oa, none⟩) xs.length ca, .int .i64 xs.length, .int .i64 xs.length, .slice (some ⟨ga, oa, none⟩) xs.length ca, .int .i64 k, .int .i64 xs.length, .slice (some ⟨ga, oa + k * 17, none⟩) (xs.length - k) (ca - k), .slice (some ⟨ga, oa, none⟩) xs.length ca, .int .i64 xs.length, .int .i64 xs.length, .slice (some ⟨ga, oa + xs.length * 17, none⟩) 0 (ca - xs.length), .func (.func cg) #[] cl, .func (.func 176) #[] #[.pointer (some ⟨W.heap.size, 0, none⟩), .pointer (some ⟨W.heap.size + 1, 0, none⟩), .pointer (some ⟨W.heap.size + 2, 0, none⟩)], enV x, x39, x40, x41, x42, x43, x44], defers := [] }) ?hAx ?hassign ?hbody ?hdone ?hstop
            case hAx =>
              rintro x a' u X Y row ⟨Bx, h1, h2, h3⟩ hg hr
              exact ⟨Bx, h1, (hg.block Bx (Array.getElem?_eq_some_iff.1 h2).1 (fun e => by obtain ⟨_, o, ho, hc⟩ := hr Bx e.symm; rw [h2] at ho; cases ho; cases hc)).trans h2, h3⟩
            case hassign =>
              rintro l pre x W' K hi hK
              unfold enEncs
              have TH := hide (there_blk (o := 0) (n := 17) (World.alloc_heap_new W' (.cells #[.int .i8 0, .int .u64 0, .bool false, .slice none 0 0, .int .u64 0, .int .i8 0, .string ⟨#[]⟩, .slice none 0 0, .int .i8 0, .int .u64 0, .bool false, .slice none 0 0, .int .u64 0, .int .i8 0, .string ⟨#[]⟩, .slice none 0 0, .int .i64 0] 112)) (by decide))
              have KB := hide (below_cells (((Below.refl _ W').alloc (Nat.le_refl _) (.cells #[.int .i8 0, .int .u64 0, .bool false, .slice none 0 0, .int .u64 0, .int .i8 0, .string ⟨#[]⟩, .slice none 0 0, .int .i8 0, .int .u64 0, .bool false, .slice none 0 0, .int .u64 0, .int .i8 0, .string ⟨#[]⟩, .slice none 0 0, .int .i64 0] 112))) (Nat.le_refl _) (enL x) 0)
              have KH := hide (new_ent W' x)
              have KO := hide ((KeepsOthers.alloc W' (.cells #[.int .i8 0, .int .u64 0, .bool false, .slice none 0 0, .int .u64 0, .int .i8 0, .string ⟨#[]⟩, .slice none 0 0, .int .i8 0, .int .u64 0, .bool false, .slice none 0 0, .int .u64 0, .int .i8 0, .string ⟨#[]⟩, .slice none 0 0, .int .i64 0] 112)).trans (ko_cells W'.heap.size (enL x) 0 _))
              obtain ⟨W9, hW9⟩ : ∃ W9, (W'.alloc (.cells #[.int .i8 0, .int .u64 0, .bool false, .slice none 0 0, .int .u64 0, .int .i8 0, .string ⟨#[]⟩, .slice none 0 0, .int .i8 0, .int .u64 0, .bool false, .slice none 0 0, .int .u64 0, .int .i8 0, .string ⟨#[]⟩, .slice none 0 0, .int .i64 0] 112)).setCells W'.heap.size 0 (enL x) = W9 := ⟨_, rfl⟩
              rw [hW9] at KB KH KO
              have HW9 := hide hW9
              clear hW9
              have HKK := hide hK
              have HII := hide hi
              clear hK hi
              gi_wp2_with (refine wpListIn_st rfl _ _ rfl W'.heap.size 0 rfl x rfl TH.out ?_; rw [HW9.out]; try simp only [Act.put, List.setIfInBounds_toArray, List.set_cons_zero, List.set_cons_succ])
              have hK := HKK.out
              have hi := HII.out
              have hs8 := hi.choose_spec.2.2.2.2.2.size
              exact hK _ _ (KO.out.from _) (BelX.of KB.out hs8) (oi_own hgi8 hbt8 hbi8 pre W' _ none hi (ograwn KB.out) (fun r e => by cases e)) ⟨W'.heap.size, hs8, KH.out, rfl⟩
            case hbody =>
              rintro l pre x a' W' hl hr ⟨zs', r1, r2, r3, r4, r5, r6⟩ ⟨Bx, hBx, hx0, rfl⟩ hlt
              have c4 := r4.cell
              have c5 := r5.cell
              have f4 := r4.frozen
              obtain ⟨m, hm⟩ : ∃ m, k + pre.length = m := ⟨_, rfl⟩
              rw [hm] at c4 r3 r4
              have hml : m < xs.length := by omega
              have q6 : (m : Int) < (xs.length : Int) := by omega
              have HRX := hide (show W'.rangeAt Bx 0 (enL x) from fun j v hv => by rw [cell_of_row W' Bx (0 + j) _ _ _ hx0, Nat.zero_add]; simpa using hv)
              have HTG := hide (r1.there (i := m) (by omega))
              have r4k := r4.kept (grown_cells gi (enL x) (m * 17) W') (by simp; omega)
              have HC4 := hide r4k.cell
              have HF4 := hide r4k.frozen
              have HR1 := hide r1
              have HR3 := hide r3
              have HR4 := hide r4
              have HR5 := hide r5
              have HR6 := hide r6
              have HMM := hide hm
              have HX0 := hide hx0
              clear hx0 r1 r3 r4 r5 r6 hm r4k
              have HOI := hide (oi_step ⟨zs', HR1.out, r2, by rw [HMM.out]; exact HR3.out, by rw [HMM.out]; exact HR4.out, HR5.out, HR6.out⟩ HMM.out hml (by omega) (by omega) (by omega) x)
              gi_upto_region 8 with (first | (refine wpListIn_ld rfl _ rfl Bx 0 rfl x HRX.out ?_; try simp only [Act.put, List.setIfInBounds_toArray, List.set_cons_zero, List.set_cons_succ]) | (refine wpListIn_st rfl _ _ rfl gi (m * 17) rfl x rfl HTG.out ?_; try simp only [Act.put, List.setIfInBounds_toArray, List.set_cons_zero, List.set_cons_succ]))
              obtain ⟨W9, hW9⟩ : ∃ W9, W'.setCells gi (m * 17) (enL x) = W9 := ⟨_, rfl⟩
              rw [hW9] at HOI HC4 HF4 ⊢
              clear hW9 c4 f4
              have c4 := HC4.out
              have f4 := HF4.out
              gi_wp2
              exact ⟨HOI.out.2.2, HOI.out.2.1, HOI.out.1⟩
            case hdone =>
              rintro D ys W' hD rfl ⟨zs', r1, r2, r3, r4, r5, r6⟩ hK
              have hkE : k + ys.length = xs.length := by omega
              rw [hkE] at r3 r4
              have HX := hide (marks_more HDS.out hnd (fun F hF => (r6.block F (by have := (Array.getElem?_eq_some_iff.1 (HDS.out F hF).2).1; omega) (by have := (HDS.out F hF).1; omega)).trans (HK.out.block F (Array.getElem?_eq_some_iff.1 (HDS.out F hF).2).1)) hK (by omega) (show w.heap.size + 2 ≤ D by omega))
              have HBB := hide (HB8.out.trans (r6.mono (m := w.heap.size) (by omega) (fun j hj h => h.resolve_right (by omega))))
              have HDD := hide (show (dn ++ ys) ++ runs f s (xs.drop xs.length) = runs f s xs by rw [List.append_assoc, ← HNX.out, HDN.out])
              have c1 := HT.out.cell
              have c2 := r4.cell
              have R1 := hide r1
              have R3 := hide r3
              have R4 := hide r4
              have R5 := hide r5
              have CC := hide (And.intro c1 c2)
              clear r1 r3 r4 r5 r6 hK c1 c2
              go_wp2
              refine ⟨⟨xs.length, D :: Ds, dn ++ ys, zs', _, _, _, _, _, _, _, _, _, _, _, _, _, _, _, _, _, _, _, _, _, _, _, _, _, _, _, _, _, _, _, _, _, _, _, _, rfl, by omega, by rw [List.length_append]; omega, HDD.out, R1.out, r2, R3.out, R5.out, R4.out, HBB.out, HX.out.1, HX.out.2⟩, ?_⟩
              rw [CC.out.1, CC.out.2]
              simp [intOf]
              omega
            case hstop =>
              rintro D c pre W' hD hpx h hK
              exact h.elim
    · obtain rfl : k = xs.length := by omega
      have hzz : zs = runs f s xs := by rw [← hdn, ← hzt, List.drop_length, runs_nil, List.append_nil, ← hzl, List.take_length]
      go_wp2
      refine marks_leave (A := w.heap.size + 2) (Inv := fun u => EnRow u gi zs ∧ BelX (fun k => k = gi) w.heap.size w u) ?_ ?_ Ds _ hDs hnd ⟨hrow, hB⟩
      · rintro u D ⟨i1, i2⟩ hD hu
        exact ⟨i1.keep (World.putObj_heap_other (fun e => by omega)), i2.trans (belx_putObj _ (by omega))⟩
      · rintro u ⟨i1, i2⟩
        exact ⟨_, results_none rfl _ _ _, rfl, by rw [← hzz]; exact i1, i2⟩
end Go.Proofs.YticmlelalbaalaaGreatDoor
