/- mergeRuns (nt) -/
import Derived.Test.YtomieeajmelglaaOMergedN
namespace Go.Proofs.Ytomieeajmelglaa
open Go.RowKit Go.Shelf
set_option linter.unusedVariables false
attribute [local go_sem] Oper.semAt_some

theorem ntmerged_box {w : World} {ao bo : Option Addr} {la ca lb cb g : Nat} {cs : Array Value} : Calls Try.prog 57 #[.slice ao la ca, .slice bo lb cb, .func (.func g) #[] cs] w fun e w' => e = .returned (.func (.func 58) #[] #[.pointer (some ⟨w.heap.size, 0, none⟩), .pointer (some ⟨w.heap.size + 1, 0, none⟩), .pointer (some ⟨w.heap.size + 2, 0, none⟩)]) ∧ Boxed w' w.heap.size 61 (.slice ao la ca) ∧ Boxed w' (w.heap.size + 1) 61 (.slice bo lb cb) ∧ Boxed w' (w.heap.size + 2) 60 (.func (.func g) #[] cs) ∧ Below w.heap.size w w' := by
  refine ntmerged_any.mono ?_
  rintro e w' ⟨rfl, rfl⟩
  refine ⟨rfl, ((Boxed.new _ _ _).alloc _).alloc _, ?_, ?_, ((((Below.refl _ w).alloc (Nat.le_refl _) _).alloc (by simp) _).alloc (by simp; omega) _)⟩
  · have := (Boxed.new (w.alloc (.cells #[.slice ao la ca] 61)) 61 (.slice bo lb cb)).alloc (.cells #[.func (.func g) #[] cs] 60)
    simpa using this
  · have := Boxed.new ((w.alloc (.cells #[.slice ao la ca] 61)).alloc (.cells #[.slice bo lb cb] 61)) 60 (.func (.func g) #[] cs)
    simpa using this

/-- between two rounds of the inner loop -/
def OIN (gi Bt Bi ci n k : Nat) (dn : List Int) (w8 : World) (pre : List Int) (W : World) : Prop := ∃ zs, NtRow W gi zs ∧ zs.length = n ∧ zs.take (k + pre.length) = dn ++ pre ∧ Boxed W Bt 3 (.int .i64 ((k + pre.length : Nat) : Int)) ∧ Boxed W Bi 61 (.slice (some ⟨gi, 0, none⟩) n ci) ∧ BelX (fun k => k = gi ∨ k = Bt) w8.heap.size w8 W
theorem oiN_own {gi Bt Bi ci n k : Nat} {dn : List Int} {w8 : World} (h1 : gi < w8.heap.size) (h2 : Bt < w8.heap.size) (h3 : Bi < w8.heap.size) : OwnFrom w8.heap.size (OIN gi Bt Bi ci n k dn w8) := by
  rintro pre W W' row ⟨zs, a, b, c, d, e, f⟩ hg hr
  have ne : ∀ r, r < w8.heap.size → some r ≠ row := fun r h e => by have := (hr r e.symm).1; omega
  exact ⟨zs, a.keep (hg.block gi a.lt (ne _ h1)), b, c, d.kept hg (ne _ h2), e.kept hg (ne _ h3), f.trans (BelX.grown hg f.size (fun r e => .inl (hr r e).1))⟩
theorem oiN_start {gi Bt Bi ci n k : Nat} {dn zs : List Int} {w8 : World} (h : NtRow w8 gi zs) (h1 : zs.length = n) (h2 : zs.take k = dn) (b : Boxed w8 Bt 3 (.int .i64 k)) (c : Boxed w8 Bi 61 (.slice (some ⟨gi, 0, none⟩) n ci)) : OIN gi Bt Bi ci n k dn w8 [] w8 := ⟨zs, h, h1, by simpa using h2, b, c, BelX.refl _ _ _⟩

theorem oiN_step {gi Bt Bi ci n k m : Nat} {dn : List Int} {w8 : World} {pre : List Int} {W : World} (h : OIN gi Bt Bi ci n k dn w8 pre W) (hm : k + pre.length = m) (hml : m < n) (h1 : Bt ≠ gi) (h2 : Bi ≠ gi) (h3 : Bi ≠ Bt) (x : Int) :
    OIN gi Bt Bi ci n k dn w8 (pre ++ [x]) ((W.setCell ⟨gi, m, none⟩ (.int .i64 x)).setCell ⟨Bt, 0, none⟩ (.int .i64 ((m : Int) + 1))) ∧ BelX (fun k => k = gi ∨ k = Bt) w8.heap.size W ((W.setCell ⟨gi, m, none⟩ (.int .i64 x)).setCell ⟨Bt, 0, none⟩ (.int .i64 ((m : Int) + 1))) ∧ KeepsFrom w8.heap.size W ((W.setCell ⟨gi, m, none⟩ (.int .i64 x)).setCell ⟨Bt, 0, none⟩ (.int .i64 ((m : Int) + 1))) := by
  obtain ⟨zs, a, b, c, d, e, f⟩ := h
  rw [hm] at c d
  have g1 := (grown_set2 W gi m (.int .i64 x))
  have bx : BelX (fun k => k = gi ∨ k = Bt) w8.heap.size W ((W.setCell ⟨gi, m, none⟩ (.int .i64 x)).setCell ⟨Bt, 0, none⟩ (.int .i64 ((m : Int) + 1))) := (belx_set _ _ (.inl rfl)).trans (belx_set _ _ (.inr rfl))
  refine ⟨⟨zs.set m x, ?_, by rw [List.length_set]; exact b, ?_, ?_, ?_, f.trans bx⟩, bx, ((KeepsOthers.setCell _ _ _).trans (KeepsOthers.setCell _ _ _)).from _⟩
  · exact (a.set (i := m) (by omega) x).keep (heap_setCell_other _ _ _ _ (fun e => h1 e.symm))
  · rw [List.length_append, List.length_singleton, ← Nat.add_assoc, hm, take_set_next (by omega) c, List.append_assoc]
  · have := (d.kept g1 (fun e => h1 (by cases e; rfl))).set (.int .i64 ((m : Int) + 1))
    rw [List.length_append, List.length_singleton, ← Nat.add_assoc, hm]
    simpa using this
  · exact (e.kept g1 (fun e => h2 (by cases e; rfl))).other h3 _

set_option maxRecDepth 100000 in
set_option maxHeartbeats 8000000 in
theorem ntruns_any {w : World} {gi ci s m : Nat} {va cv : Value} {xs ws : List Int} {I : World → Prop} {f : Int → Int → Int} (hs : 0 < s) (hs2 : s ≤ 1152921504606846976) (hx : xs.length ≤ 1152921504606846976) (hr : NtRow w gi ws) (hw : ws.length = xs.length) (hci : xs.length ≤ ci) (hcm : ci ≤ maxLen)
    (ha : NtRd (fun g => g ≠ gi) w va xs) (hc : CmpIsN I cv m f) (hxm : ∀ x ∈ xs, 0 ≤ x ∧ x < (m : Int)) (hIw : I w) (hI : ∀ W W', I W → BelX (fun k => k = gi) w.heap.size W W' → I W') :
    Calls Try.prog 54 #[.slice (some ⟨gi, 0, none⟩) xs.length ci, va, .int .i64 s, cv] w fun e w' => e = .returned (.tuple #[]) ∧ NtRow w' gi (runs f s xs) ∧ BelX (fun k => k = gi) w.heap.size w w' := by
  have hcc := hc
  obtain ⟨cg, cl, rfl, eg, hcall⟩ := hc.val
  have haa := ha
  obtain ⟨ao, ca, rfl, hac, ham, hacl⟩ := ha
  have HA := hide haa
  have HCC := hide hcc
  have HR := hide hr
  have HIw := hide hIw
  have HI := hide hI
  have HACL := hide hacl
  have hgi := hr.lt
  unfold maxLen at hcm ham
  clear hcc hc hcall haa hacl hr hIw hI
  have HXM := hide hxm
  clear hxm
  refine (callsIn_wide (n := 4)).1 ?_
  refine callsIn_of_wp_marks Try.func54 rfl trivial ?_ rfl
  simp only [Try.ntmps54, List.size_toArray, List.length_cons, List.length_nil, Nat.reduceAdd, Nat.reduceSub, Array.replicate_succ, Array.replicate_zero, List.push_toArray, List.append_toArray, List.nil_append, List.cons_append]
  refine wpIn_wide.2 ?_
  go_wp2
  refine wp_loop (fun a W => ∃ (k : Nat) (Ds : List Nat) (dn : List Int) (zs : List Int) (x9 x10 x11 x12 x13 x14 x15 x16 x17 x18 x19 x20 x21 x22 x23 x24 x25 x26 x27 x28 x29 x30 x31 x32 x33 x34 x35 x36 x37 x38 x39 x40 x41 x42 x43 x44 : Value), a = { tmps := #[.slice (some ⟨gi, 0, none⟩) xs.length ci, .slice ao xs.length ca, .int .i64 s, .func (.func cg) #[] cl, .pointer (some ⟨w.heap.size, 0, none⟩), undef, undef, undef, .pointer (some ⟨w.heap.size + 1, 0, none⟩), x9, x10, x11, x12, x13, x14, x15, x16, x17, x18, x19, x20, x21, x22, x23, x24, x25, x26, x27, x28, x29, x30, x31, x32, x33, x34, x35, x36, x37, x38, x39, x40, x41, x42, x43, x44], defers := Ds.map mark } ∧ k ≤ xs.length ∧ dn.length = k ∧ dn ++ runs f s (xs.drop k) = runs f s xs ∧ NtRow W gi zs ∧ zs.length = xs.length ∧ zs.take k = dn ∧ Boxed W w.heap.size 61 (.slice (some ⟨gi, 0, none⟩) xs.length ci) ∧ Boxed W (w.heap.size + 1) 3 (.int .i64 k) ∧ BelX (fun k => k = gi) w.heap.size w W ∧ (∀ D ∈ Ds, w.heap.size + 2 ≤ D ∧ W.heap[D]? = some (.deferred (some []))) ∧ Ds.Nodup) (fun a W => xs.length - (intOf ((W.cell? ⟨w.heap.size + 1, 0, none⟩).getD undef)).toNat) ?_ ?_
  · have bI := (Boxed.new w 61 (.slice (some ⟨gi, 0, none⟩) xs.length ci)).alloc (.cells #[.int .i64 0] 3)
    have bT := Boxed.new (w.alloc (.cells #[.slice (some ⟨gi, 0, none⟩) xs.length ci] 61)) 3 (.int .i64 0)
    have hb2 : Below w.heap.size w ((w.alloc (.cells #[.slice (some ⟨gi, 0, none⟩) xs.length ci] 61)).alloc (.cells #[.int .i64 0] 3)) := ((Below.refl _ w).alloc (Nat.le_refl _) _).alloc (by simp) _
    rw [World.size_alloc] at bT
    exact ⟨0, [], [], ws, undef, undef, undef, undef, undef, undef, undef, undef, undef, undef, undef, undef, undef, undef, undef, undef, undef, undef, undef, undef, undef, undef, undef, undef, undef, undef, undef, undef, undef, undef, undef, undef, undef, undef, undef, undef, rfl, by omega, rfl, by simp, HR.out.keep (hb2.block _ hgi), hw, by simp, bI, bT, BelX.of hb2 (Nat.le_refl _), by simp, by simp⟩
  · rintro a W ⟨k, Ds, dn, zs, x9, x10, x11, x12, x13, x14, x15, x16, x17, x18, x19, x20, x21, x22, x23, x24, x25, x26, x27, x28, x29, x30, x31, x32, x33, x34, x35, x36, x37, x38, x39, x40, x41, x42, x43, x44, rfl, hk, hdl, hdn, hrow, hzl, hzt, bI, bT, hB, hDs, hnd⟩
    have cI := bI.cell
    have cT := bT.cell
    by_cases hkl : k < xs.length
    · have q1 : (k : Int) < (xs.length : Int) := by omega
      have q0 : (k : Int) ≤ (xs.length : Int) := by omega
      obtain ⟨ga, oa, rfl, ga1, ga2, ia⟩ := HACL.out (by omega)
      have IA := hide ia
      clear ia
      have HB := hide hB
      have HROW := hide hrow
      have BI := hide bI
      have HZT := hide hzt
      have HDN := hide hdn
      have HDS := hide hDs
      have n1 : ¬ ca = k := by omega
      clear hB hrow bI hzt hdn hDs cI
      by_cases h1 : k + s < xs.length
      · obtain ⟨M, hM⟩ : ∃ M, M = k + s := ⟨_, rfl⟩
        have e1 : (k : Int) + (s : Int) = (M : Int) := by omega
        have q2 : (M : Int) ≤ (xs.length : Int) := by omega
        have q3 : (k : Int) ≤ (M : Int) := by omega
        have n2 : k ≤ M := by omega
        have n3 : M ≤ ca := by omega
        have HM := hide (show M = min (k + s) xs.length by omega)
        clear hM
        by_cases h2 : M + s ≤ xs.length
        · obtain ⟨E, hE⟩ : ∃ E, E = M + s := ⟨_, rfl⟩
          have e2 : (M : Int) + (s : Int) = (E : Int) := by omega
          have q4 : (E : Int) ≤ (xs.length : Int) := by omega
          have q5 : (M : Int) ≤ (E : Int) := by omega
          have n4 : ¬ ca = M := by omega
          have n5 : M ≤ E := by omega
          have n6 : E ≤ ca := by omega
          have HE := hide (show E = min (M + s) xs.length by omega)
          clear hE h2
          have K : Below W.heap.size W W.drew := (Below.refl _ _).drew
          have HT := hide bT
          have CF := hide (fun U (k' : Below W.heap.size W U) => (k'.cell (p := ⟨w.heap.size + 1, 0, none⟩) HT.out.lt).trans HT.out.cell)
          go_wp2
          first | go_region_held3 (fun u => u.cell? ⟨w.heap.size + 1, 0, none⟩ = some (.int .i64 k))
            (first | with_reducible exact CF.out _ K | go_keep)
            (first | (go_at_call 57; (with_reducible refine ntmerged_box.mono ?_); rintro e w8 ⟨rfl, b1, b2, b3, hb⟩; have KX := K; replace K := K.trans (hb.mono K.size); clear hb)) | fail "region"
          have hsz : W.heap.size + 3 ≤ w8.heap.size := by have := b3.lt; simp at this; omega
          have hwW := HB.out.size
          have hbtW := HT.out.lt
          have hB8 : BelX (fun k => k = gi) w.heap.size w w8 := HB.out.trans (BelX.of K hwW)
          have hrow8 : NtRow w8 gi zs := HROW.out.keep (K.block _ HROW.out.lt)
          have bI8 : Boxed w8 w.heap.size 61 (.slice (some ⟨gi, 0, none⟩) xs.length ci) := (K.block _ BI.out.lt).trans BI.out
          have bT8 : Boxed w8 (w.heap.size + 1) 3 (.int .i64 k) := (K.block _ HT.out.lt).trans HT.out
          have RA : NtRd (fun g => g < w8.heap.size ∧ ¬ (g = gi ∨ g = w.heap.size + 1)) w8 (.slice (some ⟨ga, oa + k, none⟩) (M - k) (ca - k)) ((xs.drop k).take s) := sub_rdN IA.out hB8 ga1 ga2 ⟨by omega, by omega⟩ (run_al xs HM.out) (by omega) (by omega) (run_a xs HM.out) (by omega) (by unfold maxLen; omega)
          have RB : NtRd (fun g => g < w8.heap.size ∧ ¬ (g = gi ∨ g = w.heap.size + 1)) w8 (.slice (some ⟨ga, oa + M, none⟩) (E - M) (ca - M)) (((xs.drop k).drop s).take s) := sub_rdN IA.out hB8 ga1 ga2 ⟨by omega, by omega⟩ (run_bl xs HM.out HE.out) (by omega) (by omega) (run_b xs HM.out HE.out) (by omega) (by unfold maxLen; omega)
          have hI8 := hide (HI.out w w8 HIw.out hB8)
          have hIm := hide (fun (U U' : World) (h : I U) (kk : BelX (fun k => k = gi ∨ k = w.heap.size + 1) w8.heap.size U U') => HI.out U U' h (kk.mono (m := w.heap.size) (by omega) (fun j hj h => h.resolve_right (by omega))))
          have hseq := ntmerged_stops (n := 3) (X := (fun k => k = gi ∨ k = w.heap.size + 1)) (n₀ := w8.heap.size) (by omega) b1 b2 b3 ⟨by have := b1.lt; simpa using this, by simp; omega⟩ ⟨by have := b2.lt; simpa using this, by simp; omega⟩ ⟨by have := b3.lt; simpa using this, by simp; omega⟩ RA RB HCC.out hI8.out hIm.out (Nat.le_refl _) (by rw [run_al xs HM.out]; omega) (by rw [run_bl xs HM.out HE.out]; omega) (fun x hx => HXM.out x (List.mem_of_mem_drop (List.mem_of_mem_take hx))) (fun x hx => HXM.out x (List.mem_of_mem_drop (List.mem_of_mem_drop (List.mem_of_mem_take hx))))
          obtain ⟨Z, hZ⟩ : ∃ Z, mrg f ((xs.drop k).take s) (((xs.drop k).drop s).take s) = Z := ⟨_, rfl⟩
          have hZl : Z.length = E - k := by rw [← hZ, mrg_len, run_al xs HM.out, run_bl xs HM.out HE.out]; omega
          have hN : ((xs.drop k).take s).length + (((xs.drop k).drop s).take s).length = E - k := by rw [run_al xs HM.out, run_bl xs HM.out HE.out]; omega
          have hnx := run_next f hs hkl HM.out HE.out
          rw [hZ, hN] at hseq
          rw [hZ] at hnx
          have HSEQ := hide hseq
          have HNX := hide hnx
          have HK := hide K
          have HB8 := hide hB8
          clear hseq hnx K hB8 RA RB hZ hN b1 b2 b3 hI8 hIm CF KX
          have hgi8 : gi < w8.heap.size := by omega
          have hbt8 : w.heap.size + 1 < w8.heap.size := by omega
          have hbi8 : w.heap.size < w8.heap.size := by omega
          go_wp2_with fail
          refine (wpIn_wide (n := 4)).1 ?_
          refine' wpIn_rangeFunc_ownH rfl (by omega) (gf := 58) (lb := #[.pointer (some ⟨W.heap.size, 0, none⟩), .pointer (some ⟨W.heap.size + 1, 0, none⟩), .pointer (some ⟨W.heap.size + 2, 0, none⟩)]) (by simp [go_sem]) trivial (enters_of Try.func58 (by kernel_rfl) rfl)
            HSEQ.out BelX.trans (fun W l o o' hl _ _ _ => belx_putObj o' hl) (Below.refl _ _) (fun _ => rfl)
            (fun pre W' => OIN gi (w.heap.size + 1) w.heap.size ci xs.length k dn w8 pre W')
            (fun _ _ _ => False) (oiN_own (by omega) (by omega) (by omega)) (fun _ _ _ _ _ hs _ _ => hs) (oiN_start hrow8 hzl HZT.out bT8 bI8)
            (fun x a' _ => a' = { tmps := #[.slice (some ⟨gi, 0, none⟩) xs.length ci, .slice (some ⟨ga, oa, none⟩) xs.length ca, .int .i64 s, .func (.func cg) #[] cl, .pointer (some ⟨w.heap.size, 0, none⟩), undef, undef, undef, .pointer (some ⟨w.heap.size + 1, 0, none⟩), .int .i64 M, .int .i64 E, ntV x, .int .i64 k, .slice (some ⟨ga, oa, none⟩) xs.length ca, .int .i64 xs.length, .bool true, .int .i64 k, .int .i64 s, .int .i64 (M), .slice (some ⟨ga, oa, none⟩) xs.length ca, .int .i64 xs.length, .int .i64 M, .int .i64 M, .int .i64 s, .int .i64 (E), .slice (some ⟨ga, oa, none⟩) xs.length ca, .int .i64 xs.length, .int .i64 E, .slice (some ⟨ga, oa, none⟩) xs.length ca, .int .i64 k, .int .i64 M, .slice (some ⟨ga, oa + k, none⟩) (M - k) (ca - k), .slice (some ⟨ga, oa, none⟩) xs.length ca, .int .i64 M, .int .i64 E, .slice (some ⟨ga, oa + M, none⟩) (E - M) (ca - M), .func (.func cg) #[] cl, .func (.func 58) #[] #[.pointer (some ⟨W.heap.size, 0, none⟩), .pointer (some ⟨W.heap.size + 1, 0, none⟩), .pointer (some ⟨W.heap.size + 2, 0, none⟩)], ntV x, x39, x40, x41, x42, x43, x44], defers := [] }) ?hAx ?hassign ?hbody ?hdone ?hstop
          case hAx =>
            exact fun x a' u X Y row h _ _ => h
          case hassign =>
            rintro l pre x W' K hi hK
            gi_wp2
            have hs8 := hi.choose_spec.2.2.2.2.2.size
            exact hK _ _ (KeepsFrom.refl _ _) (BelX.refl _ _ _) hi rfl
          case hbody =>
            rintro l pre x a' W' hl hr ⟨zs', r1, r2, r3, r4, r5, r6⟩ rfl hlt
            have c4 := r4.cell
            have c5 := r5.cell
            have f4 := r4.frozen
            obtain ⟨m, hm⟩ : ∃ m, k + pre.length = m := ⟨_, rfl⟩
            rw [hm] at c4 r3 r4
            have hml : m < xs.length := by omega
            have q6 : (m : Int) < (xs.length : Int) := by omega
            have fz0 := r1.frozen m
            have cz0 := r1.cell (i := m) (by omega)
            have HR1 := hide r1
            have HR3 := hide r3
            have HR4 := hide r4
            have HR5 := hide r5
            have HR6 := hide r6
            have HMM := hide hm
            clear r1 r3 r4 r5 r6 hm
            have HOI := hide (oiN_step ⟨zs', HR1.out, r2, by rw [HMM.out]; exact HR3.out, by rw [HMM.out]; exact HR4.out, HR5.out, HR6.out⟩ HMM.out hml (by omega) (by omega) (by omega) (x))
            gi_wp2
            exact ⟨HOI.out.2.2, HOI.out.2.1, HOI.out.1⟩
          case hdone =>
            rintro D ys W' hD rfl ⟨zs', r1, r2, r3, r4, r5, r6⟩ hK
            have hkE : k + ys.length = E := by omega
            rw [hkE] at r3 r4
            have HX := hide (marks_more HDS.out hnd (fun F hF => (r6.block F (by have := (Array.getElem?_eq_some_iff.1 (HDS.out F hF).2).1; omega) (by have := (HDS.out F hF).1; omega)).trans (HK.out.block F (Array.getElem?_eq_some_iff.1 (HDS.out F hF).2).1)) hK (by omega) (show w.heap.size + 2 ≤ D by omega))
            have HBB := hide (HB8.out.trans (r6.mono (m := w.heap.size) (by omega) (fun j hj h => h.resolve_right (by omega))))
            have HDD := hide (show (dn ++ ys) ++ runs f s (xs.drop E) = runs f s xs by rw [List.append_assoc, ← HNX.out, HDN.out])
            have c1 := HT.out.cell
            have c2 := r4.cell
            have R1 := hide r1
            have R3 := hide r3
            have R4 := hide r4
            have R5 := hide r5
            have CC := hide (And.intro c1 c2)
            clear r1 r3 r4 r5 r6 hK c1 c2
            go_wp2
            refine ⟨⟨E, D :: Ds, dn ++ ys, zs', _, _, _, _, _, _, _, _, _, _, _, _, _, _, _, _, _, _, _, _, _, _, _, _, _, _, _, _, _, _, _, _, _, _, _, _, rfl, by omega, by rw [List.length_append]; omega, HDD.out, R1.out, r2, R3.out, R5.out, R4.out, HBB.out, HX.out.1, HX.out.2⟩, ?_⟩
            rw [CC.out.1, CC.out.2]
            simp [intOf]
            omega
          case hstop =>
            rintro D c pre W' hD hpx h hK
            exact h.elim
        · have q4 : ¬ (M : Int) + (s : Int) ≤ (xs.length : Int) := by omega
          have q5 : (M : Int) ≤ (xs.length : Int) := by omega
          have n4 : ¬ ca = M := by omega
          have n5 : M ≤ xs.length := by omega
          have n6 : xs.length ≤ ca := by omega
          have HE := hide (show xs.length = min (M + s) xs.length by omega)
          clear h2
          have K : Below W.heap.size W W.drew := (Below.refl _ _).drew
          have HT := hide bT
          have CF := hide (fun U (k' : Below W.heap.size W U) => (k'.cell (p := ⟨w.heap.size + 1, 0, none⟩) HT.out.lt).trans HT.out.cell)
          go_wp2
          first | go_region_held3 (fun u => u.cell? ⟨w.heap.size + 1, 0, none⟩ = some (.int .i64 k))
            (first | with_reducible exact CF.out _ K | go_keep)
            (first | (go_at_call 57; (with_reducible refine ntmerged_box.mono ?_); rintro e w8 ⟨rfl, b1, b2, b3, hb⟩; have KX := K; replace K := K.trans (hb.mono K.size); clear hb)) | fail "region"
          have hsz : W.heap.size + 3 ≤ w8.heap.size := by have := b3.lt; simp at this; omega
          have hwW := HB.out.size
          have hbtW := HT.out.lt
          have hB8 : BelX (fun k => k = gi) w.heap.size w w8 := HB.out.trans (BelX.of K hwW)
          have hrow8 : NtRow w8 gi zs := HROW.out.keep (K.block _ HROW.out.lt)
          have bI8 : Boxed w8 w.heap.size 61 (.slice (some ⟨gi, 0, none⟩) xs.length ci) := (K.block _ BI.out.lt).trans BI.out
          have bT8 : Boxed w8 (w.heap.size + 1) 3 (.int .i64 k) := (K.block _ HT.out.lt).trans HT.out
          have RA : NtRd (fun g => g < w8.heap.size ∧ ¬ (g = gi ∨ g = w.heap.size + 1)) w8 (.slice (some ⟨ga, oa + k, none⟩) (M - k) (ca - k)) ((xs.drop k).take s) := sub_rdN IA.out hB8 ga1 ga2 ⟨by omega, by omega⟩ (run_al xs HM.out) (by omega) (by omega) (run_a xs HM.out) (by omega) (by unfold maxLen; omega)
          have RB : NtRd (fun g => g < w8.heap.size ∧ ¬ (g = gi ∨ g = w.heap.size + 1)) w8 (.slice (some ⟨ga, oa + M, none⟩) (xs.length - M) (ca - M)) (((xs.drop k).drop s).take s) := sub_rdN IA.out hB8 ga1 ga2 ⟨by omega, by omega⟩ (run_bl xs HM.out HE.out) (by omega) (by omega) (run_b xs HM.out HE.out) (by omega) (by unfold maxLen; omega)
          have hI8 := hide (HI.out w w8 HIw.out hB8)
          have hIm := hide (fun (U U' : World) (h : I U) (kk : BelX (fun k => k = gi ∨ k = w.heap.size + 1) w8.heap.size U U') => HI.out U U' h (kk.mono (m := w.heap.size) (by omega) (fun j hj h => h.resolve_right (by omega))))
          have hseq := ntmerged_stops (n := 3) (X := (fun k => k = gi ∨ k = w.heap.size + 1)) (n₀ := w8.heap.size) (by omega) b1 b2 b3 ⟨by have := b1.lt; simpa using this, by simp; omega⟩ ⟨by have := b2.lt; simpa using this, by simp; omega⟩ ⟨by have := b3.lt; simpa using this, by simp; omega⟩ RA RB HCC.out hI8.out hIm.out (Nat.le_refl _) (by rw [run_al xs HM.out]; omega) (by rw [run_bl xs HM.out HE.out]; omega) (fun x hx => HXM.out x (List.mem_of_mem_drop (List.mem_of_mem_take hx))) (fun x hx => HXM.out x (List.mem_of_mem_drop (List.mem_of_mem_drop (List.mem_of_mem_take hx))))
          obtain ⟨Z, hZ⟩ : ∃ Z, mrg f ((xs.drop k).take s) (((xs.drop k).drop s).take s) = Z := ⟨_, rfl⟩
          have hZl : Z.length = xs.length - k := by rw [← hZ, mrg_len, run_al xs HM.out, run_bl xs HM.out HE.out]; omega
          have hN : ((xs.drop k).take s).length + (((xs.drop k).drop s).take s).length = xs.length - k := by rw [run_al xs HM.out, run_bl xs HM.out HE.out]; omega
          have hnx := run_next f hs hkl HM.out HE.out
          rw [hZ, hN] at hseq
          rw [hZ] at hnx
          have HSEQ := hide hseq
          have HNX := hide hnx
          have HK := hide K
          have HB8 := hide hB8
          clear hseq hnx K hB8 RA RB hZ hN b1 b2 b3 hI8 hIm CF KX
          have hgi8 : gi < w8.heap.size := by omega
          have hbt8 : w.heap.size + 1 < w8.heap.size := by omega
          have hbi8 : w.heap.size < w8.heap.size := by omega
          go_wp2_with fail
          refine (wpIn_wide (n := 4)).1 ?_
          refine' wpIn_rangeFunc_ownH rfl (by omega) (gf := 58) (lb := #[.pointer (some ⟨W.heap.size, 0, none⟩), .pointer (some ⟨W.heap.size + 1, 0, none⟩), .pointer (some ⟨W.heap.size + 2, 0, none⟩)]) (by simp [go_sem]) trivial (enters_of Try.func58 (by kernel_rfl) rfl)
            HSEQ.out BelX.trans (fun W l o o' hl _ _ _ => belx_putObj o' hl) (Below.refl _ _) (fun _ => rfl)
            (fun pre W' => OIN gi (w.heap.size + 1) w.heap.size ci xs.length k dn w8 pre W')
            (fun _ _ _ => False) (oiN_own (by omega) (by omega) (by omega)) (fun _ _ _ _ _ hs _ _ => hs) (oiN_start hrow8 hzl HZT.out bT8 bI8)
            (fun x a' _ => a' = { tmps := #[.slice (some ⟨gi, 0, none⟩) xs.length ci, .slice (some ⟨ga, oa, none⟩) xs.length ca, .int .i64 s, .func (.func cg) #[] cl, .pointer (some ⟨w.heap.size, 0, none⟩), undef, undef, undef, .pointer (some ⟨w.heap.size + 1, 0, none⟩), .int .i64 M, .int .i64 xs.length, ntV x, .int .i64 k, .slice (some ⟨ga, oa, none⟩) xs.length ca, .int .i64 xs.length, .bool true, .int .i64 k, .int .i64 s, .int .i64 (M), .slice (some ⟨ga, oa, none⟩) xs.length ca, .int .i64 xs.length, .int .i64 M, .int .i64 M, .int .i64 s, .int .i64 ((M : Int) + (s : Int)), .slice (some ⟨ga, oa, none⟩) xs.length ca, .int .i64 xs.length, .int .i64 xs.length, .slice (some ⟨ga, oa, none⟩) xs.length ca, .int .i64 k, .int .i64 M, .slice (some ⟨ga, oa + k, none⟩) (M - k) (ca - k), .slice (some ⟨ga, oa, none⟩) xs.length ca, .int .i64 M, .int .i64 xs.length, .slice (some ⟨ga, oa + M, none⟩) (xs.length - M) (ca - M), .func (.func cg) #[] cl, .func (.func 58) #[] #[.pointer (some ⟨W.heap.size, 0, none⟩), .pointer (some ⟨W.heap.size + 1, 0, none⟩), .pointer (some ⟨W.heap.size + 2, 0, none⟩)], ntV x, x39, x40, x41, x42, x43, x44], defers := [] }) ?hAx ?hassign ?hbody ?hdone ?hstop
          case hAx =>
            exact fun x a' u X Y row h _ _ => h
          case hassign =>
            rintro l pre x W' K hi hK
            gi_wp2
            have hs8 := hi.choose_spec.2.2.2.2.2.size
            exact hK _ _ (KeepsFrom.refl _ _) (BelX.refl _ _ _) hi rfl
          case hbody =>
            rintro l pre x a' W' hl hr ⟨zs', r1, r2, r3, r4, r5, r6⟩ rfl hlt
            have c4 := r4.cell
            have c5 := r5.cell
            have f4 := r4.frozen
            obtain ⟨m, hm⟩ : ∃ m, k + pre.length = m := ⟨_, rfl⟩
            rw [hm] at c4 r3 r4
            have hml : m < xs.length := by omega
            have q6 : (m : Int) < (xs.length : Int) := by omega
            have fz0 := r1.frozen m
            have cz0 := r1.cell (i := m) (by omega)
            have HR1 := hide r1
            have HR3 := hide r3
            have HR4 := hide r4
            have HR5 := hide r5
            have HR6 := hide r6
            have HMM := hide hm
            clear r1 r3 r4 r5 r6 hm
            have HOI := hide (oiN_step ⟨zs', HR1.out, r2, by rw [HMM.out]; exact HR3.out, by rw [HMM.out]; exact HR4.out, HR5.out, HR6.out⟩ HMM.out hml (by omega) (by omega) (by omega) (x))
            gi_wp2
            exact ⟨HOI.out.2.2, HOI.out.2.1, HOI.out.1⟩
          case hdone =>
            rintro D ys W' hD rfl ⟨zs', r1, r2, r3, r4, r5, r6⟩ hK
            have hkE : k + ys.length = xs.length := by omega
            rw [hkE] at r3 r4
            have HX := hide (marks_more HDS.out hnd (fun F hF => (r6.block F (by have := (Array.getElem?_eq_some_iff.1 (HDS.out F hF).2).1; omega) (by have := (HDS.out F hF).1; omega)).trans (HK.out.block F (Array.getElem?_eq_some_iff.1 (HDS.out F hF).2).1)) hK (by omega) (show w.heap.size + 2 ≤ D by omega))
            have HBB := hide (HB8.out.trans (r6.mono (m := w.heap.size) (by omega) (fun j hj h => h.resolve_right (by omega))))
            have HDD := hide (show (dn ++ ys) ++ runs f s (xs.drop xs.length) = runs f s xs by rw [List.append_assoc, ← HNX.out, HDN.out])
            have c1 := HT.out.cell
            have c2 := r4.cell
            have R1 := hide r1
            have R3 := hide r3
            have R4 := hide r4
            have R5 := hide r5
            have CC := hide (And.intro c1 c2)
            clear r1 r3 r4 r5 r6 hK c1 c2
            go_wp2
            refine ⟨⟨xs.length, D :: Ds, dn ++ ys, zs', _, _, _, _, _, _, _, _, _, _, _, _, _, _, _, _, _, _, _, _, _, _, _, _, _, _, _, _, _, _, _, _, _, _, _, _, rfl, by omega, by rw [List.length_append]; omega, HDD.out, R1.out, r2, R3.out, R5.out, R4.out, HBB.out, HX.out.1, HX.out.2⟩, ?_⟩
            rw [CC.out.1, CC.out.2]
            simp [intOf]
            omega
          case hstop =>
            rintro D c pre W' hD hpx h hK
            exact h.elim
      · have HM := hide (show xs.length = min (k + s) xs.length by omega)
        have HE := hide (show xs.length = min (xs.length + s) xs.length by omega)
        have q4 : ¬ (xs.length : Int) + (s : Int) ≤ (xs.length : Int) := by omega
        have n3 : xs.length ≤ ca := by omega
        have n2 : k ≤ xs.length := by omega
        by_cases h3 : k + s = xs.length
        · have e1 : (k : Int) + (s : Int) = (xs.length : Int) := by omega
          clear h3
          by_cases n4 : ca = xs.length
          · subst n4
            have K : Below W.heap.size W W.drew := (Below.refl _ _).drew
            have HT := hide bT
            have CF := hide (fun U (k' : Below W.heap.size W U) => (k'.cell (p := ⟨w.heap.size + 1, 0, none⟩) HT.out.lt).trans HT.out.cell)
            go_wp2
            first | go_region_held3 (fun u => u.cell? ⟨w.heap.size + 1, 0, none⟩ = some (.int .i64 k))
              (first | with_reducible exact CF.out _ K | go_keep)
              (first | (go_at_call 57; (with_reducible refine ntmerged_box.mono ?_); rintro e w8 ⟨rfl, b1, b2, b3, hb⟩; have KX := K; replace K := K.trans (hb.mono K.size); clear hb)) | fail "region"
            have hsz : W.heap.size + 3 ≤ w8.heap.size := by have := b3.lt; simp at this; omega
            have hwW := HB.out.size
            have hbtW := HT.out.lt
            have hB8 : BelX (fun k => k = gi) w.heap.size w w8 := HB.out.trans (BelX.of K hwW)
            have hrow8 : NtRow w8 gi zs := HROW.out.keep (K.block _ HROW.out.lt)
            have bI8 : Boxed w8 w.heap.size 61 (.slice (some ⟨gi, 0, none⟩) xs.length ci) := (K.block _ BI.out.lt).trans BI.out
            have bT8 : Boxed w8 (w.heap.size + 1) 3 (.int .i64 k) := (K.block _ HT.out.lt).trans HT.out
            have RA : NtRd (fun g => g < w8.heap.size ∧ ¬ (g = gi ∨ g = w.heap.size + 1)) w8 (.slice (some ⟨ga, oa + k, none⟩) (xs.length - k) (xs.length - k)) ((xs.drop k).take s) := sub_rdN IA.out hB8 ga1 ga2 ⟨by omega, by omega⟩ (run_al xs HM.out) (by omega) (by omega) (run_a xs HM.out) (by omega) (by unfold maxLen; omega)
            have RB : NtRd (fun g => g < w8.heap.size ∧ ¬ (g = gi ∨ g = w.heap.size + 1)) w8 (.slice (some ⟨ga, oa, none⟩) 0 0) (((xs.drop k).drop s).take s) := nil_rdN (by omega) (List.eq_nil_of_length_eq_zero (by rw [run_bl xs HM.out HE.out]; omega)) (by unfold maxLen; omega)
            have hI8 := hide (HI.out w w8 HIw.out hB8)
            have hIm := hide (fun (U U' : World) (h : I U) (kk : BelX (fun k => k = gi ∨ k = w.heap.size + 1) w8.heap.size U U') => HI.out U U' h (kk.mono (m := w.heap.size) (by omega) (fun j hj h => h.resolve_right (by omega))))
            have hseq := ntmerged_stops (n := 3) (X := (fun k => k = gi ∨ k = w.heap.size + 1)) (n₀ := w8.heap.size) (by omega) b1 b2 b3 ⟨by have := b1.lt; simpa using this, by simp; omega⟩ ⟨by have := b2.lt; simpa using this, by simp; omega⟩ ⟨by have := b3.lt; simpa using this, by simp; omega⟩ RA RB HCC.out hI8.out hIm.out (Nat.le_refl _) (by rw [run_al xs HM.out]; omega) (by rw [run_bl xs HM.out HE.out]; omega) (fun x hx => HXM.out x (List.mem_of_mem_drop (List.mem_of_mem_take hx))) (fun x hx => HXM.out x (List.mem_of_mem_drop (List.mem_of_mem_drop (List.mem_of_mem_take hx))))
            obtain ⟨Z, hZ⟩ : ∃ Z, mrg f ((xs.drop k).take s) (((xs.drop k).drop s).take s) = Z := ⟨_, rfl⟩
            have hZl : Z.length = xs.length - k := by rw [← hZ, mrg_len, run_al xs HM.out, run_bl xs HM.out HE.out]; omega
            have hN : ((xs.drop k).take s).length + (((xs.drop k).drop s).take s).length = xs.length - k := by rw [run_al xs HM.out, run_bl xs HM.out HE.out]; omega
            have hnx := run_next f hs hkl HM.out HE.out
            rw [hZ, hN] at hseq
            rw [hZ] at hnx
            have HSEQ := hide hseq
            have HNX := hide hnx
            have HK := hide K
            have HB8 := hide hB8
            clear hseq hnx K hB8 RA RB hZ hN b1 b2 b3 hI8 hIm CF KX
            have hgi8 : gi < w8.heap.size := by omega
            have hbt8 : w.heap.size + 1 < w8.heap.size := by omega
            have hbi8 : w.heap.size < w8.heap.size := by omega
            go_wp2_with fail
            refine (wpIn_wide (n := 4)).1 ?_
            refine' wpIn_rangeFunc_ownH rfl (by omega) (gf := 58) (lb := #[.pointer (some ⟨W.heap.size, 0, none⟩), .pointer (some ⟨W.heap.size + 1, 0, none⟩), .pointer (some ⟨W.heap.size + 2, 0, none⟩)]) (by simp [go_sem]) trivial (enters_of Try.func58 (by kernel_rfl) rfl)
              HSEQ.out BelX.trans (fun W l o o' hl _ _ _ => belx_putObj o' hl) (Below.refl _ _) (fun _ => rfl)
              (fun pre W' => OIN gi (w.heap.size + 1) w.heap.size ci xs.length k dn w8 pre W')
              (fun _ _ _ => False) (oiN_own (by omega) (by omega) (by omega)) (fun _ _ _ _ _ hs _ _ => hs) (oiN_start hrow8 hzl HZT.out bT8 bI8)
              (fun x a' _ => a' = { tmps := #[.slice (some ⟨gi, 0, none⟩) xs.length ci, .slice (some ⟨ga, oa, none⟩) xs.length xs.length, .int .i64 s, .func (.func cg) #[] cl, .pointer (some ⟨w.heap.size, 0, none⟩), undef, undef, undef, .pointer (some ⟨w.heap.size + 1, 0, none⟩), .int .i64 xs.length, .int .i64 xs.length, ntV x, .int .i64 k, .slice (some ⟨ga, oa, none⟩) xs.length xs.length, .int .i64 xs.length, .bool true, .int .i64 k, .int .i64 s, .int .i64 (xs.length), .slice (some ⟨ga, oa, none⟩) xs.length xs.length, .int .i64 xs.length, .int .i64 xs.length, .int .i64 xs.length, .int .i64 s, .int .i64 ((xs.length : Int) + (s : Int)), .slice (some ⟨ga, oa, none⟩) xs.length xs.length, .int .i64 xs.length, .int .i64 xs.length, .slice (some ⟨ga, oa, none⟩) xs.length xs.length, .int .i64 k, .int .i64 xs.length, .slice (some ⟨ga, oa + k, none⟩) (xs.length - k) (xs.length - k), .slice (some ⟨ga, oa, none⟩) xs.length xs.length, .int .i64 xs.length, .int .i64 xs.length, .slice (some ⟨ga, oa, none⟩) 0 0, .func (.func cg) #[] cl, .func (.func 58) #[] #[.pointer (some ⟨W.heap.size, 0, none⟩), .pointer (some ⟨W.heap.size + 1, 0, none⟩), .pointer (some ⟨W.heap.size + 2, 0, none⟩)], ntV x, x39, x40, x41, x42, x43, x44], defers := [] }) ?hAx ?hassign ?hbody ?hdone ?hstop
            case hAx =>
              exact fun x a' u X Y row h _ _ => h
            case hassign =>
              rintro l pre x W' K hi hK
              gi_wp2
              have hs8 := hi.choose_spec.2.2.2.2.2.size
              exact hK _ _ (KeepsFrom.refl _ _) (BelX.refl _ _ _) hi rfl
            case hbody =>
              rintro l pre x a' W' hl hr ⟨zs', r1, r2, r3, r4, r5, r6⟩ rfl hlt
              have c4 := r4.cell
              have c5 := r5.cell
              have f4 := r4.frozen
              obtain ⟨m, hm⟩ : ∃ m, k + pre.length = m := ⟨_, rfl⟩
              rw [hm] at c4 r3 r4
              have hml : m < xs.length := by omega
              have q6 : (m : Int) < (xs.length : Int) := by omega
              have fz0 := r1.frozen m
              have cz0 := r1.cell (i := m) (by omega)
              have HR1 := hide r1
              have HR3 := hide r3
              have HR4 := hide r4
              have HR5 := hide r5
              have HR6 := hide r6
              have HMM := hide hm
              clear r1 r3 r4 r5 r6 hm
              have HOI := hide (oiN_step ⟨zs', HR1.out, r2, by rw [HMM.out]; exact HR3.out, by rw [HMM.out]; exact HR4.out, HR5.out, HR6.out⟩ HMM.out hml (by omega) (by omega) (by omega) (x))
              gi_wp2
              exact ⟨HOI.out.2.2, HOI.out.2.1, HOI.out.1⟩
            case hdone =>
              rintro D ys W' hD rfl ⟨zs', r1, r2, r3, r4, r5, r6⟩ hK
              have hkE : k + ys.length = xs.length := by omega
              rw [hkE] at r3 r4
              have HX := hide (marks_more HDS.out hnd (fun F hF => (r6.block F (by have := (Array.getElem?_eq_some_iff.1 (HDS.out F hF).2).1; omega) (by have := (HDS.out F hF).1; omega)).trans (HK.out.block F (Array.getElem?_eq_some_iff.1 (HDS.out F hF).2).1)) hK (by omega) (show w.heap.size + 2 ≤ D by omega))
              have HBB := hide (HB8.out.trans (r6.mono (m := w.heap.size) (by omega) (fun j hj h => h.resolve_right (by omega))))
              have HDD := hide (show (dn ++ ys) ++ runs f s (xs.drop xs.length) = runs f s xs by rw [List.append_assoc, ← HNX.out, HDN.out])
              have c1 := HT.out.cell
              have c2 := r4.cell
              have R1 := hide r1
              have R3 := hide r3
              have R4 := hide r4
              have R5 := hide r5
              have CC := hide (And.intro c1 c2)
              clear r1 r3 r4 r5 r6 hK c1 c2
              go_wp2
              refine ⟨⟨xs.length, D :: Ds, dn ++ ys, zs', _, _, _, _, _, _, _, _, _, _, _, _, _, _, _, _, _, _, _, _, _, _, _, _, _, _, _, _, _, _, _, _, _, _, _, _, rfl, by omega, by rw [List.length_append]; omega, HDD.out, R1.out, r2, R3.out, R5.out, R4.out, HBB.out, HX.out.1, HX.out.2⟩, ?_⟩
              rw [CC.out.1, CC.out.2]
              simp [intOf]
              omega
            case hstop =>
              rintro D c pre W' hD hpx h hK
              exact h.elim
          · skip
            have K : Below W.heap.size W W.drew := (Below.refl _ _).drew
            have HT := hide bT
            have CF := hide (fun U (k' : Below W.heap.size W U) => (k'.cell (p := ⟨w.heap.size + 1, 0, none⟩) HT.out.lt).trans HT.out.cell)
            go_wp2
            first | go_region_held3 (fun u => u.cell? ⟨w.heap.size + 1, 0, none⟩ = some (.int .i64 k))
              (first | with_reducible exact CF.out _ K | go_keep)
              (first | (go_at_call 57; (with_reducible refine ntmerged_box.mono ?_); rintro e w8 ⟨rfl, b1, b2, b3, hb⟩; have KX := K; replace K := K.trans (hb.mono K.size); clear hb)) | fail "region"
            have hsz : W.heap.size + 3 ≤ w8.heap.size := by have := b3.lt; simp at this; omega
            have hwW := HB.out.size
            have hbtW := HT.out.lt
            have hB8 : BelX (fun k => k = gi) w.heap.size w w8 := HB.out.trans (BelX.of K hwW)
            have hrow8 : NtRow w8 gi zs := HROW.out.keep (K.block _ HROW.out.lt)
            have bI8 : Boxed w8 w.heap.size 61 (.slice (some ⟨gi, 0, none⟩) xs.length ci) := (K.block _ BI.out.lt).trans BI.out
            have bT8 : Boxed w8 (w.heap.size + 1) 3 (.int .i64 k) := (K.block _ HT.out.lt).trans HT.out
            have RA : NtRd (fun g => g < w8.heap.size ∧ ¬ (g = gi ∨ g = w.heap.size + 1)) w8 (.slice (some ⟨ga, oa + k, none⟩) (xs.length - k) (ca - k)) ((xs.drop k).take s) := sub_rdN IA.out hB8 ga1 ga2 ⟨by omega, by omega⟩ (run_al xs HM.out) (by omega) (by omega) (run_a xs HM.out) (by omega) (by unfold maxLen; omega)
            have RB : NtRd (fun g => g < w8.heap.size ∧ ¬ (g = gi ∨ g = w.heap.size + 1)) w8 (.slice (some ⟨ga, oa + xs.length, none⟩) 0 (ca - xs.length)) (((xs.drop k).drop s).take s) := nil_rdN (by omega) (List.eq_nil_of_length_eq_zero (by rw [run_bl xs HM.out HE.out]; omega)) (by unfold maxLen; omega)
            have hI8 := hide (HI.out w w8 HIw.out hB8)
            have hIm := hide (fun (U U' : World) (h : I U) (kk : BelX (fun k => k = gi ∨ k = w.heap.size + 1) w8.heap.size U U') => HI.out U U' h (kk.mono (m := w.heap.size) (by omega) (fun j hj h => h.resolve_right (by omega))))
            have hseq := ntmerged_stops (n := 3) (X := (fun k => k = gi ∨ k = w.heap.size + 1)) (n₀ := w8.heap.size) (by omega) b1 b2 b3 ⟨by have := b1.lt; simpa using this, by simp; omega⟩ ⟨by have := b2.lt; simpa using this, by simp; omega⟩ ⟨by have := b3.lt; simpa using this, by simp; omega⟩ RA RB HCC.out hI8.out hIm.out (Nat.le_refl _) (by rw [run_al xs HM.out]; omega) (by rw [run_bl xs HM.out HE.out]; omega) (fun x hx => HXM.out x (List.mem_of_mem_drop (List.mem_of_mem_take hx))) (fun x hx => HXM.out x (List.mem_of_mem_drop (List.mem_of_mem_drop (List.mem_of_mem_take hx))))
            obtain ⟨Z, hZ⟩ : ∃ Z, mrg f ((xs.drop k).take s) (((xs.drop k).drop s).take s) = Z := ⟨_, rfl⟩
            have hZl : Z.length = xs.length - k := by rw [← hZ, mrg_len, run_al xs HM.out, run_bl xs HM.out HE.out]; omega
            have hN : ((xs.drop k).take s).length + (((xs.drop k).drop s).take s).length = xs.length - k := by rw [run_al xs HM.out, run_bl xs HM.out HE.out]; omega
            have hnx := run_next f hs hkl HM.out HE.out
            rw [hZ, hN] at hseq
            rw [hZ] at hnx
            have HSEQ := hide hseq
            have HNX := hide hnx
            have HK := hide K
            have HB8 := hide hB8
            clear hseq hnx K hB8 RA RB hZ hN b1 b2 b3 hI8 hIm CF KX
            have hgi8 : gi < w8.heap.size := by omega
            have hbt8 : w.heap.size + 1 < w8.heap.size := by omega
            have hbi8 : w.heap.size < w8.heap.size := by omega
            go_wp2_with fail
            refine (wpIn_wide (n := 4)).1 ?_
            refine' wpIn_rangeFunc_ownH rfl (by omega) (gf := 58) (lb := #[.pointer (some ⟨W.heap.size, 0, none⟩), .pointer (some ⟨W.heap.size + 1, 0, none⟩), .pointer (some ⟨W.heap.size + 2, 0, none⟩)]) (by simp [go_sem]) trivial (enters_of Try.func58 (by kernel_rfl) rfl)
              HSEQ.out BelX.trans (fun W l o o' hl _ _ _ => belx_putObj o' hl) (Below.refl _ _) (fun _ => rfl)
              (fun pre W' => OIN gi (w.heap.size + 1) w.heap.size ci xs.length k dn w8 pre W')
              (fun _ _ _ => False) (oiN_own (by omega) (by omega) (by omega)) (fun _ _ _ _ _ hs _ _ => hs) (oiN_start hrow8 hzl HZT.out bT8 bI8)
              (fun x a' _ => a' = { tmps := #[.slice (some ⟨gi, 0, none⟩) xs.length ci, .slice (some ⟨ga, oa, none⟩) xs.length ca, .int .i64 s, .func (.func cg) #[] cl, .pointer (some ⟨w.heap.size, 0, none⟩), undef, undef, undef, .pointer (some ⟨w.heap.size + 1, 0, none⟩), .int .i64 xs.length, .int .i64 xs.length, ntV x, .int .i64 k, .slice (some ⟨ga, oa, none⟩) xs.length ca, .int .i64 xs.length, .bool true, .int .i64 k, .int .i64 s, .int .i64 (xs.length), .slice (some ⟨ga, oa, none⟩) xs.length ca, .int .i64 xs.length, .int .i64 xs.length, .int .i64 xs.length, .int .i64 s, .int .i64 ((xs.length : Int) + (s : Int)), .slice (some ⟨ga, oa, none⟩) xs.length ca, .int .i64 xs.length, .int .i64 xs.length, .slice (some ⟨ga, oa, none⟩) xs.length ca, .int .i64 k, .int .i64 xs.length, .slice (some ⟨ga, oa + k, none⟩) (xs.length - k) (ca - k), .slice (some ⟨ga, oa, none⟩) xs.length ca, .int .i64 xs.length, .int .i64 xs.length, .slice (some ⟨ga, oa + xs.length, none⟩) 0 (ca - xs.length), .func (.func cg) #[] cl, .func (.func 58) #[] #[.pointer (some ⟨W.heap.size, 0, none⟩), .pointer (some ⟨W.heap.size + 1, 0, none⟩), .pointer (some ⟨W.heap.size + 2, 0, none⟩)], ntV x, x39, x40, x41, x42, x43, x44], defers := [] }) ?hAx ?hassign ?hbody ?hdone ?hstop
            case hAx =>
              exact fun x a' u X Y row h _ _ => h
            case hassign =>
              rintro l pre x W' K hi hK
              gi_wp2
              have hs8 := hi.choose_spec.2.2.2.2.2.size
              exact hK _ _ (KeepsFrom.refl _ _) (BelX.refl _ _ _) hi rfl
            case hbody =>
              rintro l pre x a' W' hl hr ⟨zs', r1, r2, r3, r4, r5, r6⟩ rfl hlt
              have c4 := r4.cell
              have c5 := r5.cell
              have f4 := r4.frozen
              obtain ⟨m, hm⟩ : ∃ m, k + pre.length = m := ⟨_, rfl⟩
              rw [hm] at c4 r3 r4
              have hml : m < xs.length := by omega
              have q6 : (m : Int) < (xs.length : Int) := by omega
              have fz0 := r1.frozen m
              have cz0 := r1.cell (i := m) (by omega)
              have HR1 := hide r1
              have HR3 := hide r3
              have HR4 := hide r4
              have HR5 := hide r5
              have HR6 := hide r6
              have HMM := hide hm
              clear r1 r3 r4 r5 r6 hm
              have HOI := hide (oiN_step ⟨zs', HR1.out, r2, by rw [HMM.out]; exact HR3.out, by rw [HMM.out]; exact HR4.out, HR5.out, HR6.out⟩ HMM.out hml (by omega) (by omega) (by omega) (x))
              gi_wp2
              exact ⟨HOI.out.2.2, HOI.out.2.1, HOI.out.1⟩
            case hdone =>
              rintro D ys W' hD rfl ⟨zs', r1, r2, r3, r4, r5, r6⟩ hK
              have hkE : k + ys.length = xs.length := by omega
              rw [hkE] at r3 r4
              have HX := hide (marks_more HDS.out hnd (fun F hF => (r6.block F (by have := (Array.getElem?_eq_some_iff.1 (HDS.out F hF).2).1; omega) (by have := (HDS.out F hF).1; omega)).trans (HK.out.block F (Array.getElem?_eq_some_iff.1 (HDS.out F hF).2).1)) hK (by omega) (show w.heap.size + 2 ≤ D by omega))
              have HBB := hide (HB8.out.trans (r6.mono (m := w.heap.size) (by omega) (fun j hj h => h.resolve_right (by omega))))
              have HDD := hide (show (dn ++ ys) ++ runs f s (xs.drop xs.length) = runs f s xs by rw [List.append_assoc, ← HNX.out, HDN.out])
              have c1 := HT.out.cell
              have c2 := r4.cell
              have R1 := hide r1
              have R3 := hide r3
              have R4 := hide r4
              have R5 := hide r5
              have CC := hide (And.intro c1 c2)
              clear r1 r3 r4 r5 r6 hK c1 c2
              go_wp2
              refine ⟨⟨xs.length, D :: Ds, dn ++ ys, zs', _, _, _, _, _, _, _, _, _, _, _, _, _, _, _, _, _, _, _, _, _, _, _, _, _, _, _, _, _, _, _, _, _, _, _, _, rfl, by omega, by rw [List.length_append]; omega, HDD.out, R1.out, r2, R3.out, R5.out, R4.out, HBB.out, HX.out.1, HX.out.2⟩, ?_⟩
              rw [CC.out.1, CC.out.2]
              simp [intOf]
              omega
            case hstop =>
              rintro D c pre W' hD hpx h hK
              exact h.elim
        · have q2 : ¬ (k : Int) + (s : Int) ≤ (xs.length : Int) := by omega
          clear h3
          by_cases n4 : ca = xs.length
          · subst n4
            have K : Below W.heap.size W W.drew := (Below.refl _ _).drew
            have HT := hide bT
            have CF := hide (fun U (k' : Below W.heap.size W U) => (k'.cell (p := ⟨w.heap.size + 1, 0, none⟩) HT.out.lt).trans HT.out.cell)
            go_wp2
            first | go_region_held3 (fun u => u.cell? ⟨w.heap.size + 1, 0, none⟩ = some (.int .i64 k))
              (first | with_reducible exact CF.out _ K | go_keep)
              (first | (go_at_call 57; (with_reducible refine ntmerged_box.mono ?_); rintro e w8 ⟨rfl, b1, b2, b3, hb⟩; have KX := K; replace K := K.trans (hb.mono K.size); clear hb)) | fail "region"
            have hsz : W.heap.size + 3 ≤ w8.heap.size := by have := b3.lt; simp at this; omega
            have hwW := HB.out.size
            have hbtW := HT.out.lt
            have hB8 : BelX (fun k => k = gi) w.heap.size w w8 := HB.out.trans (BelX.of K hwW)
            have hrow8 : NtRow w8 gi zs := HROW.out.keep (K.block _ HROW.out.lt)
            have bI8 : Boxed w8 w.heap.size 61 (.slice (some ⟨gi, 0, none⟩) xs.length ci) := (K.block _ BI.out.lt).trans BI.out
            have bT8 : Boxed w8 (w.heap.size + 1) 3 (.int .i64 k) := (K.block _ HT.out.lt).trans HT.out
            have RA : NtRd (fun g => g < w8.heap.size ∧ ¬ (g = gi ∨ g = w.heap.size + 1)) w8 (.slice (some ⟨ga, oa + k, none⟩) (xs.length - k) (xs.length - k)) ((xs.drop k).take s) := sub_rdN IA.out hB8 ga1 ga2 ⟨by omega, by omega⟩ (run_al xs HM.out) (by omega) (by omega) (run_a xs HM.out) (by omega) (by unfold maxLen; omega)
            have RB : NtRd (fun g => g < w8.heap.size ∧ ¬ (g = gi ∨ g = w.heap.size + 1)) w8 (.slice (some ⟨ga, oa, none⟩) 0 0) (((xs.drop k).drop s).take s) := nil_rdN (by omega) (List.eq_nil_of_length_eq_zero (by rw [run_bl xs HM.out HE.out]; omega)) (by unfold maxLen; omega)
            have hI8 := hide (HI.out w w8 HIw.out hB8)
            have hIm := hide (fun (U U' : World) (h : I U) (kk : BelX (fun k => k = gi ∨ k = w.heap.size + 1) w8.heap.size U U') => HI.out U U' h (kk.mono (m := w.heap.size) (by omega) (fun j hj h => h.resolve_right (by omega))))
            have hseq := ntmerged_stops (n := 3) (X := (fun k => k = gi ∨ k = w.heap.size + 1)) (n₀ := w8.heap.size) (by omega) b1 b2 b3 ⟨by have := b1.lt; simpa using this, by simp; omega⟩ ⟨by have := b2.lt; simpa using this, by simp; omega⟩ ⟨by have := b3.lt; simpa using this, by simp; omega⟩ RA RB HCC.out hI8.out hIm.out (Nat.le_refl _) (by rw [run_al xs HM.out]; omega) (by rw [run_bl xs HM.out HE.out]; omega) (fun x hx => HXM.out x (List.mem_of_mem_drop (List.mem_of_mem_take hx))) (fun x hx => HXM.out x (List.mem_of_mem_drop (List.mem_of_mem_drop (List.mem_of_mem_take hx))))
            obtain ⟨Z, hZ⟩ : ∃ Z, mrg f ((xs.drop k).take s) (((xs.drop k).drop s).take s) = Z := ⟨_, rfl⟩
            have hZl : Z.length = xs.length - k := by rw [← hZ, mrg_len, run_al xs HM.out, run_bl xs HM.out HE.out]; omega
            have hN : ((xs.drop k).take s).length + (((xs.drop k).drop s).take s).length = xs.length - k := by rw [run_al xs HM.out, run_bl xs HM.out HE.out]; omega
            have hnx := run_next f hs hkl HM.out HE.out
            rw [hZ, hN] at hseq
            rw [hZ] at hnx
            have HSEQ := hide hseq
            have HNX := hide hnx
            have HK := hide K
            have HB8 := hide hB8
            clear hseq hnx K hB8 RA RB hZ hN b1 b2 b3 hI8 hIm CF KX
            have hgi8 : gi < w8.heap.size := by omega
            have hbt8 : w.heap.size + 1 < w8.heap.size := by omega
            have hbi8 : w.heap.size < w8.heap.size := by omega
            go_wp2_with fail
            refine (wpIn_wide (n := 4)).1 ?_
            refine' wpIn_rangeFunc_ownH rfl (by omega) (gf := 58) (lb := #[.pointer (some ⟨W.heap.size, 0, none⟩), .pointer (some ⟨W.heap.size + 1, 0, none⟩), .pointer (some ⟨W.heap.size + 2, 0, none⟩)]) (by simp [go_sem]) trivial (enters_of Try.func58 (by kernel_rfl) rfl)
              HSEQ.out BelX.trans (fun W l o o' hl _ _ _ => belx_putObj o' hl) (Below.refl _ _) (fun _ => rfl)
              (fun pre W' => OIN gi (w.heap.size + 1) w.heap.size ci xs.length k dn w8 pre W')
              (fun _ _ _ => False) (oiN_own (by omega) (by omega) (by omega)) (fun _ _ _ _ _ hs _ _ => hs) (oiN_start hrow8 hzl HZT.out bT8 bI8)
              (fun x a' _ => a' = { tmps := #[.slice (some ⟨gi, 0, none⟩) xs.length ci, .slice (some ⟨ga, oa, none⟩) xs.length xs.length, .int .i64 s, .func (.func cg) #[] cl, .pointer (some ⟨w.heap.size, 0, none⟩), undef, undef, undef, .pointer (some ⟨w.heap.size + 1, 0, none⟩), .int .i64 xs.length, .int .i64 xs.length, ntV x, .int .i64 k, .slice (some ⟨ga, oa, none⟩) xs.length xs.length, .int .i64 xs.length, .bool true, .int .i64 k, .int .i64 s, .int .i64 ((k : Int) + (s : Int)), .slice (some ⟨ga, oa, none⟩) xs.length xs.length, .int .i64 xs.length, .int .i64 xs.length, .int .i64 xs.length, .int .i64 s, .int .i64 ((xs.length : Int) + (s : Int)), .slice (some ⟨ga, oa, none⟩) xs.length xs.length, .int .i64 xs.length, .int .i64 xs.length, .slice (some ⟨ga, oa, none⟩) xs.length xs.length, .int .i64 k, .int .i64 xs.length, .slice (some ⟨ga, oa + k, none⟩) (xs.length - k) (xs.length - k), .slice (some ⟨ga, oa, none⟩) xs.length xs.length, .int .i64 xs.length, .int .i64 xs.length, .slice (some ⟨ga, oa, none⟩) 0 0, .func (.func cg) #[] cl, .func (.func 58) #[] #[.pointer (some ⟨W.heap.size, 0, none⟩), .pointer (some ⟨W.heap.size + 1, 0, none⟩), .pointer (some ⟨W.heap.size + 2, 0, none⟩)], ntV x, x39, x40, x41, x42, x43, x44], defers := [] }) ?hAx ?hassign ?hbody ?hdone ?hstop
            case hAx =>
              exact fun x a' u X Y row h _ _ => h
            case hassign =>
              rintro l pre x W' K hi hK
              gi_wp2
              have hs8 := hi.choose_spec.2.2.2.2.2.size
              exact hK _ _ (KeepsFrom.refl _ _) (BelX.refl _ _ _) hi rfl
            case hbody =>
              rintro l pre x a' W' hl hr ⟨zs', r1, r2, r3, r4, r5, r6⟩ rfl hlt
              have c4 := r4.cell
              have c5 := r5.cell
              have f4 := r4.frozen
              obtain ⟨m, hm⟩ : ∃ m, k + pre.length = m := ⟨_, rfl⟩
              rw [hm] at c4 r3 r4
              have hml : m < xs.length := by omega
              have q6 : (m : Int) < (xs.length : Int) := by omega
              have fz0 := r1.frozen m
              have cz0 := r1.cell (i := m) (by omega)
              have HR1 := hide r1
              have HR3 := hide r3
              have HR4 := hide r4
              have HR5 := hide r5
              have HR6 := hide r6
              have HMM := hide hm
              clear r1 r3 r4 r5 r6 hm
              have HOI := hide (oiN_step ⟨zs', HR1.out, r2, by rw [HMM.out]; exact HR3.out, by rw [HMM.out]; exact HR4.out, HR5.out, HR6.out⟩ HMM.out hml (by omega) (by omega) (by omega) (x))
              gi_wp2
              exact ⟨HOI.out.2.2, HOI.out.2.1, HOI.out.1⟩
            case hdone =>
              rintro D ys W' hD rfl ⟨zs', r1, r2, r3, r4, r5, r6⟩ hK
              have hkE : k + ys.length = xs.length := by omega
              rw [hkE] at r3 r4
              have HX := hide (marks_more HDS.out hnd (fun F hF => (r6.block F (by have := (Array.getElem?_eq_some_iff.1 (HDS.out F hF).2).1; omega) (by have := (HDS.out F hF).1; omega)).trans (HK.out.block F (Array.getElem?_eq_some_iff.1 (HDS.out F hF).2).1)) hK (by omega) (show w.heap.size + 2 ≤ D by omega))
              have HBB := hide (HB8.out.trans (r6.mono (m := w.heap.size) (by omega) (fun j hj h => h.resolve_right (by omega))))
              have HDD := hide (show (dn ++ ys) ++ runs f s (xs.drop xs.length) = runs f s xs by rw [List.append_assoc, ← HNX.out, HDN.out])
              have c1 := HT.out.cell
              have c2 := r4.cell
              have R1 := hide r1
              have R3 := hide r3
              have R4 := hide r4
              have R5 := hide r5
              have CC := hide (And.intro c1 c2)
              clear r1 r3 r4 r5 r6 hK c1 c2
              go_wp2
              refine ⟨⟨xs.length, D :: Ds, dn ++ ys, zs', _, _, _, _, _, _, _, _, _, _, _, _, _, _, _, _, _, _, _, _, _, _, _, _, _, _, _, _, _, _, _, _, _, _, _, _, rfl, by omega, by rw [List.length_append]; omega, HDD.out, R1.out, r2, R3.out, R5.out, R4.out, HBB.out, HX.out.1, HX.out.2⟩, ?_⟩
              rw [CC.out.1, CC.out.2]
              simp [intOf]
              omega
            case hstop =>
              rintro D c pre W' hD hpx h hK
              exact h.elim
          · skip
            have K : Below W.heap.size W W.drew := (Below.refl _ _).drew
            have HT := hide bT
            have CF := hide (fun U (k' : Below W.heap.size W U) => (k'.cell (p := ⟨w.heap.size + 1, 0, none⟩) HT.out.lt).trans HT.out.cell)
            go_wp2
            first | go_region_held3 (fun u => u.cell? ⟨w.heap.size + 1, 0, none⟩ = some (.int .i64 k))
              (first | with_reducible exact CF.out _ K | go_keep)
              (first | (go_at_call 57; (with_reducible refine ntmerged_box.mono ?_); rintro e w8 ⟨rfl, b1, b2, b3, hb⟩; have KX := K; replace K := K.trans (hb.mono K.size); clear hb)) | fail "region"
            have hsz : W.heap.size + 3 ≤ w8.heap.size := by have := b3.lt; simp at this; omega
            have hwW := HB.out.size
            have hbtW := HT.out.lt
            have hB8 : BelX (fun k => k = gi) w.heap.size w w8 := HB.out.trans (BelX.of K hwW)
            have hrow8 : NtRow w8 gi zs := HROW.out.keep (K.block _ HROW.out.lt)
            have bI8 : Boxed w8 w.heap.size 61 (.slice (some ⟨gi, 0, none⟩) xs.length ci) := (K.block _ BI.out.lt).trans BI.out
            have bT8 : Boxed w8 (w.heap.size + 1) 3 (.int .i64 k) := (K.block _ HT.out.lt).trans HT.out
            have RA : NtRd (fun g => g < w8.heap.size ∧ ¬ (g = gi ∨ g = w.heap.size + 1)) w8 (.slice (some ⟨ga, oa + k, none⟩) (xs.length - k) (ca - k)) ((xs.drop k).take s) := sub_rdN IA.out hB8 ga1 ga2 ⟨by omega, by omega⟩ (run_al xs HM.out) (by omega) (by omega) (run_a xs HM.out) (by omega) (by unfold maxLen; omega)
            have RB : NtRd (fun g => g < w8.heap.size ∧ ¬ (g = gi ∨ g = w.heap.size + 1)) w8 (.slice (some ⟨ga, oa + xs.length, none⟩) 0 (ca - xs.length)) (((xs.drop k).drop s).take s) := nil_rdN (by omega) (List.eq_nil_of_length_eq_zero (by rw [run_bl xs HM.out HE.out]; omega)) (by unfold maxLen; omega)
            have hI8 := hide (HI.out w w8 HIw.out hB8)
            have hIm := hide (fun (U U' : World) (h : I U) (kk : BelX (fun k => k = gi ∨ k = w.heap.size + 1) w8.heap.size U U') => HI.out U U' h (kk.mono (m := w.heap.size) (by omega) (fun j hj h => h.resolve_right (by omega))))
            have hseq := ntmerged_stops (n := 3) (X := (fun k => k = gi ∨ k = w.heap.size + 1)) (n₀ := w8.heap.size) (by omega) b1 b2 b3 ⟨by have := b1.lt; simpa using this, by simp; omega⟩ ⟨by have := b2.lt; simpa using this, by simp; omega⟩ ⟨by have := b3.lt; simpa using this, by simp; omega⟩ RA RB HCC.out hI8.out hIm.out (Nat.le_refl _) (by rw [run_al xs HM.out]; omega) (by rw [run_bl xs HM.out HE.out]; omega) (fun x hx => HXM.out x (List.mem_of_mem_drop (List.mem_of_mem_take hx))) (fun x hx => HXM.out x (List.mem_of_mem_drop (List.mem_of_mem_drop (List.mem_of_mem_take hx))))
            obtain ⟨Z, hZ⟩ : ∃ Z, mrg f ((xs.drop k).take s) (((xs.drop k).drop s).take s) = Z := ⟨_, rfl⟩
            have hZl : Z.length = xs.length - k := by rw [← hZ, mrg_len, run_al xs HM.out, run_bl xs HM.out HE.out]; omega
            have hN : ((xs.drop k).take s).length + (((xs.drop k).drop s).take s).length = xs.length - k := by rw [run_al xs HM.out, run_bl xs HM.out HE.out]; omega
            have hnx := run_next f hs hkl HM.out HE.out
            rw [hZ, hN] at hseq
            rw [hZ] at hnx
            have HSEQ := hide hseq
            have HNX := hide hnx
            have HK := hide K
            have HB8 := hide hB8
            clear hseq hnx K hB8 RA RB hZ hN b1 b2 b3 hI8 hIm CF KX
            have hgi8 : gi < w8.heap.size := by omega
            have hbt8 : w.heap.size + 1 < w8.heap.size := by omega
            have hbi8 : w.heap.size < w8.heap.size := by omega
            go_wp2_with fail
            refine (wpIn_wide (n := 4)).1 ?_
            refine' wpIn_rangeFunc_ownH rfl (by omega) (gf := 58) (lb := #[.pointer (some ⟨W.heap.size, 0, none⟩), .pointer (some ⟨W.heap.size + 1, 0, none⟩), .pointer (some ⟨W.heap.size + 2, 0, none⟩)]) (by simp [go_sem]) trivial (enters_of Try.func58 (by kernel_rfl) rfl)
              HSEQ.out BelX.trans (fun W l o o' hl _ _ _ => belx_putObj o' hl) (Below.refl _ _) (fun _ => rfl)
              (fun pre W' => OIN gi (w.heap.size + 1) w.heap.size ci xs.length k dn w8 pre W')
              (fun _ _ _ => False) (oiN_own (by omega) (by omega) (by omega)) (fun _ _ _ _ _ hs _ _ => hs) (oiN_start hrow8 hzl HZT.out bT8 bI8)
              (fun x a' _ => a' = { tmps := #[.slice (some ⟨gi, 0, none⟩) xs.length ci, .slice (some ⟨ga, oa, none⟩) xs.length ca, .int .i64 s, .func (.func cg) #[] cl, .pointer (some ⟨w.heap.size, 0, none⟩), undef, undef, undef, .pointer (some ⟨w.heap.size + 1, 0, none⟩), .int .i64 xs.length, .int .i64 xs.length, ntV x, .int .i64 k, .slice (some ⟨ga, oa, none⟩) xs.length ca, .int .i64 xs.length, .bool true, .int .i64 k, .int .i64 s, .int .i64 ((k : Int) + (s : Int)), .slice (some ⟨ga, oa, none⟩) xs.length ca, .int .i64 xs.length, .int .i64 xs.length, .int .i64 xs.length, .int .i64 s, .int .i64 ((xs.length : Int) + (s : Int)), .slice (some ⟨ga, oa, none⟩) xs.length ca, .int .i64 xs.length, .int .i64 xs.length, .slice (some ⟨ga, oa, none⟩) xs.length ca, .int .i64 k, .int .i64 xs.length, .slice (some ⟨ga, oa + k, none⟩) (xs.length - k) (ca - k), .slice (some ⟨ga, oa, none⟩) xs.length ca, .int .i64 xs.length, .int .i64 xs.length, .slice (some ⟨ga, oa + xs.length, none⟩) 0 (ca - xs.length), .func (.func cg) #[] cl, .func (.func 58) #[] #[.pointer (some ⟨W.heap.size, 0, none⟩), .pointer (some ⟨W.heap.size + 1, 0, none⟩), .pointer (some ⟨W.heap.size + 2, 0, none⟩)], ntV x, x39, x40, x41, x42, x43, x44], defers := [] }) ?hAx ?hassign ?hbody ?hdone ?hstop
            case hAx =>
              exact fun x a' u X Y row h _ _ => h
            case hassign =>
              rintro l pre x W' K hi hK
              gi_wp2
              have hs8 := hi.choose_spec.2.2.2.2.2.size
              exact hK _ _ (KeepsFrom.refl _ _) (BelX.refl _ _ _) hi rfl
            case hbody =>
              rintro l pre x a' W' hl hr ⟨zs', r1, r2, r3, r4, r5, r6⟩ rfl hlt
              have c4 := r4.cell
              have c5 := r5.cell
              have f4 := r4.frozen
              obtain ⟨m, hm⟩ : ∃ m, k + pre.length = m := ⟨_, rfl⟩
              rw [hm] at c4 r3 r4
              have hml : m < xs.length := by omega
              have q6 : (m : Int) < (xs.length : Int) := by omega
              have fz0 := r1.frozen m
              have cz0 := r1.cell (i := m) (by omega)
              have HR1 := hide r1
              have HR3 := hide r3
              have HR4 := hide r4
              have HR5 := hide r5
              have HR6 := hide r6
              have HMM := hide hm
              clear r1 r3 r4 r5 r6 hm
              have HOI := hide (oiN_step ⟨zs', HR1.out, r2, by rw [HMM.out]; exact HR3.out, by rw [HMM.out]; exact HR4.out, HR5.out, HR6.out⟩ HMM.out hml (by omega) (by omega) (by omega) (x))
              gi_wp2
              exact ⟨HOI.out.2.2, HOI.out.2.1, HOI.out.1⟩
            case hdone =>
              rintro D ys W' hD rfl ⟨zs', r1, r2, r3, r4, r5, r6⟩ hK
              have hkE : k + ys.length = xs.length := by omega
              rw [hkE] at r3 r4
              have HX := hide (marks_more HDS.out hnd (fun F hF => (r6.block F (by have := (Array.getElem?_eq_some_iff.1 (HDS.out F hF).2).1; omega) (by have := (HDS.out F hF).1; omega)).trans (HK.out.block F (Array.getElem?_eq_some_iff.1 (HDS.out F hF).2).1)) hK (by omega) (show w.heap.size + 2 ≤ D by omega))
              have HBB := hide (HB8.out.trans (r6.mono (m := w.heap.size) (by omega) (fun j hj h => h.resolve_right (by omega))))
              have HDD := hide (show (dn ++ ys) ++ runs f s (xs.drop xs.length) = runs f s xs by rw [List.append_assoc, ← HNX.out, HDN.out])
              have c1 := HT.out.cell
              have c2 := r4.cell
              have R1 := hide r1
              have R3 := hide r3
              have R4 := hide r4
              have R5 := hide r5
              have CC := hide (And.intro c1 c2)
              clear r1 r3 r4 r5 r6 hK c1 c2
              go_wp2
              refine ⟨⟨xs.length, D :: Ds, dn ++ ys, zs', _, _, _, _, _, _, _, _, _, _, _, _, _, _, _, _, _, _, _, _, _, _, _, _, _, _, _, _, _, _, _, _, _, _, _, _, rfl, by omega, by rw [List.length_append]; omega, HDD.out, R1.out, r2, R3.out, R5.out, R4.out, HBB.out, HX.out.1, HX.out.2⟩, ?_⟩
              rw [CC.out.1, CC.out.2]
              simp [intOf]
              omega
            case hstop =>
              rintro D c pre W' hD hpx h hK
              exact h.elim
    · obtain rfl : k = xs.length := by omega
      have hzz : zs = runs f s xs := by rw [← hdn, ← hzt, List.drop_length, runs_nil, List.append_nil, ← hzl, List.take_length]
      go_wp2
      refine marks_leave (A := w.heap.size + 2) (Inv := fun u => NtRow u gi zs ∧ BelX (fun k => k = gi) w.heap.size w u) ?_ ?_ Ds _ hDs hnd ⟨hrow, hB⟩
      · rintro u D ⟨i1, i2⟩ hD hu
        exact ⟨i1.keep (World.putObj_heap_other (fun e => by omega)), i2.trans (belx_putObj _ (by omega))⟩
      · rintro u ⟨i1, i2⟩
        exact ⟨_, results_none rfl _ _ _, rfl, by rw [← hzz]; exact i1, i2⟩

end Go.Proofs.Ytomieeajmelglaa
