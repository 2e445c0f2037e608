/- order.Unique: the walk -/
import Derived.Test.YtomieeajmelglaaOUnq
namespace Go.Proofs.Ytomieeajmelglaa
open Go.RowKit Go.Shelf
set_option linter.unusedVariables false
set_option linter.unusedSimpArgs false
attribute [local go_sem] Oper.semAt_some

theorem opIn_append {F : Fence} {n : Nat} {o : Oper} {a : Act} {w w' : World} {K : Act → World → Prop} {Q : Exit → Act → World → Prop} (s x : Operand) (hop : o.op = .call { callee := .builtin .append, args := #[s, x], argTypes := #[22, 22] })
    {v va v' : Value} (hs : a.eval s = v) (hx : a.eval x = va) (hrun : (Builtin.append_ #[22, 22] o.type #[v, va]).run Try.prog w = .ok v' w') (h : K (a.put o.dst v') w') : Oper.wpIn F n Try.prog o a w K Q := by
  unfold Oper.wpIn
  refine ⟨by simp [Oper.about, hop, resolve, Target.leads, Sem.run_pure], ?_⟩
  rw [Oper.semAt_plain F _ _ (by rw [hop]; intro c hc'; cases hc')]
  simp [execOp, hop, resolve, invoke, builtin, hs, hx, hrun, Result.andThen]
  exact h
theorem op_append {o : Oper} {a : Act} {w w' : World} {K : Act → World → Prop} {Q : Exit → Act → World → Prop} (s x : Operand) (hop : o.op = .call { callee := .builtin .append, args := #[s, x], argTypes := #[22, 22] })
    {v va v' : Value} (hs : a.eval s = v) (hx : a.eval x = va) (hrun : (Builtin.append_ #[22, 22] o.type #[v, va]).run Try.prog w = .ok v' w') (h : K (a.put o.dst v') w') : Oper.wp Try.prog o a w K Q := by
  unfold Oper.wp
  simp [execOp, hop, resolve, invoke, builtin, hs, hx, hrun, Result.andThen]
  exact h
theorem wp_np {P : Program} {c : Code} {Q : Exit → Act → World → Prop} {a : Act} {w : World} (h : c.wp P (fun e a w => e = .normal ∧ Q .normal a w) a w) : c.wp P Q a w := Code.wp_mono (fun e a w ⟨h1, h2⟩ => by subst h1; exact h2) h
theorem owns_put {u : World} {base e n D : Nat} {v : Value} {xs : List Value} {o o' : Obj} (h : u.ownsRow base e 2 v n xs) (hu : u.heap[D]? = some o) (ho : o.isCells = false) : (u.putObj D o').ownsRow base e 2 v n xs := by
  obtain ⟨h0, h1 | ⟨g, cap, cur, h1, h2, h3, h4⟩⟩ := h
  · exact ⟨h0, .inl h1⟩
  · refine ⟨h0, .inr ⟨g, cap, cur, h1, h2, (World.putObj_heap_other (fun e => ?_)).trans h3, h4⟩⟩
    subst e
    rw [h3] at hu
    cases hu
    cases ho
theorem owns_base {u : World} {b base e n : Nat} {v : Value} {xs : List Value} (hb : b ≤ base) (h : u.ownsRow base e 2 v n xs) : u.ownsRow b e 2 v n xs := by
  obtain ⟨h0, h1 | ⟨g, cap, cur, h1, h2, h3, h4⟩⟩ := h
  · exact ⟨h0, .inl h1⟩
  · exact ⟨h0, .inr ⟨g, cap, cur, h1, Nat.le_trans hb h2, h3, h4⟩⟩
set_option maxRecDepth 100000 in
set_option maxHeartbeats 8000000 in
theorem unique_any {w : World} {va cv : Value} {xs : List It} {f : It → It → Int} {I : World → Prop} (ha : ItRd (fun _ => True) w va xs) (hno : ∀ c, va = .slice none 0 c → c = 0) (hl : xs.length ≤ 8796093022200)
    (hc : CmpIs I cv f) (hIw : I w) (hI : ∀ W W', I W → Below w.heap.size W W' → I W') :
    Calls Try.prog 17 #[va, cv] w fun e w' => (∃ v, e = .returned v ∧ w'.ownsRow w.heap.size 27 2 v (unq f xs).length (flat (unq f xs))) ∧ Below w.heap.size w w' := by
  obtain ⟨Z, hZ⟩ : ∃ Z, unq f xs = Z := ⟨_, rfl⟩
  rw [hZ]
  have HZ := hide hZ
  clear hZ
  have hcc := hc
  obtain ⟨cg, cl, rfl, eg, hcall⟩ := hc.val
  have HA := hide ha
  obtain ⟨ao, ca, rfl, hac, ham, -⟩ := ha
  have NO := hide hno
  have HCC := hide hcc
  have HIw := hide hIw
  have HI := hide hI
  unfold maxLen at ham
  have hfn : ∀ (w : World) f a c, (binOp .eql 28 (.func f a c) .nilFunc).run Try.prog w = .ok (.bool false) w := ofunc_nil itdesc
  obtain ⟨W3, hW3⟩ : ∃ u, ((w.alloc (.cells #[.slice ao xs.length ca] 22)).alloc (.cells #[.slice none 0 0] 22)).alloc (.cells #[.int .i64 0] 3) = u := ⟨_, rfl⟩
  have K3 : Below w.heap.size w W3 := by rw [← hW3]; exact (((Below.refl _ w).alloc (Nat.le_refl _) _).alloc (by simp) _).alloc (by simp; omega) _
  have bL : Boxed W3 w.heap.size 22 (.slice ao xs.length ca) := by rw [← hW3]; exact ((Boxed.new _ _ _).alloc _).alloc _
  have bO : Boxed W3 (w.heap.size + 1) 22 (.slice none 0 0) := by
    rw [← hW3]
    have := (Boxed.new (w.alloc (.cells #[.slice ao xs.length ca] 22)) 22 (.slice none 0 0)).alloc (.cells #[.int .i64 0] 3)
    simpa using this
  have bN : Boxed W3 (w.heap.size + 1 + 1) 3 (.int .i64 0) := by
    rw [← hW3]
    have := Boxed.new ((w.alloc (.cells #[.slice ao xs.length ca] 22)).alloc (.cells #[.slice none 0 0] 22)) 3 (.int .i64 0)
    simpa using this
  have s3 : w.heap.size + 2 < W3.heap.size := bN.lt
  have HW3 := hide hW3
  clear hcc hc hcall hIw hI hno hW3
  refine (callsIn_wide (n := 4)).1 ?_
  refine callsIn_of_wp_marks Try.func17 rfl trivial ?_ rfl
  simp only [Try.ntmps17, List.size_toArray, List.length_cons, List.length_nil, Nat.reduceAdd, Nat.reduceSub, Array.replicate_succ, Array.replicate_zero, List.push_toArray, List.append_toArray, List.nil_append, List.cons_append]
  refine wpIn_wide.2 ?_
  go_wp2_with fail
  rw [HW3.out]
  refine itrep_box.mono ?_
  rintro e w8 ⟨rfl, b1, b2, hb8⟩
  have s8 : W3.heap.size + 1 < w8.heap.size := b2.lt
  have h82 : w.heap.size + 2 < w8.heap.size := by omega
  have K8 : Hid (Below w.heap.size w w8) := hide (K3.trans (hb8.mono K3.size))
  have BL : Hid (Boxed w8 w.heap.size 22 (.slice ao xs.length ca)) := hide ((hb8.block _ bL.lt).trans bL)
  have BO : Hid (Boxed w8 (w.heap.size + 1) 22 (.slice none 0 0)) := hide ((hb8.block _ bO.lt).trans bO)
  have BN : Hid (Boxed w8 (w.heap.size + 1 + 1) 3 (.int .i64 0)) := hide ((hb8.block _ bN.lt).trans bN)
  have RA : Hid (ItRd (fun g => g < w8.heap.size ∧ ¬ (g = w.heap.size + 1 ∨ g = w.heap.size + 1 + 1)) w8 (.slice ao xs.length ca) xs) := hide (((HA.out.mono (H := fun g => g < w.heap.size) (fun g hg _ => hg)).below K8.out).mono (fun g hg h => ⟨hg, by omega⟩))
  have hseq := itrep_told (n := 3) (X := fun k => k = w.heap.size + 1 ∨ k = w.heap.size + 1 + 1) (n₀ := w8.heap.size) (by omega) b1 b2 ⟨by omega, by omega⟩ ⟨by omega, by omega⟩ RA.out HCC.out (HI.out w w8 HIw.out K8.out) (fun U U' h kk => HI.out U U' h (kk.below (by omega) (fun k hk e => by omega))) (Nat.le_refl _) (by omega)
  have HSEQ := hide hseq
  have H8 := hide h82
  clear hseq b1 b2 hb8 bL bO bN K3 HW3 hfn s3 s8 h82
  go_wp2_with fail
  refine (wpIn_wide (n := 4)).1 ?_
  refine' wpIn_rangeP rfl (by omega) (gf := 53) (lb := #[.pointer (some ⟨W3.heap.size, 0, none⟩), .pointer (some ⟨W3.heap.size + 1, 0, none⟩)]) (by simp [go_sem]) trivial (enters_of Try.func53 (by kernel_rfl) rfl)
    HSEQ.out BelX.trans (fun W l o' hl => belx_putObj o' hl) (fun A C hb hs => BelX.of hb hs) (Below.refl _ _) (fun _ => rfl)
    (fun pre W' => UqI xs w.heap.size w8 pre W') (fun _ _ _ => False) (uqi_own H8.out) (fun _ _ _ _ _ hs _ _ => hs) ⟨_, by simpa [flat] using World.ownsRow_nil _ _ _ _, BO.out, BN.out, BelX.refl _ _ _⟩
    (fun x a' W' => a' = { tmps := #[.slice ao xs.length ca, .func (.func cg) #[] cl, .pointer (some ⟨w.heap.size, 0, none⟩), undef, .slice none 0 0, .pointer (some ⟨w.heap.size + 1, 0, none⟩), .pointer (some ⟨w.heap.size + 1 + 1, 0, none⟩), .int .i64 x.1, .func (.func cg) #[] cl, .bool false, .slice ao xs.length ca, .func (.func cg) #[] cl, .func (.func 53) #[] #[.pointer (some ⟨W3.heap.size, 0, none⟩), .pointer (some ⟨W3.heap.size + 1, 0, none⟩)], .int .i64 x.1, undef, undef, undef, undef, undef, undef, undef, undef, undef, undef, undef, undef, undef], defers := [] }) (fun _ _ _ _ _ _ h _ => h) ?hassign ?hbody ?hdone ?hstop
  case hassign =>
    rintro l x W' K hK
    gi_wp2
    exact hK _ _ (Below.refl _ _) rfl
  case hbody =>
    rintro l pre x a' W' hi hrd rfl hsz
    obtain ⟨v, r1, r2, r3, r4⟩ := hi
    rw [List.map_append] at hrd
    obtain ⟨hx1, hx2, hx3⟩ := unqS_at hrd
    obtain ⟨s, hs⟩ : ∃ s, (pre.map Subtype.val).foldl (unqS xs) ([], 0) = s := ⟨_, rfl⟩
    rw [hs] at hx2 hx3 r1 r3
    obtain ⟨x, hx⟩ := x
    simp only at hx1 hx2
    obtain ⟨ga, oa, rfl, hga, hin⟩ : ∃ ga oa, ao = some ⟨ga, oa, none⟩ ∧ (ga < w8.heap.size ∧ ¬ (ga = w.heap.size + 1 ∨ ga = w.heap.size + 1 + 1)) ∧ ItIn w8 ga oa xs := by
      obtain ⟨ao', ca', h1, h2, h3, h4⟩ := RA.out
      cases h1
      obtain ⟨g, o', h5, h6, h7, h8⟩ := h4 (by omega)
      exact ⟨g, o', h5, h6, h8⟩
    have cL := (r4.boxed BL.out (by have := H8.out; omega) (by omega)).cell
    have c1 := r2.cell
    have c2 := r3.cell
    have hsub : ((xs.take x).drop s.2).length = x - s.2 := by rw [List.length_drop, List.length_take]; omega
    have RS : ItRd (fun _ => True) W'.drew (.slice (some ⟨ga, oa + s.2 * 2, none⟩) (x - s.2) (ca - s.2)) ((xs.take x).drop s.2) := by
      refine ⟨_, ca - s.2, by rw [hsub], by omega, by unfold maxLen; omega, fun hp => ⟨ga, _, rfl, trivial, Nat.lt_of_lt_of_le hga.1 r4.size, fun i hi => ?_⟩⟩
      have q := hin (s.2 + i) (by omega)
      have e : ((xs.take x).drop s.2)[i] = xs[s.2 + i]'(by omega) := by rw [List.getElem_drop, List.getElem_take]
      rw [e, show oa + s.2 * 2 + i * 2 = oa + (s.2 + i) * 2 by omega]
      exact ⟨(r4.cell (p := ⟨ga, _, none⟩) hga.1 hga.2).trans q.1, (r4.cell (p := ⟨ga, _, none⟩) hga.1 hga.2).trans q.2⟩
    obtain ⟨v', w2, hrun, ho, hg⟩ := run_append_items (w := W'.drew) (base := w8.heap.size) (v := v) r1 RS (by intro c h; cases h) (by rw [hsub]; unfold maxLen; omega) (by rw [hsub]; omega) r4.size 22
    have SHP : Hid (v' = .slice none 0 0 ∨ ∃ g n c, v' = .slice (some ⟨g, 0, none⟩) n c) := hide (by
      obtain ⟨_, ⟨e, _⟩ | ⟨g, cap, cur, e, _⟩⟩ := ho
      · exact .inl e
      · exact .inr ⟨g, _, cap, e⟩)
    have ST := hide (uqi_step (i := 0) (x := ⟨x, hx⟩) H8.out hs r1 r2 r3 r4 ho hg)
    have nb : ∀ k, k < w8.heap.size → some k ≠ v.ownBlock := fun k hk e => by have := (owns_row r1 e.symm).1; omega
    have d2 := (show Boxed W'.drew (w.heap.size + 1) 22 v from r2).kept hg (nb _ (by have := H8.out; omega))
    have d3 := (show Boxed W'.drew (w.heap.size + 1 + 1) 3 _ from r3).kept hg (nb _ (by have := H8.out; omega))
    have f2 := d2.frozen
    have f3 := (d3.other (B' := w.heap.size + 1) (by omega) v').frozen
    have g2 := d2.cell
    have g3 := (d3.other (B' := w.heap.size + 1) (by omega) v').cell
    have q1 : (s.2 : Int) ≤ (x : Int) := by omega
    have q2 : (x : Int) ≤ (xs.length : Int) := by omega
    have q3 : IntKind.i64.wrap ((x : Int) + 1) = (x : Int) + 1 := by rw [IntKind.wrap_i64]; omega
    have n1 : ¬ ca = s.2 := by omega
    have n2 : s.2 ≤ x := hx2
    have n3 : x ≤ ca := by omega
    obtain ⟨s1, s2⟩ := s
    simp only at *
    clear ho hg RS hin r1 r2 r3 d2 d3 nb hsub hs hrd hx3
    gi_wp2
    refine wpHeld.region (C := fun u => u = W'.drew) (D := fun j => decide (5 ≤ j)) (by kernel_rfl) ?_
    refine wpHeld.tk (i := 0) (d := some 14) (v := v) (by as_aux_lemma => kernel_rfl) rfl (by as_aux_lemma => kernel_rfl) (by as_aux_lemma => kernel_rfl) (by as_aux_lemma => kernel_rfl) (by as_aux_lemma => kernel_rfl) rfl (fun _ _ _ h => h) ⟨Or.inl ⟨by rfl, ?_⟩, fun _ => rfl⟩ rfl ?_
    · rintro _ rfl
      go_simp
    simp only [Act.put, List.setIfInBounds_toArray, List.set_cons_zero, List.set_cons_succ]
    refine wpHeld.tk (i := 1) (d := some 15) (v := .slice (some ⟨ga, oa, none⟩) xs.length ca) (by as_aux_lemma => kernel_rfl) rfl (by as_aux_lemma => kernel_rfl) (by as_aux_lemma => kernel_rfl) (by as_aux_lemma => kernel_rfl) (by as_aux_lemma => kernel_rfl) rfl (fun _ _ _ h => h) ⟨Or.inl ⟨by rfl, ?_⟩, fun _ => rfl⟩ rfl ?_
    · rintro _ rfl
      go_simp
    simp only [Act.put, List.setIfInBounds_toArray, List.set_cons_zero, List.set_cons_succ]
    refine wpHeld.tk (i := 2) (d := some 16) (v := .int .i64 (s2 : Int)) (by as_aux_lemma => kernel_rfl) rfl (by as_aux_lemma => kernel_rfl) (by as_aux_lemma => kernel_rfl) (by as_aux_lemma => kernel_rfl) (by as_aux_lemma => kernel_rfl) rfl (fun _ _ _ h => h) ⟨Or.inl ⟨by rfl, ?_⟩, fun _ => rfl⟩ rfl ?_
    · rintro _ rfl
      go_simp
    simp only [Act.put, List.setIfInBounds_toArray, List.set_cons_zero, List.set_cons_succ]
    refine wpHeld.tk (i := 3) (d := some 17) (v := .int .i64 (x : Int)) (by as_aux_lemma => kernel_rfl) rfl (by as_aux_lemma => kernel_rfl) (by as_aux_lemma => kernel_rfl) (by as_aux_lemma => kernel_rfl) (by as_aux_lemma => kernel_rfl) rfl (fun _ _ _ h => h) ⟨Or.inl ⟨by rfl, ?_⟩, fun _ => rfl⟩ rfl ?_
    · rintro _ rfl
      go_simp
    simp only [Act.put, List.setIfInBounds_toArray, List.set_cons_zero, List.set_cons_succ]
    refine wpHeld.tk (i := 4) (d := some 18) (v := .slice (some ⟨ga, oa + s2 * 2, none⟩) (x - s2) (ca - s2)) (by as_aux_lemma => kernel_rfl) rfl (by as_aux_lemma => kernel_rfl) (by as_aux_lemma => kernel_rfl) (by as_aux_lemma => kernel_rfl) (by as_aux_lemma => kernel_rfl) rfl (fun _ _ _ h => h) ⟨Or.inl ⟨by rfl, ?_⟩, fun _ => rfl⟩ rfl ?_
    · rintro _ rfl
      go_simp
    simp only [Act.put, List.setIfInBounds_toArray, List.set_cons_zero, List.set_cons_succ]
    refine wpHeld.one (i := 5) (by as_aux_lemma => kernel_rfl) rfl (fun KK hKK => ?_)
    rw [if_pos (by rfl)]
    refine opIn_append _ _ rfl rfl rfl hrun ?_
    refine hKK _ _ ⟨fun h => absurd h (by decide), ?_⟩
    clear hKK KK hrun
    simp only [Act.put, List.setIfInBounds_toArray, List.set_cons_zero, List.set_cons_succ]
    refine wpHeld.one (i := 6) (by as_aux_lemma => kernel_rfl) rfl (fun KK hKK => ?_)
    rw [if_pos (by rfl)]
    rcases SHP.out with hv' | ⟨g', n', c', hv'⟩
    all_goals
      subst hv'
      go_simp
      refine hKK _ _ ⟨fun h => absurd h (by decide), ?_⟩
      clear hKK KK
      refine wpHeld.done (by as_aux_lemma => kernel_rfl) ?_ _
      gi_wp2
      exact ST.out
  case hdone =>
    rintro D zs W' hD hzs hi hK
    obtain ⟨v, r1, r2, r3, r4⟩ := hi
    rw [hzs] at r1 r3
    obtain ⟨E1, E2⟩ := unqS_end f xs
    have HZ' := HZ.out
    unfold unq at HZ'
    obtain ⟨s, hs⟩ : ∃ s, (reps f 0 xs).foldl (unqS xs) ([], 0) = s := ⟨_, rfl⟩
    rw [hs] at E1 E2 r1 r3 HZ'
    obtain ⟨s1, s2⟩ := s
    simp only at E1 E2 r1 r3 HZ'
    have cL := (r4.boxed BL.out (by have := H8.out; omega) (by omega)).cell
    have c1 := r2.cell
    have c2 := r3.cell
    have KW : Below w.heap.size w W' := K8.out.trans (r4.below (by have := H8.out; omega) (fun k hk e => by omega))
    have hdl : (xs.drop s2).length = xs.length - s2 := by simp
    have key : ∀ vs, ItRd (fun _ => True) W'.drew vs (xs.drop s2) → (∀ c, vs = .slice none 0 c → c = 0) → ∃ v' w2, (Builtin.append_ #[22, 22] 22 #[v, vs]).run Try.prog W'.drew = .ok v' w2 ∧ Hid (∀ (tm : Array Value) , tm[4]? = some v' → LeavesInM Fence.wide 4 Try.prog Try.f17 tm (fun e w' => (∃ v, e = .returned v ∧ w'.ownsRow w.heap.size 27 2 v Z.length (flat Z)) ∧ Below w.heap.size w w') [mark D] .returning w2) := by
      intro vs RS hn
      obtain ⟨v', w2, hrun, ho, hg⟩ := run_append_items (w := W'.drew) (base := w8.heap.size) (v := v) r1 RS hn (by rw [hdl]; unfold maxLen; omega) (by rw [hdl]; omega) r4.size 22
      rw [← flat_append, HZ', ← List.length_append, HZ'] at ho
      refine ⟨v', w2, hrun, hide (fun tm htm => ?_)⟩
      have KW2 : Below w.heap.size w w2 := by
        have h0 := H8.out
        have b0 : Below w.heap.size W' W'.drew := (Below.refl _ _).drew
        have b1 : BelX (fun _ => False) w8.heap.size W'.drew w2 := BelX.grown hg r4.size (fun k e => .inl (owns_row r1 e).1)
        exact (KW.trans b0).trans (b1.below (B := w.heap.size) (by omega) (fun k _ e => e))
      have hD2 : w2.heap[D]? = some (.deferred (some [])) := (hg.block D (Array.getElem?_eq_some_iff.1 hK).1 (fun e => by
        obtain ⟨cur, hc⟩ := (owns_row r1 e.symm).2
        rw [hK] at hc
        cases hc)).trans hK
      refine marks_leave (A := w8.heap.size) (Inv := fun u => u.ownsRow w8.heap.size 27 2 v' Z.length (flat Z) ∧ Below w.heap.size w u) ?_ ?_ [D] _ (by simp; exact ⟨hD, hD2⟩) (by simp) ⟨ho, KW2⟩
      · rintro u D' ⟨i1, i2⟩ hD' hu
        refine ⟨owns_put i1 hu rfl, i2.trans ((belx_putObj (X := fun _ => False) (n := w.heap.size) (l := D') _ (by have := H8.out; omega)).below (Nat.le_refl _) (fun _ _ e => e))⟩
      · rintro u ⟨i1, i2⟩
        refine ⟨_, results_tmp rfl _ _ _, ⟨v', ?_, owns_base (base := w8.heap.size) (by have := H8.out; omega) i1⟩, i2⟩
        rw [Array.getD_eq_getD_getElem?, htm]
        rfl
    have q1 : ¬ (xs.length : Int) < (s2 : Int) := by omega
    have q2 : (s2 : Int) ≤ (xs.length : Int) := by omega
    rcases ao with _ | ⟨ga, oa, za⟩
    · have hx0 : xs = [] := by
        obtain ⟨ao', ca', h1, h2, h3, h4⟩ := RA.out
        cases h1
        rcases Nat.eq_zero_or_pos xs.length with e | e
        · exact List.eq_nil_of_length_eq_zero e
        · obtain ⟨g, o', h5, _⟩ := h4 e
          cases h5
      subst hx0
      obtain rfl : s2 = 0 := by simp at E1; omega
      obtain rfl : ca = 0 := NO.out ca rfl
      obtain ⟨v', w2, hrun, FIN⟩ := key (.slice none 0 0) (nil_rd rfl rfl (by unfold maxLen; omega)) (by intro c h; cases h; rfl)
      clear key r1 r2 r3 KW
      go_wp2
      refine wp_np ?_
      refine wpHl.region (C := fun u => u = W'.drew) (D := fun j => decide (4 ≤ j)) (by kernel_rfl) ?_
      refine wpHl.tk (i := 0) (d := some 22) (v := v) rfl (by kernel_rfl) (by as_aux_lemma => kernel_rfl) (by as_aux_lemma => kernel_rfl) (by as_aux_lemma => kernel_rfl) rfl (fun _ _ _ h => nomatch h.1) (Or.inl ⟨by rfl, ?_⟩) rfl ?_
      · rintro _ rfl
        go_simp
      simp only [Act.put, List.setIfInBounds_toArray, List.set_cons_zero, List.set_cons_succ]
      refine wpHl.tk (i := 1) (d := some 23) (v := .slice none 0 0) rfl (by kernel_rfl) (by as_aux_lemma => kernel_rfl) (by as_aux_lemma => kernel_rfl) (by as_aux_lemma => kernel_rfl) rfl (fun _ _ _ h => nomatch h.1) (Or.inl ⟨by rfl, ?_⟩) rfl ?_
      · rintro _ rfl
        go_simp
      simp only [Act.put, List.setIfInBounds_toArray, List.set_cons_zero, List.set_cons_succ]
      refine wpHl.tk (i := 2) (d := some 24) (v := .int .i64 ((0 : Nat) : Int)) rfl (by kernel_rfl) (by as_aux_lemma => kernel_rfl) (by as_aux_lemma => kernel_rfl) (by as_aux_lemma => kernel_rfl) rfl (fun _ _ _ h => nomatch h.1) (Or.inl ⟨by rfl, ?_⟩) rfl ?_
      · rintro _ rfl
        go_simp
      simp only [Act.put, List.setIfInBounds_toArray, List.set_cons_zero, List.set_cons_succ]
      refine wpHl.tk (i := 3) (d := some 25) (v := .slice none 0 0) rfl (by kernel_rfl) (by as_aux_lemma => kernel_rfl) (by as_aux_lemma => kernel_rfl) (by as_aux_lemma => kernel_rfl) rfl (fun _ _ _ h => nomatch h.1) (Or.inl ⟨by rfl, ?_⟩) rfl ?_
      · rintro _ rfl
        go_simp
      simp only [Act.put, List.setIfInBounds_toArray, List.set_cons_zero, List.set_cons_succ]
      refine wpHl.one (i := 4) (by as_aux_lemma => kernel_rfl) rfl (fun KK hKK => ?_)
      rw [if_pos (by rfl)]
      refine op_append _ _ rfl rfl rfl hrun ?_
      refine hKK _ _ ⟨fun h => absurd h (by decide), ?_⟩
      clear hKK KK hrun
      simp only [Act.put, List.setIfInBounds_toArray, List.set_cons_zero, List.set_cons_succ]
      refine wpHl.one (i := 5) (by as_aux_lemma => kernel_rfl) rfl (fun KK hKK => ?_)
      rw [if_pos (by rfl)]
      go_simp
      refine hKK _ _ ⟨fun h => absurd h (by decide), ?_⟩
      clear hKK KK
      try simp only [Act.put, List.setIfInBounds_toArray, List.set_cons_zero, List.set_cons_succ]
      refine wpHl.done (by as_aux_lemma => kernel_rfl) ⟨rfl, ?_⟩ _
      go_wp2
      exact FIN.out _ rfl
    · by_cases hcs : ca = s2
      · obtain ⟨v', w2, hrun, FIN⟩ := key (.slice (some ⟨ga, oa, za⟩) 0 0) (nil_rd rfl (List.drop_eq_nil_of_le (by omega)) (by unfold maxLen; omega)) (by intro c h; cases h)
        have hxs : xs.length - s2 = 0 := by omega
        clear key r1 r2 r3 KW
        subst hcs
        go_wp2
        refine wp_np ?_
        refine wpHl.region (C := fun u => u = W'.drew) (D := fun j => decide (4 ≤ j)) (by kernel_rfl) ?_
        refine wpHl.tk (i := 0) (d := some 22) (v := v) rfl (by kernel_rfl) (by as_aux_lemma => kernel_rfl) (by as_aux_lemma => kernel_rfl) (by as_aux_lemma => kernel_rfl) rfl (fun _ _ _ h => nomatch h.1) (Or.inl ⟨by rfl, ?_⟩) rfl ?_
        · rintro _ rfl
          go_simp
        simp only [Act.put, List.setIfInBounds_toArray, List.set_cons_zero, List.set_cons_succ]
        refine wpHl.tk (i := 1) (d := some 23) (v := .slice (some ⟨ga, oa, za⟩) xs.length ca) rfl (by kernel_rfl) (by as_aux_lemma => kernel_rfl) (by as_aux_lemma => kernel_rfl) (by as_aux_lemma => kernel_rfl) rfl (fun _ _ _ h => nomatch h.1) (Or.inl ⟨by rfl, ?_⟩) rfl ?_
        · rintro _ rfl
          go_simp
        simp only [Act.put, List.setIfInBounds_toArray, List.set_cons_zero, List.set_cons_succ]
        refine wpHl.tk (i := 2) (d := some 24) (v := .int .i64 ((ca : Nat) : Int)) rfl (by kernel_rfl) (by as_aux_lemma => kernel_rfl) (by as_aux_lemma => kernel_rfl) (by as_aux_lemma => kernel_rfl) rfl (fun _ _ _ h => nomatch h.1) (Or.inl ⟨by rfl, ?_⟩) rfl ?_
        · rintro _ rfl
          go_simp
        simp only [Act.put, List.setIfInBounds_toArray, List.set_cons_zero, List.set_cons_succ]
        refine wpHl.tk (i := 3) (d := some 25) (v := .slice (some ⟨ga, oa, za⟩) 0 0) rfl (by kernel_rfl) (by as_aux_lemma => kernel_rfl) (by as_aux_lemma => kernel_rfl) (by as_aux_lemma => kernel_rfl) rfl (fun _ _ _ h => nomatch h.1) (Or.inl ⟨by rfl, ?_⟩) rfl ?_
        · rintro _ rfl
          go_simp
        simp only [Act.put, List.setIfInBounds_toArray, List.set_cons_zero, List.set_cons_succ]
        refine wpHl.one (i := 4) (by as_aux_lemma => kernel_rfl) rfl (fun KK hKK => ?_)
        rw [if_pos (by rfl)]
        refine op_append _ _ rfl rfl rfl hrun ?_
        refine hKK _ _ ⟨fun h => absurd h (by decide), ?_⟩
        clear hKK KK hrun
        simp only [Act.put, List.setIfInBounds_toArray, List.set_cons_zero, List.set_cons_succ]
        refine wpHl.one (i := 5) (by as_aux_lemma => kernel_rfl) rfl (fun KK hKK => ?_)
        rw [if_pos (by rfl)]
        go_simp
        refine hKK _ _ ⟨fun h => absurd h (by decide), ?_⟩
        clear hKK KK
        try simp only [Act.put, List.setIfInBounds_toArray, List.set_cons_zero, List.set_cons_succ]
        refine wpHl.done (by as_aux_lemma => kernel_rfl) ⟨rfl, ?_⟩ _
        go_wp2
        exact FIN.out _ rfl
      · have RS : ItRd (fun _ => True) W'.drew (.slice (some ((⟨ga, oa, za⟩ : Addr).add (s2 * 2))) (xs.length - s2) (ca - s2)) (xs.drop s2) := by
          by_cases hz : xs.length - s2 = 0
          · exact nil_rd hz (List.drop_eq_nil_of_le (by omega)) (by unfold maxLen; omega)
          · obtain ⟨ao', ca', h1, h2, h3, h4⟩ := RA.out
            cases h1
            obtain ⟨g, o', h5, h6, h7, hin⟩ := h4 (by omega)
            cases h5
            rw [show (⟨ga, oa, none⟩ : Addr).add (s2 * 2) = ⟨ga, oa + s2 * 2, none⟩ by simp [Addr.add]]
            refine ⟨_, ca - s2, by rw [hdl], by omega, by unfold maxLen; omega, fun hp => ⟨ga, _, rfl, trivial, Nat.lt_of_lt_of_le h6.1 r4.size, fun i hi => ?_⟩⟩
            rw [hdl] at hi
            have q := hin (s2 + i) (by omega)
            have e : (xs.drop s2)[i]'(by omega) = xs[s2 + i]'(by omega) := by rw [List.getElem_drop]
            rw [e, show oa + s2 * 2 + i * 2 = oa + (s2 + i) * 2 by omega]
            exact ⟨(r4.cell (p := ⟨ga, _, none⟩) h6.1 h6.2).trans q.1, (r4.cell (p := ⟨ga, _, none⟩) h6.1 h6.2).trans q.2⟩
        obtain ⟨v', w2, hrun, FIN⟩ := key _ RS (by intro c h; cases h)
        have n2 : s2 ≤ xs.length := E1
        have n3 : xs.length ≤ ca := hac
        clear key r1 r2 r3 KW RS
        go_wp2
        refine wp_np ?_
        refine wpHl.region (C := fun u => u = W'.drew) (D := fun j => decide (4 ≤ j)) (by kernel_rfl) ?_
        refine wpHl.tk (i := 0) (d := some 22) (v := v) rfl (by kernel_rfl) (by as_aux_lemma => kernel_rfl) (by as_aux_lemma => kernel_rfl) (by as_aux_lemma => kernel_rfl) rfl (fun _ _ _ h => nomatch h.1) (Or.inl ⟨by rfl, ?_⟩) rfl ?_
        · rintro _ rfl
          go_simp
        simp only [Act.put, List.setIfInBounds_toArray, List.set_cons_zero, List.set_cons_succ]
        refine wpHl.tk (i := 1) (d := some 23) (v := .slice (some ⟨ga, oa, za⟩) xs.length ca) rfl (by kernel_rfl) (by as_aux_lemma => kernel_rfl) (by as_aux_lemma => kernel_rfl) (by as_aux_lemma => kernel_rfl) rfl (fun _ _ _ h => nomatch h.1) (Or.inl ⟨by rfl, ?_⟩) rfl ?_
        · rintro _ rfl
          go_simp
        simp only [Act.put, List.setIfInBounds_toArray, List.set_cons_zero, List.set_cons_succ]
        refine wpHl.tk (i := 2) (d := some 24) (v := .int .i64 ((s2 : Nat) : Int)) rfl (by kernel_rfl) (by as_aux_lemma => kernel_rfl) (by as_aux_lemma => kernel_rfl) (by as_aux_lemma => kernel_rfl) rfl (fun _ _ _ h => nomatch h.1) (Or.inl ⟨by rfl, ?_⟩) rfl ?_
        · rintro _ rfl
          go_simp
        simp only [Act.put, List.setIfInBounds_toArray, List.set_cons_zero, List.set_cons_succ]
        refine wpHl.tk (i := 3) (d := some 25) (v := .slice (some ((⟨ga, oa, za⟩ : Addr).add (s2 * 2))) (xs.length - s2) (ca - s2)) rfl (by kernel_rfl) (by as_aux_lemma => kernel_rfl) (by as_aux_lemma => kernel_rfl) (by as_aux_lemma => kernel_rfl) rfl (fun _ _ _ h => nomatch h.1) (Or.inl ⟨by rfl, ?_⟩) rfl ?_
        · rintro _ rfl
          go_simp
        simp only [Act.put, List.setIfInBounds_toArray, List.set_cons_zero, List.set_cons_succ]
        refine wpHl.one (i := 4) (by as_aux_lemma => kernel_rfl) rfl (fun KK hKK => ?_)
        rw [if_pos (by rfl)]
        refine op_append _ _ rfl rfl rfl hrun ?_
        refine hKK _ _ ⟨fun h => absurd h (by decide), ?_⟩
        clear hKK KK hrun
        simp only [Act.put, List.setIfInBounds_toArray, List.set_cons_zero, List.set_cons_succ]
        refine wpHl.one (i := 5) (by as_aux_lemma => kernel_rfl) rfl (fun KK hKK => ?_)
        rw [if_pos (by rfl)]
        go_simp
        refine hKK _ _ ⟨fun h => absurd h (by decide), ?_⟩
        clear hKK KK
        try simp only [Act.put, List.setIfInBounds_toArray, List.set_cons_zero, List.set_cons_succ]
        refine wpHl.done (by as_aux_lemma => kernel_rfl) ⟨rfl, ?_⟩ _
        go_wp2
        exact FIN.out _ rfl
  case hstop =>
    rintro D c pre W' hD hpx h hK
    exact h.elim

end Go.Proofs.Ytomieeajmelglaa
