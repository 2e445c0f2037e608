/- the law's walked -/
import Derived.Test.YteejbcknikjkjaaURefA
import Derived.Test.YteejbcknikjkjaaUTells
namespace Go.Proofs.Yteejbcknikjkjaa
open Go.RowKit Go.Shelf
set_option linter.unusedVariables false
attribute [local go_sem] Oper.semAt_some

def mark (D : Nat) : Deferred := { target := .collected D, args := #[] }
/-- the marks of the loops behind us, taken one by one -/
theorem marks_leave {F : Fence} {n : Nat} {P : Program} {fn : Func} {tmps : Array Value} {R : Ending → World → Prop} {A B : Nat} {t : TypeId} {v : Value} {w0 : World} (hA : A ≤ w0.heap.size)
    (hR : ∀ w, Boxed w B t v → Below A w0 w → (results fn tmps).run P w = .ok v w ∧ R (.returned v) w) :
    ∀ (Ds : List Nat) (w : World), (∀ D ∈ Ds, A ≤ D ∧ w.heap[D]? = some (.deferred (some []))) → Ds.Nodup → Boxed w B t v → Below A w0 w → LeavesInM F n P fn tmps R (Ds.map mark) .returning w := by
  intro Ds
  induction Ds with
  | nil => intro w _ _ hb hB; exact ⟨v, hR w hb hB⟩
  | cons D Ds ih =>
    intro w h hd hb hB
    obtain ⟨hD1, hD2⟩ := h D List.mem_cons_self
    refine ⟨by simp, .inl ⟨D, _, rfl, run_takeDeferred hD2, ih _ ?_ (List.nodup_cons.1 hd).2 ?_ ?_⟩⟩
    · intro E hE
      obtain ⟨h1, h2⟩ := h E (List.mem_cons_of_mem _ hE)
      have hne : E ≠ D := fun e => (List.nodup_cons.1 hd).1 (e ▸ hE)
      exact ⟨h1, (World.putObj_heap_other (fun e => hne e)).trans h2⟩
    · exact hb.kept (grownBy_putObj' w D _) (fun e => by
        cases e
        rw [show w.heap[B]? = _ from hb] at hD2
        cases hD2)
    · exact hB.grown (grownBy_putObj' w D _) (Nat.le_trans hA hB.size) (fun k e => by cases e; exact hD1)

/-- between two rounds -/
def UWI (K : Nat) (ps : List Int) (pre : List UPair) (W : World) : Prop :=
  ∃ ds rest, ps = ds ++ rest ∧ pre.map Subtype.val = uPl 0 ds ∧ Boxed W K 3 (.int .i64 (ds.length : Nat))
theorem uwi_own {K : Nat} {ps : List Int} : Own (UWI K ps) := fun pre X Y row ⟨ds, rest, h1, h2, h3⟩ hg hr =>
  ⟨ds, rest, h1, h2, boxed_own _ _ (fun _ : Unit => _) () X Y row h3 hg hr⟩
theorem uwx_own {c : Code} {n : Int} {ps : List Int} {W : World} {B : Nat} (hB : W.heap.size ≤ B) : OwnFrom B (fun (pre : List UPair) W' => (c = .ret ∧ ¬ pre.map Subtype.val <+: uPl 0 ps) ∨ (c = .exit 2 ∧ (∃ k : Nat, n = k ∧ Boxed W' W.heap.size 3 (.int .i64 k)) ∧ Below W.heap.size W W')) := by
  intro pre X Y row h hg hr
  rcases h with h | ⟨h1, ⟨k, h2, h3⟩, h4⟩
  · exact .inl h
  · exact .inr ⟨h1, ⟨k, h2, boxed_own _ _ (fun _ : Unit => _) () X Y row h3 hg (fun r e => (hr r e).2)⟩, h4.grown hg h4.size (fun j e => Nat.le_trans hB (hr j e).1)⟩
theorem uw_marks {Ds : List Nat} {D A : Nat} {W W' : World} (h : ∀ D ∈ Ds, A ≤ D ∧ W.heap[D]? = some (.deferred (some []))) (hn : Ds.Nodup) (hB : Below W.heap.size W W') (hD : W'.heap[D]? = some (.deferred (some []))) (h1 : W.heap.size ≤ D) (h2 : A ≤ D) :
    (∀ E ∈ D :: Ds, A ≤ E ∧ W'.heap[E]? = some (.deferred (some []))) ∧ (D :: Ds).Nodup := by
  have hlt : ∀ E ∈ Ds, E < W.heap.size := fun E hE => (Array.getElem?_eq_some_iff.1 (h E hE).2).1
  refine ⟨fun E hE => ?_, List.nodup_cons.2 ⟨fun hE => by have := hlt D hE; omega, hn⟩⟩
  rcases List.mem_cons.1 hE with rfl | hE
  · exact ⟨h2, hD⟩
  · exact ⟨(h E hE).1, (hB.block E (hlt E hE)).trans (h E hE).2⟩

set_option maxRecDepth 100000 in
set_option maxHeartbeats 8000000 in
theorem walked_any {w : World} {s : ByteArray} {v : Value} {es ps t : List Int} {n : Int} (hb : uByt es) (hs : s = strOfNums es) (hl : es.length ≤ 1099511627776) (hS : USplit es ps t) (hv : StRd w v ps) :
    Calls Try.prog 15 #[.string s, v, .int .i64 n] w fun e w' => e = .returned (.bool true) ∧ Below w.heap.size w w' := by
  have hst : ∀ (W0 : World) (Bn n₀ : Nat), Boxed W0 Bn 9 (.string s) → SeqStopsK Fence.wide 3 Try.prog 31 #[.pointer (some ⟨Bn, 0, none⟩)] uEncs (UKp Bn n₀) (fun ys => ys.map Subtype.val = uPl 0 ps) (fun pre => pre.map Subtype.val <+: uPl 0 ps) ps.length W0 := fun _ _ _ h3 => all_stops (by omega) hb hs (by omega) hS h3
  have HST := hide hst
  obtain ⟨ao, cap, rfl, hcap, hcm, hcl⟩ := hv
  have hcm' := hcm
  unfold maxLen at hcm
  have HV := hide hcl
  have hpl : ps.length ≤ 1099511627776 := by
    have := uFlat_len ps
    have e := congrArg List.length hS.eq
    rw [List.length_append] at e
    omega
  clear hs hS hst hb hcl
  refine (callsIn_wide (n := 4)).1 ?_
  refine callsIn_of_wp_marks Try.func15 rfl trivial ?_ rfl
  simp only [Try.ntmps15, List.size_toArray, List.length_cons, List.length_nil, Nat.reduceAdd, Nat.reduceSub, Array.replicate_succ, Array.replicate_zero, List.push_toArray, List.append_toArray, List.nil_append, List.cons_append]
  refine wpIn_wide.2 ?_
  have hfn : ∀ (w : World) f a c, (binOp .eql 36 (.func f a c) .nilFunc).run Try.prog w = .ok (.bool false) w := fun w f a c => run_func_nil w
  go_wp2_with (go_at_call 16; refine all_any.mono ?_; rintro e w' ⟨rfl, rfl⟩)
  have bA := (((Boxed.new w 32 (.slice ao ps.length cap)).alloc (.cells #[.int .i64 n] 3)).alloc (.cells #[.bool false] 4)).alloc (.cells #[.string s] 9)
  have bN := ((Boxed.new (w.alloc (.cells #[.slice ao ps.length cap] 32)) 3 (.int .i64 n)).alloc (.cells #[.bool false] 4)).alloc (.cells #[.string s] 9)
  have bR := (Boxed.new ((w.alloc (.cells #[.slice ao ps.length cap] 32)).alloc (.cells #[.int .i64 n] 3)) 4 (.bool false)).alloc (.cells #[.string s] 9)
  have bS := Boxed.new (((w.alloc (.cells #[.slice ao ps.length cap] 32)).alloc (.cells #[.int .i64 n] 3)).alloc (.cells #[.bool false] 4)) 9 (.string s)
  have hB4 : Below w.heap.size w ((((w.alloc (.cells #[.slice ao ps.length cap] 32)).alloc (.cells #[.int .i64 n] 3)).alloc (.cells #[.bool false] 4)).alloc (.cells #[.string s] 9)) := ((((Below.refl _ w).alloc (Nat.le_refl _) _).alloc (by simp) _).alloc (by simp; omega) _).alloc (by simp; omega) _
  simp only [World.size_alloc] at bA bN bR bS
  obtain ⟨W4, hW4⟩ : ∃ x, x = ((((w.alloc (.cells #[.slice ao ps.length cap] 32)).alloc (.cells #[.int .i64 n] 3)).alloc (.cells #[.bool false] 4)).alloc (.cells #[.string s] 9)) := ⟨_, rfl⟩
  have hz4 : W4.heap.size = w.heap.size + 1 + 1 + 1 + 1 := by rw [hW4]; simp
  rw [← hW4] at bA bN bR bS hB4 ⊢
  clear hW4
  refine wp_loop (fun a W => ∃ (turn : Nat) (Ds : List Nat) (x9 x10 x11 x16 x17 x18 x19 x20 x21 x22 x23 x24 x25 x26 x27 x28 x29 x30 x31 x32 x33 x34 x35 x36 x37 x38 x39 x40 x41 x42 x43 x44 x45 x46 x47 x48 x49 x50 x51 x52 x53 x54 x55 x56 x57 x58 x59 x60 x61 x62 x63 x64 : Value), a = { tmps := #[.string s, .slice ao ps.length cap, .int .i64 n, undef, .pointer (some ⟨w.heap.size, 0, none⟩), .pointer (some ⟨w.heap.size + 1, 0, none⟩), .pointer (some ⟨w.heap.size + 1 + 1, 0, none⟩), .func (.func 31) #[] #[.pointer (some ⟨w.heap.size + 1 + 1 + 1, 0, none⟩)], .int .i64 turn, x9, x10, x11, .string s, .func (.func 31) #[] #[.pointer (some ⟨w.heap.size + 1 + 1 + 1, 0, none⟩)], .func (.func 31) #[] #[.pointer (some ⟨w.heap.size + 1 + 1 + 1, 0, none⟩)], .bool false, x16, x17, x18, x19, x20, x21, x22, x23, x24, x25, x26, x27, x28, x29, x30, x31, x32, x33, x34, x35, x36, x37, x38, x39, x40, x41, x42, x43, x44, x45, x46, x47, x48, x49, x50, x51, x52, x53, x54, x55, x56, x57, x58, x59, x60, x61, x62, x63, x64], defers := Ds.map mark } ∧ turn ≤ 2 ∧ (∀ D ∈ Ds, w.heap.size ≤ D ∧ W.heap[D]? = some (.deferred (some []))) ∧ Ds.Nodup ∧ Below W4.heap.size W4 W) (fun a _ => 2 - (intOf (a.tmps.getD 8 undef)).toNat) ?_ ?_
  · exact ⟨0, [], undef, undef, undef, undef, undef, undef, undef, undef, undef, undef, undef, undef, undef, undef, undef, undef, undef, undef, undef, undef, undef, undef, undef, undef, undef, undef, undef, undef, undef, undef, undef, undef, undef, undef, undef, undef, undef, undef, undef, undef, undef, undef, undef, undef, undef, undef, undef, undef, undef, undef, undef, undef, rfl, by omega, by simp, by simp, Below.refl _ _⟩
  · rintro a W ⟨turn, Ds, x9, x10, x11, x16, x17, x18, x19, x20, x21, x22, x23, x24, x25, x26, x27, x28, x29, x30, x31, x32, x33, x34, x35, x36, x37, x38, x39, x40, x41, x42, x43, x44, x45, x46, x47, x48, x49, x50, x51, x52, x53, x54, x55, x56, x57, x58, x59, x60, x61, x62, x63, x64, rfl, ht2, hDs, hnd, hBW⟩
    have hbA : Boxed W w.heap.size 32 (.slice ao ps.length cap) := (hBW.block _ bA.lt).trans bA
    have hbN : Boxed W (w.heap.size + 1) 3 (.int .i64 n) := (hBW.block _ bN.lt).trans bN
    have hbR : Boxed W (w.heap.size + 1 + 1) 4 (.bool false) := (hBW.block _ bR.lt).trans bR
    have hbS : Boxed W (w.heap.size + 1 + 1 + 1) 9 (.string s) := (hBW.block _ bS.lt).trans bS
    by_cases htl : turn < 2
    · have q1 : (turn : Int) < 2 := by omega
      have HA := hide hbA
      have HN := hide hbN
      have HR := hide hbR
      have HDs := hide hDs
      have hzW := hBW.size
      have hBwW : Below w.heap.size w W := hB4.trans (hBW.mono (by omega))
      have HBwW := hide hBwW
      have HBW := hide hBW
      have bK := Boxed.new W 3 (.int .i64 0)
      have bS2 := hbS.alloc (.cells #[.int .i64 0] 3)
      clear hbA hbN hbR hBwW hBW hDs hbS
      go_wp2_with fail
      refine (wpIn_wide (n := 4)).1 ?_
      refine' wpIn_rangeFunc_ownG rfl (by omega) (gf := 31) (lb := #[.pointer (some ⟨w.heap.size + 1 + 1 + 1, 0, none⟩)]) (by simp [go_sem]) trivial (enters_of Try.func31 (by kernel_rfl) rfl)
        (HST.out _ _ W.heap.size bS2) ukp_t (ukp_b (by simp; try omega) (by simp; try omega)) (Below.refl _ _) (fun _ => rfl)
        (fun pre W' => UWI W.heap.size ps pre W' ∧ Below W.heap.size W W')
        (fun c pre W' => (c = .ret ∧ ¬ pre.map Subtype.val <+: uPl 0 ps) ∨ (c = .exit 2 ∧ (∃ k : Nat, n = k ∧ Boxed W' W.heap.size 3 (.int .i64 k)) ∧ Below W.heap.size W W'))
        (OwnFrom.and (Own.from uwi_own _) (ownFrom_below (Nat.le_refl _) (by simp; try omega)))
        (fun c => uwx_own (by simp; try omega))
        ⟨⟨[], ps, rfl, rfl, bK⟩, (Below.refl _ _).alloc (Nat.le_refl _) _⟩ _ _ _ _ _
      case refine'_2 =>
        intro l x W K hK
        gi_wp2
        exact hK
      case refine'_3 =>
        rintro l pre x W' ⟨⟨ds, rest, hps, hpre, bK⟩, hBK⟩ hlt
        have bA' : Boxed W' w.heap.size 32 (.slice ao ps.length cap) := (hBK.block _ HA.out.lt).trans HA.out
        have bN' : Boxed W' (w.heap.size + 1) 3 (.int .i64 n) := (hBK.block _ HN.out.lt).trans HN.out
        have bR' : Boxed W' (w.heap.size + 1 + 1) 4 (.bool false) := (hBK.block _ HR.out.lt).trans HR.out
        have hcA := bA'.cell
        have hcN := bN'.cell
        have hcR := bR'.cell
        have hfR := bR'.frozen
        have hcK := bK.cell
        have hfK := bK.frozen
        have hdl : ds.length ≤ ps.length := by rw [hps, List.length_append]; omega
        have HK := hide bK
        have HBK := hide hBK
        have Hpre := hide hpre
        have Hps := hide hps
        have HBt := hide (HBwW.out.trans (hBK.mono HBwW.out.size))
        by_cases hkn : (ds.length : Int) = n
        · have q2 : ((ds.length : Int) == n) = true := by simp [hkn]
          have HKN := hide hkn
          clear bA' bN' bR' bK hBK hpre hps hkn
          obtain ⟨⟨x1, x2⟩, hx1, hx2, hx3⟩ := x
          simp only
          gi_wp2
          exact ⟨KeepsFrom.refl _ _, .inr ⟨rfl, ⟨ds.length, HKN.out.symm, HK.out⟩, HBK.out⟩⟩
        · have q2 : ((ds.length : Int) == n) = false := by simp [hkn]
          clear hkn
          cases rest with
          | nil =>
            have hno : ¬ (pre ++ [x]).map Subtype.val <+: uPl 0 ps := fun g => utells_end hpre (by rw [hps, List.append_nil] at g; exact g)
            have HNO := hide hno
            have q3 : (ps.length : Int) ≤ (ds.length : Int) := by rw [hps, List.append_nil]; omega
            clear bA' bN' bR' bK hBK hpre hps hno
            obtain ⟨⟨x1, x2⟩, hx1, hx2, hx3⟩ := x
            simp only
            gi_wp2
            exact ⟨(KeepsOthers.setCell _ _ _).from _, .inl ⟨rfl, HNO.out⟩⟩
          | cons p rest =>
            have hdl2 : ds.length < ps.length := by rw [hps, List.length_append, List.length_cons]; omega
            have q3 : ¬ (ps.length : Int) ≤ (ds.length : Int) := by omega
            obtain ⟨g, rfl, hgl, hcl⟩ := HV.out (by omega)
            have hget : (uPl 0 ps)[ds.length]? = some (((uFlat ds).length : Int), p) := by
              rw [hps, uPl_append, List.getElem?_append_right (by rw [uPl_len]; omega), uPl_len]; simp [uPl]
            obtain ⟨e0, e2⟩ := hcl _ _ hget
            have g0 := (HBt.out.cell (p := ⟨g, ds.length * 4, none⟩) hgl).trans e0
            have g2 := (HBt.out.cell (p := ⟨g, ds.length * 4 + 2, none⟩) hgl).trans e2
            have hpx := hide (fun h => utells_pre (ys := pre) (x := x) (ds := ds) (p := p) (rest := rest) hpre h)
            have Hpl := hide (show uPl 0 (ds ++ [p]) = uPl 0 ds ++ [(((uFlat ds).length : Int), p)] by rw [uPl_append]; simp [uPl])
            obtain ⟨m, hm⟩ : ∃ m, (uFlat ds).length = m := ⟨_, rfl⟩
            simp only [hm] at g0 g2 hpx Hpl
            clear bA' bN' bR' bK hBK hpre hps hcl hget e0 e2 hm
            obtain ⟨⟨x1, x2⟩, hx1, hx2, hx3⟩ := x
            have hxr := uPt_iff.1 hx1
            have q6 : IntKind.i64.wrap x2 = x2 := by simp [IntKind.wrap, IntKind.bits, IntKind.signed]; omega
            simp only at hpx ⊢
            by_cases h1 : (m : Int) = x1
            · have q4 : ((m : Int) != x1) = false := by simp [h1]
              by_cases h2 : p = x2
              · have q5 : (p != x2) = false := by simp [h2]
                have H1 := hide h1
                have H2 := hide h2
                clear h1 h2 hpx
                gi_wp2
                refine ⟨(KeepsOthers.setCell _ _ _).from _, ⟨(Below.refl _ _).setCell (p := ⟨W.heap.size, 0, none⟩) (Nat.le_refl _) _, fun v h => h.other (by omega) _⟩, ⟨ds ++ [p], rest, by rw [Hps.out]; simp, ?_, ?_⟩, HBK.out.setCell (p := ⟨W.heap.size, 0, none⟩) (Nat.le_refl _) _⟩
                · rw [List.map_append, Hpre.out, Hpl.out]
                  simp [H1.out, H2.out]
                · have := HK.out.set (.int .i64 ((ds.length : Int) + 1))
                  simpa using this
              · have q5 : (p != x2) = true := by simp [h2]
                have HNO := hide (show ¬ (pre ++ [(⟨(x1, x2), hx1, hx2, hx3⟩ : UPair)]).map Subtype.val <+: uPl 0 ps from fun h => by
                  have := hpx.out (by rw [Hps.out] at h; exact h)
                  simp at this; exact h2 this.2.symm)
                clear h1 h2 hpx
                gi_wp2
                exact ⟨(KeepsOthers.setCell _ _ _).from _, .inl ⟨rfl, HNO.out⟩⟩
            · have q4 : ((m : Int) != x1) = true := by simp [h1]
              have HNO := hide (show ¬ (pre ++ [(⟨(x1, x2), hx1, hx2, hx3⟩ : UPair)]).map Subtype.val <+: uPl 0 ps from fun h => by
                have := hpx.out (by rw [Hps.out] at h; exact h)
                simp at this; exact h1 this.1.symm)
              clear h1 hpx
              gi_wp2
              exact ⟨(KeepsOthers.setCell _ _ _).from _, .inl ⟨rfl, HNO.out⟩⟩
      case refine'_4 =>
        rintro D ys W' hD hys ⟨⟨ds, rest, hps, hpre, bK⟩, hBK⟩ hK
        have hds : ds = ps := uPl_inj (hpre.symm.trans hys)
        subst hds
        have hcA := Boxed.cell (show Boxed W' w.heap.size 32 (.slice ao ds.length cap) from (hBK.block _ HA.out.lt).trans HA.out)
        have hcK := bK.cell
        have q2 : ((ds.length : Int) != (ds.length : Int)) = false := by simp
        have HX := hide (uw_marks HDs.out hnd hBK hK (by simp at hD; omega) (by simp at hD; omega))
        have HBB := hide (HBW.out.trans (hBK.mono HBW.out.size))
        clear hps hpre bK hBK hys hD hK
        go_wp2
        refine ⟨⟨turn + 1, D :: Ds, _, _, _, _, _, _, _, _, _, _, _, _, _, _, _, _, _, _, _, _, _, _, _, _, _, _, _, _, _, _, _, _, _, _, _, _, _, _, _, _, _, _, _, _, _, _, _, _, _, _, _, _, rfl, by omega, HX.out.1, HX.out.2, HBB.out⟩, by simp [intOf]; omega⟩
      case refine'_5 =>
        rintro D c pre W' hD hpx (⟨_, hno⟩ | ⟨rfl, ⟨k, hk, bK⟩, hBK⟩) hK
        · exact absurd hpx hno
        · have hcA := Boxed.cell (show Boxed W' w.heap.size 32 (.slice ao ps.length cap) from (hBK.block _ HA.out.lt).trans HA.out)
          have hcN := Boxed.cell (show Boxed W' (w.heap.size + 1) 3 (.int .i64 n) from (hBK.block _ HN.out.lt).trans HN.out)
          have hcK := bK.cell
          have HX := hide (uw_marks HDs.out hnd hBK hK (by simp at hD; omega) (by simp at hD; omega))
          have HBB := hide (HBW.out.trans (hBK.mono HBW.out.size))
          have q3 : (0 : Int) ≤ n := by omega
          have q4 : ((k : Int) == n) = true := by simp [hk]
          clear bK hBK hD hK hk hpx
          refine wpIn_wide.2 ?_
          by_cases h : k = ps.length
          · have q2 : ((k : Int) != (ps.length : Int)) = false := by simp [h]
            clear h
            go_wp2
            refine ⟨⟨turn + 1, D :: Ds, _, _, _, _, _, _, _, _, _, _, _, _, _, _, _, _, _, _, _, _, _, _, _, _, _, _, _, _, _, _, _, _, _, _, _, _, _, _, _, _, _, _, _, _, _, _, _, _, _, _, _, _, rfl, by omega, HX.out.1, HX.out.2, HBB.out⟩, by simp [intOf]; omega⟩
          · have q2 : ((k : Int) != (ps.length : Int)) = true := by simp; omega
            clear h
            go_wp2
            refine ⟨⟨turn + 1, D :: Ds, _, _, _, _, _, _, _, _, _, _, _, _, _, _, _, _, _, _, _, _, _, _, _, _, _, _, _, _, _, _, _, _, _, _, _, _, _, _, _, _, _, _, _, _, _, _, _, _, _, _, _, _, rfl, by omega, HX.out.1, HX.out.2, HBB.out⟩, by simp [intOf]; omega⟩
    · have q1 : ¬ (turn : Int) < 2 := by omega
      have hcR := hbR.cell
      have hfR := hbR.frozen
      have hBwW : Below w.heap.size w W := hB4.trans (hBW.mono (by omega))
      have HR := hide hbR
      have HDs := hide hDs
      clear hbA hbN hbS hbR hDs
      go_wp2
      refine marks_leave (A := w.heap.size) (B := w.heap.size + 1 + 1) (t := 4) (v := .bool true) (w0 := w) (Nat.le_refl _) ?_ Ds _ ?_ hnd (HR.out.set _) (hBwW.setCell (p := ⟨w.heap.size + 1 + 1, 0, none⟩) (show w.heap.size ≤ w.heap.size + 1 + 1 by omega) _)
      · intro w' hb' hB'
        have hc := hb'.cell
        exact ⟨by simp [results, Try.f15, go_sem, hc], rfl, hB'⟩
      · intro D hD
        obtain ⟨h1, h2⟩ := HDs.out D hD
        exact ⟨h1, (KeepsOthers.setCell W ⟨w.heap.size + 1 + 1, 0, none⟩ (.bool true)).same D _ h2 rfl⟩

end Go.Proofs.Yteejbcknikjkjaa
