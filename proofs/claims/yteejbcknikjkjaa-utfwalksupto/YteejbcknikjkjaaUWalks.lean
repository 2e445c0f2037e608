/- UtfWalks: the walk -/
import Derived.Test.YteejbcknikjkjaaUWalked
namespace Go.Proofs.Yteejbcknikjkjaa
open Go.RowKit Go.Shelf
set_option linter.unusedVariables false
attribute [local go_sem] Oper.semAt_some

theorem boxed_below {W W' : World} {B : Nat} {t : TypeId} {v : Value} (h : Boxed W B t v) (hb : Below W.heap.size W W') : Boxed W' B t v := (hb.block _ h.lt).trans h

theorem ukeeps_below {B : Nat} {W W' : World} (hb : Below W.heap.size W W') : KeepsFrom B W W' := ⟨hb.size, fun k o _ hk _ => (hb.block k (Array.getElem?_eq_some_iff.1 hk).1).trans hk⟩

set_option maxRecDepth 100000 in
set_option maxHeartbeats 8000000 in
theorem uwalks_walk {w : World} {s : ByteArray} {n : Int} (h1 : s.size ≤ 1048576) (hn0 : 0 ≤ n) (hn1 : n ≤ 255) :
    Calls Try.prog 5 #[.string s, .int .u8 n] w fun e w' => e = .returned (.bool true) ∧ Below w.heap.size w w' := by
  obtain ⟨es, hb, hle, hs⟩ := utxt_of s
  have hl : es.length ≤ 1099511627776 := by omega
  obtain ⟨ps, t, hS⟩ := USplit.exists es.length (Nat.le_refl _) hb
  have hst : ∀ (W0 : World) (Bn n₀ : Nat), Boxed W0 Bn 9 (.string s) → SeqStopsK Fence.wide 3 Try.prog 31 #[.pointer (some ⟨Bn, 0, none⟩)] uEncs (UKp Bn n₀) (fun ys => ys.map Subtype.val = uPl 0 ps) (fun pre => pre.map Subtype.val <+: uPl 0 ps) ps.length W0 := fun _ _ _ h3 => all_stops (by omega) hb hs (by omega) hS h3
  have HST := hide hst
  have HRA := hide (fun w => rall_any (w := w) hb hs hl hS)
  have HWK := hide (fun (m : Int) (W : World) (v : Value) h => walked_any (w := W) (v := v) (n := m) hb hs hl hS h)
  have q0 : IntKind.i64.wrap n = n := by simp [IntKind.wrap, IntKind.bits, IntKind.signed]; omega
  clear hst hb hs hS hle
  refine (callsIn_wide (n := 4)).1 ?_
  refine callsIn_of_wp_marks Try.func5 rfl trivial ?_ rfl
  simp only [Try.ntmps5, List.size_toArray, List.length_cons, List.length_nil, Nat.reduceAdd, Nat.reduceSub, Array.replicate_succ, Array.replicate_zero, List.push_toArray, List.append_toArray, List.nil_append, List.cons_append]
  refine wpIn_wide.2 ?_
  have hfn : ∀ (w : World) f a c, (binOp .eql 36 (.func f a c) .nilFunc).run Try.prog w = .ok (.bool false) w := fun w f a c => run_func_nil w
  have bS0 := (Boxed.new w 9 (.string s)).alloc (.cells #[.bool false] 4)
  have bR0 := Boxed.new (w.alloc (.cells #[.string s] 9)) 4 (.bool false)
  have hB0 : Below w.heap.size w ((w.alloc (.cells #[.string s] 9)).alloc (.cells #[.bool false] 4)) := ((Below.refl _ w).alloc (Nat.le_refl _) _).alloc (by simp) _
  simp only [World.size_alloc] at bR0
  go_wp2_with fail
  refine (HRA.out _).mono ?_
  rintro e w1 ⟨v, rfl, hv, hB1⟩
  have bS1 := boxed_below bS0 hB1
  have bR1 := boxed_below bR0 hB1
  have hBw1 := hB0.trans (hB1.mono hB0.size)
  have hv' := hv
  obtain ⟨ao, cap, rfl, hcap, hcm, hcl⟩ := hv'
  clear hcl
  have hcm' := hcm
  unfold maxLen at hcm
  have hpl : ps.length ≤ 9223372036854775807 := by omega
  have bV := Boxed.new w1 32 (.slice ao ps.length cap)
  have hB2 : Below w1.heap.size w1 (w1.alloc (.cells #[.slice ao ps.length cap] 32)) := (Below.refl _ _).alloc (Nat.le_refl _) _
  have bS2 := boxed_below bS1 hB2
  have bR2 := boxed_below bR1 hB2
  have hv2 := hv.below hB2
  have hBw2 := hBw1.trans (hB2.mono hBw1.size)
  have hcS2 := bS2.cell
  have hcV2 := bV.cell
  have HS2 := hide bS2
  have HR2 := hide bR2
  have HV2 := hide bV
  have Hv2 := hide hv2
  have HBw2 := hide hBw2
  clear bS0 bR0 hB0 hB1 bS1 bR1 hBw1 hv bV hB2 bS2 bR2 hv2 hBw2
  go_wp2_with fail
  obtain ⟨W2, hW2⟩ : ∃ x, x = w1.alloc (.cells #[.slice ao ps.length cap] 32) := ⟨_, rfl⟩
  rw [← hW2] at HS2 HR2 HV2 Hv2 HBw2 ⊢
  have hz2 : W2.heap.size = w1.heap.size + 1 := by rw [hW2]; simp
  clear hW2 hcS2 hcV2
  have c2 := hide (HWK.out (-1) W2 _ Hv2.out)
  refine c2.out.mono ?_
  rintro e w3 ⟨rfl, hB3⟩
  have hcS3 := (boxed_below HS2.out hB3).cell
  have hcV3 := (boxed_below HV2.out hB3).cell
  have c3 := hide (HWK.out n w3 _ (Hv2.out.below hB3))
  have HB3 := hide hB3
  clear hB3 c2
  go_wp2_with fail
  refine c3.out.mono ?_
  rintro e w4 ⟨rfl, hB4⟩
  have hB4' := HB3.out.trans (hB4.mono HB3.out.size)
  clear hcS3 hcV3 HB3 hB4 c3
  have hcS4 := (boxed_below HS2.out hB4').cell
  have hcV4 := (boxed_below HV2.out hB4').cell
  have c4 := hide (HWK.out 0 w4 _ (Hv2.out.below hB4'))
  have HB4 := hide hB4'
  clear hB4'
  go_wp2_with fail
  refine c4.out.mono ?_
  rintro e w5 ⟨rfl, hB5⟩
  have hB5' := HB4.out.trans (hB5.mono HB4.out.size)
  clear hcS4 hcV4 HB4 hB5 c4
  have bS5 := boxed_below HS2.out hB5'
  have bV5 := boxed_below HV2.out hB5'
  have bR5 := boxed_below HR2.out hB5'
  have hv5 := Hv2.out.below hB5'
  have hBw5 := HBw2.out.trans (hB5'.mono HBw2.out.size)
  have hcS5 := bS5.cell
  have hcS6 := (bS5.alloc (.cells #[.int .i64 0] 3)).cell
  have HS5 := hide bS5
  have HV5 := hide bV5
  have HR5 := hide bR5
  have Hv5 := hide hv5
  have HBw5 := hide hBw5
  have hz5 := hB5'.size
  clear HS2 HV2 HR2 Hv2 HBw2 hB5' bS5 bV5 bR5 hv5 hBw5
  go_wp2_with (go_at_call 16; refine all_any.mono ?_; rintro e w' ⟨rfl, rfl⟩)
  have bK := (Boxed.new w5 3 (.int .i64 0)).alloc (.cells #[.string s] 9)
  have bQ := Boxed.new (w5.alloc (.cells #[.int .i64 0] 3)) 9 (.string s)
  simp only [World.size_alloc] at bK bQ
  clear hcS5 hcS6
  refine (wpIn_wide (n := 4)).1 ?_
  refine' wpIn_rangeFunc_ownG rfl (by omega) (gf := 31) (lb := #[.pointer (some ⟨w5.heap.size + 1, 0, none⟩)]) (by simp [go_sem]) trivial (enters_of Try.func31 (by kernel_rfl) rfl)
    (HST.out _ _ w5.heap.size bQ) ukp_t (ukp_b (by simp; try omega) (by simp; try omega)) (Below.refl _ _) (fun _ => rfl)
    (fun pre W' => UWI w5.heap.size ps pre W' ∧ Below w5.heap.size w5 W')
    (fun c pre W' => c = .ret ∧ ¬ pre.map Subtype.val <+: uPl 0 ps)
    (OwnFrom.and (Own.from uwi_own _) (ownFrom_below (Nat.le_refl _) (by simp; try omega)))
    (fun _ _ _ _ _ hs _ _ => hs)
    ⟨⟨[], ps, rfl, rfl, bK⟩, ((Below.refl _ _).alloc (Nat.le_refl _) _).alloc (by simp) _⟩ _ _ _ _ _
  case refine'_2 =>
    intro l x W K hK
    gi_wp2
    exact hK
  case refine'_3 =>
    rintro l pre x W' ⟨⟨ds, rest, hps, hpre, bK⟩, hBK⟩ hlt
    have bV' := boxed_below HV5.out hBK
    have bS' := boxed_below HS5.out hBK
    have bR' := boxed_below HR5.out hBK
    have hvW := Hv5.out.below hBK
    have hcV := bV'.cell
    have hcS := bS'.cell
    have hcR := bR'.cell
    have hfR := bR'.frozen
    have hcK := bK.cell
    have hfK := bK.frozen
    have hdl : ds.length ≤ ps.length := by rw [hps, List.length_append]; omega
    have HK := hide bK
    have HBK := hide hBK
    have Hpre := hide hpre
    have Hps := hide hps
    have hltK := bK.lt
    cases rest with
    | nil =>
      have hno : ¬ (pre ++ [x]).map Subtype.val <+: uPl 0 ps := fun g => utells_end hpre (by rw [hps, List.append_nil] at g; exact g)
      have HNO := hide hno
      have q3 : (ps.length : Int) ≤ (ds.length : Int) := by rw [hps, List.append_nil]; omega
      clear bV' bS' bR' bK hBK hpre hps hno hvW
      obtain ⟨⟨x1, x2⟩, hx1, hx2, hx3⟩ := x
      simp only
      gi_wp2
      exact ⟨(KeepsOthers.setCell _ _ _).from _, rfl, HNO.out⟩
    | cons p rest =>
      have hdl2 : ds.length < ps.length := by rw [hps, List.length_append, List.length_cons]; omega
      have q3 : ¬ (ps.length : Int) ≤ (ds.length : Int) := by omega
      have HVW := hide hvW
      obtain ⟨ao', cap', hve, _, _, hcl⟩ := hvW
      obtain ⟨rfl, -, rfl⟩ : ao = ao' ∧ True ∧ cap = cap' := by injection hve with a b c; exact ⟨a, trivial, c⟩
      obtain ⟨g, rfl, hgl, hcl⟩ := hcl (by omega)
      have hget : (uPl 0 ps)[ds.length]? = some (((uFlat ds).length : Int), p) := by
        rw [hps, uPl_append, List.getElem?_append_right (by rw [uPl_len]; omega), uPl_len]; simp [uPl]
      obtain ⟨g0, g2⟩ := hcl _ _ hget
      have hpx := hide (fun h => utells_pre (ys := pre) (x := x) (ds := ds) (p := p) (rest := rest) hpre h)
      have Hpl := hide (show uPl 0 (ds ++ [p]) = uPl 0 ds ++ [(((uFlat ds).length : Int), p)] by rw [uPl_append]; simp [uPl])
      obtain ⟨m, hm⟩ : ∃ m, (uFlat ds).length = m := ⟨_, rfl⟩
      simp only [hm] at g0 g2 hpx Hpl
      clear bV' bS' bR' bK hBK hpre hps hcl hget hm hve
      obtain ⟨⟨x1, x2⟩, hx1, hx2, hx3⟩ := x
      have hxr := uPt_iff.1 hx1
      have q6 : IntKind.i64.wrap x2 = x2 := by simp [IntKind.wrap, IntKind.bits, IntKind.signed]; omega
      simp only at hpx ⊢
      by_cases h1 : (m : Int) = x1
      · have q4 : ((m : Int) != x1) = false := by simp [h1]
        by_cases h2 : p = x2
        · have q5 : (p != x2) = false := by simp [h2]
          have H1 := hide h1
          have H2 := hide h2
          clear h1 h2 hpx
          by_cases h3 : ds.length < 3
          · have q7 : (ds.length : Int) < 3 := by omega
            have c2 := hide (HWK.out 2 W' _ HVW.out)
            clear h3
            gi_wp2_with fail
            refine ⟨trivial, (CallsIn.inRound l (callsIn_wide.2 c2.out)).mono ?_⟩
            rintro e w8 ⟨rfl, hB8⟩
            have bK8 := boxed_below HK.out hB8
            have hcK8 := bK8.cell
            have hfK8 := bK8.frozen
            have HK8 := hide bK8
            have HB8 := hide hB8
            have hB8' : Below w5.heap.size W' w8 := hB8.mono (by omega)
            have HB8' := hide hB8'
            clear bK8 hB8 c2 hB8'
            gi_wp2
            refine ⟨(KeepsFrom.trans (ukeeps_below HB8.out) ((KeepsOthers.setCell _ _ _).from _)), ⟨HB8'.out.setCell (p := ⟨w5.heap.size, 0, none⟩) (Nat.le_refl _) _, fun v h => (boxed_below h HB8.out).other (by omega) _⟩, ⟨ds ++ [p], rest, by rw [Hps.out]; simp, ?_, ?_⟩, (HBK.out.trans HB8'.out).setCell (p := ⟨w5.heap.size, 0, none⟩) (Nat.le_refl _) _⟩
            · rw [List.map_append, Hpre.out, Hpl.out]
              simp [H1.out, H2.out]
            · have := HK8.out.set (.int .i64 ((ds.length : Int) + 1))
              simpa using this
          · have q7 : ¬ (ds.length : Int) < 3 := by omega
            have q8 : decide ((ds.length : Int) < 3) = false := decide_eq_false q7
            have q9 : decide (ds.length < 3) = false := decide_eq_false h3
            gi_wp2
            refine ⟨trivial, ?_⟩
            gi_wp2
            refine ⟨(KeepsOthers.setCell _ _ _).from _, ⟨(Below.refl _ _).setCell (p := ⟨w5.heap.size, 0, none⟩) (Nat.le_refl _) _, fun v h => h.other (by omega) _⟩, ⟨ds ++ [p], rest, by rw [Hps.out]; simp, ?_, ?_⟩, HBK.out.setCell (p := ⟨w5.heap.size, 0, none⟩) (Nat.le_refl _) _⟩
            · rw [List.map_append, Hpre.out, Hpl.out]
              simp [H1.out, H2.out]
            · have := HK.out.set (.int .i64 ((ds.length : Int) + 1))
              simpa using this
        · have q5 : (p != x2) = true := by simp [h2]
          have HNO := hide (show ¬ (pre ++ [(⟨(x1, x2), hx1, hx2, hx3⟩ : UPair)]).map Subtype.val <+: uPl 0 ps from fun h => by
            have := hpx.out (by rw [Hps.out] at h; exact h)
            simp at this; exact h2 this.2.symm)
          clear h1 h2 hpx
          gi_wp2
          exact ⟨(KeepsOthers.setCell _ _ _).from _, rfl, HNO.out⟩
      · have q4 : ((m : Int) != x1) = true := by simp [h1]
        have HNO := hide (show ¬ (pre ++ [(⟨(x1, x2), hx1, hx2, hx3⟩ : UPair)]).map Subtype.val <+: uPl 0 ps from fun h => by
          have := hpx.out (by rw [Hps.out] at h; exact h)
          simp at this; exact h1 this.1.symm)
        clear h1 hpx
        gi_wp2
        exact ⟨(KeepsOthers.setCell _ _ _).from _, rfl, HNO.out⟩
  case refine'_4 =>
    rintro D ys W' hD hys ⟨⟨ds, rest, hps, hpre, bK⟩, hBK⟩ hK
    have hds : ds = ps := uPl_inj (hpre.symm.trans hys)
    subst hds
    have bR' := boxed_below HR5.out hBK
    have hcV := (boxed_below HV5.out hBK).cell
    have hcK := bK.cell
    have hltR := bR'.lt
    have HR := hide bR'
    have HB := hide (HBw5.out.trans (hBK.mono HBw5.out.size))
    have q1 : ((ds.length : Int) == (ds.length : Int)) = true := by simp
    clear hps hpre bK hBK hys bR'
    have HD := hide hD
    have HK := hide hK
    clear hD hK
    go_wp2_with (go_at_call 10; refine ulives_any.mono ?_; rintro e w8 ⟨rfl, hB8⟩; have bR8 := boxed_below HR.out hB8; have hcR8 := bR8.cell; have hfR8 := bR8.frozen)
    have hD8 := (hB8.block D (Array.getElem?_eq_some_iff.1 HK.out).1).trans HK.out
    have hDz := HD.out
    have hBz := HBw5.out.size
    simp only [World.size_alloc] at hDz
    refine marks_leave (A := w.heap.size) (B := w.heap.size + 1) (t := 4) (v := .bool true) (w0 := w) (Nat.le_refl _) ?_ [D] _ ?_ (by simp) (bR8.set _) ((HB.out.trans (hB8.mono HB.out.size)).setCell (p := ⟨w.heap.size + 1, 0, none⟩) (show w.heap.size ≤ w.heap.size + 1 by omega) _)
    · intro w' hb' hB'
      have hc := hb'.cell
      exact ⟨by simp [results, Try.f5, go_sem, hc], rfl, hB'⟩
    · intro E hE
      obtain rfl := List.mem_singleton.1 hE
      exact ⟨by omega, (KeepsOthers.setCell w8 ⟨w.heap.size + 1, 0, none⟩ (.bool true)).same E _ hD8 rfl⟩
  case refine'_5 =>
    rintro D c pre W' _ hpx ⟨_, hno⟩ _
    exact absurd hpx hno

end Go.Proofs.Yteejbcknikjkjaa
