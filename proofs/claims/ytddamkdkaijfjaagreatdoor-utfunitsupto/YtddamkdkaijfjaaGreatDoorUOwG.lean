/- ref09: FromUnits -/
import Derived.Test.YtddamkdkaijfjaaGreatDoorUOwF
namespace Go.Proofs.YtddamkdkaijfjaaGreatDoor
open Go.RowKit
set_option linter.unusedVariables false

set_option maxRecDepth 100000 in
set_option maxHeartbeats 8000000 in
theorem rfromunits_any {v : Value} {us ps t : List Int} {w : World} (hr : Reads .u16 w v us) (hu : uU16 us) (hl : us.length ≤ 1048576) (hJ : UJoin us ps t) :
    Calls Tryz.prog 19 #[v] w fun e w' => e = .returned (.tuple #[.string (strOfNums (if t.isEmpty then uFlat ps else [])), .bool t.isEmpty]) ∧ Below w.heap.size w w' := by
  obtain ⟨ao, ca, rfl, hxl, hxm, hxc⟩ := hr
  unfold maxLen at hxm
  have HJ := hide hJ
  have HU := hide hu
  have hpl : ps.length ≤ us.length := by
    have e := congrArg List.length hJ.eq
    rw [List.length_append] at e
    have : ps.length ≤ (ps.flatMap uU).length := by
      clear e HJ hJ
      induction ps with
      | nil => simp
      | cons p ps ih =>
        rw [List.flatMap_cons, List.length_append, List.length_cons]
        have := uU_pos p
        omega
    omega
  clear hJ hu
  go_enter Tryz.func19, Tryz.ntmps19
  go_wp2
  go_loopg [4, 5] us.length (fun c b i wr => ∃ m : Nat, m ≤ ps.length ∧ i = .int .i64 (((ps.take m).flatMap uU).length : Nat) ∧ c = us.length - ((ps.take m).flatMap uU).length ∧ Hid (wr.ownsRow w.heap.size 5 1 b (uFlat (ps.take m)).length ((uFlat (ps.take m)).map (Value.int .u8))) ∧ Below w.heap.size w wr)
  case atStart => exact ⟨0, by omega, rfl, rfl, hide (World.ownsRow_nil _ _ _ _), Below.refl _ _⟩
  case round =>
    obtain ⟨m, hm, rfl, hg, hrow, hbr⟩ := hrel
    have hzr := hbr.size
    have hfl := uFlat_le (ps.take m)
    rw [List.length_take] at hfl
    by_cases hlt : m < ps.length
    · obtain ⟨hn1, hn2⟩ := ujoin_len HJ.out hlt
      have hat := ujoin_at HJ.out hlt
      have hpt := HJ.out.pts _ (List.getElem_mem hlt)
      have HT := hide (show uFlat (ps.take (m + 1)) = uFlat (ps.take m) ++ uEnc ps[m] by rw [List.take_succ_eq_append_getElem hlt, uFlat_snoc])
      have hpos := uU_pos ps[m]
      obtain ⟨p, hp⟩ : ∃ p, ps[m] = p := ⟨_, rfl⟩
      rw [hp] at hn1 hn2 hat hpt HT hpos
      have hpr := uPt_iff.1 hpt
      obtain ⟨L, hL⟩ : ∃ L, (uFlat (ps.take m)).length = L := ⟨_, rfl⟩
      obtain ⟨F, hF⟩ : ∃ F, uFlat (ps.take m) = F := ⟨_, rfl⟩
      rw [hF] at HT
      rw [hL, hF] at hrow
      rw [hL] at hfl
      have HN2 := hide hn2
      obtain ⟨i, hi⟩ : ∃ i, ((ps.take m).flatMap uU).length = i := ⟨_, rfl⟩
      rw [hi] at hn1 hat hg HN2 ⊢
      have HFL := hide (show F.length = L by rw [← hF]; exact hL)
      clear hp hL hF hi hn2
      have hel := uEnc_le p
      have hih : i < us.length := by omega
      obtain ⟨b1, o1, rfl, _, hc1⟩ := (hxc.below hbr) (by omega)
      obtain ⟨b0, o0, e0, hb0, _⟩ := hxc (by omega)
      cases e0
      have g1 := hc1 i hih
      have h0 := hat 0
      rw [Nat.add_zero] at h0
      have q1 : (i : Int) < (us.length : Int) := by omega
      have HE := hide (fun w => renc_any (w := w) hpt)
      have HEK := hide (fun w => renc_k (w := w) hpt)
      by_cases hp6 : p < 65536
      · have e : uU p = [p] := by unfold uU; rw [if_pos hp6]
        rw [e] at h0 HN2
        have h0' : Nt.lb us i = p := by rw [h0]; rfl
        rw [h0'] at g1
        have CH := hide (fun w => rhigh_any (w := w) (r := p))
        have CL := hide (fun w => rlow_any (w := w) (r := p))
        rw [uHi_no.2 (by omega)] at CH
        rw [uLo_no.2 (by omega)] at CL
        clear hat h0 h0' hc1 e
        go_wp2_with (first
          | (go_at_call 83; refine (CH.out _).mono ?_; rintro e w' ⟨rfl, rfl⟩)
          | (go_at_call 84; refine (CL.out _).mono ?_; rintro e w' ⟨rfl, rfl⟩)
          | (go_at_call 29; refine (HE.out _).mono ?_; rintro e w' ⟨rfl, rfl⟩)
          | (at_builtin; refine uwpList_append_ints _ rfl _ _ 66 rfl w.heap.size 5 .u8 1 Tryz.underlying66 Tryz.infoU8t u4 _ F rfl (hrow.out.alloc _) (some ⟨w'.heap.size, 0, none⟩) (uEnc p).length (uEnc p) rfl (renc_cells (w := w') p) (by unfold maxLen; omega) (by omega) (by simp; omega) ?_; intro v' w2 hown' hgrow; have HO := hide hown'; have HB2 := hide (own_grows4 (hbr.alloc (by omega) _) (by simp; omega) (hrow.out.alloc _) hgrow); clear hown' hgrow))
        go_roundg (us.length - ((ps.take (m + 1)).flatMap uU).length)
        case measure => have h := HN2.out; rw [List.length_singleton] at h; omega
        case rel => exact ⟨m + 1, by omega, by rw [HN2.out]; simp, rfl, hide (by rw [HT.out, List.length_append, HFL.out]; exact HO.out), HB2.out⟩
      · have e : uU p = [55296 + (p - 65536) / 1024, 56320 + (p - 65536) % 1024] := by unfold uU; rw [if_neg hp6]
        rw [e] at h0 HN2 hn1
        have h1 := hat 1
        rw [e] at h1
        obtain ⟨ua, hua⟩ : ∃ a, 55296 + (p - 65536) / 1024 = a := ⟨_, rfl⟩
        obtain ⟨ub, hub⟩ : ∃ a, 56320 + (p - 65536) % 1024 = a := ⟨_, rfl⟩
        rw [hua, hub] at h0 h1 HN2 hn1
        have h0' : Nt.lb us i = ua := by rw [h0]; rfl
        have h1' : Nt.lb us (i + 1) = ub := by rw [h1]; rfl
        have hi1 : i + 1 < us.length := by simp at hn1; omega
        have g2 := hc1 (i + 1) hi1
        rw [h0'] at g1
        rw [h1'] at g2
        have CH := hide (fun w => rhigh_any (w := w) (r := ua))
        have CL := hide (fun w => rlow_any (w := w) (r := ub))
        rw [uHi_iff.2 (by omega)] at CH
        rw [uLo_iff.2 (by omega)] at CL
        have q2 : (i : Int) + 1 < (us.length : Int) := by omega
        have ra : 55296 ≤ ua ∧ ua < 56320 := by omega
        have rb : 56320 ≤ ub ∧ ub < 57344 := by omega
        have hpv : 65536 + (ua - 55296) * 1024 + ub - 56320 = p := by omega
        have HPV := hide hpv
        have w1 : IntKind.i64.wrap ua = ua := by rw [IntKind.wrap_i64] <;> omega
        have w9 : IntKind.i64.wrap p = p := by rw [IntKind.wrap_i64] <;> omega
        have w0 : ¬ (i : Int) + 1 < 0 := by omega
        have w2 : IntKind.i64.wrap (ua - 55296) = ua - 55296 := by rw [IntKind.wrap_i64] <;> omega
        have w3 : IntKind.i64.wrap ((ua - 55296) * 1024) = (ua - 55296) * 1024 := by rw [IntKind.wrap_i64] <;> omega
        have w4 : IntKind.i64.wrap (65536 + (ua - 55296) * 1024) = 65536 + (ua - 55296) * 1024 := by rw [IntKind.wrap_i64] <;> omega
        have w5 : IntKind.i64.wrap ((i : Int) + 1) = (i : Int) + 1 := by rw [IntKind.wrap_i64] <;> omega
        have w6 : IntKind.i64.wrap ub = ub := by rw [IntKind.wrap_i64] <;> omega
        have w7 : IntKind.i64.wrap (65536 + (ua - 55296) * 1024 + ub) = 65536 + (ua - 55296) * 1024 + ub := by rw [IntKind.wrap_i64] <;> omega
        have w8 : IntKind.i64.wrap (65536 + (ua - 55296) * 1024 + ub - 56320) = p := by rw [hpv, IntKind.wrap_i64] <;> omega
        clear hat h0 h0' h1 h1' hc1 e hua hub
        go_wp2_with (first
          | (go_at_call 83; refine (CH.out _).mono ?_; rintro e w' ⟨rfl, rfl⟩)
          | (go_at_call 84; refine (CL.out _).mono ?_; rintro e w' ⟨rfl, rfl⟩)
          | fail)
        have CC : ∀ u : World, Below w.heap.size w' u → u.cell? ⟨b1, o1 + i, none⟩ = some (.int .u16 ua) ∧ u.cell? ⟨b1, o1 + (i + 1), none⟩ = some (.int .u16 ub) := fun u hu => ⟨(hu.cell (p := ⟨b1, o1 + i, none⟩) hb0).trans g1, (hu.cell (p := ⟨b1, o1 + (i + 1), none⟩) hb0).trans g2⟩
        have K : Below w.heap.size w' w'.drew := (Below.refl _ _).drew
        have HC0 := CC _ K
        refine wpHl.region0 (C := fun u => u.cell? ⟨b1, o1 + i, none⟩ = some (.int .u16 ua) ∧ u.cell? ⟨b1, o1 + (i + 1), none⟩ = some (.int .u16 ub)) (by kernel_rfl) (by kernel_rfl) (fun HS => ?_)
        refine wpHl.tk0 (i := 0) (d := some 41) (v := u4) rfl HS (by as_aux_lemma => kernel_rfl) rfl (fun _ _ _ h => h) (Or.inl ⟨by rfl, ?_⟩) HC0 ?_
        · intro u hC
          go_simp
        simp only [Act.put, List.setIfInBounds_toArray, List.set_cons_zero, List.set_cons_succ]
        refine wpHl.tk0 (i := 1) (d := some 42) (v := .slice (some ⟨b1, o1, none⟩) us.length ca) rfl HS (by as_aux_lemma => kernel_rfl) rfl (fun _ _ _ h => h) (Or.inl ⟨by rfl, ?_⟩) HC0 ?_
        · intro u hC
          go_simp
        simp only [Act.put, List.setIfInBounds_toArray, List.set_cons_zero, List.set_cons_succ]
        refine wpHl.tk0 (i := 2) (d := some 43) (v := .int .i64 (i : Int)) rfl HS (by as_aux_lemma => kernel_rfl) rfl (fun _ _ _ h => h) (Or.inl ⟨by rfl, ?_⟩) HC0 ?_
        · intro u hC
          go_simp
        simp only [Act.put, List.setIfInBounds_toArray, List.set_cons_zero, List.set_cons_succ]
        refine wpHl.tk0 (i := 3) (d := some 44) (v := .pointer (some ⟨b1, o1 + i, none⟩)) rfl HS (by as_aux_lemma => kernel_rfl) rfl (fun _ _ _ h => h) (Or.inl ⟨by rfl, ?_⟩) HC0 ?_
        · intro u hC
          go_simp
        simp only [Act.put, List.setIfInBounds_toArray, List.set_cons_zero, List.set_cons_succ]
        refine wpHl.tk0 (i := 4) (d := some 45) (v := .int .u16 ua) rfl HS (by as_aux_lemma => kernel_rfl) rfl (fun _ _ _ h => h) (Or.inl ⟨by rfl, ?_⟩) HC0 ?_
        · intro u hC
          obtain ⟨z0, z1⟩ := hC
          go_simp
        simp only [Act.put, List.setIfInBounds_toArray, List.set_cons_zero, List.set_cons_succ]
        refine wpHl.tk0 (i := 5) (d := some 46) (v := .int .i64 ua) rfl HS (by as_aux_lemma => kernel_rfl) rfl (fun _ _ _ h => h) (Or.inl ⟨by rfl, ?_⟩) HC0 ?_
        · intro u hC
          go_simp
        simp only [Act.put, List.setIfInBounds_toArray, List.set_cons_zero, List.set_cons_succ]
        refine wpHl.tk0 (i := 6) (d := some 47) (v := .int .i64 (ua - 55296)) rfl HS (by as_aux_lemma => kernel_rfl) rfl (fun _ _ _ h => h) (Or.inl ⟨by rfl, ?_⟩) HC0 ?_
        · intro u hC
          go_simp
        simp only [Act.put, List.setIfInBounds_toArray, List.set_cons_zero, List.set_cons_succ]
        refine wpHl.tk0 (i := 7) (d := some 48) (v := .int .i64 ((ua - 55296) * 1024)) rfl HS (by as_aux_lemma => kernel_rfl) rfl (fun _ _ _ h => h) (Or.inl ⟨by rfl, ?_⟩) HC0 ?_
        · intro u hC
          go_simp
        simp only [Act.put, List.setIfInBounds_toArray, List.set_cons_zero, List.set_cons_succ]
        refine wpHl.tk0 (i := 8) (d := some 49) (v := .int .i64 (65536 + (ua - 55296) * 1024)) rfl HS (by as_aux_lemma => kernel_rfl) rfl (fun _ _ _ h => h) (Or.inl ⟨by rfl, ?_⟩) HC0 ?_
        · intro u hC
          go_simp
        simp only [Act.put, List.setIfInBounds_toArray, List.set_cons_zero, List.set_cons_succ]
        refine wpHl.tk0 (i := 9) (d := some 50) (v := .slice (some ⟨b1, o1, none⟩) us.length ca) rfl HS (by as_aux_lemma => kernel_rfl) rfl (fun _ _ _ h => h) (Or.inl ⟨by rfl, ?_⟩) HC0 ?_
        · intro u hC
          go_simp
        simp only [Act.put, List.setIfInBounds_toArray, List.set_cons_zero, List.set_cons_succ]
        refine wpHl.tk0 (i := 10) (d := some 51) (v := .int .i64 (i : Int)) rfl HS (by as_aux_lemma => kernel_rfl) rfl (fun _ _ _ h => h) (Or.inl ⟨by rfl, ?_⟩) HC0 ?_
        · intro u hC
          go_simp
        simp only [Act.put, List.setIfInBounds_toArray, List.set_cons_zero, List.set_cons_succ]
        refine wpHl.tk0 (i := 11) (d := some 52) (v := .int .i64 ((i : Int) + 1)) rfl HS (by as_aux_lemma => kernel_rfl) rfl (fun _ _ _ h => h) (Or.inl ⟨by rfl, ?_⟩) HC0 ?_
        · intro u hC
          go_simp
        simp only [Act.put, List.setIfInBounds_toArray, List.set_cons_zero, List.set_cons_succ]
        refine wpHl.tk0 (i := 12) (d := some 53) (v := .pointer (some ⟨b1, o1 + (i + 1), none⟩)) rfl HS (by as_aux_lemma => kernel_rfl) rfl (fun _ _ _ h => h) (Or.inl ⟨by rfl, ?_⟩) HC0 ?_
        · intro u hC
          go_simp
        simp only [Act.put, List.setIfInBounds_toArray, List.set_cons_zero, List.set_cons_succ]
        refine wpHl.tk0 (i := 13) (d := some 54) (v := .int .u16 ub) rfl HS (by as_aux_lemma => kernel_rfl) rfl (fun _ _ _ h => h) (Or.inl ⟨by rfl, ?_⟩) HC0 ?_
        · intro u hC
          obtain ⟨z0, z1⟩ := hC
          go_simp
        simp only [Act.put, List.setIfInBounds_toArray, List.set_cons_zero, List.set_cons_succ]
        refine wpHl.tk0 (i := 14) (d := some 55) (v := .int .i64 ub) rfl HS (by as_aux_lemma => kernel_rfl) rfl (fun _ _ _ h => h) (Or.inl ⟨by rfl, ?_⟩) HC0 ?_
        · intro u hC
          go_simp
        simp only [Act.put, List.setIfInBounds_toArray, List.set_cons_zero, List.set_cons_succ]
        refine wpHl.tk0 (i := 15) (d := some 56) (v := .int .i64 (65536 + (ua - 55296) * 1024 + ub)) rfl HS (by as_aux_lemma => kernel_rfl) rfl (fun _ _ _ h => h) (Or.inl ⟨by rfl, ?_⟩) HC0 ?_
        · intro u hC
          go_simp
        simp only [Act.put, List.setIfInBounds_toArray, List.set_cons_zero, List.set_cons_succ]
        refine wpHl.tk0 (i := 16) (d := some 57) (v := .int .i64 p) rfl HS (by as_aux_lemma => kernel_rfl) rfl (fun _ _ _ h => h) (Or.inl ⟨by rfl, ?_⟩) HC0 ?_
        · intro u hC
          go_simp
        simp only [Act.put, List.setIfInBounds_toArray, List.set_cons_zero, List.set_cons_succ]
        refine wpHl.one (i := 17) (by as_aux_lemma => kernel_rfl) rfl (fun K1 hK1 => ?_)
        rw [if_pos (by rfl)]
        refine wp_call_of (f := 29) (args := #[.int .i64 p]) (by kernel_rfl) ?_
        with_reducible refine (HEK.out _).mono ?_
        rintro e wn ⟨rfl, hce, hb⟩
        replace K := K.trans (hb.mono (Nat.le_trans hzr K.size))
        have HCE := hide hce
        have KB := hide (show Below w'.heap.size w' wn from ((Below.refl w'.heap.size w').drew).trans hb)
        clear hce
        clear HC0
        have HC0 := CC _ K
        refine hK1 (Act.put _ (some 58) _) _ ⟨fun _ => HC0, ?_⟩
        clear hK1 K1 hb
        try simp only [Act.put, List.setIfInBounds_toArray, List.set_cons_zero, List.set_cons_succ]
        refine wpHl.one (i := 18) (by as_aux_lemma => kernel_rfl) rfl (fun K1 hK1 => ?_)
        rw [if_pos (by rfl)]
        have hown := owns_farU hrow.out K (fun k e => (KB.out.block k (hrow.out.lt k e).2))
        obtain ⟨v5, w5, hrun, hO5, hG5⟩ := run_append_u8 (c := (uEnc p).length) hown HCE.out (by omega) (Nat.le_trans hzr K.size) _
        refine uop_append (.tmp 41) (.tmp 58) rfl rfl rfl hrun ?_
        have HO := hide hO5
        replace K := grown_belowU K (Nat.le_trans hzr K.size) hG5 (fun k e => (hown.lt k e).1)
        clear hown hrun hO5 hG5
        clear HC0
        have HC0 := CC _ K
        refine hK1 (Act.put _ (some 59) _) _ ⟨fun _ => HC0, ?_⟩
        clear hK1 K1
        try simp only [Act.put, List.setIfInBounds_toArray, List.set_cons_zero, List.set_cons_succ]
        refine wpHl.tk0 (i := 19) (d := some 4) (v := v5) rfl HS (by as_aux_lemma => kernel_rfl) rfl (fun _ _ _ h => h) (Or.inl ⟨by rfl, ?_⟩) HC0 ?_
        · intro u hC
          go_simp
        simp only [Act.put, List.setIfInBounds_toArray, List.set_cons_zero, List.set_cons_succ]
        refine wpHl.done (by as_aux_lemma => kernel_rfl) ?_ _
        clear CC HC0 HS
        have HB2 := hide (hbr.trans K)
        have hS := HN2.out
        simp only [List.length_cons, List.length_nil] at hS
        go_wp2
        go_roundg (us.length - ((ps.take (m + 1)).flatMap uU).length)
        case measure => omega
        case rel => exact ⟨m + 1, by omega, by rw [hS]; simp; omega, rfl, hide (by rw [HT.out, List.length_append, HFL.out]; exact HO.out), HB2.out⟩
    · obtain rfl : m = ps.length := by omega
      rw [List.take_length] at hrow hg ⊢
      have hus := HJ.out.eq
      have hbad := HJ.out.bad
      cases t with
      | nil =>
        have hi : (ps.flatMap uU).length = us.length := by rw [hus]; simp
        rw [hi]
        have q1 : ¬ (us.length : Int) < (us.length : Int) := by omega
        have hcv := own_conv hrow.out
        clear hus hbad hi hxc
        go_wp2
        go_ret2
        exact ⟨rfl, hbr⟩
      | cons x r =>
        have hlen : us.length = (ps.flatMap uU).length + (r.length + 1) := by rw [hus]; simp
        have h0 : Nt.lb us ((ps.flatMap uU).length + 0) = x := by rw [hus, lb_appU]; rfl
        have h1 : ∀ b s, r = b :: s → Nt.lb us ((ps.flatMap uU).length + 1) = b := by intro b s e; rw [hus, lb_appU, e]; rfl
        rw [Nat.add_zero] at h0
        obtain ⟨i, hi⟩ : ∃ i, (ps.flatMap uU).length = i := ⟨_, rfl⟩
        rw [hi] at hlen h0 h1 ⊢
        clear hi hus hg
        obtain ⟨b1, o1, rfl, _, hc1⟩ := (hxc.below hbr) (by omega)
        have g1 := hc1 i (by omega)
        have g2 := fun h => hc1 (i + 1) h
        rw [h0] at g1
        have q1 : (i : Int) < (us.length : Int) := by omega
        have CH := hide (fun w => rhigh_any (w := w) (r := x))
        have CX := hide (fun w => rlow_any (w := w) (r := x))
        have hx := uJn_bad hbad
        clear hc1 hbad hrow hxc
        obtain ⟨k1, k2⟩ | ⟨k1, k2⟩ | ⟨b, s, rfl, k1, k2⟩ := hx
        · rw [k1] at CH
          rw [k2] at CX
          clear g2 h1 k1 k2
          go_wp2_with (first
            | (go_at_call 83; refine (CH.out _).mono ?_; rintro e w' ⟨rfl, rfl⟩)
            | (go_at_call 84; refine (CX.out _).mono ?_; rintro e w' ⟨rfl, rfl⟩)
            | fail)
          go_ret2
          exact ⟨rfl, hbr⟩
        · rw [k1] at CH
          have q2 : ¬ (i : Int) + 1 < (us.length : Int) := by rw [k2] at hlen; simp at hlen; omega
          clear g2 h1 k1 k2
          go_wp2_with (first
            | (go_at_call 83; refine (CH.out _).mono ?_; rintro e w' ⟨rfl, rfl⟩)
            | fail)
          go_ret2
          exact ⟨rfl, hbr⟩
        · rw [k1] at CH
          have CL := hide (fun w => rlow_any (w := w) (r := b))
          rw [k2] at CL
          have q2 : (i : Int) + 1 < (us.length : Int) := by simp at hlen; omega
          replace g2 := g2 (by omega)
          rw [h1 b s rfl] at g2
          clear h1 k1 k2
          go_wp2_with (first
            | (go_at_call 83; refine (CH.out _).mono ?_; rintro e w' ⟨rfl, rfl⟩)
            | (go_at_call 84; refine (CL.out _).mono ?_; rintro e w' ⟨rfl, rfl⟩)
            | fail)
          go_ret2
          exact ⟨rfl, hbr⟩

end Go.Proofs.YtddamkdkaijfjaaGreatDoor
