/- EnC -/
import Derived.Test.YtinfkoiifemjmaaGreatDoorS15
import Derived.Deep.CutBlock
namespace Go.Proofs.YtinfkoiifemjmaaGreatDoor
open Go.RowKit
set_option linter.unusedVariables false
set_option linter.unusedSimpArgs false

theorem ten8_any {w : World} (j : Nat) (hj : j ≤ 2000) :
    Calls Tryz.prog 124 #[.int .i64 j] w fun e w' => ∃ v, e = .returned v ∧ Num w.heap.size w' v (10 ^ j) 2048 ∧ Below w.heap.size w w' := by
  go_enter Tryz.func124, Tryz.ntmps124
  go_wp2_with fail
  with_reducible refine (rpow_ten j hj).mono ?_
  rintro r w1 ⟨v, rfl, hv, K⟩
  have HV := hide hv
  have HK := hide K
  clear hv K
  go_wp2
  go_ret
  exact ⟨v, rfl, HV.out, HK.out⟩

/-- what Decimal answers -/
def D8 (N q : Int) (w : World) (e : Ending) (w' : World) : Prop := ∃ r, e = .returned (.int .u64 r) ∧ DV 4503599627370496 (-1074) 9218868437227405312 N q r ∧ Below w.heap.size w w'
theorem d8_mk {N q r : Int} {w w' : World} (h : DV 4503599627370496 (-1074) 9218868437227405312 N q r) (K : Below w.heap.size w w') : D8 N q w (.returned (.int .u64 r)) w' := ⟨r, rfl, h, K⟩
theorem tn_310 : (10 : Int) ^ 310 ≤ p2 1100 := by rw [p2_pow]; decide +kernel
theorem lb_drop8 {es : List Int} {k i : Nat} : Nt.lb (es.drop k) i = Nt.lb es (k + i) := by simp [Nt.lb, List.getElem?_drop]
theorem lb_take8 {es : List Int} {k i : Nat} (h : i < k) : Nt.lb (es.take k) i = Nt.lb es i := by simp [Nt.lb, List.getElem?_take, h]
theorem drop_one {es : List Int} {k : Nat} : (es.drop k).drop 1 = es.drop (k + 1) := by rw [List.drop_drop]
theorem dg_drop_nought {es : List Int} {k : Nat} (hk : k < es.length) (h : Nt.lb es k = 48) : dg (es.drop k) = dg (es.drop (k + 1)) := by
  have e : es.drop k = Nt.lb es k :: es.drop (k + 1) := by rw [lb_get hk]; exact List.drop_eq_getElem_cons hk
  rw [e, h]
  show (48 - 48) * tn (es.drop (k + 1)).length + dg (es.drop (k + 1)) = _
  omega
theorem dg_take_nought {es : List Int} {k c : Nat} (hk : k < es.length) (h : Nt.lb es k = 48) : dg (es.take (k + 1)) * tn c = dg (es.take k) * tn (c + 1) := by
  rw [dg_take hk, h, tn_succ, show dg (es.take k) * 10 + (48 - 48) = dg (es.take k) * 10 by omega, Int.mul_assoc]


set_option maxRecDepth 100000 in
set_option maxHeartbeats 8000000 in
theorem rdecimal {w : World} {es : List Int} {s : ByteArray} {p : Int} {N : Nat} (hd : Dgt es) (hs : s = strOfNums es) (hN : es.length = N) (hl : es.length ≤ 70368744177664) (p0 : -4611686018427387904 ≤ p) (p1 : p ≤ 4611686018427387904) :
    Calls Tryz.prog 85 #[.string s, .int .i64 p] w fun e w' => D8 (dg es) (p - N) w e w' := by
  have HD := hide hd
  have HN := hide hN
  rw [hN] at hl
  have hs0 : s = strOfNums (es.drop 0) := hs
  clear hd hN hs
  subst hs0
  obtain ⟨tx0, ht0⟩ : ∃ t, strOfNums (es.drop 0) = t := ⟨_, rfl⟩
  rw [ht0]
  go_enter Tryz.func85, Tryz.ntmps85
  go_wp2
  go_loopg [0, 1] N (fun c s0 s1 wr => ∃ (k : Nat) (tx : ByteArray), k ≤ N ∧ c = N - k ∧ s0 = .string tx ∧ Hid (tx = strOfNums (es.drop k)) ∧ s1 = .int .i64 (p - k) ∧ Hid (dg es = dg (es.drop k)) ∧ w = wr)
  case atStart => exact ⟨0, tx0, by omega, rfl, rfl, hide ht0.symm, by simp, hide rfl, rfl⟩
  case round =>
    clear ht0
    obtain ⟨k, tx, hk, hc, rfl, HT, rfl, HG, hw⟩ := hrel
    subst hw
    have hsz : tx.size = N - k := by rw [HT.out, strOfNums_size, List.length_drop, HN.out]
    obtain ⟨m, hm⟩ : ∃ m : Nat, N - k = m := ⟨_, rfl⟩
    rw [hm] at hsz
    by_cases hkN : k < N
    · have hp0 : 0 < tx.size := by omega
      have i0 : (((tx[0]'hp0).toNat : Nat) : Int) = Nt.lb es k := by
        have e := HT.out
        subst e
        rw [txt_at hp0 (HD.out.drop k).byt, lb_drop8, Nat.add_zero]
      have q0 : (0 : Int) < (m : Int) := by omega
      obtain ⟨d, hdd⟩ : ∃ d, Nt.lb es k = d := ⟨_, rfl⟩
      rw [hdd] at i0
      have HDD := hide hdd
      clear hdd
      by_cases c48 : d = 48
      · subst c48
        obtain ⟨t1, ht1⟩ : ∃ t, strOfNums (es.drop (k + 1)) = t := ⟨_, rfl⟩
        have x1 : tx.extract 1 m = t1 := by rw [HT.out, txt_cut, ← ht1, ← hm, ← HN.out, ← List.length_drop, List.take_length, drop_one]
        have x2 : IntKind.i64.wrap (p - (k : Int) - 1) = p - ((k + 1 : Nat) : Int) := by rw [IntKind.wrap_i64]; omega
        have f4 : (1 : Int) ≤ (m : Int) := by omega
        have HT1 := hide ht1.symm
        have HG1 := hide (HG.out.trans (dg_drop_nought (by rw [HN.out]; exact hkN) HDD.out))
        clear ht1 HG HT
        go_wp2
        go_roundg (N - (k + 1))
        case measure => omega
        case rel => exact ⟨k + 1, t1, by omega, rfl, rfl, HT1, rfl, HG1, rfl⟩
      · have c49 : (d == 48) = false := beq_eq_false_iff_ne.2 c48
        have hl0 : Nt.lb (es.drop k) 0 ≠ 48 := by rw [lb_drop8, Nat.add_zero, HDD.out]; exact c48
        obtain ⟨fs, hfs⟩ : ∃ f, es.drop k = f := ⟨_, rfl⟩
        have hfl : fs.length = m := by rw [← hfs, List.length_drop, HN.out, hm]
        have HF := hide (show Dgt fs by rw [← hfs]; exact HD.out.drop k)
        rw [hfs] at hl0
        have hT := HT.out
        have hG := HG.out
        rw [hfs] at hT hG
        have HL := hide hfl
        have HL0 := hide hl0
        obtain ⟨q, hq⟩ : ∃ q, p - (k : Int) = q := ⟨_, rfl⟩
        have qb : -4682054762605051904 ≤ q ∧ q ≤ 4611686018427387904 := by omega
        have HGG := hide (show ∀ r, DV 4503599627370496 (-1074) 9218868437227405312 (dg fs) (q - m) r → DV 4503599627370496 (-1074) 9218868437227405312 (dg es) (p - N) r from fun r h => by rw [hG, show p - (N : Int) = q - m by omega]; exact h)
        have m1 : 1 ≤ m := by omega
        have ml : m ≤ 70368744177664 := by omega
        rw [hq]
        have hfs2 : tx = strOfNums (fs.take m) := by rw [hT, ← hfl, List.take_length]
        have HT2 := hide hfs2
        clear hfs hfl hl0 hT hG HT HG hq c48 hkN hk hc HDD hm p0 p1 HD HN hfs2
        go_wp2
        go_loopg [0] m (fun c s0 wr => ∃ (k : Nat) (tx : ByteArray), 1 ≤ k ∧ k ≤ m ∧ c = k ∧ s0 = .string tx ∧ Hid (tx = strOfNums (fs.take k)) ∧ Hid (dg fs = dg (fs.take k) * tn (m - k)) ∧ w = wr)
        case atStart => exact ⟨m, tx, m1, Nat.le_refl _, rfl, rfl, HT2, hide (by rw [← HL.out, List.take_length, Nat.sub_self, tn_zero, Int.mul_one]), rfl⟩
        case round =>
          clear HT2 i0 hp0 hsz q0 c49
          obtain ⟨k, tx, k1, km, hc, rfl, HT, HG, hw⟩ := hrel
          subst hw
          have hsz : tx.size = k := by rw [HT.out, strOfNums_size, List.length_take, HL.out]; omega
          have hp0 : k - 1 < tx.size := by omega
          have i0 : (((tx[k - 1]'hp0).toNat : Nat) : Int) = Nt.lb fs (k - 1) := by
            have e := HT.out
            subst e
            rw [txt_at hp0 (HF.out.take k).byt, lb_take8 (by omega)]
          have q0 : (0 : Int) < (k : Int) := by omega
          have l1 : ((k - 1 : Nat) : Int) = (k : Int) - 1 := by omega
          have l2 : (0 : Int) ≤ (k : Int) - 1 := by omega
          have l3 : (k : Int) - 1 < (k : Int) := by omega
          have l4 : IntKind.i64.wrap ((k : Int) - 1) = (k : Int) - 1 := by rw [IntKind.wrap_i64]; omega
          have l5 : ((k : Int) - 1).toNat = k - 1 := by omega
          obtain ⟨d, hdd⟩ : ∃ d, Nt.lb fs (k - 1) = d := ⟨_, rfl⟩
          rw [hdd] at i0
          have HDD := hide hdd
          clear hdd
          by_cases c48 : d = 48
          · subst c48
            have k2 : 1 < k := by
              rcases Nat.lt_or_ge 1 k with g | g
              · exact g
              · exfalso
                have e := HDD.out
                rw [show k - 1 = 0 by omega] at e
                exact HL0.out e
            obtain ⟨t1, ht1⟩ : ∃ t, strOfNums (fs.take (k - 1)) = t := ⟨_, rfl⟩
            have x1 : tx.extract 0 (k - 1) = t1 := by rw [HT.out, txt_cut, ← ht1, List.drop_zero, List.take_take, Nat.min_eq_left (by omega)]
            have HT1 := hide ht1.symm
            have HG1 := hide (show dg fs = dg (fs.take (k - 1)) * tn (m - (k - 1)) by
              rw [HG.out, show m - (k - 1) = m - k + 1 by omega, ← dg_take_nought (es := fs) (k := k - 1) (by rw [HL.out]; omega) HDD.out, show k - 1 + 1 = k by omega])
            have l6 : (k : Int) - 1 ≤ (k : Int) := by omega
            clear ht1 HG HT
            go_wp2
            go_roundg (k - 1)
            case measure => omega
            case rel => exact ⟨k - 1, t1, by omega, by omega, rfl, rfl, HT1, HG1, rfl⟩
          · have c49 : (d == 48) = false := beq_eq_false_iff_ne.2 c48
            obtain ⟨gs, hgs⟩ : ∃ g, fs.take k = g := ⟨_, rfl⟩
            have hgl : gs.length = k := by rw [← hgs, List.length_take, HL.out]; omega
            have HZ := hide (show Nt.lb gs (gs.length - 1) ≠ 48 by rw [hgl, ← hgs, lb_take8 (by omega), HDD.out]; exact c48)
            have HZ0 := hide (show Nt.lb gs 0 ≠ 48 by rw [← hgs, lb_take8 (by omega)]; exact HL0.out)
            have HDG := hide (show Dgt gs by rw [← hgs]; exact HF.out.take k)
            have hT := HT.out
            have hG := HG.out
            rw [hgs] at hT hG
            have HT3 := hide hT
            have HGL := hide hgl
            have HGG2 := hide (show ∀ r, DV 4503599627370496 (-1074) 9218868437227405312 (dg gs) (q - k) r → DV 4503599627370496 (-1074) 9218868437227405312 (dg es) (p - N) r from fun r h => HGG.out r (by
              have e := dv_behind (m - k) h
              rw [← hG, show q - (k : Int) - ((m - k : Nat) : Int) = q - m by omega] at e
              exact e))
            have kl : k ≤ 70368744177664 := by omega
            clear HGG HL HL0 HF HT HG hT hG hgs hgl HDD c48 hc km k1 m1 ml
            have kz : ((k : Int) == 0) = false := by simp; omega
            have k1 : 1 ≤ k := by omega
            by_cases a1 : q < -345
            · have hr := hide (HGG2.out 0 (dv_small (k := k) wide_d (dg_range HDG.out).1 (by have := (dg_range HDG.out).2; rwa [HGL.out] at this) (by omega)))
              clear HGG2 HZ HZ0
              go_wp2
              go_ret
              exact d8_mk hr.out (Below.refl _ _)
            · by_cases a2 : 310 < q
              · have hr := hide (HGG2.out 9218868437227405312 (dv_large (k := k - 1) wide_d (by have := dg_lead' HDG.out (by rw [HGL.out]; omega) HZ0.out; rwa [HGL.out] at this) (by omega)))
                clear HGG2 HZ HZ0
                go_wp2
                go_ret
                exact d8_mk hr.out (Below.refl _ _)
              · go_upto_block 4 with fail
                clear l1 l2 l3 l4 l5 i0 c49 hp0
                go_cut [0] from 15 (fun s0 wx => ∃ (hs : List Int) (t : ByteArray), s0 = .string t ∧ Hid (t = strOfNums hs) ∧ Hid (Dgt hs ∧ 0 < hs.length ∧ hs.length ≤ 1101 ∧ Nt.lb hs 0 ≠ 48) ∧ Hid (∀ r, DV 4503599627370496 (-1074) 9218868437227405312 (dg hs) (q - hs.length) r → DV 4503599627370496 (-1074) 9218868437227405312 (dg es) (p - N) r) ∧ w = wx)
                case first =>
                  by_cases a3 : 1100 < k
                  · have b3 : (1100 : Int) < (k : Int) := by omega
                    obtain ⟨t1, ht1⟩ : ∃ t, strOfNums (gs.take 1100) = t := ⟨_, rfl⟩
                    have x1 : tx.extract 0 1100 = t1 := by rw [HT3.out, txt_cut, List.drop_zero, ht1]
                    have f4 : (1100 : Int) ≤ (k : Int) := by omega
                    have g1 : t1.size = 1100 := by rw [← ht1, strOfNums_size, List.length_take, HGL.out]; omega
                    have HX := hide (show t1 ++ ⟨#[49]⟩ = strOfNums (gs.take 1100 ++ [49]) by rw [← ht1, ← txt_join]; rfl)
                    have HLN := hide (show (gs.take 1100 ++ [49]).length = 1101 by rw [List.length_append, List.length_take, HGL.out]; simp; omega)
                    clear ht1
                    go_wp2_with fail
                    go_meet
                    exact ⟨gs.take 1100 ++ [49], _, rfl, HX, hide ⟨(HDG.out.take 1100).append (fun x hx => by simp at hx; omega), by rw [HLN.out]; omega, by rw [HLN.out]; omega, by
                      have e : Nt.lb (gs.take 1100 ++ [49]) 0 = Nt.lb gs 0 := by
                        have hl := HGL.out
                        cases gs with
                        | nil => exfalso; simp only [List.length_nil] at hl; omega
                        | cons a x => simp [Nt.lb]
                      rw [e]; exact HZ0.out⟩, hide (fun r h => HGG2.out r (by
                        rw [HLN.out] at h
                        have := d8_cut HDG.out (by rw [HGL.out]; exact a3) HZ0.out HZ.out (by omega) h
                        rwa [HGL.out] at this)), rfl⟩
                  · have b3 : ¬ (1100 : Int) < (k : Int) := by omega
                    go_wp2_with fail
                    go_meet
                    exact ⟨gs, tx, rfl, HT3, hide ⟨HDG.out, by rw [HGL.out]; omega, by rw [HGL.out]; omega, HZ0.out⟩, hide (fun r h => HGG2.out r (by rwa [HGL.out] at h)), rfl⟩
                case rest =>
                obtain ⟨hs, t, rfl, HT, HP, HG, rfl⟩ := hcut
                clear HT3 HGG2 HZ HZ0 HDG HGL kl kz k1 q0 hsz
                obtain ⟨hd, hp, hl1, hl0⟩ := HP.out
                obtain ⟨g, hg⟩ : ∃ g, hs.length = g := ⟨_, rfl⟩
                have tsz : t.size = g := by rw [HT.out, strOfNums_size, hg]
                obtain ⟨A, hA⟩ : ∃ A, dg hs = A := ⟨_, rfl⟩
                have A1 := (dg_range hd).2
                have A2 := dg_lead' hd hp hl0
                have HRD := hide (fun u : World => rread8 (w := u) hd HT.out (by omega) hp hl0)
                have hGG := HG.out
                rw [hA, hg] at A1 A2
                rw [hA] at HRD
                rw [hA, hg] at hGG
                rw [hg] at hp hl1
                have A0 : 0 < A := Int.lt_of_lt_of_le (tn_pos _) A2
                have HA1 := hide A1
                have HA2 := hide A2
                replace HG := hide hGG
                obtain ⟨z, hz⟩ : ∃ z, q - (g : Int) = z := ⟨_, rfl⟩
                have y1 : IntKind.i64.wrap (q - (g : Int)) = z := by rw [IntKind.wrap_i64]; omega
                have HZ := hide hz
                rw [hz] at HG
                clear hd hl0 hg hA A1 A2 hGG HP HT
                go_wp2_with fail
                with_reducible refine (HRD.out _).mono ?_
                rintro r w1 ⟨v, rfl, hv, K⟩
                have HV := hide hv.arg
                have HK := hide K
                clear hv K HRD
                by_cases c : 0 ≤ z
                · obtain ⟨j, rfl⟩ : ∃ j : Nat, z = j := ⟨z.toNat, by omega⟩
                  have hj : j ≤ 310 := by have := HZ.out; omega
                  have HB := hide (show A * 10 ^ j < p2 1100 by
                    have e1 : A * 10 ^ j < tn g * 10 ^ j := Int.mul_lt_mul_of_pos_right HA1.out (Int.pow_pos (by decide))
                    have e2 : tn g * 10 ^ j = tn (g + j) := (tn_add g j).symm
                    have e3 := tn_mono (a := g + j) (b := 310) (by have := HZ.out; omega)
                    have e4 : tn 310 ≤ p2 1100 := tn_310
                    omega)
                  clear HZ y1
                  go_wp2_with fail
                  with_reducible refine (ten8_any j (by omega)).mono ?_
                  rintro r w2 ⟨v2, rfl, h2, K⟩
                  have H2 := hide h2.arg
                  replace HV := hide (HV.out.below K)
                  replace HK := hide (below_trans HK.out K)
                  clear h2 K
                  go_wp2_with fail
                  with_reducible refine (rmul_any HV.out H2.out (by omega) (by omega)).mono ?_
                  rintro r w3 ⟨v3, rfl, h3, K⟩
                  have H3 := hide h3.arg
                  replace HK := hide (below_trans HK.out K)
                  clear h3 K HV H2
                  go_wp2_with fail
                  with_reducible refine (nearest_64 H3.out (by omega) HB.out (by omega) (by omega) (by omega)).mono ?_
                  rintro r w4 ⟨r0, rfl, hn, K⟩
                  have HR := hide (HG.out r0 (d8_up (by decide) (by decide) hn))
                  replace HK := hide (below_trans HK.out K)
                  clear hn K H3 HB
                  go_wp2
                  go_ret
                  exact d8_mk HR.out HK.out
                · obtain ⟨j, rfl⟩ : ∃ j : Nat, z = -(j : Int) := ⟨(-z).toNat, by omega⟩
                  have hj : j ≤ g - 1 + 346 ∧ j ≤ 1500 := by have := HZ.out; omega
                  have y2 : IntKind.i64.wrap (-(-(j : Int))) = (j : Int) := by rw [IntKind.wrap_i64]; omega
                  have y2' : -(-(j : Int)) = (j : Int) := by omega
                  have c' : ¬ (0 : Int) ≤ -(j : Int) := c
                  have y2'' : IntKind.i64.wrap (j : Int) = (j : Int) := by rw [IntKind.wrap_i64]; omega
                  have HRT := hide (d8_ratio HA2.out hj.1)
                  clear HZ
                  go_wp2_with fail
                  with_reducible refine (ten8_any j (by omega)).mono ?_
                  rintro r w2 ⟨v2, rfl, h2, K⟩
                  have H2 := hide h2.arg
                  replace HV := hide (HV.out.below K)
                  replace HK := hide (below_trans HK.out K)
                  clear h2 K y1 y2 y2' c' y2''
                  have D0 : (0 : Int) < 10 ^ j := Int.pow_pos (by decide)
                  obtain ⟨D, hD⟩ : ∃ D : Int, 10 ^ j = D := ⟨_, rfl⟩
                  have HD2 := hide hD
                  rw [hD] at H2 D0
                  have hrt := HRT.out
                  rw [hD] at hrt
                  clear hD HRT
                  obtain ⟨ld, hld, _⟩ := len_ex 65536 D (by omega) (by have := H2.out.ltq; rwa [← p2_32] at this)
                  obtain ⟨ln, hln, hln2⟩ := len_ex 3840 A (by omega) (by have := HV.out.ltq; rwa [← p2_32] at this)
                  have hld2 : ld ≤ 65536 := by assumption
                  obtain ⟨up, hup⟩ : ∃ up : Nat, (up : Int) = max 0 ((ld : Int) - ln + 70) := ⟨(max 0 ((ld : Int) - ln + 70)).toNat, by omega⟩
                  obtain ⟨u1, u2, u3, u4'⟩ := d8_sizes hln hld A0 D0 hup hrt hln2
                  have y3 : IntKind.i64.wrap ((ld : Int) - (ln : Int)) = (ld : Int) - ln := by rw [IntKind.wrap_i64]; omega
                  obtain ⟨x, hx⟩ : ∃ x, (ld : Int) - ln + 70 = x := ⟨_, rfl⟩
                  have y4 : IntKind.i64.wrap ((ld : Int) - (ln : Int) + 70) = x := by rw [IntKind.wrap_i64]; omega
                  rw [hx] at hup
                  have HUP := hide hup
                  have HLD := hide hld
                  have HLN := hide hln
                  have HU := hide (And.intro u2 (And.intro u3 u4'))
                  clear hup hx hld hln u2 u3 u4' hrt
                  go_upto_region 17 with fail
                  go_cut [9] from 80 (fun s9 wx => s9 = .int .i64 up ∧ Below w2.heap.size w2 wx)
                  case first =>
                    go_wp2_with fail
                    with_reducible refine (rlen_any H2.out (by omega) HLD.out).mono ?_
                    rintro r w3 ⟨rfl, K⟩
                    have K1 := hide K
                    have HV3 := hide (HV.out.below K)
                    clear K
                    go_wp2_with fail
                    with_reducible refine (rlen_any HV3.out (by omega) HLN.out).mono ?_
                    rintro r w4 ⟨rfl, K⟩
                    have K2 := hide (below_trans K1.out K)
                    have ht := HUP.out
                    clear K K1 HV3
                    rcases Int.lt_or_le 0 x with d | d
                    · have d1 : ¬ x < 0 := by omega
                      have d2 : ¬ x ≤ 0 := by omega
                      have d3 : 0 ≤ x := by omega
                      go_wp2_with fail
                      go_meet
                      case rel => exact ⟨by rw [ht, Int.max_eq_right d3], K2.out⟩
                    · have d1 : ¬ 0 < x := by omega
                      go_wp2_with fail
                      go_meet
                      case rel => exact ⟨by rw [ht, Int.max_eq_left d], K2.out⟩
                  case rest =>
                  obtain ⟨rfl, K⟩ := hcut
                  rename World => w3
                  replace HV := hide (HV.out.below K)
                  replace H2 := hide (H2.out.below K)
                  replace HK := hide (below_trans HK.out K)
                  clear K y3 y4 HUP HLD
                  obtain ⟨W, s8, hup8, hs8⟩ : ∃ W s8 : Nat, up = 8 * W + s8 ∧ s8 < 8 := ⟨up / 8, up % 8, by omega, by omega⟩
                  have W1 : W ≤ 153 := by omega
                  have H8S := hide hup8
                  have hfit : up + ln ≤ 8388608 := by omega
                  clear hup8
                  go_wp2_with fail
                  with_reducible refine (rshl_ok (N := up) HV.out (by omega) A0 HLN.out (by omega) hfit H8S.out hs8).mono ?_
                  rintro r w4 ⟨v4, rfl, h4, K⟩
                  have H4 := hide h4.arg
                  replace H2 := hide (H2.out.below K)
                  replace HK := hide (below_trans HK.out K)
                  clear h4 K HV HLN H8S hs8 hfit
                  go_wp2_with fail
                  with_reducible refine (rdiv_any H4.out H2.out (by omega) (by omega) (by omega)).mono ?_
                  rintro r w5 ⟨v5, v6, rfl, h5, h6, K⟩
                  obtain ⟨a, ha⟩ : ∃ a, A * p2 up / D = a := ⟨_, rfl⟩
                  obtain ⟨b, hb⟩ : ∃ b, A * p2 up % D = b := ⟨_, rfl⟩
                  rw [ha] at h5 HU
                  rw [hb] at h6
                  have H5 := hide h5.arg
                  have H6 := hide h6.arg
                  replace HK := hide (below_trans HK.out K)
                  have HA := hide (And.intro ha hb)
                  have a0 : 0 < a := Int.lt_of_lt_of_le (p2_pos _) HU.out.1
                  have b0 : 0 ≤ b := by rw [← hb]; exact Int.emod_nonneg _ (by omega)
                  have hlt5 := H5.out.ltq
                  rw [← p2_32] at hlt5
                  obtain ⟨la, hla, hla2⟩ := len_ex _ a (by omega) hlt5
                  have hlt6 := H6.out.ltq
                  rw [← p2_32] at hlt6
                  obtain ⟨lb, hlb, hlb2⟩ := len_ex _ b b0 hlt6
                  have HLA := hide hla
                  have HLB := hide hlb
                  clear h5 h6 K H4 H2 ha hb hlt5 hlt6 hla hlb D0 A0
                  go_wp2_with fail
                  have hsh : Calls Tryz.prog 80 #[v5, .int .i64 1] w5 _ := rshl_ok (N := 1) (W := 0) (s := 1) H5.out (by omega) a0 HLA.out (by omega) (by omega) rfl (by omega)
                  with_reducible refine hsh.mono ?_
                  clear hsh
                  rintro r w6 ⟨v7, rfl, h7, K⟩
                  have H7 := hide h7.arg
                  replace H6 := hide (H6.out.below K)
                  replace HK := hide (below_trans HK.out K)
                  clear h7 K H5 HLA
                  go_wp2_with fail
                  with_reducible refine (rlen_any H6.out (by omega) HLB.out).mono ?_
                  rintro r w7 ⟨rfl, K⟩
                  replace H7 := hide (H7.out.below K)
                  replace HK := hide (below_trans HK.out K)
                  clear K H6
                  have z1 : IntKind.i64.wrap (-(up : Int)) = -(up : Int) := by rw [IntKind.wrap_i64]; omega
                  have z2 : IntKind.i64.wrap (-(up : Int) - 1) = -(up : Int) - 1 := by rw [IntKind.wrap_i64]; omega
                  by_cases b1 : b = 0
                  · have lb0 : lb = 0 := by
                      rcases Nat.eq_zero_or_pos lb with g1 | g1
                      · exact g1
                      · have := HLB.out.2 g1
                        have := p2_pos (lb - 1)
                        omega
                    subst lb0
                    have e2 : a * p2 1 = 2 * a + 0 := by rw [show p2 1 = 2 from rfl]; omega
                    have HN := hide (show 2 * a + 0 < p2 3842 by have := HU.out.2.2; omega)
                    have H8 : Hid (Arg w7 v7 (2 * a + 0) (0 + (W + 120 + 1) + 1)) := hide (by have := H7.out; rwa [e2] at this)
                    clear H7 e2 HLB
                    go_wp2_with fail
                    with_reducible refine (nearest_64 H8.out (by omega) HN.out (by omega) (by omega) (by omega)).mono ?_
                    rintro r w8 ⟨r0, rfl, hn, K⟩
                    have HR := hide (HG.out r0 (d8_dn (a := a) (rest := b) (mb := 0) (up := up) (by decide) (by decide) (by rw [HD2.out]; exact HA.out.1.symm) (by rw [HD2.out]; exact HA.out.2.symm) (by rw [if_pos b1]) (Int.le_trans f_68 HU.out.1) hn))
                    replace HK := hide (below_trans HK.out K)
                    clear hn K H8 HN
                    go_wp2
                    go_ret
                    exact d8_mk HR.out HK.out
                  · have lb0 : (0 : Int) < (lb : Int) := by
                      rcases Nat.eq_zero_or_pos lb with g1 | g1
                      · exfalso
                        have h1 := HLB.out.1
                        rw [g1, show p2 0 = 1 from rfl] at h1
                        omega
                      · omega
                    have e2 : a * p2 1 + 1 = 2 * a + 1 := by rw [show p2 1 = 2 from rfl]; omega
                    have KA := bel_new w7 (.cells #[.int .u32 1] 96)
                    have HO := hide (lit_arg9 w7 (x := 1) (by omega))
                    replace H7 := hide (H7.out.below KA)
                    replace HK := hide (below_trans HK.out KA)
                    clear KA HLB
                    go_wp2_with fail
                    with_reducible refine (radd_any H7.out HO.out (by omega) (by omega)).mono ?_
                    rintro r w8 ⟨v8, rfl, h8, K⟩
                    rw [e2] at h8
                    have H8 := hide h8.arg
                    replace HK := hide (below_trans HK.out K)
                    clear h8 K H7 HO e2
                    go_wp2_with fail
                    with_reducible refine (nearest_64 H8.out (by omega) HU.out.2.2 (by omega) (by omega) (by omega)).mono ?_
                    rintro r w9 ⟨r0, rfl, hn, K⟩
                    have HR := hide (HG.out r0 (d8_dn (a := a) (rest := b) (mb := 1) (up := up) (by decide) (by decide) (by rw [HD2.out]; exact HA.out.1.symm) (by rw [HD2.out]; exact HA.out.2.symm) (by rw [if_neg b1]) (Int.le_trans f_68 HU.out.1) hn))
                    replace HK := hide (below_trans HK.out K)
                    clear hn K H8
                    go_wp2
                    go_ret
                    exact d8_mk HR.out HK.out
    · obtain rfl : k = N := by omega
      have hm0 : m = 0 := by omega
      subst hm0
      have e0 : dg es = 0 := by rw [HG.out, ← HN.out, List.drop_length]; rfl
      have HR := hide (show DV 4503599627370496 (-1074) 9218868437227405312 (dg es) (p - k) 0 by rw [e0]; exact dv_zero wide_d)
      have ht : tx = ⟨#[]⟩ := by rw [HT.out, ← HN.out, List.drop_length]; rfl
      subst ht
      clear HG HT e0 hm
      go_wp2
      refine wp_loop_rounds 1 ?_
      rw [rounds_succ]
      go_wp2
      go_ret
      exact d8_mk HR.out (Below.refl _ _)

end Go.Proofs.YtinfkoiifemjmaaGreatDoor
