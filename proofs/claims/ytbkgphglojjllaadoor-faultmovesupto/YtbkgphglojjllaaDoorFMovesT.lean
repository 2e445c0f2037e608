/- FaultMoves' walk -/
import Derived.Test.YtbkgphglojjllaaDoorFTellsW
import Derived.Test.YtbkgphglojjllaaDoorFMovD
namespace Go.Proofs.YtbkgphglojjllaaDoor
open Go.RowKit
set_option linter.unusedVariables false

set_option maxHeartbeats 8000000 in
set_option maxRecDepth 100000 in
theorem moves_with {w : World} {a : Nat → Addr} {x : Nd} {v : Value} {n : Int} {z : ByteArray} (hS : Snt w a) (hH : Hnd w) (hM : Mx w) (hsm : NdSm x) (hzs : z.size ≤ 1048576) (hob : oB (ndO x) = true) (h : NdSl w v x.kids) :
    Calls Tryd.prog 5 #[ndV x v, .int .i64 n, .string z] w fun e w' => e = .returned (.bool true) ∧ Below w.heap.size w w' := by
  have hz1 : allZ [x] = ndZ x := by simp [allZ]
  have K0 := hide ((Below.refl w.heap.size w).alloc (Nat.le_refl _) (.cells #[.int .i64 x.kind, .int .i64 x.code, .int .i64 x.place, .string x.path, v] 24))
  have K1 := hide (K0.out.alloc K0.out.size (.cells #[.int .i64 x.kind, .int .i64 x.code, .int .i64 x.place, .string x.path, v] 24))
  have H1 := one_node (h.far K0.out)
  have hz0 : (w.alloc (.cells #[.int .i64 x.kind, .int .i64 x.code, .int .i64 x.place, .string x.path, v] 24)).heap.size = w.heap.size + 1 := by simp
  have HB := hide (beyond_any H1)
  rw [hz0, hz1] at HB
  have CB := hide (fun (u : World) (hu : Below (w.alloc (.cells #[.int .i64 x.kind, .int .i64 x.code, .int .i64 x.place, .string x.path, v] 24)).heap.size (w.alloc (.cells #[.int .i64 x.kind, .int .i64 x.code, .int .i64 x.place, .string x.path, v] 24)) u) => box_node (w := w) u hu)
  have KB := hide (bel_alloc13 (w.alloc (.cells #[.int .i64 x.kind, .int .i64 x.code, .int .i64 x.place, .string x.path, v] 24)) (.cells #[.int .i64 x.kind, .int .i64 x.code, .int .i64 x.place, .string x.path, v] 24))
  have HBl := hide (fun (hZ : ndZ x ≤ 10000) (u : World) (hu : Below w.heap.size w u) => build_all (a := a) _ x (Nat.le_refl _) hZ u v (hS.below hu) (h.far hu))
  have HOf := hide (fun (u : World) (hu : Below w.heap.size w u) => rOf_any (h.far hu))
  have HCd := hide (fun (u : World) (hu : Below w.heap.size w u) => rCode_any (h.far hu))
  obtain ⟨cc, hcc⟩ : ∃ cc, (if ndNil x then 0 else leastB (fun i => ndB i x) 11) = cc := ⟨_, rfl⟩
  rw [hcc] at HCd
  have HCC := hide hcc
  clear hcc
  have HS := hide hS
  have HH := hide hH
  have HM := hide hM
  obtain ⟨ao, cap, rfl, hcap, hmax⟩ := h.len
  unfold ndV at HBl HOf HCd ⊢
  have hTn : ndNil x = true ∨ ndNil x = false := by cases ndNil x <;> simp
  have HOn := hide (fun h : ndNil x = true => ndO_nil h)
  have HER := hide (fun (u : World) (vv : Value) (hu : Below w.heap.size w u) (hb : Bt u a vv x) (hn : ndNil x = false) => er_bt (HS.out.below hu) (HH.out.below hu) hb hn)
  have HFD := hide (fun (u : World) (G : Nat → Prop) (vv : Value) (hb : BtG u a G vv x) => fd_of_btG _ x (Nat.le_refl _) vv hb)
  have HFS := hide (fun (u : World) (r : Option (Option Addr)) (hf : FdT u x r) => fdT_size hsm hf)
  have HSZ := hide (ndO_size hsm)
  have HT := hide (show (⟨(wrt z.data.toList).toArray⟩ : ByteArray).size ≤ 4 * z.size + 1 from by
    have := wrt_len z.data.toList
    rw [Lib.size_eq, Lib.size_eq]; simpa using this)
  have HRS := hide (fun (u : World) => rStep_any (w := u) (s := z) (by omega))
  obtain ⟨t, ht⟩ : ∃ t : ByteArray, ⟨(wrt z.data.toList).toArray⟩ = t := ⟨_, rfl⟩
  have HWR := hide (fun (u : World) (hu : Below w.heap.size w u) => wrIs_any (HM.out.below hu) (by omega : z.size < 2147483640))
  rw [ht] at HT HRS HWR
  clear h H1 hz0 hz1 hcap hmax hS hH hM hsm ht
  obtain ⟨o, ho⟩ : ∃ o, ndO x = o := ⟨_, rfl⟩
  rw [ho] at HSZ HOn HOf HER hob
  have HOB := hide hob
  clear hob
  generalize x.kind = k at *
  generalize x.code = c at *
  generalize x.place = pl at *
  generalize x.path = p at *
  generalize x.kids = ks at *
  go_enter Tryd.func5, Tryd.ntmps5
  go_wp2_with fail
  refine HB.out.mono ?_
  rintro e w3 ⟨⟨bo, rfl, hbo⟩, hb3⟩
  have C3 := hide (KB.out.trans (hb3.mono KB.out.size))
  have K3 := hide (K1.out.trans (hb3.mono K1.out.size))
  clear hb3 HB KB
  cases bo with
  | true =>
    go_wp2
    go_ret
    exact ⟨rfl, K3.out⟩
  | false =>
    have hZ := hide (hbo.resolve_left (by decide))
    clear hbo
    obtain ⟨d0, d1, d2, d3, d4⟩ := CB.out w3 C3.out
    go_wp2_with fail
    refine (HBl.out hZ.out _ K3.out).mono ?_
    rintro e w4 ⟨⟨bv, rfl, hbt⟩, hb4⟩
    have HBG := hide hbt
    have HBT := hide hbt.bt
    have C4 := hide (C3.out.trans (hb4.mono C3.out.size))
    have K4 := hide (K3.out.trans (hb4.mono K3.out.size))
    clear hb4 hbt d0 d1 d2 d3 d4 HBl
    obtain ⟨d0, d1, d2, d3, d4⟩ := CB.out w4 C4.out
    go_wp2_with fail
    refine (HCd.out _ K4.out).mono ?_
    rintro e w5 ⟨rfl, hb5⟩
    have HBT5 := hide (HBT.out.far hb5)
    have C5 := hide (C4.out.trans (hb5.mono C4.out.size))
    have K5 := hide (K4.out.trans (hb5.mono K4.out.size))
    have L5 := hide hb5
    clear hb5 d0 d1 d2 d3 d4
    obtain ⟨d0, d1, d2, d3, d4⟩ := CB.out w5 C5.out
    go_wp2_with fail
    refine (HOf.out _ K5.out).mono ?_
    rintro e w6 ⟨rfl, hb6⟩
    have HBT6 := hide (HBT5.out.far hb6)
    have K6 := hide (K5.out.trans (hb6.mono K5.out.size))
    have L6 := hide (L5.out.trans (hb6.mono L5.out.size))
    clear hb6 d0 d1 d2 d3 d4
    rcases hTn with hn | hn
    · obtain rfl : cc = 0 := by rw [← HCC.out, if_pos hn]
      rw [HOn.out hn]
      obtain rfl : bv = .nilIface := by
        rcases HBT6.out.iface with ⟨h, _⟩ | ⟨_, _, _, h⟩
        · exact h
        · rw [h] at hn; cases hn
      simp only [oA, oS, oB, Option.isSome_none]
      go_wp2_with fail
      refine fshift_nil.mono ?_
      rintro e w7 ⟨rfl, rfl⟩
      go_wp2_with fail
      refine fin_nil.mono ?_
      rintro e w8 ⟨rfl, rfl⟩
      go_wp2_with fail
      refine (lives13 (HS.out.below K6.out) (HH.out.below K6.out)).mono ?_
      rintro e w10 ⟨rfl, hb10⟩
      have K10 := hide (K6.out.trans (hb10.mono K6.out.size))
      clear hb10
      go_wp2
      go_ret
      exact ⟨rfl, K10.out⟩
    · obtain rfl : cc = leastB (fun i => ndB i x) 11 := by rw [← HCC.out, if_neg (by rw [hn]; decide)]
      clear HCC
      obtain ⟨bu, bp, rfl⟩ : ∃ bu bp, bv = .iface bu bp := by
        rcases HBT6.out.iface with ⟨_, h⟩ | ⟨u, p, h, _⟩
        · rw [h] at hn; cases hn
        · exact ⟨u, p, h⟩
      have HE6 := hide (HER.out _ _ K6.out HBT6.out hn)
      obtain ⟨r, hr1, hr2, hr3⟩ := HFD.out _ _ _ HBG.out
      have HR1 := hide hr1
      have hR2 := HFS.out _ _ hr2
      have HFL := hide (show ∀ p, r = some (some p) → ∃ g e k s, p = ⟨g, 0, none⟩ ∧ w.heap.size ≤ g ∧ g < w4.heap.size ∧ FltAt w4 g e k s ∧ s.size ≤ 140737488351232 from fun p hp => by
        obtain ⟨g, e, k, s, h1, h2, h3⟩ := hR2 p hp
        have h4 := hr3 p hp
        rw [h1] at h4
        exact ⟨g, e, k, s, h1, Nat.le_trans K3.out.size h4, (Array.getElem?_eq_some_iff.1 h2).1, h2, h3⟩)
      clear hr1 hr2 hr3 hR2 HFD HFS HBG HBT HBT5 HBT6 HER HOn HCd HOf CB C3 C4 C5
      have hc0 : (leastB (fun i => ndB i x) 11 == 0) = false := by
        rcases leastB_range (fun i => ndB i x) 11 with h | ⟨i, _, h, _⟩ <;> rw [h] <;> simp <;> omega
      have HBN := hide (bareN_least (fun i => ndB i x))
      obtain ⟨b, hb⟩ : ∃ b, (fun i => ndB i x) = b := ⟨_, rfl⟩
      rw [hb] at hc0 HBN HE6 ⊢
      clear hb
      obtain ⟨cd, hcd⟩ : ∃ cd, leastB b 11 = cd := ⟨_, rfl⟩
      rw [hcd] at hc0 HBN ⊢
      go_wp2_with fail
      refine (shift_kp (HS.out.below K6.out) HE6.out).mono ?_
      rintro e w7 ⟨⟨su, sp, rfl, KS7⟩, hb7⟩
      have K7 := hide (K6.out.trans (hb7.mono K6.out.size))
      have L7 := hide hb7
      have HE7 := hide (HE6.out.below hb7)
      go_wp2_with fail
      refine (in_kp (HS.out.below K7.out) HE7.out (HWR.out _ K7.out) (by have := HSZ.out; have := HT.out; omega)).mono ?_
      rintro e w8 ⟨⟨iu, ip, rfl, KI8⟩, hb8⟩
      have K8 := hide (K7.out.trans (hb8.mono K7.out.size))
      have L8 := hide (L7.out.trans (hb8.mono L7.out.size))
      have KS := hide (KS7.later hb8)
      have KI := hide (KI8.mono hb7.size)
      have HE8 := hide (HE7.out.below hb8)
      have M0 := hide (show Mv w w4 w8 w6.heap.size r 0 w8 from ⟨K8.out, fun _ _ _ => rfl, Nat.le_refl _, ((Unf.refl w4).below L6.out).below L8.out, fun p hp => by
        obtain ⟨g, e, k, s, h1, h2, h3, h4, h5⟩ := HFL.out p hp
        exact ⟨g, e, k, s, h1, h2, Nat.lt_of_lt_of_le h3 L6.out.size, ⟨_, _, h4⟩, (h4.below L6.out).below L8.out, h5⟩⟩)
      have HL68 := hide (show w6.heap.size ≤ w8.heap.size from L8.out.size)
      have HTE := hide (fun (u : World) (hu : Below w8.heap.size w8 u) => tells_true (HS.out.below (K8.out.trans (hu.mono K8.out.size))) (HE8.out.below hu))
      obtain ⟨tO, htO⟩ : ∃ tO, oA (oMv o n) = tO := ⟨_, rfl⟩
      have HTS := hide (fun (tt : Nat) (u : World) (hm : Mv w w4 w8 w6.heap.size r tt u) => tells_true (HS.out.below hm.bel) (KS.out u (HS.out.below hm.bel) (HH.out.below hm.bel) hm.st))
      have HTI := hide (fun (tt : Nat) (u : World) (hm : Mv w w4 w8 w6.heap.size r tt u) => tells_true (HS.out.below hm.bel) (KI.out u (HS.out.below hm.bel) (HH.out.below hm.bel) hm.st))
      have HHS := hide (fun (tt : Nat) (u : World) (hm : Mv w w4 w8 w6.heap.size r tt u) => has_true (HS.out.below hm.bel) (KS.out u (HS.out.below hm.bel) (HH.out.below hm.bel) hm.st))
      have HHI := hide (fun (tt : Nat) (u : World) (hm : Mv w w4 w8 w6.heap.size r tt u) => has_true (HS.out.below hm.bel) (KI.out u (HS.out.below hm.bel) (HH.out.below hm.bel) hm.st))
      rw [show (o.map fun q => (IntKind.i64.wrap (q.1 + n), q.2)) = oMv o n from rfl] at HTS HHS
      rw [HBN.out, oMv_S, oMv_B, htO] at HTS HHS
      rw [HBN.out] at HTI HHI
      rw [hcd] at HTE
      have HAS := hide (fun (tt : Nat) (u : World) (hm : Mv w w4 w8 w6.heap.size r tt u) => As_fd (HH.out.below hm.bel) (HR1.out u hm.unf))
      have HA1 := hide (fun h : oB o = true => (oMv_A1 n h).symm.trans htO)
      have HA0 := hide (fun h : oB o = false => (oMv_A0 n h).symm.trans htO)
      have HSZ2 := hide (show t.size + (oS o).size ≤ 140737488351232 + 4194305 from by have := HSZ.out; have := HT.out; omega)
      clear hb7 hb8 KS7 KI8 HE6 HE7 HE8 KS KI HWR HBN htO hcd HSZ HT HFL HR1 L5 L6 L7 L8 K6 K7 K0 K1 K3 K4 K5 hZ HM ho hn
      have q1 : oA (some (oA o, t ++ oS o)) = oA o := rfl
      have q2 : oS (some (oA o, t ++ oS o)) = t ++ oS o := rfl
      have q3 : oB (some (oA o, t ++ oS o)) = true := rfl
      rw [q1, q2, q3] at HTI HHI
      clear q1 q2 q3
      generalize oA o = oa at *
      generalize oS o = os at *
      generalize oB o = ob at *
      obtain rfl : ob = true := HOB.out
      clear HOB
      have e1 := HA1.out rfl
      clear HA1 HA0
      go_wp2_with fail
      go_loopw [15] (fun p wr => ∃ tt : Nat, p = .int .i64 tt ∧ tt ≤ 2 ∧ Hid (Mv w w4 w8 w6.heap.size r tt wr) ∧ Hid (tt = 0 → Below w8.heap.size w8 wr)) (fun p _ => 2 - (intOf p).toNat)
      case atStart => exact ⟨0, rfl, by omega, M0, hide (fun _ => Below.refl _ _)⟩
      case round =>
        obtain ⟨tt, rfl, htt, HMV, HD⟩ := hrel
        clear M0
        by_cases hlt : tt < 2
        · have q1 : (tt : Int) < 2 := by omega
          have k1 : ¬ ((9223372036854775807 : Int) < (t.size : Int) + (os.size : Int)) := by have := HSZ2.out; omega
          have k3 : ¬ (9223372036854775807 < t.size + os.size) := by have := HSZ2.out; omega
          go_wp2_with fail
          refine (HTS.out tt _ HMV.out).mono ?_
          rintro e u1 ⟨rfl, hb1⟩
          have M1 := hide (HMV.out.later hb1)
          have D1 := hide hb1
          clear hb1
          go_wp2_with fail
          refine (HRS.out _).mono ?_
          rintro e u2 ⟨rfl, rfl⟩
          go_wp2_with fail
          refine (HTI.out tt _ M1.out).mono ?_
          rintro e u3 ⟨rfl, hb3⟩
          have M3 := hide (M1.out.later hb3)
          have D3 := hide (D1.out.trans (hb3.mono D1.out.size))
          clear hb3 M1 D1
          go_wp2_with fail
          refine (HHS.out tt _ M3.out).mono ?_
          rintro e u4 ⟨rfl, hb4⟩
          have M4 := hide (M3.out.later hb4)
          have D4 := hide (D3.out.trans (hb4.mono D3.out.size))
          clear hb4 M3 D3
          go_wp2_with fail
          refine (HRS.out _).mono ?_
          rintro e u5 ⟨rfl, rfl⟩
          go_wp2_with fail
          refine (HHI.out tt _ M4.out).mono ?_
          rintro e u6 ⟨rfl, hb6⟩
          have M6 := hide (M4.out.later hb6)
          have D6 := hide (D4.out.trans (hb6.mono D4.out.size))
          clear hb6 M4 D4
          by_cases ht0 : tt = 0
          · have q2 : ((tt : Int) == 0) = true := by rw [ht0]; rfl
            go_wp2_with fail
            refine (HTE.out _ ((HD.out ht0).trans (D6.out.mono (HD.out ht0).size))).mono ?_
            rintro e u7 ⟨rfl, hb7⟩
            have M7 := hide (M6.out.later hb7)
            clear hb7 M6 D6
            go_wp2_with fail
            refine (HAS.out tt _ M7.out).mono ?_
            rintro e u8 ⟨rfl, hb8, hf8⟩
            have M8 := hide (M7.out.later hb8)
            have HF8 := hide hf8
            have HZ7 := hide M7.out.size
            clear hb8 hf8 HTS HTI HHS HHI HTE HAS HRS HSZ2 HD HMV M7
            rcases r with _ | _ | p0
            · have hf8 := HF8.out
              simp only [Option.isSome, Option.getD] at hf8 ⊢
              clear HF8
              go_wp2
              go_roundw
              case rel => exact ⟨tt + 1, by first | (simp; done) | (simp; omega), by omega, hide (M8.out.up (by omega)), hide (fun h => absurd h (by omega))⟩
              case measure => simp [intOf]; omega
            · have hf8 := HF8.out
              simp only [Option.isSome, Option.getD] at hf8 ⊢
              clear HF8
              go_wp2
              go_roundw
              case rel => exact ⟨tt + 1, by first | (simp; done) | (simp; omega), by omega, hide (M8.out.up (by omega)), hide (fun h => absurd h (by omega))⟩
              case measure => simp [intOf]; omega
            · obtain ⟨g, fe, fk, fs, rfl, hg1, hg2, _, hF, hfs⟩ := M8.out.fl _ rfl
              have hf8 := HF8.out
              simp only [Option.isSome, Option.getD] at hf8 ⊢
              obtain ⟨f0, f1, f2, f3⟩ := flt_cells hF
              have hne : u7.heap.size ≠ g := by have := HZ7.out; have := HL68.out; omega
              have HFF := hide hF
              have HG := hide hg1
              have f31 := f3 1
              have hgl : g ≠ 0 := by have := snt_cell_lt HS.out; have := HG.out; omega
              have es8 := (M8.out.bel.cell (p := ⟨0, 0, none⟩) (snt_cell_lt HS.out)).trans (snt_cell HS.out)
              clear hF f0 f2 f3 hg1 hg2 HF8
              go_wp2_with fail
              go_region
              have F9 : Hid (FltAt (u8.setCell ⟨g, 1, none⟩ (.int .i64 (wrap64 (fk + 1000)))).drew g fe (wrap64 (fk + 1000)) fs) := hide (flt_at HFF.out _)
              have M9 := hide ((M8.out.write (t' := tt) (j := 1) rfl (flt_at HFF.out (wrap64 (fk + 1000))) hfs).later (Below.refl _ _).drew)
              have c9 := oth_cell (j := 1) (v := .int .i64 (wrap64 (fk + 1000))) hne hf8
              have es9 := oth_cell (j := 1) (v := .int .i64 (wrap64 (fk + 1000))) hgl.symm es8
              clear M8 HFF f1 f31 hf8 es8
              generalize (u8.setCell ⟨g, 1, none⟩ (.int .i64 (wrap64 (fk + 1000)))).drew = u9 at *
              obtain ⟨f0, f1, f2, f3⟩ := flt_cells F9.out
              have f32 := f3 2
              clear f0 f1 f3
              go_wp2_with fail
              go_region
              have hfs2 : (fs ++ (⟨#[47, 115, 112, 111, 105, 108, 116]⟩ : ByteArray)).size ≤ 140737488351232 + 7 * (tt + 1) := by
                rw [ByteArray.size_append]
                have : (⟨#[47, 115, 112, 111, 105, 108, 116]⟩ : ByteArray).size = 7 := rfl
                omega
              obtain ⟨ft, hft⟩ : ∃ ft, fs ++ (⟨#[47, 115, 112, 111, 105, 108, 116]⟩ : ByteArray) = ft := ⟨_, rfl⟩
              rw [hft] at hfs2 ⊢
              have F10 : Hid (FltAt (u9.setCell ⟨g, 2, none⟩ (.string ft)).drew g fe (wrap64 (fk + 1000)) ft) := hide (flt_path F9.out _)
              have M10 := hide ((M9.out.write (t' := tt + 1) (j := 2) rfl (flt_path F9.out ft) hfs2).later (Below.refl _ _).drew)
              have c10 := oth_cell (j := 2) (v := .string ft) hne c9
              have es10 := oth_cell (j := 2) (v := .string ft) hgl.symm es9
              have HFS2 := hide hfs2
              clear M9 F9 f2 f32 c9 es9 hft hfs hfs2
              generalize (u9.setCell ⟨g, 2, none⟩ (.string ft)).drew = u10 at *
              have f30 := (flt_cells F10.out).2.2.2 0
              have f00 := (flt_cells F10.out).1
              have M11 := hide (M10.out.write (t' := tt + 1) (j := 0) rfl (flt_err F10.out (.iface 95 (.pointer (some (a 9))))) HFS2.out)
              clear M10 F10 HFS2
              go_wp2
              go_roundw
              case rel => exact ⟨tt + 1, by first | (simp; done) | (simp; omega), by omega, M11, hide (fun h => absurd h (by omega))⟩
              case measure => simp [intOf]; omega
          · have q2 : ((tt : Int) == 0) = false := beq_eq_false_iff_ne.2 (by omega)
            have M7 := M6
            clear M6 D6
            generalize u6 = u7 at *
            go_wp2_with fail
            refine (HAS.out tt _ M7.out).mono ?_
            rintro e u8 ⟨rfl, hb8, hf8⟩
            have M8 := hide (M7.out.later hb8)
            have HF8 := hide hf8
            have HZ7 := hide M7.out.size
            clear hb8 hf8 HTS HTI HHS HHI HTE HAS HRS HSZ2 HD HMV M7
            rcases r with _ | _ | p0
            · have hf8 := HF8.out
              simp only [Option.isSome, Option.getD] at hf8 ⊢
              clear HF8
              go_wp2
              go_roundw
              case rel => exact ⟨tt + 1, by first | (simp; done) | (simp; omega), by omega, hide (M8.out.up (by omega)), hide (fun h => absurd h (by omega))⟩
              case measure => simp [intOf]; omega
            · have hf8 := HF8.out
              simp only [Option.isSome, Option.getD] at hf8 ⊢
              clear HF8
              go_wp2
              go_roundw
              case rel => exact ⟨tt + 1, by first | (simp; done) | (simp; omega), by omega, hide (M8.out.up (by omega)), hide (fun h => absurd h (by omega))⟩
              case measure => simp [intOf]; omega
            · obtain ⟨g, fe, fk, fs, rfl, hg1, hg2, _, hF, hfs⟩ := M8.out.fl _ rfl
              have hf8 := HF8.out
              simp only [Option.isSome, Option.getD] at hf8 ⊢
              obtain ⟨f0, f1, f2, f3⟩ := flt_cells hF
              have hne : u7.heap.size ≠ g := by have := HZ7.out; have := HL68.out; omega
              have HFF := hide hF
              have HG := hide hg1
              have f31 := f3 1
              have hgl : g ≠ 0 := by have := snt_cell_lt HS.out; have := HG.out; omega
              have es8 := (M8.out.bel.cell (p := ⟨0, 0, none⟩) (snt_cell_lt HS.out)).trans (snt_cell HS.out)
              clear hF f0 f2 f3 hg1 hg2 HF8
              go_wp2_with fail
              go_region
              have F9 : Hid (FltAt (u8.setCell ⟨g, 1, none⟩ (.int .i64 (wrap64 (fk + 1000)))).drew g fe (wrap64 (fk + 1000)) fs) := hide (flt_at HFF.out _)
              have M9 := hide ((M8.out.write (t' := tt) (j := 1) rfl (flt_at HFF.out (wrap64 (fk + 1000))) hfs).later (Below.refl _ _).drew)
              have c9 := oth_cell (j := 1) (v := .int .i64 (wrap64 (fk + 1000))) hne hf8
              have es9 := oth_cell (j := 1) (v := .int .i64 (wrap64 (fk + 1000))) hgl.symm es8
              clear M8 HFF f1 f31 hf8 es8
              generalize (u8.setCell ⟨g, 1, none⟩ (.int .i64 (wrap64 (fk + 1000)))).drew = u9 at *
              obtain ⟨f0, f1, f2, f3⟩ := flt_cells F9.out
              have f32 := f3 2
              clear f0 f1 f3
              go_wp2_with fail
              go_region
              have hfs2 : (fs ++ (⟨#[47, 115, 112, 111, 105, 108, 116]⟩ : ByteArray)).size ≤ 140737488351232 + 7 * (tt + 1) := by
                rw [ByteArray.size_append]
                have : (⟨#[47, 115, 112, 111, 105, 108, 116]⟩ : ByteArray).size = 7 := rfl
                omega
              obtain ⟨ft, hft⟩ : ∃ ft, fs ++ (⟨#[47, 115, 112, 111, 105, 108, 116]⟩ : ByteArray) = ft := ⟨_, rfl⟩
              rw [hft] at hfs2 ⊢
              have F10 : Hid (FltAt (u9.setCell ⟨g, 2, none⟩ (.string ft)).drew g fe (wrap64 (fk + 1000)) ft) := hide (flt_path F9.out _)
              have M10 := hide ((M9.out.write (t' := tt + 1) (j := 2) rfl (flt_path F9.out ft) hfs2).later (Below.refl _ _).drew)
              have c10 := oth_cell (j := 2) (v := .string ft) hne c9
              have es10 := oth_cell (j := 2) (v := .string ft) hgl.symm es9
              have HFS2 := hide hfs2
              clear M9 F9 f2 f32 c9 es9 hft hfs hfs2
              generalize (u9.setCell ⟨g, 2, none⟩ (.string ft)).drew = u10 at *
              have f30 := (flt_cells F10.out).2.2.2 0
              have f00 := (flt_cells F10.out).1
              have M11 := hide (M10.out.write (t' := tt + 1) (j := 0) rfl (flt_err F10.out (.iface 95 (.pointer (some (a 9))))) HFS2.out)
              clear M10 F10 HFS2
              go_wp2
              go_roundw
              case rel => exact ⟨tt + 1, by first | (simp; done) | (simp; omega), by omega, M11, hide (fun h => absurd h (by omega))⟩
              case measure => simp [intOf]; omega
        · obtain rfl : tt = 2 := by omega
          have q1 : ¬ (((2 : Nat) : Int) < 2) := by omega
          have K9 := hide HMV.out.bel
          go_wp2_with fail
          refine (lives13 (HS.out.below K9.out) (HH.out.below K9.out)).mono ?_
          rintro e w10 ⟨rfl, hb10⟩
          have K10 := hide (K9.out.trans (hb10.mono K9.out.size))
          clear hb10
          go_wp2
          go_ret
          exact ⟨rfl, K10.out⟩

end Go.Proofs.YtbkgphglojjllaaDoor
