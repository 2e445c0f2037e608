/- FaultTells' walk -/
import Derived.Test.YtbkgphglojjllaaDoorFBuild
import Derived.Test.YtbkgphglojjllaaDoorFNilT
namespace Go.Proofs.YtbkgphglojjllaaDoor
open Go.RowKit
set_option linter.unusedVariables false

theorem ndO_nil {x : Nd} (h : ndNil x = true) : ndO x = none := by unfold ndO; rw [nd_nil_F h]
set_option maxHeartbeats 8000000 in
set_option maxRecDepth 100000 in
theorem tellsLaw_walk {w : World} {a : Nat → Addr} {x : Nd} {v : Value} (hS : Snt w a) (hH : Hnd w) (h : NdSl w v x.kids) :
    Calls Tryd.prog 3 #[ndV x v] w fun e w' => e = .returned (.bool true) ∧ Below w.heap.size w w' := by
  have hz1 : allZ [x] = ndZ x := by simp [allZ]
  have K0 := hide ((Below.refl w.heap.size w).alloc (Nat.le_refl _) (.cells #[.int .i64 x.kind, .int .i64 x.code, .int .i64 x.place, .string x.path, v] 24))
  have K1 := hide (K0.out.alloc K0.out.size (.cells #[.int .i64 x.kind, .int .i64 x.code, .int .i64 x.place, .string x.path, v] 24))
  have H1 := one_node (h.far K0.out)
  have hz0 : (w.alloc (.cells #[.int .i64 x.kind, .int .i64 x.code, .int .i64 x.place, .string x.path, v] 24)).heap.size = w.heap.size + 1 := by simp
  have HB := hide (beyond_any H1)
  rw [hz0, hz1] at HB
  have CB := hide (fun (u : World) (hu : Below (w.alloc (.cells #[.int .i64 x.kind, .int .i64 x.code, .int .i64 x.place, .string x.path, v] 24)).heap.size (w.alloc (.cells #[.int .i64 x.kind, .int .i64 x.code, .int .i64 x.place, .string x.path, v] 24)) u) => box_node (w := w) u hu)
  have KB := hide (bel_alloc13 (w.alloc (.cells #[.int .i64 x.kind, .int .i64 x.code, .int .i64 x.place, .string x.path, v] 24)) (.cells #[.int .i64 x.kind, .int .i64 x.code, .int .i64 x.place, .string x.path, v] 24))
  have HBl := hide (fun (hZ : ndZ x ≤ 10000) (u : World) (hu : Below w.heap.size w u) => build_all (a := a) _ x (Nat.le_refl _) hZ u v (hS.below hu) (h.far hu))
  have HOf := hide (fun (u : World) (hu : Below w.heap.size w u) => rOf_any (h.far hu))
  have HCd := hide (fun (u : World) (hu : Below w.heap.size w u) => rCode_any (h.far hu))
  have HS := hide hS
  have HH := hide hH
  obtain ⟨ao, cap, rfl, hcap, hmax⟩ := h.len
  unfold ndV at HBl HOf HCd ⊢
  have hTn : ndNil x = true ∨ ndNil x = false := by cases ndNil x <;> simp
  have HOn := hide (fun h : ndNil x = true => ndO_nil h)
  have HTl := hide (fun (u : World) (vv : Value) (hu : Below w.heap.size w u) (hb : Bt u a vv x) (hn : ndNil x = false) => tells_true (HS.out.below hu) (er_bt (HS.out.below hu) (HH.out.below hu) hb hn))
  clear h H1 hz0 hz1 hcap hmax hS hH
  generalize x.kind = k at *
  generalize x.code = c at *
  generalize x.place = pl at *
  generalize x.path = p at *
  generalize x.kids = ks at *
  go_enter Tryd.func3, Tryd.ntmps3
  go_wp2_with fail
  refine HB.out.mono ?_
  rintro e w3 ⟨⟨bo, rfl, hbo⟩, hb3⟩
  have C3 := hide (KB.out.trans (hb3.mono KB.out.size))
  have K3 := hide (K1.out.trans (hb3.mono K1.out.size))
  clear hb3 HB KB
  cases bo with
  | true =>
    go_wp2
    go_ret
    exact ⟨rfl, K3.out⟩
  | false =>
    have hZ := hide (hbo.resolve_left (by decide))
    clear hbo
    obtain ⟨d0, d1, d2, d3, d4⟩ := CB.out w3 C3.out
    go_wp2_with fail
    refine (HBl.out hZ.out _ K3.out).mono ?_
    rintro e w4 ⟨⟨bv, rfl, hbt⟩, hb4⟩
    have HBT := hide hbt.bt
    have C4 := hide (C3.out.trans (hb4.mono C3.out.size))
    have K4 := hide (K3.out.trans (hb4.mono K3.out.size))
    clear hb4 hbt d0 d1 d2 d3 d4 HBl
    obtain ⟨d0, d1, d2, d3, d4⟩ := CB.out w4 C4.out
    go_wp2_with fail
    refine (HOf.out _ K4.out).mono ?_
    rintro e w5 ⟨rfl, hb5⟩
    have HBT5 := hide (HBT.out.far hb5)
    have C5 := hide (C4.out.trans (hb5.mono C4.out.size))
    have K5 := hide (K4.out.trans (hb5.mono K4.out.size))
    clear hb5 d0 d1 d2 d3 d4 HOf
    obtain ⟨d0, d1, d2, d3, d4⟩ := CB.out w5 C5.out
    go_wp2_with fail
    refine (HCd.out _ K5.out).mono ?_
    rintro e w6 ⟨rfl, hb6⟩
    have HBT6 := hide (HBT5.out.far hb6)
    have C6 := hide (C5.out.trans (hb6.mono C5.out.size))
    have K6 := hide (K5.out.trans (hb6.mono K5.out.size))
    clear hb6 d0 d1 d2 d3 d4
    rcases hTn with hn | hn
    · rw [if_pos hn, HOn.out hn]
      obtain rfl : bv = .nilIface := by
        rcases HBT6.out.iface with ⟨h, _⟩ | ⟨_, _, _, h⟩
        · exact h
        · rw [h] at hn; cases hn
      simp only [oA, oS, oB, Option.isSome_none]
      clear HTl
      go_wp2_with fail
      refine tells_nil.mono ?_
      rintro e w7 ⟨rfl, hb7⟩
      have C7 := hide (C6.out.trans (hb7.mono C6.out.size))
      have K7 := hide (K6.out.trans (hb7.mono K6.out.size))
      clear hb7
      obtain ⟨d0, d1, d2, d3, d4⟩ := CB.out w7 C7.out
      go_wp2_with fail
      refine (HCd.out _ K7.out).mono ?_
      rintro e w8 ⟨rfl, hb8⟩
      have K8 := hide (K7.out.trans (hb8.mono K7.out.size))
      clear hb8 d0 d1 d2 d3 d4
      rw [if_pos hn]
      go_wp2_with fail
      refine tells_nil.mono ?_
      rintro e w9 ⟨rfl, hb9⟩
      have K9 := hide (K8.out.trans (hb9.mono K8.out.size))
      clear hb9
      go_wp2_with fail
      refine (lives13 (HS.out.below K9.out) (HH.out.below K9.out)).mono ?_
      rintro e w10 ⟨rfl, hb10⟩
      have K10 := hide (K9.out.trans (hb10.mono K9.out.size))
      clear hb10
      go_wp2
      go_ret
      exact ⟨rfl, K10.out⟩
    · rw [if_neg (by rw [hn]; decide)]
      obtain ⟨bu, bp, rfl⟩ : ∃ bu bp, bv = .iface bu bp := by
        rcases HBT6.out.iface with ⟨_, h⟩ | ⟨u, p, h, _⟩
        · rw [h] at hn; cases hn
        · exact ⟨u, p, h⟩
      go_wp2_with fail
      refine (HTl.out _ _ K6.out HBT6.out hn).mono ?_
      rintro e w7 ⟨rfl, hb7⟩
      have HBT7 := hide (HBT6.out.far hb7)
      have C7 := hide (C6.out.trans (hb7.mono C6.out.size))
      have K7 := hide (K6.out.trans (hb7.mono K6.out.size))
      clear hb7
      obtain ⟨d0, d1, d2, d3, d4⟩ := CB.out w7 C7.out
      go_wp2_with fail
      refine (HCd.out _ K7.out).mono ?_
      rintro e w8 ⟨rfl, hb8⟩
      have HBT8 := hide (HBT7.out.far hb8)
      have K8 := hide (K7.out.trans (hb8.mono K7.out.size))
      clear hb8 d0 d1 d2 d3 d4
      rw [if_neg (by rw [hn]; decide)]
      go_wp2_with fail
      refine (HTl.out _ _ K8.out HBT8.out hn).mono ?_
      rintro e w9 ⟨rfl, hb9⟩
      have K9 := hide (K8.out.trans (hb9.mono K8.out.size))
      clear hb9
      go_wp2_with fail
      refine (lives13 (HS.out.below K9.out) (HH.out.below K9.out)).mono ?_
      rintro e w10 ⟨rfl, hb10⟩
      have K10 := hide (K9.out.trans (hb10.mono K9.out.size))
      clear hb10
      go_wp2
      go_ret
      exact ⟨rfl, K10.out⟩

end Go.Proofs.YtbkgphglojjllaaDoor
