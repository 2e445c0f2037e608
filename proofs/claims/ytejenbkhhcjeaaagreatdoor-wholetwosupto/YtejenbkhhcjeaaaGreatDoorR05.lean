/- Long -/
import Derived.Test.YtejenbkhhcjeaaaGreatDoorR03
import Derived.Test.YtejenbkhhcjeaaaGreatDoorR01
import Derived.Test.YtejenbkhhcjeaaaGreatDoorR02
import Derived.WalkMore
import Derived.Deep.LoopGhost
namespace Go.Proofs.YtejenbkhhcjeaaaGreatDoor
open Go.RowKit

theorem ypos {r y V : Int} (h0 : 0 ≤ r) (h : r < y * V) (hy : 0 ≤ y) : 0 < y := by
  rcases Int.lt_or_le 0 y with h1 | h1
  · exact h1
  · have : y = 0 := by omega
    subst this
    simp at h
    omega
theorem obound {s H y f : Int} (h : s = H - (y - 1) * f) (hy : 0 < y) (hf : 0 ≤ f) : s ≤ H := by
  have := Int.mul_nonneg (show 0 ≤ y - 1 by omega) hf
  omega

set_option maxRecDepth 100000 in
set_option maxHeartbeats 4000000 in
theorem long_any {w : World} {vb vo bc g nq L l : Nat} {vs os : List Int} (hr : Row .u32 41 w g os) (hoo : Nt.Ok os) (hol : os.length = nq + L) (hL : vs.length = L) (hl : L = l + 2) (hm : nq + L ≤ 1099511627776)
    (hvc : Cells .u32 w (some ⟨vb, vo, none⟩) vs) (hvo : Nt.Ok vs) (hne : vb ≠ g) (hf : 0 < Nt.lb vs (l + 1)) (hlt : Nt.val os < Nt.val vs * Nt.pw nq) :
    Calls Tryz.prog 163 #[.slice (some ⟨g, 0, none⟩) (nq + L) (nq + L), .slice (some ⟨vb, vo, none⟩) L bc] w fun e w' => ∃ (gq : Nat) (qs zs : List Int), e = .returned (.slice (some ⟨gq, 0, none⟩) nq nq) ∧ w.heap.size ≤ gq ∧
      Row .u32 41 w' gq qs ∧ qs.length = nq ∧ Nt.Ok qs ∧ Row .u32 41 w' g zs ∧ zs.length = os.length ∧ Nt.Ok zs ∧ Nt.val os = Nt.val zs + Nt.val vs * Nt.val qs ∧ Nt.val zs < Nt.val vs ∧ Only g w w' := by
  obtain ⟨l1, hl1⟩ : ∃ l1, l1 = l + 1 := ⟨_, rfl⟩
  have e1 : (L : Int) - 1 = (l1 : Int) := by omega
  have e2 : (L : Int) - 2 = (l : Int) := by omega
  have haw : 0 < vs.length → Away g (some ⟨vb, vo, none⟩) := fun _ => away_some hne
  obtain ⟨b0, o0, hb0, _, hcv⟩ := hvc (by omega)
  injection hb0 with hb0
  injection hb0 with hb0 ho0
  subst hb0 ho0
  have gv1 := hcv l1 (by omega)
  have gv2 := hcv l (by omega)
  rw [← hl1] at hf
  have bf := hvo l1
  have bs := hvo l
  have n1 : (l1 : Int) < (L : Int) := by omega
  have n2 : (l : Int) < (L : Int) := by omega
  have hgw := hr.lt
  have HL := hide hL
  have Hl := hide hl
  have Hl1 := hide hl1
  have Hlt := hide hlt
  have Hol := hide hol
  clear hL hl hl1 hlt hol hcv
  go_enter Tryz.func163, Tryz.ntmps163
  go_wp2
  go_step3
  go_wp2
  go_region
  go_wp2_with (at_make; refine wpList_make_row _ rfl _ _ 23 rfl 41 .u32 4 Tryz.underlying23 Tryz.infoU32 _ _ _ _ nq nq rfl rfl (by omega) (by omega) (Nat.le_refl _) (by omega) (by unfold maxLen; omega) ?_)
  intro w1 hq hbel hsz
  replace hbel : Below w.heap.size w w1 := (Below.refl _ w).drew.trans hbel
  go_wp2
  go_step3
  go_wp2
  go_loopg [37] nq (fun m i wr => ∃ (k : Nat) (qs zs : List Int), k + m = nq ∧ i = .int .i64 k ∧ qs.length = nq ∧ Nt.Ok qs ∧ (∀ j, j < m → Nt.lb qs j = 0) ∧ zs.length = nq + L ∧ Nt.Ok zs ∧ Row .u32 41 wr w.heap.size qs ∧ Row .u32 41 wr g zs ∧
    Only g w wr ∧ Nt.val os = Nt.val zs + Nt.val vs * Nt.val qs ∧ Nt.val zs < Nt.val vs * Nt.pw m)
  case atStart =>
    exact ⟨0, List.replicate nq 0, os, by omega, rfl, by simp, Nt.ok_replicate _, fun j _ => Nt.lb_replicate _ _, Hol.out, hoo, hq, hr.below hbel hr.lt, ⟨hbel.os, hbel.tape, hbel.output, hbel.size, fun k hk _ => hbel.block k hk⟩, by rw [Nt.val_replicate]; simp, Hlt.out⟩
  case round =>
    obtain ⟨k, qs, zs, hkm, rfl, hql, hqo, hq0, hzl, hzo, hrq, hrz, hon, hval, hless⟩ := hrel
    clear hq hbel hr
    have HQL := hide hql
    have HQ0 := hide hq0
    have HZL := hide hzl
    have HVal := hide hval
    have HLess := hide hless
    clear hql hq0 hzl hval hless
    cases gk with
    | zero =>
      have hkn : k = nq := by omega
      subst hkn
      go_wp2
      try rw [Exit.noGoto_ret]
      go_ret
      exact ⟨w.heap.size, qs, zs, rfl, Nat.le_refl _, hrq, HQL.out, hqo, hrz, by rw [HZL.out, Hol.out], hzo, HVal.out, by have h := HLess.out; rw [Nt.pw_zero, Int.mul_one] at h; exact h, hon⟩
    | succ p =>
      have jp : (nq : Int) - 1 - (k : Int) = (p : Int) := by omega
      have jk : (k : Int) < (nq : Int) := by omega
      have p1 : (p : Int) < (nq : Int) := by omega
      have p2 : (p : Int) + (L : Int) + 1 ≤ (nq : Int) + (L : Int) := by omega
      have p3 : ¬ nq + L = p := by have := Hl.out; omega
      have p4 : (0 : Int) ≤ (p : Int) + (L : Int) + 1 := by omega
      have p5 : (p : Int) ≤ (p : Int) + (L : Int) + 1 := by omega
      have p6 : ((p : Int) + (L : Int) + 1).toNat = p + L + 1 := by omega
      have n3 : (l1 : Int) < (L : Int) + 1 := by omega
      have n4 : (l : Int) < (L : Int) + 1 := by omega
      have gz0 := hrz.cell (i := p + L) (by rw [HZL.out]; omega)
      have gz1 := hrz.cell (i := p + l1) (by rw [HZL.out]; have := Hl.out; have := Hl1.out; omega)
      have gz2 := hrz.cell (i := p + l) (by rw [HZL.out]; have := Hl.out; omega)
      have bz0 := hzo (p + L)
      have bz1 := hzo (p + l1)
      have bz2 := hzo (p + l)
      have pl : p + L + 1 - p = L + 1 := by omega
      obtain ⟨H, hH⟩ : ∃ H, H = Nt.lb zs (p + L) * 4294967296 + Nt.lb zs (p + l1) := ⟨_, rfl⟩
      have hor := or_join (Nt.lb zs (p + L)) (Nt.lb zs (p + l1)) bz0.1 bz0.2 bz1.1 bz1.2
      rw [← hH] at hor
      have hH0 : 0 ≤ H := by omega
      have hH1 : H < 18446744073709551616 := by omega
      have hf0 : ¬ Nt.lb vs l1 = 0 := by omega
      obtain ⟨y0, hy0⟩ : ∃ y0, (if 4294967295 < H / Nt.lb vs l1 then 4294967295 else H / Nt.lb vs l1) = y0 := ⟨_, rfl⟩
      -- the window, from its own first limb on
      have d0 : Nt.lb (zs.drop p) (l + 2) = Nt.lb zs (p + L) := by rw [Nt.lb_drop, Hl.out]
      have d1 : Nt.lb (zs.drop p) (l + 1) = Nt.lb zs (p + l1) := by rw [Nt.lb_drop, Hl1.out]
      have d2 : Nt.lb (zs.drop p) l = Nt.lb zs (p + l) := by rw [Nt.lb_drop]
      have hwin : Nt.vt (zs.drop p) (L + 1) < 4294967296 * Nt.val vs := Nt.window_lt hzo HZL.out HL.out hvo (by omega) HLess.out
      have hV : Nt.val vs = Nt.vt vs (l + 2) := by unfold Nt.val; rw [HL.out, Hl.out]
      have hW : Nt.vt (zs.drop p) (L + 1) = Nt.vt (zs.drop p) (l + 3) := by rw [Hl.out]
      obtain ⟨m0, m1, m2, m3⟩ := Nt.guess_first (zs := zs.drop p) (vs := vs) (l := l) (y := y0) (H := H) (Nt.ok_drop hzo p) hvo (by rw [← Hl1.out]; exact hf) (by rw [d0, d1]; exact hH) (by rw [← hV, ← hW]; exact hwin) (by rw [← Hl1.out]; exact hy0.symm)
      rw [← hV, ← hW] at m3
      rw [← Hl1.out] at m2
      obtain ⟨V, hVV⟩ : ∃ V, V = Nt.val vs := ⟨_, rfl⟩
      obtain ⟨r, hrr⟩ : ∃ r, r = Nt.vt (zs.drop p) (L + 1) := ⟨_, rfl⟩
      have hshown : ∀ y : Int, 0 ≤ y → (H - y * Nt.lb vs l1) * 4294967296 + Nt.lb zs (p + l) < y * Nt.lb vs l → r < y * V := by
        intro y hy h
        have h1 := Nt.shown_gt (zs := zs.drop p) (vs := vs) (l := l) (y := y) (Nt.ok_drop hzo p) hvo hy (by rw [d0, d1, d2, ← Hl1.out, ← hH]; exact h)
        rw [← hV, ← hW, ← hrr, ← hVV] at h1
        exact h1
      have hr0 : 0 ≤ r := by rw [hrr]; exact (Nt.vt_bounds (Nt.ok_drop hzo p) _).1
      rw [← hrr, ← hVV] at m3
      have HSh := hide hshown
      have HVV := hide hVV
      have Hrr := hide hrr
      have HH := hide hH
      have M3 := hide m3
      have m4 : 0 ≤ y0 * Nt.lb vs l1 := Int.mul_nonneg m0 (by omega)
      clear d0 d1 d2 hwin hV hW hshown hVV hrr hH m3
      go_wp2
      go_region
      go_wp2
      go_loopg [13, 14] y0.toNat (fun c gs ov wy => ∃ (y o : Int), y.toNat = c ∧ gs = .int .u64 y ∧ ov = .int .u64 o ∧ 0 ≤ y ∧ y ≤ 4294967295 ∧ o = H - y * Nt.lb vs l1 ∧ 0 ≤ o ∧ r < (y + 1) * V ∧ Row .u32 41 wy w.heap.size qs ∧ Row .u32 41 wy g zs ∧ Only g w wy)
      case atStart => exact ⟨y0, H - y0 * Nt.lb vs l1, rfl, rfl, by go_num, m0, m1, rfl, by omega, M3.out, hrq, hrz, hon.drew⟩
      case round =>
        clear hrq hrz hon gz0 gz1 gz2 hy0 m0 m1 m2 m4 M3
        obtain ⟨y, o, hyc, rfl, rfl, hy0, hy1, ho, ho0, hlt, hrq, hrz, hon⟩ := hrel
        have Ho := hide ho
        clear ho
        have gz2 := hrz.cell (i := p + l) (by rw [HZL.out]; have := Hl.out; omega)
        obtain ⟨pb0, pb1⟩ := prod_bd2 (x := Nt.lb vs l) (y := y) bs ⟨hy0, by omega⟩
        by_cases hom : o ≤ 4294967295
        · have hor2 := or_join o (Nt.lb zs (p + l)) ho0 (by omega) bz2.1 bz2.2
          by_cases hsh : o * 4294967296 + Nt.lb zs (p + l) < y * Nt.lb vs l
          · have hlt2 : r < y * V := HSh.out y hy0 (by rw [← Ho.out]; exact hsh)
            have hyp : 0 < y := ypos hr0 hlt2 hy0
            have HLt := hide hlt2
            have hob : o + Nt.lb vs l1 = H - (y - 1) * Nt.lb vs l1 := by rw [Ho.out]; grind
            have HOb := hide hob
            have ho9 : o + Nt.lb vs l1 ≤ H := obound hob hyp (by omega)
            clear hlt2 hlt hob
            go_wp2
            go_roundg (y - 1).toNat
            case measure => omega
            case rel => exact ⟨y - 1, o + Nt.lb vs l1, rfl, by go_num, by go_num, by omega, by omega, HOb.out, by omega, by rw [show y - 1 + 1 = y by omega]; exact HLt.out, hrq, hrz, hon⟩
          · skip
            by_cases hge : y * V ≤ r
            · have hc := takeOff_yes (w := wr) (bo := some ⟨vb, vo, none⟩) (rc := nq + L - p) (bc := bc) (off := p) (x := y) hrz hzo HL.out (by rw [HZL.out]; omega) (by omega) (hon.cells hvc haw) hvo haw (by omega) ⟨hy0, by omega⟩ (by rw [← HVV.out]; exact (Nt.window_off (y * V)).2 (by rw [← Hrr.out]; exact hge))
              have HGe := hide hge
              have HLt := hide hlt
              clear hge hlt
              go_wp2_with fail
              refine hc.mono ?_
              clear hc
              rintro e w2 ⟨ys, rfl, hyl, hyo, hysame, hyv, hrow2, hon2⟩
              have hrq2 := hon2.row (k := w.heap.size) (by omega) hrq
              have hfz := hrq2.frozen p
              have hcl := hrq2.cell (i := p) (by rw [HQL.out]; omega)
              have hst := Nt.place_step (zs := zs) (ys := ys) (os := os) (vs := vs) (qs := qs) (p := p) (L := L) (nq := nq) (y := y) hzo HZL.out (by rw [hyl, HZL.out]) HL.out hvo HQL.out (by omega) HQ0.out HVal.out HLess.out (fun j hj => hysame j (by omega)) hyv (by rw [← Hrr.out, ← HVV.out]; exact HLt.out)
              have HSt := hide hst
              have HYl := hide hyl
              clear hst hyl hysame hyv
              go_wp2
              go_roundg p
              case measure => omega
              case rel => exact ⟨k + 1, qs.set p y, ys, by omega, by first | rfl | simp, by rw [List.length_set]; exact HQL.out, Nt.ok_set hqo (by omega), fun j hj => by rw [Nt.lb_set_ne (by omega)]; exact HQ0.out j (by omega), by rw [HYl.out, HZL.out], hyo, hrq2.set _ _, (by first | exact hrow2.setOther (k := w.heap.size) _ _ (by omega) | exact hrow2), ((hon.trans hon2).setNew (k := w.heap.size) _ _ (Nat.le_refl _)), HSt.out.1, HSt.out.2⟩
            · have hlt2 : r < y * V := by omega
              have hc := takeOff_no (w := wr) (bo := some ⟨vb, vo, none⟩) (rc := nq + L - p) (bc := bc) (off := p) (x := y) hrz hzo HL.out (by rw [HZL.out]; omega) (by omega) (hon.cells hvc haw) hvo haw (by omega) ⟨hy0, by omega⟩ (by
                rcases Int.lt_or_le (Nt.vt zs (p + L + 1) - Nt.vt zs p) (y * Nt.val vs * Nt.pw p) with h | h
                · exact h
                · have h2 := (Nt.window_off (zs := zs) (p := p) (L := L) (y * Nt.val vs)).1 h; rw [← Hrr.out, ← HVV.out] at h2; omega)
              have hyp : 0 < y := ypos hr0 hlt2 hy0
              have HLt := hide hlt2
              have hob : o + Nt.lb vs l1 = H - (y - 1) * Nt.lb vs l1 := by rw [Ho.out]; grind
              have HOb := hide hob
              have ho9 : o + Nt.lb vs l1 ≤ H := obound hob hyp (by omega)
              clear hge hlt2 hlt hob
              go_wp2_with fail
              refine hc.mono ?_
              clear hc
              rintro e w2 ⟨rfl, hrow2, hon2⟩
              have hrq2 := hon2.row (k := w.heap.size) (by omega) hrq
              go_wp2
              go_roundg (y - 1).toNat
              case measure => omega
              case rel => exact ⟨y - 1, o + Nt.lb vs l1, rfl, by go_num, by go_num, by omega, by omega, HOb.out, by omega, by rw [show y - 1 + 1 = y by omega]; exact HLt.out, hrq2, hrow2, hon.trans hon2⟩
        · skip
          by_cases hge : y * V ≤ r
          · have hc := takeOff_yes (w := wr) (bo := some ⟨vb, vo, none⟩) (rc := nq + L - p) (bc := bc) (off := p) (x := y) hrz hzo HL.out (by rw [HZL.out]; omega) (by omega) (hon.cells hvc haw) hvo haw (by omega) ⟨hy0, by omega⟩ (by rw [← HVV.out]; exact (Nt.window_off (y * V)).2 (by rw [← Hrr.out]; exact hge))
            have HGe := hide hge
            have HLt := hide hlt
            clear hge hlt
            go_wp2_with fail
            refine hc.mono ?_
            clear hc
            rintro e w2 ⟨ys, rfl, hyl, hyo, hysame, hyv, hrow2, hon2⟩
            have hrq2 := hon2.row (k := w.heap.size) (by omega) hrq
            have hfz := hrq2.frozen p
            have hcl := hrq2.cell (i := p) (by rw [HQL.out]; omega)
            have hst := Nt.place_step (zs := zs) (ys := ys) (os := os) (vs := vs) (qs := qs) (p := p) (L := L) (nq := nq) (y := y) hzo HZL.out (by rw [hyl, HZL.out]) HL.out hvo HQL.out (by omega) HQ0.out HVal.out HLess.out (fun j hj => hysame j (by omega)) hyv (by rw [← Hrr.out, ← HVV.out]; exact HLt.out)
            have HSt := hide hst
            have HYl := hide hyl
            clear hst hyl hysame hyv
            go_wp2
            go_roundg p
            case measure => omega
            case rel => exact ⟨k + 1, qs.set p y, ys, by omega, by first | rfl | simp, by rw [List.length_set]; exact HQL.out, Nt.ok_set hqo (by omega), fun j hj => by rw [Nt.lb_set_ne (by omega)]; exact HQ0.out j (by omega), by rw [HYl.out, HZL.out], hyo, hrq2.set _ _, (by first | exact hrow2.setOther (k := w.heap.size) _ _ (by omega) | exact hrow2), ((hon.trans hon2).setNew (k := w.heap.size) _ _ (Nat.le_refl _)), HSt.out.1, HSt.out.2⟩
          · have hlt2 : r < y * V := by omega
            have hc := takeOff_no (w := wr) (bo := some ⟨vb, vo, none⟩) (rc := nq + L - p) (bc := bc) (off := p) (x := y) hrz hzo HL.out (by rw [HZL.out]; omega) (by omega) (hon.cells hvc haw) hvo haw (by omega) ⟨hy0, by omega⟩ (by
              rcases Int.lt_or_le (Nt.vt zs (p + L + 1) - Nt.vt zs p) (y * Nt.val vs * Nt.pw p) with h | h
              · exact h
              · have h2 := (Nt.window_off (zs := zs) (p := p) (L := L) (y * Nt.val vs)).1 h; rw [← Hrr.out, ← HVV.out] at h2; omega)
            have hyp : 0 < y := ypos hr0 hlt2 hy0
            have HLt := hide hlt2
            have hob : o + Nt.lb vs l1 = H - (y - 1) * Nt.lb vs l1 := by rw [Ho.out]; grind
            have HOb := hide hob
            have ho9 : o + Nt.lb vs l1 ≤ H := obound hob hyp (by omega)
            clear hge hlt2 hlt hob
            go_wp2_with fail
            refine hc.mono ?_
            clear hc
            rintro e w2 ⟨rfl, hrow2, hon2⟩
            have hrq2 := hon2.row (k := w.heap.size) (by omega) hrq
            go_wp2
            go_roundg (y - 1).toNat
            case measure => omega
            case rel => exact ⟨y - 1, o + Nt.lb vs l1, rfl, by go_num, by go_num, by omega, by omega, HOb.out, by omega, by rw [show y - 1 + 1 = y by omega]; exact HLt.out, hrq2, hrow2, hon.trans hon2⟩

end Go.Proofs.YtejenbkhhcjeaaaGreatDoor
