/- HeadWithin: the walk -/
import Derived.Test.YtgblakfcplphjaaDoorHdA
namespace Go.Proofs.YtgblakfcplphjaaDoor
open Go.RowKit
set_option linter.unusedVariables false

theorem RdE.tup {w' : World} {a : Nat → Addr} {r : Rd} {e : Ending} (h : RdE w' a r e) : ∃ m i x n v, e = .returned (.tuple #[hdV m i x n, v]) := by
  cases r with
  | arg => exact ⟨_, _, _, _, _, h⟩
  | bad k => obtain ⟨g, h1, _⟩ := h; exact ⟨_, _, _, _, _, h1⟩
  | hd m i x n => exact ⟨_, _, _, _, _, h⟩
theorem RdE.second {w' : World} {a : Nat → Addr} {k m i x n : Int} {v : Value} (h : RdE w' a (.bad k) (.returned (.tuple #[hdV m i x n, v]))) : Flt3 w' a k v := by
  obtain ⟨g, h1, h2⟩ := h
  injection h1 with h1
  injection h1 with h1
  simp at h1
  exact ⟨g, h1.2, h2⟩
set_option maxRecDepth 100000 in
set_option maxHeartbeats 4000000 in
theorem hwithin {w : World} {a : Nat → Addr} {fs es gs : List Int} {f s g : ByteArray} (hSn : Snt w a) (hH : Hnd w) (hT : Beh w) (fb : uByt fs) (hf : f = strOfNums fs) (fl : fs.length ≤ 140737488351232) (hb : uByt es) (hs : s = strOfNums es) (hl : es.length ≤ 140737488351232) (gb : uByt gs) (hg : g = strOfNums gs) (gl : gs.length ≤ 140737488351232) :
    Calls Tryd.prog 8 #[.string f, .string s, .string g] w fun e w' => e = .returned (.bool true) ∧ Below w.heap.size w w' := by
  have CL := hide (lives19 hSn hH hT)
  have CR := hide (fun w1 (h : Below w.heap.size w w1) => hread_any (w := w1) (a := a) (es := es) (s := s) (k := 0) (hSn.below h) (hT.below h) hb hs (by omega))
  have CA := hide (fun w1 (h : Below w.heap.size w w1) => hread_any (w := w1) (a := a) (es := fs ++ es ++ gs) (s := f ++ s ++ g) (k := fs.length) (hSn.below h) (hT.below h) ((fb.append hb).append gb) (by rw [hf, hs, hg, utxt_join, utxt_join]) (by simp; omega))
  have HW := hide (rd_within (a := fs) (s := es) (b := gs) hb)
  have HS := hide hSn
  have HH := hide hH
  have hfz : f.size = fs.length := by rw [hf, strOfNums_size]
  have hsz : s.size = es.length := by rw [hs, strOfNums_size]
  have hgz : g.size = gs.length := by rw [hg, strOfNums_size]
  clear hSn hH hT hb hs fb hf gb hg
  obtain ⟨r, hr⟩ : ∃ r, rdH es 0 = r := ⟨_, rfl⟩
  rw [hr] at CR HW
  obtain ⟨q, hq⟩ : ∃ q, rdH (fs ++ es ++ gs) fs.length = q := ⟨_, rfl⟩
  rw [hq] at CA HW
  clear hr hq
  obtain ⟨F, hF⟩ : ∃ F, fs.length = F := ⟨_, rfl⟩
  obtain ⟨E, hE⟩ : ∃ E, es.length = E := ⟨_, rfl⟩
  obtain ⟨G, hG⟩ : ∃ G, gs.length = G := ⟨_, rfl⟩
  rw [hF] at hfz fl CA HW
  rw [hE] at hsz hl HW
  rw [hG] at hgz gl
  clear hF hE hG
  go_enter Tryd.func8, Tryd.ntmps8
  go_wp2_with fail
  refine CL.out.mono ?_
  rintro e w1 ⟨rfl, hb1⟩
  have HB1 := hide hb1
  clear hb1 CL
  by_cases hbig : (16777216 : Int) < (F : Int) + (E : Int) + (G : Int)
  · go_wp2
    go_ret
    exact ⟨rfl, HB1.out⟩
  · go_wp2_with fail
    refine (CR.out w1 HB1.out).mono ?_
    rintro e w2 ⟨hE, hb2⟩
    have HB2 := hide (HB1.out.trans (hb2.mono HB1.out.size))
    clear hb2 CR HB1
    cases r with
    | arg => exact absurd rfl HW.out.2.2
    | bad j =>
      obtain ⟨v, rfl, hF⟩ := hE.flt
      have HF := hide hF
      obtain ⟨gg, hv⟩ := hF.ifc
      subst hv
      clear hE hF
      simp only [hdV]
      go_wp2_with fail
      obtain ⟨W2, hW2⟩ : ∃ W, w2.alloc (.cells #[.int .u8 0, .int .u8 0, .int .u64 0, .int .i64 0] 24) = W := ⟨_, rfl⟩
      have bW2 : Below w2.heap.size w2 W2 := hW2 ▸ (Below.refl _ _).alloc (Nat.le_refl _) _
      have HB3 := hide (HB2.out.trans (bW2.mono HB2.out.size))
      have HF2 := hide (HF.out.below bW2)
      rw [hW2]
      clear bW2 hW2
      refine (CA.out W2 HB3.out).mono ?_
      rintro e w3 ⟨hE, hb3⟩
      obtain ⟨m2, i2, x2, n2, v2, rfl⟩ := hE.tup
      have HB4 := hide (HB3.out.trans (hb3.mono HB3.out.size))
      have HF3 := hide (HF2.out.below hb3)
      have HQ := hide hE
      clear hb3 hE CA HF HF2
      simp only [hdV]
      go_wp2_with fail
      obtain ⟨W3, hW3⟩ : ∃ W, w3.alloc (.cells #[.int .u8 m2, .int .u8 i2, .int .u64 x2, .int .i64 n2] 24) = W := ⟨_, rfl⟩
      have bW3 : Below w3.heap.size w3 W3 := hW3 ▸ (Below.refl _ _).alloc (Nat.le_refl _) _
      have BW3 := hide bW3
      have HB5 := hide (HB4.out.trans (bW3.mono HB4.out.size))
      have HF4 := hide (HF3.out.below bW3)
      have CAt := hide (f3at HF4.out (HS.out.below HB5.out) (HH.out.below HB5.out))
      rw [hW3]
      clear bW3 hW3 HF3
      refine CAt.out.mono ?_
      rintro e w4 ⟨rfl, hb4⟩
      have HB6 := hide (HB5.out.trans (hb4.mono HB5.out.size))
      have B34 := hide (BW3.out.trans (hb4.mono BW3.out.size))
      have CC := hide (f3code (HF4.out.below hb4) (HS.out.below HB6.out) (HH.out.below HB6.out))
      clear hb4 CAt
      go_wp2_with fail
      refine CC.out.mono ?_
      rintro e w5 ⟨rfl, hb5⟩
      have HB7 := hide (HB6.out.trans (hb5.mono HB6.out.size))
      have B35 := hide (B34.out.trans (hb5.mono B34.out.size))
      clear hb5 CC
      rcases HW.out.2.1 j rfl with hj | ⟨hj, hq⟩
      · subst hj
        by_cases hE0 : E = 0
        · subst hE0
          go_wp2
          go_ret
          exact ⟨rfl, HB7.out⟩
        · have e1 : ((E : Int) != 0) = true := by simp; omega
          go_wp2
          go_ret
          exact ⟨rfl, HB7.out⟩
      · subst hj
        by_cases hE0 : E = 0
        · subst hE0
          go_wp2
          go_ret
          exact ⟨rfl, HB7.out⟩
        · have e1 : ((0 : Int) == (E : Int)) = false := by simp; omega
          have CI := hide (f3isat (F : Int) ((RdE.second (hq ▸ HQ.out)).below B35.out) (HS.out.below HB7.out) (HH.out.below HB7.out))
          rw [decide_eq_true rfl] at CI
          go_wp2_with fail
          refine CI.out.mono ?_
          rintro e w6 ⟨rfl, hb6⟩
          have HB8 := hide (HB7.out.trans (hb6.mono HB7.out.size))
          clear hb6 CI
          go_wp2
          go_ret
          exact ⟨rfl, HB8.out⟩
    | hd m i x n =>
      obtain rfl := hE
      obtain rfl := HW.out.1 m i x n rfl
      simp only [hdV]
      go_wp2_with fail
      obtain ⟨W2, hW2⟩ : ∃ W, w2.alloc (.cells #[.int .u8 m, .int .u8 i, .int .u64 x, .int .i64 n] 24) = W := ⟨_, rfl⟩
      have bW2 : Below w2.heap.size w2 W2 := hW2 ▸ (Below.refl _ _).alloc (Nat.le_refl _) _
      have k2 : W2.heap[w2.heap.size]? = some (.cells #[.int .u8 m, .int .u8 i, .int .u64 x, .int .i64 n] 24 (0, 0)) := hW2 ▸ heap_alloc_new w2 _
      have HB3 := hide (HB2.out.trans (bW2.mono HB2.out.size))
      rw [hW2]
      clear bW2 hW2
      refine (CA.out W2 HB3.out).mono ?_
      rintro e w3 ⟨hE, hb3⟩
      obtain rfl := hE
      have HB4 := hide (HB3.out.trans (hb3.mono HB3.out.size))
      have k3 := keep4 k2 hb3
      clear hb3 CA k2
      obtain ⟨f0, f1, f2, f3, _⟩ := four_cells (keep4 k3 ((Below.refl w3.heap.size w3).alloc (Nat.le_refl _) (.cells #[.int .u8 m, .int .u8 i, .int .u64 x, .int .i64 n] 24)))
      have HB5 := hide (HB4.out.alloc HB4.out.size (.cells #[.int .u8 m, .int .u8 i, .int .u64 x, .int .i64 n] 24))
      simp only [hdV]
      clear k3
      go_wp2
      go_ret
      exact ⟨by simp, HB5.out⟩

end Go.Proofs.YtgblakfcplphjaaDoor
