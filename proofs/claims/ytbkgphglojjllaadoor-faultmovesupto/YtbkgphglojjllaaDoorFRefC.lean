/- ref13: found, Of -/
import Derived.Test.YtbkgphglojjllaaDoorFRefB
namespace Go.Proofs.YtbkgphglojjllaaDoor
open Go.RowKit
set_option linter.unusedVariables false
set_option linter.unusedSimpArgs false

theorem five_set {w : World} {b : Nat} {x0 x1 x2 x3 x4 : Value} {T : TypeId} (y0 y1 y2 y3 y4 : Value) (h : w.heap[b]? = some (.cells #[x0, x1, x2, x3, x4] T (0, 0))) :
    (((((w.setCell ⟨b, 0, none⟩ y0).setCell ⟨b, 1, none⟩ y1).setCell ⟨b, 2, none⟩ y2).setCell ⟨b, 3, none⟩ y3).setCell ⟨b, 4, none⟩ y4).heap[b]? = some (.cells #[y0, y1, y2, y3, y4] T (0, 0)) := by
  have h1 := heap_setCell_same w b 0 _ T y0 h
  have h2 := heap_setCell_same _ b 1 _ T y1 h1
  have h3 := heap_setCell_same _ b 2 _ T y2 h2
  have h4 := heap_setCell_same _ b 3 _ T y3 h3
  exact heap_setCell_same _ b 4 _ T y4 h4
theorem bel_alloc13 (w : World) (o : Obj) : Below w.heap.size w (w.alloc o) := (Below.refl _ _).alloc (Nat.le_refl _) _
theorem five_below {B : Nat} {w w' : World} {b : Nat} (h : Below B w w') (hb : B ≤ b) (y0 y1 y2 y3 y4 : Value) : Below B w (((((w'.setCell ⟨b, 0, none⟩ y0).setCell ⟨b, 1, none⟩ y1).setCell ⟨b, 2, none⟩ y2).setCell ⟨b, 3, none⟩ y3).setCell ⟨b, 4, none⟩ y4) :=
  ((((h.setCell (p := ⟨b, 0, none⟩) hb _).setCell (p := ⟨b, 1, none⟩) hb _).setCell (p := ⟨b, 2, none⟩) hb _).setCell (p := ⟨b, 3, none⟩) hb _).setCell (p := ⟨b, 4, none⟩) hb _
/-- what found tells -/
def fnV (o : Option Nd) (v : Value) : Value := match o with
  | none => .tuple #[.agg #[.int .i64 0, .int .i64 0, .int .i64 0, .string ⟨#[]⟩, .slice none 0 0], .bool false]
  | some y => .tuple #[ndV y v, .bool true]
set_option maxHeartbeats 8000000 in
set_option maxRecDepth 100000 in
theorem rfound_all : ∀ (N : Nat) (x : Nd), SizeOf.sizeOf x ≤ N → ∀ (w : World) (v : Value), NdSl w v x.kids →
    Calls Tryd.prog 34 #[ndV x v] w fun e w' => (∃ vy, e = .returned (fnV (ndF x) vy) ∧ ∃ ao n cap, vy = .slice ao n cap) ∧ Below w.heap.size w w' := by
  intro N
  induction N with
  | zero => intro x hx; cases x; simp at hx
  | succ N ih =>
    intro x hx w v hv
    have hkid := fun i (h : i < x.kids.length) => Nd.kid_lt h
    obtain ⟨k, c, a, p, ks⟩ := x
    obtain ⟨ao, cap, rfl, hcap, hmax⟩ := hv.len
    have HV := hide hv
    have IH := hide ih
    have hsz : SizeOf.sizeOf (Nd.mk k c a p ks) ≤ N + 1 := hx
    simp only [Nd.kids] at hkid HV hcap hmax
    show Calls Tryd.prog 34 #[.agg #[.int .i64 k, .int .i64 c, .int .i64 a, .string p, .slice ao ks.length cap]] w _
    have KB := hide ((Below.refl w.heap.size w).alloc (Nat.le_refl _) (.cells #[.int .i64 k, .int .i64 c, .int .i64 a, .string p, .slice ao ks.length cap] 24))
    have K0 := hide (KB.out.alloc KB.out.size (.cells #[.int .i64 0, .int .i64 0, .int .i64 0, .string ⟨#[]⟩, .slice none 0 0] 24))
    have HKD := hide hkid
    clear hv ih hx hkid
    cases hnil : ndNil (.mk k c a p ks) with
    | true =>
      rw [nd_nil_F hnil]
      go_enter Tryd.func34, Tryd.ntmps34
      go_wp2_with fail
      refine ris_any.mono ?_
      rintro e w1 ⟨rfl, hb1⟩
      rw [hnil]
      have K1 := hide (K0.out.trans (hb1.mono K0.out.size))
      have C1 := hide (((Below.refl _ _).alloc (Nat.le_refl _) (.cells #[.int .i64 0, .int .i64 0, .int .i64 0, .string ⟨#[]⟩, .slice none 0 0] 24)).trans (hb1.mono (by simp)))
      obtain ⟨d0, d1, d2, d3, d4⟩ := box_node w1 C1.out
      have hz := new_at (w := w.alloc (.cells #[.int .i64 k, .int .i64 c, .int .i64 a, .string p, .slice ao ks.length cap] 24)) (o := (.cells #[.int .i64 0, .int .i64 0, .int .i64 0, .string ⟨#[]⟩, .slice none 0 0] 24)) (n := w.heap.size + 1) (by simp)
      rw [← hb1.block _ (by simp)] at hz
      have HZ := hide hz
      have t0 := Lib.cell_of_heap hz 0; have t1 := Lib.cell_of_heap hz 1; have t2 := Lib.cell_of_heap hz 2; have t3 := Lib.cell_of_heap hz 3; have t4 := Lib.cell_of_heap hz 4
      have f0 := Lib.frozen_of_heap hz 0; have f1 := Lib.frozen_of_heap hz 1; have f2 := Lib.frozen_of_heap hz 2; have f3 := Lib.frozen_of_heap hz 3; have f4 := Lib.frozen_of_heap hz 4
      simp at t0 t1 t2 t3 t4
      clear hb1 hz hnil
      have h3 := five_set (.int .i64 0) (.int .i64 0) (.int .i64 0) (.string ⟨#[]⟩) (.slice none 0 0) HZ.out
      have K3 := hide (five_below K1.out (by omega : w.heap.size ≤ w.heap.size + 1) (.int .i64 0) (.int .i64 0) (.int .i64 0) (.string ⟨#[]⟩) (.slice none 0 0))
      go_wp2
      generalize (((((w1.setCell ⟨w.heap.size + 1, 0, none⟩ (.int .i64 0)).setCell ⟨w.heap.size + 1, 1, none⟩ (.int .i64 0)).setCell ⟨w.heap.size + 1, 2, none⟩ (.int .i64 0)).setCell ⟨w.heap.size + 1, 3, none⟩ (.string ⟨#[]⟩)).setCell ⟨w.heap.size + 1, 4, none⟩ (.slice none 0 0)) = W3 at h3 K3 ⊢
      have s0 := Lib.cell_of_heap h3 0; have s1 := Lib.cell_of_heap h3 1; have s2 := Lib.cell_of_heap h3 2; have s3 := Lib.cell_of_heap h3 3; have s4 := Lib.cell_of_heap h3 4
      simp at s0 s1 s2 s3 s4
      clear h3
      refine bodyPost_ret (v := fnV none (.slice none 0 0)) (by simp [results, Tryd.results34, go_sem, s0, s1, s2, s3, s4, fnV, ndV, Nd.kind, Nd.code, Nd.place, Nd.path]) rfl ⟨⟨_, rfl, _, _, _, rfl⟩, K3.out⟩
    | false =>
      have hn := of_decide_eq_false hnil
      simp only [Nd.kind, Nd.code] at hn
      have hf : ndF (.mk k c a p ks) = if k = 3 ∨ k = 6 then some (.mk k c a p ks) else if k = 4 then hdF ks else if k = 5 then anyF ks else none := ndF_eq (.mk k c a p ks)
      by_cases k36 : k = 3 ∨ k = 6
      · rw [hf, if_pos k36]
        clear hf hn
        rcases k36 with rfl | rfl
        · skip
          go_enter Tryd.func34, Tryd.ntmps34
          go_wp2_with fail
          refine ris_any.mono ?_
          rintro e w1 ⟨rfl, hb1⟩
          rw [hnil]
          have K1 := hide (K0.out.trans (hb1.mono K0.out.size))
          have C1 := hide (((Below.refl _ _).alloc (Nat.le_refl _) (.cells #[.int .i64 0, .int .i64 0, .int .i64 0, .string ⟨#[]⟩, .slice none 0 0] 24)).trans (hb1.mono (by simp)))
          obtain ⟨d0, d1, d2, d3, d4⟩ := box_node w1 C1.out
          have hz := new_at (w := w.alloc (.cells #[.int .i64 3, .int .i64 c, .int .i64 a, .string p, .slice ao ks.length cap] 24)) (o := (.cells #[.int .i64 0, .int .i64 0, .int .i64 0, .string ⟨#[]⟩, .slice none 0 0] 24)) (n := w.heap.size + 1) (by simp)
          rw [← hb1.block _ (by simp)] at hz
          have HZ := hide hz
          have t0 := Lib.cell_of_heap hz 0; have t1 := Lib.cell_of_heap hz 1; have t2 := Lib.cell_of_heap hz 2; have t3 := Lib.cell_of_heap hz 3; have t4 := Lib.cell_of_heap hz 4
          have f0 := Lib.frozen_of_heap hz 0; have f1 := Lib.frozen_of_heap hz 1; have f2 := Lib.frozen_of_heap hz 2; have f3 := Lib.frozen_of_heap hz 3; have f4 := Lib.frozen_of_heap hz 4
          simp at t0 t1 t2 t3 t4
          clear hb1 hz hnil
          have h3 := five_set (.int .i64 3) (.int .i64 c) (.int .i64 a) (.string p) (.slice ao ks.length cap) HZ.out
          have K3 := hide (five_below K1.out (by omega : w.heap.size ≤ w.heap.size + 1) (.int .i64 3) (.int .i64 c) (.int .i64 a) (.string p) (.slice ao ks.length cap))
          go_wp2
          generalize (((((w1.setCell ⟨w.heap.size + 1, 0, none⟩ (.int .i64 3)).setCell ⟨w.heap.size + 1, 1, none⟩ (.int .i64 c)).setCell ⟨w.heap.size + 1, 2, none⟩ (.int .i64 a)).setCell ⟨w.heap.size + 1, 3, none⟩ (.string p)).setCell ⟨w.heap.size + 1, 4, none⟩ (.slice ao ks.length cap)) = W3 at h3 K3 ⊢
          have s0 := Lib.cell_of_heap h3 0; have s1 := Lib.cell_of_heap h3 1; have s2 := Lib.cell_of_heap h3 2; have s3 := Lib.cell_of_heap h3 3; have s4 := Lib.cell_of_heap h3 4
          simp at s0 s1 s2 s3 s4
          clear h3
          refine bodyPost_ret (v := fnV (some (.mk 3 c a p ks)) (.slice ao ks.length cap)) (by simp [results, Tryd.results34, go_sem, s0, s1, s2, s3, s4, fnV, ndV, Nd.kind, Nd.code, Nd.place, Nd.path]) rfl ⟨⟨_, rfl, _, _, _, rfl⟩, K3.out⟩
        · skip
          go_enter Tryd.func34, Tryd.ntmps34
          go_wp2_with fail
          refine ris_any.mono ?_
          rintro e w1 ⟨rfl, hb1⟩
          rw [hnil]
          have K1 := hide (K0.out.trans (hb1.mono K0.out.size))
          have C1 := hide (((Below.refl _ _).alloc (Nat.le_refl _) (.cells #[.int .i64 0, .int .i64 0, .int .i64 0, .string ⟨#[]⟩, .slice none 0 0] 24)).trans (hb1.mono (by simp)))
          obtain ⟨d0, d1, d2, d3, d4⟩ := box_node w1 C1.out
          have hz := new_at (w := w.alloc (.cells #[.int .i64 6, .int .i64 c, .int .i64 a, .string p, .slice ao ks.length cap] 24)) (o := (.cells #[.int .i64 0, .int .i64 0, .int .i64 0, .string ⟨#[]⟩, .slice none 0 0] 24)) (n := w.heap.size + 1) (by simp)
          rw [← hb1.block _ (by simp)] at hz
          have HZ := hide hz
          have t0 := Lib.cell_of_heap hz 0; have t1 := Lib.cell_of_heap hz 1; have t2 := Lib.cell_of_heap hz 2; have t3 := Lib.cell_of_heap hz 3; have t4 := Lib.cell_of_heap hz 4
          have f0 := Lib.frozen_of_heap hz 0; have f1 := Lib.frozen_of_heap hz 1; have f2 := Lib.frozen_of_heap hz 2; have f3 := Lib.frozen_of_heap hz 3; have f4 := Lib.frozen_of_heap hz 4
          simp at t0 t1 t2 t3 t4
          clear hb1 hz hnil
          have h3 := five_set (.int .i64 6) (.int .i64 c) (.int .i64 a) (.string p) (.slice ao ks.length cap) HZ.out
          have K3 := hide (five_below K1.out (by omega : w.heap.size ≤ w.heap.size + 1) (.int .i64 6) (.int .i64 c) (.int .i64 a) (.string p) (.slice ao ks.length cap))
          go_wp2
          generalize (((((w1.setCell ⟨w.heap.size + 1, 0, none⟩ (.int .i64 6)).setCell ⟨w.heap.size + 1, 1, none⟩ (.int .i64 c)).setCell ⟨w.heap.size + 1, 2, none⟩ (.int .i64 a)).setCell ⟨w.heap.size + 1, 3, none⟩ (.string p)).setCell ⟨w.heap.size + 1, 4, none⟩ (.slice ao ks.length cap)) = W3 at h3 K3 ⊢
          have s0 := Lib.cell_of_heap h3 0; have s1 := Lib.cell_of_heap h3 1; have s2 := Lib.cell_of_heap h3 2; have s3 := Lib.cell_of_heap h3 3; have s4 := Lib.cell_of_heap h3 4
          simp at s0 s1 s2 s3 s4
          clear h3
          refine bodyPost_ret (v := fnV (some (.mk 6 c a p ks)) (.slice ao ks.length cap)) (by simp [results, Tryd.results34, go_sem, s0, s1, s2, s3, s4, fnV, ndV, Nd.kind, Nd.code, Nd.place, Nd.path]) rfl ⟨⟨_, rfl, _, _, _, rfl⟩, K3.out⟩
      · have k3' : (k == 3) = false := beq_eq_false_iff_ne.2 (by omega)
        have k6' : (k == 6) = false := beq_eq_false_iff_ne.2 (by omega)
        by_cases k4 : k = 4
        · subst k4
          rw [hf, if_neg k36, if_pos rfl]
          clear hf hn k36
          rcases Nat.eq_zero_or_pos ks.length with h0 | h0
          · have hl2 : hdF ks = none := by
              rw [List.eq_nil_of_length_eq_zero h0]
              simp only [hdF]
            rw [hl2]
            have h0' : ¬ ((0 : Int) < (ks.length : Int)) := by omega
            clear hl2 h0
            go_enter Tryd.func34, Tryd.ntmps34
            go_wp2_with fail
            refine ris_any.mono ?_
            rintro e w1 ⟨rfl, hb1⟩
            rw [hnil]
            have K1 := hide (K0.out.trans (hb1.mono K0.out.size))
            have C1 := hide (((Below.refl _ _).alloc (Nat.le_refl _) (.cells #[.int .i64 0, .int .i64 0, .int .i64 0, .string ⟨#[]⟩, .slice none 0 0] 24)).trans (hb1.mono (by simp)))
            obtain ⟨d0, d1, d2, d3, d4⟩ := box_node w1 C1.out
            have hz := new_at (w := w.alloc (.cells #[.int .i64 4, .int .i64 c, .int .i64 a, .string p, .slice ao ks.length cap] 24)) (o := (.cells #[.int .i64 0, .int .i64 0, .int .i64 0, .string ⟨#[]⟩, .slice none 0 0] 24)) (n := w.heap.size + 1) (by simp)
            rw [← hb1.block _ (by simp)] at hz
            have HZ := hide hz
            have t0 := Lib.cell_of_heap hz 0; have t1 := Lib.cell_of_heap hz 1; have t2 := Lib.cell_of_heap hz 2; have t3 := Lib.cell_of_heap hz 3; have t4 := Lib.cell_of_heap hz 4
            have f0 := Lib.frozen_of_heap hz 0; have f1 := Lib.frozen_of_heap hz 1; have f2 := Lib.frozen_of_heap hz 2; have f3 := Lib.frozen_of_heap hz 3; have f4 := Lib.frozen_of_heap hz 4
            simp at t0 t1 t2 t3 t4
            clear hb1 hz hnil
            have h3 := five_set (.int .i64 0) (.int .i64 0) (.int .i64 0) (.string ⟨#[]⟩) (.slice none 0 0) HZ.out
            have K3 := hide (five_below K1.out (by omega : w.heap.size ≤ w.heap.size + 1) (.int .i64 0) (.int .i64 0) (.int .i64 0) (.string ⟨#[]⟩) (.slice none 0 0))
            go_wp2
            generalize (((((w1.setCell ⟨w.heap.size + 1, 0, none⟩ (.int .i64 0)).setCell ⟨w.heap.size + 1, 1, none⟩ (.int .i64 0)).setCell ⟨w.heap.size + 1, 2, none⟩ (.int .i64 0)).setCell ⟨w.heap.size + 1, 3, none⟩ (.string ⟨#[]⟩)).setCell ⟨w.heap.size + 1, 4, none⟩ (.slice none 0 0)) = W3 at h3 K3 ⊢
            have s0 := Lib.cell_of_heap h3 0; have s1 := Lib.cell_of_heap h3 1; have s2 := Lib.cell_of_heap h3 2; have s3 := Lib.cell_of_heap h3 3; have s4 := Lib.cell_of_heap h3 4
            simp at s0 s1 s2 s3 s4
            clear h3
            refine bodyPost_ret (v := fnV none (.slice none 0 0)) (by simp [results, Tryd.results34, go_sem, s0, s1, s2, s3, s4, fnV, ndV, Nd.kind, Nd.code, Nd.place, Nd.path]) rfl ⟨⟨_, rfl, _, _, _, rfl⟩, K3.out⟩
          · have h0' : (0 : Int) < (ks.length : Int) := by omega
            have hl2 : hdF ks = ndF ks[0] := by
              conv => lhs; rw [← List.drop_zero (l := ks), List.drop_eq_getElem_cons h0]
              simp only [hdF]
            rw [hl2]
            have hlt := HKD.out 0 h0
            obtain ⟨y, hy⟩ : ∃ y, y = ks[0] := ⟨_, rfl⟩
            rw [← hy] at hlt ⊢
            clear hl2
            go_enter Tryd.func34, Tryd.ntmps34
            go_wp2_with fail
            refine ris_any.mono ?_
            rintro e w1 ⟨rfl, hb1⟩
            rw [hnil]
            have K1 := hide (K0.out.trans (hb1.mono K0.out.size))
            have C1 := hide (((Below.refl _ _).alloc (Nat.le_refl _) (.cells #[.int .i64 0, .int .i64 0, .int .i64 0, .string ⟨#[]⟩, .slice none 0 0] 24)).trans (hb1.mono (by simp)))
            obtain ⟨d0, d1, d2, d3, d4⟩ := box_node w1 C1.out
            have hz := new_at (w := w.alloc (.cells #[.int .i64 4, .int .i64 c, .int .i64 a, .string p, .slice ao ks.length cap] 24)) (o := (.cells #[.int .i64 0, .int .i64 0, .int .i64 0, .string ⟨#[]⟩, .slice none 0 0] 24)) (n := w.heap.size + 1) (by simp)
            rw [← hb1.block _ (by simp)] at hz
            have HZ := hide hz
            have t0 := Lib.cell_of_heap hz 0; have t1 := Lib.cell_of_heap hz 1; have t2 := Lib.cell_of_heap hz 2; have t3 := Lib.cell_of_heap hz 3; have t4 := Lib.cell_of_heap hz 4
            have f0 := Lib.frozen_of_heap hz 0; have f1 := Lib.frozen_of_heap hz 1; have f2 := Lib.frozen_of_heap hz 2; have f3 := Lib.frozen_of_heap hz 3; have f4 := Lib.frozen_of_heap hz 4
            simp at t0 t1 t2 t3 t4
            clear hb1 hz hnil
            obtain ⟨b, off, vi, rfl, hbl, hcc, hks⟩ := NdSl.at (HV.out.far K1.out) rfl h0
            rw [Nat.zero_mul, Nat.add_zero, ← hy] at hcc
            rw [← hy] at hks
            obtain ⟨z0, z1, z2, z3, z4⟩ := hcc
            have hcall := IH.out y (by omega) w1 vi hks
            unfold ndV at hcall
            have HC := hide hcall
            clear hy
            obtain ⟨ao2, cap2, rfl, _, _⟩ := hks.len
            clear hcall hks hbl
            go_wp2_with fail
            refine HC.out.mono ?_
            rintro e w2 ⟨⟨vy, rfl, ay, ny, cy, rfl⟩, hb2⟩
            have K2 := hide (K1.out.trans (hb2.mono K1.out.size))
            have hz := HZ.out
            rw [← hb2.block _ (Array.getElem?_eq_some_iff.1 hz).1] at hz
            replace HZ := hide hz
            clear t0 t1 t2 t3 t4 f0 f1 f2 f3 f4
            have t0 := Lib.cell_of_heap hz 0; have t1 := Lib.cell_of_heap hz 1; have t2 := Lib.cell_of_heap hz 2; have t3 := Lib.cell_of_heap hz 3; have t4 := Lib.cell_of_heap hz 4
            have f0 := Lib.frozen_of_heap hz 0; have f1 := Lib.frozen_of_heap hz 1; have f2 := Lib.frozen_of_heap hz 2; have f3 := Lib.frozen_of_heap hz 3; have f4 := Lib.frozen_of_heap hz 4
            simp at t0 t1 t2 t3 t4
            clear hb2 HC hz z0 z1 z2 z3 z4 d0 d1 d2 d3 d4
            cases hyf : ndF y with
            | none =>
              simp only [fnV]
              have h3 := five_set (.int .i64 0) (.int .i64 0) (.int .i64 0) (.string ⟨#[]⟩) (.slice none 0 0) HZ.out
              have K3 := hide (five_below K2.out (by omega : w.heap.size ≤ w.heap.size + 1) (.int .i64 0) (.int .i64 0) (.int .i64 0) (.string ⟨#[]⟩) (.slice none 0 0))
              go_wp2
              generalize (((((w2.setCell ⟨w.heap.size + 1, 0, none⟩ (.int .i64 0)).setCell ⟨w.heap.size + 1, 1, none⟩ (.int .i64 0)).setCell ⟨w.heap.size + 1, 2, none⟩ (.int .i64 0)).setCell ⟨w.heap.size + 1, 3, none⟩ (.string ⟨#[]⟩)).setCell ⟨w.heap.size + 1, 4, none⟩ (.slice none 0 0)) = W3 at h3 K3 ⊢
              have s0 := Lib.cell_of_heap h3 0; have s1 := Lib.cell_of_heap h3 1; have s2 := Lib.cell_of_heap h3 2; have s3 := Lib.cell_of_heap h3 3; have s4 := Lib.cell_of_heap h3 4
              simp at s0 s1 s2 s3 s4
              clear h3
              refine bodyPost_ret (v := fnV none (.slice none 0 0)) (by simp [results, Tryd.results34, go_sem, s0, s1, s2, s3, s4, fnV, ndV, Nd.kind, Nd.code, Nd.place, Nd.path]) rfl ⟨⟨_, by rw [hyf], _, _, _, rfl⟩, K3.out⟩
            | some q =>
              obtain ⟨qk, qc, qa, qp, qs⟩ := q
              simp only [fnV, ndV, Nd.kind, Nd.code, Nd.place, Nd.path]
              have h3 := five_set (.int .i64 qk) (.int .i64 qc) (.int .i64 qa) (.string qp) (.slice ay ny cy) HZ.out
              have K3 := hide (five_below K2.out (by omega : w.heap.size ≤ w.heap.size + 1) (.int .i64 qk) (.int .i64 qc) (.int .i64 qa) (.string qp) (.slice ay ny cy))
              go_wp2
              generalize (((((w2.setCell ⟨w.heap.size + 1, 0, none⟩ (.int .i64 qk)).setCell ⟨w.heap.size + 1, 1, none⟩ (.int .i64 qc)).setCell ⟨w.heap.size + 1, 2, none⟩ (.int .i64 qa)).setCell ⟨w.heap.size + 1, 3, none⟩ (.string qp)).setCell ⟨w.heap.size + 1, 4, none⟩ (.slice ay ny cy)) = W3 at h3 K3 ⊢
              have s0 := Lib.cell_of_heap h3 0; have s1 := Lib.cell_of_heap h3 1; have s2 := Lib.cell_of_heap h3 2; have s3 := Lib.cell_of_heap h3 3; have s4 := Lib.cell_of_heap h3 4
              simp at s0 s1 s2 s3 s4
              clear h3
              refine bodyPost_ret (v := fnV (some (.mk qk qc qa qp qs)) (.slice ay ny cy)) (by simp [results, Tryd.results34, go_sem, s0, s1, s2, s3, s4, fnV, ndV, Nd.kind, Nd.code, Nd.place, Nd.path]) rfl ⟨⟨_, by rw [hyf], _, _, _, rfl⟩, K3.out⟩
        · have k4' : (k == 4) = false := beq_eq_false_iff_ne.2 k4
          by_cases k5 : k = 5
          · subst k5
            rw [hf, if_neg k36, if_neg k4, if_pos rfl]
            clear hf hn k36 k4
            go_enter Tryd.func34, Tryd.ntmps34
            go_wp2_with fail
            refine ris_any.mono ?_
            rintro e w1 ⟨rfl, hb1⟩
            rw [hnil]
            have K1 := hide (K0.out.trans (hb1.mono K0.out.size))
            have C1 := hide (((Below.refl _ _).alloc (Nat.le_refl _) (.cells #[.int .i64 0, .int .i64 0, .int .i64 0, .string ⟨#[]⟩, .slice none 0 0] 24)).trans (hb1.mono (by simp)))
            obtain ⟨d0, d1, d2, d3, d4⟩ := box_node w1 C1.out
            have hz := new_at (w := w.alloc (.cells #[.int .i64 5, .int .i64 c, .int .i64 a, .string p, .slice ao ks.length cap] 24)) (o := (.cells #[.int .i64 0, .int .i64 0, .int .i64 0, .string ⟨#[]⟩, .slice none 0 0] 24)) (n := w.heap.size + 1) (by simp)
            rw [← hb1.block _ (by simp)] at hz
            have HZ := hide hz
            have t0 := Lib.cell_of_heap hz 0; have t1 := Lib.cell_of_heap hz 1; have t2 := Lib.cell_of_heap hz 2; have t3 := Lib.cell_of_heap hz 3; have t4 := Lib.cell_of_heap hz 4
            have f0 := Lib.frozen_of_heap hz 0; have f1 := Lib.frozen_of_heap hz 1; have f2 := Lib.frozen_of_heap hz 2; have f3 := Lib.frozen_of_heap hz 3; have f4 := Lib.frozen_of_heap hz 4
            simp at t0 t1 t2 t3 t4
            clear hb1 hz hnil
            go_wp2_with fail
            go_loopw [4, 5, 6] (fun q q5 q6 wr => ∃ (i : Nat), q = .int .i64 i ∧ i ≤ ks.length ∧ anyF (ks.take i) = none ∧ Hid (Below (w.alloc (.cells #[.int .i64 5, .int .i64 c, .int .i64 a, .string p, .slice ao ks.length cap] 24)).heap.size (w.alloc (.cells #[.int .i64 5, .int .i64 c, .int .i64 a, .string p, .slice ao ks.length cap] 24)) wr) ∧ Hid (Below w1.heap.size w1 wr)) (fun q _ _ _ => ks.length - (intOf q).toNat)
            case atStart => exact ⟨0, rfl, by omega, by simp [anyF], C1, hide (Below.refl _ _)⟩
            case round =>
              obtain ⟨i, rfl, hi, hany, HB, HB1⟩ := hrel
              clear d0 d1 d2 d3 d4 t0 t1 t2 t3 t4 f0 f1 f2 f3 f4
              obtain ⟨d0, d1, d2, d3, d4⟩ := box_node wr HB.out
              have KR := hide (K1.out.trans (HB1.out.mono K1.out.size))
              have hz := HZ.out
              rw [← HB1.out.block _ (Array.getElem?_eq_some_iff.1 hz).1] at hz
              have HZ1 := hide hz
              by_cases hil : i < ks.length
              · have q1 : (i : Int) < (ks.length : Int) := by omega
                have q0 : (0 : Int) ≤ (i : Int) := by omega
                obtain ⟨b, off, vi, rfl, hbl, hcc, hks⟩ := NdSl.at (HV.out.far KR.out) rfl hil
                obtain ⟨z0, z1, z2, z3, z4⟩ := hcc
                have hcall := IH.out ks[i] (by have := HKD.out i hil; omega) wr vi hks
                unfold ndV at hcall
                have HC := hide hcall
                have hnx := fun (h : ndF ks[i] = none) => (anyF_take_succ hil hany).trans h
                have hsm := fun (y : Nd) (h : ndF ks[i] = some y) => anyF_some hil hany h
                have HNX := hide hnx
                have HSM := hide hsm
                generalize ks[i] = y at *
                obtain ⟨ao2, cap2, rfl, _, _⟩ := hks.len
                have w2' : IntKind.i64.wrap ((i : Int) + 1) = (i : Int) + 1 := by rw [IntKind.wrap_i64]; omega
                clear hcall hks hbl hnx hsm hany hz
                go_wp2_with fail
                refine HC.out.mono ?_
                rintro e w2 ⟨⟨vy, rfl, ay, ny, cy, rfl⟩, hb2⟩
                have HB2 := hide (HB.out.trans (hb2.mono HB.out.size))
                have HB3 := hide (HB1.out.trans (hb2.mono HB1.out.size))
                have K2 := hide (KR.out.trans (hb2.mono KR.out.size))
                have hz := HZ1.out
                rw [← hb2.block _ (Array.getElem?_eq_some_iff.1 hz).1] at hz
                clear hb2 HC z0 z1 z2 z3 z4 d0 d1 d2 d3 d4
                cases hyf : ndF y with
                | none =>
                  have HA := hide (HNX.out hyf)
                  simp only [fnV]
                  have HB4 := hide (HB2.out.alloc (by have := HB2.out.size; omega) (.cells #[.int .i64 0, .int .i64 0, .int .i64 0, .string ⟨#[]⟩, .slice none 0 0] 24))
                  have HB5 := hide (HB3.out.alloc HB3.out.size (.cells #[.int .i64 0, .int .i64 0, .int .i64 0, .string ⟨#[]⟩, .slice none 0 0] 24))
                  clear hz HNX HSM
                  go_wp2
                  go_roundw
                  case rel => exact ⟨i + 1, by simp, by omega, HA.out, HB4, HB5⟩
                  case measure => simp [intOf]; omega
                | some q =>
                  have HA := hide (HSM.out q hyf)
                  obtain ⟨qk, qc, qa, qp, qs⟩ := q
                  simp only [fnV, ndV, Nd.kind, Nd.code, Nd.place, Nd.path]
                  have KZ := hide (K2.out.alloc K2.out.size (.cells #[.int .i64 qk, .int .i64 qc, .int .i64 qa, .string qp, .slice ay ny cy] 24))
                  have BZ := bel_alloc13 w2 (.cells #[.int .i64 qk, .int .i64 qc, .int .i64 qa, .string qp, .slice ay ny cy] 24)
                  rw [← BZ.block _ (Array.getElem?_eq_some_iff.1 hz).1] at hz
                  replace HZ := hide hz
                  obtain ⟨e0, e1, e2, e3, e4⟩ := box_node (w := w2) (k := qk) (c := qc) (a := qa) (p := qp) (v := .slice ay ny cy) _ (Below.refl _ _)
                  have t0 := Lib.cell_of_heap hz 0; have t1 := Lib.cell_of_heap hz 1; have t2 := Lib.cell_of_heap hz 2; have t3 := Lib.cell_of_heap hz 3; have t4 := Lib.cell_of_heap hz 4
                  have f0 := Lib.frozen_of_heap hz 0; have f1 := Lib.frozen_of_heap hz 1; have f2 := Lib.frozen_of_heap hz 2; have f3 := Lib.frozen_of_heap hz 3; have f4 := Lib.frozen_of_heap hz 4
                  simp only [List.getElem?_toArray, List.getElem?_cons_zero, List.getElem?_cons_succ] at t0 t1 t2 t3 t4
                  clear hz BZ HNX HSM HB2 HB3
                  have h3 := five_set (.int .i64 qk) (.int .i64 qc) (.int .i64 qa) (.string qp) (.slice ay ny cy) HZ.out
                  have K3 := hide (five_below KZ.out (by omega : w.heap.size ≤ w.heap.size + 1) (.int .i64 qk) (.int .i64 qc) (.int .i64 qa) (.string qp) (.slice ay ny cy))
                  go_wp2
                  generalize ((((((w2.alloc (.cells #[.int .i64 qk, .int .i64 qc, .int .i64 qa, .string qp, .slice ay ny cy] 24)).setCell ⟨w.heap.size + 1, 0, none⟩ (.int .i64 qk)).setCell ⟨w.heap.size + 1, 1, none⟩ (.int .i64 qc)).setCell ⟨w.heap.size + 1, 2, none⟩ (.int .i64 qa)).setCell ⟨w.heap.size + 1, 3, none⟩ (.string qp)).setCell ⟨w.heap.size + 1, 4, none⟩ (.slice ay ny cy)) = W3 at h3 K3 ⊢
                  have s0 := Lib.cell_of_heap h3 0; have s1 := Lib.cell_of_heap h3 1; have s2 := Lib.cell_of_heap h3 2; have s3 := Lib.cell_of_heap h3 3; have s4 := Lib.cell_of_heap h3 4
                  simp at s0 s1 s2 s3 s4
                  clear h3
                  refine bodyPost_ret (v := fnV (some (.mk qk qc qa qp qs)) (.slice ay ny cy)) (by simp [results, Tryd.results34, go_sem, s0, s1, s2, s3, s4, fnV, ndV, Nd.kind, Nd.code, Nd.place, Nd.path]) rfl ⟨⟨_, by rw [HA.out], _, _, _, rfl⟩, K3.out⟩
              · have q1 : ¬ ((i : Int) < (ks.length : Int)) := by omega
                rw [List.take_of_length_le (by omega)] at hany
                have t0 := Lib.cell_of_heap hz 0; have t1 := Lib.cell_of_heap hz 1; have t2 := Lib.cell_of_heap hz 2; have t3 := Lib.cell_of_heap hz 3; have t4 := Lib.cell_of_heap hz 4
                have f0 := Lib.frozen_of_heap hz 0; have f1 := Lib.frozen_of_heap hz 1; have f2 := Lib.frozen_of_heap hz 2; have f3 := Lib.frozen_of_heap hz 3; have f4 := Lib.frozen_of_heap hz 4
                simp at t0 t1 t2 t3 t4
                replace HZ := hide hz
                have HA := hide hany
                clear hz hany
                have h3 := five_set (.int .i64 0) (.int .i64 0) (.int .i64 0) (.string ⟨#[]⟩) (.slice none 0 0) HZ.out
                have K3 := hide (five_below KR.out (by omega : w.heap.size ≤ w.heap.size + 1) (.int .i64 0) (.int .i64 0) (.int .i64 0) (.string ⟨#[]⟩) (.slice none 0 0))
                go_wp2
                generalize (((((wr.setCell ⟨w.heap.size + 1, 0, none⟩ (.int .i64 0)).setCell ⟨w.heap.size + 1, 1, none⟩ (.int .i64 0)).setCell ⟨w.heap.size + 1, 2, none⟩ (.int .i64 0)).setCell ⟨w.heap.size + 1, 3, none⟩ (.string ⟨#[]⟩)).setCell ⟨w.heap.size + 1, 4, none⟩ (.slice none 0 0)) = W3 at h3 K3 ⊢
                have s0 := Lib.cell_of_heap h3 0; have s1 := Lib.cell_of_heap h3 1; have s2 := Lib.cell_of_heap h3 2; have s3 := Lib.cell_of_heap h3 3; have s4 := Lib.cell_of_heap h3 4
                simp at s0 s1 s2 s3 s4
                clear h3
                refine bodyPost_ret (v := fnV none (.slice none 0 0)) (by simp [results, Tryd.results34, go_sem, s0, s1, s2, s3, s4, fnV, ndV, Nd.kind, Nd.code, Nd.place, Nd.path]) rfl ⟨⟨_, by rw [HA.out], _, _, _, rfl⟩, K3.out⟩
          · have k5' : (k == 5) = false := beq_eq_false_iff_ne.2 k5
            rw [hf, if_neg k36, if_neg k4, if_neg k5]
            clear hf hn k36 k4 k5
            go_enter Tryd.func34, Tryd.ntmps34
            go_wp2_with fail
            refine ris_any.mono ?_
            rintro e w1 ⟨rfl, hb1⟩
            rw [hnil]
            have K1 := hide (K0.out.trans (hb1.mono K0.out.size))
            have C1 := hide (((Below.refl _ _).alloc (Nat.le_refl _) (.cells #[.int .i64 0, .int .i64 0, .int .i64 0, .string ⟨#[]⟩, .slice none 0 0] 24)).trans (hb1.mono (by simp)))
            obtain ⟨d0, d1, d2, d3, d4⟩ := box_node w1 C1.out
            have hz := new_at (w := w.alloc (.cells #[.int .i64 k, .int .i64 c, .int .i64 a, .string p, .slice ao ks.length cap] 24)) (o := (.cells #[.int .i64 0, .int .i64 0, .int .i64 0, .string ⟨#[]⟩, .slice none 0 0] 24)) (n := w.heap.size + 1) (by simp)
            rw [← hb1.block _ (by simp)] at hz
            have HZ := hide hz
            have t0 := Lib.cell_of_heap hz 0; have t1 := Lib.cell_of_heap hz 1; have t2 := Lib.cell_of_heap hz 2; have t3 := Lib.cell_of_heap hz 3; have t4 := Lib.cell_of_heap hz 4
            have f0 := Lib.frozen_of_heap hz 0; have f1 := Lib.frozen_of_heap hz 1; have f2 := Lib.frozen_of_heap hz 2; have f3 := Lib.frozen_of_heap hz 3; have f4 := Lib.frozen_of_heap hz 4
            simp at t0 t1 t2 t3 t4
            clear hb1 hz hnil
            have h3 := five_set (.int .i64 0) (.int .i64 0) (.int .i64 0) (.string ⟨#[]⟩) (.slice none 0 0) HZ.out
            have K3 := hide (five_below K1.out (by omega : w.heap.size ≤ w.heap.size + 1) (.int .i64 0) (.int .i64 0) (.int .i64 0) (.string ⟨#[]⟩) (.slice none 0 0))
            go_wp2
            generalize (((((w1.setCell ⟨w.heap.size + 1, 0, none⟩ (.int .i64 0)).setCell ⟨w.heap.size + 1, 1, none⟩ (.int .i64 0)).setCell ⟨w.heap.size + 1, 2, none⟩ (.int .i64 0)).setCell ⟨w.heap.size + 1, 3, none⟩ (.string ⟨#[]⟩)).setCell ⟨w.heap.size + 1, 4, none⟩ (.slice none 0 0)) = W3 at h3 K3 ⊢
            have s0 := Lib.cell_of_heap h3 0; have s1 := Lib.cell_of_heap h3 1; have s2 := Lib.cell_of_heap h3 2; have s3 := Lib.cell_of_heap h3 3; have s4 := Lib.cell_of_heap h3 4
            simp at s0 s1 s2 s3 s4
            clear h3
            refine bodyPost_ret (v := fnV none (.slice none 0 0)) (by simp [results, Tryd.results34, go_sem, s0, s1, s2, s3, s4, fnV, ndV, Nd.kind, Nd.code, Nd.place, Nd.path]) rfl ⟨⟨_, rfl, _, _, _, rfl⟩, K3.out⟩

end Go.Proofs.YtbkgphglojjllaaDoor
