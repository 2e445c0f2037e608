import Derived.Test.YticmlelalbaalaaGreatDoorB46
import Derived.Test.YticmlelalbaalaaGreatDoorB43
import Derived.Test.YticmlelalbaalaaGreatDoorB49
import Derived.Test.YticmlelalbaalaaGreatDoorB47
import Derived.Deep.CutBlock
import Derived.Deep.CutRange
namespace Go.Proofs.YticmlelalbaalaaGreatDoor
open Go.RowKit Go.Shelf
set_option linter.unusedVariables false
set_option linter.unusedSimpArgs false
theorem ris_b {w : World} {s : ByteArray} {es : List Int} (hb : uByt es) (hs : s = strOfNums es) (hl : es.length ≤ 140737488355328) :
    Calls Tryz.prog 120 #[.string s] w fun e w' => e = .returned (.bool (txB es)) ∧ Below w.heap.size w w' := by
  obtain ⟨ps, t, hS⟩ := USplit.exists _ (Nat.le_refl _) hb
  rw [txB_eq hb hS]
  have HB := hide (fun w => rbad_any (w := w) hb hs (by omega) hS)
  have hq : (((uFlat ps).length : Int) == (s.size : Int)) = t.isEmpty := by
    have e := congrArg List.length hS.eq
    have e2 : s.size = es.length := by rw [hs, strOfNums_size]
    rw [List.length_append] at e
    by_cases ht : t = []
    · subst ht
      rw [List.length_nil] at e
      exact beq_iff_eq.2 (by omega)
    · rw [show t.isEmpty = false by cases t; exact absurd rfl ht; rfl]
      have := List.length_pos_iff.2 ht
      exact beq_eq_false_iff_ne.2 (by omega)
  obtain ⟨B, hB⟩ : ∃ B : Int, ((uFlat ps).length : Int) = B := ⟨_, rfl⟩
  obtain ⟨T, hT⟩ : ∃ T, t.isEmpty = T := ⟨_, rfl⟩
  simp only [hB] at HB
  rw [hB] at hq
  rw [hT] at hq ⊢
  clear hb hs hl hS hB hT
  go_enter Tryz.func120, Tryz.ntmps120
  go_wp2_with (go_at_call 151; refine (HB.out _).mono ?_; rintro e w1 ⟨rfl, hB1⟩)
  go_ret
  exact ⟨by first | rfl | simp [hq], hB1⟩
set_option maxHeartbeats 32000000 in
set_option maxRecDepth 100000 in
theorem ralone_any {w : World} {v : Value} {x : Va} (h : VaRd w v x) (hp : vpts x ≤ 1048576) :
    Calls Tryz.prog 83 #[v] w fun e w' => e = .returned (.bool (aloB x)) ∧ Below w.heap.size w w' := by
  obtain ⟨⟨vm, vk, rfl, hm, hk⟩, wf⟩ := h
  have HM := hide hm
  have HV := hide hk
  have HWF := hide wf
  have HP := hide hp
  obtain ⟨mo, mc, rfl, -⟩ : ∃ ao cap, vm = .slice ao x.mag.length cap ∧ True := by obtain ⟨ao, cap, h, _⟩ := hm; exact ⟨ao, cap, h, trivial⟩
  obtain ⟨ko, kc, rfl, -⟩ := hk.len
  unfold vaV
  have HC3 := hide (fun (u : World) (hu : Below w.heap.size w u) => rnormal_b (g := x.neg) (HM.out.below hu))
  have HC4 := hide (fun (u : World) => rfloat_any (w := u) (fb := fltB x.bits) wf.b0 wf.b1 (by unfold fltB; simp))
  have HC5 := hide (fun (u : World) => ris_b (w := u) (fun z hz => wf.t z hz) rfl wf.tl)
  have HC8 := hide (fun (u : World) (hu : Below w.heap.size w u) => rrising_any (w := u) (HV.out.far hu) (by have := vpts_eq x; omega))
  obtain ⟨AL, hAL⟩ : ∃ q, aloB x = q := ⟨_, rfl⟩
  rw [hAL]
  have HAL := hide hAL
  obtain ⟨k, hk1⟩ : ∃ z, x.kind = z := ⟨_, rfl⟩
  obtain ⟨n, hn1⟩ : ∃ z, x.n = z := ⟨_, rfl⟩
  obtain ⟨g, hg1⟩ : ∃ z, x.neg = z := ⟨_, rfl⟩
  obtain ⟨ml, hml⟩ : ∃ z, x.mag.length = z := ⟨_, rfl⟩
  obtain ⟨b, hb1⟩ : ∃ z, x.bits = z := ⟨_, rfl⟩
  obtain ⟨e, he1⟩ : ∃ z, x.ext = z := ⟨_, rfl⟩
  obtain ⟨tx, htx⟩ : ∃ z, strOfNums x.text = z := ⟨_, rfl⟩
  obtain ⟨kl, hkl⟩ : ∃ z, x.kids.length = z := ⟨_, rfl⟩
  rw [hk1, hn1, hg1, hml, hb1, he1, htx, hkl]
  rw [hg1, hml] at HC3
  rw [hb1] at HC4
  rw [htx] at HC5
  rw [hkl] at HC8
  have EK := hide hk1
  have EN := hide hn1
  have EG := hide hg1
  have EM := hide hml
  have EB := hide hb1
  have EE := hide he1
  have ET := hide htx
  have EL := hide hkl
  clear hm hk wf hp hAL hk1 hn1 hg1 hml hb1 he1 htx hkl HM HV HWF HP
  have K0 := hide (bel_new w (.cells #[.int .i8 k, .int .u64 n, .bool g, .slice mo ml mc, .int .u64 b, .int .i8 e, .string tx, .slice ko kl kc] 31))
  have R1 := hide (heap_alloc_new w (.cells #[.int .i8 k, .int .u64 n, .bool g, .slice mo ml mc, .int .u64 b, .int .i8 e, .string tx, .slice ko kl kc] 31))
  go_enter Tryz.func83, Tryz.ntmps83
  go_upto_region 1 with fail
  generalize w.alloc (.cells #[.int .i8 k, .int .u64 n, .bool g, .slice mo ml mc, .int .u64 b, .int .i8 e, .string tx, .slice ko kl kc] 31) = W0 at *
  have lt0 : w.heap.size < W0.heap.size := (Array.getElem?_eq_some_iff.1 R1.out).1
  obtain ⟨z0, z1, z2, z3, z4, z5, z6, z7, -⟩ := cells8T R1.out
  go_upto_region 2 with fail
  have KA := bel_new W0 (.cells #[.int .i8 k, .int .u64 0, .bool false, .slice none 0 0, .int .u64 0, .int .i8 0, .string ⟨#[]⟩, .slice none 0 0] 31)
  have R2 := hide (heap_alloc_new W0 (.cells #[.int .i8 k, .int .u64 0, .bool false, .slice none 0 0, .int .u64 0, .int .i8 0, .string ⟨#[]⟩, .slice none 0 0] 31))
  replace R1 := hide ((KA.block _ lt0).trans R1.out)
  have K1 := hide (below_trans K0.out KA)
  clear KA z0 z1 z2 z3 z4 z5 z6 z7 K0
  generalize W0.alloc (.cells #[.int .i8 k, .int .u64 0, .bool false, .slice none 0 0, .int .u64 0, .int .i8 0, .string ⟨#[]⟩, .slice none 0 0] 31) = W1 at *
  obtain ⟨b2, hb2⟩ : ∃ z, W0.heap.size = z := ⟨_, rfl⟩
  rw [hb2] at R2 lt0 ⊢
  clear hb2
  have hne : w.heap.size ≠ b2 := by omega
  have hge : w.heap.size ≤ b2 := by omega
  have HNE := hide (And.intro hne hge)
  clear lt0 hne hge
  obtain ⟨z0, z1, z2, z3, z4, z5, z6, z7, -⟩ := cells8T R1.out
  go_upto_block 0 with fail
  clear z0 z1 z2 z3 z4 z5 z6 z7
  go_cut [4] from 10 (fun s4 wx => ∃ (ok : Bool) (n2 : Int) (g2 : Bool) (mo2 : Option Addr) (l2 mc2 : Nat) (b2v e2 : Int) (t2 : ByteArray) (ko2 : Option Addr) (k2 kc2 : Nat), s4 = .bool ok ∧ Hid (wx.heap[b2]? = some (.cells #[.int .i8 k, .int .u64 n2, .bool g2, .slice mo2 l2 mc2, .int .u64 b2v, .int .i8 e2, .string t2, .slice ko2 k2 kc2] 31 (0, 0))) ∧ Hid (wx.heap[w.heap.size]? = some (.cells #[.int .i8 k, .int .u64 n, .bool g, .slice mo ml mc, .int .u64 b, .int .i8 e, .string tx, .slice ko kl kc] 31 (0, 0))) ∧ Hid (AlR x ok n2 g2 l2 b2v e2 t2 k2) ∧ Hid (Below w.heap.size w wx))
  case first =>
    have hcs : k = 1 ∨ k = 2 ∨ k = 3 ∨ k = 4 ∨ k = 5 ∨ k = 6 ∨ k = 7 ∨ k = 8 ∨ k = 9 ∨ k = 10 ∨ k = 11 ∨ ¬ (1 ≤ k ∧ k ≤ 11) := by omega
    rcases hcs with rfl | rfl | rfl | rfl | rfl | rfl | rfl | rfl | rfl | rfl | rfl | hno
    · skip
      go_wp2_with fail
      go_meet
      case rel => exact ⟨_, 0, false, none, 0, 0, 0, 0, ⟨#[]⟩, none, 0, 0, rfl, R2, R1, hide (by have h := al_1 EK.out; exact h), K1⟩
    · skip
      obtain ⟨z0, z1, z2, z3, z4, z5, z6, z7, -⟩ := cells8T R1.out
      obtain ⟨y0, y1, y2, y3, y4, y5, y6, y7, f0, f1, f2, f3, f4, f5, f6, f7⟩ := cells8T R2.out
      go_upto_region 8 with fail
      clear y0 y1 y2 y3 y4 y5 y6 y7 f0 f1 f2 f3 f4 f5 f6 f7 z0 z1 z2 z3 z4 z5 z6 z7
      have r2 := heap_setCell_same _ b2 1 _ _ (.int .u64 n) R2.out
      simp only [List.setIfInBounds_toArray, List.set_cons_zero, List.set_cons_succ] at r2
      have r1 := (Below.heap_setCell _ ⟨b2, 1, none⟩ (.int .u64 n) _ HNE.out.1).trans R1.out
      have kk := Below.setCell K1.out (p := ⟨b2, 1, none⟩) HNE.out.2 (.int .u64 n)
      replace R2 := hide r2
      replace R1 := hide r1
      replace K1 := hide kk
      clear r1 r2 kk
      generalize (W1.setCell ⟨b2, 1, none⟩ (.int .u64 n)) = V2 at *
      obtain ⟨z0, z1, z2, z3, z4, z5, z6, z7, -⟩ := cells8T R1.out
      go_wp2_with fail
      clear z0 z1 z2 z3 z4 z5 z6 z7
      go_meet
      case rel => exact ⟨_, n, false, none, 0, 0, 0, 0, ⟨#[]⟩, none, 0, 0, rfl, R2, R1, hide (by have h := al_2 EK.out; rw [EN.out] at h; exact h), K1⟩
    · skip
      obtain ⟨z0, z1, z2, z3, z4, z5, z6, z7, -⟩ := cells8T R1.out
      obtain ⟨y0, y1, y2, y3, y4, y5, y6, y7, f0, f1, f2, f3, f4, f5, f6, f7⟩ := cells8T R2.out
      go_upto_region 11 with fail
      clear y0 y1 y2 y3 y4 y5 y6 y7 f0 f1 f2 f3 f4 f5 f6 f7 z0 z1 z2 z3 z4 z5 z6 z7
      have r2 := heap_setCell_same _ b2 2 _ _ (.bool g) R2.out
      simp only [List.setIfInBounds_toArray, List.set_cons_zero, List.set_cons_succ] at r2
      have r1 := (Below.heap_setCell _ ⟨b2, 2, none⟩ (.bool g) _ HNE.out.1).trans R1.out
      have kk := Below.setCell K1.out (p := ⟨b2, 2, none⟩) HNE.out.2 (.bool g)
      have r2 := heap_setCell_same _ b2 3 _ _ (.slice mo ml mc) r2
      simp only [List.setIfInBounds_toArray, List.set_cons_zero, List.set_cons_succ] at r2
      have r1 := (Below.heap_setCell _ ⟨b2, 3, none⟩ (.slice mo ml mc) _ HNE.out.1).trans r1
      have kk := Below.setCell kk (p := ⟨b2, 3, none⟩) HNE.out.2 (.slice mo ml mc)
      replace R2 := hide r2
      replace R1 := hide r1
      replace K1 := hide kk
      clear r1 r2 kk
      generalize ((W1.setCell ⟨b2, 2, none⟩ (.bool g)).setCell ⟨b2, 3, none⟩ (.slice mo ml mc)) = V2 at *
      obtain ⟨z0, z1, z2, z3, z4, z5, z6, z7, -⟩ := cells8T R1.out
      go_wp2_with fail
      with_reducible refine (HC3.out _ K1.out).mono ?_
      rintro er wn ⟨rfl, hb⟩
      clear z0 z1 z2 z3 z4 z5 z6 z7
      replace R2 := hide ((hb.block _ (Array.getElem?_eq_some_iff.1 R2.out).1).trans R2.out)
      replace R1 := hide ((hb.block _ (Array.getElem?_eq_some_iff.1 R1.out).1).trans R1.out)
      replace K1 := hide (below_trans K1.out hb)
      clear hb
      go_wp2_with fail
      go_meet
      case rel => exact ⟨_, 0, g, mo, ml, mc, 0, 0, ⟨#[]⟩, none, 0, 0, rfl, R2, R1, hide (by have h := al_3 EK.out; rw [EG.out, EM.out] at h; exact h), K1⟩
    · skip
      obtain ⟨z0, z1, z2, z3, z4, z5, z6, z7, -⟩ := cells8T R1.out
      obtain ⟨y0, y1, y2, y3, y4, y5, y6, y7, f0, f1, f2, f3, f4, f5, f6, f7⟩ := cells8T R2.out
      go_upto_region 14 with fail
      clear y0 y1 y2 y3 y4 y5 y6 y7 f0 f1 f2 f3 f4 f5 f6 f7 z0 z1 z2 z3 z4 z5 z6 z7
      have r2 := heap_setCell_same _ b2 4 _ _ (.int .u64 b) R2.out
      simp only [List.setIfInBounds_toArray, List.set_cons_zero, List.set_cons_succ] at r2
      have r1 := (Below.heap_setCell _ ⟨b2, 4, none⟩ (.int .u64 b) _ HNE.out.1).trans R1.out
      have kk := Below.setCell K1.out (p := ⟨b2, 4, none⟩) HNE.out.2 (.int .u64 b)
      replace R2 := hide r2
      replace R1 := hide r1
      replace K1 := hide kk
      clear r1 r2 kk
      generalize (W1.setCell ⟨b2, 4, none⟩ (.int .u64 b)) = V2 at *
      obtain ⟨z0, z1, z2, z3, z4, z5, z6, z7, -⟩ := cells8T R1.out
      go_wp2_with fail
      with_reducible refine (HC4.out _).mono ?_
      rintro er wn ⟨rfl, hb⟩
      clear z0 z1 z2 z3 z4 z5 z6 z7
      replace R2 := hide ((hb.block _ (Array.getElem?_eq_some_iff.1 R2.out).1).trans R2.out)
      replace R1 := hide ((hb.block _ (Array.getElem?_eq_some_iff.1 R1.out).1).trans R1.out)
      replace K1 := hide (below_trans K1.out hb)
      clear hb
      go_wp2_with fail
      go_meet
      case rel => exact ⟨_, 0, false, none, 0, 0, b, 0, ⟨#[]⟩, none, 0, 0, rfl, R2, R1, hide (by have h := al_4 EK.out; rw [EB.out] at h; exact h), K1⟩
    · skip
      obtain ⟨z0, z1, z2, z3, z4, z5, z6, z7, -⟩ := cells8T R1.out
      obtain ⟨y0, y1, y2, y3, y4, y5, y6, y7, f0, f1, f2, f3, f4, f5, f6, f7⟩ := cells8T R2.out
      go_upto_region 17 with fail
      clear y0 y1 y2 y3 y4 y5 y6 y7 f0 f1 f2 f3 f4 f5 f6 f7 z0 z1 z2 z3 z4 z5 z6 z7
      have r2 := heap_setCell_same _ b2 6 _ _ (.string tx) R2.out
      simp only [List.setIfInBounds_toArray, List.set_cons_zero, List.set_cons_succ] at r2
      have r1 := (Below.heap_setCell _ ⟨b2, 6, none⟩ (.string tx) _ HNE.out.1).trans R1.out
      have kk := Below.setCell K1.out (p := ⟨b2, 6, none⟩) HNE.out.2 (.string tx)
      replace R2 := hide r2
      replace R1 := hide r1
      replace K1 := hide kk
      clear r1 r2 kk
      generalize (W1.setCell ⟨b2, 6, none⟩ (.string tx)) = V2 at *
      obtain ⟨z0, z1, z2, z3, z4, z5, z6, z7, -⟩ := cells8T R1.out
      go_wp2_with fail
      with_reducible refine (HC5.out _).mono ?_
      rintro er wn ⟨rfl, hb⟩
      clear z0 z1 z2 z3 z4 z5 z6 z7
      replace R2 := hide ((hb.block _ (Array.getElem?_eq_some_iff.1 R2.out).1).trans R2.out)
      replace R1 := hide ((hb.block _ (Array.getElem?_eq_some_iff.1 R1.out).1).trans R1.out)
      replace K1 := hide (below_trans K1.out hb)
      clear hb
      go_wp2_with fail
      go_meet
      case rel => exact ⟨_, 0, false, none, 0, 0, 0, 0, tx, none, 0, 0, rfl, R2, R1, hide (by have h := al_5 EK.out; rw [ET.out] at h; exact h), K1⟩
    · skip
      obtain ⟨z0, z1, z2, z3, z4, z5, z6, z7, -⟩ := cells8T R1.out
      obtain ⟨y0, y1, y2, y3, y4, y5, y6, y7, f0, f1, f2, f3, f4, f5, f6, f7⟩ := cells8T R2.out
      go_wp2_with fail
      clear y0 y1 y2 y3 y4 y5 y6 y7 f0 f1 f2 f3 f4 f5 f6 f7 z0 z1 z2 z3 z4 z5 z6 z7
      have r2 := heap_setCell_same _ b2 6 _ _ (.string tx) R2.out
      simp only [List.setIfInBounds_toArray, List.set_cons_zero, List.set_cons_succ] at r2
      have r1 := (Below.heap_setCell _ ⟨b2, 6, none⟩ (.string tx) _ HNE.out.1).trans R1.out
      have kk := Below.setCell K1.out (p := ⟨b2, 6, none⟩) HNE.out.2 (.string tx)
      replace R2 := hide r2
      replace R1 := hide r1
      replace K1 := hide kk
      clear r1 r2 kk
      go_meet
      case rel => exact ⟨_, 0, false, none, 0, 0, 0, 0, tx, none, 0, 0, rfl, R2, R1, hide (by have h := al_6 EK.out; rw [ET.out] at h; exact h), K1⟩
    · skip
      obtain ⟨z0, z1, z2, z3, z4, z5, z6, z7, -⟩ := cells8T R1.out
      obtain ⟨y0, y1, y2, y3, y4, y5, y6, y7, f0, f1, f2, f3, f4, f5, f6, f7⟩ := cells8T R2.out
      go_wp2_with fail
      clear y0 y1 y2 y3 y4 y5 y6 y7 f0 f1 f2 f3 f4 f5 f6 f7 z0 z1 z2 z3 z4 z5 z6 z7
      have r2 := heap_setCell_same _ b2 7 _ _ (.slice ko kl kc) R2.out
      simp only [List.setIfInBounds_toArray, List.set_cons_zero, List.set_cons_succ] at r2
      have r1 := (Below.heap_setCell _ ⟨b2, 7, none⟩ (.slice ko kl kc) _ HNE.out.1).trans R1.out
      have kk := Below.setCell K1.out (p := ⟨b2, 7, none⟩) HNE.out.2 (.slice ko kl kc)
      replace R2 := hide r2
      replace R1 := hide r1
      replace K1 := hide kk
      clear r1 r2 kk
      go_meet
      case rel => exact ⟨_, 0, false, none, 0, 0, 0, 0, ⟨#[]⟩, ko, kl, kc, rfl, R2, R1, hide (by have h := al_7 EK.out; rw [EL.out] at h; exact h), K1⟩
    · skip
      obtain ⟨z0, z1, z2, z3, z4, z5, z6, z7, -⟩ := cells8T R1.out
      obtain ⟨y0, y1, y2, y3, y4, y5, y6, y7, f0, f1, f2, f3, f4, f5, f6, f7⟩ := cells8T R2.out
      go_upto_region 24 with fail
      clear y0 y1 y2 y3 y4 y5 y6 y7 f0 f1 f2 f3 f4 f5 f6 f7 z0 z1 z2 z3 z4 z5 z6 z7
      have r2 := heap_setCell_same _ b2 7 _ _ (.slice ko kl kc) R2.out
      simp only [List.setIfInBounds_toArray, List.set_cons_zero, List.set_cons_succ] at r2
      have r1 := (Below.heap_setCell _ ⟨b2, 7, none⟩ (.slice ko kl kc) _ HNE.out.1).trans R1.out
      have kk := Below.setCell K1.out (p := ⟨b2, 7, none⟩) HNE.out.2 (.slice ko kl kc)
      replace R2 := hide r2
      replace R1 := hide r1
      replace K1 := hide kk
      clear r1 r2 kk
      generalize (W1.setCell ⟨b2, 7, none⟩ (.slice ko kl kc)) = V2 at *
      obtain ⟨z0, z1, z2, z3, z4, z5, z6, z7, -⟩ := cells8T R1.out
      go_wp2_with fail
      with_reducible refine (HC8.out _ K1.out).mono ?_
      rintro er wn ⟨rfl, hb⟩
      clear z0 z1 z2 z3 z4 z5 z6 z7
      replace R2 := hide ((hb.block _ (Array.getElem?_eq_some_iff.1 R2.out).1).trans R2.out)
      replace R1 := hide ((hb.block _ (Array.getElem?_eq_some_iff.1 R1.out).1).trans R1.out)
      replace K1 := hide (below_trans K1.out hb)
      clear hb
      go_wp2_with fail
      go_meet
      case rel => exact ⟨_, 0, false, none, 0, 0, 0, 0, ⟨#[]⟩, ko, kl, kc, rfl, R2, R1, hide (by have h := al_8 EK.out; rw [EL.out] at h; exact h), K1⟩
    · skip
      obtain ⟨z0, z1, z2, z3, z4, z5, z6, z7, -⟩ := cells8T R1.out
      obtain ⟨y0, y1, y2, y3, y4, y5, y6, y7, f0, f1, f2, f3, f4, f5, f6, f7⟩ := cells8T R2.out
      go_upto_region 27 with fail
      clear y0 y1 y2 y3 y4 y5 y6 y7 f0 f1 f2 f3 f4 f5 f6 f7 z0 z1 z2 z3 z4 z5 z6 z7
      have r2 := heap_setCell_same _ b2 1 _ _ (.int .u64 n) R2.out
      simp only [List.setIfInBounds_toArray, List.set_cons_zero, List.set_cons_succ] at r2
      have r1 := (Below.heap_setCell _ ⟨b2, 1, none⟩ (.int .u64 n) _ HNE.out.1).trans R1.out
      have kk := Below.setCell K1.out (p := ⟨b2, 1, none⟩) HNE.out.2 (.int .u64 n)
      replace R2 := hide r2
      replace R1 := hide r1
      replace K1 := hide kk
      clear r1 r2 kk
      generalize (W1.setCell ⟨b2, 1, none⟩ (.int .u64 n)) = V2 at *
      obtain ⟨z0, z1, z2, z3, z4, z5, z6, z7, -⟩ := cells8T R1.out
      obtain ⟨y0, y1, y2, y3, y4, y5, y6, y7, f0, f1, f2, f3, f4, f5, f6, f7⟩ := cells8T R2.out
      go_upto_region 28 with fail
      clear y0 y1 y2 y3 y4 y5 y6 y7 f0 f1 f2 f3 f4 f5 f6 f7 z0 z1 z2 z3 z4 z5 z6 z7
      have r2 := heap_setCell_same _ b2 7 _ _ (.slice ko kl kc) R2.out
      simp only [List.setIfInBounds_toArray, List.set_cons_zero, List.set_cons_succ] at r2
      have r1 := (Below.heap_setCell _ ⟨b2, 7, none⟩ (.slice ko kl kc) _ HNE.out.1).trans R1.out
      have kk := Below.setCell K1.out (p := ⟨b2, 7, none⟩) HNE.out.2 (.slice ko kl kc)
      replace R2 := hide r2
      replace R1 := hide r1
      replace K1 := hide kk
      clear r1 r2 kk
      generalize (V2.setCell ⟨b2, 7, none⟩ (.slice ko kl kc)) = V3 at *
      obtain ⟨z0, z1, z2, z3, z4, z5, z6, z7, -⟩ := cells8T R1.out
      by_cases p1 : n = 2
      · subst p1
        go_wp2_with fail
        go_meet
        case rel => exact ⟨false, 2, false, none, 0, 0, 0, 0, ⟨#[]⟩, ko, kl, kc, rfl, R2, R1, hide (by have h := al_9 EK.out; rw [show ((x.n != 2 && x.n != 3) && decide (x.kids.length = 1)) = false by rw [EN.out]; rfl] at h; rw [EN.out, EL.out] at h; exact h), K1⟩
      · have p2 : (n != 2) = true := by simp [p1]
        have p2b : (n == 2) = false := by simp [p1]
        by_cases p3 : n = 3
        · subst p3
          go_wp2_with fail
          go_meet
          case rel => exact ⟨false, 3, false, none, 0, 0, 0, 0, ⟨#[]⟩, ko, kl, kc, rfl, R2, R1, hide (by have h := al_9 EK.out; rw [show ((x.n != 2 && x.n != 3) && decide (x.kids.length = 1)) = false by rw [EN.out]; rfl] at h; rw [EN.out, EL.out] at h; exact h), K1⟩
        · have p4 : (n != 3) = true := by simp [p3]
          have p4b : (n == 3) = false := by simp [p3]
          have P24 := hide (And.intro p2 p4)
          by_cases p5 : kl = 1
          · subst p5
            clear p1 p3
            go_wp2_with fail
            go_meet
            case rel => exact ⟨true, n, false, none, 0, 0, 0, 0, ⟨#[]⟩, ko, 1, kc, rfl, R2, R1, hide (by have h := al_9 EK.out; rw [show ((x.n != 2 && x.n != 3) && decide (x.kids.length = 1)) = true by rw [EN.out, P24.out.1, P24.out.2, EL.out]; rfl] at h; rw [EN.out, EL.out] at h; exact h), K1⟩
          · have p6 : ((kl : Int) == 1) = false := beq_eq_false_iff_ne.2 (by omega)
            have P5 := hide p5
            clear p1 p3 p5
            go_wp2_with fail
            go_meet
            case rel => exact ⟨false, n, false, none, 0, 0, 0, 0, ⟨#[]⟩, ko, kl, kc, rfl, R2, R1, hide (by have h := al_9 EK.out; rw [show ((x.n != 2 && x.n != 3) && decide (x.kids.length = 1)) = false by rw [EL.out, decide_eq_false P5.out, Bool.and_false]] at h; rw [EN.out, EL.out] at h; exact h), K1⟩
    · skip
      obtain ⟨z0, z1, z2, z3, z4, z5, z6, z7, -⟩ := cells8T R1.out
      obtain ⟨y0, y1, y2, y3, y4, y5, y6, y7, f0, f1, f2, f3, f4, f5, f6, f7⟩ := cells8T R2.out
      go_upto_region 31 with fail
      clear y0 y1 y2 y3 y4 y5 y6 y7 f0 f1 f2 f3 f4 f5 f6 f7 z0 z1 z2 z3 z4 z5 z6 z7
      have r2 := heap_setCell_same _ b2 1 _ _ (.int .u64 n) R2.out
      simp only [List.setIfInBounds_toArray, List.set_cons_zero, List.set_cons_succ] at r2
      have r1 := (Below.heap_setCell _ ⟨b2, 1, none⟩ (.int .u64 n) _ HNE.out.1).trans R1.out
      have kk := Below.setCell K1.out (p := ⟨b2, 1, none⟩) HNE.out.2 (.int .u64 n)
      replace R2 := hide r2
      replace R1 := hide r1
      replace K1 := hide kk
      clear r1 r2 kk
      generalize (W1.setCell ⟨b2, 1, none⟩ (.int .u64 n)) = V2 at *
      obtain ⟨z0, z1, z2, z3, z4, z5, z6, z7, -⟩ := cells8T R1.out
      by_cases p1 : n ≤ 19
      · have P1 := hide p1
        have p1d : decide (n ≤ 19) = true := decide_eq_true p1
        go_wp2_with fail
        go_meet
        case rel => exact ⟨true, n, false, none, 0, 0, 0, 0, ⟨#[]⟩, none, 0, 0, rfl, R2, R1, hide (by have h := al_10 EK.out; rw [show (decide (x.n ≤ 19) || x.n == 23 || (decide (32 ≤ x.n) && decide (x.n ≤ 255))) = true by rw [EN.out]; simp [P1.out]] at h; rw [EN.out] at h; exact h), K1⟩
      · have p1d : decide (n ≤ 19) = false := decide_eq_false p1
        by_cases p2 : n = 23
        · subst p2
          go_wp2_with fail
          go_meet
          case rel => exact ⟨true, 23, false, none, 0, 0, 0, 0, ⟨#[]⟩, none, 0, 0, rfl, R2, R1, hide (by have h := al_10 EK.out; rw [show (decide (x.n ≤ 19) || x.n == 23 || (decide (32 ≤ x.n) && decide (x.n ≤ 255))) = true by rw [EN.out]; rfl] at h; rw [EN.out] at h; exact h), K1⟩
        · have p2d : (n == 23) = false := beq_eq_false_iff_ne.2 p2
          by_cases p3 : 32 ≤ n
          · have p3d : decide (32 ≤ n) = true := decide_eq_true p3
            by_cases p4 : n ≤ 255
            · have p4d : decide (n ≤ 255) = true := decide_eq_true p4
              have PH := hide (And.intro p3 p4)
              go_wp2_with fail
              go_meet
              case rel => exact ⟨true, n, false, none, 0, 0, 0, 0, ⟨#[]⟩, none, 0, 0, rfl, R2, R1, hide (by have h := al_10 EK.out; rw [show (decide (x.n ≤ 19) || x.n == 23 || (decide (32 ≤ x.n) && decide (x.n ≤ 255))) = true by rw [EN.out]; simp [PH.out.1, PH.out.2]] at h; rw [EN.out] at h; exact h), K1⟩
            · have p4d : decide (n ≤ 255) = false := decide_eq_false p4
              have PH := hide (And.intro p1 (And.intro p2 p4))
              go_wp2_with fail
              go_meet
              case rel => exact ⟨false, n, false, none, 0, 0, 0, 0, ⟨#[]⟩, none, 0, 0, rfl, R2, R1, hide (by have h := al_10 EK.out; rw [show (decide (x.n ≤ 19) || x.n == 23 || (decide (32 ≤ x.n) && decide (x.n ≤ 255))) = false by rw [EN.out]; rw [show decide (n ≤ 19) = false from decide_eq_false (by have := PH.out.1; omega), show (n == 23) = false from beq_eq_false_iff_ne.2 (by have := PH.out.2.1; omega), show decide (n ≤ 255) = false from decide_eq_false (by have := PH.out.2.2; omega)]; simp] at h; rw [EN.out] at h; exact h), K1⟩
          · have p3d : decide (32 ≤ n) = false := decide_eq_false p3
            have PH := hide (And.intro p1 (And.intro p2 p3))
            go_wp2_with fail
            go_meet
            case rel => exact ⟨false, n, false, none, 0, 0, 0, 0, ⟨#[]⟩, none, 0, 0, rfl, R2, R1, hide (by have h := al_10 EK.out; rw [show (decide (x.n ≤ 19) || x.n == 23 || (decide (32 ≤ x.n) && decide (x.n ≤ 255))) = false by rw [EN.out]; rw [show decide (n ≤ 19) = false from decide_eq_false (by have := PH.out.1; omega), show (n == 23) = false from beq_eq_false_iff_ne.2 (by have := PH.out.2.1; omega), show decide (32 ≤ n) = false from decide_eq_false (by have := PH.out.2.2; omega)]; simp] at h; rw [EN.out] at h; exact h), K1⟩
    · skip
      obtain ⟨z0, z1, z2, z3, z4, z5, z6, z7, -⟩ := cells8T R1.out
      obtain ⟨y0, y1, y2, y3, y4, y5, y6, y7, f0, f1, f2, f3, f4, f5, f6, f7⟩ := cells8T R2.out
      go_upto_region 34 with fail
      clear y0 y1 y2 y3 y4 y5 y6 y7 f0 f1 f2 f3 f4 f5 f6 f7 z0 z1 z2 z3 z4 z5 z6 z7
      have r2 := heap_setCell_same _ b2 5 _ _ (.int .i8 e) R2.out
      simp only [List.setIfInBounds_toArray, List.set_cons_zero, List.set_cons_succ] at r2
      have r1 := (Below.heap_setCell _ ⟨b2, 5, none⟩ (.int .i8 e) _ HNE.out.1).trans R1.out
      have kk := Below.setCell K1.out (p := ⟨b2, 5, none⟩) HNE.out.2 (.int .i8 e)
      replace R2 := hide r2
      replace R1 := hide r1
      replace K1 := hide kk
      clear r1 r2 kk
      generalize (W1.setCell ⟨b2, 5, none⟩ (.int .i8 e)) = V2 at *
      obtain ⟨z0, z1, z2, z3, z4, z5, z6, z7, -⟩ := cells8T R1.out
      obtain ⟨y0, y1, y2, y3, y4, y5, y6, y7, f0, f1, f2, f3, f4, f5, f6, f7⟩ := cells8T R2.out
      go_wp2_with fail
      clear y0 y1 y2 y3 y4 y5 y6 y7 f0 f1 f2 f3 f4 f5 f6 f7 z0 z1 z2 z3 z4 z5 z6 z7
      have r2 := heap_setCell_same _ b2 6 _ _ (.string tx) R2.out
      simp only [List.setIfInBounds_toArray, List.set_cons_zero, List.set_cons_succ] at r2
      have r1 := (Below.heap_setCell _ ⟨b2, 6, none⟩ (.string tx) _ HNE.out.1).trans R1.out
      have kk := Below.setCell K1.out (p := ⟨b2, 6, none⟩) HNE.out.2 (.string tx)
      replace R2 := hide r2
      replace R1 := hide r1
      replace K1 := hide kk
      clear r1 r2 kk
      go_meet
      case rel => exact ⟨_, 0, false, none, 0, 0, 0, e, tx, none, 0, 0, rfl, R2, R1, hide (by have h := al_11 EK.out; rw [EE.out, ET.out] at h; exact h), K1⟩
    · skip
      have u1 : (k == 1) = false := beq_eq_false_iff_ne.2 (by omega)
      have u2 : (k == 2) = false := beq_eq_false_iff_ne.2 (by omega)
      have u3 : (k == 3) = false := beq_eq_false_iff_ne.2 (by omega)
      have u4 : (k == 4) = false := beq_eq_false_iff_ne.2 (by omega)
      have u5 : (k == 5) = false := beq_eq_false_iff_ne.2 (by omega)
      have u6 : (k == 6) = false := beq_eq_false_iff_ne.2 (by omega)
      have u7 : (k == 7) = false := beq_eq_false_iff_ne.2 (by omega)
      have u8 : (k == 8) = false := beq_eq_false_iff_ne.2 (by omega)
      have u9 : (k == 9) = false := beq_eq_false_iff_ne.2 (by omega)
      have u10 : (k == 10) = false := beq_eq_false_iff_ne.2 (by omega)
      have u11 : (k == 11) = false := beq_eq_false_iff_ne.2 (by omega)
      have HNO := hide hno
      clear hno
      go_wp2_with fail
      go_meet
      case rel => exact ⟨false, 0, false, none, 0, 0, 0, 0, ⟨#[]⟩, none, 0, 0, rfl, R2, R1, hide (al_no (by rw [EK.out]; exact HNO.out) _ _ _ _ _ _ _), K1⟩
  case rest =>
    obtain ⟨ok, n2, g2, mo2, l2, mc2, b2v, e2, t2, ko2, k2, kc2, rfl, r2, r1, hR, hK⟩ := hcut
    clear R1 R2 K1 HC3 HC4 HC5 HC8
    have hr := hR.out
    unfold AlR eqB at hr
    rw [HAL.out, EN.out, EG.out, EM.out, EB.out, EE.out, ET.out, EL.out] at hr
    have HR := hide hr
    clear hr hR EK EN EG EM EB EE ET EL HAL
    obtain ⟨z0, z1, z2, z3, z4, z5, z6, z7, -⟩ := cells8T r1.out
    obtain ⟨y0, y1, y2, y3, y4, y5, y6, y7, -⟩ := cells8T r2.out
    clear r1 r2
    cases ok
    · skip
      go_wp2
      go_ret
      exact ⟨by rw [← HR.out]; simp [*], hK.out⟩
    · skip
      by_cases hq : n = n2
      rotate_left
      · have hq2 : (n == n2) = false := beq_eq_false_iff_ne.2 hq
        have HQ := hide (And.intro hq hq2)
        clear hq
        go_wp2
        go_ret
        exact ⟨by rw [← HR.out]; have h1 := HQ.out.1; have h2 := HQ.out.2; simp [h1, h2], hK.out⟩
      subst hq
      by_cases hq : g = g2
      rotate_left
      · have hq2 : (g == g2) = false := beq_eq_false_iff_ne.2 hq
        have HQ := hide (And.intro hq hq2)
        clear hq
        go_wp2
        go_ret
        exact ⟨by rw [← HR.out]; have h1 := HQ.out.1; have h2 := HQ.out.2; simp [h1, h2], hK.out⟩
      subst hq
      by_cases hq : ml = l2
      rotate_left
      · have hq2 : ((ml : Int) == (l2 : Int)) = false := beq_eq_false_iff_ne.2 (by omega)
        have HQ := hide (And.intro hq hq2)
        clear hq
        go_wp2
        go_ret
        exact ⟨by rw [← HR.out]; have h1 := HQ.out.1; have h2 := HQ.out.2; simp [h1, h2], hK.out⟩
      subst hq
      by_cases hq : b = b2v
      rotate_left
      · have hq2 : (b == b2v) = false := beq_eq_false_iff_ne.2 hq
        have HQ := hide (And.intro hq hq2)
        clear hq
        go_wp2
        go_ret
        exact ⟨by rw [← HR.out]; have h1 := HQ.out.1; have h2 := HQ.out.2; simp [h1, h2], hK.out⟩
      subst hq
      by_cases hq : e = e2
      rotate_left
      · have hq2 : (e == e2) = false := beq_eq_false_iff_ne.2 hq
        have HQ := hide (And.intro hq hq2)
        clear hq
        go_wp2
        go_ret
        exact ⟨by rw [← HR.out]; have h1 := HQ.out.1; have h2 := HQ.out.2; simp [h1, h2], hK.out⟩
      subst hq
      by_cases hq : tx = t2
      rotate_left
      · have hq2 : (tx.toList == t2.toList) = false := beq_eq_false_iff_ne.2 (fun h => hq (ba_inj h))
        have HQ := hide (And.intro hq hq2)
        clear hq
        go_wp2
        go_ret
        exact ⟨by rw [← HR.out]; have h1 := HQ.out.1; have h2 := HQ.out.2; simp [h1, h2], hK.out⟩
      subst hq
      by_cases hq : kl = k2
      rotate_left
      · have hq2 : ((kl : Int) == (k2 : Int)) = false := beq_eq_false_iff_ne.2 (by omega)
        have HQ := hide (And.intro hq hq2)
        clear hq
        go_wp2
        go_ret
        exact ⟨by rw [← HR.out]; have h1 := HQ.out.1; have h2 := HQ.out.2; simp [h1, h2], hK.out⟩
      subst hq
      go_wp2
      go_ret
      exact ⟨by rw [← HR.out]; simp, hK.out⟩
end Go.Proofs.YticmlelalbaalaaGreatDoor
