/- NCb, NCc, NCd, NCe, NCf, NCg, NCh, NC3, NCi, NCj, NCk, NBw, NCw -/
import Derived.Test.YtjigofmcflmelaaGreatDoorC27
import Derived.Test.YtjigofmcflmelaaGreatDoorC28
import Derived.Test.YtjigofmcflmelaaGreatDoorC26
import Derived.Test.YtjigofmcflmelaaGreatDoorC19
import Derived.Test.YtjigofmcflmelaaGreatDoorC23
import Derived.Deep.RegionHeld3
import Derived.Test.YtjigofmcflmelaaGreatDoorC30
import Derived.Test.YtjigofmcflmelaaGreatDoorC29
namespace Go.Proofs.YtjigofmcflmelaaGreatDoor
open Go.RowKit
set_option linter.unusedVariables false
set_option linter.unusedSimpArgs false

/-- nothing but the number, or the pattern -/
def al3 (x : Va) : Bool := nrmB x.neg x.mag && (x.n == 0 && (x.bits == 0 && (x.ext == 0 && ((strOfNums x.text).size == 0 && (x.kids.length == 0)))))
def al4 (x : Va) (fb : Bool) : Bool := fb && (x.n == 0 && (!x.neg && (x.mag.length == 0 && (x.ext == 0 && ((strOfNums x.text).size == 0 && (x.kids.length == 0))))))

theorem box8_off {W : World} {b b' i j : Nat} {a0 a1 a2 a3 a4 a5 a6 a7 u u' : Value} (h : Box8 W b a0 a1 a2 a3 a4 a5 a6 a7) (hn : b ≠ b') : Box8 ((W.setCell ⟨b', i, none⟩ u).setCell ⟨b', j, none⟩ u') b a0 a1 a2 a3 a4 a5 a6 a7 := by
  have n : ∀ k l : Nat, (⟨b, k, none⟩ : Addr) ≠ ⟨b', l, none⟩ := fun k l e => hn (by injection e)
  obtain ⟨h0, h1, h2, h3, h4, h5, h6, h7⟩ := h
  refine ⟨?_, ?_, ?_, ?_, ?_, ?_, ?_, ?_⟩ <;>
  · rw [World.cell?_setCell_other _ _ _ _ (by first | exact n _ _ | exact (n _ _).symm), World.cell?_setCell_other _ _ _ _ (by first | exact n _ _ | exact (n _ _).symm)]
    assumption
theorem box8_off1 {W : World} {b b' i : Nat} {a0 a1 a2 a3 a4 a5 a6 a7 u : Value} (h : Box8 W b a0 a1 a2 a3 a4 a5 a6 a7) (hn : b ≠ b') : Box8 (W.setCell ⟨b', i, none⟩ u) b a0 a1 a2 a3 a4 a5 a6 a7 := by
  have n : ∀ k l : Nat, (⟨b, k, none⟩ : Addr) ≠ ⟨b', l, none⟩ := fun k l e => hn (by injection e)
  obtain ⟨h0, h1, h2, h3, h4, h5, h6, h7⟩ := h
  refine ⟨?_, ?_, ?_, ?_, ?_, ?_, ?_, ?_⟩ <;>
  · rw [World.cell?_setCell_other _ _ _ _ (by first | exact n _ _ | exact (n _ _).symm)]
    assumption
theorem box8_set23 {W : World} {b : Nat} {a0 a1 a2 a3 a4 a5 a6 a7 u2 u3 : Value} (h : Box8 W b a0 a1 a2 a3 a4 a5 a6 a7) : Box8 ((W.setCell ⟨b, 2, none⟩ u2).setCell ⟨b, 3, none⟩ u3) b a0 a1 u2 u3 a4 a5 a6 a7 := by
  have n : ∀ k l : Nat, k ≠ l → (⟨b, k, none⟩ : Addr) ≠ ⟨b, l, none⟩ := fun k l h e => h (by injection e)
  obtain ⟨h0, h1, h2, h3, h4, h5, h6, h7⟩ := h
  have e3 : (W.setCell ⟨b, 2, none⟩ u2).cell? ⟨b, 3, none⟩ = some a3 := by
    rw [World.cell?_setCell_other _ _ _ _ (by first | exact n 2 3 (by decide) | exact n 3 2 (by decide))]; exact h3
  have o : ∀ k, k ≠ 2 → k ≠ 3 → ((W.setCell ⟨b, 2, none⟩ u2).setCell ⟨b, 3, none⟩ u3).cell? ⟨b, k, none⟩ = W.cell? ⟨b, k, none⟩ := fun k k2 k3 => by
    rw [World.cell?_setCell_other _ _ _ _ (by first | exact n _ _ k3 | exact n _ _ (Ne.symm k3)), World.cell?_setCell_other _ _ _ _ (by first | exact n _ _ k2 | exact n _ _ (Ne.symm k2))]
  refine ⟨(o 0 (by decide) (by decide)).trans h0, (o 1 (by decide) (by decide)).trans h1, ?_, ?_, (o 4 (by decide) (by decide)).trans h4, (o 5 (by decide) (by decide)).trans h5, (o 6 (by decide) (by decide)).trans h6, (o 7 (by decide) (by decide)).trans h7⟩
  · rw [World.cell?_setCell_other _ _ _ _ (by first | exact n 2 3 (by decide) | exact n 3 2 (by decide))]
    exact World.cell?_setCell_same _ _ _ h2
  · exact World.cell?_setCell_same _ _ _ e3
theorem box8_set4 {W : World} {b : Nat} {a0 a1 a2 a3 a4 a5 a6 a7 u4 : Value} (h : Box8 W b a0 a1 a2 a3 a4 a5 a6 a7) : Box8 (W.setCell ⟨b, 4, none⟩ u4) b a0 a1 a2 a3 u4 a5 a6 a7 := by
  have n : ∀ k l : Nat, k ≠ l → (⟨b, k, none⟩ : Addr) ≠ ⟨b, l, none⟩ := fun k l h e => h (by injection e)
  obtain ⟨h0, h1, h2, h3, h4, h5, h6, h7⟩ := h
  have o : ∀ k, k ≠ 4 → (W.setCell ⟨b, 4, none⟩ u4).cell? ⟨b, k, none⟩ = W.cell? ⟨b, k, none⟩ := fun k k4 => by
    rw [World.cell?_setCell_other _ _ _ _ (by first | exact n _ _ k4 | exact n _ _ (Ne.symm k4))]
  exact ⟨(o 0 (by decide)).trans h0, (o 1 (by decide)).trans h1, (o 2 (by decide)).trans h2, (o 3 (by decide)).trans h3, World.cell?_setCell_same _ _ _ h4, (o 5 (by decide)).trans h5, (o 6 (by decide)).trans h6, (o 7 (by decide)).trans h7⟩

theorem bytes_full8 {s : ByteArray} (h : 0 < s.size) : s.toList.isEmpty = false := by
  rw [ByteArray.toList_eq]
  cases hl : s.data.toList with
  | nil =>
    exfalso
    have h1 : s.data.size = 0 := by rw [← Array.length_toList, hl]; rfl
    have h2 : s.size = s.data.size := rfl
    omega
  | cons _ _ => rfl

set_option maxHeartbeats 16000000 in
set_option maxRecDepth 100000 in
theorem ralone_3 {w : World} {v : Value} {x : Va} (h : VaRd w v x) (h3 : x.kind = 3) :
    Calls Tryz.prog 209 #[v] w fun e w' => e = .returned (.bool (al3 x)) ∧ Below w.heap.size w w' := by
  obtain ⟨⟨vm, vk, rfl, hm, hk⟩, wf⟩ := h
  have HM := hide hm
  obtain ⟨mo, mc, rfl, -⟩ : ∃ ao cap, vm = .slice ao x.mag.length cap ∧ True := by obtain ⟨ao, cap, h, _⟩ := hm; exact ⟨ao, cap, h, trivial⟩
  obtain ⟨ko, kc, rfl, -⟩ := hk.len
  unfold vaV al3
  rw [h3]
  obtain ⟨nb, hnb⟩ : ∃ q, nrmB x.neg x.mag = q := ⟨_, rfl⟩
  have HN := hide hnb
  rw [hnb]
  obtain ⟨n1, hn1⟩ : ∃ n, x.mag.length = n := ⟨_, rfl⟩
  obtain ⟨l1, hl1⟩ : ∃ n, x.kids.length = n := ⟨_, rfl⟩
  obtain ⟨tx, htx⟩ : ∃ t, strOfNums x.text = t := ⟨_, rfl⟩
  rw [hn1] at HM ⊢
  rw [hl1, htx]
  have HCALL := hide (fun (u : World) (hu : Below w.heap.size w u) => (show Calls Tryz.prog 233 #[.agg #[.bool x.neg, .slice mo n1 mc]] u fun e w' => e = .returned (.bool nb) ∧ Below u.heap.size u w' from by
    have h := rnormal_b (g := x.neg) (HM.out.below hu)
    rw [HN.out] at h
    exact h))
  clear hm hk wf h3 hnb hn1 hl1 htx HM HN
  generalize x.n = n at *
  generalize x.neg = g at *
  generalize x.bits = b at *
  generalize x.ext = e at *
  have K0 := hide (bel_new w (.cells #[.int .i8 3, .int .u64 n, .bool g, .slice mo n1 mc, .int .u64 b, .int .i8 e, .string tx, .slice ko l1 kc] 31))
  have BX0 := hide (box8_new w (.int .i8 3) (.int .u64 n) (.bool g) (.slice mo n1 mc) (.int .u64 b) (.int .i8 e) (.string tx) (.slice ko l1 kc) 31)
  go_enter Tryz.func209, Tryz.ntmps209
  go_upto_region 1 with fail
  generalize w.alloc (.cells #[.int .i8 3, .int .u64 n, .bool g, .slice mo n1 mc, .int .u64 b, .int .i8 e, .string tx, .slice ko l1 kc] 31) = W0 at *
  have lt0 : w.heap.size < W0.heap.size := vcell_lt BX0.out.1
  obtain ⟨z0, z1, z2, z3, z4, z5, z6, z7⟩ := BX0.out
  go_upto_region 2 with fail
  have KA := bel_new W0 (.cells #[.int .i8 3, .int .u64 0, .bool false, .slice none 0 0, .int .u64 0, .int .i8 0, .string ⟨#[]⟩, .slice none 0 0] 31)
  have BX1 := hide (BX0.out.below KA lt0)
  have hg1 : (W0.alloc (.cells #[.int .i8 3, .int .u64 0, .bool false, .slice none 0 0, .int .u64 0, .int .i8 0, .string ⟨#[]⟩, .slice none 0 0] 31)).heap[W0.heap.size]? = some (.cells #[.int .i8 3, .int .u64 0, .bool false, .slice none 0 0, .int .u64 0, .int .i8 0, .string ⟨#[]⟩, .slice none 0 0] 31 (0, 0)) := heap_alloc_new _ _
  have K1 := hide (below_trans K0.out KA)
  clear KA z0 z1 z2 z3 z4 z5 z6 z7 BX0
  generalize W0.alloc (.cells #[.int .i8 3, .int .u64 0, .bool false, .slice none 0 0, .int .u64 0, .int .i8 0, .string ⟨#[]⟩, .slice none 0 0] 31) = W1 at *
  obtain ⟨b2, hb2⟩ : ∃ b, W0.heap.size = b := ⟨_, rfl⟩
  rw [hb2] at hg1 lt0 ⊢
  clear hb2
  obtain ⟨y0, y1, y2, y3, y4, y5, y6, y7, f0, f1, f2, f3, f4, f5, f6, f7⟩ := cells8T hg1
  have BY1 : Hid (Box8 W1 b2 (.int .i8 3) (.int .u64 0) (.bool false) (.slice none 0 0) (.int .u64 0) (.int .i8 0) (.string ⟨#[]⟩) (.slice none 0 0)) := hide ⟨y0, y1, y2, y3, y4, y5, y6, y7⟩
  have ltb : b2 < W1.heap.size := vcell_lt y0
  obtain ⟨z0, z1, z2, z3, z4, z5, z6, z7⟩ := BX1.out
  clear hg1
  go_upto_region 11 with fail
  have BX2 := hide (box8_off BX1.out (show w.heap.size ≠ b2 by omega) : Box8 ((W1.setCell ⟨b2, 2, none⟩ (.bool g)).setCell ⟨b2, 3, none⟩ (.slice mo n1 mc)) _ _ _ _ _ _ _ _ _)
  have BY2 := hide (box8_set23 BY1.out : Box8 ((W1.setCell ⟨b2, 2, none⟩ (.bool g)).setCell ⟨b2, 3, none⟩ (.slice mo n1 mc)) _ _ _ _ _ _ _ _ _)
  have K2 : Hid (Below w.heap.size w ((W1.setCell ⟨b2, 2, none⟩ (.bool g)).setCell ⟨b2, 3, none⟩ (.slice mo n1 mc))) := hide ((K1.out.setCell (p := ⟨b2, 2, none⟩) (show w.heap.size ≤ b2 by omega) _).setCell (p := ⟨b2, 3, none⟩) (show w.heap.size ≤ b2 by omega) _)
  clear y0 y1 y2 y3 y4 y5 y6 y7 f0 f1 f2 f3 f4 f5 f6 f7 z0 z1 z2 z3 z4 z5 z6 z7 BX1 BY1 K1
  have lt2 : w.heap.size < ((W1.setCell ⟨b2, 2, none⟩ (.bool g)).setCell ⟨b2, 3, none⟩ (.slice mo n1 mc)).heap.size ∧ b2 < ((W1.setCell ⟨b2, 2, none⟩ (.bool g)).setCell ⟨b2, 3, none⟩ (.slice mo n1 mc)).heap.size := ⟨vcell_lt BX2.out.1, vcell_lt BY2.out.1⟩
  generalize (W1.setCell ⟨b2, 2, none⟩ (.bool g)).setCell ⟨b2, 3, none⟩ (.slice mo n1 mc) = W2 at *
  have CL := hide (HCALL.out W2 K2.out)
  obtain ⟨z0, z1, z2, z3, z4, z5, z6, z7⟩ := BX2.out
  clear HCALL
  go_wp2_with fail
  with_reducible refine CL.out.mono ?_
  rintro e9 W3 ⟨rfl, hb⟩
  have BX3 := hide (BX2.out.below hb lt2.1)
  have BY3 := hide (BY2.out.below hb lt2.2)
  have K3 := hide (below_trans K2.out hb)
  clear z0 z1 z2 z3 z4 z5 z6 z7 BX2 BY2 K2 CL hb lt2 ltb lt0
  obtain ⟨z0, z1, z2, z3, z4, z5, z6, z7⟩ := BX3.out
  obtain ⟨y0, y1, y2, y3, y4, y5, y6, y7⟩ := BY3.out
  clear BX3 BY3
  cases nb with
  | false =>
    go_wp2
    go_ret
    exact ⟨rfl, K3.out⟩
  | true =>
    by_cases c_n : n = 0
    · subst c_n
      by_cases c_b : b = 0
      · subst c_b
        by_cases c_e : e = 0
        · subst c_e
          by_cases c_tx : tx.size = 0
          · obtain rfl : tx = ⟨#[]⟩ := by cases tx; simp_all [ByteArray.size]
            clear c_tx
            by_cases c_l1 : l1 = 0
            · subst c_l1
              go_wp2
              go_ret
              exact ⟨rfl, K3.out⟩
            · have q_l1 : ((l1 : Int) == 0) = false := beq_eq_false_iff_ne.2 (by omega)
              have r_l1 : (l1 == 0) = false := by simp [c_l1]
              have Q := hide r_l1
              go_wp2
              go_ret
              exact ⟨by rw [Q.out]; simp, K3.out⟩
          · have q_tx : tx.toList.isEmpty = false := bytes_full8 (by omega)
            have r_tx : (tx.size == 0) = false := by simp [c_tx]
            have Q := hide r_tx
            clear r_tx c_tx
            go_wp2
            go_ret
            exact ⟨by rw [Q.out]; simp, K3.out⟩
        · have q_e : (e == 0) = false := by simp [c_e]
          have Q := hide q_e
          go_wp2
          go_ret
          exact ⟨by rw [Q.out]; simp, K3.out⟩
      · have q_b : (b == 0) = false := by simp [c_b]
        have Q := hide q_b
        go_wp2
        go_ret
        exact ⟨by rw [Q.out]; simp, K3.out⟩
    · have q_n : (n == 0) = false := by simp [c_n]
      have Q := hide q_n
      go_wp2
      go_ret
      exact ⟨by rw [Q.out]; simp, K3.out⟩

set_option maxHeartbeats 16000000 in
set_option maxRecDepth 100000 in
theorem ralone_4 {w : World} {v : Value} {x : Va} (h : VaRd w v x) (h3 : x.kind = 4) {fb : Bool} (hf : fb = true ↔ FOk x.bits) :
    Calls Tryz.prog 209 #[v] w fun e w' => e = .returned (.bool (al4 x fb)) ∧ Below w.heap.size w w' := by
  obtain ⟨⟨vm, vk, rfl, hm, hk⟩, wf⟩ := h
  have HM := hide hm
  obtain ⟨mo, mc, rfl, -⟩ : ∃ ao cap, vm = .slice ao x.mag.length cap ∧ True := by obtain ⟨ao, cap, h, _⟩ := hm; exact ⟨ao, cap, h, trivial⟩
  obtain ⟨ko, kc, rfl, -⟩ := hk.len
  unfold vaV al4
  rw [h3]
  obtain ⟨nb, hnb⟩ : ∃ q, fb = q := ⟨_, rfl⟩
  have HN := hide hnb
  have HW := hide (rfloat_any (w := w) wf.b0 wf.b1 hf)
  have HWU := hide (fun u : World => rfloat_any (w := u) wf.b0 wf.b1 hf)
  rw [hnb]
  obtain ⟨n1, hn1⟩ : ∃ n, x.mag.length = n := ⟨_, rfl⟩
  obtain ⟨l1, hl1⟩ : ∃ n, x.kids.length = n := ⟨_, rfl⟩
  obtain ⟨tx, htx⟩ : ∃ t, strOfNums x.text = t := ⟨_, rfl⟩
  rw [hn1] at HM ⊢
  rw [hl1, htx]
  have HCALL := hide (fun (u : World) (hu : Below w.heap.size w u) => (show Calls Tryz.prog 234 #[.int .u64 x.bits] u fun e w' => e = .returned (.bool nb) ∧ Below u.heap.size u w' from by
    have h := HWU.out u
    rw [HN.out] at h
    exact h))
  clear hm hk wf h3 hnb hn1 hl1 htx HM HN HW HWU hf
  generalize x.n = n at *
  generalize x.neg = g at *
  generalize x.bits = b at *
  generalize x.ext = e at *
  have K0 := hide (bel_new w (.cells #[.int .i8 4, .int .u64 n, .bool g, .slice mo n1 mc, .int .u64 b, .int .i8 e, .string tx, .slice ko l1 kc] 31))
  have BX0 := hide (box8_new w (.int .i8 4) (.int .u64 n) (.bool g) (.slice mo n1 mc) (.int .u64 b) (.int .i8 e) (.string tx) (.slice ko l1 kc) 31)
  go_enter Tryz.func209, Tryz.ntmps209
  go_upto_region 1 with fail
  generalize w.alloc (.cells #[.int .i8 4, .int .u64 n, .bool g, .slice mo n1 mc, .int .u64 b, .int .i8 e, .string tx, .slice ko l1 kc] 31) = W0 at *
  have lt0 : w.heap.size < W0.heap.size := vcell_lt BX0.out.1
  obtain ⟨z0, z1, z2, z3, z4, z5, z6, z7⟩ := BX0.out
  go_upto_region 2 with fail
  have KA := bel_new W0 (.cells #[.int .i8 4, .int .u64 0, .bool false, .slice none 0 0, .int .u64 0, .int .i8 0, .string ⟨#[]⟩, .slice none 0 0] 31)
  have BX1 := hide (BX0.out.below KA lt0)
  have hg1 : (W0.alloc (.cells #[.int .i8 4, .int .u64 0, .bool false, .slice none 0 0, .int .u64 0, .int .i8 0, .string ⟨#[]⟩, .slice none 0 0] 31)).heap[W0.heap.size]? = some (.cells #[.int .i8 4, .int .u64 0, .bool false, .slice none 0 0, .int .u64 0, .int .i8 0, .string ⟨#[]⟩, .slice none 0 0] 31 (0, 0)) := heap_alloc_new _ _
  have K1 := hide (below_trans K0.out KA)
  clear KA z0 z1 z2 z3 z4 z5 z6 z7 BX0
  generalize W0.alloc (.cells #[.int .i8 4, .int .u64 0, .bool false, .slice none 0 0, .int .u64 0, .int .i8 0, .string ⟨#[]⟩, .slice none 0 0] 31) = W1 at *
  obtain ⟨b2, hb2⟩ : ∃ b, W0.heap.size = b := ⟨_, rfl⟩
  rw [hb2] at hg1 lt0 ⊢
  clear hb2
  obtain ⟨y0, y1, y2, y3, y4, y5, y6, y7, f0, f1, f2, f3, f4, f5, f6, f7⟩ := cells8T hg1
  have BY1 : Hid (Box8 W1 b2 (.int .i8 4) (.int .u64 0) (.bool false) (.slice none 0 0) (.int .u64 0) (.int .i8 0) (.string ⟨#[]⟩) (.slice none 0 0)) := hide ⟨y0, y1, y2, y3, y4, y5, y6, y7⟩
  have ltb : b2 < W1.heap.size := vcell_lt y0
  obtain ⟨z0, z1, z2, z3, z4, z5, z6, z7⟩ := BX1.out
  clear hg1
  go_upto_region 14 with fail
  have BX2 := hide (box8_off1 BX1.out (show w.heap.size ≠ b2 by omega) : Box8 (W1.setCell ⟨b2, 4, none⟩ (.int .u64 b)) _ _ _ _ _ _ _ _ _)
  have BY2 := hide (box8_set4 BY1.out : Box8 (W1.setCell ⟨b2, 4, none⟩ (.int .u64 b)) _ _ _ _ _ _ _ _ _)
  have K2 : Hid (Below w.heap.size w (W1.setCell ⟨b2, 4, none⟩ (.int .u64 b))) := hide (K1.out.setCell (p := ⟨b2, 4, none⟩) (show w.heap.size ≤ b2 by omega) _)
  clear y0 y1 y2 y3 y4 y5 y6 y7 f0 f1 f2 f3 f4 f5 f6 f7 z0 z1 z2 z3 z4 z5 z6 z7 BX1 BY1 K1
  have lt2 : w.heap.size < (W1.setCell ⟨b2, 4, none⟩ (.int .u64 b)).heap.size ∧ b2 < (W1.setCell ⟨b2, 4, none⟩ (.int .u64 b)).heap.size := ⟨vcell_lt BX2.out.1, vcell_lt BY2.out.1⟩
  generalize W1.setCell ⟨b2, 4, none⟩ (.int .u64 b) = W2 at *
  have CL := hide (HCALL.out W2 K2.out)
  obtain ⟨z0, z1, z2, z3, z4, z5, z6, z7⟩ := BX2.out
  clear HCALL
  go_wp2_with fail
  with_reducible refine CL.out.mono ?_
  rintro e9 W3 ⟨rfl, hb⟩
  have BX3 := hide (BX2.out.below hb lt2.1)
  have BY3 := hide (BY2.out.below hb lt2.2)
  have K3 := hide (below_trans K2.out hb)
  clear z0 z1 z2 z3 z4 z5 z6 z7 BX2 BY2 K2 CL hb lt2 ltb lt0
  obtain ⟨z0, z1, z2, z3, z4, z5, z6, z7⟩ := BX3.out
  obtain ⟨y0, y1, y2, y3, y4, y5, y6, y7⟩ := BY3.out
  clear BX3 BY3
  cases nb with
  | false =>
    go_wp2
    go_ret
    exact ⟨rfl, K3.out⟩
  | true =>
    by_cases c_n : n = 0
    · subst c_n
      cases g with
      | false =>
        by_cases c_n1 : n1 = 0
        · subst c_n1
          by_cases c_e : e = 0
          · subst c_e
            by_cases c_tx : tx.size = 0
            · obtain rfl : tx = ⟨#[]⟩ := by cases tx; simp_all [ByteArray.size]
              clear c_tx
              by_cases c_l1 : l1 = 0
              · subst c_l1
                go_wp2
                go_ret
                exact ⟨rfl, K3.out⟩
              · have q_l1 : ((l1 : Int) == 0) = false := beq_eq_false_iff_ne.2 (by omega)
                have r_l1 : (l1 == 0) = false := by simp [c_l1]
                have Q := hide r_l1
                go_wp2
                go_ret
                exact ⟨by rw [Q.out]; simp, K3.out⟩
            · have q_tx : tx.toList.isEmpty = false := bytes_full8 (by omega)
              have r_tx : (tx.size == 0) = false := by simp [c_tx]
              have Q := hide r_tx
              clear r_tx c_tx
              go_wp2
              go_ret
              exact ⟨by rw [Q.out]; simp, K3.out⟩
          · have q_e : (e == 0) = false := by simp [c_e]
            have Q := hide q_e
            go_wp2
            go_ret
            exact ⟨by rw [Q.out]; simp, K3.out⟩
        · have q_n1 : ((n1 : Int) == 0) = false := beq_eq_false_iff_ne.2 (by omega)
          have r_n1 : (n1 == 0) = false := by simp [c_n1]
          have Q := hide r_n1
          go_wp2
          go_ret
          exact ⟨by rw [Q.out]; simp, K3.out⟩
      | true =>
        go_wp2
        go_ret
        exact ⟨by simp, K3.out⟩
    · have q_n : (n == 0) = false := by simp [c_n]
      have Q := hide q_n
      go_wp2
      go_ret
      exact ⟨by rw [Q.out]; simp, K3.out⟩

end Go.Proofs.YtjigofmcflmelaaGreatDoor

namespace Go.Proofs.YtjigofmcflmelaaGreatDoor
open Go.RowKit
set_option linter.unusedVariables false
set_option linter.unusedSimpArgs false

/-- the value's shape: its eight cells -/
def Sh8 (v : Value) (k n b e : Int) (g : Bool) (m : Value) (tx : ByteArray) (ko : Option Addr) (l kc : Nat) : Prop := v = .agg #[.int .i8 k, .int .u64 n, .bool g, m, .int .u64 b, .int .i8 e, .string tx, .slice ko l kc]
/-- Alone answers so in all later worlds -/
def AlIs (w : World) (v : Value) (q : Bool) : Prop := ∀ u, Below w.heap.size w u → Calls Tryz.prog 209 #[v] u fun e w' => e = .returned (.bool q) ∧ Below u.heap.size u w'

set_option maxHeartbeats 4000000 in
set_option maxRecDepth 20000 in
theorem rwrong_bad {w : World} {k n b e : Int} {g : Bool} {mo ko : Option Addr} {ml mc l kc : Nat} {tx : ByteArray} (hA : AlIs w (.agg #[.int .i8 k, .int .u64 n, .bool g, .slice mo ml mc, .int .u64 b, .int .i8 e, .string tx, .slice ko l kc]) false) :
    Calls Tryz.prog 176 #[.agg #[.int .i8 k, .int .u64 n, .bool g, .slice mo ml mc, .int .u64 b, .int .i8 e, .string tx, .slice ko l kc], .slice none 0 0] w fun x w' => x = .returned (.tuple #[.slice none 0 0, .bool true]) ∧ Below w.heap.size w w' := by
  have K1 := hide (bel_new w (.cells #[.int .i8 k, .int .u64 n, .bool g, .slice mo ml mc, .int .u64 b, .int .i8 e, .string tx, .slice ko l kc] 31))
  have HC := hide (hA _ K1.out)
  clear hA
  go_enter Tryz.func176, Tryz.ntmps176
  go_wp2_with fail
  with_reducible refine HC.out.mono ?_
  rintro x w2 ⟨rfl, hb⟩
  have K2 := hide (below_trans K1.out hb)
  clear hb HC
  go_wp2
  go_ret2
  exact ⟨rfl, K2.out⟩

set_option maxHeartbeats 4000000 in
set_option maxRecDepth 20000 in
theorem rwrong_ok {w : World} {k n b e : Int} {g : Bool} {mo ko : Option Addr} {ml mc kc : Nat} {tx : ByteArray} (hA : AlIs w (.agg #[.int .i8 k, .int .u64 n, .bool g, .slice mo ml mc, .int .u64 b, .int .i8 e, .string tx, .slice ko 0 kc]) true) :
    Calls Tryz.prog 176 #[.agg #[.int .i8 k, .int .u64 n, .bool g, .slice mo ml mc, .int .u64 b, .int .i8 e, .string tx, .slice ko 0 kc], .slice none 0 0] w fun x w' => x = .returned (.tuple #[.slice none 0 0, .bool false]) ∧ Below w.heap.size w w' := by
  have K1 := hide (bel_new w (.cells #[.int .i8 k, .int .u64 n, .bool g, .slice mo ml mc, .int .u64 b, .int .i8 e, .string tx, .slice ko 0 kc] 31))
  have BX := hide (box8_new w (.int .i8 k) (.int .u64 n) (.bool g) (.slice mo ml mc) (.int .u64 b) (.int .i8 e) (.string tx) (.slice ko 0 kc) 31)
  have HC := hide (hA _ K1.out)
  clear hA
  go_enter Tryz.func176, Tryz.ntmps176
  go_upto_region 1 with fail
  generalize w.alloc (.cells #[.int .i8 k, .int .u64 n, .bool g, .slice mo ml mc, .int .u64 b, .int .i8 e, .string tx, .slice ko 0 kc] 31) = w1 at *
  have lt1 : w.heap.size < w1.heap.size := vcell_lt BX.out.1
  obtain ⟨z0, z1, z2, z3, z4, z5, z6, z7⟩ := BX.out
  go_wp2_with fail
  with_reducible refine HC.out.mono ?_
  rintro x w2 ⟨rfl, hb⟩
  have K2 := hide (below_trans K1.out hb)
  have BX2 := hide (BX.out.below hb lt1)
  clear hb HC z0 z1 z2 z3 z4 z5 z6 z7 BX
  obtain ⟨z0, z1, z2, z3, z4, z5, z6, z7⟩ := BX2.out
  go_wp2
  go_loopw [6] (fun iv wr => iv = .int .i64 0 ∧ wr = w2) (fun _ _ => 0)
  case atStart => exact ⟨rfl, rfl⟩
  case round =>
    obtain ⟨rfl, rfl⟩ := hrel
    go_wp2
    go_ret2
    exact ⟨rfl, K2.out⟩

set_option maxHeartbeats 4000000 in
set_option maxRecDepth 20000 in
theorem rdeep_ok {w : World} {k n b e : Int} {g : Bool} {mo ko : Option Addr} {ml mc l kc : Nat} {tx : ByteArray} (h7 : k ≠ 7) (h8 : k ≠ 8) (h9 : k ≠ 9) :
    Calls Tryz.prog 178 #[.agg #[.int .i8 k, .int .u64 n, .bool g, .slice mo ml mc, .int .u64 b, .int .i8 e, .string tx, .slice ko l kc], .slice none 0 0] w fun x w' => x = .returned (.tuple #[.slice none 0 0, .bool false]) ∧ Below w.heap.size w w' := by
  have e7 : (k == 7) = false := by simp [h7]
  have e8 : (k == 8) = false := by simp [h8]
  have e9 : (k == 9) = false := by simp [h9]
  have HC := hide (fun u : World => (show Calls Tryz.prog 211 #[.agg #[.int .i8 k, .int .u64 n, .bool g, .slice mo ml mc, .int .u64 b, .int .i8 e, .string tx, .slice ko l kc]] u fun x w' => x = .returned (.bool false) ∧ Below u.heap.size u w' from by
    go_enter Tryz.func211, Tryz.ntmps211
    go_wp2
    go_ret
    exact ⟨rfl, bel_new _ _⟩))
  have K1 := hide (bel_new w (.cells #[.int .i8 k, .int .u64 n, .bool g, .slice mo ml mc, .int .u64 b, .int .i8 e, .string tx, .slice ko l kc] 31))
  clear e7 e8 e9 h7 h8 h9
  go_enter Tryz.func178, Tryz.ntmps178
  go_wp2_with fail
  with_reducible refine (HC.out _).mono ?_
  rintro x w2 ⟨rfl, hb⟩
  have K2 := hide (below_trans K1.out hb)
  clear hb HC
  go_wp2
  go_ret2
  exact ⟨rfl, K2.out⟩

set_option maxHeartbeats 4000000 in
set_option maxRecDepth 20000 in
theorem rpath_nil {w : World} : Calls Tryz.prog 177 #[.slice none 0 0] w fun x w' => x = .returned (.string ⟨#[]⟩) ∧ Below w.heap.size w w' := by
  have hcv := run_convert_bytes_nil (P := Tryz.prog) w 160 5 Tryz.underlying160 Tryz.underlying5 0 0 9 Tryz.underlying9
  go_enter Tryz.func177, Tryz.ntmps177
  go_wp2
  go_loopw [3, 4] (fun ov iv wr => ov = .slice none 0 0 ∧ iv = .int .i64 0 ∧ wr = w) (fun _ _ _ => 0)
  case atStart => exact ⟨rfl, rfl, rfl⟩
  case round =>
    obtain ⟨rfl, rfl, rfl⟩ := hrel
    go_wp2
    go_ret
    exact ⟨rfl, Below.refl _ _⟩


abbrev okF : Value := .agg #[.int .i64 0, .int .i64 0, .string ⟨#[]⟩]
abbrev noF : Value := .agg #[.int .i64 1, .int .i64 0, .string ⟨#[]⟩]
theorem cells3T {u : World} {b : Nat} {a0 a1 a2 : Value} {t : TypeId} (h : u.heap[b]? = some (.cells #[a0, a1, a2] t (0, 0))) :
    u.cell? ⟨b, 0, none⟩ = some a0 ∧ u.cell? ⟨b, 1, none⟩ = some a1 ∧ u.cell? ⟨b, 2, none⟩ = some a2 ∧ u.frozen? ⟨b, 0, none⟩ = false ∧ u.frozen? ⟨b, 1, none⟩ = false ∧ u.frozen? ⟨b, 2, none⟩ = false := by
  refine ⟨?_, ?_, ?_, ?_, ?_, ?_⟩ <;> simp [World.cell?, World.frozen?, h]
theorem put3_below {B b : Nat} {w w4 : World} {v0 v1 v2 : Value} (h : Below B w w4) (hb : B ≤ b) : Below B w (((w4.setCell ⟨b, 0, none⟩ v0).setCell ⟨b, 1, none⟩ v1).setCell ⟨b, 2, none⟩ v2) :=
  ((h.setCell (p := ⟨b, _, none⟩) hb v0).setCell (p := ⟨b, _, none⟩) hb v1).setCell (p := ⟨b, _, none⟩) hb v2

set_option maxHeartbeats 8000000 in
set_option maxRecDepth 20000 in
theorem rcheck_bad {w : World} {k n b e : Int} {g : Bool} {mo ko : Option Addr} {ml mc l kc : Nat} {tx : ByteArray} (hA : AlIs w (.agg #[.int .i8 k, .int .u64 n, .bool g, .slice mo ml mc, .int .u64 b, .int .i8 e, .string tx, .slice ko l kc]) false) :
    Calls Tryz.prog 101 #[.agg #[.int .i8 k, .int .u64 n, .bool g, .slice mo ml mc, .int .u64 b, .int .i8 e, .string tx, .slice ko l kc]] w fun x w' => x = .returned noF ∧ Below w.heap.size w w' := by
  have KA := bel_new w (.cells #[.int .i8 k, .int .u64 n, .bool g, .slice mo ml mc, .int .u64 b, .int .i8 e, .string tx, .slice ko l kc] 31)
  have KB := bel_new (w.alloc (.cells #[.int .i8 k, .int .u64 n, .bool g, .slice mo ml mc, .int .u64 b, .int .i8 e, .string tx, .slice ko l kc] 31)) (.cells #[.int .i64 0, .int .i64 0, .string ⟨#[]⟩] 111)
  have K1 := hide (below_trans KA KB)
  have BX := hide ((box8_new w (.int .i8 k) (.int .u64 n) (.bool g) (.slice mo ml mc) (.int .u64 b) (.int .i8 e) (.string tx) (.slice ko l kc) 31).below KB (by simp))
  have hg0 : ((w.alloc (.cells #[.int .i8 k, .int .u64 n, .bool g, .slice mo ml mc, .int .u64 b, .int .i8 e, .string tx, .slice ko l kc] 31)).alloc (.cells #[.int .i64 0, .int .i64 0, .string ⟨#[]⟩] 111)).heap[(w.alloc (.cells #[.int .i8 k, .int .u64 n, .bool g, .slice mo ml mc, .int .u64 b, .int .i8 e, .string tx, .slice ko l kc] 31)).heap.size]? = some (.cells #[.int .i64 0, .int .i64 0, .string ⟨#[]⟩] 111 (0, 0)) := heap_alloc_new _ _
  rw [show (w.alloc (.cells #[.int .i8 k, .int .u64 n, .bool g, .slice mo ml mc, .int .u64 b, .int .i8 e, .string tx, .slice ko l kc] 31)).heap.size = w.heap.size + 1 by simp] at hg0
  have HG := hide hg0
  have HA := hide hA
  clear KA KB hg0 hA
  go_enter Tryz.func101, Tryz.ntmps101
  go_upto_region 1 with fail
  generalize (w.alloc (.cells #[.int .i8 k, .int .u64 n, .bool g, .slice mo ml mc, .int .u64 b, .int .i8 e, .string tx, .slice ko l kc] 31)).alloc (.cells #[.int .i64 0, .int .i64 0, .string ⟨#[]⟩] 111) = w1 at *
  have lt1 : w.heap.size + 1 < w1.heap.size := vcell_lt (cells3T HG.out).1
  have HA1 : AlIs w1 (.agg #[.int .i8 k, .int .u64 n, .bool g, .slice mo ml mc, .int .u64 b, .int .i8 e, .string tx, .slice ko l kc]) false := fun u hu => HA.out u (below_trans K1.out hu)
  have HC := hide (rwrong_bad HA1)
  obtain ⟨z0, z1, z2, z3, z4, z5, z6, z7⟩ := BX.out
  clear HA HA1
  go_wp2_with fail
  with_reducible refine HC.out.mono ?_
  rintro x w2 ⟨rfl, hb⟩
  have K2 := hide (below_trans K1.out hb)
  have hg := (hb.block _ lt1).trans HG.out
  have HG2 := hide hg
  have lt2 : w.heap.size + 1 < w2.heap.size := Nat.lt_of_lt_of_le lt1 hb.size
  clear hb HC z0 z1 z2 z3 z4 z5 z6 z7 BX hg HG
  go_wp2_with fail
  with_reducible refine rpath_nil.mono ?_
  rintro x w3 ⟨rfl, hb⟩
  have K3 := hide (below_trans K2.out hb)
  obtain ⟨c0, c1, c2, f0, f1, f2⟩ := cells3T ((hb.block _ lt2).trans HG2.out)
  have KZ := hide (put3_below (b := w.heap.size + 1) (v0 := .int .i64 1) (v1 := .int .i64 0) (v2 := .string ⟨#[]⟩) K3.out (by omega))
  clear hb HG2 lt1 lt2 K2 K1
  go_wp2
  refine bodyPost_ret (v := noF) ?_ rfl ?_
  · rw [results_cellT rfl]
    go_simp
  · exact ⟨rfl, KZ.out⟩

set_option maxHeartbeats 8000000 in
set_option maxRecDepth 20000 in
theorem rcheck_ok {w : World} {k n b e : Int} {g : Bool} {mo ko : Option Addr} {ml mc kc : Nat} {tx : ByteArray} (h7 : k ≠ 7) (h8 : k ≠ 8) (h9 : k ≠ 9) (hA : AlIs w (.agg #[.int .i8 k, .int .u64 n, .bool g, .slice mo ml mc, .int .u64 b, .int .i8 e, .string tx, .slice ko 0 kc]) true) :
    Calls Tryz.prog 101 #[.agg #[.int .i8 k, .int .u64 n, .bool g, .slice mo ml mc, .int .u64 b, .int .i8 e, .string tx, .slice ko 0 kc]] w fun x w' => x = .returned okF ∧ Below w.heap.size w w' := by
  have KA := bel_new w (.cells #[.int .i8 k, .int .u64 n, .bool g, .slice mo ml mc, .int .u64 b, .int .i8 e, .string tx, .slice ko 0 kc] 31)
  have KB := bel_new (w.alloc (.cells #[.int .i8 k, .int .u64 n, .bool g, .slice mo ml mc, .int .u64 b, .int .i8 e, .string tx, .slice ko 0 kc] 31)) (.cells #[.int .i64 0, .int .i64 0, .string ⟨#[]⟩] 111)
  have K1 := hide (below_trans KA KB)
  have BX := hide ((box8_new w (.int .i8 k) (.int .u64 n) (.bool g) (.slice mo ml mc) (.int .u64 b) (.int .i8 e) (.string tx) (.slice ko 0 kc) 31).below KB (by simp))
  have hg0 : ((w.alloc (.cells #[.int .i8 k, .int .u64 n, .bool g, .slice mo ml mc, .int .u64 b, .int .i8 e, .string tx, .slice ko 0 kc] 31)).alloc (.cells #[.int .i64 0, .int .i64 0, .string ⟨#[]⟩] 111)).heap[(w.alloc (.cells #[.int .i8 k, .int .u64 n, .bool g, .slice mo ml mc, .int .u64 b, .int .i8 e, .string tx, .slice ko 0 kc] 31)).heap.size]? = some (.cells #[.int .i64 0, .int .i64 0, .string ⟨#[]⟩] 111 (0, 0)) := heap_alloc_new _ _
  rw [show (w.alloc (.cells #[.int .i8 k, .int .u64 n, .bool g, .slice mo ml mc, .int .u64 b, .int .i8 e, .string tx, .slice ko 0 kc] 31)).heap.size = w.heap.size + 1 by simp] at hg0
  have HG := hide hg0
  have HA := hide hA
  have H789 := hide (And.intro h7 (And.intro h8 h9))
  clear KA KB hg0 hA h7 h8 h9
  go_enter Tryz.func101, Tryz.ntmps101
  go_upto_region 1 with fail
  generalize (w.alloc (.cells #[.int .i8 k, .int .u64 n, .bool g, .slice mo ml mc, .int .u64 b, .int .i8 e, .string tx, .slice ko 0 kc] 31)).alloc (.cells #[.int .i64 0, .int .i64 0, .string ⟨#[]⟩] 111) = w1 at *
  have lt1 : w.heap.size + 1 < w1.heap.size := vcell_lt (cells3T HG.out).1
  have HA1 : AlIs w1 (.agg #[.int .i8 k, .int .u64 n, .bool g, .slice mo ml mc, .int .u64 b, .int .i8 e, .string tx, .slice ko 0 kc]) true := fun u hu => HA.out u (below_trans K1.out hu)
  have HC := hide (rwrong_ok HA1)
  obtain ⟨z0, z1, z2, z3, z4, z5, z6, z7⟩ := BX.out
  clear HA HA1
  go_wp2_with fail
  with_reducible refine HC.out.mono ?_
  rintro x w2 ⟨rfl, hb⟩
  have K2 := hide (below_trans K1.out hb)
  have hg := (hb.block _ lt1).trans HG.out
  have HG2 := hide hg
  have BX2 := hide (BX.out.below hb (by omega))
  have lt2 : w.heap.size + 1 < w2.heap.size := Nat.lt_of_lt_of_le lt1 hb.size
  clear hb HC z0 z1 z2 z3 z4 z5 z6 z7 BX hg HG
  obtain ⟨z0, z1, z2, z3, z4, z5, z6, z7⟩ := BX2.out
  go_wp2_with fail
  with_reducible refine (rdeep_ok H789.out.1 H789.out.2.1 H789.out.2.2).mono ?_
  rintro x w3 ⟨rfl, hb⟩
  have K3 := hide (below_trans K2.out hb)
  obtain ⟨c0, c1, c2, f0, f1, f2⟩ := cells3T ((hb.block _ lt2).trans HG2.out)
  have KZ := hide (put3_below (b := w.heap.size + 1) (v0 := .int .i64 0) (v1 := .int .i64 0) (v2 := .string ⟨#[]⟩) K3.out (by omega))
  clear hb HG2 lt1 lt2 K2 K1 z0 z1 z2 z3 z4 z5 z6 z7
  go_wp2
  refine bodyPost_ret (v := okF) ?_ rfl ?_
  · rw [results_cellT rfl]
    go_simp
  · exact ⟨rfl, KZ.out⟩

end Go.Proofs.YtjigofmcflmelaaGreatDoor

namespace Go.Proofs.YtjigofmcflmelaaGreatDoor
open Go.RowKit
set_option linter.unusedVariables false
set_option linter.unusedSimpArgs false

set_option maxHeartbeats 8000000 in
set_option maxRecDepth 20000 in
theorem ris_other {w : World} {k n b e : Int} {g : Bool} {mo ko : Option Addr} {ml mc l kc : Nat} {tx : ByteArray} (h3 : k ≠ 3) (h4 : k ≠ 4) :
    Calls Tryz.prog 31 #[.agg #[.int .i8 k, .int .u64 n, .bool g, .slice mo ml mc, .int .u64 b, .int .i8 e, .string tx, .slice ko l kc]] w fun x w' => x = .returned (.bool false) ∧ Below w.heap.size w w' := by
  have e3 : (k == 3) = false := by simp [h3]
  have e4 : (k == 4) = false := by simp [h4]
  go_enter Tryz.func31, Tryz.ntmps31
  go_wp2
  go_ret
  exact ⟨rfl, bel_new _ _⟩

set_option maxHeartbeats 8000000 in
set_option maxRecDepth 20000 in
theorem ris_num {w : World} {k n b e : Int} {g q : Bool} {mo ko : Option Addr} {ml mc l kc : Nat} {tx : ByteArray} (hk : k = 3 ∨ k = 4)
    (hC : ∀ u, Below w.heap.size w u → Calls Tryz.prog 101 #[.agg #[.int .i8 k, .int .u64 n, .bool g, .slice mo ml mc, .int .u64 b, .int .i8 e, .string tx, .slice ko l kc]] u fun x w' => x = .returned (if q then okF else noF) ∧ Below u.heap.size u w') :
    Calls Tryz.prog 31 #[.agg #[.int .i8 k, .int .u64 n, .bool g, .slice mo ml mc, .int .u64 b, .int .i8 e, .string tx, .slice ko l kc]] w fun x w' => x = .returned (.bool q) ∧ Below w.heap.size w w' := by
  have K1 := hide (bel_new w (.cells #[.int .i8 k, .int .u64 n, .bool g, .slice mo ml mc, .int .u64 b, .int .i8 e, .string tx, .slice ko l kc] 31))
  have HC := hide (hC _ K1.out)
  clear hC
  rcases hk with rfl | rfl <;> cases q <;>
  · simp only [if_true, if_false, Bool.false_eq_true] at HC
    go_enter Tryz.func31, Tryz.ntmps31
    go_wp2_with fail
    with_reducible refine HC.out.mono ?_
    rintro x w2 ⟨rfl, hb⟩
    have K2 := hide (below_trans K1.out hb)
    clear hb HC
    go_wp2
    go_ret
    exact ⟨rfl, K2.out⟩

end Go.Proofs.YtjigofmcflmelaaGreatDoor

namespace Go.Proofs.YtjigofmcflmelaaGreatDoor
open Go.RowKit
set_option linter.unusedVariables false
set_option linter.unusedSimpArgs false

theorem bytes_nil {s : ByteArray} (h : s.size = 0) : s = ⟨#[]⟩ := by cases s; simp_all [ByteArray.size]
theorem al3_c (x : Va) : ((bits .andNot .u8 (flr x.n x.neg x.mag.length x.bits x.ext (strOfNums x.text) x.kids.length) 2 == 0) && nrmB x.neg x.mag) = al3 x := by
  apply Bool.eq_iff_iff.2
  constructor
  · intro h
    obtain ⟨e1, e2⟩ := Bool.and_eq_true_iff.1 h
    obtain ⟨q1, q2, q3, q4, q5⟩ := flr_3 e1
    unfold al3
    rw [q1, q2, q3, q4, q5, e2]
    rfl
  · intro h
    unfold al3 at h
    simp only [Bool.and_eq_true, beq_iff_eq] at h
    obtain ⟨h0, h1, h2, h3, h4, h5⟩ := h
    rw [h1, h2, h3, bytes_nil h4, h5, h0, flr_w]
    rfl
theorem al4_c (x : Va) (fb : Bool) : ((bits .andNot .u8 (flr x.n x.neg x.mag.length x.bits x.ext (strOfNums x.text) x.kids.length) 4 == 0) && fb) = al4 x fb := by
  apply Bool.eq_iff_iff.2
  constructor
  · intro h
    obtain ⟨e1, e2⟩ := Bool.and_eq_true_iff.1 h
    obtain ⟨q1, q2, q3, q4, q5, q6⟩ := flr_4 e1
    unfold al4
    rw [q1, q2, q3, q4, q5, q6, e2]
    rfl
  · intro h
    unfold al4 at h
    simp only [Bool.and_eq_true, beq_iff_eq, Bool.not_eq_true'] at h
    obtain ⟨h0, h1, h2, h3, h4, h5, h6⟩ := h
    rw [h1, h2, h3, h4, bytes_nil h5, h6, h0, flr_f]
    rfl
/-- the document says whether it is a number -/
def IsA (w : World) (v : Value) (q : Bool) : Prop := ∀ u, Below w.heap.size w u → Calls Tryz.prog 31 #[v] u fun e w' => e = .returned (.bool q) ∧ Below u.heap.size u w'
theorem IsA.below {w w' : World} {v : Value} {q : Bool} (h : IsA w v q) (hb : Below w.heap.size w w') : IsA w' v q := fun u hu => h u (below_trans hb hu)
theorem isa_bad {w : World} {k n b e : Int} {g : Bool} {mo ko : Option Addr} {ml mc l kc : Nat} {tx : ByteArray} (hk : k = 3 ∨ k = 4) (hA : AlIs w (.agg #[.int .i8 k, .int .u64 n, .bool g, .slice mo ml mc, .int .u64 b, .int .i8 e, .string tx, .slice ko l kc]) false) :
    IsA w (.agg #[.int .i8 k, .int .u64 n, .bool g, .slice mo ml mc, .int .u64 b, .int .i8 e, .string tx, .slice ko l kc]) false := fun u hu =>
  ris_num (q := false) hk fun u2 hu2 => rcheck_bad fun u3 hu3 => hA u3 (below_trans (below_trans hu hu2) hu3)
theorem isa_ok {w : World} {k n b e : Int} {g : Bool} {mo ko : Option Addr} {ml mc kc : Nat} {tx : ByteArray} (hk : k = 3 ∨ k = 4) (hA : AlIs w (.agg #[.int .i8 k, .int .u64 n, .bool g, .slice mo ml mc, .int .u64 b, .int .i8 e, .string tx, .slice ko 0 kc]) true) :
    IsA w (.agg #[.int .i8 k, .int .u64 n, .bool g, .slice mo ml mc, .int .u64 b, .int .i8 e, .string tx, .slice ko 0 kc]) true := fun u hu =>
  ris_num (q := true) hk fun u2 hu2 => rcheck_ok (by rcases hk with rfl | rfl <;> decide) (by rcases hk with rfl | rfl <;> decide) (by rcases hk with rfl | rfl <;> decide) fun u3 hu3 => hA u3 (below_trans (below_trans hu hu2) hu3)

/-- it is a number that may be, and which -/
def Ck (x : Va) : Prop := (x.kind = 3 ∧ al3 x = true) ∨ (x.kind = 4 ∧ ∃ fb : Bool, (fb = true ↔ FOk x.bits) ∧ al4 x fb = true)
def zOf (x : Va) : NZ := if x.kind = 3 then .w (wn x.neg (Nt.val x.mag)) else .f x.bits

theorem num_cl {w : World} (L : Lays w) (T : Brn w) (U : Uss w) {et : TypeId} {eo : Option Addr} (hE : w.cell? ⟨0, 0, none⟩ = some (.iface et (.pointer eo))) (hEl : 0 < w.heap.size)
    {x : Va} {v : Value} (h : VaRd w v x) {K : Nat} (hK : x.mag.length ≤ K) : (Ck x ∧ NRe w v K (zOf x) ∧ IsA w v true) ∨ (¬ Ck x ∧ NoN w v ∧ IsA w v false) := by
  have H := h
  obtain ⟨⟨vm, vk, rfl, hm, hk⟩, wf⟩ := h
  have hm' := hm
  obtain ⟨mo, mc, rfl, -, hmx, -⟩ := hm
  obtain ⟨ko, kc, rfl, -, -⟩ := hk.len
  have stop : ∀ {k : Int}, (k = 3 ∨ k = 4) → (∀ W, Below w.heap.size w W → Calls Tryz.prog 173 #[.agg #[.int .i8 k, .int .u64 x.n, .bool x.neg, .slice mo x.mag.length mc, .int .u64 x.bits, .int .i8 x.ext, .string (strOfNums x.text), .slice ko x.kids.length kc]] W fun e W' => e = .returned (.bool false) ∧ Below W.heap.size W W') →
      NoN w (.agg #[.int .i8 k, .int .u64 x.n, .bool x.neg, .slice mo x.mag.length mc, .int .u64 x.bits, .int .i8 x.ext, .string (strOfNums x.text), .slice ko x.kids.length kc]) := fun hk M =>
    ⟨_, _, _, _, _, _, _, _, _, _, _, _, rfl, .inr ⟨hk, fun W hW => check_stop ((hW.cell (p := ⟨0, 0, none⟩) hEl).trans hE) (Nat.lt_of_lt_of_le hEl hW.size) fun W' hW' => M W' (hW.trans (hW'.mono hW.size))⟩⟩
  by_cases h3 : x.kind = 3
  · have AL : AlIs w (vaV x (.slice mo x.mag.length mc) (.slice ko x.kids.length kc)) (al3 x) := fun u hu => ralone_3 (H.far hu) h3
    unfold vaV at AL ⊢
    rw [h3] at AL ⊢
    have M : ∀ W, Below w.heap.size w W → Calls Tryz.prog 173 #[.agg #[.int .i8 3, .int .u64 x.n, .bool x.neg, .slice mo x.mag.length mc, .int .u64 x.bits, .int .i8 x.ext, .string (strOfNums x.text), .slice ko x.kids.length kc]] W fun e W' => e = .returned (.bool ((bits .andNot .u8 (flr x.n x.neg x.mag.length x.bits x.ext (strOfNums x.text) x.kids.length) 2 == 0) && nrmB x.neg x.mag)) ∧ Below W.heap.size W W' :=
      fun W hW => maybe_b3 (U.below hW) rfl (fun W' hW' => filled_any) (fun W' hW' => fits_b3 fun W'' hW'' => isnormal_b (((hm'.below hW).below hW').below hW''))
    rw [← al3_c] at AL
    cases hzo : ((bits .andNot .u8 (flr x.n x.neg x.mag.length x.bits x.ext (strOfNums x.text) x.kids.length) 2 == 0) && nrmB x.neg x.mag)
    · rw [hzo] at M AL
      rw [al3_c] at hzo
      have hnc : ¬ Ck x := by
        rintro (⟨-, c⟩ | ⟨c, -⟩)
        · rw [hzo] at c; cases c
        · omega
      exact .inr ⟨hnc, stop (.inl rfl) M, isa_bad (.inl rfl) AL⟩
    · rw [hzo] at AL
      obtain ⟨e1, e2⟩ := Bool.and_eq_true_iff.1 hzo
      obtain ⟨q1, q2, q3, q4, q5⟩ := flr_3 e1
      obtain ⟨hc, hp⟩ := nrm_c wf.m e2
      have hck : Ck x := .inl ⟨h3, (al3_c x).symm.trans hzo⟩
      have hz : zOf x = .w (wn x.neg (Nt.val x.mag)) := by unfold zOf; rw [if_pos h3]
      rw [q1, q2, q3, q4, q5] at AL ⊢
      rw [hz]
      exact .inl ⟨hck, ⟨_, _, _, _, _, rfl, ⟨x.mag, hm', hc, rfl, hK⟩, rfl, hp⟩, isa_ok (.inl rfl) AL⟩
  · by_cases h4 : x.kind = 4
    · obtain ⟨fb, hfo, hf⟩ : ∃ fb : Bool, (fb = true ↔ FOk x.bits) ∧ ∀ w : World, Lays w → Brn w → Calls Tryz.prog 228 #[.int .u64 x.bits] w fun e w' => e = .returned (.bool fb) ∧ Below w.heap.size w w' := by
        by_cases hF : FOk x.bits
        · exact ⟨true, ⟨fun _ => hF, fun _ => rfl⟩, fun w L T => isfloat_ok L T hF⟩
        · obtain ⟨fb, h1, h2⟩ := isfloat_d x.bits wf.b0 wf.b1
          cases fb with
          | true => exact absurd (h1 rfl) hF
          | false => exact ⟨false, ⟨(fun h => by cases h), fun h => absurd h hF⟩, h2⟩
      have AL : AlIs w (vaV x (.slice mo x.mag.length mc) (.slice ko x.kids.length kc)) (al4 x fb) := fun u hu => ralone_4 (H.far hu) h4 hfo
      unfold vaV at AL ⊢
      rw [h4] at AL ⊢
      have M : ∀ W, Below w.heap.size w W → Calls Tryz.prog 173 #[.agg #[.int .i8 4, .int .u64 x.n, .bool x.neg, .slice mo x.mag.length mc, .int .u64 x.bits, .int .i8 x.ext, .string (strOfNums x.text), .slice ko x.kids.length kc]] W fun e W' => e = .returned (.bool ((bits .andNot .u8 (flr x.n x.neg x.mag.length x.bits x.ext (strOfNums x.text) x.kids.length) 4 == 0) && fb)) ∧ Below W.heap.size W W' :=
        fun W hW => maybe_b4 (U.below hW) rfl (fun W' hW' => filled_any) (fun W' hW' => fits_b4 fun W'' hW'' => hf W'' (((L.below hW).below hW').below hW'') (((T.below hW).below hW').below hW''))
      rw [← al4_c] at AL
      cases hzo : ((bits .andNot .u8 (flr x.n x.neg x.mag.length x.bits x.ext (strOfNums x.text) x.kids.length) 4 == 0) && fb)
      · rw [hzo] at M AL
        rw [al4_c] at hzo
        have hnc : ¬ Ck x := by
          rintro (⟨c, -⟩ | ⟨-, f2, i2, c⟩)
          · exact h3 c
          · have : f2 = fb := Bool.eq_iff_iff.2 (i2.trans hfo.symm)
            rw [this, hzo] at c
            cases c
        exact .inr ⟨hnc, stop (.inr rfl) M, isa_bad (.inr rfl) AL⟩
      · rw [hzo] at AL
        obtain ⟨e1, e2⟩ := Bool.and_eq_true_iff.1 hzo
        obtain ⟨q1, q2, q3, q4, q5, q6⟩ := flr_4 e1
        have hck : Ck x := .inr ⟨h4, fb, hfo, (al4_c x fb).symm.trans hzo⟩
        have hz : zOf x = .f x.bits := by unfold zOf; rw [if_neg h3]
        rw [q1, q2, q3, q4, q5, q6] at AL ⊢
        rw [hz]
        exact .inl ⟨hck, ⟨_, _, _, _, rfl, hmx, hfo.1 e2⟩, isa_ok (.inr rfl) AL⟩
    · unfold vaV
      have hnc : ¬ Ck x := by
        rintro (⟨c, -⟩ | ⟨c, -⟩)
        · exact h3 c
        · exact h4 c
      exact .inr ⟨hnc, ⟨_, _, _, _, _, _, _, _, _, _, _, _, rfl, .inl ⟨h3, h4⟩⟩, fun u hu => ris_other h3 h4⟩

end Go.Proofs.YtjigofmcflmelaaGreatDoor

namespace Go.Proofs.YtjigofmcflmelaaGreatDoor
open Go.RowKit
set_option linter.unusedVariables false
set_option linter.unusedSimpArgs false

/-- the document's bits: every reading of the number's own is this -/
def RbI (z : NZ) (y : Int) (ok : Bool) : Prop := ∀ y' ok', BitsIs z y' ok' → y' = y ∧ ok' = ok
end Go.Proofs.YtjigofmcflmelaaGreatDoor

namespace Go.Proofs.YtjigofmcflmelaaGreatDoor
open Go.RowKit
set_option linter.unusedVariables false
set_option linter.unusedSimpArgs false

end Go.Proofs.YtjigofmcflmelaaGreatDoor

namespace Go.Proofs.YtjigofmcflmelaaGreatDoor
open Go.RowKit
set_option linter.unusedVariables false
set_option linter.unusedSimpArgs false

/-- the value is the number, or none -/
def VzO (w : World) (v : Value) (k : Nat) : Option NZ → Prop
  | some z => NRe w v k z
  | none => NoN w v
def AzO (w : World) (u : Value) (k : Nat) : Option NZ → Prop
  | some z => AmtIs w u k z
  | none => u = nthg
def ncO : Option NZ → Option NZ → Int × Bool
  | some z, some z' => ncmp64 z z'
  | some _, none => (0, false)
  | none, _ => (0, false)
theorem VzO.below {w w' : World} {v : Value} {k : Nat} {o : Option NZ} (h : VzO w v k o) (hb : Below w.heap.size w w') : VzO w' v k o := by
  cases o with
  | some z => exact NRe.below h hb
  | none => exact NoN.below h hb
theorem AzO.below {w w' : World} {v : Value} {k : Nat} {o : Option NZ} (h : AzO w v k o) (hb : Below w.heap.size w w') : AzO w' v k o := by
  cases o with
  | some z => exact AmtIs.below h hb
  | none => exact h
theorem VzO.shape {w : World} {v : Value} {k : Nat} {o : Option NZ} (h : VzO w v k o) : ∃ (k3 n1 b e : Int) (g : Bool) (s : ByteArray) (mo ko : Option Addr) (ml mc kl kc : Nat), v = .agg #[.int .i8 k3, .int .u64 n1, .bool g, .slice mo ml mc, .int .u64 b, .int .i8 e, .string s, .slice ko kl kc] := by
  cases o with
  | some z =>
    obtain ⟨k3, g, mo, ml, mc, b, ko, kc, rfl⟩ := nre_shape h
    exact ⟨_, _, _, _, _, _, _, _, _, _, _, _, rfl⟩
  | none =>
    obtain ⟨k, n1, b, e, g, s, mo, ko, ml, mc, kl, kc, rfl, -⟩ := h
    exact ⟨_, _, _, _, _, _, _, _, _, _, _, _, rfl⟩
theorem amount_o {w : World} (L : Lays w) (T : Brn w) (U : Uss w) {v : Value} {k : Nat} {o : Option NZ} (h : VzO w v k o) : Calls Tryz.prog 30 #[v] w fun e' w' => ∃ u, e' = .returned u ∧ AzO w' u k o ∧ Below w.heap.size w w' := by
  cases o with
  | some z => exact amount_e L T U h
  | none => exact (amount_none h).mono fun e w' h => ⟨_, h.1, rfl, h.2⟩
theorem compare_o {w : World} (L : Lays w) (T : Brn w) {u u' : Value} {k k' : Nat} {o o' : Option NZ} (h : AzO w u k o) (h' : AzO w u' k' o') (hk : k ≤ 1048577) (hk' : k' ≤ 1048577) : Calls Tryz.prog 38 #[u, u'] w fun e' w' => e' = .returned (.tuple #[.int .i64 (ncO o o').1, .bool (ncO o o').2]) ∧ Below w.heap.size w w' := by
  cases o with
  | none =>
    obtain rfl := h
    exact compare_nl
  | some z =>
    cases o' with
    | none =>
      obtain rfl := h'
      exact compare_nr h
    | some z' => exact compare_any L T h h' hk hk'

set_option maxHeartbeats 8000000 in
set_option maxRecDepth 20000 in
theorem cmp_o {w : World} (L : Lays w) (T : Brn w) (U : Uss w) {v v' : Value} {k k' : Nat} {o o' : Option NZ} (h : VzO w v k o) (h' : VzO w v' k' o') (hk : k ≤ 1048577) (hk' : k' ≤ 1048577) : Calls Tryz.prog 14 #[v, v'] w fun e' w' => e' = .returned (.tuple #[.int .i64 (ncO o o').1, .bool (ncO o o').2]) ∧ Below w.heap.size w w' := by
  have H1 := hide (fun (W : World) (hW : Below w.heap.size w W) => amount_o (L.below hW) (T.below hW) (U.below hW) (h.below hW))
  have H2 := hide (fun (W : World) (hW : Below w.heap.size w W) => amount_o (L.below hW) (T.below hW) (U.below hW) (h'.below hW))
  have H3 := hide (fun (W : World) (u u' : Value) (hW : Below w.heap.size w W) (g : AzO W u k o) (g' : AzO W u' k' o') => compare_o (L.below hW) (T.below hW) g g' hk hk')
  obtain ⟨k1, n1, b1, e1, g1, s1, mo1, ko1, ml1, mc1, kl1, kc1, rfl⟩ := h.shape
  obtain ⟨k2, n2, b2, e2, g2, s2, mo2, ko2, ml2, mc2, kl2, kc2, rfl⟩ := h'.shape
  clear h h' L T U
  generalize hc : (ncO o o').1 = c at *
  generalize ho : (ncO o o').2 = ok at *
  clear hc ho
  go_enter Tryz.func14, Tryz.ntmps14
  go_wp2_with fail
  have B1 := bx8_new w (.int .i8 k1) (.int .u64 n1) (.bool g1) (.slice mo1 ml1 mc1) (.int .u64 b1) (.int .i8 e1) (.string s1) (.slice ko1 kl1 kc1) 31
  have K1 := bel_new w (.cells #[.int .i8 k1, .int .u64 n1, .bool g1, .slice mo1 ml1 mc1, .int .u64 b1, .int .i8 e1, .string s1, .slice ko1 kl1 kc1] 31)
  have hz1 : w.heap.size + 1 = (w.alloc (.cells #[.int .i8 k1, .int .u64 n1, .bool g1, .slice mo1 ml1 mc1, .int .u64 b1, .int .i8 e1, .string s1, .slice ko1 kl1 kc1] 31)).heap.size := by simp
  generalize w.alloc (.cells #[.int .i8 k1, .int .u64 n1, .bool g1, .slice mo1 ml1 mc1, .int .u64 b1, .int .i8 e1, .string s1, .slice ko1 kl1 kc1] 31) = w1 at *
  have B2 := bx8_new w1 (.int .i8 k2) (.int .u64 n2) (.bool g2) (.slice mo2 ml2 mc2) (.int .u64 b2) (.int .i8 e2) (.string s2) (.slice ko2 kl2 kc2) 31
  have K2 := bel_new w1 (.cells #[.int .i8 k2, .int .u64 n2, .bool g2, .slice mo2 ml2 mc2, .int .u64 b2, .int .i8 e2, .string s2, .slice ko2 kl2 kc2] 31)
  have B1' := B1.below K2 B1.lt
  rw [← hz1] at B2
  have HK0 := hide (below_trans K1 K2)
  generalize w1.alloc (.cells #[.int .i8 k2, .int .u64 n2, .bool g2, .slice mo2 ml2 mc2, .int .u64 b2, .int .i8 e2, .string s2, .slice ko2 kl2 kc2] 31) = W at *
  have HB1 := hide B1'
  have HB2 := hide B2
  have CC : ∀ u : World, Below W.heap.size W u → u.cell? ⟨w.heap.size, 0, none⟩ = some (.int .i8 k1) ∧ u.cell? ⟨w.heap.size, 1, none⟩ = some (.int .u64 n1) ∧ u.cell? ⟨w.heap.size, 2, none⟩ = some (.bool g1) ∧ u.cell? ⟨w.heap.size, 3, none⟩ = some (.slice mo1 ml1 mc1) ∧ u.cell? ⟨w.heap.size, 4, none⟩ = some (.int .u64 b1) ∧ u.cell? ⟨w.heap.size, 5, none⟩ = some (.int .i8 e1) ∧ u.cell? ⟨w.heap.size, 6, none⟩ = some (.string s1) ∧ u.cell? ⟨w.heap.size, 7, none⟩ = some (.slice ko1 kl1 kc1) ∧ u.cell? ⟨w.heap.size + 1, 0, none⟩ = some (.int .i8 k2) ∧ u.cell? ⟨w.heap.size + 1, 1, none⟩ = some (.int .u64 n2) ∧ u.cell? ⟨w.heap.size + 1, 2, none⟩ = some (.bool g2) ∧ u.cell? ⟨w.heap.size + 1, 3, none⟩ = some (.slice mo2 ml2 mc2) ∧ u.cell? ⟨w.heap.size + 1, 4, none⟩ = some (.int .u64 b2) ∧ u.cell? ⟨w.heap.size + 1, 5, none⟩ = some (.int .i8 e2) ∧ u.cell? ⟨w.heap.size + 1, 6, none⟩ = some (.string s2) ∧ u.cell? ⟨w.heap.size + 1, 7, none⟩ = some (.slice ko2 kl2 kc2) := fun u hu => by
    obtain ⟨x0, x1, x2, x3, x4, x5, x6, x7⟩ := HB1.out.below hu HB1.out.lt
    obtain ⟨y0, y1, y2, y3, y4, y5, y6, y7⟩ := HB2.out.below hu HB2.out.lt
    exact ⟨x0, x1, x2, x3, x4, x5, x6, x7, y0, y1, y2, y3, y4, y5, y6, y7⟩
  have K : Below W.heap.size W W.drew := (Below.refl _ _).drew
  clear B1 B2 K1 K2 hz1 B1'
  go_region_held3 (fun u => u.cell? ⟨w.heap.size, 0, none⟩ = some (.int .i8 k1) ∧ u.cell? ⟨w.heap.size, 1, none⟩ = some (.int .u64 n1) ∧ u.cell? ⟨w.heap.size, 2, none⟩ = some (.bool g1) ∧ u.cell? ⟨w.heap.size, 3, none⟩ = some (.slice mo1 ml1 mc1) ∧ u.cell? ⟨w.heap.size, 4, none⟩ = some (.int .u64 b1) ∧ u.cell? ⟨w.heap.size, 5, none⟩ = some (.int .i8 e1) ∧ u.cell? ⟨w.heap.size, 6, none⟩ = some (.string s1) ∧ u.cell? ⟨w.heap.size, 7, none⟩ = some (.slice ko1 kl1 kc1) ∧ u.cell? ⟨w.heap.size + 1, 0, none⟩ = some (.int .i8 k2) ∧ u.cell? ⟨w.heap.size + 1, 1, none⟩ = some (.int .u64 n2) ∧ u.cell? ⟨w.heap.size + 1, 2, none⟩ = some (.bool g2) ∧ u.cell? ⟨w.heap.size + 1, 3, none⟩ = some (.slice mo2 ml2 mc2) ∧ u.cell? ⟨w.heap.size + 1, 4, none⟩ = some (.int .u64 b2) ∧ u.cell? ⟨w.heap.size + 1, 5, none⟩ = some (.int .i8 e2) ∧ u.cell? ⟨w.heap.size + 1, 6, none⟩ = some (.string s2) ∧ u.cell? ⟨w.heap.size + 1, 7, none⟩ = some (.slice ko2 kl2 kc2)) (first | with_reducible exact CC _ K)
    (first
      | (go_at_call 30; (with_reducible refine (H1.out _ (HK0.out.trans (K.mono HK0.out.size))).mono ?_); rintro x w2 ⟨u1, rfl, hA1, hb2⟩; replace K := K.trans (hb2.mono K.size))
      | (go_at_call 30; (with_reducible refine (H2.out _ (HK0.out.trans (K.mono HK0.out.size))).mono ?_); rintro x w3 ⟨u2, rfl, hA2, hb3⟩; replace K := K.trans (hb3.mono K.size))
      | (go_at_call 38; (with_reducible refine (H3.out _ _ _ (HK0.out.trans (K.mono HK0.out.size)) (hA1.below hb3) hA2).mono ?_); rintro x w4 ⟨rfl, hb4⟩; replace K := K.trans (hb4.mono K.size)))
  have KZ := hide (HK0.out.trans (K.mono HK0.out.size))
  clear CC K
  go_wp2
  go_ret2
  exact ⟨rfl, KZ.out⟩

end Go.Proofs.YtjigofmcflmelaaGreatDoor

namespace Go.Proofs.YtjigofmcflmelaaGreatDoor
open Go.RowKit

theorem WNum.sign {B : Nat} {w : World} {ng : Bool} {m : Value} {n : Int} {k : Nat} (h : WNum B w (.agg #[.bool ng, m]) n k) : (ng = true → n < 0) ∧ (ng = false → 0 ≤ n) := by
  obtain ⟨neg, m', a, e, h1, rfl, h3⟩ := h
  simp at e
  obtain ⟨rfl, rfl⟩ := e
  have := h1.arg.nonneg
  unfold wn
  cases ng
  · exact ⟨fun h => (by cases h), fun _ => this⟩
  · exact ⟨fun _ => (by have h4 := h3 rfl; simp; exact h4), fun h => (by cases h)⟩


set_option maxRecDepth 20000 in
set_option maxHeartbeats 4000000 in
theorem r3norm_any {w : World} {v1 : Value} {n1 : Int} {k1 : Nat} (h1 : WArg w v1 n1 k1) (j1 : k1 ≤ 1099511627776) :
    Calls Tryz.prog 44 #[v1] w fun e w' => ∃ v, e = .returned v ∧ WNum w.heap.size w' v n1 k1 ∧ Below w.heap.size w w' := by
  obtain ⟨neg1, m1, a1, rfl, ha, hn1⟩ := h1
  have A1 := ha
  have N1 := ha.nonneg
  obtain ⟨zs1, ⟨ao1, cap1, rfl, -⟩, -⟩ := ha
  have Hn := hide hn1
  clear hn1
  have K1 : Below w.heap.size w ((w.alloc (.cells #[.bool neg1, .slice ao1 zs1.length cap1] 28)).alloc (.cells #[.bool false, .slice none 0 0] 28)) := below_trans (bel_alloc _ _) (bel_alloc _ _)
  have C1 := (cell2_new w (.bool neg1) (.slice ao1 zs1.length cap1) 28).alloc (.cells #[.bool false, .slice none 0 0] 28)
  have D1 := (after2 (Below.refl _ ((w.alloc (.cells #[.bool neg1, .slice ao1 zs1.length cap1] 28)).alloc (.cells #[.bool false, .slice none 0 0] 28)))).2
  replace A1 := A1.below K1
  have HC := hide C1
  have HD := hide D1
  have lt1 := D1.lt
  clear C1 D1
  go_enter Tryz.func44, Tryz.ntmps44
  go_wp2_with fail
  with_reducible refine (rnorm_any A1 j1).mono ?_
  rintro e w2 ⟨vn, rfl, hN, K⟩
  have d0 := (HD.out.below K).c0
  have d1 := (HD.out.below K).c1
  have g0 := (HD.out.below K).f0
  have g1 := (HD.out.below K).f1
  have p0 := (HC.out.below K).c0
  have hN' := hN
  obtain ⟨xs, ⟨ro, rfl, hm, _⟩, hc, hv, _⟩ := hN
  have hp : (0 : Int) < (xs.length : Int) ↔ 0 < a1 := by
    constructor
    · intro h0
      rcases Int.lt_or_eq_of_le N1 with h2 | h2
      · exact h2
      · have h3 := Nt.canon_unique hc Nt.canon_nil (by rw [hv, ← h2]; rfl)
        rw [h3] at h0; simp at h0
    · intro h0
      rcases Nat.eq_zero_or_pos xs.length with h1 | h1
      · rw [List.eq_nil_of_length_eq_zero h1] at hv
        have : Nt.val [] = 0 := rfl
        omega
      · omega
  unfold maxLen at hm
  have h63 : (xs.length : Int) ≤ 9223372036854775807 := by omega
  have Hp := hide hp
  clear hp hc hv
  cases neg1
  · go_wp2
    have PD := (HD.out.below K).put (.bool false) (.slice ro xs.length xs.length)
    have KB := below_put2 (b := w.heap.size + 1) (K1.trans (K.mono (by have := K1.size; omega))) (by omega) (.bool false) (.slice ro xs.length xs.length)
    have WN : WNum w.heap.size ((w2.setCell ⟨w.heap.size + 1, 0, none⟩ (.bool false)).setCell ⟨w.heap.size + 1, 1, none⟩ (.slice ro xs.length xs.length)) (.agg #[.bool false, .slice ro xs.length xs.length]) n1 k1 := ⟨_, _, a1, rfl, num_low ((hN'.put lt1 0 _).put lt1 1 _) K1.size, Hn.out, fun h => by cases h⟩
    clear d0 d1 g0 g1 p0 hN' K K1 HD HC
    generalize (w2.setCell ⟨w.heap.size + 1, 0, none⟩ (.bool false)).setCell ⟨w.heap.size + 1, 1, none⟩ (.slice ro xs.length xs.length) = w9 at *
    (try simp only [Exit.inBlock, Exit.then])
    exact bodyPost_ret (v := .agg #[.bool false, .slice ro xs.length xs.length]) (by simp [results, Tryz.results44, go_sem, PD.c0, PD.c1]) rfl ⟨_, rfl, WN, KB⟩
  · obtain ⟨bb, hbb⟩ : ∃ bb, bb = decide ((0 : Int) < (xs.length : Int)) := ⟨_, rfl⟩
    have hb2 : decide (0 < xs.length) = bb := by rw [hbb]; exact decide_eq_decide.2 (by omega)
    have hval : n1 = wn bb a1 ∧ (bb = true → 0 < a1) := by
      have h1 := Hp.out
      have h2 := Hn.out
      by_cases h0 : 0 < a1
      · have : bb = true := by rw [hbb]; exact decide_eq_true (h1.2 h0)
        subst this; exact ⟨h2, fun _ => h0⟩
      · have : bb = false := by rw [hbb]; exact decide_eq_false (fun h => h0 (h1.1 h))
        subst this
        refine ⟨?_, fun h => by cases h⟩
        unfold wn at *; simp at h2 ⊢; omega
    have Hval := hide hval
    have hb3 := hbb.symm
    clear hval hbb Hp
    go_wp2
    have PD := (HD.out.below K).put (.bool bb) (.slice ro xs.length xs.length)
    have KB := below_put2 (b := w.heap.size + 1) (K1.trans (K.mono (by have := K1.size; omega))) (by omega) (.bool bb) (.slice ro xs.length xs.length)
    have WN : WNum w.heap.size ((w2.setCell ⟨w.heap.size + 1, 0, none⟩ (.bool bb)).setCell ⟨w.heap.size + 1, 1, none⟩ (.slice ro xs.length xs.length)) (.agg #[.bool bb, .slice ro xs.length xs.length]) n1 k1 := ⟨_, _, a1, rfl, num_low ((hN'.put lt1 0 _).put lt1 1 _) K1.size, Hval.out.1, Hval.out.2⟩
    clear d0 d1 g0 g1 p0 hN' K K1 HD HC
    generalize (w2.setCell ⟨w.heap.size + 1, 0, none⟩ (.bool bb)).setCell ⟨w.heap.size + 1, 1, none⟩ (.slice ro xs.length xs.length) = w9 at *
    (try simp only [Exit.inBlock, Exit.then])
    exact bodyPost_ret (v := .agg #[.bool bb, .slice ro xs.length xs.length]) (by simp [results, Tryz.results44, go_sem, PD.c0, PD.c1]) rfl ⟨_, rfl, WN, KB⟩

theorem field0_int (z : Bool) (m : Value) (w : World) : (Instr.field 28 (.agg #[.bool z, m]) 0).run Tryz.prog w = .ok (.bool z) w := by
  kernel_rfl

set_option maxRecDepth 20000 in
set_option maxHeartbeats 4000000 in
theorem r3below_any {w : World} {v1 : Value} {n1 : Int} {k1 : Nat} (h1 : WArg w v1 n1 k1) (j1 : k1 ≤ 1099511627776) :
    Calls Tryz.prog 132 #[v1] w fun e w' => e = .returned (.bool (decide (n1 < 0))) ∧ Below w.heap.size w w' := by
  have h1' := h1
  obtain ⟨neg1, m1, a1, rfl, ha, hn1⟩ := h1
  obtain ⟨zs1, ⟨ao1, cap1, rfl, -⟩, -⟩ := ha
  have K1 : Below w.heap.size w (w.alloc (.cells #[.bool neg1, .slice ao1 zs1.length cap1] 28)) := bel_alloc _ _
  have H1 := hide (h1'.below K1)
  clear h1' hn1
  go_enter Tryz.func132, Tryz.ntmps132
  go_wp2_with fail
  with_reducible refine (r3norm_any H1.out j1).mono ?_
  rintro e w2 ⟨vn, rfl, hN, K⟩
  obtain ⟨ng, ro, rl, rfl⟩ := hN.told
  have hs := hN.sign
  have hd : decide (n1 < 0) = ng := by
    cases ng
    · exact decide_eq_false (by have := hs.2 rfl; omega)
    · exact decide_eq_true (hs.1 rfl)
  have KB := K1.trans (K.mono K1.size)
  have Hd := hide hd
  clear hs hd hN K K1 H1
  have hfld : (Instr.field 28 (.agg #[.bool ng, .slice ro rl rl]) 0).run Tryz.prog w2 = .ok (.bool ng) w2 := field0_int _ _ _
  go_wp2
  go_ret
  exact ⟨by rw [Hd.out]; rfl, KB⟩

theorem num_told {B : Nat} {w : World} {v : Value} {n : Int} {k : Nat} (h : Num B w v n k) : ∃ ao l, v = .slice ao l l := by
  obtain ⟨zs, ⟨ao, rfl, _⟩, _⟩ := h
  exact ⟨ao, _, rfl⟩
theorem r3below_told {w : World} {v1 : Value} {n1 : Int} {k1 : Nat} {z : Bool} (hz : decide (n1 < 0) = z) (h1 : WArg w v1 n1 k1) (j1 : k1 ≤ 1099511627776) :
    Calls Tryz.prog 132 #[v1] w fun e w' => e = .returned (.bool z) ∧ Below w.heap.size w w' := by
  subst hz
  exact r3below_any h1 j1

set_option maxRecDepth 20000 in
set_option maxHeartbeats 8000000 in
theorem r3cmp_any {w : World} {v1 : Value} {n1 : Int} {k1 : Nat} {v2 : Value} {n2 : Int} {k2 : Nat} (h1 : WArg w v1 n1 k1) (j1 : k1 ≤ 1099511627776) (h2 : WArg w v2 n2 k2) (j2 : k2 ≤ 1099511627776) :
    Calls Tryz.prog 40 #[v1, v2] w fun e w' => e = .returned (.int .i64 (sgn n1 n2)) ∧ Below w.heap.size w w' := by
  have G1 := h1
  obtain ⟨neg1, m1, a1, rfl, ha, hn1⟩ := h1
  have A1 := ha
  obtain ⟨zs1, ⟨ao1, cap1, rfl, -⟩, -⟩ := ha
  have N1 := A1.nonneg
  have hs1 := sg_self hn1 N1
  clear hn1
  have G2 := h2
  obtain ⟨neg2, m2, a2, rfl, ha, hn2⟩ := h2
  have A2 := ha
  obtain ⟨zs2, ⟨ao2, cap2, rfl, -⟩, -⟩ := ha
  have N2 := A2.nonneg
  have hs2 := sg_self hn2 N2
  clear hn2
  unfold Sg at hs1 hs2
  have KB : Below w.heap.size w ((w.alloc (.cells #[.bool neg1, .slice ao1 zs1.length cap1] 28)).alloc (.cells #[.bool neg2, .slice ao2 zs2.length cap2] 28)) := below_trans (bel_alloc _ _) (bel_alloc _ _)
  have C := after2 (Below.refl _ ((w.alloc (.cells #[.bool neg1, .slice ao1 zs1.length cap1] 28)).alloc (.cells #[.bool neg2, .slice ao2 zs2.length cap2] 28)))
  have HC1 := hide C.1
  have HC2 := hide C.2
  clear C
  replace A1 := A1.below KB
  replace G1 := G1.below KB
  replace A2 := A2.below KB
  replace G2 := G2.below KB
  by_cases hx : n1 < 0
  · by_cases hy : n2 < 0
    ·
      have z1 : Hid (decide (n1 < 0) = true) := hide (decide_eq_true hx)
      have z2 : Hid (decide (n2 < 0) = true) := hide (decide_eq_true hy)
      have hv : Hid (sgn a2 a1 = sgn n1 n2) := hide (by rcases sgn_cases a2 a1 with h | h | h <;> rcases sgn_cases n1 n2 with k | k | k <;> omega)
      clear hs1 hs2 hx hy
      go_enter Tryz.func40, Tryz.ntmps40
      have p1 := HC1.out.c0
      have q1 := HC1.out.c1
      have p2 := HC2.out.c0
      have q2 := HC2.out.c1
      go_wp2_with fail
      (with_reducible refine (r3below_told z1.out G1 j1).mono ?_)
      rintro e w3 ⟨rfl, hb⟩
      clear p1 q1 p2 q2
      replace KB := below_trans KB hb
      replace HC1 := hide (HC1.out.below hb)
      replace HC2 := hide (HC2.out.below hb)
      replace A1 := A1.below hb
      replace A2 := A2.below hb
      replace G1 := G1.below hb
      replace G2 := G2.below hb
      clear hb
      have p1 := HC1.out.c0
      have q1 := HC1.out.c1
      have p2 := HC2.out.c0
      have q2 := HC2.out.c1
      go_wp2_with fail
      (with_reducible refine (r3below_told z2.out G2 j2).mono ?_)
      rintro e w4 ⟨rfl, hb⟩
      clear p1 q1 p2 q2
      replace KB := below_trans KB hb
      replace HC1 := hide (HC1.out.below hb)
      replace HC2 := hide (HC2.out.below hb)
      replace A1 := A1.below hb
      replace A2 := A2.below hb
      replace G1 := G1.below hb
      replace G2 := G2.below hb
      clear hb
      have p1 := HC1.out.c0
      have q1 := HC1.out.c1
      have p2 := HC2.out.c0
      have q2 := HC2.out.c1
      go_wp2_with fail
      (with_reducible refine (r3below_told z1.out G1 j1).mono ?_)
      rintro e w5 ⟨rfl, hb⟩
      clear p1 q1 p2 q2
      replace KB := below_trans KB hb
      replace HC1 := hide (HC1.out.below hb)
      replace HC2 := hide (HC2.out.below hb)
      replace A1 := A1.below hb
      replace A2 := A2.below hb
      replace G1 := G1.below hb
      replace G2 := G2.below hb
      clear hb
      have p1 := HC1.out.c0
      have q1 := HC1.out.c1
      have p2 := HC2.out.c0
      have q2 := HC2.out.c1
      go_wp2_with fail
      (with_reducible refine (r3below_told z1.out G1 j1).mono ?_)
      rintro e w6 ⟨rfl, hb⟩
      clear p1 q1 p2 q2
      replace KB := below_trans KB hb
      replace HC1 := hide (HC1.out.below hb)
      replace HC2 := hide (HC2.out.below hb)
      replace A1 := A1.below hb
      replace A2 := A2.below hb
      replace G1 := G1.below hb
      replace G2 := G2.below hb
      clear hb
      have p1 := HC1.out.c0
      have q1 := HC1.out.c1
      have p2 := HC2.out.c0
      have q2 := HC2.out.c1
      go_wp2_with fail
      (with_reducible refine (rcmp_any A2 A1 (by omega) (by omega)).mono ?_)
      rintro e w7 ⟨rfl, hb⟩
      replace KB := below_trans KB hb
      go_wp2
      go_ret
      exact ⟨by rw [← hv.out]; rfl, KB⟩
    ·
      have z1 : Hid (decide (n1 < 0) = true) := hide (decide_eq_true hx)
      have z2 : Hid (decide (n2 < 0) = false) := hide (decide_eq_false hy)
      have hv : Hid (sgn n1 n2 = -1) := hide (sgn_lt (by omega))
      clear hs1 hs2 hx hy
      go_enter Tryz.func40, Tryz.ntmps40
      have p1 := HC1.out.c0
      have q1 := HC1.out.c1
      have p2 := HC2.out.c0
      have q2 := HC2.out.c1
      go_wp2_with fail
      (with_reducible refine (r3below_told z1.out G1 j1).mono ?_)
      rintro e w3 ⟨rfl, hb⟩
      clear p1 q1 p2 q2
      replace KB := below_trans KB hb
      replace HC1 := hide (HC1.out.below hb)
      replace HC2 := hide (HC2.out.below hb)
      replace A1 := A1.below hb
      replace A2 := A2.below hb
      replace G1 := G1.below hb
      replace G2 := G2.below hb
      clear hb
      have p1 := HC1.out.c0
      have q1 := HC1.out.c1
      have p2 := HC2.out.c0
      have q2 := HC2.out.c1
      go_wp2_with fail
      (with_reducible refine (r3below_told z2.out G2 j2).mono ?_)
      rintro e w4 ⟨rfl, hb⟩
      clear p1 q1 p2 q2
      replace KB := below_trans KB hb
      replace HC1 := hide (HC1.out.below hb)
      replace HC2 := hide (HC2.out.below hb)
      replace A1 := A1.below hb
      replace A2 := A2.below hb
      replace G1 := G1.below hb
      replace G2 := G2.below hb
      clear hb
      go_wp2
      go_ret
      exact ⟨by rw [hv.out]; rfl, KB⟩
  · by_cases hy : n2 < 0
    ·
      have z1 : Hid (decide (n1 < 0) = false) := hide (decide_eq_false hx)
      have z2 : Hid (decide (n2 < 0) = true) := hide (decide_eq_true hy)
      have hv : Hid (sgn n1 n2 = 1) := hide (sgn_gt (by omega))
      clear hs1 hs2 hx hy
      go_enter Tryz.func40, Tryz.ntmps40
      have p1 := HC1.out.c0
      have q1 := HC1.out.c1
      have p2 := HC2.out.c0
      have q2 := HC2.out.c1
      go_wp2_with fail
      (with_reducible refine (r3below_told z1.out G1 j1).mono ?_)
      rintro e w3 ⟨rfl, hb⟩
      clear p1 q1 p2 q2
      replace KB := below_trans KB hb
      replace HC1 := hide (HC1.out.below hb)
      replace HC2 := hide (HC2.out.below hb)
      replace A1 := A1.below hb
      replace A2 := A2.below hb
      replace G1 := G1.below hb
      replace G2 := G2.below hb
      clear hb
      have p1 := HC1.out.c0
      have q1 := HC1.out.c1
      have p2 := HC2.out.c0
      have q2 := HC2.out.c1
      go_wp2_with fail
      (with_reducible refine (r3below_told z1.out G1 j1).mono ?_)
      rintro e w4 ⟨rfl, hb⟩
      clear p1 q1 p2 q2
      replace KB := below_trans KB hb
      replace HC1 := hide (HC1.out.below hb)
      replace HC2 := hide (HC2.out.below hb)
      replace A1 := A1.below hb
      replace A2 := A2.below hb
      replace G1 := G1.below hb
      replace G2 := G2.below hb
      clear hb
      have p1 := HC1.out.c0
      have q1 := HC1.out.c1
      have p2 := HC2.out.c0
      have q2 := HC2.out.c1
      go_wp2_with fail
      (with_reducible refine (r3below_told z2.out G2 j2).mono ?_)
      rintro e w5 ⟨rfl, hb⟩
      clear p1 q1 p2 q2
      replace KB := below_trans KB hb
      replace HC1 := hide (HC1.out.below hb)
      replace HC2 := hide (HC2.out.below hb)
      replace A1 := A1.below hb
      replace A2 := A2.below hb
      replace G1 := G1.below hb
      replace G2 := G2.below hb
      clear hb
      go_wp2
      go_ret
      exact ⟨by rw [hv.out]; rfl, KB⟩
    ·
      have z1 : Hid (decide (n1 < 0) = false) := hide (decide_eq_false hx)
      have z2 : Hid (decide (n2 < 0) = false) := hide (decide_eq_false hy)
      have hv : Hid (sgn a1 a2 = sgn n1 n2) := hide (by rcases sgn_cases a1 a2 with h | h | h <;> rcases sgn_cases n1 n2 with k | k | k <;> omega)
      clear hs1 hs2 hx hy
      go_enter Tryz.func40, Tryz.ntmps40
      have p1 := HC1.out.c0
      have q1 := HC1.out.c1
      have p2 := HC2.out.c0
      have q2 := HC2.out.c1
      go_wp2_with fail
      (with_reducible refine (r3below_told z1.out G1 j1).mono ?_)
      rintro e w3 ⟨rfl, hb⟩
      clear p1 q1 p2 q2
      replace KB := below_trans KB hb
      replace HC1 := hide (HC1.out.below hb)
      replace HC2 := hide (HC2.out.below hb)
      replace A1 := A1.below hb
      replace A2 := A2.below hb
      replace G1 := G1.below hb
      replace G2 := G2.below hb
      clear hb
      have p1 := HC1.out.c0
      have q1 := HC1.out.c1
      have p2 := HC2.out.c0
      have q2 := HC2.out.c1
      go_wp2_with fail
      (with_reducible refine (r3below_told z1.out G1 j1).mono ?_)
      rintro e w4 ⟨rfl, hb⟩
      clear p1 q1 p2 q2
      replace KB := below_trans KB hb
      replace HC1 := hide (HC1.out.below hb)
      replace HC2 := hide (HC2.out.below hb)
      replace A1 := A1.below hb
      replace A2 := A2.below hb
      replace G1 := G1.below hb
      replace G2 := G2.below hb
      clear hb
      have p1 := HC1.out.c0
      have q1 := HC1.out.c1
      have p2 := HC2.out.c0
      have q2 := HC2.out.c1
      go_wp2_with fail
      (with_reducible refine (r3below_told z2.out G2 j2).mono ?_)
      rintro e w5 ⟨rfl, hb⟩
      clear p1 q1 p2 q2
      replace KB := below_trans KB hb
      replace HC1 := hide (HC1.out.below hb)
      replace HC2 := hide (HC2.out.below hb)
      replace A1 := A1.below hb
      replace A2 := A2.below hb
      replace G1 := G1.below hb
      replace G2 := G2.below hb
      clear hb
      have p1 := HC1.out.c0
      have q1 := HC1.out.c1
      have p2 := HC2.out.c0
      have q2 := HC2.out.c1
      go_wp2_with fail
      (with_reducible refine (r3below_told z1.out G1 j1).mono ?_)
      rintro e w6 ⟨rfl, hb⟩
      clear p1 q1 p2 q2
      replace KB := below_trans KB hb
      replace HC1 := hide (HC1.out.below hb)
      replace HC2 := hide (HC2.out.below hb)
      replace A1 := A1.below hb
      replace A2 := A2.below hb
      replace G1 := G1.below hb
      replace G2 := G2.below hb
      clear hb
      have p1 := HC1.out.c0
      have q1 := HC1.out.c1
      have p2 := HC2.out.c0
      have q2 := HC2.out.c1
      go_wp2_with fail
      (with_reducible refine (rcmp_any A1 A2 (by omega) (by omega)).mono ?_)
      rintro e w7 ⟨rfl, hb⟩
      replace KB := below_trans KB hb
      go_wp2
      go_ret
      exact ⟨by rw [← hv.out]; rfl, KB⟩

end Go.Proofs.YtjigofmcflmelaaGreatDoor

namespace Go.Proofs.YtjigofmcflmelaaGreatDoor
open Go.RowKit
set_option linter.unusedVariables false
set_option linter.unusedSimpArgs false

theorem ag_isLen_le {A : Int} {k m : Nat} (h : IsLen A k) (hA : A < p2 m) : k ≤ m := by
  rcases Nat.lt_or_ge m k with c | c
  · have h1 := h.2 (by omega)
    have h2 := p2_mono (m := m) (n := k - 1) (by omega)
    omega
  · exact c
theorem ag_zero (B : Nat) (w : World) (k : Nat) : Num B w (.slice none 0 0) 0 k :=
  ⟨[], ⟨none, rfl, by simp [maxLen], fun h => by simp at h⟩, Nt.canon_nil, by simp [Nt.val, Nt.vt], by simp⟩
theorem ag_shl {w : World} {va : Value} {A n : Int} {ka M : Nat} (ha : Arg w va A ka) (hka : ka ≤ 3000000) (hA : A < p2 M) (hM : M ≤ 10000) (h0 : 0 ≤ n) (hN : n ≤ 10000) :
    Calls Tryz.prog 136 #[va, .int .i64 n] w fun e w' => ∃ v, e = .returned (.tuple #[v, .bool true]) ∧ Num w.heap.size w' v (A * p2 n.toNat) (ka + 2000) ∧ Below w.heap.size w w' := by
  obtain ⟨N, rfl⟩ := Int.eq_ofNat_of_zero_le h0
  rw [Int.toNat_natCast]
  rcases Int.lt_or_eq_of_le ha.nonneg with c | c
  · obtain ⟨k, hk, hk2⟩ := len_of ha
    have hk3 := ag_isLen_le hk hA
    refine (rshl_ok (W := N / 8) (s := N % 8) ha (by omega) c hk hk2 (by omega) (by omega) (by omega)).mono ?_
    rintro x w1 ⟨vs, rfl, hv, K⟩
    exact ⟨vs, rfl, hv.mono (by omega), K⟩
  · subst c
    refine (rshl_zero ha (by omega) (n := (N : Int)) (by omega)).mono ?_
    rintro e w' ⟨rfl, K⟩
    refine ⟨.slice none 0 0, rfl, ?_, K⟩
    rw [Int.zero_mul]
    exact ag_zero _ _ _

abbrev besd64 (n b : Int) : Int × Bool := besd 9223372036854775808 4503599627370496 (-1074) 9218868437227405312 n b
theorem ag_inf {x : Int} (x0 : 0 ≤ x) (x1 : x < 18446744073709551616) (hx : x % 9223372036854775808 = 9218868437227405312) (n : Int) : besd64 n x = (if 9223372036854775808 ≤ x then 1 else -1, true) := by
  show besd 9223372036854775808 4503599627370496 (-1074) 9218868437227405312 n x = _
  unfold besd cmpC cmpOk tri rk
  rw [if_neg (by omega), if_pos (by omega), if_neg (by omega), decide_eq_true (by omega)]
  by_cases c : 9223372036854775808 ≤ x
  · have c2 : ¬ x < 9223372036854775808 := by omega
    simp only [if_neg c2, if_pos c]
    rw [if_neg (by simp; omega), if_pos (by simp; omega)]
  · have c2 : x < 9223372036854775808 := by omega
    simp only [if_pos c2, if_neg c]
    rw [if_pos (by simp; omega)]
theorem wn_scale {g : Bool} {a c : Int} : wn g (a * c) = wn g a * c := by cases g <;> simp [wn, Int.neg_mul]
/-- a finite one, held against a whole number: both in the float's own steps -/
theorem ag_low {g ng : Bool} {a b m E : Int} (fin : b % 9223372036854775808 < 9218868437227405312) (hng : ng = decide (9223372036854775808 ≤ b)) (hu : um 4503599627370496 (-1074) (-1074) (b % 9223372036854775808) = m * p2 (E - -1074).toNat) (hE : E < 0) (hLE : -1074 ≤ E) :
    besd64 (wn g a) b = (sgn (wn g (a * p2 (-E).toNat)) (wn ng m), true) := by
  show besd 9223372036854775808 4503599627370496 (-1074) 9218868437227405312 (wn g a) b = _
  unfold besd uP
  rw [if_pos fin, hu, ← hng, wn_scale, wn_scale]
  have e : p2 (-(-1074 : Int)).toNat = p2 (-E).toNat * p2 (E - -1074).toNat := by
    rw [← p2_toNat_add (by omega) (by omega), show -E + (E - -1074) = -(-1074 : Int) by omega]
  rw [e, ← Int.mul_assoc, sgn_scale (p2_pos _)]
theorem ag_high {g ng : Bool} {a b m E : Int} (fin : b % 9223372036854775808 < 9218868437227405312) (hng : ng = decide (9223372036854775808 ≤ b)) (hu : um 4503599627370496 (-1074) (-1074) (b % 9223372036854775808) = m * p2 (E - -1074).toNat) (hE : E < 0) (hLE : -1074 ≤ E) (m0 : 0 ≤ m) (m1 : m < 18446744073709551616) (ha : 18446744073709551616 ≤ a) :
    besd64 (wn g a) b = (sgn (wn g a) 0, true) := by
  rw [ag_low fin hng hu hE hLE]
  have hp := p2_pos (-E).toNat
  have h1 : a ≤ a * p2 (-E).toNat := by
    have := Int.mul_le_mul_of_nonneg_left (show (1 : Int) ≤ p2 (-E).toNat by omega) (show 0 ≤ a by omega)
    rwa [Int.mul_one] at this
  generalize a * p2 (-E).toNat = q at *
  have : sgn (wn g q) (wn ng m) = sgn (wn g a) 0 := by
    cases g <;> cases ng <;> simp only [wn, if_true, Bool.false_eq_true, if_false]
    · rw [sgn_gt (by omega), sgn_gt (by omega)]
    · rw [sgn_gt (by omega), sgn_gt (by omega)]
    · rw [sgn_lt (by omega), sgn_lt (by omega)]
    · rw [sgn_lt (by omega), sgn_lt (by omega)]
  rw [this]

set_option maxHeartbeats 8000000 in
set_option maxRecDepth 20000 in
theorem rag_any {w : World} {g : Bool} {m : Value} {a b : Int} {k : Nat} (hm : Arg w m a k) (hk : k ≤ 1048577) (hb : FOk b) (hn : b ≠ 9221120237041090560) : Calls Tryz.prog 42 #[.agg #[.bool g, m], .int .u64 b] w fun e' w' => e' = .returned (.int .i64 (besd64 (wn g a) b).1) ∧ (besd64 (wn g a) b).2 = true ∧ Below w.heap.size w w' := by
  have HM := hide hm
  obtain ⟨b0, b1, bn, hb⟩ := hb
  have HB := hide hb
  obtain ⟨zs, ⟨ao, cap, rfl, -⟩, -⟩ := hm
  generalize zs.length = ml at *
  clear hb
  go_enter Tryz.func42, Tryz.ntmps42
  go_wp2_with fail
  have K1 := bel_new w (.cells #[.bool g, .slice ao ml cap] 28)
  have C1 := cell2_new w (.bool g) (.slice ao ml cap) 28
  with_reducible refine (rParts_d _ b (b % 9223372036854775808) (decide (9223372036854775808 ≤ b)) b0 b1 rfl rfl).mono ?_
  rintro e w2 ⟨a2, m2, E, ok, rfl, hP, K2⟩
  replace C1 := C1.below K2
  have KK := hide (below_trans K1 K2)
  clear K1 K2
  by_cases fin : b % 9223372036854775808 < 9218868437227405312
  · obtain ⟨rfl, rfl, -, -⟩ := hP.2 fin
    have hfr : ∃ n, IntIs 4503599627370496 (-1074) 9218868437227405312 (b % 9223372036854775808) (decide (9223372036854775808 ≤ b)) n false := by
      rcases HB.out with rfl | h | ⟨-, h⟩
      · exact absurd fin (by decide)
      · omega
      · exact h
    obtain ⟨n0, hn0⟩ := hfr
    obtain ⟨sp, m3, E3, hP3, hE, hLE, mo, mp, hu⟩ := frac_u (by decide) (by decide) (Int.emod_nonneg _ (by decide)) fin hn0
    obtain ⟨-, rfl, rfl, -⟩ := hP.unique (Int.emod_nonneg _ (by decide)) hP3
    obtain ⟨m0, m1, -, -⟩ := part_bounds (F := 4503599627370496) (L := (-1074)) (S := 9223372036854775808) (by decide) (by decide) (by decide) (Int.emod_nonneg _ (by decide)) (Int.emod_lt_of_pos _ (by decide)) (by unfold est; split <;> omega) (by decide) hP
    obtain ⟨kl, hkl, hkl2⟩ := len_of HM.out
    have HLOW := hide (ag_low (g := g) (a := a) fin rfl hu hE hLE)
    have HHIGH := hide (fun ha => ag_high (g := g) (a := a) fin rfl hu hE hLE (by omega) (by omega) ha)
    generalize decide (9223372036854775808 ≤ b) = ng at *
    clear hP hn0 hP3 hu sp HB fin
    have HKL := hide hkl
    have hm64 : m2 < 18446744073709551616 := by omega
    clear m1 hkl
    have HMM := hide (HM.out.below KK.out)
    obtain ⟨d0, d1⟩ := And.intro C1.c0 C1.c1
    go_wp2_with fail
    with_reducible refine (rlen_any HMM.out (by omega) HKL.out).mono ?_
    rintro e w3 ⟨rfl, K3⟩
    have KZ := hide (below_trans KK.out K3)
    replace C1 := C1.below K3
    clear K3 HMM d0 d1
    obtain ⟨d0, d1⟩ := And.intro C1.c0 C1.c1
    by_cases big : 64 < kl
    · have hbig : (64 : Int) < (kl : Int) := by omega
      have ha : 18446744073709551616 ≤ a := by
        have h1 := HKL.out.2 (by omega)
        have h2 := p2_mono (m := 64) (n := kl - 1) (by omega)
        rw [show p2 64 = 18446744073709551616 by decide] at h2
        omega
      have HBS := hide (HHIGH.out ha)
      clear ha HHIGH HLOW HKL
      have hA1 : WArg w3 (.agg #[.bool g, .slice ao ml cap]) (wn g a) k := ⟨g, _, a, rfl, HM.out.below KZ.out, rfl⟩
      have hA2 : WArg w3 (.agg #[.bool false, .slice none 0 0]) 0 0 := ⟨false, _, 0, rfl, (ag_zero 0 w3 0).arg, rfl⟩
      go_wp2_with fail
      with_reducible refine (r3cmp_any hA1 (by omega) hA2 (by decide)).mono ?_
      rintro e w5 ⟨rfl, K5⟩
      have KX := hide (below_trans KZ.out K5)
      clear K5 hA1 hA2
      go_wp2
      go_ret
      exact ⟨by rw [HBS.out]; rfl, by rw [HBS.out], KX.out⟩
    · have hbig : ¬ (64 : Int) < (kl : Int) := by omega
      have hlt : a < p2 64 := by
        have h1 := HKL.out.1
        have h2 := p2_mono (m := kl) (n := 64) (by omega)
        omega
      have HLT := hide hlt
      clear hlt HHIGH HKL
      have HMM := hide (HM.out.below KZ.out)
      go_wp2_with fail
      with_reducible refine (ag_shl (n := -E) (M := 64) HMM.out (by omega) HLT.out (by decide) (by omega) (by omega)).mono ?_
      rintro e w4 ⟨vq, rfl, hQ, K4⟩
      have KY := hide (below_trans KZ.out K4)
      replace C1 := C1.below K4
      clear K4 HMM d0 d1 HLT
      have HQ := hide hQ
      obtain ⟨zq, ⟨qo, rfl, -⟩, -⟩ := hQ
      generalize zq.length = ql at *
      have HC1 := hide C1
      have H3 := hide (fun (W : World) (hW : Below w4.heap.size w4 W) (vm : Value) (hv : Arg W vm m2 2) => r3cmp_any (show WArg W (.agg #[.bool g, .slice qo ql ql]) (wn g (a * p2 (-E).toNat)) (k + 2000) from ⟨g, _, _, rfl, HQ.out.arg.below hW, rfl⟩) (by omega) (show WArg W (.agg #[.bool ng, vm]) (wn ng m2) 2 from ⟨ng, _, _, rfl, hv, rfl⟩) (by decide))
      have HBS := hide HLOW.out
      generalize sgn (wn g (a * p2 (-E).toNat)) (wn ng m2) = sg at *
      have HM0 := hide m0
      have HM1 := hide hm64
      clear HLOW HQ C1 m0 hm64 big
      go_upto_region 9 with fail
      have CC : ∀ u : World, Below w4.heap.size w4 u → u.cell? ⟨w.heap.size, 0, none⟩ = some (.bool g) := fun u hu => (HC1.out.below hu).c0
      have K : Below w4.heap.size w4 w4.drew := (Below.refl _ _).drew
      go_region_held3 (fun u => u.cell? ⟨w.heap.size, 0, none⟩ = some (.bool g)) (first | with_reducible exact CC _ K)
        (first
          | (go_at_call 124; (with_reducible refine (rfrom_any m2 HM0.out HM1.out).mono ?_); rintro x w5 ⟨vm, rfl, hV, hb2⟩; obtain ⟨vo, vl, rfl⟩ := num_told hV; replace K := K.trans (hb2.mono K.size))
          | (go_at_call 40; (with_reducible refine (H3.out _ K _ hV.arg).mono ?_); rintro x w6 ⟨rfl, hb3⟩; replace K := K.trans (hb3.mono K.size)))
      have KX := hide (below_trans KY.out K)
      clear CC K
      go_wp2
      go_ret
      exact ⟨by rw [HBS.out]; rfl, by rw [HBS.out], KX.out⟩
  · obtain ⟨rfl, rfl, rfl, rfl⟩ := hP.1 (by omega)
    have hinf : b % 9223372036854775808 = 9218868437227405312 := by
      rcases HB.out with h | h | ⟨h, -⟩
      · exact absurd h hn
      · exact h
      · exact absurd h fin
    have HBS := hide (ag_inf b0 b1 hinf (wn g a))
    clear hP HB fin hinf
    go_wp2_with fail
    with_reducible refine (rNeg_d _ b).mono ?_
    rintro e w3 ⟨rfl, rfl⟩
    by_cases c : 9223372036854775808 ≤ b
    · have HS := hide (decide_eq_true c)
      rw [if_pos c] at HBS
      rw [HS.out]
      clear c HS
      go_wp2
      go_ret
      exact ⟨by rw [HBS.out]; rfl, by rw [HBS.out], KK.out⟩
    · have HS := hide (decide_eq_false c)
      rw [if_neg c] at HBS
      rw [HS.out]
      clear c HS
      go_wp2
      go_ret
      exact ⟨by rw [HBS.out]; rfl, by rw [HBS.out], KK.out⟩

end Go.Proofs.YtjigofmcflmelaaGreatDoor

namespace Go.Proofs.YtjigofmcflmelaaGreatDoor
open Go.RowKit
set_option linter.unusedVariables false
set_option linter.unusedSimpArgs false

theorem IsA.at {w u : World} {v : Value} {q : Bool} (h : IsA w v q) (hu : Below w.heap.size w u) : Calls Tryz.prog 31 #[v] u fun e w' => e = .returned (.bool q) ∧ Below u.heap.size u w' := h u hu
theorem besd_range (n b : Int) : -1 ≤ (besd64 n b).1 ∧ (besd64 n b).1 ≤ 1 := by
  have hsg : ∀ x y : Int, -1 ≤ sgn x y ∧ sgn x y ≤ 1 := fun x y => by unfold sgn; split <;> (try split) <;> omega
  show -1 ≤ (besd 9223372036854775808 4503599627370496 (-1074) 9218868437227405312 n b).1 ∧ (besd 9223372036854775808 4503599627370496 (-1074) 9218868437227405312 n b).1 ≤ 1
  unfold besd
  split
  · exact hsg _ _
  · unfold cmpC
    split
    · split
      · omega
      · exact hsg _ _
    · omega

set_option maxHeartbeats 8000000 in
set_option maxRecDepth 20000 in
theorem rcmp_nl {w : World} {k1 n1 b1 e1 : Int} {g1 : Bool} {s1 : ByteArray} {mo1 ko1 : Option Addr} {ml1 mc1 kl1 kc1 : Nat} {k2 n2 b2 e2 : Int} {g2 : Bool} {s2 : ByteArray} {mo2 ko2 : Option Addr} {ml2 mc2 kl2 kc2 : Nat} (A1 : IsA w (.agg #[.int .i8 k1, .int .u64 n1, .bool g1, .slice mo1 ml1 mc1, .int .u64 b1, .int .i8 e1, .string s1, .slice ko1 kl1 kc1]) false) : Calls Tryz.prog 15 #[.agg #[.int .i8 k1, .int .u64 n1, .bool g1, .slice mo1 ml1 mc1, .int .u64 b1, .int .i8 e1, .string s1, .slice ko1 kl1 kc1], .agg #[.int .i8 k2, .int .u64 n2, .bool g2, .slice mo2 ml2 mc2, .int .u64 b2, .int .i8 e2, .string s2, .slice ko2 kl2 kc2]] w fun e' w' => e' = .returned (.tuple #[.int .i64 0, .bool false]) ∧ Below w.heap.size w w' := by
  have HA1 := hide A1
  clear A1
  go_enter Tryz.func15, Tryz.ntmps15
  go_wp2_with fail
  have B1 := bx8_new w (.int .i8 k1) (.int .u64 n1) (.bool g1) (.slice mo1 ml1 mc1) (.int .u64 b1) (.int .i8 e1) (.string s1) (.slice ko1 kl1 kc1) 31
  have K1 := bel_new w (.cells #[.int .i8 k1, .int .u64 n1, .bool g1, .slice mo1 ml1 mc1, .int .u64 b1, .int .i8 e1, .string s1, .slice ko1 kl1 kc1] 31)
  have hz1 : w.heap.size + 1 = (w.alloc (.cells #[.int .i8 k1, .int .u64 n1, .bool g1, .slice mo1 ml1 mc1, .int .u64 b1, .int .i8 e1, .string s1, .slice ko1 kl1 kc1] 31)).heap.size := by simp
  generalize w.alloc (.cells #[.int .i8 k1, .int .u64 n1, .bool g1, .slice mo1 ml1 mc1, .int .u64 b1, .int .i8 e1, .string s1, .slice ko1 kl1 kc1] 31) = w1 at *
  have B2 := bx8_new w1 (.int .i8 k2) (.int .u64 n2) (.bool g2) (.slice mo2 ml2 mc2) (.int .u64 b2) (.int .i8 e2) (.string s2) (.slice ko2 kl2 kc2) 31
  have K2 := bel_new w1 (.cells #[.int .i8 k2, .int .u64 n2, .bool g2, .slice mo2 ml2 mc2, .int .u64 b2, .int .i8 e2, .string s2, .slice ko2 kl2 kc2] 31)
  have B1' := B1.below K2 B1.lt
  rw [← hz1] at B2
  have HK := hide (below_trans K1 K2)
  generalize w1.alloc (.cells #[.int .i8 k2, .int .u64 n2, .bool g2, .slice mo2 ml2 mc2, .int .u64 b2, .int .i8 e2, .string s2, .slice ko2 kl2 kc2] 31) = W at *
  have HB1 := hide B1'
  have HB2 := hide B2
  clear B1 B2 K1 K2 hz1 B1'
  with_reducible refine (rNaN_d _).mono ?_
  rintro e9 wz ⟨rfl, hb⟩
  replace HK := hide (below_trans HK.out hb)
  replace HB1 := hide (HB1.out.below hb HB1.out.lt)
  replace HB2 := hide (HB2.out.below hb HB2.out.lt)
  clear hb
  obtain ⟨x0, x1, x2, x3, x4, x5, x6, x7⟩ := HB1.out
  obtain ⟨y0, y1, y2, y3, y4, y5, y6, y7⟩ := HB2.out
  go_wp2_with fail
  with_reducible refine (HA1.out.at HK.out).mono ?_
  rintro e9 wz ⟨rfl, hb⟩
  clear x0 x1 x2 x3 x4 x5 x6 x7 y0 y1 y2 y3 y4 y5 y6 y7
  replace HK := hide (below_trans HK.out hb)
  replace HB1 := hide (HB1.out.below hb HB1.out.lt)
  replace HB2 := hide (HB2.out.below hb HB2.out.lt)
  clear hb
  obtain ⟨x0, x1, x2, x3, x4, x5, x6, x7⟩ := HB1.out
  obtain ⟨y0, y1, y2, y3, y4, y5, y6, y7⟩ := HB2.out
  go_wp2
  go_ret2
  exact ⟨rfl, HK.out⟩

set_option maxHeartbeats 8000000 in
set_option maxRecDepth 20000 in
theorem rcmp_nr {w : World} {k1 n1 b1 e1 : Int} {g1 : Bool} {s1 : ByteArray} {mo1 ko1 : Option Addr} {ml1 mc1 kl1 kc1 : Nat} {k2 n2 b2 e2 : Int} {g2 : Bool} {s2 : ByteArray} {mo2 ko2 : Option Addr} {ml2 mc2 kl2 kc2 : Nat} (A1 : IsA w (.agg #[.int .i8 k1, .int .u64 n1, .bool g1, .slice mo1 ml1 mc1, .int .u64 b1, .int .i8 e1, .string s1, .slice ko1 kl1 kc1]) true) (A2 : IsA w (.agg #[.int .i8 k2, .int .u64 n2, .bool g2, .slice mo2 ml2 mc2, .int .u64 b2, .int .i8 e2, .string s2, .slice ko2 kl2 kc2]) false) : Calls Tryz.prog 15 #[.agg #[.int .i8 k1, .int .u64 n1, .bool g1, .slice mo1 ml1 mc1, .int .u64 b1, .int .i8 e1, .string s1, .slice ko1 kl1 kc1], .agg #[.int .i8 k2, .int .u64 n2, .bool g2, .slice mo2 ml2 mc2, .int .u64 b2, .int .i8 e2, .string s2, .slice ko2 kl2 kc2]] w fun e' w' => e' = .returned (.tuple #[.int .i64 0, .bool false]) ∧ Below w.heap.size w w' := by
  have HA1 := hide A1
  have HA2 := hide A2
  clear A1 A2
  go_enter Tryz.func15, Tryz.ntmps15
  go_wp2_with fail
  have B1 := bx8_new w (.int .i8 k1) (.int .u64 n1) (.bool g1) (.slice mo1 ml1 mc1) (.int .u64 b1) (.int .i8 e1) (.string s1) (.slice ko1 kl1 kc1) 31
  have K1 := bel_new w (.cells #[.int .i8 k1, .int .u64 n1, .bool g1, .slice mo1 ml1 mc1, .int .u64 b1, .int .i8 e1, .string s1, .slice ko1 kl1 kc1] 31)
  have hz1 : w.heap.size + 1 = (w.alloc (.cells #[.int .i8 k1, .int .u64 n1, .bool g1, .slice mo1 ml1 mc1, .int .u64 b1, .int .i8 e1, .string s1, .slice ko1 kl1 kc1] 31)).heap.size := by simp
  generalize w.alloc (.cells #[.int .i8 k1, .int .u64 n1, .bool g1, .slice mo1 ml1 mc1, .int .u64 b1, .int .i8 e1, .string s1, .slice ko1 kl1 kc1] 31) = w1 at *
  have B2 := bx8_new w1 (.int .i8 k2) (.int .u64 n2) (.bool g2) (.slice mo2 ml2 mc2) (.int .u64 b2) (.int .i8 e2) (.string s2) (.slice ko2 kl2 kc2) 31
  have K2 := bel_new w1 (.cells #[.int .i8 k2, .int .u64 n2, .bool g2, .slice mo2 ml2 mc2, .int .u64 b2, .int .i8 e2, .string s2, .slice ko2 kl2 kc2] 31)
  have B1' := B1.below K2 B1.lt
  rw [← hz1] at B2
  have HK := hide (below_trans K1 K2)
  generalize w1.alloc (.cells #[.int .i8 k2, .int .u64 n2, .bool g2, .slice mo2 ml2 mc2, .int .u64 b2, .int .i8 e2, .string s2, .slice ko2 kl2 kc2] 31) = W at *
  have HB1 := hide B1'
  have HB2 := hide B2
  clear B1 B2 K1 K2 hz1 B1'
  with_reducible refine (rNaN_d _).mono ?_
  rintro e9 wz ⟨rfl, hb⟩
  replace HK := hide (below_trans HK.out hb)
  replace HB1 := hide (HB1.out.below hb HB1.out.lt)
  replace HB2 := hide (HB2.out.below hb HB2.out.lt)
  clear hb
  obtain ⟨x0, x1, x2, x3, x4, x5, x6, x7⟩ := HB1.out
  obtain ⟨y0, y1, y2, y3, y4, y5, y6, y7⟩ := HB2.out
  go_wp2_with fail
  with_reducible refine (HA1.out.at HK.out).mono ?_
  rintro e9 wz ⟨rfl, hb⟩
  clear x0 x1 x2 x3 x4 x5 x6 x7 y0 y1 y2 y3 y4 y5 y6 y7
  replace HK := hide (below_trans HK.out hb)
  replace HB1 := hide (HB1.out.below hb HB1.out.lt)
  replace HB2 := hide (HB2.out.below hb HB2.out.lt)
  clear hb
  obtain ⟨x0, x1, x2, x3, x4, x5, x6, x7⟩ := HB1.out
  obtain ⟨y0, y1, y2, y3, y4, y5, y6, y7⟩ := HB2.out
  go_wp2_with fail
  with_reducible refine (HA2.out.at HK.out).mono ?_
  rintro e9 wz ⟨rfl, hb⟩
  clear x0 x1 x2 x3 x4 x5 x6 x7 y0 y1 y2 y3 y4 y5 y6 y7
  replace HK := hide (below_trans HK.out hb)
  replace HB1 := hide (HB1.out.below hb HB1.out.lt)
  replace HB2 := hide (HB2.out.below hb HB2.out.lt)
  clear hb
  obtain ⟨x0, x1, x2, x3, x4, x5, x6, x7⟩ := HB1.out
  obtain ⟨y0, y1, y2, y3, y4, y5, y6, y7⟩ := HB2.out
  go_wp2
  go_ret2
  exact ⟨rfl, HK.out⟩

set_option maxHeartbeats 8000000 in
set_option maxRecDepth 20000 in
theorem rcmp_ww {w : World} {g1 : Bool} {mo1 ko1 : Option Addr} {ml1 mc1 kc1 : Nat} {g2 : Bool} {mo2 ko2 : Option Addr} {ml2 mc2 kc2 : Nat} {m1 m2 : Int} {q1 q2 : Nat} (A1 : IsA w (.agg #[.int .i8 3, .int .u64 0, .bool g1, .slice mo1 ml1 mc1, .int .u64 0, .int .i8 0, .string ⟨#[]⟩, .slice ko1 0 kc1]) true) (A2 : IsA w (.agg #[.int .i8 3, .int .u64 0, .bool g2, .slice mo2 ml2 mc2, .int .u64 0, .int .i8 0, .string ⟨#[]⟩, .slice ko2 0 kc2]) true) (W1 : ∀ W, Below w.heap.size w W → WArg W (.agg #[.bool g1, .slice mo1 ml1 mc1]) m1 q1) (j1 : q1 ≤ 1048577) (W2 : ∀ W, Below w.heap.size w W → WArg W (.agg #[.bool g2, .slice mo2 ml2 mc2]) m2 q2) (j2 : q2 ≤ 1048577) : Calls Tryz.prog 15 #[.agg #[.int .i8 3, .int .u64 0, .bool g1, .slice mo1 ml1 mc1, .int .u64 0, .int .i8 0, .string ⟨#[]⟩, .slice ko1 0 kc1], .agg #[.int .i8 3, .int .u64 0, .bool g2, .slice mo2 ml2 mc2, .int .u64 0, .int .i8 0, .string ⟨#[]⟩, .slice ko2 0 kc2]] w fun e' w' => e' = .returned (.tuple #[.int .i64 (sgn m1 m2), .bool true]) ∧ Below w.heap.size w w' := by
  have HA1 := hide A1
  have HA2 := hide A2
  clear A1 A2
  have HW1 := hide W1
  have HW2 := hide W2
  clear W1 W2
  go_enter Tryz.func15, Tryz.ntmps15
  go_wp2_with fail
  have B1 := bx8_new w (.int .i8 3) (.int .u64 0) (.bool g1) (.slice mo1 ml1 mc1) (.int .u64 0) (.int .i8 0) (.string ⟨#[]⟩) (.slice ko1 0 kc1) 31
  have K1 := bel_new w (.cells #[.int .i8 3, .int .u64 0, .bool g1, .slice mo1 ml1 mc1, .int .u64 0, .int .i8 0, .string ⟨#[]⟩, .slice ko1 0 kc1] 31)
  have hz1 : w.heap.size + 1 = (w.alloc (.cells #[.int .i8 3, .int .u64 0, .bool g1, .slice mo1 ml1 mc1, .int .u64 0, .int .i8 0, .string ⟨#[]⟩, .slice ko1 0 kc1] 31)).heap.size := by simp
  generalize w.alloc (.cells #[.int .i8 3, .int .u64 0, .bool g1, .slice mo1 ml1 mc1, .int .u64 0, .int .i8 0, .string ⟨#[]⟩, .slice ko1 0 kc1] 31) = w1 at *
  have B2 := bx8_new w1 (.int .i8 3) (.int .u64 0) (.bool g2) (.slice mo2 ml2 mc2) (.int .u64 0) (.int .i8 0) (.string ⟨#[]⟩) (.slice ko2 0 kc2) 31
  have K2 := bel_new w1 (.cells #[.int .i8 3, .int .u64 0, .bool g2, .slice mo2 ml2 mc2, .int .u64 0, .int .i8 0, .string ⟨#[]⟩, .slice ko2 0 kc2] 31)
  have B1' := B1.below K2 B1.lt
  rw [← hz1] at B2
  have HK := hide (below_trans K1 K2)
  generalize w1.alloc (.cells #[.int .i8 3, .int .u64 0, .bool g2, .slice mo2 ml2 mc2, .int .u64 0, .int .i8 0, .string ⟨#[]⟩, .slice ko2 0 kc2] 31) = W at *
  have HB1 := hide B1'
  have HB2 := hide B2
  clear B1 B2 K1 K2 hz1 B1'
  with_reducible refine (rNaN_d _).mono ?_
  rintro e9 wz ⟨rfl, hb⟩
  replace HK := hide (below_trans HK.out hb)
  replace HB1 := hide (HB1.out.below hb HB1.out.lt)
  replace HB2 := hide (HB2.out.below hb HB2.out.lt)
  clear hb
  obtain ⟨x0, x1, x2, x3, x4, x5, x6, x7⟩ := HB1.out
  obtain ⟨y0, y1, y2, y3, y4, y5, y6, y7⟩ := HB2.out
  go_wp2_with fail
  with_reducible refine (HA1.out.at HK.out).mono ?_
  rintro e9 wz ⟨rfl, hb⟩
  clear x0 x1 x2 x3 x4 x5 x6 x7 y0 y1 y2 y3 y4 y5 y6 y7
  replace HK := hide (below_trans HK.out hb)
  replace HB1 := hide (HB1.out.below hb HB1.out.lt)
  replace HB2 := hide (HB2.out.below hb HB2.out.lt)
  clear hb
  obtain ⟨x0, x1, x2, x3, x4, x5, x6, x7⟩ := HB1.out
  obtain ⟨y0, y1, y2, y3, y4, y5, y6, y7⟩ := HB2.out
  go_wp2_with fail
  with_reducible refine (HA2.out.at HK.out).mono ?_
  rintro e9 wz ⟨rfl, hb⟩
  clear x0 x1 x2 x3 x4 x5 x6 x7 y0 y1 y2 y3 y4 y5 y6 y7
  replace HK := hide (below_trans HK.out hb)
  replace HB1 := hide (HB1.out.below hb HB1.out.lt)
  replace HB2 := hide (HB2.out.below hb HB2.out.lt)
  clear hb
  obtain ⟨x0, x1, x2, x3, x4, x5, x6, x7⟩ := HB1.out
  obtain ⟨y0, y1, y2, y3, y4, y5, y6, y7⟩ := HB2.out
  go_wp2_with fail
  with_reducible refine (r3cmp_any (HW1.out _ HK.out) (by omega) (HW2.out _ HK.out) (by omega)).mono ?_
  rintro e9 wz ⟨rfl, hb⟩
  clear x0 x1 x2 x3 x4 x5 x6 x7 y0 y1 y2 y3 y4 y5 y6 y7
  replace HK := hide (below_trans HK.out hb)
  replace HB1 := hide (HB1.out.below hb HB1.out.lt)
  replace HB2 := hide (HB2.out.below hb HB2.out.lt)
  clear hb
  obtain ⟨x0, x1, x2, x3, x4, x5, x6, x7⟩ := HB1.out
  obtain ⟨y0, y1, y2, y3, y4, y5, y6, y7⟩ := HB2.out
  go_wp2
  go_ret2
  exact ⟨rfl, HK.out⟩

set_option maxHeartbeats 8000000 in
set_option maxRecDepth 20000 in
theorem rcmp_nanl_f {w : World} {mo1 ko1 : Option Addr} {mc1 kc1 : Nat} {b2 : Int} {mo2 ko2 : Option Addr} {mc2 kc2 : Nat} (A1 : IsA w (.agg #[.int .i8 4, .int .u64 0, .bool false, .slice mo1 0 mc1, .int .u64 9221120237041090560, .int .i8 0, .string ⟨#[]⟩, .slice ko1 0 kc1]) true) (A2 : IsA w (.agg #[.int .i8 4, .int .u64 0, .bool false, .slice mo2 0 mc2, .int .u64 b2, .int .i8 0, .string ⟨#[]⟩, .slice ko2 0 kc2]) true) : Calls Tryz.prog 15 #[.agg #[.int .i8 4, .int .u64 0, .bool false, .slice mo1 0 mc1, .int .u64 9221120237041090560, .int .i8 0, .string ⟨#[]⟩, .slice ko1 0 kc1], .agg #[.int .i8 4, .int .u64 0, .bool false, .slice mo2 0 mc2, .int .u64 b2, .int .i8 0, .string ⟨#[]⟩, .slice ko2 0 kc2]] w fun e' w' => e' = .returned (.tuple #[.int .i64 0, .bool false]) ∧ Below w.heap.size w w' := by
  have HA1 := hide A1
  have HA2 := hide A2
  clear A1 A2
  go_enter Tryz.func15, Tryz.ntmps15
  go_wp2_with fail
  have B1 := bx8_new w (.int .i8 4) (.int .u64 0) (.bool false) (.slice mo1 0 mc1) (.int .u64 9221120237041090560) (.int .i8 0) (.string ⟨#[]⟩) (.slice ko1 0 kc1) 31
  have K1 := bel_new w (.cells #[.int .i8 4, .int .u64 0, .bool false, .slice mo1 0 mc1, .int .u64 9221120237041090560, .int .i8 0, .string ⟨#[]⟩, .slice ko1 0 kc1] 31)
  have hz1 : w.heap.size + 1 = (w.alloc (.cells #[.int .i8 4, .int .u64 0, .bool false, .slice mo1 0 mc1, .int .u64 9221120237041090560, .int .i8 0, .string ⟨#[]⟩, .slice ko1 0 kc1] 31)).heap.size := by simp
  generalize w.alloc (.cells #[.int .i8 4, .int .u64 0, .bool false, .slice mo1 0 mc1, .int .u64 9221120237041090560, .int .i8 0, .string ⟨#[]⟩, .slice ko1 0 kc1] 31) = w1 at *
  have B2 := bx8_new w1 (.int .i8 4) (.int .u64 0) (.bool false) (.slice mo2 0 mc2) (.int .u64 b2) (.int .i8 0) (.string ⟨#[]⟩) (.slice ko2 0 kc2) 31
  have K2 := bel_new w1 (.cells #[.int .i8 4, .int .u64 0, .bool false, .slice mo2 0 mc2, .int .u64 b2, .int .i8 0, .string ⟨#[]⟩, .slice ko2 0 kc2] 31)
  have B1' := B1.below K2 B1.lt
  rw [← hz1] at B2
  have HK := hide (below_trans K1 K2)
  generalize w1.alloc (.cells #[.int .i8 4, .int .u64 0, .bool false, .slice mo2 0 mc2, .int .u64 b2, .int .i8 0, .string ⟨#[]⟩, .slice ko2 0 kc2] 31) = W at *
  have HB1 := hide B1'
  have HB2 := hide B2
  clear B1 B2 K1 K2 hz1 B1'
  with_reducible refine (rNaN_d _).mono ?_
  rintro e9 wz ⟨rfl, hb⟩
  replace HK := hide (below_trans HK.out hb)
  replace HB1 := hide (HB1.out.below hb HB1.out.lt)
  replace HB2 := hide (HB2.out.below hb HB2.out.lt)
  clear hb
  obtain ⟨x0, x1, x2, x3, x4, x5, x6, x7⟩ := HB1.out
  obtain ⟨y0, y1, y2, y3, y4, y5, y6, y7⟩ := HB2.out
  go_wp2_with fail
  with_reducible refine (HA1.out.at HK.out).mono ?_
  rintro e9 wz ⟨rfl, hb⟩
  clear x0 x1 x2 x3 x4 x5 x6 x7 y0 y1 y2 y3 y4 y5 y6 y7
  replace HK := hide (below_trans HK.out hb)
  replace HB1 := hide (HB1.out.below hb HB1.out.lt)
  replace HB2 := hide (HB2.out.below hb HB2.out.lt)
  clear hb
  obtain ⟨x0, x1, x2, x3, x4, x5, x6, x7⟩ := HB1.out
  obtain ⟨y0, y1, y2, y3, y4, y5, y6, y7⟩ := HB2.out
  go_wp2_with fail
  with_reducible refine (HA2.out.at HK.out).mono ?_
  rintro e9 wz ⟨rfl, hb⟩
  clear x0 x1 x2 x3 x4 x5 x6 x7 y0 y1 y2 y3 y4 y5 y6 y7
  replace HK := hide (below_trans HK.out hb)
  replace HB1 := hide (HB1.out.below hb HB1.out.lt)
  replace HB2 := hide (HB2.out.below hb HB2.out.lt)
  clear hb
  obtain ⟨x0, x1, x2, x3, x4, x5, x6, x7⟩ := HB1.out
  obtain ⟨y0, y1, y2, y3, y4, y5, y6, y7⟩ := HB2.out
  go_wp2
  go_ret2
  exact ⟨rfl, HK.out⟩

set_option maxHeartbeats 8000000 in
set_option maxRecDepth 20000 in
theorem rcmp_nanl_w {w : World} {mo1 ko1 : Option Addr} {mc1 kc1 : Nat} {g2 : Bool} {mo2 ko2 : Option Addr} {ml2 mc2 kc2 : Nat} (A1 : IsA w (.agg #[.int .i8 4, .int .u64 0, .bool false, .slice mo1 0 mc1, .int .u64 9221120237041090560, .int .i8 0, .string ⟨#[]⟩, .slice ko1 0 kc1]) true) (A2 : IsA w (.agg #[.int .i8 3, .int .u64 0, .bool g2, .slice mo2 ml2 mc2, .int .u64 0, .int .i8 0, .string ⟨#[]⟩, .slice ko2 0 kc2]) true) : Calls Tryz.prog 15 #[.agg #[.int .i8 4, .int .u64 0, .bool false, .slice mo1 0 mc1, .int .u64 9221120237041090560, .int .i8 0, .string ⟨#[]⟩, .slice ko1 0 kc1], .agg #[.int .i8 3, .int .u64 0, .bool g2, .slice mo2 ml2 mc2, .int .u64 0, .int .i8 0, .string ⟨#[]⟩, .slice ko2 0 kc2]] w fun e' w' => e' = .returned (.tuple #[.int .i64 0, .bool false]) ∧ Below w.heap.size w w' := by
  have HA1 := hide A1
  have HA2 := hide A2
  clear A1 A2
  go_enter Tryz.func15, Tryz.ntmps15
  go_wp2_with fail
  have B1 := bx8_new w (.int .i8 4) (.int .u64 0) (.bool false) (.slice mo1 0 mc1) (.int .u64 9221120237041090560) (.int .i8 0) (.string ⟨#[]⟩) (.slice ko1 0 kc1) 31
  have K1 := bel_new w (.cells #[.int .i8 4, .int .u64 0, .bool false, .slice mo1 0 mc1, .int .u64 9221120237041090560, .int .i8 0, .string ⟨#[]⟩, .slice ko1 0 kc1] 31)
  have hz1 : w.heap.size + 1 = (w.alloc (.cells #[.int .i8 4, .int .u64 0, .bool false, .slice mo1 0 mc1, .int .u64 9221120237041090560, .int .i8 0, .string ⟨#[]⟩, .slice ko1 0 kc1] 31)).heap.size := by simp
  generalize w.alloc (.cells #[.int .i8 4, .int .u64 0, .bool false, .slice mo1 0 mc1, .int .u64 9221120237041090560, .int .i8 0, .string ⟨#[]⟩, .slice ko1 0 kc1] 31) = w1 at *
  have B2 := bx8_new w1 (.int .i8 3) (.int .u64 0) (.bool g2) (.slice mo2 ml2 mc2) (.int .u64 0) (.int .i8 0) (.string ⟨#[]⟩) (.slice ko2 0 kc2) 31
  have K2 := bel_new w1 (.cells #[.int .i8 3, .int .u64 0, .bool g2, .slice mo2 ml2 mc2, .int .u64 0, .int .i8 0, .string ⟨#[]⟩, .slice ko2 0 kc2] 31)
  have B1' := B1.below K2 B1.lt
  rw [← hz1] at B2
  have HK := hide (below_trans K1 K2)
  generalize w1.alloc (.cells #[.int .i8 3, .int .u64 0, .bool g2, .slice mo2 ml2 mc2, .int .u64 0, .int .i8 0, .string ⟨#[]⟩, .slice ko2 0 kc2] 31) = W at *
  have HB1 := hide B1'
  have HB2 := hide B2
  clear B1 B2 K1 K2 hz1 B1'
  with_reducible refine (rNaN_d _).mono ?_
  rintro e9 wz ⟨rfl, hb⟩
  replace HK := hide (below_trans HK.out hb)
  replace HB1 := hide (HB1.out.below hb HB1.out.lt)
  replace HB2 := hide (HB2.out.below hb HB2.out.lt)
  clear hb
  obtain ⟨x0, x1, x2, x3, x4, x5, x6, x7⟩ := HB1.out
  obtain ⟨y0, y1, y2, y3, y4, y5, y6, y7⟩ := HB2.out
  go_wp2_with fail
  with_reducible refine (HA1.out.at HK.out).mono ?_
  rintro e9 wz ⟨rfl, hb⟩
  clear x0 x1 x2 x3 x4 x5 x6 x7 y0 y1 y2 y3 y4 y5 y6 y7
  replace HK := hide (below_trans HK.out hb)
  replace HB1 := hide (HB1.out.below hb HB1.out.lt)
  replace HB2 := hide (HB2.out.below hb HB2.out.lt)
  clear hb
  obtain ⟨x0, x1, x2, x3, x4, x5, x6, x7⟩ := HB1.out
  obtain ⟨y0, y1, y2, y3, y4, y5, y6, y7⟩ := HB2.out
  go_wp2_with fail
  with_reducible refine (HA2.out.at HK.out).mono ?_
  rintro e9 wz ⟨rfl, hb⟩
  clear x0 x1 x2 x3 x4 x5 x6 x7 y0 y1 y2 y3 y4 y5 y6 y7
  replace HK := hide (below_trans HK.out hb)
  replace HB1 := hide (HB1.out.below hb HB1.out.lt)
  replace HB2 := hide (HB2.out.below hb HB2.out.lt)
  clear hb
  obtain ⟨x0, x1, x2, x3, x4, x5, x6, x7⟩ := HB1.out
  obtain ⟨y0, y1, y2, y3, y4, y5, y6, y7⟩ := HB2.out
  go_wp2
  go_ret2
  exact ⟨rfl, HK.out⟩

set_option maxHeartbeats 8000000 in
set_option maxRecDepth 20000 in
theorem rcmp_nanr_w {w : World} {g1 : Bool} {mo1 ko1 : Option Addr} {ml1 mc1 kc1 : Nat} {mo2 ko2 : Option Addr} {mc2 kc2 : Nat} (A1 : IsA w (.agg #[.int .i8 3, .int .u64 0, .bool g1, .slice mo1 ml1 mc1, .int .u64 0, .int .i8 0, .string ⟨#[]⟩, .slice ko1 0 kc1]) true) (A2 : IsA w (.agg #[.int .i8 4, .int .u64 0, .bool false, .slice mo2 0 mc2, .int .u64 9221120237041090560, .int .i8 0, .string ⟨#[]⟩, .slice ko2 0 kc2]) true) : Calls Tryz.prog 15 #[.agg #[.int .i8 3, .int .u64 0, .bool g1, .slice mo1 ml1 mc1, .int .u64 0, .int .i8 0, .string ⟨#[]⟩, .slice ko1 0 kc1], .agg #[.int .i8 4, .int .u64 0, .bool false, .slice mo2 0 mc2, .int .u64 9221120237041090560, .int .i8 0, .string ⟨#[]⟩, .slice ko2 0 kc2]] w fun e' w' => e' = .returned (.tuple #[.int .i64 0, .bool false]) ∧ Below w.heap.size w w' := by
  have HA1 := hide A1
  have HA2 := hide A2
  clear A1 A2
  go_enter Tryz.func15, Tryz.ntmps15
  go_wp2_with fail
  have B1 := bx8_new w (.int .i8 3) (.int .u64 0) (.bool g1) (.slice mo1 ml1 mc1) (.int .u64 0) (.int .i8 0) (.string ⟨#[]⟩) (.slice ko1 0 kc1) 31
  have K1 := bel_new w (.cells #[.int .i8 3, .int .u64 0, .bool g1, .slice mo1 ml1 mc1, .int .u64 0, .int .i8 0, .string ⟨#[]⟩, .slice ko1 0 kc1] 31)
  have hz1 : w.heap.size + 1 = (w.alloc (.cells #[.int .i8 3, .int .u64 0, .bool g1, .slice mo1 ml1 mc1, .int .u64 0, .int .i8 0, .string ⟨#[]⟩, .slice ko1 0 kc1] 31)).heap.size := by simp
  generalize w.alloc (.cells #[.int .i8 3, .int .u64 0, .bool g1, .slice mo1 ml1 mc1, .int .u64 0, .int .i8 0, .string ⟨#[]⟩, .slice ko1 0 kc1] 31) = w1 at *
  have B2 := bx8_new w1 (.int .i8 4) (.int .u64 0) (.bool false) (.slice mo2 0 mc2) (.int .u64 9221120237041090560) (.int .i8 0) (.string ⟨#[]⟩) (.slice ko2 0 kc2) 31
  have K2 := bel_new w1 (.cells #[.int .i8 4, .int .u64 0, .bool false, .slice mo2 0 mc2, .int .u64 9221120237041090560, .int .i8 0, .string ⟨#[]⟩, .slice ko2 0 kc2] 31)
  have B1' := B1.below K2 B1.lt
  rw [← hz1] at B2
  have HK := hide (below_trans K1 K2)
  generalize w1.alloc (.cells #[.int .i8 4, .int .u64 0, .bool false, .slice mo2 0 mc2, .int .u64 9221120237041090560, .int .i8 0, .string ⟨#[]⟩, .slice ko2 0 kc2] 31) = W at *
  have HB1 := hide B1'
  have HB2 := hide B2
  clear B1 B2 K1 K2 hz1 B1'
  with_reducible refine (rNaN_d _).mono ?_
  rintro e9 wz ⟨rfl, hb⟩
  replace HK := hide (below_trans HK.out hb)
  replace HB1 := hide (HB1.out.below hb HB1.out.lt)
  replace HB2 := hide (HB2.out.below hb HB2.out.lt)
  clear hb
  obtain ⟨x0, x1, x2, x3, x4, x5, x6, x7⟩ := HB1.out
  obtain ⟨y0, y1, y2, y3, y4, y5, y6, y7⟩ := HB2.out
  go_wp2_with fail
  with_reducible refine (HA1.out.at HK.out).mono ?_
  rintro e9 wz ⟨rfl, hb⟩
  clear x0 x1 x2 x3 x4 x5 x6 x7 y0 y1 y2 y3 y4 y5 y6 y7
  replace HK := hide (below_trans HK.out hb)
  replace HB1 := hide (HB1.out.below hb HB1.out.lt)
  replace HB2 := hide (HB2.out.below hb HB2.out.lt)
  clear hb
  obtain ⟨x0, x1, x2, x3, x4, x5, x6, x7⟩ := HB1.out
  obtain ⟨y0, y1, y2, y3, y4, y5, y6, y7⟩ := HB2.out
  go_wp2_with fail
  with_reducible refine (HA2.out.at HK.out).mono ?_
  rintro e9 wz ⟨rfl, hb⟩
  clear x0 x1 x2 x3 x4 x5 x6 x7 y0 y1 y2 y3 y4 y5 y6 y7
  replace HK := hide (below_trans HK.out hb)
  replace HB1 := hide (HB1.out.below hb HB1.out.lt)
  replace HB2 := hide (HB2.out.below hb HB2.out.lt)
  clear hb
  obtain ⟨x0, x1, x2, x3, x4, x5, x6, x7⟩ := HB1.out
  obtain ⟨y0, y1, y2, y3, y4, y5, y6, y7⟩ := HB2.out
  go_wp2
  go_ret2
  exact ⟨rfl, HK.out⟩

set_option maxHeartbeats 8000000 in
set_option maxRecDepth 20000 in
theorem rcmp_nanr_f {w : World} {b1 : Int} {mo1 ko1 : Option Addr} {mc1 kc1 : Nat} {mo2 ko2 : Option Addr} {mc2 kc2 : Nat} (A1 : IsA w (.agg #[.int .i8 4, .int .u64 0, .bool false, .slice mo1 0 mc1, .int .u64 b1, .int .i8 0, .string ⟨#[]⟩, .slice ko1 0 kc1]) true) (A2 : IsA w (.agg #[.int .i8 4, .int .u64 0, .bool false, .slice mo2 0 mc2, .int .u64 9221120237041090560, .int .i8 0, .string ⟨#[]⟩, .slice ko2 0 kc2]) true) (h1 : b1 ≠ 9221120237041090560) : Calls Tryz.prog 15 #[.agg #[.int .i8 4, .int .u64 0, .bool false, .slice mo1 0 mc1, .int .u64 b1, .int .i8 0, .string ⟨#[]⟩, .slice ko1 0 kc1], .agg #[.int .i8 4, .int .u64 0, .bool false, .slice mo2 0 mc2, .int .u64 9221120237041090560, .int .i8 0, .string ⟨#[]⟩, .slice ko2 0 kc2]] w fun e' w' => e' = .returned (.tuple #[.int .i64 0, .bool false]) ∧ Below w.heap.size w w' := by
  have HA1 := hide A1
  have HA2 := hide A2
  clear A1 A2
  have e1 : (b1 == (9221120237041090560 : Int)) = false := by simp [h1]
  clear h1
  go_enter Tryz.func15, Tryz.ntmps15
  go_wp2_with fail
  have B1 := bx8_new w (.int .i8 4) (.int .u64 0) (.bool false) (.slice mo1 0 mc1) (.int .u64 b1) (.int .i8 0) (.string ⟨#[]⟩) (.slice ko1 0 kc1) 31
  have K1 := bel_new w (.cells #[.int .i8 4, .int .u64 0, .bool false, .slice mo1 0 mc1, .int .u64 b1, .int .i8 0, .string ⟨#[]⟩, .slice ko1 0 kc1] 31)
  have hz1 : w.heap.size + 1 = (w.alloc (.cells #[.int .i8 4, .int .u64 0, .bool false, .slice mo1 0 mc1, .int .u64 b1, .int .i8 0, .string ⟨#[]⟩, .slice ko1 0 kc1] 31)).heap.size := by simp
  generalize w.alloc (.cells #[.int .i8 4, .int .u64 0, .bool false, .slice mo1 0 mc1, .int .u64 b1, .int .i8 0, .string ⟨#[]⟩, .slice ko1 0 kc1] 31) = w1 at *
  have B2 := bx8_new w1 (.int .i8 4) (.int .u64 0) (.bool false) (.slice mo2 0 mc2) (.int .u64 9221120237041090560) (.int .i8 0) (.string ⟨#[]⟩) (.slice ko2 0 kc2) 31
  have K2 := bel_new w1 (.cells #[.int .i8 4, .int .u64 0, .bool false, .slice mo2 0 mc2, .int .u64 9221120237041090560, .int .i8 0, .string ⟨#[]⟩, .slice ko2 0 kc2] 31)
  have B1' := B1.below K2 B1.lt
  rw [← hz1] at B2
  have HK := hide (below_trans K1 K2)
  generalize w1.alloc (.cells #[.int .i8 4, .int .u64 0, .bool false, .slice mo2 0 mc2, .int .u64 9221120237041090560, .int .i8 0, .string ⟨#[]⟩, .slice ko2 0 kc2] 31) = W at *
  have HB1 := hide B1'
  have HB2 := hide B2
  clear B1 B2 K1 K2 hz1 B1'
  with_reducible refine (rNaN_d _).mono ?_
  rintro e9 wz ⟨rfl, hb⟩
  replace HK := hide (below_trans HK.out hb)
  replace HB1 := hide (HB1.out.below hb HB1.out.lt)
  replace HB2 := hide (HB2.out.below hb HB2.out.lt)
  clear hb
  obtain ⟨x0, x1, x2, x3, x4, x5, x6, x7⟩ := HB1.out
  obtain ⟨y0, y1, y2, y3, y4, y5, y6, y7⟩ := HB2.out
  go_wp2_with fail
  with_reducible refine (HA1.out.at HK.out).mono ?_
  rintro e9 wz ⟨rfl, hb⟩
  clear x0 x1 x2 x3 x4 x5 x6 x7 y0 y1 y2 y3 y4 y5 y6 y7
  replace HK := hide (below_trans HK.out hb)
  replace HB1 := hide (HB1.out.below hb HB1.out.lt)
  replace HB2 := hide (HB2.out.below hb HB2.out.lt)
  clear hb
  obtain ⟨x0, x1, x2, x3, x4, x5, x6, x7⟩ := HB1.out
  obtain ⟨y0, y1, y2, y3, y4, y5, y6, y7⟩ := HB2.out
  go_wp2_with fail
  with_reducible refine (HA2.out.at HK.out).mono ?_
  rintro e9 wz ⟨rfl, hb⟩
  clear x0 x1 x2 x3 x4 x5 x6 x7 y0 y1 y2 y3 y4 y5 y6 y7
  replace HK := hide (below_trans HK.out hb)
  replace HB1 := hide (HB1.out.below hb HB1.out.lt)
  replace HB2 := hide (HB2.out.below hb HB2.out.lt)
  clear hb
  obtain ⟨x0, x1, x2, x3, x4, x5, x6, x7⟩ := HB1.out
  obtain ⟨y0, y1, y2, y3, y4, y5, y6, y7⟩ := HB2.out
  go_wp2
  go_ret2
  exact ⟨rfl, HK.out⟩

set_option maxHeartbeats 8000000 in
set_option maxRecDepth 20000 in
theorem rcmp_ff {w : World} {b1 : Int} {mo1 ko1 : Option Addr} {mc1 kc1 : Nat} {b2 : Int} {mo2 ko2 : Option Addr} {mc2 kc2 : Nat} (A1 : IsA w (.agg #[.int .i8 4, .int .u64 0, .bool false, .slice mo1 0 mc1, .int .u64 b1, .int .i8 0, .string ⟨#[]⟩, .slice ko1 0 kc1]) true) (A2 : IsA w (.agg #[.int .i8 4, .int .u64 0, .bool false, .slice mo2 0 mc2, .int .u64 b2, .int .i8 0, .string ⟨#[]⟩, .slice ko2 0 kc2]) true) (h1 : b1 ≠ 9221120237041090560) (h2 : b2 ≠ 9221120237041090560) (pp1 : 0 ≤ b1) (r1 : b1 < 18446744073709551616) (pp2 : 0 ≤ b2) (r2 : b2 < 18446744073709551616) : Calls Tryz.prog 15 #[.agg #[.int .i8 4, .int .u64 0, .bool false, .slice mo1 0 mc1, .int .u64 b1, .int .i8 0, .string ⟨#[]⟩, .slice ko1 0 kc1], .agg #[.int .i8 4, .int .u64 0, .bool false, .slice mo2 0 mc2, .int .u64 b2, .int .i8 0, .string ⟨#[]⟩, .slice ko2 0 kc2]] w fun e' w' => e' = .returned (.tuple #[.int .i64 (cmpC 9223372036854775808 4503599627370496 b1 b2), .bool (cmpOk 9223372036854775808 4503599627370496 b1 b2)]) ∧ Below w.heap.size w w' := by
  have HA1 := hide A1
  have HA2 := hide A2
  clear A1 A2
  have e1 : (b1 == (9221120237041090560 : Int)) = false := by simp [h1]
  clear h1
  have e2 : (b2 == (9221120237041090560 : Int)) = false := by simp [h2]
  clear h2
  go_enter Tryz.func15, Tryz.ntmps15
  go_wp2_with fail
  have B1 := bx8_new w (.int .i8 4) (.int .u64 0) (.bool false) (.slice mo1 0 mc1) (.int .u64 b1) (.int .i8 0) (.string ⟨#[]⟩) (.slice ko1 0 kc1) 31
  have K1 := bel_new w (.cells #[.int .i8 4, .int .u64 0, .bool false, .slice mo1 0 mc1, .int .u64 b1, .int .i8 0, .string ⟨#[]⟩, .slice ko1 0 kc1] 31)
  have hz1 : w.heap.size + 1 = (w.alloc (.cells #[.int .i8 4, .int .u64 0, .bool false, .slice mo1 0 mc1, .int .u64 b1, .int .i8 0, .string ⟨#[]⟩, .slice ko1 0 kc1] 31)).heap.size := by simp
  generalize w.alloc (.cells #[.int .i8 4, .int .u64 0, .bool false, .slice mo1 0 mc1, .int .u64 b1, .int .i8 0, .string ⟨#[]⟩, .slice ko1 0 kc1] 31) = w1 at *
  have B2 := bx8_new w1 (.int .i8 4) (.int .u64 0) (.bool false) (.slice mo2 0 mc2) (.int .u64 b2) (.int .i8 0) (.string ⟨#[]⟩) (.slice ko2 0 kc2) 31
  have K2 := bel_new w1 (.cells #[.int .i8 4, .int .u64 0, .bool false, .slice mo2 0 mc2, .int .u64 b2, .int .i8 0, .string ⟨#[]⟩, .slice ko2 0 kc2] 31)
  have B1' := B1.below K2 B1.lt
  rw [← hz1] at B2
  have HK := hide (below_trans K1 K2)
  generalize w1.alloc (.cells #[.int .i8 4, .int .u64 0, .bool false, .slice mo2 0 mc2, .int .u64 b2, .int .i8 0, .string ⟨#[]⟩, .slice ko2 0 kc2] 31) = W at *
  have HB1 := hide B1'
  have HB2 := hide B2
  clear B1 B2 K1 K2 hz1 B1'
  with_reducible refine (rNaN_d _).mono ?_
  rintro e9 wz ⟨rfl, hb⟩
  replace HK := hide (below_trans HK.out hb)
  replace HB1 := hide (HB1.out.below hb HB1.out.lt)
  replace HB2 := hide (HB2.out.below hb HB2.out.lt)
  clear hb
  obtain ⟨x0, x1, x2, x3, x4, x5, x6, x7⟩ := HB1.out
  obtain ⟨y0, y1, y2, y3, y4, y5, y6, y7⟩ := HB2.out
  go_wp2_with fail
  with_reducible refine (HA1.out.at HK.out).mono ?_
  rintro e9 wz ⟨rfl, hb⟩
  clear x0 x1 x2 x3 x4 x5 x6 x7 y0 y1 y2 y3 y4 y5 y6 y7
  replace HK := hide (below_trans HK.out hb)
  replace HB1 := hide (HB1.out.below hb HB1.out.lt)
  replace HB2 := hide (HB2.out.below hb HB2.out.lt)
  clear hb
  obtain ⟨x0, x1, x2, x3, x4, x5, x6, x7⟩ := HB1.out
  obtain ⟨y0, y1, y2, y3, y4, y5, y6, y7⟩ := HB2.out
  go_wp2_with fail
  with_reducible refine (HA2.out.at HK.out).mono ?_
  rintro e9 wz ⟨rfl, hb⟩
  clear x0 x1 x2 x3 x4 x5 x6 x7 y0 y1 y2 y3 y4 y5 y6 y7
  replace HK := hide (below_trans HK.out hb)
  replace HB1 := hide (HB1.out.below hb HB1.out.lt)
  replace HB2 := hide (HB2.out.below hb HB2.out.lt)
  clear hb
  obtain ⟨x0, x1, x2, x3, x4, x5, x6, x7⟩ := HB1.out
  obtain ⟨y0, y1, y2, y3, y4, y5, y6, y7⟩ := HB2.out
  go_wp2_with fail
  with_reducible refine (rCmp_d _ b1 b2 pp1 r1 pp2 r2).mono ?_
  rintro e9 wz ⟨rfl, hb⟩
  clear x0 x1 x2 x3 x4 x5 x6 x7 y0 y1 y2 y3 y4 y5 y6 y7
  replace HK := hide (below_trans HK.out hb)
  replace HB1 := hide (HB1.out.below hb HB1.out.lt)
  replace HB2 := hide (HB2.out.below hb HB2.out.lt)
  clear hb
  obtain ⟨x0, x1, x2, x3, x4, x5, x6, x7⟩ := HB1.out
  obtain ⟨y0, y1, y2, y3, y4, y5, y6, y7⟩ := HB2.out
  go_wp2
  go_ret2
  exact ⟨rfl, HK.out⟩

set_option maxHeartbeats 8000000 in
set_option maxRecDepth 20000 in
theorem rcmp_wf {w : World} {g1 : Bool} {mo1 ko1 : Option Addr} {ml1 mc1 kc1 : Nat} {b2 : Int} {mo2 ko2 : Option Addr} {mc2 kc2 : Nat} {a1 : Int} {q1 : Nat} (A1 : IsA w (.agg #[.int .i8 3, .int .u64 0, .bool g1, .slice mo1 ml1 mc1, .int .u64 0, .int .i8 0, .string ⟨#[]⟩, .slice ko1 0 kc1]) true) (A2 : IsA w (.agg #[.int .i8 4, .int .u64 0, .bool false, .slice mo2 0 mc2, .int .u64 b2, .int .i8 0, .string ⟨#[]⟩, .slice ko2 0 kc2]) true) (W1 : ∀ W, Below w.heap.size w W → Arg W (.slice mo1 ml1 mc1) a1 q1) (j1 : q1 ≤ 1048577) (fo : FOk b2) (h2 : b2 ≠ 9221120237041090560) : Calls Tryz.prog 15 #[.agg #[.int .i8 3, .int .u64 0, .bool g1, .slice mo1 ml1 mc1, .int .u64 0, .int .i8 0, .string ⟨#[]⟩, .slice ko1 0 kc1], .agg #[.int .i8 4, .int .u64 0, .bool false, .slice mo2 0 mc2, .int .u64 b2, .int .i8 0, .string ⟨#[]⟩, .slice ko2 0 kc2]] w fun e' w' => e' = .returned (.tuple #[.int .i64 (besd64 (wn g1 a1) b2).1, .bool (besd64 (wn g1 a1) b2).2]) ∧ Below w.heap.size w w' := by
  have HA1 := hide A1
  have HA2 := hide A2
  clear A1 A2
  have HW1 := hide W1
  have HF := hide fo
  have HN := hide h2
  clear W1 fo
  have e2 : (b2 == (9221120237041090560 : Int)) = false := by simp [h2]
  clear h2
  go_enter Tryz.func15, Tryz.ntmps15
  go_wp2_with fail
  have B1 := bx8_new w (.int .i8 3) (.int .u64 0) (.bool g1) (.slice mo1 ml1 mc1) (.int .u64 0) (.int .i8 0) (.string ⟨#[]⟩) (.slice ko1 0 kc1) 31
  have K1 := bel_new w (.cells #[.int .i8 3, .int .u64 0, .bool g1, .slice mo1 ml1 mc1, .int .u64 0, .int .i8 0, .string ⟨#[]⟩, .slice ko1 0 kc1] 31)
  have hz1 : w.heap.size + 1 = (w.alloc (.cells #[.int .i8 3, .int .u64 0, .bool g1, .slice mo1 ml1 mc1, .int .u64 0, .int .i8 0, .string ⟨#[]⟩, .slice ko1 0 kc1] 31)).heap.size := by simp
  generalize w.alloc (.cells #[.int .i8 3, .int .u64 0, .bool g1, .slice mo1 ml1 mc1, .int .u64 0, .int .i8 0, .string ⟨#[]⟩, .slice ko1 0 kc1] 31) = w1 at *
  have B2 := bx8_new w1 (.int .i8 4) (.int .u64 0) (.bool false) (.slice mo2 0 mc2) (.int .u64 b2) (.int .i8 0) (.string ⟨#[]⟩) (.slice ko2 0 kc2) 31
  have K2 := bel_new w1 (.cells #[.int .i8 4, .int .u64 0, .bool false, .slice mo2 0 mc2, .int .u64 b2, .int .i8 0, .string ⟨#[]⟩, .slice ko2 0 kc2] 31)
  have B1' := B1.below K2 B1.lt
  rw [← hz1] at B2
  have HK := hide (below_trans K1 K2)
  generalize w1.alloc (.cells #[.int .i8 4, .int .u64 0, .bool false, .slice mo2 0 mc2, .int .u64 b2, .int .i8 0, .string ⟨#[]⟩, .slice ko2 0 kc2] 31) = W at *
  have HB1 := hide B1'
  have HB2 := hide B2
  clear B1 B2 K1 K2 hz1 B1'
  with_reducible refine (rNaN_d _).mono ?_
  rintro e9 wz ⟨rfl, hb⟩
  replace HK := hide (below_trans HK.out hb)
  replace HB1 := hide (HB1.out.below hb HB1.out.lt)
  replace HB2 := hide (HB2.out.below hb HB2.out.lt)
  clear hb
  obtain ⟨x0, x1, x2, x3, x4, x5, x6, x7⟩ := HB1.out
  obtain ⟨y0, y1, y2, y3, y4, y5, y6, y7⟩ := HB2.out
  go_wp2_with fail
  with_reducible refine (HA1.out.at HK.out).mono ?_
  rintro e9 wz ⟨rfl, hb⟩
  clear x0 x1 x2 x3 x4 x5 x6 x7 y0 y1 y2 y3 y4 y5 y6 y7
  replace HK := hide (below_trans HK.out hb)
  replace HB1 := hide (HB1.out.below hb HB1.out.lt)
  replace HB2 := hide (HB2.out.below hb HB2.out.lt)
  clear hb
  obtain ⟨x0, x1, x2, x3, x4, x5, x6, x7⟩ := HB1.out
  obtain ⟨y0, y1, y2, y3, y4, y5, y6, y7⟩ := HB2.out
  go_wp2_with fail
  with_reducible refine (HA2.out.at HK.out).mono ?_
  rintro e9 wz ⟨rfl, hb⟩
  clear x0 x1 x2 x3 x4 x5 x6 x7 y0 y1 y2 y3 y4 y5 y6 y7
  replace HK := hide (below_trans HK.out hb)
  replace HB1 := hide (HB1.out.below hb HB1.out.lt)
  replace HB2 := hide (HB2.out.below hb HB2.out.lt)
  clear hb
  obtain ⟨x0, x1, x2, x3, x4, x5, x6, x7⟩ := HB1.out
  obtain ⟨y0, y1, y2, y3, y4, y5, y6, y7⟩ := HB2.out
  go_wp2_with fail
  with_reducible refine (rag_any (HW1.out _ HK.out) (by omega) HF.out HN.out).mono ?_
  rintro e9 wz ⟨rfl, hok, hb⟩
  clear x0 x1 x2 x3 x4 x5 x6 x7 y0 y1 y2 y3 y4 y5 y6 y7
  replace HK := hide (below_trans HK.out hb)
  replace HB1 := hide (HB1.out.below hb HB1.out.lt)
  replace HB2 := hide (HB2.out.below hb HB2.out.lt)
  clear hb
  obtain ⟨x0, x1, x2, x3, x4, x5, x6, x7⟩ := HB1.out
  obtain ⟨y0, y1, y2, y3, y4, y5, y6, y7⟩ := HB2.out
  have HOK := hide hok
  clear hok
  go_wp2
  go_ret2
  exact ⟨by rw [HOK.out]; rfl, HK.out⟩

set_option maxHeartbeats 8000000 in
set_option maxRecDepth 20000 in
theorem rcmp_fw {w : World} {b1 : Int} {mo1 ko1 : Option Addr} {mc1 kc1 : Nat} {g2 : Bool} {mo2 ko2 : Option Addr} {ml2 mc2 kc2 : Nat} {a2 : Int} {q2 : Nat} (A1 : IsA w (.agg #[.int .i8 4, .int .u64 0, .bool false, .slice mo1 0 mc1, .int .u64 b1, .int .i8 0, .string ⟨#[]⟩, .slice ko1 0 kc1]) true) (A2 : IsA w (.agg #[.int .i8 3, .int .u64 0, .bool g2, .slice mo2 ml2 mc2, .int .u64 0, .int .i8 0, .string ⟨#[]⟩, .slice ko2 0 kc2]) true) (W2 : ∀ W, Below w.heap.size w W → Arg W (.slice mo2 ml2 mc2) a2 q2) (j2 : q2 ≤ 1048577) (fo : FOk b1) (h1 : b1 ≠ 9221120237041090560) : Calls Tryz.prog 15 #[.agg #[.int .i8 4, .int .u64 0, .bool false, .slice mo1 0 mc1, .int .u64 b1, .int .i8 0, .string ⟨#[]⟩, .slice ko1 0 kc1], .agg #[.int .i8 3, .int .u64 0, .bool g2, .slice mo2 ml2 mc2, .int .u64 0, .int .i8 0, .string ⟨#[]⟩, .slice ko2 0 kc2]] w fun e' w' => e' = .returned (.tuple #[.int .i64 (-(besd64 (wn g2 a2) b1).1), .bool (besd64 (wn g2 a2) b1).2]) ∧ Below w.heap.size w w' := by
  have HA1 := hide A1
  have HA2 := hide A2
  clear A1 A2
  have HW2 := hide W2
  have HF := hide fo
  have HN := hide h1
  have HR := hide (besd_range (wn g2 a2) b1)
  clear W2 fo
  have e1 : (b1 == (9221120237041090560 : Int)) = false := by simp [h1]
  clear h1
  go_enter Tryz.func15, Tryz.ntmps15
  go_wp2_with fail
  have B1 := bx8_new w (.int .i8 4) (.int .u64 0) (.bool false) (.slice mo1 0 mc1) (.int .u64 b1) (.int .i8 0) (.string ⟨#[]⟩) (.slice ko1 0 kc1) 31
  have K1 := bel_new w (.cells #[.int .i8 4, .int .u64 0, .bool false, .slice mo1 0 mc1, .int .u64 b1, .int .i8 0, .string ⟨#[]⟩, .slice ko1 0 kc1] 31)
  have hz1 : w.heap.size + 1 = (w.alloc (.cells #[.int .i8 4, .int .u64 0, .bool false, .slice mo1 0 mc1, .int .u64 b1, .int .i8 0, .string ⟨#[]⟩, .slice ko1 0 kc1] 31)).heap.size := by simp
  generalize w.alloc (.cells #[.int .i8 4, .int .u64 0, .bool false, .slice mo1 0 mc1, .int .u64 b1, .int .i8 0, .string ⟨#[]⟩, .slice ko1 0 kc1] 31) = w1 at *
  have B2 := bx8_new w1 (.int .i8 3) (.int .u64 0) (.bool g2) (.slice mo2 ml2 mc2) (.int .u64 0) (.int .i8 0) (.string ⟨#[]⟩) (.slice ko2 0 kc2) 31
  have K2 := bel_new w1 (.cells #[.int .i8 3, .int .u64 0, .bool g2, .slice mo2 ml2 mc2, .int .u64 0, .int .i8 0, .string ⟨#[]⟩, .slice ko2 0 kc2] 31)
  have B1' := B1.below K2 B1.lt
  rw [← hz1] at B2
  have HK := hide (below_trans K1 K2)
  generalize w1.alloc (.cells #[.int .i8 3, .int .u64 0, .bool g2, .slice mo2 ml2 mc2, .int .u64 0, .int .i8 0, .string ⟨#[]⟩, .slice ko2 0 kc2] 31) = W at *
  have HB1 := hide B1'
  have HB2 := hide B2
  clear B1 B2 K1 K2 hz1 B1'
  with_reducible refine (rNaN_d _).mono ?_
  rintro e9 wz ⟨rfl, hb⟩
  replace HK := hide (below_trans HK.out hb)
  replace HB1 := hide (HB1.out.below hb HB1.out.lt)
  replace HB2 := hide (HB2.out.below hb HB2.out.lt)
  clear hb
  obtain ⟨x0, x1, x2, x3, x4, x5, x6, x7⟩ := HB1.out
  obtain ⟨y0, y1, y2, y3, y4, y5, y6, y7⟩ := HB2.out
  go_wp2_with fail
  with_reducible refine (HA1.out.at HK.out).mono ?_
  rintro e9 wz ⟨rfl, hb⟩
  clear x0 x1 x2 x3 x4 x5 x6 x7 y0 y1 y2 y3 y4 y5 y6 y7
  replace HK := hide (below_trans HK.out hb)
  replace HB1 := hide (HB1.out.below hb HB1.out.lt)
  replace HB2 := hide (HB2.out.below hb HB2.out.lt)
  clear hb
  obtain ⟨x0, x1, x2, x3, x4, x5, x6, x7⟩ := HB1.out
  obtain ⟨y0, y1, y2, y3, y4, y5, y6, y7⟩ := HB2.out
  go_wp2_with fail
  with_reducible refine (HA2.out.at HK.out).mono ?_
  rintro e9 wz ⟨rfl, hb⟩
  clear x0 x1 x2 x3 x4 x5 x6 x7 y0 y1 y2 y3 y4 y5 y6 y7
  replace HK := hide (below_trans HK.out hb)
  replace HB1 := hide (HB1.out.below hb HB1.out.lt)
  replace HB2 := hide (HB2.out.below hb HB2.out.lt)
  clear hb
  obtain ⟨x0, x1, x2, x3, x4, x5, x6, x7⟩ := HB1.out
  obtain ⟨y0, y1, y2, y3, y4, y5, y6, y7⟩ := HB2.out
  go_wp2_with fail
  with_reducible refine (rag_any (HW2.out _ HK.out) (by omega) HF.out HN.out).mono ?_
  rintro e9 wz ⟨rfl, hok, hb⟩
  clear x0 x1 x2 x3 x4 x5 x6 x7 y0 y1 y2 y3 y4 y5 y6 y7
  replace HK := hide (below_trans HK.out hb)
  replace HB1 := hide (HB1.out.below hb HB1.out.lt)
  replace HB2 := hide (HB2.out.below hb HB2.out.lt)
  clear hb
  obtain ⟨x0, x1, x2, x3, x4, x5, x6, x7⟩ := HB1.out
  obtain ⟨y0, y1, y2, y3, y4, y5, y6, y7⟩ := HB2.out
  have HOK := hide hok
  clear hok
  obtain ⟨hr1, hr2⟩ := HR.out
  generalize hc : (besd64 (wn g2 a2) b1).1 = c at *
  have hw : IntKind.i64.wrap (-c) = -c := by simp only [IntKind.wrap, IntKind.signed, IntKind.bits]; simp; omega
  clear hr1 hr2
  have HC := hide hc
  clear hc
  go_wp2
  go_ret2
  exact ⟨by rw [HOK.out, HC.out]; rfl, HK.out⟩

end Go.Proofs.YtjigofmcflmelaaGreatDoor

namespace Go.Proofs.YtjigofmcflmelaaGreatDoor
open Go.RowKit
set_option linter.unusedVariables false

theorem ncmp_nanl (z : NZ) : ncmp64 (.f 9221120237041090560) z = (0, false) := by
  have nm : ∀ b, cmpC 9223372036854775808 4503599627370496 9221120237041090560 b = 0 ∧ cmpOk 9223372036854775808 4503599627370496 9221120237041090560 b = false := fun b => cmp_nan (by omega)
  have nn : cmpC 9223372036854775808 4503599627370496 0 9221120237041090560 = 0 ∧ cmpOk 9223372036854775808 4503599627370496 0 9221120237041090560 = false := cmp_nan (by omega)
  cases z with
  | w n =>
    show (-(besd 9223372036854775808 4503599627370496 (-1074) 9218868437227405312 n 9221120237041090560).1, (besd 9223372036854775808 4503599627370496 (-1074) 9218868437227405312 n 9221120237041090560).2) = _
    unfold besd
    rw [if_neg (by omega), nn.1, nn.2]
    rfl
  | f b =>
    show (cmpC 9223372036854775808 4503599627370496 9221120237041090560 b, cmpOk 9223372036854775808 4503599627370496 9221120237041090560 b) = _
    rw [(nm b).1, (nm b).2]
theorem ncmp_nanr (z : NZ) : ncmp64 z (.f 9221120237041090560) = (0, false) := by
  have nm : ∀ b, cmpC 9223372036854775808 4503599627370496 b 9221120237041090560 = 0 ∧ cmpOk 9223372036854775808 4503599627370496 b 9221120237041090560 = false := fun b => cmp_nan (by omega)
  cases z with
  | w n =>
    show besd 9223372036854775808 4503599627370496 (-1074) 9218868437227405312 n 9221120237041090560 = _
    unfold besd
    rw [if_neg (by omega), (nm 0).1, (nm 0).2]
  | f b =>
    show (cmpC 9223372036854775808 4503599627370496 b 9221120237041090560, cmpOk 9223372036854775808 4503599627370496 b 9221120237041090560) = _
    rw [(nm b).1, (nm b).2]

/-- the document's order of any two values is the program's -/
theorem rcmp_o {w : World} {v v' : Value} {k k' : Nat} {o o' : Option NZ} (h : VzO w v k o) (h' : VzO w v' k' o') (A : IsA w v o.isSome) (A' : IsA w v' o'.isSome) (hk : k ≤ 1048577) (hk' : k' ≤ 1048577) : Calls Tryz.prog 15 #[v, v'] w fun e' w' => e' = .returned (.tuple #[.int .i64 (ncO o o').1, .bool (ncO o o').2]) ∧ Below w.heap.size w w' := by
  cases o with
  | none =>
    obtain ⟨_, _, _, _, _, _, _, _, _, _, _, _, rfl⟩ := h.shape
    obtain ⟨_, _, _, _, _, _, _, _, _, _, _, _, rfl⟩ := h'.shape
    exact rcmp_nl A
  | some z =>
    cases o' with
    | none =>
      obtain ⟨_, _, _, _, _, _, _, _, _, _, _, _, rfl⟩ := h.shape
      obtain ⟨_, _, _, _, _, _, _, _, _, _, _, _, rfl⟩ := h'.shape
      exact rcmp_nr A A'
    | some z' =>
      show Calls Tryz.prog 15 #[v, v'] w fun e' w' => e' = .returned (.tuple #[.int .i64 (ncmp64 z z').1, .bool (ncmp64 z z').2]) ∧ Below w.heap.size w w'
      cases z with
      | w n =>
        obtain ⟨g, m, a, ko, kc, rfl, hm, rfl, -⟩ := h
        have HM := hm
        obtain ⟨zs, ⟨ao, cap, rfl, -⟩, -⟩ := hm
        cases z' with
        | w n' =>
          obtain ⟨g', m', a', ko', kc', rfl, hm', rfl, -⟩ := h'
          have HM' := hm'
          obtain ⟨zs', ⟨ao', cap', rfl, -⟩, -⟩ := hm'
          exact rcmp_ww A A' (fun W hW => ⟨_, _, _, rfl, (HM.below hW).arg, rfl⟩) hk (fun W hW => ⟨_, _, _, rfl, (HM'.below hW).arg, rfl⟩) hk'
        | f b =>
          obtain ⟨mo, mc, ko', kc', rfl, -, hb⟩ := h'
          by_cases hn : b = 9221120237041090560
          · subst hn
            rw [ncmp_nanr]
            exact rcmp_nanr_w A A'
          · exact rcmp_wf A A' (fun W hW => (HM.below hW).arg) hk hb hn
      | f b =>
        obtain ⟨mo, mc, ko, kc, rfl, -, hb⟩ := h
        cases z' with
        | w n' =>
          obtain ⟨g', m', a', ko', kc', rfl, hm', rfl, -⟩ := h'
          have HM' := hm'
          obtain ⟨zs', ⟨ao', cap', rfl, -⟩, -⟩ := hm'
          by_cases hn : b = 9221120237041090560
          · subst hn
            rw [ncmp_nanl]
            exact rcmp_nanl_w A A'
          · exact rcmp_fw A A' (fun W hW => (HM'.below hW).arg) hk' hb hn
        | f b' =>
          obtain ⟨mo', mc', ko', kc', rfl, -, hb'⟩ := h'
          by_cases hn : b = 9221120237041090560
          · subst hn
            rw [ncmp_nanl]
            exact rcmp_nanl_f A A'
          · by_cases hn' : b' = 9221120237041090560
            · subst hn'
              rw [ncmp_nanr]
              exact rcmp_nanr_f A A' hn
            · exact rcmp_ff A A' hn hn' hb.1 hb.2.1 hb'.1 hb'.2.1

end Go.Proofs.YtjigofmcflmelaaGreatDoor

namespace Go.Proofs.YtjigofmcflmelaaGreatDoor
open Go.RowKit
set_option linter.unusedVariables false
set_option linter.unusedSimpArgs false

end Go.Proofs.YtjigofmcflmelaaGreatDoor

namespace Go.Proofs.YtjigofmcflmelaaGreatDoor
open Go.RowKit
set_option linter.unusedVariables false
set_option linter.unusedSimpArgs false

open Classical in
noncomputable def oOf (x : Va) : Option NZ := if Ck x then some (zOf x) else none
theorem num_o {w : World} (L : Lays w) (T : Brn w) (U : Uss w) {et : TypeId} {eo : Option Addr} (hE : w.cell? ⟨0, 0, none⟩ = some (.iface et (.pointer eo))) (hEl : 0 < w.heap.size)
    {x : Va} {v : Value} (h : VaRd w v x) {K : Nat} (hK : x.mag.length ≤ K) : VzO w v K (oOf x) ∧ IsA w v (oOf x).isSome := by
  rcases num_cl L T U hE hEl h hK with ⟨c, h1, h2⟩ | ⟨c, h1, h2⟩
  · unfold oOf
    rw [if_pos c]
    exact ⟨h1, h2⟩
  · unfold oOf
    rw [if_neg c]
    exact ⟨h1, h2⟩
theorem vac_new2 (w : World) (x y : Va) (vm vk vm' vk' : Value) (t : TypeId) : VaC (w.alloc (.cells #[.int .i8 x.kind, .int .u64 x.n, .bool x.neg, vm, .int .u64 x.bits, .int .i8 x.ext, .string (strOfNums x.text), vk, .int .i8 y.kind, .int .u64 y.n, .bool y.neg, vm', .int .u64 y.bits, .int .i8 y.ext, .string (strOfNums y.text), vk'] t)) w.heap.size 0 x vm vk ∧
    VaC (w.alloc (.cells #[.int .i8 x.kind, .int .u64 x.n, .bool x.neg, vm, .int .u64 x.bits, .int .i8 x.ext, .string (strOfNums x.text), vk, .int .i8 y.kind, .int .u64 y.n, .bool y.neg, vm', .int .u64 y.bits, .int .i8 y.ext, .string (strOfNums y.text), vk'] t)) w.heap.size 8 y vm' vk' := by
  refine ⟨⟨?_, ?_, ?_, ?_, ?_, ?_, ?_, ?_⟩, ⟨?_, ?_, ?_, ?_, ?_, ?_, ?_, ?_⟩⟩ <;> (rw [World.cell?_alloc_at _ _ _ _ rfl]; rfl)
theorem bey_two {w W : World} {x y : Va} {bb : Nat} {mo1 ko1 mo2 ko2 : Option Addr} {mc1 kc1 mc2 kc2 : Nat} (h : VaRd w (vaV x (.slice mo1 x.mag.length mc1) (.slice ko1 x.kids.length kc1)) x) (h' : VaRd w (vaV y (.slice mo2 y.mag.length mc2) (.slice ko2 y.kids.length kc2)) y) (hW : Below w.heap.size w W) (hl : bb < W.heap.size)
    (hb : VaC W bb 0 x (.slice mo1 x.mag.length mc1) (.slice ko1 x.kids.length kc1) ∧ VaC W bb 8 y (.slice mo2 y.mag.length mc2) (.slice ko2 y.kids.length kc2)) :
    Calls Tryz.prog 6 #[.slice (some ⟨bb, 0, none⟩) 2 2] W fun e' w' => (∃ q, e' = .returned (.bool q) ∧ (q = false → vpts x + vpts y ≤ 1048576)) ∧ Below W.heap.size W w' := by
  obtain ⟨⟨vm, vk, he, hm, hk⟩, wf⟩ := h
  obtain ⟨e1, e2⟩ : Value.slice mo1 x.mag.length mc1 = vm ∧ Value.slice ko1 x.kids.length kc1 = vk := by
    unfold vaV at he
    simp only [Value.agg.injEq, Array.mk.injEq, List.cons.injEq, and_true, true_and] at he
    exact ⟨he.1, he.2⟩
  subst e1 e2
  obtain ⟨⟨vm', vk', he', hm', hk'⟩, wf'⟩ := h'
  obtain ⟨e1, e2⟩ : Value.slice mo2 y.mag.length mc2 = vm' ∧ Value.slice ko2 y.kids.length kc2 = vk' := by
    unfold vaV at he'
    simp only [Value.agg.injEq, Array.mk.injEq, List.cons.injEq, and_true, true_and] at he'
    exact ⟨he'.1, he'.2⟩
  subst e1 e2
  have hs : VaSl W (.slice (some ⟨bb, 0, none⟩) [x, y].length 2) [x, y] := by
    refine .mk (some ⟨bb, 0, none⟩) 2 [x, y] (fun i => if i = 0 then .slice mo1 x.mag.length mc1 else .slice mo2 y.mag.length mc2) (fun i => if i = 0 then .slice ko1 x.kids.length kc1 else .slice ko2 y.kids.length kc2) (by simp) (by unfold maxLen; omega) (by simp) (fun h => by cases h) (fun _ => ⟨bb, 0, rfl, hl, fun i hi => ?_⟩) (fun i hi => ?_) (fun i hi => ?_)
    all_goals
      obtain rfl | rfl : i = 0 ∨ i = 1 := by simp at hi; omega
    · exact hb.1
    · exact hb.2
    · exact ⟨hm.below hW, wf⟩
    · exact ⟨hm'.below hW, wf'⟩
    · exact hk.far hW
    · exact hk'.far hW
  refine (beyondval_any hs).mono fun e w' h => ⟨h.1.imp fun q hq => ⟨hq.1, fun hf => ?_⟩, h.2⟩
  have h2 : kpts [x, y] ≤ 1048576 := by
    rcases hq.2 with h | h
    · rw [hf] at h; cases h
    · exact h
  simpa [kpts] using h2

set_option maxHeartbeats 16000000 in
set_option maxRecDepth 100000 in
theorem ncmp_walk {w : World} (L : Lays w) (T : Brn w) (U : Uss w) {et : TypeId} {eo : Option Addr} (hE : w.cell? ⟨0, 0, none⟩ = some (.iface et (.pointer eo))) (hEl : 0 < w.heap.size) {x y : Va} {v v' : Value} (h : VaRd w v x) (h' : VaRd w v' y) :
    Calls Tryz.prog 4 #[v, v'] w fun e' w' => e' = .returned (.bool true) ∧ Below w.heap.size w w' := by
  have H1 := hide h
  have H2 := hide h'
  have HCL := hide (fun (W : World) (hW : Below w.heap.size w W) (z : Va) (u : Value) (hu : VaRd W u z) => num_o (L.below hW) (T.below hW) (U.below hW) ((hW.cell (p := ⟨0, 0, none⟩) hEl).trans hE) (Nat.lt_of_lt_of_le hEl hW.size) hu (Nat.le_refl _))
  have HL := hide L
  have HT := hide T
  have HU := hide U
  obtain ⟨⟨vm1, vk1, rfl, hm1, hk1⟩, wf1⟩ := h
  obtain ⟨mo1, mc1, rfl, -⟩ : ∃ ao cap, vm1 = .slice ao x.mag.length cap ∧ True := by obtain ⟨ao, cap, h, _⟩ := hm1; exact ⟨ao, cap, h, trivial⟩
  obtain ⟨ko1, kc1, rfl, -⟩ := hk1.len
  obtain ⟨⟨vm2, vk2, rfl, hm2, hk2⟩, wf2⟩ := h'
  obtain ⟨mo2, mc2, rfl, -⟩ : ∃ ao cap, vm2 = .slice ao y.mag.length cap ∧ True := by obtain ⟨ao, cap, h, _⟩ := hm2; exact ⟨ao, cap, h, trivial⟩
  obtain ⟨ko2, kc2, rfl, -⟩ := hk2.len
  have HBY := hide (fun (W : World) (bb : Nat) (hW : Below w.heap.size w W) (hl : bb < W.heap.size) hb => bey_two (bb := bb) H1.out H2.out hW hl hb)
  clear hm1 hk1 wf1 hm2 hk2 wf2 L T U hE hEl
  show Calls Tryz.prog 4 #[.agg #[.int .i8 x.kind, .int .u64 x.n, .bool x.neg, .slice mo1 x.mag.length mc1, .int .u64 x.bits, .int .i8 x.ext, .string (strOfNums x.text), .slice ko1 x.kids.length kc1], .agg #[.int .i8 y.kind, .int .u64 y.n, .bool y.neg, .slice mo2 y.mag.length mc2, .int .u64 y.bits, .int .i8 y.ext, .string (strOfNums y.text), .slice ko2 y.kids.length kc2]] w _
  go_enter Tryz.func4, Tryz.ntmps4
  go_upto_region 1 with fail
  have B1 := bx8_new w (.int .i8 x.kind) (.int .u64 x.n) (.bool x.neg) (.slice mo1 x.mag.length mc1) (.int .u64 x.bits) (.int .i8 x.ext) (.string (strOfNums x.text)) (.slice ko1 x.kids.length kc1) 31
  have K1 := bel_new w (.cells #[.int .i8 x.kind, .int .u64 x.n, .bool x.neg, .slice mo1 x.mag.length mc1, .int .u64 x.bits, .int .i8 x.ext, .string (strOfNums x.text), .slice ko1 x.kids.length kc1] 31)
  have hz1 : w.heap.size + 1 = (w.alloc (.cells #[.int .i8 x.kind, .int .u64 x.n, .bool x.neg, .slice mo1 x.mag.length mc1, .int .u64 x.bits, .int .i8 x.ext, .string (strOfNums x.text), .slice ko1 x.kids.length kc1] 31)).heap.size := by simp
  generalize w.alloc (.cells #[.int .i8 x.kind, .int .u64 x.n, .bool x.neg, .slice mo1 x.mag.length mc1, .int .u64 x.bits, .int .i8 x.ext, .string (strOfNums x.text), .slice ko1 x.kids.length kc1] 31) = w1 at *
  have B2 := bx8_new w1 (.int .i8 y.kind) (.int .u64 y.n) (.bool y.neg) (.slice mo2 y.mag.length mc2) (.int .u64 y.bits) (.int .i8 y.ext) (.string (strOfNums y.text)) (.slice ko2 y.kids.length kc2) 31
  have K2 := bel_new w1 (.cells #[.int .i8 y.kind, .int .u64 y.n, .bool y.neg, .slice mo2 y.mag.length mc2, .int .u64 y.bits, .int .i8 y.ext, .string (strOfNums y.text), .slice ko2 y.kids.length kc2] 31)
  have B1' := B1.below K2 B1.lt
  rw [← hz1] at B2
  have HK := hide (below_trans K1 K2)
  generalize w1.alloc (.cells #[.int .i8 y.kind, .int .u64 y.n, .bool y.neg, .slice mo2 y.mag.length mc2, .int .u64 y.bits, .int .i8 y.ext, .string (strOfNums y.text), .slice ko2 y.kids.length kc2] 31) = W at *
  have HB1 := hide B1'
  have HB2 := hide B2
  clear B1 B2 K1 K2 hz1 B1'
  obtain ⟨x0, x1, x2, x3, x4, x5, x6, x7⟩ := HB1.out
  obtain ⟨y0, y1, y2, y3, y4, y5, y6, y7⟩ := HB2.out
  have KA := bel_new W (.cells #[.int .i8 x.kind, .int .u64 x.n, .bool x.neg, .slice mo1 x.mag.length mc1, .int .u64 x.bits, .int .i8 x.ext, .string (strOfNums x.text), .slice ko1 x.kids.length kc1, .int .i8 y.kind, .int .u64 y.n, .bool y.neg, .slice mo2 y.mag.length mc2, .int .u64 y.bits, .int .i8 y.ext, .string (strOfNums y.text), .slice ko2 y.kids.length kc2] 31)
  have CALL := hide (HBY.out _ W.heap.size (below_trans HK.out KA) (by simp) (vac_new2 W x y (.slice mo1 x.mag.length mc1) (.slice ko1 x.kids.length kc1) (.slice mo2 y.mag.length mc2) (.slice ko2 y.kids.length kc2) 31))
  have HKA := hide KA
  clear KA
  go_wp2_with fail
  with_reducible refine CALL.out.mono ?_
  rintro e w3 ⟨⟨q, rfl, hq⟩, hb⟩
  clear x0 x1 x2 x3 x4 x5 x6 x7 y0 y1 y2 y3 y4 y5 y6 y7
  replace HB1 := hide ((HB1.out.below HKA.out HB1.out.lt).below hb (HB1.out.below HKA.out HB1.out.lt).lt)
  replace HB2 := hide ((HB2.out.below HKA.out HB2.out.lt).below hb (HB2.out.below HKA.out HB2.out.lt).lt)
  replace HK := hide (below_trans (below_trans HK.out HKA.out) hb)
  clear hb CALL HKA HBY
  cases q with
  | true =>
    clear hq
    go_wp2
    go_ret
    exact ⟨rfl, HK.out⟩
  | false =>
    have HP := hide (hq rfl)
    clear hq
    have HT1 := hide (show ∀ W, Below w3.heap.size w3 W → Calls Tryz.prog 7 #[.agg #[.int .i8 x.kind, .int .u64 x.n, .bool x.neg, .slice mo1 x.mag.length mc1, .int .u64 x.bits, .int .i8 x.ext, .string (strOfNums x.text), .slice ko1 x.kids.length kc1]] W fun e w' => (∃ u, e = .returned u ∧ TwV W.heap.size w' u x) ∧ Below W.heap.size W w' from fun W hW => twv_any (by have := HP.out; omega) (H1.out.far (below_trans HK.out hW)))
    have HT2 := hide (show ∀ W, Below w3.heap.size w3 W → Calls Tryz.prog 7 #[.agg #[.int .i8 y.kind, .int .u64 y.n, .bool y.neg, .slice mo2 y.mag.length mc2, .int .u64 y.bits, .int .i8 y.ext, .string (strOfNums y.text), .slice ko2 y.kids.length kc2]] W fun e w' => (∃ u, e = .returned u ∧ TwV W.heap.size w' u y) ∧ Below W.heap.size W w' from fun W hW => twv_any (by have := HP.out; omega) (H2.out.far (below_trans HK.out hW)))
    go_upto_region 3 with fail
    go_cut [5, 6] from 15 (fun s5 s6 w' => ∃ b1 gm1 gk1 b2 gm2 gk2, s5 = .pointer (some ⟨b1, 0, none⟩) ∧ Bx8 w' b1 (.int .i8 x.kind) (.int .u64 x.n) (.bool x.neg) (.slice (some ⟨gm1, 0, none⟩) x.mag.length (x.mag.length + 1)) (.int .u64 x.bits) (.int .i8 x.ext) (.string (strOfNums x.text)) (.slice (some ⟨gk1, 0, none⟩) x.kids.length (x.kids.length + 1)) ∧ TwV w3.heap.size w' (.agg #[.int .i8 x.kind, .int .u64 x.n, .bool x.neg, .slice (some ⟨gm1, 0, none⟩) x.mag.length (x.mag.length + 1), .int .u64 x.bits, .int .i8 x.ext, .string (strOfNums x.text), .slice (some ⟨gk1, 0, none⟩) x.kids.length (x.kids.length + 1)]) x ∧ s6 = .pointer (some ⟨b2, 0, none⟩) ∧ Bx8 w' b2 (.int .i8 y.kind) (.int .u64 y.n) (.bool y.neg) (.slice (some ⟨gm2, 0, none⟩) y.mag.length (y.mag.length + 1)) (.int .u64 y.bits) (.int .i8 y.ext) (.string (strOfNums y.text)) (.slice (some ⟨gk2, 0, none⟩) y.kids.length (y.kids.length + 1)) ∧ TwV w3.heap.size w' (.agg #[.int .i8 y.kind, .int .u64 y.n, .bool y.neg, .slice (some ⟨gm2, 0, none⟩) y.mag.length (y.mag.length + 1), .int .u64 y.bits, .int .i8 y.ext, .string (strOfNums y.text), .slice (some ⟨gk2, 0, none⟩) y.kids.length (y.kids.length + 1)]) y ∧ Below w3.heap.size w3 w')
    case first =>
      refine wpInvA (J := fun a0 up a w' => ∃ s19 s20 s21 s22 s5 s6, a = ((((((a0.put (some 19) s19).put (some 20) s20).put (some 21) s21).put (some 22) s22).put (some 5) s5).put (some 6) s6) ∧ Below w3.heap.size w3 w' ∧ LdO (up 0) s19 (.agg #[.int .i8 x.kind, .int .u64 x.n, .bool x.neg, .slice mo1 x.mag.length mc1, .int .u64 x.bits, .int .i8 x.ext, .string (strOfNums x.text), .slice ko1 x.kids.length kc1]) ∧ ReT (up 1) w3.heap.size w' s20 x ∧ LdO (up 2) s21 (.agg #[.int .i8 y.kind, .int .u64 y.n, .bool y.neg, .slice mo2 y.mag.length mc2, .int .u64 y.bits, .int .i8 y.ext, .string (strOfNums y.text), .slice ko2 y.kids.length kc2]) ∧ ReT (up 3) w3.heap.size w' s22 y ∧ AlO (up 4) (up 6) w3.heap.size 31 w' s5 ∧ AlO (up 5) (up 7) w3.heap.size 31 w' s6 ∧ StO (up 6) (up 4) (up 1) w' s5 s20 ∧ StO (up 7) (up 5) (up 3) w' s6 s22 ∧ UnO (up 4) (up 5) s5 s6) (by kernel_rfl) (by kernel_rfl) ?_ ?_ ?_
      · refine ⟨?q1_19, ?q1_20, ?q1_21, ?q1_22, ?q1_5, ?q1_6, ?q1, (Below.refl _ _).drew, fun q => (by cases q), fun q => (by cases q), fun q => (by cases q), fun q => (by cases q), fun q => (by cases q), fun q => (by cases q), fun q => (by cases q), fun q => (by cases q), fun q => (by cases q)⟩
        case q1 =>
          simp only [Act.put, List.setIfInBounds_toArray, List.set_cons_zero, List.set_cons_succ]
          rfl
      · rintro up a wx i o ho ⟨s19, s20, s21, s22, s5, s6, rfl, KW, o0, o1, o2, o3, o4, o5, o6, o7, n01⟩ hu hm K hK
        simp only [Act.put, List.setIfInBounds_toArray, List.set_cons_zero, List.set_cons_succ]
        have hi : i < 8 := (Array.getElem?_eq_some_iff.1 ho).1
        match i, hi with
        | 0, _ =>
          cases ho
          rw [if_pos (by rfl)]
          obtain ⟨p0, p1, p2', p3, p4, p5, p6, p7⟩ := HB1.out.below KW HB1.out.lt
          go_simp
          refine hK (fun k => if k = 0 then true else up k) _ _ rfl (fun k hk => if_neg hk) (⟨_, s20, s21, s22, s5, s6, ?_, KW, (fun _ => rfl : _), (o1 : _), (o2 : _), (o3 : _), (o4 : _), (o5 : _), (o6 : _), (o7 : _), (n01 : _)⟩)
          simp only [Act.put, List.setIfInBounds_toArray, List.set_cons_zero, List.set_cons_succ]
        | 1, _ =>
          cases ho
          rw [if_pos (by rfl)]
          simp [MetB, Region.binds] at hm
          obtain rfl := o0 (by simp [hm])
          go_simp
          go_at_call 7
          with_reducible refine (HT1.out _ KW).mono ?_
          rintro e wz ⟨⟨v_t, rfl, hN⟩, hb⟩
          refine hK (fun k => if k = 1 then true else up k) _ _ rfl (fun k hk => if_neg hk) (⟨_, _, s21, s22, s5, s6, ?_, below_trans KW hb, (o0 : _), (fun _ => TwV.low hN KW.size : _), (o2 : _), (o3.below hb : _), (o4.below hb : _), (o5.below hb : _), (o6.off (Or.inr hu) : _), (o7.below hb : _), (n01 : _)⟩)
          simp only [Act.put, List.setIfInBounds_toArray, List.set_cons_zero, List.set_cons_succ]
        | 2, _ =>
          cases ho
          rw [if_pos (by rfl)]
          obtain ⟨p0, p1, p2', p3, p4, p5, p6, p7⟩ := HB2.out.below KW HB2.out.lt
          go_simp
          refine hK (fun k => if k = 2 then true else up k) _ _ rfl (fun k hk => if_neg hk) (⟨s19, s20, _, s22, s5, s6, ?_, KW, (o0 : _), (o1 : _), (fun _ => rfl : _), (o3 : _), (o4 : _), (o5 : _), (o6 : _), (o7 : _), (n01 : _)⟩)
          simp only [Act.put, List.setIfInBounds_toArray, List.set_cons_zero, List.set_cons_succ]
        | 3, _ =>
          cases ho
          rw [if_pos (by rfl)]
          simp [MetB, Region.binds] at hm
          obtain rfl := o2 (by simp [hm])
          go_simp
          go_at_call 7
          with_reducible refine (HT2.out _ KW).mono ?_
          rintro e wz ⟨⟨v_t, rfl, hN⟩, hb⟩
          refine hK (fun k => if k = 3 then true else up k) _ _ rfl (fun k hk => if_neg hk) (⟨s19, s20, _, _, s5, s6, ?_, below_trans KW hb, (o0 : _), (o1.below hb : _), (o2 : _), (fun _ => TwV.low hN KW.size : _), (o4.below hb : _), (o5.below hb : _), (o6.below hb : _), (o7.off (Or.inr hu) : _), (n01 : _)⟩)
          simp only [Act.put, List.setIfInBounds_toArray, List.set_cons_zero, List.set_cons_succ]
        | 4, _ =>
          cases ho
          rw [if_pos (by rfl)]
          go_simp
          refine hK (fun k => if k = 4 then true else up k) _ _ rfl (fun k hk => if_neg hk) (⟨s19, s20, s21, s22, _, s6, ?_, below_trans KW (bel_new _ _), (o0 : _), (o1.below (bel_new _ _) : _), (o2 : _), (o3.below (bel_new _ _) : _), (AlO.new KW.size _ : _), (o5.below (bel_new _ _) : _), (o6.off (Or.inl hu) : _), (o7.below (bel_new _ _) : _), (o5.unlike' : _)⟩)
          simp only [Act.put, List.setIfInBounds_toArray, List.set_cons_zero, List.set_cons_succ]
        | 5, _ =>
          cases ho
          rw [if_pos (by rfl)]
          go_simp
          refine hK (fun k => if k = 5 then true else up k) _ _ rfl (fun k hk => if_neg hk) (⟨s19, s20, s21, s22, s5, _, ?_, below_trans KW (bel_new _ _), (o0 : _), (o1.below (bel_new _ _) : _), (o2 : _), (o3.below (bel_new _ _) : _), (o4.below (bel_new _ _) : _), (AlO.new KW.size _ : _), (o6.below (bel_new _ _) : _), (o7.off (Or.inl hu) : _), (o4.unlike : _)⟩)
          simp only [Act.put, List.setIfInBounds_toArray, List.set_cons_zero, List.set_cons_succ]
        | 6, _ =>
          cases ho
          rw [if_pos (by rfl)]
          simp [MetB, Region.binds] at hm
          obtain ⟨c, rfl, hc, hlt, hz⟩ := o4 (by simp [hm])
          have hN := o1 (by simp [hm])
          obtain ⟨gm_t, gk_t, rfl⟩ := hN.shape
          have hg := hz hu
          obtain ⟨p0, p1, p2', p3, p4, p5, p6, p7, f0, f1, f2, f3, f4, f5, f6, f7⟩ := cells8 hg
          go_simp
          refine hK (fun k => if k = 6 then true else up k) _ _ rfl (fun k hk => if_neg hk) (⟨s19, _, s21, s22, _, s6, ?_, set8_below KW hc, (o0 : _), (o1.put hg : _), (o2 : _), (o3.put hg : _), (o4.done : _), (o5.put (fun e => n01.symm e (by simp [hm])) : _), (fun _ => ⟨by simp [hm], by simp [hm], c, _, _, _, _, _, _, _, _, rfl, rfl, bx8_put hg⟩ : _), (o7.away (fun e => n01.symm (o7 e).1 (by simp [hm])) : _), (n01 : _)⟩)
          simp only [Act.put, List.setIfInBounds_toArray, List.set_cons_zero, List.set_cons_succ]
        | 7, _ =>
          cases ho
          rw [if_pos (by rfl)]
          simp [MetB, Region.binds] at hm
          obtain ⟨c, rfl, hc, hlt, hz⟩ := o5 (by simp [hm])
          have hN := o3 (by simp [hm])
          obtain ⟨gm_t, gk_t, rfl⟩ := hN.shape
          have hg := hz hu
          obtain ⟨p0, p1, p2', p3, p4, p5, p6, p7, f0, f1, f2, f3, f4, f5, f6, f7⟩ := cells8 hg
          go_simp
          refine hK (fun k => if k = 7 then true else up k) _ _ rfl (fun k hk => if_neg hk) (⟨s19, s20, s21, _, s5, _, ?_, set8_below KW hc, (o0 : _), (o1.put hg : _), (o2 : _), (o3.put hg : _), (o4.put (fun e => n01 e (by simp [hm])) : _), (o5.done : _), (o6.away (fun e => n01 (o6 e).1 (by simp [hm])) : _), (fun _ => ⟨by simp [hm], by simp [hm], c, _, _, _, _, _, _, _, _, rfl, rfl, bx8_put hg⟩ : _), (n01 : _)⟩)
          simp only [Act.put, List.setIfInBounds_toArray, List.set_cons_zero, List.set_cons_succ]
      · rintro up a wx ⟨s19, s20, s21, s22, s5, s6, rfl, KW, o0, o1, o2, o3, o4, o5, o6, o7, n01⟩ hall
        simp only [Act.put, List.setIfInBounds_toArray, List.set_cons_zero, List.set_cons_succ]
        obtain ⟨-, -, b1, x0, x1, x2, x3, x4, x5, x6, x7, rfl, er1, C1⟩ := o6 (hall 6 (by decide))
        have N1 := o1 (hall 1 (by decide))
        obtain ⟨gm1, gk1, rfl⟩ := N1.shape
        cases er1
        obtain ⟨-, -, b2, x0, x1, x2, x3, x4, x5, x6, x7, rfl, er2, C2⟩ := o7 (hall 7 (by decide))
        have N2 := o3 (hall 3 (by decide))
        obtain ⟨gm2, gk2, rfl⟩ := N2.shape
        cases er2
        go_wp2_with fail
        go_meet
        case rel => exact ⟨b1, gm1, gk1, b2, gm2, gk2, rfl, C1, N1, rfl, C2, N2, KW⟩
    case rest =>
      obtain ⟨b1, gm1, gk1, b2, gm2, gk2, rfl, C1, N1, rfl, C2, N2, K⟩ := hcut
      rename World => w5
      replace HB1 := hide (HB1.out.below K HB1.out.lt)
      replace HB2 := hide (HB2.out.below K HB2.out.lt)
      have HC1 := hide C1
      have HC2 := hide C2
      have HK5 := hide (below_trans HK.out K)
      have V1 := H1.out.far HK5.out
      have V2 := H2.out.far HK5.out
      obtain ⟨zt1, -⟩ := HCL.out w5 HK5.out x _ N1.reads
      obtain ⟨zt2, -⟩ := HCL.out w5 HK5.out y _ N2.reads
      obtain ⟨zv1, av1⟩ := HCL.out w5 HK5.out x _ V1
      obtain ⟨zv2, av2⟩ := HCL.out w5 HK5.out y _ V2
      have hx : x.mag.length ≤ 1048576 := by have := vpts_eq x; have := HP.out; omega
      have hy : y.mag.length ≤ 1048576 := by have := vpts_eq y; have := HP.out; omega
      have L5 := hide (HL.out.below HK5.out)
      have T5 := hide (HT.out.below HK5.out)
      have U5 := hide (HU.out.below HK5.out)
      have HF1 := hide (show ∀ W, Below w5.heap.size w5 W → Calls Tryz.prog 12 #[.agg #[.int .i8 x.kind, .int .u64 x.n, .bool x.neg, .slice (some ⟨gm1, 0, none⟩) x.mag.length (x.mag.length + 1), .int .u64 x.bits, .int .i8 x.ext, .string (strOfNums x.text), .slice (some ⟨gk1, 0, none⟩) x.kids.length (x.kids.length + 1)], .agg #[.int .i8 x.kind, .int .u64 x.n, .bool x.neg, .slice mo1 x.mag.length mc1, .int .u64 x.bits, .int .i8 x.ext, .string (strOfNums x.text), .slice ko1 x.kids.length kc1]] W fun e w' => e = .returned (.bool true) ∧ Below W.heap.size W w' from fun W hW => lfv_any W _ _ _ (N1.far hW) (V1.far hW))
      have HF2 := hide (show ∀ W, Below w5.heap.size w5 W → Calls Tryz.prog 12 #[.agg #[.int .i8 y.kind, .int .u64 y.n, .bool y.neg, .slice (some ⟨gm2, 0, none⟩) y.mag.length (y.mag.length + 1), .int .u64 y.bits, .int .i8 y.ext, .string (strOfNums y.text), .slice (some ⟨gk2, 0, none⟩) y.kids.length (y.kids.length + 1)], .agg #[.int .i8 y.kind, .int .u64 y.n, .bool y.neg, .slice mo2 y.mag.length mc2, .int .u64 y.bits, .int .i8 y.ext, .string (strOfNums y.text), .slice ko2 y.kids.length kc2]] W fun e w' => e = .returned (.bool true) ∧ Below W.heap.size W w' from fun W hW => lfv_any W _ _ _ (N2.far hW) (V2.far hW))
      generalize oOf x = q1 at *
      generalize oOf y = q2 at *
      have HD1 := hide (show ∀ W, Below w5.heap.size w5 W → Calls Tryz.prog 14 #[.agg #[.int .i8 x.kind, .int .u64 x.n, .bool x.neg, .slice (some ⟨gm1, 0, none⟩) x.mag.length (x.mag.length + 1), .int .u64 x.bits, .int .i8 x.ext, .string (strOfNums x.text), .slice (some ⟨gk1, 0, none⟩) x.kids.length (x.kids.length + 1)], .agg #[.int .i8 y.kind, .int .u64 y.n, .bool y.neg, .slice (some ⟨gm2, 0, none⟩) y.mag.length (y.mag.length + 1), .int .u64 y.bits, .int .i8 y.ext, .string (strOfNums y.text), .slice (some ⟨gk2, 0, none⟩) y.kids.length (y.kids.length + 1)]] W fun e w' => e = .returned (.tuple #[.int .i64 (ncO q1 q2).1, .bool (ncO q1 q2).2]) ∧ Below W.heap.size W w' from fun W hW => cmp_o (L5.out.below hW) (T5.out.below hW) (U5.out.below hW) (zt1.below hW) (zt2.below hW) (by omega) (by omega))
      have HD2 := hide (show ∀ W, Below w5.heap.size w5 W → Calls Tryz.prog 15 #[.agg #[.int .i8 x.kind, .int .u64 x.n, .bool x.neg, .slice mo1 x.mag.length mc1, .int .u64 x.bits, .int .i8 x.ext, .string (strOfNums x.text), .slice ko1 x.kids.length kc1], .agg #[.int .i8 y.kind, .int .u64 y.n, .bool y.neg, .slice mo2 y.mag.length mc2, .int .u64 y.bits, .int .i8 y.ext, .string (strOfNums y.text), .slice ko2 y.kids.length kc2]] W fun e w' => e = .returned (.tuple #[.int .i64 (ncO q1 q2).1, .bool (ncO q1 q2).2]) ∧ Below W.heap.size W w' from fun W hW => rcmp_o (zv1.below hW) (zv2.below hW) (av1.below hW) (av2.below hW) (by omega) (by omega))
      have HD3 := hide (show ∀ W, Below w5.heap.size w5 W → Calls Tryz.prog 14 #[.agg #[.int .i8 y.kind, .int .u64 y.n, .bool y.neg, .slice (some ⟨gm2, 0, none⟩) y.mag.length (y.mag.length + 1), .int .u64 y.bits, .int .i8 y.ext, .string (strOfNums y.text), .slice (some ⟨gk2, 0, none⟩) y.kids.length (y.kids.length + 1)], .agg #[.int .i8 x.kind, .int .u64 x.n, .bool x.neg, .slice (some ⟨gm1, 0, none⟩) x.mag.length (x.mag.length + 1), .int .u64 x.bits, .int .i8 x.ext, .string (strOfNums x.text), .slice (some ⟨gk1, 0, none⟩) x.kids.length (x.kids.length + 1)]] W fun e w' => e = .returned (.tuple #[.int .i64 (ncO q2 q1).1, .bool (ncO q2 q1).2]) ∧ Below W.heap.size W w' from fun W hW => cmp_o (L5.out.below hW) (T5.out.below hW) (U5.out.below hW) (zt2.below hW) (zt1.below hW) (by omega) (by omega))
      have HD4 := hide (show ∀ W, Below w5.heap.size w5 W → Calls Tryz.prog 15 #[.agg #[.int .i8 y.kind, .int .u64 y.n, .bool y.neg, .slice mo2 y.mag.length mc2, .int .u64 y.bits, .int .i8 y.ext, .string (strOfNums y.text), .slice ko2 y.kids.length kc2], .agg #[.int .i8 x.kind, .int .u64 x.n, .bool x.neg, .slice mo1 x.mag.length mc1, .int .u64 x.bits, .int .i8 x.ext, .string (strOfNums x.text), .slice ko1 x.kids.length kc1]] W fun e w' => e = .returned (.tuple #[.int .i64 (ncO q2 q1).1, .bool (ncO q2 q1).2]) ∧ Below W.heap.size W w' from fun W hW => rcmp_o (zv2.below hW) (zv1.below hW) (av2.below hW) (av1.below hW) (by omega) (by omega))
      generalize (ncO q1 q2).1 = d1 at *
      generalize (ncO q1 q2).2 = k1 at *
      generalize (ncO q2 q1).1 = d2 at *
      generalize (ncO q2 q1).2 = k2 at *
      have HLV := hide (fun (W : World) (hW : Below w5.heap.size w5 W) => nlives (L5.out.below hW) (T5.out.below hW) (U5.out.below hW))
      clear zt1 zt2 zv1 zv2 av1 av2 hx hy V1 V2 N1 N2 C1 C2 K HCL HL HT HU HT1 HT2 H1 H2 HP HK L5 T5 U5
      have HBP := hide (Below.refl w5.heap.size w5)
      obtain ⟨x0, x1, x2, x3, x4, x5, x6, x7⟩ := HB1.out
      obtain ⟨y0, y1, y2, y3, y4, y5, y6, y7⟩ := HB2.out
      obtain ⟨p0, p1, p2, p3, p4, p5, p6, p7⟩ := HC1.out
      obtain ⟨r0, r1, r2, r3, r4, r5, r6, r7⟩ := HC2.out
      go_wp2_with fail
      with_reducible refine (HD1.out _ HBP.out).mono ?_
      rintro e9 wz ⟨rfl, hb⟩
      clear x0 x1 x2 x3 x4 x5 x6 x7 y0 y1 y2 y3 y4 y5 y6 y7 p0 p1 p2 p3 p4 p5 p6 p7 r0 r1 r2 r3 r4 r5 r6 r7
      replace HB1 := hide (HB1.out.below hb HB1.out.lt)
      replace HB2 := hide (HB2.out.below hb HB2.out.lt)
      replace HC1 := hide (HC1.out.below hb HC1.out.lt)
      replace HC2 := hide (HC2.out.below hb HC2.out.lt)
      replace HBP := hide (below_trans HBP.out hb)
      clear hb
      obtain ⟨x0, x1, x2, x3, x4, x5, x6, x7⟩ := HB1.out
      obtain ⟨y0, y1, y2, y3, y4, y5, y6, y7⟩ := HB2.out
      obtain ⟨p0, p1, p2, p3, p4, p5, p6, p7⟩ := HC1.out
      obtain ⟨r0, r1, r2, r3, r4, r5, r6, r7⟩ := HC2.out
      go_wp2_with fail
      with_reducible refine (HD2.out _ HBP.out).mono ?_
      rintro e9 wz ⟨rfl, hb⟩
      clear x0 x1 x2 x3 x4 x5 x6 x7 y0 y1 y2 y3 y4 y5 y6 y7 p0 p1 p2 p3 p4 p5 p6 p7 r0 r1 r2 r3 r4 r5 r6 r7
      replace HB1 := hide (HB1.out.below hb HB1.out.lt)
      replace HB2 := hide (HB2.out.below hb HB2.out.lt)
      replace HC1 := hide (HC1.out.below hb HC1.out.lt)
      replace HC2 := hide (HC2.out.below hb HC2.out.lt)
      replace HBP := hide (below_trans HBP.out hb)
      clear hb
      obtain ⟨x0, x1, x2, x3, x4, x5, x6, x7⟩ := HB1.out
      obtain ⟨y0, y1, y2, y3, y4, y5, y6, y7⟩ := HB2.out
      obtain ⟨p0, p1, p2, p3, p4, p5, p6, p7⟩ := HC1.out
      obtain ⟨r0, r1, r2, r3, r4, r5, r6, r7⟩ := HC2.out
      go_wp2_with fail
      with_reducible refine (HD3.out _ HBP.out).mono ?_
      rintro e9 wz ⟨rfl, hb⟩
      clear x0 x1 x2 x3 x4 x5 x6 x7 y0 y1 y2 y3 y4 y5 y6 y7 p0 p1 p2 p3 p4 p5 p6 p7 r0 r1 r2 r3 r4 r5 r6 r7
      replace HB1 := hide (HB1.out.below hb HB1.out.lt)
      replace HB2 := hide (HB2.out.below hb HB2.out.lt)
      replace HC1 := hide (HC1.out.below hb HC1.out.lt)
      replace HC2 := hide (HC2.out.below hb HC2.out.lt)
      replace HBP := hide (below_trans HBP.out hb)
      clear hb
      obtain ⟨x0, x1, x2, x3, x4, x5, x6, x7⟩ := HB1.out
      obtain ⟨y0, y1, y2, y3, y4, y5, y6, y7⟩ := HB2.out
      obtain ⟨p0, p1, p2, p3, p4, p5, p6, p7⟩ := HC1.out
      obtain ⟨r0, r1, r2, r3, r4, r5, r6, r7⟩ := HC2.out
      go_wp2_with fail
      with_reducible refine (HD4.out _ HBP.out).mono ?_
      rintro e9 wz ⟨rfl, hb⟩
      clear x0 x1 x2 x3 x4 x5 x6 x7 y0 y1 y2 y3 y4 y5 y6 y7 p0 p1 p2 p3 p4 p5 p6 p7 r0 r1 r2 r3 r4 r5 r6 r7
      replace HB1 := hide (HB1.out.below hb HB1.out.lt)
      replace HB2 := hide (HB2.out.below hb HB2.out.lt)
      replace HC1 := hide (HC1.out.below hb HC1.out.lt)
      replace HC2 := hide (HC2.out.below hb HC2.out.lt)
      replace HBP := hide (below_trans HBP.out hb)
      clear hb
      obtain ⟨x0, x1, x2, x3, x4, x5, x6, x7⟩ := HB1.out
      obtain ⟨y0, y1, y2, y3, y4, y5, y6, y7⟩ := HB2.out
      obtain ⟨p0, p1, p2, p3, p4, p5, p6, p7⟩ := HC1.out
      obtain ⟨r0, r1, r2, r3, r4, r5, r6, r7⟩ := HC2.out
      go_wp2_with fail
      with_reducible refine (HF1.out _ HBP.out).mono ?_
      rintro e9 wz ⟨rfl, hb⟩
      clear x0 x1 x2 x3 x4 x5 x6 x7 y0 y1 y2 y3 y4 y5 y6 y7 p0 p1 p2 p3 p4 p5 p6 p7 r0 r1 r2 r3 r4 r5 r6 r7
      replace HB1 := hide (HB1.out.below hb HB1.out.lt)
      replace HB2 := hide (HB2.out.below hb HB2.out.lt)
      replace HC1 := hide (HC1.out.below hb HC1.out.lt)
      replace HC2 := hide (HC2.out.below hb HC2.out.lt)
      replace HBP := hide (below_trans HBP.out hb)
      clear hb
      obtain ⟨x0, x1, x2, x3, x4, x5, x6, x7⟩ := HB1.out
      obtain ⟨y0, y1, y2, y3, y4, y5, y6, y7⟩ := HB2.out
      obtain ⟨p0, p1, p2, p3, p4, p5, p6, p7⟩ := HC1.out
      obtain ⟨r0, r1, r2, r3, r4, r5, r6, r7⟩ := HC2.out
      go_wp2_with fail
      with_reducible refine (HF2.out _ HBP.out).mono ?_
      rintro e9 wz ⟨rfl, hb⟩
      clear x0 x1 x2 x3 x4 x5 x6 x7 y0 y1 y2 y3 y4 y5 y6 y7 p0 p1 p2 p3 p4 p5 p6 p7 r0 r1 r2 r3 r4 r5 r6 r7
      replace HB1 := hide (HB1.out.below hb HB1.out.lt)
      replace HB2 := hide (HB2.out.below hb HB2.out.lt)
      replace HC1 := hide (HC1.out.below hb HC1.out.lt)
      replace HC2 := hide (HC2.out.below hb HC2.out.lt)
      replace HBP := hide (below_trans HBP.out hb)
      clear hb
      obtain ⟨x0, x1, x2, x3, x4, x5, x6, x7⟩ := HB1.out
      obtain ⟨y0, y1, y2, y3, y4, y5, y6, y7⟩ := HB2.out
      obtain ⟨p0, p1, p2, p3, p4, p5, p6, p7⟩ := HC1.out
      obtain ⟨r0, r1, r2, r3, r4, r5, r6, r7⟩ := HC2.out
      go_wp2_with fail
      with_reducible refine (HLV.out _ HBP.out).mono ?_
      rintro e9 wz ⟨rfl, hb⟩
      clear x0 x1 x2 x3 x4 x5 x6 x7 y0 y1 y2 y3 y4 y5 y6 y7 p0 p1 p2 p3 p4 p5 p6 p7 r0 r1 r2 r3 r4 r5 r6 r7
      replace HB1 := hide (HB1.out.below hb HB1.out.lt)
      replace HB2 := hide (HB2.out.below hb HB2.out.lt)
      replace HC1 := hide (HC1.out.below hb HC1.out.lt)
      replace HC2 := hide (HC2.out.below hb HC2.out.lt)
      replace HBP := hide (below_trans HBP.out hb)
      clear hb
      go_wp2
      go_ret
      exact ⟨rfl, below_trans HK5.out HBP.out⟩

end Go.Proofs.YtjigofmcflmelaaGreatDoor
