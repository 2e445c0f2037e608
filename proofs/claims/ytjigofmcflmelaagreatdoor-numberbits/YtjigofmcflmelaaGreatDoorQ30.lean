/- NCb, NCc, NCd, NCe, NCf, NCg, NBw -/
import Derived.Test.YtjigofmcflmelaaGreatDoorQ24
import Derived.Test.YtjigofmcflmelaaGreatDoorQ28
import Derived.Test.YtjigofmcflmelaaGreatDoorQ18
import Derived.Test.YtjigofmcflmelaaGreatDoorQ23
import Derived.Test.YtjigofmcflmelaaGreatDoorQ29
import Derived.Test.YtjigofmcflmelaaGreatDoorQ12
namespace Go.Proofs.YtjigofmcflmelaaGreatDoor
open Go.RowKit
set_option linter.unusedVariables false
set_option linter.unusedSimpArgs false

/-- nothing but the number, or the pattern -/
def al3 (x : Va) : Bool := nrmB x.neg x.mag && (x.n == 0 && (x.bits == 0 && (x.ext == 0 && ((strOfNums x.text).size == 0 && (x.kids.length == 0)))))
def al4 (x : Va) (fb : Bool) : Bool := fb && (x.n == 0 && (!x.neg && (x.mag.length == 0 && (x.ext == 0 && ((strOfNums x.text).size == 0 && (x.kids.length == 0))))))

theorem box8_off {W : World} {b b' i j : Nat} {a0 a1 a2 a3 a4 a5 a6 a7 u u' : Value} (h : Box8 W b a0 a1 a2 a3 a4 a5 a6 a7) (hn : b ≠ b') : Box8 ((W.setCell ⟨b', i, none⟩ u).setCell ⟨b', j, none⟩ u') b a0 a1 a2 a3 a4 a5 a6 a7 := by
  have n : ∀ k l : Nat, (⟨b, k, none⟩ : Addr) ≠ ⟨b', l, none⟩ := fun k l e => hn (by injection e)
  obtain ⟨h0, h1, h2, h3, h4, h5, h6, h7⟩ := h
  refine ⟨?_, ?_, ?_, ?_, ?_, ?_, ?_, ?_⟩ <;>
  · rw [World.cell?_setCell_other _ _ _ _ (by first | exact n _ _ | exact (n _ _).symm), World.cell?_setCell_other _ _ _ _ (by first | exact n _ _ | exact (n _ _).symm)]
    assumption
theorem box8_off1 {W : World} {b b' i : Nat} {a0 a1 a2 a3 a4 a5 a6 a7 u : Value} (h : Box8 W b a0 a1 a2 a3 a4 a5 a6 a7) (hn : b ≠ b') : Box8 (W.setCell ⟨b', i, none⟩ u) b a0 a1 a2 a3 a4 a5 a6 a7 := by
  have n : ∀ k l : Nat, (⟨b, k, none⟩ : Addr) ≠ ⟨b', l, none⟩ := fun k l e => hn (by injection e)
  obtain ⟨h0, h1, h2, h3, h4, h5, h6, h7⟩ := h
  refine ⟨?_, ?_, ?_, ?_, ?_, ?_, ?_, ?_⟩ <;>
  · rw [World.cell?_setCell_other _ _ _ _ (by first | exact n _ _ | exact (n _ _).symm)]
    assumption
theorem box8_set23 {W : World} {b : Nat} {a0 a1 a2 a3 a4 a5 a6 a7 u2 u3 : Value} (h : Box8 W b a0 a1 a2 a3 a4 a5 a6 a7) : Box8 ((W.setCell ⟨b, 2, none⟩ u2).setCell ⟨b, 3, none⟩ u3) b a0 a1 u2 u3 a4 a5 a6 a7 := by
  have n : ∀ k l : Nat, k ≠ l → (⟨b, k, none⟩ : Addr) ≠ ⟨b, l, none⟩ := fun k l h e => h (by injection e)
  obtain ⟨h0, h1, h2, h3, h4, h5, h6, h7⟩ := h
  have e3 : (W.setCell ⟨b, 2, none⟩ u2).cell? ⟨b, 3, none⟩ = some a3 := by
    rw [World.cell?_setCell_other _ _ _ _ (by first | exact n 2 3 (by decide) | exact n 3 2 (by decide))]; exact h3
  have o : ∀ k, k ≠ 2 → k ≠ 3 → ((W.setCell ⟨b, 2, none⟩ u2).setCell ⟨b, 3, none⟩ u3).cell? ⟨b, k, none⟩ = W.cell? ⟨b, k, none⟩ := fun k k2 k3 => by
    rw [World.cell?_setCell_other _ _ _ _ (by first | exact n _ _ k3 | exact n _ _ (Ne.symm k3)), World.cell?_setCell_other _ _ _ _ (by first | exact n _ _ k2 | exact n _ _ (Ne.symm k2))]
  refine ⟨(o 0 (by decide) (by decide)).trans h0, (o 1 (by decide) (by decide)).trans h1, ?_, ?_, (o 4 (by decide) (by decide)).trans h4, (o 5 (by decide) (by decide)).trans h5, (o 6 (by decide) (by decide)).trans h6, (o 7 (by decide) (by decide)).trans h7⟩
  · rw [World.cell?_setCell_other _ _ _ _ (by first | exact n 2 3 (by decide) | exact n 3 2 (by decide))]
    exact World.cell?_setCell_same _ _ _ h2
  · exact World.cell?_setCell_same _ _ _ e3
theorem box8_set4 {W : World} {b : Nat} {a0 a1 a2 a3 a4 a5 a6 a7 u4 : Value} (h : Box8 W b a0 a1 a2 a3 a4 a5 a6 a7) : Box8 (W.setCell ⟨b, 4, none⟩ u4) b a0 a1 a2 a3 u4 a5 a6 a7 := by
  have n : ∀ k l : Nat, k ≠ l → (⟨b, k, none⟩ : Addr) ≠ ⟨b, l, none⟩ := fun k l h e => h (by injection e)
  obtain ⟨h0, h1, h2, h3, h4, h5, h6, h7⟩ := h
  have o : ∀ k, k ≠ 4 → (W.setCell ⟨b, 4, none⟩ u4).cell? ⟨b, k, none⟩ = W.cell? ⟨b, k, none⟩ := fun k k4 => by
    rw [World.cell?_setCell_other _ _ _ _ (by first | exact n _ _ k4 | exact n _ _ (Ne.symm k4))]
  exact ⟨(o 0 (by decide)).trans h0, (o 1 (by decide)).trans h1, (o 2 (by decide)).trans h2, (o 3 (by decide)).trans h3, World.cell?_setCell_same _ _ _ h4, (o 5 (by decide)).trans h5, (o 6 (by decide)).trans h6, (o 7 (by decide)).trans h7⟩

theorem bytes_full8 {s : ByteArray} (h : 0 < s.size) : s.toList.isEmpty = false := by
  rw [ByteArray.toList_eq]
  cases hl : s.data.toList with
  | nil =>
    exfalso
    have h1 : s.data.size = 0 := by rw [← Array.length_toList, hl]; rfl
    have h2 : s.size = s.data.size := rfl
    omega
  | cons _ _ => rfl

set_option maxHeartbeats 16000000 in
set_option maxRecDepth 100000 in
theorem ralone_3 {w : World} {v : Value} {x : Va} (h : VaRd w v x) (h3 : x.kind = 3) :
    Calls Tryz.prog 209 #[v] w fun e w' => e = .returned (.bool (al3 x)) ∧ Below w.heap.size w w' := by
  obtain ⟨⟨vm, vk, rfl, hm, hk⟩, wf⟩ := h
  have HM := hide hm
  obtain ⟨mo, mc, rfl, -⟩ : ∃ ao cap, vm = .slice ao x.mag.length cap ∧ True := by obtain ⟨ao, cap, h, _⟩ := hm; exact ⟨ao, cap, h, trivial⟩
  obtain ⟨ko, kc, rfl, -⟩ := hk.len
  unfold vaV al3
  rw [h3]
  obtain ⟨nb, hnb⟩ : ∃ q, nrmB x.neg x.mag = q := ⟨_, rfl⟩
  have HN := hide hnb
  rw [hnb]
  obtain ⟨n1, hn1⟩ : ∃ n, x.mag.length = n := ⟨_, rfl⟩
  obtain ⟨l1, hl1⟩ : ∃ n, x.kids.length = n := ⟨_, rfl⟩
  obtain ⟨tx, htx⟩ : ∃ t, strOfNums x.text = t := ⟨_, rfl⟩
  rw [hn1] at HM ⊢
  rw [hl1, htx]
  have HCALL := hide (fun (u : World) (hu : Below w.heap.size w u) => (show Calls Tryz.prog 233 #[.agg #[.bool x.neg, .slice mo n1 mc]] u fun e w' => e = .returned (.bool nb) ∧ Below u.heap.size u w' from by
    have h := rnormal_b (g := x.neg) (HM.out.below hu)
    rw [HN.out] at h
    exact h))
  clear hm hk wf h3 hnb hn1 hl1 htx HM HN
  generalize x.n = n at *
  generalize x.neg = g at *
  generalize x.bits = b at *
  generalize x.ext = e at *
  have K0 := hide (bel_new w (.cells #[.int .i8 3, .int .u64 n, .bool g, .slice mo n1 mc, .int .u64 b, .int .i8 e, .string tx, .slice ko l1 kc] 31))
  have BX0 := hide (box8_new w (.int .i8 3) (.int .u64 n) (.bool g) (.slice mo n1 mc) (.int .u64 b) (.int .i8 e) (.string tx) (.slice ko l1 kc) 31)
  go_enter Tryz.func209, Tryz.ntmps209
  go_upto_region 1 with fail
  generalize w.alloc (.cells #[.int .i8 3, .int .u64 n, .bool g, .slice mo n1 mc, .int .u64 b, .int .i8 e, .string tx, .slice ko l1 kc] 31) = W0 at *
  have lt0 : w.heap.size < W0.heap.size := vcell_lt BX0.out.1
  obtain ⟨z0, z1, z2, z3, z4, z5, z6, z7⟩ := BX0.out
  go_upto_region 2 with fail
  have KA := bel_new W0 (.cells #[.int .i8 3, .int .u64 0, .bool false, .slice none 0 0, .int .u64 0, .int .i8 0, .string ⟨#[]⟩, .slice none 0 0] 31)
  have BX1 := hide (BX0.out.below KA lt0)
  have hg1 : (W0.alloc (.cells #[.int .i8 3, .int .u64 0, .bool false, .slice none 0 0, .int .u64 0, .int .i8 0, .string ⟨#[]⟩, .slice none 0 0] 31)).heap[W0.heap.size]? = some (.cells #[.int .i8 3, .int .u64 0, .bool false, .slice none 0 0, .int .u64 0, .int .i8 0, .string ⟨#[]⟩, .slice none 0 0] 31 (0, 0)) := heap_alloc_new _ _
  have K1 := hide (below_trans K0.out KA)
  clear KA z0 z1 z2 z3 z4 z5 z6 z7 BX0
  generalize W0.alloc (.cells #[.int .i8 3, .int .u64 0, .bool false, .slice none 0 0, .int .u64 0, .int .i8 0, .string ⟨#[]⟩, .slice none 0 0] 31) = W1 at *
  obtain ⟨b2, hb2⟩ : ∃ b, W0.heap.size = b := ⟨_, rfl⟩
  rw [hb2] at hg1 lt0 ⊢
  clear hb2
  obtain ⟨y0, y1, y2, y3, y4, y5, y6, y7, f0, f1, f2, f3, f4, f5, f6, f7⟩ := cells8T hg1
  have BY1 : Hid (Box8 W1 b2 (.int .i8 3) (.int .u64 0) (.bool false) (.slice none 0 0) (.int .u64 0) (.int .i8 0) (.string ⟨#[]⟩) (.slice none 0 0)) := hide ⟨y0, y1, y2, y3, y4, y5, y6, y7⟩
  have ltb : b2 < W1.heap.size := vcell_lt y0
  obtain ⟨z0, z1, z2, z3, z4, z5, z6, z7⟩ := BX1.out
  clear hg1
  go_upto_region 11 with fail
  have BX2 := hide (box8_off BX1.out (show w.heap.size ≠ b2 by omega) : Box8 ((W1.setCell ⟨b2, 2, none⟩ (.bool g)).setCell ⟨b2, 3, none⟩ (.slice mo n1 mc)) _ _ _ _ _ _ _ _ _)
  have BY2 := hide (box8_set23 BY1.out : Box8 ((W1.setCell ⟨b2, 2, none⟩ (.bool g)).setCell ⟨b2, 3, none⟩ (.slice mo n1 mc)) _ _ _ _ _ _ _ _ _)
  have K2 : Hid (Below w.heap.size w ((W1.setCell ⟨b2, 2, none⟩ (.bool g)).setCell ⟨b2, 3, none⟩ (.slice mo n1 mc))) := hide ((K1.out.setCell (p := ⟨b2, 2, none⟩) (show w.heap.size ≤ b2 by omega) _).setCell (p := ⟨b2, 3, none⟩) (show w.heap.size ≤ b2 by omega) _)
  clear y0 y1 y2 y3 y4 y5 y6 y7 f0 f1 f2 f3 f4 f5 f6 f7 z0 z1 z2 z3 z4 z5 z6 z7 BX1 BY1 K1
  have lt2 : w.heap.size < ((W1.setCell ⟨b2, 2, none⟩ (.bool g)).setCell ⟨b2, 3, none⟩ (.slice mo n1 mc)).heap.size ∧ b2 < ((W1.setCell ⟨b2, 2, none⟩ (.bool g)).setCell ⟨b2, 3, none⟩ (.slice mo n1 mc)).heap.size := ⟨vcell_lt BX2.out.1, vcell_lt BY2.out.1⟩
  generalize (W1.setCell ⟨b2, 2, none⟩ (.bool g)).setCell ⟨b2, 3, none⟩ (.slice mo n1 mc) = W2 at *
  have CL := hide (HCALL.out W2 K2.out)
  obtain ⟨z0, z1, z2, z3, z4, z5, z6, z7⟩ := BX2.out
  clear HCALL
  go_wp2_with fail
  with_reducible refine CL.out.mono ?_
  rintro e9 W3 ⟨rfl, hb⟩
  have BX3 := hide (BX2.out.below hb lt2.1)
  have BY3 := hide (BY2.out.below hb lt2.2)
  have K3 := hide (below_trans K2.out hb)
  clear z0 z1 z2 z3 z4 z5 z6 z7 BX2 BY2 K2 CL hb lt2 ltb lt0
  obtain ⟨z0, z1, z2, z3, z4, z5, z6, z7⟩ := BX3.out
  obtain ⟨y0, y1, y2, y3, y4, y5, y6, y7⟩ := BY3.out
  clear BX3 BY3
  cases nb with
  | false =>
    go_wp2
    go_ret
    exact ⟨rfl, K3.out⟩
  | true =>
    by_cases c_n : n = 0
    · subst c_n
      by_cases c_b : b = 0
      · subst c_b
        by_cases c_e : e = 0
        · subst c_e
          by_cases c_tx : tx.size = 0
          · obtain rfl : tx = ⟨#[]⟩ := by cases tx; simp_all [ByteArray.size]
            clear c_tx
            by_cases c_l1 : l1 = 0
            · subst c_l1
              go_wp2
              go_ret
              exact ⟨rfl, K3.out⟩
            · have q_l1 : ((l1 : Int) == 0) = false := beq_eq_false_iff_ne.2 (by omega)
              have r_l1 : (l1 == 0) = false := by simp [c_l1]
              have Q := hide r_l1
              go_wp2
              go_ret
              exact ⟨by rw [Q.out]; simp, K3.out⟩
          · have q_tx : tx.toList.isEmpty = false := bytes_full8 (by omega)
            have r_tx : (tx.size == 0) = false := by simp [c_tx]
            have Q := hide r_tx
            clear r_tx c_tx
            go_wp2
            go_ret
            exact ⟨by rw [Q.out]; simp, K3.out⟩
        · have q_e : (e == 0) = false := by simp [c_e]
          have Q := hide q_e
          go_wp2
          go_ret
          exact ⟨by rw [Q.out]; simp, K3.out⟩
      · have q_b : (b == 0) = false := by simp [c_b]
        have Q := hide q_b
        go_wp2
        go_ret
        exact ⟨by rw [Q.out]; simp, K3.out⟩
    · have q_n : (n == 0) = false := by simp [c_n]
      have Q := hide q_n
      go_wp2
      go_ret
      exact ⟨by rw [Q.out]; simp, K3.out⟩

set_option maxHeartbeats 16000000 in
set_option maxRecDepth 100000 in
theorem ralone_4 {w : World} {v : Value} {x : Va} (h : VaRd w v x) (h3 : x.kind = 4) {fb : Bool} (hf : fb = true ↔ FOk x.bits) :
    Calls Tryz.prog 209 #[v] w fun e w' => e = .returned (.bool (al4 x fb)) ∧ Below w.heap.size w w' := by
  obtain ⟨⟨vm, vk, rfl, hm, hk⟩, wf⟩ := h
  have HM := hide hm
  obtain ⟨mo, mc, rfl, -⟩ : ∃ ao cap, vm = .slice ao x.mag.length cap ∧ True := by obtain ⟨ao, cap, h, _⟩ := hm; exact ⟨ao, cap, h, trivial⟩
  obtain ⟨ko, kc, rfl, -⟩ := hk.len
  unfold vaV al4
  rw [h3]
  obtain ⟨nb, hnb⟩ : ∃ q, fb = q := ⟨_, rfl⟩
  have HN := hide hnb
  have HW := hide (rfloat_any (w := w) wf.b0 wf.b1 hf)
  have HWU := hide (fun u : World => rfloat_any (w := u) wf.b0 wf.b1 hf)
  rw [hnb]
  obtain ⟨n1, hn1⟩ : ∃ n, x.mag.length = n := ⟨_, rfl⟩
  obtain ⟨l1, hl1⟩ : ∃ n, x.kids.length = n := ⟨_, rfl⟩
  obtain ⟨tx, htx⟩ : ∃ t, strOfNums x.text = t := ⟨_, rfl⟩
  rw [hn1] at HM ⊢
  rw [hl1, htx]
  have HCALL := hide (fun (u : World) (hu : Below w.heap.size w u) => (show Calls Tryz.prog 234 #[.int .u64 x.bits] u fun e w' => e = .returned (.bool nb) ∧ Below u.heap.size u w' from by
    have h := HWU.out u
    rw [HN.out] at h
    exact h))
  clear hm hk wf h3 hnb hn1 hl1 htx HM HN HW HWU hf
  generalize x.n = n at *
  generalize x.neg = g at *
  generalize x.bits = b at *
  generalize x.ext = e at *
  have K0 := hide (bel_new w (.cells #[.int .i8 4, .int .u64 n, .bool g, .slice mo n1 mc, .int .u64 b, .int .i8 e, .string tx, .slice ko l1 kc] 31))
  have BX0 := hide (box8_new w (.int .i8 4) (.int .u64 n) (.bool g) (.slice mo n1 mc) (.int .u64 b) (.int .i8 e) (.string tx) (.slice ko l1 kc) 31)
  go_enter Tryz.func209, Tryz.ntmps209
  go_upto_region 1 with fail
  generalize w.alloc (.cells #[.int .i8 4, .int .u64 n, .bool g, .slice mo n1 mc, .int .u64 b, .int .i8 e, .string tx, .slice ko l1 kc] 31) = W0 at *
  have lt0 : w.heap.size < W0.heap.size := vcell_lt BX0.out.1
  obtain ⟨z0, z1, z2, z3, z4, z5, z6, z7⟩ := BX0.out
  go_upto_region 2 with fail
  have KA := bel_new W0 (.cells #[.int .i8 4, .int .u64 0, .bool false, .slice none 0 0, .int .u64 0, .int .i8 0, .string ⟨#[]⟩, .slice none 0 0] 31)
  have BX1 := hide (BX0.out.below KA lt0)
  have hg1 : (W0.alloc (.cells #[.int .i8 4, .int .u64 0, .bool false, .slice none 0 0, .int .u64 0, .int .i8 0, .string ⟨#[]⟩, .slice none 0 0] 31)).heap[W0.heap.size]? = some (.cells #[.int .i8 4, .int .u64 0, .bool false, .slice none 0 0, .int .u64 0, .int .i8 0, .string ⟨#[]⟩, .slice none 0 0] 31 (0, 0)) := heap_alloc_new _ _
  have K1 := hide (below_trans K0.out KA)
  clear KA z0 z1 z2 z3 z4 z5 z6 z7 BX0
  generalize W0.alloc (.cells #[.int .i8 4, .int .u64 0, .bool false, .slice none 0 0, .int .u64 0, .int .i8 0, .string ⟨#[]⟩, .slice none 0 0] 31) = W1 at *
  obtain ⟨b2, hb2⟩ : ∃ b, W0.heap.size = b := ⟨_, rfl⟩
  rw [hb2] at hg1 lt0 ⊢
  clear hb2
  obtain ⟨y0, y1, y2, y3, y4, y5, y6, y7, f0, f1, f2, f3, f4, f5, f6, f7⟩ := cells8T hg1
  have BY1 : Hid (Box8 W1 b2 (.int .i8 4) (.int .u64 0) (.bool false) (.slice none 0 0) (.int .u64 0) (.int .i8 0) (.string ⟨#[]⟩) (.slice none 0 0)) := hide ⟨y0, y1, y2, y3, y4, y5, y6, y7⟩
  have ltb : b2 < W1.heap.size := vcell_lt y0
  obtain ⟨z0, z1, z2, z3, z4, z5, z6, z7⟩ := BX1.out
  clear hg1
  go_upto_region 14 with fail
  have BX2 := hide (box8_off1 BX1.out (show w.heap.size ≠ b2 by omega) : Box8 (W1.setCell ⟨b2, 4, none⟩ (.int .u64 b)) _ _ _ _ _ _ _ _ _)
  have BY2 := hide (box8_set4 BY1.out : Box8 (W1.setCell ⟨b2, 4, none⟩ (.int .u64 b)) _ _ _ _ _ _ _ _ _)
  have K2 : Hid (Below w.heap.size w (W1.setCell ⟨b2, 4, none⟩ (.int .u64 b))) := hide (K1.out.setCell (p := ⟨b2, 4, none⟩) (show w.heap.size ≤ b2 by omega) _)
  clear y0 y1 y2 y3 y4 y5 y6 y7 f0 f1 f2 f3 f4 f5 f6 f7 z0 z1 z2 z3 z4 z5 z6 z7 BX1 BY1 K1
  have lt2 : w.heap.size < (W1.setCell ⟨b2, 4, none⟩ (.int .u64 b)).heap.size ∧ b2 < (W1.setCell ⟨b2, 4, none⟩ (.int .u64 b)).heap.size := ⟨vcell_lt BX2.out.1, vcell_lt BY2.out.1⟩
  generalize W1.setCell ⟨b2, 4, none⟩ (.int .u64 b) = W2 at *
  have CL := hide (HCALL.out W2 K2.out)
  obtain ⟨z0, z1, z2, z3, z4, z5, z6, z7⟩ := BX2.out
  clear HCALL
  go_wp2_with fail
  with_reducible refine CL.out.mono ?_
  rintro e9 W3 ⟨rfl, hb⟩
  have BX3 := hide (BX2.out.below hb lt2.1)
  have BY3 := hide (BY2.out.below hb lt2.2)
  have K3 := hide (below_trans K2.out hb)
  clear z0 z1 z2 z3 z4 z5 z6 z7 BX2 BY2 K2 CL hb lt2 ltb lt0
  obtain ⟨z0, z1, z2, z3, z4, z5, z6, z7⟩ := BX3.out
  obtain ⟨y0, y1, y2, y3, y4, y5, y6, y7⟩ := BY3.out
  clear BX3 BY3
  cases nb with
  | false =>
    go_wp2
    go_ret
    exact ⟨rfl, K3.out⟩
  | true =>
    by_cases c_n : n = 0
    · subst c_n
      cases g with
      | false =>
        by_cases c_n1 : n1 = 0
        · subst c_n1
          by_cases c_e : e = 0
          · subst c_e
            by_cases c_tx : tx.size = 0
            · obtain rfl : tx = ⟨#[]⟩ := by cases tx; simp_all [ByteArray.size]
              clear c_tx
              by_cases c_l1 : l1 = 0
              · subst c_l1
                go_wp2
                go_ret
                exact ⟨rfl, K3.out⟩
              · have q_l1 : ((l1 : Int) == 0) = false := beq_eq_false_iff_ne.2 (by omega)
                have r_l1 : (l1 == 0) = false := by simp [c_l1]
                have Q := hide r_l1
                go_wp2
                go_ret
                exact ⟨by rw [Q.out]; simp, K3.out⟩
            · have q_tx : tx.toList.isEmpty = false := bytes_full8 (by omega)
              have r_tx : (tx.size == 0) = false := by simp [c_tx]
              have Q := hide r_tx
              clear r_tx c_tx
              go_wp2
              go_ret
              exact ⟨by rw [Q.out]; simp, K3.out⟩
          · have q_e : (e == 0) = false := by simp [c_e]
            have Q := hide q_e
            go_wp2
            go_ret
            exact ⟨by rw [Q.out]; simp, K3.out⟩
        · have q_n1 : ((n1 : Int) == 0) = false := beq_eq_false_iff_ne.2 (by omega)
          have r_n1 : (n1 == 0) = false := by simp [c_n1]
          have Q := hide r_n1
          go_wp2
          go_ret
          exact ⟨by rw [Q.out]; simp, K3.out⟩
      | true =>
        go_wp2
        go_ret
        exact ⟨by simp, K3.out⟩
    · have q_n : (n == 0) = false := by simp [c_n]
      have Q := hide q_n
      go_wp2
      go_ret
      exact ⟨by rw [Q.out]; simp, K3.out⟩

end Go.Proofs.YtjigofmcflmelaaGreatDoor

namespace Go.Proofs.YtjigofmcflmelaaGreatDoor
open Go.RowKit
set_option linter.unusedVariables false
set_option linter.unusedSimpArgs false

/-- the value's shape: its eight cells -/
def Sh8 (v : Value) (k n b e : Int) (g : Bool) (m : Value) (tx : ByteArray) (ko : Option Addr) (l kc : Nat) : Prop := v = .agg #[.int .i8 k, .int .u64 n, .bool g, m, .int .u64 b, .int .i8 e, .string tx, .slice ko l kc]
/-- Alone answers so in all later worlds -/
def AlIs (w : World) (v : Value) (q : Bool) : Prop := ∀ u, Below w.heap.size w u → Calls Tryz.prog 209 #[v] u fun e w' => e = .returned (.bool q) ∧ Below u.heap.size u w'

set_option maxHeartbeats 4000000 in
set_option maxRecDepth 20000 in
theorem rwrong_bad {w : World} {k n b e : Int} {g : Bool} {mo ko : Option Addr} {ml mc l kc : Nat} {tx : ByteArray} (hA : AlIs w (.agg #[.int .i8 k, .int .u64 n, .bool g, .slice mo ml mc, .int .u64 b, .int .i8 e, .string tx, .slice ko l kc]) false) :
    Calls Tryz.prog 176 #[.agg #[.int .i8 k, .int .u64 n, .bool g, .slice mo ml mc, .int .u64 b, .int .i8 e, .string tx, .slice ko l kc], .slice none 0 0] w fun x w' => x = .returned (.tuple #[.slice none 0 0, .bool true]) ∧ Below w.heap.size w w' := by
  have K1 := hide (bel_new w (.cells #[.int .i8 k, .int .u64 n, .bool g, .slice mo ml mc, .int .u64 b, .int .i8 e, .string tx, .slice ko l kc] 31))
  have HC := hide (hA _ K1.out)
  clear hA
  go_enter Tryz.func176, Tryz.ntmps176
  go_wp2_with fail
  with_reducible refine HC.out.mono ?_
  rintro x w2 ⟨rfl, hb⟩
  have K2 := hide (below_trans K1.out hb)
  clear hb HC
  go_wp2
  go_ret2
  exact ⟨rfl, K2.out⟩

set_option maxHeartbeats 4000000 in
set_option maxRecDepth 20000 in
theorem rwrong_ok {w : World} {k n b e : Int} {g : Bool} {mo ko : Option Addr} {ml mc kc : Nat} {tx : ByteArray} (hA : AlIs w (.agg #[.int .i8 k, .int .u64 n, .bool g, .slice mo ml mc, .int .u64 b, .int .i8 e, .string tx, .slice ko 0 kc]) true) :
    Calls Tryz.prog 176 #[.agg #[.int .i8 k, .int .u64 n, .bool g, .slice mo ml mc, .int .u64 b, .int .i8 e, .string tx, .slice ko 0 kc], .slice none 0 0] w fun x w' => x = .returned (.tuple #[.slice none 0 0, .bool false]) ∧ Below w.heap.size w w' := by
  have K1 := hide (bel_new w (.cells #[.int .i8 k, .int .u64 n, .bool g, .slice mo ml mc, .int .u64 b, .int .i8 e, .string tx, .slice ko 0 kc] 31))
  have BX := hide (box8_new w (.int .i8 k) (.int .u64 n) (.bool g) (.slice mo ml mc) (.int .u64 b) (.int .i8 e) (.string tx) (.slice ko 0 kc) 31)
  have HC := hide (hA _ K1.out)
  clear hA
  go_enter Tryz.func176, Tryz.ntmps176
  go_upto_region 1 with fail
  generalize w.alloc (.cells #[.int .i8 k, .int .u64 n, .bool g, .slice mo ml mc, .int .u64 b, .int .i8 e, .string tx, .slice ko 0 kc] 31) = w1 at *
  have lt1 : w.heap.size < w1.heap.size := vcell_lt BX.out.1
  obtain ⟨z0, z1, z2, z3, z4, z5, z6, z7⟩ := BX.out
  go_wp2_with fail
  with_reducible refine HC.out.mono ?_
  rintro x w2 ⟨rfl, hb⟩
  have K2 := hide (below_trans K1.out hb)
  have BX2 := hide (BX.out.below hb lt1)
  clear hb HC z0 z1 z2 z3 z4 z5 z6 z7 BX
  obtain ⟨z0, z1, z2, z3, z4, z5, z6, z7⟩ := BX2.out
  go_wp2
  go_loopw [6] (fun iv wr => iv = .int .i64 0 ∧ wr = w2) (fun _ _ => 0)
  case atStart => exact ⟨rfl, rfl⟩
  case round =>
    obtain ⟨rfl, rfl⟩ := hrel
    go_wp2
    go_ret2
    exact ⟨rfl, K2.out⟩

set_option maxHeartbeats 4000000 in
set_option maxRecDepth 20000 in
theorem rdeep_ok {w : World} {k n b e : Int} {g : Bool} {mo ko : Option Addr} {ml mc l kc : Nat} {tx : ByteArray} (h7 : k ≠ 7) (h8 : k ≠ 8) (h9 : k ≠ 9) :
    Calls Tryz.prog 178 #[.agg #[.int .i8 k, .int .u64 n, .bool g, .slice mo ml mc, .int .u64 b, .int .i8 e, .string tx, .slice ko l kc], .slice none 0 0] w fun x w' => x = .returned (.tuple #[.slice none 0 0, .bool false]) ∧ Below w.heap.size w w' := by
  have e7 : (k == 7) = false := by simp [h7]
  have e8 : (k == 8) = false := by simp [h8]
  have e9 : (k == 9) = false := by simp [h9]
  have HC := hide (fun u : World => (show Calls Tryz.prog 211 #[.agg #[.int .i8 k, .int .u64 n, .bool g, .slice mo ml mc, .int .u64 b, .int .i8 e, .string tx, .slice ko l kc]] u fun x w' => x = .returned (.bool false) ∧ Below u.heap.size u w' from by
    go_enter Tryz.func211, Tryz.ntmps211
    go_wp2
    go_ret
    exact ⟨rfl, bel_new _ _⟩))
  have K1 := hide (bel_new w (.cells #[.int .i8 k, .int .u64 n, .bool g, .slice mo ml mc, .int .u64 b, .int .i8 e, .string tx, .slice ko l kc] 31))
  clear e7 e8 e9 h7 h8 h9
  go_enter Tryz.func178, Tryz.ntmps178
  go_wp2_with fail
  with_reducible refine (HC.out _).mono ?_
  rintro x w2 ⟨rfl, hb⟩
  have K2 := hide (below_trans K1.out hb)
  clear hb HC
  go_wp2
  go_ret2
  exact ⟨rfl, K2.out⟩

set_option maxHeartbeats 4000000 in
set_option maxRecDepth 20000 in
theorem rpath_nil {w : World} : Calls Tryz.prog 177 #[.slice none 0 0] w fun x w' => x = .returned (.string ⟨#[]⟩) ∧ Below w.heap.size w w' := by
  have hcv := run_convert_bytes_nil (P := Tryz.prog) w 160 5 Tryz.underlying160 Tryz.underlying5 0 0 9 Tryz.underlying9
  go_enter Tryz.func177, Tryz.ntmps177
  go_wp2
  go_loopw [3, 4] (fun ov iv wr => ov = .slice none 0 0 ∧ iv = .int .i64 0 ∧ wr = w) (fun _ _ _ => 0)
  case atStart => exact ⟨rfl, rfl, rfl⟩
  case round =>
    obtain ⟨rfl, rfl, rfl⟩ := hrel
    go_wp2
    go_ret
    exact ⟨rfl, Below.refl _ _⟩


abbrev okF : Value := .agg #[.int .i64 0, .int .i64 0, .string ⟨#[]⟩]
abbrev noF : Value := .agg #[.int .i64 1, .int .i64 0, .string ⟨#[]⟩]
theorem cells3T {u : World} {b : Nat} {a0 a1 a2 : Value} {t : TypeId} (h : u.heap[b]? = some (.cells #[a0, a1, a2] t (0, 0))) :
    u.cell? ⟨b, 0, none⟩ = some a0 ∧ u.cell? ⟨b, 1, none⟩ = some a1 ∧ u.cell? ⟨b, 2, none⟩ = some a2 ∧ u.frozen? ⟨b, 0, none⟩ = false ∧ u.frozen? ⟨b, 1, none⟩ = false ∧ u.frozen? ⟨b, 2, none⟩ = false := by
  refine ⟨?_, ?_, ?_, ?_, ?_, ?_⟩ <;> simp [World.cell?, World.frozen?, h]
theorem put3_below {B b : Nat} {w w4 : World} {v0 v1 v2 : Value} (h : Below B w w4) (hb : B ≤ b) : Below B w (((w4.setCell ⟨b, 0, none⟩ v0).setCell ⟨b, 1, none⟩ v1).setCell ⟨b, 2, none⟩ v2) :=
  ((h.setCell (p := ⟨b, _, none⟩) hb v0).setCell (p := ⟨b, _, none⟩) hb v1).setCell (p := ⟨b, _, none⟩) hb v2

set_option maxHeartbeats 8000000 in
set_option maxRecDepth 20000 in
theorem rcheck_bad {w : World} {k n b e : Int} {g : Bool} {mo ko : Option Addr} {ml mc l kc : Nat} {tx : ByteArray} (hA : AlIs w (.agg #[.int .i8 k, .int .u64 n, .bool g, .slice mo ml mc, .int .u64 b, .int .i8 e, .string tx, .slice ko l kc]) false) :
    Calls Tryz.prog 101 #[.agg #[.int .i8 k, .int .u64 n, .bool g, .slice mo ml mc, .int .u64 b, .int .i8 e, .string tx, .slice ko l kc]] w fun x w' => x = .returned noF ∧ Below w.heap.size w w' := by
  have KA := bel_new w (.cells #[.int .i8 k, .int .u64 n, .bool g, .slice mo ml mc, .int .u64 b, .int .i8 e, .string tx, .slice ko l kc] 31)
  have KB := bel_new (w.alloc (.cells #[.int .i8 k, .int .u64 n, .bool g, .slice mo ml mc, .int .u64 b, .int .i8 e, .string tx, .slice ko l kc] 31)) (.cells #[.int .i64 0, .int .i64 0, .string ⟨#[]⟩] 111)
  have K1 := hide (below_trans KA KB)
  have BX := hide ((box8_new w (.int .i8 k) (.int .u64 n) (.bool g) (.slice mo ml mc) (.int .u64 b) (.int .i8 e) (.string tx) (.slice ko l kc) 31).below KB (by simp))
  have hg0 : ((w.alloc (.cells #[.int .i8 k, .int .u64 n, .bool g, .slice mo ml mc, .int .u64 b, .int .i8 e, .string tx, .slice ko l kc] 31)).alloc (.cells #[.int .i64 0, .int .i64 0, .string ⟨#[]⟩] 111)).heap[(w.alloc (.cells #[.int .i8 k, .int .u64 n, .bool g, .slice mo ml mc, .int .u64 b, .int .i8 e, .string tx, .slice ko l kc] 31)).heap.size]? = some (.cells #[.int .i64 0, .int .i64 0, .string ⟨#[]⟩] 111 (0, 0)) := heap_alloc_new _ _
  rw [show (w.alloc (.cells #[.int .i8 k, .int .u64 n, .bool g, .slice mo ml mc, .int .u64 b, .int .i8 e, .string tx, .slice ko l kc] 31)).heap.size = w.heap.size + 1 by simp] at hg0
  have HG := hide hg0
  have HA := hide hA
  clear KA KB hg0 hA
  go_enter Tryz.func101, Tryz.ntmps101
  go_upto_region 1 with fail
  generalize (w.alloc (.cells #[.int .i8 k, .int .u64 n, .bool g, .slice mo ml mc, .int .u64 b, .int .i8 e, .string tx, .slice ko l kc] 31)).alloc (.cells #[.int .i64 0, .int .i64 0, .string ⟨#[]⟩] 111) = w1 at *
  have lt1 : w.heap.size + 1 < w1.heap.size := vcell_lt (cells3T HG.out).1
  have HA1 : AlIs w1 (.agg #[.int .i8 k, .int .u64 n, .bool g, .slice mo ml mc, .int .u64 b, .int .i8 e, .string tx, .slice ko l kc]) false := fun u hu => HA.out u (below_trans K1.out hu)
  have HC := hide (rwrong_bad HA1)
  obtain ⟨z0, z1, z2, z3, z4, z5, z6, z7⟩ := BX.out
  clear HA HA1
  go_wp2_with fail
  with_reducible refine HC.out.mono ?_
  rintro x w2 ⟨rfl, hb⟩
  have K2 := hide (below_trans K1.out hb)
  have hg := (hb.block _ lt1).trans HG.out
  have HG2 := hide hg
  have lt2 : w.heap.size + 1 < w2.heap.size := Nat.lt_of_lt_of_le lt1 hb.size
  clear hb HC z0 z1 z2 z3 z4 z5 z6 z7 BX hg HG
  go_wp2_with fail
  with_reducible refine rpath_nil.mono ?_
  rintro x w3 ⟨rfl, hb⟩
  have K3 := hide (below_trans K2.out hb)
  obtain ⟨c0, c1, c2, f0, f1, f2⟩ := cells3T ((hb.block _ lt2).trans HG2.out)
  have KZ := hide (put3_below (b := w.heap.size + 1) (v0 := .int .i64 1) (v1 := .int .i64 0) (v2 := .string ⟨#[]⟩) K3.out (by omega))
  clear hb HG2 lt1 lt2 K2 K1
  go_wp2
  refine bodyPost_ret (v := noF) ?_ rfl ?_
  · rw [results_cellT rfl]
    go_simp
  · exact ⟨rfl, KZ.out⟩

set_option maxHeartbeats 8000000 in
set_option maxRecDepth 20000 in
theorem rcheck_ok {w : World} {k n b e : Int} {g : Bool} {mo ko : Option Addr} {ml mc kc : Nat} {tx : ByteArray} (h7 : k ≠ 7) (h8 : k ≠ 8) (h9 : k ≠ 9) (hA : AlIs w (.agg #[.int .i8 k, .int .u64 n, .bool g, .slice mo ml mc, .int .u64 b, .int .i8 e, .string tx, .slice ko 0 kc]) true) :
    Calls Tryz.prog 101 #[.agg #[.int .i8 k, .int .u64 n, .bool g, .slice mo ml mc, .int .u64 b, .int .i8 e, .string tx, .slice ko 0 kc]] w fun x w' => x = .returned okF ∧ Below w.heap.size w w' := by
  have KA := bel_new w (.cells #[.int .i8 k, .int .u64 n, .bool g, .slice mo ml mc, .int .u64 b, .int .i8 e, .string tx, .slice ko 0 kc] 31)
  have KB := bel_new (w.alloc (.cells #[.int .i8 k, .int .u64 n, .bool g, .slice mo ml mc, .int .u64 b, .int .i8 e, .string tx, .slice ko 0 kc] 31)) (.cells #[.int .i64 0, .int .i64 0, .string ⟨#[]⟩] 111)
  have K1 := hide (below_trans KA KB)
  have BX := hide ((box8_new w (.int .i8 k) (.int .u64 n) (.bool g) (.slice mo ml mc) (.int .u64 b) (.int .i8 e) (.string tx) (.slice ko 0 kc) 31).below KB (by simp))
  have hg0 : ((w.alloc (.cells #[.int .i8 k, .int .u64 n, .bool g, .slice mo ml mc, .int .u64 b, .int .i8 e, .string tx, .slice ko 0 kc] 31)).alloc (.cells #[.int .i64 0, .int .i64 0, .string ⟨#[]⟩] 111)).heap[(w.alloc (.cells #[.int .i8 k, .int .u64 n, .bool g, .slice mo ml mc, .int .u64 b, .int .i8 e, .string tx, .slice ko 0 kc] 31)).heap.size]? = some (.cells #[.int .i64 0, .int .i64 0, .string ⟨#[]⟩] 111 (0, 0)) := heap_alloc_new _ _
  rw [show (w.alloc (.cells #[.int .i8 k, .int .u64 n, .bool g, .slice mo ml mc, .int .u64 b, .int .i8 e, .string tx, .slice ko 0 kc] 31)).heap.size = w.heap.size + 1 by simp] at hg0
  have HG := hide hg0
  have HA := hide hA
  have H789 := hide (And.intro h7 (And.intro h8 h9))
  clear KA KB hg0 hA h7 h8 h9
  go_enter Tryz.func101, Tryz.ntmps101
  go_upto_region 1 with fail
  generalize (w.alloc (.cells #[.int .i8 k, .int .u64 n, .bool g, .slice mo ml mc, .int .u64 b, .int .i8 e, .string tx, .slice ko 0 kc] 31)).alloc (.cells #[.int .i64 0, .int .i64 0, .string ⟨#[]⟩] 111) = w1 at *
  have lt1 : w.heap.size + 1 < w1.heap.size := vcell_lt (cells3T HG.out).1
  have HA1 : AlIs w1 (.agg #[.int .i8 k, .int .u64 n, .bool g, .slice mo ml mc, .int .u64 b, .int .i8 e, .string tx, .slice ko 0 kc]) true := fun u hu => HA.out u (below_trans K1.out hu)
  have HC := hide (rwrong_ok HA1)
  obtain ⟨z0, z1, z2, z3, z4, z5, z6, z7⟩ := BX.out
  clear HA HA1
  go_wp2_with fail
  with_reducible refine HC.out.mono ?_
  rintro x w2 ⟨rfl, hb⟩
  have K2 := hide (below_trans K1.out hb)
  have hg := (hb.block _ lt1).trans HG.out
  have HG2 := hide hg
  have BX2 := hide (BX.out.below hb (by omega))
  have lt2 : w.heap.size + 1 < w2.heap.size := Nat.lt_of_lt_of_le lt1 hb.size
  clear hb HC z0 z1 z2 z3 z4 z5 z6 z7 BX hg HG
  obtain ⟨z0, z1, z2, z3, z4, z5, z6, z7⟩ := BX2.out
  go_wp2_with fail
  with_reducible refine (rdeep_ok H789.out.1 H789.out.2.1 H789.out.2.2).mono ?_
  rintro x w3 ⟨rfl, hb⟩
  have K3 := hide (below_trans K2.out hb)
  obtain ⟨c0, c1, c2, f0, f1, f2⟩ := cells3T ((hb.block _ lt2).trans HG2.out)
  have KZ := hide (put3_below (b := w.heap.size + 1) (v0 := .int .i64 0) (v1 := .int .i64 0) (v2 := .string ⟨#[]⟩) K3.out (by omega))
  clear hb HG2 lt1 lt2 K2 K1 z0 z1 z2 z3 z4 z5 z6 z7
  go_wp2
  refine bodyPost_ret (v := okF) ?_ rfl ?_
  · rw [results_cellT rfl]
    go_simp
  · exact ⟨rfl, KZ.out⟩

end Go.Proofs.YtjigofmcflmelaaGreatDoor

namespace Go.Proofs.YtjigofmcflmelaaGreatDoor
open Go.RowKit
set_option linter.unusedVariables false
set_option linter.unusedSimpArgs false

set_option maxHeartbeats 8000000 in
set_option maxRecDepth 20000 in
theorem ris_other {w : World} {k n b e : Int} {g : Bool} {mo ko : Option Addr} {ml mc l kc : Nat} {tx : ByteArray} (h3 : k ≠ 3) (h4 : k ≠ 4) :
    Calls Tryz.prog 31 #[.agg #[.int .i8 k, .int .u64 n, .bool g, .slice mo ml mc, .int .u64 b, .int .i8 e, .string tx, .slice ko l kc]] w fun x w' => x = .returned (.bool false) ∧ Below w.heap.size w w' := by
  have e3 : (k == 3) = false := by simp [h3]
  have e4 : (k == 4) = false := by simp [h4]
  go_enter Tryz.func31, Tryz.ntmps31
  go_wp2
  go_ret
  exact ⟨rfl, bel_new _ _⟩

set_option maxHeartbeats 8000000 in
set_option maxRecDepth 20000 in
theorem ris_num {w : World} {k n b e : Int} {g q : Bool} {mo ko : Option Addr} {ml mc l kc : Nat} {tx : ByteArray} (hk : k = 3 ∨ k = 4)
    (hC : ∀ u, Below w.heap.size w u → Calls Tryz.prog 101 #[.agg #[.int .i8 k, .int .u64 n, .bool g, .slice mo ml mc, .int .u64 b, .int .i8 e, .string tx, .slice ko l kc]] u fun x w' => x = .returned (if q then okF else noF) ∧ Below u.heap.size u w') :
    Calls Tryz.prog 31 #[.agg #[.int .i8 k, .int .u64 n, .bool g, .slice mo ml mc, .int .u64 b, .int .i8 e, .string tx, .slice ko l kc]] w fun x w' => x = .returned (.bool q) ∧ Below w.heap.size w w' := by
  have K1 := hide (bel_new w (.cells #[.int .i8 k, .int .u64 n, .bool g, .slice mo ml mc, .int .u64 b, .int .i8 e, .string tx, .slice ko l kc] 31))
  have HC := hide (hC _ K1.out)
  clear hC
  rcases hk with rfl | rfl <;> cases q <;>
  · simp only [if_true, if_false, Bool.false_eq_true] at HC
    go_enter Tryz.func31, Tryz.ntmps31
    go_wp2_with fail
    with_reducible refine HC.out.mono ?_
    rintro x w2 ⟨rfl, hb⟩
    have K2 := hide (below_trans K1.out hb)
    clear hb HC
    go_wp2
    go_ret
    exact ⟨rfl, K2.out⟩

end Go.Proofs.YtjigofmcflmelaaGreatDoor

namespace Go.Proofs.YtjigofmcflmelaaGreatDoor
open Go.RowKit
set_option linter.unusedVariables false
set_option linter.unusedSimpArgs false

theorem bytes_nil {s : ByteArray} (h : s.size = 0) : s = ⟨#[]⟩ := by cases s; simp_all [ByteArray.size]
theorem al3_c (x : Va) : ((bits .andNot .u8 (flr x.n x.neg x.mag.length x.bits x.ext (strOfNums x.text) x.kids.length) 2 == 0) && nrmB x.neg x.mag) = al3 x := by
  apply Bool.eq_iff_iff.2
  constructor
  · intro h
    obtain ⟨e1, e2⟩ := Bool.and_eq_true_iff.1 h
    obtain ⟨q1, q2, q3, q4, q5⟩ := flr_3 e1
    unfold al3
    rw [q1, q2, q3, q4, q5, e2]
    rfl
  · intro h
    unfold al3 at h
    simp only [Bool.and_eq_true, beq_iff_eq] at h
    obtain ⟨h0, h1, h2, h3, h4, h5⟩ := h
    rw [h1, h2, h3, bytes_nil h4, h5, h0, flr_w]
    rfl
theorem al4_c (x : Va) (fb : Bool) : ((bits .andNot .u8 (flr x.n x.neg x.mag.length x.bits x.ext (strOfNums x.text) x.kids.length) 4 == 0) && fb) = al4 x fb := by
  apply Bool.eq_iff_iff.2
  constructor
  · intro h
    obtain ⟨e1, e2⟩ := Bool.and_eq_true_iff.1 h
    obtain ⟨q1, q2, q3, q4, q5, q6⟩ := flr_4 e1
    unfold al4
    rw [q1, q2, q3, q4, q5, q6, e2]
    rfl
  · intro h
    unfold al4 at h
    simp only [Bool.and_eq_true, beq_iff_eq, Bool.not_eq_true'] at h
    obtain ⟨h0, h1, h2, h3, h4, h5, h6⟩ := h
    rw [h1, h2, h3, h4, bytes_nil h5, h6, h0, flr_f]
    rfl
/-- the document says whether it is a number -/
def IsA (w : World) (v : Value) (q : Bool) : Prop := ∀ u, Below w.heap.size w u → Calls Tryz.prog 31 #[v] u fun e w' => e = .returned (.bool q) ∧ Below u.heap.size u w'
theorem IsA.below {w w' : World} {v : Value} {q : Bool} (h : IsA w v q) (hb : Below w.heap.size w w') : IsA w' v q := fun u hu => h u (below_trans hb hu)
theorem isa_bad {w : World} {k n b e : Int} {g : Bool} {mo ko : Option Addr} {ml mc l kc : Nat} {tx : ByteArray} (hk : k = 3 ∨ k = 4) (hA : AlIs w (.agg #[.int .i8 k, .int .u64 n, .bool g, .slice mo ml mc, .int .u64 b, .int .i8 e, .string tx, .slice ko l kc]) false) :
    IsA w (.agg #[.int .i8 k, .int .u64 n, .bool g, .slice mo ml mc, .int .u64 b, .int .i8 e, .string tx, .slice ko l kc]) false := fun u hu =>
  ris_num (q := false) hk fun u2 hu2 => rcheck_bad fun u3 hu3 => hA u3 (below_trans (below_trans hu hu2) hu3)
theorem isa_ok {w : World} {k n b e : Int} {g : Bool} {mo ko : Option Addr} {ml mc kc : Nat} {tx : ByteArray} (hk : k = 3 ∨ k = 4) (hA : AlIs w (.agg #[.int .i8 k, .int .u64 n, .bool g, .slice mo ml mc, .int .u64 b, .int .i8 e, .string tx, .slice ko 0 kc]) true) :
    IsA w (.agg #[.int .i8 k, .int .u64 n, .bool g, .slice mo ml mc, .int .u64 b, .int .i8 e, .string tx, .slice ko 0 kc]) true := fun u hu =>
  ris_num (q := true) hk fun u2 hu2 => rcheck_ok (by rcases hk with rfl | rfl <;> decide) (by rcases hk with rfl | rfl <;> decide) (by rcases hk with rfl | rfl <;> decide) fun u3 hu3 => hA u3 (below_trans (below_trans hu hu2) hu3)

/-- it is a number that may be, and which -/
def Ck (x : Va) : Prop := (x.kind = 3 ∧ al3 x = true) ∨ (x.kind = 4 ∧ ∃ fb : Bool, (fb = true ↔ FOk x.bits) ∧ al4 x fb = true)
def zOf (x : Va) : NZ := if x.kind = 3 then .w (wn x.neg (Nt.val x.mag)) else .f x.bits

theorem num_cl {w : World} (L : Lays w) (T : Brn w) (U : Uss w) {et : TypeId} {eo : Option Addr} (hE : w.cell? ⟨0, 0, none⟩ = some (.iface et (.pointer eo))) (hEl : 0 < w.heap.size)
    {x : Va} {v : Value} (h : VaRd w v x) {K : Nat} (hK : x.mag.length ≤ K) : (Ck x ∧ NRe w v K (zOf x) ∧ IsA w v true) ∨ (¬ Ck x ∧ NoN w v ∧ IsA w v false) := by
  have H := h
  obtain ⟨⟨vm, vk, rfl, hm, hk⟩, wf⟩ := h
  have hm' := hm
  obtain ⟨mo, mc, rfl, -, hmx, -⟩ := hm
  obtain ⟨ko, kc, rfl, -, -⟩ := hk.len
  have stop : ∀ {k : Int}, (k = 3 ∨ k = 4) → (∀ W, Below w.heap.size w W → Calls Tryz.prog 173 #[.agg #[.int .i8 k, .int .u64 x.n, .bool x.neg, .slice mo x.mag.length mc, .int .u64 x.bits, .int .i8 x.ext, .string (strOfNums x.text), .slice ko x.kids.length kc]] W fun e W' => e = .returned (.bool false) ∧ Below W.heap.size W W') →
      NoN w (.agg #[.int .i8 k, .int .u64 x.n, .bool x.neg, .slice mo x.mag.length mc, .int .u64 x.bits, .int .i8 x.ext, .string (strOfNums x.text), .slice ko x.kids.length kc]) := fun hk M =>
    ⟨_, _, _, _, _, _, _, _, _, _, _, _, rfl, .inr ⟨hk, fun W hW => check_stop ((hW.cell (p := ⟨0, 0, none⟩) hEl).trans hE) (Nat.lt_of_lt_of_le hEl hW.size) fun W' hW' => M W' (hW.trans (hW'.mono hW.size))⟩⟩
  by_cases h3 : x.kind = 3
  · have AL : AlIs w (vaV x (.slice mo x.mag.length mc) (.slice ko x.kids.length kc)) (al3 x) := fun u hu => ralone_3 (H.far hu) h3
    unfold vaV at AL ⊢
    rw [h3] at AL ⊢
    have M : ∀ W, Below w.heap.size w W → Calls Tryz.prog 173 #[.agg #[.int .i8 3, .int .u64 x.n, .bool x.neg, .slice mo x.mag.length mc, .int .u64 x.bits, .int .i8 x.ext, .string (strOfNums x.text), .slice ko x.kids.length kc]] W fun e W' => e = .returned (.bool ((bits .andNot .u8 (flr x.n x.neg x.mag.length x.bits x.ext (strOfNums x.text) x.kids.length) 2 == 0) && nrmB x.neg x.mag)) ∧ Below W.heap.size W W' :=
      fun W hW => maybe_b3 (U.below hW) rfl (fun W' hW' => filled_any) (fun W' hW' => fits_b3 fun W'' hW'' => isnormal_b (((hm'.below hW).below hW').below hW''))
    rw [← al3_c] at AL
    cases hzo : ((bits .andNot .u8 (flr x.n x.neg x.mag.length x.bits x.ext (strOfNums x.text) x.kids.length) 2 == 0) && nrmB x.neg x.mag)
    · rw [hzo] at M AL
      rw [al3_c] at hzo
      have hnc : ¬ Ck x := by
        rintro (⟨-, c⟩ | ⟨c, -⟩)
        · rw [hzo] at c; cases c
        · omega
      exact .inr ⟨hnc, stop (.inl rfl) M, isa_bad (.inl rfl) AL⟩
    · rw [hzo] at AL
      obtain ⟨e1, e2⟩ := Bool.and_eq_true_iff.1 hzo
      obtain ⟨q1, q2, q3, q4, q5⟩ := flr_3 e1
      obtain ⟨hc, hp⟩ := nrm_c wf.m e2
      have hck : Ck x := .inl ⟨h3, (al3_c x).symm.trans hzo⟩
      have hz : zOf x = .w (wn x.neg (Nt.val x.mag)) := by unfold zOf; rw [if_pos h3]
      rw [q1, q2, q3, q4, q5] at AL ⊢
      rw [hz]
      exact .inl ⟨hck, ⟨_, _, _, _, _, rfl, ⟨x.mag, hm', hc, rfl, hK⟩, rfl, hp⟩, isa_ok (.inl rfl) AL⟩
  · by_cases h4 : x.kind = 4
    · obtain ⟨fb, hfo, hf⟩ : ∃ fb : Bool, (fb = true ↔ FOk x.bits) ∧ ∀ w : World, Lays w → Brn w → Calls Tryz.prog 228 #[.int .u64 x.bits] w fun e w' => e = .returned (.bool fb) ∧ Below w.heap.size w w' := by
        by_cases hF : FOk x.bits
        · exact ⟨true, ⟨fun _ => hF, fun _ => rfl⟩, fun w L T => isfloat_ok L T hF⟩
        · obtain ⟨fb, h1, h2⟩ := isfloat_d x.bits wf.b0 wf.b1
          cases fb with
          | true => exact absurd (h1 rfl) hF
          | false => exact ⟨false, ⟨(fun h => by cases h), fun h => absurd h hF⟩, h2⟩
      have AL : AlIs w (vaV x (.slice mo x.mag.length mc) (.slice ko x.kids.length kc)) (al4 x fb) := fun u hu => ralone_4 (H.far hu) h4 hfo
      unfold vaV at AL ⊢
      rw [h4] at AL ⊢
      have M : ∀ W, Below w.heap.size w W → Calls Tryz.prog 173 #[.agg #[.int .i8 4, .int .u64 x.n, .bool x.neg, .slice mo x.mag.length mc, .int .u64 x.bits, .int .i8 x.ext, .string (strOfNums x.text), .slice ko x.kids.length kc]] W fun e W' => e = .returned (.bool ((bits .andNot .u8 (flr x.n x.neg x.mag.length x.bits x.ext (strOfNums x.text) x.kids.length) 4 == 0) && fb)) ∧ Below W.heap.size W W' :=
        fun W hW => maybe_b4 (U.below hW) rfl (fun W' hW' => filled_any) (fun W' hW' => fits_b4 fun W'' hW'' => hf W'' (((L.below hW).below hW').below hW'') (((T.below hW).below hW').below hW''))
      rw [← al4_c] at AL
      cases hzo : ((bits .andNot .u8 (flr x.n x.neg x.mag.length x.bits x.ext (strOfNums x.text) x.kids.length) 4 == 0) && fb)
      · rw [hzo] at M AL
        rw [al4_c] at hzo
        have hnc : ¬ Ck x := by
          rintro (⟨c, -⟩ | ⟨-, f2, i2, c⟩)
          · exact h3 c
          · have : f2 = fb := Bool.eq_iff_iff.2 (i2.trans hfo.symm)
            rw [this, hzo] at c
            cases c
        exact .inr ⟨hnc, stop (.inr rfl) M, isa_bad (.inr rfl) AL⟩
      · rw [hzo] at AL
        obtain ⟨e1, e2⟩ := Bool.and_eq_true_iff.1 hzo
        obtain ⟨q1, q2, q3, q4, q5, q6⟩ := flr_4 e1
        have hck : Ck x := .inr ⟨h4, fb, hfo, (al4_c x fb).symm.trans hzo⟩
        have hz : zOf x = .f x.bits := by unfold zOf; rw [if_neg h3]
        rw [q1, q2, q3, q4, q5, q6] at AL ⊢
        rw [hz]
        exact .inl ⟨hck, ⟨_, _, _, _, rfl, hmx, hfo.1 e2⟩, isa_ok (.inr rfl) AL⟩
    · unfold vaV
      have hnc : ¬ Ck x := by
        rintro (⟨c, -⟩ | ⟨c, -⟩)
        · exact h3 c
        · exact h4 c
      exact .inr ⟨hnc, ⟨_, _, _, _, _, _, _, _, _, _, _, _, rfl, .inl ⟨h3, h4⟩⟩, fun u hu => ris_other h3 h4⟩

end Go.Proofs.YtjigofmcflmelaaGreatDoor

namespace Go.Proofs.YtjigofmcflmelaaGreatDoor
open Go.RowKit
set_option linter.unusedVariables false
set_option linter.unusedSimpArgs false

set_option maxHeartbeats 8000000 in
set_option maxRecDepth 20000 in
theorem rbits_no {w : World} {v : Value} {K : Nat} (h : NoN w v) (hA : IsA w v false) : Calls Tryz.prog 9 #[v] w fun x w' => x = .returned (.tuple #[.int .u64 0, .bool false]) ∧ Below w.heap.size w w' := by
  obtain ⟨k, n1, b, e, g, s, mo, ko, ml, mc, kl, kc, rfl, -⟩ := h
  have K1 := hide (bel_new w (.cells #[.int .i8 k, .int .u64 n1, .bool g, .slice mo ml mc, .int .u64 b, .int .i8 e, .string s, .slice ko kl kc] 31))
  have HC := hide (hA _ K1.out)
  clear hA
  go_enter Tryz.func9, Tryz.ntmps9
  go_wp2_with fail
  with_reducible refine HC.out.mono ?_
  rintro x w2 ⟨rfl, hb⟩
  have K2 := hide (below_trans K1.out hb)
  clear hb HC
  go_wp2
  go_ret2
  exact ⟨rfl, K2.out⟩

set_option maxHeartbeats 8000000 in
set_option maxRecDepth 20000 in
theorem rnarrow_no {w : World} {v : Value} (h : NoN w v) (hA : IsA w v false) : Calls Tryz.prog 11 #[v] w fun x w' => x = .returned (.tuple #[.int .i64 0, .int .u64 0, .bool false]) ∧ Below w.heap.size w w' := by
  have h' := h
  obtain ⟨k, n1, b, e, g, s, mo, ko, ml, mc, kl, kc, rfl, -⟩ := h
  have K1 := hide (bel_new w (.cells #[.int .i8 k, .int .u64 n1, .bool g, .slice mo ml mc, .int .u64 b, .int .i8 e, .string s, .slice ko kl kc] 31))
  have HC := hide (rbits_no (K := 0) (h'.below K1.out) (hA.below K1.out))
  clear hA h'
  go_enter Tryz.func11, Tryz.ntmps11
  go_wp2_with fail
  with_reducible refine HC.out.mono ?_
  rintro x w2 ⟨rfl, hb⟩
  have K2 := hide (below_trans K1.out hb)
  clear hb HC
  go_wp2
  go_ret3
  exact ⟨rfl, K2.out⟩

/-- the document's bits: every reading of the number's own is this -/
def RbI (z : NZ) (y : Int) (ok : Bool) : Prop := ∀ y' ok', BitsIs z y' ok' → y' = y ∧ ok' = ok
set_option maxHeartbeats 8000000 in
set_option maxRecDepth 20000 in
theorem rbits_e {w : World} {v : Value} {K : Nat} {z : NZ} (h : NRe w v K z) (hK : K ≤ 1048576) (hA : IsA w v true) : Calls Tryz.prog 9 #[v] w fun x w' => ∃ y ok, x = .returned (.tuple #[.int .u64 y, .bool ok]) ∧ RbI z y ok ∧ Below w.heap.size w w' := by
  cases z with
  | w n =>
    obtain ⟨g, m, a, ko, kc, rfl, hm, hn, -⟩ := h
    have HM := hide hm
    obtain ⟨zs, ⟨ao, cap, rfl, -⟩, -⟩ := hm
    obtain ⟨ml, hml⟩ : ∃ q, zs.length = q := ⟨_, rfl⟩
    rw [hml] at HM hA ⊢
    clear hml
    have K1 := hide (bel_new w (.cells #[.int .i8 3, .int .u64 0, .bool g, .slice ao ml cap, .int .u64 0, .int .i8 0, .string ⟨#[]⟩, .slice ko 0 kc] 31))
    have BX := hide (box8_new w (.int .i8 3) (.int .u64 0) (.bool g) (.slice ao ml cap) (.int .u64 0) (.int .i8 0) (.string ⟨#[]⟩) (.slice ko 0 kc) 31)
    have HC := hide (hA _ K1.out)
    have HW := hide (fun (u : World) (hu : Below w.heap.size w u) => (show WArg u (.agg #[.bool g, .slice ao ml cap]) n K from by
      obtain ⟨zs, hr, hc, hv, hl⟩ := HM.out.below hu
      exact ⟨_, _, _, rfl, ⟨zs, hr, hc.1, hv, hl⟩, hn⟩))
    clear hA hn
    go_enter Tryz.func9, Tryz.ntmps9
    go_upto_region 1 with fail
    generalize w.alloc (.cells #[.int .i8 3, .int .u64 0, .bool g, .slice ao ml cap, .int .u64 0, .int .i8 0, .string ⟨#[]⟩, .slice ko 0 kc] 31) = w1 at *
    have lt1 : w.heap.size < w1.heap.size := vcell_lt BX.out.1
    obtain ⟨z0, z1, z2, z3, z4, z5, z6, z7⟩ := BX.out
    go_wp2_with fail
    with_reducible refine HC.out.mono ?_
    rintro x w2 ⟨rfl, hb⟩
    have K2 := hide (below_trans K1.out hb)
    have BX2 := hide (BX.out.below hb lt1)
    clear hb HC z0 z1 z2 z3 z4 z5 z6 z7 BX
    obtain ⟨z0, z1, z2, z3, z4, z5, z6, z7⟩ := BX2.out
    go_wp2_with fail
    with_reducible refine (rFrom_d (HW.out w2 K2.out) hK).mono ?_
    rintro x w3 ⟨y, ok, rfl, hf, hb⟩
    have K3 := hide (below_trans K2.out hb)
    have HF := hide hf
    clear hb hf z0 z1 z2 z3 z4 z5 z6 z7 HW HM
    cases ok with
    | true =>
      go_wp2
      go_ret2
      refine ⟨_, _, rfl, ?_, K3.out⟩
      rintro y' ok' ⟨y2, ok2, hp, hcase⟩
      obtain ⟨rfl, rfl⟩ := from_same hp HF.out
      rcases hcase with ⟨-, h1, h2⟩ | ⟨h0, -⟩
      · exact ⟨h1, h2⟩
      · cases h0
    | false =>
      go_wp2
      go_ret2
      refine ⟨_, _, rfl, ?_, K3.out⟩
      rintro y' ok' ⟨y2, ok2, hp, hcase⟩
      obtain ⟨rfl, rfl⟩ := from_same hp HF.out
      rcases hcase with ⟨h0, -⟩ | ⟨-, h1, h2⟩
      · cases h0
      · exact ⟨h1, h2⟩
  | f b =>
    obtain ⟨mo, mc, ko, kc, rfl, -, -⟩ := h
    have K1 := hide (bel_new w (.cells #[.int .i8 4, .int .u64 0, .bool false, .slice mo 0 mc, .int .u64 b, .int .i8 0, .string ⟨#[]⟩, .slice ko 0 kc] 31))
    have BX := hide (box8_new w (.int .i8 4) (.int .u64 0) (.bool false) (.slice mo 0 mc) (.int .u64 b) (.int .i8 0) (.string ⟨#[]⟩) (.slice ko 0 kc) 31)
    have HC := hide (hA _ K1.out)
    clear hA
    go_enter Tryz.func9, Tryz.ntmps9
    go_upto_region 1 with fail
    generalize w.alloc (.cells #[.int .i8 4, .int .u64 0, .bool false, .slice mo 0 mc, .int .u64 b, .int .i8 0, .string ⟨#[]⟩, .slice ko 0 kc] 31) = w1 at *
    have lt1 : w.heap.size < w1.heap.size := vcell_lt BX.out.1
    obtain ⟨z0, z1, z2, z3, z4, z5, z6, z7⟩ := BX.out
    go_wp2_with fail
    with_reducible refine HC.out.mono ?_
    rintro x w2 ⟨rfl, hb⟩
    have K2 := hide (below_trans K1.out hb)
    have BX2 := hide (BX.out.below hb lt1)
    clear hb HC z0 z1 z2 z3 z4 z5 z6 z7 BX
    obtain ⟨z0, z1, z2, z3, z4, z5, z6, z7⟩ := BX2.out
    go_wp2
    go_ret2
    exact ⟨_, _, rfl, fun y' ok' h => h, K2.out⟩

end Go.Proofs.YtjigofmcflmelaaGreatDoor

namespace Go.Proofs.YtjigofmcflmelaaGreatDoor
open Go.RowKit
set_option linter.unusedVariables false
set_option linter.unusedSimpArgs false

set_option maxHeartbeats 16000000 in
set_option maxRecDepth 20000 in
theorem rnarrow_e {w : World} {v : Value} {K : Nat} {z : NZ} {y wd yn : Int} {ok okn : Bool} (h : NRe w v K z) (hK : K ≤ 1048576) (hA : IsA w v true) (hb : BitsIs z y ok) (y0 : 0 ≤ y) (y1 : y < 18446744073709551616) (hn : NarIs z wd yn okn) :
    Calls Tryz.prog 11 #[v] w fun x w' => x = .returned (.tuple #[.int .i64 wd, .int .u64 yn, .bool okn]) ∧ Below w.heap.size w w' := by
  have h' := h
  obtain ⟨k3, g, mo, ml, mc, b, ko, kc, rfl⟩ := nre_shape h
  have K1 := hide (bel_new w (.cells #[.int .i8 k3, .int .u64 0, .bool g, .slice mo ml mc, .int .u64 b, .int .i8 0, .string ⟨#[]⟩, .slice ko 0 kc] 31))
  have HC := hide (rbits_e (h'.below K1.out) hK (hA.below K1.out))
  have HB := hide hb
  have HN := hide hn
  clear h h' hA hb hn
  go_enter Tryz.func11, Tryz.ntmps11
  go_wp2_with fail
  with_reducible refine HC.out.mono ?_
  rintro x w2 ⟨yb, okb, rfl, hR, hb⟩
  have K2 := hide (below_trans K1.out hb)
  obtain ⟨rfl, rfl⟩ := hR _ _ HB.out
  obtain ⟨bb, bk, hB2, hcase⟩ := HN.out
  obtain ⟨rfl, rfl⟩ := hR _ _ hB2
  clear hb HC hR HB HN hB2
  have s0 : 0 ≤ bb % 9223372036854775808 := Int.emod_nonneg _ (by decide)
  rcases hcase with ⟨rfl, rfl, rfl, rfl⟩ | ⟨rfl, rfl, y16, k16, h16, hc16⟩
  · go_wp2
    go_ret3
    exact ⟨rfl, K2.out⟩
  have H16 := hide h16
  clear h16
  go_wp2
  rcases hc16 with ⟨rfl, rfl, rfl⟩ | ⟨rfl, y32, k32, h32, hc32⟩
  · go_loopw [7] (fun wv wr => wv = .int .i64 16 ∧ Hid (Below w.heap.size w wr)) (fun wv _ => 64 - (intOf wv).toNat)
    case atStart => exact ⟨rfl, K2⟩
    case round =>
      obtain ⟨rfl, HBL⟩ := hrel
      go_wp2_with fail
      with_reducible refine (rTo_h_d _ bb (bb % 9223372036854775808) (decide (9223372036854775808 ≤ bb)) y0 y1 rfl rfl).mono ?_
      rintro x w3 ⟨yy, kk, rfl, hR, hb⟩
      obtain ⟨rfl, rfl⟩ := to_same s0 H16.out hR
      have K3 := hide (below_trans HBL.out hb)
      clear hb hR
      go_wp2
      go_ret3
      exact ⟨rfl, K3.out⟩
  have H32 := hide h32
  clear h32
  rcases hc32 with ⟨rfl, rfl, rfl⟩ | ⟨rfl, rfl, hyb⟩
  · go_loopw [7] (fun wv wr => (wv = .int .i64 16 ∨ wv = .int .i64 32) ∧ Hid (Below w.heap.size w wr)) (fun wv _ => 64 - (intOf wv).toNat)
    case atStart => exact ⟨Or.inl rfl, K2⟩
    case round =>
      obtain ⟨rfl | rfl, HBL⟩ := hrel
      · skip
        go_wp2_with fail
        with_reducible refine (rTo_h_d _ bb (bb % 9223372036854775808) (decide (9223372036854775808 ≤ bb)) y0 y1 rfl rfl).mono ?_
        rintro x w3 ⟨yy, kk, rfl, hR, hb⟩
        obtain ⟨rfl, rfl⟩ := to_same s0 H16.out hR
        have K3 := hide (below_trans HBL.out hb)
        clear hb hR
        go_wp2
        go_roundw
        case rel => exact ⟨Or.inr rfl, K3⟩
        case measure => simp [intOf]
      · skip
        go_wp2_with fail
        with_reducible refine (rTo_s_d _ bb (bb % 9223372036854775808) (decide (9223372036854775808 ≤ bb)) y0 y1 rfl rfl).mono ?_
        rintro x w3 ⟨yy, kk, rfl, hR, hb⟩
        obtain ⟨rfl, rfl⟩ := to_same s0 H32.out hR
        have K3 := hide (below_trans HBL.out hb)
        clear hb hR
        go_wp2
        go_ret3
        exact ⟨rfl, K3.out⟩
  · have HYB := hide hyb
    clear hyb
    go_loopw [7] (fun wv wr => (wv = .int .i64 16 ∨ wv = .int .i64 32 ∨ wv = .int .i64 64) ∧ Hid (Below w.heap.size w wr)) (fun wv _ => 64 - (intOf wv).toNat)
    case atStart => exact ⟨Or.inl rfl, K2⟩
    case round =>
      obtain ⟨rfl | rfl | rfl, HBL⟩ := hrel
      · skip
        go_wp2_with fail
        with_reducible refine (rTo_h_d _ bb (bb % 9223372036854775808) (decide (9223372036854775808 ≤ bb)) y0 y1 rfl rfl).mono ?_
        rintro x w3 ⟨yy, kk, rfl, hR, hb⟩
        obtain ⟨rfl, rfl⟩ := to_same s0 H16.out hR
        have K3 := hide (below_trans HBL.out hb)
        clear hb hR
        go_wp2
        go_roundw
        case rel => exact ⟨Or.inr (Or.inl rfl), K3⟩
        case measure => simp [intOf]
      · skip
        go_wp2_with fail
        with_reducible refine (rTo_s_d _ bb (bb % 9223372036854775808) (decide (9223372036854775808 ≤ bb)) y0 y1 rfl rfl).mono ?_
        rintro x w3 ⟨yy, kk, rfl, hR, hb⟩
        obtain ⟨rfl, rfl⟩ := to_same s0 H32.out hR
        have K3 := hide (below_trans HBL.out hb)
        clear hb hR
        go_wp2
        go_roundw
        case rel => exact ⟨Or.inr (Or.inr rfl), K3⟩
        case measure => simp [intOf]
      · skip
        go_wp2
        go_ret3
        exact ⟨by rw [HYB.out]; rfl, HBL.out⟩

end Go.Proofs.YtjigofmcflmelaaGreatDoor

namespace Go.Proofs.YtjigofmcflmelaaGreatDoor
open Go.RowKit
set_option linter.unusedVariables false
set_option linter.unusedSimpArgs false

theorem bey_one {w W : World} {x : Va} {bb : Nat} {mo ko : Option Addr} {mc kc : Nat} (h : VaRd w (vaV x (.slice mo x.mag.length mc) (.slice ko x.kids.length kc)) x) (hW : Below w.heap.size w W)
    (hb : Box8 W bb (.int .i8 x.kind) (.int .u64 x.n) (.bool x.neg) (.slice mo x.mag.length mc) (.int .u64 x.bits) (.int .i8 x.ext) (.string (strOfNums x.text)) (.slice ko x.kids.length kc)) :
    Calls Tryz.prog 6 #[.slice (some ⟨bb, 0, none⟩) 1 1] W fun e' w' => (∃ q, e' = .returned (.bool q) ∧ (q = false → vpts x ≤ 1048576)) ∧ Below W.heap.size W w' := by
  obtain ⟨⟨vm, vk, he, hm, hk⟩, wf⟩ := h
  obtain ⟨e1, e2⟩ : Value.slice mo x.mag.length mc = vm ∧ Value.slice ko x.kids.length kc = vk := by
    unfold vaV at he
    simp only [Value.agg.injEq, Array.mk.injEq, List.cons.injEq, and_true, true_and] at he
    exact ⟨he.1, he.2⟩
  subst e1 e2
  have hs : VaSl W (.slice (some ⟨bb, 0, none⟩) [x].length 1) [x] := by
    refine .mk (some ⟨bb, 0, none⟩) 1 [x] (fun _ => .slice mo x.mag.length mc) (fun _ => .slice ko x.kids.length kc) (by simp) (by unfold maxLen; omega) (by simp) (fun h => by cases h) (fun _ => ⟨bb, 0, rfl, vcell_lt hb.1, fun i hi => ?_⟩) (fun i hi => ?_) (fun i hi => ?_)
    all_goals
      obtain rfl : i = 0 := by simp at hi; exact hi
    · obtain ⟨z0, z1, z2, z3, z4, z5, z6, z7⟩ := hb
      exact ⟨z0, z1, z2, z3, z4, z5, z6, z7⟩
    · exact ⟨hm.below hW, wf⟩
    · exact hk.far hW
  refine (beyondval_any hs).mono fun e w' h => ⟨h.1.imp fun q hq => ⟨hq.1, fun hf => ?_⟩, h.2⟩
  have h2 : kpts [x] ≤ 1048576 := by
    rcases hq.2 with h | h
    · rw [hf] at h; cases h
    · exact h
  simpa [kpts] using h2

set_option maxHeartbeats 16000000 in
set_option maxRecDepth 100000 in
theorem nbits_walk {w : World} (L : Lays w) (T : Brn w) (U : Uss w) {et : TypeId} {eo : Option Addr} (hE : w.cell? ⟨0, 0, none⟩ = some (.iface et (.pointer eo))) (hEl : 0 < w.heap.size) {x : Va} {v : Value} (h : VaRd w v x) :
    Calls Tryz.prog 3 #[v] w fun e' w' => e' = .returned (.bool true) ∧ Below w.heap.size w w' := by
  have H := hide h
  have HCL := hide (fun (W : World) (hW : Below w.heap.size w W) (u : Value) (hu : VaRd W u x) => num_cl (L.below hW) (T.below hW) (U.below hW) ((hW.cell (p := ⟨0, 0, none⟩) hEl).trans hE) (Nat.lt_of_lt_of_le hEl hW.size) hu (Nat.le_refl _))
  have HL := hide L
  have HT := hide T
  have HU := hide U
  obtain ⟨⟨vm, vk, rfl, hm, hk⟩, wf⟩ := h
  obtain ⟨mo, mc, rfl, -⟩ : ∃ ao cap, vm = .slice ao x.mag.length cap ∧ True := by obtain ⟨ao, cap, h, _⟩ := hm; exact ⟨ao, cap, h, trivial⟩
  obtain ⟨ko, kc, rfl, -⟩ := hk.len
  have HBY := hide (fun (W : World) (bb : Nat) (hW : Below w.heap.size w W) (hb : Box8 W bb (.int .i8 x.kind) (.int .u64 x.n) (.bool x.neg) (.slice mo x.mag.length mc) (.int .u64 x.bits) (.int .i8 x.ext) (.string (strOfNums x.text)) (.slice ko x.kids.length kc)) => bey_one H.out hW hb)
  have K1 := hide (bel_new w (.cells #[.int .i8 x.kind, .int .u64 x.n, .bool x.neg, .slice mo x.mag.length mc, .int .u64 x.bits, .int .i8 x.ext, .string (strOfNums x.text), .slice ko x.kids.length kc] 31))
  have BX := hide (box8_new w (.int .i8 x.kind) (.int .u64 x.n) (.bool x.neg) (.slice mo x.mag.length mc) (.int .u64 x.bits) (.int .i8 x.ext) (.string (strOfNums x.text)) (.slice ko x.kids.length kc) 31)
  clear hm hk wf L T U hE hEl
  have HV := hide (show vaV x (.slice mo x.mag.length mc) (.slice ko x.kids.length kc) = .agg #[.int .i8 x.kind, .int .u64 x.n, .bool x.neg, .slice mo x.mag.length mc, .int .u64 x.bits, .int .i8 x.ext, .string (strOfNums x.text), .slice ko x.kids.length kc] from rfl)
  unfold vaV
  go_enter Tryz.func3, Tryz.ntmps3
  go_upto_region 1 with fail
  generalize w.alloc (.cells #[.int .i8 x.kind, .int .u64 x.n, .bool x.neg, .slice mo x.mag.length mc, .int .u64 x.bits, .int .i8 x.ext, .string (strOfNums x.text), .slice ko x.kids.length kc] 31) = w1 at *
  have lt1 : w.heap.size < w1.heap.size := vcell_lt BX.out.1
  obtain ⟨z0, z1, z2, z3, z4, z5, z6, z7⟩ := BX.out
  have KA := bel_new w1 (.cells #[.int .i8 x.kind, .int .u64 x.n, .bool x.neg, .slice mo x.mag.length mc, .int .u64 x.bits, .int .i8 x.ext, .string (strOfNums x.text), .slice ko x.kids.length kc] 31)
  have CALL := hide (HBY.out _ _ (below_trans K1.out KA) (box8_new w1 (.int .i8 x.kind) (.int .u64 x.n) (.bool x.neg) (.slice mo x.mag.length mc) (.int .u64 x.bits) (.int .i8 x.ext) (.string (strOfNums x.text)) (.slice ko x.kids.length kc) 31))
  have HKA := hide KA
  clear KA
  go_wp2_with fail
  with_reducible refine CALL.out.mono ?_
  rintro e w3 ⟨⟨q, rfl, hq⟩, hb⟩
  have K3 := hide (below_trans (below_trans K1.out HKA.out) hb)
  have BX3 := hide ((BX.out.below HKA.out lt1).below hb (Nat.lt_of_lt_of_le lt1 HKA.out.size))
  clear hb CALL HKA HBY z0 z1 z2 z3 z4 z5 z6 z7 BX K1
  cases q with
  | true =>
    go_wp2
    go_ret
    exact ⟨rfl, K3.out⟩
  | false =>
    have hp := hq rfl
    have HP := hide hp
    clear hq hp lt1
    have lt3 : w.heap.size < w3.heap.size := vcell_lt BX3.out.1
    obtain ⟨z0, z1, z2, z3, z4, z5, z6, z7⟩ := BX3.out
    have CALL := hide (twv_any HP.out (H.out.far K3.out))
    rw [HV.out] at CALL
    go_wp2_with fail
    with_reducible refine CALL.out.mono ?_
    rintro e w4 ⟨⟨u, rfl, hT⟩, hb⟩
    have K4 := hide (below_trans K3.out hb)
    have BX4 := hide (BX3.out.below hb lt3)
    have HTW := hide hT
    obtain ⟨⟨tm, tk, rfl, hTm, hTk⟩, -⟩ := hT
    obtain ⟨gm, rfl, -, -, -⟩ := hTm
    obtain ⟨gk, rfl, -, -, -⟩ := hTk.shape
    clear hb CALL z0 z1 z2 z3 z4 z5 z6 z7 BX3 K3 hTk
    have HVT := hide (show vaV x (.slice (some ⟨gm, 0, none⟩) x.mag.length (x.mag.length + 1)) (.slice (some ⟨gk, 0, none⟩) x.kids.length (x.kids.length + 1)) = .agg #[.int .i8 x.kind, .int .u64 x.n, .bool x.neg, .slice (some ⟨gm, 0, none⟩) x.mag.length (x.mag.length + 1), .int .u64 x.bits, .int .i8 x.ext, .string (strOfNums x.text), .slice (some ⟨gk, 0, none⟩) x.kids.length (x.kids.length + 1)] from rfl)
    unfold vaV
    go_upto_region 4 with fail
    have KA := bel_new w4 (.cells #[.int .i8 x.kind, .int .u64 x.n, .bool x.neg, .slice (some ⟨gm, 0, none⟩) x.mag.length (x.mag.length + 1), .int .u64 x.bits, .int .i8 x.ext, .string (strOfNums x.text), .slice (some ⟨gk, 0, none⟩) x.kids.length (x.kids.length + 1)] 31)
    have BT5 := hide (box8_new w4 (.int .i8 x.kind) (.int .u64 x.n) (.bool x.neg) (.slice (some ⟨gm, 0, none⟩) x.mag.length (x.mag.length + 1)) (.int .u64 x.bits) (.int .i8 x.ext) (.string (strOfNums x.text)) (.slice (some ⟨gk, 0, none⟩) x.kids.length (x.kids.length + 1)) 31)
    have lt4 : w.heap.size < w4.heap.size := vcell_lt BX4.out.1
    have BX5 := hide (BX4.out.below KA lt4)
    have K5 := hide (below_trans K4.out KA)
    have HTW5 := hide (HTW.out.far KA)
    clear KA BX4 HTW K4
    generalize w4.alloc (.cells #[.int .i8 x.kind, .int .u64 x.n, .bool x.neg, .slice (some ⟨gm, 0, none⟩) x.mag.length (x.mag.length + 1), .int .u64 x.bits, .int .i8 x.ext, .string (strOfNums x.text), .slice (some ⟨gk, 0, none⟩) x.kids.length (x.kids.length + 1)] 31) = w5 at *
    obtain ⟨bt, hbt⟩ : ∃ b, w4.heap.size = b := ⟨_, rfl⟩
    rw [hbt] at BT5 ⊢
    clear hbt lt3 lt4
    have ltA : w.heap.size < w5.heap.size := vcell_lt BX5.out.1
    have ltB : bt < w5.heap.size := vcell_lt BT5.out.1
    have hkl : x.mag.length ≤ 1048576 := by have := vpts_eq x; have := HP.out; omega
    have VT := hide (show VaRd w5 (vaV x (.slice (some ⟨gm, 0, none⟩) x.mag.length (x.mag.length + 1)) (.slice (some ⟨gk, 0, none⟩) x.kids.length (x.kids.length + 1))) x from HTW5.out.reads)
    have VV := hide (show VaRd w5 (vaV x (.slice mo x.mag.length mc) (.slice ko x.kids.length kc)) x from H.out.far K5.out)
    have hct := HCL.out w5 K5.out _ VT.out
    have hcv := HCL.out w5 K5.out _ VV.out
    have L5 := hide (HL.out.below K5.out)
    have T5 := hide (HT.out.below K5.out)
    have U5 := hide (HU.out.below K5.out)
    rw [HVT.out] at hct VT HTW5
    rw [HV.out] at hcv VV
    have HLF := hide (fun (W : World) (hW : Below w5.heap.size w5 W) => lfv_any W _ _ _ (HTW5.out.far hW) (VV.out.far hW))
    clear HCL HL HT HU VT VV H HTW5 HVT HV HP
    obtain ⟨nm, hnm⟩ : ∃ q, x.mag.length = q := ⟨_, rfl⟩
    obtain ⟨nk, hnk⟩ : ∃ q, x.kids.length = q := ⟨_, rfl⟩
    obtain ⟨tx, htx⟩ : ∃ q, strOfNums x.text = q := ⟨_, rfl⟩
    rw [hnm, hnk, htx] at hct hcv HLF BT5 BX5
    rw [hnm] at hkl
    rw [hnm, hnk, htx]
    clear hnm hnk htx
    have HKL := hide hkl
    clear hkl
    rcases hct with ⟨ck, ht, iat⟩ | ⟨nck, ht, iat⟩
    · rcases hcv with ⟨-, hv, iav⟩ | ⟨nck, -, -⟩
      · have HTN := hide ht
        have HVN := hide hv
        have HIA := hide iav
        clear ht hv iat iav ck
        generalize zOf x = z at *
        have HBP := hide (Below.refl w5.heap.size w5)
        have CALL := hide (bits_e (L5.out) (T5.out) (U5.out) HTN.out (by have := HKL.out; omega))
        obtain ⟨z0, z1, z2, z3, z4, z5, z6, z7⟩ := BX5.out
        obtain ⟨y0, y1, y2, y3, y4, y5, y6, y7⟩ := BT5.out
        go_wp2_with fail
        with_reducible refine CALL.out.mono ?_
        rintro e9 wn ⟨yb, okb, rfl, b0, b1, hB, hb⟩
        have HBI := hide hB
        clear hB
        replace BX5 := hide (BX5.out.below hb ltA)
        replace BT5 := hide (BT5.out.below hb ltB)
        replace ltA : w.heap.size < wn.heap.size := Nat.lt_of_lt_of_le ltA hb.size
        replace ltB : bt < wn.heap.size := Nat.lt_of_lt_of_le ltB hb.size
        replace HBP := hide (below_trans HBP.out hb)
        clear hb
        clear CALL z0 z1 z2 z3 z4 z5 z6 z7 y0 y1 y2 y3 y4 y5 y6 y7
        have CALL := hide (rbits_e (HVN.out.below HBP.out) (by have := HKL.out; omega) (HIA.out.below HBP.out))
        obtain ⟨z0, z1, z2, z3, z4, z5, z6, z7⟩ := BX5.out
        obtain ⟨y0, y1, y2, y3, y4, y5, y6, y7⟩ := BT5.out
        go_wp2_with fail
        with_reducible refine CALL.out.mono ?_
        rintro e9 wn ⟨yr, okr, rfl, hR, hb⟩
        obtain ⟨rfl, rfl⟩ := hR _ _ HBI.out
        clear hR
        replace BX5 := hide (BX5.out.below hb ltA)
        replace BT5 := hide (BT5.out.below hb ltB)
        replace ltA : w.heap.size < wn.heap.size := Nat.lt_of_lt_of_le ltA hb.size
        replace ltB : bt < wn.heap.size := Nat.lt_of_lt_of_le ltB hb.size
        replace HBP := hide (below_trans HBP.out hb)
        clear hb
        clear CALL z0 z1 z2 z3 z4 z5 z6 z7 y0 y1 y2 y3 y4 y5 y6 y7
        have CALL := hide (narrow_e (L5.out.below HBP.out) (T5.out.below HBP.out) (U5.out.below HBP.out) (HTN.out.below HBP.out) (by have := HKL.out; omega))
        obtain ⟨z0, z1, z2, z3, z4, z5, z6, z7⟩ := BX5.out
        obtain ⟨y0, y1, y2, y3, y4, y5, y6, y7⟩ := BT5.out
        go_wp2_with fail
        with_reducible refine CALL.out.mono ?_
        rintro e9 wn ⟨wd, yn, okn, rfl, n0, n1, hN, hb⟩
        have HNI := hide hN
        clear hN
        replace BX5 := hide (BX5.out.below hb ltA)
        replace BT5 := hide (BT5.out.below hb ltB)
        replace ltA : w.heap.size < wn.heap.size := Nat.lt_of_lt_of_le ltA hb.size
        replace ltB : bt < wn.heap.size := Nat.lt_of_lt_of_le ltB hb.size
        replace HBP := hide (below_trans HBP.out hb)
        clear hb
        clear CALL z0 z1 z2 z3 z4 z5 z6 z7 y0 y1 y2 y3 y4 y5 y6 y7
        have CALL := hide (rnarrow_e (HVN.out.below HBP.out) (by have := HKL.out; omega) (HIA.out.below HBP.out) HBI.out b0 b1 HNI.out)
        obtain ⟨z0, z1, z2, z3, z4, z5, z6, z7⟩ := BX5.out
        obtain ⟨y0, y1, y2, y3, y4, y5, y6, y7⟩ := BT5.out
        go_wp2_with fail
        with_reducible refine CALL.out.mono ?_
        rintro e9 wn ⟨rfl, hb⟩
        replace BX5 := hide (BX5.out.below hb ltA)
        replace BT5 := hide (BT5.out.below hb ltB)
        replace ltA : w.heap.size < wn.heap.size := Nat.lt_of_lt_of_le ltA hb.size
        replace ltB : bt < wn.heap.size := Nat.lt_of_lt_of_le ltB hb.size
        replace HBP := hide (below_trans HBP.out hb)
        clear hb
        clear CALL z0 z1 z2 z3 z4 z5 z6 z7 y0 y1 y2 y3 y4 y5 y6 y7
        have CALL := hide (HLF.out _ HBP.out)
        obtain ⟨z0, z1, z2, z3, z4, z5, z6, z7⟩ := BX5.out
        obtain ⟨y0, y1, y2, y3, y4, y5, y6, y7⟩ := BT5.out
        go_wp2_with fail
        with_reducible refine CALL.out.mono ?_
        rintro e9 wn ⟨rfl, hb⟩
        replace BX5 := hide (BX5.out.below hb ltA)
        replace BT5 := hide (BT5.out.below hb ltB)
        replace ltA : w.heap.size < wn.heap.size := Nat.lt_of_lt_of_le ltA hb.size
        replace ltB : bt < wn.heap.size := Nat.lt_of_lt_of_le ltB hb.size
        replace HBP := hide (below_trans HBP.out hb)
        clear hb
        clear CALL z0 z1 z2 z3 z4 z5 z6 z7 y0 y1 y2 y3 y4 y5 y6 y7
        have CALL := hide (nlives (L5.out.below HBP.out) (T5.out.below HBP.out) (U5.out.below HBP.out))
        obtain ⟨z0, z1, z2, z3, z4, z5, z6, z7⟩ := BX5.out
        obtain ⟨y0, y1, y2, y3, y4, y5, y6, y7⟩ := BT5.out
        go_wp2_with fail
        with_reducible refine CALL.out.mono ?_
        rintro e9 wn ⟨rfl, hb⟩
        replace BX5 := hide (BX5.out.below hb ltA)
        replace BT5 := hide (BT5.out.below hb ltB)
        replace ltA : w.heap.size < wn.heap.size := Nat.lt_of_lt_of_le ltA hb.size
        replace ltB : bt < wn.heap.size := Nat.lt_of_lt_of_le ltB hb.size
        replace HBP := hide (below_trans HBP.out hb)
        clear hb
        clear CALL z0 z1 z2 z3 z4 z5 z6 z7 y0 y1 y2 y3 y4 y5 y6 y7
        go_wp2
        go_ret
        exact ⟨rfl, below_trans K5.out HBP.out⟩
      · exact absurd ck nck
    · rcases hcv with ⟨ck, -, -⟩ | ⟨-, hv, iav⟩
      · exact absurd ck nck
      · have HTN := hide ht
        have HVN := hide hv
        have HIA := hide iav
        clear ht hv iat iav nck
        have HBP := hide (Below.refl w5.heap.size w5)
        have CALL := hide (bits_none HTN.out)
        obtain ⟨z0, z1, z2, z3, z4, z5, z6, z7⟩ := BX5.out
        obtain ⟨y0, y1, y2, y3, y4, y5, y6, y7⟩ := BT5.out
        go_wp2_with fail
        with_reducible refine CALL.out.mono ?_
        rintro e9 wn ⟨rfl, hb⟩
        replace BX5 := hide (BX5.out.below hb ltA)
        replace BT5 := hide (BT5.out.below hb ltB)
        replace ltA : w.heap.size < wn.heap.size := Nat.lt_of_lt_of_le ltA hb.size
        replace ltB : bt < wn.heap.size := Nat.lt_of_lt_of_le ltB hb.size
        replace HBP := hide (below_trans HBP.out hb)
        clear hb
        clear CALL z0 z1 z2 z3 z4 z5 z6 z7 y0 y1 y2 y3 y4 y5 y6 y7
        have CALL := hide (rbits_no (K := 0) (HVN.out.below HBP.out) (HIA.out.below HBP.out))
        obtain ⟨z0, z1, z2, z3, z4, z5, z6, z7⟩ := BX5.out
        obtain ⟨y0, y1, y2, y3, y4, y5, y6, y7⟩ := BT5.out
        go_wp2_with fail
        with_reducible refine CALL.out.mono ?_
        rintro e9 wn ⟨rfl, hb⟩
        replace BX5 := hide (BX5.out.below hb ltA)
        replace BT5 := hide (BT5.out.below hb ltB)
        replace ltA : w.heap.size < wn.heap.size := Nat.lt_of_lt_of_le ltA hb.size
        replace ltB : bt < wn.heap.size := Nat.lt_of_lt_of_le ltB hb.size
        replace HBP := hide (below_trans HBP.out hb)
        clear hb
        clear CALL z0 z1 z2 z3 z4 z5 z6 z7 y0 y1 y2 y3 y4 y5 y6 y7
        have CALL := hide (narrow_none (HTN.out.below HBP.out))
        obtain ⟨z0, z1, z2, z3, z4, z5, z6, z7⟩ := BX5.out
        obtain ⟨y0, y1, y2, y3, y4, y5, y6, y7⟩ := BT5.out
        go_wp2_with fail
        with_reducible refine CALL.out.mono ?_
        rintro e9 wn ⟨rfl, hb⟩
        replace BX5 := hide (BX5.out.below hb ltA)
        replace BT5 := hide (BT5.out.below hb ltB)
        replace ltA : w.heap.size < wn.heap.size := Nat.lt_of_lt_of_le ltA hb.size
        replace ltB : bt < wn.heap.size := Nat.lt_of_lt_of_le ltB hb.size
        replace HBP := hide (below_trans HBP.out hb)
        clear hb
        clear CALL z0 z1 z2 z3 z4 z5 z6 z7 y0 y1 y2 y3 y4 y5 y6 y7
        have CALL := hide (rnarrow_no (HVN.out.below HBP.out) (HIA.out.below HBP.out))
        obtain ⟨z0, z1, z2, z3, z4, z5, z6, z7⟩ := BX5.out
        obtain ⟨y0, y1, y2, y3, y4, y5, y6, y7⟩ := BT5.out
        go_wp2_with fail
        with_reducible refine CALL.out.mono ?_
        rintro e9 wn ⟨rfl, hb⟩
        replace BX5 := hide (BX5.out.below hb ltA)
        replace BT5 := hide (BT5.out.below hb ltB)
        replace ltA : w.heap.size < wn.heap.size := Nat.lt_of_lt_of_le ltA hb.size
        replace ltB : bt < wn.heap.size := Nat.lt_of_lt_of_le ltB hb.size
        replace HBP := hide (below_trans HBP.out hb)
        clear hb
        clear CALL z0 z1 z2 z3 z4 z5 z6 z7 y0 y1 y2 y3 y4 y5 y6 y7
        have CALL := hide (HLF.out _ HBP.out)
        obtain ⟨z0, z1, z2, z3, z4, z5, z6, z7⟩ := BX5.out
        obtain ⟨y0, y1, y2, y3, y4, y5, y6, y7⟩ := BT5.out
        go_wp2_with fail
        with_reducible refine CALL.out.mono ?_
        rintro e9 wn ⟨rfl, hb⟩
        replace BX5 := hide (BX5.out.below hb ltA)
        replace BT5 := hide (BT5.out.below hb ltB)
        replace ltA : w.heap.size < wn.heap.size := Nat.lt_of_lt_of_le ltA hb.size
        replace ltB : bt < wn.heap.size := Nat.lt_of_lt_of_le ltB hb.size
        replace HBP := hide (below_trans HBP.out hb)
        clear hb
        clear CALL z0 z1 z2 z3 z4 z5 z6 z7 y0 y1 y2 y3 y4 y5 y6 y7
        have CALL := hide (nlives (L5.out.below HBP.out) (T5.out.below HBP.out) (U5.out.below HBP.out))
        obtain ⟨z0, z1, z2, z3, z4, z5, z6, z7⟩ := BX5.out
        obtain ⟨y0, y1, y2, y3, y4, y5, y6, y7⟩ := BT5.out
        go_wp2_with fail
        with_reducible refine CALL.out.mono ?_
        rintro e9 wn ⟨rfl, hb⟩
        replace BX5 := hide (BX5.out.below hb ltA)
        replace BT5 := hide (BT5.out.below hb ltB)
        replace ltA : w.heap.size < wn.heap.size := Nat.lt_of_lt_of_le ltA hb.size
        replace ltB : bt < wn.heap.size := Nat.lt_of_lt_of_le ltB hb.size
        replace HBP := hide (below_trans HBP.out hb)
        clear hb
        clear CALL z0 z1 z2 z3 z4 z5 z6 z7 y0 y1 y2 y3 y4 y5 y6 y7
        go_wp2
        go_ret
        exact ⟨rfl, below_trans K5.out HBP.out⟩

end Go.Proofs.YtjigofmcflmelaaGreatDoor
