/- BaseSums -/
import Derived.Test.YtnblpmjgehknaaaBLives
namespace Go.Proofs.Ytnblpmjgehknaaa
open Go.RowKit
set_option linter.unusedVariables false

theorem row_other {k : IntKind} {E : TypeId} {w : World} {g : Nat} {zs : List Int} (h : Row k E w g zs) {p : Addr} {v : Value} (hn : g ≠ p.block) : Row k E (w.setCell p v) g zs := by
  unfold Row at h ⊢
  rw [heap_setCell_other w p g v hn]
  exact h

set_option maxRecDepth 100000 in
set_option maxHeartbeats 8000000 in
theorem bsums_walk {w : World} {v : Value} {es : List Int} (hr : Reads .u8 w v es) (hb : uByt es) (hl : es.length ≤ 140737488351232) :
    Calls Try.prog 4 #[v] w fun e w' => e = .returned (.bool true) ∧ Below w.heap.size w w' := by
  obtain ⟨ao, cap, rfl, hxl, hxm, hxc⟩ := hr
  unfold maxLen at hxm
  have HR : Hid (Reads .u8 w (.slice ao es.length cap) es) := ⟨ao, cap, rfl, hxl, hxm, hxc⟩
  have HL := hide (bSum_len es)
  have HV := hide (show ∀ j, j < 32 → es.length = 32 → Nt.lb (bSum es) j = Nt.lb es j from fun j _ h => by unfold bSum; rw [if_pos h])
  have HZ := hide (show ∀ j, j < 32 → es.length ≠ 32 → Nt.lb (bSum es) j = 0 from fun j hj h => by unfold bSum; rw [if_neg h]; unfold Nt.lb; rw [List.getD_eq_getElem?_getD, List.getElem?_replicate, if_pos hj]; rfl)
  obtain ⟨ok, hok⟩ : ∃ ok, decide (es.length = 32) = ok := ⟨_, rfl⟩
  have q1 : ((es.length : Int) == 32) = ok := by rw [← hok]; by_cases h : es.length = 32 <;> simp [h]; omega
  have HK := hide hok
  have tw := hide (btwin_any HR.out (by omega))
  have sm := hide (fun (W : World) (u : Value) (h : Reads .u8 W u es) => sum_any h)
  rw [hok] at sm
  obtain ⟨L, hL⟩ : ∃ L, bSum es = L := ⟨_, rfl⟩
  rw [hL] at sm HL HV HZ
  clear hok hL hxc
  go_enter Try.func4, Try.ntmps4
  go_wp2_with fail
  refine tw.out.mono ?_
  rintro e w1 ⟨v1, rfl, ht1, hb1⟩
  obtain ⟨g, rfl, hg1, hg2, hg3⟩ := ht1
  have T1 : Hid (BTwin w.heap.size w1 (.slice (some ⟨g, 0, none⟩) es.length (es.length + 1)) es) := ⟨g, rfl, hg1, hg2, hg3⟩
  have B1 := hide hb1
  have Hg := hide hg1
  clear tw hb1 hg1 hg2 hg3
  go_wp2_with fail
  refine (sm.out _ _ T1.out.reads).mono ?_
  rintro e w2 ⟨rfl, hb2⟩
  have T2 := hide (T1.out.below hb2)
  have B2 := hide (B1.out.trans (hb2.mono B1.out.size))
  clear hb2 T1 B1 sm
  go_wp2_with (refine wpList_store_r rfl 27 _ _ rfl w2.heap.size (List.replicate 32 0) L rfl rfl 27 (heap_alloc_new w2 _) (by rw [HL.out]; rfl) (by rw [Try.info32, HL.out]) w2.heap.size w2 (al_b _ _) (Nat.le_refl _) ?_; intro w3 hR3 hb3)
  have T3 := hide (T2.out.below hb3)
  have B3 := hide (B2.out.trans (hb3.mono B2.out.size))
  have R3 := hide hR3
  have hgl := hide (show g < w2.heap.size by obtain ⟨g', h1, _, _, h4⟩ := T2.out; cases h1; exact h4.lt)
  clear hb3 T2 B2 hR3
  have q2 : (ok != ok) = false := by simp
  have lf := hide (bleft_any T3.out (HR.out.below B3.out))
  refine lf.out.mono ?_
  rintro e w4 ⟨rfl, hb4⟩
  have T4 := hide (T3.out.below hb4)
  have B4 := hide (B3.out.trans (hb4.mono B3.out.size))
  have R4 := hide (R3.out.keeps hb4)
  obtain ⟨g', e1, _, _, hrow⟩ := T4.out
  cases e1
  have HX := hide hrow
  clear hb4 T3 B3 R3 lf T4 hrow
  go_wp2
  go_loopw [6] (fun si wr => ∃ (k : Nat) (zs : List Int), si = .int .i64 k ∧ k ≤ es.length ∧ zs.length = es.length + 1 ∧ Hid (Row .u8 5 wr g zs) ∧ Hid (Row .u8 27 wr w2.heap.size L) ∧ Hid (Below w.heap.size w wr)) (fun si _ => es.length - (intOf si).toNat)
  case atStart => exact ⟨0, es ++ [28], rfl, by omega, by simp, HX, R4, B4⟩
  case round =>
    obtain ⟨k, zs, rfl, hk, hzl, HX, R4, B4⟩ := hrel
    by_cases hlt : k < es.length
    · have hlt1 : (k : Int) < (es.length : Int) := by omega
      have c1 := HX.out.cell (i := k) (by omega)
      have f1 := HX.out.frozen k
      go_wp2
      go_roundw
      case rel => exact ⟨k + 1, _, by go_num, by omega, by rw [List.length_set]; exact hzl, hide (HX.out.set k _), hide (row_other R4.out (show w2.heap.size ≠ g by have := hgl.out; omega)), hide (B4.out.setCell (p := ⟨g, k, none⟩) Hg.out _)⟩
      case measure => simp [intOf]; omega
    · have hlt1 : ¬ (k : Int) < (es.length : Int) := by omega
      go_wp2
      go_loopw [7] (fun si wr => ∃ (k : Nat), si = .int .i64 k ∧ k ≤ 32 ∧ Hid (Row .u8 27 wr w2.heap.size L) ∧ Hid (Below w.heap.size w wr)) (fun si _ => 32 - (intOf si).toNat)
      case atStart => exact ⟨0, rfl, by omega, R4, B4⟩
      case round =>
        obtain ⟨k, rfl, hk2, R5, B5⟩ := hrel
        by_cases hk3 : k < 32
        · have q3 : (k : Int) < 32 := by omega
          have c1 := R5.out.cell (i := k) (by rw [HL.out]; exact hk3)
          cases ok with
          | true =>
            have hn : es.length = 32 := of_decide_eq_true HK.out
            obtain ⟨ao', cap', e1, _, _, hc⟩ := HR.out.below B5.out
            cases e1
            obtain ⟨b, off, rfl, _, hcell⟩ := hc (by omega)
            have c2 := hcell k (by omega)
            rw [← HV.out k hk3 hn] at c2
            have q4 : (Nt.lb L k != Nt.lb L k) = false := by simp
            have q5 : (k : Int) < (es.length : Int) := by omega
            clear hc hcell hn
            go_wp2
            go_region
            all_goals go_wp2
            all_goals go_roundw
            all_goals first
              | exact ⟨k + 1, by go_num, by omega, R5, hide (by repeat (first | exact B5.out | apply Below.drew))⟩
              | (simp [intOf]; omega)
          | false =>
            have hn : es.length ≠ 32 := of_decide_eq_false HK.out
            rw [HZ.out k hk3 hn] at c1
            clear hn
            go_wp2
            go_region
            all_goals go_wp2
            all_goals go_roundw
            all_goals first
              | exact ⟨k + 1, by go_num, by omega, R5, hide (by repeat (first | exact B5.out | apply Below.drew))⟩
              | (simp [intOf]; omega)
        · have q3 : ¬ (k : Int) < 32 := by omega
          go_wp2_with (go_at_call 11; refine blives.mono ?_; rintro e w5 ⟨rfl, hb5⟩)
          go_ret
          exact ⟨rfl, B5.out.trans (hb5.mono B5.out.size)⟩

end Go.Proofs.Ytnblpmjgehknaaa
