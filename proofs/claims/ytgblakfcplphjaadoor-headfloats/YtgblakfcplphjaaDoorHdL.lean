/- layer 19: laid; Write, Float, Read -/
import Derived.Test.YtgblakfcplphjaaDoorHdT
namespace Go.Proofs.YtgblakfcplphjaaDoor
open Go.RowKit
set_option linter.unusedVariables false

/-- nine bytes of one's own -/
def Nine (w : World) (b : Nat) (zs : List Int) : Prop := zs.length = 9 ∧ w.heap[b]? = some (.cells (zs.map fun z => Value.int .u8 z).toArray 69 (0, 0))
theorem Nine.cell {w : World} {b : Nat} {zs : List Int} (h : Nine w b zs) {j : Nat} (hj : j < 9) : w.cell? ⟨b, j, none⟩ = some (.int .u8 (Nt.lb zs j)) := by
  rw [Lib.cell_of_heap h.2]
  have hl : j < zs.length := by rw [h.1]; exact hj
  simp [Nt.lb, hl]
theorem Nine.frozen {w : World} {b : Nat} {zs : List Int} (h : Nine w b zs) (j : Nat) : w.frozen? ⟨b, j, none⟩ = false := by
  simp only [World.frozen?, h.2]
  simp
theorem Nine.set {w : World} {b : Nat} {zs : List Int} (h : Nine w b zs) {j : Nat} (hj : j < 9) (z : Int) : Nine (w.setCell ⟨b, j, none⟩ (.int .u8 z)) b (zs.set j z) := by
  refine ⟨by simp [h.1], ?_⟩
  rw [heap_setCell_same w b j _ _ _ h.2]
  simp [List.map_set]
theorem Nine.conv {w : World} {b : Nat} {zs : List Int} (h : Nine w b zs) {f n : Nat} (hf : f + n = 9) (hn : 0 < n) :
    (convert 70 9 (.slice (some ⟨b, f, none⟩) n n)).run Tryd.prog w = .ok (.string (strOfNums (zs.drop f))) w := by
  refine run_convert_bytes_arg _ 70 5 Tryd.underlying70 Tryd.underlying5 b f n n (zs.drop f) (by rw [List.length_drop, h.1]; omega) ?_ 9 Tryd.underlying9
  intro i hi
  have hl := h.1
  rw [h.cell (j := f + i) (by omega)]
  have hlt : f + i < zs.length := by omega
  simp [Nt.lb, hlt]
theorem set_drop {zs : List Int} {j : Nat} (h : j < zs.length) (z : Int) : (zs.set j z).drop j = z :: zs.drop (j + 1) := by
  rw [List.drop_set, if_neg (by omega), Nat.sub_self, List.drop_eq_getElem_cons h]
  rfl

set_option maxRecDepth 100000 in
set_option maxHeartbeats 4000000 in
theorem laid_any {w : World} {m i x : Int} (hB0 : Beh w) (hm0 : 0 ≤ m) (hm : m ≤ 7) (hi0 : 0 ≤ i) (hi : i < 28) (hx0 : 0 ≤ x) (hx1 : x < 18446744073709551616) :
    Calls Tryd.prog 26 #[.int .u8 m, .int .u8 i, .int .u64 x] w fun e w' => e = .returned (.string (strOfNums (hdL m i x))) ∧ Below w.heap.size w w' := by
  have HT := hide hB0
  have hn := hN_cases i
  have hB := hide ((Below.refl w.heap.size w).alloc (Nat.le_refl _) (.cells #[.int .u8 0, .int .u8 0, .int .u8 0, .int .u8 0, .int .u8 0, .int .u8 0, .int .u8 0, .int .u8 0, .int .u8 0] 69))
  have hN9 := hide (show Nine (w.alloc (.cells #[.int .u8 0, .int .u8 0, .int .u8 0, .int .u8 0, .int .u8 0, .int .u8 0, .int .u8 0, .int .u8 0, .int .u8 0] 69)) w.heap.size [0, 0, 0, 0, 0, 0, 0, 0, 0] from ⟨rfl, heap_alloc_new w _⟩)
  clear hB0
  go_enter Tryd.func26, Tryd.ntmps26
  go_wp2
  generalize w.alloc (.cells #[.int .u8 0, .int .u8 0, .int .u8 0, .int .u8 0, .int .u8 0, .int .u8 0, .int .u8 0, .int .u8 0, .int .u8 0] 69) = W at *
  go_loopg [2, 8] 8 (fun c y k wr => ∃ (j : Nat) (z : Int) (zs : List Int), j ≤ 8 ∧ k = .int .i64 j ∧ c = j ∧ y = .int .u64 z ∧ 0 ≤ z ∧ z < 18446744073709551616 ∧ Hid (Below w.heap.size w wr) ∧ Hid (Nine wr w.heap.size zs) ∧ Hid (beL 8 x = beL j z ++ zs.drop (j + 1)))
  case atStart => exact ⟨8, x, _, by omega, rfl, rfl, rfl, hx0, hx1, hB, hN9, hide (by simp)⟩
  case round =>
    obtain ⟨j, z, zs, hj, rfl, hc, rfl, hz0, hz1, HB, HN, HE⟩ := hrel
    by_cases hj0 : j = 0
    · subst hj0
      have tc := (HT.out.below HB.out).at hi0 (by omega)
      have ho := or8h 5 (a := m * 32) (b := i) (P := 32) rfl (by omega) (by omega) (by omega) hi0 (by omega) (by omega)
      rw [show (m * 32 + i : Int) = 32 * m + i by omega] at ho
      obtain ⟨fb, hfb⟩ : ∃ fb, 32 * m + i = fb := ⟨_, rfl⟩
      have HFB := hide hfb
      have hfr : 0 ≤ fb ∧ fb < 256 := by omega
      rw [hfb] at ho
      have p1 : m * 32 < 256 := by omega
      have p2 : 0 ≤ m * 32 := by omega
      have p3 : m * 32 % 256 = m * 32 := by omega
      have HR := hide (show ∀ n, n ≤ 8 → hN i = (n : Nat) → (zs.set (8 - n) fb).drop (8 - n) = hdL m i x from fun n hn8 he => by
        rw [set_drop (by rw [HN.out.1]; omega), hdL, he, Int.toNat_natCast, HFB.out, ← beL_drop hn8 x, HE.out, beL, List.nil_append, List.drop_drop]
        congr 2; omega)
      clear hfb hn
      rcases (by have := hN_cases i; omega : hN i = 0 ∨ hN i = 1 ∨ hN i = 2 ∨ hN i = 4 ∨ hN i = 8) with h | h | h | h | h <;> rw [h] at tc
      · have cc := HN.out.cell (j := 8) (by omega)
        have fz := HN.out.frozen 8
        have HN2 := hide (HN.out.set (j := 8) (by omega) fb)
        have HB2 := hide (HB.out.setCell (p := ⟨w.heap.size, 8, none⟩) (Nat.le_refl _) (.int .u8 fb))
        have HL := hide (HR.out 0 (by omega) h)
        have hcv := HN2.out.conv (f := 8) (n := 1) rfl (by omega)
        rw [show (zs.set 8 fb).drop 8 = hdL m i x from HL.out] at hcv
        go_wp2
        go_ret
        exact ⟨rfl, HB2.out⟩
      · have cc := HN.out.cell (j := 7) (by omega)
        have fz := HN.out.frozen 7
        have HN2 := hide (HN.out.set (j := 7) (by omega) fb)
        have HB2 := hide (HB.out.setCell (p := ⟨w.heap.size, 7, none⟩) (Nat.le_refl _) (.int .u8 fb))
        have HL := hide (HR.out 1 (by omega) h)
        have hcv := HN2.out.conv (f := 7) (n := 2) rfl (by omega)
        rw [show (zs.set 7 fb).drop 7 = hdL m i x from HL.out] at hcv
        go_wp2
        go_ret
        exact ⟨rfl, HB2.out⟩
      · have cc := HN.out.cell (j := 6) (by omega)
        have fz := HN.out.frozen 6
        have HN2 := hide (HN.out.set (j := 6) (by omega) fb)
        have HB2 := hide (HB.out.setCell (p := ⟨w.heap.size, 6, none⟩) (Nat.le_refl _) (.int .u8 fb))
        have HL := hide (HR.out 2 (by omega) h)
        have hcv := HN2.out.conv (f := 6) (n := 3) rfl (by omega)
        rw [show (zs.set 6 fb).drop 6 = hdL m i x from HL.out] at hcv
        go_wp2
        go_ret
        exact ⟨rfl, HB2.out⟩
      · have cc := HN.out.cell (j := 4) (by omega)
        have fz := HN.out.frozen 4
        have HN2 := hide (HN.out.set (j := 4) (by omega) fb)
        have HB2 := hide (HB.out.setCell (p := ⟨w.heap.size, 4, none⟩) (Nat.le_refl _) (.int .u8 fb))
        have HL := hide (HR.out 4 (by omega) h)
        have hcv := HN2.out.conv (f := 4) (n := 5) rfl (by omega)
        rw [show (zs.set 4 fb).drop 4 = hdL m i x from HL.out] at hcv
        go_wp2
        go_ret
        exact ⟨rfl, HB2.out⟩
      · have cc := HN.out.cell (j := 0) (by omega)
        have fz := HN.out.frozen 0
        have HN2 := hide (HN.out.set (j := 0) (by omega) fb)
        have HB2 := hide (HB.out.setCell (p := ⟨w.heap.size, 0, none⟩) (Nat.le_refl _) (.int .u8 fb))
        have HL := hide (HR.out 8 (by omega) h)
        have hcv := HN2.out.conv (f := 0) (n := 9) rfl (by omega)
        rw [show (zs.set 0 fb).drop 0 = hdL m i x from HL.out] at hcv
        go_wp2
        go_ret
        exact ⟨rfl, HB2.out⟩
    · have q1 : (0 : Int) < (j : Int) := by omega
      have q2 : (j : Int) < 9 := by omega
      have cc := HN.out.cell (j := j) (by omega)
      have fz := HN.out.frozen j
      obtain ⟨k, rfl⟩ : ∃ k, j = k + 1 := ⟨j - 1, by omega⟩
      have q3 : ((k + 1 : Nat) : Int) - 1 = k := by omega
      have HN2 := hide (HN.out.set (j := k + 1) (by omega) (z % 256))
      have HB2 := hide (HB.out.setCell (p := ⟨w.heap.size, k + 1, none⟩) (Nat.le_refl _) (.int .u8 (z % 256)))
      have HE2 := hide (show beL 8 x = beL k (z / 256) ++ (zs.set (k + 1) (z % 256)).drop (k + 1) by
        rw [set_drop (by rw [HN.out.1]; omega), HE.out, beL, List.append_assoc]; rfl)
      go_wp2
      go_roundg k
      case measure => omega
      case rel => exact ⟨k, z / 256, _, by omega, by simp, rfl, rfl, by omega, by omega, HB2, HN2, HE2⟩

end Go.Proofs.YtgblakfcplphjaaDoor
