/- layer 19: the document's own: behind, first, bytes, Write, Float -/
import Derived.Test.YtgblakfcplphjaaDoorHdW
namespace Go.Proofs.YtgblakfcplphjaaDoor
open Go.RowKit
set_option linter.unusedVariables false

theorem conv1 {w : World} {x : Int} : (convert 70 9 (.slice (some ⟨w.heap.size, 0, none⟩) 1 1)).run Tryd.prog (w.alloc (.cells #[.int .u8 x] 5)) = .ok (.string (strOfNums [x])) (w.alloc (.cells #[.int .u8 x] 5)) := by
  refine run_convert_bytes_arg _ 70 5 Tryd.underlying70 Tryd.underlying5 w.heap.size 0 1 1 [x] rfl ?_ 9 Tryd.underlying9
  intro i hi
  have h0 : i = 0 := by omega
  subst h0
  rw [Lib.cell_of_heap (heap_alloc_new w _)]; rfl
theorem rfirst_any {w : World} {m i : Int} (hm0 : 0 ≤ m) (hm : m ≤ 7) (hi0 : 0 ≤ i) (hi : i < 32) :
    Calls Tryd.prog 28 #[.int .u8 m, .int .i64 i] w fun e w' => e = .returned (.string (strOfNums [32 * m + i])) ∧ Below w.heap.size w w' := by
  have hcv := conv1 (w := w) (x := 32 * m + i)
  have HB := hide ((Below.refl w.heap.size w).alloc (Nat.le_refl _) (.cells #[.int .u8 (32 * m + i)] 5))
  have p1 : (32 * m + i) % 256 = 32 * m + i := by omega
  go_enter Tryd.func28, Tryd.ntmps28
  go_wp2
  go_ret
  exact ⟨rfl, HB.out⟩
theorem rbytes_any {w : World} {x : Int} {n : Nat} (hn : n ≤ 8) (hx0 : 0 ≤ x) (hx1 : x < 18446744073709551616) :
    Calls Tryd.prog 29 #[.int .u64 x, .int .i64 n] w fun e w' => e = .returned (.string (strOfNums (beL n x))) ∧ Below w.heap.size w w' := by
  go_enter Tryd.func29, Tryd.ntmps29
  go_wp2
  go_loopg [0, 5, 6] n (fun c y t k wr => ∃ (j : Nat) (z : Int) (zs : List Int), j ≤ n ∧ k = .int .i64 j ∧ c = n - j ∧ y = .int .u64 z ∧ 0 ≤ z ∧ z < 18446744073709551616 ∧ t = .string (strOfNums zs) ∧ zs.length = j ∧ Hid (Below w.heap.size w wr) ∧ Hid (beL n x = beL (n - j) z ++ zs))
  case atStart => exact ⟨0, x, [], by omega, rfl, by omega, rfl, hx0, hx1, rfl, rfl, hide (Below.refl _ _), hide (by simp)⟩
  case round =>
    obtain ⟨j, z, zs, hj, rfl, hc, rfl, hz0, hz1, rfl, hzl, HB, HE⟩ := hrel
    by_cases hjn : j < n
    · have q1 : (j : Int) < (n : Int) := by omega
      have hcv := conv1 (w := wr) (x := z % 256)
      have hj2 := utxt_join [z % 256] zs
      have hsz := strOfNums_size zs
      rw [hzl] at hsz
      have hs1 := strOfNums_size [z % 256]
      have HB2 := hide (HB.out.alloc HB.out.size (.cells #[.int .u8 (z % 256)] 5))
      have HE2 := hide (show beL n x = beL (n - (j + 1)) (z / 256) ++ ([z % 256] ++ zs) by
        rw [HE.out, show n - j = n - (j + 1) + 1 by omega, beL, List.append_assoc])
      go_wp2
      go_roundg (n - (j + 1))
      case measure => omega
      case rel => exact ⟨j + 1, z / 256, [z % 256] ++ zs, by omega, by simp, rfl, rfl, by omega, by omega, rfl, by simp [hzl], HB2, HE2⟩
    · obtain rfl : j = n := by omega
      have hE := HE.out
      rw [Nat.sub_self, beL, List.nil_append] at hE
      go_wp2
      go_ret
      exact ⟨by rw [hE]; rfl, HB.out⟩
set_option maxHeartbeats 4000000 in
theorem rbehind_any {w : World} {m i : Int} (hi0 : 0 ≤ i) (hi : i < 32) :
    Calls Tryd.prog 23 #[.int .i64 m, .int .i64 i] w fun e w' => e = .returned (.int .i64 (if hB m i then hN i else -1)) ∧ w' = w := by
  obtain ⟨r, hr⟩ : ∃ r, (if hB m i then hN i else -1) = r := ⟨_, rfl⟩
  rw [hr]
  have e : (i < 24 ∧ r = 0) ∨ (i = 24 ∧ r = 1) ∨ (i = 25 ∧ r = 2) ∨ (i = 26 ∧ r = 4) ∨ (i = 27 ∧ r = 8) ∨ (i = 31 ∧ (m = 2 ∨ m = 3 ∨ m = 4 ∨ m = 5 ∨ m = 7) ∧ r = 0) ∨ (i = 31 ∧ ¬ (m = 2 ∨ m = 3 ∨ m = 4 ∨ m = 5 ∨ m = 7) ∧ r = -1) ∨ (28 ≤ i ∧ i ≠ 31 ∧ r = -1) := by
    rw [← hr]
    have hb1 : i ≠ 31 → 0 ≤ hN i → (if hB m i then hN i else -1) = hN i := fun h g => by rw [show hB m i = decide (0 ≤ hN i) from if_neg h, decide_eq_true g, if_pos rfl]
    rcases hN_cases i with ⟨p, q⟩ | ⟨p, q⟩ | ⟨p, q⟩ | ⟨p, q⟩ | ⟨p, q⟩ | ⟨p, q⟩ | ⟨p, p', q⟩
    · exact Or.inl ⟨p, by rw [hb1 (by omega) (by omega), q]⟩
    · exact Or.inr (Or.inl ⟨p, by rw [hb1 (by omega) (by omega), q]⟩)
    · exact Or.inr (Or.inr (Or.inl ⟨p, by rw [hb1 (by omega) (by omega), q]⟩))
    · exact Or.inr (Or.inr (Or.inr (Or.inl ⟨p, by rw [hb1 (by omega) (by omega), q]⟩)))
    · exact Or.inr (Or.inr (Or.inr (Or.inr (Or.inl ⟨p, by rw [hb1 (by omega) (by omega), q]⟩))))
    · by_cases hm : m = 2 ∨ m = 3 ∨ m = 4 ∨ m = 5 ∨ m = 7
      · exact Or.inr (Or.inr (Or.inr (Or.inr (Or.inr (Or.inl ⟨p, hm, by rw [show hB m i = decide (m = 2 ∨ m = 3 ∨ m = 4 ∨ m = 5 ∨ m = 7) from if_pos p, decide_eq_true hm, if_pos rfl, q]⟩)))))
      · exact Or.inr (Or.inr (Or.inr (Or.inr (Or.inr (Or.inr (Or.inl ⟨p, hm, by rw [show hB m i = decide (m = 2 ∨ m = 3 ∨ m = 4 ∨ m = 5 ∨ m = 7) from if_pos p, decide_eq_false hm, if_neg (by decide)]⟩))))))
    · exact Or.inr (Or.inr (Or.inr (Or.inr (Or.inr (Or.inr (Or.inr ⟨p, p', by rw [show hB m i = decide (0 ≤ hN i) from if_neg p', decide_eq_false (by omega), if_neg (by decide)]⟩))))))
  clear hr
  go_enter Tryd.func23, Tryd.ntmps23
  rcases e with ⟨h, rfl⟩ | ⟨rfl, rfl⟩ | ⟨rfl, rfl⟩ | ⟨rfl, rfl⟩ | ⟨rfl, rfl⟩ | ⟨rfl, h, rfl⟩ | ⟨rfl, h, rfl⟩ | ⟨h, h', rfl⟩
  · go_wp2
    go_ret
    exact ⟨rfl, rfl⟩
  · go_wp2
    go_ret
    exact ⟨rfl, rfl⟩
  · go_wp2
    go_ret
    exact ⟨rfl, rfl⟩
  · go_wp2
    go_ret
    exact ⟨rfl, rfl⟩
  · go_wp2
    go_ret
    exact ⟨rfl, rfl⟩
  · rcases h with rfl | rfl | rfl | rfl | rfl
    all_goals go_wp2
    all_goals go_ret
    all_goals exact ⟨rfl, rfl⟩
  · have n2 : (m == 2) = false := by simp; omega
    have n3 : (m == 3) = false := by simp; omega
    have n4 : (m == 4) = false := by simp; omega
    have n5 : (m == 5) = false := by simp; omega
    have n7 : (m == 7) = false := by simp; omega
    go_wp2
    go_ret
    exact ⟨rfl, rfl⟩
  · rcases (by omega : i = 28 ∨ i = 29 ∨ i = 30) with rfl | rfl | rfl
    all_goals go_wp2
    all_goals go_ret
    all_goals exact ⟨rfl, rfl⟩

end Go.Proofs.YtgblakfcplphjaaDoor
