/- layer 19: the document's Write and Float -/
import Derived.Test.YtgblakfcplphjaaDoorHdF
namespace Go.Proofs.YtgblakfcplphjaaDoor
open Go.RowKit
set_option linter.unusedVariables false

set_option maxRecDepth 100000 in
set_option maxHeartbeats 4000000 in
theorem rwrite_any {w : World} {m x : Int} (hm0 : 0 ≤ m) (hm : m < 256) (hx0 : 0 ≤ x) (hx1 : x < 18446744073709551616) :
    Calls Tryd.prog 14 #[.int .u8 m, .int .u64 x] w fun e w' => e = .returned (.tuple #[.string (if hOk m x then strOfNums (hdL m (hS x) x) else ⟨#[]⟩), .bool (hOk m x)]) ∧ Below w.heap.size w w' := by
  by_cases hok : hOk m x = true
  · rw [hok, if_pos rfl]
    have hc : m < 7 ∨ m = 7 ∧ (x < 24 ∨ 31 < x ∧ x < 256) := by
      unfold hOk hSi at hok
      simp at hok
      omega
    have hg : ¬ 7 < m := by omega
    have h71 : (m == 7) = true → ¬ (24 ≤ x ∧ x < 32) ∧ ¬ 255 < x := fun h => by have := eq_of_beq h; omega
    by_cases h24 : x < 24
    · rw [show hS x = x from if_pos h24]
      have CF := hide (rfirst_any (w := w) (m := m) (i := x) hm0 (by omega) hx0 (by omega))
      have hh : hdL m x x = [32 * m + x] := by rw [hdL, show hN x = 0 from if_pos h24]; rfl
      rw [hh]
      go_enter Tryd.func14, Tryd.ntmps14
      rcases hc with h | ⟨rfl, h⟩
      · have hm7 : (m == 7) = false := by simp; omega
        go_wp2_with fail
        refine CF.out.mono ?_
        rintro e w1 ⟨rfl, hb1⟩
        go_wp2
        go_ret2
        exact ⟨rfl, hb1⟩
      · go_wp2_with fail
        refine CF.out.mono ?_
        rintro e w1 ⟨rfl, hb1⟩
        go_wp2
        go_ret2
        exact ⟨rfl, hb1⟩
    · by_cases h256 : x < 256
      · have hs : hS x = 24 := by unfold hS; rw [if_neg h24, if_pos h256]
        rw [hs]
        rcases hc with h | ⟨rfl, h⟩
        · have hm7 : (m == 7) = false := by simp; omega
          have CF := hide (rfirst_any (w := w) (m := m) (i := 24) (by omega) (by omega) (by omega) (by omega))
          have HJ := hide (show strOfNums [32 * m + 24] ++ strOfNums (beL 1 x) = strOfNums (hdL m 24 x) from utxt_join _ _)
          have s1 := strOfNums_size [32 * m + 24]
          have s2 : (strOfNums (beL 1 x)).size = 1 := by rw [strOfNums_size, beL_len]
          have hj := HJ.out
          go_enter Tryd.func14, Tryd.ntmps14
          go_wp2_with fail
          refine CF.out.mono ?_
          rintro e w1 ⟨rfl, hb1⟩
          have CB := hide (rbytes_any (w := w1) (x := x) (n := 1) (by omega) hx0 hx1)
          have HB1 := hide hb1
          clear hb1
          go_wp2_with fail
          refine CB.out.mono ?_
          rintro e w2 ⟨rfl, hb2⟩
          have HB2 := hide (HB1.out.trans (hb2.mono HB1.out.size))
          clear hb2
          go_wp2
          go_ret2
          exact ⟨rfl, HB2.out⟩
        · have hx31 : 31 < x := by omega
          have hx32 : ¬ x < 32 := by omega
          have CF := hide (rfirst_any (w := w) (m := 7) (i := 24) (by omega) (by omega) (by omega) (by omega))
          have HJ := hide (show strOfNums [32 * 7 + 24] ++ strOfNums (beL 1 x) = strOfNums (hdL 7 24 x) from utxt_join _ _)
          have s1 := strOfNums_size [32 * 7 + 24]
          have s2 : (strOfNums (beL 1 x)).size = 1 := by rw [strOfNums_size, beL_len]
          have hj := HJ.out
          go_enter Tryd.func14, Tryd.ntmps14
          go_wp2_with fail
          refine CF.out.mono ?_
          rintro e w1 ⟨rfl, hb1⟩
          have CB := hide (rbytes_any (w := w1) (x := x) (n := 1) (by omega) hx0 hx1)
          have HB1 := hide hb1
          clear hb1
          go_wp2_with fail
          refine CB.out.mono ?_
          rintro e w2 ⟨rfl, hb2⟩
          have HB2 := hide (HB1.out.trans (hb2.mono HB1.out.size))
          clear hb2
          go_wp2
          go_ret2
          exact ⟨rfl, HB2.out⟩
      · by_cases h65536 : x < 65536
        · have hs : hS x = 25 := by unfold hS; rw [if_neg h24, if_neg h256, if_pos h65536]
          rw [hs]
          rcases hc with h | ⟨rfl, h⟩
          · have hm7 : (m == 7) = false := by simp; omega
            have CF := hide (rfirst_any (w := w) (m := m) (i := 25) (by omega) (by omega) (by omega) (by omega))
            have HJ := hide (show strOfNums [32 * m + 25] ++ strOfNums (beL 2 x) = strOfNums (hdL m 25 x) from utxt_join _ _)
            have s1 := strOfNums_size [32 * m + 25]
            have s2 : (strOfNums (beL 2 x)).size = 2 := by rw [strOfNums_size, beL_len]
            have hj := HJ.out
            go_enter Tryd.func14, Tryd.ntmps14
            go_wp2_with fail
            refine CF.out.mono ?_
            rintro e w1 ⟨rfl, hb1⟩
            have CB := hide (rbytes_any (w := w1) (x := x) (n := 2) (by omega) hx0 hx1)
            have HB1 := hide hb1
            clear hb1
            go_wp2_with fail
            refine CB.out.mono ?_
            rintro e w2 ⟨rfl, hb2⟩
            have HB2 := hide (HB1.out.trans (hb2.mono HB1.out.size))
            clear hb2
            go_wp2
            go_ret2
            exact ⟨rfl, HB2.out⟩
          · exfalso; omega
        · by_cases h4294967296 : x < 4294967296
          · have hs : hS x = 26 := by unfold hS; rw [if_neg h24, if_neg h256, if_neg h65536, if_pos h4294967296]
            rw [hs]
            rcases hc with h | ⟨rfl, h⟩
            · have hm7 : (m == 7) = false := by simp; omega
              have CF := hide (rfirst_any (w := w) (m := m) (i := 26) (by omega) (by omega) (by omega) (by omega))
              have HJ := hide (show strOfNums [32 * m + 26] ++ strOfNums (beL 4 x) = strOfNums (hdL m 26 x) from utxt_join _ _)
              have s1 := strOfNums_size [32 * m + 26]
              have s2 : (strOfNums (beL 4 x)).size = 4 := by rw [strOfNums_size, beL_len]
              have hj := HJ.out
              go_enter Tryd.func14, Tryd.ntmps14
              go_wp2_with fail
              refine CF.out.mono ?_
              rintro e w1 ⟨rfl, hb1⟩
              have CB := hide (rbytes_any (w := w1) (x := x) (n := 4) (by omega) hx0 hx1)
              have HB1 := hide hb1
              clear hb1
              go_wp2_with fail
              refine CB.out.mono ?_
              rintro e w2 ⟨rfl, hb2⟩
              have HB2 := hide (HB1.out.trans (hb2.mono HB1.out.size))
              clear hb2
              go_wp2
              go_ret2
              exact ⟨rfl, HB2.out⟩
            · exfalso; omega
          · have hs : hS x = 27 := by unfold hS; rw [if_neg h24, if_neg h256, if_neg h65536, if_neg h4294967296]
            rw [hs]
            rcases hc with h | ⟨rfl, h⟩
            · have hm7 : (m == 7) = false := by simp; omega
              have CF := hide (rfirst_any (w := w) (m := m) (i := 27) (by omega) (by omega) (by omega) (by omega))
              have HJ := hide (show strOfNums [32 * m + 27] ++ strOfNums (beL 8 x) = strOfNums (hdL m 27 x) from utxt_join _ _)
              have s1 := strOfNums_size [32 * m + 27]
              have s2 : (strOfNums (beL 8 x)).size = 8 := by rw [strOfNums_size, beL_len]
              have hj := HJ.out
              go_enter Tryd.func14, Tryd.ntmps14
              go_wp2_with fail
              refine CF.out.mono ?_
              rintro e w1 ⟨rfl, hb1⟩
              have CB := hide (rbytes_any (w := w1) (x := x) (n := 8) (by omega) hx0 hx1)
              have HB1 := hide hb1
              clear hb1
              go_wp2_with fail
              refine CB.out.mono ?_
              rintro e w2 ⟨rfl, hb2⟩
              have HB2 := hide (HB1.out.trans (hb2.mono HB1.out.size))
              clear hb2
              go_wp2
              go_ret2
              exact ⟨rfl, HB2.out⟩
            · exfalso; omega
  · have hok' : hOk m x = false := by simpa using hok
    rw [hok', if_neg (by decide)]
    have hc : 7 < m ∨ m = 7 ∧ (24 ≤ x ∧ x < 32 ∨ 255 < x ∧ ¬ x < 32) := by
      unfold hOk hSi at hok'
      simp at hok'
      omega
    go_enter Tryd.func14, Tryd.ntmps14
    rcases hc with h | ⟨rfl, ⟨h, h'⟩ | ⟨h, h'⟩⟩
    all_goals go_wp2
    all_goals go_ret2
    all_goals exact ⟨rfl, Below.refl _ _⟩

set_option maxRecDepth 100000 in
set_option maxHeartbeats 4000000 in
theorem rfloat_any {w : World} {v x : Int} (hx0 : 0 ≤ x) (hx1 : x < 18446744073709551616) :
    Calls Tryd.prog 16 #[.int .i64 v, .int .u64 x] w fun e w' => e = .returned (.tuple #[.string (if hF v x = 0 then ⟨#[]⟩ else strOfNums (hdL 7 (hF v x) x)), .bool (hF v x != 0)]) ∧ Below w.heap.size w w' := by
  have hc := hF_cases v x
  obtain ⟨f, hf⟩ : ∃ f, hF v x = f := ⟨_, rfl⟩
  rw [hf] at hc ⊢
  clear hf
  rcases hc with ⟨rfl, h, rfl⟩ | ⟨rfl, h, rfl⟩ | ⟨rfl, rfl⟩ | ⟨rfl, h1, h2, h3⟩
  · rw [if_neg (by decide)]
    have CF := hide (rfirst_any (w := w) (m := 7) (i := 25) (by omega) (by omega) (by omega) (by omega))
    have HJ := hide (show strOfNums [32 * 7 + 25] ++ strOfNums (beL 2 x) = strOfNums (hdL 7 25 x) from utxt_join _ _)
    have s1 := strOfNums_size [32 * 7 + 25]
    have s2 : (strOfNums (beL 2 x)).size = 2 := by rw [strOfNums_size, beL_len]
    have hj := HJ.out
    go_enter Tryd.func16, Tryd.ntmps16
    go_wp2_with fail
    refine CF.out.mono ?_
    rintro e w1 ⟨rfl, hb1⟩
    have CB := hide (rbytes_any (w := w1) (x := x) (n := 2) (by omega) hx0 hx1)
    have HB1 := hide hb1
    clear hb1
    go_wp2_with fail
    refine CB.out.mono ?_
    rintro e w2 ⟨rfl, hb2⟩
    have HB2 := hide (HB1.out.trans (hb2.mono HB1.out.size))
    clear hb2
    go_wp2
    go_ret2
    exact ⟨rfl, HB2.out⟩
  · rw [if_neg (by decide)]
    have CF := hide (rfirst_any (w := w) (m := 7) (i := 26) (by omega) (by omega) (by omega) (by omega))
    have HJ := hide (show strOfNums [32 * 7 + 26] ++ strOfNums (beL 4 x) = strOfNums (hdL 7 26 x) from utxt_join _ _)
    have s1 := strOfNums_size [32 * 7 + 26]
    have s2 : (strOfNums (beL 4 x)).size = 4 := by rw [strOfNums_size, beL_len]
    have hj := HJ.out
    go_enter Tryd.func16, Tryd.ntmps16
    go_wp2_with fail
    refine CF.out.mono ?_
    rintro e w1 ⟨rfl, hb1⟩
    have CB := hide (rbytes_any (w := w1) (x := x) (n := 4) (by omega) hx0 hx1)
    have HB1 := hide hb1
    clear hb1
    go_wp2_with fail
    refine CB.out.mono ?_
    rintro e w2 ⟨rfl, hb2⟩
    have HB2 := hide (HB1.out.trans (hb2.mono HB1.out.size))
    clear hb2
    go_wp2
    go_ret2
    exact ⟨rfl, HB2.out⟩
  · rw [if_neg (by decide)]
    have CF := hide (rfirst_any (w := w) (m := 7) (i := 27) (by omega) (by omega) (by omega) (by omega))
    have HJ := hide (show strOfNums [32 * 7 + 27] ++ strOfNums (beL 8 x) = strOfNums (hdL 7 27 x) from utxt_join _ _)
    have s1 := strOfNums_size [32 * 7 + 27]
    have s2 : (strOfNums (beL 8 x)).size = 8 := by rw [strOfNums_size, beL_len]
    have hj := HJ.out
    go_enter Tryd.func16, Tryd.ntmps16
    go_wp2_with fail
    refine CF.out.mono ?_
    rintro e w1 ⟨rfl, hb1⟩
    have CB := hide (rbytes_any (w := w1) (x := x) (n := 8) (by omega) hx0 hx1)
    have HB1 := hide hb1
    clear hb1
    go_wp2_with fail
    refine CB.out.mono ?_
    rintro e w2 ⟨rfl, hb2⟩
    have HB2 := hide (HB1.out.trans (hb2.mono HB1.out.size))
    clear hb2
    go_wp2
    go_ret2
    exact ⟨rfl, HB2.out⟩
  · rw [if_pos rfl]
    have n64 : (v == 64) = false := by simpa using h3
    go_enter Tryd.func16, Tryd.ntmps16
    by_cases e1 : v = 16
    · subst e1
      have q : ¬ x < 65536 := by omega
      go_wp2
      go_ret2
      exact ⟨rfl, Below.refl _ _⟩
    · have n16 : (v == 16) = false := by simpa using e1
      by_cases e2 : v = 32
      · subst e2
        have q : ¬ x < 4294967296 := by omega
        go_wp2
        go_ret2
        exact ⟨rfl, Below.refl _ _⟩
      · have n32 : (v == 32) = false := by simpa using e2
        go_wp2
        go_ret2
        exact ⟨rfl, Below.refl _ _⟩


end Go.Proofs.YtgblakfcplphjaaDoor