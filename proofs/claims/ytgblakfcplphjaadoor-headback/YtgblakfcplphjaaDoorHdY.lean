/- HeadBack: the walk -/
import Derived.Test.YtgblakfcplphjaaDoorHdA
namespace Go.Proofs.YtgblakfcplphjaaDoor
open Go.RowKit
set_option linter.unusedVariables false

theorem toList_ne {s t : ByteArray} (h : ¬ s = t) : (s.toList == t.toList) = false := by
  apply beq_eq_false_iff_ne.2
  intro e
  rw [ByteArray.toList_eq, ByteArray.toList_eq] at e
  exact h (by cases s; cases t; simp at e; rw [e])
theorem str_eq {x y : Int} {m : Int} (hm : 0 ≤ m ∧ m ≤ 7) (h0 : 0 ≤ x) (h1 : x < 18446744073709551616) (g0 : 0 ≤ y) (g1 : y < 18446744073709551616) : strOfNums (hdL m (hS x) x) = strOfNums (hdL m (hS y) y) ↔ x = y := by
  obtain ⟨a1, a2, _, _⟩ := hS_rng h0 h1
  obtain ⟨b1, b2, _, _⟩ := hS_rng g0 g1
  constructor
  · exact fun e => (hd_inj hm h0 h1 g0 g1).1 (utxt_inj (hdL_byt _ hm ⟨a1, by omega⟩) (hdL_byt _ hm ⟨b1, by omega⟩) e)
  · rintro rfl; rfl
set_option maxRecDepth 100000 in
set_option maxHeartbeats 4000000 in
theorem hback {w : World} {a : Nat → Addr} {m x y : Int} (hSn : Snt w a) (hH : Hnd w) (hT : Beh w) (hm0 : 0 ≤ m) (hm : m < 256) (hx0 : 0 ≤ x) (hx1 : x < 18446744073709551616) (hy0 : 0 ≤ y) (hy1 : y < 18446744073709551616) :
    Calls Tryd.prog 6 #[.int .u8 m, .int .u64 x, .int .u64 y] w fun e w' => e = .returned (.bool true) ∧ Below w.heap.size w w' := by
  have CL := hide (lives19 hSn hH hT)
  have CX := hide (fun w1 (h : Below w.heap.size w w1) => hwrite_any (w := w1) (m := m) (x := x) (hT.below h) hm0 hm hx0 hx1)
  have CY := hide (fun w1 (h : Below w.heap.size w w1) => hwrite_any (w := w1) (m := m) (x := y) (hT.below h) hm0 hm hy0 hy1)
  have HS := hide hSn
  have HH := hide hH
  have HT := hide hT
  clear hSn hH hT
  by_cases hok : hOk m x = true
  · have hm7 : m ≤ 7 := by unfold hOk at hok; simp at hok; omega
    have hoc : m < 7 ∨ m = 7 ∧ (x < 24 ∨ 32 ≤ x ∧ x < 256) := by unfold hOk hSi at hok; simp at hok; omega
    obtain ⟨i0, i1, _, _⟩ := hS_rng hx0 hx1
    have HE := hide (str_eq (x := x) (y := y) ⟨hm0, hm7⟩ hx0 hx1 hy0 hy1)
    have HW := hide (rd_write ⟨hm0, hm7⟩ hx0 hx1)
    have HL := hide (hdL_len m (hS x) x)
    have HK := hide (fun k => rd_take (x := x) (k := k) ⟨hm0, hm7⟩ ⟨i0, i1⟩)
    have HBy := hide (hdL_byt x ⟨hm0, hm7⟩ ⟨i0, (by omega : hS x ≤ 31)⟩)
    have hNn : 0 ≤ hN (hS x) ∧ hN (hS x) ≤ 8 := by have := hN_cases (hS x); omega
    obtain ⟨es, hes⟩ : ∃ es, hdL m (hS x) x = es := ⟨_, rfl⟩
    obtain ⟨i, hi⟩ : ∃ i, hS x = i := ⟨_, rfl⟩
    rw [hok, if_pos rfl] at CX
    rw [hes] at CX HE HW HL HK HBy
    rw [hi] at HW HL i0 i1 hNn
    obtain ⟨n, hn⟩ : ∃ n : Nat, hN i = n := ⟨(hN i).toNat, by omega⟩
    rw [hn] at HW HL hNn
    obtain ⟨s, hs⟩ : ∃ s, strOfNums es = s := ⟨_, rfl⟩
    have hsz : s.size = 1 + n := by rw [← hs, strOfNums_size, HL.out, Int.toNat_natCast]
    rw [hs] at CX HE
    have HSt := hide hs
    obtain ⟨oy, hoy⟩ : ∃ o, hOk m y = o := ⟨_, rfl⟩
    rw [hoy] at CY
    obtain ⟨t, ht⟩ : ∃ t, (if oy = true then strOfNums (hdL m (hS y) y) else ⟨#[]⟩) = t := ⟨_, rfl⟩
    rw [ht] at CY
    have HTt := hide ht
    have het : oy = true → (s = t ↔ x = y) := fun h => by rw [← ht, if_pos h]; exact HE.out
    clear hes hi hn hs hoy ht HE
    go_enter Tryd.func6, Tryd.ntmps6
    go_wp2_with fail
    refine CL.out.mono ?_
    rintro e w1 ⟨rfl, hb1⟩
    have HB1 := hide hb1
    clear hb1 CL
    go_wp2_with fail
    refine (CX.out w1 HB1.out).mono ?_
    rintro e w2 ⟨rfl, hb2⟩
    have HB2 := hide (HB1.out.trans (hb2.mono HB1.out.size))
    clear hb2 CX
    go_wp2_with fail
    refine (CY.out w2 HB2.out).mono ?_
    rintro e w3 ⟨rfl, hb3⟩
    have HB3 := hide (HB2.out.trans (hb3.mono HB2.out.size))
    clear hb3 CY
    have CR := hide (hread_any (w := w3) (a := a) (es := es) (s := s) (k := 0) (HS.out.below HB3.out) (HT.out.below HB3.out) HBy.out HSt.out.symm (by have := HL.out; omega))
    rw [HW.out] at CR
    -- the ways
    rcases hoc with h7 | ⟨rfl, h24 | ⟨h32, h256⟩⟩
    · have hm7' : (m == 7) = false := by simp; omega
      cases oy
      · skip
        go_wp2_with fail
        refine CR.out.mono ?_
        rintro e w4 ⟨hE, hb4⟩
        obtain rfl := hE
        have HB4 := hide (HB3.out.trans (hb4.mono HB3.out.size))
        clear hb4 CR
        simp only [hdV]
        go_wp2
        obtain ⟨W4, hW4⟩ : ∃ W, w4.alloc (.cells #[.int .u8 m, .int .u8 i, .int .u64 x, .int .i64 (1 + (n : Int))] 24) = W := ⟨_, rfl⟩
        have HB5 := hide (HB4.out.trans ((hW4 ▸ (Below.refl _ _).alloc (Nat.le_refl _) _ : Below w4.heap.size w4 W4).mono HB4.out.size))
        rw [hW4]
        clear hW4
        go_loopg [14, 15, 16] (1 + n) (fun c k q15 q16 wr => ∃ j : Nat, j ≤ 1 + n ∧ k = .int .i64 j ∧ c = 1 + n - j ∧ Hid (Below w.heap.size w wr))
        case atStart => exact ⟨0, by omega, rfl, by omega, HB5⟩
        case round =>
          obtain ⟨j, hj, rfl, hcj, HBr⟩ := hrel
          by_cases hjn : j < 1 + n
          · have j1 : (j : Int) < 1 + (n : Int) := by omega
            have hex : s.extract 0 j = strOfNums (es.take j) := by rw [← HSt.out, utxt_cut, List.drop_zero]
            have hsl : ∀ u, (Instr.slice 9 (.string s) none (some (.int .i64 (j : Int))) none).run Tryd.prog u = .ok (.string (strOfNums (es.take j))) u := fun u => by
              rw [run_slice_string_h (kh := .i64) (h := (j : Int)), Int.toNat_natCast, hex]
              all_goals first | exact Tryd.underlying9 | omega
            have CQ := hide (hread_any (w := wr) (a := a) (es := es.take j) (s := strOfNums (es.take j)) (k := 0) (HS.out.below HBr.out) (HT.out.below HBr.out) (fun y hy => HBy.out y (List.mem_of_mem_take hy)) rfl (by rw [List.length_take]; omega))
            rw [HK.out j (by rw [HL.out, Int.toNat_natCast]; exact hjn)] at CQ
            obtain ⟨sj, hsj⟩ : ∃ sj, strOfNums (es.take j) = sj := ⟨_, rfl⟩
            rw [hsj] at hsl CQ
            clear hex hsj
            go_wp2_with fail
            refine CQ.out.mono ?_
            rintro e w5 ⟨hE, hb5⟩
            obtain ⟨v, rfl, hF⟩ := hE.flt
            have HB6 := hide (HBr.out.trans (hb5.mono HBr.out.size))
            have HF := hide hF
            clear hb5 CQ hE hF
            simp only [hdV]
            go_wp2_with fail
            obtain ⟨W5, hW5⟩ : ∃ W, w5.alloc (.cells #[.int .u8 0, .int .u8 0, .int .u64 0, .int .i64 0] 24) = W := ⟨_, rfl⟩
            have bW5 : Below w5.heap.size w5 W5 := hW5 ▸ (Below.refl _ _).alloc (Nat.le_refl _) _
            have hk5 : W5.heap[w5.heap.size]? = some (.cells #[.int .u8 0, .int .u8 0, .int .u64 0, .int .i64 0] 24 (0, 0)) := hW5 ▸ heap_alloc_new w5 _
            have HB7 := hide (HB6.out.trans (bW5.mono HB6.out.size))
            have CI := hide (f3isat (j : Int) (HF.out.below bW5) (HS.out.below HB7.out) (HH.out.below HB7.out))
            rw [decide_eq_true rfl] at CI
            rw [hW5]
            clear bW5 hW5
            refine CI.out.mono ?_
            rintro e w6 ⟨rfl, hb6⟩
            obtain ⟨f0, f1, f2, f3, _⟩ := four_cells (keep4 hk5 hb6)
            have HB8 := hide (HB7.out.trans (hb6.mono HB7.out.size))
            clear hb6 CI hk5
            go_wp2
            go_roundg (1 + n - (j + 1))
            case measure => omega
            case rel => exact ⟨j + 1, by omega, by simp, rfl, HB8⟩
          · have j1 : ¬ ((j : Int) < 1 + (n : Int)) := by omega
            go_wp2
            go_ret
            exact ⟨rfl, HBr.out⟩
      · by_cases hxy : x = y
        · subst hxy
          have hst : s = t := (het rfl).2 rfl
          subst hst
          go_wp2_with fail
          refine CR.out.mono ?_
          rintro e w4 ⟨hE, hb4⟩
          obtain rfl := hE
          have HB4 := hide (HB3.out.trans (hb4.mono HB3.out.size))
          clear hb4 CR
          simp only [hdV]
          go_wp2
          obtain ⟨W4, hW4⟩ : ∃ W, w4.alloc (.cells #[.int .u8 m, .int .u8 i, .int .u64 x, .int .i64 (1 + (n : Int))] 24) = W := ⟨_, rfl⟩
          have HB5 := hide (HB4.out.trans ((hW4 ▸ (Below.refl _ _).alloc (Nat.le_refl _) _ : Below w4.heap.size w4 W4).mono HB4.out.size))
          rw [hW4]
          clear hW4
          go_loopg [14, 15, 16] (1 + n) (fun c k q15 q16 wr => ∃ j : Nat, j ≤ 1 + n ∧ k = .int .i64 j ∧ c = 1 + n - j ∧ Hid (Below w.heap.size w wr))
          case atStart => exact ⟨0, by omega, rfl, by omega, HB5⟩
          case round =>
            obtain ⟨j, hj, rfl, hcj, HBr⟩ := hrel
            by_cases hjn : j < 1 + n
            · have j1 : (j : Int) < 1 + (n : Int) := by omega
              have hex : s.extract 0 j = strOfNums (es.take j) := by rw [← HSt.out, utxt_cut, List.drop_zero]
              have hsl : ∀ u, (Instr.slice 9 (.string s) none (some (.int .i64 (j : Int))) none).run Tryd.prog u = .ok (.string (strOfNums (es.take j))) u := fun u => by
                rw [run_slice_string_h (kh := .i64) (h := (j : Int)), Int.toNat_natCast, hex]
                all_goals first | exact Tryd.underlying9 | omega
              have CQ := hide (hread_any (w := wr) (a := a) (es := es.take j) (s := strOfNums (es.take j)) (k := 0) (HS.out.below HBr.out) (HT.out.below HBr.out) (fun y hy => HBy.out y (List.mem_of_mem_take hy)) rfl (by rw [List.length_take]; omega))
              rw [HK.out j (by rw [HL.out, Int.toNat_natCast]; exact hjn)] at CQ
              obtain ⟨sj, hsj⟩ : ∃ sj, strOfNums (es.take j) = sj := ⟨_, rfl⟩
              rw [hsj] at hsl CQ
              clear hex hsj
              go_wp2_with fail
              refine CQ.out.mono ?_
              rintro e w5 ⟨hE, hb5⟩
              obtain ⟨v, rfl, hF⟩ := hE.flt
              have HB6 := hide (HBr.out.trans (hb5.mono HBr.out.size))
              have HF := hide hF
              clear hb5 CQ hE hF
              simp only [hdV]
              go_wp2_with fail
              obtain ⟨W5, hW5⟩ : ∃ W, w5.alloc (.cells #[.int .u8 0, .int .u8 0, .int .u64 0, .int .i64 0] 24) = W := ⟨_, rfl⟩
              have bW5 : Below w5.heap.size w5 W5 := hW5 ▸ (Below.refl _ _).alloc (Nat.le_refl _) _
              have hk5 : W5.heap[w5.heap.size]? = some (.cells #[.int .u8 0, .int .u8 0, .int .u64 0, .int .i64 0] 24 (0, 0)) := hW5 ▸ heap_alloc_new w5 _
              have HB7 := hide (HB6.out.trans (bW5.mono HB6.out.size))
              have CI := hide (f3isat (j : Int) (HF.out.below bW5) (HS.out.below HB7.out) (HH.out.below HB7.out))
              rw [decide_eq_true rfl] at CI
              rw [hW5]
              clear bW5 hW5
              refine CI.out.mono ?_
              rintro e w6 ⟨rfl, hb6⟩
              obtain ⟨f0, f1, f2, f3, _⟩ := four_cells (keep4 hk5 hb6)
              have HB8 := hide (HB7.out.trans (hb6.mono HB7.out.size))
              clear hb6 CI hk5
              go_wp2
              go_roundg (1 + n - (j + 1))
              case measure => omega
              case rel => exact ⟨j + 1, by omega, by simp, rfl, HB8⟩
            · have j1 : ¬ ((j : Int) < 1 + (n : Int)) := by omega
              go_wp2
              go_ret
              exact ⟨rfl, HBr.out⟩
        · have hxy' : (x == y) = false := by simpa using hxy
          have hst : ¬ s = t := fun h => hxy ((het rfl).1 h)
          have hst2 : (s.toList == t.toList) = false := toList_ne hst
          go_wp2_with fail
          refine CR.out.mono ?_
          rintro e w4 ⟨hE, hb4⟩
          obtain rfl := hE
          have HB4 := hide (HB3.out.trans (hb4.mono HB3.out.size))
          clear hb4 CR
          simp only [hdV]
          go_wp2
          obtain ⟨W4, hW4⟩ : ∃ W, w4.alloc (.cells #[.int .u8 m, .int .u8 i, .int .u64 x, .int .i64 (1 + (n : Int))] 24) = W := ⟨_, rfl⟩
          have HB5 := hide (HB4.out.trans ((hW4 ▸ (Below.refl _ _).alloc (Nat.le_refl _) _ : Below w4.heap.size w4 W4).mono HB4.out.size))
          rw [hW4]
          clear hW4
          go_loopg [14, 15, 16] (1 + n) (fun c k q15 q16 wr => ∃ j : Nat, j ≤ 1 + n ∧ k = .int .i64 j ∧ c = 1 + n - j ∧ Hid (Below w.heap.size w wr))
          case atStart => exact ⟨0, by omega, rfl, by omega, HB5⟩
          case round =>
            obtain ⟨j, hj, rfl, hcj, HBr⟩ := hrel
            by_cases hjn : j < 1 + n
            · have j1 : (j : Int) < 1 + (n : Int) := by omega
              have hex : s.extract 0 j = strOfNums (es.take j) := by rw [← HSt.out, utxt_cut, List.drop_zero]
              have hsl : ∀ u, (Instr.slice 9 (.string s) none (some (.int .i64 (j : Int))) none).run Tryd.prog u = .ok (.string (strOfNums (es.take j))) u := fun u => by
                rw [run_slice_string_h (kh := .i64) (h := (j : Int)), Int.toNat_natCast, hex]
                all_goals first | exact Tryd.underlying9 | omega
              have CQ := hide (hread_any (w := wr) (a := a) (es := es.take j) (s := strOfNums (es.take j)) (k := 0) (HS.out.below HBr.out) (HT.out.below HBr.out) (fun y hy => HBy.out y (List.mem_of_mem_take hy)) rfl (by rw [List.length_take]; omega))
              rw [HK.out j (by rw [HL.out, Int.toNat_natCast]; exact hjn)] at CQ
              obtain ⟨sj, hsj⟩ : ∃ sj, strOfNums (es.take j) = sj := ⟨_, rfl⟩
              rw [hsj] at hsl CQ
              clear hex hsj
              go_wp2_with fail
              refine CQ.out.mono ?_
              rintro e w5 ⟨hE, hb5⟩
              obtain ⟨v, rfl, hF⟩ := hE.flt
              have HB6 := hide (HBr.out.trans (hb5.mono HBr.out.size))
              have HF := hide hF
              clear hb5 CQ hE hF
              simp only [hdV]
              go_wp2_with fail
              obtain ⟨W5, hW5⟩ : ∃ W, w5.alloc (.cells #[.int .u8 0, .int .u8 0, .int .u64 0, .int .i64 0] 24) = W := ⟨_, rfl⟩
              have bW5 : Below w5.heap.size w5 W5 := hW5 ▸ (Below.refl _ _).alloc (Nat.le_refl _) _
              have hk5 : W5.heap[w5.heap.size]? = some (.cells #[.int .u8 0, .int .u8 0, .int .u64 0, .int .i64 0] 24 (0, 0)) := hW5 ▸ heap_alloc_new w5 _
              have HB7 := hide (HB6.out.trans (bW5.mono HB6.out.size))
              have CI := hide (f3isat (j : Int) (HF.out.below bW5) (HS.out.below HB7.out) (HH.out.below HB7.out))
              rw [decide_eq_true rfl] at CI
              rw [hW5]
              clear bW5 hW5
              refine CI.out.mono ?_
              rintro e w6 ⟨rfl, hb6⟩
              obtain ⟨f0, f1, f2, f3, _⟩ := four_cells (keep4 hk5 hb6)
              have HB8 := hide (HB7.out.trans (hb6.mono HB7.out.size))
              clear hb6 CI hk5
              go_wp2
              go_roundg (1 + n - (j + 1))
              case measure => omega
              case rel => exact ⟨j + 1, by omega, by simp, rfl, HB8⟩
            · have j1 : ¬ ((j : Int) < 1 + (n : Int)) := by omega
              go_wp2
              go_ret
              exact ⟨rfl, HBr.out⟩
    · have hx256 : x < 256 := by omega
      cases oy
      · skip
        go_wp2_with fail
        refine CR.out.mono ?_
        rintro e w4 ⟨hE, hb4⟩
        obtain rfl := hE
        have HB4 := hide (HB3.out.trans (hb4.mono HB3.out.size))
        clear hb4 CR
        simp only [hdV]
        go_wp2
        obtain ⟨W4, hW4⟩ : ∃ W, w4.alloc (.cells #[.int .u8 7, .int .u8 i, .int .u64 x, .int .i64 (1 + (n : Int))] 24) = W := ⟨_, rfl⟩
        have HB5 := hide (HB4.out.trans ((hW4 ▸ (Below.refl _ _).alloc (Nat.le_refl _) _ : Below w4.heap.size w4 W4).mono HB4.out.size))
        rw [hW4]
        clear hW4
        go_loopg [14, 15, 16] (1 + n) (fun c k q15 q16 wr => ∃ j : Nat, j ≤ 1 + n ∧ k = .int .i64 j ∧ c = 1 + n - j ∧ Hid (Below w.heap.size w wr))
        case atStart => exact ⟨0, by omega, rfl, by omega, HB5⟩
        case round =>
          obtain ⟨j, hj, rfl, hcj, HBr⟩ := hrel
          by_cases hjn : j < 1 + n
          · have j1 : (j : Int) < 1 + (n : Int) := by omega
            have hex : s.extract 0 j = strOfNums (es.take j) := by rw [← HSt.out, utxt_cut, List.drop_zero]
            have hsl : ∀ u, (Instr.slice 9 (.string s) none (some (.int .i64 (j : Int))) none).run Tryd.prog u = .ok (.string (strOfNums (es.take j))) u := fun u => by
              rw [run_slice_string_h (kh := .i64) (h := (j : Int)), Int.toNat_natCast, hex]
              all_goals first | exact Tryd.underlying9 | omega
            have CQ := hide (hread_any (w := wr) (a := a) (es := es.take j) (s := strOfNums (es.take j)) (k := 0) (HS.out.below HBr.out) (HT.out.below HBr.out) (fun y hy => HBy.out y (List.mem_of_mem_take hy)) rfl (by rw [List.length_take]; omega))
            rw [HK.out j (by rw [HL.out, Int.toNat_natCast]; exact hjn)] at CQ
            obtain ⟨sj, hsj⟩ : ∃ sj, strOfNums (es.take j) = sj := ⟨_, rfl⟩
            rw [hsj] at hsl CQ
            clear hex hsj
            go_wp2_with fail
            refine CQ.out.mono ?_
            rintro e w5 ⟨hE, hb5⟩
            obtain ⟨v, rfl, hF⟩ := hE.flt
            have HB6 := hide (HBr.out.trans (hb5.mono HBr.out.size))
            have HF := hide hF
            clear hb5 CQ hE hF
            simp only [hdV]
            go_wp2_with fail
            obtain ⟨W5, hW5⟩ : ∃ W, w5.alloc (.cells #[.int .u8 0, .int .u8 0, .int .u64 0, .int .i64 0] 24) = W := ⟨_, rfl⟩
            have bW5 : Below w5.heap.size w5 W5 := hW5 ▸ (Below.refl _ _).alloc (Nat.le_refl _) _
            have hk5 : W5.heap[w5.heap.size]? = some (.cells #[.int .u8 0, .int .u8 0, .int .u64 0, .int .i64 0] 24 (0, 0)) := hW5 ▸ heap_alloc_new w5 _
            have HB7 := hide (HB6.out.trans (bW5.mono HB6.out.size))
            have CI := hide (f3isat (j : Int) (HF.out.below bW5) (HS.out.below HB7.out) (HH.out.below HB7.out))
            rw [decide_eq_true rfl] at CI
            rw [hW5]
            clear bW5 hW5
            refine CI.out.mono ?_
            rintro e w6 ⟨rfl, hb6⟩
            obtain ⟨f0, f1, f2, f3, _⟩ := four_cells (keep4 hk5 hb6)
            have HB8 := hide (HB7.out.trans (hb6.mono HB7.out.size))
            clear hb6 CI hk5
            go_wp2
            go_roundg (1 + n - (j + 1))
            case measure => omega
            case rel => exact ⟨j + 1, by omega, by simp, rfl, HB8⟩
          · have j1 : ¬ ((j : Int) < 1 + (n : Int)) := by omega
            go_wp2
            go_ret
            exact ⟨rfl, HBr.out⟩
      · by_cases hxy : x = y
        · subst hxy
          have hst : s = t := (het rfl).2 rfl
          subst hst
          go_wp2_with fail
          refine CR.out.mono ?_
          rintro e w4 ⟨hE, hb4⟩
          obtain rfl := hE
          have HB4 := hide (HB3.out.trans (hb4.mono HB3.out.size))
          clear hb4 CR
          simp only [hdV]
          go_wp2
          obtain ⟨W4, hW4⟩ : ∃ W, w4.alloc (.cells #[.int .u8 7, .int .u8 i, .int .u64 x, .int .i64 (1 + (n : Int))] 24) = W := ⟨_, rfl⟩
          have HB5 := hide (HB4.out.trans ((hW4 ▸ (Below.refl _ _).alloc (Nat.le_refl _) _ : Below w4.heap.size w4 W4).mono HB4.out.size))
          rw [hW4]
          clear hW4
          go_loopg [14, 15, 16] (1 + n) (fun c k q15 q16 wr => ∃ j : Nat, j ≤ 1 + n ∧ k = .int .i64 j ∧ c = 1 + n - j ∧ Hid (Below w.heap.size w wr))
          case atStart => exact ⟨0, by omega, rfl, by omega, HB5⟩
          case round =>
            obtain ⟨j, hj, rfl, hcj, HBr⟩ := hrel
            by_cases hjn : j < 1 + n
            · have j1 : (j : Int) < 1 + (n : Int) := by omega
              have hex : s.extract 0 j = strOfNums (es.take j) := by rw [← HSt.out, utxt_cut, List.drop_zero]
              have hsl : ∀ u, (Instr.slice 9 (.string s) none (some (.int .i64 (j : Int))) none).run Tryd.prog u = .ok (.string (strOfNums (es.take j))) u := fun u => by
                rw [run_slice_string_h (kh := .i64) (h := (j : Int)), Int.toNat_natCast, hex]
                all_goals first | exact Tryd.underlying9 | omega
              have CQ := hide (hread_any (w := wr) (a := a) (es := es.take j) (s := strOfNums (es.take j)) (k := 0) (HS.out.below HBr.out) (HT.out.below HBr.out) (fun y hy => HBy.out y (List.mem_of_mem_take hy)) rfl (by rw [List.length_take]; omega))
              rw [HK.out j (by rw [HL.out, Int.toNat_natCast]; exact hjn)] at CQ
              obtain ⟨sj, hsj⟩ : ∃ sj, strOfNums (es.take j) = sj := ⟨_, rfl⟩
              rw [hsj] at hsl CQ
              clear hex hsj
              go_wp2_with fail
              refine CQ.out.mono ?_
              rintro e w5 ⟨hE, hb5⟩
              obtain ⟨v, rfl, hF⟩ := hE.flt
              have HB6 := hide (HBr.out.trans (hb5.mono HBr.out.size))
              have HF := hide hF
              clear hb5 CQ hE hF
              simp only [hdV]
              go_wp2_with fail
              obtain ⟨W5, hW5⟩ : ∃ W, w5.alloc (.cells #[.int .u8 0, .int .u8 0, .int .u64 0, .int .i64 0] 24) = W := ⟨_, rfl⟩
              have bW5 : Below w5.heap.size w5 W5 := hW5 ▸ (Below.refl _ _).alloc (Nat.le_refl _) _
              have hk5 : W5.heap[w5.heap.size]? = some (.cells #[.int .u8 0, .int .u8 0, .int .u64 0, .int .i64 0] 24 (0, 0)) := hW5 ▸ heap_alloc_new w5 _
              have HB7 := hide (HB6.out.trans (bW5.mono HB6.out.size))
              have CI := hide (f3isat (j : Int) (HF.out.below bW5) (HS.out.below HB7.out) (HH.out.below HB7.out))
              rw [decide_eq_true rfl] at CI
              rw [hW5]
              clear bW5 hW5
              refine CI.out.mono ?_
              rintro e w6 ⟨rfl, hb6⟩
              obtain ⟨f0, f1, f2, f3, _⟩ := four_cells (keep4 hk5 hb6)
              have HB8 := hide (HB7.out.trans (hb6.mono HB7.out.size))
              clear hb6 CI hk5
              go_wp2
              go_roundg (1 + n - (j + 1))
              case measure => omega
              case rel => exact ⟨j + 1, by omega, by simp, rfl, HB8⟩
            · have j1 : ¬ ((j : Int) < 1 + (n : Int)) := by omega
              go_wp2
              go_ret
              exact ⟨rfl, HBr.out⟩
        · have hxy' : (x == y) = false := by simpa using hxy
          have hst : ¬ s = t := fun h => hxy ((het rfl).1 h)
          have hst2 : (s.toList == t.toList) = false := toList_ne hst
          go_wp2_with fail
          refine CR.out.mono ?_
          rintro e w4 ⟨hE, hb4⟩
          obtain rfl := hE
          have HB4 := hide (HB3.out.trans (hb4.mono HB3.out.size))
          clear hb4 CR
          simp only [hdV]
          go_wp2
          obtain ⟨W4, hW4⟩ : ∃ W, w4.alloc (.cells #[.int .u8 7, .int .u8 i, .int .u64 x, .int .i64 (1 + (n : Int))] 24) = W := ⟨_, rfl⟩
          have HB5 := hide (HB4.out.trans ((hW4 ▸ (Below.refl _ _).alloc (Nat.le_refl _) _ : Below w4.heap.size w4 W4).mono HB4.out.size))
          rw [hW4]
          clear hW4
          go_loopg [14, 15, 16] (1 + n) (fun c k q15 q16 wr => ∃ j : Nat, j ≤ 1 + n ∧ k = .int .i64 j ∧ c = 1 + n - j ∧ Hid (Below w.heap.size w wr))
          case atStart => exact ⟨0, by omega, rfl, by omega, HB5⟩
          case round =>
            obtain ⟨j, hj, rfl, hcj, HBr⟩ := hrel
            by_cases hjn : j < 1 + n
            · have j1 : (j : Int) < 1 + (n : Int) := by omega
              have hex : s.extract 0 j = strOfNums (es.take j) := by rw [← HSt.out, utxt_cut, List.drop_zero]
              have hsl : ∀ u, (Instr.slice 9 (.string s) none (some (.int .i64 (j : Int))) none).run Tryd.prog u = .ok (.string (strOfNums (es.take j))) u := fun u => by
                rw [run_slice_string_h (kh := .i64) (h := (j : Int)), Int.toNat_natCast, hex]
                all_goals first | exact Tryd.underlying9 | omega
              have CQ := hide (hread_any (w := wr) (a := a) (es := es.take j) (s := strOfNums (es.take j)) (k := 0) (HS.out.below HBr.out) (HT.out.below HBr.out) (fun y hy => HBy.out y (List.mem_of_mem_take hy)) rfl (by rw [List.length_take]; omega))
              rw [HK.out j (by rw [HL.out, Int.toNat_natCast]; exact hjn)] at CQ
              obtain ⟨sj, hsj⟩ : ∃ sj, strOfNums (es.take j) = sj := ⟨_, rfl⟩
              rw [hsj] at hsl CQ
              clear hex hsj
              go_wp2_with fail
              refine CQ.out.mono ?_
              rintro e w5 ⟨hE, hb5⟩
              obtain ⟨v, rfl, hF⟩ := hE.flt
              have HB6 := hide (HBr.out.trans (hb5.mono HBr.out.size))
              have HF := hide hF
              clear hb5 CQ hE hF
              simp only [hdV]
              go_wp2_with fail
              obtain ⟨W5, hW5⟩ : ∃ W, w5.alloc (.cells #[.int .u8 0, .int .u8 0, .int .u64 0, .int .i64 0] 24) = W := ⟨_, rfl⟩
              have bW5 : Below w5.heap.size w5 W5 := hW5 ▸ (Below.refl _ _).alloc (Nat.le_refl _) _
              have hk5 : W5.heap[w5.heap.size]? = some (.cells #[.int .u8 0, .int .u8 0, .int .u64 0, .int .i64 0] 24 (0, 0)) := hW5 ▸ heap_alloc_new w5 _
              have HB7 := hide (HB6.out.trans (bW5.mono HB6.out.size))
              have CI := hide (f3isat (j : Int) (HF.out.below bW5) (HS.out.below HB7.out) (HH.out.below HB7.out))
              rw [decide_eq_true rfl] at CI
              rw [hW5]
              clear bW5 hW5
              refine CI.out.mono ?_
              rintro e w6 ⟨rfl, hb6⟩
              obtain ⟨f0, f1, f2, f3, _⟩ := four_cells (keep4 hk5 hb6)
              have HB8 := hide (HB7.out.trans (hb6.mono HB7.out.size))
              clear hb6 CI hk5
              go_wp2
              go_roundg (1 + n - (j + 1))
              case measure => omega
              case rel => exact ⟨j + 1, by omega, by simp, rfl, HB8⟩
            · have j1 : ¬ ((j : Int) < 1 + (n : Int)) := by omega
              go_wp2
              go_ret
              exact ⟨rfl, HBr.out⟩
    · have hx24 : ¬ x < 24 := by omega
      cases oy
      · skip
        go_wp2_with fail
        refine CR.out.mono ?_
        rintro e w4 ⟨hE, hb4⟩
        obtain rfl := hE
        have HB4 := hide (HB3.out.trans (hb4.mono HB3.out.size))
        clear hb4 CR
        simp only [hdV]
        go_wp2
        obtain ⟨W4, hW4⟩ : ∃ W, w4.alloc (.cells #[.int .u8 7, .int .u8 i, .int .u64 x, .int .i64 (1 + (n : Int))] 24) = W := ⟨_, rfl⟩
        have HB5 := hide (HB4.out.trans ((hW4 ▸ (Below.refl _ _).alloc (Nat.le_refl _) _ : Below w4.heap.size w4 W4).mono HB4.out.size))
        rw [hW4]
        clear hW4
        go_loopg [14, 15, 16] (1 + n) (fun c k q15 q16 wr => ∃ j : Nat, j ≤ 1 + n ∧ k = .int .i64 j ∧ c = 1 + n - j ∧ Hid (Below w.heap.size w wr))
        case atStart => exact ⟨0, by omega, rfl, by omega, HB5⟩
        case round =>
          obtain ⟨j, hj, rfl, hcj, HBr⟩ := hrel
          by_cases hjn : j < 1 + n
          · have j1 : (j : Int) < 1 + (n : Int) := by omega
            have hex : s.extract 0 j = strOfNums (es.take j) := by rw [← HSt.out, utxt_cut, List.drop_zero]
            have hsl : ∀ u, (Instr.slice 9 (.string s) none (some (.int .i64 (j : Int))) none).run Tryd.prog u = .ok (.string (strOfNums (es.take j))) u := fun u => by
              rw [run_slice_string_h (kh := .i64) (h := (j : Int)), Int.toNat_natCast, hex]
              all_goals first | exact Tryd.underlying9 | omega
            have CQ := hide (hread_any (w := wr) (a := a) (es := es.take j) (s := strOfNums (es.take j)) (k := 0) (HS.out.below HBr.out) (HT.out.below HBr.out) (fun y hy => HBy.out y (List.mem_of_mem_take hy)) rfl (by rw [List.length_take]; omega))
            rw [HK.out j (by rw [HL.out, Int.toNat_natCast]; exact hjn)] at CQ
            obtain ⟨sj, hsj⟩ : ∃ sj, strOfNums (es.take j) = sj := ⟨_, rfl⟩
            rw [hsj] at hsl CQ
            clear hex hsj
            go_wp2_with fail
            refine CQ.out.mono ?_
            rintro e w5 ⟨hE, hb5⟩
            obtain ⟨v, rfl, hF⟩ := hE.flt
            have HB6 := hide (HBr.out.trans (hb5.mono HBr.out.size))
            have HF := hide hF
            clear hb5 CQ hE hF
            simp only [hdV]
            go_wp2_with fail
            obtain ⟨W5, hW5⟩ : ∃ W, w5.alloc (.cells #[.int .u8 0, .int .u8 0, .int .u64 0, .int .i64 0] 24) = W := ⟨_, rfl⟩
            have bW5 : Below w5.heap.size w5 W5 := hW5 ▸ (Below.refl _ _).alloc (Nat.le_refl _) _
            have hk5 : W5.heap[w5.heap.size]? = some (.cells #[.int .u8 0, .int .u8 0, .int .u64 0, .int .i64 0] 24 (0, 0)) := hW5 ▸ heap_alloc_new w5 _
            have HB7 := hide (HB6.out.trans (bW5.mono HB6.out.size))
            have CI := hide (f3isat (j : Int) (HF.out.below bW5) (HS.out.below HB7.out) (HH.out.below HB7.out))
            rw [decide_eq_true rfl] at CI
            rw [hW5]
            clear bW5 hW5
            refine CI.out.mono ?_
            rintro e w6 ⟨rfl, hb6⟩
            obtain ⟨f0, f1, f2, f3, _⟩ := four_cells (keep4 hk5 hb6)
            have HB8 := hide (HB7.out.trans (hb6.mono HB7.out.size))
            clear hb6 CI hk5
            go_wp2
            go_roundg (1 + n - (j + 1))
            case measure => omega
            case rel => exact ⟨j + 1, by omega, by simp, rfl, HB8⟩
          · have j1 : ¬ ((j : Int) < 1 + (n : Int)) := by omega
            go_wp2
            go_ret
            exact ⟨rfl, HBr.out⟩
      · by_cases hxy : x = y
        · subst hxy
          have hst : s = t := (het rfl).2 rfl
          subst hst
          go_wp2_with fail
          refine CR.out.mono ?_
          rintro e w4 ⟨hE, hb4⟩
          obtain rfl := hE
          have HB4 := hide (HB3.out.trans (hb4.mono HB3.out.size))
          clear hb4 CR
          simp only [hdV]
          go_wp2
          obtain ⟨W4, hW4⟩ : ∃ W, w4.alloc (.cells #[.int .u8 7, .int .u8 i, .int .u64 x, .int .i64 (1 + (n : Int))] 24) = W := ⟨_, rfl⟩
          have HB5 := hide (HB4.out.trans ((hW4 ▸ (Below.refl _ _).alloc (Nat.le_refl _) _ : Below w4.heap.size w4 W4).mono HB4.out.size))
          rw [hW4]
          clear hW4
          go_loopg [14, 15, 16] (1 + n) (fun c k q15 q16 wr => ∃ j : Nat, j ≤ 1 + n ∧ k = .int .i64 j ∧ c = 1 + n - j ∧ Hid (Below w.heap.size w wr))
          case atStart => exact ⟨0, by omega, rfl, by omega, HB5⟩
          case round =>
            obtain ⟨j, hj, rfl, hcj, HBr⟩ := hrel
            by_cases hjn : j < 1 + n
            · have j1 : (j : Int) < 1 + (n : Int) := by omega
              have hex : s.extract 0 j = strOfNums (es.take j) := by rw [← HSt.out, utxt_cut, List.drop_zero]
              have hsl : ∀ u, (Instr.slice 9 (.string s) none (some (.int .i64 (j : Int))) none).run Tryd.prog u = .ok (.string (strOfNums (es.take j))) u := fun u => by
                rw [run_slice_string_h (kh := .i64) (h := (j : Int)), Int.toNat_natCast, hex]
                all_goals first | exact Tryd.underlying9 | omega
              have CQ := hide (hread_any (w := wr) (a := a) (es := es.take j) (s := strOfNums (es.take j)) (k := 0) (HS.out.below HBr.out) (HT.out.below HBr.out) (fun y hy => HBy.out y (List.mem_of_mem_take hy)) rfl (by rw [List.length_take]; omega))
              rw [HK.out j (by rw [HL.out, Int.toNat_natCast]; exact hjn)] at CQ
              obtain ⟨sj, hsj⟩ : ∃ sj, strOfNums (es.take j) = sj := ⟨_, rfl⟩
              rw [hsj] at hsl CQ
              clear hex hsj
              go_wp2_with fail
              refine CQ.out.mono ?_
              rintro e w5 ⟨hE, hb5⟩
              obtain ⟨v, rfl, hF⟩ := hE.flt
              have HB6 := hide (HBr.out.trans (hb5.mono HBr.out.size))
              have HF := hide hF
              clear hb5 CQ hE hF
              simp only [hdV]
              go_wp2_with fail
              obtain ⟨W5, hW5⟩ : ∃ W, w5.alloc (.cells #[.int .u8 0, .int .u8 0, .int .u64 0, .int .i64 0] 24) = W := ⟨_, rfl⟩
              have bW5 : Below w5.heap.size w5 W5 := hW5 ▸ (Below.refl _ _).alloc (Nat.le_refl _) _
              have hk5 : W5.heap[w5.heap.size]? = some (.cells #[.int .u8 0, .int .u8 0, .int .u64 0, .int .i64 0] 24 (0, 0)) := hW5 ▸ heap_alloc_new w5 _
              have HB7 := hide (HB6.out.trans (bW5.mono HB6.out.size))
              have CI := hide (f3isat (j : Int) (HF.out.below bW5) (HS.out.below HB7.out) (HH.out.below HB7.out))
              rw [decide_eq_true rfl] at CI
              rw [hW5]
              clear bW5 hW5
              refine CI.out.mono ?_
              rintro e w6 ⟨rfl, hb6⟩
              obtain ⟨f0, f1, f2, f3, _⟩ := four_cells (keep4 hk5 hb6)
              have HB8 := hide (HB7.out.trans (hb6.mono HB7.out.size))
              clear hb6 CI hk5
              go_wp2
              go_roundg (1 + n - (j + 1))
              case measure => omega
              case rel => exact ⟨j + 1, by omega, by simp, rfl, HB8⟩
            · have j1 : ¬ ((j : Int) < 1 + (n : Int)) := by omega
              go_wp2
              go_ret
              exact ⟨rfl, HBr.out⟩
        · have hxy' : (x == y) = false := by simpa using hxy
          have hst : ¬ s = t := fun h => hxy ((het rfl).1 h)
          have hst2 : (s.toList == t.toList) = false := toList_ne hst
          go_wp2_with fail
          refine CR.out.mono ?_
          rintro e w4 ⟨hE, hb4⟩
          obtain rfl := hE
          have HB4 := hide (HB3.out.trans (hb4.mono HB3.out.size))
          clear hb4 CR
          simp only [hdV]
          go_wp2
          obtain ⟨W4, hW4⟩ : ∃ W, w4.alloc (.cells #[.int .u8 7, .int .u8 i, .int .u64 x, .int .i64 (1 + (n : Int))] 24) = W := ⟨_, rfl⟩
          have HB5 := hide (HB4.out.trans ((hW4 ▸ (Below.refl _ _).alloc (Nat.le_refl _) _ : Below w4.heap.size w4 W4).mono HB4.out.size))
          rw [hW4]
          clear hW4
          go_loopg [14, 15, 16] (1 + n) (fun c k q15 q16 wr => ∃ j : Nat, j ≤ 1 + n ∧ k = .int .i64 j ∧ c = 1 + n - j ∧ Hid (Below w.heap.size w wr))
          case atStart => exact ⟨0, by omega, rfl, by omega, HB5⟩
          case round =>
            obtain ⟨j, hj, rfl, hcj, HBr⟩ := hrel
            by_cases hjn : j < 1 + n
            · have j1 : (j : Int) < 1 + (n : Int) := by omega
              have hex : s.extract 0 j = strOfNums (es.take j) := by rw [← HSt.out, utxt_cut, List.drop_zero]
              have hsl : ∀ u, (Instr.slice 9 (.string s) none (some (.int .i64 (j : Int))) none).run Tryd.prog u = .ok (.string (strOfNums (es.take j))) u := fun u => by
                rw [run_slice_string_h (kh := .i64) (h := (j : Int)), Int.toNat_natCast, hex]
                all_goals first | exact Tryd.underlying9 | omega
              have CQ := hide (hread_any (w := wr) (a := a) (es := es.take j) (s := strOfNums (es.take j)) (k := 0) (HS.out.below HBr.out) (HT.out.below HBr.out) (fun y hy => HBy.out y (List.mem_of_mem_take hy)) rfl (by rw [List.length_take]; omega))
              rw [HK.out j (by rw [HL.out, Int.toNat_natCast]; exact hjn)] at CQ
              obtain ⟨sj, hsj⟩ : ∃ sj, strOfNums (es.take j) = sj := ⟨_, rfl⟩
              rw [hsj] at hsl CQ
              clear hex hsj
              go_wp2_with fail
              refine CQ.out.mono ?_
              rintro e w5 ⟨hE, hb5⟩
              obtain ⟨v, rfl, hF⟩ := hE.flt
              have HB6 := hide (HBr.out.trans (hb5.mono HBr.out.size))
              have HF := hide hF
              clear hb5 CQ hE hF
              simp only [hdV]
              go_wp2_with fail
              obtain ⟨W5, hW5⟩ : ∃ W, w5.alloc (.cells #[.int .u8 0, .int .u8 0, .int .u64 0, .int .i64 0] 24) = W := ⟨_, rfl⟩
              have bW5 : Below w5.heap.size w5 W5 := hW5 ▸ (Below.refl _ _).alloc (Nat.le_refl _) _
              have hk5 : W5.heap[w5.heap.size]? = some (.cells #[.int .u8 0, .int .u8 0, .int .u64 0, .int .i64 0] 24 (0, 0)) := hW5 ▸ heap_alloc_new w5 _
              have HB7 := hide (HB6.out.trans (bW5.mono HB6.out.size))
              have CI := hide (f3isat (j : Int) (HF.out.below bW5) (HS.out.below HB7.out) (HH.out.below HB7.out))
              rw [decide_eq_true rfl] at CI
              rw [hW5]
              clear bW5 hW5
              refine CI.out.mono ?_
              rintro e w6 ⟨rfl, hb6⟩
              obtain ⟨f0, f1, f2, f3, _⟩ := four_cells (keep4 hk5 hb6)
              have HB8 := hide (HB7.out.trans (hb6.mono HB7.out.size))
              clear hb6 CI hk5
              go_wp2
              go_roundg (1 + n - (j + 1))
              case measure => omega
              case rel => exact ⟨j + 1, by omega, by simp, rfl, HB8⟩
            · have j1 : ¬ ((j : Int) < 1 + (n : Int)) := by omega
              go_wp2
              go_ret
              exact ⟨rfl, HBr.out⟩
  · have hok' : hOk m x = false := by simpa using hok
    rw [hok', if_neg (by decide)] at CX
    have hoc : 7 < m ∨ m = 7 ∧ (256 ≤ x ∨ 24 ≤ x ∧ x < 32) := by
      unfold hOk hSi at hok'
      simp at hok'
      omega
    obtain ⟨oy, hoy⟩ : ∃ o, hOk m y = o := ⟨_, rfl⟩
    rw [hoy] at CY
    obtain ⟨t, ht⟩ : ∃ t, (if oy = true then strOfNums (hdL m (hS y) y) else ⟨#[]⟩) = t := ⟨_, rfl⟩
    rw [ht] at CY
    clear hoy ht
    go_enter Tryd.func6, Tryd.ntmps6
    go_wp2_with fail
    refine CL.out.mono ?_
    rintro e w1 ⟨rfl, hb1⟩
    have HB1 := hide hb1
    clear hb1 CL
    go_wp2_with fail
    refine (CX.out w1 HB1.out).mono ?_
    rintro e w2 ⟨rfl, hb2⟩
    have HB2 := hide (HB1.out.trans (hb2.mono HB1.out.size))
    clear hb2 CX
    go_wp2_with fail
    refine (CY.out w2 HB2.out).mono ?_
    rintro e w3 ⟨rfl, hb3⟩
    have HB3 := hide (HB2.out.trans (hb3.mono HB2.out.size))
    clear hb3 CY
    rcases hoc with h7 | ⟨rfl, h256 | ⟨h24, h32⟩⟩
    · have hm7' : (m == 7) = false := by simp; omega
      go_wp2
      go_ret
      exact ⟨rfl, HB3.out⟩
    · have hx256 : ¬ x < 256 := by omega
      go_wp2
      go_ret
      exact ⟨rfl, HB3.out⟩
    · have hx24 : ¬ x < 24 := by omega
      have hx256 : x < 256 := by omega
      have hx32 : ¬ 32 ≤ x := by omega
      go_wp2
      go_ret
      exact ⟨rfl, HB3.out⟩

end Go.Proofs.YtgblakfcplphjaaDoor
