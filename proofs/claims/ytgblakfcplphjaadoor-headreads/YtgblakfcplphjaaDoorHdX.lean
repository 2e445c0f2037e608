/- HeadReads: the walk -/
import Derived.Test.YtgblakfcplphjaaDoorHdQ
import Derived.Test.YtgblakfcplphjaaDoorHdE
namespace Go.Proofs.YtgblakfcplphjaaDoor
open Go.RowKit
set_option linter.unusedVariables false

theorem RdE.bad_flt {w' : World} {a : Nat → Addr} {k : Int} {e : Ending} (h : RdE w' a (.bad k) e) : ∃ v, e = .returned (.tuple #[hdV 0 0 0 0, v]) ∧ Flt3 w' a k v := by
  obtain ⟨g, h1, h2⟩ := h
  exact ⟨_, h1, g, rfl, h2⟩
/-- two heads apart from what lies below -/
theorem cells4 {w w' : World} {b : Nat} {x0 x1 x2 x3 : Value} {T : TypeId} (h : w.heap[b]? = some (.cells #[x0, x1, x2, x3] T (0, 0))) (hb : Below w.heap.size w w') : w'.heap[b]? = some (.cells #[x0, x1, x2, x3] T (0, 0)) := by
  rw [hb.block _ (Array.getElem?_eq_some_iff.1 h).1]; exact h
set_option maxRecDepth 100000 in
set_option maxHeartbeats 4000000 in
theorem hreads {w : World} {a : Nat → Addr} {es : List Int} {s : ByteArray} {k : Int} (hS : Snt w a) (hH : Hnd w) (hT : Beh w) (hb : uByt es) (hs : s = strOfNums es) (hl : es.length ≤ 9223372036854775807) :
    Calls Tryd.prog 3 #[.string s, .int .i64 k] w fun e w' => e = .returned (.bool true) ∧ Below w.heap.size w w' := by
  have CR := hide (hread_any (k := k) hS hT hb hs hl)
  have CQ := hide (fun w1 => rread_any (w := w1) (k := k) hb hs hl)
  have HS := hide hS
  have HH := hide hH
  obtain ⟨r, hr⟩ : ∃ r, rdH es k = r := ⟨_, rfl⟩
  rw [hr] at CR CQ
  clear hr hS hH hT hb hs hl
  go_enter Tryd.func3, Tryd.ntmps3
  go_wp2_with fail
  refine CR.out.mono ?_
  rintro e w1 ⟨hE, hb1⟩
  have HB1 := hide hb1
  clear hb1 CR
  cases r with
  | arg =>
    obtain rfl := hE
    simp only [hdV]
    go_wp2_with fail
    refine (CQ.out _).mono ?_
    rintro e w2 ⟨rfl, hb2⟩
    clear CQ
    simp only [RrV, hdV, fl8]
    go_wp2_with fail
    obtain ⟨W1, hW1⟩ : ∃ W, w1.alloc (.cells #[.int .u8 0, .int .u8 0, .int .u64 0, .int .i64 0] 24) = W := ⟨_, rfl⟩
    rw [hW1] at hb2
    have h1 : W1.heap[w1.heap.size]? = some (.cells #[.int .u8 0, .int .u8 0, .int .u64 0, .int .i64 0] 24 (0, 0)) := hW1 ▸ heap_alloc_new w1 _
    have hbW1 : Below w1.heap.size w1 W1 := hW1 ▸ (Below.refl _ _).alloc (Nat.le_refl _) _
    obtain ⟨W2, hW2⟩ : ∃ W, w2.alloc (.cells #[.int .u8 0, .int .u8 0, .int .u64 0, .int .i64 0] 24) = W := ⟨_, rfl⟩
    have hz2 : W2.heap.size = w2.heap.size + 1 := by rw [← hW2]; simp
    obtain ⟨W3, hW3⟩ : ∃ W, W2.alloc (.cells #[.int .i64 1, .int .i64 0, .string ⟨#[]⟩] 30) = W := ⟨_, rfl⟩
    have b2 : Below w2.heap.size w2 W2 := hW2 ▸ (Below.refl _ _).alloc (Nat.le_refl _) _
    have b3 : Below W2.heap.size W2 W3 := hW3 ▸ (Below.refl _ _).alloc (Nat.le_refl _) _
    have h2 : W2.heap[w2.heap.size]? = some (.cells #[.int .u8 0, .int .u8 0, .int .u64 0, .int .i64 0] 24 (0, 0)) := hW2 ▸ heap_alloc_new w2 _
    have b13 : Below W1.heap.size W1 W3 := (hb2.trans (b2.mono hb2.size)).trans (b3.mono (Nat.le_trans hb2.size b2.size))
    have k1 := cells4 h1 b13
    have k2 := cells4 h2 b3
    have bW3 : Below w.heap.size w W3 := (HB1.out.trans (hbW1.mono HB1.out.size)).trans (b13.mono (Nat.le_trans HB1.out.size hbW1.size))
    rw [hW2, hW3]
    have CI := hide (argis (HS.out.below bW3))
    have K1 := hide k1
    have K2 := hide k2
    have BW3 := hide bW3
    clear h1 h2 hb2 b2 b3 hbW1 k1 k2 b13 bW3 HB1
    refine CI.out.mono ?_
    rintro e w4 ⟨rfl, hb4⟩
    obtain ⟨f0, f1, f2, f3, _⟩ := four_cells (cells4 K1.out hb4)
    obtain ⟨g0, g1, g2, g3, _⟩ := four_cells (cells4 K2.out hb4)
    have B4 := hide (BW3.out.trans (hb4.mono BW3.out.size))
    clear hb4 CI
    go_wp2
    go_ret
    exact ⟨by simp, B4.out⟩
  | bad j =>
    obtain ⟨v, rfl, hF⟩ := hE.bad_flt
    simp only [hdV]
    go_wp2_with fail
    refine (CQ.out _).mono ?_
    rintro e w2 ⟨rfl, hb2⟩
    clear CQ
    simp only [RrV, hdV, fl8]
    go_wp2_with fail
    obtain ⟨W1, hW1⟩ : ∃ W, w1.alloc (.cells #[.int .u8 0, .int .u8 0, .int .u64 0, .int .i64 0] 24) = W := ⟨_, rfl⟩
    rw [hW1] at hb2
    have h1 : W1.heap[w1.heap.size]? = some (.cells #[.int .u8 0, .int .u8 0, .int .u64 0, .int .i64 0] 24 (0, 0)) := hW1 ▸ heap_alloc_new w1 _
    have hbW1 : Below w1.heap.size w1 W1 := hW1 ▸ (Below.refl _ _).alloc (Nat.le_refl _) _
    obtain ⟨W2, hW2⟩ : ∃ W, w2.alloc (.cells #[.int .u8 0, .int .u8 0, .int .u64 0, .int .i64 0] 24) = W := ⟨_, rfl⟩
    have hz2 : W2.heap.size = w2.heap.size + 1 := by rw [← hW2]; simp
    obtain ⟨W3, hW3⟩ : ∃ W, W2.alloc (.cells #[.int .i64 3, .int .i64 j, .string ⟨#[]⟩] 30) = W := ⟨_, rfl⟩
    have b2 : Below w2.heap.size w2 W2 := hW2 ▸ (Below.refl _ _).alloc (Nat.le_refl _) _
    have b3 : Below W2.heap.size W2 W3 := hW3 ▸ (Below.refl _ _).alloc (Nat.le_refl _) _
    have h2 : W2.heap[w2.heap.size]? = some (.cells #[.int .u8 0, .int .u8 0, .int .u64 0, .int .i64 0] 24 (0, 0)) := hW2 ▸ heap_alloc_new w2 _
    have b13 : Below W1.heap.size W1 W3 := (hb2.trans (b2.mono hb2.size)).trans (b3.mono (Nat.le_trans hb2.size b2.size))
    have k1 := cells4 h1 b13
    have k2 := cells4 h2 b3
    have bW3 : Below w.heap.size w W3 := (HB1.out.trans (hbW1.mono HB1.out.size)).trans (b13.mono (Nat.le_trans HB1.out.size hbW1.size))
    rw [hW2, hW3]
    have CI := hide (f3isat j ((hF.below hbW1).below b13) (HS.out.below bW3) (HH.out.below bW3))
    rw [decide_eq_true rfl] at CI
    have K1 := hide k1
    have K2 := hide k2
    have BW3 := hide bW3
    clear h1 h2 hb2 b2 b3 hbW1 k1 k2 b13 bW3 HB1
    refine CI.out.mono ?_
    rintro e w4 ⟨rfl, hb4⟩
    obtain ⟨f0, f1, f2, f3, _⟩ := four_cells (cells4 K1.out hb4)
    obtain ⟨g0, g1, g2, g3, _⟩ := four_cells (cells4 K2.out hb4)
    have B4 := hide (BW3.out.trans (hb4.mono BW3.out.size))
    clear hb4 CI
    go_wp2
    go_ret
    exact ⟨by simp, B4.out⟩
  | hd m i x n =>
    obtain rfl := hE
    simp only [hdV]
    go_wp2_with fail
    refine (CQ.out _).mono ?_
    rintro e w2 ⟨rfl, hb2⟩
    clear CQ
    simp only [RrV, hdV, fl8]
    go_wp2_with fail
    obtain ⟨W1, hW1⟩ : ∃ W, w1.alloc (.cells #[.int .u8 m, .int .u8 i, .int .u64 x, .int .i64 n] 24) = W := ⟨_, rfl⟩
    rw [hW1] at hb2
    have h1 : W1.heap[w1.heap.size]? = some (.cells #[.int .u8 m, .int .u8 i, .int .u64 x, .int .i64 n] 24 (0, 0)) := hW1 ▸ heap_alloc_new w1 _
    have hbW1 : Below w1.heap.size w1 W1 := hW1 ▸ (Below.refl _ _).alloc (Nat.le_refl _) _
    obtain ⟨W2, hW2⟩ : ∃ W, w2.alloc (.cells #[.int .u8 m, .int .u8 i, .int .u64 x, .int .i64 n] 24) = W := ⟨_, rfl⟩
    have hz2 : W2.heap.size = w2.heap.size + 1 := by rw [← hW2]; simp
    obtain ⟨W3, hW3⟩ : ∃ W, W2.alloc (.cells #[.int .i64 0, .int .i64 0, .string ⟨#[]⟩] 30) = W := ⟨_, rfl⟩
    have b2 : Below w2.heap.size w2 W2 := hW2 ▸ (Below.refl _ _).alloc (Nat.le_refl _) _
    have b3 : Below W2.heap.size W2 W3 := hW3 ▸ (Below.refl _ _).alloc (Nat.le_refl _) _
    have h2 : W2.heap[w2.heap.size]? = some (.cells #[.int .u8 m, .int .u8 i, .int .u64 x, .int .i64 n] 24 (0, 0)) := hW2 ▸ heap_alloc_new w2 _
    have b13 : Below W1.heap.size W1 W3 := (hb2.trans (b2.mono hb2.size)).trans (b3.mono (Nat.le_trans hb2.size b2.size))
    have k1 := cells4 h1 b13
    have k2 := cells4 h2 b3
    have bW3 : Below w.heap.size w W3 := (HB1.out.trans (hbW1.mono HB1.out.size)).trans (b13.mono (Nat.le_trans HB1.out.size hbW1.size))
    rw [hW2, hW3]
    have CI := hide (nilisatB (w := W3) (j := 0))
    have K1 := hide k1
    have K2 := hide k2
    have BW3 := hide bW3
    clear h1 h2 hb2 b2 b3 hbW1 k1 k2 b13 bW3 HB1
    refine CI.out.mono ?_
    rintro e w4 ⟨rfl, hb4⟩
    obtain ⟨f0, f1, f2, f3, _⟩ := four_cells (cells4 K1.out hb4)
    obtain ⟨g0, g1, g2, g3, _⟩ := four_cells (cells4 K2.out hb4)
    have B4 := hide (BW3.out.trans (hb4.mono BW3.out.size))
    clear hb4 CI
    go_wp2
    go_ret
    exact ⟨by simp, B4.out⟩

end Go.Proofs.YtgblakfcplphjaaDoor
