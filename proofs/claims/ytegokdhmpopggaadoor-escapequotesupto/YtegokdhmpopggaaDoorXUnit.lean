/- escape: digit, unit, secondHalf -/
import Derived.Test.YtegokdhmpopggaaDoorXOn
namespace Go.Proofs.YtegokdhmpopggaaDoor
open Go.RowKit
set_option linter.unusedVariables false

theorem Rdr.small {B b k : Nat} {s : ByteArray} {es : List Int} {w : World} (h : Rdr B b s k es w) : B ≤ w.heap.size := Nat.le_of_lt (Nat.lt_of_le_of_lt h.le h.lt)
/-- the reader stands at k, in a world that has come from w0 -/
structure RK (B b : Nat) (s : ByteArray) (ls : List Int) (k : Nat) (es : List Int) (w0 w : World) : Prop where
  rd : Rdr B b s k es w
  byt : uByt ls
  str : s = strOfNums ls
  len : ls.length ≤ 140737488351232
  le : k ≤ ls.length
  bel : Below B w0 w
  oth : Oth b w0 w
theorem RK.on {B b k : Nat} {s : ByteArray} {ls es : List Int} {w0 w w' : World} (h : RK B b s ls k es w0 w) (hb : Below w.heap.size w w') : RK B b s ls k es w0 w' := ⟨h.rd.below hb, h.byt, h.str, h.len, h.le, h.bel.trans (hb.mono h.rd.small), h.oth.trans (Oth.of hb)⟩
theorem RK.to {B b k j : Nat} {s : ByteArray} {ls es fs : List Int} {w0 w w' : World} (h : RK B b s ls k es w0 w) (hr : Rdr B b s j fs w') (hj : j ≤ ls.length) (hb : Below B w w') (ho : Oth b w w') : RK B b s ls j fs w0 w' := ⟨hr, h.byt, h.str, h.len, hj, h.bel.trans hb, h.oth.trans ho⟩
theorem only_rk {B b k : Nat} {s : ByteArray} {ls es : List Int} {w0 w : World} {c : Int} (h : RK B b s ls k es w0 w) : Calls Tryd.prog 35 #[.int .u8 c] w fun e w' => e = .returned (.agg #[.int .u8 c, .int .u8 c]) ∧ RK B b s ls k es w0 w' :=
  only_any.mono fun e w' ⟨h1, h2⟩ => ⟨h1, h.on h2⟩
theorem sp_new1 (w : World) (f l : Int) : SpAt (w.alloc (.cells #[.int .u8 f, .int .u8 l] 74)) (.slice (some ⟨w.heap.size, 0, none⟩) 1 1) [(f, l)] := by
  refine ⟨w.heap.size, rfl, by simp, fun i q hq => ?_⟩
  match i, hq with
  | 0, hq => simp at hq; subst hq; constructor <;> exact (Lib.cell_of_heap (heap_alloc_new w _) _).trans rfl
theorem sp_new2 (w : World) (f l f2 l2 : Int) : SpAt (w.alloc (.cells #[.int .u8 f, .int .u8 l, .int .u8 f2, .int .u8 l2] 74)) (.slice (some ⟨w.heap.size, 0, none⟩) 2 2) [(f, l), (f2, l2)] := by
  refine ⟨w.heap.size, rfl, by simp, fun i q hq => ?_⟩
  match i, hq with
  | 0, hq => simp at hq; subst hq; constructor <;> exact (Lib.cell_of_heap (heap_alloc_new w _) _).trans rfl
  | 1, hq => simp at hq; subst hq; constructor <;> exact (Lib.cell_of_heap (heap_alloc_new w _) _).trans rfl
theorem sp_new3 (w : World) (f l f2 l2 f3 l3 : Int) : SpAt (w.alloc (.cells #[.int .u8 f, .int .u8 l, .int .u8 f2, .int .u8 l2, .int .u8 f3, .int .u8 l3] 74)) (.slice (some ⟨w.heap.size, 0, none⟩) 3 3) [(f, l), (f2, l2), (f3, l3)] := by
  refine ⟨w.heap.size, rfl, by simp, fun i q hq => ?_⟩
  match i, hq with
  | 0, hq => simp at hq; subst hq; constructor <;> exact (Lib.cell_of_heap (heap_alloc_new w _) _).trans rfl
  | 1, hq => simp at hq; subst hq; constructor <;> exact (Lib.cell_of_heap (heap_alloc_new w _) _).trans rfl
  | 2, hq => simp at hq; subst hq; constructor <;> exact (Lib.cell_of_heap (heap_alloc_new w _) _).trans rfl
theorem take_rk {B b k : Nat} {s : ByteArray} {ls es : List Int} {w0 w W : World} {v : Value} {sp : List (Int × Int)} {r : Bool} (h : RK B b s ls k es w0 w) (hb : Below w.heap.size w W) (hv : SpAt W v sp) (hsp : sp.length ≤ 1000) (hr : xTk ls k sp = r) :
    Calls Tryd.prog 38 #[.pointer (some ⟨b, 0, none⟩), v] W fun e w' => e = .returned (.bool r) ∧ RK B b s ls (if r = true then k + 1 else k) es w0 w' := by
  have h' := h.on hb
  refine (take_any h'.rd h'.byt h'.str (by have := h'.len; omega) h'.le hv hsp).mono ?_
  rintro e w' ⟨rfl, h2, h3, h4⟩
  rw [hr] at h2 ⊢
  refine ⟨rfl, h'.to h2 ?_ h3 h4⟩
  cases r
  · exact h'.le
  · exact xTk_lt hr
theorem tk1 {B b k : Nat} {s : ByteArray} {ls es : List Int} {w0 w : World} {r : Bool} {f l : Int} (h : RK B b s ls k es w0 w) (hr : xTk ls k [(f, l)] = r) :
    Calls Tryd.prog 38 #[.pointer (some ⟨b, 0, none⟩), .slice (some ⟨w.heap.size, 0, none⟩) 1 1] (w.alloc (.cells #[.int .u8 f, .int .u8 l] 74)) fun e w' => e = .returned (.bool r) ∧ RK B b s ls (if r = true then k + 1 else k) es w0 w' :=
  take_rk h ((Below.refl _ _).alloc (Nat.le_refl _) _) (sp_new1 _ _ _) (by simp) hr
theorem tk2 {B b k : Nat} {s : ByteArray} {ls es : List Int} {w0 w : World} {r : Bool} {f l f2 l2 : Int} (h : RK B b s ls k es w0 w) (hr : xTk ls k [(f, l), (f2, l2)] = r) :
    Calls Tryd.prog 38 #[.pointer (some ⟨b, 0, none⟩), .slice (some ⟨w.heap.size, 0, none⟩) 2 2] (w.alloc (.cells #[.int .u8 f, .int .u8 l, .int .u8 f2, .int .u8 l2] 74)) fun e w' => e = .returned (.bool r) ∧ RK B b s ls (if r = true then k + 1 else k) es w0 w' :=
  take_rk h ((Below.refl _ _).alloc (Nat.le_refl _) _) (sp_new2 _ _ _ _ _) (by simp) hr
theorem tk3 {B b k : Nat} {s : ByteArray} {ls es : List Int} {w0 w : World} {r : Bool} {f l f2 l2 f3 l3 : Int} (h : RK B b s ls k es w0 w) (hr : xTk ls k [(f, l), (f2, l2), (f3, l3)] = r) :
    Calls Tryd.prog 38 #[.pointer (some ⟨b, 0, none⟩), .slice (some ⟨w.heap.size, 0, none⟩) 3 3] (w.alloc (.cells #[.int .u8 f, .int .u8 l, .int .u8 f2, .int .u8 l2, .int .u8 f3, .int .u8 l3] 74)) fun e w' => e = .returned (.bool r) ∧ RK B b s ls (if r = true then k + 1 else k) es w0 w' :=
  take_rk h ((Below.refl _ _).alloc (Nat.le_refl _) _) (sp_new3 _ _ _ _ _ _ _) (by simp) hr

theorem digit_rk {B b k j : Nat} {s : ByteArray} {ls es : List Int} {w0 w : World} {r : Bool} (h : RK B b s ls k es w0 w) (hr : xTk ls k dSp = r) (hj : (if r = true then k + 1 else k) = j) :
    Calls Tryd.prog 69 #[.pointer (some ⟨b, 0, none⟩)] w fun e w' => e = .returned (.bool r) ∧ RK B b s ls j es w0 w' := by
  have HT := hide (tk3 h hr)
  rw [hj] at HT
  clear h hr hj
  go_enter Tryd.func69, Tryd.ntmps69
  go_wp2_with (go_at_call 38; refine HT.out.mono ?_; rintro e w' ⟨rfl, h2⟩; replace h2 := hide h2)
  go_ret
  exact ⟨rfl, h2.out⟩
theorem digit_y {B b k : Nat} {s : ByteArray} {ls es : List Int} {w0 w : World} (h : RK B b s ls k es w0 w) (hr : xTk ls k dSp = true) :
    Calls Tryd.prog 69 #[.pointer (some ⟨b, 0, none⟩)] w fun e w' => e = .returned (.bool true) ∧ RK B b s ls (k + 1) es w0 w' := digit_rk h hr rfl
theorem digit_n {B b k : Nat} {s : ByteArray} {ls es : List Int} {w0 w : World} (h : RK B b s ls k es w0 w) (hr : xTk ls k dSp = false) :
    Calls Tryd.prog 69 #[.pointer (some ⟨b, 0, none⟩)] w fun e w' => e = .returned (.bool false) ∧ RK B b s ls k es w0 w' := digit_rk h hr rfl
theorem tk1y {B b k : Nat} {s : ByteArray} {ls es : List Int} {w0 w : World} {f l : Int} (h : RK B b s ls k es w0 w) (hr : xTk ls k [(f, l)] = true) :
    Calls Tryd.prog 38 #[.pointer (some ⟨b, 0, none⟩), .slice (some ⟨w.heap.size, 0, none⟩) 1 1] (w.alloc (.cells #[.int .u8 f, .int .u8 l] 74)) fun e w' => e = .returned (.bool true) ∧ RK B b s ls (k + 1) es w0 w' := tk1 h hr
theorem tk1n {B b k : Nat} {s : ByteArray} {ls es : List Int} {w0 w : World} {f l : Int} (h : RK B b s ls k es w0 w) (hr : xTk ls k [(f, l)] = false) :
    Calls Tryd.prog 38 #[.pointer (some ⟨b, 0, none⟩), .slice (some ⟨w.heap.size, 0, none⟩) 1 1] (w.alloc (.cells #[.int .u8 f, .int .u8 l] 74)) fun e w' => e = .returned (.bool false) ∧ RK B b s ls k es w0 w' := tk1 h hr
theorem tk2y {B b k : Nat} {s : ByteArray} {ls es : List Int} {w0 w : World} {f l f2 l2 : Int} (h : RK B b s ls k es w0 w) (hr : xTk ls k [(f, l), (f2, l2)] = true) :
    Calls Tryd.prog 38 #[.pointer (some ⟨b, 0, none⟩), .slice (some ⟨w.heap.size, 0, none⟩) 2 2] (w.alloc (.cells #[.int .u8 f, .int .u8 l, .int .u8 f2, .int .u8 l2] 74)) fun e w' => e = .returned (.bool true) ∧ RK B b s ls (k + 1) es w0 w' := tk2 h hr
theorem tk2n {B b k : Nat} {s : ByteArray} {ls es : List Int} {w0 w : World} {f l f2 l2 : Int} (h : RK B b s ls k es w0 w) (hr : xTk ls k [(f, l), (f2, l2)] = false) :
    Calls Tryd.prog 38 #[.pointer (some ⟨b, 0, none⟩), .slice (some ⟨w.heap.size, 0, none⟩) 2 2] (w.alloc (.cells #[.int .u8 f, .int .u8 l, .int .u8 f2, .int .u8 l2] 74)) fun e w' => e = .returned (.bool false) ∧ RK B b s ls k es w0 w' := tk2 h hr
theorem tk3y {B b k : Nat} {s : ByteArray} {ls es : List Int} {w0 w : World} {f l f2 l2 f3 l3 : Int} (h : RK B b s ls k es w0 w) (hr : xTk ls k [(f, l), (f2, l2), (f3, l3)] = true) :
    Calls Tryd.prog 38 #[.pointer (some ⟨b, 0, none⟩), .slice (some ⟨w.heap.size, 0, none⟩) 3 3] (w.alloc (.cells #[.int .u8 f, .int .u8 l, .int .u8 f2, .int .u8 l2, .int .u8 f3, .int .u8 l3] 74)) fun e w' => e = .returned (.bool true) ∧ RK B b s ls (k + 1) es w0 w' := tk3 h hr
theorem tk3n {B b k : Nat} {s : ByteArray} {ls es : List Int} {w0 w : World} {f l f2 l2 f3 l3 : Int} (h : RK B b s ls k es w0 w) (hr : xTk ls k [(f, l), (f2, l2), (f3, l3)] = false) :
    Calls Tryd.prog 38 #[.pointer (some ⟨b, 0, none⟩), .slice (some ⟨w.heap.size, 0, none⟩) 3 3] (w.alloc (.cells #[.int .u8 f, .int .u8 l, .int .u8 f2, .int .u8 l2, .int .u8 f3, .int .u8 l3] 74)) fun e w' => e = .returned (.bool false) ∧ RK B b s ls k es w0 w' := tk3 h hr

set_option maxRecDepth 100000 in
set_option maxHeartbeats 4000000 in
theorem unit_rk {B b k : Nat} {s : ByteArray} {ls es : List Int} {w0 w : World} (h : RK B b s ls k es w0 w) :
    Calls Tryd.prog 63 #[.pointer (some ⟨b, 0, none⟩)] w fun e w' => ∃ half ok j, e = .returned (.tuple #[.bool half, .bool ok]) ∧ XUnit ls k half ok j ∧ RK B b s ls j es w0 w' := by
  have H := hide h
  have hk := h.le
  clear h
  cases t0 : xTk ls k [(100, 100), (68, 68)] with
  | false =>
    have HN := hide (show ¬ (xV ls k = 13 ∧ 12 ≤ xV ls (k + 1)) ∧ ∀ d0 : xTk ls k dSp = true, decide (xV ls k = 13 ∧ 8 ≤ xV ls (k + 1)) = false from by
      have key : k < ls.length → xV ls k ≠ 13 := fun hl => by
        have := xSp_no (xTk_no t0 hl)
        rw [xD_iff] at this
        exact this
      constructor
      · rintro ⟨g1, g2⟩
        by_cases hl : k < ls.length
        · exact key hl g1
        · unfold xV at g1; rw [show Nt.lb ls k = 0 by simp [Nt.lb, List.getElem?_eq_none (by omega : ls.length ≤ k)]] at g1; revert g1; decide
      · intro d0; rw [decide_eq_false]; have := key (xTk_lt d0); omega)
    cases d0 : xTk ls k dSp with
    | false =>
      replace t0 := hide t0; replace d0 := hide d0
      go_enter Tryd.func63, Tryd.ntmps63
      go_wp2_with (first
        | (go_at_call 35; refine (only_rk H.out).mono ?_; rintro e w' ⟨rfl, h2⟩; replace H := hide h2; clear h2)
        | (go_at_call 38; (with_reducible refine (tk2n H.out t0.out).mono ?_); rintro e w' ⟨rfl, h2⟩; replace H := hide h2; clear h2)
        | (go_at_call 69; (with_reducible refine (digit_n H.out d0.out).mono ?_); rintro e w' ⟨rfl, h2⟩; replace H := hide h2; clear h2))
      go_ret2
      exact ⟨_, _, _, rfl, unit_b0 hk d0.out, H.out⟩
    | true =>
      cases d1 : xTk ls (k + 1) dSp with
      | false =>
        replace t0 := hide t0; replace d0 := hide d0; replace d1 := hide d1
        go_enter Tryd.func63, Tryd.ntmps63
        go_wp2_with (first
          | (go_at_call 35; refine (only_rk H.out).mono ?_; rintro e w' ⟨rfl, h2⟩; replace H := hide h2; clear h2)
          | (go_at_call 38; (with_reducible refine (tk2n H.out t0.out).mono ?_); rintro e w' ⟨rfl, h2⟩; replace H := hide h2; clear h2)
          | (go_at_call 69; (with_reducible refine (digit_y H.out d0.out).mono ?_); rintro e w' ⟨rfl, h2⟩; replace H := hide h2; clear h2)
          | (go_at_call 69; (with_reducible refine (digit_n H.out d1.out).mono ?_); rintro e w' ⟨rfl, h2⟩; replace H := hide h2; clear h2))
        go_ret2
        exact ⟨_, _, _, rfl, unit_b1 d0.out (.inl d1.out), H.out⟩
      | true =>
        cases d2 : xTk ls (k + 2) dSp with
        | false =>
          replace t0 := hide t0; replace d0 := hide d0; replace d1 := hide d1; replace d2 := hide d2
          go_enter Tryd.func63, Tryd.ntmps63
          go_wp2_with (first
            | (go_at_call 35; refine (only_rk H.out).mono ?_; rintro e w' ⟨rfl, h2⟩; replace H := hide h2; clear h2)
            | (go_at_call 38; (with_reducible refine (tk2n H.out t0.out).mono ?_); rintro e w' ⟨rfl, h2⟩; replace H := hide h2; clear h2)
            | (go_at_call 69; (with_reducible refine (digit_y H.out d0.out).mono ?_); rintro e w' ⟨rfl, h2⟩; replace H := hide h2; clear h2)
            | (go_at_call 69; (with_reducible refine (digit_y H.out d1.out).mono ?_); rintro e w' ⟨rfl, h2⟩; replace H := hide h2; clear h2)
            | (go_at_call 69; (with_reducible refine (digit_n H.out d2.out).mono ?_); rintro e w' ⟨rfl, h2⟩; replace H := hide h2; clear h2))
          go_ret2
          exact ⟨_, _, _, rfl, unit_b2 d0.out d1.out HN.out.1 d2.out, H.out⟩
        | true =>
          cases d3 : xTk ls (k + 3) dSp with
          | false =>
            replace t0 := hide t0; replace d0 := hide d0; replace d1 := hide d1; replace d2 := hide d2; replace d3 := hide d3
            go_enter Tryd.func63, Tryd.ntmps63
            go_wp2_with (first
              | (go_at_call 35; refine (only_rk H.out).mono ?_; rintro e w' ⟨rfl, h2⟩; replace H := hide h2; clear h2)
              | (go_at_call 38; (with_reducible refine (tk2n H.out t0.out).mono ?_); rintro e w' ⟨rfl, h2⟩; replace H := hide h2; clear h2)
              | (go_at_call 69; (with_reducible refine (digit_y H.out d0.out).mono ?_); rintro e w' ⟨rfl, h2⟩; replace H := hide h2; clear h2)
              | (go_at_call 69; (with_reducible refine (digit_y H.out d1.out).mono ?_); rintro e w' ⟨rfl, h2⟩; replace H := hide h2; clear h2)
              | (go_at_call 69; (with_reducible refine (digit_y H.out d2.out).mono ?_); rintro e w' ⟨rfl, h2⟩; replace H := hide h2; clear h2)
              | (go_at_call 69; (with_reducible refine (digit_n H.out d3.out).mono ?_); rintro e w' ⟨rfl, h2⟩; replace H := hide h2; clear h2))
            go_ret2
            exact ⟨_, _, _, rfl, unit_b3 d0.out d1.out HN.out.1 d2.out d3.out, H.out⟩
          | true =>
            replace t0 := hide t0; replace d0 := hide d0; replace d1 := hide d1; replace d2 := hide d2; replace d3 := hide d3
            go_enter Tryd.func63, Tryd.ntmps63
            go_wp2_with (first
              | (go_at_call 35; refine (only_rk H.out).mono ?_; rintro e w' ⟨rfl, h2⟩; replace H := hide h2; clear h2)
              | (go_at_call 38; (with_reducible refine (tk2n H.out t0.out).mono ?_); rintro e w' ⟨rfl, h2⟩; replace H := hide h2; clear h2)
              | (go_at_call 69; (with_reducible refine (digit_y H.out d0.out).mono ?_); rintro e w' ⟨rfl, h2⟩; replace H := hide h2; clear h2)
              | (go_at_call 69; (with_reducible refine (digit_y H.out d1.out).mono ?_); rintro e w' ⟨rfl, h2⟩; replace H := hide h2; clear h2)
              | (go_at_call 69; (with_reducible refine (digit_y H.out d2.out).mono ?_); rintro e w' ⟨rfl, h2⟩; replace H := hide h2; clear h2)
              | (go_at_call 69; (with_reducible refine (digit_y H.out d3.out).mono ?_); rintro e w' ⟨rfl, h2⟩; replace H := hide h2; clear h2))
            go_ret2
            exact ⟨_, _, _, rfl, unit_ok d0.out d1.out HN.out.1 d2.out d3.out (HN.out.2 d0.out).symm, H.out⟩
  | true =>
    have D0 := hide (show xTk ls k dSp = true ∧ xV ls k = 13 from by
      have := xD_iff.1 (xTk_sp t0)
      exact ⟨xTk_of t0 (fun _ => xDig_of (by omega)), this⟩)
    cases h1 : xTk ls (k + 1) hSp with
    | true =>
      have D1 := hide (show xTk ls (k + 1) dSp = true ∧ 8 ≤ xV ls (k + 1) ∧ xV ls (k + 1) ≤ 11 from by
        have := xH_iff.1 (xTk_sp h1)
        exact ⟨xTk_of h1 (fun _ => xDig_of (by omega)), this⟩)
      have HN := hide (show ¬ (xV ls k = 13 ∧ 12 ≤ xV ls (k + 1)) by have := D1.out.2; omega)
      have HH := hide (show decide (xV ls k = 13 ∧ 8 ≤ xV ls (k + 1)) = true from decide_eq_true ⟨D0.out.2, D1.out.2.1⟩)
      cases d2 : xTk ls (k + 2) dSp with
      | false =>
        replace t0 := hide t0; replace h1 := hide h1; replace d2 := hide d2
        go_enter Tryd.func63, Tryd.ntmps63
        go_wp2_with (first
          | (go_at_call 35; refine (only_rk H.out).mono ?_; rintro e w' ⟨rfl, h2⟩; replace H := hide h2; clear h2)
          | (go_at_call 38; (with_reducible refine (tk2y H.out t0.out).mono ?_); rintro e w' ⟨rfl, h2⟩; replace H := hide h2; clear h2)
          | (go_at_call 38; (with_reducible refine (tk3y H.out h1.out).mono ?_); rintro e w' ⟨rfl, h2⟩; replace H := hide h2; clear h2)
          | (go_at_call 69; (with_reducible refine (digit_n H.out d2.out).mono ?_); rintro e w' ⟨rfl, h2⟩; replace H := hide h2; clear h2))
        go_ret2
        exact ⟨_, _, _, rfl, unit_b2 D0.out.1 D1.out.1 HN.out d2.out, H.out⟩
      | true =>
        cases d3 : xTk ls (k + 3) dSp with
        | false =>
          replace t0 := hide t0; replace h1 := hide h1; replace d2 := hide d2; replace d3 := hide d3
          go_enter Tryd.func63, Tryd.ntmps63
          go_wp2_with (first
            | (go_at_call 35; refine (only_rk H.out).mono ?_; rintro e w' ⟨rfl, h2⟩; replace H := hide h2; clear h2)
            | (go_at_call 38; (with_reducible refine (tk2y H.out t0.out).mono ?_); rintro e w' ⟨rfl, h2⟩; replace H := hide h2; clear h2)
            | (go_at_call 38; (with_reducible refine (tk3y H.out h1.out).mono ?_); rintro e w' ⟨rfl, h2⟩; replace H := hide h2; clear h2)
            | (go_at_call 69; (with_reducible refine (digit_y H.out d2.out).mono ?_); rintro e w' ⟨rfl, h2⟩; replace H := hide h2; clear h2)
            | (go_at_call 69; (with_reducible refine (digit_n H.out d3.out).mono ?_); rintro e w' ⟨rfl, h2⟩; replace H := hide h2; clear h2))
          go_ret2
          exact ⟨_, _, _, rfl, unit_b3 D0.out.1 D1.out.1 HN.out d2.out d3.out, H.out⟩
        | true =>
          replace t0 := hide t0; replace h1 := hide h1; replace d2 := hide d2; replace d3 := hide d3
          go_enter Tryd.func63, Tryd.ntmps63
          go_wp2_with (first
            | (go_at_call 35; refine (only_rk H.out).mono ?_; rintro e w' ⟨rfl, h2⟩; replace H := hide h2; clear h2)
            | (go_at_call 38; (with_reducible refine (tk2y H.out t0.out).mono ?_); rintro e w' ⟨rfl, h2⟩; replace H := hide h2; clear h2)
            | (go_at_call 38; (with_reducible refine (tk3y H.out h1.out).mono ?_); rintro e w' ⟨rfl, h2⟩; replace H := hide h2; clear h2)
            | (go_at_call 69; (with_reducible refine (digit_y H.out d2.out).mono ?_); rintro e w' ⟨rfl, h2⟩; replace H := hide h2; clear h2)
            | (go_at_call 69; (with_reducible refine (digit_y H.out d3.out).mono ?_); rintro e w' ⟨rfl, h2⟩; replace H := hide h2; clear h2))
          go_ret2
          exact ⟨_, _, _, rfl, unit_ok D0.out.1 D1.out.1 HN.out d2.out d3.out HH.out.symm, H.out⟩
    | false =>
      cases s1 : xTk ls (k + 1) [(48, 55)] with
      | false =>
        have HB := hide (show k + 1 < ls.length → 12 ≤ xV ls (k + 1) ∨ xV ls (k + 1) < 0 from fun hl => by
          have g1 := xSp_no (xTk_no h1 hl)
          have g2 := xSp_no (xTk_no s1 hl)
          rw [xH_iff] at g1
          rw [x7_iff] at g2
          unfold xV
          omega)
        replace t0 := hide t0; replace h1 := hide h1; replace s1 := hide s1
        go_enter Tryd.func63, Tryd.ntmps63
        go_wp2_with (first
          | (go_at_call 35; refine (only_rk H.out).mono ?_; rintro e w' ⟨rfl, h2⟩; replace H := hide h2; clear h2)
          | (go_at_call 38; (with_reducible refine (tk2y H.out t0.out).mono ?_); rintro e w' ⟨rfl, h2⟩; replace H := hide h2; clear h2)
          | (go_at_call 38; (with_reducible refine (tk3n H.out h1.out).mono ?_); rintro e w' ⟨rfl, h2⟩; replace H := hide h2; clear h2)
          | (go_at_call 38; (with_reducible refine (tk1n H.out s1.out).mono ?_); rintro e w' ⟨rfl, h2⟩; replace H := hide h2; clear h2))
        go_ret2
        exact ⟨_, _, _, rfl, unit_b1 D0.out.1 (.inr ⟨D0.out.2, HB.out⟩), H.out⟩
      | true =>
        have D1 := hide (show xTk ls (k + 1) dSp = true ∧ 0 ≤ xV ls (k + 1) ∧ xV ls (k + 1) ≤ 7 from by
          have := x7_iff.1 (xTk_sp s1)
          exact ⟨xTk_of s1 (fun _ => xDig_of (by omega)), this⟩)
        have HN := hide (show ¬ (xV ls k = 13 ∧ 12 ≤ xV ls (k + 1)) by have := D1.out.2; omega)
        have HH := hide (show decide (xV ls k = 13 ∧ 8 ≤ xV ls (k + 1)) = false from decide_eq_false (by have := D1.out.2; omega))
        cases d2 : xTk ls (k + 2) dSp with
        | false =>
          replace t0 := hide t0; replace h1 := hide h1; replace s1 := hide s1; replace d2 := hide d2
          go_enter Tryd.func63, Tryd.ntmps63
          go_wp2_with (first
            | (go_at_call 35; refine (only_rk H.out).mono ?_; rintro e w' ⟨rfl, h2⟩; replace H := hide h2; clear h2)
            | (go_at_call 38; (with_reducible refine (tk2y H.out t0.out).mono ?_); rintro e w' ⟨rfl, h2⟩; replace H := hide h2; clear h2)
            | (go_at_call 38; (with_reducible refine (tk3n H.out h1.out).mono ?_); rintro e w' ⟨rfl, h2⟩; replace H := hide h2; clear h2)
            | (go_at_call 38; (with_reducible refine (tk1y H.out s1.out).mono ?_); rintro e w' ⟨rfl, h2⟩; replace H := hide h2; clear h2)
            | (go_at_call 69; (with_reducible refine (digit_n H.out d2.out).mono ?_); rintro e w' ⟨rfl, h2⟩; replace H := hide h2; clear h2))
          go_ret2
          exact ⟨_, _, _, rfl, unit_b2 D0.out.1 D1.out.1 HN.out d2.out, H.out⟩
        | true =>
          cases d3 : xTk ls (k + 3) dSp with
          | false =>
            replace t0 := hide t0; replace h1 := hide h1; replace s1 := hide s1; replace d2 := hide d2; replace d3 := hide d3
            go_enter Tryd.func63, Tryd.ntmps63
            go_wp2_with (first
              | (go_at_call 35; refine (only_rk H.out).mono ?_; rintro e w' ⟨rfl, h2⟩; replace H := hide h2; clear h2)
              | (go_at_call 38; (with_reducible refine (tk2y H.out t0.out).mono ?_); rintro e w' ⟨rfl, h2⟩; replace H := hide h2; clear h2)
              | (go_at_call 38; (with_reducible refine (tk3n H.out h1.out).mono ?_); rintro e w' ⟨rfl, h2⟩; replace H := hide h2; clear h2)
              | (go_at_call 38; (with_reducible refine (tk1y H.out s1.out).mono ?_); rintro e w' ⟨rfl, h2⟩; replace H := hide h2; clear h2)
              | (go_at_call 69; (with_reducible refine (digit_y H.out d2.out).mono ?_); rintro e w' ⟨rfl, h2⟩; replace H := hide h2; clear h2)
              | (go_at_call 69; (with_reducible refine (digit_n H.out d3.out).mono ?_); rintro e w' ⟨rfl, h2⟩; replace H := hide h2; clear h2))
            go_ret2
            exact ⟨_, _, _, rfl, unit_b3 D0.out.1 D1.out.1 HN.out d2.out d3.out, H.out⟩
          | true =>
            replace t0 := hide t0; replace h1 := hide h1; replace s1 := hide s1; replace d2 := hide d2; replace d3 := hide d3
            go_enter Tryd.func63, Tryd.ntmps63
            go_wp2_with (first
              | (go_at_call 35; refine (only_rk H.out).mono ?_; rintro e w' ⟨rfl, h2⟩; replace H := hide h2; clear h2)
              | (go_at_call 38; (with_reducible refine (tk2y H.out t0.out).mono ?_); rintro e w' ⟨rfl, h2⟩; replace H := hide h2; clear h2)
              | (go_at_call 38; (with_reducible refine (tk3n H.out h1.out).mono ?_); rintro e w' ⟨rfl, h2⟩; replace H := hide h2; clear h2)
              | (go_at_call 38; (with_reducible refine (tk1y H.out s1.out).mono ?_); rintro e w' ⟨rfl, h2⟩; replace H := hide h2; clear h2)
              | (go_at_call 69; (with_reducible refine (digit_y H.out d2.out).mono ?_); rintro e w' ⟨rfl, h2⟩; replace H := hide h2; clear h2)
              | (go_at_call 69; (with_reducible refine (digit_y H.out d3.out).mono ?_); rintro e w' ⟨rfl, h2⟩; replace H := hide h2; clear h2))
            go_ret2
            exact ⟨_, _, _, rfl, unit_ok D0.out.1 D1.out.1 HN.out d2.out d3.out HH.out.symm, H.out⟩

/-- what secondHalf answers -/
def XSec (ls : List Int) (k : Nat) (h : Int) (ok : Bool) (j : Nat) : Prop :=
  (ok = true ∧ j = k + 6 ∧ k + 6 ≤ ls.length ∧ (∀ i, i < 4 → xTk ls (k + 2 + i) dSp = true) ∧ (56320 ≤ xNum ls (k + 2) ∧ xNum ls (k + 2) ≤ 57343) ∧ ∀ t, XOn ls k (.second h) t (k + 6) .inn (t ++ uEnc (65536 + (h - 55296) * 1024 + xNum ls (k + 2) - 56320)))
  ∨ (ok = false ∧ ∀ t, XBad ls k (.second h) t j)
theorem sec_1 {ls : List Int} {k : Nat} {h : Int} (t : List Int) (a0 : xTk ls k [(92, 92)] = true) : XOn ls k (.second h) t (k + 1) (.letter h) t :=
  XOn.step0 (xTk_lt a0) (by rw [(xTk_one a0).2]; rfl) (by simp)
theorem sec_2 {ls : List Int} {k : Nat} {h : Int} (t : List Int) (a0 : xTk ls k [(92, 92)] = true) (a1 : xTk ls (k + 1) [(117, 117)] = true) : XOn ls k (.second h) t (k + 2) (.digs 4 0 h) t :=
  (sec_1 t a0).trans (XOn.step0 (xTk_lt a1) (by rw [(xTk_one a1).2]; rfl) (by simp))
theorem sec_3 {ls : List Int} {k : Nat} {h : Int} (hh : 0 < h) (t : List Int) (a0 : xTk ls k [(92, 92)] = true) (a1 : xTk ls (k + 1) [(117, 117)] = true) (a2 : xTk ls (k + 2) [(100, 100), (68, 68)] = true) : XOn ls k (.second h) t (k + 3) (.digs 3 13 h) t := by
  have e := xD_iff.1 (xTk_sp a2)
  have d := xTk_of (sp' := dSp) a2 (fun _ => xDig_of (by omega))
  exact (sec_2 t a0 a1).trans (XOn.dig d (by unfold xBar xV; omega) (by omega) (by unfold xV; omega))
theorem sec_4 {ls : List Int} {k : Nat} {h : Int} (hh : 0 < h) (t : List Int) (a0 : xTk ls k [(92, 92)] = true) (a1 : xTk ls (k + 1) [(117, 117)] = true) (a2 : xTk ls (k + 2) [(100, 100), (68, 68)] = true) (a3 : xTk ls (k + 3) [(99, 102), (67, 70)] = true) : XOn ls k (.second h) t (k + 4) (.digs 2 (208 + xV ls (k + 3)) h) t := by
  have e := xC_iff.1 (xTk_sp a3)
  have d := xTk_of (sp' := dSp) a3 (fun _ => xDig_of (by omega))
  have f := xTk_dig d
  exact (sec_3 hh t a0 a1 a2).trans (XOn.dig d (by unfold xBar; unfold xV at f ⊢; omega) (by omega) (by omega))
theorem sec_5 {ls : List Int} {k : Nat} {h : Int} (hh : 0 < h) (t : List Int) (a0 : xTk ls k [(92, 92)] = true) (a1 : xTk ls (k + 1) [(117, 117)] = true) (a2 : xTk ls (k + 2) [(100, 100), (68, 68)] = true) (a3 : xTk ls (k + 3) [(99, 102), (67, 70)] = true) (a4 : xTk ls (k + 4) dSp = true) : XOn ls k (.second h) t (k + 5) (.digs 1 (16 * (208 + xV ls (k + 3)) + xV ls (k + 4)) h) t :=
  (sec_4 hh t a0 a1 a2 a3).trans (XOn.dig a4 xBar_no1 (by omega) rfl)
theorem sec_ok {ls : List Int} {k : Nat} {h : Int} (hh : 0 < h) (a0 : xTk ls k [(92, 92)] = true) (a1 : xTk ls (k + 1) [(117, 117)] = true) (a2 : xTk ls (k + 2) [(100, 100), (68, 68)] = true) (a3 : xTk ls (k + 3) [(99, 102), (67, 70)] = true) (a4 : xTk ls (k + 4) dSp = true) (a5 : xTk ls (k + 5) dSp = true) : XSec ls k h true (k + 6) := by
  have e2 := xD_iff.1 (xTk_sp a2)
  have e3 := xC_iff.1 (xTk_sp a3)
  have d2 := xTk_of (sp' := dSp) a2 (fun _ => xDig_of (by omega))
  have d3 := xTk_of (sp' := dSp) a3 (fun _ => xDig_of (by omega))
  have f3 := xTk_dig d3; have f4 := xTk_dig a4; have f5 := xTk_dig a5
  have en : xNum ls (k + 2) = 16 * (16 * (208 + xV ls (k + 3)) + xV ls (k + 4)) + xV ls (k + 5) := by
    have : xV ls (k + 2) = 13 := e2
    unfold xNum
    rw [this]
    show ((13 * 16 + xV ls (k + 3)) * 16 + xV ls (k + 4)) * 16 + xV ls (k + 5) = _
    omega
  refine .inl ⟨rfl, rfl, f5.1, four d2 d3 a4 a5, ?_, fun t => ?_⟩
  · rw [en]; unfold xV at f3 f4 f5 ⊢; omega
  · have := (sec_5 hh t a0 a1 a2 a3 a4).trans (XOn.last (m := xNum ls (k + 2)) a5 xBar_no0 (by rw [en]))
    unfold xEnd at this
    rw [if_pos hh] at this
    exact this
theorem sec_no {ls : List Int} {k j : Nat} {h : Int} (g : ∀ t, XBad ls k (.second h) t j) : XSec ls k h false j := .inr ⟨rfl, g⟩

set_option maxRecDepth 100000 in
set_option maxHeartbeats 4000000 in
theorem second_rk {B b k : Nat} {s : ByteArray} {ls es : List Int} {w0 w : World} {hi : Int} (hh : 0 < hi) (h : RK B b s ls k es w0 w) :
    Calls Tryd.prog 65 #[.pointer (some ⟨b, 0, none⟩)] w fun e w' => ∃ ok j, e = .returned (.bool ok) ∧ XSec ls k hi ok j ∧ RK B b s ls j es w0 w' := by
  have H := hide h
  have hk := h.le
  replace hh := hide hh
  clear h
  cases a0 : xTk ls k [(92, 92)] with
  | false =>
    replace a0 := hide a0
    go_enter Tryd.func65, Tryd.ntmps65
    go_wp2_with (first
      | (go_at_call 35; refine (only_rk H.out).mono ?_; rintro e w' ⟨rfl, h2⟩; replace H := hide h2; clear h2)
      | (go_at_call 38; (with_reducible refine (tk1n H.out a0.out).mono ?_); rintro e w' ⟨rfl, h2⟩; replace H := hide h2; clear h2))
    go_ret
    exact ⟨_, _, rfl, sec_no (fun t => XBad.stop hk (fun hl => by have := xTk_one_no a0.out hl; show (if _ then _ else _) = _; rw [if_neg this])), H.out⟩
  | true =>
    cases a1 : xTk ls (k + 1) [(117, 117)] with
    | false =>
      replace a0 := hide a0; replace a1 := hide a1
      go_enter Tryd.func65, Tryd.ntmps65
      go_wp2_with (first
        | (go_at_call 35; refine (only_rk H.out).mono ?_; rintro e w' ⟨rfl, h2⟩; replace H := hide h2; clear h2)
        | (go_at_call 38; (with_reducible refine (tk1y H.out a0.out).mono ?_); rintro e w' ⟨rfl, h2⟩; replace H := hide h2; clear h2)
        | (go_at_call 38; (with_reducible refine (tk1n H.out a1.out).mono ?_); rintro e w' ⟨rfl, h2⟩; replace H := hide h2; clear h2))
      go_ret
      exact ⟨_, _, rfl, sec_no (fun t => (sec_1 t a0.out).bad (XBad.stop (xTk_lt a0.out) (fun hl => by have := xTk_one_no a1.out hl; show (if _ then _ else _) = _; rw [if_neg this]))), H.out⟩
    | true =>
      cases a2 : xTk ls (k + 2) [(100, 100), (68, 68)] with
      | false =>
        replace a0 := hide a0; replace a1 := hide a1; replace a2 := hide a2
        go_enter Tryd.func65, Tryd.ntmps65
        go_wp2_with (first
          | (go_at_call 35; refine (only_rk H.out).mono ?_; rintro e w' ⟨rfl, h2⟩; replace H := hide h2; clear h2)
          | (go_at_call 38; (with_reducible refine (tk1y H.out a0.out).mono ?_); rintro e w' ⟨rfl, h2⟩; replace H := hide h2; clear h2)
          | (go_at_call 38; (with_reducible refine (tk1y H.out a1.out).mono ?_); rintro e w' ⟨rfl, h2⟩; replace H := hide h2; clear h2)
          | (go_at_call 38; (with_reducible refine (tk2n H.out a2.out).mono ?_); rintro e w' ⟨rfl, h2⟩; replace H := hide h2; clear h2))
        go_ret
        exact ⟨_, _, rfl, sec_no (fun t => (sec_2 t a0.out a1.out).bad (XBad.stop (xTk_lt a1.out) (fun hl => by have g := xSp_no (xTk_no a2.out hl); rw [xD_iff] at g; refine xDgs_bar (.inr (.inl ⟨hh.out, .inl ⟨rfl, by omega⟩⟩))))), H.out⟩
      | true =>
        cases a3 : xTk ls (k + 3) [(99, 102), (67, 70)] with
        | false =>
          replace a0 := hide a0; replace a1 := hide a1; replace a2 := hide a2; replace a3 := hide a3
          go_enter Tryd.func65, Tryd.ntmps65
          go_wp2_with (first
            | (go_at_call 35; refine (only_rk H.out).mono ?_; rintro e w' ⟨rfl, h2⟩; replace H := hide h2; clear h2)
            | (go_at_call 38; (with_reducible refine (tk1y H.out a0.out).mono ?_); rintro e w' ⟨rfl, h2⟩; replace H := hide h2; clear h2)
            | (go_at_call 38; (with_reducible refine (tk1y H.out a1.out).mono ?_); rintro e w' ⟨rfl, h2⟩; replace H := hide h2; clear h2)
            | (go_at_call 38; (with_reducible refine (tk2y H.out a2.out).mono ?_); rintro e w' ⟨rfl, h2⟩; replace H := hide h2; clear h2)
            | (go_at_call 38; (with_reducible refine (tk2n H.out a3.out).mono ?_); rintro e w' ⟨rfl, h2⟩; replace H := hide h2; clear h2))
          go_ret
          exact ⟨_, _, rfl, sec_no (fun t => (sec_3 hh.out t a0.out a1.out a2.out).bad (XBad.stop (xTk_lt a2.out) (fun hl => by have g := xSp_no (xTk_no a3.out hl); rw [xC_iff] at g; by_cases g2 : xDig (Nt.lb ls (k + 3)) < 0; exact xDgs_bar (.inl g2); refine xDgs_bar (.inr (.inl ⟨hh.out, .inr ⟨rfl, by omega⟩⟩))))), H.out⟩
        | true =>
          cases a4 : xTk ls (k + 4) dSp with
          | false =>
            replace a0 := hide a0; replace a1 := hide a1; replace a2 := hide a2; replace a3 := hide a3; replace a4 := hide a4
            go_enter Tryd.func65, Tryd.ntmps65
            go_wp2_with (first
              | (go_at_call 35; refine (only_rk H.out).mono ?_; rintro e w' ⟨rfl, h2⟩; replace H := hide h2; clear h2)
              | (go_at_call 38; (with_reducible refine (tk1y H.out a0.out).mono ?_); rintro e w' ⟨rfl, h2⟩; replace H := hide h2; clear h2)
              | (go_at_call 38; (with_reducible refine (tk1y H.out a1.out).mono ?_); rintro e w' ⟨rfl, h2⟩; replace H := hide h2; clear h2)
              | (go_at_call 38; (with_reducible refine (tk2y H.out a2.out).mono ?_); rintro e w' ⟨rfl, h2⟩; replace H := hide h2; clear h2)
              | (go_at_call 38; (with_reducible refine (tk2y H.out a3.out).mono ?_); rintro e w' ⟨rfl, h2⟩; replace H := hide h2; clear h2)
              | (go_at_call 69; (with_reducible refine (digit_n H.out a4.out).mono ?_); rintro e w' ⟨rfl, h2⟩; replace H := hide h2; clear h2))
            go_ret
            exact ⟨_, _, rfl, sec_no (fun t => (sec_4 hh.out t a0.out a1.out a2.out a3.out).bad (XBad.stop (xTk_lt a3.out) (xDgs_bad a4.out))), H.out⟩
          | true =>
            cases a5 : xTk ls (k + 5) dSp with
            | false =>
              replace a0 := hide a0; replace a1 := hide a1; replace a2 := hide a2; replace a3 := hide a3; replace a4 := hide a4; replace a5 := hide a5
              go_enter Tryd.func65, Tryd.ntmps65
              go_wp2_with (first
                | (go_at_call 35; refine (only_rk H.out).mono ?_; rintro e w' ⟨rfl, h2⟩; replace H := hide h2; clear h2)
                | (go_at_call 38; (with_reducible refine (tk1y H.out a0.out).mono ?_); rintro e w' ⟨rfl, h2⟩; replace H := hide h2; clear h2)
                | (go_at_call 38; (with_reducible refine (tk1y H.out a1.out).mono ?_); rintro e w' ⟨rfl, h2⟩; replace H := hide h2; clear h2)
                | (go_at_call 38; (with_reducible refine (tk2y H.out a2.out).mono ?_); rintro e w' ⟨rfl, h2⟩; replace H := hide h2; clear h2)
                | (go_at_call 38; (with_reducible refine (tk2y H.out a3.out).mono ?_); rintro e w' ⟨rfl, h2⟩; replace H := hide h2; clear h2)
                | (go_at_call 69; (with_reducible refine (digit_y H.out a4.out).mono ?_); rintro e w' ⟨rfl, h2⟩; replace H := hide h2; clear h2)
                | (go_at_call 69; (with_reducible refine (digit_n H.out a5.out).mono ?_); rintro e w' ⟨rfl, h2⟩; replace H := hide h2; clear h2))
              go_ret
              exact ⟨_, _, rfl, sec_no (fun t => (sec_5 hh.out t a0.out a1.out a2.out a3.out a4.out).bad (XBad.stop (xTk_lt a4.out) (xDgs_bad a5.out))), H.out⟩
            | true =>
              replace a0 := hide a0; replace a1 := hide a1; replace a2 := hide a2; replace a3 := hide a3; replace a4 := hide a4; replace a5 := hide a5
              go_enter Tryd.func65, Tryd.ntmps65
              go_wp2_with (first
                | (go_at_call 35; refine (only_rk H.out).mono ?_; rintro e w' ⟨rfl, h2⟩; replace H := hide h2; clear h2)
                | (go_at_call 38; (with_reducible refine (tk1y H.out a0.out).mono ?_); rintro e w' ⟨rfl, h2⟩; replace H := hide h2; clear h2)
                | (go_at_call 38; (with_reducible refine (tk1y H.out a1.out).mono ?_); rintro e w' ⟨rfl, h2⟩; replace H := hide h2; clear h2)
                | (go_at_call 38; (with_reducible refine (tk2y H.out a2.out).mono ?_); rintro e w' ⟨rfl, h2⟩; replace H := hide h2; clear h2)
                | (go_at_call 38; (with_reducible refine (tk2y H.out a3.out).mono ?_); rintro e w' ⟨rfl, h2⟩; replace H := hide h2; clear h2)
                | (go_at_call 69; (with_reducible refine (digit_y H.out a4.out).mono ?_); rintro e w' ⟨rfl, h2⟩; replace H := hide h2; clear h2)
                | (go_at_call 69; (with_reducible refine (digit_y H.out a5.out).mono ?_); rintro e w' ⟨rfl, h2⟩; replace H := hide h2; clear h2))
              go_ret
              exact ⟨_, _, rfl, sec_ok hh.out a0.out a1.out a2.out a3.out a4.out a5.out, H.out⟩

end Go.Proofs.YtegokdhmpopggaaDoor
