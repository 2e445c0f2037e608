/- BaseForth: what is read is told as that text -/
import Derived.Test.YtnblpmjgehknaaaBLives
namespace Go.Proofs.Ytnblpmjgehknaaa
open Go.RowKit
set_option linter.unusedVariables false

set_option maxRecDepth 100000 in
set_option maxHeartbeats 8000000 in
theorem bforth_walk {w : World} {s : ByteArray} (hl : s.size ≤ 140737488351232) :
    Calls Try.prog 7 #[.string s] w fun e w' => e = .returned (.bool true) ∧ Below w.heap.size w w' := by
  obtain ⟨es, hb, hes, rfl⟩ := utxt_of s
  rw [← hes] at hl
  clear hes
  have hsz : (strOfNums es).size = es.length := strOfNums_size es
  have Hl := hide hl
  by_cases hbig : 16777216 < es.length
  · have q1 : (16777216 : Int) < (es.length : Int) := by omega
    clear hb
    go_enter Try.func7, Try.ntmps7
    go_wp2
    go_ret
    exact ⟨rfl, Below.refl _ _⟩
  · have q1 : ¬ (16777216 : Int) < (es.length : Int) := by omega
    have hn1 : ((strOfNums es).toList != (strOfNums es).toList) = false := by simp
    by_cases hx : ∃ xs, HexOf es xs
    · obtain ⟨xs, hx⟩ := hx
      have lx := bHex_len xs
      rw [hx.2] at lx
      have c1 := hide (fun w : World => hex_yes (w := w) rfl hb (by omega) hx)
      have d1 := hide (fun (w : World) (v : Value) (h : Reads .u8 w v xs) => hex_any h hx.1 (by omega))
      rw [hx.2] at d1
      clear lx hx
      by_cases hy : ∃ ys, SixOf es ys
      · obtain ⟨ys, hy⟩ := hy
        have ly := b64_len ys
        rw [hy.2] at ly
        have c2 := hide (fun w : World => six_yes (w := w) rfl hb (by omega) hy)
        have d2 := hide (fun (w : World) (v : Value) (h : Reads .u8 w v ys) => base64_any h hy.1 (by omega))
        rw [hy.2] at d2
        clear hy hb hl ly hbig
        go_enter Try.func7, Try.ntmps7
        go_wp2_with fail
        refine (c1.out _).mono ?_
        rintro e w1 ⟨v1, rfl, ho1, hb1⟩
        have R1 := hide (breads_of_own rfl ho1)
        clear ho1
        clear c1
        go_wp2_with fail
        refine (c2.out _).mono ?_
        rintro e w2 ⟨v2, rfl, ho2, hb2⟩
        have R2 := hide (breads_of_own rfl ho2)
        clear ho2
        have K2 := hide (hb1.trans (hb2.mono hb1.size))
        have S2 := hide (R1.out.below hb2)
        clear R1
        clear c2 hb1 hb2
        go_wp2_with fail
        refine (d1.out _ _ S2.out).mono ?_
        rintro e w3 ⟨rfl, hb3⟩
        have R3 := hide (R2.out.below hb3)
        clear R2
        have K3 := hide (K2.out.trans (hb3.mono K2.out.size))
        clear hb3 K2 S2 d1
        go_wp2_with fail
        refine (d2.out _ _ R3.out).mono ?_
        rintro e w4 ⟨rfl, hb4⟩
        have K4 := hide (K3.out.trans (hb4.mono K3.out.size))
        clear hb4 K3 R3 d2
        go_wp2_with (go_at_call 11; refine blives.mono ?_; rintro e w5 ⟨rfl, hb5⟩)
        go_ret
        exact ⟨rfl, K4.out.trans (hb5.mono K4.out.size)⟩
      · have c2 := hide (fun w : World => six_no (w := w) rfl hb (by omega) (fun xs h => hy ⟨xs, h⟩))
        clear hy hb hl hbig
        go_enter Try.func7, Try.ntmps7
        go_wp2_with fail
        refine (c1.out _).mono ?_
        rintro e w1 ⟨v1, rfl, ho1, hb1⟩
        have R1 := hide (breads_of_own rfl ho1)
        clear ho1
        clear c1
        go_wp2_with fail
        refine (c2.out _).mono ?_
        rintro e w2 ⟨rfl, hb2⟩
        have K2 := hide (hb1.trans (hb2.mono hb1.size))
        have S2 := hide (R1.out.below hb2)
        clear R1
        clear c2 hb1 hb2
        go_wp2_with fail
        refine (d1.out _ _ S2.out).mono ?_
        rintro e w3 ⟨rfl, hb3⟩
        have K3 := hide (K2.out.trans (hb3.mono K2.out.size))
        clear hb3 K2 S2 d1
        go_wp2_with (go_at_call 11; refine blives.mono ?_; rintro e w5 ⟨rfl, hb5⟩)
        go_ret
        exact ⟨rfl, K3.out.trans (hb5.mono K3.out.size)⟩
    · have c1 := hide (fun w : World => hex_no (w := w) rfl hb (by omega) (fun xs h => hx ⟨xs, h⟩))
      clear hx
      by_cases hy : ∃ ys, SixOf es ys
      · obtain ⟨ys, hy⟩ := hy
        have ly := b64_len ys
        rw [hy.2] at ly
        have c2 := hide (fun w : World => six_yes (w := w) rfl hb (by omega) hy)
        have d2 := hide (fun (w : World) (v : Value) (h : Reads .u8 w v ys) => base64_any h hy.1 (by omega))
        rw [hy.2] at d2
        clear hy hb hl ly hbig
        go_enter Try.func7, Try.ntmps7
        go_wp2_with fail
        refine (c1.out _).mono ?_
        rintro e w1 ⟨rfl, hb1⟩
        clear c1
        go_wp2_with fail
        refine (c2.out _).mono ?_
        rintro e w2 ⟨v2, rfl, ho2, hb2⟩
        have R2 := hide (breads_of_own rfl ho2)
        clear ho2
        have K2 := hide (hb1.trans (hb2.mono hb1.size))
        clear c2 hb1 hb2
        have R3 := R2
        clear R2
        go_wp2_with fail
        refine (d2.out _ _ R3.out).mono ?_
        rintro e w4 ⟨rfl, hb4⟩
        have K4 := hide (K2.out.trans (hb4.mono K2.out.size))
        clear hb4 K2 R3 d2
        go_wp2_with (go_at_call 11; refine blives.mono ?_; rintro e w5 ⟨rfl, hb5⟩)
        go_ret
        exact ⟨rfl, K4.out.trans (hb5.mono K4.out.size)⟩
      · have c2 := hide (fun w : World => six_no (w := w) rfl hb (by omega) (fun xs h => hy ⟨xs, h⟩))
        clear hy hb hl hbig
        go_enter Try.func7, Try.ntmps7
        go_wp2_with fail
        refine (c1.out _).mono ?_
        rintro e w1 ⟨rfl, hb1⟩
        clear c1
        go_wp2_with fail
        refine (c2.out _).mono ?_
        rintro e w2 ⟨rfl, hb2⟩
        have K2 := hide (hb1.trans (hb2.mono hb1.size))
        clear c2 hb1 hb2
        go_wp2_with (go_at_call 11; refine blives.mono ?_; rintro e w5 ⟨rfl, hb5⟩)
        go_ret
        exact ⟨rfl, K2.out.trans (hb5.mono K2.out.size)⟩

end Go.Proofs.Ytnblpmjgehknaaa
