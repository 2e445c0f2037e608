/- EcmaLayouts: the walk -/
import Derived.Test.YthnpndlobhgdhaaGreatDoorR32
namespace Go.Proofs.YthnpndlobhgdhaaGreatDoor
open Go.RowKit
set_option linter.unusedVariables false
set_option linter.unusedSimpArgs false

set_option maxRecDepth 100000 in
set_option maxHeartbeats 8000000 in
theorem elays_walk {w : World} {a : Nat → Addr} (h : Ew w a) {ng : Bool} {s : ByteArray} {es : List Int} {n : Int} (hb : Byt es) (hs : s = strOfNums es) (hl : es.length ≤ 140737488355328) (n0 : -9223372036854775808 ≤ n) (n1 : n ≤ 9223372036854775807) :
    Calls Tryz.prog 3 #[.agg #[.bool ng, .string s, .int .i64 n]] w fun e w' => e = .returned (.bool true) ∧ Below w.heap.size w w' := by
  have hsz : s.size = es.length := by rw [hs, strOfNums_size]
  have C := cell3_new w (.bool ng) (.string s) (.int .i64 n) 23
  have KA := bel_new w (.cells #[.bool ng, .string s, .int .i64 n] 23)
  obtain ⟨b, hb0⟩ : ∃ b, w.heap.size = b := ⟨_, rfl⟩
  obtain ⟨w1, hw1⟩ : ∃ q, w.alloc (.cells #[.bool ng, .string s, .int .i64 n] 23) = q := ⟨_, rfl⟩
  rw [hw1] at C KA
  rw [hb0] at C
  have HE := hide (h.below KA)
  have HC := hide C
  have HK := hide KA
  have HS := hide hs
  have HB := hide hb
  have c0 := C.c0
  have c1 := C.c1
  have c2 := C.c2
  have HW := hide (And.intro hb0 hw1)
  clear C KA hb0 hw1 hs hb h
  go_enter Tryz.func3, Tryz.ntmps3
  go_upto_region 1 with fail
  simp only [HW.out.2]
  simp only [HW.out.1]
  clear HW
  by_cases hq : 1048576 < es.length
  · have q : (1048576 : Int) < (s.size : Int) := by omega
    go_wp2
    go_ret
    exact ⟨rfl, HK.out⟩
  · have q : ¬ (1048576 : Int) < (s.size : Int) := by omega
    go_wp2_with fail
    with_reducible refine (rlayout_any n0 n1 HB.out HS.out (by omega)).mono ?_
    rintro e w2 ⟨l8, K2⟩
    replace HC := hide (HC.out.below K2)
    replace HE := hide (HE.out.below K2)
    replace HK := hide (below_trans HK.out K2)
    have hsm : es.length ≤ 70368744177664 := by omega
    clear c0 c1 c2 K2 q hsz hl hq
    have c0 := HC.out.c0
    have c1 := HC.out.c1
    have c2 := HC.out.c2
    cases hbr : bareB es with
    | false =>
      obtain rfl := l8.1 hbr
      have HL := hide (fun W : World => layout_no (w := W) (ng := ng) (n := n) HB.out HS.out (by omega) hbr)
      clear l8 hbr hsm
      go_wp2_with fail
      with_reducible refine (HL.out _).mono ?_
      rintro e w3 ⟨rfl, K3⟩
      replace HE := hide (HE.out.below K3)
      replace HK := hide (below_trans HK.out K3)
      clear K3 HL c0 c1 c2
      go_wp2_with fail
      with_reducible refine (lives8_any HE.out).mono ?_
      rintro e w4 ⟨rfl, K4⟩
      replace HK := hide (below_trans HK.out K4)
      clear K4
      go_wp2
      go_ret
      exact ⟨rfl, HK.out⟩
    | true =>
      obtain rfl := l8.2 hbr
      have HL := hide (layout_yes (w := w2) (ng := ng) n0 n1 HB.out HS.out hsm hbr HE.out.P HE.out.g)
      obtain ⟨tx, htx⟩ : ∃ t, strOfNums (layoutT ng es n) = t := ⟨_, rfl⟩
      rw [htx] at HL ⊢
      clear l8 hbr hsm htx
      go_wp2_with fail
      with_reducible refine HL.out.mono ?_
      rintro e w3 ⟨rfl, K3⟩
      replace HE := hide (HE.out.below K3)
      replace HK := hide (below_trans HK.out K3)
      clear K3 HL c0 c1 c2
      go_wp2_with fail
      with_reducible refine (lives8_any HE.out).mono ?_
      rintro e w4 ⟨rfl, K4⟩
      replace HK := hide (below_trans HK.out K4)
      clear K4
      go_wp2
      go_ret
      exact ⟨rfl, HK.out⟩

end Go.Proofs.YthnpndlobhgdhaaGreatDoor
