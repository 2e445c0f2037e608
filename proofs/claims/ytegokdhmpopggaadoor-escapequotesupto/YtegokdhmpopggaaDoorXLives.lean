/- the laws of layer 10: lives, EscapeBack -/
import Derived.Test.YtegokdhmpopggaaDoorXErrB
import Derived.Test.YtegokdhmpopggaaDoorXScanB
import Derived.Test.YtegokdhmpopggaaDoorXQuo
import Derived.Test.YtegokdhmpopggaaDoorXOk
namespace Go.Proofs.YtegokdhmpopggaaDoor
open Go.RowKit
set_option linter.unusedVariables false

/-- all that a law of layer 10 leans on -/
structure Lvs (w : World) (a : Nat → Addr) : Prop where
  tab : Tab w
  snt : Snt w a
  hnd : Hnd w
theorem Lvs.below {w w' : World} {a : Nat → Addr} (h : Lvs w a) (hb : Below w.heap.size w w') : Lvs w' a := ⟨h.tab.below h.tab.1 hb, h.snt.below hb, h.hnd.below hb⟩

set_option maxHeartbeats 4000000 in
set_option maxRecDepth 100000 in
theorem lives10 {w : World} {a : Nat → Addr} (h : Lvs w a) : Calls Tryd.prog 17 #[] w fun e w' => e = .returned (.bool true) ∧ Below w.heap.size w w' := by
  have H := hide h
  have HQ := hide (quote_any (w := w) (s := ⟨#[97, 10, 195, 169]⟩) (ls := uFlat [97, 10, 233]) (ps := [97, 10, 233]) (t := []) (uFlat_byt (fun p hp => by simp at hp; rcases hp with rfl | rfl | rfl <;> decide)) (by decide +kernel) (by decide) (by decide +kernel) (USplit.text (fun p hp => by simp at hp; rcases hp with rfl | rfl | rfl <;> decide)) h.tab)
  rw [show strOfNums (if ([] : List Int).isEmpty = true then xQ (uFlat [97, 10, 233]) else []) = ⟨#[34, 97, 92, 110, 195, 169, 34]⟩ by decide +kernel, show ([] : List Int).isEmpty = true by rfl] at HQ
  have HU := hide (fun (W : World) (hb : Below w.heap.size w W) => unquote_any (w := W) (a := a) (s := ⟨#[34, 97, 92, 117, 48, 48, 48, 97, 92, 117, 48, 48, 69, 57, 34]⟩) (ls := [34, 97, 92, 117, 48, 48, 48, 97, 92, 117, 48, 48, 69, 57, 34]) (fun x hx => by simp at hx; omega) (by decide +kernel) (by decide) (H.out.below hb).snt (H.out.below hb).tab)
  have HB := hide (fun (W : World) (hb : Below w.heap.size w W) => unquote_any (w := W) (a := a) (s := ⟨#[34, 92, 117, 100, 56, 51, 100, 120, 34]⟩) (ls := [34, 92, 117, 100, 56, 51, 100, 120, 34]) (fun x hx => by simp at hx; omega) (by decide +kernel) (by decide) (H.out.below hb).snt (H.out.below hb).tab)
  have x1 : xRun .start [34, 97, 92, 117, 48, 48, 48, 97, 92, 117, 48, 48, 69, 57, 34] [] 0 = .ok [97, 10, 195, 169] 15 := by decide +kernel
  have x2 : xRun .start [34, 92, 117, 100, 56, 51, 100, 120, 34] [] 0 = .bad 7 := by decide +kernel
  clear h
  go_enter Tryd.func17, Tryd.ntmps17
  go_wp2_with fail
  refine HQ.out.mono ?_
  rintro e w1 ⟨rfl, b1⟩
  have K1 := hide b1
  clear b1
  go_wp2_with fail
  refine (HU.out w1 K1.out).mono ?_
  rintro e w2 ⟨hI, b2⟩
  have K2 := hide (K1.out.trans (b2.mono K1.out.size))
  clear b2
  rcases hI with ⟨t, hx, rfl⟩ | ⟨t, n, v, hx, hn, rfl, hf⟩ | ⟨n, v, hx, hn, rfl, hf⟩
  · rw [x1] at hx
    cases hx
    rw [show strOfNums [97, 10, 195, 169] = ⟨#[97, 10, 195, 169]⟩ by decide +kernel]
    go_wp2_with fail
    refine (HB.out w2 K2.out).mono ?_
    rintro e w3 ⟨hI, b3⟩
    have K3 := hide (K2.out.trans (b3.mono K2.out.size))
    clear b3
    rcases hI with ⟨t, hx, rfl⟩ | ⟨t, n, v, hx, hn, rfl, hf⟩ | ⟨n, v, hx, hn, rfl, hf⟩
    · rw [x2] at hx; cases hx
    · rw [x2] at hx; cases hx
    · rw [x2] at hx
      cases hx
      have HF := hide hf
      have HC := hide (isAt_flt (j := 7) (H.out.below K3.out).snt (H.out.below K3.out).hnd hf)
      rw [show decide (((7 : Nat) : Int) = 7) = true by decide] at HC
      clear hf hn x1 x2
      go_wp2_with fail
      refine HC.out.mono ?_
      rintro e w4 ⟨rfl, b4⟩
      have K4 := hide (K3.out.trans (b4.mono K3.out.size))
      clear b4
      go_wp2
      go_ret
      exact ⟨rfl, K4.out⟩
  · rw [x1] at hx; cases hx; simp at hn
  · rw [x1] at hx; cases hx

end Go.Proofs.YtegokdhmpopggaaDoor
