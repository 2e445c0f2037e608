/- EScan, EVal, EKn, EBld, ELay, TNear, TBulk -/
import Derived.Test.YtfnfnkakaggmbabGreatDoorJStr
import Derived.Deep.LoopGhost
import Derived.Test.YtfnfnkakaggmbabGreatDoorIeee
import Derived.Deep.Cut
import Derived.Deep.RegionHeld3
import Derived.Lib.Bytealg
import Derived.Laws.RangeString
import Derived.Test.YtfnfnkakaggmbabGreatDoorJAll
import Derived.Test.YtfnfnkakaggmbabGreatDoorKit
import Derived.Shelf.Strings.Builder1
import Derived.Test.YtfnfnkakaggmbabGreatDoorSDw
import Derived.Test.YtfnfnkakaggmbabGreatDoorILaid
import Derived.LaidSub
import Derived.Deep.DeepHandedRow
namespace Go.Proofs.YtfnfnkakaggmbabGreatDoor
open Go.RowKit
set_option linter.unusedVariables false

/-- is it a digit's byte? -/
def isD (c : Int) : Bool := decide (48 ≤ c) && decide (c ≤ 57)
theorem eisDigit_any {w : World} {c : Int} (h0 : 0 ≤ c) (h1 : c < 256) : Calls Tryz.prog 37 #[.int .u8 c] w fun e w' => e = .returned (.bool (isD c)) ∧ w' = w := by
  unfold isD
  by_cases h : 48 ≤ c
  · have f1 : ¬ c < 48 := by omega
    rw [decide_eq_true h]
    by_cases h2 : c ≤ 57
    · have f2 : ¬ 57 < c := by omega
      rw [decide_eq_true h2]
      go_enter Tryz.func37, Tryz.ntmps37
      go_wp2
      go_ret
      exact ⟨rfl, rfl⟩
    · have f2 : 57 < c := by omega
      rw [decide_eq_false h2]
      go_enter Tryz.func37, Tryz.ntmps37
      go_wp2
      go_ret
      exact ⟨rfl, rfl⟩
  · have f1 : c < 48 := by omega
    rw [decide_eq_false h]
    go_enter Tryz.func37, Tryz.ntmps37
    go_wp2
    go_ret
    exact ⟨rfl, rfl⟩
/-- the places at which a number may end -/
def fin8 (p : Nat) : Bool := p == 2 || p == 3 || p == 4 || p == 8
theorem mayEnd_any {w : World} {p : Nat} (h : p ≤ 8) : Calls Tryz.prog 38 #[.int .i64 p] w fun e w' => e = .returned (.bool (fin8 p)) ∧ w' = w := by
  match p, h with
  | 0, _ | 1, _ | 2, _ | 3, _ | 4, _ | 5, _ | 6, _ | 7, _ | 8, _ =>
    go_enter Tryz.func38, Tryz.ntmps38
    go_wp2
    go_ret
    exact ⟨rfl, rfl⟩

/-- one step -/
def nx (p : Nat) (c : Int) : Nat :=
  if p = 0 ∧ c = 45 then 1
  else if p ≤ 1 then (if isD c then (if c = 48 then 2 else 3) else 9)
  else if p ≤ 4 then (if p = 2 ∧ isD c then 9 else if p ≤ 3 ∧ c = 46 then 5 else if c = 101 ∨ c = 69 then 6 else if isD c then p else 9)
  else if p = 5 then (if isD c then 4 else 9)
  else if p = 6 ∧ (c = 43 ∨ c = 45) then 7
  else (if isD c then 8 else 9)
def scG : List Int → Nat → Nat → Nat × Bool
  | [], k, p => (k, fin8 p)
  | c :: r, k, p => if nx p c = 9 then (k, false) else scG r (k + 1) (nx p c)
theorem drop_lb {es : List Int} {k : Nat} (h : k < es.length) : es.drop k = Nt.lb es k :: es.drop (k + 1) := by
  rw [List.drop_eq_getElem_cons h]
  simp [Nt.lb, h]
theorem sc_go {es : List Int} {k q q' : Nat} {c : Int} {R : Nat × Bool} (h : R = scG (es.drop k) k q) (hk : k < es.length) (hc : Nt.lb es k = c) (hn : nx q c = q') (h9 : q' ≠ 9) : R = scG (es.drop (k + 1)) (k + 1) q' := by
  rw [h, drop_lb hk, scG, hc, hn, if_neg h9]
theorem sc_stop {es : List Int} {k q : Nat} {c : Int} {R : Nat × Bool} (h : R = scG (es.drop k) k q) (hk : k < es.length) (hc : Nt.lb es k = c) (hn : nx q c = 9) : R = (k, false) := by
  rw [h, drop_lb hk, scG, hc, if_pos hn]
theorem sc_end {es : List Int} {k q : Nat} {R : Nat × Bool} (h : R = scG (es.drop k) k q) (hk : es.length ≤ k) : R = (k, fin8 q) := by
  rw [h, List.drop_of_length_le hk, scG]

set_option maxRecDepth 100000 in
set_option maxHeartbeats 16000000 in
theorem scan_any {w : World} {s : ByteArray} {es : List Int} (hb : Byt es) (hs : s = strOfNums es) (hl : es.length ≤ 9223372036854775807) :
    Calls Tryz.prog 19 #[.string s] w fun e w' => e = .returned (.tuple #[.int .i64 ((scG es 0 0).1 : Nat), .bool (scG es 0 0).2]) ∧ w' = w := by
  have hsz : s.size = es.length := by rw [hs, strOfNums_size]
  have Hix := hide (show ∀ p (h : p < s.size), (((s[p]'h).toNat : Nat) : Int) = Nt.lb es p from fun p h => by subst hs; exact txt_at h hb)
  have HB := hide (show ∀ p, p < es.length → 0 ≤ Nt.lb es p ∧ Nt.lb es p < 256 from fun p h => hb _ (lb_in h))
  obtain ⟨L, hL⟩ : ∃ L, es.length = L := ⟨_, rfl⟩
  obtain ⟨R, hR⟩ : ∃ R, scG es 0 0 = R := ⟨_, rfl⟩
  have HS0 := hide (show R = scG (es.drop 0) 0 0 by rw [← hR]; rfl)
  rw [hR]
  rw [hL] at hsz hl
  have HL := hide hL
  clear hs hb hL hR
  go_enter Tryz.func19, Tryz.ntmps19
  go_wp2; go_step3; go_wp2; go_step3; go_wp2
  go_loopg [2, 4] L (fun c i p wr => ∃ k q : Nat, k ≤ L ∧ q ≤ 8 ∧ c = L - k ∧ i = .int .i64 k ∧ p = .int .i64 q ∧ Hid (R = scG (es.drop k) k q) ∧ w = wr)
  case atStart => exact ⟨0, 0, by omega, by omega, rfl, rfl, rfl, HS0, rfl⟩
  case round =>
    obtain ⟨k, q, hk, hq, hgk, rfl, rfl, HR, hw⟩ := hrel
    subst hw
    by_cases hkl : k < L
    · have hps : k < s.size := by omega
      have hx := Hix.out k hps
      have hb9 := HB.out k (by rw [HL.out]; exact hkl)
      obtain ⟨c, hc⟩ : ∃ c, Nt.lb es k = c := ⟨_, rfl⟩
      have HC := hide hc
      have HK := hide (show k < es.length by rw [HL.out]; exact hkl)
      rw [hc] at hx hb9
      obtain ⟨x0, x1⟩ := hb9
      have q4 : (k : Int) < (L : Int) := by omega
      have q5 : ((k : Int) == (L : Int)) = false := beq_eq_false_iff_ne.2 (by omega)
      clear hc
      have hq9 : q = 0 ∨ q = 1 ∨ q = 2 ∨ q = 3 ∨ q = 4 ∨ q = 5 ∨ q = 6 ∨ q = 7 ∨ q = 8 := by omega
      clear hq
      rcases hq9 with rfl | rfl | rfl | rfl | rfl | rfl | rfl | rfl | rfl
      · by_cases h45 : c = 45
        · subst h45
          go_wp2
          go_roundg (L - (k + 1))
          case measure => omega
          case rel => exact ⟨k + 1, 1, by omega, by omega, rfl, by simp, rfl, hide (sc_go HR.out HK.out HC.out (q' := 1) (by decide) (by omega)), rfl⟩
        · have e45 : (c == 45) = false := beq_eq_false_iff_ne.2 h45
          cases hd : isD c with
          | true =>
            have hD : isD c = true := hd
            by_cases h48 : c = 48
            · subst h48
              go_wp2_with fail
              refine (eisDigit_any (c := 48) (by omega) (by omega)).mono ?_
              rintro e w1 ⟨rfl, rfl⟩
              rw [show isD 48 = true from rfl]
              go_wp2
              go_roundg (L - (k + 1))
              case measure => omega
              case rel => exact ⟨k + 1, 2, by omega, by omega, rfl, by simp, rfl, hide (sc_go HR.out HK.out HC.out (q' := 2) (by decide) (by omega)), rfl⟩
            · have e48 : (c == 48) = false := beq_eq_false_iff_ne.2 h48
              go_wp2_with fail
              refine (eisDigit_any x0 x1).mono ?_
              rintro e w1 ⟨rfl, rfl⟩
              rw [hD]
              go_wp2
              go_roundg (L - (k + 1))
              case measure => omega
              case rel => exact ⟨k + 1, 3, by omega, by omega, rfl, by simp, rfl, hide (sc_go HR.out HK.out HC.out (q' := 3) (by simp [nx, hd, h48, h45]) (by omega)), rfl⟩
          | false =>
            have hD : isD c = false := hd
            go_wp2_with fail
            refine (eisDigit_any x0 x1).mono ?_
            rintro e w1 ⟨rfl, rfl⟩
            rw [hD]
            have HF := hide (sc_stop HR.out HK.out HC.out (by simp [nx, hd, h45]))
            go_wp2
            (try rw [Exit.noGoto_ret])
            go_ret2
            exact ⟨by rw [HF.out]; rfl, rfl⟩
      · cases hd : isD c with
        | true =>
          have hD : isD c = true := hd
          by_cases h48 : c = 48
          · subst h48
            go_wp2_with fail
            refine (eisDigit_any (c := 48) (by omega) (by omega)).mono ?_
            rintro e w1 ⟨rfl, rfl⟩
            rw [show isD 48 = true from rfl]
            go_wp2
            go_roundg (L - (k + 1))
            case measure => omega
            case rel => exact ⟨k + 1, 2, by omega, by omega, rfl, by simp, rfl, hide (sc_go HR.out HK.out HC.out (q' := 2) (by decide) (by omega)), rfl⟩
          · have e48 : (c == 48) = false := beq_eq_false_iff_ne.2 h48
            go_wp2_with fail
            refine (eisDigit_any x0 x1).mono ?_
            rintro e w1 ⟨rfl, rfl⟩
            rw [hD]
            go_wp2
            go_roundg (L - (k + 1))
            case measure => omega
            case rel => exact ⟨k + 1, 3, by omega, by omega, rfl, by simp, rfl, hide (sc_go HR.out HK.out HC.out (q' := 3) (by simp [nx, hd, h48]) (by omega)), rfl⟩
        | false =>
          have hD : isD c = false := hd
          go_wp2_with fail
          refine (eisDigit_any x0 x1).mono ?_
          rintro e w1 ⟨rfl, rfl⟩
          rw [hD]
          have HF := hide (sc_stop HR.out HK.out HC.out (by simp [nx, hd]))
          go_wp2
          (try rw [Exit.noGoto_ret])
          go_ret2
          exact ⟨by rw [HF.out]; rfl, rfl⟩
      · cases hd : isD c with
        | true =>
          have hD : isD c = true := hd
          go_wp2_with fail
          refine (eisDigit_any x0 x1).mono ?_
          rintro e w1 ⟨rfl, rfl⟩
          rw [hD]
          have HF := hide (sc_stop HR.out HK.out HC.out (by simp [nx, hd]))
          go_wp2
          (try rw [Exit.noGoto_ret])
          go_ret2
          exact ⟨by rw [HF.out]; rfl, rfl⟩
        | false =>
          have hD : isD c = false := hd
          by_cases h46 : c = 46
          · subst h46
            go_wp2_with fail
            refine (eisDigit_any (c := 46) (by omega) (by omega)).mono ?_
            rintro e w1 ⟨rfl, rfl⟩
            rw [show isD 46 = false from rfl]
            go_wp2
            go_roundg (L - (k + 1))
            case measure => omega
            case rel => exact ⟨k + 1, 5, by omega, by omega, rfl, by simp, rfl, hide (sc_go HR.out HK.out HC.out (q' := 5) (by decide) (by omega)), rfl⟩
          · have e46 : (c == 46) = false := beq_eq_false_iff_ne.2 h46
            by_cases h101 : c = 101
            · subst h101
              go_wp2_with fail
              refine (eisDigit_any (c := 101) (by omega) (by omega)).mono ?_
              rintro e w1 ⟨rfl, rfl⟩
              rw [show isD 101 = false from rfl]
              go_wp2
              go_roundg (L - (k + 1))
              case measure => omega
              case rel => exact ⟨k + 1, 6, by omega, by omega, rfl, by simp, rfl, hide (sc_go HR.out HK.out HC.out (q' := 6) (by decide) (by omega)), rfl⟩
            · have e101 : (c == 101) = false := beq_eq_false_iff_ne.2 h101
              by_cases h69 : c = 69
              · subst h69
                go_wp2_with fail
                refine (eisDigit_any (c := 69) (by omega) (by omega)).mono ?_
                rintro e w1 ⟨rfl, rfl⟩
                rw [show isD 69 = false from rfl]
                go_wp2
                go_roundg (L - (k + 1))
                case measure => omega
                case rel => exact ⟨k + 1, 6, by omega, by omega, rfl, by simp, rfl, hide (sc_go HR.out HK.out HC.out (q' := 6) (by decide) (by omega)), rfl⟩
              · have e69 : (c == 69) = false := beq_eq_false_iff_ne.2 h69
                go_wp2_with fail
                refine (eisDigit_any x0 x1).mono ?_
                rintro e w1 ⟨rfl, rfl⟩
                rw [hD]
                go_wp2_with fail
                refine (eisDigit_any x0 x1).mono ?_
                rintro e w1 ⟨rfl, rfl⟩
                rw [hD]
                have HF := hide (sc_stop HR.out HK.out HC.out (by simp [nx, hd, h46, h101, h69]))
                go_wp2
                (try rw [Exit.noGoto_ret])
                go_ret2
                exact ⟨by rw [HF.out]; rfl, rfl⟩
      · by_cases h46 : c = 46
        · subst h46
          go_wp2
          go_roundg (L - (k + 1))
          case measure => omega
          case rel => exact ⟨k + 1, 5, by omega, by omega, rfl, by simp, rfl, hide (sc_go HR.out HK.out HC.out (q' := 5) (by decide) (by omega)), rfl⟩
        · have e46 : (c == 46) = false := beq_eq_false_iff_ne.2 h46
          by_cases h101 : c = 101
          · subst h101
            go_wp2
            go_roundg (L - (k + 1))
            case measure => omega
            case rel => exact ⟨k + 1, 6, by omega, by omega, rfl, by simp, rfl, hide (sc_go HR.out HK.out HC.out (q' := 6) (by decide) (by omega)), rfl⟩
          · have e101 : (c == 101) = false := beq_eq_false_iff_ne.2 h101
            by_cases h69 : c = 69
            · subst h69
              go_wp2
              go_roundg (L - (k + 1))
              case measure => omega
              case rel => exact ⟨k + 1, 6, by omega, by omega, rfl, by simp, rfl, hide (sc_go HR.out HK.out HC.out (q' := 6) (by decide) (by omega)), rfl⟩
            · have e69 : (c == 69) = false := beq_eq_false_iff_ne.2 h69
              cases hd : isD c with
              | true =>
                have hD : isD c = true := hd
                go_wp2_with fail
                refine (eisDigit_any x0 x1).mono ?_
                rintro e w1 ⟨rfl, rfl⟩
                rw [hD]
                go_wp2
                go_roundg (L - (k + 1))
                case measure => omega
                case rel => exact ⟨k + 1, 3, by omega, by omega, rfl, by simp, rfl, hide (sc_go HR.out HK.out HC.out (q' := 3) (by simp [nx, hd, h46, h101, h69]) (by omega)), rfl⟩
              | false =>
                have hD : isD c = false := hd
                go_wp2_with fail
                refine (eisDigit_any x0 x1).mono ?_
                rintro e w1 ⟨rfl, rfl⟩
                rw [hD]
                have HF := hide (sc_stop HR.out HK.out HC.out (by simp [nx, hd, h46, h101, h69]))
                go_wp2
                (try rw [Exit.noGoto_ret])
                go_ret2
                exact ⟨by rw [HF.out]; rfl, rfl⟩
      · by_cases h101 : c = 101
        · subst h101
          go_wp2
          go_roundg (L - (k + 1))
          case measure => omega
          case rel => exact ⟨k + 1, 6, by omega, by omega, rfl, by simp, rfl, hide (sc_go HR.out HK.out HC.out (q' := 6) (by decide) (by omega)), rfl⟩
        · have e101 : (c == 101) = false := beq_eq_false_iff_ne.2 h101
          by_cases h69 : c = 69
          · subst h69
            go_wp2
            go_roundg (L - (k + 1))
            case measure => omega
            case rel => exact ⟨k + 1, 6, by omega, by omega, rfl, by simp, rfl, hide (sc_go HR.out HK.out HC.out (q' := 6) (by decide) (by omega)), rfl⟩
          · have e69 : (c == 69) = false := beq_eq_false_iff_ne.2 h69
            cases hd : isD c with
            | true =>
              have hD : isD c = true := hd
              go_wp2_with fail
              refine (eisDigit_any x0 x1).mono ?_
              rintro e w1 ⟨rfl, rfl⟩
              rw [hD]
              go_wp2
              go_roundg (L - (k + 1))
              case measure => omega
              case rel => exact ⟨k + 1, 4, by omega, by omega, rfl, by simp, rfl, hide (sc_go HR.out HK.out HC.out (q' := 4) (by simp [nx, hd, h101, h69]) (by omega)), rfl⟩
            | false =>
              have hD : isD c = false := hd
              go_wp2_with fail
              refine (eisDigit_any x0 x1).mono ?_
              rintro e w1 ⟨rfl, rfl⟩
              rw [hD]
              have HF := hide (sc_stop HR.out HK.out HC.out (by simp [nx, hd, h101, h69]))
              go_wp2
              (try rw [Exit.noGoto_ret])
              go_ret2
              exact ⟨by rw [HF.out]; rfl, rfl⟩
      · cases hd : isD c with
        | true =>
          have hD : isD c = true := hd
          go_wp2_with fail
          refine (eisDigit_any x0 x1).mono ?_
          rintro e w1 ⟨rfl, rfl⟩
          rw [hD]
          go_wp2
          go_roundg (L - (k + 1))
          case measure => omega
          case rel => exact ⟨k + 1, 4, by omega, by omega, rfl, by simp, rfl, hide (sc_go HR.out HK.out HC.out (q' := 4) (by simp [nx, hd]) (by omega)), rfl⟩
        | false =>
          have hD : isD c = false := hd
          go_wp2_with fail
          refine (eisDigit_any x0 x1).mono ?_
          rintro e w1 ⟨rfl, rfl⟩
          rw [hD]
          have HF := hide (sc_stop HR.out HK.out HC.out (by simp [nx, hd]))
          go_wp2
          (try rw [Exit.noGoto_ret])
          go_ret2
          exact ⟨by rw [HF.out]; rfl, rfl⟩
      · by_cases h43 : c = 43
        · subst h43
          go_wp2
          go_roundg (L - (k + 1))
          case measure => omega
          case rel => exact ⟨k + 1, 7, by omega, by omega, rfl, by simp, rfl, hide (sc_go HR.out HK.out HC.out (q' := 7) (by decide) (by omega)), rfl⟩
        · have e43 : (c == 43) = false := beq_eq_false_iff_ne.2 h43
          by_cases h45 : c = 45
          · subst h45
            go_wp2
            go_roundg (L - (k + 1))
            case measure => omega
            case rel => exact ⟨k + 1, 7, by omega, by omega, rfl, by simp, rfl, hide (sc_go HR.out HK.out HC.out (q' := 7) (by decide) (by omega)), rfl⟩
          · have e45 : (c == 45) = false := beq_eq_false_iff_ne.2 h45
            cases hd : isD c with
            | true =>
              have hD : isD c = true := hd
              go_wp2_with fail
              refine (eisDigit_any x0 x1).mono ?_
              rintro e w1 ⟨rfl, rfl⟩
              rw [hD]
              go_wp2
              go_roundg (L - (k + 1))
              case measure => omega
              case rel => exact ⟨k + 1, 8, by omega, by omega, rfl, by simp, rfl, hide (sc_go HR.out HK.out HC.out (q' := 8) (by simp [nx, hd, h43, h45]) (by omega)), rfl⟩
            | false =>
              have hD : isD c = false := hd
              go_wp2_with fail
              refine (eisDigit_any x0 x1).mono ?_
              rintro e w1 ⟨rfl, rfl⟩
              rw [hD]
              have HF := hide (sc_stop HR.out HK.out HC.out (by simp [nx, hd, h43, h45]))
              go_wp2
              (try rw [Exit.noGoto_ret])
              go_ret2
              exact ⟨by rw [HF.out]; rfl, rfl⟩
      · cases hd : isD c with
        | true =>
          have hD : isD c = true := hd
          go_wp2_with fail
          refine (eisDigit_any x0 x1).mono ?_
          rintro e w1 ⟨rfl, rfl⟩
          rw [hD]
          go_wp2
          go_roundg (L - (k + 1))
          case measure => omega
          case rel => exact ⟨k + 1, 8, by omega, by omega, rfl, by simp, rfl, hide (sc_go HR.out HK.out HC.out (q' := 8) (by simp [nx, hd]) (by omega)), rfl⟩
        | false =>
          have hD : isD c = false := hd
          go_wp2_with fail
          refine (eisDigit_any x0 x1).mono ?_
          rintro e w1 ⟨rfl, rfl⟩
          rw [hD]
          have HF := hide (sc_stop HR.out HK.out HC.out (by simp [nx, hd]))
          go_wp2
          (try rw [Exit.noGoto_ret])
          go_ret2
          exact ⟨by rw [HF.out]; rfl, rfl⟩
      · cases hd : isD c with
        | true =>
          have hD : isD c = true := hd
          go_wp2_with fail
          refine (eisDigit_any x0 x1).mono ?_
          rintro e w1 ⟨rfl, rfl⟩
          rw [hD]
          go_wp2
          go_roundg (L - (k + 1))
          case measure => omega
          case rel => exact ⟨k + 1, 8, by omega, by omega, rfl, by simp, rfl, hide (sc_go HR.out HK.out HC.out (q' := 8) (by simp [nx, hd]) (by omega)), rfl⟩
        | false =>
          have hD : isD c = false := hd
          go_wp2_with fail
          refine (eisDigit_any x0 x1).mono ?_
          rintro e w1 ⟨rfl, rfl⟩
          rw [hD]
          have HF := hide (sc_stop HR.out HK.out HC.out (by simp [nx, hd]))
          go_wp2
          (try rw [Exit.noGoto_ret])
          go_ret2
          exact ⟨by rw [HF.out]; rfl, rfl⟩
    · have hke : k = L := by omega
      subst hke
      have HF := hide (sc_end HR.out (by rw [HL.out]; exact Nat.le_refl _))
      go_wp2_with fail
      refine (mayEnd_any hq).mono ?_
      rintro e w1 ⟨rfl, rfl⟩
      go_wp2
      (try rw [Exit.noGoto_ret])
      go_ret2
      exact ⟨by rw [HF.out]; rfl, rfl⟩

end Go.Proofs.YtfnfnkakaggmbabGreatDoor

namespace Go.Proofs.YtfnfnkakaggmbabGreatDoor
open Go.RowKit
set_option linter.unusedVariables false

theorem results_cell1 {fn : Func} {p : Tmp} {ty : TypeId} (h : fn.results = #[.cell p ty]) (tmps : Array Value) (P : Program) (w : World) :
    (results fn tmps).run P w = ((asAddr (tmps.getD p undef)).run P w).andThen fun a w₁ => (loadVar ty a).run P w₁ := by
  simp only [results, h]
  simp [Sem.run_bind, Result.andThen]
theorem eHas {w : World} : Calls Tryz.prog 112 #[.string ⟨#[48, 46, 49]⟩, .string ⟨#[45]⟩] w fun e w' => e = .returned (.bool false) ∧ w' = w := by
  have x1 : (⟨#[48, 46, 49]⟩ : ByteArray).extract 0 1 = ⟨#[48]⟩ := by decide
  go_enter Tryz.func112, Tryz.ntmps112
  go_wp2
  go_ret
  exact ⟨rfl, rfl⟩
theorem eCut0 {w : World} : Calls Tryz.prog 77 #[.string ⟨#[48, 46, 49]⟩, .string ⟨#[45]⟩] w fun e w' => e = .returned (.tuple #[.string ⟨#[48, 46, 49]⟩, .bool false]) ∧ w' = w := by
  go_enter Tryz.func77, Tryz.ntmps77
  go_wp2_with fail
  refine eHas.mono ?_
  rintro e w1 ⟨rfl, rfl⟩
  go_wp2
  go_ret2
  exact ⟨rfl, rfl⟩
theorem eCut1 {w : World} : Calls Tryz.prog 39 #[.string ⟨#[48, 46, 49]⟩, .string ⟨#[45]⟩] w fun e w' => e = .returned (.tuple #[.string ⟨#[48, 46, 49]⟩, .bool false]) ∧ w' = w := by
  go_enter Tryz.func39, Tryz.ntmps39
  go_wp2_with fail
  refine eCut0.mono ?_
  rintro e w1 ⟨rfl, rfl⟩
  go_wp2
  go_ret2
  exact ⟨rfl, rfl⟩
theorem eAscN {w : World} {n : Nat} (h : n ≤ 8) : Calls Tryz.prog 79 #[.int .i64 n] w fun e w' => e = .returned (.bool false) ∧ w' = w := by
  have f : ¬ (8 : Int) < (n : Int) := by omega
  go_enter Tryz.func79, Tryz.ntmps79
  go_wp2
  go_ret
  exact ⟨rfl, rfl⟩
theorem eAsc {w : World} : Calls Tryz.prog 79 #[.int .i64 3] w fun e w' => e = .returned (.bool false) ∧ w' = w := by
  go_enter Tryz.func79, Tryz.ntmps79
  go_wp2
  go_ret
  exact ⟨rfl, rfl⟩
set_option maxHeartbeats 1000000 in
set_option maxRecDepth 100000 in
theorem eIb0 {w : World} {s : ByteArray} {c : Int} : Calls Tryz.prog 150 #[.string s, .int .u8 c] w fun e w' => e = .returned (.int .i64 (Lib.indexByte s.data.toList c.toNat.toUInt8)) ∧ w' = w := by
  go_enter Tryz.func150, Tryz.ntmps150
  go_wp2
  rw [run_callFunc_extern Tryz.func163 (by kernel_rfl) (by kernel_rfl) (by kernel_rfl) (e := Extern.BytealgIndexByte.indexByte) (by kernel_rfl), Lib.run_indexByteString]
  simp only [Result.andThen]
  rw [Oper.upon_value]
  go_wp2
  go_ret
  exact ⟨rfl, rfl⟩
theorem eIb0t {w : World} {s : ByteArray} {c r : Int} (h : Lib.indexByte s.data.toList c.toNat.toUInt8 = r) : Calls Tryz.prog 150 #[.string s, .int .u8 c] w fun e w' => e = .returned (.int .i64 r) ∧ w' = w := by
  subst h
  exact eIb0
theorem eIb {w : World} {s : ByteArray} {c : Int} : Calls Tryz.prog 113 #[.string s, .int .u8 c] w fun e w' => e = .returned (.int .i64 (Lib.indexByte s.data.toList c.toNat.toUInt8)) ∧ w' = w := by
  go_enter Tryz.func113, Tryz.ntmps113
  go_wp2_with fail
  refine eIb0.mono ?_
  rintro e w1 ⟨rfl, rfl⟩
  go_wp2
  go_ret
  exact ⟨rfl, rfl⟩
set_option maxHeartbeats 1000000 in
set_option maxRecDepth 100000 in
theorem eIr {w : World} {c : Int} (h0 : 0 ≤ c) (h1 : c < 128) (he : c ≠ 101) (hE : c ≠ 69) : Calls Tryz.prog 78 #[.string ⟨#[101, 69]⟩, .int .i32 c] w fun e w' => e = .returned (.int .i64 (-1)) ∧ w' = w := by
  have hi : Lib.indexByte [101, 69] c.toNat.toUInt8 = -1 := by
    have a : ((101 : UInt8) == c.toNat.toUInt8) = false := beq_eq_false_iff_ne.2 (fun e => he (by have := congrArg UInt8.toNat e; simp at this; omega))
    have b : ((69 : UInt8) == c.toNat.toUInt8) = false := beq_eq_false_iff_ne.2 (fun e => hE (by have := congrArg UInt8.toNat e; simp at this; omega))
    rw [Lib.indexByte, Lib.indexByte, Lib.indexByte]
    simp [a, b]
  have HI := hide hi
  have f1 : ¬ c < 0 := by omega
  have hw : IntKind.u8.wrap c = c := by rw [IntKind.wrap_u8]; omega
  clear hi
  go_enter Tryz.func78, Tryz.ntmps78
  go_wp2_with fail
  refine eIb.mono ?_
  rintro e w1 ⟨rfl, rfl⟩
  rw [show (⟨#[101, 69]⟩ : ByteArray).data.toList = [101, 69] from rfl, HI.out]
  go_wp2
  go_ret
  exact ⟨rfl, rfl⟩

set_option maxHeartbeats 4000000 in
set_option maxRecDepth 100000 in
theorem eIa {w : World} {s : ByteArray} {es : List Int} (hb : ∀ x ∈ es, 0 ≤ x ∧ x < 128 ∧ x ≠ 101 ∧ x ≠ 69) (hs : s = strOfNums es) (hl : es.length ≤ 8) :
    Calls Tryz.prog 40 #[.string s, .string ⟨#[101, 69]⟩] w fun e w' => e = .returned (.int .i64 (-1)) ∧ Below w.heap.size w w' := by
  have hby : Byt es := fun x hx => by have := hb x hx; omega
  have hsz : s.size = es.length := by rw [hs, strOfNums_size]
  have Hix := hide (show ∀ p (h : p < s.size), (((s[p]'h).toNat : Nat) : Int) = Nt.lb es p from fun p h => by subst hs; exact txt_at h hby)
  have HB := hide (show ∀ p, p < es.length → 0 ≤ Nt.lb es p ∧ Nt.lb es p < 128 ∧ Nt.lb es p ≠ 101 ∧ Nt.lb es p ≠ 69 from fun p h => hb _ (lb_in h))
  obtain ⟨L, hL⟩ : ∃ L, es.length = L := ⟨_, rfl⟩
  rw [hL] at hsz hl
  have HL := hide hL
  have HK := hide (show ∀ k, Below w.heap.size w (w.iter s k) from fun k => (Below.refl _ _).alloc (Nat.le_refl _) _)
  have f8 : ¬ (8 : Int) < (L : Int) := by omega
  clear hs hb hby hL
  go_enter Tryz.func40, Tryz.ntmps40
  go_wp2_with fail
  refine (eAscN (n := L) (by omega)).mono ?_
  rintro e w1 ⟨rfl, rfl⟩
  go_wp2
  go_loopg [] L (fun c wr => ∃ k : Nat, k ≤ L ∧ c = L - k ∧ w1.iter s k = wr)
  case atStart => exact ⟨0, by omega, rfl, rfl⟩
  case round =>
    obtain ⟨k, hk, hgk, hw⟩ := hrel
    subst hw
    by_cases hkl : k < L
    · have hps : k < s.size := by omega
      have hx := Hix.out k hps
      obtain ⟨x0, x1, x2, x3⟩ := HB.out k (by rw [HL.out]; exact hkl)
      obtain ⟨c, hc⟩ : ∃ c, Nt.lb es k = c := ⟨_, rfl⟩
      rw [hc] at hx x0 x1 x2 x3
      have hnx : ∀ ty, (Instr.next (.pointer (some ⟨w1.heap.size, 0, none⟩)) true ty).run Tryz.prog (w1.iter s k) = .ok (.tuple #[.bool true, .int .i64 k, .int .i32 c]) (w1.iter s (k + 1)) := fun ty => by
        rw [run_next_ascii w1 s k ty hps (by omega), hx]
      clear hx hc
      go_wp2_with fail
      refine (eIr x0 x1 x2 x3).mono ?_
      rintro e w2 ⟨rfl, rfl⟩
      go_wp2
      go_roundg (L - (k + 1))
      case measure => omega
      case rel => exact ⟨k + 1, by omega, rfl, rfl⟩
    · have hke : k = L := by omega
      subst hke
      have hnx : ∀ ty, (Instr.next (.pointer (some ⟨w1.heap.size, 0, none⟩)) true ty).run Tryz.prog (w1.iter s k) = .ok (.tuple #[.bool false]) (w1.iter s k) := fun ty => run_next_end w1 s k ty (by omega)
      go_wp2
      go_ret
      exact ⟨rfl, HK.out k⟩

set_option maxHeartbeats 1000000 in
set_option maxRecDepth 100000 in
theorem eIx {w : World} : Calls Tryz.prog 118 #[.string ⟨#[48, 46, 49]⟩, .string ⟨#[46]⟩] w fun e w' => e = .returned (.int .i64 1) ∧ w' = w := by
  go_enter Tryz.func118, Tryz.ntmps118
  go_wp2_with fail
  refine (eIb0t (r := 1) (by rfl)).mono ?_
  rintro e w1 ⟨rfl, rfl⟩
  go_wp2
  go_ret
  exact ⟨rfl, rfl⟩
set_option maxHeartbeats 1000000 in
set_option maxRecDepth 100000 in
theorem eCt0 {w : World} : Calls Tryz.prog 83 #[.string ⟨#[48, 46, 49]⟩, .string ⟨#[46]⟩] w fun e w' => e = .returned (.tuple #[.string ⟨#[48]⟩, .string ⟨#[49]⟩, .bool true]) ∧ Below w.heap.size w w' := by
  have x1 : (⟨#[48, 46, 49]⟩ : ByteArray).extract 0 1 = ⟨#[48]⟩ := by decide
  have x2 : (⟨#[48, 46, 49]⟩ : ByteArray).extract 2 3 = ⟨#[49]⟩ := by decide
  have HK := hide (show Below w.heap.size w w.drew from (Below.refl _ _).drew)
  go_enter Tryz.func83, Tryz.ntmps83
  go_wp2_with fail
  refine eIx.mono ?_
  rintro e w1 ⟨rfl, rfl⟩
  go_upto_region 3 with fail
  go_region
  go_wp2
  go_ret3
  exact ⟨rfl, HK.out⟩
theorem eCt {w : World} : Calls Tryz.prog 42 #[.string ⟨#[48, 46, 49]⟩, .string ⟨#[46]⟩] w fun e w' => e = .returned (.tuple #[.string ⟨#[48]⟩, .string ⟨#[49]⟩, .bool true]) ∧ Below w.heap.size w w' := by
  go_enter Tryz.func42, Tryz.ntmps42
  go_wp2_with fail
  refine eCt0.mono ?_
  rintro e w1 ⟨rfl, hb⟩
  go_wp2
  go_ret3
  exact ⟨rfl, hb⟩

set_option maxHeartbeats 4000000 in
set_option maxRecDepth 100000 in
theorem eVal {w : World} : Calls Tryz.prog 20 #[.string ⟨#[48, 46, 49]⟩] w fun e w' => e = .returned (.agg #[.bool false, .string ⟨#[48, 49]⟩, .int .i64 1]) ∧ Below w.heap.size w w' := by
  have K0 : Below w.heap.size w (w.alloc (.cells #[.bool false, .string ⟨#[]⟩, .int .i64 0] 32)) := (Below.refl _ _).alloc (Nat.le_refl _) _
  have C := cell3_new w (.bool false) (.string ⟨#[]⟩) (.int .i64 0) 32
  have F0 : ∀ i, (w.alloc (.cells #[.bool false, .string ⟨#[]⟩, .int .i64 0] 32)).frozen? ⟨w.heap.size, i, none⟩ = false := fun i => World.frozen?_alloc_at _ _ _ _ rfl
  have xj : (⟨#[48]⟩ : ByteArray) ++ ⟨#[49]⟩ = ⟨#[48, 49]⟩ := by decide
  have HA := hide (show ∀ W : World, _ from fun W => eIa (w := W) (es := [48, 46, 49]) (s := ⟨#[48, 46, 49]⟩) (by intro x hx; simp at hx; omega) rfl (by simp))
  go_enter Tryz.func20, Tryz.ntmps20
  go_wp2_with fail
  refine eCut1.mono ?_
  rintro e w1 ⟨rfl, rfl⟩
  go_wp2_with fail
  refine (HA.out _).mono ?_
  clear HA
  rintro e w2 ⟨rfl, b1⟩
  go_wp2_with fail
  refine eCt.mono ?_
  rintro e w3 ⟨rfl, b2⟩
  have b12 := below_trans b1 b2
  have D := C.below b12
  have f0 := (b12.frozen (p := ⟨w.heap.size, 0, none⟩) (by simp)).trans (F0 0)
  have f1 := (b12.frozen (p := ⟨w.heap.size, 1, none⟩) (by simp)).trans (F0 1)
  have f2 := (b12.frozen (p := ⟨w.heap.size, 2, none⟩) (by simp)).trans (F0 2)
  have c0 := D.c0; have c1 := D.c1; have c2 := D.c2
  have K2 := below_trans K0 b12
  clear b1 b2 b12 D C F0 K0
  go_wp2
  (try simp only [Exit.inBlock, Exit.then])
  refine bodyPost_ret (v := .agg #[.bool false, .string ⟨#[48, 49]⟩, .int .i64 1]) (by rw [results_cell1 rfl]; go_simp) rfl ?_
  exact ⟨rfl, ((K2.setCell (p := ⟨w.heap.size, 0, none⟩) (Nat.le_refl _) _).setCell (p := ⟨w.heap.size, 1, none⟩) (Nat.le_refl _) _).setCell (p := ⟨w.heap.size, 2, none⟩) (Nat.le_refl _) _⟩

end Go.Proofs.YtfnfnkakaggmbabGreatDoor

namespace Go.Proofs.YtfnfnkakaggmbabGreatDoor
open Go.RowKit
set_option linter.unusedVariables false

/-- a tenth's pattern is the nearest one -/
theorem tenth_dv : DV 4503599627370496 (-1074) 9218868437227405312 (dg [48, 49]) (1 - (2 : Nat)) 4591870180066957722 := by
  unfold DV
  rw [show dg [48, 49] = 1 by decide]
  refine ⟨by decide, by decide, fun _ => ?_, fun _ => ?_⟩
  · rw [mid2_at (by decide) (by decide)]; unfold tn; decide +kernel
  · rw [show (4591870180066957722 - 1 : Int) = 4591870180066957721 by decide, mid2_at (by decide) (by decide)]; unfold tn; decide +kernel
theorem eRead {w : World} (T : Lays w) : Calls Tryz.prog 7 #[.string ⟨#[48, 46, 49]⟩] w fun e w' => e = .returned (.tuple #[.int .u64 4591870180066957722, .nilIface]) ∧ Below w.heap.size w w' := by
  have hsc : scG [48, 46, 49] 0 0 = (3, true) := by decide
  have HSC := hide (show ∀ W : World, _ from fun W => scan_any (w := W) (es := [48, 46, 49]) (s := ⟨#[48, 46, 49]⟩) (by intro x hx; simp at hx; omega) rfl (by simp))
  rw [hsc] at HSC
  have D01 : Dgt [48, 49] := fun y hy => by simp at hy; omega
  have HD := hide (show ∀ W : World, Lays W → _ from fun W TW => dread_d (w := W) (es := [48, 49]) (s := ⟨#[48, 49]⟩) (N := 2) (ng := false) (P := 1) TW D01.byt rfl rfl (by omega) (by omega) (by omega))
  clear hsc
  go_enter Tryz.func7, Tryz.ntmps7
  go_wp2_with fail
  refine (HSC.out _).mono ?_
  clear HSC
  rintro e w1 ⟨rfl, rfl⟩
  go_wp2_with fail
  refine eVal.mono ?_
  rintro e w2 ⟨rfl, b1⟩
  go_wp2_with fail
  refine (HD.out _ (T.below b1)).mono ?_
  clear HD
  rintro x w3 ⟨b2, ⟨h, rfl⟩ | ⟨h, r, rfl, hv⟩⟩
  · exact absurd D01 h
  have hr : r = 4591870180066957722 := dv_first wide_d hv tenth_dv
  subst hr
  clear hv h D01
  have b12 := below_trans b1 b2
  go_wp2_with fail
  refine (class_64 (T.below b12) 4591870180066957722 4591870180066957722 (by decide) (by decide) (by decide)).mono ?_
  rintro e w4 ⟨rfl, b3⟩
  rw [show cls 9223372036854775808 4503599627370496 4591870180066957722 = 3 by decide]
  have K := below_trans b12 b3
  clear b1 b2 b12 b3
  go_wp2
  go_ret2
  exact ⟨rfl, K⟩

end Go.Proofs.YtfnfnkakaggmbabGreatDoor

namespace Go.Proofs.YtfnfnkakaggmbabGreatDoor
open Go.RowKit
set_option linter.unusedVariables false

theorem bsz : (Tryz.prog.info? 94).map (·.size) = some 2 := by kernel_rfl
set_option maxHeartbeats 1000000 in
set_option maxRecDepth 100000 in
theorem bchk_used {b : Nat} {w : World} (h0 : w.cell? ⟨b, 0, none⟩ = some (.pointer (some ⟨b, 0, none⟩))) :
    Calls Tryz.prog 84 #[.pointer (some ⟨b, 0, none⟩)] w fun e w' => e = .returned (.tuple #[]) ∧ w' = w := by
  obtain ⟨j, hj, _⟩ := Option.map_eq_some_iff.1 bsz
  go_enter Tryz.func84, Tryz.ntmps84
  go_wp2
  rw [Lib.run_neq_ptr_same w _ Tryz.underlying92 hj]
  go_wp2
  go_end0
  exact ⟨rfl, rfl⟩
set_option maxHeartbeats 1000000 in
set_option maxRecDepth 100000 in
theorem bchk_new {b : Nat} {w : World} (h0 : w.cell? ⟨b, 0, none⟩ = some (.pointer none)) (hsh : w.shape? b = some (94, 2)) (hfz : w.frozen? ⟨b, 0, none⟩ = false) :
    Calls Tryz.prog 84 #[.pointer (some ⟨b, 0, none⟩)] w fun e w' => e = .returned (.tuple #[]) ∧ w' = w.setCell ⟨b, 0, none⟩ (.pointer (some ⟨b, 0, none⟩)) := by
  obtain ⟨j, hj, hjs⟩ := Option.map_eq_some_iff.1 bsz
  go_enter Tryz.func84, Tryz.ntmps84
  go_wp2
  rw [Lib.run_to_unsafe w ⟨b, 0, none⟩ Tryz.underlying92 Tryz.underlying169 hj (by rw [hjs]; decide) hsh (Nat.zero_lt_succ 1)]
  simp only [Result.andThen]
  rw [Oper.upon_value]
  go_wp2
  rw [run_callFunc_extern Tryz.func119 (by kernel_rfl) (by kernel_rfl) (by kernel_rfl) (e := Extern.AbiNoEscape.same) (by kernel_rfl)]
  rw [Lib.run_noEscape]
  simp only [Result.andThen]
  rw [Oper.upon_value]
  go_wp2
  rw [Lib.run_from_unsafe w ⟨b, 0, none⟩ Tryz.underlying169 Tryz.underlying92 hj hsh (by kernel_rfl)]
  simp only [Result.andThen]
  rw [Oper.upon_value]
  go_wp2
  go_end0
  exact ⟨rfl, rfl⟩
theorem bchk {B b : Nat} {bs : List Value} {w : World} (h : Lib.IsBuilder 94 5 B b bs w) :
    Calls Tryz.prog 84 #[.pointer (some ⟨b, 0, none⟩)] w fun e w' => e = .returned (.tuple #[]) ∧ (Lib.BuilderAt 94 5 B b (.pointer (some ⟨b, 0, none⟩)) bs w' ∧ Below B w w') := by
  rcases h with h | h
  · refine (bchk_new h.cell0 h.shape h.frozen0).mono ?_
    rintro e w' ⟨rfl, rfl⟩
    exact ⟨rfl, h.used _, (Below.refl B w).setCell (p := ⟨b, 0, none⟩) h.1 _⟩
  · refine (bchk_used h.cell0).mono ?_
    rintro e w' ⟨rfl, rfl⟩
    exact ⟨rfl, h, Below.refl B _⟩

theorem binf : (Tryz.prog.info? 5).map (fun i => (i.zero, i.size, i.bytes)) = some (some (.int .u8 0), 1, 1) := by kernel_rfl
set_option maxHeartbeats 2000000 in
set_option maxRecDepth 100000 in
theorem bstr {B b : Nat} {bs : List Value} {s : ByteArray} {w : World} (h : Lib.IsBuilder 94 5 B b bs w) (hlen : bs.length + s.size ≤ 140737488355328) (hBw : B ≤ w.heap.size) :
    Calls Tryz.prog 85 #[.pointer (some ⟨b, 0, none⟩), .string s] w fun e w' => e = .returned (.tuple #[.int .i64 s.size, .nilIface]) ∧ (Lib.IsBuilder 94 5 B b (bs ++ Lib.strCells s) w' ∧ Below B w w') := by
  obtain ⟨i0, hi, hz0, hz1, hz2⟩ := info_parts binf
  go_enter Tryz.func85, Tryz.ntmps85
  go_wp2_with fail
  refine (bchk h).mono ?_
  rintro e w1 ⟨rfl, h1, hb1⟩
  obtain ⟨hB, v, hbk, hown, hne⟩ := h1
  have c0 : w1.cell? ⟨b, 0, none⟩ = some (.pointer (some ⟨b, 0, none⟩)) := by rw [Lib.cell_of_heap hbk]; rfl
  have c1 : w1.cell? ⟨b, 1, none⟩ = some v := by rw [Lib.cell_of_heap hbk]; rfl
  go_wp2_with (at_builtin; refine Lib.wpList_append_own_string _ rfl _ _ 73 9 rfl B 5 i0 Tryz.underlying73 Tryz.underlying9 hi hz0 hz1 hz2 _ _ _ rfl hown s rfl ?c3 ?c4 ?c5 ?_)
  case c3 => unfold maxLen; omega
  case c4 => omega
  case c5 => have := hb1.size; omega
  intro v' w2 hown' hgrow _
  have hlt : b < w1.heap.size := (Array.getElem?_eq_some_iff.1 hbk).1
  have hb2 : w2.heap[b]? = some (.cells #[.pointer (some ⟨b, 0, none⟩), v] 94 (0, 0)) := by
    rw [hgrow.block b hlt (fun e => hne e.symm)]
    exact hbk
  have d0 : w2.cell? ⟨b, 0, none⟩ = some (.pointer (some ⟨b, 0, none⟩)) := by rw [Lib.cell_of_heap hb2]; rfl
  have d1 : w2.cell? ⟨b, 1, none⟩ = some v := by rw [Lib.cell_of_heap hb2]; rfl
  have f1 : w2.frozen? ⟨b, 1, none⟩ = false := Lib.frozen_of_heap hb2 1
  obtain ⟨ao, n', cap, rfl⟩ : ∃ ao n' cap, v' = .slice ao n' cap := by
    rcases hown'.2 with ⟨hv, _⟩ | ⟨g, cap, cur, hv, _⟩
    · exact ⟨_, _, _, hv⟩
    · exact ⟨_, _, _, hv⟩
  go_wp2
  go_ret2
  refine ⟨rfl, Or.inr ?_, ?_⟩
  · exact Lib.BuilderAt.put (T := 94) (e := 5) hB hb2 (bs' := bs ++ Lib.strCells s) (by simpa [Lib.strCells_length] using hown') (by decide)
  · exact (hb1.grown hgrow (by have := hb1.size; omega) (fun k hk => (hown.lt k hk).1)).setCell (p := ⟨b, 1, none⟩) hB _
def lays_ren : Go.Shelf.Ren := ⟨fun | 169 => 48 | n => n, fun | 70 => 92 | 9 => 9 | 0 => 0 | 72 => 94 | 37 => 73 | 127 => 143 | 3 => 3 | 5 => 5 | n => n, fun | n => n⟩
theorem lays169 : Go.Proofs.Lays.n169 Tryz.prog lays_ren := {
  mixed := by kernel_rfl
  f169 := Tryz.func48.trans (congrArg some (by kernel_rfl))
  t0 := Tryz.underlying0
  a0 := Tryz.isAgg0
  z0 := Tryz.sizeOf0
  v0 := Tryz.zeroValue0
  t3 := Tryz.underlying3
  a3 := Tryz.isAgg3
  z3 := Tryz.sizeOf3
  v3 := Tryz.zeroValue3
  t9 := Tryz.underlying9
  a9 := Tryz.isAgg9
  z9 := Tryz.sizeOf9
  v9 := Tryz.zeroValue9
  t37 := Tryz.underlying73
  a37 := Tryz.isAgg73
  z37 := Tryz.sizeOf73
  v37 := Tryz.zeroValue73
  t70 := Tryz.underlying92
  a70 := Tryz.isAgg92
  z70 := Tryz.sizeOf92
  v70 := Tryz.zeroValue92
  t72 := Tryz.underlying94
  a72 := Tryz.isAgg94
  z72 := Tryz.sizeOf94
  v72 := Tryz.zeroValue94
  t127 := Tryz.underlying143
  a127 := Tryz.isAgg143
  z127 := Tryz.sizeOf143
  v127 := Tryz.zeroValue143 }
theorem laysX : Builder.Extra Tryz.prog lays_ren := {
  sizeBuilder := by kernel_rfl
  liesBuilder := by kernel_rfl
  t5 := Tryz.underlying5
  a5 := Tryz.isAgg5
  z5 := Tryz.sizeOf5
  v5 := Tryz.zeroValue5
  infoByte := by kernel_rfl
  cellsByte := by kernel_rfl
  sizeByte := by kernel_rfl
  neB5 := by decide }
theorem bstring {B b : Nat} {l : List UInt8} {w : World} (h : Lib.IsBuilder 94 5 B b (Lib.byteCells l) w) (hBw : B ≤ w.heap.size) :
    Calls Tryz.prog 48 #[.pointer (some ⟨b, 0, none⟩)] w fun e w' => e = .returned (.string ⟨l.toArray⟩) ∧ Below B w w' := Any.Builder_String_any lays169 laysX B b l w h hBw

end Go.Proofs.YtfnfnkakaggmbabGreatDoor

namespace Go.Proofs.YtfnfnkakaggmbabGreatDoor
open Go.RowKit
set_option linter.unusedVariables false

set_option maxHeartbeats 1000000 in
set_option maxRecDepth 100000 in
theorem eBare {w : World} : Calls Tryz.prog 45 #[.string ⟨#[49]⟩] w fun e w' => e = .returned (.bool true) ∧ w' = w := by
  go_enter Tryz.func45, Tryz.ntmps45
  go_wp2
  go_loopg [21] 1 (fun c i wr => ∃ k : Nat, k ≤ 1 ∧ c = 1 - k ∧ i = .int .i64 k ∧ w = wr)
  case atStart => exact ⟨0, by omega, rfl, rfl, rfl⟩
  case round =>
    obtain ⟨k, hk, hgk, rfl, hw⟩ := hrel
    subst hw
    by_cases hkl : k = 0
    · subst hkl
      go_wp2_with fail
      refine (eisDigit_any (c := 49) (by omega) (by omega)).mono ?_
      rintro e w1 ⟨rfl, rfl⟩
      rw [show isD 49 = true from rfl]
      go_wp2
      go_roundg 0
      case measure => omega
      case rel => exact ⟨1, by omega, rfl, rfl, rfl⟩
    · have hk1 : k = 1 := by omega
      subst hk1
      go_wp2
      go_ret
      exact ⟨rfl, rfl⟩
set_option maxHeartbeats 1000000 in
set_option maxRecDepth 100000 in
theorem eNo0 {w : World} {b : Nat} : Calls Tryz.prog 86 #[.pointer (some ⟨b, 0, none⟩), .int .i64 0] w fun e w' => e = .returned (.tuple #[]) ∧ w' = w := by
  go_enter Tryz.func86, Tryz.ntmps86
  go_wp2
  go_loopg [5] 0 (fun c i wr => i = .int .i64 0 ∧ w = wr)
  case atStart => exact ⟨rfl, rfl⟩
  case round =>
    obtain ⟨rfl, hw⟩ := hrel
    subst hw
    go_wp2
    go_end0
    exact ⟨rfl, rfl⟩
set_option maxHeartbeats 2000000 in
set_option maxRecDepth 100000 in
theorem eSz {w : World} {B b : Nat} (h : Lib.IsBuilder 94 5 B b [] w) (hBw : B ≤ w.heap.size) : Calls Tryz.prog 47 #[.pointer (some ⟨b, 0, none⟩), .string ⟨#[49]⟩, .int .i64 0] w fun e w' => e = .returned (.tuple #[]) ∧ Lib.IsBuilder 94 5 B b (Lib.byteCells [48, 46, 49]) w' ∧ Below B w w' := by
  go_enter Tryz.func47, Tryz.ntmps47
  go_wp2_with fail
  refine (bstr h (by simp; decide) hBw).mono ?_
  rintro e w1 ⟨rfl, h1, b1⟩
  have s1 := b1.size
  go_wp2_with fail
  refine eNo0.mono ?_
  rintro e w2 ⟨rfl, rfl⟩
  go_wp2_with fail
  refine (bstr h1 (by decide) (by omega)).mono ?_
  rintro e w3 ⟨rfl, h2, b2⟩
  have K := b1.trans b2
  clear b1 b2 s1
  go_wp2
  go_end0
  exact ⟨rfl, h2, K⟩

set_option maxHeartbeats 4000000 in
set_option maxRecDepth 100000 in
theorem eLay {w : World} : Calls Tryz.prog 22 #[.agg #[.bool false, .string ⟨#[49]⟩, .int .i64 0]] w fun e w' => e = .returned (.tuple #[.string ⟨#[48, 46, 49]⟩, .bool true]) ∧ Below w.heap.size w w' := by
  have K0 : Below w.heap.size w (w.alloc (.cells #[.bool false, .string ⟨#[49]⟩, .int .i64 0] 32)) := (Below.refl _ _).alloc (Nat.le_refl _) _
  have C := cell3_new w (.bool false) (.string ⟨#[49]⟩) (.int .i64 0) 32
  have z1 : (w.alloc (.cells #[.bool false, .string ⟨#[49]⟩, .int .i64 0] 32)).heap.size = w.heap.size + 1 := by simp
  have HF := hide (Lib.fresh_isBuilder 94 5 (w.alloc (.cells #[.bool false, .string ⟨#[49]⟩, .int .i64 0] 32)))
  have C1 := C.below (bel_new _ (.cells #[.pointer none, .slice none 0 0] 94))
  have K1 := below_trans K0 (bel_new _ (.cells #[.pointer none, .slice none 0 0] 94))
  rw [z1] at HF
  have HC1 := hide C1
  have HK1 := hide K1
  have c0 := C.c0; have c1 := C.c1; have c2 := C.c2
  clear C C1 K0 K1 z1
  go_enter Tryz.func22, Tryz.ntmps22
  go_wp2_with fail
  refine eBare.mono ?_
  rintro e w1 ⟨rfl, rfl⟩
  clear c0 c1 c2
  have c0 := HC1.out.c0; have c1 := HC1.out.c1; have c2 := HC1.out.c2
  go_wp2_with fail
  refine (eSz HF.out (by simp)).mono ?_
  rintro e w2 ⟨rfl, h2, b2⟩
  have s2 := b2.size
  have KK := HK1.out
  have s1 : w.heap.size + 1 ≤ w2.heap.size := by simp at s2; omega
  go_wp2_with fail
  refine (bstring h2 s1).mono ?_
  rintro e w3 ⟨rfl, b3⟩
  have K := KK.trans ((b2.trans b3).mono (Nat.le_succ _))
  clear b2 b3 KK
  go_wp2
  go_ret2
  exact ⟨rfl, K⟩
set_option maxHeartbeats 4000000 in
set_option maxRecDepth 100000 in
theorem eShow {w : World} (T : Lays w) (U : Brn w) : Calls Tryz.prog 10 #[.int .u64 4591870180066957722] w fun e w' => e = .returned (.string ⟨#[48, 46, 49]⟩) ∧ Below w.heap.size w w' := by
  go_enter Tryz.func10, Tryz.ntmps10
  go_wp2_with fail
  refine (class_64 T 4591870180066957722 4591870180066957722 (by decide) (by decide) (by decide)).mono ?_
  rintro e w1 ⟨rfl, b1⟩
  rw [show cls 9223372036854775808 4503599627370496 4591870180066957722 = 3 by decide]
  go_wp2_with fail
  refine (digits_d (T.below b1) (U.below b1) 4591870180066957722 4591870180066957722 false (by decide) (by decide) (by decide) (by decide)).mono ?_
  rintro r w2 ⟨v, ok, rfl, dg, b2⟩
  obtain ⟨rfl, rfl⟩ := dg_tenth dg
  clear dg
  have C := cell3_new w2 (.bool false) (.string ⟨#[49]⟩) (.int .i64 0) 32
  have K := below_trans (below_trans b1 b2) (bel_new w2 (.cells #[.bool false, .string ⟨#[49]⟩, .int .i64 0] 32))
  have c0 := C.c0; have c1 := C.c1; have c2 := C.c2
  clear b1 b2 C
  go_wp2_with fail
  refine eLay.mono ?_
  rintro e w3 ⟨rfl, b3⟩
  have KK := below_trans K b3
  clear K b3
  go_wp2
  go_ret
  exact ⟨rfl, KK⟩
set_option maxHeartbeats 4000000 in
set_option maxRecDepth 100000 in
theorem known08_any {w : World} (T : Lays w) (U : Brn w) : Calls Tryz.prog 11 #[] w fun e w' => e = .returned (.bool true) ∧ Below w.heap.size w w' := by
  go_enter Tryz.func11, Tryz.ntmps11
  go_wp2_with fail
  refine (eRead T).mono ?_
  rintro e w1 ⟨rfl, b1⟩
  go_wp2_with fail
  refine (eShow (T.below b1) (U.below b1)).mono ?_
  rintro e w2 ⟨rfl, b2⟩
  have K := below_trans b1 b2
  clear b1 b2
  go_wp2
  go_ret
  exact ⟨rfl, K⟩

end Go.Proofs.YtfnfnkakaggmbabGreatDoor

namespace Go.Proofs.YtfnfnkakaggmbabGreatDoor
open Go.RowKit
set_option linter.unusedVariables false

theorem exv_dv {F L I s pt : Int} {ds : List Int} (W : Wide F L I) (h : ExV F L s ds pt) (s0 : 0 ≤ s) (s1 : s < I) : DV F L I (dg ds) (pt - ds.length) s := by
  have f0 := W.f0
  have e := h.2.2.2.2.2.2
  unfold DV
  rw [e]
  have T := tn_pos (-(pt - (ds.length : Int))).toNat
  generalize tn (-(pt - (ds.length : Int))).toNat = D at *
  refine ⟨s0, by omega, fun _ => ?_, fun hr => ?_⟩
  · have g := um_lt (F := F) (L := L) (B := L) (s := s) (by omega) s0 (by omega)
    have g2 := Int.mul_lt_mul_of_pos_right g T
    unfold mid2
    rw [Int.add_mul]
    exact ⟨by omega, fun e => by omega⟩
  · have g := um_lt (F := F) (L := L) (B := L) (s := s - 1) (by omega) (by omega) (by omega)
    have g2 := Int.mul_lt_mul_of_pos_right g T
    unfold mid2
    rw [Int.add_mul]
    rw [Int.sub_add_cancel] at g2 ⊢
    exact ⟨by omega, fun e => by omega⟩
theorem tri_range (x y : Int) : -1 ≤ tri x y ∧ tri x y ≤ 1 := by unfold tri; split; omega; split <;> omega
theorem tri_le {x y : Int} (h : x ≤ y) : tri x y ≤ 0 := by unfold tri; split; omega; split <;> omega
theorem tri_ge {x y : Int} (h : y ≤ x) : 0 ≤ tri x y := by unfold tri; split; omega; split <;> omega
theorem cmpC_range (S F x y : Int) : -1 ≤ cmpC S F x y ∧ cmpC S F x y ≤ 1 := by
  unfold cmpC
  have := tri_range (rk S x) (rk S y)
  split
  · split <;> omega
  · omega
theorem rk_of {S r : Int} {ng : Bool} (h0 : 0 ≤ r) (h1 : r < S) : rk S (r + b2i ng * S) = (if ng then S - 1 - r else r + S) ∧ (r + b2i ng * S) % S = r := by
  cases ng
  · rw [show b2i false = 0 from rfl, Int.zero_mul, Int.add_zero]
    exact ⟨by unfold rk; rw [if_pos h1]; rfl, Int.emod_eq_of_lt h0 h1⟩
  · rw [show b2i true = 1 from rfl, Int.one_mul]
    refine ⟨by unfold rk; rw [if_neg (by omega)]; show _ = S - 1 - r; omega, ?_⟩
    rw [Int.add_emod_right, Int.emod_eq_of_lt h0 h1]
/-- reading keeps the order -/
theorem rises_math {F L I S D1 q r1 D2 q' r2 : Int} {ng ng' : Bool} (W : Wide F L I) (hS : S - F = I) (d1 : 0 ≤ D1) (d2 : 0 ≤ D2) (v1 : DV F L I D1 q r1) (v2 : DV F L I D2 q' r2) :
    (dcmp (sgv ng D1) q (sgv ng' D2) q' < 0 → cmpC S F (r1 + b2i ng * S) (r2 + b2i ng' * S) ≤ 0) ∧ (0 < dcmp (sgv ng D1) q (sgv ng' D2) q' → 0 ≤ cmpC S F (r1 + b2i ng * S) (r2 + b2i ng' * S)) ∧
    (dcmp (sgv ng D1) q (sgv ng' D2) q' = 0 → cmpC S F (r1 + b2i ng * S) (r2 + b2i ng' * S) = 0) := by
  have f0 := W.f0
  have i0 := W.i0
  have a0 := v1.1
  have a1 := v1.2.1
  have b0 := v2.1
  have b1 := v2.2.1
  obtain ⟨k1, m1⟩ := rk_of (S := S) (ng := ng) a0 (by omega)
  obtain ⟨k2, m2⟩ := rk_of (S := S) (ng := ng') b0 (by omega)
  have le1 : D1 * tn (q.toNat + (-q').toNat) ≤ D2 * tn (q'.toNat + (-q).toNat) → r1 ≤ r2 := fun h => dv_cross (by omega) v1 v2 h
  have le2 : D2 * tn (q'.toNat + (-q).toNat) ≤ D1 * tn (q.toNat + (-q').toNat) → r2 ≤ r1 := fun h => dv_cross (by omega) v2 v1 h
  have z1 : D1 = 0 → r1 = 0 := fun h => by subst h; exact dv_first W v1 (dv_zero W)
  have z2 : D2 = 0 → r2 = 0 := fun h => by subst h; exact dv_first W v2 (dv_zero W)
  have T := tn_pos (q.toNat + (-q').toNat)
  have U := tn_pos (q'.toNat + (-q).toNat)
  unfold dcmp
  rw [sgv_mul, sgv_mul]
  have x0 : 0 ≤ D1 * tn (q.toNat + (-q').toNat) := Int.mul_nonneg d1 (by omega)
  have y0 : 0 ≤ D2 * tn (q'.toNat + (-q).toNat) := Int.mul_nonneg d2 (by omega)
  have xz : D1 * tn (q.toNat + (-q').toNat) = 0 → D1 = 0 := fun h => by rcases Int.mul_eq_zero.1 h with h | h; exact h; omega
  have yz : D2 * tn (q'.toNat + (-q).toNat) = 0 → D2 = 0 := fun h => by rcases Int.mul_eq_zero.1 h with h | h; exact h; omega
  generalize D1 * tn (q.toNat + (-q').toNat) = x at *
  generalize D2 * tn (q'.toNat + (-q).toNat) = y at *
  have sl : ∀ {a b : Int}, sgn a b < 0 → a < b := fun {a b} h => by unfold sgn at h; by_cases c : a < b; exact c; rw [if_neg c] at h; split at h <;> omega
  have sg : ∀ {a b : Int}, 0 < sgn a b → b < a := fun {a b} h => by unfold sgn at h; by_cases c : a < b; (rw [if_pos c] at h; omega); rw [if_neg c] at h; split at h <;> omega
  have se : ∀ {a b : Int}, sgn a b = 0 → a = b := fun {a b} h => by unfold sgn at h; by_cases c : a < b; (rw [if_pos c] at h; omega); rw [if_neg c] at h; split at h <;> omega
  unfold cmpC
  rw [m1, m2, if_pos (by omega), k1, k2]
  have fin : ∀ {c a b : Int}, (c < 0 → a ≤ b ∨ (r1 = 0 ∧ r2 = 0)) → (0 < c → b ≤ a ∨ (r1 = 0 ∧ r2 = 0)) → (c = 0 → a = b ∨ (r1 = 0 ∧ r2 = 0)) →
      (c < 0 → (if r1 = 0 ∧ r2 = 0 then 0 else tri a b) ≤ 0) ∧ (0 < c → 0 ≤ (if r1 = 0 ∧ r2 = 0 then 0 else tri a b)) ∧ (c = 0 → (if r1 = 0 ∧ r2 = 0 then 0 else tri a b) = 0) := by
    intro c a b h1 h2 h3
    by_cases z : r1 = 0 ∧ r2 = 0
    · rw [if_pos z]; exact ⟨fun _ => by omega, fun _ => by omega, fun _ => rfl⟩
    · rw [if_neg z]
      refine ⟨fun h => ?_, fun h => ?_, fun h => ?_⟩
      · exact tri_le ((h1 h).resolve_right z)
      · exact tri_ge ((h2 h).resolve_right z)
      · rw [(h3 h).resolve_right z]; exact tri_self b
  cases ng <;> cases ng'
  · refine fin (fun h => ?_) (fun h => ?_) (fun h => ?_)
    · have := sl h; simp [sgv] at this; have := le1 (by omega); left; simp; omega
    · have := sg h; simp [sgv] at this; have := le2 (by omega); left; simp; omega
    · have := se h; simp [sgv] at this; have := le1 (by omega); have := le2 (by omega); left; simp; omega
  · refine fin (fun h => ?_) (fun h => ?_) (fun h => ?_)
    · have := sl h; simp [sgv] at this; omega
    · left; simp; omega
    · have := se h
      simp [sgv] at this
      right
      exact ⟨z1 (xz (by omega)), z2 (yz (by omega))⟩
  · refine fin (fun h => ?_) (fun h => ?_) (fun h => ?_)
    · left; simp; omega
    · have := sg h; simp [sgv] at this; omega
    · have := se h
      simp [sgv] at this
      right
      exact ⟨z1 (xz (by omega)), z2 (yz (by omega))⟩
  · refine fin (fun h => ?_) (fun h => ?_) (fun h => ?_)
    · have := sl h; simp [sgv] at this; have := le2 (by omega); left; simp; omega
    · have := sg h; simp [sgv] at this; have := le1 (by omega); left; simp; omega
    · have := se h; simp [sgv] at this; have := le1 (by omega); have := le2 (by omega); left; simp; omega


set_option maxRecDepth 100000 in
set_option maxHeartbeats 8000000 in
theorem tnear_walk {w : World} (TT : Lays w ∧ Brn w) {x : Int} (x0 : 0 ≤ x) (x1 : x < 18446744073709551616) {es : List Int} {s : ByteArray} {N : Nat} {ng : Bool} {P : Int} (hd : Byt es) (hs : s = strOfNums es) (hN : es.length = N) (hl : N ≤ 2305843009213693952) (hP : -9223372036854775808 ≤ P) (hP2 : P ≤ 9223372036854775807)
    {es' : List Int} {s' : ByteArray} {N' : Nat} {ng' : Bool} {P' : Int} (hd' : Byt es') (hs' : s' = strOfNums es') (hN' : es'.length = N') (hl' : N' ≤ 2305843009213693952) (hP' : -9223372036854775808 ≤ P') (hP2' : P' ≤ 9223372036854775807) :
    Calls Tryz.prog 6 #[.agg #[.bool ng, .string s, .int .i64 P], .agg #[.bool ng', .string s', .int .i64 P'], .int .u64 x] w fun e w' => e = .returned (.bool true) ∧ Below w.heap.size w w' := by
  obtain ⟨T, U⟩ := TT
  have HD := hide (And.intro hd (And.intro hs hN))
  have HD' := hide (And.intro hd' (And.intro hs' hN'))
  clear hd hs hN hd' hs' hN'
  have K0 : Below w.heap.size w ((w.alloc (.cells #[.bool ng, .string s, .int .i64 P] 32)).alloc (.cells #[.bool ng', .string s', .int .i64 P'] 32)) := below_trans (bel_new _ _) (bel_new _ _)
  have C1 := (cell3_new w (.bool ng) (.string s) (.int .i64 P) 32).below (bel_new _ (.cells #[.bool ng', .string s', .int .i64 P'] 32))
  have C2 := cell3_new (w.alloc (.cells #[.bool ng, .string s, .int .i64 P] 32)) (.bool ng') (.string s') (.int .i64 P') 32
  rw [show (w.alloc (.cells #[.bool ng, .string s, .int .i64 P] 32)).heap.size = w.heap.size + 1 by simp] at C2
  obtain ⟨sx, hsx⟩ : ∃ sx, x % 9223372036854775808 = sx := ⟨_, rfl⟩
  obtain ⟨nx0, hnx⟩ : ∃ nx0, nx0 = decide (9223372036854775808 ≤ x) := ⟨_, rfl⟩
  have HSX := hide hsx
  have HNX := hide hnx
  clear hsx hnx
  go_enter Tryz.func6, Tryz.ntmps6
  go_wp2_with fail
  refine (known08_any (T.below K0) (U.below K0)).mono ?_
  rintro y w1 ⟨rfl, b1⟩
  replace K0 := below_trans K0 b1; replace C1 := C1.below b1; replace C2 := C2.below b1
  clear b1
  go_wp2_with fail
  refine (exact_d (T.below K0) (U.below K0) x0 x1 HSX.out HNX.out).mono ?_
  rintro y w2 ⟨b2, hex⟩
  have HEX := hide hex
  obtain ⟨ne, te, pe, oke, hy⟩ : ∃ ne te pe oke, y = .returned (.tuple #[.agg #[.bool ne, .string te, .int .i64 pe], .bool oke]) := by
    rcases hex with ⟨_, rfl⟩ | ⟨_, ds, pt, rfl, _⟩
    · exact ⟨_, _, _, _, rfl⟩
    · exact ⟨_, _, _, _, rfl⟩
  have HY := hide hy
  rw [hy]
  clear hy hex
  replace K0 := below_trans K0 b2; replace C1 := C1.below b2; replace C2 := C2.below b2
  clear b2
  have C3 := cell3_new w2 (.bool ne) (.string te) (.int .i64 pe) 32
  have b3 := bel_new w2 (.cells #[.bool ne, .string te, .int .i64 pe] 32)
  go_upto_region 4 with fail
  obtain ⟨b_e, eb⟩ : ∃ b, b = w2.heap.size := ⟨_, rfl⟩
  rw [← eb] at C3 ⊢
  replace K0 := below_trans K0 b3; replace C1 := C1.below b3; replace C2 := C2.below b3
  clear eb b3
  generalize w2.alloc (.cells #[.bool ne, .string te, .int .i64 pe] 32) = w3 at *
  have c0 := C1.c0; have c1 := C1.c1; have c2 := C1.c2
  go_wp2_with fail
  refine (dread_d (T.below K0) HD.out.1 HD.out.2.1 HD.out.2.2 (by omega) hP hP2).mono ?_
  rintro x4 w4 ⟨b4, R1⟩
  have HR1 := hide R1
  obtain ⟨p, ok1, hx4⟩ : ∃ p ok1, x4 = .returned (.tuple #[.int .u64 p, .bool ok1]) := by
    rcases R1 with ⟨_, rfl⟩ | ⟨_, r, rfl, _⟩
    · exact ⟨_, _, rfl⟩
    · exact ⟨_, _, rfl⟩
  have HX4 := hide hx4
  rw [hx4]
  clear hx4 R1 c0 c1 c2
  replace K0 := below_trans K0 b4; replace C1 := C1.below b4; replace C2 := C2.below b4; replace C3 := C3.below b4
  clear b4
  have c0 := C2.c0; have c1 := C2.c1; have c2 := C2.c2
  go_wp2_with fail
  refine (dread_d (T.below K0) HD'.out.1 HD'.out.2.1 HD'.out.2.2 (by omega) hP' hP2').mono ?_
  rintro x5 w5 ⟨b5, R2⟩
  have HR2 := hide R2
  obtain ⟨q, ok2, hx5⟩ : ∃ q ok2, x5 = .returned (.tuple #[.int .u64 q, .bool ok2]) := by
    rcases R2 with ⟨_, rfl⟩ | ⟨_, r, rfl, _⟩
    · exact ⟨_, _, rfl⟩
    · exact ⟨_, _, rfl⟩
  have HX5 := hide hx5
  rw [hx5]
  clear hx5 R2 c0 c1 c2
  replace K0 := below_trans K0 b5; replace C1 := C1.below b5; replace C2 := C2.below b5; replace C3 := C3.below b5
  clear b5
  go_upto_if 36 with fail
  go_cut [] from 37 to 48 (fun w' => Below w5.heap.size w5 w')
  case first =>
    rcases HEX.out with ⟨_, h⟩ | ⟨hlt, ds, pt, h, hE⟩
    · rw [HY.out] at h
      injection h with h
      injection h with h
      simp at h
      obtain ⟨-, rfl⟩ := h
      go_wp2
      go_meet
      exact Below.refl _ _
    · rw [HY.out] at h
      injection h with h
      injection h with h
      simp at h
      obtain ⟨⟨rfl, rfl, rfl⟩, rfl⟩ := h
      have c0 := C3.c0; have c1 := C3.c1; have c2 := C3.c2
      have hs0 : 0 ≤ sx := by have := HSX.out; omega
      have hdv := exv_dv wide_d hE hs0 hlt
      have hn : Dgt ds := hE.1.1
      have HRD := hide (dread_d (w := w5) (es := ds) (s := strOfNums ds) (N := ds.length) (ng := ne) (P := pe) (T.below K0) hn.byt rfl rfl (by have := hE.2.1; omega) (by have := hE.2.2.1; omega) (by have := hE.2.2.2.1; omega))
      have HDV := hide hdv
      have HN := hide hn
      clear hE hdv hn
      go_wp2_with fail
      refine HRD.out.mono ?_
      clear HRD
      rintro x6 w6 ⟨b6, ⟨h, rfl⟩ | ⟨_, r, rfl, hv⟩⟩
      · exact absurd HN.out h
      have hr : r = sx := dv_first wide_d hv HDV.out
      have hxx : r + b2i ne * 9223372036854775808 = x := by
        have e1 := HSX.out
        have e2 := HNX.out
        rw [hr, e2]
        by_cases hc : 9223372036854775808 ≤ x
        · rw [decide_eq_true hc, show b2i true = 1 from rfl]; omega
        · rw [decide_eq_false hc, show b2i false = 0 from rfl]; omega
      rw [hxx]
      clear hv hr hxx
      go_wp2
      go_meet
      exact b6
  case rest =>
    rename World => w6
    replace K0 := below_trans K0 hcut; replace C1 := C1.below hcut; replace C2 := C2.below hcut
    clear hcut C3 HEX HY HSX HNX
    have c0 := C1.c0; have c1 := C1.c1; have c2 := C1.c2
    have d0 := C2.c0; have d1 := C2.c1; have d2 := C2.c2
    go_wp2_with fail
    refine (dcmp_any HD.out.1 HD.out.2.1 HD.out.2.2 (by omega) hP hP2 HD'.out.1 HD'.out.2.1 HD'.out.2.2 (by omega) hP' hP2').mono ?_
    rintro x7 w7 ⟨b7, hcase⟩
    replace K0 := below_trans K0 b7
    clear c0 c1 c2 d0 d1 d2 b7 C1 C2
    rcases HR1.out with ⟨n1, h1⟩ | ⟨n1, r1, h1, dv1⟩
    · rw [HX4.out] at h1
      injection h1 with h1
      injection h1 with h1
      simp at h1
      obtain ⟨rfl, rfl⟩ := h1
      rcases hcase with ⟨_, rfl⟩ | ⟨h, _⟩
      · clear HR1 HR2 HX4 HX5 n1
        go_wp2
        go_ret
        exact ⟨rfl, K0⟩
      · exact absurd h n1
    · rw [HX4.out] at h1
      injection h1 with h1
      injection h1 with h1
      simp at h1
      obtain ⟨rfl, rfl⟩ := h1
      rcases HR2.out with ⟨n2, h2⟩ | ⟨n2, r2, h2, dv2⟩
      · rw [HX5.out] at h2
        injection h2 with h2
        injection h2 with h2
        simp at h2
        obtain ⟨rfl, rfl⟩ := h2
        rcases hcase with ⟨_, rfl⟩ | ⟨_, h, _⟩
        · clear HR1 HR2 HX4 HX5 n1 n2 dv1
          go_wp2
          go_ret
          exact ⟨rfl, K0⟩
        · exact absurd h n2
      · rw [HX5.out] at h2
        injection h2 with h2
        injection h2 with h2
        simp at h2
        obtain ⟨rfl, rfl⟩ := h2
        rcases hcase with ⟨h, _⟩ | ⟨_, _, rfl⟩
        · exact absurd ⟨n1, n2⟩ h
        obtain ⟨m1, m2, m3⟩ := rises_math (S := 9223372036854775808) (ng := ng) (ng' := ng') wide_d (by decide) (dg_range n1).1 (dg_range n2).1 dv1 dv2
        obtain ⟨c, hc⟩ : ∃ c, dcmp (sgv ng (dg es)) (P - N) (sgv ng' (dg es')) (P' - N') = c := ⟨_, rfl⟩
        rw [hc] at m1 m2 m3 ⊢
        have r10 : 0 ≤ r1 := dv1.1
        have r11 : r1 ≤ 9218868437227405312 := dv1.2.1
        have r20 : 0 ≤ r2 := dv2.1
        have r21 : r2 ≤ 9218868437227405312 := dv2.2.1
        have bc := b2i_cases ng
        have bc' := b2i_cases ng'
        have q1 : 0 ≤ r1 + b2i ng * 9223372036854775808 ∧ r1 + b2i ng * 9223372036854775808 < 18446744073709551616 := by rcases bc with h | h <;> rw [h] <;> omega
        have q2 : 0 ≤ r2 + b2i ng' * 9223372036854775808 ∧ r2 + b2i ng' * 9223372036854775808 < 18446744073709551616 := by rcases bc' with h | h <;> rw [h] <;> omega
        have hok : cmpOk 9223372036854775808 4503599627370496 (r1 + b2i ng * 9223372036854775808) (r2 + b2i ng' * 9223372036854775808) = true := by
          unfold cmpOk
          rw [(rk_of (ng := ng) r10 (by omega)).2, (rk_of (ng := ng') r20 (by omega)).2]
          simp
          omega
        have HA := hide (cmp_64 (w := w7) (T.below K0) _ _ q1.1 q1.2 q2.1 q2.2)
        clear HR1 HR2 HX4 HX5 dv1 dv2 hc bc bc' q1 q2 n1 n2 r10 r11 r20 r21
        obtain ⟨cc, hcc⟩ : ∃ cc, cmpC 9223372036854775808 4503599627370496 (r1 + b2i ng * 9223372036854775808) (r2 + b2i ng' * 9223372036854775808) = cc := ⟨_, rfl⟩
        rw [hcc, hok] at HA
        rw [hcc] at m1 m2 m3
        clear hcc hok
        go_wp2_with fail
        refine HA.out.mono ?_
        rintro x8 w8 ⟨rfl, b8⟩
        replace K0 := below_trans K0 b8
        clear b8 HA
        rcases Int.lt_trichotomy c 0 with h | h | h
        · have g1 := m1 h
          have g4 : (c == 0) = false := beq_eq_false_iff_ne.2 (by omega)
          have g6 : ¬ 0 < cc := by omega
          clear m1 m2 m3
          go_wp2
          go_ret
          exact ⟨rfl, K0⟩
        · have g1 := m3 h
          have g2 : ¬ c < 0 := by omega
          have g3 : ¬ 0 < c := by omega
          have g4 : (c == 0) = true := by simp [h]
          have g5 : (cc == 0) = true := by simp [g1]
          clear m1 m2 m3
          go_wp2
          go_ret
          exact ⟨rfl, K0⟩
        · have g1 := m2 h
          have g2 : ¬ c < 0 := by omega
          have g4 : (c == 0) = false := beq_eq_false_iff_ne.2 (by omega)
          have g6 : ¬ cc < 0 := by omega
          clear m1 m2 m3
          go_wp2
          go_ret
          exact ⟨rfl, K0⟩

end Go.Proofs.YtfnfnkakaggmbabGreatDoor

namespace Go.Proofs.YtfnfnkakaggmbabGreatDoor
open Go.ChangeShapes Go.WideShapes Go.ChangeAt Go.RowKit Go.Deep
set_option linter.unusedVariables false

set_option maxRecDepth 100000 in
/-- the list's tables: two are asked -/
theorem lays_top {W : World} {l : List (String × DataW Unit)} (h : laidMetH Tryz.prog l W) (hl : (l.filter fun x => x.1 == "math/bits.deBruijn64tab" || x.1 == "crucible/ieee.layouts") = [("math/bits.deBruijn64tab", Rows.laid_math_bits_deBruijn64tab), ("crucible/ieee.layouts", Rows.laid_crucible_ieee_layouts)]) : Lays W ∧ Brn W := by
  have h2 := h.filter (fun x => x.1 == "math/bits.deBruijn64tab" || x.1 == "crucible/ieee.layouts")
  rw [hl] at h2
  exact lays_two h2

theorem bulk_one {H : Type} (d : DataW H) : 1 ≤ Rows.uptoBulk d := by
  cases d with
  | lit l => cases l <;> simp [Rows.uptoBulk]
  | _ => simp [Rows.uptoBulk]
theorem bulk_many {H : Type} (l : List (DataW H)) : l.length ≤ Rows.uptoBulkAll l := by
  induction l with
  | nil => simp
  | cons x r ih =>
    have h1 := bulk_one x
    have h2 : Rows.uptoBulkAll (x :: r) = Rows.uptoBulk x + Rows.uptoBulkAll r := by simp only [Rows.uptoBulkAll]
    rw [h2, List.length_cons]
    omega
theorem bulk_slice {H : Type} {e s : List (DataW H)} {d : DataW H} {n : Nat} (hd : d = .slice e s) (h : Rows.uptoBulk d ≤ n) : e.length ≤ n := by
  have h1 := bulk_many e
  rw [hd] at h
  have h2 : Rows.uptoBulk (.slice e s) = Rows.uptoBulkAll e + Rows.uptoBulkAll s + 1 := by simp only [Rows.uptoBulk]
  rw [h2] at h
  omega
theorem lits_length (k : IntKind) (zs : List Int) {H : Type} : (lits (H := H) k zs).length = zs.length := by simp [lits]

def putCells (cs : Array Value) : Obj → Obj
  | .cells _ t frozen => .cells cs t frozen
  | o => o
def litOf : DataW Unit → Value
  | .lit (.int k n) => .int k n
  | _ => .int .u8 0
/-- the cells of a table that a row lists: numbers, or structs of numbers -/
def cellsOf : DataW Unit → Array Value
  | .agg ds => (ds.flatMap fun
    | .agg es => es.map litOf
    | d => [litOf d]).toArray
  | _ => #[]
/-- the door's own heap, and one table more -/
noncomputable def tabledWorld (os : Os) : World :=
  { World.doorLaid Tryz.prog 4000 os with heap := (World.doorLaid Tryz.prog 4000 os).heap.modify 17 (putCells (cellsOf Rows.laid_unicode_utf8_first)) }

theorem sized_digits {H : Type} {ts : List TypeId} {ds : List (DataW H)} (h : (DataW.weightsEach Tryz.prog ts ds).all (· ≤ reachBytes) = true) {j : Nat} {y z : DataW H} {bytes : List UInt8} (ht : ts[j]? = some 32) (hd : ds[j]? = some (.agg [y, .lit (.string bytes), z])) : bytes.length ≤ reachBytes := by
  have := List.all_eq_true.1 h _ (DataW.weights_mem_each ht hd bytes.length (by simp [DataW.weights, DataW.weightsEach, Tryz.underlying32]))
  simpa using this
theorem cells_dig : Tryz.prog.cellsOf 32 = 3 := by kernel_rfl
theorem cells_dbool : Tryz.prog.cellsOf 4 = 1 := by kernel_rfl
theorem cells_dstr : Tryz.prog.cellsOf 9 = 1 := by kernel_rfl
theorem cells_dint : Tryz.prog.cellsOf 3 = 1 := by kernel_rfl
set_option maxRecDepth 100000 in
theorem open_digits {H : Type} {enc : TypeId × Value → H} {W : World} {base b0 : Nat} {held : Bool} {v : Value} {d : DataW H} {p : List MemPlace} (hv : Value.okWide Tryz.prog W .any base 32 v)
    (h : ∃ n, DataW.trod enc Tryz.prog W b0 (fun _ => true) held n 32 v.cells.toList = some (d, p))
    (hz : ∀ y bytes z, d = .agg [y, .lit (.string bytes), z] → bytes.length ≤ reachBytes) :
    ∃ ng s P, ∃ es : List Int, v = .agg #[.bool ng, .string s, .int .i64 P] ∧ Byt es ∧ s = strOfNums es ∧ es.length ≤ 140737488355328 ∧ -9223372036854775808 ≤ P ∧ P ≤ 9223372036854775807 := by
  obtain ⟨cs, rfl, hcz⟩ := okWide_struct Tryz.underlying32 hv
  rw [cells_dig] at hcz
  obtain ⟨c0, c1, c2, rfl⟩ : ∃ c0 c1 c2, cs = #[c0, c1, c2] := by
    obtain ⟨l⟩ := cs
    rcases l with _ | ⟨a, _ | ⟨b, _ | ⟨c, _ | ⟨e, l⟩⟩⟩⟩
    · simp at hcz
    · simp at hcz
    · simp at hcz
    · exact ⟨a, b, c, rfl⟩
    · simp at hcz
  obtain ⟨fuel, hf⟩ := h
  obtain ⟨y0, y1, y2, m, hx, hl, hy0, hy1, hy2⟩ := trod_struct3 Tryz.underlying32 hf
  have hy0' : DataW.trod enc Tryz.prog W b0 (fun _ => true) held m 4 [c0] = some y0 := by simpa [Value.cells, cells_dbool] using hy0
  have hy1' : DataW.trod enc Tryz.prog W b0 (fun _ => true) held m 9 [c1] = some y1 := by simpa [Value.cells, cells_dstr] using hy1
  have hy2' : DataW.trod enc Tryz.prog W b0 (fun _ => true) held m 3 [c2] = some y2 := by simpa [Value.cells, cells_dint] using hy2
  obtain ⟨ng, hc0, hb⟩ := DataW.trod_bool Tryz.underlying4 hy0'
  obtain ⟨s, hc1, hs, hsm⟩ := DataW.trod_string Tryz.underlying9 hy1'
  obtain ⟨P, hc2, hp, hw⟩ := DataW.trod_int Tryz.underlying3 hy2'
  simp at hc0 hc1 hc2
  subst hc0 hc1 hc2
  have hd : d = .agg [y0.1, y1.1, y2.1] := (Prod.mk.inj hx).1
  have hlen := hz y0.1 s.data.toList y2.1 (by rw [hd, hs])
  have hr := reachBytes_lt
  obtain ⟨es, e1, e2, e3⟩ := txt_of s
  simp [Lit.wf, IntKind.min, IntKind.max, IntKind.signed, IntKind.bits] at hw
  refine ⟨ng, s, P, es, rfl, e1, e3, ?_, by omega, by omega⟩
  rw [e2]
  have : s.size = s.data.toList.length := by rw [Array.length_toList]; rfl
  omega

end Go.Proofs.YtfnfnkakaggmbabGreatDoor
