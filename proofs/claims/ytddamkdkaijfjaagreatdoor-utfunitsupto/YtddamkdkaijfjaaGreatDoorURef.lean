/- ref09: size, bits, Point, Encoding, stands, First, Bad -/
import Derived.Test.YtddamkdkaijfjaaGreatDoorULives
import Derived.Deep.QuietTactic
import Derived.BigQuiet
namespace Go.Proofs.YtddamkdkaijfjaaGreatDoor
open Go.RowKit
set_option linter.unusedVariables false

theorem ubelow_drewN {B : Nat} {a w : World} {n : Nat} (h : Below B a w) : Below B a (w.drewN n) := by
  induction n with
  | zero => exact h
  | succ n ih => exact ih.drew

theorem rsize_any {w : World} {c : Int} (h0 : 0 ≤ c) (h1 : c < 256) : Calls Tryz.prog 122 #[.int .u8 c] w fun e w' => e = .returned (.int .i64 ((uLead c).2 : Nat)) ∧ w' = w := by
  obtain ⟨R, hR⟩ : ∃ R, uLead c = R := ⟨_, rfl⟩
  have HR := hide hR
  rw [hR]; clear hR
  go_enter Tryz.func122, Tryz.ntmps122
  go_wp2
  all_goals go_ret
  all_goals
    refine ⟨ret_i64 ?_, rfl⟩
    rw [← HR.out]
    unfold uLead
    first
      | (rw [if_pos (by omega)]; done)
      | (rw [if_pos (by omega)]; rfl)
      | (rw [if_neg (by omega), if_pos (by omega)]; rfl)
      | (rw [if_neg (by omega), if_neg (by omega), if_pos (by omega)]; rfl)
      | (rw [if_neg (by omega), if_neg (by omega), if_neg (by omega), if_pos (by omega)]; rfl)
      | (rw [if_neg (by omega), if_neg (by omega), if_neg (by omega), if_neg (by omega), if_pos (by omega)]; rfl)
      | (rw [if_neg (by omega), if_neg (by omega), if_neg (by omega), if_neg (by omega), if_neg (by omega)]; rfl)

theorem rpoint_any {w : World} {p : Int} : Calls Tryz.prog 28 #[.int .i64 p] w fun e w' => e = .returned (.bool (uPt p)) ∧ w' = w := by
  obtain ⟨R, hR⟩ : ∃ R, uPt p = R := ⟨_, rfl⟩
  have HR := hide hR
  rw [hR]; clear hR
  by_cases h0 : 0 ≤ p
  · by_cases h1 : p ≤ 1114111
    · by_cases h2 : p < 55296
      · go_enter Tryz.func28, Tryz.ntmps28
        go_wp2; go_ret
        exact ⟨ret_bool (by rw [← HR.out]; symm; rw [uPt_iff]; omega), rfl⟩
      · by_cases h3 : 57343 < p
        · go_enter Tryz.func28, Tryz.ntmps28
          go_wp2; go_ret
          exact ⟨ret_bool (by rw [← HR.out]; symm; rw [uPt_iff]; omega), rfl⟩
        · have e : R = false := by
            rw [← HR.out]; cases hh : uPt p
            · rfl
            · have := uPt_iff.1 hh; omega
          subst e
          go_enter Tryz.func28, Tryz.ntmps28
          go_wp2; go_ret
          exact ⟨rfl, rfl⟩
    · have e : R = false := by
        rw [← HR.out]; cases hh : uPt p
        · rfl
        · have := uPt_iff.1 hh; omega
      subst e
      go_enter Tryz.func28, Tryz.ntmps28
      go_wp2; go_ret
      exact ⟨rfl, rfl⟩
  · have e : R = false := by
      rw [← HR.out]; cases hh : uPt p
      · rfl
      · have := uPt_iff.1 hh; omega
    subst e
    go_enter Tryz.func28, Tryz.ntmps28
    go_wp2; go_ret
    exact ⟨rfl, rfl⟩

theorem renc_any {w : World} {p : Int} (h : uPt p = true) : Calls Tryz.prog 29 #[.int .i64 p] w fun e w' => e = .returned (.slice (some ⟨w.heap.size, 0, none⟩) (uEnc p).length (uEnc p).length) ∧ w' = w.alloc (.cells ((uEnc p).map (Value.int .u8)).toArray 5) := by
  have hp := uPt_iff.1 h
  have hb := uEnc_byt h
  have wr : ∀ x, 0 ≤ x → x < 256 → IntKind.u8.wrap x = x := fun x a b => by simp [IntKind.wrap, IntKind.bits, IntKind.signed]; omega
  by_cases h1 : p < 128
  · have e : uEnc p = [p] := by unfold uEnc; rw [if_pos h1]
    rw [e] at hb ⊢
    have w1 := wr p (by omega) (by omega)
    clear wr hb e h
    go_enter Tryz.func29, Tryz.ntmps29
    go_wp2; go_ret
    exact ⟨rfl, rfl⟩
  · by_cases h2 : p < 2048
    · have e : uEnc p = [192 + p / 64, 128 + p % 64] := by unfold uEnc; rw [if_neg h1, if_pos h2]
      rw [e]
      have w1 := wr (192 + p / 64) (by omega) (by omega)
      have w2 := wr (128 + p % 64) (by omega) (by omega)
      clear wr hb e h
      go_enter Tryz.func29, Tryz.ntmps29
      go_wp2; go_ret
      exact ⟨rfl, rfl⟩
    · by_cases h3 : p < 65536
      · have e : uEnc p = [224 + p / 4096, 128 + p / 64 % 64, 128 + p % 64] := by unfold uEnc; rw [if_neg h1, if_neg h2, if_pos h3]
        rw [e]
        have w1 := wr (224 + p / 4096) (by omega) (by omega)
        have w2 := wr (128 + p / 64 % 64) (by omega) (by omega)
        have w3 := wr (128 + p % 64) (by omega) (by omega)
        clear wr hb e h
        go_enter Tryz.func29, Tryz.ntmps29
        go_wp2; go_ret
        exact ⟨rfl, rfl⟩
      · have e : uEnc p = [240 + p / 262144, 128 + p / 4096 % 64, 128 + p / 64 % 64, 128 + p % 64] := by unfold uEnc; rw [if_neg h1, if_neg h2, if_neg h3]
        rw [e]
        have w1 := wr (240 + p / 262144) (by omega) (by omega)
        have w2 := wr (128 + p / 64 % 64) (by omega) (by omega)
        have w3 := wr (128 + p % 64) (by omega) (by omega)
        have w4 := wr (128 + p / 4096 % 64) (by omega) (by omega)
        clear wr hb e h
        go_enter Tryz.func29, Tryz.ntmps29
        go_wp2; go_ret
        exact ⟨rfl, rfl⟩

/-- the bits of further bytes, be they what they may -/
def uRaw : Int → List Int → Int
  | r, [] => r
  | r, c :: cs => uRaw (r * 64 + c % 64) cs
theorem uRaw_acc {l : List Int} (h : l.all uCont = true) (r : Int) : uRaw r l = uAcc r l := by
  induction l generalizing r with
  | nil => rfl
  | cons c cs ih =>
    rw [List.all_cons, Bool.and_eq_true] at h
    rw [uRaw, uAcc, ih h.2]
    have := h.1
    unfold uCont at this
    simp at this
    rw [show c % 64 = c - 128 by omega]
theorem uRaw_step {es : List Int} {p m : Nat} {x R : Int} (h : R = uRaw x ((es.drop p).take (m + 1))) (hp : p < es.length) : R = uRaw (x * 64 + Nt.lb es p % 64) ((es.drop (p + 1)).take m) := by
  rw [h, udrop_lb hp, List.take_succ_cons, uRaw]
def uMod : Nat → Int
  | 1 => 128
  | 2 => 32
  | 3 => 16
  | 4 => 8
  | _ => 0
theorem uLead_mod {c : Int} (h0 : 0 ≤ c) (h1 : c < 256) (hn : (uLead c).2 ≠ 0) : c % uMod (uLead c).2 = (uLead c).1 := by
  unfold uLead at hn ⊢
  split
  · show c % 128 = c; omega
  split
  · rename_i a b; rw [if_neg a, if_pos b] at hn; exact absurd rfl hn
  split
  · show c % 32 = c - 192; omega
  split
  · show c % 16 = c - 224; omega
  split
  · show c % 8 = c - 240; omega
  · rename_i a b c d e; rw [if_neg a, if_neg b, if_neg c, if_neg d, if_neg e] at hn; exact absurd rfl hn

set_option maxRecDepth 100000 in
set_option maxHeartbeats 4000000 in
theorem rbits_any {w : World} {s : ByteArray} {es : List Int} {k n : Nat} (hb : uByt es) (hs : s = strOfNums es) (hl : es.length ≤ 9223372036854775807) (hn : n = 1 ∨ n = 2 ∨ n = 3 ∨ n = 4) (hk : k + n ≤ es.length) :
    Calls Tryz.prog 123 #[.string s, .int .i64 k, .int .i64 n] w fun e w' => e = .returned (.int .i64 (uRaw (Nt.lb es k % uMod n) ((es.drop (k + 1)).take (n - 1)))) ∧ Below w.heap.size w w' := by
  have hsz : s.size = es.length := by rw [hs, strOfNums_size]
  have Hix := hide (show ∀ p (h : p < s.size), (((s[p]'h).toNat : Nat) : Int) = Nt.lb es p from fun p h => by subst hs; exact utxt_at h hb)
  have HB := hide (show ∀ p, p < es.length → 0 ≤ Nt.lb es p ∧ Nt.lb es p < 256 from fun p h => by have := hb _ (List.getElem_mem h); simpa [Nt.lb, h] using this)
  obtain ⟨L, hL⟩ : ∃ L, es.length = L := ⟨_, rfl⟩
  rw [hL] at hsz hl hk
  have HL := hide hL
  clear hs hL hb
  have hps : k < s.size := by omega
  have hx := Hix.out k hps
  have hc := HB.out k (by rw [HL.out]; omega)
  obtain ⟨R, hR⟩ : ∃ R, uRaw (Nt.lb es k % uMod n) ((es.drop (k + 1)).take (n - 1)) = R := ⟨_, rfl⟩
  rw [hR]
  have HR := hide hR.symm
  obtain ⟨c, hcc⟩ : ∃ c, Nt.lb es k = c := ⟨_, rfl⟩
  rw [hcc] at hx hc HR
  clear hR hcc
  have f0 : 0 ≤ (k : Int) ∧ (k : Int) < (L : Int) := by omega
  have hm : 0 ≤ c % uMod n ∧ c % uMod n < 128 := by rcases hn with rfl | rfl | rfl | rfl <;> simp only [uMod] <;> omega
  rcases hn with rfl | rfl | rfl | rfl
  · simp only [uMod] at HR hm
    go_enter Tryz.func123, Tryz.ntmps123
    go_wp2
    go_quiet (fail)
    go_wp2
    obtain ⟨w0, hw0⟩ : ∃ x, x = (w.alloc (.cells #[.int .i64 0, .int .i64 128, .int .i64 32, .int .i64 16, .int .i64 8] 189)).drewN nq := ⟨_, rfl⟩
    have HBW := hide (show Below w.heap.size w w0 by rw [hw0]; exact ubelow_drewN ((Below.refl _ _).alloc (Nat.le_refl _) _))
    rw [← hw0]
    clear hw0
    go_loopg [8, 9] (1 - 1) (fun c r i wr => ∃ (x : Int) (j : Nat), r = .int .i64 x ∧ i = .int .i64 j ∧ 1 ≤ j ∧ j ≤ 1 ∧ c = 1 - j ∧ 0 ≤ x ∧ (j = 1 ∧ x < 128 ∨ j = 2 ∧ x < 8192 ∨ j = 3 ∧ x < 524288 ∨ j = 4 ∧ x < 33554432) ∧ Hid (R = uRaw x ((es.drop (k + j)).take (1 - j))) ∧ w0 = wr)
    case atStart => exact ⟨_, 1, rfl, rfl, by omega, by omega, rfl, hm.1, by omega, HR, rfl⟩
    case round =>
      obtain ⟨x, j, rfl, rfl, hj1, hj2, hg, hx0, hxx, HJ, hw⟩ := hrel
      subst hw
      by_cases hjn : j < 1
      · have q1 : (j : Int) < 1 := by omega
        have hps2 : k + j < s.size := by omega
        have hx2 := Hix.out (k + j) hps2
        have hkj : k + j < es.length := by rw [HL.out]; omega
        have hc2 := HB.out (k + j) hkj
        have HJ2 := hide (uRaw_step (R := R) (x := x) (p := k + j) (m := 1 - (j + 1)) (by rw [show 1 - (j + 1) + 1 = 1 - j by omega]; exact HJ.out) hkj)
        obtain ⟨d, hd⟩ : ∃ d, Nt.lb es (k + j) = d := ⟨_, rfl⟩
        rw [hd] at hx2 hc2 HJ2
        clear hd hkj HJ
        have f5 : 0 ≤ (k : Int) + (j : Int) ∧ (k : Int) + (j : Int) < (L : Int) := by omega
        go_wp2
        go_roundg (1 - (j + 1))
        case measure => omega
        case rel => exact ⟨x * 64 + d % 64, j + 1, rfl, by simp, by omega, by omega, rfl, by omega, by omega, hide (by rw [HJ2.out]; rfl), rfl⟩
      · have q1 : ¬ (j : Int) < 1 := by omega
        go_wp2
        go_ret
        refine ⟨ret_i64 ?_, HBW.out⟩
        rw [HJ.out, show 1 - j = 0 by omega]; rfl
  · simp only [uMod] at HR hm
    go_enter Tryz.func123, Tryz.ntmps123
    go_wp2
    go_quiet (fail)
    go_wp2
    obtain ⟨w0, hw0⟩ : ∃ x, x = (w.alloc (.cells #[.int .i64 0, .int .i64 128, .int .i64 32, .int .i64 16, .int .i64 8] 189)).drewN nq := ⟨_, rfl⟩
    have HBW := hide (show Below w.heap.size w w0 by rw [hw0]; exact ubelow_drewN ((Below.refl _ _).alloc (Nat.le_refl _) _))
    rw [← hw0]
    clear hw0
    go_loopg [8, 9] (2 - 1) (fun c r i wr => ∃ (x : Int) (j : Nat), r = .int .i64 x ∧ i = .int .i64 j ∧ 1 ≤ j ∧ j ≤ 2 ∧ c = 2 - j ∧ 0 ≤ x ∧ (j = 1 ∧ x < 128 ∨ j = 2 ∧ x < 8192 ∨ j = 3 ∧ x < 524288 ∨ j = 4 ∧ x < 33554432) ∧ Hid (R = uRaw x ((es.drop (k + j)).take (2 - j))) ∧ w0 = wr)
    case atStart => exact ⟨_, 1, rfl, rfl, by omega, by omega, rfl, hm.1, by omega, HR, rfl⟩
    case round =>
      obtain ⟨x, j, rfl, rfl, hj1, hj2, hg, hx0, hxx, HJ, hw⟩ := hrel
      subst hw
      by_cases hjn : j < 2
      · have q1 : (j : Int) < 2 := by omega
        have hps2 : k + j < s.size := by omega
        have hx2 := Hix.out (k + j) hps2
        have hkj : k + j < es.length := by rw [HL.out]; omega
        have hc2 := HB.out (k + j) hkj
        have HJ2 := hide (uRaw_step (R := R) (x := x) (p := k + j) (m := 2 - (j + 1)) (by rw [show 2 - (j + 1) + 1 = 2 - j by omega]; exact HJ.out) hkj)
        obtain ⟨d, hd⟩ : ∃ d, Nt.lb es (k + j) = d := ⟨_, rfl⟩
        rw [hd] at hx2 hc2 HJ2
        clear hd hkj HJ
        have f5 : 0 ≤ (k : Int) + (j : Int) ∧ (k : Int) + (j : Int) < (L : Int) := by omega
        go_wp2
        go_roundg (2 - (j + 1))
        case measure => omega
        case rel => exact ⟨x * 64 + d % 64, j + 1, rfl, by simp, by omega, by omega, rfl, by omega, by omega, hide (by rw [HJ2.out]; rfl), rfl⟩
      · have q1 : ¬ (j : Int) < 2 := by omega
        go_wp2
        go_ret
        refine ⟨ret_i64 ?_, HBW.out⟩
        rw [HJ.out, show 2 - j = 0 by omega]; rfl
  · simp only [uMod] at HR hm
    go_enter Tryz.func123, Tryz.ntmps123
    go_wp2
    go_quiet (fail)
    go_wp2
    obtain ⟨w0, hw0⟩ : ∃ x, x = (w.alloc (.cells #[.int .i64 0, .int .i64 128, .int .i64 32, .int .i64 16, .int .i64 8] 189)).drewN nq := ⟨_, rfl⟩
    have HBW := hide (show Below w.heap.size w w0 by rw [hw0]; exact ubelow_drewN ((Below.refl _ _).alloc (Nat.le_refl _) _))
    rw [← hw0]
    clear hw0
    go_loopg [8, 9] (3 - 1) (fun c r i wr => ∃ (x : Int) (j : Nat), r = .int .i64 x ∧ i = .int .i64 j ∧ 1 ≤ j ∧ j ≤ 3 ∧ c = 3 - j ∧ 0 ≤ x ∧ (j = 1 ∧ x < 128 ∨ j = 2 ∧ x < 8192 ∨ j = 3 ∧ x < 524288 ∨ j = 4 ∧ x < 33554432) ∧ Hid (R = uRaw x ((es.drop (k + j)).take (3 - j))) ∧ w0 = wr)
    case atStart => exact ⟨_, 1, rfl, rfl, by omega, by omega, rfl, hm.1, by omega, HR, rfl⟩
    case round =>
      obtain ⟨x, j, rfl, rfl, hj1, hj2, hg, hx0, hxx, HJ, hw⟩ := hrel
      subst hw
      by_cases hjn : j < 3
      · have q1 : (j : Int) < 3 := by omega
        have hps2 : k + j < s.size := by omega
        have hx2 := Hix.out (k + j) hps2
        have hkj : k + j < es.length := by rw [HL.out]; omega
        have hc2 := HB.out (k + j) hkj
        have HJ2 := hide (uRaw_step (R := R) (x := x) (p := k + j) (m := 3 - (j + 1)) (by rw [show 3 - (j + 1) + 1 = 3 - j by omega]; exact HJ.out) hkj)
        obtain ⟨d, hd⟩ : ∃ d, Nt.lb es (k + j) = d := ⟨_, rfl⟩
        rw [hd] at hx2 hc2 HJ2
        clear hd hkj HJ
        have f5 : 0 ≤ (k : Int) + (j : Int) ∧ (k : Int) + (j : Int) < (L : Int) := by omega
        go_wp2
        go_roundg (3 - (j + 1))
        case measure => omega
        case rel => exact ⟨x * 64 + d % 64, j + 1, rfl, by simp, by omega, by omega, rfl, by omega, by omega, hide (by rw [HJ2.out]; rfl), rfl⟩
      · have q1 : ¬ (j : Int) < 3 := by omega
        go_wp2
        go_ret
        refine ⟨ret_i64 ?_, HBW.out⟩
        rw [HJ.out, show 3 - j = 0 by omega]; rfl
  · simp only [uMod] at HR hm
    go_enter Tryz.func123, Tryz.ntmps123
    go_wp2
    go_quiet (fail)
    go_wp2
    obtain ⟨w0, hw0⟩ : ∃ x, x = (w.alloc (.cells #[.int .i64 0, .int .i64 128, .int .i64 32, .int .i64 16, .int .i64 8] 189)).drewN nq := ⟨_, rfl⟩
    have HBW := hide (show Below w.heap.size w w0 by rw [hw0]; exact ubelow_drewN ((Below.refl _ _).alloc (Nat.le_refl _) _))
    rw [← hw0]
    clear hw0
    go_loopg [8, 9] (4 - 1) (fun c r i wr => ∃ (x : Int) (j : Nat), r = .int .i64 x ∧ i = .int .i64 j ∧ 1 ≤ j ∧ j ≤ 4 ∧ c = 4 - j ∧ 0 ≤ x ∧ (j = 1 ∧ x < 128 ∨ j = 2 ∧ x < 8192 ∨ j = 3 ∧ x < 524288 ∨ j = 4 ∧ x < 33554432) ∧ Hid (R = uRaw x ((es.drop (k + j)).take (4 - j))) ∧ w0 = wr)
    case atStart => exact ⟨_, 1, rfl, rfl, by omega, by omega, rfl, hm.1, by omega, HR, rfl⟩
    case round =>
      obtain ⟨x, j, rfl, rfl, hj1, hj2, hg, hx0, hxx, HJ, hw⟩ := hrel
      subst hw
      by_cases hjn : j < 4
      · have q1 : (j : Int) < 4 := by omega
        have hps2 : k + j < s.size := by omega
        have hx2 := Hix.out (k + j) hps2
        have hkj : k + j < es.length := by rw [HL.out]; omega
        have hc2 := HB.out (k + j) hkj
        have HJ2 := hide (uRaw_step (R := R) (x := x) (p := k + j) (m := 4 - (j + 1)) (by rw [show 4 - (j + 1) + 1 = 4 - j by omega]; exact HJ.out) hkj)
        obtain ⟨d, hd⟩ : ∃ d, Nt.lb es (k + j) = d := ⟨_, rfl⟩
        rw [hd] at hx2 hc2 HJ2
        clear hd hkj HJ
        have f5 : 0 ≤ (k : Int) + (j : Int) ∧ (k : Int) + (j : Int) < (L : Int) := by omega
        go_wp2
        go_roundg (4 - (j + 1))
        case measure => omega
        case rel => exact ⟨x * 64 + d % 64, j + 1, rfl, by simp, by omega, by omega, rfl, by omega, by omega, hide (by rw [HJ2.out]; rfl), rfl⟩
      · have q1 : ¬ (j : Int) < 4 := by omega
        go_wp2
        go_ret
        refine ⟨ret_i64 ?_, HBW.out⟩
        rw [HJ.out, show 4 - j = 0 by omega]; rfl

end Go.Proofs.YtddamkdkaijfjaaGreatDoor
