import Derived.Maps.AppendAt
import Derived.Test.YticmlelalbaalaaGreatDoorB31
import Derived.Test.YticmlelalbaalaaGreatDoorB02
import Derived.Deep.QuietTactic
import Derived.BigQuiet
namespace Go.Proofs.YticmlelalbaalaaGreatDoor
open Go.RowKit Go.Shelf
set_option linter.unusedVariables false
attribute [local go_sem] Oper.semAt_some
end Go.Proofs.YticmlelalbaalaaGreatDoor
namespace Go.Proofs.YticmlelalbaalaaGreatDoor
open Go.RowKit
set_option linter.unusedVariables false
theorem built_reads {k : IntKind} {E : TypeId} {w : World} {zs : List Int} (h : zs.length ≤ 1000) : Reads k (w.alloc (.cells (zs.map (Value.int k)).toArray E)) (.slice (some ⟨w.heap.size, 0, none⟩) zs.length zs.length) zs := by
  refine ⟨_, _, rfl, Nat.le_refl _, by unfold maxLen; omega, fun hp => ⟨w.heap.size, 0, rfl, by simp, fun i hi => ?_⟩⟩
  rw [Nat.zero_add, cell_of_row _ _ _ _ _ _ (heap_alloc_new w _)]
  simp [Nt.lb, hi]
theorem ubelow_drewN {B : Nat} {a w : World} {n : Nat} (h : Below B a w) : Below B a (w.drewN n) := by
  induction n with
  | zero => exact h
  | succ n ih => exact ih.drew
theorem rsize_any {w : World} {c : Int} (h0 : 0 ≤ c) (h1 : c < 256) : Calls Tryz.prog 203 #[.int .u8 c] w fun e w' => e = .returned (.int .i64 ((uLead c).2 : Nat)) ∧ w' = w := by
  obtain ⟨R, hR⟩ : ∃ R, uLead c = R := ⟨_, rfl⟩
  have HR := hide hR
  rw [hR]; clear hR
  go_enter Tryz.func203, Tryz.ntmps203
  go_wp2
  all_goals go_ret
  all_goals
    refine ⟨ret_i64 ?_, rfl⟩
    rw [← HR.out]
    unfold uLead
    first
      | (rw [if_pos (by omega)]; done)
      | (rw [if_pos (by omega)]; rfl)
      | (rw [if_neg (by omega), if_pos (by omega)]; rfl)
      | (rw [if_neg (by omega), if_neg (by omega), if_pos (by omega)]; rfl)
      | (rw [if_neg (by omega), if_neg (by omega), if_neg (by omega), if_pos (by omega)]; rfl)
      | (rw [if_neg (by omega), if_neg (by omega), if_neg (by omega), if_neg (by omega), if_pos (by omega)]; rfl)
      | (rw [if_neg (by omega), if_neg (by omega), if_neg (by omega), if_neg (by omega), if_neg (by omega)]; rfl)
theorem rpoint_any {w : World} {p : Int} : Calls Tryz.prog 205 #[.int .i64 p] w fun e w' => e = .returned (.bool (uPt p)) ∧ w' = w := by
  obtain ⟨R, hR⟩ : ∃ R, uPt p = R := ⟨_, rfl⟩
  have HR := hide hR
  rw [hR]; clear hR
  by_cases h0 : 0 ≤ p
  · by_cases h1 : p ≤ 1114111
    · by_cases h2 : p < 55296
      · go_enter Tryz.func205, Tryz.ntmps205
        go_wp2; go_ret
        exact ⟨ret_bool (by rw [← HR.out]; symm; rw [uPt_iff]; omega), rfl⟩
      · by_cases h3 : 57343 < p
        · go_enter Tryz.func205, Tryz.ntmps205
          go_wp2; go_ret
          exact ⟨ret_bool (by rw [← HR.out]; symm; rw [uPt_iff]; omega), rfl⟩
        · have e : R = false := by
            rw [← HR.out]; cases hh : uPt p
            · rfl
            · have := uPt_iff.1 hh; omega
          subst e
          go_enter Tryz.func205, Tryz.ntmps205
          go_wp2; go_ret
          exact ⟨rfl, rfl⟩
    · have e : R = false := by
        rw [← HR.out]; cases hh : uPt p
        · rfl
        · have := uPt_iff.1 hh; omega
      subst e
      go_enter Tryz.func205, Tryz.ntmps205
      go_wp2; go_ret
      exact ⟨rfl, rfl⟩
  · have e : R = false := by
      rw [← HR.out]; cases hh : uPt p
      · rfl
      · have := uPt_iff.1 hh; omega
    subst e
    go_enter Tryz.func205, Tryz.ntmps205
    go_wp2; go_ret
    exact ⟨rfl, rfl⟩
theorem renc_any {w : World} {p : Int} (h : uPt p = true) : Calls Tryz.prog 207 #[.int .i64 p] w fun e w' => e = .returned (.slice (some ⟨w.heap.size, 0, none⟩) (uEnc p).length (uEnc p).length) ∧ w' = w.alloc (.cells ((uEnc p).map (Value.int .u8)).toArray 5) := by
  have hp := uPt_iff.1 h
  have hb := uEnc_byt h
  have wr : ∀ x, 0 ≤ x → x < 256 → IntKind.u8.wrap x = x := fun x a b => by simp [IntKind.wrap, IntKind.bits, IntKind.signed]; omega
  by_cases h1 : p < 128
  · have e : uEnc p = [p] := by unfold uEnc; rw [if_pos h1]
    rw [e] at hb ⊢
    have w1 := wr p (by omega) (by omega)
    clear wr hb e h
    go_enter Tryz.func207, Tryz.ntmps207
    go_wp2; go_ret
    exact ⟨rfl, rfl⟩
  · by_cases h2 : p < 2048
    · have e : uEnc p = [192 + p / 64, 128 + p % 64] := by unfold uEnc; rw [if_neg h1, if_pos h2]
      rw [e]
      have w1 := wr (192 + p / 64) (by omega) (by omega)
      have w2 := wr (128 + p % 64) (by omega) (by omega)
      clear wr hb e h
      go_enter Tryz.func207, Tryz.ntmps207
      go_wp2; go_ret
      exact ⟨rfl, rfl⟩
    · by_cases h3 : p < 65536
      · have e : uEnc p = [224 + p / 4096, 128 + p / 64 % 64, 128 + p % 64] := by unfold uEnc; rw [if_neg h1, if_neg h2, if_pos h3]
        rw [e]
        have w1 := wr (224 + p / 4096) (by omega) (by omega)
        have w2 := wr (128 + p / 64 % 64) (by omega) (by omega)
        have w3 := wr (128 + p % 64) (by omega) (by omega)
        clear wr hb e h
        go_enter Tryz.func207, Tryz.ntmps207
        go_wp2; go_ret
        exact ⟨rfl, rfl⟩
      · have e : uEnc p = [240 + p / 262144, 128 + p / 4096 % 64, 128 + p / 64 % 64, 128 + p % 64] := by unfold uEnc; rw [if_neg h1, if_neg h2, if_neg h3]
        rw [e]
        have w1 := wr (240 + p / 262144) (by omega) (by omega)
        have w2 := wr (128 + p / 64 % 64) (by omega) (by omega)
        have w3 := wr (128 + p % 64) (by omega) (by omega)
        have w4 := wr (128 + p / 4096 % 64) (by omega) (by omega)
        clear wr hb e h
        go_enter Tryz.func207, Tryz.ntmps207
        go_wp2; go_ret
        exact ⟨rfl, rfl⟩
def uRaw : Int → List Int → Int
  | r, [] => r
  | r, c :: cs => uRaw (r * 64 + c % 64) cs
theorem uRaw_acc {l : List Int} (h : l.all uCont = true) (r : Int) : uRaw r l = uAcc r l := by
  induction l generalizing r with
  | nil => rfl
  | cons c cs ih =>
    rw [List.all_cons, Bool.and_eq_true] at h
    rw [uRaw, uAcc, ih h.2]
    have := h.1
    unfold uCont at this
    simp at this
    rw [show c % 64 = c - 128 by omega]
theorem uRaw_step {es : List Int} {p m : Nat} {x R : Int} (h : R = uRaw x ((es.drop p).take (m + 1))) (hp : p < es.length) : R = uRaw (x * 64 + Nt.lb es p % 64) ((es.drop (p + 1)).take m) := by
  rw [h, udrop_lb hp, List.take_succ_cons, uRaw]
def uMod : Nat → Int
  | 1 => 128
  | 2 => 32
  | 3 => 16
  | 4 => 8
  | _ => 0
theorem uLead_mod {c : Int} (h0 : 0 ≤ c) (h1 : c < 256) (hn : (uLead c).2 ≠ 0) : c % uMod (uLead c).2 = (uLead c).1 := by
  unfold uLead at hn ⊢
  split
  · show c % 128 = c; omega
  split
  · rename_i a b; rw [if_neg a, if_pos b] at hn; exact absurd rfl hn
  split
  · show c % 32 = c - 192; omega
  split
  · show c % 16 = c - 224; omega
  split
  · show c % 8 = c - 240; omega
  · rename_i a b c d e; rw [if_neg a, if_neg b, if_neg c, if_neg d, if_neg e] at hn; exact absurd rfl hn
set_option maxRecDepth 100000 in
set_option maxHeartbeats 4000000 in
theorem rbits_any {w : World} {s : ByteArray} {es : List Int} {k n : Nat} (hb : uByt es) (hs : s = strOfNums es) (hl : es.length ≤ 9223372036854775807) (hn : n = 1 ∨ n = 2 ∨ n = 3 ∨ n = 4) (hk : k + n ≤ es.length) :
    Calls Tryz.prog 204 #[.string s, .int .i64 k, .int .i64 n] w fun e w' => e = .returned (.int .i64 (uRaw (Nt.lb es k % uMod n) ((es.drop (k + 1)).take (n - 1)))) ∧ Below w.heap.size w w' := by
  have hsz : s.size = es.length := by rw [hs, strOfNums_size]
  have Hix := hide (show ∀ p (h : p < s.size), (((s[p]'h).toNat : Nat) : Int) = Nt.lb es p from fun p h => by subst hs; exact utxt_at h hb)
  have HB := hide (show ∀ p, p < es.length → 0 ≤ Nt.lb es p ∧ Nt.lb es p < 256 from fun p h => by have := hb _ (List.getElem_mem h); simpa [Nt.lb, h] using this)
  obtain ⟨L, hL⟩ : ∃ L, es.length = L := ⟨_, rfl⟩
  rw [hL] at hsz hl hk
  have HL := hide hL
  clear hs hL hb
  have hps : k < s.size := by omega
  have hx := Hix.out k hps
  have hc := HB.out k (by rw [HL.out]; omega)
  obtain ⟨R, hR⟩ : ∃ R, uRaw (Nt.lb es k % uMod n) ((es.drop (k + 1)).take (n - 1)) = R := ⟨_, rfl⟩
  rw [hR]
  have HR := hide hR.symm
  obtain ⟨c, hcc⟩ : ∃ c, Nt.lb es k = c := ⟨_, rfl⟩
  rw [hcc] at hx hc HR
  clear hR hcc
  have f0 : 0 ≤ (k : Int) ∧ (k : Int) < (L : Int) := by omega
  have hm : 0 ≤ c % uMod n ∧ c % uMod n < 128 := by rcases hn with rfl | rfl | rfl | rfl <;> simp only [uMod] <;> omega
  rcases hn with rfl | rfl | rfl | rfl
  · simp only [uMod] at HR hm
    go_enter Tryz.func204, Tryz.ntmps204
    go_wp2
    go_quiet (fail)
    go_wp2
    obtain ⟨w0, hw0⟩ : ∃ x, x = (w.alloc (.cells #[.int .i64 0, .int .i64 128, .int .i64 32, .int .i64 16, .int .i64 8] 259)).drewN nq := ⟨_, rfl⟩
    have HBW := hide (show Below w.heap.size w w0 by rw [hw0]; exact ubelow_drewN ((Below.refl _ _).alloc (Nat.le_refl _) _))
    rw [← hw0]
    clear hw0
    go_loopg [8, 9] (1 - 1) (fun c r i wr => ∃ (x : Int) (j : Nat), r = .int .i64 x ∧ i = .int .i64 j ∧ 1 ≤ j ∧ j ≤ 1 ∧ c = 1 - j ∧ 0 ≤ x ∧ (j = 1 ∧ x < 128 ∨ j = 2 ∧ x < 8192 ∨ j = 3 ∧ x < 524288 ∨ j = 4 ∧ x < 33554432) ∧ Hid (R = uRaw x ((es.drop (k + j)).take (1 - j))) ∧ w0 = wr)
    case atStart => exact ⟨_, 1, rfl, rfl, by omega, by omega, rfl, hm.1, by omega, HR, rfl⟩
    case round =>
      obtain ⟨x, j, rfl, rfl, hj1, hj2, hg, hx0, hxx, HJ, hw⟩ := hrel
      subst hw
      by_cases hjn : j < 1
      · have q1 : (j : Int) < 1 := by omega
        have hps2 : k + j < s.size := by omega
        have hx2 := Hix.out (k + j) hps2
        have hkj : k + j < es.length := by rw [HL.out]; omega
        have hc2 := HB.out (k + j) hkj
        have HJ2 := hide (uRaw_step (R := R) (x := x) (p := k + j) (m := 1 - (j + 1)) (by rw [show 1 - (j + 1) + 1 = 1 - j by omega]; exact HJ.out) hkj)
        obtain ⟨d, hd⟩ : ∃ d, Nt.lb es (k + j) = d := ⟨_, rfl⟩
        rw [hd] at hx2 hc2 HJ2
        clear hd hkj HJ
        have f5 : 0 ≤ (k : Int) + (j : Int) ∧ (k : Int) + (j : Int) < (L : Int) := by omega
        go_wp2
        go_roundg (1 - (j + 1))
        case measure => omega
        case rel => exact ⟨x * 64 + d % 64, j + 1, rfl, by simp, by omega, by omega, rfl, by omega, by omega, hide (by rw [HJ2.out]; rfl), rfl⟩
      · have q1 : ¬ (j : Int) < 1 := by omega
        go_wp2
        go_ret
        refine ⟨ret_i64 ?_, HBW.out⟩
        rw [HJ.out, show 1 - j = 0 by omega]; rfl
  · simp only [uMod] at HR hm
    go_enter Tryz.func204, Tryz.ntmps204
    go_wp2
    go_quiet (fail)
    go_wp2
    obtain ⟨w0, hw0⟩ : ∃ x, x = (w.alloc (.cells #[.int .i64 0, .int .i64 128, .int .i64 32, .int .i64 16, .int .i64 8] 259)).drewN nq := ⟨_, rfl⟩
    have HBW := hide (show Below w.heap.size w w0 by rw [hw0]; exact ubelow_drewN ((Below.refl _ _).alloc (Nat.le_refl _) _))
    rw [← hw0]
    clear hw0
    go_loopg [8, 9] (2 - 1) (fun c r i wr => ∃ (x : Int) (j : Nat), r = .int .i64 x ∧ i = .int .i64 j ∧ 1 ≤ j ∧ j ≤ 2 ∧ c = 2 - j ∧ 0 ≤ x ∧ (j = 1 ∧ x < 128 ∨ j = 2 ∧ x < 8192 ∨ j = 3 ∧ x < 524288 ∨ j = 4 ∧ x < 33554432) ∧ Hid (R = uRaw x ((es.drop (k + j)).take (2 - j))) ∧ w0 = wr)
    case atStart => exact ⟨_, 1, rfl, rfl, by omega, by omega, rfl, hm.1, by omega, HR, rfl⟩
    case round =>
      obtain ⟨x, j, rfl, rfl, hj1, hj2, hg, hx0, hxx, HJ, hw⟩ := hrel
      subst hw
      by_cases hjn : j < 2
      · have q1 : (j : Int) < 2 := by omega
        have hps2 : k + j < s.size := by omega
        have hx2 := Hix.out (k + j) hps2
        have hkj : k + j < es.length := by rw [HL.out]; omega
        have hc2 := HB.out (k + j) hkj
        have HJ2 := hide (uRaw_step (R := R) (x := x) (p := k + j) (m := 2 - (j + 1)) (by rw [show 2 - (j + 1) + 1 = 2 - j by omega]; exact HJ.out) hkj)
        obtain ⟨d, hd⟩ : ∃ d, Nt.lb es (k + j) = d := ⟨_, rfl⟩
        rw [hd] at hx2 hc2 HJ2
        clear hd hkj HJ
        have f5 : 0 ≤ (k : Int) + (j : Int) ∧ (k : Int) + (j : Int) < (L : Int) := by omega
        go_wp2
        go_roundg (2 - (j + 1))
        case measure => omega
        case rel => exact ⟨x * 64 + d % 64, j + 1, rfl, by simp, by omega, by omega, rfl, by omega, by omega, hide (by rw [HJ2.out]; rfl), rfl⟩
      · have q1 : ¬ (j : Int) < 2 := by omega
        go_wp2
        go_ret
        refine ⟨ret_i64 ?_, HBW.out⟩
        rw [HJ.out, show 2 - j = 0 by omega]; rfl
  · simp only [uMod] at HR hm
    go_enter Tryz.func204, Tryz.ntmps204
    go_wp2
    go_quiet (fail)
    go_wp2
    obtain ⟨w0, hw0⟩ : ∃ x, x = (w.alloc (.cells #[.int .i64 0, .int .i64 128, .int .i64 32, .int .i64 16, .int .i64 8] 259)).drewN nq := ⟨_, rfl⟩
    have HBW := hide (show Below w.heap.size w w0 by rw [hw0]; exact ubelow_drewN ((Below.refl _ _).alloc (Nat.le_refl _) _))
    rw [← hw0]
    clear hw0
    go_loopg [8, 9] (3 - 1) (fun c r i wr => ∃ (x : Int) (j : Nat), r = .int .i64 x ∧ i = .int .i64 j ∧ 1 ≤ j ∧ j ≤ 3 ∧ c = 3 - j ∧ 0 ≤ x ∧ (j = 1 ∧ x < 128 ∨ j = 2 ∧ x < 8192 ∨ j = 3 ∧ x < 524288 ∨ j = 4 ∧ x < 33554432) ∧ Hid (R = uRaw x ((es.drop (k + j)).take (3 - j))) ∧ w0 = wr)
    case atStart => exact ⟨_, 1, rfl, rfl, by omega, by omega, rfl, hm.1, by omega, HR, rfl⟩
    case round =>
      obtain ⟨x, j, rfl, rfl, hj1, hj2, hg, hx0, hxx, HJ, hw⟩ := hrel
      subst hw
      by_cases hjn : j < 3
      · have q1 : (j : Int) < 3 := by omega
        have hps2 : k + j < s.size := by omega
        have hx2 := Hix.out (k + j) hps2
        have hkj : k + j < es.length := by rw [HL.out]; omega
        have hc2 := HB.out (k + j) hkj
        have HJ2 := hide (uRaw_step (R := R) (x := x) (p := k + j) (m := 3 - (j + 1)) (by rw [show 3 - (j + 1) + 1 = 3 - j by omega]; exact HJ.out) hkj)
        obtain ⟨d, hd⟩ : ∃ d, Nt.lb es (k + j) = d := ⟨_, rfl⟩
        rw [hd] at hx2 hc2 HJ2
        clear hd hkj HJ
        have f5 : 0 ≤ (k : Int) + (j : Int) ∧ (k : Int) + (j : Int) < (L : Int) := by omega
        go_wp2
        go_roundg (3 - (j + 1))
        case measure => omega
        case rel => exact ⟨x * 64 + d % 64, j + 1, rfl, by simp, by omega, by omega, rfl, by omega, by omega, hide (by rw [HJ2.out]; rfl), rfl⟩
      · have q1 : ¬ (j : Int) < 3 := by omega
        go_wp2
        go_ret
        refine ⟨ret_i64 ?_, HBW.out⟩
        rw [HJ.out, show 3 - j = 0 by omega]; rfl
  · simp only [uMod] at HR hm
    go_enter Tryz.func204, Tryz.ntmps204
    go_wp2
    go_quiet (fail)
    go_wp2
    obtain ⟨w0, hw0⟩ : ∃ x, x = (w.alloc (.cells #[.int .i64 0, .int .i64 128, .int .i64 32, .int .i64 16, .int .i64 8] 259)).drewN nq := ⟨_, rfl⟩
    have HBW := hide (show Below w.heap.size w w0 by rw [hw0]; exact ubelow_drewN ((Below.refl _ _).alloc (Nat.le_refl _) _))
    rw [← hw0]
    clear hw0
    go_loopg [8, 9] (4 - 1) (fun c r i wr => ∃ (x : Int) (j : Nat), r = .int .i64 x ∧ i = .int .i64 j ∧ 1 ≤ j ∧ j ≤ 4 ∧ c = 4 - j ∧ 0 ≤ x ∧ (j = 1 ∧ x < 128 ∨ j = 2 ∧ x < 8192 ∨ j = 3 ∧ x < 524288 ∨ j = 4 ∧ x < 33554432) ∧ Hid (R = uRaw x ((es.drop (k + j)).take (4 - j))) ∧ w0 = wr)
    case atStart => exact ⟨_, 1, rfl, rfl, by omega, by omega, rfl, hm.1, by omega, HR, rfl⟩
    case round =>
      obtain ⟨x, j, rfl, rfl, hj1, hj2, hg, hx0, hxx, HJ, hw⟩ := hrel
      subst hw
      by_cases hjn : j < 4
      · have q1 : (j : Int) < 4 := by omega
        have hps2 : k + j < s.size := by omega
        have hx2 := Hix.out (k + j) hps2
        have hkj : k + j < es.length := by rw [HL.out]; omega
        have hc2 := HB.out (k + j) hkj
        have HJ2 := hide (uRaw_step (R := R) (x := x) (p := k + j) (m := 4 - (j + 1)) (by rw [show 4 - (j + 1) + 1 = 4 - j by omega]; exact HJ.out) hkj)
        obtain ⟨d, hd⟩ : ∃ d, Nt.lb es (k + j) = d := ⟨_, rfl⟩
        rw [hd] at hx2 hc2 HJ2
        clear hd hkj HJ
        have f5 : 0 ≤ (k : Int) + (j : Int) ∧ (k : Int) + (j : Int) < (L : Int) := by omega
        go_wp2
        go_roundg (4 - (j + 1))
        case measure => omega
        case rel => exact ⟨x * 64 + d % 64, j + 1, rfl, by simp, by omega, by omega, rfl, by omega, by omega, hide (by rw [HJ2.out]; rfl), rfl⟩
      · have q1 : ¬ (j : Int) < 4 := by omega
        go_wp2
        go_ret
        refine ⟨ret_i64 ?_, HBW.out⟩
        rw [HJ.out, show 4 - j = 0 by omega]; rfl
def uPre (bs l : List Int) : Bool := decide (l.take bs.length = bs)
theorem uPre_ext {bs l : List Int} (hl : bs.length ≤ l.length) (h : ∀ j, j < bs.length → Nt.lb l j = Nt.lb bs j) : uPre bs l = true := by
  unfold uPre
  rw [decide_eq_true_iff]
  apply List.ext_getElem
  · rw [List.length_take]; omega
  · intro i h1 h2
    have := h i h2
    rw [ulb_get h2, ulb_get (by omega)] at this
    rw [List.getElem_take]; exact this
theorem uPre_no {bs l : List Int} {j : Nat} (hj : j < bs.length) (hl : j < l.length) (h : Nt.lb l j ≠ Nt.lb bs j) : uPre bs l = false := by
  unfold uPre
  rw [decide_eq_false_iff_not]
  intro e
  have g := Nt.lb_take (xs := l) hj
  rw [e] at g
  exact h g.symm
theorem uPre_short {bs l : List Int} (h : l.length < bs.length) : uPre bs l = false := by
  unfold uPre
  rw [decide_eq_false_iff_not]
  intro e
  have := congrArg List.length e
  rw [List.length_take] at this
  omega
theorem ulb_drop (es : List Int) (k j : Nat) : Nt.lb (es.drop k) j = Nt.lb es (k + j) := by simp [Nt.lb, List.getElem?_drop]
set_option maxRecDepth 100000 in
set_option maxHeartbeats 4000000 in
theorem rstands_any {w : World} {s : ByteArray} {es bs : List Int} {v : Value} {k : Nat} (hb : uByt es) (hs : s = strOfNums es) (hl : es.length ≤ 9223372036854775807) (hk : k ≤ es.length) (hv : Reads .u8 w v bs) (hbs : bs.length ≤ 4) (hkb : (k : Int) + bs.length ≤ 9223372036854775807) :
    Calls Tryz.prog 206 #[.string s, .int .i64 k, v] w fun e w' => e = .returned (.bool (uPre bs (es.drop k))) ∧ Below w.heap.size w w' := by
  have hsz : s.size = es.length := by rw [hs, strOfNums_size]
  have Hix := hide (show ∀ p (h : p < s.size), (((s[p]'h).toNat : Nat) : Int) = Nt.lb es p from fun p h => by subst hs; exact utxt_at h hb)
  have HD := hide (List.length_drop (i := k) (l := es))
  obtain ⟨L, hL⟩ : ∃ L, es.length = L := ⟨_, rfl⟩
  rw [hL] at hsz hl hk HD
  clear hs hL hb
  obtain ⟨ao, ca, rfl, hxl, hxm, hxc⟩ := hv
  unfold maxLen at hxm
  obtain ⟨R, hR⟩ : ∃ R, uPre bs (es.drop k) = R := ⟨_, rfl⟩
  rw [hR]
  have HR := hide hR
  clear hR
  by_cases hsh : k + bs.length ≤ L
  · have f1 : decide ((L : Int) < (k : Int) + (bs.length : Int)) = false := decide_eq_false (by omega)
    go_enter Tryz.func206, Tryz.ntmps206
    go_wp2
    go_loopw [7] (fun i wr => ∃ j : Nat, j ≤ bs.length ∧ i = .int .i64 j ∧ Hid (∀ i, i < j → Nt.lb (es.drop k) i = Nt.lb bs i) ∧ Below w.heap.size w wr) (fun i _ => bs.length - (intOf i).toNat)
    case atStart => exact ⟨0, Nat.zero_le _, rfl, hide (fun j hj => by omega), Below.refl _ _⟩
    case round =>
      obtain ⟨j, hj, rfl, hsame, hbr⟩ := hrel
      by_cases hlt : j < bs.length
      · obtain ⟨b1, o1, rfl, _, hc1⟩ := (hxc.below hbr) (by omega)
        have g1 := hc1 j hlt
        have hps : k + j < s.size := by omega
        have hx := Hix.out (k + j) hps
        have f2 : 0 ≤ (k : Int) + (j : Int) ∧ (k : Int) + (j : Int) < (L : Int) := by omega
        have f3 : (j : Int) < (bs.length : Int) := by omega
        have hld := hide (ulb_drop es k j)
        clear hc1 hxc
        by_cases hq : Nt.lb es (k + j) = Nt.lb bs j
        · have hq' : (Nt.lb es (k + j) != Nt.lb bs j) = false := by simp [hq]
          have Hq := hide hq
          clear hq
          go_wp2
          go_quiet (fail)
          go_wp2
          go_roundw
          case rel => exact ⟨j + 1, by omega, by go_num, hide (fun i hi => by
                by_cases e : i = j
                · subst e; rw [hld.out]; exact Hq.out
                · exact hsame.out i (by omega)), ubelow_drewN hbr⟩
          case measure => simp [intOf]; omega
        · have hq' : (Nt.lb es (k + j) != Nt.lb bs j) = true := by simp [hq]
          have Hq := hide hq
          clear hq
          go_wp2
          go_quiet (fail)
          go_wp2
          go_ret
          refine ⟨ret_bool ?_, ubelow_drewN hbr⟩
          rw [← HR.out, uPre_no hlt (by rw [HD.out]; omega) (by rw [hld.out]; exact Hq.out)]
      · have f3 : ¬ (j : Int) < (bs.length : Int) := by omega
        go_wp2
        go_ret
        refine ⟨ret_bool ?_, hbr⟩
        rw [← HR.out, uPre_ext (by rw [HD.out]; omega) (fun i hi => hsame.out i (by omega))]
  · have f1 : decide ((L : Int) < (k : Int) + (bs.length : Int)) = true := decide_eq_true (by omega)
    go_enter Tryz.func206, Tryz.ntmps206
    go_wp2
    go_ret
    refine ⟨ret_bool ?_, Below.refl _ _⟩
    rw [← HR.out, uPre_short (by rw [HD.out]; omega)]
theorem ubcell {W w1 : World} (hb : Below W.heap.size W w1) : (∀ b o, b < W.heap.size → w1.cell? ⟨b, o, none⟩ = W.cell? ⟨b, o, none⟩) ∧ (∀ b o, b < W.heap.size → w1.frozen? ⟨b, o, none⟩ = W.frozen? ⟨b, o, none⟩) :=
  ⟨fun b o h => hb.cell (p := ⟨b, o, none⟩) h, fun b o h => hb.frozen (p := ⟨b, o, none⟩) h⟩
theorem ubelow4 {w W : World} {o : Obj} {a b c d : Value} (h : Below (w.alloc o).heap.size (w.alloc o) W) : Below w.heap.size w ((((W.setCell ⟨w.heap.size, 0, none⟩ a).setCell ⟨w.heap.size, 1, none⟩ b).setCell ⟨w.heap.size, 2, none⟩ c).setCell ⟨w.heap.size, 3, none⟩ d) :=
  (((((((Below.refl w.heap.size w).alloc (Nat.le_refl _) o).trans (h.mono (by simp))).setCell (p := ⟨w.heap.size, 0, none⟩) (Nat.le_refl _) a).setCell (p := ⟨w.heap.size, 1, none⟩) (Nat.le_refl _) b).setCell (p := ⟨w.heap.size, 2, none⟩) (Nat.le_refl _) c).setCell (p := ⟨w.heap.size, 3, none⟩) (Nat.le_refl _) d)
theorem rdec_yes {es : List Int} {k n : Nat} {p : Int} (hk : k < es.length) (hn : (uLead (Nt.lb es k)).2 = n) (hp : p = uRaw (uLead (Nt.lb es k)).1 ((es.drop (k + 1)).take (n - 1))) (h1 : uPt p = true) (h2 : uPre (uEnc p) (es.drop k) = true) (h3 : (uEnc p).length = n) : uDec (es.drop k) = (p, n) := by
  unfold uPre at h2
  have e := of_decide_eq_true h2
  have := List.take_append_drop (uEnc p).length (es.drop k)
  rw [e] at this
  rw [← this, uDec_enc _ h1, h3]
theorem rdec_no {es : List Int} {k n : Nat} {p : Int} (hb : uByt es) (hk : k < es.length) (hn : (uLead (Nt.lb es k)).2 = n) (hp : p = uRaw (uLead (Nt.lb es k)).1 ((es.drop (k + 1)).take (n - 1))) (h : ¬ (uPt p = true ∧ uPre (uEnc p) (es.drop k) = true ∧ (uEnc p).length = n)) : uDec (es.drop k) = (0, 0) := by
  apply uDec_zero
  apply Classical.byContradiction
  intro hne
  obtain ⟨a1, a2, a3⟩ := uDec_cases (hb.drop k) hne
  have hd := uDec_at hk
  rw [hn] at hd
  rw [hd] at hne a1 a2 a3
  split at hne
  · exact hne rfl
  · rename_i g1
    rw [if_neg g1] at a1 a2 a3
    split at hne
    · exact hne rfl
    · rename_i g2
      rw [if_neg g2] at a1 a2 a3
      rw [uGo_eq] at hne a1 a2 a3
      split at hne
      · exact hne rfl
      · rename_i g3
        rw [if_neg g3] at a1 a2 a3
        split at hne
        · rename_i g4
          rw [if_pos g4] at a1 a2 a3
          simp only at a1 a2 a3
          rw [← uRaw_acc (by simpa using g3), ← hp] at a1 a2 a3
          refine h ⟨a1, ?_, a2⟩
          unfold uPre
          rw [decide_eq_true_iff, a3, a2]
          rw [← a2, List.take_left]
        · exact hne rfl
theorem uLead_zero {es : List Int} {k : Nat} (hk : k < es.length) (h : (uLead (Nt.lb es k)).2 = 0 ∨ es.length < k + (uLead (Nt.lb es k)).2) : uDec (es.drop k) = (0, 0) := by
  rw [uDec_at hk]
  split
  · rfl
  · rw [if_pos (by omega)]
def uStepV (k : Nat) (c : Int) (D : Int × Nat) : Value := if D.2 = 0 then .agg #[.int .i64 k, .int .i64 1, .int .i64 c, .bool false] else .agg #[.int .i64 k, .int .i64 D.2, .int .i64 D.1, .bool true]
theorem uStepV_no (k : Nat) (c : Int) : uStepV k c (0, 0) = .agg #[.int .i64 k, .int .i64 1, .int .i64 c, .bool false] := rfl
theorem uStepV_yes (k : Nat) (c : Int) {p : Int} {n : Nat} (h : n ≠ 0) : uStepV k c (p, n) = .agg #[.int .i64 k, .int .i64 n, .int .i64 p, .bool true] := by unfold uStepV; rw [if_neg h]
set_option maxRecDepth 100000 in
set_option maxHeartbeats 4000000 in
theorem rfirst_any {w : World} {s : ByteArray} {es : List Int} {k : Nat} (hb : uByt es) (hs : s = strOfNums es) (hl : es.length ≤ 9223372036854775800) (hk : k < es.length) :
    Calls Tryz.prog 183 #[.string s, .int .i64 k] w fun e w' => e = .returned (uStepV k (Nt.lb es k) (uDec (es.drop k))) ∧ Below w.heap.size w w' := by
  have hsz : s.size = es.length := by rw [hs, strOfNums_size]
  have hx : (((s[k]'(by rw [hsz]; exact hk)).toNat : Nat) : Int) = Nt.lb es k := by subst hs; exact utxt_at _ hb
  have hc : 0 ≤ Nt.lb es k ∧ Nt.lb es k < 256 := by have := hb _ (List.getElem_mem hk); simpa [Nt.lb, hk] using this
  have hZ := hide (fun h => uLead_zero (es := es) hk h)
  have hY := hide (fun (p : Int) (n : Nat) h => rdec_yes (es := es) (n := n) (p := p) hk h)
  have hN := hide (fun (p : Int) (n : Nat) h => rdec_no (es := es) (n := n) (p := p) hb hk h)
  have HM := hide (fun h => uLead_mod hc.1 hc.2 h)
  have HBT := hide (fun (n : Nat) hn hkn w => rbits_any (w := w) (n := n) (k := k) hb hs (by omega) hn hkn)
  have HST := hide (fun (bs : List Int) (v : Value) (w : World) hv h1 h2 => rstands_any (w := w) (bs := bs) (v := v) (k := k) hb hs (by omega) (by omega) hv h1 h2)
  have hn4 := uLead_le (Nt.lb es k)
  have HSZ := hide (fun w => rsize_any (w := w) hc.1 hc.2)
  obtain ⟨D, hD⟩ : ∃ D, uDec (es.drop k) = D := ⟨_, rfl⟩
  rw [hD] at hZ hY hN ⊢
  obtain ⟨⟨b, n⟩, hle⟩ : ∃ P, uLead (Nt.lb es k) = P := ⟨_, rfl⟩
  rw [hle] at hZ hY hN HM hn4 HSZ
  obtain ⟨c, hcc⟩ : ∃ c, Nt.lb es k = c := ⟨_, rfl⟩
  rw [hcc] at hx hc HM HBT HSZ ⊢
  simp only at hn4 HSZ HM
  obtain ⟨L, hL⟩ : ∃ L, es.length = L := ⟨_, rfl⟩
  have HL := hide hL
  rw [hL] at hsz hl hk hZ HBT
  have hps : k < s.size := by omega
  have f0 : 0 ≤ (k : Int) ∧ (k : Int) < (L : Int) := by omega
  clear hs hb hD hcc hle hL
  by_cases hn : n = 0
  · subst hn
    have hDe : D = (0, 0) := hZ.out (.inl rfl)
    subst hDe
    rw [uStepV_no]
    go_enter Tryz.func183, Tryz.ntmps183
    go_wp2_with (go_at_call 203; refine (HSZ.out _).mono ?_; rintro e w' ⟨rfl, rfl⟩)
    refine bodyPost_ret (v := .agg #[.int .i64 k, .int .i64 1, .int .i64 c, .bool false]) (by simp [results, Tryz.results183, go_sem]) rfl ⟨rfl, ?_⟩
    exact (Below.refl _ _).alloc (Nat.le_refl _) _
  · have f1 : (0 : Int) < (n : Int) := by omega
    by_cases hlen : k + n ≤ L
    · have f2 : (k : Int) + (n : Int) ≤ (L : Int) := by omega
      have HB2 := hide (HBT.out n (by omega) hlen)
      rw [HM.out hn] at HB2
      obtain ⟨p, hp⟩ : ∃ p, uRaw b ((es.drop (k + 1)).take (n - 1)) = p := ⟨_, rfl⟩
      rw [hp] at HB2
      have hY2 := hide (hY.out p n rfl hp.symm)
      have hN2 := hide (hN.out p n rfl hp.symm)
      clear hY hN hp HBT hZ HM
      cases hpt : uPt p with
      | true =>
        cases hpre : uPre (uEnc p) (es.drop k) with
        | true =>
          by_cases hlen2 : (uEnc p).length = n
          · have hDe : D = (p, n) := hY2.out hpt hpre hlen2
            subst hDe
            rw [uStepV_yes k c hn]
            have q1 : ((n : Int) == (n : Int)) = true := beq_self_eq_true _
            clear hY2 hN2
            go_enter Tryz.func183, Tryz.ntmps183
            go_wp2_with fail
            refine (HSZ.out _).mono ?_
            rintro e w' ⟨rfl, rfl⟩
            go_wp2_with fail
            refine (HB2.out _).mono ?_
            rintro e w1 ⟨rfl, hB1⟩
            go_wp2_with fail
            refine rpoint_any.mono ?_
            rintro e w' ⟨rfl, rfl⟩
            rw [hpt]
            go_wp2_with fail
            refine (renc_any hpt).mono ?_
            rintro e w2 ⟨rfl, rfl⟩
            have hrd : Reads .u8 (w'.alloc (.cells ((uEnc p).map (Value.int .u8)).toArray 5)) (.slice (some ⟨w'.heap.size, 0, none⟩) (uEnc p).length (uEnc p).length) (uEnc p) := built_reads (by have := uEnc_le p; omega)
            have HSTp := hide (HST.out _ _ _ hrd (uEnc_le p) (by have := uEnc_le p; omega))
            rw [hpre, hlen2] at HSTp
            go_wp2_with fail
            refine HSTp.out.mono ?_
            rintro e w3 ⟨rfl, hB3⟩
            have hB4 := hB1.trans (((Below.refl _ _).alloc hB1.size _).trans (hB3.mono (by have := hB1.size; simp at this ⊢; omega)))
            go_wp2_with fail
            refine (renc_any hpt).mono ?_
            rintro e w4 ⟨rfl, rfl⟩
            have hB4 := hB4.trans ((Below.refl _ _).alloc hB4.size (.cells ((uEnc p).map (Value.int .u8)).toArray 5))
            obtain ⟨hcl, hfr⟩ := ubcell hB4
            have HB4 := hide hB4
            go_wp2
            refine bodyPost_ret (v := .agg #[.int .i64 k, .int .i64 n, .int .i64 p, .bool true]) (by simp [results, Tryz.results183, go_sem, hcl]) rfl ⟨rfl, ?_⟩
            exact ubelow4 HB4.out
          · have hDe : D = (0, 0) := hN2.out (fun h => hlen2 h.2.2)
            subst hDe
            rw [uStepV_no]
            obtain ⟨m, hm⟩ : ∃ m, (uEnc p).length = m := ⟨_, rfl⟩
            have q1 : ((m : Int) == (n : Int)) = false := beq_eq_false_iff_ne.2 (by omega)
            clear hY2 hN2 hlen2
            go_enter Tryz.func183, Tryz.ntmps183
            go_wp2_with fail
            refine (HSZ.out _).mono ?_
            rintro e w' ⟨rfl, rfl⟩
            go_wp2_with fail
            refine (HB2.out _).mono ?_
            rintro e w1 ⟨rfl, hB1⟩
            go_wp2_with fail
            refine rpoint_any.mono ?_
            rintro e w' ⟨rfl, rfl⟩
            rw [hpt]
            go_wp2_with fail
            refine (renc_any hpt).mono ?_
            rintro e w2 ⟨rfl, rfl⟩
            have hrd : Reads .u8 (w'.alloc (.cells ((uEnc p).map (Value.int .u8)).toArray 5)) (.slice (some ⟨w'.heap.size, 0, none⟩) (uEnc p).length (uEnc p).length) (uEnc p) := built_reads (by have := uEnc_le p; omega)
            have HSTp := hide (HST.out _ _ _ hrd (uEnc_le p) (by have := uEnc_le p; omega))
            rw [hpre, hm] at HSTp
            go_wp2_with fail
            refine HSTp.out.mono ?_
            rintro e w3 ⟨rfl, hB3⟩
            have hB4 := hB1.trans (((Below.refl _ _).alloc hB1.size _).trans (hB3.mono (by have := hB1.size; simp at this ⊢; omega)))
            go_wp2_with fail
            refine (renc_any hpt).mono ?_
            rintro e w4 ⟨rfl, rfl⟩
            have hB4 := hB4.trans ((Below.refl _ _).alloc hB4.size (.cells ((uEnc p).map (Value.int .u8)).toArray 5))
            obtain ⟨hcl, hfr⟩ := ubcell hB4
            have HB4 := hide hB4
            go_wp2
            refine bodyPost_ret (v := .agg #[.int .i64 k, .int .i64 1, .int .i64 c, .bool false]) (by simp [results, Tryz.results183, go_sem, hcl]) rfl ⟨rfl, ?_⟩
            exact ubelow4 HB4.out
        | false =>
          have hDe : D = (0, 0) := hN2.out (fun h => by rw [hpre] at h; exact absurd h.2.1 (by simp))
          subst hDe
          rw [uStepV_no]
          obtain ⟨m, hm⟩ : ∃ m, (uEnc p).length = m := ⟨_, rfl⟩
          clear hY2 hN2
          go_enter Tryz.func183, Tryz.ntmps183
          go_wp2_with fail
          refine (HSZ.out _).mono ?_
          rintro e w' ⟨rfl, rfl⟩
          go_wp2_with fail
          refine (HB2.out _).mono ?_
          rintro e w1 ⟨rfl, hB1⟩
          go_wp2_with fail
          refine rpoint_any.mono ?_
          rintro e w' ⟨rfl, rfl⟩
          rw [hpt]
          go_wp2_with fail
          refine (renc_any hpt).mono ?_
          rintro e w2 ⟨rfl, rfl⟩
          have hrd : Reads .u8 (w'.alloc (.cells ((uEnc p).map (Value.int .u8)).toArray 5)) (.slice (some ⟨w'.heap.size, 0, none⟩) (uEnc p).length (uEnc p).length) (uEnc p) := built_reads (by have := uEnc_le p; omega)
          have HSTp := hide (HST.out _ _ _ hrd (uEnc_le p) (by have := uEnc_le p; omega))
          rw [hpre, hm] at HSTp
          go_wp2_with fail
          refine HSTp.out.mono ?_
          rintro e w3 ⟨rfl, hB3⟩
          have hB4 := hB1.trans (((Below.refl _ _).alloc hB1.size _).trans (hB3.mono (by have := hB1.size; simp at this ⊢; omega)))
          obtain ⟨hcl, hfr⟩ := ubcell hB4
          have HB4 := hide hB4
          go_wp2
          refine bodyPost_ret (v := .agg #[.int .i64 k, .int .i64 1, .int .i64 c, .bool false]) (by simp [results, Tryz.results183, go_sem, hcl]) rfl ⟨rfl, ?_⟩
          exact ubelow4 HB4.out
      | false =>
        have hDe : D = (0, 0) := hN2.out (fun h => by rw [hpt] at h; exact absurd h.1 (by simp))
        subst hDe
        rw [uStepV_no]
        clear hY2 hN2
        go_enter Tryz.func183, Tryz.ntmps183
        go_wp2_with fail
        refine (HSZ.out _).mono ?_
        rintro e w' ⟨rfl, rfl⟩
        go_wp2_with fail
        refine (HB2.out _).mono ?_
        rintro e w1 ⟨rfl, hB1⟩
        go_wp2_with fail
        refine rpoint_any.mono ?_
        rintro e w' ⟨rfl, rfl⟩
        rw [hpt]
        obtain ⟨hcl, hfr⟩ := ubcell hB1
        have HB4 := hide hB1
        go_wp2
        refine bodyPost_ret (v := .agg #[.int .i64 k, .int .i64 1, .int .i64 c, .bool false]) (by simp [results, Tryz.results183, go_sem, hcl]) rfl ⟨rfl, ?_⟩
        exact ubelow4 HB4.out
    · have f2 : decide ((k : Int) + (n : Int) ≤ (L : Int)) = false := decide_eq_false (by omega)
      have hDe : D = (0, 0) := hZ.out (.inr (by simp only; omega))
      subst hDe
      rw [uStepV_no]
      clear hY hN hZ
      go_enter Tryz.func183, Tryz.ntmps183
      go_wp2_with (go_at_call 203; refine (HSZ.out _).mono ?_; rintro e w' ⟨rfl, rfl⟩)
      refine bodyPost_ret (v := .agg #[.int .i64 k, .int .i64 1, .int .i64 c, .bool false]) (by simp [results, Tryz.results183, go_sem]) rfl ⟨rfl, ?_⟩
      exact (Below.refl _ _).alloc (Nat.le_refl _) _
set_option maxRecDepth 100000 in
set_option maxHeartbeats 4000000 in
theorem rbad_any {w : World} {s : ByteArray} {es ps t : List Int} (hb : uByt es) (hs : s = strOfNums es) (hl : es.length ≤ 9223372036854775800) (hS : USplit es ps t) :
    Calls Tryz.prog 151 #[.string s] w fun e w' => e = .returned (.int .i64 ((uFlat ps).length : Nat)) ∧ Below w.heap.size w w' := by
  have hsz : s.size = es.length := by rw [hs, strOfNums_size]
  have HF := hide (fun (k : Nat) hk w => rfirst_any (w := w) (k := k) hb hs hl hk)
  have HS := hide hS
  obtain ⟨L, hL⟩ : ∃ L, es.length = L := ⟨_, rfl⟩
  rw [hL] at hsz hl
  have HL := hide hL
  clear hs hb hL hS
  go_enter Tryz.func151, Tryz.ntmps151
  go_wp2_with fail
  go_loopg [3] L (fun c i wr => ∃ (k : Nat) (ds rest : List Int), i = .int .i64 k ∧ c = L - k ∧ Hid (ps = ds ++ rest) ∧ Hid ((uFlat ds).length = k) ∧ Below w.heap.size w wr)
  case atStart => exact ⟨0, [], ps, rfl, by simp, hide rfl, hide rfl, Below.refl _ _⟩
  case round =>
    obtain ⟨k, ds, rest, rfl, hg, hp, hk, hbr⟩ := hrel
    have hSp : USplit es (ds ++ rest) t := by rw [← hp.out]; exact HS.out
    have hat := hSp.at
    have hle : k ≤ L := by rw [← hk.out, ← HL.out, hSp.eq, uFlat_append, List.append_assoc, List.length_append]; omega
    rw [hk.out] at hat
    cases rest with
    | nil =>
      have hbad := hSp.bad
      rw [uFlat_nil, List.nil_append] at hat
      have hps : ps = ds := by rw [hp.out, List.append_nil]
      subst hps
      by_cases hlt : k < L
      · have q : (k : Int) < (L : Int) := by omega
        have hz : uDec (es.drop k) = (0, 0) := by rw [hat]; exact uDec_zero hbad
        have HFk := hide (HF.out k (by rw [HL.out]; exact hlt))
        rw [hz, uStepV_no] at HFk
        have HHat := hide hat
        have HSp := hide hSp
        clear hz hat hbad hSp HF
        go_wp2_with (go_at_call 183; refine (HFk.out _).mono ?_; rintro e w1 ⟨rfl, hB1⟩)
        go_ret
        have z1 := hbr.size
        have z2 := hB1.size
        exact ⟨ret_i64 (by rw [hk.out]), (hbr.trans (hB1.mono z1)).alloc (by omega) _⟩
      · have q : ¬ (k : Int) < (L : Int) := by omega
        go_wp2
        go_ret
        exact ⟨ret_i64 (by rw [hk.out]; omega), hbr⟩
    | cons p rest =>
      have hst : uDec (es.drop k) = (p, (uEnc p).length) := by have := hSp.rest.step; rw [hk.out] at this; exact this
      have hpos := uEnc_pos p
      have hall : (uFlat (ds ++ [p])).length ≤ L := by
        rw [← HL.out, hSp.eq, show ds ++ p :: rest = (ds ++ [p]) ++ rest by simp, uFlat_append (ds ++ [p]), List.append_assoc, List.length_append]; omega
      rw [uFlat_snoc, List.length_append, hk.out] at hall
      have Hfs := hide (show (uFlat (ds ++ [p])).length = k + (uEnc p).length by rw [uFlat_snoc, List.length_append, hk.out])
      obtain ⟨z, hz⟩ : ∃ z, (uEnc p).length = z := ⟨_, rfl⟩
      rw [hz] at hst hpos hall Hfs
      have q : (k : Int) < (L : Int) := by omega
      have HFk := hide (HF.out k (by rw [HL.out]; omega))
      rw [hst, uStepV_yes _ _ (by omega)] at HFk
      have HSp := hide hSp
      clear hat hSp hst hz HF
      go_wp2_with (go_at_call 183; refine (HFk.out _).mono ?_; rintro e w1 ⟨rfl, hB1⟩)
      go_roundg (L - (k + z))
      case measure => omega
      case rel =>
        have z1 := hbr.size
        have z2 := hB1.size
        exact ⟨k + z, ds ++ [p], rest, by simp, rfl, hide (by rw [hp.out]; simp), Hfs, (hbr.trans (hB1.mono z1)).alloc (by omega) _⟩
end Go.Proofs.YticmlelalbaalaaGreatDoor
