/- ecma: what is shown of any pattern; finite -/
import Derived.Test.YtfnfnkakaggmbaaGreatDoorQ27
import Derived.Test.YtfnfnkakaggmbaaGreatDoorQ29
namespace Go.Proofs.YtfnfnkakaggmbaaGreatDoor
open Go.RowKit
set_option linter.unusedVariables false

theorem Ew.ev2 {w : World} {a : Nat → Addr} (h : Ew w a) : Ev w :=
  ⟨h.T, h.U, h.P, h.g, ⟨_, _, by have := h.S.cell 2 (by omega); simpa only [sG, List.getD_cons_succ, List.getD_cons_zero] using this⟩, by have := h.S.lt (i := 2) (by omega); simpa only [sG, List.getD_cons_succ, List.getD_cons_zero] using this⟩
theorem lay_has {s p c : Int} {k : Nat} (ng : Bool) (s0 : 0 < s) (s1 : s < 9218868437227405312) (sh : ShP 4503599627370496 (-1074) s p k c) (h17 : k ≤ 17) :
    DV 4503599627370496 (-1074) 9218868437227405312 (dg (voDs (layoutT ng (txt k c) (pt k c p)))) (voPt (layoutT ng (txt k c) (pt k c p)) - (voDs (layoutT ng (txt k c) (pt k c p))).length) s := by
  obtain ⟨N, td⟩ := td_64 s0 s1 sh h17
  obtain ⟨c', e1, e2⟩ := (laid_of (ng := ng) (td_bare td) td.p0 td.p1).val
  rw [e1, e2]
  exact dv_behind c' (td_dv (by decide) (by decide) s0 s1 td)
/-- what is shown of a finite pattern -/
def Shw (x : Int) (T : List Int) : Prop := (x % 9223372036854775808 = 0 ∧ T = [48]) ∨
  (0 < x % 9223372036854775808 ∧ ∃ p k c, ShP 4503599627370496 (-1074) (x % 9223372036854775808) p k c ∧ k ≤ 17 ∧ T = layoutT (decide (9223372036854775808 ≤ x)) (txt k c) (pt k c p))
theorem show_w {w : World} {a : Nat → Addr} (E : Ew w a) {x : Int} (x0 : 0 ≤ x) (x1 : x < 18446744073709551616) (hf : x % 9223372036854775808 < 9218868437227405312) :
    Calls Tryz.prog 12 #[.int .u64 x] w fun e w' => (∃ T, Shw x T ∧ e = .returned (.string (strOfNums T))) ∧ Below w.heap.size w w' := by
  by_cases h0 : x % 9223372036854775808 = 0
  · refine (show_zero E.T x0 x1 h0).mono ?_
    rintro e w' ⟨rfl, hb⟩
    exact ⟨⟨[48], Or.inl ⟨h0, rfl⟩, rfl⟩, hb⟩
  · have hp : 0 < x % 9223372036854775808 := by omega
    refine (show_sh E.T E.U E.P E.g x0 x1 rfl rfl hp hf).mono ?_
    rintro e w' ⟨p, k, c, sh, h17, rfl, hb⟩
    exact ⟨⟨_, Or.inr ⟨hp, p, k, c, sh, h17, rfl⟩, rfl⟩, hb⟩
theorem Shw.shn {x : Int} {T : List Int} (h : Shw x T) (hf : x % 9223372036854775808 < 9218868437227405312) :
    Shn (x % 9223372036854775808) (decide (x % 9223372036854775808 ≠ 0 ∧ 9223372036854775808 ≤ x)) T ∧ DV 4503599627370496 (-1074) 9218868437227405312 (dg (voDs T)) (voPt T - (voDs T).length) (x % 9223372036854775808) := by
  rcases h with ⟨h0, rfl⟩ | ⟨hp, p, k, c, sh, h17, rfl⟩
  · rw [h0, decide_eq_false (by simp)]
    exact ⟨shn_zero, by rw [show dg (voDs [48]) = 0 by decide]; exact dv_zero wide_d⟩
  · have e : decide (x % 9223372036854775808 ≠ 0 ∧ 9223372036854775808 ≤ x) = decide (9223372036854775808 ≤ x) := by
      by_cases g : 9223372036854775808 ≤ x
      · rw [decide_eq_true (show x % 9223372036854775808 ≠ 0 ∧ 9223372036854775808 ≤ x from ⟨by omega, g⟩), decide_eq_true g]
      · rw [decide_eq_false (fun h => g h.2), decide_eq_false g]
    rw [e]
    exact ⟨shn_of _ hp hf sh h17, lay_has _ hp hf sh h17⟩
theorem read_w {w : World} {a : Nat → Addr} (E : Ew w a) {x : Int} {T : List Int} {t : ByteArray} (x0 : 0 ≤ x) (x1 : x < 18446744073709551616) (hf : x % 9223372036854775808 < 9218868437227405312) (h : Shw x T) (ht : t = strOfNums T) :
    Calls Tryz.prog 15 #[.string t] w fun e w' => e = .returned (.tuple #[.int .u64 (if x = 9223372036854775808 then 0 else x), .nilIface]) ∧ Below w.heap.size w w' := by
  refine (read_shn E.ev2 (h.shn hf).1 (by omega) hf ht).mono ?_
  rintro e w' ⟨rfl, hb⟩
  refine ⟨?_, hb⟩
  have e1 : x % 9223372036854775808 + b2i (decide (x % 9223372036854775808 ≠ 0 ∧ 9223372036854775808 ≤ x)) * 9223372036854775808 = if x = 9223372036854775808 then 0 else x := by
    by_cases g : x % 9223372036854775808 ≠ 0 ∧ 9223372036854775808 ≤ x
    · rw [decide_eq_true g, if_neg (by omega), show b2i true = 1 from rfl]; omega
    · rw [decide_eq_false g, show b2i false = 0 from rfl]
      split <;> omega
  rw [e1]
/-- one text, one pattern, but for the noughts -/
theorem shw_iff {x y : Int} {T T' : List Int} (x0 : 0 ≤ x) (x1 : x < 18446744073709551616) (y0 : 0 ≤ y) (y1 : y < 18446744073709551616) (hf : x % 9223372036854775808 < 9218868437227405312) (hg : y % 9223372036854775808 < 9218868437227405312) (h : Shw x T) (h' : Shw y T') :
    T = T' ↔ (x = y ∨ (x % 9223372036854775808 = 0 ∧ y % 9223372036854775808 = 0)) := by
  have hx := h.shn hf
  have hy := h'.shn hg
  constructor
  · rintro rfl
    have e1 := hx.1.dv _ hy.2
    have e2 := hx.1.sg.symm.trans hy.1.sg
    rw [e1] at e2
    by_cases hz : x % 9223372036854775808 = 0
    · right; omega
    · left
      have := decide_eq_decide.1 e2
      omega
  · rintro (rfl | ⟨hz, hz'⟩)
    · rcases h with ⟨h0, rfl⟩ | ⟨hp, p, k, c, sh, h17, rfl⟩ <;> rcases h' with ⟨h0', rfl⟩ | ⟨hp', p', k', c', sh', h17', rfl⟩
      · rfl
      · omega
      · omega
      · obtain ⟨rfl, rfl, rfl⟩ := Sh.unique (gG_pos _) sh sh'
        rfl
    · rcases h with ⟨h0, rfl⟩ | ⟨hp, _⟩ <;> rcases h' with ⟨h0', rfl⟩ | ⟨hp', _⟩
      · rfl
      · omega
      · omega
      · omega
set_option maxHeartbeats 4000000 in
theorem finite_any {w : World} (T : Lays w) {x : Int} (x0 : 0 ≤ x) (x1 : x < 18446744073709551616) :
    Calls Tryz.prog 16 #[.int .u64 x] w fun e w' => e = .returned (.bool (decide (x % 9223372036854775808 < 9218868437227405312))) ∧ Below w.heap.size w w' := by
  have HC := hide (class_64 T x _ x0 x1 rfl)
  obtain ⟨s, hs⟩ : ∃ s, x % 9223372036854775808 = s := ⟨_, rfl⟩
  have s0 : 0 ≤ s := by omega
  rw [hs] at HC ⊢
  obtain ⟨c, hc, hd⟩ : ∃ c : Int, cls 9223372036854775808 4503599627370496 s = c ∧ ((c = 1 ∨ c = 2 ∨ c = 3) ∧ s < 9218868437227405312 ∨ (c = 4 ∨ c = 5) ∧ ¬ s < 9218868437227405312) := by
    refine ⟨_, rfl, ?_⟩
    unfold cls
    repeat' split
    all_goals omega
  rw [hc] at HC
  clear hc hs
  rcases hd with ⟨hd, h1⟩ | ⟨hd, h1⟩
  · rw [decide_eq_true h1]
    rcases hd with rfl | rfl | rfl
    all_goals
      go_enter Tryz.func16, Tryz.ntmps16
      go_wp2_with fail
      refine HC.out.mono ?_
      rintro e w1 ⟨rfl, b1⟩
      go_wp2
      go_ret
      exact ⟨rfl, b1⟩
  · rw [decide_eq_false h1]
    rcases hd with rfl | rfl
    all_goals
      go_enter Tryz.func16, Tryz.ntmps16
      go_wp2_with fail
      refine HC.out.mono ?_
      rintro e w1 ⟨rfl, b1⟩
      go_wp2
      go_ret
      exact ⟨rfl, b1⟩
/-- what is shown of a pattern that is not finite: it is no number -/
theorem show_odd {w : World} {a : Nat → Addr} (E : Ew w a) {x : Int} (x0 : 0 ≤ x) (x1 : x < 18446744073709551616) (hf : ¬ x % 9223372036854775808 < 9218868437227405312) :
    Calls Tryz.prog 12 #[.int .u64 x] w fun e w' => (∃ T, Byt T ∧ T.length ≤ 9 ∧ (scG T 0 0).2 = false ∧ e = .returned (.string (strOfNums T))) ∧ Below w.heap.size w w' := by
  by_cases h1 : x % 9223372036854775808 = 9218868437227405312
  · by_cases h2 : x < 9223372036854775808
    · obtain rfl : x = 9218868437227405312 := by omega
      refine (show_inf E.T).mono ?_
      rintro e w' ⟨rfl, hb⟩
      exact ⟨⟨[73, 110, 102, 105, 110, 105, 116, 121], by intro y hy; simp at hy; omega, by simp, by decide, rfl⟩, hb⟩
    · obtain rfl : x = 18442240474082181120 := by omega
      refine (show_ninf E.T).mono ?_
      rintro e w' ⟨rfl, hb⟩
      exact ⟨⟨[45, 73, 110, 102, 105, 110, 105, 116, 121], by intro y hy; simp at hy; omega, by simp, by decide, rfl⟩, hb⟩
  · refine (show_nan E.T x0 x1 (by omega)).mono ?_
    rintro e w' ⟨rfl, hb⟩
    exact ⟨⟨[78, 97, 78], by intro y hy; simp at hy; omega, by simp, by decide, rfl⟩, hb⟩

end Go.Proofs.YtfnfnkakaggmbaaGreatDoor
