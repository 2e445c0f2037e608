/- ELv -/
import Derived.Test.YtinfkoiifemjmaaGreatDoorS32
import Derived.Test.YtinfkoiifemjmaaGreatDoorS31
import Derived.Test.YtinfkoiifemjmaaGreatDoorS19
import Derived.Test.YtinfkoiifemjmaaGreatDoorS34
namespace Go.Proofs.YtinfkoiifemjmaaGreatDoor
open Go.RowKit
set_option linter.unusedVariables false

/-- what ecma's functions and the laws' look at -/
structure Ew (w : World) (a : Nat → Addr) : Prop where
  T : Lays w
  U : Brn w
  P : Lib.TabIs Tryz.prog w "internal/strconv.uint64pow10" .u64 Lib.pow10Tab
  g : 14 < w.heap.size
  S : Snt w a
  H : Hnd w
theorem Ew.below {w w' : World} {a : Nat → Addr} (h : Ew w a) (hb : Below w.heap.size w w') : Ew w' a :=
  ⟨h.T.below hb, h.U.below hb, ((show Pt w.heap.size w from ⟨h.g, h.P⟩).below hb).2, Nat.lt_of_lt_of_le h.g hb.size, h.S.below hb, h.H.below hb⟩
/-- what Read answers -/
def RdF (es : List Int) (a : Nat → Addr) (e : Ending) (w : World) : Prop :=
  (∃ v k, e = .returned (.tuple #[.int .u64 0, v]) ∧ FltIs w a v k ∧ (((scG es 0 0).2 = false ∧ k = (scG es 0 0).1) ∨ ((scG es 0 0).2 = true ∧ k = 0 ∧ DV 4503599627370496 (-1074) 9218868437227405312 (dg (voDs es)) (voPt es - (voDs es).length) 9218868437227405312))) ∨
  ((scG es 0 0).2 = true ∧ ∃ r, 0 ≤ r ∧ r < 9218868437227405312 ∧ DV 4503599627370496 (-1074) 9218868437227405312 (dg (voDs es)) (voPt es - (voDs es).length) r ∧ e = .returned (.tuple #[.int .u64 (r + b2i (headB es 45) * 9223372036854775808), .nilIface]))
theorem half_dv : DV 4503599627370496 (-1074) 9218868437227405312 150 (-2) 4609434218613702656 := by
  unfold DV
  refine ⟨by decide, by decide, fun _ => ?_, fun _ => ?_⟩
  · rw [mid2_at (by decide) (by decide)]; unfold tn; decide +kernel
  · rw [show (4609434218613702656 - 1 : Int) = 4609434218613702655 by decide, mid2_at (by decide) (by decide)]; unfold tn; decide +kernel
theorem great_dv : DV 4503599627370496 (-1074) 9218868437227405312 1 309 9218868437227405312 := by
  unfold DV
  refine ⟨by decide, by decide, fun h => absurd h (by decide), fun _ => ?_⟩
  rw [show (9218868437227405312 - 1 : Int) = 9218868437227405311 by decide, mid2_at (by decide) (by decide)]; unfold tn; decide +kernel
theorem sh_least : ShP 4503599627370496 (-1074) 1 (-323) 1 5 := by
  have hu0 : um 4503599627370496 (-1074) (-1074) (1 - 1) = 0 := by decide
  have hu1 : um 4503599627370496 (-1074) (-1074) 1 = 1 := by decide
  have hu2 : um 4503599627370496 (-1074) (-1074) (1 + 1) = 2 := by decide
  have hV : vV 4503599627370496 (-1074) 1 = 2 * 10 ^ 500 := by unfold vV E5; rw [hu1]; decide +kernel
  have hLo : vLo 4503599627370496 (-1074) 1 = 10 ^ 500 := by unfold vLo E5; rw [hu0, hu1]; decide +kernel
  have hHi : vHi 4503599627370496 (-1074) 1 = 3 * 10 ^ 500 := by unfold vHi E5; rw [hu1, hu2]; decide +kernel
  have hG : gG (-1074) = 2 ^ 1075 := by unfold gG; rw [p2_pow]; rfl
  refine ⟨?_, ?_, by decide, fun j h1 h2 => by omega, ?_⟩
  · rw [hV, hG]; unfold TT; decide +kernel
  · rw [hV, hG]; unfold TT; decide +kernel
  · rw [hV, hLo, hHi, hG]
    right
    unfold Inn Cls TT
    refine ⟨by decide +kernel, Or.inl (by decide +kernel), Or.inr (Or.inl (by decide +kernel))⟩
theorem lay_least : layoutT false (txt 1 5) (pt 1 5 (-323)) = [53, 101, 45, 51, 50, 52] := by
  have e1 : txt 1 5 = [53] := by decide
  have e2 : pt 1 5 (-323) = -323 := by decide
  have e3 : decL 324 = [51, 50, 52] := by unfold decL; rw [Lib.decDigits, dif_neg (by decide), Lib.decDigits, dif_neg (by decide), Lib.decDigits, dif_pos (by decide)]; rfl
  rw [e1, e2]
  unfold layoutT layT powT
  rw [show (1 - -323 : Int).toNat = 324 by decide, e3]
  decide
theorem lay_ex : layoutT true [49, 50, 53] (-6) = [45, 49, 46, 50, 53, 101, 45, 55] := by
  have e3 : decL 7 = [55] := by unfold decL; rw [Lib.decDigits, dif_pos (by decide)]; rfl
  unfold layoutT layT powT
  rw [show (1 - -6 : Int).toNat = 7 by decide, e3]
  decide
theorem show_one {w : World} {a : Nat → Addr} (h : Ew w a) : Calls Tryz.prog 9 #[.int .u64 1] w fun e w' => e = .returned (.string ⟨#[53, 101, 45, 51, 50, 52]⟩) ∧ Below w.heap.size w w' := by
  refine (show_sh (x := 1) (s := 1) (ng := false) h.T h.U h.P h.g (by decide) (by decide) (by decide) (by decide) (by decide) (by decide)).mono ?_
  rintro e w' ⟨p, k, c, sh, _, rfl, hb⟩
  obtain ⟨rfl, rfl, rfl⟩ := Sh.unique (gG_pos _) sh sh_least
  rw [lay_least]
  exact ⟨rfl, hb⟩
theorem read_half {w : World} {a : Nat → Addr} (h : Ew w a) : Calls Tryz.prog 19 #[.string ⟨#[49, 46, 53, 48, 101, 48]⟩] w fun e w' => e = .returned (.tuple #[.int .u64 4609434218613702656, .nilIface]) ∧ Below w.heap.size w w' := by
  refine (read_goodF (es := [49, 46, 53, 48, 101, 48]) h.T (by intro x hx; simp at hx; omega) rfl (by simp) (by decide) h.S).mono ?_
  rintro e w' ⟨hb, r, hv, h1⟩
  have e1 : dg (voDs [49, 46, 53, 48, 101, 48]) = 150 := by decide
  have e2 : voPt [49, 46, 53, 48, 101, 48] - (voDs [49, 46, 53, 48, 101, 48]).length = -2 := by decide
  rw [e1, e2] at hv
  have hr := dv_same (by decide) hv half_dv (dle_refl _ _) (dle_refl _ _)
  subst hr
  rcases h1 with ⟨_, rfl⟩ | ⟨h1, _⟩
  · exact ⟨rfl, hb⟩
  · exact absurd h1 (by decide)
theorem read_x {w : World} {a : Nat → Addr} (h : Ew w a) : Calls Tryz.prog 19 #[.string ⟨#[49, 46, 120]⟩] w fun e w' => (∃ v, e = .returned (.tuple #[.int .u64 0, v]) ∧ FltIs w' a v 2) ∧ Below w.heap.size w w' :=
  read_badF (es := [49, 46, 120]) (by intro x hx; simp at hx; omega) rfl (by simp) (by decide) h.S
theorem read_great {w : World} {a : Nat → Addr} (h : Ew w a) : Calls Tryz.prog 19 #[.string ⟨#[49, 101, 51, 48, 57]⟩] w fun e w' => (∃ v, e = .returned (.tuple #[.int .u64 0, v]) ∧ FltIs w' a v 0) ∧ Below w.heap.size w w' := by
  refine (read_goodF (es := [49, 101, 51, 48, 57]) h.T (by intro x hx; simp at hx; omega) rfl (by simp) (by decide) h.S).mono ?_
  rintro e w' ⟨hb, r, hv, h1⟩
  have e1 : dg (voDs [49, 101, 51, 48, 57]) = 1 := by decide
  have e2 : voPt [49, 101, 51, 48, 57] - (voDs [49, 101, 51, 48, 57]).length = 309 := by decide
  rw [e1, e2] at hv
  have hr := dv_same (by decide) hv great_dv (dle_refl _ _) (dle_refl _ _)
  subst hr
  rcases h1 with ⟨h1, _⟩ | ⟨_, v, rfl, hf⟩
  · exact absurd h1 (by decide)
  · exact ⟨⟨v, rfl, hf⟩, hb⟩
set_option maxHeartbeats 8000000 in
set_option maxRecDepth 100000 in
theorem lives8_any {w : World} {a : Nat → Addr} (h : Ew w a) : Calls Tryz.prog 8 #[] w fun e w' => e = .returned (.bool true) ∧ Below w.heap.size w w' := by
  have HL := hide (fun (W : World) (h1 : Lib.TabIs Tryz.prog W "internal/strconv.uint64pow10" .u64 Lib.pow10Tab) (h2 : 14 < W.heap.size) => layout_yes (w := W) (ng := true) (s := ⟨#[49, 50, 53]⟩) (es := [49, 50, 53]) (n := -6) (by decide) (by decide) (by intro x hx; simp at hx; omega) rfl (by simp) (by decide) h1 h2)
  rw [lay_ex, show strOfNums [45, 49, 46, 50, 53, 101, 45, 55] = ⟨#[45, 49, 46, 50, 53, 101, 45, 55]⟩ from rfl] at HL
  have HN := hide (fun (W : World) => layout_no (w := W) (ng := false) (s := ⟨#[49, 48]⟩) (es := [49, 48]) (n := 1) (by intro x hx; simp at hx; omega) rfl (by simp) (by decide))
  go_enter Tryz.func8, Tryz.ntmps8
  go_wp2_with fail
  refine (HL.out _ h.P h.g).mono ?_
  rintro e w1 ⟨rfl, b1⟩
  have h1 := h.below b1
  clear HL
  go_wp2_with fail
  refine (HN.out _).mono ?_
  rintro e w2 ⟨rfl, b2⟩
  have h2 := h1.below b2
  have K := below_trans b1 b2
  clear HN b1 b2 h1
  go_wp2_with fail
  refine (read_half h2).mono ?_
  rintro e w3 ⟨rfl, b3⟩
  have h3 := h2.below b3
  replace K := below_trans K b3
  clear b3 h2
  go_wp2_with fail
  refine (read_x h3).mono ?_
  rintro e w4 ⟨⟨v4, rfl, f4⟩, b4⟩
  have h4 := h3.below b4
  replace K := below_trans K b4
  clear b4 h3
  go_wp2_with fail
  refine (read_great h4).mono ?_
  rintro e w5 ⟨⟨v5, rfl, f5⟩, b5⟩
  have h5 := h4.below b5
  replace f4 := f4.below b5
  replace K := below_trans K b5
  clear b5 h4
  have F4 := hide f4
  have F5 := hide f5
  clear f4 f5
  go_wp2_with fail
  refine (show_one h5).mono ?_
  rintro e w6 ⟨rfl, b6⟩
  have h6 := h5.below b6
  replace K := below_trans K b6
  have b56 := b6
  clear b6 h5
  go_wp2_with fail
  refine (eShow h6.T h6.U).mono ?_
  rintro e w7 ⟨rfl, b7⟩
  have h7 := h6.below b7
  replace K := below_trans K b7
  have F47 := hide ((F4.out.below b56).below b7)
  have F57 := hide ((F5.out.below b56).below b7)
  clear b7 h6 b56 F4 F5
  go_wp2_with fail
  refine code_nil.mono ?_
  rintro e w8 ⟨rfl, rfl⟩
  go_wp2_with fail
  refine (isAt_flt h7.S h7.H F47.out).mono ?_
  rintro e w9 ⟨rfl, b9⟩
  have h9 := h7.below b9
  replace K := below_trans K b9
  have F59 := hide (F57.out.below b9)
  clear b9 h7 F57 F47
  rw [show decide (((2 : Nat) : Int) = 2) = true from rfl]
  go_wp2_with fail
  refine (isAt_flt h9.S h9.H F59.out).mono ?_
  rintro e w10 ⟨rfl, b10⟩
  replace K := below_trans K b10
  clear b10 h9 F59
  rw [show decide (((0 : Nat) : Int) = 0) = true from rfl]
  go_wp2
  go_ret
  exact ⟨rfl, K⟩

end Go.Proofs.YtinfkoiifemjmaaGreatDoor
