/- layer 16: named, letter, behind -/
import Derived.Test.YtefmlajndillbaaGreatDoorJsO
import Derived.LoopN
import Derived.BigQuiet
namespace Go.Proofs.YtefmlajndillbaaGreatDoor
open Go.RowKit
set_option linter.unusedVariables false

theorem jtxt_full {s : ByteArray} (h : 0 < s.size) : s.toList.isEmpty = false := by
  rw [ByteArray.toList_eq]
  cases hl : s.data.toList with
  | nil =>
    exfalso
    have h1 : s.data.size = 0 := by rw [← Array.length_toList, hl]; rfl
    have h2 : s.size = s.data.size := rfl
    omega
  | cons _ _ => rfl
theorem wd_null : (⟨#[110, 117, 108, 108]⟩ : ByteArray).extract 1 4 = strOfNums [117, 108, 108] := by kernel_rfl
theorem wd_true : (⟨#[116, 114, 117, 101]⟩ : ByteArray).extract 1 4 = strOfNums [114, 117, 101] := by kernel_rfl
theorem wd_false : (⟨#[102, 97, 108, 115, 101]⟩ : ByteArray).extract 1 5 = strOfNums [97, 108, 115, 101] := by kernel_rfl
def wds : Value := .agg #[.string ⟨#[110, 117, 108, 108]⟩, .string ⟨#[116, 114, 117, 101]⟩, .string ⟨#[102, 97, 108, 115, 101]⟩]
theorem wd_0 (w : World) : (Instr.index 73 wds (.int .i64 0)).run Tryz.prog w = .ok (.string ⟨#[110, 117, 108, 108]⟩) w := by kernel_rfl
theorem wd_1 (w : World) : (Instr.index 73 wds (.int .i64 1)).run Tryz.prog w = .ok (.string ⟨#[116, 114, 117, 101]⟩) w := by kernel_rfl
theorem wd_2 (w : World) : (Instr.index 73 wds (.int .i64 2)).run Tryz.prog w = .ok (.string ⟨#[102, 97, 108, 115, 101]⟩) w := by kernel_rfl
set_option maxRecDepth 100000 in
theorem jnamed {w : World} {a : Nat → Addr} {B p : Nat} {nx ov : Value} {sz : Int} {t : St} {b : Int} (h : ScS w a B p nx sz ov t) :
    Calls Tryz.prog 29 #[.pointer (some ⟨p, 0, none⟩), .int .u8 b] w (Outs w a B p nx sz ov (namedB b t)) := by
  have c6 := h.cell 6
  have f6 := h.frz 6
  simp only [scC] at c6
  have i0 := wd_0 w
  have i1 := wd_1 w
  have i2 := wd_2 w
  simp only [wds] at i0 i1 i2
  by_cases k110 : b = 110
  · subst k110
    have E : namedB 110 t = go .letter { t with word := [117, 108, 108] } := by simp [namedB]
    rw [E]; clear E
    go_enter Tryz.func29, Tryz.ntmps29
    go_wp2
    refine wp_loop_rounds 4 ?_
    rw [rounds_succ]
    go_wp2
    go_ret
    refine ⟨ov, rfl, ?_, (Fr.refl _ _ _).setP _⟩
    first
      | exact h.setWord [117, 108, 108]
      | (rw [wd_null]; exact h.setWord [117, 108, 108])
  by_cases k116 : b = 116
  · subst k116
    have E : namedB 116 t = go .letter { t with word := [114, 117, 101] } := by simp [namedB]
    rw [E]; clear E
    go_enter Tryz.func29, Tryz.ntmps29
    go_wp2
    refine wp_loop_rounds 4 ?_
    rw [rounds_succ]
    go_wp2
    rw [rounds_succ]
    go_wp2
    go_ret
    refine ⟨ov, rfl, ?_, (Fr.refl _ _ _).setP _⟩
    first
      | exact h.setWord [114, 117, 101]
      | (rw [wd_true]; exact h.setWord [114, 117, 101])
  by_cases k102 : b = 102
  · subst k102
    have E : namedB 102 t = go .letter { t with word := [97, 108, 115, 101] } := by simp [namedB]
    rw [E]; clear E
    go_enter Tryz.func29, Tryz.ntmps29
    go_wp2
    refine wp_loop_rounds 4 ?_
    rw [rounds_succ]
    go_wp2
    rw [rounds_succ]
    go_wp2
    rw [rounds_succ]
    go_wp2
    go_ret
    refine ⟨ov, rfl, ?_, (Fr.refl _ _ _).setP _⟩
    first
      | exact h.setWord [97, 108, 115, 101]
      | (rw [wd_false]; exact h.setWord [97, 108, 115, 101])
  have E : namedB b t = no t := by simp [namedB, k110, k116, k102]
  rw [E]; clear E
  have m1 : ¬ (110 = b) := fun e => k110 e.symm
  have m2 : ¬ (116 = b) := fun e => k116 e.symm
  have m3 : ¬ (102 = b) := fun e => k102 e.symm
  have x1 : (((⟨#[110, 117, 108, 108]⟩ : ByteArray)[0]'(by decide)).toNat : Int) = 110 := rfl
  have x2 : (((⟨#[116, 114, 117, 101]⟩ : ByteArray)[0]'(by decide)).toNat : Int) = 116 := rfl
  have x3 : (((⟨#[102, 97, 108, 115, 101]⟩ : ByteArray)[0]'(by decide)).toNat : Int) = 102 := rfl
  go_enter Tryz.func29, Tryz.ntmps29
  go_wp2
  refine wp_loop_rounds 4 ?_
  rw [rounds_succ]
  go_wp2
  rw [rounds_succ]
  go_wp2
  rw [rounds_succ]
  go_wp2
  rw [rounds_succ]
  go_wp2
  go_ret
  exact ⟨ov, rfl, h, Fr.refl _ _ _⟩
theorem jletter {w : World} {a : Nat → Addr} {B p : Nat} {nx ov : Value} {sz : Int} {t : St} {b : Int} (h : ScS w a B p nx sz ov t) (hne : t.word ≠ []) (hwb : uByt t.word) (hwl : t.word.length ≤ 8) :
    Calls Tryz.prog 44 #[.pointer (some ⟨p, 0, none⟩), .int .u8 b] w (Outs w a B p nx sz ov (letterB b t)) := by
  have c6 := h.cell 6
  have f6 := h.frz 6
  simp only [scC] at c6
  obtain ⟨c, l, hcl⟩ : ∃ c l, t.word = c :: l := by cases hw : t.word with | nil => exact absurd hw hne | cons c l => exact ⟨c, l, rfl⟩
  rw [hcl] at hwb hwl
  obtain ⟨sw, hsw⟩ : ∃ sw, strOfNums (c :: l) = sw := ⟨_, rfl⟩
  rw [hcl, hsw] at c6
  have hsz : sw.size = l.length + 1 := by rw [← hsw, strOfNums_size]; simp
  have h0 : 0 < sw.size := by omega
  have hix : ((sw[0]'h0).toNat : Int) = c := by subst hsw; exact utxt_at (p := 0) h0 hwb
  have hcut : sw.extract 1 sw.size = strOfNums l := by
    rw [hsz, ← hsw, utxt_cut]; simp
  rw [hsz] at hcut
  have hb1 : (1 : Int) ≤ ((l.length + 1 : Nat) : Int) := by omega
  have HW := hide hsw
  clear hsw hwb hne hwl
  by_cases k : b = c
  · by_cases hl : l = []
    · have E : letterB b t = mayE .behind { t with word := [] } := by simp [letterB, hcl, k, hl]
      rw [E]; clear E
      subst hl
      subst k
      have h1 := h.setWord []
      have HM := hide (jmayEnd h1 (.func (.func 57) #[.pointer (some ⟨p, 0, none⟩)] #[]))
      have HH := hide h
      have he : strOfNums [] = ⟨#[]⟩ := rfl
      rw [he] at hcut HM
      clear h1 h he
      go_enter Tryz.func44, Tryz.ntmps44
      go_wp2_with fail
      refine HM.out.mono ?_
      rintro e w1 ⟨rfl, h1, f1⟩
      go_wp2
      go_ret
      exact ⟨ov, rfl, h1, ((Fr.refl _ _ _).setP _).trans f1⟩
    · have E : letterB b t = go .letter { t with word := l } := by simp [letterB, hcl, k, hl]
      rw [E]; clear E
      subst k
      have HH := hide (h.setWord l)
      have hns : (strOfNums l).toList.isEmpty = false := jtxt_full (by rw [strOfNums_size]; rcases Nat.eq_zero_or_pos l.length with e | e; exact absurd (List.eq_nil_of_length_eq_zero e) hl; exact e)
      clear h
      generalize strOfNums l = sl at hcut HH hns
      go_enter Tryz.func44, Tryz.ntmps44
      go_wp2
      go_ret
      exact ⟨ov, rfl, HH.out, (Fr.refl _ _ _).setP _⟩
  · have E : letterB b t = no t := by simp [letterB, hcl, k]
    rw [E]; clear E
    have k' : ¬ (c = b) := fun e => k e.symm
    go_enter Tryz.func44, Tryz.ntmps44
    go_wp2
    go_ret
    exact ⟨ov, rfl, h, Fr.refl _ _ _⟩

end Go.Proofs.YtefmlajndillbaaGreatDoor
