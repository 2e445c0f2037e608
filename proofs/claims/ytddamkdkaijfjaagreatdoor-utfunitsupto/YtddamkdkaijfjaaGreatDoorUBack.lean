/- UtfBack: the walk -/
import Derived.Test.YtddamkdkaijfjaaGreatDoorUWrong
import Derived.Test.YtddamkdkaijfjaaGreatDoorUSame
import Derived.Deep.CutRange
namespace Go.Proofs.YtddamkdkaijfjaaGreatDoor
open Go.RowKit
set_option linter.unusedVariables false

theorem reads_nil {k : IntKind} {w : World} : Reads k w (.slice none 0 0) [] := ⟨none, 0, rfl, by simp, by unfold maxLen; omega, fun h => absurd h (by simp)⟩
theorem isEmpty_no {t : List Int} (h : t ≠ []) : t.isEmpty = false := by cases t; exact absurd rfl h; rfl

theorem runes_rd {s : ByteArray} {es ps t : List Int} {w : World} (hb : uByt es) (hs : s = strOfNums es) (hl : es.length ≤ 17592186044416) (hS : USplit es ps t) :
    Calls Tryz.prog 6 #[.string s] w fun e w' => ∃ v, e = .returned (.tuple #[v, .bool t.isEmpty]) ∧ Reads .i32 w' v (if t.isEmpty then ps else []) ∧ Below w.heap.size w w' := by
  by_cases ht : t = []
  · subst ht
    refine (runes_text hb hs hl hS).mono ?_
    rintro e w' ⟨v, rfl, ho, h⟩
    exact ⟨v, rfl, owns_reads rfl ho, h⟩
  · refine (runes_not hb hs hl hS ht).mono ?_
    rintro e w' ⟨rfl, h⟩
    rw [isEmpty_no ht]
    exact ⟨_, rfl, reads_nil, h⟩
theorem units_rd {s : ByteArray} {es ps t : List Int} {w : World} (hb : uByt es) (hs : s = strOfNums es) (hl : es.length ≤ 17592186044416) (hS : USplit es ps t) :
    Calls Tryz.prog 16 #[.string s] w fun e w' => ∃ v, e = .returned (.tuple #[v, .bool t.isEmpty]) ∧ Reads .u16 w' v (if t.isEmpty then ps.flatMap uU else []) ∧ Below w.heap.size w w' := by
  by_cases ht : t = []
  · subst ht
    refine (units_text hb hs hl hS).mono ?_
    rintro e w' ⟨v, rfl, ho, h⟩
    exact ⟨v, rfl, owns_reads rfl ho, h⟩
  · refine (units_not hb hs hl hS ht).mono ?_
    rintro e w' ⟨rfl, h⟩
    rw [isEmpty_no ht]
    exact ⟨_, rfl, reads_nil, h⟩

def uHigh (ps : List Int) : Nat := ps.countP fun p => decide (65535 < p)
theorem uHigh_snoc (ps : List Int) (p : Int) : uHigh (ps ++ [p]) = uHigh ps + if 65535 < p then 1 else 0 := by
  unfold uHigh
  rw [List.countP_append, List.countP_singleton]
  by_cases h : 65535 < p <;> simp [h]
theorem uHigh_len (ps : List Int) : (ps.flatMap uU).length = ps.length + uHigh ps := by
  induction ps with
  | nil => rfl
  | cons p ps ih =>
    rw [List.flatMap_cons, List.length_append, List.length_cons, ih]
    unfold uHigh uU
    rw [List.countP_cons]
    by_cases h : 65535 < p
    · rw [if_neg (by omega)]; simp [h]; omega
    · rw [if_pos (by omega)]; simp [h]; omega
theorem uHigh_le (ps : List Int) : uHigh ps ≤ ps.length := List.countP_le_length

theorem uU_16 {ps : List Int} (h : uPts ps) : uU16 (ps.flatMap uU) := by
  intro x hx
  obtain ⟨p, hp, hx⟩ := List.mem_flatMap.1 hx
  have hp := uPt_iff.1 (h p hp)
  unfold uU at hx
  split at hx
  · rw [List.mem_singleton] at hx; omega
  · rcases List.mem_cons.1 hx with e | e
    · omega
    · rw [List.mem_singleton] at e; omega

end Go.Proofs.YtddamkdkaijfjaaGreatDoor
