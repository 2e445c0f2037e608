/- the law's examples -/
import Derived.Test.YtddamkdkaijfjaaGreatDoorUCmp
import Derived.Test.YtddamkdkaijfjaaGreatDoorUSame
namespace Go.Proofs.YtddamkdkaijfjaaGreatDoor
open Go.RowKit
set_option linter.unusedVariables false

theorem owns_reads {w : World} {B : Nat} {E : TypeId} {k : IntKind} {v : Value} {zs : List Int} {n : Nat} (hn : n = zs.length) (h : w.ownsRow B E 1 v n (zs.map (Value.int k))) : Reads k w v zs := by
  subst hn
  obtain ⟨h1, ⟨rfl, h2⟩ | ⟨g, cap, cur, rfl, h3, h4, h5, h6, h7, h8⟩⟩ := h
  · have : zs = [] := List.length_eq_zero_iff.1 h2
    subst this
    exact ⟨none, 0, rfl, Nat.le_refl _, by unfold maxLen; omega, fun h => absurd h (by simp)⟩
  · refine ⟨_, cap, rfl, h5, h6, fun hp => ⟨g, 0, rfl, (Array.getElem?_eq_some_iff.1 h4).1, fun i hi => ?_⟩⟩
    rw [Nat.zero_add, cell_of_row w g i _ _ _ h4]
    rw [Nat.mul_one] at h8
    have e : cur.toList[i]? = (zs.map (Value.int k))[i]? := by rw [← h8, List.getElem?_take_of_lt hi]
    rw [Array.getElem?_toList] at e
    rw [e]
    simp [Nt.lb, hi]
theorem built_reads {k : IntKind} {E : TypeId} {w : World} {zs : List Int} (h : zs.length ≤ 1000) : Reads k (w.alloc (.cells (zs.map (Value.int k)).toArray E)) (.slice (some ⟨w.heap.size, 0, none⟩) zs.length zs.length) zs := by
  refine ⟨_, _, rfl, Nat.le_refl _, by unfold maxLen; omega, fun hp => ⟨w.heap.size, 0, rfl, by simp, fun i hi => ?_⟩⟩
  rw [Nat.zero_add, cell_of_row _ _ _ _ _ _ (heap_alloc_new w _)]
  simp [Nt.lb, hi]

def uL1 : List Int := [97, 240, 159, 152, 128]
def uL2 : List Int := [195, 169, 240, 159, 152, 128]
def uL3 : List Int := [97, 195]
def uL4 : List Int := [240, 159, 152, 128]
def uL5 : List Int := [239, 172, 128]
theorem uL1_b : uByt uL1 := by unfold uByt uL1; decide
theorem uL2_b : uByt uL2 := by unfold uByt uL2; decide
theorem uL3_b : uByt uL3 := by unfold uByt uL3; decide
theorem uL4_b : uByt uL4 := by unfold uByt uL4; decide
theorem uL5_b : uByt uL5 := by unfold uByt uL5; decide
theorem uL1_f : uFst uL1 1 = (128512, 4) := by decide
theorem uL2_s : USplit uL2 [233, 128512] [] := ⟨by unfold uPts; decide, by decide, by decide⟩
theorem uL3_s : USplit uL3 [97] [195] := ⟨by unfold uPts; decide, by decide, by decide⟩
theorem uL4_s : USteps uL4 [128512] := .good (p := 128512) (n := 4) (by decide) (by decide) .nil
theorem uL5_s : USteps uL5 [64256] := .good (p := 64256) (n := 3) (by decide) (by decide) .nil

set_option maxRecDepth 100000 in
set_option maxHeartbeats 4000000 in
theorem ulives_any {w : World} : Calls Tryz.prog 14 #[] w fun e w' => e = .returned (.bool true) ∧ Below w.heap.size w w' := by
  have c1 := hide (fun w : World => first_any (w := w) (s := { data := #[97, 240, 159, 152, 128] }) (es := uL1) (at_ := 1) uL1_b rfl (by decide))
  rw [uL1_f] at c1
  have c2 := hide (fun w : World => units_text (w := w) (s := { data := #[195, 169, 240, 159, 152, 128] }) (es := uL2) uL2_b rfl (by decide) uL2_s)
  have c3 := hide (fun w : World => bad_any (w := w) (s := { data := #[97, 195] }) (es := uL3) uL3_b rfl (by decide) uL3_s)
  have c4 := hide (fun w : World => ucmp_any (w := w) (s1 := { data := #[240, 159, 152, 128] }) (s2 := { data := #[239, 172, 128] }) uL4_b rfl (by decide) uL5_b rfl (by decide) uL4_s uL5_s)
  rw [show uCmp (uCodes [128512]) (uCodes [64256]) = -1 by decide] at c4
  rw [show (uFlat [97]).length = 1 by decide] at c3
  rw [show ([233, 128512] : List Int).flatMap uU = [233, 55357, 56832] by decide] at c2
  go_enter Tryz.func14, Tryz.ntmps14
  go_wp2_with fail
  refine (c1.out _).mono ?_
  rintro e w' ⟨rfl, rfl⟩
  go_wp2_with fail
  refine (c2.out _).mono ?_
  rintro e w1 ⟨v, rfl, hrow, hB1⟩
  go_wp2_with fail
  have hr := (owns_reads rfl hrow).below ((Below.refl _ _).alloc (Nat.le_refl _) (.cells #[.int .u16 233, .int .u16 55357, .int .u16 56832] 52))
  have hr2 := built_reads (k := .u16) (E := 52) (w := w1) (zs := [233, 55357, 56832]) (by decide)
  refine (same_units hr hr2).mono ?_
  rintro e w2 ⟨rfl, hB2⟩
  rw [show decide (([233, 55357, 56832] : List Int) = [233, 55357, 56832]) = true from rfl]
  go_wp2_with fail
  refine (c3.out _).mono ?_
  rintro e w3 ⟨rfl, hB3⟩
  go_wp2_with fail
  refine (c4.out _).mono ?_
  rintro e w4 ⟨rfl, rfl⟩
  go_wp2
  go_ret
  refine ⟨rfl, ?_⟩
  have s1 := hB1.size
  have s2 := hB2.size
  have s3 := hB3.size
  simp only [World.size_alloc] at s1 s2 s3 hB2 hB3
  exact ((hB1.alloc s1 _).trans (hB2.mono (by omega))).trans (hB3.mono (by omega))

end Go.Proofs.YtddamkdkaijfjaaGreatDoor
