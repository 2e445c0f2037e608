/- ref09: Is, Runes -/
import Derived.Test.YtddamkdkaijfjaaGreatDoorURefC
import Derived.Test.YtddamkdkaijfjaaGreatDoorULives
import Derived.Test.YtddamkdkaijfjaaGreatDoorURunes
namespace Go.Proofs.YtddamkdkaijfjaaGreatDoor
open Go.RowKit
set_option linter.unusedVariables false

theorem ris_any {w : World} {s : ByteArray} {es ps t : List Int} (hb : uByt es) (hs : s = strOfNums es) (hl : es.length ≤ 1099511627776) (hS : USplit es ps t) :
    Calls Tryz.prog 23 #[.string s] w fun e w' => e = .returned (.bool t.isEmpty) ∧ Below w.heap.size w w' := by
  have HB := hide (fun w => rbad_any (w := w) hb hs (by omega) hS)
  have hq : (((uFlat ps).length : Int) == (s.size : Int)) = t.isEmpty := by
    have e := congrArg List.length hS.eq
    have e2 : s.size = es.length := by rw [hs, strOfNums_size]
    rw [List.length_append] at e
    by_cases ht : t = []
    · subst ht
      rw [List.length_nil] at e
      exact beq_iff_eq.2 (by omega)
    · rw [show t.isEmpty = false by cases t; exact absurd rfl ht; rfl]
      have := List.length_pos_iff.2 ht
      exact beq_eq_false_iff_ne.2 (by omega)
  obtain ⟨B, hB⟩ : ∃ B : Int, ((uFlat ps).length : Int) = B := ⟨_, rfl⟩
  obtain ⟨T, hT⟩ : ∃ T, t.isEmpty = T := ⟨_, rfl⟩
  simp only [hB] at HB
  rw [hB] at hq
  rw [hT] at hq ⊢
  clear hb hs hl hS hB hT
  go_enter Tryz.func23, Tryz.ntmps23
  go_wp2_with (go_at_call 88; refine (HB.out _).mono ?_; rintro e w1 ⟨rfl, hB1⟩)
  go_ret
  exact ⟨by first | rfl | simp [hq], hB1⟩

set_option maxRecDepth 100000 in
set_option maxHeartbeats 4000000 in
theorem rrunes_any {w : World} {s : ByteArray} {es ps : List Int} (hb : uByt es) (hs : s = strOfNums es) (hl : es.length ≤ 1099511627776) (hS : USplit es ps []) :
    Calls Tryz.prog 5 #[.string s] w fun e w' => ∃ v, e = .returned (.tuple #[v, .bool true]) ∧ w'.ownsRow w.heap.size 21 1 v ps.length (ps.map (Value.int .i32)) ∧ Below w.heap.size w w' := by
  have hQ : USteps es ps := by
    have := USteps.text hS.pts .nil
    rw [List.append_nil] at this
    rw [hS.eq]
    simpa using this
  have HST := hide (fun w => rsteps_any (w := w) hb hs hl hQ)
  have HIS := hide (fun w => ris_any (w := w) hb hs hl hS)
  rw [List.isEmpty_nil] at HIS
  have hlen : ps.length ≤ 1099511627776 := by have := hQ.len hb; omega
  have hpt := hide hS.pts
  clear hs hb hl hS hQ
  obtain ⟨i0, hi, hz0, hz1, hz2⟩ := info_parts Tryz.infoI32
  go_enter Tryz.func5, Tryz.ntmps5
  go_wp2_with fail
  refine (HIS.out _).mono ?_
  rintro e wi ⟨rfl, hBi⟩
  go_wp2_with fail
  refine (HST.out _).mono ?_
  rintro e w0 ⟨v0, rfl, hrow0, hB0⟩
  obtain ⟨ao, cap, rfl, hcap, hcm, hcells⟩ := steps_cells hrow0
  unfold maxLen at hcm
  have HC := hide hcells
  have HBB := hide (hBi.trans (hB0.mono hBi.size))
  clear hcells hrow0 HST HIS hBi hB0
  go_wp2_with fail
  go_loopg [5, 6] ps.length (fun c v i wr => ∃ (j : Nat), j ≤ ps.length ∧ i = .int .i64 j ∧ c = ps.length - j ∧ Hid (wr.ownsRow w0.heap.size 21 1 v j ((ps.take j).map (Value.int .i32))) ∧ Below w0.heap.size w0 wr)
  case atStart => exact ⟨0, by omega, rfl, by omega, hide (World.ownsRow_nil _ _ _ _), Below.refl _ _⟩
  case round =>
    obtain ⟨j, hj, rfl, hg, hrow, hbr⟩ := hrel
    have hz3 := hbr.size
    by_cases hlt : j < ps.length
    · obtain ⟨q, hq⟩ : ∃ q, ps[j]? = some q := ⟨_, List.getElem?_eq_getElem hlt⟩
      obtain ⟨g, rfl, hgl, hcl⟩ := HC.out (by omega)
      obtain ⟨s2, s3⟩ := sVals_get 0 hq
      have c2 := (hbr.cell (p := ⟨g, j * 4 + 2, none⟩) hgl).trans (hcl _ _ s2)
      have hpq := hpt.out q (List.mem_of_getElem? hq)
      have hpr := uPt_iff.1 hpq
      rw [if_pos (by omega)] at c2
      have HN := hide (show (ps.take (j + 1)).map (Value.int .i32) = (ps.take j).map (Value.int .i32) ++ [.int .i32 q] by rw [List.take_add_one, hq]; simp)
      have q1 : (j : Int) < (ps.length : Int) := by omega
      have q6 : IntKind.i32.wrap q = q := by simp [IntKind.wrap, IntKind.bits, IntKind.signed]; omega
      clear s2 s3 hcl hq HC hpq
      go_wp2_with (at_builtin; refine wpList_append_own _ rfl _ _ 22 rfl w0.heap.size 21 i0 (.int .i32 0) 1 4 Tryz.underlying22 hi hz0 hz1 hz2 rfl (by decide) u5 _ _ rfl (hrow.out.alloc _) ⟨wr.heap.size, 0, none⟩ 1 1 [.int .i32 q] rfl rfl (cell_one_new _ _ _) (by simp [Value.oneCell']) (by unfold maxLen; omega) (by omega) (by simp; omega) ?_; intro v' w2 hown' hgrow _; have HO := hide hown'; have HB2 := hide (own_grows4 (hbr.alloc (by omega) _) (by simp; omega) (hrow.out.alloc _) hgrow); clear hown' hgrow)
      go_roundg (ps.length - (j + 1))
      case measure => omega
      case rel => exact ⟨j + 1, by omega, by simp, rfl, hide (by rw [HN.out]; simpa using HO.out), HB2.out⟩
    · have q1 : ¬ (j : Int) < (ps.length : Int) := by omega
      have hje : j = ps.length := by omega
      have HR := hide (show wr.ownsRow w0.heap.size 21 1 u5 ps.length (ps.map (Value.int .i32)) by have := hrow.out; rw [hje, List.take_length] at this; exact this)
      go_wp2
      go_ret2
      exact ⟨_, rfl, owns_base HR.out HBB.out.size, HBB.out.trans (hbr.mono HBB.out.size)⟩

end Go.Proofs.YtddamkdkaijfjaaGreatDoor
