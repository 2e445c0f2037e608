/- numbered: the items with the numbers of their places -/
import Derived.Test.YtomieeajmelglaaOStb
namespace Go.Proofs.Ytomieeajmelglaa
open Go.RowKit Go.Shelf
set_option linter.unusedVariables false
set_option linter.unusedSimpArgs false

def nmb (d : Nat) (l : List It) : List It := l.mapIdx fun i x => ((x.1, ((d + i : Nat) : Int)) : It)
theorem nmb_len (d : Nat) (l : List It) : (nmb d l).length = l.length := by simp [nmb]
theorem nmb_step (d : Nat) {l : List It} {i : Nat} (hi : i < l.length) : nmb d (l.take (i + 1)) = nmb d (l.take i) ++ [(l[i].1, ((d + i : Nat) : Int))] := by
  rw [List.take_succ_eq_append_getElem hi]
  simp only [nmb, List.mapIdx_append, List.mapIdx_cons, List.mapIdx_nil, List.length_take]
  rw [show 0 + min i l.length = i by omega]
set_option maxRecDepth 100000 in
set_option maxHeartbeats 8000000 in
theorem numbered_any {w : World} {va : Value} {l : List It} {d : Nat} (ha : ItRd (fun _ => True) w va l) (hl : l.length ≤ 8796093022208) (hd : d ≤ 8796093022208) :
    Calls Try.prog 20 #[va, .int .i64 d] w fun e w' => (∃ v, e = .returned v ∧ w'.ownsRow w.heap.size 27 2 v l.length (flat (nmb d l))) ∧ Below w.heap.size w w' := by
  obtain ⟨ao, ca, rfl, hac, ham, hacl⟩ := ha
  have RA := hide hacl
  have H63 := hide (show l.length ≤ maxLen ∧ l.length * 16 ≤ 140737488355328 from ⟨by unfold maxLen; omega, by omega⟩)
  clear hacl hac ham
  go_enter Try.func20, Try.ntmps20
  go_wp2
  go_loopw [5, 6] (fun v p wr => ∃ (i : Nat), p = .int .i64 i ∧ i ≤ l.length ∧ Hid (wr.ownsRow w.heap.size 27 2 v i (flat (nmb d (l.take i)))) ∧ Hid (Below w.heap.size w wr)) (fun _ p _ => l.length - (intOf p).toNat)
  case atStart => exact ⟨0, rfl, by omega, hide (by simpa [nmb, flat] using World.ownsRow_nil _ _ _ _), hide (Below.refl _ _)⟩
  case round =>
    obtain ⟨i, rfl, hi, hO, hB⟩ := hrel
    by_cases hil : i < l.length
    · obtain ⟨ga, oa, rfl, _, hga, hin⟩ := RA.out (by omega)
      have q1 : (i : Int) < (l.length : Int) := by omega
      obtain ⟨⟨y1, y2⟩, hy⟩ : ∃ y, l[i] = y := ⟨_, rfl⟩
      have qy := hin i hil
      rw [hy] at qy
      have c1 := (hB.out.cell (p := ⟨ga, _, none⟩) hga).trans qy.1
      have c2 := (hB.out.cell (p := ⟨ga, _, none⟩) hga).trans qy.2
      have w1' : IntKind.i64.wrap ((d : Int) + (i : Int)) = ((d + i : Nat) : Int) := by rw [IntKind.wrap_i64]; omega
      have w2' : IntKind.i64.wrap ((i : Int) + 1) = (i : Int) + 1 := by rw [IntKind.wrap_i64]; omega
      have SZ := hide hB.out.size
      have NS := hide (nmb_step d hil)
      rw [hy] at NS
      obtain ⟨e, he⟩ : ∃ e, ((d + i : Nat) : Int) = e := ⟨_, rfl⟩
      rw [he] at w1' NS
      have RN := hide (fun (W : World) => one_rd W y1 e)
      clear hin qy hy he
      go_wp2_with (at_builtin; refine wpList_append_items rfl _ _ rfl w.heap.size _ i _ rfl (hO.out.alloc _) _ [(y1, e)] rfl (RN.out _) (by intro c h; cases h) (by have := H63.out; simp; omega) (by have := H63.out; simp; omega) (by have := SZ.out; simp; omega) ?_)
      intro v2 w2 own2 bel2
      have HO2 := hide own2
      have HB2 := hide ((hB.out.alloc SZ.out _).trans bel2)
      clear own2 bel2
      go_wp2
      refine ⟨⟨i + 1, by simp, by omega, hide ?_, HB2⟩, by simp [intOf]; omega⟩
      rw [NS.out, flat_append]
      exact HO2.out
    · obtain rfl : i = l.length := by omega
      rw [List.take_length] at hO
      go_wp2
      go_ret
      exact ⟨⟨_, rfl, hO.out⟩, hB.out⟩

end Go.Proofs.Ytomieeajmelglaa
