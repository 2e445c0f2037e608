/- Search, Twice, Sort without an order; the reference's Search -/
import Derived.Test.YtomieeajmelglaaORefS
namespace Go.Proofs.Ytomieeajmelglaa
open Go.RowKit Go.Shelf
set_option linter.unusedVariables false
set_option linter.unusedSimpArgs false

theorem onil_nil {t : TypeId} (h : ∃ a b c, Try.prog.underlying t = some (.func a b c)) (w : World) : (binOp .eql t .nilFunc .nilFunc).run Try.prog w = .ok (.bool true) w := by
  obtain ⟨x, y, z, h⟩ := h
  have e : (Op.equalIn (Op.maxDepth - 1 + 1) t .nilFunc .nilFunc).run Try.prog w = .ok true w := by simp [Op.equalIn, run_underlying h]
  rw [show Op.maxDepth - 1 + 1 = Op.maxDepth from rfl] at e
  simp [binOp, Op.equal, e]
set_option maxRecDepth 100000 in
set_option maxHeartbeats 2000000 in
theorem search_nil {w : World} {ao : Option Addr} {n c : Nat} {x : It} : Calls Try.prog 28 #[.slice ao n c, itV x, .nilFunc] w fun e w' => e = .returned (.tuple #[.int .i64 0, .bool false]) ∧ Below w.heap.size w w' := by
  obtain ⟨x1, x2⟩ := x
  have hfn : ∀ w : World, (binOp .eql 28 .nilFunc .nilFunc).run Try.prog w = .ok (.bool true) w := onil_nil itdesc
  go_enter Try.func28, Try.ntmps28
  go_wp2
  exact bodyPost_ret (v := .tuple #[.int .i64 0, .bool false]) (by simp [results, Try.results28, go_sem]) rfl ⟨rfl, (Below.refl _ w).alloc (Nat.le_refl _) _⟩
set_option maxRecDepth 100000 in
set_option maxHeartbeats 2000000 in
theorem sort_nil {w : World} {ao : Option Addr} {n c : Nat} : Calls Try.prog 9 #[.slice ao n c, .nilFunc] w fun e w' => e = .returned (.slice none 0 0) ∧ w' = w := by
  have hfn : ∀ w : World, (binOp .eql 28 .nilFunc .nilFunc).run Try.prog w = .ok (.bool true) w := onil_nil itdesc
  go_enter Try.func9, Try.ntmps9
  go_wp2
  go_ret
  exact ⟨rfl, rfl⟩
/-- the first place that is not below -/
def fst12 (o : Int) (s : List It) (x : It) : Nat := s.findIdx (fun a => !decide (ocmp o a x < 0))
theorem fst12_bsr (o : Int) (l : List It) (x : It) : bsr (byF o) (srt (byF o) 1 l) x 0 (srt (byF o) 1 l).length = fst12 o (srt (byF o) 1 l) x := by
  have hr := sort_rises o l
  obtain ⟨s, hs⟩ : ∃ s, srt (byF o) 1 l = s := ⟨_, rfl⟩
  rw [hs] at hr ⊢
  have sp := bsr_spec (f := byF o) (l := s) (x := x) (fun i j hij hj h => by
    have := rises_get hr hij hj
    exact byF_lt.2 (by have := byF_lt.1 h; omega)) (Nat.zero_le _) (Nat.le_refl _) (fun i hi => by omega) (fun i hi hl => by omega)
  obtain ⟨k, hk⟩ : ∃ k, bsr (byF o) s x 0 s.length = k := ⟨_, rfl⟩
  rw [hk] at sp ⊢
  unfold fst12
  rcases Nat.lt_or_ge k s.length with h | h
  · symm
    rw [List.findIdx_eq h]
    refine ⟨?_, fun j hj => ?_⟩
    · have := sp.2.2 k (Nat.le_refl _) h
      simp only [h, List.getElem?_eq_getElem, Option.getD_some] at this
      simpa using fun e => this ((byF_neg o _ x).2 e)
    · have := sp.2.1 j hj
      have hjl : j < s.length := by omega
      simp only [hjl, List.getElem?_eq_getElem, Option.getD_some] at this
      simpa using (byF_neg o _ x).1 this
  · have hk2 : k = s.length := by omega
    rw [hk2]
    symm
    rw [List.findIdx_eq_length]
    intro a ha
    obtain ⟨j, hj, rfl⟩ := List.getElem_of_mem ha
    have := sp.2.1 j (by omega)
    simp only [hj, List.getElem?_eq_getElem, Option.getD_some] at this
    simpa using (byF_neg o _ x).1 this

end Go.Proofs.Ytomieeajmelglaa
