/- ref09.All: the steps up to the first that is none -/
import Derived.Test.YteejbcknikjkjaaURefC
import Derived.Test.YteejbcknikjkjaaUTells
namespace Go.Proofs.Yteejbcknikjkjaa
open Go.RowKit
set_option linter.unusedVariables false

/-- a list of steps: of each its place and its code point -/
def StRd (w : World) (v : Value) (ps : List Int) : Prop :=
  ∃ ao cap, v = .slice ao ps.length cap ∧ ps.length ≤ cap ∧ cap ≤ maxLen ∧ (0 < ps.length → ∃ g, ao = some ⟨g, 0, none⟩ ∧ g < w.heap.size ∧ ∀ j x, (uPl 0 ps)[j]? = some x → w.cell? ⟨g, j * 4, none⟩ = some (.int .i64 x.1) ∧ w.cell? ⟨g, j * 4 + 2, none⟩ = some (.int .i64 x.2))
theorem StRd.below {w w' : World} {v : Value} {ps : List Int} (h : StRd w v ps) (hb : Below w.heap.size w w') : StRd w' v ps := by
  obtain ⟨ao, cap, h1, h2, h3, h4⟩ := h
  refine ⟨ao, cap, h1, h2, h3, fun hp => ?_⟩
  obtain ⟨g, h5, h6, h7⟩ := h4 hp
  refine ⟨g, h5, by have := hb.size; omega, fun j x hx => ?_⟩
  obtain ⟨a, b⟩ := h7 j x hx
  exact ⟨(hb.cell (p := ⟨g, j * 4, none⟩) h6).trans a, (hb.cell (p := ⟨g, j * 4 + 2, none⟩) h6).trans b⟩

theorem uSV_pl {ps : List Int} (hp : uPts ps) (k : Nat) (rest : List Int) {j : Nat} {x : Int × Int} (h : (uPl k ps)[j]? = some x) : (uSV k (ps ++ rest))[j * 4]? = some (.int .i64 x.1) ∧ (uSV k (ps ++ rest))[j * 4 + 2]? = some (.int .i64 x.2) ∧ (uSV k (ps ++ rest))[j * 4 + 3]? = some (.bool true) := by
  induction ps generalizing k j with
  | nil => simp [uPl] at h
  | cons a ps ih =>
    obtain ⟨h1, h2⟩ := hp.cons
    have hlt := uPt_lt h1
    cases j with
    | zero =>
      simp [uPl] at h
      subst h
      rw [List.cons_append, uSV]
      unfold sVals
      rw [if_pos hlt, decide_eq_true hlt]
      exact ⟨rfl, rfl, rfl⟩
    | succ j =>
      rw [uPl] at h
      have e2 : (sEnc a).length = (uEnc a).length := by unfold sEnc; rw [if_pos hlt]
      obtain ⟨i1, i2, i3⟩ := ih h2 (k + (uEnc a).length) (j := j) (by simpa using h)
      rw [List.cons_append, uSV, e2]
      have e : (sVals k a).length = 4 := rfl
      refine ⟨?_, ?_, ?_⟩
      · rw [List.getElem?_append_right (by rw [e]; omega), e, show (j + 1) * 4 - 4 = j * 4 by omega]; exact i1
      · rw [List.getElem?_append_right (by rw [e]; omega), e, show (j + 1) * 4 + 2 - 4 = j * 4 + 2 by omega]; exact i2
      · rw [List.getElem?_append_right (by rw [e]; omega), e, show (j + 1) * 4 + 3 - 4 = j * 4 + 3 by omega]; exact i3
theorem split_steps {es ps t : List Int} (hb : uByt es) (hS : USplit es ps t) : ∃ rest, USteps es (ps ++ rest) ∧ (rest = [] ∨ ∃ q r, rest = q :: r ∧ ¬ q < 2000000) := by
  have ht : uByt t := fun x hx => hb x (by rw [hS.eq]; exact List.mem_append_right _ hx)
  obtain ⟨rest, hr⟩ := USteps.exists t.length (Nat.le_refl _) ht
  refine ⟨rest, ?_, ?_⟩
  · have := USteps.text hS.pts hr
    rw [← hS.eq] at this
    exact this
  · cases hr with
    | nil => exact .inl rfl
    | @good _ _ p n a b c => have := hS.bad; rw [a] at this; exact absurd this b
    | @bad a r qs c d => exact .inr ⟨_, _, rfl, by have := ht a List.mem_cons_self; omega⟩

set_option maxRecDepth 100000 in
set_option maxHeartbeats 4000000 in
theorem rall_any {w : World} {s : ByteArray} {es ps t : List Int} (hb : uByt es) (hs : s = strOfNums es) (hl : es.length ≤ 1099511627776) (hS : USplit es ps t) :
    Calls Try.prog 14 #[.string s] w fun e w' => ∃ v, e = .returned v ∧ StRd w' v ps ∧ Below w.heap.size w w' := by
  obtain ⟨rest, hQ, hr⟩ := split_steps hb hS
  have hlen : (ps ++ rest).length ≤ 1099511627776 := by have := hQ.len hb; omega
  have HST := hide (fun w => rsteps_any (w := w) hb hs hl hQ)
  have HP := hide hS.pts
  obtain ⟨qs, hqs⟩ : ∃ qs, qs = ps ++ rest := ⟨_, rfl⟩
  rw [← hqs] at HST hlen
  have hpl : ps.length ≤ qs.length := by rw [hqs, List.length_append]; omega
  have HC1 := hide (fun (j : Nat) x (h : (uPl 0 ps)[j]? = some x) => uSV_pl HP.out 0 rest h)
  have HC2 := hide (show ps.length < qs.length → (uSV 0 qs)[ps.length * 4 + 3]? = some (.bool false) from fun h => by
    rcases hr with h2 | ⟨q, r, h2, h3⟩
    · rw [hqs, h2, List.append_nil] at h; omega
    · have : qs[ps.length]? = some q := by rw [hqs, h2]; simp
      rw [(sVals_get 0 this).2, decide_eq_false h3])
  rw [← hqs] at HC1
  clear hs hb hl hS hQ hr hqs
  go_enter Try.func14, Try.ntmps14
  go_wp2_with fail
  refine (HST.out _).mono ?_
  rintro e w0 ⟨v0, rfl, hrow0, hB0⟩
  obtain ⟨ao, cap, rfl, hcap, hcm, hcells⟩ := steps_cells hrow0
  have hcm' := hcm
  unfold maxLen at hcm
  have HC := hide hcells
  clear hcells hrow0 HST
  go_wp2_with fail
  go_loopg [4] qs.length (fun c i wr => ∃ (j : Nat), j ≤ ps.length ∧ i = .int .i64 j ∧ c = qs.length - j ∧ w0 = wr)
  case atStart => exact ⟨0, by omega, rfl, by omega, rfl⟩
  case round =>
    obtain ⟨j, hj, rfl, hg, hw⟩ := hrel
    subst hw
    by_cases hlt : j < ps.length
    · obtain ⟨x, hx⟩ : ∃ x, (uPl 0 ps)[j]? = some x := ⟨_, List.getElem?_eq_getElem (by rw [uPl_len]; exact hlt)⟩
      obtain ⟨g, rfl, hgl, hcl⟩ := HC.out (by omega)
      have c3 := hcl _ _ (HC1.out j x hx).2.2
      have q1 : (j : Int) < (qs.length : Int) := by omega
      clear hcl hx
      go_wp2
      go_roundg (qs.length - (j + 1))
      case measure => omega
      case rel => exact ⟨j + 1, by omega, by simp, rfl, rfl⟩
    · have hje : j = ps.length := by omega
      subst hje
      by_cases hlt2 : ps.length < qs.length
      · obtain ⟨g, rfl, hgl, hcl⟩ := HC.out (by omega)
        have c3 := hcl _ _ (HC2.out hlt2)
        have q1 : (ps.length : Int) < (qs.length : Int) := by omega
        have q2 : (ps.length : Int) ≤ (cap : Int) := by omega
        have HCL := hide hcl
        clear hcl
        go_wp2
        go_ret
        refine ⟨_, rfl, ?_, hB0⟩
        refine ⟨some ⟨g, 0, none⟩, cap, by simp, by omega, hcm', fun _ => ⟨g, rfl, hgl, fun j x hx => ?_⟩⟩
        exact ⟨HCL.out _ _ (HC1.out j x hx).1, HCL.out _ _ (HC1.out j x hx).2.1⟩
      · have q1 : ¬ (ps.length : Int) < (qs.length : Int) := by omega
        have he : qs.length = ps.length := by omega
        go_wp2
        go_ret
        refine ⟨_, rfl, ⟨ao, cap, rfl, by omega, hcm', fun h => ?_⟩, hB0⟩
        obtain ⟨g, h1, h2, h3⟩ := HC.out (by omega)
        exact ⟨g, h1, h2, fun j x hx => ⟨h3 _ _ (HC1.out j x hx).1, h3 _ _ (HC1.out j x hx).2.1⟩⟩

end Go.Proofs.Yteejbcknikjkjaa
