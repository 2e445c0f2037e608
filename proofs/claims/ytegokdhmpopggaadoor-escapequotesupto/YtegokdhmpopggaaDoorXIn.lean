/- escape: only, in, letterOf, saidBy -/
import Derived.Test.YtegokdhmpopggaaDoorUFirst
import Derived.Test.YtegokdhmpopggaaDoorXTxt
namespace Go.Proofs.YtegokdhmpopggaaDoor
open Go.RowKit
set_option linter.unusedVariables false

/-- in one of the spans -/
def xSp (c : Int) (sp : List (Int × Int)) : Bool := sp.any fun q => decide (q.1 ≤ c) && decide (c ≤ q.2)
/-- a list of spans -/
def SpAt (w : World) (v : Value) (sp : List (Int × Int)) : Prop :=
  ∃ g, v = .slice (some ⟨g, 0, none⟩) sp.length sp.length ∧ g < w.heap.size ∧ ∀ i q, sp[i]? = some q → w.cell? ⟨g, i * 2, none⟩ = some (.int .u8 q.1) ∧ w.cell? ⟨g, i * 2 + 1, none⟩ = some (.int .u8 q.2)
theorem ubcell0 {W w1 : World} (hb : Below W.heap.size W w1) : (∀ b o, b < W.heap.size → w1.cell? ⟨b, o, none⟩ = W.cell? ⟨b, o, none⟩) ∧ (∀ b o, b < W.heap.size → w1.frozen? ⟨b, o, none⟩ = W.frozen? ⟨b, o, none⟩) :=
  ⟨fun b o h => by simp only [World.cell?]; rw [hb.block b h], fun b o h => by simp only [World.frozen?]; rw [hb.block b h]⟩
theorem results_one {P : Program} {fn : Func} {p : Tmp} {ty : TypeId} (h : fn.results = #[.cell p ty]) (tmps : Array Value) (w : World) :
    (results fn tmps).run P w = ((asAddr (tmps.getD p undef)).run P w).andThen fun a w1 => (loadVar ty a).run P w1 := by
  simp only [results, h]
  simp [Sem.run_bind, Result.andThen]
theorem only_any {w : World} {c : Int} : Calls Tryd.prog 35 #[.int .u8 c] w fun e w' => e = .returned (.agg #[.int .u8 c, .int .u8 c]) ∧ Below w.heap.size w w' := by
  go_enter Tryd.func35, Tryd.ntmps35
  go_wp2
  (try simp only [Exit.inBlock, Exit.then])
  refine bodyPost_ret (v := .agg #[.int .u8 c, .int .u8 c]) (by rw [results_one rfl]; go_simp) rfl ?_
  refine ⟨rfl, ?_⟩
  exact (Below.refl _ _).alloc (Nat.le_refl _) _

set_option maxRecDepth 100000 in
set_option maxHeartbeats 4000000 in
theorem in_any {w : World} {v : Value} {sp : List (Int × Int)} {c : Int} (hv : SpAt w v sp) (hl : sp.length ≤ 1000) :
    Calls Tryd.prog 34 #[.int .u8 c, v] w fun e w' => e = .returned (.bool (xSp c sp)) ∧ Below w.heap.size w w' := by
  obtain ⟨g, rfl, hg, hc⟩ := hv
  obtain ⟨R, hR⟩ : ∃ R, xSp c sp = R := ⟨_, rfl⟩
  have HR := hide hR
  rw [hR]; clear hR
  obtain ⟨N, hN⟩ : ∃ N, sp.length = N := ⟨_, rfl⟩
  have HN := hide hN
  have HC := hide hc
  rw [hN] at hl ⊢
  clear hN hc
  go_enter Tryd.func34, Tryd.ntmps34
  go_wp2
  go_loopg [6, 9] N (fun m s6 i wr => ∃ k : Nat, k ≤ N ∧ i = .int .i64 k ∧ m = N - k ∧ Hid (xSp c (sp.drop k) = R) ∧ Below w.heap.size w wr)
  case atStart => exact ⟨0, by omega, rfl, by omega, HR, Below.refl _ _⟩
  case round =>
    obtain ⟨k, hk, rfl, hm, HK, hbr⟩ := hrel
    have hzr := hbr.size
    by_cases hlt : k < N
    · have p1 : (k : Int) < (N : Int) := by omega
      have hks : k < sp.length := by rw [HN.out]; exact hlt
      obtain ⟨q, hq⟩ : ∃ q, sp[k]? = some q := ⟨_, List.getElem?_eq_getElem hks⟩
      have hcc := HC.out k q hq
      have c0 : wr.cell? ⟨g, k * 2, none⟩ = some (.int .u8 q.1) := by rw [(ubcell0 hbr).1 _ _ hg]; exact hcc.1
      have c1 : wr.cell? ⟨g, k * 2 + 1, none⟩ = some (.int .u8 q.2) := by rw [(ubcell0 hbr).1 _ _ hg]; exact hcc.2
      obtain ⟨f, l⟩ := q
      simp only at c0 c1
      have HK2 := hide (show (decide (f ≤ c) && decide (c ≤ l) || xSp c (sp.drop (k + 1))) = R by
        rw [← HK.out, List.drop_eq_getElem_cons hks]
        have : sp[k] = (f, l) := by rw [List.getElem?_eq_getElem hks] at hq; exact Option.some.inj hq
        rw [this]; rfl)
      clear HK hcc hq
      go_wp2
      · rename_i q1 q2
        have hRt : R = true := by rw [← HK2.out, decide_eq_true q1, decide_eq_true q2]; rfl
        subst hRt
        go_ret
        exact ⟨rfl, hbr.alloc hzr _⟩
      · rename_i q1 q2
        go_roundg (N - (k + 1))
        case measure => omega
        case rel => exact ⟨k + 1, by omega, by simp, rfl, hide (by rw [← HK2.out, decide_eq_false (show ¬ c ≤ l by omega)]; simp), hbr.alloc hzr _⟩
      · rename_i q1
        go_roundg (N - (k + 1))
        case measure => omega
        case rel => exact ⟨k + 1, by omega, by simp, rfl, hide (by rw [← HK2.out, decide_eq_false (show ¬ f ≤ c by omega)]; simp), hbr.alloc hzr _⟩
    · have p1 : ¬ (k : Int) < (N : Int) := by omega
      have hRf : R = false := by rw [← HK.out, List.drop_of_length_le (by rw [HN.out]; omega)]; rfl
      subst hRf
      go_wp2
      go_ret
      exact ⟨rfl, hbr⟩

end Go.Proofs.YtegokdhmpopggaaDoor
