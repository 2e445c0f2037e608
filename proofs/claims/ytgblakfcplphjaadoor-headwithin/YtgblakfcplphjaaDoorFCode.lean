/- fault.numbered, fault.Code, fault.bare -/
import Derived.Test.YtgblakfcplphjaaDoorFFnd
import Derived.Deep.LoopGhost
namespace Go.Proofs.YtgblakfcplphjaaDoor
open Go.RowKit
set_option linter.unusedVariables false

theorem results_one {P : Program} {fn : Func} {p : Tmp} {ty : TypeId} (h : fn.results = #[.cell p ty]) (tmps : Array Value) (w : World) :
    (results fn tmps).run P w = ((asAddr (tmps.getD p undef)).run P w).andThen fun a w1 => (loadVar ty a).run P w1 := by
  simp only [results, h]
  simp [Sem.run_bind, Result.andThen]
theorem leastB_stays {b : Nat → Bool} {k : Nat} (h : leastB b k ≠ -1) : ∀ j, k ≤ j → leastB b j = leastB b k := by
  intro j hj
  induction j with
  | zero => rw [Nat.le_zero.1 hj]
  | succ j ih =>
    rcases Nat.lt_or_ge k (j + 1) with g | g
    · have := ih (by omega)
      rw [leastB, this, if_neg h]
    · rw [Nat.le_antisymm hj g]
theorem leastB_range (b : Nat → Bool) : ∀ k, leastB b k = -1 ∨ ∃ i, i < k ∧ leastB b k = (i : Int) + 1 ∧ b i = true := by
  intro k
  induction k with
  | zero => exact Or.inl rfl
  | succ k ih =>
    rcases ih with h | ⟨i, hi, h, hb⟩
    · rw [leastB, if_pos h]
      by_cases g : b k = true
      · rw [if_pos g]; exact Or.inr ⟨k, by omega, rfl, g⟩
      · rw [if_neg g]; exact Or.inl rfl
    · rw [leastB, if_neg (by omega)]
      exact Or.inr ⟨i, by omega, h, hb⟩
theorem leastB_dec {m k : Nat} (hm : m < k) : leastB (fun i => decide (i = m)) k = (m : Int) + 1 := by
  have h : ∀ j, j ≤ m → leastB (fun i => decide (i = m)) j = -1 := by
    intro j hj
    induction j with
    | zero => rfl
    | succ j ih => rw [leastB, if_pos (ih (by omega))]; simp; omega
  have h1 : leastB (fun i => decide (i = m)) (m + 1) = (m : Int) + 1 := by
    rw [leastB, if_pos (h m (Nat.le_refl _))]; simp
  rw [leastB_stays (k := m + 1) (by omega) k hm, h1]
theorem leastB_none {m k : Nat} (hm : k ≤ m) : leastB (fun i => decide (i = m)) k = -1 := by
  induction k with
  | zero => rfl
  | succ k ih => rw [leastB, if_pos (ih (by omega))]; simp; omega
/-- one of the twelve, as an error -/
def sE (a : Nat → Addr) (i : Nat) : Value := .iface 102 (.pointer (some (a i)))
def sAgg (a : Nat → Addr) : Value := .agg #[sE a 0, sE a 1, sE a 2, sE a 3, sE a 4, sE a 5, sE a 6, sE a 7, sE a 8, sE a 9, sE a 10]

set_option maxHeartbeats 4000000 in
set_option maxRecDepth 100000 in
theorem numbered_any {w : World} {a : Nat → Addr} (hS : Snt w a) :
    Calls Tryd.prog 41 #[] w fun e w' => e = .returned (sAgg a) ∧ Below w.heap.size w w' := by
  have HK := (Below.refl w.heap.size w).alloc (Nat.le_refl _) (.cells #[.nilIface, .nilIface, .nilIface, .nilIface, .nilIface, .nilIface, .nilIface, .nilIface, .nilIface, .nilIface, .nilIface] 61)
  have HN := heap_alloc_new w (.cells #[.nilIface, .nilIface, .nilIface, .nilIface, .nilIface, .nilIface, .nilIface, .nilIface, .nilIface, .nilIface, .nilIface] 61)
  have HS := hS.below HK
  have c0 := HS.cell 0 (by omega); have c1 := HS.cell 1 (by omega); have c2 := HS.cell 2 (by omega); have c3 := HS.cell 3 (by omega)
  have c4 := HS.cell 4 (by omega); have c5 := HS.cell 5 (by omega); have c6 := HS.cell 6 (by omega); have c7 := HS.cell 7 (by omega)
  have c8 := HS.cell 8 (by omega); have c9 := HS.cell 9 (by omega); have c10 := HS.cell 10 (by omega)
  simp only [sG, List.getD_cons_zero, List.getD_cons_succ] at c0 c1 c2 c3 c4 c5 c6 c7 c8 c9 c10
  clear hS HS
  replace HK := hide HK
  replace HN := hide HN
  go_enter Tryd.func41, Tryd.ntmps41
  go_wp2
  have HQ := hide ((Below.refl w.heap.size w).alloc (Nat.le_refl _) (.cells #[.iface 102 (.pointer (some (a 0))), .iface 102 (.pointer (some (a 1))), .iface 102 (.pointer (some (a 2))), .iface 102 (.pointer (some (a 3))), .iface 102 (.pointer (some (a 4))), .iface 102 (.pointer (some (a 5))), .iface 102 (.pointer (some (a 6))), .iface 102 (.pointer (some (a 7))), .iface 102 (.pointer (some (a 8))), .iface 102 (.pointer (some (a 9))), .iface 102 (.pointer (some (a 10)))] 61))
  clear c0 c1 c2 c3 c4 c5 c6 c7 c8 c9 c10 HK HN
  refine bodyPost_ret (v := sAgg a) (by rw [results_one rfl]; simp only [sAgg, sE]; go_simp) rfl ⟨rfl, HQ.out⟩
theorem idx_agg (a : Nat → Addr) (k : Nat) (hk : k < 11) (w : World) : (Instr.index 61 (sAgg a) (.int .i64 k)).run Tryd.prog w = .ok (.iface 102 (.pointer (some (a k)))) w := by
  rcases (by omega : k = 0 ∨ k = 1 ∨ k = 2 ∨ k = 3 ∨ k = 4 ∨ k = 5 ∨ k = 6 ∨ k = 7 ∨ k = 8 ∨ k = 9 ∨ k = 10) with rfl | rfl | rfl | rfl | rfl | rfl | rfl | rfl | rfl | rfl | rfl <;> kernel_rfl

set_option maxHeartbeats 4000000 in
set_option maxRecDepth 100000 in
theorem fcode_any {w : World} {a : Nat → Addr} {u : TypeId} {x : Value} {b : Nat → Bool} (hS : Snt w a) (hE : ErrIs w a u x b) :
    Calls Tryd.prog 34 #[.iface u x] w fun e w' => e = .returned (.int .i64 (leastB b 11)) ∧ Below w.heap.size w w' := by
  have HE := hide hE
  have HN := hide (numbered_any hS)
  clear hS hE
  go_enter Tryd.func34, Tryd.ntmps34
  go_wp2_with fail
  refine HN.out.mono ?_
  rintro e w1 ⟨rfl, hb1⟩
  have K1 := hide hb1
  clear hb1 HN
  generalize hag : sAgg a = A
  go_wp2_with fail
  go_loopg [2, 3, 4, 8, 9, 10, 11, 12, 13, 14, 15, 16, 17] 11 (fun c n e3 e4 i s9 s10 s11 s12 s13 s14 s15 s16 s17 wr => ∃ k : Nat, k ≤ 11 ∧ i = .int .i64 k ∧ c = 11 - k ∧ n = .int .i64 0 ∧ leastB b k = -1 ∧ Hid (Below w.heap.size w wr))
  case atStart => exact ⟨0, by omega, rfl, by omega, rfl, rfl, K1⟩
  case round =>
    obtain ⟨k, hk, rfl, hc, rfl, hl, HB⟩ := hrel
    by_cases hlt : k < 11
    · have p1 : (k : Int) < 11 := by omega
      have p0 : (0 : Int) ≤ (k : Int) := by omega
      have HI := hide (fis_any (HE.out.below HB.out) hlt)
      have hix := idx_agg a k hlt
      rw [hag] at hix
      go_wp2_with fail
      refine HI.out.mono ?_
      rintro e w2 ⟨rfl, hb2⟩
      have K2 := hide (HB.out.trans (hb2.mono HB.out.size))
      clear hb2 HI hix
      cases hbk : b k with
      | true =>
        go_wp2
        go_ret
        refine ⟨?_, K2.out⟩
        have e1 : leastB b (k + 1) = (k : Int) + 1 := by rw [leastB, if_pos hl, if_pos hbk]
        rw [leastB_stays (k := k + 1) (by omega) 11 (by omega), e1]
        rfl
      | false =>
        go_wp2
        go_roundg (11 - (k + 1))
        case measure => omega
        case rel => exact ⟨k + 1, by omega, by simp, rfl, rfl, by rw [leastB, if_pos hl, hbk]; rfl, K2⟩
    · have p1 : ¬ (k : Int) < 11 := by omega
      obtain rfl : k = 11 := by omega
      go_wp2
      go_ret
      exact ⟨rfl, HB.out⟩
theorem fcode_nil {w : World} : Calls Tryd.prog 34 #[.nilIface] w fun e w' => e = .returned (.int .i64 0) ∧ w' = w := by
  go_enter Tryd.func34, Tryd.ntmps34
  go_wp2
  go_ret
  exact ⟨rfl, rfl⟩

/-- which of the twelve is left of an error -/
def bareN (b : Nat → Bool) : Nat := if leastB b 11 = -1 then 11 else (leastB b 11 - 1).toNat
theorem bareN_lt (b : Nat → Bool) : bareN b < 12 := by
  unfold bareN
  rcases leastB_range b 11 with h | ⟨i, hi, h, _⟩
  · rw [if_pos h]; omega
  · rw [if_neg (by omega), h]; omega
theorem bareN_least (b : Nat → Bool) : leastB (fun i => decide (i = bareN b)) 11 = leastB b 11 := by
  unfold bareN
  rcases leastB_range b 11 with h | ⟨i, hi, h, _⟩
  · rw [if_pos h, leastB_none (Nat.le_refl _), h]
  · rw [if_neg (by omega), h, show ((i : Int) + 1 - 1).toNat = i from by omega, leastB_dec hi]

end Go.Proofs.YtgblakfcplphjaaDoor
