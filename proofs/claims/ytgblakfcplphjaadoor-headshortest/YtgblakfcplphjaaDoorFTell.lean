/- the laws' own Code, At, Path; fault.At, fault.Path -/
import Derived.Test.YtgblakfcplphjaaDoorFCode
namespace Go.Proofs.YtgblakfcplphjaaDoor
open Go.RowKit
set_option linter.unusedVariables false

/-- what the laws' Code tells: -1 none, -2 several -/
def hcB (b : Nat → Bool) : Nat → Int
  | 0 => -1
  | k + 1 => if hcB b k = -2 then -2 else if b k then (if hcB b k = -1 then (k : Int) + 1 else -2) else hcB b k
theorem hcB_two {b : Nat → Bool} {k : Nat} (h : hcB b k = -2) : ∀ j, k ≤ j → hcB b j = -2 := by
  intro j hj
  induction j with
  | zero => rw [← Nat.le_zero.1 hj]; exact h
  | succ j ih =>
    rcases Nat.lt_or_ge k (j + 1) with g | g
    · rw [hcB, if_pos (ih (by omega))]
    · rw [← Nat.le_antisymm hj g]; exact h
theorem hcB_range (b : Nat → Bool) : ∀ k, (hcB b k = -1 ∧ leastB b k = -1) ∨ (hcB b k = -2 ∧ leastB b k ≠ -1) ∨ (0 < hcB b k ∧ hcB b k ≤ k ∧ leastB b k = hcB b k) := by
  intro k
  induction k with
  | zero => exact Or.inl ⟨rfl, rfl⟩
  | succ k ih =>
    have e1 : hcB b (k + 1) = if hcB b k = -2 then -2 else if b k then (if hcB b k = -1 then (k : Int) + 1 else -2) else hcB b k := rfl
    have e2 : leastB b (k + 1) = if leastB b k = -1 then (if b k then (k : Int) + 1 else -1) else leastB b k := rfl
    by_cases g : b k = true
    · simp only [g, if_true] at e1 e2
      split at e1 <;> split at e2 <;> (try split at e1) <;> omega
    · simp only [g] at e1 e2
      split at e1 <;> split at e2 <;> (try simp at e1 e2) <;> omega
theorem hcB_dec {m k : Nat} : hcB (fun i => decide (i = m)) k = if m < k then (m : Int) + 1 else -1 := by
  induction k with
  | zero => rfl
  | succ k ih =>
    have e1 : hcB (fun i => decide (i = m)) (k + 1) = if hcB (fun i => decide (i = m)) k = -2 then -2 else if decide (k = m) then (if hcB (fun i => decide (i = m)) k = -1 then (k : Int) + 1 else -2) else hcB (fun i => decide (i = m)) k := rfl
    rw [e1, ih]
    simp only [decide_eq_true_eq]
    (repeat' split) <;> omega

theorem hcode_nil {w : World} : Calls Tryd.prog 18 #[.nilIface] w fun e w' => e = .returned (.int .i64 0) ∧ w' = w := by
  go_enter Tryd.func18, Tryd.ntmps18
  go_wp2
  go_ret
  exact ⟨rfl, rfl⟩

set_option maxHeartbeats 4000000 in
set_option maxRecDepth 100000 in
theorem hcode_any {w : World} {a : Nat → Addr} {u : TypeId} {x : Value} {b : Nat → Bool} (hS : Snt w a) (hE : ErrIs w a u x b) :
    Calls Tryd.prog 18 #[.iface u x] w fun e w' => e = .returned (.int .i64 (hcB b 11)) ∧ Below w.heap.size w w' := by
  have c0 := hS.cell 0 (by omega); have c1 := hS.cell 1 (by omega); have c2 := hS.cell 2 (by omega); have c3 := hS.cell 3 (by omega)
  have c4 := hS.cell 4 (by omega); have c5 := hS.cell 5 (by omega); have c6 := hS.cell 6 (by omega); have c7 := hS.cell 7 (by omega)
  have c8 := hS.cell 8 (by omega); have c9 := hS.cell 9 (by omega); have c10 := hS.cell 10 (by omega)
  simp only [sG, List.getD_cons_zero, List.getD_cons_succ] at c0 c1 c2 c3 c4 c5 c6 c7 c8 c9 c10
  have HE := hide hE
  clear hS hE
  have HK := hide ((Below.refl w.heap.size w).alloc (Nat.le_refl _) (.cells #[.iface 102 (.pointer (some (a 0))), .iface 102 (.pointer (some (a 1))), .iface 102 (.pointer (some (a 2))), .iface 102 (.pointer (some (a 3))), .iface 102 (.pointer (some (a 4))), .iface 102 (.pointer (some (a 5))), .iface 102 (.pointer (some (a 6))), .iface 102 (.pointer (some (a 7))), .iface 102 (.pointer (some (a 8))), .iface 102 (.pointer (some (a 9))), .iface 102 (.pointer (some (a 10)))] 61))
  have HC := hide (show ∀ i, i < 11 → (w.alloc (.cells #[.iface 102 (.pointer (some (a 0))), .iface 102 (.pointer (some (a 1))), .iface 102 (.pointer (some (a 2))), .iface 102 (.pointer (some (a 3))), .iface 102 (.pointer (some (a 4))), .iface 102 (.pointer (some (a 5))), .iface 102 (.pointer (some (a 6))), .iface 102 (.pointer (some (a 7))), .iface 102 (.pointer (some (a 8))), .iface 102 (.pointer (some (a 9))), .iface 102 (.pointer (some (a 10)))] 61)).cell? ⟨w.heap.size, i, none⟩ = some (.iface 102 (.pointer (some (a i)))) from fun i hi => by
    rw [Lib.cell_of_heap (heap_alloc_new w _)]
    rcases (by omega : i = 0 ∨ i = 1 ∨ i = 2 ∨ i = 3 ∨ i = 4 ∨ i = 5 ∨ i = 6 ∨ i = 7 ∨ i = 8 ∨ i = 9 ∨ i = 10) with rfl | rfl | rfl | rfl | rfl | rfl | rfl | rfl | rfl | rfl | rfl <;> rfl)
  have HZ := hide (show w.heap.size < (w.alloc (.cells #[.iface 102 (.pointer (some (a 0))), .iface 102 (.pointer (some (a 1))), .iface 102 (.pointer (some (a 2))), .iface 102 (.pointer (some (a 3))), .iface 102 (.pointer (some (a 4))), .iface 102 (.pointer (some (a 5))), .iface 102 (.pointer (some (a 6))), .iface 102 (.pointer (some (a 7))), .iface 102 (.pointer (some (a 8))), .iface 102 (.pointer (some (a 9))), .iface 102 (.pointer (some (a 10)))] 61)).heap.size from by simp)
  go_enter Tryd.func18, Tryd.ntmps18
  go_wp2
  generalize w.alloc (.cells #[.iface 102 (.pointer (some (a 0))), .iface 102 (.pointer (some (a 1))), .iface 102 (.pointer (some (a 2))), .iface 102 (.pointer (some (a 3))), .iface 102 (.pointer (some (a 4))), .iface 102 (.pointer (some (a 5))), .iface 102 (.pointer (some (a 6))), .iface 102 (.pointer (some (a 7))), .iface 102 (.pointer (some (a 8))), .iface 102 (.pointer (some (a 9))), .iface 102 (.pointer (some (a 10)))] 61) = W at *
  clear c0 c1 c2 c3 c4 c5 c6 c7 c8 c9 c10
  go_loopg [4, 5] 11 (fun c n i wr => ∃ k : Nat, k ≤ 11 ∧ i = .int .i64 k ∧ c = 11 - k ∧ n = .int .i64 (hcB b k) ∧ hcB b k ≠ -2 ∧ Hid (Below W.heap.size W wr))
  case atStart => exact ⟨0, by omega, rfl, by omega, rfl, by show (-1 : Int) ≠ -2; decide, hide (Below.refl _ _)⟩
  case round =>
    obtain ⟨k, hk, rfl, hc, rfl, hn2, HB⟩ := hrel
    by_cases hlt : k < 11
    · have p1 : (k : Int) < 11 := by omega
      have p0 : (0 : Int) ≤ (k : Int) := by omega
      have KW := hide (HK.out.trans (HB.out.mono HK.out.size))
      have cc : wr.cell? ⟨w.heap.size, k, none⟩ = some (.iface 102 (.pointer (some (a k)))) := by
        rw [(fubcell0 HB.out).1 _ _ HZ.out]; exact HC.out k hlt
      have HI := hide (HE.out wr KW.out k hlt)
      obtain ⟨z, hz⟩ : ∃ z, hcB b k = z := ⟨_, rfl⟩
      have hr := hcB_range b k
      have hs : hcB b (k + 1) = if b k then (if z = -1 then (k : Int) + 1 else -2) else z := by rw [hcB, if_neg hn2, hz]
      rw [hz] at hr hn2 ⊢
      replace hs := hide hs
      clear hz
      go_wp2_with fail
      refine HI.out.mono ?_
      rintro e w2 ⟨rfl, hb2⟩
      have K2 := hide (HB.out.trans (hb2.mono HB.out.size))
      have K3 := hide (KW.out.trans (hb2.mono KW.out.size))
      clear hb2 HI cc
      cases hbk : b k with
      | true =>
        by_cases hz1 : z = -1
        · subst hz1
          go_wp2
          go_roundg (11 - (k + 1))
          case measure => omega
          case rel =>
            have e1 : hcB b (k + 1) = (k : Int) + 1 := by rw [hs.out, hbk]; rfl
            exact ⟨k + 1, by omega, by simp, rfl, by rw [e1], by rw [e1]; omega, K2⟩
        · have p2 : (0 : Int) < z := by rcases hr with ⟨h, _⟩ | ⟨h, _⟩ | ⟨h, _, _⟩ <;> omega
          have e1 : hcB b (k + 1) = -2 := by rw [hs.out, hbk, if_pos rfl, if_neg hz1]
          have e2 := hide (hcB_two e1 11 (by omega))
          clear hr hs e1 hz1 hn2
          go_wp2
          go_ret
          exact ⟨by rw [e2.out]; rfl, K3.out⟩
      | false =>
        clear hr
        go_wp2
        go_roundg (11 - (k + 1))
        case measure => omega
        case rel =>
          have e1 : hcB b (k + 1) = z := by rw [hs.out, hbk]; rfl
          exact ⟨k + 1, by omega, by simp, rfl, by rw [e1], by rw [e1]; exact hn2, K2⟩
    · have p1 : ¬ (k : Int) < 11 := by omega
      obtain rfl : k = 11 := by omega
      go_wp2
      go_ret
      exact ⟨rfl, HK.out.trans (HB.out.mono HK.out.size)⟩
/-- what is told of the place -/
def atV (o : Option (Int × ByteArray)) : Value := match o with
  | none => .tuple #[.int .i64 0, .bool false]
  | some q => .tuple #[.int .i64 q.1, .bool true]
def pathV (o : Option (Int × ByteArray)) : Value := match o with
  | none => .tuple #[.string ⟨#[]⟩, .bool false]
  | some q => .tuple #[.string q.2, .bool true]

theorem hat_any {w : World} {u : TypeId} {x : Value} {r : Option (Option Addr)} {o : Option (Int × ByteArray)} (hA : AsIs w u x r) (hT : Told w r o) :
    Calls Tryd.prog 19 #[.iface u x] w fun e w' => e = .returned (atV o) ∧ Below w.heap.size w w' := by
  have HA := hide (hA w (Below.refl _ _))
  have HT := hide hT
  clear hA hT
  go_enter Tryd.func19, Tryd.ntmps19
  go_wp2_with fail
  refine HA.out.mono ?_
  rintro e w1 ⟨rfl, hb, hc⟩
  have T1 := HT.out.below hb
  replace hb := hide hb
  clear HA HT
  rcases T1 with ⟨rfl, rfl | rfl⟩ | ⟨g, ev, k, s, rfl, rfl, hg, hev⟩
  · simp only [Option.isSome_none, Option.getD_none] at hc ⊢
    go_wp2
    go_ret2
    exact ⟨rfl, hb.out⟩
  · simp only [Option.isSome_some, Option.getD_some] at hc ⊢
    go_wp2
    go_ret2
    exact ⟨rfl, hb.out⟩
  · simp only [Option.isSome_some, Option.getD_some] at hc ⊢
    have c1 : w1.cell? ⟨g, 1, none⟩ = some (.int .i64 k) := by rw [Lib.cell_of_heap hg]; rfl
    clear hg hev
    go_wp2
    go_ret2
    exact ⟨rfl, hb.out⟩

theorem hpath_any {w : World} {u : TypeId} {x : Value} {r : Option (Option Addr)} {o : Option (Int × ByteArray)} (hA : AsIs w u x r) (hT : Told w r o) :
    Calls Tryd.prog 24 #[.iface u x] w fun e w' => e = .returned (pathV o) ∧ Below w.heap.size w w' := by
  have HA := hide (hA w (Below.refl _ _))
  have HT := hide hT
  clear hA hT
  go_enter Tryd.func24, Tryd.ntmps24
  go_wp2_with fail
  refine HA.out.mono ?_
  rintro e w1 ⟨rfl, hb, hc⟩
  have T1 := HT.out.below hb
  replace hb := hide hb
  clear HA HT
  rcases T1 with ⟨rfl, rfl | rfl⟩ | ⟨g, ev, k, s, rfl, rfl, hg, hev⟩
  · simp only [Option.isSome_none, Option.getD_none] at hc ⊢
    go_wp2
    go_ret2
    exact ⟨rfl, hb.out⟩
  · simp only [Option.isSome_some, Option.getD_some] at hc ⊢
    go_wp2
    go_ret2
    exact ⟨rfl, hb.out⟩
  · simp only [Option.isSome_some, Option.getD_some] at hc ⊢
    have c1 : w1.cell? ⟨g, 2, none⟩ = some (.string s) := by rw [Lib.cell_of_heap hg]; rfl
    clear hg hev
    go_wp2
    go_ret2
    exact ⟨rfl, hb.out⟩

end Go.Proofs.YtgblakfcplphjaaDoor
