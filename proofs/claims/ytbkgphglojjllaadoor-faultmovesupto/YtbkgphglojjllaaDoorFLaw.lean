/- tells, has, sentinel, lives; a step that has neither sign in it -/
import Derived.Test.YtbkgphglojjllaaDoorFEr
namespace Go.Proofs.YtbkgphglojjllaaDoor
open Go.RowKit
set_option linter.unusedVariables false

set_option maxRecDepth 100000 in
theorem count126 {w : World} {s : ByteArray} : Calls Tryd.prog 57 #[.string s, .string ⟨#[126]⟩] w fun e w' => e = .returned (.int .i64 (Lib.countByte s.data.toList 126)) ∧ w' = w := by
  go_enter Tryd.func57, Tryd.ntmps57
  go_wp2
  rw [run_callFunc_extern Tryd.func64 (by kernel_rfl) (by kernel_rfl) (by kernel_rfl) (e := Extern.BytealgCount.count) (by kernel_rfl), Lib.run_countString]
  simp only [Result.andThen]
  rw [Oper.upon_value]
  go_wp2
  go_ret
  exact ⟨rfl, rfl⟩
set_option maxRecDepth 100000 in
theorem count47 {w : World} {s : ByteArray} : Calls Tryd.prog 57 #[.string s, .string ⟨#[47]⟩] w fun e w' => e = .returned (.int .i64 (Lib.countByte s.data.toList 47)) ∧ w' = w := by
  go_enter Tryd.func57, Tryd.ntmps57
  go_wp2
  rw [run_callFunc_extern Tryd.func64 (by kernel_rfl) (by kernel_rfl) (by kernel_rfl) (e := Extern.BytealgCount.count) (by kernel_rfl), Lib.run_countString]
  simp only [Result.andThen]
  rw [Oper.upon_value]
  go_wp2
  go_ret
  exact ⟨rfl, rfl⟩
set_option maxRecDepth 100000 in
theorem rep126_none {w : World} {s : ByteArray} (h : Lib.countByte s.data.toList 126 = 0) : Calls Tryd.prog 52 #[.string s, .string ⟨#[126]⟩, .string ⟨#[126, 48]⟩] w fun e w' => e = .returned (.string s) ∧ w' = w := by
  have HC := hide (count126 (w := w) (s := s))
  rw [h] at HC
  clear h
  go_enter Tryd.func52, Tryd.ntmps52
  go_wp2_with (first
    | (go_at_call 57; refine HC.out.mono ?_; rintro e w' ⟨rfl, rfl⟩)
    | go_in)
  go_ret
  exact ⟨rfl, rfl⟩
set_option maxRecDepth 100000 in
theorem rep47_none {w : World} {s : ByteArray} (h : Lib.countByte s.data.toList 47 = 0) : Calls Tryd.prog 52 #[.string s, .string ⟨#[47]⟩, .string ⟨#[126, 49]⟩] w fun e w' => e = .returned (.string s) ∧ w' = w := by
  have HC := hide (count47 (w := w) (s := s))
  rw [h] at HC
  clear h
  go_enter Tryd.func52, Tryd.ntmps52
  go_wp2_with (first
    | (go_at_call 57; refine HC.out.mono ?_; rintro e w' ⟨rfl, rfl⟩)
    | go_in)
  go_ret
  exact ⟨rfl, rfl⟩
theorem wr_b {w0 : World} : WrIs w0 ⟨#[98]⟩ ⟨#[47, 98]⟩ := by
  intro w _
  have H1 := hide (rep126_none (w := w) (s := ⟨#[98]⟩) (by decide))
  have H2 := hide (rep47_none (w := w) (s := ⟨#[98]⟩) (by decide))
  go_enter Tryd.func42, Tryd.ntmps42
  go_wp2_with fail
  refine H1.out.mono ?_
  rintro e w1 ⟨rfl, rfl⟩
  go_wp2_with fail
  refine H2.out.mono ?_
  rintro e w1 ⟨rfl, rfl⟩
  go_wp2
  go_ret
  exact ⟨rfl, Below.refl _ _⟩
set_option maxHeartbeats 4000000 in
set_option maxRecDepth 100000 in
theorem sentinel_some {w : World} {a : Nat → Addr} {m : Nat} (hS : Snt w a) (hm : m < 11) :
    Calls Tryd.prog 31 #[.int .i64 ((m : Int) + 1)] w fun e w' => e = .returned (.iface 95 (.pointer (some (a m)))) ∧ Below w.heap.size w w' := by
  have c0 := hS.cell 0 (by omega); have c1 := hS.cell 1 (by omega); have c2 := hS.cell 2 (by omega); have c3 := hS.cell 3 (by omega)
  have c4 := hS.cell 4 (by omega); have c5 := hS.cell 5 (by omega); have c6 := hS.cell 6 (by omega); have c7 := hS.cell 7 (by omega)
  have c8 := hS.cell 8 (by omega); have c9 := hS.cell 9 (by omega); have c10 := hS.cell 10 (by omega)
  simp only [sG, List.getD_cons_zero, List.getD_cons_succ] at c0 c1 c2 c3 c4 c5 c6 c7 c8 c9 c10
  clear hS
  have HK := hide ((Below.refl w.heap.size w).alloc (Nat.le_refl _) (.cells #[.iface 95 (.pointer (some (a 0))), .iface 95 (.pointer (some (a 1))), .iface 95 (.pointer (some (a 2))), .iface 95 (.pointer (some (a 3))), .iface 95 (.pointer (some (a 4))), .iface 95 (.pointer (some (a 5))), .iface 95 (.pointer (some (a 6))), .iface 95 (.pointer (some (a 7))), .iface 95 (.pointer (some (a 8))), .iface 95 (.pointer (some (a 9))), .iface 95 (.pointer (some (a 10)))] 78))
  have hc : (w.alloc (.cells #[.iface 95 (.pointer (some (a 0))), .iface 95 (.pointer (some (a 1))), .iface 95 (.pointer (some (a 2))), .iface 95 (.pointer (some (a 3))), .iface 95 (.pointer (some (a 4))), .iface 95 (.pointer (some (a 5))), .iface 95 (.pointer (some (a 6))), .iface 95 (.pointer (some (a 7))), .iface 95 (.pointer (some (a 8))), .iface 95 (.pointer (some (a 9))), .iface 95 (.pointer (some (a 10)))] 78)).cell? ⟨w.heap.size, m, none⟩ = some (.iface 95 (.pointer (some (a m)))) := by
    rw [Lib.cell_of_heap (heap_alloc_new w _)]
    rcases (by omega : m = 0 ∨ m = 1 ∨ m = 2 ∨ m = 3 ∨ m = 4 ∨ m = 5 ∨ m = 6 ∨ m = 7 ∨ m = 8 ∨ m = 9 ∨ m = 10) with rfl | rfl | rfl | rfl | rfl | rfl | rfl | rfl | rfl | rfl | rfl <;> rfl
  have p1 : ¬ ((m : Int) + 1 < 1) := by omega
  have p2 : ¬ (11 < (m : Int) + 1) := by omega
  have p3 : (m : Int) + 1 - 1 = m := by omega
  have p4 : (0 : Int) ≤ (m : Int) := by omega
  have p5 : (m : Int) < 11 := by omega
  go_enter Tryd.func31, Tryd.ntmps31
  go_wp2
  go_ret
  exact ⟨rfl, HK.out⟩
set_option maxHeartbeats 4000000 in
set_option maxRecDepth 100000 in
theorem sentinel_none {w : World} {a : Nat → Addr} {c : Int} (hS : Snt w a) (hc : c < 1 ∨ 11 < c) :
    Calls Tryd.prog 31 #[.int .i64 c] w fun e w' => e = .returned .nilIface ∧ Below w.heap.size w w' := by
  have c0 := hS.cell 0 (by omega); have c1 := hS.cell 1 (by omega); have c2 := hS.cell 2 (by omega); have c3 := hS.cell 3 (by omega)
  have c4 := hS.cell 4 (by omega); have c5 := hS.cell 5 (by omega); have c6 := hS.cell 6 (by omega); have c7 := hS.cell 7 (by omega)
  have c8 := hS.cell 8 (by omega); have c9 := hS.cell 9 (by omega); have c10 := hS.cell 10 (by omega)
  simp only [sG, List.getD_cons_zero, List.getD_cons_succ] at c0 c1 c2 c3 c4 c5 c6 c7 c8 c9 c10
  clear hS
  have HK := hide ((Below.refl w.heap.size w).alloc (Nat.le_refl _) (.cells #[.iface 95 (.pointer (some (a 0))), .iface 95 (.pointer (some (a 1))), .iface 95 (.pointer (some (a 2))), .iface 95 (.pointer (some (a 3))), .iface 95 (.pointer (some (a 4))), .iface 95 (.pointer (some (a 5))), .iface 95 (.pointer (some (a 6))), .iface 95 (.pointer (some (a 7))), .iface 95 (.pointer (some (a 8))), .iface 95 (.pointer (some (a 9))), .iface 95 (.pointer (some (a 10)))] 78))
  rcases hc with h | h
  · go_enter Tryd.func31, Tryd.ntmps31
    go_wp2
    go_ret
    exact ⟨rfl, HK.out⟩
  · have h2 : ¬ c < 1 := by omega
    go_enter Tryd.func31, Tryd.ntmps31
    go_wp2
    go_ret
    exact ⟨rfl, HK.out⟩
/-- the place as it is told -/
def oB (o : Option (Int × ByteArray)) : Bool := o.isSome
theorem atV_eq (o : Option (Int × ByteArray)) : atV o = .tuple #[.int .i64 (oA o), .bool (oB o)] := by cases o <;> rfl
theorem pathV_eq (o : Option (Int × ByteArray)) : pathV o = .tuple #[.string (oS o), .bool (oB o)] := by cases o <;> rfl
set_option maxHeartbeats 4000000 in
set_option maxRecDepth 100000 in
theorem tells_true {w : World} {a : Nat → Addr} {v : Value} {b : Nat → Bool} {o : Option (Int × ByteArray)} (hS : Snt w a) (hE : Er w a v b o) :
    Calls Tryd.prog 12 #[v, .int .i64 (leastB b 11), .int .i64 (oA o), .string (oS o), .bool (oB o)] w fun e w' => e = .returned (.bool true) ∧ Below w.heap.size w w' := by
  have hq : (leastB b 11 == 0) = false := by
    rcases leastB_range b 11 with h | ⟨i, _, h, _⟩ <;> rw [h] <;> simp <;> omega
  obtain ⟨u, x, r, rfl, h1, h2, h3⟩ := hE
  have HA := hide (fat_any h2 h3)
  have HP := hide (fun (w1 : World) (hb : Below w.heap.size w w1) => fpath_any (h2.below hb) (h3.below hb))
  have HC := hide (fun (w1 : World) (hb : Below w.heap.size w w1) => fcode_any (hS.below hb) (h1.below hb))
  rw [atV_eq] at HA
  simp only [pathV_eq] at HP
  clear hS h1 h2 h3
  generalize leastB b 11 = c at *
  generalize oA o = k at *
  generalize oS o = s at *
  generalize oB o = q at *
  go_enter Tryd.func12, Tryd.ntmps12
  go_wp2_with fail
  refine HA.out.mono ?_
  rintro e w1 ⟨rfl, hb1⟩
  have K1 := hide hb1
  clear hb1 HA
  go_wp2_with fail
  refine (HP.out _ K1.out).mono ?_
  rintro e w2 ⟨rfl, hb2⟩
  have K2 := hide (K1.out.trans (hb2.mono K1.out.size))
  clear hb2 HP K1
  go_wp2_with fail
  refine (HC.out _ K2.out).mono ?_
  rintro e w3 ⟨rfl, hb3⟩
  have K3 := hide (K2.out.trans (hb3.mono K2.out.size))
  clear hb3 HC K2
  go_wp2
  go_ret
  exact ⟨rfl, K3.out⟩
set_option maxHeartbeats 4000000 in
set_option maxRecDepth 100000 in
theorem has_true {w : World} {a : Nat → Addr} {v : Value} {b : Nat → Bool} {o : Option (Int × ByteArray)} (hS : Snt w a) (hE : Er w a v b o) :
    Calls Tryd.prog 17 #[v, .int .i64 (leastB b 11), .int .i64 (oA o), .string (oS o), .bool (oB o)] w fun e w' => e = .returned (.bool true) ∧ Below w.heap.size w w' := by
  obtain ⟨u, x, r, rfl, h1, h2, h3⟩ := hE
  have HA := hide (fun (w1 : World) (hb : Below w.heap.size w w1) => hat_any (h2.below hb) (h3.below hb))
  have HP := hide (fun (w1 : World) (hb : Below w.heap.size w w1) => hpath_any (h2.below hb) (h3.below hb))
  have HC := hide (hcode_any hS h1)
  have HS := hide hS
  have HE := hide h1
  have hr := hcB_range b 11
  have hl := leastB_range b 11
  simp only [atV_eq] at HA
  simp only [pathV_eq] at HP
  clear hS h1 h2 h3
  generalize leastB b 11 = c at *
  generalize oA o = k at *
  generalize oS o = s at *
  generalize oB o = q at *
  generalize hcB b 11 = n at *
  rcases hl with rfl | ⟨i, hi, rfl, hbi⟩
  · obtain rfl : n = -1 := by omega
    clear hr
    go_enter Tryd.func17, Tryd.ntmps17
    go_wp2_with fail
    refine HC.out.mono ?_
    rintro e w1 ⟨rfl, hb1⟩
    have K1 := hide hb1
    clear hb1 HC
    go_wp2_with fail
    refine (HA.out _ K1.out).mono ?_
    rintro e w2 ⟨rfl, hb2⟩
    have K2 := hide (K1.out.trans (hb2.mono K1.out.size))
    clear hb2 HA K1
    go_wp2_with fail
    refine (HP.out _ K2.out).mono ?_
    rintro e w3 ⟨rfl, hb3⟩
    have K3 := hide (K2.out.trans (hb3.mono K2.out.size))
    clear hb3 HP K2
    go_wp2
    go_ret
    exact ⟨rfl, K3.out⟩
  · have n0 : (n == 0) = false := beq_eq_false_iff_ne.2 (by omega)
    have n1 : (n == -1) = false := beq_eq_false_iff_ne.2 (by omega)
    have p1 : ¬ ((i : Int) + 1 ≤ 0) := by omega
    have p2 : (0 : Int) < (i : Int) + 1 := by omega
    clear hr
    go_enter Tryd.func17, Tryd.ntmps17
    go_wp2_with fail
    refine HC.out.mono ?_
    rintro e w1 ⟨rfl, hb1⟩
    have K1 := hide hb1
    clear hb1 HC
    go_wp2_with fail
    refine (sentinel_some (HS.out.below K1.out) hi).mono ?_
    rintro e w4 ⟨rfl, hb4⟩
    have K4 := hide (K1.out.trans (hb4.mono K1.out.size))
    clear hb4 K1
    go_wp2_with fail
    refine (HE.out _ K4.out i hi).mono ?_
    rintro e w5 ⟨rfl, hb5⟩
    rw [hbi]
    have K5 := hide (K4.out.trans (hb5.mono K4.out.size))
    clear hb5 K4
    go_wp2_with fail
    refine (HA.out _ K5.out).mono ?_
    rintro e w2 ⟨rfl, hb2⟩
    have K2 := hide (K5.out.trans (hb2.mono K5.out.size))
    clear hb2 HA K5
    go_wp2_with fail
    refine (HP.out _ K2.out).mono ?_
    rintro e w3 ⟨rfl, hb3⟩
    have K3 := hide (K2.out.trans (hb3.mono K2.out.size))
    clear hb3 HP K2
    go_wp2
    go_ret
    exact ⟨rfl, K3.out⟩

end Go.Proofs.YtbkgphglojjllaaDoor
