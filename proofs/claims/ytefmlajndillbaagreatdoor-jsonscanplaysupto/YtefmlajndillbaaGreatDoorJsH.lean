/- layer 16: what the laws ask of an error: Code, At, Path, IsAt, same; read -/
import Derived.Test.YtefmlajndillbaaGreatDoorJsY
namespace Go.Proofs.YtefmlajndillbaaGreatDoor
open Go.RowKit
set_option linter.unusedVariables false

theorem Tl.er {w : World} {a : Nat → Addr} {L n : Nat} {k : Int} {v : Value} (h : Tl w a L n k v) (hn : n ≠ 0) (hS : Snt w a) (hH : Hnd w) :
    ∃ u x r, v = .iface u x ∧ ErrIs w a u x (fun i => decide (i = n - 1)) ∧ AsIs w u x r ∧ Told w r (some (k, ⟨#[]⟩)) := by
  rcases h with ⟨h, _⟩ | ⟨m, g, h1, h2, h3, h4, h5⟩
  · exact absurd h hn
  · subst h1
    have := er_flt hS hH (m := m) (by omega) h5
    rw [h4]
    exact this
theorem jcode {w : World} {a : Nat → Addr} {L n : Nat} {k : Int} {v : Value} (h : Tl w a L n k v) (hn : n ≤ 11) (hS : Snt w a) (hH : Hnd w) :
    Calls Tryz.prog 37 #[v] w fun e w' => e = .returned (.int .i64 n) ∧ Below w.heap.size w w' := by
  by_cases h0 : n = 0
  · rcases h with ⟨_, rfl⟩ | ⟨m, g, h1, _⟩
    · subst h0
      exact hcode_nil.mono fun e w' ⟨h1, h2⟩ => ⟨h1, h2 ▸ Below.refl _ _⟩
    · omega
  · obtain ⟨u, x, r, rfl, h1, h2, h3⟩ := h.er h0 hS hH
    refine (hcode_any hS h1).mono ?_
    rintro e w' ⟨rfl, hb⟩
    refine ⟨?_, hb⟩
    rw [hcB_dec, if_pos (by omega), show ((n - 1 : Nat) : Int) + 1 = n by omega]
theorem as_nil {w : World} {x : Value} : Calls Tryz.prog 52 #[.nilIface, x] w fun e w' => e = .returned (.bool false) ∧ w' = w := by
  go_enter Tryz.func52, Tryz.ntmps52
  go_wp2
  go_ret
  exact ⟨rfl, rfl⟩
theorem hat_nil {w : World} : Calls Tryz.prog 38 #[.nilIface] w fun e w' => e = .returned (.tuple #[.int .i64 0, .bool false]) ∧ Below w.heap.size w w' := by
  have CA := hide (as_nil (w := w.alloc (.cells #[.pointer none] 79)) (x := .iface 81 (.pointer (some ⟨w.heap.size, 0, none⟩))))
  have HB := hide ((Below.refl w.heap.size w).alloc (Nat.le_refl _) (.cells #[.pointer none] 79))
  go_enter Tryz.func38, Tryz.ntmps38
  go_wp2_with fail
  refine CA.out.mono ?_
  rintro e w1 ⟨rfl, rfl⟩
  go_wp2
  go_ret2
  exact ⟨rfl, HB.out⟩
theorem jat {w : World} {a : Nat → Addr} {L n : Nat} {k : Int} {v : Value} (h : Tl w a L n k v) (hn : n ≤ 11) (hS : Snt w a) (hH : Hnd w) :
    Calls Tryz.prog 38 #[v] w fun e w' => e = .returned (.tuple #[.int .i64 (if n = 0 then 0 else k), .bool (n != 0)]) ∧ Below w.heap.size w w' := by
  by_cases h0 : n = 0
  · rcases h with ⟨_, rfl⟩ | ⟨m, g, h1, _⟩
    · subst h0
      exact hat_nil
    · omega
  · obtain ⟨u, x, r, rfl, h1, h2, h3⟩ := h.er h0 hS hH
    refine (hat_any h2 h3).mono ?_
    rintro e w' ⟨rfl, hb⟩
    refine ⟨?_, hb⟩
    rw [if_neg h0, show (n != 0) = true by simpa using h0]
    rfl
theorem jisat {w : World} {a : Nat → Addr} {L n : Nat} {k : Int} {v : Value} (c : Nat) (z : Int) (h : Tl w a L n k v) (hn : n ≤ 11) (hc : c ≠ 0) (hc2 : c ≤ 11) (hS : Snt w a) (hH : Hnd w) :
    Calls Tryz.prog 21 #[v, .int .i64 c, .int .i64 z] w fun e w' => e = .returned (.bool (decide (n = c) && decide (k = z))) ∧ Below w.heap.size w w' := by
  have CC := hide (jcode h hn hS hH)
  have hc0 : ¬ ((c : Int) = 0) := by omega
  by_cases hnc : n = c
  · subst hnc
    obtain ⟨u, x, r, rfl, h1, h2, h3⟩ := h.er hc hS hH
    have HA := hide h2
    have HT := hide h3
    clear h h1 h2 h3 hS hH
    go_enter Tryz.func21, Tryz.ntmps21
    go_wp2_with fail
    refine CC.out.mono ?_
    rintro e w1 ⟨rfl, hb1⟩
    have HB1 := hide hb1
    have CAt := hide (hat_any (HA.out.below hb1) (HT.out.below hb1))
    clear hb1 CC
    go_wp2_with fail
    refine CAt.out.mono ?_
    rintro e w2 ⟨rfl, hb2⟩
    have HB2 := hide (HB1.out.trans (hb2.mono HB1.out.size))
    have CP := hide (hpath_any (HA.out.below HB2.out) (HT.out.below HB2.out))
    clear hb2 CAt HB1
    simp only [atV]
    go_wp2_with fail
    refine CP.out.mono ?_
    rintro e w3 ⟨rfl, hb3⟩
    have HB3 := hide (HB2.out.trans (hb3.mono HB2.out.size))
    clear hb3 CP HB2
    simp only [pathV]
    by_cases hk : k = z
    · subst hk
      go_wp2
      go_ret
      exact ⟨by simp, HB3.out⟩
    · go_wp2
      go_ret
      exact ⟨by simp [hk], HB3.out⟩
  · have hnc' : ¬ ((n : Int) = (c : Int)) := by omega
    have hnc2 : ((n : Int) != (c : Int)) = true := by simp; omega
    have hnc3 : ((c : Int) == 0) = false := by simpa using hc
    clear h hS hH
    go_enter Tryz.func21, Tryz.ntmps21
    go_wp2_with fail
    refine CC.out.mono ?_
    rintro e w1 ⟨rfl, hb1⟩
    have HB1 := hide hb1
    clear hb1 CC
    go_wp2
    go_ret
    exact ⟨by simp [hnc], HB1.out⟩

end Go.Proofs.YtefmlajndillbaaGreatDoor
