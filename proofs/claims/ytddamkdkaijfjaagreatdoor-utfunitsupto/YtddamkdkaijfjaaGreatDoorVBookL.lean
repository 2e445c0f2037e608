/- the book: all lists are looked at -/
import Derived.Test.YtddamkdkaijfjaaGreatDoorVBookG
import Derived.BigQuiet
import Derived.Deep.QuietTactic
namespace Go.Proofs.YtddamkdkaijfjaaGreatDoor
open Go.RowKit

theorem Marked.far {w w' : World} {v : Value} {m : Int} (h : Marked w v m) (hg : w.grownBy w' none) : Marked w' v m := by
  obtain ⟨L, c, h1, h2⟩ := h
  exact ⟨L, c, h1.grown hg (fun _ _ e => by cases e), h2⟩
theorem GrowInv.far {base : Nat} {w w' : World} {g : Nat} {lv : Value} {n i : Nat} {qs : List (Value × Value)} (h : GrowInv base w g lv n i qs) (hg : w.grownBy w' none) : GrowInv base w' g lv n i qs := by
  refine ⟨h.len, h.kept.grown hg (fun _ e => by cases e), h.apart, h.above, h.nil, fun j hj => (h.marked j hj).far hg, fun j hj hji => ?_⟩
  obtain ⟨a1, L1, c1, a2, c2, e1, e2, l1, l2, hL1, hw⟩ := h.grown j hj hji
  exact ⟨a1, L1, c1, a2, c2, e1, e2, l1.grown hg (fun _ _ e => by cases e), l2.grown hg (fun _ _ e => by cases e), hL1, hw⟩

theorem grown_drewN (w : World) (n : Nat) : w.grownBy (w.drewN n) none := by
  induction n with
  | zero => exact grown_refl _ _
  | succ n ih => exact grown_drew ih

set_option maxHeartbeats 1000000 in
theorem is_told {x y : Int} {n : Nat} (hx : x = mk n) (hy : y = n) (hn : n < 1000000) (w : World) : Calls Tryz.prog 86 #[.int .u16 x, .int .i64 y] w fun e w' => e = .returned (.bool true) ∧ w' = w := by
  subst hx hy
  have e2 : (mk n == (1 + (n : Int) % 65535)) = true := by unfold mk; simp
  go_enter Tryz.func86, Tryz.ntmps86
  go_wp2
  go_ret
  refine ⟨?_, rfl⟩
  simp

theorem cell_rep {w : World} {ao : Option Addr} {L c k : Nat} {m : Int} (h : Lies w (.slice ao L c) (List.replicate L m) c) (hk : k < L) : ∃ b, ao = some ⟨b, 0, none⟩ ∧ w.cell? ⟨b, k, none⟩ = some (.int .u16 m) := by
  obtain ⟨ao', e, h1, h2, h3⟩ := h
  simp only [List.length_replicate] at h1
  obtain ⟨b, rest, rfl, hr, _⟩ := h3 (by omega)
  injection e with e
  subst e
  refine ⟨b, rfl, ?_⟩
  rw [hr.cellI (by simpa using hk)]
  simp [Nt.lb, hk]

set_option maxRecDepth 100000 in
set_option maxHeartbeats 4000000 in
theorem look_any {base : Nat} {w : World} {g n : Nat} {lv : Value} {qs : List (Value × Value)} (h : GrowInv base w g lv n n qs) (hn : n < 1000) :
    Calls Tryz.prog 69 #[.pointer (some ⟨g, 0, none⟩)] w fun e w' => e = .returned (.bool true) ∧ w.grownBy w' none := by
  go_enter Tryz.func69, Tryz.ntmps69
  go_wp2
  go_loopw [3] (fun si wr => ∃ i : Nat, i ≤ n ∧ si = .int .i64 i ∧ w.grownBy wr none) (fun si _ => n - (intOf si).toNat)
  case atStart => exact ⟨0, by omega, rfl, grown_refl _ _⟩
  case round =>
    obtain ⟨i, hil, rfl, hgw⟩ := hrel
    have hI := h.far hgw
    have c1 := hI.kept.book.cell 7
    simp only [bookCells] at c1
    by_cases hi : i < n
    · have hiq : i < qs.length := by rw [hI.len]; exact hi
      obtain ⟨gl, cap, rfl, hgl, hcap, q1, q2, q3⟩ := hI.kept.entN hI.len hiq
      have hi' : (i : Int) < (n : Int) := by omega
      obtain ⟨ao, L, c, ao', c', e1, e2, l1, l2, hLm, -⟩ := hI.grown i hiq hi
      rw [e1] at q1
      rw [e2] at q2
      have Hh := hide h
      clear h hI e1 e2
      go_wp2
      obtain ⟨wo, rfl⟩ : ∃ x : World, x = wr := ⟨_, rfl⟩
      go_loopw [5] (fun sk wr2 => ∃ k : Nat, k ≤ L + 70 ∧ sk = .int .i64 k ∧ Box wr2 wo.heap.size (.slice ao L c) (.slice ao' (L + 70) c') ((i : Int) + 1) ∧ wo.grownBy wr2 none) (fun sk _ => L + 70 - (intOf sk).toNat)
      case atStart => exact ⟨0, by omega, rfl, heap_alloc_new wo _, World.grownBy_alloc wo _ none⟩
      case round =>
        obtain ⟨k, hkl, rfl, hbox, hgo⟩ := hrel
        obtain ⟨b0, b1, b2⟩ := hbox.cells
        by_cases hk : k < L + 70
        · have hk' : (k : Int) < (L : Int) + 70 := by omega
          obtain ⟨b', rfl, g2⟩ := cell_rep (l2.grown hgo (fun _ _ e => by cases e)) hk
          by_cases hkL : k < L
          · obtain ⟨b, rfl, g1⟩ := cell_rep (l1.grown hgo (fun _ _ e => by cases e)) hkL
            have hkL' : (k : Int) < (L : Int) := by omega
            clear l1 l2
            go_wp2
            go_quiet ((go_at_call 86; exact Calls.quiet_of_same (is_told (n := i + 1) rfl (by omega) (by omega) _)))
            go_wp2
            go_roundw
            case rel => exact ⟨k + 1, by omega, by go_num, hbox.grown (grown_drewN _ _) (fun _ e => by cases e), grown_trans hgo (grown_drewN _ _)⟩
            case measure => simp [intOf]; omega
          · have hkL' : decide ((k : Int) < (L : Int)) = false := by simp; omega
            clear l1 l2
            go_wp2
            go_quiet ((go_at_call 86; exact Calls.quiet_of_same (is_told (n := i + 1) rfl (by omega) (by omega) _)))
            go_wp2
            go_roundw
            case rel => exact ⟨k + 1, by omega, by go_num, hbox.grown (grown_drewN _ _) (fun _ e => by cases e), grown_trans hgo (grown_drewN _ _)⟩
            case measure => simp [intOf]; omega
        · have hk' : ¬ (k : Int) < (L : Int) + 70 := by omega
          have Hfin := hide (grown_trans hgw hgo)
          go_wp2
          go_roundw
          case rel => exact ⟨i + 1, by omega, by go_num, Hfin.out⟩
          case measure => simp [intOf]; omega
    · have hi' : ¬ (i : Int) < (n : Int) := by omega
      obtain ⟨lo, cap, rfl⟩ := hI.kept.shape hI.len
      clear hI
      go_wp2
      go_ret
      exact ⟨rfl, hgw⟩

end Go.Proofs.YtddamkdkaijfjaaGreatDoor
