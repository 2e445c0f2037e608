/- crucibleref01: at, Norm, From, Uint, Len, Cmp -/
import Derived.Test.YtlhjbmdkfdabmaaGreatDoorBytes
import Derived.Test.YtlhjbmdkfdabmaaGreatDoorLen
import Derived.Test.YtlhjbmdkfdabmaaGreatDoorCmp
namespace Go.Proofs.YtlhjbmdkfdabmaaGreatDoor
open Go.RowKit

set_option maxHeartbeats 400000 in
theorem at_any (ao : Option Addr) (cap : Nat) (xs : List Int) (k : Nat) (w : World) (hm : xs.length ≤ maxLen) (hc : Cells .i64 w ao xs) :
    Calls Tryz.prog 102 #[.slice ao xs.length cap, .int .i64 k] w fun e w' => e = .returned (.int .i64 (Nt.lb xs k)) ∧ w' = w := by
  unfold maxLen at hm
  by_cases h : k < xs.length
  · obtain ⟨b, off, rfl, hb, hcell⟩ := hc (by omega)
    have hg := hcell k h
    clear hcell hc
    go_enter Tryz.func102, Tryz.ntmps102
    go_wp2
    go_ret
    exact ⟨rfl, rfl⟩
  · have e0 : Nt.lb xs k = 0 := Nt.lb_out (by omega)
    rw [e0]
    clear e0 hc
    go_enter Tryz.func102, Tryz.ntmps102
    go_wp2
    go_ret
    exact ⟨rfl, rfl⟩

set_option maxHeartbeats 400000 in
theorem rnorm_any {w : World} {va : Value} {A : Int} {ka : Nat} (ha : Arg w va A ka) (hka : ka ≤ 1099511627776) :
    Calls Tryz.prog 70 #[va] w fun e w' => ∃ v, e = .returned v ∧ Num w.heap.size w' v A ka ∧ Below w.heap.size w w' := by
  go_enter Tryz.func70, Tryz.ntmps70
  go_wp2_with fail
  refine (bytes_any ha hka).mono ?_
  rintro e w1 ⟨v1, rfl, h1, hb1⟩
  go_wp2_with fail
  refine (limbs_any h1.arg (by omega)).mono ?_
  rintro e w2 ⟨v2, rfl, h2, hb2⟩
  go_wp2
  go_ret
  exact ⟨v2, rfl, (num_since h2 hb1.size).mono (by omega), below_trans hb1 hb2⟩

set_option maxHeartbeats 1000000 in
theorem rfrom_any {w : World} (X : Int) (h0 : 0 ≤ X) (h1 : X < 18446744073709551616) :
    Calls Tryz.prog 67 #[.int .u64 X] w fun e w' => ∃ v, e = .returned v ∧ Num w.heap.size w' v X 2 ∧ Below w.heap.size w w' := by
  go_enter Tryz.func67, Tryz.ntmps67
  go_wp2
  go_loopw [0, 3] (fun sx out wr => ∃ (x : Int) (zs : List Int), sx = .int .u64 x ∧ 0 ≤ x ∧ x ≤ X ∧ zs.length ≤ 8 ∧ x < Nb.pw (8 - zs.length) ∧ Nb.Ok zs ∧ Nb.val zs + x * Nb.pw zs.length = X ∧ wr.ownsRow w.heap.size 3 1 out zs.length (zs.map (Value.int .i64)) ∧ Below w.heap.size w wr)
    (fun sx _ _ => (intOf sx).toNat)
  case atStart => exact ⟨X, [], rfl, h0, Int.le_refl _, by simp, by rw [List.length_nil, show Nb.pw (8 - 0) = 18446744073709551616 by decide]; exact h1, Nb.ok_nil, by simp [Nb.val, Nb.vt, Nb.pw], by simpa using World.ownsRow_nil w w.heap.size 3 1, Below.refl _ _⟩
  case round =>
    obtain ⟨x, zs, rfl, hx0, hxX, hzl, hx1, hzo, hzv, hown, hbr⟩ := hrel
    have Hx1 := hide hx1
    have Hzv := hide hzv
    clear hx1 hzv
    by_cases hp : 0 < x
    · have hlt : zs.length < 8 := by
        by_cases h : zs.length < 8
        · exact h
        · have := Hx1.out
          rw [show 8 - zs.length = 0 by omega] at this
          simp only [Nb.pw] at this
          omega
      have hsz := hbr.size
      go_wp2_with (at_builtin; refine wpList_append_cells _ rfl _ _ 106 rfl w.heap.size 3 .i64 8 Tryz.underlying106 Tryz.infoI64 _ zs.length zs rfl (hown.alloc _) (some ⟨wr.heap.size, 0, none⟩) 1 [x % 256] rfl (cells_one _ _ _ _) (by unfold maxLen; simp; omega) (by simp; omega) (by simp; omega) ?_)
      intro v' w1 hown' hgrow
      have hb1 : Below w.heap.size w w1 := below_own (hbr.alloc hsz _) (by simp; omega) (hown.alloc _) hgrow
      have Hst := hide (byte_step (V := Nb.val zs) (x := x) (P := Nb.pw zs.length))
      have Hown' := hide hown'
      clear hown' hgrow hown
      go_wp2
      go_roundw
      case rel => exact ⟨x / 256, zs ++ [x % 256], rfl, by omega, by omega, by simp; omega, by
        have h := Hx1.out
        rw [show 8 - zs.length = (8 - (zs.length + 1)) + 1 by omega, Nb.pw_succ] at h
        rw [List.length_append, List.length_singleton]
        omega, Nb.ok_snoc hzo (by omega), by
        rw [Nb.val_snoc, List.length_append, List.length_singleton, Nb.pw_succ, Hst.out]; exact Hzv.out, by simpa using Hown'.out, hb1⟩
      case measure => simp [intOf]; omega
    · have hx00 : x = 0 := by omega
      subst hx00
      go_wp2_with fail
      refine (limbs_any (ka := 8) ⟨zs, reads_of_owns hown, hzo, rfl, hzl⟩ (by omega)).mono ?_
      rintro e w2 ⟨v, rfl, hv, hb2⟩
      have hX : Nb.val zs = X := by have := Hzv.out; rw [Int.zero_mul, Int.add_zero] at this; exact this
      rw [hX] at hv
      have Hv := hide hv
      clear hv hX
      go_wp2
      go_ret
      exact ⟨v, rfl, num_since Hv.out hbr.size, hbr.trans (hb2.mono hbr.size)⟩

theorem pb_eight : Nb.pw 8 = 18446744073709551616 := by decide

set_option maxHeartbeats 1000000 in
theorem ruint_no {w : World} {va : Value} {A : Int} {ka : Nat} (ha : Arg w va A ka) (hka : ka ≤ 1099511627776) (hn : 18446744073709551616 ≤ A) :
    Calls Tryz.prog 30 #[va] w fun e w' => e = .returned (.tuple #[.int .u64 0, .bool false]) ∧ Below w.heap.size w w' := by
  go_enter Tryz.func30, Tryz.ntmps30
  go_wp2_with fail
  refine (bytes_any ha hka).mono ?_
  rintro e w1 ⟨v1, rfl, ⟨ys, ⟨ao, cap, rfl, hl, hm, hyc⟩, hy, rfl, hyk⟩, hb1⟩
  have h8 : (8 : Int) < (ys.length : Int) := by
    have h1 := Nb.val_lt hy.1
    by_cases h : ys.length ≤ 8
    · have h2 := Nb.pw_mono h
      rw [pb_eight] at h2
      omega
    · omega
  clear ha hn
  go_wp2
  go_ret2
  exact ⟨rfl, hb1⟩

set_option maxHeartbeats 1000000 in
theorem ruint_yes {w : World} {va : Value} {A : Int} {ka : Nat} (ha : Arg w va A ka) (hka : ka ≤ 1099511627776) (hn : A < 18446744073709551616) :
    Calls Tryz.prog 30 #[va] w fun e w' => e = .returned (.tuple #[.int .u64 A, .bool true]) ∧ Below w.heap.size w w' := by
  go_enter Tryz.func30, Tryz.ntmps30
  go_wp2_with fail
  refine (bytes_any ha hka).mono ?_
  rintro e w1 ⟨v1, rfl, ⟨ys, ⟨ao, cap, rfl, hl, hm, hyc⟩, hy, rfl, hyk⟩, hb1⟩
  have h8 : ¬ (8 : Int) < (ys.length : Int) := by
    by_cases h : ys.length ≤ 8
    · omega
    · have hne : ys ≠ [] := by intro e; subst e; simp at h
      have h1 := Nb.canon_low hy hne
      have h2 := Nb.pw_mono (m := 8) (n := ys.length - 1) (by omega)
      rw [pb_eight] at h2
      omega
  clear ha
  have Hn := hide hn
  clear hn
  go_wp2
  go_loop [5, 6] (fun sx si => ∃ (m : Nat) (x : Int), m ≤ ys.length ∧ si = .int .i64 ((m : Int) - 1) ∧ sx = .int .u64 x ∧ 0 ≤ x ∧ x < 18446744073709551616 ∧ Nb.val ys = Nb.vt ys m + x * Nb.pw m) (fun _ si => (intOf si + 1).toNat)
  case atStart => exact ⟨ys.length, 0, Nat.le_refl _, rfl, rfl, by omega, by omega, by simp [Nb.val]⟩
  case round =>
    obtain ⟨m, x, hml, rfl, rfl, hx0, hx1, heq⟩ := hrel
    have Heq := hide heq
    clear heq
    by_cases hm0 : m = 0
    · subst hm0
      go_wp2
      go_ret2
      have h : Nb.val ys = x := by have h := Heq.out; simp only [Nb.vt, Nb.pw] at h; omega
      rw [h]
      exact ⟨rfl, hb1⟩
    · obtain ⟨p, rfl⟩ : ∃ p, m = p + 1 := ⟨m - 1, by omega⟩
      obtain ⟨b1, o1, rfl, hbb, hc1⟩ := hyc (by omega)
      have g1 := hc1 p (by omega)
      have hpl : p < ys.length := by omega
      obtain ⟨by0, by1⟩ := hy.1 p
      have hnew : Nb.val ys = Nb.vt ys p + (x * 256 + Nt.lb ys p) * Nb.pw p := by
        rw [Heq.out, Nb.vt_succ, Nb.pw_succ, Int.add_mul, Int.mul_assoc]; omega
      have hbd : x * 256 + Nt.lb ys p < 18446744073709551616 := by
        have hp := Nb.pw_pos p
        have hv := (Nb.vt_bounds hy.1 p).1
        have h1 : (x * 256 + Nt.lb ys p) * 1 ≤ (x * 256 + Nt.lb ys p) * Nb.pw p := Int.mul_le_mul_of_nonneg_left (by omega) (by omega)
        have := Hn.out
        omega
      have Hnew := hide hnew
      clear hc1 hnew
      go_wp2
      go_round
      case rel => exact ⟨p, x * 256 + Nt.lb ys p, by omega, rfl, rfl, by omega, hbd, Hnew.out⟩
      case measure => simp [intOf]

end Go.Proofs.YtlhjbmdkfdabmaaGreatDoor
