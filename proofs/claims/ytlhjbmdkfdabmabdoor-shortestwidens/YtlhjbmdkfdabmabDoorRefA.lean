/- crucibleref01: at, Norm, From, Uint, Len, Cmp -/
import Derived.Test.YtlhjbmdkfdabmabDoorBytes
import Derived.Test.YtlhjbmdkfdabmabDoorLen
import Derived.Test.YtlhjbmdkfdabmabDoorCmp
namespace Go.Proofs.YtlhjbmdkfdabmabDoor
open Go.RowKit

set_option maxHeartbeats 400000 in
theorem at_any (ao : Option Addr) (cap : Nat) (xs : List Int) (k : Nat) (w : World) (hm : xs.length ≤ maxLen) (hc : Cells .i64 w ao xs) :
    Calls Tryd.prog 61 #[.slice ao xs.length cap, .int .i64 k] w fun e w' => e = .returned (.int .i64 (Nt.lb xs k)) ∧ w' = w := by
  unfold maxLen at hm
  by_cases h : k < xs.length
  · obtain ⟨b, off, rfl, hb, hcell⟩ := hc (by omega)
    have hg := hcell k h
    clear hcell hc
    go_enter Tryd.func61, Tryd.ntmps61
    go_wp2
    go_ret
    exact ⟨rfl, rfl⟩
  · have e0 : Nt.lb xs k = 0 := Nt.lb_out (by omega)
    rw [e0]
    clear e0 hc
    go_enter Tryd.func61, Tryd.ntmps61
    go_wp2
    go_ret
    exact ⟨rfl, rfl⟩

set_option maxHeartbeats 1000000 in
theorem rfrom_any {w : World} (X : Int) (h0 : 0 ≤ X) (h1 : X < 18446744073709551616) :
    Calls Tryd.prog 24 #[.int .u64 X] w fun e w' => ∃ v, e = .returned v ∧ Num w.heap.size w' v X 2 ∧ Below w.heap.size w w' := by
  go_enter Tryd.func24, Tryd.ntmps24
  go_wp2
  go_loopw [0, 3] (fun sx out wr => ∃ (x : Int) (zs : List Int), sx = .int .u64 x ∧ 0 ≤ x ∧ x ≤ X ∧ zs.length ≤ 8 ∧ x < Nb.pw (8 - zs.length) ∧ Nb.Ok zs ∧ Nb.val zs + x * Nb.pw zs.length = X ∧ wr.ownsRow w.heap.size 3 1 out zs.length (zs.map (Value.int .i64)) ∧ Below w.heap.size w wr)
    (fun sx _ _ => (intOf sx).toNat)
  case atStart => exact ⟨X, [], rfl, h0, Int.le_refl _, by simp, by rw [List.length_nil, show Nb.pw (8 - 0) = 18446744073709551616 by decide]; exact h1, Nb.ok_nil, by simp [Nb.val, Nb.vt, Nb.pw], by simpa using World.ownsRow_nil w w.heap.size 3 1, Below.refl _ _⟩
  case round =>
    obtain ⟨x, zs, rfl, hx0, hxX, hzl, hx1, hzo, hzv, hown, hbr⟩ := hrel
    have Hx1 := hide hx1
    have Hzv := hide hzv
    clear hx1 hzv
    by_cases hp : 0 < x
    · have hlt : zs.length < 8 := by
        by_cases h : zs.length < 8
        · exact h
        · have := Hx1.out
          rw [show 8 - zs.length = 0 by omega] at this
          simp only [Nb.pw] at this
          omega
      have hsz := hbr.size
      go_wp2_with (at_builtin; refine wpList_append_cells _ rfl _ _ 73 rfl w.heap.size 3 .i64 8 Tryd.underlying73 Tryd.infoI64 _ zs.length zs rfl (hown.alloc _) (some ⟨wr.heap.size, 0, none⟩) 1 [x % 256] rfl (cells_one _ _ _ _) (by unfold maxLen; simp; omega) (by simp; omega) (by simp; omega) ?_)
      intro v' w1 hown' hgrow
      have hb1 : Below w.heap.size w w1 := below_own (hbr.alloc hsz _) (by simp; omega) (hown.alloc _) hgrow
      have Hst := hide (byte_step (V := Nb.val zs) (x := x) (P := Nb.pw zs.length))
      have Hown' := hide hown'
      clear hown' hgrow hown
      go_wp2
      go_roundw
      case rel => exact ⟨x / 256, zs ++ [x % 256], rfl, by omega, by omega, by simp; omega, by
        have h := Hx1.out
        rw [show 8 - zs.length = (8 - (zs.length + 1)) + 1 by omega, Nb.pw_succ] at h
        rw [List.length_append, List.length_singleton]
        omega, Nb.ok_snoc hzo (by omega), by
        rw [Nb.val_snoc, List.length_append, List.length_singleton, Nb.pw_succ, Hst.out]; exact Hzv.out, by simpa using Hown'.out, hb1⟩
      case measure => simp [intOf]; omega
    · have hx00 : x = 0 := by omega
      subst hx00
      go_wp2_with fail
      refine (limbs_any (ka := 8) ⟨zs, reads_of_owns hown, hzo, rfl, hzl⟩ (by omega)).mono ?_
      rintro e w2 ⟨v, rfl, hv, hb2⟩
      have hX : Nb.val zs = X := by have := Hzv.out; rw [Int.zero_mul, Int.add_zero] at this; exact this
      rw [hX] at hv
      have Hv := hide hv
      clear hv hX
      go_wp2
      go_ret
      exact ⟨v, rfl, num_since Hv.out hbr.size, hbr.trans (hb2.mono hbr.size)⟩

theorem pb_eight : Nb.pw 8 = 18446744073709551616 := by decide

end Go.Proofs.YtlhjbmdkfdabmabDoor
