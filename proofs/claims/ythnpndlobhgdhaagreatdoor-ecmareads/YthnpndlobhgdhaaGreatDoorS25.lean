/- Open -/
import Derived.Test.YthnpndlobhgdhaaGreatDoorS02
import Derived.Test.YthnpndlobhgdhaaGreatDoorRows
import Derived.ProofKit
import Derived.OpenShut
import Derived.ShutString
import Derived.ChangeOld
import Derived.SizedLaws
import Derived.ChangeSame
namespace Go.Proofs.YthnpndlobhgdhaaGreatDoor
open Go.ChangeShapes Go.WideShapes Go.ChangeAt Go.RowKit
open Go.ChangeMaps (open_string shut_string)

theorem own : ownKnob Tryz.prog.godebug = none := by kernel_rfl
theorem laidOut : laidOutB Tryz.prog = true := by kernel_rfl
theorem bytesU32 : Tryz.prog.bytesOf 96 = 4 := by kernel_rfl

theorem reads_nil (W : World) : ∃ zs, Reads .u32 W (.slice none 0 0) zs ∧ Nt.Ok zs ∧ zs.length ≤ 70368744177664 :=
  ⟨[], ⟨none, 0, rfl, Nat.le_refl _, by unfold maxLen; omega, fun h => absurd h (by simp)⟩, Nt.ok_nil, by simp⟩

theorem cell_lt {W : World} {a : Addr} {v : Value} (h : W.cell? a = some v) : a.block < W.heap.size := by
  unfold World.cell? at h
  split at h
  · rename_i hh
    exact (Array.getElem?_eq_some_iff.1 hh).1
  · cases h

theorem wf_u32 {n : Int} (h : (Lit.int .u32 n).wf = true) : 0 ≤ n ∧ n < 4294967296 := by
  have : 0 ≤ n ∧ n ≤ 4294967295 := by simpa [Lit.wf, IntKind.min, IntKind.max, IntKind.signed, IntKind.bits] using h
  omega

theorem reads_of {W : World} {x : Addr} {len cap : Nat} {zs : List Int} (hl : len ≤ cap) (hm : cap ≤ maxLen) (hz : zs.length = cap) (hcell : ∀ i, i < zs.length → W.cell? (x.add i) = some (.int .u32 (zs.getD i 0)))
    (hwz : ∀ n ∈ zs, (Lit.int .u32 n).wf = true) (hsz : (min len zs.length + (zs.length - len)) * 4 ≤ reachBytes) : ∃ ys, Reads .u32 W (.slice (some x) len cap) ys ∧ Nt.Ok ys ∧ ys.length ≤ 70368744177664 := by
  have hlt : (zs.take len).length = len := by rw [List.length_take]; omega
  refine ⟨zs.take len, ⟨some x, cap, by rw [hlt], by omega, hm, fun hp => ?_⟩, fun i => ?_, ?_⟩
  · rw [hlt] at hp
    have h0 := hcell 0 (by omega)
    obtain ⟨b, off, spot⟩ := x
    have hspot : spot = none := by simpa [Addr.add] using World.cell?_spot h0
    subst hspot
    refine ⟨b, off, rfl, by simpa [Addr.add] using cell_lt h0, fun i hi => ?_⟩
    rw [hlt] at hi
    rw [Nt.lb_take hi, ← Addr.add_lit]
    exact hcell i (by omega)
  · by_cases hi : i < len
    · rw [Nt.lb_take hi]
      have hi' : i < zs.length := by omega
      have : Nt.lb zs i = zs[i] := by simp [Nt.lb, hi']
      rw [this]
      exact wf_u32 (hwz _ (List.getElem_mem hi'))
    · rw [Nt.lb_take_out (by omega)]; omega
  · rw [hlt]
    unfold reachBytes at hsz
    omega

end Go.Proofs.YthnpndlobhgdhaaGreatDoor
