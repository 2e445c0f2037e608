/- rows of layer 9 for a seat with tables (a door): the arguments, both forms -/
import Derived.Test.YtddamkdkaijfjaaGreatDoorKit
import Derived.Test.YtddamkdkaijfjaaGreatDoorRows
import Derived.ProofKit
import Derived.OpenShut
import Derived.ShutString
import Derived.ChangeOld
import Derived.SizedLaws
import Derived.ChangeSame
import Derived.ChangeMaps5
import Derived.Test.YtddamkdkaijfjaaGreatDoorUFirst
import Derived.Deep.Strs
import Derived.Deep.DeepHandedRow
import Derived.LaidMore
import Derived.Lib.LaidTab
import Derived.Test.YtddamkdkaijfjaaGreatDoorTie
import Derived.Test.YtddamkdkaijfjaaGreatDoorCards
import Derived.SevenTiedAt
import Derived.LaidSub
namespace Go.Proofs.YtddamkdkaijfjaaGreatDoor
open Go.ChangeShapes Go.WideShapes Go.ChangeAt Go.RowKit Go.Deep
set_option linter.unusedVariables false

theorem own : ownKnob Tryz.prog.godebug = none := by kernel_rfl
theorem laidOut : laidOutB Tryz.prog = true := by kernel_rfl

theorem bulk_one {H : Type} (d : DataW H) : 1 ≤ Rows.uptoBulk d := by
  cases d with
  | lit l => cases l <;> simp [Rows.uptoBulk]
  | _ => simp [Rows.uptoBulk]
theorem bulk_many {H : Type} (l : List (DataW H)) : l.length ≤ Rows.uptoBulkAll l := by
  induction l with
  | nil => simp
  | cons x r ih =>
    have h1 := bulk_one x
    have h2 : Rows.uptoBulkAll (x :: r) = Rows.uptoBulk x + Rows.uptoBulkAll r := by simp only [Rows.uptoBulkAll]
    rw [h2, List.length_cons]
    omega
theorem bulk_slice {H : Type} {e s : List (DataW H)} {d : DataW H} {n : Nat} (hd : d = .slice e s) (h : Rows.uptoBulk d ≤ n) : e.length ≤ n := by
  have h1 := bulk_many e
  rw [hd] at h
  have h2 : Rows.uptoBulk (.slice e s) = Rows.uptoBulkAll e + Rows.uptoBulkAll s + 1 := by simp only [Rows.uptoBulk]
  rw [h2] at h
  omega
theorem lits_length (k : IntKind) (zs : List Int) {H : Type} : (lits (H := H) k zs).length = zs.length := by simp [lits]
/-- the settled world -/
noncomputable def tabledWorld (os : Os) : World := World.doorLaid Tryz.prog 4000 os

theorem sized_str {H : Type} {ts : List TypeId} {ds : List (DataW H)} (h : (DataW.weightsEach Tryz.prog ts ds).all (· ≤ reachBytes) = true) {j : Nat} {bytes : List UInt8} (ht : ts[j]? = some 9) (hd : ds[j]? = some (.lit (.string bytes))) : bytes.length ≤ 140737488351232 := by
  have := List.all_eq_true.1 h _ (DataW.weights_mem_each ht hd bytes.length (by simp [DataW.weights]))
  have hr : reachBytes = 140737488351232 := rfl
  rw [hr] at this
  simpa using this

theorem ucell_lt {W : World} {a : Addr} {v : Value} (h : W.cell? a = some v) : a.block < W.heap.size := by
  unfold World.cell? at h
  split at h
  · rename_i hh
    exact (Array.getElem?_eq_some_iff.1 hh).1
  · cases h
theorem ureads_of {k : IntKind} {W : World} {x : Addr} {len cap : Nat} {zs : List Int} (hl : len ≤ cap) (hm : cap ≤ maxLen) (hz : zs.length = cap) (hcell : ∀ i, i < zs.length → W.cell? (x.add i) = some (.int k (zs.getD i 0))) :
    Reads k W (.slice (some x) len cap) (zs.take len) := by
  have hlt : (zs.take len).length = len := by rw [List.length_take]; omega
  refine ⟨some x, cap, by rw [hlt], by omega, hm, fun hp => ?_⟩
  rw [hlt] at hp
  have h0 := hcell 0 (by omega)
  obtain ⟨b, off, spot⟩ := x
  have hspot : spot = none := by simpa [Addr.add] using World.cell?_spot h0
  subst hspot
  refine ⟨b, off, rfl, by simpa [Addr.add] using ucell_lt h0, fun i hi => ?_⟩
  rw [hlt] at hi
  rw [Nt.lb_take hi, ← Addr.add_lit]
  exact hcell i (by omega)
/-- numbers of a kind -/
def uNum (lo hi : Int) (zs : List Int) : Prop := ∀ x ∈ zs, lo ≤ x ∧ x ≤ hi

set_option maxRecDepth 100000 in
theorem open_runes {H : Type} {enc : TypeId × Value → H} {W : World} {base b0 : Nat} {held : Bool} {v : Value} {d : DataW H} {p : List MemPlace} {n : Nat} (hv : Value.okWide Tryz.prog W .any base 22 v)
    (h : ∃ n, DataW.trod enc Tryz.prog W b0 (fun _ => true) held n 22 v.cells.toList = some (d, p)) (hb : Rows.uptoBulk d ≤ n) : ∃ zs : List Int, Reads .i32 W v zs ∧ uNum (-2147483648) 2147483647 zs ∧ zs.length ≤ n := by
  obtain ⟨a0, len0, cap0, rfl⟩ := okWide_slice Tryz.underlying22 hv
  obtain ⟨fuel, hf⟩ := h
  rcases open_ints Tryz.underlying22 Tryz.underlying21 (by kernel_rfl) hf with ⟨hcs, _⟩ | ⟨x, l, c, zs, hcs, _, hl, hm, hz, hx, hcell, hwz⟩
  · simp [Value.cells] at hcs
    obtain ⟨rfl, rfl, rfl⟩ := hcs
    exact ⟨[], ⟨none, 0, rfl, Nat.le_refl _, by unfold maxLen; omega, fun h => absurd h (by simp)⟩, fun x hx => absurd hx (by simp), by simp⟩
  · simp [Value.cells] at hcs
    obtain ⟨rfl, rfl, rfl⟩ := hcs
    have hz2 : zs.length = cap0 := by simpa using hz
    have hd := (Prod.mk.inj hx).1
    have hbk := bulk_slice hd hb
    rw [lits_length, List.length_take] at hbk
    refine ⟨zs.take len0, ureads_of hl hm hz2 hcell, fun y hy => ?_, by rw [List.length_take]; exact hbk⟩
    have w := hwz y (List.mem_of_mem_take hy)
    simp [Lit.wf, IntKind.min, IntKind.max, IntKind.signed, IntKind.bits] at w
    omega

set_option maxRecDepth 100000 in
theorem open_units {H : Type} {enc : TypeId × Value → H} {W : World} {base b0 : Nat} {held : Bool} {v : Value} {d : DataW H} {p : List MemPlace} {n : Nat} (hv : Value.okWide Tryz.prog W .any base 48 v)
    (h : ∃ n, DataW.trod enc Tryz.prog W b0 (fun _ => true) held n 48 v.cells.toList = some (d, p)) (hb : Rows.uptoBulk d ≤ n) : ∃ zs : List Int, Reads .u16 W v zs ∧ uNum 0 65535 zs ∧ zs.length ≤ n := by
  obtain ⟨a0, len0, cap0, rfl⟩ := okWide_slice Tryz.underlying48 hv
  obtain ⟨fuel, hf⟩ := h
  rcases open_ints Tryz.underlying48 Tryz.underlying52 (by kernel_rfl) hf with ⟨hcs, _⟩ | ⟨x, l, c, zs, hcs, _, hl, hm, hz, hx, hcell, hwz⟩
  · simp [Value.cells] at hcs
    obtain ⟨rfl, rfl, rfl⟩ := hcs
    exact ⟨[], ⟨none, 0, rfl, Nat.le_refl _, by unfold maxLen; omega, fun h => absurd h (by simp)⟩, fun x hx => absurd hx (by simp), by simp⟩
  · simp [Value.cells] at hcs
    obtain ⟨rfl, rfl, rfl⟩ := hcs
    have hz2 : zs.length = cap0 := by simpa using hz
    have hd := (Prod.mk.inj hx).1
    have hbk := bulk_slice hd hb
    rw [lits_length, List.length_take] at hbk
    refine ⟨zs.take len0, ureads_of hl hm hz2 hcell, fun y hy => ?_, by rw [List.length_take]; exact hbk⟩
    have w := hwz y (List.mem_of_mem_take hy)
    simp [Lit.wf, IntKind.min, IntKind.max, IntKind.signed, IntKind.bits] at w
    omega

end Go.Proofs.YtddamkdkaijfjaaGreatDoor
