/- UBld, NWr -/
import Derived.Test.YtjigofmcflmelaaGreatDoorC02
import Derived.Shelf.Strings.Builder1
import Derived.OwnWalk
import Derived.Laws.BytesArg
namespace Go.Proofs.YtjigofmcflmelaaGreatDoor
open Go.RowKit
set_option linter.unusedVariables false

def lays_ren : Go.Shelf.Ren := ⟨fun | 169 => 208 | n => n, fun | 70 => 260 | 9 => 9 | 0 => 0 | 72 => 262 | 37 => 160 | 127 => 283 | 3 => 3 | 5 => 5 | n => n, fun | n => n⟩
theorem lays169 : Go.Proofs.Lays.n169 Tryz.prog lays_ren := {
  mixed := by kernel_rfl
  f169 := Tryz.func208.trans (congrArg some (by kernel_rfl))
  t0 := Tryz.underlying0
  a0 := Tryz.isAgg0
  z0 := Tryz.sizeOf0
  v0 := Tryz.zeroValue0
  t3 := Tryz.underlying3
  a3 := Tryz.isAgg3
  z3 := Tryz.sizeOf3
  v3 := Tryz.zeroValue3
  t9 := Tryz.underlying9
  a9 := Tryz.isAgg9
  z9 := Tryz.sizeOf9
  v9 := Tryz.zeroValue9
  t37 := Tryz.underlying160
  a37 := Tryz.isAgg160
  z37 := Tryz.sizeOf160
  v37 := Tryz.zeroValue160
  t70 := Tryz.underlying260
  a70 := Tryz.isAgg260
  z70 := Tryz.sizeOf260
  v70 := Tryz.zeroValue260
  t72 := Tryz.underlying262
  a72 := Tryz.isAgg262
  z72 := Tryz.sizeOf262
  v72 := Tryz.zeroValue262
  t127 := Tryz.underlying283
  a127 := Tryz.isAgg283
  z127 := Tryz.sizeOf283
  v127 := Tryz.zeroValue283 }
theorem laysX : Builder.Extra Tryz.prog lays_ren := {
  sizeBuilder := by kernel_rfl
  liesBuilder := by kernel_rfl
  t5 := Tryz.underlying5
  a5 := Tryz.isAgg5
  z5 := Tryz.sizeOf5
  v5 := Tryz.zeroValue5
  infoByte := by kernel_rfl
  cellsByte := by kernel_rfl
  sizeByte := by kernel_rfl
  neB5 := by decide }
theorem bstring {B b : Nat} {l : List UInt8} {w : World} (h : Lib.IsBuilder 262 5 B b (Lib.byteCells l) w) (hBw : B ≤ w.heap.size) :
    Calls Tryz.prog 208 #[.pointer (some ⟨b, 0, none⟩)] w fun e w' => e = .returned (.string ⟨l.toArray⟩) ∧ Below B w w' := Any.Builder_String_any lays169 laysX B b l w h hBw

/-- a list of bytes as numbers, as the bytes themselves -/
def byE (es : List Int) : List UInt8 := es.map fun x => UInt8.ofNat x.toNat
/-- the builder holds these bytes -/
def Bd (B b : Nat) (es : List Int) (w : World) : Prop := Lib.IsBuilder 262 5 B b (Lib.byteCells (byE es)) w
theorem Bd.below {B b : Nat} {es : List Int} {w w' : World} (h : Bd B b es w) (hb : Below w.heap.size w w') : Bd B b es w' := by
  have key : ∀ p, Lib.BuilderAt 262 5 B b p (Lib.byteCells (byE es)) w → Lib.BuilderAt 262 5 B b p (Lib.byteCells (byE es)) w' := by
    rintro p ⟨h1, v, h2, h3, h4⟩
    refine ⟨h1, v, ?_, ?_, h4⟩
    · rw [hb.block b (Array.getElem?_eq_some_iff.1 h2).1]; exact h2
    · exact h3.kept (row := none) ⟨hb.os, hb.tape, hb.output, hb.size, fun k hk _ => hb.block k hk⟩ (by cases v.ownBlock <;> simp)
  rcases h with g | g
  · exact Or.inl (key _ g)
  · exact Or.inr (key _ g)
theorem Bd.string {B b : Nat} {es : List Int} {w : World} (h : Bd B b es w) (hBw : B ≤ w.heap.size) :
    Calls Tryz.prog 208 #[.pointer (some ⟨b, 0, none⟩)] w fun e w' => e = .returned (.string (strOfNums es)) ∧ Below B w w' := bstring h hBw
theorem Bd.new (w : World) : Bd w.heap.size w.heap.size [] (w.alloc (.cells #[.pointer none, .slice none 0 0] 262)) :=
  Or.inl ⟨Nat.le_refl _, .slice none 0 0, heap_alloc_new w _, World.ownsRow_nil _ _ _ _, by simp [Value.ownBlock]⟩

end Go.Proofs.YtjigofmcflmelaaGreatDoor

namespace Go.Proofs.YtjigofmcflmelaaGreatDoor
open Go.RowKit
set_option linter.unusedVariables false

set_option maxRecDepth 100000 in
set_option maxHeartbeats 4000000 in
theorem written_nil {w : World} {o : Option Addr} {c : Nat} : Calls Tryz.prog 174 #[.slice o 0 c] w fun e w' => e = .returned (.string ⟨#[]⟩) ∧ Below w.heap.size w w' := by
  go_enter Tryz.func174, Tryz.ntmps174
  go_wp2
  go_loopw [8] (fun i wr => i = .int .i64 0 ∧ wr = w.alloc (.cells #[.pointer none, .slice none 0 0] 262)) (fun _ _ => 0)
  case atStart => exact ⟨rfl, rfl⟩
  case round =>
    obtain ⟨rfl, rfl⟩ := hrel
    have BN := Bd.new w
    have hs : w.heap.size ≤ (w.alloc (.cells #[.pointer none, .slice none 0 0] 262)).heap.size := by simp
    have KB := hide ((Below.refl w.heap.size w).alloc (Nat.le_refl _) (.cells #[.pointer none, .slice none 0 0] 262))
    generalize w.alloc (.cells #[.pointer none, .slice none 0 0] 262) = W at *
    go_wp2_with (refine (BN.string hs).mono ?_; rintro e W2 ⟨rfl, hb⟩; have K2 := hide (KB.out.trans hb); clear hb)
    go_ret
    exact ⟨rfl, K2.out⟩

end Go.Proofs.YtjigofmcflmelaaGreatDoor
