/- layer 16: the scanner's cells, what a step leaves; blank, digit, hexDigit, mayEnd -/
import Derived.Test.YtefmlajndillbaaGreatDoorJsM
import Derived.Test.YtefmlajndillbaaGreatDoorFEr
import Derived.Test.YtefmlajndillbaaGreatDoorUApp
import Derived.Laws.EntriesVeiled
namespace Go.Proofs.YtefmlajndillbaaGreatDoor
open Go.RowKit
set_option linter.unusedVariables false

/-- the method that says what may come -/
def fnM : Md → Nat
  | .value => 11 | .firstElement => 25 | .firstKey => 26
  | .key => 42 | .colon => 74 | .behind => 57 | .letter => 44
  | .minus => 43 | .wholePart => 58 | .digits => 59 | .point => 78
  | .fraction => 91 | .exponent => 92 | .sign => 97 | .power => 101
  | .piece => 40 | .encoding => 55 | .backslash => 54 | .unit => 75
  | .behindD => 86 | .digitsLeft => 93 | .secondHalf => 98 | .secondU => 102
  | .secondD => 103 | .secondSpan => 104
def pV (p : Nat) : Value := .pointer (some ⟨p, 0, none⟩)
def mdV (p : Nat) (m : Md) : Value := .func (.func (fnM m)) #[.pointer (some ⟨p, 0, none⟩)] #[]
def rsV (p : Nat) : Option Md → Value
  | none => .nilFunc
  | some m => mdV p m
def erV (a : Nat → Addr) (n : Nat) : Value := if n = 0 then .nilIface else .iface 128 (.pointer (some (a (n - 1))))
/-- the scanner's cells -/
def scC (a : Nat → Addr) (p : Nat) (nx : Value) (sz : Int) (ov : Value) (t : St) : Array Value :=
  #[.pointer (some ⟨p, 0, none⟩), nx, .int .i64 sz, ov, .bool t.ends, erV a t.bad, .string (strOfNums t.word), .bool t.isKey, .string (strOfNums t.begun), .int .i64 t.left, .bool t.half]
/-- the scanner lies at p, what is open in memory of its own from B on -/
structure ScS (w : World) (a : Nat → Addr) (B p : Nat) (nx : Value) (sz : Int) (ov : Value) (t : St) : Prop where
  blk : w.heap[p]? = some (.cells (scC a p nx sz ov t) 50 (0, 0))
  own : w.ownsRow B 5 1 ov t.opn.length (t.opn.map (Value.int .u8))
  le : B ≤ p
/-- what is left of the world -/
structure Fr (p : Nat) (ov ov' : Value) (w w' : World) : Prop where
  os : w'.os = w.os
  tape : w'.tape = w.tape
  output : w'.output = w.output
  size : w.heap.size ≤ w'.heap.size
  block : ∀ k, k < w.heap.size → k ≠ p → ov.ownBlock ≠ some k → w'.heap[k]? = w.heap[k]?
  own : ov'.ownBlock = ov.ownBlock ∨ ∀ k, ov'.ownBlock = some k → w.heap.size ≤ k
theorem Fr.refl (p : Nat) (ov : Value) (w : World) : Fr p ov ov w w := ⟨rfl, rfl, rfl, Nat.le_refl _, fun _ _ _ _ => rfl, Or.inl rfl⟩
theorem Fr.trans {p : Nat} {o1 o2 o3 : Value} {a b c : World} (h : Fr p o1 o2 a b) (k : Fr p o2 o3 b c) : Fr p o1 o3 a c := by
  refine ⟨k.os.trans h.os, k.tape.trans h.tape, k.output.trans h.output, Nat.le_trans h.size k.size, fun i hi hp ho => ?_, ?_⟩
  · rw [k.block i (Nat.lt_of_lt_of_le hi h.size) hp ?_, h.block i hi hp ho]
    rcases h.own with e | e
    · rw [e]; exact ho
    · intro g; have := e i g; omega
  · rcases k.own with e | e
    · rw [e]; exact h.own
    · exact Or.inr fun i g => Nat.le_trans h.size (e i g)
theorem Fr.below {p B : Nat} {ov ov' : Value} {w w' : World} (h : Fr p ov ov' w w') (hp : B ≤ p) (hw : B ≤ w.heap.size) (ho : ∀ k, ov.ownBlock = some k → B ≤ k) : Below B w w' :=
  ⟨h.os, h.tape, h.output, h.size, fun k hk => h.block k (by omega) (by omega) (fun e => by have := ho k e; omega)⟩
theorem Fr.of_below {p : Nat} {ov : Value} {w w' : World} (h : Below w.heap.size w w') : Fr p ov ov w w' :=
  ⟨h.os, h.tape, h.output, h.size, fun k hk _ _ => h.block k hk, Or.inl rfl⟩
theorem Fr.setP {p i : Nat} {o1 o2 : Value} {w w' : World} (h : Fr p o1 o2 w w') (u : Value) : Fr p o1 o2 w (w'.setCell ⟨p, i, none⟩ u) :=
  h.trans ⟨rfl, rfl, rfl, by simp [World.setCell], fun k hk hp _ => Below.heap_setCell _ _ _ _ hp, Or.inl rfl⟩
theorem ScS.lt {w : World} {a : Nat → Addr} {B p : Nat} {nx ov : Value} {sz : Int} {t : St} (h : ScS w a B p nx sz ov t) : p < w.heap.size := (Array.getElem?_eq_some_iff.1 h.blk).1
theorem ScS.ne {w : World} {a : Nat → Addr} {B p : Nat} {nx ov : Value} {sz : Int} {t : St} (h : ScS w a B p nx sz ov t) : ov.ownBlock ≠ some p := by
  intro e
  rcases h.own.2 with ⟨rfl, _⟩ | ⟨g, cap, cur, rfl, _, hg, _⟩
  · simp [Value.ownBlock] at e
  · simp [Value.ownBlock] at e
    subst e
    rw [h.blk] at hg
    injection hg with hg
    injection hg with _ h2 _
    exact absurd h2 (by decide)
theorem ScS.ownLt {w : World} {a : Nat → Addr} {B p : Nat} {nx ov : Value} {sz : Int} {t : St} (h : ScS w a B p nx sz ov t) : ∀ k, ov.ownBlock = some k → B ≤ k ∧ k < w.heap.size := h.own.lt
/-- it lies on where its blocks stay -/
theorem ScS.below {w w' : World} {a : Nat → Addr} {B p : Nat} {nx ov : Value} {sz : Int} {t : St} (h : ScS w a B p nx sz ov t) (hb : Below w.heap.size w w') : ScS w' a B p nx sz ov t :=
  ⟨by rw [hb.block _ h.lt]; exact h.blk, h.own.kept (row := none) ⟨hb.os, hb.tape, hb.output, hb.size, fun k hk _ => hb.block k hk⟩ (by cases hv : ov.ownBlock <;> simp), h.le⟩
theorem ScS.drew {w : World} {a : Nat → Addr} {B p : Nat} {nx ov : Value} {sz : Int} {t : St} (h : ScS w a B p nx sz ov t) : ScS w.drew a B p nx sz ov t := h.below (Below.refl _ _).drew
theorem Fr.drew {p : Nat} {o1 o2 : Value} {w w' : World} (h : Fr p o1 o2 w w') : Fr p o1 o2 w w'.drew := h.trans (Fr.of_below (Below.refl _ _).drew)
/-- a cell of it is set -/
theorem ScS.grow {w : World} {p i : Nat} (u : Value) : w.grownBy (w.setCell ⟨p, i, none⟩ u) (some p) :=
  ⟨rfl, rfl, rfl, by simp [World.setCell], fun k hk hp => Below.heap_setCell _ _ _ _ (fun e => hp (by rw [e]))⟩
theorem ScS.keepOwn {w : World} {a : Nat → Addr} {B p i : Nat} {nx ov : Value} {sz : Int} {t : St} (h : ScS w a B p nx sz ov t) (u : Value) :
    (w.setCell ⟨p, i, none⟩ u).ownsRow B 5 1 ov t.opn.length (t.opn.map (Value.int .u8)) :=
  h.own.kept (ScS.grow u) (Or.inr h.ne)
theorem ScS.setEnds {w : World} {a : Nat → Addr} {B p : Nat} {nx ov : Value} {sz : Int} {t : St} (h : ScS w a B p nx sz ov t) (e : Bool) :
    ScS (w.setCell ⟨p, 4, none⟩ (.bool e)) a B p nx sz ov { t with ends := e } := ⟨heap_setCell_same w p 4 _ _ _ h.blk, h.keepOwn _, h.le⟩
theorem ScS.setNext {w : World} {a : Nat → Addr} {B p : Nat} {nx ov : Value} {sz : Int} {t : St} (h : ScS w a B p nx sz ov t) (nx' : Value) :
    ScS (w.setCell ⟨p, 1, none⟩ nx') a B p nx' sz ov t := ⟨heap_setCell_same w p 1 _ _ _ h.blk, h.keepOwn _, h.le⟩
theorem ScS.setSize {w : World} {a : Nat → Addr} {B p : Nat} {nx ov : Value} {sz : Int} {t : St} (h : ScS w a B p nx sz ov t) (n : Int) :
    ScS (w.setCell ⟨p, 2, none⟩ (.int .i64 n)) a B p nx n ov t := ⟨heap_setCell_same w p 2 _ _ _ h.blk, h.keepOwn _, h.le⟩
theorem ScS.setBad {w : World} {a : Nat → Addr} {B p : Nat} {nx ov : Value} {sz : Int} {t : St} (h : ScS w a B p nx sz ov t) (n : Nat) :
    ScS (w.setCell ⟨p, 5, none⟩ (erV a n)) a B p nx sz ov { t with bad := n } := ⟨heap_setCell_same w p 5 _ _ _ h.blk, h.keepOwn _, h.le⟩
theorem ScS.setWord {w : World} {a : Nat → Addr} {B p : Nat} {nx ov : Value} {sz : Int} {t : St} (h : ScS w a B p nx sz ov t) (l : List Int) :
    ScS (w.setCell ⟨p, 6, none⟩ (.string (strOfNums l))) a B p nx sz ov { t with word := l } := ⟨heap_setCell_same w p 6 _ _ _ h.blk, h.keepOwn _, h.le⟩
theorem ScS.setKey {w : World} {a : Nat → Addr} {B p : Nat} {nx ov : Value} {sz : Int} {t : St} (h : ScS w a B p nx sz ov t) (b : Bool) :
    ScS (w.setCell ⟨p, 7, none⟩ (.bool b)) a B p nx sz ov { t with isKey := b } := ⟨heap_setCell_same w p 7 _ _ _ h.blk, h.keepOwn _, h.le⟩
theorem ScS.setBegun {w : World} {a : Nat → Addr} {B p : Nat} {nx ov : Value} {sz : Int} {t : St} (h : ScS w a B p nx sz ov t) (l : List Int) :
    ScS (w.setCell ⟨p, 8, none⟩ (.string (strOfNums l))) a B p nx sz ov { t with begun := l } := ⟨heap_setCell_same w p 8 _ _ _ h.blk, h.keepOwn _, h.le⟩
theorem ScS.setLeft {w : World} {a : Nat → Addr} {B p : Nat} {nx ov : Value} {sz : Int} {t : St} (h : ScS w a B p nx sz ov t) (n : Int) :
    ScS (w.setCell ⟨p, 9, none⟩ (.int .i64 n)) a B p nx sz ov { t with left := n } := ⟨heap_setCell_same w p 9 _ _ _ h.blk, h.keepOwn _, h.le⟩
theorem ScS.setHalf {w : World} {a : Nat → Addr} {B p : Nat} {nx ov : Value} {sz : Int} {t : St} (h : ScS w a B p nx sz ov t) (b : Bool) :
    ScS (w.setCell ⟨p, 10, none⟩ (.bool b)) a B p nx sz ov { t with half := b } := ⟨heap_setCell_same w p 10 _ _ _ h.blk, h.keepOwn _, h.le⟩
/-- a cell's facts -/
theorem ScS.cell {w : World} {a : Nat → Addr} {B p : Nat} {nx ov : Value} {sz : Int} {t : St} (h : ScS w a B p nx sz ov t) (i : Nat) : w.cell? ⟨p, i, none⟩ = (scC a p nx sz ov t)[i]? := Lib.cell_of_heap h.blk i
theorem ScS.frz {w : World} {a : Nat → Addr} {B p : Nat} {nx ov : Value} {sz : Int} {t : St} (h : ScS w a B p nx sz ov t) (i : Nat) : w.frozen? ⟨p, i, none⟩ = false := frozen_of_row _ p i _ _ h.blk

/-- what a step leaves -/
def Outs (w : World) (a : Nat → Addr) (B p : Nat) (nx : Value) (sz : Int) (ov : Value) (r : Rs) (e : Ending) (w' : World) : Prop :=
  ∃ ov', e = .returned (rsV p r.1) ∧ ScS w' a B p nx sz ov' r.2 ∧ Fr p ov ov' w w'
theorem Outs.mk0 {w : World} {a : Nat → Addr} {B p : Nat} {nx ov : Value} {sz : Int} {t : St} {r : Rs} {v : Value} (h : ScS w a B p nx sz ov t) (e1 : rsV p r.1 = v) (e2 : r.2 = t) : Outs w a B p nx sz ov r (.returned v) w :=
  ⟨ov, by rw [e1], e2 ▸ h, Fr.refl _ _ _⟩

theorem jblank {w : World} {b : Int} : Calls Tryz.prog 22 #[.int .u8 b] w fun e w' => e = .returned (.bool (blankB b)) ∧ w' = w := by
  go_enter Tryz.func22, Tryz.ntmps22
  go_wp2
  all_goals go_ret
  all_goals simp_all [blankB]
theorem jblankE {w : World} {b : Int} {v : Bool} (h : blankB b = v) : Calls Tryz.prog 22 #[.int .u8 b] w fun e w' => e = .returned (.bool v) ∧ w' = w := h ▸ jblank
theorem jdigit {w : World} {b : Int} : Calls Tryz.prog 27 #[.int .u8 b] w fun e w' => e = .returned (.bool (digB b)) ∧ w' = w := by
  go_enter Tryz.func27, Tryz.ntmps27
  go_wp2
  all_goals go_ret
  all_goals simp_all [digB]
  all_goals omega
theorem jdigitE {w : World} {b : Int} {v : Bool} (h : digB b = v) : Calls Tryz.prog 27 #[.int .u8 b] w fun e w' => e = .returned (.bool v) ∧ w' = w := h ▸ jdigit
theorem jhexE {w : World} {b : Int} {v : Bool} (h : jhxB b = v) : Calls Tryz.prog 87 #[.int .u8 b] w fun e w' => e = .returned (.bool v) ∧ w' = w := by
  subst h
  cases hd : digB b with
  | true =>
    have C0 := hide (jdigitE (w := w) hd)
    have E : jhxB b = true := by simp [jhxB, hd]
    rw [E]
    go_enter Tryz.func87, Tryz.ntmps87
    go_wp2_with fail
    refine C0.out.mono ?_
    rintro e w1 ⟨rfl, rfl⟩
    go_wp2
    all_goals go_ret
    all_goals simp_all
  | false =>
    have C0 := hide (jdigitE (w := w) hd)
    have E : jhxB b = ((decide (97 ≤ b) && decide (b ≤ 102)) || (decide (65 ≤ b) && decide (b ≤ 70))) := by simp [jhxB, hd]
    rw [E]
    clear E
    go_enter Tryz.func87, Tryz.ntmps87
    go_wp2_with fail
    refine C0.out.mono ?_
    rintro e w1 ⟨rfl, rfl⟩
    go_wp2
    all_goals go_ret
    all_goals simp_all
    all_goals omega

end Go.Proofs.YtefmlajndillbaaGreatDoor
