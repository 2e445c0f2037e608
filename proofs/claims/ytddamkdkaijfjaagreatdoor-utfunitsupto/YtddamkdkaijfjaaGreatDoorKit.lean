/- What a slice value reads as, in a world; what is kept. -/
import Derived.Test.YtddamkdkaijfjaaGreatDoorMath
import Derived.Test.YtddamkdkaijfjaaGreatDoorProg
import Derived.WalkKit
import Derived.KernelRfl
namespace Go.Proofs.YtddamkdkaijfjaaGreatDoor
open Go.RowKit

theorem hide {p : Prop} (h : p) : Hid p := h

/-- the cells behind a slice's address, of n elements: they hold xs -/
def Cells (k : IntKind) (w : World) (ao : Option Addr) (xs : List Int) : Prop :=
  0 < xs.length → ∃ b off, ao = some ⟨b, off, none⟩ ∧ b < w.heap.size ∧ ∀ i, i < xs.length → w.cell? ⟨b, off + i, none⟩ = some (.int k (Nt.lb xs i))

/-- the value is a slice whose elements are xs -/
def Reads (k : IntKind) (w : World) (v : Value) (xs : List Int) : Prop :=
  ∃ ao cap, v = .slice ao xs.length cap ∧ xs.length ≤ cap ∧ cap ≤ maxLen ∧ Cells k w ao xs

theorem Cells.below {k : IntKind} {w w' : World} {ao : Option Addr} {xs : List Int} (h : Cells k w ao xs) (hb : Below w.heap.size w w') : Cells k w' ao xs := by
  intro hp
  obtain ⟨b, off, h1, h2, h3⟩ := h hp
  exact ⟨b, off, h1, Nat.lt_of_lt_of_le h2 hb.size, fun i hi => (hb.cell (p := ⟨b, off + i, none⟩) h2).trans (h3 i hi)⟩

theorem Reads.below {k : IntKind} {w w' : World} {v : Value} {xs : List Int} (h : Reads k w v xs) (hb : Below w.heap.size w w') : Reads k w' v xs := by
  obtain ⟨ao, cap, h1, h2, h3, h4⟩ := h
  exact ⟨ao, cap, h1, h2, h3, h4.below hb⟩

/-- the first k of them -/
theorem Cells.take {k : IntKind} {w : World} {ao : Option Addr} {xs : List Int} (h : Cells k w ao xs) {n : Nat} (hn : n ≤ xs.length) : Cells k w ao (xs.take n) := by
  intro hp
  have hl : (xs.take n).length = n := by rw [List.length_take, Nat.min_eq_left hn]
  rw [hl] at hp
  obtain ⟨b, off, h1, h2, h3⟩ := h (by omega)
  exact ⟨b, off, h1, h2, fun i hi => by rw [hl] at hi; rw [Nt.lb_take hi]; exact h3 i (by omega)⟩

/-- a block of numbers, all of it known -/
def Row (k : IntKind) (E : TypeId) (w : World) (g : Nat) (zs : List Int) : Prop := w.heap[g]? = some (.cells (zs.map (Value.int k)).toArray E (0, 0))

theorem Row.lt {k : IntKind} {E : TypeId} {w : World} {g : Nat} {zs : List Int} (h : Row k E w g zs) : g < w.heap.size := by
  unfold Row at h
  exact (Array.getElem?_eq_some_iff.1 h).1
theorem Row.cell {k : IntKind} {E : TypeId} {w : World} {g : Nat} {zs : List Int} (h : Row k E w g zs) {i : Nat} (hi : i < zs.length) : w.cell? ⟨g, i, none⟩ = some (.int k (Nt.lb zs i)) := by
  rw [cell_of_row w g i _ _ _ h]
  simp [Nt.lb, hi]
theorem Row.frozen {k : IntKind} {E : TypeId} {w : World} {g : Nat} {zs : List Int} (h : Row k E w g zs) (i : Nat) : w.frozen? ⟨g, i, none⟩ = false := frozen_of_row w g i _ _ h
theorem Row.set {k : IntKind} {E : TypeId} {w : World} {g : Nat} {zs : List Int} (h : Row k E w g zs) (i : Nat) (v : Int) : Row k E (w.setCell ⟨g, i, none⟩ (.int k v)) g (zs.set i v) := by
  unfold Row
  rw [heap_setCell_same w g i _ _ _ h]
  simp [List.map_set]
theorem Row.below {k : IntKind} {E : TypeId} {w w' : World} {g B : Nat} {zs : List Int} (h : Row k E w g zs) (hb : Below B w w') (hg : g < B) : Row k E w' g zs := by
  unfold Row
  rw [hb.block g hg]
  exact h
theorem Row.keeps {k : IntKind} {E : TypeId} {w w' : World} {g : Nat} {zs : List Int} (h : Row k E w g zs) (hb : Below w.heap.size w w') : Row k E w' g zs := h.below hb h.lt

theorem replicate_map (n : Nat) (z : Int) (k : IntKind) : (madeCells #[Value.int k z] n) = ((List.replicate n z).map (Value.int k)).toArray := by
  apply Array.ext'
  rw [toList_madeCells_one]
  simp

/-- make([]T, n), T a number's type: a new block of n noughts -/
theorem wpList_make_row {P : Program} (w : World) {ops : Array Oper} {rest : List Oper} {o : Oper} {a : Act} {Q : Exit → Act → World → Prop}
    (hg : o.guard = none) (l c : Operand) (t : TypeId) (hop : o.op = Op.makeSlice t l c)
    (E : TypeId) (kd : IntKind) (bytes : Nat) (h1 : P.underlying t = some (.slice E)) (h2 : (P.info? E).map (fun i => (i.zero, i.size, i.bytes)) = some (some (.int kd 0), 1, bytes))
    (kl kc : IntKind) (L C : Int) (n m : Nat) (hl : a.eval l = .int kl L) (hc : a.eval c = .int kc C) (hL : L = (n : Int)) (hC : C = (m : Int)) (hnm : n ≤ m) (b2 : bytes * m ≤ 281474976710656) (b3 : m ≤ maxLen)
    (hK : ∀ w', Row kd E w' w.heap.size (List.replicate m 0) → Below w.heap.size w w' → w.heap.size < w'.heap.size → wpList P ops Q rest (a.put o.dst (.slice (some ⟨w.heap.size, 0, none⟩) n m)) w') :
    wpList P ops Q (o :: rest) a w := by
  obtain ⟨i, hi, hz, hs, hb⟩ := info_parts h2
  refine wpList_plain hg fun K hK' => ?_
  have hb' : (i.bytes : Int) * (m : Int) ≤ 281474976710656 := by
    have h : ((i.bytes * m : Nat) : Int) ≤ 281474976710656 := by rw [hb]; omega
    rwa [Int.natCast_mul] at h
  have h63' : (m : Int) ≤ 9223372036854775807 := by
    have h := b3
    simp [maxLen] at h
    omega
  have hr := run_make (P := P) w t E i (.int kd 0) h1 hi hz kl kc (n : Int) (m : Int) (by omega) (by omega) hb' h63'
  simp only [Int.toNat_natCast, hs, Nat.mul_one] at hr
  subst hL
  subst hC
  unfold Oper.wp
  simp [execOp, hop, hl, hc, hr, Result.andThen]
  refine hK' _ _ (hK _ ?_ ((Below.refl _ _).alloc (Nat.le_refl _) _) (by simp))
  unfold Row
  rw [heap_alloc_new, show (Value.int kd 0).cells = #[Value.int kd 0] from rfl, replicate_map]

/-- a slice that a call has made, with no room behind it: no block below B is under it -/
def Made (k : IntKind) (E : TypeId) (B : Nat) (w : World) (v : Value) (zs : List Int) : Prop :=
  ∃ ao, v = .slice ao zs.length zs.length ∧ zs.length ≤ maxLen ∧ (0 < zs.length → ∃ g rest, ao = some ⟨g, 0, none⟩ ∧ B ≤ g ∧ Row k E w g (zs ++ rest))

theorem lb_append_left {xs ys : List Int} {i : Nat} (h : i < xs.length) : Nt.lb (xs ++ ys) i = Nt.lb xs i := by
  simp [Nt.lb, List.getElem?_append_left h]

theorem Made.reads {k : IntKind} {E : TypeId} {B : Nat} {w : World} {v : Value} {zs : List Int} (h : Made k E B w v zs) : Reads k w v zs := by
  obtain ⟨ao, h1, h2, h3⟩ := h
  refine ⟨ao, _, h1, Nat.le_refl _, h2, fun hp => ?_⟩
  obtain ⟨g, rest, h4, _, h5⟩ := h3 hp
  exact ⟨g, 0, h4, h5.lt, fun i hi => by rw [Nat.zero_add, h5.cell (by rw [List.length_append]; omega), lb_append_left hi]⟩

theorem Made.below {k : IntKind} {E : TypeId} {B : Nat} {w w' : World} {v : Value} {zs : List Int} (h : Made k E B w v zs) (hb : Below w.heap.size w w') : Made k E B w' v zs := by
  obtain ⟨ao, h1, h2, h3⟩ := h
  refine ⟨ao, h1, h2, fun hp => ?_⟩
  obtain ⟨g, rest, h4, h6, h5⟩ := h3 hp
  exact ⟨g, rest, h4, h6, h5.keeps hb⟩

/-- the first so many of a made row -/
theorem Row.made {k : IntKind} {E : TypeId} {B : Nat} {w : World} {g : Nat} {zs : List Int} (h : Row k E w g zs) (hB : B ≤ g) {n : Nat} (hn : n ≤ zs.length) (hm : n ≤ maxLen) : Made k E B w (.slice (some ⟨g, 0, none⟩) n n) (zs.take n) := by
  have hl : (zs.take n).length = n := by rw [List.length_take, Nat.min_eq_left hn]
  refine ⟨some ⟨g, 0, none⟩, by rw [hl], by rw [hl]; exact hm, fun _ => ⟨g, zs.drop n, rfl, hB, ?_⟩⟩
  rw [List.take_append_drop]; exact h

/-- an argument: a list of the number n, of at most k limbs -/
def Arg (w : World) (v : Value) (n : Int) (k : Nat) : Prop := ∃ zs, Reads .u32 w v zs ∧ Nt.Ok zs ∧ Nt.val zs = n ∧ zs.length ≤ k
/-- an answer: the list of the number n, of at most k limbs, in memory of its own -/
def Num (B : Nat) (w : World) (v : Value) (n : Int) (k : Nat) : Prop := ∃ zs, Made .u32 104 B w v zs ∧ Nt.Canon zs ∧ Nt.val zs = n ∧ zs.length ≤ k

theorem Arg.arg {w : World} {v : Value} {n : Int} {k : Nat} (h : Arg w v n k) : Arg w v n k := h
theorem Num.arg {B : Nat} {w : World} {v : Value} {n : Int} {k : Nat} (h : Num B w v n k) : Arg w v n k := by
  obtain ⟨zs, h1, h2, h3, h4⟩ := h
  exact ⟨zs, h1.reads, h2.1, h3, h4⟩
theorem Arg.below {w w' : World} {v : Value} {n : Int} {k : Nat} (h : Arg w v n k) (hb : Below w.heap.size w w') : Arg w' v n k := by
  obtain ⟨zs, h1, h2⟩ := h
  exact ⟨zs, h1.below hb, h2⟩
theorem Num.below {B : Nat} {w w' : World} {v : Value} {n : Int} {k : Nat} (h : Num B w v n k) (hb : Below w.heap.size w w') : Num B w' v n k := by
  obtain ⟨zs, h1, h2⟩ := h
  exact ⟨zs, h1.below hb, h2⟩
theorem Arg.nonneg {w : World} {v : Value} {n : Int} {k : Nat} (h : Arg w v n k) : 0 ≤ n := by
  obtain ⟨zs, _, h2, rfl, _⟩ := h
  exact Nt.val_nonneg h2
theorem Num.mono {B : Nat} {w : World} {v : Value} {n : Int} {k k' : Nat} (h : Num B w v n k) (hk : k ≤ k') : Num B w v n k' := by
  obtain ⟨zs, h1, h2, h3, h4⟩ := h
  exact ⟨zs, h1, h2, h3, Nat.le_trans h4 hk⟩
theorem below_trans {a b c : World} (h : Below a.heap.size a b) (k : Below b.heap.size b c) : Below a.heap.size a c := h.trans (k.mono h.size)

theorem Tryz.infoU32 : (Tryz.prog.info? 104).map (fun i => (i.zero, i.size, i.bytes)) = some (some (.int .u32 0), 1, 4) := by kernel_rfl
theorem Tryz.sizeU32 : (Tryz.prog.info? 104).map (·.size) = some 1 := by kernel_rfl
theorem Tryz.infoI64 : (Tryz.prog.info? 3).map (fun i => (i.zero, i.size, i.bytes)) = some (some (.int .i64 0), 1, 8) := by kernel_rfl

end Go.Proofs.YtddamkdkaijfjaaGreatDoor
