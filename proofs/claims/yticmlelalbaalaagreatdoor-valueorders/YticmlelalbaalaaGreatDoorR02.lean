/- Kit, Trim, Limb, Sub32, Same, Twin, UApp -/
import Derived.Test.YticmlelalbaalaaGreatDoorR01
import Derived.Test.YticmlelalbaalaaGreatDoorProg
import Derived.WalkKit
import Derived.KernelRfl
import Derived.OwnWalk
namespace Go.Proofs.YticmlelalbaalaaGreatDoor
open Go.RowKit

theorem hide {p : Prop} (h : p) : Hid p := h

/-- the cells behind a slice's address, of n elements: they hold xs -/
def Cells (k : IntKind) (w : World) (ao : Option Addr) (xs : List Int) : Prop :=
  0 < xs.length → ∃ b off, ao = some ⟨b, off, none⟩ ∧ b < w.heap.size ∧ ∀ i, i < xs.length → w.cell? ⟨b, off + i, none⟩ = some (.int k (Nt.lb xs i))

/-- the value is a slice whose elements are xs -/
def Reads (k : IntKind) (w : World) (v : Value) (xs : List Int) : Prop :=
  ∃ ao cap, v = .slice ao xs.length cap ∧ xs.length ≤ cap ∧ cap ≤ maxLen ∧ Cells k w ao xs

theorem Cells.below {k : IntKind} {w w' : World} {ao : Option Addr} {xs : List Int} (h : Cells k w ao xs) (hb : Below w.heap.size w w') : Cells k w' ao xs := by
  intro hp
  obtain ⟨b, off, h1, h2, h3⟩ := h hp
  exact ⟨b, off, h1, Nat.lt_of_lt_of_le h2 hb.size, fun i hi => (hb.cell (p := ⟨b, off + i, none⟩) h2).trans (h3 i hi)⟩

theorem Reads.below {k : IntKind} {w w' : World} {v : Value} {xs : List Int} (h : Reads k w v xs) (hb : Below w.heap.size w w') : Reads k w' v xs := by
  obtain ⟨ao, cap, h1, h2, h3, h4⟩ := h
  exact ⟨ao, cap, h1, h2, h3, h4.below hb⟩

/-- the first k of them -/
theorem Cells.take {k : IntKind} {w : World} {ao : Option Addr} {xs : List Int} (h : Cells k w ao xs) {n : Nat} (hn : n ≤ xs.length) : Cells k w ao (xs.take n) := by
  intro hp
  have hl : (xs.take n).length = n := by rw [List.length_take, Nat.min_eq_left hn]
  rw [hl] at hp
  obtain ⟨b, off, h1, h2, h3⟩ := h (by omega)
  exact ⟨b, off, h1, h2, fun i hi => by rw [hl] at hi; rw [Nt.lb_take hi]; exact h3 i (by omega)⟩

/-- a block of numbers, all of it known -/
def Row (k : IntKind) (E : TypeId) (w : World) (g : Nat) (zs : List Int) : Prop := w.heap[g]? = some (.cells (zs.map (Value.int k)).toArray E (0, 0))

theorem Row.lt {k : IntKind} {E : TypeId} {w : World} {g : Nat} {zs : List Int} (h : Row k E w g zs) : g < w.heap.size := by
  unfold Row at h
  exact (Array.getElem?_eq_some_iff.1 h).1
theorem Row.cell {k : IntKind} {E : TypeId} {w : World} {g : Nat} {zs : List Int} (h : Row k E w g zs) {i : Nat} (hi : i < zs.length) : w.cell? ⟨g, i, none⟩ = some (.int k (Nt.lb zs i)) := by
  rw [cell_of_row w g i _ _ _ h]
  simp [Nt.lb, hi]
theorem Row.frozen {k : IntKind} {E : TypeId} {w : World} {g : Nat} {zs : List Int} (h : Row k E w g zs) (i : Nat) : w.frozen? ⟨g, i, none⟩ = false := frozen_of_row w g i _ _ h
theorem Row.set {k : IntKind} {E : TypeId} {w : World} {g : Nat} {zs : List Int} (h : Row k E w g zs) (i : Nat) (v : Int) : Row k E (w.setCell ⟨g, i, none⟩ (.int k v)) g (zs.set i v) := by
  unfold Row
  rw [heap_setCell_same w g i _ _ _ h]
  simp [List.map_set]
theorem Row.below {k : IntKind} {E : TypeId} {w w' : World} {g B : Nat} {zs : List Int} (h : Row k E w g zs) (hb : Below B w w') (hg : g < B) : Row k E w' g zs := by
  unfold Row
  rw [hb.block g hg]
  exact h
theorem Row.keeps {k : IntKind} {E : TypeId} {w w' : World} {g : Nat} {zs : List Int} (h : Row k E w g zs) (hb : Below w.heap.size w w') : Row k E w' g zs := h.below hb h.lt

theorem replicate_map (n : Nat) (z : Int) (k : IntKind) : (madeCells #[Value.int k z] n) = ((List.replicate n z).map (Value.int k)).toArray := by
  apply Array.ext'
  rw [toList_madeCells_one]
  simp

/-- make([]T, n), T a number's type: a new block of n noughts -/
theorem wpList_make_row {P : Program} (w : World) {ops : Array Oper} {rest : List Oper} {o : Oper} {a : Act} {Q : Exit → Act → World → Prop}
    (hg : o.guard = none) (l c : Operand) (t : TypeId) (hop : o.op = Op.makeSlice t l c)
    (E : TypeId) (kd : IntKind) (bytes : Nat) (h1 : P.underlying t = some (.slice E)) (h2 : (P.info? E).map (fun i => (i.zero, i.size, i.bytes)) = some (some (.int kd 0), 1, bytes))
    (kl kc : IntKind) (L C : Int) (n m : Nat) (hl : a.eval l = .int kl L) (hc : a.eval c = .int kc C) (hL : L = (n : Int)) (hC : C = (m : Int)) (hnm : n ≤ m) (b2 : bytes * m ≤ 281474976710656) (b3 : m ≤ maxLen)
    (hK : ∀ w', Row kd E w' w.heap.size (List.replicate m 0) → Below w.heap.size w w' → w.heap.size < w'.heap.size → wpList P ops Q rest (a.put o.dst (.slice (some ⟨w.heap.size, 0, none⟩) n m)) w') :
    wpList P ops Q (o :: rest) a w := by
  obtain ⟨i, hi, hz, hs, hb⟩ := info_parts h2
  refine wpList_plain hg fun K hK' => ?_
  have hb' : (i.bytes : Int) * (m : Int) ≤ 281474976710656 := by
    have h : ((i.bytes * m : Nat) : Int) ≤ 281474976710656 := by rw [hb]; omega
    rwa [Int.natCast_mul] at h
  have h63' : (m : Int) ≤ 9223372036854775807 := by
    have h := b3
    simp [maxLen] at h
    omega
  have hr := run_make (P := P) w t E i (.int kd 0) h1 hi hz kl kc (n : Int) (m : Int) (by omega) (by omega) hb' h63'
  simp only [Int.toNat_natCast, hs, Nat.mul_one] at hr
  subst hL
  subst hC
  unfold Oper.wp
  simp [execOp, hop, hl, hc, hr, Result.andThen]
  refine hK' _ _ (hK _ ?_ ((Below.refl _ _).alloc (Nat.le_refl _) _) (by simp))
  unfold Row
  rw [heap_alloc_new, show (Value.int kd 0).cells = #[Value.int kd 0] from rfl, replicate_map]

/-- a slice that a call has made, with no room behind it: no block below B is under it -/
def Made (k : IntKind) (E : TypeId) (B : Nat) (w : World) (v : Value) (zs : List Int) : Prop :=
  ∃ ao, v = .slice ao zs.length zs.length ∧ zs.length ≤ maxLen ∧ (0 < zs.length → ∃ g rest, ao = some ⟨g, 0, none⟩ ∧ B ≤ g ∧ Row k E w g (zs ++ rest))

theorem lb_append_left {xs ys : List Int} {i : Nat} (h : i < xs.length) : Nt.lb (xs ++ ys) i = Nt.lb xs i := by
  simp [Nt.lb, List.getElem?_append_left h]

theorem Made.reads {k : IntKind} {E : TypeId} {B : Nat} {w : World} {v : Value} {zs : List Int} (h : Made k E B w v zs) : Reads k w v zs := by
  obtain ⟨ao, h1, h2, h3⟩ := h
  refine ⟨ao, _, h1, Nat.le_refl _, h2, fun hp => ?_⟩
  obtain ⟨g, rest, h4, _, h5⟩ := h3 hp
  exact ⟨g, 0, h4, h5.lt, fun i hi => by rw [Nat.zero_add, h5.cell (by rw [List.length_append]; omega), lb_append_left hi]⟩

theorem Made.below {k : IntKind} {E : TypeId} {B : Nat} {w w' : World} {v : Value} {zs : List Int} (h : Made k E B w v zs) (hb : Below w.heap.size w w') : Made k E B w' v zs := by
  obtain ⟨ao, h1, h2, h3⟩ := h
  refine ⟨ao, h1, h2, fun hp => ?_⟩
  obtain ⟨g, rest, h4, h6, h5⟩ := h3 hp
  exact ⟨g, rest, h4, h6, h5.keeps hb⟩

/-- the first so many of a made row -/
theorem Row.made {k : IntKind} {E : TypeId} {B : Nat} {w : World} {g : Nat} {zs : List Int} (h : Row k E w g zs) (hB : B ≤ g) {n : Nat} (hn : n ≤ zs.length) (hm : n ≤ maxLen) : Made k E B w (.slice (some ⟨g, 0, none⟩) n n) (zs.take n) := by
  have hl : (zs.take n).length = n := by rw [List.length_take, Nat.min_eq_left hn]
  refine ⟨some ⟨g, 0, none⟩, by rw [hl], by rw [hl]; exact hm, fun _ => ⟨g, zs.drop n, rfl, hB, ?_⟩⟩
  rw [List.take_append_drop]; exact h

/-- an argument: a list of the number n, of at most k limbs -/
def Arg (w : World) (v : Value) (n : Int) (k : Nat) : Prop := ∃ zs, Reads .u32 w v zs ∧ Nt.Ok zs ∧ Nt.val zs = n ∧ zs.length ≤ k
/-- an answer: the list of the number n, of at most k limbs, in memory of its own -/
def Num (B : Nat) (w : World) (v : Value) (n : Int) (k : Nat) : Prop := ∃ zs, Made .u32 70 B w v zs ∧ Nt.Canon zs ∧ Nt.val zs = n ∧ zs.length ≤ k

theorem Arg.arg {w : World} {v : Value} {n : Int} {k : Nat} (h : Arg w v n k) : Arg w v n k := h
theorem Num.arg {B : Nat} {w : World} {v : Value} {n : Int} {k : Nat} (h : Num B w v n k) : Arg w v n k := by
  obtain ⟨zs, h1, h2, h3, h4⟩ := h
  exact ⟨zs, h1.reads, h2.1, h3, h4⟩
theorem Arg.below {w w' : World} {v : Value} {n : Int} {k : Nat} (h : Arg w v n k) (hb : Below w.heap.size w w') : Arg w' v n k := by
  obtain ⟨zs, h1, h2⟩ := h
  exact ⟨zs, h1.below hb, h2⟩
theorem Num.below {B : Nat} {w w' : World} {v : Value} {n : Int} {k : Nat} (h : Num B w v n k) (hb : Below w.heap.size w w') : Num B w' v n k := by
  obtain ⟨zs, h1, h2⟩ := h
  exact ⟨zs, h1.below hb, h2⟩
theorem Arg.nonneg {w : World} {v : Value} {n : Int} {k : Nat} (h : Arg w v n k) : 0 ≤ n := by
  obtain ⟨zs, _, h2, rfl, _⟩ := h
  exact Nt.val_nonneg h2
theorem Num.mono {B : Nat} {w : World} {v : Value} {n : Int} {k k' : Nat} (h : Num B w v n k) (hk : k ≤ k') : Num B w v n k' := by
  obtain ⟨zs, h1, h2, h3, h4⟩ := h
  exact ⟨zs, h1, h2, h3, Nat.le_trans h4 hk⟩
theorem below_trans {a b c : World} (h : Below a.heap.size a b) (k : Below b.heap.size b c) : Below a.heap.size a c := h.trans (k.mono h.size)

theorem Tryz.infoU32 : (Tryz.prog.info? 70).map (fun i => (i.zero, i.size, i.bytes)) = some (some (.int .u32 0), 1, 4) := by kernel_rfl
theorem Tryz.sizeU32 : (Tryz.prog.info? 70).map (·.size) = some 1 := by kernel_rfl
theorem Tryz.infoI64 : (Tryz.prog.info? 3).map (fun i => (i.zero, i.size, i.bytes)) = some (some (.int .i64 0), 1, 8) := by kernel_rfl

end Go.Proofs.YticmlelalbaalaaGreatDoor

namespace Go.Proofs.YticmlelalbaalaaGreatDoor
open Go.RowKit

set_option maxHeartbeats 400000 in
theorem trim_any (ao : Option Addr) (cap : Nat) (xs : List Int) (w : World) (hl : xs.length ≤ cap) (hm : cap ≤ maxLen) (hc : Cells .u32 w ao xs) (ho : Nt.Ok xs) :
    Calls Tryz.prog 129 #[.slice ao xs.length cap] w fun e w' => w' = w ∧ ∃ k, k ≤ xs.length ∧ e = .returned (.slice ao k k) ∧ Nt.Canon (xs.take k) ∧ Nt.val (xs.take k) = Nt.val xs := by
  unfold maxLen at hm
  obtain ⟨n, hn⟩ : ∃ n, n = xs.length := ⟨_, rfl⟩
  have Hn : Hid (n = xs.length) := hn
  rw [← hn] at hl ⊢
  clear hn
  go_enter Tryz.func129, Tryz.ntmps129
  go_wp2
  go_loop [3] (fun s => ∃ k : Nat, k ≤ n ∧ s = .int .i64 k ∧ ∀ i, k ≤ i → i < n → Nt.lb xs i = 0) (fun s => (intOf s).toNat)
  case atStart => exact ⟨n, Nat.le_refl _, rfl, fun i h1 h2 => by omega⟩
  case round =>
    obtain ⟨k, hk, rfl, hz⟩ := hrel
    by_cases hp : 0 < k
    · obtain ⟨b, off, rfl, hb, hcell⟩ := hc (by have := Hn.out; omega)
      have hg := hcell (k - 1) (by have := Hn.out; omega)
      clear hcell
      by_cases hq : Nt.lb xs (k - 1) = 0
      · have hq' : (Nt.lb xs (k - 1) == 0) = true := by simp [hq]
        have Hq : Hid (Nt.lb xs (k - 1) = 0) := hq
        clear hq
        go_wp2
        go_round
        case rel => exact ⟨k - 1, by omega, by go_num, fun i h1 h2 => by
          by_cases e : i = k - 1
          · subst e; exact Hq.out
          · exact hz i (by omega) h2⟩
        case measure => simp [intOf]; omega
      · have hq' : (Nt.lb xs (k - 1) == 0) = false := by simp [hq]
        go_wp2
        go_ret
        have hx : n = xs.length := Hn.out
        refine ⟨rfl, k, by omega, by simp, Nt.canon_take ho (by omega) (fun _ => hq), ?_⟩
        rw [Nt.val_take (by omega), ← Nt.vt_cut (xs := xs) (by omega) (fun i h1 h2 => hz i h1 h2)]
        rw [hx]; rfl
    · have hk0 : k = 0 := by omega
      subst hk0
      go_wp2
      go_ret
      have hx : n = xs.length := Hn.out
      refine ⟨rfl, 0, by omega, by simp, by simpa using Nt.canon_nil, ?_⟩
      rw [Nt.val_take (by omega), ← Nt.vt_cut (xs := xs) (by omega) (fun i h1 h2 => hz i h1 h2)]
      rw [hx]; rfl

theorem trim_arg {w : World} {v : Value} {n : Int} {m : Nat} (h : Arg w v n m) :
    Calls Tryz.prog 129 #[v] w fun e w' => w' = w ∧ ∃ ao zs, e = .returned (.slice ao zs.length zs.length) ∧ zs.length ≤ m ∧ zs.length ≤ maxLen ∧ Cells .u32 w ao zs ∧ Nt.Canon zs ∧ Nt.val zs = n := by
  obtain ⟨xs, ⟨ao, cap, rfl, h1, h2, h3⟩, h4, h5, h6⟩ := h
  refine (trim_any ao cap xs w h1 h2 h3 h4).mono ?_
  rintro e w' ⟨rfl, k, hk, rfl, hc, hv⟩
  have hl : (xs.take k).length = k := by rw [List.length_take, Nat.min_eq_left hk]
  exact ⟨rfl, ao, xs.take k, by rw [hl], by omega, by omega, h3.take hk, hc, hv.trans h5⟩

/-- of a row that was made: what is handed out -/
theorem trim_row {w : World} {B g : Nat} {zs : List Int} {cap : Nat} (hr : Row .u32 70 w g zs) (hB : B ≤ g) (hc : zs.length ≤ cap) (hm : cap ≤ maxLen) (ho : Nt.Ok zs) :
    Calls Tryz.prog 129 #[.slice (some ⟨g, 0, none⟩) zs.length cap] w fun e w' => w' = w ∧ ∃ v, e = .returned v ∧ Num B w v (Nt.val zs) zs.length := by
  refine (trim_any (some ⟨g, 0, none⟩) cap zs w hc hm (fun _ => ⟨g, 0, rfl, hr.lt, fun i hi => by rw [Nat.zero_add]; exact hr.cell hi⟩) ho).mono ?_
  rintro e w' ⟨rfl, k, hk, rfl, hcn, hv⟩
  exact ⟨rfl, _, rfl, _, hr.made hB hk (by omega), hcn, hv, by rw [List.length_take]; omega⟩

end Go.Proofs.YticmlelalbaalaaGreatDoor

namespace Go.Proofs.YticmlelalbaalaaGreatDoor
open Go.RowKit

theorem or_join (h l : Int) (h0 : 0 ≤ h) (h1 : h < 4294967296) (l0 : 0 ≤ l) (l1 : l < 4294967296) : bits .or .u64 (h * 4294967296) l = h * 4294967296 + l := by
  obtain ⟨a, rfl⟩ := Int.eq_ofNat_of_zero_le h0
  obtain ⟨b, rfl⟩ := Int.eq_ofNat_of_zero_le l0
  have e : ((a : Int) * 4294967296) = ((a * 4294967296 : Nat) : Int) := by omega
  rw [e, u64_or_nat _ _ (by omega) (by omega), nat_join 32 (a * 4294967296) b (by omega) (by omega)]
  omega

end Go.Proofs.YticmlelalbaalaaGreatDoor

namespace Go.Proofs.YticmlelalbaalaaGreatDoor
open Go.RowKit
theorem top_bit (n : Nat) (h : n < 4294967296) : n.testBit 31 = decide (2147483648 ≤ n) := by
  rw [Nat.testBit_eq_decide_div_mod_eq]
  by_cases h1 : 2147483648 ≤ n
  · have : n / 2 ^ 31 = 1 := by omega
    simp [this, h1]
  · have : n / 2 ^ 31 = 0 := by omega
    simp [this, h1]
theorem top_div (n : Nat) (h : n < 4294967296) : n / 2147483648 = if n.testBit 31 = true then 1 else 0 := by
  rw [top_bit n h]
  by_cases h1 : 2147483648 ≤ n
  · simp [h1]; omega
  · simp [h1]; omega
theorem sub_borrow (x y d : Nat) (hx : x < 4294967296) (hy : y < 4294967296) (hd : d < 4294967296) :
    (((4294967295 ^^^ x) &&& y) ||| ((4294967295 ^^^ (x ^^^ y)) &&& d)) / 2147483648 =
      if (x < 2147483648 ∧ 2147483648 ≤ y) ∨ ((x < 2147483648 ↔ y < 2147483648) ∧ 2147483648 ≤ d) then 1 else 0 := by
  have b1 : ((4294967295 ^^^ x) &&& y) < 2 ^ 32 := Nat.and_lt_two_pow _ (by omega)
  have b2 : ((4294967295 ^^^ (x ^^^ y)) &&& d) < 2 ^ 32 := Nat.and_lt_two_pow _ (by omega)
  have b3 := Nat.or_lt_two_pow b1 b2
  rw [top_div _ (by omega)]
  rw [Nat.testBit_or, Nat.testBit_and, Nat.testBit_and, Nat.testBit_xor, Nat.testBit_xor, Nat.testBit_xor, top_bit x hx, top_bit y hy, top_bit d hd]
  have e : Nat.testBit 4294967295 31 = true := by decide
  rw [e]
  by_cases h1 : 2147483648 ≤ x <;> by_cases h2 : 2147483648 ≤ y <;> by_cases h3 : 2147483648 ≤ d <;> simp [h1, h2, h3] <;> omega

theorem sub32_math (x y c : Int) (hx0 : 0 ≤ x) (hx1 : x < 4294967296) (hy0 : 0 ≤ y) (hy1 : y < 4294967296) (hc0 : 0 ≤ c) (hc1 : c ≤ 1) :
    bits BinOp.or IntKind.u32 (bits BinOp.and IntKind.u32 (bits BinOp.xor IntKind.u32 IntKind.u32.max x) y)
        (bits BinOp.and IntKind.u32 (bits BinOp.xor IntKind.u32 IntKind.u32.max (bits BinOp.xor IntKind.u32 x y))
          ((x - y - c) % 4294967296)) / 2147483648 = -((x - y - c) / 4294967296) := by
  obtain ⟨d, hd⟩ : ∃ d, d = (x - y - c) % 4294967296 := ⟨_, rfl⟩
  have hd0 : 0 ≤ d := by omega
  have hd1 : d < 4294967296 := by omega
  rw [← hd]
  obtain ⟨X, rfl⟩ := Int.eq_ofNat_of_zero_le hx0
  obtain ⟨Y, rfl⟩ := Int.eq_ofNat_of_zero_le hy0
  obtain ⟨D, rfl⟩ := Int.eq_ofNat_of_zero_le hd0
  have em : IntKind.u32.max = ((4294967295 : Nat) : Int) := by decide
  have l0 : X ^^^ Y < 2 ^ 32 := Nat.xor_lt_two_pow (by omega) (by omega)
  have l1 : 4294967295 ^^^ X < 2 ^ 32 := Nat.xor_lt_two_pow (by omega) (by omega)
  have l2 : 4294967295 ^^^ (X ^^^ Y) < 2 ^ 32 := Nat.xor_lt_two_pow (by omega) l0
  have l3 : (4294967295 ^^^ X) &&& Y < 2 ^ 32 := Nat.and_lt_two_pow _ (by omega)
  have l4 : (4294967295 ^^^ (X ^^^ Y)) &&& D < 2 ^ 32 := Nat.and_lt_two_pow _ (by omega)
  rw [em, u32_xor_nat 4294967295 X (by omega) (by omega), u32_xor_nat X Y (by omega) (by omega), u32_xor_nat 4294967295 (X ^^^ Y) (by omega) (by omega),
    u32_and_nat _ Y (by omega) (by omega), u32_and_nat _ D (by omega) (by omega), u32_or_nat _ _ (by omega) (by omega)]
  have h := sub_borrow X Y D (by omega) (by omega) (by omega)
  generalize (((4294967295 ^^^ X) &&& Y) ||| ((4294967295 ^^^ (X ^^^ Y)) &&& D)) = N at *
  have h2 : ((N : Int) / 2147483648) = ((N / 2147483648 : Nat) : Int) := by omega
  rw [h2, h]
  split <;> omega

end Go.Proofs.YticmlelalbaalaaGreatDoor

namespace Go.Proofs.YticmlelalbaalaaGreatDoor
open Go.RowKit

theorem reads_len {k : IntKind} {w : World} {v : Value} {xs : List Int} (h : Reads k w v xs) : ∃ ao cap, v = .slice ao xs.length cap ∧ xs.length ≤ cap ∧ cap ≤ maxLen ∧ Cells k w ao xs := h

set_option maxHeartbeats 1000000 in
theorem same_any {w : World} {va vb : Value} {xs ys : List Int} (ha : Reads .u32 w va xs) (hb : Reads .u32 w vb ys) :
    Calls Tryz.prog 101 #[va, vb] w fun e w' => e = .returned (.bool (decide (xs = ys))) ∧ Below w.heap.size w w' := by
  obtain ⟨ao, ca, rfl, hxl, hxm, hxc⟩ := ha
  obtain ⟨bo, cb, rfl, hyl, hym, hyc⟩ := hb
  unfold maxLen at hxm hym
  by_cases hl : xs.length = ys.length
  · have hl1 : ((xs.length : Int) != (ys.length : Int)) = false := by simp [hl]
    have Hl : Hid (xs.length = ys.length) := hl
    clear hl
    go_enter Tryz.func101, Tryz.ntmps101
    go_wp2
    go_loopw [5] (fun i wr => ∃ k : Nat, k ≤ xs.length ∧ i = .int .i64 k ∧ (∀ j, j < k → Nt.lb xs j = Nt.lb ys j) ∧ Below w.heap.size w wr) (fun i _ => xs.length - (intOf i).toNat)
    case atStart => exact ⟨0, Nat.zero_le _, rfl, fun j hj => by omega, Below.refl _ _⟩
    case round =>
      obtain ⟨k, hk, rfl, hsame, hbr⟩ := hrel
      by_cases hlt : k < xs.length
      · have hlt2 : k < ys.length := by have := Hl.out; omega
        obtain ⟨b1, o1, rfl, _, hc1⟩ := (hxc.below hbr) (by omega)
        obtain ⟨b2, o2, rfl, _, hc2⟩ := (hyc.below hbr) (by omega)
        have g1 := hc1 k hlt
        have g2 := hc2 k hlt2
        clear hc1 hc2 hxc hyc
        have HS : Hid (∀ j, j < k → Nt.lb xs j = Nt.lb ys j) := hsame
        clear hsame
        by_cases hq : Nt.lb xs k = Nt.lb ys k
        · have hq' : (Nt.lb xs k != Nt.lb ys k) = false := by simp [hq]
          have Hq : Hid (Nt.lb xs k = Nt.lb ys k) := hq
          clear hq
          go_wp2
          go_region
          all_goals go_wp2
          all_goals go_roundw
          all_goals first
            | exact ⟨k + 1, by omega, by go_num, fun j hj => by
                by_cases e : j = k
                · subst e; exact Hq.out
                · exact HS.out j (by omega), by repeat (first | exact hbr | apply Below.drew)⟩
            | (simp [intOf]; omega)
        · have hq' : (Nt.lb xs k != Nt.lb ys k) = true := by simp [hq]
          have Hq : Hid (¬ Nt.lb xs k = Nt.lb ys k) := hq
          clear hq
          go_wp2
          go_region
          all_goals go_wp2
          all_goals go_ret
          all_goals
            refine ⟨?_, by repeat (first | exact hbr | apply Below.drew)⟩
            rw [decide_eq_false (fun e => Hq.out (by rw [e]))]
            rfl
      · have hke : k = xs.length := by omega
        subst hke
        go_wp2
        go_ret
        refine ⟨?_, hbr⟩
        rw [decide_eq_true (Nt.ext_lb Hl.out hsame)]
        rfl
  · have hl1 : ((xs.length : Int) != (ys.length : Int)) = true := by simp; omega
    have Hl : Hid (¬ xs.length = ys.length) := hl
    clear hl
    go_enter Tryz.func101, Tryz.ntmps101
    go_wp2
    go_ret
    refine ⟨?_, Below.refl _ _⟩
    rw [decide_eq_false (fun e => Hl.out (by rw [e]))]
    rfl

theorem same_num {w : World} {va vb : Value} {n m : Int} {B B' k k' : Nat} (ha : Num B w va n k) (hb : Num B' w vb m k') (he : n = m) :
    Calls Tryz.prog 101 #[va, vb] w fun e w' => e = .returned (.bool true) ∧ Below w.heap.size w w' := by
  obtain ⟨xs, hx, hxc, hxv, _⟩ := ha
  obtain ⟨ys, hy, hyc, hyv, _⟩ := hb
  have e := Nt.canon_unique hxc hyc (hxv.trans (he.trans hyv.symm))
  have := same_any hx.reads hy.reads
  rw [decide_eq_true e] at this
  exact this

/-- the list of a number is told by the number -/
theorem Num.made {B : Nat} {w : World} {v : Value} {n : Int} {k : Nat} (h : Num B w v n k) {ys : List Int} (hy : Nt.Canon ys) (he : Nt.val ys = n) : Made .u32 70 B w v ys := by
  obtain ⟨xs, h1, h2, h3, _⟩ := h
  rw [← Nt.canon_unique h2 hy (h3.trans he.symm)]
  exact h1
theorem Num.zero {B : Nat} {w : World} {v : Value} {n : Int} {k : Nat} (h : Num B w v n k) (he : n = 0) : ∃ ao, v = .slice ao 0 0 := by
  obtain ⟨ao, h1, _⟩ := h.made Nt.canon_nil (by rw [he]; rfl)
  exact ⟨ao, h1⟩

end Go.Proofs.YticmlelalbaalaaGreatDoor

namespace Go.Proofs.YticmlelalbaalaaGreatDoor
open Go.RowKit

/-- a copy with a mark behind it -/
def Twin (B : Nat) (w : World) (v : Value) (xs : List Int) : Prop := ∃ g, v = .slice (some ⟨g, 0, none⟩) xs.length (xs.length + 1) ∧ B ≤ g ∧ xs.length + 1 ≤ maxLen ∧ Row .u32 70 w g (xs ++ [2148261425])
theorem Twin.below {B : Nat} {w w' : World} {v : Value} {xs : List Int} (h : Twin B w v xs) (hb : Below w.heap.size w w') : Twin B w' v xs := by
  obtain ⟨g, h1, h2, h3, h4⟩ := h
  exact ⟨g, h1, h2, h3, h4.keeps hb⟩
theorem Twin.reads {B : Nat} {w : World} {v : Value} {xs : List Int} (h : Twin B w v xs) : Reads .u32 w v xs := by
  obtain ⟨g, h1, _, h3, h4⟩ := h
  refine ⟨_, _, h1, by omega, h3, fun _ => ⟨g, 0, rfl, h4.lt, fun i hi => ?_⟩⟩
  rw [Nat.zero_add, h4.cell (by rw [List.length_append]; omega), lb_append_left hi]

theorem take_set_succ {xs zs : List Int} {k : Nat} (hk : k < xs.length) (hz : k < zs.length) (h : zs.take k = xs.take k) : (zs.set k (Nt.lb xs k)).take (k + 1) = xs.take (k + 1) := by
  rw [List.take_succ_eq_append_getElem (by simpa using hz), List.take_succ_eq_append_getElem hk, List.take_set_of_le (Nat.le_refl _), h]
  simp [Nt.lb, hk]

set_option maxHeartbeats 1000000 in
theorem twin_any {w : World} {va : Value} {xs : List Int} (ha : Reads .u32 w va xs) (hl : xs.length ≤ 1099511627776) :
    Calls Tryz.prog 62 #[va] w fun e w' => ∃ v, e = .returned v ∧ Twin w.heap.size w' v xs ∧ Below w.heap.size w w' := by
  obtain ⟨ao, cap, rfl, hxl, hxm, hxc⟩ := ha
  go_enter Tryz.func62, Tryz.ntmps62
  go_wp2_with (at_make; refine wpList_make_row _ rfl _ _ 26 rfl 70 .u32 4 Tryz.underlying26 Tryz.infoU32 _ _ _ _ (xs.length + 1) (xs.length + 1) rfl rfl (by omega) (by omega) (Nat.le_refl _) (by omega) (by unfold maxLen; omega) ?_)
  intro w1 hr hbel hsz
  go_wp2
  go_loopw [4] (fun si wr => ∃ (k : Nat) (zs : List Int), k ≤ xs.length ∧ si = .int .i64 k ∧ zs.length = xs.length + 1 ∧ zs.take k = xs.take k ∧ Row .u32 70 wr w.heap.size zs ∧ Below w.heap.size w wr) (fun si _ => xs.length - (intOf si).toNat)
  case atStart => exact ⟨0, List.replicate (xs.length + 1) 0, by omega, rfl, by simp, by simp, hr, hbel⟩
  case round =>
    obtain ⟨k, zs, hk, rfl, hzl, hzt, hrow, hbr⟩ := hrel
    have Hzl := hide hzl
    have Hzt := hide hzt
    clear hzl hzt hr hbel
    by_cases hkl : k < xs.length
    · obtain ⟨b, off, rfl, hb, hc⟩ := (hxc.below hbr) (by omega)
      have g1 := hc k hkl
      have g2 := hrow.cell (i := k) (by have := Hzl.out; omega)
      have hfz := hrow.frozen k
      clear hc hxc
      go_wp2
      go_roundw
      case rel => exact ⟨k + 1, zs.set k (Nt.lb xs k), by omega, by go_num, by rw [List.length_set, Hzl.out], take_set_succ hkl (by have := Hzl.out; omega) Hzt.out, hrow.set _ _, hbr.setCell (p := ⟨w.heap.size, k, none⟩) (Nat.le_refl _) _⟩
      case measure => simp [intOf]; omega
    · have hke : k = xs.length := by omega
      have g2 := hrow.cell (i := xs.length) (by have := Hzl.out; omega)
      have hfz := hrow.frozen xs.length
      subst hke
      go_wp2
      go_ret
      refine ⟨_, rfl, ⟨w.heap.size, by simp, Nat.le_refl _, by unfold maxLen; omega, ?_⟩, hbr.setCell (p := ⟨w.heap.size, xs.length, none⟩) (Nat.le_refl _) _⟩
      have := hrow.set xs.length 2148261425
      have e : zs.set xs.length 2148261425 = xs ++ [2148261425] := by
        have h1 := Hzt.out
        have h2 := Hzl.out
        rw [List.take_length] at h1
        have h3 : (zs.set xs.length 2148261425).take (xs.length + 1) = xs ++ [2148261425] := by
          rw [List.take_succ_eq_append_getElem (by rw [List.length_set]; omega), List.take_set_of_le (Nat.le_refl _), h1]
          simp
        rw [← h3, List.take_of_length_le (by rw [List.length_set]; omega)]
      rw [e] at this
      exact this

set_option maxHeartbeats 1000000 in
theorem left_any {w : World} {va vb : Value} {xs : List Int} {B : Nat} (ha : Twin B w va xs) (hb : Reads .u32 w vb xs) :
    Calls Tryz.prog 99 #[va, vb] w fun e w' => e = .returned (.bool true) ∧ Below w.heap.size w w' := by
  have hs := same_any ha.reads hb
  rw [decide_eq_true rfl] at hs
  obtain ⟨g, rfl, _, hm, hrow⟩ := ha
  obtain ⟨bo, cb, rfl, hyl, hym, hyc⟩ := hb
  unfold maxLen at hm
  have Hs := hide hs
  clear hs
  go_enter Tryz.func99, Tryz.ntmps99
  go_wp2_with fail
  refine Calls.mono Hs.out ?_
  rintro e w1 ⟨rfl, hb1⟩
  have hc := (hrow.keeps hb1).cell (i := xs.length) (by simp)
  have e : Nt.lb (xs ++ [2148261425]) xs.length = 2148261425 := by simp [Nt.lb]
  rw [e] at hc
  clear Hs e
  go_wp2
  go_ret
  exact ⟨rfl, hb1⟩

end Go.Proofs.YticmlelalbaalaaGreatDoor

namespace Go.Proofs.YticmlelalbaalaaGreatDoor
open Go.RowKit
set_option linter.unusedVariables false

section
variable {P : Program} (w : World)
theorem urun_append_none (base : Nat) (t ty e : TypeId) (i : TypeInfo) (size : Nat) (ht : P.underlying t = some (.slice e)) (hi : P.info? e = some i)
    (v : Value) (n c : Nat) (xs : List Value) (hown : w.ownsRow base e size v n xs) :
    (Builtin.append_ #[t, t] ty #[v, .slice none 0 c]).run P w = .ok v w := by
  rcases hown.2 with ⟨rfl, rfl⟩ | ⟨g, cap, cur, rfl, _, _, hnc, _⟩
  · simp [Builtin.append_, run_underlying ht, sizeOf, typeInfo, hi, Builtin.lenOf, Builtin.firstCells]
  · simp [Builtin.append_, run_underlying ht, sizeOf, typeInfo, hi, Builtin.lenOf, Builtin.firstCells, hnc, storeCells]
theorem urun_append_ints (base : Nat) (t ty e : TypeId) (kd : IntKind) (bytes : Nat) (ht : P.underlying t = some (.slice e)) (hinf : (P.info? e).map (fun i => (i.zero, i.size, i.bytes)) = some (some (.int kd 0), 1, bytes))
    (v : Value) (n : Nat) (xs : List Int) (hown : w.ownsRow base e 1 v n (xs.map (Value.int kd))) (ao : Option Addr) (c : Nat) (ys : List Int) (hc : Cells kd w ao ys)
    (h63 : n + ys.length ≤ maxLen) (hbytes : (n + ys.length) * bytes ≤ 140737488355328) (hbase : base ≤ w.heap.size) :
    ∃ v' w', (Builtin.append_ #[t, t] ty #[v, .slice ao ys.length c]).run P w = .ok v' w' ∧ w'.ownsRow base e 1 v' (n + ys.length) ((xs ++ ys).map (Value.int kd)) ∧ w.grownBy w' v.ownBlock := by
  obtain ⟨i, hi, hz, hsz, hby⟩ := info_parts hinf
  cases ao with
  | none =>
    have h0 : ys = [] := by
      rcases Nat.eq_zero_or_pos ys.length with h0 | h0
      · exact List.eq_nil_of_length_eq_zero h0
      · obtain ⟨b, off, he, _⟩ := hc h0; cases he
    subst h0
    exact ⟨v, w, urun_append_none (P := P) w base t ty e i 1 ht hi v n c _ hown, by simpa using hown, ⟨rfl, rfl, rfl, Nat.le_refl _, fun _ _ _ => rfl⟩⟩
  | some ad =>
    have hone : ∀ u ∈ ys.map (Value.int kd), u.oneCell' = true := fun u hu => by
      obtain ⟨x, _, rfl⟩ := List.mem_map.1 hu; rfl
    obtain ⟨v', w', r1, r2, r3, _⟩ := run_append_own (P := P) w base t ty e i (.int kd 0) 1 bytes ht hi hz hsz hby rfl (by decide) v n _ hown ad ys.length c (ys.map (Value.int kd)) (by simp) (fun j u hu => by
      have hj : j < ys.length := by have := (List.getElem?_eq_some_iff.1 hu).1; simpa using this
      obtain ⟨b, off, he, _, hcell⟩ := hc (by omega)
      cases he
      rw [Addr.add_lit, hcell j hj]
      simp [hj] at hu
      rw [← hu]; simp [Nt.lb, hj]) hone h63 hbytes hbase
    exact ⟨v', w', r1, by simpa using r2, r3⟩
theorem uwpList_append_ints {ops : Array Oper} {rest : List Oper} {o : Oper} {a : Act} {Q : Exit → Act → World → Prop} (hgd : Region.wanted o (yielded ops a.tmps) = true) (s x : Operand) (t : TypeId)
    (ho : o.op = .call { callee := .builtin .append, args := #[s, x], argTypes := #[t, t] })
    (base : Nat) (e : TypeId) (kd : IntKind) (bytes : Nat) (ht : P.underlying t = some (.slice e)) (hinf : (P.info? e).map (fun i => (i.zero, i.size, i.bytes)) = some (some (.int kd 0), 1, bytes))
    (v : Value) (n : Nat) (xs : List Int) (hs : a.eval s = v) (hown : w.ownsRow base e 1 v n (xs.map (Value.int kd))) (ao : Option Addr) (c : Nat) (ys : List Int) (hx : a.eval x = .slice ao ys.length c) (hc : Cells kd w ao ys)
    (h63 : n + ys.length ≤ maxLen) (hbytes : (n + ys.length) * bytes ≤ 140737488355328) (hbase : base ≤ w.heap.size)
    (h : ∀ v' w', w'.ownsRow base e 1 v' (n + ys.length) ((xs ++ ys).map (Value.int kd)) → w.grownBy w' v.ownBlock → wpList P ops Q rest (a.put o.dst v') w') : wpList P ops Q (o :: rest) a w := by
  obtain ⟨v', w', hr, h2, h3⟩ := urun_append_ints (P := P) w base t o.type e kd bytes ht hinf v n xs hown ao c ys hc h63 hbytes hbase
  refine wpList_step fun K hK => ?_
  rw [hgd]
  simp only [if_true]
  unfold Oper.wp execOp
  simp only [ho, resolve, invoke, builtin, Sem.run_bind, Sem.run_pure, Result.andThen_ok, List.map_toArray, List.map_cons, List.map_nil, hs, hx, hr]
  exact hK _ _ (h v' w' h2 h3)
end
theorem owns_empty {w : World} {E : TypeId} : (w.alloc (.cells #[] E)).ownsRow w.heap.size E 1 (.slice (some ⟨w.heap.size, 0, none⟩) 0 0) 0 [] :=
  ⟨rfl, .inr ⟨w.heap.size, 0, #[], rfl, Nat.le_refl _, heap_alloc_new w _, Nat.le_refl _, by unfold maxLen; omega, rfl, rfl⟩⟩

end Go.Proofs.YticmlelalbaalaaGreatDoor
