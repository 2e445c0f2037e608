import Derived.Test.YticmlelalbaalaaGreatDoorB01
import Derived.Test.YticmlelalbaalaaGreatDoorProg
import Derived.WalkKit
import Derived.KernelRfl
import Derived.OwnWalk
namespace Go.Proofs.YticmlelalbaalaaGreatDoor
open Go.RowKit
theorem hide {p : Prop} (h : p) : Hid p := h
def Cells (k : IntKind) (w : World) (ao : Option Addr) (xs : List Int) : Prop :=
  0 < xs.length → ∃ b off, ao = some ⟨b, off, none⟩ ∧ b < w.heap.size ∧ ∀ i, i < xs.length → w.cell? ⟨b, off + i, none⟩ = some (.int k (Nt.lb xs i))
def Reads (k : IntKind) (w : World) (v : Value) (xs : List Int) : Prop :=
  ∃ ao cap, v = .slice ao xs.length cap ∧ xs.length ≤ cap ∧ cap ≤ maxLen ∧ Cells k w ao xs
theorem Cells.below {k : IntKind} {w w' : World} {ao : Option Addr} {xs : List Int} (h : Cells k w ao xs) (hb : Below w.heap.size w w') : Cells k w' ao xs := by
  intro hp
  obtain ⟨b, off, h1, h2, h3⟩ := h hp
  exact ⟨b, off, h1, Nat.lt_of_lt_of_le h2 hb.size, fun i hi => (hb.cell (p := ⟨b, off + i, none⟩) h2).trans (h3 i hi)⟩
theorem Reads.below {k : IntKind} {w w' : World} {v : Value} {xs : List Int} (h : Reads k w v xs) (hb : Below w.heap.size w w') : Reads k w' v xs := by
  obtain ⟨ao, cap, h1, h2, h3, h4⟩ := h
  exact ⟨ao, cap, h1, h2, h3, h4.below hb⟩
theorem Cells.take {k : IntKind} {w : World} {ao : Option Addr} {xs : List Int} (h : Cells k w ao xs) {n : Nat} (hn : n ≤ xs.length) : Cells k w ao (xs.take n) := by
  intro hp
  have hl : (xs.take n).length = n := by rw [List.length_take, Nat.min_eq_left hn]
  rw [hl] at hp
  obtain ⟨b, off, h1, h2, h3⟩ := h (by omega)
  exact ⟨b, off, h1, h2, fun i hi => by rw [hl] at hi; rw [Nt.lb_take hi]; exact h3 i (by omega)⟩
def Row (k : IntKind) (E : TypeId) (w : World) (g : Nat) (zs : List Int) : Prop := w.heap[g]? = some (.cells (zs.map (Value.int k)).toArray E (0, 0))
theorem Row.lt {k : IntKind} {E : TypeId} {w : World} {g : Nat} {zs : List Int} (h : Row k E w g zs) : g < w.heap.size := by
  unfold Row at h
  exact (Array.getElem?_eq_some_iff.1 h).1
theorem Row.cell {k : IntKind} {E : TypeId} {w : World} {g : Nat} {zs : List Int} (h : Row k E w g zs) {i : Nat} (hi : i < zs.length) : w.cell? ⟨g, i, none⟩ = some (.int k (Nt.lb zs i)) := by
  rw [cell_of_row w g i _ _ _ h]
  simp [Nt.lb, hi]
theorem Row.frozen {k : IntKind} {E : TypeId} {w : World} {g : Nat} {zs : List Int} (h : Row k E w g zs) (i : Nat) : w.frozen? ⟨g, i, none⟩ = false := frozen_of_row w g i _ _ h
theorem Row.set {k : IntKind} {E : TypeId} {w : World} {g : Nat} {zs : List Int} (h : Row k E w g zs) (i : Nat) (v : Int) : Row k E (w.setCell ⟨g, i, none⟩ (.int k v)) g (zs.set i v) := by
  unfold Row
  rw [heap_setCell_same w g i _ _ _ h]
  simp [List.map_set]
theorem Row.below {k : IntKind} {E : TypeId} {w w' : World} {g B : Nat} {zs : List Int} (h : Row k E w g zs) (hb : Below B w w') (hg : g < B) : Row k E w' g zs := by
  unfold Row
  rw [hb.block g hg]
  exact h
theorem Row.keeps {k : IntKind} {E : TypeId} {w w' : World} {g : Nat} {zs : List Int} (h : Row k E w g zs) (hb : Below w.heap.size w w') : Row k E w' g zs := h.below hb h.lt
theorem replicate_map (n : Nat) (z : Int) (k : IntKind) : (madeCells #[Value.int k z] n) = ((List.replicate n z).map (Value.int k)).toArray := by
  apply Array.ext'
  rw [toList_madeCells_one]
  simp
theorem wpList_make_row {P : Program} (w : World) {ops : Array Oper} {rest : List Oper} {o : Oper} {a : Act} {Q : Exit → Act → World → Prop}
    (hg : o.guard = none) (l c : Operand) (t : TypeId) (hop : o.op = Op.makeSlice t l c)
    (E : TypeId) (kd : IntKind) (bytes : Nat) (h1 : P.underlying t = some (.slice E)) (h2 : (P.info? E).map (fun i => (i.zero, i.size, i.bytes)) = some (some (.int kd 0), 1, bytes))
    (kl kc : IntKind) (L C : Int) (n m : Nat) (hl : a.eval l = .int kl L) (hc : a.eval c = .int kc C) (hL : L = (n : Int)) (hC : C = (m : Int)) (hnm : n ≤ m) (b2 : bytes * m ≤ 281474976710656) (b3 : m ≤ maxLen)
    (hK : ∀ w', Row kd E w' w.heap.size (List.replicate m 0) → Below w.heap.size w w' → w.heap.size < w'.heap.size → wpList P ops Q rest (a.put o.dst (.slice (some ⟨w.heap.size, 0, none⟩) n m)) w') :
    wpList P ops Q (o :: rest) a w := by
  obtain ⟨i, hi, hz, hs, hb⟩ := info_parts h2
  refine wpList_plain hg fun K hK' => ?_
  have hb' : (i.bytes : Int) * (m : Int) ≤ 281474976710656 := by
    have h : ((i.bytes * m : Nat) : Int) ≤ 281474976710656 := by rw [hb]; omega
    rwa [Int.natCast_mul] at h
  have h63' : (m : Int) ≤ 9223372036854775807 := by
    have h := b3
    simp [maxLen] at h
    omega
  have hr := run_make (P := P) w t E i (.int kd 0) h1 hi hz kl kc (n : Int) (m : Int) (by omega) (by omega) hb' h63'
  simp only [Int.toNat_natCast, hs, Nat.mul_one] at hr
  subst hL
  subst hC
  unfold Oper.wp
  simp [execOp, hop, hl, hc, hr, Result.andThen]
  refine hK' _ _ (hK _ ?_ ((Below.refl _ _).alloc (Nat.le_refl _) _) (by simp))
  unfold Row
  rw [heap_alloc_new, show (Value.int kd 0).cells = #[Value.int kd 0] from rfl, replicate_map]
def Made (k : IntKind) (E : TypeId) (B : Nat) (w : World) (v : Value) (zs : List Int) : Prop :=
  ∃ ao, v = .slice ao zs.length zs.length ∧ zs.length ≤ maxLen ∧ (0 < zs.length → ∃ g rest, ao = some ⟨g, 0, none⟩ ∧ B ≤ g ∧ Row k E w g (zs ++ rest))
theorem lb_append_left {xs ys : List Int} {i : Nat} (h : i < xs.length) : Nt.lb (xs ++ ys) i = Nt.lb xs i := by
  simp [Nt.lb, List.getElem?_append_left h]
theorem Made.reads {k : IntKind} {E : TypeId} {B : Nat} {w : World} {v : Value} {zs : List Int} (h : Made k E B w v zs) : Reads k w v zs := by
  obtain ⟨ao, h1, h2, h3⟩ := h
  refine ⟨ao, _, h1, Nat.le_refl _, h2, fun hp => ?_⟩
  obtain ⟨g, rest, h4, _, h5⟩ := h3 hp
  exact ⟨g, 0, h4, h5.lt, fun i hi => by rw [Nat.zero_add, h5.cell (by rw [List.length_append]; omega), lb_append_left hi]⟩
theorem Made.below {k : IntKind} {E : TypeId} {B : Nat} {w w' : World} {v : Value} {zs : List Int} (h : Made k E B w v zs) (hb : Below w.heap.size w w') : Made k E B w' v zs := by
  obtain ⟨ao, h1, h2, h3⟩ := h
  refine ⟨ao, h1, h2, fun hp => ?_⟩
  obtain ⟨g, rest, h4, h6, h5⟩ := h3 hp
  exact ⟨g, rest, h4, h6, h5.keeps hb⟩
theorem Row.made {k : IntKind} {E : TypeId} {B : Nat} {w : World} {g : Nat} {zs : List Int} (h : Row k E w g zs) (hB : B ≤ g) {n : Nat} (hn : n ≤ zs.length) (hm : n ≤ maxLen) : Made k E B w (.slice (some ⟨g, 0, none⟩) n n) (zs.take n) := by
  have hl : (zs.take n).length = n := by rw [List.length_take, Nat.min_eq_left hn]
  refine ⟨some ⟨g, 0, none⟩, by rw [hl], by rw [hl]; exact hm, fun _ => ⟨g, zs.drop n, rfl, hB, ?_⟩⟩
  rw [List.take_append_drop]; exact h
def Arg (w : World) (v : Value) (n : Int) (k : Nat) : Prop := ∃ zs, Reads .u32 w v zs ∧ Nt.Ok zs ∧ Nt.val zs = n ∧ zs.length ≤ k
def Num (B : Nat) (w : World) (v : Value) (n : Int) (k : Nat) : Prop := ∃ zs, Made .u32 70 B w v zs ∧ Nt.Canon zs ∧ Nt.val zs = n ∧ zs.length ≤ k
theorem Num.arg {B : Nat} {w : World} {v : Value} {n : Int} {k : Nat} (h : Num B w v n k) : Arg w v n k := by
  obtain ⟨zs, h1, h2, h3, h4⟩ := h
  exact ⟨zs, h1.reads, h2.1, h3, h4⟩
theorem Arg.below {w w' : World} {v : Value} {n : Int} {k : Nat} (h : Arg w v n k) (hb : Below w.heap.size w w') : Arg w' v n k := by
  obtain ⟨zs, h1, h2⟩ := h
  exact ⟨zs, h1.below hb, h2⟩
theorem Num.below {B : Nat} {w w' : World} {v : Value} {n : Int} {k : Nat} (h : Num B w v n k) (hb : Below w.heap.size w w') : Num B w' v n k := by
  obtain ⟨zs, h1, h2⟩ := h
  exact ⟨zs, h1.below hb, h2⟩
theorem Arg.nonneg {w : World} {v : Value} {n : Int} {k : Nat} (h : Arg w v n k) : 0 ≤ n := by
  obtain ⟨zs, _, h2, rfl, _⟩ := h
  exact Nt.val_nonneg h2
theorem Num.mono {B : Nat} {w : World} {v : Value} {n : Int} {k k' : Nat} (h : Num B w v n k) (hk : k ≤ k') : Num B w v n k' := by
  obtain ⟨zs, h1, h2, h3, h4⟩ := h
  exact ⟨zs, h1, h2, h3, Nat.le_trans h4 hk⟩
theorem below_trans {a b c : World} (h : Below a.heap.size a b) (k : Below b.heap.size b c) : Below a.heap.size a c := h.trans (k.mono h.size)
theorem Tryz.infoU32 : (Tryz.prog.info? 70).map (fun i => (i.zero, i.size, i.bytes)) = some (some (.int .u32 0), 1, 4) := by kernel_rfl
theorem Tryz.sizeU32 : (Tryz.prog.info? 70).map (·.size) = some 1 := by kernel_rfl
theorem Tryz.infoI64 : (Tryz.prog.info? 3).map (fun i => (i.zero, i.size, i.bytes)) = some (some (.int .i64 0), 1, 8) := by kernel_rfl
set_option maxHeartbeats 400000 in
theorem trim_any (ao : Option Addr) (cap : Nat) (xs : List Int) (w : World) (hl : xs.length ≤ cap) (hm : cap ≤ maxLen) (hc : Cells .u32 w ao xs) (ho : Nt.Ok xs) :
    Calls Tryz.prog 129 #[.slice ao xs.length cap] w fun e w' => w' = w ∧ ∃ k, k ≤ xs.length ∧ e = .returned (.slice ao k k) ∧ Nt.Canon (xs.take k) ∧ Nt.val (xs.take k) = Nt.val xs := by
  unfold maxLen at hm
  obtain ⟨n, hn⟩ : ∃ n, n = xs.length := ⟨_, rfl⟩
  have Hn : Hid (n = xs.length) := hn
  rw [← hn] at hl ⊢
  clear hn
  go_enter Tryz.func129, Tryz.ntmps129
  go_wp2
  go_loop [3] (fun s => ∃ k : Nat, k ≤ n ∧ s = .int .i64 k ∧ ∀ i, k ≤ i → i < n → Nt.lb xs i = 0) (fun s => (intOf s).toNat)
  case atStart => exact ⟨n, Nat.le_refl _, rfl, fun i h1 h2 => by omega⟩
  case round =>
    obtain ⟨k, hk, rfl, hz⟩ := hrel
    by_cases hp : 0 < k
    · obtain ⟨b, off, rfl, hb, hcell⟩ := hc (by have := Hn.out; omega)
      have hg := hcell (k - 1) (by have := Hn.out; omega)
      clear hcell
      by_cases hq : Nt.lb xs (k - 1) = 0
      · have hq' : (Nt.lb xs (k - 1) == 0) = true := by simp [hq]
        have Hq : Hid (Nt.lb xs (k - 1) = 0) := hq
        clear hq
        go_wp2
        go_round
        case rel => exact ⟨k - 1, by omega, by go_num, fun i h1 h2 => by
          by_cases e : i = k - 1
          · subst e; exact Hq.out
          · exact hz i (by omega) h2⟩
        case measure => simp [intOf]; omega
      · have hq' : (Nt.lb xs (k - 1) == 0) = false := by simp [hq]
        go_wp2
        go_ret
        have hx : n = xs.length := Hn.out
        refine ⟨rfl, k, by omega, by simp, Nt.canon_take ho (by omega) (fun _ => hq), ?_⟩
        rw [Nt.val_take (by omega), ← Nt.vt_cut (xs := xs) (by omega) (fun i h1 h2 => hz i h1 h2)]
        rw [hx]; rfl
    · have hk0 : k = 0 := by omega
      subst hk0
      go_wp2
      go_ret
      have hx : n = xs.length := Hn.out
      refine ⟨rfl, 0, by omega, by simp, by simpa using Nt.canon_nil, ?_⟩
      rw [Nt.val_take (by omega), ← Nt.vt_cut (xs := xs) (by omega) (fun i h1 h2 => hz i h1 h2)]
      rw [hx]; rfl
theorem trim_arg {w : World} {v : Value} {n : Int} {m : Nat} (h : Arg w v n m) :
    Calls Tryz.prog 129 #[v] w fun e w' => w' = w ∧ ∃ ao zs, e = .returned (.slice ao zs.length zs.length) ∧ zs.length ≤ m ∧ zs.length ≤ maxLen ∧ Cells .u32 w ao zs ∧ Nt.Canon zs ∧ Nt.val zs = n := by
  obtain ⟨xs, ⟨ao, cap, rfl, h1, h2, h3⟩, h4, h5, h6⟩ := h
  refine (trim_any ao cap xs w h1 h2 h3 h4).mono ?_
  rintro e w' ⟨rfl, k, hk, rfl, hc, hv⟩
  have hl : (xs.take k).length = k := by rw [List.length_take, Nat.min_eq_left hk]
  exact ⟨rfl, ao, xs.take k, by rw [hl], by omega, by omega, h3.take hk, hc, hv.trans h5⟩
theorem trim_row {w : World} {B g : Nat} {zs : List Int} {cap : Nat} (hr : Row .u32 70 w g zs) (hB : B ≤ g) (hc : zs.length ≤ cap) (hm : cap ≤ maxLen) (ho : Nt.Ok zs) :
    Calls Tryz.prog 129 #[.slice (some ⟨g, 0, none⟩) zs.length cap] w fun e w' => w' = w ∧ ∃ v, e = .returned v ∧ Num B w v (Nt.val zs) zs.length := by
  refine (trim_any (some ⟨g, 0, none⟩) cap zs w hc hm (fun _ => ⟨g, 0, rfl, hr.lt, fun i hi => by rw [Nat.zero_add]; exact hr.cell hi⟩) ho).mono ?_
  rintro e w' ⟨rfl, k, hk, rfl, hcn, hv⟩
  exact ⟨rfl, _, rfl, _, hr.made hB hk (by omega), hcn, hv, by rw [List.length_take]; omega⟩
set_option maxHeartbeats 1000000 in
theorem same_any {w : World} {va vb : Value} {xs ys : List Int} (ha : Reads .u32 w va xs) (hb : Reads .u32 w vb ys) :
    Calls Tryz.prog 101 #[va, vb] w fun e w' => e = .returned (.bool (decide (xs = ys))) ∧ Below w.heap.size w w' := by
  obtain ⟨ao, ca, rfl, hxl, hxm, hxc⟩ := ha
  obtain ⟨bo, cb, rfl, hyl, hym, hyc⟩ := hb
  unfold maxLen at hxm hym
  by_cases hl : xs.length = ys.length
  · have hl1 : ((xs.length : Int) != (ys.length : Int)) = false := by simp [hl]
    have Hl : Hid (xs.length = ys.length) := hl
    clear hl
    go_enter Tryz.func101, Tryz.ntmps101
    go_wp2
    go_loopw [5] (fun i wr => ∃ k : Nat, k ≤ xs.length ∧ i = .int .i64 k ∧ (∀ j, j < k → Nt.lb xs j = Nt.lb ys j) ∧ Below w.heap.size w wr) (fun i _ => xs.length - (intOf i).toNat)
    case atStart => exact ⟨0, Nat.zero_le _, rfl, fun j hj => by omega, Below.refl _ _⟩
    case round =>
      obtain ⟨k, hk, rfl, hsame, hbr⟩ := hrel
      by_cases hlt : k < xs.length
      · have hlt2 : k < ys.length := by have := Hl.out; omega
        obtain ⟨b1, o1, rfl, _, hc1⟩ := (hxc.below hbr) (by omega)
        obtain ⟨b2, o2, rfl, _, hc2⟩ := (hyc.below hbr) (by omega)
        have g1 := hc1 k hlt
        have g2 := hc2 k hlt2
        clear hc1 hc2 hxc hyc
        have HS : Hid (∀ j, j < k → Nt.lb xs j = Nt.lb ys j) := hsame
        clear hsame
        by_cases hq : Nt.lb xs k = Nt.lb ys k
        · have hq' : (Nt.lb xs k != Nt.lb ys k) = false := by simp [hq]
          have Hq : Hid (Nt.lb xs k = Nt.lb ys k) := hq
          clear hq
          go_wp2
          go_region
          all_goals go_wp2
          all_goals go_roundw
          all_goals first
            | exact ⟨k + 1, by omega, by go_num, fun j hj => by
                by_cases e : j = k
                · subst e; exact Hq.out
                · exact HS.out j (by omega), by repeat (first | exact hbr | apply Below.drew)⟩
            | (simp [intOf]; omega)
        · have hq' : (Nt.lb xs k != Nt.lb ys k) = true := by simp [hq]
          have Hq : Hid (¬ Nt.lb xs k = Nt.lb ys k) := hq
          clear hq
          go_wp2
          go_region
          all_goals go_wp2
          all_goals go_ret
          all_goals
            refine ⟨?_, by repeat (first | exact hbr | apply Below.drew)⟩
            rw [decide_eq_false (fun e => Hq.out (by rw [e]))]
            rfl
      · have hke : k = xs.length := by omega
        subst hke
        go_wp2
        go_ret
        refine ⟨?_, hbr⟩
        rw [decide_eq_true (Nt.ext_lb Hl.out hsame)]
        rfl
  · have hl1 : ((xs.length : Int) != (ys.length : Int)) = true := by simp; omega
    have Hl : Hid (¬ xs.length = ys.length) := hl
    clear hl
    go_enter Tryz.func101, Tryz.ntmps101
    go_wp2
    go_ret
    refine ⟨?_, Below.refl _ _⟩
    rw [decide_eq_false (fun e => Hl.out (by rw [e]))]
    rfl
def Twin (B : Nat) (w : World) (v : Value) (xs : List Int) : Prop := ∃ g, v = .slice (some ⟨g, 0, none⟩) xs.length (xs.length + 1) ∧ B ≤ g ∧ xs.length + 1 ≤ maxLen ∧ Row .u32 70 w g (xs ++ [2148261425])
end Go.Proofs.YticmlelalbaalaaGreatDoor
namespace Go.Proofs.YticmlelalbaalaaGreatDoor
open Go.RowKit
set_option linter.unusedVariables false
section
variable {P : Program} (w : World)
theorem urun_append_none (base : Nat) (t ty e : TypeId) (i : TypeInfo) (size : Nat) (ht : P.underlying t = some (.slice e)) (hi : P.info? e = some i)
    (v : Value) (n c : Nat) (xs : List Value) (hown : w.ownsRow base e size v n xs) :
    (Builtin.append_ #[t, t] ty #[v, .slice none 0 c]).run P w = .ok v w := by
  rcases hown.2 with ⟨rfl, rfl⟩ | ⟨g, cap, cur, rfl, _, _, hnc, _⟩
  · simp [Builtin.append_, run_underlying ht, sizeOf, typeInfo, hi, Builtin.lenOf, Builtin.firstCells]
  · simp [Builtin.append_, run_underlying ht, sizeOf, typeInfo, hi, Builtin.lenOf, Builtin.firstCells, hnc, storeCells]
theorem urun_append_ints (base : Nat) (t ty e : TypeId) (kd : IntKind) (bytes : Nat) (ht : P.underlying t = some (.slice e)) (hinf : (P.info? e).map (fun i => (i.zero, i.size, i.bytes)) = some (some (.int kd 0), 1, bytes))
    (v : Value) (n : Nat) (xs : List Int) (hown : w.ownsRow base e 1 v n (xs.map (Value.int kd))) (ao : Option Addr) (c : Nat) (ys : List Int) (hc : Cells kd w ao ys)
    (h63 : n + ys.length ≤ maxLen) (hbytes : (n + ys.length) * bytes ≤ 140737488355328) (hbase : base ≤ w.heap.size) :
    ∃ v' w', (Builtin.append_ #[t, t] ty #[v, .slice ao ys.length c]).run P w = .ok v' w' ∧ w'.ownsRow base e 1 v' (n + ys.length) ((xs ++ ys).map (Value.int kd)) ∧ w.grownBy w' v.ownBlock := by
  obtain ⟨i, hi, hz, hsz, hby⟩ := info_parts hinf
  cases ao with
  | none =>
    have h0 : ys = [] := by
      rcases Nat.eq_zero_or_pos ys.length with h0 | h0
      · exact List.eq_nil_of_length_eq_zero h0
      · obtain ⟨b, off, he, _⟩ := hc h0; cases he
    subst h0
    exact ⟨v, w, urun_append_none (P := P) w base t ty e i 1 ht hi v n c _ hown, by simpa using hown, ⟨rfl, rfl, rfl, Nat.le_refl _, fun _ _ _ => rfl⟩⟩
  | some ad =>
    have hone : ∀ u ∈ ys.map (Value.int kd), u.oneCell' = true := fun u hu => by
      obtain ⟨x, _, rfl⟩ := List.mem_map.1 hu; rfl
    obtain ⟨v', w', r1, r2, r3, _⟩ := run_append_own (P := P) w base t ty e i (.int kd 0) 1 bytes ht hi hz hsz hby rfl (by decide) v n _ hown ad ys.length c (ys.map (Value.int kd)) (by simp) (fun j u hu => by
      have hj : j < ys.length := by have := (List.getElem?_eq_some_iff.1 hu).1; simpa using this
      obtain ⟨b, off, he, _, hcell⟩ := hc (by omega)
      cases he
      rw [Addr.add_lit, hcell j hj]
      simp [hj] at hu
      rw [← hu]; simp [Nt.lb, hj]) hone h63 hbytes hbase
    exact ⟨v', w', r1, by simpa using r2, r3⟩
end
end Go.Proofs.YticmlelalbaalaaGreatDoor
namespace Go.Proofs.YticmlelalbaalaaGreatDoor
open Go.RowKit
section
variable {P : Program} (w : World)
end
section
variable {P : Program} (w : World)
theorem run_append_none (base : Nat) (t ty e : TypeId) (i : TypeInfo) (size : Nat) (ht : P.underlying t = some (.slice e)) (hi : P.info? e = some i)
    (v : Value) (n c : Nat) (xs : List Value) (hown : w.ownsRow base e size v n xs) :
    (Builtin.append_ #[t, t] ty #[v, .slice none 0 c]).run P w = .ok v w := by
  rcases hown.2 with ⟨rfl, rfl⟩ | ⟨g, cap, cur, rfl, _, _, hnc, _⟩
  · simp [Builtin.append_, run_underlying ht, sizeOf, typeInfo, hi, Builtin.lenOf, Builtin.firstCells]
  · simp [Builtin.append_, run_underlying ht, sizeOf, typeInfo, hi, Builtin.lenOf, Builtin.firstCells, hnc, storeCells]
theorem wpList_append_cells {ops : Array Oper} {rest : List Oper} {o : Oper} {a : Act} {Q : Exit → Act → World → Prop} (hgd : o.guard = none) (s x : Operand) (t : TypeId)
    (ho : o.op = .call { callee := .builtin .append, args := #[s, x], argTypes := #[t, t] })
    (base : Nat) (e : TypeId) (kd : IntKind) (bytes : Nat) (ht : P.underlying t = some (.slice e)) (hinf : (P.info? e).map (fun i => (i.zero, i.size, i.bytes)) = some (some (.int kd 0), 1, bytes))
    (v : Value) (n : Nat) (xs : List Int) (hs : a.eval s = v) (hown : w.ownsRow base e 1 v n (xs.map (Value.int kd))) (ao : Option Addr) (c : Nat) (ys : List Int) (hx : a.eval x = .slice ao ys.length c) (hc : Cells kd w ao ys)
    (h63 : n + ys.length ≤ maxLen) (hbytes : (n + ys.length) * bytes ≤ 140737488355328) (hbase : base ≤ w.heap.size)
    (h : ∀ v' w', w'.ownsRow base e 1 v' (n + ys.length) ((xs ++ ys).map (Value.int kd)) → w.grownBy w' v.ownBlock → wpList P ops Q rest (a.put o.dst v') w') : wpList P ops Q (o :: rest) a w := by
  obtain ⟨i, hi, hz, hsz, hby⟩ := info_parts hinf
  cases ao with
  | none =>
    have h0 : ys = [] := by
      rcases Nat.eq_zero_or_pos ys.length with h0 | h0
      · exact List.eq_nil_of_length_eq_zero h0
      · obtain ⟨b, off, he, _⟩ := hc h0; cases he
    subst h0
    refine wpList_plain hgd fun K hK => ?_
    have hr := run_append_none (P := P) w base t o.type e i 1 ht hi v n c _ hown
    simp only [List.length_nil] at hx
    unfold Oper.wp execOp
    simp only [ho, resolve, invoke, builtin, Sem.run_bind, Sem.run_pure, Result.andThen_ok, List.map_toArray, List.map_cons, List.map_nil, hs, hx, hr]
    exact hK _ _ (h v w (by simpa using hown) ⟨rfl, rfl, rfl, Nat.le_refl _, fun _ _ _ => rfl⟩)
  | some ad =>
    refine wpList_append_own w hgd s x t ho base e i (.int kd 0) 1 bytes ht hi hz hsz hby rfl (by decide) v n _ hs hown ad ys.length c (ys.map (Value.int kd)) hx (by simp) ?_ (ints_oneCell _ _) h63 hbytes hbase ?_
    · intro j u hu
      have hj : j < ys.length := by have := (List.getElem?_eq_some_iff.1 hu).1; simpa using this
      obtain ⟨b, off, he, _, hcell⟩ := hc (by omega)
      cases he
      rw [Addr.add_lit, hcell j hj]
      simp [hj] at hu
      rw [← hu]; simp [Nt.lb, hj]
    · intro v' w' h1 h2 _
      exact h v' w' (by simpa using h1) h2
end
theorem reads_of_owns {w : World} {base : Nat} {e : TypeId} {k : IntKind} {v : Value} {n : Nat} {zs : List Int} (h : w.ownsRow base e 1 v n (zs.map (Value.int k))) : Reads k w v zs := by
  obtain ⟨h1, h2⟩ := h
  have hl : zs.length = n := by simpa using h1
  subst hl
  rcases h2 with ⟨rfl, h0⟩ | ⟨g, cap, cur, rfl, _, hg, hnc, hcm, _, htake⟩
  · refine ⟨none, 0, by rw [h0], by omega, by unfold maxLen; omega, fun hp => by omega⟩
  · refine ⟨some ⟨g, 0, none⟩, cap, rfl, hnc, hcm, fun _ => ⟨g, 0, rfl, (Array.getElem?_eq_some_iff.1 hg).1, fun i hi => ?_⟩⟩
    rw [Nat.zero_add, cell_of_row w g i cur e (0, 0) hg]
    have : (cur.toList.take (zs.length * 1))[i]? = (zs.map (Value.int k))[i]? := by rw [htake]
    rw [List.getElem?_take, if_pos (by omega)] at this
    simp only [Array.getElem?_toList] at this
    rw [this]
    simp [Nt.lb, hi]
end Go.Proofs.YticmlelalbaalaaGreatDoor
namespace Go.Proofs.YticmlelalbaalaaGreatDoor
open Go.RowKit
def lenOfV : Value → Nat | .slice _ n _ => n | _ => 0
def BArg (w : World) (v : Value) (n : Int) (k : Nat) : Prop := ∃ zs, Reads .i64 w v zs ∧ Nb.Ok zs ∧ Nb.val zs = n ∧ zs.length ≤ k
def BNum (w : World) (v : Value) (n : Int) (k : Nat) : Prop := ∃ zs, Reads .i64 w v zs ∧ Nb.Canon zs ∧ Nb.val zs = n ∧ zs.length ≤ k
theorem BNum.arg {w : World} {v : Value} {n : Int} {k : Nat} (h : BNum w v n k) : BArg w v n k := by
  obtain ⟨zs, h1, h2, h3, h4⟩ := h
  exact ⟨zs, h1, h2.1, h3, h4⟩
set_option maxHeartbeats 1000000 in
theorem rtrim_any {w : World} {va : Value} {A : Int} {ka : Nat} (ha : BArg w va A ka) :
    Calls Tryz.prog 155 #[va] w fun e w' => w' = w ∧ ∃ v, e = .returned v ∧ BNum w v A ka := by
  obtain ⟨xs, ⟨ao, cap, rfl, hl, hm, hc⟩, ho, rfl, hka⟩ := ha
  unfold maxLen at hm
  obtain ⟨n, hn⟩ : ∃ n, n = xs.length := ⟨_, rfl⟩
  have Hn := hide hn
  rw [← hn] at hl hka ⊢
  clear hn
  go_enter Tryz.func155, Tryz.ntmps155
  go_wp2
  go_loop [0] (fun s => ∃ k : Nat, k ≤ n ∧ s = .slice ao k cap ∧ ∀ i, k ≤ i → i < n → Nt.lb xs i = 0) (fun s => lenOfV s)
  case atStart => exact ⟨n, Nat.le_refl _, rfl, fun i h1 h2 => by omega⟩
  case round =>
    obtain ⟨k, hk, rfl, hz⟩ := hrel
    have hfin : (0 < k → Nt.lb xs (k - 1) ≠ 0) → BNum w (.slice ao k cap) (Nb.val xs) ka := by
      intro h
      have hx : n = xs.length := Hn.out
      have hlt : (xs.take k).length = k := by rw [List.length_take]; omega
      refine ⟨xs.take k, ⟨ao, cap, by rw [hlt], by omega, by unfold maxLen; omega, hc.take (by omega)⟩, Nb.canon_take ho (by omega) h, ?_, by omega⟩
      rw [Nb.val_take (by omega), ← Nb.vt_cut (xs := xs) (by omega) (fun i h1 h2 => hz i h1 h2), hx]
      rfl
    have HF := hide hfin
    clear hfin
    by_cases hp : 0 < k
    · obtain ⟨b, off, rfl, hb, hcell⟩ := hc (by have := Hn.out; omega)
      have hg := hcell (k - 1) (by have := Hn.out; omega)
      clear hcell
      have hp' : (0 : Int) < (k : Int) := by omega
      have hc0 : ¬ cap = 0 := by omega
      by_cases hq : Nt.lb xs (k - 1) = 0
      · have hq' : (Nt.lb xs (k - 1) == 0) = true := by simp [hq]
        have Hq := hide hq
        clear hq
        go_wp2
        go_round
        case rel => exact ⟨k - 1, by omega, by simp, fun i h1 h2 => by
          by_cases e : i = k - 1
          · subst e; exact Hq.out
          · exact hz i (by omega) h2⟩
        case measure => simp [lenOfV]; omega
      · have hq' : (Nt.lb xs (k - 1) == 0) = false := by simp [hq]
        have Hq := hide hq
        clear hq
        go_wp2
        go_ret
        exact ⟨rfl, _, rfl, HF.out (fun _ => Hq.out)⟩
    · have hk0 : k = 0 := by omega
      subst hk0
      go_wp2
      go_ret
      exact ⟨rfl, _, rfl, HF.out (fun h => by omega)⟩
theorem cells_one (w : World) (E : TypeId) (k : IntKind) (x : Int) : Cells k (w.alloc (.cells #[.int k x] E)) (some ⟨w.heap.size, 0, none⟩) [x] := by
  intro _
  refine ⟨w.heap.size, 0, rfl, by simp, fun i hi => ?_⟩
  have hi0 : i = 0 := by simpa using hi
  subst hi0
  simp [Nt.lb]
theorem below_own {w0 w w' : World} {B : Nat} {E : TypeId} {v : Value} {n : Nat} {xs : List Value} (h : Below B w0 w) (hB : B ≤ w.heap.size) (ho : w.ownsRow B E 1 v n xs) (hg : w.grownBy w' v.ownBlock) : Below B w0 w' :=
  h.grown hg hB (fun k hk => (ho.lt k hk).1)
theorem byte_step {V x P : Int} : V + (x % 256) * P + (x / 256) * (256 * P) = V + x * P := by
  have e := Int.emod_add_mul_ediv x 256
  have e2 : (x % 256 + 256 * (x / 256)) * P = x * P := by rw [e]
  rw [Int.add_mul] at e2
  rw [← Int.mul_assoc, Int.mul_comm (x / 256) 256]
  omega
set_option maxHeartbeats 2000000 in
theorem bytes_any {w : World} {va : Value} {A : Int} {ka : Nat} (ha : Arg w va A ka) (hka : ka ≤ 1099511627776) :
    Calls Tryz.prog 125 #[va] w fun e w' => ∃ v, e = .returned v ∧ BNum w' v A (4 * ka) ∧ Below w.heap.size w w' := by
  obtain ⟨xs, ⟨ao, cap, rfl, hl, hm, hxc⟩, hx, rfl, hxk⟩ := ha
  obtain ⟨i0, hi, hz0, hz1, hz2⟩ := info_parts Tryz.infoI64
  go_enter Tryz.func125, Tryz.ntmps125
  go_wp2_with (at_make; refine wpList_make_own _ rfl _ _ 61 rfl w.heap.size 3 i0 (.int .i64 0) 1 Tryz.underlying61 hi hz0 hz1 _ _ _ (4 * xs.length) rfl rfl (by omega) ?b2 ?b3 (Nat.le_refl _) ?_)
  case b2 => rw [hz2]; omega
  case b3 => unfold maxLen; omega
  intro w0 hown0 hgrow0
  have hbel0 : Below w.heap.size w w0 := (Below.refl _ _).grown hgrow0 (Nat.le_refl _) (fun k h => by cases h)
  go_wp2
  go_loopw [3, 4] (fun out si wr => ∃ (i : Nat) (zs : List Int), i ≤ xs.length ∧ si = .int .i64 i ∧ zs.length = 4 * i ∧ Nb.Ok zs ∧ Nb.val zs = Nt.vt xs i ∧ wr.ownsRow w.heap.size 3 1 out zs.length (zs.map (Value.int .i64)) ∧ Below w.heap.size w wr)
    (fun _ si _ => xs.length - (intOf si).toNat)
  case atStart => exact ⟨0, [], by omega, rfl, rfl, Nb.ok_nil, rfl, hown0, hbel0⟩
  case round =>
    obtain ⟨i, zs, hil, rfl, hzl, hzo, hzv, hown, hbr⟩ := hrel
    clear hown0 hgrow0 hbel0
    by_cases hlt : i < xs.length
    · obtain ⟨b, off, rfl, hb, hcell⟩ := (hxc.below hbr) (by omega)
      have hg := hcell i hlt
      obtain ⟨bx0, bx1⟩ := hx i
      clear hcell
      have Hzv := hide hzv
      have Hzl := hide hzl
      clear hzv hzl
      go_wp2
      go_loopw [3, 5, 6] (fun out sx sk wq => ∃ (k : Nat) (x : Int) (ys : List Int), k ≤ 4 ∧ sk = .int .i64 k ∧ sx = .int .i64 x ∧ 0 ≤ x ∧ x < Nb.pw (4 - k) ∧ ys.length = 4 * i + k ∧ Nb.Ok ys ∧ Nb.val ys + x * Nb.pw (4 * i + k) = Nt.vt xs i + Nt.lb xs i * Nt.pw i ∧
          wq.ownsRow w.heap.size 3 1 out ys.length (ys.map (Value.int .i64)) ∧ Below w.heap.size w wq) (fun _ _ sk _ => 4 - (intOf sk).toNat)
      case atStart => exact ⟨0, Nt.lb xs i, zs, by omega, rfl, rfl, bx0, bx1, Hzl.out, hzo, by rw [Nat.add_zero, Nb.pw_four, Hzv.out], hown, hbr⟩
      case round =>
        obtain ⟨k, x, ys, hk, rfl, rfl, hx0, hx1, hyl, hyo, hyv, howq, hbq⟩ := hrel
        have Hx1 := hide hx1
        have Hyv := hide hyv
        have Hyl := hide hyl
        have hx2 : x < 4294967296 := by
          have h := Nb.pw_mono (m := 4 - k) (n := 4) (by omega)
          rw [show Nb.pw 4 = 4294967296 by decide] at h
          omega
        clear hown hx1 hyv hyl
        by_cases hkl : k < 4
        · have hsz := hbq.size
          have hlen : ys.length ≤ 4 * 1099511627776 := by have := Hyl.out; omega
          have hkl' : (k : Int) < 4 := by omega
          go_wp2_with (at_builtin; refine wpList_append_cells _ rfl _ _ 61 rfl w.heap.size 3 .i64 8 Tryz.underlying61 Tryz.infoI64 _ ys.length ys rfl (howq.alloc _) (some ⟨wr.heap.size, 0, none⟩) 1 [x % 256] rfl (cells_one _ _ _ _) (by unfold maxLen; simp; omega) (by simp; omega) (by simp; omega) ?_)
          intro v' w1 hown' hgrow
          have hb1 : Below w.heap.size w w1 := below_own (hbq.alloc hsz _) (by simp; omega) (howq.alloc _) hgrow
          have hst := byte_step (V := Nb.val ys) (x := x) (P := Nb.pw (4 * i + k))
          have Hst := hide hst
          have Hown' := hide hown'
          clear hown' hgrow howq hst
          go_wp2
          go_roundw
          case rel => exact ⟨k + 1, x / 256, ys ++ [x % 256], by omega, by go_num, rfl, by omega, by
            have h := Hx1.out
            rw [show 4 - k = (4 - (k + 1)) + 1 by omega, Nb.pw_succ] at h
            omega, by have := Hyl.out; simp; omega, Nb.ok_snoc hyo (by omega), by
            have h1 := Hyv.out
            have h2 := Hst.out
            rw [Nb.val_snoc, Hyl.out, ← Nat.add_assoc, Nb.pw_succ, h2, h1], by simpa using Hown'.out, hb1⟩
          case measure => simp [intOf]; omega
        · have hke : k = 4 := by omega
          subst hke
          go_wp2
          go_roundw
          case rel => exact ⟨i + 1, ys, by omega, by go_num, by have := Hyl.out; omega, hyo, by
            have h1 := Hyv.out
            have h2 := Hx1.out
            have h3 : x = 0 := by simp only [Nat.sub_self, Nb.pw] at h2; omega
            rw [h3, Int.zero_mul, Int.add_zero] at h1
            rw [h1]; rfl, howq, hbq⟩
          case measure => simp [intOf]; omega
    · have hke : i = xs.length := by omega
      subst hke
      go_wp2_with fail
      have hlen : zs.length ≤ 4 * ka := by omega
      refine (rtrim_any (ka := 4 * ka) ⟨zs, reads_of_owns hown, hzo, rfl, hlen⟩).mono ?_
      rintro e w2 ⟨rfl, v, rfl, hv⟩
      rw [hzv] at hv
      have Hv := hide hv
      clear hv hzv hzl
      go_wp2
      go_ret
      exact ⟨v, rfl, Hv.out, hbr⟩
theorem limbs_canon {ys zs : List Int} (hy : Nb.Canon ys) (hz : Nt.Ok zs) (hl : zs.length = (ys.length + 3) / 4) (hv : Nt.val zs = Nb.val ys) : Nt.Canon zs := by
  refine ⟨hz, fun hne h0 => ?_⟩
  obtain ⟨n, hn⟩ : ∃ n, zs.length = n + 1 := ⟨zs.length - 1, by have := List.length_pos_iff.2 hne; omega⟩
  have hye : ys ≠ [] := by intro e; subst e; rw [hn] at hl; simp at hl
  have h1 := Nb.canon_low hy hye
  have h2 : Nt.val zs = Nt.vt zs n := by
    unfold Nt.val
    rw [hn, Nt.vt_succ]
    rw [hn, Nat.add_sub_cancel] at h0
    rw [h0]; simp
  have h3 := (Nt.vt_bounds hz n).2
  have h4 := Nb.pw_mono (m := 4 * n) (n := ys.length - 1) (by omega)
  rw [Nb.pw_four] at h4
  omega
def LimbRel (ys zs : List Int) (m : Nat) : Prop :=
  Nb.val ys = Nb.vt ys m + (Nt.val zs - Nt.lb zs (m / 4) * Nt.pw (m / 4)) + Nt.lb zs (m / 4) * Nb.pw m ∧ Nt.lb zs (m / 4) < Nb.pw (4 - m % 4) ∧ ∀ j, j < m / 4 → Nt.lb zs j = 0
theorem limbRel_start (ys : List Int) : LimbRel ys (List.replicate ((ys.length + 3) / 4) 0) ys.length := by
  refine ⟨?_, ?_, fun j _ => Nt.lb_replicate _ _⟩
  · rw [Nt.lb_replicate]
    have e : Nt.val (List.replicate ((ys.length + 3) / 4) 0) = 0 := by
      unfold Nt.val; rw [Nt.vt_cut (k := 0) (by omega) (fun i _ _ => Nt.lb_replicate _ _)]; rfl
    rw [e]; simp [Nb.val]
  · rw [Nt.lb_replicate]; exact Nb.pw_pos _
theorem nt_val_set {zs : List Int} {i : Nat} (hi : i < zs.length) (q : Int) : Nt.val (zs.set i q) = Nt.val zs + (q - Nt.lb zs i) * Nt.pw i := by
  have : ∀ n, i < n → Nt.vt (zs.set i q) n = Nt.vt zs n + (q - Nt.lb zs i) * Nt.pw i := by
    intro n
    induction n with
    | zero => intro h; omega
    | succ n ih =>
      intro h
      rw [Nt.vt_succ, Nt.vt_succ]
      by_cases e : i = n
      · subst e; rw [Nt.vt_set (Nat.le_refl _), Nt.lb_set_eq hi, Int.sub_mul]; omega
      · rw [Nt.lb_set_ne e, ih (by omega)]; omega
  unfold Nt.val
  rw [List.length_set]
  exact this _ hi
theorem limbRel_low {ys zs : List Int} {p : Nat} (h : LimbRel ys zs (p + 1)) : Nt.lb zs (p / 4) < Nb.pw (3 - p % 4) ∧ Nt.lb zs (p / 4) < 16777216 := by
  obtain ⟨_, h2, h3⟩ := h
  have key : Nt.lb zs (p / 4) < Nb.pw (3 - p % 4) := by
    by_cases e : p % 4 = 3
    · rw [h3 (p / 4) (by omega), e]; exact Nb.pw_pos _
    · rw [show (p + 1) / 4 = p / 4 by omega, show 4 - (p + 1) % 4 = 3 - p % 4 by omega] at h2
      exact h2
  have hm := Nb.pw_mono (m := 3 - p % 4) (n := 3) (by omega)
  rw [show Nb.pw 3 = 16777216 by decide] at hm
  exact ⟨key, by omega⟩
theorem limbRel_step {ys zs : List Int} {p : Nat} (hp : p / 4 < zs.length) (hb : Nt.lb ys p < 256) (h : LimbRel ys zs (p + 1)) :
    LimbRel ys (zs.set (p / 4) (Nt.lb zs (p / 4) * 256 + Nt.lb ys p)) p := by
  have hlow := (limbRel_low h).1
  obtain ⟨h1, h2, h3⟩ := h
  refine ⟨?_, ?_, fun j hj => ?_⟩
  · rw [nt_val_set hp, Nt.lb_set_eq hp, h1, Nb.vt_succ, Nb.pw_succ]
    by_cases e : p % 4 = 3
    · have h0 := h3 (p / 4) (by omega)
      obtain ⟨q, hq⟩ : ∃ q, (p + 1) / 4 = q := ⟨_, rfl⟩
      have e4 : 256 * Nb.pw p = Nt.pw q := by rw [← Nb.pw_succ, ← Nb.pw_four]; congr 1; omega
      rw [hq, h0, e4]
      simp only [Int.zero_mul, Int.zero_add, Int.sub_zero]
      omega
    · rw [show (p + 1) / 4 = p / 4 by omega]
      have e5 : Nt.lb zs (p / 4) * (256 * Nb.pw p) = Nt.lb zs (p / 4) * 256 * Nb.pw p := by rw [Int.mul_assoc]
      rw [e5, Int.sub_mul, Int.add_mul, Int.add_mul]
      omega
  · rw [Nt.lb_set_eq hp, show 4 - p % 4 = (3 - p % 4) + 1 by omega, Nb.pw_succ]
    omega
  · rw [Nt.lb_set_ne (by omega)]
    exact h3 j (by omega)
set_option maxHeartbeats 2000000 in
theorem limbs_any {w : World} {va : Value} {A : Int} {ka : Nat} (ha : BArg w va A ka) (hka : ka ≤ 8796093022208) :
    Calls Tryz.prog 154 #[va] w fun e w' => ∃ v, e = .returned v ∧ Num w.heap.size w' v A ((ka + 3) / 4) ∧ Below w.heap.size w w' := by
  go_enter Tryz.func154, Tryz.ntmps154
  go_wp2_with fail
  refine (rtrim_any ha).mono ?_
  rintro e w' ⟨rfl, v, rfl, hv⟩
  obtain ⟨ys, ⟨ao, cap, rfl, hl, hm, hyc⟩, hy, rfl, hyk⟩ := hv
  clear ha
  go_wp2_with (at_make; refine wpList_make_row _ rfl _ _ 26 rfl 70 .u32 4 Tryz.underlying26 Tryz.infoU32 _ _ _ _ ((ys.length + 3) / 4) ((ys.length + 3) / 4) rfl rfl (by omega) (by omega) (Nat.le_refl _) (by omega) (by unfold maxLen; omega) ?_)
  intro w1 hr hbel hsz
  go_wp2
  go_loopw [4] (fun si wr => ∃ (m : Nat) (zs : List Int), m ≤ ys.length ∧ si = .int .i64 ((m : Int) - 1) ∧ zs.length = (ys.length + 3) / 4 ∧ Nt.Ok zs ∧ LimbRel ys zs m ∧ Row .u32 70 wr w'.heap.size zs ∧ Below w'.heap.size w' wr)
    (fun si _ => (intOf si + 1).toNat)
  case atStart => exact ⟨ys.length, List.replicate ((ys.length + 3) / 4) 0, by omega, rfl, by simp, Nt.ok_replicate _, limbRel_start ys, hr, hbel⟩
  case round =>
    obtain ⟨m, zs, hml, rfl, hzl, hzo, hrel, hrow, hbr⟩ := hrel
    have Hzl := hide hzl
    have HR := hide hrel
    clear hzl hrel hr hbel
    by_cases hm0 : m = 0
    · subst hm0
      go_wp2
      go_ret
      have hv : Nt.val zs = Nb.val ys := by
        have h := HR.out.1
        simp only [Nat.zero_div, Nb.vt, Nt.pw, Nb.pw] at h
        omega
      have hzl : zs.length = (ys.length + 3) / 4 := Hzl.out
      refine ⟨_, rfl, ⟨zs, ?_, limbs_canon hy hzo hzl hv, hv, by omega⟩, hbr⟩
      have := hrow.made (B := w'.heap.size) (Nat.le_refl _) (n := zs.length) (Nat.le_refl _) (by rw [hzl]; unfold maxLen; omega)
      rw [List.take_length] at this
      rw [hzl] at this
      exact this
    · obtain ⟨p, rfl⟩ : ∃ p, m = p + 1 := ⟨m - 1, by omega⟩
      obtain ⟨b1, o1, rfl, hb1, hc1⟩ := (hyc.below hbr) (by omega)
      have g1 := hc1 p (by omega)
      have hp4 : p / 4 < (ys.length + 3) / 4 := by omega
      have g2 := hrow.cell (i := p / 4) (by rw [Hzl.out]; exact hp4)
      have hfz := hrow.frozen (p / 4)
      obtain ⟨by0, by1⟩ := hy.1 p
      obtain ⟨bz0, bz1⟩ := hzo (p / 4)
      have bz2 := (limbRel_low HR.out).2
      have hpl : p < ys.length := by omega
      clear hc1
      go_wp2
      go_region
      all_goals go_wp2
      all_goals go_roundw
      all_goals first
        | exact ⟨p, zs.set (p / 4) (Nt.lb zs (p / 4) * 256 + Nt.lb ys p), by omega, rfl, by rw [List.length_set, Hzl.out], Nt.ok_set hzo (by omega), limbRel_step (by rw [Hzl.out]; exact hp4) by1 HR.out, hrow.set _ _, (hbr.setCell (p := ⟨w'.heap.size, p / 4, none⟩) (Nat.le_refl _) _).drew⟩
        | simp [intOf]
theorem num_since {B B' : Nat} {w : World} {v : Value} {n : Int} {k : Nat} (h : Num B w v n k) (hB : B' ≤ B) : Num B' w v n k := by
  obtain ⟨zs, ⟨ao, h1, h2, h3⟩, h4⟩ := h
  refine ⟨zs, ⟨ao, h1, h2, fun hp => ?_⟩, h4⟩
  obtain ⟨g, rest, a, b, c⟩ := h3 hp
  exact ⟨g, rest, a, by omega, c⟩
structure Only (g : Nat) (w w' : World) : Prop where
  os : w'.os = w.os
  tape : w'.tape = w.tape
  output : w'.output = w.output
  size : w.heap.size ≤ w'.heap.size
  block : ∀ k, k < w.heap.size → k ≠ g → w'.heap[k]? = w.heap[k]?
end Go.Proofs.YticmlelalbaalaaGreatDoor
