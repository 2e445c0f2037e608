/- Tn, QTl, QTn, QTg, QDg, QRd, QRe -/
import Derived.Test.YtgaldbfgmbaebaaDoorKit
import Derived.Test.YtgaldbfgmbaebaaDoorDigC
import Derived.Test.YtgaldbfgmbaebaaDoorRaise
import Derived.Test.YtgaldbfgmbaebaaDoorDiv
import Derived.Deep.LoopGhost
import Derived.Deep.RegionHeld3
import Derived.Deep.Cut
import Derived.Test.YtgaldbfgmbaebaaDoorPow
import Derived.Laws.AppendOwn
import Derived.Deep.AppendLies
import Derived.Test.YtgaldbfgmbaebaaDoorMul
import Derived.Test.YtgaldbfgmbaebaaDoorAdd
namespace Go.Proofs.YtgaldbfgmbaebaaDoor
open Go.RowKit
set_option linter.unusedVariables false

/-- 10 to a power -/
def tn (n : Nat) : Int := 10 ^ n
theorem tn_pos (n : Nat) : 0 < tn n := Int.pow_pos (by omega)
theorem tn_add (a b : Nat) : tn (a + b) = tn a * tn b := Int.pow_add 10 a b
theorem tn_succ (a : Nat) : tn (a + 1) = 10 * tn a := by unfold tn; rw [Int.pow_succ, Int.mul_comm]
theorem tn_zero : tn 0 = 1 := rfl
theorem tn_nat (n : Nat) : tn n = ((10 ^ n : Nat) : Int) := by unfold tn; simp
theorem tn_mono {a b : Nat} (h : a ≤ b) : tn a ≤ tn b := by
  obtain ⟨c, rfl⟩ : ∃ c, b = a + c := ⟨b - a, by omega⟩
  rw [tn_add]
  have h1 := tn_pos c
  have h2 := tn_pos a
  have := Int.mul_le_mul_of_nonneg_left (show (1 : Int) ≤ tn c by omega) (show 0 ≤ tn a by omega)
  omega

/-- the number that digits tell -/
def dgv : List Int → Int
  | [] => 0
  | a :: x => (a - 48) * tn x.length + dgv x
/-- digits alone -/
def Dg (es : List Int) : Prop := ∀ x ∈ es, 48 ≤ x ∧ x ≤ 57
/-- bytes -/
def Byt (es : List Int) : Prop := ∀ x ∈ es, 0 ≤ x ∧ x < 256
theorem Dg.byt {es : List Int} (h : Dg es) : Byt es := fun x hx => by have := h x hx; omega
theorem Dg.take {es : List Int} (h : Dg es) (n : Nat) : Dg (es.take n) := fun x hx => h x (List.mem_of_mem_take hx)
theorem Dg.drop {es : List Int} (h : Dg es) (n : Nat) : Dg (es.drop n) := fun x hx => h x (List.mem_of_mem_drop hx)
theorem Dg.append {es fs : List Int} (h : Dg es) (g : Dg fs) : Dg (es ++ fs) := fun x hx => by
  rcases List.mem_append.1 hx with k | k
  · exact h x k
  · exact g x k
theorem dg_append (xs ys : List Int) : dgv (xs ++ ys) = dgv xs * tn ys.length + dgv ys := by
  induction xs with
  | nil => simp [dgv]
  | cons a x ih =>
    rw [List.cons_append, dgv, ih, dgv, List.length_append, tn_add, Int.add_mul, ← Int.mul_assoc]
    omega
theorem dg_one (a : Int) : dgv [a] = a - 48 := by simp [dgv, tn_zero]
theorem dg_snoc (xs : List Int) (b : Int) : dgv (xs ++ [b]) = dgv xs * 10 + (b - 48) := by
  rw [dg_append, dg_one]; rfl
theorem dg_range {xs : List Int} (h : Dg xs) : 0 ≤ dgv xs ∧ dgv xs < tn xs.length := by
  induction xs with
  | nil => simp [dgv, tn_zero]
  | cons a x ih =>
    obtain ⟨i0, i1⟩ := ih (fun y hy => h y (List.mem_cons_of_mem _ hy))
    obtain ⟨a0, a1⟩ := h a List.mem_cons_self
    rw [dgv, List.length_cons, tn_succ]
    have p := tn_pos x.length
    have q0 : 0 ≤ (a - 48) * tn x.length := Int.mul_nonneg (by omega) (by omega)
    have q1 : (a - 48) * tn x.length ≤ 9 * tn x.length := Int.mul_le_mul_of_nonneg_right (by omega) (by omega)
    omega
theorem dg_lead {a : Int} {xs : List Int} (h : Dg (a :: xs)) (ha : a ≠ 48) : tn xs.length ≤ dgv (a :: xs) := by
  obtain ⟨i0, i1⟩ := dg_range (xs := xs) (fun y hy => h y (List.mem_cons_of_mem _ hy))
  obtain ⟨a0, a1⟩ := h a List.mem_cons_self
  have p := tn_pos xs.length
  have q1 : 1 * tn xs.length ≤ (a - 48) * tn xs.length := Int.mul_le_mul_of_nonneg_right (by omega) (by omega)
  rw [dgv]; omega
theorem dg_lead' {xs : List Int} (h : Dg xs) (hl : 0 < xs.length) (ha : Nt.lb xs 0 ≠ 48) : tn (xs.length - 1) ≤ dgv xs := by
  cases xs with
  | nil => simp at hl
  | cons a x => exact dg_lead h (by simpa [Nt.lb] using ha)
theorem dg_noughts (n : Nat) : dgv (List.replicate n 48) = 0 := by
  induction n with
  | zero => rfl
  | succ n ih => rw [List.replicate_succ, dgv, ih]; omega
theorem lb_get {es : List Int} {p : Nat} (h : p < es.length) : Nt.lb es p = es[p] := by simp [Nt.lb, h]
theorem lb_in {es : List Int} {p : Nat} (h : p < es.length) : Nt.lb es p ∈ es := by rw [lb_get h]; exact List.getElem_mem h
theorem dg_take {ds : List Int} {k : Nat} (h : k < ds.length) : dgv (ds.take (k + 1)) = dgv (ds.take k) * 10 + (Nt.lb ds k - 48) := by
  rw [List.take_add_one, List.getElem?_eq_getElem h, lb_get h]
  exact dg_snoc _ _
/-- a text's byte -/
theorem txt_at {es : List Int} {p : Nat} (h : p < (strOfNums es).size) (hb : Byt es) : (((strOfNums es)[p]'h).toNat : Int) = Nt.lb es p := by
  have hl : p < es.length := by rw [strOfNums_size] at h; exact h
  have e : (strOfNums es)[p]'h = UInt8.ofNat (es[p]).toNat := by
    show (strOfNums es).data[p]'h = _
    simp [strOfNums]
  have hp := hb _ (lb_in hl)
  rw [lb_get hl] at hp ⊢
  rw [e, UInt8.toNat_ofNat']
  omega
theorem txt_cut (es : List Int) (a b : Nat) : (strOfNums es).extract a b = strOfNums ((es.take b).drop a) := by
  apply Go.WideShapes.bytes_inj
  simp [strOfNums, List.map_take, List.map_drop]
  try rw [List.drop_take]
theorem txt_of (s : ByteArray) : ∃ es, Byt es ∧ es.length = s.size ∧ s = strOfNums es := by
  refine ⟨s.data.toList.map fun b => (b.toNat : Int), ?_, by simp, ?_⟩
  · intro x hx
    obtain ⟨b, _, rfl⟩ := List.mem_map.1 hx
    have := b.toNat_lt
    omega
  · apply Go.WideShapes.bytes_inj
    rw [strOfNums_data, List.map_map]
    have : (fun n : Int => UInt8.ofNat n.toNat) ∘ (fun b : UInt8 => (b.toNat : Int)) = id := by
      funext b; simp
    rw [this, List.map_id]
theorem txt_join (xs ys : List Int) : strOfNums xs ++ strOfNums ys = strOfNums (xs ++ ys) := by
  apply Go.WideShapes.bytes_inj
  simp [strOfNums]
theorem dg_all {es : List Int} (h : ∀ j, j < es.length → Nt.lb es j = 48) : es = List.replicate es.length 48 := by
  apply List.ext_getElem (by simp)
  intro i h1 h2
  rw [List.getElem_replicate, ← lb_get h1]
  exact h i h1
/-- the digits between the noughts at both ends -/
theorem dg_between {es : List Int} {f e : Nat} (he : e ≤ es.length) (hf : f ≤ e) (h0 : ∀ j, j < f → Nt.lb es j = 48) (h1 : ∀ j, e ≤ j → j < es.length → Nt.lb es j = 48) :
    dgv es = dgv ((es.take e).drop f) * tn (es.length - e) := by
  have a : es = es.take e ++ es.drop e := (List.take_append_drop e es).symm
  have b : es.take e = (es.take e).take f ++ (es.take e).drop f := (List.take_append_drop f _).symm
  have c : (es.take e).take f = List.replicate f 48 := by
    have := dg_all (es := (es.take e).take f) (fun j hj => by
      have hj' : j < f ∧ j < e := by rw [List.length_take, List.length_take] at hj; omega
      rw [lb_get hj, List.getElem_take, List.getElem_take, ← lb_get (by omega)]
      exact h0 j hj'.1)
    rw [this]; congr 1; rw [List.length_take, List.length_take]; omega
  have d : es.drop e = List.replicate (es.length - e) 48 := by
    have := dg_all (es := es.drop e) (fun j hj => by
      have hj' : e + j < es.length := by rw [List.length_drop] at hj; omega
      rw [lb_get hj, List.getElem_drop, ← lb_get (by omega)]
      exact h1 _ (by omega) hj')
    rw [this]; congr 1; rw [List.length_drop]
  have g1 : dgv (es.take e) = dgv ((es.take e).drop f) := by
    have k := congrArg dgv b
    rw [dg_append, c, dg_noughts, Int.zero_mul, Int.zero_add] at k
    exact k
  have k := congrArg dgv a
  rw [dg_append, g1, d, dg_noughts, List.length_replicate, Int.add_zero] at k
  exact k

end Go.Proofs.YtgaldbfgmbaebaaDoor

namespace Go.Proofs.YtgaldbfgmbaebaaDoor
open Go.RowKit
set_option linter.unusedVariables false

theorem ret_int0 {k : IntKind} {x y : Int} (h : x = y) : Ending.returned (.int k x) = .returned (.int k y) := by rw [h]
theorem all_dg0 {es : List Int} (h : ∀ j, j < es.length → 48 ≤ Nt.lb es j ∧ Nt.lb es j ≤ 57) : Dg es := by
  intro x hx
  obtain ⟨i, hi, rfl⟩ := List.getElem_of_mem hx
  have := h i hi
  rw [lb_get hi] at this
  exact this
theorem lb_drop0 (es : List Int) (i j : Nat) : Nt.lb (es.drop i) j = Nt.lb es (i + j) := by simp [Nt.lb, List.getD_eq_getElem?_getD, List.getElem?_drop]
/-- what a text's bytes are -/
theorem txt_ix {es : List Int} {s : ByteArray} (hs : s = strOfNums es) (hd : Dg es) : ∀ p (h : p < s.size), ((s[p]'h).toNat : Int) = Nt.lb es p ∧ 48 ≤ Nt.lb es p ∧ Nt.lb es p ≤ 57 := by
  intro p h
  subst hs
  have hp : p < es.length := by rw [strOfNums_size] at h; exact h
  exact ⟨txt_at h hd.byt, hd _ (lb_in hp)⟩

theorem txt_full {s : ByteArray} (h : 0 < s.size) : s.toList.isEmpty = false := by
  rw [ByteArray.toList_eq]
  cases hl : s.data.toList with
  | nil =>
    exfalso
    have h1 : s.data.size = 0 := by rw [← Array.length_toList, hl]; rfl
    have h2 : s.size = s.data.size := rfl
    omega
  | cons _ _ => rfl


/-- what the function that takes digits off keeps: V is left -/
def Low (w : World) (kk gc ga gg : Nat) (V : Int) : Prop := ∃ (A g : Int) (c : Nat) (va : Value),
  w.cell? ⟨gc, 0, none⟩ = some (.int .i64 c) ∧ w.cell? ⟨ga, 0, none⟩ = some va ∧ w.cell? ⟨gg, 0, none⟩ = some (.int .u32 g) ∧ Arg w va A kk ∧ (∀ b off l cap, va = .slice (some ⟨b, off, none⟩) l cap → 0 < l → b ≠ gc ∧ b ≠ ga ∧ b ≠ gg) ∧
  c ≤ 9 ∧ 0 ≤ g ∧ g < tn c ∧ V = A * tn c + g ∧ w.frozen? ⟨gc, 0, none⟩ = false ∧ w.frozen? ⟨ga, 0, none⟩ = false ∧ w.frozen? ⟨gg, 0, none⟩ = false ∧ gc < w.heap.size ∧ ga < w.heap.size ∧ gg < w.heap.size
theorem Arg.setCell {w : World} {v : Value} {n : Int} {k : Nat} {p : Addr} {u : Value} (h : Arg w v n k) (hne : ∀ b off l cap, v = .slice (some ⟨b, off, none⟩) l cap → 0 < l → b ≠ p.block) : Arg (w.setCell p u) v n k := by
  obtain ⟨zs, ⟨ao, cap, rfl, h1, h2, h3⟩, h4, h5, h6⟩ := h
  refine ⟨zs, ⟨ao, cap, rfl, h1, h2, fun hp => ?_⟩, h4, h5, h6⟩
  obtain ⟨b, off, rfl, hb, hc⟩ := h3 hp
  have hn := hne b off _ _ rfl hp
  refine ⟨b, off, rfl, by simpa [World.setCell] using hb, fun i hi => ?_⟩
  rw [World.cell?_setCell_other _ _ _ _ (by intro e; exact hn (congrArg Addr.block e).symm)]
  exact hc i hi
theorem setc_other {w : World} {a b : Nat} {u : Value} (h : a ≠ b) : (w.setCell ⟨a, 0, none⟩ u).cell? ⟨b, 0, none⟩ = w.cell? ⟨b, 0, none⟩ := World.cell?_setCell_other _ _ _ _ (by intro e; injection e with e _ _; exact h e)
theorem tn_9 : tn 9 = 1000000000 := by decide
theorem tn_8 : tn 8 = 100000000 := by decide
theorem low_math0 {A g V : Int} (h : V = A * tn 0 + g) (h0 : 0 ≤ g) (h1 : g < tn 0) (hA : 0 ≤ A) : V = A ∧ V % 10 = A % 1000000000 % 10 ∧ V / 10 = A / 1000000000 * tn 8 + A % 1000000000 / 10 := by
  rw [tn_zero] at h h1
  have e : V = A := by omega
  rw [e, tn_8]
  omega
theorem low_math {A g V : Int} {c : Nat} (h : V = A * tn (c + 1) + g) (h0 : 0 ≤ g) (h1 : g < tn (c + 1)) : V % 10 = g % 10 ∧ V / 10 = A * tn c + g / 10 ∧ g / 10 < tn c := by
  rw [tn_succ] at h h1
  have e : A * (10 * tn c) = 10 * (A * tn c) := by rw [Int.mul_left_comm]
  rw [e] at h
  omega

set_option maxRecDepth 20000 in
set_option maxHeartbeats 4000000 in
theorem low_next {w : World} {kk gc ga gg B : Nat} {V : Int} (h : Low w kk gc ga gg V) (hkk : kk ≤ 549755813888) (d1 : gc ≠ ga) (d2 : gc ≠ gg) (d3 : ga ≠ gg) (b1 : B ≤ gc) (b2 : B ≤ ga) (b3 : B ≤ gg) :
    Calls Tryd.prog 97 #[.pointer (some ⟨gc, 0, none⟩), .pointer (some ⟨ga, 0, none⟩), .pointer (some ⟨gg, 0, none⟩)] w fun e w' => e = .returned (.int .u8 (48 + V % 10)) ∧ Low w' kk gc ga gg (V / 10) ∧ Below B w w' := by
  obtain ⟨A, g, c, va, h1, h2, h3, ha, hne, hc9, g0, g1, hV, f1, f2, f3, s1, s2, s3⟩ := h
  have t1 : ¬ ga = gc := fun e => d1 e.symm
  have t2 : ¬ gg = gc := fun e => d2 e.symm
  have t3 : ¬ gg = ga := fun e => d3 e.symm
  have HA := hide ha
  have HN := hide hne
  have hA := ha.nonneg
  cases c with
  | zero =>
    obtain ⟨e1, e2, e3⟩ := low_math0 hV g0 g1 hA
    have hsm := small_yes (d := 1000000000) ha (by omega) (by omega) (by omega)
    have HE := hide (And.intro e2 e3)
    obtain ⟨zs0, ⟨ao, cap, rfl, _, _, _⟩, _⟩ := ha
    clear hV g0 g1 e1 e2 e3 hne
    go_enter Tryd.func97, Tryd.ntmps97
    go_wp2_with fail
    refine hsm.mono ?_
    clear hsm
    rintro e w1 ⟨v, rfl, hn, hb⟩
    have HV := hide hn
    have hne2 := hide (show ∀ b off l cap, v = .slice (some ⟨b, off, none⟩) l cap → 0 < l → w.heap.size ≤ b from fun b off l cap e hl => by
      obtain ⟨zs, ⟨vo, e1, _, e3⟩, _⟩ := hn
      rw [e] at e1
      injection e1 with e1 e4 _
      obtain ⟨g, rest, e5, e6, _⟩ := e3 (by omega)
      rw [← e1] at e5
      injection e5 with e5
      injection e5 with e5 _ _
      omega)
    obtain ⟨zs, ⟨vo, rfl, _, _⟩, _, _, _⟩ := hn
    have k1 := (hb.cell (p := ⟨gc, 0, none⟩) s1).trans h1
    have k2 := (hb.cell (p := ⟨ga, 0, none⟩) s2).trans h2
    have k3 := (hb.cell (p := ⟨gg, 0, none⟩) s3).trans h3
    have l1 := (hb.frozen (p := ⟨gc, 0, none⟩) s1).trans f1
    have l2 := (hb.frozen (p := ⟨ga, 0, none⟩) s2).trans f2
    have l3 := (hb.frozen (p := ⟨gg, 0, none⟩) s3).trans f3
    have m0 := Int.emod_nonneg A (b := 1000000000) (by omega)
    have m1 := Int.emod_lt_of_pos A (b := 1000000000) (by omega)
    go_wp2
    go_ret
    have z1 := hb.size
    refine ⟨ret_int0 (by rw [HE.out.1]; omega), ⟨A / 1000000000, A % 1000000000 / 10, 8, _, World.cell?_setCell_same _ _ _ (by rw [setc_other t2]; exact World.cell?_setCell_same _ _ _ (by rw [setc_other t2, setc_other t1]; exact k1)), by rw [setc_other d1, setc_other t3, setc_other d1, setc_other t3]; exact World.cell?_setCell_same _ _ _ k2, by rw [setc_other d2]; exact World.cell?_setCell_same _ _ _ (by rw [setc_other d2]; exact World.cell?_setCell_same _ _ _ (by rw [setc_other d3]; exact k3)), ?_, ?_, by omega, by omega, by rw [tn_8]; omega, HE.out.2, by go_simp, by go_simp, by go_simp, by simp [World.setCell]; omega, by simp [World.setCell]; omega, by simp [World.setCell]; omega⟩, ?_⟩
    · refine Arg.setCell (Arg.setCell (Arg.setCell (Arg.setCell (Arg.setCell HV.out.arg ?_) ?_) ?_) ?_) ?_ <;> (intro b off l cap e hl; have k := hne2.out b off l cap e hl; simp only; omega)
    · intro b off l cap e hl
      have k := hne2.out b off l cap e hl
      omega
    · exact (((((hb.mono (by omega)).setCell (p := ⟨ga, 0, none⟩) b2 _).setCell (p := ⟨gg, 0, none⟩) b3 _).setCell (p := ⟨gc, 0, none⟩) b1 _).setCell (p := ⟨gg, 0, none⟩) b3 _).setCell (p := ⟨gc, 0, none⟩) b1 _
  | succ c =>
    obtain ⟨e1, e2, e3⟩ := low_math hV g0 g1
    have HE := hide (And.intro e1 (And.intro e2 e3))
    have c1 : ((c : Int) + 1 == 0) = false := by simp; omega
    have g2 : g < 4294967296 := by have := tn_mono hc9; rw [tn_9] at this; omega
    clear hV g1 e1 e2 e3 hne
    go_enter Tryd.func97, Tryd.ntmps97
    go_wp2
    go_ret
    refine ⟨ret_int0 (by rw [HE.out.1]), ⟨A, g / 10, c, va, by go_simp, by go_simp, by go_simp, ?_, HN.out, by omega, by omega, HE.out.2.2, HE.out.2.1, by go_simp, by go_simp, by go_simp, by simp [World.setCell]; omega, by simp [World.setCell]; omega, by simp [World.setCell]; omega⟩, ?_⟩
    · refine Arg.setCell (Arg.setCell HA.out ?_) ?_ <;> (intro b off l cap e hl; have k := HN.out b off l cap e hl; simp only; omega)
    · exact ((Below.refl _ _).setCell (p := ⟨gg, 0, none⟩) b3 _).setCell (p := ⟨gc, 0, none⟩) b1 _

theorem arg_not_row {w : World} {v : Value} {n : Int} {k gt : Nat} {ys : List Int} (h : Arg w v n k) (hr : Row .u8 5 w gt ys) : ∀ b off l cap, v = .slice (some ⟨b, off, none⟩) l cap → 0 < l → b ≠ gt := by
  intro b off l cap e hl hb
  obtain ⟨zs, ⟨ao, c, e1, _, _, hc⟩, _⟩ := h
  rw [e] at e1
  injection e1 with e1 e2 _
  obtain ⟨b', o', e3, _, hcell⟩ := hc (by omega)
  rw [e3] at e1
  injection e1 with e1
  injection e1 with e1 e4 _
  have c0 := hcell 0 (by omega)
  rw [← e1, ← e4, hb, cell_of_row w gt _ _ _ _ hr] at c0
  simp at c0
theorem Low.store {w : World} {kk gc ga gg gt j : Nat} {V : Int} {ys : List Int} {u : Value} (h : Low w kk gc ga gg V) (hr : Row .u8 5 w gt ys) (n1 : gt ≠ gc) (n2 : gt ≠ ga) (n3 : gt ≠ gg) : Low (w.setCell ⟨gt, j, none⟩ u) kk gc ga gg V := by
  obtain ⟨A, g, c, va, h1, h2, h3, ha, hne, hc9, g0, g1, hV, f1, f2, f3, s1, s2, s3⟩ := h
  have ot : ∀ {b : Nat}, gt ≠ b → (w.setCell ⟨gt, j, none⟩ u).cell? ⟨b, 0, none⟩ = w.cell? ⟨b, 0, none⟩ := fun {b} hb => World.cell?_setCell_other _ _ _ _ (by intro e; injection e with e _ _; exact hb e)
  exact ⟨A, g, c, va, by rw [ot n1]; exact h1, by rw [ot n2]; exact h2, by rw [ot n3]; exact h3, ha.setCell (fun b off l cap e hl => arg_not_row ha hr b off l cap e hl), hne, hc9, g0, g1, hV, by simpa using f1, by simpa using f2, by simpa using f3, by simpa [World.setCell] using s1, by simpa [World.setCell] using s2, by simpa [World.setCell] using s3⟩
/-- n digits of V, from off on -/
def Put (zs : List Int) (off n : Nat) (V : Int) (ys : List Int) : Prop := ys.length = zs.length ∧ (∀ i, i < n → Nt.lb ys (off + i) = 48 + V / tn (n - 1 - i) % 10) ∧ (∀ i, i < off ∨ off + n ≤ i → Nt.lb ys i = Nt.lb zs i)
theorem Row.at {w : World} {g : Nat} {zs : List Int} (h : Row .u8 5 w g zs) {i : Nat} (hi : i < zs.length) : w.cell? ⟨g, i, none⟩ = some (.int .u8 (Nt.lb zs i)) := h.cell hi
theorem div_tn (V : Int) (k : Nat) : V / tn k / 10 = V / tn (k + 1) := by rw [tn_succ, Int.mul_comm, Int.ediv_ediv_of_nonneg (Int.le_of_lt (tn_pos k))]

set_option maxRecDepth 20000 in
set_option maxHeartbeats 8000000 in
theorem tell_leaf {w : World} {gt off n cap kk : Nat} {zs : List Int} {va : Value} {V : Int} {po : Option Addr} {pc : Nat} (hr : Row .u8 5 w gt zs) (hn : off + n ≤ zs.length) (hm : zs.length ≤ 1099511627776) (ha : Arg w va V kk) (hkk : kk ≤ 549755813888) :
    Calls Tryd.prog 38 #[.slice (some ⟨gt, off, none⟩) n cap, va, .slice po 0 pc] w fun e w' => e = .returned (.tuple #[]) ∧ (∃ ys, Row .u8 5 w' gt ys ∧ Put zs off n V ys) ∧ Below gt w w' ∧ (∀ b, b < w.heap.size → b ≠ gt → w'.heap[b]? = w.heap[b]?) := by
  have HA := hide ha
  have hV := ha.nonneg
  obtain ⟨zs0, ⟨ao, ac, rfl, _, _, hcl⟩, _⟩ := ha
  have hgt := hr.lt
  go_enter Tryd.func38, Tryd.ntmps38
  go_wp2_with fail
  refine lowest_any.mono ?_
  rintro e w1 ⟨rfl, h2, h3, h1, f2, f3, f1, hsz, hb⟩
  have HL : Low w1 kk (w.heap.size + 2) w.heap.size (w.heap.size + 1) V := ⟨V, 0, 0, _, h1, h2, h3, HA.out.below hb, fun b o l c e hl => by
    injection e with e1 e2 _
    obtain ⟨b', o', e3, e4, _⟩ := hcl (by omega)
    rw [e3] at e1
    injection e1 with e1
    injection e1 with e1 _ _
    omega, by omega, by omega, by decide, by rw [tn_zero]; omega, f1, f2, f3, by omega, by omega, by omega⟩
  have HH := hide HL
  have hr1 : Row .u8 5 w1 gt zs := hr.keeps hb
  have HB := hide hb
  clear h1 h2 h3 f1 f2 f3 HL hb
  go_wp2
  go_loopg [20] n (fun c iv wr => ∃ (i : Nat) (ys : List Int), i ≤ n ∧ c = n - i ∧ iv = .int .i64 i ∧ ys.length = zs.length ∧ (∀ j, j < i → Nt.lb ys (off + (n - 1 - j)) = 48 + V / tn j % 10) ∧ (∀ j, j < off + (n - i) ∨ off + n ≤ j → Nt.lb ys j = Nt.lb zs j) ∧ Row .u8 5 wr gt ys ∧ Low wr kk (w.heap.size + 2) w.heap.size (w.heap.size + 1) (V / tn i) ∧ Below gt w wr ∧ (∀ b, b < w.heap.size → b ≠ gt → wr.heap[b]? = w.heap[b]?))
  case atStart => exact ⟨0, zs, by omega, rfl, rfl, rfl, fun j hj => absurd hj (by omega), fun _ _ => rfl, hr1, by rw [tn_zero, Int.ediv_one]; exact HH.out, HB.out.mono (by omega), fun b hb _ => HB.out.block b hb⟩
  case round =>
    obtain ⟨i, ys, hi, hgi, rfl, hyl, hy1, hy2, hrow, hlow, hbr, hoth⟩ := hrel
    have HY := hide (And.intro hy1 (And.intro hy2 (And.intro hbr hoth)))
    clear hy1 hy2 hbr hoth hr1 HH HB hcl
    by_cases hin : i < n
    · have q4 : (i : Int) < (n : Int) := by omega
      have hnx := low_next (B := w.heap.size) hlow hkk (by omega) (by omega) (by omega) (by omega) (by omega) (by omega)
      have hsw : w.heap.size ≤ wr.heap.size := HY.out.2.2.1.size
      go_wp2_with fail
      with_reducible refine hnx.mono ?_
      clear hnx
      rintro e w3 ⟨rfl, hlow3, b3⟩
      obtain ⟨P, hP⟩ : ∃ P : Nat, P = n - 1 - i := ⟨_, rfl⟩
      have qi : (n : Int) - 1 - (i : Int) = (P : Int) := by omega
      have hP1 : off + P < ys.length := by omega
      have hrow3 : Row .u8 5 w3 gt ys := hrow.below b3 hgt
      have hc3 := hrow3.cell (i := off + P) hP1
      have hf3 := hrow3.frozen (off + P)
      have q5 : (0 : Int) ≤ (P : Int) ∧ (P : Int) < (n : Int) := by omega
      obtain ⟨d, hdd⟩ : ∃ d, 48 + V / tn i % 10 = d := ⟨_, rfl⟩
      have hrow4 := hrow3.set (off + P) d
      have hlow4 := hlow3.store (j := off + P) (u := .int .u8 d) hrow3 (by omega) (by omega) (by omega)
      rw [div_tn] at hlow4
      have b4 : Below gt w (w3.setCell ⟨gt, off + P, none⟩ (.int .u8 d)) := (HY.out.2.2.1.trans (b3.mono (by omega))).setCell (p := ⟨gt, off + P, none⟩) (Nat.le_refl _) _
      have ho4 : ∀ b, b < w.heap.size → b ≠ gt → (w3.setCell ⟨gt, off + P, none⟩ (.int .u8 d)).heap[b]? = w.heap[b]? := fun b hb hn => by
        rw [Below.heap_setCell _ _ _ _ (by show b ≠ gt; exact hn), b3.block b (by omega)]
        exact HY.out.2.2.2 b hb hn
      rw [hdd]
      have HF := hide (And.intro hrow4 (And.intro hlow4 (And.intro b4 ho4)))
      have HP := hide (And.intro hP hdd)
      clear hrow4 hlow4 b4 ho4 hP hdd hlow hlow3 b3
      go_wp2
      go_roundg (n - (i + 1))
      case measure => omega
      case rel =>
        refine ⟨i + 1, ys.set (off + P) d, by omega, rfl, by simp, by rw [List.length_set]; exact hyl, fun j hj => ?_, fun j hj => ?_, HF.out.1, HF.out.2.1, HF.out.2.2.1, HF.out.2.2.2⟩
        · rcases Nat.lt_or_ge j i with k | k
          · rw [Nt.lb_set_ne (by have := HP.out.1; omega)]; exact HY.out.1 j k
          · rw [show j = i by omega, show off + (n - 1 - i) = off + P by rw [HP.out.1], Nt.lb_set_eq hP1]; exact HP.out.2.symm
        · rw [Nt.lb_set_ne (by have := HP.out.1; omega)]; exact HY.out.2.1 j (by omega)
    · have hie : i = n := by omega
      subst hie
      go_wp2
      refine bodyPost_ret (results_none rfl _ _ _) rfl ?_
      refine ⟨rfl, ⟨ys, hrow, hyl, fun j hj => ?_, fun j hj => HY.out.2.1 j (by omega)⟩, HY.out.2.2.1, HY.out.2.2.2⟩
      have k := HY.out.1 (i - 1 - j) (by omega)
      rw [show i - 1 - (i - 1 - j) = j by omega] at k
      exact k

theorem put_dg {zs ys : List Int} {n : Nat} {V : Int} (hV : 0 ≤ V) (hl : zs.length = n) (hp : Put zs 0 n V ys) (h : V < tn n) : Dg ys ∧ dgv ys = V ∧ ys.length = n := by
  obtain ⟨h1, h2, _⟩ := hp
  have hyl : ys.length = n := by omega
  have hd : Dg ys := all_dg0 (fun j hj => by
    have k := h2 j (by omega)
    rw [Nat.zero_add] at k
    rw [k]
    have := Int.emod_nonneg (V / tn (n - 1 - j)) (b := 10) (by omega)
    have := Int.emod_lt_of_pos (V / tn (n - 1 - j)) (b := 10) (by omega)
    omega)
  have key : ∀ k, k ≤ n → dgv (ys.take k) = V / tn (n - k) := by
    intro k
    induction k with
    | zero =>
      intro _
      rw [List.take_zero, Nat.sub_zero, Int.ediv_eq_zero_of_lt hV h]; rfl
    | succ k ih =>
      intro hk
      rw [dg_take (by omega), ih (by omega)]
      have e := h2 k (by omega)
      rw [Nat.zero_add] at e
      rw [e, show n - k = (n - 1 - k) + 1 by omega, ← div_tn, show n - (k + 1) = n - 1 - k by omega]
      omega
  refine ⟨hd, ?_, hyl⟩
  have k := key n (Nat.le_refl _)
  rw [Nat.sub_self, tn_zero, Int.ediv_one, List.take_of_length_le (by omega)] at k
  exact k
theorem first_digit {es : List Int} (hd : Dg es) (hp : 0 < dgv es) : ∃ a, a < es.length ∧ Nt.lb es a ≠ 48 ∧ ∀ j, j < a → Nt.lb es j = 48 := by
  have aux : ∀ k, k ≤ es.length → (∀ j, j < k → Nt.lb es j = 48) ∨ ∃ a, a < k ∧ Nt.lb es a ≠ 48 ∧ ∀ j, j < a → Nt.lb es j = 48 := by
    intro k
    induction k with
    | zero => intro _; left; intro j hj; omega
    | succ k ih =>
      intro hk
      rcases ih (by omega) with h | ⟨a, h1, h2, h3⟩
      · by_cases c : Nt.lb es k = 48
        · left; intro j hj
          rcases Nat.lt_or_ge j k with q | q
          · exact h j q
          · rw [show j = k by omega]; exact c
        · right; exact ⟨k, by omega, c, h⟩
      · right; exact ⟨a, by omega, h2, h3⟩
  rcases aux es.length (Nat.le_refl _) with h | h
  · exfalso
    rw [dg_all h, dg_noughts] at hp
    omega
  · exact h


set_option maxRecDepth 20000 in
set_option maxHeartbeats 4000000 in
theorem trim48 {w : World} {es : List Int} {s : ByteArray} {N a : Nat} (hd : Dg es) (hs : s = strOfNums es) (hN : es.length = N) (hm : N ≤ 1099511627776) (ha : a < N) (h0 : Nt.lb es a ≠ 48) (hz : ∀ j, j < a → Nt.lb es j = 48) :
    Calls Tryd.prog 40 #[.string s, .string ⟨#[48]⟩] w fun e w' => e = .returned (.string (strOfNums (es.drop a))) ∧ w' = w := by
  have hb : Calls Tryd.prog 75 #[.string s, .int .u8 48] w fun e w' => e = .returned (.string (strOfNums (es.drop a))) ∧ w' = w := by
    have HD := hide (And.intro hd (And.intro hs (And.intro hN (And.intro h0 hz))))
    clear hd hs hN h0 hz
    go_enter Tryd.func75, Tryd.ntmps75
    go_wp2
    go_loopg [0] N (fun c sv wr => ∃ i : Nat, i ≤ a ∧ c = N - i ∧ sv = .string (strOfNums (es.drop i)) ∧ wr = w)
    case atStart => exact ⟨0, by omega, rfl, by rw [HD.out.2.1]; rfl, rfl⟩
    case round =>
      obtain ⟨i, hi, hgi, rfl, hw⟩ := hrel
      replace hw := hw.symm
      subst hw
      obtain ⟨t, ht⟩ : ∃ t, t = strOfNums (es.drop i) := ⟨_, rfl⟩
      obtain ⟨M, hM⟩ : ∃ M : Nat, M + i = N := ⟨N - i, by omega⟩
      have htz : t.size = M := by rw [ht, strOfNums_size, List.length_drop, HD.out.2.2.1]; omega
      have hp0 : 0 < t.size := by omega
      have hix := (txt_ix ht (HD.out.1.drop i) 0 hp0).1
      rw [lb_drop0, Nat.add_zero] at hix
      have HT := hide ht
      rw [← ht]
      clear ht
      have m0 : (0 : Int) < (M : Int) := by omega
      have HM := hide hM
      have hMl : M ≤ 1099511627776 := by omega
      have hgk : gk = M := by omega
      clear hM hgi
      by_cases c : i < a
      · have e := HD.out.2.2.2.2 i c
        rw [e] at hix
        have hx : t.extract 1 M = strOfNums (es.drop (i + 1)) := by
          rw [HT.out, txt_cut, List.take_of_length_le (by rw [List.length_drop, HD.out.2.2.1]; have := HM.out; omega), List.drop_drop]
        have hM1 : 1 ≤ M := by omega
        clear e
        go_wp2
        go_roundg (N - (i + 1))
        case measure => have := HM.out; omega
        case rel => exact ⟨i + 1, by omega, rfl, rfl, rfl⟩
      · have hia : i = a := by omega
        subst hia
        obtain ⟨d, hdd⟩ : ∃ d, Nt.lb es i = d := ⟨_, rfl⟩
        have h48 : (d == 48) = false := by simp; intro e; exact HD.out.2.2.2.1 (by rw [hdd, e])
        rw [hdd] at hix
        clear hdd
        go_wp2
        go_ret
        exact ⟨by rw [← HT.out]; rfl, rfl⟩
  have hne : s.toList.isEmpty = false := txt_full (by rw [hs, strOfNums_size, hN]; omega)
  clear hd hs hN h0 hz
  go_enter Tryd.func40, Tryd.ntmps40
  go_wp2_with fail
  refine hb.mono ?_
  clear hb
  rintro e w' ⟨rfl, rfl⟩
  go_wp2
  go_ret
  exact ⟨rfl, rfl⟩


end Go.Proofs.YtgaldbfgmbaebaaDoor

namespace Go.Proofs.YtgaldbfgmbaebaaDoor
open Go.RowKit
set_option linter.unusedVariables false

theorem tn_576 : tn 576 < Nt.pw 60 := by
  rw [← p2_32, p2_pow]
  unfold tn
  decide +kernel
theorem tn_sq (i : Nat) : tn (576 * 2 ^ (i + 1)) = tn (576 * 2 ^ i) * tn (576 * 2 ^ i) := by
  rw [← tn_add]
  congr 1
  rw [Nat.pow_succ]; omega
theorem pw_sq (i : Nat) : Nt.pw (60 * 2 ^ (i + 1)) = Nt.pw (60 * 2 ^ i) * Nt.pw (60 * 2 ^ i) := by
  rw [← Nt.pw_add]
  congr 1
  rw [Nat.pow_succ]; omega

/-- powers of ten, each the square of the one ahead of it -/
def TensAt (w : World) (g j : Nat) : Prop := g < w.heap.size ∧ ∀ i, i < j → ∃ pv, w.cell? ⟨g, i, none⟩ = some pv ∧ Arg w pv (tn (576 * 2 ^ i)) (60 * 2 ^ i)
theorem TensAt.less {w : World} {g j l : Nat} (h : TensAt w g j) (hl : l ≤ j) : TensAt w g l := ⟨h.1, fun i hi => h.2 i (by omega)⟩
theorem TensAt.below {w w' : World} {g j : Nat} (h : TensAt w g j) (hb : Below w.heap.size w w') : TensAt w' g j := by
  refine ⟨Nat.lt_of_lt_of_le h.1 hb.size, fun i hi => ?_⟩
  obtain ⟨pv, h1, h2⟩ := h.2 i hi
  exact ⟨pv, (hb.cell (p := ⟨g, i, none⟩) h.1).trans h1, h2.below hb⟩
/-- a list outside the block that is written stays -/
theorem Arg.other {w w' : World} {gt : Nat} {v : Value} {n : Int} {k : Nat} {zs : List Int} (h : Arg w v n k) (hr : Row .u8 5 w gt zs) (hs : w.heap.size ≤ w'.heap.size) (ho : ∀ b, b < w.heap.size → b ≠ gt → w'.heap[b]? = w.heap[b]?) : Arg w' v n k := by
  have a2 : ∀ b off l cap, v = .slice (some ⟨b, off, none⟩) l cap → 0 < l → b ≠ gt := arg_not_row h hr
  obtain ⟨z, ⟨ao, cap, rfl, z1, z2, z3⟩, z4, z5, z6⟩ := h
  refine ⟨z, ⟨ao, cap, rfl, z1, z2, fun hp => ?_⟩, z4, z5, z6⟩
  obtain ⟨b, off, rfl, hb, hc⟩ := z3 hp
  have hne := a2 b off _ _ rfl hp
  refine ⟨b, off, rfl, Nat.lt_of_lt_of_le hb hs, fun i hi => ?_⟩
  rw [World.cell?_of_block (ho b hb hne)]
  exact hc i hi
theorem TensAt.other {w w' : World} {g j gt : Nat} {zs : List Int} (h : TensAt w g j) (hr : Row .u8 5 w gt zs) (hs : w.heap.size ≤ w'.heap.size) (ho : ∀ b, b < w.heap.size → b ≠ gt → w'.heap[b]? = w.heap[b]?) (hg : g ≠ gt) : TensAt w' g j := by
  refine ⟨Nat.lt_of_lt_of_le h.1 hs, fun i hi => ?_⟩
  obtain ⟨pv, h1, h2⟩ := h.2 i hi
  exact ⟨pv, by rw [World.cell?_of_block (ho g h.1 hg)]; exact h1, h2.other hr hs ho⟩
theorem Tryd.infoNat : (Tryd.prog.info? 23).map (fun i => (i.zero, i.size, i.bytes)) = some (some (.slice none 0 0), 1, 24) := by kernel_rfl
/-- a list of lists grows: no list of limbs is touched -/
theorem Num.grown {B : Nat} {w w' : World} {v : Value} {n : Int} {k : Nat} {r : Option Nat} (h : Num B w v n k) (hg : w.grownBy w' r) (hr : ∀ b, r = some b → ∃ cs, w.heap[b]? = some (.cells cs 23 (0, 0))) : Num B w' v n k := by
  obtain ⟨zs, ⟨ao, rfl, h2, h3⟩, h4⟩ := h
  refine ⟨zs, ⟨ao, rfl, h2, fun hp => ?_⟩, h4⟩
  obtain ⟨g, rest, e, hB, hrow⟩ := h3 hp
  refine ⟨g, rest, e, hB, ?_⟩
  obtain ⟨_, _, _, _, hk⟩ := hg
  unfold Row
  rw [hk g hrow.lt ?_]
  · exact hrow
  · intro e
    obtain ⟨cs, hc⟩ := hr g e.symm
    unfold Row at hrow
    rw [hrow] at hc
    injection hc with hc
    injection hc with _ h5
    exact absurd h5 (by decide)
theorem owns_nat {w : World} {base : Nat} {v : Value} {n : Nat} {xs : List Value} (h : w.ownsRow base 23 1 v n xs) : ∀ b, v.ownBlock = some b → ∃ cs, w.heap[b]? = some (.cells cs 23 (0, 0)) := by
  intro b hb
  rcases h.2 with ⟨rfl, _⟩ | ⟨g, cap, cur, rfl, _, h1, _⟩
  · cases hb
  · cases hb
    exact ⟨_, h1⟩
theorem owns_below {w w' : World} {base : Nat} {e : TypeId} {z : Nat} {v : Value} {n : Nat} {xs : List Value} (h : w.ownsRow base e z v n xs) (hb : Below w.heap.size w w') : w'.ownsRow base e z v n xs := by
  refine h.kept (row := none) ⟨hb.os, hb.tape, hb.output, hb.size, fun k hk _ => hb.block k hk⟩ ?_
  by_cases e : v.ownBlock = none
  · exact .inl e
  · exact .inr e
theorem own_grew {w0 w w' : World} {B : Nat} {E : TypeId} {v : Value} {n : Nat} {xs : List Value} (h : Below B w0 w) (hB : B ≤ w.heap.size) (ho : w.ownsRow B E 1 v n xs) (hg : w.grownBy w' v.ownBlock) : Below B w0 w' :=
  h.grown hg hB (fun k hk => (ho.lt k hk).1)
/-- the powers so far -/
def Pws (B : Nat) (w : World) (ps : List Value) : Prop := ∀ i (h : i < ps.length), Num B w ps[i] (tn (576 * 2 ^ i)) (60 * 2 ^ i)

theorem two_lt {i n : Nat} (h : 576 * 2 ^ i < n) (hn : n ≤ 134217728) : i < 18 := by
  rcases Nat.lt_or_ge i 18 with c | c
  · exact c
  · have : 2 ^ 18 ≤ 2 ^ i := Nat.pow_le_pow_right (by omega) c
    omega

set_option maxRecDepth 100000 in
set_option maxHeartbeats 8000000 in
theorem tens_any {w : World} {n : Nat} (h : n ≤ 134217728) (h0 : 576 < n) :
    Calls Tryd.prog 39 #[.int .i64 n] w fun e w' => ∃ g j c, e = .returned (.slice (some ⟨g, 0, none⟩) j c) ∧ 1 ≤ j ∧ j ≤ 18 ∧ j ≤ c ∧ c ≤ maxLen ∧ n ≤ 576 * 2 ^ j ∧ TensAt w' g j ∧ w.heap.size ≤ g ∧ Below w.heap.size w w' := by
  have c1 : ¬ (n : Int) ≤ 576 := by omega
  obtain ⟨i0, hi, hz0, hz1, hz2⟩ := info_parts Tryd.infoNat
  go_enter Tryd.func39, Tryd.ntmps39
  go_wp2_with fail
  refine (pow_ok (b := 10) (N := 576) (k := 4) (by omega) (by omega) ⟨by decide, fun _ => by decide⟩ (by omega) (.inr (by omega))).mono ?_
  rintro e w1 ⟨v, rfl, hv, hb⟩
  have hp : Num w.heap.size w1 v (tn 576) 60 := hv.tight tn_576
  have HP := hide hp
  clear hv
  obtain ⟨zs, ⟨ao, rfl, -⟩, -⟩ := hp
  have hb2 : Below w.heap.size w (w1.alloc (.cells #[.slice ao zs.length zs.length] 23)) := below_trans hb (below_alloc w1 _)
  have hown : (w1.alloc (.cells #[.slice ao zs.length zs.length] 23)).ownsRow w.heap.size 23 1 (.slice (some ⟨w1.heap.size, 0, none⟩) 1 1) 1 [.slice ao zs.length zs.length] :=
    ⟨by simp, Or.inr ⟨w1.heap.size, 1, #[.slice ao zs.length zs.length], rfl, hb.size, heap_alloc_new _ _, Nat.le_refl _, by unfold maxLen; omega, by simp, by simp⟩⟩
  have HP2 := hide (HP.out.below (below_alloc w1 (.cells #[.slice ao zs.length zs.length] 23)))
  have HO := hide hown
  have HB := hide hb2
  clear hown hb2 hb
  go_wp2
  go_loopg [3, 5, 6] 30 (fun c sp sv si wr => ∃ (i Z : Nat) (ps : List Value), i + c = 30 ∧ 576 * 2 ^ i < n ∧ Z = 1152 * 2 ^ i ∧ si = .int .i64 (Z : Int) ∧ ps.length = i + 1 ∧ Num w.heap.size wr sp (tn (576 * 2 ^ i)) (60 * 2 ^ i) ∧ wr.ownsRow w.heap.size 23 1 sv (i + 1) ps ∧ Pws w.heap.size wr ps ∧ Below w.heap.size w wr)
  case atStart =>
    refine ⟨0, 1152, _, by omega, by omega, rfl, rfl, rfl, HP2.out, HO.out, ?_, HB.out⟩
    intro i hi
    have : i = 0 := by simpa using hi
    subst this
    exact HP2.out
  case round =>
    obtain ⟨i, Z, ps, hic, hin, hZ, rfl, hpl, hsp, hown, hps, hbr⟩ := hrel
    have hi18 := two_lt hin h
    have hK1 : 2 ^ i ≤ 131072 := by have : 2 ^ i ≤ 2 ^ 17 := Nat.pow_le_pow_right (by omega) (by omega); omega
    have hZb : Z ≤ 150994944 := by omega
    have HZ := hide (And.intro hZ hin)
    clear hin hZ
    by_cases hlt : Z < n
    · have hlt2 : (Z : Int) < (n : Int) := by omega
      have HSP := hide hsp
      obtain ⟨_, ⟨pa, hpe, _⟩, _⟩ := hsp
      subst hpe
      go_wp2_with fail
      with_reducible refine (mul_any HSP.out.arg HSP.out.arg (by omega) (by omega)).mono ?_
      rintro e w2 ⟨v2, rfl, hn2, hb2⟩
      have hsz2 : w.heap.size ≤ w2.heap.size := Nat.le_trans hbr.size hb2.size
      have hN2 : Num w.heap.size w2 v2 (tn (576 * 2 ^ (i + 1))) (60 * 2 ^ (i + 1)) := by
        rw [tn_sq]
        exact (hn2.low hbr.size).mono (by rw [Nat.pow_succ]; omega)
      have HN2 := hide hN2
      obtain ⟨w_1, ⟨pb, hpe, _⟩, _⟩ := hN2
      subst hpe
      have hown2 := (owns_below hown hb2).alloc (.cells #[.slice pb w_1.length w_1.length] 23)
      have hal := below_alloc w2 (.cells #[.slice pb w_1.length w_1.length] 23)
      have HX := hide (And.intro (HN2.out.below hal) (And.intro (fun k hk => ((hps k hk).below hb2).below hal) (below_trans (below_trans hbr hb2) hal)))
      have hnw := World.news_of_block (heap_alloc_new w2 (.cells #[.slice pb w_1.length w_1.length] 23))
      clear hps hbr hb2 hown hn2
      go_wp2_with (at_builtin; refine wpList_append_own _ rfl _ _ 60 rfl w.heap.size 23 i0 (.slice none 0 0) 1 24 Tryd.underlying60 hi hz0 hz1 hz2 rfl (by decide) _ (i + 1) ps rfl hown2 ⟨w2.heap.size, 0, none⟩ 1 1 [.slice pb w_1.length w_1.length] rfl rfl hnw (by simp [Value.oneCell']) (by unfold maxLen; omega) (by omega) (by simp; omega) ?_)
      intro v' w3 hown3 hgr _
      have hna := owns_nat hown2
      have hNg := hide (HX.out.1.grown hgr hna)
      have hPg : Hid (Pws w.heap.size w3 (ps ++ [.slice pb w_1.length w_1.length])) := hide (by
        intro k hk
        rcases Nat.lt_or_ge k ps.length with c | c
        · rw [List.getElem_append_left c]
          exact (HX.out.2.1 k c).grown hgr hna
        · have hk2 : k = i + 1 := by simp at hk; omega
          subst hk2
          rw [List.getElem_append_right c]
          simp only [hpl, Nat.sub_self, List.getElem_cons_zero]
          exact hNg.out)
      have hBg := hide (own_grew HX.out.2.2 (by simp; omega) hown2 hgr)
      have HO3 := hide hown3
      clear hown3 hgr hna hown2 hnw hal HX
      go_wp2
      go_roundg (29 - i)
      case measure => omega
      case rel => exact ⟨i + 1, Z * 2, _, by omega, by have := HZ.out.1; rw [Nat.pow_succ]; omega, by have := HZ.out.1; rw [Nat.pow_succ]; omega, by first | rfl | simp, by simp [hpl], hNg.out, HO3.out, hPg.out, hBg.out⟩
    · have hlt2 : ¬ (Z : Int) < (n : Int) := by omega
      obtain ⟨e0, h2⟩ := hown
      rcases h2 with ⟨_, h2⟩ | ⟨g, cap, cur, rfl, hg, hcur, hcap, hcm, hcs, htk⟩
      · omega
      · have hT : TensAt wr g (i + 1) := by
          refine ⟨(Array.getElem?_eq_some_iff.1 hcur).1, fun k hk => ?_⟩
          refine ⟨ps[k]'(by omega), ?_, (hps k (by omega)).arg⟩
          rw [cell_of_row wr g k _ _ _ hcur]
          have h3 : (cur.toList.take ((i + 1) * 1))[k]? = some (ps[k]'(by omega)) := by rw [htk]; exact List.getElem?_eq_getElem _
          rw [List.getElem?_take_of_lt (by omega)] at h3
          simpa using h3
        have HT := hide (And.intro hT (And.intro hg (And.intro hcap hbr)))
        have HCM := hide hcm
        clear hT hg hcur hcap hcm hcs htk hbr hps hsp
        go_wp2
        go_ret
        exact ⟨g, i + 1, cap, by first | rfl | simp, by omega, by omega, HT.out.2.2.1, HCM.out, by have := HZ.out.1; rw [Nat.pow_succ]; omega, HT.out.1, HT.out.2.1, HT.out.2.2.2⟩

end Go.Proofs.YtgaldbfgmbaebaaDoor

namespace Go.Proofs.YtgaldbfgmbaebaaDoor
open Go.RowKit
set_option linter.unusedVariables false

theorem pow_cast {H l : Nat} (h : H = 576 * 2 ^ l) : (576 * 2 ^ l : Int) = (H : Int) := by
  have e : ((576 * 2 ^ l : Nat) : Int) = ((576 : Nat) : Int) * ((2 ^ l : Nat) : Int) := Int.natCast_mul _ _
  have e2 : ((2 ^ l : Nat) : Int) = ((2 : Nat) : Int) ^ l := Int.natCast_pow _ _
  rw [h, e, e2]
  rfl
theorem shl_H {H l : Nat} (h : H = 576 * 2 ^ l) (hb : H ≤ 618475290624) : wrap64 (576 * 2 ^ l) = (H : Int) := by
  have e := pow_cast h
  rw [e]
  clear e h
  exact IntWalk.wrap64_in _ (by omega)
theorem put_split {zs ys xs : List Int} {off n at_ H : Nat} {V : Int} (hV : 0 ≤ V) (hn : at_ = n - H) (h1 : Put zs off at_ (V / tn H) ys) (h2 : Put ys (off + at_) (n - at_) (V % tn H) xs) : Put zs off n V xs := by
  obtain ⟨a1, a2, a3⟩ := h1
  obtain ⟨b1, b2, b3⟩ := h2
  refine ⟨by omega, fun i hi => ?_, fun i hi => ?_⟩
  · rcases Nat.lt_or_ge i at_ with c | c
    · rw [b3 (off + i) (by omega), a2 i c]
      congr 2
      rw [Int.ediv_ediv_of_nonneg (Int.le_of_lt (tn_pos _)), ← tn_add]
      congr 2
      omega
    · have k := b2 (i - at_) (by omega)
      rw [show off + at_ + (i - at_) = off + i by omega] at k
      rw [k]
      congr 1
      obtain ⟨j, hj⟩ : ∃ j, H = (n - 1 - i) + 1 + j := ⟨H - (n - 1 - i) - 1, by omega⟩
      rw [show n - at_ - 1 - (i - at_) = n - 1 - i by omega]
      have T := tn_pos (n - 1 - i)
      have e : tn H = tn (n - 1 - i) * (10 * tn j) := by rw [hj, tn_add, tn_add]; rw [show tn 1 = 10 from rfl, Int.mul_assoc]
      have d := Int.mul_ediv_add_emod V (tn H)
      have e2 : V = tn (n - 1 - i) * (10 * tn j * (V / tn H)) + V % tn H := by rw [← Int.mul_assoc, ← e]; exact d.symm
      have e3 : V / tn (n - 1 - i) = 10 * tn j * (V / tn H) + V % tn H / tn (n - 1 - i) := by
        have h : V / tn (n - 1 - i) = (tn (n - 1 - i) * (10 * tn j * (V / tn H)) + V % tn H) / tn (n - 1 - i) := congrArg (fun x => x / tn (n - 1 - i)) e2
        rw [Int.mul_add_ediv_left _ _ (by omega)] at h
        exact h
      rw [e3, Int.mul_assoc]
      omega
  · rw [b3 i (by omega), a3 i (by omega)]

set_option maxRecDepth 20000 in
set_option maxHeartbeats 8000000 in
theorem tell_any : ∀ (j : Nat) {w : World} {gt off n cap kk g c : Nat} {zs : List Int} {va : Value} {V : Int}, Row .u8 5 w gt zs → off + n ≤ zs.length → zs.length ≤ 134217728 → n ≤ cap → cap ≤ 134217728 → Arg w va V kk → kk ≤ 549755813888 → TensAt w g j → g ≠ gt → j ≤ 30 → j ≤ c → c ≤ maxLen →
    Calls Tryd.prog 38 #[.slice (some ⟨gt, off, none⟩) n cap, va, .slice (some ⟨g, 0, none⟩) j c] w fun e w' => e = .returned (.tuple #[]) ∧ (∃ ys, Row .u8 5 w' gt ys ∧ Put zs off n V ys) ∧ Below gt w w' ∧ (∀ b, b < w.heap.size → b ≠ gt → w'.heap[b]? = w.heap[b]?) := by
  intro j
  induction j with
  | zero =>
    intro w gt off n cap kk g c zs va V hr hn hm _ _ ha hkk _ _ _ _ _
    exact tell_leaf hr hn (by omega) ha hkk
  | succ l ih =>
    intro w gt off n cap kk g c zs va V hr hn hm hcap hcap2 ha hkk hT hg hj hjc hcm
    have hV := ha.nonneg
    obtain ⟨H, hH⟩ : ∃ H, H = 576 * 2 ^ l := ⟨_, rfl⟩
    have hHb : H ≤ 618475290624 := by rw [hH]; have : 2 ^ l ≤ 2 ^ 30 := Nat.pow_le_pow_right (by omega) (by omega); omega
    obtain ⟨pv, hpc, hp⟩ := hT.2 l (by omega)
    rw [← hH] at hp
    obtain ⟨at_, hat⟩ : ∃ a : Nat, a = n - H := ⟨_, rfl⟩
    have hgt := hr.lt
    have HP := hide hp
    have HA := hide ha
    have HR := hide hr
    have hgl := hT.1
    have HT := hide (hT.less (l := l) (by omega))
    clear hp ha hr hT
    obtain ⟨_, ⟨pa, pcap, hpe, _⟩, _⟩ := HP.out
    subst hpe
    obtain ⟨_, ⟨ao, ac, hve, _⟩, _⟩ := HA.out
    subst hve
    have HSH := hide (shl_H hH hHb)
    have HH := hide hH
    have hk3 : 60 * 2 ^ l ≤ 549755813888 := by have : 2 ^ l ≤ 2 ^ 29 := Nat.pow_le_pow_right (by omega) (by omega); omega
    have HK3 := hide hk3
    clear hk3
    clear hH
    have hl1 : (l : Int) < ((l : Int) + 1) := by omega
    rcases Nat.lt_or_ge n H with hcase | hcase
    · have HAT := hide hat
      have hat1 := hide (show at_ = 0 by omega)
      clear hat
      obtain ⟨D, hD⟩ : ∃ D : Int, (n : Int) - (H : Int) = D := ⟨_, rfl⟩
      have hD0 : D < 0 := by omega
      have hD1 : -9223372036854775808 ≤ D := by omega
      go_enter Tryd.func38, Tryd.ntmps38
      have hsh := HSH.out
      go_wp2_with fail
      clear hsh
      refine (div_any HA.out HP.out (by omega) HK3.out (tn_pos H)).mono ?_
      rintro e w1 ⟨vq, vr, rfl, hq, hr2, b1⟩
      have HQ := hide (And.intro hq.arg (And.intro hr2.arg b1))
      have hrow1 : Row .u8 5 w1 gt zs := HR.out.keeps b1
      have HT1 := hide (HT.out.below b1)
      obtain ⟨_, ⟨qa, rfl, _⟩, _⟩ := hq
      obtain ⟨_, ⟨ra, rfl, _⟩, _⟩ := hr2
      clear b1
      have hlc : l ≤ c := by omega
      have hlc1 : (l : Int) ≤ (c : Int) := by omega
      go_upto_region 10 with fail
      have HQ1 := hide (HQ.out.1.below ((Below.refl _ _).drew (w := w1)))
      have HT1d := hide (HT1.out.below ((Below.refl _ _).drew (w := w1)))
      have hrow1d : Row .u8 5 w1.drew gt zs := hrow1
      have ha1 : at_ ≤ n := by have := HAT.out; omega
      go_region_held3 (fun _ => True) (exact trivial)
        (first
          | (go_at_call 38; (refine (ih (off := off) (n := 0) hrow1d ?_ hm ?_ ?_ HQ1.out hkk HT1d.out hg ?_ ?_ hcm).mono ?_); omega; omega; omega; omega; omega; rintro r w2 ⟨rfl, ⟨ys, hy, hput⟩, b2, ho2⟩))
      have HY := hide hput
      have hyl := hput.1
      have hs12 : w1.heap.size ≤ w2.heap.size := b2.size
      have HQ2 := hide ((HQ.out.2.1.below ((Below.refl _ _).drew (w := w1))).other hrow1d b2.size ho2)
      have HT2 := hide (HT1d.out.other hrow1d b2.size ho2 hg)
      have K2 : Below gt w w2 := (HQ.out.2.2.mono (by omega)).trans ((Below.refl _ _).drew.trans b2)
      have O2 := hide (show ∀ b, b < w.heap.size → b ≠ gt → w2.heap[b]? = w.heap[b]? from fun b hb hn => by rw [ho2 b (by have := HQ.out.2.2.size; show b < w1.heap.size; omega) hn]; exact HQ.out.2.2.block b hb)
      clear hput b2 ho2 hrow1 hrow1d HQ1 HT1 HT1d
      go_upto_region 11 with fail
      have HQ3 := hide (HQ2.out.below ((Below.refl _ _).drew (w := w2)))
      have HT3 := hide (HT2.out.below ((Below.refl _ _).drew (w := w2)))
      have hyd : Row .u8 5 w2.drew gt ys := hy
      have hnc1 : (n : Int) ≤ (cap : Int) := by omega
      go_region_held3 (fun _ => True) (exact trivial)
        (first
          | (go_at_call 38; (refine (ih (off := off) (n := n) hyd ?_ ?_ ?_ ?_ HQ3.out HK3.out HT3.out hg ?_ ?_ hcm).mono ?_); omega; omega; omega; omega; omega; omega; rintro r w3 ⟨rfl, ⟨xs, hx, hput⟩, b3, ho3⟩))
      have HX := hide hput
      have K3 : Below gt w w3 := K2.trans ((Below.refl _ _).drew.trans b3)
      have O3 := hide (show ∀ b, b < w.heap.size → b ≠ gt → w3.heap[b]? = w.heap[b]? from fun b hb hn => by rw [ho3 b (by have := K2.size; show b < w2.heap.size; omega) hn]; exact O2.out b hb hn)
      clear hput b3 ho3 HQ3 hyd hy HT3
      go_wp2
      refine bodyPost_end (results_none rfl _ _ _) rfl ?_
      exact ⟨rfl, ⟨xs, hx, put_split hV HAT.out (by rw [hat1.out]; exact HY.out) (by rw [hat1.out]; exact HX.out)⟩, K3, O3.out⟩
    · have HD2 := hide (show (n : Int) - (H : Int) = (at_ : Int) by omega)
      have HAT := hide hat
      have HN := hide (show n = at_ + H by omega)
      clear hat
      obtain ⟨D, hD⟩ : ∃ D : Int, (n : Int) - (H : Int) = D := ⟨_, rfl⟩
      have hD0 : ¬ D < 0 := by omega
      have hD1 : D ≤ 9223372036854775807 := by omega
      clear hcase
      go_enter Tryd.func38, Tryd.ntmps38
      have hsh := HSH.out
      go_wp2_with fail
      clear hsh
      refine (div_any HA.out HP.out (by omega) HK3.out (tn_pos H)).mono ?_
      rintro e w1 ⟨vq, vr, rfl, hq, hr2, b1⟩
      have HQ := hide (And.intro hq.arg (And.intro hr2.arg b1))
      have hrow1 : Row .u8 5 w1 gt zs := HR.out.keeps b1
      have HT1 := hide (HT.out.below b1)
      obtain ⟨_, ⟨qa, rfl, _⟩, _⟩ := hq
      obtain ⟨_, ⟨ra, rfl, _⟩, _⟩ := hr2
      clear b1
      have hDe : D = (at_ : Int) := hD.symm.trans HD2.out
      clear hD hD0 hD1
      subst hDe
      have hle : at_ ≤ n := by have := HN.out; omega
      have hac : at_ ≤ cap := by omega
      have hac1 : (at_ : Int) ≤ (cap : Int) := by omega
      have hle1 : (at_ : Int) ≤ (n : Int) := by omega
      have hlc : l ≤ c := by omega
      have hlc1 : (l : Int) ≤ (c : Int) := by omega
      go_upto_region 10 with fail
      have HQ1 := hide (HQ.out.1.below ((Below.refl _ _).drew (w := w1)))
      have HT1d := hide (HT1.out.below ((Below.refl _ _).drew (w := w1)))
      have hrow1d : Row .u8 5 w1.drew gt zs := hrow1
      have ha1 : at_ ≤ n := by have := HAT.out; omega
      go_region_held3 (fun _ => True) (exact trivial)
        (first
          | (go_at_call 38; (refine (ih (off := off) (n := at_) hrow1d ?_ hm ?_ ?_ HQ1.out hkk HT1d.out hg ?_ ?_ hcm).mono ?_); omega; omega; omega; omega; omega; rintro r w2 ⟨rfl, ⟨ys, hy, hput⟩, b2, ho2⟩))
      have HY := hide hput
      have hyl := hput.1
      have hs12 : w1.heap.size ≤ w2.heap.size := b2.size
      have HQ2 := hide ((HQ.out.2.1.below ((Below.refl _ _).drew (w := w1))).other hrow1d b2.size ho2)
      have HT2 := hide (HT1d.out.other hrow1d b2.size ho2 hg)
      have K2 : Below gt w w2 := (HQ.out.2.2.mono (by omega)).trans ((Below.refl _ _).drew.trans b2)
      have O2 := hide (show ∀ b, b < w.heap.size → b ≠ gt → w2.heap[b]? = w.heap[b]? from fun b hb hn => by rw [ho2 b (by have := HQ.out.2.2.size; show b < w1.heap.size; omega) hn]; exact HQ.out.2.2.block b hb)
      clear hput b2 ho2 hrow1 hrow1d HQ1 HT1 HT1d
      go_upto_region 11 with fail
      have HQ3 := hide (HQ2.out.below ((Below.refl _ _).drew (w := w2)))
      have HT3 := hide (HT2.out.below ((Below.refl _ _).drew (w := w2)))
      have hyd : Row .u8 5 w2.drew gt ys := hy
      have hsub : (n : Int) - (at_ : Int) = (H : Int) := by have := HN.out; omega
      have hsub2 : n - at_ = H := by have := HN.out; omega
      have hHp : 0 < H := by rw [HH.out]; exact Nat.mul_pos (by omega) (Nat.pow_pos (by omega))
      have hcn : ¬ cap = at_ := by have := HN.out; omega
      have hnc1 : (n : Int) ≤ (cap : Int) := by omega
      go_region_held3 (fun _ => True) (exact trivial)
        (first
          | (go_at_call 38; (refine (ih (off := off + at_) (n := H) hyd ?_ ?_ ?_ ?_ HQ3.out HK3.out HT3.out hg ?_ ?_ hcm).mono ?_); omega; omega; omega; omega; omega; omega; rintro r w3 ⟨rfl, ⟨xs, hx, hput⟩, b3, ho3⟩))
      have HX := hide hput
      have K3 : Below gt w w3 := K2.trans ((Below.refl _ _).drew.trans b3)
      have O3 := hide (show ∀ b, b < w.heap.size → b ≠ gt → w3.heap[b]? = w.heap[b]? from fun b hb hn => by rw [ho3 b (by have := K2.size; show b < w2.heap.size; omega) hn]; exact O2.out b hb hn)
      clear hput b3 ho3 HQ3 hyd hy HT3
      go_wp2
      refine bodyPost_end (results_none rfl _ _ _) rfl ?_
      exact ⟨rfl, ⟨xs, hx, put_split hV HAT.out HY.out (by rw [hsub2]; exact HX.out)⟩, K3, O3.out⟩

end Go.Proofs.YtgaldbfgmbaebaaDoor

namespace Go.Proofs.YtgaldbfgmbaebaaDoor
open Go.RowKit
set_option linter.unusedVariables false

theorem pow_room {E F k m : Nat} (h : 2 ^ E ≤ 10 ^ F) (hE : 0 < E) (hk : k * F ≤ m * E) : 2 ^ k ≤ 10 ^ m := by
  rcases Nat.lt_or_ge (10 ^ m) (2 ^ k) with c | c
  · exfalso
    have h1 : (10 ^ m) ^ E < (2 ^ k) ^ E := Nat.pow_lt_pow_left c (by omega)
    have h2 : (2 ^ E) ^ k ≤ (10 ^ F) ^ k := Nat.pow_le_pow_left h k
    rw [← Nat.pow_mul] at h1 h2
    rw [← Nat.pow_mul, Nat.mul_comm k E] at h1
    rw [← Nat.pow_mul] at h2
    have h3 : 10 ^ (F * k) ≤ 10 ^ (m * E) := Nat.pow_le_pow_right (by omega) (by rw [Nat.mul_comm F k]; exact hk)
    omega
  · exact c
theorem two_ten : 2 ^ 100000 ≤ 10 ^ 30103 := by decide +kernel
theorem room_all (k : Nat) : p2 k ≤ tn (k * 30103 / 100000 + 1) := by
  have b : 2 ^ k ≤ 10 ^ (k * 30103 / 100000 + 1) := pow_room two_ten (by omega) (by omega)
  rw [p2_pow, tn_nat]
  have c : ((2 ^ k : Nat) : Int) ≤ ((10 ^ (k * 30103 / 100000 + 1) : Nat) : Int) := Int.ofNat_le.2 b
  simpa using c

/-- what tens answers -/
def TensV (w : World) (n : Nat) (v : Value) : Prop := (n ≤ 576 ∧ v = .slice none 0 0) ∨ ∃ g j c, v = .slice (some ⟨g, 0, none⟩) j c ∧ j ≤ 18 ∧ j ≤ c ∧ c ≤ maxLen ∧ n ≤ 576 * 2 ^ j ∧ TensAt w g j
theorem tens_both {w : World} {n : Nat} (h : n ≤ 134217728) :
    Calls Tryd.prog 39 #[.int .i64 n] w fun e w' => ∃ v, e = .returned v ∧ TensV w' n v ∧ (∀ g j c, v = .slice (some ⟨g, 0, none⟩) j c → w.heap.size ≤ g) ∧ Below w.heap.size w w' := by
  by_cases c : n ≤ 576
  · refine (tens_none (w := w) (n := (n : Int)) (by omega)).mono ?_
    rintro e w' ⟨rfl, rfl⟩
    exact ⟨_, rfl, .inl ⟨c, rfl⟩, fun g j c e => (by cases e), Below.refl _ _⟩
  · refine (tens_any (w := w) h (by omega)).mono ?_
    rintro e w' ⟨g, j, c, rfl, _, h2, h3, h3', h4, h5, h6, h7⟩
    exact ⟨_, rfl, .inr ⟨g, j, c, rfl, h2, h3, h3', h4, h5⟩, fun g' j' c' e => by cases e; exact h6, h7⟩
theorem tell_both {w : World} {gt n kk : Nat} {zs : List Int} {va tv : Value} {V : Int} (hr : Row .u8 5 w gt zs) (hn : zs.length = n) (hm : n ≤ 134217728) (ha : Arg w va V kk) (hkk : kk ≤ 549755813888) (ht : TensV w n tv) (hg : ∀ g j c, tv = .slice (some ⟨g, 0, none⟩) j c → g ≠ gt) :
    Calls Tryd.prog 38 #[.slice (some ⟨gt, 0, none⟩) n n, va, tv] w fun e w' => e = .returned (.tuple #[]) ∧ (∃ ys, Row .u8 5 w' gt ys ∧ Put zs 0 n V ys) ∧ Below gt w w' := by
  rcases ht with ⟨h1, rfl⟩ | ⟨g, j, c, rfl, h1, h2, h2', _, h3⟩
  · refine (tell_leaf (off := 0) hr (by omega) (by omega) ha hkk).mono ?_
    rintro e w' ⟨e1, e2, e3, _⟩
    exact ⟨e1, e2, e3⟩
  · refine (tell_any j (off := 0) hr (by omega) (by omega) (Nat.le_refl _) hm ha hkk h3 (hg _ _ _ rfl) (by omega) h2 h2').mono ?_
    rintro e w' ⟨e1, e2, e3, _⟩
    exact ⟨e1, e2, e3⟩

set_option maxRecDepth 20000 in
set_option maxHeartbeats 2000000 in
theorem trim_nought {w : World} :
    Calls Tryd.prog 40 #[.string ⟨#[48]⟩, .string ⟨#[48]⟩] w fun e w' => e = .returned (.string ⟨#[]⟩) ∧ w' = w := by
  have hb : Calls Tryd.prog 75 #[.string ⟨#[48]⟩, .int .u8 48] w fun e w' => e = .returned (.string ⟨#[]⟩) ∧ w' = w := by
    go_enter Tryd.func75, Tryd.ntmps75
    go_wp2
    refine wp_loop_rounds 2 ?_
    rw [rounds_succ]
    go_wp2
    rw [rounds_succ]
    go_wp2
    go_ret
    exact ⟨rfl, rfl⟩
  go_enter Tryd.func40, Tryd.ntmps40
  go_wp2_with fail
  refine hb.mono ?_
  rintro e w' ⟨rfl, rfl⟩
  go_wp2
  go_ret
  exact ⟨rfl, rfl⟩

/-- digits that tell a number, none ahead that says nothing -/
def Dstr (V : Int) (ds : List Int) : Prop := Dg ds ∧ 0 < ds.length ∧ (Nt.lb ds 0 ≠ 48 ∨ ds = [48]) ∧ dgv ds = V
theorem dg_inj : ∀ {xs ys : List Int}, xs.length = ys.length → Dg xs → Dg ys → dgv xs = dgv ys → xs = ys
  | [], [], _, _, _, _ => rfl
  | [], _ :: _, h, _, _, _ => by simp at h
  | _ :: _, [], h, _, _, _ => by simp at h
  | a :: x, b :: y, h, hx, hy, he => by
    have hl : x.length = y.length := by simpa using h
    have h1 := dg_range (xs := x) (fun z hz => hx z (List.mem_cons_of_mem _ hz))
    have h2 := dg_range (xs := y) (fun z hz => hy z (List.mem_cons_of_mem _ hz))
    rw [dgv, dgv, hl] at he
    rw [hl] at h1
    have e : a = b := by
      rcases Int.lt_trichotomy a b with c | c | c
      · exfalso
        have : (a - 48 + 1) * tn y.length ≤ (b - 48) * tn y.length := Int.mul_le_mul_of_nonneg_right (by omega) (Int.le_of_lt (tn_pos _))
        rw [Int.add_mul, Int.one_mul] at this
        omega
      · exact c
      · exfalso
        have : (b - 48 + 1) * tn y.length ≤ (a - 48) * tn y.length := Int.mul_le_mul_of_nonneg_right (by omega) (Int.le_of_lt (tn_pos _))
        rw [Int.add_mul, Int.one_mul] at this
        omega
    subst e
    have e2 : dgv x = dgv y := by omega
    rw [dg_inj hl (fun z hz => hx z (List.mem_cons_of_mem _ hz)) (fun z hz => hy z (List.mem_cons_of_mem _ hz)) e2]
theorem tn_lt {a b : Nat} (h : tn a < tn b) : a < b := by
  rcases Nat.lt_or_ge a b with c | c
  · exact c
  · have := tn_mono c; omega
theorem Dstr.unique {V : Int} {xs ys : List Int} (hx : Dstr V xs) (hy : Dstr V ys) : xs = ys := by
  obtain ⟨x1, x2, x3, x4⟩ := hx
  obtain ⟨y1, y2, y3, y4⟩ := hy
  have rx := dg_range x1
  have ry := dg_range y1
  have z0 : dgv [48] = 0 := by rw [dg_one]; omega
  have key : ∀ {qs : List Int}, Dg qs → 0 < qs.length → Nt.lb qs 0 ≠ 48 → dgv qs ≠ 0 := fun h1 h2 h3 h4 => by
    have := dg_lead' h1 h2 h3
    have h5 := Int.lt_of_lt_of_le (tn_pos _) this
    omega
  rcases x3 with x3 | x3
  · rcases y3 with y3 | y3
    · refine dg_inj ?_ x1 y1 (x4.trans y4.symm)
      have lx := dg_lead' x1 x2 x3
      have ly := dg_lead' y1 y2 y3
      have h1 := tn_lt (a := xs.length - 1) (b := ys.length) (by omega)
      have h2 := tn_lt (a := ys.length - 1) (b := xs.length) (by omega)
      omega
    · exfalso
      rw [y3, z0] at y4
      exact key x1 x2 x3 (by rw [x4, ← y4])
  · rcases y3 with y3 | y3
    · exfalso
      rw [x3, z0] at x4
      exact key y1 y2 y3 (by rw [y4, ← x4])
    · rw [x3, y3]

set_option maxRecDepth 20000 in
set_option maxHeartbeats 4000000 in
theorem digits_any {w : World} {va : Value} {V : Int} {kk : Nat} (ha : Arg w va V kk) (hkk : kk ≤ 1048580) :
    Calls Tryd.prog 7 #[va] w fun e w' => ∃ ds, e = .returned (.string (strOfNums ds)) ∧ Dstr V ds ∧ ds.length ≤ 10200000 ∧ Below w.heap.size w w' := by
  have HA := hide ha
  have hV0 := ha.nonneg
  clear ha
  obtain ⟨_, ⟨va0, vc0, hve, _⟩, _⟩ := HA.out
  subst hve
  go_enter Tryd.func7, Tryd.ntmps7
  go_wp2_with fail
  refine (len_any HA.out (by omega)).mono ?_
  rintro e w' ⟨k, rfl, hk, hk3, rfl⟩
  have hk2 : k ≤ 33554560 := by omega
  have hlt : V < tn (k * 30103 / 100000 + 1) := by have := room_all k; have := hk.1; omega
  have hz : V = 0 → k = 0 := fun e => by
    rcases Nat.eq_zero_or_pos k with c | c
    · exact c
    · have h1 := hk.2 (by omega)
      have h2 := p2_pos (k - 1)
      omega
  go_wp2_with fail
  refine (room_any (n := (k : Int)) (by omega) (by omega)).mono ?_
  rintro e w1 ⟨rfl, rfl⟩
  obtain ⟨n, hn⟩ : ∃ n : Nat, k * 30103 / 100000 + 1 = n := ⟨_, rfl⟩
  have hn2 : (k : Int) * 30103 / 100000 + 1 = (n : Int) := by omega
  rw [hn2]
  rw [hn] at hlt
  have n1 : 1 ≤ n := by omega
  have n2 : n ≤ 10200000 := by omega
  have HZ := hide (show V = 0 → n = 1 from fun e => by have := hz e; omega)
  have HV := hide (And.intro hV0 hlt)
  clear hk hlt hn hn2 hV0 hz hk3
  go_wp2_with (at_make; refine wpList_make_row _ rfl _ _ 28 rfl 5 .u8 1 Tryd.underlying28 Tryd.infoU8 _ _ _ _ n n rfl rfl (by omega) (by omega) (Nat.le_refl _) (by omega) (by unfold maxLen; omega) ?_)
  intro w2 hr hbel hsz
  have hzl : (List.replicate n (0 : Int)).length = n := by simp
  generalize List.replicate n (0 : Int) = zs at *
  go_wp2_with fail
  refine (tens_both (n := n) (by omega)).mono ?_
  rintro e w3 ⟨tv, rfl, hT, hTg, b3⟩
  have hr3 : Row .u8 5 w3 w1.heap.size zs := hr.keeps b3
  have hTn := hide (show ∀ g j c, tv = .slice (some ⟨g, 0, none⟩) j c → g ≠ w1.heap.size from fun g j c e => by have := hTg g j c e; have := hr.lt; omega)
  have HT := hide hT
  have K3 := below_trans hbel b3
  have htv : ∃ ao l c, tv = .slice ao l c := by
    rcases hT with ⟨_, h⟩ | ⟨_, _, _, h, _⟩
    · exact ⟨_, _, _, h⟩
    · exact ⟨_, _, _, h⟩
  clear hT b3 hr hsz hTg
  go_wp2_with fail
  refine (tell_both hr3 hzl (by omega) (HA.out.below K3) (by omega) HT.out hTn.out).mono ?_
  rintro e w4 ⟨rfl, ⟨ys, hy, hput⟩, b4⟩
  obtain ⟨p1, p2', p3⟩ := put_dg HV.out.1 hzl hput HV.out.2
  have hcv := row_string (cap := n) hy
  rw [p3] at hcv
  have K4 : Below w1.heap.size w1 w4 := K3.trans b4
  have HP := hide (And.intro p1 (And.intro p2' p3))
  clear hput p1 p2' p3 b4 hr3 K3 HT hTn hbel
  by_cases hV : V = 0
  · have hn1 := HZ.out hV
    have hys : ys = [48] := by
      refine dg_inj (by rw [HP.out.2.2, hn1]; rfl) HP.out.1 (fun x hx => by simp at hx; omega) ?_
      rw [HP.out.2.1, hV, dg_one]; omega
    have hst : strOfNums ys = ⟨#[48]⟩ := by rw [hys]; rfl
    rw [hst] at hcv
    clear HZ
    subst hn1
    go_wp2_with fail
    refine trim_nought.mono ?_
    rintro e w5 ⟨rfl, rfl⟩
    have HD : Hid (Dstr V [48]) := hide ⟨fun x hx => by simp at hx; omega, by simp, .inr rfl, by rw [dg_one, hV]; omega⟩
    clear hcv
    go_wp2
    go_ret
    exact ⟨[48], rfl, HD.out, by simp, K4⟩
  · obtain ⟨a, a1, a2, a3⟩ := first_digit HP.out.1 (by rw [HP.out.2.1]; have := HV.out.1; omega)
    have HF := hide (And.intro a1 (And.intro a2 a3))
    clear a1 a2 a3
    go_wp2_with fail
    refine (trim48 HP.out.1 rfl HP.out.2.2 (by omega) (by have := HP.out.2.2; have := HF.out.1; omega) HF.out.2.1 HF.out.2.2).mono ?_
    rintro e w5 ⟨rfl, rfl⟩
    have hne : (strOfNums (ys.drop a)).toList.isEmpty = false := txt_full (by rw [strOfNums_size, List.length_drop]; have := HF.out.1; omega)
    have hfin := hide (show dgv (ys.drop a) = V by
      have e := dg_between (es := ys) (f := a) (e := ys.length) (Nat.le_refl _) (by have := HF.out.1; omega) HF.out.2.2 (fun j h1 h2 => absurd h2 (by omega))
      rw [Nat.sub_self, tn_zero, Int.mul_one, List.take_of_length_le (Nat.le_refl _), HP.out.2.1] at e
      exact e.symm)
    clear hcv
    go_wp2
    go_ret
    exact ⟨ys.drop a, rfl, ⟨HP.out.1.drop a, by rw [List.length_drop]; have := HF.out.1; omega, .inl (by rw [lb_drop0, Nat.add_zero]; exact HF.out.2.1), hfin.out⟩, by rw [List.length_drop]; have := HP.out.2.2; omega, K4⟩

end Go.Proofs.YtgaldbfgmbaebaaDoor

namespace Go.Proofs.YtgaldbfgmbaebaaDoor
open Go.RowKit
set_option linter.unusedVariables false

theorem num_none (B : Nat) (w : World) (k : Nat) : Num B w (.slice none 0 0) 0 k := ⟨[], ⟨none, rfl, by unfold maxLen; simp, fun h => absurd h (by simp)⟩, Nt.canon_nil, rfl, by simp⟩
theorem tn_1152 : tn 1152 < Nt.pw 120 := by
  rw [← p2_32, p2_pow]
  unfold tn
  decide +kernel
theorem dg_limbs {es : List Int} (h : Dg es) (hl : es.length ≤ 1152) : dgv es < Nt.pw 120 := by
  have a := dg_range h
  have b := tn_mono hl
  have c := tn_1152
  omega
theorem lit_ok {x : Int} (h : 0 ≤ x ∧ x < 4294967296) : Nt.Ok [x] := by
  intro i
  match i with
  | 0 => exact h
  | i + 1 => simp [Nt.lb]
theorem lit_val (x : Int) : Nt.val [x] = x := by
  show Nt.vt _ 1 = x
  simp only [Nt.vt, Nt.pw, Nt.lb, List.getD_cons_zero]
  omega
theorem lit_row (w : World) (x : Int) : Row .u32 26 (w.alloc (.cells #[.int .u32 x] 26)) w.heap.size [x] := by
  unfold Row
  rw [heap_alloc_new]
  rfl
theorem lit_arg (w : World) {x : Int} (h : 0 ≤ x ∧ x < 4294967296) : Arg (w.alloc (.cells #[.int .u32 x] 26)) (.slice (some ⟨w.heap.size, 0, none⟩) 1 1) x 1 := by
  refine ⟨[x], ⟨some ⟨w.heap.size, 0, none⟩, 1, rfl, Nat.le_refl _, by unfold maxLen; omega, fun _ => ⟨w.heap.size, 0, rfl, (lit_row w x).lt, fun i hi => ?_⟩⟩, lit_ok h, lit_val x, Nat.le_refl _⟩
  rw [Nat.zero_add]
  exact (lit_row w x).cell hi
theorem dg_drop_take {es : List Int} (p z : Nat) (h : p + z ≤ es.length) : dgv (es.take (p + z)) = dgv (es.take p) * tn z + dgv ((es.drop p).take z) := by
  rw [List.take_add, dg_append]
  congr 3
  rw [List.length_take, List.length_drop]; omega
theorem dg_nine {es : List Int} (h : Dg es) (z : Nat) (hz : z ≤ 9) : 0 ≤ dgv (es.take z) ∧ dgv (es.take z) < 1000000000 := by
  obtain ⟨a, b⟩ := dg_range (h.take z)
  have c : tn (es.take z).length ≤ tn 9 := tn_mono (by rw [List.length_take]; omega)
  have d : tn 9 = 1000000000 := by decide
  omega


set_option maxRecDepth 100000 in
set_option maxHeartbeats 8000000 in
theorem leaf_any {w : World} {es : List Int} {s : ByteArray} {N : Nat} (hd : Dg es) (hs : s = strOfNums es) (hN : es.length = N) (hl : N ≤ 1152) :
    Calls Tryd.prog 87 #[.string s] w fun e w' => ∃ v, e = .returned v ∧ Num w.heap.size w' v (dgv es) 120 ∧ Below w.heap.size w w' := by
  have Hd := hide hd
  have HN := hide hN
  have HS := hide hs
  clear hd hN hs
  go_enter Tryd.func87, Tryd.ntmps87
  go_wp2
  go_loopg [0, 3] N (fun c sv va wr => ∃ p : Nat, p ≤ N ∧ c = N - p ∧ (p = 0 ∨ (N - p) % 9 = 0) ∧ sv = .string (strOfNums (es.drop p)) ∧ Num w.heap.size wr va (dgv (es.take p)) 120 ∧ Below w.heap.size w wr)
  case atStart => exact ⟨0, by omega, rfl, .inl rfl, by rw [HS.out]; rfl, by rw [List.take_zero]; exact num_none _ _ _, Below.refl _ _⟩
  case round =>
    obtain ⟨p, hp, hgp, hp9, rfl, ha, hb⟩ := hrel
    have HP9 := hide hp9
    clear hp9
    obtain ⟨t, ht⟩ : ∃ t, t = strOfNums (es.drop p) := ⟨_, rfl⟩
    obtain ⟨M, hM⟩ : ∃ M : Nat, M = N - p := ⟨_, rfl⟩
    have htz : t.size = M := by rw [ht, strOfNums_size, List.length_drop, HN.out, hM]
    have HT := hide ht
    have HA := hide ha
    rw [← ht]
    clear ht ha
    have hgM : M + p = N := by omega
    have HM := hide hgM
    have hMl : M ≤ 1152 := by omega
    have m1 : (M : Int) ≤ 1152 := by omega
    have HG := hide hgp
    clear hM hgM hgp
    have HW := hide hb
    clear hb
    by_cases hpl : p < N
    · have m0 : (0 : Int) < (M : Int) := by have := HM.out; omega
      obtain ⟨z, hz⟩ : ∃ z : Nat, z = (M - 1) % 9 + 1 := ⟨_, rfl⟩
      have hz1 : ((M : Int) - 1) % 9 + 1 = (z : Int) := by omega
      have z9 : z ≤ 9 := by omega
      have zM : z ≤ M := by omega
      have z0 : 0 < z := by omega
      have HZ := hide hz
      clear hz
      have Hdp := hide (Hd.out.drop p)
      have Hix := hide (txt_ix HT.out (Hd.out.drop p))
      have Hlp := hide (show (es.drop p).length = M by rw [List.length_drop, HN.out]; have := HM.out; omega)
      go_wp2
      go_loopg [5, 16] z (fun c gv iv wx => ∃ j : Nat, j ≤ z ∧ c = z - j ∧ iv = .int .i64 j ∧ gv = .int .u32 (dgv ((es.drop p).take j)) ∧ wx = wr)
      case atStart => exact ⟨0, by omega, rfl, rfl, by simp [dgv], rfl⟩
      case round =>
        obtain ⟨j, hj, hgj, rfl, rfl, hw⟩ := hrel
        replace hw := hw.symm
        subst hw
        by_cases hjl : j < z
        · have hps : j < t.size := by omega
          obtain ⟨hx, x0, x1⟩ := Hix.out j hps
          have hv := hide (dg_take (ds := es.drop p) (k := j) (by rw [Hlp.out]; omega))
          obtain ⟨d, hdd⟩ : ∃ d, Nt.lb (es.drop p) j = d := ⟨_, rfl⟩
          rw [hdd] at hx x0 x1 hv
          clear hdd
          have sm := dg_nine Hdp.out (j + 1) (by omega)
          have sm0 := (dg_nine Hdp.out j (by omega)).1
          rw [hv.out] at sm
          obtain ⟨g, hg⟩ : ∃ g, dgv ((es.drop p).take j) = g := ⟨_, rfl⟩
          rw [hg] at hv sm sm0 ⊢
          obtain ⟨sm1, sm2⟩ := sm
          have q4 : (j : Int) < (z : Int) := by omega
          have wd : IntKind.u8.wrap (d - 48) = d - 48 := by rw [IntKind.wrap_u8]; omega
          have wd2 : IntKind.u32.wrap (d - 48) = d - 48 := by rw [IntKind.wrap_u32]; omega
          have wd3 : IntKind.u32.wrap (g * 10) = g * 10 := by rw [IntKind.wrap_u32]; omega
          have wd4 : IntKind.u32.wrap (g * 10 + (d - 48)) = g * 10 + (d - 48) := by rw [IntKind.wrap_u32]; omega
          clear hg
          go_wp2
          go_roundg (z - (j + 1))
          case measure => omega
          case rel => exact ⟨j + 1, by omega, rfl, by simp, by rw [hv.out], rfl⟩
        · have hje : j = z := by omega
          subst hje
          have sm := dg_nine Hdp.out j (by omega)
          have hv := hide (dg_drop_take (es := es) p j (by rw [HN.out]; have := HM.out; omega))
          have Hlim := hide (dg_limbs (Hd.out.take (p + j)) (by rw [List.length_take, HN.out]; omega))
          obtain ⟨g, hg⟩ : ∃ g, dgv ((es.drop p).take j) = g := ⟨_, rfl⟩
          rw [hg] at hv sm ⊢
          have ho : 0 ≤ g ∧ g < 4294967296 := by omega
          have Ho := hide ho
          clear hg ho sm hgj
          go_wp2_with fail
          with_reducible refine (mul_any (HA.out.arg.below (below_alloc wr _)) (lit_arg wr (x := 1000000000) (by omega)) (by omega) (by omega)).mono ?_
          rintro e w1 ⟨v1, rfl, hn1, hb1⟩
          have hb01 := below_trans (below_alloc wr _) hb1
          go_wp2_with fail
          with_reducible refine (add_any (hn1.arg.below (below_alloc w1 _)) (lit_arg w1 (x := g) Ho.out) (by omega) (by omega)).mono ?_
          rintro e w2 ⟨v2, rfl, hn2, hb2⟩
          have hb02 := below_trans hb01 (below_trans (below_alloc w1 _) hb2)
          have heq : dgv (es.take p) * 1000000000 + g = dgv (es.take (p + j)) := by
            rw [hv.out]
            rcases HP9.out with k | k
            · subst k; simp [dgv]
            · have : j = 9 := by have := HM.out; have := HZ.out; omega
              rw [this]; rfl
          rw [heq] at hn2
          have hnum := (hn2.tight (k' := 120) Hlim.out).low (show w.heap.size ≤ (w1.alloc _).heap.size by have := HW.out.size; have := hb01.size; simp; omega)
          have HN2 := hide hnum
          have HB2 := hide hb02
          clear hn1 hb1 hb2 hb01 hn2 hnum hb02 heq
          have hx : t.extract j M = strOfNums (es.drop (p + j)) := by
            rw [HT.out, txt_cut, List.take_of_length_le (by rw [Hlp.out]; omega), List.drop_drop]
          have hMs : (j : Int) ≤ (M : Int) := by omega
          go_wp2
          go_roundg (N - (p + j))
          case measure => have := HM.out; have := HG.out; omega
          case rel => exact ⟨p + j, by have := HM.out; omega, rfl, .inr (by have := HM.out; have := HZ.out; omega), rfl, HN2.out, below_trans HW.out HB2.out⟩
    · have hpN : p = N := by omega
      have Hend := hide (show Num w.heap.size wr u3 (dgv es) 120 by have := HA.out; rwa [List.take_of_length_le (by rw [HN.out]; omega)] at this)
      have hM0 : M = 0 := by have := HM.out; omega
      go_wp2
      go_ret
      exact ⟨_, rfl, Hend.out, HW.out⟩


set_option maxRecDepth 100000 in
set_option maxHeartbeats 8000000 in
theorem qnumber_leaf {w : World} {es : List Int} {s : ByteArray} {N c : Nat} {ao : Option Addr} (hd : Dg es) (hs : s = strOfNums es) (hN : es.length = N) (hl : N ≤ 1152) :
    Calls Tryd.prog 58 #[.string s, .slice ao 0 c] w fun e w' => ∃ v, e = .returned v ∧ Num w.heap.size w' v (dgv es) 120 ∧ Below w.heap.size w w' := by
  have H := leaf_any (w := w) hd hs hN hl
  clear hd hs hN hl
  go_enter Tryd.func58, Tryd.ntmps58
  go_wp2_with fail
  refine H.mono ?_
  clear H
  rintro e w1 ⟨v, rfl, hn, hb⟩
  have HN := hide (And.intro hn hb)
  clear hn hb
  go_wp2
  go_ret
  exact ⟨_, rfl, HN.out.1, HN.out.2⟩

theorem tn_pw (j : Nat) : tn (576 * 2 ^ j) < Nt.pw (60 * 2 ^ j) := by
  induction j with
  | zero => exact tn_576
  | succ j ih =>
    rw [tn_sq, pw_sq]
    have p := tn_pos (576 * 2 ^ j)
    exact Int.mul_lt_mul ih (Int.le_of_lt ih) p (Int.le_of_lt (Int.lt_trans p ih))
theorem dg_pw {es : List Int} (h : Dg es) {j : Nat} (hl : es.length ≤ 576 * 2 ^ j) : dgv es < Nt.pw (60 * 2 ^ j) := by
  have a := dg_range h
  have b := tn_mono hl
  have c := tn_pw j
  omega

set_option maxRecDepth 100000 in
set_option maxHeartbeats 8000000 in
theorem qnumber_any : ∀ (j : Nat) {w : World} {es : List Int} {s : ByteArray} {N g c : Nat}, Dg es → s = strOfNums es → es.length = N → N ≤ 576 * 2 ^ j → N ≤ 134217728 → TensAt w g j → j ≤ 18 → j ≤ c → c ≤ maxLen →
    Calls Tryd.prog 58 #[.string s, .slice (some ⟨g, 0, none⟩) j c] w fun e w' => ∃ v, e = .returned v ∧ Num w.heap.size w' v (dgv es) (60 * 2 ^ j) ∧ Below w.heap.size w w' := by
  intro j
  induction j with
  | zero =>
    intro w es s N g c hd hs hN hl _ _ _ _ _
    refine (qnumber_leaf hd hs hN (by omega)).mono ?_
    rintro e w' ⟨v, rfl, h1, h2⟩
    exact ⟨v, rfl, h1.tight (dg_pw hd (j := 0) (by omega)), h2⟩
  | succ l ih =>
    intro w es s N g c hd hs hN hl hN2 hT hj hjc hcm
    obtain ⟨H, hH⟩ : ∃ H, H = 576 * 2 ^ l := ⟨_, rfl⟩
    have hHb : H ≤ 618475290624 := by rw [hH]; have : 2 ^ l ≤ 2 ^ 30 := Nat.pow_le_pow_right (by omega) (by omega); omega
    have hl2 : N ≤ H + H := by rw [Nat.pow_succ] at hl; omega
    obtain ⟨pv, hpc, hp⟩ := hT.2 l (by omega)
    rw [← hH] at hp
    obtain ⟨at_, hat⟩ : ∃ a : Nat, a = N - H := ⟨_, rfl⟩
    have hsz : s.size = N := by rw [hs, strOfNums_size, hN]
    have HLm := hide (dg_pw hd (j := l + 1) (by rw [hN]; exact hl))
    have HP := hide hp
    have HPC := hide hpc
    have hgl := hT.1
    have HT := hide (hT.less (l := l) (by omega))
    have HSH := hide (shl_H hH hHb)
    have hq : 2 ^ l ≤ 2 ^ 18 := Nat.pow_le_pow_right (by omega) (by omega)
    have HK3 := hide (show 60 * 2 ^ l ≤ 549755813888 by omega)
    have HK4 := hide (show 60 * 2 ^ l + 60 * 2 ^ l ≤ 1099511627776 by omega)
    have HK5 := hide (show 60 * 2 ^ l ≤ 1099511627776 by omega)
    have hl18 : l ≤ 18 := by omega
    have D1 := hide (hd.take at_)
    have D2 := hide (hd.drop at_)
    have L1 := hide (show (es.take at_).length = at_ by rw [List.length_take, hN]; omega)
    have L2 := hide (show (es.drop at_).length = N - at_ by rw [List.length_drop, hN])
    have B1 := hide (show at_ ≤ 576 * 2 ^ l by rw [← hH]; omega)
    have B2 := hide (show N - at_ ≤ 576 * 2 ^ l by rw [← hH]; omega)
    have B3 := hide (show N - at_ ≤ 134217728 by omega)
    have B4 := hide (show at_ ≤ 134217728 by omega)
    have HE := hide (show dgv es = dgv (es.take at_) * tn H + dgv (es.drop at_) by
      have k := dg_append (es.take at_) (es.drop at_)
      rw [List.take_append_drop, L2.out] at k
      rcases Nat.lt_or_ge N H with c | c
      · have e0 : at_ = 0 := by omega
        rw [k, e0, List.take_zero]
        simp [dgv]
      · rw [show N - at_ = H by omega] at k
        exact k)
    obtain ⟨_, ⟨pa, pcap, hpe, _⟩, _⟩ := HP.out
    subst hpe
    clear hp hpc hT hq hH hl
    rcases Nat.lt_or_ge N H with hcase | hcase
    · have e0 : at_ = 0 := by omega
      subst e0
      have x1 : s.extract 0 0 = strOfNums (es.take 0) := by rw [hs, txt_cut]; rfl
      have x2 : s.extract 0 N = strOfNums (es.drop 0) := by rw [hs, txt_cut, List.take_of_length_le (by omega)]
      obtain ⟨D, hD⟩ : ∃ D : Int, (N : Int) - (H : Int) = D := ⟨_, rfl⟩
      have hD0 : D < 0 := by omega
      have hD1 : -9223372036854775808 ≤ D := by omega
      clear hat hs hN hd hcase hl2
      go_enter Tryd.func58, Tryd.ntmps58
      have hsh := HSH.out
      go_upto_region 5 with fail
      clear hsh
      have hlc : l ≤ c := by omega
      have hlc1 : (l : Int) ≤ (c : Int) := by omega
      have K : Below w.heap.size w w.drew := (Below.refl _ _).drew
      have T1 := hide (HT.out.below K)
      go_region_held3 (fun _ => True) (exact trivial)
        (first
          | (go_at_call 58; have _z := A1; (refine (ih D2.out ?_ L2.out B2.out B3.out T1.out hl18 ?_ hcm).mono ?_); (first | exact x2 | rfl); omega; rintro r w3 ⟨v2, rfl, A2, b2⟩; replace K := below_trans K b2; replace A1 := A1.below b2)
          | (go_at_call 58; (refine (ih D1.out ?_ L1.out B1.out B4.out T1.out hl18 ?_ hcm).mono ?_); (first | exact x1 | rfl); omega; rintro r w2 ⟨v1, rfl, A1, b1⟩; replace K := below_trans K b1; replace T1 := hide (T1.out.below b1); clear b1))
      have AP := HP.out.below K
      have c0 := (K.cell (p := ⟨g, l, none⟩) hgl).trans HPC.out
      have HA := hide (And.intro A1.arg A2.arg)
      obtain ⟨_, ⟨qa, rfl, _⟩, _⟩ := A1
      obtain ⟨_, ⟨ra, rfl, _⟩, _⟩ := A2
      clear b2
      go_wp2_with fail
      with_reducible refine (mul_any HA.out.1 AP HK3.out HK3.out).mono ?_
      rintro e w4 ⟨v4, rfl, hn4, b4⟩
      have H4 := hide hn4
      obtain ⟨_, ⟨ma, rfl, _⟩, _⟩ := hn4
      go_wp2_with fail
      with_reducible refine (add_any H4.out.arg (HA.out.2.below b4) HK4.out HK5.out).mono ?_
      rintro e w5 ⟨v5, rfl, hn5, b5⟩
      rw [← HE.out] at hn5
      have hs5 := Nat.le_trans K.size b4.size
      have HN5 := hide (And.intro ((hn5.tight HLm.out).low hs5) (below_trans (below_trans K b4) b5))
      clear hn5 b4 b5 AP c0
      go_wp2
      go_ret
      exact ⟨_, rfl, HN5.out.1, HN5.out.2⟩
    · have HD2 := hide (show (N : Int) - (H : Int) = (at_ : Int) by omega)
      have x1 : s.extract 0 at_ = strOfNums (es.take at_) := by rw [hs, txt_cut, List.drop_zero]
      have x2 : s.extract at_ N = strOfNums (es.drop at_) := by rw [hs, txt_cut, List.take_of_length_le (by omega)]
      obtain ⟨D, hD⟩ : ∃ D : Int, (N : Int) - (H : Int) = D := ⟨_, rfl⟩
      have hD0 : ¬ D < 0 := by omega
      have hD1 : D ≤ 9223372036854775807 := by omega
      have hle : at_ ≤ N := by omega
      clear hat hs hN hd hcase hl2
      go_enter Tryd.func58, Tryd.ntmps58
      have hsh := HSH.out
      go_upto_region 5 with fail
      clear hsh
      have hDe : D = (at_ : Int) := hD.symm.trans HD2.out
      clear hD hD0 hD1
      subst hDe
      have hle1 : (at_ : Int) ≤ (N : Int) := by omega
      have hlc : l ≤ c := by omega
      have hlc1 : (l : Int) ≤ (c : Int) := by omega
      have K : Below w.heap.size w w.drew := (Below.refl _ _).drew
      have T1 := hide (HT.out.below K)
      go_region_held3 (fun _ => True) (exact trivial)
        (first
          | (go_at_call 58; have _z := A1; (refine (ih D2.out ?_ L2.out B2.out B3.out T1.out hl18 ?_ hcm).mono ?_); (first | exact x2 | rfl); omega; rintro r w3 ⟨v2, rfl, A2, b2⟩; replace K := below_trans K b2; replace A1 := A1.below b2)
          | (go_at_call 58; (refine (ih D1.out ?_ L1.out B1.out B4.out T1.out hl18 ?_ hcm).mono ?_); (first | exact x1 | rfl); omega; rintro r w2 ⟨v1, rfl, A1, b1⟩; replace K := below_trans K b1; replace T1 := hide (T1.out.below b1); clear b1))
      have AP := HP.out.below K
      have c0 := (K.cell (p := ⟨g, l, none⟩) hgl).trans HPC.out
      have HA := hide (And.intro A1.arg A2.arg)
      obtain ⟨_, ⟨qa, rfl, _⟩, _⟩ := A1
      obtain ⟨_, ⟨ra, rfl, _⟩, _⟩ := A2
      clear b2
      go_wp2_with fail
      with_reducible refine (mul_any HA.out.1 AP HK3.out HK3.out).mono ?_
      rintro e w4 ⟨v4, rfl, hn4, b4⟩
      have H4 := hide hn4
      obtain ⟨_, ⟨ma, rfl, _⟩, _⟩ := hn4
      go_wp2_with fail
      with_reducible refine (add_any H4.out.arg (HA.out.2.below b4) HK4.out HK5.out).mono ?_
      rintro e w5 ⟨v5, rfl, hn5, b5⟩
      rw [← HE.out] at hn5
      have hs5 := Nat.le_trans K.size b4.size
      have HN5 := hide (And.intro ((hn5.tight HLm.out).low hs5) (below_trans (below_trans K b4) b5))
      clear hn5 b4 b5 AP c0
      go_wp2
      go_ret
      exact ⟨_, rfl, HN5.out.1, HN5.out.2⟩

end Go.Proofs.YtgaldbfgmbaebaaDoor

namespace Go.Proofs.YtgaldbfgmbaebaaDoor
open Go.RowKit
set_option linter.unusedVariables false

/-- a number's digits: none ahead that says nothing -/
def Nmb (es : List Int) : Prop := 0 < es.length ∧ Dg es ∧ (Nt.lb es 0 ≠ 48 ∨ es = [48])
theorem lb_byt {es : List Int} (h : Byt es) (i : Nat) : 0 ≤ Nt.lb es i ∧ Nt.lb es i < 256 := by
  rcases Nat.lt_or_ge i es.length with c | c
  · exact h _ (lb_in c)
  · have : Nt.lb es i = 0 := by simp [Nt.lb, c]
    omega
theorem txt_nil : strOfNums [] = ⟨#[]⟩ := rfl

set_option maxRecDepth 100000 in
set_option maxHeartbeats 8000000 in
theorem isNumber_nil {w : World} : Calls Tryd.prog 57 #[.string ⟨#[]⟩] w fun e w' => e = .returned (.bool false) ∧ w' = w := by
  go_enter Tryd.func57, Tryd.ntmps57
  go_wp2
  go_ret
  exact ⟨rfl, rfl⟩
set_option maxRecDepth 100000 in
set_option maxHeartbeats 8000000 in
theorem isNumber_48 {w : World} : Calls Tryd.prog 57 #[.string ⟨#[48]⟩] w fun e w' => e = .returned (.bool true) ∧ w' = w := by
  go_enter Tryd.func57, Tryd.ntmps57
  go_wp2
  refine wp_loop_rounds 2 ?_
  rw [rounds_succ]
  go_wp2
  rw [rounds_succ]
  go_wp2
  go_ret
  exact ⟨rfl, rfl⟩
set_option maxRecDepth 100000 in
set_option maxHeartbeats 8000000 in
theorem isNumber_lead {w : World} {es : List Int} {s : ByteArray} {N : Nat} (hb : Byt es) (hs : s = strOfNums es) (hN : es.length = N) (n0 : 0 < N) (h0 : Nt.lb es 0 = 48) (h1 : es ≠ [48]) :
    Calls Tryd.prog 57 #[.string s] w fun e w' => e = .returned (.bool false) ∧ w' = w := by
  have hsz : s.size = N := by rw [hs, strOfNums_size, hN]
  have hp0 : 0 < s.size := by omega
  have hx0 : (((s[0]'hp0).toNat : Nat) : Int) = 48 := by
    subst hs
    rw [txt_at hp0 hb, h0]
  have hne : s.toList.isEmpty = false := txt_full hp0
  have hne2 : ¬ s = ⟨#[48]⟩ := by
    intro e
    apply h1
    have hz : N = 1 := by rw [← hsz, e]; rfl
    cases es with
    | nil => simp at hN; omega
    | cons a r =>
      have hr : r = [] := List.eq_nil_of_length_eq_zero (by simp at hN; omega)
      subst hr
      have : a = 48 := by simpa [Nt.lb] using h0
      rw [this]
  have hne3 : (s.toList == [48]) = false := by
    rw [beq_eq_false_iff_ne]
    intro e
    exact hne2 (Go.WideShapes.bytes_inj (by rw [← ByteArray.toList_eq, e]))
  clear hs hN hb h0 h1
  go_enter Tryd.func57, Tryd.ntmps57
  go_wp2
  go_ret
  exact ⟨rfl, rfl⟩

set_option maxRecDepth 100000 in
set_option maxHeartbeats 8000000 in
theorem isNumber_gen {w : World} {es : List Int} {s : ByteArray} {N : Nat} (hb : Byt es) (hs : s = strOfNums es) (hN : es.length = N) (hl : N ≤ 9223372036854775807) (n0 : 0 < N) (h0 : Nt.lb es 0 ≠ 48) {b : Bool} (hB : b = decide (∀ k, k < N → 48 ≤ Nt.lb es k ∧ Nt.lb es k ≤ 57)) :
    Calls Tryd.prog 57 #[.string s] w fun e w' => e = .returned (.bool b) ∧ w' = w := by
  have hsz : s.size = N := by rw [hs, strOfNums_size, hN]
  have Hix := hide (show ∀ p (h : p < s.size), (((s[p]'h).toNat : Nat) : Int) = Nt.lb es p from fun p h => by subst hs; exact txt_at h hb)
  have Hby := hide (lb_byt hb)
  have HBd := hide hB
  clear hb hN hs hB
  have hp0 : 0 < s.size := by omega
  have hx0 := Hix.out 0 hp0
  have hz : (Nt.lb es 0 == 48) = false := by simp [h0]
  obtain ⟨d0, hd0⟩ : ∃ d, Nt.lb es 0 = d := ⟨_, rfl⟩
  rw [hd0] at hx0 hz
  clear hd0 h0
  have hne : s.toList.isEmpty = false := txt_full hp0
  have hN0 : (0 : Int) < (N : Int) := by omega
  go_enter Tryd.func57, Tryd.ntmps57
  go_wp2
  clear hx0 hz hne
  go_loopg [17] N (fun c i wr => ∃ k : Nat, k ≤ N ∧ c = N - k ∧ i = .int .i64 k ∧ (∀ j, j < k → 48 ≤ Nt.lb es j ∧ Nt.lb es j ≤ 57) ∧ wr = w)
  case atStart => exact ⟨0, by omega, rfl, rfl, fun j hj => absurd hj (by omega), rfl⟩
  case round =>
    obtain ⟨k, hk, hgk, rfl, hall, hw⟩ := hrel
    replace hw := hw.symm
    subst hw
    have HALL := hide hall
    clear hall
    by_cases hkl : k < N
    · have hps : k < s.size := by omega
      have hx := Hix.out k hps
      have hby := Hby.out k
      obtain ⟨d, hdd⟩ : ∃ d, Nt.lb es k = d := ⟨_, rfl⟩
      rw [hdd] at hx hby
      have HDD := hide hdd
      clear hdd
      have q4 : (k : Int) < (N : Int) := by omega
      obtain ⟨y0, y1⟩ := hby
      by_cases c1 : d < 48
      · have hbf : b = false := by rw [HBd.out]; exact decide_eq_false (fun h => by have := h k hkl; rw [HDD.out] at this; omega)
        subst hbf
        go_wp2
        go_ret
        exact ⟨rfl, rfl⟩
      · by_cases c2 : 57 < d
        · have hbf : b = false := by rw [HBd.out]; exact decide_eq_false (fun h => by have := h k hkl; rw [HDD.out] at this; omega)
          subst hbf
          go_wp2
          go_ret
          exact ⟨rfl, rfl⟩
        · have HNX := hide (show ∀ j, j < k + 1 → 48 ≤ Nt.lb es j ∧ Nt.lb es j ≤ 57 from fun j hj => by
            rcases Nat.lt_or_ge j k with c | c
            · exact HALL.out j c
            · rw [show j = k by omega, HDD.out]; omega)
          go_wp2
          go_roundg (N - (k + 1))
          case measure => omega
          case rel => exact ⟨k + 1, by omega, rfl, by simp, HNX.out, rfl⟩
    · have hbt : b = true := by rw [HBd.out]; exact decide_eq_true (fun j hj => HALL.out j (by omega))
      subst hbt
      go_wp2
      go_ret
      exact ⟨rfl, rfl⟩

theorem all_dg_iff {es : List Int} : (∀ k, k < es.length → 48 ≤ Nt.lb es k ∧ Nt.lb es k ≤ 57) ↔ Dg es :=
  ⟨fun h => all_dg0 h, fun h k hk => h _ (lb_in hk)⟩
theorem isNumber_all {w : World} {es : List Int} {s : ByteArray} (hb : Byt es) (hs : s = strOfNums es) (hl : es.length ≤ 9223372036854775807) {b : Bool} (hB : b = true ↔ Nmb es) :
    Calls Tryd.prog 57 #[.string s] w fun e w' => e = .returned (.bool b) ∧ w' = w := by
  rcases Nat.eq_zero_or_pos es.length with c | c
  · have he : es = [] := List.eq_nil_of_length_eq_zero c
    have hbf : b = false := by
      cases b with
      | false => rfl
      | true => exact absurd (hB.1 rfl).1 (by omega)
    subst he hbf
    rw [hs, txt_nil]
    exact isNumber_nil
  · by_cases h0 : Nt.lb es 0 = 48
    · by_cases h1 : es = [48]
      · have hbt : b = true := hB.2 (by rw [h1]; exact ⟨by simp, fun x hx => by simp at hx; omega, .inr rfl⟩)
        subst hbt
        rw [hs, h1]
        exact isNumber_48
      · have hbf : b = false := by
          cases b with
          | false => rfl
          | true =>
            rcases (hB.1 rfl).2.2 with k | k
            · exact absurd h0 k
            · exact absurd k h1
        subst hbf
        exact isNumber_lead hb hs rfl c h0 h1
    · refine isNumber_gen hb hs rfl hl c h0 ?_
      rw [Bool.eq_iff_iff, decide_eq_true_iff, all_dg_iff, hB]
      exact ⟨fun h => h.2.1, fun h => ⟨c, h, .inl h0⟩⟩

theorem qnumber_both {w : World} {es : List Int} {s : ByteArray} {N : Nat} {tv : Value} (hd : Dg es) (hs : s = strOfNums es) (hN : es.length = N) (hl : N ≤ 134217728) (ht : TensV w N tv) :
    Calls Tryd.prog 58 #[.string s, tv] w fun e w' => ∃ v k, e = .returned v ∧ Num w.heap.size w' v (dgv es) k ∧ k ≤ 16000000 ∧ Below w.heap.size w w' := by
  rcases ht with ⟨h1, rfl⟩ | ⟨g, j, c, rfl, h1, h2, h2', h4, h3⟩
  · refine (qnumber_leaf hd hs hN (by omega)).mono ?_
    rintro e w' ⟨v, rfl, hv, hB⟩
    exact ⟨v, _, rfl, hv, by omega, hB⟩
  · refine (qnumber_any j hd hs hN h4 hl h3 h1 h2 h2').mono ?_
    rintro e w' ⟨v, rfl, hv, hB⟩
    refine ⟨v, _, rfl, hv, ?_, hB⟩
    have : 2 ^ j ≤ 2 ^ 18 := Nat.pow_le_pow_right (by omega) h1
    omega
theorem canon_short {zs : List Int} (hc : Nt.Canon zs) (k : Nat) : zs.length ≤ k ↔ Nt.val zs < Nt.pw k := by
  refine ⟨fun h => ?_, fun h => ?_⟩
  · have h1 := Nt.val_lt hc.1
    have h2 := Nt.pw_mono h
    omega
  · rcases Nat.lt_or_ge k zs.length with c | c
    · exfalso
      have h1 := Nt.canon_low hc (by intro e; subst e; simp at c)
      have h2 := Nt.pw_mono (m := k) (n := zs.length - 1) (by omega)
      omega
    · exact c

/-- what a text tells: a number, or none -/
def Rdv (es : List Int) (b : Bool) (n : Int) : Prop := (b = true ↔ Nmb es ∧ dgv es < Nt.pw 262144) ∧ n = if b = true then dgv es else 0
theorem long_big {es : List Int} (h : Nmb es) (hl : 2525223 < es.length) : Nt.pw 262144 ≤ dgv es := by
  have h1 : Nt.lb es 0 ≠ 48 := by
    rcases h.2.2 with c | c
    · exact c
    · rw [c] at hl; simp at hl
  have h2 := dg_lead' h.2.1 h.1 h1
  have h3 := room_all 8388608
  have h4 := tn_mono (a := 8388608 * 30103 / 100000 + 1) (b := es.length - 1) (by omega)
  have h5 := p2_32 262144
  have h6 : 32 * 262144 = 8388608 := by omega
  rw [h6] at h5
  generalize tn (8388608 * 30103 / 100000 + 1) = T at *
  generalize tn (es.length - 1) = U at *
  generalize p2 8388608 = P at *
  generalize Nt.pw 262144 = Q at *
  omega

set_option maxRecDepth 100000 in
set_option maxHeartbeats 8000000 in
theorem qread_any {w : World} {es : List Int} {s : ByteArray} {b : Bool} {n : Int} (hb : Byt es) (hs : s = strOfNums es) (hl : es.length ≤ 9223372036854775807) (h : Rdv es b n) :
    Calls Tryd.prog 15 #[.string s] w fun e w' => ∃ v, e = .returned (.tuple #[v, .bool b]) ∧ Num w.heap.size w' v n 262144 ∧ Below w.heap.size w w' := by
  obtain ⟨hb1, hn⟩ := h
  obtain ⟨N, hN⟩ : ∃ N, es.length = N := ⟨_, rfl⟩
  have hsz : s.size = N := by rw [hs, strOfNums_size, hN]
  obtain ⟨c, hc⟩ : ∃ c : Bool, c = true ↔ Nmb es := ⟨@decide (Nmb es) (Classical.propDecidable _), by simp⟩
  have H1 := isNumber_all (w := w) hb hs hl hc
  rw [hN] at hl
  have HS := hide hs
  have HC := hide hc
  have HBn := hide (And.intro hb1 hn)
  have HNN := hide hN
  clear hs hc hb1 hn hb hN
  cases c with
  | false =>
    have hbf : b = false := by
      cases b with
      | false => rfl
      | true => exact absurd (HC.out.2 (HBn.out.1.1 rfl).1) (by simp)
    subst hbf
    have hn0 : n = 0 := by rw [HBn.out.2, if_neg (by decide)]
    subst hn0
    go_enter Tryd.func15, Tryd.ntmps15
    go_wp2_with fail
    refine H1.mono ?_
    clear H1
    rintro e w' ⟨rfl, rfl⟩
    go_wp2
    go_ret2
    exact ⟨_, rfl, num_none _ _ _, Below.refl _ _⟩
  | true =>
    have HM := hide (HC.out.1 rfl)
    go_enter Tryd.func15, Tryd.ntmps15
    go_wp2_with fail
    refine H1.mono ?_
    clear H1
    rintro e w' ⟨rfl, rfl⟩
    go_wp2_with fail
    refine (room_any (n := 8388608) (by omega) (by omega)).mono ?_
    rintro e w1 ⟨rfl, rfl⟩
    by_cases hbig : 2525223 < N
    · have hbf : b = false := by
        cases b with
        | false => rfl
        | true =>
          have h1 := (HBn.out.1.1 rfl).2
          have h2 := long_big HM.out (by rw [HNN.out]; exact hbig)
          omega
      subst hbf
      have hn0 : n = 0 := by rw [HBn.out.2, if_neg (by decide)]
      subst hn0
      have hr : (2525223 : Int) < (N : Int) := by omega
      go_wp2
      go_ret2
      exact ⟨_, rfl, num_none _ _ _, Below.refl _ _⟩
    · have hr : ¬ (2525223 : Int) < (N : Int) := by omega
      go_wp2_with fail
      refine (tens_both (n := N) (by omega)).mono ?_
      rintro e w2 ⟨tv, rfl, hT, _, b2⟩
      have HT := hide (And.intro hT b2)
      have htv : ∃ ao l c, tv = .slice ao l c := by
        rcases hT with ⟨_, h⟩ | ⟨_, _, _, h, _⟩
        · exact ⟨_, _, _, h⟩
        · exact ⟨_, _, _, h⟩
      clear hT b2
      go_wp2_with fail
      refine (qnumber_both HM.out.2.1 HS.out HNN.out (by omega) HT.out.1).mono ?_
      rintro e w3 ⟨v, k, rfl, hA, hk, b3⟩
      have HA := hide (And.intro (hA.low HT.out.2.size) (below_trans HT.out.2 b3))
      obtain ⟨zs, ⟨ao, rfl, -⟩, hzc, hzv, hz⟩ := hA
      have hcs := canon_short hzc 262144
      rw [hzv] at hcs
      by_cases hlen : 262144 < zs.length
      · have hbf : b = false := by
          cases b with
          | false => rfl
          | true => exact absurd (hcs.2 (HBn.out.1.1 rfl).2) (by omega)
        subst hbf
        have hn0 : n = 0 := by rw [HBn.out.2, if_neg (by decide)]
        subst hn0
        have hz2 : (262144 : Int) < (zs.length : Int) := by omega
        clear b3 hcs hzc hzv
        go_wp2
        go_ret2
        exact ⟨_, rfl, num_none _ _ _, HA.out.2⟩
      · have hbt : b = true := HBn.out.1.2 ⟨HM.out, hcs.1 (by omega)⟩
        have HL := hide (hcs.1 (by omega))
        subst hbt
        have hn0 : n = dgv es := by rw [HBn.out.2, if_pos rfl]
        subst hn0
        have hz2 : ¬ (262144 : Int) < (zs.length : Int) := by omega
        have hz3 := hide hlen
        have hz4 := hide (And.intro hz hk)
        clear b3 hcs hzc hzv hlen hz hk
        have hz5 : decide ((262144 : Int) < (zs.length : Int)) = false := decide_eq_false hz2
        clear hz2
        go_wp2
        go_ret2
        exact ⟨_, rfl, HA.out.1.tight HL.out, HA.out.2⟩

end Go.Proofs.YtgaldbfgmbaebaaDoor
