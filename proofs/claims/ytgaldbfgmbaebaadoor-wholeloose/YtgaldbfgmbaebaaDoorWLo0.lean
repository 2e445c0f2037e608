/- WholeLoose: whole.Show of a list with noughts behind it; a list and noughts, made in a region that draws its order -/
import Derived.Test.YtgaldbfgmbaebaaDoorTwL2
import Derived.Test.YtgaldbfgmbaebaaDoorQGw
import Derived.Test.YtgaldbfgmbaebaaDoorAppZero
import Derived.Deep.RegionHeld3
import Derived.Deep.AppendLies
import Derived.Deep.Cut
namespace Go.Proofs.YtgaldbfgmbaebaaDoor
open Go.RowKit
set_option linter.unusedVariables false

/-- the size of a whole number -/
def wab (n : Int) : Int := if n < 0 then -n else n
/-- a whole number's text -/
def wst (n : Int) (ds : List Int) : ByteArray := if n < 0 then ⟨#[45]⟩ ++ strOfNums ds else strOfNums ds
theorem wab_wn {ng : Bool} {a n : Int} (h : n = wn ng a) (h0 : 0 ≤ a) : wab n = a := by
  unfold wab
  unfold wn at h
  cases ng <;> simp at h <;> split <;> omega

set_option maxRecDepth 20000 in
set_option maxHeartbeats 4000000 in
theorem wshow_any {w : World} {v : Value} {n : Int} {k : Nat} (h : WArg w v n k) (hk : k ≤ 1048580) :
    Calls Tryd.prog 21 #[v] w fun e w' => ∃ ds, e = .returned (.string (wst n ds)) ∧ Dstr (wab n) ds ∧ ds.length ≤ 10200000 ∧ Below w.heap.size w w' := by
  obtain ⟨neg, m, a, rfl, ha, hn⟩ := h
  have A1 := ha
  have N1 := ha.nonneg
  obtain ⟨zs, ⟨ao, cap, rfl, -⟩, -⟩ := ha
  have K1 : Below w.heap.size w (w.alloc (.cells #[.bool neg, .slice ao zs.length cap] 38)) := bel_alloc _ _
  have C1 := cell2_new w (.bool neg) (.slice ao zs.length cap) 38
  have HC := hide C1
  have HN := hide hn
  have HAB := hide (wab_wn hn N1)
  clear C1 hn
  replace A1 := A1.below K1
  go_enter Tryd.func21, Tryd.ntmps21
  go_wp2_with fail
  with_reducible refine (sign_any A1 HN.out (by omega)).mono ?_
  rintro e w2 ⟨rfl, hb2⟩
  have p1 := (HC.out.below hb2).c1
  by_cases hneg : n < 0
  · have HWS := hide (show ∀ ds, wst n ds = ⟨#[45]⟩ ++ strOfNums ds from fun ds => if_pos hneg)
    have hsg : sgn n 0 = -1 := sgn_lt hneg
    go_wp2_with fail
    with_reducible refine (digits_any (A1.below hb2) (by omega)).mono ?_
    rintro e w3 ⟨ds, rfl, hds, hdl, hb3⟩
    have hsz : (strOfNums ds).size ≤ 10200000 := by rw [strOfNums_size]; exact hdl
    generalize hsd : strOfNums ds = s at *
    have HSD := hide hsd
    clear hsd
    have k1 : ¬ 9223372036854775807 < (⟨#[45]⟩ : ByteArray).size + s.size := by rw [show (⟨#[45]⟩ : ByteArray).size = 1 from rfl]; omega
    have HF := hide (K1.trans ((below_trans hb2 hb3).mono K1.size))
    have HD := hide hds
    clear hb2 hb3 hds
    go_wp2
    go_ret
    exact ⟨ds, congrArg (fun x => Ending.returned (.string x)) (by rw [HWS.out ds, HSD.out]), by rw [HAB.out]; exact HD.out, hdl, HF.out⟩
  · have HWS := hide (show ∀ ds, wst n ds = strOfNums ds from fun ds => if_neg hneg)
    have hsg : (sgn n 0 == -1) = false := by
      rcases Int.lt_or_le 0 n with c | c
      · rw [sgn_gt c]; rfl
      · rw [sgn_eq (by omega)]; rfl
    go_wp2_with fail
    with_reducible refine (digits_any (A1.below hb2) (by omega)).mono ?_
    rintro e w3 ⟨ds, rfl, hds, hdl, hb3⟩
    generalize hsd : strOfNums ds = s at *
    have HSD := hide hsd
    clear hsd
    have HF := hide (K1.trans ((below_trans hb2 hb3).mono K1.size))
    have HD := hide hds
    clear hb2 hb3 hds
    go_wp2
    go_ret
    exact ⟨ds, congrArg (fun x => Ending.returned (.string x)) (by rw [HWS.out ds, HSD.out]), by rw [HAB.out]; exact HD.out, hdl, HF.out⟩


section
variable {P : Program} {ops : Array Oper} {o : Oper} {a : Act} {w : World} {K : Act → World → Prop} {Q : Exit → Act → World → Prop} {E : Prop}
/-- append(v, src...) as one step of a region that draws its order; src whatever: nil, empty or not -/
theorem step_append_any (hgd : o.guard = none) (s x : Operand) (t : TypeId)
    (ho : o.op = .call { callee := .builtin .append, args := #[s, x], argTypes := #[t, t] })
    (base : Nat) (e : TypeId) (kd : IntKind) (bytes : Nat) (ht : P.underlying t = some (.slice e)) (hinf : (P.info? e).map (fun i => (i.zero, i.size, i.bytes)) = some (some (.int kd 0), 1, bytes))
    (v : Value) (n : Nat) (xs : List Int) (hs : a.eval s = v) (hown : w.ownsRow base e 1 v n (xs.map (Value.int kd))) (ao : Option Addr) (L c : Nat) (ys : List Int) (hx : a.eval x = .slice ao L c) (hL : L = ys.length) (hc : Cells kd w ao ys)
    (h63 : n + ys.length ≤ maxLen) (hbytes : (n + ys.length) * bytes ≤ 140737488355328) (hbase : base ≤ w.heap.size)
    (h : ∀ v' w', w'.ownsRow base e 1 v' (n + ys.length) ((xs ++ ys).map (Value.int kd)) → w.grownBy w' v.ownBlock → K (a.put o.dst v') w') :
    if Region.wanted o (yielded ops a.tmps) = true then Oper.wp P o a w K Q else E := by
  have hw : Region.wanted o (yielded ops a.tmps) = true := by simp [Region.wanted, hgd]
  rw [if_pos hw]
  subst hL
  obtain ⟨i, hi, hz, hsz, hby⟩ := info_parts hinf
  cases ao with
  | none =>
    have h0 : ys = [] := by
      rcases Nat.eq_zero_or_pos ys.length with h0 | h0
      · exact List.eq_nil_of_length_eq_zero h0
      · obtain ⟨b, off, he, _⟩ := hc h0; cases he
    subst h0
    have hr := run_append_none (P := P) w base t o.type e i 1 ht hi v n c _ hown
    simp only [List.length_nil] at hx
    unfold Oper.wp execOp
    simp only [ho, resolve, invoke, builtin, Sem.run_bind, Sem.run_pure, Result.andThen_ok, List.map_toArray, List.map_cons, List.map_nil, hs, hx, hr]
    exact h v w (by simpa using hown) ⟨rfl, rfl, rfl, Nat.le_refl _, fun _ _ _ => rfl⟩
  | some ad =>
    refine wp_append_own w s x t ho base e i (.int kd 0) 1 bytes ht hi hz hsz hby rfl (by decide) v n _ hs hown ad ys.length c (ys.map (Value.int kd)) hx (by simp) ?_ (ints_oneCell _ _) h63 hbytes hbase ?_
    · intro j u hu
      have hj : j < ys.length := by have := (List.getElem?_eq_some_iff.1 hu).1; simpa using this
      obtain ⟨b, off, he, _, hcell⟩ := hc (by omega)
      cases he
      rw [Addr.add_lit, hcell j hj]
      simp [hj] at hu
      rw [← hu]; simp [Nt.lb, hj]
    · intro v' w' h1 h2 _
      exact h v' w' (by simpa using h1) h2

/-- append(v, make([]T, m)...) as one step of such a region -/
theorem step_append_zeros (hgd : o.guard = none) (s x : Operand) (t ti : TypeId)
    (ho : o.op = .call { callee := .builtin .append, args := #[s, x], argTypes := #[t, ti] })
    (base : Nat) (e : TypeId) (kz kd : IntKind) (bytes : Nat) (ht : P.underlying t = some (.slice e)) (hti : P.underlying ti = some (.int kz)) (hinf : (P.info? e).map (fun i => (i.zero, i.size, i.bytes)) = some (some (.int kd 0), 1, bytes))
    (v : Value) (n : Nat) (xs : List Value) (hs : a.eval s = v) (hown : w.ownsRow base e 1 v n xs) (m : Nat) (M : Int) (hx : a.eval x = .int .i64 M) (hM : M = (m : Int))
    (h63 : n + m ≤ maxLen) (hbytes : (n + m) * bytes ≤ 140737488355328) (hbase : base ≤ w.heap.size)
    (h : ∀ v' w', w'.ownsRow base e 1 v' (n + m) (xs ++ List.replicate m (.int kd 0)) → w.grownBy w' v.ownBlock → K (a.put o.dst v') w') :
    if Region.wanted o (yielded ops a.tmps) = true then Oper.wp P o a w K Q else E := by
  have hw : Region.wanted o (yielded ops a.tmps) = true := by simp [Region.wanted, hgd]
  rw [if_pos hw]
  obtain ⟨i, hi, hz, hsz, hby⟩ := info_parts hinf
  subst hM
  obtain ⟨v', w', hr, h2, h3⟩ := run_append_zeros (P := P) w base t ti o.type e kz kd i bytes ht hti hi hz hsz hby v n xs hown m h63 hbytes hbase
  unfold Oper.wp execOp
  simp only [ho, resolve, invoke, builtin, Sem.run_bind, Sem.run_pure, Result.andThen_ok, List.map_toArray, List.map_cons, List.map_nil, hs, hx, hr]
  exact h v' w' h2 h3
end

theorem own_new0 {w : World} {B : Nat} {E : TypeId} (h : B ≤ w.heap.size) : (w.alloc (.cells #[] E)).ownsRow B E 1 (.slice (some ⟨w.heap.size, 0, none⟩) 0 0) 0 (([] : List Int).map (Value.int .u32)) :=
  ⟨by simp, .inr ⟨w.heap.size, 0, #[], rfl, h, heap_alloc_new w _, Nat.le_refl _, by unfold maxLen; omega, by simp, by simp⟩⟩

theorem own_new0' {w : World} {B b : Nat} {E : TypeId} (e : w.heap.size = b) (h : B ≤ b) : (w.alloc (.cells #[] E)).ownsRow B E 1 (.slice (some ⟨b, 0, none⟩) 0 0) 0 (([] : List Int).map (Value.int .u32)) := by
  subst e
  exact own_new0 h

/-- a list whose elements begin a block -/
def Loose (w : World) (v : Value) (zs : List Int) : Prop :=
  ∃ ao cap, v = .slice ao zs.length cap ∧ zs.length ≤ cap ∧ cap ≤ maxLen ∧ (0 < zs.length → ∃ g, ao = some ⟨g, 0, none⟩ ∧ g < w.heap.size ∧ ∀ i, i < zs.length → w.cell? ⟨g, 0 + i, none⟩ = some (.int .u32 (Nt.lb zs i)))
theorem Loose.reads {w : World} {v : Value} {zs : List Int} (h : Loose w v zs) : Reads .u32 w v zs := by
  obtain ⟨ao, cap, h1, h2, h3, h4⟩ := h
  refine ⟨ao, cap, h1, h2, h3, fun hp => ?_⟩
  obtain ⟨g, e, hl, hc⟩ := h4 hp
  exact ⟨g, 0, e, hl, hc⟩
theorem Loose.shape {w : World} {v : Value} {zs : List Int} (h : Loose w v zs) : ∃ ao cap, v = .slice ao zs.length cap := by
  obtain ⟨ao, cap, e, -⟩ := h
  exact ⟨ao, cap, e⟩
theorem Loose.below {w w' : World} {v : Value} {zs : List Int} (h : Loose w v zs) (hb : Below w.heap.size w w') : Loose w' v zs := by
  obtain ⟨ao, cap, h1, h2, h3, h4⟩ := h
  refine ⟨ao, cap, h1, h2, h3, fun hp => ?_⟩
  obtain ⟨g, e, hl, hc⟩ := h4 hp
  exact ⟨g, e, Nat.lt_of_lt_of_le hl hb.size, fun i hi => (hb.cell (p := ⟨g, 0 + i, none⟩) hl).trans (hc i hi)⟩
theorem Loose.set {w : World} {v : Value} {zs : List Int} (h : Loose w v zs) {b j : Nat} {z : Bool} (hz : w.cell? ⟨b, 0, none⟩ = some (.bool z)) (x : Value) : Loose (w.setCell ⟨b, j, none⟩ x) v zs := by
  obtain ⟨ao, cap, h1, h2, h3, h4⟩ := h
  refine ⟨ao, cap, h1, h2, h3, fun hp => ?_⟩
  obtain ⟨g, e, hl, hc⟩ := h4 hp
  have hne : g ≠ b := by
    intro e
    subst e
    have := hc 0 hp
    rw [hz] at this
    simp at this
  refine ⟨g, e, by simpa [World.setCell] using hl, fun i hi => ?_⟩
  rw [World.cell?_setCell_far _ _ _ _ (fun e => hne (by simpa using e.symm))]
  exact hc i hi
theorem loose_owns {w : World} {base : Nat} {E : TypeId} {v : Value} {n : Nat} {zs : List Int} (h : w.ownsRow base E 1 v n (zs.map (Value.int .u32))) : Loose w v zs := by
  obtain ⟨h1, h2⟩ := h
  have hl : zs.length = n := by simpa using h1
  subst hl
  rcases h2 with ⟨rfl, h0⟩ | ⟨g, cap, cur, rfl, _, hg, hnc, hcm, _, htake⟩
  · exact ⟨none, 0, by rw [h0], by omega, by unfold maxLen; omega, fun hp => by omega⟩
  · refine ⟨some ⟨g, 0, none⟩, cap, rfl, hnc, hcm, fun _ => ⟨g, rfl, (Array.getElem?_eq_some_iff.1 hg).1, fun i hi => ?_⟩⟩
    obtain ⟨ao, cap', e1, _, _, hc⟩ := reads_of_owns (k := .u32) (zs := zs) (w := w) (base := base) (e := E) (n := zs.length) (v := .slice (some ⟨g, 0, none⟩) zs.length cap) ⟨h1, .inr ⟨g, cap, cur, rfl, ‹_›, hg, hnc, hcm, ‹_›, htake⟩⟩
    obtain ⟨b, off, e2, _, hcc⟩ := hc (by omega)
    simp at e1
    obtain ⟨rfl, -⟩ := e1
    cases e2
    exact hcc i hi
theorem Loose.put {w : World} {v : Value} {zs : List Int} (h : Loose w v zs) {b : Nat} {z : Bool} {u : Value} (Z : Cell2 w b (.bool z) u) (x y : Value) : Loose ((w.setCell ⟨b, 0, none⟩ x).setCell ⟨b, 1, none⟩ y) v zs := by
  obtain ⟨ao, cap, h1, h2, h3, h4⟩ := h
  refine ⟨ao, cap, h1, h2, h3, fun hp => ?_⟩
  obtain ⟨g, e, hl, hc⟩ := h4 hp
  have hne : g ≠ b := by
    intro e
    subst e
    have := hc 0 hp
    rw [Z.c0] at this
    simp at this
  refine ⟨g, e, by simpa [World.setCell] using hl, fun i hi => ?_⟩
  rw [World.cell?_setCell_far _ _ _ _ (fun e => hne (by simpa using e.symm)), World.cell?_setCell_far _ _ _ _ (fun e => hne (by simpa using e.symm))]
  exact hc i hi
/-- a block that holds a whole number's noughts, just made -/
def ZI (w : World) (b : Nat) : Prop := w.heap[b]? = some (.cells #[.bool false, .slice none 0 0] 38)
theorem zi_new (w : World) : ZI (w.alloc (.cells #[.bool false, .slice none 0 0] 38)) w.heap.size := heap_alloc_new w _
theorem zi_new' {w : World} {b : Nat} (h : w.heap.size = b) : ZI (w.alloc (.cells #[.bool false, .slice none 0 0] 38)) b := h ▸ heap_alloc_new w _
theorem ZI.lt {w : World} {b : Nat} (h : ZI w b) : b < w.heap.size := (Array.getElem?_eq_some_iff.1 h).1
theorem ZI.alloc {w : World} {b : Nat} (h : ZI w b) (o : Obj) : ZI (w.alloc o) b := by
  unfold ZI
  rw [Below.heap_alloc w o b h.lt]
  exact h
theorem ZI.own {w w' : World} {b B n : Nat} {v : Value} {xs : List Value} (h : ZI w b) (ho : w.ownsRow B 26 1 v n xs) (hg : w.grownBy w' v.ownBlock) : ZI w' b := by
  unfold ZI
  rw [hg.block b h.lt ?_]
  · exact h
  · intro e
    rcases ho.2 with ⟨rfl, _⟩ | ⟨g, cap, cur, rfl, hb, hgb, _⟩
    · simp [Value.ownBlock] at e
    · simp [Value.ownBlock] at e
      subst e
      have hz : w.heap[b]? = some (.cells #[.bool false, .slice none 0 0] 38) := h
      rw [hz] at hgb
      simp at hgb
theorem ZI.cell2 {w : World} {b : Nat} (h : ZI w b) : Cell2 w b (.bool false) (.slice none 0 0) :=
  ⟨cell_of_row w b 0 _ _ _ h, cell_of_row w b 1 _ _ _ h, frozen_of_row w b 0 _ _ h, frozen_of_row w b 1 _ _ h, h.lt⟩
theorem own_grown {w0 w w' : World} {B : Nat} {E : TypeId} {v : Value} {n : Nat} {xs : List Value} (h : Below B w0 w) (hB : B ≤ w.heap.size) (ho : w.ownsRow B E 1 v n xs) (hg : w.grownBy w' v.ownBlock) : Below B w0 w' := h.grown hg hB (fun k e => (ho.lt k e).1)
/-- the number of such a list and noughts behind it -/
theorem loose_arg {w : World} {v : Value} {ng : Bool} {xs : List Int} {n : Int} {k m : Nat} (h : Loose w v (xs ++ List.replicate m 0)) (ho : Nt.Ok xs) (hl : xs.length ≤ k) (hm : m ≤ 4) (hn : n = wn ng (Nt.val xs)) : WArg w (.agg #[.bool ng, v]) n (k + 4) :=
  ⟨ng, v, _, rfl, ⟨_, h.reads, ok_noughts ho m, val_noughts xs m, by simp; omega⟩, hn⟩

theorem len_noughts (xs : List Int) (m : Nat) : (xs ++ List.replicate m (0 : Int)).length = xs.length + m := by simp
theorem Cell2.set0 {w : World} {b : Nat} {x y : Value} (h : Cell2 w b x y) (x' : Value) : Cell2 (w.setCell ⟨b, 0, none⟩ x') b x' y := by
  have n01 : (⟨b, 0, none⟩ : Addr) ≠ ⟨b, 1, none⟩ := by intro e; injection e with _ e _; cases e
  refine ⟨World.cell?_setCell_same _ _ _ h.c0, ?_, ?_, ?_, by simpa [World.setCell] using h.lt⟩
  · rw [World.cell?_setCell_other _ _ _ _ (by first | exact n01 | exact n01.symm)]
    exact h.c1
  · have := h.f0; simpa [go_sem] using this
  · have := h.f1; simpa [go_sem] using this
def qF (a b : Int) : Int := if b = 0 then 0 else a.tdiv b
def rF (a b : Int) : Int := if b = 0 then 0 else a.tmod b
theorem wquo_all {w : World} {v1 : Value} {n1 : Int} {k1 : Nat} {v2 : Value} {n2 : Int} {k2 : Nat} (h1 : WArg w v1 n1 k1) (j1 : k1 ≤ 549755813888) (h2 : WArg w v2 n2 k2) (j2 : k2 ≤ 549755813888) {ok : Bool} (hok : ok = decide (n2 ≠ 0)) :
    Calls Tryd.prog 33 #[v1, v2] w fun e w' => ∃ q r, e = .returned (.tuple #[q, r, .bool ok]) ∧ WNum w.heap.size w' q (qF n1 n2) k1 ∧ WNum w.heap.size w' r (rF n1 n2) k2 ∧ Below w.heap.size w w' := by
  subst hok
  by_cases hz : n2 = 0
  · refine (wquo_zero h1 j1 h2 j2 hz).mono ?_
    rintro e w' ⟨rfl, hb⟩
    refine ⟨_, _, by rw [decide_eq_false (by simpa using hz)], ?_, ?_, hb⟩
    · unfold qF; rw [if_pos hz]; exact wnum_zero _ _ _
    · unfold rF; rw [if_pos hz]; exact wnum_zero _ _ _
  · refine (wquo_any h1 j1 h2 j2 hz).mono ?_
    rintro e w' ⟨q, r, rfl, hq, hr, hb⟩
    refine ⟨q, r, by rw [decide_eq_true hz], ?_, ?_, hb⟩
    · unfold qF; rw [if_neg hz]; exact hq
    · unfold rF; rw [if_neg hz]; exact hr
def TwT (N : Nat) (x : Int) (s : ByteArray) (b : Bool) : Prop := (b = true ∧ Fits N x ∧ TStr N x s) ∨ (b = false ∧ ¬ Fits N x ∧ s = ⟨#[]⟩)
theorem TwT.unique {N : Nat} {x : Int} {s s' : ByteArray} {b b' : Bool} (h : TwT N x s b) (h' : TwT N x s' b') : s' = s ∧ b' = b := by
  rcases h with ⟨rfl, h1, h2⟩ | ⟨rfl, h1, h2⟩ <;> rcases h' with ⟨rfl, h3, h4⟩ | ⟨rfl, h3, h4⟩
  · exact ⟨tstr_one h4 h2, rfl⟩
  · exact absurd h1 h3
  · exact absurd h3 h1
  · exact ⟨by rw [h2, h4], rfl⟩
def I6T (n x : Int) (b : Bool) : Prop := (b = true ∧ x = n ∧ -9223372036854775808 ≤ n ∧ n ≤ 9223372036854775807) ∨ (b = false ∧ x = 0 ∧ ¬ (-9223372036854775808 ≤ n ∧ n ≤ 9223372036854775807))
theorem I6T.unique {n x x' : Int} {b b' : Bool} (h : I6T n x b) (h' : I6T n x' b') : x' = x ∧ b' = b := by
  rcases h with ⟨rfl, h1, h2⟩ | ⟨rfl, h1, h2⟩ <;> rcases h' with ⟨rfl, h3, h4⟩ | ⟨rfl, h3, h4⟩
  · exact ⟨by rw [h1, h3], rfl⟩
  · exact absurd h2 h4
  · exact absurd h4 h2
  · exact ⟨by rw [h1, h3], rfl⟩
theorem twos_t {w : World} {v : Value} {x : Int} {k : Nat} (h : WArg w v x k) (hk : k ≤ 1099511627776) :
    Calls Tryd.prog 34 #[v, .int .i64 9] w fun e w' => ∃ s b, e = .returned (.tuple #[.string s, .bool b]) ∧ TwT 9 x s b ∧ Below w.heap.size w w' := by
  refine (twos_any (N := 9) h hk (by omega) (by omega)).mono ?_
  rintro e w' ⟨⟨s, b, rfl, h1⟩, hb⟩
  exact ⟨s, b, rfl, h1, hb⟩
theorem twos_t2 {w : World} {v : Value} {x : Int} {k : Nat} {s : ByteArray} {b : Bool} (ht : TwT 9 x s b) (h : WArg w v x k) (hk : k ≤ 1099511627776) :
    Calls Tryd.prog 34 #[v, .int .i64 9] w fun e w' => e = .returned (.tuple #[.string s, .bool b]) ∧ Below w.heap.size w w' := by
  refine (twos_t h hk).mono ?_
  rintro e w' ⟨s', b', rfl, h1, hb⟩
  obtain ⟨rfl, rfl⟩ := ht.unique h1
  exact ⟨rfl, hb⟩
theorem i64_t {w : World} {v : Value} {x : Int} {k : Nat} (h : WArg w v x k) (hk : k ≤ 1099511627776) :
    Calls Tryd.prog 35 #[v] w fun e w' => ∃ y b, e = .returned (.tuple #[.int .i64 y, .bool b]) ∧ I6T x y b ∧ Below w.heap.size w w' := by
  refine (wint64_any h hk).mono ?_
  rintro e w' ⟨⟨s, b, rfl, h1⟩, hb⟩
  exact ⟨s, b, rfl, h1, hb⟩
theorem i64_t2 {w : World} {v : Value} {x y : Int} {k : Nat} {b : Bool} (ht : I6T x y b) (h : WArg w v x k) (hk : k ≤ 1099511627776) :
    Calls Tryd.prog 35 #[v] w fun e w' => e = .returned (.tuple #[.int .i64 y, .bool b]) ∧ Below w.heap.size w w' := by
  refine (i64_t h hk).mono ?_
  rintro e w' ⟨s', b', rfl, h1, hb⟩
  obtain ⟨rfl, rfl⟩ := ht.unique h1
  exact ⟨rfl, hb⟩
def ShT (n : Int) (s : ByteArray) : Prop := ∃ ds, Dstr (wab n) ds ∧ s = wst n ds
theorem show_t {w : World} {v : Value} {n : Int} {k : Nat} (h : WArg w v n k) (hk : k ≤ 1048580) :
    Calls Tryd.prog 21 #[v] w fun e w' => ∃ s, e = .returned (.string s) ∧ ShT n s ∧ Below w.heap.size w w' := by
  refine (wshow_any h hk).mono ?_
  rintro e w' ⟨ds, rfl, h1, -, hb⟩
  exact ⟨_, rfl, ⟨ds, h1, rfl⟩, hb⟩
theorem show_t2 {w : World} {v : Value} {n : Int} {k : Nat} {s : ByteArray} (ht : ShT n s) (h : WArg w v n k) (hk : k ≤ 1048580) :
    Calls Tryd.prog 21 #[v] w fun e w' => e = .returned (.string s) ∧ Below w.heap.size w w' := by
  refine (show_t h hk).mono ?_
  rintro e w' ⟨s', rfl, ⟨ds', h1, rfl⟩, hb⟩
  obtain ⟨ds, h2, rfl⟩ := ht
  rw [h1.unique h2]
  exact ⟨rfl, hb⟩

end Go.Proofs.YtgaldbfgmbaebaaDoor
