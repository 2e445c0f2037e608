/- lists of pairs and of complex numbers -/
import Derived.Test.YtkaakhmncmpliaaRSumM
import Derived.Test.YtkaakhmncmpliaaAppZero
import Derived.Test.YtkaakhmncmpliaaRLives
namespace Go.Proofs.Ytkaakhmncmpliaa
open Go.RowKit
set_option linter.unusedVariables false

def cvals (zs : List (Nat × Nat)) : List Value := zs.map fun z => Value.complex .f64 z.1 z.2
theorem cvals_len (zs : List (Nat × Nat)) : (cvals zs).length = zs.length := by simp [cvals]
theorem cvals_at {zs : List (Nat × Nat)} {i : Nat} (h : i < zs.length) : (cvals zs)[i]? = some (.complex .f64 (cre zs i) (cim zs i)) := by
  simp [cvals, cre, cim, List.getD_eq_getElem?_getD, h]
theorem cvals_one (zs : List (Nat × Nat)) : ∀ u ∈ cvals zs, u.oneCell' = true := by
  intro u hu
  simp only [cvals, List.mem_map] at hu
  obtain ⟨z, _, rfl⟩ := hu
  rfl
/-- a slice that reads as a list of complex numbers -/
def CReads (w : World) (v : Value) (zs : List (Nat × Nat)) : Prop := ∃ ao cap, v = .slice ao zs.length cap ∧ zs.length ≤ cap ∧ cap ≤ maxLen ∧ CCells w ao zs
theorem CReads.below {w w' : World} {v : Value} {zs : List (Nat × Nat)} (h : CReads w v zs) (hb : Below w.heap.size w w') : CReads w' v zs := by
  obtain ⟨ao, cap, h1, h2, h3, h4⟩ := h
  exact ⟨ao, cap, h1, h2, h3, h4.below hb⟩
theorem creads_of_owns {w : World} {base : Nat} {e : TypeId} {v : Value} {n : Nat} {zs : List (Nat × Nat)} (h : w.ownsRow base e 1 v n (cvals zs)) : CReads w v zs := by
  obtain ⟨h1, h2⟩ := h
  have hl : zs.length = n := by rw [cvals_len] at h1; omega
  subst hl
  rcases h2 with ⟨rfl, h0⟩ | ⟨g, cap, cur, rfl, _, hg, hnc, hcm, _, htake⟩
  · refine ⟨none, 0, by rw [h0], by omega, by unfold maxLen; omega, fun hp => by omega⟩
  · refine ⟨some ⟨g, 0, none⟩, cap, rfl, hnc, hcm, fun _ => ⟨g, 0, rfl, (Array.getElem?_eq_some_iff.1 hg).1, fun i hi => ?_⟩⟩
    rw [Nat.zero_add, cell_of_row w g i cur e (0, 0) hg]
    have : (cur.toList.take (zs.length * 1))[i]? = (cvals zs)[i]? := by rw [htake]
    rw [List.getElem?_take, if_pos (by omega), cvals_at hi] at this
    simpa using this
/-- the first so many, and those behind them -/
theorem CCells.take {w : World} {ao : Option Addr} {zs : List (Nat × Nat)} (h : CCells w ao zs) {n : Nat} (hn : n ≤ zs.length) : CCells w ao (zs.take n) := by
  intro hp
  have hl : (zs.take n).length = n := by rw [List.length_take, Nat.min_eq_left hn]
  rw [hl] at hp
  obtain ⟨b, off, h1, h2, h3⟩ := h (by omega)
  refine ⟨b, off, h1, h2, fun i hi => ?_⟩
  rw [hl] at hi
  rw [h3 i (by omega)]
  unfold cre cim
  rw [List.getD_eq_getElem?_getD, List.getD_eq_getElem?_getD, List.getElem?_take, if_pos hi]
theorem CCells.drop {w : World} {b off : Nat} {zs : List (Nat × Nat)} (h : CCells w (some ⟨b, off, none⟩) zs) (n : Nat) : CCells w (some ⟨b, off + n, none⟩) (zs.drop n) := by
  intro hp
  rw [List.length_drop] at hp
  obtain ⟨b', off', h1, h2, h3⟩ := h (by omega)
  cases h1
  refine ⟨b, off + n, rfl, h2, fun i hi => ?_⟩
  rw [List.length_drop] at hi
  rw [Nat.add_assoc, h3 (n + i) (by omega)]
  unfold cre cim
  rw [List.getD_eq_getElem?_getD, List.getD_eq_getElem?_getD, List.getElem?_drop]

/-- append(v, src...), v the call's own, src whatever -/
theorem wpList_append_cplx {P : Program} (w : World) {ops : Array Oper} {rest : List Oper} {o : Oper} {a : Act} {Q : Exit → Act → World → Prop} (hgd : o.guard = none) (s x : Operand) (t : TypeId)
    (ho : o.op = .call { callee := .builtin .append, args := #[s, x], argTypes := #[t, t] })
    (base : Nat) (e : TypeId) (bytes : Nat) (ht : P.underlying t = some (.slice e)) (hinf : (P.info? e).map (fun i => (i.zero, i.size, i.bytes)) = some (some (.complex .f64 0 0), 1, bytes))
    (v : Value) (n : Nat) (xs : List (Nat × Nat)) (hs : a.eval s = v) (hown : w.ownsRow base e 1 v n (cvals xs)) (ao : Option Addr) (c : Nat) (ys : List (Nat × Nat)) (hx : a.eval x = .slice ao ys.length c) (hc : CCells w ao ys)
    (h63 : n + ys.length ≤ maxLen) (hbytes : (n + ys.length) * bytes ≤ 140737488355328) (hbase : base ≤ w.heap.size)
    (h : ∀ v' w', w'.ownsRow base e 1 v' (n + ys.length) (cvals (xs ++ ys)) → w.grownBy w' v.ownBlock → wpList P ops Q rest (a.put o.dst v') w') : wpList P ops Q (o :: rest) a w := by
  have hmap : cvals (xs ++ ys) = cvals xs ++ cvals ys := by simp [cvals]
  obtain ⟨i, hi, hz, hsz, hby⟩ : ∃ i, P.info? e = some i ∧ i.zero = some (.complex .f64 0 0) ∧ i.size = 1 ∧ i.bytes = bytes := by
    cases hq : P.info? e with
    | none => rw [hq] at hinf; cases hinf
    | some i =>
      rw [hq] at hinf
      simp at hinf
      exact ⟨i, rfl, hinf.1, hinf.2.1, hinf.2.2⟩
  cases ao with
  | none =>
    have h0 : ys = [] := by
      rcases Nat.eq_zero_or_pos ys.length with h0 | h0
      · exact List.eq_nil_of_length_eq_zero h0
      · obtain ⟨b, off, he, _⟩ := hc h0; cases he
    subst h0
    refine wpList_plain hgd fun K hK => ?_
    have hr := run_append_none (P := P) w base t o.type e i 1 ht hi v n c _ hown
    simp only [List.length_nil] at hx
    unfold Oper.wp execOp
    simp only [ho, resolve, invoke, builtin, Sem.run_bind, Sem.run_pure, Result.andThen_ok, List.map_toArray, List.map_cons, List.map_nil, hs, hx, hr]
    exact hK _ _ (h v w (by simpa using hown) ⟨rfl, rfl, rfl, Nat.le_refl _, fun _ _ _ => rfl⟩)
  | some ad =>
    refine wpList_append_own w hgd s x t ho base e i (.complex .f64 0 0) 1 bytes ht hi hz hsz hby rfl (by decide) v n _ hs hown ad ys.length c (cvals ys) hx (by rw [cvals_len]; simp) ?_ (cvals_one _) h63 hbytes hbase ?_
    · intro j u hu
      have hj : j < ys.length := by have := (List.getElem?_eq_some_iff.1 hu).1; rwa [cvals_len] at this
      obtain ⟨b, off, he, _, hcell⟩ := hc (by omega)
      cases he
      rw [Addr.add_lit, hcell j hj]
      rw [cvals_at hj] at hu
      exact hu
    · intro v' w' h1 h2 _
      exact h v' w' (by rw [hmap]; exact h1) h2

theorem wpList_append_cplx_n {P : Program} (w : World) {ops : Array Oper} {rest : List Oper} {o : Oper} {a : Act} {Q : Exit → Act → World → Prop} (hgd : o.guard = none) (s x : Operand) (t : TypeId)
    (ho : o.op = .call { callee := .builtin .append, args := #[s, x], argTypes := #[t, t] })
    (base : Nat) (e : TypeId) (bytes : Nat) (ht : P.underlying t = some (.slice e)) (hinf : (P.info? e).map (fun i => (i.zero, i.size, i.bytes)) = some (some (.complex .f64 0 0), 1, bytes))
    (v : Value) (n : Nat) (xs : List (Nat × Nat)) (hs : a.eval s = v) (hown : w.ownsRow base e 1 v n (cvals xs)) (ao : Option Addr) (m c : Nat) (ys : List (Nat × Nat)) (hm : ys.length = m) (hx : a.eval x = .slice ao m c) (hc : CCells w ao ys)
    (h63 : n + m ≤ maxLen) (hbytes : (n + m) * bytes ≤ 140737488355328) (hbase : base ≤ w.heap.size)
    (h : ∀ v' w', w'.ownsRow base e 1 v' (n + m) (cvals (xs ++ ys)) → w.grownBy w' v.ownBlock → wpList P ops Q rest (a.put o.dst v') w') : wpList P ops Q (o :: rest) a w := by
  subst hm
  exact wpList_append_cplx w hgd s x t ho base e bytes ht hinf v n xs hs hown ao c ys hx hc h63 hbytes hbase h
theorem owns_one (w : World) (E : TypeId) (x y : Nat) : (w.alloc (.cells #[.complex .f64 x y] E)).ownsRow w.heap.size E 1 (.slice (some ⟨w.heap.size, 0, none⟩) 1 1) 1 (cvals [(x, y)]) := by
  refine ⟨rfl, Or.inr ⟨w.heap.size, 1, #[.complex .f64 x y], rfl, Nat.le_refl _, ?_, Nat.le_refl _, by unfold maxLen; decide, rfl, rfl⟩⟩
  rw [heap_alloc_new]
theorem ccells_sliced {w : World} {lo : Option Addr} {zs : List (Nat × Nat)} {lc k : Nat} (h : CCells w lo zs) (hc : zs.length ≤ lc) : CCells w (if lc = k then lo else Option.map (fun x => x.add k) lo) (zs.drop k) := by
  intro hp
  rw [List.length_drop] at hp
  obtain ⟨b, off, rfl, h2, h3⟩ := h (by omega)
  rw [if_neg (by omega)]
  have := CCells.drop (n := k) (fun _ => ⟨b, off, rfl, h2, h3⟩ : CCells w (some ⟨b, off, none⟩) zs) (by rw [List.length_drop]; exact hp)
  obtain ⟨b', off', h4, h5⟩ := this
  refine ⟨b', off', ?_, h5⟩
  rw [← h4, Option.map_some, Addr.add_lit]
theorem owns_below {w w' : World} {base : Nat} {e : TypeId} {size : Nat} {v : Value} {n : Nat} {xs : List Value} (h : w.ownsRow base e size v n xs) (hb : Below w.heap.size w w') : w'.ownsRow base e size v n xs := by
  obtain ⟨h1, h2⟩ := h
  refine ⟨h1, ?_⟩
  rcases h2 with h0 | ⟨g, cap, cur, h3, h4, h5, h6⟩
  · exact Or.inl h0
  · exact Or.inr ⟨g, cap, cur, h3, h4, (hb.block g (Array.getElem?_eq_some_iff.1 h5).1).trans h5, h6⟩
theorem below_own1 {w0 w w' : World} {B : Nat} {E : TypeId} {size : Nat} {v : Value} {n : Nat} {xs : List Value} (h : Below B w0 w) (hB : B ≤ w.heap.size) (ho : w.ownsRow B E size v n xs) (hg : w.grownBy w' v.ownBlock) : Below B w0 w' :=
  h.grown hg hB (fun k hk => (ho.lt k hk).1)

/-- a pair's parts, and the cells of a list of pairs -/
def pre (ps : List (Int × Int)) (i : Nat) : Int := (ps.getD i (0, 0)).1
def pim (ps : List (Int × Int)) (i : Nat) : Int := (ps.getD i (0, 0)).2
def POk (ps : List (Int × Int)) : Prop := ∀ i, (0 ≤ pre ps i ∧ pre ps i < 18446744073709551616) ∧ (0 ≤ pim ps i ∧ pim ps i < 18446744073709551616)
def PCells (w : World) (ao : Option Addr) (ps : List (Int × Int)) : Prop :=
  0 < ps.length → ∃ b off, ao = some ⟨b, off, none⟩ ∧ b < w.heap.size ∧ ∀ i, i < ps.length → w.cell? ⟨b, off + i * 2, none⟩ = some (.int .u64 (pre ps i)) ∧ w.cell? ⟨b, off + i * 2 + 1, none⟩ = some (.int .u64 (pim ps i))
theorem PCells.below {w w' : World} {ao : Option Addr} {ps : List (Int × Int)} (h : PCells w ao ps) (hb : Below w.heap.size w w') : PCells w' ao ps := by
  intro hp
  obtain ⟨b, off, h1, h2, h3⟩ := h hp
  exact ⟨b, off, h1, Nat.lt_of_lt_of_le h2 hb.size, fun i hi => ⟨(hb.cell (p := ⟨b, off + i * 2, none⟩) h2).trans (h3 i hi).1, (hb.cell (p := ⟨b, off + i * 2 + 1, none⟩) h2).trans (h3 i hi).2⟩⟩
def PReads (w : World) (v : Value) (ps : List (Int × Int)) : Prop := ∃ ao cap, v = .slice ao ps.length cap ∧ ps.length ≤ cap ∧ cap ≤ maxLen ∧ PCells w ao ps
theorem PReads.below {w w' : World} {v : Value} {ps : List (Int × Int)} (h : PReads w v ps) (hb : Below w.heap.size w w') : PReads w' v ps := by
  obtain ⟨ao, cap, h1, h2, h3, h4⟩ := h
  exact ⟨ao, cap, h1, h2, h3, h4.below hb⟩
/-- the complex numbers of the pairs -/
def cx (ps : List (Int × Int)) : List (Nat × Nat) := ps.map fun p => (p.1.toNat, p.2.toNat)
theorem cx_len (ps : List (Int × Int)) : (cx ps).length = ps.length := by simp [cx]
theorem cx_snoc (ps : List (Int × Int)) {i : Nat} (h : i < ps.length) : cx (ps.take (i + 1)) = cx (ps.take i) ++ [((pre ps i).toNat, (pim ps i).toNat)] := by
  rw [List.take_add_one, List.getElem?_eq_getElem h]
  unfold cx pre pim
  rw [List.map_append, List.getD_eq_getElem?_getD, List.getElem?_eq_getElem h]
  rfl
theorem cre_cx {ps : List (Int × Int)} (i : Nat) : cre (cx ps) i = (pre ps i).toNat ∧ cim (cx ps) i = (pim ps i).toNat := by
  unfold cre cim cx pre pim
  rw [List.getD_eq_getElem?_getD, List.getD_eq_getElem?_getD, List.getElem?_map]
  cases ps[i]? <;> exact ⟨rfl, rfl⟩
theorem c_one (w : World) (E : TypeId) (x y : Nat) : CCells (w.alloc (.cells #[.complex .f64 x y] E)) (some ⟨w.heap.size, 0, none⟩) [(x, y)] := by
  refine fun _ => ⟨w.heap.size, 0, rfl, by simp, fun i hi => ?_⟩
  rw [World.cell?_alloc_at _ _ _ _ rfl]
  match i, hi with
  | 0, _ => rfl
theorem c_two (w : World) (E : TypeId) (x y u v : Nat) : CCells (w.alloc (.cells #[.complex .f64 x y, .complex .f64 u v] E)) (some ⟨w.heap.size, 0, none⟩) [(x, y), (u, v)] := by
  refine fun _ => ⟨w.heap.size, 0, rfl, by simp, fun i hi => ?_⟩
  rw [World.cell?_alloc_at _ _ _ _ rfl]
  match i, hi with
  | 0, _ => rfl
  | 1, _ => rfl
theorem l_two (a b : Nat × Nat) : [a, b].length = 2 := rfl

end Go.Proofs.Ytkaakhmncmpliaa
