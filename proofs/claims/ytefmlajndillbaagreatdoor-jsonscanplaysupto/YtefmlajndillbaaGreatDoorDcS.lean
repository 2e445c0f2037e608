/- layer 16: the document's scanner in memory -/
import Derived.Test.YtefmlajndillbaaGreatDoorJsO
import Derived.Test.YtefmlajndillbaaGreatDoorJsLm
namespace Go.Proofs.YtefmlajndillbaaGreatDoor
open Go.RowKit
set_option linter.unusedVariables false

/-- what its cells say -/
structure Dc where
  mode : Int
  opn : List Int
  lm : Int
  l : Int
  n : Int
  h : Int
  lo : Int
  mo : Int
  keys : Bool
  rest : List Int
  size : Int
  code : Int
  at_ : Int
def dcC (tv : Value) (d : Dc) : Array Value :=
  #[.bool true, .int .i64 d.mode, .string (strOfNums d.opn), .int .i64 d.lm, .int .i64 d.l, .int .i64 d.n, .int .i64 d.h, .int .u8 d.lo, .int .u8 d.mo, tv, .bool d.keys, .string (strOfNums d.rest), .int .i64 d.size, .int .i64 d.code, .int .i64 d.at_, .string ⟨#[]⟩]
structure DcS (w : World) (B p : Nat) (tv : Value) (es : List Int) (d : Dc) : Prop where
  blk : w.heap[p]? = some (.cells (dcC tv d) 41 (0, 0))
  own : w.ownsRow B 5 1 tv es.length (es.map (Value.int .u8))
  le : B ≤ p
theorem DcS.lt {w : World} {B p : Nat} {tv : Value} {es : List Int} {d : Dc} (H : DcS w B p tv es d) : p < w.heap.size := (Array.getElem?_eq_some_iff.1 H.blk).1
theorem dc_ne {w : World} {B p : Nat} {tv tv' : Value} {es : List Int} {d : Dc} (h : w.heap[p]? = some (.cells (dcC tv d) 41 (0, 0))) (ho : w.ownsRow B 5 1 tv' es.length (es.map (Value.int .u8))) : tv'.ownBlock ≠ some p := by
  intro e
  rcases ho.2 with ⟨rfl, _⟩ | ⟨g, cap, cur, rfl, _, hg, _⟩
  · simp [Value.ownBlock] at e
  · simp [Value.ownBlock] at e
    subst e
    rw [h] at hg
    injection hg with hg
    injection hg with _ h2 _
    exact absurd h2 (by decide)
theorem DcS.ne {w : World} {B p : Nat} {tv : Value} {es : List Int} {d : Dc} (H : DcS w B p tv es d) : tv.ownBlock ≠ some p := dc_ne H.blk H.own
theorem DcS.ownLt {w : World} {B p : Nat} {tv : Value} {es : List Int} {d : Dc} (H : DcS w B p tv es d) : ∀ k, tv.ownBlock = some k → B ≤ k ∧ k < w.heap.size := H.own.lt
theorem DcS.below {w' : World} {w : World} {B p : Nat} {tv : Value} {es : List Int} {d : Dc} (H : DcS w B p tv es d) (hb : Below w.heap.size w w') : DcS w' B p tv es d :=
  ⟨by rw [hb.block _ H.lt]; exact H.blk, H.own.kept (row := none) ⟨hb.os, hb.tape, hb.output, hb.size, fun k hk _ => hb.block k hk⟩ (by cases hv : tv.ownBlock <;> simp), H.le⟩
theorem DcS.drew {w : World} {B p : Nat} {tv : Value} {es : List Int} {d : Dc} (H : DcS w B p tv es d) : DcS w.drew B p tv es d := H.below (Below.refl _ _).drew
theorem DcS.keepOwn {i : Nat} {w : World} {B p : Nat} {tv : Value} {es : List Int} {d : Dc} (H : DcS w B p tv es d) (u : Value) : (w.setCell ⟨p, i, none⟩ u).ownsRow B 5 1 tv es.length (es.map (Value.int .u8)) := H.own.kept (ScS.grow u) (Or.inr H.ne)
theorem DcS.cell {w : World} {B p : Nat} {tv : Value} {es : List Int} {d : Dc} (H : DcS w B p tv es d) (i : Nat) : w.cell? ⟨p, i, none⟩ = (dcC tv d)[i]? := Lib.cell_of_heap H.blk i
theorem DcS.frz {w : World} {B p : Nat} {tv : Value} {es : List Int} {d : Dc} (H : DcS w B p tv es d) (i : Nat) : w.frozen? ⟨p, i, none⟩ = false := frozen_of_row _ p i _ _ H.blk
theorem DcS.across {u w5 : World} {w : World} {B p : Nat} {tv : Value} {es : List Int} {d : Dc} (H : DcS w B p tv es d) (hu : Below w.heap.size w u) (hg : u.grownBy w5 tv.ownBlock) : w5.heap[p]? = some (.cells (dcC tv d) 41 (0, 0)) := by
  rw [hg.block p (Nat.lt_of_lt_of_le H.lt hu.size) (fun e => H.ne e.symm), hu.block p H.lt]
  exact H.blk
/-- its text is another -/
theorem dc_put {w : World} {B p : Nat} {tv tv' : Value} {es : List Int} {d : Dc} (h : w.heap[p]? = some (.cells (dcC tv d) 41 (0, 0))) (hB : B ≤ p) (ho : w.ownsRow B 5 1 tv' es.length (es.map (Value.int .u8))) :
    DcS (w.setCell ⟨p, 9, none⟩ tv') B p tv' es d :=
  ⟨heap_setCell_same w p 9 _ _ _ h, ho.kept (ScS.grow _) (Or.inr (dc_ne h ho)), hB⟩
theorem DcS.mode {w : World} {B p : Nat} {tv : Value} {es : List Int} {d : Dc} (H : DcS w B p tv es d) (x : Int) : DcS (w.setCell ⟨p, 1, none⟩ (.int .i64 x)) B p tv es { d with mode := x } := ⟨heap_setCell_same w p 1 _ _ _ H.blk, H.keepOwn _, H.le⟩
theorem DcS.lm {w : World} {B p : Nat} {tv : Value} {es : List Int} {d : Dc} (H : DcS w B p tv es d) (x : Int) : DcS (w.setCell ⟨p, 3, none⟩ (.int .i64 x)) B p tv es { d with lm := x } := ⟨heap_setCell_same w p 3 _ _ _ H.blk, H.keepOwn _, H.le⟩
theorem DcS.l {w : World} {B p : Nat} {tv : Value} {es : List Int} {d : Dc} (H : DcS w B p tv es d) (x : Int) : DcS (w.setCell ⟨p, 4, none⟩ (.int .i64 x)) B p tv es { d with l := x } := ⟨heap_setCell_same w p 4 _ _ _ H.blk, H.keepOwn _, H.le⟩
theorem DcS.n {w : World} {B p : Nat} {tv : Value} {es : List Int} {d : Dc} (H : DcS w B p tv es d) (x : Int) : DcS (w.setCell ⟨p, 5, none⟩ (.int .i64 x)) B p tv es { d with n := x } := ⟨heap_setCell_same w p 5 _ _ _ H.blk, H.keepOwn _, H.le⟩
theorem DcS.h {w : World} {B p : Nat} {tv : Value} {es : List Int} {d : Dc} (H : DcS w B p tv es d) (x : Int) : DcS (w.setCell ⟨p, 6, none⟩ (.int .i64 x)) B p tv es { d with h := x } := ⟨heap_setCell_same w p 6 _ _ _ H.blk, H.keepOwn _, H.le⟩
theorem DcS.size {w : World} {B p : Nat} {tv : Value} {es : List Int} {d : Dc} (H : DcS w B p tv es d) (x : Int) : DcS (w.setCell ⟨p, 12, none⟩ (.int .i64 x)) B p tv es { d with size := x } := ⟨heap_setCell_same w p 12 _ _ _ H.blk, H.keepOwn _, H.le⟩
theorem DcS.code {w : World} {B p : Nat} {tv : Value} {es : List Int} {d : Dc} (H : DcS w B p tv es d) (x : Int) : DcS (w.setCell ⟨p, 13, none⟩ (.int .i64 x)) B p tv es { d with code := x } := ⟨heap_setCell_same w p 13 _ _ _ H.blk, H.keepOwn _, H.le⟩
theorem DcS.at_ {w : World} {B p : Nat} {tv : Value} {es : List Int} {d : Dc} (H : DcS w B p tv es d) (x : Int) : DcS (w.setCell ⟨p, 14, none⟩ (.int .i64 x)) B p tv es { d with at_ := x } := ⟨heap_setCell_same w p 14 _ _ _ H.blk, H.keepOwn _, H.le⟩
theorem DcS.lo {w : World} {B p : Nat} {tv : Value} {es : List Int} {d : Dc} (H : DcS w B p tv es d) (x : Int) : DcS (w.setCell ⟨p, 7, none⟩ (.int .u8 x)) B p tv es { d with lo := x } := ⟨heap_setCell_same w p 7 _ _ _ H.blk, H.keepOwn _, H.le⟩
theorem DcS.mo {w : World} {B p : Nat} {tv : Value} {es : List Int} {d : Dc} (H : DcS w B p tv es d) (x : Int) : DcS (w.setCell ⟨p, 8, none⟩ (.int .u8 x)) B p tv es { d with mo := x } := ⟨heap_setCell_same w p 8 _ _ _ H.blk, H.keepOwn _, H.le⟩
theorem DcS.keys {w : World} {B p : Nat} {tv : Value} {es : List Int} {d : Dc} (H : DcS w B p tv es d) (x : Bool) : DcS (w.setCell ⟨p, 10, none⟩ (.bool x)) B p tv es { d with keys := x } := ⟨heap_setCell_same w p 10 _ _ _ H.blk, H.keepOwn _, H.le⟩
theorem DcS.opn {w : World} {B p : Nat} {tv : Value} {es : List Int} {d : Dc} (H : DcS w B p tv es d) (x : List Int) : DcS (w.setCell ⟨p, 2, none⟩ (.string (strOfNums x))) B p tv es { d with opn := x } := ⟨heap_setCell_same w p 2 _ _ _ H.blk, H.keepOwn _, H.le⟩
theorem DcS.rest {w : World} {B p : Nat} {tv : Value} {es : List Int} {d : Dc} (H : DcS w B p tv es d) (x : List Int) : DcS (w.setCell ⟨p, 11, none⟩ (.string (strOfNums x))) B p tv es { d with rest := x } := ⟨heap_setCell_same w p 11 _ _ _ H.blk, H.keepOwn _, H.le⟩
/-- what the cells say of a literal's state -/
def XRep : XS → Int → Int → Int → Int → Int → Int → Prop
  | .start, md, _, _, h, _, _ => md = 0 ∧ h = 0
  | .inn, md, _, _, h, _, _ => md = 1 ∧ h = 0
  | .stroke, md, _, _, h, _, _ => md = 2 ∧ h = 0
  | .digs l' n' h', md, l, n, h, _, _ => md = 3 ∧ l = l' ∧ n = n' ∧ h = h'
  | .second h', md, _, _, h, _, _ => md = 4 ∧ h = h'
  | .letter h', md, _, _, h, _, _ => md = 5 ∧ h = h'
  | .byts l' lo' mo', md, l, _, h, lo, mo => md = 6 ∧ l = l' ∧ lo = lo' ∧ mo = mo' ∧ h = 0
  | .fin, md, _, _, _, _, _ => md = 7
/-- what a step of a literal leaves -/
def StepOut (w : World) (B p : Nat) (tv : Value) (es : List Int) (d : Dc) (σ : XS) (c : Int) (e : Ending) (w' : World) : Prop :=
  ∃ (ok : Bool) (tv' : Value) (es' : List Int) (lm l n h lo mo : Int), e = .returned (.bool ok) ∧ DcS w' B p tv' es' { d with lm := lm, l := l, n := n, h := h, lo := lo, mo := mo } ∧ Fr p tv tv' w w'
    ∧ ((ok = true ∧ ∃ τ u, xStep σ c = some (τ, u) ∧ es' = es ++ u ∧ XRep τ lm l n h lo mo) ∨ (ok = false ∧ xStep σ c = none))
section
variable {P : Program} (w : World)
/-- some elements more, on a list of one's own: in its own place, or in a new one -/
theorem drun_append (base : Nat) (t ty e : TypeId) (kd : IntKind) (bytes : Nat) (ht : P.underlying t = some (.slice e)) (hinf : (P.info? e).map (fun i => (i.zero, i.size, i.bytes)) = some (some (.int kd 0), 1, bytes))
    (v : Value) (n : Nat) (xs : List Int) (hown : w.ownsRow base e 1 v n (xs.map (Value.int kd))) (ao : Option Addr) (c : Nat) (ys : List Int) (hc : Cells kd w ao ys) (hy : 0 < ys.length)
    (h63 : n + ys.length ≤ maxLen) (hbytes : (n + ys.length) * bytes ≤ 140737488355328) (hbase : base ≤ w.heap.size) :
    ∃ v' w', (Builtin.append_ #[t, t] ty #[v, .slice ao ys.length c]).run P w = .ok v' w' ∧ w'.ownsRow base e 1 v' (n + ys.length) ((xs ++ ys).map (Value.int kd)) ∧ w.grownBy w' v.ownBlock ∧ (v'.ownBlock = v.ownBlock ∨ ∀ k, v'.ownBlock = some k → w.heap.size ≤ k) := by
  obtain ⟨i, hi, hz, hsz, hby⟩ := info_parts hinf
  obtain ⟨b0, off, rfl, _, hcell⟩ := hc hy
  obtain ⟨ad, had⟩ : ∃ ad : Addr, (⟨b0, off, none⟩ : Addr) = ad := ⟨_, rfl⟩
  have hnews : ∀ j u, (ys.map (Value.int kd))[j]? = some u → w.cell? (ad.add j) = some u := fun j u hu => by
    have hj : j < ys.length := by have := (List.getElem?_eq_some_iff.1 hu).1; simpa using this
    rw [← had, Addr.add_lit, hcell j hj]
    simp [hj] at hu
    rw [← hu]; simp [Nt.lb, hj]
  rw [had]
  have hone : ∀ u ∈ ys.map (Value.int kd), u.oneCell' = true := fun u hu => by
    obtain ⟨y, _, rfl⟩ := List.mem_map.1 hu; rfl
  obtain ⟨v', w', hr, h2, h3, _⟩ := run_append_own (P := P) w base t ty e i (.int kd 0) 1 bytes ht hi hz hsz hby rfl (by decide) v n _ hown ad ys.length c (ys.map (Value.int kd)) (by simp) hnews hone h63 hbytes hbase
  refine ⟨v', w', hr, by simpa using h2, h3, ?_⟩
  have h63' : ((n + ys.length : Nat) : Int) ≤ 9223372036854775807 := by unfold maxLen at h63; omega
  subst hby
  rcases hown.2 with ⟨rfl, rfl⟩ | ⟨g, cap, cur, rfl, hbg, hg, hnc, hcm, hcs, htake⟩
  · have hr' := run_append_nil (P := P) w t ty e i (.int kd 0) ht hi hz ad ys.length c (ys.map (Value.int kd)) (by simp [hsz]) hnews (by omega) (by omega) (by rw [Nat.zero_add] at hbytes; omega)
    rw [hr'] at hr
    injection hr with e1 e2
    right
    intro k hk
    rw [← e1] at hk
    simp [Value.ownBlock] at hk
    omega
  · by_cases hroom : n + ys.length ≤ cap
    · have hr' := run_append_room (P := P) w t ty e i ht hi g n cap cur hg ad ys.length c (ys.map (Value.int kd)) (by simp [hsz]) hnews hone hroom (by simp [hsz, hcs]; omega)
      rw [hr'] at hr
      injection hr with e1 e2
      left
      rw [← e1]
      rfl
    · have holds : ∀ j u, (xs.map (Value.int kd))[j]? = some u → w.cell? ((⟨g, 0, none⟩ : Addr).add j) = some u := hown.cells (g := g) rfl
      have hr' := run_append_grow (P := P) w t ty e i (.int kd 0) ht hi hz ⟨g, 0, none⟩ n cap (xs.map (Value.int kd)) (by rw [hown.1, hsz]) holds ad ys.length c (ys.map (Value.int kd)) (by simp [hsz]) hnews (by omega) h63' (growslice_fits (by omega) hbytes)
      rw [hr'] at hr
      injection hr with e1 e2
      right
      intro k hk
      rw [← e1] at hk
      simp [Value.ownBlock] at hk
      omega
theorem dwpList_append {ops : Array Oper} {rest : List Oper} {o : Oper} {a : Act} {Q : Exit → Act → World → Prop} (hgd : Region.wanted o (yielded ops a.tmps) = true) (s x : Operand) (t : TypeId)
    (ho : o.op = .call { callee := .builtin .append, args := #[s, x], argTypes := #[t, t] })
    (base : Nat) (e : TypeId) (kd : IntKind) (bytes : Nat) (ht : P.underlying t = some (.slice e)) (hinf : (P.info? e).map (fun i => (i.zero, i.size, i.bytes)) = some (some (.int kd 0), 1, bytes))
    (v : Value) (n : Nat) (xs : List Int) (hs : a.eval s = v) (hown : w.ownsRow base e 1 v n (xs.map (Value.int kd))) (ao : Option Addr) (c : Nat) (ys : List Int) (hx : a.eval x = .slice ao ys.length c) (hc : Cells kd w ao ys) (hy : 0 < ys.length)
    (h63 : n + ys.length ≤ maxLen) (hbytes : (n + ys.length) * bytes ≤ 140737488355328) (hbase : base ≤ w.heap.size)
    (h : ∀ v' w', w'.ownsRow base e 1 v' (n + ys.length) ((xs ++ ys).map (Value.int kd)) → w.grownBy w' v.ownBlock → (v'.ownBlock = v.ownBlock ∨ ∀ k, v'.ownBlock = some k → w.heap.size ≤ k) → wpList P ops Q rest (a.put o.dst v') w') : wpList P ops Q (o :: rest) a w := by
  obtain ⟨v', w', hr, h2, h3, h4⟩ := drun_append (P := P) w base t o.type e kd bytes ht hinf v n xs hown ao c ys hc hy h63 hbytes hbase
  refine wpList_step fun K hK => ?_
  rw [hgd]
  simp only [if_true]
  unfold Oper.wp execOp
  simp only [ho, resolve, invoke, builtin, Sem.run_bind, Sem.run_pure, Result.andThen_ok, List.map_toArray, List.map_cons, List.map_nil, hs, hx, hr]
  exact hK _ _ (h v' w' h2 h3 h4)
/-- the same as one step of a region that draws its order -/
theorem dstep_append {w : World} {ops : Array Oper} {o : Oper} {a : Act} {K : Act → World → Prop} {Q : Exit → Act → World → Prop} {E : Prop} (hgd : o.guard = none) (s x : Operand) (t : TypeId)
    (ho : o.op = .call { callee := .builtin .append, args := #[s, x], argTypes := #[t, t] })
    (base : Nat) (e : TypeId) (kd : IntKind) (bytes : Nat) (ht : P.underlying t = some (.slice e)) (hinf : (P.info? e).map (fun i => (i.zero, i.size, i.bytes)) = some (some (.int kd 0), 1, bytes))
    (v : Value) (n : Nat) (xs : List Int) (hs : a.eval s = v) (hown : w.ownsRow base e 1 v n (xs.map (Value.int kd))) (ao : Option Addr) (L c : Nat) (ys : List Int) (hx : a.eval x = .slice ao L c) (hL : L = ys.length) (hc : Cells kd w ao ys) (hy : 0 < ys.length)
    (h63 : n + ys.length ≤ maxLen) (hbytes : (n + ys.length) * bytes ≤ 140737488355328) (hbase : base ≤ w.heap.size)
    (h : ∀ v' w', w'.ownsRow base e 1 v' (n + ys.length) ((xs ++ ys).map (Value.int kd)) → w.grownBy w' v.ownBlock → (v'.ownBlock = v.ownBlock ∨ ∀ k, v'.ownBlock = some k → w.heap.size ≤ k) → K (a.put o.dst v') w') :
    if Region.wanted o (yielded ops a.tmps) = true then Oper.wp P o a w K Q else E := by
  have hw : Region.wanted o (yielded ops a.tmps) = true := by simp [Region.wanted, hgd]
  rw [if_pos hw]
  subst hL
  obtain ⟨v', w', hr, h2, h3, h4⟩ := drun_append (P := P) w base t o.type e kd bytes ht hinf v n xs hown ao c ys hc hy h63 hbytes hbase
  unfold Oper.wp execOp
  simp only [ho, resolve, invoke, builtin, Sem.run_bind, Sem.run_pure, Result.andThen_ok, List.map_toArray, List.map_cons, List.map_nil, hs, hx, hr]
  exact h v' w' h2 h3 h4
end
/-- behind an append to its text -/
theorem dc_grew {u w2 : World} {tv' : Value} {us : List Int} {w : World} {B p : Nat} {tv : Value} {es : List Int} {d : Dc} (H : DcS w B p tv es d) (hu : Below w.heap.size w u) (ho : w2.ownsRow B 5 1 tv' (es.length + us.length) ((es ++ us).map (Value.int .u8))) (hg : u.grownBy w2 tv.ownBlock) (hw : tv'.ownBlock = tv.ownBlock ∨ ∀ k, tv'.ownBlock = some k → u.heap.size ≤ k) :
    DcS (w2.setCell ⟨p, 9, none⟩ tv') B p tv' (es ++ us) d ∧ Fr p tv tv' w w2 ∧ w2.heap[p]? = some (.cells (dcC tv d) 41 (0, 0)) :=
  ⟨dc_put (H.across hu hg) H.le (by rw [List.length_append]; exact ho), Fr.across hu hg (hw.imp id fun h k e => Nat.le_trans hu.size (h k e)), H.across hu hg⟩
theorem down_some {w : World} {B : Nat} {v : Value} {n : Nat} {xs : List Value} (h : w.ownsRow B 5 1 v n xs) (hn : 0 < n) : ∃ g cap, v = .slice (some ⟨g, 0, none⟩) n cap := by
  rcases h.2 with ⟨_, h0⟩ | ⟨g, cap, cur, hv, _⟩
  · omega
  · exact ⟨g, cap, hv⟩

end Go.Proofs.YtefmlajndillbaaGreatDoor
