/- OApW, OMine, OOdC, OOdI, ODrM, ODrC -/
import Derived.WalkSmall
import Derived.Test.YtboikfcmbfaaeaaR07
import Derived.Test.YtboikfcmbfaaeaaR05
import Derived.Test.YtboikfcmbfaaeaaR06
import Derived.Test.YtboikfcmbfaaeaaR03
import Derived.Maps.AppendAt
namespace Go.Proofs.Ytboikfcmbfaaeaa
open Go.RowKit Go.Shelf
set_option linter.unusedVariables false
set_option linter.unusedSimpArgs false

end Go.Proofs.Ytboikfcmbfaaeaa

namespace Go.Proofs.Ytboikfcmbfaaeaa
open Go.RowKit Go.Shelf
set_option linter.unusedVariables false
set_option linter.unusedSimpArgs false

/-- a list of one's own in a block from lo on and below hi, with its capacity -/
structure Mine (lo hi cp : Nat) (W : World) (v : Value) (l : List It) : Prop where
  own : W.ownsRow lo 29 2 v l.length (flat l)
  at_ : ∀ k, v.ownBlock = some k → lo ≤ k ∧ k < hi
  shape : (v = .slice none 0 0 ∧ l.length = 0 ∧ cp = 0) ∨ ∃ g, v = .slice (some ⟨g, 0, none⟩) l.length cp

theorem Mine.of_own {B : Nat} {w : World} {v : Value} {l : List It} (h : Own12 B w v l) : Mine B w.heap.size l.length w v l := by
  rcases h with ⟨rfl, rfl⟩ | ⟨g, rfl, hB, hr, hm⟩
  · exact ⟨by simpa [flat] using World.ownsRow_nil _ _ _ _, fun k hk => (by cases hk), .inl ⟨rfl, rfl, rfl⟩⟩
  · refine ⟨⟨flat_len l, .inr ⟨g, _, _, rfl, hB, hr, Nat.le_refl _, hm, by simp [flat_len], ?_⟩⟩, fun k hk => ?_, .inr ⟨g, rfl⟩⟩
    · rw [List.toList_toArray, ← flat_len l, List.take_length]
    · cases hk
      exact ⟨hB, hr.lt⟩

theorem Mine.of_lent {B : Nat} {w : World} {g cap : Nat} {l : List It} (h : Lent B w g cap l) : Mine B w.heap.size cap w (.slice (some ⟨g, 0, none⟩) l.length cap) l := by
  have hh := h.itin
  refine ⟨owns_pre h, fun k hk => ?_, .inr ⟨g, rfl⟩⟩
  cases hk
  exact ⟨hh.1, hh.2.1⟩

theorem Mine.of_row {B n : Nat} {w : World} {v : Value} {l : List It} (h : w.ownsRow B 29 2 v n (flat l)) : ∃ cp, Mine B w.heap.size cp w v l := by
  have hn : n = l.length := by have := h.1; rw [flat_len] at this; omega
  subst hn
  have h' := h
  obtain ⟨h0, ⟨rfl, h1⟩ | ⟨g, cap, cur, rfl, h2, h3, h4⟩⟩ := h'
  · exact ⟨0, h, fun k hk => (by cases hk), .inl ⟨rfl, h1, rfl⟩⟩
  · refine ⟨cap, h, fun k hk => ?_, .inr ⟨g, rfl⟩⟩
    cases hk
    exact ⟨h2, (Array.getElem?_eq_some_iff.1 h3).1⟩

theorem Mine.far {lo hi cp : Nat} {w w' : World} {v : Value} {l : List It} (h : Mine lo hi cp w v l) (hb : Below w.heap.size w w') : Mine lo hi cp w' v l := by
  refine ⟨?_, h.at_, h.shape⟩
  obtain ⟨h0, h1 | ⟨g, cap, cur, h1, h2, h3, h4⟩⟩ := h.own
  · exact ⟨h0, .inl h1⟩
  · exact ⟨h0, .inr ⟨g, cap, cur, h1, h2, (hb.block g (Array.getElem?_eq_some_iff.1 h3).1).trans h3, h4⟩⟩

theorem Mine.belx {lo hi cp gt : Nat} {w w' : World} {v : Value} {l : List It} (h : Mine lo hi cp w v l) (hb : BelX (fun k => k = gt) w.heap.size w w') (hg : gt < lo ∨ hi ≤ gt) : Mine lo hi cp w' v l := by
  refine ⟨?_, h.at_, h.shape⟩
  have ha := h.at_
  obtain ⟨h0, h1 | ⟨g, cap, cur, rfl, h2, h3, h4⟩⟩ := h.own
  · exact ⟨h0, .inl h1⟩
  · have := ha g rfl
    exact ⟨h0, .inr ⟨g, cap, cur, rfl, h2, (hb.block g (Array.getElem?_eq_some_iff.1 h3).1 (by omega)).trans h3, h4⟩⟩

theorem Mine.rd {lo hi cp : Nat} {w : World} {v : Value} {l : List It} (h : Mine lo hi cp w v l) : ItRd (fun _ => True) w v l := by
  obtain ⟨h0, ⟨rfl, h1⟩ | ⟨g, cap, cur, rfl, h2, h3, h4, h5, h6, h7⟩⟩ := h.own
  · exact nil_rd rfl (List.eq_nil_of_length_eq_zero h1) (by unfold maxLen; omega)
  · refine ⟨_, cap, rfl, h4, h5, fun hp => ⟨g, 0, rfl, trivial, (Array.getElem?_eq_some_iff.1 h3).1, fun i hi => ?_⟩⟩
    obtain ⟨a1, a2, _, _⟩ := owns_cell h.own hi
    simp only [Nat.zero_add]
    exact ⟨a1, a2⟩

theorem Mine.no {lo hi cp : Nat} {w : World} {v : Value} {l : List It} (h : Mine lo hi cp w v l) : ∀ c, v = .slice none 0 c → c = 0 := by
  rcases h.shape with ⟨rfl, _⟩ | ⟨g, rfl⟩
  · intro c h
    cases h
    rfl
  · intro c h
    cases h

theorem Mine.sh {lo hi cp : Nat} {w : World} {v : Value} {l : List It} (h : Mine lo hi cp w v l) : ∃ p, v = .slice p l.length cp := by
  rcases h.shape with ⟨rfl, h1, h2⟩ | ⟨g, rfl⟩
  · exact ⟨none, by rw [h1, h2]⟩
  · exact ⟨_, rfl⟩

theorem own_rdA {W : World} {base n : Nat} {v : Value} {l : List It} (h : W.ownsRow base 29 2 v n (flat l)) : ItRd (fun _ => True) W v l := by
  have hn : n = l.length := by have := h.1; rw [flat_len] at this; omega
  subst hn
  have h' := h
  obtain ⟨h0, ⟨rfl, h1⟩ | ⟨g, cap, cur, rfl, h2, h3, h4, h5, h6, h7⟩⟩ := h'
  · exact nil_rd rfl (List.eq_nil_of_length_eq_zero h1) (by unfold maxLen; omega)
  · refine ⟨_, cap, rfl, h4, h5, fun hp => ⟨g, 0, rfl, trivial, (Array.getElem?_eq_some_iff.1 h3).1, fun i hi => ?_⟩⟩
    obtain ⟨a1, a2, _, _⟩ := owns_cell h hi
    simp only [Nat.zero_add]
    exact ⟨a1, a2⟩

/-- two items change places -/
theorem Mine.swap {lo hi cp g i k : Nat} {w : World} {c : List It} (h : Mine lo hi cp w (.slice (some ⟨g, 0, none⟩) c.length cp) c) (hi' : i < c.length) (hk : k < c.length) :
    Mine lo hi cp ((((w.setCell ⟨g, i * 2, none⟩ (.int .i64 c[k].1)).setCell ⟨g, i * 2 + 1, none⟩ (.int .i64 c[k].2)).setCell ⟨g, k * 2, none⟩ (.int .i64 c[i].1)).setCell ⟨g, k * 2 + 1, none⟩ (.int .i64 c[i].2)) (.slice (some ⟨g, 0, none⟩) c.length cp) ((c.set i c[k]).set k c[i]) := by
  have e : ((c.set i c[k]).set k c[i]).length = c.length := by simp
  refine ⟨?_, h.at_, .inr ⟨g, by rw [e]⟩⟩
  rw [e]
  exact owns_set (owns_set h.own hi' _) (by simpa using hk) _

structure Ent where
  v : Value
  l : List It
  lo : Nat
  hi : Nat
  cp : Nat

end Go.Proofs.Ytboikfcmbfaaeaa

namespace Go.Proofs.Ytboikfcmbfaaeaa
open Go.RowKit Go.Shelf
set_option linter.unusedVariables false
set_option linter.unusedSimpArgs false

theorem wpListIn_ap1 {F : Fence} {nn : Nat} {w : World} {ops : Array Oper} {rest : List Oper} {o : Oper} {a : Act} {Q : Exit → Act → World → Prop} (hgd : o.guard = none) (s x : Operand)
    (hop : o.op = .call { callee := .builtin .append, args := #[s, x], argTypes := #[22, 22] })
    (base : Nat) (v : Value) (n : Nat) (ys : List Value) (hs : a.eval s = v) (hown : w.ownsRow base 29 2 v n ys) (ad : Addr) (c : Nat) (y : It) (hx : a.eval x = .slice (some ad) 1 c) (hnews : ∀ j u, (flat [y])[j]? = some u → w.cell? (ad.add j) = some u)
    (hby : n + 1 ≤ 8796093022208) (hbase : base ≤ w.heap.size)
    (h : ∀ v' w', w'.ownsRow base 29 2 v' (n + 1) (ys ++ flat [y]) → ((w.grownBy w' none ∧ v'.ownBlock = some w.heap.size) ∨ ∃ g cap, n + 1 ≤ cap ∧ v = .slice (some ⟨g, 0, none⟩) n cap ∧ v' = .slice (some ⟨g, 0, none⟩) (n + 1) cap ∧ w.grownBy w' (some g)) → wpListIn F nn Try.prog ops Q rest (a.put o.dst v') w') : wpListIn F nn Try.prog ops Q (o :: rest) a w := by
  refine wpListIn_plain hgd fun K hK' => ?_
  obtain ⟨v', w', hrun, r1, r2⟩ := run_ap1 hown hnews hby hbase o.type
  unfold Oper.wpIn
  refine ⟨?_, ?_⟩
  · simp [Oper.about, hop, resolve, Target.leads, Sem.run_pure]
  · rw [Oper.semAt_plain F _ _ (by rw [hop]; intro c hc'; cases hc')]
    simp [execOp, hop, resolve, invoke, builtin, hs, hx]
    rw [hrun]
    exact hK' _ _ (h v' w' r1 r2)

def oR3 (x : Int) : Int := (IntKind.u64.wrap x).tmod 3

def rndF (a b : It) : Int := if oR3 a.1 = oR3 b.1 then 0 else if (oR3 a.1 + 1).tmod 3 = oR3 b.1 then -1 else 1

theorem oR3_in (x : Int) : 0 ≤ oR3 x ∧ oR3 x < 3 := by
  unfold oR3
  have h := IntKind.wrap_u64 x
  rw [Int.tmod_eq_emod_of_nonneg (by rw [h]; omega)]
  omega

set_option maxRecDepth 100000 in
set_option maxHeartbeats 1000000 in
theorem all_box {w : World} {B : Nat} : Calls Try.prog 12 #[.pointer (some ⟨B, 0, none⟩)] w fun e w' => e = .returned (.func (.func 25) #[] #[.pointer (some ⟨w.heap.size, 0, none⟩)]) ∧ w'.cell? ⟨w.heap.size, 0, none⟩ = some (.pointer (some ⟨B, 0, none⟩)) ∧ w.heap.size < w'.heap.size ∧ Below w.heap.size w w' := by
  go_enter Try.func12, Try.ntmps12
  go_wp2
  go_ret
  exact ⟨rfl, by simp, by simp, (Below.refl _ w).alloc (Nat.le_refl _) _⟩

end Go.Proofs.Ytboikfcmbfaaeaa

namespace Go.Proofs.Ytboikfcmbfaaeaa
open Go.RowKit Go.Shelf
set_option linter.unusedVariables false
set_option linter.unusedSimpArgs false

set_option maxRecDepth 100000 in
theorem seqdesc : ∃ a b c, Try.prog.underlying 39 = some (.func a b c) := ⟨#[51], #[], false, by kernel_rfl⟩
theorem dr_both (f : It → It → Int) (l : List It) : (dr f (adF f ([], 0) l).1.length (adF f ([], 0) l).1).Perm l := (dr_perm f _ _ rfl).trans (by simpa using adF_perm f l ([], 0))
theorem adF_len (f : It → It → Int) (l : List It) : (adF f ([], 0) l).1.length = l.length := by
  have := (adF_perm f l ([], 0)).length_eq
  simpa using this
/-- between two rounds -/
def OdI (Bo : Nat) (w8 : World) (O : Nat → Prop) (pre : List It) (W : World) : Prop := ∃ v, W.ownsRow w8.heap.size 29 2 v pre.length (flat pre) ∧ Boxed W Bo 22 v ∧ BelX (fun k => k = Bo) w8.heap.size w8 W ∧ (∀ k, v.ownBlock = some k → O k) ∧ ∀ k, O k → w8.heap.size ≤ k ∧ k < W.heap.size
theorem odi_ab {Bo s : Nat} {w8 : World} (hB : Bo < w8.heap.size) (hs : w8.heap.size ≤ s) : AbO s (OdI Bo w8) := by
  rintro O pre A B ⟨v, a, b, c, d, e⟩ hf
  have hsz := c.size
  have hx : BelX (fun k => k = Bo) w8.heap.size A B := ⟨hf.os, hf.tape, hf.output, hf.size, fun k hk _ => hf.block k (by omega) (.inl (by omega))⟩
  refine ⟨v, ?_, (hf.block Bo (by omega) (.inl (by omega))).trans b, c.trans hx, d, fun k hk => ⟨(e k hk).1, Nat.lt_of_lt_of_le (e k hk).2 hf.size⟩⟩
  obtain ⟨h0, h1 | ⟨g, cap, cur, rfl, h2, h3, h4⟩⟩ := a
  · exact ⟨h0, .inl h1⟩
  · exact ⟨h0, .inr ⟨g, cap, cur, rfl, h2, (hf.block g (Array.getElem?_eq_some_iff.1 h3).1 (.inr (d g rfl))).trans h3, h4⟩⟩
theorem odi_ownput {u : World} {base e n D : Nat} {v : Value} {xs : List Value} {o o' : Obj} (h : u.ownsRow base e 2 v n xs) (hu : u.heap[D]? = some o) (ho : o.isCells = false) : (u.putObj D o').ownsRow base e 2 v n xs := by
  obtain ⟨h0, h1 | ⟨g, cap, cur, h1, h2, h3, h4⟩⟩ := h
  · exact ⟨h0, .inl h1⟩
  · refine ⟨h0, .inr ⟨g, cap, cur, h1, h2, (World.putObj_heap_other (fun e => ?_)).trans h3, h4⟩⟩
    subst e
    rw [h3] at hu
    cases hu
    cases ho
theorem odi_put {Bo l : Nat} {w8 A : World} {O : Nat → Prop} {pre : List It} {r r' : Loop} (hB : Bo < w8.heap.size) (h : OdI Bo w8 O pre A) (hl : A.heap[l]? = some (.loop r)) (hw : w8.heap.size ≤ l) : OdI Bo w8 O pre (A.putObj l (.loop r')) := by
  obtain ⟨v, a, b, c, d, e⟩ := h
  exact ⟨v, odi_ownput a hl rfl, (World.putObj_heap_other (by omega)).trans b, c.trans (belx_putObj _ hw), d, fun k hk => by have := e k hk; simpa using this⟩
theorem odi_step {Bo : Nat} {w8 W w2 : World} {O : Nat → Prop} {pre : List It} {x : It} {v v' : Value} {o : Obj} (hB : Bo < w8.heap.size) (a : W.ownsRow w8.heap.size 29 2 v pre.length (flat pre)) (b : Boxed W Bo 22 v) (c : BelX (fun k => k = Bo) w8.heap.size w8 W) (d : ∀ k, v.ownBlock = some k → O k) (e : ∀ k, O k → w8.heap.size ≤ k ∧ k < W.heap.size)
    (hs : w8.heap.size + 2 ≤ W.heap.size) (ho : w2.ownsRow w8.heap.size 29 2 v' (pre.length + 1) (flat pre ++ flat [x])) (hp : ((W.alloc o).grownBy w2 none ∧ v'.ownBlock = some (W.heap.size + 1)) ∨ ∃ g cap, pre.length + 1 ≤ cap ∧ v = .slice (some ⟨g, 0, none⟩) pre.length cap ∧ v' = .slice (some ⟨g, 0, none⟩) (pre.length + 1) cap ∧ (W.alloc o).grownBy w2 (some g)) :
    Boxed w2 Bo 22 v ∧ KeepsFrom w8.heap.size W (w2.setCell ⟨Bo, 0, none⟩ v') ∧ KbO (w8.heap.size + 2) O W (w2.setCell ⟨Bo, 0, none⟩ v') ∧ ∃ O', OdI Bo w8 O' (pre ++ [x]) (w2.setCell ⟨Bo, 0, none⟩ v') ∧ ∀ k, O' k → (O k ∨ W.heap.size ≤ k) ∧ k < (w2.setCell ⟨Bo, 0, none⟩ v').heap.size := by
  obtain ⟨row, hg, hrow, hown⟩ : ∃ row, (W.alloc o).grownBy w2 row ∧ (∀ k, row = some k → v.ownBlock = some k) ∧ ∀ k, v'.ownBlock = some k → (v.ownBlock = some k ∨ k = W.heap.size + 1) := by
    rcases hp with ⟨h1, h2⟩ | ⟨g, cap, h0, h1, h2, h3⟩
    · exact ⟨none, h1, fun k e => (by cases e), fun k hk => .inr (by rw [h2] at hk; cases hk; rfl)⟩
    · subst h1
      subst h2
      exact ⟨some g, h3, fun k e => e, fun k hk => .inl hk⟩
  have hsz : (W.alloc o).heap.size = W.heap.size + 1 := by simp
  have hs2 := hg.size
  have rlo : ∀ k, row = some k → w8.heap.size ≤ k := fun k h => (owns_row a (hrow k h)).1
  have hv' : ∀ k, v'.ownBlock = some k → w8.heap.size ≤ k ∧ k < w2.heap.size := fun k hk => by
    obtain ⟨h1, cur, h2⟩ := owns_row ho hk
    exact ⟨h1, (Array.getElem?_eq_some_iff.1 h2).1⟩
  have b1 : BelX (fun k => k = Bo) w8.heap.size W (W.alloc o) := BelX.of ((Below.refl _ W).alloc (Nat.le_refl _) _) c.size
  have b2 : BelX (fun k => k = Bo) w8.heap.size (W.alloc o) w2 := BelX.grown hg (by omega) (fun k e => .inl (rlo k e))
  have bx := (b1.trans b2).trans (belx_set (i := 0) w2 v' (rfl : Bo = Bo))
  have bBo : Boxed w2 Bo 22 v := (b.alloc o).kept hg (fun e => by have := rlo Bo e.symm; omega)
  refine ⟨bBo, ?_, ⟨by simp; omega, fun k h1 h2 h3 => ?_⟩, fun k => v'.ownBlock = some k, ⟨v', ?_, bBo.set v', c.trans bx, fun k h => h, fun k hk => ?_⟩, fun k hk => ?_⟩
  · refine ((KeepsOthers.alloc W o).trans ((KeepsOthers.of_grownBy hg (fun j o' hj ho' => ?_)).trans (KeepsOthers.setCell _ _ _))).from _
    obtain ⟨cur, hc⟩ := (owns_row a (hrow j hj)).2
    have hc2 : (W.alloc o).heap[j]? = some (.cells cur 29 (0, 0)) := (Below.heap_alloc _ _ _ (Array.getElem?_eq_some_iff.1 hc).1).trans hc
    rw [hc2] at ho'
    cases ho'
    rfl
  · have e1 : (w2.setCell ⟨Bo, 0, none⟩ v').heap[k]? = w2.heap[k]? := (belx_set (X := fun k => k = Bo) (n := k + 1) (i := 0) w2 v' rfl).block k (by omega) (by omega)
    have e2 : w2.heap[k]? = (W.alloc o).heap[k]? := hg.block k (by omega) (fun e => h3 (d k (hrow k e.symm)))
    exact e1.trans (e2.trans (Below.heap_alloc _ _ _ h2))
  · rw [List.length_append, List.length_singleton, flat_append]
    exact owns_on ho (grownBy_setCell' _ _ _) (fun r e => by cases e; exact .inl hB)
  · have := hv' k hk
    simpa using this
  · have h1 := hv' k hk
    refine ⟨?_, by simpa using h1.2⟩
    rcases hown k hk with h | h
    · exact .inl (d k h)
    · exact .inr (by omega)

end Go.Proofs.Ytboikfcmbfaaeaa

namespace Go.Proofs.Ytboikfcmbfaaeaa
open Go.RowKit Go.Shelf
set_option linter.unusedVariables false

theorem bagIs_far {base B : Nat} {w w' : World} {cv : Value} {st : List Hi × Int} (h : BagIs base w B cv st) (hb : Below w.heap.size w w') : BagIs base w' B cv st := by
  obtain ⟨hv, h1, h2⟩ := h
  exact ⟨hv, h1.keep (hb.block _ h1.lt), hp_far h2 hb⟩

theorem adF_cnt (f : It → It → Int) : ∀ (l : List It) (st : List Hi × Int), (adF f st l).2 = st.2 + (l.length : Int) ∧ (adF f st l).1.length = st.1.length + l.length
  | [], st => by simp [adF]
  | x :: l, st => by
    have := adF_cnt f l (ad1 f st x)
    have e : adF f st (x :: l) = adF f (ad1 f st x) l := rfl
    have e2 : (ad1 f st x).2 = st.2 + 1 := rfl
    have e3 := ad1_len f st x
    rw [e, this.1, this.2, e2, e3, List.length_cons]
    omega

theorem adF_take (f : It → It → Int) (st : List Hi × Int) {l : List It} {i : Nat} (h : i < l.length) : adF f (adF f st (l.take i)) [l[i]] = adF f st (l.take (i + 1)) := by
  rw [List.take_succ_eq_append_getElem h, adF_app]

theorem hp_belx {X : Nat → Prop} {base m n cap : Nat} {po : Option Addr} {w w' : World} {hs : List Hi} (h : HpRow base w (.slice po n cap) hs) (hb : BelX X m w w') (hx : ∀ k, po = some ⟨k, 0, none⟩ → k < m ∧ ¬ X k) : HpRow base w' (.slice po n cap) hs := by
  obtain ⟨h0, h1 | ⟨g', cap', cur, h1, h2, h3, h4⟩⟩ := h
  · exact ⟨h0, .inl h1⟩
  · have e : po = some ⟨g', 0, none⟩ := by cases h1; rfl
    exact ⟨h0, .inr ⟨g', cap', cur, h1, h2, (hb.block g' (hx g' e).1 (hx g' e).2).trans h3, h4⟩⟩

theorem owns_belx {X : Nat → Prop} {base e m n : Nat} {w w' : World} {v : Value} {xs : List Value} (h : w.ownsRow base e 2 v n xs) (hb : BelX X m w w') (hx : ∀ k, v.ownBlock = some k → k < m ∧ ¬ X k) : w'.ownsRow base e 2 v n xs := by
  obtain ⟨h0, h1 | ⟨g', cap', cur, rfl, h2, h3, h4⟩⟩ := h
  · exact ⟨h0, .inl h1⟩
  · exact ⟨h0, .inr ⟨g', cap', cur, rfl, h2, (hb.block g' (hx g' rfl).1 (hx g' rfl).2).trans h3, h4⟩⟩

theorem own3_lo {base n cap : Nat} {ad : Addr} {w : World} {hs : List Hi} {k : Nat} (h : HpRow base w (.slice (some ad) n cap) hs) (hk : ad.block = k) : base ≤ k := by
  obtain ⟨_, ⟨e, _⟩ | ⟨g', cap', cur, e, e2, _⟩⟩ := h
  · injection e with e1
    cases e1
  · injection e with e1
    injection e1 with e1
    subst e1
    rw [← hk]
    exact e2

theorem own3_row {base : Nat} {v : Value} {w : World} {hs : List Hi} {k : Nat} (h : HpRow base w v hs) (hk : v.ownBlock = some k) : base ≤ k ∧ ∃ cur, w.heap[k]? = some (.cells cur 48 (0, 0)) := by
  obtain ⟨_, ⟨rfl, _⟩ | ⟨g', cap', cur, rfl, e2, e3, _⟩⟩ := h
  · cases hk
  · cases hk
    exact ⟨e2, cur, e3⟩

def lenV : Value → Nat
  | .slice _ n _ => n
  | _ => 0

theorem lenV_own {base e n : Nat} {w : World} {v : Value} {xs : List Value} (h : w.ownsRow base e 2 v n xs) : lenV v = n := by
  obtain ⟨h0, ⟨rfl, h1⟩ | ⟨g', cap', cur, rfl, _⟩⟩ := h
  · simp [lenV, h1]
  · rfl

end Go.Proofs.Ytboikfcmbfaaeaa

namespace Go.Proofs.Ytboikfcmbfaaeaa
open Go.RowKit Go.Shelf
set_option linter.unusedVariables false
set_option linter.unusedSimpArgs false

theorem run_append_items2 {w : World} {base n : Nat} {v va : Value} {ys : List Value} {l : List It} (hown : w.ownsRow base 29 2 v n ys) (hrd : ItRd (fun _ => True) w va l) (hno : ∀ c, va = .slice none 0 c → c = 0)
    (h63 : n + l.length ≤ maxLen) (hby : (n + l.length) * 16 ≤ 140737488355328) (hbase : base ≤ w.heap.size) (ty : TypeId) :
    ∃ v' w', (Builtin.append_ #[22, 22] ty #[v, va]).run Try.prog w = .ok v' w' ∧ w'.ownsRow base 29 2 v' (n + l.length) (ys ++ flat l) ∧ w.grownBy w' v.ownBlock ∧ (v'.ownBlock = v.ownBlock ∨ v'.ownBlock = some w.heap.size) := by
  obtain ⟨i0, hi0, hz0, hz1, hz2⟩ := info_parts itinfoM
  obtain ⟨ao, ca, rfl, hac, ham, hcl⟩ := hrd
  rcases ao with _ | ad
  · have e : l.length = 0 := by
      rcases Nat.eq_zero_or_pos l.length with e | e
      · exact e
      · obtain ⟨g, o', he, _⟩ := hcl e
        cases he
    obtain rfl := List.eq_nil_of_length_eq_zero e
    obtain rfl := hno ca rfl
    exact ⟨v, w, run_append_owned_none (P := Try.prog) (w := w) base 22 ty 29 i0 2 Try.underlying22 hi0 v n ys hown, by simpa [flat] using hown, ⟨rfl, rfl, rfl, Nat.le_refl _, fun _ _ _ => rfl⟩, .inl rfl⟩
  · obtain ⟨v', w', h1, h2, h3, _, h5⟩ := run_append_own_at (P := Try.prog) w base 22 ty 29 i0 _ 2 16 Try.underlying22 hi0 hz0 hz1 hz2 rfl (by decide) v n ys hown ad l.length ca (flat l) (flat_len l) (by
      by_cases e : l.length = 0
      · obtain rfl := List.eq_nil_of_length_eq_zero e
        intro j u hu
        simp [flat] at hu
      · obtain ⟨g, o', he, _, hg, hin⟩ := hcl (by omega)
        cases he
        exact news_items hin) (flat_one l) h63 hby hbase
    exact ⟨v', w', h1, h2, h3, h5⟩

/-- two lists of one's own, made behind U, apart -/
structure C2 (U u : World) (vx : Value) (lx : List It) (vy : Value) (ly : List It) : Prop where
  bel : Below U.heap.size U u
  ox : u.ownsRow U.heap.size 29 2 vx lx.length (flat lx)
  oy : u.ownsRow U.heap.size 29 2 vy ly.length (flat ly)
  ap : ∀ k, vx.ownBlock = some k → vy.ownBlock ≠ some k
theorem C2.symm {U u : World} {vx vy : Value} {lx ly : List It} (h : C2 U u vx lx vy ly) : C2 U u vy ly vx lx := ⟨h.bel, h.oy, h.ox, fun k e e' => h.ap k e' e⟩
theorem C2.start (U : World) : C2 U U (.slice none 0 0) [] (.slice none 0 0) [] := ⟨Below.refl _ _, by simpa [flat] using World.ownsRow_nil _ _ _ _, by simpa [flat] using World.ownsRow_nil _ _ _ _, fun k e => by cases e⟩
theorem C2.build {U u : World} {vy : Value} {ly : List It} (h : C2 U u (.slice none 0 0) [] vy ly) : C2 U (u.alloc (.cells #[] 29)) (.slice (some ⟨u.heap.size, 0, none⟩) 0 0) [] vy ly := by
  refine ⟨h.bel.alloc h.bel.size _, ?_, h.oy.alloc _, fun k e e' => ?_⟩
  · exact World.ownsRow_made u _ 0 h.bel.size (by unfold maxLen; omega) (by simp)
  · cases e
    obtain ⟨_, cur, hc⟩ := owns_row h.oy e'
    exact absurd (Array.getElem?_eq_some_iff.1 hc).1 (Nat.lt_irrefl _)
theorem C2.keep {U u u' : World} {vx vy : Value} {lx ly : List It} (h : C2 U u vx lx vy ly) (hb : Below u.heap.size u u') : C2 U u' vx lx vy ly :=
  ⟨h.bel.trans (hb.mono h.bel.size), owns_on h.ox (ograwn hb) (fun r e => by cases e), owns_on h.oy (ograwn hb) (fun r e => by cases e), h.ap⟩
theorem C2.app {U u : World} {vx vy va : Value} {lx ly l : List It} (h : C2 U u vx lx vy ly) (hrd : ItRd (fun _ => True) u va l) (hno : ∀ c, va = .slice none 0 c → c = 0) (hsz : lx.length + l.length ≤ 8796093022208) (ty : TypeId) :
    ∃ v' w', (Builtin.append_ #[22, 22] ty #[vx, va]).run Try.prog u = .ok v' w' ∧ C2 U w' v' (lx ++ l) vy ly := by
  obtain ⟨v', w', h1, h2, h3, h4⟩ := run_append_items2 h.ox hrd hno (by unfold maxLen; omega) (by omega) h.bel.size ty
  have hlow : ∀ k, vx.ownBlock = some k → U.heap.size ≤ k := fun k e => (owns_row h.ox e).1
  refine ⟨v', w', h1, ⟨?_, by rw [List.length_append, flat_append]; exact h2, ?_, fun k e e' => ?_⟩⟩
  · exact h.bel.trans ((BelX.grown (X := fun _ => False) h3 h.bel.size (fun k e => .inl (hlow k e))).below (B := U.heap.size) (Nat.le_refl _) (fun _ _ e => e))
  · cases hv : vx.ownBlock with
    | none => rw [hv] at h3; exact owns_on h.oy h3 (fun r e => by cases e)
    | some g => rw [hv] at h3; exact owns_on2 h.oy h3 (h.ap g hv)
  · rcases h4 with g | g
    · exact h.ap k (g ▸ e) e'
    · rw [g] at e
      cases e
      obtain ⟨_, cur, hc⟩ := owns_row h.oy e'
      have := (Array.getElem?_eq_some_iff.1 hc).1
      omega
theorem own_no {W : World} {base e n : Nat} {v : Value} {xs : List Value} (h : W.ownsRow base e 2 v n xs) : ∀ c, v = .slice none 0 c → c = 0 := by
  intro c hc
  obtain ⟨_, ⟨rfl, _⟩ | ⟨g, cap, cur, rfl, _⟩⟩ := h
  · cases hc; rfl
  · cases hc
/-- the first of a new list, cut off -/
theorem cut_any {W : World} {B j : Nat} {v : Value} {SA F : List It} (h : Own12 B W v SA) (hF : F = SA.take j) (hj : j ≤ SA.length) (hS : SA.length ≤ 8796093022208) :
    ∃ vt, (∀ u, (Instr.slice 22 v none (some (.int .i64 (j : Int))) none).run Try.prog u = .ok vt u) ∧ ItRd (fun _ => True) W vt F := by
  have hT : (SA.take j).length = j := by rw [List.length_take]; omega
  rcases h with ⟨rfl, rfl⟩ | ⟨gS, rfl, hB19, hr19, hm19⟩
  · obtain rfl : j = 0 := by simpa using hj
    refine ⟨.slice none 0 0, fun u => ?_, ?_⟩
    · go_simp
    · rw [hF]
      exact own_rdA (base := 0) (n := 0) (by simpa [flat] using World.ownsRow_nil W 0 _ _)
  · refine ⟨.slice (some ⟨gS, 0, none⟩) j SA.length, fun u => ?_, ?_⟩
    · have q3 : (j : Int) ≤ (SA.length : Int) := by omega
      go_simp
    · rw [hF]
      refine ⟨_, SA.length, by rw [hT], by rw [hT]; omega, hm19, fun hp => ⟨gS, 0, rfl, trivial, hr19.lt, fun i hi => ?_⟩⟩
      rw [hT] at hi
      have q := hr19.cell (i := i) (by omega)
      rw [List.getElem_take, Nat.zero_add]
      exact q
theorem op_build {o : Oper} {a : Act} {w : World} {K : Act → World → Prop} {Q : Exit → Act → World → Prop} (hop : o.op = .buildSlice 22 0 #[]) (h : K (a.put o.dst (.slice (some ⟨w.heap.size, 0, none⟩) 0 0)) (w.alloc (.cells #[] 29))) : Oper.wp Try.prog o a w K Q := by
  unfold Oper.wp
  rw [show (execOp a.eval o).run Try.prog w = .ok (.value (.slice (some ⟨w.heap.size, 0, none⟩) 0 0)) (w.alloc (.cells #[] 29)) by
    simp [execOp, hop]
    go_simp]
  exact h

section
variable {P : Program} {ops : Array Oper} {Q : Exit → Act → World → Prop} {md : Region.Mode} {C : World → Prop} {D : Nat → Bool}
/-- two may come up -/
theorem wpHl.two {i j : Nat} {fuel : Nat} {listed : Array Bool} {a : Act} {w : World} {o o' : Oper} (hr : Region.ready md ops listed = [i, j]) (ho : ops[i]? = some o) (ho' : ops[j]? = some o')
    (h : ∀ K : Act → World → Prop, (∀ a' w', (D i = false → C w') ∧ wpHl P md ops Q C D fuel (listed.setIfInBounds i true) a' w' → K a' w') → if Region.wanted o (yielded ops a.tmps) = true then Oper.wp P o a w K Q else K (a.put o.dst undef) w)
    (h' : ∀ K : Act → World → Prop, (∀ a' w', (D j = false → C w') ∧ wpHl P md ops Q C D fuel (listed.setIfInBounds j true) a' w' → K a' w') → if Region.wanted o' (yielded ops a.tmps) = true then Oper.wp P o' a w K Q else K (a.put o'.dst undef) w) :
    wpHl P md ops Q C D (fuel + 1) listed a w :=
  ⟨fun h0 => (by rw [hr] at h0; cases h0), fun k hk => by
    rw [hr] at hk
    rcases List.mem_cons.1 hk with rfl | hk
    · exact wpOp_step ho h
    · rw [List.mem_singleton] at hk
      subst hk
      exact wpOp_step ho' h'⟩
end

end Go.Proofs.Ytboikfcmbfaaeaa
