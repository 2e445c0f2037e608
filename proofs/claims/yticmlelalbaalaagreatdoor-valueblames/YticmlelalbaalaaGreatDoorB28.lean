import Derived.Test.YticmlelalbaalaaGreatDoorB25
import Derived.Test.YticmlelalbaalaaGreatDoorB27
import Derived.Test.YticmlelalbaalaaGreatDoorB19
import Derived.Test.YticmlelalbaalaaGreatDoorB02
import Derived.Laws.OwnMore
import Derived.OwnWalk
import Derived.Deep.CutRange
namespace Go.Proofs.YticmlelalbaalaaGreatDoor
open Go.RowKit
set_option linter.unusedVariables false
set_option linter.unusedSimpArgs false
def LbOn (B : Nat) (w : World) (v : Value) (xs : List Int) : Prop := w.ownsRow B 70 1 v xs.length (xs.map (Value.int .u32))
inductive VaOn (B : Nat) (w : World) : Value → List Va → Prop
  | mk (v : Value) (zs : List (Va × Value × Value)) (hl : zs.length ≤ 1048576) (ho : w.ownsRow B 31 8 v zs.length (flatV zs))
      (hm : ∀ q, q ∈ zs → LbOn B w q.2.1 q.1.mag ∧ VaW q.1)
      (hk : ∀ q, q ∈ zs → VaOn B w q.2.2 q.1.kids) : VaOn B w v (zs.map Prod.fst)
structure VaOw (B : Nat) (w : World) (v : Value) (x : Va) : Prop where
  ex : ∃ vm vk, v = vaV x vm vk ∧ LbOn B w vm x.mag ∧ VaOn B w vk x.kids
  wf : VaW x
theorem LbOn.far {B : Nat} {w w' : World} {v : Value} {xs : List Int} (h : LbOn B w v xs) (hb : Below w.heap.size w w') : LbOn B w' v xs := own_far h hb
theorem LbOn.low {B B' : Nat} {w : World} {v : Value} {xs : List Int} (h : LbOn B w v xs) (hb : B' ≤ B) : LbOn B' w v xs := own_low h hb
theorem VaOn.far {B : Nat} {w w' : World} {v : Value} {xs : List Va} (h : VaOn B w v xs) (hb : Below w.heap.size w w') : VaOn B w' v xs := by
  induction h with
  | mk v zs hl ho hm hk ih => exact .mk v zs hl (own_far ho hb) (fun q hq => ⟨(hm q hq).1.far hb, (hm q hq).2⟩) ih
theorem VaOn.low {B B' : Nat} {w : World} {v : Value} {xs : List Va} (h : VaOn B w v xs) (hb : B' ≤ B) : VaOn B' w v xs := by
  induction h with
  | mk v zs hl ho hm hk ih => exact .mk v zs hl (own_low ho hb) (fun q hq => ⟨(hm q hq).1.low hb, (hm q hq).2⟩) ih
theorem VaOn.same {w w' : World} {B b : Nat} {v : Value} {xs : List Va} (h : VaOn B w v xs) (hb : b < B) (hs : ∀ j, j ≠ b → w'.heap[j]? = w.heap[j]?) : VaOn B w' v xs := by
  induction h with
  | mk v zs hl ho hm hk ih => exact .mk v zs hl (own_same ho hb hs) (fun q hq => ⟨own_same (hm q hq).1 hb hs, (hm q hq).2⟩) ih
theorem LbOn.reads {B : Nat} {w : World} {v : Value} {xs : List Int} (h : LbOn B w v xs) : Reads .u32 w v xs := own_rdi rfl h
theorem VaOn.reads {B : Nat} {w : World} {v : Value} {xs : List Va} (h : VaOn B w v xs) : VaSl w v xs := by
  induction h with
  | mk v zs hl ho hm hk ih => exact own_vasl (by omega) ho (fun q hq => ⟨(hm q hq).1.reads, (hm q hq).2, ih q hq⟩)
theorem VaOw.reads {B : Nat} {w : World} {v : Value} {x : Va} (h : VaOw B w v x) : VaRd w v x := by
  obtain ⟨⟨vm, vk, h1, h2, h3⟩, h4⟩ := h
  exact ⟨⟨vm, vk, h1, h2.reads, h3.reads⟩, h4⟩
theorem VaOw.low {B B' : Nat} {w : World} {v : Value} {x : Va} (h : VaOw B w v x) (hb : B' ≤ B) : VaOw B' w v x := by
  obtain ⟨⟨vm, vk, h1, h2, h3⟩, h4⟩ := h
  exact ⟨⟨vm, vk, h1, h2.low hb, h3.low hb⟩, h4⟩
theorem own_shp {W : World} {base e s n : Nat} {v : Value} {xs : List Value} (h : W.ownsRow base e s v n xs) : ∃ po pc, v = .slice po n pc ∧ (0 < n → ∃ g, po = some ⟨g, 0, none⟩) := by
  rcases h.2 with ⟨rfl, h0⟩ | ⟨g, cap, cur, rfl, _⟩
  · subst h0; exact ⟨none, 0, rfl, fun h => absurd h (by simp)⟩
  · exact ⟨_, cap, rfl, fun _ => ⟨g, rfl⟩⟩
theorem wpList_app {P : Program} {w w' : World} {ops : Array Oper} {rest : List Oper} {o : Oper} {a : Act} {Q : Exit → Act → World → Prop} (hgd : o.guard = none) (s x : Operand) (t : TypeId)
    (hop : o.op = .call { callee := .builtin .append, args := #[s, x], argTypes := #[t, t] }) {v va v' : Value} (hs : a.eval s = v) (hx : a.eval x = va) (hrun : (Builtin.append_ #[t, t] o.type #[v, va]).run P w = .ok v' w')
    (h : wpList P ops Q rest (a.put o.dst v') w') : wpList P ops Q (o :: rest) a w := by
  refine wpList_plain hgd fun K hK => ?_
  unfold Oper.wp
  simp [execOp, hop, resolve, invoke, builtin, hs, hx, hrun, Result.andThen]
  exact hK _ _ h
theorem Tryz.infoW : (Tryz.prog.info? 70).map (fun i => (i.zero, i.size, i.bytes)) = some (some (.int .u32 0), 1, 4) := by kernel_rfl
theorem app_limbs {W : World} {v : Value} {xs : List Int} (h : Reads .u32 W v xs) (hl : xs.length ≤ 1048576) (ty : TypeId) :
    ∃ po pc W', (Builtin.append_ #[26, 26] ty #[.slice none 0 0, v]).run Tryz.prog W = .ok (.slice po xs.length pc) W' ∧ LbOn W.heap.size W' (.slice po xs.length pc) xs ∧ Below W.heap.size W W' := by
  obtain ⟨ao, c, rfl, h1, h2, h3⟩ := h
  obtain ⟨v', W', r1, r2, r3⟩ := urun_append_ints (P := Tryz.prog) (w := W) W.heap.size 26 ty 70 .u32 4 Tryz.underlying26 Tryz.infoW (.slice none 0 0) 0 [] (World.ownsRow_nil _ _ _ _) ao c xs h3 (by unfold maxLen; omega) (by omega) (Nat.le_refl _)
  simp only [Nat.zero_add, List.nil_append] at r2
  obtain ⟨po, pc, rfl, -⟩ := own_shp r2
  exact ⟨po, pc, W', r1, r2, (Below.refl _ W).grown r3 (Nat.le_refl _) (fun k h => by cases h)⟩
theorem app_vals {w0 W : World} {v : Value} {xs : List Va} (h : VaSl w0 v xs) (hbw : Below w0.heap.size w0 W) (hl : xs.length ≤ 1048576) (ty : TypeId) :
    ∃ po pc W' zs, (Builtin.append_ #[29, 29] ty #[.slice none 0 0, v]).run Tryz.prog W = .ok (.slice po xs.length pc) W' ∧ zs.map Prod.fst = xs ∧ (∀ q ∈ zs, GoodV w0 q) ∧ W'.ownsRow W.heap.size 31 8 (.slice po xs.length pc) xs.length (flatV zs) ∧ Below W.heap.size W W' := by
  obtain ⟨i0, hi, hz0, hz1, hz2⟩ := info_va
  obtain ⟨ao, cap, _, ms, vs, hc, hm, hl2, hn, hx, hg, hk⟩ := h
  have hzl : ((List.range xs.length).map fun i => (xs.getD i default, ms i, vs i)).length = xs.length := by simp
  have hzm : ((List.range xs.length).map fun i => (xs.getD i default, ms i, vs i)).map Prod.fst = xs := by
    rw [List.map_map]
    apply List.ext_getElem (by simp)
    intro i h1 h2
    simp [h2]
  have hgood : ∀ q ∈ (List.range xs.length).map fun i => (xs.getD i default, ms i, vs i), GoodV w0 q := by
    intro q hq
    obtain ⟨i, hi', rfl⟩ := List.mem_map.1 hq
    have hil := List.mem_range.1 hi'
    have e : xs.getD i default = xs[i] := by simp [List.getD, hil]
    simp only [e]
    exact ⟨(hg i hil).1, (hg i hil).2, hk i hil⟩
  rcases ao with _ | ad
  · have hc0 := hn rfl
    subst hc0
    have h0 : xs = [] := List.eq_nil_of_length_eq_zero (by omega)
    subst h0
    exact ⟨none, 0, W, [], run_append_owned_none (P := Tryz.prog) (w := W) W.heap.size 29 ty 31 i0 8 Tryz.underlying29 hi _ 0 [] (World.ownsRow_nil _ _ _ _), rfl, (fun q h => by cases h), World.ownsRow_nil _ _ _ _, Below.refl _ _⟩
  · generalize hzz : ((List.range xs.length).map fun i => (xs.getD i default, ms i, vs i)) = zs at hzl hzm hgood
    have hcell : ∀ j u, (flatV zs)[j]? = some u → W.cell? (ad.add j) = some u := by
      intro j u hu
      have hj : j < zs.length * 8 := by have := (List.getElem?_eq_some_iff.1 hu).1; rw [flatV_len] at this; exact this
      obtain ⟨b, off, rfl, hb, hcc⟩ : ∃ b off, ad = ⟨b, off, none⟩ ∧ b < w0.heap.size ∧ ∀ i (h : i < xs.length), VaC w0 b (off + i * 8) xs[i] (ms i) (vs i) := by
        obtain ⟨b, off, e, h1, h2⟩ := hx (by omega)
        cases e
        exact ⟨b, off, rfl, h1, h2⟩
      have hi8 : j / 8 < zs.length := by omega
      have e8 : j = j / 8 * 8 + j % 8 := by omega
      have hr8 : j % 8 < 8 := by omega
      have hf := flatV_at zs (j / 8) hi8 (j % 8) hr8
      rw [← e8, hu] at hf
      have hq : zs[j / 8] = (xs[j / 8]'(by omega), ms (j / 8), vs (j / 8)) := by
        simp only [← hzz, List.getElem_map, List.getElem_range]
        simp [List.getD, show j / 8 < xs.length by omega]
      rw [hq] at hf
      have C := (hcc (j / 8) (by omega)).below hbw hb
      rw [Addr.add_lit, show off + j = off + j / 8 * 8 + j % 8 by omega]
      generalize j % 8 = r at hf hr8
      match r, hr8 with
      | 0, _ => exact C.c0.trans hf.symm
      | 1, _ => exact C.c1.trans hf.symm
      | 2, _ => exact C.c2.trans hf.symm
      | 3, _ => exact C.c3.trans hf.symm
      | 4, _ => exact C.c4.trans hf.symm
      | 5, _ => exact C.c5.trans hf.symm
      | 6, _ => exact C.c6.trans hf.symm
      | 7, _ => exact C.c7.trans hf.symm
    obtain ⟨v', W', r1, r2, r3, -⟩ := run_append_own (P := Tryz.prog) W W.heap.size 29 ty 31 i0 _ 8 104 Tryz.underlying29 hi hz0 hz1 hz2 rfl (by decide) (.slice none 0 0) 0 [] (World.ownsRow_nil _ _ _ _) ad xs.length cap (flatV zs) (by rw [flatV_len, hzl]) hcell
      (fun u hu => by
        simp only [flatV, List.mem_flatMap] at hu
        obtain ⟨q, hq, hu⟩ := hu
        exact vaL_one (hgood q hq) u hu) (by unfold maxLen; omega) (by omega) (Nat.le_refl _)
    simp only [Nat.zero_add, List.nil_append] at r2
    obtain ⟨po, pc, rfl, -⟩ := own_shp r2
    exact ⟨po, pc, W', zs, r1, hzm, hgood, r2, (Below.refl _ W).grown r3 (Nat.le_refl _) (fun k h => by cases h)⟩
theorem VaOn.shp {B : Nat} {w : World} {v : Value} {xs : List Va} (h : VaOn B w v xs) : ∃ po pc, v = .slice po xs.length pc := by
  cases h with
  | mk v zs hl ho hm hk =>
    obtain ⟨po, pc, e, -⟩ := own_shp ho
    exact ⟨po, pc, by rw [List.length_map]; exact e⟩
theorem own_neV {W : World} {B B' e e' s s' n n' g c : Nat} {v : Value} {xs ys : List Value} (h : W.ownsRow B e s v n xs) (h' : W.ownsRow B' e' s' (.slice (some ⟨g, 0, none⟩) n' c) n' ys) (hn : e ≠ e') {k : Nat} (hk : v.ownBlock = some k) : k ≠ g := by
  rintro rfl
  obtain ⟨_, ⟨rfl, _⟩ | ⟨g1, c1, cur, rfl, _, h1, _⟩⟩ := h
  · cases hk
  · cases hk
    obtain ⟨_, ⟨h2, _⟩ | ⟨g2, c2, cur2, h2, _, h3, _⟩⟩ := h'
    · cases h2
    · cases h2
      rw [h1] at h3
      injection h3 with h3
      injection h3 with _ h4 _
      exact hn h4
structure CyI (w wr : World) (x : Va) (tx : ByteArray) (vm : Value) (pk : Option Addr) (pkc : Nat) (j : Nat) (zs : List (Va × Value × Value)) : Prop where
  b : Below w.heap.size w wr
  g0 : wr.heap[w.heap.size]? = some (.cells #[(.int .i8 x.kind), (.int .u64 x.n), (.bool x.neg), vm, (.int .u64 x.bits), (.int .i8 x.ext), (.string tx), (.slice pk x.kids.length pkc)] 31 (0, 0))
  g1 : wr.heap[w.heap.size + 1]? = some (.cells #[.int .i8 0, .int .u64 0, .bool false, .slice none 0 0, .int .u64 0, .int .i8 0, .string ⟨#[]⟩, .slice none 0 0] 31 (0, 0))
  lm : LbOn (w.heap.size + 2) wr vm x.mag
  ow : wr.ownsRow (w.heap.size + 2) 31 8 (.slice pk x.kids.length pkc) x.kids.length (flatV zs)
  zl : zs.map Prod.fst = x.kids
  cp : ∀ i (hi : i < zs.length), i < j → ∃ G, (∀ g, pk = some ⟨g, 0, none⟩ → g < G) ∧ w.heap.size + 2 ≤ G ∧ LbOn G wr zs[i].2.1 zs[i].1.mag ∧ VaOn G wr zs[i].2.2 zs[i].1.kids ∧ VaW zs[i].1
  od : ∀ i (hi : i < zs.length), j ≤ i → GoodV w zs[i]
def CpyOf (x : Va) : Prop := ∀ (w : World) (v : Value), VaRd w v x → Calls Tryz.prog 21 #[v] w fun e w' => (∃ u, e = .returned u ∧ VaOw w.heap.size w' u x) ∧ Below w.heap.size w w'
set_option maxHeartbeats 2000000 in
theorem cyi_next {w wr u4 : World} {x : Va} {tx ty : ByteArray} {vm : Value} {g pkc j : Nat} {zs : List (Va × Value × Value)} {y : Va} {v2 k2 : Value} {um uk : Option Addr} {umc ukc G : Nat} (h : CyI w wr x tx vm (some ⟨g, 0, none⟩) pkc j zs) (hj : j < zs.length) (hq : zs[j] = (y, v2, k2))
    (hb : Below wr.heap.size wr u4) (hty : strOfNums y.text = ty) (hm : LbOn G u4 (.slice um y.mag.length umc) y.mag) (hk : VaOn G u4 (.slice uk y.kids.length ukc) y.kids) (hw : VaW y) (hg : g < wr.heap.size) (hG : wr.heap.size ≤ G) (hg2 : w.heap.size + 2 ≤ g ∧ g < u4.heap.size) :
    CyI w (put8 u4 g (j * 8) (.int .i8 y.kind) (.int .u64 y.n) (.bool y.neg) (.slice um y.mag.length umc) (.int .u64 y.bits) (.int .i8 y.ext) (.string ty) (.slice uk y.kids.length ukc)) x tx vm (some ⟨g, 0, none⟩) pkc (j + 1) (zs.set j (y, .slice um y.mag.length umc, .slice uk y.kids.length ukc)) := by
  have hs : ∀ k, k ≠ g → (put8 u4 g (j * 8) (.int .i8 y.kind) (.int .u64 y.n) (.bool y.neg) (.slice um y.mag.length umc) (.int .u64 y.bits) (.int .i8 y.ext) (.string ty) (.slice uk y.kids.length ukc)).heap[k]? = u4.heap[k]? := fun k hk => put8_same hk
  have l0 := (Array.getElem?_eq_some_iff.1 h.g0).1
  have l1 := (Array.getElem?_eq_some_iff.1 h.g1).1
  refine ⟨put8_below (h.b.trans (hb.mono h.b.size)) (by omega), (hs _ (by omega)).trans ((hb.block _ l0).trans h.g0), (hs _ (by omega)).trans ((hb.block _ l1).trans h.g1), ?_, ?_, ?_, ?_, ?_⟩
  · have h1 := own_far h.lm hb
    exact own_keptV h1 (fun k hk => hs k (own_neV h1 (own_far h.ow hb) (by decide) hk))
  · exact own_put8 (own_far h.ow hb) hj _ (by unfold vaL; rw [hty])
  · rw [List.map_set, ← h.zl]
    have e : (zs.map Prod.fst)[j]'(by rw [List.length_map]; exact hj) = y := by rw [List.getElem_map, hq]
    conv => lhs; rw [← e]
    exact List.set_getElem_self _
  · intro i hi hij
    rw [List.length_set] at hi
    by_cases e : i = j
    · subst e
      rw [List.getElem_set_self]
      exact ⟨G, fun g' e => by cases e; omega, by omega, own_same (b := g) hm (by omega) hs, hk.same (b := g) (by omega) hs, hw⟩
    · rw [List.getElem_set_ne (fun e' => e e'.symm)]
      obtain ⟨G', h1, h2, h3, h4, h5⟩ := h.cp i hi (by omega)
      exact ⟨G', h1, h2, own_same (b := g) (h3.far hb) (h1 g rfl) hs, (h4.far hb).same (b := g) (h1 g rfl) hs, h5⟩
  · intro i hi hij
    rw [List.length_set] at hi
    rw [List.getElem_set_ne (by omega)]
    exact h.od i hi (by omega)
set_option maxHeartbeats 2000000 in
theorem cyi_end {w wr : World} {x : Va} {tx : ByteArray} {pm pk : Option Addr} {pmc pkc : Nat} {zs : List (Va × Value × Value)} (h : CyI w wr x tx (.slice pm x.mag.length pmc) pk pkc x.kids.length zs) (htx : strOfNums x.text = tx) (hw : VaW x) (hl : x.kids.length ≤ 1048576) :
    VaOw w.heap.size (put8 wr (w.heap.size + 1) 0 (.int .i8 x.kind) (.int .u64 x.n) (.bool x.neg) (.slice pm x.mag.length pmc) (.int .u64 x.bits) (.int .i8 x.ext) (.string tx) (.slice pk x.kids.length pkc)) (.agg #[(.int .i8 x.kind), (.int .u64 x.n), (.bool x.neg), (.slice pm x.mag.length pmc), (.int .u64 x.bits), (.int .i8 x.ext), (.string tx), (.slice pk x.kids.length pkc)]) x ∧ Below w.heap.size w (put8 wr (w.heap.size + 1) 0 (.int .i8 x.kind) (.int .u64 x.n) (.bool x.neg) (.slice pm x.mag.length pmc) (.int .u64 x.bits) (.int .i8 x.ext) (.string tx) (.slice pk x.kids.length pkc)) ∧ (put8 wr (w.heap.size + 1) 0 (.int .i8 x.kind) (.int .u64 x.n) (.bool x.neg) (.slice pm x.mag.length pmc) (.int .u64 x.bits) (.int .i8 x.ext) (.string tx) (.slice pk x.kids.length pkc)).heap[w.heap.size + 1]? = some (.cells #[(.int .i8 x.kind), (.int .u64 x.n), (.bool x.neg), (.slice pm x.mag.length pmc), (.int .u64 x.bits), (.int .i8 x.ext), (.string tx), (.slice pk x.kids.length pkc)] 31 (0, 0)) := by
  have hs : ∀ k, k ≠ w.heap.size + 1 → (put8 wr (w.heap.size + 1) 0 (.int .i8 x.kind) (.int .u64 x.n) (.bool x.neg) (.slice pm x.mag.length pmc) (.int .u64 x.bits) (.int .i8 x.ext) (.string tx) (.slice pk x.kids.length pkc)).heap[k]? = wr.heap[k]? := fun k hk => put8_same hk
  have zl : zs.length = x.kids.length := by rw [← h.zl, List.length_map]
  refine ⟨⟨⟨.slice pm x.mag.length pmc, .slice pk x.kids.length pkc, by unfold vaV; rw [htx], own_low (own_same (b := w.heap.size + 1) h.lm (by omega) hs) (by omega), ?_⟩, hw⟩, put8_below h.b (by omega), ?_⟩
  · have key := VaOn.mk (B := w.heap.size) (w := put8 wr (w.heap.size + 1) 0 (.int .i8 x.kind) (.int .u64 x.n) (.bool x.neg) (.slice pm x.mag.length pmc) (.int .u64 x.bits) (.int .i8 x.ext) (.string tx) (.slice pk x.kids.length pkc)) (.slice pk x.kids.length pkc) zs (by omega) (by rw [zl]; exact own_low (own_same (b := w.heap.size + 1) h.ow (by omega) hs) (by omega)) (fun q hq => by
      obtain ⟨i, hi, rfl⟩ := List.getElem_of_mem hq
      obtain ⟨G, h1, h2, h3, h4, h5⟩ := h.cp i hi (by omega)
      exact ⟨own_low (own_same (b := w.heap.size + 1) h3 (by omega) hs) (by omega), h5⟩) (fun q hq => by
      obtain ⟨i, hi, rfl⟩ := List.getElem_of_mem hq
      obtain ⟨G, h1, h2, h3, h4, h5⟩ := h.cp i hi (by omega)
      exact (h4.same (b := w.heap.size + 1) (by omega) hs).low (by omega))
    rw [h.zl] at key
    exact key
  · have k0 := heap_setCell_same wr (w.heap.size + 1) 0 _ _ (.int .i8 x.kind) h.g1
    simp only [List.setIfInBounds_toArray, List.set_cons_zero, List.set_cons_succ] at k0
    have k1 := heap_setCell_same _ (w.heap.size + 1) 1 _ _ (.int .u64 x.n) k0
    simp only [List.setIfInBounds_toArray, List.set_cons_zero, List.set_cons_succ] at k1
    have k2 := heap_setCell_same _ (w.heap.size + 1) 2 _ _ (.bool x.neg) k1
    simp only [List.setIfInBounds_toArray, List.set_cons_zero, List.set_cons_succ] at k2
    have k3 := heap_setCell_same _ (w.heap.size + 1) 3 _ _ (.slice pm x.mag.length pmc) k2
    simp only [List.setIfInBounds_toArray, List.set_cons_zero, List.set_cons_succ] at k3
    have k4 := heap_setCell_same _ (w.heap.size + 1) 4 _ _ (.int .u64 x.bits) k3
    simp only [List.setIfInBounds_toArray, List.set_cons_zero, List.set_cons_succ] at k4
    have k5 := heap_setCell_same _ (w.heap.size + 1) 5 _ _ (.int .i8 x.ext) k4
    simp only [List.setIfInBounds_toArray, List.set_cons_zero, List.set_cons_succ] at k5
    have k6 := heap_setCell_same _ (w.heap.size + 1) 6 _ _ (.string tx) k5
    simp only [List.setIfInBounds_toArray, List.set_cons_zero, List.set_cons_succ] at k6
    have k7 := heap_setCell_same _ (w.heap.size + 1) 7 _ _ (.slice pk x.kids.length pkc) k6
    simp only [List.setIfInBounds_toArray, List.set_cons_zero, List.set_cons_succ] at k7
    unfold put8
    exact k7
theorem CpyOf.go {x : Va} (h : CpyOf x) {w : World} {v : Value} (hv : VaRd w v x) : Calls Tryz.prog 21 #[v] w fun e w' => (∃ u, e = .returned u ∧ VaOw w.heap.size w' u x) ∧ Below w.heap.size w w' := h w v hv
set_option maxHeartbeats 16000000 in
set_option maxRecDepth 100000 in
theorem copy_step {x : Va} (hp : vpts x ≤ 1048576) (ih : ∀ k ∈ x.kids, CpyOf k) : CpyOf x := by
  intro w v h
  obtain ⟨⟨vm, vk, rfl, hm, hk⟩, hw⟩ := h
  have pk : kpts x.kids ≤ 1048576 := by have := vpts_eq x; omega
  have l20 : x.kids.length ≤ 1048576 := Nat.le_trans (kpts_len _) pk
  have m20 : x.mag.length ≤ 1048576 := by have := vpts_eq x; omega
  have HM := hide hm
  have HK := hide hk
  obtain ⟨mo, mc, rfl, -⟩ : ∃ ao cap, vm = .slice ao x.mag.length cap ∧ True := by obtain ⟨ao, cap, h, _⟩ := hm; exact ⟨ao, cap, h, trivial⟩
  obtain ⟨ko, kc, rfl, -⟩ := hk.len
  have HW := hide hw
  have HI := hide ih
  unfold vaV
  obtain ⟨tx, htx⟩ : ∃ t, strOfNums x.text = t := ⟨_, rfl⟩
  rw [htx]
  have HTX := hide htx
  clear hm hk hw ih htx hp pk
  obtain ⟨W1, hW1⟩ : ∃ W1, (w.alloc (.cells #[(.int .i8 x.kind), (.int .u64 x.n), (.bool x.neg), (.slice mo x.mag.length mc), (.int .u64 x.bits), (.int .i8 x.ext), (.string tx), (.slice ko x.kids.length kc)] 31)).alloc (.cells #[.int .i8 0, .int .u64 0, .bool false, .slice none 0 0, .int .u64 0, .int .i8 0, .string ⟨#[]⟩, .slice none 0 0] 31) = W1 := ⟨_, rfl⟩
  have Kx : Below w.heap.size w W1 := by rw [← hW1]; exact ((Below.refl _ _).alloc (Nat.le_refl _) _).alloc (by simp) _
  have hg0 : W1.heap[w.heap.size]? = some (.cells #[(.int .i8 x.kind), (.int .u64 x.n), (.bool x.neg), (.slice mo x.mag.length mc), (.int .u64 x.bits), (.int .i8 x.ext), (.string tx), (.slice ko x.kids.length kc)] 31 (0, 0)) := by rw [← hW1]; exact (Below.heap_alloc _ _ _ (by simp)).trans (heap_alloc_new _ _)
  have hg1 : W1.heap[w.heap.size + 1]? = some (.cells #[.int .i8 0, .int .u64 0, .bool false, .slice none 0 0, .int .u64 0, .int .i8 0, .string ⟨#[]⟩, .slice none 0 0] 31 (0, 0)) := by
    rw [← hW1]
    have e : w.heap.size + 1 = (w.alloc (.cells #[(.int .i8 x.kind), (.int .u64 x.n), (.bool x.neg), (.slice mo x.mag.length mc), (.int .u64 x.bits), (.int .i8 x.ext), (.string tx), (.slice ko x.kids.length kc)] 31)).heap.size := by simp
    rw [e]
    exact heap_alloc_new _ _
  have hs1 : W1.heap.size = w.heap.size + 2 := by rw [← hW1]; simp
  obtain ⟨pm, pmc, W2, hr1, ho1, hb1⟩ := app_limbs (HM.out.below Kx) m20 26
  have hg0b : W2.heap[w.heap.size]? = some (.cells #[(.int .i8 x.kind), (.int .u64 x.n), (.bool x.neg), (.slice mo x.mag.length mc), (.int .u64 x.bits), (.int .i8 x.ext), (.string tx), (.slice ko x.kids.length kc)] 31 (0, 0)) := (hb1.block _ (by omega)).trans hg0
  have HG0 := hide (heap_setCell_same W2 w.heap.size 3 _ _ (.slice pm x.mag.length pmc) hg0b)
  simp only [List.setIfInBounds_toArray, List.set_cons_zero, List.set_cons_succ] at HG0
  have HG1 := hide ((Below.heap_setCell W2 ⟨w.heap.size, 3, none⟩ (.slice pm x.mag.length pmc) (w.heap.size + 1) (by simp)).trans ((hb1.block _ (by omega)).trans hg1))
  have HO1 := hide (show LbOn (w.heap.size + 2) (W2.setCell ⟨w.heap.size, 3, none⟩ (.slice pm x.mag.length pmc)) (.slice pm x.mag.length pmc) x.mag from own_same (b := w.heap.size) (own_low ho1 (by omega)) (by omega) (fun j hj => Below.heap_setCell _ _ _ _ hj))
  have HB3 := hide (show Below w.heap.size w (W2.setCell ⟨w.heap.size, 3, none⟩ (.slice pm x.mag.length pmc)) from ((Kx.trans (hb1.mono Kx.size)).setCell (p := ⟨w.heap.size, 3, none⟩) (Nat.le_refl _) _))
  have hs3 : w.heap.size + 2 ≤ (W2.setCell ⟨w.heap.size, 3, none⟩ (.slice pm x.mag.length pmc)).heap.size := by have := hb1.size; simp [World.setCell]; omega
  obtain ⟨c0, c1, c2, c3, c4, c5, c6, c7, f0, f1, f2, f3, f4, f5, f6, f7⟩ := cells8T hg0
  obtain ⟨d0, d1, d2, d3, d4, d5, d6, d7, e0, e1, e2, e3, e4, e5, e6, e7⟩ := cells8T hg0b
  clear hg0 hg0b hg1 hb1 ho1 Kx
  go_enter Tryz.func21, Tryz.ntmps21
  go_upto_region 1 with fail
  try rw [hW1]
  clear hW1
  go_upto_region 2 with (at_builtin; refine wpList_app rfl _ _ 26 rfl rfl rfl hr1 ?_; try simp only [Act.put, List.setIfInBounds_toArray, List.set_cons_zero, List.set_cons_succ])
  generalize W2.setCell ⟨w.heap.size, 3, none⟩ (.slice pm x.mag.length pmc) = W3 at *
  clear c0 c1 c2 c3 c4 c5 c6 c7 f0 f1 f2 f3 f4 f5 f6 f7 d0 d1 d2 d3 d4 d5 d6 d7 e0 e1 e2 e3 e4 e5 e6 e7 hr1
  obtain ⟨pk, pkc, W4, zs0, hr2, hz0, hgd, ho2, hb2⟩ := app_vals HK.out HB3.out l20 29
  have hg0b := (hb2.block _ (by omega)).trans HG0.out
  have HG0b := hide (heap_setCell_same W4 w.heap.size 7 _ _ (.slice pk x.kids.length pkc) hg0b)
  simp only [List.setIfInBounds_toArray, List.set_cons_zero, List.set_cons_succ] at HG0b
  have HCY := hide (show CyI w (W4.setCell ⟨w.heap.size, 7, none⟩ (.slice pk x.kids.length pkc)) x tx (.slice pm x.mag.length pmc) pk pkc 0 zs0 from
    ⟨(HB3.out.trans (hb2.mono HB3.out.size)).setCell (p := ⟨w.heap.size, 7, none⟩) (Nat.le_refl _) _, HG0b.out, (Below.heap_setCell W4 ⟨w.heap.size, 7, none⟩ _ (w.heap.size + 1) (by simp)).trans ((hb2.block _ (by omega)).trans HG1.out),
      own_same (b := w.heap.size) (own_far HO1.out hb2) (by omega) (fun j hj => Below.heap_setCell _ _ _ _ hj), own_same (b := w.heap.size) (own_low ho2 (by omega)) (by omega) (fun j hj => Below.heap_setCell _ _ _ _ hj), hz0, fun i hi h => absurd h (by omega), fun i hi _ => hgd _ (List.getElem_mem hi)⟩)
  obtain ⟨c0, c1, c2, c3, c4, c5, c6, c7, f0, f1, f2, f3, f4, f5, f6, f7⟩ := cells8T HG0.out
  obtain ⟨d0, d1, d2, d3, d4, d5, d6, d7, e0, e1, e2, e3, e4, e5, e6, e7⟩ := cells8T hg0b
  clear hg0b hb2 ho2 hgd hz0 HG0b
  go_upto_region 3 with (at_builtin; refine wpList_app rfl _ _ 29 rfl rfl rfl hr2 ?_; try simp only [Act.put, List.setIfInBounds_toArray, List.set_cons_zero, List.set_cons_succ])
  generalize W4.setCell ⟨w.heap.size, 7, none⟩ (.slice pk x.kids.length pkc) = W5 at *
  clear c0 c1 c2 c3 c4 c5 c6 c7 f0 f1 f2 f3 f4 f5 f6 f7 d0 d1 d2 d3 d4 d5 d6 d7 e0 e1 e2 e3 e4 e5 e6 e7 hr2
  obtain ⟨c0, c1, c2, c3, c4, c5, c6, c7, f0, f1, f2, f3, f4, f5, f6, f7⟩ := cells8T HCY.out.g0
  go_wp2
  clear c0 c1 c2 c3 c4 c5 c6 c7 f0 f1 f2 f3 f4 f5 f6 f7
  go_loopw [18] (fun i wr => ∃ (j : Nat) (zs : List (Va × Value × Value)), i = .int .i64 (j : Int) ∧ j ≤ x.kids.length ∧ Hid (CyI w wr x tx (.slice pm x.mag.length pmc) pk pkc j zs)) (fun i _ => x.kids.length - (intOf i).toNat)
  case atStart => exact ⟨0, zs0, rfl, Nat.zero_le _, HCY⟩
  case round =>
    clear HCY
    obtain ⟨j, zs, rfl, hj, HC⟩ := hrel
    by_cases hjx : j < x.kids.length
    · have q1 : (j : Int) < (x.kids.length : Int) := by omega
      have hzl : zs.length = x.kids.length := by rw [← HC.out.zl, List.length_map]
      have hjz : j < zs.length := by omega
      have hgd := HC.out.od j hjz (Nat.le_refl _)
      have hym : zs[j].1 ∈ x.kids := by rw [← HC.out.zl]; exact List.mem_map_of_mem (List.getElem_mem hjz)
      obtain ⟨g, rfl⟩ : ∃ g, pk = some ⟨g, 0, none⟩ := by
        obtain ⟨po, pc, e, h0⟩ := own_shp HC.out.ow
        cases e
        exact h0 (by omega)
      have C8 := own_c8 HC.out.ow hjz
      obtain ⟨⟨y, vm2, vk2⟩, hq⟩ : ∃ q, zs[j] = q := ⟨_, rfl⟩
      rw [hq] at hgd hym C8
      simp only at hgd hym C8
      obtain ⟨hm2, hw2, hk2⟩ := hgd
      replace hm2 : Reads .u32 w vm2 y.mag := hm2
      replace hw2 : VaW y := hw2
      replace hk2 : VaSl w vk2 y.kids := hk2
      obtain ⟨m2, mc2, rfl, -⟩ : ∃ ao cap, vm2 = .slice ao y.mag.length cap ∧ True := by obtain ⟨ao, cap, h, _⟩ := hm2; exact ⟨ao, cap, h, trivial⟩
      obtain ⟨k2, kc2, rfl, -, -⟩ := hk2.len
      have HRY := hide (show VaRd w (vaV y (.slice m2 y.mag.length mc2) (.slice k2 y.kids.length kc2)) y from ⟨⟨_, _, rfl, hm2, hk2⟩, hw2⟩)
      unfold vaV at HRY
      obtain ⟨ty, hty⟩ : ∃ t, strOfNums y.text = t := ⟨_, rfl⟩
      obtain ⟨y0, y1, y2, y3, y4, y5, y6, y7⟩ := C8
      rw [hty] at HRY y6
      have HTY := hide hty
      have HYM := hide hym
      have HQ := hide hq
      have HW2 := hide hw2
      clear hm2 hk2 hw2 hty hym hq
      go_upto_region 6 with fail
      obtain ⟨W6, hW6⟩ : ∃ W6, wr.alloc (.cells #[.int .i8 y.kind, .int .u64 y.n, .bool y.neg, .slice m2 y.mag.length mc2, .int .u64 y.bits, .int .i8 y.ext, .string ty, .slice k2 y.kids.length kc2] 31) = W6 := ⟨_, rfl⟩
      have K6 : Hid (Below wr.heap.size wr W6) := hide (by rw [← hW6]; exact (Below.refl _ _).alloc (Nat.le_refl _) _)
      have BY : Hid (Bx8 W6 wr.heap.size (.int .i8 y.kind) (.int .u64 y.n) (.bool y.neg) (.slice m2 y.mag.length mc2) (.int .u64 y.bits) (.int .i8 y.ext) (.string ty) (.slice k2 y.kids.length kc2)) := hide (by rw [← hW6]; exact bx8_new _ _ _ _ _ _ _ _ _ _)
      have t6 : wr.heap.size < W6.heap.size := by rw [← hW6]; simp
      rw [hW6]
      clear hW6 y0 y1 y2 y3 y4 y5 y6 y7
      have t5 : w.heap.size + 1 < wr.heap.size := (Array.getElem?_eq_some_iff.1 HC.out.g1).1
      have CC : ∀ u : World, Below W6.heap.size W6 u → u.cell? ⟨w.heap.size, 7, none⟩ = some (.slice (some ⟨g, 0, none⟩) x.kids.length pkc) ∧ u.cell? ⟨wr.heap.size, 0, none⟩ = some (.int .i8 y.kind) ∧ u.cell? ⟨wr.heap.size, 1, none⟩ = some (.int .u64 y.n) ∧ u.cell? ⟨wr.heap.size, 2, none⟩ = some (.bool y.neg) ∧ u.cell? ⟨wr.heap.size, 3, none⟩ = some (.slice m2 y.mag.length mc2) ∧ u.cell? ⟨wr.heap.size, 4, none⟩ = some (.int .u64 y.bits) ∧ u.cell? ⟨wr.heap.size, 5, none⟩ = some (.int .i8 y.ext) ∧ u.cell? ⟨wr.heap.size, 6, none⟩ = some (.string ty) ∧ u.cell? ⟨wr.heap.size, 7, none⟩ = some (.slice k2 y.kids.length kc2) := fun u hu => by
        obtain ⟨h0, h1, h2, h3, h4, h5, h6, h7⟩ := BY.out.below hu t6
        exact ⟨((cells8T ((hu.block _ (by omega)).trans ((K6.out.block _ (by omega)).trans HC.out.g0))).2.2.2.2.2.2.2.1), h0, h1, h2, h3, h4, h5, h6, h7⟩
      have K : Below W6.heap.size W6 W6.drew := (Below.refl _ _).drew
      have HC0 := CC _ K
      have i0 : (0 : Int) ≤ (j : Int) := by omega
      refine wpHl.region (C := fun u => u.cell? ⟨w.heap.size, 7, none⟩ = some (.slice (some ⟨g, 0, none⟩) x.kids.length pkc) ∧ u.cell? ⟨wr.heap.size, 0, none⟩ = some (.int .i8 y.kind) ∧ u.cell? ⟨wr.heap.size, 1, none⟩ = some (.int .u64 y.n) ∧ u.cell? ⟨wr.heap.size, 2, none⟩ = some (.bool y.neg) ∧ u.cell? ⟨wr.heap.size, 3, none⟩ = some (.slice m2 y.mag.length mc2) ∧ u.cell? ⟨wr.heap.size, 4, none⟩ = some (.int .u64 y.bits) ∧ u.cell? ⟨wr.heap.size, 5, none⟩ = some (.int .i8 y.ext) ∧ u.cell? ⟨wr.heap.size, 6, none⟩ = some (.string ty) ∧ u.cell? ⟨wr.heap.size, 7, none⟩ = some (.slice k2 y.kids.length kc2)) (D := fun j => decide (6 ≤ j)) (by kernel_rfl) ?_
      refine wpHl.tk (i := 0) (d := some 23) (v := .pointer (some ⟨w.heap.size, 7, none⟩)) rfl (by kernel_rfl) (by kernel_rfl) (by kernel_rfl) (by kernel_rfl) rfl (fun _ _ _ h => h) (Or.inl ⟨by rfl, ?_⟩) HC0 ?_
      · intro u hC
        go_simp
      try simp only [Act.put, List.setIfInBounds_toArray, List.set_cons_zero, List.set_cons_succ]
      refine wpHl.tk (i := 1) (d := some 24) (v := .slice (some ⟨g, 0, none⟩) x.kids.length pkc) rfl (by kernel_rfl) (by kernel_rfl) (by kernel_rfl) (by kernel_rfl) rfl (fun _ _ _ h => h) (Or.inl ⟨by rfl, ?_⟩) HC0 ?_
      · intro u hC
        obtain ⟨z, z0, z1, z2, z3, z4, z5, z6, z7⟩ := hC
        go_simp
      try simp only [Act.put, List.setIfInBounds_toArray, List.set_cons_zero, List.set_cons_succ]
      refine wpHl.tk (i := 2) (d := some 25) (v := .int .i64 (j : Int)) rfl (by kernel_rfl) (by kernel_rfl) (by kernel_rfl) (by kernel_rfl) rfl (fun _ _ _ h => h) (Or.inl ⟨by rfl, ?_⟩) HC0 ?_
      · intro u hC
        go_simp
      try simp only [Act.put, List.setIfInBounds_toArray, List.set_cons_zero, List.set_cons_succ]
      refine wpHl.tk (i := 3) (d := some 26) (v := .agg #[.int .i8 y.kind, .int .u64 y.n, .bool y.neg, .slice m2 y.mag.length mc2, .int .u64 y.bits, .int .i8 y.ext, .string ty, .slice k2 y.kids.length kc2]) rfl (by kernel_rfl) (by kernel_rfl) (by kernel_rfl) (by kernel_rfl) rfl (fun _ _ _ h => h) (Or.inl ⟨by rfl, ?_⟩) HC0 ?_
      · intro u hC
        obtain ⟨z, z0, z1, z2, z3, z4, z5, z6, z7⟩ := hC
        go_simp
      try simp only [Act.put, List.setIfInBounds_toArray, List.set_cons_zero, List.set_cons_succ]
      refine wpHl.one (i := 4) (by as_aux_lemma => kernel_rfl) rfl (fun K1' hK1 => ?_)
      rw [if_pos (by rfl)]
      refine wp_call_of (f := 21) (args := #[.agg #[.int .i8 y.kind, .int .u64 y.n, .bool y.neg, .slice m2 y.mag.length mc2, .int .u64 y.bits, .int .i8 y.ext, .string ty, .slice k2 y.kids.length kc2]]) (by kernel_rfl) ?_
      with_reducible refine ((HI.out y HYM.out).go (HRY.out.far (HC.out.b.trans ((K6.out.trans (K.mono (Nat.le_of_lt t6))).mono HC.out.b.size)))).mono ?_
      rintro e u4 ⟨⟨uv, rfl, ⟨um0, uk0, rfl, hTm, hTk⟩, hTw⟩, hb⟩
      obtain ⟨um, umc, rfl, -⟩ := own_shp hTm
      obtain ⟨uk, ukc, rfl⟩ := hTk.shp
      unfold vaV
      rw [HTY.out]
      have KG := K.size
      replace K := K.trans (hb.mono K.size)
      have HB4 := hide hb
      clear HC0 hb
      have HC0 := CC _ K
      refine hK1 (Act.put _ (some 27) _) _ ⟨fun _ => HC0, ?_⟩
      clear hK1 K1'
      try simp only [Act.put, List.setIfInBounds_toArray, List.set_cons_zero, List.set_cons_succ]
      refine wpHl.tk (i := 5) (d := some 28) (v := .pointer (some ⟨g, j * 8, none⟩)) rfl (by kernel_rfl) (by kernel_rfl) (by kernel_rfl) (by kernel_rfl) rfl (fun _ _ _ h => h) (Or.inl ⟨by rfl, ?_⟩) HC0 ?_
      · intro u hC
        go_simp
      try simp only [Act.put, List.setIfInBounds_toArray, List.set_cons_zero, List.set_cons_succ]
      clear HC0
      have KW := hide (show Below wr.heap.size wr u4 from K6.out.trans (K.mono (Nat.le_of_lt t6)))
      have OW4 := own_far HC.out.ow KW.out
      have hgb := own_in OW4 (k := g) rfl
      have hgr := own_in HC.out.ow (k := g) rfl
      have HGL := hide (And.intro hgb hgr)
      have CN := own_c8 OW4 hjz
      rw [HQ.out] at CN
      obtain ⟨z0, z1, z2, z3, z4, z5, z6, z7⟩ := CN
      have f0 := OW4.frozenAt (j * 8)
      have f1 := OW4.frozenAt (j * 8 + 1)
      have f2 := OW4.frozenAt (j * 8 + 2)
      have f3 := OW4.frozenAt (j * 8 + 3)
      have f4 := OW4.frozenAt (j * 8 + 4)
      have f5 := OW4.frozenAt (j * 8 + 5)
      have f6 := OW4.frozenAt (j * 8 + 6)
      have f7 := OW4.frozenAt (j * 8 + 7)
      have HOW := hide OW4
      have HTM := hide (show LbOn _ u4 (.slice um y.mag.length umc) y.mag from hTm)
      have HTK := hide hTk
      have HKG := hide KG
      have HZL := hide hzl
      have HJZ := hide hjz
      have HK4 := hide K
      clear OW4 hTm hTk K KG hgb hgr hzl hTw CC
      refine wpHl.one (i := 6) (by as_aux_lemma => kernel_rfl) rfl (fun K1' hK1 => ?_)
      rw [if_pos (by rfl)]
      go_simp
      refine hK1 _ _ ⟨fun h => absurd h (by decide), ?_⟩
      clear hK1 K1'
      refine wpHl.done (by as_aux_lemma => kernel_rfl) ?_ _
      clear z0 z1 z2 z3 z4 z5 z6 z7 f0 f1 f2 f3 f4 f5 f6 f7
      have HNX := hide (cyi_next (um := um) (umc := umc) (uk := uk) (ukc := ukc) HC.out HJZ.out HQ.out KW.out HTY.out HTM.out HTK.out HW2.out HGL.out.2.2 (by have := HKG.out; have := K6.out.size; omega) ⟨HGL.out.2.1, HGL.out.1.2⟩)
      unfold put8 at HNX
      go_wp2
      go_roundw
      case rel => exact ⟨j + 1, _, by simp, by omega, HNX⟩
      case measure => simp [intOf]; omega
    · have q1 : ¬ (j : Int) < (x.kids.length : Int) := by omega
      obtain rfl : j = x.kids.length := by omega
      obtain ⟨c0, c1, c2, c3, c4, c5, c6, c7, f0, f1, f2, f3, f4, f5, f6, f7⟩ := cells8T HC.out.g0
      obtain ⟨d0, d1, d2, d3, d4, d5, d6, d7, e0, e1, e2, e3, e4, e5, e6, e7⟩ := cells8T HC.out.g1
      have HZ := hide (cyi_end HC.out HTX.out HW.out l20)
      unfold put8 at HZ
      clear f0 f1 f2 f3 f4 f5 f6 f7
      go_wp2
      clear c0 c1 c2 c3 c4 c5 c6 c7 d0 d1 d2 d3 d4 d5 d6 d7 e0 e1 e2 e3 e4 e5 e6 e7
      obtain ⟨HZ1, HZ2, HZ3⟩ := HZ.out
      obtain ⟨c0, c1, c2, c3, c4, c5, c6, c7, -⟩ := cells8T HZ3
      refine bodyPost_ret (v := .agg #[(.int .i8 x.kind), (.int .u64 x.n), (.bool x.neg), (.slice pm x.mag.length pmc), (.int .u64 x.bits), (.int .i8 x.ext), (.string tx), (.slice pk x.kids.length pkc)]) ?_ rfl ?_
      · rw [results_cellT rfl]
        go_simp
      · exact ⟨⟨_, rfl, HZ1⟩, HZ2⟩
theorem copy_size : ∀ (N : Nat) (x : Va), SizeOf.sizeOf x ≤ N → vpts x ≤ 1048576 → CpyOf x
  | 0, x, h, _ => by cases x; simp at h
  | N + 1, x, h, hp => copy_step hp fun k hk => copy_size N k (by have := Va.kid_lt hk; omega) (Nat.le_trans (kpts_mem hk) (by have := vpts_eq x; omega))
theorem copy_any {x : Va} (h : vpts x ≤ 1048576) : CpyOf x := copy_size _ x (Nat.le_refl _) h
end Go.Proofs.YticmlelalbaalaaGreatDoor
