/- ref13.Parts, law13.beyond: how many nodes there are -/
import Derived.Test.YtbkgphglojjllaaDoorFRefD
import Derived.Laws.OwnMore
import Derived.Laws.AppendOwnNone
import Derived.OwnWalk
namespace Go.Proofs.YtbkgphglojjllaaDoor
open Go.RowKit
set_option linter.unusedVariables false

/-- nodes and their kids' values, as cells -/
def flatP (zs : List (Nd × Value)) : List Value := zs.flatMap fun q => [.int .i64 q.1.kind, .int .i64 q.1.code, .int .i64 q.1.place, .string q.1.path, q.2]
theorem flatP_cons (q : Nd × Value) (zs : List (Nd × Value)) : flatP (q :: zs) = .int .i64 q.1.kind :: .int .i64 q.1.code :: .int .i64 q.1.place :: .string q.1.path :: q.2 :: flatP zs := rfl
theorem flatP_app (a b : List (Nd × Value)) : flatP (a ++ b) = flatP a ++ flatP b := by simp [flatP]
theorem flatP_len (zs : List (Nd × Value)) : (flatP zs).length = zs.length * 5 := by
  induction zs with
  | nil => rfl
  | cons q zs ih => rw [flatP_cons]; simp only [List.length_cons]; omega
theorem flatP_at (zs : List (Nd × Value)) (i : Nat) (h : i < zs.length) :
    (flatP zs)[i * 5]? = some (.int .i64 zs[i].1.kind) ∧ (flatP zs)[i * 5 + 1]? = some (.int .i64 zs[i].1.code) ∧ (flatP zs)[i * 5 + 2]? = some (.int .i64 zs[i].1.place) ∧ (flatP zs)[i * 5 + 3]? = some (.string zs[i].1.path) ∧ (flatP zs)[i * 5 + 4]? = some zs[i].2 := by
  induction zs generalizing i with
  | nil => simp at h
  | cons q zs ih =>
    cases i with
    | zero => rw [flatP_cons]; simp
    | succ i =>
      have := ih i (by simpa using h)
      rw [flatP_cons]
      rw [show (i + 1) * 5 = i * 5 + 1 + 1 + 1 + 1 + 1 by omega]
      simpa [List.getElem?_cons_succ] using this
/-- what is read of a list of nodes, with the kids' values -/
theorem NdSl.pairs {w : World} {v : Value} {xs : List Nd} (h : NdSl w v xs) : ∃ (ao : Option Addr) (cap : Nat) (zs : List (Nd × Value)), v = .slice ao xs.length cap ∧ zs.map Prod.fst = xs ∧ xs.length ≤ cap ∧ cap ≤ maxLen ∧ (ao = none → cap = 0) ∧
    (∀ q ∈ zs, NdSl w q.2 q.1.kids) ∧ (0 < xs.length → ∃ b off, ao = some ⟨b, off, none⟩ ∧ b < w.heap.size ∧ ∀ j u, (flatP zs)[j]? = some u → w.cell? ((⟨b, off, none⟩ : Addr).add j) = some u) := by
  obtain ⟨ao, cap, _, vs, hc, hm, hl, hn, hx, hk⟩ := h
  refine ⟨ao, cap, (List.range xs.length).attach.map (fun i => (xs[i.1]'(List.mem_range.1 i.2), vs i.1)), rfl, ?_, hc, hm, hn, ?_, ?_⟩
  · apply List.ext_getElem
    · simp
    · intro i h1 h2; simp
  · intro q hq
    obtain ⟨i, _, rfl⟩ := List.mem_map.1 hq
    exact hk i.1 (List.mem_range.1 i.2)
  · intro hp
    obtain ⟨b, off, h1, h2, h3⟩ := hx hp
    refine ⟨b, off, h1, h2, fun j u hu => ?_⟩
    rw [Addr.add_lit]
    have hlen : ((List.range xs.length).attach.map (fun i => (xs[i.1]'(List.mem_range.1 i.2), vs i.1))).length = xs.length := by simp
    have hj : j < xs.length * 5 := by
      have := (List.getElem?_eq_some_iff.1 hu).1
      rw [flatP_len, hlen] at this
      exact this
    obtain ⟨i, r, hr, rfl⟩ : ∃ i r, r < 5 ∧ j = i * 5 + r := ⟨j / 5, j % 5, by omega, by omega⟩
    have hi : i < xs.length := by omega
    obtain ⟨e0, e1, e2, e3, e4⟩ := flatP_at _ i (by rw [hlen]; exact hi)
    obtain ⟨c0, c1, c2, c3, c4⟩ := h3 i hi
    simp only [List.getElem_map, List.getElem_attach, List.getElem_range] at e0 e1 e2 e3 e4
    rw [show off + (i * 5 + r) = off + i * 5 + r by omega]
    rcases (by omega : r = 0 ∨ r = 1 ∨ r = 2 ∨ r = 3 ∨ r = 4) with rfl | rfl | rfl | rfl | rfl
    · rw [Nat.add_zero] at hu ⊢; rw [c0, ← e0, hu]
    · rw [c1, ← e1, hu]
    · rw [c2, ← e2, hu]
    · rw [c3, ← e3, hu]
    · rw [c4, ← e4, hu]
theorem nodeInfo : (Tryd.prog.info? 24).map (fun i => (i.zero, i.size, i.bytes)) = some (some (.agg #[.int .i64 0, .int .i64 0, .int .i64 0, .string ⟨#[]⟩, .slice none 0 0]), 5, 64) := by kernel_rfl
theorem info_node : ∃ i, Tryd.prog.info? 24 = some i ∧ i.zero = some (.agg #[.int .i64 0, .int .i64 0, .int .i64 0, .string ⟨#[]⟩, .slice none 0 0]) ∧ i.size = 5 ∧ i.bytes = 64 := by
  obtain ⟨i, hi, h⟩ := Option.map_eq_some_iff.1 nodeInfo
  simp only [Prod.mk.injEq] at h
  exact ⟨i, hi, h.1, h.2.1, h.2.2⟩
theorem flatP_one {w : World} (zs : List (Nd × Value)) (h : ∀ q ∈ zs, NdSl w q.2 q.1.kids) : ∀ u ∈ flatP zs, u.oneCell' = true := by
  intro u hu
  obtain ⟨q, hq, hu⟩ := List.mem_flatMap.1 hu
  obtain ⟨ao, cap, hv, _⟩ := (h q hq).len
  rw [hv] at hu
  simp only [List.mem_cons, List.not_mem_nil, or_false] at hu
  rcases hu with rfl | rfl | rfl | rfl | rfl <;> rfl
/-- append of a list of nodes that is read to a list of one's own -/
theorem wpList_append_nodes {w : World} {ops : Array Oper} {rest : List Oper} {o : Oper} {a : Act} {Q : Exit → Act → World → Prop} (hgd : o.guard = none) (s x : Operand)
    (ho : o.op = .call { callee := .builtin .append, args := #[s, x], argTypes := #[22, 22] })
    (base : Nat) (v : Value) (n : Nat) (xs : List Value) (hs : a.eval s = v) (hown : w.ownsRow base 24 5 v n xs)
    (w0 : World) (hb0 : Below w0.heap.size w0 w) (va : Value) (l : List Nd) (hx : a.eval x = va) (hrd : NdSl w0 va l)
    (h63 : n + l.length ≤ 10000) (hbase : base ≤ w.heap.size)
    (h : ∀ v' w' zs, zs.map Prod.fst = l → (∀ q ∈ zs, NdSl w0 q.2 q.1.kids) → w'.ownsRow base 24 5 v' (n + l.length) (xs ++ flatP zs) → Below base w w' → wpList Tryd.prog ops Q rest (a.put o.dst v') w') : wpList Tryd.prog ops Q (o :: rest) a w := by
  obtain ⟨i0, hi0, hz0, hz1, hz2⟩ := info_node
  obtain ⟨ao, ca, zs, rfl, hzs, hac, ham, hno, hkk, hcl⟩ := hrd.pairs
  have hr : ∀ k, v.ownBlock = some k → base ≤ k := by
    intro k hk
    rcases hown.2 with ⟨rfl, _⟩ | ⟨g, cap, cur, rfl, hg, _⟩
    · cases hk
    · cases hk; exact hg
  have hlz : zs.length = l.length := by rw [← hzs]; simp
  rcases ao with _ | ad
  · have e : l.length = 0 := by have := hno rfl; omega
    have e3 : ca = 0 := hno rfl
    have e2 : l = [] := List.eq_nil_of_length_eq_zero e
    have e4 : zs = [] := List.eq_nil_of_length_eq_zero (by omega)
    subst e2 e3 e4
    exact wpList_append_own_none hgd s x _ ho base 24 i0 5 Tryd.underlying22 hi0 v n xs hs hown hx (h v w [] rfl hkk (by simpa [flatP] using hown) (Below.refl _ w))
  · refine wpList_append_own w hgd s x _ ho base 24 i0 _ 5 64 Tryd.underlying22 hi0 hz0 hz1 hz2 rfl (by decide) v n xs hs hown ad l.length ca (flatP zs) hx (by rw [flatP_len, hlz]) ?_ (flatP_one zs hkk) (by unfold maxLen; omega) (by omega) hbase fun v' w' h2 h3 _ => h v' w' zs hzs hkk h2 ((Below.refl _ w).grown h3 hbase hr)
    by_cases e : l.length = 0
    · have e4 : zs = [] := List.eq_nil_of_length_eq_zero (by omega)
      subst e4
      intro j u hu
      simp [flatP] at hu
    · obtain ⟨g, o', he, hgl, hin⟩ := hcl (by omega)
      cases he
      intro j u hu
      have := hin j u hu
      rw [Addr.add_lit] at this ⊢
      rw [hb0.cell (p := ⟨g, _, none⟩) hgl]; exact this
/-- a list of one's own is read -/
theorem own_ndsl {w : World} {B : Nat} {v : Value} {zs : List (Nd × Value)} (hsm : zs.length ≤ 10000) (h : w.ownsRow B 24 5 v zs.length (flatP zs)) (hk : ∀ q ∈ zs, NdSl w q.2 q.1.kids) : NdSl w v (zs.map Prod.fst) := by
  have hlen : (zs.map Prod.fst).length = zs.length := by simp
  rcases h.2 with ⟨rfl, h0⟩ | ⟨g, cap, cur, rfl, h1, h2, h3, h4, h5, h6⟩
  · have e4 : zs = [] := List.eq_nil_of_length_eq_zero h0
    subst e4
    exact .mk none 0 [] (fun _ => .nilIface) (Nat.le_refl _) (by unfold maxLen; omega) (by simp) (fun _ => rfl) (fun h => absurd h (by simp)) (fun i h => absurd h (by simp))
  · have key := NdSl.mk (w := w) (some ⟨g, 0, none⟩) cap (zs.map Prod.fst) (fun i => (zs.getD i (default, .nilIface)).2) (by rw [hlen]; exact h3) h4 (by rw [hlen]; omega) (fun h => by cases h) (fun hp => ⟨g, 0, rfl, (Array.getElem?_eq_some_iff.1 h2).1, fun i hi => by
      rw [hlen] at hi
      obtain ⟨e0, e1, e2, e3, e4⟩ := flatP_at zs i hi
      have gd : zs.getD i (default, .nilIface) = zs[i] := by simp [List.getD, hi]
      have hc := fun j (hj : j < zs.length * 5) => h.cellAt (g := g) (cap := cap) j hj
      simp only [List.getElem_map, gd, Nat.zero_add]
      exact ⟨(hc _ (by omega)).trans e0, (hc _ (by omega)).trans e1, (hc _ (by omega)).trans e2, (hc _ (by omega)).trans e3, (hc _ (by omega)).trans e4⟩⟩) (fun i hi => by
      rw [hlen] at hi
      have gd : zs.getD i (default, .nilIface) = zs[i] := by simp [List.getD, hi]
      simp only [List.getElem_map, gd]
      exact hk _ (List.getElem_mem hi))
    rw [hlen] at key
    exact key
theorem allZ_kids (xs : List Nd) : allZ xs = xs.length + allZ (xs.flatMap Nd.kids) := by
  induction xs with
  | nil => simp [allZ]
  | cons x l ih => rw [allZ, List.flatMap_cons, allZ_app, ndZ_eq, ih, List.length_cons]; omega

end Go.Proofs.YtbkgphglojjllaaDoor
