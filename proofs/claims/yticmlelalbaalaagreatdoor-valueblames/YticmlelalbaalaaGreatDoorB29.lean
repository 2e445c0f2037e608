import Derived.Test.YticmlelalbaalaaGreatDoorB26
import Derived.Test.YticmlelalbaalaaGreatDoorB19
import Derived.Test.YticmlelalbaalaaGreatDoorB28
import Derived.Great.BuildSlice
import Derived.Test.YticmlelalbaalaaGreatDoorB22
namespace Go.Proofs.YticmlelalbaalaaGreatDoor
open List (setIfInBounds_toArray set_cons_zero set_cons_succ)
open Go.RowKit Go.Shelf
set_option linter.unusedVariables false
set_option linter.unusedSimpArgs false
def clF (cs : List Cl) : List Value := cs.flatMap Cl.L
theorem clF_cons (x : Cl) (xs : List Cl) : clF (x :: xs) = x.L ++ clF xs := rfl
theorem clF_app (a b : List Cl) : clF (a ++ b) = clF a ++ clF b := by simp [clF]
theorem Cl.L_len (x : Cl) : x.L.length = 8 := rfl
theorem clF_range {w : World} {b o : Nat} : ∀ {zs : List Cl}, w.rangeAt b o (clF zs) → ∀ i (h : i < zs.length), w.rangeAt b (o + i * 8) zs[i].L
  | [], _, i, h => by simp at h
  | q :: zs, h, 0, _ => by
    rw [Nat.zero_mul, Nat.add_zero]
    exact range_left h
  | q :: zs, h, i + 1, hi => by
    have := clF_range (range_right (n := 8) h (Cl.L_len q)) i (by simpa using hi)
    rw [show o + (i + 1) * 8 = o + 8 + i * 8 by omega]
    exact this
def ClRd (w : World) (v : Value) (cs : List Cl) : Prop :=
  ∃ ao cap, v = .slice ao cs.length cap ∧ (0 < cs.length → ∃ b o, ao = some ⟨b, o, none⟩ ∧ b < w.heap.size ∧ ∀ i c, cs[i]? = some c → w.rangeAt b (o + i * 8) c.L)
theorem ClRd.far {B : Nat} {w w' : World} {v : Value} {cs : List Cl} (h : ClRd w v cs) (hb : Below B w w') (hB : w.heap.size ≤ B) : ClRd w' v cs := by
  obtain ⟨ao, cap, h1, h2⟩ := h
  refine ⟨ao, cap, h1, fun h0 => ?_⟩
  obtain ⟨b, o, e, hl, hi⟩ := h2 h0
  exact ⟨b, o, e, Nat.lt_of_lt_of_le hl hb.size, fun i c h => range_blk (hi i c h) (hb.block b (by omega))⟩
theorem VaSl.cl {w : World} {v : Value} {xs : List Va} (h : VaSl w v xs) : ∃ zs : List (Va × Value × Value), zs.map Prod.fst = xs ∧ (∀ q ∈ zs, GoodV w q) ∧ ClRd w v (zs.map clQ) := by
  obtain ⟨ao, cap, _, ms, vs, hc, hm, hl2, hn, hx, hg, hk⟩ := h
  have hgood : ∀ q ∈ (List.range xs.length).map fun i => (xs.getD i default, ms i, vs i), GoodV w q := by
    intro q hq
    obtain ⟨i, hi', rfl⟩ := List.mem_map.1 hq
    have hil := List.mem_range.1 hi'
    have e : xs.getD i default = xs[i] := by simp [List.getD, hil]
    simp only [e]
    exact ⟨(hg i hil).1, (hg i hil).2, hk i hil⟩
  refine ⟨(List.range xs.length).map fun i => (xs.getD i default, ms i, vs i), ?_, hgood, ?_⟩
  · rw [List.map_map]
    apply List.ext_getElem (by simp)
    intro i h1 h2
    simp [h2]
  · refine ⟨ao, cap, by simp, fun h0 => ?_⟩
    obtain ⟨b, off, e, hb, hcc⟩ := hx (by simpa using h0)
    refine ⟨b, off, e, hb, fun i c hic => ?_⟩
    obtain ⟨hi, rfl⟩ := List.getElem?_eq_some_iff.1 hic
    have hil : i < xs.length := by simpa using hi
    rw [List.getElem_map, clQ_L (hgood _ (List.getElem_mem (by simpa using hi)))]
    have C := hcc i hil
    intro j u hu
    have ex : xs.getD i default = xs[i] := by simp [List.getD, hil]
    simp only [List.getElem_map, List.getElem_range, ex] at hu
    have hj : j < 8 := (List.getElem?_eq_some_iff.1 hu).1
    match j, hj with
    | 0, _ => exact C.c0.trans hu
    | 1, _ => exact C.c1.trans hu
    | 2, _ => exact C.c2.trans hu
    | 3, _ => exact C.c3.trans hu
    | 4, _ => exact C.c4.trans hu
    | 5, _ => exact C.c5.trans hu
    | 6, _ => exact C.c6.trans hu
    | 7, _ => exact C.c7.trans hu
theorem wp_app {P : Program} {o : Oper} {a : Act} {w w' : World} {K : Act → World → Prop} {Q : Exit → Act → World → Prop} (s x : Operand) (t : TypeId)
    (hop : o.op = .call { callee := .builtin .append, args := #[s, x], argTypes := #[t, t] }) {v va v' : Value} (hs : a.eval s = v) (hx : a.eval x = va) (hrun : (Builtin.append_ #[t, t] o.type #[v, va]).run P w = .ok v' w')
    (h : K (a.put o.dst v') w') : o.wp P a w K Q := by
  unfold Oper.wp
  simp [execOp, hop, resolve, invoke, builtin, hs, hx, hrun, Result.andThen]
  exact h
set_option maxRecDepth 100000 in
theorem Tryz.infoP : (Tryz.prog.info? 110).map (fun i => (i.zero, i.size, i.bytes)) = some (some (.agg #[.int .i8 0, .int .u64 0, .bool false, .slice none 0 0, .int .u64 0, .int .i8 0, .string ⟨#[]⟩, .slice none 0 0, .int .i8 0, .int .u64 0, .bool false, .slice none 0 0, .int .u64 0, .int .i8 0, .string ⟨#[]⟩, .slice none 0 0]), 16, 208) := by kernel_rfl
theorem paL_one (x : Cl × Cl) : ∀ u ∈ paL x, u.oneCell' = true := by
  intro u hu
  simp only [paL, Cl.L, List.cons_append, List.nil_append, List.mem_cons, List.not_mem_nil, or_false] at hu
  rcases hu with rfl | rfl | rfl | rfl | rfl | rfl | rfl | rfl | rfl | rfl | rfl | rfl | rfl | rfl | rfl | rfl <;> rfl
set_option maxRecDepth 100000 in
theorem run_app_pair {W : World} {B n : Nat} {v : Value} {xs : List Value} {g : Nat} {x : Cl × Cl} (ho : W.ownsRow B 110 16 v n xs) (hg : W.rangeAt g 0 (paL x)) (hn : n ≤ 1048576) (hB : B ≤ W.heap.size) (ty : TypeId) :
    ∃ v' W', (Builtin.append_ #[118, 118] ty #[v, .slice (some ⟨g, 0, none⟩) 1 1]).run Tryz.prog W = .ok v' W' ∧ W'.ownsRow B 110 16 v' (n + 1) (xs ++ paL x) ∧ Below B W W' := by
  obtain ⟨i0, hi, hz0, hz1, hz2⟩ := info_parts Tryz.infoP
  obtain ⟨v', W', r1, r2, r3, -⟩ := run_append_own (P := Tryz.prog) W B 118 ty 110 i0 _ 16 208 Tryz.underlying118 hi hz0 hz1 hz2 rfl (by decide) v n xs ho ⟨g, 0, none⟩ 1 1 (paL x) rfl (fun j u hu => by
    rw [Addr.add_lit]; exact hg j u hu) (paL_one x) (by unfold maxLen; omega) (by omega) hB
  refine ⟨v', W', r1, r2, (Below.refl _ W).grown r3 hB ?_⟩
  intro k hk
  rcases ho.2 with ⟨rfl, _⟩ | ⟨g, cap, cur, rfl, hg, _⟩
  · cases hk
  · cases hk; exact hg
set_option maxRecDepth 100000 in
theorem wp_bs_pair {o : Oper} {a : Act} {w : World} {K : Act → World → Prop} {Q : Exit → Act → World → Prop} (y : Operand) (ho : o.op = .buildSlice 118 1 #[(0, y)]) (x : Cl × Cl) (hy : a.eval y = paV x)
    (h : K (a.put o.dst (.slice (some ⟨w.heap.size, 0, none⟩) 1 1)) (w.alloc (.cells (paL x).toArray 110))) : o.wp Tryz.prog a w K Q := by
  obtain ⟨i0, hi, hz0, hz1, hz2⟩ := info_parts Tryz.infoP
  refine wp_buildSlice 118 110 1 _ ho (paL x).toArray i0 _ Tryz.underlying118 hi hz0 (by rw [hz1]; decide) (by rw [hz1]; decide) ?_ h
  rw [hz1]
  simp only [List.map_toArray, List.map_cons, List.map_nil, hy]
  exact (Go.Great.fill_whole (s := 16) (by decide) [paV x] _ (fun v hv => by rw [List.mem_singleton.1 hv]; rfl) (by simp)).trans (by simp [paV, Value.cells])
set_option maxHeartbeats 8000000 in
set_option maxRecDepth 100000 in
theorem pairs_any {w : World} {v : Value} {cs : List Cl} (h : ClRd w v cs) (hl : cs.length ≤ 1048576) (he : cs.length % 2 = 0) :
    Calls Tryz.prog 80 #[v] w fun e w' => (∃ u, e = .returned u ∧ w'.ownsRow w.heap.size 110 16 u (cs.length / 2) (clF cs)) ∧ Below w.heap.size w w' := by
  obtain ⟨ao, cap, rfl, hx⟩ := h
  obtain ⟨n, hn⟩ : ∃ n, cs.length = n := ⟨_, rfl⟩
  rw [hn] at hl he hx
  rw [hn]
  have HN := hide hn
  have HX := hide hx
  clear hx hn
  obtain ⟨i0, hi, hz0, hz1, hz2⟩ := info_parts Tryz.infoP
  go_enter Tryz.func80, Tryz.ntmps80
  go_wp2_with (at_make; go_loud (refine wpList_make_own _ rfl _ _ 118 rfl w.heap.size 110 i0 _ 16 Tryz.underlying118 hi hz0 hz1 _ _ _ (n / 2) rfl rfl (by omega) ?b2 ?b3 (Nat.le_refl _) ?_))
  case b2 => rw [hz2]; omega
  case b3 => unfold maxLen; omega
  intro w1 hO hG
  have HO := hide hO
  have KB := hide (show Below w.heap.size w w1 from (Below.refl _ w).grown hG (Nat.le_refl _) (fun k h => by cases h))
  clear hO hG i0 hi hz0 hz1 hz2
  go_wp2
  go_loopw [3, 4] (fun o i wr => ∃ j, i = .int .i64 ((2 * j : Nat) : Int) ∧ 2 * j ≤ n ∧ Hid (wr.ownsRow w.heap.size 110 16 o j (clF (cs.take (2 * j)))) ∧ Hid (Below w.heap.size w wr)) (fun _ i _ => n - (intOf i).toNat)
  case atStart => exact ⟨0, rfl, Nat.zero_le _, HO, KB⟩
  case round =>
    clear HO KB
    obtain ⟨j, rfl, hj, HO, KB⟩ := hrel
    obtain ⟨i, hi⟩ : ∃ i, 2 * j = i := ⟨_, rfl⟩
    rw [hi] at hj HO
    rw [hi]
    by_cases hin : i < n
    · have q1 : (i : Int) < (n : Int) := by omega
      have hin2 : i + 1 < n := by omega
      have q2 : (i : Int) + 1 < (n : Int) := by omega
      have q3 : (0 : Int) ≤ (i : Int) := by omega
      have q4 : (0 : Int) ≤ (i : Int) + 1 := by omega
      obtain ⟨b, off, rfl, hbl, hcc⟩ := HX.out (by omega)
      obtain ⟨c1, hc1⟩ : ∃ c, cs[i]'(by rw [HN.out]; omega) = c := ⟨_, rfl⟩
      obtain ⟨c2, hc2⟩ : ∃ c, cs[i + 1]'(by rw [HN.out]; omega) = c := ⟨_, rfl⟩
      have R1 := hcc i c1 (by rw [← hc1]; exact List.getElem?_eq_getElem _)
      have R2 := hcc (i + 1) c2 (by rw [← hc2]; exact List.getElem?_eq_getElem _)
      have HT := hide (show clF (cs.take (i + 2)) = clF (cs.take i) ++ paL (c1, c2) by
        rw [show i + 2 = i + 1 + 1 from rfl, List.take_succ_eq_append_getElem (by rw [HN.out]; omega), List.take_succ_eq_append_getElem (by rw [HN.out]; omega), clF_app, clF_app, hc1, hc2, List.append_assoc]
        rfl)
      have CC : ∀ u : World, Below wr.heap.size wr u → u.rangeAt b (off + i * 8) c1.L ∧ u.rangeAt b (off + (i + 1) * 8) c2.L := fun u hu =>
        have hb := KB.out.trans (hu.mono KB.out.size)
        ⟨range_blk R1 (hb.block b hbl), range_blk R2 (hb.block b hbl)⟩
      have wn : IntKind.i64.wrap ((i : Int) + 1) = ((i + 1 : Nat) : Int) := by rw [IntKind.wrap_i64]; omega
      have wn2 : IntKind.i64.wrap ((i : Int) + 2) = ((i + 2 : Nat) : Int) := by rw [IntKind.wrap_i64]; omega
      clear R1 R2 hc1 hc2 hcc
      obtain ⟨po, pc, rfl, -⟩ := own_shp HO.out
      go_upto_region 5 with fail
      have K : Below wr.heap.size wr wr.drew := (Below.refl _ _).drew
      have HC0 := CC _ K
      refine wpHl.region (C := fun u => u.rangeAt b (off + i * 8) c1.L ∧ u.rangeAt b (off + (i + 1) * 8) c2.L) (D := fun j => decide (12 ≤ j)) (by kernel_rfl) ?_
      refine wpHl.tk (i := 0) (d := some 15) (v := .slice po j pc) rfl (by kernel_rfl) (by kernel_rfl) (by kernel_rfl) (by kernel_rfl) rfl (fun _ _ _ h => h) (Or.inl ⟨by rfl, ?_⟩) HC0 ?_
      · intro u hC
        go_simp
      try simp only [Act.put, setIfInBounds_toArray, set_cons_zero, set_cons_succ]
      refine wpHl.tk (i := 1) (d := some 16) (v := .slice (some ⟨b, off, none⟩) n cap) rfl (by kernel_rfl) (by kernel_rfl) (by kernel_rfl) (by kernel_rfl) rfl (fun _ _ _ h => h) (Or.inl ⟨by rfl, ?_⟩) HC0 ?_
      · intro u hC
        go_simp
      try simp only [Act.put, setIfInBounds_toArray, set_cons_zero, set_cons_succ]
      refine wpHl.tk (i := 2) (d := some 17) (v := .int .i64 (i : Int)) rfl (by kernel_rfl) (by kernel_rfl) (by kernel_rfl) (by kernel_rfl) rfl (fun _ _ _ h => h) (Or.inl ⟨by rfl, ?_⟩) HC0 ?_
      · intro u hC
        go_simp
      try simp only [Act.put, setIfInBounds_toArray, set_cons_zero, set_cons_succ]
      refine wpHl.tk (i := 3) (d := some 18) (v := .pointer (some ⟨b, off + i * 8, none⟩)) rfl (by kernel_rfl) (by kernel_rfl) (by kernel_rfl) (by kernel_rfl) rfl (fun _ _ _ h => h) (Or.inl ⟨by rfl, ?_⟩) HC0 ?_
      · intro u hC
        go_simp
      try simp only [Act.put, setIfInBounds_toArray, set_cons_zero, set_cons_succ]
      refine wpHl.tk (i := 4) (d := some 19) (v := c1.V) rfl (by kernel_rfl) (by kernel_rfl) (by kernel_rfl) (by kernel_rfl) rfl (fun _ _ _ h => h) ?_ HC0 ?_
      · obtain ⟨d, h1, h2⟩ := vaDesc
        exact yieldsIf_load_mid rfl _ _ rfl b (off + i * 8) rfl c1.L d (fun u hC => hC.1) h1 h2 va8Info
      try simp only [Act.put, setIfInBounds_toArray, set_cons_zero, set_cons_succ]
      refine wpHl.tk (i := 5) (d := some 20) (v := .slice (some ⟨b, off, none⟩) n cap) rfl (by kernel_rfl) (by kernel_rfl) (by kernel_rfl) (by kernel_rfl) rfl (fun _ _ _ h => h) (Or.inl ⟨by rfl, ?_⟩) HC0 ?_
      · intro u hC
        go_simp
      try simp only [Act.put, setIfInBounds_toArray, set_cons_zero, set_cons_succ]
      refine wpHl.tk (i := 6) (d := some 21) (v := .int .i64 (i : Int)) rfl (by kernel_rfl) (by kernel_rfl) (by kernel_rfl) (by kernel_rfl) rfl (fun _ _ _ h => h) (Or.inl ⟨by rfl, ?_⟩) HC0 ?_
      · intro u hC
        go_simp
      try simp only [Act.put, setIfInBounds_toArray, set_cons_zero, set_cons_succ]
      refine wpHl.tk (i := 7) (d := some 22) (v := .int .i64 ((i + 1 : Nat) : Int)) rfl (by kernel_rfl) (by kernel_rfl) (by kernel_rfl) (by kernel_rfl) rfl (fun _ _ _ h => h) (Or.inl ⟨by rfl, ?_⟩) HC0 ?_
      · intro u hC
        go_simp
      try simp only [Act.put, setIfInBounds_toArray, set_cons_zero, set_cons_succ]
      refine wpHl.tk (i := 8) (d := some 23) (v := .pointer (some ⟨b, off + (i + 1) * 8, none⟩)) rfl (by kernel_rfl) (by kernel_rfl) (by kernel_rfl) (by kernel_rfl) rfl (fun _ _ _ h => h) (Or.inl ⟨by rfl, ?_⟩) HC0 ?_
      · intro u hC
        go_simp
      try simp only [Act.put, setIfInBounds_toArray, set_cons_zero, set_cons_succ]
      refine wpHl.tk (i := 9) (d := some 24) (v := c2.V) rfl (by kernel_rfl) (by kernel_rfl) (by kernel_rfl) (by kernel_rfl) rfl (fun _ _ _ h => h) ?_ HC0 ?_
      · obtain ⟨d, h1, h2⟩ := vaDesc
        exact yieldsIf_load_mid rfl _ _ rfl b (off + (i + 1) * 8) rfl c2.L d (fun u hC => hC.2) h1 h2 va8Info
      try simp only [Act.put, setIfInBounds_toArray, set_cons_zero, set_cons_succ]
      refine wpHl.tk (i := 10) (d := some 25) (v := paV (c1, c2)) rfl (by kernel_rfl) (by kernel_rfl) (by kernel_rfl) (by kernel_rfl) rfl (fun _ _ _ h => h) (Or.inl ⟨by rfl, ?_⟩) HC0 ?_
      · intro u hC
        unfold paV paL Cl.V Cl.L
        simp only [List.cons_append, List.nil_append]
        go_simp
      try simp only [Act.put, setIfInBounds_toArray, set_cons_zero, set_cons_succ]
      clear HC0
      refine wpHl.one (i := 11) (by as_aux_lemma => kernel_rfl) rfl (fun K1' hK1 => ?_)
      rw [if_pos (by rfl)]
      refine wp_bs_pair _ rfl (c1, c2) rfl ?_
      obtain ⟨W6, hW6⟩ : ∃ W6, wr.drew.alloc (.cells (paL (c1, c2)).toArray 110) = W6 := ⟨_, rfl⟩
      have K6 : Below wr.heap.size wr W6 := by rw [← hW6]; exact K.alloc (Nat.le_refl _) _
      have hG6 : W6.rangeAt wr.drew.heap.size 0 (paL (c1, c2)) := by rw [← hW6]; exact range_new _ _ _
      rw [hW6]
      clear hW6
      refine hK1 _ _ ⟨fun _ => CC _ K6, ?_⟩
      clear hK1 K1'
      try simp only [Act.put, setIfInBounds_toArray, set_cons_zero, set_cons_succ]
      obtain ⟨vo, W7, hr, hO7, hB7⟩ := run_app_pair (own_far HO.out K6) hG6 (n := j) (by omega) (Nat.le_trans KB.out.size K6.size) 118
      refine wpHl.one (i := 12) (by as_aux_lemma => kernel_rfl) rfl (fun K1' hK1 => ?_)
      rw [if_pos (by rfl)]
      refine wp_app _ _ 118 rfl rfl rfl hr ?_
      refine hK1 _ _ ⟨fun h => absurd h (by decide), ?_⟩
      clear hK1 K1'
      try simp only [Act.put, setIfInBounds_toArray, set_cons_zero, set_cons_succ]
      refine wpHl.one (i := 13) (by as_aux_lemma => kernel_rfl) rfl (fun K1' hK1 => ?_)
      rw [if_pos (by rfl)]
      go_simp
      refine hK1 _ _ ⟨fun h => absurd h (by decide), ?_⟩
      clear hK1 K1'
      refine wpHl.done (by as_aux_lemma => kernel_rfl) ?_ _
      have HO7 := hide (show W7.ownsRow w.heap.size 110 16 vo (j + 1) (clF (cs.take (2 * (j + 1)))) by rw [show 2 * (j + 1) = i + 2 by omega, HT.out]; exact hO7)
      have HB7 := hide (KB.out.trans ((K6.mono KB.out.size).trans hB7))
      clear hO7 hB7 hr hG6 K6 K CC
      go_wp2
      go_roundw
      case rel => exact ⟨j + 1, by rw [show 2 * (j + 1) = i + 2 by omega]; simp [wn2], by omega, HO7, HB7⟩
      case measure => simp [intOf]; omega
    · have q1 : ¬ (i : Int) < (n : Int) := by omega
      obtain rfl : i = n := by omega
      have HE := hide (show clF (cs.take i) = clF cs by rw [List.take_of_length_le (by rw [HN.out]; exact Nat.le_refl _)])
      rw [HE.out] at HO
      rw [show j = i / 2 by omega] at HO
      go_wp2
      go_ret
      exact ⟨⟨_, rfl, HO.out⟩, KB.out⟩
def cz : Cl := ⟨0, 0, false, none, 0, 0, 0, 0, ⟨#[]⟩, none, 0, 0⟩
def ensK (k : Nat) : List Cl → List En
  | a :: b :: cs => (a, b, (k : Int)) :: ensK (k + 1) cs
  | _ => []
theorem ensK_len : ∀ (k : Nat) (cs : List Cl), (ensK k cs).length = cs.length / 2
  | k, a :: b :: cs => by rw [ensK, List.length_cons, ensK_len]; simp only [List.length_cons]; omega
  | k, [a] => by simp [ensK]
  | k, [] => by simp [ensK]
theorem ensK_at : ∀ (k : Nat) (cs : List Cl) (i : Nat) (h : i < (ensK k cs).length), ∃ a b, cs[2 * i]? = some a ∧ cs[2 * i + 1]? = some b ∧ (ensK k cs)[i] = (a, b, ((k + i : Nat) : Int))
  | k, a :: b :: cs, 0, h => ⟨a, b, rfl, rfl, rfl⟩
  | k, a :: b :: cs, i + 1, h => by
    obtain ⟨x, y, h1, h2, h3⟩ := ensK_at (k + 1) cs i (by simpa [ensK] using h)
    refine ⟨x, y, ?_, ?_, ?_⟩
    · rw [show 2 * (i + 1) = 2 * i + 1 + 1 by omega]; exact h1
    · rw [show 2 * (i + 1) + 1 = 2 * i + 1 + 1 + 1 by omega]; exact h2
    · simp only [ensK, List.getElem_cons_succ]
      rw [h3, show k + 1 + i = k + (i + 1) by omega]
  | k, [a], i, h => by simp [ensK] at h
  | k, [], i, h => by simp [ensK] at h
theorem range_join {w : World} {b o n : Nat} {xs ys : List Value} (h1 : w.rangeAt b o xs) (hn : xs.length = n) (h2 : w.rangeAt b (o + n) ys) : w.rangeAt b o (xs ++ ys) := fun j v hv => by
  by_cases hj : j < xs.length
  · exact h1 j v (by rwa [List.getElem?_append_left hj] at hv)
  · have := h2 (j - n) v (by rwa [List.getElem?_append_right (by omega), hn] at hv)
    rwa [show o + n + (j - n) = o + j by omega] at this
theorem own_range {W : World} {B e s n g c : Nat} {xs : List Value} (h : W.ownsRow B e s (.slice (some ⟨g, 0, none⟩) n c) n xs) : W.rangeAt g 0 xs := fun j v hv => by
  have hj := (List.getElem?_eq_some_iff.1 hv).1
  rw [Nat.zero_add]
  exact (h.cellAt j (by have := h.1; omega)).trans hv
theorem wpList_stP {ops : Array Oper} {rest : List Oper} {o : Oper} {a : Act} {w : World} {Q : Exit → Act → World → Prop} (hgd : o.guard = none) (y z : Operand) (ho : o.op = .store 110 y z)
    (b f : Nat) (hy : a.eval y = .pointer (some ⟨b, f, none⟩)) (x : Cl × Cl) (hz : a.eval z = paV x) (hx : w.there b f 16) (h : wpList Tryz.prog ops Q rest (a.put o.dst undef) (w.setCells b f (paL x))) : wpList Tryz.prog ops Q (o :: rest) a w :=
  wpList_store_mid hgd _ y z ho b f (paL x).toArray hy hz hx (by rw [paInfo]; rfl) (all_oneCell_toArray (paL_one x)) h
set_option maxRecDepth 100000 in
theorem wpList_bdE {ops : Array Oper} {rest : List Oper} {o : Oper} {a : Act} {w : World} {Q : Exit → Act → World → Prop} (hgd : o.guard = none) (y z : Operand) (ho : o.op = .build 112 #[(0, y), (1, z)])
    (x : Cl × Cl) (n : Int) (hy : a.eval y = paV x) (hz : a.eval z = .int .i64 n) (h : wpList Tryz.prog ops Q rest (a.put o.dst (enV (x.1, x.2, n))) w) : wpList Tryz.prog ops Q (o :: rest) a w := by
  have e : Tryz.prog.built 112 [(0, paV x), (1, .int .i64 n)] = some (enL (x.1, x.2, n)).toArray := by
    obtain ⟨⟨a0, a1, a2, a3, a4, a5, a6, a7, a8, a9, a10, a11⟩, ⟨b0, b1, b2, b3, b4, b5, b6, b7, b8, b9, b10, b11⟩⟩ := x
    kernel_rfl
  refine wpList_build hgd _ _ ho ?_ ?_
  · simp only [List.map_toArray, List.map_cons, List.map_nil, hy, hz, e]
    rfl
  · simp only [List.map_toArray, List.map_cons, List.map_nil, hy, hz, e]
    exact h
set_option maxRecDepth 100000 in
theorem wpList_bsE {ops : Array Oper} {rest : List Oper} {o : Oper} {a : Act} {w : World} {Q : Exit → Act → World → Prop} (hgd : o.guard = none) (y : Operand) (ho : o.op = .buildSlice 107 1 #[(0, y)]) (x : En) (hy : a.eval y = enV x)
    (h : wpList Tryz.prog ops Q rest (a.put o.dst (.slice (some ⟨w.heap.size, 0, none⟩) 1 1)) (w.alloc (.cells (enL x).toArray 112))) : wpList Tryz.prog ops Q (o :: rest) a w := by
  obtain ⟨i0, hi, hz0, hz1, hz2⟩ := info_parts eninfoM
  refine wpList_buildSlice hgd 107 112 1 _ ho (enL x).toArray i0 _ Tryz.underlying107 hi hz0 (by rw [hz1]; decide) (by rw [hz1]; decide) ?_ h
  rw [hz1]
  simp only [List.map_toArray, List.map_cons, List.map_nil, hy]
  exact (Go.Great.fill_whole (s := 17) (by decide) [enV x] _ (fun v hv => by rw [List.mem_singleton.1 hv]; rfl) (by simp)).trans (by simp [enV, Value.cells])
set_option maxRecDepth 100000 in
theorem run_app_entry {W : World} {B n : Nat} {v : Value} {xs : List Value} {g : Nat} {x : En} (ho : W.ownsRow B 112 17 v n xs) (hg : W.rangeAt g 0 (enL x)) (hn : n ≤ 1048576) (hB : B ≤ W.heap.size) (ty : TypeId) :
    ∃ v' W', (Builtin.append_ #[107, 107] ty #[v, .slice (some ⟨g, 0, none⟩) 1 1]).run Tryz.prog W = .ok v' W' ∧ W'.ownsRow B 112 17 v' (n + 1) (xs ++ enL x) ∧ Below B W W' ∧ W.grownBy W' v.ownBlock ∧ (v'.ownBlock = v.ownBlock ∨ v'.ownBlock = some W.heap.size) := by
  obtain ⟨i0, hi, hz0, hz1, hz2⟩ := info_parts eninfoM
  obtain ⟨v', W', r1, r2, r3, -, r5⟩ := run_append_own_at (P := Tryz.prog) W B 107 ty 112 i0 _ 17 216 Tryz.underlying107 hi hz0 hz1 hz2 rfl (by decide) v n xs ho ⟨g, 0, none⟩ 1 1 (enL x) rfl (fun j u hu => by
    rw [Addr.add_lit]; exact hg j u hu) (enL_one x) (by unfold maxLen; omega) (by omega) hB
  refine ⟨v', W', r1, r2, (Below.refl _ W).grown r3 hB ?_, r3, r5⟩
  intro k hk
  rcases ho.2 with ⟨rfl, _⟩ | ⟨g, cap, cur, rfl, hg, _⟩
  · cases hk
  · cases hk; exact hg
theorem there_new (w : World) (t : TypeId) (cs : Array Value) {n : Nat} (hn : n ≤ cs.size) : (w.alloc (.cells cs t)).there w.heap.size 0 n := there_blk (heap_alloc_new w _) (by omega)
set_option maxHeartbeats 8000000 in
set_option maxRecDepth 100000 in
theorem entries_any {w : World} {v : Value} {cs : List Cl} (h : ClRd w v cs) (hl : cs.length ≤ 1048576) (he : cs.length % 2 = 0) :
    Calls Tryz.prog 74 #[v] w fun e w' => (∃ u, e = .returned u ∧ w'.ownsRow w.heap.size 112 17 u (cs.length / 2) (flatE (ensK 0 cs))) ∧ Below w.heap.size w w' := by
  have hh := hide h
  obtain ⟨ao, cap, rfl, hx⟩ := h
  obtain ⟨n, hn⟩ : ∃ n, cs.length = n := ⟨_, rfl⟩
  have HP := hide (fun (W : World) (hB : Below w.heap.size w W) => pairs_any (hh.out.far hB (Nat.le_refl _)) hl he)
  rw [hn] at hl he HP
  rw [hn]
  have HN := hide hn
  have HL := hide (show (ensK 0 cs).length = n / 2 by rw [ensK_len, hn])
  clear hx hn hh
  obtain ⟨m, hm⟩ : ∃ m, n / 2 = m := ⟨_, rfl⟩
  rw [hm] at HP HL
  have HM := hide hm
  have hm2 : (n : Int) / 2 = (m : Int) := by omega
  have hm3 : m ≤ 1048576 := by omega
  rw [hm]
  clear hm he
  obtain ⟨i0, hi, hz0, hz1, hz2⟩ := info_parts eninfoM
  go_enter Tryz.func74, Tryz.ntmps74
  go_wp2_with (at_make; refine wpList_make_own _ rfl _ _ 107 rfl w.heap.size 112 i0 _ 17 Tryz.underlying107 hi hz0 hz1 _ _ _ m rfl rfl (by omega) ?b2 ?b3 (Nat.le_refl _) ?_)
  case b2 => rw [hz2]; omega
  case b3 => unfold maxLen; omega
  intro w1 hO hG
  have HO := hide hO
  have KB := hide (show Below w.heap.size w w1 from (Below.refl _ w).grown hG (Nat.le_refl _) (fun k h => by cases h))
  clear hO hG i0 hi hz0 hz1 hz2 hm2
  go_wp2_with (go_at_call 80; (with_reducible refine (HP.out _ KB.out).mono ?_); rintro e w2 ⟨⟨up, rfl, hO2⟩, hb⟩; obtain ⟨uo, uc, rfl, hu0⟩ := own_shp hO2)
  clear HP
  have HU := hide hu0
  have HB2 := hide (KB.out.trans (hb.mono KB.out.size))
  have HO2b := hide (own_far HO.out hb)
  have HG2 : Hid (∀ g, uo = some ⟨g, 0, none⟩ → g < w2.heap.size ∧ w2.rangeAt g 0 (clF cs) ∧ ∀ k, (Value.slice (some ⟨w.heap.size, 0, none⟩) 0 m).ownBlock = some k → k ≠ g) := hide fun g e => by
    subst e
    have h3 := own_in hO2 (k := g) rfl
    refine ⟨h3.2, own_range hO2, fun k hk => ?_⟩
    cases hk
    have := own_in HO.out (k := w.heap.size) rfl
    show w.heap.size ≠ g
    omega
  clear KB HO hO2 hu0 hb
  go_loopw [3, 13] (fun o i wr => ∃ j, i = .int .i64 ((j : Nat) : Int) ∧ j ≤ m ∧ Hid (wr.ownsRow w.heap.size 112 17 o j (flatE ((ensK 0 cs).take j))) ∧ Hid (Below w.heap.size w wr) ∧ Hid (∀ g, uo = some ⟨g, 0, none⟩ → g < wr.heap.size ∧ wr.rangeAt g 0 (clF cs) ∧ ∀ k, o.ownBlock = some k → k ≠ g)) (fun _ i _ => m - (intOf i).toNat)
  case atStart => exact ⟨0, rfl, Nat.zero_le _, HO2b, HB2, HG2⟩
  case round =>
    clear HO2b HB2 HG2
    obtain ⟨j, rfl, hj, HO, KB, HG⟩ := hrel
    by_cases hjm : j < m
    · have q1 : (j : Int) < (m : Int) := by omega
      have q2 : (0 : Int) ≤ (j : Int) := by omega
      obtain ⟨g, rfl⟩ := HU.out (by omega)
      obtain ⟨hgl, hgr, hgo⟩ := HG.out g rfl
      obtain ⟨a, b, ha, hb, hx⟩ := ensK_at 0 cs j (by rw [HL.out]; exact hjm)
      rw [Nat.zero_add] at hx
      obtain ⟨hal, rfl⟩ := List.getElem?_eq_some_iff.1 ha
      obtain ⟨hbl, rfl⟩ := List.getElem?_eq_some_iff.1 hb
      have hR0 : wr.rangeAt g (j * 16) (paL (cs[2 * j], cs[2 * j + 1])) := by
        have r1 := clF_range hgr (2 * j) hal
        have r2 := clF_range hgr (2 * j + 1) hbl
        rw [show 0 + 2 * j * 8 = j * 16 by omega] at r1
        rw [show 0 + (2 * j + 1) * 8 = j * 16 + 8 by omega] at r2
        exact range_join r1 (Cl.L_len _) r2
      have HT := hide (show flatE ((ensK 0 cs).take (j + 1)) = flatE ((ensK 0 cs).take j) ++ enL (cs[2 * j], cs[2 * j + 1], (j : Int)) by
        rw [List.take_succ_eq_append_getElem (by rw [HL.out]; exact hjm), flatE_append, hx]
        simp [flatE])
      generalize cs[2 * j] = a at *
      generalize cs[2 * j + 1] = b at *
      have HR := hide hR0
      have HGL := hide hgl
      have HGR := hide hgr
      have HGO := hide hgo
      clear hR0 hgl hgr hgo ha hb hx hal hbl
      obtain ⟨po, pc, rfl, -⟩ := own_shp HO.out
      have HTH := hide (there_new wr 110 #[.int .i8 0, .int .u64 0, .bool false, .slice none 0 0, .int .u64 0, .int .i8 0, .string ⟨#[]⟩, .slice none 0 0, .int .i8 0, .int .u64 0, .bool false, .slice none 0 0, .int .u64 0, .int .i8 0, .string ⟨#[]⟩, .slice none 0 0] (n := 16) (by decide))
      obtain ⟨W8, hW8⟩ : ∃ W8, (wr.alloc (.cells #[.int .i8 0, .int .u64 0, .bool false, .slice none 0 0, .int .u64 0, .int .i8 0, .string ⟨#[]⟩, .slice none 0 0, .int .i8 0, .int .u64 0, .bool false, .slice none 0 0, .int .u64 0, .int .i8 0, .string ⟨#[]⟩, .slice none 0 0] 110)).setCells wr.heap.size 0 (paL (a, b)) = W8 := ⟨_, rfl⟩
      have HRG := hide (show W8.rangeAt wr.heap.size 0 (paL (a, b)) by rw [← hW8]; exact World.rangeAt_setCells_same _ _ _ _ HTH.out)
      have KB8 := hide (show Below wr.heap.size wr W8 by rw [← hW8]; exact below_cells ((Below.refl _ _).alloc (Nat.le_refl _) _) (Nat.le_refl _) _ _)
      have HW8 := hide hW8
      clear hW8
      obtain ⟨v9, W9, hr, hO9, hB9, hG9, hv9⟩ := run_app_entry (W := W8.alloc (.cells (enL (a, b, (j : Int))).toArray 112)) (g := W8.heap.size) (x := (a, b, (j : Int))) (own_far (own_far HO.out KB8.out) ((Below.refl _ W8).alloc (Nat.le_refl _) _)) (range_new _ _ _) (by omega) (by have := KB.out.size; have := KB8.out.size; simp; omega) 107
      have HO9 := hide (show W9.ownsRow w.heap.size 112 17 v9 (j + 1) (flatE ((ensK 0 cs).take (j + 1))) by rw [HT.out]; exact hO9)
      have KA8 := (KB8.out.alloc (KB8.out.size) (.cells (enL (a, b, (j : Int))).toArray 112))
      have HB9 := hide ((KB.out.trans (KA8.mono KB.out.size)).trans hB9)
      have HG9 : Hid (∀ g', some (⟨g, 0, none⟩ : Addr) = some ⟨g', 0, none⟩ → g' < W9.heap.size ∧ W9.rangeAt g' 0 (clF cs) ∧ ∀ k, v9.ownBlock = some k → k ≠ g') := hide fun g' e => by
        cases e
        obtain ⟨_, _, _, gs, gb⟩ := hG9
        have h1 := HGL.out
        have h2 := KA8.size
        refine ⟨Nat.lt_of_lt_of_le h1 (Nat.le_trans h2 gs), ?_, fun k hk => ?_⟩
        · refine range_blk (range_blk HGR.out (KA8.block _ h1)) (gb _ (by omega) ?_)
          intro hk
          exact HGO.out _ hk.symm rfl
        · rcases hv9 with e | e
          · exact HGO.out _ (e ▸ hk)
          · rw [e] at hk; cases hk; omega
      clear hO9 hB9 hG9 hv9 KA8
      go_upto_region 5 with (first | (refine wpList_ldP rfl _ rfl g (j * 16) rfl (a, b) HR.out ?_; try simp only [Act.put, setIfInBounds_toArray, set_cons_zero, set_cons_succ]) | (refine wpList_stP rfl _ _ rfl wr.heap.size 0 rfl (a, b) rfl HTH.out ?_; rw [HW8.out]; try simp only [Act.put, setIfInBounds_toArray, set_cons_zero, set_cons_succ]))
      go_wp2_with (first | (refine wpList_ldP rfl _ rfl wr.heap.size 0 rfl (a, b) HRG.out ?_; try simp only [Act.put, setIfInBounds_toArray, set_cons_zero, set_cons_succ]) | (refine wpList_bdE rfl _ _ rfl (a, b) (j : Int) rfl rfl ?_; try simp only [Act.put, setIfInBounds_toArray, set_cons_zero, set_cons_succ]) | (refine wpList_bsE rfl _ rfl (a, b, (j : Int)) rfl ?_; try simp only [Act.put, setIfInBounds_toArray, set_cons_zero, set_cons_succ]) | (at_builtin; refine wpList_app rfl _ _ 107 rfl rfl rfl hr ?_; try simp only [Act.put, setIfInBounds_toArray, set_cons_zero, set_cons_succ]))
      go_roundw
      case rel => exact ⟨j + 1, by simp, by omega, HO9, HB9, HG9⟩
      case measure => simp [intOf]; omega
    · have q1 : ¬ (j : Int) < (m : Int) := by omega
      obtain rfl : j = m := by omega
      have HE := hide (show flatE ((ensK 0 cs).take j) = flatE (ensK 0 cs) by rw [List.take_of_length_le (by rw [HL.out]; exact Nat.le_refl _)])
      rw [HE.out] at HO
      go_wp2
      go_ret
      exact ⟨⟨_, rfl, HO.out⟩, KB.out⟩
theorem wp_bs_va2 {o : Oper} {a : Act} {w : World} {K : Act → World → Prop} {Q : Exit → Act → World → Prop} (y z : Operand) (ho : o.op = .buildSlice 29 2 #[(0, y), (1, z)]) {x1 x2 : Va} {m1 k1 m2 k2 : Value} (hy : a.eval y = vaV x1 m1 k1) (hz : a.eval z = vaV x2 m2 k2)
    (h : K (a.put o.dst (.slice (some ⟨w.heap.size, 0, none⟩) 2 2)) (w.alloc (.cells (vaL x1 m1 k1 ++ vaL x2 m2 k2).toArray 31))) : o.wp Tryz.prog a w K Q := by
  obtain ⟨i0, hi, hz0, hz1, hz2⟩ := info_va
  refine wp_buildSlice 29 31 2 _ ho (vaL x1 m1 k1 ++ vaL x2 m2 k2).toArray i0 _ Tryz.underlying29 hi hz0 (by rw [hz1]; decide) (by rw [hz1]; decide) ?_ h
  rw [hz1]
  simp only [List.map_toArray, List.map_cons, List.map_nil, hy, hz]
  exact (Go.Great.fill_whole (s := 8) (by decide) [vaV x1 m1 k1, vaV x2 m2 k2] _ (fun v hv => by
    simp only [List.mem_cons, List.not_mem_nil, or_false] at hv
    rcases hv with rfl | rfl <;> rfl) (by simp)).trans (by simp [vaV, vaL, Value.cells])
theorem vaL_oneS (x : Va) (mo ko : Option Addr) (a b c d : Nat) : ∀ u ∈ vaL x (.slice mo a b) (.slice ko c d), u.oneCell' = true := by
  intro u hu
  simp only [vaL, List.mem_cons, List.not_mem_nil, or_false] at hu
  rcases hu with rfl | rfl | rfl | rfl | rfl | rfl | rfl | rfl <;> rfl
theorem run_app_va2 {W : World} {B n g0 cap g : Nat} {xs : List Value} {x1 x2 : Va} {m1 k1 m2 k2 : Value} (ho : W.ownsRow B 31 8 (.slice (some ⟨g0, 0, none⟩) n cap) n xs) (hg : W.rangeAt g 0 (vaL x1 m1 k1 ++ vaL x2 m2 k2)) (hn : n + 2 ≤ cap)
    (h1 : ∀ u ∈ vaL x1 m1 k1, u.oneCell' = true) (h2 : ∀ u ∈ vaL x2 m2 k2, u.oneCell' = true) (ty : TypeId) :
    ∃ W', (Builtin.append_ #[29, 29] ty #[.slice (some ⟨g0, 0, none⟩) n cap, .slice (some ⟨g, 0, none⟩) 2 2]).run Tryz.prog W = .ok (.slice (some ⟨g0, 0, none⟩) (n + 2) cap) W' ∧ W'.ownsRow B 31 8 (.slice (some ⟨g0, 0, none⟩) (n + 2) cap) (n + 2) (xs ++ (vaL x1 m1 k1 ++ vaL x2 m2 k2)) ∧ W.grownBy W' (some g0) := by
  obtain ⟨i0, hi, hz0, hz1, hz2⟩ := info_va
  exact run_append_fits (P := Tryz.prog) W B 29 ty 31 i0 8 Tryz.underlying29 hi hz1 g0 n cap xs ho ⟨g, 0, none⟩ 2 2 (vaL x1 m1 k1 ++ vaL x2 m2 k2) rfl (fun j u hu => by
    rw [Addr.add_lit]; exact hg j u hu) (fun u hu => (List.mem_append.1 hu).elim (h1 u) (h2 u)) hn
theorem own_grown {w w' : World} {B g0 : Nat} {e : TypeId} {s n : Nat} {v : Value} {xs : List Value} (h : w.ownsRow B e s v n xs) (hg : w.grownBy w' (some g0)) (hb : g0 < B) : w'.ownsRow B e s v n xs :=
  own_keptV h (fun k hk => hg.block k (own_in h hk).2 (fun e => by cases e; have := (own_in h hk).1; omega))
theorem VaOn.grown {w w' : World} {B g0 : Nat} {v : Value} {xs : List Va} (h : VaOn B w v xs) (hg : w.grownBy w' (some g0)) (hb : g0 < B) : VaOn B w' v xs := by
  induction h with
  | mk v zs hl ho hm hk ih => exact .mk v zs hl (own_grown ho hg hb) (fun q hq => ⟨own_grown (hm q hq).1 hg hb, (hm q hq).2⟩) ih
structure MoI (w wr : World) (g0 n cap : Nat) (zs : List (Va × Value × Value)) (xs : List Va) : Prop where
  b : Below w.heap.size w wr
  r : wr.heap[w.heap.size]? = some (.cells #[.int .i8 0, .int .u64 0, .bool false, .slice none 0 0, .int .u64 0, .int .i8 0, .string ⟨#[]⟩, .slice none 0 0] 31 (0, 0))
  ow : wr.ownsRow g0 31 8 (.slice (some ⟨g0, 0, none⟩) n cap) n (flatV zs)
  zl : zs.map Prod.fst = xs
  cp : ∀ q ∈ zs, LbOn (g0 + 1) wr q.2.1 q.1.mag ∧ VaOn (g0 + 1) wr q.2.2 q.1.kids ∧ VaW q.1
theorem MoI.next {w wr W3 W4 : World} {g0 n cap : Nat} {zs : List (Va × Value × Value)} {xs : List Va} {a b : Va} {um uk vm vk : Value} (h : MoI w wr g0 n cap zs xs) (hg : w.heap.size < g0) (hgw : g0 < wr.heap.size) (hb : Below wr.heap.size wr W3) (hgr : W3.grownBy W4 (some g0))
    (ho : W4.ownsRow g0 31 8 (.slice (some ⟨g0, 0, none⟩) (n + 2) cap) (n + 2) (flatV zs ++ (vaL a um uk ++ vaL b vm vk)))
    (ha : VaW a) (hb1 : VaW b) (h1 : LbOn wr.heap.size W3 um a.mag) (h2 : VaOn wr.heap.size W3 uk a.kids) (h3 : LbOn wr.heap.size W3 vm b.mag) (h4 : VaOn wr.heap.size W3 vk b.kids) :
    MoI w W4 g0 (n + 2) cap (zs ++ [(a, um, uk), (b, vm, vk)]) (xs ++ [a, b]) := by
  have hb3 : Below w.heap.size w W4 := (h.b.trans (hb.mono h.b.size)).grown hgr (Nat.le_trans h.b.size hb.size) (fun k hk => by cases hk; omega)
  have l0 := (Array.getElem?_eq_some_iff.1 h.r).1
  refine ⟨hb3, ?_, ?_, ?_, ?_⟩
  · exact (hgr.block _ (Nat.lt_of_lt_of_le l0 hb.size) (fun e => by cases e; omega)).trans ((hb.block _ l0).trans h.r)
  · rw [flatV_app, show flatV [(a, um, uk), (b, vm, vk)] = vaL a um uk ++ vaL b vm vk by simp [flatV]]
    exact ho
  · rw [List.map_append, h.zl]; rfl
  · intro q hq
    rcases List.mem_append.1 hq with hq | hq
    · obtain ⟨c1, c2, c3⟩ := h.cp q hq
      exact ⟨own_grown (own_far c1 hb) hgr (by omega), (c2.far hb).grown hgr (by omega), c3⟩
    · simp only [List.mem_cons, List.not_mem_nil, or_false] at hq
      rcases hq with rfl | rfl
      · exact ⟨own_grown (own_low h1 (by omega)) hgr (by omega), (h2.low (by omega)).grown hgr (by omega), ha⟩
      · exact ⟨own_grown (own_low h3 (by omega)) hgr (by omega), (h4.low (by omega)).grown hgr (by omega), hb1⟩
theorem two_len (f g : En → Va) : ∀ xs : List En, (xs.flatMap fun x => [f x, g x]).length = 2 * xs.length
  | [] => rfl
  | x :: xs => by rw [List.flatMap_cons, List.length_append, two_len f g xs]; simp only [List.length_cons, List.length_nil]; omega
def mpV (xs : List Va) : Va := ⟨8, 0, false, [], 0, 0, [], xs⟩
theorem MoI.end_ {w wr : World} {g0 n cap : Nat} {zs : List (Va × Value × Value)} {xs : List Va} (h : MoI w wr g0 n cap zs xs) (hg : w.heap.size < g0) (hn : n = xs.length) (hl : n ≤ 1048576) :
    VaOw w.heap.size (put8 wr w.heap.size 0 (.int .i8 8) (.int .u64 0) (.bool false) (.slice none 0 0) (.int .u64 0) (.int .i8 0) (.string ⟨#[]⟩) (.slice (some ⟨g0, 0, none⟩) n cap)) (.agg #[.int .i8 8, .int .u64 0, .bool false, .slice none 0 0, .int .u64 0, .int .i8 0, .string ⟨#[]⟩, .slice (some ⟨g0, 0, none⟩) n cap]) (mpV xs) ∧ Below w.heap.size w (put8 wr w.heap.size 0 (.int .i8 8) (.int .u64 0) (.bool false) (.slice none 0 0) (.int .u64 0) (.int .i8 0) (.string ⟨#[]⟩) (.slice (some ⟨g0, 0, none⟩) n cap)) ∧ (put8 wr w.heap.size 0 (.int .i8 8) (.int .u64 0) (.bool false) (.slice none 0 0) (.int .u64 0) (.int .i8 0) (.string ⟨#[]⟩) (.slice (some ⟨g0, 0, none⟩) n cap)).heap[w.heap.size]? = some (.cells #[.int .i8 8, .int .u64 0, .bool false, .slice none 0 0, .int .u64 0, .int .i8 0, .string ⟨#[]⟩, .slice (some ⟨g0, 0, none⟩) n cap] 31 (0, 0)) := by
  have hs : ∀ k, k ≠ w.heap.size → (put8 wr w.heap.size 0 (.int .i8 8) (.int .u64 0) (.bool false) (.slice none 0 0) (.int .u64 0) (.int .i8 0) (.string ⟨#[]⟩) (.slice (some ⟨g0, 0, none⟩) n cap)).heap[k]? = wr.heap[k]? := fun k hk => put8_same hk
  have zl : zs.length = n := by rw [hn, ← h.zl, List.length_map]
  refine ⟨⟨⟨.slice none 0 0, .slice (some ⟨g0, 0, none⟩) n cap, rfl, World.ownsRow_nil _ _ _ _, ?_⟩, ?_⟩, put8_below h.b (Nat.le_refl _), ?_⟩
  · have key := VaOn.mk (B := w.heap.size) (w := put8 wr w.heap.size 0 (.int .i8 8) (.int .u64 0) (.bool false) (.slice none 0 0) (.int .u64 0) (.int .i8 0) (.string ⟨#[]⟩) (.slice (some ⟨g0, 0, none⟩) n cap)) (.slice (some ⟨g0, 0, none⟩) n cap) zs (by omega) (by rw [zl]; exact own_low (own_same (b := w.heap.size) h.ow hg hs) (by omega)) (fun q hq => by
      obtain ⟨h3, h4, h5⟩ := h.cp q hq
      exact ⟨own_low (own_same (b := w.heap.size) h3 (by omega) hs) (by omega), h5⟩) (fun q hq => by
      obtain ⟨h3, h4, h5⟩ := h.cp q hq
      exact (h4.same (b := w.heap.size) (by omega) hs).low (by omega))
    rw [h.zl] at key
    exact key
  · constructor <;> first | decide | (intro z hz; cases hz) | (exact fun i => by simp [mpV, Va.mag, Nt.lb]) | (simp [mpV, Va.kind, Va.n, Va.bits, Va.ext, Va.text, Va.mag]; done) | skip
  · have k0 := heap_setCell_same wr (w.heap.size) 0 _ _ (.int .i8 8) h.r
    have k1 := heap_setCell_same _ (w.heap.size) 1 _ _ (.int .u64 0) k0
    have k2 := heap_setCell_same _ (w.heap.size) 2 _ _ (.bool false) k1
    have k3 := heap_setCell_same _ (w.heap.size) 3 _ _ (.slice none 0 0) k2
    have k4 := heap_setCell_same _ (w.heap.size) 4 _ _ (.int .u64 0) k3
    have k5 := heap_setCell_same _ (w.heap.size) 5 _ _ (.int .i8 0) k4
    have k6 := heap_setCell_same _ (w.heap.size) 6 _ _ (.string ⟨#[]⟩) k5
    have k7 := heap_setCell_same _ (w.heap.size) 7 _ _ (.slice (some ⟨g0, 0, none⟩) n cap) k6
    simp only [setIfInBounds_toArray, set_cons_zero, set_cons_succ] at k7
    unfold put8
    exact k7
set_option maxHeartbeats 16000000 in
set_option maxRecDepth 100000 in
theorem mapof_any {w : World} {v : Value} {xs : List En} {ka kb : En → Va} (ha : EnRd (fun _ => True) w v xs) (hl : xs.length ≤ 524288)
    (hka : ∀ x ∈ xs, VaRd w x.1.V (ka x) ∧ VaRd w x.2.1.V (kb x) ∧ vpts (ka x) ≤ 1048576 ∧ vpts (kb x) ≤ 1048576) :
    Calls Tryz.prog 79 #[v] w fun e w' => (∃ u, e = .returned u ∧ VaOw w.heap.size w' u (mpV (xs.flatMap fun x => [ka x, kb x]))) ∧ Below w.heap.size w w' := by
  obtain ⟨ao, ca, rfl, hac, ham, hacl⟩ := ha
  obtain ⟨n, hn⟩ : ∃ n, xs.length = n := ⟨_, rfl⟩
  have RA : Hid (0 < n → ∃ g o, ao = some ⟨g, o, none⟩ ∧ g < w.heap.size ∧ ∀ i x, xs[i]? = some x → w.rangeAt g (o + i * 17) (enL x)) := hide fun h0 => by
    obtain ⟨g, o, e, _, h1, h2⟩ := hacl (by omega)
    exact ⟨g, o, e, h1, fun i x hx => by obtain ⟨hi, rfl⟩ := List.getElem?_eq_some_iff.1 hx; exact h2 i hi⟩
  have HK := hide hka
  have HN := hide hn
  rw [hn] at hl
  rw [hn]
  clear hacl hka hac ham hn
  obtain ⟨i0, hi, hz0, hz1, hz2⟩ := info_va
  have wn : IntKind.i64.wrap (2 * (n : Int)) = ((2 * n : Nat) : Int) := by rw [IntKind.wrap_i64]; omega
  obtain ⟨W1, hW1⟩ : ∃ W1, w.alloc (.cells #[.int .i8 0, .int .u64 0, .bool false, .slice none 0 0, .int .u64 0, .int .i8 0, .string ⟨#[]⟩, .slice none 0 0] 31) = W1 := ⟨_, rfl⟩
  have HS1 := hide (show W1.heap.size = w.heap.size + 1 by rw [← hW1]; simp)
  have K1 := hide (show Below w.heap.size w W1 by rw [← hW1]; exact (Below.refl _ _).alloc (Nat.le_refl _) _)
  have HR1 := hide (show W1.heap[w.heap.size]? = some (.cells #[.int .i8 0, .int .u64 0, .bool false, .slice none 0 0, .int .u64 0, .int .i8 0, .string ⟨#[]⟩, .slice none 0 0] 31 (0, 0)) by rw [← hW1]; exact heap_alloc_new _ _)
  go_enter Tryz.func79, Tryz.ntmps79
  go_upto_region 1 with fail
  try rw [hW1]
  clear hW1
  go_wp2_with (at_make; refine wpList_make_own _ rfl _ _ 29 rfl W1.heap.size 31 i0 _ 8 Tryz.underlying29 hi hz0 hz1 _ _ _ (2 * n) rfl rfl (by omega) ?b2 ?b3 (Nat.le_refl _) ?_)
  case b2 => rw [hz2]; omega
  case b3 => unfold maxLen; omega
  intro w2 hO hG
  have HM := hide (show MoI w w2 W1.heap.size 0 (2 * n) [] [] from
    ⟨K1.out.grown hG K1.out.size (fun k h => by cases h), (hG.block _ (by have := HS1.out; omega) (by simp)).trans HR1.out, hO, rfl, fun q h => by cases h⟩)
  have hg2 : W1.heap.size < w2.heap.size := (own_in hO (k := W1.heap.size) rfl).2
  clear hO hG i0 hi hz0 hz1 hz2 wn
  go_wp2
  go_loopw [3, 12] (fun o i wr => ∃ (j : Nat) (zs : List (Va × Value × Value)), i = .int .i64 (j : Int) ∧ j ≤ n ∧ o = .slice (some ⟨W1.heap.size, 0, none⟩) (2 * j) (2 * n) ∧ W1.heap.size < wr.heap.size ∧ Hid (MoI w wr W1.heap.size (2 * j) (2 * n) zs ((xs.take j).flatMap fun x => [ka x, kb x]))) (fun _ i _ => n - (intOf i).toNat)
  case atStart => exact ⟨0, [], rfl, Nat.zero_le _, rfl, hg2, HM⟩
  case round =>
    clear HM hg2
    obtain ⟨j, zs, rfl, hj, rfl, hgw, HM⟩ := hrel
    by_cases hjn : j < n
    · have q1 : (j : Int) < (n : Int) := by omega
      have q2 : (0 : Int) ≤ (j : Int) := by omega
      obtain ⟨g, off, rfl, hgl, hcc⟩ := RA.out (by omega)
      obtain ⟨x, hx⟩ : ∃ x, xs[j]'(by rw [HN.out]; exact hjn) = x := ⟨_, rfl⟩
      have HX := hide (range_blk (hcc j x (by rw [← hx]; exact List.getElem?_eq_getElem _)) (HM.out.b.block g hgl))
      obtain ⟨ra, rb, pa, pb⟩ := HK.out x (hx ▸ List.getElem_mem _)
      have HRA := hide ra
      have HRB := hide rb
      have HPA := hide (copy_any pa)
      have HPB := hide (copy_any pb)
      have HWA := hide ra.wf
      have HWB := hide rb.wf
      have HT := hide (show (xs.take (j + 1)).flatMap (fun x => [ka x, kb x]) = (xs.take j).flatMap (fun x => [ka x, kb x]) ++ [ka x, kb x] by
        rw [List.take_succ_eq_append_getElem (by rw [HN.out]; exact hjn), List.flatMap_append, hx]
        simp)
      clear hcc hx ra rb pa pb
      generalize ka x = av at *
      generalize kb x = bv at *
      have HTH := hide (there_new wr 112 #[.int .i8 0, .int .u64 0, .bool false, .slice none 0 0, .int .u64 0, .int .i8 0, .string ⟨#[]⟩, .slice none 0 0, .int .i8 0, .int .u64 0, .bool false, .slice none 0 0, .int .u64 0, .int .i8 0, .string ⟨#[]⟩, .slice none 0 0, .int .i64 0] (n := 17) (by decide))
      obtain ⟨W8, hW8⟩ : ∃ W8, (wr.alloc (.cells #[.int .i8 0, .int .u64 0, .bool false, .slice none 0 0, .int .u64 0, .int .i8 0, .string ⟨#[]⟩, .slice none 0 0, .int .i8 0, .int .u64 0, .bool false, .slice none 0 0, .int .u64 0, .int .i8 0, .string ⟨#[]⟩, .slice none 0 0, .int .i64 0] 112)).setCells wr.heap.size 0 (enL x) = W8 := ⟨_, rfl⟩
      have HRG := hide (show W8.rangeAt wr.heap.size 0 (enL x) by rw [← hW8]; exact World.rangeAt_setCells_same _ _ _ _ HTH.out)
      have KB8 := hide (show Below wr.heap.size wr W8 by rw [← hW8]; exact below_cells ((Below.refl _ _).alloc (Nat.le_refl _) _) (Nat.le_refl _) _ _)
      have hB8 : wr.heap.size < W8.heap.size := by
        have h := (below_cells (B := wr.heap.size) (b := wr.heap.size) (Below.refl wr.heap.size (wr.alloc (.cells #[.int .i8 0, .int .u64 0, .bool false, .slice none 0 0, .int .u64 0, .int .i8 0, .string ⟨#[]⟩, .slice none 0 0, .int .i8 0, .int .u64 0, .bool false, .slice none 0 0, .int .u64 0, .int .i8 0, .string ⟨#[]⟩, .slice none 0 0, .int .i64 0] 112))) (Nat.le_refl _) (enL x) 0).size
        rw [hW8] at h
        simp at h
        omega
      have HW8 := hide hW8
      clear hW8
      go_upto_region 5 with (first | (refine wpList_ldE rfl _ rfl g (off + j * 17) rfl x HX.out ?_; try simp only [Act.put, setIfInBounds_toArray, set_cons_zero, set_cons_succ]) | (refine wpList_stE rfl _ _ rfl wr.heap.size 0 rfl x rfl HTH.out ?_; rw [HW8.out]; try simp only [Act.put, setIfInBounds_toArray, set_cons_zero, set_cons_succ]))
      have CC : ∀ u : World, Below W8.heap.size W8 u → u.rangeAt wr.heap.size 0 x.1.L ∧ u.rangeAt wr.heap.size 8 x.2.1.L := fun u hu =>
        have hr : u.rangeAt wr.heap.size 0 (x.1.L ++ x.2.1.L) := range_left (ys := [.int .i64 x.2.2]) (range_blk HRG.out (hu.block _ hB8))
        ⟨range_left hr, range_right (n := 8) hr (Cl.L_len _)⟩
      have K : Below W8.heap.size W8 W8.drew := (Below.refl _ _).drew
      have HC0 := CC _ K
      obtain ⟨dE, dE1, dE2⟩ := vaDesc
      refine wpHl.region0 (C := fun u => u.rangeAt wr.heap.size 0 x.1.L ∧ u.rangeAt wr.heap.size 8 x.2.1.L) (by kernel_rfl) (by kernel_rfl) (fun HS => ?_)
      refine wpHl.tk0 (i := 1) (d := some 17) (v := .pointer (some ⟨wr.heap.size, 0, none⟩)) rfl HS (by as_aux_lemma => kernel_rfl) rfl (fun _ _ _ h => h) (Or.inl ⟨by rfl, ?_⟩) HC0 ?_
      · intro u hC
        go_simp
      try simp only [Act.put, setIfInBounds_toArray, set_cons_zero, set_cons_succ]
      refine wpHl.tk0 (i := 2) (d := some 18) (v := .pointer (some ⟨wr.heap.size, 0, none⟩)) rfl HS (by as_aux_lemma => kernel_rfl) rfl (fun _ _ _ h => h) (Or.inl ⟨by rfl, ?_⟩) HC0 ?_
      · intro u hC
        go_simp
      try simp only [Act.put, setIfInBounds_toArray, set_cons_zero, set_cons_succ]
      refine wpHl.tk0 (i := 3) (d := some 19) (v := x.1.V) rfl HS (by as_aux_lemma => kernel_rfl) rfl (fun _ _ _ h => h) (yieldsIf_load_mid (by rfl) _ _ rfl wr.heap.size 0 rfl x.1.L dE (fun u hu => hu.1) dE1 dE2 va8Info) HC0 ?_
      try simp only [Act.put, setIfInBounds_toArray, set_cons_zero, set_cons_succ]
      refine wpHl.tk0 (i := 5) (d := some 21) (v := .pointer (some ⟨wr.heap.size, 0, none⟩)) rfl HS (by as_aux_lemma => kernel_rfl) rfl (fun _ _ _ h => h) (Or.inl ⟨by rfl, ?_⟩) HC0 ?_
      · intro u hC
        go_simp
      try simp only [Act.put, setIfInBounds_toArray, set_cons_zero, set_cons_succ]
      refine wpHl.tk0 (i := 6) (d := some 22) (v := .pointer (some ⟨wr.heap.size, 8, none⟩)) rfl HS (by as_aux_lemma => kernel_rfl) rfl (fun _ _ _ h => h) (Or.inl ⟨by rfl, ?_⟩) HC0 ?_
      · intro u hC
        go_simp
      try simp only [Act.put, setIfInBounds_toArray, set_cons_zero, set_cons_succ]
      refine wpHl.tk0 (i := 7) (d := some 23) (v := x.2.1.V) rfl HS (by as_aux_lemma => kernel_rfl) rfl (fun _ _ _ h => h) (yieldsIf_load_mid (by rfl) _ _ rfl wr.heap.size 8 rfl x.2.1.L dE (fun u hu => hu.2) dE1 dE2 va8Info) HC0 ?_
      try simp only [Act.put, setIfInBounds_toArray, set_cons_zero, set_cons_succ]
      refine wpHl.tk0 (i := 0) (d := some 16) (v := .slice (some ⟨W1.heap.size, 0, none⟩) (2 * j) (2 * n)) rfl HS (by as_aux_lemma => kernel_rfl) rfl (fun _ _ _ h => h) (Or.inl ⟨by rfl, ?_⟩) HC0 ?_
      · intro u hC
        go_simp
      try simp only [Act.put, setIfInBounds_toArray, set_cons_zero, set_cons_succ]
      refine wpHl.one (i := 4) (by as_aux_lemma => kernel_rfl) rfl (fun KK hKK => ?_)
      rw [if_pos (by rfl)]
      refine wp_call_of (f := 21) (args := #[x.1.V]) (by kernel_rfl) ?_
      with_reducible refine ((HPA.out).go (HRA.out.far ((HM.out.b.trans (KB8.out.mono HM.out.b.size)).trans (K.mono (Nat.le_trans HM.out.b.size KB8.out.size))))).mono ?_
      rintro e uA ⟨⟨uA', rfl, huA⟩, hb⟩
      obtain ⟨⟨mA, kA, rfl, lmA, lkA⟩, -⟩ := huA
      have KSA := K.size
      replace K := K.trans (hb.mono K.size)
      clear hb
      clear HC0
      have HC0 := CC _ K
      refine hKK (Act.put _ (some 20) _) _ ⟨fun _ => HC0, ?_⟩
      clear hKK KK
      try simp only [Act.put, setIfInBounds_toArray, set_cons_zero, set_cons_succ]
      refine wpHl.one (i := 8) (by as_aux_lemma => kernel_rfl) rfl (fun KK hKK => ?_)
      rw [if_pos (by rfl)]
      refine wp_call_of (f := 21) (args := #[x.2.1.V]) (by kernel_rfl) ?_
      with_reducible refine ((HPB.out).go (HRB.out.far ((HM.out.b.trans (KB8.out.mono HM.out.b.size)).trans (K.mono (Nat.le_trans HM.out.b.size KB8.out.size))))).mono ?_
      rintro e uB ⟨⟨uB', rfl, huB⟩, hb⟩
      obtain ⟨⟨mB, kB, rfl, lmB, lkB⟩, -⟩ := huB
      have KSB := K.size
      replace K := K.trans (hb.mono K.size)
      have hb4 := hb
      clear hb
      clear HC0
      have HC0 := CC _ K
      refine hKK (Act.put _ (some 24) _) _ ⟨fun _ => HC0, ?_⟩
      clear hKK KK
      try simp only [Act.put, setIfInBounds_toArray, set_cons_zero, set_cons_succ]
      obtain ⟨oA, eA, rfl, -⟩ := own_shp lmA
      obtain ⟨oB, eB, rfl, -⟩ := own_shp lmB
      obtain ⟨pA, fA, rfl⟩ := lkA.shp
      obtain ⟨pB, fB, rfl⟩ := lkB.shp
      refine wpHl.one (i := 9) (by as_aux_lemma => kernel_rfl) rfl (fun KK hKK => ?_)
      rw [if_pos (by rfl)]
      refine wp_bs_va2 _ _ rfl (x1 := av) (x2 := bv) rfl rfl ?_
      obtain ⟨W6, hW6⟩ : ∃ W6, uB.alloc (.cells (vaL av (.slice oA av.mag.length eA) (.slice pA av.kids.length fA) ++ vaL bv (.slice oB bv.mag.length eB) (.slice pB bv.kids.length fB)).toArray 31) = W6 := ⟨_, rfl⟩
      have hG6 : W6.rangeAt uB.heap.size 0 (vaL av (.slice oA av.mag.length eA) (.slice pA av.kids.length fA) ++ vaL bv (.slice oB bv.mag.length eB) (.slice pB bv.kids.length fB)) := by rw [← hW6]; exact range_new _ _ _
      have hb6 : Below uB.heap.size uB W6 := by rw [← hW6]; exact (Below.refl _ _).alloc (Nat.le_refl _) _
      have K6 : Below W8.heap.size W8 W6 := K.trans (hb6.mono K.size)
      have hbA : Below uA.heap.size uA W6 := hb4.trans (hb6.mono hb4.size)
      have hbW : Below wr.heap.size wr W6 := KB8.out.trans (K6.mono KB8.out.size)
      have sA : wr.heap.size ≤ uA.heap.size := Nat.le_trans KB8.out.size KSB
      rw [hW6]
      clear hW6
      refine hKK _ _ ⟨fun _ => CC _ K6, ?_⟩
      clear hKK KK
      try simp only [Act.put, setIfInBounds_toArray, set_cons_zero, set_cons_succ]
      obtain ⟨W7, hr, hO7, hG7⟩ := run_app_va2 (own_far HM.out.ow hbW) hG6 (n := 2 * j) (by omega) (vaL_oneS _ _ _ _ _ _ _) (vaL_oneS _ _ _ _ _ _ _) 29
      have C7 : W7.rangeAt wr.heap.size 0 x.1.L ∧ W7.rangeAt wr.heap.size 8 x.2.1.L := by
        have e := hG7.block wr.heap.size (Nat.lt_of_lt_of_le hB8 K6.size) (fun e => by injection e with e; omega)
        exact ⟨range_blk (CC _ K6).1 e, range_blk (CC _ K6).2 e⟩
      have HNX := hide (MoI.next HM.out (by have := HS1.out; omega) hgw hbW hG7 hO7 HWA.out HWB.out (own_low (own_far lmA hbA) (Nat.le_trans KB8.out.size KSA)) ((lkA.far hbA).low (Nat.le_trans KB8.out.size KSA)) (own_low (own_far lmB hb6) sA) ((lkB.far hb6).low sA))
      rw [← HT.out] at HNX
      have hg7 : W1.heap.size < W7.heap.size := Nat.lt_of_lt_of_le hgw (Nat.le_trans hbW.size hG7.size)
      refine wpHl.one (i := 10) (by as_aux_lemma => kernel_rfl) rfl (fun KK hKK => ?_)
      rw [if_pos (by rfl)]
      refine wp_app _ _ 29 rfl rfl rfl hr ?_
      refine hKK _ _ ⟨fun _ => C7, ?_⟩
      clear hKK KK
      try simp only [Act.put, setIfInBounds_toArray, set_cons_zero, set_cons_succ]
      refine wpHl.one (i := 11) (by as_aux_lemma => kernel_rfl) rfl (fun KK hKK => ?_)
      rw [if_pos (by rfl)]
      go_simp
      refine hKK _ _ ⟨fun _ => C7, ?_⟩
      clear hKK KK
      refine wpHl.done (by as_aux_lemma => kernel_rfl) ?_ _
      clear C7 hr hO7 hG7 hG6 hbA hbW hb6 hb4 K6 K HC0 CC lmA lmB lkA lkB KSA KSB sA
      go_wp2
      go_roundw
      case rel => exact ⟨j + 1, _, by simp, by omega, by rw [show 2 * (j + 1) = 2 * j + 2 by omega], hg7, HNX⟩
      case measure => simp [intOf]; omega
    · have q1 : ¬ (j : Int) < (n : Int) := by omega
      obtain rfl : j = n := by omega
      have HE := hide (show (xs.take j).flatMap (fun x => [ka x, kb x]) = xs.flatMap (fun x => [ka x, kb x]) by rw [List.take_of_length_le (by rw [HN.out]; exact Nat.le_refl _)])
      rw [HE.out] at HM
      have HL2 := hide (show 2 * j = (xs.flatMap fun x => [ka x, kb x]).length by rw [two_len, HN.out])
      obtain ⟨c0, c1, c2, c3, c4, c5, c6, c7, f0, f1, f2, f3, f4, f5, f6, f7⟩ := cells8T HM.out.r
      have HZ := hide (MoI.end_ HM.out (by have := HS1.out; omega) HL2.out (by omega))
      unfold put8 at HZ
      go_wp2
      clear c0 c1 c2 c3 c4 c5 c6 c7 f0 f1 f2 f3 f4 f5 f6 f7
      obtain ⟨HZ1, HZ2, HZ3⟩ := HZ.out
      obtain ⟨c0, c1, c2, c3, c4, c5, c6, c7, -⟩ := cells8T HZ3
      refine bodyPost_ret (v := .agg #[.int .i8 8, .int .u64 0, .bool false, .slice none 0 0, .int .u64 0, .int .i8 0, .string ⟨#[]⟩, .slice (some ⟨W1.heap.size, 0, none⟩) (2 * j) (2 * j)]) ?_ rfl ?_
      · rw [results_cellT rfl]
        go_simp
      · exact ⟨⟨_, rfl, HZ1⟩, HZ2⟩
set_option maxHeartbeats 4000000 in
set_option maxRecDepth 100000 in
theorem isdeep_any {w : World} {c : Cl} {a : Va} (h : VaRd w c.V a) (p : vpts a ≤ 1048576) :
    Calls Tryz.prog 78 #[c.V] w fun e w' => e = .returned (.bool (vdep a == 128)) ∧ Below w.heap.size w w' := by
  obtain ⟨W1, hW1⟩ : ∃ W1, (w.alloc (.cells c.L.toArray 31)) = W1 := ⟨_, rfl⟩
  have KX := hide (show Below w.heap.size w W1 by rw [← hW1]; exact ((Below.refl _ _).alloc (Nat.le_refl _) _))
  have HX := hide (show W1.rangeAt w.heap.size 0 c.L from (by rw [← hW1]; exact range_new w _ _))
  have HC := hide ((vdepth_any p) W1 c.V (h.far KX.out))
  obtain ⟨d, hd⟩ : ∃ d, vdep a = d := ⟨_, rfl⟩
  rw [hd] at HC
  rw [hd]
  have eb : (d == 128) = decide (d = 128) := by by_cases e : d = 128 <;> simp [e]
  rw [eb]
  clear h hd eb
  obtain ⟨z, hz⟩ : ∃ z, decide (d = 128) = z := ⟨_, rfl⟩
  go_enter Tryz.func78, Tryz.ntmps78
  unfold Cl.V
  go_upto_region 1 with fail
  try rw [hW1]
  clear hW1
  go_wp2_with (first | (refine wpList_ldV rfl _ rfl w.heap.size 0 rfl c HX.out ?_; try simp only [Act.put, setIfInBounds_toArray, set_cons_zero, set_cons_succ]) | (go_at_call 26; (with_reducible refine HC.out.mono ?_); rintro e w8 ⟨rfl, hb⟩))
  go_ret
  exact ⟨rfl, KX.out.trans (hb.mono KX.out.size)⟩
structure ClGd (w : World) (v : Value) (zs : List (Va × Value × Value)) : Prop where
  rd : ClRd w v (zs.map clQ)
  gd : ∀ q ∈ zs, GoodV w q
set_option maxHeartbeats 4000000 in
set_option maxRecDepth 100000 in
theorem ixdeep_any {w : World} {v : Value} {zs : List (Va × Value × Value)} (h : ClGd w v zs) (hl : zs.length ≤ 1048576) (p : ∀ q ∈ zs, vpts q.1 ≤ 1048576) :
    Calls Tryz.prog 117 #[v, .func (.func 78) #[] #[]] w fun e w' => (∃ r : Int, e = .returned (.int .i64 r) ∧ decide (0 ≤ r) = zs.any fun q => vdep q.1 == 128) ∧ Below w.heap.size w w' := by
  obtain ⟨⟨ao, cap, rfl, hx⟩, hg⟩ := h
  obtain ⟨n, hn⟩ : ∃ n, zs.length = n := ⟨_, rfl⟩
  rw [List.length_map] at hx
  rw [hn] at hl hx
  rw [List.length_map, hn]
  have HX : Hid (0 < n → ∃ b o, ao = some ⟨b, o, none⟩ ∧ b < w.heap.size ∧ ∀ i q, zs[i]? = some q → w.rangeAt b (o + i * 8) (clQ q).L) := hide fun h0 => by
    obtain ⟨b, o, e, hb, hi⟩ := hx h0
    exact ⟨b, o, e, hb, fun i q hq => hi i _ (by rw [List.getElem?_map, hq]; rfl)⟩
  have HC := hide (fun W (hb : Below w.heap.size w W) q (hq : q ∈ zs) => isdeep_any (hg q hq |>.rd.far hb) (p q hq))
  have HN := hide hn
  clear hx hg p hn
  obtain ⟨R, hR⟩ : ∃ R, (zs.any fun q => vdep q.1 == 128) = R := ⟨_, rfl⟩
  have HR := hide (show (zs.drop 0).any (fun q => vdep q.1 == 128) = R from hR)
  rw [hR]
  clear hR
  go_enter Tryz.func117, Tryz.ntmps117
  go_wp2
  go_loopw [8] (fun i wr => ∃ (j : Nat), i = .int .i64 (j : Int) ∧ j ≤ n ∧ Hid ((zs.drop j).any (fun q => vdep q.1 == 128) = R) ∧ Hid (Below w.heap.size w wr)) (fun i _ => n - (intOf i).toNat)
  case atStart => exact ⟨0, rfl, Nat.zero_le _, HR, hide (Below.refl _ _)⟩
  case round =>
    clear HR
    obtain ⟨j, rfl, hj, HR, KB⟩ := hrel
    by_cases hjn : j < n
    · have q1 : (j : Int) < (n : Int) := by omega
      have q2 : (0 : Int) ≤ (j : Int) := by omega
      obtain ⟨b, off, rfl, hbl, hcc⟩ := HX.out (by omega)
      obtain ⟨q, hq⟩ : ∃ q, zs[j]'(by rw [HN.out]; exact hjn) = q := ⟨_, rfl⟩
      have HQ := hide (range_blk (hcc j q (by rw [← hq]; exact List.getElem?_eq_getElem _)) (KB.out.block b hbl))
      have HCQ := hide (HC.out wr KB.out q (hq ▸ List.getElem_mem _))
      have HRN := hide (show ((vdep q.1 == 128) || (zs.drop (j + 1)).any fun q => vdep q.1 == 128) = R by
        have := HR.out
        rw [List.drop_eq_getElem_cons (by rw [HN.out]; exact hjn), List.any_cons, hq] at this
        exact this)
      clear hcc hq
      obtain ⟨b1, hb1⟩ : ∃ b1, (vdep q.1 == 128) = b1 := ⟨_, rfl⟩
      rw [hb1] at HCQ HRN
      clear hb1
      cases b1
      · go_wp2_with (first | (refine wpList_ldV rfl _ rfl b (off + j * 8) rfl (clQ q) HQ.out ?_; try simp only [Act.put, setIfInBounds_toArray, set_cons_zero, set_cons_succ]) | (go_at_call 78; (with_reducible refine HCQ.out.mono ?_); rintro e w8 ⟨rfl, hb⟩))
        have KZ := hide (KB.out.trans (hb.mono KB.out.size))
        clear hb
        go_roundw
        case rel => exact ⟨j + 1, by simp, by omega, hide (by simpa using HRN.out), KZ⟩
        case measure => simp [intOf]; omega
      · go_wp2_with (first | (refine wpList_ldV rfl _ rfl b (off + j * 8) rfl (clQ q) HQ.out ?_; try simp only [Act.put, setIfInBounds_toArray, set_cons_zero, set_cons_succ]) | (go_at_call 78; (with_reducible refine HCQ.out.mono ?_); rintro e w8 ⟨rfl, hb⟩))
        go_ret
        refine ⟨⟨(j : Int), rfl, ?_⟩, KB.out.trans (hb.mono KB.out.size)⟩
        have := HRN.out
        rw [← this]
        simp
    · have q1 : ¬ (j : Int) < (n : Int) := by omega
      have HE := hide (show R = false by rw [← HR.out, List.drop_eq_nil_of_le (by rw [HN.out]; omega)]; rfl)
      go_wp2
      go_ret
      exact ⟨⟨-1, rfl, by rw [HE.out]; rfl⟩, KB.out⟩
set_option maxHeartbeats 4000000 in
set_option maxRecDepth 100000 in
theorem deepest_any {w : World} {v : Value} {zs : List (Va × Value × Value)} (h : ClGd w v zs) (hl : zs.length ≤ 1048576) (p : ∀ q ∈ zs, vpts q.1 ≤ 1048576) :
    Calls Tryz.prog 77 #[v, .func (.func 78) #[] #[]] w fun e w' => e = .returned (.bool (zs.any fun q => vdep q.1 == 128)) ∧ Below w.heap.size w w' := by
  have HC := hide (ixdeep_any h hl p)
  obtain ⟨R, hR⟩ : ∃ R, (zs.any fun q => vdep q.1 == 128) = R := ⟨_, rfl⟩
  rw [hR] at HC
  rw [hR]
  clear h p hR
  go_enter Tryz.func77, Tryz.ntmps77
  go_wp2_with (go_at_call 117; (with_reducible refine HC.out.mono ?_); rintro e w8 ⟨⟨r, rfl, hr⟩, hb⟩)
  go_ret
  exact ⟨by rw [← hr]; first | rfl | simp, hb⟩
def repG (f : En → En → Int) (xs : List En) (i : Nat) (l : Int) : Int :=
  if h : i < xs.length then repG f xs (i + 1) (if f (xs[i - 1]'(by omega)) xs[i] = 0 ∧ (l < 0 ∨ xs[i].2.2 < l) then xs[i].2.2 else l) else l
termination_by xs.length - i
theorem repG_yes {f : En → En → Int} {xs : List En} {i : Nat} {l : Int} {p x : En} (h : i < xs.length) (hp : xs[i - 1]'(by omega) = p) (hx : xs[i] = x) (h0 : f p x = 0) (h1 : l < 0 ∨ x.2.2 < l) : repG f xs i l = repG f xs (i + 1) x.2.2 := by
  rw [repG, dif_pos h, hp, hx, if_pos ⟨h0, h1⟩]
theorem repG_no {f : En → En → Int} {xs : List En} {i : Nat} {l : Int} {p x : En} (h : i < xs.length) (hp : xs[i - 1]'(by omega) = p) (hx : xs[i] = x) (h0 : ¬ (f p x = 0 ∧ (l < 0 ∨ x.2.2 < l))) : repG f xs i l = repG f xs (i + 1) l := by
  rw [repG, dif_pos h, hp, hx, if_neg h0]
theorem repG_end {f : En → En → Int} {xs : List En} {i : Nat} {l : Int} (h : ¬ i < xs.length) : repG f xs i l = l := by rw [repG, dif_neg h]
set_option maxHeartbeats 16000000 in
set_option maxRecDepth 100000 in
theorem repeated_any {w : World} {v : Value} {xs : List En} {f : En → En → Int} {Pd : En → Prop} (ha : EnRd (fun _ => True) w v xs) (hl : xs.length ≤ 1048576) (hpd : ∀ x ∈ xs, Pd x)
    (hc : ∀ W a b, Below w.heap.size w W → Pd a → Pd b → Calls Tryz.prog 75 #[enV a, enV b] W fun e W' => e = .returned (.int .i64 (f a b)) ∧ Below W.heap.size W W') :
    Calls Tryz.prog 76 #[v] w fun e w' => e = .returned (.int .i64 (repG f xs 1 (-1))) ∧ Below w.heap.size w w' := by
  obtain ⟨ao, ca, rfl, hac, ham, hacl⟩ := ha
  obtain ⟨n, hn⟩ : ∃ n, xs.length = n := ⟨_, rfl⟩
  obtain ⟨R, hR⟩ : ∃ R, repG f xs 1 (-1) = R := ⟨_, rfl⟩
  have RA : Hid (0 < n → ∃ g o, ao = some ⟨g, o, none⟩ ∧ g < w.heap.size ∧ ∀ i x, xs[i]? = some x → w.rangeAt g (o + i * 17) (enL x)) := hide fun h0 => by
    obtain ⟨g, o, e, _, h1, h2⟩ := hacl (by omega)
    exact ⟨g, o, e, h1, fun i x hx => by obtain ⟨hi, rfl⟩ := List.getElem?_eq_some_iff.1 hx; exact h2 i hi⟩
  have HC := hide hc
  have HPD := hide hpd
  have HN := hide hn
  have HR0 := hide hR
  rw [hR]
  rw [hn] at hl
  rw [hn]
  clear hacl hc hpd hac ham hR hn
  go_enter Tryz.func76, Tryz.ntmps76
  go_wp2
  go_loopw [3, 4] (fun l i wr => ∃ (j : Nat) (y : Int), l = .int .i64 y ∧ i = .int .i64 (j : Int) ∧ 1 ≤ j ∧ j ≤ n + 1 ∧ Hid (repG f xs j y = R) ∧ Hid (Below w.heap.size w wr)) (fun _ i _ => n + 1 - (intOf i).toNat)
  case atStart => exact ⟨1, -1, rfl, rfl, Nat.le_refl _, by omega, HR0, hide (Below.refl _ _)⟩
  case round =>
    clear HR0
    obtain ⟨j, y, rfl, rfl, hj1, hj, HRJ, KB⟩ := hrel
    by_cases hjn : j < n
    · have q1 : (j : Int) < (n : Int) := by omega
      have q2 : (0 : Int) ≤ (j : Int) := by omega
      obtain ⟨i, hi⟩ : ∃ i, j - 1 = i := ⟨_, rfl⟩
      have wi : IntKind.i64.wrap ((j : Int) - 1) = (i : Int) := by rw [IntKind.wrap_i64]; omega
      have q3 : (0 : Int) ≤ (i : Int) := by omega
      have q4 : (i : Int) < (n : Int) := by omega
      obtain ⟨g, off, rfl, hgl, hcc⟩ := RA.out (by omega)
      have hjl : j < xs.length := by rw [HN.out]; exact hjn
      have hil : j - 1 < xs.length := by omega
      obtain ⟨x, hx⟩ : ∃ x, xs[j] = x := ⟨_, rfl⟩
      obtain ⟨p, hp⟩ : ∃ p, xs[j - 1] = p := ⟨_, rfl⟩
      have HX := hide (range_blk (hcc j x (by rw [← hx]; exact List.getElem?_eq_getElem _)) (KB.out.block g hgl))
      have HPx := hide (range_blk (hcc (j - 1) p (by rw [← hp]; exact List.getElem?_eq_getElem _)) (KB.out.block g hgl))
      rw [hi] at HPx
      have HI := hide hi
      have HYES := hide (fun (h0 : f p x = 0) (h1 : y < 0 ∨ x.2.2 < y) => (repG_yes hjl hp hx h0 h1).symm.trans HRJ.out)
      have HNO := hide (fun (h0 : ¬ (f p x = 0 ∧ (y < 0 ∨ x.2.2 < y))) => (repG_no hjl hp hx h0).symm.trans HRJ.out)
      have HCB := hide (fun W (hb : Below w.heap.size w W) => HC.out W p x hb (HPD.out p (hp ▸ List.getElem_mem _)) (HPD.out x (hx ▸ List.getElem_mem _)))
      clear hcc hx hp hi hjl hil
      have HTH := hide (there_new wr 112 #[.int .i8 0, .int .u64 0, .bool false, .slice none 0 0, .int .u64 0, .int .i8 0, .string ⟨#[]⟩, .slice none 0 0, .int .i8 0, .int .u64 0, .bool false, .slice none 0 0, .int .u64 0, .int .i8 0, .string ⟨#[]⟩, .slice none 0 0, .int .i64 0] (n := 17) (by decide))
      obtain ⟨W8, hW8⟩ : ∃ W8, (wr.alloc (.cells #[.int .i8 0, .int .u64 0, .bool false, .slice none 0 0, .int .u64 0, .int .i8 0, .string ⟨#[]⟩, .slice none 0 0, .int .i8 0, .int .u64 0, .bool false, .slice none 0 0, .int .u64 0, .int .i8 0, .string ⟨#[]⟩, .slice none 0 0, .int .i64 0] 112)).setCells wr.heap.size 0 (enL x) = W8 := ⟨_, rfl⟩
      have HRG := hide (show W8.rangeAt wr.heap.size 0 (enL x) by rw [← hW8]; exact World.rangeAt_setCells_same _ _ _ _ HTH.out)
      have KB8 := hide (show Below wr.heap.size wr W8 by rw [← hW8]; exact below_cells ((Below.refl _ _).alloc (Nat.le_refl _) _) (Nat.le_refl _) _ _)
      have hB8 : wr.heap.size < W8.heap.size := by
        have h := (below_cells (B := wr.heap.size) (b := wr.heap.size) (Below.refl wr.heap.size (wr.alloc (.cells #[.int .i8 0, .int .u64 0, .bool false, .slice none 0 0, .int .u64 0, .int .i8 0, .string ⟨#[]⟩, .slice none 0 0, .int .i8 0, .int .u64 0, .bool false, .slice none 0 0, .int .u64 0, .int .i8 0, .string ⟨#[]⟩, .slice none 0 0, .int .i64 0] 112))) (Nat.le_refl _) (enL x) 0).size
        rw [hW8] at h
        simp at h
        omega
      have HW8 := hide hW8
      clear hW8
      go_upto_region 6 with (first | (refine wpList_ldE rfl _ rfl g (off + j * 17) rfl x HX.out ?_; try simp only [Act.put, setIfInBounds_toArray, set_cons_zero, set_cons_succ]) | (refine wpList_stE rfl _ _ rfl wr.heap.size 0 rfl x rfl HTH.out ?_; rw [HW8.out]; try simp only [Act.put, setIfInBounds_toArray, set_cons_zero, set_cons_succ]))
      have CC : ∀ u : World, Below W8.heap.size W8 u → u.rangeAt g (off + i * 17) (enL p) ∧ u.rangeAt wr.heap.size 0 (enL x) ∧ u.cell? ⟨wr.heap.size, 16, none⟩ = some (.int .i64 x.2.2) := fun u hu =>
        have hb := KB8.out.trans (hu.mono KB8.out.size)
        have hr := range_blk HRG.out (hu.block _ hB8)
        ⟨range_blk HPx.out (hb.block g (Nat.lt_of_lt_of_le hgl KB.out.size)), hr, hr 16 _ rfl⟩
      obtain ⟨fv, hfv⟩ : ∃ z, f p x = z := ⟨_, rfl⟩
      obtain ⟨xn, hxn⟩ : ∃ z, x.2.2 = z := ⟨_, rfl⟩
      have HFV := hide hfv
      have HXN := hide hxn
      rw [hxn] at CC
      clear hfv hxn
      by_cases hf : fv = 0
      · by_cases hy : y < 0
        · have d1 : decide (y < 0) = true := by simpa using hy
          have d2 : decide (fv = 0) = true := by simpa using hf
          have d3 : (fv == 0) = true := by simpa using hf
          have K : Below W8.heap.size W8 W8.drew := (Below.refl _ _).drew
          have HC0 := CC _ K
          obtain ⟨dE, dE1, dE2⟩ := enDesc
          refine wpHl.region0 (C := fun u => u.rangeAt g (off + i * 17) (enL p) ∧ u.rangeAt wr.heap.size 0 (enL x) ∧ u.cell? ⟨wr.heap.size, 16, none⟩ = some (.int .i64 xn)) (by kernel_rfl) (by kernel_rfl) (fun HS => ?_)
          refine wpHl.tk0 (i := 0) (d := some 16) (v := .slice (some ⟨g, off, none⟩) n ca) rfl HS (by as_aux_lemma => kernel_rfl) rfl (fun _ _ _ h => h) (Or.inl ⟨by rfl, ?_⟩) HC0 ?_
          · intro u hC
            go_simp
          try simp only [Act.put, setIfInBounds_toArray, set_cons_zero, set_cons_succ]
          refine wpHl.tk0 (i := 1) (d := some 17) (v := .int .i64 (j : Int)) rfl HS (by as_aux_lemma => kernel_rfl) rfl (fun _ _ _ h => h) (Or.inl ⟨by rfl, ?_⟩) HC0 ?_
          · intro u hC
            go_simp
          try simp only [Act.put, setIfInBounds_toArray, set_cons_zero, set_cons_succ]
          refine wpHl.tk0 (i := 2) (d := some 18) (v := .int .i64 (i : Int)) rfl HS (by as_aux_lemma => kernel_rfl) rfl (fun _ _ _ h => h) (Or.inl ⟨by rfl, ?_⟩) HC0 ?_
          · intro u hC
            go_simp
          try simp only [Act.put, setIfInBounds_toArray, set_cons_zero, set_cons_succ]
          refine wpHl.tk0 (i := 3) (d := some 19) (v := .pointer (some ⟨g, off + i * 17, none⟩)) rfl HS (by as_aux_lemma => kernel_rfl) rfl (fun _ _ _ h => h) (Or.inl ⟨by rfl, ?_⟩) HC0 ?_
          · intro u hC
            go_simp
          try simp only [Act.put, setIfInBounds_toArray, set_cons_zero, set_cons_succ]
          refine wpHl.tk0 (i := 4) (d := some 20) (v := enV p) rfl HS (by as_aux_lemma => kernel_rfl) rfl (fun _ _ _ h => h) (yieldsIf_load_mid (by rfl) _ _ rfl g (off + i * 17) rfl (enL p) dE (fun u hu => hu.1) dE1 dE2 enInfo) HC0 ?_
          try simp only [Act.put, setIfInBounds_toArray, set_cons_zero, set_cons_succ]
          refine wpHl.tk0 (i := 5) (d := some 21) (v := enV x) rfl HS (by as_aux_lemma => kernel_rfl) rfl (fun _ _ _ h => h) (yieldsIf_load_mid (by rfl) _ _ rfl wr.heap.size 0 rfl (enL x) dE (fun u hu => hu.2.1) dE1 dE2 enInfo) HC0 ?_
          try simp only [Act.put, setIfInBounds_toArray, set_cons_zero, set_cons_succ]
          refine wpHl.one (i := 6) (by as_aux_lemma => kernel_rfl) rfl (fun KK hKK => ?_)
          rw [if_pos (by rfl)]
          refine wp_call_of (f := 75) (args := #[enV p, enV x]) (by kernel_rfl) ?_
          with_reducible refine (HCB.out _ ((KB.out.trans (KB8.out.mono KB.out.size)).trans (K.mono (Nat.le_trans KB.out.size KB8.out.size)))).mono ?_
          rintro e w9 ⟨rfl, hb⟩
          rw [HFV.out]
          replace K := K.trans (hb.mono K.size)
          clear hb HC0
          have HC0 := CC _ K
          refine hKK (Act.put _ (some 22) _) _ ⟨fun _ => HC0, ?_⟩
          clear hKK KK
          try simp only [Act.put, setIfInBounds_toArray, set_cons_zero, set_cons_succ]
          refine wpHl.tk0 (i := 7) (d := some 23) (v := .bool true) rfl HS (by as_aux_lemma => kernel_rfl) rfl (fun _ _ _ h => h) (Or.inl ⟨by rfl, ?_⟩) HC0 ?_
          · intro u hC
            go_simp
          try simp only [Act.put, setIfInBounds_toArray, set_cons_zero, set_cons_succ]
          refine wpHl.tk0 (i := 8) (d := some 24) (v := .bool true) rfl HS (by as_aux_lemma => kernel_rfl) rfl (fun _ _ _ h => h) (Or.inl ⟨by rfl, ?_⟩) HC0 ?_
          · intro u hC
            go_simp
          try simp only [Act.put, setIfInBounds_toArray, set_cons_zero, set_cons_succ]
          refine wpHl.tk0 (i := 9) (d := some 25) (v := .int .i64 y) rfl HS (by as_aux_lemma => kernel_rfl) rfl (fun _ _ _ h => h) (Or.inl ⟨by rfl, ?_⟩) HC0 ?_
          · intro u hC
            go_simp
          try simp only [Act.put, setIfInBounds_toArray, set_cons_zero, set_cons_succ]
          refine wpHl.tk0 (i := 10) (d := some 26) (v := .bool true) rfl HS (by as_aux_lemma => kernel_rfl) rfl (fun _ _ _ h => h) (Or.inl ⟨by rfl, ?_⟩) HC0 ?_
          · intro u hC
            go_simp
          try simp only [Act.put, setIfInBounds_toArray, set_cons_zero, set_cons_succ]
          refine wpHl.tk0 (i := 11) (d := some 27) (v := .bool true) rfl HS (by as_aux_lemma => kernel_rfl) rfl (fun _ _ _ h => h) (Or.inl ⟨by rfl, ?_⟩) HC0 ?_
          · intro u hC
            go_simp
          try simp only [Act.put, setIfInBounds_toArray, set_cons_zero, set_cons_succ]
          refine wpHl.tk0 (i := 12) (d := some 28) (v := undef) rfl HS (by as_aux_lemma => kernel_rfl) rfl (fun _ _ _ h => h) (Or.inr ⟨by rfl, rfl⟩) HC0 ?_
          try simp only [Act.put, setIfInBounds_toArray, set_cons_zero, set_cons_succ]
          refine wpHl.tk0 (i := 13) (d := some 29) (v := undef) rfl HS (by as_aux_lemma => kernel_rfl) rfl (fun _ _ _ h => h) (Or.inr ⟨by rfl, rfl⟩) HC0 ?_
          try simp only [Act.put, setIfInBounds_toArray, set_cons_zero, set_cons_succ]
          refine wpHl.tk0 (i := 14) (d := some 30) (v := undef) rfl HS (by as_aux_lemma => kernel_rfl) rfl (fun _ _ _ h => h) (Or.inr ⟨by rfl, rfl⟩) HC0 ?_
          try simp only [Act.put, setIfInBounds_toArray, set_cons_zero, set_cons_succ]
          refine wpHl.tk0 (i := 15) (d := some 31) (v := undef) rfl HS (by as_aux_lemma => kernel_rfl) rfl (fun _ _ _ h => h) (Or.inr ⟨by rfl, rfl⟩) HC0 ?_
          try simp only [Act.put, setIfInBounds_toArray, set_cons_zero, set_cons_succ]
          refine wpHl.tk0 (i := 16) (d := some 32) (v := .bool true) rfl HS (by as_aux_lemma => kernel_rfl) rfl (fun _ _ _ h => h) (Or.inl ⟨by rfl, ?_⟩) HC0 ?_
          · intro u hC
            go_simp
          try simp only [Act.put, setIfInBounds_toArray, set_cons_zero, set_cons_succ]
          refine wpHl.tk0 (i := 17) (d := some 33) (v := .bool true) rfl HS (by as_aux_lemma => kernel_rfl) rfl (fun _ _ _ h => h) (Or.inl ⟨by rfl, ?_⟩) HC0 ?_
          · intro u hC
            go_simp
          try simp only [Act.put, setIfInBounds_toArray, set_cons_zero, set_cons_succ]
          refine wpHl.done (by as_aux_lemma => kernel_rfl) ?_ _
          have HBZ := hide ((KB.out.trans (KB8.out.mono KB.out.size)).trans (K.mono (Nat.le_trans KB.out.size KB8.out.size)))
          obtain ⟨-, -, hz16⟩ := HC0
          clear K CC dE1 dE2
          have HNX := hide (HYES.out (HFV.out.trans hf) (.inl hy))
          rw [HXN.out] at HNX
          go_wp2
          go_roundw
          case rel => exact ⟨j + 1, _, rfl, by simp, by omega, by omega, HNX, HBZ⟩
          case measure => simp [intOf]; omega
        · by_cases hz : xn < y
          · have d1 : decide (y < 0) = false := by simpa using hy
            have d2 : decide (fv = 0) = true := by simpa using hf
            have d3 : (fv == 0) = true := by simpa using hf
            have d4 : decide (xn < y) = true := by simpa using hz
            have K : Below W8.heap.size W8 W8.drew := (Below.refl _ _).drew
            have HC0 := CC _ K
            obtain ⟨dE, dE1, dE2⟩ := enDesc
            refine wpHl.region0 (C := fun u => u.rangeAt g (off + i * 17) (enL p) ∧ u.rangeAt wr.heap.size 0 (enL x) ∧ u.cell? ⟨wr.heap.size, 16, none⟩ = some (.int .i64 xn)) (by kernel_rfl) (by kernel_rfl) (fun HS => ?_)
            refine wpHl.tk0 (i := 0) (d := some 16) (v := .slice (some ⟨g, off, none⟩) n ca) rfl HS (by as_aux_lemma => kernel_rfl) rfl (fun _ _ _ h => h) (Or.inl ⟨by rfl, ?_⟩) HC0 ?_
            · intro u hC
              go_simp
            try simp only [Act.put, setIfInBounds_toArray, set_cons_zero, set_cons_succ]
            refine wpHl.tk0 (i := 1) (d := some 17) (v := .int .i64 (j : Int)) rfl HS (by as_aux_lemma => kernel_rfl) rfl (fun _ _ _ h => h) (Or.inl ⟨by rfl, ?_⟩) HC0 ?_
            · intro u hC
              go_simp
            try simp only [Act.put, setIfInBounds_toArray, set_cons_zero, set_cons_succ]
            refine wpHl.tk0 (i := 2) (d := some 18) (v := .int .i64 (i : Int)) rfl HS (by as_aux_lemma => kernel_rfl) rfl (fun _ _ _ h => h) (Or.inl ⟨by rfl, ?_⟩) HC0 ?_
            · intro u hC
              go_simp
            try simp only [Act.put, setIfInBounds_toArray, set_cons_zero, set_cons_succ]
            refine wpHl.tk0 (i := 3) (d := some 19) (v := .pointer (some ⟨g, off + i * 17, none⟩)) rfl HS (by as_aux_lemma => kernel_rfl) rfl (fun _ _ _ h => h) (Or.inl ⟨by rfl, ?_⟩) HC0 ?_
            · intro u hC
              go_simp
            try simp only [Act.put, setIfInBounds_toArray, set_cons_zero, set_cons_succ]
            refine wpHl.tk0 (i := 4) (d := some 20) (v := enV p) rfl HS (by as_aux_lemma => kernel_rfl) rfl (fun _ _ _ h => h) (yieldsIf_load_mid (by rfl) _ _ rfl g (off + i * 17) rfl (enL p) dE (fun u hu => hu.1) dE1 dE2 enInfo) HC0 ?_
            try simp only [Act.put, setIfInBounds_toArray, set_cons_zero, set_cons_succ]
            refine wpHl.tk0 (i := 5) (d := some 21) (v := enV x) rfl HS (by as_aux_lemma => kernel_rfl) rfl (fun _ _ _ h => h) (yieldsIf_load_mid (by rfl) _ _ rfl wr.heap.size 0 rfl (enL x) dE (fun u hu => hu.2.1) dE1 dE2 enInfo) HC0 ?_
            try simp only [Act.put, setIfInBounds_toArray, set_cons_zero, set_cons_succ]
            refine wpHl.one (i := 6) (by as_aux_lemma => kernel_rfl) rfl (fun KK hKK => ?_)
            rw [if_pos (by rfl)]
            refine wp_call_of (f := 75) (args := #[enV p, enV x]) (by kernel_rfl) ?_
            with_reducible refine (HCB.out _ ((KB.out.trans (KB8.out.mono KB.out.size)).trans (K.mono (Nat.le_trans KB.out.size KB8.out.size)))).mono ?_
            rintro e w9 ⟨rfl, hb⟩
            rw [HFV.out]
            replace K := K.trans (hb.mono K.size)
            clear hb HC0
            have HC0 := CC _ K
            refine hKK (Act.put _ (some 22) _) _ ⟨fun _ => HC0, ?_⟩
            clear hKK KK
            try simp only [Act.put, setIfInBounds_toArray, set_cons_zero, set_cons_succ]
            refine wpHl.tk0 (i := 7) (d := some 23) (v := .bool true) rfl HS (by as_aux_lemma => kernel_rfl) rfl (fun _ _ _ h => h) (Or.inl ⟨by rfl, ?_⟩) HC0 ?_
            · intro u hC
              go_simp
            try simp only [Act.put, setIfInBounds_toArray, set_cons_zero, set_cons_succ]
            refine wpHl.tk0 (i := 8) (d := some 24) (v := .bool true) rfl HS (by as_aux_lemma => kernel_rfl) rfl (fun _ _ _ h => h) (Or.inl ⟨by rfl, ?_⟩) HC0 ?_
            · intro u hC
              go_simp
            try simp only [Act.put, setIfInBounds_toArray, set_cons_zero, set_cons_succ]
            refine wpHl.tk0 (i := 9) (d := some 25) (v := .int .i64 y) rfl HS (by as_aux_lemma => kernel_rfl) rfl (fun _ _ _ h => h) (Or.inl ⟨by rfl, ?_⟩) HC0 ?_
            · intro u hC
              go_simp
            try simp only [Act.put, setIfInBounds_toArray, set_cons_zero, set_cons_succ]
            refine wpHl.tk0 (i := 10) (d := some 26) (v := .bool false) rfl HS (by as_aux_lemma => kernel_rfl) rfl (fun _ _ _ h => h) (Or.inl ⟨by rfl, ?_⟩) HC0 ?_
            · intro u hC
              go_simp
            try simp only [Act.put, setIfInBounds_toArray, set_cons_zero, set_cons_succ]
            refine wpHl.tk0 (i := 11) (d := some 27) (v := .bool false) rfl HS (by as_aux_lemma => kernel_rfl) rfl (fun _ _ _ h => h) (Or.inl ⟨by rfl, ?_⟩) HC0 ?_
            · intro u hC
              go_simp
            try simp only [Act.put, setIfInBounds_toArray, set_cons_zero, set_cons_succ]
            refine wpHl.tk0 (i := 12) (d := some 28) (v := .pointer (some ⟨wr.heap.size, 16, none⟩)) rfl HS (by as_aux_lemma => kernel_rfl) rfl (fun _ _ _ h => h) (Or.inl ⟨by rfl, ?_⟩) HC0 ?_
            · intro u hC
              go_simp
            try simp only [Act.put, setIfInBounds_toArray, set_cons_zero, set_cons_succ]
            refine wpHl.tk0 (i := 13) (d := some 29) (v := .int .i64 xn) rfl HS (by as_aux_lemma => kernel_rfl) rfl (fun _ _ _ h => h) (Or.inl ⟨by rfl, ?_⟩) HC0 ?_
            · intro u hC
              obtain ⟨-, -, z⟩ := hC
              go_simp
            try simp only [Act.put, setIfInBounds_toArray, set_cons_zero, set_cons_succ]
            refine wpHl.tk0 (i := 14) (d := some 30) (v := .int .i64 y) rfl HS (by as_aux_lemma => kernel_rfl) rfl (fun _ _ _ h => h) (Or.inl ⟨by rfl, ?_⟩) HC0 ?_
            · intro u hC
              go_simp
            try simp only [Act.put, setIfInBounds_toArray, set_cons_zero, set_cons_succ]
            refine wpHl.tk0 (i := 15) (d := some 31) (v := .bool true) rfl HS (by as_aux_lemma => kernel_rfl) rfl (fun _ _ _ h => h) (Or.inl ⟨by rfl, ?_⟩) HC0 ?_
            · intro u hC
              go_simp
            try simp only [Act.put, setIfInBounds_toArray, set_cons_zero, set_cons_succ]
            refine wpHl.tk0 (i := 16) (d := some 32) (v := .bool true) rfl HS (by as_aux_lemma => kernel_rfl) rfl (fun _ _ _ h => h) (Or.inl ⟨by rfl, ?_⟩) HC0 ?_
            · intro u hC
              go_simp
            try simp only [Act.put, setIfInBounds_toArray, set_cons_zero, set_cons_succ]
            refine wpHl.tk0 (i := 17) (d := some 33) (v := .bool true) rfl HS (by as_aux_lemma => kernel_rfl) rfl (fun _ _ _ h => h) (Or.inl ⟨by rfl, ?_⟩) HC0 ?_
            · intro u hC
              go_simp
            try simp only [Act.put, setIfInBounds_toArray, set_cons_zero, set_cons_succ]
            refine wpHl.done (by as_aux_lemma => kernel_rfl) ?_ _
            have HBZ := hide ((KB.out.trans (KB8.out.mono KB.out.size)).trans (K.mono (Nat.le_trans KB.out.size KB8.out.size)))
            obtain ⟨-, -, hz16⟩ := HC0
            clear K CC dE1 dE2
            have HNX := hide (HYES.out (HFV.out.trans hf) (.inr (by rw [HXN.out]; exact hz)))
            rw [HXN.out] at HNX
            go_wp2
            go_roundw
            case rel => exact ⟨j + 1, _, rfl, by simp, by omega, by omega, HNX, HBZ⟩
            case measure => simp [intOf]; omega
          · have d1 : decide (y < 0) = false := by simpa using hy
            have d2 : decide (fv = 0) = true := by simpa using hf
            have d3 : (fv == 0) = true := by simpa using hf
            have d4 : decide (xn < y) = false := by simpa using hz
            have K : Below W8.heap.size W8 W8.drew := (Below.refl _ _).drew
            have HC0 := CC _ K
            obtain ⟨dE, dE1, dE2⟩ := enDesc
            refine wpHl.region0 (C := fun u => u.rangeAt g (off + i * 17) (enL p) ∧ u.rangeAt wr.heap.size 0 (enL x) ∧ u.cell? ⟨wr.heap.size, 16, none⟩ = some (.int .i64 xn)) (by kernel_rfl) (by kernel_rfl) (fun HS => ?_)
            refine wpHl.tk0 (i := 0) (d := some 16) (v := .slice (some ⟨g, off, none⟩) n ca) rfl HS (by as_aux_lemma => kernel_rfl) rfl (fun _ _ _ h => h) (Or.inl ⟨by rfl, ?_⟩) HC0 ?_
            · intro u hC
              go_simp
            try simp only [Act.put, setIfInBounds_toArray, set_cons_zero, set_cons_succ]
            refine wpHl.tk0 (i := 1) (d := some 17) (v := .int .i64 (j : Int)) rfl HS (by as_aux_lemma => kernel_rfl) rfl (fun _ _ _ h => h) (Or.inl ⟨by rfl, ?_⟩) HC0 ?_
            · intro u hC
              go_simp
            try simp only [Act.put, setIfInBounds_toArray, set_cons_zero, set_cons_succ]
            refine wpHl.tk0 (i := 2) (d := some 18) (v := .int .i64 (i : Int)) rfl HS (by as_aux_lemma => kernel_rfl) rfl (fun _ _ _ h => h) (Or.inl ⟨by rfl, ?_⟩) HC0 ?_
            · intro u hC
              go_simp
            try simp only [Act.put, setIfInBounds_toArray, set_cons_zero, set_cons_succ]
            refine wpHl.tk0 (i := 3) (d := some 19) (v := .pointer (some ⟨g, off + i * 17, none⟩)) rfl HS (by as_aux_lemma => kernel_rfl) rfl (fun _ _ _ h => h) (Or.inl ⟨by rfl, ?_⟩) HC0 ?_
            · intro u hC
              go_simp
            try simp only [Act.put, setIfInBounds_toArray, set_cons_zero, set_cons_succ]
            refine wpHl.tk0 (i := 4) (d := some 20) (v := enV p) rfl HS (by as_aux_lemma => kernel_rfl) rfl (fun _ _ _ h => h) (yieldsIf_load_mid (by rfl) _ _ rfl g (off + i * 17) rfl (enL p) dE (fun u hu => hu.1) dE1 dE2 enInfo) HC0 ?_
            try simp only [Act.put, setIfInBounds_toArray, set_cons_zero, set_cons_succ]
            refine wpHl.tk0 (i := 5) (d := some 21) (v := enV x) rfl HS (by as_aux_lemma => kernel_rfl) rfl (fun _ _ _ h => h) (yieldsIf_load_mid (by rfl) _ _ rfl wr.heap.size 0 rfl (enL x) dE (fun u hu => hu.2.1) dE1 dE2 enInfo) HC0 ?_
            try simp only [Act.put, setIfInBounds_toArray, set_cons_zero, set_cons_succ]
            refine wpHl.one (i := 6) (by as_aux_lemma => kernel_rfl) rfl (fun KK hKK => ?_)
            rw [if_pos (by rfl)]
            refine wp_call_of (f := 75) (args := #[enV p, enV x]) (by kernel_rfl) ?_
            with_reducible refine (HCB.out _ ((KB.out.trans (KB8.out.mono KB.out.size)).trans (K.mono (Nat.le_trans KB.out.size KB8.out.size)))).mono ?_
            rintro e w9 ⟨rfl, hb⟩
            rw [HFV.out]
            replace K := K.trans (hb.mono K.size)
            clear hb HC0
            have HC0 := CC _ K
            refine hKK (Act.put _ (some 22) _) _ ⟨fun _ => HC0, ?_⟩
            clear hKK KK
            try simp only [Act.put, setIfInBounds_toArray, set_cons_zero, set_cons_succ]
            refine wpHl.tk0 (i := 7) (d := some 23) (v := .bool true) rfl HS (by as_aux_lemma => kernel_rfl) rfl (fun _ _ _ h => h) (Or.inl ⟨by rfl, ?_⟩) HC0 ?_
            · intro u hC
              go_simp
            try simp only [Act.put, setIfInBounds_toArray, set_cons_zero, set_cons_succ]
            refine wpHl.tk0 (i := 8) (d := some 24) (v := .bool true) rfl HS (by as_aux_lemma => kernel_rfl) rfl (fun _ _ _ h => h) (Or.inl ⟨by rfl, ?_⟩) HC0 ?_
            · intro u hC
              go_simp
            try simp only [Act.put, setIfInBounds_toArray, set_cons_zero, set_cons_succ]
            refine wpHl.tk0 (i := 9) (d := some 25) (v := .int .i64 y) rfl HS (by as_aux_lemma => kernel_rfl) rfl (fun _ _ _ h => h) (Or.inl ⟨by rfl, ?_⟩) HC0 ?_
            · intro u hC
              go_simp
            try simp only [Act.put, setIfInBounds_toArray, set_cons_zero, set_cons_succ]
            refine wpHl.tk0 (i := 10) (d := some 26) (v := .bool false) rfl HS (by as_aux_lemma => kernel_rfl) rfl (fun _ _ _ h => h) (Or.inl ⟨by rfl, ?_⟩) HC0 ?_
            · intro u hC
              go_simp
            try simp only [Act.put, setIfInBounds_toArray, set_cons_zero, set_cons_succ]
            refine wpHl.tk0 (i := 11) (d := some 27) (v := .bool false) rfl HS (by as_aux_lemma => kernel_rfl) rfl (fun _ _ _ h => h) (Or.inl ⟨by rfl, ?_⟩) HC0 ?_
            · intro u hC
              go_simp
            try simp only [Act.put, setIfInBounds_toArray, set_cons_zero, set_cons_succ]
            refine wpHl.tk0 (i := 12) (d := some 28) (v := .pointer (some ⟨wr.heap.size, 16, none⟩)) rfl HS (by as_aux_lemma => kernel_rfl) rfl (fun _ _ _ h => h) (Or.inl ⟨by rfl, ?_⟩) HC0 ?_
            · intro u hC
              go_simp
            try simp only [Act.put, setIfInBounds_toArray, set_cons_zero, set_cons_succ]
            refine wpHl.tk0 (i := 13) (d := some 29) (v := .int .i64 xn) rfl HS (by as_aux_lemma => kernel_rfl) rfl (fun _ _ _ h => h) (Or.inl ⟨by rfl, ?_⟩) HC0 ?_
            · intro u hC
              obtain ⟨-, -, z⟩ := hC
              go_simp
            try simp only [Act.put, setIfInBounds_toArray, set_cons_zero, set_cons_succ]
            refine wpHl.tk0 (i := 14) (d := some 30) (v := .int .i64 y) rfl HS (by as_aux_lemma => kernel_rfl) rfl (fun _ _ _ h => h) (Or.inl ⟨by rfl, ?_⟩) HC0 ?_
            · intro u hC
              go_simp
            try simp only [Act.put, setIfInBounds_toArray, set_cons_zero, set_cons_succ]
            refine wpHl.tk0 (i := 15) (d := some 31) (v := .bool false) rfl HS (by as_aux_lemma => kernel_rfl) rfl (fun _ _ _ h => h) (Or.inl ⟨by rfl, ?_⟩) HC0 ?_
            · intro u hC
              go_simp
            try simp only [Act.put, setIfInBounds_toArray, set_cons_zero, set_cons_succ]
            refine wpHl.tk0 (i := 16) (d := some 32) (v := .bool false) rfl HS (by as_aux_lemma => kernel_rfl) rfl (fun _ _ _ h => h) (Or.inl ⟨by rfl, ?_⟩) HC0 ?_
            · intro u hC
              go_simp
            try simp only [Act.put, setIfInBounds_toArray, set_cons_zero, set_cons_succ]
            refine wpHl.tk0 (i := 17) (d := some 33) (v := .bool false) rfl HS (by as_aux_lemma => kernel_rfl) rfl (fun _ _ _ h => h) (Or.inl ⟨by rfl, ?_⟩) HC0 ?_
            · intro u hC
              go_simp
            try simp only [Act.put, setIfInBounds_toArray, set_cons_zero, set_cons_succ]
            refine wpHl.done (by as_aux_lemma => kernel_rfl) ?_ _
            have HBZ := hide ((KB.out.trans (KB8.out.mono KB.out.size)).trans (K.mono (Nat.le_trans KB.out.size KB8.out.size)))
            obtain ⟨-, -, hz16⟩ := HC0
            clear K CC dE1 dE2
            have HNX := hide (HNO.out (fun h => h.2.elim hy (fun h => hz (by rw [← HXN.out]; exact h))))
            go_wp2
            go_roundw
            case rel => exact ⟨j + 1, _, rfl, by simp, by omega, by omega, HNX, HBZ⟩
            case measure => simp [intOf]; omega
      · have d2 : decide (fv = 0) = false := by simpa using hf
        have d3 : (fv == 0) = false := by simpa using hf
        have K : Below W8.heap.size W8 W8.drew := (Below.refl _ _).drew
        have HC0 := CC _ K
        obtain ⟨dE, dE1, dE2⟩ := enDesc
        refine wpHl.region0 (C := fun u => u.rangeAt g (off + i * 17) (enL p) ∧ u.rangeAt wr.heap.size 0 (enL x) ∧ u.cell? ⟨wr.heap.size, 16, none⟩ = some (.int .i64 xn)) (by kernel_rfl) (by kernel_rfl) (fun HS => ?_)
        refine wpHl.tk0 (i := 0) (d := some 16) (v := .slice (some ⟨g, off, none⟩) n ca) rfl HS (by as_aux_lemma => kernel_rfl) rfl (fun _ _ _ h => h) (Or.inl ⟨by rfl, ?_⟩) HC0 ?_
        · intro u hC
          go_simp
        try simp only [Act.put, setIfInBounds_toArray, set_cons_zero, set_cons_succ]
        refine wpHl.tk0 (i := 1) (d := some 17) (v := .int .i64 (j : Int)) rfl HS (by as_aux_lemma => kernel_rfl) rfl (fun _ _ _ h => h) (Or.inl ⟨by rfl, ?_⟩) HC0 ?_
        · intro u hC
          go_simp
        try simp only [Act.put, setIfInBounds_toArray, set_cons_zero, set_cons_succ]
        refine wpHl.tk0 (i := 2) (d := some 18) (v := .int .i64 (i : Int)) rfl HS (by as_aux_lemma => kernel_rfl) rfl (fun _ _ _ h => h) (Or.inl ⟨by rfl, ?_⟩) HC0 ?_
        · intro u hC
          go_simp
        try simp only [Act.put, setIfInBounds_toArray, set_cons_zero, set_cons_succ]
        refine wpHl.tk0 (i := 3) (d := some 19) (v := .pointer (some ⟨g, off + i * 17, none⟩)) rfl HS (by as_aux_lemma => kernel_rfl) rfl (fun _ _ _ h => h) (Or.inl ⟨by rfl, ?_⟩) HC0 ?_
        · intro u hC
          go_simp
        try simp only [Act.put, setIfInBounds_toArray, set_cons_zero, set_cons_succ]
        refine wpHl.tk0 (i := 4) (d := some 20) (v := enV p) rfl HS (by as_aux_lemma => kernel_rfl) rfl (fun _ _ _ h => h) (yieldsIf_load_mid (by rfl) _ _ rfl g (off + i * 17) rfl (enL p) dE (fun u hu => hu.1) dE1 dE2 enInfo) HC0 ?_
        try simp only [Act.put, setIfInBounds_toArray, set_cons_zero, set_cons_succ]
        refine wpHl.tk0 (i := 5) (d := some 21) (v := enV x) rfl HS (by as_aux_lemma => kernel_rfl) rfl (fun _ _ _ h => h) (yieldsIf_load_mid (by rfl) _ _ rfl wr.heap.size 0 rfl (enL x) dE (fun u hu => hu.2.1) dE1 dE2 enInfo) HC0 ?_
        try simp only [Act.put, setIfInBounds_toArray, set_cons_zero, set_cons_succ]
        refine wpHl.one (i := 6) (by as_aux_lemma => kernel_rfl) rfl (fun KK hKK => ?_)
        rw [if_pos (by rfl)]
        refine wp_call_of (f := 75) (args := #[enV p, enV x]) (by kernel_rfl) ?_
        with_reducible refine (HCB.out _ ((KB.out.trans (KB8.out.mono KB.out.size)).trans (K.mono (Nat.le_trans KB.out.size KB8.out.size)))).mono ?_
        rintro e w9 ⟨rfl, hb⟩
        rw [HFV.out]
        replace K := K.trans (hb.mono K.size)
        clear hb HC0
        have HC0 := CC _ K
        refine hKK (Act.put _ (some 22) _) _ ⟨fun _ => HC0, ?_⟩
        clear hKK KK
        try simp only [Act.put, setIfInBounds_toArray, set_cons_zero, set_cons_succ]
        refine wpHl.tk0 (i := 7) (d := some 23) (v := .bool false) rfl HS (by as_aux_lemma => kernel_rfl) rfl (fun _ _ _ h => h) (Or.inl ⟨by rfl, ?_⟩) HC0 ?_
        · intro u hC
          go_simp
        try simp only [Act.put, setIfInBounds_toArray, set_cons_zero, set_cons_succ]
        refine wpHl.tk0 (i := 8) (d := some 24) (v := .bool false) rfl HS (by as_aux_lemma => kernel_rfl) rfl (fun _ _ _ h => h) (Or.inl ⟨by rfl, ?_⟩) HC0 ?_
        · intro u hC
          go_simp
        try simp only [Act.put, setIfInBounds_toArray, set_cons_zero, set_cons_succ]
        refine wpHl.tk0 (i := 9) (d := some 25) (v := undef) rfl HS (by as_aux_lemma => kernel_rfl) rfl (fun _ _ _ h => h) (Or.inr ⟨by rfl, rfl⟩) HC0 ?_
        try simp only [Act.put, setIfInBounds_toArray, set_cons_zero, set_cons_succ]
        refine wpHl.tk0 (i := 10) (d := some 26) (v := undef) rfl HS (by as_aux_lemma => kernel_rfl) rfl (fun _ _ _ h => h) (Or.inr ⟨by rfl, rfl⟩) HC0 ?_
        try simp only [Act.put, setIfInBounds_toArray, set_cons_zero, set_cons_succ]
        refine wpHl.tk0 (i := 11) (d := some 27) (v := undef) rfl HS (by as_aux_lemma => kernel_rfl) rfl (fun _ _ _ h => h) (Or.inr ⟨by rfl, rfl⟩) HC0 ?_
        try simp only [Act.put, setIfInBounds_toArray, set_cons_zero, set_cons_succ]
        refine wpHl.tk0 (i := 12) (d := some 28) (v := undef) rfl HS (by as_aux_lemma => kernel_rfl) rfl (fun _ _ _ h => h) (Or.inr ⟨by rfl, rfl⟩) HC0 ?_
        try simp only [Act.put, setIfInBounds_toArray, set_cons_zero, set_cons_succ]
        refine wpHl.tk0 (i := 13) (d := some 29) (v := undef) rfl HS (by as_aux_lemma => kernel_rfl) rfl (fun _ _ _ h => h) (Or.inr ⟨by rfl, rfl⟩) HC0 ?_
        try simp only [Act.put, setIfInBounds_toArray, set_cons_zero, set_cons_succ]
        refine wpHl.tk0 (i := 14) (d := some 30) (v := undef) rfl HS (by as_aux_lemma => kernel_rfl) rfl (fun _ _ _ h => h) (Or.inr ⟨by rfl, rfl⟩) HC0 ?_
        try simp only [Act.put, setIfInBounds_toArray, set_cons_zero, set_cons_succ]
        refine wpHl.tk0 (i := 15) (d := some 31) (v := undef) rfl HS (by as_aux_lemma => kernel_rfl) rfl (fun _ _ _ h => h) (Or.inr ⟨by rfl, rfl⟩) HC0 ?_
        try simp only [Act.put, setIfInBounds_toArray, set_cons_zero, set_cons_succ]
        refine wpHl.tk0 (i := 16) (d := some 32) (v := undef) rfl HS (by as_aux_lemma => kernel_rfl) rfl (fun _ _ _ h => h) (Or.inr ⟨by rfl, rfl⟩) HC0 ?_
        try simp only [Act.put, setIfInBounds_toArray, set_cons_zero, set_cons_succ]
        refine wpHl.tk0 (i := 17) (d := some 33) (v := .bool false) rfl HS (by as_aux_lemma => kernel_rfl) rfl (fun _ _ _ h => h) (Or.inl ⟨by rfl, ?_⟩) HC0 ?_
        · intro u hC
          go_simp
        try simp only [Act.put, setIfInBounds_toArray, set_cons_zero, set_cons_succ]
        refine wpHl.done (by as_aux_lemma => kernel_rfl) ?_ _
        have HBZ := hide ((KB.out.trans (KB8.out.mono KB.out.size)).trans (K.mono (Nat.le_trans KB.out.size KB8.out.size)))
        obtain ⟨-, -, hz16⟩ := HC0
        clear K CC dE1 dE2
        have HNX := hide (HNO.out (fun h => hf (HFV.out ▸ h.1)))
        go_wp2
        go_roundw
        case rel => exact ⟨j + 1, _, rfl, by simp, by omega, by omega, HNX, HBZ⟩
        case measure => simp [intOf]; omega
    · have q1 : ¬ (j : Int) < (n : Int) := by omega
      have HE := hide ((repG_end (by rw [HN.out]; exact hjn)).symm.trans HRJ.out)
      go_wp2
      go_ret
      exact ⟨by rw [HE.out]; first | rfl | skip, KB.out⟩
def bsG (f : Nat → Int) (lo hi : Nat) : Nat :=
  if h : lo < hi then if f (lo + (hi - lo) / 2) < 0 then bsG f (lo + (hi - lo) / 2 + 1) hi else bsG f lo (lo + (hi - lo) / 2) else lo
termination_by hi - lo
theorem bsG_lt {f : Nat → Int} {lo hi m : Nat} (h : lo < hi) (hm : lo + (hi - lo) / 2 = m) (h2 : f m < 0) : bsG f lo hi = bsG f (m + 1) hi := by
  rw [bsG, dif_pos h, hm, if_pos h2]
theorem bsG_ge {f : Nat → Int} {lo hi m : Nat} (h : lo < hi) (hm : lo + (hi - lo) / 2 = m) (h2 : ¬ f m < 0) : bsG f lo hi = bsG f lo m := by
  rw [bsG, dif_pos h, hm, if_neg h2]
theorem bsG_end {f : Nat → Int} {lo hi : Nat} (h : ¬ lo < hi) : bsG f lo hi = lo := by rw [bsG, dif_neg h]
def bsO (f : Nat → Int) (n k : Nat) : Bool := decide (k < n ∧ f k = 0)
set_option maxRecDepth 100000 in
theorem padesc : ∃ a b c, Tryz.prog.underlying 121 = some (.func a b c) := ⟨#[110, 110], #[3], false, by kernel_rfl⟩
set_option maxRecDepth 100000 in
set_option maxHeartbeats 16000000 in
theorem pasearch_any {w : World} {po : Option Addr} {n pc : Nat} {cs : List Cl} {x : Cl × Cl} {f : Nat → Int} (ha : ∀ i, i < n → ∃ g a b, po = some ⟨g, 0, none⟩ ∧ g < w.heap.size ∧ w.rangeAt g (i * 16) (paL (a, b)) ∧
      ∀ W, Below w.heap.size w W → Calls Tryz.prog 82 #[paV (a, b), paV x] W fun e W' => e = .returned (.int .i64 (f i)) ∧ Below W.heap.size W W') (hl : n ≤ 1048576) :
    Calls Tryz.prog 81 #[.slice po n pc, paV x, .func (.func 82) #[] #[]] w fun e w' => e = .returned (.tuple #[.int .i64 (bsG f 0 n : Nat), .bool (bsO f n (bsG f 0 n))]) ∧ Below w.heap.size w w' := by
  have hfn : ∀ (w : World) f a c, (binOp .eql 121 (.func f a c) .nilFunc).run Tryz.prog w = .ok (.bool false) w := fun w f a c => ofunc_nil padesc w f a c
  obtain ⟨W1, hW1⟩ : ∃ u, w.alloc (.cells (paL x).toArray 110) = u := ⟨_, rfl⟩
  have K1 : Hid (Below w.heap.size w W1) := by rw [← hW1]; exact hide ((Below.refl _ w).alloc (Nat.le_refl _) _)
  have hx0 : W1.rangeAt w.heap.size 0 (paL x) := by rw [← hW1]; exact range_new _ _ _
  have hl1 : w.heap.size < W1.heap.size := by rw [← hW1]; simp
  have HX : Hid (∀ U, Below W1.heap.size W1 U → U.rangeAt w.heap.size 0 (paL x)) := hide (fun U k => range_blk hx0 (k.block _ hl1))
  have HA := hide ha
  clear ha hx0
  obtain ⟨kk, hkk⟩ : ∃ k, bsG f 0 n = k := ⟨_, rfl⟩
  rw [hkk]
  have HKK := hide hkk
  clear hkk
  go_enter Tryz.func81, Tryz.ntmps81
  unfold paV
  go_upto_region 3 with fail
  try rw [hW1]
  clear hW1
  try change Code.wp _ _ _ {tmps := #[.slice po n pc, paV x, _, _, _, _, _, _, _, _, _, _, _, _, _, _, _, _, _, _, _, _, _, _, _, _, _, _, _, _, _, _, _, _, _, _, _, _, _, _, _, _, _, _, _, _, _, _, _, _], defers := _} _
  go_wp2
  go_loopw [8, 9] (fun p q wr => ∃ (lo hi : Nat), p = .int .i64 lo ∧ q = .int .i64 hi ∧ lo ≤ hi ∧ hi ≤ n ∧ Hid (bsG f lo hi = kk) ∧ Hid (Below W1.heap.size W1 wr)) (fun p q _ => (intOf q).toNat - (intOf p).toNat)
  case atStart => exact ⟨0, n, rfl, rfl, by omega, by omega, HKK, hide (Below.refl _ _)⟩
  case round =>
    obtain ⟨lo, hi, rfl, rfl, h1, h2, hk, hB⟩ := hrel
    by_cases hlt : lo < hi
    · obtain ⟨m, hm⟩ : ∃ m, lo + (hi - lo) / 2 = m := ⟨_, rfl⟩
      have hml : m < n := by omega
      obtain ⟨g, a, b, rfl, hgl, hr, hcall⟩ := HA.out m hml
      have q0 : (0 : Int) ≤ (m : Int) := by omega
      have q1 : (lo : Int) < (hi : Int) := by omega
      have e1 : IntKind.i64.wrap ((hi : Int) - (lo : Int)) = ((hi - lo : Nat) : Int) := by rw [IntKind.wrap_i64]; omega
      have e3 : (lo : Int) + ((hi - lo : Nat) : Int) / 2 = (m : Int) := by omega
      have q2 : (m : Int) < (n : Int) := by omega
      have CC : ∀ u : World, Below wr.heap.size wr u → u.rangeAt w.heap.size 0 (paL x) ∧ u.rangeAt g (m * 16) (paL (a, b)) := fun u hu =>
        have k1 := hB.out.trans (hu.mono hB.out.size)
        ⟨HX.out u k1, range_blk hr ((K1.out.trans (k1.mono K1.out.size)).block g hgl)⟩
      have HCW := hide (fun (U : World) (k : Below wr.heap.size wr U) => hcall U (K1.out.trans ((hB.out.trans (k.mono hB.out.size)).mono K1.out.size)))
      obtain ⟨fv, hfv⟩ : ∃ z, f m = z := ⟨_, rfl⟩
      have HFV := hide hfv
      have HM := hide hm
      clear hfv hm hr hcall
      by_cases hf : fv < 0
      · have d1 : decide (fv < 0) = true := by simpa using hf
        have HN := hide (show bsG f (m + 1) hi = kk by rw [← bsG_lt hlt HM.out (by rw [HFV.out]; exact hf)]; exact hk.out)
        have hmh : m < hi := by have := HM.out; omega
        go_upto_region 6 with fail
        have K : Below wr.heap.size wr wr.drew := (Below.refl _ _).drew
        have HC0 := CC _ K
        obtain ⟨dE, dE1, dE2⟩ := paDesc
        refine wpHl.region0 (C := fun u => u.rangeAt w.heap.size 0 (paL x) ∧ u.rangeAt g (m * 16) (paL (a, b))) (by kernel_rfl) (by kernel_rfl) (fun HS => ?_)
        refine wpHl.tk0 (i := 0) (d := some 24) (v := .func (.func 82) #[] #[]) rfl HS (by as_aux_lemma => kernel_rfl) rfl (fun _ _ _ h => h) (Or.inl ⟨by rfl, ?_⟩) HC0 ?_
        · intro u hC
          go_simp
        try simp only [Act.put, setIfInBounds_toArray, set_cons_zero, set_cons_succ]
        refine wpHl.tk0 (i := 1) (d := some 25) (v := .slice (some ⟨g, 0, none⟩) n pc) rfl HS (by as_aux_lemma => kernel_rfl) rfl (fun _ _ _ h => h) (Or.inl ⟨by rfl, ?_⟩) HC0 ?_
        · intro u hC
          go_simp
        try simp only [Act.put, setIfInBounds_toArray, set_cons_zero, set_cons_succ]
        refine wpHl.tk0 (i := 2) (d := some 26) (v := .int .i64 (m : Int)) rfl HS (by as_aux_lemma => kernel_rfl) rfl (fun _ _ _ h => h) (Or.inl ⟨by rfl, ?_⟩) HC0 ?_
        · intro u hC
          go_simp
        try simp only [Act.put, setIfInBounds_toArray, set_cons_zero, set_cons_succ]
        refine wpHl.tk0 (i := 3) (d := some 27) (v := .pointer (some ⟨g, m * 16, none⟩)) rfl HS (by as_aux_lemma => kernel_rfl) rfl (fun _ _ _ h => h) (Or.inl ⟨by rfl, ?_⟩) HC0 ?_
        · intro u hC
          go_simp
        try simp only [Act.put, setIfInBounds_toArray, set_cons_zero, set_cons_succ]
        refine wpHl.tk0 (i := 4) (d := some 28) (v := paV (a, b)) rfl HS (by as_aux_lemma => kernel_rfl) rfl (fun _ _ _ h => h) (yieldsIf_load_mid (by rfl) _ _ rfl g (m * 16) rfl (paL (a, b)) dE (fun u hu => hu.2) dE1 dE2 paInfo) HC0 ?_
        try simp only [Act.put, setIfInBounds_toArray, set_cons_zero, set_cons_succ]
        refine wpHl.tk0 (i := 5) (d := some 29) (v := paV x) rfl HS (by as_aux_lemma => kernel_rfl) rfl (fun _ _ _ h => h) (yieldsIf_load_mid (by rfl) _ _ rfl w.heap.size 0 rfl (paL x) dE (fun u hu => hu.1) dE1 dE2 paInfo) HC0 ?_
        try simp only [Act.put, setIfInBounds_toArray, set_cons_zero, set_cons_succ]
        refine wpHl.one (i := 6) (by as_aux_lemma => kernel_rfl) rfl (fun KK hKK => ?_)
        rw [if_pos (by rfl)]
        go_simp
        go_at_call 82
        with_reducible refine (HCW.out _ K).mono ?_
        rintro e w9 ⟨rfl, hb⟩
        rw [HFV.out]
        replace K := K.trans (hb.mono K.size)
        clear hb HC0
        have HC0 := CC _ K
        refine hKK _ _ ⟨fun _ => HC0, ?_⟩
        clear hKK KK
        try simp only [Act.put, setIfInBounds_toArray, set_cons_zero, set_cons_succ]
        refine wpHl.tk0 (i := 7) (d := some 31) (v := .bool true) rfl HS (by as_aux_lemma => kernel_rfl) rfl (fun _ _ _ h => h) (Or.inl ⟨by rfl, ?_⟩) HC0 ?_
        · intro u hC
          go_simp
        try simp only [Act.put, setIfInBounds_toArray, set_cons_zero, set_cons_succ]
        refine wpHl.done (by as_aux_lemma => kernel_rfl) ?_ _
        clear CC HC0 HS dE1 dE2
        have HB8 := hide (hB.out.trans (K.mono hB.out.size))
        clear K
        go_wp2
        go_roundw
        case rel => exact ⟨m + 1, hi, by simp, rfl, by omega, by omega, HN, HB8⟩
        case measure => simp [intOf]; have := HM.out; omega
      · have d1 : decide (fv < 0) = false := by simpa using hf
        have HN := hide (show bsG f lo m = kk by rw [← bsG_ge hlt HM.out (by rw [HFV.out]; exact hf)]; exact hk.out)
        have hmh : m < hi := by have := HM.out; omega
        have hlm : lo ≤ m := by have := HM.out; omega
        go_upto_region 6 with fail
        have K : Below wr.heap.size wr wr.drew := (Below.refl _ _).drew
        have HC0 := CC _ K
        obtain ⟨dE, dE1, dE2⟩ := paDesc
        refine wpHl.region0 (C := fun u => u.rangeAt w.heap.size 0 (paL x) ∧ u.rangeAt g (m * 16) (paL (a, b))) (by kernel_rfl) (by kernel_rfl) (fun HS => ?_)
        refine wpHl.tk0 (i := 0) (d := some 24) (v := .func (.func 82) #[] #[]) rfl HS (by as_aux_lemma => kernel_rfl) rfl (fun _ _ _ h => h) (Or.inl ⟨by rfl, ?_⟩) HC0 ?_
        · intro u hC
          go_simp
        try simp only [Act.put, setIfInBounds_toArray, set_cons_zero, set_cons_succ]
        refine wpHl.tk0 (i := 1) (d := some 25) (v := .slice (some ⟨g, 0, none⟩) n pc) rfl HS (by as_aux_lemma => kernel_rfl) rfl (fun _ _ _ h => h) (Or.inl ⟨by rfl, ?_⟩) HC0 ?_
        · intro u hC
          go_simp
        try simp only [Act.put, setIfInBounds_toArray, set_cons_zero, set_cons_succ]
        refine wpHl.tk0 (i := 2) (d := some 26) (v := .int .i64 (m : Int)) rfl HS (by as_aux_lemma => kernel_rfl) rfl (fun _ _ _ h => h) (Or.inl ⟨by rfl, ?_⟩) HC0 ?_
        · intro u hC
          go_simp
        try simp only [Act.put, setIfInBounds_toArray, set_cons_zero, set_cons_succ]
        refine wpHl.tk0 (i := 3) (d := some 27) (v := .pointer (some ⟨g, m * 16, none⟩)) rfl HS (by as_aux_lemma => kernel_rfl) rfl (fun _ _ _ h => h) (Or.inl ⟨by rfl, ?_⟩) HC0 ?_
        · intro u hC
          go_simp
        try simp only [Act.put, setIfInBounds_toArray, set_cons_zero, set_cons_succ]
        refine wpHl.tk0 (i := 4) (d := some 28) (v := paV (a, b)) rfl HS (by as_aux_lemma => kernel_rfl) rfl (fun _ _ _ h => h) (yieldsIf_load_mid (by rfl) _ _ rfl g (m * 16) rfl (paL (a, b)) dE (fun u hu => hu.2) dE1 dE2 paInfo) HC0 ?_
        try simp only [Act.put, setIfInBounds_toArray, set_cons_zero, set_cons_succ]
        refine wpHl.tk0 (i := 5) (d := some 29) (v := paV x) rfl HS (by as_aux_lemma => kernel_rfl) rfl (fun _ _ _ h => h) (yieldsIf_load_mid (by rfl) _ _ rfl w.heap.size 0 rfl (paL x) dE (fun u hu => hu.1) dE1 dE2 paInfo) HC0 ?_
        try simp only [Act.put, setIfInBounds_toArray, set_cons_zero, set_cons_succ]
        refine wpHl.one (i := 6) (by as_aux_lemma => kernel_rfl) rfl (fun KK hKK => ?_)
        rw [if_pos (by rfl)]
        go_simp
        go_at_call 82
        with_reducible refine (HCW.out _ K).mono ?_
        rintro e w9 ⟨rfl, hb⟩
        rw [HFV.out]
        replace K := K.trans (hb.mono K.size)
        clear hb HC0
        have HC0 := CC _ K
        refine hKK _ _ ⟨fun _ => HC0, ?_⟩
        clear hKK KK
        try simp only [Act.put, setIfInBounds_toArray, set_cons_zero, set_cons_succ]
        refine wpHl.tk0 (i := 7) (d := some 31) (v := .bool false) rfl HS (by as_aux_lemma => kernel_rfl) rfl (fun _ _ _ h => h) (Or.inl ⟨by rfl, ?_⟩) HC0 ?_
        · intro u hC
          go_simp
        try simp only [Act.put, setIfInBounds_toArray, set_cons_zero, set_cons_succ]
        refine wpHl.done (by as_aux_lemma => kernel_rfl) ?_ _
        clear CC HC0 HS dE1 dE2
        have HB8 := hide (hB.out.trans (K.mono hB.out.size))
        clear K
        go_wp2
        go_roundw
        case rel => exact ⟨lo, m, rfl, rfl, by omega, by omega, HN, HB8⟩
        case measure => simp [intOf]; have := HM.out; omega
    · have q1 : ¬ (lo : Int) < (hi : Int) := by omega
      have hkl : lo = kk := by rw [← hk.out, bsG_end hlt]
      subst hkl
      by_cases hlo : lo < n
      · obtain ⟨g, a, b, rfl, hgl, hr, hcall⟩ := HA.out lo hlo
        have q0 : (0 : Int) ≤ (lo : Int) := by omega
        have q2 : (lo : Int) < (n : Int) := by omega
        have d2 : decide ((lo : Int) < (n : Int)) = true := by simpa using q2
        have CC : ∀ u : World, Below wr.heap.size wr u → u.rangeAt w.heap.size 0 (paL x) ∧ u.rangeAt g (lo * 16) (paL (a, b)) := fun u hu =>
          have k1 := hB.out.trans (hu.mono hB.out.size)
          ⟨HX.out u k1, range_blk hr ((K1.out.trans (k1.mono K1.out.size)).block g hgl)⟩
        have HCW := hide (fun (U : World) (k : Below wr.heap.size wr U) => hcall U (K1.out.trans ((hB.out.trans (k.mono hB.out.size)).mono K1.out.size)))
        obtain ⟨fv, hfv⟩ : ∃ z, f lo = z := ⟨_, rfl⟩
        have HOK : Hid (bsO f n lo = decide (fv = 0)) := hide (by rw [bsO, hfv]; simp [hlo])
        have HFV := hide hfv
        clear hfv hr hcall
        have hbe : (fv == 0) = decide (fv = 0) := by by_cases e : fv = 0 <;> simp [e]
        obtain ⟨ok, hok⟩ : ∃ b, decide (fv = 0) = b := ⟨_, rfl⟩
        rw [hok] at HOK hbe
        go_upto_region 9 with fail
        have K : Below wr.heap.size wr wr.drew := (Below.refl _ _).drew
        have HC0 := CC _ K
        obtain ⟨dE, dE1, dE2⟩ := paDesc
        refine wpHl.region0 (C := fun u => u.rangeAt w.heap.size 0 (paL x) ∧ u.rangeAt g (lo * 16) (paL (a, b))) (by kernel_rfl) (by kernel_rfl) (fun HS => ?_)
        refine wpHl.tk0 (i := 0) (d := some 35) (v := .int .i64 (lo : Int)) rfl HS (by as_aux_lemma => kernel_rfl) rfl (fun _ _ _ h => h) (Or.inl ⟨by rfl, ?_⟩) HC0 ?_
        · intro u hC
          go_simp
        try simp only [Act.put, setIfInBounds_toArray, set_cons_zero, set_cons_succ]
        refine wpHl.tk0 (i := 1) (d := some 36) (v := .int .i64 (lo : Int)) rfl HS (by as_aux_lemma => kernel_rfl) rfl (fun _ _ _ h => h) (Or.inl ⟨by rfl, ?_⟩) HC0 ?_
        · intro u hC
          go_simp
        try simp only [Act.put, setIfInBounds_toArray, set_cons_zero, set_cons_succ]
        refine wpHl.tk0 (i := 2) (d := some 37) (v := .slice (some ⟨g, 0, none⟩) n pc) rfl HS (by as_aux_lemma => kernel_rfl) rfl (fun _ _ _ h => h) (Or.inl ⟨by rfl, ?_⟩) HC0 ?_
        · intro u hC
          go_simp
        try simp only [Act.put, setIfInBounds_toArray, set_cons_zero, set_cons_succ]
        refine wpHl.tk0 (i := 3) (d := some 38) (v := .int .i64 (n : Int)) rfl HS (by as_aux_lemma => kernel_rfl) rfl (fun _ _ _ h => h) (Or.inl ⟨by rfl, ?_⟩) HC0 ?_
        · intro u hC
          go_simp
        try simp only [Act.put, setIfInBounds_toArray, set_cons_zero, set_cons_succ]
        refine wpHl.tk0 (i := 4) (d := some 39) (v := .bool true) rfl HS (by as_aux_lemma => kernel_rfl) rfl (fun _ _ _ h => h) (Or.inl ⟨by rfl, ?_⟩) HC0 ?_
        · intro u hC
          go_simp
        try simp only [Act.put, setIfInBounds_toArray, set_cons_zero, set_cons_succ]
        refine wpHl.tk0 (i := 5) (d := some 40) (v := .bool true) rfl HS (by as_aux_lemma => kernel_rfl) rfl (fun _ _ _ h => h) (Or.inl ⟨by rfl, ?_⟩) HC0 ?_
        · intro u hC
          go_simp
        try simp only [Act.put, setIfInBounds_toArray, set_cons_zero, set_cons_succ]
        refine wpHl.tk0 (i := 6) (d := some 41) (v := .func (.func 82) #[] #[]) rfl HS (by as_aux_lemma => kernel_rfl) rfl (fun _ _ _ h => h) (Or.inl ⟨by rfl, ?_⟩) HC0 ?_
        · intro u hC
          go_simp
        try simp only [Act.put, setIfInBounds_toArray, set_cons_zero, set_cons_succ]
        refine wpHl.tk0 (i := 7) (d := some 42) (v := .slice (some ⟨g, 0, none⟩) n pc) rfl HS (by as_aux_lemma => kernel_rfl) rfl (fun _ _ _ h => h) (Or.inl ⟨by rfl, ?_⟩) HC0 ?_
        · intro u hC
          go_simp
        try simp only [Act.put, setIfInBounds_toArray, set_cons_zero, set_cons_succ]
        refine wpHl.tk0 (i := 8) (d := some 43) (v := .int .i64 (lo : Int)) rfl HS (by as_aux_lemma => kernel_rfl) rfl (fun _ _ _ h => h) (Or.inl ⟨by rfl, ?_⟩) HC0 ?_
        · intro u hC
          go_simp
        try simp only [Act.put, setIfInBounds_toArray, set_cons_zero, set_cons_succ]
        refine wpHl.tk0 (i := 9) (d := some 44) (v := .pointer (some ⟨g, lo * 16, none⟩)) rfl HS (by as_aux_lemma => kernel_rfl) rfl (fun _ _ _ h => h) (Or.inl ⟨by rfl, ?_⟩) HC0 ?_
        · intro u hC
          go_simp
        try simp only [Act.put, setIfInBounds_toArray, set_cons_zero, set_cons_succ]
        refine wpHl.tk0 (i := 10) (d := some 45) (v := paV (a, b)) rfl HS (by as_aux_lemma => kernel_rfl) rfl (fun _ _ _ h => h) (yieldsIf_load_mid (by rfl) _ _ rfl g (lo * 16) rfl (paL (a, b)) dE (fun u hu => hu.2) dE1 dE2 paInfo) HC0 ?_
        try simp only [Act.put, setIfInBounds_toArray, set_cons_zero, set_cons_succ]
        refine wpHl.tk0 (i := 11) (d := some 46) (v := paV x) rfl HS (by as_aux_lemma => kernel_rfl) rfl (fun _ _ _ h => h) (yieldsIf_load_mid (by rfl) _ _ rfl w.heap.size 0 rfl (paL x) dE (fun u hu => hu.1) dE1 dE2 paInfo) HC0 ?_
        try simp only [Act.put, setIfInBounds_toArray, set_cons_zero, set_cons_succ]
        refine wpHl.one (i := 12) (by as_aux_lemma => kernel_rfl) rfl (fun KK hKK => ?_)
        rw [if_pos (by rfl)]
        go_simp
        go_at_call 82
        with_reducible refine (HCW.out _ K).mono ?_
        rintro e w9 ⟨rfl, hb⟩
        rw [HFV.out]
        replace K := K.trans (hb.mono K.size)
        clear hb HC0
        have HC0 := CC _ K
        refine hKK _ _ ⟨fun _ => HC0, ?_⟩
        clear hKK KK
        try simp only [Act.put, setIfInBounds_toArray, set_cons_zero, set_cons_succ]
        refine wpHl.tk0 (i := 13) (d := some 48) (v := .bool ok) rfl HS (by as_aux_lemma => kernel_rfl) rfl (fun _ _ _ h => h) (Or.inl ⟨by rfl, ?_⟩) HC0 ?_
        · intro u hC
          go_simp
        try simp only [Act.put, setIfInBounds_toArray, set_cons_zero, set_cons_succ]
        refine wpHl.tk0 (i := 14) (d := some 49) (v := .bool ok) rfl HS (by as_aux_lemma => kernel_rfl) rfl (fun _ _ _ h => h) (Or.inl ⟨by rfl, ?_⟩) HC0 ?_
        · intro u hC
          go_simp
        try simp only [Act.put, setIfInBounds_toArray, set_cons_zero, set_cons_succ]
        refine wpHl.tk0 (i := 15) (d := some 6) (v := .int .i64 (lo : Int)) rfl HS (by as_aux_lemma => kernel_rfl) rfl (fun _ _ _ h => h) (Or.inl ⟨by rfl, ?_⟩) HC0 ?_
        · intro u hC
          go_simp
        try simp only [Act.put, setIfInBounds_toArray, set_cons_zero, set_cons_succ]
        refine wpHl.tk0 (i := 16) (d := some 7) (v := .bool ok) rfl HS (by as_aux_lemma => kernel_rfl) rfl (fun _ _ _ h => h) (Or.inl ⟨by rfl, ?_⟩) HC0 ?_
        · intro u hC
          go_simp
        try simp only [Act.put, setIfInBounds_toArray, set_cons_zero, set_cons_succ]
        refine wpHl.done (by as_aux_lemma => kernel_rfl) ?_ _
        clear CC HC0 HS dE1 dE2
        have HB8 := hide (K1.out.trans ((hB.out.trans (K.mono hB.out.size)).mono K1.out.size))
        clear K
        go_wp2
        exact bodyPost_ret (v := .tuple #[.int .i64 lo, .bool ok]) (by simp [results, Tryz.results81, go_sem]) rfl ⟨by rw [HOK.out], HB8.out⟩
      · have q2 : ¬ (lo : Int) < (n : Int) := by omega
        have d2 : decide ((lo : Int) < (n : Int)) = false := by simpa using q2
        have HOK : Hid (bsO f n lo = false) := hide (by simp [bsO, hlo])
        go_wp2
        go_quiet (fail)
        go_wp2
        exact bodyPost_ret (v := .tuple #[.int .i64 lo, .bool false]) (by simp [results, Tryz.results81, go_sem]) rfl ⟨by rw [HOK.out], K1.out.trans ((hB.out.trans ((obel_drewN wr _).mono hB.out.size)).mono K1.out.size)⟩
end Go.Proofs.YticmlelalbaalaaGreatDoor
