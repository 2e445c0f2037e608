/- layer 16: mayEnd, quoted, more, unquoted, closed, opened, named, letter, behind -/
import Derived.Test.YtefmlajndillbaaGreatDoorJsA
import Derived.BigRegion
import Derived.Deep.RegionLaw
namespace Go.Proofs.YtefmlajndillbaaGreatDoor
open Go.RowKit
set_option linter.unusedVariables false

theorem jmayEnd {w : World} {a : Nat → Addr} {B p : Nat} {nx ov : Value} {sz : Int} {t : St} (h : ScS w a B p nx sz ov t) (v : Value) :
    Calls Tryz.prog 56 #[.pointer (some ⟨p, 0, none⟩), v] w fun e w' => e = .returned v ∧ ScS w' a B p nx sz ov { t with ends := true } ∧ Fr p ov ov w w' := by
  have c4 := h.cell 4
  have f4 := h.frz 4
  simp only [scC] at c4
  go_enter Tryz.func56, Tryz.ntmps56
  go_wp2
  go_ret
  exact ⟨rfl, h.setEnds true, (Fr.refl _ _ _).setP _⟩
theorem jquoted {w : World} {a : Nat → Addr} {B p : Nat} {nx ov : Value} {sz : Int} {t : St} (h : ScS w a B p nx sz ov t) (k : Bool) :
    Calls Tryz.prog 23 #[.pointer (some ⟨p, 0, none⟩), .bool k] w (Outs w a B p nx sz ov (quotedB k t)) := by
  have c4 := h.cell 7
  have f4 := h.frz 7
  simp only [scC] at c4
  go_enter Tryz.func23, Tryz.ntmps23
  go_wp2
  go_ret
  exact ⟨ov, rfl, h.setKey k, (Fr.refl _ _ _).setP _⟩
theorem junquoted {w : World} {a : Nat → Addr} {B p : Nat} {nx ov : Value} {sz : Int} {t : St} (h : ScS w a B p nx sz ov t) :
    Calls Tryz.prog 53 #[.pointer (some ⟨p, 0, none⟩)] w (Outs w a B p nx sz ov (unquotedB t)) := by
  have c4 := h.cell 7
  simp only [scC] at c4
  have HM := hide (jmayEnd h (.func (.func 57) #[.pointer (some ⟨p, 0, none⟩)] #[]))
  cases hk : t.isKey with
  | true =>
    have E : unquotedB t = go .colon t := by simp [unquotedB, hk]
    rw [E]; clear E
    rw [hk] at c4
    go_enter Tryz.func53, Tryz.ntmps53
    go_wp2
    go_ret
    exact ⟨ov, rfl, h, Fr.refl _ _ _⟩
  | false =>
    have E : unquotedB t = mayE .behind t := by simp [unquotedB, hk]
    rw [E]; clear E
    rw [hk] at c4
    go_enter Tryz.func53, Tryz.ntmps53
    go_wp2_with fail
    refine HM.out.mono ?_
    rintro e w1 ⟨rfl, h1, f1⟩
    go_wp2
    go_ret
    exact ⟨ov, rfl, h1, f1⟩
theorem jmore {w : World} {a : Nat → Addr} {B p : Nat} {nx ov : Value} {sz : Int} {t : St} (h : ScS w a B p nx sz ov t) (n : Int) (k : Bool) :
    Calls Tryz.prog 88 #[.pointer (some ⟨p, 0, none⟩), .int .i64 n, .bool k] w (Outs w a B p nx sz ov (moreB n k t)) := by
  have c4 := h.cell 9
  have f4 := h.frz 9
  have c5 := h.cell 10
  have f5 := h.frz 10
  simp only [scC] at c4 c5
  go_enter Tryz.func88, Tryz.ntmps88
  go_wp2
  go_ret
  exact ⟨ov, rfl, (h.setLeft n).setHalf k, ((Fr.refl _ _ _).setP _).setP _⟩

theorem jcells_one (w : World) (E : TypeId) (k : IntKind) (x : Int) : Cells k (w.alloc (.cells #[.int k x] E)) (some ⟨w.heap.size, 0, none⟩) [x] := by
  intro _
  refine ⟨_, 0, rfl, by simp, fun i hi => ?_⟩
  have h0 : i = 0 := by simp at hi; omega
  subst h0
  rw [Lib.cell_of_heap (heap_alloc_new w _)]; rfl
theorem Tryz.infoY8 : (Tryz.prog.info? 5).map (fun i => (i.zero, i.size, i.bytes)) = some (some (.int .u8 0), 1, 1) := by kernel_rfl
theorem ScS.setOpn {w : World} {a : Nat → Addr} {B p : Nat} {nx ov ov' : Value} {sz : Int} {t : St} {l : List Int} (h : w.heap[p]? = some (.cells (scC a p nx sz ov t) 50 (0, 0))) (hB : B ≤ p) (ho : w.ownsRow B 5 1 ov' l.length (l.map (Value.int .u8))) :
    ScS (w.setCell ⟨p, 3, none⟩ ov') a B p nx sz ov' { t with opn := l } := by
  have hne : ov'.ownBlock ≠ some p := by
    intro e
    rcases ho.2 with ⟨rfl, _⟩ | ⟨g, cap, cur, rfl, _, hg, _⟩
    · simp [Value.ownBlock] at e
    · simp [Value.ownBlock] at e
      subst e
      rw [h] at hg
      injection hg with hg
      injection hg with _ h2 _
      exact absurd h2 (by decide)
  exact ⟨heap_setCell_same w p 3 _ _ _ h, ho.kept (ScS.grow _) (Or.inr hne), hB⟩
theorem own_short {w : World} {B : Nat} {E : TypeId} {g n cap : Nat} {l : List Int} {c : Int} (h : w.ownsRow B E 1 (.slice (some ⟨g, 0, none⟩) n cap) (l ++ [c]).length ((l ++ [c]).map (Value.int .u8))) :
    n = l.length + 1 ∧ n ≤ cap ∧ cap ≤ maxLen ∧ w.cell? ⟨g, l.length, none⟩ = some (.int .u8 c) ∧ w.ownsRow B E 1 (.slice (some ⟨g, 0, none⟩) l.length cap) l.length (l.map (Value.int .u8)) := by
  rcases h.2 with ⟨h1, _⟩ | ⟨g', cap', cur, h1, hb, hg, hn, hcm, hcs, ht⟩
  · simp at h1
  · simp only [Value.slice.injEq, Option.some.injEq, Addr.mk.injEq, and_true] at h1
    obtain ⟨rfl, rfl, rfl⟩ := h1
    have hlen : (l ++ [c]).length = l.length + 1 := by simp
    refine ⟨hlen, hn, hcm, ?_, ?_⟩
    · have := h.cells (g := g) rfl l.length (.int .u8 c) (by simp)
      rwa [Addr.add_lit, Nat.zero_add] at this
    · refine ⟨by simp, Or.inr ⟨g, cap, cur, rfl, hb, hg, by omega, hcm, hcs, ?_⟩⟩
      have := congrArg (List.take l.length) ht
      rw [List.take_take] at this
      rw [hlen] at this
      rw [show min l.length ((l.length + 1) * 1) = l.length * 1 by omega] at this
      rw [this, List.map_append, List.take_left' (by simp)]
theorem jclosed {w : World} {a : Nat → Addr} {B p : Nat} {nx ov : Value} {sz : Int} {t : St} (h : ScS w a B p nx sz ov t) (hne : t.opn ≠ []) :
    Calls Tryz.prog 41 #[.pointer (some ⟨p, 0, none⟩)] w (Outs w a B p nx sz ov (closed t)) := by
  obtain ⟨l, c, hlc⟩ : ∃ l c, t.opn = l ++ [c] := ⟨t.opn.dropLast, t.opn.getLast hne, (List.dropLast_concat_getLast hne).symm⟩
  have ho := h.own
  rw [hlc] at ho
  rcases ho.2 with ⟨_, h0⟩ | ⟨g, cap, cur, rfl, hb, hg, hn, hcm, hcs, ht⟩
  · simp at h0
  obtain ⟨q1, q2, q3, q4, q5⟩ := own_short ho
  have HO := hide q5
  have HL := hide q4
  obtain ⟨L, hL⟩ : ∃ L, l.length = L := ⟨_, rfl⟩
  have E : closed t = mayE .behind { t with opn := l } := by simp [closed, hlc]
  rw [E]; clear E
  have h1 : ScS (w.setCell ⟨p, 3, none⟩ (.slice (some ⟨g, 0, none⟩) l.length cap)) a B p nx sz (.slice (some ⟨g, 0, none⟩) l.length cap) { t with opn := l } := ScS.setOpn h.blk h.le q5
  have HM := hide (jmayEnd h1.drew (.func (.func 57) #[.pointer (some ⟨p, 0, none⟩)] #[]))
  have c3 := h.cell 3
  have f3 := h.frz 3
  simp only [scC] at c3
  have FR := hide (show Fr p (.slice (some ⟨g, 0, none⟩) (l ++ [c]).length cap) (.slice (some ⟨g, 0, none⟩) l.length cap) w (w.setCell ⟨p, 3, none⟩ (.slice (some ⟨g, 0, none⟩) l.length cap)).drew from
    Fr.drew ⟨rfl, rfl, rfl, by simp [World.setCell], fun k hk hp _ => Below.heap_setCell _ _ _ _ hp, Or.inl rfl⟩)
  rw [q1] at c3 q2 ⊢
  rw [q1] at FR
  rw [hL] at c3 HM q1 q2 FR ⊢
  clear h1 ho q5 q4 hg ht hn hcs h
  have b1 : ((L + 1 : Nat) : Int) - 1 = (L : Int) := by omega
  have b2 : (0 : Int) ≤ (L : Int) := by omega
  have b3 : (L : Int) ≤ (cap : Int) := by omega
  have b4 : (L : Int) ≤ 9223372036854775807 := by unfold maxLen at hcm; omega
  go_enter Tryz.func41, Tryz.ntmps41
  go_wp2_with fail
  go_region
  go_wp2_with fail
  refine HM.out.mono ?_
  rintro e w1 ⟨rfl, h1, f1⟩
  go_wp2
  go_ret
  exact ⟨_, rfl, h1, FR.out.trans f1⟩

section
variable {P : Program} (w : World)
/-- one element more, on a list of one's own: in its own place, or in a new one -/
theorem jrun_append (base : Nat) (t ty e : TypeId) (kd : IntKind) (bytes : Nat) (ht : P.underlying t = some (.slice e)) (hinf : (P.info? e).map (fun i => (i.zero, i.size, i.bytes)) = some (some (.int kd 0), 1, bytes))
    (v : Value) (n : Nat) (xs : List Int) (hown : w.ownsRow base e 1 v n (xs.map (Value.int kd))) (ad : Addr) (c : Nat) (x : Int) (hc : w.cell? (ad.add 0) = some (.int kd x))
    (h63 : n + 1 ≤ maxLen) (hbytes : (n + 1) * bytes ≤ 140737488355328) (hbase : base ≤ w.heap.size) :
    ∃ v' w', (Builtin.append_ #[t, t] ty #[v, .slice (some ad) 1 c]).run P w = .ok v' w' ∧ w'.ownsRow base e 1 v' (n + 1) ((xs ++ [x]).map (Value.int kd)) ∧ w.grownBy w' v.ownBlock ∧ (v'.ownBlock = v.ownBlock ∨ ∀ k, v'.ownBlock = some k → w.heap.size ≤ k) := by
  obtain ⟨i, hi, hz, hsz, hby⟩ := info_parts hinf
  have hnews : ∀ j u, ([x].map (Value.int kd))[j]? = some u → w.cell? (ad.add j) = some u := fun j u hu => by
    have hj : j < 1 := by have := (List.getElem?_eq_some_iff.1 hu).1; simpa using this
    have hj0 : j = 0 := by omega
    subst hj0
    simp at hu
    rw [hc, hu]
  have hone : ∀ u ∈ [x].map (Value.int kd), u.oneCell' = true := fun u hu => by
    obtain ⟨y, _, rfl⟩ := List.mem_map.1 hu; rfl
  obtain ⟨v', w', hr, h2, h3, _⟩ := run_append_own (P := P) w base t ty e i (.int kd 0) 1 bytes ht hi hz hsz hby rfl (by decide) v n _ hown ad 1 c ([x].map (Value.int kd)) (by simp) hnews hone h63 hbytes hbase
  refine ⟨v', w', hr, by simpa using h2, h3, ?_⟩
  have h63' : ((n + 1 : Nat) : Int) ≤ 9223372036854775807 := by unfold maxLen at h63; omega
  subst hby
  rcases hown.2 with ⟨rfl, rfl⟩ | ⟨g, cap, cur, rfl, hbg, hg, hnc, hcm, hcs, htake⟩
  · have hr' := run_append_nil (P := P) w t ty e i (.int kd 0) ht hi hz ad 1 c ([x].map (Value.int kd)) (by simp [hsz]) hnews (by omega) (by omega) (by omega)
    rw [hr'] at hr
    injection hr with e1 e2
    right
    intro k hk
    rw [← e1] at hk
    simp [Value.ownBlock] at hk
    omega
  · by_cases hroom : n + 1 ≤ cap
    · have hr' := run_append_room (P := P) w t ty e i ht hi g n cap cur hg ad 1 c ([x].map (Value.int kd)) (by simp [hsz]) hnews hone hroom (by simp [hsz, hcs]; omega)
      rw [hr'] at hr
      injection hr with e1 e2
      left
      rw [← e1]
      rfl
    · have holds : ∀ j u, (xs.map (Value.int kd))[j]? = some u → w.cell? ((⟨g, 0, none⟩ : Addr).add j) = some u := hown.cells (g := g) rfl
      have hr' := run_append_grow (P := P) w t ty e i (.int kd 0) ht hi hz ⟨g, 0, none⟩ n cap (xs.map (Value.int kd)) (by rw [hown.1, hsz]) holds ad 1 c ([x].map (Value.int kd)) (by simp [hsz]) hnews (by omega) h63' (growslice_fits (by omega) hbytes)
      rw [hr'] at hr
      injection hr with e1 e2
      right
      intro k hk
      rw [← e1] at hk
      simp [Value.ownBlock] at hk
      omega
theorem jwpList_append {ops : Array Oper} {rest : List Oper} {o : Oper} {a : Act} {Q : Exit → Act → World → Prop} (hgd : Region.wanted o (yielded ops a.tmps) = true) (s x : Operand) (t : TypeId)
    (ho : o.op = .call { callee := .builtin .append, args := #[s, x], argTypes := #[t, t] })
    (base : Nat) (e : TypeId) (kd : IntKind) (bytes : Nat) (ht : P.underlying t = some (.slice e)) (hinf : (P.info? e).map (fun i => (i.zero, i.size, i.bytes)) = some (some (.int kd 0), 1, bytes))
    (v : Value) (n : Nat) (xs : List Int) (hs : a.eval s = v) (hown : w.ownsRow base e 1 v n (xs.map (Value.int kd))) (ad : Addr) (c : Nat) (y : Int) (hx : a.eval x = .slice (some ad) 1 c) (hc : w.cell? (ad.add 0) = some (.int kd y))
    (h63 : n + 1 ≤ maxLen) (hbytes : (n + 1) * bytes ≤ 140737488355328) (hbase : base ≤ w.heap.size)
    (h : ∀ v' w', w'.ownsRow base e 1 v' (n + 1) ((xs ++ [y]).map (Value.int kd)) → w.grownBy w' v.ownBlock → (v'.ownBlock = v.ownBlock ∨ ∀ k, v'.ownBlock = some k → w.heap.size ≤ k) → wpList P ops Q rest (a.put o.dst v') w') : wpList P ops Q (o :: rest) a w := by
  obtain ⟨v', w', hr, h2, h3, h4⟩ := jrun_append (P := P) w base t o.type e kd bytes ht hinf v n xs hown ad c y hc h63 hbytes hbase
  refine wpList_step fun K hK => ?_
  rw [hgd]
  simp only [if_true]
  unfold Oper.wp execOp
  simp only [ho, resolve, invoke, builtin, Sem.run_bind, Sem.run_pure, Result.andThen_ok, List.map_toArray, List.map_cons, List.map_nil, hs, hx, hr]
  exact hK _ _ (h v' w' h2 h3 h4)
end
theorem own_form {w : World} {B : Nat} {E : TypeId} {v : Value} {n : Nat} {xs : List Value} (h : w.ownsRow B E 1 v n xs) : ∃ s k c, v = .slice s k c := by
  rcases h.2 with ⟨rfl, _⟩ | ⟨g, cap, cur, rfl, _⟩ <;> exact ⟨_, _, _, rfl⟩
theorem ScS.across {w u w5 : World} {a : Nat → Addr} {B p : Nat} {nx ov : Value} {sz : Int} {t : St} (h : ScS w a B p nx sz ov t) (hu : Below w.heap.size w u) (hg : u.grownBy w5 ov.ownBlock) :
    w5.heap[p]? = some (.cells (scC a p nx sz ov t) 50 (0, 0)) := by
  rw [hg.block p (Nat.lt_of_lt_of_le h.lt hu.size) (fun e => h.ne e.symm), hu.block p h.lt]
  exact h.blk
theorem Fr.across {w u w5 : World} {p : Nat} {ov ov' : Value} (hu : Below w.heap.size w u) (hg : u.grownBy w5 ov.ownBlock) (ho : ov'.ownBlock = ov.ownBlock ∨ ∀ k, ov'.ownBlock = some k → w.heap.size ≤ k) : Fr p ov ov' w w5 :=
  ⟨hg.os.trans hu.os, hg.tape.trans hu.tape, hg.output.trans hu.output, Nat.le_trans hu.size hg.size, fun k hk _ ho => (hg.block k (Nat.lt_of_lt_of_le hk hu.size) (fun e => ho e.symm)).trans (hu.block k hk), ho⟩
theorem bool_opn {n : Nat} (h : n ≠ 128) : ¬ ((n : Int) = 128) := by omega
theorem jopened {w : World} {a : Nat → Addr} {B p : Nat} {nx ov : Value} {sz : Int} {t : St} (h : ScS w a B p nx sz ov t) (hS : Snt w a) (hl : t.opn.length ≤ 128) (hB : B ≤ w.heap.size) (c : Int) (m : Md) (v : Value) (hv : v = mdV p m) :
    Calls Tryz.prog 24 #[.pointer (some ⟨p, 0, none⟩), .int .u8 c, v] w (Outs w a B p nx sz ov (opened c m t)) := by
  have cL := hS.cell 4 (by omega)
  simp only [sG, List.getD_cons_zero, List.getD_cons_succ] at cL
  have HV := hide hv
  clear hv
  have c3 := h.cell 3
  have f3 := h.frz 3
  have c5 := h.cell 5
  have f5 := h.frz 5
  simp only [scC] at c3 c5
  have HH := hide h
  have HB := hide hB
  obtain ⟨L, hL⟩ : ∃ L, t.opn.length = L := ⟨_, rfl⟩
  by_cases k : L = 128
  · have E : opened c m t = (none, { t with bad := 5 }) := by simp [opened, hL, k]
    rw [E]; clear E
    subst k
    rcases h.own.2 with ⟨rfl, h0⟩ | ⟨g, cap, cur, rfl, hb, hg, hn, hcm, hcs, ht⟩
    · omega
    · have HL := hide hL
      rw [hL] at c3 ⊢
      clear hn hcs ht hg h hS hl hL
      go_enter Tryz.func24, Tryz.ntmps24
      go_wp2
      go_ret
      refine ⟨_, rfl, ?_, (Fr.refl _ _ _).setP _⟩
      have hq := HH.out.setBad 5
      rw [HL.out] at hq
      exact hq
  · have E : opened c m t = (some m, { t with opn := t.opn ++ [c] }) := by simp [opened, hL, k]
    rw [E]; clear E
    have k' : ¬ ((L : Int) = 128) := by omega
    have h63 : L + [c].length ≤ maxLen := by unfold maxLen; simp; omega
    have hbt : (L + [c].length) * 1 ≤ 140737488355328 := by simp; omega
    have HM := hide (And.intro h63 hbt)
    have HO := hide h.own
    rw [hL] at HO
    have hlen : ∃ s0 n0 c0, ov = .slice s0 n0 c0 ∧ n0 = L := by
      rcases h.own.2 with ⟨rfl, h0⟩ | ⟨g, cap, cur, rfl, hb, hg, hn, hcm, hcs, ht⟩
      · exact ⟨none, 0, 0, rfl, by omega⟩
      · exact ⟨_, _, _, rfl, hL⟩
    obtain ⟨s0, n0, c0, rfl, rfl⟩ := hlen
    have HL := hide hL
    clear h63 hbt h hS hl hL hB
    go_enter Tryz.func24, Tryz.ntmps24
    go_wp2_with (at_builtin; refine jwpList_append _ rfl _ _ 35 rfl B 5 .u8 1 Tryz.underlying35 Tryz.infoY8 _ n0 _ rfl (HO.out.alloc _) _ _ c rfl (by rw [Addr.add_lit, Lib.cell_of_heap (heap_alloc_new w _)]; rfl) HM.out.1 HM.out.2 (by have := HB.out; simp; omega) ?_)
    intro v' w5 hown' hgrow hnew
    obtain ⟨s1, n1, c1, rfl⟩ := own_form hown'
    have hu : Below w.heap.size w (w.alloc (Obj.cells #[Value.int IntKind.u8 c] 5)) := (Below.refl _ _).alloc (Nat.le_refl _) _
    have hp := HH.out.across hu hgrow
    have HP := hide hp
    have c3' := Lib.cell_of_heap hp 3
    have f3' := frozen_of_row _ p 3 _ _ hp
    simp only [scC] at c3'
    have HO5 := hide hown'
    have FR := hide (Fr.across (p := p) (ov' := .slice s1 n1 c1) hu hgrow (by rcases hnew with e | e; exact Or.inl e; exact Or.inr fun k hk => by have h1 := e k hk; have h2 := hu.size; omega))
    clear hown' hgrow hnew hu hp c3 f3 c5 f5 cL
    go_wp2
    go_ret
    refine ⟨.slice s1 n1 c1, ?_, ScS.setOpn HP.out HH.out.le ?_, FR.out.setP _⟩
    · show Ending.returned v = .returned (mdV p m); rw [HV.out]
    · have := HO5.out
      rw [List.length_append, HL.out, List.map_append]
      exact this

end Go.Proofs.YtefmlajndillbaaGreatDoor
