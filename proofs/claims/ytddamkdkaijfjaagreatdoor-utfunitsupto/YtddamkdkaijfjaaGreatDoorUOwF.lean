/- ref09: High, Low, Units, FromUnits -/
import Derived.Test.YtddamkdkaijfjaaGreatDoorURefR
import Derived.Test.YtddamkdkaijfjaaGreatDoorURefT
import Derived.Test.YtddamkdkaijfjaaGreatDoorUBack
import Derived.Test.YtddamkdkaijfjaaGreatDoorAppZero
import Derived.Test.YtddamkdkaijfjaaGreatDoorUHl
import Derived.Test.YtddamkdkaijfjaaGreatDoorUFrom
namespace Go.Proofs.YtddamkdkaijfjaaGreatDoor
open Go.RowKit
set_option linter.unusedVariables false

theorem rhigh_any {w : World} {r : Int} : Calls Tryz.prog 83 #[.int .u16 r] w fun e w' => e = .returned (.bool (uHi r)) ∧ w' = w := by
  obtain ⟨b, hb⟩ : ∃ b, uHi r = b := ⟨_, rfl⟩
  rw [hb]
  unfold uHi at hb
  go_enter Tryz.func83, Tryz.ntmps83
  go_wp2
  all_goals go_ret
  all_goals exact ⟨by rw [← hb]; first | (simp_all; done) | (simp; omega), rfl⟩
theorem rlow_any {w : World} {r : Int} : Calls Tryz.prog 84 #[.int .u16 r] w fun e w' => e = .returned (.bool (uLo r)) ∧ w' = w := by
  obtain ⟨b, hb⟩ : ∃ b, uLo r = b := ⟨_, rfl⟩
  rw [hb]
  unfold uLo at hb
  go_enter Tryz.func84, Tryz.ntmps84
  go_wp2
  all_goals go_ret
  all_goals exact ⟨by rw [← hb]; first | (simp_all; done) | (simp; omega), rfl⟩
theorem uCodes_pts {ps : List Int} (h : uPts ps) : uCodes ps = ps.flatMap uU := by
  induction ps with
  | nil => rfl
  | cons p ps ih =>
    rw [uCodes_cons, List.flatMap_cons, ih h.cons.2]
    unfold sU
    rw [if_pos (uPt_lt h.cons.1)]
theorem grown_belowU {base : Nat} {w0 w w' : World} {r : Option Nat} (h : Below base w0 w) (hb : base ≤ w.heap.size) (hg : w.grownBy w' r) (hr : ∀ k, r = some k → base ≤ k) : Below base w0 w' :=
  ⟨hg.os.trans h.os, hg.tape.trans h.tape, hg.output.trans h.output, Nat.le_trans h.size hg.size, fun k hk => (hg.block k (by omega) (fun e => by have := hr k e.symm; omega)).trans (h.block k hk)⟩
theorem uop_append {o : Oper} {a : Act} {w w' : World} {K : Act → World → Prop} {Q : Exit → Act → World → Prop} (s x : Operand) (hop : o.op = .call { callee := .builtin .append, args := #[s, x], argTypes := #[66, 66] })
    {v va v' : Value} (hs : a.eval s = v) (hx : a.eval x = va) (hrun : (Builtin.append_ #[66, 66] o.type #[v, va]).run Tryz.prog w = .ok v' w') (h : K (a.put o.dst v') w') : Oper.wp Tryz.prog o a w K Q := by
  unfold Oper.wp
  simp [execOp, hop, resolve, invoke, builtin, hs, hx, hrun, Result.andThen]
  exact h
theorem run_append_u8 {w : World} {base n : Nat} {v : Value} {xs ys : List Int} {ad : Addr} {c : Nat} (hown : w.ownsRow base 5 1 v n (xs.map (Value.int .u8))) (hc : Cells .u8 w (some ad) ys) (h63 : n + ys.length ≤ 1099511627776) (hbase : base ≤ w.heap.size) (ty : TypeId) :
    ∃ v' w', (Builtin.append_ #[66, 66] ty #[v, .slice (some ad) ys.length c]).run Tryz.prog w = .ok v' w' ∧ w'.ownsRow base 5 1 v' (n + ys.length) ((xs ++ ys).map (Value.int .u8)) ∧ w.grownBy w' v.ownBlock := by
  obtain ⟨i0, hi0, hz0, hz1, hz2⟩ := info_parts Tryz.infoU8t
  obtain ⟨v', w', h1, h2, h3, _⟩ := run_append_own (P := Tryz.prog) w base 66 ty 5 i0 _ 1 1 Tryz.underlying66 hi0 hz0 hz1 hz2 rfl (by decide) v n _ hown ad ys.length c (ys.map (Value.int .u8)) (by simp) (by
    intro j u hu
    have hj : j < ys.length := by have := (List.getElem?_eq_some_iff.1 hu).1; simpa using this
    obtain ⟨b, off, he, _, hcell⟩ := hc (by omega)
    cases he
    rw [Addr.add_lit, hcell j hj]
    simp [hj] at hu
    rw [← hu]; simp [Nt.lb, hj]) (ints_oneCell _ _) (by unfold maxLen; omega) (by omega) hbase
  exact ⟨v', w', h1, by rw [List.map_append]; exact h2, h3⟩
theorem owns_farU {w w' : World} {base e n : Nat} {v : Value} {xs : List Value} (h : w.ownsRow base e 1 v n xs) (hb : Below base w w') (hs : ∀ k, v.ownBlock = some k → w'.heap[k]? = w.heap[k]?) : w'.ownsRow base e 1 v n xs := by
  obtain ⟨h0, h1 | ⟨g, cap, cur, rfl, h2, h3, h4⟩⟩ := h
  · exact ⟨h0, .inl h1⟩
  · exact ⟨h0, .inr ⟨g, cap, cur, rfl, h2, (hs g rfl).trans h3, h4⟩⟩
theorem renc_k {w : World} {p : Int} (h : uPt p = true) : Calls Tryz.prog 29 #[.int .i64 p] w fun e w' => e = .returned (.slice (some ⟨w.heap.size, 0, none⟩) (uEnc p).length (uEnc p).length) ∧ Cells .u8 w' (some ⟨w.heap.size, 0, none⟩) (uEnc p) ∧ Below w.heap.size w w' := by
  refine (renc_any h).mono ?_
  rintro e w' ⟨rfl, rfl⟩
  exact ⟨rfl, renc_cells p, (Below.refl _ _).alloc (Nat.le_refl _) _⟩
theorem Tryz.infoU16f : (Tryz.prog.info? 52).map (fun i => (i.zero, i.size, i.bytes)) = some (some (.int .u16 0), 1, 2) := by kernel_rfl
set_option maxRecDepth 100000 in
set_option maxHeartbeats 4000000 in
theorem runits_any {w : World} {s : ByteArray} {es ps : List Int} (hb : uByt es) (hs : s = strOfNums es) (hl : es.length ≤ 1048576) (hS : USplit es ps []) :
    Calls Tryz.prog 15 #[.string s] w fun e w' => ∃ v, e = .returned (.tuple #[v, .bool true]) ∧ Reads .u16 w' v (ps.flatMap uU) ∧ Below w.heap.size w w' := by
  have hQ : USteps es ps := by
    have := USteps.text hS.pts .nil
    rw [List.append_nil] at this
    rw [hS.eq]
    simpa using this
  have HCD := hide (fun w => rcodes_any (w := w) hb hs (by omega) hQ)
  have HIS := hide (fun w => ris_any (w := w) hb hs (by omega) hS)
  rw [List.isEmpty_nil] at HIS
  have hpl : ps.length ≤ 1048576 := by have := hQ.len hb; omega
  have hlen := uCodes_len ps
  have H16 := hide (uU_16 hS.pts)
  rw [uCodes_pts hS.pts] at HCD hlen
  clear hs hb hl hS hQ
  obtain ⟨cs, hcs⟩ : ∃ cs, ps.flatMap uU = cs := ⟨_, rfl⟩
  rw [hcs] at HCD hlen H16 ⊢
  clear hcs
  have hcl : cs.length ≤ 2097152 := by omega
  go_enter Tryz.func15, Tryz.ntmps15
  go_wp2_with fail
  refine (HIS.out _).mono ?_
  rintro e wi ⟨rfl, hBi⟩
  go_wp2_with fail
  refine (HCD.out _).mono ?_
  rintro e w0 ⟨v0, rfl, hrow0, hB0⟩
  obtain ⟨ao, cap, rfl, hcap, hcm, hcells⟩ := reads_of_owns hrow0
  unfold maxLen at hcm
  have HC := hide hcells
  have HBB := hide (hBi.trans (hB0.mono hBi.size))
  clear hcells hrow0 HCD HIS hBi hB0
  go_wp2_with fail
  go_loopg [5, 6] cs.length (fun c v i wr => ∃ (j : Nat), j ≤ cs.length ∧ i = .int .i64 j ∧ c = cs.length - j ∧ Hid (wr.ownsRow w0.heap.size 52 1 v j ((cs.take j).map (Value.int .u16))) ∧ Below w0.heap.size w0 wr)
  case atStart => exact ⟨0, by omega, rfl, by omega, hide (World.ownsRow_nil _ _ _ _), Below.refl _ _⟩
  case round =>
    obtain ⟨j, hj, rfl, hg, hrow, hbr⟩ := hrel
    have hz3 := hbr.size
    by_cases hlt : j < cs.length
    · obtain ⟨b1, o1, rfl, _, hc1⟩ := (HC.out.below hbr) (by omega)
      have g1 := hc1 j hlt
      have hq := H16.out _ (show Nt.lb cs j ∈ cs by rw [ulb_get hlt]; exact List.getElem_mem hlt)
      have HT := hide (show cs.take (j + 1) = cs.take j ++ [Nt.lb cs j] by rw [List.take_add_one, List.getElem?_eq_getElem hlt, ← ulb_get hlt]; rfl)
      obtain ⟨q, hqq⟩ : ∃ q, Nt.lb cs j = q := ⟨_, rfl⟩
      rw [hqq] at g1 hq HT
      have q1 : (j : Int) < (cs.length : Int) := by omega
      have q6 : IntKind.u16.wrap q = q := by simp [IntKind.wrap, IntKind.bits, IntKind.signed]; omega
      have HTL := hide (show (cs.take j).length = j by rw [List.length_take]; omega)
      have CE := hide (show Cells .u16 (wr.alloc (.cells #[.int .u16 q] 52)) (some ⟨wr.heap.size, 0, none⟩) [q] from by
        intro _
        refine ⟨wr.heap.size, 0, rfl, by simp, fun i hi => ?_⟩
        obtain rfl : i = 0 := by simpa using hi
        rw [cell_of_row _ _ _ _ _ _ (heap_alloc_new wr _)]
        rfl)
      clear hc1 hqq
      go_wp2_with (at_builtin; refine wpList_append_cells _ rfl _ _ 48 rfl w0.heap.size 52 .u16 2 Tryz.underlying48 Tryz.infoU16f _ j (cs.take j) rfl (hrow.out.alloc _) (some ⟨wr.heap.size, 0, none⟩) 1 [q] rfl CE.out (by unfold maxLen; simp; omega) (by simp; omega) (by simp; omega) ?_)
      intro v2 w2 hown2 hgr2
      have HB2 := hide (grown_belowU (hbr.alloc hz3 _) (by simp; omega) hgr2 (fun k e => (hrow.out.lt k e).1))
      have HO := hide hown2
      clear hown2 hgr2
      go_wp2
      go_roundg (cs.length - (j + 1))
      case measure => omega
      case rel => exact ⟨j + 1, by omega, by simp, rfl, hide (by rw [HT.out]; simpa using HO.out), HB2.out⟩
    · have q1 : ¬ (j : Int) < (cs.length : Int) := by omega
      have hje : j = cs.length := by omega
      have HR := hide (reads_of_owns (show wr.ownsRow w0.heap.size 52 1 u5 j (cs.map (Value.int .u16)) by have := hrow.out; rw [hje, List.take_length] at this; rw [hje]; exact this))
      go_wp2
      go_ret2
      exact ⟨_, rfl, HR.out, HBB.out.trans (hbr.mono HBB.out.size)⟩
theorem runits_rd {w : World} {s : ByteArray} {es ps t : List Int} (hb : uByt es) (hs : s = strOfNums es) (hl : es.length ≤ 1048576) (hS : USplit es ps t) :
    Calls Tryz.prog 15 #[.string s] w fun e w' => ∃ v, e = .returned (.tuple #[v, .bool t.isEmpty]) ∧ Reads .u16 w' v (if t.isEmpty then ps.flatMap uU else []) ∧ Below w.heap.size w w' := by
  by_cases ht : t = []
  · subst ht
    exact runits_any hb hs hl hS
  · have HI := hide (fun w => ris_any (w := w) hb hs (by omega) hS)
    rw [isEmpty_no ht] at HI ⊢
    clear hb hs hl hS
    go_enter Tryz.func15, Tryz.ntmps15
    go_wp2_with fail
    refine (HI.out _).mono ?_
    rintro e w1 ⟨rfl, h1⟩
    go_wp2
    go_ret2
    exact ⟨_, rfl, reads_nil, h1⟩

theorem lb_appU {a s : List Int} {k : Nat} : Nt.lb (a ++ s) (a.length + k) = Nt.lb s k := by
  simp [Nt.lb, List.getD_eq_getElem?_getD, List.getElem?_append_right]
/-- where the next code point stands -/
theorem ujoin_at {us ps t : List Int} (hJ : UJoin us ps t) {m : Nat} (hm : m < ps.length) (k : Nat) : Nt.lb us (((ps.take m).flatMap uU).length + k) = Nt.lb (uU ps[m] ++ ((ps.drop (m + 1)).flatMap uU ++ t)) k := by
  have e : us = (ps.take m).flatMap uU ++ (uU ps[m] ++ ((ps.drop (m + 1)).flatMap uU ++ t)) := by
    rw [hJ.eq]
    conv => lhs; rw [← List.take_append_drop m ps, List.drop_eq_getElem_cons hm]
    rw [List.flatMap_append, List.flatMap_cons]
    simp
  rw [e, lb_appU]
theorem ujoin_len {us ps t : List Int} (hJ : UJoin us ps t) {m : Nat} (hm : m < ps.length) : ((ps.take m).flatMap uU).length + (uU ps[m]).length ≤ us.length ∧ ((ps.take (m + 1)).flatMap uU).length = ((ps.take m).flatMap uU).length + (uU ps[m]).length := by
  have e : us = (ps.take m).flatMap uU ++ (uU ps[m] ++ ((ps.drop (m + 1)).flatMap uU ++ t)) := by
    rw [hJ.eq]
    conv => lhs; rw [← List.take_append_drop m ps, List.drop_eq_getElem_cons hm]
    rw [List.flatMap_append, List.flatMap_cons]
    simp
  refine ⟨?_, ?_⟩
  · have := congrArg List.length e
    simp only [List.length_append] at this
    omega
  · rw [List.take_succ_eq_append_getElem hm, List.flatMap_append, List.length_append]
    simp
theorem uJn_bad {x : Int} {r : List Int} (h : (uJn (x :: r)).2 = 0) : (uHi x = false ∧ uLo x = true) ∨ (uHi x = true ∧ r = []) ∨ ∃ b s, r = b :: s ∧ uHi x = true ∧ uLo b = false := by
  simp only [uJn] at h
  by_cases g1 : uHi x = false ∧ uLo x = false
  · rw [if_pos g1] at h; exact absurd h (by simp)
  · rw [if_neg g1] at h
    by_cases g2 : uLo x = true
    · have b2 := uLo_iff.1 g2
      exact .inl ⟨uHi_no.2 (by omega), g2⟩
    · rw [if_neg g2] at h
      have b2 : uLo x = false := by simpa using g2
      have b1 : uHi x = true := by
        cases hh : uHi x
        · exact absurd ⟨hh, b2⟩ g1
        · rfl
      cases r with
      | nil => exact .inr (.inl ⟨b1, rfl⟩)
      | cons b s =>
        simp only at h
        by_cases g3 : uLo b = true
        · rw [if_pos g3] at h; exact absurd h (by simp)
        · exact .inr (.inr ⟨b, s, rfl, b1, by simpa using g3⟩)

end Go.Proofs.YtddamkdkaijfjaaGreatDoor
