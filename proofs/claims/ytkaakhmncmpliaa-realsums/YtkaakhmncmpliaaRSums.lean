/- RealSums: the walk -/
import Derived.Test.YtkaakhmncmpliaaRSumsB
namespace Go.Proofs.Ytkaakhmncmpliaa
open Go.RowKit
set_option linter.unusedVariables false

def pvals (ps : List (Int × Int)) : List Value := ps.flatMap fun p => [Value.int .u64 p.1, Value.int .u64 p.2]
theorem pvals_len (ps : List (Int × Int)) : (pvals ps).length = ps.length * 2 := by
  induction ps with
  | nil => rfl
  | cons p ps ih =>
    change (Value.int .u64 p.1 :: Value.int .u64 p.2 :: pvals ps).length = _
    rw [List.length_cons, List.length_cons, ih, List.length_cons]
    omega
theorem pvals_append (ps qs : List (Int × Int)) : pvals (ps ++ qs) = pvals ps ++ pvals qs := List.flatMap_append ..
theorem pvals_at {ps : List (Int × Int)} : ∀ {i : Nat}, i < ps.length → (pvals ps)[i * 2]? = some (.int .u64 (pre ps i)) ∧ (pvals ps)[i * 2 + 1]? = some (.int .u64 (pim ps i)) := by
  induction ps with
  | nil => intro i h; exact absurd h (by simp)
  | cons p ps ih =>
    intro i h
    change (Value.int .u64 p.1 :: Value.int .u64 p.2 :: pvals ps)[i * 2]? = _ ∧ (Value.int .u64 p.1 :: Value.int .u64 p.2 :: pvals ps)[i * 2 + 1]? = _
    cases i with
    | zero => exact ⟨rfl, rfl⟩
    | succ i =>
      rw [List.length_cons] at h
      obtain ⟨h1, h2⟩ := ih (i := i) (by omega)
      rw [show (i + 1) * 2 = i * 2 + 1 + 1 by omega, List.getElem?_cons_succ, List.getElem?_cons_succ, List.getElem?_cons_succ, List.getElem?_cons_succ]
      exact ⟨h1, h2⟩
theorem preads_of_owns {w : World} {base : Nat} {e : TypeId} {v : Value} {n : Nat} {ps : List (Int × Int)} (h : w.ownsRow base e 2 v n (pvals ps)) : PReads w v ps := by
  obtain ⟨h1, h2⟩ := h
  have hl : ps.length = n := by rw [pvals_len] at h1; omega
  subst hl
  rcases h2 with ⟨rfl, h0⟩ | ⟨g, cap, cur, rfl, _, hg, hnc, hcm, _, htake⟩
  · refine ⟨none, 0, by rw [h0], by omega, by unfold maxLen; omega, fun hp => by omega⟩
  · refine ⟨some ⟨g, 0, none⟩, cap, rfl, hnc, hcm, fun _ => ⟨g, 0, rfl, (Array.getElem?_eq_some_iff.1 hg).1, fun i hi => ?_⟩⟩
    have look : ∀ j, j < ps.length * 2 → cur[j]? = (pvals ps)[j]? := by
      intro j hj
      have : (cur.toList.take (ps.length * 2))[j]? = (pvals ps)[j]? := by rw [htake]
      rw [List.getElem?_take, if_pos hj] at this
      simpa using this
    obtain ⟨a1, a2⟩ := pvals_at hi
    rw [Nat.zero_add, cell_of_row w g (i * 2) cur e (0, 0) hg, cell_of_row w g (i * 2 + 1) cur e (0, 0) hg, look _ (by omega), look _ (by omega)]
    exact ⟨a1, a2⟩
theorem owns_set {w : World} {base : Nat} {e : TypeId} {size : Nat} {v : Value} {n : Nat} {xs : List Value} (h : w.ownsRow base e size v n xs) {p : Addr} (hp : p.block < base) (u : Value) : (w.setCell p u).ownsRow base e size v n xs := by
  obtain ⟨h1, h2⟩ := h
  refine ⟨h1, ?_⟩
  rcases h2 with h0 | ⟨g, cap, cur, h3, h4, h5, h6⟩
  · exact Or.inl h0
  · exact Or.inr ⟨g, cap, cur, h3, h4, (heap_setCell_other w p g u (by omega)).trans h5, h6⟩
theorem Try.infoP : (Try.prog.info? 58).map (fun i => (i.zero, i.size, i.bytes)) = some (some (.agg #[.int .u64 0, .int .u64 0]), 2, 16) := by kernel_rfl
/-- one pair more -/
theorem wpList_append_pair {P : Program} (w : World) {ops : Array Oper} {rest : List Oper} {o : Oper} {a : Act} {Q : Exit → Act → World → Prop} (hgd : o.guard = none) (s x : Operand) (t : TypeId)
    (ho : o.op = .call { callee := .builtin .append, args := #[s, x], argTypes := #[t, t] })
    (base : Nat) (e : TypeId) (bytes : Nat) (ht : P.underlying t = some (.slice e)) (hinf : (P.info? e).map (fun i => (i.zero, i.size, i.bytes)) = some (some (.agg #[.int .u64 0, .int .u64 0]), 2, bytes))
    (v : Value) (n : Nat) (xs : List (Int × Int)) (hs : a.eval s = v) (hown : w.ownsRow base e 2 v n (pvals xs)) (ad : Addr) (c : Nat) (p : Int × Int) (hx : a.eval x = .slice (some ad) 1 c)
    (hc0 : w.cell? (ad.add 0) = some (.int .u64 p.1)) (hc1 : w.cell? (ad.add 1) = some (.int .u64 p.2))
    (h63 : n + 1 ≤ maxLen) (hbytes : (n + 1) * bytes ≤ 140737488355328) (hbase : base ≤ w.heap.size)
    (h : ∀ v' w', w'.ownsRow base e 2 v' (n + 1) (pvals (xs ++ [p])) → w.grownBy w' v.ownBlock → wpList P ops Q rest (a.put o.dst v') w') : wpList P ops Q (o :: rest) a w := by
  obtain ⟨i, hi, hz, hsz, hby⟩ : ∃ i, P.info? e = some i ∧ i.zero = some (.agg #[.int .u64 0, .int .u64 0]) ∧ i.size = 2 ∧ i.bytes = bytes := by
    cases hq : P.info? e with
    | none => rw [hq] at hinf; cases hinf
    | some i =>
      rw [hq] at hinf
      simp at hinf
      exact ⟨i, rfl, hinf.1, hinf.2.1, hinf.2.2⟩
  refine wpList_append_own w hgd s x t ho base e i (.agg #[.int .u64 0, .int .u64 0]) 2 bytes ht hi hz hsz hby rfl (by decide) v n _ hs hown ad 1 c (pvals [p]) hx rfl ?_ ?_ h63 hbytes hbase ?_
  · intro j u hu
    match j, hu with
    | 0, hu => rw [hc0]; exact hu
    | 1, hu => rw [hc1]; exact hu
    | j + 2, hu => exact absurd hu (by simp [pvals])
  · intro u hu
    simp [pvals] at hu
    rcases hu with rfl | rfl <;> rfl
  · intro v' w' h1 h2 _
    exact h v' w' (by rw [pvals_append]; exact h1) h2

theorem cre_rev {zs : List (Nat × Nat)} {i : Nat} (h : i < zs.length) : cre zs.reverse i = cre zs (zs.length - 1 - i) ∧ cim zs.reverse i = cim zs (zs.length - 1 - i) := by
  unfold cre cim
  rw [List.getD_eq_getElem?_getD, List.getD_eq_getElem?_getD, List.getElem?_reverse h]
  exact ⟨rfl, rfl⟩
theorem pre_rev {ps : List (Int × Int)} {i : Nat} (h : i < ps.length) : pre ps.reverse i = pre ps (ps.length - 1 - i) ∧ pim ps.reverse i = pim ps (ps.length - 1 - i) := by
  unfold pre pim
  rw [List.getD_eq_getElem?_getD, List.getD_eq_getElem?_getD, List.getElem?_reverse h]
  exact ⟨rfl, rfl⟩
theorem rev_step {zs : List (Nat × Nat)} {k : Nat × Nat} {i : Nat} (h : i < zs.length) : (zs.reverse.take i ++ (zs ++ [k]).drop i).set i (cre zs (zs.length - 1 - i), cim zs (zs.length - 1 - i)) = zs.reverse.take (i + 1) ++ (zs ++ [k]).drop (i + 1) := by
  have hl : (zs.reverse.take i).length = i := by rw [List.length_take, List.length_reverse]; omega
  have hd : (zs ++ [k]).drop i = (zs ++ [k])[i]'(by rw [List.length_append]; omega) :: (zs ++ [k]).drop (i + 1) := List.drop_eq_getElem_cons (by rw [List.length_append]; omega)
  obtain ⟨c1, c2⟩ := cre_rev h
  rw [List.set_append_right _ _ (by omega), hl, Nat.sub_self, hd, List.set_cons_zero, take_snoc (by rw [List.length_reverse]; exact h), c1, c2, List.append_assoc]
  rfl
theorem rev_pair {ps : List (Int × Int)} {i : Nat} (h : i < ps.length) : ps.reverse.take (i + 1) = ps.reverse.take i ++ [(pre ps (ps.length - 1 - i), pim ps (ps.length - 1 - i))] := by
  obtain ⟨c1, c2⟩ := pre_rev h
  have h' : i < ps.reverse.length := by rw [List.length_reverse]; exact h
  rw [List.take_add_one, List.getElem?_eq_getElem h', ← c1, ← c2]
  unfold pre pim
  rw [List.getD_eq_getElem?_getD, List.getElem?_eq_getElem h']
  rfl
theorem pok_rev {ps : List (Int × Int)} (h : POk ps) : POk ps.reverse := by
  intro i
  by_cases c : i < ps.length
  · obtain ⟨c1, c2⟩ := pre_rev c
    rw [c1, c2]
    exact h _
  · unfold pre pim
    rw [List.getD_eq_getElem?_getD, List.getElem?_eq_none (by rw [List.length_reverse]; omega)]
    exact ⟨by decide, by decide⟩
theorem cx_rev (ps : List (Int × Int)) : cx ps.reverse = (cx ps).reverse := by unfold cx; rw [List.map_reverse]
theorem cok_cx {ps : List (Int × Int)} (hok : POk ps) : COk (cx ps) := by
  intro z hz
  obtain ⟨i, hi, rfl⟩ := List.getElem_of_mem hz
  have h1 := cre_cx (ps := ps) i
  have h2 := hok i
  have e1 : cre (cx ps) i = (cx ps)[i].1 := by unfold cre; rw [List.getD_eq_getElem?_getD, List.getElem?_eq_getElem hi]; rfl
  have e2 : cim (cx ps) i = (cx ps)[i].2 := by unfold cim; rw [List.getD_eq_getElem?_getD, List.getElem?_eq_getElem hi]; rfl
  rw [← e1, ← e2, h1.1, h1.2]
  omega

set_option maxRecDepth 100000 in
set_option maxHeartbeats 8000000 in
theorem rsums_walk {W : World} {v u : Value} {ps qs : List (Int × Int)} (hv : PReads W v ps) (hok : POk ps) (hm2 : ps.length ≤ 8796093022208) (hu : PReads W u qs) (qok : POk qs) (hm3 : qs.length ≤ 8796093022208) :
    Calls Try.prog 8 #[v, u] W fun e w' => e = .returned (.bool true) ∧ Below W.heap.size W w' := by
  obtain ⟨ao, cap, rfl, hcap, hmax, hc⟩ := hv
  obtain ⟨bo, bap, rfl, hbap, hbax, hd⟩ := hu
  by_cases big : 1048576 < ps.length + qs.length
  · have big' : (1048576 : Int) < (ps.length : Int) + (qs.length : Int) := by omega
    go_enter Try.func8, Try.ntmps8
    go_wp2
    go_ret
    exact ⟨rfl, Below.refl _ _⟩
  have big' : ¬ (1048576 : Int) < (ps.length : Int) + (qs.length : Int) := by omega
  have pb : ps.length ≤ 1048576 := by omega
  have qb : qs.length ≤ 1048576 := by omega
  have HC := hide hc
  have HD := hide hd
  clear hcap hmax hbap hbax hc hd big
  go_enter Try.func8, Try.ntmps8
  go_wp2
  clear big'
  go_loopw [5, 7] (fun out si wr => ∃ i : Nat, i ≤ ps.length ∧ si = .int .i64 i ∧ Hid (wr.ownsRow W.heap.size 59 1 out i (cvals (cx (ps.take i)))) ∧ Hid (Below W.heap.size W wr)) (fun _ si _ => ps.length - (intOf si).toNat)
  case atStart => exact ⟨0, by omega, rfl, hide (by simpa [cx, cvals] using World.ownsRow_nil W W.heap.size 59 1), hide (Below.refl _ _)⟩
  case round =>
    obtain ⟨i, hi, rfl, HO, HB⟩ := hrel
    by_cases hlt : i < ps.length
    · obtain ⟨b, off, rfl, hb, hcell⟩ := (HC.out.below HB.out) (by omega)
      obtain ⟨g1, g2⟩ := hcell i hlt
      have hsz := HB.out.size
      clear hcell
      go_wp2_with fail
      with_reducible refine (number_any _ (pre ps i) (pim ps i)).mono ?_
      rintro e w1 ⟨rfl, b1⟩
      have Ho := hide (owns_below HO.out b1)
      have Hb := hide (HB.out.trans (b1.mono hsz))
      have Hz := hide (Nat.le_trans hsz b1.size)
      clear HO g1 g2 HB b1
      go_wp2_with (at_builtin; refine wpList_append_cplx _ rfl _ _ 68 rfl W.heap.size 59 16 Try.underlying68 Try.infoC _ i _ rfl (Ho.out.alloc _) (some ⟨w1.heap.size, 0, none⟩) 1 [((pre ps i).toNat, (pim ps i).toNat)] rfl (c_one _ _ _ _) (by unfold maxLen; simp; omega) (by simp; omega) (by have := Hz.out; simp; omega) ?_)
      intro v' w2 hown' hgrow
      have Hb2 := hide (below_own1 (Hb.out.alloc Hz.out _) (by have := Hz.out; simp; omega) (Ho.out.alloc _) hgrow)
      rw [← cx_snoc ps hlt] at hown'
      have Hown' := hide hown'
      clear hown' hgrow Ho Hb
      go_wp2
      go_roundw
      case rel => exact ⟨i + 1, by omega, rfl, hide (by simpa using Hown'.out), Hb2⟩
      case measure => simp [intOf]; omega
    · obtain rfl : i = ps.length := by omega
      have hown := HO.out
      rw [List.take_of_length_le (Nat.le_refl _)] at hown
      obtain ⟨lo, lc, hlist, hlc, hlm, hcc⟩ := creads_of_owns hown
      rw [cx_len] at hlist
      subst hlist
      have HL := hide hcc
      have HB1 := hide HB.out
      clear hown hcc HO HB hlt hi hlc hlm
      obtain ⟨wA, rfl⟩ : ∃ x, x = wr := ⟨_, rfl⟩
      go_wp2
      go_loopw [6, 8] (fun out si wr => ∃ i : Nat, i ≤ qs.length ∧ si = .int .i64 i ∧ Hid (wr.ownsRow wA.heap.size 59 1 out i (cvals (cx (qs.take i)))) ∧ Hid (Below wA.heap.size wA wr)) (fun _ si _ => qs.length - (intOf si).toNat)
      case atStart => exact ⟨0, by omega, rfl, hide (by simpa [cx, cvals] using World.ownsRow_nil wA wA.heap.size 59 1), hide (Below.refl _ _)⟩
      case round =>
        rename_i hrel
        obtain ⟨i, hi, rfl, HO, HB⟩ := hrel
        by_cases hlt : i < qs.length
        · obtain ⟨b, off, rfl, hb, hcell⟩ := (HD.out.below (below_trans HB1.out HB.out)) (by omega)
          obtain ⟨g1, g2⟩ := hcell i hlt
          have hsz := HB.out.size
          clear hcell
          go_wp2_with fail
          with_reducible refine (number_any _ (pre qs i) (pim qs i)).mono ?_
          rintro e w1 ⟨rfl, b1⟩
          have Ho := hide (owns_below HO.out b1)
          have Hb := hide (HB.out.trans (b1.mono hsz))
          have Hz := hide (Nat.le_trans hsz b1.size)
          clear HO g1 g2 HB b1
          go_wp2_with (at_builtin; refine wpList_append_cplx _ rfl _ _ 68 rfl wA.heap.size 59 16 Try.underlying68 Try.infoC _ i _ rfl (Ho.out.alloc _) (some ⟨w1.heap.size, 0, none⟩) 1 [((pre qs i).toNat, (pim qs i).toNat)] rfl (c_one _ _ _ _) (by unfold maxLen; simp; omega) (by simp; omega) (by have := Hz.out; simp; omega) ?_)
          intro v' w2 hown' hgrow
          have Hb2 := hide (below_own1 (Hb.out.alloc Hz.out _) (by have := Hz.out; simp; omega) (Ho.out.alloc _) hgrow)
          rw [← cx_snoc qs hlt] at hown'
          have Hown' := hide hown'
          clear hown' hgrow Ho Hb
          go_wp2
          go_roundw
          case rel => exact ⟨i + 1, by omega, rfl, hide (by simpa using Hown'.out), Hb2⟩
          case measure => simp [intOf]; omega
        · obtain rfl : i = qs.length := by omega
          have hown := HO.out
          rw [List.take_of_length_le (Nat.le_refl _)] at hown
          obtain ⟨mo, mc, hlist, _, _, hcc⟩ := creads_of_owns hown
          rw [cx_len] at hlist
          subst hlist
          have HM := hide hcc
          have HL1 := hide (HL.out.below HB.out)
          have HBB := hide (below_trans HB1.out HB.out)
          clear hown hcc HO HB hlt hi HL HB1
          obtain ⟨wB, rfl⟩ : ∃ x, x = wr := ⟨_, rfl⟩
          go_wp2_with fail
          with_reducible refine (twin_ok (cx_len ps) pb HL1.out).mono ?_
          rintro e wC ⟨rfl, hR, hbC⟩
          obtain ⟨g, hg⟩ : ∃ g, g = wB.heap.size := ⟨_, rfl⟩
          have gW : W.heap.size ≤ g := by rw [hg]; exact HBB.out.size
          have R := hide hR
          have L := hide (HL1.out.below hbC)
          have M := hide (HM.out.below hbC)
          have lg : ∀ w' : World, Below wB.heap.size wC w' → CCells w' lo (cx ps) := fun w' h => HL1.out.below (hbC.trans h)
          have B := hide (below_trans HBB.out hbC)
          rw [← hg] at R lg ⊢
          have LG := hide lg
          have gC : wB.heap.size ≤ wC.heap.size := Nat.le_of_lt hR.lt
          rw [← hg] at gC
          clear hR hbC HL1 HM HBB lg
          clear hg
          have hzok := hide (cok_cx hok)
          have Rc := hide R.out.cells
          have Pc := hide (HC.out.below B.out)
          go_wp2_with fail
          with_reducible refine (sums_ok rfl pb Rc.out Pc.out hok).mono ?_
          rintro e wD ⟨rfl, b1⟩
          have R1 := hide (R.out.below b1 R.out.lt)
          have M1 := hide (M.out.below b1)
          have B1 := hide (below_trans B.out b1)
          have L1 := hide (L.out.below b1)
          have Qc := hide (HD.out.below B1.out)
          have D1 := hide b1
          clear R M B L Rc Pc b1
          go_wp2_with fail
          with_reducible refine (sums_ok rfl qb M1.out Qc.out qok).mono ?_
          rintro e wE ⟨rfl, b2⟩
          have R2 := hide (R1.out.below b2 R1.out.lt)
          have B2 := hide (below_trans B1.out b2)
          have L2 := hide (L1.out.below b2)
          have D2 := hide (below_trans D1.out b2)
          have Rc := hide R2.out.cells
          have Pc := hide (HC.out.below B2.out)
          clear R1 M1 B1 L1 D1 Qc b2
          go_wp2_with fail
          with_reducible refine (sums_ok rfl pb Rc.out Pc.out hok).mono ?_
          rintro e wF ⟨rfl, b3⟩
          have R3 := hide (R2.out.below b3 R2.out.lt)
          have B3 := hide (below_trans B2.out b3)
          have L3 := hide (L2.out.below b3)
          have D3 := hide (below_trans D2.out b3)
          clear R2 B2 L2 D2 Rc Pc b3
          go_wp2_with fail
          with_reducible refine (left_ok (cx_len ps) pb R3.out L3.out hzok.out).mono ?_
          rintro e wG ⟨rfl, hDr⟩
          have R4 := hide (R3.out.below (hDr.below _) R3.out.lt)
          have B4 := hide (below_trans B3.out (hDr.below _))
          have D4 := hide (below_trans D3.out (hDr.below _))
          clear R3 B3 L3 D3 hDr
          go_wp2
          have gG : g < wG.heap.size := R4.out.lt
          clear HD qok hm3 qb
          go_loopw [10, 11] (fun back si wr => ∃ i : Nat, i ≤ ps.length ∧ si = .int .i64 i ∧ Hid (wr.ownsRow wG.heap.size 58 2 back i (pvals (ps.reverse.take i))) ∧ Hid (CRow wr g ((cx ps).reverse.take i ++ (cx ps ++ [(mkRe, 4607182418800017408)]).drop i)) ∧ Hid (Below g wG wr)) (fun _ si _ => ps.length - (intOf si).toNat)
          case atStart => exact ⟨0, by omega, rfl, hide (by simpa [pvals] using World.ownsRow_nil wG wG.heap.size 58 2), by simpa using R4, hide (Below.refl _ _)⟩
          case round =>
            rename_i hrel
            obtain ⟨i, hi, rfl, HO, HR, HB⟩ := hrel
            have PC := hide (HC.out.below (B4.out.trans (HB.out.mono gW)))
            have hsz := HB.out.size
            by_cases hlt : i < ps.length
            · have hjl : ps.length - 1 - i < ps.length := by omega
              obtain ⟨b, off, rfl, hb, hcell⟩ := PC.out (by omega)
              obtain ⟨g1, g2⟩ := hcell (ps.length - 1 - i) hjl
              clear hcell
              go_wp2_with (at_builtin; refine wpList_append_pair _ rfl _ _ 67 rfl wG.heap.size 58 16 Try.underlying67 Try.infoP _ i _ rfl (HO.out.alloc _) ⟨wr.heap.size, 0, none⟩ 1 (pre ps (ps.length - 1 - i), pim ps (ps.length - 1 - i)) rfl (by rw [Addr.add_lit, World.cell?_alloc_at _ _ _ _ rfl]; rfl) (by rw [Addr.add_lit, World.cell?_alloc_at _ _ _ _ rfl]; rfl) (by unfold maxLen; omega) (by omega) (by simp; omega) ?_)
              intro v' w2 hown' hgrow
              have hb3 : Below wG.heap.size wr w2 := below_own1 ((Below.refl _ _).alloc hsz _) (by simp; omega) (HO.out.alloc _) hgrow
              rw [← rev_pair hlt] at hown'
              have Hown' := hide hown'
              have HB2 := hide (HB.out.trans (hb3.mono (Nat.le_of_lt gG)))
              have HR2 := hide (HR.out.below hb3 gG)
              clear hown' hgrow hb3 HO HB HR g1 g2 hb
              obtain ⟨lb, lof, rfl, hlb, hlcell⟩ := LG.out w2 ((D4.out.mono gC).trans HB2.out) (by rw [cx_len]; omega)
              have g4 := hlcell (ps.length - 1 - i) (by rw [cx_len]; exact hjl)
              have hll : ((cx ps).reverse.take i ++ (cx ps ++ [(mkRe, 4607182418800017408)]).drop i).length = ps.length + 1 := by
                rw [List.length_append, List.length_take, List.length_drop, List.length_reverse, List.length_append, cx_len]; simp; omega
              have q2 := HR2.out.cell (i := i) (by rw [hll]; omega)
              have q3 := HR2.out.frozen i
              have st := HR2.out.set i (cre (cx ps) (ps.length - 1 - i)) (cim (cx ps) (ps.length - 1 - i))
              have stp := rev_step (zs := cx ps) (k := (mkRe, 4607182418800017408)) (i := i) (by rw [cx_len]; exact hlt)
              rw [cx_len] at stp
              rw [stp] at st
              have Hst := hide st
              have HB3 := hide (HB2.out.setCell (p := ⟨g, i, none⟩) (Nat.le_refl _) (.complex .f64 (cre (cx ps) (ps.length - 1 - i)) (cim (cx ps) (ps.length - 1 - i))))
              have HO3 := hide (owns_set Hown'.out (p := ⟨g, i, none⟩) gG (.complex .f64 (cre (cx ps) (ps.length - 1 - i)) (cim (cx ps) (ps.length - 1 - i))))
              have hst := store_cplx (P := Try.prog) (x := cre (cx ps) (ps.length - 1 - i)) (y := cim (cx ps) (ps.length - 1 - i)) q2 q3
              clear hlcell st stp q2 q3 hll HB2 HR2 Hown'
              go_wp2
              go_roundw
              case rel => exact ⟨i + 1, by omega, rfl, HO3, Hst, HB3⟩
              case measure => simp [intOf]; omega
            · obtain rfl : i = ps.length := by omega
              have hown := HO.out
              rw [List.take_of_length_le (by rw [List.length_reverse]; exact Nat.le_refl _)] at hown
              obtain ⟨ko, kc, hlist, _, _, hcc⟩ := preads_of_owns hown
              rw [List.length_reverse] at hlist
              subst hlist
              have hrow := HR.out
              rw [List.take_of_length_le (by rw [List.length_reverse, cx_len]; exact Nat.le_refl _), ← cx_rev] at hrow
              have Rc := hide hrow.cells
              have Kc := hide hcc
              have Kok := hide (pok_rev hok)
              have B5 := hide (B4.out.trans (HB.out.mono gW))
              clear hown hcc hrow HO HR HB PC B4 D4 R4 LG
              go_wp2_with fail
              with_reducible refine (sums_ok (List.length_reverse ..) pb Rc.out Kc.out Kok.out).mono ?_
              rintro e wH ⟨rfl, b6⟩
              have B6 := hide (below_trans B5.out b6)
              clear B5 b6 Rc Kc
              go_wp2_with fail
              with_reducible refine (lives_ok _).mono ?_
              rintro e wI ⟨rfl, b7⟩
              have B7 := hide (below_trans B6.out b7)
              clear B6 b7
              go_wp2
              go_ret
              exact ⟨rfl, B7.out⟩

end Go.Proofs.Ytkaakhmncmpliaa
