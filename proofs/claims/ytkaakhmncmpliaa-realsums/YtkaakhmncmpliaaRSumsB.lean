/- TwinComplexes, LeftComplexes, sums -/
import Derived.Test.YtkaakhmncmpliaaRSumsA
namespace Go.Proofs.Ytkaakhmncmpliaa
open Go.RowKit
set_option linter.unusedVariables false

theorem Try.infoC : (Try.prog.info? 59).map (fun i => (i.zero, i.size, i.bytes)) = some (some (.complex .f64 0 0), 1, 16) := by kernel_rfl
theorem made_cplx (n : Nat) : (madeCells #[Value.complex .f64 0 0] n) = (cvals (List.replicate n (0, 0))).toArray := by
  apply Array.ext'
  rw [toList_madeCells_one]
  simp [cvals]
theorem wpList_make_cplx {P : Program} (w : World) {ops : Array Oper} {rest : List Oper} {o : Oper} {a : Act} {Q : Exit → Act → World → Prop}
    (hg : o.guard = none) (l c : Operand) (t : TypeId) (hop : o.op = Op.makeSlice t l c)
    (bytes : Nat) (h1 : P.underlying t = some (.slice 59)) (h2 : (P.info? 59).map (fun i => (i.zero, i.size, i.bytes)) = some (some (.complex .f64 0 0), 1, bytes))
    (kl kc : IntKind) (L C : Int) (m : Nat) (hl : a.eval l = .int kl L) (hc : a.eval c = .int kc C) (hL : L = (m : Int)) (hC : C = (m : Int)) (b2 : bytes * m ≤ 281474976710656) (b3 : m ≤ maxLen)
    (hK : ∀ w', CRow w' w.heap.size (List.replicate m (0, 0)) → Below w.heap.size w w' → wpList P ops Q rest (a.put o.dst (.slice (some ⟨w.heap.size, 0, none⟩) m m)) w') :
    wpList P ops Q (o :: rest) a w := by
  obtain ⟨i, hi, hz, hs, hb⟩ : ∃ i, P.info? 59 = some i ∧ i.zero = some (.complex .f64 0 0) ∧ i.size = 1 ∧ i.bytes = bytes := by
    cases hq : P.info? 59 with
    | none => rw [hq] at h2; cases h2
    | some i =>
      rw [hq] at h2
      simp at h2
      exact ⟨i, rfl, h2.1, h2.2.1, h2.2.2⟩
  refine wpList_plain hg fun K hK' => ?_
  have hb' : (i.bytes : Int) * (m : Int) ≤ 281474976710656 := by
    have h : ((i.bytes * m : Nat) : Int) ≤ 281474976710656 := by rw [hb]; omega
    rwa [Int.natCast_mul] at h
  have h63' : (m : Int) ≤ 9223372036854775807 := by
    have h := b3
    simp [maxLen] at h
    omega
  have hr := run_make (P := P) w t 59 i (.complex .f64 0 0) h1 hi hz kl kc (m : Int) (m : Int) (by omega) (by omega) hb' h63'
  simp only [Int.toNat_natCast, hs, Nat.mul_one] at hr
  subst hL
  subst hC
  unfold Oper.wp
  simp [execOp, hop, hl, hc, hr, Result.andThen]
  refine hK' _ _ (hK _ ?_ ((Below.refl _ _).alloc (Nat.le_refl _) _))
  unfold CRow
  rw [heap_alloc_new, show (Value.complex .f64 0 0).cells = #[Value.complex .f64 0 0] from rfl, made_cplx]

theorem set_step {zs : List (Nat × Nat)} {i m : Nat} {z : Nat × Nat} (h : i < zs.length) : (zs.take i ++ List.replicate (m + 1) z).set i (cre zs i, cim zs i) = zs.take (i + 1) ++ List.replicate m z := by
  have hl : (zs.take i).length = i := by rw [List.length_take]; omega
  rw [List.set_append_right _ _ (by omega), hl, Nat.sub_self, List.replicate_succ, List.set_cons_zero, take_snoc h, List.append_assoc]
  rfl
theorem store_cplx {P : Program} {w : World} {a : Addr} {x y : Nat} {u : Value} (hc : w.cell? a = some u) (hf : w.frozen? a = false) : (store a (.complex .f64 x y)).run P w = .ok () (w.setCell a (.complex .f64 x y)) := by
  rw [run_store _ _ _ _ _ rfl, hc, hf]
  rfl
set_option maxHeartbeats 2000000 in
theorem twin_ok {w : World} {ao : Option Addr} {zs : List (Nat × Nat)} {n cap : Nat} (hn : zs.length = n) (hm : n ≤ 1048576) (ha : CCells w ao zs) :
    Calls Try.prog 36 #[.slice ao n cap] w fun e w' => e = .returned (.slice (some ⟨w.heap.size, 0, none⟩) n (n + 1)) ∧ CRow w' w.heap.size (zs ++ [(mkRe, 4607182418800017408)]) ∧ Below w.heap.size w w' := by
  go_enter Try.func36, Try.ntmps36
  go_wp2_with (refine wpList_make_cplx _ rfl _ _ 68 rfl 16 Try.underlying68 Try.infoC .i64 .i64 _ _ (n + 1) rfl rfl (by omega) (by omega) (by omega) (by unfold maxLen; omega) ?_)
  intro w1 hrow hb1
  have Hrow := hide hrow
  have Hb1 := hide hb1
  clear hrow hb1
  go_wp2
  go_loopw [4] (fun si wr => ∃ i : Nat, i ≤ n ∧ si = .int .i64 i ∧ Hid (CRow wr w.heap.size (zs.take i ++ List.replicate (n + 1 - i) (0, 0))) ∧ Hid (Below w.heap.size w wr)) (fun si _ => n - (intOf si).toNat)
  case atStart => exact ⟨0, by omega, rfl, by simpa using Hrow, Hb1⟩
  case round =>
    obtain ⟨i, hi, rfl, HR, HB⟩ := hrel
    have hll : (zs.take i ++ List.replicate (n + 1 - i) ((0 : Nat), (0 : Nat))).length = n + 1 := by
      rw [List.length_append, List.length_take, List.length_replicate]; omega
    by_cases lt : i < n
    · obtain ⟨b, off, rfl, hb, hcell⟩ := (ha.below HB.out) (by omega)
      have g1 := hcell i (by omega)
      have g2 := HR.out.cell (i := i) (by rw [hll]; omega)
      have g3 := HR.out.frozen i
      have st := HR.out.set i (cre zs i) (cim zs i)
      rw [show n + 1 - i = (n - i) + 1 by omega, set_step (by omega)] at st
      have Hst := hide st
      have HB2 := hide (HB.out.setCell (p := ⟨w.heap.size, i, none⟩) (Nat.le_refl _) (.complex .f64 (cre zs i) (cim zs i)))
      clear hcell st
      have hst := store_cplx (P := Try.prog) (x := cre zs i) (y := cim zs i) g2 g3
      clear g2 g3
      go_wp2
      go_roundw
      case rel => exact ⟨i + 1, by omega, rfl, by rw [show n + 1 - (i + 1) = n - i by omega]; exact Hst, HB2⟩
      case measure => simp [intOf]; omega
    · obtain rfl : i = n := by omega
      have hr : zs.take i ++ List.replicate (i + 1 - i) ((0 : Nat), (0 : Nat)) = zs ++ [(0, 0)] := by
        rw [List.take_of_length_le (by omega), show i + 1 - i = 1 by omega]
        rfl
      rw [hr] at HR
      have g2 := HR.out.cell (i := i) (by rw [List.length_append, hn]; simp)
      have g3 := HR.out.frozen i
      have st := HR.out.set i mkRe 4607182418800017408
      rw [List.set_append_right _ _ (by omega), hn, Nat.sub_self, List.set_cons_zero] at st
      have Hst := hide st
      have HB2 := hide (HB.out.setCell (p := ⟨w.heap.size, i, none⟩) (Nat.le_refl _) (.complex .f64 mkRe 4607182418800017408))
      have hst := store_cplx (P := Try.prog) (x := mkRe) (y := 4607182418800017408) g2 g3
      clear g2 g3
      clear st hr hll
      go_wp2_with fail
      with_reducible refine (mark_ok _).mono ?_
      rintro e w5 ⟨rfl, rfl⟩
      go_wp2
      go_ret
      exact ⟨rfl, Hst.out, HB2.out⟩

set_option maxHeartbeats 2000000 in
theorem left_ok {w : World} {bo : Option Addr} {zs : List (Nat × Nat)} {g n cb : Nat} (hn : zs.length = n) (hm : n ≤ 1048576) (ha : CRow w g (zs ++ [(mkRe, 4607182418800017408)])) (hb : CCells w bo zs) (hz : COk zs) :
    Calls Try.prog 38 #[.slice (some ⟨g, 0, none⟩) n (n + 1), .slice bo n cb] w fun e w' => e = .returned (.bool true) ∧ Drew w w' := by
  have HA := hide ha
  have hc := hide (ha.cells)
  have HBc := hide hb
  have HZ := hide hz
  clear ha hb hz
  go_enter Try.func38, Try.ntmps38
  go_wp2_with fail
  with_reducible refine (sameCs_ok hn hm hc.out HBc.out HZ.out).mono ?_
  rintro e w1 ⟨rfl, hD⟩
  have g1 : w1.cell? ⟨g, n, none⟩ = some (.complex .f64 mkRe 4607182418800017408) := by
    rw [hD.cell ⟨g, n, none⟩ HA.out.lt, HA.out.cell (by rw [List.length_append, hn]; simp)]
    unfold cre cim
    rw [List.getD_eq_getElem?_getD, List.getElem?_append_right (by omega), hn, Nat.sub_self]
    rfl
  have HD := hide hD
  clear hD
  go_wp2_with fail
  with_reducible refine (isMark_ok _).mono ?_
  rintro e w2 ⟨rfl, rfl⟩
  go_wp2
  go_ret
  exact ⟨rfl, HD.out⟩

theorem sumD_lt (a b : Nat) : sumD a b < 18446744073709551616 := by
  unfold sumD
  cases h : Ieee.double.add a b with
  | none => decide
  | some r => exact Ieee.double.add_lt h
theorem FS_fit (l : List Nat) {a : Int} (h : 0 ≤ a ∧ a < 18446744073709551616) : 0 ≤ FS l a ∧ FS l a < 18446744073709551616 := by
  induction l generalizing a with
  | nil => exact h
  | cons z l ih => exact ih (one_fit (sumD_lt _ _))
theorem FS_snoc (l : List Nat) (z : Nat) (a : Int) : FS (l ++ [z]) a = oneD (sumD (FS l a).toNat z) := by rw [FS_append]; rfl
def reOf (ps : List (Int × Int)) (i : Nat) : Int := FS (((cx ps).take i).map Prod.fst) 0
def imOf (ps : List (Int × Int)) (i : Nat) : Int := FS (((cx ps).take i).map Prod.snd) 0
theorem reOf_step {ps : List (Int × Int)} {i : Nat} (h : i < ps.length) : reOf ps (i + 1) = oneD (sumD (reOf ps i).toNat (pre ps i).toNat) ∧ imOf ps (i + 1) = oneD (sumD (imOf ps i).toNat (pim ps i).toNat) := by
  have h' : i < (cx ps).length := by rw [cx_len]; exact h
  obtain ⟨c1, c2⟩ := cre_cx (ps := ps) i
  unfold reOf imOf
  rw [take_snoc h', c1, c2, List.map_append, List.map_append]
  exact ⟨FS_snoc _ _ _, FS_snoc _ _ _⟩
set_option maxRecDepth 100000 in
set_option maxHeartbeats 4000000 in
theorem sums_ok {w : World} {xo lo : Option Addr} {ps : List (Int × Int)} {n cx' cl : Nat} (hn : ps.length = n) (hm : n ≤ 1048576) (hx : CCells w xo (cx ps)) (hl : PCells w lo ps) (hok : POk ps) :
    Calls Try.prog 37 #[.slice xo n cx', .slice lo n cl] w fun e w' => e = .returned (.bool true) ∧ Below w.heap.size w w' := by
  have HX := hide hx
  have HL := hide hl
  have HO := hide hok
  clear hx hl hok
  go_enter Try.func37, Try.ntmps37
  go_wp2
  go_loopw [5, 6, 7] (fun sr sm si wr => ∃ i : Nat, i ≤ n ∧ si = .int .i64 i ∧ sr = .int .u64 (reOf ps i) ∧ sm = .int .u64 (imOf ps i) ∧ Hid (Below w.heap.size w wr)) (fun _ _ si _ => n - (intOf si).toNat)
  case atStart => exact ⟨0, by omega, rfl, rfl, rfl, hide (Below.refl _ _)⟩
  case round =>
    obtain ⟨i, hi, rfl, rfl, rfl, HB⟩ := hrel
    have f1 : 0 ≤ reOf ps i ∧ reOf ps i < 18446744073709551616 := FS_fit _ (by decide)
    have f2 : 0 ≤ imOf ps i ∧ imOf ps i < 18446744073709551616 := FS_fit _ (by decide)
    by_cases lt : i < n
    · obtain ⟨b, off, rfl, hb, hcell⟩ := (HL.out.below HB.out) (by omega)
      obtain ⟨g1, g2⟩ := hcell i (by omega)
      obtain ⟨⟨p0, p1⟩, ⟨q0, q1⟩⟩ := HO.out i
      obtain ⟨s1, s2⟩ := reOf_step (ps := ps) (i := i) (by omega)
      have S1 := hide s1
      have S2 := hide s2
      generalize reOf ps i = r at *
      generalize imOf ps i = m at *
      generalize pre ps i = a at *
      generalize pim ps i = c at *
      clear hcell s1 s2
      go_wp2_with fail
      with_reducible refine (sum_any _ r a f1.1 f1.2 p0 p1).mono ?_
      rintro e w1 ⟨rfl, b1⟩
      rw [← S1.out]
      have g2' := (b1.cell (p := ⟨b, off + i * 2 + 1, none⟩) hb).trans g2
      have HB1 := hide (HB.out.trans (b1.mono HB.out.size))
      clear g1 g2 HB b1
      go_wp2_with fail
      with_reducible refine (sum_any _ m c f2.1 f2.2 q0 q1).mono ?_
      rintro e w2 ⟨rfl, b2⟩
      rw [← S2.out]
      have HB2 := hide (HB1.out.trans (b2.mono HB1.out.size))
      clear g2' HB1 b2 S1 S2
      go_wp2
      go_roundw
      case rel => exact ⟨i + 1, by omega, rfl, rfl, rfl, HB2⟩
      case measure => simp [intOf]; omega
    · obtain rfl : i = n := by omega
      have HXl := hide (show (cx ps).length = i by rw [cx_len]; exact hn)
      have HX1 := hide (HX.out.below HB.out)
      have ends : ∀ (x y : Nat), SumIs (cx ps) 0 0 x y → oneD x = reOf ps i ∧ oneD y = imOf ps i := by
        intro x y h
        obtain ⟨a, b⟩ := sum_fs h
        unfold reOf imOf
        rw [List.take_of_length_le (by rw [HXl.out]; exact Nat.le_refl _)]
        exact ⟨a, b⟩
      have HE := hide ends
      clear ends
      generalize reOf ps i = r at *
      generalize imOf ps i = m at *
      go_wp2_with fail
      with_reducible refine (plus_n HX1.out HXl.out (by unfold maxLen; omega)).mono ?_
      rintro e w1 ⟨x, y, rfl, hS, hD⟩
      obtain ⟨e1, e2⟩ := HE.out _ _ hS
      have HB2 := hide (HB.out.trans (hD.below _))
      clear hS hD HB
      go_wp2_with fail
      with_reducible refine (is_yes _ e1 e2).mono ?_
      rintro e w2 ⟨rfl, rfl⟩
      go_wp2
      go_ret
      exact ⟨rfl, HB2.out⟩

end Go.Proofs.Ytkaakhmncmpliaa
