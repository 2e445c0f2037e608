/- UtfUnits: the walk -/
import Derived.Test.YtddamkdkaijfjaaGreatDoorUOwM
namespace Go.Proofs.YtddamkdkaijfjaaGreatDoor
open Go.RowKit
set_option linter.unusedVariables false

theorem rn3_b : uByt [240, 159, 152, 128, 98] := by unfold uByt; decide
theorem rn3_s : USplit [240, 159, 152, 128, 98] [128512, 98] [] := ⟨by unfold uPts; decide, by decide, by decide⟩
theorem range_set {xs : List Int} (h : ∀ x ∈ xs, 0 ≤ x ∧ x ≤ 65535) {k : Nat} {v : Int} (hv : 0 ≤ v ∧ v ≤ 65535) : ∀ x ∈ xs.set k v, 0 ≤ x ∧ x ≤ 65535 := by
  intro x hx
  rcases List.mem_or_eq_of_mem_set hx with h1 | h1
  · exact h x h1
  · rw [h1]; exact hv
theorem range_lb {xs : List Int} (h : ∀ x ∈ xs, 0 ≤ x ∧ x ≤ 65535) (i : Nat) : 0 ≤ Nt.lb xs i ∧ Nt.lb xs i ≤ 65535 := by
  rcases Nat.lt_or_ge i xs.length with g | g
  · have := h _ (List.getElem_mem g)
    simpa [Nt.lb, g] using this
  · rw [Nt.lb_out g]; omega
set_option maxRecDepth 100000 in
set_option maxHeartbeats 8000000 in
theorem uunits_walk {w : World} {s : ByteArray} {v1 : Value} {xs : List Int} (h1 : s.size ≤ 1048576) (r1 : Reads .u16 w v1 xs) (m1 : ∀ x ∈ xs, 0 ≤ x ∧ x ≤ 65535) (l1 : xs.length ≤ 1048576) :
    Calls Tryz.prog 4 #[.string s, v1] w fun e w' => e = .returned (.bool true) ∧ Below w.heap.size w w' := by
  obtain ⟨es, hb, hle, hs⟩ := utxt_of s
  have hse : es.length ≤ 1048576 := by omega
  obtain ⟨ps, t, hS⟩ := USplit.exists es.length (Nat.le_refl _) hb
  have hpl : ps.length ≤ 1048576 := by
    have e := congrArg List.length hS.eq
    rw [List.length_append] at e
    have := uFlat_len ps
    omega
  have CW := hide (runits_rd (w := w) hb hs (by omega) hS)
  have CR := hide (fun w => units_lie (w := w) hb hs (by omega) hS)
  have CC := hide (fun w => units_lie (w := w) (s := ⟨#[240, 159, 152, 128, 98]⟩) rn3_b (by kernel_rfl) (by decide) rn3_s)
  rw [List.isEmpty_nil] at CC
  obtain ⟨P, hP⟩ : ∃ P, (if t.isEmpty then ps.flatMap uU else []) = P := ⟨_, rfl⟩
  have hPl : P.length ≤ 2097152 := by
    rw [← hP]
    split
    · have := uCodes_len ps
      rw [uCodes_pts hS.pts] at this
      omega
    · simp
  obtain ⟨b, hb'⟩ : ∃ b, t.isEmpty = b := ⟨_, rfl⟩
  rw [hP, hb'] at CW CR
  have R1 := hide r1
  have M1 := hide m1
  have HPl := hide hPl
  obtain ⟨ao, ca, rfl, -, -, -⟩ := r1
  clear hb hle hs hse hS hpl hP hPl hb' m1 h1
  go_enter Tryz.func4, Tryz.ntmps4
  go_wp2_with fail
  refine CW.out.mono ?_
  rintro e w1 ⟨vw, rfl, rw1, k1⟩
  have RW := hide rw1
  have K1 := hide k1
  clear rw1 k1 CW
  go_wp2_with fail
  refine (CR.out w1).mono ?_
  rintro e w2 ⟨va, ca2, rfl, la, ba, k2⟩
  have M2 := hide ((Mem.nil w.heap.size w1).add k2 K1.out.size la (by have := HPl.out; omega) ba)
  have LA := hide la
  have K2 := hide (K1.out.trans (k2.mono K1.out.size))
  replace RW := hide (RW.out.below k2)
  clear la ba k2 K1
  go_wp2_with fail
  refine (CR.out w2).mono ?_
  rintro e w3 ⟨vb, cb2, rfl, lb2, bb, k3⟩
  have M3 := hide (M2.out.add k3 K2.out.size lb2 (by have := HPl.out; omega) bb)
  have LB := hide lb2
  have K3 := hide (K2.out.trans (k3.mono K2.out.size))
  replace RW := hide (RW.out.below k3)
  replace LA := hide (LA.out.below k3)
  clear lb2 bb k3 K2 M2 CR
  go_wp2_with fail
  refine (CC.out w3).mono ?_
  rintro e w4 ⟨vc, cc2, rfl, lc, bc, k4⟩
  rw [if_pos trivial] at lc
  replace lc : Lies w4 vc [55357, 56832, 98] cc2 := lc
  have M4 := hide (M3.out.add k4 K3.out.size lc (by decide) bc)
  have LC := hide lc
  have K4 := hide (K3.out.trans (k4.mono K3.out.size))
  replace RW := hide (RW.out.below k4)
  replace LA := hide (LA.out.below k4)
  replace LB := hide (LB.out.below k4)
  clear lc bc k4 K3 M3 CC
  have S1 := hide (same_units LA.out.reads RW.out)
  rw [decide_eq_true rfl] at S1
  obtain ⟨aoa, La, caa, eva⟩ := LA.out.shape
  obtain ⟨aob, Lb, cab, evb⟩ := LB.out.shape
  obtain ⟨aoc, Lc, cac, evc⟩ := LC.out.shape
  subst eva evb evc
  go_wp2_with fail
  refine S1.out.mono ?_
  rintro e w5 ⟨rfl, k5⟩
  have K5 := hide (K4.out.trans (k5.mono K4.out.size))
  have M5 := hide (M4.out.below k5)
  replace RW := hide (RW.out.below k5)
  replace LA := hide (LA.out.below k5)
  replace LB := hide (LB.out.below k5)
  replace LC := hide (LC.out.below k5)
  clear k5 S1 K4 M4
  have S2 := hide (same_units LB.out.reads RW.out)
  rw [decide_eq_true rfl] at S2
  go_wp2_with fail
  refine S2.out.mono ?_
  rintro e w6 ⟨rfl, k6⟩
  have K6 := hide (K5.out.trans (k6.mono K5.out.size))
  have M6 := hide (M5.out.below k6)
  replace LA := hide (LA.out.below k6)
  replace LB := hide (LB.out.below k6)
  replace LC := hide (LC.out.below k6)
  clear k6 S2 K5 M5 RW
  have kb : Below w6.heap.size w6 (w6.alloc (.cells #[.int .u16 55357, .int .u16 56832, .int .u16 98] 52)) := (Below.refl _ _).alloc (Nat.le_refl _) _
  have S3 := hide (same_units (LC.out.below kb).reads (built_reads (w := w6) (k := .u16) (E := 52) (zs := [55357, 56832, 98]) (by decide)))
  rw [decide_eq_true rfl] at S3
  have KB := hide kb
  clear kb
  go_wp2_with fail
  refine S3.out.mono ?_
  rintro e w7 ⟨rfl, k7⟩
  have k67 : Below w6.heap.size w6 w7 := KB.out.trans (k7.mono KB.out.size)
  have K7 := hide (K6.out.trans (k67.mono K6.out.size))
  have M7 := hide (M6.out.below k67)
  replace LA := hide (LA.out.below k67)
  replace LB := hide (LB.out.below k67)
  replace LC := hide (LC.out.below k67)
  clear k7 k67 S3 K6 M6 KB
  have R7 := hide (R1.out.below K7.out)
  have C8 := hide (twin_any R7.out (by omega))
  go_wp2_with fail
  refine C8.out.mono ?_
  rintro e w8 ⟨vt, rfl, ht8, k8⟩
  obtain ⟨g, evt, hg8, hgm, hrow⟩ := ht8
  subst evt
  have HTW := hide (show Twin w7.heap.size w8 (.slice (some ⟨g, 0, none⟩) xs.length (xs.length + 1)) xs from ⟨g, rfl, hg8, hgm, hrow⟩)
  have HG8 := hide hg8
  have K8 := hide (K7.out.trans (k8.mono K7.out.size))
  have M8 := hide (M7.out.below k8)
  have R8 := hide (R7.out.below k8)
  have Z7 := hide K7.out.size
  clear k8 hg8 hgm hrow C8 K7 R7 LA LB LC
  obtain ⟨qs, t2, hJ⟩ := UJoin.exists xs.length (Nat.le_refl _) M1.out
  have HJ := hide hJ
  clear hJ
  have C9 := hide (rfromunits_any R8.out M1.out (by omega) HJ.out)
  obtain ⟨tx, htx⟩ : ∃ tx, strOfNums (if t2.isEmpty then uFlat qs else []) = tx := ⟨_, rfl⟩
  obtain ⟨bx, hbx⟩ : ∃ bx, t2.isEmpty = bx := ⟨_, rfl⟩
  have HTX := hide htx
  have HBX := hide hbx
  rw [htx, hbx] at C9
  clear htx hbx
  go_wp2_with fail
  refine C9.out.mono ?_
  rintro e w9 ⟨rfl, k9⟩
  have K9 := hide (K8.out.trans (k9.mono K8.out.size))
  have M9 := hide (M8.out.below k9)
  replace HTW := hide (HTW.out.below k9)
  have R9 := hide (R8.out.below k9)
  clear k9 C9 K8 M8 R8
  have C10 := hide (fromunits_any HTW.out.reads M1.out (by omega) HJ.out)
  rw [HTX.out, HBX.out] at C10
  go_wp2_with fail
  refine C10.out.mono ?_
  rintro e w10 ⟨rfl, k10⟩
  have K10 := hide (K9.out.trans (k10.mono K9.out.size))
  have M10 := hide (M9.out.below k10)
  replace HTW := hide (HTW.out.below k10)
  have R10 := hide (R9.out.below k10)
  clear k10 C10 K9 M9 R9 HTX HBX
  have C11 := hide (left_any HTW.out R10.out)
  go_wp2_with fail
  refine C11.out.mono ?_
  rintro e w11 ⟨rfl, k11⟩
  have K11 := hide (K10.out.trans (k11.mono K10.out.size))
  have M11 := hide (M10.out.below k11)
  replace HTW := hide (HTW.out.below k11)
  clear k11 C11 K10 M10 R10
  obtain ⟨n, hn⟩ : ∃ n, xs.length = n := ⟨_, rfl⟩
  obtain ⟨g', e', hg', hm', hrow⟩ := HTW.out
  injection e' with e'
  injection e' with e'
  injection e' with e'
  subst e'
  have HROW := hide hrow
  have HN := hide hn
  rw [hn] at l1 ⊢
  have n2 : (n : Int).tdiv 2 = ((n / 2 : Nat) : Int) := by rw [Int.tdiv_eq_ediv_of_nonneg (by omega)]; omega
  have HML : Hid (∀ vv ∈ [Value.slice aoa La caa, Value.slice aob Lb cab, Value.slice aoc Lc cac], ∀ k, blk vv = some k → k < w7.heap.size) := hide (fun vv hvv k hk => by
    obtain ⟨ys, c, h1, _⟩ := M7.out.each vv hvv
    exact h1.lt hk)
  have HGB : Hid (w.heap.size ≤ g) := hide (by have := Z7.out; have := HG8.out; omega)
  have MM := hide (show ∀ vv ∈ [Value.slice aoa La caa, Value.slice aob Lb cab, Value.slice aoc Lc cac], ∃ ys c, Lies w11 vv ys c ∧ ys.length ≤ 4000000 from M11.out.each)
  clear hrow hg' hm' HTW
  go_wp2
  go_loopw [18, 19] (fun p _ wr => ∃ (i : Nat) (zs : List Int), p = .int .i64 i ∧ i ≤ n / 2 ∧ zs.length = n ∧ Hid (∀ x ∈ zs, 0 ≤ x ∧ x ≤ 65535) ∧ Hid (Row .u16 52 wr g (zs ++ [56893])) ∧ Hid (Below w.heap.size w wr) ∧ Hid (w11.grownBy wr (some g))) (fun p _ _ => n - (intOf p).toNat)
  case atStart => exact ⟨0, xs, rfl, by omega, HN.out, M1, HROW, K11, hide (grown_refl _ _)⟩
  case round =>
    clear HROW
    obtain ⟨i, zs, rfl, hi, hzl, hzr, hrw, hbw, hgw⟩ := hrel
    by_cases hin : i < n / 2
    · have q1 : (i : Int) < ((n / 2 : Nat) : Int) := by omega
      have q2 : (n : Int) - 1 - (i : Int) = ((n - 1 - i : Nat) : Int) := by omega
      obtain ⟨k, hk⟩ : ∃ k, n - 1 - i = k := ⟨_, rfl⟩
      rw [hk] at q2
      have q3 : (k : Int) < (n : Int) := by omega
      have q4 : (i : Int) < (n : Int) := by omega
      have q5 : ¬ (i = k) := by omega
      have q6 : ¬ (k = i) := by omega
      have ci := hrw.out.cell (i := i) (by simp; omega)
      have ck := hrw.out.cell (i := k) (by simp; omega)
      have zi := hrw.out.frozen i
      have zk := hrw.out.frozen k
      rw [lb_append_left (by omega)] at ci ck
      have hvi := range_lb hzr.out i
      have hvk := range_lb hzr.out k
      obtain ⟨a, ha⟩ : ∃ a, Nt.lb zs i = a := ⟨_, rfl⟩
      obtain ⟨c, hc⟩ : ∃ c, Nt.lb zs k = c := ⟨_, rfl⟩
      rw [ha] at ci hvi
      rw [hc] at ck hvk
      have HI := hide hvi
      have HK := hide hvk
      have HZL := hide hzl
      clear ha hc hvi hvk hk hzl
      go_wp2
      go_region
      all_goals go_wp2
      refine ⟨⟨i + 1, (zs.set i c).set k a, by simp, by omega, by rw [List.length_set, List.length_set]; exact HZL.out, hide (range_set (range_set hzr.out HK.out) HI.out), hide ?_, hide ?_, hide ?_⟩, ?_⟩
      · have h2 := (hrw.out.set i c).set k a
        rw [List.set_append_left _ _ (by have := HZL.out; omega), List.set_append_left _ _ (by have := HZL.out; rw [List.length_set]; omega)] at h2
        exact h2
      · exact ((hbw.out.setCell (p := ⟨g, i, none⟩) HGB.out _).setCell (p := ⟨g, k, none⟩) HGB.out _).drew
      · exact grown_drew (grown_trans (grown_trans hgw.out (grown_set wr g i _)) (grown_set _ g k _))
      · simp [intOf]; omega
    · have q1 : ¬ ((i : Int) < ((n / 2 : Nat) : Int)) := by omega
      have HZL := hide hzl
      have hrd : Reads .u16 wr (.slice (some ⟨g, 0, none⟩) n (n + 1)) zs := by
        refine ⟨_, n + 1, by rw [hzl], by omega, by unfold maxLen; omega, fun _ => ⟨g, 0, rfl, hrw.out.lt, fun i hi => ?_⟩⟩
        rw [Nat.zero_add, hrw.out.cell (by simp; omega), lb_append_left (by omega)]
      have RT := hide hrd
      have OW : Hid ((wr.alloc (.cells #[] 52)).ownsRow wr.heap.size 52 1 (.slice (some ⟨wr.heap.size, 0, none⟩) 0 0) 0 (([] : List Int).map (Value.int .u16))) := hide (World.ownsRow_made wr _ 0 (Nat.le_refl _) (by unfold maxLen; omega) (by simp))
      have kA : Below wr.heap.size wr (wr.alloc (.cells #[] 52)) := (Below.refl _ _).alloc (Nat.le_refl _) _
      have CE : Hid (Cells .u16 (wr.alloc (.cells #[] 52)) (some ⟨g, 0, none⟩) zs) := hide (by
        obtain ⟨ao', cap', e', _, _, hc'⟩ := hrd.below kA
        cases e'
        exact hc')
      have KA := hide kA
      have HGW := hgw
      clear hrd kA hzl hi hin
      go_wp2_with (at_builtin; refine wpList_append_cells _ rfl _ _ 48 rfl wr.heap.size 52 .u16 2 Tryz.underlying48 Tryz.infoXUnit _ 0 [] rfl OW.out (some ⟨g, 0, none⟩) (n + 1) zs (by rw [HZL.out]; rfl) CE.out (by have := HZL.out; unfold maxLen; omega) (by have := HZL.out; omega) (by simp) ?_)
      intro v12 w12 own12 gr12
      have k12 : Below wr.heap.size wr w12 := grown_below KA.out KA.out.size gr12 (fun k e => by cases e; exact Nat.le_refl _)
      have R12 := hide (reads_of_owns (zs := zs) (by simpa using own12))
      have MR : Mem w.heap.size wr [Value.slice aoa La caa, Value.slice aob Lb cab, Value.slice aoc Lc cac] := ⟨fun vv hvv => by
        obtain ⟨ys, c, h1, h2⟩ := MM.out vv hvv
        exact ⟨ys, c, h1.grown HGW.out (fun k hk e => by have := HML.out vv hvv k hk; have := HG8.out; injection e with e; omega), h2⟩, M11.out.far, M11.out.above⟩
      have LT : Lies wr (.slice (some ⟨g, 0, none⟩) n (n + 1)) zs (n + 1) := ⟨_, by rw [HZL.out], by have := HZL.out; omega, by unfold maxLen; omega, fun _ => ⟨g, [.int .u16 56893], rfl, by have h3 := hrw.out; unfold RowV; unfold Row at h3; simpa using h3, by have := HZL.out; simp; omega⟩⟩
      have M4 : Mem w.heap.size wr [Value.slice aoa La caa, Value.slice aob Lb cab, Value.slice aoc Lc cac, Value.slice (some ⟨g, 0, none⟩) n (n + 1)] := MR.snoc LT (by have := HZL.out; omega) (fun k hk => by cases hk; exact HGB.out) (fun u hu k hk hk2 => by
        have h1 := HML.out u hu k hk
        have h2 : k = g := by cases hk2; rfl
        have := HG8.out
        omega)
      have MQ := hide (M4.below k12)
      have KW := hide (hbw.out.trans (k12.mono hbw.out.size))
      replace RT := hide (RT.out.below k12)
      clear own12 gr12 k12 MR LT M4 OW CE KA hrw hbw hgw HGW
      obtain ⟨qz, t3, hJ3⟩ := UJoin.exists zs.length (Nat.le_refl _) hzr.out
      have HJ3 := hide hJ3
      clear hJ3
      have C13 := hide (rfromunits_any R12.out hzr.out (by have := HZL.out; omega) HJ3.out)
      obtain ⟨ty, hty⟩ : ∃ tx, strOfNums (if t3.isEmpty then uFlat qz else []) = tx := ⟨_, rfl⟩
      obtain ⟨by', hby⟩ : ∃ bx, t3.isEmpty = bx := ⟨_, rfl⟩
      have HTY := hide hty
      have HBY := hide hby
      rw [hty, hby] at C13
      clear hty hby
      go_wp2_with fail
      refine C13.out.mono ?_
      rintro e w13 ⟨rfl, k13⟩
      replace MQ := hide (MQ.out.below k13)
      replace KW := hide (KW.out.trans (k13.mono KW.out.size))
      replace RT := hide (RT.out.below k13)
      clear k13 C13 R12
      have C14 := hide (fromunits_any RT.out hzr.out (by have := HZL.out; omega) HJ3.out)
      rw [HTY.out, HBY.out] at C14
      go_wp2_with fail
      refine C14.out.mono ?_
      rintro e w14 ⟨rfl, k14⟩
      replace MQ := hide (MQ.out.below k14)
      replace KW := hide (KW.out.trans (k14.mono KW.out.size))
      clear k14 C14 RT HTY HBY
      go_wp2_with fail
      obtain ⟨W, hW⟩ : ∃ W, w14.alloc (.cells (bookCells 0 (.slice none 0 0)) 44) = W := ⟨_, rfl⟩
      have kW : Below w14.heap.size w14 W := by rw [← hW]; exact (Below.refl _ _).alloc (Nat.le_refl _) _
      have hKp : Kept w.heap.size W w14.heap.size (.slice none 0 0) (nilled []) := ⟨KW.out.size, by rw [← hW]; exact heap_alloc_new w14 _, by simpa [nilled, ents] using World.ownsRow_nil _ _ _ _⟩
      replace MQ := hide (MQ.out.below kW)
      replace KW := hide (KW.out.trans (kW.mono KW.out.size))
      have B1 := hide (keep_mem (v := .slice aoa La caa) hKp KW.out.size (by simp) MQ.out ⟨_, _, _, rfl⟩)
      have hW2 : w14.alloc (.cells #[.int .i64 0, .slice none 0 0, .slice none 0 0, .slice none 0 0, .slice none 0 0, .slice none 0 0, .slice none 0 0, .slice none 0 0, .slice none 0 0, .slice none 0 0, .slice none 0 0, .slice none 0 0, .slice none 0 0, .slice none 0 0, .slice none 0 0] 44) = W := hW
      rw [hW2]
      clear hKp kW hW hW2
      refine B1.out.mono ?_
      rintro e w15 ⟨rfl, ⟨lv1, hk1⟩, m1', k15⟩
      have KP1 := hide hk1
      replace MQ := hide m1'
      replace KW := hide (KW.out.trans k15)
      clear hk1 m1' k15 B1
      have B2 := hide (keep_mem (v := .slice aob Lb cab) KP1.out KW.out.size (by simp) MQ.out ⟨_, _, _, rfl⟩)
      go_wp2_with fail
      refine B2.out.mono ?_
      rintro e w16 ⟨rfl, ⟨lv2, hk1⟩, m1', k15⟩
      have KP2 := hide hk1
      replace MQ := hide m1'
      replace KW := hide (KW.out.trans k15)
      clear hk1 m1' k15 B2 KP1
      have B3 := hide (keep_mem (v := .slice aoc Lc cac) KP2.out KW.out.size (by simp) MQ.out ⟨_, _, _, rfl⟩)
      go_wp2_with fail
      refine B3.out.mono ?_
      rintro e w17 ⟨rfl, ⟨lv3, hk1⟩, m1', k15⟩
      have KP3 := hide hk1
      replace MQ := hide m1'
      replace KW := hide (KW.out.trans k15)
      clear hk1 m1' k15 B3 KP2
      have B4 := hide (keep_mem (v := .slice (some ⟨g, 0, none⟩) n (n + 1)) KP3.out KW.out.size (by simp) MQ.out ⟨_, _, _, rfl⟩)
      go_wp2_with fail
      refine B4.out.mono ?_
      rintro e w18 ⟨rfl, ⟨lv4, hk1⟩, m1', k15⟩
      have KP4 := hide hk1
      replace MQ := hide m1'
      replace KW := hide (KW.out.trans k15)
      clear hk1 m1' k15 B4 KP3
      have B5 := hide (apart_mem (vs := [Value.slice aoa La caa, Value.slice aob Lb cab, Value.slice aoc Lc cac, Value.slice (some ⟨g, 0, none⟩) n (n + 1)]) KP4.out KW.out.size (by simp) MQ.out)
      go_wp2_with fail
      refine B5.out.mono ?_
      rintro e w19 ⟨rfl, k19⟩
      replace KW := hide (KW.out.trans k19)
      clear k19 B5 KP4 MQ
      go_wp2_with fail
      refine ulives_any.mono ?_
      rintro e w20 ⟨rfl, k20⟩
      replace KW := hide (KW.out.trans (k20.mono KW.out.size))
      clear k20
      go_wp2
      go_ret
      exact ⟨rfl, KW.out⟩

end Go.Proofs.YtddamkdkaijfjaaGreatDoor
