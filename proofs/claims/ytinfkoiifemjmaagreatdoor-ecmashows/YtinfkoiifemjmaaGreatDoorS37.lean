/- ErZ, ErP, ErL -/
import Derived.Test.YtinfkoiifemjmaaGreatDoorS08
import Derived.Test.YtinfkoiifemjmaaGreatDoorS35
import Derived.Test.YtinfkoiifemjmaaGreatDoorS06
import Derived.Test.YtinfkoiifemjmaaGreatDoorS36
import Derived.Deep.Cut
namespace Go.Proofs.YtinfkoiifemjmaaGreatDoor
open Go.RowKit
set_option linter.unusedVariables false
set_option linter.unusedSimpArgs false

theorem rep_set (k m : Nat) (h : k < m) (a b : Int) : (List.replicate k a ++ List.replicate (m - k) b).set k a = List.replicate (k + 1) a ++ List.replicate (m - (k + 1)) b := by
  rw [List.set_append_right _ _ (by simp), List.length_replicate, Nat.sub_self]
  obtain ⟨d, hd⟩ : ∃ d, m - k = d + 1 := ⟨m - k - 1, by omega⟩
  rw [hd, List.replicate_succ, List.set_cons_zero, show m - (k + 1) = d by omega, List.replicate_succ']
  simp
theorem Tryz.infoU8e : (Tryz.prog.info? 5).map (fun i => (i.zero, i.size, i.bytes)) = some (some (.int .u8 0), 1, 1) := by kernel_rfl

theorem row_string8 {w : World} {g cap : Nat} {zs : List Int} (hr : Row .u8 5 w g zs) :
    (convert 35 9 (.slice (some ⟨g, 0, none⟩) zs.length cap)).run Tryz.prog w = .ok (.string (strOfNums zs)) w :=
  run_convert_bytes_arg w 35 5 Tryz.underlying35 Tryz.underlying5 g 0 zs.length cap zs rfl (fun i hi => by rw [Nat.zero_add]; exact hr.cell hi) 9 Tryz.underlying9

set_option maxRecDepth 100000 in
set_option maxHeartbeats 4000000 in
theorem zeros8_any {w : World} {m : Nat} (hm : m ≤ 30) :
    Calls Tryz.prog 13 #[.int .i64 m] w fun e w' => e = .returned (.string (strOfNums (List.replicate m 48))) ∧ Below w.heap.size w w' := by
  go_enter Tryz.func13, Tryz.ntmps13
  go_wp2_with (at_make; refine wpList_make_row _ rfl _ _ 35 rfl 5 .u8 1 Tryz.underlying35 Tryz.infoU8e _ _ _ _ m m rfl rfl (by omega) (by omega) (by omega) (by omega) (by unfold maxLen; omega) ?_)
  intro w1 hrow hbel hsw
  go_wp2
  go_loopg [4] m (fun c s wr => ∃ k : Nat, c = m - k ∧ k ≤ m ∧ s = .int .i64 k ∧ Hid (Row .u8 5 wr w.heap.size (List.replicate k 48 ++ List.replicate (m - k) 0)) ∧ Hid (Below w.heap.size w wr))
  case atStart => exact ⟨0, by omega, by omega, rfl, hide (by simpa using hrow), hide hbel⟩
  case round =>
    clear hrow hbel hsw
    obtain ⟨k, hc, hk, rfl, HR, HB⟩ := hrel
    by_cases c : k < m
    · have c1 : (k : Int) < (m : Int) := by omega
      have u1 : IntKind.i64.wrap ((k : Int) + 1) = ((k + 1 : Nat) : Int) := by rw [IntKind.wrap_i64]; omega
      have hcl := HR.out.cell (i := k) (by simp; omega)
      have hfz := HR.out.frozen k
      have HS := hide (show Row .u8 5 _ _ _ from by have := HR.out.set k 48; rwa [rep_set k m c] at this)
      go_wp2
      go_roundg (m - (k + 1))
      case measure => omega
      case rel => exact ⟨k + 1, rfl, by omega, by first | rfl | (simp only [Int.natCast_add]; rfl) | (congr 1), HS, hide (HB.out.setCell (p := ⟨w.heap.size, k, none⟩) (Nat.le_refl _) _)⟩
    · obtain rfl : k = m := by omega
      have c1 : ¬ (k : Int) < (k : Int) := by omega
      have hr := HR.out
      rw [Nat.sub_self, List.replicate_zero, List.append_nil] at hr
      have hcv := row_string8 (cap := k) hr
      rw [List.length_replicate] at hcv
      clear hr HR
      go_wp2
      go_ret
      exact ⟨rfl, HB.out⟩

end Go.Proofs.YtinfkoiifemjmaaGreatDoor

namespace Go.Proofs.YtinfkoiifemjmaaGreatDoor
open Go.RowKit
set_option linter.unusedVariables false
set_option linter.unusedSimpArgs false

theorem dec_snoc {u : Nat} (h : ¬ u < 10) : decL u = decL (u / 10) ++ [48 + ((u % 10 : Nat) : Int)] := by
  unfold decL
  rw [Lib.decDigits, dif_neg h, List.map_append]
  congr 1
  simp
  omega
theorem dec_one {u : Nat} (h : u < 10) : decL u = [48 + (u : Int)] := by
  unfold decL
  rw [Lib.decDigits, dif_pos h]
  simp
  omega
theorem decL_dstr (u : Nat) : Dstr (u : Int) (decL u) := by
  induction u using Nat.strongRecOn with
  | ind u ih =>
    by_cases h : u < 10
    · rw [dec_one h]
      refine ⟨fun x hx => by simp at hx; omega, by simp, ?_, by rw [dgv_one]; omega⟩
      by_cases z : u = 0
      · right; rw [z]; rfl
      · left; simp [Nt.lb]; omega
    · obtain ⟨i1, i2, i3, i4⟩ := ih (u / 10) (by omega)
      rw [dec_snoc h]
      refine ⟨i1.append (fun x hx => by simp at hx; omega), by simp, ?_, by rw [dgv_snoc, i4]; omega⟩
      left
      have e : Nt.lb (decL (u / 10) ++ [48 + ((u % 10 : Nat) : Int)]) 0 = Nt.lb (decL (u / 10)) 0 := by
        cases hd : decL (u / 10) with
        | nil => rw [hd] at i2; simp at i2
        | cons a x => simp [Nt.lb]
      rw [e]
      rcases i3 with i3 | i3
      · exact i3
      · exfalso
        rw [i3, dgv_one] at i4
        omega

set_option maxRecDepth 100000 in
set_option maxHeartbeats 4000000 in
theorem power8_any {w : World} {n : Int} (n0 : -9223372036854775808 ≤ n) (n1 : n ≤ 9223372036854775807) :
    Calls Tryz.prog 14 #[.int .i64 n] w fun e w' => e = .returned (.string (strOfNums (powT n))) ∧ Below w.heap.size w w' := by
  unfold powT
  by_cases hn : n < 1
  · rw [if_pos hn]
    obtain ⟨u, hu⟩ : ∃ u : Nat, 1 - n = (u : Int) := ⟨(1 - n).toNat, by omega⟩
    have hu64 : u < 18446744073709551616 := by omega
    rw [show (1 - n).toNat = u by omega]
    have x1 : ¬ 1 ≤ n := by omega
    have x2 : IntKind.i64.wrap (n + 1) = n + 1 := by rw [IntKind.wrap_i64]; omega
    have x5 : IntKind.u64.wrap (IntKind.u64.wrap (-(n + 1)) + 2) = (u : Int) := by rw [IntKind.wrap_u64, IntKind.wrap_u64]; omega
    have x6 : IntKind.i64.wrap (-(n + 1)) = -(n + 1) := by rw [IntKind.wrap_i64]; omega
    have HD := hide (decL_dstr u)
    have HU := hide hu
    clear hu
    go_enter Tryz.func14, Tryz.ntmps14
    go_wp2_with fail
    with_reducible refine (rfrom_any (u : Int) (by omega) (by omega)).mono ?_
    rintro r w1 ⟨v, rfl, hv, K1⟩
    go_wp2_with fail
    with_reducible refine (rdigits_any hv.arg (by omega)).mono ?_
    rintro r w2 ⟨ds, rfl, hd, K2⟩
    have hds := hd.unique HD.out
    subst hds
    have HK := hide (below_trans K1 K2)
    have hl := decL_len hu64
    obtain ⟨tx, htx⟩ : ∃ t, strOfNums (decL u) = t := ⟨_, rfl⟩
    have hsz : tx.size = (decL u).length := by rw [← htx, strOfNums_size]
    have hj : strOfNums ([101, 45] ++ decL u) = ⟨#[101, 45]⟩ ++ tx := by rw [← htx, ← txt_join]; rfl
    rw [htx]
    have HJ := hide hj
    have y1 : ¬ 9223372036854775807 < 2 + tx.size := by omega
    clear hv K1 K2 hd HD htx hj hsz hl
    go_wp2
    go_ret
    exact ⟨congrArg (fun q => Ending.returned (Value.string q)) HJ.out.symm, HK.out⟩
  · rw [if_neg hn]
    obtain ⟨u, hu⟩ : ∃ u : Nat, n - 1 = (u : Int) := ⟨(n - 1).toNat, by omega⟩
    have hu64 : u < 18446744073709551616 := by omega
    rw [show (n - 1).toNat = u by omega]
    have x1 : 1 ≤ n := by omega
    have x2 : IntKind.i64.wrap (n - 1) = (u : Int) := by rw [IntKind.wrap_i64]; omega
    have x5 : IntKind.u64.wrap (u : Int) = (u : Int) := by rw [IntKind.wrap_u64]; omega
    have HD := hide (decL_dstr u)
    have HU := hide hu
    clear hu
    go_enter Tryz.func14, Tryz.ntmps14
    go_wp2_with fail
    with_reducible refine (rfrom_any (u : Int) (by omega) (by omega)).mono ?_
    rintro r w1 ⟨v, rfl, hv, K1⟩
    go_wp2_with fail
    with_reducible refine (rdigits_any hv.arg (by omega)).mono ?_
    rintro r w2 ⟨ds, rfl, hd, K2⟩
    have hds := hd.unique HD.out
    subst hds
    have HK := hide (below_trans K1 K2)
    have hl := decL_len hu64
    obtain ⟨tx, htx⟩ : ∃ t, strOfNums (decL u) = t := ⟨_, rfl⟩
    have hsz : tx.size = (decL u).length := by rw [← htx, strOfNums_size]
    have hj : strOfNums ([101, 43] ++ decL u) = ⟨#[101, 43]⟩ ++ tx := by rw [← htx, ← txt_join]; rfl
    rw [htx]
    have HJ := hide hj
    have y1 : ¬ 9223372036854775807 < 2 + tx.size := by omega
    clear hv K1 K2 hd HD htx hj hsz hl
    go_wp2
    go_ret
    exact ⟨congrArg (fun q => Ending.returned (Value.string q)) HJ.out.symm, HK.out⟩

end Go.Proofs.YtinfkoiifemjmaaGreatDoor

namespace Go.Proofs.YtinfkoiifemjmaaGreatDoor
open Go.RowKit
set_option linter.unusedVariables false
set_option linter.unusedSimpArgs false

theorem lt_A {es ps : List Int} {n : Int} (h : (es.length : Int) ≤ n) (g : n ≤ 21) : layT es n ps = es ++ List.replicate (n - es.length).toNat 48 := by
  unfold layT; rw [if_pos ⟨h, g⟩]
theorem lt_B {es ps : List Int} {n : Int} (h : ¬ (es.length : Int) ≤ n) (f : 0 < n) (g : n ≤ 21) : layT es n ps = es.take n.toNat ++ [46] ++ es.drop n.toNat := by
  unfold layT; rw [if_neg (fun a => h a.1), if_pos ⟨f, g⟩]
theorem lt_C {es ps : List Int} {n : Int} (h : 0 < es.length) (f : -6 < n) (g : n ≤ 0) : layT es n ps = [48, 46] ++ List.replicate (-n).toNat 48 ++ es := by
  unfold layT; rw [if_neg (by omega), if_neg (by omega), if_pos ⟨f, g⟩]
theorem lt_D {es ps : List Int} {n : Int} (h : es.length = 1) (g : n ≤ -6 ∨ 21 < n) : layT es n ps = [Nt.lb es 0] ++ ps := by
  unfold layT; rw [if_neg (by omega), if_neg (by omega), if_neg (by omega), if_pos h]
theorem lt_E {es ps : List Int} {n : Int} (h : 1 < es.length) (g : n ≤ -6 ∨ 21 < n) : layT es n ps = [Nt.lb es 0] ++ [46] ++ es.drop 1 ++ ps := by
  unfold layT; rw [if_neg (by omega), if_neg (by omega), if_neg (by omega), if_neg (by omega)]

/-- what Layout answers -/
def Lay8 (ng : Bool) (es : List Int) (n : Int) (e : Ending) : Prop :=
  (bareB es = false → e = .returned (.tuple #[.string ⟨#[]⟩, .bool false])) ∧ (bareB es = true → e = .returned (.tuple #[.string (strOfNums (layoutT ng es n)), .bool true]))
theorem lay8_no {ng : Bool} {es : List Int} {n : Int} (h : bareB es = false) : Lay8 ng es n (.returned (.tuple #[.string ⟨#[]⟩, .bool false])) := ⟨fun _ => rfl, fun g => by rw [h] at g; cases g⟩
theorem lay8_yes {ng : Bool} {es : List Int} {n : Int} {t : ByteArray} (h : bareB es = true) (ht : t = strOfNums (layoutT ng es n)) : Lay8 ng es n (.returned (.tuple #[.string t, .bool true])) := ⟨fun g => (by rw [h] at g; cases g), fun _ => by rw [ht]⟩

set_option maxRecDepth 100000 in
set_option maxHeartbeats 8000000 in
theorem rlayout_any {w : World} {ng : Bool} {s : ByteArray} {es : List Int} {n : Int} (n0 : -9223372036854775808 ≤ n) (n1 : n ≤ 9223372036854775807) (hb : Byt es) (hs : s = strOfNums es) (hl : es.length ≤ 70368744177664) :
    Calls Tryz.prog 6 #[.agg #[.bool ng, .string s, .int .i64 n]] w fun e w' => Lay8 ng es n e ∧ Below w.heap.size w w' := by
  have hsz : s.size = es.length := by rw [hs, strOfNums_size]
  have Hix := hide (show ∀ p (h : p < s.size), (((s[p]'h).toNat : Nat) : Int) = Nt.lb es p from fun p h => by subst hs; exact txt_at h hb)
  have HB := hide (show ∀ p, p < es.length → 0 ≤ Nt.lb es p ∧ Nt.lb es p < 256 from fun p h => hb _ (lb_in h))
  have C := cell3_new w (.bool ng) (.string s) (.int .i64 n) 23
  have KA := bel_new w (.cells #[.bool ng, .string s, .int .i64 n] 23)
  obtain ⟨b, hb0⟩ : ∃ b, w.heap.size = b := ⟨_, rfl⟩
  obtain ⟨w1, hw1⟩ : ∃ q, w.alloc (.cells #[.bool ng, .string s, .int .i64 n] 23) = q := ⟨_, rfl⟩
  rw [hw1] at C KA
  rw [hb0] at C
  have HC := hide C
  have HK := hide KA
  have c0 := C.c0
  have c1 := C.c1
  have c2 := C.c2
  have HS := hide hs
  have HW := hide (And.intro hb0 hw1)
  clear C KA hb0 hw1 hs
  go_enter Tryz.func6, Tryz.ntmps6
  go_upto_region 1 with fail
  simp only [HW.out.2]
  simp only [HW.out.1]
  clear HW
  by_cases h0 : es = []
  · subst h0
    have hse : s = ⟨#[]⟩ := HS.out
    subst hse
    go_wp2
    go_ret2
    exact ⟨lay8_no rfl, HK.out⟩
  have hp : 0 < es.length := by cases es with | nil => exact absurd rfl h0 | cons a r => simp
  obtain ⟨L, hL⟩ : ∃ L, es.length = L := ⟨_, rfl⟩
  obtain ⟨R, hR⟩ : ∃ R, bareB es = R := ⟨_, rfl⟩
  have HRR := hide (show R = ((Nt.lb es 0 != 48) && (Nt.lb es (L - 1) != 48) && es.all isD) by rw [← hR, ← hL]; unfold bareB; simp [hp])
  have HR0 := hide hR
  rw [hL] at hsz hl hp
  have HL := hide hL
  have hps0 : 0 < s.size := by omega
  have hps1 : L - 1 < s.size := by omega
  have i0 := Hix.out 0 hps0
  have i1 := Hix.out (L - 1) hps1
  have lz : ((L : Int) == 0) = false := by simp; omega
  obtain ⟨a, ha⟩ : ∃ a, Nt.lb es 0 = a := ⟨_, rfl⟩
  obtain ⟨z, hz⟩ : ∃ z, Nt.lb es (L - 1) = z := ⟨_, rfl⟩
  rw [ha] at i0 HRR
  rw [hz] at i1 HRR
  have HA := hide ha
  have l1 : ((L - 1 : Nat) : Int) = (L : Int) - 1 := by omega
  have l2 : (0 : Int) ≤ (L : Int) - 1 := by omega
  have l3 : (L : Int) - 1 < (L : Int) := by omega
  have l4 : IntKind.i64.wrap ((L : Int) - 1) = (L : Int) - 1 := by rw [IntKind.wrap_i64]; omega
  have l5 : ((L : Int) - 1).toNat = L - 1 := by omega
  clear hb hL hR ha hz h0
  by_cases h1 : a = 48
  · have HF := hide (show R = false by rw [HRR.out, h1]; rfl)
    have e1 : (a == 48) = true := by simp [h1]
    clear h1 HRR i1
    go_wp2
    go_ret2
    exact ⟨lay8_no (by rw [HR0.out, HF.out]), HK.out⟩
  have e1 : (a == 48) = false := beq_eq_false_iff_ne.2 h1
  by_cases h2 : z = 48
  · have HF := hide (show R = false by rw [HRR.out, h2]; simp)
    have e2 : (z == 48) = true := by simp [h2]
    clear h2 HRR h1
    go_wp2
    go_ret2
    exact ⟨lay8_no (by rw [HR0.out, HF.out]), HK.out⟩
  have e2 : (z == 48) = false := beq_eq_false_iff_ne.2 h2
  have HS0 := hide (show R = (es.drop 0).all isD by rw [HRR.out]; simp [h1, h2])
  clear h1 h2 HRR
  go_wp2
  clear i0 i1 e1 e2 l1 l2 l3 l4 l5 hps0 hps1 lz
  go_loopg [6] L (fun c i wr => ∃ k : Nat, k ≤ L ∧ c = L - k ∧ i = .int .i64 k ∧ Hid (R = (es.drop k).all isD) ∧ w1 = wr)
  case atStart => exact ⟨0, by omega, rfl, rfl, HS0, rfl⟩
  case round =>
    obtain ⟨k, hk, hgk, rfl, HR, hw⟩ := hrel
    subst hw
    by_cases hkl : k < L
    · have hps : k < s.size := by omega
      have hx := Hix.out k hps
      have hb9 := HB.out k (by rw [HL.out]; exact hkl)
      have hal := all_drop (es := es) (k := k) (by rw [HL.out]; exact hkl)
      obtain ⟨c, hc⟩ : ∃ c, Nt.lb es k = c := ⟨_, rfl⟩
      rw [hc] at hx hb9 hal
      obtain ⟨x0, x1⟩ := hb9
      have HAL := hide hal
      have q4 : (k : Int) < (L : Int) := by omega
      clear hc hal
      cases hd : isD c with
      | true =>
        have HN := hide (show R = (es.drop (k + 1)).all isD by rw [HR.out, HAL.out, hd, Bool.true_and])
        go_wp2_with fail
        refine (digit8_any x0 x1).mono ?_
        rintro e w2 ⟨rfl, rfl⟩
        rw [hd]
        go_wp2
        go_roundg (L - (k + 1))
        case measure => omega
        case rel => exact ⟨k + 1, by omega, rfl, by simp, HN, rfl⟩
      | false =>
        have HF := hide (show R = false by rw [HR.out, HAL.out, hd, Bool.false_and])
        go_wp2_with fail
        refine (digit8_any x0 x1).mono ?_
        rintro e w2 ⟨rfl, rfl⟩
        rw [hd]
        go_wp2
        go_ret2
        exact ⟨lay8_no (by rw [HR0.out, HF.out]), HK.out⟩
    · have hke : k = L := by omega
      subst hke
      have HF := hide (show R = true by rw [HR.out, List.drop_of_length_le (by rw [HL.out]; exact Nat.le_refl _)]; rfl)
      have HBR := hide (show bareB es = true by rw [HR0.out, HF.out])
      clear HR HF HS0 HR0 HB Hix hkl
      obtain ⟨sg, hsg⟩ : ∃ t, strOfNums (if ng then [45] else []) = t := ⟨_, rfl⟩
      have HSG := hide hsg
      have gl : sg.size ≤ 1 := by rw [← hsg, strOfNums_size]; cases ng <;> simp
      clear hsg
      go_upto_if 41 with fail
      go_cut [7] from 40 (fun s7 wx => s7 = .string sg ∧ w1 = wx)
      case first =>
        have hg := HSG.out
        cases ng
        · have hg2 : sg = ⟨#[]⟩ := hg.symm
          subst hg2
          clear hg
          go_wp2_with fail
          go_meet
          exact ⟨rfl, rfl⟩
        · have hg2 : sg = ⟨#[45]⟩ := hg.symm
          subst hg2
          clear hg
          go_wp2_with fail
          go_meet
          exact ⟨rfl, rfl⟩
      case rest =>
      obtain ⟨rfl, rfl⟩ := hcut
      by_cases q1 : n ≤ 21
      · by_cases q2 : (k : Int) ≤ n
        ·
          obtain ⟨m, hm⟩ : ∃ m : Nat, n - (k : Int) = m := ⟨(n - k).toNat, by omega⟩
          have hm2 : m ≤ 30 := by omega
          have x1 : IntKind.i64.wrap (n - (k : Int)) = (m : Int) := by rw [IntKind.wrap_i64]; omega
          obtain ⟨tz, htz⟩ : ∃ t, strOfNums (List.replicate m 48) = t := ⟨_, rfl⟩
          have gz : tz.size = m := by rw [← htz, strOfNums_size, List.length_replicate]
          have y1 : sg.size + k ≤ 9223372036854775807 := by omega
          have y2 : sg.size + k + m ≤ 9223372036854775807 := by omega
          have HLY := hide (show sg ++ s ++ tz = strOfNums (layoutT ng es n) by
            rw [← HSG.out, HS.out, ← htz, txt_join, txt_join]
            unfold layoutT
            rw [lt_A (by rw [HL.out]; exact q2) q1, HL.out, show (n - (k : Int)).toNat = m by omega, List.append_assoc])
          have HTZ := hide htz
          clear htz hm
          go_upto_region 14 with fail
          have CC : ∀ u : World, Below w1.heap.size w1 u → u.cell? ⟨b, 1, none⟩ = some (.string s) ∧ True := fun u hu => ⟨(HC.out.below hu).c1, trivial⟩
          have K : Below w1.heap.size w1 w1.drew := (Below.refl _ _).drew
          have HC0 := CC _ K
          refine wpHl.region0 (C := fun u => u.cell? ⟨b, 1, none⟩ = some (.string s) ∧ True) (by kernel_rfl) (by kernel_rfl) (fun HS => ?_)
          refine wpHl.tk0 (i := 0) (d := some 50) (v := .string sg) rfl HS (by as_aux_lemma => kernel_rfl) rfl (fun _ _ _ h => h) (Or.inl ⟨by rfl, ?_⟩) HC0 ?_
          · intro u hC
            go_simp
          simp only [Act.put, List.setIfInBounds_toArray, List.set_cons_zero, List.set_cons_succ]
          refine wpHl.tk0 (i := 1) (d := some 51) (v := .pointer (some ⟨b, 1, none⟩)) rfl HS (by as_aux_lemma => kernel_rfl) rfl (fun _ _ _ h => h) (Or.inl ⟨by rfl, ?_⟩) HC0 ?_
          · intro u hC
            go_simp
          simp only [Act.put, List.setIfInBounds_toArray, List.set_cons_zero, List.set_cons_succ]
          refine wpHl.tk0 (i := 2) (d := some 52) (v := .string s) rfl HS (by as_aux_lemma => kernel_rfl) rfl (fun _ _ _ h => h) (Or.inl ⟨by rfl, ?_⟩) HC0 ?_
          · intro u hC
            obtain ⟨z0, z1⟩ := hC
            go_simp
          simp only [Act.put, List.setIfInBounds_toArray, List.set_cons_zero, List.set_cons_succ]
          refine wpHl.tk0 (i := 3) (d := some 53) (v := .string (sg ++ s)) rfl HS (by as_aux_lemma => kernel_rfl) rfl (fun _ _ _ h => h) (Or.inl ⟨by rfl, ?_⟩) HC0 ?_
          · intro u hC
            go_simp
          simp only [Act.put, List.setIfInBounds_toArray, List.set_cons_zero, List.set_cons_succ]
          refine wpHl.tk0 (i := 4) (d := some 54) (v := .int .i64 n) rfl HS (by as_aux_lemma => kernel_rfl) rfl (fun _ _ _ h => h) (Or.inl ⟨by rfl, ?_⟩) HC0 ?_
          · intro u hC
            go_simp
          simp only [Act.put, List.setIfInBounds_toArray, List.set_cons_zero, List.set_cons_succ]
          refine wpHl.tk0 (i := 5) (d := some 55) (v := .int .i64 k) rfl HS (by as_aux_lemma => kernel_rfl) rfl (fun _ _ _ h => h) (Or.inl ⟨by rfl, ?_⟩) HC0 ?_
          · intro u hC
            go_simp
          simp only [Act.put, List.setIfInBounds_toArray, List.set_cons_zero, List.set_cons_succ]
          refine wpHl.tk0 (i := 6) (d := some 56) (v := .int .i64 m) rfl HS (by as_aux_lemma => kernel_rfl) rfl (fun _ _ _ h => h) (Or.inl ⟨by rfl, ?_⟩) HC0 ?_
          · intro u hC
            go_simp
          simp only [Act.put, List.setIfInBounds_toArray, List.set_cons_zero, List.set_cons_succ]
          refine wpHl.one (i := 7) (by as_aux_lemma => kernel_rfl) rfl (fun K1 hK1 => ?_)
          rw [if_pos (by rfl)]
          refine wp_call_of (f := 13) (args := #[.int .i64 m]) (by kernel_rfl) ?_
          with_reducible refine (zeros8_any hm2).mono ?_
          rintro e w2 ⟨rfl, hb⟩
          replace K := below_trans K hb
          rw [HTZ.out]
          clear HC0
          have HC0 := CC _ K
          refine hK1 (Act.put _ (some 57) _) _ ⟨fun _ => HC0, ?_⟩
          clear hK1 K1 hb
          try simp only [Act.put, List.setIfInBounds_toArray, List.set_cons_zero, List.set_cons_succ]
          refine wpHl.tk0 (i := 8) (d := some 58) (v := .string (sg ++ s ++ tz)) rfl HS (by as_aux_lemma => kernel_rfl) rfl (fun _ _ _ h => h) (Or.inl ⟨by rfl, ?_⟩) HC0 ?_
          · intro u hC
            go_simp
          simp only [Act.put, List.setIfInBounds_toArray, List.set_cons_zero, List.set_cons_succ]
          refine wpHl.tk0 (i := 9) (d := some 2) (v := .string (sg ++ s ++ tz)) rfl HS (by as_aux_lemma => kernel_rfl) rfl (fun _ _ _ h => h) (Or.inl ⟨by rfl, ?_⟩) HC0 ?_
          · intro u hC
            go_simp
          simp only [Act.put, List.setIfInBounds_toArray, List.set_cons_zero, List.set_cons_succ]
          refine wpHl.tk0 (i := 10) (d := some 3) (v := .bool true) rfl HS (by as_aux_lemma => kernel_rfl) rfl (fun _ _ _ h => h) (Or.inl ⟨by rfl, ?_⟩) HC0 ?_
          · intro u hC
            go_simp
          simp only [Act.put, List.setIfInBounds_toArray, List.set_cons_zero, List.set_cons_succ]
          refine wpHl.done (by as_aux_lemma => kernel_rfl) ?_ _
          clear CC HC0 HS
          replace HK := hide (below_trans HK.out K)
          clear K
          go_wp2
          go_ret2
          exact ⟨lay8_yes HBR.out HLY.out, HK.out⟩
        · by_cases q3 : 0 < n
          ·
            obtain ⟨nn, hnn⟩ : ∃ m : Nat, n = m := ⟨n.toNat, by omega⟩
            subst hnn
            obtain ⟨j, hj⟩ : ∃ j : Nat, k - nn = j := ⟨_, rfl⟩
            have f4 : (nn : Int) ≤ (k : Int) := by omega
            obtain ⟨t1, ht1⟩ : ∃ t, strOfNums (es.take nn) = t := ⟨_, rfl⟩
            obtain ⟨t2, ht2⟩ : ∃ t, strOfNums (es.drop nn) = t := ⟨_, rfl⟩
            have x1 : s.extract 0 nn = t1 := by rw [HS.out, txt_cut, List.drop_zero, ht1]
            have x2 : s.extract nn k = t2 := by rw [HS.out, txt_cut, ← HL.out, List.take_length, ht2]
            have g1 : t1.size = nn := by rw [← ht1, strOfNums_size, List.length_take, HL.out]; omega
            have g2 : t2.size = j := by rw [← ht2, strOfNums_size, List.length_drop, HL.out]; omega
            have y1 : sg.size + nn ≤ 9223372036854775807 := by omega
            have y2 : sg.size + nn + 1 ≤ 9223372036854775807 := by omega
            have y3 : sg.size + nn + 1 + j ≤ 9223372036854775807 := by omega
            have HLY := hide (show sg ++ t1 ++ ⟨#[46]⟩ ++ t2 = strOfNums (layoutT ng es (nn : Int)) by
              rw [show (⟨#[46]⟩ : ByteArray) = strOfNums [46] from rfl, ← HSG.out, ← ht1, ← ht2, txt_join, txt_join, txt_join]
              unfold layoutT
              rw [lt_B (by rw [HL.out]; exact q2) (by omega) q1, Int.toNat_natCast]
              simp only [List.append_assoc])
            clear ht1 ht2 hj
            go_upto_region 16 with fail
            have CC : ∀ u : World, Below w1.heap.size w1 u → u.cell? ⟨b, 1, none⟩ = some (.string s) ∧ True := fun u hu => ⟨(HC.out.below hu).c1, trivial⟩
            have K : Below w1.heap.size w1 w1.drew := (Below.refl _ _).drew
            have HC0 := CC _ K
            refine wpHl.region0 (C := fun u => u.cell? ⟨b, 1, none⟩ = some (.string s) ∧ True) (by kernel_rfl) (by kernel_rfl) (fun HS => ?_)
            refine wpHl.tk0 (i := 0) (d := some 66) (v := .string sg) rfl HS (by as_aux_lemma => kernel_rfl) rfl (fun _ _ _ h => h) (Or.inl ⟨by rfl, ?_⟩) HC0 ?_
            · intro u hC
              go_simp
            simp only [Act.put, List.setIfInBounds_toArray, List.set_cons_zero, List.set_cons_succ]
            refine wpHl.tk0 (i := 1) (d := some 67) (v := .pointer (some ⟨b, 1, none⟩)) rfl HS (by as_aux_lemma => kernel_rfl) rfl (fun _ _ _ h => h) (Or.inl ⟨by rfl, ?_⟩) HC0 ?_
            · intro u hC
              go_simp
            simp only [Act.put, List.setIfInBounds_toArray, List.set_cons_zero, List.set_cons_succ]
            refine wpHl.tk0 (i := 2) (d := some 68) (v := .string s) rfl HS (by as_aux_lemma => kernel_rfl) rfl (fun _ _ _ h => h) (Or.inl ⟨by rfl, ?_⟩) HC0 ?_
            · intro u hC
              obtain ⟨z0, z1⟩ := hC
              go_simp
            simp only [Act.put, List.setIfInBounds_toArray, List.set_cons_zero, List.set_cons_succ]
            refine wpHl.tk0 (i := 3) (d := some 69) (v := .int .i64 nn) rfl HS (by as_aux_lemma => kernel_rfl) rfl (fun _ _ _ h => h) (Or.inl ⟨by rfl, ?_⟩) HC0 ?_
            · intro u hC
              go_simp
            simp only [Act.put, List.setIfInBounds_toArray, List.set_cons_zero, List.set_cons_succ]
            refine wpHl.tk0 (i := 4) (d := some 70) (v := .string t1) rfl HS (by as_aux_lemma => kernel_rfl) rfl (fun _ _ _ h => h) (Or.inl ⟨by rfl, ?_⟩) HC0 ?_
            · intro u hC
              go_simp
            simp only [Act.put, List.setIfInBounds_toArray, List.set_cons_zero, List.set_cons_succ]
            refine wpHl.tk0 (i := 5) (d := some 71) (v := .string (sg ++ t1)) rfl HS (by as_aux_lemma => kernel_rfl) rfl (fun _ _ _ h => h) (Or.inl ⟨by rfl, ?_⟩) HC0 ?_
            · intro u hC
              go_simp
            simp only [Act.put, List.setIfInBounds_toArray, List.set_cons_zero, List.set_cons_succ]
            refine wpHl.tk0 (i := 6) (d := some 72) (v := .string (sg ++ t1 ++ ⟨#[46]⟩)) rfl HS (by as_aux_lemma => kernel_rfl) rfl (fun _ _ _ h => h) (Or.inl ⟨by rfl, ?_⟩) HC0 ?_
            · intro u hC
              go_simp
            simp only [Act.put, List.setIfInBounds_toArray, List.set_cons_zero, List.set_cons_succ]
            refine wpHl.tk0 (i := 7) (d := some 73) (v := .pointer (some ⟨b, 1, none⟩)) rfl HS (by as_aux_lemma => kernel_rfl) rfl (fun _ _ _ h => h) (Or.inl ⟨by rfl, ?_⟩) HC0 ?_
            · intro u hC
              go_simp
            simp only [Act.put, List.setIfInBounds_toArray, List.set_cons_zero, List.set_cons_succ]
            refine wpHl.tk0 (i := 8) (d := some 74) (v := .string s) rfl HS (by as_aux_lemma => kernel_rfl) rfl (fun _ _ _ h => h) (Or.inl ⟨by rfl, ?_⟩) HC0 ?_
            · intro u hC
              obtain ⟨z0, z1⟩ := hC
              go_simp
            simp only [Act.put, List.setIfInBounds_toArray, List.set_cons_zero, List.set_cons_succ]
            refine wpHl.tk0 (i := 9) (d := some 75) (v := .int .i64 nn) rfl HS (by as_aux_lemma => kernel_rfl) rfl (fun _ _ _ h => h) (Or.inl ⟨by rfl, ?_⟩) HC0 ?_
            · intro u hC
              go_simp
            simp only [Act.put, List.setIfInBounds_toArray, List.set_cons_zero, List.set_cons_succ]
            refine wpHl.tk0 (i := 10) (d := some 76) (v := .string t2) rfl HS (by as_aux_lemma => kernel_rfl) rfl (fun _ _ _ h => h) (Or.inl ⟨by rfl, ?_⟩) HC0 ?_
            · intro u hC
              go_simp
            simp only [Act.put, List.setIfInBounds_toArray, List.set_cons_zero, List.set_cons_succ]
            refine wpHl.tk0 (i := 11) (d := some 77) (v := .string (sg ++ t1 ++ ⟨#[46]⟩ ++ t2)) rfl HS (by as_aux_lemma => kernel_rfl) rfl (fun _ _ _ h => h) (Or.inl ⟨by rfl, ?_⟩) HC0 ?_
            · intro u hC
              go_simp
            simp only [Act.put, List.setIfInBounds_toArray, List.set_cons_zero, List.set_cons_succ]
            refine wpHl.tk0 (i := 12) (d := some 2) (v := .string (sg ++ t1 ++ ⟨#[46]⟩ ++ t2)) rfl HS (by as_aux_lemma => kernel_rfl) rfl (fun _ _ _ h => h) (Or.inl ⟨by rfl, ?_⟩) HC0 ?_
            · intro u hC
              go_simp
            simp only [Act.put, List.setIfInBounds_toArray, List.set_cons_zero, List.set_cons_succ]
            refine wpHl.tk0 (i := 13) (d := some 3) (v := .bool true) rfl HS (by as_aux_lemma => kernel_rfl) rfl (fun _ _ _ h => h) (Or.inl ⟨by rfl, ?_⟩) HC0 ?_
            · intro u hC
              go_simp
            simp only [Act.put, List.setIfInBounds_toArray, List.set_cons_zero, List.set_cons_succ]
            refine wpHl.done (by as_aux_lemma => kernel_rfl) ?_ _
            clear CC HC0 HS
            replace HK := hide (below_trans HK.out K)
            clear K
            go_wp2
            go_ret2
            exact ⟨lay8_yes HBR.out HLY.out, HK.out⟩
          · have q4 : n ≤ 0 := by omega
            by_cases q5 : -6 < n
            ·
              obtain ⟨m, hm⟩ : ∃ m : Nat, n = -(m : Int) := ⟨(-n).toNat, by omega⟩
              have hm2 : m ≤ 30 := by omega
              have x1 : IntKind.i64.wrap (-n) = (m : Int) := by rw [IntKind.wrap_i64]; omega
              obtain ⟨tz, htz⟩ : ∃ t, strOfNums (List.replicate m 48) = t := ⟨_, rfl⟩
              have gz : tz.size = m := by rw [← htz, strOfNums_size, List.length_replicate]
              have y1 : sg.size + 2 ≤ 9223372036854775807 := by omega
              have y2 : sg.size + 2 + m ≤ 9223372036854775807 := by omega
              have y3 : sg.size + 2 + m + k ≤ 9223372036854775807 := by omega
              have HLY := hide (show sg ++ ⟨#[48, 46]⟩ ++ tz ++ s = strOfNums (layoutT ng es n) by
                rw [show (⟨#[48, 46]⟩ : ByteArray) = strOfNums [48, 46] from rfl, ← HSG.out, HS.out, ← htz, txt_join, txt_join, txt_join]
                unfold layoutT
                rw [lt_C (by rw [HL.out]; omega) q5 q4, show (-n).toNat = m by omega]
                simp only [List.append_assoc])
              have HTZ := hide htz
              clear htz hm
              go_upto_region 18 with fail
              have CC : ∀ u : World, Below w1.heap.size w1 u → u.cell? ⟨b, 1, none⟩ = some (.string s) ∧ True := fun u hu => ⟨(HC.out.below hu).c1, trivial⟩
              have K : Below w1.heap.size w1 w1.drew := (Below.refl _ _).drew
              have HC0 := CC _ K
              refine wpHl.region0 (C := fun u => u.cell? ⟨b, 1, none⟩ = some (.string s) ∧ True) (by kernel_rfl) (by kernel_rfl) (fun HS => ?_)
              refine wpHl.tk0 (i := 0) (d := some 85) (v := .string sg) rfl HS (by as_aux_lemma => kernel_rfl) rfl (fun _ _ _ h => h) (Or.inl ⟨by rfl, ?_⟩) HC0 ?_
              · intro u hC
                go_simp
              simp only [Act.put, List.setIfInBounds_toArray, List.set_cons_zero, List.set_cons_succ]
              refine wpHl.tk0 (i := 1) (d := some 86) (v := .string (sg ++ ⟨#[48, 46]⟩)) rfl HS (by as_aux_lemma => kernel_rfl) rfl (fun _ _ _ h => h) (Or.inl ⟨by rfl, ?_⟩) HC0 ?_
              · intro u hC
                go_simp
              simp only [Act.put, List.setIfInBounds_toArray, List.set_cons_zero, List.set_cons_succ]
              refine wpHl.tk0 (i := 2) (d := some 87) (v := .int .i64 n) rfl HS (by as_aux_lemma => kernel_rfl) rfl (fun _ _ _ h => h) (Or.inl ⟨by rfl, ?_⟩) HC0 ?_
              · intro u hC
                go_simp
              simp only [Act.put, List.setIfInBounds_toArray, List.set_cons_zero, List.set_cons_succ]
              refine wpHl.tk0 (i := 3) (d := some 88) (v := .int .i64 m) rfl HS (by as_aux_lemma => kernel_rfl) rfl (fun _ _ _ h => h) (Or.inl ⟨by rfl, ?_⟩) HC0 ?_
              · intro u hC
                go_simp
              simp only [Act.put, List.setIfInBounds_toArray, List.set_cons_zero, List.set_cons_succ]
              refine wpHl.tk0 (i := 6) (d := some 91) (v := .pointer (some ⟨b, 1, none⟩)) rfl HS (by as_aux_lemma => kernel_rfl) rfl (fun _ _ _ h => h) (Or.inl ⟨by rfl, ?_⟩) HC0 ?_
              · intro u hC
                go_simp
              simp only [Act.put, List.setIfInBounds_toArray, List.set_cons_zero, List.set_cons_succ]
              refine wpHl.tk0 (i := 7) (d := some 92) (v := .string s) rfl HS (by as_aux_lemma => kernel_rfl) rfl (fun _ _ _ h => h) (Or.inl ⟨by rfl, ?_⟩) HC0 ?_
              · intro u hC
                obtain ⟨z0, z1⟩ := hC
                go_simp
              simp only [Act.put, List.setIfInBounds_toArray, List.set_cons_zero, List.set_cons_succ]
              refine wpHl.one (i := 4) (by as_aux_lemma => kernel_rfl) rfl (fun K1 hK1 => ?_)
              rw [if_pos (by rfl)]
              refine wp_call_of (f := 13) (args := #[.int .i64 m]) (by kernel_rfl) ?_
              with_reducible refine (zeros8_any hm2).mono ?_
              rintro e wn ⟨rfl, hb⟩
              replace K := below_trans K hb
              rw [HTZ.out]
              clear HC0
              have HC0 := CC _ K
              refine hK1 (Act.put _ (some 89) _) _ ⟨fun _ => HC0, ?_⟩
              clear hK1 K1 hb
              try simp only [Act.put, List.setIfInBounds_toArray, List.set_cons_zero, List.set_cons_succ]
              refine wpHl.tk0 (i := 5) (d := some 90) (v := .string (sg ++ ⟨#[48, 46]⟩ ++ tz)) rfl HS (by as_aux_lemma => kernel_rfl) rfl (fun _ _ _ h => h) (Or.inl ⟨by rfl, ?_⟩) HC0 ?_
              · intro u hC
                go_simp
              simp only [Act.put, List.setIfInBounds_toArray, List.set_cons_zero, List.set_cons_succ]
              refine wpHl.tk0 (i := 8) (d := some 93) (v := .string (sg ++ ⟨#[48, 46]⟩ ++ tz ++ s)) rfl HS (by as_aux_lemma => kernel_rfl) rfl (fun _ _ _ h => h) (Or.inl ⟨by rfl, ?_⟩) HC0 ?_
              · intro u hC
                go_simp
              simp only [Act.put, List.setIfInBounds_toArray, List.set_cons_zero, List.set_cons_succ]
              refine wpHl.tk0 (i := 9) (d := some 2) (v := .string (sg ++ ⟨#[48, 46]⟩ ++ tz ++ s)) rfl HS (by as_aux_lemma => kernel_rfl) rfl (fun _ _ _ h => h) (Or.inl ⟨by rfl, ?_⟩) HC0 ?_
              · intro u hC
                go_simp
              simp only [Act.put, List.setIfInBounds_toArray, List.set_cons_zero, List.set_cons_succ]
              refine wpHl.tk0 (i := 10) (d := some 3) (v := .bool true) rfl HS (by as_aux_lemma => kernel_rfl) rfl (fun _ _ _ h => h) (Or.inl ⟨by rfl, ?_⟩) HC0 ?_
              · intro u hC
                go_simp
              simp only [Act.put, List.setIfInBounds_toArray, List.set_cons_zero, List.set_cons_succ]
              refine wpHl.done (by as_aux_lemma => kernel_rfl) ?_ _
              clear CC HC0 HS
              replace HK := hide (below_trans HK.out K)
              clear K
              go_wp2
              go_ret2
              exact ⟨lay8_yes HBR.out HLY.out, HK.out⟩
            ·
              have hn6 : n ≤ -6 ∨ 21 < n := by omega
              obtain ⟨tp, htp⟩ : ∃ t, strOfNums (powT n) = t := ⟨_, rfl⟩
              have gp : tp.size ≤ 22 := by
                rw [← htp, strOfNums_size]
                unfold powT
                split
                · have := decL_len (u := (1 - n).toNat) (by omega)
                  rw [List.length_append]; simp only [List.length_cons, List.length_nil]; omega
                · have := decL_len (u := (n - 1).toNat) (by omega)
                  rw [List.length_append]; simp only [List.length_cons, List.length_nil]; omega
              by_cases q7 : k = 1
              · subst q7
                have y1 : sg.size + 1 ≤ 9223372036854775807 := by omega
                have y2 : sg.size + 1 + tp.size ≤ 9223372036854775807 := by omega
                have HLY := hide (show sg ++ s ++ tp = strOfNums (layoutT ng es n) by
                  have e : es = [Nt.lb es 0] := by
                    have hl := HL.out
                    match es, hl with
                    | [x], _ => simp [Nt.lb]
                  rw [← HSG.out, HS.out, ← htp, txt_join, txt_join]
                  unfold layoutT
                  rw [lt_D HL.out hn6, ← e, List.append_assoc])
                have HTP := hide htp
                clear htp hn6
                go_upto_region 20 with fail
                have CC : ∀ u : World, Below w1.heap.size w1 u → u.cell? ⟨b, 1, none⟩ = some (.string s) ∧ True := fun u hu => ⟨(HC.out.below hu).c1, trivial⟩
                have K : Below w1.heap.size w1 w1.drew := (Below.refl _ _).drew
                have HC0 := CC _ K
                refine wpHl.region0 (C := fun u => u.cell? ⟨b, 1, none⟩ = some (.string s) ∧ True) (by kernel_rfl) (by kernel_rfl) (fun HS => ?_)
                refine wpHl.tk0 (i := 0) (d := some 97) (v := .string sg) rfl HS (by as_aux_lemma => kernel_rfl) rfl (fun _ _ _ h => h) (Or.inl ⟨by rfl, ?_⟩) HC0 ?_
                · intro u hC
                  go_simp
                simp only [Act.put, List.setIfInBounds_toArray, List.set_cons_zero, List.set_cons_succ]
                refine wpHl.tk0 (i := 1) (d := some 98) (v := .pointer (some ⟨b, 1, none⟩)) rfl HS (by as_aux_lemma => kernel_rfl) rfl (fun _ _ _ h => h) (Or.inl ⟨by rfl, ?_⟩) HC0 ?_
                · intro u hC
                  go_simp
                simp only [Act.put, List.setIfInBounds_toArray, List.set_cons_zero, List.set_cons_succ]
                refine wpHl.tk0 (i := 2) (d := some 99) (v := .string s) rfl HS (by as_aux_lemma => kernel_rfl) rfl (fun _ _ _ h => h) (Or.inl ⟨by rfl, ?_⟩) HC0 ?_
                · intro u hC
                  obtain ⟨z0, z1⟩ := hC
                  go_simp
                simp only [Act.put, List.setIfInBounds_toArray, List.set_cons_zero, List.set_cons_succ]
                refine wpHl.tk0 (i := 3) (d := some 100) (v := .string (sg ++ s)) rfl HS (by as_aux_lemma => kernel_rfl) rfl (fun _ _ _ h => h) (Or.inl ⟨by rfl, ?_⟩) HC0 ?_
                · intro u hC
                  go_simp
                simp only [Act.put, List.setIfInBounds_toArray, List.set_cons_zero, List.set_cons_succ]
                refine wpHl.tk0 (i := 4) (d := some 101) (v := .int .i64 n) rfl HS (by as_aux_lemma => kernel_rfl) rfl (fun _ _ _ h => h) (Or.inl ⟨by rfl, ?_⟩) HC0 ?_
                · intro u hC
                  go_simp
                simp only [Act.put, List.setIfInBounds_toArray, List.set_cons_zero, List.set_cons_succ]
                refine wpHl.one (i := 5) (by as_aux_lemma => kernel_rfl) rfl (fun K1 hK1 => ?_)
                rw [if_pos (by rfl)]
                refine wp_call_of (f := 14) (args := #[.int .i64 n]) (by kernel_rfl) ?_
                with_reducible refine (power8_any n0 n1).mono ?_
                rintro e wn ⟨rfl, hb⟩
                replace K := below_trans K hb
                rw [HTP.out]
                clear HC0
                have HC0 := CC _ K
                refine hK1 (Act.put _ (some 102) _) _ ⟨fun _ => HC0, ?_⟩
                clear hK1 K1 hb
                try simp only [Act.put, List.setIfInBounds_toArray, List.set_cons_zero, List.set_cons_succ]
                refine wpHl.tk0 (i := 6) (d := some 103) (v := .string (sg ++ s ++ tp)) rfl HS (by as_aux_lemma => kernel_rfl) rfl (fun _ _ _ h => h) (Or.inl ⟨by rfl, ?_⟩) HC0 ?_
                · intro u hC
                  go_simp
                simp only [Act.put, List.setIfInBounds_toArray, List.set_cons_zero, List.set_cons_succ]
                refine wpHl.tk0 (i := 7) (d := some 2) (v := .string (sg ++ s ++ tp)) rfl HS (by as_aux_lemma => kernel_rfl) rfl (fun _ _ _ h => h) (Or.inl ⟨by rfl, ?_⟩) HC0 ?_
                · intro u hC
                  go_simp
                simp only [Act.put, List.setIfInBounds_toArray, List.set_cons_zero, List.set_cons_succ]
                refine wpHl.tk0 (i := 8) (d := some 3) (v := .bool true) rfl HS (by as_aux_lemma => kernel_rfl) rfl (fun _ _ _ h => h) (Or.inl ⟨by rfl, ?_⟩) HC0 ?_
                · intro u hC
                  go_simp
                simp only [Act.put, List.setIfInBounds_toArray, List.set_cons_zero, List.set_cons_succ]
                refine wpHl.done (by as_aux_lemma => kernel_rfl) ?_ _
                clear CC HC0 HS
                replace HK := hide (below_trans HK.out K)
                clear K
                go_wp2
                go_ret2
                exact ⟨lay8_yes HBR.out HLY.out, HK.out⟩
              · have q8 : ((k : Int) == 1) = false := by simp; omega
                have f4 : (1 : Int) ≤ (k : Int) := by omega
                obtain ⟨j, hj⟩ : ∃ j : Nat, k - 1 = j := ⟨_, rfl⟩
                obtain ⟨t1, ht1⟩ : ∃ t, strOfNums (es.take 1) = t := ⟨_, rfl⟩
                obtain ⟨t2, ht2⟩ : ∃ t, strOfNums (es.drop 1) = t := ⟨_, rfl⟩
                have x1 : s.extract 0 1 = t1 := by rw [HS.out, txt_cut, List.drop_zero, ht1]
                have x2 : s.extract 1 k = t2 := by rw [HS.out, txt_cut, ← HL.out, List.take_length, ht2]
                have g1 : t1.size = 1 := by rw [← ht1, strOfNums_size, List.length_take, HL.out]; omega
                have g2 : t2.size = j := by rw [← ht2, strOfNums_size, List.length_drop, HL.out]; omega
                have y1 : sg.size + 1 ≤ 9223372036854775807 := by omega
                have y2 : sg.size + 1 + 1 ≤ 9223372036854775807 := by omega
                have y3 : sg.size + 1 + 1 + j ≤ 9223372036854775807 := by omega
                have y4 : sg.size + 1 + 1 + j + tp.size ≤ 9223372036854775807 := by omega
                have HLY := hide (show sg ++ t1 ++ ⟨#[46]⟩ ++ t2 ++ tp = strOfNums (layoutT ng es n) by
                  have e : es.take 1 = [Nt.lb es 0] := by
                    have hl := HL.out
                    match es, hl with
                    | x :: r, _ => simp [Nt.lb]
                    | [], h => simp at h; omega
                  rw [show (⟨#[46]⟩ : ByteArray) = strOfNums [46] from rfl, ← HSG.out, ← ht1, ← ht2, ← htp, txt_join, txt_join, txt_join, txt_join]
                  unfold layoutT
                  rw [lt_E (by rw [HL.out]; omega) hn6, e]
                  simp only [List.append_assoc])
                have HTP := hide htp
                clear htp hn6 ht1 ht2 hj
                go_upto_region 21 with fail
                have CC : ∀ u : World, Below w1.heap.size w1 u → u.cell? ⟨b, 1, none⟩ = some (.string s) ∧ True := fun u hu => ⟨(HC.out.below hu).c1, trivial⟩
                have K : Below w1.heap.size w1 w1.drew := (Below.refl _ _).drew
                have HC0 := CC _ K
                refine wpHl.region0 (C := fun u => u.cell? ⟨b, 1, none⟩ = some (.string s) ∧ True) (by kernel_rfl) (by kernel_rfl) (fun HS => ?_)
                refine wpHl.tk0 (i := 0) (d := some 104) (v := .string sg) rfl HS (by as_aux_lemma => kernel_rfl) rfl (fun _ _ _ h => h) (Or.inl ⟨by rfl, ?_⟩) HC0 ?_
                · intro u hC
                  go_simp
                simp only [Act.put, List.setIfInBounds_toArray, List.set_cons_zero, List.set_cons_succ]
                refine wpHl.tk0 (i := 1) (d := some 105) (v := .pointer (some ⟨b, 1, none⟩)) rfl HS (by as_aux_lemma => kernel_rfl) rfl (fun _ _ _ h => h) (Or.inl ⟨by rfl, ?_⟩) HC0 ?_
                · intro u hC
                  go_simp
                simp only [Act.put, List.setIfInBounds_toArray, List.set_cons_zero, List.set_cons_succ]
                refine wpHl.tk0 (i := 2) (d := some 106) (v := .string s) rfl HS (by as_aux_lemma => kernel_rfl) rfl (fun _ _ _ h => h) (Or.inl ⟨by rfl, ?_⟩) HC0 ?_
                · intro u hC
                  obtain ⟨z0, z1⟩ := hC
                  go_simp
                simp only [Act.put, List.setIfInBounds_toArray, List.set_cons_zero, List.set_cons_succ]
                refine wpHl.tk0 (i := 3) (d := some 107) (v := .string t1) rfl HS (by as_aux_lemma => kernel_rfl) rfl (fun _ _ _ h => h) (Or.inl ⟨by rfl, ?_⟩) HC0 ?_
                · intro u hC
                  go_simp
                simp only [Act.put, List.setIfInBounds_toArray, List.set_cons_zero, List.set_cons_succ]
                refine wpHl.tk0 (i := 4) (d := some 108) (v := .string (sg ++ t1)) rfl HS (by as_aux_lemma => kernel_rfl) rfl (fun _ _ _ h => h) (Or.inl ⟨by rfl, ?_⟩) HC0 ?_
                · intro u hC
                  go_simp
                simp only [Act.put, List.setIfInBounds_toArray, List.set_cons_zero, List.set_cons_succ]
                refine wpHl.tk0 (i := 5) (d := some 109) (v := .string (sg ++ t1 ++ ⟨#[46]⟩)) rfl HS (by as_aux_lemma => kernel_rfl) rfl (fun _ _ _ h => h) (Or.inl ⟨by rfl, ?_⟩) HC0 ?_
                · intro u hC
                  go_simp
                simp only [Act.put, List.setIfInBounds_toArray, List.set_cons_zero, List.set_cons_succ]
                refine wpHl.tk0 (i := 6) (d := some 110) (v := .pointer (some ⟨b, 1, none⟩)) rfl HS (by as_aux_lemma => kernel_rfl) rfl (fun _ _ _ h => h) (Or.inl ⟨by rfl, ?_⟩) HC0 ?_
                · intro u hC
                  go_simp
                simp only [Act.put, List.setIfInBounds_toArray, List.set_cons_zero, List.set_cons_succ]
                refine wpHl.tk0 (i := 7) (d := some 111) (v := .string s) rfl HS (by as_aux_lemma => kernel_rfl) rfl (fun _ _ _ h => h) (Or.inl ⟨by rfl, ?_⟩) HC0 ?_
                · intro u hC
                  obtain ⟨z0, z1⟩ := hC
                  go_simp
                simp only [Act.put, List.setIfInBounds_toArray, List.set_cons_zero, List.set_cons_succ]
                refine wpHl.tk0 (i := 8) (d := some 112) (v := .string t2) rfl HS (by as_aux_lemma => kernel_rfl) rfl (fun _ _ _ h => h) (Or.inl ⟨by rfl, ?_⟩) HC0 ?_
                · intro u hC
                  go_simp
                simp only [Act.put, List.setIfInBounds_toArray, List.set_cons_zero, List.set_cons_succ]
                refine wpHl.tk0 (i := 9) (d := some 113) (v := .string (sg ++ t1 ++ ⟨#[46]⟩ ++ t2)) rfl HS (by as_aux_lemma => kernel_rfl) rfl (fun _ _ _ h => h) (Or.inl ⟨by rfl, ?_⟩) HC0 ?_
                · intro u hC
                  go_simp
                simp only [Act.put, List.setIfInBounds_toArray, List.set_cons_zero, List.set_cons_succ]
                refine wpHl.tk0 (i := 10) (d := some 114) (v := .int .i64 n) rfl HS (by as_aux_lemma => kernel_rfl) rfl (fun _ _ _ h => h) (Or.inl ⟨by rfl, ?_⟩) HC0 ?_
                · intro u hC
                  go_simp
                simp only [Act.put, List.setIfInBounds_toArray, List.set_cons_zero, List.set_cons_succ]
                refine wpHl.one (i := 11) (by as_aux_lemma => kernel_rfl) rfl (fun K1 hK1 => ?_)
                rw [if_pos (by rfl)]
                refine wp_call_of (f := 14) (args := #[.int .i64 n]) (by kernel_rfl) ?_
                with_reducible refine (power8_any n0 n1).mono ?_
                rintro e wn ⟨rfl, hb⟩
                replace K := below_trans K hb
                rw [HTP.out]
                clear HC0
                have HC0 := CC _ K
                refine hK1 (Act.put _ (some 115) _) _ ⟨fun _ => HC0, ?_⟩
                clear hK1 K1 hb
                try simp only [Act.put, List.setIfInBounds_toArray, List.set_cons_zero, List.set_cons_succ]
                refine wpHl.tk0 (i := 12) (d := some 116) (v := .string (sg ++ t1 ++ ⟨#[46]⟩ ++ t2 ++ tp)) rfl HS (by as_aux_lemma => kernel_rfl) rfl (fun _ _ _ h => h) (Or.inl ⟨by rfl, ?_⟩) HC0 ?_
                · intro u hC
                  go_simp
                simp only [Act.put, List.setIfInBounds_toArray, List.set_cons_zero, List.set_cons_succ]
                refine wpHl.tk0 (i := 13) (d := some 2) (v := .string (sg ++ t1 ++ ⟨#[46]⟩ ++ t2 ++ tp)) rfl HS (by as_aux_lemma => kernel_rfl) rfl (fun _ _ _ h => h) (Or.inl ⟨by rfl, ?_⟩) HC0 ?_
                · intro u hC
                  go_simp
                simp only [Act.put, List.setIfInBounds_toArray, List.set_cons_zero, List.set_cons_succ]
                refine wpHl.tk0 (i := 14) (d := some 3) (v := .bool true) rfl HS (by as_aux_lemma => kernel_rfl) rfl (fun _ _ _ h => h) (Or.inl ⟨by rfl, ?_⟩) HC0 ?_
                · intro u hC
                  go_simp
                simp only [Act.put, List.setIfInBounds_toArray, List.set_cons_zero, List.set_cons_succ]
                refine wpHl.done (by as_aux_lemma => kernel_rfl) ?_ _
                clear CC HC0 HS
                replace HK := hide (below_trans HK.out K)
                clear K
                go_wp2
                go_ret2
                exact ⟨lay8_yes HBR.out HLY.out, HK.out⟩
      · have q4 : ¬ n ≤ 0 := by omega
        have hn6 : n ≤ -6 ∨ 21 < n := by omega
        obtain ⟨tp, htp⟩ : ∃ t, strOfNums (powT n) = t := ⟨_, rfl⟩
        have gp : tp.size ≤ 22 := by
          rw [← htp, strOfNums_size]
          unfold powT
          split
          · have := decL_len (u := (1 - n).toNat) (by omega)
            rw [List.length_append]; simp only [List.length_cons, List.length_nil]; omega
          · have := decL_len (u := (n - 1).toNat) (by omega)
            rw [List.length_append]; simp only [List.length_cons, List.length_nil]; omega
        by_cases q7 : k = 1
        · subst q7
          have y1 : sg.size + 1 ≤ 9223372036854775807 := by omega
          have y2 : sg.size + 1 + tp.size ≤ 9223372036854775807 := by omega
          have HLY := hide (show sg ++ s ++ tp = strOfNums (layoutT ng es n) by
            have e : es = [Nt.lb es 0] := by
              have hl := HL.out
              match es, hl with
              | [x], _ => simp [Nt.lb]
            rw [← HSG.out, HS.out, ← htp, txt_join, txt_join]
            unfold layoutT
            rw [lt_D HL.out hn6, ← e, List.append_assoc])
          have HTP := hide htp
          clear htp hn6
          go_upto_region 20 with fail
          have CC : ∀ u : World, Below w1.heap.size w1 u → u.cell? ⟨b, 1, none⟩ = some (.string s) ∧ True := fun u hu => ⟨(HC.out.below hu).c1, trivial⟩
          have K : Below w1.heap.size w1 w1.drew := (Below.refl _ _).drew
          have HC0 := CC _ K
          refine wpHl.region0 (C := fun u => u.cell? ⟨b, 1, none⟩ = some (.string s) ∧ True) (by kernel_rfl) (by kernel_rfl) (fun HS => ?_)
          refine wpHl.tk0 (i := 0) (d := some 97) (v := .string sg) rfl HS (by as_aux_lemma => kernel_rfl) rfl (fun _ _ _ h => h) (Or.inl ⟨by rfl, ?_⟩) HC0 ?_
          · intro u hC
            go_simp
          simp only [Act.put, List.setIfInBounds_toArray, List.set_cons_zero, List.set_cons_succ]
          refine wpHl.tk0 (i := 1) (d := some 98) (v := .pointer (some ⟨b, 1, none⟩)) rfl HS (by as_aux_lemma => kernel_rfl) rfl (fun _ _ _ h => h) (Or.inl ⟨by rfl, ?_⟩) HC0 ?_
          · intro u hC
            go_simp
          simp only [Act.put, List.setIfInBounds_toArray, List.set_cons_zero, List.set_cons_succ]
          refine wpHl.tk0 (i := 2) (d := some 99) (v := .string s) rfl HS (by as_aux_lemma => kernel_rfl) rfl (fun _ _ _ h => h) (Or.inl ⟨by rfl, ?_⟩) HC0 ?_
          · intro u hC
            obtain ⟨z0, z1⟩ := hC
            go_simp
          simp only [Act.put, List.setIfInBounds_toArray, List.set_cons_zero, List.set_cons_succ]
          refine wpHl.tk0 (i := 3) (d := some 100) (v := .string (sg ++ s)) rfl HS (by as_aux_lemma => kernel_rfl) rfl (fun _ _ _ h => h) (Or.inl ⟨by rfl, ?_⟩) HC0 ?_
          · intro u hC
            go_simp
          simp only [Act.put, List.setIfInBounds_toArray, List.set_cons_zero, List.set_cons_succ]
          refine wpHl.tk0 (i := 4) (d := some 101) (v := .int .i64 n) rfl HS (by as_aux_lemma => kernel_rfl) rfl (fun _ _ _ h => h) (Or.inl ⟨by rfl, ?_⟩) HC0 ?_
          · intro u hC
            go_simp
          simp only [Act.put, List.setIfInBounds_toArray, List.set_cons_zero, List.set_cons_succ]
          refine wpHl.one (i := 5) (by as_aux_lemma => kernel_rfl) rfl (fun K1 hK1 => ?_)
          rw [if_pos (by rfl)]
          refine wp_call_of (f := 14) (args := #[.int .i64 n]) (by kernel_rfl) ?_
          with_reducible refine (power8_any n0 n1).mono ?_
          rintro e wn ⟨rfl, hb⟩
          replace K := below_trans K hb
          rw [HTP.out]
          clear HC0
          have HC0 := CC _ K
          refine hK1 (Act.put _ (some 102) _) _ ⟨fun _ => HC0, ?_⟩
          clear hK1 K1 hb
          try simp only [Act.put, List.setIfInBounds_toArray, List.set_cons_zero, List.set_cons_succ]
          refine wpHl.tk0 (i := 6) (d := some 103) (v := .string (sg ++ s ++ tp)) rfl HS (by as_aux_lemma => kernel_rfl) rfl (fun _ _ _ h => h) (Or.inl ⟨by rfl, ?_⟩) HC0 ?_
          · intro u hC
            go_simp
          simp only [Act.put, List.setIfInBounds_toArray, List.set_cons_zero, List.set_cons_succ]
          refine wpHl.tk0 (i := 7) (d := some 2) (v := .string (sg ++ s ++ tp)) rfl HS (by as_aux_lemma => kernel_rfl) rfl (fun _ _ _ h => h) (Or.inl ⟨by rfl, ?_⟩) HC0 ?_
          · intro u hC
            go_simp
          simp only [Act.put, List.setIfInBounds_toArray, List.set_cons_zero, List.set_cons_succ]
          refine wpHl.tk0 (i := 8) (d := some 3) (v := .bool true) rfl HS (by as_aux_lemma => kernel_rfl) rfl (fun _ _ _ h => h) (Or.inl ⟨by rfl, ?_⟩) HC0 ?_
          · intro u hC
            go_simp
          simp only [Act.put, List.setIfInBounds_toArray, List.set_cons_zero, List.set_cons_succ]
          refine wpHl.done (by as_aux_lemma => kernel_rfl) ?_ _
          clear CC HC0 HS
          replace HK := hide (below_trans HK.out K)
          clear K
          go_wp2
          go_ret2
          exact ⟨lay8_yes HBR.out HLY.out, HK.out⟩
        · have q8 : ((k : Int) == 1) = false := by simp; omega
          have f4 : (1 : Int) ≤ (k : Int) := by omega
          obtain ⟨j, hj⟩ : ∃ j : Nat, k - 1 = j := ⟨_, rfl⟩
          obtain ⟨t1, ht1⟩ : ∃ t, strOfNums (es.take 1) = t := ⟨_, rfl⟩
          obtain ⟨t2, ht2⟩ : ∃ t, strOfNums (es.drop 1) = t := ⟨_, rfl⟩
          have x1 : s.extract 0 1 = t1 := by rw [HS.out, txt_cut, List.drop_zero, ht1]
          have x2 : s.extract 1 k = t2 := by rw [HS.out, txt_cut, ← HL.out, List.take_length, ht2]
          have g1 : t1.size = 1 := by rw [← ht1, strOfNums_size, List.length_take, HL.out]; omega
          have g2 : t2.size = j := by rw [← ht2, strOfNums_size, List.length_drop, HL.out]; omega
          have y1 : sg.size + 1 ≤ 9223372036854775807 := by omega
          have y2 : sg.size + 1 + 1 ≤ 9223372036854775807 := by omega
          have y3 : sg.size + 1 + 1 + j ≤ 9223372036854775807 := by omega
          have y4 : sg.size + 1 + 1 + j + tp.size ≤ 9223372036854775807 := by omega
          have HLY := hide (show sg ++ t1 ++ ⟨#[46]⟩ ++ t2 ++ tp = strOfNums (layoutT ng es n) by
            have e : es.take 1 = [Nt.lb es 0] := by
              have hl := HL.out
              match es, hl with
              | x :: r, _ => simp [Nt.lb]
              | [], h => simp at h; omega
            rw [show (⟨#[46]⟩ : ByteArray) = strOfNums [46] from rfl, ← HSG.out, ← ht1, ← ht2, ← htp, txt_join, txt_join, txt_join, txt_join]
            unfold layoutT
            rw [lt_E (by rw [HL.out]; omega) hn6, e]
            simp only [List.append_assoc])
          have HTP := hide htp
          clear htp hn6 ht1 ht2 hj
          go_upto_region 21 with fail
          have CC : ∀ u : World, Below w1.heap.size w1 u → u.cell? ⟨b, 1, none⟩ = some (.string s) ∧ True := fun u hu => ⟨(HC.out.below hu).c1, trivial⟩
          have K : Below w1.heap.size w1 w1.drew := (Below.refl _ _).drew
          have HC0 := CC _ K
          refine wpHl.region0 (C := fun u => u.cell? ⟨b, 1, none⟩ = some (.string s) ∧ True) (by kernel_rfl) (by kernel_rfl) (fun HS => ?_)
          refine wpHl.tk0 (i := 0) (d := some 104) (v := .string sg) rfl HS (by as_aux_lemma => kernel_rfl) rfl (fun _ _ _ h => h) (Or.inl ⟨by rfl, ?_⟩) HC0 ?_
          · intro u hC
            go_simp
          simp only [Act.put, List.setIfInBounds_toArray, List.set_cons_zero, List.set_cons_succ]
          refine wpHl.tk0 (i := 1) (d := some 105) (v := .pointer (some ⟨b, 1, none⟩)) rfl HS (by as_aux_lemma => kernel_rfl) rfl (fun _ _ _ h => h) (Or.inl ⟨by rfl, ?_⟩) HC0 ?_
          · intro u hC
            go_simp
          simp only [Act.put, List.setIfInBounds_toArray, List.set_cons_zero, List.set_cons_succ]
          refine wpHl.tk0 (i := 2) (d := some 106) (v := .string s) rfl HS (by as_aux_lemma => kernel_rfl) rfl (fun _ _ _ h => h) (Or.inl ⟨by rfl, ?_⟩) HC0 ?_
          · intro u hC
            obtain ⟨z0, z1⟩ := hC
            go_simp
          simp only [Act.put, List.setIfInBounds_toArray, List.set_cons_zero, List.set_cons_succ]
          refine wpHl.tk0 (i := 3) (d := some 107) (v := .string t1) rfl HS (by as_aux_lemma => kernel_rfl) rfl (fun _ _ _ h => h) (Or.inl ⟨by rfl, ?_⟩) HC0 ?_
          · intro u hC
            go_simp
          simp only [Act.put, List.setIfInBounds_toArray, List.set_cons_zero, List.set_cons_succ]
          refine wpHl.tk0 (i := 4) (d := some 108) (v := .string (sg ++ t1)) rfl HS (by as_aux_lemma => kernel_rfl) rfl (fun _ _ _ h => h) (Or.inl ⟨by rfl, ?_⟩) HC0 ?_
          · intro u hC
            go_simp
          simp only [Act.put, List.setIfInBounds_toArray, List.set_cons_zero, List.set_cons_succ]
          refine wpHl.tk0 (i := 5) (d := some 109) (v := .string (sg ++ t1 ++ ⟨#[46]⟩)) rfl HS (by as_aux_lemma => kernel_rfl) rfl (fun _ _ _ h => h) (Or.inl ⟨by rfl, ?_⟩) HC0 ?_
          · intro u hC
            go_simp
          simp only [Act.put, List.setIfInBounds_toArray, List.set_cons_zero, List.set_cons_succ]
          refine wpHl.tk0 (i := 6) (d := some 110) (v := .pointer (some ⟨b, 1, none⟩)) rfl HS (by as_aux_lemma => kernel_rfl) rfl (fun _ _ _ h => h) (Or.inl ⟨by rfl, ?_⟩) HC0 ?_
          · intro u hC
            go_simp
          simp only [Act.put, List.setIfInBounds_toArray, List.set_cons_zero, List.set_cons_succ]
          refine wpHl.tk0 (i := 7) (d := some 111) (v := .string s) rfl HS (by as_aux_lemma => kernel_rfl) rfl (fun _ _ _ h => h) (Or.inl ⟨by rfl, ?_⟩) HC0 ?_
          · intro u hC
            obtain ⟨z0, z1⟩ := hC
            go_simp
          simp only [Act.put, List.setIfInBounds_toArray, List.set_cons_zero, List.set_cons_succ]
          refine wpHl.tk0 (i := 8) (d := some 112) (v := .string t2) rfl HS (by as_aux_lemma => kernel_rfl) rfl (fun _ _ _ h => h) (Or.inl ⟨by rfl, ?_⟩) HC0 ?_
          · intro u hC
            go_simp
          simp only [Act.put, List.setIfInBounds_toArray, List.set_cons_zero, List.set_cons_succ]
          refine wpHl.tk0 (i := 9) (d := some 113) (v := .string (sg ++ t1 ++ ⟨#[46]⟩ ++ t2)) rfl HS (by as_aux_lemma => kernel_rfl) rfl (fun _ _ _ h => h) (Or.inl ⟨by rfl, ?_⟩) HC0 ?_
          · intro u hC
            go_simp
          simp only [Act.put, List.setIfInBounds_toArray, List.set_cons_zero, List.set_cons_succ]
          refine wpHl.tk0 (i := 10) (d := some 114) (v := .int .i64 n) rfl HS (by as_aux_lemma => kernel_rfl) rfl (fun _ _ _ h => h) (Or.inl ⟨by rfl, ?_⟩) HC0 ?_
          · intro u hC
            go_simp
          simp only [Act.put, List.setIfInBounds_toArray, List.set_cons_zero, List.set_cons_succ]
          refine wpHl.one (i := 11) (by as_aux_lemma => kernel_rfl) rfl (fun K1 hK1 => ?_)
          rw [if_pos (by rfl)]
          refine wp_call_of (f := 14) (args := #[.int .i64 n]) (by kernel_rfl) ?_
          with_reducible refine (power8_any n0 n1).mono ?_
          rintro e wn ⟨rfl, hb⟩
          replace K := below_trans K hb
          rw [HTP.out]
          clear HC0
          have HC0 := CC _ K
          refine hK1 (Act.put _ (some 115) _) _ ⟨fun _ => HC0, ?_⟩
          clear hK1 K1 hb
          try simp only [Act.put, List.setIfInBounds_toArray, List.set_cons_zero, List.set_cons_succ]
          refine wpHl.tk0 (i := 12) (d := some 116) (v := .string (sg ++ t1 ++ ⟨#[46]⟩ ++ t2 ++ tp)) rfl HS (by as_aux_lemma => kernel_rfl) rfl (fun _ _ _ h => h) (Or.inl ⟨by rfl, ?_⟩) HC0 ?_
          · intro u hC
            go_simp
          simp only [Act.put, List.setIfInBounds_toArray, List.set_cons_zero, List.set_cons_succ]
          refine wpHl.tk0 (i := 13) (d := some 2) (v := .string (sg ++ t1 ++ ⟨#[46]⟩ ++ t2 ++ tp)) rfl HS (by as_aux_lemma => kernel_rfl) rfl (fun _ _ _ h => h) (Or.inl ⟨by rfl, ?_⟩) HC0 ?_
          · intro u hC
            go_simp
          simp only [Act.put, List.setIfInBounds_toArray, List.set_cons_zero, List.set_cons_succ]
          refine wpHl.tk0 (i := 14) (d := some 3) (v := .bool true) rfl HS (by as_aux_lemma => kernel_rfl) rfl (fun _ _ _ h => h) (Or.inl ⟨by rfl, ?_⟩) HC0 ?_
          · intro u hC
            go_simp
          simp only [Act.put, List.setIfInBounds_toArray, List.set_cons_zero, List.set_cons_succ]
          refine wpHl.done (by as_aux_lemma => kernel_rfl) ?_ _
          clear CC HC0 HS
          replace HK := hide (below_trans HK.out K)
          clear K
          go_wp2
          go_ret2
          exact ⟨lay8_yes HBR.out HLY.out, HK.out⟩

end Go.Proofs.YtinfkoiifemjmaaGreatDoor
