/- crucibleref11: read, FromHex, FromBase64 -/
import Derived.Test.YtlpddfocihlbcaaGreatDoorYRefM
import Derived.Test.YtlpddfocihlbcaaGreatDoorBRef
namespace Go.Proofs.YtlpddfocihlbcaaGreatDoor
open Go.RowKit
set_option linter.unusedVariables false

theorem own_low {w : World} {B C : Nat} {E : TypeId} {v : Value} {n : Nat} {xs : List Value} (h : w.ownsRow B E 1 v n xs) (hC : C ≤ B) : w.ownsRow C E 1 v n xs := by
  obtain ⟨h1, h2 | ⟨g, cap, cur, rfl, h3, h4⟩⟩ := h
  · exact ⟨h1, .inl h2⟩
  · exact ⟨h1, .inr ⟨g, cap, cur, rfl, Nat.le_trans hC h3, h4⟩⟩
theorem rtake8 {w : World} {v : Value} {l : List Int} {a : Nat} (hr : Reads .i64 w v l) (hb : bBin l) (hl : l.length ≤ 4294967296) (ha : a ≤ 4294967296) :
    Calls Tryz.prog 63 #[v, .int .i64 a, .int .i64 8] w fun e w' => e = .returned (.int .i64 (tk l a 8)) ∧ w' = w := rtake_any (n := 8) hr hb hl ha (by omega)
theorem eq_decY {xs ys : List Int} (hx : uByt xs) (hy : uByt ys) : ((strOfNums xs).toList == (strOfNums ys).toList) = decide (xs = ys) := by
  by_cases h : xs = ys
  · rw [h]; simp
  · rw [decide_eq_false h]
    apply beq_eq_false_iff_ne.2
    intro e
    apply h
    apply utxt_inj hx hy
    apply Go.WideShapes.bytes_inj
    rw [ByteArray.toList_eq, ByteArray.toList_eq] at e
    exact e

set_option maxRecDepth 100000 in
set_option maxHeartbeats 1000000 in
theorem rread_any {w : World} {es al : List Int} {n : Nat} {s a : ByteArray} (hs : s = strOfNums es) (hb : uByt es) (hl : es.length ≤ 67108864) (hn0 : 1 ≤ n) (hn : n ≤ 6) (has : a = strOfNums al) (hab : uByt al) (hal : al.length ≤ 100) :
    Calls Tryz.prog 12 #[.string s, .int .i64 n, .string a] w fun e w' => ∃ u, e = .returned u ∧ Mk .u8 5 w w' u (rRead n al es) := by
  have hsz : s.size = es.length := by rw [hs, strOfNums_size]
  have haz : a.size = al.length := by rw [has, strOfNums_size]
  have HI := hide (show ∀ (i : Nat), i < es.length → ∀ W, _ from fun i hi W => str_index hs hb (k := .i64) (i := (i : Int)) (by omega) (by omega) W)
  have HJ := hide (show ∀ (i : Nat), i < al.length → ∀ W, _ from fun i hi W => str_index has hab (k := .i64) (i := (i : Int)) (by omega) (by omega) W)
  clear hs hb has hab
  go_enter Tryz.func12, Tryz.ntmps12
  go_wp2
  go_loopw [7, 8] (fun s7 si wr => ∃ (i : Nat) (u : Value), s7 = u ∧ si = .int .i64 i ∧ i ≤ es.length ∧ Hid (Mk .i64 3 w wr u (rBits n al (es.take i)))) (fun _ si _ => es.length - (intOf si).toNat)
  case atStart => exact ⟨0, _, rfl, rfl, by omega, hide ⟨own_none, Below.refl _ _⟩⟩
  case round =>
    obtain ⟨i, u, rfl, rfl, hi, HM⟩ := hrel
    by_cases hlt : i < es.length
    · have hlt1 : (i : Int) < (es.length : Int) := by omega
      have HT := hide (show rBits n al (es.take (i + 1)) = rBits n al (es.take i) ++ bN (lastIx al (Nt.lb es i) al.length) n by rw [List.take_succ_eq_append_getElem hlt, rBits_app, ulb_get hlt]; simp [rBits])
      have hlen := hide (show (rBits n al (es.take i)).length ≤ 536870912 by
        rw [rBits_len, List.length_take, Nat.min_eq_left (by omega)]
        have : n * i ≤ 6 * i := Nat.mul_le_mul_right i hn
        omega)
      have ix := HI.out i hlt
      rw [Int.toNat_natCast] at ix
      obtain ⟨c, hc⟩ : ∃ c, Nt.lb es i = c := ⟨_, rfl⟩
      rw [hc] at ix HT
      clear hc
      go_wp2
      go_loopw [9, 10] (fun s9 sk wr2 => ∃ (k : Nat) (x : Int), s9 = .int .i64 x ∧ sk = .int .i64 k ∧ k ≤ al.length ∧ Hid (x = lastIx al c k) ∧ Hid (Mk .i64 3 w wr2 u7 (rBits n al (es.take i)))) (fun _ sk _ => al.length - (intOf sk).toNat)
      case atStart => exact ⟨0, 0, rfl, rfl, by omega, rfl, HM⟩
      case round =>
        obtain ⟨k, x, rfl, rfl, hk, HX, HM⟩ := hrel
        by_cases hkl : k < al.length
        · have hkl1 : (k : Int) < (al.length : Int) := by omega
          have iy := HJ.out k hkl
          rw [Int.toNat_natCast] at iy
          by_cases he : Nt.lb al k = c
          · have HS := hide (show (k : Int) = lastIx al c (k + 1) by simp only [lastIx]; rw [if_pos he])
            rw [he] at iy
            have n1 : (c == c) = true := by simp
            clear he
            go_wp2
            go_region
            all_goals go_wp2
            all_goals go_roundw
            all_goals first
              | exact ⟨k + 1, k, rfl, by go_num, by omega, HS, hide ⟨own_keep HM.out.1 (by repeat (first | exact Below.refl _ _ | apply Below.drew)), by repeat (first | exact HM.out.2 | apply Below.drew)⟩⟩
              | (simp [intOf]; omega)
          · have HS := hide (show x = lastIx al c (k + 1) by simp only [lastIx]; rw [if_neg he]; exact HX.out)
            have n1 : (Nt.lb al k == c) = false := by simp [he]
            clear he
            go_wp2
            go_region
            all_goals go_wp2
            all_goals go_roundw
            all_goals first
              | exact ⟨k + 1, x, rfl, by go_num, by omega, HS, hide ⟨own_keep HM.out.1 (by repeat (first | exact Below.refl _ _ | apply Below.drew)), by repeat (first | exact HM.out.2 | apply Below.drew)⟩⟩
              | (simp [intOf]; omega)
        · have hkl1 : ¬ (k : Int) < (al.length : Int) := by omega
          have hke : k = al.length := by omega
          subst hke
          have hx := lastIx_rng al c al.length
          rw [← HX.out] at hx HT
          have hx1 : 0 ≤ x ∧ x < 101 := by omega
          clear hx
          go_wp2
          go_loopw [7, 11] (fun s7 sk wr2 => ∃ (j : Nat) (q : Int) (u : Value), s7 = u ∧ sk = .int .i64 q ∧ q = (j : Int) - 1 ∧ j ≤ n ∧ Hid (Mk .i64 3 w wr2 u (rBits n al (es.take i) ++ (bN x n).take (n - j)))) (fun _ sk _ => (intOf sk + 1).toNat)
          case atStart => exact ⟨n, (n : Int) - 1, _, rfl, rfl, rfl, by omega, hide (by rw [Nat.sub_self, List.take_zero, List.append_nil]; exact HM.out)⟩
          case round =>
            obtain ⟨j, q, u, rfl, rfl, hq, hj, HM⟩ := hrel
            by_cases hj0 : 0 < j
            · obtain ⟨k, rfl⟩ : ∃ k, j = k + 1 := ⟨j - 1, by omega⟩
              have HS := hide (bN_drop x (n := n) (k := k) (by omega))
              obtain ⟨ys, hys⟩ : ∃ ys, rBits n al (es.take i) ++ (bN x n).take (n - (k + 1)) = ys := ⟨_, rfl⟩
              have h63 := hide (show ys.length + 1 ≤ maxLen ∧ (ys.length + 1) * 8 ≤ 140737488355328 by
                have := hlen.out
                have h2 : ((bN x n).take (n - (k + 1))).length ≤ 6 := by rw [List.length_take, bN_len]; omega
                rw [← hys, List.length_append]
                unfold maxLen
                constructor <;> omega)
              rw [hys] at HM
              have HY := hide hys
              clear hys
              rcases (show k = 0 ∨ k = 1 ∨ k = 2 ∨ k = 3 ∨ k = 4 ∨ k = 5 by omega) with rfl | rfl | rfl | rfl | rfl | rfl
              · have hq2 : q = 0 := by omega
                subst hq2
                clear hq hj0
                go_wp2_with (at_builtin; refine uwpList_append_ints _ rfl _ _ 59 rfl w.heap.size 3 .i64 8 Tryz.underlying59 Tryz.infoYi _ _ _ rfl (HM.out.1.alloc _) _ _ [x % 2] rfl (cells_new _ _ _ _) h63.out.1 h63.out.2 (by have := HM.out.2.size; simp; omega) ?_)
                intro u5 w5 hown hgrow
                have HM5 := hide (HM.out.on (ys := [x % 2]) (al_b _ _) (by rw [List.map_append]; exact hown) hgrow)
                rw [← HY.out, List.append_assoc, show [x % 2] = [x / ((2 ^ 0 : Nat) : Int) % 2] by simp, HS.out] at HM5
                clear hown hgrow
                go_wp2
                go_roundw
                case rel => exact ⟨0, -1, _, rfl, rfl, by omega, by omega, HM5⟩
                case measure => simp [intOf]
              · have hq2 : q = 1 := by omega
                subst hq2
                clear hq hj0
                go_wp2_with (at_builtin; refine uwpList_append_ints _ rfl _ _ 59 rfl w.heap.size 3 .i64 8 Tryz.underlying59 Tryz.infoYi _ _ _ rfl (HM.out.1.alloc _) _ _ [x / 2 % 2] rfl (cells_new _ _ _ _) h63.out.1 h63.out.2 (by have := HM.out.2.size; simp; omega) ?_)
                intro u5 w5 hown hgrow
                have HM5 := hide (HM.out.on (ys := [x / 2 % 2]) (al_b _ _) (by rw [List.map_append]; exact hown) hgrow)
                rw [← HY.out, List.append_assoc, show [x / 2 % 2] = [x / ((2 ^ 1 : Nat) : Int) % 2] by rfl, HS.out] at HM5
                clear hown hgrow
                go_wp2
                go_roundw
                case rel => exact ⟨1, 0, _, rfl, rfl, by omega, by omega, HM5⟩
                case measure => simp [intOf]
              · have hq2 : q = 2 := by omega
                subst hq2
                clear hq hj0
                go_wp2_with (at_builtin; refine uwpList_append_ints _ rfl _ _ 59 rfl w.heap.size 3 .i64 8 Tryz.underlying59 Tryz.infoYi _ _ _ rfl (HM.out.1.alloc _) _ _ [x / 4 % 2] rfl (cells_new _ _ _ _) h63.out.1 h63.out.2 (by have := HM.out.2.size; simp; omega) ?_)
                intro u5 w5 hown hgrow
                have HM5 := hide (HM.out.on (ys := [x / 4 % 2]) (al_b _ _) (by rw [List.map_append]; exact hown) hgrow)
                rw [← HY.out, List.append_assoc, show [x / 4 % 2] = [x / ((2 ^ 2 : Nat) : Int) % 2] by rfl, HS.out] at HM5
                clear hown hgrow
                go_wp2
                go_roundw
                case rel => exact ⟨2, 1, _, rfl, rfl, by omega, by omega, HM5⟩
                case measure => simp [intOf]
              · have hq2 : q = 3 := by omega
                subst hq2
                clear hq hj0
                go_wp2_with (at_builtin; refine uwpList_append_ints _ rfl _ _ 59 rfl w.heap.size 3 .i64 8 Tryz.underlying59 Tryz.infoYi _ _ _ rfl (HM.out.1.alloc _) _ _ [x / 8 % 2] rfl (cells_new _ _ _ _) h63.out.1 h63.out.2 (by have := HM.out.2.size; simp; omega) ?_)
                intro u5 w5 hown hgrow
                have HM5 := hide (HM.out.on (ys := [x / 8 % 2]) (al_b _ _) (by rw [List.map_append]; exact hown) hgrow)
                rw [← HY.out, List.append_assoc, show [x / 8 % 2] = [x / ((2 ^ 3 : Nat) : Int) % 2] by rfl, HS.out] at HM5
                clear hown hgrow
                go_wp2
                go_roundw
                case rel => exact ⟨3, 2, _, rfl, rfl, by omega, by omega, HM5⟩
                case measure => simp [intOf]
              · have hq2 : q = 4 := by omega
                subst hq2
                clear hq hj0
                go_wp2_with (at_builtin; refine uwpList_append_ints _ rfl _ _ 59 rfl w.heap.size 3 .i64 8 Tryz.underlying59 Tryz.infoYi _ _ _ rfl (HM.out.1.alloc _) _ _ [x / 16 % 2] rfl (cells_new _ _ _ _) h63.out.1 h63.out.2 (by have := HM.out.2.size; simp; omega) ?_)
                intro u5 w5 hown hgrow
                have HM5 := hide (HM.out.on (ys := [x / 16 % 2]) (al_b _ _) (by rw [List.map_append]; exact hown) hgrow)
                rw [← HY.out, List.append_assoc, show [x / 16 % 2] = [x / ((2 ^ 4 : Nat) : Int) % 2] by rfl, HS.out] at HM5
                clear hown hgrow
                go_wp2
                go_roundw
                case rel => exact ⟨4, 3, _, rfl, rfl, by omega, by omega, HM5⟩
                case measure => simp [intOf]
              · have hq2 : q = 5 := by omega
                subst hq2
                clear hq hj0
                go_wp2_with (at_builtin; refine uwpList_append_ints _ rfl _ _ 59 rfl w.heap.size 3 .i64 8 Tryz.underlying59 Tryz.infoYi _ _ _ rfl (HM.out.1.alloc _) _ _ [x / 32 % 2] rfl (cells_new _ _ _ _) h63.out.1 h63.out.2 (by have := HM.out.2.size; simp; omega) ?_)
                intro u5 w5 hown hgrow
                have HM5 := hide (HM.out.on (ys := [x / 32 % 2]) (al_b _ _) (by rw [List.map_append]; exact hown) hgrow)
                rw [← HY.out, List.append_assoc, show [x / 32 % 2] = [x / ((2 ^ 5 : Nat) : Int) % 2] by rfl, HS.out] at HM5
                clear hown hgrow
                go_wp2
                go_roundw
                case rel => exact ⟨5, 4, _, rfl, rfl, by omega, by omega, HM5⟩
                case measure => simp [intOf]
            · have hj1 : j = 0 := by omega
              subst hj1
              have hq2 : q = -1 := by omega
              subst hq2
              clear hq hj hj0
              have e2 : (bN x n).take (n - 0) = bN x n := List.take_of_length_le (by rw [bN_len]; omega)
              rw [e2, ← HT.out] at HM
              go_wp2
              go_roundw
              case rel => exact ⟨i + 1, _, rfl, by go_num, by omega, HM⟩
              case measure => simp [intOf]; omega
    · have hie : i = es.length := by omega
      have hlt1 : ¬ (i : Int) < (es.length : Int) := by omega
      subst hie
      rw [List.take_length] at HM
      have HK := hide (show rRead n al es = rdB (rBits n al es) ((rBits n al es).length / 8) from rfl)
      have hbin := hide (rBits_bin n al es)
      have hLm : (rBits n al es).length ≤ 536870912 := by
        rw [rBits_len]
        have : n * es.length ≤ 6 * es.length := Nat.mul_le_mul_right _ hn
        omega
      obtain ⟨l, hll⟩ : ∃ l, rBits n al es = l := ⟨_, rfl⟩
      rw [hll] at HM HK hbin hLm
      clear hll
      obtain ⟨lo, lc, e1, lx, ly, lz⟩ := breads_of_own rfl HM.out.1
      subst e1
      unfold maxLen at ly
      have RL : Hid (Reads .i64 wr (.slice lo l.length lc) l) := ⟨lo, lc, rfl, lx, ly, lz⟩
      have TK := hide (fun (W : World) (k : Below wr.heap.size wr W) (p : Nat) (hp : p ≤ 4294967296) => rtake8 (a := p) (RL.out.below k) hbin.out (by omega) hp)
      have HW := hide HM.out.2
      clear lz HM
      go_wp2
      go_loopw [12, 13] (fun s12 si wr2 => ∃ (j p : Nat) (u : Value), s12 = u ∧ si = .int .i64 p ∧ Hid (p = 8 * j) ∧ p ≤ l.length ∧ Hid (wr2.ownsRow wr.heap.size 5 1 u (rdB l j).length ((rdB l j).map (Value.int .u8)) ∧ Below wr.heap.size wr wr2)) (fun _ si _ => ((l.length : Int) - intOf si).toNat)
      case atStart => exact ⟨0, 0, _, rfl, rfl, rfl, by omega, hide ⟨own_none, Below.refl _ _⟩⟩
      case round =>
        obtain ⟨j, p, u, rfl, rfl, hp, hpl, HO⟩ := hrel
        by_cases hgo : p + 8 ≤ l.length
        · have hgo1 : (p : Int) + 8 ≤ (l.length : Int) := by omega
          have ct := hide (TK.out _ HO.out.2 p (by omega))
          have hr := tk_rng hbin.out p 8
          have HS := hide (show rdB l (j + 1) = rdB l j ++ [tk l p 8] by rw [hp.out]; rfl)
          have hjp := hide (show j ≤ 536870912 by have := hp.out; omega)
          have h63 := hide (show (rdB l j).length + 1 ≤ maxLen ∧ ((rdB l j).length + 1) * 1 ≤ 140737488355328 by rw [rdB_len]; unfold maxLen; have := hjp.out; constructor <;> omega)
          obtain ⟨x, hx⟩ : ∃ x, tk l p 8 = x := ⟨_, rfl⟩
          rw [hx] at ct HS hr
          have hr2 : 0 ≤ x ∧ x < 256 := by have := hr.2; omega
          clear hx hr
          go_wp2_with fail
          refine ct.out.mono ?_
          rintro e w' ⟨rfl, rfl⟩
          go_wp2_with (at_builtin; refine uwpList_append_ints _ rfl _ _ 39 rfl wr.heap.size 5 .u8 1 Tryz.underlying39 Tryz.infoY8 _ _ _ rfl (HO.out.1.alloc _) _ _ [x] rfl (cells_new _ _ _ _) h63.out.1 h63.out.2 (by have := HO.out.2.size; simp; omega) ?_)
          intro u5 w5 hown hgrow
          have HO5 := hide (show w5.ownsRow wr.heap.size 5 1 u5 (rdB l (j + 1)).length ((rdB l (j + 1)).map (Value.int .u8)) ∧ Below wr.heap.size wr w5 from ⟨by rw [HS.out, List.length_append, List.map_append]; exact hown, bown_below (bbel_t HO.out.2 (al_b _ _)) (by have := HO.out.2.size; simp; omega) (HO.out.1.alloc _) hgrow⟩)
          clear hown hgrow
          have hp5 := hide (show p + 8 = 8 * (j + 1) by have := hp.out; omega)
          go_wp2
          go_roundw
          case rel => exact ⟨j + 1, p + 8, _, rfl, by go_num, hp5, by omega, HO5⟩
          case measure => simp [intOf]; omega
        · have hgo1 : ¬ (p : Int) + 8 ≤ (l.length : Int) := by omega
          have hj : j = l.length / 8 := by have := hp.out; omega
          subst hj
          go_wp2
          go_ret
          exact ⟨_, rfl, by rw [HK.out]; exact ⟨own_low HO.out.1 HW.out.size, bbel_t HW.out HO.out.2⟩⟩

end Go.Proofs.YtlpddfocihlbcaaGreatDoor
