/- nat.Shl -/
import Derived.Test.YtfnfnkakaggmbabGreatDoorRaise
import Derived.Laws.CopyOwn
namespace Go.Proofs.YtfnfnkakaggmbabGreatDoor
open Go.RowKit

/-- the length is told by the number -/
theorem len_is {w : World} {va : Value} {n : Int} {ka k : Nat} (ha : Arg w va n ka) (hka : ka ≤ 1099511627776) (h : IsLen n k) :
    Calls Tryz.prog 53 #[va] w fun e w' => e = .returned (.int .i64 k) ∧ w' = w := by
  refine (len_any ha hka).mono ?_
  rintro e w' ⟨m, rfl, hm, _, rfl⟩
  rw [isLen_unique hm h]
  exact ⟨rfl, rfl⟩
theorem arg_cells {w : World} {ao : Option Addr} {xs : List Int} (hm : xs.length ≤ maxLen) (hc : Cells .u32 w ao xs) (ho : Nt.Ok xs) : Arg w (.slice ao xs.length xs.length) (Nt.val xs) xs.length :=
  ⟨xs, ⟨ao, _, rfl, Nat.le_refl _, hm, hc⟩, ho, rfl, Nat.le_refl _⟩

set_option maxHeartbeats 1000000 in
theorem shl_neg {w : World} {va : Value} {n A : Int} {ka : Nat} (ha : Arg w va A ka) (hn : n < 0) :
    Calls Tryz.prog 52 #[va, .int .i64 n] w fun e w' => e = .returned (.tuple #[.slice none 0 0, .bool false]) ∧ w' = w := by
  go_enter Tryz.func52, Tryz.ntmps52
  go_wp2_with fail
  refine (trim_arg ha).mono ?_
  rintro e w' ⟨rfl, ao, xs, rfl, hxk, hxm, hxc, hx, rfl⟩
  clear ha
  go_wp2
  go_ret2
  exact ⟨rfl, rfl⟩

set_option maxHeartbeats 1000000 in
theorem shl_zero {w : World} {va : Value} {n : Int} {ka : Nat} (ha : Arg w va 0 ka) (hn : 0 ≤ n) :
    Calls Tryz.prog 52 #[va, .int .i64 n] w fun e w' => e = .returned (.tuple #[.slice none 0 0, .bool true]) ∧ w' = w := by
  have hn' : ¬ n < 0 := by omega
  go_enter Tryz.func52, Tryz.ntmps52
  go_wp2_with fail
  refine (trim_arg ha).mono ?_
  rintro e w' ⟨rfl, ao, xs, rfl, hxk, hxm, hxc, hx, hv⟩
  have hxe := (Nt.canon_zero hx).1 hv
  subst hxe
  clear ha hv
  go_wp2
  go_ret2
  exact ⟨rfl, rfl⟩

theorem canon_pos {xs : List Int} (h : 0 < Nt.val xs) : 0 < xs.length := by
  rcases Nat.eq_zero_or_pos xs.length with h0 | h0
  · rw [List.eq_nil_of_length_eq_zero h0, Nt.val_nil] at h; omega
  · exact h0

set_option maxHeartbeats 1000000 in
theorem shl_big {w : World} {va : Value} {n A : Int} {ka k : Nat} (ha : Arg w va A ka) (hka : ka ≤ 1099511627776) (hn : 0 ≤ n) (hA : 0 < A) (hk : IsLen A k) (hk2 : k ≤ 32 * ka) (hbig : 8388608 < n + k) :
    Calls Tryz.prog 52 #[va, .int .i64 n] w fun e w' => e = .returned (.tuple #[.slice none 0 0, .bool false]) ∧ w' = w := by
  have hn' : ¬ n < 0 := by omega
  go_enter Tryz.func52, Tryz.ntmps52
  go_wp2_with fail
  refine (trim_arg ha).mono ?_
  rintro e w' ⟨rfl, ao, xs, rfl, hxk, hxm, hxc, hx, rfl⟩
  have hp := canon_pos hA
  have h0 : ((xs.length : Int) == 0) = false := by simp; intro e; subst e; simp at hp
  have Hk := hide hk
  clear ha hk hA
  go_wp2_with fail
  refine (len_is (arg_cells hxm hxc hx.1) (by omega) Hk.out).mono ?_
  rintro e w1 ⟨rfl, rfl⟩
  have hg : (8388608 : Int) - (k : Int) < n := by omega
  go_wp2
  go_ret2
  exact ⟨rfl, rfl⟩

theorem lb_pad (W : Nat) (ys : List Int) (i : Nat) : Nt.lb (List.replicate W 0 ++ ys) (W + i) = Nt.lb ys i := by
  simp only [Nt.lb, List.getD_eq_getElem?_getD]
  rw [List.getElem?_append_right (by simp)]
  simp
theorem lb_pad_low (W : Nat) (ys : List Int) {i : Nat} (h : i < W) : Nt.lb (List.replicate W 0 ++ ys) i = 0 := by
  simp only [Nt.lb, List.getD_eq_getElem?_getD]
  rw [List.getElem?_append_left (by simpa using h)]
  simp [h]
theorem vt_pad_low (W : Nat) (ys : List Int) : Nt.vt (List.replicate W 0 ++ ys) W = 0 := by
  rw [Nt.vt_cut (k := 0) (by omega) (fun i _ h => lb_pad_low W ys h)]; rfl
theorem vt_pad (W : Nat) (ys : List Int) (m : Nat) : Nt.vt (List.replicate W 0 ++ ys) (W + m) = Nt.vt ys m * Nt.pw W := by
  induction m with
  | zero => rw [Nat.add_zero, vt_pad_low]; simp [Nt.vt]
  | succ m ih => rw [← Nat.add_assoc, Nt.vt_succ, ih, lb_pad, Nt.vt_succ, Nt.pw_add, Int.add_mul, Int.mul_comm (Nt.pw W), Int.mul_assoc]
theorem lb_end {xs : List Int} {z : Int} {i : Nat} (h : i < xs.length) : Nt.lb (xs ++ [z]) i = Nt.lb xs i := lb_append_left h
theorem lb_last (xs : List Int) (z : Int) : Nt.lb (xs ++ [z]) xs.length = z := by simp [Nt.lb]
theorem vt_end (xs : List Int) : Nt.vt (xs ++ [0]) (xs.length + 1) = Nt.val xs := by
  rw [Nt.vt_succ, lb_last, Nt.vt_congr (ys := xs) (fun i hi => lb_end hi)]; simp [Nt.val]
theorem ok_end {xs : List Int} (h : Nt.Ok xs) : Nt.Ok (xs ++ [0]) := by
  intro i
  by_cases h1 : i < xs.length
  · rw [lb_end h1]; exact h i
  · by_cases h2 : i = xs.length
    · subst h2; rw [lb_last]; omega
    · rw [Nt.lb_out (by simp; omega)]; omega
theorem ok_pad {ys : List Int} (W : Nat) (h : Nt.Ok ys) : Nt.Ok (List.replicate W 0 ++ ys) := by
  intro i
  by_cases h1 : i < W
  · rw [lb_pad_low W ys h1]; omega
  · obtain ⟨j, rfl⟩ : ∃ j, i = W + j := ⟨i - W, by omega⟩
    rw [lb_pad]; exact h j
theorem splice_pad (W : Nat) (xs : List Int) : splice ((List.replicate (W + xs.length + 1) (0 : Int)).map (Value.int .u32)) W (xs.map (Value.int .u32)) = (List.replicate W 0 ++ (xs ++ [0])).map (Value.int .u32) := by
  unfold splice
  simp only [← List.map_take, ← List.map_drop, ← List.map_append, List.length_map]
  congr 1
  rw [List.take_replicate, List.drop_replicate, show min W (W + xs.length + 1) = W by omega, show W + xs.length + 1 - (W + xs.length) = 1 by omega]
  rfl

set_option maxHeartbeats 2000000 in
theorem shl_ok {w : World} {va : Value} {A : Int} {ka k N W s : Nat} (ha : Arg w va A ka) (hka : ka ≤ 1099511627776) (hA : 0 < A) (hk : IsLen A k) (hk2 : k ≤ 32 * ka) (hfit : N + k ≤ 8388608) (hN : N = 32 * W + s) (hs : s < 32) :
    Calls Tryz.prog 52 #[va, .int .i64 N] w fun e w' => ∃ v, e = .returned (.tuple #[v, .bool true]) ∧ Num w.heap.size w' v (A * p2 N) (W + ka + 1) ∧ Below w.heap.size w w' := by
  have hq : (N : Int) / 32 = (W : Int) := by omega
  have hr : (N : Int) % 32 = (s : Int) := by omega
  have HN := hide hN
  clear hN
  have hNb : (N : Int) ≤ 8388608 := by omega
  have hWb : W ≤ 262144 := by omega
  go_enter Tryz.func52, Tryz.ntmps52
  go_wp2_with fail
  refine (trim_arg ha).mono ?_
  rintro e w' ⟨rfl, ao, xs, rfl, hxk, hxm, hxc, hx, rfl⟩
  have hp := canon_pos hA
  have h0 : ((xs.length : Int) == 0) = false := by simp; intro e; subst e; simp at hp
  have Hk := hide hk
  clear ha hk
  go_wp2_with fail
  refine (len_is (arg_cells hxm hxc hx.1) (by omega) Hk.out).mono ?_
  rintro e w1 ⟨rfl, rfl⟩
  have hg : ¬ (8388608 : Int) - (k : Int) < (N : Int) := by omega
  go_wp2_with (at_make; refine wpList_make_row _ rfl _ _ 58 rfl 106 .u32 4 Tryz.underlying58 Tryz.infoU32 _ _ _ _ (W + xs.length + 1) (W + xs.length + 1) rfl rfl (by omega) (by omega) (Nat.le_refl _) (by omega) (by unfold maxLen; omega) ?_)
  intro w2 hr2 hbel hsz
  obtain ⟨cs, hcs⟩ : ∃ cs, cs = xs.map (Value.int .u32) := ⟨_, rfl⟩
  obtain ⟨cur, hcur⟩ : ∃ cur, cur = (List.replicate (W + xs.length + 1) (0 : Int)).map (Value.int .u32) := ⟨_, rfl⟩
  have hr' : w2.heap[w1.heap.size]? = some (.cells cur.toArray 106 (0, 0)) := by rw [hcur]; exact hr2
  have hlc : cs.length = xs.length := by rw [hcs]; simp
  have hlr : cur.length = W + xs.length + 1 := by rw [hcur]; simp
  have hpos : 0 < cs.length → some (⟨w1.heap.size, W, none⟩ : Addr) = some ⟨w1.heap.size, W, none⟩ ∧ ∃ ad, ao = some ad ∧ ∀ j v, cs[j]? = some v → w2.cell? (ad.add j) = some v := by
    intro h
    obtain ⟨b, off, rfl, hb, hc⟩ := (hxc.below hbel) (by omega)
    refine ⟨rfl, _, rfl, fun j v hv => ?_⟩
    have hj : j < xs.length := by have := (List.getElem?_eq_some_iff.1 hv).1; omega
    rw [Addr.add_lit, hc j hj]
    rw [hcs] at hv
    simp [hj] at hv
    rw [← hv]; simp [Nt.lb, hj]
  have Hcs := hide hcs
  have Hcur := hide hcur
  have Hlc := hide hlc
  have Hlr := hide hlr
  have Hr := hide hr'
  have Hpos := hide hpos
  clear hcs hcur hlc hlr hr' hpos hr2
  go_wp2_with (refine wpList_copy_splice rfl (.tmp 30) (.tmp 31) 58 58 rfl 106 Tryz.underlying58 Tryz.sizeU32 (some ⟨w1.heap.size, W, none⟩) ao (W + xs.length + 1 - W) (W + xs.length + 1 - W) xs.length xs.length rfl rfl w1.heap.size W cur 106 Hr.out cs (by rw [Hlc.out]; unfold Nat.min; omega) Hpos.out (by rw [Hlc.out, Hlr.out]; omega) (by rw [Hcs.out]; exact ints_oneCell _ _) w1.heap.size w1 hbel (Nat.le_refl _) ?_)
  intro w3 HG hB3
  have hrow : Row .u32 106 w3 w1.heap.size (List.replicate W 0 ++ (xs ++ [0])) := by
    have h := HG.out
    rw [Hcur.out, Hcs.out, splice_pad] at h
    exact h
  clear Hr Hpos HG Hcs Hcur Hlc Hlr hbel
  go_wp2_with fail
  have hol : (List.replicate W (0 : Int) ++ (xs ++ [0])).length = W + xs.length + 1 := by simp; omega
  have Hol := hide hol
  refine (raise_any hB3 (Nat.le_refl _) hs (by omega) hrow (ok_pad W (ok_end hx.1)) (by rw [hol]; omega) (fun _ => rfl)).mono ?_
  rintro e w4 ⟨c, zs, rfl, hzl, hzo, _, hv, hc, hrow4, hB4⟩
  have hc0 : c = 0 := by
    rw [hc (by omega), show W + (W + xs.length + 1 - W) - 1 = W + xs.length by omega, lb_pad, lb_last]; simp
  have hfin : Nt.val zs = Nt.val xs * p2 N := by
    rw [hc0, show W + (W + xs.length + 1 - W) = W + (xs.length + 1) by omega, vt_pad_low, vt_pad, vt_end] at hv
    have e1 : Nt.vt zs (W + (xs.length + 1)) = Nt.val zs := Nt.vt_out (by rw [hzl, hol]; omega)
    rw [e1] at hv
    simp only [Int.zero_mul, Int.add_zero, Int.zero_add, Int.sub_zero] at hv
    rw [hv, HN.out, p2_add, p2_32, Int.mul_comm (p2 s), Int.mul_assoc]
  rw [hol] at hzl
  have ht := trim_row (B := w1.heap.size) (cap := zs.length) hrow4 (Nat.le_refl _) (Nat.le_refl _) (by rw [hzl]; unfold maxLen; omega) hzo
  rw [hzl, hfin] at ht
  have Hf := hide hfin
  clear hv hc hc0 hfin hrow hol hzl Hol
  go_wp2_with fail
  refine ht.mono ?_
  rintro e w5 ⟨rfl, v, rfl, hnum⟩
  go_wp2
  go_ret2
  exact ⟨_, rfl, hnum.mono (by omega), hB4⟩

end Go.Proofs.YtfnfnkakaggmbabGreatDoor
