import Derived.Test.YticmlelalbaalaaGreatDoorB03
import Derived.Laws.CopyOwn
import Derived.Test.YticmlelalbaalaaGreatDoorB02
namespace Go.Proofs.YticmlelalbaalaaGreatDoor
open Go.RowKit
theorem len_is {w : World} {va : Value} {n : Int} {ka k : Nat} (ha : Arg w va n ka) (hka : ka ≤ 1099511627776) (h : IsLen n k) :
    Calls Tryz.prog 127 #[va] w fun e w' => e = .returned (.int .i64 k) ∧ w' = w := by
  refine (len_any ha hka).mono ?_
  rintro e w' ⟨m, rfl, hm, _, rfl⟩
  rw [isLen_unique hm h]
  exact ⟨rfl, rfl⟩
theorem arg_cells {w : World} {ao : Option Addr} {xs : List Int} (hm : xs.length ≤ maxLen) (hc : Cells .u32 w ao xs) (ho : Nt.Ok xs) : Arg w (.slice ao xs.length xs.length) (Nt.val xs) xs.length :=
  ⟨xs, ⟨ao, _, rfl, Nat.le_refl _, hm, hc⟩, ho, rfl, Nat.le_refl _⟩
set_option maxHeartbeats 1000000 in
theorem shl_zero {w : World} {va : Value} {n : Int} {ka : Nat} (ha : Arg w va 0 ka) (hn : 0 ≤ n) :
    Calls Tryz.prog 163 #[va, .int .i64 n] w fun e w' => e = .returned (.tuple #[.slice none 0 0, .bool true]) ∧ w' = w := by
  have hn' : ¬ n < 0 := by omega
  go_enter Tryz.func163, Tryz.ntmps163
  go_wp2_with fail
  refine (trim_arg ha).mono ?_
  rintro e w' ⟨rfl, ao, xs, rfl, hxk, hxm, hxc, hx, hv⟩
  have hxe := (Nt.canon_zero hx).1 hv
  subst hxe
  clear ha hv
  go_wp2
  go_ret2
  exact ⟨rfl, rfl⟩
theorem canon_pos {xs : List Int} (h : 0 < Nt.val xs) : 0 < xs.length := by
  rcases Nat.eq_zero_or_pos xs.length with h0 | h0
  · rw [List.eq_nil_of_length_eq_zero h0, Nt.val_nil] at h; omega
  · exact h0
theorem lb_pad (W : Nat) (ys : List Int) (i : Nat) : Nt.lb (List.replicate W 0 ++ ys) (W + i) = Nt.lb ys i := by
  simp only [Nt.lb, List.getD_eq_getElem?_getD]
  rw [List.getElem?_append_right (by simp)]
  simp
theorem lb_pad_low (W : Nat) (ys : List Int) {i : Nat} (h : i < W) : Nt.lb (List.replicate W 0 ++ ys) i = 0 := by
  simp only [Nt.lb, List.getD_eq_getElem?_getD]
  rw [List.getElem?_append_left (by simpa using h)]
  simp [h]
theorem vt_pad_low (W : Nat) (ys : List Int) : Nt.vt (List.replicate W 0 ++ ys) W = 0 := by
  rw [Nt.vt_cut (k := 0) (by omega) (fun i _ h => lb_pad_low W ys h)]; rfl
theorem vt_pad (W : Nat) (ys : List Int) (m : Nat) : Nt.vt (List.replicate W 0 ++ ys) (W + m) = Nt.vt ys m * Nt.pw W := by
  induction m with
  | zero => rw [Nat.add_zero, vt_pad_low]; simp [Nt.vt]
  | succ m ih => rw [← Nat.add_assoc, Nt.vt_succ, ih, lb_pad, Nt.vt_succ, Nt.pw_add, Int.add_mul, Int.mul_comm (Nt.pw W), Int.mul_assoc]
theorem lb_end {xs : List Int} {z : Int} {i : Nat} (h : i < xs.length) : Nt.lb (xs ++ [z]) i = Nt.lb xs i := lb_append_left h
theorem lb_last (xs : List Int) (z : Int) : Nt.lb (xs ++ [z]) xs.length = z := by simp [Nt.lb]
theorem vt_end (xs : List Int) : Nt.vt (xs ++ [0]) (xs.length + 1) = Nt.val xs := by
  rw [Nt.vt_succ, lb_last, Nt.vt_congr (ys := xs) (fun i hi => lb_end hi)]; simp [Nt.val]
theorem ok_end {xs : List Int} (h : Nt.Ok xs) : Nt.Ok (xs ++ [0]) := by
  intro i
  by_cases h1 : i < xs.length
  · rw [lb_end h1]; exact h i
  · by_cases h2 : i = xs.length
    · subst h2; rw [lb_last]; omega
    · rw [Nt.lb_out (by simp; omega)]; omega
theorem ok_pad {ys : List Int} (W : Nat) (h : Nt.Ok ys) : Nt.Ok (List.replicate W 0 ++ ys) := by
  intro i
  by_cases h1 : i < W
  · rw [lb_pad_low W ys h1]; omega
  · obtain ⟨j, rfl⟩ : ∃ j, i = W + j := ⟨i - W, by omega⟩
    rw [lb_pad]; exact h j
theorem splice_pad (W : Nat) (xs : List Int) : splice ((List.replicate (W + xs.length + 1) (0 : Int)).map (Value.int .u32)) W (xs.map (Value.int .u32)) = (List.replicate W 0 ++ (xs ++ [0])).map (Value.int .u32) := by
  unfold splice
  simp only [← List.map_take, ← List.map_drop, ← List.map_append, List.length_map]
  congr 1
  rw [List.take_replicate, List.drop_replicate, show min W (W + xs.length + 1) = W by omega, show W + xs.length + 1 - (W + xs.length) = 1 by omega]
  rfl
set_option maxHeartbeats 2000000 in
theorem shl_ok {w : World} {va : Value} {A : Int} {ka k N W s : Nat} (ha : Arg w va A ka) (hka : ka ≤ 1099511627776) (hA : 0 < A) (hk : IsLen A k) (hk2 : k ≤ 32 * ka) (hfit : N + k ≤ 8388608) (hN : N = 32 * W + s) (hs : s < 32) :
    Calls Tryz.prog 163 #[va, .int .i64 N] w fun e w' => ∃ v, e = .returned (.tuple #[v, .bool true]) ∧ Num w.heap.size w' v (A * p2 N) (W + ka + 1) ∧ Below w.heap.size w w' := by
  have hq : (N : Int) / 32 = (W : Int) := by omega
  have hr : (N : Int) % 32 = (s : Int) := by omega
  have HN := hide hN
  clear hN
  have hNb : (N : Int) ≤ 8388608 := by omega
  have hWb : W ≤ 262144 := by omega
  go_enter Tryz.func163, Tryz.ntmps163
  go_wp2_with fail
  refine (trim_arg ha).mono ?_
  rintro e w' ⟨rfl, ao, xs, rfl, hxk, hxm, hxc, hx, rfl⟩
  have hp := canon_pos hA
  have h0 : ((xs.length : Int) == 0) = false := by simp; intro e; subst e; simp at hp
  have Hk := hide hk
  clear ha hk
  go_wp2_with fail
  refine (len_is (arg_cells hxm hxc hx.1) (by omega) Hk.out).mono ?_
  rintro e w1 ⟨rfl, rfl⟩
  have hg : ¬ (8388608 : Int) - (k : Int) < (N : Int) := by omega
  go_wp2_with (at_make; refine wpList_make_row _ rfl _ _ 26 rfl 70 .u32 4 Tryz.underlying26 Tryz.infoU32 _ _ _ _ (W + xs.length + 1) (W + xs.length + 1) rfl rfl (by omega) (by omega) (Nat.le_refl _) (by omega) (by unfold maxLen; omega) ?_)
  intro w2 hr2 hbel hsz
  obtain ⟨cs, hcs⟩ : ∃ cs, cs = xs.map (Value.int .u32) := ⟨_, rfl⟩
  obtain ⟨cur, hcur⟩ : ∃ cur, cur = (List.replicate (W + xs.length + 1) (0 : Int)).map (Value.int .u32) := ⟨_, rfl⟩
  have hr' : w2.heap[w1.heap.size]? = some (.cells cur.toArray 70 (0, 0)) := by rw [hcur]; exact hr2
  have hlc : cs.length = xs.length := by rw [hcs]; simp
  have hlr : cur.length = W + xs.length + 1 := by rw [hcur]; simp
  have hpos : 0 < cs.length → some (⟨w1.heap.size, W, none⟩ : Addr) = some ⟨w1.heap.size, W, none⟩ ∧ ∃ ad, ao = some ad ∧ ∀ j v, cs[j]? = some v → w2.cell? (ad.add j) = some v := by
    intro h
    obtain ⟨b, off, rfl, hb, hc⟩ := (hxc.below hbel) (by omega)
    refine ⟨rfl, _, rfl, fun j v hv => ?_⟩
    have hj : j < xs.length := by have := (List.getElem?_eq_some_iff.1 hv).1; omega
    rw [Addr.add_lit, hc j hj]
    rw [hcs] at hv
    simp [hj] at hv
    rw [← hv]; simp [Nt.lb, hj]
  have Hcs := hide hcs
  have Hcur := hide hcur
  have Hlc := hide hlc
  have Hlr := hide hlr
  have Hr := hide hr'
  have Hpos := hide hpos
  clear hcs hcur hlc hlr hr' hpos hr2
  go_wp2_with (refine wpList_copy_splice rfl (.tmp 30) (.tmp 31) 26 26 rfl 70 Tryz.underlying26 Tryz.sizeU32 (some ⟨w1.heap.size, W, none⟩) ao (W + xs.length + 1 - W) (W + xs.length + 1 - W) xs.length xs.length rfl rfl w1.heap.size W cur 70 Hr.out cs (by rw [Hlc.out]; unfold Nat.min; omega) Hpos.out (by rw [Hlc.out, Hlr.out]; omega) (by rw [Hcs.out]; exact ints_oneCell _ _) w1.heap.size w1 hbel (Nat.le_refl _) ?_)
  intro w3 HG hB3
  have hrow : Row .u32 70 w3 w1.heap.size (List.replicate W 0 ++ (xs ++ [0])) := by
    have h := HG.out
    rw [Hcur.out, Hcs.out, splice_pad] at h
    exact h
  clear Hr Hpos HG Hcs Hcur Hlc Hlr hbel
  go_wp2_with fail
  have hol : (List.replicate W (0 : Int) ++ (xs ++ [0])).length = W + xs.length + 1 := by simp; omega
  have Hol := hide hol
  refine (raise_any hB3 (Nat.le_refl _) hs (by omega) hrow (ok_pad W (ok_end hx.1)) (by rw [hol]; omega) (fun _ => rfl)).mono ?_
  rintro e w4 ⟨c, zs, rfl, hzl, hzo, _, hv, hc, hrow4, hB4⟩
  have hc0 : c = 0 := by
    rw [hc (by omega), show W + (W + xs.length + 1 - W) - 1 = W + xs.length by omega, lb_pad, lb_last]; simp
  have hfin : Nt.val zs = Nt.val xs * p2 N := by
    rw [hc0, show W + (W + xs.length + 1 - W) = W + (xs.length + 1) by omega, vt_pad_low, vt_pad, vt_end] at hv
    have e1 : Nt.vt zs (W + (xs.length + 1)) = Nt.val zs := Nt.vt_out (by rw [hzl, hol]; omega)
    rw [e1] at hv
    simp only [Int.zero_mul, Int.add_zero, Int.zero_add, Int.sub_zero] at hv
    rw [hv, HN.out, p2_add, p2_32, Int.mul_comm (p2 s), Int.mul_assoc]
  rw [hol] at hzl
  have ht := trim_row (B := w1.heap.size) (cap := zs.length) hrow4 (Nat.le_refl _) (Nat.le_refl _) (by rw [hzl]; unfold maxLen; omega) hzo
  rw [hzl, hfin] at ht
  have Hf := hide hfin
  clear hv hc hc0 hfin hrow hol hzl Hol
  go_wp2_with fail
  refine ht.mono ?_
  rintro e w5 ⟨rfl, v, rfl, hnum⟩
  go_wp2
  go_ret2
  exact ⟨_, rfl, hnum.mono (by omega), hB4⟩
end Go.Proofs.YticmlelalbaalaaGreatDoor
namespace Go.Proofs.YticmlelalbaalaaGreatDoor
open Go.RowKit
set_option linter.unusedVariables false
theorem len_of {w : World} {va : Value} {A : Int} {ka : Nat} (ha : Arg w va A ka) : ∃ k, IsLen A k ∧ k ≤ 32 * ka := by
  have hA := ha.nonneg
  obtain ⟨zs, _, ho, hv, hl⟩ := ha
  have hb := Nt.val_lt ho
  rw [hv, ← p2_32] at hb
  have hb2 := p2_mono (m := 32 * zs.length) (n := 32 * ka) (by omega)
  have : ∀ m : Nat, ∀ x : Int, 0 ≤ x → x < p2 m → ∃ k, IsLen x k ∧ k ≤ m := by
    intro m
    induction m with
    | zero => intro x h0 h1; exact ⟨0, ⟨h1, fun h => by omega⟩, Nat.le_refl _⟩
    | succ m ih =>
      intro x h0 h1
      rcases Int.lt_or_le x (p2 m) with c | c
      · obtain ⟨k, h, hk⟩ := ih x h0 c
        exact ⟨k, h, by omega⟩
      · exact ⟨m + 1, ⟨h1, fun _ => by rwa [Nat.add_sub_cancel]⟩, Nat.le_refl _⟩
  exact this _ A hA (by omega)
theorem shl_room {w : World} {va : Value} {A : Int} {ka N : Nat} (ha : Arg w va A ka) (hka : ka ≤ 100000) (hN : N ≤ 100000) :
    Calls Tryz.prog 163 #[va, .int .i64 N] w fun e w' => ∃ v, e = .returned (.tuple #[v, .bool true]) ∧ Num w.heap.size w' v (A * p2 N) (N / 32 + ka + 1) ∧ Below w.heap.size w w' := by
  rcases Int.lt_or_eq_of_le ha.nonneg with c | c
  · obtain ⟨k, hk, hk2⟩ := len_of ha
    exact shl_ok (W := N / 32) (s := N % 32) ha (by omega) c hk hk2 (by omega) (by omega) (by omega)
  · subst c
    refine (shl_zero ha (n := (N : Int)) (by omega)).mono ?_
    rintro e w' ⟨rfl, rfl⟩
    refine ⟨.slice none 0 0, rfl, ?_, Below.refl _ _⟩
    rw [Int.zero_mul]
    exact ⟨[], ⟨none, rfl, by simp [maxLen], fun h => by simp at h⟩, Nt.canon_nil, by simp [Nt.val, Nt.vt], by simp⟩
theorem shl_int {w : World} {va : Value} {A n : Int} {ka : Nat} (ha : Arg w va A ka) (hka : ka ≤ 10) (h0 : 0 ≤ n) (hN : n ≤ 2500) :
    Calls Tryz.prog 163 #[va, .int .i64 n] w fun e w' => ∃ v, e = .returned (.tuple #[v, .bool true]) ∧ Num w.heap.size w' v (A * p2 n.toNat) 100 ∧ Below w.heap.size w w' := by
  obtain ⟨N, rfl⟩ := Int.eq_ofNat_of_zero_le h0
  refine (shl_room ha (by omega) (by omega)).mono ?_
  rintro x w1 ⟨vs, rfl, hv, K⟩
  rw [Int.toNat_natCast]
  exact ⟨vs, rfl, hv.mono (by omega), K⟩
end Go.Proofs.YticmlelalbaalaaGreatDoor
namespace Go.Proofs.YticmlelalbaalaaGreatDoor
open Go.RowKit
theorem splice_all {α : Type} (L cs : List α) (h : L.length = cs.length) : splice L 0 cs = cs := by
  simp [splice, ← h]
set_option maxHeartbeats 1000000 in
theorem norm_any {w : World} {va : Value} {n : Int} {ka : Nat} (ha : Arg w va n ka) (hka : ka ≤ 1099511627776) :
    Calls Tryz.prog 188 #[va] w fun e w' => ∃ v, e = .returned v ∧ Num w.heap.size w' v n ka ∧ Below w.heap.size w w' := by
  go_enter Tryz.func188, Tryz.ntmps188
  go_wp2_with fail
  refine (trim_arg ha).mono ?_
  rintro e w' ⟨rfl, ao, xs, rfl, hxk, hxm, hxc, hx, rfl⟩
  clear ha
  go_wp2_with (at_make; refine wpList_make_row _ rfl _ _ 26 rfl 70 .u32 4 Tryz.underlying26 Tryz.infoU32 _ _ _ _ xs.length xs.length rfl rfl (by omega) (by omega) (Nat.le_refl _) (by omega) (by unfold maxLen; omega) ?_)
  intro w1 hr hbel hsz
  obtain ⟨cs, hcs⟩ : ∃ cs, cs = xs.map (Value.int .u32) := ⟨_, rfl⟩
  obtain ⟨cur, hcur⟩ : ∃ cur, cur = (List.replicate xs.length (0 : Int)).map (Value.int .u32) := ⟨_, rfl⟩
  have hr' : w1.heap[w'.heap.size]? = some (.cells cur.toArray 70 (0, 0)) := by rw [hcur]; exact hr
  have hlc : cs.length = xs.length := by rw [hcs]; simp
  have hlr : cur.length = xs.length := by rw [hcur]; simp
  have Hcs : Hid (cs = xs.map (Value.int .u32)) := hcs
  have Hcur : Hid (cur = (List.replicate xs.length (0 : Int)).map (Value.int .u32)) := hcur
  have Hlc : Hid (cs.length = xs.length) := hlc
  have Hlr : Hid (cur.length = xs.length) := hlr
  have Hr : Hid (w1.heap[w'.heap.size]? = some (.cells cur.toArray 70 (0, 0))) := hr'
  have hpos : 0 < cs.length → some (⟨w'.heap.size, 0, none⟩ : Addr) = some ⟨w'.heap.size, 0, none⟩ ∧ ∃ ad, ao = some ad ∧ ∀ j v, cs[j]? = some v → w1.cell? (ad.add j) = some v := by
    intro h
    obtain ⟨b, off, rfl, hb, hc⟩ := (hxc.below hbel) (by omega)
    refine ⟨rfl, _, rfl, fun j v hv => ?_⟩
    have hj : j < xs.length := by have := (List.getElem?_eq_some_iff.1 hv).1; omega
    rw [Addr.add_lit, hc j hj]
    rw [hcs] at hv
    simp [hj] at hv
    rw [← hv]; simp [Nt.lb, hj]
  have Hpos : Hid (0 < cs.length → some (⟨w'.heap.size, 0, none⟩ : Addr) = some ⟨w'.heap.size, 0, none⟩ ∧ ∃ ad, ao = some ad ∧ ∀ j v, cs[j]? = some v → w1.cell? (ad.add j) = some v) := hpos
  clear hcs hcur hlc hlr hr' hpos hr
  go_wp2_with (refine wpList_copy_splice rfl (.tmp 9) (.tmp 10) 26 26 rfl 70 Tryz.underlying26 Tryz.sizeU32 (some ⟨w'.heap.size, 0, none⟩) ao xs.length xs.length xs.length xs.length rfl rfl w'.heap.size 0 cur 70 Hr.out cs (by rw [Hlc.out]; exact (Nat.min_self _).symm) Hpos.out (by rw [Hlc.out, Hlr.out]; omega) (by rw [Hcs.out]; exact ints_oneCell _ _) w'.heap.size w' hbel (Nat.le_refl _) ?_)
  intro w2 HG hB2
  have hrow : Row .u32 70 w2 w'.heap.size xs := by
    have h := HG.out
    rw [splice_all _ _ (Hlr.out.trans Hlc.out.symm), Hcs.out] at h
    exact h
  clear Hr Hpos HG Hcs Hcur Hlc Hlr hbel
  go_wp2_with fail
  refine (trim_row (B := w'.heap.size) hrow (Nat.le_refl _) (Nat.le_refl _) hxm hx.1).mono ?_
  rintro e w3 ⟨rfl, v, rfl, hnum⟩
  go_wp2
  go_ret
  exact ⟨_, rfl, hnum.mono hxk, hB2⟩
theorem row_two (w : World) (x y : Int) : Row .u32 70 (w.alloc (.cells #[.int .u32 x, .int .u32 y] 70)) w.heap.size [x, y] := by
  unfold Row
  rw [heap_alloc_new]
  rfl
set_option maxHeartbeats 1000000 in
theorem from_any {w : World} (x : Int) (h0 : 0 ≤ x) (h1 : x < 18446744073709551616) :
    Calls Tryz.prog 164 #[.int .u64 x] w fun e w' => ∃ v, e = .returned v ∧ Num w.heap.size w' v x 2 ∧ Below w.heap.size w w' := by
  go_enter Tryz.func164, Tryz.ntmps164
  go_wp2_with fail
  refine (trim_row (B := w.heap.size) (cap := 2) (row_two w (x % 4294967296) (x / 4294967296)) (Nat.le_refl _) (Nat.le_refl _) (by unfold maxLen; omega) ?_).mono ?_
  · intro i
    match i with
    | 0 => simp only [Nt.lb, List.getD_cons_zero]; omega
    | 1 => simp only [Nt.lb, List.getD_cons_succ, List.getD_cons_zero]; omega
    | i + 2 => simp [Nt.lb]
  rintro e w3 ⟨rfl, v, rfl, hnum⟩
  have hv : Nt.val [x % 4294967296, x / 4294967296] = x := by
    show Nt.vt _ 2 = x
    simp only [Nt.vt, Nt.pw, Nt.lb, List.getD_cons_zero, List.getD_cons_succ]
    omega
  have Hn : Hid _ := hnum
  have Hv : Hid _ := hv
  clear hnum hv
  go_wp2
  go_ret
  have hnum := Hn.out
  rw [Hv.out] at hnum
  exact ⟨_, rfl, hnum, (Below.refl _ _).alloc (Nat.le_refl _) _⟩
end Go.Proofs.YticmlelalbaalaaGreatDoor
