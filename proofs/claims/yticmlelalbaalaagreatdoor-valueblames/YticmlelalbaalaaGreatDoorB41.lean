import Derived.Test.YticmlelalbaalaaGreatDoorB38
import Derived.Test.YticmlelalbaalaaGreatDoorB06
namespace Go.Proofs.YticmlelalbaalaaGreatDoor
open Go.RowKit
theorem power_0 (w : World) : Calls Tryz.prog 202 #[.int .i64 0] w fun e w' => e = .returned (.int .i64 1) ∧ w' = w := by
  have hi : ∀ w, (Instr.index 258 (.agg #[.int .i64 1, .int .i64 2, .int .i64 4, .int .i64 8, .int .i64 16, .int .i64 32, .int .i64 64, .int .i64 128]) (.int .i64 0)).run Tryz.prog w = .ok (.int .i64 1) w := fun _ => by kernel_rfl
  go_enter Tryz.func202, Tryz.ntmps202
  go_wp2
  go_ret
  exact ⟨rfl, rfl⟩
theorem power_1 (w : World) : Calls Tryz.prog 202 #[.int .i64 1] w fun e w' => e = .returned (.int .i64 2) ∧ w' = w := by
  have hi : ∀ w, (Instr.index 258 (.agg #[.int .i64 1, .int .i64 2, .int .i64 4, .int .i64 8, .int .i64 16, .int .i64 32, .int .i64 64, .int .i64 128]) (.int .i64 1)).run Tryz.prog w = .ok (.int .i64 2) w := fun _ => by kernel_rfl
  go_enter Tryz.func202, Tryz.ntmps202
  go_wp2
  go_ret
  exact ⟨rfl, rfl⟩
theorem power_2 (w : World) : Calls Tryz.prog 202 #[.int .i64 2] w fun e w' => e = .returned (.int .i64 4) ∧ w' = w := by
  have hi : ∀ w, (Instr.index 258 (.agg #[.int .i64 1, .int .i64 2, .int .i64 4, .int .i64 8, .int .i64 16, .int .i64 32, .int .i64 64, .int .i64 128]) (.int .i64 2)).run Tryz.prog w = .ok (.int .i64 4) w := fun _ => by kernel_rfl
  go_enter Tryz.func202, Tryz.ntmps202
  go_wp2
  go_ret
  exact ⟨rfl, rfl⟩
theorem power_3 (w : World) : Calls Tryz.prog 202 #[.int .i64 3] w fun e w' => e = .returned (.int .i64 8) ∧ w' = w := by
  have hi : ∀ w, (Instr.index 258 (.agg #[.int .i64 1, .int .i64 2, .int .i64 4, .int .i64 8, .int .i64 16, .int .i64 32, .int .i64 64, .int .i64 128]) (.int .i64 3)).run Tryz.prog w = .ok (.int .i64 8) w := fun _ => by kernel_rfl
  go_enter Tryz.func202, Tryz.ntmps202
  go_wp2
  go_ret
  exact ⟨rfl, rfl⟩
theorem power_4 (w : World) : Calls Tryz.prog 202 #[.int .i64 4] w fun e w' => e = .returned (.int .i64 16) ∧ w' = w := by
  have hi : ∀ w, (Instr.index 258 (.agg #[.int .i64 1, .int .i64 2, .int .i64 4, .int .i64 8, .int .i64 16, .int .i64 32, .int .i64 64, .int .i64 128]) (.int .i64 4)).run Tryz.prog w = .ok (.int .i64 16) w := fun _ => by kernel_rfl
  go_enter Tryz.func202, Tryz.ntmps202
  go_wp2
  go_ret
  exact ⟨rfl, rfl⟩
theorem power_5 (w : World) : Calls Tryz.prog 202 #[.int .i64 5] w fun e w' => e = .returned (.int .i64 32) ∧ w' = w := by
  have hi : ∀ w, (Instr.index 258 (.agg #[.int .i64 1, .int .i64 2, .int .i64 4, .int .i64 8, .int .i64 16, .int .i64 32, .int .i64 64, .int .i64 128]) (.int .i64 5)).run Tryz.prog w = .ok (.int .i64 32) w := fun _ => by kernel_rfl
  go_enter Tryz.func202, Tryz.ntmps202
  go_wp2
  go_ret
  exact ⟨rfl, rfl⟩
theorem power_6 (w : World) : Calls Tryz.prog 202 #[.int .i64 6] w fun e w' => e = .returned (.int .i64 64) ∧ w' = w := by
  have hi : ∀ w, (Instr.index 258 (.agg #[.int .i64 1, .int .i64 2, .int .i64 4, .int .i64 8, .int .i64 16, .int .i64 32, .int .i64 64, .int .i64 128]) (.int .i64 6)).run Tryz.prog w = .ok (.int .i64 64) w := fun _ => by kernel_rfl
  go_enter Tryz.func202, Tryz.ntmps202
  go_wp2
  go_ret
  exact ⟨rfl, rfl⟩
theorem power_7 (w : World) : Calls Tryz.prog 202 #[.int .i64 7] w fun e w' => e = .returned (.int .i64 128) ∧ w' = w := by
  have hi : ∀ w, (Instr.index 258 (.agg #[.int .i64 1, .int .i64 2, .int .i64 4, .int .i64 8, .int .i64 16, .int .i64 32, .int .i64 64, .int .i64 128]) (.int .i64 7)).run Tryz.prog w = .ok (.int .i64 128) w := fun _ => by kernel_rfl
  go_enter Tryz.func202, Tryz.ntmps202
  go_wp2
  go_ret
  exact ⟨rfl, rfl⟩
theorem power_any (s : Nat) (hs : s < 8) (w : World) : Calls Tryz.prog 202 #[.int .i64 s] w fun e w' => e = .returned (.int .i64 (p2 s)) ∧ w' = w := by
  match s, hs with
  | 0, _ => exact power_0 w
  | 1, _ => exact power_1 w
  | 2, _ => exact power_2 w
  | 3, _ => exact power_3 w
  | 4, _ => exact power_4 w
  | 5, _ => exact power_5 w
  | 6, _ => exact power_6 w
  | 7, _ => exact power_7 w
theorem b_vt_pad (W : Nat) (ys : List Int) (m : Nat) : Nb.vt (List.replicate W 0 ++ ys) (W + m) = Nb.vt ys m * Nb.pw W := by
  induction m with
  | zero =>
    rw [Nat.add_zero, Nb.vt_cut (k := 0) (by omega) (fun i _ h => lb_pad_low W ys h)]; simp [Nb.vt]
  | succ m ih => rw [← Nat.add_assoc, Nb.vt_succ, ih, lb_pad, Nb.vt_succ, Nb.pw_add, Int.add_mul, Int.mul_comm (Nb.pw W), Int.mul_assoc]
theorem b_val_pad (W : Nat) (ys : List Int) : Nb.val (List.replicate W 0 ++ ys) = Nb.val ys * Nb.pw W := by
  unfold Nb.val
  rw [List.length_append, List.length_replicate]
  exact b_vt_pad W ys _
theorem b_ok_pad {ys : List Int} (W : Nat) (h : Nb.Ok ys) : Nb.Ok (List.replicate W 0 ++ ys) := by
  intro i
  by_cases h1 : i < W
  · rw [lb_pad_low W ys h1]; omega
  · obtain ⟨j, rfl⟩ : ∃ j, i = W + j := ⟨i - W, by omega⟩
    rw [lb_pad]; exact h j
set_option maxHeartbeats 1000000 in
theorem rshl_zero {w : World} {va : Value} {n : Int} {ka : Nat} (ha : Arg w va 0 ka) (hka : ka ≤ 1099511627776) (hn : 0 ≤ n) :
    Calls Tryz.prog 182 #[va, .int .i64 n] w fun e w' => e = .returned (.tuple #[.slice none 0 0, .bool true]) ∧ Below w.heap.size w w' := by
  have hn' : ¬ n < 0 := by omega
  go_enter Tryz.func182, Tryz.ntmps182
  go_wp2_with fail
  refine (bytes_any ha hka).mono ?_
  rintro e w1 ⟨v1, rfl, ⟨xs, ⟨ao, ca, rfl, hxl, hxm, hxc⟩, hx, hv, hxk⟩, hb1⟩
  have hxe := (Nb.canon_zero hx).1 hv
  subst hxe
  clear ha hv
  go_wp2
  go_ret2
  exact ⟨rfl, hb1⟩
theorem b_canon_pos {xs : List Int} (h : 0 < Nb.val xs) : 0 < xs.length := by
  rcases Nat.eq_zero_or_pos xs.length with h0 | h0
  · rw [List.eq_nil_of_length_eq_zero h0, Nb.val_nil] at h; omega
  · exact h0
theorem owns_drewN {w : World} {n : Nat} {B : Nat} {E : TypeId} {sz : Nat} {v : Value} {m : Nat} {xs : List Value} (h : w.ownsRow B E sz v m xs) : (w.drewN n).ownsRow B E sz v m xs := by
  induction n with
  | zero => exact h
  | succ n ih => exact ih.drew
set_option maxRecDepth 100000 in
set_option maxHeartbeats 4000000 in
theorem rshl_ok {w : World} {va : Value} {A : Int} {ka k N W s : Nat} (ha : Arg w va A ka) (hka : ka ≤ 1099511627776) (hA : 0 < A) (hk : IsLen A k) (hk2 : k ≤ 32 * ka) (hfit : N + k ≤ 8388608) (hN : N = 8 * W + s) (hs : s < 8) :
    Calls Tryz.prog 182 #[va, .int .i64 N] w fun e w' => ∃ v, e = .returned (.tuple #[v, .bool true]) ∧ Num w.heap.size w' v (A * p2 N) (W + ka + 1) ∧ Below w.heap.size w w' := by
  have hq : (N : Int) / 8 = (W : Int) := by omega
  have hr : (N : Int) % 8 = (s : Int) := by omega
  have HN := hide hN
  have Hk := hide hk
  clear hN hk
  have hNb : ¬ 8388608 < (N : Int) := by omega
  have hWb : W ≤ 1048576 := by omega
  obtain ⟨i0, hi, hz0, hz1, hz2⟩ := info_parts Tryz.infoI64
  go_enter Tryz.func182, Tryz.ntmps182
  go_wp2_with fail
  refine (bytes_any ha hka).mono ?_
  rintro e w1 ⟨v1, rfl, ⟨xs, ⟨ao, ca, rfl, hxl, hxm, hxc⟩, hx, rfl, hxk⟩, hb1⟩
  have hp := b_canon_pos hA
  have h0 : ((xs.length : Int) == 0) = false := by simp; intro e; subst e; simp at hp
  clear hA
  go_wp2_with fail
  refine (rlen_any (ha.below hb1) hka Hk.out).mono ?_
  rintro e w2 ⟨rfl, hb2⟩
  have hg2 : ¬ 8388608 < (k : Int) + (N : Int) := by omega
  replace hxc := hxc.below hb2
  have hbb := below_trans hb1 hb2
  clear ha hb1 hb2
  go_wp2_with (at_make; refine wpList_make_full _ rfl _ _ 61 rfl w2.heap.size 3 i0 (.int .i64 0) 1 Tryz.underlying61 hi hz0 hz1 _ _ _ _ W rfl rfl (by omega) (by omega) ?b2 ?b3 (Nat.le_refl _) ?_)
  case b2 => rw [hz2]; omega
  case b3 => unfold maxLen; omega
  intro w3 hown0 hgrow0
  have hbel0 : Below w2.heap.size w2 w3 := (Below.refl _ _).grown hgrow0 (Nat.le_refl _) (fun k h => by cases h)
  have hown1 : w3.ownsRow w2.heap.size 3 1 (.slice (some ⟨w2.heap.size, 0, none⟩) W W) (W + 0) ((List.replicate W (0 : Int) ++ []).map (Value.int .i64)) := by
    have e : (madeCells #[Value.int IntKind.i64 0] W).toList = (List.replicate W (0 : Int) ++ []).map (Value.int .i64) := by
      rw [toList_madeCells_one]; simp
    rw [← e]; exact hown0
  clear hown0 hgrow0
  have hP0 := p2_pos s
  have hP1 : p2 s ≤ 128 := by have h := p2_mono (m := s) (n := 7) (by omega); rw [show p2 7 = 128 by decide] at h; exact h
  obtain ⟨P, hP⟩ : ∃ P, p2 s = P := ⟨_, rfl⟩
  have hpow := fun (W : World) => power_any s hs W
  rw [hP] at hP0 hP1 hpow
  have HP := hide hP
  have Hpow := hide hpow
  clear hP hpow
  go_wp2
  go_loopw [7, 8, 9] (fun out sc si wr => ∃ (c : Int) (us : List Int), us.length ≤ xs.length ∧ si = .int .i64 us.length ∧ sc = .int .i64 c ∧ 0 ≤ c ∧ c < P ∧ Nb.Ok us ∧ Nb.val us + c * Nb.pw us.length = Nb.vt xs us.length * P ∧
      wr.ownsRow w2.heap.size 3 1 out (W + us.length) ((List.replicate W (0 : Int) ++ us).map (Value.int .i64)) ∧ Below w2.heap.size w2 wr) (fun _ _ si _ => xs.length - (intOf si).toNat)
  case atStart => exact ⟨0, [], by simp, rfl, rfl, by omega, hP0, Nb.ok_nil, by simp [Nb.val, Nb.vt], hown1, hbel0⟩
  case round =>
    obtain ⟨c, us, hul, rfl, rfl, hc0, hc1, huo, heq, hown, hbr⟩ := hrel
    have Heq := hide heq
    clear heq hown1 hbel0
    obtain ⟨j, hj⟩ : ∃ j, us.length = j := ⟨_, rfl⟩
    rw [hj] at hown hul ⊢
    have Hj := hide hj
    clear hj
    have hsz := hbr.size
    by_cases h1 : j < xs.length
    · have hc1' : (j : Int) < (xs.length : Int) := by omega
      obtain ⟨b1, o1, rfl, _, hcc⟩ := (hxc.below hbr) (by omega)
      have g1 := hcc j h1
      obtain ⟨bx0, bx1⟩ := hx.1 j
      have p0 : 0 ≤ Nt.lb xs j * P := Int.mul_nonneg bx0 (by omega)
      have p1 : Nt.lb xs j * P ≤ 255 * P := Int.mul_le_mul_of_nonneg_right (by omega) (by omega)
      have hown2 : ∀ nq, (wr.drewN nq).ownsRow w2.heap.size 3 1 _ (W + j) ((List.replicate W (0 : Int) ++ us).map (Value.int .i64)) := fun nq => owns_drewN hown
      clear hcc hxc
      go_wp2
      go_quiet ((go_at_call 202; exact Calls.quiet_of_same (Hpow.out _)))
      go_wp2_with (at_builtin; refine wpList_append_cells _ rfl _ _ 61 rfl w2.heap.size 3 .i64 8 Tryz.underlying61 Tryz.infoI64 _ (W + j) (List.replicate W (0 : Int) ++ us) rfl ((hown2 _).alloc _) _ 1 [(Nt.lb xs j * P + c) % 256] rfl (cells_one _ _ _ _) (by unfold maxLen; simp; omega) (by simp; omega) (by simp; omega) ?_)
      intro v' w4 hown' hgrow
      have hb4 : Below w2.heap.size w2 w4 := below_own ((below_drewN' hbr).alloc (by rw [heap_drewN]; exact hsz) _) (by simp; omega) ((hown2 _).alloc _) hgrow
      have Hown' := hide hown'
      have hst := byte_step (V := Nb.val us) (x := Nt.lb xs j * P + c) (P := Nb.pw j)
      have Hst := hide hst
      clear hown' hgrow hst hown hown2
      go_wp2
      go_roundw
      case rel => exact ⟨(Nt.lb xs j * P + c) / 256, us ++ [(Nt.lb xs j * P + c) % 256], by rw [List.length_append, List.length_singleton, Hj.out]; omega, by rw [List.length_append, List.length_singleton, Hj.out]; go_num, rfl, by omega, by omega, Nb.ok_snoc huo (by omega), by
        have h1 := Heq.out
        rw [Hj.out] at h1
        rw [Nb.val_snoc, List.length_append, List.length_singleton, Hj.out, Nb.pw_succ, Hst.out, Nb.vt_succ, Int.add_mul, Int.add_mul, ← h1, Int.mul_right_comm]; omega, by simpa [Hj.out, Nat.add_assoc] using Hown'.out, hb4⟩
      case measure => simp [intOf]; omega
    · have hc1' : ¬ (j : Int) < (xs.length : Int) := by omega
      have Hje := hide (show j = xs.length by omega)
      go_wp2_with (at_builtin; refine wpList_append_cells _ rfl _ _ 61 rfl w2.heap.size 3 .i64 8 Tryz.underlying61 Tryz.infoI64 _ (W + j) (List.replicate W (0 : Int) ++ us) rfl (hown.alloc _) _ 1 [c] rfl (cells_one _ _ _ _) (by unfold maxLen; simp; omega) (by simp; omega) (by simp; omega) ?_)
      intro v' w4 hown' hgrow
      have hb4 : Below w2.heap.size w2 w4 := below_own (hbr.alloc hsz _) (by simp; omega) (hown.alloc _) hgrow
      have hfin : Nb.val (List.replicate W (0 : Int) ++ (us ++ [c])) = Nb.val xs * p2 N := by
        have h1 := Heq.out
        rw [Hj.out, Hje.out] at h1
        rw [b_val_pad, Nb.val_snoc, Hj.out, Hje.out, h1, HN.out, p2_add, p2_8, HP.out]
        unfold Nb.val
        rw [Int.mul_assoc, Int.mul_comm P]
      have hrd : Reads .i64 w4 v' (List.replicate W (0 : Int) ++ (us ++ [c])) := reads_of_owns (n := W + j + 1) (by simpa using hown')
      have hla := limbs_any (ka := W + j + 1) ⟨_, hrd, b_ok_pad W (Nb.ok_snoc huo (by omega)), rfl, by simp [Hj.out]; omega⟩ (by omega)
      rw [hfin] at hla
      have Hla := hide hla
      clear hown' hgrow hown hfin hrd hla
      go_wp2_with fail
      refine Calls.mono Hla.out ?_
      rintro e w5 ⟨v, rfl, hv, hb5⟩
      go_wp2
      go_ret2
      exact ⟨v, rfl, (num_since hv (by have := hbb.size; have := hb4.size; omega)).mono (by omega), below_trans hbb (hb4.trans (hb5.mono hb4.size))⟩
end Go.Proofs.YticmlelalbaalaaGreatDoor
