/- repeats: the iterator (nt) -/
import Derived.Test.YtomieeajmelglaaOHeld
namespace Go.Proofs.Ytomieeajmelglaa
open Go.RowKit Go.Shelf
set_option linter.unusedVariables false
set_option linter.unusedSimpArgs false
attribute [local go_sem] Oper.semAt_some

/-- the places of what is alike to the one right ahead -/
def reps {α : Type} (f : α → α → Int) : Nat → List α → List Nat
  | k, x :: y :: t => if f x y = 0 then (k + 1) :: reps f (k + 1) (y :: t) else reps f (k + 1) (y :: t)
  | _, _ => []
theorem reps_yes {α : Type} {f : α → α → Int} {xs : List α} {i : Nat} (h : i + 1 < xs.length) (hf : f xs[i] xs[i + 1] = 0) : reps f i (xs.drop i) = (i + 1) :: reps f (i + 1) (xs.drop (i + 1)) := by
  rw [List.drop_eq_getElem_cons (show i < xs.length by omega), List.drop_eq_getElem_cons h, reps, if_pos hf]
theorem reps_no {α : Type} {f : α → α → Int} {xs : List α} {i : Nat} (h : i + 1 < xs.length) (hf : ¬ f xs[i] xs[i + 1] = 0) : reps f i (xs.drop i) = reps f (i + 1) (xs.drop (i + 1)) := by
  rw [List.drop_eq_getElem_cons (show i < xs.length by omega), List.drop_eq_getElem_cons h, reps, if_neg hf]
theorem reps_end {α : Type} {f : α → α → Int} {xs : List α} {i : Nat} (h : ¬ i + 1 < xs.length) : reps f i (xs.drop i) = [] := by
  by_cases h2 : i < xs.length
  · rw [List.drop_eq_getElem_cons h2, List.drop_eq_nil_of_le (by omega), reps]
    intro x y t e
    cases e
  · rw [List.drop_eq_nil_of_le (by omega), reps]
    intro x y t e
    cases e
theorem reps_len {α : Type} (f : α → α → Int) (k : Nat) (xs : List α) : (reps f k xs).length ≤ xs.length := by
  fun_induction reps f k xs with
  | case1 k x y t h ih => simp at ih ⊢; omega
  | case2 k x y t h ih => simp at ih ⊢; omega
  | case3 => simp
theorem yield_one {e : Ending} {A B : Prop} (h : (e = .returned (.bool true) ∧ A) ∨ (e = .returned (.bool false) ∧ B)) : ∃ b, e = .returned (.bool b) ∧ ((b = true ∧ A) ∨ (b = false ∧ B)) := by
  rcases h with ⟨h, a⟩ | ⟨h, a⟩
  · exact ⟨true, h, .inl ⟨rfl, a⟩⟩
  · exact ⟨false, h, .inr ⟨rfl, a⟩⟩
/-- a place in a list of n -/
abbrev Pl (n : Nat) := { x : Nat // x < n }
abbrev plEncs (n : Nat) (x : Pl n) : Array Value := #[.int .i64 (x.1 : Int)]
set_option maxRecDepth 100000 in
set_option maxHeartbeats 1000000 in
theorem ntrep_box {w : World} {ao : Option Addr} {la ca g : Nat} {cs : Array Value} : Calls Try.prog 46 #[.slice ao la ca, .func (.func g) #[] cs] w fun e w' => e = .returned (.func (.func 55) #[] #[.pointer (some ⟨w.heap.size, 0, none⟩), .pointer (some ⟨w.heap.size + 1, 0, none⟩)]) ∧ Boxed w' w.heap.size 61 (.slice ao la ca) ∧ Boxed w' (w.heap.size + 1) 60 (.func (.func g) #[] cs) ∧ Below w.heap.size w w' := by
  go_enter Try.func46, Try.ntmps46
  go_wp2
  go_ret
  refine ⟨rfl, (Boxed.new _ _ _).alloc _, ?_, ((Below.refl _ w).alloc (Nat.le_refl _) _).alloc (by simp) _⟩
  have := Boxed.new (w.alloc (.cells #[.slice ao la ca] 61)) 60 (.func (.func g) #[] cs)
  simpa using this

set_option maxRecDepth 100000 in
set_option maxHeartbeats 16000000 in
theorem ntrep1_in {n l Ba Bc n₀ N m : Nat} {X : Nat → Prop} {I : World → Prop} {w : World} {va cv : Value} {xs : List Int} {f : Int → Int → Int} (hn : 1 ≤ n)
    (bA : Boxed w Ba 61 va) (bC : Boxed w Bc 60 cv) (lA : Ba < n₀ ∧ ¬ X Ba) (lC : Bc < n₀ ∧ ¬ X Bc)
    (ha : NtRd (fun g => g < n₀ ∧ ¬ X g) w va xs) (hc : CmpIsN I cv m f) (hIw : I w) (hI : ∀ W W', I W → BelX X n₀ W W' → I W') (hw : n₀ ≤ w.heap.size) (hN : xs.length ≤ N) (hx : xs.length ≤ 4611686018427387903) (hxm : ∀ x ∈ xs, 0 ≤ x ∧ x < m)
    (J Jx : List (Pl xs.length) → World → Prop) (hY : ∀ pre x W, J pre W → pre.length < N → YieldAt Fence.wide (n - 1) Try.prog l (plEncs xs.length x) W fun e W' =>
      (e = .returned (.bool true) ∧ J (pre ++ [x]) W' ∧ BelX X n₀ W W') ∨ (e = .returned (.bool false) ∧ Jx (pre ++ [x]) W'))
    (W : World) (hJ : AbidesFrom W.heap.size J) (hW : Below w.heap.size w W) (h0 : J [] W) :
    CallsIn Fence.wide n Try.prog 55 #[.func (.yield l) #[] #[], .pointer (some ⟨Ba, 0, none⟩), .pointer (some ⟨Bc, 0, none⟩)] W fun e W' => (∃ v, e = .returned v) ∧
      ((∃ zs : List (Pl xs.length), zs.map Subtype.val = reps f 0 xs ∧ J zs W') ∨ (∃ pre : List (Pl xs.length), pre.map Subtype.val <+: reps f 0 xs ∧ Jx pre W')) := by
  obtain ⟨cg, cl, rfl, eg, hcall⟩ := hc.val
  obtain ⟨ao, ca, rfl, hac, ham, hacl⟩ := ha
  unfold maxLen at ham
  have RA := hide hacl
  have HC := hide hcall
  have HY := hide hY
  have HII := hide hI
  have HIw := hide hIw
  have HJ := hide hJ
  have BA := hide bA
  have BC := hide bC
  have HXM := hide hxm
  clear hacl hcall hY hI hIw hJ bA bC hc hxm
  obtain ⟨Z, hZ⟩ : ∃ Z, reps f 0 xs = Z := ⟨_, rfl⟩
  rw [hZ]
  have HZ := hide hZ
  clear hZ
  refine callsIn_of_wp Try.func55 rfl trivial ?_ rfl
  simp only [Try.ntmps55, List.size_toArray, List.length_cons, List.length_nil, Nat.reduceAdd, Nat.reduceSub, Array.replicate_succ, Array.replicate_zero, List.push_toArray, List.append_toArray, List.nil_append, List.cons_append]
  gi_wp2
  gi_loopw [4] (fun p wr => ∃ (i : Nat) (pre : List (Pl xs.length)), p = .int .i64 ((i + 1 : Nat) : Int) ∧ i ≤ xs.length ∧ Hid (pre.map Subtype.val ++ reps f i (xs.drop i) = Z) ∧ pre.length ≤ i ∧ Hid (BelX X n₀ w wr) ∧ W.heap.size ≤ wr.heap.size ∧ J pre wr)
    (fun p _ => xs.length + 1 - (intOf p).toNat)
  case atStart => exact ⟨0, [], rfl, by omega, hide (by simpa using HZ.out), by simp, hide (BelX.of hW hw), Nat.le_refl _, h0⟩
  case round =>
    obtain ⟨i, pre, rfl, hi, hpre, hpl, hB, hWr, hJw⟩ := hrel
    have bA := hB.out.boxed BA.out lA.1 lA.2
    have bC := hB.out.boxed BC.out lC.1 lC.2
    have cA := bA.cell
    have cC := bC.cell
    by_cases hi1 : i + 1 < xs.length
    · obtain ⟨ga, oa, rfl, Ga, la, ia⟩ := RA.out (by omega)
      have hi2 : i < xs.length := by omega
      obtain ⟨j, hj⟩ : ∃ j, i + 1 = j := ⟨_, rfl⟩
      have hj1 : j < xs.length := by omega
      have q1 : (j : Int) < (xs.length : Int) := by omega
      have q2 : (i : Int) < (xs.length : Int) := by omega
      have q3 : IntKind.i64.wrap ((j : Int) - 1) = (i : Int) := by rw [IntKind.wrap_i64]; omega
      have q4 : (0 : Int) ≤ (i : Int) := by omega
      rw [hj]
      obtain ⟨x1, hx1⟩ : ∃ x, xs[i]'hi2 = x := ⟨_, rfl⟩
      obtain ⟨y1, hy1⟩ : ∃ x, xs[j]'hj1 = x := ⟨_, rfl⟩
      have c1 := (hB.out.cell (p := ⟨ga, _, none⟩) Ga.1 Ga.2).trans (ia i hi2)
      have c2 := (hB.out.cell (p := ⟨ga, _, none⟩) Ga.1 Ga.2).trans (ia j hj1)
      rw [hx1] at c1
      rw [hy1] at c2
      have HJJ := hide hj
      clear hj
      have HXX : Hid (0 ≤ x1 ∧ x1 < (m : Int) ∧ 0 ≤ y1 ∧ y1 < (m : Int)) := hide (by have a := HXM.out _ (List.getElem_mem hi2); have b := HXM.out _ (List.getElem_mem hj1); rw [hx1] at a; rw [hy1] at b; exact ⟨a.1, a.2, b.1, b.2⟩)
      by_cases hf : f (xs[i]'hi2) (xs[j]'hj1) = 0
      · have hfy : f x1 y1 = 0 := by rw [← hx1, ← hy1]; exact hf
        have HF := hide hf
        have HFY := hide hfy
        clear hf hfy
        gi_wp2
        have HWr : Hid (Below wr.heap.size wr wr.drew) := hide (Below.refl _ _).drew
        have HCX := hide (HC.out wr.drew x1 y1 (HII.out _ _ HIw.out (hB.out.trans (BelX.of HWr.out (Nat.le_trans hw hB.out.size)))) HXX.out.1 HXX.out.2.1 HXX.out.2.2.1 HXX.out.2.2.2)
        rw [HFY.out] at HCX
        refine wpHeld.region (C := fun u => u = wr.drew) (D := fun j => decide (10 ≤ j)) (by kernel_rfl) ?_
        refine wpHeld.tk (i := 0) (d := some 11) (v := .func (.func cg) #[] cl) (by kernel_rfl) rfl (by kernel_rfl) (by kernel_rfl) (by kernel_rfl) (by kernel_rfl) rfl (fun _ _ _ h => h) ⟨Or.inl ⟨by rfl, ?_⟩, fun _ => rfl⟩ rfl ?_
        · rintro _ rfl
          go_simp
        simp only [Act.put, List.setIfInBounds_toArray, List.set_cons_zero, List.set_cons_succ]
        refine wpHeld.tk (i := 1) (d := some 12) (v := .slice (some ⟨ga, oa, none⟩) xs.length ca) (by kernel_rfl) rfl (by kernel_rfl) (by kernel_rfl) (by kernel_rfl) (by kernel_rfl) rfl (fun _ _ _ h => h) ⟨Or.inl ⟨by rfl, ?_⟩, fun _ => rfl⟩ rfl ?_
        · rintro _ rfl
          go_simp
        simp only [Act.put, List.setIfInBounds_toArray, List.set_cons_zero, List.set_cons_succ]
        refine wpHeld.tk (i := 2) (d := some 13) (v := .int .i64 j) (by kernel_rfl) rfl (by kernel_rfl) (by kernel_rfl) (by kernel_rfl) (by kernel_rfl) rfl (fun _ _ _ h => h) ⟨Or.inl ⟨by rfl, ?_⟩, fun _ => rfl⟩ rfl ?_
        · rintro _ rfl
          go_simp
        simp only [Act.put, List.setIfInBounds_toArray, List.set_cons_zero, List.set_cons_succ]
        refine wpHeld.tk (i := 3) (d := some 14) (v := .int .i64 i) (by kernel_rfl) rfl (by kernel_rfl) (by kernel_rfl) (by kernel_rfl) (by kernel_rfl) rfl (fun _ _ _ h => h) ⟨Or.inl ⟨by rfl, ?_⟩, fun _ => rfl⟩ rfl ?_
        · rintro _ rfl
          go_simp
        simp only [Act.put, List.setIfInBounds_toArray, List.set_cons_zero, List.set_cons_succ]
        refine wpHeld.tk (i := 4) (d := some 15) (v := .pointer (some ⟨ga, oa + i, none⟩)) (by kernel_rfl) rfl (by kernel_rfl) (by kernel_rfl) (by kernel_rfl) (by kernel_rfl) rfl (fun _ _ _ h => h) ⟨Or.inl ⟨by rfl, ?_⟩, fun _ => rfl⟩ rfl ?_
        · rintro _ rfl
          go_simp
        simp only [Act.put, List.setIfInBounds_toArray, List.set_cons_zero, List.set_cons_succ]
        refine wpHeld.tk (i := 5) (d := some 16) (v := .int .i64 x1) (by kernel_rfl) rfl (by kernel_rfl) (by kernel_rfl) (by kernel_rfl) (by kernel_rfl) rfl (fun _ _ _ h => h) ⟨Or.inl ⟨by rfl, ?_⟩, fun _ => rfl⟩ rfl ?_
        · rintro _ rfl
          go_simp
        simp only [Act.put, List.setIfInBounds_toArray, List.set_cons_zero, List.set_cons_succ]
        refine wpHeld.tk (i := 6) (d := some 17) (v := .slice (some ⟨ga, oa, none⟩) xs.length ca) (by kernel_rfl) rfl (by kernel_rfl) (by kernel_rfl) (by kernel_rfl) (by kernel_rfl) rfl (fun _ _ _ h => h) ⟨Or.inl ⟨by rfl, ?_⟩, fun _ => rfl⟩ rfl ?_
        · rintro _ rfl
          go_simp
        simp only [Act.put, List.setIfInBounds_toArray, List.set_cons_zero, List.set_cons_succ]
        refine wpHeld.tk (i := 7) (d := some 18) (v := .int .i64 j) (by kernel_rfl) rfl (by kernel_rfl) (by kernel_rfl) (by kernel_rfl) (by kernel_rfl) rfl (fun _ _ _ h => h) ⟨Or.inl ⟨by rfl, ?_⟩, fun _ => rfl⟩ rfl ?_
        · rintro _ rfl
          go_simp
        simp only [Act.put, List.setIfInBounds_toArray, List.set_cons_zero, List.set_cons_succ]
        refine wpHeld.tk (i := 8) (d := some 19) (v := .pointer (some ⟨ga, oa + j, none⟩)) (by kernel_rfl) rfl (by kernel_rfl) (by kernel_rfl) (by kernel_rfl) (by kernel_rfl) rfl (fun _ _ _ h => h) ⟨Or.inl ⟨by rfl, ?_⟩, fun _ => rfl⟩ rfl ?_
        · rintro _ rfl
          go_simp
        simp only [Act.put, List.setIfInBounds_toArray, List.set_cons_zero, List.set_cons_succ]
        refine wpHeld.tk (i := 9) (d := some 20) (v := .int .i64 y1) (by kernel_rfl) rfl (by kernel_rfl) (by kernel_rfl) (by kernel_rfl) (by kernel_rfl) rfl (fun _ _ _ h => h) ⟨Or.inl ⟨by rfl, ?_⟩, fun _ => rfl⟩ rfl ?_
        · rintro _ rfl
          go_simp
        simp only [Act.put, List.setIfInBounds_toArray, List.set_cons_zero, List.set_cons_succ]
        refine wpHeld.one (i := 10) (by kernel_rfl) rfl (fun K hK => ?_)
        rw [if_pos (by rfl)]
        go_simp
        refine ⟨trivial, (callsIn_wide.2 HCX.out).mono ?_⟩
        rintro e w8 ⟨rfl, hb⟩
        have HKB := hide hb
        clear hb
        have Jp := HJ.out pre wr _ none hJw (ograwn (HWr.out.trans (HKB.out.mono HWr.out.size))) (fun r e => by cases e)
        obtain ⟨fn, tmps, assign, body, hy, hR⟩ := HY.out pre ⟨j, hj1⟩ w8 Jp (by omega)
        dsimp only [plEncs] at hy
        refine hK _ _ ⟨fun h => absurd h (by decide), ?_⟩
        refine wpHeld.change (C' := fun _ => True) (D' := fun _ => false) _ _ _ _ (fun k hk => ?_) ?_
        · have hk' : k < 10 := by simpa using hk
          revert hk'
          revert k
          clear hK
          intro k hk hk'
          match k, hk' with
          | 0, _ => rfl
          | 1, _ => rfl
          | 2, _ => rfl
          | 3, _ => rfl
          | 4, _ => rfl
          | 5, _ => rfl
          | 6, _ => rfl
          | 7, _ => rfl
          | 8, _ => rfl
          | 9, _ => rfl
        clear hK K HCX
        refine wpHeld.tk (i := 11) (d := some 22) (v := .bool true) (by kernel_rfl) rfl (by kernel_rfl) (by kernel_rfl) (by kernel_rfl) (by kernel_rfl) rfl (fun _ _ _ h => h) ⟨Or.inl ⟨by rfl, ?_⟩, fun _ => rfl⟩ trivial ?_
        · rintro _ _
          go_simp
        simp only [Act.put, List.setIfInBounds_toArray, List.set_cons_zero, List.set_cons_succ]
        refine wpHeld.tk (i := 12) (d := some 23) (v := .bool true) (by kernel_rfl) rfl (by kernel_rfl) (by kernel_rfl) (by kernel_rfl) (by kernel_rfl) rfl (fun _ _ _ h => h) ⟨Or.inl ⟨by rfl, ?_⟩, fun _ => rfl⟩ trivial ?_
        · rintro _ _
          go_simp
        simp only [Act.put, List.setIfInBounds_toArray, List.set_cons_zero, List.set_cons_succ]
        refine wpHeld.tk (i := 13) (d := some 24) (v := .func (.yield l) #[] #[]) (by kernel_rfl) rfl (by kernel_rfl) (by kernel_rfl) (by kernel_rfl) (by kernel_rfl) rfl (fun _ _ _ h => h) ⟨Or.inl ⟨by rfl, ?_⟩, fun _ => rfl⟩ trivial ?_
        · rintro _ _
          go_simp
        simp only [Act.put, List.setIfInBounds_toArray, List.set_cons_zero, List.set_cons_succ]
        refine wpHeld.tk (i := 14) (d := some 25) (v := .int .i64 j) (by kernel_rfl) rfl (by kernel_rfl) (by kernel_rfl) (by kernel_rfl) (by kernel_rfl) rfl (fun _ _ _ h => h) ⟨Or.inl ⟨by rfl, ?_⟩, fun _ => rfl⟩ trivial ?_
        · rintro _ _
          go_simp
        simp only [Act.put, List.setIfInBounds_toArray, List.set_cons_zero, List.set_cons_succ]
        refine wpHeld.one (i := 15) (by kernel_rfl) rfl (fun K hK => ?_)
        rw [if_pos (by rfl)]
        go_simp
        refine hR.mono ?_
        rintro e W3 h3
        obtain ⟨b, rfl, h4⟩ := yield_one h3
        have H4 := hide h4
        clear h3 h4
        refine hK _ _ ⟨fun _ => trivial, ?_⟩
        clear hK K
        refine wpHeld.tk (i := 16) (d := some 27) (v := .bool (!b)) (by kernel_rfl) rfl (by kernel_rfl) (by kernel_rfl) (by kernel_rfl) (by kernel_rfl) rfl (fun _ _ _ h => h) ⟨Or.inl ⟨by rfl, ?_⟩, fun _ => rfl⟩ trivial ?_
        · rintro _ _
          go_simp
        simp only [Act.put, List.setIfInBounds_toArray, List.set_cons_zero, List.set_cons_succ]
        refine wpHeld.tk (i := 17) (d := some 28) (v := .bool (!b)) (by kernel_rfl) rfl (by kernel_rfl) (by kernel_rfl) (by kernel_rfl) (by kernel_rfl) rfl (fun _ _ _ h => h) ⟨Or.inl ⟨by rfl, ?_⟩, fun _ => rfl⟩ trivial ?_
        · rintro _ _
          go_simp
        simp only [Act.put, List.setIfInBounds_toArray, List.set_cons_zero, List.set_cons_succ]
        refine wpHeld.done (by kernel_rfl) ?_ _
        rcases H4.out with ⟨rfl, hJ3, hk3⟩ | ⟨rfl, hJx3⟩
        · have hB3 := hide (hB.out.trans ((BelX.of (HWr.out.trans (HKB.out.mono HWr.out.size)) (Nat.le_trans hw hB.out.size)).trans hk3))
          have hs3 := Nat.le_trans hWr (Nat.le_trans (HWr.out.trans (HKB.out.mono HWr.out.size)).size hk3.size)
          clear H4 hk3 hy hR Jp HKB
          gi_wp2
          go_roundw
          case rel => exact ⟨j, _, by simp, by omega, hide (by rw [← hpre.out, reps_yes hi1 (by simp only [HJJ.out]; exact HF.out)]; simp [HJJ.out]), by simp; have := HJJ.out; omega, hB3, hs3, hJ3⟩
          case measure => simp [intOf]; omega
        · clear H4 hy hR Jp HKB
          gi_wp2
          refine bodyPost_ret (results_none rfl _ _ _) rfl ?_
          refine ⟨⟨_, rfl⟩, .inr ⟨_, ?_, hJx3⟩⟩
          rw [← hpre.out, reps_yes hi1 (by simp only [HJJ.out]; exact HF.out)]
          exact ⟨reps f (i + 1) (xs.drop (i + 1)), by simp [HJJ.out]⟩
      · obtain ⟨fv, hfv⟩ : ∃ fv, f x1 y1 = fv := ⟨_, rfl⟩
        have hfy : (fv == 0) = false := by rw [← hfv, ← hx1, ← hy1]; simpa using hf
        have HF := hide hf
        have HFY := hide hfv
        clear hf hfv
        gi_wp2
        have HWr : Hid (Below wr.heap.size wr wr.drew) := hide (Below.refl _ _).drew
        have HCX := hide (HC.out wr.drew x1 y1 (HII.out _ _ HIw.out (hB.out.trans (BelX.of HWr.out (Nat.le_trans hw hB.out.size)))) HXX.out.1 HXX.out.2.1 HXX.out.2.2.1 HXX.out.2.2.2)
        rw [HFY.out] at HCX
        refine wpHeld.region (C := fun u => u = wr.drew) (D := fun j => decide (10 ≤ j)) (by kernel_rfl) ?_
        refine wpHeld.tk (i := 0) (d := some 11) (v := .func (.func cg) #[] cl) (by kernel_rfl) rfl (by kernel_rfl) (by kernel_rfl) (by kernel_rfl) (by kernel_rfl) rfl (fun _ _ _ h => h) ⟨Or.inl ⟨by rfl, ?_⟩, fun _ => rfl⟩ rfl ?_
        · rintro _ rfl
          go_simp
        simp only [Act.put, List.setIfInBounds_toArray, List.set_cons_zero, List.set_cons_succ]
        refine wpHeld.tk (i := 1) (d := some 12) (v := .slice (some ⟨ga, oa, none⟩) xs.length ca) (by kernel_rfl) rfl (by kernel_rfl) (by kernel_rfl) (by kernel_rfl) (by kernel_rfl) rfl (fun _ _ _ h => h) ⟨Or.inl ⟨by rfl, ?_⟩, fun _ => rfl⟩ rfl ?_
        · rintro _ rfl
          go_simp
        simp only [Act.put, List.setIfInBounds_toArray, List.set_cons_zero, List.set_cons_succ]
        refine wpHeld.tk (i := 2) (d := some 13) (v := .int .i64 j) (by kernel_rfl) rfl (by kernel_rfl) (by kernel_rfl) (by kernel_rfl) (by kernel_rfl) rfl (fun _ _ _ h => h) ⟨Or.inl ⟨by rfl, ?_⟩, fun _ => rfl⟩ rfl ?_
        · rintro _ rfl
          go_simp
        simp only [Act.put, List.setIfInBounds_toArray, List.set_cons_zero, List.set_cons_succ]
        refine wpHeld.tk (i := 3) (d := some 14) (v := .int .i64 i) (by kernel_rfl) rfl (by kernel_rfl) (by kernel_rfl) (by kernel_rfl) (by kernel_rfl) rfl (fun _ _ _ h => h) ⟨Or.inl ⟨by rfl, ?_⟩, fun _ => rfl⟩ rfl ?_
        · rintro _ rfl
          go_simp
        simp only [Act.put, List.setIfInBounds_toArray, List.set_cons_zero, List.set_cons_succ]
        refine wpHeld.tk (i := 4) (d := some 15) (v := .pointer (some ⟨ga, oa + i, none⟩)) (by kernel_rfl) rfl (by kernel_rfl) (by kernel_rfl) (by kernel_rfl) (by kernel_rfl) rfl (fun _ _ _ h => h) ⟨Or.inl ⟨by rfl, ?_⟩, fun _ => rfl⟩ rfl ?_
        · rintro _ rfl
          go_simp
        simp only [Act.put, List.setIfInBounds_toArray, List.set_cons_zero, List.set_cons_succ]
        refine wpHeld.tk (i := 5) (d := some 16) (v := .int .i64 x1) (by kernel_rfl) rfl (by kernel_rfl) (by kernel_rfl) (by kernel_rfl) (by kernel_rfl) rfl (fun _ _ _ h => h) ⟨Or.inl ⟨by rfl, ?_⟩, fun _ => rfl⟩ rfl ?_
        · rintro _ rfl
          go_simp
        simp only [Act.put, List.setIfInBounds_toArray, List.set_cons_zero, List.set_cons_succ]
        refine wpHeld.tk (i := 6) (d := some 17) (v := .slice (some ⟨ga, oa, none⟩) xs.length ca) (by kernel_rfl) rfl (by kernel_rfl) (by kernel_rfl) (by kernel_rfl) (by kernel_rfl) rfl (fun _ _ _ h => h) ⟨Or.inl ⟨by rfl, ?_⟩, fun _ => rfl⟩ rfl ?_
        · rintro _ rfl
          go_simp
        simp only [Act.put, List.setIfInBounds_toArray, List.set_cons_zero, List.set_cons_succ]
        refine wpHeld.tk (i := 7) (d := some 18) (v := .int .i64 j) (by kernel_rfl) rfl (by kernel_rfl) (by kernel_rfl) (by kernel_rfl) (by kernel_rfl) rfl (fun _ _ _ h => h) ⟨Or.inl ⟨by rfl, ?_⟩, fun _ => rfl⟩ rfl ?_
        · rintro _ rfl
          go_simp
        simp only [Act.put, List.setIfInBounds_toArray, List.set_cons_zero, List.set_cons_succ]
        refine wpHeld.tk (i := 8) (d := some 19) (v := .pointer (some ⟨ga, oa + j, none⟩)) (by kernel_rfl) rfl (by kernel_rfl) (by kernel_rfl) (by kernel_rfl) (by kernel_rfl) rfl (fun _ _ _ h => h) ⟨Or.inl ⟨by rfl, ?_⟩, fun _ => rfl⟩ rfl ?_
        · rintro _ rfl
          go_simp
        simp only [Act.put, List.setIfInBounds_toArray, List.set_cons_zero, List.set_cons_succ]
        refine wpHeld.tk (i := 9) (d := some 20) (v := .int .i64 y1) (by kernel_rfl) rfl (by kernel_rfl) (by kernel_rfl) (by kernel_rfl) (by kernel_rfl) rfl (fun _ _ _ h => h) ⟨Or.inl ⟨by rfl, ?_⟩, fun _ => rfl⟩ rfl ?_
        · rintro _ rfl
          go_simp
        simp only [Act.put, List.setIfInBounds_toArray, List.set_cons_zero, List.set_cons_succ]
        refine wpHeld.one (i := 10) (by kernel_rfl) rfl (fun K hK => ?_)
        rw [if_pos (by rfl)]
        go_simp
        refine ⟨trivial, (callsIn_wide.2 HCX.out).mono ?_⟩
        rintro e w8 ⟨rfl, hb⟩
        have HKB := hide hb
        clear hb
        have Jp := HJ.out pre wr _ none hJw (ograwn (HWr.out.trans (HKB.out.mono HWr.out.size))) (fun r e => by cases e)
        refine hK _ _ ⟨fun h => absurd h (by decide), ?_⟩
        refine wpHeld.change (C' := fun _ => True) (D' := fun _ => false) _ _ _ _ (fun k hk => ?_) ?_
        · have hk' : k < 10 := by simpa using hk
          revert hk'
          revert k
          clear hK
          intro k hk hk'
          match k, hk' with
          | 0, _ => rfl
          | 1, _ => rfl
          | 2, _ => rfl
          | 3, _ => rfl
          | 4, _ => rfl
          | 5, _ => rfl
          | 6, _ => rfl
          | 7, _ => rfl
          | 8, _ => rfl
          | 9, _ => rfl
        clear hK K HCX
        refine wpHeld.tk (i := 11) (d := some 22) (v := .bool false) (by kernel_rfl) rfl (by kernel_rfl) (by kernel_rfl) (by kernel_rfl) (by kernel_rfl) rfl (fun _ _ _ h => h) ⟨Or.inl ⟨by rfl, ?_⟩, fun _ => rfl⟩ trivial ?_
        · rintro _ _
          go_simp
        simp only [Act.put, List.setIfInBounds_toArray, List.set_cons_zero, List.set_cons_succ]
        refine wpHeld.tk (i := 12) (d := some 23) (v := .bool false) (by kernel_rfl) rfl (by kernel_rfl) (by kernel_rfl) (by kernel_rfl) (by kernel_rfl) rfl (fun _ _ _ h => h) ⟨Or.inl ⟨by rfl, ?_⟩, fun _ => rfl⟩ trivial ?_
        · rintro _ _
          go_simp
        simp only [Act.put, List.setIfInBounds_toArray, List.set_cons_zero, List.set_cons_succ]
        refine wpHeld.tk (i := 13) (d := some 24) (v := undef) (by kernel_rfl) rfl (by kernel_rfl) (by kernel_rfl) (by kernel_rfl) (by kernel_rfl) rfl (fun _ _ _ h => h) ⟨Or.inr ⟨by rfl, rfl⟩, fun _ => rfl⟩ trivial ?_
        simp only [Act.put, List.setIfInBounds_toArray, List.set_cons_zero, List.set_cons_succ]
        refine wpHeld.tk (i := 14) (d := some 25) (v := undef) (by kernel_rfl) rfl (by kernel_rfl) (by kernel_rfl) (by kernel_rfl) (by kernel_rfl) rfl (fun _ _ _ h => h) ⟨Or.inr ⟨by rfl, rfl⟩, fun _ => rfl⟩ trivial ?_
        simp only [Act.put, List.setIfInBounds_toArray, List.set_cons_zero, List.set_cons_succ]
        refine wpHeld.tk (i := 15) (d := some 26) (v := undef) (by kernel_rfl) rfl (by kernel_rfl) (by kernel_rfl) (by kernel_rfl) (by kernel_rfl) rfl (fun _ _ _ h => h) ⟨Or.inr ⟨by rfl, rfl⟩, fun _ => rfl⟩ trivial ?_
        simp only [Act.put, List.setIfInBounds_toArray, List.set_cons_zero, List.set_cons_succ]
        refine wpHeld.tk (i := 16) (d := some 27) (v := undef) (by kernel_rfl) rfl (by kernel_rfl) (by kernel_rfl) (by kernel_rfl) (by kernel_rfl) rfl (fun _ _ _ h => h) ⟨Or.inr ⟨by rfl, rfl⟩, fun _ => rfl⟩ trivial ?_
        simp only [Act.put, List.setIfInBounds_toArray, List.set_cons_zero, List.set_cons_succ]
        refine wpHeld.tk (i := 17) (d := some 28) (v := .bool false) (by kernel_rfl) rfl (by kernel_rfl) (by kernel_rfl) (by kernel_rfl) (by kernel_rfl) rfl (fun _ _ _ h => h) ⟨Or.inl ⟨by rfl, ?_⟩, fun _ => rfl⟩ trivial ?_
        · rintro _ _
          go_simp
        simp only [Act.put, List.setIfInBounds_toArray, List.set_cons_zero, List.set_cons_succ]
        refine wpHeld.done (by kernel_rfl) ?_ _
        have hB3 := hide (hB.out.trans (BelX.of (HWr.out.trans (HKB.out.mono HWr.out.size)) (Nat.le_trans hw hB.out.size)))
        have hs3 := Nat.le_trans hWr (HWr.out.trans (HKB.out.mono HWr.out.size)).size
        clear HKB
        gi_wp2
        go_roundw
        case rel => exact ⟨j, pre, by simp, by omega, hide (by rw [← hpre.out, reps_no hi1 (by simp only [HJJ.out]; exact HF.out), HJJ.out]), by have := HJJ.out; omega, hB3, hs3, Jp⟩
        case measure => simp [intOf]; omega
    · have q1 : ¬ (i : Int) + 1 < (xs.length : Int) := by omega
      gi_wp2
      go_end0
      exact ⟨⟨_, rfl⟩, .inl ⟨pre, by have := hpre.out; rw [reps_end hi1] at this; simpa using this, hJw⟩⟩

theorem ntrep_stops {n Ba Bc n₀ m : Nat} {X : Nat → Prop} {I : World → Prop} {w : World} {va cv : Value} {xs : List Int} {f : Int → Int → Int} (hn : 1 ≤ n)
    (bA : Boxed w Ba 61 va) (bC : Boxed w Bc 60 cv) (lA : Ba < n₀ ∧ ¬ X Ba) (lC : Bc < n₀ ∧ ¬ X Bc)
    (ha : NtRd (fun g => g < n₀ ∧ ¬ X g) w va xs) (hc : CmpIsN I cv m f) (hIw : I w) (hI : ∀ W W', I W → BelX X n₀ W W' → I W') (hw : n₀ ≤ w.heap.size) (hx : xs.length ≤ 4611686018427387903) (hxm : ∀ x ∈ xs, 0 ≤ x ∧ x < m) :
    SeqStopsK Fence.wide n Try.prog 55 #[.pointer (some ⟨Ba, 0, none⟩), .pointer (some ⟨Bc, 0, none⟩)] (plEncs xs.length) (BelX X n₀) (fun zs => zs.map Subtype.val = reps f 0 xs) (fun pre => pre.map Subtype.val <+: reps f 0 xs) xs.length w := fun l J Jx W hW hJ _ hY h0 =>
  ntrep1_in hn bA bC lA lC ha hc hIw hI hw (Nat.le_refl _) hx hxm J Jx hY W hJ hW h0

end Go.Proofs.Ytomieeajmelglaa
