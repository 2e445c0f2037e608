import Derived.Test.YticmlelalbaalaaGreatDoorB05
import Derived.Test.YticmlelalbaalaaGreatDoorB06
import Derived.Test.YticmlelalbaalaaGreatDoorB08
namespace Go.Proofs.YticmlelalbaalaaGreatDoor
open Go.RowKit
set_option linter.unusedVariables false
def IntIs (F L I s : Int) (ng : Bool) (n : Int) (ok : Bool) : Prop :=
  ∃ a m E k, PartIs F L I s ng a m E k ∧ ((k = true ∧ 0 ≤ E ∧ ok = true ∧ n = wn a (m * p2 E.toNat)) ∨ (¬ (k = true ∧ 0 ≤ E) ∧ ok = false ∧ n = 0))
theorem IntIs.unique {F L I s : Int} {ng ok ok' : Bool} {n n' : Int} (s0 : 0 ≤ s) (h : IntIs F L I s ng n ok) (h' : IntIs F L I s ng n' ok') : n = n' ∧ ok = ok' := by
  obtain ⟨a, m, E, k, hP, h1⟩ := h
  obtain ⟨a', m', E', k', hP', h2⟩ := h'
  obtain ⟨rfl, rfl, rfl, rfl⟩ := hP.unique s0 hP'
  rcases h1 with ⟨c1, c2, rfl, rfl⟩ | ⟨c1, rfl, rfl⟩ <;> rcases h2 with ⟨d1, d2, rfl, rfl⟩ | ⟨d1, rfl, rfl⟩
  · exact ⟨rfl, rfl⟩
  · exact (d1 ⟨c1, c2⟩).elim
  · exact (c1 ⟨d1, d2⟩).elim
  · exact ⟨rfl, rfl⟩
theorem part_bounds {F L I S s : Int} {ng a ok : Bool} {m E : Int} (hF : 0 < F) (hS : 2 * F ≤ S) (hL : -1100 ≤ L) (s0 : 0 ≤ s) (s1 : s < S) (hq : est F L s ≤ 2100) (hS2 : S ≤ 9223372036854775808) (h : PartIs F L I s ng a m E ok) : 0 ≤ m ∧ m < 9223372036854775808 ∧ -1100 ≤ E ∧ E ≤ 2200 := by
  obtain ⟨h1, h2⟩ := h
  rcases Int.lt_or_le s I with c | c
  · obtain ⟨_, _, p, q⟩ := h2 c
    rcases Int.lt_or_eq_of_le s0 with g | g
    · obtain ⟨o, n, n64, hm, hE⟩ := q g
      obtain ⟨m0, m1⟩ := mst_range (F := F) (s := s) (S := S) hF g hS s1
      have hp := p2_pos n
      have e0 := est_ge (F := F) (L := L) (s := s) hF
      have mp : 0 < m := by
        rcases Int.lt_or_le 0 m with k | k
        · exact k
        · have : m * p2 n ≤ 0 := Int.mul_nonpos_of_nonpos_of_nonneg k (by omega)
          omega
      have : m * 1 ≤ m * p2 n := Int.mul_le_mul_of_nonneg_left (by omega) (by omega)
      exact ⟨by omega, by omega, by omega, by omega⟩
    · obtain ⟨rfl, rfl⟩ := p g.symm
      exact ⟨by decide, by decide, by decide, by decide⟩
  · obtain ⟨_, rfl, rfl, _⟩ := h1 c
    exact ⟨by decide, by decide, by decide, by decide⟩
set_option maxRecDepth 20000 in
set_option maxHeartbeats 4000000 in
theorem int_64 {w : World} (L : Lays w) (T : Brn w) (x s : Int) (ng : Bool) (h0 : 0 ≤ x) (h1 : x < 18446744073709551616) (hs : x % 9223372036854775808 = s) (hng : ng = decide (9223372036854775808 ≤ x)) : Calls Tryz.prog 138 #[.int .u64 x] w fun e w' => ∃ va n ok, e = .returned (.tuple #[va, .bool ok]) ∧ WNum w.heap.size w' va n 100 ∧ IntIs 4503599627370496 (-1074) 9218868437227405312 s ng n ok ∧ Below w.heap.size w w' := by
  have s0 : 0 ≤ s := by omega
  have s1 : s < 9223372036854775808 := by omega
  go_enter Tryz.func138, Tryz.ntmps138
  go_upto_region 1 with fail
  have D := cell2_new w (.bool false) (.slice none 0 0) 28
  have K1 := bel_new w (.cells #[.bool false, .slice none 0 0] 28)
  generalize w.alloc (.cells #[.bool false, .slice none 0 0] 28) = w1 at *
  go_wp2_with fail
  with_reducible refine (parts_64 (L.below K1) (T.below K1) x s ng h0 h1 hs hng).mono ?_
  rintro x' w2 ⟨a, m, E, ok, rfl, hP, K⟩
  obtain ⟨m0, m1, E0, E1⟩ := part_bounds (F := 4503599627370496) (L := (-1074)) (S := 9223372036854775808) (by decide) (by decide) (by decide) s0 s1 (by unfold est; split <;> omega) (by decide) hP
  have HP := hide hP
  clear hP hs hng
  by_cases no : ok = false ∨ E < 0
  · have HI := hide (show IntIs 4503599627370496 (-1074) 9218868437227405312 s ng 0 false from ⟨a, m, E, ok, HP.out, Or.inr ⟨by rcases no with h | h <;> simp_all <;> omega, rfl, rfl⟩⟩)
    cases ok
    · skip
      have d0 := (D.below K).c0; have d1 := (D.below K).c1; have g0 := (D.below K).f0; have g1 := (D.below K).f1
      go_wp2
      have PD := (D.below K).put (.bool false) (.slice none 0 0)
      have KB := below_put2 (b := w.heap.size) (below_trans K1 K) (Nat.le_refl _) (.bool false) (.slice none 0 0)
      (try simp only [Exit.inBlock, Exit.then])
      first
        | exact bodyPost_ret (v := .tuple #[.agg #[.bool false, .slice none 0 0], .bool false]) (by simp [results, Tryz.results138, go_sem, PD.c0, PD.c1]) rfl ⟨_, _, _, rfl, wnum_zero _ _ _, HI.out, KB⟩
        | exact bodyPost_ret (v := .tuple #[.agg #[.bool false, .slice none 0 0], .bool false]) (by simp [results, Tryz.results138, go_sem, d0, d1]) rfl ⟨_, _, _, rfl, wnum_zero _ _ _, HI.out, below_trans K1 K⟩
    · have hE : E < 0 := by rcases no with h | h; cases h; exact h
      have d0 := (D.below K).c0; have d1 := (D.below K).c1; have g0 := (D.below K).f0; have g1 := (D.below K).f1
      go_wp2
      have PD := (D.below K).put (.bool false) (.slice none 0 0)
      have KB := below_put2 (b := w.heap.size) (below_trans K1 K) (Nat.le_refl _) (.bool false) (.slice none 0 0)
      (try simp only [Exit.inBlock, Exit.then])
      first
        | exact bodyPost_ret (v := .tuple #[.agg #[.bool false, .slice none 0 0], .bool false]) (by simp [results, Tryz.results138, go_sem, PD.c0, PD.c1]) rfl ⟨_, _, _, rfl, wnum_zero _ _ _, HI.out, KB⟩
        | exact bodyPost_ret (v := .tuple #[.agg #[.bool false, .slice none 0 0], .bool false]) (by simp [results, Tryz.results138, go_sem, d0, d1]) rfl ⟨_, _, _, rfl, wnum_zero _ _ _, HI.out, below_trans K1 K⟩
  have ok1 : ok = true := by cases ok; exact (no (Or.inl rfl)).elim; rfl
  subst ok1
  have hE : 0 ≤ E := by omega
  have HI := hide (show IntIs 4503599627370496 (-1074) 9218868437227405312 s ng (wn a (m * p2 E.toNat)) true from ⟨a, m, E, true, HP.out, Or.inl ⟨rfl, hE, rfl, rfl⟩⟩)
  clear no HP
  go_wp2_with fail
  with_reducible refine (from_any m m0 (by omega)).mono ?_
  rintro x' w3 ⟨vm, rfl, hM, kb⟩
  replace K := below_trans K kb
  clear kb
  go_wp2_with fail
  with_reducible refine (shl_int hM.arg (by decide) hE (by omega)).mono ?_
  rintro x' w4 ⟨vs, rfl, hS, kb⟩
  replace K := below_trans K kb
  clear kb hM
  generalize m * p2 E.toNat = V at *
  have hW : WArg w4 (.agg #[.bool a, vs]) (wn a V) 100 := ⟨a, vs, V, rfl, hS.arg, rfl⟩
  obtain ⟨zs, ⟨so, rfl, -⟩, -⟩ := hS
  go_wp2_with fail
  with_reducible refine (wnorm_any hW (by decide)).mono ?_
  rintro x' w5 ⟨vr, rfl, hR, kb⟩
  have hR2 := hR.low (B' := w.heap.size) (by have h1 := K1.size; have h2 := K.size; omega)
  have ltb : w.heap.size < w4.heap.size := by have h1 := D.lt; have h2 := K.size; omega
  replace K := below_trans K kb
  clear kb
  obtain ⟨rg, ro, rl, rfl⟩ := hR.told
  have d0 := (D.below K).c0; have d1 := (D.below K).c1; have g0 := (D.below K).f0; have g1 := (D.below K).f1
  go_wp2
  have PD := (D.below K).put (.bool rg) (.slice ro rl rl)
  have KB := below_put2 (b := w.heap.size) (below_trans K1 K) (Nat.le_refl _) (.bool rg) (.slice ro rl rl)
  have WN := (((hR.put ltb 0 (.bool rg)).put ltb 1 (.slice ro rl rl)).low (B' := w.heap.size) (by omega)).mono (k' := 100) (by omega)
  clear d0 d1 g0 g1 hR hR2
  generalize (w5.setCell ⟨w.heap.size, 0, none⟩ (.bool rg)).setCell ⟨w.heap.size, 1, none⟩ (.slice ro rl rl) = w9 at *
  (try simp only [Exit.inBlock, Exit.then])
  exact bodyPost_ret (v := .tuple #[.agg #[.bool rg, .slice ro rl rl], .bool true]) (by simp [results, Tryz.results138, go_sem, PD.c0, PD.c1]) rfl ⟨_, _, _, rfl, WN, HI.out, KB⟩
end Go.Proofs.YticmlelalbaalaaGreatDoor
