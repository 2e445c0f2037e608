/- RefF -/
import Derived.Test.YtnjbmegnfeecjaaGreatDoorR15
import Derived.Deep.RegionHeld3
import Derived.Deep.AppendLies
namespace Go.Proofs.YtnjbmegnfeecjaaGreatDoor
open Go.RowKit

/-- append as one step of a region that draws its order -/
theorem step_append_cells {P : Program} {ops : Array Oper} {o : Oper} {a : Act} {w : World} {K : Act → World → Prop} {Q : Exit → Act → World → Prop} {E : Prop} (hgd : o.guard = none) (s x : Operand) (t : TypeId)
    (ho : o.op = .call { callee := .builtin .append, args := #[s, x], argTypes := #[t, t] })
    (base : Nat) (e : TypeId) (kd : IntKind) (bytes : Nat) (ht : P.underlying t = some (.slice e)) (hinf : (P.info? e).map (fun i => (i.zero, i.size, i.bytes)) = some (some (.int kd 0), 1, bytes))
    (v : Value) (n : Nat) (xs : List Int) (hs : a.eval s = v) (hown : w.ownsRow base e 1 v n (xs.map (Value.int kd))) (ad : Addr) (c : Nat) (y : Int) (hx : a.eval x = .slice (some ad) 1 c) (hc : Cells kd w (some ad) [y])
    (h63 : n + 1 ≤ maxLen) (hbytes : (n + 1) * bytes ≤ 140737488355328) (hbase : base ≤ w.heap.size)
    (h : ∀ v' w', w'.ownsRow base e 1 v' (n + 1) ((xs ++ [y]).map (Value.int kd)) → w.grownBy w' v.ownBlock → K (a.put o.dst v') w') :
    if Region.wanted o (yielded ops a.tmps) = true then Oper.wp P o a w K Q else E := by
  have hw : Region.wanted o (yielded ops a.tmps) = true := by simp [Region.wanted, hgd]
  rw [if_pos hw]
  obtain ⟨i, hi, hz, hsz, hby⟩ := info_parts hinf
  refine wp_append_own w s x t ho base e i (.int kd 0) 1 bytes ht hi hz hsz hby rfl (by decide) v n _ hs hown ad 1 c [Value.int kd y] hx rfl ?_ (ints_oneCell kd [y]) h63 hbytes hbase ?_
  · intro j u hu
    have hj : j < 1 := by have := (List.getElem?_eq_some_iff.1 hu).1; simpa using this
    have hj0 : j = 0 := by omega
    subst hj0
    obtain ⟨b, off, he, _, hcell⟩ := hc (by simp)
    cases he
    rw [Addr.add_lit, hcell 0 (by simp)]
    simp at hu
    rw [← hu]; simp [Nt.lb]
  · intro v' w' h1 h2 _
    exact h v' w' (by simpa using h1) h2

theorem b_val_drop {xs : List Int} {W : Nat} (h : W ≤ xs.length) : Nb.val xs = Nb.vt xs W + Nb.val (xs.drop W) * Nb.pw W := by
  have key : ∀ m, Nb.vt xs (W + m) = Nb.vt xs W + Nb.vt (xs.drop W) m * Nb.pw W := by
    intro m
    induction m with
    | zero => simp [Nb.vt]
    | succ m ih =>
      have e : Nt.lb (xs.drop W) m = Nt.lb xs (W + m) := by simp [Nt.lb, List.getElem?_drop]
      rw [← Nat.add_assoc, Nb.vt_succ, ih, Nb.vt_succ, e, Nb.pw_add, Int.add_mul, Int.mul_comm (Nb.pw W), Int.mul_assoc]
      omega
  have := key (xs.length - W)
  rw [show W + (xs.length - W) = xs.length by omega] at this
  unfold Nb.val
  rw [List.length_drop]
  exact this

/-- two bytes cut: what stays of the lower, and the low bits of the higher -/
theorem cut_byte {d e P R : Int} (hP : 0 < P) (hR : 0 < R) (hPR : P * R = 256) (hd : 0 ≤ d ∧ d < 256) :
    (0 ≤ (d + 256 * e) / P % 256 ∧ (d + 256 * e) / P % 256 < 256) ∧ P * ((d + 256 * e) / P % 256) = d - d % P + 256 * (e % P) := by
  have h1 : (d + 256 * e) / P = d / P + R * e := by
    rw [← hPR, Int.mul_assoc, Int.add_mul_ediv_left _ _ (by omega)]
  have q0 : 0 ≤ d / P := Int.ediv_nonneg hd.1 (by omega)
  have q1 : d / P < R := Int.ediv_lt_of_lt_mul hP (by rw [Int.mul_comm, hPR]; exact hd.2)
  have r0 := Int.emod_nonneg e (b := P) (by omega)
  have r1 := Int.emod_lt_of_pos e hP
  have h2 : R * e = R * (e % P) + 256 * (e / P) := by
    have h := Int.emod_add_mul_ediv e P
    have : R * (e % P + P * (e / P)) = R * e := by rw [h]
    rw [Int.mul_add, ← Int.mul_assoc, Int.mul_comm R P, hPR] at this
    omega
  have h3 : R * (e % P) + R ≤ 256 := by
    have : R * (e % P + 1) ≤ R * P := Int.mul_le_mul_of_nonneg_left (by omega) (by omega)
    rw [Int.mul_add, Int.mul_comm R P, hPR] at this
    omega
  have h30 : 0 ≤ R * (e % P) := Int.mul_nonneg (by omega) r0
  have h4 : (d + 256 * e) / P % 256 = d / P + R * (e % P) := by
    rw [h1, h2]; omega
  rw [h4]
  refine ⟨⟨by omega, by omega⟩, ?_⟩
  have h5 := Int.emod_add_mul_ediv d P
  rw [Int.mul_add, ← Int.mul_assoc, hPR]
  omega

theorem cut_step {D us : List Int} {P r0 : Int} {u : Int} (hu : P * u = Nt.lb D us.length - Nt.lb D us.length % P + 256 * (Nt.lb D (us.length + 1) % P))
    (h : P * Nb.val us = Nb.vt D us.length - r0 + (Nt.lb D us.length % P) * Nb.pw us.length) :
    P * Nb.val (us ++ [u]) = Nb.vt D (us.length + 1) - r0 + (Nt.lb D (us.length + 1) % P) * Nb.pw (us.length + 1) := by
  rw [Nb.val_snoc, Int.mul_add, h, Nb.vt_succ, Nb.pw_succ, ← Int.mul_assoc P, hu, Int.add_mul, Int.sub_mul]
  rw [← Int.mul_assoc (Nt.lb D (us.length + 1) % P), Int.mul_comm (Nt.lb D (us.length + 1) % P) 256]
  omega

theorem cut_end {A V U r0 P Q : Int} (hQ : 0 < Q) (hV0 : 0 ≤ V) (hV1 : V < Q) (h0 : 0 ≤ r0) (h1 : r0 < P) (hA : A = V + (P * U + r0) * Q) :
    A / (Q * P) = U ∧ (0 < A % (Q * P) ↔ 0 < r0 + V) := by
  have hP : 0 < P := by omega
  have hQP : 0 < Q * P := Int.mul_pos hQ hP
  have e : A = (V + r0 * Q) + (Q * P) * U := by
    rw [hA, Int.add_mul, Int.mul_comm (P * U) Q, Int.mul_assoc Q P U]; omega
  have b0 : 0 ≤ r0 * Q := Int.mul_nonneg h0 (by omega)
  have b1 : r0 * Q + Q ≤ Q * P := by
    have h : (r0 + 1) * Q ≤ P * Q := Int.mul_le_mul_of_nonneg_right (by omega) (by omega)
    rw [Int.add_mul, Int.mul_comm P Q] at h
    omega
  refine ⟨?_, ?_⟩
  · rw [e, Int.add_mul_ediv_left _ _ (by omega), Int.ediv_eq_zero_of_lt (by omega) (by omega)]; omega
  · rw [e, Int.add_mul_emod_self_left, Int.emod_eq_of_lt (by omega) (by omega)]
    rcases Int.lt_or_eq_of_le h0 with h | h
    · have := Int.mul_pos h hQ
      constructor <;> intro _ <;> omega
    · rw [← h, Int.zero_mul]; constructor <;> intro _ <;> omega

theorem cells_one_drew (w : World) (E : TypeId) (k : IntKind) (x : Int) : Cells k (w.alloc (.cells #[.int k x] E)).drew (some ⟨w.heap.size, 0, none⟩) [x] := cells_one w.drew E k x

end Go.Proofs.YtnjbmegnfeecjaaGreatDoor
