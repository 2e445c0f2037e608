/- RefF -/
import Derived.Test.YtjigofmcflmelaaGreatDoorQ20
import Derived.Deep.RegionHeld3
import Derived.Deep.AppendLies
namespace Go.Proofs.YtjigofmcflmelaaGreatDoor
open Go.RowKit

/-- append as one step of a region that draws its order -/
theorem step_append_cells {P : Program} {ops : Array Oper} {o : Oper} {a : Act} {w : World} {K : Act → World → Prop} {Q : Exit → Act → World → Prop} {E : Prop} (hgd : o.guard = none) (s x : Operand) (t : TypeId)
    (ho : o.op = .call { callee := .builtin .append, args := #[s, x], argTypes := #[t, t] })
    (base : Nat) (e : TypeId) (kd : IntKind) (bytes : Nat) (ht : P.underlying t = some (.slice e)) (hinf : (P.info? e).map (fun i => (i.zero, i.size, i.bytes)) = some (some (.int kd 0), 1, bytes))
    (v : Value) (n : Nat) (xs : List Int) (hs : a.eval s = v) (hown : w.ownsRow base e 1 v n (xs.map (Value.int kd))) (ad : Addr) (c : Nat) (y : Int) (hx : a.eval x = .slice (some ad) 1 c) (hc : Cells kd w (some ad) [y])
    (h63 : n + 1 ≤ maxLen) (hbytes : (n + 1) * bytes ≤ 140737488355328) (hbase : base ≤ w.heap.size)
    (h : ∀ v' w', w'.ownsRow base e 1 v' (n + 1) ((xs ++ [y]).map (Value.int kd)) → w.grownBy w' v.ownBlock → K (a.put o.dst v') w') :
    if Region.wanted o (yielded ops a.tmps) = true then Oper.wp P o a w K Q else E := by
  have hw : Region.wanted o (yielded ops a.tmps) = true := by simp [Region.wanted, hgd]
  rw [if_pos hw]
  obtain ⟨i, hi, hz, hsz, hby⟩ := info_parts hinf
  refine wp_append_own w s x t ho base e i (.int kd 0) 1 bytes ht hi hz hsz hby rfl (by decide) v n _ hs hown ad 1 c [Value.int kd y] hx rfl ?_ (ints_oneCell kd [y]) h63 hbytes hbase ?_
  · intro j u hu
    have hj : j < 1 := by have := (List.getElem?_eq_some_iff.1 hu).1; simpa using this
    have hj0 : j = 0 := by omega
    subst hj0
    obtain ⟨b, off, he, _, hcell⟩ := hc (by simp)
    cases he
    rw [Addr.add_lit, hcell 0 (by simp)]
    simp at hu
    rw [← hu]; simp [Nt.lb]
  · intro v' w' h1 h2 _
    exact h v' w' (by simpa using h1) h2

theorem power_told {P : Int} (s : Nat) (hs : s < 8) (hP : p2 s = P) (w : World) : Calls Tryz.prog 197 #[.int .i64 s] w fun e w' => e = .returned (.int .i64 P) ∧ w' = w := by
  subst hP
  exact power_any s hs w
theorem at_int (ao : Option Addr) (cap : Nat) (xs : List Int) (i : Int) (k : Nat) (hi : i = k) (w : World) (hm : xs.length ≤ maxLen) (hc : Cells .i64 w ao xs) :
    Calls Tryz.prog 213 #[.slice ao xs.length cap, .int .i64 i] w fun e w' => e = .returned (.int .i64 (Nt.lb xs k)) ∧ w' = w := by
  subst hi
  exact at_any ao cap xs k w hm hc

theorem b_val_drop {xs : List Int} {W : Nat} (h : W ≤ xs.length) : Nb.val xs = Nb.vt xs W + Nb.val (xs.drop W) * Nb.pw W := by
  have key : ∀ m, Nb.vt xs (W + m) = Nb.vt xs W + Nb.vt (xs.drop W) m * Nb.pw W := by
    intro m
    induction m with
    | zero => simp [Nb.vt]
    | succ m ih =>
      have e : Nt.lb (xs.drop W) m = Nt.lb xs (W + m) := by simp [Nt.lb, List.getElem?_drop]
      rw [← Nat.add_assoc, Nb.vt_succ, ih, Nb.vt_succ, e, Nb.pw_add, Int.add_mul, Int.mul_comm (Nb.pw W), Int.mul_assoc]
      omega
  have := key (xs.length - W)
  rw [show W + (xs.length - W) = xs.length by omega] at this
  unfold Nb.val
  rw [List.length_drop]
  exact this

/-- two bytes cut: what stays of the lower, and the low bits of the higher -/
theorem cut_byte {d e P R : Int} (hP : 0 < P) (hR : 0 < R) (hPR : P * R = 256) (hd : 0 ≤ d ∧ d < 256) :
    (0 ≤ (d + 256 * e) / P % 256 ∧ (d + 256 * e) / P % 256 < 256) ∧ P * ((d + 256 * e) / P % 256) = d - d % P + 256 * (e % P) := by
  have h1 : (d + 256 * e) / P = d / P + R * e := by
    rw [← hPR, Int.mul_assoc, Int.add_mul_ediv_left _ _ (by omega)]
  have q0 : 0 ≤ d / P := Int.ediv_nonneg hd.1 (by omega)
  have q1 : d / P < R := Int.ediv_lt_of_lt_mul hP (by rw [Int.mul_comm, hPR]; exact hd.2)
  have r0 := Int.emod_nonneg e (b := P) (by omega)
  have r1 := Int.emod_lt_of_pos e hP
  have h2 : R * e = R * (e % P) + 256 * (e / P) := by
    have h := Int.emod_add_mul_ediv e P
    have : R * (e % P + P * (e / P)) = R * e := by rw [h]
    rw [Int.mul_add, ← Int.mul_assoc, Int.mul_comm R P, hPR] at this
    omega
  have h3 : R * (e % P) + R ≤ 256 := by
    have : R * (e % P + 1) ≤ R * P := Int.mul_le_mul_of_nonneg_left (by omega) (by omega)
    rw [Int.mul_add, Int.mul_comm R P, hPR] at this
    omega
  have h30 : 0 ≤ R * (e % P) := Int.mul_nonneg (by omega) r0
  have h4 : (d + 256 * e) / P % 256 = d / P + R * (e % P) := by
    rw [h1, h2]; omega
  rw [h4]
  refine ⟨⟨by omega, by omega⟩, ?_⟩
  have h5 := Int.emod_add_mul_ediv d P
  rw [Int.mul_add, ← Int.mul_assoc, hPR]
  omega

theorem cut_step {D us : List Int} {P r0 : Int} {u : Int} (hu : P * u = Nt.lb D us.length - Nt.lb D us.length % P + 256 * (Nt.lb D (us.length + 1) % P))
    (h : P * Nb.val us = Nb.vt D us.length - r0 + (Nt.lb D us.length % P) * Nb.pw us.length) :
    P * Nb.val (us ++ [u]) = Nb.vt D (us.length + 1) - r0 + (Nt.lb D (us.length + 1) % P) * Nb.pw (us.length + 1) := by
  rw [Nb.val_snoc, Int.mul_add, h, Nb.vt_succ, Nb.pw_succ, ← Int.mul_assoc P, hu, Int.add_mul, Int.sub_mul]
  rw [← Int.mul_assoc (Nt.lb D (us.length + 1) % P), Int.mul_comm (Nt.lb D (us.length + 1) % P) 256]
  omega

theorem cut_end {A V U r0 P Q : Int} (hQ : 0 < Q) (hV0 : 0 ≤ V) (hV1 : V < Q) (h0 : 0 ≤ r0) (h1 : r0 < P) (hA : A = V + (P * U + r0) * Q) :
    A / (Q * P) = U ∧ (0 < A % (Q * P) ↔ 0 < r0 + V) := by
  have hP : 0 < P := by omega
  have hQP : 0 < Q * P := Int.mul_pos hQ hP
  have e : A = (V + r0 * Q) + (Q * P) * U := by
    rw [hA, Int.add_mul, Int.mul_comm (P * U) Q, Int.mul_assoc Q P U]; omega
  have b0 : 0 ≤ r0 * Q := Int.mul_nonneg h0 (by omega)
  have b1 : r0 * Q + Q ≤ Q * P := by
    have h : (r0 + 1) * Q ≤ P * Q := Int.mul_le_mul_of_nonneg_right (by omega) (by omega)
    rw [Int.add_mul, Int.mul_comm P Q] at h
    omega
  refine ⟨?_, ?_⟩
  · rw [e, Int.add_mul_ediv_left _ _ (by omega), Int.ediv_eq_zero_of_lt (by omega) (by omega)]; omega
  · rw [e, Int.add_mul_emod_self_left, Int.emod_eq_of_lt (by omega) (by omega)]
    rcases Int.lt_or_eq_of_le h0 with h | h
    · have := Int.mul_pos h hQ
      constructor <;> intro _ <;> omega
    · rw [← h, Int.zero_mul]; constructor <;> intro _ <;> omega

theorem cells_one_drew (w : World) (E : TypeId) (k : IntKind) (x : Int) : Cells k (w.alloc (.cells #[.int k x] E)).drew (some ⟨w.heap.size, 0, none⟩) [x] := cells_one w.drew E k x

set_option maxRecDepth 100000 in
set_option maxHeartbeats 8000000 in
theorem rshr_near {w : World} {va : Value} {A : Int} {ka N W s : Nat} (ha : Arg w va A ka) (hka : ka ≤ 1099511627776) (hN : N = 8 * W + s) (hs : s < 8) (hf : Nb.pw W ≤ A) :
    Calls Tryz.prog 181 #[va, .int .i64 N] w fun e w' => ∃ v, e = .returned (.tuple #[v, .bool (decide (0 < A % p2 N)), .bool true]) ∧ Num w.heap.size w' v (A / p2 N) (ka + 1) ∧ Below w.heap.size w w' := by
  have hq : (N : Int) / 8 = (W : Int) := by omega
  have hr : (N : Int) % 8 = (s : Int) := by omega
  have HN := hide hN
  clear hN
  go_enter Tryz.func181, Tryz.ntmps181
  go_wp2_with fail
  refine (bytes_any ha hka).mono ?_
  rintro e w1 ⟨v1, rfl, ⟨xs, ⟨ao, ca, rfl, hxl, hxm, hxc⟩, hx, rfl, hxk⟩, hb1⟩
  clear ha
  have hW : W < xs.length := by
    by_cases h : W < xs.length
    · exact h
    · have h1 := Nb.val_lt hx.1
      have h2 := Nb.pw_mono (m := xs.length) (n := W) (by omega)
      omega
  have hW1 : (W : Int) < (xs.length : Int) := by omega
  have hW3 : ¬ (xs.length : Int) ≤ (W : Int) := by omega
  clear hf
  have hP0 := p2_pos s
  have hP1 : p2 s ≤ 128 := by have h := p2_mono (m := s) (n := 7) (by omega); rw [show p2 7 = 128 by decide] at h; exact h
  have hR0 := p2_pos (8 - s)
  have hPR : p2 s * p2 (8 - s) = 256 := by rw [← p2_add, show s + (8 - s) = 8 by omega]; decide
  obtain ⟨P, hP⟩ : ∃ P, p2 s = P := ⟨_, rfl⟩
  have hpow := fun (W : World) => power_any s hs W
  rw [hP] at hP0 hP1 hPR hpow
  have HP := hide hP
  have Hpow := hide hpow
  have HPR := hide hPR
  clear hP hpow hPR
  obtain ⟨b1, o1, rfl, hbb1, hcc⟩ := hxc (by omega)
  have gW := hcc W hW
  obtain ⟨bw0, bw1⟩ := hx.1 W
  have hxc : Cells .i64 w1 (some ⟨b1, o1, none⟩) xs := fun _ => ⟨b1, o1, rfl, hbb1, hcc⟩
  obtain ⟨r0, hr0⟩ : ∃ r0, Nt.lb xs W % P = r0 := ⟨_, rfl⟩
  have hr00 : 0 ≤ r0 := by rw [← hr0]; exact Int.emod_nonneg _ (by omega)
  have hr01 : r0 < P := by rw [← hr0]; exact Int.emod_lt_of_pos _ hP0
  have HR := hide hr0
  clear hcc
  go_wp2
  go_quiet ((go_at_call 197; exact Calls.quiet_of_same (Hpow.out _)))
  go_wp2
  go_loopw [8, 9] (fun sm si wr => ∃ (i : Nat) (b : Bool), i ≤ W ∧ si = .int .i64 i ∧ sm = .bool b ∧ (b = true ↔ 0 < r0 + Nb.vt xs i) ∧ Below w1.heap.size w1 wr) (fun _ si _ => W - (intOf si).toNat)
  case atStart => exact ⟨0, _, by omega, rfl, rfl, by simp only [Nb.vt]; simp, below_drewN' (Below.refl _ _)⟩
  case round =>
    obtain ⟨i, b, hiW, rfl, rfl, hb, hbr⟩ := hrel
    have Hb := hide hb
    clear hb gW
    obtain ⟨_, _, he, _, hcc⟩ := (hxc.below hbr) (by omega)
    cases he
    by_cases hi : i < W
    · have hi' : (i : Int) < (W : Int) := by omega
      have gi := hcc i (by omega)
      have hix : (i : Int) < (xs.length : Int) := by omega
      obtain ⟨bi0, bi1⟩ := hx.1 i
      have hpi := Nb.pw_pos i
      have hv0 := (Nb.vt_bounds hx.1 i).1
      have hvs : 0 < r0 + Nb.vt xs (i + 1) ↔ (0 < r0 + Nb.vt xs i ∨ 0 < Nt.lb xs i) := by
        rw [Nb.vt_succ]
        constructor
        · intro h
          by_cases h1 : 0 < Nt.lb xs i
          · exact Or.inr h1
          · have h2 : Nt.lb xs i = 0 := by omega
            rw [h2, Int.zero_mul] at h
            exact Or.inl (by omega)
        · intro h
          have h3 : 0 ≤ Nt.lb xs i * Nb.pw i := Int.mul_nonneg bi0 (by omega)
          rcases h with h | h
          · omega
          · have : 0 < Nt.lb xs i * Nb.pw i := Int.mul_pos h hpi
            omega
      have Hvs := hide hvs
      clear hvs hcc
      cases b with
      | true =>
        go_wp2
        go_roundw
        case rel => exact ⟨i + 1, true, by omega, by go_num, rfl, by rw [Hvs.out]; exact ⟨fun _ => Or.inl (Hb.out.1 rfl), fun _ => rfl⟩, hbr⟩
        case measure => simp [intOf]; omega
      | false =>
        have hnb : ¬ 0 < r0 + Nb.vt xs i := fun h => by have := Hb.out.2 h; cases this
        have Hnb := hide hnb
        clear hnb
        go_wp2
        go_roundw
        case rel => exact ⟨i + 1, decide (0 < Nt.lb xs i), by omega, by go_num, rfl, by
          rw [Hvs.out, decide_eq_true_eq]
          exact ⟨fun h => Or.inr h, fun h => h.resolve_left Hnb.out⟩, hbr⟩
        case measure => simp [intOf]; omega
    · have hiW' : i = W := by omega
      subst hiW'
      obtain ⟨wo, rfl⟩ : ∃ x : World, x = wr := ⟨_, rfl⟩
      have hi' : ¬ (i : Int) < (i : Int) := by omega
      clear hcc
      obtain ⟨D, hD⟩ : ∃ D, xs.drop i = D := ⟨_, rfl⟩
      have hDl : D.length = xs.length - i := by rw [← hD, List.length_drop]
      have hDlb : ∀ j, Nt.lb D j = Nt.lb xs (i + j) := by intro j; rw [← hD]; simp [Nt.lb, List.getElem?_drop]
      have hDv : Nb.val xs = Nb.vt xs i + Nb.val D * Nb.pw i := by rw [← hD]; exact b_val_drop (by omega)
      have HDl := hide hDl
      have HDlb := hide hDlb
      have HDv := hide hDv
      clear hD hDl hDlb hDv
      have hW1s := hb1.size
      go_wp2
      go_loopw [10, 11] (fun out si wr' => ∃ (us : List Int) (m : Nat), m = i + us.length ∧ m ≤ xs.length ∧ si = .int .i64 m ∧ Nb.Ok us ∧ P * Nb.val us = Nb.vt D us.length - r0 + (Nt.lb D us.length % P) * Nb.pw us.length ∧
          wr'.ownsRow wo.heap.size 3 1 out us.length (us.map (Value.int .i64)) ∧ Below wo.heap.size wo wr') (fun _ si _ => xs.length - (intOf si).toNat)
      case atStart => exact ⟨[], i, by simp, by omega, rfl, Nb.ok_nil, by
        simp only [List.length_nil, Nb.val, Nb.vt, Nb.pw]
        rw [HDlb.out 0, Nat.add_zero, HR.out]; omega, by simpa using World.ownsRow_nil wo wo.heap.size 3 1, Below.refl _ _⟩
      case round =>
        obtain ⟨us, m, hme, hul, rfl, huo, heq, hown, hbr2⟩ := hrel
        have Heq := hide heq
        clear heq
        obtain ⟨j, hj⟩ : ∃ j, us.length = j := ⟨_, rfl⟩
        rw [hj] at hown hme
        have Hj := hide hj
        have Hm := hide hme
        have hjm : j ≤ m := by omega
        clear hj hme
        have hsz := hbr2.size
        have hcx := (hxc.below hbr).below hbr2
        by_cases h1 : m < xs.length
        · have h1' : (m : Int) < (xs.length : Int) := by omega
          obtain ⟨_, _, he, _, hcc⟩ := hcx (by omega)
          cases he
          have gj := hcc m h1
          obtain ⟨bj0, bj1⟩ := hx.1 m
          obtain ⟨be0, be1⟩ := hx.1 (m + 1)
          have hxmx : xs.length ≤ maxLen := by omega
          obtain ⟨⟨u0, u1⟩, hu⟩ := cut_byte (d := Nt.lb xs m) (e := Nt.lb xs (m + 1)) hP0 hR0 HPR.out ⟨bj0, bj1⟩
          have hstep := cut_step (D := D) (us := us) (P := P) (r0 := r0) (u := (Nt.lb xs m + 256 * Nt.lb xs (m + 1)) / P % 256) (by rw [Hj.out, HDlb.out, HDlb.out, ← Nat.add_assoc, ← Hm.out]; exact hu) Heq.out
          rw [Hj.out] at hstep
          have Hstep := hide hstep
          have q0 : 0 ≤ (Nt.lb xs m + 256 * Nt.lb xs (m + 1)) / P := Int.ediv_nonneg (by omega) (by omega)
          have hown2 : wr.drew.ownsRow wo.heap.size 3 1 _ j (us.map (Value.int .i64)) := hown
          have hjw : IntKind.i64.wrap ((m : Int) + 1) = (m : Int) + 1 := by rw [IntKind.wrap_i64]; omega
          have hbw : b1 < wr.heap.size := by have := hbr.size; omega
          have av : Value.ownBlock _ ≠ some b1 := fun e => by have h2 := (hown.lt _ e).1; have := hbr.size; omega
          have hm0 : (0 : Int) ≤ (m : Int) := by omega
          have hrt : (N : Int).tmod 8 = (s : Int) := by rw [Int.tmod_eq_emod_of_nonneg (by omega)]; exact hr
          have ht1 : (Nt.lb xs m + 256 * Nt.lb xs (m + 1)).tdiv P = (Nt.lb xs m + 256 * Nt.lb xs (m + 1)) / P := Int.tdiv_eq_ediv_of_nonneg (by omega)
          have ht2 : ((Nt.lb xs m + 256 * Nt.lb xs (m + 1)) / P).tmod 256 = (Nt.lb xs m + 256 * Nt.lb xs (m + 1)) / P % 256 := Int.tmod_eq_emod_of_nonneg q0
          have q2 : (Nt.lb xs m + 256 * Nt.lb xs (m + 1)) / P ≤ 65535 := by
            have := Int.ediv_le_self (a := Nt.lb xs m + 256 * Nt.lb xs (m + 1)) P (by omega)
            omega
          have hw3 : IntKind.i64.wrap ((Nt.lb xs m + 256 * Nt.lb xs (m + 1)) / P) = (Nt.lb xs m + 256 * Nt.lb xs (m + 1)) / P := by rw [IntKind.wrap_i64]; omega
          have hPz : (P == 0) = false := by simp; omega
          have hPz2 : ¬ P = 0 := by omega
          have hY : (IntKind.i64.wrap ((IntKind.i64.wrap (Nt.lb xs m + IntKind.i64.wrap (256 * Nt.lb xs (m + 1)))).tdiv P)).tmod 256 = (Nt.lb xs m + 256 * Nt.lb xs (m + 1)) / P % 256 := by
            rw [show IntKind.i64.wrap (256 * Nt.lb xs (m + 1)) = 256 * Nt.lb xs (m + 1) by rw [IntKind.wrap_i64]; omega, show IntKind.i64.wrap (Nt.lb xs m + 256 * Nt.lb xs (m + 1)) = Nt.lb xs m + 256 * Nt.lb xs (m + 1) by rw [IntKind.wrap_i64]; omega, ht1, hw3, ht2]
          have HY := hide hY
          clear hu hstep hcc ht1 ht2 hw3 hY
          go_wp2
          go_region_held3 (fun w' => w'.cell? ⟨b1, o1 + m, none⟩ = some (.int .i64 (Nt.lb xs m)))
            (first
              | go_keep
              | exact (hgrow.cell_far _ (by simp; omega) (Ne.symm av)).trans ((((Below.refl wr.heap.size wr).drew.alloc (Nat.le_refl _) _).cell (p := ⟨b1, o1 + m, none⟩) hbw).trans gj))
            (first
              | (go_at_call 197; refine (power_told s hs HP.out _).mono ?_; rintro e w3 ⟨rfl, rfl⟩)
              | (go_at_call 213; refine (at_int _ _ xs _ (m + 1) (by omega) _ hxmx (by exact hcx)).mono ?_; rintro e w3 ⟨rfl, rfl⟩)
              | ((refine step_append_cells rfl (.tmp 56) (.tmp 72) 191 rfl wo.heap.size 3 .i64 8 Tryz.underlying191 Tryz.infoI64 _ j us (by rfl) (hown2.alloc _) ⟨wr.heap.size, 0, none⟩ 1 _ (by rfl) (cells_one_drew _ _ _ _) (by unfold maxLen; omega) (by omega) (by simp; omega) ?_; intro v' w4 hown' hgrow; rw [HY.out] at hown')))
          have hb4 : Below wo.heap.size wo w4 := below_own (hbr2.drew.alloc hsz _) (by simp; omega) (hown2.alloc _) hgrow
          have Hown' := hide hown'
          clear hown' hgrow hown hown2
          go_wp2
          go_roundw
          case rel => exact ⟨us ++ [(Nt.lb xs m + 256 * Nt.lb xs (m + 1)) / P % 256], m + 1, by rw [List.length_append, List.length_singleton, Hj.out, Hm.out]; omega, by omega, by go_num, Nb.ok_snoc huo ⟨u0, u1⟩, by
            rw [List.length_append, List.length_singleton, Hj.out]; exact Hstep.out, by simpa [Hj.out] using Hown'.out, hb4⟩
          case measure => simp [intOf]; omega
        · have Hme := hide (show m = xs.length by omega)
          have hc1' : ¬ (m : Int) < (xs.length : Int) := by omega
          have hfin : Nb.val xs / p2 N = Nb.val us ∧ (0 < Nb.val xs % p2 N ↔ 0 < r0 + Nb.vt xs i) := by
            have h1 := Heq.out
            have hjD : j = D.length := by rw [HDl.out]; have := Hm.out; have := Hme.out; omega
            have hl0 : Nt.lb D j = 0 := by rw [HDlb.out, ← Hm.out, Hme.out]; simp [Nt.lb]
            rw [Hj.out, hl0, Int.zero_emod, Int.zero_mul, hjD] at h1
            have hv := HDv.out
            have e : Nb.val D = P * Nb.val us + r0 := by unfold Nb.val at h1 ⊢; omega
            rw [e] at hv
            rw [HN.out, p2_add, p2_8, HP.out]
            exact cut_end (Nb.pw_pos i) (Nb.vt_bounds hx.1 i).1 (Nb.vt_bounds hx.1 i).2 hr00 hr01 hv
          have hbd : b = decide (0 < Nb.val xs % p2 N) := by
            rw [Bool.eq_iff_iff, decide_eq_true_eq, hfin.2]; exact Hb.out
          have hrd := reads_of_owns (n := j) hown
          have hla := limbs_any (ka := j) ⟨_, hrd, huo, rfl, by simp [Hj.out]⟩ (by omega)
          rw [← hfin.1] at hla
          have Hla := hide hla
          have Hbd := hide hbd
          clear hown hfin hrd hla hbd
          go_wp2_with fail
          refine Calls.mono Hla.out ?_
          rintro e w5 ⟨v, rfl, hv, hb5⟩
          go_wp2
          go_ret3
          rw [Hbd.out]
          exact ⟨v, rfl, (num_since hv (by have := hbr.size; omega)).mono (by have := Hm.out; omega), below_trans hb1 (below_trans hbr (below_trans hbr2 hb5))⟩

end Go.Proofs.YtjigofmcflmelaaGreatDoor
