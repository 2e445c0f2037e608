/- nat.raise, nat.lower -/
import Derived.Test.YtmpdkeafbjibpaaDoorLen
import Derived.Deep.RegionWith
namespace Go.Proofs.YtmpdkeafbjibpaaDoor
open Go.RowKit

theorem p2_pow (n : Nat) : p2 n = (2 : Int) ^ n := by
  induction n with
  | zero => rfl
  | succ n ih => simp only [p2]; rw [ih, Int.pow_succ, Int.mul_comm]
theorem p2_cast (n : Nat) : p2 n = ((2 ^ n : Nat) : Int) := by rw [p2_pow]; simp
theorem p2_split {n : Nat} (hn : n ≤ 32) : p2 n * p2 (32 - n) = 4294967296 := by
  rw [← p2_add, show n + (32 - n) = 32 by omega]; decide

/-- the product of a limb with a power: what stays, what goes on -/
theorem shl_parts {x : Int} {P Q : Int} (hP : 0 < P) (hQ : 0 < Q) (hPQ : P * Q = 4294967296) : x * P % 4294967296 = (x % Q) * P ∧ x * P / 4294967296 = x / Q := by
  have h1 : x * P = (x % Q) * P + 4294967296 * (x / Q) := by
    have e := Int.emod_add_mul_ediv x Q
    have e2 : (x % Q + Q * (x / Q)) * P = x * P := by rw [e]
    rw [Int.add_mul] at e2
    rw [← hPQ, ← e2, Int.mul_comm P Q, Int.mul_assoc, Int.mul_assoc, Int.mul_comm P]
  have h2 : 0 ≤ (x % Q) * P := Int.mul_nonneg (Int.emod_nonneg _ (by omega)) (by omega)
  have h3 : (x % Q) * P < 4294967296 := by
    have : (x % Q + 1) * P ≤ Q * P := Int.mul_le_mul_of_nonneg_right (by have := Int.emod_lt_of_pos x hQ; omega) (by omega)
    rw [Int.add_mul, Int.mul_comm Q P, hPQ] at this
    omega
  have := (Int.ediv_emod_unique (a := x * P) (b := 4294967296) (r := (x % Q) * P) (q := x / Q) (by decide)).2 ⟨h1.symm, h2, h3⟩
  exact ⟨this.2, this.1⟩

/-- bits that do not meet are added -/
theorem or_add {n : Nat} {a c : Int} (ha : 0 ≤ a) (hc0 : 0 ≤ c) (hc1 : c < p2 n) (hlt : a * p2 n + c < 4294967296) : bits .or .u32 (a * p2 n) c = a * p2 n + c ∧ bits .or .u32 c (a * p2 n) = a * p2 n + c := by
  obtain ⟨A, rfl⟩ := Int.eq_ofNat_of_zero_le ha
  obtain ⟨C, rfl⟩ := Int.eq_ofNat_of_zero_le hc0
  rw [p2_cast] at *
  have e : ((A : Int) * ((2 ^ n : Nat) : Int)) = ((A * 2 ^ n : Nat) : Int) := by simp
  rw [e] at hlt ⊢
  have hA : 0 ≤ A * 2 ^ n := Nat.zero_le _
  have hj := nat_join n (A * 2 ^ n) C (Nat.mul_mod_left _ _) (by omega)
  rw [u32_or_nat _ _ (by omega) (by omega), u32_or_nat _ _ (by omega) (by omega), Nat.or_comm C, hj]
  omega

theorem raise_digit {x c : Int} {n : Nat} (hn : n < 32) (hx0 : 0 ≤ x) (hx1 : x < 4294967296) (hc0 : 0 ≤ c) (hc1 : c < p2 n) :
    (0 ≤ bits .or .u32 (x * 2 ^ n % 4294967296) c ∧ bits .or .u32 (x * 2 ^ n % 4294967296) c < 4294967296) ∧ (0 ≤ x / 2 ^ (32 - n) ∧ x / 2 ^ (32 - n) < p2 n) ∧
      bits .or .u32 (x * 2 ^ n % 4294967296) c + (x / 2 ^ (32 - n)) * 4294967296 = x * p2 n + c := by
  rw [← p2_pow, ← p2_pow]
  have hP := p2_pos n
  have hQ := p2_pos (32 - n)
  have hPQ := p2_split (n := n) (by omega)
  obtain ⟨h1, h2⟩ := shl_parts (x := x) hP hQ hPQ
  rw [h1]
  have hr0 := Int.emod_nonneg x (b := p2 (32 - n)) (by omega)
  have hr1 := Int.emod_lt_of_pos x hQ
  have hlt : x % p2 (32 - n) * p2 n + c < 4294967296 := by
    have : (x % p2 (32 - n) + 1) * p2 n ≤ p2 (32 - n) * p2 n := Int.mul_le_mul_of_nonneg_right (by omega) (by omega)
    rw [Int.add_mul, Int.mul_comm (p2 (32 - n)) (p2 n), hPQ] at this
    omega
  have hnn : 0 ≤ x % p2 (32 - n) * p2 n := Int.mul_nonneg hr0 (by omega)
  rw [(or_add hr0 hc0 hc1 hlt).1]
  refine ⟨⟨by omega, hlt⟩, ⟨Int.ediv_nonneg hx0 (by omega), Int.ediv_lt_of_lt_mul hQ (by rw [hPQ]; exact hx1)⟩, ?_⟩
  have e := Int.emod_add_mul_ediv (x * p2 n) 4294967296
  rw [h1, h2] at e
  omega

theorem raise_step {os zs : List Int} {off k : Nat} {q D q' P : Int} (hk : off + k < zs.length) (hd : D + q' * 4294967296 = Nt.lb os (off + k) * P + q)
    (h : Nt.vt zs (off + k) + q * Nt.pw (off + k) = Nt.vt os off + P * (Nt.vt os (off + k) - Nt.vt os off)) :
    Nt.vt (zs.set (off + k) D) (off + (k + 1)) + q' * Nt.pw (off + (k + 1)) = Nt.vt os off + P * (Nt.vt os (off + (k + 1)) - Nt.vt os off) := by
  rw [← Nat.add_assoc, Nt.vt_succ, Nt.vt_set (Nat.le_refl _), Nt.lb_set_eq hk, Nt.vt_succ, Nt.pw_succ]
  have e2 : (D + q' * 4294967296) * Nt.pw (off + k) = (Nt.lb os (off + k) * P + q) * Nt.pw (off + k) := by rw [hd]
  rw [Int.add_mul, Int.add_mul, Int.mul_assoc q'] at e2
  rw [Int.mul_sub] at h
  rw [Int.mul_sub, Int.mul_add]
  rw [← Int.mul_assoc P, Int.mul_comm P (Nt.lb os (off + k))]
  omega

/-- a limb cut, with what came from above -/
theorem lower_digit {x r : Int} {n : Nat} (hn : n < 32) (hx0 : 0 ≤ x) (hx1 : x < 4294967296) (hr0 : 0 ≤ r) (hr1 : r < p2 n) :
    (0 ≤ bits .or .u32 (x / 2 ^ n) (r * p2 (32 - n)) ∧ bits .or .u32 (x / 2 ^ n) (r * p2 (32 - n)) < 4294967296) ∧ bits .or .u32 (x / 2 ^ n) (r * p2 (32 - n)) = x / p2 n + r * p2 (32 - n) ∧ x * 2 ^ (32 - n) % 4294967296 = (x % p2 n) * p2 (32 - n) := by
  rw [← p2_pow, ← p2_pow]
  have hP := p2_pos n
  have hQ := p2_pos (32 - n)
  have hPQ := p2_split (n := n) (by omega)
  obtain ⟨h1, _⟩ := shl_parts (x := x) hQ hP (by rw [Int.mul_comm]; exact hPQ)
  have q0 : 0 ≤ x / p2 n := Int.ediv_nonneg hx0 (by omega)
  have q1 : x / p2 n < p2 (32 - n) := Int.ediv_lt_of_lt_mul hP (by rw [Int.mul_comm, hPQ]; exact hx1)
  have hlt : r * p2 (32 - n) + x / p2 n < 4294967296 := by
    have : (r + 1) * p2 (32 - n) ≤ p2 n * p2 (32 - n) := Int.mul_le_mul_of_nonneg_right (by omega) (by omega)
    rw [Int.add_mul, hPQ] at this
    omega
  have hnn : 0 ≤ r * p2 (32 - n) := Int.mul_nonneg hr0 (by omega)
  have ho := (or_add (n := 32 - n) hr0 q0 q1 hlt).2
  rw [ho]
  exact ⟨⟨by omega, hlt⟩, by omega, h1⟩

theorem vt_set_gen {zs : List Int} {i : Nat} (hi : i < zs.length) (q : Int) (n : Nat) (hn : i < n) : Nt.vt (zs.set i q) n = Nt.vt zs n + (q - Nt.lb zs i) * Nt.pw i := by
  induction n with
  | zero => omega
  | succ n ih =>
    rw [Nt.vt_succ, Nt.vt_succ]
    by_cases e : i = n
    · subst e; rw [Nt.vt_set (Nat.le_refl _), Nt.lb_set_eq hi, Int.sub_mul]; omega
    · rw [Nt.lb_set_ne e, ih (by omega)]; omega

theorem lower_step {os zs : List Int} {p : Nat} {D r r' P Q : Int} (hp : p < zs.length) (hPQ : P * Q = 4294967296) (hD : D = Nt.lb os p / P + r * Q) (hr' : r' = Nt.lb os p % P)
    (h : (Nt.val zs - Nt.vt zs (p + 1)) * P + r * Nt.pw (p + 1) = Nt.val os - Nt.vt os (p + 1)) :
    (Nt.val (zs.set p D) - Nt.vt (zs.set p D) p) * P + r' * Nt.pw p = Nt.val os - Nt.vt os p := by
  have e0 : Nt.val (zs.set p D) = Nt.val zs + (D - Nt.lb zs p) * Nt.pw p := by
    unfold Nt.val; rw [List.length_set]; exact vt_set_gen hp D _ hp
  rw [e0, Nt.vt_set (Nat.le_refl _)]
  rw [Nt.vt_succ, Nt.vt_succ, Nt.pw_succ] at h
  have e := Int.emod_add_mul_ediv (Nt.lb os p) P
  rw [← hr'] at e
  have e1 : D * P + r' = Nt.lb os p + r * 4294967296 := by
    rw [hD, Int.add_mul, Int.mul_assoc, Int.mul_comm Q P, hPQ, Int.mul_comm (_ / _) P]; omega
  have e2 : (D * P + r') * Nt.pw p = (Nt.lb os p + r * 4294967296) * Nt.pw p := by rw [e1]
  rw [Int.add_mul, Int.add_mul, Int.mul_assoc r] at e2
  have e3 : (Nt.val zs + (D - Nt.lb zs p) * Nt.pw p - Nt.vt zs p) * P = (Nt.val zs - (Nt.vt zs p + Nt.lb zs p * Nt.pw p)) * P + D * P * Nt.pw p := by
    rw [Int.sub_mul D, Int.mul_right_comm D, ← Int.add_mul]
    congr 1
    omega
  rw [e3]
  omega

set_option maxHeartbeats 1000000 in
theorem lower_any {w0 w : World} {g n cap : Nat} {os : List Int} (hb : Below w0.heap.size w0 w) (hg : w0.heap.size ≤ g) (hn : n < 32) (hL : os.length ≤ 1099511627776)
    (hr : Row .u32 59 w g os) (hoo : Nt.Ok os) :
    Calls Tryd.prog 74 #[.slice (some ⟨g, 0, none⟩) os.length cap, .int .u64 n] w fun e w' => ∃ (r : Int) (zs : List Int), e = .returned (.int .u32 (r * p2 (32 - n))) ∧ 0 ≤ r ∧ r < p2 n ∧ zs.length = os.length ∧ Nt.Ok zs ∧
      Nt.val zs * p2 n + r = Nt.val os ∧ Row .u32 59 w' g zs ∧ Below w0.heap.size w0 w' := by
  go_enter Tryd.func74, Tryd.ntmps74
  go_wp2
  go_loopw [5, 11] (fun c i wr => ∃ (k : Nat) (r : Int) (zs : List Int), k ≤ os.length ∧ i = .int .i64 k ∧ c = .int .u32 (r * p2 (32 - n)) ∧ 0 ≤ r ∧ r < p2 n ∧ zs.length = os.length ∧ Nt.Ok zs ∧ (∀ j, j < os.length - k → Nt.lb zs j = Nt.lb os j) ∧
      Row .u32 59 wr g zs ∧ Below w0.heap.size w0 wr ∧ (Nt.val zs - Nt.vt zs (os.length - k)) * p2 n + r * Nt.pw (os.length - k) = Nt.val os - Nt.vt os (os.length - k)) (fun _ i _ => os.length - (intOf i).toNat)
  case atStart => exact ⟨0, 0, os, by omega, rfl, by simp, by omega, p2_pos n, rfl, hoo, fun _ _ => rfl, hr, hb, by simp [Nt.val]⟩
  case round =>
    obtain ⟨k, r, zs, hk, rfl, rfl, hr0, hr1, hzl, hzo, hsame, hrow, hbr, heq⟩ := hrel
    have Heq := hide heq
    have Hzl := hide hzl
    have Hs := hide hsame
    have Hr0 := hide hr0
    have Hr1 := hide hr1
    clear heq hzl hsame hr hb hr0 hr1
    by_cases hkl : k < os.length
    · have g2 := hrow.cell (i := os.length - 1 - k) (by have := Hzl.out; omega)
      have hfz := hrow.frozen (os.length - 1 - k)
      obtain ⟨bz0, bz1⟩ := hzo (os.length - 1 - k)
      have hn32 : (n : Int) < 32 := by omega
      obtain ⟨⟨d0, d1⟩, hd, hc⟩ := lower_digit hn bz0 bz1 Hr0.out Hr1.out
      have Hd0 := hide d0
      have Hd1 := hide d1
      have Hd := hide hd
      have Hc := hide hc
      have hzp := hide (Hs.out (os.length - 1 - k) (by omega))
      clear d0 d1 hd hc
      go_wp2
      go_roundw
      case rel =>
        refine ⟨k + 1, Nt.lb zs (os.length - 1 - k) % p2 n, zs.set (os.length - 1 - k) (bits BinOp.or IntKind.u32 (Nt.lb zs (os.length - 1 - k) / 2 ^ n) (r * p2 (32 - n))), by omega, by go_num, by rw [Hc.out], Int.emod_nonneg _ (by have := p2_pos n; omega), Int.emod_lt_of_pos _ (p2_pos n), by have := Hzl.out; simp [this], Nt.ok_set hzo ⟨Hd0.out, Hd1.out⟩, fun j hj => by
          rw [Nt.lb_set_ne (by omega)]; exact Hs.out j (by omega), hrow.set _ _, hbr.setCell (p := ⟨g, os.length - 1 - k, none⟩) hg _, ?_⟩
        rw [show os.length - (k + 1) = os.length - 1 - k by omega]
        exact lower_step (Q := p2 (32 - n)) (r := r) (by have := Hzl.out; omega) (p2_split (by omega)) (by rw [Hd.out, hzp.out]) (by rw [hzp.out]) (by rw [show os.length - 1 - k + 1 = os.length - k by omega]; exact Heq.out)
      case measure => simp [intOf]; omega
    · have hke : k = os.length := by omega
      subst hke
      go_wp2
      go_ret
      refine ⟨r, zs, rfl, Hr0.out, Hr1.out, Hzl.out, hzo, ?_, hrow, hbr⟩
      have := Heq.out
      rw [Nat.sub_self] at this
      simp only [Nt.vt, Nt.pw, Int.sub_zero, Int.mul_one] at this
      exact this

end Go.Proofs.YtmpdkeafbjibpaaDoor
