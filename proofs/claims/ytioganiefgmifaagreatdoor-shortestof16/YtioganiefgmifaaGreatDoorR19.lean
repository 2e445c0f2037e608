/- SPt, SOfM, SOfE, SOfD, SOfG -/
import Derived.Test.YtioganiefgmifaaGreatDoorR17
import Derived.Test.YtioganiefgmifaaGreatDoorR12
import Derived.Test.YtioganiefgmifaaGreatDoorR04
import Derived.Test.YtioganiefgmifaaGreatDoorR10
import Derived.Test.YtioganiefgmifaaGreatDoorR18
namespace Go.Proofs.YtioganiefgmifaaGreatDoor
open Go.RowKit
set_option linter.unusedVariables false

theorem sgn_scale {x y c : Int} (hc : 0 < c) : sgn (x * c) (y * c) = sgn x y := by
  unfold sgn
  have h1 : x * c < y * c ↔ x < y := ⟨fun h => Int.lt_of_mul_lt_mul_right h (Int.le_of_lt hc), fun h => Int.mul_lt_mul_of_pos_right h hc⟩
  have h2 : y * c < x * c ↔ y < x := ⟨fun h => Int.lt_of_mul_lt_mul_right h (Int.le_of_lt hc), fun h => Int.mul_lt_mul_of_pos_right h hc⟩
  simp only [h1, h2]
/-- the reference's comparison, in units -/
theorem sgn_units {F L s A q : Int} {q1 q2 e1 e2 : Nat} (hF : 0 < F) (hL : L ≤ 0) (hq1 : max q 0 = q1) (hq2 : max (-q) 0 = q2) (he1 : max (est F L s) 0 = e1) (he2 : max (-est F L s) 0 = e2) (hq : -500 ≤ q) :
    sgn (A * 10 ^ q1 * p2 e2) (2 * mst F s * p2 e1 * 10 ^ q2) = sgn (A * TT (gG L) q) (2 * vV F L s) := by
  have l1 := est_ge (F := F) (L := L) (s := s) hF
  have T0 : 0 < TT (gG L) 0 := TT_pos (gG_pos L) 0
  have Z0 : 0 < 10 ^ q2 * p2 e2 := Int.mul_pos (ten_pos q2) (p2_pos e2)
  have a1 : TT (gG L) q * 10 ^ q2 = TT (gG L) 0 * 10 ^ q1 := by
    rcases Int.lt_or_le q 0 with c | c
    · have z1 : q1 = 0 := by omega
      have z2 : q + q2 = 0 := by omega
      have := TT_add (G := gG L) (q := q) hq q2
      rw [z2] at this
      rw [this, z1, Int.pow_zero, Int.mul_one, Int.mul_comm]
    · have z2 : q2 = 0 := by omega
      have z1 : (0 : Int) + q1 = q := by omega
      have := TT_add (G := gG L) (q := 0) (by omega) q1
      rw [z1] at this
      rw [this, z2, Int.pow_zero, Int.mul_one, Int.mul_comm]
  have a2 : vV F L s * p2 e2 = mst F s * p2 e1 * TT (gG L) 0 := by
    have b1 : p2 (est F L s - L).toNat * p2 e2 = p2 e1 * p2 (-L).toNat := by rw [← p2_add, ← p2_add]; congr 1; omega
    have b2 : gG L = 2 * p2 (-L).toNat := by unfold gG; rw [show (1 - L).toNat = (-L).toNat + 1 by omega, p2]
    rw [show TT (gG L) 0 = E5 * gG L from rfl, b2]
    unfold vV
    rw [um_at]
    generalize E5 = E
    rw [show 2 * (mst F s * p2 (est F L s - L).toNat) * E * p2 e2 = 2 * mst F s * E * (p2 (est F L s - L).toNat * p2 e2) by ac_rfl, b1]
    ac_rfl
  rw [← sgn_scale T0, ← sgn_scale Z0 (x := A * TT (gG L) q)]
  congr 1
  · rw [show A * TT (gG L) q * (10 ^ q2 * p2 e2) = A * (TT (gG L) q * 10 ^ q2) * p2 e2 by ac_rfl, a1]; ac_rfl
  · rw [show 2 * vV F L s * (10 ^ q2 * p2 e2) = 2 * (vV F L s * p2 e2) * 10 ^ q2 by ac_rfl, a2]; ac_rfl

theorem guess6 {N O t p0 : Int} {a b : Nat} (hN : p2 (a - 1) ≤ N) (ha : 1 ≤ a) (hO : O ≤ p2 b) (hO0 : 0 < O) (ht : t = a - b - 1) (t0 : -1200 < t) (t1 : t < 1200) (hp : p0 = (t * 30103).tdiv 100000 - 1) :
    -400 ≤ p0 ∧ p0 ≤ 400 ∧ (0 ≤ p0 → O * 10 ^ p0.toNat ≤ N) ∧ (p0 < 0 → O ≤ N * 10 ^ (-p0).toNat) := by
  rcases Int.lt_or_le t 0 with c | c
  · obtain ⟨u, rfl⟩ : ∃ u : Nat, t = -(u : Int) := ⟨(-t).toNat, by omega⟩
    have e : (-(u : Int) * 30103).tdiv 100000 = -((u * 30103 / 100000 : Nat) : Int) := by
      rw [show -(u : Int) * 30103 = -((u * 30103 : Nat) : Int) by omega, Int.neg_tdiv]
      rfl
    rw [e] at hp
    have tb := tab_dn ⟨u, by omega⟩
    simp only at tb
    refine ⟨by omega, by omega, fun h => by omega, fun _ => ?_⟩
    have e2 : (-p0).toNat = u * 30103 / 100000 + 1 := by omega
    rw [e2]
    have k1 : p2 u ≤ 10 ^ (u * 30103 / 100000 + 1) := by rw [p2_is, ten_is]; exact_mod_cast tb
    have k2 : p2 b = p2 (a - 1) * p2 u := by rw [← p2_add]; congr 1; omega
    have k3 : p2 (a - 1) * p2 u ≤ N * 10 ^ (u * 30103 / 100000 + 1) := Int.mul_le_mul hN k1 (Int.le_of_lt (p2_pos _)) (by have := p2_pos (a - 1); omega)
    omega
  · obtain ⟨u, rfl⟩ : ∃ u : Nat, t = u := ⟨t.toNat, by omega⟩
    have e : ((u : Int) * 30103).tdiv 100000 = ((u * 30103 / 100000 : Nat) : Int) := by
      rw [show (u : Int) * 30103 = ((u * 30103 : Nat) : Int) by omega]
      rfl
    rw [e] at hp
    have tb := tab_up ⟨u, by omega⟩
    simp only at tb
    have k2 : p2 (a - 1) = p2 b * p2 u := by rw [← p2_add]; congr 1; omega
    refine ⟨by omega, by omega, fun h => ?_, fun h => ?_⟩
    · have e2 : p0.toNat = u * 30103 / 100000 - 1 := by omega
      rw [e2]
      have k1 : 10 ^ (u * 30103 / 100000 - 1) ≤ p2 u := by rw [p2_is, ten_is]; exact_mod_cast tb
      have k3 : O * 10 ^ (u * 30103 / 100000 - 1) ≤ p2 b * p2 u := Int.mul_le_mul hO k1 (Int.le_of_lt (ten_pos _)) (Int.le_of_lt (p2_pos _))
      omega
    · have k3 : p2 b * 1 ≤ p2 b * p2 u := Int.mul_le_mul_of_nonneg_left (by have := p2_pos u; omega) (Int.le_of_lt (p2_pos _))
      have := ten_pos (-p0).toNat
      have k4 : N * 1 ≤ N * 10 ^ (-p0).toNat := Int.mul_le_mul_of_nonneg_left (by omega) (by have := p2_pos (a - 1); omega)
      omega

theorem sgn_unit {F L s q : Int} {q1 q2 e1 e2 : Nat} (hF : 0 < F) (hL : L ≤ 0) (hq1 : max q 0 = q1) (hq2 : max (-q) 0 = q2) (he1 : max (est F L s) 0 = e1) (he2 : max (-est F L s) 0 = e2) (hq : -500 ≤ q) :
    sgn (1 * 10 ^ q1 * p2 e2) (mst F s * p2 e1 * 10 ^ q2) = sgn (TT (gG L) q) (vV F L s) := by
  have h := sgn_units (A := 2) hF hL hq1 hq2 he1 he2 hq
  have a : (2 : Int) * 10 ^ q1 * p2 e2 = 1 * 10 ^ q1 * p2 e2 * 2 := by rw [Int.one_mul]; ac_rfl
  have b : 2 * mst F s * p2 e1 * 10 ^ q2 = mst F s * p2 e1 * 10 ^ q2 * 2 := by ac_rfl
  rw [a, b, Int.mul_comm 2, Int.mul_comm 2, sgn_scale (by decide), sgn_scale (by decide)] at h
  exact h
/-- where the reference begins, the power is not above the number -/
theorem point_first {F L s t p0 : Int} {l : Nat} (hF : 0 < F) (hL : L ≤ 0) (hl : IsLen (mst F s) l) (l1 : 1 ≤ l) (ht : t = est F L s + l - 1) (t0 : -1200 < t) (t1 : t < 1200) (hp : p0 = (t * 30103).tdiv 100000 - 1) :
    -400 ≤ p0 ∧ p0 ≤ 400 ∧ TT (gG L) p0 ≤ vV F L s := by
  obtain ⟨e1, he1⟩ : ∃ a : Nat, max (est F L s) 0 = a := ⟨(max (est F L s) 0).toNat, by omega⟩
  obtain ⟨e2, he2⟩ : ∃ a : Nat, max (-est F L s) 0 = a := ⟨(max (-est F L s) 0).toNat, by omega⟩
  have hm := hl.2 (by omega)
  have hN : p2 (l + e1 - 1) ≤ mst F s * p2 e1 := by
    rw [show l + e1 - 1 = (l - 1) + e1 by omega, p2_add]
    exact Int.mul_le_mul_of_nonneg_right hm (Int.le_of_lt (p2_pos _))
  obtain ⟨a, b, c, d⟩ := guess6 (N := mst F s * p2 e1) (O := p2 e2) (a := l + e1) (b := e2) (t := t) (p0 := p0) hN (by omega) (Int.le_refl _) (p2_pos _) (by omega) t0 t1 hp
  refine ⟨a, b, ?_⟩
  obtain ⟨q1, hq1⟩ : ∃ a : Nat, max p0 0 = a := ⟨(max p0 0).toNat, by omega⟩
  obtain ⟨q2, hq2⟩ : ∃ a : Nat, max (-p0) 0 = a := ⟨(max (-p0) 0).toNat, by omega⟩
  have u := sgn_unit (s := s) hF hL hq1 hq2 he1 he2 (by omega)
  have le : 1 * 10 ^ q1 * p2 e2 ≤ mst F s * p2 e1 * 10 ^ q2 := by
    rcases Int.lt_or_le p0 0 with g | g
    · have z1 : q1 = 0 := by omega
      have z2 : (-p0).toNat = q2 := by omega
      have := d g
      rw [z2] at this
      rw [z1, Int.pow_zero, Int.one_mul, Int.one_mul]; exact this
    · have z2 : q2 = 0 := by omega
      have z1 : p0.toNat = q1 := by omega
      have := c g
      rw [z1] at this
      rw [z2, Int.pow_zero, Int.mul_one, Int.one_mul, Int.mul_comm]; exact this
  rcases sgn_cases (TT (gG L) p0) (vV F L s) with ⟨_, k⟩ | ⟨_, k⟩ | ⟨k1, k⟩
  · omega
  · omega
  · rw [k1] at u
    rcases sgn_cases (1 * 10 ^ q1 * p2 e2) (mst F s * p2 e1 * 10 ^ q2) with ⟨v, _⟩ | ⟨v, _⟩ | ⟨v, k2⟩ <;> omega
theorem one_row (w : World) : Arg (w.alloc (.cells #[.int .u32 1] 22)) (.slice (some ⟨w.heap.size, 0, none⟩) 1 1) 1 1 := by
  have hr : Row .u32 22 (w.alloc (.cells #[.int .u32 1] 22)) w.heap.size [1] := heap_alloc_new _ _
  refine ⟨[1], ⟨some ⟨w.heap.size, 0, none⟩, 1, rfl, by simp, by unfold maxLen; simp, ?_⟩, ?_, ?_, by simp⟩
  · have := row_cells (off := 0) (n := 1) hr (by simp)
    simpa using this
  · intro i
    match i with
    | 0 => simp [Nt.lb]
    | i + 1 => simp [Nt.lb]
  · rw [val_le_two (by simp)]
    simp [Nt.lb]

set_option maxRecDepth 100000 in
set_option maxHeartbeats 4000000 in
theorem point6 {w : World} {v : Value} {F L s : Int} {kk l fr : Nat} (ha : Arg w v (mst F s) kk) (hkk : kk ≤ 10) (hfr : F = p2 fr) (s0 : 0 < s) (hL : -1074 ≤ L) (hL0 : L ≤ 0) (he : est F L s ≤ 1023 - fr) (hl : IsLen (mst F s) l) (l1 : 1 ≤ l) (l2 : l ≤ 64) :
    Calls Tryz.prog 49 #[v, .int .i64 (est F L s)] w fun r w' => ∃ p, r = .returned (.int .i64 p) ∧ (TT (gG L) (p - 1) ≤ vV F L s ∧ vV F L s < TT (gG L) p) ∧ Below w.heap.size w w' := by
  have hF : 0 < F := by rw [hfr]; exact p2_pos fr
  have l0 := est_ge (F := F) (L := L) (s := s) hF
  have PH := hide (fun p (h : TT (gG L) (p - 1) ≤ vV F L s) => point_high hfr (by omega) hL0 he h)
  have PF := hide (fun t p0 (ht : t = est F L s + l - 1) => point_first (p0 := p0) hF hL0 hl l1 ht)
  obtain ⟨e1, he1⟩ : ∃ a : Nat, max (est F L s) 0 = a := ⟨(max (est F L s) 0).toNat, by omega⟩
  obtain ⟨e2, he2⟩ : ∃ a : Nat, max (-est F L s) 0 = a := ⟨(max (-est F L s) 0).toNat, by omega⟩
  have SU := hide (fun q a b h1 h2 h3 => sgn_unit (F := F) (L := L) (s := s) (q := q) (q1 := a) (q2 := b) hF hL0 h1 h2 he1 he2 h3)
  have TM := hide (fun q (h : -500 ≤ q - 1) => show TT (gG L) (q - 1) ≤ TT (gG L) q by
    have a := TT_succ (G := gG L) (q := q - 1) h
    have b := TT_pos (gG_pos L) (q - 1)
    rw [show q - 1 + 1 = q by omega] at a
    omega)
  have eb : -1074 ≤ est F L s ∧ est F L s ≤ 1023 := by omega
  obtain ⟨mm, hmm⟩ : ∃ m, mst F s = m := ⟨_, rfl⟩
  obtain ⟨ee, hee⟩ : ∃ e, est F L s = e := ⟨_, rfl⟩
  rw [hmm] at ha hl
  simp only [hmm] at SU
  rw [hee] at he1 he2 eb
  simp only [hee] at PF
  rw [hee]
  have HA := hide ha
  have HL := hide hl
  have HE := hide (And.intro he1 he2)
  clear ha hl he1 he2 hmm hee he l0 hfr hF
  obtain ⟨t, ht⟩ : ∃ t, ee + (l : Int) - 1 = t := ⟨_, rfl⟩
  have tb : -1200 < t ∧ t < 1200 := by omega
  have x1 : IntKind.i64.wrap (ee + (l : Int)) = t + 1 := by rw [IntKind.wrap_i64]; omega
  have x2 : IntKind.i64.wrap (t + 1 - 1) = t := by rw [IntKind.wrap_i64]; omega
  have x2' : IntKind.i64.wrap t = t := by rw [IntKind.wrap_i64]; omega
  have x3 : IntKind.i64.wrap (t * 30103) = t * 30103 := by rw [IntKind.wrap_i64]; omega
  obtain ⟨p0, hp0⟩ : ∃ p, (t * 30103).tdiv 100000 - 1 = p := ⟨_, rfl⟩
  obtain ⟨pa, pb, pc⟩ := PF.out t p0 ht.symm tb.1 tb.2 hp0.symm
  have x4 : IntKind.i64.wrap ((t * 30103).tdiv 100000) = p0 + 1 := by rw [IntKind.wrap_i64]; omega
  have x5 : IntKind.i64.wrap (p0 + 1 - 1) = p0 := by rw [IntKind.wrap_i64]; omega
  have x6 : (t * 30103).tdiv 100000 = p0 + 1 := by omega
  have x7 : IntKind.i64.wrap p0 = p0 := by rw [IntKind.wrap_i64]; omega
  have x8 : IntKind.i64.wrap (p0 + 1) = p0 + 1 := by rw [IntKind.wrap_i64]; omega
  have PC := hide pc
  have HT := hide ht
  clear ht hp0 pc PF
  go_enter Tryz.func49, Tryz.ntmps49
  go_wp2_with fail
  refine (rlen_any HA.out (by omega) HL.out).mono ?_
  rintro r w1 ⟨rfl, b1⟩
  have K0 := b1
  clear b1
  go_wp2
  go_loopg [6] (320 - p0).toNat (fun c i wr => ∃ p : Int, c = (320 - p).toNat ∧ i = .int .i64 p ∧ -400 ≤ p ∧ p ≤ 400 ∧ Hid (TT (gG L) (p - 1) ≤ vV F L s) ∧ Below w.heap.size w wr)
  case atStart => exact ⟨p0, rfl, rfl, pa, pb, hide (Int.le_trans (TM.out p0 (by omega)) PC.out), K0⟩
  case round =>
    obtain ⟨p, hc, rfl, q0, q1, HP, hbw⟩ := hrel
    obtain ⟨a, h1⟩ : ∃ a : Nat, max p 0 = a := ⟨(max p 0).toNat, by omega⟩
    obtain ⟨b, h2⟩ : ∃ a : Nat, max (-p) 0 = a := ⟨(max (-p) 0).toNat, by omega⟩
    have su := SU.out p a b h1 h2 (by omega)
    have ab : a ≤ 600 ∧ b ≤ 600 := by omega
    have ec : e1 ≤ 1200 ∧ e2 ≤ 1200 := by have := HE.out; omega
    have HB := hide (And.intro h1 h2)
    have ph := PH.out p HP.out
    have hsu := hide su
    clear h1 h2 su
    have R := hide (one_row wr)
    have K1 := bel_new wr (.cells #[.int .u32 1] 22)
    have B := hide ((HA.out.below hbw).below K1)
    have u1 : IntKind.i64.wrap (p + 1) = p + 1 := by rw [IntKind.wrap_i64]; omega
    go_wp2_with fail
    refine (against6 (q := p) (e := ee) R.out B.out (by omega) hkk HB.out.1 HB.out.2 HE.out.1 HE.out.2 ab.1 ab.2 ec.1 ec.2).mono ?_
    rintro r w2 ⟨rfl, b2⟩
    rw [hsu.out]
    have sg := sgn_cases (TT (gG L) p) (vV F L s)
    generalize sgn (TT (gG L) p) (vV F L s) = z at *
    have KK := hide (below_trans hbw (below_trans K1 b2))
    clear b2 K1 R B hbw
    by_cases zz : z ≤ 0
    · have le := hide (show TT (gG L) p ≤ vV F L s by omega)
      have ph2 := PH.out (p + 1) (by rw [show p + 1 - 1 = p by omega]; exact le.out)
      clear sg
      go_wp2
      go_roundg (320 - (p + 1)).toNat
      case measure => omega
      case rel => exact ⟨p + 1, rfl, rfl, by omega, by omega, hide (by rw [show p + 1 - 1 = p by omega]; exact le.out), KK.out⟩
    · have gt := hide (show vV F L s < TT (gG L) p by omega)
      clear sg
      go_wp2
      go_ret
      exact ⟨p, rfl, ⟨HP.out, gt.out⟩, KK.out⟩

end Go.Proofs.YtioganiefgmifaaGreatDoor

namespace Go.Proofs.YtioganiefgmifaaGreatDoor
set_option linter.unusedVariables false

theorem sgn_rel {x y X Y A B : Int} (hA : 0 < A) (hB : 0 < B) (h1 : x * A = X * B) (h2 : y * A = Y * B) : sgn x y = sgn X Y := by
  rw [← sgn_scale (x := x) (y := y) hA, h1, h2, sgn_scale hB]

/-- the four numbers of a scale, against the units -/
structure Sl (F L s p X Lo Hi U : Int) : Prop where
  ex : ∃ A B : Int, 0 < A ∧ 0 < B ∧ X * A = vV F L s * B ∧ Lo * A = vLo F L s * B ∧ Hi * A = vHi F L s * B ∧ U * A = TT (gG L) (p - 17) * B

theorem est_step {F L s : Int} (hF : 0 < F) (h : 0 < s) : est F L (s - 1) ≤ est F L s ∧ est F L s ≤ est F L (s + 1) := by
  constructor
  · rcases est_pred (L := L) hF h with g | ⟨g, _⟩ <;> omega
  · have := est_pred (L := L) (s := s + 1) hF (by omega)
    rw [show s + 1 - 1 = s by omega] at this
    rcases this with g | ⟨g, _⟩ <;> omega

theorem made_sl {F L s p : Int} {tw fv u x1 x0 f0 g0 : Nat} (hF : 0 < F) (h : 0 < s) (hp : -483 ≤ p)
    (hfv : (fv : Int) = max 0 (17 - p)) (hu : (u : Int) = p - 17 + fv)
    (hx1 : (x1 : Int) = est F L s + tw) (hx0 : (x0 : Int) = est F L s + tw - 1) (hf0 : (f0 : Int) = est F L (s - 1) + tw - 1) (hg0 : (g0 : Int) = est F L (s + 1) + tw - 1) (hL : L ≤ 0) :
    Sl F L s p (mst F s * p2 x1 * 10 ^ fv) ((mst F s * p2 x0 + mst F (s - 1) * p2 f0) * 10 ^ fv) ((mst F s * p2 x0 + mst F (s + 1) * p2 g0) * 10 ^ fv) (1 * p2 tw * 10 ^ u) := by
  have l1 := est_ge (F := F) (L := L) (s := s) hF
  have l2 := est_ge (F := F) (L := L) (s := s - 1) hF
  have l3 := est_ge (F := F) (L := L) (s := s + 1) hF
  have k1 : p2 x1 * p2 (1 - L).toNat = 2 * (p2 (est F L s - L).toNat * p2 tw) := by
    rw [show (2 : Int) = p2 1 from rfl, ← p2_add, ← p2_add, ← p2_add]; congr 1; omega
  have k2 : p2 x0 * p2 (1 - L).toNat = p2 (est F L s - L).toNat * p2 tw := by
    rw [← p2_add, ← p2_add]; congr 1; omega
  have k3 : p2 f0 * p2 (1 - L).toNat = p2 (est F L (s - 1) - L).toNat * p2 tw := by
    rw [← p2_add, ← p2_add]; congr 1; omega
  have k4 : p2 g0 * p2 (1 - L).toNat = p2 (est F L (s + 1) - L).toNat * p2 tw := by
    rw [← p2_add, ← p2_add]; congr 1; omega
  have k5 : (10 : Int) ^ u * E5 = 10 ^ (p - 17 + 500).toNat * 10 ^ fv := by
    unfold E5
    rw [← Int.pow_add, ← Int.pow_add]; congr 1; omega
  refine ⟨p2 (1 - L).toNat * E5, p2 tw * 10 ^ fv, Int.mul_pos (p2_pos _) E5_pos, Int.mul_pos (p2_pos _) (ten_pos _), ?_, ?_, ?_, ?_⟩
  · rw [vV, um_at]
    generalize E5 = E
    rw [show mst F s * p2 x1 * 10 ^ fv * (p2 (1 - L).toNat * E) = mst F s * 10 ^ fv * E * (p2 x1 * p2 (1 - L).toNat) by ac_rfl, k1]
    ac_rfl
  · rw [vLo, um_at, um_at]
    generalize E5 = E
    rw [show (mst F s * p2 x0 + mst F (s - 1) * p2 f0) * 10 ^ fv * (p2 (1 - L).toNat * E) = (mst F s * (p2 x0 * p2 (1 - L).toNat) + mst F (s - 1) * (p2 f0 * p2 (1 - L).toNat)) * (10 ^ fv * E) by rw [Int.add_mul, Int.add_mul, Int.add_mul]; ac_rfl, k2, k3]
    rw [show mst F s * (p2 (est F L s - L).toNat * p2 tw) + mst F (s - 1) * (p2 (est F L (s - 1) - L).toNat * p2 tw) = (mst F (s - 1) * p2 (est F L (s - 1) - L).toNat + mst F s * p2 (est F L s - L).toNat) * p2 tw by rw [Int.add_mul]; rw [Int.add_comm]; ac_rfl]
    ac_rfl
  · rw [vHi, um_at, um_at]
    generalize E5 = E
    rw [show (mst F s * p2 x0 + mst F (s + 1) * p2 g0) * 10 ^ fv * (p2 (1 - L).toNat * E) = (mst F s * (p2 x0 * p2 (1 - L).toNat) + mst F (s + 1) * (p2 g0 * p2 (1 - L).toNat)) * (10 ^ fv * E) by rw [Int.add_mul, Int.add_mul, Int.add_mul]; ac_rfl, k2, k4]
    rw [show mst F s * (p2 (est F L s - L).toNat * p2 tw) + mst F (s + 1) * (p2 (est F L (s + 1) - L).toNat * p2 tw) = (mst F s * p2 (est F L s - L).toNat + mst F (s + 1) * p2 (est F L (s + 1) - L).toNat) * p2 tw by rw [Int.add_mul]; ac_rfl]
    ac_rfl
  · unfold TT gG
    generalize E5 = E at *
    rw [show 1 * p2 tw * 10 ^ u * (p2 (1 - L).toNat * E) = p2 tw * p2 (1 - L).toNat * (10 ^ u * E) by rw [Int.one_mul]; ac_rfl, k5]
    ac_rfl

/-- a power of ten less than 17 places up -/
theorem tt_up {L p : Int} {k : Nat} (hp : -483 ≤ p) (hk : k ≤ 17) : (10 : Int) ^ (17 - k) * TT (gG L) (p - 17) = TT (gG L) (p - k) := by
  rw [← TT_add (by omega)]; congr 1; omega

theorem Sl.low {F L s p X Lo Hi U c : Int} {k : Nat} (h : Sl F L s p X Lo Hi U) (hp : -483 ≤ p) (hk : k ≤ 17) : sgn Lo (c * 10 ^ (17 - k) * U) = sgn (vLo F L s) (c * TT (gG L) (p - k)) := by
  obtain ⟨A, B, hA, hB, _, h2, _, h4⟩ := h.ex
  refine sgn_rel hA hB h2 ?_
  rw [Int.mul_assoc, h4, ← tt_up hp hk]; ac_rfl
theorem Sl.high {F L s p X Lo Hi U c : Int} {k : Nat} (h : Sl F L s p X Lo Hi U) (hp : -483 ≤ p) (hk : k ≤ 17) : sgn (c * 10 ^ (17 - k) * U) Hi = sgn (c * TT (gG L) (p - k)) (vHi F L s) := by
  obtain ⟨A, B, hA, hB, _, _, h3, h4⟩ := h.ex
  refine sgn_rel hA hB ?_ h3
  rw [Int.mul_assoc, h4, ← tt_up hp hk]; ac_rfl
theorem Sl.mid {F L s p X Lo Hi U c : Int} {k : Nat} (h : Sl F L s p X Lo Hi U) (hp : -483 ≤ p) (hk : k ≤ 17) : sgn (X + X) ((c + c + 1) * 10 ^ (17 - k) * U) = sgn (2 * vV F L s) ((2 * c + 1) * TT (gG L) (p - k)) := by
  obtain ⟨A, B, hA, hB, h1, _, _, h4⟩ := h.ex
  refine sgn_rel hA hB ?_ ?_
  · rw [Int.add_mul, h1, Int.mul_assoc, Int.two_mul]
  · rw [Int.mul_assoc, h4, ← tt_up hp hk, Int.two_mul]; ac_rfl
theorem Sl.div {F L s p X Lo Hi U : Int} (h : Sl F L s p X Lo Hi U) (hU : 0 < U) : X / U = vV F L s / TT (gG L) (p - 17) := by
  obtain ⟨A, B, hA, hB, h1, _, _, h4⟩ := h.ex
  rw [← Int.mul_ediv_mul_of_pos_left X U hA, h1, h4, Int.mul_ediv_mul_of_pos_left _ _ hB]
theorem tt_cut {F L s p : Int} {k : Nat} (hp : -483 ≤ p) (hk : k ≤ 17) : vV F L s / TT (gG L) (p - 17) / 10 ^ (17 - k) = vV F L s / TT (gG L) (p - k) := by
  rw [Int.ediv_ediv_of_nonneg (Int.le_of_lt (TT_pos (gG_pos L) _)), Int.mul_comm, tt_up hp hk]

theorem inn_iff {Lo Hi x : Int} {even : Bool} {ends : Prop} (he : even = true ↔ ends) : rdB (sgn Lo x) (sgn x Hi) even = true ↔ Inn Lo Hi ends x := by
  unfold rdB Inn
  rw [← he]
  rcases sgn_cases Lo x with ⟨a, ha⟩ | ⟨a, ha⟩ | ⟨a, ha⟩ <;> rcases sgn_cases x Hi with ⟨b, hb⟩ | ⟨b, hb⟩ | ⟨b, hb⟩ <;> rw [a, b] <;> cases even <;> simp <;> omega

/-- one number of digits: what the reference's round finds -/
theorem pick_of {F L s p n : Int} {k : Nat} {low high : Bool} {ends : Prop} {c : Int} (hc : c = vV F L s / TT (gG L) (p - k))
    (hl : low = true ↔ Inn (vLo F L s) (vHi F L s) ends (c * TT (gG L) (p - k))) (hh : high = true ↔ Inn (vLo F L s) (vHi F L s) ends ((c + 1) * TT (gG L) (p - k)))
    (hn : n = sgn (2 * vV F L s) ((2 * c + 1) * TT (gG L) (p - k))) :
    (low = false ∧ high = false → Out (vV F L s) (vLo F L s) (vHi F L s) ends (TT (gG L) (p - k))) ∧
    (low = true ∨ high = true → Pick (vV F L s) (vLo F L s) (vHi F L s) ends (TT (gG L) (p - k)) (if low = false ∨ (high = true ∧ (0 < n ∨ (n = 0 ∧ c % 2 = 1))) then c + 1 else c)) := by
  have hcl : Cls (vV F L s) (TT (gG L) (p - k)) c ↔ (0 < n ∨ (n = 0 ∧ c % 2 = 1)) := by
    unfold Cls
    rcases sgn_cases (2 * vV F L s) ((2 * c + 1) * TT (gG L) (p - k)) with ⟨a, ha⟩ | ⟨a, ha⟩ | ⟨a, ha⟩ <;> rw [a] at hn <;> rw [hn] <;> omega
  subst hc
  constructor
  · rintro ⟨a, b⟩
    refine ⟨fun g => ?_, fun g => ?_⟩
    · rw [← hl, a] at g; exact absurd g (by decide)
    · rw [← hh, b] at g; exact absurd g (by decide)
  · intro g
    unfold Pick
    rw [hcl, ← hl, ← hh]
    cases low <;> cases high
    · simp at g
    · right; simp
    · left; simp
    · by_cases q : 0 < n ∨ (n = 0 ∧ vV F L s / TT (gG L) (p - k) % 2 = 1)
      · right; simp [q]
      · left; simp [q]

end Go.Proofs.YtioganiefgmifaaGreatDoor

namespace Go.Proofs.YtioganiefgmifaaGreatDoor
open Go.RowKit
set_option linter.unusedVariables false
set_option linter.unusedSimpArgs false

/-- the six cells of a scale, that may be written -/
structure Cl6 (w : World) (b : Nat) (v0 v1 v2 v3 v4 v5 : Value) : Prop where
  c0 : w.cell? ⟨b, 0, none⟩ = some v0
  f0 : w.frozen? ⟨b, 0, none⟩ = false
  c1 : w.cell? ⟨b, 1, none⟩ = some v1
  f1 : w.frozen? ⟨b, 1, none⟩ = false
  c2 : w.cell? ⟨b, 2, none⟩ = some v2
  f2 : w.frozen? ⟨b, 2, none⟩ = false
  c3 : w.cell? ⟨b, 3, none⟩ = some v3
  f3 : w.frozen? ⟨b, 3, none⟩ = false
  c4 : w.cell? ⟨b, 4, none⟩ = some v4
  f4 : w.frozen? ⟨b, 4, none⟩ = false
  c5 : w.cell? ⟨b, 5, none⟩ = some v5
  f5 : w.frozen? ⟨b, 5, none⟩ = false
  lt : b < w.heap.size
theorem Cl6.below {w w' : World} {b : Nat} {v0 v1 v2 v3 v4 v5 : Value} (h : Cl6 w b v0 v1 v2 v3 v4 v5) (hb : Below w.heap.size w w') : Cl6 w' b v0 v1 v2 v3 v4 v5 :=
  ⟨(hb.cell (p := ⟨b, 0, none⟩) h.lt).trans h.c0, (hb.frozen (p := ⟨b, 0, none⟩) h.lt).trans h.f0, (hb.cell (p := ⟨b, 1, none⟩) h.lt).trans h.c1, (hb.frozen (p := ⟨b, 1, none⟩) h.lt).trans h.f1, (hb.cell (p := ⟨b, 2, none⟩) h.lt).trans h.c2, (hb.frozen (p := ⟨b, 2, none⟩) h.lt).trans h.f2, (hb.cell (p := ⟨b, 3, none⟩) h.lt).trans h.c3, (hb.frozen (p := ⟨b, 3, none⟩) h.lt).trans h.f3, (hb.cell (p := ⟨b, 4, none⟩) h.lt).trans h.c4, (hb.frozen (p := ⟨b, 4, none⟩) h.lt).trans h.f4, (hb.cell (p := ⟨b, 5, none⟩) h.lt).trans h.c5, (hb.frozen (p := ⟨b, 5, none⟩) h.lt).trans h.f5, Nat.lt_of_lt_of_le h.lt hb.size⟩
theorem cl6_new (w : World) (v0 v1 v2 v3 v4 v5 : Value) (t : TypeId) : Cl6 (w.alloc (.cells #[v0, v1, v2, v3, v4, v5] t)) w.heap.size v0 v1 v2 v3 v4 v5 := by
  refine ⟨?_, ?_, ?_, ?_, ?_, ?_, ?_, ?_, ?_, ?_, ?_, ?_, by simp⟩ <;> first | (rw [World.cell?_alloc_at _ _ _ _ rfl]; rfl) | (rw [World.frozen?_alloc_at _ _ _ _ rfl])
theorem Cl6.set0 {w : World} {b : Nat} {v0 v1 v2 v3 v4 v5 : Value} (h : Cl6 w b v0 v1 v2 v3 v4 v5) (x : Value) : Cl6 (w.setCell ⟨b, 0, none⟩ x) b x v1 v2 v3 v4 v5 := by
  refine ⟨?_, ?_, ?_, ?_, ?_, ?_, ?_, ?_, ?_, ?_, ?_, ?_, by simpa [World.setCell] using h.lt⟩
  · exact World.cell?_setCell_same _ _ _ h.c0
  · have := h.f0; simpa [go_sem] using this
  · rw [World.cell?_setCell_other _ _ _ _ (by intro e; injection e with _ e _; cases e)]; exact h.c1
  · have := h.f1; simpa [go_sem] using this
  · rw [World.cell?_setCell_other _ _ _ _ (by intro e; injection e with _ e _; cases e)]; exact h.c2
  · have := h.f2; simpa [go_sem] using this
  · rw [World.cell?_setCell_other _ _ _ _ (by intro e; injection e with _ e _; cases e)]; exact h.c3
  · have := h.f3; simpa [go_sem] using this
  · rw [World.cell?_setCell_other _ _ _ _ (by intro e; injection e with _ e _; cases e)]; exact h.c4
  · have := h.f4; simpa [go_sem] using this
  · rw [World.cell?_setCell_other _ _ _ _ (by intro e; injection e with _ e _; cases e)]; exact h.c5
  · have := h.f5; simpa [go_sem] using this
theorem Cl6.set1 {w : World} {b : Nat} {v0 v1 v2 v3 v4 v5 : Value} (h : Cl6 w b v0 v1 v2 v3 v4 v5) (x : Value) : Cl6 (w.setCell ⟨b, 1, none⟩ x) b v0 x v2 v3 v4 v5 := by
  refine ⟨?_, ?_, ?_, ?_, ?_, ?_, ?_, ?_, ?_, ?_, ?_, ?_, by simpa [World.setCell] using h.lt⟩
  · rw [World.cell?_setCell_other _ _ _ _ (by intro e; injection e with _ e _; cases e)]; exact h.c0
  · have := h.f0; simpa [go_sem] using this
  · exact World.cell?_setCell_same _ _ _ h.c1
  · have := h.f1; simpa [go_sem] using this
  · rw [World.cell?_setCell_other _ _ _ _ (by intro e; injection e with _ e _; cases e)]; exact h.c2
  · have := h.f2; simpa [go_sem] using this
  · rw [World.cell?_setCell_other _ _ _ _ (by intro e; injection e with _ e _; cases e)]; exact h.c3
  · have := h.f3; simpa [go_sem] using this
  · rw [World.cell?_setCell_other _ _ _ _ (by intro e; injection e with _ e _; cases e)]; exact h.c4
  · have := h.f4; simpa [go_sem] using this
  · rw [World.cell?_setCell_other _ _ _ _ (by intro e; injection e with _ e _; cases e)]; exact h.c5
  · have := h.f5; simpa [go_sem] using this
theorem Cl6.set2 {w : World} {b : Nat} {v0 v1 v2 v3 v4 v5 : Value} (h : Cl6 w b v0 v1 v2 v3 v4 v5) (x : Value) : Cl6 (w.setCell ⟨b, 2, none⟩ x) b v0 v1 x v3 v4 v5 := by
  refine ⟨?_, ?_, ?_, ?_, ?_, ?_, ?_, ?_, ?_, ?_, ?_, ?_, by simpa [World.setCell] using h.lt⟩
  · rw [World.cell?_setCell_other _ _ _ _ (by intro e; injection e with _ e _; cases e)]; exact h.c0
  · have := h.f0; simpa [go_sem] using this
  · rw [World.cell?_setCell_other _ _ _ _ (by intro e; injection e with _ e _; cases e)]; exact h.c1
  · have := h.f1; simpa [go_sem] using this
  · exact World.cell?_setCell_same _ _ _ h.c2
  · have := h.f2; simpa [go_sem] using this
  · rw [World.cell?_setCell_other _ _ _ _ (by intro e; injection e with _ e _; cases e)]; exact h.c3
  · have := h.f3; simpa [go_sem] using this
  · rw [World.cell?_setCell_other _ _ _ _ (by intro e; injection e with _ e _; cases e)]; exact h.c4
  · have := h.f4; simpa [go_sem] using this
  · rw [World.cell?_setCell_other _ _ _ _ (by intro e; injection e with _ e _; cases e)]; exact h.c5
  · have := h.f5; simpa [go_sem] using this
theorem Cl6.set3 {w : World} {b : Nat} {v0 v1 v2 v3 v4 v5 : Value} (h : Cl6 w b v0 v1 v2 v3 v4 v5) (x : Value) : Cl6 (w.setCell ⟨b, 3, none⟩ x) b v0 v1 v2 x v4 v5 := by
  refine ⟨?_, ?_, ?_, ?_, ?_, ?_, ?_, ?_, ?_, ?_, ?_, ?_, by simpa [World.setCell] using h.lt⟩
  · rw [World.cell?_setCell_other _ _ _ _ (by intro e; injection e with _ e _; cases e)]; exact h.c0
  · have := h.f0; simpa [go_sem] using this
  · rw [World.cell?_setCell_other _ _ _ _ (by intro e; injection e with _ e _; cases e)]; exact h.c1
  · have := h.f1; simpa [go_sem] using this
  · rw [World.cell?_setCell_other _ _ _ _ (by intro e; injection e with _ e _; cases e)]; exact h.c2
  · have := h.f2; simpa [go_sem] using this
  · exact World.cell?_setCell_same _ _ _ h.c3
  · have := h.f3; simpa [go_sem] using this
  · rw [World.cell?_setCell_other _ _ _ _ (by intro e; injection e with _ e _; cases e)]; exact h.c4
  · have := h.f4; simpa [go_sem] using this
  · rw [World.cell?_setCell_other _ _ _ _ (by intro e; injection e with _ e _; cases e)]; exact h.c5
  · have := h.f5; simpa [go_sem] using this
theorem Cl6.set4 {w : World} {b : Nat} {v0 v1 v2 v3 v4 v5 : Value} (h : Cl6 w b v0 v1 v2 v3 v4 v5) (x : Value) : Cl6 (w.setCell ⟨b, 4, none⟩ x) b v0 v1 v2 v3 x v5 := by
  refine ⟨?_, ?_, ?_, ?_, ?_, ?_, ?_, ?_, ?_, ?_, ?_, ?_, by simpa [World.setCell] using h.lt⟩
  · rw [World.cell?_setCell_other _ _ _ _ (by intro e; injection e with _ e _; cases e)]; exact h.c0
  · have := h.f0; simpa [go_sem] using this
  · rw [World.cell?_setCell_other _ _ _ _ (by intro e; injection e with _ e _; cases e)]; exact h.c1
  · have := h.f1; simpa [go_sem] using this
  · rw [World.cell?_setCell_other _ _ _ _ (by intro e; injection e with _ e _; cases e)]; exact h.c2
  · have := h.f2; simpa [go_sem] using this
  · rw [World.cell?_setCell_other _ _ _ _ (by intro e; injection e with _ e _; cases e)]; exact h.c3
  · have := h.f3; simpa [go_sem] using this
  · exact World.cell?_setCell_same _ _ _ h.c4
  · have := h.f4; simpa [go_sem] using this
  · rw [World.cell?_setCell_other _ _ _ _ (by intro e; injection e with _ e _; cases e)]; exact h.c5
  · have := h.f5; simpa [go_sem] using this
theorem Cl6.set5 {w : World} {b : Nat} {v0 v1 v2 v3 v4 v5 : Value} (h : Cl6 w b v0 v1 v2 v3 v4 v5) (x : Value) : Cl6 (w.setCell ⟨b, 5, none⟩ x) b v0 v1 v2 v3 v4 x := by
  refine ⟨?_, ?_, ?_, ?_, ?_, ?_, ?_, ?_, ?_, ?_, ?_, ?_, by simpa [World.setCell] using h.lt⟩
  · rw [World.cell?_setCell_other _ _ _ _ (by intro e; injection e with _ e _; cases e)]; exact h.c0
  · have := h.f0; simpa [go_sem] using this
  · rw [World.cell?_setCell_other _ _ _ _ (by intro e; injection e with _ e _; cases e)]; exact h.c1
  · have := h.f1; simpa [go_sem] using this
  · rw [World.cell?_setCell_other _ _ _ _ (by intro e; injection e with _ e _; cases e)]; exact h.c2
  · have := h.f2; simpa [go_sem] using this
  · rw [World.cell?_setCell_other _ _ _ _ (by intro e; injection e with _ e _; cases e)]; exact h.c3
  · have := h.f3; simpa [go_sem] using this
  · rw [World.cell?_setCell_other _ _ _ _ (by intro e; injection e with _ e _; cases e)]; exact h.c4
  · have := h.f4; simpa [go_sem] using this
  · exact World.cell?_setCell_same _ _ _ h.c5
  · have := h.f5; simpa [go_sem] using this
theorem Num.off6 {B b o : Nat} {w : World} {v u : Value} {n : Int} {k : Nat} (h : Num B w v n k) (hb : b < B) : Num B (w.setCell ⟨b, o, none⟩ u) v n k := by
  obtain ⟨zs, ⟨ao, rfl, hl, hr⟩, hc⟩ := h
  refine ⟨zs, ⟨ao, rfl, hl, fun hp => ?_⟩, hc⟩
  obtain ⟨g, rest, h1, h2, h3⟩ := hr hp
  exact ⟨g, rest, h1, h2, (Below.heap_setCell _ _ _ _ (show g ≠ b by omega)).trans h3⟩
theorem Num.shape {B : Nat} {w : World} {v : Value} {n : Int} {k : Nat} (h : Num B w v n k) : ∃ o l, v = .slice o l l := by
  obtain ⟨zs, ⟨ao, rfl, _⟩, _⟩ := h
  exact ⟨ao, zs.length, rfl⟩
theorem max0 {a : Int} : max 0 a = max a 0 := Int.max_comm _ _


set_option maxRecDepth 100000 in
set_option maxHeartbeats 4000000 in
theorem made6 {w : World} {wd F L s S : Int} {fr : Nat} (hN : ∀ (u : World) (z : Int), 0 ≤ z → z < S → Calls Tryz.prog 47 #[.int .i64 wd, .int .u64 z] u fun e w' => e = .returned (.tuple #[.int .u64 (mst F z), .int .i64 (est F L z)]) ∧ Below u.heap.size u w')
    (hfr : F = p2 fr) (hfr2 : fr ≤ 52) (s0 : 0 < s) (s1 : s + 1 < S) (hS : S ≤ 9223372036854775808) (hL : -1074 ≤ L) (hL0 : L ≤ 0) (he : est F L s ≤ 1023 - fr) (he1 : est F L (s + 1) ≤ 1024 - fr) :
    Calls Tryz.prog 17 #[.int .i64 wd, .int .u64 s] w fun r w' => ∃ v p X Lo Hi U, r = .returned v ∧ SlV w' v X Lo Hi U (s % 2 == 0) p ∧ Sl F L s p X Lo Hi U ∧ 0 < U ∧ -483 ≤ p ∧ p ≤ 400 ∧ (TT (gG L) (p - 1) ≤ vV F L s ∧ vV F L s < TT (gG L) p) ∧ Below w.heap.size w w' := by
  have hF : 0 < F := by rw [hfr]; exact p2_pos fr
  have hF2 : F ≤ 4503599627370496 := by rw [hfr]; have := p2_mono hfr2; have e : p2 52 = 4503599627370496 := (by decide); omega
  have e0 := est_ge (F := F) (L := L) (s := s) hF
  have e0' := est_ge (F := F) (L := L) (s := s - 1) hF
  have e0'' := est_ge (F := F) (L := L) (s := s + 1) hF
  have es := est_step (L := L) hF s0
  obtain ⟨m0, m1⟩ := mst_lt (F := F) (s := s) hF (by omega)
  obtain ⟨n0, n1⟩ := mst_lt (F := F) (s := s - 1) hF (by omega)
  obtain ⟨k0, k1⟩ := mst_lt (F := F) (s := s + 1) hF (by omega)
  have mp := mst_pos hF s0
  obtain ⟨l, hl, l2⟩ := some_len 64 (mst F s) m0 (by have e : p2 64 = 18446744073709551616 := (by decide); omega)
  have l1 : 1 ≤ l := by
    rcases Nat.lt_or_ge 0 l with c | c
    · omega
    · obtain rfl : l = 0 := by omega
      have := hl.1
      have e : p2 0 = 1 := rfl
      omega
  have P6 := fun (u : World) (v : Value) (h : Arg u v (mst F s) 2) => point6 (w := u) h (by omega) hfr s0 hL hL0 he hl l1 l2
  have PL := fun p (h : vV F L s < TT (gG L) p) => point_low hF s0 hL h
  have PH := fun p (h : TT (gG L) (p - 1) ≤ vV F L s) => point_high hfr (by omega) hL0 he h
  have MS := fun (p : Int) (tw fv u x1 x0 f0 g0 : Nat) => made_sl (L := L) (p := p) (tw := tw) (fv := fv) (u := u) (x1 := x1) (x0 := x0) (f0 := f0) (g0 := g0) hF s0
  obtain ⟨m, hm⟩ : ∃ m, mst F s = m := ⟨_, rfl⟩
  obtain ⟨e, hee⟩ : ∃ e, est F L s = e := ⟨_, rfl⟩
  obtain ⟨ml, hml⟩ : ∃ m, mst F (s - 1) = m := ⟨_, rfl⟩
  obtain ⟨f, hf⟩ : ∃ e, est F L (s - 1) = e := ⟨_, rfl⟩
  obtain ⟨mu, hmu⟩ : ∃ m, mst F (s + 1) = m := ⟨_, rfl⟩
  obtain ⟨g, hg⟩ : ∃ e, est F L (s + 1) = e := ⟨_, rfl⟩
  have N1 := fun (u : World) => hN u s (by omega) (by omega)
  have N2 := fun (u : World) => hN u (s - 1) (by omega) (by omega)
  have N3 := fun (u : World) => hN u (s + 1) (by omega) (by omega)
  rw [hm, hee] at N1
  rw [hml, hf] at N2
  rw [hmu, hg] at N3
  rw [hm, hee] at P6 MS
  rw [hml, hf, hmu, hg] at MS
  rw [hm] at m0 m1 mp
  rw [hml] at n0 n1
  rw [hmu] at k0 k1
  rw [hee, hf] at es
  rw [hee] at he e0
  rw [hf] at e0'
  rw [hg] at he1 e0'' es
  have HP6 := hide P6
  have HPL := hide PL
  have HPH := hide PH
  have HMS := hide MS
  have H1 := hide N1
  have H2 := hide N2
  have H3 := hide N3
  clear P6 PL PH MS N1 N2 N3 hm hee hml hf hmu hg hl l1 l2 hN hfr hF
  have w1 : IntKind.u64.wrap (s - 1) = s - 1 := by rw [IntKind.wrap_u64]; omega
  have w2 : IntKind.u64.wrap (s + 1) = s + 1 := by rw [IntKind.wrap_u64]; omega
  go_enter Tryz.func17, Tryz.ntmps17
  go_wp2_with fail
  with_reducible refine (H1.out _).mono ?_
  rintro r u1 ⟨rfl, K⟩
  have HD := hide ((cl6_new w (.slice none 0 0) (.slice none 0 0) (.slice none 0 0) (.slice none 0 0) (.bool false) (.int .i64 0) 52).below K)
  have HK := hide (below_trans (bel_new w _) K)
  clear K
  go_wp2_with fail
  with_reducible refine (H2.out _).mono ?_
  rintro r u2 ⟨rfl, K⟩
  replace HK := hide (below_trans HK.out K)
  replace HD := hide (HD.out.below K)
  clear K
  go_wp2_with fail
  with_reducible refine (H3.out _).mono ?_
  rintro r u3 ⟨rfl, K⟩
  replace HK := hide (below_trans HK.out K)
  replace HD := hide (HD.out.below K)
  clear K
  go_wp2_with fail
  with_reducible refine (rfrom_any m (by omega) (by omega)).mono ?_
  rintro r u4 ⟨vx, rfl, hx, K⟩
  have HX := hide hx.arg
  replace HK := hide (below_trans HK.out K)
  replace HD := hide (HD.out.below K)
  clear K hx
  go_wp2_with fail
  with_reducible refine (HP6.out _ _ HX.out).mono ?_
  rintro r u5 ⟨p, rfl, hp, K⟩
  replace HX := hide (HX.out.below K)
  replace HK := hide (below_trans HK.out K)
  replace HD := hide (HD.out.below K)
  clear K

  obtain ⟨hpl, hph⟩ := hp
  have pl := HPL.out p hph
  have ph := HPH.out p hpl
  have HPP := hide (And.intro hpl hph)
  clear hpl hph HPL HPH H1 H2 H3 HP6 w1 w2
  obtain ⟨tw, htw⟩ : ∃ tw : Nat, (tw : Int) = max 0 (1 - f) := ⟨(max 0 (1 - f)).toNat, by omega⟩
  obtain ⟨fv, hfv⟩ : ∃ fv : Nat, (fv : Int) = max 0 (17 - p) := ⟨(max 0 (17 - p)).toNat, by omega⟩
  obtain ⟨x1, hx1⟩ : ∃ x : Nat, (x : Int) = e + tw := ⟨(e + tw).toNat, by omega⟩
  obtain ⟨x0, hx0⟩ : ∃ x : Nat, (x : Int) = e + tw - 1 := ⟨(e + tw - 1).toNat, by omega⟩
  obtain ⟨f1, hf1⟩ : ∃ x : Nat, (x : Int) = f + tw := ⟨(f + tw).toNat, by omega⟩
  obtain ⟨f0, hf0⟩ : ∃ x : Nat, (x : Int) = f + tw - 1 := ⟨(f + tw - 1).toNat, by omega⟩
  obtain ⟨g1, hg1⟩ : ∃ x : Nat, (x : Int) = g + tw := ⟨(g + tw).toNat, by omega⟩
  obtain ⟨g0, hg0⟩ : ∃ x : Nat, (x : Int) = g + tw - 1 := ⟨(g + tw - 1).toNat, by omega⟩
  obtain ⟨u, hu⟩ : ∃ x : Nat, (x : Int) = p - 17 + fv := ⟨(p - 17 + fv).toNat, by omega⟩
  have B0 : tw ≤ 1100 ∧ fv ≤ 600 ∧ x1 ≤ 3000 ∧ x0 ≤ 3000 ∧ f1 ≤ 3000 ∧ f0 ≤ 3000 ∧ g1 ≤ 3000 ∧ g0 ≤ 3000 ∧ u ≤ 900 := by omega
  have a1 : IntKind.i64.wrap (e + (tw : Int)) = (x1 : Int) := by rw [IntKind.wrap_i64]; omega
  have a2 : IntKind.i64.wrap ((x1 : Int) - 1) = (x0 : Int) := by rw [IntKind.wrap_i64]; omega
  have a3 : IntKind.i64.wrap (f + (tw : Int)) = (f1 : Int) := by rw [IntKind.wrap_i64]; omega
  have a4 : IntKind.i64.wrap ((f1 : Int) - 1) = (f0 : Int) := by rw [IntKind.wrap_i64]; omega
  have a5 : IntKind.i64.wrap (g + (tw : Int)) = (g1 : Int) := by rw [IntKind.wrap_i64]; omega
  have a6 : IntKind.i64.wrap ((g1 : Int) - 1) = (g0 : Int) := by rw [IntKind.wrap_i64]; omega
  obtain ⟨y, hy⟩ : ∃ y, p - 17 = y := ⟨_, rfl⟩
  have a7 : IntKind.i64.wrap (p - 17) = y := by rw [IntKind.wrap_i64]; omega
  have a8 : IntKind.i64.wrap (y + (fv : Int)) = (u : Int) := by rw [IntKind.wrap_i64]; omega
  have HSl := hide (HMS.out p tw fv u x1 x0 f0 g0 (by omega) hfv hu hx1 hx0 hf0 hg0 hL0)
  obtain ⟨xf, hxf⟩ : ∃ x, 1 - f = x := ⟨_, rfl⟩
  have a9 : IntKind.i64.wrap (1 - f) = xf := by rw [IntKind.wrap_i64]; omega
  obtain ⟨xp, hxp⟩ : ∃ x, 17 - p = x := ⟨_, rfl⟩
  have a10 : IntKind.i64.wrap (17 - p) = xp := by rw [IntKind.wrap_i64]; omega
  rw [hxf] at htw
  rw [hxp] at hfv
  have HTW := hide htw
  have HFV := hide hfv
  have FE := hide es.1
  have HPB := hide (show -483 ≤ p ∧ p ≤ 400 by omega)
  clear htw hfv hx1 hx0 hf1 hf0 hg1 hg0 hu hy hxf hxp HMS es he he1 e0 e0' e0'' pl ph
  go_upto_region 6 with fail
  have C0 := cl6_new u5 (.slice none 0 0) (.slice none 0 0) (.slice none 0 0) (.slice none 0 0) (.bool (s % 2 == 0)) (.int .i64 p) 52
  have KA := bel_new u5 (.cells #[.slice none 0 0, .slice none 0 0, .slice none 0 0, .slice none 0 0, .bool (s % 2 == 0), .int .i64 p] 52)
  have lt5 := HK.out.size
  obtain ⟨b, hb⟩ : ∃ b, u5.heap.size = b := ⟨_, rfl⟩
  obtain ⟨b0, hb0⟩ : ∃ b, w.heap.size = b := ⟨_, rfl⟩
  obtain ⟨ev, hev⟩ : ∃ v, (s % 2 == 0) = v := ⟨_, rfl⟩
  have HE := hide hev
  obtain ⟨u6, hu6⟩ : ∃ q, u5.alloc (.cells #[.slice none 0 0, .slice none 0 0, .slice none 0 0, .slice none 0 0, .bool (s % 2 == 0), .int .i64 p] 52) = q := ⟨_, rfl⟩
  rw [hu6] at C0 KA ⊢
  rw [hev] at C0 ⊢
  have HB := hide hb
  have HB0 := hide hb0
  rw [hb] at C0 ⊢
  rw [hb0] at HD ⊢
  have HC := hide C0
  have HKA := hide KA
  clear hu6 hev hb hb0 C0 KA lt5
  go_cut [13] from 46 (fun s13 w' => s13 = .int .i64 tw ∧ u6 = w')
  case first =>
    have h := FE.out
    have ht := HTW.out
    rcases Int.lt_or_le f e with c | c
    · have c1 : ¬ e < f := by omega
      have c2 : ¬ e ≤ f := by omega
      have c3 : f ≤ e := by omega
      rcases Int.lt_or_le 0 xf with d | d
      · have d1 : ¬ xf < 0 := by omega
        have d2 : ¬ xf ≤ 0 := by omega
        have d3 : 0 ≤ xf := by omega
        go_wp2_with fail
        go_meet
        case rel => exact ⟨by rw [ht, Int.max_eq_right d3], rfl⟩
      · have d1 : ¬ 0 < xf := by omega
        go_wp2_with fail
        go_meet
        case rel => exact ⟨by rw [ht, Int.max_eq_left d], rfl⟩
    · obtain rfl : e = f := by omega
      rcases Int.lt_or_le 0 xf with d | d
      · have d1 : ¬ xf < 0 := by omega
        have d2 : ¬ xf ≤ 0 := by omega
        have d3 : 0 ≤ xf := by omega
        go_wp2_with fail
        go_meet
        case rel => exact ⟨by rw [ht, Int.max_eq_right d3], rfl⟩
      · have d1 : ¬ 0 < xf := by omega
        go_wp2_with fail
        go_meet
        case rel => exact ⟨by rw [ht, Int.max_eq_left d], rfl⟩
  case rest =>
  obtain ⟨rfl, rfl⟩ := hcut
  clear HTW a9 FE
  go_upto_region 7 with fail
  go_cut [14] from 51 (fun s14 w' => s14 = .int .i64 fv ∧ u6 = w')
  case first =>
    have ht := HFV.out
    have q5 := HC.out.c5
    rcases Int.lt_or_le 0 xp with d | d
    · have d1 : ¬ xp < 0 := by omega
      have d2 : ¬ xp ≤ 0 := by omega
      have d3 : 0 ≤ xp := by omega
      go_wp2_with fail
      go_meet
      case rel => exact ⟨by rw [ht, Int.max_eq_right d3], rfl⟩
    · have d1 : ¬ 0 < xp := by omega
      go_wp2_with fail
      go_meet
      case rel => exact ⟨by rw [ht, Int.max_eq_left d], rfl⟩
  case rest =>
  obtain ⟨rfl, rfl⟩ := hcut
  clear HFV a10

  have HBL := hide (show b < u6.heap.size from HC.out.lt)
  have KB : Hid (Below u5.heap.size u5 u6) := HKA
  have E5' := HB.out
  clear HKA
  go_wp2_with fail
  with_reducible refine (shl6' (N := x1) (HX.out.below KB.out) (by omega) (by omega)).mono ?_
  rintro r u7 ⟨y1, rfl, h1, K⟩
  have HY := hide h1.arg
  clear h1
  replace HC := hide (HC.out.below K)
  replace KB := hide (KB.out.trans (K.mono (KB.out.size)))
  clear K
  go_wp2_with fail
  with_reducible refine (ten6 (N := fv) HY.out (by omega) (by omega)).mono ?_
  rintro r u8 ⟨zx, rfl, h1, K⟩
  have lt1 := HC.out.lt
  obtain ⟨ox, lx, rfl⟩ := h1.shape
  have HZx := hide (h1.low (B' := b + 1) (by omega))
  clear h1 lt1 HY
  replace HC := hide (HC.out.below K)
  replace KB := hide (KB.out.trans (K.mono (KB.out.size)))
  clear K
  have c0 := HC.out.c0
  have g0 := HC.out.f0
  go_upto_region 9 with fail
  clear c0 g0
  replace HC := hide (HC.out.set0 (.slice ox lx lx))
  replace KB := hide (KB.out.setCell (p := ⟨b, 0, none⟩) (by rw [E5']; exact Nat.le_refl _) (.slice ox lx lx))
  replace HZx := hide (HZx.out.off6 (o := 0) (u := .slice ox lx lx) (show b < b + 1 by omega))
  generalize u8.setCell ⟨b, 0, none⟩ (.slice ox lx lx) = u9 at *
  go_wp2_with fail
  with_reducible refine (shl6' (N := x0) (HX.out.below KB.out) (by omega) (by omega)).mono ?_
  rintro r u10 ⟨y1, rfl, h1, K⟩
  have HY := hide h1.arg
  clear h1
  replace HC := hide (HC.out.below K)
  replace KB := hide (KB.out.trans (K.mono (KB.out.size)))
  replace HZx := hide (HZx.out.below K)
  clear K
  go_wp2_with fail
  with_reducible refine (rfrom_any ml (by omega) (by omega)).mono ?_
  rintro r u11 ⟨y2, rfl, h1, K⟩
  have HW := hide h1.arg
  clear h1
  replace HC := hide (HC.out.below K)
  replace KB := hide (KB.out.trans (K.mono (KB.out.size)))
  replace HZx := hide (HZx.out.below K)
  replace HY := hide (HY.out.below K)
  clear K
  go_wp2_with fail
  with_reducible refine (shl6' (N := f0) HW.out (by omega) (by omega)).mono ?_
  rintro r u12 ⟨y3, rfl, h1, K⟩
  have HV := hide h1.arg
  clear h1 HW
  replace HC := hide (HC.out.below K)
  replace KB := hide (KB.out.trans (K.mono (KB.out.size)))
  replace HZx := hide (HZx.out.below K)
  replace HY := hide (HY.out.below K)
  clear K
  go_wp2_with fail
  with_reducible refine (radd_any HY.out HV.out (by omega) (by omega)).mono ?_
  rintro r u13 ⟨lo, rfl, h1, K⟩
  have HLo := hide h1.arg
  clear h1 HV HY
  replace HC := hide (HC.out.below K)
  replace KB := hide (KB.out.trans (K.mono (KB.out.size)))
  replace HZx := hide (HZx.out.below K)
  clear K
  go_wp2_with fail
  with_reducible refine (shl6' (N := x0) (HX.out.below KB.out) (by omega) (by omega)).mono ?_
  rintro r u14 ⟨y1, rfl, h1, K⟩
  have HY := hide h1.arg
  clear h1
  replace HC := hide (HC.out.below K)
  replace KB := hide (KB.out.trans (K.mono (KB.out.size)))
  replace HZx := hide (HZx.out.below K)
  replace HLo := hide (HLo.out.below K)
  clear K
  go_wp2_with fail
  with_reducible refine (rfrom_any mu (by omega) (by omega)).mono ?_
  rintro r u15 ⟨y2, rfl, h1, K⟩
  have HW := hide h1.arg
  clear h1
  replace HC := hide (HC.out.below K)
  replace KB := hide (KB.out.trans (K.mono (KB.out.size)))
  replace HZx := hide (HZx.out.below K)
  replace HY := hide (HY.out.below K)
  replace HLo := hide (HLo.out.below K)
  clear K
  go_wp2_with fail
  with_reducible refine (shl6' (N := g0) HW.out (by omega) (by omega)).mono ?_
  rintro r u16 ⟨y3, rfl, h1, K⟩
  have HV := hide h1.arg
  clear h1 HW
  replace HC := hide (HC.out.below K)
  replace KB := hide (KB.out.trans (K.mono (KB.out.size)))
  replace HZx := hide (HZx.out.below K)
  replace HY := hide (HY.out.below K)
  replace HLo := hide (HLo.out.below K)
  clear K
  go_wp2_with fail
  with_reducible refine (radd_any HY.out HV.out (by omega) (by omega)).mono ?_
  rintro r u17 ⟨hi, rfl, h1, K⟩
  have HHi := hide h1.arg
  clear h1 HV HY
  replace HC := hide (HC.out.below K)
  replace KB := hide (KB.out.trans (K.mono (KB.out.size)))
  replace HZx := hide (HZx.out.below K)
  replace HLo := hide (HLo.out.below K)
  clear K
  go_wp2_with fail
  with_reducible refine (ten6 (N := fv) HLo.out (by omega) (by omega)).mono ?_
  rintro r u18 ⟨zl, rfl, h1, K⟩
  have lt1 := HC.out.lt
  obtain ⟨ol, ll, rfl⟩ := h1.shape
  have HZl := hide (h1.low (B' := b + 1) (by omega))
  clear h1 lt1 HLo
  replace HC := hide (HC.out.below K)
  replace KB := hide (KB.out.trans (K.mono (KB.out.size)))
  replace HZx := hide (HZx.out.below K)
  replace HHi := hide (HHi.out.below K)
  clear K
  go_wp2_with fail
  with_reducible refine (ten6 (N := fv) HHi.out (by omega) (by omega)).mono ?_
  rintro r u19 ⟨zh, rfl, h1, K⟩
  have lt1 := HC.out.lt
  obtain ⟨oh, lh, rfl⟩ := h1.shape
  have HZh := hide (h1.low (B' := b + 1) (by omega))
  clear h1 lt1 HHi
  replace HC := hide (HC.out.below K)
  replace KB := hide (KB.out.trans (K.mono (KB.out.size)))
  replace HZx := hide (HZx.out.below K)
  replace HZl := hide (HZl.out.below K)
  clear K
  have c1 := HC.out.c1
  have g1 := HC.out.f1
  have c2 := HC.out.c2
  have g2 := HC.out.f2
  go_upto_region 12 with fail
  clear c1 g1
  replace HC := hide (HC.out.set1 (.slice ol ll ll))
  replace KB := hide (KB.out.setCell (p := ⟨b, 1, none⟩) (by rw [E5']; exact Nat.le_refl _) (.slice ol ll ll))
  replace HZx := hide (HZx.out.off6 (o := 1) (u := .slice ol ll ll) (show b < b + 1 by omega))
  replace HZl := hide (HZl.out.off6 (o := 1) (u := .slice ol ll ll) (show b < b + 1 by omega))
  replace HZh := hide (HZh.out.off6 (o := 1) (u := .slice ol ll ll) (show b < b + 1 by omega))
  generalize u19.setCell ⟨b, 1, none⟩ (.slice ol ll ll) = u20 at *
  clear c2 g2
  replace HC := hide (HC.out.set2 (.slice oh lh lh))
  replace KB := hide (KB.out.setCell (p := ⟨b, 2, none⟩) (by rw [E5']; exact Nat.le_refl _) (.slice oh lh lh))
  replace HZx := hide (HZx.out.off6 (o := 2) (u := .slice oh lh lh) (show b < b + 1 by omega))
  replace HZl := hide (HZl.out.off6 (o := 2) (u := .slice oh lh lh) (show b < b + 1 by omega))
  replace HZh := hide (HZh.out.off6 (o := 2) (u := .slice oh lh lh) (show b < b + 1 by omega))
  generalize u20.setCell ⟨b, 2, none⟩ (.slice oh lh lh) = u21 at *
  clear HX
  have CC : ∀ q : World, Below u21.heap.size u21 q → (fun u : World => u.cell? ⟨b, 5, none⟩ = some (.int .i64 p) ∧ True) q := fun u hu => ⟨(HC.out.below hu).c5, trivial⟩
  have K : Below u21.heap.size u21 u21.drew := (Below.refl _ _).drew
  have HC0 := CC _ K
  refine wpHl.region0 (C := fun u => u.cell? ⟨b, 5, none⟩ = some (.int .i64 p) ∧ True) (by kernel_rfl) (by kernel_rfl) (fun HS => ?_)
  obtain ⟨r0, hr0⟩ : ∃ u, u21.drew = u := ⟨_, rfl⟩
  rw [hr0] at K HC0 ⊢
  clear hr0
  refine wpHl.tk0 (i := 1) (d := some 100) (v := .int .i64 tw) rfl HS (by as_aux_lemma => kernel_rfl) rfl (fun _ _ _ h => h) (Or.inl ⟨by rfl, ?_⟩) HC0 ?_
  · intro u hC
    go_simp
  simp only [Act.put, List.setIfInBounds_toArray, List.set_cons_zero, List.set_cons_succ]
  refine wpHl.tk0 (i := 3) (d := some 102) (v := .pointer (some ⟨b, 5, none⟩)) rfl HS (by as_aux_lemma => kernel_rfl) rfl (fun _ _ _ h => h) (Or.inl ⟨by rfl, ?_⟩) HC0 ?_
  · intro u hC
    go_simp
  simp only [Act.put, List.setIfInBounds_toArray, List.set_cons_zero, List.set_cons_succ]
  refine wpHl.tk0 (i := 4) (d := some 103) (v := .int .i64 p) rfl HS (by as_aux_lemma => kernel_rfl) rfl (fun _ _ _ h => h) (Or.inl ⟨by rfl, ?_⟩) HC0 ?_
  · intro u hC
    obtain ⟨z0, z1⟩ := hC
    go_simp
  simp only [Act.put, List.setIfInBounds_toArray, List.set_cons_zero, List.set_cons_succ]
  refine wpHl.tk0 (i := 5) (d := some 104) (v := .int .i64 y) rfl HS (by as_aux_lemma => kernel_rfl) rfl (fun _ _ _ h => h) (Or.inl ⟨by rfl, ?_⟩) HC0 ?_
  · intro u hC
    go_simp
  simp only [Act.put, List.setIfInBounds_toArray, List.set_cons_zero, List.set_cons_succ]
  refine wpHl.tk0 (i := 6) (d := some 105) (v := .int .i64 fv) rfl HS (by as_aux_lemma => kernel_rfl) rfl (fun _ _ _ h => h) (Or.inl ⟨by rfl, ?_⟩) HC0 ?_
  · intro u hC
    go_simp
  simp only [Act.put, List.setIfInBounds_toArray, List.set_cons_zero, List.set_cons_succ]
  refine wpHl.tk0 (i := 7) (d := some 106) (v := .int .i64 u) rfl HS (by as_aux_lemma => kernel_rfl) rfl (fun _ _ _ h => h) (Or.inl ⟨by rfl, ?_⟩) HC0 ?_
  · intro u hC
    go_simp
  simp only [Act.put, List.setIfInBounds_toArray, List.set_cons_zero, List.set_cons_succ]
  refine wpHl.one (i := 0) (by as_aux_lemma => kernel_rfl) rfl (fun K1 hK1 => ?_)
  rw [if_pos (by rfl)]
  go_simp
  have hb := bel_new r0 (.cells #[.int .u32 1] 22)
  have H13 := hide (one_row6 r0)
  obtain ⟨r1, hr1⟩ : ∃ q, r0.alloc (.cells #[.int .u32 1] 22) = q := ⟨_, rfl⟩
  obtain ⟨v13, h13⟩ : ∃ q, Value.slice (some ⟨r0.heap.size, 0, none⟩) 1 1 = q := ⟨_, rfl⟩
  rw [hr1, h13] at H13
  rw [hr1] at hb
  try simp only [hr1, h13]
  clear hr1 h13
  replace K := below_trans K hb
  clear HC0
  have HC0 := CC _ K
  refine hK1 _ _ ⟨fun _ => HC0, ?_⟩
  clear hK1 K1 hb
  try simp only [Act.put, List.setIfInBounds_toArray, List.set_cons_zero, List.set_cons_succ]
  refine wpHl.one (i := 2) (by as_aux_lemma => kernel_rfl) rfl (fun K1 hK1 => ?_)
  rw [if_pos (by rfl)]
  refine wp_call_of (f := 51) (args := #[v13, .int .i64 tw]) (by kernel_rfl) ?_
  with_reducible refine (shl6' (N := tw) H13.out (by omega) (by omega)).mono ?_
  rintro r r2 ⟨v101, rfl, h1, hb⟩
  replace K := below_trans K hb
  have H101 := hide h1.arg
  have lt2 := K.size
  clear h1 H13
  clear HC0
  have HC0 := CC _ K
  refine hK1 (Act.put _ (some 101) _) _ ⟨fun _ => HC0, ?_⟩
  clear hK1 K1 hb
  try simp only [Act.put, List.setIfInBounds_toArray, List.set_cons_zero, List.set_cons_succ]
  refine wpHl.one (i := 8) (by as_aux_lemma => kernel_rfl) rfl (fun K1 hK1 => ?_)
  rw [if_pos (by rfl)]
  refine wp_call_of (f := 50) (args := #[v101, .int .i64 u]) (by kernel_rfl) ?_
  with_reducible refine (ten6 (N := u) H101.out (by omega) (by omega)).mono ?_
  rintro r r3 ⟨v107, rfl, h1, hb⟩
  replace K := below_trans K hb
  have lt1 := (HC.out).lt
  obtain ⟨ou, lu, rfl⟩ := h1.shape
  have HZu := hide (h1.low (B' := b + 1) (by omega))
  clear h1 lt1 lt2 H101
  clear HC0
  have HC0 := CC _ K
  refine hK1 (Act.put _ (some 107) _) _ ⟨fun _ => HC0, ?_⟩
  clear hK1 K1 hb
  try simp only [Act.put, List.setIfInBounds_toArray, List.set_cons_zero, List.set_cons_succ]
  refine wpHl.tk0 (i := 9) (d := some 108) (v := .pointer (some ⟨b, 3, none⟩)) rfl HS (by as_aux_lemma => kernel_rfl) rfl (fun _ _ _ h => h) (Or.inl ⟨by rfl, ?_⟩) HC0 ?_
  · intro u hC
    go_simp
  simp only [Act.put, List.setIfInBounds_toArray, List.set_cons_zero, List.set_cons_succ]
  replace HC := hide (HC.out.below K)
  replace KB := hide (KB.out.trans (K.mono (KB.out.size)))
  replace HZx := hide (HZx.out.below K)
  replace HZl := hide (HZl.out.below K)
  replace HZh := hide (HZh.out.below K)
  clear K CC
  have c3 := HC.out.c3
  have g3 := HC.out.f3
  refine wpHl.one (i := 10) (by as_aux_lemma => kernel_rfl) rfl (fun K1 hK1 => ?_)
  rw [if_pos (by rfl)]
  go_simp
  clear c3 g3
  replace HC := hide (HC.out.set3 (.slice ou lu lu))
  replace KB := hide (KB.out.setCell (p := ⟨b, 3, none⟩) (by rw [E5']; exact Nat.le_refl _) (.slice ou lu lu))
  replace HZx := hide (HZx.out.off6 (o := 3) (u := .slice ou lu lu) (show b < b + 1 by omega))
  replace HZl := hide (HZl.out.off6 (o := 3) (u := .slice ou lu lu) (show b < b + 1 by omega))
  replace HZh := hide (HZh.out.off6 (o := 3) (u := .slice ou lu lu) (show b < b + 1 by omega))
  replace HZu := hide (HZu.out.off6 (o := 3) (u := .slice ou lu lu) (show b < b + 1 by omega))
  generalize r3.setCell ⟨b, 3, none⟩ (.slice ou lu lu) = r4 at *
  clear HC0
  refine hK1 _ _ ⟨fun _ => ⟨HC.out.c5, trivial⟩, ?_⟩
  clear hK1 K1
  try simp only [Act.put, List.setIfInBounds_toArray, List.set_cons_zero, List.set_cons_succ]
  refine wpHl.done (by as_aux_lemma => kernel_rfl) ?_ _
  clear HS
  have q0 := HC.out.c0
  have q1 := HC.out.c1
  have q2 := HC.out.c2
  have q3 := HC.out.c3
  have q4 := HC.out.c4
  have q5 := HC.out.c5
  have dd := HD.out.lt
  replace HD := hide (HD.out.below KB.out)
  have BB : b0 < b := by have := HB.out; omega
  have d0 := HD.out.c0
  have d1 := HD.out.c1
  have d2 := HD.out.c2
  have d3 := HD.out.c3
  have d4 := HD.out.c4
  have d5 := HD.out.c5
  have e0 := HD.out.f0
  have e1 := HD.out.f1
  have e2 := HD.out.f2
  have e3 := HD.out.f3
  have e4 := HD.out.f4
  have e5 := HD.out.f5
  go_wp2
  have PD := ((((((HD.out).set0 (.slice ox lx lx)).set1 (.slice ol ll ll)).set2 (.slice oh lh lh)).set3 (.slice ou lu lu)).set4 (.bool ev)).set5 (.int .i64 p)
  have KK : Below w.heap.size w r4 := HK.out.trans (KB.out.mono HK.out.size)
  have BW : w.heap.size ≤ b0 := Nat.le_of_eq HB0.out
  have KF := (((((KK.setCell (p := ⟨b0, 0, none⟩) BW (.slice ox lx lx)).setCell (p := ⟨b0, 1, none⟩) BW (.slice ol ll ll)).setCell (p := ⟨b0, 2, none⟩) BW (.slice oh lh lh)).setCell (p := ⟨b0, 3, none⟩) BW (.slice ou lu lu)).setCell (p := ⟨b0, 4, none⟩) BW (.bool ev)).setCell (p := ⟨b0, 5, none⟩) BW (.int .i64 p)
  have off : ∀ {v : Value} {n : Int} {k : Nat}, Num (b + 1) r4 v n k → k ≤ 20000 → Arg ((((((r4.setCell ⟨b0, 0, none⟩ (.slice ox lx lx)).setCell ⟨b0, 1, none⟩ (.slice ol ll ll)).setCell ⟨b0, 2, none⟩ (.slice oh lh lh)).setCell ⟨b0, 3, none⟩ (.slice ou lu lu)).setCell ⟨b0, 4, none⟩ (.bool ev)).setCell ⟨b0, 5, none⟩ (.int .i64 p)) v n 20000 := fun h hk => ((((((h.off6 (o := 0) (u := .slice ox lx lx) (show b0 < b + 1 by omega)).off6 (o := 1) (u := .slice ol ll ll) (show b0 < b + 1 by omega)).off6 (o := 2) (u := .slice oh lh lh) (show b0 < b + 1 by omega)).off6 (o := 3) (u := .slice ou lu lu) (show b0 < b + 1 by omega)).off6 (o := 4) (u := .bool ev) (show b0 < b + 1 by omega)).off6 (o := 5) (u := .int .i64 p) (show b0 < b + 1 by omega)).arg.wide hk
  have AX := off HZx.out (by omega)
  have AL := off HZl.out (by omega)
  have AH := off HZh.out (by omega)
  have AU := off HZu.out (by omega)
  have UP : 0 < 1 * p2 tw * 10 ^ u := Int.mul_pos (Int.mul_pos (by decide) (p2_pos _)) (ten_pos _)
  have EV := HE.out
  clear off KK HK KB HZx HZl HZh HZu HC HD d0 d1 d2 d3 d4 d5 e0 e1 e2 e3 e4 e5 q0 q1 q2 q3 q4 q5
  generalize (((((r4.setCell ⟨b0, 0, none⟩ (.slice ox lx lx)).setCell ⟨b0, 1, none⟩ (.slice ol ll ll)).setCell ⟨b0, 2, none⟩ (.slice oh lh lh)).setCell ⟨b0, 3, none⟩ (.slice ou lu lu)).setCell ⟨b0, 4, none⟩ (.bool ev)).setCell ⟨b0, 5, none⟩ (.int .i64 p) = r5 at *
  (try simp only [Exit.inBlock, Exit.then])
  rw [EV]
  exact bodyPost_ret (v := .agg #[.slice ox lx lx, .slice ol ll ll, .slice oh lh lh, .slice ou lu lu, .bool ev, .int .i64 p]) (by simp [results, Tryz.results17, go_sem, PD.c0, PD.c1, PD.c2, PD.c3, PD.c4, PD.c5]) rfl ⟨_, p, _, _, _, _, rfl, ⟨ox, lx, lx, ol, ll, ll, oh, lh, lh, ou, lu, lu, rfl, AX, AL, AH, AU⟩, HSl.out, UP, HPB.out.1, HPB.out.2, HPP.out, KF⟩

end Go.Proofs.YtioganiefgmifaaGreatDoor

namespace Go.Proofs.YtioganiefgmifaaGreatDoor
open Go.RowKit
set_option linter.unusedVariables false
set_option linter.unusedSimpArgs false

set_option maxHeartbeats 1000000 in
theorem told6 {w : World} {c : Int} (c0 : 0 ≤ c) (c1 : c < 18446744073709551616) :
    Calls Tryz.prog 22 #[.int .u64 c] w fun e w' => ∃ ds, e = .returned (.string (strOfNums ds)) ∧ Dstr c ds ∧ Below w.heap.size w w' := by
  go_enter Tryz.func22, Tryz.ntmps22
  go_wp2_with fail
  with_reducible refine (rfrom_any c c0 c1).mono ?_
  rintro r w1 ⟨v, rfl, hv, K1⟩
  go_wp2_with fail
  with_reducible refine (rdigits_any hv.arg (by omega)).mono ?_
  rintro r w2 ⟨ds, rfl, hd, K2⟩
  have HK := hide (below_trans K1 K2)
  have HD := hide hd
  clear hv K1 K2 hd
  go_wp2
  go_ret
  exact ⟨ds, rfl, HD.out, HK.out⟩

theorem dgv_dl (k : Nat) : ∀ c : Int, 0 ≤ c → c < 10 ^ k → dgv (dl k c) = c := by
  induction k with
  | zero => intro c h0 h1; have e : (10 : Int) ^ 0 = 1 := rfl; rw [e] at h1; rw [dl]; show (0 : Int) = c; omega
  | succ k ih =>
    intro c h0 h1
    rw [Int.pow_succ] at h1
    rw [dl, dg_snoc, ih (c / 10) (by omega) (by omega)]
    omega
theorem lead_dl (k : Nat) : ∀ c : Int, 0 ≤ c → 10 ^ k ≤ c → c < 10 ^ (k + 1) → Nt.lb (dl (k + 1) c) 0 ≠ 48 := by
  induction k with
  | zero =>
    intro c h0 h1 h2
    have e : (10 : Int) ^ 0 = 1 := rfl
    have e2 : (10 : Int) ^ (0 + 1) = 10 := rfl
    rw [e] at h1
    rw [e2] at h2
    simp [dl, Nt.lb]
    omega
  | succ k ih =>
    intro c h0 h1 h2
    rw [Int.pow_succ] at h1 h2
    have q := ih (c / 10) (by omega) (by omega) (by omega)
    rw [dl]
    have hl := dl_len (k + 1) (c / 10)
    have e : Nt.lb (dl (k + 1) (c / 10) ++ [48 + c % 10]) 0 = Nt.lb (dl (k + 1) (c / 10)) 0 := by
      cases hd : dl (k + 1) (c / 10) with
      | nil => rw [hd] at hl; simp at hl
      | cons a x => simp [Nt.lb]
    rw [e]
    exact q
theorem dstr_dl {k : Nat} {c : Int} (hk : 1 ≤ k) (h1 : 10 ^ (k - 1) ≤ c) (h2 : c < 10 ^ k) : Dstr c (dl k c) := by
  have p := ten_pos (k - 1)
  refine ⟨fun x hx => dl_byte k c x hx, by rw [dl_len]; omega, Or.inl ?_, dgv_dl k c (by omega) h2⟩
  obtain ⟨j, rfl⟩ : ∃ j, k = j + 1 := ⟨k - 1, by omega⟩
  rw [Nat.add_sub_cancel] at h1
  exact lead_dl j c (by have := ten_pos j; omega) h1 h2
theorem told_of {V Lo Hi G p c : Int} {ends : Prop} {k : Nat} (h : Sh V Lo Hi ends G p k c) (hG : 0 < G) (hp : -500 ≤ p - k) {ds : List Int} (hd : Dstr c ds) :
    (c = 10 ^ k ∧ k = 1 ∧ ds.length = 2) ∨ (c ≠ 10 ^ k ∧ ds = dl k c ∧ ds.length = k) := by
  have k1 := h.k1
  rcases h.cases hG hp with ⟨a, b, _, d⟩ | ⟨a, b, d, _, _⟩
  · left
    refine ⟨a, b, ?_⟩
    subst d
    have e : Dstr 10 [49, 48] := by
      refine ⟨fun x hx => by simp at hx; omega, by decide, Or.inl (by simp [Nt.lb]), by simp [dgv, tn]⟩
    rw [hd.unique e]; rfl
  · right
    have e := hd.unique (dstr_dl k1 b d)
    exact ⟨a, e, by rw [e, dl_len]⟩
/-- no more than 18 digits and one -/
theorem Sh.small {V Lo Hi G p c : Int} {ends : Prop} {k : Nat} (h : Sh V Lo Hi ends G p k c) (hG : 0 < G) (hp : -500 ≤ p - k) : 0 ≤ c ∧ c ≤ 10 ^ k := by
  have := ten_pos (k - 1)
  rcases h.cases hG hp with ⟨a, _, _, _⟩ | ⟨_, b, d, _, _⟩
  · have := ten_pos k; omega
  · omega

end Go.Proofs.YtioganiefgmifaaGreatDoor

namespace Go.Proofs.YtioganiefgmifaaGreatDoor
open Go.RowKit
set_option linter.unusedVariables false
set_option linter.unusedSimpArgs false

/-- three cells that may be written -/
structure Cl3 (w : World) (b : Nat) (v0 v1 v2 : Value) : Prop where
  c0 : w.cell? ⟨b, 0, none⟩ = some v0
  f0 : w.frozen? ⟨b, 0, none⟩ = false
  c1 : w.cell? ⟨b, 1, none⟩ = some v1
  f1 : w.frozen? ⟨b, 1, none⟩ = false
  c2 : w.cell? ⟨b, 2, none⟩ = some v2
  f2 : w.frozen? ⟨b, 2, none⟩ = false
  lt : b < w.heap.size
theorem Cl3.below {w w' : World} {b : Nat} {v0 v1 v2 : Value} (h : Cl3 w b v0 v1 v2) (hb : Below w.heap.size w w') : Cl3 w' b v0 v1 v2 :=
  ⟨(hb.cell (p := ⟨b, 0, none⟩) h.lt).trans h.c0, (hb.frozen (p := ⟨b, 0, none⟩) h.lt).trans h.f0, (hb.cell (p := ⟨b, 1, none⟩) h.lt).trans h.c1, (hb.frozen (p := ⟨b, 1, none⟩) h.lt).trans h.f1, (hb.cell (p := ⟨b, 2, none⟩) h.lt).trans h.c2, (hb.frozen (p := ⟨b, 2, none⟩) h.lt).trans h.f2, Nat.lt_of_lt_of_le h.lt hb.size⟩
theorem cl3_new (w : World) (v0 v1 v2 : Value) (t : TypeId) : Cl3 (w.alloc (.cells #[v0, v1, v2] t)) w.heap.size v0 v1 v2 := by
  refine ⟨?_, ?_, ?_, ?_, ?_, ?_, by simp⟩ <;> first | (rw [World.cell?_alloc_at _ _ _ _ rfl]; rfl) | (rw [World.frozen?_alloc_at _ _ _ _ rfl])
theorem Cl3.set0 {w : World} {b : Nat} {v0 v1 v2 : Value} (h : Cl3 w b v0 v1 v2) (x : Value) : Cl3 (w.setCell ⟨b, 0, none⟩ x) b x v1 v2 := by
  refine ⟨?_, ?_, ?_, ?_, ?_, ?_, by simpa [World.setCell] using h.lt⟩
  · exact World.cell?_setCell_same _ _ _ h.c0
  · have := h.f0; simpa [go_sem] using this
  · rw [World.cell?_setCell_other _ _ _ _ (by intro e; injection e with _ e _; cases e)]; exact h.c1
  · have := h.f1; simpa [go_sem] using this
  · rw [World.cell?_setCell_other _ _ _ _ (by intro e; injection e with _ e _; cases e)]; exact h.c2
  · have := h.f2; simpa [go_sem] using this
theorem Cl3.set1 {w : World} {b : Nat} {v0 v1 v2 : Value} (h : Cl3 w b v0 v1 v2) (x : Value) : Cl3 (w.setCell ⟨b, 1, none⟩ x) b v0 x v2 := by
  refine ⟨?_, ?_, ?_, ?_, ?_, ?_, by simpa [World.setCell] using h.lt⟩
  · rw [World.cell?_setCell_other _ _ _ _ (by intro e; injection e with _ e _; cases e)]; exact h.c0
  · have := h.f0; simpa [go_sem] using this
  · exact World.cell?_setCell_same _ _ _ h.c1
  · have := h.f1; simpa [go_sem] using this
  · rw [World.cell?_setCell_other _ _ _ _ (by intro e; injection e with _ e _; cases e)]; exact h.c2
  · have := h.f2; simpa [go_sem] using this
theorem Cl3.set2 {w : World} {b : Nat} {v0 v1 v2 : Value} (h : Cl3 w b v0 v1 v2) (x : Value) : Cl3 (w.setCell ⟨b, 2, none⟩ x) b v0 v1 x := by
  refine ⟨?_, ?_, ?_, ?_, ?_, ?_, by simpa [World.setCell] using h.lt⟩
  · rw [World.cell?_setCell_other _ _ _ _ (by intro e; injection e with _ e _; cases e)]; exact h.c0
  · have := h.f0; simpa [go_sem] using this
  · rw [World.cell?_setCell_other _ _ _ _ (by intro e; injection e with _ e _; cases e)]; exact h.c1
  · have := h.f1; simpa [go_sem] using this
  · exact World.cell?_setCell_same _ _ _ h.c2
  · have := h.f2; simpa [go_sem] using this
theorem Cl3.away {w : World} {b c o : Nat} {v0 v1 v2 x : Value} (h : Cl3 w b v0 v1 v2) (hn : b ≠ c) : Cl3 (w.setCell ⟨c, o, none⟩ x) b v0 v1 v2 := by
  have hh : (w.setCell ⟨c, o, none⟩ x).heap[b]? = w.heap[b]? := Below.heap_setCell _ _ _ _ (by show b ≠ c; exact hn)
  have hc : ∀ i, (w.setCell ⟨c, o, none⟩ x).cell? ⟨b, i, none⟩ = w.cell? ⟨b, i, none⟩ := fun i => World.cell?_of_block hh
  refine ⟨(hc 0).trans h.c0, ?_, (hc 1).trans h.c1, ?_, (hc 2).trans h.c2, ?_, by simpa [World.setCell] using h.lt⟩
  · have := h.f0; simpa [go_sem] using this
  · have := h.f1; simpa [go_sem] using this
  · have := h.f2; simpa [go_sem] using this
theorem Cell6.away {w : World} {b c o : Nat} {v0 v1 v2 v3 v4 v5 x : Value} (h : Cell6 w b v0 v1 v2 v3 v4 v5) (hn : b ≠ c) : Cell6 (w.setCell ⟨c, o, none⟩ x) b v0 v1 v2 v3 v4 v5 := by
  have hh : (w.setCell ⟨c, o, none⟩ x).heap[b]? = w.heap[b]? := Below.heap_setCell _ _ _ _ (by show b ≠ c; exact hn)
  have hc : ∀ i, (w.setCell ⟨c, o, none⟩ x).cell? ⟨b, i, none⟩ = w.cell? ⟨b, i, none⟩ := fun i => World.cell?_of_block hh
  exact ⟨(hc 0).trans h.c0, (hc 1).trans h.c1, (hc 2).trans h.c2, (hc 3).trans h.c3, (hc 4).trans h.c4, (hc 5).trans h.c5, by simpa [World.setCell] using h.lt⟩

/-- what the reference answers -/
def R6 (F L I s : Int) (ng : Bool) (w : World) (e : Ending) (w' : World) : Prop := ∃ v ok, e = .returned (.tuple #[v, .bool ok]) ∧ Dg F L I s ng v ok ∧ Below w.heap.size w w'
theorem r6_mk {F L I s : Int} {ng : Bool} {w w' : World} {v : Value} {ok : Bool} (h : Dg F L I s ng v ok) (K : Below w.heap.size w w') : R6 F L I s ng w (.returned (.tuple #[v, .bool ok])) w' := ⟨v, ok, rfl, h, K⟩

/-- the end: the digits that are told -/
theorem dg_end {F L I s p c : Int} {ng : Bool} {k : Nat} (sp : 0 < s) (sI : s < I) (hpp : TT (gG L) (p - 1) ≤ vV F L s ∧ vV F L s < TT (gG L) p) (k1 : 1 ≤ k) (k2 : k ≤ 17) (ho : ∀ j : Nat, 1 ≤ j → j < k → Out (vV F L s) (vLo F L s) (vHi F L s) (s % 2 = 0) (TT (gG L) (p - j))) (pk : Pick (vV F L s) (vLo F L s) (vHi F L s) (s % 2 = 0) (TT (gG L) (p - k)) c) (hp : -483 ≤ p) {ds : List Int} (hd : Dstr c ds) :
    (ds.length = 2 ∧ k = 1 ∧ Dg F L I s ng (.agg #[.bool ng, .string ⟨#[49]⟩, .int .i64 (p + 1)]) true) ∨ (ds.length = k ∧ Dg F L I s ng (.agg #[.bool ng, .string (strOfNums ds), .int .i64 p]) true) := by
  have sh : Sh (vV F L s) (vLo F L s) (vHi F L s) (s % 2 = 0) (gG L) p k c := ⟨hpp.1, hpp.2, k1, ho, pk⟩
  rcases told_of sh (gG_pos L) (by omega) hd with ⟨a, b, c'⟩ | ⟨a, b, c'⟩
  · exact Or.inl ⟨c', b, fun h => by omega, fun h => by omega, fun _ _ => ⟨rfl, p, k, c, sh, k2, by rw [txt, if_pos a, pt, if_pos a]; rfl⟩⟩
  · exact Or.inr ⟨c', fun h => by omega, fun h => by omega, fun _ _ => ⟨rfl, p, k, c, sh, k2, by rw [txt, if_neg a, pt, if_neg a, b]⟩⟩


set_option maxRecDepth 100000 in
set_option maxHeartbeats 8000000 in
theorem rdigits6 {w : World} {wd F L I S x s : Int} {ng : Bool} {fr : Nat}
    (hSz : ∀ u : World, Calls Tryz.prog 14 #[.int .i64 wd, .int .u64 x] u fun e w' => e = .returned (.int .u64 s) ∧ w' = u)
    (hNg : ∀ u : World, Calls Tryz.prog 15 #[.int .i64 wd, .int .u64 x] u fun e w' => e = .returned (.bool ng) ∧ w' = u)
    (hIn : ∀ u : World, Calls Tryz.prog 16 #[.int .i64 wd] u fun e w' => e = .returned (.int .u64 I) ∧ Below u.heap.size u w')
    (hN : ∀ (u : World) (z : Int), 0 ≤ z → z < S → Calls Tryz.prog 47 #[.int .i64 wd, .int .u64 z] u fun e w' => e = .returned (.tuple #[.int .u64 (mst F z), .int .i64 (est F L z)]) ∧ Below u.heap.size u w')
    (hfr : F = p2 fr) (hfr2 : fr ≤ 52) (s0 : 0 ≤ s) (hI0 : 0 < I) (hIS : I < S) (hS : S ≤ 9223372036854775808) (hL : -1074 ≤ L) (hL0 : L ≤ 0) (he : ∀ z, 0 < z → z < I → est F L z ≤ 1023 - fr) (he1 : ∀ z, 0 < z → z < I → est F L (z + 1) ≤ 1024 - fr) :
    Calls Tryz.prog 6 #[.int .i64 wd, .int .u64 x] w fun e w' => R6 F L I s ng w e w' := by
  have hF : 0 < F := by rw [hfr]; exact p2_pos fr
  have hF2 : F ≤ 4503599627370496 := by rw [hfr]; have := p2_mono hfr2; have e : p2 52 = 4503599627370496 := (by decide); omega
  have HM := hide (fun (u : World) (h : 0 < s) (h2 : s < I) => made6 (w := u) hN hfr hfr2 h (by omega) hS hL hL0 (he s h h2) (he1 s h h2))
  have HMO := hide (fun (p : Int) (h : 0 < s) (h1 : -483 ≤ p) (h2 : TT (gG L) (p - 1) ≤ vV F L s) => v_most (M := 16) (ends := (s % 2 = 0)) hF h (by have e : (10 : Int) ^ 16 = 10000000000000000 := (by decide); omega) (show -500 ≤ p - 1 - (16 : Nat) by omega) h2)
  clear he he1 hfr hN
  go_enter Tryz.func6, Tryz.ntmps6
  go_wp2_with fail
  with_reducible refine (hSz _).mono ?_
  rintro r u1 ⟨rfl, rfl⟩
  go_wp2_with fail
  with_reducible refine (hNg _).mono ?_
  rintro r u2 ⟨rfl, rfl⟩
  go_wp2_with fail
  with_reducible refine (hIn _).mono ?_
  rintro r u3 ⟨rfl, K⟩
  have HK := hide (below_trans (below_trans (bel_new w _) (bel_new _ _)) K)
  have D0 := (((cl3_new w (.bool false) (.string ⟨#[]⟩) (.int .i64 0) 24).below (bel_new _ (.cells #[.bool ng, .string ⟨#[]⟩, .int .i64 0] 24))).below K)
  have D1 := ((cl3_new (w.alloc (.cells #[.bool false, .string ⟨#[]⟩, .int .i64 0] 24)) (.bool ng) (.string ⟨#[]⟩) (.int .i64 0) 24).below K)
  have hb1 : (w.alloc (.cells #[.bool false, .string ⟨#[]⟩, .int .i64 0] 24)).heap.size = w.heap.size + 1 := by simp
  rw [hb1] at D1
  obtain ⟨b0, hb0⟩ : ∃ b, w.heap.size = b := ⟨_, rfl⟩
  have HB0 := hide hb0
  rw [hb0] at D0 D1
  have H0 := hide D0
  have H1 := hide D1
  clear D0 D1 hb1 K hSz hNg hIn
  simp only [hb0]
  clear hb0
  by_cases hI : I ≤ s

  ·
    have d0 := H0.out.c0
    have d1 := H0.out.c1
    have d2 := H0.out.c2
    have e0 := H0.out.f0
    have e1 := H0.out.f1
    have e2 := H0.out.f2
    go_wp2
    have PD := ((H0.out.set0 (.bool false)).set1 (.string ⟨#[]⟩)).set2 (.int .i64 0)
    have BW : w.heap.size ≤ b0 := Nat.le_of_eq HB0.out
    have KF := ((HK.out.setCell (p := ⟨b0, 0, none⟩) BW (.bool false)).setCell (p := ⟨b0, 1, none⟩) BW (.string ⟨#[]⟩)).setCell (p := ⟨b0, 2, none⟩) BW (.int .i64 0)
    clear H0 H1 HK d0 d1 d2 e0 e1 e2
    generalize ((u3.setCell ⟨b0, 0, none⟩ (.bool false)).setCell ⟨b0, 1, none⟩ (.string ⟨#[]⟩)).setCell ⟨b0, 2, none⟩ (.int .i64 0) = wz at *
    (try simp only [Exit.inBlock, Exit.then])
    exact bodyPost_ret (v := .tuple #[.agg #[.bool false, .string ⟨#[]⟩, .int .i64 0], .bool false]) (by simp [results, Tryz.results6, go_sem, PD.c0, PD.c1, PD.c2]) rfl (r6_mk ⟨fun _ => ⟨rfl, rfl⟩, fun h => by omega, fun _ h => by omega⟩ KF)
  by_cases hs : s = 0
  ·
    have q0 := H1.out.c0
    have q1 := H1.out.c1
    have q2 := H1.out.c2
    have d0 := H0.out.c0
    have d1 := H0.out.c1
    have d2 := H0.out.c2
    have e0 := H0.out.f0
    have e1 := H0.out.f1
    have e2 := H0.out.f2
    go_wp2
    have PD := ((H0.out.set0 (.bool ng)).set1 (.string ⟨#[]⟩)).set2 (.int .i64 0)
    have BW : w.heap.size ≤ b0 := Nat.le_of_eq HB0.out
    have KF := ((HK.out.setCell (p := ⟨b0, 0, none⟩) BW (.bool ng)).setCell (p := ⟨b0, 1, none⟩) BW (.string ⟨#[]⟩)).setCell (p := ⟨b0, 2, none⟩) BW (.int .i64 0)
    clear H0 H1 HK d0 d1 d2 e0 e1 e2 q0 q1 q2
    generalize ((u3.setCell ⟨b0, 0, none⟩ (.bool ng)).setCell ⟨b0, 1, none⟩ (.string ⟨#[]⟩)).setCell ⟨b0, 2, none⟩ (.int .i64 0) = wz at *
    (try simp only [Exit.inBlock, Exit.then])
    exact bodyPost_ret (v := .tuple #[.agg #[.bool ng, .string ⟨#[]⟩, .int .i64 0], .bool true]) (by simp [results, Tryz.results6, go_sem, PD.c0, PD.c1, PD.c2]) rfl (r6_mk ⟨fun h => by omega, fun _ => ⟨rfl, rfl⟩, fun h => by omega⟩ KF)
  have sp : 0 < s := by omega
  have sI : s < I := by omega
  go_wp2_with fail
  with_reducible refine (HM.out _ sp sI).mono ?_
  rintro r u4 ⟨v, p, X, Lo, Hi, U, rfl, hv, hsl, hU, p0, p1, hpp, K⟩
  obtain ⟨ox, lx, cx, ol, ll, cl, oh, lh, ch, ou, lu, cu, rfl, aX, aL, aH, aU⟩ := hv
  obtain ⟨ev, hev⟩ : ∃ e, (s % 2 == 0) = e := ⟨_, rfl⟩
  have HEV := hide hev
  rw [hev]
  clear hev
  have KA := bel_new u4 (.cells #[.slice ox lx cx, .slice ol ll cl, .slice oh lh ch, .slice ou lu cu, .bool ev, .int .i64 p] 52)
  have C6 := hide (cell6_new u4 (.slice ox lx cx) (.slice ol ll cl) (.slice oh lh ch) (.slice ou lu cu) (.bool ev) (.int .i64 p) 52)
  have K2 := below_trans K KA
  have SV := hide (show SlV _ (.agg #[.slice ox lx cx, .slice ol ll cl, .slice oh lh ch, .slice ou lu cu, .bool ev, .int .i64 p]) X Lo Hi U ev p from ⟨ox, lx, cx, ol, ll, cl, oh, lh, ch, ou, lu, cu, rfl, aX.below KA, aL.below KA, aH.below KA, aU.below KA⟩)
  have lt1 := H1.out.lt
  have lt2 := K.size
  replace H0 := hide (H0.out.below K2)
  replace H1 := hide (H1.out.below K2)
  replace HK := hide (below_trans HK.out K2)
  have HSl := hide hsl
  have HPP := hide hpp
  clear aX aL aH aU K K2 KA hsl hpp HM

  obtain ⟨b, hb⟩ : ∃ b, u4.heap.size = b := ⟨_, rfl⟩
  have HBB := hide (show b0 + 1 < b by omega)
  go_upto_region 8 with fail
  obtain ⟨u5, hu5⟩ : ∃ q, u4.alloc (.cells #[.slice ox lx cx, .slice ol ll cl, .slice oh lh ch, .slice ou lu cu, .bool ev, .int .i64 p] 52) = q := ⟨_, rfl⟩
  rw [hu5] at C6 SV H0 H1 HK ⊢
  rw [hb] at C6
  clear hu5 hb lt1 lt2
  obtain ⟨ox', lx', cx', ol', ll', cl', oh', lh', ch', ou', lu', cu', hv', bX, bL, bH, bU⟩ := SV.out
  cases hv'
  have BX := hide bX
  have BU := hide bU
  clear bX bL bH bU
  have q0 := C6.out.c0
  have q3 := C6.out.c3
  go_wp2_with fail
  with_reducible refine (rdiv_any BX.out BU.out (by omega) (by omega) (by omega)).mono ?_
  rintro r u6 ⟨vq, vr, rfl, hq, hr, K⟩
  rw [HSl.out.div hU] at hq
  have HQ := hide hq.arg
  replace C6 := hide (C6.out.below K)
  replace SV := hide (SV.out.below K)
  replace H0 := hide (H0.out.below K)
  replace H1 := hide (H1.out.below K)
  replace HK := hide (below_trans HK.out K)
  clear hq hr K q0 q3 BX BU
  obtain ⟨al, hal⟩ : ∃ a, vV F L s / TT (gG L) (p - 17) = a := ⟨_, rfl⟩
  rw [hal] at HQ
  have al01 : 0 ≤ al ∧ al < 100000000000000000 := by
    have t0 := TT_pos (gG_pos L) (p - 17)
    have v0 : 0 ≤ vV F L s := by
      have := (v_half (L := L) hF sp).1
      have := vLo_lt (L := L) hF sp
      omega
    have e : TT (gG L) p = 10 ^ 17 * TT (gG L) (p - 17) := by rw [← TT_add (by omega)]; congr 1; omega
    have hh := HPP.out.2
    rw [e] at hh
    have d := (Int.ediv_lt_iff_lt_mul t0).2 hh
    have e17 : (10 : Int) ^ 17 = 100000000000000000 := by decide
    rw [← hal]
    exact ⟨Int.ediv_nonneg v0 (Int.le_of_lt t0), by omega⟩
  have HAL := hide hal
  clear hal
  go_wp2_with fail
  with_reducible refine (ruint_yes HQ.out (by omega) (by omega)).mono ?_
  rintro r u7 ⟨rfl, K⟩
  replace C6 := hide (C6.out.below K)
  replace SV := hide (SV.out.below K)
  replace H0 := hide (H0.out.below K)
  replace H1 := hide (H1.out.below K)
  replace HK := hide (below_trans HK.out K)
  clear K HQ
  go_wp2_with fail
  go_loopg [14, 15] 17 (fun c s14 s15 wr => ∃ (k : Nat), 1 ≤ k ∧ k ≤ 17 ∧ c = 18 - k ∧ s14 = .int .u64 (10 ^ (18 - k)) ∧ s15 = .int .i64 k ∧ Hid (∀ j : Nat, 1 ≤ j → j < k → Out (vV F L s) (vLo F L s) (vHi F L s) (s % 2 = 0) (TT (gG L) (p - j))) ∧ Below u7.heap.size u7 wr)
  case atStart => exact ⟨1, by omega, by omega, rfl, by simp, rfl, hide (fun j h1 h2 => by omega), Below.refl _ _⟩
  case round =>

    obtain ⟨k, k1, k2, hc, rfl, rfl, HO, hbw⟩ := hrel
    obtain ⟨pw, hpw⟩ : ∃ q, (10 : Int) ^ (17 - k) = q := ⟨_, rfl⟩
    have hP : (10 : Int) ^ (18 - k) = 10 * pw := by rw [← hpw, show 18 - k = (17 - k) + 1 by omega, Int.pow_succ]; omega
    have pw0 : 1 ≤ pw := by have := ten_pos (17 - k); omega
    have pw1 : pw ≤ 10000000000000000 := by
      have e : (10 : Int) ^ (17 - k) * 10 ^ (k - 1) = 10000000000000000 := by rw [← Int.pow_add, show 17 - k + (k - 1) = 16 by omega]; decide
      rw [hpw] at e
      have := Int.mul_le_mul_of_nonneg_left (show 1 ≤ (10 : Int) ^ (k - 1) by have := ten_pos (k - 1); omega) (show 0 ≤ pw by omega)
      omega
    obtain ⟨cc, hcc⟩ : ∃ q, al / pw = q := ⟨_, rfl⟩
    have cV : cc = vV F L s / TT (gG L) (p - k) := by
      rw [← hcc, ← HAL.out, ← hpw]; exact tt_cut p0 k2
    have cc0 : 0 ≤ cc ∧ cc ≤ al := by rw [← hcc]; exact ⟨Int.ediv_nonneg al01.1 (by omega), Int.ediv_le_self _ al01.1⟩
    have x1 : (10 * pw).tdiv 10 = pw := by rw [Int.tdiv_eq_ediv_of_nonneg (by omega)]; omega
    have x2 : al.tdiv pw = cc := by rw [Int.tdiv_eq_ediv_of_nonneg al01.1]; exact hcc
    have hcc1 : cc < 100000000000000000 := by omega
    have x3 : IntKind.u64.wrap (cc + 1) = cc + 1 := by rw [IntKind.wrap_u64]; omega
    have x4 : IntKind.u64.wrap pw = pw := by rw [IntKind.wrap_u64]; omega
    have x5 : IntKind.u64.wrap cc = cc := by rw [IntKind.wrap_u64]; omega
    have k2i : (k : Int) ≤ 17 := by omega
    have hev' : ev = true ↔ s % 2 = 0 := by rw [← HEV.out]; simp
    have L1 := HSl.out.low (c := cc) p0 k2
    have L2 := HSl.out.high (c := cc) p0 k2
    have L3 := HSl.out.low (c := cc + 1) p0 k2
    have L4 := HSl.out.high (c := cc + 1) p0 k2
    have L5 := HSl.out.mid (c := cc) p0 k2
    rw [hpw] at L1 L2 L3 L4 L5
    obtain ⟨low, hlow⟩ : ∃ q, rdB (sgn (vLo F L s) (cc * TT (gG L) (p - k))) (sgn (cc * TT (gG L) (p - k)) (vHi F L s)) ev = q := ⟨_, rfl⟩
    obtain ⟨high, hhigh⟩ : ∃ q, rdB (sgn (vLo F L s) ((cc + 1) * TT (gG L) (p - k))) (sgn ((cc + 1) * TT (gG L) (p - k)) (vHi F L s)) ev = q := ⟨_, rfl⟩
    obtain ⟨n, hn⟩ : ∃ q, sgn (2 * vV F L s) ((2 * cc + 1) * TT (gG L) (p - k)) = q := ⟨_, rfl⟩
    have il : low = true ↔ Inn (vLo F L s) (vHi F L s) (s % 2 = 0) (cc * TT (gG L) (p - k)) := by rw [← hlow]; exact inn_iff hev'
    have ih : high = true ↔ Inn (vLo F L s) (vHi F L s) (s % 2 = 0) ((cc + 1) * TT (gG L) (p - k)) := by rw [← hhigh]; exact inn_iff hev'
    have PK := hide (pick_of cV il ih hn.symm)
    clear il ih
    have OK := hide (fun (a : k = 17) (h : Out (vV F L s) (vLo F L s) (vHi F L s) (s % 2 = 0) (TT (gG L) (p - k))) => HMO.out p sp p0 HPP.out.1 (by rw [a] at h; exact h))
    have HL1 := hide L1
    have HL2 := hide L2
    have HL3 := hide L3
    have HL4 := hide L4
    have HL5 := hide L5
    have HLO := hide hlow
    have HHI := hide hhigh
    have HNN := hide hn
    replace C6 := hide (C6.out.below hbw)
    replace SV := hide (SV.out.below hbw)
    replace H0 := hide (H0.out.below hbw)
    replace H1 := hide (H1.out.below hbw)
    replace HK := hide (below_trans HK.out hbw)
    have KU := hide hbw
    have HCC := hide hcc
    have HPW := hide hpw
    simp only [hP]
    clear hbw L1 L2 L3 L4 L5 hlow hhigh hn cV hev' hP hcc hpw
    have q0 := C6.out.c0
    have q1 := C6.out.c1
    have q2 := C6.out.c2
    have q3 := C6.out.c3
    have q4 := C6.out.c4
    have q5 := C6.out.c5
    have kk1 : (k : Int) ≤ 17 := by omega
    go_upto_region 16 with fail
    clear q0 q1 q2 q3 q4 q5
    have CC : ∀ u : World, Below wr.heap.size wr u → u.cell? ⟨b, 0, none⟩ = some (.slice ox lx cx) ∧ u.cell? ⟨b, 1, none⟩ = some (.slice ol ll cl) ∧ u.cell? ⟨b, 2, none⟩ = some (.slice oh lh ch) ∧ u.cell? ⟨b, 3, none⟩ = some (.slice ou lu cu) ∧ u.cell? ⟨b, 4, none⟩ = some (.bool ev) ∧ u.cell? ⟨b, 5, none⟩ = some (.int .i64 p) := fun u hu => ⟨(C6.out.below hu).c0, (C6.out.below hu).c1, (C6.out.below hu).c2, (C6.out.below hu).c3, (C6.out.below hu).c4, (C6.out.below hu).c5⟩
    have K : Below wr.heap.size wr wr.drew := (Below.refl _ _).drew
    have HC0 := CC _ K
    refine wpHl.region0 (C := fun u => u.cell? ⟨b, 0, none⟩ = some (.slice ox lx cx) ∧ u.cell? ⟨b, 1, none⟩ = some (.slice ol ll cl) ∧ u.cell? ⟨b, 2, none⟩ = some (.slice oh lh ch) ∧ u.cell? ⟨b, 3, none⟩ = some (.slice ou lu cu) ∧ u.cell? ⟨b, 4, none⟩ = some (.bool ev) ∧ u.cell? ⟨b, 5, none⟩ = some (.int .i64 p)) (by kernel_rfl) (by kernel_rfl) (fun HS => ?_)
    refine wpHl.tk0 (i := 0) (d := some 61) (v := .agg #[.slice ox lx cx, .slice ol ll cl, .slice oh lh ch, .slice ou lu cu, .bool ev, .int .i64 p]) rfl HS (by as_aux_lemma => kernel_rfl) rfl (fun _ _ _ h => h) (Or.inl ⟨by rfl, ?_⟩) HC0 ?_
    · intro u hC
      obtain ⟨z0, z1, z2, z3, z4, z5⟩ := hC
      go_simp
    simp only [Act.put, List.setIfInBounds_toArray, List.set_cons_zero, List.set_cons_succ]
    refine wpHl.tk0 (i := 1) (d := some 62) (v := .int .u64 cc) rfl HS (by as_aux_lemma => kernel_rfl) rfl (fun _ _ _ h => h) (Or.inl ⟨by rfl, ?_⟩) HC0 ?_
    · intro u hC
      go_simp
    simp only [Act.put, List.setIfInBounds_toArray, List.set_cons_zero, List.set_cons_succ]
    refine wpHl.tk0 (i := 2) (d := some 63) (v := .int .u64 pw) rfl HS (by as_aux_lemma => kernel_rfl) rfl (fun _ _ _ h => h) (Or.inl ⟨by rfl, ?_⟩) HC0 ?_
    · intro u hC
      go_simp
    simp only [Act.put, List.setIfInBounds_toArray, List.set_cons_zero, List.set_cons_succ]
    refine wpHl.tk0 (i := 4) (d := some 65) (v := .agg #[.slice ox lx cx, .slice ol ll cl, .slice oh lh ch, .slice ou lu cu, .bool ev, .int .i64 p]) rfl HS (by as_aux_lemma => kernel_rfl) rfl (fun _ _ _ h => h) (Or.inl ⟨by rfl, ?_⟩) HC0 ?_
    · intro u hC
      obtain ⟨z0, z1, z2, z3, z4, z5⟩ := hC
      go_simp
    simp only [Act.put, List.setIfInBounds_toArray, List.set_cons_zero, List.set_cons_succ]
    refine wpHl.tk0 (i := 5) (d := some 66) (v := .int .u64 cc) rfl HS (by as_aux_lemma => kernel_rfl) rfl (fun _ _ _ h => h) (Or.inl ⟨by rfl, ?_⟩) HC0 ?_
    · intro u hC
      go_simp
    simp only [Act.put, List.setIfInBounds_toArray, List.set_cons_zero, List.set_cons_succ]
    refine wpHl.tk0 (i := 6) (d := some 67) (v := .int .u64 (cc + 1)) rfl HS (by as_aux_lemma => kernel_rfl) rfl (fun _ _ _ h => h) (Or.inl ⟨by rfl, ?_⟩) HC0 ?_
    · intro u hC
      go_simp
    simp only [Act.put, List.setIfInBounds_toArray, List.set_cons_zero, List.set_cons_succ]
    refine wpHl.tk0 (i := 7) (d := some 68) (v := .int .u64 pw) rfl HS (by as_aux_lemma => kernel_rfl) rfl (fun _ _ _ h => h) (Or.inl ⟨by rfl, ?_⟩) HC0 ?_
    · intro u hC
      go_simp
    simp only [Act.put, List.setIfInBounds_toArray, List.set_cons_zero, List.set_cons_succ]
    refine wpHl.one (i := 3) (by as_aux_lemma => kernel_rfl) rfl (fun K1 hK1 => ?_)
    rw [if_pos (by rfl)]
    refine wp_call_of (f := 20) (args := #[.agg #[.slice ox lx cx, .slice ol ll cl, .slice oh lh ch, .slice ou lu cu, .bool ev, .int .i64 p], .int .u64 cc, .int .u64 pw]) (by kernel_rfl) ?_
    with_reducible refine (reads6 (SV.out.below K) (by omega) (by omega) (by omega) (by omega) HL1.out HL2.out).mono ?_
    rintro e w2 ⟨rfl, hb⟩
    replace K := below_trans K hb
    rw [HLO.out]
    clear HC0
    have HC0 := CC _ K
    refine hK1 (Act.put _ (some 64) _) _ ⟨fun _ => HC0, ?_⟩
    clear hK1 K1 hb
    try simp only [Act.put, List.setIfInBounds_toArray, List.set_cons_zero, List.set_cons_succ]
    refine wpHl.one (i := 8) (by as_aux_lemma => kernel_rfl) rfl (fun K1 hK1 => ?_)
    rw [if_pos (by rfl)]
    refine wp_call_of (f := 20) (args := #[.agg #[.slice ox lx cx, .slice ol ll cl, .slice oh lh ch, .slice ou lu cu, .bool ev, .int .i64 p], .int .u64 (cc + 1), .int .u64 pw]) (by kernel_rfl) ?_
    with_reducible refine (reads6 (SV.out.below K) (by omega) (by omega) (by omega) (by omega) HL3.out HL4.out).mono ?_
    rintro e w2 ⟨rfl, hb⟩
    replace K := below_trans K hb
    rw [HHI.out]
    clear HC0
    have HC0 := CC _ K
    refine hK1 (Act.put _ (some 69) _) _ ⟨fun _ => HC0, ?_⟩
    clear hK1 K1 hb
    try simp only [Act.put, List.setIfInBounds_toArray, List.set_cons_zero, List.set_cons_succ]
    refine wpHl.tk0 (i := 9) (d := some 17) (v := .bool low) rfl HS (by as_aux_lemma => kernel_rfl) rfl (fun _ _ _ h => h) (Or.inl ⟨by rfl, ?_⟩) HC0 ?_
    · intro u hC
      go_simp
    simp only [Act.put, List.setIfInBounds_toArray, List.set_cons_zero, List.set_cons_succ]
    refine wpHl.tk0 (i := 10) (d := some 18) (v := .bool high) rfl HS (by as_aux_lemma => kernel_rfl) rfl (fun _ _ _ h => h) (Or.inl ⟨by rfl, ?_⟩) HC0 ?_
    · intro u hC
      go_simp
    simp only [Act.put, List.setIfInBounds_toArray, List.set_cons_zero, List.set_cons_succ]
    refine wpHl.done (by as_aux_lemma => kernel_rfl) ?_ _
    clear CC HC0 HS
    replace C6 := hide (C6.out.below K)
    replace SV := hide (SV.out.below K)
    replace H0 := hide (H0.out.below K)
    replace H1 := hide (H1.out.below K)
    replace HK := hide (below_trans HK.out K)
    replace KU := hide (below_trans KU.out K)
    clear K
    clear HL1 HL2 HL3 HL4 HLO HHI
    obtain ⟨PO, PP⟩ := PK.out
    by_cases hq : low = false ∧ high = false
    · have O := PO hq
      have k3 : k ≤ 16 := by
        rcases Nat.lt_or_ge k 17 with g | g
        · omega
        · exact absurd O (OK.out (by omega))
      have y1 : IntKind.i64.wrap ((k : Int) + 1) = ((k + 1 : Nat) : Int) := by rw [IntKind.wrap_i64]; omega
      have HO2 := hide (show ∀ j : Nat, 1 ≤ j → j < k + 1 → Out (vV F L s) (vLo F L s) (vHi F L s) (s % 2 = 0) (TT (gG L) (p - j)) from fun j a b => by
        rcases Nat.lt_or_ge j k with g | g
        · exact HO.out j a g
        · rw [show j = k by omega]; exact O)
      have HPWX := hide (show pw = (10 : Int) ^ (18 - (k + 1)) by rw [← HPW.out]; congr 1; omega)
      obtain ⟨rfl, rfl⟩ := hq
      clear O PO PP PK OK
      go_wp2_with fail
      go_roundg (18 - (k + 1))
      case measure => omega
      case rel => exact ⟨k + 1, by omega, by omega, rfl, by rw [← HPWX.out], rfl, HO2, KU.out⟩
    have hq2 : low = true ∨ high = true := by cases low <;> cases high <;> simp at hq ⊢
    have PPk := PP hq2
    obtain ⟨c2, hc2⟩ : ∃ q, (if low = false ∨ (high = true ∧ (0 < n ∨ (n = 0 ∧ cc % 2 = 1))) then cc + 1 else cc) = q := ⟨_, rfl⟩
    rw [hc2] at PPk
    have c2b : 0 ≤ c2 ∧ c2 ≤ cc + 1 := by rw [← hc2]; split <;> omega
    have HPP2 := hide PPk
    have HC2 := hide hc2
    clear PO PP PK OK hq2 PPk hc2
    go_upto_region 17 with fail
    go_cut [75] from 52 to 116 (fun s75 wx => s75 = .bool false ∧ w2 = wx)
    case first =>
      cases low <;> cases high
      · exact absurd ⟨rfl, rfl⟩ hq
      all_goals (go_wp2_with fail; go_meet; exact ⟨rfl, rfl⟩)
    case rest =>
    obtain ⟨rfl, rfl⟩ := hcut
    have q0 := C6.out.c0
    have q1 := C6.out.c1
    have q2 := C6.out.c2
    have q3 := C6.out.c3
    have q4 := C6.out.c4
    have q5 := C6.out.c5
    go_wp2_with fail
    with_reducible refine (closer6 SV.out (by omega) (by omega) (by omega) (by omega) HL5.out).mono ?_
    rintro r w3 ⟨rfl, K⟩
    rw [HNN.out]
    clear q0 q1 q2 q3 q4 q5
    replace C6 := hide (C6.out.below K)
    replace SV := hide (SV.out.below K)
    replace H0 := hide (H0.out.below K)
    replace H1 := hide (H1.out.below K)
    replace HK := hide (below_trans HK.out K)
    replace KU := hide (below_trans KU.out K)
    clear K
    clear HL5 SV HNN
    obtain ⟨d, hd⟩ : ∃ d : Bool, decide (low = false ∨ (high = true ∧ (0 < n ∨ (n = 0 ∧ cc % 2 = 1)))) = d := ⟨_, rfl⟩
    have x6 : cc.tmod 2 = cc % 2 := Int.tmod_eq_emod_of_nonneg cc0.1
    have HD := hide hd
    clear hd
    go_upto_region 19 with fail
    go_cut [97] from 52 to 116 (fun s97 wx => s97 = .bool d ∧ w3 = wx)
    case first =>
      have hd := HD.out
      cases low
      · obtain rfl : d = true := by rw [← hd]; simp
        clear hd HD
        go_wp2_with fail
        go_meet
        exact ⟨rfl, rfl⟩
      · cases high
        · obtain rfl : d = false := by rw [← hd]; simp
          clear hd HD
          go_wp2_with fail
          go_meet
          exact ⟨rfl, rfl⟩
        · rcases Int.lt_trichotomy n 0 with g | g | g
          · obtain rfl : d = false := by rw [← hd]; simp; omega
            have g1 : ¬ 0 < n := by omega
            have g2 : (n == 0) = false := by simp; omega
            clear hd HD
            go_wp2_with fail
            go_meet
            exact ⟨rfl, rfl⟩
          · subst g
            rcases Int.emod_two_eq cc with g | g
            · obtain rfl : d = false := by rw [← hd]; simp; omega
              rw [g] at x6
              clear hd HD
              go_wp2_with fail
              go_meet
              exact ⟨rfl, rfl⟩
            · obtain rfl : d = true := by rw [← hd]; simp; omega
              rw [g] at x6
              clear hd HD
              go_wp2_with fail
              go_meet
              exact ⟨rfl, rfl⟩
          · obtain rfl : d = true := by rw [← hd]; simp; omega
            clear hd HD
            go_wp2_with fail
            go_meet
            exact ⟨rfl, rfl⟩
    case rest =>
    obtain ⟨rfl, rfl⟩ := hcut
    go_upto_if 97 with fail
    go_cut [16] from 52 to 116 (fun s16 wx => s16 = .int .u64 c2 ∧ w3 = wx)
    case first =>
      have hd := HD.out
      have hc2 := HC2.out
      cases d
      · rw [if_neg (by simpa using hd)] at hc2
        subst hc2
        clear hd HD
        go_wp2_with fail
        go_meet
        exact ⟨rfl, rfl⟩
      · rw [if_pos (by simpa using hd)] at hc2
        subst hc2
        clear hd HD
        go_wp2_with fail
        go_meet
        exact ⟨rfl, rfl⟩
    case rest =>
    obtain ⟨rfl, rfl⟩ := hcut
    clear HD HC2
    obtain ⟨bne, bne0, bne2⟩ : b ≠ b0 + 1 ∧ b0 ≠ b0 + 1 ∧ w.heap.size ≤ b0 + 1 := by have := HBB.out; have := HB0.out; omega
    go_upto_region 21 with fail
    go_cut [] from 52 to 116 (fun wx => ∃ ds, Dstr c2 ds ∧ Cl3 wx (b0 + 1) (.bool ng) (.string (strOfNums ds)) (.int .i64 p) ∧ Cl3 wx b0 (.bool false) (.string ⟨#[]⟩) (.int .i64 0) ∧ Cell6 wx b (.slice ox lx cx) (.slice ol ll cl) (.slice oh lh ch) (.slice ou lu cu) (.bool ev) (.int .i64 p) ∧ Below w.heap.size w wx)
    case first =>
      have HC0 : w3.drew.cell? ⟨b, 5, none⟩ = some (.int .i64 p) := (C6.out.below (Below.refl _ _).drew).c5
      refine wpHl.region0 (C := fun u => u.cell? ⟨b, 5, none⟩ = some (.int .i64 p)) (by kernel_rfl) (by kernel_rfl) (fun HS => ?_)
      have K0 : Below w3.heap.size w3 w3.drew := (Below.refl _ _).drew
      replace C6 := hide (C6.out.below K0)
      replace H0 := hide (H0.out.below K0)
      replace H1 := hide (H1.out.below K0)
      replace HK := hide (below_trans HK.out K0)
      clear KU
      obtain ⟨r0, hr0⟩ : ∃ u, w3.drew = u := ⟨_, rfl⟩
      rw [hr0] at C6 H0 H1 HK HC0 ⊢
      clear hr0 K0
      refine wpHl.tk0 (i := 0) (d := some 100) (v := .int .u64 c2) rfl HS (by as_aux_lemma => kernel_rfl) rfl (fun _ _ _ h => h) (Or.inl ⟨by rfl, ?_⟩) HC0 ?_
      · intro u hC
        go_simp
      simp only [Act.put, List.setIfInBounds_toArray, List.set_cons_zero, List.set_cons_succ]
      refine wpHl.tk0 (i := 2) (d := some 102) (v := .pointer (some ⟨b, 5, none⟩)) rfl HS (by as_aux_lemma => kernel_rfl) rfl (fun _ _ _ h => h) (Or.inl ⟨by rfl, ?_⟩) HC0 ?_
      · intro u hC
        go_simp
      simp only [Act.put, List.setIfInBounds_toArray, List.set_cons_zero, List.set_cons_succ]
      refine wpHl.tk0 (i := 3) (d := some 103) (v := .int .i64 p) rfl HS (by as_aux_lemma => kernel_rfl) rfl (fun _ _ _ h => h) (Or.inl ⟨by rfl, ?_⟩) HC0 ?_
      · intro u hC
        go_simp
      simp only [Act.put, List.setIfInBounds_toArray, List.set_cons_zero, List.set_cons_succ]
      refine wpHl.one (i := 1) (by as_aux_lemma => kernel_rfl) rfl (fun K1 hK1 => ?_)
      rw [if_pos (by rfl)]
      refine wp_call_of (f := 22) (args := #[.int .u64 c2]) (by kernel_rfl) ?_
      with_reducible refine (told6 (by omega) (by omega)).mono ?_
      rintro e r1 ⟨ds, rfl, hds, hb⟩
      replace C6 := hide (C6.out.below hb)
      replace H0 := hide (H0.out.below hb)
      replace H1 := hide (H1.out.below hb)
      replace HK := hide (below_trans HK.out hb)
      have HDS := hide hds
      clear hds HC0
      have HC0 := C6.out.c5
      refine hK1 (Act.put _ (some 101) _) _ ⟨fun _ => HC0, ?_⟩
      clear hK1 K1 hb
      try simp only [Act.put, List.setIfInBounds_toArray, List.set_cons_zero, List.set_cons_succ]
      refine wpHl.tk0 (i := 4) (d := some 104) (v := .pointer (some ⟨b0 + 1, 1, none⟩)) rfl HS (by as_aux_lemma => kernel_rfl) rfl (fun _ _ _ h => h) (Or.inl ⟨by rfl, ?_⟩) HC0 ?_
      · intro u hC
        go_simp
      simp only [Act.put, List.setIfInBounds_toArray, List.set_cons_zero, List.set_cons_succ]
      refine wpHl.one (i := 5) (by as_aux_lemma => kernel_rfl) rfl (fun K1 hK1 => ?_)
      rw [if_pos (by rfl)]
      have e1 := H1.out.c1
      have f1 := H1.out.f1
      go_simp
      replace C6 := hide (C6.out.away (o := 1) (x := .string (strOfNums ds)) bne)
      replace H0 := hide (H0.out.away (o := 1) (x := .string (strOfNums ds)) bne0)
      replace H1 := hide (H1.out.set1 (.string (strOfNums ds)))
      replace HK := hide (HK.out.setCell (p := ⟨b0 + 1, 1, none⟩) bne2 (.string (strOfNums ds)))
      obtain ⟨r2, hr2⟩ : ∃ u, r1.setCell ⟨b0 + 1, 1, none⟩ (.string (strOfNums ds)) = u := ⟨_, rfl⟩
      rw [hr2] at C6 H0 H1 HK ⊢
      clear HC0 e1 f1 hr2
      have HC0 := C6.out.c5
      refine hK1 _ _ ⟨fun _ => HC0, ?_⟩
      clear hK1 K1
      try simp only [Act.put, List.setIfInBounds_toArray, List.set_cons_zero, List.set_cons_succ]
      refine wpHl.tk0 (i := 6) (d := some 105) (v := .pointer (some ⟨b0 + 1, 2, none⟩)) rfl HS (by as_aux_lemma => kernel_rfl) rfl (fun _ _ _ h => h) (Or.inl ⟨by rfl, ?_⟩) HC0 ?_
      · intro u hC
        go_simp
      simp only [Act.put, List.setIfInBounds_toArray, List.set_cons_zero, List.set_cons_succ]
      refine wpHl.one (i := 7) (by as_aux_lemma => kernel_rfl) rfl (fun K1 hK1 => ?_)
      rw [if_pos (by rfl)]
      have e1 := H1.out.c2
      have f1 := H1.out.f2
      go_simp
      replace C6 := hide (C6.out.away (o := 2) (x := .int .i64 p) bne)
      replace H0 := hide (H0.out.away (o := 2) (x := .int .i64 p) bne0)
      replace H1 := hide (H1.out.set2 (.int .i64 p))
      replace HK := hide (HK.out.setCell (p := ⟨b0 + 1, 2, none⟩) bne2 (.int .i64 p))
      obtain ⟨r3, hr3⟩ : ∃ u, r2.setCell ⟨b0 + 1, 2, none⟩ (.int .i64 p) = u := ⟨_, rfl⟩
      rw [hr3] at C6 H0 H1 HK ⊢
      clear HC0 e1 f1 hr3
      have HC0 := C6.out.c5
      refine hK1 _ _ ⟨fun _ => HC0, ?_⟩
      clear hK1 K1
      try simp only [Act.put, List.setIfInBounds_toArray, List.set_cons_zero, List.set_cons_succ]
      refine wpHl.done (by as_aux_lemma => kernel_rfl) ?_ _
      clear HC0 HS
      go_wp2_with fail
      go_meet
      exact ⟨ds, HDS.out, H1.out, H0.out, C6.out, HK.out⟩
    case rest =>
    obtain ⟨ds, hds, h1, h0, h6, hk⟩ := hcut
    have DE := dg_end (ng := ng) sp sI HPP.out k1 k2 HO.out HPP2.out p0 hds
    obtain ⟨tx, htx⟩ : ∃ t, strOfNums ds = t := ⟨_, rfl⟩
    have hsz : tx.size = ds.length := by rw [← htx]; simp [strOfNums, ByteArray.size]
    rw [htx] at h1 DE
    clear htx hds C6 H0 H1 HK KU HPP2 HCC HPW bne HBB HO HSl HPP HEV HMO HAL
    replace H0 := hide h0
    replace H1 := hide h1
    replace H6 := hide h6
    replace HK := hide hk
    have y2 : IntKind.i64.wrap (p + 1) = p + 1 := by rw [IntKind.wrap_i64]; omega
    clear h0 h1 h6 hk
    rename World => w4
    rcases DE with ⟨hl, hk1, D⟩ | ⟨hl, D⟩
    ·
      have g : (k : Int) < (tx.size : Int) := by omega
      have HD := hide D
      clear D hl hk1 hsz
      have q5 := H6.out.c5
      have a1 := H1.out.c1
      go_upto_region 23 with fail
      have g1 := H1.out.f1
      have a2 := H1.out.c2
      have g2 := H1.out.f2
      go_region
      replace H1 := hide (((H1.out.set1 (.string ⟨#[49]⟩)).set2 (.int .i64 (p + 1))).below (Below.refl _ _).drew)
      replace H0 := hide (((H0.out.away (o := 1) (x := .string ⟨#[49]⟩) bne0).away (o := 2) (x := .int .i64 (p + 1)) bne0).below (Below.refl _ _).drew)
      replace HK := hide (((HK.out.setCell (p := ⟨b0 + 1, 1, none⟩) bne2 (.string ⟨#[49]⟩)).setCell (p := ⟨b0 + 1, 2, none⟩) bne2 (.int .i64 (p + 1))).drew)
      obtain ⟨w5, h5⟩ : ∃ u, ((w4.setCell ⟨b0 + 1, 1, none⟩ (.string ⟨#[49]⟩)).setCell ⟨b0 + 1, 2, none⟩ (.int .i64 (p + 1))).drew = u := ⟨_, rfl⟩
      rw [h5] at H0 H1 HK ⊢
      clear h5 H6 q5 a1 g1 a2 g2 y2 g
      have a0 := H1.out.c0
      have a1 := H1.out.c1
      have a2 := H1.out.c2
      have d0 := H0.out.c0
      have d1 := H0.out.c1
      have d2 := H0.out.c2
      have e0 := H0.out.f0
      have e1 := H0.out.f1
      have e2 := H0.out.f2
      repeat go_step
      have PD := ((H0.out.set0 (.bool ng)).set1 (.string ⟨#[49]⟩)).set2 (.int .i64 (p + 1))
      have BW : w.heap.size ≤ b0 := Nat.le_of_eq HB0.out
      have KF := ((HK.out.setCell (p := ⟨b0, 0, none⟩) BW (.bool ng)).setCell (p := ⟨b0, 1, none⟩) BW (.string ⟨#[49]⟩)).setCell (p := ⟨b0, 2, none⟩) BW (.int .i64 (p + 1))
      clear H0 H1 HK d0 d1 d2 e0 e1 e2 a0 a1 a2
      generalize ((w5.setCell ⟨b0, 0, none⟩ (.bool ng)).setCell ⟨b0, 1, none⟩ (.string ⟨#[49]⟩)).setCell ⟨b0, 2, none⟩ (.int .i64 (p + 1)) = wz at *
      (try simp only [Exit.inBlock, Exit.then])
      exact bodyPost_ret (v := .tuple #[.agg #[.bool ng, .string ⟨#[49]⟩, .int .i64 (p + 1)], .bool true]) (by simp [results, Tryz.results6, go_sem, PD.c0, PD.c1, PD.c2]) rfl (r6_mk HD.out KF)
    ·
      have g : ¬ (k : Int) < (tx.size : Int) := by omega
      have HD := hide D
      clear D hl hsz
      have a0 := H1.out.c0
      have a1 := H1.out.c1
      have a2 := H1.out.c2
      have d0 := H0.out.c0
      have d1 := H0.out.c1
      have d2 := H0.out.c2
      have e0 := H0.out.f0
      have e1 := H0.out.f1
      have e2 := H0.out.f2
      go_upto_region 24 with fail
      repeat go_step
      have PD := ((H0.out.set0 (.bool ng)).set1 (.string tx)).set2 (.int .i64 p)
      have BW : w.heap.size ≤ b0 := Nat.le_of_eq HB0.out
      have KF := ((HK.out.setCell (p := ⟨b0, 0, none⟩) BW (.bool ng)).setCell (p := ⟨b0, 1, none⟩) BW (.string tx)).setCell (p := ⟨b0, 2, none⟩) BW (.int .i64 p)
      clear H0 H1 HK d0 d1 d2 e0 e1 e2 a0 a1 a2
      generalize ((w4.setCell ⟨b0, 0, none⟩ (.bool ng)).setCell ⟨b0, 1, none⟩ (.string tx)).setCell ⟨b0, 2, none⟩ (.int .i64 p) = wz at *
      (try simp only [Exit.inBlock, Exit.then])
      exact bodyPost_ret (v := .tuple #[.agg #[.bool ng, .string tx, .int .i64 p], .bool true]) (by simp [results, Tryz.results6, go_sem, PD.c0, PD.c1, PD.c2]) rfl (r6_mk HD.out KF)

end Go.Proofs.YtioganiefgmifaaGreatDoor
