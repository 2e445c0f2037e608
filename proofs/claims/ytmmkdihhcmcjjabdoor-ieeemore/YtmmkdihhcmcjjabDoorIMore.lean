/- IeeeMore's walk (mk_imore.py) -/
import Derived.Test.YtmmkdihhcmcjjabDoorIeeeQ
import Derived.Test.YtmmkdihhcmcjjabDoorIScaled
import Derived.Test.YtmmkdihhcmcjjabDoorAdd
import Derived.Test.YtmmkdihhcmcjjabDoorNorm
namespace Go.Proofs.YtmmkdihhcmcjjabDoor
open Go.RowKit
set_option linter.unusedVariables false

theorem near_same {F L I N E N' E' r r' B : Int} (hF : 0 < F) (h : Near F L I N E r) (h' : Near F L I N' E' r') (hE : B ≤ E) (hE' : B ≤ E') (hB : B ≤ L) (hv : sc N E B = sc N' E' B) : r = r' := by
  have a := near_le hF h h' hE hE' hB (by omega)
  have b := near_le hF h' h hE' hE hB (by omega)
  omega
theorem mst_top {F s : Int} (hF : 0 < F) (s0 : 0 ≤ s) : mst F s ≤ 2 * F - 1 := by
  unfold mst
  split
  · omega
  · have := Int.emod_lt_of_pos s hF; omega
/-- two numbers between the same two whole ones, which are long enough, have one nearest pattern -/
theorem near_gap {F L I A N E N' E' r r' B e : Int} {fr : Nat} (hfr : F = p2 fr) (hA : p2 (fr + 2) ≤ A) (h : Near F L I N E r) (h' : Near F L I N' E' r') (hE : B ≤ E) (hE' : B ≤ E') (hB : B ≤ L) (he : B ≤ e)
    (l1 : A * p2 (e - B).toNat < sc N E B) (u1 : sc N E B < (A + 1) * p2 (e - B).toNat) (l2 : A * p2 (e - B).toNat < sc N' E' B) (u2 : sc N' E' B < (A + 1) * p2 (e - B).toNat) : r = r' := by
  have hF : 0 < F := by rw [hfr]; exact p2_pos fr
  have key : ∀ {N E N' E' r r' : Int}, Near F L I N E r → Near F L I N' E' r' → B ≤ E → B ≤ E' → A * p2 (e - B).toNat < sc N E B → sc N' E' B < (A + 1) * p2 (e - B).toNat → r < r' → False := by
    intro N E N' E' r r' h h' hE hE' l1 u2 c
    obtain ⟨r0, r1, hn⟩ := h
    obtain ⟨q0, q1, hn'⟩ := h'
    obtain ⟨hi, _⟩ := hn B hE hB
    obtain ⟨_, lo⟩ := hn' B hE' hB
    obtain ⟨g1, _⟩ := hi (by omega)
    obtain ⟨g2, _⟩ := lo (by omega)
    have a1 := um_le (s := r) (t := r' - 1) hF r0 hB (by omega)
    have a2 := um_le (s := r + 1) (t := r') hF (by omega) hB (by omega)
    rw [um_succ hF r0 hB] at g1 a2
    have hm := mst_top hF r0
    have hT := p2_pos (est F L r - B).toNat
    have hU := p2_pos (e - B).toNat
    have hest := est_ge (L := L) (s := r) hF
    have hum : um F L B r = mst F r * p2 (est F L r - B).toNat := rfl
    -- the middle lies between the two whole numbers
    have mid1 : 2 * (A * p2 (e - B).toNat) < (2 * mst F r + 1) * p2 (est F L r - B).toNat := by
      rw [Int.add_mul, Int.one_mul, Int.mul_assoc, ← hum]; omega
    have mid2 : (2 * mst F r + 1) * p2 (est F L r - B).toNat < 2 * ((A + 1) * p2 (e - B).toNat) := by
      rw [Int.add_mul, Int.one_mul, Int.mul_assoc, ← hum]; omega
    have hlong : e + 1 < est F L r := by
      rcases Int.lt_or_le (e + 1) (est F L r) with g | g
      · exact g
      · exfalso
        have h1 : p2 (est F L r - B).toNat ≤ p2 (1 + (e - B)).toNat := p2_mono (by omega)
        rw [p2_toNat_add (by omega) (by omega), show p2 (1 : Int).toNat = 2 from rfl] at h1
        have h2 : (2 * mst F r + 1) * p2 (est F L r - B).toNat ≤ p2 (fr + 2) * p2 (est F L r - B).toNat := Int.mul_le_mul_of_nonneg_right (by rw [show p2 (fr + 2) = 4 * F by rw [hfr, p2, p2]; omega]; omega) (by omega)
        have h3 : p2 (fr + 2) * p2 (est F L r - B).toNat ≤ A * p2 (est F L r - B).toNat := Int.mul_le_mul_of_nonneg_right hA (by omega)
        have h4 : A * p2 (est F L r - B).toNat ≤ A * (2 * p2 (e - B).toNat) := Int.mul_le_mul_of_nonneg_left h1 (by have := p2_pos (fr + 2); omega)
        have h5 : A * (2 * p2 (e - B).toNat) = 2 * (A * p2 (e - B).toNat) := Int.mul_left_comm _ _ _
        omega
    have hk : p2 (est F L r - B).toNat = p2 (est F L r - e - 1).toNat * (2 * p2 (e - B).toNat) := by
      rw [show (2 : Int) * p2 (e - B).toNat = p2 (1 + (e - B)).toNat by rw [p2_toNat_add (by omega) (by omega)]; rfl, ← p2_toNat_add (by omega) (by omega)]
      congr 2
      omega
    have hk2 : (2 * mst F r + 1) * p2 (est F L r - B).toNat = ((2 * mst F r + 1) * p2 (est F L r - e - 1).toNat) * (2 * p2 (e - B).toNat) := by rw [hk, Int.mul_assoc]
    rw [hk2] at mid1 mid2
    clear hk hk2
    generalize (2 * mst F r + 1) * p2 (est F L r - e - 1).toNat = kk at mid1 mid2
    have e1 : kk * (2 * p2 (e - B).toNat) = 2 * (kk * p2 (e - B).toNat) := Int.mul_left_comm _ _ _
    rw [e1] at mid1 mid2
    have b1 : A < kk := Int.lt_of_mul_lt_mul_right (a := p2 (e - B).toNat) (by omega) (by omega)
    have b2 : kk < A + 1 := Int.lt_of_mul_lt_mul_right (a := p2 (e - B).toNat) (by omega) (by omega)
    omega
  rcases Int.lt_trichotomy r r' with c | c | c
  · exact (key h h' hE hE' l1 u2 c).elim
  · exact c
  · exact (key h' h hE' hE l2 u1 c).elim
theorem sc_twice {N E B : Int} (h : B ≤ E - 1) : sc N E B = sc (2 * N) (E - 1) B := by
  have e1 := sc_up (N := N) (E := E - 1) (B := B) (k := 1) h
  rw [show E - 1 + ((1 : Nat) : Int) = E by omega, show N * p2 1 = 2 * N by rw [show p2 1 = 2 from rfl]; omega] at e1
  exact e1
theorem more_half {F L I A e r r' : Int} (hF : 0 < F) (h : Near F L I (2 * A + 1) (e - 1) r) (h' : Near F L I (2 * (A * 2 + 1) + 0) (e - 1 - 1) r') : r = r' := by
  refine near_same (B := min (e - 1 - 1) L) hF h h' (by omega) (by omega) (by omega) ?_
  rw [sc_twice (E := e - 1) (by omega)]
  congr 1
  omega
theorem more_behind {F L I A e r r' b : Int} {fr : Nat} (hfr : F = p2 fr) (hA : p2 (fr + 2) ≤ A) (b0 : 0 < b) (b1 : b < 1099511627776) (h : Near F L I (2 * A + 1) (e - 1) r) (h' : Near F L I (2 * (A * 1099511627776 + b) + 0) (e - 40 - 1) r') : r = r' := by
  have hB1 : min (e - 41) L ≤ e - 41 := by omega
  have hB2 : min (e - 41) L ≤ L := by omega
  generalize min (e - 41) L = B at hB1 hB2
  have e1 : p2 (e - B).toNat = 2 * p2 (e - 1 - B).toNat := by rw [show e - B = 1 + (e - 1 - B) by omega, p2_toNat_add (by omega) (by omega)]; rfl
  have e2 : p2 (e - B).toNat = 2199023255552 * p2 (e - 40 - 1 - B).toNat := by rw [show e - B = 41 + (e - 40 - 1 - B) by omega, p2_toNat_add (by omega) (by omega), show p2 (41 : Int).toNat = 2199023255552 from by decide]
  have u1 := p2_pos (e - 1 - B).toNat
  have u2 := p2_pos (e - 40 - 1 - B).toNat
  have A0 : 0 < A := by have := p2_pos (fr + 2); omega
  refine near_gap (A := A) (B := B) (e := e) hfr hA h h' (by omega) (by omega) hB2 (by omega) ?_ ?_ ?_ ?_
  · rw [e1]; unfold sc; generalize p2 (e - 1 - B).toNat = u at *
    have : A * (2 * u) = 2 * A * u := by grind
    rw [this, Int.add_mul]; omega
  · rw [e1]; unfold sc; generalize p2 (e - 1 - B).toNat = u at *
    have : (A + 1) * (2 * u) = 2 * A * u + 2 * u := by grind
    rw [this, Int.add_mul]; omega
  · rw [e2]; unfold sc; generalize p2 (e - 40 - 1 - B).toNat = u at *
    have h3 : A * (2199023255552 * u) = (A * 2199023255552) * u := by grind
    rw [h3]
    exact Int.mul_lt_mul_of_pos_right (by omega) u2
  · rw [e2]; unfold sc; generalize p2 (e - 40 - 1 - B).toNat = u at *
    have h3 : (A + 1) * (2199023255552 * u) = ((A + 1) * 2199023255552) * u := by grind
    rw [h3]
    exact Int.mul_lt_mul_of_pos_right (by omega) u2
def bh (j : Nat) : Int := [1, 274877906944, 824633720832, 1099511627775].getD j 0
theorem bh_range {j : Nat} (h : j < 4) : 0 < bh j ∧ bh j < 1099511627776 := by
  match j, h with
  | 0, _ => decide
  | 1, _ => decide
  | 2, _ => decide
  | 3, _ => decide
/-- the four numbers behind -/
structure Beh (w : World) (b : Nat) : Prop where
  at_ : ∀ j, j < 4 → w.cell? ⟨b, j, none⟩ = some (.int .u64 (bh j))
  lt : b < w.heap.size
theorem Beh.below {w w' : World} {b : Nat} (h : Beh w b) (hb : Below w.heap.size w w') : Beh w' b := ⟨fun j hj => (hb.cell (p := ⟨b, j, none⟩) h.lt).trans (h.at_ j hj), Nat.lt_of_lt_of_le h.lt hb.size⟩
theorem beh_new (w : World) (t : TypeId) : Beh (w.alloc (.cells #[.int .u64 1, .int .u64 274877906944, .int .u64 824633720832, .int .u64 1099511627775] t)) w.heap.size := by
  refine ⟨fun j hj => ?_, by simp⟩
  rw [World.cell?_alloc_at _ _ _ _ rfl]
  match j, hj with
  | 0, _ => rfl
  | 1, _ => rfl
  | 2, _ => rfl
  | 3, _ => rfl

set_option maxRecDepth 20000 in
set_option maxHeartbeats 8000000 in
theorem imore_0 {w : World} (L : Lays w) (T : Brn w) (v : Int) (v0 : 0 ≤ v) (v1 : v < 256) (hv : v % 4 = 0) (neg : Bool) {va : Value} {xs : List Int} (ha : Reads .u32 w va xs) (oa : Nt.Ok xs) (la : xs.length ≤ 70368744177664) (e : Int) (e0 : -32768 ≤ e) (e1 : e < 32768) :
    Calls Tryd.prog 3 #[.int .u8 v, .bool neg, va, .int .i16 e] w fun x w' => x = .returned (.bool true) ∧ Below w.heap.size w w' := by
  obtain ⟨ao, ca, rfl, ha1, ha2, ha3⟩ := ha
  have h_r : Reads .u32 w (.slice ao xs.length ca) xs := ⟨ao, ca, rfl, ha1, ha2, ha3⟩
  clear ha1 ha2 ha3
  have K := Below.refl w.heap.size w
  go_enter Tryd.func3, Tryd.ntmps3
  go_wp2_with fail
  with_reducible refine (lives_ok L T).mono ?_
  rintro x' u49 ⟨rfl, K⟩
  by_cases big : (60 : Int) < (xs.length : Int)
  · go_wp2
    go_ret
    exact ⟨rfl, K⟩
  have hlx : xs.length ≤ 60 := by omega
  have h_a : Arg _ (.slice ao xs.length ca) (Nt.val xs) 60 := ⟨xs, h_r.below K, oa, rfl, hlx⟩
  have A0 := h_a.nonneg
  clear h_r
  generalize Nt.val xs = A at *
  go_wp2_with fail
  with_reducible refine (lround_0 (L.below K) v v0 v1 hv (e := e) (more := true) (neg := neg) h_a (by decide) (by omega) (by omega)).mono ?_
  rintro x' u50 ⟨r1, rfl, N1, kb⟩
  replace K := below_trans K kb; replace h_a := h_a.below kb; clear kb
  have H1 := hide N1
  rw [show b2i true = 1 from rfl] at H1
  have r10 := N1.1
  have r1I := N1.2.1
  clear N1
  obtain ⟨q, hq⟩ : ∃ q, b2i neg * 32768 = q := ⟨_, rfl⟩
  have q0 : 0 ≤ q ∧ q ≤ 32768 := by subst hq; cases neg <;> simp [b2i]
  obtain ⟨q0, q1⟩ := q0
  have HQ := hide hq
  rw [hq]
  clear hq
  go_wp2_with fail
  with_reducible refine (scaled_int h_a (n := 1) (by decide) (by decide) (by decide)).mono ?_
  rintro x' u51 ⟨z1, rfl, h_b, kb⟩
  replace K := below_trans K kb; replace h_a := h_a.below kb; clear kb
  go_wp2_with fail
  with_reducible refine (from_any 1 (by decide) (by decide)).mono ?_
  rintro x' u52 ⟨z2, rfl, h_c, kb⟩
  replace K := below_trans K kb; replace h_a := h_a.below kb; replace h_b := h_b.below kb; clear kb
  go_wp2_with fail
  with_reducible refine (add_any h_b.arg h_c.arg (by decide) (by decide)).mono ?_
  rintro x' u53 ⟨z3, rfl, h_d, kb⟩
  replace K := below_trans K kb; replace h_a := h_a.below kb; clear kb
  clear h_b h_c
  go_wp2_with fail
  with_reducible refine (lround_0 (L.below K) v v0 v1 hv (e := e - 1) (more := false) (neg := neg) h_d.arg (by decide) (by omega) (by omega)).mono ?_
  rintro x' u54 ⟨r2, rfl, N2, kb⟩
  replace K := below_trans K kb; replace h_a := h_a.below kb; clear kb
  obtain rfl := more_half (by decide) H1.out N2
  rw [HQ.out]
  clear N2 h_d
  go_wp2_with fail
  with_reducible refine (len_any h_a (by decide)).mono ?_
  rintro x' u55 ⟨size, rfl, hlen, hsz, rfl⟩
  by_cases sm : (size : Int) < 13
  · go_wp2
    go_ret
    exact ⟨rfl, K⟩
  have hA : p2 (10 + 2) ≤ A := by
    have h1 := hlen.2 (by omega)
    have h2 := p2_mono (m := 10 + 2) (n := size - 1) (by omega)
    omega
  have HA := hide hA
  clear hlen hA
  go_upto_region 18 with fail
  rename World => u9
  have CB := beh_new u9 32
  have K9 := bel_new u9 (.cells #[.int .u64 1, .int .u64 274877906944, .int .u64 824633720832, .int .u64 1099511627775] 32)
  replace K := below_trans K K9
  replace h_a := h_a.below K9
  clear K9
  generalize hb9 : u9.heap.size = b9 at *
  clear hb9
  generalize u9.alloc (.cells #[.int .u64 1, .int .u64 274877906944, .int .u64 824633720832, .int .u64 1099511627775] 32) = u8 at *
  go_wp2
  go_loopw [13] (fun i wr => ∃ j : Nat, j ≤ 4 ∧ i = .int .i64 j ∧ Beh wr b9 ∧ Arg wr (.slice ao xs.length ca) A 60 ∧ Below w.heap.size w wr) (fun i _ => 4 - (intOf i).toNat)
  case atStart => exact ⟨0, by omega, rfl, CB, h_a, K⟩
  case round =>
    clear CB h_a K
    obtain ⟨j, hj, rfl, CB, h_a, KW⟩ := hrel
    by_cases jc : j < 4
    · have j4 : (j : Int) < 4 := by omega
      have j0 : (0 : Int) ≤ (j : Int) := by omega
      obtain ⟨b0, b1⟩ := bh_range jc
      have hcell := CB.at_ j jc
      have HCB := hide CB
      have hwe : IntKind.i64.wrap (e - 40) = e - 40 := by rw [IntKind.wrap_i64]; omega
      clear CB
      go_upto_region 21 with fail
      have K : Below wr.heap.size wr wr.drew := (Below.refl _ _).drew
      go_region_held3 (fun w' => w'.cell? ⟨b9, j, none⟩ = some (.int .u64 (bh j)))
        (first
          | with_reducible exact (HCB.out.below K).at_ j jc
          | go_keep)
        (first
          | (go_at_call 7; (with_reducible refine (scaled_int (h_a.below K) (n := 40) (by decide) (by decide) (by decide)).mono ?_); rintro x' u1 ⟨z1, rfl, h_b, kb⟩; replace K := below_trans K kb; clear kb)
          | (go_at_call 8; (with_reducible refine (from_any (bh j) (by omega) (by omega)).mono ?_); rintro x' u2 ⟨z2, rfl, h_c, kb⟩; replace h_b := h_b.below kb; replace K := below_trans K kb; clear kb)
          | (go_at_call 6; (with_reducible refine (add_any h_b.arg h_c.arg (by decide) (by decide)).mono ?_); rintro x' u3 ⟨z3, rfl, h_d, kb⟩; clear h_b h_c; replace K := below_trans K kb; clear kb)
          | (go_at_call 5; (with_reducible refine (lround_0 (L.below (below_trans KW K)) v v0 v1 hv (e := e - 40) (more := false) (neg := neg) h_d.arg (by decide) (by omega) (by omega)).mono ?_); rintro x' u4 ⟨r3, rfl, N3, kb⟩; replace N3 := more_behind (fr := 10) (by decide) HA.out b0 b1 H1.out N3; subst N3; rw [HQ.out]; clear h_d; replace K := below_trans K kb; clear kb))
      all_goals (
        have KB := HCB.out.below K
        have KA := h_a.below K
        replace KW := below_trans KW K
        clear K hcell HCB h_a
        go_wp2
        go_roundw
        case rel => exact ⟨j + 1, by omega, by go_num, KB, KA, KW⟩
        case measure => simp [intOf]; omega)
    · obtain rfl : j = 4 := by omega
      go_wp2
      go_ret
      exact ⟨rfl, KW⟩

set_option maxRecDepth 20000 in
set_option maxHeartbeats 8000000 in
theorem imore_1 {w : World} (L : Lays w) (T : Brn w) (v : Int) (v0 : 0 ≤ v) (v1 : v < 256) (hv : v % 4 = 1) (neg : Bool) {va : Value} {xs : List Int} (ha : Reads .u32 w va xs) (oa : Nt.Ok xs) (la : xs.length ≤ 70368744177664) (e : Int) (e0 : -32768 ≤ e) (e1 : e < 32768) :
    Calls Tryd.prog 3 #[.int .u8 v, .bool neg, va, .int .i16 e] w fun x w' => x = .returned (.bool true) ∧ Below w.heap.size w w' := by
  obtain ⟨ao, ca, rfl, ha1, ha2, ha3⟩ := ha
  have h_r : Reads .u32 w (.slice ao xs.length ca) xs := ⟨ao, ca, rfl, ha1, ha2, ha3⟩
  clear ha1 ha2 ha3
  have K := Below.refl w.heap.size w
  go_enter Tryd.func3, Tryd.ntmps3
  go_wp2_with fail
  with_reducible refine (lives_ok L T).mono ?_
  rintro x' u56 ⟨rfl, K⟩
  by_cases big : (60 : Int) < (xs.length : Int)
  · go_wp2
    go_ret
    exact ⟨rfl, K⟩
  have hlx : xs.length ≤ 60 := by omega
  have h_a : Arg _ (.slice ao xs.length ca) (Nt.val xs) 60 := ⟨xs, h_r.below K, oa, rfl, hlx⟩
  have A0 := h_a.nonneg
  clear h_r
  generalize Nt.val xs = A at *
  go_wp2_with fail
  with_reducible refine (lround_1 (L.below K) v v0 v1 hv (e := e) (more := true) (neg := neg) h_a (by decide) (by omega) (by omega)).mono ?_
  rintro x' u57 ⟨r1, rfl, N1, kb⟩
  replace K := below_trans K kb; replace h_a := h_a.below kb; clear kb
  have H1 := hide N1
  rw [show b2i true = 1 from rfl] at H1
  have r10 := N1.1
  have r1I := N1.2.1
  clear N1
  obtain ⟨q, hq⟩ : ∃ q, b2i neg * 2147483648 = q := ⟨_, rfl⟩
  have q0 : 0 ≤ q ∧ q ≤ 2147483648 := by subst hq; cases neg <;> simp [b2i]
  obtain ⟨q0, q1⟩ := q0
  have HQ := hide hq
  rw [hq]
  clear hq
  go_wp2_with fail
  with_reducible refine (scaled_int h_a (n := 1) (by decide) (by decide) (by decide)).mono ?_
  rintro x' u58 ⟨z1, rfl, h_b, kb⟩
  replace K := below_trans K kb; replace h_a := h_a.below kb; clear kb
  go_wp2_with fail
  with_reducible refine (from_any 1 (by decide) (by decide)).mono ?_
  rintro x' u59 ⟨z2, rfl, h_c, kb⟩
  replace K := below_trans K kb; replace h_a := h_a.below kb; replace h_b := h_b.below kb; clear kb
  go_wp2_with fail
  with_reducible refine (add_any h_b.arg h_c.arg (by decide) (by decide)).mono ?_
  rintro x' u60 ⟨z3, rfl, h_d, kb⟩
  replace K := below_trans K kb; replace h_a := h_a.below kb; clear kb
  clear h_b h_c
  go_wp2_with fail
  with_reducible refine (lround_1 (L.below K) v v0 v1 hv (e := e - 1) (more := false) (neg := neg) h_d.arg (by decide) (by omega) (by omega)).mono ?_
  rintro x' u61 ⟨r2, rfl, N2, kb⟩
  replace K := below_trans K kb; replace h_a := h_a.below kb; clear kb
  obtain rfl := more_half (by decide) H1.out N2
  rw [HQ.out]
  clear N2 h_d
  go_wp2_with fail
  with_reducible refine (len_any h_a (by decide)).mono ?_
  rintro x' u62 ⟨size, rfl, hlen, hsz, rfl⟩
  by_cases sm : (size : Int) < 26
  · go_wp2
    go_ret
    exact ⟨rfl, K⟩
  have hA : p2 (23 + 2) ≤ A := by
    have h1 := hlen.2 (by omega)
    have h2 := p2_mono (m := 23 + 2) (n := size - 1) (by omega)
    omega
  have HA := hide hA
  clear hlen hA
  go_upto_region 18 with fail
  rename World => u9
  have CB := beh_new u9 32
  have K9 := bel_new u9 (.cells #[.int .u64 1, .int .u64 274877906944, .int .u64 824633720832, .int .u64 1099511627775] 32)
  replace K := below_trans K K9
  replace h_a := h_a.below K9
  clear K9
  generalize hb9 : u9.heap.size = b9 at *
  clear hb9
  generalize u9.alloc (.cells #[.int .u64 1, .int .u64 274877906944, .int .u64 824633720832, .int .u64 1099511627775] 32) = u8 at *
  go_wp2
  go_loopw [13] (fun i wr => ∃ j : Nat, j ≤ 4 ∧ i = .int .i64 j ∧ Beh wr b9 ∧ Arg wr (.slice ao xs.length ca) A 60 ∧ Below w.heap.size w wr) (fun i _ => 4 - (intOf i).toNat)
  case atStart => exact ⟨0, by omega, rfl, CB, h_a, K⟩
  case round =>
    clear CB h_a K
    obtain ⟨j, hj, rfl, CB, h_a, KW⟩ := hrel
    by_cases jc : j < 4
    · have j4 : (j : Int) < 4 := by omega
      have j0 : (0 : Int) ≤ (j : Int) := by omega
      obtain ⟨b0, b1⟩ := bh_range jc
      have hcell := CB.at_ j jc
      have HCB := hide CB
      have hwe : IntKind.i64.wrap (e - 40) = e - 40 := by rw [IntKind.wrap_i64]; omega
      clear CB
      go_upto_region 21 with fail
      have K : Below wr.heap.size wr wr.drew := (Below.refl _ _).drew
      go_region_held3 (fun w' => w'.cell? ⟨b9, j, none⟩ = some (.int .u64 (bh j)))
        (first
          | with_reducible exact (HCB.out.below K).at_ j jc
          | go_keep)
        (first
          | (go_at_call 7; (with_reducible refine (scaled_int (h_a.below K) (n := 40) (by decide) (by decide) (by decide)).mono ?_); rintro x' u1 ⟨z1, rfl, h_b, kb⟩; replace K := below_trans K kb; clear kb)
          | (go_at_call 8; (with_reducible refine (from_any (bh j) (by omega) (by omega)).mono ?_); rintro x' u2 ⟨z2, rfl, h_c, kb⟩; replace h_b := h_b.below kb; replace K := below_trans K kb; clear kb)
          | (go_at_call 6; (with_reducible refine (add_any h_b.arg h_c.arg (by decide) (by decide)).mono ?_); rintro x' u3 ⟨z3, rfl, h_d, kb⟩; clear h_b h_c; replace K := below_trans K kb; clear kb)
          | (go_at_call 5; (with_reducible refine (lround_1 (L.below (below_trans KW K)) v v0 v1 hv (e := e - 40) (more := false) (neg := neg) h_d.arg (by decide) (by omega) (by omega)).mono ?_); rintro x' u4 ⟨r3, rfl, N3, kb⟩; replace N3 := more_behind (fr := 23) (by decide) HA.out b0 b1 H1.out N3; subst N3; rw [HQ.out]; clear h_d; replace K := below_trans K kb; clear kb))
      all_goals (
        have KB := HCB.out.below K
        have KA := h_a.below K
        replace KW := below_trans KW K
        clear K hcell HCB h_a
        go_wp2
        go_roundw
        case rel => exact ⟨j + 1, by omega, by go_num, KB, KA, KW⟩
        case measure => simp [intOf]; omega)
    · obtain rfl : j = 4 := by omega
      go_wp2
      go_ret
      exact ⟨rfl, KW⟩

set_option maxRecDepth 20000 in
set_option maxHeartbeats 8000000 in
theorem imore_2 {w : World} (L : Lays w) (T : Brn w) (v : Int) (v0 : 0 ≤ v) (v1 : v < 256) (hv : v % 4 = 2) (neg : Bool) {va : Value} {xs : List Int} (ha : Reads .u32 w va xs) (oa : Nt.Ok xs) (la : xs.length ≤ 70368744177664) (e : Int) (e0 : -32768 ≤ e) (e1 : e < 32768) :
    Calls Tryd.prog 3 #[.int .u8 v, .bool neg, va, .int .i16 e] w fun x w' => x = .returned (.bool true) ∧ Below w.heap.size w w' := by
  obtain ⟨ao, ca, rfl, ha1, ha2, ha3⟩ := ha
  have h_r : Reads .u32 w (.slice ao xs.length ca) xs := ⟨ao, ca, rfl, ha1, ha2, ha3⟩
  clear ha1 ha2 ha3
  have K := Below.refl w.heap.size w
  go_enter Tryd.func3, Tryd.ntmps3
  go_wp2_with fail
  with_reducible refine (lives_ok L T).mono ?_
  rintro x' u63 ⟨rfl, K⟩
  by_cases big : (60 : Int) < (xs.length : Int)
  · go_wp2
    go_ret
    exact ⟨rfl, K⟩
  have hlx : xs.length ≤ 60 := by omega
  have h_a : Arg _ (.slice ao xs.length ca) (Nt.val xs) 60 := ⟨xs, h_r.below K, oa, rfl, hlx⟩
  have A0 := h_a.nonneg
  clear h_r
  generalize Nt.val xs = A at *
  go_wp2_with fail
  with_reducible refine (lround_2 (L.below K) v v0 v1 hv (e := e) (more := true) (neg := neg) h_a (by decide) (by omega) (by omega)).mono ?_
  rintro x' u64 ⟨r1, rfl, N1, kb⟩
  replace K := below_trans K kb; replace h_a := h_a.below kb; clear kb
  have H1 := hide N1
  rw [show b2i true = 1 from rfl] at H1
  have r10 := N1.1
  have r1I := N1.2.1
  clear N1
  obtain ⟨q, hq⟩ : ∃ q, b2i neg * 9223372036854775808 = q := ⟨_, rfl⟩
  have q0 : 0 ≤ q ∧ q ≤ 9223372036854775808 := by subst hq; cases neg <;> simp [b2i]
  obtain ⟨q0, q1⟩ := q0
  have HQ := hide hq
  rw [hq]
  clear hq
  go_wp2_with fail
  with_reducible refine (scaled_int h_a (n := 1) (by decide) (by decide) (by decide)).mono ?_
  rintro x' u65 ⟨z1, rfl, h_b, kb⟩
  replace K := below_trans K kb; replace h_a := h_a.below kb; clear kb
  go_wp2_with fail
  with_reducible refine (from_any 1 (by decide) (by decide)).mono ?_
  rintro x' u66 ⟨z2, rfl, h_c, kb⟩
  replace K := below_trans K kb; replace h_a := h_a.below kb; replace h_b := h_b.below kb; clear kb
  go_wp2_with fail
  with_reducible refine (add_any h_b.arg h_c.arg (by decide) (by decide)).mono ?_
  rintro x' u67 ⟨z3, rfl, h_d, kb⟩
  replace K := below_trans K kb; replace h_a := h_a.below kb; clear kb
  clear h_b h_c
  go_wp2_with fail
  with_reducible refine (lround_2 (L.below K) v v0 v1 hv (e := e - 1) (more := false) (neg := neg) h_d.arg (by decide) (by omega) (by omega)).mono ?_
  rintro x' u68 ⟨r2, rfl, N2, kb⟩
  replace K := below_trans K kb; replace h_a := h_a.below kb; clear kb
  obtain rfl := more_half (by decide) H1.out N2
  rw [HQ.out]
  clear N2 h_d
  go_wp2_with fail
  with_reducible refine (len_any h_a (by decide)).mono ?_
  rintro x' u69 ⟨size, rfl, hlen, hsz, rfl⟩
  by_cases sm : (size : Int) < 55
  · go_wp2
    go_ret
    exact ⟨rfl, K⟩
  have hA : p2 (52 + 2) ≤ A := by
    have h1 := hlen.2 (by omega)
    have h2 := p2_mono (m := 52 + 2) (n := size - 1) (by omega)
    omega
  have HA := hide hA
  clear hlen hA
  go_upto_region 18 with fail
  rename World => u9
  have CB := beh_new u9 32
  have K9 := bel_new u9 (.cells #[.int .u64 1, .int .u64 274877906944, .int .u64 824633720832, .int .u64 1099511627775] 32)
  replace K := below_trans K K9
  replace h_a := h_a.below K9
  clear K9
  generalize hb9 : u9.heap.size = b9 at *
  clear hb9
  generalize u9.alloc (.cells #[.int .u64 1, .int .u64 274877906944, .int .u64 824633720832, .int .u64 1099511627775] 32) = u8 at *
  go_wp2
  go_loopw [13] (fun i wr => ∃ j : Nat, j ≤ 4 ∧ i = .int .i64 j ∧ Beh wr b9 ∧ Arg wr (.slice ao xs.length ca) A 60 ∧ Below w.heap.size w wr) (fun i _ => 4 - (intOf i).toNat)
  case atStart => exact ⟨0, by omega, rfl, CB, h_a, K⟩
  case round =>
    clear CB h_a K
    obtain ⟨j, hj, rfl, CB, h_a, KW⟩ := hrel
    by_cases jc : j < 4
    · have j4 : (j : Int) < 4 := by omega
      have j0 : (0 : Int) ≤ (j : Int) := by omega
      obtain ⟨b0, b1⟩ := bh_range jc
      have hcell := CB.at_ j jc
      have HCB := hide CB
      have hwe : IntKind.i64.wrap (e - 40) = e - 40 := by rw [IntKind.wrap_i64]; omega
      clear CB
      go_upto_region 21 with fail
      have K : Below wr.heap.size wr wr.drew := (Below.refl _ _).drew
      go_region_held3 (fun w' => w'.cell? ⟨b9, j, none⟩ = some (.int .u64 (bh j)))
        (first
          | with_reducible exact (HCB.out.below K).at_ j jc
          | go_keep)
        (first
          | (go_at_call 7; (with_reducible refine (scaled_int (h_a.below K) (n := 40) (by decide) (by decide) (by decide)).mono ?_); rintro x' u1 ⟨z1, rfl, h_b, kb⟩; replace K := below_trans K kb; clear kb)
          | (go_at_call 8; (with_reducible refine (from_any (bh j) (by omega) (by omega)).mono ?_); rintro x' u2 ⟨z2, rfl, h_c, kb⟩; replace h_b := h_b.below kb; replace K := below_trans K kb; clear kb)
          | (go_at_call 6; (with_reducible refine (add_any h_b.arg h_c.arg (by decide) (by decide)).mono ?_); rintro x' u3 ⟨z3, rfl, h_d, kb⟩; clear h_b h_c; replace K := below_trans K kb; clear kb)
          | (go_at_call 5; (with_reducible refine (lround_2 (L.below (below_trans KW K)) v v0 v1 hv (e := e - 40) (more := false) (neg := neg) h_d.arg (by decide) (by omega) (by omega)).mono ?_); rintro x' u4 ⟨r3, rfl, N3, kb⟩; replace N3 := more_behind (fr := 52) (by decide) HA.out b0 b1 H1.out N3; subst N3; rw [HQ.out]; clear h_d; replace K := below_trans K kb; clear kb))
      all_goals (
        have KB := HCB.out.below K
        have KA := h_a.below K
        replace KW := below_trans KW K
        clear K hcell HCB h_a
        go_wp2
        go_roundw
        case rel => exact ⟨j + 1, by omega, by go_num, KB, KA, KW⟩
        case measure => simp [intOf]; omega)
    · obtain rfl : j = 4 := by omega
      go_wp2
      go_ret
      exact ⟨rfl, KW⟩

set_option maxRecDepth 20000 in
set_option maxHeartbeats 8000000 in
theorem imore_3 {w : World} (L : Lays w) (T : Brn w) (v : Int) (v0 : 0 ≤ v) (v1 : v < 256) (hv : v % 4 = 3) (neg : Bool) {va : Value} {xs : List Int} (ha : Reads .u32 w va xs) (oa : Nt.Ok xs) (la : xs.length ≤ 70368744177664) (e : Int) (e0 : -32768 ≤ e) (e1 : e < 32768) :
    Calls Tryd.prog 3 #[.int .u8 v, .bool neg, va, .int .i16 e] w fun x w' => x = .returned (.bool true) ∧ Below w.heap.size w w' := by
  obtain ⟨ao, ca, rfl, ha1, ha2, ha3⟩ := ha
  have h_r : Reads .u32 w (.slice ao xs.length ca) xs := ⟨ao, ca, rfl, ha1, ha2, ha3⟩
  clear ha1 ha2 ha3
  have K := Below.refl w.heap.size w
  go_enter Tryd.func3, Tryd.ntmps3
  go_wp2_with fail
  with_reducible refine (lives_ok L T).mono ?_
  rintro x' u70 ⟨rfl, K⟩
  by_cases big : (60 : Int) < (xs.length : Int)
  · go_wp2
    go_ret
    exact ⟨rfl, K⟩
  have hlx : xs.length ≤ 60 := by omega
  have h_a : Arg _ (.slice ao xs.length ca) (Nt.val xs) 60 := ⟨xs, h_r.below K, oa, rfl, hlx⟩
  have A0 := h_a.nonneg
  clear h_r
  generalize Nt.val xs = A at *
  go_wp2_with fail
  with_reducible refine (lround_3 (L.below K) v v0 v1 hv (e := e) (more := true) (neg := neg) h_a (by decide) (by omega) (by omega)).mono ?_
  rintro x' u71 ⟨r1, rfl, N1, kb⟩
  replace K := below_trans K kb; replace h_a := h_a.below kb; clear kb
  have H1 := hide N1
  rw [show b2i true = 1 from rfl] at H1
  have r10 := N1.1
  have r1I := N1.2.1
  clear N1
  obtain ⟨q, hq⟩ : ∃ q, b2i neg * 2147483648 = q := ⟨_, rfl⟩
  have q0 : 0 ≤ q ∧ q ≤ 2147483648 := by subst hq; cases neg <;> simp [b2i]
  obtain ⟨q0, q1⟩ := q0
  have HQ := hide hq
  rw [hq]
  clear hq
  go_wp2_with fail
  with_reducible refine (scaled_int h_a (n := 1) (by decide) (by decide) (by decide)).mono ?_
  rintro x' u72 ⟨z1, rfl, h_b, kb⟩
  replace K := below_trans K kb; replace h_a := h_a.below kb; clear kb
  go_wp2_with fail
  with_reducible refine (from_any 1 (by decide) (by decide)).mono ?_
  rintro x' u73 ⟨z2, rfl, h_c, kb⟩
  replace K := below_trans K kb; replace h_a := h_a.below kb; replace h_b := h_b.below kb; clear kb
  go_wp2_with fail
  with_reducible refine (add_any h_b.arg h_c.arg (by decide) (by decide)).mono ?_
  rintro x' u74 ⟨z3, rfl, h_d, kb⟩
  replace K := below_trans K kb; replace h_a := h_a.below kb; clear kb
  clear h_b h_c
  go_wp2_with fail
  with_reducible refine (lround_3 (L.below K) v v0 v1 hv (e := e - 1) (more := false) (neg := neg) h_d.arg (by decide) (by omega) (by omega)).mono ?_
  rintro x' u75 ⟨r2, rfl, N2, kb⟩
  replace K := below_trans K kb; replace h_a := h_a.below kb; clear kb
  obtain rfl := more_half (by decide) H1.out N2
  rw [HQ.out]
  clear N2 h_d
  go_wp2_with fail
  with_reducible refine (len_any h_a (by decide)).mono ?_
  rintro x' u76 ⟨size, rfl, hlen, hsz, rfl⟩
  by_cases sm : (size : Int) < 26
  · go_wp2
    go_ret
    exact ⟨rfl, K⟩
  have hA : p2 (23 + 2) ≤ A := by
    have h1 := hlen.2 (by omega)
    have h2 := p2_mono (m := 23 + 2) (n := size - 1) (by omega)
    omega
  have HA := hide hA
  clear hlen hA
  go_upto_region 18 with fail
  rename World => u9
  have CB := beh_new u9 32
  have K9 := bel_new u9 (.cells #[.int .u64 1, .int .u64 274877906944, .int .u64 824633720832, .int .u64 1099511627775] 32)
  replace K := below_trans K K9
  replace h_a := h_a.below K9
  clear K9
  generalize hb9 : u9.heap.size = b9 at *
  clear hb9
  generalize u9.alloc (.cells #[.int .u64 1, .int .u64 274877906944, .int .u64 824633720832, .int .u64 1099511627775] 32) = u8 at *
  go_wp2
  go_loopw [13] (fun i wr => ∃ j : Nat, j ≤ 4 ∧ i = .int .i64 j ∧ Beh wr b9 ∧ Arg wr (.slice ao xs.length ca) A 60 ∧ Below w.heap.size w wr) (fun i _ => 4 - (intOf i).toNat)
  case atStart => exact ⟨0, by omega, rfl, CB, h_a, K⟩
  case round =>
    clear CB h_a K
    obtain ⟨j, hj, rfl, CB, h_a, KW⟩ := hrel
    by_cases jc : j < 4
    · have j4 : (j : Int) < 4 := by omega
      have j0 : (0 : Int) ≤ (j : Int) := by omega
      obtain ⟨b0, b1⟩ := bh_range jc
      have hcell := CB.at_ j jc
      have HCB := hide CB
      have hwe : IntKind.i64.wrap (e - 40) = e - 40 := by rw [IntKind.wrap_i64]; omega
      clear CB
      go_upto_region 21 with fail
      have K : Below wr.heap.size wr wr.drew := (Below.refl _ _).drew
      go_region_held3 (fun w' => w'.cell? ⟨b9, j, none⟩ = some (.int .u64 (bh j)))
        (first
          | with_reducible exact (HCB.out.below K).at_ j jc
          | go_keep)
        (first
          | (go_at_call 7; (with_reducible refine (scaled_int (h_a.below K) (n := 40) (by decide) (by decide) (by decide)).mono ?_); rintro x' u1 ⟨z1, rfl, h_b, kb⟩; replace K := below_trans K kb; clear kb)
          | (go_at_call 8; (with_reducible refine (from_any (bh j) (by omega) (by omega)).mono ?_); rintro x' u2 ⟨z2, rfl, h_c, kb⟩; replace h_b := h_b.below kb; replace K := below_trans K kb; clear kb)
          | (go_at_call 6; (with_reducible refine (add_any h_b.arg h_c.arg (by decide) (by decide)).mono ?_); rintro x' u3 ⟨z3, rfl, h_d, kb⟩; clear h_b h_c; replace K := below_trans K kb; clear kb)
          | (go_at_call 5; (with_reducible refine (lround_3 (L.below (below_trans KW K)) v v0 v1 hv (e := e - 40) (more := false) (neg := neg) h_d.arg (by decide) (by omega) (by omega)).mono ?_); rintro x' u4 ⟨r3, rfl, N3, kb⟩; replace N3 := more_behind (fr := 23) (by decide) HA.out b0 b1 H1.out N3; subst N3; rw [HQ.out]; clear h_d; replace K := below_trans K kb; clear kb))
      all_goals (
        have KB := HCB.out.below K
        have KA := h_a.below K
        replace KW := below_trans KW K
        clear K hcell HCB h_a
        go_wp2
        go_roundw
        case rel => exact ⟨j + 1, by omega, by go_num, KB, KA, KW⟩
        case measure => simp [intOf]; omega)
    · obtain rfl : j = 4 := by omega
      go_wp2
      go_ret
      exact ⟨rfl, KW⟩

theorem imore_walk {w : World} (h : Lays w ∧ Brn w) (v : Int) (v0 : 0 ≤ v) (v1 : v < 256) (neg : Bool) {va : Value} {xs : List Int} (ha : Reads .u32 w va xs) (oa : Nt.Ok xs) (la : xs.length ≤ 70368744177664) (e : Int) (e0 : -32768 ≤ e) (e1 : e < 32768) :
    Calls Tryd.prog 3 #[.int .u8 v, .bool neg, va, .int .i16 e] w fun x w' => x = .returned (.bool true) ∧ Below w.heap.size w w' := by
  rcases (by omega : v % 4 = 0 ∨ v % 4 = 1 ∨ v % 4 = 2 ∨ v % 4 = 3) with k | k | k | k
  · exact imore_0 h.1 h.2 v v0 v1 k neg ha oa la e e0 e1
  · exact imore_1 h.1 h.2 v v0 v1 k neg ha oa la e e0 e1
  · exact imore_2 h.1 h.2 v v0 v1 k neg ha oa la e e0 e1
  · exact imore_3 h.1 h.2 v v0 v1 k neg ha oa la e e0 e1

end Go.Proofs.YtmmkdihhcmcjjabDoor
