/- nat.addTimes, nat.Mul -/
import Derived.Test.YtmpdkeafbjibpaaDoorTrim
import Derived.Test.YtmpdkeafbjibpaaDoorHalves
import Derived.Deep.RegionWith
namespace Go.Proofs.YtmpdkeafbjibpaaDoor
open Go.RowKit

theorem prod_bd {x y : Int} (hx : 0 ≤ x ∧ x < 4294967296) (hy : 0 ≤ y ∧ y < 4294967296) : 0 ≤ y * x ∧ y * x ≤ 18446744065119617025 := by
  refine ⟨Int.mul_nonneg hy.1 hx.1, ?_⟩
  have h1 : y * x ≤ 4294967295 * x := Int.mul_le_mul_of_nonneg_right (by omega) hx.1
  omega

/-- one round -/
theorem times_step {ys zs os : List Int} {off k : Nat} {c x : Int} (hk : off + k < zs.length) (hz : Nt.lb zs (off + k) = Nt.lb os (off + k))
    (h : Nt.vt zs (off + k) + c * Nt.pw (off + k) = Nt.vt os (off + k) + x * Nt.vt ys k * Nt.pw off) :
    Nt.vt (zs.set (off + k) ((Nt.lb ys k * x + Nt.lb zs (off + k) + c) % 4294967296)) (off + (k + 1)) + (Nt.lb ys k * x + Nt.lb zs (off + k) + c) / 4294967296 * Nt.pw (off + (k + 1)) = Nt.vt os (off + (k + 1)) + x * Nt.vt ys (k + 1) * Nt.pw off := by
  rw [← Nat.add_assoc, Nt.vt_succ, Nt.vt_set (Nat.le_refl _), Nt.lb_set_eq hk, Nt.vt_succ, Nt.vt_succ, Nt.pw_succ]
  have e : (Nt.lb ys k * x + Nt.lb zs (off + k) + c) % 4294967296 + 4294967296 * ((Nt.lb ys k * x + Nt.lb zs (off + k) + c) / 4294967296) = Nt.lb ys k * x + Nt.lb zs (off + k) + c := Int.emod_add_mul_ediv _ _
  generalize (Nt.lb ys k * x + Nt.lb zs (off + k) + c) % 4294967296 = r at *
  generalize (Nt.lb ys k * x + Nt.lb zs (off + k) + c) / 4294967296 = q at *
  have e2 : (r + 4294967296 * q) * Nt.pw (off + k) = (Nt.lb ys k * x + Nt.lb zs (off + k) + c) * Nt.pw (off + k) := by rw [e]
  rw [Int.add_mul, Int.add_mul, Int.add_mul, Int.mul_assoc 4294967296] at e2
  rw [Int.mul_left_comm q, Int.mul_add, Int.add_mul (x * Nt.vt ys k)]
  have e3 : x * (Nt.lb ys k * Nt.pw k) * Nt.pw off = Nt.lb ys k * x * Nt.pw (off + k) := by
    rw [Nt.pw_add, ← Int.mul_assoc, Int.mul_comm x, Int.mul_assoc, Int.mul_assoc, Int.mul_assoc, Int.mul_comm (Nt.pw k)]
  rw [e3, ← hz]
  generalize x * Nt.vt ys k * Nt.pw off = a0 at *
  generalize r * Nt.pw (off + k) = a1 at *
  generalize Nt.lb ys k * x * Nt.pw (off + k) = a2 at *
  generalize Nt.lb zs (off + k) * Nt.pw (off + k) = a3 at *
  generalize c * Nt.pw (off + k) = a4 at *
  generalize q * Nt.pw (off + k) = a5 at *
  omega

set_option maxHeartbeats 1000000 in
theorem times_any {w0 w : World} {ro bo : Option Addr} {rc bc g off : Nat} {ys os : List Int} {x : Int} (hb : Below w0.heap.size w0 w) (hcy : Cells .u32 w0 bo ys) (hyo : Nt.Ok ys) (hym : ys.length ≤ 1099511627776) (hg : w0.heap.size ≤ g)
    (hx : 0 ≤ x ∧ x < 4294967296) (hr : Row .u32 59 w g os) (hoo : Nt.Ok os) (hfit : off + ys.length ≤ os.length) (hro : 0 < ys.length → ro = some ⟨g, off, none⟩) :
    Calls Tryd.prog 42 #[.slice ro ys.length rc, .slice bo ys.length bc, .int .u32 x] w fun e w' => ∃ (c : Int) (zs : List Int), e = .returned (.int .u32 c) ∧ 0 ≤ c ∧ c < 4294967296 ∧ zs.length = os.length ∧ Nt.Ok zs ∧
      (∀ j, j < off ∨ off + ys.length ≤ j → Nt.lb zs j = Nt.lb os j) ∧ Nt.vt zs (off + ys.length) + c * Nt.pw (off + ys.length) = Nt.vt os (off + ys.length) + x * Nt.val ys * Nt.pw off ∧ Row .u32 59 w' g zs ∧ Below w0.heap.size w0 w' := by
  obtain ⟨hx0, hx1⟩ := hx
  go_enter Tryd.func42, Tryd.ntmps42
  go_wp2
  go_loopw [7, 12] (fun c i wr => ∃ (k : Nat) (q : Int) (zs : List Int), k ≤ ys.length ∧ i = .int .i64 k ∧ c = .int .u64 q ∧ 0 ≤ q ∧ q < 4294967296 ∧ zs.length = os.length ∧ Nt.Ok zs ∧ (∀ j, j < off ∨ off + k ≤ j → Nt.lb zs j = Nt.lb os j) ∧
      Row .u32 59 wr g zs ∧ Below w0.heap.size w0 wr ∧ Nt.vt zs (off + k) + q * Nt.pw (off + k) = Nt.vt os (off + k) + x * Nt.vt ys k * Nt.pw off) (fun _ i _ => ys.length - (intOf i).toNat)
  case atStart => exact ⟨0, 0, os, by omega, rfl, rfl, by omega, by omega, rfl, hoo, fun _ _ => rfl, hr, hb, by simp [Nt.vt]⟩
  case round =>
    obtain ⟨k, q, zs, hk, rfl, rfl, hq0, hq1, hzl, hzo, hsame, hrow, hbr, heq⟩ := hrel
    have Heq : Hid _ := heq
    have Hzl : Hid (zs.length = os.length) := hzl
    have Hs : Hid (∀ j, j < off ∨ off + k ≤ j → Nt.lb zs j = Nt.lb os j) := hsame
    clear heq hzl hsame hr hb
    by_cases hkl : k < ys.length
    · have hR := hro (by omega)
      subst hR
      obtain ⟨b1, o1, rfl, _, hc1⟩ := (hcy.below hbr) (by omega)
      have g1 := hc1 k hkl
      have g2 := hrow.cell (i := off + k) (by have := Hzl.out; omega)
      have hfz := hrow.frozen (off + k)
      have byk := hyo k
      obtain ⟨by0, by1⟩ := byk
      have bzk := hzo (off + k)
      obtain ⟨bz0, bz1⟩ := bzk
      obtain ⟨bp0, bp1⟩ := prod_bd ⟨hx0, hx1⟩ ⟨by0, by1⟩
      clear hc1 hcy
      go_wp2
      go_region
      all_goals go_wp2
      all_goals go_roundw
      all_goals first
        | exact ⟨k + 1, (Nt.lb ys k * x + Nt.lb zs (off + k) + q) / 4294967296, zs.set (off + k) ((Nt.lb ys k * x + Nt.lb zs (off + k) + q) % 4294967296), by omega, by go_num, rfl, by omega, by omega, by have := Hzl.out; simp [this], Nt.ok_set hzo (by omega), fun j hj => by
            rw [Nt.lb_set_ne (by omega)]; exact Hs.out j (by omega), hrow.set _ _, (hbr.setCell (p := ⟨g, off + k, none⟩) hg _).drew, times_step (by have := Hzl.out; omega) (Hs.out _ (by omega)) Heq.out⟩
        | (simp [intOf]; omega)
    · have hke : k = ys.length := by omega
      subst hke
      go_wp2
      go_ret
      exact ⟨q, zs, by simp, hq0, hq1, Hzl.out, hzo, Hs.out, Heq.out, hrow, hbr⟩

/-- one row of a product -/
theorem mul_step {xs ys zs os : List Int} {k : Nat} {c : Int} (hl : k + ys.length < zs.length) (hz : Nt.vt zs (k + ys.length) + c * Nt.pw (k + ys.length) = Nt.vt os (k + ys.length) + Nt.lb xs k * Nt.val ys * Nt.pw k)
    (ho : Nt.vt os (k + ys.length) = Nt.vt xs k * Nt.val ys) : Nt.vt (zs.set (k + ys.length) c) (k + 1 + ys.length) = Nt.vt xs (k + 1) * Nt.val ys := by
  rw [Nat.add_right_comm, Nt.vt_succ, Nt.vt_set (Nat.le_refl _), Nt.lb_set_eq hl, hz, ho, Nt.vt_succ, Int.add_mul, Int.mul_right_comm]

theorem mul_into {w' wr w3 : World} {g2 t P Q rc : Nat} {zs zs2 : List Int} (hrow : Row .u32 59 wr w'.heap.size zs) (hzo : Nt.Ok zs) (hzl : zs.length = P + Q) (ht : t < Q) (hb3 : Below wr.drew.heap.size wr.drew w3)
    (hg2 : wr.drew.heap.size ≤ g2) (hr2 : Row .u32 59 w3 g2 zs2) (ho2 : Nt.Ok zs2) (hm : zs2.length ≤ 2199023255552 ∧ P + Q ≤ 2199023255552) (hfit : Nt.val zs + Nt.val zs2 * Nt.pw t < Nt.pw (P + Q)) :
    Calls Tryd.prog 43 #[.slice (some ⟨w'.heap.size, t, none⟩) (P + Q - t) rc, .slice (some ⟨g2, 0, none⟩) zs2.length zs2.length] w3 fun e w5 => ∃ zs3 : List Int, e = .returned (.tuple #[]) ∧ zs3.length = P + Q ∧ Nt.Ok zs3 ∧
      Nt.val zs3 = Nt.val zs + Nt.val zs2 * Nt.pw t ∧ Row .u32 59 w5 w'.heap.size zs3 ∧ Below w'.heap.size wr w5 := by
  have hgt := hrow.lt
  have h9 : wr.drew.heap.size = wr.heap.size := rfl
  have hr3 : Row .u32 59 w3 w'.heap.size zs := hrow.keeps (below_trans (Below.refl _ _).drew hb3)
  refine (into_any (w := w3) (g := w'.heap.size) (off := t) (L := P + Q - t) (bs := zs2) (os := zs) hr3 hzo (by rw [hzl]; omega) (by rw [hzl]; exact hm.2) (fun _ => rfl) (Nat.le_refl _) (by unfold maxLen; omega) (fun _ => ⟨g2, 0, rfl, hr2.lt, fun i hi => by rw [Nat.zero_add]; exact hr2.cell hi⟩) ho2 (fun _ => away_some (by omega)) (by rw [hzl]; exact hfit)).mono ?_
  rintro e w4 ⟨zs3, rfl, h1, h2, h3, h4, h5⟩
  refine ⟨zs3, rfl, by rw [h1, hzl], h2, h3, h4, ?_⟩
  have hs := hb3.size
  exact ((Below.refl _ wr).drew.trans (hb3.mono (by omega))).trans (h5.below (Nat.le_refl _) (by omega))

set_option maxHeartbeats 8000000 in
theorem mul_from {N : Nat} (hI : MulOk N) {w : World} {va vb : Value} {n m : Int} {ka kb : Nat} (ha : Arg w va n ka) (hb : Arg w vb m kb) (hka : ka ≤ 549755813888) (hkb : kb ≤ 549755813888) (hN : ka ≤ N ∨ kb ≤ N) :
    Calls Tryd.prog 26 #[va, vb] w fun e w' => ∃ v, e = .returned v ∧ Num w.heap.size w' v (n * m) (ka + kb) ∧ Below w.heap.size w w' := by
  go_enter Tryd.func26, Tryd.ntmps26
  go_wp2_with fail
  refine (trim_arg ha).mono ?_
  rintro e w' ⟨rfl, ao, xs, rfl, hxk, hxm, hxc, hx, rfl⟩
  go_wp2_with fail
  refine (trim_arg hb).mono ?_
  rintro e w' ⟨rfl, bo, ys, rfl, hyk, hym, hyc, hy, rfl⟩
  clear ha hb
  by_cases hlt : ys.length < xs.length
  · skip
    go_wp2_with (at_make; refine wpList_make_row _ rfl _ _ 23 rfl 59 .u32 4 Tryd.underlying23 Tryd.infoU32 _ _ _ _ (ys.length + xs.length) (ys.length + xs.length) rfl rfl (by omega) (by omega) (Nat.le_refl _) (by omega) (by unfold maxLen; omega) ?_)
    intro w1 hr hbel hsz
    by_cases hs : ys.length ≤ 100
    · have hs1 : (ys.length : Int) ≤ 100 := by omega
      have hs2 : decide ((ys.length : Int) ≤ 100) = true := decide_eq_true hs1
      go_wp2
      go_loopw [30] (fun i wr => ∃ (k : Nat) (zs : List Int), k ≤ ys.length ∧ i = .int .i64 k ∧ zs.length = ys.length + xs.length ∧ Nt.Ok zs ∧ (∀ j, k + xs.length ≤ j → Nt.lb zs j = 0) ∧
          Row .u32 59 wr w'.heap.size zs ∧ Below w'.heap.size w' wr ∧ Nt.vt zs (k + xs.length) = Nt.vt ys k * Nt.val xs) (fun i _ => ys.length - (intOf i).toNat)
      case atStart => exact ⟨0, List.replicate (ys.length + xs.length) 0, by omega, rfl, by simp, Nt.ok_replicate _, fun j _ => Nt.lb_replicate _ _, hr, hbel, by
        rw [Nt.vt_cut (k := 0) (by omega) (fun i _ _ => Nt.lb_replicate _ _)]; simp [Nt.vt]⟩
      case round =>
        obtain ⟨k, zs, hk, rfl, hzl, hzo, hz0, hrow, hbr, heq⟩ := hrel
        have Heq : Hid _ := heq
        have Hzl : Hid (zs.length = ys.length + xs.length) := hzl
        have Hz : Hid (∀ j, k + xs.length ≤ j → Nt.lb zs j = 0) := hz0
        clear heq hzl hz0 hr hbel
        by_cases hkl : k < ys.length
        · obtain ⟨b1, o1, rfl, hb1, hc1⟩ := (hyc.below hbr) (by omega)
          have g1 := hc1 k hkl
          have bx := hy.1 k
          clear hc1 hyc
          have hbd : Below w'.heap.size w' wr.drew := hbr.drew
          have hrd : Row .u32 59 wr.drew w'.heap.size zs := hrow
          have hfit : k + xs.length ≤ zs.length := by have := Hzl.out; omega
          have i2 : (k : Int) + (xs.length : Int) < (ys.length : Int) + (xs.length : Int) := by omega
          have jw : IntKind.i64.wrap ((k : Int) + (xs.length : Int)) = (k : Int) + (xs.length : Int) := by rw [IntKind.wrap_i64]; omega
          have j1 : (0 : Int) ≤ (k : Int) + (xs.length : Int) := by omega
          have j3 : ¬ ys.length + xs.length = k := by omega
          have j4 : ((k : Int) + (xs.length : Int)).toNat = k + xs.length := by omega
          go_wp2
          go_region_with (go_at_call 42; refine (times_any hbd hxc hx.1 (by omega) (Nat.le_refl _) bx hrd hzo hfit (fun _ => rfl)).mono ?_; rintro e w3 ⟨c, zs', rfl, hc0, hc1, hzl', hzo', hsm, hv, hrow', hbr'⟩; have hfz := hrow'.frozen (k + xs.length); have hcl := hrow'.cell (i := k + xs.length) (by rw [hzl']; have := Hzl.out; omega); have HV := hide hv; have HSm := hide hsm; have HZl := hide hzl'; clear hv hsm hzl')
          all_goals go_wp2
          all_goals go_roundw
          all_goals first
            | exact ⟨k + 1, zs'.set (k + xs.length) c, by omega, by go_num, by rw [List.length_set, HZl.out, Hzl.out], Nt.ok_set hzo' ⟨hc0, hc1⟩, fun j hj => by
                rw [Nt.lb_set_ne (by omega), HSm.out j (by omega)]; exact Hz.out j (by omega), hrow'.set _ _, hbr'.setCell (p := ⟨w'.heap.size, k + xs.length, none⟩) (Nat.le_refl _) _, mul_step (by rw [HZl.out, Hzl.out]; omega) HV.out Heq.out⟩
            | (simp [intOf]; omega)
        · have hke : k = ys.length := by omega
          subst hke
          have hz2 : zs.length = ys.length + xs.length := Hzl.out
          have hfin : Nt.val zs = Nt.val ys * Nt.val xs := by
            unfold Nt.val
            rw [hz2]
            exact Heq.out
          have ht := trim_row (B := w'.heap.size) (cap := zs.length) hrow (Nat.le_refl _) (Nat.le_refl _) (by rw [hz2]; unfold maxLen; omega) hzo
          rw [hz2, hfin] at ht
          clear hz2 hfin Heq
          go_wp2_with fail
          refine ht.mono ?_
          rintro e w3 ⟨rfl, v, rfl, hnum⟩
          go_wp2
          go_ret
          exact ⟨_, rfl, by rw [Int.mul_comm (Nt.val xs)]; exact hnum.mono (by omega), hbr⟩
    · obtain ⟨pb, po, rfl⟩ : ∃ b o, bo = some ⟨b, o, none⟩ := by
        obtain ⟨b, o, h, _⟩ := hyc (by omega)
        exact ⟨b, o, h⟩
      obtain ⟨qb, qo, rfl⟩ : ∃ b o, ao = some ⟨b, o, none⟩ := by
        obtain ⟨b, o, h, _⟩ := hxc (by omega)
        exact ⟨b, o, h⟩
      have hs1 : ¬ (ys.length : Int) ≤ 100 := by omega
      have hs2 : decide ((ys.length : Int) ≤ 100) = false := decide_eq_false hs1
      go_wp2
      go_loopw [7] (fun i wr => ∃ (t : Nat) (zs : List Int), t < xs.length + ys.length ∧ i = .int .i64 t ∧ zs.length = ys.length + xs.length ∧ Nt.Ok zs ∧
          Row .u32 59 wr w'.heap.size zs ∧ Below w'.heap.size w' wr ∧ Nt.val zs = Nt.val ys * Nt.vt xs t) (fun i _ => xs.length - (intOf i).toNat)
      case atStart => exact ⟨0, List.replicate (ys.length + xs.length) 0, by omega, rfl, by simp, Nt.ok_replicate _, hr, hbel, by rw [Nt.val_replicate]; simp [Nt.vt]⟩
      case round =>
        obtain ⟨t, zs, ht, rfl, hzl, hzo, hrow, hbr, heq⟩ := hrel
        clear hr hbel
        by_cases htl : t < xs.length
        · obtain ⟨e1, he1⟩ : ∃ e1, e1 = min (t + ys.length) xs.length := ⟨_, rfl⟩
          have hpl : ((xs.drop t).take (e1 - t)).length = e1 - t := by rw [List.length_take, List.length_drop]; omega
          have hqc : Cells .u32 wr.drew (some ⟨qb, qo + t, none⟩) ((xs.drop t).take (e1 - t)) := (cells_drop (hxc.below hbr.drew) t).take (by rw [List.length_drop]; omega)
          have hpiece : Nt.val zs + Nt.val ys * Nt.val ((xs.drop t).take (e1 - t)) * Nt.pw t = Nt.val ys * Nt.vt xs (t + ys.length) := by
            have h1 := Nt.vt_piece (xs := xs) (at' := t) (n := e1 - t) (by omega)
            have h2 : Nt.vt xs (t + ys.length) = Nt.vt xs (t + (e1 - t)) := by
              by_cases h : t + ys.length ≤ xs.length
              · rw [show t + (e1 - t) = t + ys.length by omega]
              · rw [Nt.vt_out (by omega), Nt.vt_out (by omega)]
            rw [h2, h1, heq]
            grind
          have hle : Nt.val ys * Nt.vt xs (t + ys.length) < Nt.pw (ys.length + xs.length) := by
            have h1 : Nt.vt xs (t + ys.length) ≤ Nt.val xs := by
              by_cases h : t + ys.length ≤ xs.length
              · have h2 := Nt.vt_drop xs (t + ys.length) (xs.length - (t + ys.length))
                rw [show t + ys.length + (xs.length - (t + ys.length)) = xs.length by omega] at h2
                have h3 : 0 ≤ Nt.pw (t + ys.length) * Nt.vt (xs.drop (t + ys.length)) (xs.length - (t + ys.length)) := Int.mul_nonneg (by have := Nt.pw_pos (t + ys.length); omega) (Nt.vt_bounds (Nt.ok_drop hx.1 _) _).1
                unfold Nt.val
                omega
              · rw [Nt.vt_out (by omega)]; exact Int.le_refl _
            have h2 : Nt.val ys * Nt.vt xs (t + ys.length) ≤ Nt.val ys * Nt.val xs := Int.mul_le_mul_of_nonneg_left h1 (Nt.val_nonneg hy.1)
            have h3 := Nt.prod_lt hy.1 hx.1
            omega
          have hgt := hrow.lt
          have HP := hide hpiece
          have HL := hide hle
          have HPL := hide hpl
          have HZL := hide hzl
          have He := hide he1
          have jw : IntKind.i64.wrap ((t : Int) + (ys.length : Int)) = (t : Int) + (ys.length : Int) := by rw [IntKind.wrap_i64]; omega
          have k0 : (if (xs.length : Int) < (t : Int) + (ys.length : Int) then (xs.length : Int) else (t : Int) + (ys.length : Int)) = (e1 : Int) := by split <;> omega
          have k1 : t ≤ e1 := by omega
          have k2 : e1 ≤ xs.length := by omega
          have k3 : (t : Int) ≤ (e1 : Int) := by omega
          have k4 : (e1 : Int) ≤ (xs.length : Int) := by omega
          have k5 : (0 : Int) ≤ (t : Int) := by omega
          have k6 : (t : Int) ≤ (ys.length : Int) + (xs.length : Int) := by omega
          have k7 : ¬ ys.length + xs.length = t := by omega
          have k8 : ¬ xs.length = t := by omega
          have k9 : t ≤ ys.length + xs.length := by omega
          have k10 : (0 : Int) ≤ (e1 : Int) := by omega
          have hpd := hyc.below hbr.drew
          have hHalf := halves_any hI (w := wr.drew) (cb := xs.length - t) (ys := (xs.drop t).take (e1 - t)) (Nat.le_refl _) hym (by rw [hpl]; omega) (by omega) hpd hqc hy.1 (Nt.ok_take (Nt.ok_drop hx.1 _) _) (by rw [hpl]; omega) (by omega) (by rw [hpl]; omega) (by omega) (by omega)
          rw [hpl] at hHalf
          clear hpiece hle hpl hzl heq he1
          go_wp2
          go_region_held3 (fun _ => True) (trivial) (first
            | (go_at_call 44
               with_reducible refine hHalf.mono ?_
               rintro e w3 ⟨g2, zs2, rfl, hg2, hr2, ho2, hl2, hv2, hb3⟩
               have hInto := mul_into (rc := ys.length + xs.length - t) hrow hzo HZL.out htl hb3 hg2 hr2 ho2 ⟨by rw [hl2]; omega, by omega⟩ (by rw [hv2, HP.out]; exact HL.out)
               clear hl2)
            | (go_at_call 43
               with_reducible refine hInto.mono ?_
               rintro e w4 ⟨zs3, rfl, hl3, ho3, hv3, hr3, hbl3⟩))
          all_goals go_wp2
          all_goals go_roundw
          all_goals first
            | exact ⟨t + ys.length, zs3, by omega, by go_num, hl3, ho3, hr3, hbr.trans hbl3, by rw [hv3, hv2, HP.out]⟩
            | (simp [intOf]; omega)
        · have hfin : Nt.val zs = Nt.val ys * Nt.val xs := by rw [heq, Nt.vt_out (by omega)]
          have ht := trim_row (B := w'.heap.size) (cap := zs.length) hrow (Nat.le_refl _) (Nat.le_refl _) (by rw [hzl]; unfold maxLen; omega) hzo
          rw [hzl, hfin] at ht
          clear hzl hfin heq
          go_wp2_with fail
          refine ht.mono ?_
          rintro e w3 ⟨rfl, v, rfl, hnum⟩
          go_wp2
          go_ret
          exact ⟨_, rfl, by rw [Int.mul_comm (Nt.val xs)]; exact hnum.mono (by omega), hbr⟩
  · skip
    go_wp2_with (at_make; refine wpList_make_row _ rfl _ _ 23 rfl 59 .u32 4 Tryd.underlying23 Tryd.infoU32 _ _ _ _ (xs.length + ys.length) (xs.length + ys.length) rfl rfl (by omega) (by omega) (Nat.le_refl _) (by omega) (by unfold maxLen; omega) ?_)
    intro w1 hr hbel hsz
    by_cases hs : xs.length ≤ 100
    · have hs1 : (xs.length : Int) ≤ 100 := by omega
      have hs2 : decide ((xs.length : Int) ≤ 100) = true := decide_eq_true hs1
      go_wp2
      go_loopw [30] (fun i wr => ∃ (k : Nat) (zs : List Int), k ≤ xs.length ∧ i = .int .i64 k ∧ zs.length = xs.length + ys.length ∧ Nt.Ok zs ∧ (∀ j, k + ys.length ≤ j → Nt.lb zs j = 0) ∧
          Row .u32 59 wr w'.heap.size zs ∧ Below w'.heap.size w' wr ∧ Nt.vt zs (k + ys.length) = Nt.vt xs k * Nt.val ys) (fun i _ => xs.length - (intOf i).toNat)
      case atStart => exact ⟨0, List.replicate (xs.length + ys.length) 0, by omega, rfl, by simp, Nt.ok_replicate _, fun j _ => Nt.lb_replicate _ _, hr, hbel, by
        rw [Nt.vt_cut (k := 0) (by omega) (fun i _ _ => Nt.lb_replicate _ _)]; simp [Nt.vt]⟩
      case round =>
        obtain ⟨k, zs, hk, rfl, hzl, hzo, hz0, hrow, hbr, heq⟩ := hrel
        have Heq : Hid _ := heq
        have Hzl : Hid (zs.length = xs.length + ys.length) := hzl
        have Hz : Hid (∀ j, k + ys.length ≤ j → Nt.lb zs j = 0) := hz0
        clear heq hzl hz0 hr hbel
        by_cases hkl : k < xs.length
        · obtain ⟨b1, o1, rfl, hb1, hc1⟩ := (hxc.below hbr) (by omega)
          have g1 := hc1 k hkl
          have bx := hx.1 k
          clear hc1 hxc
          have hbd : Below w'.heap.size w' wr.drew := hbr.drew
          have hrd : Row .u32 59 wr.drew w'.heap.size zs := hrow
          have hfit : k + ys.length ≤ zs.length := by have := Hzl.out; omega
          have i2 : (k : Int) + (ys.length : Int) < (xs.length : Int) + (ys.length : Int) := by omega
          have jw : IntKind.i64.wrap ((k : Int) + (ys.length : Int)) = (k : Int) + (ys.length : Int) := by rw [IntKind.wrap_i64]; omega
          have j1 : (0 : Int) ≤ (k : Int) + (ys.length : Int) := by omega
          have j3 : ¬ xs.length + ys.length = k := by omega
          have j4 : ((k : Int) + (ys.length : Int)).toNat = k + ys.length := by omega
          go_wp2
          go_region_with (go_at_call 42; refine (times_any hbd hyc hy.1 (by omega) (Nat.le_refl _) bx hrd hzo hfit (fun _ => rfl)).mono ?_; rintro e w3 ⟨c, zs', rfl, hc0, hc1, hzl', hzo', hsm, hv, hrow', hbr'⟩; have hfz := hrow'.frozen (k + ys.length); have hcl := hrow'.cell (i := k + ys.length) (by rw [hzl']; have := Hzl.out; omega); have HV := hide hv; have HSm := hide hsm; have HZl := hide hzl'; clear hv hsm hzl')
          all_goals go_wp2
          all_goals go_roundw
          all_goals first
            | exact ⟨k + 1, zs'.set (k + ys.length) c, by omega, by go_num, by rw [List.length_set, HZl.out, Hzl.out], Nt.ok_set hzo' ⟨hc0, hc1⟩, fun j hj => by
                rw [Nt.lb_set_ne (by omega), HSm.out j (by omega)]; exact Hz.out j (by omega), hrow'.set _ _, hbr'.setCell (p := ⟨w'.heap.size, k + ys.length, none⟩) (Nat.le_refl _) _, mul_step (by rw [HZl.out, Hzl.out]; omega) HV.out Heq.out⟩
            | (simp [intOf]; omega)
        · have hke : k = xs.length := by omega
          subst hke
          have hz2 : zs.length = xs.length + ys.length := Hzl.out
          have hfin : Nt.val zs = Nt.val xs * Nt.val ys := by
            unfold Nt.val
            rw [hz2]
            exact Heq.out
          have ht := trim_row (B := w'.heap.size) (cap := zs.length) hrow (Nat.le_refl _) (Nat.le_refl _) (by rw [hz2]; unfold maxLen; omega) hzo
          rw [hz2, hfin] at ht
          clear hz2 hfin Heq
          go_wp2_with fail
          refine ht.mono ?_
          rintro e w3 ⟨rfl, v, rfl, hnum⟩
          go_wp2
          go_ret
          exact ⟨_, rfl, hnum.mono (by omega), hbr⟩
    · obtain ⟨pb, po, rfl⟩ : ∃ b o, ao = some ⟨b, o, none⟩ := by
        obtain ⟨b, o, h, _⟩ := hxc (by omega)
        exact ⟨b, o, h⟩
      obtain ⟨qb, qo, rfl⟩ : ∃ b o, bo = some ⟨b, o, none⟩ := by
        obtain ⟨b, o, h, _⟩ := hyc (by omega)
        exact ⟨b, o, h⟩
      have hs1 : ¬ (xs.length : Int) ≤ 100 := by omega
      have hs2 : decide ((xs.length : Int) ≤ 100) = false := decide_eq_false hs1
      go_wp2
      go_loopw [7] (fun i wr => ∃ (t : Nat) (zs : List Int), t < ys.length + xs.length ∧ i = .int .i64 t ∧ zs.length = xs.length + ys.length ∧ Nt.Ok zs ∧
          Row .u32 59 wr w'.heap.size zs ∧ Below w'.heap.size w' wr ∧ Nt.val zs = Nt.val xs * Nt.vt ys t) (fun i _ => ys.length - (intOf i).toNat)
      case atStart => exact ⟨0, List.replicate (xs.length + ys.length) 0, by omega, rfl, by simp, Nt.ok_replicate _, hr, hbel, by rw [Nt.val_replicate]; simp [Nt.vt]⟩
      case round =>
        obtain ⟨t, zs, ht, rfl, hzl, hzo, hrow, hbr, heq⟩ := hrel
        clear hr hbel
        by_cases htl : t < ys.length
        · obtain ⟨e1, he1⟩ : ∃ e1, e1 = min (t + xs.length) ys.length := ⟨_, rfl⟩
          have hpl : ((ys.drop t).take (e1 - t)).length = e1 - t := by rw [List.length_take, List.length_drop]; omega
          have hqc : Cells .u32 wr.drew (some ⟨qb, qo + t, none⟩) ((ys.drop t).take (e1 - t)) := (cells_drop (hyc.below hbr.drew) t).take (by rw [List.length_drop]; omega)
          have hpiece : Nt.val zs + Nt.val xs * Nt.val ((ys.drop t).take (e1 - t)) * Nt.pw t = Nt.val xs * Nt.vt ys (t + xs.length) := by
            have h1 := Nt.vt_piece (xs := ys) (at' := t) (n := e1 - t) (by omega)
            have h2 : Nt.vt ys (t + xs.length) = Nt.vt ys (t + (e1 - t)) := by
              by_cases h : t + xs.length ≤ ys.length
              · rw [show t + (e1 - t) = t + xs.length by omega]
              · rw [Nt.vt_out (by omega), Nt.vt_out (by omega)]
            rw [h2, h1, heq]
            grind
          have hle : Nt.val xs * Nt.vt ys (t + xs.length) < Nt.pw (xs.length + ys.length) := by
            have h1 : Nt.vt ys (t + xs.length) ≤ Nt.val ys := by
              by_cases h : t + xs.length ≤ ys.length
              · have h2 := Nt.vt_drop ys (t + xs.length) (ys.length - (t + xs.length))
                rw [show t + xs.length + (ys.length - (t + xs.length)) = ys.length by omega] at h2
                have h3 : 0 ≤ Nt.pw (t + xs.length) * Nt.vt (ys.drop (t + xs.length)) (ys.length - (t + xs.length)) := Int.mul_nonneg (by have := Nt.pw_pos (t + xs.length); omega) (Nt.vt_bounds (Nt.ok_drop hy.1 _) _).1
                unfold Nt.val
                omega
              · rw [Nt.vt_out (by omega)]; exact Int.le_refl _
            have h2 : Nt.val xs * Nt.vt ys (t + xs.length) ≤ Nt.val xs * Nt.val ys := Int.mul_le_mul_of_nonneg_left h1 (Nt.val_nonneg hx.1)
            have h3 := Nt.prod_lt hx.1 hy.1
            omega
          have hgt := hrow.lt
          have HP := hide hpiece
          have HL := hide hle
          have HPL := hide hpl
          have HZL := hide hzl
          have He := hide he1
          have jw : IntKind.i64.wrap ((t : Int) + (xs.length : Int)) = (t : Int) + (xs.length : Int) := by rw [IntKind.wrap_i64]; omega
          have k0 : (if (ys.length : Int) < (t : Int) + (xs.length : Int) then (ys.length : Int) else (t : Int) + (xs.length : Int)) = (e1 : Int) := by split <;> omega
          have k1 : t ≤ e1 := by omega
          have k2 : e1 ≤ ys.length := by omega
          have k3 : (t : Int) ≤ (e1 : Int) := by omega
          have k4 : (e1 : Int) ≤ (ys.length : Int) := by omega
          have k5 : (0 : Int) ≤ (t : Int) := by omega
          have k6 : (t : Int) ≤ (xs.length : Int) + (ys.length : Int) := by omega
          have k7 : ¬ xs.length + ys.length = t := by omega
          have k8 : ¬ ys.length = t := by omega
          have k9 : t ≤ xs.length + ys.length := by omega
          have k10 : (0 : Int) ≤ (e1 : Int) := by omega
          have hpd := hxc.below hbr.drew
          have hHalf := halves_any hI (w := wr.drew) (cb := ys.length - t) (ys := (ys.drop t).take (e1 - t)) (Nat.le_refl _) hxm (by rw [hpl]; omega) (by omega) hpd hqc hx.1 (Nt.ok_take (Nt.ok_drop hy.1 _) _) (by rw [hpl]; omega) (by omega) (by rw [hpl]; omega) (by omega) (by omega)
          rw [hpl] at hHalf
          clear hpiece hle hpl hzl heq he1
          go_wp2
          go_region_held3 (fun _ => True) (trivial) (first
            | (go_at_call 44
               with_reducible refine hHalf.mono ?_
               rintro e w3 ⟨g2, zs2, rfl, hg2, hr2, ho2, hl2, hv2, hb3⟩
               have hInto := mul_into (rc := xs.length + ys.length - t) hrow hzo HZL.out htl hb3 hg2 hr2 ho2 ⟨by rw [hl2]; omega, by omega⟩ (by rw [hv2, HP.out]; exact HL.out)
               clear hl2)
            | (go_at_call 43
               with_reducible refine hInto.mono ?_
               rintro e w4 ⟨zs3, rfl, hl3, ho3, hv3, hr3, hbl3⟩))
          all_goals go_wp2
          all_goals go_roundw
          all_goals first
            | exact ⟨t + xs.length, zs3, by omega, by go_num, hl3, ho3, hr3, hbr.trans hbl3, by rw [hv3, hv2, HP.out]⟩
            | (simp [intOf]; omega)
        · have hfin : Nt.val zs = Nt.val xs * Nt.val ys := by rw [heq, Nt.vt_out (by omega)]
          have ht := trim_row (B := w'.heap.size) (cap := zs.length) hrow (Nat.le_refl _) (Nat.le_refl _) (by rw [hzl]; unfold maxLen; omega) hzo
          rw [hzl, hfin] at ht
          clear hzl hfin heq
          go_wp2_with fail
          refine ht.mono ?_
          rintro e w3 ⟨rfl, v, rfl, hnum⟩
          go_wp2
          go_ret
          exact ⟨_, rfl, hnum.mono (by omega), hbr⟩

theorem mul_ok (N : Nat) : MulOk N := by
  induction N with
  | zero => intro _ _ _ _ _ _ _ _ _ _ _ h; omega
  | succ N ih => intro w va vb n m ka kb ha hb hka hkb h; exact mul_from ih ha hb hka hkb (by omega)

theorem mul_any {w : World} {va vb : Value} {n m : Int} {ka kb : Nat} (ha : Arg w va n ka) (hb : Arg w vb m kb) (hka : ka ≤ 549755813888) (hkb : kb ≤ 549755813888) :
    Calls Tryd.prog 26 #[va, vb] w fun e w' => ∃ v, e = .returned v ∧ Num w.heap.size w' v (n * m) (ka + kb) ∧ Below w.heap.size w w' :=
  mul_ok (ka + 1) w va vb n m ka kb ha hb hka hkb (by omega)

end Go.Proofs.YtmpdkeafbjibpaaDoor
