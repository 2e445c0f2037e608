/- quot.lessen, quot.addBack, quot.takeOff -/
import Derived.Test.YtmpdkeafbjibpaaDoorOnly
import Derived.Test.YtmpdkeafbjibpaaDoorOffMath
import Derived.Deep.RegionWith
namespace Go.Proofs.YtmpdkeafbjibpaaDoor
open Go.RowKit

theorem prod_bd2 {x y : Int} (hx : 0 ≤ x ∧ x < 4294967296) (hy : 0 ≤ y ∧ y < 4294967296) : 0 ≤ y * x ∧ y * x ≤ 18446744065119617025 := by
  refine ⟨Int.mul_nonneg hy.1 hx.1, ?_⟩
  have h1 : y * x ≤ 4294967295 * x := Int.mul_le_mul_of_nonneg_right (by omega) hx.1
  omega
theorem xor_ones (n : Nat) (h : n < 4294967296) : 4294967295 ^^^ n = 4294967295 - n := by
  have e : (BitVec.allOnes 32 ^^^ BitVec.ofNat 32 n).toNat = (~~~ BitVec.ofNat 32 n).toNat := by rw [BitVec.allOnes_xor]
  rw [BitVec.toNat_xor, BitVec.toNat_not, BitVec.toNat_allOnes, BitVec.toNat_ofNat, Nat.mod_eq_of_lt (by omega)] at e
  simpa using e
theorem not32 {y : Int} (h0 : 0 ≤ y) (h1 : y < 4294967296) : bits BinOp.xor IntKind.u32 (if IntKind.u32.signed = true then -1 else IntKind.u32.max) y = 4294967295 - y := by
  obtain ⟨n, rfl⟩ := Int.eq_ofNat_of_zero_le h0
  have e : (if IntKind.u32.signed = true then (-1 : Int) else IntKind.u32.max) = ((4294967295 : Nat) : Int) := by decide
  rw [e, u32_xor_nat _ _ (by omega) (by omega), xor_ones n (by omega)]
  omega

set_option maxHeartbeats 2000000 in
theorem lessen_any {w : World} {ro bo : Option Addr} {rc bc g off L : Nat} {vs os : List Int} {x : Int} (hr : Row .u32 59 w g os) (hoo : Nt.Ok os) (hL : vs.length = L) (hfit : off + L ≤ os.length) (hro : 0 < L → ro = some ⟨g, off, none⟩)
    (hvc : Cells .u32 w bo vs) (hvo : Nt.Ok vs) (haw : 0 < vs.length → Away g bo) (hm : L ≤ 2199023255552) (hx : 0 ≤ x ∧ x < 4294967296) :
    Calls Tryd.prog 83 #[.slice ro L rc, .slice bo L bc, .int .u64 x] w fun e w' => ∃ (c : Int) (zs : List Int), e = .returned (.int .u32 c) ∧ 0 ≤ c ∧ c < 4294967296 ∧ zs.length = os.length ∧ Nt.Ok zs ∧
      (∀ j, j < off ∨ off + L ≤ j → Nt.lb zs j = Nt.lb os j) ∧ Nt.vt zs (off + L) - c * Nt.pw (off + L) = Nt.vt os (off + L) - x * Nt.val vs * Nt.pw off ∧ Row .u32 59 w' g zs ∧ Only g w w' := by
  obtain ⟨hx0, hx1⟩ := hx
  have HL := hide hL
  clear hL
  go_enter Tryd.func83, Tryd.ntmps83
  go_wp2
  go_loopw [7, 11] (fun c i wr => ∃ (k : Nat) (q : Int) (zs : List Int), k ≤ L ∧ i = .int .i64 k ∧ c = .int .u64 q ∧ 0 ≤ q ∧ q < 4294967296 ∧ zs.length = os.length ∧ Nt.Ok zs ∧ (∀ j, j < off ∨ off + k ≤ j → Nt.lb zs j = Nt.lb os j) ∧
      Row .u32 59 wr g zs ∧ Only g w wr ∧ Nt.vt zs (off + k) - q * Nt.pw (off + k) = Nt.vt os (off + k) - x * Nt.vt vs k * Nt.pw off) (fun _ i _ => L - (intOf i).toNat)
  case atStart => exact ⟨0, 0, os, by omega, rfl, rfl, by omega, by omega, rfl, hoo, fun _ _ => rfl, hr, Only.refl _ _, by simp [Nt.vt]⟩
  case round =>
    obtain ⟨k, q, zs, hk, rfl, rfl, hq0, hq1, hzl, hzo, hsame, hrow, hbr, heq⟩ := hrel
    have Heq := hide heq
    have Hzl := hide hzl
    have Hs := hide hsame
    clear heq hzl hsame hr
    by_cases hkl : k < L
    · have hR := hro (by omega)
      subst hR
      obtain ⟨b1, o1, rfl, _, hc1⟩ := (hbr.cells hvc haw) (by rw [HL.out]; omega)
      have g1 := hc1 k (by rw [HL.out]; omega)
      have g2 := hrow.cell (i := off + k) (by have := Hzl.out; omega)
      have hfz := hrow.frozen (off + k)
      obtain ⟨by0, by1⟩ := hvo k
      obtain ⟨bz0, bz1⟩ := hzo (off + k)
      obtain ⟨bp0, bp1⟩ := prod_bd2 ⟨hx0, hx1⟩ ⟨by0, by1⟩
      clear hc1
      have n1 := not32 bz0 bz1
      have n2 := not32 (y := (q + (Nt.lb vs k * x + (4294967295 - Nt.lb zs (off + k)))) % 4294967296) (by omega) (by omega)
      go_wp2
      go_region
      all_goals go_wp2
      all_goals go_roundw
      all_goals first
        | exact ⟨k + 1, (q + (Nt.lb vs k * x + (4294967295 - Nt.lb zs (off + k)))) / 4294967296, zs.set (off + k) (4294967295 - (q + (Nt.lb vs k * x + (4294967295 - Nt.lb zs (off + k)))) % 4294967296), by omega, by go_num, rfl, by omega, by omega, by have := Hzl.out; simp [this], Nt.ok_set hzo (by omega), fun j hj => by
            rw [Nt.lb_set_ne (by omega)]; exact Hs.out j (by omega), hrow.set _ _, hbr.drew.set _ _, Nt.less_step (by have := Hzl.out; omega) (Hs.out _ (by omega)) rfl Heq.out⟩
        | (simp [intOf]; omega)
    · have hke : k = L := by omega
      have hv : Nt.vt zs (off + L) - q * Nt.pw (off + L) = Nt.vt os (off + L) - x * Nt.val vs * Nt.pw off := by
        have h := Heq.out
        rw [hke, Nt.vt_out (xs := vs) (by rw [HL.out]; omega)] at h
        exact h
      have HV := hide hv
      have HS0 : Hid (∀ j, j < off ∨ off + L ≤ j → Nt.lb zs j = Nt.lb os j) := by
        have h := Hs.out
        rw [hke] at h
        exact h
      clear hv Heq Hs
      subst hke
      go_wp2
      go_ret
      exact ⟨q, zs, by simp, hq0, hq1, Hzl.out, hzo, HS0.out, HV.out, hrow, hbr⟩

set_option maxHeartbeats 2000000 in
theorem addBack_any {w : World} {ro bo : Option Addr} {rc bc g off L : Nat} {vs os : List Int} {x : Int} (hr : Row .u32 59 w g os) (hoo : Nt.Ok os) (hL : vs.length = L) (hfit : off + L ≤ os.length) (hro : 0 < L → ro = some ⟨g, off, none⟩)
    (hvc : Cells .u32 w bo vs) (hvo : Nt.Ok vs) (haw : 0 < vs.length → Away g bo) (hm : L ≤ 2199023255552) (hx : 0 ≤ x ∧ x < 4294967296) :
    Calls Tryd.prog 84 #[.slice ro L rc, .slice bo L bc, .int .u64 x] w fun e w' => ∃ (c : Int) (zs : List Int), e = .returned (.tuple #[]) ∧ 0 ≤ c ∧ c < 4294967296 ∧ zs.length = os.length ∧ Nt.Ok zs ∧
      (∀ j, j < off ∨ off + L ≤ j → Nt.lb zs j = Nt.lb os j) ∧ Nt.vt zs (off + L) + c * Nt.pw (off + L) = Nt.vt os (off + L) + x * Nt.val vs * Nt.pw off ∧ Row .u32 59 w' g zs ∧ Only g w w' := by
  obtain ⟨hx0, hx1⟩ := hx
  have HL := hide hL
  clear hL
  go_enter Tryd.func84, Tryd.ntmps84
  go_wp2
  go_loopw [6, 10] (fun c i wr => ∃ (k : Nat) (q : Int) (zs : List Int), k ≤ L ∧ i = .int .i64 k ∧ c = .int .u64 q ∧ 0 ≤ q ∧ q < 4294967296 ∧ zs.length = os.length ∧ Nt.Ok zs ∧ (∀ j, j < off ∨ off + k ≤ j → Nt.lb zs j = Nt.lb os j) ∧
      Row .u32 59 wr g zs ∧ Only g w wr ∧ Nt.vt zs (off + k) + q * Nt.pw (off + k) = Nt.vt os (off + k) + x * Nt.vt vs k * Nt.pw off) (fun _ i _ => L - (intOf i).toNat)
  case atStart => exact ⟨0, 0, os, by omega, rfl, rfl, by omega, by omega, rfl, hoo, fun _ _ => rfl, hr, Only.refl _ _, by simp [Nt.vt]⟩
  case round =>
    obtain ⟨k, q, zs, hk, rfl, rfl, hq0, hq1, hzl, hzo, hsame, hrow, hbr, heq⟩ := hrel
    have Heq := hide heq
    have Hzl := hide hzl
    have Hs := hide hsame
    clear heq hzl hsame hr
    by_cases hkl : k < L
    · have hR := hro (by omega)
      subst hR
      obtain ⟨b1, o1, rfl, _, hc1⟩ := (hbr.cells hvc haw) (by rw [HL.out]; omega)
      have g1 := hc1 k (by rw [HL.out]; omega)
      have g2 := hrow.cell (i := off + k) (by have := Hzl.out; omega)
      have hfz := hrow.frozen (off + k)
      obtain ⟨by0, by1⟩ := hvo k
      obtain ⟨bz0, bz1⟩ := hzo (off + k)
      obtain ⟨bp0, bp1⟩ := prod_bd2 ⟨hx0, hx1⟩ ⟨by0, by1⟩
      clear hc1
      go_wp2
      go_region
      all_goals go_wp2
      all_goals go_roundw
      all_goals first
        | exact ⟨k + 1, (q + (Nt.lb vs k * x + Nt.lb zs (off + k))) / 4294967296, zs.set (off + k) ((q + (Nt.lb vs k * x + Nt.lb zs (off + k))) % 4294967296), by omega, by go_num, rfl, by omega, by omega, by have := Hzl.out; simp [this], Nt.ok_set hzo (by omega), fun j hj => by
            rw [Nt.lb_set_ne (by omega)]; exact Hs.out j (by omega), hrow.set _ _, hbr.drew.set _ _, Nt.back_step (by have := Hzl.out; omega) (Hs.out _ (by omega)) rfl Heq.out⟩
        | (simp [intOf]; omega)
    · have hke : k = L := by omega
      have hv : Nt.vt zs (off + L) + q * Nt.pw (off + L) = Nt.vt os (off + L) + x * Nt.val vs * Nt.pw off := by
        have h := Heq.out
        rw [hke, Nt.vt_out (xs := vs) (by rw [HL.out]; omega)] at h
        exact h
      have HV := hide hv
      have HS0 : Hid (∀ j, j < off ∨ off + L ≤ j → Nt.lb zs j = Nt.lb os j) := by
        have h := Hs.out
        rw [hke] at h
        exact h
      clear hv Heq Hs
      subst hke
      go_wp2
      go_end0
      exact ⟨q, zs, by simp, hq0, hq1, Hzl.out, hzo, HS0.out, HV.out, hrow, hbr⟩

set_option maxHeartbeats 2000000 in
theorem takeOff_yes {w : World} {bo : Option Addr} {rc bc g off L : Nat} {vs os : List Int} {x : Int} (hr : Row .u32 59 w g os) (hoo : Nt.Ok os) (hL : vs.length = L) (hfit : off + L < os.length) (hrc : L + 1 ≤ rc)
    (hvc : Cells .u32 w bo vs) (hvo : Nt.Ok vs) (haw : 0 < vs.length → Away g bo) (hm : L ≤ 2199023255552) (hx : 0 ≤ x ∧ x < 4294967296) (hge : x * Nt.val vs * Nt.pw off ≤ Nt.vt os (off + L + 1) - Nt.vt os off) :
    Calls Tryd.prog 73 #[.slice (some ⟨g, off, none⟩) (L + 1) rc, .slice bo L bc, .int .u64 x] w fun e w' => ∃ zs : List Int, e = .returned (.bool true) ∧ zs.length = os.length ∧ Nt.Ok zs ∧
      (∀ j, j < off ∨ off + L + 1 ≤ j → Nt.lb zs j = Nt.lb os j) ∧ Nt.vt zs (off + L + 1) = Nt.vt os (off + L + 1) - x * Nt.val vs * Nt.pw off ∧ Row .u32 59 w' g zs ∧ Only g w w' := by
  have i1 : L ≤ rc := by omega
  have HG := hide hge
  clear hge
  go_enter Tryd.func73, Tryd.ntmps73
  go_wp2_with fail
  refine (lessen_any hr hoo hL (by omega) (fun _ => rfl) hvc hvo haw hm hx).mono ?_
  rintro e w1 ⟨c, zs, rfl, hc0, hc1, hzl, hzo, hsame, hv, hrow, hon⟩
  have hsg := Nt.off_sign hzo (fun j hj => hsame j (by omega)) (hsame (off + L) (by omega)) hv
  have hcz : c ≤ Nt.lb zs (off + L) := by
    rcases Int.lt_or_le (Nt.lb zs (off + L)) c with h | h
    · have h1 := hsg.1 h; have h2 := HG.out; omega
    · exact h
  have hnl : ¬ Nt.lb zs (off + L) < c := by omega
  have bz := hzo (off + L)
  obtain ⟨bz0, bz1⟩ := bz
  have g2 := hrow.cell (i := off + L) (by omega)
  have hfz := hrow.frozen (off + L)
  have htop := hsame (off + L) (by omega)
  have hfin : Nt.vt (zs.set (off + L) (Nt.lb zs (off + L) - c)) (off + L + 1) = Nt.vt os (off + L + 1) - x * Nt.val vs * Nt.pw off := by
    rw [Nt.vt_succ, Nt.vt_set (Nat.le_refl _), Nt.lb_set_eq (by omega), Nt.vt_succ, ← htop]
    grind
  have HF := hide hfin
  have HS := hide hsame
  have HZ := hide hzl
  clear hfin hsame hzl hsg hv htop
  go_wp2
  go_ret
  exact ⟨zs.set (off + L) (Nt.lb zs (off + L) - c), rfl, by rw [List.length_set]; exact HZ.out, Nt.ok_set hzo (by omega), fun j hj => by rw [Nt.lb_set_ne (by omega)]; exact HS.out j (by omega), HF.out, hrow.set _ _, hon.set _ _⟩

set_option maxHeartbeats 2000000 in
theorem takeOff_no {w : World} {bo : Option Addr} {rc bc g off L : Nat} {vs os : List Int} {x : Int} (hr : Row .u32 59 w g os) (hoo : Nt.Ok os) (hL : vs.length = L) (hfit : off + L < os.length) (hrc : L + 1 ≤ rc)
    (hvc : Cells .u32 w bo vs) (hvo : Nt.Ok vs) (haw : 0 < vs.length → Away g bo) (hm : L ≤ 2199023255552) (hx : 0 ≤ x ∧ x < 4294967296) (hlt : Nt.vt os (off + L + 1) - Nt.vt os off < x * Nt.val vs * Nt.pw off) :
    Calls Tryd.prog 73 #[.slice (some ⟨g, off, none⟩) (L + 1) rc, .slice bo L bc, .int .u64 x] w fun e w' => e = .returned (.bool false) ∧ Row .u32 59 w' g os ∧ Only g w w' := by
  have i1 : L ≤ rc := by omega
  have HG := hide hlt
  clear hlt
  go_enter Tryd.func73, Tryd.ntmps73
  go_wp2_with fail
  refine (lessen_any hr hoo hL (by omega) (fun _ => rfl) hvc hvo haw hm hx).mono ?_
  rintro e w1 ⟨c, zs, rfl, hc0, hc1, hzl, hzo, hsame, hv, hrow, hon⟩
  have hsg := Nt.off_sign hzo (fun j hj => hsame j (by omega)) (hsame (off + L) (by omega)) hv
  have hcz : Nt.lb zs (off + L) < c := by
    rcases Int.lt_or_le (Nt.lb zs (off + L)) c with h | h
    · exact h
    · have h1 := hsg.2 h; have h2 := HG.out; omega
  have bz := hzo (off + L)
  obtain ⟨bz0, bz1⟩ := bz
  have g2 := hrow.cell (i := off + L) (by omega)
  have HV := hide hv
  have HS := hide hsame
  have HZ := hide hzl
  clear hsame hzl hsg hv
  go_wp2_with fail
  refine (addBack_any hrow hzo hL (by rw [HZ.out]; omega) (fun _ => rfl) (hon.cells hvc haw) hvo haw hm hx).mono ?_
  rintro e w2 ⟨d, ys, rfl, hd0, hd1, hyl, hyo, hsame2, hv2, hrow2, hon2⟩
  have hys : ys = os := Nt.back_same hyo hoo (by rw [hyl, HZ.out]) (fun j hj => (hsame2 j hj).trans (HS.out j hj)) HV.out hv2
  rw [hys] at hrow2
  clear hsame2 hv2 hyl hys
  go_wp2
  go_ret
  exact ⟨rfl, hrow2, hon.trans hon2⟩

end Go.Proofs.YtmpdkeafbjibpaaDoor
