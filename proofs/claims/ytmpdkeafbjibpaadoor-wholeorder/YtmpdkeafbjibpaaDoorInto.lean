/- nat.addInto -/
import Derived.Test.YtmpdkeafbjibpaaDoorOnly
import Derived.Test.YtmpdkeafbjibpaaDoorLimb
import Derived.Deep.RegionWith
namespace Go.Proofs.YtmpdkeafbjibpaaDoor
open Go.RowKit

set_option maxHeartbeats 2000000 in
theorem into_any {w : World} {ro bo : Option Addr} {rc bc g off L : Nat} {bs os : List Int} (hr : Row .u32 59 w g os) (hoo : Nt.Ok os) (hoff : off + L = os.length) (hol : os.length ≤ 2199023255552)
    (hro : 0 < L → ro = some ⟨g, off, none⟩) (hbl : bs.length ≤ bc) (hbm : bc ≤ maxLen) (hbc : Cells .u32 w bo bs) (hbo : Nt.Ok bs) (haw : 0 < bs.length → Away g bo)
    (hfit : Nt.val os + Nt.val bs * Nt.pw off < Nt.pw os.length) :
    Calls Tryd.prog 43 #[.slice ro L rc, .slice bo bs.length bc] w fun e w' => ∃ zs : List Int, e = .returned (.tuple #[]) ∧ zs.length = os.length ∧ Nt.Ok zs ∧
      Nt.val zs = Nt.val os + Nt.val bs * Nt.pw off ∧ Row .u32 59 w' g zs ∧ Only g w w' := by
  go_enter Tryd.func43, Tryd.ntmps43
  go_wp2_with fail
  refine (trim_any bo bc bs w hbl hbm hbc hbo).mono ?_
  rintro e w' ⟨rfl, n, hn, rfl, hcn, hv⟩
  have hfits := Nt.into_fits (off := off) (n := os.length) hcn hv (Nt.val_nonneg hoo) hfit (by omega)
  have hct := hbc.take hn
  have hat : 0 < (bs.take n).length → Away g bo := fun h => haw (by rw [List.length_take] at h; omega)
  have hlt : (bs.take n).length = n := by rw [List.length_take, Nat.min_eq_left hn]
  rw [← hv] at hfit
  have HV := hide hv
  generalize bs.take n = ys at *
  have HY := hide hlt
  have Hfit := hide hfit
  rw [hlt] at hfits
  have hnm : n ≤ 2199023255552 := by omega
  clear hv hbc hbo haw hfit hn hbl hlt
  go_wp2
  go_loopw [4, 11] (fun c i wr => ∃ (k : Nat) (q : Int) (zs : List Int), k ≤ n ∧ i = .int .i64 k ∧ c = .int .u32 q ∧ 0 ≤ q ∧ q ≤ 1 ∧ zs.length = os.length ∧ Nt.Ok zs ∧ (∀ j, off + k ≤ j → Nt.lb zs j = Nt.lb os j) ∧
      Row .u32 59 wr g zs ∧ Only g w' wr ∧ Nt.vt zs (off + k) + q * Nt.pw (off + k) = Nt.vt os (off + k) + Nt.vt ys k * Nt.pw off) (fun _ i _ => n - (intOf i).toNat)
  case atStart => exact ⟨0, 0, os, by omega, rfl, rfl, by omega, by omega, rfl, hoo, fun _ _ => rfl, hr, Only.refl _ _, by simp [Nt.vt]⟩
  case round =>
    obtain ⟨k, q, zs, hk, rfl, rfl, hq0, hq1, hzl, hzo, hsame, hrow, hbr, heq⟩ := hrel
    have Heq := hide heq
    have Hzl := hide hzl
    have Hs := hide hsame
    clear heq hzl hsame hr
    by_cases hkl : k < n
    · have hR := hro (by omega)
      subst hR
      obtain ⟨b1, o1, rfl, _, hc1⟩ := (hbr.cells hct hat) (by rw [HY.out]; omega)
      have g1 := hc1 k (by rw [HY.out]; omega)
      have g2 := hrow.cell (i := off + k) (by have := Hzl.out; omega)
      have hfz := hrow.frozen (off + k)
      have byk := hcn.1 k
      have bzk := hzo (off + k)
      clear hc1
      go_wp2
      go_region_with (go_at_call 56; refine (add32_any _ _ _ _ bzk byk ⟨hq0, hq1⟩).mono ?_; rintro e w3 ⟨rfl, rfl⟩)
      all_goals go_wp2
      all_goals go_roundw
      all_goals first
        | exact ⟨k + 1, (Nt.lb zs (off + k) + Nt.lb ys k + q) / 4294967296, zs.set (off + k) ((Nt.lb zs (off + k) + Nt.lb ys k + q) % 4294967296), by omega, by go_num, rfl, by omega, by omega, by have := Hzl.out; simp [this], Nt.ok_set hzo (by omega), fun j hj => by
            rw [Nt.lb_set_ne (by omega)]; exact Hs.out j (by omega), hrow.set _ _, hbr.drew.set _ _, Nt.into_step (by have := Hzl.out; omega) (Hs.out _ (by omega)) Heq.out⟩
        | (simp [intOf]; omega)
    · have hke : k = n := by omega
      have Hke := hide hke
      have e0 : Nt.vt zs (off + n) + q * Nt.pw (off + n) = Nt.vt os (off + n) + Nt.val ys * Nt.pw off := by
        have h := Heq.out
        rw [hke, Nt.vt_out (xs := ys) (by rw [HY.out]; omega)] at h
        exact h
      have HE := hide e0
      have HS0 : Hid (∀ j, off + n ≤ j → Nt.lb zs j = Nt.lb os j) := by
        have h := Hs.out
        rw [hke] at h
        exact h
      clear e0 Heq Hs hke
      go_wp2
      go_loopw [4, 6] (fun c i wr => ∃ (k : Nat) (q : Int) (zs : List Int), n ≤ k ∧ off + k ≤ os.length ∧ i = .int .i64 k ∧ c = .int .u32 q ∧ 0 ≤ q ∧ q ≤ 1 ∧ zs.length = os.length ∧ Nt.Ok zs ∧ (∀ j, off + k ≤ j → Nt.lb zs j = Nt.lb os j) ∧
        Row .u32 59 wr g zs ∧ Only g w' wr ∧ Nt.vt zs (off + k) + q * Nt.pw (off + k) = Nt.vt os (off + k) + Nt.vt ys k * Nt.pw off) (fun _ i _ => os.length - (intOf i).toNat)
      case atStart => exact ⟨n, q, zs, by omega, by omega, rfl, rfl, hq0, hq1, Hzl.out, hzo, HS0.out, hrow, hbr, by rw [Nt.vt_out (xs := ys) (by rw [HY.out]; omega)]; exact HE.out⟩
      case round =>
        clear HE HS0 hrow hbr hzo hq0 hq1 Hzl hk hkl Hke
        obtain ⟨k, q, zs, hnk, hko, rfl, rfl, hq0, hq1, hzl, hzo, hsame, hrow, hbr, heq⟩ := hrel
        rw [Nt.vt_out (xs := ys) (n := k) (by rw [HY.out]; omega)] at heq
        have Heq := hide heq
        have Hzl := hide hzl
        have Hs := hide hsame
        clear heq hzl hsame
        by_cases hq : q = 0
        · have hfin : Nt.val zs = Nt.val os + Nt.val ys * Nt.pw off := by
            have h1 := Nt.vt_tail (zs := zs) (os := os) Hs.out os.length hko
            have h2 := Heq.out
            have h3 := Hzl.out
            rw [hq] at h2
            unfold Nt.val at h2 ⊢
            rw [h3]
            omega
          have Hf := hide hfin
          have hq' : (q == 0) = true := by simp [hq]
          clear hfin Heq hq
          go_wp2
          go_end0
          exact ⟨zs, rfl, Hzl.out, hzo, by rw [← HV.out]; exact Hf.out, hrow, hbr⟩
        · have hlt : off + k < os.length := by
            rcases Nat.lt_or_ge (off + k) os.length with h | h
            · exact h
            · exfalso
              have h1 : off + k = os.length := by omega
              have h2 := Heq.out
              rw [h1, show q = 1 by omega] at h2
              exact Nt.into_no_carry hzo h2 Hfit.out
          have hR := hro (by omega)
          subst hR
          have g2 := hrow.cell (i := off + k) (by have := Hzl.out; omega)
          have hfz := hrow.frozen (off + k)
          have bzk := hzo (off + k)
          have hq' : (q == 0) = false := by simp [hq]
          have hkL : (k : Int) < (L : Int) := by omega
          go_wp2_with fail
          refine (add32_any _ _ _ _ bzk (by omega) ⟨hq0, hq1⟩).mono ?_
          rintro e w3 ⟨rfl, rfl⟩
          have hst := Nt.into_step (ys := ys) (zs := zs) (os := os) (off := off) (k := k) (c := q) (by have := Hzl.out; omega) (Hs.out _ (by omega)) (by rw [Nt.vt_out (xs := ys) (n := k) (by rw [HY.out]; omega)]; exact Heq.out)
          rw [Nt.lb_out (xs := ys) (i := k) (by rw [HY.out]; omega), Int.add_zero] at hst
          have Hst := hide hst
          clear hst
          go_wp2
          go_roundw
          case rel => exact ⟨k + 1, (Nt.lb zs (off + k) + q) / 4294967296, zs.set (off + k) ((Nt.lb zs (off + k) + q) % 4294967296), by omega, by omega, by go_num, rfl, by omega, by omega, by have := Hzl.out; simp [this], Nt.ok_set hzo (by omega), fun j hj => by
            rw [Nt.lb_set_ne (by omega)]; exact Hs.out j (by omega), hrow.set _ _, hbr.set _ _, Hst.out⟩
          case measure => simp [intOf]; omega

end Go.Proofs.YtmpdkeafbjibpaaDoor
