/- RDM -/
import Derived.Test.YtinfkoiifemjmaaGreatDoorS01
import Derived.Test.YtinfkoiifemjmaaGreatDoorS02
import Derived.Deep.RegionWith
import Derived.Deep.QuietTactic
import Derived.BigQuiet
import Derived.Test.YtinfkoiifemjmaaGreatDoorS03
import Derived.Deep.RegionLaw
import Derived.Deep.Cut
namespace Go.Proofs.YtinfkoiifemjmaaGreatDoor
namespace Nt

theorem place_lt {P V x y p : Int} (hp : 0 < p) (hP : 0 ≤ P ∧ P < p) (hV : 0 ≤ V ∧ V < p) (h : x < y) : P + x * p < V + y * p := by
  have h1 : (x + 1) * p ≤ y * p := Int.mul_le_mul_of_nonneg_right (by omega) (by omega)
  rw [Int.add_mul] at h1
  omega
theorem prod_step {bs : List Int} {i : Nat} {d q t : Int} (ht : t = lb bs i * d + q) : d * vt bs (i + 1) - t / 4294967296 * pw (i + 1) = (d * vt bs i - q * pw i) + t % 4294967296 * pw i := by
  rw [vt_succ, pw_succ]
  have e : t % 4294967296 + 4294967296 * (t / 4294967296) = t := Int.emod_add_mul_ediv _ _
  generalize t % 4294967296 = r at *
  generalize t / 4294967296 = u at *
  grind
/-- how the limbs so far compare -/
def FitInv (bs rs : List Int) (d : Int) (i : Nat) (q c : Int) : Prop :=
  (0 ≤ d * vt bs i - q * pw i ∧ d * vt bs i - q * pw i < pw i) ∧ (c ≤ 0 ↔ d * vt bs i - q * pw i ≤ vt rs i)
theorem fit_start (bs rs : List Int) (d : Int) : FitInv bs rs d 0 0 0 := by simp [FitInv, vt, pw]
theorem fit_step {bs rs : List Int} {d q c t c' : Int} {i : Nat} (hr : Ok rs) (h : FitInv bs rs d i q c) (ht : t = lb bs i * d + q)
    (he : t % 4294967296 = lb rs i → c' = c) (hl : t % 4294967296 < lb rs i → c' = -1) (hg : lb rs i < t % 4294967296 → c' = 1) : FitInv bs rs d (i + 1) (t / 4294967296) c' := by
  unfold FitInv at h ⊢
  rw [prod_step ht, vt_succ, pw_succ]
  obtain ⟨h1, h2⟩ := h
  have hp := pw_pos i
  have hv := vt_bounds hr i
  have x0 : 0 ≤ t % 4294967296 := Int.emod_nonneg _ (by decide)
  have x1 : t % 4294967296 < 4294967296 := Int.emod_lt_of_pos _ (by decide)
  generalize t % 4294967296 = x at *
  generalize d * vt bs i - q * pw i = P at *
  refine ⟨⟨?_, ?_⟩, ?_⟩
  · have := Int.mul_nonneg x0 (Int.le_of_lt hp)
    omega
  · have : x * pw i ≤ 4294967295 * pw i := Int.mul_le_mul_of_nonneg_right (by omega) (by omega)
    omega
  · rcases Int.lt_trichotomy x (lb rs i) with h | h | h
    · have := place_lt hp h1 hv h
      rw [hl h]
      exact ⟨fun _ => by omega, fun _ => by decide⟩
    · rw [he h, h, h2]
      constructor <;> intro <;> omega
    · have := place_lt hp hv h1 h
      rw [hg h]
      exact ⟨fun h => absurd h (by decide), fun _ => by omega⟩
theorem fit_end {bs rs : List Int} {d c : Int} {i : Nat} (h : FitInv bs rs d i 0 c) (hb : bs.length ≤ i) (hr : rs.length ≤ i) : c ≤ 0 ↔ d * val bs ≤ val rs := by
  have h2 := h.2
  rw [vt_out hb, vt_out hr] at h2
  simpa using h2
theorem offr_step {bs zs os : List Int} {i : Nat} {d q t y' q' : Int} (hk : i < zs.length) (hz : lb zs i = lb os i) (ht : t = lb bs i * d + q) (h : vt zs i = vt os i - d * vt bs i + q * pw i) (hy : y' - q' * 4294967296 = lb zs i - t) :
    vt (zs.set i y') (i + 1) = vt os (i + 1) - d * vt bs (i + 1) + q' * pw (i + 1) := by
  rw [vt_succ, vt_set (Nat.le_refl _), lb_set_eq hk, vt_succ, vt_succ, pw_succ, ← hz]
  have : y' = lb zs i - t + q' * 4294967296 := by omega
  subst this
  grind
theorem offr_end {zs : List Int} {n : Nat} {V D q : Int} (hz : Ok zs) (hq : 0 ≤ q) (hD : D ≤ V) (h : vt zs n = V - D + q * pw n) : vt zs n = V - D := by
  have hp := pw_pos n
  have hb := (vt_bounds hz n).2
  rcases Int.lt_or_le 0 q with h0 | h0
  · have : 1 * pw n ≤ q * pw n := Int.mul_le_mul_of_nonneg_right (by omega) (by omega)
    omega
  · have : q = 0 := by omega
    rw [this] at h
    simpa using h
theorem dig_low {rs bs : List Int} {l : Nat} {T : Int} (hr : Ok rs) (hb : Ok bs) (hT : T = lb rs (l + 1) * 4294967296 + lb rs l) : T / (lb bs l + 1) * vt bs (l + 1) ≤ vt rs (l + 2) := by
  have h1 := vt_two rs l
  rw [← hT] at h1
  have h2 := vt_succ bs l
  have r0 := hr l
  have r1 := hr (l + 1)
  have b0 := hb l
  have h3 := (vt_bounds hr l).1
  have h4 := (vt_bounds hb l)
  have hq : 0 ≤ T / (lb bs l + 1) := Int.ediv_nonneg (by omega) (by omega)
  have hm : T / (lb bs l + 1) * (lb bs l + 1) ≤ T := Int.ediv_mul_le _ (by omega)
  generalize T / (lb bs l + 1) = q at *
  have h5 : q * vt bs (l + 1) ≤ q * ((lb bs l + 1) * pw l) := Int.mul_le_mul_of_nonneg_left (by rw [h2, Int.add_mul]; omega) hq
  have h6 : q * (lb bs l + 1) * pw l ≤ T * pw l := Int.mul_le_mul_of_nonneg_right hm (by have := pw_pos l; omega)
  rw [Int.mul_assoc] at h6
  omega
theorem dig_high {rs bs : List Int} {l : Nat} {T : Int} (hr : Ok rs) (hb : Ok bs) (hp : 0 < lb bs l) (hT : T = lb rs (l + 1) * 4294967296 + lb rs l) : vt rs (l + 2) < (T / lb bs l + 1) * vt bs (l + 1) := by
  have h1 := vt_two rs l
  rw [← hT] at h1
  have h2 := vt_succ bs l
  have r0 := hr l
  have r1 := hr (l + 1)
  have h3 := (vt_bounds hr l).2
  have h4 := (vt_bounds hb l).1
  have hq : 0 ≤ T / lb bs l := Int.ediv_nonneg (by omega) (by omega)
  have hm : T < (T / lb bs l + 1) * lb bs l := Int.lt_ediv_add_one_mul_self _ hp
  generalize T / lb bs l = q at *
  have h5 : (T + 1) * pw l ≤ (q + 1) * lb bs l * pw l := Int.mul_le_mul_of_nonneg_right (by omega) (by have := pw_pos l; omega)
  have h6 : (q + 1) * (lb bs l * pw l) ≤ (q + 1) * vt bs (l + 1) := Int.mul_le_mul_of_nonneg_left (by rw [h2]; omega) (by omega)
  rw [Int.add_mul] at h5
  rw [Int.mul_assoc] at h5
  omega
/-- one place further up -/
theorem vt_shift {xs ys : List Int} : ∀ n : Nat, (∀ j, j < n → lb ys (j + 1) = lb xs j) → vt ys (n + 1) = lb ys 0 + 4294967296 * vt xs n
  | 0, _ => by simp [vt, pw]
  | n + 1, h => by
    rw [vt_succ, vt_shift n (fun j hj => h j (by omega)), h n (by omega), vt_succ, pw_succ]
    grind
theorem div_step {V X Q B R R' d a p : Int} (h : V = X + a * p + Q * B + R * (4294967296 * p)) (hd : a + 4294967296 * R = d * B + R') : V = X + (Q + (d - 0) * p) * B + R' * p := by
  have : a = d * B + R' - 4294967296 * R := by omega
  subst this
  grind

end Nt
end Go.Proofs.YtinfkoiifemjmaaGreatDoor

namespace Go.Proofs.YtinfkoiifemjmaaGreatDoor
open Go.RowKit
set_option linter.unusedVariables false

/-- nothing but the tape's place has changed -/
def Still (w w' : World) : Prop := w'.heap = w.heap ∧ ∀ B, Below B w w'
theorem Still.refl (w : World) : Still w w := ⟨rfl, fun _ => Below.refl _ _⟩
theorem Still.trans {a b c : World} (h : Still a b) (k : Still b c) : Still a c := ⟨k.1.trans h.1, fun B => (h.2 B).trans (k.2 B)⟩
theorem Still.cells {k : IntKind} {w w' : World} {ao : Option Addr} {xs : List Int} (h : Still w w') (hc : Cells k w ao xs) : Cells k w' ao xs := hc.below (h.2 _)
theorem Still.row {k : IntKind} {E : TypeId} {w w' : World} {g : Nat} {zs : List Int} (h : Still w w') (hr : Row k E w g zs) : Row k E w' g zs := by
  unfold Row
  rw [h.1]
  exact hr
theorem Still.only {w w' : World} (h : Still w w') (g : Nat) : Only g w w' := ⟨(h.2 0).os, (h.2 0).tape, (h.2 0).output, (h.2 0).size, fun k _ _ => by rw [h.1]⟩
theorem prod_bd3 {x y : Int} (hx : 0 ≤ x ∧ x < 4294967296) (hy : 0 ≤ y ∧ y < 4294967296) : 0 ≤ y * x ∧ y * x ≤ 18446744065119617025 := by
  refine ⟨Int.mul_nonneg hy.1 hx.1, ?_⟩
  have h1 : y * x ≤ 4294967295 * x := Int.mul_le_mul_of_nonneg_right (by omega) hx.1
  omega

set_option maxHeartbeats 1000000 in
theorem rlimb_any {w : World} {ao : Option Addr} {cap n : Nat} {xs : List Int} {I : Int} (k : Nat) (hI : I = (k : Int)) (hn : xs.length = n) (hm : n ≤ 1099511627777) (hk : k ≤ 4398046511104) (hc : Cells .u32 w ao xs) (ho : Nt.Ok xs) :
    Calls Tryz.prog 182 #[.slice ao n cap, .int .i64 I] w fun e w' => e = .returned (.int .u64 (Nt.lb xs k)) ∧ w' = w := by
  subst hI
  by_cases h : k < n
  · obtain ⟨b, off, rfl, hb, hcell⟩ := hc (by omega)
    have hg := hcell k (by omega)
    have hok := ho k
    generalize Nt.lb xs k = x at *
    clear hcell hc ho
    go_enter Tryz.func182, Tryz.ntmps182
    go_wp2
    go_ret
    exact ⟨rfl, rfl⟩
  · have e0 : Nt.lb xs k = 0 := Nt.lb_out (by omega)
    rw [e0]
    clear e0 hc ho
    go_enter Tryz.func182, Tryz.ntmps182
    go_wp2
    go_ret
    exact ⟨rfl, rfl⟩

set_option maxRecDepth 100000 in
set_option maxHeartbeats 4000000 in
theorem fits_any {w : World} {ro bo : Option Addr} {rn bn rc bc : Nat} {rs bs : List Int} {d : Int} (hrn : rs.length = rn) (hbn : bs.length = bn) (rm : rn ≤ 1099511627777) (bm : bn ≤ 1099511627777) (hr : Cells .u32 w ro rs) (hro : Nt.Ok rs) (hb : Cells .u32 w bo bs) (hbo : Nt.Ok bs) (hd : 0 ≤ d ∧ d < 4294967296) :
    Calls Tryz.prog 183 #[.slice ro rn rc, .slice bo bn bc, .int .u32 d] w fun e w' => e = .returned (.bool (decide (d * Nt.val bs ≤ Nt.val rs))) ∧ w' = w := by
  obtain ⟨N, hN1, hN2, hN3⟩ : ∃ N, bn ≤ N ∧ rn ≤ N ∧ (N = bn ∨ N = rn) := by
    rcases Nat.le_total bn rn with h | h
    · exact ⟨rn, h, Nat.le_refl _, Or.inr rfl⟩
    · exact ⟨bn, Nat.le_refl _, h, Or.inl rfl⟩
  have HR := hide hr
  have HB := hide hb
  have HRo := hide hro
  have HBo := hide hbo
  have HRn := hide hrn
  have HBn := hide hbn
  obtain ⟨hd0, hd1⟩ := hd
  clear hr hb hro hbo hrn hbn
  go_enter Tryz.func183, Tryz.ntmps183
  go_wp2
  go_loopw [7, 8, 9] (fun sc sq si wr => ∃ (k : Nat) (q c : Int), si = .int .i64 k ∧ sq = .int .u64 q ∧ sc = .int .i64 c ∧ k ≤ N + 1 ∧ (k = N + 1 → q = 0) ∧ 0 ≤ q ∧ q < 4294967296 ∧ Hid (Nt.FitInv bs rs d k q c) ∧ w = wr) (fun _ _ si _ => N + 1 - (intOf si).toNat)
  case atStart => exact ⟨0, 0, 0, rfl, rfl, rfl, by omega, fun _ => rfl, by omega, by omega, hide (Nt.fit_start _ _ _), rfl⟩
  case round =>
    obtain ⟨k, q, c, rfl, rfl, rfl, hk, hkN, q0, q1, HF, rfl⟩ := hrel
    by_cases go : k < bn ∨ k < rn ∨ 0 < q
    · have ob := HBo.out k
      have or := HRo.out k
      have pb := prod_bd3 ⟨hd0, hd1⟩ ob
      have hkn : k ≤ N := by
        by_cases e : k = N + 1
        · have := hkN e; omega
        · omega
      have hend : k = N → Nt.lb bs k = 0 := fun e => Nt.lb_out (by rw [HBn.out]; omega)
      have hnext : k + 1 = N + 1 → (Nt.lb bs k * d + q) / 4294967296 = 0 := by
        intro e
        rw [hend (by omega), Int.zero_mul]
        omega
      have hst : ∀ c', ((Nt.lb bs k * d + q) % 4294967296 = Nt.lb rs k → c' = c) → ((Nt.lb bs k * d + q) % 4294967296 < Nt.lb rs k → c' = -1) → (Nt.lb rs k < (Nt.lb bs k * d + q) % 4294967296 → c' = 1) → Nt.FitInv bs rs d (k + 1) ((Nt.lb bs k * d + q) / 4294967296) c' :=
        fun c' h1 h2 h3 => Nt.fit_step HRo.out HF.out rfl h1 h2 h3
      have lim1 := hide (rlimb_any (cap := bc) k rfl HBn.out bm (by omega) HB.out HBo.out)
      have lim2 := hide (rlimb_any (cap := rc) k rfl HRn.out rm (by omega) HR.out HRo.out)
      have HN := hide hnext
      have HS := hide hst
      clear hend hnext hst HF
      generalize Nt.lb bs k = x at *
      generalize Nt.lb rs k = y at *
      have m0 : 0 ≤ (x * d + q) % 4294967296 := Int.emod_nonneg _ (by decide)
      have m1 : (x * d + q) % 4294967296 < 4294967296 := Int.emod_lt_of_pos _ (by decide)
      have v0 : 0 ≤ (x * d + q) / 4294967296 ∧ (x * d + q) / 4294967296 < 4294967296 := by omega
      have hgo : ((k : Int) < (bn : Int)) ∨ (¬ (k : Int) < (bn : Int) ∧ (k : Int) < (rn : Int)) ∨ (¬ (k : Int) < (bn : Int) ∧ ¬ (k : Int) < (rn : Int) ∧ 0 < q) := by omega
      clear go
      rcases Int.lt_trichotomy ((x * d + q) % 4294967296) y with hc | hc | hc
      all_goals rcases hgo with hgo | ⟨hgo, hgo2⟩ | ⟨hgo, hgo2, hgo3⟩
      all_goals go_wp2_with fail
      all_goals with_reducible refine lim1.out.mono ?_
      all_goals rintro e w1 ⟨rfl, rfl⟩
      all_goals go_wp2_with fail
      all_goals with_reducible refine lim2.out.mono ?_
      all_goals rintro e w2 ⟨rfl, rfl⟩
      all_goals go_wp2
      all_goals go_roundw
      all_goals first
        | exact ⟨k + 1, (x * d + q) / 4294967296, -1, rfl, rfl, rfl, by omega, HN.out, v0.1, v0.2, hide (HS.out _ (fun h => by omega) (fun _ => rfl) (fun h => by omega)), trivial⟩
        | exact ⟨k + 1, (x * d + q) / 4294967296, c, rfl, rfl, rfl, by omega, HN.out, v0.1, v0.2, hide (HS.out _ (fun _ => rfl) (fun h => by omega) (fun h => by omega)), trivial⟩
        | exact ⟨k + 1, (x * d + q) / 4294967296, 1, rfl, rfl, rfl, by omega, HN.out, v0.1, v0.2, hide (HS.out _ (fun h => by omega) (fun h => by omega) (fun _ => rfl)), trivial⟩
        | (simp [intOf]; omega)
    · have h1 : ¬ (k : Int) < (bn : Int) := by omega
      have h2 : ¬ (k : Int) < (rn : Int) := by omega
      have h3 : ¬ 0 < q := by omega
      obtain rfl : q = 0 := by omega
      have he := Nt.fit_end HF.out (by rw [HBn.out]; omega) (by rw [HRn.out]; omega)
      have hd' : decide (c ≤ 0) = decide (d * Nt.val bs ≤ Nt.val rs) := by
        by_cases h : c ≤ 0
        · rw [decide_eq_true h, decide_eq_true (he.1 h)]
        · rw [decide_eq_false h, decide_eq_false (fun h' => h (he.2 h'))]
      have HD := hide hd'
      clear he HF hd' go
      go_wp2
      go_ret
      exact ⟨by simpa using HD.out, rfl⟩

end Go.Proofs.YtinfkoiifemjmaaGreatDoor

namespace Go.Proofs.YtinfkoiifemjmaaGreatDoor
open Go.RowKit
set_option linter.unusedVariables false

set_option maxRecDepth 100000 in
set_option maxHeartbeats 4000000 in
theorem offr_any {w : World} {bo : Option Addr} {g n rc bn bc : Nat} {os bs : List Int} {d : Int} (hr : Row .u32 96 w g os) (hoo : Nt.Ok os) (hn : n ≤ os.length) (hbn : bs.length = bn) (hbl : bn ≤ n) (nm : n ≤ 1099511627777) (hb : Cells .u32 w bo bs) (hbo : Nt.Ok bs) (haw : 0 < bs.length → Away g bo) (hd : 0 ≤ d ∧ d < 4294967296) (hge : d * Nt.val bs ≤ Nt.vt os n) :
    Calls Tryz.prog 158 #[.slice (some ⟨g, 0, none⟩) n rc, .slice bo bn bc, .int .u32 d] w fun e w' => ∃ zs : List Int, e = .returned (.tuple #[]) ∧ zs.length = os.length ∧ Nt.Ok zs ∧ (∀ j, n ≤ j → Nt.lb zs j = Nt.lb os j) ∧ Nt.vt zs n = Nt.vt os n - d * Nt.val bs ∧ Row .u32 96 w' g zs ∧ Only g w w' := by
  have HB := hide hb
  have HBo := hide hbo
  have HBn := hide hbn
  have HG := hide hge
  have HAw := hide haw
  obtain ⟨hd0, hd1⟩ := hd
  clear hb hbo hbn hge haw
  go_enter Tryz.func158, Tryz.ntmps158
  go_wp2
  go_loopw [6, 7] (fun sq si wr => ∃ (k : Nat) (q : Int) (zs : List Int), k ≤ n ∧ si = .int .i64 k ∧ sq = .int .u64 q ∧ 0 ≤ q ∧ q ≤ 4294967296 ∧ Hid (zs.length = os.length) ∧ Nt.Ok zs ∧ Hid (∀ j, k ≤ j → Nt.lb zs j = Nt.lb os j) ∧
      Row .u32 96 wr g zs ∧ Only g w wr ∧ Hid (Nt.vt zs k = Nt.vt os k - d * Nt.vt bs k + q * Nt.pw k)) (fun _ si _ => n - (intOf si).toNat)
  case atStart => exact ⟨0, 0, os, by omega, rfl, rfl, by omega, by omega, hide rfl, hoo, hide (fun _ _ => rfl), hr, Only.refl _ _, hide (by simp [Nt.vt])⟩
  case round =>
    obtain ⟨k, q, zs, hk, rfl, rfl, q0, q1, Hzl, hzo, Hs, hrow, hbr, Heq⟩ := hrel
    by_cases hkl : k < n
    · have hli : (k : Int) < (n : Int) := by omega
      have ob := HBo.out k
      have oz := hzo k
      have pb := prod_bd3 ⟨hd0, hd1⟩ ob
      have hkz : k < zs.length := by rw [Hzl.out]; omega
      have hst : ∀ y' q', y' - q' * 4294967296 = Nt.lb zs k - (Nt.lb bs k * d + q) → Nt.vt (zs.set k y') (k + 1) = Nt.vt os (k + 1) - d * Nt.vt bs (k + 1) + q' * Nt.pw (k + 1) :=
        fun y' q' h => Nt.offr_step hkz (Hs.out k (Nat.le_refl _)) rfl Heq.out h
      have HS := hide hst
      have g2 := hrow.cell (i := k) hkz
      have hfz := hrow.frozen k
      have lim := hide (rlimb_any (w := wr) (cap := bc) k rfl HBn.out (by omega) (by omega) (hbr.cells HB.out HAw.out) HBo.out)
      clear hst Heq
      generalize hx : Nt.lb bs k = x at *
      generalize hy : Nt.lb zs k = y at *
      clear hx
      have m0 : 0 ≤ (x * d + q) % 4294967296 := Int.emod_nonneg _ (by decide)
      have m1 : (x * d + q) % 4294967296 < 4294967296 := Int.emod_lt_of_pos _ (by decide)
      have v0 : 0 ≤ (x * d + q) / 4294967296 ∧ (x * d + q) / 4294967296 ≤ 4294967295 := by omega
      by_cases hlt : y < (x * d + q) % 4294967296
      · go_wp2_with fail
        with_reducible refine lim.out.mono ?_
        rintro e w1 ⟨rfl, rfl⟩
        go_wp2
        go_roundw
        case rel => exact ⟨k + 1, (x * d + q) / 4294967296 + 1, zs.set k (y + 4294967296 - (x * d + q) % 4294967296), by omega, rfl, rfl, by omega, by omega, hide (by rw [List.length_set]; exact Hzl.out), Nt.ok_set hzo (by omega), hide (fun j hj => by rw [Nt.lb_set_ne (by omega)]; exact Hs.out j (by omega)), hrow.set _ _, hbr.set _ _, hide (HS.out _ _ (by omega))⟩
        case measure => simp [intOf]; omega
      · go_wp2_with fail
        with_reducible refine lim.out.mono ?_
        rintro e w1 ⟨rfl, rfl⟩
        go_wp2
        go_roundw
        case rel => exact ⟨k + 1, (x * d + q) / 4294967296, zs.set k (y - (x * d + q) % 4294967296), by omega, rfl, rfl, by omega, by omega, hide (by rw [List.length_set]; exact Hzl.out), Nt.ok_set hzo (by omega), hide (fun j hj => by rw [Nt.lb_set_ne (by omega)]; exact Hs.out j (by omega)), hrow.set _ _, hbr.set _ _, hide (HS.out _ _ (by omega))⟩
        case measure => simp [intOf]; omega
    · obtain rfl : k = n := by omega
      have he := Heq.out
      rw [Nt.vt_out (xs := bs) (by rw [HBn.out]; exact hbl)] at he
      have hv := hide (Nt.offr_end hzo q0 HG.out he)
      clear he Heq
      go_wp2
      go_end0
      exact ⟨zs, by simp, Hzl.out, hzo, Hs.out, hv.out, hrow, hbr⟩

end Go.Proofs.YtinfkoiifemjmaaGreatDoor

namespace Go.Proofs.YtinfkoiifemjmaaGreatDoor
open Go.RowKit
set_option linter.unusedVariables false

set_option maxRecDepth 100000 in
set_option maxHeartbeats 4000000 in
theorem digit_any {w : World} {ro bo : Option Addr} {rn rc bc l : Nat} {rs bs : List Int} (hrn : rs.length = rn) (hrl : rn ≤ l + 2) (hbn : bs.length = l + 1) (lm : l ≤ 1099511627775) (hr : Cells .u32 w ro rs) (hro : Nt.Ok rs) (hb : Cells .u32 w bo bs) (hbo : Nt.Ok bs) (hbp : 0 < Nt.lb bs l) (hlt : Nt.val rs < 4294967296 * Nt.val bs) :
    Calls Tryz.prog 157 #[.slice ro rn rc, .slice bo (l + 1 : Nat) bc] w fun e w' => e = .returned (.int .u32 (Nt.val rs / Nt.val bs)) ∧ Still w w' := by
  obtain ⟨bb, boff, rfl, hbb, hbcell⟩ := hb (by omega)
  have hg := hbcell l (by omega)
  have ob := hbo l
  have o0 := hro l
  have o1 := hro (l + 1)
  have vr : Nt.vt rs (l + 2) = Nt.val rs := Nt.vt_out (by omega)
  have vb : Nt.vt bs (l + 1) = Nt.val bs := by rw [← hbn]; rfl
  have low := Nt.dig_low (l := l) hro hbo rfl
  have high := Nt.dig_high (l := l) hro hbo hbp rfl
  rw [vr, vb] at low high
  have bpos : 0 < Nt.val bs := by
    rw [← vb, Nt.vt_succ]
    have h1 := (Nt.vt_bounds hbo l).1
    have h2 : 1 * Nt.pw l ≤ Nt.lb bs l * Nt.pw l := Int.mul_le_mul_of_nonneg_right (by omega) (by have := Nt.pw_pos l; omega)
    have h3 := Nt.pw_pos l
    omega
  have lim1 := hide (rlimb_any (w := w) (cap := rc) (l + 1) (I := (l : Int) + 1) (by omega) hrn (by omega) (by omega) hr hro)
  have lim2 := hide (rlimb_any (w := w) (cap := rc) l (I := (l : Int)) rfl hrn (by omega) (by omega) hr hro)
  have HR := hide hr
  have HB := hide hb
  have HRo := hide hro
  have HBo := hide hbo
  have HRn := hide hrn
  have HBn := hide hbn
  clear hr hb hro hbo hrn hbn hbcell vr vb
  have HLow := hide low
  have HHigh := hide high
  have HLt := hide hlt
  have HBp := hide bpos
  clear low high hlt bpos
  generalize hx : Nt.lb bs l = x at *
  generalize hy : Nt.lb rs l = y at *
  generalize hz : Nt.lb rs (l + 1) = z at *
  clear hx hy hz
  have t0 : 0 ≤ z * 4294967296 + y ∧ z * 4294967296 + y < 18446744073709551616 := by omega
  go_enter Tryz.func157, Tryz.ntmps157
  go_wp2_with fail
  with_reducible refine lim1.out.mono ?_
  rintro e w1 ⟨rfl, rfl⟩
  go_wp2_with fail
  with_reducible refine lim2.out.mono ?_
  rintro e w2 ⟨rfl, rfl⟩
  clear lim1 lim2
  have hlo : 0 ≤ (z * 4294967296 + y) / (x + 1) := Int.ediv_nonneg t0.1 (by omega)
  have hhi : 0 ≤ (z * 4294967296 + y) / x := Int.ediv_nonneg t0.1 (by omega)
  have bnd : ∀ a : Int, a * Nt.val bs ≤ Nt.val rs → a ≤ 4294967295 := fun a h => by
    have := Nt.lt_of_mul_lt HBp.out (Int.lt_of_le_of_lt h HLt.out)
    omega
  have Hbnd := hide bnd
  have hlo1 := bnd _ HLow.out
  have hfit := hide (fun (d : Int) (hd : 0 ≤ d ∧ d < 4294967296) => fits_any (w := w2) (rc := rc) (bc := bc) (d := d) HRn.out HBn.out (by omega) (by omega) HR.out HRo.out HB.out HBo.out hd)
  have HLt' : Hid (Nt.val rs < (4294967295 + 1) * Nt.val bs) := hide HLt.out
  clear bnd
  go_wp2_with fail
  all_goals
    go_loopw [7, 8] (fun sl sh wr => ∃ lo hi : Int, sl = .int .u64 lo ∧ sh = .int .u64 hi ∧ 0 ≤ lo ∧ lo ≤ 4294967295 ∧ 0 ≤ hi ∧ hi ≤ 4294967295 ∧ Hid (lo * Nt.val bs ≤ Nt.val rs) ∧ Hid (Nt.val rs < (hi + 1) * Nt.val bs) ∧ w2 = wr) (fun sl sh _ => (intOf sh - intOf sl).toNat)
    case atStart =>
      first
        | exact ⟨_, _, rfl, rfl, hlo, hlo1, by decide, by decide, HLow, HLt', rfl⟩
        | exact ⟨_, _, rfl, rfl, hlo, hlo1, hhi, by omega, HLow, HHigh, rfl⟩
    case round =>
      rename_i hrel
      obtain ⟨lo, hi, rfl, rfl, l0, l1, h0, h1, HL, HH, rfl⟩ := hrel
      by_cases lt : lo < hi
      · have d0 : lo < (lo + hi + 1) / 2 ∧ (lo + hi + 1) / 2 ≤ hi := by omega
        have d1 : 0 ≤ (lo + hi + 1) / 2 ∧ (lo + hi + 1) / 2 < 4294967296 := by omega
        have hf := hide (hfit.out _ d1)
        by_cases ft : (lo + hi + 1) / 2 * Nt.val bs ≤ Nt.val rs
        · have Hft := hide ft
          rw [decide_eq_true ft] at hf
          clear ft
          go_wp2_with fail
          with_reducible refine hf.out.mono ?_
          rintro e w3 ⟨rfl, rfl⟩
          go_wp2
          go_roundw
          case rel => exact ⟨_, _, rfl, rfl, by omega, by omega, by omega, by omega, Hft, HH, trivial⟩
          case measure => simp [intOf]; omega
        · have Hft := hide (show Nt.val rs < ((lo + hi + 1) / 2 - 1 + 1) * Nt.val bs by rw [Int.sub_add_cancel]; omega)
          rw [decide_eq_false ft] at hf
          clear ft
          go_wp2_with fail
          with_reducible refine hf.out.mono ?_
          rintro e w3 ⟨rfl, rfl⟩
          go_wp2
          go_roundw
          case rel => exact ⟨_, _, rfl, rfl, by omega, by omega, by omega, by omega, HL, Hft, trivial⟩
          case measure => simp [intOf]; omega
      · have hq : Nt.val rs / Nt.val bs = lo := by
          have a1 : lo ≤ Nt.val rs / Nt.val bs := (Int.le_ediv_iff_mul_le HBp.out).2 HL.out
          have a2 : (hi + 1) * Nt.val bs ≤ (lo + 1) * Nt.val bs := Int.mul_le_mul_of_nonneg_right (by omega) (Int.le_of_lt HBp.out)
          have a3 : Nt.val rs / Nt.val bs < lo + 1 := (Int.ediv_lt_iff_lt_mul HBp.out).2 (Int.lt_of_lt_of_le HH.out a2)
          omega
        have Hq := hide hq
        clear hq
        go_wp2
        go_ret
        refine ⟨?_, Still.refl _⟩
        rw [Hq.out]
        first | rfl | simp

end Go.Proofs.YtinfkoiifemjmaaGreatDoor

namespace Go.Proofs.YtinfkoiifemjmaaGreatDoor
open Go.RowKit
set_option linter.unusedVariables false

theorem mk_room (C : Int) (m : Nat) (hC : C = (m : Int)) (hb : 4 * m ≤ 281474976710656) (w : World) :
    (Instr.makeSlice 61 (.int .i64 0) (.int .i64 C)).run Tryz.prog w = .ok (.slice (some ⟨w.heap.size, 0, none⟩) 0 m) (w.alloc (.cells ((List.replicate m 0).map (Value.int .u32)).toArray 96)) := by
  obtain ⟨i, hi, hz, hs, hby⟩ := info_parts Tryz.infoU32
  have hb' : (i.bytes : Int) * (m : Int) ≤ 281474976710656 := by
    have h : ((i.bytes * m : Nat) : Int) ≤ 281474976710656 := by rw [hby]; omega
    rwa [Int.natCast_mul] at h
  subst hC
  have hr := run_make (P := Tryz.prog) w 61 96 i (.int .u32 0) Tryz.underlying61 hi hz .i64 .i64 0 (m : Int) (by omega) (by omega) hb' (by omega)
  simp only [Int.toNat_natCast, hs, Nat.mul_one] at hr
  rw [hr, show (Value.int .u32 0).cells = #[Value.int .u32 0] from rfl, replicate_map]
  rfl

theorem row_fill : ∀ (ys : List Int) {w : World} {g o : Nat} {zs : List Int}, Row .u32 96 w g zs → Nt.Ok zs → Nt.Ok ys → o + ys.length ≤ zs.length →
    ∃ zs', Row .u32 96 (w.setCells g o (ys.map (Value.int .u32))) g zs' ∧ zs'.length = zs.length ∧ Nt.Ok zs' ∧ (∀ j, j < ys.length → Nt.lb zs' (o + j) = Nt.lb ys j) ∧ (∀ j, j < o → Nt.lb zs' j = Nt.lb zs j) ∧ Only g w (w.setCells g o (ys.map (Value.int .u32)))
  | [], w, g, o, zs, hr, hz, _, _ => ⟨zs, hr, rfl, hz, fun j hj => absurd hj (by simp), fun _ _ => rfl, Only.refl _ _⟩
  | y :: ys, w, g, o, zs, hr, hz, hy, hl => by
    rw [List.length_cons] at hl
    have hy0 : 0 ≤ y ∧ y < 4294967296 := by simpa [Nt.lb] using hy 0
    have hys : Nt.Ok ys := fun i => by simpa [Nt.lb] using hy (i + 1)
    obtain ⟨zs', h1, h2, h3, h4, h5, h6⟩ := row_fill ys (hr.set o y) (Nt.ok_set hz hy0) hys (o := o + 1) (by rw [List.length_set]; omega)
    refine ⟨zs', h1, by rw [h2, List.length_set], h3, fun j hj => ?_, fun j hj => by rw [h5 j (by omega), Nt.lb_set_ne (by omega)], ((Only.refl g w).set o _).trans h6⟩
    cases j with
    | zero => rw [Nat.add_zero, h5 o (by omega), Nt.lb_set_eq (by omega)]; simp [Nt.lb]
    | succ j =>
      rw [show o + (j + 1) = o + 1 + j by omega, h4 j (by rw [List.length_cons] at hj; omega)]
      simp [Nt.lb]
theorem news_row {w w' : World} {g k : Nat} {xs ra : List Int} (h : Row .u32 96 w g (xs ++ ra)) (hb : Below w.heap.size w w') : ∀ j u, ((xs.drop k).map (Value.int .u32))[j]? = some u → w'.cell? ((⟨g, k, none⟩ : Addr).add j) = some u := by
  intro j u hu
  have hj : j < (xs.drop k).length := by have := (List.getElem?_eq_some_iff.1 hu).1; simpa using this
  rw [List.length_drop] at hj
  rw [Addr.add_lit, (h.keeps hb).cell (by rw [List.length_append]; omega), lb_append_left (by omega)]
  simp [List.getElem?_drop] at hu
  obtain ⟨a, ha, rfl⟩ := hu
  simp [Nt.lb, ha]
theorem ints_one (xs : List Int) : ∀ u ∈ xs.map (Value.int .u32), u.oneCell' = true := by
  intro u hu
  simp only [List.mem_map] at hu
  obtain ⟨a, _, rfl⟩ := hu
  rfl
theorem row_new' {w w' : World} {m : Nat} (h : w'.heap = (w.alloc (.cells (Array.replicate m (Value.int .u32 0)) 96)).heap) : Row .u32 96 w' w.heap.size (List.replicate m 0) := by
  unfold Row
  rw [h, heap_alloc_new]
  simp
theorem spare_row {w' : World} {g k : Nat} {zs : List Int} (h : Row .u32 96 w' g zs) {n : Nat} (hn : n ≤ zs.length) : ∀ j, j < n → (w'.cell? ⟨g, 0 + 0 * 1 + j, none⟩).isSome = true ∧ w'.frozen? ⟨g, 0 + 0 * 1 + j, none⟩ = false := by
  intro j hj
  rw [show 0 + 0 * 1 + j = j by omega, h.cell (by omega)]
  exact ⟨rfl, h.frozen j⟩
theorem digit_M {w : World} {ro bo : Option Addr} {rn rc bc l M : Nat} {rs bs : List Int} (hM : M = l + 1) (hrn : rs.length = rn) (hrl : rn ≤ l + 2) (hbn : bs.length = M) (lm : l ≤ 1099511627775) (hr : Cells .u32 w ro rs) (hro : Nt.Ok rs) (hb : Cells .u32 w bo bs) (hbo : Nt.Ok bs) (hbp : 0 < Nt.lb bs l) (hlt : Nt.val rs < 4294967296 * Nt.val bs) :
    Calls Tryz.prog 157 #[.slice ro rn rc, .slice bo M bc] w fun e w' => e = .returned (.int .u32 (Nt.val rs / Nt.val bs)) ∧ Still w w' := by
  subst hM
  exact digit_any hrn hrl hbn lm hr hro hb hbo hbp hlt
theorem vt_take' (xs : List Int) (n : Nat) : Nt.val (xs.take n) = Nt.vt xs n := by
  have h : ∀ m, m ≤ n → Nt.vt (xs.take n) m = Nt.vt xs m := fun m hm => Nt.vt_congr fun i hi => Nt.lb_take (by omega)
  rw [← Nt.vt_out (xs := xs.take n) (n := n) (by rw [List.length_take]; omega)]
  exact h n (Nat.le_refl _)
theorem ok_take' {xs : List Int} (h : Nt.Ok xs) (n : Nat) : Nt.Ok (xs.take n) := by
  intro i
  by_cases c : i < n
  · rw [Nt.lb_take c]; exact h i
  · rw [Nt.lb_take_out (by omega)]; exact ⟨by decide, by decide⟩
theorem row_front {w : World} {g : Nat} {xs ra : List Int} {N : Nat} (hN : xs.length = N) (h : Row .u32 96 w g (xs ++ ra)) : Cells .u32 w (some ⟨g, 0, none⟩) xs := by
  have := row_cells (off := 0) (n := N) h (by rw [List.length_append]; omega)
  rw [List.drop_zero, ← hN, List.take_left] at this
  exact this
theorem row_part {w : World} {g : Nat} {zs : List Int} {n : Nat} (h : Row .u32 96 w g zs) (hn : n ≤ zs.length) : Cells .u32 w (some ⟨g, 0, none⟩) (zs.take n) := by
  have := row_cells (off := 0) (n := n) h (by omega)
  rw [List.drop_zero] at this
  exact this
/-- what the places of the quotient and the rest tell so far -/
structure DivInv (xs ys : List Int) (k0 M l kk n : Nat) (rs qs : List Int) : Prop where
  hk : kk ≤ k0 + 1
  ln : l ≤ n
  nM : n ≤ M
  rl : rs.length = M + 1
  ro : Nt.Ok rs
  ql : qs.length = k0 + 1
  qo : Nt.Ok qs
  q0 : ∀ j, j < kk → Nt.lb qs j = 0
  lt : Nt.vt rs n < Nt.val ys
  eq : Nt.val xs = Nt.vt xs kk + Nt.val qs * Nt.val ys + Nt.vt rs n * Nt.pw kk
theorem div_start {xs ys rs : List Int} {k0 M l N : Nat} (hN : xs.length = N) (hM : ys.length = M) (hk : N = k0 + M) (hl : M = l + 1) (hx : Nt.Ok xs) (hy : Nt.Canon ys) (rl : rs.length = M + 1) (ro : Nt.Ok rs) (hv : ∀ j, j < l → Nt.lb rs j = Nt.lb (xs.drop (k0 + 1)) j) :
    DivInv xs ys k0 M l (k0 + 1) l rs (List.replicate (k0 + 1) 0) := by
  have e1 : Nt.vt rs l = Nt.vt (xs.drop (k0 + 1)) l := Nt.vt_congr hv
  have e2 := Nt.vt_drop xs (k0 + 1) l
  rw [show k0 + 1 + l = xs.length by omega] at e2
  have hlow := Nt.canon_low hy (by intro e; subst e; simp at hM; omega)
  rw [hM, show M - 1 = l by omega] at hlow
  have hb := (Nt.vt_bounds ro l).2
  refine ⟨Nat.le_refl _, Nat.le_refl _, by omega, rl, ro, by simp, Nt.ok_replicate _, fun j _ => Nt.lb_replicate _ _, by omega, ?_⟩
  rw [Nt.val_replicate, e1]
  unfold Nt.val
  rw [e2, Int.zero_mul, Int.mul_comm]
  omega
theorem div_round {xs ys rs qs ts us : List Int} {k0 M l j n n2 : Nat} (hx : Nt.Ok xs) (hpos : 0 < Nt.val ys) (h : DivInv xs ys k0 M l (j + 1) n rs qs) (e1 : Nt.vt ts (n + 1) = Nt.lb xs j + 4294967296 * Nt.vt rs n) (ul : us.length = M + 1) (uo : Nt.Ok us)
    (e2 : Nt.vt us (n + 1) = Nt.vt ts (n + 1) - Nt.vt ts (n + 1) / Nt.val ys * Nt.val ys) (hn2 : l ≤ n2) (hn2' : n2 ≤ M) (e3 : Nt.vt us n2 = Nt.vt us (n + 1)) : DivInv xs ys k0 M l j n2 us (qs.set j (Nt.vt ts (n + 1) / Nt.val ys)) := by
  have lx := hx j
  have r0 := (Nt.vt_bounds h.ro n).1
  have hlt := h.lt
  have b0 : 0 ≤ Nt.vt ts (n + 1) := by omega
  have b1 : Nt.vt ts (n + 1) < 4294967296 * Nt.val ys := by omega
  have d0 : 0 ≤ Nt.vt ts (n + 1) / Nt.val ys := Int.ediv_nonneg b0 (Int.le_of_lt hpos)
  have d1 : Nt.vt ts (n + 1) / Nt.val ys < 4294967296 := Int.ediv_lt_of_lt_mul hpos b1
  have m1 := Int.emod_lt_of_pos (Nt.vt ts (n + 1)) hpos
  have m2 := Int.emod_def (Nt.vt ts (n + 1)) (Nt.val ys)
  rw [Int.mul_comm] at m2
  have hset := Nt.vt_set_any qs j (Nt.vt ts (n + 1) / Nt.val ys) h.ql (by have := h.hk; omega)
  rw [h.q0 j (by omega)] at hset
  have heq := h.eq
  rw [Nt.vt_succ, Nt.pw_succ] at heq
  refine ⟨by have := h.hk; omega, hn2, hn2', ul, uo, by rw [List.length_set]; exact h.ql, Nt.ok_set h.qo ⟨d0, d1⟩, fun i hi => by rw [Nt.lb_set_ne (by omega)]; exact h.q0 i (by omega), by omega, ?_⟩
  rw [hset]
  exact Nt.div_step (R' := Nt.vt us n2) heq (by rw [← e1]; omega)
theorem trim_ok {ys us : List Int} {M l n2 : Nat} (hM : ys.length = M) (hy : Nt.Ok ys) (uo : Nt.Ok us) (hlt : Nt.vt us n2 < Nt.val ys) (hn : n2 ≤ M + 1) (htop : ¬ Nt.lb us (n2 - 1) = 0) : n2 ≤ M := by
  rcases Nat.lt_or_ge M n2 with h | h
  · have e : n2 = M + 1 := by omega
    subst e
    rw [Nat.add_sub_cancel] at htop
    have h1 := Nt.val_lt hy
    rw [hM] at h1
    have h2 := Nt.vt_succ us M
    have h3 := (Nt.vt_bounds uo M).1
    have h4 := uo M
    have h5 : 1 * Nt.pw M ≤ Nt.lb us M * Nt.pw M := Int.mul_le_mul_of_nonneg_right (by omega) (by have := Nt.pw_pos M; omega)
    omega
  · exact h
def slen : Value → Nat
  | .slice _ n _ => n
  | _ => 0
/-- the other rows, and what is kept -/
structure Oth (w0 w : World) (gq ga gb : Nat) (qs xa yb : List Int) : Prop where
  q : Row .u32 96 w gq qs
  a : Row .u32 96 w ga xa
  b : Row .u32 96 w gb yb
  k : Below w0.heap.size w0 w
theorem Oth.only {w0 w w' : World} {gq ga gb gr : Nat} {qs xa yb : List Int} (h : Oth w0 w gq ga gb qs xa yb) (ho : Only gr w w') (h1 : gq < gr) (h2 : ga < gr) (h3 : gb < gr) (hw : w0.heap.size ≤ gr) : Oth w0 w' gq ga gb qs xa yb :=
  ⟨ho.row (by omega) h.q, ho.row (by omega) h.a, ho.row (by omega) h.b, h.k.trans (ho.below hw h.k.size)⟩
theorem Oth.alloc {w0 w : World} {gq ga gb : Nat} {qs xa yb : List Int} (h : Oth w0 w gq ga gb qs xa yb) (o : Obj) : Oth w0 (w.alloc o) gq ga gb qs xa yb :=
  ⟨h.q.keeps ((Below.refl _ _).alloc (Nat.le_refl _) o), h.a.keeps ((Below.refl _ _).alloc (Nat.le_refl _) o), h.b.keeps ((Below.refl _ _).alloc (Nat.le_refl _) o), h.k.alloc h.k.size o⟩
theorem Oth.setQ {w0 w : World} {gq ga gb : Nat} {qs xa yb : List Int} (h : Oth w0 w gq ga gb qs xa yb) (j : Nat) (d : Int) (h2 : ga < gq) (h3 : gb < gq) (hw : w0.heap.size ≤ gq) : Oth w0 (w.setCell ⟨gq, j, none⟩ (.int .u32 d)) gq ga gb (qs.set j d) xa yb :=
  ⟨h.q.set j d, h.a.setOther j _ (by omega), h.b.setOther j _ (by omega), h.k.setCell (p := ⟨gq, j, none⟩) hw _⟩
theorem arg_row {w : World} {g n c : Nat} {zs : List Int} (h : Row .u32 96 w g zs) (ho : Nt.Ok zs) (hn : n ≤ zs.length) (hc : n ≤ c) (hm : c ≤ 1099511627777) : Arg w (.slice (some ⟨g, 0, none⟩) n c) (Nt.vt zs n) n := by
  have hl : (zs.take n).length = n := by rw [List.length_take]; omega
  exact ⟨zs.take n, ⟨_, c, by rw [hl], by rw [hl]; exact hc, by unfold maxLen; omega, row_part h hn⟩, ok_take' ho n, vt_take' zs n, by omega⟩
theorem div_end {xs ys rs qs : List Int} {k0 M l nn : Nat} {n d : Int} (h : DivInv xs ys k0 M l 0 nn rs qs) (hx : Nt.val xs = n) (hy : Nt.val ys = d) (hpos : 0 < Nt.val ys) : Nt.val qs = n / d ∧ Nt.vt rs nn = n % d := by
  have he := h.eq
  have h0 := (Nt.vt_bounds h.ro nn).1
  have hl := h.lt
  rw [Nt.vt_zero, Nt.pw_zero] at he
  have := (Int.ediv_emod_unique (a := Nt.val xs) (r := Nt.vt rs nn) (q := Nt.val qs) hpos).2 ⟨by rw [Int.mul_comm]; omega, h0, hl⟩
  rw [← hx, ← hy]
  exact ⟨this.1.symm, this.2.symm⟩
theorem first_met {w3 W : World} {m l : Nat} {zs : List Int} (hW : W.heap = (w3.alloc (.cells (Array.replicate m (Value.int .u32 0)) 96)).heap) (hbW : Below w3.heap.size w3 W) (hl : zs.length = l) (hlm : l ≤ m) (ho : Nt.Ok zs) :
    ∃ rs : List Int, Value.slice (some ⟨w3.heap.size, 0, none⟩) l m = Value.slice (some ⟨w3.heap.size, 0, none⟩) l m ∧ Row .u32 96 (W.setCells w3.heap.size 0 (zs.map (Value.int .u32))) w3.heap.size rs ∧ rs.length = m ∧ Nt.Ok rs ∧ (∀ j, j < l → Nt.lb rs j = Nt.lb zs j) ∧ Below w3.heap.size w3 (W.setCells w3.heap.size 0 (zs.map (Value.int .u32))) := by
  obtain ⟨rs, r1, r2, r3, r4, _, r6⟩ := row_fill zs (row_new' hW) (Nt.ok_replicate _) ho (o := 0) (by rw [List.length_replicate]; omega)
  refine ⟨rs, rfl, r1, by rw [r2, List.length_replicate], r3, fun j hj => ?_, hbW.trans (r6.below (Nat.le_refl _) hbW.size)⟩
  have := r4 j (by omega)
  rwa [show 0 + j = j by omega] at this
/-- one more, where there is room -/
theorem wpList_append_put {P : Program} (w : World) {ops : Array Oper} {rest : List Oper} {o : Oper} {a : Act} {Q : Exit → Act → World → Prop} (hgd : o.guard = none) (s x : Operand) (t : TypeId)
    (ho : o.op = .call { callee := .builtin .append, args := #[s, x], argTypes := #[t, t] }) (ht : P.underlying t = some (.slice 96)) (hinf : (P.info? 96).map (fun i => (i.zero, i.size, i.bytes)) = some (some (.int .u32 0), 1, 4))
    (g n c : Nat) (hs : a.eval s = .slice (some ⟨g, 0, none⟩) n c) (ad : Addr) (cx : Nat) (y : Int) (hx : a.eval x = .slice (some ad) 1 cx) (hc : w.cell? (ad.add 0) = some (.int .u32 y)) (hroom : n + 1 ≤ c)
    (zs : List Int) (hr : Row .u32 96 w g zs) (hn : n < zs.length)
    (h : ∀ w', Row .u32 96 w' g (zs.set n y) → Only g w w' → wpList P ops Q rest (a.put o.dst (.slice (some ⟨g, 0, none⟩) (n + 1) c)) w') : wpList P ops Q (o :: rest) a w := by
  have hcell : (w.cell? ⟨g, n, none⟩).isSome = true := by rw [hr.cell hn]; rfl
  have hfz := hr.frozen n
  have hrow := hr.set n y
  obtain ⟨i, hi, hz, hsz, hby⟩ := info_parts hinf
  have hrun := run_append_room_cells (P := P) w t o.type 96 i ht hi g 0 n c ad 1 cx [Value.int .u32 y] (by rw [hsz]; rfl) (by
    intro j u hu
    match j, hu with
    | 0, hu => rw [hc]; exact hu
    | j + 1, hu => exact absurd hu (by simp)) (by intro u hu; simp at hu; subst hu; rfl) hroom (by
    intro j hj
    have : j = 0 := by simpa using hj
    subst this
    rw [hsz]
    simpa using hcell) (by
    intro j hj
    have : j = 0 := by simpa using hj
    subst this
    rw [hsz]
    simpa using hfz)
  rw [hsz] at hrun
  refine wpList_plain hgd fun K hK => ?_
  unfold Oper.wp execOp
  simp only [ho, resolve, invoke, builtin, Sem.run_bind, Sem.run_pure, Result.andThen_ok, List.map_toArray, List.map_cons, List.map_nil, hs, hx, hrun]
  refine hK _ _ ?_
  have := h _ hrow ((Only.refl g w).set n _)
  simpa [World.setCells] using this

set_option maxRecDepth 100000 in
set_option maxHeartbeats 4000000 in
theorem rdiv_any {w : World} {va vb : Value} {n d : Int} {ka kb : Nat} (ha : Arg w va n ka) (hb : Arg w vb d kb) (hka : ka ≤ 1099511627776) (hkb : kb ≤ 1099511627776) (hd : ¬ d = 0) :
    Calls Tryz.prog 125 #[va, vb] w fun e w' => ∃ vq vr, e = .returned (.tuple #[vq, vr, .bool true]) ∧ Num w.heap.size w' vq (n / d) ka ∧ Num w.heap.size w' vr (n % d) ka ∧ Below w.heap.size w w' := by
  go_enter Tryz.func125, Tryz.ntmps125
  go_wp2_with fail
  with_reducible refine (rnorm_any ha hka).mono ?_
  rintro e w1 ⟨v1, rfl, h1, hb1⟩
  go_wp2_with fail
  with_reducible refine (rnorm_any (hb.below hb1) hkb).mono ?_
  rintro e w2 ⟨v2, rfl, h2, hb2⟩
  have HN1 := hide ((h1.below hb2))
  have HB2 := hide (below_trans hb1 hb2)
  obtain ⟨xs, ⟨ao, rfl, hx1, hx2⟩, hxc, hxv, hxl⟩ := h1.below hb2
  obtain ⟨ys, ⟨bo, rfl, hy1, hy2⟩, hyc, hyv, hyl⟩ := h2
  have hypos : 0 < ys.length := by
    rcases Nat.eq_zero_or_pos ys.length with h | h
    · have : ys = [] := List.eq_nil_of_length_eq_zero h
      subst this
      exact absurd hyv.symm hd
    · exact h
  obtain ⟨l, hl⟩ : ∃ l, ys.length = l + 1 := ⟨ys.length - 1, by omega⟩
  by_cases short : xs.length < ys.length
  · have hlt := Nt.canon_lt hxc.1 hyc short
    have hn0 := Nt.val_nonneg hxc.1
    have q0 : n / d = 0 := Int.ediv_eq_zero_of_lt (by omega) (by omega)
    have r0 : n % d = n := Int.emod_eq_of_lt (by omega) (by omega)
    have Hq0 := hide q0
    have Hr0 := hide r0
    have hs : (xs.length : Int) < (ys.length : Int) := by omega
    have hz : ¬ (ys.length : Int) = 0 := by omega
    clear hx2 hy2 hb1 hb2 h1 hlt q0 r0 hl
    go_wp2
    go_ret3
    refine ⟨_, _, rfl, ?_, ?_, HB2.out⟩
    · rw [Hq0.out]
      exact ⟨[], ⟨none, rfl, by unfold maxLen; simp, fun h => absurd h (by simp)⟩, Nt.canon_nil, rfl, by simp⟩
    · rw [Hr0.out]
      exact num_since HN1.out (Nat.le_refl _)
  obtain ⟨k0, hk0⟩ : ∃ k, xs.length = k + ys.length := ⟨xs.length - ys.length, by omega⟩
  obtain ⟨ga, ra, rfl, hga, hra⟩ := hx2 (by omega)
  obtain ⟨gb, rb, rfl, hgb, hrb⟩ := hy2 hypos
  have HX := hide hxc
  have HY := hide hyc
  have HXv := hide hxv
  have HYv := hide hyv
  clear hx2 hy2 hx1 hy1 hxc hyc hxv hyv h1 hb1 hb2 HN1 ha hb
  generalize hN : xs.length = N at *
  generalize hM : ys.length = M at *
  have HNn := hide hN
  have HMm := hide hM
  have i1 : ¬ (N : Int) < (M : Int) := by omega
  have i2 : ¬ (M : Int) = 0 := by omega
  have RA := hide hra
  have RB := hide hrb
  have bga := hra.lt
  have bgb := hrb.lt
  have HK := hide hk0
  have HL := hide hl
  have bN : N ≤ 1099511627776 := by omega
  have bM : M ≤ 1099511627776 := by omega
  have bk : k0 ≤ 1099511627776 := by omega
  have hsub : (N : Int) - (M : Int) = (k0 : Int) := by omega
  clear hN hM hra hrb short hk0 hl
  go_wp2_with (at_make; refine wpList_make_row _ rfl _ _ 61 rfl 96 .u32 4 Tryz.underlying61 Tryz.infoU32 _ _ _ _ (k0 + 1) (k0 + 1) rfl rfl (by omega) (by omega) (Nat.le_refl _) (by omega) (by unfold maxLen; omega) ?_)
  intro w3 hq3 hb3 hs3
  obtain ⟨gq, hgq⟩ : ∃ g, g = w2.heap.size := ⟨_, rfl⟩
  rw [← hgq] at hq3 hs3 ⊢
  have RQ := hide hq3
  have RA3 := hide (RA.out.keeps hb3)
  have RB3 := hide (RB.out.keeps hb3)
  have HB3 := hide (below_trans HB2.out hb3)
  have gB : w.heap.size ≤ gq := by rw [hgq]; exact HB2.out.size
  have gaq : ga < gq := by omega
  have gbq : gb < gq := by omega
  clear hq3 hb3 RA RB HB2 hgq
  go_upto_region 9 with fail
  have wr1 : IntKind.i64.wrap ((M : Int) + 1) = (M : Int) + 1 := by rw [IntKind.wrap_i64]; omega
  have wr2 : IntKind.i64.wrap (k0 : Int) = (k0 : Int) := by rw [IntKind.wrap_i64]; omega
  have wr3 : IntKind.i64.wrap ((k0 : Int) + 1) = (k0 : Int) + 1 := by rw [IntKind.wrap_i64]; omega
  have ix1 : 0 ≤ (k0 : Int) + 1 := by omega
  have ix2 : (k0 : Int) + 1 ≤ (N : Int) := by have := HK.out; omega
  have ix3 : ((k0 : Int) + 1).toNat = k0 + 1 := by omega
  have mk := mk_room ((M : Int) + 1) (M + 1) (by omega) (by omega)
  have hkN : k0 + 1 ≤ N := by have := HK.out; omega
  go_cut [9] from 32 (fun s9 w' => ∃ rs : List Int, s9 = .slice (some ⟨w3.heap.size, 0, none⟩) l (M + 1) ∧ Row .u32 96 w' w3.heap.size rs ∧ rs.length = M + 1 ∧ Nt.Ok rs ∧ (∀ j, j < l → Nt.lb rs j = Nt.lb (xs.drop (k0 + 1)) j) ∧ Below w3.heap.size w3 w')
  case first =>
    obtain ⟨i0, hi0, hz0, hs0, hby0⟩ := info_parts Tryz.infoU32
    have Hinf := hide (And.intro hi0 hs0)
    have Hln : Hid (((xs.drop (k0 + 1)).map (Value.int .u32)).length = l * 1) := hide (by rw [List.length_map, List.length_drop, HNn.out]; have := HK.out; have := HL.out; omega)
    have Hln1 : Hid (((xs.drop (k0 + 1)).map (Value.int .u32)).length = l) := hide (by rw [Hln.out]; omega)
    have hlM : l ≤ M := by have := HL.out; omega
    clear hi0 hz0 hs0 hby0
    have Hln2 : Hid ((xs.drop (k0 + 1)).length = l) := hide (by rw [← Hln1.out, List.length_map])
    have Hok := hide (Nt.ok_drop HX.out.1 (k0 + 1))
    have hcp : N - (k0 + 1) = l := by have := HK.out; have := HL.out; omega
    by_cases m1 : M = 1
    · have hne : (N = k0 + 1) = True := eq_true (by have := HK.out; omega)
      have hnews : ∀ (w' : World) (j : Nat) (u : Value), ((xs.drop (k0 + 1)).map (Value.int .u32))[j]? = some u → w'.cell? ((⟨ga, 0, none⟩ : Addr).add j) = some u := by
        intro w' j u hu
        have := (List.getElem?_eq_some_iff.1 hu).1
        rw [Hln1.out] at this
        have := HL.out
        omega
      have Hnews := hide hnews
      clear hnews m1
      go_region_law (refine step_append_room rfl (.tmp 34) (.tmp 41) 61 rfl 96 _ 1 Tryz.underlying61 Hinf.out.1 Hinf.out.2 w3.heap.size 0 0 (M + 1) (by simp [Act.eval]) ⟨ga, 0, none⟩ l l ((xs.drop (k0 + 1)).map (Value.int .u32)) (by simp [Act.eval]) Hln.out (Hnews.out _) (ints_one _) (by omega) (by rw [Hln1.out]; exact spare_row (k := 0) (row_new' rfl) (by simp; omega)) ?_)
      all_goals go_wp2
      all_goals go_meet
      all_goals
        rw [← List.map_drop]
        refine first_met (w3 := w3) (m := M + 1) ?_ ?_ Hln2.out (by omega) Hok.out
        · rfl
        · first | exact (((Below.refl _ _).alloc (Nat.le_refl _) _).drew) | exact ((Below.refl _ _).drew.alloc (Nat.le_refl _) _)
    · have hne : ¬ N = k0 + 1 := by have := HK.out; omega
      go_region_law (refine step_append_room rfl (.tmp 34) (.tmp 41) 61 rfl 96 _ 1 Tryz.underlying61 Hinf.out.1 Hinf.out.2 w3.heap.size 0 0 (M + 1) (by simp [Act.eval]) ⟨ga, k0 + 1, none⟩ l l ((xs.drop (k0 + 1)).map (Value.int .u32)) (by simp [Act.eval]) Hln.out (news_row RA3.out (by first | exact (((Below.refl _ _).alloc (Nat.le_refl _) _).drew) | exact ((Below.refl _ _).drew.alloc (Nat.le_refl _) _))) (ints_one _) (by omega) (by rw [Hln1.out]; exact spare_row (k := 0) (row_new' rfl) (by simp; omega)) ?_)
      all_goals go_wp2
      all_goals go_meet
      all_goals
        rw [← List.map_drop]
        refine first_met (w3 := w3) (m := M + 1) ?_ ?_ Hln2.out (by omega) Hok.out
        · rfl
        · first | exact (((Below.refl _ _).alloc (Nat.le_refl _) _).drew) | exact ((Below.refl _ _).drew.alloc (Nat.le_refl _) _)
  case rest =>
    obtain ⟨rs0, rfl, hrow0, hrl0, hro0, hrv0, hb4⟩ := hcut
    rename World => w4
    have DI0 := hide (div_start HNn.out HMm.out HK.out HL.out HX.out.1 HY.out hrl0 hro0 hrv0)
    have RQ4 := hide (RQ.out.keeps hb4)
    have RA4 := hide (RA3.out.keeps hb4)
    have RB4 := hide (RB3.out.keeps hb4)
    have HB4 := hide (below_trans HB3.out hb4)
    obtain ⟨gr, hgr⟩ : ∃ g, g = w3.heap.size := ⟨_, rfl⟩
    rw [← hgr] at hrow0 hs3 ⊢
    have RR4 := hide hrow0
    have Hpos : Hid (0 < Nt.val ys) := hide (by have := Nt.val_nonneg HY.out.1; have h1 := HYv.out; omega)
    have Htop : Hid (0 < Nt.lb ys l) := hide (by
      have h1 := HY.out.2 (by intro e; have := HMm.out; subst e; simp at this; omega)
      rw [HMm.out, HL.out, Nat.add_sub_cancel] at h1
      have h2 := HY.out.1 l
      omega)
    clear hrow0 hrl0 hro0 hrv0 hb4 RQ RA3 RB3 HB3 hgr mk ix1 ix2 ix3 wr3 wr2 wr1
    go_wp2
    go_loopw [9, 10] (fun sr si wr => ∃ (kk nn : Nat) (v : Int) (rs qs : List Int), si = .int .i64 v ∧ v = (kk : Int) - 1 ∧ sr = .slice (some ⟨gr, 0, none⟩) nn (M + 1) ∧ Hid (DivInv xs ys k0 M l kk nn rs qs) ∧ Hid (Row .u32 96 wr gr rs) ∧ Hid (Row .u32 96 wr gq qs) ∧ Hid (Row .u32 96 wr ga (xs ++ ra)) ∧ Hid (Row .u32 96 wr gb (ys ++ rb)) ∧ Hid (Below w.heap.size w wr)) (fun _ si _ => (intOf si + 1).toNat)
    case atStart => exact ⟨k0 + 1, l, _, rs0, List.replicate (k0 + 1) 0, rfl, by omega, rfl, DI0, RR4, RQ4, RA4, RB4, HB4⟩
    case round =>
      rename_i hrel
      obtain ⟨kk, nn, v, rs, qs, rfl, hv, rfl, DI, RR, RQ, RA, RB, HB⟩ := hrel
      cases kk with
      | zero =>
        obtain rfl : v = -1 := by omega
        clear hv
        have De := hide (div_end DI.out HXv.out HYv.out Hpos.out)
        have kN : k0 + 1 ≤ ka := by have := HK.out; have := HL.out; omega
        have kM : nn ≤ ka := by have := DI.out.nM; have := HK.out; omega
        have A1 := hide (arg_row RQ.out DI.out.qo (n := k0 + 1) (c := k0 + 1) (by rw [DI.out.ql]; exact Nat.le_refl _) (Nat.le_refl _) (by omega))
        have A2 := hide (arg_row RR.out DI.out.ro (n := nn) (c := M + 1) (by rw [DI.out.rl]; have := DI.out.nM; omega) (by have := DI.out.nM; omega) (by omega))
        have e1 : Nt.vt qs (k0 + 1) = Nt.val qs := by rw [← DI.out.ql]; rfl
        rw [e1, De.out.1] at A1
        rw [De.out.2] at A2
        clear e1 De DI RR RQ RA RB DI0 RR4 RQ4 RA4 RB4 HB4
        go_wp2_with fail
        with_reducible refine (rnorm_any A1.out (by omega)).mono ?_
        rintro e wx ⟨vq, rfl, hq, hbx⟩
        have Hq := hide hq
        have HBx := hide (below_trans HB.out hbx)
        have A3 := hide (A2.out.below hbx)
        have hwx := HB.out.size
        have hwy := hbx.size
        clear hq hbx A1 A2 HB
        go_wp2_with fail
        with_reducible refine (rnorm_any A3.out (by omega)).mono ?_
        rintro e wy ⟨vr, rfl, hr, hby⟩
        have Hr := hide ((num_since hr (Nat.le_trans hwx hwy)).mono kM)
        have Hq2 := hide ((num_since (Hq.out.below hby) hwx).mono kN)
        have HBy := hide (below_trans HBx.out hby)
        clear hr hby Hq HBx A3
        go_wp2
        go_ret3
        exact ⟨_, _, rfl, Hq2.out, Hr.out, HBy.out⟩
      | succ j =>
        obtain rfl : v = (j : Int) := by omega
        clear hv
        have l1 := DI.out.ln
        have l2 := DI.out.nM
        have l3 := DI.out.hk
        have hwz := RR.out.lt
        have gqr : gq < gr := hs3
        have gar : ga < gr := by omega
        have gbr : gb < gr := by omega
        have gwr : w.heap.size ≤ gr := by omega
        go_wp2_with (at_builtin; refine wpList_append_put _ rfl _ _ 61 rfl Tryz.underlying61 Tryz.infoU32 gr nn (M + 1) rfl ⟨wr.heap.size, 0, none⟩ 1 0 rfl (by rw [Addr.add_lit, World.cell?_alloc_at _ _ _ _ rfl]; rfl) (by omega) rs (RR.out.keeps ((Below.refl _ _).alloc (Nat.le_refl _) _)) (by rw [DI.out.rl]; omega) ?_)
        intro w5 hr5 ho5
        have O5 := hide (((Oth.alloc ⟨RQ.out, RA.out, RB.out, HB.out⟩ _).only ho5 gqr gar gbr gwr))
        have R5 := hide hr5
        clear hr5 ho5 RQ RA RB HB RR DI0 RR4 RQ4 RA4 RB4 HB4 hwz
        go_wp2
        go_loopw [11] (fun sk w' => ∃ (kn : Nat) (v : Int) (zs : List Int), sk = .int .i64 v ∧ v = (kn : Int) ∧ kn ≤ nn ∧ Hid (zs.length = M + 1) ∧ Hid (Nt.Ok zs) ∧ Hid (Row .u32 96 w' gr zs) ∧ Hid (Oth w w' gq ga gb qs (xs ++ ra) (ys ++ rb)) ∧ Hid (∀ i, kn < i → i ≤ nn → Nt.lb zs i = Nt.lb rs (i - 1)) ∧ Hid (∀ i, i ≤ kn → i < nn → Nt.lb zs i = Nt.lb rs i)) (fun sk _ => (intOf sk).toNat)
        case atStart => exact ⟨nn, _, rs.set nn 0, rfl, by omega, Nat.le_refl _, hide (by rw [List.length_set]; exact DI.out.rl), hide (Nt.ok_set DI.out.ro (by omega)), R5, O5, hide (fun i h1 h2 => by omega), hide (fun i h1 h2 => Nt.lb_set_ne (by omega) _)⟩
        case round =>
          rename_i hrel
          obtain ⟨kn, v, zs, rfl, hv, hkn, Zl, Zo, R6, O6, Z1, Z2⟩ := hrel
          cases kn with
          | succ t =>
            obtain rfl : v = (t : Int) + 1 := by omega
            clear hv
            have g1 := R6.out.cell (i := t) (by rw [Zl.out]; omega)
            have g2 := R6.out.cell (i := t + 1) (by rw [Zl.out]; omega)
            have g3 := R6.out.frozen (t + 1)
            have zt := Zo.out t
            have R6' := hide (R6.out.set (t + 1) (Nt.lb zs t))
            have O6' := hide (O6.out.only ((Only.refl gr _).set (t + 1) (.int .u32 (Nt.lb zs t))) gqr gar gbr gwr)
            have Zt : Hid (Nt.lb zs t = Nt.lb rs t) := hide (Z2.out t (by omega) (by omega))
            have i3 : (t : Int) < (nn : Int) + 1 := by omega
            have i4 : (t : Int) + 1 < (nn : Int) + 1 := by omega
            clear R6 O6
            go_wp2
            go_roundw
            case rel => exact ⟨t, _, zs.set (t + 1) (Nt.lb zs t), rfl, rfl, by omega, hide (by rw [List.length_set]; exact Zl.out), hide (Nt.ok_set Zo.out zt), R6', O6', hide (fun i h1 h2 => by
              by_cases e : i = t + 1
              · subst e; rw [Nt.lb_set_eq (by rw [Zl.out]; omega), Zt.out, Nat.add_sub_cancel]
              · rw [Nt.lb_set_ne (by omega)]; exact Z1.out i (by omega) h2), hide (fun i h1 h2 => by rw [Nt.lb_set_ne (by omega)]; exact Z2.out i (by omega) h2)⟩
            case measure => simp [intOf]
          | zero =>
            obtain rfl : v = 0 := by omega
            clear hv
            have xo := HX.out.1 j
            have jN : (j : Int) < (N : Int) := by have := HK.out; have := HL.out; omega
            have n0 : (0 : Int) < (nn : Int) + 1 := by omega
            have g1 := O6.out.a.cell (i := j) (by rw [List.length_append, HNn.out]; omega)
            rw [lb_append_left (by rw [HNn.out]; omega)] at g1
            have g2 := R6.out.cell (i := 0) (by rw [Zl.out]; omega)
            have g3 := R6.out.frozen 0
            have R7 := hide (R6.out.set 0 (Nt.lb xs j))
            have O7 := hide (O6.out.only ((Only.refl gr _).set 0 (.int .u32 (Nt.lb xs j))) gqr gar gbr gwr)
            have Tl : Hid ((zs.set 0 (Nt.lb xs j)).length = M + 1) := hide (by rw [List.length_set]; exact Zl.out)
            have To : Hid (Nt.Ok (zs.set 0 (Nt.lb xs j))) := hide (Nt.ok_set Zo.out xo)
            have Tv : Hid (Nt.vt (zs.set 0 (Nt.lb xs j)) (nn + 1) = Nt.lb xs j + 4294967296 * Nt.vt rs nn) := hide (by
              rw [Nt.vt_shift (xs := rs) nn (fun i hi => by rw [Nt.lb_set_ne (by omega), Z1.out (i + 1) (by omega) (by omega), Nat.add_sub_cancel]), Nt.lb_set_eq (by rw [Zl.out]; omega)])
            have Tlt : Hid (Nt.vt (zs.set 0 (Nt.lb xs j)) (nn + 1) < 4294967296 * Nt.val ys) := hide (by rw [Tv.out]; have := DI.out.lt; omega)
            have Tge : Hid (0 ≤ Nt.vt (zs.set 0 (Nt.lb xs j)) (nn + 1)) := hide ((Nt.vt_bounds To.out _).1)
            clear R6 O6 Z1 Z2 Zl Zo
            generalize zs.set 0 (Nt.lb xs j) = ts at *
            have dg := hide (digit_M (rc := M + 1) (bc := M) HL.out (rs := ts.take (nn + 1)) (rn := nn + 1) (by rw [List.length_take, Tl.out]; omega) (by have := HL.out; omega) HMm.out (by have := HL.out; omega) (row_part R7.out (by rw [Tl.out]; omega)) (ok_take' To.out _) (row_front HMm.out O7.out.b) HY.out.1 Htop.out (by rw [vt_take']; exact Tlt.out))
            rw [vt_take'] at dg
            have d0 : 0 ≤ Nt.vt ts (nn + 1) / Nt.val ys := Int.ediv_nonneg Tge.out (Int.le_of_lt Hpos.out)
            have d1 : Nt.vt ts (nn + 1) / Nt.val ys < 4294967296 := Int.ediv_lt_of_lt_mul Hpos.out Tlt.out
            have Dge : Hid (Nt.vt ts (nn + 1) / Nt.val ys * Nt.val ys ≤ Nt.vt ts (nn + 1)) := hide (Int.ediv_mul_le _ (by have := Hpos.out; omega))
            obtain ⟨dd, hdd⟩ : ∃ x, x = Nt.vt ts (nn + 1) / Nt.val ys := ⟨_, rfl⟩
            have Hdd := hide hdd
            rw [← hdd] at dg d0 d1 Dge
            clear hdd
            go_wp2_with fail
            with_reducible refine dg.out.mono ?_
            rintro e w8 ⟨rfl, hst⟩
            have R8 := hide (hst.row R7.out)
            have O8 := hide (O7.out.only (hst.only gr) gqr gar gbr gwr)
            clear dg hst R7 O7 g1 g2 g3
            have of := hide (offr_any (rc := M + 1) (bc := M) R8.out To.out (n := nn + 1) (by rw [Tl.out]; omega) HMm.out (by have := HL.out; omega) (by omega) (row_front HMm.out O8.out.b) HY.out.1 (fun _ => away_some (by omega)) ⟨d0, d1⟩ Dge.out)
            go_wp2_with fail
            with_reducible refine of.out.mono ?_
            rintro e w9 ⟨us, rfl, ul, uo, -, uv, hr9, ho9⟩
            have R9 := hide hr9
            have O9 := hide (O8.out.only ho9 gqr gar gbr gwr)
            have Ul := hide (ul.trans Tl.out)
            have Uo := hide uo
            have Uv := hide uv
            clear of hr9 ho9 ul uo uv R8 O8
            have g1 := O9.out.q.cell (i := j) (by rw [DI.out.ql]; omega)
            have g2 := O9.out.q.frozen j
            have jk : (j : Int) < (k0 : Int) + 1 := by omega
            have R10 := hide (R9.out.setOther j (.int .u32 dd) (k := gq) (by omega))
            have O10 := hide (O9.out.setQ j dd gaq gbq gB)
            clear R9 O9
            go_wp2
            go_loopw [9] (fun sr w' => ∃ n2 : Nat, sr = .slice (some ⟨gr, 0, none⟩) n2 (M + 1) ∧ l ≤ n2 ∧ n2 ≤ nn + 1 ∧ Hid (Nt.vt us n2 = Nt.vt us (nn + 1)) ∧ Hid (Row .u32 96 w' gr us) ∧ Hid (Oth w w' gq ga gb (qs.set j dd) (xs ++ ra) (ys ++ rb))) (fun sr _ => slen sr)
            case atStart => exact ⟨nn + 1, rfl, by omega, Nat.le_refl _, hide rfl, R10, O10⟩
            case round =>
              rename_i hrel
              obtain ⟨n2, rfl, m1, m2, Vn, R11, O11⟩ := hrel
              have dn : n2 ≤ M → DivInv xs ys k0 M l j n2 us (qs.set j dd) := fun h => by
                have e2 := Uv.out
                rw [Hdd.out] at e2 ⊢
                exact div_round HX.out.1 Hpos.out DI.out Tv.out Ul.out Uo.out e2 m1 h Vn.out
              have Dn := hide dn
              clear dn
              by_cases sh : n2 < M
              · have i5 : ¬ (M : Int) ≤ (n2 : Int) := by omega
                have DN := hide (Dn.out (by omega))
                clear Dn
                go_wp2
                go_roundw
                case rel => exact ⟨j, n2, _, us, qs.set j dd, rfl, by omega, rfl, DN, R11, hide O11.out.q, hide O11.out.a, hide O11.out.b, hide O11.out.k⟩
                case measure => simp [intOf]
              · obtain ⟨t, rfl⟩ : ∃ t, n2 = t + 1 := ⟨n2 - 1, by have := HL.out; omega⟩
                have i5 : (M : Int) ≤ (t : Int) + 1 := by omega
                have g5 := R11.out.cell (i := t) (by rw [Ul.out]; omega)
                have i6 : (t : Int) < (t : Int) + 1 := by omega
                have i7 : (t : Int) ≤ (M : Int) + 1 := by omega
                by_cases z : Nt.lb us t = 0
                · have Vt : Hid (Nt.vt us t = Nt.vt us (nn + 1)) := hide (by rw [← Vn.out, Nt.vt_succ, z]; simp)
                  rw [z] at g5
                  clear z
                  go_wp2
                  go_roundw
                  case rel => exact ⟨t, rfl, by have := HL.out; omega, by omega, Vt, R11, O11⟩
                  case measure => simp [slen]
                · have DN := hide (Dn.out (trim_ok (l := l) HMm.out HY.out.1 Uo.out (by
                    have e2 := Uv.out
                    rw [Vn.out, e2, Hdd.out]
                    have m1 := Int.emod_lt_of_pos (Nt.vt ts (nn + 1)) Hpos.out
                    have m2 := Int.emod_def (Nt.vt ts (nn + 1)) (Nt.val ys)
                    rw [Int.mul_comm] at m2
                    omega) (by omega) (by rw [Nat.add_sub_cancel]; exact z)))
                  have z' : (Nt.lb us t != 0) = true := by simpa using z
                  clear Dn
                  go_wp2
                  go_roundw
                  case rel => exact ⟨j, t + 1, _, us, qs.set j dd, rfl, by omega, rfl, DN, R11, hide O11.out.q, hide O11.out.a, hide O11.out.b, hide O11.out.k⟩
                  case measure => simp [intOf]

end Go.Proofs.YtinfkoiifemjmaaGreatDoor
