/- crucibleref01: Mul -/
import Derived.Test.YtlfkfeedopgfjacGreatDoorRefC
import Derived.Deep.QuietTactic
import Derived.BigQuiet
namespace Go.Proofs.YtlfkfeedopgfjacGreatDoor
open Go.RowKit

theorem b_val_set {zs : List Int} {i : Nat} (hi : i < zs.length) (q : Int) : Nb.val (zs.set i q) = Nb.val zs + (q - Nt.lb zs i) * Nb.pw i := by
  have : ∀ n, i < n → Nb.vt (zs.set i q) n = Nb.vt zs n + (q - Nt.lb zs i) * Nb.pw i := by
    intro n
    induction n with
    | zero => intro h; omega
    | succ n ih =>
      intro h
      rw [Nb.vt_succ, Nb.vt_succ]
      by_cases e : i = n
      · subst e; rw [Nb.vt_set (Nat.le_refl _), Nt.lb_set_eq hi, Int.sub_mul]; omega
      · rw [Nt.lb_set_ne e, ih (by omega)]; omega
  unfold Nb.val
  rw [List.length_set]
  exact this _ hi

/-- a byte laid, the rest carried on -/
theorem lay_step {zs : List Int} {p : Nat} {c d : Int} (hp : p < zs.length) :
    Nb.val (zs.set p ((Nt.lb zs p + d + c) % 256)) + (Nt.lb zs p + d + c) / 256 * Nb.pw (p + 1) = Nb.val zs + c * Nb.pw p + d * Nb.pw p := by
  rw [b_val_set hp, Nb.pw_succ]
  have e := byte_step (V := Nb.val zs) (x := Nt.lb zs p + d + c) (P := Nb.pw p)
  rw [Int.sub_mul]
  rw [Int.add_mul, Int.add_mul] at e
  omega
theorem mul_lt {a b P Q : Int} (ha : 0 ≤ a ∧ a < P) (hb : 0 ≤ b ∧ b < Q) : a * b < P * Q := by
  have h1 : a * b ≤ a * Q := Int.mul_le_mul_of_nonneg_left (by omega) ha.1
  have h2 : (a + 1) * Q ≤ P * Q := Int.mul_le_mul_of_nonneg_right (by omega) (by omega)
  rw [Int.add_mul] at h2
  omega
theorem byte_prod {x y : Int} (hx : 0 ≤ x ∧ x < 256) (hy : 0 ≤ y ∧ y < 256) : 0 ≤ x * y ∧ x * y ≤ 65025 := by
  refine ⟨Int.mul_nonneg hx.1 hy.1, ?_⟩
  have h1 : x * y ≤ 255 * y := Int.mul_le_mul_of_nonneg_right (by omega) hy.1
  omega

theorem heap_drewN (w : World) (n : Nat) : (w.drewN n).heap = w.heap := by
  induction n with
  | zero => rfl
  | succ n ih => exact ih
theorem row_drewN {k : IntKind} {E : TypeId} {w : World} {n g : Nat} {zs : List Int} : Row k E (w.drewN n) g zs = Row k E w g zs := by
  unfold Row; rw [heap_drewN]
theorem below_drewN' {B : Nat} {a w : World} {n : Nat} (h : Below B a w) : Below B a (w.drewN n) := by
  induction n with
  | zero => exact h
  | succ n ih => exact ih.drew

set_option maxRecDepth 100000 in
set_option maxHeartbeats 4000000 in
theorem rmul_any {w : World} {va vb : Value} {n m : Int} {ka kb : Nat} (ha : Arg w va n ka) (hb : Arg w vb m kb) (hka : ka ≤ 549755813888) (hkb : kb ≤ 549755813888) :
    Calls Tryz.prog 83 #[va, vb] w fun e w' => ∃ v, e = .returned v ∧ Num w.heap.size w' v (n * m) (ka + kb + 1) ∧ Below w.heap.size w w' := by
  go_enter Tryz.func83, Tryz.ntmps83
  go_wp2_with fail
  refine (bytes_any ha (by omega)).mono ?_
  rintro e w1 ⟨v1, rfl, ⟨xs, ⟨ao, ca, rfl, hxl, hxm, hxc⟩, hx, rfl, hxk⟩, hb1⟩
  go_wp2_with fail
  refine (bytes_any (hb.below hb1) (by omega)).mono ?_
  rintro e w2 ⟨v2, rfl, ⟨ys, ⟨bo, cb, rfl, hyl, hym, hyc⟩, hy, rfl, hyk⟩, hb2⟩
  replace hxc := hxc.below hb2
  have hbb := below_trans hb1 hb2
  clear ha hb hb1 hb2
  go_wp2_with (at_make; refine wpList_make_row _ rfl _ _ 78 rfl 3 .i64 8 Tryz.underlying78 Tryz.infoI64 _ _ _ _ (xs.length + ys.length + 1) (xs.length + ys.length + 1) rfl rfl (by omega) (by omega) (Nat.le_refl _) (by omega) (by unfold maxLen; omega) ?_)
  intro w3 hr hbel hsz
  go_wp2
  go_loopw [8] (fun si wr => ∃ (i : Nat) (zs : List Int), i ≤ xs.length ∧ si = .int .i64 i ∧ zs.length = xs.length + ys.length + 1 ∧ Nb.Ok zs ∧ Nb.val zs = Nb.vt xs i * Nb.val ys ∧ Row .i64 3 wr w2.heap.size zs ∧ Below w2.heap.size w2 wr) (fun si _ => xs.length - (intOf si).toNat)
  case atStart => exact ⟨0, List.replicate (xs.length + ys.length + 1) 0, by omega, rfl, by simp, Nb.ok_replicate _, by
    have e : Nb.val (List.replicate (xs.length + ys.length + 1) 0) = 0 := by
      unfold Nb.val; rw [Nb.vt_cut (k := 0) (by omega) (fun i _ _ => Nt.lb_replicate _ _)]; rfl
    rw [e]; simp [Nb.vt], hr, hbel⟩
  case round =>
    obtain ⟨i, zs, hil, rfl, hzl, hzo, hzv, hrow, hbr⟩ := hrel
    have Hzl := hide hzl
    have Hzv := hide hzv
    clear hzl hzv hr hbel
    by_cases hlt : i < xs.length
    · obtain ⟨b1, o1, rfl, hb1, hc1⟩ := (hxc.below hbr) (by omega)
      have gx0 := hc1 i hlt
      obtain ⟨bx0, bx1⟩ := hx.1 i
      clear hc1
      have hlt' : (i : Int) < (xs.length : Int) := by omega
      go_wp2
      go_loopw [9, 10] (fun sc sk wq => ∃ (k : Nat) (c : Int) (us : List Int), k ≤ ys.length ∧ sk = .int .i64 k ∧ sc = .int .i64 c ∧ 0 ≤ c ∧ c < 256 ∧ us.length = xs.length + ys.length + 1 ∧ Nb.Ok us ∧ Nb.val us + c * Nb.pw (i + k) = Nb.vt xs i * Nb.val ys + Nt.lb xs i * Nb.vt ys k * Nb.pw i ∧
          Row .i64 3 wq w2.heap.size us ∧ Below w2.heap.size w2 wq) (fun _ sk _ => ys.length - (intOf sk).toNat)
      case atStart => exact ⟨0, 0, zs, by omega, rfl, rfl, by omega, by omega, Hzl.out, hzo, by rw [Hzv.out]; simp [Nb.vt], hrow, hbr⟩
      case round =>
        obtain ⟨k, c, us, hkl, rfl, rfl, hc0, hc1, hul, huo, huv, hrowu, hbu⟩ := hrel
        have Hul := hide hul
        have Huv := hide huv
        clear hul huv hrow gx0
        by_cases hk : k < ys.length
        · obtain ⟨b2, o2, rfl, hb2, hc2⟩ := (hyc.below hbu) (by omega)
          have gy := hc2 k hk
          obtain ⟨b1', o1', he, _, hc1'⟩ := (hxc.below hbu) (by omega)
          have gx := hc1' i hlt
          simp only [Option.some.injEq, Addr.mk.injEq, and_true] at he
          obtain ⟨rfl, rfl⟩ := he
          have gz := hrowu.cell (i := i + k) (by have := Hul.out; omega)
          have hfz := hrowu.frozen (i + k)
          obtain ⟨by0, by1⟩ := hy.1 k
          obtain ⟨bz0, bz1⟩ := huo (i + k)
          obtain ⟨p0, p1⟩ := byte_prod ⟨bx0, bx1⟩ ⟨by0, by1⟩
          have hk' : (k : Int) < (ys.length : Int) := by omega
          have hik : (i : Int) + (k : Int) < (xs.length : Int) + (ys.length : Int) + 1 := by omega
          have Hst := hide (lay_step (zs := us) (p := i + k) (c := c) (d := Nt.lb xs i * Nt.lb ys k) (by have := Hul.out; omega))
          clear hc1' hc2
          go_wp2
          go_quiet (fail)
          go_wp2
          go_roundw
          case rel => exact ⟨k + 1, (Nt.lb us (i + k) + Nt.lb xs i * Nt.lb ys k + c) / 256, us.set (i + k) ((Nt.lb us (i + k) + Nt.lb xs i * Nt.lb ys k + c) % 256), by omega, by go_num, rfl, by omega, by omega, by rw [List.length_set, Hul.out], Nb.ok_set huo (by omega), by
            rw [← Nat.add_assoc, Hst.out, Huv.out, Nb.vt_succ, Nb.pw_add, Int.mul_add, Int.add_mul]
            have e : Nt.lb xs i * Nt.lb ys k * (Nb.pw i * Nb.pw k) = Nt.lb xs i * (Nt.lb ys k * Nb.pw k) * Nb.pw i := by
              rw [Int.mul_comm (Nb.pw i), Int.mul_assoc, Int.mul_assoc, Int.mul_assoc]
            omega, Row.set (by rw [row_drewN]; exact hrowu) _ _, Below.setCell (p := ⟨w2.heap.size, i + k, none⟩) (below_drewN' hbu) (Nat.le_refl _) _⟩
          case measure => simp [intOf]; omega
        · have hke : k = ys.length := by omega
          subst hke
          have hk' : ¬ (ys.length : Int) < (ys.length : Int) := by omega
          obtain ⟨T, hT⟩ : ∃ T, T = Nb.vt xs (i + 1) * Nb.val ys := ⟨_, rfl⟩
          have hT2 : Nb.val us + c * Nb.pw (i + ys.length) = T := by
            rw [hT, Huv.out, Nb.vt_succ, Int.add_mul, Int.mul_right_comm]; rfl
          have hTb : T < Nb.pw (xs.length + ys.length) := by
            rw [hT, Nb.pw_add]
            have h1 := Nb.vt_bounds hx.1 (i + 1)
            have h2 := Nb.pw_mono (m := i + 1) (n := xs.length) (by omega)
            exact mul_lt ⟨h1.1, by omega⟩ ⟨Nb.val_nonneg hy.1, Nb.val_lt hy.1⟩
          have HT := hide hT
          have HT2 := hide hT2
          have HTb := hide hTb
          clear hT hT2 hTb Huv
          go_wp2
          go_loopw [9, 12] (fun sc sk wq => ∃ (k : Nat) (c : Int) (us : List Int), k ≤ xs.length + ys.length ∧ sk = .int .i64 k ∧ sc = .int .i64 c ∧ 0 ≤ c ∧ c < 256 ∧ us.length = xs.length + ys.length + 1 ∧ Nb.Ok us ∧ Nb.val us + c * Nb.pw k = T ∧
              Row .i64 3 wq w2.heap.size us ∧ Below w2.heap.size w2 wq) (fun _ sk _ => xs.length + ys.length - (intOf sk).toNat)
          case atStart => exact ⟨i + ys.length, c, us, by omega, by go_num, rfl, hc0, hc1, Hul.out, huo, HT2.out, hrowu, hbu⟩
          case round =>
            clear hrowu hc0 hc1 HT2 hbu
            obtain ⟨k, c, us, hkl, rfl, rfl, hc0, hc1, hul, huo, huv, hrowu, hbu⟩ := hrel
            have Hul := hide hul
            have Huv := hide huv
            clear hul huv
            by_cases hp : 0 < c
            · have hkk : k < xs.length + ys.length := by
                by_cases h : k < xs.length + ys.length
                · exact h
                · have h1 := Nb.pw_mono (m := xs.length + ys.length) (n := k) (by omega)
                  have h2 := Nb.val_nonneg huo
                  have h3 : 1 * Nb.pw k ≤ c * Nb.pw k := Int.mul_le_mul_of_nonneg_right (by omega) (by have := Nb.pw_pos k; omega)
                  have h4 := Huv.out
                  have h5 := HTb.out
                  omega
              have gz := hrowu.cell (i := k) (by have := Hul.out; omega)
              have hfz := hrowu.frozen k
              obtain ⟨bz0, bz1⟩ := huo k
              have Hst := hide (lay_step (zs := us) (p := k) (c := c) (d := 0) (by have := Hul.out; omega))
              go_wp2
              go_roundw
              case rel => exact ⟨k + 1, (Nt.lb us k + c) / 256, us.set k ((Nt.lb us k + c) % 256), by omega, by go_num, rfl, by omega, by omega, by rw [List.length_set, Hul.out], Nb.ok_set huo (by omega), by
                have h := Hst.out
                rw [Int.add_zero, Int.zero_mul, Int.add_zero] at h
                rw [h]; exact Huv.out, hrowu.set _ _, hbu.setCell (p := ⟨w2.heap.size, k, none⟩) (Nat.le_refl _) _⟩
              case measure => simp [intOf]; omega
            · have hc00 : c = 0 := by omega
              subst hc00
              go_wp2
              go_roundw
              case rel => exact ⟨i + 1, us, by omega, by go_num, Hul.out, huo, by
                have h := Huv.out
                rw [Int.zero_mul, Int.add_zero] at h
                rw [h]; exact HT.out, hrowu, hbu⟩
              case measure => simp [intOf]; omega
    · have hke : i = xs.length := by omega
      subst hke
      have hk' : ¬ (xs.length : Int) < (xs.length : Int) := by omega
      have hz2 : zs.length = xs.length + ys.length + 1 := Hzl.out
      have hfin : Nb.val zs = Nb.val xs * Nb.val ys := Hzv.out
      have hrd : Reads .i64 wr (.slice (some ⟨w2.heap.size, 0, none⟩) (xs.length + ys.length + 1) (xs.length + ys.length + 1)) zs := ⟨_, xs.length + ys.length + 1, by rw [hz2], by omega, by unfold maxLen; omega, fun _ => ⟨w2.heap.size, 0, rfl, hrow.lt, fun i hi => by rw [Nat.zero_add]; exact hrow.cell hi⟩⟩
      have hla := limbs_any (ka := xs.length + ys.length + 1) ⟨zs, hrd, hzo, rfl, by omega⟩ (by omega)
      rw [hfin] at hla
      have Hla := hide hla
      clear hfin hrd hla hz2
      go_wp2_with fail
      refine Calls.mono Hla.out ?_
      rintro e w5 ⟨v, rfl, hv, hb5⟩
      go_wp2
      go_ret
      exact ⟨v, rfl, (num_since hv (by have := hbb.size; have := hbr.size; omega)).mono (by omega), below_trans hbb (hbr.trans (hb5.mono hbr.size))⟩

end Go.Proofs.YtlfkfeedopgfjacGreatDoor
