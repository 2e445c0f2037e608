/- crucibleref01: trim, bytes, limbs -/
import Derived.Test.YticmlelalbaalaaGreatDoorRNb
import Derived.Test.YticmlelalbaalaaGreatDoorRAppZero
namespace Go.Proofs.YticmlelalbaalaaGreatDoor
open Go.RowKit

/-- a slice's length: for a loop's measure -/
def lenOfV : Value → Nat | .slice _ n _ => n | _ => 0

/-- bytes of a number -/
def BArg (w : World) (v : Value) (n : Int) (k : Nat) : Prop := ∃ zs, Reads .i64 w v zs ∧ Nb.Ok zs ∧ Nb.val zs = n ∧ zs.length ≤ k
/-- the bytes of a number: none 0 at the end -/
def BNum (w : World) (v : Value) (n : Int) (k : Nat) : Prop := ∃ zs, Reads .i64 w v zs ∧ Nb.Canon zs ∧ Nb.val zs = n ∧ zs.length ≤ k
theorem BNum.arg {w : World} {v : Value} {n : Int} {k : Nat} (h : BNum w v n k) : BArg w v n k := by
  obtain ⟨zs, h1, h2, h3, h4⟩ := h
  exact ⟨zs, h1, h2.1, h3, h4⟩
theorem BArg.below {w w' : World} {v : Value} {n : Int} {k : Nat} (h : BArg w v n k) (hb : Below w.heap.size w w') : BArg w' v n k := by
  obtain ⟨zs, h1, h2⟩ := h
  exact ⟨zs, h1.below hb, h2⟩
theorem BNum.below {w w' : World} {v : Value} {n : Int} {k : Nat} (h : BNum w v n k) (hb : Below w.heap.size w w') : BNum w' v n k := by
  obtain ⟨zs, h1, h2⟩ := h
  exact ⟨zs, h1.below hb, h2⟩

set_option maxHeartbeats 1000000 in
theorem rtrim_any {w : World} {va : Value} {A : Int} {ka : Nat} (ha : BArg w va A ka) :
    Calls Tryz.prog 155 #[va] w fun e w' => w' = w ∧ ∃ v, e = .returned v ∧ BNum w v A ka := by
  obtain ⟨xs, ⟨ao, cap, rfl, hl, hm, hc⟩, ho, rfl, hka⟩ := ha
  unfold maxLen at hm
  obtain ⟨n, hn⟩ : ∃ n, n = xs.length := ⟨_, rfl⟩
  have Hn := hide hn
  rw [← hn] at hl hka ⊢
  clear hn
  go_enter Tryz.func155, Tryz.ntmps155
  go_wp2
  go_loop [0] (fun s => ∃ k : Nat, k ≤ n ∧ s = .slice ao k cap ∧ ∀ i, k ≤ i → i < n → Nt.lb xs i = 0) (fun s => lenOfV s)
  case atStart => exact ⟨n, Nat.le_refl _, rfl, fun i h1 h2 => by omega⟩
  case round =>
    obtain ⟨k, hk, rfl, hz⟩ := hrel
    have hfin : (0 < k → Nt.lb xs (k - 1) ≠ 0) → BNum w (.slice ao k cap) (Nb.val xs) ka := by
      intro h
      have hx : n = xs.length := Hn.out
      have hlt : (xs.take k).length = k := by rw [List.length_take]; omega
      refine ⟨xs.take k, ⟨ao, cap, by rw [hlt], by omega, by unfold maxLen; omega, hc.take (by omega)⟩, Nb.canon_take ho (by omega) h, ?_, by omega⟩
      rw [Nb.val_take (by omega), ← Nb.vt_cut (xs := xs) (by omega) (fun i h1 h2 => hz i h1 h2), hx]
      rfl
    have HF := hide hfin
    clear hfin
    by_cases hp : 0 < k
    · obtain ⟨b, off, rfl, hb, hcell⟩ := hc (by have := Hn.out; omega)
      have hg := hcell (k - 1) (by have := Hn.out; omega)
      clear hcell
      have hp' : (0 : Int) < (k : Int) := by omega
      have hc0 : ¬ cap = 0 := by omega
      by_cases hq : Nt.lb xs (k - 1) = 0
      · have hq' : (Nt.lb xs (k - 1) == 0) = true := by simp [hq]
        have Hq := hide hq
        clear hq
        go_wp2
        go_round
        case rel => exact ⟨k - 1, by omega, by simp, fun i h1 h2 => by
          by_cases e : i = k - 1
          · subst e; exact Hq.out
          · exact hz i (by omega) h2⟩
        case measure => simp [lenOfV]; omega
      · have hq' : (Nt.lb xs (k - 1) == 0) = false := by simp [hq]
        have Hq := hide hq
        clear hq
        go_wp2
        go_ret
        exact ⟨rfl, _, rfl, HF.out (fun _ => Hq.out)⟩
    · have hk0 : k = 0 := by omega
      subst hk0
      go_wp2
      go_ret
      exact ⟨rfl, _, rfl, HF.out (fun h => by omega)⟩

/-- one number appended: the block that it is laid in -/
theorem cells_one (w : World) (E : TypeId) (k : IntKind) (x : Int) : Cells k (w.alloc (.cells #[.int k x] E)) (some ⟨w.heap.size, 0, none⟩) [x] := by
  intro _
  refine ⟨w.heap.size, 0, rfl, by simp, fun i hi => ?_⟩
  have hi0 : i = 0 := by simpa using hi
  subst hi0
  simp [Nt.lb]

theorem below_own {w0 w w' : World} {B : Nat} {E : TypeId} {v : Value} {n : Nat} {xs : List Value} (h : Below B w0 w) (hB : B ≤ w.heap.size) (ho : w.ownsRow B E 1 v n xs) (hg : w.grownBy w' v.ownBlock) : Below B w0 w' :=
  h.grown hg hB (fun k hk => (ho.lt k hk).1)

theorem byte_step {V x P : Int} : V + (x % 256) * P + (x / 256) * (256 * P) = V + x * P := by
  have e := Int.emod_add_mul_ediv x 256
  have e2 : (x % 256 + 256 * (x / 256)) * P = x * P := by rw [e]
  rw [Int.add_mul] at e2
  rw [← Int.mul_assoc, Int.mul_comm (x / 256) 256]
  omega

set_option maxHeartbeats 2000000 in
theorem bytes_any {w : World} {va : Value} {A : Int} {ka : Nat} (ha : Arg w va A ka) (hka : ka ≤ 1099511627776) :
    Calls Tryz.prog 125 #[va] w fun e w' => ∃ v, e = .returned v ∧ BNum w' v A (4 * ka) ∧ Below w.heap.size w w' := by
  obtain ⟨xs, ⟨ao, cap, rfl, hl, hm, hxc⟩, hx, rfl, hxk⟩ := ha
  obtain ⟨i0, hi, hz0, hz1, hz2⟩ := info_parts Tryz.infoI64
  go_enter Tryz.func125, Tryz.ntmps125
  go_wp2_with (at_make; refine wpList_make_own _ rfl _ _ 61 rfl w.heap.size 3 i0 (.int .i64 0) 1 Tryz.underlying61 hi hz0 hz1 _ _ _ (4 * xs.length) rfl rfl (by omega) ?b2 ?b3 (Nat.le_refl _) ?_)
  case b2 => rw [hz2]; omega
  case b3 => unfold maxLen; omega
  intro w0 hown0 hgrow0
  have hbel0 : Below w.heap.size w w0 := (Below.refl _ _).grown hgrow0 (Nat.le_refl _) (fun k h => by cases h)
  go_wp2
  go_loopw [3, 4] (fun out si wr => ∃ (i : Nat) (zs : List Int), i ≤ xs.length ∧ si = .int .i64 i ∧ zs.length = 4 * i ∧ Nb.Ok zs ∧ Nb.val zs = Nt.vt xs i ∧ wr.ownsRow w.heap.size 3 1 out zs.length (zs.map (Value.int .i64)) ∧ Below w.heap.size w wr)
    (fun _ si _ => xs.length - (intOf si).toNat)
  case atStart => exact ⟨0, [], by omega, rfl, rfl, Nb.ok_nil, rfl, hown0, hbel0⟩
  case round =>
    obtain ⟨i, zs, hil, rfl, hzl, hzo, hzv, hown, hbr⟩ := hrel
    clear hown0 hgrow0 hbel0
    by_cases hlt : i < xs.length
    · obtain ⟨b, off, rfl, hb, hcell⟩ := (hxc.below hbr) (by omega)
      have hg := hcell i hlt
      obtain ⟨bx0, bx1⟩ := hx i
      clear hcell
      have Hzv := hide hzv
      have Hzl := hide hzl
      clear hzv hzl
      go_wp2
      go_loopw [3, 5, 6] (fun out sx sk wq => ∃ (k : Nat) (x : Int) (ys : List Int), k ≤ 4 ∧ sk = .int .i64 k ∧ sx = .int .i64 x ∧ 0 ≤ x ∧ x < Nb.pw (4 - k) ∧ ys.length = 4 * i + k ∧ Nb.Ok ys ∧ Nb.val ys + x * Nb.pw (4 * i + k) = Nt.vt xs i + Nt.lb xs i * Nt.pw i ∧
          wq.ownsRow w.heap.size 3 1 out ys.length (ys.map (Value.int .i64)) ∧ Below w.heap.size w wq) (fun _ _ sk _ => 4 - (intOf sk).toNat)
      case atStart => exact ⟨0, Nt.lb xs i, zs, by omega, rfl, rfl, bx0, bx1, Hzl.out, hzo, by rw [Nat.add_zero, Nb.pw_four, Hzv.out], hown, hbr⟩
      case round =>
        obtain ⟨k, x, ys, hk, rfl, rfl, hx0, hx1, hyl, hyo, hyv, howq, hbq⟩ := hrel
        have Hx1 := hide hx1
        have Hyv := hide hyv
        have Hyl := hide hyl
        have hx2 : x < 4294967296 := by
          have h := Nb.pw_mono (m := 4 - k) (n := 4) (by omega)
          rw [show Nb.pw 4 = 4294967296 by decide] at h
          omega
        clear hown hx1 hyv hyl
        by_cases hkl : k < 4
        · have hsz := hbq.size
          have hlen : ys.length ≤ 4 * 1099511627776 := by have := Hyl.out; omega
          have hkl' : (k : Int) < 4 := by omega
          go_wp2_with (at_builtin; refine wpList_append_cells _ rfl _ _ 61 rfl w.heap.size 3 .i64 8 Tryz.underlying61 Tryz.infoI64 _ ys.length ys rfl (howq.alloc _) (some ⟨wr.heap.size, 0, none⟩) 1 [x % 256] rfl (cells_one _ _ _ _) (by unfold maxLen; simp; omega) (by simp; omega) (by simp; omega) ?_)
          intro v' w1 hown' hgrow
          have hb1 : Below w.heap.size w w1 := below_own (hbq.alloc hsz _) (by simp; omega) (howq.alloc _) hgrow
          have hst := byte_step (V := Nb.val ys) (x := x) (P := Nb.pw (4 * i + k))
          have Hst := hide hst
          have Hown' := hide hown'
          clear hown' hgrow howq hst
          go_wp2
          go_roundw
          case rel => exact ⟨k + 1, x / 256, ys ++ [x % 256], by omega, by go_num, rfl, by omega, by
            have h := Hx1.out
            rw [show 4 - k = (4 - (k + 1)) + 1 by omega, Nb.pw_succ] at h
            omega, by have := Hyl.out; simp; omega, Nb.ok_snoc hyo (by omega), by
            have h1 := Hyv.out
            have h2 := Hst.out
            rw [Nb.val_snoc, Hyl.out, ← Nat.add_assoc, Nb.pw_succ, h2, h1], by simpa using Hown'.out, hb1⟩
          case measure => simp [intOf]; omega
        · have hke : k = 4 := by omega
          subst hke
          go_wp2
          go_roundw
          case rel => exact ⟨i + 1, ys, by omega, by go_num, by have := Hyl.out; omega, hyo, by
            have h1 := Hyv.out
            have h2 := Hx1.out
            have h3 : x = 0 := by simp only [Nat.sub_self, Nb.pw] at h2; omega
            rw [h3, Int.zero_mul, Int.add_zero] at h1
            rw [h1]; rfl, howq, hbq⟩
          case measure => simp [intOf]; omega
    · have hke : i = xs.length := by omega
      subst hke
      go_wp2_with fail
      have hlen : zs.length ≤ 4 * ka := by omega
      refine (rtrim_any (ka := 4 * ka) ⟨zs, reads_of_owns hown, hzo, rfl, hlen⟩).mono ?_
      rintro e w2 ⟨rfl, v, rfl, hv⟩
      rw [hzv] at hv
      have Hv := hide hv
      clear hv hzv hzl
      go_wp2
      go_ret
      exact ⟨v, rfl, Hv.out, hbr⟩

/-- the top byte is the top limb's -/
theorem limbs_canon {ys zs : List Int} (hy : Nb.Canon ys) (hz : Nt.Ok zs) (hl : zs.length = (ys.length + 3) / 4) (hv : Nt.val zs = Nb.val ys) : Nt.Canon zs := by
  refine ⟨hz, fun hne h0 => ?_⟩
  obtain ⟨n, hn⟩ : ∃ n, zs.length = n + 1 := ⟨zs.length - 1, by have := List.length_pos_iff.2 hne; omega⟩
  have hye : ys ≠ [] := by intro e; subst e; rw [hn] at hl; simp at hl
  have h1 := Nb.canon_low hy hye
  have h2 : Nt.val zs = Nt.vt zs n := by
    unfold Nt.val
    rw [hn, Nt.vt_succ]
    rw [hn, Nat.add_sub_cancel] at h0
    rw [h0]; simp
  have h3 := (Nt.vt_bounds hz n).2
  have h4 := Nb.pw_mono (m := 4 * n) (n := ys.length - 1) (by omega)
  rw [Nb.pw_four] at h4
  omega

/-- what a row of limbs is worth while its bytes are laid in, from the top: those from m on are in -/
def LimbRel (ys zs : List Int) (m : Nat) : Prop :=
  Nb.val ys = Nb.vt ys m + (Nt.val zs - Nt.lb zs (m / 4) * Nt.pw (m / 4)) + Nt.lb zs (m / 4) * Nb.pw m ∧ Nt.lb zs (m / 4) < Nb.pw (4 - m % 4) ∧ ∀ j, j < m / 4 → Nt.lb zs j = 0

theorem limbRel_start (ys : List Int) : LimbRel ys (List.replicate ((ys.length + 3) / 4) 0) ys.length := by
  refine ⟨?_, ?_, fun j _ => Nt.lb_replicate _ _⟩
  · rw [Nt.lb_replicate]
    have e : Nt.val (List.replicate ((ys.length + 3) / 4) 0) = 0 := by
      unfold Nt.val; rw [Nt.vt_cut (k := 0) (by omega) (fun i _ _ => Nt.lb_replicate _ _)]; rfl
    rw [e]; simp [Nb.val]
  · rw [Nt.lb_replicate]; exact Nb.pw_pos _

theorem nt_val_set {zs : List Int} {i : Nat} (hi : i < zs.length) (q : Int) : Nt.val (zs.set i q) = Nt.val zs + (q - Nt.lb zs i) * Nt.pw i := by
  have : ∀ n, i < n → Nt.vt (zs.set i q) n = Nt.vt zs n + (q - Nt.lb zs i) * Nt.pw i := by
    intro n
    induction n with
    | zero => intro h; omega
    | succ n ih =>
      intro h
      rw [Nt.vt_succ, Nt.vt_succ]
      by_cases e : i = n
      · subst e; rw [Nt.vt_set (Nat.le_refl _), Nt.lb_set_eq hi, Int.sub_mul]; omega
      · rw [Nt.lb_set_ne e, ih (by omega)]; omega
  unfold Nt.val
  rw [List.length_set]
  exact this _ hi

/-- the limb that the next byte goes into -/
theorem limbRel_low {ys zs : List Int} {p : Nat} (h : LimbRel ys zs (p + 1)) : Nt.lb zs (p / 4) < Nb.pw (3 - p % 4) ∧ Nt.lb zs (p / 4) < 16777216 := by
  obtain ⟨_, h2, h3⟩ := h
  have key : Nt.lb zs (p / 4) < Nb.pw (3 - p % 4) := by
    by_cases e : p % 4 = 3
    · rw [h3 (p / 4) (by omega), e]; exact Nb.pw_pos _
    · rw [show (p + 1) / 4 = p / 4 by omega, show 4 - (p + 1) % 4 = 3 - p % 4 by omega] at h2
      exact h2
  have hm := Nb.pw_mono (m := 3 - p % 4) (n := 3) (by omega)
  rw [show Nb.pw 3 = 16777216 by decide] at hm
  exact ⟨key, by omega⟩

theorem limbRel_step {ys zs : List Int} {p : Nat} (hp : p / 4 < zs.length) (hb : Nt.lb ys p < 256) (h : LimbRel ys zs (p + 1)) :
    LimbRel ys (zs.set (p / 4) (Nt.lb zs (p / 4) * 256 + Nt.lb ys p)) p := by
  have hlow := (limbRel_low h).1
  obtain ⟨h1, h2, h3⟩ := h
  refine ⟨?_, ?_, fun j hj => ?_⟩
  · rw [nt_val_set hp, Nt.lb_set_eq hp, h1, Nb.vt_succ, Nb.pw_succ]
    by_cases e : p % 4 = 3
    · have h0 := h3 (p / 4) (by omega)
      obtain ⟨q, hq⟩ : ∃ q, (p + 1) / 4 = q := ⟨_, rfl⟩
      have e4 : 256 * Nb.pw p = Nt.pw q := by rw [← Nb.pw_succ, ← Nb.pw_four]; congr 1; omega
      rw [hq, h0, e4]
      simp only [Int.zero_mul, Int.zero_add, Int.sub_zero]
      omega
    · rw [show (p + 1) / 4 = p / 4 by omega]
      have e5 : Nt.lb zs (p / 4) * (256 * Nb.pw p) = Nt.lb zs (p / 4) * 256 * Nb.pw p := by rw [Int.mul_assoc]
      rw [e5, Int.sub_mul, Int.add_mul, Int.add_mul]
      omega
  · rw [Nt.lb_set_eq hp, show 4 - p % 4 = (3 - p % 4) + 1 by omega, Nb.pw_succ]
    omega
  · rw [Nt.lb_set_ne (by omega)]
    exact h3 j (by omega)

set_option maxHeartbeats 2000000 in
theorem limbs_any {w : World} {va : Value} {A : Int} {ka : Nat} (ha : BArg w va A ka) (hka : ka ≤ 8796093022208) :
    Calls Tryz.prog 154 #[va] w fun e w' => ∃ v, e = .returned v ∧ Num w.heap.size w' v A ((ka + 3) / 4) ∧ Below w.heap.size w w' := by
  go_enter Tryz.func154, Tryz.ntmps154
  go_wp2_with fail
  refine (rtrim_any ha).mono ?_
  rintro e w' ⟨rfl, v, rfl, hv⟩
  obtain ⟨ys, ⟨ao, cap, rfl, hl, hm, hyc⟩, hy, rfl, hyk⟩ := hv
  clear ha
  go_wp2_with (at_make; refine wpList_make_row _ rfl _ _ 26 rfl 70 .u32 4 Tryz.underlying26 Tryz.infoU32 _ _ _ _ ((ys.length + 3) / 4) ((ys.length + 3) / 4) rfl rfl (by omega) (by omega) (Nat.le_refl _) (by omega) (by unfold maxLen; omega) ?_)
  intro w1 hr hbel hsz
  go_wp2
  go_loopw [4] (fun si wr => ∃ (m : Nat) (zs : List Int), m ≤ ys.length ∧ si = .int .i64 ((m : Int) - 1) ∧ zs.length = (ys.length + 3) / 4 ∧ Nt.Ok zs ∧ LimbRel ys zs m ∧ Row .u32 70 wr w'.heap.size zs ∧ Below w'.heap.size w' wr)
    (fun si _ => (intOf si + 1).toNat)
  case atStart => exact ⟨ys.length, List.replicate ((ys.length + 3) / 4) 0, by omega, rfl, by simp, Nt.ok_replicate _, limbRel_start ys, hr, hbel⟩
  case round =>
    obtain ⟨m, zs, hml, rfl, hzl, hzo, hrel, hrow, hbr⟩ := hrel
    have Hzl := hide hzl
    have HR := hide hrel
    clear hzl hrel hr hbel
    by_cases hm0 : m = 0
    · subst hm0
      go_wp2
      go_ret
      have hv : Nt.val zs = Nb.val ys := by
        have h := HR.out.1
        simp only [Nat.zero_div, Nb.vt, Nt.pw, Nb.pw] at h
        omega
      have hzl : zs.length = (ys.length + 3) / 4 := Hzl.out
      refine ⟨_, rfl, ⟨zs, ?_, limbs_canon hy hzo hzl hv, hv, by omega⟩, hbr⟩
      have := hrow.made (B := w'.heap.size) (Nat.le_refl _) (n := zs.length) (Nat.le_refl _) (by rw [hzl]; unfold maxLen; omega)
      rw [List.take_length] at this
      rw [hzl] at this
      exact this
    · obtain ⟨p, rfl⟩ : ∃ p, m = p + 1 := ⟨m - 1, by omega⟩
      obtain ⟨b1, o1, rfl, hb1, hc1⟩ := (hyc.below hbr) (by omega)
      have g1 := hc1 p (by omega)
      have hp4 : p / 4 < (ys.length + 3) / 4 := by omega
      have g2 := hrow.cell (i := p / 4) (by rw [Hzl.out]; exact hp4)
      have hfz := hrow.frozen (p / 4)
      obtain ⟨by0, by1⟩ := hy.1 p
      obtain ⟨bz0, bz1⟩ := hzo (p / 4)
      have bz2 := (limbRel_low HR.out).2
      have hpl : p < ys.length := by omega
      clear hc1
      go_wp2
      go_region
      all_goals go_wp2
      all_goals go_roundw
      all_goals first
        | exact ⟨p, zs.set (p / 4) (Nt.lb zs (p / 4) * 256 + Nt.lb ys p), by omega, rfl, by rw [List.length_set, Hzl.out], Nt.ok_set hzo (by omega), limbRel_step (by rw [Hzl.out]; exact hp4) by1 HR.out, hrow.set _ _, (hbr.setCell (p := ⟨w'.heap.size, p / 4, none⟩) (Nat.le_refl _) _).drew⟩
        | simp [intOf]

theorem num_since {B B' : Nat} {w : World} {v : Value} {n : Int} {k : Nat} (h : Num B w v n k) (hB : B' ≤ B) : Num B' w v n k := by
  obtain ⟨zs, ⟨ao, h1, h2, h3⟩, h4⟩ := h
  refine ⟨zs, ⟨ao, h1, h2, fun hp => ?_⟩, h4⟩
  obtain ⟨g, rest, a, b, c⟩ := h3 hp
  exact ⟨g, rest, a, by omega, c⟩

end Go.Proofs.YticmlelalbaalaaGreatDoor
