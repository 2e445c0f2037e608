/- quot.FromBytes -/
import Derived.Test.YtmpdkeafbjibpaaDoorQTrim
namespace Go.Proofs.YtmpdkeafbjibpaaDoor
open Go.RowKit

theorem limbs_top {ds zs : List Int} (hd : Nb.Canon ds) (hz : Nt.Ok zs) (hl : zs.length = (ds.length + 3) / 4) (hv : Nt.val zs = Nb.val ds) : Nt.Canon zs := by
  refine ⟨hz, fun hn h0 => ?_⟩
  have hp := List.length_pos_iff.2 hn
  obtain ⟨m, hm⟩ : ∃ m, zs.length = m + 1 := ⟨zs.length - 1, by omega⟩
  have e : zs.length - 1 = m := by omega
  rw [e] at h0
  have h1 : Nt.val zs = Nt.vt zs m := by
    show Nt.vt zs zs.length = _
    rw [hm, Nt.vt_succ, h0]; simp
  have h2 := (Nt.vt_bounds hz m).2
  have h3 := Nb.canon_low hd (by intro e'; rw [e'] at hl; simp at hl; exact hn hl)
  have h4 := Nb.pw_mono (m := 4 * m) (n := ds.length - 1) (by omega)
  rw [Nb.pw_four] at h4
  omega
theorem strOfNums_at {es : List Int} {p : Nat} (h : p < (strOfNums es).size) (hp : 0 ≤ Nt.lb es p ∧ Nt.lb es p < 256) : (((strOfNums es)[p]'h).toNat : Int) = Nt.lb es p := by
  have hl : p < es.length := by rw [strOfNums_size] at h; exact h
  have e : (strOfNums es)[p]'h = UInt8.ofNat (es[p]).toNat := by
    show (strOfNums es).data[p]'h = _
    simp [strOfNums]
  have e2 : Nt.lb es p = es[p] := by simp [Nt.lb, hl]
  rw [e2] at hp ⊢
  rw [e, UInt8.toNat_ofNat']
  omega
/-- a byte more of a limb -/
theorem limb_or {x b : Int} {r : Nat} (hx : 0 ≤ x ∧ x < Nb.pw r) (hb : 0 ≤ b ∧ b < 256) (hr : r < 4) : bits .or .u32 x (b * Nb.pw r) = x + b * Nb.pw r ∧ x + b * Nb.pw r < Nb.pw (r + 1) ∧ Nb.pw (r + 1) ≤ 4294967296 := by
  have h1 : b * Nb.pw r ≤ 255 * Nb.pw r := Int.mul_le_mul_of_nonneg_right (by omega) (by have := Nb.pw_pos r; omega)
  have h2 : Nb.pw (r + 1) = 256 * Nb.pw r := Nb.pw_succ r
  have h3 := Nb.pw_mono (m := r + 1) (n := 4) (by omega)
  have e4 : Nb.pw 4 = 4294967296 := by decide
  have hlt : b * p2 (8 * r) + x < 4294967296 := by rw [p2_8]; omega
  have h := (or_add (n := 8 * r) hb.1 hx.1 (by rw [p2_8]; exact hx.2) hlt).2
  rw [p2_8] at h
  exact ⟨by rw [h]; omega, by omega, by omega⟩

theorem nt_set_val {zs : List Int} {q : Nat} (h : q < zs.length) (y : Int) : Nt.val (zs.set q y) = Nt.val zs + (y - Nt.lb zs q) * Nt.pw q := Nt.vt_set_any zs q y rfl h

/-- what a round of FromBytes leaves -/
def FromRel (ds zs : List Int) (k : Nat) : Prop := Nt.Ok zs ∧ (∀ j, k / 4 < j → Nt.lb zs j = 0) ∧ Nt.lb zs (k / 4) < Nb.pw (k % 4) ∧ Nt.val zs = Nb.vt ds k
theorem fromRel_step {ds zs : List Int} {k q r : Nat} (h : FromRel ds zs k) (hq : q = k / 4) (hr : r = k % 4) (hl : q < zs.length) (hb : 0 ≤ Nt.lb ds k ∧ Nt.lb ds k < 256) : FromRel ds (zs.set q (Nt.lb zs q + Nt.lb ds k * Nb.pw r)) (k + 1) := by
  obtain ⟨h1, h2, h3, h4⟩ := h
  rw [← hq, ← hr] at h3
  rw [← hq] at h2
  obtain ⟨_, o2, o3⟩ := limb_or (r := r) ⟨(h1 q).1, h3⟩ hb (by omega)
  have hpp : 0 ≤ Nt.lb ds k * Nb.pw r := Int.mul_nonneg hb.1 (by have := Nb.pw_pos r; omega)
  have h0 := (h1 q).1
  refine ⟨Nt.ok_set h1 (by omega), fun j hj => ?_, ?_, ?_⟩
  · rw [Nt.lb_set_ne (by omega)]; exact h2 j (by omega)
  · by_cases e : r = 3
    · have e1 : (k + 1) / 4 = q + 1 := by omega
      have e2 : (k + 1) % 4 = 0 := by omega
      rw [e1, e2, Nt.lb_set_ne (by omega), h2 _ (by omega)]
      decide
    · have e1 : (k + 1) / 4 = q := by omega
      have e2 : (k + 1) % 4 = r + 1 := by omega
      rw [e1, e2, Nt.lb_set_eq hl]
      exact o2
  · rw [nt_set_val hl, h4, Nb.vt_succ]
    have e : k = 4 * q + r := by omega
    have e2 : Nb.pw k = Nt.pw q * Nb.pw r := by rw [e, Nb.pw_add, Nb.pw_four]
    rw [e2]
    grind

set_option maxRecDepth 20000 in
set_option maxHeartbeats 4000000 in
theorem qfrom_any {w : World} {u : ByteArray} {n : Int} {ds : List Int} (hd : Nb.Canon ds) (hv : Nb.val ds = n) (hu : u.size ≤ 1099511627776) (hl : ds.length ≤ 1048576) (ht : u.data.toList.dropWhile (· == 0) = (strOfNums ds.reverse).data.toList) :
    Calls Tryd.prog 55 #[.string u] w fun e w' => ∃ v, e = .returned (.tuple #[v, .bool true]) ∧ Num w.heap.size w' v n ((ds.length + 3) / 4) ∧ Below w.heap.size w w' := by
  obtain ⟨L, hL⟩ : ∃ L, L = ds.length := ⟨_, rfl⟩
  obtain ⟨M, hM⟩ : ∃ M, M = (L + 3) / 4 := ⟨_, rfl⟩
  obtain ⟨s, hs⟩ : ∃ s, s = strOfNums ds.reverse := ⟨_, rfl⟩
  have hsz : s.size = L := by rw [hs, strOfNums_size, List.length_reverse, hL]
  have j1 : ((L : Int) + 3) / 4 = (M : Int) := by omega
  have hix : ∀ p (h : p < s.size), ((s[p]'h).toNat : Int) = Nt.lb ds (L - 1 - p) := by
    intro p h
    subst hs
    have hp : p < ds.length := by rw [strOfNums_size, List.length_reverse] at h; exact h
    rw [strOfNums_at h (by rw [lb_reverse hp]; exact hd.1 _), lb_reverse hp, hL]
  have Ht := hide ht
  have Hs := hide hs
  have Hix := hide hix
  have HM := hide hM
  have HL := hide hL
  have Hv := hide hv
  rw [← hL] at hl
  clear ht hs hix hM hL hv
  go_enter Tryd.func55, Tryd.ntmps55
  go_wp2_with fail
  refine (trimLeft0_any hu).mono ?_
  rintro e w' ⟨v, rfl, rfl, hvd⟩
  have hvs : v = s := Go.WideShapes.bytes_inj (by rw [hvd, Ht.out, Hs.out])
  subst hvs
  have hl2 : ¬ (1048576 : Int) < (L : Int) := by omega
  clear hvd
  go_wp2_with (at_make; refine wpList_make_row _ rfl _ _ 23 rfl 59 .u32 4 Tryd.underlying23 Tryd.infoU32 _ _ _ _ M M rfl rfl (by omega) (by omega) (Nat.le_refl _) (by omega) (by unfold maxLen; omega) ?_)
  intro w1 hr hbel hsz1
  go_wp2
  go_loopw [18] (fun i wr => ∃ (k : Nat) (zs : List Int), k ≤ L ∧ i = .int .i64 k ∧ zs.length = M ∧ FromRel ds zs k ∧ Row .u32 59 wr w'.heap.size zs ∧ Below w'.heap.size w' wr) (fun i _ => L - (intOf i).toNat)
  case atStart => exact ⟨0, List.replicate M 0, by omega, rfl, by simp, ⟨Nt.ok_replicate _, fun j _ => Nt.lb_replicate _ _, by rw [Nt.lb_replicate]; decide, by rw [Nt.val_replicate]; rfl⟩, hr, hbel⟩
  case round =>
    obtain ⟨k, zs, hk, rfl, hzl, hrel2, hrow, hbr⟩ := hrel
    have HR := hide hrel2
    have HZ := hide hzl
    clear hrel2 hzl hr hbel
    by_cases hkl : k < L
    · obtain ⟨q, hq⟩ : ∃ q, q = k / 4 := ⟨_, rfl⟩
      obtain ⟨r, hr4⟩ : ∃ r, r = k % 4 := ⟨_, rfl⟩
      obtain ⟨p, hp⟩ : ∃ p, p = L - 1 - k := ⟨_, rfl⟩
      have hqM : q < M := by have := HM.out; omega
      have g1 := hrow.cell (i := q) (by rw [HZ.out]; exact hqM)
      have hfz := hrow.frozen q
      have bd := hd.1 k
      have hor := (limb_or (x := Nt.lb zs q) (b := Nt.lb ds k) (r := r) ⟨(HR.out.1 q).1, by have h := HR.out.2.2.1; rw [← hq, ← hr4] at h; exact h⟩ bd (by omega)).1
      have hbn := (limb_or (x := Nt.lb zs q) (b := Nt.lb ds k) (r := r) ⟨(HR.out.1 q).1, by have h := HR.out.2.2.1; rw [← hq, ← hr4] at h; exact h⟩ bd (by omega)).2
      have hst := fromRel_step HR.out hq hr4 (by rw [HZ.out]; exact hqM) bd
      have hps : p < v.size := by omega
      have hx := Hix.out p hps
      rw [show L - 1 - p = k by omega] at hx
      have q1 : (k : Int) / 4 = (q : Int) := by omega
      have q2 : (L : Int) - 1 - (k : Int) = (p : Int) := by omega
      have q3 : (q : Int) < (M : Int) := by omega
      have q4 : (p : Int) < (L : Int) := by omega
      have q5 : (k : Int) % 4 = (r : Int) := by omega
      have hrb : r < 4 := by omega
      have HSt := hide hst
      clear hst hq hr4 hp
      match r, hrb with
      | 0, _ =>
        have e : Nb.pw 0 = 1 := by decide
        have e' : Nb.pw 1 = 256 := by decide
        rw [e, Int.mul_one] at hor
        rw [e, Int.mul_one] at HSt
        rw [e, e', Int.mul_one] at hbn
        clear e e'
        go_wp2
        go_region
        all_goals go_wp2
        all_goals go_roundw
        all_goals first
          | exact ⟨k + 1, zs.set q (Nt.lb zs q + Nt.lb ds k), by omega, by go_num, by rw [List.length_set]; exact HZ.out, HSt.out, hrow.set _ _, (hbr.setCell (Nat.le_refl _) _).drew⟩
          | (simp [intOf]; omega)
      | 1, _ =>
        have e : Nb.pw 1 = 256 := by decide
        have e' : Nb.pw 2 = 65536 := by decide
        rw [e] at hor
        rw [e] at HSt
        rw [e, e'] at hbn
        clear e e'
        go_wp2
        go_region
        all_goals go_wp2
        all_goals go_roundw
        all_goals first
          | exact ⟨k + 1, zs.set q (Nt.lb zs q + Nt.lb ds k * 256), by omega, by go_num, by rw [List.length_set]; exact HZ.out, HSt.out, hrow.set _ _, (hbr.setCell (Nat.le_refl _) _).drew⟩
          | (simp [intOf]; omega)
      | 2, _ =>
        have e : Nb.pw 2 = 65536 := by decide
        have e' : Nb.pw 3 = 16777216 := by decide
        rw [e] at hor
        rw [e] at HSt
        rw [e, e'] at hbn
        clear e e'
        go_wp2
        go_region
        all_goals go_wp2
        all_goals go_roundw
        all_goals first
          | exact ⟨k + 1, zs.set q (Nt.lb zs q + Nt.lb ds k * 65536), by omega, by go_num, by rw [List.length_set]; exact HZ.out, HSt.out, hrow.set _ _, (hbr.setCell (Nat.le_refl _) _).drew⟩
          | (simp [intOf]; omega)
      | 3, _ =>
        have e : Nb.pw 3 = 16777216 := by decide
        have e' : Nb.pw 4 = 4294967296 := by decide
        rw [e] at hor
        rw [e] at HSt
        rw [e, e'] at hbn
        clear e e'
        go_wp2
        go_region
        all_goals go_wp2
        all_goals go_roundw
        all_goals first
          | exact ⟨k + 1, zs.set q (Nt.lb zs q + Nt.lb ds k * 16777216), by omega, by go_num, by rw [List.length_set]; exact HZ.out, HSt.out, hrow.set _ _, (hbr.setCell (Nat.le_refl _) _).drew⟩
          | (simp [intOf]; omega)
      | r + 4, h => omega
    · have hke : k = L := by omega
      have hfin : Nt.val zs = n := by
        have h := HR.out.2.2.2
        rw [hke, HL.out] at h
        rw [h, ← Hv.out]; rfl
      have hcan : Nt.Canon zs := limbs_top hd HR.out.1 (by rw [HZ.out, HM.out, HL.out]) (by rw [hfin, Hv.out])
      have hnum : Num w'.heap.size wr (.slice (some ⟨w'.heap.size, 0, none⟩) M M) n ((ds.length + 3) / 4) := by
        refine ⟨zs, ⟨_, by rw [HZ.out], by rw [HZ.out]; unfold maxLen; omega, fun _ => ⟨w'.heap.size, [], rfl, Nat.le_refl _, by rw [List.append_nil]; exact hrow⟩⟩, hcan, hfin, by rw [HZ.out, HM.out, HL.out]; exact Nat.le_refl _⟩
      have HN := hide hnum
      clear hfin hcan hnum
      subst hke
      go_wp2
      go_ret2
      exact ⟨_, rfl, HN.out, hbr⟩

end Go.Proofs.YtmpdkeafbjibpaaDoor
