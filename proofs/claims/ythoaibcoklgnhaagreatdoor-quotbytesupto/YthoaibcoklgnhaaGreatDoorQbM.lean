/- QbMath, QBytes, QTrim, QFrom, QKit, QLess, QStr -/
import Derived.Test.YthoaibcoklgnhaaGreatDoorNb
import Derived.Test.YthoaibcoklgnhaaGreatDoorDivMath
import Derived.Test.YthoaibcoklgnhaaGreatDoorConsts
import Derived.Deep.LoopGhost
import Derived.Test.YthoaibcoklgnhaaGreatDoorQLives
import Derived.Test.YthoaibcoklgnhaaGreatDoorTwin
namespace Go.Proofs.YthoaibcoklgnhaaGreatDoor

/-- the byte at a place of a number that is given by its limbs -/
def dg (xs : List Int) (i : Nat) : Int := Nt.lb xs (i / 4) / Nb.pw (i % 4) % 256
/-- the number of the first so many bytes -/
def dv (xs : List Int) : Nat → Int
  | 0 => 0
  | n + 1 => dv xs n + dg xs n * Nb.pw n

theorem dg_bd (xs : List Int) (i : Nat) : 0 ≤ dg xs i ∧ dg xs i < 256 := by unfold dg; omega
theorem dg_at (xs : List Int) (j r : Nat) (hr : r < 4) : dg xs (4 * j + r) = Nt.lb xs j / Nb.pw r % 256 := by
  unfold dg
  rw [show (4 * j + r) / 4 = j by omega, show (4 * j + r) % 4 = r by omega]
theorem dv_four {xs : List Int} (ho : Nt.Ok xs) (m : Nat) : dv xs (4 * m) = Nt.vt xs m := by
  induction m with
  | zero => rfl
  | succ m ih =>
    have e : 4 * (m + 1) = 4 * m + 3 + 1 := by omega
    rw [e]
    show dv xs (4 * m + 3) + dg xs (4 * m + 3) * Nb.pw (4 * m + 3) = _
    have e2 : dv xs (4 * m + 3) = dv xs (4 * m) + dg xs (4 * m) * Nb.pw (4 * m) + dg xs (4 * m + 1) * Nb.pw (4 * m + 1) + dg xs (4 * m + 2) * Nb.pw (4 * m + 2) := rfl
    have d0 := dg_at xs m 0 (by omega)
    rw [Nat.add_zero] at d0
    rw [e2, ih, d0, dg_at xs m 1 (by omega), dg_at xs m 2 (by omega), dg_at xs m 3 (by omega), Nt.vt_succ, Nb.pw_add (4 * m) 3, Nb.pw_add (4 * m) 2, Nb.pw_add (4 * m) 1, Nb.pw_four]
    have p1 : Nb.pw 1 = 256 := by decide
    have p2' : Nb.pw 2 = 65536 := by decide
    have p3 : Nb.pw 3 = 16777216 := by decide
    have p0 : Nb.pw 0 = 1 := rfl
    rw [p0, p1, p2', p3]
    have hx := ho m
    generalize Nt.lb xs m = x at *
    have hs : x = x / 1 % 256 + x / 256 % 256 * 256 + x / 65536 % 256 * 65536 + x / 16777216 % 256 * 16777216 := by omega
    generalize x / 1 % 256 = a at *
    generalize x / 256 % 256 = b at *
    generalize x / 65536 % 256 = c at *
    generalize x / 16777216 % 256 = d at *
    rw [hs]
    grind
theorem dv_split (xs : List Int) (l j : Nat) : ∃ r : Int, 0 ≤ r ∧ dv xs (l + j) = dv xs l + Nb.pw l * r := by
  induction j with
  | zero => exact ⟨0, Int.le_refl _, by simp⟩
  | succ j ih =>
    obtain ⟨r, h0, h⟩ := ih
    refine ⟨r + dg xs (l + j) * Nb.pw j, Int.add_nonneg h0 (Int.mul_nonneg (dg_bd xs _).1 (by have := Nb.pw_pos j; omega)), ?_⟩
    show dv xs (l + j) + dg xs (l + j) * Nb.pw (l + j) = _
    rw [h, Nb.pw_add]
    grind
theorem dv_nonneg (xs : List Int) (l : Nat) : 0 ≤ dv xs l := by
  obtain ⟨r, h0, h⟩ := dv_split xs 0 l
  rw [Nat.zero_add] at h
  rw [h]
  simp only [dv, Nb.pw]
  omega
/-- a number's bytes, as many as it has bits -/
theorem dv_all {xs : List Int} (ho : Nt.Ok xs) {l : Nat} (hl : l ≤ 4 * xs.length) (hlt : Nt.val xs < Nb.pw l) : dv xs l = Nt.val xs := by
  obtain ⟨r, h0, h⟩ := dv_split xs l (4 * xs.length - l)
  rw [show l + (4 * xs.length - l) = 4 * xs.length by omega, dv_four ho] at h
  have e : Nt.vt xs xs.length = Nt.val xs := rfl
  rw [e] at h
  have h1 := dv_nonneg xs l
  have h2 := Nb.pw_pos l
  rcases Int.lt_or_le 0 r with h3 | h3
  · have h4 : Nb.pw l * 1 ≤ Nb.pw l * r := Int.mul_le_mul_of_nonneg_left (by omega) (by omega)
    omega
  · have h5 : r = 0 := by omega
    rw [h5] at h
    simp at h
    omega
theorem nb_vt_dv {xs ds : List Int} {n : Nat} (h : ∀ i, i < n → Nt.lb ds i = dg xs i) : Nb.vt ds n = dv xs n := by
  induction n with
  | zero => rfl
  | succ n ih => rw [Nb.vt_succ, ih (fun i hi => h i (by omega)), h n (by omega)]; rfl

theorem p2_8 (n : Nat) : p2 (8 * n) = Nb.pw n := by
  induction n with
  | zero => rfl
  | succ n ih => rw [show 8 * (n + 1) = 8 * n + 8 by omega, p2_add, ih, Nb.pw_succ, Int.mul_comm]; rfl

/-- the list of a number's bytes, the lowest first, out of its limbs -/
theorem bytes_canon {xs ds : List Int} {k : Nat} (ho : Nt.Ok xs) (hk : IsLen (Nt.val xs) k) (hk2 : k ≤ 32 * xs.length) (hl : ds.length = (k + 7) / 8) (h : ∀ i, i < ds.length → Nt.lb ds i = dg xs i) : Nb.Canon ds ∧ Nb.val ds = Nt.val xs := by
  have hlt : Nt.val xs < Nb.pw ds.length := by
    have h1 := p2_mono (m := k) (n := 8 * ds.length) (by omega)
    rw [p2_8] at h1
    have := hk.1
    omega
  have hval : Nb.val ds = Nt.val xs := by
    show Nb.vt ds ds.length = _
    rw [nb_vt_dv h, dv_all ho (by omega) hlt]
  have hok : Nb.Ok ds := by
    intro i
    by_cases hi : i < ds.length
    · rw [h i hi]; exact dg_bd xs i
    · rw [Nt.lb_out (by omega)]; omega
  refine ⟨⟨hok, fun hn => ?_⟩, hval⟩
  intro h0
  have hp := List.length_pos_iff.2 hn
  have h1 : Nb.val ds = Nb.vt ds (ds.length - 1) := by
    obtain ⟨m, hm⟩ : ∃ m, ds.length = m + 1 := ⟨ds.length - 1, by omega⟩
    have e : ds.length - 1 = m := by omega
    rw [e] at h0 ⊢
    show Nb.vt ds ds.length = _
    rw [hm, Nb.vt_succ, h0]; simp
  have h2 := (Nb.vt_bounds hok (ds.length - 1)).2
  have h3 := hk.2 (by omega)
  have h4 := p2_mono (m := 8 * (ds.length - 1)) (n := k - 1) (by omega)
  rw [p2_8] at h4
  omega

end Go.Proofs.YthoaibcoklgnhaaGreatDoor

namespace Go.Proofs.YthoaibcoklgnhaaGreatDoor
open Go.RowKit

/-- a number as bytes, the highest first -/
def Bstr (n : Int) (s : ByteArray) : Prop := ∃ ds, Nb.Canon ds ∧ Nb.val ds = n ∧ s = strOfNums ds.reverse

theorem lb_reverse {xs : List Int} {i : Nat} (h : i < xs.length) : Nt.lb xs.reverse i = Nt.lb xs (xs.length - 1 - i) := by
  have h2 : xs.length - 1 - i < xs.length := by omega
  simp [Nt.lb, h, h2]

set_option maxRecDepth 20000 in
set_option maxHeartbeats 4000000 in
theorem qbytes_any {w : World} {va : Value} {n : Int} {k : Nat} (ha : Arg w va n k) (hk : k ≤ 1099511627776) :
    Calls Tryz.prog 14 #[va] w fun e w' => ∃ s, e = .returned (.string s) ∧ Bstr n s ∧ s.size ≤ 4 * k ∧ Below w.heap.size w w' := by
  have hlen := len_any ha hk
  obtain ⟨xs, ⟨ao, cap, rfl, hl1, hl2, hc⟩, ho, hv, hxk⟩ := ha
  have hlen2 := len_any (w := w) (va := .slice ao xs.length cap) (n := n) (ka := xs.length) ⟨xs, ⟨ao, cap, rfl, hl1, hl2, hc⟩, ho, hv, Nat.le_refl _⟩ (by omega)
  clear hlen
  have Hv := hide hv
  clear hv
  go_enter Tryz.func14, Tryz.ntmps14
  go_wp2_with fail
  refine hlen2.mono ?_
  clear hlen2
  rintro e w' ⟨K, rfl, hK, hK2, rfl⟩
  obtain ⟨L, hL⟩ : ∃ L, L = (K + 7) / 8 := ⟨_, rfl⟩
  have j1 : ((K : Int) + 7) / 8 = (L : Int) := by omega
  have HL := hide hL
  have HK := hide hK
  have hLb : L ≤ 4 * xs.length := by omega
  clear hK hL
  go_wp2_with (at_make; refine wpList_make_row _ rfl _ _ 60 rfl 5 .u8 1 Tryz.underlying60 Tryz.infoU8 _ _ _ _ L L rfl rfl (by omega) (by omega) (Nat.le_refl _) (by omega) (by unfold maxLen; omega) ?_)
  intro w1 hr hbel hsz
  go_wp2
  go_loopw [12] (fun i wr => ∃ (k : Nat) (zs : List Int), k ≤ L ∧ i = .int .i64 k ∧ zs.length = L ∧ (∀ j, j < k → Nt.lb zs (L - 1 - j) = dg xs j) ∧ Row .u8 5 wr w'.heap.size zs ∧ Below w'.heap.size w' wr) (fun i _ => L - (intOf i).toNat)
  case atStart => exact ⟨0, List.replicate L 0, by omega, rfl, by simp, fun j hj => by omega, hr, hbel⟩
  case round =>
    obtain ⟨i, zs, hi, rfl, hzl, hz, hrow, hbr⟩ := hrel
    have HZ := hide hz
    have HZl := hide hzl
    clear hz hzl hr hbel
    by_cases hil : i < L
    · obtain ⟨b1, o1, rfl, hb1, hcell⟩ := (hc.below hbr) (by omega)
      obtain ⟨q, hq⟩ : ∃ q, q = i / 4 := ⟨_, rfl⟩
      obtain ⟨p, hp⟩ : ∃ p, p = L - 1 - i := ⟨_, rfl⟩
      have g0 := hcell q (by omega)
      have bq := ho q
      have q1 : (i : Int) / 4 = (q : Int) := by omega
      have q2 : (L : Int) - 1 - (i : Int) = (p : Int) := by omega
      have q3 : (q : Int) < (xs.length : Int) := by omega
      have q4 : (p : Int) < (L : Int) := by omega
      have g1 := hrow.cell (i := p) (by rw [HZl.out]; omega)
      have hfz := hrow.frozen p
      have hstep : ∀ y : Int, y = dg xs i → ∀ j, j < i + 1 → Nt.lb (zs.set p y) (L - 1 - j) = dg xs j := by
        intro y hy j hj
        by_cases e : j = i
        · subst e
          rw [hp, Nt.lb_set_eq (by rw [HZl.out]; omega), hy]
        · rw [Nt.lb_set_ne (by omega)]
          exact HZ.out j (by omega)
      have HSt := hide hstep
      have Hp := hide hp
      clear hcell hstep hp
      obtain ⟨r, hr4⟩ : ∃ r, r = i % 4 := ⟨_, rfl⟩
      have hd : dg xs i = Nt.lb xs q / Nb.pw r % 256 := by
        have e : i = 4 * q + r := by omega
        rw [e]; exact dg_at xs q r (by omega)
      have q5 : (i : Int) % 4 = (r : Int) := by omega
      have hrb : r < 4 := by omega
      have Hd := hide hd
      clear hd hq hr4
      match r, hrb with
      | 0, _ =>
        have hy : Nt.lb xs q % 256 = dg xs i := by
          rw [Hd.out]
          have e : Nb.pw 0 = 1 := by decide
          rw [e]; simp
        have Hy := hide hy
        clear hy
        go_wp2
        go_roundw
        case rel => exact ⟨i + 1, zs.set p (Nt.lb xs q % 256), by omega, by go_num, by rw [List.length_set]; exact HZl.out, HSt.out _ Hy.out, hrow.set _ _, hbr.setCell (Nat.le_refl _) _⟩
        case measure => simp [intOf]; omega
      | 1, _ =>
        have hy : Nt.lb xs q / 256 % 256 = dg xs i := by
          rw [Hd.out]
          have e : Nb.pw 1 = 256 := by decide
          rw [e]
        have Hy := hide hy
        clear hy
        go_wp2
        go_roundw
        case rel => exact ⟨i + 1, zs.set p (Nt.lb xs q / 256 % 256), by omega, by go_num, by rw [List.length_set]; exact HZl.out, HSt.out _ Hy.out, hrow.set _ _, hbr.setCell (Nat.le_refl _) _⟩
        case measure => simp [intOf]; omega
      | 2, _ =>
        have hy : Nt.lb xs q / 65536 % 256 = dg xs i := by
          rw [Hd.out]
          have e : Nb.pw 2 = 65536 := by decide
          rw [e]
        have Hy := hide hy
        clear hy
        go_wp2
        go_roundw
        case rel => exact ⟨i + 1, zs.set p (Nt.lb xs q / 65536 % 256), by omega, by go_num, by rw [List.length_set]; exact HZl.out, HSt.out _ Hy.out, hrow.set _ _, hbr.setCell (Nat.le_refl _) _⟩
        case measure => simp [intOf]; omega
      | 3, _ =>
        have hy : Nt.lb xs q / 16777216 = dg xs i := by
          rw [Hd.out]
          have e : Nb.pw 3 = 16777216 := by decide
          rw [e]; omega
        have Hy := hide hy
        clear hy
        go_wp2
        go_roundw
        case rel => exact ⟨i + 1, zs.set p (Nt.lb xs q / 16777216), by omega, by go_num, by rw [List.length_set]; exact HZl.out, HSt.out _ Hy.out, hrow.set _ _, hbr.setCell (Nat.le_refl _) _⟩
        case measure => simp [intOf]; omega
      | r + 4, h => omega
    · have hie : i = L := by omega
      subst hie
      have hds : Nb.Canon zs.reverse ∧ Nb.val zs.reverse = Nt.val xs := by
        refine bytes_canon ho (by rw [Hv.out]; exact HK.out) hK2 (by rw [List.length_reverse, HZl.out, HL.out]) (fun j hj => ?_)
        rw [List.length_reverse, HZl.out] at hj
        rw [lb_reverse (by rw [HZl.out]; exact hj), HZl.out]
        exact HZ.out j hj
      have hcv := row_string (cap := zs.length) hrow
      rw [HZl.out] at hcv
      have hfin : Bstr n (strOfNums zs) := ⟨zs.reverse, hds.1, by rw [hds.2, Hv.out], by rw [List.reverse_reverse]⟩
      have hsz2 : (strOfNums zs).size ≤ 4 * k := by rw [strOfNums_size, HZl.out]; omega
      have HF := hide hfin
      have HSz := hide hsz2
      clear hds hfin hsz2
      go_wp2
      go_ret
      exact ⟨_, rfl, HF.out, HSz.out, hbr⟩

end Go.Proofs.YthoaibcoklgnhaaGreatDoor

namespace Go.Proofs.YthoaibcoklgnhaaGreatDoor
open Go.RowKit

theorem bytes_uncons {v : ByteArray} (h : 0 < v.size) : v.data.toList = v[0] :: (v.extract 1 v.size).data.toList := by
  have e : (v.extract 1 v.size).data = v.data.extract 1 v.size := by simp
  rw [e]
  have h2 : 0 < v.data.size := h
  apply List.ext_getElem
  · simp; have : v.data.size = v.size := rfl; omega
  · intro i h1 h3
    cases i with
    | zero => rfl
    | succ i => simp

set_option maxRecDepth 20000 in
set_option maxHeartbeats 2000000 in
theorem trim0_any {w : World} {u : ByteArray} (hu : u.size ≤ 1099511627776) :
    Calls Tryz.prog 121 #[.string u, .int .u8 0] w fun e w' => ∃ v : ByteArray, e = .returned (.string v) ∧ w' = w ∧ v.data.toList = u.data.toList.dropWhile (· == 0) := by
  go_enter Tryz.func121, Tryz.ntmps121
  go_wp2
  go_loopg [0] u.size (fun c s wr => ∃ v : ByteArray, s = .string v ∧ v.size = c ∧ c ≤ 1099511627776 ∧ v.data.toList.dropWhile (· == 0) = u.data.toList.dropWhile (· == 0) ∧ wr = w)
  case atStart => exact ⟨u, rfl, rfl, hu, rfl, rfl⟩
  case round =>
    obtain ⟨v, rfl, hc, hcb, hd, rfl⟩ := hrel
    subst hc
    have HD := hide hd
    clear hd
    by_cases hp : 0 < v.size
    · have hun := bytes_uncons hp
      have hp2 : (0 : Int) < (v.size : Int) := by omega
      by_cases h0 : v[0] = 0
      · have hz : (((v[0].toNat : Nat) : Int) == 0) = true := by rw [h0]; rfl
        have hnew : (v.extract 1 v.size).data.toList.dropWhile (· == 0) = u.data.toList.dropWhile (· == 0) := by
          have h := HD.out
          rw [hun, List.dropWhile_cons, h0] at h
          simpa using h
        have hsz : (v.extract 1 v.size).size = v.size - 1 := by simp
        have HN := hide hnew
        have HS := hide hsz
        clear hun hnew hsz h0
        go_wp2
        go_roundg (v.size - 1)
        case measure => omega
        case rel => exact ⟨v.extract 1 v.size, rfl, HS.out, by omega, HN.out, rfl⟩
      · have hz : (((v[0].toNat : Nat) : Int) == 0) = false := by
          simp
          intro h
          exact h0 (UInt8.toNat_inj.1 (by simpa using h))
        have hfin : v.data.toList = u.data.toList.dropWhile (· == 0) := by
          rw [← HD.out, hun, List.dropWhile_cons]
          simp [h0]
        have HF := hide hfin
        clear hun hfin h0
        go_wp2
        go_ret
        exact ⟨v, rfl, rfl, HF.out⟩
    · have hs0 : v.size = 0 := by omega
      have hl0 : v.data.toList = [] := by
        apply List.eq_nil_of_length_eq_zero
        rw [Array.length_toList]
        exact hs0
      have hfin : v.data.toList = u.data.toList.dropWhile (· == 0) := by
        rw [← HD.out, hl0]; rfl
      have hp2 : ¬ (0 : Int) < (v.size : Int) := by omega
      have HF := hide hfin
      clear hl0 hfin hp
      go_wp2
      go_ret
      exact ⟨v, rfl, rfl, HF.out⟩

set_option maxRecDepth 20000 in
set_option maxHeartbeats 2000000 in
theorem trimLeft0_any {w : World} {u : ByteArray} (hu : u.size ≤ 1099511627776) :
    Calls Tryz.prog 73 #[.string u, .string ⟨#[0]⟩] w fun e w' => ∃ v : ByteArray, e = .returned (.string v) ∧ w' = w ∧ v.data.toList = u.data.toList.dropWhile (· == 0) := by
  by_cases h : u.toList = []
  · have hl0 : u.data.toList = [] := by rw [← ByteArray.toList_eq]; exact h
    have HF : Hid (u.data.toList = u.data.toList.dropWhile (· == 0)) := hide (by rw [hl0]; rfl)
    clear hl0
    go_enter Tryz.func73, Tryz.ntmps73
    go_wp2
    go_ret
    exact ⟨u, rfl, rfl, HF.out⟩
  · have hb : u.toList.isEmpty = false := by simpa using h
    have c0 : ((({ data := #[0] } : ByteArray)[0].toNat : Nat) : Int) = 0 := rfl
    go_enter Tryz.func73, Tryz.ntmps73
    go_wp2_with fail
    refine (trim0_any hu).mono ?_
    rintro e w' ⟨v, rfl, rfl, hv⟩
    have HV := hide hv
    clear hv
    go_wp2
    go_ret
    exact ⟨v, rfl, rfl, HV.out⟩

end Go.Proofs.YthoaibcoklgnhaaGreatDoor

namespace Go.Proofs.YthoaibcoklgnhaaGreatDoor
open Go.RowKit

theorem limbs_top {ds zs : List Int} (hd : Nb.Canon ds) (hz : Nt.Ok zs) (hl : zs.length = (ds.length + 3) / 4) (hv : Nt.val zs = Nb.val ds) : Nt.Canon zs := by
  refine ⟨hz, fun hn h0 => ?_⟩
  have hp := List.length_pos_iff.2 hn
  obtain ⟨m, hm⟩ : ∃ m, zs.length = m + 1 := ⟨zs.length - 1, by omega⟩
  have e : zs.length - 1 = m := by omega
  rw [e] at h0
  have h1 : Nt.val zs = Nt.vt zs m := by
    show Nt.vt zs zs.length = _
    rw [hm, Nt.vt_succ, h0]; simp
  have h2 := (Nt.vt_bounds hz m).2
  have h3 := Nb.canon_low hd (by intro e'; rw [e'] at hl; simp at hl; exact hn hl)
  have h4 := Nb.pw_mono (m := 4 * m) (n := ds.length - 1) (by omega)
  rw [Nb.pw_four] at h4
  omega
theorem strOfNums_at {es : List Int} {p : Nat} (h : p < (strOfNums es).size) (hp : 0 ≤ Nt.lb es p ∧ Nt.lb es p < 256) : (((strOfNums es)[p]'h).toNat : Int) = Nt.lb es p := by
  have hl : p < es.length := by rw [strOfNums_size] at h; exact h
  have e : (strOfNums es)[p]'h = UInt8.ofNat (es[p]).toNat := by
    show (strOfNums es).data[p]'h = _
    simp [strOfNums]
  have e2 : Nt.lb es p = es[p] := by simp [Nt.lb, hl]
  rw [e2] at hp ⊢
  rw [e, UInt8.toNat_ofNat']
  omega
/-- a byte more of a limb -/
theorem limb_or {x b : Int} {r : Nat} (hx : 0 ≤ x ∧ x < Nb.pw r) (hb : 0 ≤ b ∧ b < 256) (hr : r < 4) : bits .or .u32 x (b * Nb.pw r) = x + b * Nb.pw r ∧ x + b * Nb.pw r < Nb.pw (r + 1) ∧ Nb.pw (r + 1) ≤ 4294967296 := by
  have h1 : b * Nb.pw r ≤ 255 * Nb.pw r := Int.mul_le_mul_of_nonneg_right (by omega) (by have := Nb.pw_pos r; omega)
  have h2 : Nb.pw (r + 1) = 256 * Nb.pw r := Nb.pw_succ r
  have h3 := Nb.pw_mono (m := r + 1) (n := 4) (by omega)
  have e4 : Nb.pw 4 = 4294967296 := by decide
  have hlt : b * p2 (8 * r) + x < 4294967296 := by rw [p2_8]; omega
  have h := (or_add (n := 8 * r) hb.1 hx.1 (by rw [p2_8]; exact hx.2) hlt).2
  rw [p2_8] at h
  exact ⟨by rw [h]; omega, by omega, by omega⟩

theorem nt_set_val {zs : List Int} {q : Nat} (h : q < zs.length) (y : Int) : Nt.val (zs.set q y) = Nt.val zs + (y - Nt.lb zs q) * Nt.pw q := Nt.vt_set_any zs q y rfl h

/-- what a round of FromBytes leaves -/
def FromRel (ds zs : List Int) (k : Nat) : Prop := Nt.Ok zs ∧ (∀ j, k / 4 < j → Nt.lb zs j = 0) ∧ Nt.lb zs (k / 4) < Nb.pw (k % 4) ∧ Nt.val zs = Nb.vt ds k
theorem fromRel_step {ds zs : List Int} {k q r : Nat} (h : FromRel ds zs k) (hq : q = k / 4) (hr : r = k % 4) (hl : q < zs.length) (hb : 0 ≤ Nt.lb ds k ∧ Nt.lb ds k < 256) : FromRel ds (zs.set q (Nt.lb zs q + Nt.lb ds k * Nb.pw r)) (k + 1) := by
  obtain ⟨h1, h2, h3, h4⟩ := h
  rw [← hq, ← hr] at h3
  rw [← hq] at h2
  obtain ⟨_, o2, o3⟩ := limb_or (r := r) ⟨(h1 q).1, h3⟩ hb (by omega)
  have hpp : 0 ≤ Nt.lb ds k * Nb.pw r := Int.mul_nonneg hb.1 (by have := Nb.pw_pos r; omega)
  have h0 := (h1 q).1
  refine ⟨Nt.ok_set h1 (by omega), fun j hj => ?_, ?_, ?_⟩
  · rw [Nt.lb_set_ne (by omega)]; exact h2 j (by omega)
  · by_cases e : r = 3
    · have e1 : (k + 1) / 4 = q + 1 := by omega
      have e2 : (k + 1) % 4 = 0 := by omega
      rw [e1, e2, Nt.lb_set_ne (by omega), h2 _ (by omega)]
      decide
    · have e1 : (k + 1) / 4 = q := by omega
      have e2 : (k + 1) % 4 = r + 1 := by omega
      rw [e1, e2, Nt.lb_set_eq hl]
      exact o2
  · rw [nt_set_val hl, h4, Nb.vt_succ]
    have e : k = 4 * q + r := by omega
    have e2 : Nb.pw k = Nt.pw q * Nb.pw r := by rw [e, Nb.pw_add, Nb.pw_four]
    rw [e2]
    grind

set_option maxRecDepth 20000 in
set_option maxHeartbeats 4000000 in
theorem qfrom_any {w : World} {u : ByteArray} {n : Int} {ds : List Int} (hd : Nb.Canon ds) (hv : Nb.val ds = n) (hu : u.size ≤ 1099511627776) (hl : ds.length ≤ 1048576) (ht : u.data.toList.dropWhile (· == 0) = (strOfNums ds.reverse).data.toList) :
    Calls Tryz.prog 17 #[.string u] w fun e w' => ∃ v, e = .returned (.tuple #[v, .bool true]) ∧ Num w.heap.size w' v n ((ds.length + 3) / 4) ∧ Below w.heap.size w w' := by
  obtain ⟨L, hL⟩ : ∃ L, L = ds.length := ⟨_, rfl⟩
  obtain ⟨M, hM⟩ : ∃ M, M = (L + 3) / 4 := ⟨_, rfl⟩
  obtain ⟨s, hs⟩ : ∃ s, s = strOfNums ds.reverse := ⟨_, rfl⟩
  have hsz : s.size = L := by rw [hs, strOfNums_size, List.length_reverse, hL]
  have j1 : ((L : Int) + 3) / 4 = (M : Int) := by omega
  have hix : ∀ p (h : p < s.size), ((s[p]'h).toNat : Int) = Nt.lb ds (L - 1 - p) := by
    intro p h
    subst hs
    have hp : p < ds.length := by rw [strOfNums_size, List.length_reverse] at h; exact h
    rw [strOfNums_at h (by rw [lb_reverse hp]; exact hd.1 _), lb_reverse hp, hL]
  have Ht := hide ht
  have Hs := hide hs
  have Hix := hide hix
  have HM := hide hM
  have HL := hide hL
  have Hv := hide hv
  rw [← hL] at hl
  clear ht hs hix hM hL hv
  go_enter Tryz.func17, Tryz.ntmps17
  go_wp2_with fail
  refine (trimLeft0_any hu).mono ?_
  rintro e w' ⟨v, rfl, rfl, hvd⟩
  have hvs : v = s := Go.WideShapes.bytes_inj (by rw [hvd, Ht.out, Hs.out])
  subst hvs
  have hl2 : ¬ (1048576 : Int) < (L : Int) := by omega
  clear hvd
  go_wp2_with (at_make; refine wpList_make_row _ rfl _ _ 23 rfl 52 .u32 4 Tryz.underlying23 Tryz.infoU32 _ _ _ _ M M rfl rfl (by omega) (by omega) (Nat.le_refl _) (by omega) (by unfold maxLen; omega) ?_)
  intro w1 hr hbel hsz1
  go_wp2
  go_loopw [18] (fun i wr => ∃ (k : Nat) (zs : List Int), k ≤ L ∧ i = .int .i64 k ∧ zs.length = M ∧ FromRel ds zs k ∧ Row .u32 52 wr w'.heap.size zs ∧ Below w'.heap.size w' wr) (fun i _ => L - (intOf i).toNat)
  case atStart => exact ⟨0, List.replicate M 0, by omega, rfl, by simp, ⟨Nt.ok_replicate _, fun j _ => Nt.lb_replicate _ _, by rw [Nt.lb_replicate]; decide, by rw [Nt.val_replicate]; rfl⟩, hr, hbel⟩
  case round =>
    obtain ⟨k, zs, hk, rfl, hzl, hrel2, hrow, hbr⟩ := hrel
    have HR := hide hrel2
    have HZ := hide hzl
    clear hrel2 hzl hr hbel
    by_cases hkl : k < L
    · obtain ⟨q, hq⟩ : ∃ q, q = k / 4 := ⟨_, rfl⟩
      obtain ⟨r, hr4⟩ : ∃ r, r = k % 4 := ⟨_, rfl⟩
      obtain ⟨p, hp⟩ : ∃ p, p = L - 1 - k := ⟨_, rfl⟩
      have hqM : q < M := by have := HM.out; omega
      have g1 := hrow.cell (i := q) (by rw [HZ.out]; exact hqM)
      have hfz := hrow.frozen q
      have bd := hd.1 k
      have hor := (limb_or (x := Nt.lb zs q) (b := Nt.lb ds k) (r := r) ⟨(HR.out.1 q).1, by have h := HR.out.2.2.1; rw [← hq, ← hr4] at h; exact h⟩ bd (by omega)).1
      have hbn := (limb_or (x := Nt.lb zs q) (b := Nt.lb ds k) (r := r) ⟨(HR.out.1 q).1, by have h := HR.out.2.2.1; rw [← hq, ← hr4] at h; exact h⟩ bd (by omega)).2
      have hst := fromRel_step HR.out hq hr4 (by rw [HZ.out]; exact hqM) bd
      have hps : p < v.size := by omega
      have hx := Hix.out p hps
      rw [show L - 1 - p = k by omega] at hx
      have q1 : (k : Int) / 4 = (q : Int) := by omega
      have q2 : (L : Int) - 1 - (k : Int) = (p : Int) := by omega
      have q3 : (q : Int) < (M : Int) := by omega
      have q4 : (p : Int) < (L : Int) := by omega
      have q5 : (k : Int) % 4 = (r : Int) := by omega
      have hrb : r < 4 := by omega
      have HSt := hide hst
      clear hst hq hr4 hp
      match r, hrb with
      | 0, _ =>
        have e : Nb.pw 0 = 1 := by decide
        have e' : Nb.pw 1 = 256 := by decide
        rw [e, Int.mul_one] at hor
        rw [e, Int.mul_one] at HSt
        rw [e, e', Int.mul_one] at hbn
        clear e e'
        go_wp2
        go_region
        all_goals go_wp2
        all_goals go_roundw
        all_goals first
          | exact ⟨k + 1, zs.set q (Nt.lb zs q + Nt.lb ds k), by omega, by go_num, by rw [List.length_set]; exact HZ.out, HSt.out, hrow.set _ _, (hbr.setCell (Nat.le_refl _) _).drew⟩
          | (simp [intOf]; omega)
      | 1, _ =>
        have e : Nb.pw 1 = 256 := by decide
        have e' : Nb.pw 2 = 65536 := by decide
        rw [e] at hor
        rw [e] at HSt
        rw [e, e'] at hbn
        clear e e'
        go_wp2
        go_region
        all_goals go_wp2
        all_goals go_roundw
        all_goals first
          | exact ⟨k + 1, zs.set q (Nt.lb zs q + Nt.lb ds k * 256), by omega, by go_num, by rw [List.length_set]; exact HZ.out, HSt.out, hrow.set _ _, (hbr.setCell (Nat.le_refl _) _).drew⟩
          | (simp [intOf]; omega)
      | 2, _ =>
        have e : Nb.pw 2 = 65536 := by decide
        have e' : Nb.pw 3 = 16777216 := by decide
        rw [e] at hor
        rw [e] at HSt
        rw [e, e'] at hbn
        clear e e'
        go_wp2
        go_region
        all_goals go_wp2
        all_goals go_roundw
        all_goals first
          | exact ⟨k + 1, zs.set q (Nt.lb zs q + Nt.lb ds k * 65536), by omega, by go_num, by rw [List.length_set]; exact HZ.out, HSt.out, hrow.set _ _, (hbr.setCell (Nat.le_refl _) _).drew⟩
          | (simp [intOf]; omega)
      | 3, _ =>
        have e : Nb.pw 3 = 16777216 := by decide
        have e' : Nb.pw 4 = 4294967296 := by decide
        rw [e] at hor
        rw [e] at HSt
        rw [e, e'] at hbn
        clear e e'
        go_wp2
        go_region
        all_goals go_wp2
        all_goals go_roundw
        all_goals first
          | exact ⟨k + 1, zs.set q (Nt.lb zs q + Nt.lb ds k * 16777216), by omega, by go_num, by rw [List.length_set]; exact HZ.out, HSt.out, hrow.set _ _, (hbr.setCell (Nat.le_refl _) _).drew⟩
          | (simp [intOf]; omega)
      | r + 4, h => omega
    · have hke : k = L := by omega
      have hfin : Nt.val zs = n := by
        have h := HR.out.2.2.2
        rw [hke, HL.out] at h
        rw [h, ← Hv.out]; rfl
      have hcan : Nt.Canon zs := limbs_top hd HR.out.1 (by rw [HZ.out, HM.out, HL.out]) (by rw [hfin, Hv.out])
      have hnum : Num w'.heap.size wr (.slice (some ⟨w'.heap.size, 0, none⟩) M M) n ((ds.length + 3) / 4) := by
        refine ⟨zs, ⟨_, by rw [HZ.out], by rw [HZ.out]; unfold maxLen; omega, fun _ => ⟨w'.heap.size, [], rfl, Nat.le_refl _, by rw [List.append_nil]; exact hrow⟩⟩, hcan, hfin, by rw [HZ.out, HM.out, HL.out]; exact Nat.le_refl _⟩
      have HN := hide hnum
      clear hfin hcan hnum
      subst hke
      go_wp2
      go_ret2
      exact ⟨_, rfl, HN.out, hbr⟩

end Go.Proofs.YthoaibcoklgnhaaGreatDoor

namespace Go.Proofs.YthoaibcoklgnhaaGreatDoor
open Go.RowKit

theorem twin_arg {w : World} {va : Value} {n : Int} {k : Nat} (ha : Arg w va n k) (hk : k ≤ 1099511627776) :
    Calls Tryz.prog 6 #[va] w fun e w' => ∃ v, e = .returned v ∧ Arg w' v n k ∧ Below w.heap.size w w' := by
  obtain ⟨xs, hr, ho, hv, hl⟩ := ha
  refine (twin_any hr (by omega)).mono ?_
  rintro e w' ⟨v, rfl, ht, hb⟩
  exact ⟨v, rfl, ⟨xs, ht.reads, ho, hv, hl⟩, hb⟩

theorem isLen_zero : IsLen 0 0 := ⟨by decide, fun h => by omega⟩
theorem isLen_pos {n : Int} {k : Nat} (h : IsLen n k) (hn : 0 < n) : 0 < k := by
  rcases Nat.eq_zero_or_pos k with h0 | h0
  · subst h0; have h3 := h.1; simp only [p2] at h3; omega
  · exact h0
theorem sgn_self (n : Int) : sgn n n = 0 := by unfold sgn; simp

end Go.Proofs.YthoaibcoklgnhaaGreatDoor

namespace Go.Proofs.YthoaibcoklgnhaaGreatDoor
open Go.RowKit

end Go.Proofs.YthoaibcoklgnhaaGreatDoor

namespace Go.Proofs.YthoaibcoklgnhaaGreatDoor
open Go.RowKit

theorem nb_ok_cons {x : Int} {xs : List Int} : Nb.Ok (x :: xs) ↔ (0 ≤ x ∧ x < 256) ∧ Nb.Ok xs := by
  constructor
  · intro h
    exact ⟨by simpa [Nt.lb] using h 0, fun i => by simpa [Nt.lb] using h (i + 1)⟩
  · rintro ⟨h1, h2⟩ i
    cases i with
    | zero => simpa [Nt.lb] using h1
    | succ i => simpa [Nt.lb] using h2 i
theorem nb_ok_reverse {xs : List Int} (h : Nb.Ok xs) : Nb.Ok xs.reverse := by
  intro i
  by_cases hi : i < xs.length
  · rw [lb_reverse hi]; exact h _
  · rw [Nt.lb_out (by rw [List.length_reverse]; omega)]; omega
theorem nb_val_cons (x : Int) (xs : List Int) : Nb.val (x :: xs) = x + 256 * Nb.val xs := by
  have key : ∀ n, Nb.vt (x :: xs) (n + 1) = x + 256 * Nb.vt xs n := by
    intro n
    induction n with
    | zero => simp [Nb.vt, Nt.lb, Nb.pw]
    | succ n ih =>
      rw [Nb.vt_succ, ih, Nb.vt_succ, Nb.pw_succ]
      have e : Nt.lb (x :: xs) (n + 1) = Nt.lb xs n := by simp [Nt.lb]
      rw [e]
      grind
  show Nb.vt (x :: xs) (xs.length + 1) = _
  rw [key]; rfl
theorem u8_lt {x y : Int} (hx : 0 ≤ x ∧ x < 256) (hy : 0 ≤ y ∧ y < 256) : (UInt8.ofNat x.toNat < UInt8.ofNat y.toNat ↔ x < y) ∧ (UInt8.ofNat x.toNat = UInt8.ofNat y.toNat ↔ x = y) := by
  constructor
  · rw [UInt8.lt_iff_toNat_lt, UInt8.toNat_ofNat', UInt8.toNat_ofNat']; omega
  · rw [← UInt8.toNat_inj, UInt8.toNat_ofNat', UInt8.toNat_ofNat']; omega
theorem bytesLess_nums : ∀ {xs ys : List Int}, xs.length = ys.length → Nb.Ok xs → Nb.Ok ys → Op.bytesLess (xs.map fun n => UInt8.ofNat n.toNat) (ys.map fun n => UInt8.ofNat n.toNat) = decide (Nb.val xs.reverse < Nb.val ys.reverse)
  | [], [], _, _, _ => by simp [Op.bytesLess]
  | x :: xs, [], h, _, _ => by simp at h
  | [], y :: ys, h, _, _ => by simp at h
  | x :: xs, y :: ys, h, hx, hy => by
    have hl : xs.length = ys.length := by simpa using h
    obtain ⟨x1, x2⟩ := nb_ok_cons.1 hx
    obtain ⟨y1, y2⟩ := nb_ok_cons.1 hy
    obtain ⟨u1, u2⟩ := u8_lt x1 y1
    have ih := bytesLess_nums hl x2 y2
    simp only [List.map_cons, Op.bytesLess, List.reverse_cons, Nb.val_snoc, List.length_reverse]
    rw [ih, hl]
    have a := Nb.val_lt (nb_ok_reverse x2)
    have a0 := Nb.val_nonneg (nb_ok_reverse x2)
    have b := Nb.val_lt (nb_ok_reverse y2)
    have b0 := Nb.val_nonneg (nb_ok_reverse y2)
    rw [List.length_reverse] at a b
    rw [hl] at a
    have hP := Nb.pw_pos ys.length
    generalize Nb.pw ys.length = P at *
    generalize Nb.val xs.reverse = A at *
    generalize Nb.val ys.reverse = B at *
    rcases Int.lt_trichotomy x y with c | c | c
    · have h1 : (x + 1) * P ≤ y * P := Int.mul_le_mul_of_nonneg_right (by omega) (by omega)
      rw [Int.add_mul] at h1
      rw [decide_eq_true (show A + x * P < B + y * P by omega)]
      simp [u1.2 c]
    · subst c
      have : (A + x * P < B + x * P) ↔ A < B := by omega
      simp [this]
    · have h1 : (y + 1) * P ≤ x * P := Int.mul_le_mul_of_nonneg_right (by omega) (by omega)
      rw [Int.add_mul] at h1
      rw [decide_eq_false (show ¬ A + x * P < B + y * P by omega)]
      have n1 : ¬ (UInt8.ofNat x.toNat < UInt8.ofNat y.toNat) := fun h => by have := u1.1 h; omega
      have n2 : ¬ (UInt8.ofNat x.toNat = UInt8.ofNat y.toNat) := fun h => by have := u2.1 h; omega
      simp [n1, n2]

theorem bstr_one {n : Int} {s t : ByteArray} (hs : Bstr n s) (ht : Bstr n t) : s = t := by
  obtain ⟨ds, d1, d2, rfl⟩ := hs
  obtain ⟨es, e1, e2, rfl⟩ := ht
  rw [Nb.canon_unique d1 e1 (by rw [d2, e2])]
theorem bstr_toList {ds : List Int} : (strOfNums ds.reverse).toList = ds.reverse.map fun n => UInt8.ofNat n.toNat := by rw [ByteArray.toList_eq, strOfNums_data]

/-- a byte more behind -/
theorem bstr_more {A x : Int} {s : ByteArray} (hs : Bstr A s) (hx : 0 ≤ x ∧ x < 256) (hn : ¬ (A = 0 ∧ x = 0)) : Bstr (A * 256 + x) (s ++ strOfNums [x]) := by
  obtain ⟨ds, d1, d2, rfl⟩ := hs
  refine ⟨x :: ds, ⟨nb_ok_cons.2 ⟨hx, d1.1⟩, fun _ => ?_⟩, by rw [nb_val_cons, d2]; omega, ?_⟩
  · by_cases h : ds = []
    · subst h
      have hA : A = 0 := by rw [← d2]; rfl
      have hx0 : x ≠ 0 := fun e => hn ⟨hA, e⟩
      simpa [Nt.lb] using hx0
    · have h1 := d1.2 h
      have hp := List.length_pos_iff.2 h
      have e : Nt.lb (x :: ds) ((x :: ds).length - 1) = Nt.lb ds (ds.length - 1) := by
        obtain ⟨m, hm⟩ : ∃ m, ds.length = m + 1 := ⟨ds.length - 1, by omega⟩
        simp [Nt.lb, hm]
      rw [e]; exact h1
  · apply Go.WideShapes.bytes_inj
    rw [strOfNums_data, List.reverse_cons, List.map_append]
    simp [strOfNums]
theorem bstr_zero : Bstr 0 ⟨#[]⟩ := ⟨[], Nb.canon_nil, rfl, rfl⟩
/-- the first byte is not 0 -/
theorem bstr_first {A : Int} {s : ByteArray} (hs : Bstr A s) (h : 0 < s.size) : (((s[0]'h).toNat : Nat) : Int) ≠ 0 := by
  obtain ⟨ds, d1, d2, rfl⟩ := hs
  have hp : 0 < ds.length := by rw [strOfNums_size, List.length_reverse] at h; exact h
  have h2 := d1.2 (List.length_pos_iff.1 hp)
  rw [strOfNums_at h (by rw [lb_reverse hp]; exact d1.1 _), lb_reverse hp, Nat.sub_zero]
  exact h2
/-- noughts ahead say nothing -/
theorem bstr_drop {ds : List Int} (hd : Nb.Canon ds) (z : Nat) : (strOfNums (List.replicate z 0) ++ strOfNums ds.reverse).data.toList.dropWhile (· == 0) = (strOfNums ds.reverse).data.toList := by
  have e : (strOfNums (List.replicate z 0) ++ strOfNums ds.reverse).data.toList = List.replicate z 0 ++ (strOfNums ds.reverse).data.toList := by
    simp [strOfNums]
  rw [e]
  have h1 : ∀ z : Nat, (List.replicate z (0 : UInt8) ++ (strOfNums ds.reverse).data.toList).dropWhile (· == 0) = (strOfNums ds.reverse).data.toList.dropWhile (· == 0) := by
    intro z
    induction z with
    | zero => simp
    | succ z _ => rw [List.replicate_succ, List.cons_append, List.dropWhile_cons]; simp
  rw [h1]
  by_cases h : ds = []
  · subst h; rfl
  · have hp := List.length_pos_iff.2 h
    have h0 : 0 < (strOfNums ds.reverse).size := by rw [strOfNums_size, List.length_reverse]; exact hp
    have hf := bstr_first ⟨ds, hd, rfl, rfl⟩ h0
    have hu := bytes_uncons h0
    have hne : ¬ (strOfNums ds.reverse)[0] = 0 := fun e => hf (by rw [e]; rfl)
    rw [hu, List.dropWhile_cons]
    simp [hne]

end Go.Proofs.YthoaibcoklgnhaaGreatDoor
