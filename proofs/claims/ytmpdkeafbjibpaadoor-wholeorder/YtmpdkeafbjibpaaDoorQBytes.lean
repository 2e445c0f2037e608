/- quot.Bytes -/
import Derived.Test.YtmpdkeafbjibpaaDoorQbMath
import Derived.Test.YtmpdkeafbjibpaaDoorConsts
namespace Go.Proofs.YtmpdkeafbjibpaaDoor
open Go.RowKit

/-- a number as bytes, the highest first -/
def Bstr (n : Int) (s : ByteArray) : Prop := ∃ ds, Nb.Canon ds ∧ Nb.val ds = n ∧ s = strOfNums ds.reverse

theorem lb_reverse {xs : List Int} {i : Nat} (h : i < xs.length) : Nt.lb xs.reverse i = Nt.lb xs (xs.length - 1 - i) := by
  have h2 : xs.length - 1 - i < xs.length := by omega
  simp [Nt.lb, h, h2]

set_option maxRecDepth 20000 in
set_option maxHeartbeats 4000000 in
theorem qbytes_any {w : World} {va : Value} {n : Int} {k : Nat} (ha : Arg w va n k) (hk : k ≤ 1099511627776) :
    Calls Tryd.prog 37 #[va] w fun e w' => ∃ s, e = .returned (.string s) ∧ Bstr n s ∧ s.size ≤ 4 * k ∧ Below w.heap.size w w' := by
  have hlen := len_any ha hk
  obtain ⟨xs, ⟨ao, cap, rfl, hl1, hl2, hc⟩, ho, hv, hxk⟩ := ha
  have hlen2 := len_any (w := w) (va := .slice ao xs.length cap) (n := n) (ka := xs.length) ⟨xs, ⟨ao, cap, rfl, hl1, hl2, hc⟩, ho, hv, Nat.le_refl _⟩ (by omega)
  clear hlen
  have Hv := hide hv
  clear hv
  go_enter Tryd.func37, Tryd.ntmps37
  go_wp2_with fail
  refine hlen2.mono ?_
  clear hlen2
  rintro e w' ⟨K, rfl, hK, hK2, rfl⟩
  obtain ⟨L, hL⟩ : ∃ L, L = (K + 7) / 8 := ⟨_, rfl⟩
  have j1 : ((K : Int) + 7) / 8 = (L : Int) := by omega
  have HL := hide hL
  have HK := hide hK
  have hLb : L ≤ 4 * xs.length := by omega
  clear hK hL
  go_wp2_with (at_make; refine wpList_make_row _ rfl _ _ 48 rfl 5 .u8 1 Tryd.underlying48 Tryd.infoU8 _ _ _ _ L L rfl rfl (by omega) (by omega) (Nat.le_refl _) (by omega) (by unfold maxLen; omega) ?_)
  intro w1 hr hbel hsz
  go_wp2
  go_loopw [12] (fun i wr => ∃ (k : Nat) (zs : List Int), k ≤ L ∧ i = .int .i64 k ∧ zs.length = L ∧ (∀ j, j < k → Nt.lb zs (L - 1 - j) = dg xs j) ∧ Row .u8 5 wr w'.heap.size zs ∧ Below w'.heap.size w' wr) (fun i _ => L - (intOf i).toNat)
  case atStart => exact ⟨0, List.replicate L 0, by omega, rfl, by simp, fun j hj => by omega, hr, hbel⟩
  case round =>
    obtain ⟨i, zs, hi, rfl, hzl, hz, hrow, hbr⟩ := hrel
    have HZ := hide hz
    have HZl := hide hzl
    clear hz hzl hr hbel
    by_cases hil : i < L
    · obtain ⟨b1, o1, rfl, hb1, hcell⟩ := (hc.below hbr) (by omega)
      obtain ⟨q, hq⟩ : ∃ q, q = i / 4 := ⟨_, rfl⟩
      obtain ⟨p, hp⟩ : ∃ p, p = L - 1 - i := ⟨_, rfl⟩
      have g0 := hcell q (by omega)
      have bq := ho q
      have q1 : (i : Int) / 4 = (q : Int) := by omega
      have q2 : (L : Int) - 1 - (i : Int) = (p : Int) := by omega
      have q3 : (q : Int) < (xs.length : Int) := by omega
      have q4 : (p : Int) < (L : Int) := by omega
      have g1 := hrow.cell (i := p) (by rw [HZl.out]; omega)
      have hfz := hrow.frozen p
      have hstep : ∀ y : Int, y = dg xs i → ∀ j, j < i + 1 → Nt.lb (zs.set p y) (L - 1 - j) = dg xs j := by
        intro y hy j hj
        by_cases e : j = i
        · subst e
          rw [hp, Nt.lb_set_eq (by rw [HZl.out]; omega), hy]
        · rw [Nt.lb_set_ne (by omega)]
          exact HZ.out j (by omega)
      have HSt := hide hstep
      have Hp := hide hp
      clear hcell hstep hp
      obtain ⟨r, hr4⟩ : ∃ r, r = i % 4 := ⟨_, rfl⟩
      have hd : dg xs i = Nt.lb xs q / Nb.pw r % 256 := by
        have e : i = 4 * q + r := by omega
        rw [e]; exact dg_at xs q r (by omega)
      have q5 : (i : Int) % 4 = (r : Int) := by omega
      have hrb : r < 4 := by omega
      have Hd := hide hd
      clear hd hq hr4
      match r, hrb with
      | 0, _ =>
        have hy : Nt.lb xs q % 256 = dg xs i := by
          rw [Hd.out]
          have e : Nb.pw 0 = 1 := by decide
          rw [e]; simp
        have Hy := hide hy
        clear hy
        go_wp2
        go_roundw
        case rel => exact ⟨i + 1, zs.set p (Nt.lb xs q % 256), by omega, by go_num, by rw [List.length_set]; exact HZl.out, HSt.out _ Hy.out, hrow.set _ _, hbr.setCell (Nat.le_refl _) _⟩
        case measure => simp [intOf]; omega
      | 1, _ =>
        have hy : Nt.lb xs q / 256 % 256 = dg xs i := by
          rw [Hd.out]
          have e : Nb.pw 1 = 256 := by decide
          rw [e]
        have Hy := hide hy
        clear hy
        go_wp2
        go_roundw
        case rel => exact ⟨i + 1, zs.set p (Nt.lb xs q / 256 % 256), by omega, by go_num, by rw [List.length_set]; exact HZl.out, HSt.out _ Hy.out, hrow.set _ _, hbr.setCell (Nat.le_refl _) _⟩
        case measure => simp [intOf]; omega
      | 2, _ =>
        have hy : Nt.lb xs q / 65536 % 256 = dg xs i := by
          rw [Hd.out]
          have e : Nb.pw 2 = 65536 := by decide
          rw [e]
        have Hy := hide hy
        clear hy
        go_wp2
        go_roundw
        case rel => exact ⟨i + 1, zs.set p (Nt.lb xs q / 65536 % 256), by omega, by go_num, by rw [List.length_set]; exact HZl.out, HSt.out _ Hy.out, hrow.set _ _, hbr.setCell (Nat.le_refl _) _⟩
        case measure => simp [intOf]; omega
      | 3, _ =>
        have hy : Nt.lb xs q / 16777216 = dg xs i := by
          rw [Hd.out]
          have e : Nb.pw 3 = 16777216 := by decide
          rw [e]; omega
        have Hy := hide hy
        clear hy
        go_wp2
        go_roundw
        case rel => exact ⟨i + 1, zs.set p (Nt.lb xs q / 16777216), by omega, by go_num, by rw [List.length_set]; exact HZl.out, HSt.out _ Hy.out, hrow.set _ _, hbr.setCell (Nat.le_refl _) _⟩
        case measure => simp [intOf]; omega
      | r + 4, h => omega
    · have hie : i = L := by omega
      subst hie
      have hds : Nb.Canon zs.reverse ∧ Nb.val zs.reverse = Nt.val xs := by
        refine bytes_canon ho (by rw [Hv.out]; exact HK.out) hK2 (by rw [List.length_reverse, HZl.out, HL.out]) (fun j hj => ?_)
        rw [List.length_reverse, HZl.out] at hj
        rw [lb_reverse (by rw [HZl.out]; exact hj), HZl.out]
        exact HZ.out j hj
      have hcv := row_string (cap := zs.length) hrow
      rw [HZl.out] at hcv
      have hfin : Bstr n (strOfNums zs) := ⟨zs.reverse, hds.1, by rw [hds.2, Hv.out], by rw [List.reverse_reverse]⟩
      have hsz2 : (strOfNums zs).size ≤ 4 * k := by rw [strOfNums_size, HZl.out]; omega
      have HF := hide hfin
      have HSz := hide hsz2
      clear hds hfin hsz2
      go_wp2
      go_ret
      exact ⟨_, rfl, HF.out, HSz.out, hbr⟩

end Go.Proofs.YtmpdkeafbjibpaaDoor
