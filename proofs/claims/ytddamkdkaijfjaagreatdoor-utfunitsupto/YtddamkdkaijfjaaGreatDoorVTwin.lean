/- TwinUnits, LeftUnits -/
import Derived.Test.YtddamkdkaijfjaaGreatDoorUSame
import Derived.Test.YtddamkdkaijfjaaGreatDoorAppZero
namespace Go.Proofs.YtddamkdkaijfjaaGreatDoor
open Go.RowKit

theorem Tryz.infoXUnit : (Tryz.prog.info? 52).map (fun i => (i.zero, i.size, i.bytes)) = some (some (.int .u16 0), 1, 2) := by kernel_rfl

/-- a copy with a mark behind it -/
def Twin (B : Nat) (w : World) (v : Value) (xs : List Int) : Prop := ∃ g, v = .slice (some ⟨g, 0, none⟩) xs.length (xs.length + 1) ∧ B ≤ g ∧ xs.length + 1 ≤ maxLen ∧ Row .u16 52 w g (xs ++ [56893])
theorem Twin.below {B : Nat} {w w' : World} {v : Value} {xs : List Int} (h : Twin B w v xs) (hb : Below w.heap.size w w') : Twin B w' v xs := by
  obtain ⟨g, h1, h2, h3, h4⟩ := h
  exact ⟨g, h1, h2, h3, h4.keeps hb⟩
theorem Twin.reads {B : Nat} {w : World} {v : Value} {xs : List Int} (h : Twin B w v xs) : Reads .u16 w v xs := by
  obtain ⟨g, h1, _, h3, h4⟩ := h
  refine ⟨_, _, h1, by omega, h3, fun _ => ⟨g, 0, rfl, h4.lt, fun i hi => ?_⟩⟩
  rw [Nat.zero_add, h4.cell (by rw [List.length_append]; omega), lb_append_left hi]

theorem take_set_succ {xs zs : List Int} {k : Nat} (hk : k < xs.length) (hz : k < zs.length) (h : zs.take k = xs.take k) : (zs.set k (Nt.lb xs k)).take (k + 1) = xs.take (k + 1) := by
  rw [List.take_succ_eq_append_getElem (by simpa using hz), List.take_succ_eq_append_getElem hk, List.take_set_of_le (Nat.le_refl _), h]
  simp [Nt.lb, hk]

set_option maxHeartbeats 1000000 in
theorem twin_any {w : World} {va : Value} {xs : List Int} (ha : Reads .u16 w va xs) (hl : xs.length ≤ 1099511627776) :
    Calls Tryz.prog 18 #[va] w fun e w' => ∃ v, e = .returned v ∧ Twin w.heap.size w' v xs ∧ Below w.heap.size w w' := by
  obtain ⟨ao, cap, rfl, hxl, hxm, hxc⟩ := ha
  go_enter Tryz.func18, Tryz.ntmps18
  go_wp2_with (at_make; refine wpList_make_row _ rfl _ _ 48 rfl 52 .u16 2 Tryz.underlying48 Tryz.infoXUnit _ _ _ _ (xs.length + 1) (xs.length + 1) rfl rfl (by omega) (by omega) (Nat.le_refl _) (by omega) (by unfold maxLen; omega) ?_)
  intro w1 hr hbel hsz
  go_wp2
  go_loopw [4] (fun si wr => ∃ (k : Nat) (zs : List Int), k ≤ xs.length ∧ si = .int .i64 k ∧ zs.length = xs.length + 1 ∧ zs.take k = xs.take k ∧ Row .u16 52 wr w.heap.size zs ∧ Below w.heap.size w wr) (fun si _ => xs.length - (intOf si).toNat)
  case atStart => exact ⟨0, List.replicate (xs.length + 1) 0, by omega, rfl, by simp, by simp, hr, hbel⟩
  case round =>
    obtain ⟨k, zs, hk, rfl, hzl, hzt, hrow, hbr⟩ := hrel
    have Hzl := hide hzl
    have Hzt := hide hzt
    clear hzl hzt hr hbel
    by_cases hkl : k < xs.length
    · obtain ⟨b, off, rfl, hb, hc⟩ := (hxc.below hbr) (by omega)
      have g1 := hc k hkl
      have g2 := hrow.cell (i := k) (by have := Hzl.out; omega)
      have hfz := hrow.frozen k
      clear hc hxc
      go_wp2
      go_roundw
      case rel => exact ⟨k + 1, zs.set k (Nt.lb xs k), by omega, by go_num, by rw [List.length_set, Hzl.out], take_set_succ hkl (by have := Hzl.out; omega) Hzt.out, hrow.set _ _, hbr.setCell (p := ⟨w.heap.size, k, none⟩) (Nat.le_refl _) _⟩
      case measure => simp [intOf]; omega
    · have hke : k = xs.length := by omega
      have g2 := hrow.cell (i := xs.length) (by have := Hzl.out; omega)
      have hfz := hrow.frozen xs.length
      subst hke
      go_wp2
      go_ret
      refine ⟨_, rfl, ⟨w.heap.size, by simp, Nat.le_refl _, by unfold maxLen; omega, ?_⟩, hbr.setCell (p := ⟨w.heap.size, xs.length, none⟩) (Nat.le_refl _) _⟩
      have := hrow.set xs.length 56893
      have e : zs.set xs.length 56893 = xs ++ [56893] := by
        have h1 := Hzt.out
        have h2 := Hzl.out
        rw [List.take_length] at h1
        have h3 : (zs.set xs.length 56893).take (xs.length + 1) = xs ++ [56893] := by
          rw [List.take_succ_eq_append_getElem (by rw [List.length_set]; omega), List.take_set_of_le (Nat.le_refl _), h1]
          simp
        rw [← h3, List.take_of_length_le (by rw [List.length_set]; omega)]
      rw [e] at this
      exact this

set_option maxHeartbeats 1000000 in
theorem left_any {w : World} {va vb : Value} {xs : List Int} {B : Nat} (ha : Twin B w va xs) (hb : Reads .u16 w vb xs) :
    Calls Tryz.prog 21 #[va, vb] w fun e w' => e = .returned (.bool true) ∧ Below w.heap.size w w' := by
  have hs := same_units ha.reads hb
  rw [decide_eq_true rfl] at hs
  obtain ⟨g, rfl, _, hm, hrow⟩ := ha
  obtain ⟨bo, cb, rfl, hyl, hym, hyc⟩ := hb
  unfold maxLen at hm
  have Hs := hide hs
  clear hs
  go_enter Tryz.func21, Tryz.ntmps21
  go_wp2_with fail
  refine Calls.mono Hs.out ?_
  rintro e w1 ⟨rfl, hb1⟩
  have hc := (hrow.keeps hb1).cell (i := xs.length) (by simp)
  have e : Nt.lb (xs ++ [56893]) xs.length = 56893 := by simp [Nt.lb]
  rw [e] at hc
  clear Hs e
  go_wp2
  go_ret
  exact ⟨rfl, hb1⟩

end Go.Proofs.YtddamkdkaijfjaaGreatDoor
