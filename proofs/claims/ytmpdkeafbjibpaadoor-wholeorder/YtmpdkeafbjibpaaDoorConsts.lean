/- the chapter's examples, at their fixed texts -/
import Derived.Test.YtmpdkeafbjibpaaDoorPow
import Derived.Test.YtmpdkeafbjibpaaDoorLives
import Derived.LoopN
import Derived.Laws.BytesArg
namespace Go.Proofs.YtmpdkeafbjibpaaDoor
open Go.RowKit

theorem canon_one {x : Int} (hx : 0 < x ∧ x < 4294967296) : Nt.Canon [x] := ⟨ok_one_limb ⟨by omega, hx.2⟩, fun _ => by show x ≠ 0; omega⟩
theorem num_row1 {B g : Nat} {w : World} {x : Int} (hr : Row .u32 59 w g [x]) (hB : B ≤ g) (hx : 0 < x ∧ x < 4294967296) : Num B w (.slice (some ⟨g, 0, none⟩) 1 1) x 1 :=
  ⟨[x], ⟨some ⟨g, 0, none⟩, rfl, by unfold maxLen; simp, fun _ => ⟨g, [], rfl, hB, hr⟩⟩, canon_one hx, val_one x, Nat.le_refl _⟩

set_option maxHeartbeats 1000000 in
theorem trimByte_c {w : World} :
    Calls Tryd.prog 79 #[.string ⟨#[0, 1, 0]⟩, .int .u8 0] w fun e w' => e = .returned (.string ⟨#[1, 0]⟩) ∧ w' = w := by
  go_enter Tryd.func79, Tryd.ntmps79
  go_wp2
  refine wp_loop_rounds 3 ?_
  rw [rounds_succ]
  go_wp2
  rw [rounds_succ]
  go_wp2
  go_ret
  exact ⟨rfl, rfl⟩

set_option maxRecDepth 20000 in
set_option maxHeartbeats 1000000 in
theorem trimLeft_c {w : World} :
    Calls Tryd.prog 69 #[.string ⟨#[0, 1, 0]⟩, .string ⟨#[0]⟩] w fun e w' => e = .returned (.string ⟨#[1, 0]⟩) ∧ w' = w := by
  go_enter Tryd.func69, Tryd.ntmps69
  go_wp2_with fail
  refine trimByte_c.mono ?_
  rintro e w' ⟨rfl, rfl⟩
  go_wp2
  go_ret
  exact ⟨rfl, rfl⟩

set_option maxRecDepth 20000 in
set_option maxHeartbeats 2000000 in
theorem fromBytes_c {w : World} :
    Calls Tryd.prog 55 #[.string ⟨#[0, 1, 0]⟩] w fun e w' => ∃ v, e = .returned (.tuple #[v, .bool true]) ∧ Num w.heap.size w' v 256 1 ∧ Below w.heap.size w w' := by
  go_enter Tryd.func55, Tryd.ntmps55
  go_wp2_with fail
  refine trimLeft_c.mono ?_
  rintro e w' ⟨rfl, rfl⟩
  go_wp2_with (at_make; refine wpList_make_row _ rfl _ _ 23 rfl 59 .u32 4 Tryd.underlying23 Tryd.infoU32 _ _ _ _ 1 1 rfl rfl (by omega) (by omega) (Nat.le_refl _) (by omega) (by unfold maxLen; omega) ?_)
  intro w1 hr hbel hsz
  replace hr : Row .u32 59 w1 w'.heap.size [0] := hr
  have hc0 : w1.cell? ⟨w'.heap.size, 0, none⟩ = some (.int .u32 0) := hr.cell (i := 0) (by simp)
  have hf0 := hr.frozen 0
  have c1 : ((({ data := #[1, 0] } : ByteArray)[1].toNat : Nat) : Int) = 0 := rfl
  have c0 : ((({ data := #[1, 0] } : ByteArray)[0].toNat : Nat) : Int) = 1 := rfl
  have o1 : bits .or .u32 0 0 = 0 := by decide
  have o2 : bits .or .u32 0 256 = 256 := by decide
  go_wp2
  refine wp_loop_rounds 3 ?_
  rw [rounds_succ]
  go_wp2
  go_region
  go_wp2
  rw [rounds_succ]
  go_wp2
  go_region
  go_wp2
  rw [rounds_succ]
  go_wp2
  go_ret2
  exact ⟨_, rfl, num_row1 (x := 256) ((hr.set 0 0).set 0 256) (Nat.le_refl _) (by omega), ((hbel.setCell (p := ⟨w'.heap.size, 0, none⟩) (Nat.le_refl _) _).setCell (p := ⟨w'.heap.size, 0, none⟩) (Nat.le_refl _) _).drew.drew⟩

theorem Tryd.infoU8 : (Tryd.prog.info? 5).map (fun i => (i.zero, i.size, i.bytes)) = some (some (.int .u8 0), 1, 1) := by kernel_rfl

/-- string(b) of a row of bytes -/
theorem row_string {w : World} {g cap : Nat} {zs : List Int} (hr : Row .u8 5 w g zs) :
    (convert 48 9 (.slice (some ⟨g, 0, none⟩) zs.length cap)).run Tryd.prog w = .ok (.string (strOfNums zs)) w :=
  run_convert_bytes_arg w 48 5 Tryd.underlying48 Tryd.underlying5 g 0 zs.length cap zs rfl (fun i hi => by rw [Nat.zero_add]; exact hr.cell hi) 9 Tryd.underlying9

set_option maxRecDepth 20000 in
set_option maxHeartbeats 2000000 in
theorem bytes_c {w : World} {va : Value} (ha : Arg w va 65536 1) :
    Calls Tryd.prog 37 #[va] w fun e w' => e = .returned (.string ⟨#[1, 0, 0]⟩) ∧ Below w.heap.size w w' := by
  have hlen := len_any ha (by omega)
  obtain ⟨zs, ⟨ao, cap, rfl, hl1, hl2, hc⟩, ho, hv, hk⟩ := ha
  have hzl : zs.length = 1 := by
    rcases Nat.eq_zero_or_pos zs.length with h | h
    · rw [List.eq_nil_of_length_eq_zero h, Nt.val_nil] at hv; omega
    · omega
  have hz0 : Nt.lb zs 0 = 65536 := by
    unfold Nt.val at hv
    rw [hzl] at hv
    simpa [Nt.vt, Nt.pw] using hv
  obtain ⟨b1, o1, rfl, hb1, hcell⟩ := hc (by omega)
  have g0 := hcell 0 (by omega)
  rw [hz0, Nat.add_zero] at g0
  rw [hzl] at hlen ⊢
  clear hcell hv hk ho hl1 hc
  go_enter Tryd.func37, Tryd.ntmps37
  go_wp2_with fail
  refine hlen.mono ?_
  clear hlen
  rintro e w' ⟨k, rfl, hk, _, rfl⟩
  have hk17 : k = 17 := isLen_unique hk ⟨by decide, fun _ => by decide⟩
  subst hk17
  clear hk
  go_wp2_with (at_make; refine wpList_make_row _ rfl _ _ 48 rfl 5 .u8 1 Tryd.underlying48 Tryd.infoU8 _ _ _ _ 3 3 rfl rfl (by omega) (by omega) (Nat.le_refl _) (by omega) (by unfold maxLen; omega) ?_)
  intro w1 hr hbel hsz
  replace hr : Row .u8 5 w1 w'.heap.size [0, 0, 0] := hr
  have hc0 : w1.cell? ⟨w'.heap.size, 0, none⟩ = some (.int .u8 0) := hr.cell (i := 0) (by simp)
  have hc1 : w1.cell? ⟨w'.heap.size, 1, none⟩ = some (.int .u8 0) := hr.cell (i := 1) (by simp)
  have hc2 : w1.cell? ⟨w'.heap.size, 2, none⟩ = some (.int .u8 0) := hr.cell (i := 2) (by simp)
  have hf0 := hr.frozen 0
  have hf1 := hr.frozen 1
  have hf2 := hr.frozen 2
  have g1 := (hbel.cell (p := ⟨b1, o1, none⟩) hb1).trans g0
  have hne : ¬ w'.heap.size = b1 := by omega
  have hrow : Row .u8 5 (((w1.setCell ⟨w'.heap.size, 2, none⟩ (.int .u8 0)).setCell ⟨w'.heap.size, 1, none⟩ (.int .u8 0)).setCell ⟨w'.heap.size, 0, none⟩ (.int .u8 1)) w'.heap.size [1, 0, 0] := ((hr.set 2 0).set 1 0).set 0 1
  have hcv := row_string (cap := 3) hrow
  have hs9 : strOfNums [1, 0, 0] = ⟨#[1, 0, 0]⟩ := rfl
  have l3 : ([1, 0, 0] : List Int).length = 3 := rfl
  rw [hs9, l3] at hcv
  have hbel2 := ((hbel.setCell (p := ⟨w'.heap.size, 2, none⟩) (Nat.le_refl _) (.int .u8 0)).setCell (p := ⟨w'.heap.size, 1, none⟩) (Nat.le_refl _) (.int .u8 0)).setCell (p := ⟨w'.heap.size, 0, none⟩) (Nat.le_refl _) (.int .u8 1)
  go_wp2
  refine wp_loop_rounds 4 ?_
  rw [rounds_succ]
  go_wp2
  rw [rounds_succ]
  go_wp2
  rw [rounds_succ]
  go_wp2
  rw [rounds_succ]
  go_wp2
  go_ret
  exact ⟨rfl, hbel2⟩

end Go.Proofs.YtmpdkeafbjibpaaDoor
