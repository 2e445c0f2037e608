/- quot.Digits of 3 and of 1, quot.Read of 5 -/
import Derived.Test.YtmpdkeafbjibpaaDoorDigC
import Derived.Test.YtmpdkeafbjibpaaDoorAdd
import Derived.Test.YtmpdkeafbjibpaaDoorLives
namespace Go.Proofs.YtmpdkeafbjibpaaDoor
open Go.RowKit

set_option maxRecDepth 20000 in
set_option maxHeartbeats 2000000 in
theorem low_d3 {w : World} {B gc ga gg ka : Nat} {va : Value} (h1 : w.cell? ⟨gc, 0, none⟩ = some (.int .i64 0)) (h2 : w.cell? ⟨ga, 0, none⟩ = some va) (h3 : w.cell? ⟨gg, 0, none⟩ = some (.int .u32 0))
    (f1 : w.frozen? ⟨gc, 0, none⟩ = false) (f2 : w.frozen? ⟨ga, 0, none⟩ = false) (f3 : w.frozen? ⟨gg, 0, none⟩ = false) (s1 : gc < w.heap.size) (s2 : ga < w.heap.size) (s3 : gg < w.heap.size)
    (d1 : gc ≠ ga) (d2 : gc ≠ gg) (d3 : ga ≠ gg) (ha : Arg w va 3 ka) (hka : ka ≤ 1099511627776) (b1 : B ≤ gc) (b2 : B ≤ ga) (b3 : B ≤ gg) :
    Calls Tryd.prog 85 #[.pointer (some ⟨gc, 0, none⟩), .pointer (some ⟨ga, 0, none⟩), .pointer (some ⟨gg, 0, none⟩)] w fun e w' => e = .returned (.int .u8 51) ∧ Below B w w' := by
  have hsm := small_yes (d := 1000000000) ha hka (by omega) (by omega)
  obtain ⟨zs0, ⟨ao, cap, rfl, _, _, _⟩, _⟩ := ha
  have t1 : ¬ ga = gc := fun e => d1 e.symm
  have t2 : ¬ gg = gc := fun e => d2 e.symm
  have t3 : ¬ gg = ga := fun e => d3 e.symm
  go_enter Tryd.func85, Tryd.ntmps85
  go_wp2_with fail
  refine hsm.mono ?_
  clear hsm
  rintro e w1 ⟨v, rfl, ⟨zs, ⟨vo, rfl, _, _⟩, _, _, _⟩, hb⟩
  have k1 := (hb.cell (p := ⟨gc, 0, none⟩) s1).trans h1
  have k2 := (hb.cell (p := ⟨ga, 0, none⟩) s2).trans h2
  have k3 := (hb.cell (p := ⟨gg, 0, none⟩) s3).trans h3
  have l1 := (hb.frozen (p := ⟨gc, 0, none⟩) s1).trans f1
  have l2 := (hb.frozen (p := ⟨ga, 0, none⟩) s2).trans f2
  have l3 := (hb.frozen (p := ⟨gg, 0, none⟩) s3).trans f3
  have r7 : (3 : Int) % 1000000000 = 3 := by decide
  go_wp2
  go_ret
  exact ⟨rfl, ((((((hb.mono (by omega)).setCell (p := ⟨ga, 0, none⟩) b2 _).setCell (p := ⟨gg, 0, none⟩) b3 _).setCell (p := ⟨gc, 0, none⟩) b1 _).setCell (p := ⟨gg, 0, none⟩) b3 _).setCell (p := ⟨gc, 0, none⟩) b1 _)⟩

set_option maxRecDepth 20000 in
set_option maxHeartbeats 2000000 in
theorem tell_d3 {w : World} {gt ka : Nat} {va : Value} (hr : Row .u8 5 w gt [0]) (ha : Arg w va 3 ka) (hka : ka ≤ 1099511627776) :
    Calls Tryd.prog 68 #[.slice (some ⟨gt, 0, none⟩) 1 1, va, .slice none 0 0] w fun e w' => e = .returned (.tuple #[]) ∧ Row .u8 5 w' gt [51] ∧ Below gt w w' := by
  have ha' := ha
  obtain ⟨zs0, ⟨ao, cap, rfl, _, _, _⟩, _⟩ := ha
  have hgt := hr.lt
  go_enter Tryd.func68, Tryd.ntmps68
  go_wp2_with fail
  refine lowest_any.mono ?_
  rintro e w1 ⟨rfl, h2, h3, h1, f2, f3, f1, hsz, hb⟩
  have hlow := low_d3 (w := w1) (B := w.heap.size) (gc := w.heap.size + 2) (ga := w.heap.size) (gg := w.heap.size + 1) h1 h2 h3 f1 f2 f3 (by omega) (by omega) (by omega) (by omega) (by omega) (by omega) (ha'.below hb) hka (by omega) (by omega) (by omega)
  clear h1 h2 h3 f1 f2 f3 ha'
  go_wp2
  refine wp_loop_rounds 2 ?_
  rw [rounds_succ]
  go_wp2_with fail
  with_reducible refine hlow.mono ?_
  clear hlow
  rintro e w2 ⟨rfl, hb2⟩
  have hr2 : Row .u8 5 w2 gt [0] := (hr.keeps hb).below hb2 hgt
  have hc0 : w2.cell? ⟨gt, 0, none⟩ = some (.int .u8 0) := hr2.cell (i := 0) (by simp)
  have hf0 := hr2.frozen 0
  have hbb : Below gt w w2 := ((hb.mono (by omega)).trans (hb2.mono (by omega)))
  go_wp2
  rw [rounds_succ]
  go_wp2
  refine bodyPost_ret (results_none rfl _ _ _) rfl ?_
  exact ⟨rfl, hr2.set 0 51, hbb.setCell (p := ⟨gt, 0, none⟩) (Nat.le_refl _) _⟩

set_option maxRecDepth 20000 in
set_option maxHeartbeats 2000000 in
theorem trimLeft_d3 {w : World} :
    Calls Tryd.prog 69 #[.string ⟨#[51]⟩, .string ⟨#[48]⟩] w fun e w' => e = .returned (.string ⟨#[51]⟩) ∧ w' = w := by
  have hb : Calls Tryd.prog 79 #[.string ⟨#[51]⟩, .int .u8 48] w fun e w' => e = .returned (.string ⟨#[51]⟩) ∧ w' = w := by
    go_enter Tryd.func79, Tryd.ntmps79
    go_wp2
    refine wp_loop_rounds 1 ?_
    rw [rounds_succ]
    go_wp2
    go_ret
    exact ⟨rfl, rfl⟩
  go_enter Tryd.func69, Tryd.ntmps69
  go_wp2_with fail
  refine hb.mono ?_
  rintro e w' ⟨rfl, rfl⟩
  go_wp2
  go_ret
  exact ⟨rfl, rfl⟩

set_option maxRecDepth 20000 in
set_option maxHeartbeats 2000000 in
theorem digits_d3 {w : World} {va : Value} {ka : Nat} (ha : Arg w va 3 ka) (hka : ka ≤ 1099511627776) :
    Calls Tryd.prog 48 #[va] w fun e w' => e = .returned (.string ⟨#[51]⟩) ∧ Below w.heap.size w w' := by
  go_enter Tryd.func48, Tryd.ntmps48
  go_wp2_with fail
  refine (len_any ha hka).mono ?_
  rintro e w' ⟨k, rfl, hk, _, rfl⟩
  have hk3 : k = 2 := isLen_unique hk ⟨by decide, fun _ => by decide⟩
  subst hk3
  clear hk
  go_wp2_with fail
  refine (room_any (n := 2) (by omega) (by omega)).mono ?_
  rintro e w1 ⟨rfl, rfl⟩
  go_wp2_with (at_make; refine wpList_make_row _ rfl _ _ 48 rfl 5 .u8 1 Tryd.underlying48 Tryd.infoU8 _ _ _ _ 1 1 rfl rfl (by omega) (by omega) (Nat.le_refl _) (by omega) (by unfold maxLen; omega) ?_)
  intro w2 hr hbel hsz
  replace hr : Row .u8 5 w2 w1.heap.size [0] := hr
  go_wp2_with fail
  refine (tens_none (n := 1) (by omega)).mono ?_
  rintro e w3 ⟨rfl, rfl⟩
  go_wp2_with fail
  refine (tell_d3 hr (ha.below hbel) hka).mono ?_
  rintro e w4 ⟨rfl, hr4, hb4⟩
  have hcv := row_string (cap := 1) hr4
  have hs9 : strOfNums [51] = ⟨#[51]⟩ := rfl
  have l1 : ([51] : List Int).length = 1 := rfl
  rw [hs9, l1] at hcv
  go_wp2_with fail
  refine trimLeft_d3.mono ?_
  rintro e w5 ⟨rfl, rfl⟩
  go_wp2
  go_ret
  exact ⟨rfl, hbel.trans hb4⟩

set_option maxRecDepth 20000 in
set_option maxHeartbeats 2000000 in
theorem low_d1 {w : World} {B gc ga gg ka : Nat} {va : Value} (h1 : w.cell? ⟨gc, 0, none⟩ = some (.int .i64 0)) (h2 : w.cell? ⟨ga, 0, none⟩ = some va) (h3 : w.cell? ⟨gg, 0, none⟩ = some (.int .u32 0))
    (f1 : w.frozen? ⟨gc, 0, none⟩ = false) (f2 : w.frozen? ⟨ga, 0, none⟩ = false) (f3 : w.frozen? ⟨gg, 0, none⟩ = false) (s1 : gc < w.heap.size) (s2 : ga < w.heap.size) (s3 : gg < w.heap.size)
    (d1 : gc ≠ ga) (d2 : gc ≠ gg) (d3 : ga ≠ gg) (ha : Arg w va 1 ka) (hka : ka ≤ 1099511627776) (b1 : B ≤ gc) (b2 : B ≤ ga) (b3 : B ≤ gg) :
    Calls Tryd.prog 85 #[.pointer (some ⟨gc, 0, none⟩), .pointer (some ⟨ga, 0, none⟩), .pointer (some ⟨gg, 0, none⟩)] w fun e w' => e = .returned (.int .u8 49) ∧ Below B w w' := by
  have hsm := small_yes (d := 1000000000) ha hka (by omega) (by omega)
  obtain ⟨zs0, ⟨ao, cap, rfl, _, _, _⟩, _⟩ := ha
  have t1 : ¬ ga = gc := fun e => d1 e.symm
  have t2 : ¬ gg = gc := fun e => d2 e.symm
  have t3 : ¬ gg = ga := fun e => d3 e.symm
  go_enter Tryd.func85, Tryd.ntmps85
  go_wp2_with fail
  refine hsm.mono ?_
  clear hsm
  rintro e w1 ⟨v, rfl, ⟨zs, ⟨vo, rfl, _, _⟩, _, _, _⟩, hb⟩
  have k1 := (hb.cell (p := ⟨gc, 0, none⟩) s1).trans h1
  have k2 := (hb.cell (p := ⟨ga, 0, none⟩) s2).trans h2
  have k3 := (hb.cell (p := ⟨gg, 0, none⟩) s3).trans h3
  have l1 := (hb.frozen (p := ⟨gc, 0, none⟩) s1).trans f1
  have l2 := (hb.frozen (p := ⟨ga, 0, none⟩) s2).trans f2
  have l3 := (hb.frozen (p := ⟨gg, 0, none⟩) s3).trans f3
  have r7 : (1 : Int) % 1000000000 = 1 := by decide
  go_wp2
  go_ret
  exact ⟨rfl, ((((((hb.mono (by omega)).setCell (p := ⟨ga, 0, none⟩) b2 _).setCell (p := ⟨gg, 0, none⟩) b3 _).setCell (p := ⟨gc, 0, none⟩) b1 _).setCell (p := ⟨gg, 0, none⟩) b3 _).setCell (p := ⟨gc, 0, none⟩) b1 _)⟩

set_option maxRecDepth 20000 in
set_option maxHeartbeats 2000000 in
theorem tell_d1 {w : World} {gt ka : Nat} {va : Value} (hr : Row .u8 5 w gt [0]) (ha : Arg w va 1 ka) (hka : ka ≤ 1099511627776) :
    Calls Tryd.prog 68 #[.slice (some ⟨gt, 0, none⟩) 1 1, va, .slice none 0 0] w fun e w' => e = .returned (.tuple #[]) ∧ Row .u8 5 w' gt [49] ∧ Below gt w w' := by
  have ha' := ha
  obtain ⟨zs0, ⟨ao, cap, rfl, _, _, _⟩, _⟩ := ha
  have hgt := hr.lt
  go_enter Tryd.func68, Tryd.ntmps68
  go_wp2_with fail
  refine lowest_any.mono ?_
  rintro e w1 ⟨rfl, h2, h3, h1, f2, f3, f1, hsz, hb⟩
  have hlow := low_d1 (w := w1) (B := w.heap.size) (gc := w.heap.size + 2) (ga := w.heap.size) (gg := w.heap.size + 1) h1 h2 h3 f1 f2 f3 (by omega) (by omega) (by omega) (by omega) (by omega) (by omega) (ha'.below hb) hka (by omega) (by omega) (by omega)
  clear h1 h2 h3 f1 f2 f3 ha'
  go_wp2
  refine wp_loop_rounds 2 ?_
  rw [rounds_succ]
  go_wp2_with fail
  with_reducible refine hlow.mono ?_
  clear hlow
  rintro e w2 ⟨rfl, hb2⟩
  have hr2 : Row .u8 5 w2 gt [0] := (hr.keeps hb).below hb2 hgt
  have hc0 : w2.cell? ⟨gt, 0, none⟩ = some (.int .u8 0) := hr2.cell (i := 0) (by simp)
  have hf0 := hr2.frozen 0
  have hbb : Below gt w w2 := ((hb.mono (by omega)).trans (hb2.mono (by omega)))
  go_wp2
  rw [rounds_succ]
  go_wp2
  refine bodyPost_ret (results_none rfl _ _ _) rfl ?_
  exact ⟨rfl, hr2.set 0 49, hbb.setCell (p := ⟨gt, 0, none⟩) (Nat.le_refl _) _⟩

set_option maxRecDepth 20000 in
set_option maxHeartbeats 2000000 in
theorem trimLeft_d1 {w : World} :
    Calls Tryd.prog 69 #[.string ⟨#[49]⟩, .string ⟨#[48]⟩] w fun e w' => e = .returned (.string ⟨#[49]⟩) ∧ w' = w := by
  have hb : Calls Tryd.prog 79 #[.string ⟨#[49]⟩, .int .u8 48] w fun e w' => e = .returned (.string ⟨#[49]⟩) ∧ w' = w := by
    go_enter Tryd.func79, Tryd.ntmps79
    go_wp2
    refine wp_loop_rounds 1 ?_
    rw [rounds_succ]
    go_wp2
    go_ret
    exact ⟨rfl, rfl⟩
  go_enter Tryd.func69, Tryd.ntmps69
  go_wp2_with fail
  refine hb.mono ?_
  rintro e w' ⟨rfl, rfl⟩
  go_wp2
  go_ret
  exact ⟨rfl, rfl⟩

set_option maxRecDepth 20000 in
set_option maxHeartbeats 2000000 in
theorem digits_d1 {w : World} {va : Value} {ka : Nat} (ha : Arg w va 1 ka) (hka : ka ≤ 1099511627776) :
    Calls Tryd.prog 48 #[va] w fun e w' => e = .returned (.string ⟨#[49]⟩) ∧ Below w.heap.size w w' := by
  go_enter Tryd.func48, Tryd.ntmps48
  go_wp2_with fail
  refine (len_any ha hka).mono ?_
  rintro e w' ⟨k, rfl, hk, _, rfl⟩
  have hk3 : k = 1 := isLen_unique hk ⟨by decide, fun _ => by decide⟩
  subst hk3
  clear hk
  go_wp2_with fail
  refine (room_any (n := 1) (by omega) (by omega)).mono ?_
  rintro e w1 ⟨rfl, rfl⟩
  go_wp2_with (at_make; refine wpList_make_row _ rfl _ _ 48 rfl 5 .u8 1 Tryd.underlying48 Tryd.infoU8 _ _ _ _ 1 1 rfl rfl (by omega) (by omega) (Nat.le_refl _) (by omega) (by unfold maxLen; omega) ?_)
  intro w2 hr hbel hsz
  replace hr : Row .u8 5 w2 w1.heap.size [0] := hr
  go_wp2_with fail
  refine (tens_none (n := 1) (by omega)).mono ?_
  rintro e w3 ⟨rfl, rfl⟩
  go_wp2_with fail
  refine (tell_d1 hr (ha.below hbel) hka).mono ?_
  rintro e w4 ⟨rfl, hr4, hb4⟩
  have hcv := row_string (cap := 1) hr4
  have hs9 : strOfNums [49] = ⟨#[49]⟩ := rfl
  have l1 : ([49] : List Int).length = 1 := rfl
  rw [hs9, l1] at hcv
  go_wp2_with fail
  refine trimLeft_d1.mono ?_
  rintro e w5 ⟨rfl, rfl⟩
  go_wp2
  go_ret
  exact ⟨rfl, hbel.trans hb4⟩


set_option maxRecDepth 20000 in
set_option maxHeartbeats 4000000 in
theorem isNumber_5 {w : World} :
    Calls Tryd.prog 64 #[.string ⟨#[53]⟩] w fun e w' => e = .returned (.bool true) ∧ w' = w := by
  have c0 : ((({ data := #[53] } : ByteArray)[0].toNat : Nat) : Int) = 53 := rfl
  go_enter Tryd.func64, Tryd.ntmps64
  go_wp2
  refine wp_loop_rounds 2 ?_
  rw [rounds_succ]
  go_wp2
  rw [rounds_succ]
  go_wp2
  go_ret
  exact ⟨rfl, rfl⟩

set_option maxRecDepth 20000 in
set_option maxHeartbeats 8000000 in
theorem leaf_5 {w : World} :
    Calls Tryd.prog 76 #[.string ⟨#[53]⟩] w fun e w' => ∃ v, e = .returned v ∧ Num w.heap.size w' v 5 2 ∧ Below w.heap.size w w' := by
  have c0 : ((({ data := #[53] } : ByteArray)[0].toNat : Nat) : Int) = 53 := rfl
  go_enter Tryd.func76, Tryd.ntmps76
  go_wp2
  refine wp_loop_rounds 2 ?_
  rw [rounds_succ]
  go_wp2
  refine wp_loop_rounds 2 ?_
  rw [rounds_succ]
  go_wp2
  rw [rounds_succ]
  go_wp2_with fail
  refine (mul_any (arg_nil _) (arg_one w (x := 1000000000) (by omega)) (by omega) (by omega)).mono ?_
  rintro e w1 ⟨v1, rfl, hn1, hb1⟩
  have hb01 := below_trans (below_alloc w _) hb1
  go_wp2_with fail
  refine (add_any (hn1.arg.below (below_alloc w1 _)) (arg_one w1 (x := 5) (by omega)) (by omega) (by omega)).mono ?_
  rintro e w2 ⟨v2, rfl, hn2, hb2⟩
  have hb02 := below_trans hb01 (below_trans (below_alloc w1 _) hb2)
  have hv : (0 : Int) * 1000000000 + 5 = 5 := by decide
  rw [hv] at hn2
  have hnum : Num w.heap.size w2 v2 5 2 := (hn2.low (by have := hb01.size; simp; omega)).tight (by simp [Nt.pw])
  have HN := hide hnum
  clear hn1 hb1 hb2 hb01 hn2 hnum hv
  have x2 : ({ data := #[53] } : ByteArray).extract 1 1 = { data := #[] } := rfl
  go_wp2
  rw [rounds_succ]
  go_wp2
  go_ret
  exact ⟨_, rfl, HN.out, hb02⟩

set_option maxRecDepth 20000 in
set_option maxHeartbeats 1000000 in
theorem number_5 {w : World} :
    Calls Tryd.prog 66 #[.string ⟨#[53]⟩, .slice none 0 0] w fun e w' => ∃ v, e = .returned v ∧ Num w.heap.size w' v 5 2 ∧ Below w.heap.size w w' := by
  go_enter Tryd.func66, Tryd.ntmps66
  go_wp2_with fail
  refine leaf_5.mono ?_
  rintro e w1 ⟨v, rfl, hn, hb⟩
  go_wp2
  go_ret
  exact ⟨_, rfl, hn, hb⟩

set_option maxRecDepth 20000 in
set_option maxHeartbeats 2000000 in
theorem read_5 {w : World} :
    Calls Tryd.prog 47 #[.string ⟨#[53]⟩] w fun e w' => ∃ v, e = .returned (.tuple #[v, .bool true]) ∧ Num w.heap.size w' v 5 2 ∧ Below w.heap.size w w' := by
  go_enter Tryd.func47, Tryd.ntmps47
  go_wp2_with fail
  refine isNumber_5.mono ?_
  rintro e w' ⟨rfl, rfl⟩
  go_wp2_with fail
  refine (room_any (n := 8388608) (by omega) (by omega)).mono ?_
  rintro e w' ⟨rfl, rfl⟩
  go_wp2_with fail
  refine (tens_none (n := 1) (by omega)).mono ?_
  rintro e w' ⟨rfl, rfl⟩
  go_wp2_with fail
  refine number_5.mono ?_
  rintro e w1 ⟨v, rfl, hn, hb⟩
  have hn2 := hn
  obtain ⟨zs, ⟨ao, rfl, _, _⟩, _, _, hk⟩ := hn
  have hk2 : ¬ (262144 : Int) < (zs.length : Int) := by omega
  have HN := hide hn2
  clear hn2
  go_wp2
  go_ret2
  exact ⟨_, rfl, HN.out, hb⟩

end Go.Proofs.YtmpdkeafbjibpaaDoor
