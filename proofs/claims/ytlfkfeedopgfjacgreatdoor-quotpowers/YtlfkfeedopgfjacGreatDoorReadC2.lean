/- DigC, ReadC -/
import Derived.Test.YtlfkfeedopgfjacGreatDoorConsts
import Derived.Test.YtlfkfeedopgfjacGreatDoorAdd
namespace Go.Proofs.YtlfkfeedopgfjacGreatDoor
open Go.RowKit

set_option maxHeartbeats 1000000 in
theorem room_any {w : World} {n : Int} (h0 : 0 ≤ n) (h1 : n ≤ 100000000000000) :
    Calls Tryz.prog 74 #[.int .i64 n] w fun e w' => e = .returned (.int .i64 (n * 30103 / 100000 + 1)) ∧ w' = w := by
  go_enter Tryz.func74, Tryz.ntmps74
  go_wp2
  go_ret
  exact ⟨rfl, rfl⟩

set_option maxHeartbeats 1000000 in
theorem tens_none {w : World} {n : Int} (h1 : n ≤ 576) :
    Calls Tryz.prog 77 #[.int .i64 n] w fun e w' => e = .returned (.slice none 0 0) ∧ w' = w := by
  go_enter Tryz.func77, Tryz.ntmps77
  go_wp2
  go_ret
  exact ⟨rfl, rfl⟩

set_option maxHeartbeats 1000000 in
theorem lowest_any {w : World} {ao : Option Addr} {l c : Nat} :
    Calls Tryz.prog 125 #[.slice ao l c] w fun e w' => e = .returned (.func (.func 143) #[] #[.pointer (some ⟨w.heap.size + 2, 0, none⟩), .pointer (some ⟨w.heap.size, 0, none⟩), .pointer (some ⟨w.heap.size + 1, 0, none⟩)]) ∧
      w'.cell? ⟨w.heap.size, 0, none⟩ = some (.slice ao l c) ∧ w'.cell? ⟨w.heap.size + 1, 0, none⟩ = some (.int .u32 0) ∧ w'.cell? ⟨w.heap.size + 2, 0, none⟩ = some (.int .i64 0) ∧
      w'.frozen? ⟨w.heap.size, 0, none⟩ = false ∧ w'.frozen? ⟨w.heap.size + 1, 0, none⟩ = false ∧ w'.frozen? ⟨w.heap.size + 2, 0, none⟩ = false ∧ w'.heap.size = w.heap.size + 3 ∧ Below w.heap.size w w' := by
  go_enter Tryz.func125, Tryz.ntmps125
  go_wp2
  go_ret
  have n1 : ∀ o : Obj, (w.alloc o).heap.size = w.heap.size + 1 := fun o => by simp
  have n2 : ∀ o o' : Obj, ((w.alloc o).alloc o').heap.size = w.heap.size + 2 := fun o o' => by simp
  refine ⟨rfl, ?_, ?_, ?_, ?_, ?_, ?_, by simp, ((below_alloc w _).alloc (by simp) _).alloc (by simp; omega) _⟩
  · rw [World.cell?_alloc_past _ _ _ (by rw [n2]; omega), World.cell?_alloc_past _ _ _ (by rw [n1]; omega), World.cell?_alloc_at _ _ _ _ rfl]; rfl
  · rw [World.cell?_alloc_past _ _ _ (by rw [n2]; omega), World.cell?_alloc_at _ _ _ _ (by rw [n1])]; rfl
  · rw [World.cell?_alloc_at _ _ _ _ (by rw [n2])]; rfl
  · rw [World.frozen?_alloc_past _ _ _ (by rw [n2]; omega), World.frozen?_alloc_past _ _ _ (by rw [n1]; omega), World.frozen?_alloc_at _ _ _ _ rfl]
  · rw [World.frozen?_alloc_past _ _ _ (by rw [n2]; omega), World.frozen?_alloc_at _ _ _ _ (by rw [n1])]
  · rw [World.frozen?_alloc_at _ _ _ _ (by rw [n2])]

set_option maxRecDepth 20000 in
set_option maxHeartbeats 2000000 in
theorem low_c {w : World} {B gc ga gg ka : Nat} {va : Value} (h1 : w.cell? ⟨gc, 0, none⟩ = some (.int .i64 0)) (h2 : w.cell? ⟨ga, 0, none⟩ = some va) (h3 : w.cell? ⟨gg, 0, none⟩ = some (.int .u32 0))
    (f1 : w.frozen? ⟨gc, 0, none⟩ = false) (f2 : w.frozen? ⟨ga, 0, none⟩ = false) (f3 : w.frozen? ⟨gg, 0, none⟩ = false) (s1 : gc < w.heap.size) (s2 : ga < w.heap.size) (s3 : gg < w.heap.size)
    (d1 : gc ≠ ga) (d2 : gc ≠ gg) (d3 : ga ≠ gg) (ha : Arg w va 7 ka) (hka : ka ≤ 1099511627776) (b1 : B ≤ gc) (b2 : B ≤ ga) (b3 : B ≤ gg) :
    Calls Tryz.prog 143 #[.pointer (some ⟨gc, 0, none⟩), .pointer (some ⟨ga, 0, none⟩), .pointer (some ⟨gg, 0, none⟩)] w fun e w' => e = .returned (.int .u8 55) ∧ Below B w w' := by
  have hsm := small_yes (d := 1000000000) ha hka (by omega) (by omega)
  obtain ⟨zs0, ⟨ao, cap, rfl, _, _, _⟩, _⟩ := ha
  have t1 : ¬ ga = gc := fun e => d1 e.symm
  have t2 : ¬ gg = gc := fun e => d2 e.symm
  have t3 : ¬ gg = ga := fun e => d3 e.symm
  go_enter Tryz.func143, Tryz.ntmps143
  go_wp2_with fail
  refine hsm.mono ?_
  clear hsm
  rintro e w1 ⟨v, rfl, ⟨zs, ⟨vo, rfl, _, _⟩, _, _, _⟩, hb⟩
  have k1 := (hb.cell (p := ⟨gc, 0, none⟩) s1).trans h1
  have k2 := (hb.cell (p := ⟨ga, 0, none⟩) s2).trans h2
  have k3 := (hb.cell (p := ⟨gg, 0, none⟩) s3).trans h3
  have l1 := (hb.frozen (p := ⟨gc, 0, none⟩) s1).trans f1
  have l2 := (hb.frozen (p := ⟨ga, 0, none⟩) s2).trans f2
  have l3 := (hb.frozen (p := ⟨gg, 0, none⟩) s3).trans f3
  have r7 : (7 : Int) % 1000000000 = 7 := by decide
  go_wp2
  go_ret
  exact ⟨rfl, ((((((hb.mono (by omega)).setCell (p := ⟨ga, 0, none⟩) b2 _).setCell (p := ⟨gg, 0, none⟩) b3 _).setCell (p := ⟨gc, 0, none⟩) b1 _).setCell (p := ⟨gg, 0, none⟩) b3 _).setCell (p := ⟨gc, 0, none⟩) b1 _)⟩

set_option maxRecDepth 20000 in
set_option maxHeartbeats 2000000 in
theorem tell_c {w : World} {gt ka : Nat} {va : Value} (hr : Row .u8 5 w gt [0]) (ha : Arg w va 7 ka) (hka : ka ≤ 1099511627776) :
    Calls Tryz.prog 76 #[.slice (some ⟨gt, 0, none⟩) 1 1, va, .slice none 0 0] w fun e w' => e = .returned (.tuple #[]) ∧ Row .u8 5 w' gt [55] ∧ Below gt w w' := by
  have ha' := ha
  obtain ⟨zs0, ⟨ao, cap, rfl, _, _, _⟩, _⟩ := ha
  have hgt := hr.lt
  go_enter Tryz.func76, Tryz.ntmps76
  go_wp2_with fail
  refine lowest_any.mono ?_
  rintro e w1 ⟨rfl, h2, h3, h1, f2, f3, f1, hsz, hb⟩
  have hlow := low_c (w := w1) (B := w.heap.size) (gc := w.heap.size + 2) (ga := w.heap.size) (gg := w.heap.size + 1) h1 h2 h3 f1 f2 f3 (by omega) (by omega) (by omega) (by omega) (by omega) (by omega) (ha'.below hb) hka (by omega) (by omega) (by omega)
  clear h1 h2 h3 f1 f2 f3 ha'
  go_wp2
  refine wp_loop_rounds 2 ?_
  rw [rounds_succ]
  go_wp2_with fail
  with_reducible refine hlow.mono ?_
  clear hlow
  rintro e w2 ⟨rfl, hb2⟩
  have hr2 : Row .u8 5 w2 gt [0] := (hr.keeps hb).below hb2 hgt
  have hc0 : w2.cell? ⟨gt, 0, none⟩ = some (.int .u8 0) := hr2.cell (i := 0) (by simp)
  have hf0 := hr2.frozen 0
  have hbb : Below gt w w2 := ((hb.mono (by omega)).trans (hb2.mono (by omega)))
  go_wp2
  rw [rounds_succ]
  go_wp2
  refine bodyPost_ret (results_none rfl _ _ _) rfl ?_
  exact ⟨rfl, hr2.set 0 55, hbb.setCell (p := ⟨gt, 0, none⟩) (Nat.le_refl _) _⟩

set_option maxRecDepth 20000 in
set_option maxHeartbeats 2000000 in
theorem trimLeft_7 {w : World} :
    Calls Tryz.prog 78 #[.string ⟨#[55]⟩, .string ⟨#[48]⟩] w fun e w' => e = .returned (.string ⟨#[55]⟩) ∧ w' = w := by
  have hb : Calls Tryz.prog 126 #[.string ⟨#[55]⟩, .int .u8 48] w fun e w' => e = .returned (.string ⟨#[55]⟩) ∧ w' = w := by
    go_enter Tryz.func126, Tryz.ntmps126
    go_wp2
    refine wp_loop_rounds 1 ?_
    rw [rounds_succ]
    go_wp2
    go_ret
    exact ⟨rfl, rfl⟩
  go_enter Tryz.func78, Tryz.ntmps78
  go_wp2_with fail
  refine hb.mono ?_
  rintro e w' ⟨rfl, rfl⟩
  go_wp2
  go_ret
  exact ⟨rfl, rfl⟩

set_option maxRecDepth 20000 in
set_option maxHeartbeats 2000000 in
theorem digits_c {w : World} {va : Value} {ka : Nat} (ha : Arg w va 7 ka) (hka : ka ≤ 1099511627776) :
    Calls Tryz.prog 13 #[va] w fun e w' => e = .returned (.string ⟨#[55]⟩) ∧ Below w.heap.size w w' := by
  go_enter Tryz.func13, Tryz.ntmps13
  go_wp2_with fail
  refine (len_any ha hka).mono ?_
  rintro e w' ⟨k, rfl, hk, _, rfl⟩
  have hk3 : k = 3 := isLen_unique hk ⟨by decide, fun _ => by decide⟩
  subst hk3
  clear hk
  go_wp2_with fail
  refine (room_any (n := 3) (by omega) (by omega)).mono ?_
  rintro e w1 ⟨rfl, rfl⟩
  go_wp2_with (at_make; refine wpList_make_row _ rfl _ _ 66 rfl 5 .u8 1 Tryz.underlying66 Tryz.infoU8 _ _ _ _ 1 1 rfl rfl (by omega) (by omega) (Nat.le_refl _) (by omega) (by unfold maxLen; omega) ?_)
  intro w2 hr hbel hsz
  replace hr : Row .u8 5 w2 w1.heap.size [0] := hr
  go_wp2_with fail
  refine (tens_none (n := 1) (by omega)).mono ?_
  rintro e w3 ⟨rfl, rfl⟩
  go_wp2_with fail
  refine (tell_c hr (ha.below hbel) hka).mono ?_
  rintro e w4 ⟨rfl, hr4, hb4⟩
  have hcv := row_string (cap := 1) hr4
  have hs9 : strOfNums [55] = ⟨#[55]⟩ := rfl
  have l1 : ([55] : List Int).length = 1 := rfl
  rw [hs9, l1] at hcv
  go_wp2_with fail
  refine trimLeft_7.mono ?_
  rintro e w5 ⟨rfl, rfl⟩
  go_wp2
  go_ret
  exact ⟨rfl, hbel.trans hb4⟩

end Go.Proofs.YtlfkfeedopgfjacGreatDoor

namespace Go.Proofs.YtlfkfeedopgfjacGreatDoor
open Go.RowKit

set_option maxRecDepth 20000 in
set_option maxHeartbeats 4000000 in
theorem isNumber_c {w : World} :
    Calls Tryz.prog 84 #[.string ⟨#[52, 50, 57, 52, 57, 54, 55, 50, 57, 54]⟩] w fun e w' => e = .returned (.bool true) ∧ w' = w := by
  have c0 : ((({ data := #[52, 50, 57, 52, 57, 54, 55, 50, 57, 54] } : ByteArray)[0].toNat : Nat) : Int) = 52 := rfl
  have c1 : ((({ data := #[52, 50, 57, 52, 57, 54, 55, 50, 57, 54] } : ByteArray)[1].toNat : Nat) : Int) = 50 := rfl
  have c2 : ((({ data := #[52, 50, 57, 52, 57, 54, 55, 50, 57, 54] } : ByteArray)[2].toNat : Nat) : Int) = 57 := rfl
  have c3 : ((({ data := #[52, 50, 57, 52, 57, 54, 55, 50, 57, 54] } : ByteArray)[3].toNat : Nat) : Int) = 52 := rfl
  have c4 : ((({ data := #[52, 50, 57, 52, 57, 54, 55, 50, 57, 54] } : ByteArray)[4].toNat : Nat) : Int) = 57 := rfl
  have c5 : ((({ data := #[52, 50, 57, 52, 57, 54, 55, 50, 57, 54] } : ByteArray)[5].toNat : Nat) : Int) = 54 := rfl
  have c6 : ((({ data := #[52, 50, 57, 52, 57, 54, 55, 50, 57, 54] } : ByteArray)[6].toNat : Nat) : Int) = 55 := rfl
  have c7 : ((({ data := #[52, 50, 57, 52, 57, 54, 55, 50, 57, 54] } : ByteArray)[7].toNat : Nat) : Int) = 50 := rfl
  have c8 : ((({ data := #[52, 50, 57, 52, 57, 54, 55, 50, 57, 54] } : ByteArray)[8].toNat : Nat) : Int) = 57 := rfl
  have c9 : ((({ data := #[52, 50, 57, 52, 57, 54, 55, 50, 57, 54] } : ByteArray)[9].toNat : Nat) : Int) = 54 := rfl
  go_enter Tryz.func84, Tryz.ntmps84
  go_wp2
  refine wp_loop_rounds 11 ?_
  rw [rounds_succ]
  go_wp2
  rw [rounds_succ]
  go_wp2
  rw [rounds_succ]
  go_wp2
  rw [rounds_succ]
  go_wp2
  rw [rounds_succ]
  go_wp2
  rw [rounds_succ]
  go_wp2
  rw [rounds_succ]
  go_wp2
  rw [rounds_succ]
  go_wp2
  rw [rounds_succ]
  go_wp2
  rw [rounds_succ]
  go_wp2
  rw [rounds_succ]
  go_wp2
  go_ret
  exact ⟨rfl, rfl⟩

set_option maxRecDepth 20000 in
set_option maxHeartbeats 8000000 in
theorem leaf_c {w : World} :
    Calls Tryz.prog 132 #[.string ⟨#[52, 50, 57, 52, 57, 54, 55, 50, 57, 54]⟩] w fun e w' => ∃ v, e = .returned v ∧ Num w.heap.size w' v 4294967296 2 ∧ Below w.heap.size w w' := by
  have c0 : ((({ data := #[52, 50, 57, 52, 57, 54, 55, 50, 57, 54] } : ByteArray)[0].toNat : Nat) : Int) = 52 := rfl
  have c1 : ((({ data := #[52, 50, 57, 52, 57, 54, 55, 50, 57, 54] } : ByteArray)[1].toNat : Nat) : Int) = 50 := rfl
  have c2 : ((({ data := #[52, 50, 57, 52, 57, 54, 55, 50, 57, 54] } : ByteArray)[2].toNat : Nat) : Int) = 57 := rfl
  have c3 : ((({ data := #[52, 50, 57, 52, 57, 54, 55, 50, 57, 54] } : ByteArray)[3].toNat : Nat) : Int) = 52 := rfl
  have c4 : ((({ data := #[52, 50, 57, 52, 57, 54, 55, 50, 57, 54] } : ByteArray)[4].toNat : Nat) : Int) = 57 := rfl
  have c5 : ((({ data := #[52, 50, 57, 52, 57, 54, 55, 50, 57, 54] } : ByteArray)[5].toNat : Nat) : Int) = 54 := rfl
  have c6 : ((({ data := #[52, 50, 57, 52, 57, 54, 55, 50, 57, 54] } : ByteArray)[6].toNat : Nat) : Int) = 55 := rfl
  have c7 : ((({ data := #[52, 50, 57, 52, 57, 54, 55, 50, 57, 54] } : ByteArray)[7].toNat : Nat) : Int) = 50 := rfl
  have c8 : ((({ data := #[52, 50, 57, 52, 57, 54, 55, 50, 57, 54] } : ByteArray)[8].toNat : Nat) : Int) = 57 := rfl
  have c9 : ((({ data := #[52, 50, 57, 52, 57, 54, 55, 50, 57, 54] } : ByteArray)[9].toNat : Nat) : Int) = 54 := rfl
  have d0 : ((({ data := #[50, 57, 52, 57, 54, 55, 50, 57, 54] } : ByteArray)[0].toNat : Nat) : Int) = 50 := rfl
  have d1 : ((({ data := #[50, 57, 52, 57, 54, 55, 50, 57, 54] } : ByteArray)[1].toNat : Nat) : Int) = 57 := rfl
  have d2 : ((({ data := #[50, 57, 52, 57, 54, 55, 50, 57, 54] } : ByteArray)[2].toNat : Nat) : Int) = 52 := rfl
  have d3 : ((({ data := #[50, 57, 52, 57, 54, 55, 50, 57, 54] } : ByteArray)[3].toNat : Nat) : Int) = 57 := rfl
  have d4 : ((({ data := #[50, 57, 52, 57, 54, 55, 50, 57, 54] } : ByteArray)[4].toNat : Nat) : Int) = 54 := rfl
  have d5 : ((({ data := #[50, 57, 52, 57, 54, 55, 50, 57, 54] } : ByteArray)[5].toNat : Nat) : Int) = 55 := rfl
  have d6 : ((({ data := #[50, 57, 52, 57, 54, 55, 50, 57, 54] } : ByteArray)[6].toNat : Nat) : Int) = 50 := rfl
  have d7 : ((({ data := #[50, 57, 52, 57, 54, 55, 50, 57, 54] } : ByteArray)[7].toNat : Nat) : Int) = 57 := rfl
  have d8 : ((({ data := #[50, 57, 52, 57, 54, 55, 50, 57, 54] } : ByteArray)[8].toNat : Nat) : Int) = 54 := rfl
  have x1 : ({ data := #[52, 50, 57, 52, 57, 54, 55, 50, 57, 54] } : ByteArray).extract 1 10 = { data := #[50, 57, 52, 57, 54, 55, 50, 57, 54] } := rfl
  go_enter Tryz.func132, Tryz.ntmps132
  go_wp2
  refine wp_loop_rounds 3 ?_
  rw [rounds_succ]
  go_wp2
  refine wp_loop_rounds 2 ?_
  rw [rounds_succ]
  go_wp2
  rw [rounds_succ]
  go_wp2_with fail
  refine (mul_any (arg_nil _) (arg_one w (x := 1000000000) (by omega)) (by omega) (by omega)).mono ?_
  rintro e w1 ⟨v1, rfl, hn1, hb1⟩
  have hb01 := below_trans (below_alloc w _) hb1
  go_wp2_with fail
  refine (add_any (hn1.arg.below (below_alloc w1 _)) (arg_one w1 (x := 4) (by omega)) (by omega) (by omega)).mono ?_
  rintro e w2 ⟨v2, rfl, hn2, hb2⟩
  have hb02 := below_trans hb01 (below_trans (below_alloc w1 _) hb2)
  clear hn1 hb1 hb2 hb01
  go_wp2
  rw [rounds_succ]
  go_wp2
  refine wp_loop_rounds 10 ?_
  rw [rounds_succ]
  go_wp2
  rw [rounds_succ]
  go_wp2
  rw [rounds_succ]
  go_wp2
  rw [rounds_succ]
  go_wp2
  rw [rounds_succ]
  go_wp2
  rw [rounds_succ]
  go_wp2
  rw [rounds_succ]
  go_wp2
  rw [rounds_succ]
  go_wp2
  rw [rounds_succ]
  go_wp2
  rw [rounds_succ]
  go_wp2_with fail
  refine (mul_any (hn2.arg.below (below_alloc w2 _)) (arg_one w2 (x := 1000000000) (by omega)) (by omega) (by omega)).mono ?_
  rintro e w3 ⟨v3, rfl, hn3, hb3⟩
  have hb03 := below_trans hb02 (below_trans (below_alloc w2 _) hb3)
  go_wp2_with fail
  refine (add_any (hn3.arg.below (below_alloc w3 _)) (arg_one w3 (x := 294967296) (by omega)) (by omega) (by omega)).mono ?_
  rintro e w4 ⟨v4, rfl, hn4, hb4⟩
  have hb04 := below_trans hb03 (below_trans (below_alloc w3 _) hb4)
  have hv : ((0 : Int) * 1000000000 + 4) * 1000000000 + 294967296 = 4294967296 := by decide
  rw [hv] at hn4
  have hnum : Num w.heap.size w4 v4 4294967296 2 := (hn4.low (by have := hb03.size; simp; omega)).tight (by simp [Nt.pw])
  have HN := hide hnum
  clear hn2 hn3 hn4 hnum hb3 hb4 hb02 hb03
  have x2 : ({ data := #[50, 57, 52, 57, 54, 55, 50, 57, 54] } : ByteArray).extract 9 9 = { data := #[] } := rfl
  go_wp2
  rw [rounds_succ]
  go_wp2
  go_ret
  exact ⟨_, rfl, HN.out, hb04⟩

set_option maxRecDepth 20000 in
set_option maxHeartbeats 1000000 in
theorem number_c {w : World} :
    Calls Tryz.prog 85 #[.string ⟨#[52, 50, 57, 52, 57, 54, 55, 50, 57, 54]⟩, .slice none 0 0] w fun e w' => ∃ v, e = .returned v ∧ Num w.heap.size w' v 4294967296 2 ∧ Below w.heap.size w w' := by
  go_enter Tryz.func85, Tryz.ntmps85
  go_wp2_with fail
  refine leaf_c.mono ?_
  rintro e w1 ⟨v, rfl, hn, hb⟩
  go_wp2
  go_ret
  exact ⟨_, rfl, hn, hb⟩

set_option maxRecDepth 20000 in
set_option maxHeartbeats 2000000 in
theorem read_c {w : World} :
    Calls Tryz.prog 18 #[.string ⟨#[52, 50, 57, 52, 57, 54, 55, 50, 57, 54]⟩] w fun e w' => ∃ v, e = .returned (.tuple #[v, .bool true]) ∧ Num w.heap.size w' v 4294967296 2 ∧ Below w.heap.size w w' := by
  go_enter Tryz.func18, Tryz.ntmps18
  go_wp2_with fail
  refine isNumber_c.mono ?_
  rintro e w' ⟨rfl, rfl⟩
  go_wp2_with fail
  refine (room_any (n := 8388608) (by omega) (by omega)).mono ?_
  rintro e w' ⟨rfl, rfl⟩
  go_wp2_with fail
  refine (tens_none (n := 10) (by omega)).mono ?_
  rintro e w' ⟨rfl, rfl⟩
  go_wp2_with fail
  refine number_c.mono ?_
  rintro e w1 ⟨v, rfl, hn, hb⟩
  have hn2 := hn
  obtain ⟨zs, ⟨ao, rfl, _, _⟩, _, _, hk⟩ := hn
  have hk2 : ¬ (262144 : Int) < (zs.length : Int) := by omega
  have HN := hide hn2
  clear hn2
  go_wp2
  go_ret2
  exact ⟨_, rfl, HN.out, hb⟩

end Go.Proofs.YtlfkfeedopgfjacGreatDoor
