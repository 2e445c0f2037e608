/- quot.Read, at its fixed text -/
import Derived.Test.YtkffaakjbbfiaaaDoorDigC
import Derived.Test.YtkffaakjbbfiaaaDoorAdd
namespace Go.Proofs.YtkffaakjbbfiaaaDoor
open Go.RowKit

set_option maxRecDepth 20000 in
set_option maxHeartbeats 4000000 in
theorem isNumber_c {w : World} :
    Calls Tryd.prog 44 #[.string ⟨#[52, 50, 57, 52, 57, 54, 55, 50, 57, 54]⟩] w fun e w' => e = .returned (.bool true) ∧ w' = w := by
  have c0 : ((({ data := #[52, 50, 57, 52, 57, 54, 55, 50, 57, 54] } : ByteArray)[0].toNat : Nat) : Int) = 52 := rfl
  have c1 : ((({ data := #[52, 50, 57, 52, 57, 54, 55, 50, 57, 54] } : ByteArray)[1].toNat : Nat) : Int) = 50 := rfl
  have c2 : ((({ data := #[52, 50, 57, 52, 57, 54, 55, 50, 57, 54] } : ByteArray)[2].toNat : Nat) : Int) = 57 := rfl
  have c3 : ((({ data := #[52, 50, 57, 52, 57, 54, 55, 50, 57, 54] } : ByteArray)[3].toNat : Nat) : Int) = 52 := rfl
  have c4 : ((({ data := #[52, 50, 57, 52, 57, 54, 55, 50, 57, 54] } : ByteArray)[4].toNat : Nat) : Int) = 57 := rfl
  have c5 : ((({ data := #[52, 50, 57, 52, 57, 54, 55, 50, 57, 54] } : ByteArray)[5].toNat : Nat) : Int) = 54 := rfl
  have c6 : ((({ data := #[52, 50, 57, 52, 57, 54, 55, 50, 57, 54] } : ByteArray)[6].toNat : Nat) : Int) = 55 := rfl
  have c7 : ((({ data := #[52, 50, 57, 52, 57, 54, 55, 50, 57, 54] } : ByteArray)[7].toNat : Nat) : Int) = 50 := rfl
  have c8 : ((({ data := #[52, 50, 57, 52, 57, 54, 55, 50, 57, 54] } : ByteArray)[8].toNat : Nat) : Int) = 57 := rfl
  have c9 : ((({ data := #[52, 50, 57, 52, 57, 54, 55, 50, 57, 54] } : ByteArray)[9].toNat : Nat) : Int) = 54 := rfl
  go_enter Tryd.func44, Tryd.ntmps44
  go_wp2
  refine wp_loop_rounds 11 ?_
  rw [rounds_succ]
  go_wp2
  rw [rounds_succ]
  go_wp2
  rw [rounds_succ]
  go_wp2
  rw [rounds_succ]
  go_wp2
  rw [rounds_succ]
  go_wp2
  rw [rounds_succ]
  go_wp2
  rw [rounds_succ]
  go_wp2
  rw [rounds_succ]
  go_wp2
  rw [rounds_succ]
  go_wp2
  rw [rounds_succ]
  go_wp2
  rw [rounds_succ]
  go_wp2
  go_ret
  exact ⟨rfl, rfl⟩

set_option maxRecDepth 20000 in
set_option maxHeartbeats 8000000 in
theorem leaf_c {w : World} :
    Calls Tryd.prog 58 #[.string ⟨#[52, 50, 57, 52, 57, 54, 55, 50, 57, 54]⟩] w fun e w' => ∃ v, e = .returned v ∧ Num w.heap.size w' v 4294967296 2 ∧ Below w.heap.size w w' := by
  have c0 : ((({ data := #[52, 50, 57, 52, 57, 54, 55, 50, 57, 54] } : ByteArray)[0].toNat : Nat) : Int) = 52 := rfl
  have c1 : ((({ data := #[52, 50, 57, 52, 57, 54, 55, 50, 57, 54] } : ByteArray)[1].toNat : Nat) : Int) = 50 := rfl
  have c2 : ((({ data := #[52, 50, 57, 52, 57, 54, 55, 50, 57, 54] } : ByteArray)[2].toNat : Nat) : Int) = 57 := rfl
  have c3 : ((({ data := #[52, 50, 57, 52, 57, 54, 55, 50, 57, 54] } : ByteArray)[3].toNat : Nat) : Int) = 52 := rfl
  have c4 : ((({ data := #[52, 50, 57, 52, 57, 54, 55, 50, 57, 54] } : ByteArray)[4].toNat : Nat) : Int) = 57 := rfl
  have c5 : ((({ data := #[52, 50, 57, 52, 57, 54, 55, 50, 57, 54] } : ByteArray)[5].toNat : Nat) : Int) = 54 := rfl
  have c6 : ((({ data := #[52, 50, 57, 52, 57, 54, 55, 50, 57, 54] } : ByteArray)[6].toNat : Nat) : Int) = 55 := rfl
  have c7 : ((({ data := #[52, 50, 57, 52, 57, 54, 55, 50, 57, 54] } : ByteArray)[7].toNat : Nat) : Int) = 50 := rfl
  have c8 : ((({ data := #[52, 50, 57, 52, 57, 54, 55, 50, 57, 54] } : ByteArray)[8].toNat : Nat) : Int) = 57 := rfl
  have c9 : ((({ data := #[52, 50, 57, 52, 57, 54, 55, 50, 57, 54] } : ByteArray)[9].toNat : Nat) : Int) = 54 := rfl
  have d0 : ((({ data := #[50, 57, 52, 57, 54, 55, 50, 57, 54] } : ByteArray)[0].toNat : Nat) : Int) = 50 := rfl
  have d1 : ((({ data := #[50, 57, 52, 57, 54, 55, 50, 57, 54] } : ByteArray)[1].toNat : Nat) : Int) = 57 := rfl
  have d2 : ((({ data := #[50, 57, 52, 57, 54, 55, 50, 57, 54] } : ByteArray)[2].toNat : Nat) : Int) = 52 := rfl
  have d3 : ((({ data := #[50, 57, 52, 57, 54, 55, 50, 57, 54] } : ByteArray)[3].toNat : Nat) : Int) = 57 := rfl
  have d4 : ((({ data := #[50, 57, 52, 57, 54, 55, 50, 57, 54] } : ByteArray)[4].toNat : Nat) : Int) = 54 := rfl
  have d5 : ((({ data := #[50, 57, 52, 57, 54, 55, 50, 57, 54] } : ByteArray)[5].toNat : Nat) : Int) = 55 := rfl
  have d6 : ((({ data := #[50, 57, 52, 57, 54, 55, 50, 57, 54] } : ByteArray)[6].toNat : Nat) : Int) = 50 := rfl
  have d7 : ((({ data := #[50, 57, 52, 57, 54, 55, 50, 57, 54] } : ByteArray)[7].toNat : Nat) : Int) = 57 := rfl
  have d8 : ((({ data := #[50, 57, 52, 57, 54, 55, 50, 57, 54] } : ByteArray)[8].toNat : Nat) : Int) = 54 := rfl
  have x1 : ({ data := #[52, 50, 57, 52, 57, 54, 55, 50, 57, 54] } : ByteArray).extract 1 10 = { data := #[50, 57, 52, 57, 54, 55, 50, 57, 54] } := rfl
  go_enter Tryd.func58, Tryd.ntmps58
  go_wp2
  refine wp_loop_rounds 3 ?_
  rw [rounds_succ]
  go_wp2
  refine wp_loop_rounds 2 ?_
  rw [rounds_succ]
  go_wp2
  rw [rounds_succ]
  go_wp2_with fail
  refine (mul_any (arg_nil _) (arg_one w (x := 1000000000) (by omega)) (by omega) (by omega)).mono ?_
  rintro e w1 ⟨v1, rfl, hn1, hb1⟩
  have hb01 := below_trans (below_alloc w _) hb1
  go_wp2_with fail
  refine (add_any (hn1.arg.below (below_alloc w1 _)) (arg_one w1 (x := 4) (by omega)) (by omega) (by omega)).mono ?_
  rintro e w2 ⟨v2, rfl, hn2, hb2⟩
  have hb02 := below_trans hb01 (below_trans (below_alloc w1 _) hb2)
  clear hn1 hb1 hb2 hb01
  go_wp2
  rw [rounds_succ]
  go_wp2
  refine wp_loop_rounds 10 ?_
  rw [rounds_succ]
  go_wp2
  rw [rounds_succ]
  go_wp2
  rw [rounds_succ]
  go_wp2
  rw [rounds_succ]
  go_wp2
  rw [rounds_succ]
  go_wp2
  rw [rounds_succ]
  go_wp2
  rw [rounds_succ]
  go_wp2
  rw [rounds_succ]
  go_wp2
  rw [rounds_succ]
  go_wp2
  rw [rounds_succ]
  go_wp2_with fail
  refine (mul_any (hn2.arg.below (below_alloc w2 _)) (arg_one w2 (x := 1000000000) (by omega)) (by omega) (by omega)).mono ?_
  rintro e w3 ⟨v3, rfl, hn3, hb3⟩
  have hb03 := below_trans hb02 (below_trans (below_alloc w2 _) hb3)
  go_wp2_with fail
  refine (add_any (hn3.arg.below (below_alloc w3 _)) (arg_one w3 (x := 294967296) (by omega)) (by omega) (by omega)).mono ?_
  rintro e w4 ⟨v4, rfl, hn4, hb4⟩
  have hb04 := below_trans hb03 (below_trans (below_alloc w3 _) hb4)
  have hv : ((0 : Int) * 1000000000 + 4) * 1000000000 + 294967296 = 4294967296 := by decide
  rw [hv] at hn4
  have hnum : Num w.heap.size w4 v4 4294967296 2 := (hn4.low (by have := hb03.size; simp; omega)).tight (by simp [Nt.pw])
  have HN := hide hnum
  clear hn2 hn3 hn4 hnum hb3 hb4 hb02 hb03
  have x2 : ({ data := #[50, 57, 52, 57, 54, 55, 50, 57, 54] } : ByteArray).extract 9 9 = { data := #[] } := rfl
  go_wp2
  rw [rounds_succ]
  go_wp2
  go_ret
  exact ⟨_, rfl, HN.out, hb04⟩

set_option maxRecDepth 20000 in
set_option maxHeartbeats 1000000 in
theorem number_c {w : World} :
    Calls Tryd.prog 46 #[.string ⟨#[52, 50, 57, 52, 57, 54, 55, 50, 57, 54]⟩, .slice none 0 0] w fun e w' => ∃ v, e = .returned v ∧ Num w.heap.size w' v 4294967296 2 ∧ Below w.heap.size w w' := by
  go_enter Tryd.func46, Tryd.ntmps46
  go_wp2_with fail
  refine leaf_c.mono ?_
  rintro e w1 ⟨v, rfl, hn, hb⟩
  go_wp2
  go_ret
  exact ⟨_, rfl, hn, hb⟩

set_option maxRecDepth 20000 in
set_option maxHeartbeats 2000000 in
theorem read_c {w : World} :
    Calls Tryd.prog 30 #[.string ⟨#[52, 50, 57, 52, 57, 54, 55, 50, 57, 54]⟩] w fun e w' => ∃ v, e = .returned (.tuple #[v, .bool true]) ∧ Num w.heap.size w' v 4294967296 2 ∧ Below w.heap.size w w' := by
  go_enter Tryd.func30, Tryd.ntmps30
  go_wp2_with fail
  refine isNumber_c.mono ?_
  rintro e w' ⟨rfl, rfl⟩
  go_wp2_with fail
  refine (room_any (n := 8388608) (by omega) (by omega)).mono ?_
  rintro e w' ⟨rfl, rfl⟩
  go_wp2_with fail
  refine (tens_none (n := 10) (by omega)).mono ?_
  rintro e w' ⟨rfl, rfl⟩
  go_wp2_with fail
  refine number_c.mono ?_
  rintro e w1 ⟨v, rfl, hn, hb⟩
  have hn2 := hn
  obtain ⟨zs, ⟨ao, rfl, _, _⟩, _, _, hk⟩ := hn
  have hk2 : ¬ (262144 : Int) < (zs.length : Int) := by omega
  have HN := hide hn2
  clear hn2
  go_wp2
  go_ret2
  exact ⟨_, rfl, HN.out, hb⟩

end Go.Proofs.YtkffaakjbbfiaaaDoor
