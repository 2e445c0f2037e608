/- quot.Read of at most 1152 digits -/
import Derived.Test.YtigehipclkoecaaDoorDStr
import Derived.Test.YtigehipclkoecaaDoorMul
import Derived.Test.YtigehipclkoecaaDoorAdd
import Derived.Test.YtigehipclkoecaaDoorDiv
import Derived.Test.YtigehipclkoecaaDoorPow
import Derived.Deep.LoopGhost
import Derived.Deep.RegionHeld3
import Derived.Deep.Cut
namespace Go.Proofs.YtigehipclkoecaaDoor
open Go.RowKit
set_option linter.unusedVariables false

theorem tn_1152 : tn 1152 < Nt.pw 120 := by
  rw [← p2_32, p2_pow]
  unfold tn
  decide +kernel
theorem dg_limbs {es : List Int} (h : Dg es) (hl : es.length ≤ 1152) : dg es < Nt.pw 120 := by
  have a := dg_range h
  have b := tn_mono hl
  have c := tn_1152
  omega
theorem arg_none (w : World) (k : Nat) : Arg w (.slice none 0 0) 0 k := ⟨[], ⟨none, 0, rfl, Nat.le_refl _, by unfold maxLen; omega, fun h => absurd h (by simp)⟩, Nt.canon_nil.1, rfl, Nat.zero_le _⟩
theorem al_one (w : World) (o : Obj) : Below w.heap.size w (w.alloc o) := (Below.refl _ _).alloc (Nat.le_refl _) _
theorem ok_lit {x : Int} (h : 0 ≤ x ∧ x < 4294967296) : Nt.Ok [x] := by
  intro i
  match i with
  | 0 => exact h
  | i + 1 => simp [Nt.lb]
theorem val_lit (x : Int) : Nt.val [x] = x := by
  show Nt.vt _ 1 = x
  simp only [Nt.vt, Nt.pw, Nt.lb, List.getD_cons_zero]
  omega
theorem row_lit (w : World) (x : Int) : Row .u32 31 (w.alloc (.cells #[.int .u32 x] 31)) w.heap.size [x] := by
  unfold Row
  rw [heap_alloc_new]
  rfl
theorem arg_lit (w : World) {x : Int} (h : 0 ≤ x ∧ x < 4294967296) : Arg (w.alloc (.cells #[.int .u32 x] 31)) (.slice (some ⟨w.heap.size, 0, none⟩) 1 1) x 1 := by
  refine ⟨[x], ⟨some ⟨w.heap.size, 0, none⟩, 1, rfl, Nat.le_refl _, by unfold maxLen; omega, fun _ => ⟨w.heap.size, 0, rfl, (row_lit w x).lt, fun i hi => ?_⟩⟩, ok_lit h, val_lit x, Nat.le_refl _⟩
  rw [Nat.zero_add]
  exact (row_lit w x).cell hi
/-- what a text's bytes are -/
theorem txt_ix {es : List Int} {s : ByteArray} (hs : s = strOfNums es) (hd : Dg es) : ∀ p (h : p < s.size), ((s[p]'h).toNat : Int) = Nt.lb es p ∧ 48 ≤ Nt.lb es p ∧ Nt.lb es p ≤ 57 := by
  intro p h
  subst hs
  have hp : p < es.length := by rw [strOfNums_size] at h; exact h
  exact ⟨txt_at h hd.byt, hd _ (lb_in hp)⟩
theorem dg_drop_take {es : List Int} (p z : Nat) (h : p + z ≤ es.length) : dg (es.take (p + z)) = dg (es.take p) * tn z + dg ((es.drop p).take z) := by
  rw [List.take_add, dg_append]
  congr 3
  rw [List.length_take, List.length_drop]; omega
theorem dg_nine {es : List Int} (h : Dg es) (z : Nat) (hz : z ≤ 9) : 0 ≤ dg (es.take z) ∧ dg (es.take z) < 1000000000 := by
  obtain ⟨a, b⟩ := dg_range (h.take z)
  have c : tn (es.take z).length ≤ tn 9 := tn_mono (by rw [List.length_take]; omega)
  have d : tn 9 = 1000000000 := by decide
  omega

theorem txt_full {s : ByteArray} (h : 0 < s.size) : s.toList.isEmpty = false := by
  rw [ByteArray.toList_eq]
  cases hl : s.data.toList with
  | nil =>
    exfalso
    have h1 : s.data.size = 0 := by rw [← Array.length_toList, hl]; rfl
    have h2 : s.size = s.data.size := rfl
    omega
  | cons _ _ => rfl

set_option maxRecDepth 20000 in
set_option maxHeartbeats 1000000 in
theorem qroom_any {w : World} {n : Int} (h0 : 0 ≤ n) (h1 : n ≤ 100000000000000) :
    Calls Tryd.prog 47 #[.int .i64 n] w fun e w' => e = .returned (.int .i64 (n * 30103 / 100000 + 1)) ∧ w' = w := by
  go_enter Tryd.func47, Tryd.ntmps47
  go_wp2
  go_ret
  exact ⟨rfl, rfl⟩

/-- what tens answers for at most 1152 digits -/
def Tens (w : World) (n : Nat) (v : Value) : Prop :=
  (n ≤ 576 ∧ v = .slice none 0 0) ∨
  (576 < n ∧ ∃ g pv, v = .slice (some ⟨g, 0, none⟩) 1 1 ∧ g < w.heap.size ∧ w.cell? ⟨g, 0, none⟩ = some pv ∧ Arg w pv (tn 576) 120)
set_option maxRecDepth 100000 in
set_option maxHeartbeats 8000000 in
theorem tens_few {w : World} {n : Nat} (h : n ≤ 1152) :
    Calls Tryd.prog 49 #[.int .i64 n] w fun e w' => ∃ v, e = .returned v ∧ Tens w' n v ∧ Below w.heap.size w w' := by
  by_cases c : n ≤ 576
  · have c1 : (n : Int) ≤ 576 := by omega
    go_enter Tryd.func49, Tryd.ntmps49
    go_wp2
    go_ret
    exact ⟨_, rfl, .inl ⟨c, rfl⟩, Below.refl _ _⟩
  · have c1 : ¬ (n : Int) ≤ 576 := by omega
    have c2 : ¬ (1152 : Int) < (n : Int) := by omega
    go_enter Tryd.func49, Tryd.ntmps49
    go_wp2_with fail
    refine (pow_ok (b := 10) (N := 576) (k := 4) (by omega) (by omega) ⟨by decide, fun _ => by decide⟩ (by omega) (.inr (by omega))).mono ?_
    rintro e w1 ⟨v, rfl, hv, hb⟩
    have hp : Arg w1 v (tn 576) 120 := (hv.tight (k' := 120) (by have := tn_1152; have := tn_mono (show 576 ≤ 1152 by omega); show tn 576 < _; omega)).arg
    have HP := hide hp
    clear hv
    obtain ⟨zs, ⟨ao, cap, rfl, -⟩, -⟩ := hp
    go_wp2
    refine wp_loop_rounds 1 ?_
    rw [rounds_succ]
    go_wp2
    go_ret
    refine ⟨_, rfl, .inr ⟨by omega, w1.heap.size, _, rfl, by simp, ?_, HP.out.below (al_one _ _)⟩, below_trans hb (al_one _ _)⟩
    rw [World.cell?_alloc_at _ _ _ _ rfl]; rfl

end Go.Proofs.YtigehipclkoecaaDoor
