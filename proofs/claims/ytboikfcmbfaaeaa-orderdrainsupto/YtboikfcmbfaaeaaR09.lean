/- UFirst -/
import Derived.Test.YtboikfcmbfaaeaaR01
import Derived.Test.YtboikfcmbfaaeaaR02
import Derived.Deep.LoopGhost
import Derived.Laws.BytesArg
import Derived.WideShapes
namespace Go.Proofs.Ytboikfcmbfaaeaa
open Go.RowKit
set_option linter.unusedVariables false

/-- the further bytes, one by one -/
def uGo (n : Nat) : Int → List Int → Int × Nat
  | x, [] => if uSz x = n then (x, n) else (0, 0)
  | x, c :: cs => if uCont c = true then uGo n (x * 64 + (c - 128)) cs else (0, 0)
theorem uGo_eq (n : Nat) (x : Int) (l : List Int) : uGo n x l = if l.all uCont = false then (0, 0) else if uSz (uAcc x l) = n then (uAcc x l, n) else (0, 0) := by
  induction l generalizing x with
  | nil => rfl
  | cons c cs ih =>
    rw [uGo, uAcc]
    cases h : uCont c
    · simp [h]
    · rw [if_pos rfl, ih, List.all_cons, h, Bool.true_and]
theorem uDec_go (a : Int) (r : List Int) : uDec (a :: r) = if (uLead a).2 = 0 then (0, 0) else if r.length < (uLead a).2 - 1 then (0, 0) else uGo (uLead a).2 (uLead a).1 (r.take ((uLead a).2 - 1)) := by
  rw [uDec, uGo_eq]
theorem ulb_get {es : List Int} {p : Nat} (h : p < es.length) : Nt.lb es p = es[p] := by simp [Nt.lb, h]
theorem udrop_lb {es : List Int} {k : Nat} (h : k < es.length) : es.drop k = Nt.lb es k :: es.drop (k + 1) := by
  rw [List.drop_eq_getElem_cons h]
  simp [Nt.lb, h]
theorem uDec_at {es : List Int} {k : Nat} (h : k < es.length) : uDec (es.drop k) = if (uLead (Nt.lb es k)).2 = 0 then (0, 0) else if es.length - (k + 1) < (uLead (Nt.lb es k)).2 - 1 then (0, 0) else uGo (uLead (Nt.lb es k)).2 (uLead (Nt.lb es k)).1 ((es.drop (k + 1)).take ((uLead (Nt.lb es k)).2 - 1)) := by
  rw [udrop_lb h, uDec_go, List.length_drop]
theorem uGo_step {es : List Int} {n p m : Nat} {x : Int} {R : Int × Nat} (h : R = uGo n x ((es.drop p).take (m + 1))) (hp : p < es.length) : R = if uCont (Nt.lb es p) = true then uGo n (x * 64 + (Nt.lb es p - 128)) ((es.drop (p + 1)).take m) else (0, 0) := by
  rw [h, udrop_lb hp, List.take_succ_cons, uGo]
theorem uCont_div {d : Int} (h : (d / 64 != 2) = false) : uCont d = true ∧ d % 64 = d - 128 := by
  have e : d / 64 = 2 := by simpa using h
  refine ⟨?_, by omega⟩
  unfold uCont; simp; omega
theorem uCont_not {d : Int} (h : (d / 64 != 2) = true) : uCont d = false := by
  have e : d / 64 ≠ 2 := by simpa using h
  unfold uCont; simp; omega
theorem uLead_le (a : Int) : (uLead a).2 ≤ 4 := by
  unfold uLead
  split; simp
  split; simp
  split; simp
  split; simp
  split <;> simp
theorem uLead_rng {a : Int} (h0 : 0 ≤ a) (h1 : a < 256) : 0 ≤ (uLead a).1 ∧ ((uLead a).2 = 0 ∨ (uLead a).2 = 1 ∨ (uLead a).1 < 32) := by
  unfold uLead
  split
  · exact ⟨h0, .inr (.inl rfl)⟩
  split
  · exact ⟨by simp, .inl rfl⟩
  split
  · exact ⟨by simp; omega, .inr (.inr (by simp; omega))⟩
  split
  · exact ⟨by simp; omega, .inr (.inr (by simp; omega))⟩
  split
  · exact ⟨by simp; omega, .inr (.inr (by simp; omega))⟩
  · exact ⟨by simp, .inl rfl⟩
theorem utxt_at {es : List Int} {p : Nat} (h : p < (strOfNums es).size) (hb : uByt es) : (((strOfNums es)[p]'h).toNat : Int) = Nt.lb es p := by
  have hl : p < es.length := by rw [strOfNums_size] at h; exact h
  have e : (strOfNums es)[p]'h = UInt8.ofNat (es[p]).toNat := by
    show (strOfNums es).data[p]'h = _
    simp [strOfNums]
  have hp := hb _ (List.getElem_mem hl)
  rw [e, UInt8.toNat_ofNat']
  simp [Nt.lb, hl]
  omega
theorem utxt_of (s : ByteArray) : ∃ es, uByt es ∧ es.length = s.size ∧ s = strOfNums es := by
  refine ⟨s.data.toList.map fun b => (b.toNat : Int), ?_, by simp, ?_⟩
  · intro x hx
    obtain ⟨b, _, rfl⟩ := List.mem_map.1 hx
    have := b.toNat_lt
    omega
  · apply Go.WideShapes.bytes_inj
    rw [strOfNums_data, List.map_map]
    have : (fun n : Int => UInt8.ofNat n.toNat) ∘ (fun b : UInt8 => (b.toNat : Int)) = id := by
      funext b; simp
    rw [this, List.map_id]
theorem utxt_cut (es : List Int) (a b : Nat) : (strOfNums es).extract a b = strOfNums ((es.take b).drop a) := by
  apply Go.WideShapes.bytes_inj
  simp [strOfNums, List.map_take, List.map_drop]
  try rw [List.drop_take]
theorem utxt_join (xs ys : List Int) : strOfNums xs ++ strOfNums ys = strOfNums (xs ++ ys) := by
  apply Go.WideShapes.bytes_inj
  simp [strOfNums]
theorem utxt_inj {xs ys : List Int} (hx : uByt xs) (hy : uByt ys) (h : strOfNums xs = strOfNums ys) : xs = ys := by
  have hl : xs.length = ys.length := by rw [← strOfNums_size xs, ← strOfNums_size ys, h]
  apply List.ext_getElem hl
  intro i h1 h2
  have a := utxt_at (es := xs) (p := i) (by rw [strOfNums_size]; exact h1) hx
  have b := utxt_at (es := ys) (p := i) (by rw [strOfNums_size]; exact h2) hy
  rw [ulb_get h1] at a
  rw [ulb_get h2] at b
  rw [← a, ← b]
  simp only [h]
theorem ret_three {a b : Int} {m n : Int} {c d : Bool} (h : a = b) (g : m = n) (k : c = d) : Ending.returned (.tuple #[.int .i32 a, .int .i64 m, .bool c]) = .returned (.tuple #[.int .i32 b, .int .i64 n, .bool d]) := by rw [h, g, k]
/-- what First tells -/
def uFst (es : List Int) (at_ : Int) : Int × Nat := if 0 ≤ at_ ∧ at_ < es.length then uDec (es.drop at_.toNat) else (0, 0)
theorem uFst_in {es : List Int} {k : Nat} (h : k < es.length) : uFst es k = uDec (es.drop k) := by
  unfold uFst; rw [if_pos (by omega)]; rfl
theorem uDec_zero {l : List Int} (h : (uDec l).2 = 0) : uDec l = (0, 0) := by
  cases l with
  | nil => rfl
  | cons a r =>
    rw [uDec_go] at h ⊢
    split at h; rename_i g; rw [if_pos g]
    rename_i g; rw [if_neg g]
    split at h; rename_i g2; rw [if_pos g2]
    rename_i g2; rw [if_neg g2]
    rw [uGo_eq] at h ⊢
    split at h; rename_i g3; rw [if_pos g3]
    rename_i g3; rw [if_neg g3]
    split at h
    · rename_i g4; exact absurd h g
    · rename_i g4; rw [if_neg g4]

end Go.Proofs.Ytboikfcmbfaaeaa
