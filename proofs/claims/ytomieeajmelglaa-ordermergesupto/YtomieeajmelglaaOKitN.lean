/- layer 12: lists of ints in memory -/
import Derived.Test.YtomieeajmelglaaORow
namespace Go.Proofs.Ytomieeajmelglaa
open Go.RowKit Go.Shelf
set_option linter.unusedVariables false

abbrev ntV (x : Int) : Value := .int .i64 x
abbrev ntEncs (x : Int) : Array Value := #[ntV x]
def NtIn (w : World) (g o : Nat) (xs : List Int) : Prop := ∀ i (h : i < xs.length), w.cell? ⟨g, o + i, none⟩ = some (.int .i64 xs[i])
def NtRd (G : Nat → Prop) (w : World) (v : Value) (xs : List Int) : Prop :=
  ∃ ao cap, v = .slice ao xs.length cap ∧ xs.length ≤ cap ∧ cap ≤ maxLen ∧ (0 < xs.length → ∃ g o, ao = some ⟨g, o, none⟩ ∧ G g ∧ g < w.heap.size ∧ NtIn w g o xs)
theorem NtRd.belx {X G : Nat → Prop} {n : Nat} {w w' : World} {v : Value} {xs : List Int} (h : NtRd G w v xs) (hb : BelX X n w w') (hG : ∀ g, G g → g < n ∧ ¬ X g) : NtRd G w' v xs := by
  obtain ⟨ao, cap, h1, h2, h3, h4⟩ := h
  refine ⟨ao, cap, h1, h2, h3, fun hp => ?_⟩
  obtain ⟨g, o, e, hg, hl, hi⟩ := h4 hp
  refine ⟨g, o, e, hg, Nat.lt_of_lt_of_le hl hb.size, fun i hi' => ?_⟩
  have q := hG g hg
  exact (hb.cell (p := ⟨g, _, none⟩) q.1 q.2).trans (hi i hi')
theorem NtRd.below {G : Nat → Prop} {w w' : World} {v : Value} {xs : List Int} (h : NtRd G w v xs) (hb : Below w.heap.size w w') : NtRd G w' v xs := by
  obtain ⟨ao, cap, h1, h2, h3, h4⟩ := h
  refine ⟨ao, cap, h1, h2, h3, fun hp => ?_⟩
  obtain ⟨g, o, e, hg, hl, hi⟩ := h4 hp
  refine ⟨g, o, e, hg, Nat.lt_of_lt_of_le hl hb.size, fun i hi' => ?_⟩
  exact (hb.cell (p := ⟨g, _, none⟩) hl).trans (hi i hi')
theorem NtRd.mono {G H : Nat → Prop} {w : World} {v : Value} {xs : List Int} (h : NtRd G w v xs) (hG : ∀ g, g < w.heap.size → G g → H g) : NtRd H w v xs := by
  obtain ⟨ao, cap, h1, h2, h3, h4⟩ := h
  refine ⟨ao, cap, h1, h2, h3, fun hp => ?_⟩
  obtain ⟨g, o, e, hg, hl, hi⟩ := h4 hp
  exact ⟨g, o, e, hG g hl hg, hl, hi⟩
/-- an order of ints that is handed in, for ints below n -/
structure CmpIsN (I : World → Prop) (cv : Value) (n : Nat) (f : Int → Int → Int) : Prop where
  val : ∃ g lb, cv = .func (.func g) #[] lb ∧ (∀ args w, (callFunc g args).run Try.prog w = .ok (.enter g args) w) ∧
    ∀ (W : World) (a b : Int), I W → 0 ≤ a → a < (n : Int) → 0 ≤ b → b < (n : Int) → Calls Try.prog g (#[ntV a, ntV b] ++ lb) W fun e W' => e = .returned (.int .i64 (f a b)) ∧ Below W.heap.size W W'

def flatN (xs : List Int) : List Value := xs.map (Value.int .i64)
theorem flatN_len (xs : List Int) : (flatN xs).length = xs.length := by simp [flatN]
def NtRow (w : World) (g : Nat) (xs : List Int) : Prop := w.heap[g]? = some (.cells (flatN xs).toArray 3 (0, 0))
theorem NtRow.lt {w : World} {g : Nat} {xs : List Int} (h : NtRow w g xs) : g < w.heap.size := (Array.getElem?_eq_some_iff.1 h).1
theorem NtRow.cell {w : World} {g : Nat} {xs : List Int} (h : NtRow w g xs) {i : Nat} (hi : i < xs.length) : w.cell? ⟨g, i, none⟩ = some (.int .i64 xs[i]) := by
  rw [cell_of_row w g i _ _ _ h]; simp [flatN, hi]
theorem NtRow.frozen {w : World} {g : Nat} {xs : List Int} (h : NtRow w g xs) (i : Nat) : w.frozen? ⟨g, i, none⟩ = false := frozen_of_row w g i _ _ h
theorem NtRow.set {w : World} {g : Nat} {xs : List Int} (h : NtRow w g xs) {i : Nat} (hi : i < xs.length) (x : Int) : NtRow (w.setCell ⟨g, i, none⟩ (.int .i64 x)) g (xs.set i x) := by
  unfold NtRow
  rw [heap_setCell_same w g i _ _ _ h]
  simp [flatN, List.map_set]
theorem NtRow.keep {w w' : World} {g : Nat} {xs : List Int} (h : NtRow w g xs) (e : w'.heap[g]? = w.heap[g]?) : NtRow w' g xs := e.trans h
theorem NtRow.rd {w : World} {g c : Nat} {xs : List Int} (h : NtRow w g xs) {G : Nat → Prop} (hG : G g) (h1 : xs.length ≤ c) (h2 : c ≤ maxLen) : NtRd G w (.slice (some ⟨g, 0, none⟩) xs.length c) xs :=
  ⟨_, c, rfl, h1, h2, fun _ => ⟨g, 0, rfl, hG, h.lt, fun i hi => by simpa using h.cell hi⟩⟩
theorem sub_rdN {w U : World} {gi ga oa ca k M : Nat} {xs ys : List Int} {G : Nat → Prop} (ia : NtIn w ga oa xs) (hB : BelX (fun k => k = gi) w.heap.size w U) (ga1 : ga ≠ gi) (ga2 : ga < w.heap.size) (hG : G ga) (hl : ys.length = M - k) (hk : k ≤ M) (hM : M ≤ xs.length) (hg : ∀ i, i < M - k → ys[i]? = xs[k + i]?) (hc : M ≤ ca) (hcm : ca ≤ maxLen) :
    NtRd G U (.slice (some ⟨ga, oa + k, none⟩) (M - k) (ca - k)) ys := by
  refine ⟨_, ca - k, by rw [hl], by omega, by omega, fun hp => ⟨ga, _, rfl, hG, Nat.lt_of_lt_of_le ga2 hB.size, fun i hi => ?_⟩⟩
  have e := hg i (by omega)
  rw [List.getElem?_eq_getElem hi, List.getElem?_eq_getElem (by omega)] at e
  injection e with e
  have q := ia (k + i) (by omega)
  rw [e, show oa + k + i = oa + (k + i) by omega]
  exact (hB.cell (p := ⟨ga, _, none⟩) ga2 ga1).trans q
theorem nil_rdN {U : World} {ao : Option Addr} {n c : Nat} {ys : List Int} {G : Nat → Prop} (hn : n = 0) (hy : ys = []) (hc : c ≤ maxLen) : NtRd G U (.slice ao n c) ys := by
  subst hn hy
  exact ⟨ao, c, rfl, Nat.zero_le _, hc, fun h => absurd h (by simp)⟩

end Go.Proofs.Ytomieeajmelglaa
