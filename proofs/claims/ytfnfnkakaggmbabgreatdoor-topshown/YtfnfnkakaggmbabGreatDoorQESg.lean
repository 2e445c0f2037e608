/- bytes of one's own, as []byte(s) makes them (as in EFe) -/
import Derived.Test.YtfnfnkakaggmbabGreatDoorQEBk
import Derived.Laws.BytesArg
namespace Go.Proofs.YtfnfnkakaggmbabGreatDoor
open Go.RowKit
set_option linter.unusedVariables false

/-- bytes that lie in a block, and may be written -/
def Sgm (w : World) (g : Nat) (zs : List Int) : Prop := ∀ i, i < zs.length → w.cell? ⟨g, i, none⟩ = some (.int .u8 (Nt.lb zs i)) ∧ w.frozen? ⟨g, i, none⟩ = false
theorem Sgm.set {w : World} {g : Nat} {zs : List Int} (h : Sgm w g zs) {i : Nat} (hi : i < zs.length) (v : Int) : Sgm (w.setCell ⟨g, i, none⟩ (.int .u8 v)) g (zs.set i v) := by
  intro j hj
  rw [List.length_set] at hj
  obtain ⟨h1, h2⟩ := h j hj
  refine ⟨?_, by rw [World.frozen?_setCell]; exact h2⟩
  by_cases e : i = j
  · subst e
    rw [World.cell?_setCell_same' _ _ _ (by rw [h1]; rfl)]
    simp [Nt.lb, hi]
  · have hne : (⟨g, j, none⟩ : Addr) ≠ ⟨g, i, none⟩ := fun h => e (by injection h with _ h2; exact h2.symm)
    rw [World.cell?_setCell_other _ _ _ _ hne.symm, h1]
    simp [Nt.lb, e]
theorem Sgm.below {w w' : World} {g : Nat} {zs : List Int} (h : Sgm w g zs) (hb : Below w.heap.size w w') (hg : g < w.heap.size) : Sgm w' g zs := fun i hi => by
  obtain ⟨h1, h2⟩ := h i hi
  refine ⟨(hb.cell (p := ⟨g, i, none⟩) hg).trans h1, ?_⟩
  simp only [World.frozen?] at h2 ⊢
  rw [hb.block g hg]; exact h2
theorem sgm_bytes {w : World} {es : List Int} (ho : Byt es) (C : Nat) (x : Nat × Nat) (hx : es.length ≤ x.1) : Sgm (w.drew.alloc (.cells (bytesRow (strOfNums es) C) 5 x)) w.heap.size es := by
  intro i hi
  have hb : (w.drew.alloc (.cells (bytesRow (strOfNums es) C) 5 x)).heap[w.heap.size]? = some (.cells (bytesRow (strOfNums es) C) 5 x) := by
    show (w.heap.push _)[w.heap.size]? = _
    simp
  have e : Nt.lb es i = es[i] := lb_get hi
  have hv := ho es[i] (List.getElem_mem hi)
  rw [e]
  constructor
  · simp only [World.cell?, hb]
    simp [bytesRow, strOfNums, hi, Array.getElem?_append]
    omega
  · simp only [World.frozen?, hb]
    simp
    omega
/-- the digits that are told, one fewer -/
theorem txt_less {F L s p c : Int} {k : Nat} (hF : 0 < F) (h0 : 0 < s) (hL : -1074 ≤ L) (h : ShP F L s p k c) (h17 : k ≤ 17) (hn : (txt k c).length ≠ 1) : 2 ≤ k ∧ (txt k c).length = k ∧ pt k c p = p ∧ dg ((txt k c).take (k - 1)) = c / 10 := by
  have hp := point_low hF h0 hL h.hi
  have k1 := h.k1
  rcases h.cases (gG_pos L) (by omega) with ⟨e, _⟩ | ⟨e, c0, c1, _⟩
  · exfalso; apply hn; unfold txt; rw [if_pos e]; rfl
  · have et : txt k c = dl k c := by unfold txt; rw [if_neg e]
    have hl : (txt k c).length = k := by rw [et, dl_len]
    refine ⟨by omega, hl, by unfold pt; rw [if_neg e], ?_⟩
    obtain ⟨m, rfl⟩ : ∃ m, k = m + 1 := ⟨k - 1, by omega⟩
    rw [et, dl, Nat.add_sub_cancel, List.take_append_of_le_length (by rw [dl_len]; exact Nat.le_refl _), List.take_of_length_le (by rw [dl_len]; exact Nat.le_refl _), ← bv_dg]
    have t0 := ten_pos m
    rw [Int.pow_succ] at c1
    refine bv_dl m (c / 10) ?_ ?_
    · have := ten_pos (m + 1 - 1); omega
    · omega

end Go.Proofs.YtfnfnkakaggmbabGreatDoor
