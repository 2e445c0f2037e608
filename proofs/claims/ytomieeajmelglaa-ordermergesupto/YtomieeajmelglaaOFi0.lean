/- OrderFinds: the walk -/
import Derived.Test.YtomieeajmelglaaOSame
import Derived.Test.YtomieeajmelglaaOTwNil
import Derived.Test.YtomieeajmelglaaORefF
import Derived.Test.YtomieeajmelglaaORefS
import Derived.Test.YtomieeajmelglaaORefT
import Derived.Test.YtomieeajmelglaaOLives
import Derived.Test.YtomieeajmelglaaOHl
namespace Go.Proofs.Ytomieeajmelglaa
open Go.RowKit Go.Shelf
set_option linter.unusedVariables false
set_option linter.unusedSimpArgs false

theorem ItRd.far {w w' : World} {v : Value} {l : List It} (h : ItRd (fun _ => True) w v l) (hb : Below w.heap.size w w') : ItRd (fun _ => True) w' v l := by
  obtain ⟨ao, ca, h1, h2, h3, h4⟩ := h
  refine ⟨ao, ca, h1, h2, h3, fun hp => ?_⟩
  obtain ⟨g, o, h5, h6, h7, h8⟩ := h4 hp
  exact ⟨g, o, h5, h6, Nat.lt_of_lt_of_le h7 hb.size, fun i hi => ⟨(hb.cell (p := ⟨g, _, none⟩) h7).trans (h8 i hi).1, (hb.cell (p := ⟨g, _, none⟩) h7).trans (h8 i hi).2⟩⟩
theorem Lent.far {base : Nat} {w w' : World} {g cap : Nat} {l : List It} (h : Lent base w g cap l) (hb : Below w.heap.size w w') : Lent base w' g cap l := by
  have hg := h.itin.2.1
  obtain ⟨h0, ⟨h1, h2⟩ | ⟨g', cap', cur, h1, h2, h3, h4⟩⟩ := h
  · cases h1
  · cases h1
    exact ⟨h0, .inr ⟨g, cap, cur, rfl, h2, (hb.block _ hg).trans h3, h4⟩⟩
theorem Lent.rd {base : Nat} {w : World} {g cap : Nat} {l : List It} (h : Lent base w g cap l) : ItRd (fun _ => True) w (.slice (some ⟨g, 0, none⟩) l.length cap) l := by
  obtain ⟨_, hg, hcap, hcm, hin⟩ := h.itin
  exact ⟨_, cap, rfl, by omega, hcm, fun _ => ⟨g, 0, rfl, trivial, hg, fun i hi => by
    have q := hin i (by simp; omega)
    rw [List.getElem_append_left hi] at q
    exact q⟩⟩

theorem bsOk_at {o : Int} {l : List It} {x : It} {k : Nat} (h : k < l.length) {z : It} (hz : l[k] = z) : bsOk (byF o) l x k = decide (ocmp o z x = 0) := by
  unfold bsOk
  have e : l[k]?.getD (0, 0) = z := by rw [List.getElem?_eq_getElem h]; exact hz
  rw [e]
  simp [h, byF_zero]

end Go.Proofs.Ytomieeajmelglaa
