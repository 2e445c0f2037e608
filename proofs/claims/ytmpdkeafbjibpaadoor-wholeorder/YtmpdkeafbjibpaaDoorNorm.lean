/- nat.Norm, nat.From -/
import Derived.Test.YtmpdkeafbjibpaaDoorTrim
import Derived.Laws.CopyOwn
namespace Go.Proofs.YtmpdkeafbjibpaaDoor
open Go.RowKit

theorem splice_all {α : Type} (L cs : List α) (h : L.length = cs.length) : splice L 0 cs = cs := by
  simp [splice, ← h]

set_option maxHeartbeats 1000000 in
theorem norm_any {w : World} {va : Value} {n : Int} {ka : Nat} (ha : Arg w va n ka) (hka : ka ≤ 1099511627776) :
    Calls Tryd.prog 24 #[va] w fun e w' => ∃ v, e = .returned v ∧ Num w.heap.size w' v n ka ∧ Below w.heap.size w w' := by
  go_enter Tryd.func24, Tryd.ntmps24
  go_wp2_with fail
  refine (trim_arg ha).mono ?_
  rintro e w' ⟨rfl, ao, xs, rfl, hxk, hxm, hxc, hx, rfl⟩
  clear ha
  go_wp2_with (at_make; refine wpList_make_row _ rfl _ _ 23 rfl 59 .u32 4 Tryd.underlying23 Tryd.infoU32 _ _ _ _ xs.length xs.length rfl rfl (by omega) (by omega) (Nat.le_refl _) (by omega) (by unfold maxLen; omega) ?_)
  intro w1 hr hbel hsz
  obtain ⟨cs, hcs⟩ : ∃ cs, cs = xs.map (Value.int .u32) := ⟨_, rfl⟩
  obtain ⟨cur, hcur⟩ : ∃ cur, cur = (List.replicate xs.length (0 : Int)).map (Value.int .u32) := ⟨_, rfl⟩
  have hr' : w1.heap[w'.heap.size]? = some (.cells cur.toArray 59 (0, 0)) := by rw [hcur]; exact hr
  have hlc : cs.length = xs.length := by rw [hcs]; simp
  have hlr : cur.length = xs.length := by rw [hcur]; simp
  have Hcs : Hid (cs = xs.map (Value.int .u32)) := hcs
  have Hcur : Hid (cur = (List.replicate xs.length (0 : Int)).map (Value.int .u32)) := hcur
  have Hlc : Hid (cs.length = xs.length) := hlc
  have Hlr : Hid (cur.length = xs.length) := hlr
  have Hr : Hid (w1.heap[w'.heap.size]? = some (.cells cur.toArray 59 (0, 0))) := hr'
  have hpos : 0 < cs.length → some (⟨w'.heap.size, 0, none⟩ : Addr) = some ⟨w'.heap.size, 0, none⟩ ∧ ∃ ad, ao = some ad ∧ ∀ j v, cs[j]? = some v → w1.cell? (ad.add j) = some v := by
    intro h
    obtain ⟨b, off, rfl, hb, hc⟩ := (hxc.below hbel) (by omega)
    refine ⟨rfl, _, rfl, fun j v hv => ?_⟩
    have hj : j < xs.length := by have := (List.getElem?_eq_some_iff.1 hv).1; omega
    rw [Addr.add_lit, hc j hj]
    rw [hcs] at hv
    simp [hj] at hv
    rw [← hv]; simp [Nt.lb, hj]
  have Hpos : Hid (0 < cs.length → some (⟨w'.heap.size, 0, none⟩ : Addr) = some ⟨w'.heap.size, 0, none⟩ ∧ ∃ ad, ao = some ad ∧ ∀ j v, cs[j]? = some v → w1.cell? (ad.add j) = some v) := hpos
  clear hcs hcur hlc hlr hr' hpos hr
  go_wp2_with (refine wpList_copy_splice rfl (.tmp 9) (.tmp 10) 23 23 rfl 59 Tryd.underlying23 Tryd.sizeU32 (some ⟨w'.heap.size, 0, none⟩) ao xs.length xs.length xs.length xs.length rfl rfl w'.heap.size 0 cur 59 Hr.out cs (by rw [Hlc.out]; exact (Nat.min_self _).symm) Hpos.out (by rw [Hlc.out, Hlr.out]; omega) (by rw [Hcs.out]; exact ints_oneCell _ _) w'.heap.size w' hbel (Nat.le_refl _) ?_)
  intro w2 HG hB2
  have hrow : Row .u32 59 w2 w'.heap.size xs := by
    have h := HG.out
    rw [splice_all _ _ (Hlr.out.trans Hlc.out.symm), Hcs.out] at h
    exact h
  clear Hr Hpos HG Hcs Hcur Hlc Hlr hbel
  go_wp2_with fail
  refine (trim_row (B := w'.heap.size) hrow (Nat.le_refl _) (Nat.le_refl _) hxm hx.1).mono ?_
  rintro e w3 ⟨rfl, v, rfl, hnum⟩
  go_wp2
  go_ret
  exact ⟨_, rfl, hnum.mono hxk, hB2⟩

/-- a list that was built of two numbers -/
theorem row_two (w : World) (x y : Int) : Row .u32 59 (w.alloc (.cells #[.int .u32 x, .int .u32 y] 59)) w.heap.size [x, y] := by
  unfold Row
  rw [heap_alloc_new]
  rfl

set_option maxHeartbeats 1000000 in
theorem from_any {w : World} (x : Int) (h0 : 0 ≤ x) (h1 : x < 18446744073709551616) :
    Calls Tryd.prog 28 #[.int .u64 x] w fun e w' => ∃ v, e = .returned v ∧ Num w.heap.size w' v x 2 ∧ Below w.heap.size w w' := by
  go_enter Tryd.func28, Tryd.ntmps28
  go_wp2_with fail
  refine (trim_row (B := w.heap.size) (cap := 2) (row_two w (x % 4294967296) (x / 4294967296)) (Nat.le_refl _) (Nat.le_refl _) (by unfold maxLen; omega) ?_).mono ?_
  · intro i
    match i with
    | 0 => simp only [Nt.lb, List.getD_cons_zero]; omega
    | 1 => simp only [Nt.lb, List.getD_cons_succ, List.getD_cons_zero]; omega
    | i + 2 => simp [Nt.lb]
  rintro e w3 ⟨rfl, v, rfl, hnum⟩
  have hv : Nt.val [x % 4294967296, x / 4294967296] = x := by
    show Nt.vt _ 2 = x
    simp only [Nt.vt, Nt.pw, Nt.lb, List.getD_cons_zero, List.getD_cons_succ]
    omega
  have Hn : Hid _ := hnum
  have Hv : Hid _ := hv
  clear hnum hv
  go_wp2
  go_ret
  have hnum := Hn.out
  rw [Hv.out] at hnum
  exact ⟨_, rfl, hnum, (Below.refl _ _).alloc (Nat.le_refl _) _⟩

end Go.Proofs.YtmpdkeafbjibpaaDoor
