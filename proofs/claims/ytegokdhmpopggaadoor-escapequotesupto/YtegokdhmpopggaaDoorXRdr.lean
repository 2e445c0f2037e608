/- escape: the reader and its builder (a field of it) -/
import Derived.Test.YtegokdhmpopggaaDoorUBld
import Derived.Test.YtegokdhmpopggaaDoorXLet
import Derived.Lib.AppendStr
import Derived.Lib.UnsafeStr
import Derived.Deep.RegionHeld3
import Derived.Deep.Cut
import Derived.Handy
import Derived.BigQuiet
namespace Go.Proofs.YtegokdhmpopggaaDoor
open Go.RowKit
set_option linter.unusedVariables false

def RdrAt (B b : Nat) (s : ByteArray) (k : Nat) (p : Value) (bs : List Value) (w : World) : Prop :=
  B ≤ b ∧ ∃ v, w.heap[b]? = some (.cells #[.string s, .int .i64 k, p, v] 55 (0, 0)) ∧ w.ownsRow B 5 1 v bs.length bs ∧ v.ownBlock ≠ some b
/-- the reader: its string, its place, the bytes of its text -/
def Rdr (B b : Nat) (s : ByteArray) (k : Nat) (es : List Int) (w : World) : Prop :=
  RdrAt B b s k (.pointer none) (Lib.byteCells (byE es)) w ∨ RdrAt B b s k (.pointer (some ⟨b, 2, none⟩)) (Lib.byteCells (byE es)) w
theorem Rdr.any {B b k : Nat} {s : ByteArray} {es : List Int} {w : World} (h : Rdr B b s k es w) : ∃ p, RdrAt B b s k p (Lib.byteCells (byE es)) w := by
  rcases h with h | h
  · exact ⟨_, h⟩
  · exact ⟨_, h⟩
theorem Rdr.lt {B b k : Nat} {s : ByteArray} {es : List Int} {w : World} (h : Rdr B b s k es w) : b < w.heap.size := by
  obtain ⟨p, _, v, hb, _⟩ := h.any
  exact (Array.getElem?_eq_some_iff.1 hb).1
theorem Rdr.le {B b k : Nat} {s : ByteArray} {es : List Int} {w : World} (h : Rdr B b s k es w) : B ≤ b := h.any.choose_spec.1
theorem Rdr.c0 {B b k : Nat} {s : ByteArray} {es : List Int} {w : World} (h : Rdr B b s k es w) : w.cell? ⟨b, 0, none⟩ = some (.string s) := by
  obtain ⟨p, _, v, hb, _⟩ := h.any
  rw [Lib.cell_of_heap hb]; rfl
theorem Rdr.c1 {B b k : Nat} {s : ByteArray} {es : List Int} {w : World} (h : Rdr B b s k es w) : w.cell? ⟨b, 1, none⟩ = some (.int .i64 k) := by
  obtain ⟨p, _, v, hb, _⟩ := h.any
  rw [Lib.cell_of_heap hb]; rfl
theorem Rdr.f1 {B b k : Nat} {s : ByteArray} {es : List Int} {w : World} (h : Rdr B b s k es w) : w.frozen? ⟨b, 1, none⟩ = false := by
  obtain ⟨p, _, v, hb, _⟩ := h.any
  exact Lib.frozen_of_heap hb 1
theorem Rdr.below {B b k : Nat} {s : ByteArray} {es : List Int} {w w' : World} (h : Rdr B b s k es w) (hb : Below w.heap.size w w') : Rdr B b s k es w' := by
  have key : ∀ p, RdrAt B b s k p (Lib.byteCells (byE es)) w → RdrAt B b s k p (Lib.byteCells (byE es)) w' := by
    rintro p ⟨h1, v, h2, h3, h4⟩
    refine ⟨h1, v, ?_, ?_, h4⟩
    · rw [hb.block b (Array.getElem?_eq_some_iff.1 h2).1]; exact h2
    · exact h3.kept (row := none) ⟨hb.os, hb.tape, hb.output, hb.size, fun k hk _ => hb.block k hk⟩ (by cases v.ownBlock <;> simp)
  rcases h with g | g
  · exact Or.inl (key _ g)
  · exact Or.inr (key _ g)
/-- the place set -/
theorem Rdr.at {B b k j : Nat} {s : ByteArray} {es : List Int} {w : World} (h : Rdr B b s k es w) : Rdr B b s j es (w.setCell ⟨b, 1, none⟩ (.int .i64 j)) := by
  have key : ∀ p, RdrAt B b s k p (Lib.byteCells (byE es)) w → RdrAt B b s j p (Lib.byteCells (byE es)) (w.setCell ⟨b, 1, none⟩ (.int .i64 j)) := by
    rintro p ⟨h1, v, h2, h3, h4⟩
    refine ⟨h1, v, ?_, ?_, h4⟩
    · simp [World.setCell, Array.getElem?_modify, h2]
    · exact h3.kept (row := some b) ⟨rfl, rfl, rfl, by simp [World.setCell], fun k _ hk => Below.heap_setCell _ _ _ _ (fun e => hk (by simp [e]))⟩ (Or.inr h4)
  rcases h with g | g
  · exact Or.inl (key _ g)
  · exact Or.inr (key _ g)
theorem Rdr.move {B b k j : Nat} {s : ByteArray} {es : List Int} {w : World} {z : Int} (h : Rdr B b s k es w) (hz : z = j) : Rdr B b s j es (w.setCell ⟨b, 1, none⟩ (.int .i64 z)) ∧ Below B w (w.setCell ⟨b, 1, none⟩ (.int .i64 z)) := by
  subst hz
  exact ⟨h.at, (Below.refl B w).setCell (p := ⟨b, 1, none⟩) h.le _⟩
theorem RdrAt.put {B b k : Nat} {s : ByteArray} {p v v' : Value} {bs' : List Value} {w : World} (hB : B ≤ b) (hb : w.heap[b]? = some (.cells #[.string s, .int .i64 k, p, v] 55 (0, 0))) (hown : w.ownsRow B 5 1 v' bs'.length bs') :
    RdrAt B b s k p bs' (w.setCell ⟨b, 3, none⟩ v') := by
  have hne := Lib.ownBlock_ne hown hb (by decide)
  refine ⟨hB, v', ?_, ?_, hne⟩
  · simp [World.setCell, Array.getElem?_modify, hb]
  · exact hown.kept (row := some b) ⟨rfl, rfl, rfl, by simp [World.setCell], fun k _ hk => Below.heap_setCell _ _ _ _ (fun e => hk (by simp [e]))⟩ (Or.inr hne)

set_option maxHeartbeats 1000000 in
set_option maxRecDepth 100000 in
theorem rchk_used {b : Nat} {w : World} (h0 : w.cell? ⟨b, 2, none⟩ = some (.pointer (some ⟨b, 2, none⟩))) :
    Calls Tryd.prog 33 #[.pointer (some ⟨b, 2, none⟩)] w fun e w' => e = .returned (.tuple #[]) ∧ w' = w := by
  obtain ⟨j, hj, _⟩ := Option.map_eq_some_iff.1 bsz
  go_enter Tryd.func33, Tryd.ntmps33
  go_wp2
  rw [Lib.run_neq_ptr_same w _ Tryd.underlying47 hj]
  go_wp2
  go_end0
  exact ⟨rfl, rfl⟩

set_option maxHeartbeats 1000000 in
set_option maxRecDepth 100000 in
theorem rchk_new {b : Nat} {w : World} (h0 : w.cell? ⟨b, 2, none⟩ = some (.pointer none)) (hsh : w.shape? b = some (55, 4)) (hfz : w.frozen? ⟨b, 2, none⟩ = false) :
    Calls Tryd.prog 33 #[.pointer (some ⟨b, 2, none⟩)] w fun e w' => e = .returned (.tuple #[]) ∧ w' = w.setCell ⟨b, 2, none⟩ (.pointer (some ⟨b, 2, none⟩)) := by
  obtain ⟨j, hj, hjs⟩ := Option.map_eq_some_iff.1 bsz
  go_enter Tryd.func33, Tryd.ntmps33
  go_wp2
  rw [Lib.run_to_unsafe w ⟨b, 2, none⟩ Tryd.underlying47 Tryd.underlying89 hj (by rw [hjs]; decide) hsh (by show (2 : Nat) < 4; omega)]
  simp only [Result.andThen]
  rw [Oper.upon_value]
  go_wp2
  rw [run_callFunc_extern Tryd.func53 (by kernel_rfl) (by kernel_rfl) (by kernel_rfl) (e := Extern.AbiNoEscape.same) (by kernel_rfl)]
  rw [Lib.run_noEscape]
  simp only [Result.andThen]
  rw [Oper.upon_value]
  go_wp2
  rw [Lib.run_from_unsafe w ⟨b, 2, none⟩ Tryd.underlying89 Tryd.underlying47 hj hsh (by kernel_rfl)]
  simp only [Result.andThen]
  rw [Oper.upon_value]
  go_wp2
  go_end0
  exact ⟨rfl, rfl⟩

theorem RdrAt.used {B b k : Nat} {s : ByteArray} {p q : Value} {bs : List Value} {w : World} (h : RdrAt B b s k p bs w) : RdrAt B b s k q bs (w.setCell ⟨b, 2, none⟩ q) := by
  obtain ⟨h1, v, h2, h3, h4⟩ := h
  refine ⟨h1, v, ?_, ?_, h4⟩
  · simp [World.setCell, Array.getElem?_modify, h2]
  · exact h3.kept (row := some b) ⟨rfl, rfl, rfl, by simp [World.setCell], fun k _ hk => Below.heap_setCell _ _ _ _ (fun e => hk (by simp [e]))⟩ (Or.inr h4)
theorem rchk {B b k : Nat} {s : ByteArray} {es : List Int} {w : World} (h : Rdr B b s k es w) :
    Calls Tryd.prog 33 #[.pointer (some ⟨b, 2, none⟩)] w fun e w' => e = .returned (.tuple #[]) ∧ RdrAt B b s k (.pointer (some ⟨b, 2, none⟩)) (Lib.byteCells (byE es)) w' ∧ Below B w w' := by
  rcases h with h | h
  · have hh := h
    obtain ⟨hB, v, hb, _⟩ := hh
    refine (rchk_new (by rw [Lib.cell_of_heap hb]; rfl) (by simp [World.shape?, hb]) (Lib.frozen_of_heap hb 2)).mono ?_
    rintro e w' ⟨rfl, rfl⟩
    exact ⟨rfl, h.used, (Below.refl B w).setCell (p := ⟨b, 2, none⟩) hB _⟩
  · have hh := h
    obtain ⟨hB, v, hb, _⟩ := hh
    refine (rchk_used (by rw [Lib.cell_of_heap hb]; rfl)).mono ?_
    rintro e w' ⟨rfl, rfl⟩
    exact ⟨rfl, h, Below.refl B _⟩

set_option maxHeartbeats 2000000 in
set_option maxRecDepth 100000 in
theorem Rdr.byte {B b k : Nat} {s : ByteArray} {es : List Int} {c : Int} {w : World} (h : Rdr B b s k es w) (c0 : 0 ≤ c) (c1 : c < 256) (hl : es.length + 1 ≤ 140737488355328) (hBw : B ≤ w.heap.size) :
    Calls Tryd.prog 21 #[.pointer (some ⟨b, 2, none⟩), .int .u8 c] w fun e w' => e = .returned .nilIface ∧ Rdr B b s k (es ++ [c]) w' ∧ Below B w w' := by
  obtain ⟨i0, hi, hz0, hz1, hz2⟩ := info_parts binf
  have hlen : (Lib.byteCells (byE es)).length + 1 ≤ 140737488355328 := by rw [Lib.byteCells_length, byE_len]; exact hl
  have ebs : Lib.byteCells (byE (es ++ [c])) = Lib.byteCells (byE es) ++ [.int .u8 c] := by
    rw [byE_app, Lib.byteCells_append]
    have e : Lib.byteCells (byE [c]) = [.int .u8 c] := by
      simp [byE, Lib.byteCells]
      omega
    rw [e]
  have HE := hide ebs
  have HC := hide (rchk h)
  clear h ebs hl
  obtain ⟨bs, hbs⟩ : ∃ bs, Lib.byteCells (byE es) = bs := ⟨_, rfl⟩
  rw [hbs] at hlen HC HE
  clear hbs
  go_enter Tryd.func21, Tryd.ntmps21
  go_wp2_with fail
  refine HC.out.mono ?_
  rintro e w1 ⟨rfl, h1, hb1⟩
  obtain ⟨hB, v, hbk, hown, hne⟩ := h1
  have d2 : w1.cell? ⟨b, 2, none⟩ = some (.pointer (some ⟨b, 2, none⟩)) := by rw [Lib.cell_of_heap hbk]; rfl
  have d3 : w1.cell? ⟨b, 3, none⟩ = some v := by rw [Lib.cell_of_heap hbk]; rfl
  go_wp2_with (at_builtin; refine wpList_append_own _ rfl _ _ 48 rfl B 5 i0 (.int .u8 0) 1 1 Tryd.underlying48 hi hz0 hz1 hz2 rfl (by decide) _ _ _ rfl (hown.alloc _) ⟨w1.heap.size, 0, none⟩ 1 1 [.int .u8 c] rfl rfl ?c1 ?c2 ?c3 ?c4 ?c5 ?_)
  case c1 =>
    intro j u hj
    match j, hj with
    | 0, hj => simp at hj; subst hj; simp [Addr.add]
  case c2 => intro u hu; simp at hu; subst hu; rfl
  case c3 => unfold maxLen; omega
  case c4 => omega
  case c5 => have := hb1.size; simp; omega
  intro v' w2 hown' hgrow _
  have hlt : b < w1.heap.size := (Array.getElem?_eq_some_iff.1 hbk).1
  have hb2 : w2.heap[b]? = some (.cells #[.string s, .int .i64 k, .pointer (some ⟨b, 2, none⟩), v] 55 (0, 0)) := by
    rw [hgrow.block b (by simp; omega) (fun e => hne e.symm), Lib.alloc_old w1 _ b hlt]
    exact hbk
  have e2 : w2.cell? ⟨b, 2, none⟩ = some (.pointer (some ⟨b, 2, none⟩)) := by rw [Lib.cell_of_heap hb2]; rfl
  have e3 : w2.cell? ⟨b, 3, none⟩ = some v := by rw [Lib.cell_of_heap hb2]; rfl
  have f3 : w2.frozen? ⟨b, 3, none⟩ = false := Lib.frozen_of_heap hb2 3
  obtain ⟨g, cap, rfl⟩ : ∃ g cap, v' = .slice (some ⟨g, 0, none⟩) (bs.length + 1) cap := by
    rcases hown'.2 with ⟨_, h0⟩ | ⟨g, cap, cur, hv, _⟩
    · omega
    · exact ⟨g, cap, hv⟩
  go_wp2
  go_ret
  refine ⟨rfl, Or.inr ?_, ?_⟩
  · rw [HE.out]
    exact RdrAt.put hB hb2 (bs' := bs ++ [.int .u8 c]) (by simpa using hown')
  · exact ((hb1.alloc (by have := hb1.size; omega) _).grown hgrow (by have := hb1.size; simp; omega) (fun k hk => (hown.lt k hk).1)).setCell (p := ⟨b, 3, none⟩) hB _

theorem strCells_nums {xs : List Int} : Lib.strCells (strOfNums xs) = Lib.byteCells (byE xs) := by
  simp [Lib.strCells, strOfNums, byE, Lib.byteCells]

set_option maxHeartbeats 2000000 in
set_option maxRecDepth 100000 in
theorem Rdr.str {B b k : Nat} {s : ByteArray} {es xs : List Int} {w : World} (h : Rdr B b s k es w) (hl : es.length + xs.length ≤ 140737488355328) (hBw : B ≤ w.heap.size) :
    Calls Tryd.prog 37 #[.pointer (some ⟨b, 2, none⟩), .string (strOfNums xs)] w fun e w' => e = .returned (.tuple #[.int .i64 xs.length, .nilIface]) ∧ Rdr B b s k (es ++ xs) w' ∧ Below B w w' := by
  obtain ⟨i0, hi, hz0, hz1, hz2⟩ := info_parts binf
  have hsz : (strOfNums xs).size = xs.length := strOfNums_size xs
  have hlen : (Lib.byteCells (byE es)).length + (strOfNums xs).size ≤ 140737488355328 := by rw [Lib.byteCells_length, byE_len, hsz]; exact hl
  have HE := hide (show Lib.byteCells (byE (es ++ xs)) = Lib.byteCells (byE es) ++ Lib.strCells (strOfNums xs) by rw [byE_app, Lib.byteCells_append, strCells_nums])
  have HC := hide (rchk h)
  rw [← hsz]
  clear h hl hsz
  obtain ⟨bs, hbs⟩ : ∃ bs, Lib.byteCells (byE es) = bs := ⟨_, rfl⟩
  obtain ⟨x, hx⟩ : ∃ x, strOfNums xs = x := ⟨_, rfl⟩
  rw [hbs] at hlen HC HE
  rw [hx] at hlen HE ⊢
  clear hbs hx
  go_enter Tryd.func37, Tryd.ntmps37
  go_wp2_with fail
  refine HC.out.mono ?_
  rintro e w1 ⟨rfl, h1, hb1⟩
  obtain ⟨hB, v, hbk, hown, hne⟩ := h1
  have d2 : w1.cell? ⟨b, 2, none⟩ = some (.pointer (some ⟨b, 2, none⟩)) := by rw [Lib.cell_of_heap hbk]; rfl
  have d3 : w1.cell? ⟨b, 3, none⟩ = some v := by rw [Lib.cell_of_heap hbk]; rfl
  go_wp2_with (at_builtin; refine Lib.wpList_append_own_string _ rfl _ _ 48 9 rfl B 5 i0 Tryd.underlying48 Tryd.underlying9 hi hz0 hz1 hz2 _ _ _ rfl hown x rfl ?c3 ?c4 ?c5 ?_)
  case c3 => unfold maxLen; omega
  case c4 => omega
  case c5 => have := hb1.size; omega
  intro v' w2 hown' hgrow _
  have hlt : b < w1.heap.size := (Array.getElem?_eq_some_iff.1 hbk).1
  have hb2 : w2.heap[b]? = some (.cells #[.string s, .int .i64 k, .pointer (some ⟨b, 2, none⟩), v] 55 (0, 0)) := by
    rw [hgrow.block b hlt (fun e => hne e.symm)]
    exact hbk
  have e2 : w2.cell? ⟨b, 2, none⟩ = some (.pointer (some ⟨b, 2, none⟩)) := by rw [Lib.cell_of_heap hb2]; rfl
  have e3 : w2.cell? ⟨b, 3, none⟩ = some v := by rw [Lib.cell_of_heap hb2]; rfl
  have f3 : w2.frozen? ⟨b, 3, none⟩ = false := Lib.frozen_of_heap hb2 3
  obtain ⟨ao, n', cap, rfl⟩ : ∃ ao n' cap, v' = .slice ao n' cap := by
    rcases hown'.2 with ⟨hv, _⟩ | ⟨g, cap, cur, hv, _⟩
    · exact ⟨_, _, _, hv⟩
    · exact ⟨_, _, _, hv⟩
  go_wp2
  go_ret2
  refine ⟨rfl, Or.inr ?_, ?_⟩
  · rw [HE.out]
    exact RdrAt.put hB hb2 (bs' := bs ++ Lib.strCells x) (by simpa [Lib.strCells_length] using hown')
  · exact (hb1.grown hgrow (by have := hb1.size; omega) (fun k hk => (hown.lt k hk).1)).setCell (p := ⟨b, 3, none⟩) hB _

end Go.Proofs.YtegokdhmpopggaaDoor
