/- a bag: what lies in memory; ahead; there, Len, New -/
import Derived.Test.YtomieeajmelglaaOSrch
namespace Go.Proofs.Ytomieeajmelglaa
open Go.RowKit Go.Shelf
set_option linter.unusedVariables false
set_option linter.unusedSimpArgs false

/-- an element and how many came ahead of it -/
abbrev Hi := It × Int
abbrev hiV (x : Hi) : Value := .agg #[.int .i64 x.1.1, .int .i64 x.1.2, .int .i64 x.2]
def ahF (f : It → It → Int) (x y : Hi) : Bool := decide (f x.1 y.1 < 0) || (f x.1 y.1 == 0 && decide (x.2 < y.2))
def flat3 (hs : List Hi) : List Value := hs.flatMap fun x => [.int .i64 x.1.1, .int .i64 x.1.2, .int .i64 x.2]
theorem flat3_cons (x : Hi) (hs : List Hi) : flat3 (x :: hs) = .int .i64 x.1.1 :: .int .i64 x.1.2 :: .int .i64 x.2 :: flat3 hs := rfl
theorem flat3_len (hs : List Hi) : (flat3 hs).length = hs.length * 3 := by
  induction hs with
  | nil => rfl
  | cons x hs ih => rw [flat3_cons, List.length_cons, List.length_cons, List.length_cons, ih, List.length_cons]; omega
theorem flat3_append (a b : List Hi) : flat3 (a ++ b) = flat3 a ++ flat3 b := by simp [flat3]
theorem flat3_get (hs : List Hi) (i : Nat) (h : i < hs.length) : (flat3 hs)[i * 3]? = some (.int .i64 hs[i].1.1) ∧ (flat3 hs)[i * 3 + 1]? = some (.int .i64 hs[i].1.2) ∧ (flat3 hs)[i * 3 + 2]? = some (.int .i64 hs[i].2) := by
  induction hs generalizing i with
  | nil => simp at h
  | cons x hs ih =>
    rw [flat3_cons]
    cases i with
    | zero => simp
    | succ i =>
      have := ih i (by simpa using h)
      rw [show (i + 1) * 3 = i * 3 + 1 + 1 + 1 by omega]
      simpa using this
theorem flat3_set (hs : List Hi) (i : Nat) (h : i < hs.length) (x : Hi) : (((flat3 hs).set (i * 3) (.int .i64 x.1.1)).set (i * 3 + 1) (.int .i64 x.1.2)).set (i * 3 + 2) (.int .i64 x.2) = flat3 (hs.set i x) := by
  induction hs generalizing i with
  | nil => simp at h
  | cons y hs ih =>
    cases i with
    | zero => simp [flat3_cons]
    | succ i =>
      rw [flat3_cons, List.set_cons_succ, flat3_cons, ← ih i (by simpa using h), show (i + 1) * 3 = i * 3 + 1 + 1 + 1 by omega]
      simp
theorem flat3_take (hs : List Hi) (k : Nat) : flat3 (hs.take k) = (flat3 hs).take (k * 3) := by
  induction hs generalizing k with
  | nil => simp [flat3]
  | cons x hs ih =>
    cases k with
    | zero => simp [flat3]
    | succ k => rw [List.take_succ_cons, flat3_cons, ih, flat3_cons, show (k + 1) * 3 = k * 3 + 1 + 1 + 1 by omega]; simp
/-- the items of a bag lie in a row of their own -/
def HpRow (base : Nat) (w : World) (hv : Value) (hs : List Hi) : Prop := w.ownsRow base 69 3 hv hs.length (flat3 hs)
theorem HpRow.form {base : Nat} {w : World} {hv : Value} {hs : List Hi} (h : HpRow base w hv hs) : ∃ ao cap, hv = .slice ao hs.length cap ∧ hs.length ≤ cap ∧ cap ≤ maxLen ∧ (0 < hs.length → ∃ g, ao = some ⟨g, 0, none⟩ ∧ base ≤ g ∧ g < w.heap.size) := by
  rcases h.2 with ⟨e, h0⟩ | ⟨g, cap, cur, e, hb, hg, h1, h2, _⟩
  · exact ⟨none, 0, by rw [e, h0], by omega, by unfold maxLen; omega, fun h => by omega⟩
  · exact ⟨_, cap, e, h1, h2, fun _ => ⟨g, rfl, hb, (Array.getElem?_eq_some_iff.1 hg).1⟩⟩
theorem HpRow.cell {base : Nat} {w : World} {g cap n : Nat} {hs : List Hi} (hn : hs.length = n) (h : HpRow base w (.slice (some ⟨g, 0, none⟩) n cap) hs) {i : Nat} (hi : i < n) : w.cell? ⟨g, i * 3, none⟩ = some (.int .i64 hs[i].1.1) ∧ w.cell? ⟨g, i * 3 + 1, none⟩ = some (.int .i64 hs[i].1.2) ∧ w.cell? ⟨g, i * 3 + 2, none⟩ = some (.int .i64 hs[i].2) := by
  subst hn
  obtain ⟨q0, q1, q2⟩ := flat3_get hs i hi
  exact ⟨(World.ownsRow.cellAt h _ (by omega)).trans q0, (World.ownsRow.cellAt h _ (by omega)).trans q1, (World.ownsRow.cellAt h _ (by omega)).trans q2⟩
theorem HpRow.set {base : Nat} {w : World} {g cap n : Nat} {hs : List Hi} (hn : hs.length = n) (h : HpRow base w (.slice (some ⟨g, 0, none⟩) n cap) hs) {i : Nat} (hi : i < n) (x : Hi) :
    HpRow base (((w.setCell ⟨g, i * 3, none⟩ (.int .i64 x.1.1)).setCell ⟨g, i * 3 + 1, none⟩ (.int .i64 x.1.2)).setCell ⟨g, i * 3 + 2, none⟩ (.int .i64 x.2)) (.slice (some ⟨g, 0, none⟩) n cap) (hs.set i x) := by
  subst hn
  unfold HpRow
  rw [← flat3_set hs i hi x, List.length_set]
  exact (World.ownsRow.stored (World.ownsRow.stored (World.ownsRow.stored h _ _).1 _ _).1 _ _).1
/-- the bag itself -/
def BagAt (w : World) (B : Nat) (cv : Value) (came : Int) (hv : Value) : Prop := w.heap[B]? = some (.cells #[cv, .int .i64 came, hv] 67 (0, 0))
theorem BagAt.lt {w : World} {B : Nat} {cv : Value} {came : Int} {hv : Value} (h : BagAt w B cv came hv) : B < w.heap.size := (Array.getElem?_eq_some_iff.1 h).1
theorem BagAt.cells {w : World} {B : Nat} {cv : Value} {came : Int} {hv : Value} (h : BagAt w B cv came hv) : w.cell? ⟨B, 0, none⟩ = some cv ∧ w.cell? ⟨B, 1, none⟩ = some (.int .i64 came) ∧ w.cell? ⟨B, 2, none⟩ = some hv :=
  ⟨cell_of_row w B 0 _ _ _ h, cell_of_row w B 1 _ _ _ h, cell_of_row w B 2 _ _ _ h⟩
theorem BagAt.frozen {w : World} {B : Nat} {cv : Value} {came : Int} {hv : Value} (h : BagAt w B cv came hv) (i : Nat) : w.frozen? ⟨B, i, none⟩ = false := frozen_of_row w B i _ _ h
theorem BagAt.keep {w w' : World} {B : Nat} {cv : Value} {came : Int} {hv : Value} (h : BagAt w B cv came hv) (e : w'.heap[B]? = w.heap[B]?) : BagAt w' B cv came hv := e.trans h

set_option maxRecDepth 100000 in
set_option maxHeartbeats 8000000 in
theorem ahead_any {w : World} {B : Nat} {cv : Value} {f : It → It → Int} {I : World → Prop} (hb : w.cell? ⟨B, 0, none⟩ = some cv) (hB : B < w.heap.size) (hc : CmpIs I cv f) (hI : ∀ W, Below w.heap.size w W → I W) (x y : Hi) :
    Calls Try.prog 56 #[.pointer (some ⟨B, 0, none⟩), hiV x, hiV y] w fun e w' => e = .returned (.bool (ahF f x y)) ∧ Below w.heap.size w w' := by
  obtain ⟨cg, cl, rfl, eg, hcall⟩ := hc.val
  obtain ⟨⟨x1, x2⟩, x3⟩ := x
  obtain ⟨⟨y1, y2⟩, y3⟩ := y
  obtain ⟨W2, hW2⟩ : ∃ u, (w.alloc (.cells #[.int .i64 x1, .int .i64 x2, .int .i64 x3] 69)).alloc (.cells #[.int .i64 y1, .int .i64 y2, .int .i64 y3] 69) = u := ⟨_, rfl⟩
  have K2 : Hid (Below w.heap.size w W2) := by rw [← hW2]; exact hide (((Below.refl _ w).alloc (Nat.le_refl _) _).alloc (by simp) _)
  have r1 : W2.heap[w.heap.size]? = some (.cells #[.int .i64 x1, .int .i64 x2, .int .i64 x3] 69 (0, 0)) := by rw [← hW2]; exact (Below.heap_alloc _ _ _ (by simp)).trans (heap_alloc_new w _)
  have r2 : W2.heap[w.heap.size + 1]? = some (.cells #[.int .i64 y1, .int .i64 y2, .int .i64 y3] 69 (0, 0)) := by
    rw [← hW2]
    have := heap_alloc_new (w.alloc (.cells #[.int .i64 x1, .int .i64 x2, .int .i64 x3] 69)) (.cells #[.int .i64 y1, .int .i64 y2, .int .i64 y3] 69)
    rw [World.size_alloc] at this
    exact this
  have CF : Hid (∀ U, Below W2.heap.size W2 U → U.cell? ⟨B, 0, none⟩ = some (.func (.func cg) #[] cl) ∧ U.cell? ⟨w.heap.size, 0, none⟩ = some (.int .i64 x1) ∧ U.cell? ⟨w.heap.size, 1, none⟩ = some (.int .i64 x2) ∧ U.cell? ⟨w.heap.size, 2, none⟩ = some (.int .i64 x3) ∧ U.cell? ⟨w.heap.size + 1, 0, none⟩ = some (.int .i64 y1) ∧ U.cell? ⟨w.heap.size + 1, 1, none⟩ = some (.int .i64 y2) ∧ U.cell? ⟨w.heap.size + 1, 2, none⟩ = some (.int .i64 y3)) := hide (fun U k => by
    have k2 : Below w.heap.size w U := K2.out.trans (k.mono K2.out.size)
    have q1 := (k.block _ (Array.getElem?_eq_some_iff.1 r1).1).trans r1
    have q2 := (k.block _ (Array.getElem?_eq_some_iff.1 r2).1).trans r2
    exact ⟨(k2.cell (p := ⟨B, 0, none⟩) hB).trans hb, cell_of_row U _ 0 _ _ _ q1, cell_of_row U _ 1 _ _ _ q1, cell_of_row U _ 2 _ _ _ q1, cell_of_row U _ 0 _ _ _ q2, cell_of_row U _ 1 _ _ _ q2, cell_of_row U _ 2 _ _ _ q2⟩)
  have HC := hide (fun (U : World) (k : Below W2.heap.size W2 U) => hcall U (x1, x2) (y1, y2) (hI U (K2.out.trans (k.mono K2.out.size))))
  have K : Below W2.heap.size W2 W2.drew := (Below.refl _ _).drew
  obtain ⟨fv, hfv⟩ : ∃ z, f (x1, x2) (y1, y2) = z := ⟨_, rfl⟩
  have HA : Hid (ahF f ((x1, x2), x3) ((y1, y2), y3) = (decide (fv < 0) || (fv == 0 && decide (x3 < y3)))) := hide (by rw [ahF, hfv])
  have HFV := hide hfv
  clear hfv hcall hI hb r1 r2
  by_cases h0 : fv < 0
  · have HR : Hid ((decide (fv < 0) || (fv == 0 && decide (x3 < y3))) = true) := hide (by simp [h0])
    have d0 : decide (fv < 0) = true := by simpa using h0
    go_enter Try.func56, Try.ntmps56
    go_wp2
    first | go_region_held3 (fun u => u.cell? ⟨B, 0, none⟩ = some (.func (.func cg) #[] cl) ∧ u.cell? ⟨w.heap.size, 0, none⟩ = some (.int .i64 x1) ∧ u.cell? ⟨w.heap.size, 1, none⟩ = some (.int .i64 x2) ∧ u.cell? ⟨w.heap.size, 2, none⟩ = some (.int .i64 x3) ∧ u.cell? ⟨w.heap.size + 1, 0, none⟩ = some (.int .i64 y1) ∧ u.cell? ⟨w.heap.size + 1, 1, none⟩ = some (.int .i64 y2) ∧ u.cell? ⟨w.heap.size + 1, 2, none⟩ = some (.int .i64 y3))
      (first | with_reducible exact CF.out _ K | go_keep)
      (first | (go_at_fn cg; (with_reducible refine (HC.out _ K).mono ?_); rintro e w8 ⟨rfl, hb⟩; rw [HFV.out]; replace K := K.trans (hb.mono K.size); clear hb)) | fail "region"
    obtain ⟨f0, f1, f2, f3, f4, f5, f6⟩ := CF.out _ K
    go_wp2
    go_ret
    exact ⟨by rw [HA.out, HR.out]; rfl, K2.out.trans (K.mono K2.out.size)⟩
  · have d0 : decide (fv < 0) = false := by simpa using h0
    by_cases h1 : fv = 0
    · have d1 : (fv == 0) = true := by simpa using h1
      obtain ⟨lt, hlt⟩ : ∃ b, decide (x3 < y3) = b := ⟨_, rfl⟩
      have HR : Hid ((decide (fv < 0) || (fv == 0 && decide (x3 < y3))) = lt) := hide (by rw [d0, d1, hlt]; simp)
      subst h1
      go_enter Try.func56, Try.ntmps56
      go_wp2
      first | go_region_held3 (fun u => u.cell? ⟨B, 0, none⟩ = some (.func (.func cg) #[] cl) ∧ u.cell? ⟨w.heap.size, 0, none⟩ = some (.int .i64 x1) ∧ u.cell? ⟨w.heap.size, 1, none⟩ = some (.int .i64 x2) ∧ u.cell? ⟨w.heap.size, 2, none⟩ = some (.int .i64 x3) ∧ u.cell? ⟨w.heap.size + 1, 0, none⟩ = some (.int .i64 y1) ∧ u.cell? ⟨w.heap.size + 1, 1, none⟩ = some (.int .i64 y2) ∧ u.cell? ⟨w.heap.size + 1, 2, none⟩ = some (.int .i64 y3))
        (first | with_reducible exact CF.out _ K | go_keep)
        (first | (go_at_fn cg; (with_reducible refine (HC.out _ K).mono ?_); rintro e w8 ⟨rfl, hb⟩; rw [HFV.out]; replace K := K.trans (hb.mono K.size); clear hb)) | fail "region"
      obtain ⟨f0, f1, f2, f3, f4, f5, f6⟩ := CF.out _ K
      go_wp2
      go_ret
      exact ⟨by rw [HA.out, HR.out]; rfl, K2.out.trans (K.mono K2.out.size)⟩
    · have d1 : (fv == 0) = false := by simpa using h1
      have HR : Hid ((decide (fv < 0) || (fv == 0 && decide (x3 < y3))) = false) := hide (by rw [d0, d1]; simp)
      go_enter Try.func56, Try.ntmps56
      go_wp2
      first | go_region_held3 (fun u => u.cell? ⟨B, 0, none⟩ = some (.func (.func cg) #[] cl) ∧ u.cell? ⟨w.heap.size, 0, none⟩ = some (.int .i64 x1) ∧ u.cell? ⟨w.heap.size, 1, none⟩ = some (.int .i64 x2) ∧ u.cell? ⟨w.heap.size, 2, none⟩ = some (.int .i64 x3) ∧ u.cell? ⟨w.heap.size + 1, 0, none⟩ = some (.int .i64 y1) ∧ u.cell? ⟨w.heap.size + 1, 1, none⟩ = some (.int .i64 y2) ∧ u.cell? ⟨w.heap.size + 1, 2, none⟩ = some (.int .i64 y3))
        (first | with_reducible exact CF.out _ K | go_keep)
        (first | (go_at_fn cg; (with_reducible refine (HC.out _ K).mono ?_); rintro e w8 ⟨rfl, hb⟩; rw [HFV.out]; replace K := K.trans (hb.mono K.size); clear hb)) | fail "region"
      obtain ⟨f0, f1, f2, f3, f4, f5, f6⟩ := CF.out _ K
      go_wp2
      go_ret
      exact ⟨by rw [HA.out, HR.out]; rfl, K2.out.trans (K.mono K2.out.size)⟩

end Go.Proofs.Ytomieeajmelglaa
