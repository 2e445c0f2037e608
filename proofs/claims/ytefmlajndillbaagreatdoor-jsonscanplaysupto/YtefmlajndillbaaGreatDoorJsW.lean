/- layer 16: told, missing, whole, New, Write, Close, Len, Depth -/
import Derived.Test.YtefmlajndillbaaGreatDoorJsT
import Derived.Deep.LoopGhost
import Derived.LaidEqlPtr
namespace Go.Proofs.YtefmlajndillbaaGreatDoor
open Go.RowKit
set_option linter.unusedVariables false

/-- an error that is told: none, or its number and its place -/
def Tl (w : World) (a : Nat → Addr) (L n : Nat) (k : Int) (v : Value) : Prop :=
  (n = 0 ∧ v = .nilIface) ∨ ∃ m g, n = m + 1 ∧ m < 11 ∧ L ≤ g ∧ v = .iface 79 (.pointer (some ⟨g, 0, none⟩)) ∧ FltAt w g (.iface 128 (.pointer (some (a m)))) k ⟨#[]⟩
theorem Tl.below {w w' : World} {a : Nat → Addr} {L n : Nat} {k : Int} {v : Value} (h : Tl w a L n k v) (hb : Below w.heap.size w w') : Tl w' a L n k v := by
  rcases h with h | ⟨m, g, h1, h2, h3, h4, h5⟩
  · exact Or.inl h
  · exact Or.inr ⟨m, g, h1, h2, h3, h4, h5.below hb⟩
theorem jtold {w : World} {a : Nat → Addr} {n : Nat} {k : Int} (hS : Snt w a) (hn : n ≤ 11) :
    Calls Tryz.prog 33 #[erV a n, .int .i64 k] w fun e w' => ∃ v, e = .returned v ∧ Tl w' a w.heap.size n k v ∧ Below w.heap.size w w' := by
  cases n with
  | zero =>
    have C0 := hide (fcode_nil (w := w))
    have C1 := hide (fnew_none (c := 0) (k := k) (s := ⟨#[]⟩) hS (Or.inl (by omega)))
    simp only [erV, if_true]
    clear hS
    go_enter Tryz.func33, Tryz.ntmps33
    go_wp2_with fail
    refine C0.out.mono ?_
    rintro e w1 ⟨rfl, rfl⟩
    go_wp2_with fail
    refine C1.out.mono ?_
    rintro e w1 ⟨rfl, hb⟩
    replace hb := hide hb
    go_wp2
    go_ret
    exact ⟨_, rfl, Or.inl ⟨rfl, rfl⟩, hb.out⟩
  | succ m =>
    have hE := errIs_snt hS (m := m) (by omega)
    have C0 := hide (fcode_any hS hE)
    rw [leastB_dec (by omega)] at C0
    have HS := hide hS
    have e0 : erV a (m + 1) = .iface 128 (.pointer (some (a m))) := rfl
    rw [e0]
    clear hS hE e0
    go_enter Tryz.func33, Tryz.ntmps33
    go_wp2_with fail
    refine C0.out.mono ?_
    rintro e w1 ⟨rfl, hb1⟩
    have C1 := hide (fnew_some (m := m) (k := k) (s := ⟨#[]⟩) (HS.out.below hb1) (by omega))
    have HB := hide hb1
    clear hb1 C0
    go_wp2_with fail
    refine C1.out.mono ?_
    rintro e w2 ⟨g, hg, rfl, hf, hb2⟩
    have HB2 := hide (HB.out.trans (hb2.mono HB.out.size))
    have HF := hide hf
    have hsz := HB.out.size
    clear hb2 hf C1 HB
    go_wp2
    go_ret
    exact ⟨_, rfl, Or.inr ⟨m, g, rfl, by omega, by omega, rfl, HF.out⟩, HB2.out⟩
theorem jneq_same (w : World) (q : Addr) : (binOp .neq 23 (.pointer (some q)) (.pointer (some q))).run Tryz.prog w = .ok (.bool false) w := by
  have hs : (Tryz.prog.info? 50).isSome = true := by kernel_rfl
  obtain ⟨j, hj⟩ := Option.isSome_iff_exists.1 hs
  have h : ∀ d : Nat, (Op.equalIn (d + 1) 23 (.pointer (some q)) (.pointer (some q))).run Tryz.prog w = .ok true w := fun d => by
    simp [Op.equalIn, run_underlying Tryz.underlying23, sizeOf, typeInfo, hj, run_sameAddr_same]
  simp only [binOp]
  simp [Op.equal, Op.maxDepth, h 9999]
set_option maxRecDepth 100000 in
theorem jmissing {w : World} {a : Nat → Addr} {B p : Nat} {nx ov : Value} {sz : Int} {t : St} (h : ScS w a B p nx sz ov t) :
    Calls Tryz.prog 31 #[.pointer (some ⟨p, 0, none⟩)] w fun e w' => e = .returned (.bool false) ∧ w' = w := by
  have c0 := h.cell 0
  simp only [scC] at c0
  have q := jneq_same w ⟨p, 0, none⟩
  go_enter Tryz.func31, Tryz.ntmps31
  go_wp2
  go_ret
  exact ⟨rfl, rfl⟩
/-- is what was written a text? -/
def wholeB' (t : St) : Bool := t.ends && t.opn.isEmpty
theorem own_len {w : World} {B : Nat} {E : TypeId} {v : Value} {n : Nat} {xs : List Value} (h : w.ownsRow B E 1 v n xs) : ∃ s c, v = .slice s n c := by
  rcases h.2 with ⟨rfl, rfl⟩ | ⟨g, cap, cur, rfl, _⟩ <;> exact ⟨_, _, rfl⟩
set_option maxRecDepth 100000 in
theorem jwholeT {w : World} {a : Nat → Addr} {B p : Nat} {nx ov : Value} {sz : Int} {t : St} (h : ScS w a B p nx sz ov t) :
    Calls Tryz.prog 35 #[.pointer (some ⟨p, 0, none⟩)] w fun e w' => e = .returned (.bool (wholeB' t)) ∧ w' = w := by
  have c4 := h.cell 4
  have c3 := h.cell 3
  simp only [scC] at c4 c3
  obtain ⟨s0, c0, rfl⟩ := own_len h.own
  cases he : t.ends with
  | false =>
    rw [he] at c4
    have E : wholeB' t = false := by simp [wholeB', he]
    rw [E]
    go_enter Tryz.func35, Tryz.ntmps35
    go_wp2
    go_ret
    exact ⟨rfl, rfl⟩
  | true =>
    rw [he] at c4
    cases ho : t.opn with
    | nil =>
      rw [ho] at c3
      have E : wholeB' t = true := by simp [wholeB', he, ho]
      rw [E]
      go_enter Tryz.func35, Tryz.ntmps35
      go_wp2
      go_ret
      exact ⟨rfl, rfl⟩
    | cons c l =>
      rw [ho] at c3
      have E : wholeB' t = false := by simp [wholeB', he, ho]
      rw [E]
      have k : ¬ (((c :: l).length : Int) = 0) := by simp; omega
      generalize (c :: l).length = L at c3 k
      have k' : ((L : Int) == 0) = false := by simpa using k
      go_enter Tryz.func35, Tryz.ntmps35
      go_wp2
      go_ret
      exact ⟨rfl, rfl⟩
theorem jLen {w : World} {a : Nat → Addr} {B p : Nat} {nx ov : Value} {sz : Int} {t : St} (h : ScS w a B p nx sz ov t) :
    Calls Tryz.prog 17 #[.pointer (some ⟨p, 0, none⟩)] w fun e w' => e = .returned (.int .i64 sz) ∧ w' = w := by
  have C0 := hide (jmissing h)
  have c2 := h.cell 2
  simp only [scC] at c2
  go_enter Tryz.func17, Tryz.ntmps17
  go_wp2_with fail
  refine C0.out.mono ?_
  rintro e w1 ⟨rfl, rfl⟩
  go_wp2
  go_ret
  exact ⟨rfl, rfl⟩
theorem jDepth {w : World} {a : Nat → Addr} {B p : Nat} {nx ov : Value} {sz : Int} {t : St} (h : ScS w a B p nx sz ov t) :
    Calls Tryz.prog 19 #[.pointer (some ⟨p, 0, none⟩)] w fun e w' => e = .returned (.int .i64 (t.opn.length : Nat)) ∧ w' = w := by
  have C0 := hide (jmissing h)
  have c3 := h.cell 3
  simp only [scC] at c3
  obtain ⟨s0, c0, rfl⟩ := own_len h.own
  generalize t.opn.length = L at c3 ⊢
  go_enter Tryz.func19, Tryz.ntmps19
  go_wp2_with fail
  refine C0.out.mono ?_
  rintro e w1 ⟨rfl, rfl⟩
  go_wp2
  go_ret
  exact ⟨rfl, rfl⟩
theorem jNew {w : World} {a : Nat → Addr} : Calls Tryz.prog 6 #[] w fun e w' => e = .returned (.pointer (some ⟨w.heap.size, 0, none⟩)) ∧ ScP w' a w.heap.size w.heap.size (.slice none 0 0) sc0 ∧ Below w.heap.size w w' := by
  go_enter Tryz.func6, Tryz.ntmps6
  go_wp2
  go_ret
  refine ⟨rfl, ⟨⟨heap_alloc_new w _, World.ownsRow_nil _ _ _ _, Nat.le_refl _⟩, good0⟩, (Below.refl _ _).alloc (Nat.le_refl _) _⟩

end Go.Proofs.YtefmlajndillbaaGreatDoor
