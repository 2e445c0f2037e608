/- a list of built errors; fault.First -/
import Derived.Test.YtbkgphglojjllaaDoorFBuild
import Derived.Test.YtbkgphglojjllaaDoorFNilT
namespace Go.Proofs.YtbkgphglojjllaaDoor
open Go.RowKit
set_option linter.unusedVariables false

/-- append of one error to a list of one's own -/
theorem wpList_append_err {w : World} {ops : Array Oper} {rest : List Oper} {o : Oper} {a : Act} {Q : Exit → Act → World → Prop} (hgd : o.guard = none) (s x : Operand)
    (ho : o.op = .call { callee := .builtin .append, args := #[s, x], argTypes := #[47, 47] })
    (base : Nat) (v : Value) (n : Nat) (xs : List Value) (hs : a.eval s = v) (hown : w.ownsRow base 27 1 v n xs)
    (nb c : Nat) (u : Value) (hx : a.eval x = .slice (some ⟨nb, 0, none⟩) 1 c) (hc : w.cell? ⟨nb, 0, none⟩ = some u) (h1 : u.oneCell' = true) (hn : n ≤ 10000) (hbase : base ≤ w.heap.size)
    (h : ∀ g cap w', w'.ownsRow base 27 1 (.slice (some ⟨g, 0, none⟩) (n + 1) cap) (n + 1) (xs ++ [u]) → w.grownBy w' v.ownBlock → (v.ownBlock = some g ∨ g = w.heap.size) → wpList Tryd.prog ops Q rest (a.put o.dst (.slice (some ⟨g, 0, none⟩) (n + 1) cap)) w') : wpList Tryd.prog ops Q (o :: rest) a w :=
  wpList_step fun K hK => step_append_err hgd s x ho base v n xs hs hown nb c u hx hc h1 hn hbase (fun g cap w' h1 h2 h3 _ => hK _ _ (h g cap w' h1 h2 h3))
/-- what stands between the rounds that build a list -/
structure LI (W wr : World) (a : Nat → Addr) (ks : List Nd) (i : Nat) (bs : List Value) (cv : Value) : Prop where
  bel : Below W.heap.size W wr
  own : wr.ownsRow W.heap.size 27 1 cv i bs
  bt : ∃ G : Nat → Prop, (∀ j (h : j < ks.length), j < i → BtG wr a G (bs.getD j .nilIface) ks[j]) ∧ (∀ g, G g → W.heap.size ≤ g ∧ g < wr.heap.size) ∧ ∀ k, cv.ownBlock = some k → ¬ G k
theorem LI.start (W : World) (a : Nat → Addr) (ks : List Nd) : LI W W a ks 0 [] (.slice none 0 0) :=
  ⟨Below.refl _ _, World.ownsRow_nil _ _ _ _, fun _ => False, fun j _ h => absurd h (by omega), fun g h => h.elim, fun k h => by cases h⟩
theorem LI.step {W wr w2 w4 : World} {a : Nat → Addr} {ks : List Nd} {i : Nat} {bs : List Value} {cv b : Value} {g cap : Nat} (h : LI W wr a ks i bs cv) (hi : i < ks.length) (hb2 : Below wr.heap.size wr w2) (hbt : BtG w2 a (fun g => wr.heap.size ≤ g) b ks[i])
    (ho : w4.ownsRow W.heap.size 27 1 (.slice (some ⟨g, 0, none⟩) (i + 1) cap) (i + 1) (bs ++ [b])) (hg : (w2.alloc (.cells #[b] 27)).grownBy w4 cv.ownBlock) (hgg : cv.ownBlock = some g ∨ g = (w2.alloc (.cells #[b] 27)).heap.size) :
    LI W w4 a ks (i + 1) (bs ++ [b]) (.slice (some ⟨g, 0, none⟩) (i + 1) cap) := by
  obtain ⟨G, h1, h2, h3⟩ := h.bt
  have hrow : ∀ k, cv.ownBlock = some k → W.heap.size ≤ k ∧ k < wr.heap.size := fun k hk => h.own.lt k hk
  have hs1 := h.bel.size
  have hs2 := hb2.size
  have hs3 : (w2.alloc (.cells #[b] 27)).heap.size = w2.heap.size + 1 := by simp
  have hs4 := hg.size
  have hblk : ∀ k, k < w2.heap.size → some k ≠ cv.ownBlock → w4.heap[k]? = w2.heap[k]? := fun k hk hne => (hg.block k (by omega) hne).trans ((bel_alloc13 w2 _).block k hk)
  have hlen : bs.length = i := by have := h.own.1; omega
  have ha := bel_alloc13 w2 (.cells #[b] 27)
  refine ⟨⟨?_, ?_, ?_, ?_, fun k hk => ?_⟩, ho, fun k => G k ∨ (wr.heap.size ≤ k ∧ k < w2.heap.size), ?_, ?_, ?_⟩
  · rw [hg.os, ha.os, hb2.os, h.bel.os]
  · rw [hg.tape, ha.tape, hb2.tape, h.bel.tape]
  · rw [hg.output, ha.output, hb2.output, h.bel.output]
  · omega
  · rw [hblk k (by omega) (fun e => by have := hrow k e.symm; omega), hb2.block k (by omega), h.bel.block k hk]
  · intro j hj hji
    rcases Nat.lt_or_ge j i with hlt | hge
    · have e : (bs ++ [b]).getD j .nilIface = bs.getD j .nilIface := by simp [List.getD, List.getElem?_append_left (by omega : j < bs.length)]
      rw [e]
      refine (h1 j hj hlt).keep (by omega) (fun k hk hkl => ?_) (fun k hk _ => Or.inl hk)
      rw [hblk k (by omega) (fun e => h3 k e.symm hk), hb2.block k hkl]
    · obtain rfl : j = i := by omega
      have e : (bs ++ [b]).getD j .nilIface = b := by rw [← hlen]; simp [List.getD]
      rw [e]
      refine hbt.keep (by omega) (fun k hk hkl => ?_) (fun k hk hkl => Or.inr ⟨hk, hkl⟩)
      rw [hblk k hkl (fun e => by have := hrow k e.symm; omega)]
  · intro k hk
    rcases hk with hk | hk
    · have := h2 k hk; omega
    · omega
  · intro k hk
    have hkg : k = g := by cases hk; rfl
    subst hkg
    intro hG
    rcases hgg with e | e
    · rcases hG with hG | hG
      · exact h3 _ e hG
      · have := hrow _ e; omega
    · rcases hG with hG | hG
      · have := h2 _ hG; omega
      · omega
/-- a list of the errors that these nodes say -/
def ErL (w : World) (a : Nat → Addr) (v : Value) (ks : List Nd) (bs : Nat → Value) : Prop :=
  ∃ ao cap, v = .slice ao ks.length cap ∧ ks.length ≤ 10000 ∧ (0 < ks.length → ∃ b, ao = some ⟨b, 0, none⟩ ∧ b < w.heap.size ∧ ∀ i, i < ks.length → w.cell? ⟨b, i, none⟩ = some (bs i)) ∧ ∀ i (h : i < ks.length), Bt w a (bs i) ks[i]
theorem ErL.far {w w' : World} {a : Nat → Addr} {v : Value} {ks : List Nd} {bs : Nat → Value} (h : ErL w a v ks bs) (hb : Below w.heap.size w w') : ErL w' a v ks bs := by
  obtain ⟨ao, cap, h1, h2, h3, h4⟩ := h
  refine ⟨ao, cap, h1, h2, fun hp => ?_, fun i hi => (h4 i hi).far hb⟩
  obtain ⟨b, e1, e2, e3⟩ := h3 hp
  exact ⟨b, e1, Nat.lt_of_lt_of_le e2 hb.size, fun i hi => (hb.cell (p := ⟨b, i, none⟩) e2).trans (e3 i hi)⟩
theorem LI.done {W wr : World} {a : Nat → Addr} {ks : List Nd} {bs : List Value} {cv : Value} (h : LI W wr a ks ks.length bs cv) (hl : ks.length ≤ 10000) : ErL wr a cv ks (fun i => bs.getD i .nilIface) := by
  obtain ⟨G, h1, h2, h3⟩ := h.bt
  rcases h.own.2 with ⟨e, h0⟩ | ⟨g, cap, cur, e, hg, hb, _⟩
  · exact ⟨none, 0, by rw [e, h0], hl, fun hp => by omega, fun i hi => (h1 i hi hi).bt⟩
  · refine ⟨some ⟨g, 0, none⟩, cap, e, hl, fun _ => ⟨g, rfl, (Array.getElem?_eq_some_iff.1 hb).1, fun i hi => ?_⟩, fun i hi => (h1 i hi hi).bt⟩
    have ho := h.own
    rw [e] at ho
    rw [ho.cellAt i (by omega)]
    have hlen : bs.length = ks.length := by have := ho.1; omega
    simp [List.getD, hlen, hi]
/-- the first that is not nil -/
def FstN (ks : List Nd) (k : Nat) : Prop := k ≤ ks.length ∧ (∀ j (h : j < ks.length), j < k → ndNil ks[j] = true) ∧ ∀ h : k < ks.length, ndNil ks[k] = false
theorem FstN.one {ks : List Nd} {k m : Nat} (h : FstN ks k) (g : FstN ks m) : k = m := by
  rcases Nat.lt_trichotomy k m with e | e | e
  · have h1 := h.2.2 (by have := g.1; omega)
    have h2 := g.2.1 k (by have := g.1; omega) e
    rw [h2] at h1; cases h1
  · exact e
  · have h1 := g.2.2 (by have := h.1; omega)
    have h2 := h.2.1 m (by have := h.1; omega) e
    rw [h2] at h1; cases h1
/-- what First answers -/
def FirP (ks : List Nd) (bs : Nat → Value) (e : Ending) : Prop := ∃ k, FstN ks k ∧ e = .returned (if k < ks.length then bs k else .nilIface)
set_option maxHeartbeats 4000000 in
set_option maxRecDepth 100000 in
theorem First_any {w : World} {a : Nat → Addr} {v : Value} {ks : List Nd} {bs : Nat → Value} (h : ErL w a v ks bs) :
    Calls Tryd.prog 22 #[v] w fun e w' => FirP ks bs e ∧ w' = w := by
  obtain ⟨ao, cap, rfl, hl, hx, hb⟩ := h
  have HX := hide hx
  have HB := hide hb
  clear hx hb
  go_enter Tryd.func22, Tryd.ntmps22
  go_wp2
  go_loopw [4, 7] (fun e4 q wr => ∃ i : Nat, q = .int .i64 i ∧ i ≤ ks.length ∧ (∀ j (h : j < ks.length), j < i → ndNil ks[j] = true) ∧ wr = w) (fun _ q _ => ks.length - (intOf q).toNat)
  case atStart => exact ⟨0, rfl, by omega, fun j _ h => absurd h (by omega), rfl⟩
  case round =>
    obtain ⟨i, rfl, hi, hall, rfl⟩ := hrel
    by_cases hil : i < ks.length
    · have q1 : (i : Int) < (ks.length : Int) := by omega
      have q0 : (0 : Int) ≤ (i : Int) := by omega
      have w2' : IntKind.i64.wrap ((i : Int) + 1) = (i : Int) + 1 := by rw [IntKind.wrap_i64]; omega
      obtain ⟨b, rfl, hbl, hcell⟩ := HX.out (by omega)
      have cj := hcell i hil
      have HALL := hide hall
      rcases (HB.out i hil).iface with ⟨hv, hn⟩ | ⟨u, p, hv, hn⟩
      · rw [hv] at cj
        have HN := hide (show ∀ j (h : j < ks.length), j < i + 1 → ndNil ks[j] = true from fun j h hj => by
          rcases Nat.lt_or_ge j i with e | e
          · exact HALL.out j h e
          · obtain rfl : j = i := by omega
            exact hn)
        clear hn hv hall hcell hbl
        go_wp2
        go_roundw
        case rel => exact ⟨i + 1, by simp, by omega, HN.out, trivial⟩
        case measure => simp [intOf]; omega
      · rw [hv] at cj
        have HR := hide (show FirP ks bs (.returned (.iface u p)) from ⟨i, ⟨hi, HALL.out, fun _ => hn⟩, by rw [if_pos hil, hv]⟩)
        clear hn hv hall hcell hbl
        go_wp2
        go_ret
        exact ⟨HR.out, rfl⟩
    · have q1 : ¬ ((i : Int) < (ks.length : Int)) := by omega
      obtain rfl : i = ks.length := by omega
      have HR := hide (show FirP ks bs (.returned .nilIface) from ⟨ks.length, ⟨Nat.le_refl _, hall, fun h => absurd h (by omega)⟩, by rw [if_neg (by omega)]⟩)
      clear hall
      go_wp2
      go_ret
      exact ⟨HR.out, rfl⟩

end Go.Proofs.YtbkgphglojjllaaDoor
