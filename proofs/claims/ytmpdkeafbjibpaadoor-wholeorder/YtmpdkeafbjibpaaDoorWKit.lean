/- what the laws of layer 3 call besides -/
import Derived.Test.YtmpdkeafbjibpaaDoorWholeC
import Derived.Test.YtmpdkeafbjibpaaDoorSame
import Derived.Test.YtmpdkeafbjibpaaDoorBeyond
namespace Go.Proofs.YtmpdkeafbjibpaaDoor
open Go.RowKit

theorem below_trans' {a b c : World} (k : Below b.heap.size b c) (h : Below a.heap.size a b) : Below a.heap.size a c := below_trans h k
theorem after1 {w w2 : World} {x y : Value} {t : TypeId} (hb : Below (w.alloc (.cells #[x, y] t)).heap.size (w.alloc (.cells #[x, y] t)) w2) : Cell2 w2 w.heap.size x y ∧ True := ⟨(cell2_new w x y t).below hb, trivial⟩
theorem after2 {w w2 : World} {x y x' y' : Value} {t t' : TypeId} (hb : Below ((w.alloc (.cells #[x, y] t)).alloc (.cells #[x', y'] t')).heap.size ((w.alloc (.cells #[x, y] t)).alloc (.cells #[x', y'] t')) w2) : Cell2 w2 w.heap.size x y ∧ Cell2 w2 (w.heap.size + 1) x' y' := by
  refine ⟨((cell2_new w x y t).alloc _).below hb, ?_⟩
  have h := (cell2_new (w.alloc (.cells #[x, y] t)) x' y' t').below hb
  rw [show (w.alloc (.cells #[x, y] t)).heap.size = w.heap.size + 1 by simp] at h
  exact h

theorem after1_k {G : Prop} {w w2 : World} {x y : Value} {t : TypeId} (h : Cell2 w2 w.heap.size x y → Below (w.alloc (.cells #[x, y] t)).heap.size (w.alloc (.cells #[x, y] t)) w2 → G) : Below (w.alloc (.cells #[x, y] t)).heap.size (w.alloc (.cells #[x, y] t)) w2 → G := fun hb => h (after1 hb).1 hb
theorem after2_k {G : Prop} {w w2 : World} {x y x' y' : Value} {t t' : TypeId} (h : Cell2 w2 w.heap.size x y ∧ Cell2 w2 (w.heap.size + 1) x' y' → Below ((w.alloc (.cells #[x, y] t)).alloc (.cells #[x', y'] t')).heap.size ((w.alloc (.cells #[x, y] t)).alloc (.cells #[x', y'] t')) w2 → G) : Below ((w.alloc (.cells #[x, y] t)).alloc (.cells #[x', y'] t')).heap.size ((w.alloc (.cells #[x, y] t)).alloc (.cells #[x', y'] t')) w2 → G := fun hb => h (after2 hb) hb

theorem after1d_k {G : Prop} {w w2 : World} {x y : Value} {t : TypeId} (h : Cell2 w2 w.heap.size x y → Below (w.alloc (.cells #[x, y] t)).drew.heap.size (w.alloc (.cells #[x, y] t)).drew w2 → G) : Below (w.alloc (.cells #[x, y] t)).drew.heap.size (w.alloc (.cells #[x, y] t)).drew w2 → G :=
  fun hb => h (((cell2_new w x y t).below (Below.refl _ _).drew).below hb) hb
theorem after2d_k {G : Prop} {w w2 : World} {x y x' y' : Value} {t t' : TypeId} (h : Cell2 w2 w.heap.size x y ∧ Cell2 w2 (w.heap.size + 1) x' y' → Below ((w.alloc (.cells #[x, y] t)).alloc (.cells #[x', y'] t')).drew.heap.size ((w.alloc (.cells #[x, y] t)).alloc (.cells #[x', y'] t')).drew w2 → G) : Below ((w.alloc (.cells #[x, y] t)).alloc (.cells #[x', y'] t')).drew.heap.size ((w.alloc (.cells #[x, y] t)).alloc (.cells #[x', y'] t')).drew w2 → G :=
  fun hb => h (after2 (below_trans (Below.refl _ _).drew hb)) hb

/-- two new cells behind one another -/
theorem two_aa {w wn : World} (K : Below w.heap.size w wn) (x y x' y' : Value) (t t' : TypeId) :
    Cell2 ((wn.alloc (.cells #[x, y] t)).alloc (.cells #[x', y'] t')) wn.heap.size x y ∧ Cell2 ((wn.alloc (.cells #[x, y] t)).alloc (.cells #[x', y'] t')) (wn.heap.size + 1) x' y' ∧ Below w.heap.size w ((wn.alloc (.cells #[x, y] t)).alloc (.cells #[x', y'] t')) ∧
      ∀ {B : Nat} {v : Value} {n : Int} {k : Nat}, WNum B wn v n k → WNum 0 ((wn.alloc (.cells #[x, y] t)).alloc (.cells #[x', y'] t')) v n k := by
  have hb : Below wn.heap.size wn ((wn.alloc (.cells #[x, y] t)).alloc (.cells #[x', y'] t')) := below_trans (bel_alloc _ _) (bel_alloc _ _)
  have h := after2 (Below.refl _ ((wn.alloc (.cells #[x, y] t)).alloc (.cells #[x', y'] t')))
  exact ⟨h.1, h.2, below_trans K hb, fun q => (q.below hb).low (Nat.zero_le _)⟩
/-- one is written, one is new -/
theorem two_sa {w wn : World} {b : Nat} {u u' : Value} (K : Below w.heap.size w wn) (Z : Cell2 wn b u u') (hb : w.heap.size ≤ b) (x y x' y' : Value) (t : TypeId) :
    Cell2 (((wn.setCell ⟨b, 0, none⟩ x).setCell ⟨b, 1, none⟩ y).alloc (.cells #[x', y'] t)) b x y ∧ Cell2 (((wn.setCell ⟨b, 0, none⟩ x).setCell ⟨b, 1, none⟩ y).alloc (.cells #[x', y'] t)) wn.heap.size x' y' ∧ b ≠ wn.heap.size ∧ Below w.heap.size w (((wn.setCell ⟨b, 0, none⟩ x).setCell ⟨b, 1, none⟩ y).alloc (.cells #[x', y'] t)) ∧
      ∀ {B : Nat} {v : Value} {n : Int} {k : Nat}, WNum B wn v n k → b < B → WNum 0 (((wn.setCell ⟨b, 0, none⟩ x).setCell ⟨b, 1, none⟩ y).alloc (.cells #[x', y'] t)) v n k := by
  have hz : ((wn.setCell ⟨b, 0, none⟩ x).setCell ⟨b, 1, none⟩ y).heap.size = wn.heap.size := by simp [World.setCell]
  have hk := below_put2 K hb x y
  have hn := cell2_new ((wn.setCell ⟨b, 0, none⟩ x).setCell ⟨b, 1, none⟩ y) x' y' t
  rw [hz] at hn
  refine ⟨(Z.put x y).alloc _, hn, Nat.ne_of_lt Z.lt, below_trans hk (bel_alloc _ _), fun q hB => ?_⟩
  exact (((q.put hB 0 x).put hB 1 y).below (bel_alloc _ _)).low (Nat.zero_le _)
/-- both are written -/
theorem two_ss {w wn : World} {b c : Nat} {u u' z z' : Value} (K : Below w.heap.size w wn) (Z : Cell2 wn b u u') (Z' : Cell2 wn c z z') (hb : w.heap.size ≤ b) (hc : w.heap.size ≤ c) (hn : b ≠ c) (x y x' y' : Value) :
    Cell2 ((((wn.setCell ⟨b, 0, none⟩ x).setCell ⟨b, 1, none⟩ y).setCell ⟨c, 0, none⟩ x').setCell ⟨c, 1, none⟩ y') b x y ∧ Cell2 ((((wn.setCell ⟨b, 0, none⟩ x).setCell ⟨b, 1, none⟩ y).setCell ⟨c, 0, none⟩ x').setCell ⟨c, 1, none⟩ y') c x' y' ∧ Below w.heap.size w ((((wn.setCell ⟨b, 0, none⟩ x).setCell ⟨b, 1, none⟩ y).setCell ⟨c, 0, none⟩ x').setCell ⟨c, 1, none⟩ y') ∧
      ∀ {B : Nat} {v : Value} {n : Int} {k : Nat}, WNum B wn v n k → b < B → c < B → WNum 0 ((((wn.setCell ⟨b, 0, none⟩ x).setCell ⟨b, 1, none⟩ y).setCell ⟨c, 0, none⟩ x').setCell ⟨c, 1, none⟩ y') v n k :=
  ⟨(Z.put x y).away hn _ _, (Z'.away (fun e => hn e.symm) _ _).put _ _, below_put2 (below_put2 K hb x y) hc x' y', fun q h1 h2 => ((((q.put h1 0 x).put h1 1 y).put h2 0 x').put h2 1 y').low (Nat.zero_le _)⟩

theorem Num.putc {B : Nat} {w : World} {v : Value} {n : Int} {k b : Nat} {z : Bool} {u : Value} (h : Num B w v n k) (Z : Cell2 w b (.bool z) u) (x y : Value) : Num B ((w.setCell ⟨b, 0, none⟩ x).setCell ⟨b, 1, none⟩ y) v n k := by
  obtain ⟨zs, ⟨ao, h1, h2, h3⟩, h4⟩ := h
  refine ⟨zs, ⟨ao, h1, h2, fun hp => ?_⟩, h4⟩
  obtain ⟨g, rest, h5, h6, h7⟩ := h3 hp
  have hne : g ≠ b := by
    intro e
    subst e
    have hc := h7.cell (i := 0) (by rw [List.length_append]; omega)
    rw [Z.c0] at hc
    cases hc
  refine ⟨g, rest, h5, h6, ?_⟩
  unfold Row
  rw [Below.heap_setCell _ _ _ _ (by show g ≠ b; exact hne), Below.heap_setCell _ _ _ _ (by show g ≠ b; exact hne)]
  exact h7
theorem WNum.putc {B : Nat} {w : World} {v : Value} {n : Int} {k b : Nat} {z : Bool} {u : Value} (h : WNum B w v n k) (Z : Cell2 w b (.bool z) u) (x y : Value) : WNum B ((w.setCell ⟨b, 0, none⟩ x).setCell ⟨b, 1, none⟩ y) v n k := by
  obtain ⟨neg, m, a, rfl, h1, h2⟩ := h
  exact ⟨neg, m, a, rfl, h1.putc Z x y, h2⟩
theorem WNum.sign {B : Nat} {w : World} {ng : Bool} {m : Value} {n : Int} {k : Nat} (h : WNum B w (.agg #[.bool ng, m]) n k) : (ng = true → n < 0) ∧ (ng = false → 0 ≤ n) := by
  obtain ⟨neg, m', a, e, h1, rfl, h3⟩ := h
  simp at e
  obtain ⟨rfl, rfl⟩ := e
  have := h1.arg.nonneg
  unfold wn
  cases ng
  · exact ⟨fun h => (by cases h), fun _ => this⟩
  · exact ⟨fun _ => (by have h4 := h3 rfl; simp; exact h4), fun h => (by cases h)⟩

theorem wcmp_told {w : World} {v1 : Value} {n1 : Int} {k1 : Nat} {v2 : Value} {n2 : Int} {k2 : Nat} {c : Int} (hc : sgn n1 n2 = c) (h1 : WArg w v1 n1 k1) (h2 : WArg w v2 n2 k2) (j1 : k1 ≤ 1099511627776) (j2 : k2 ≤ 1099511627776) :
    Calls Tryd.prog 16 #[v1, v2] w fun e w' => e = .returned (.int .i64 c) ∧ Below w.heap.size w w' := by
  subst hc
  exact wcmp_any h1 h2 j1 j2

theorem wnum_zero (B : Nat) (w : World) (k : Nat) : WNum B w (.agg #[.bool false, .slice none 0 0]) 0 k :=
  ⟨false, _, 0, rfl, ⟨[], ⟨none, rfl, by unfold maxLen; simp, fun h => absurd h (by simp)⟩, Nt.canon_nil, rfl, Nat.zero_le _⟩, rfl, fun h => by cases h⟩

theorem wnum_eq {ng ng' : Bool} {a b n m : Int} (ha : n = wn ng a) (hb : m = wn ng' b) (pa : ng = true → 0 < a) (pb : ng' = true → 0 < b) (na : 0 ≤ a) (nb : 0 ≤ b) (he : n = m) : ng = ng' ∧ a = b := by
  subst ha
  subst hb
  unfold wn at he
  cases ng <;> cases ng' <;> simp at * <;> omega

set_option maxHeartbeats 1000000 in
theorem wsame_any {w : World} {va vb : Value} {n m : Int} {B B' k k' : Nat} (ha : WNum B w va n k) (hb : WNum B' w vb m k') (he : n = m) :
    Calls Tryd.prog 11 #[va, vb] w fun e w' => e = .returned (.bool true) ∧ Below w.heap.size w w' := by
  obtain ⟨ng, m1, a, rfl, h1, h2, h3⟩ := ha
  obtain ⟨ng', m2, b, rfl, k1, k2, k3⟩ := hb
  obtain ⟨rfl, rfl⟩ := wnum_eq h2 k2 h3 k3 h1.arg.nonneg k1.arg.nonneg he
  clear h2 k2 h3 k3 he
  have H1 := h1
  have K1 := k1
  obtain ⟨xs, ⟨ao, rfl, _, _⟩, _⟩ := h1
  obtain ⟨ys, ⟨bo, rfl, _, _⟩, _⟩ := k1
  have hB : Below w.heap.size w ((w.alloc (.cells #[.bool ng, .slice ao xs.length xs.length] 25)).alloc (.cells #[.bool ng, .slice bo ys.length ys.length] 25)) := below_trans (bel_alloc _ _) (bel_alloc _ _)
  have hc := same_num (H1.below hB) (K1.below hB) rfl
  have q : (ng == ng) = true := by simp
  clear H1 K1
  go_enter Tryd.func11, Tryd.ntmps11
  go_wp2_with fail
  with_reducible refine hc.mono ?_
  rintro e w3 ⟨rfl, hb3⟩
  go_wp2
  go_ret
  exact ⟨rfl, hB.trans (hb3.mono hB.size)⟩

set_option maxRecDepth 20000 in
set_option maxHeartbeats 1000000 in
theorem normal_any {w : World} {v : Value} {n : Int} {B k : Nat} (h : WNum B w v n k) :
    Calls Tryd.prog 10 #[v] w fun e w' => e = .returned (.bool true) ∧ Below w.heap.size w w' := by
  obtain ⟨ng, m1, a, rfl, h1, h2, h3⟩ := h
  have h1' := h1
  obtain ⟨zs, ⟨ao, rfl, hm, hr⟩, hc, hv, _⟩ := h1
  have hB : Below w.heap.size w (w.alloc (.cells #[.bool ng, .slice ao zs.length zs.length] 25)) := bel_alloc _ _
  unfold maxLen at hm
  by_cases hz : zs = []
  · subst hz
    have hng : ng = false := by
      cases ng
      · rfl
      · have h4 := h3 rfl
        rw [← hv] at h4
        exact absurd h4 (by decide)
    subst hng
    go_enter Tryd.func10, Tryd.ntmps10
    go_wp2
    go_ret
    exact ⟨rfl, hB⟩
  · have hp := List.length_pos_iff.2 hz
    have ht := hc.2 hz
    obtain ⟨g, rest, rfl, _, hrow⟩ := hr hp
    have hcell := (hrow.keeps hB).cell (i := zs.length - 1) (by rw [List.length_append]; omega)
    rw [lb_append_left (by omega)] at hcell
    obtain ⟨l, hl⟩ : ∃ l, l = zs.length - 1 := ⟨_, rfl⟩
    rw [← hl] at hcell ht
    obtain ⟨L, hL⟩ : ∃ L, L = zs.length := ⟨_, rfl⟩
    rw [← hL] at hcell hB ⊢
    have q1 : (L : Int) - 1 = (l : Int) := by omega
    have q2 : (l : Int) < (L : Int) := by omega
    have q3 : ((L : Int) == 0) = false := by simp; omega
    have q4 : (Nt.lb zs l != 0) = true := by simp [ht]
    have q5 : (L : Int) ≤ 9223372036854775807 := by omega
    have q6 : (0 : Int) < (L : Int) := by omega
    clear hl hr hrow hm hL hz hp ht h1' hc hv h2 h3
    go_enter Tryd.func10, Tryd.ntmps10
    go_wp2
    go_ret
    exact ⟨rfl, hB⟩

/-- a cell of a list of structs -/
theorem beyond_one {w : World} {ao : Option Addr} {l cap : Nat} (hl : l ≤ 70368744177664) :
    Calls Tryd.prog 21 #[.slice (some ⟨w.heap.size, 0, none⟩) 1 1] (w.alloc (.cells #[.slice ao l cap] 23)) fun e w' => e = .returned (.bool (decide (1048576 < 1 + l))) ∧ w' = w.alloc (.cells #[.slice ao l cap] 23) := by
  have h := beyond_any (w := w.alloc (.cells #[.slice ao l cap] 23)) (g := w.heap.size) (ls := [l]) (by simp) (fun i => by
    match i with
    | 0 => simpa using hl
    | i + 1 => simp) (fun i hi => by
    match i, hi with
    | 0, _ => exact ⟨ao, cap, by rw [World.cell?_alloc_at _ _ _ _ rfl]; rfl⟩)
  refine h.mono ?_
  rintro e w' ⟨rfl, rfl⟩
  refine ⟨?_, rfl⟩
  have e1 : decide (1048576 < tot [l]) = decide (1048576 < 1 + l) := decide_eq_decide.2 (by simp [tot])
  rw [e1]

set_option maxRecDepth 20000 in
set_option maxHeartbeats 2000000 in
theorem wbeyond_any {w : World} {g : Nat} {ls : List Nat} (hm : ls.length ≤ 1000) (hl : ∀ i, ls.getD i 0 ≤ 70368744177664) (hg : g < w.heap.size)
    (hc : ∀ i, i < ls.length → ∃ ao cap, w.cell? ⟨g, i * 2 + 1, none⟩ = some (.slice ao (ls.getD i 0) cap)) :
    Calls Tryd.prog 6 #[.slice (some ⟨g, 0, none⟩) ls.length ls.length] w fun e w' => e = .returned (.bool (decide (∃ i, i < ls.length ∧ 1048576 < 1 + ls.getD i 0))) ∧ Below w.heap.size w w' := by
  go_enter Tryd.func6, Tryd.ntmps6
  go_wp2
  go_loopw [3] (fun i wr => ∃ k : Nat, k ≤ ls.length ∧ i = .int .i64 k ∧ (∀ j, j < k → ¬ 1048576 < 1 + ls.getD j 0) ∧ Below w.heap.size w wr) (fun i _ => ls.length - (intOf i).toNat)
  case atStart => exact ⟨0, Nat.zero_le _, rfl, fun j hj => by omega, Below.refl _ _⟩
  case round =>
    obtain ⟨k, hk, rfl, hno, hbr⟩ := hrel
    have HN := hide hno
    clear hno
    by_cases hkl : k < ls.length
    · obtain ⟨ao, cap, hcell⟩ := hc k hkl
      have hlk := hl k
      have hcell' := (hbr.cell (p := ⟨g, k * 2 + 1, none⟩) hg).trans hcell
      clear hc hl hcell
      generalize hL : ls.getD k 0 = L at *
      have HL := hide hL
      clear hL
      go_wp2_with fail
      with_reducible refine (beyond_one hlk).mono ?_
      rintro e w2 ⟨rfl, rfl⟩
      have hb2 := below_trans hbr (bel_alloc wr (.cells #[.slice ao L cap] 23))
      by_cases hq : 1048576 < 1 + L
      · rw [decide_eq_true hq]
        go_wp2
        go_ret
        refine ⟨?_, hb2⟩
        rw [decide_eq_true]
        · rfl
        · exact ⟨k, hkl, by rw [HL.out]; exact hq⟩
      · rw [decide_eq_false hq]
        go_wp2
        go_roundw
        case rel => exact ⟨k + 1, by omega, by go_num, fun j hj => by
            by_cases e : j = k
            · subst e; rw [HL.out]; exact hq
            · exact HN.out j (by omega), hb2⟩
        case measure => simp [intOf]; omega
    · have hke : k = ls.length := by omega
      subst hke
      go_wp2
      go_ret
      refine ⟨?_, hbr⟩
      rw [decide_eq_false]
      · rfl
      · rintro ⟨i, hi, h2⟩
        exact HN.out i hi h2

end Go.Proofs.YtmpdkeafbjibpaaDoor
