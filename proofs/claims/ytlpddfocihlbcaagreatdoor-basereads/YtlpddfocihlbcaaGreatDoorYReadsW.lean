/- BaseReads -/
import Derived.Test.YtlpddfocihlbcaaGreatDoorYMem
import Derived.Test.YtlpddfocihlbcaaGreatDoorYRead
import Derived.Test.YtlpddfocihlbcaaGreatDoorYRefB
namespace Go.Proofs.YtlpddfocihlbcaaGreatDoor
open Go.RowKit
set_option linter.unusedVariables false

/-- whether there are bytes, and which -/
def YIs (T : List Int → Prop) (ok : Bool) (zs : List Int) : Prop := ok = true ∧ T zs ∨ ok = false ∧ zs = [] ∧ ∀ xs, ¬ T xs
theorem yis (T : List Int → Prop) : ∃ ok zs, YIs T ok zs := by
  by_cases h : ∃ xs, T xs
  · obtain ⟨xs, h⟩ := h
    exact ⟨true, xs, .inl ⟨rfl, h⟩⟩
  · exact ⟨false, [], .inr ⟨rfl, rfl, fun xs k => h ⟨xs, k⟩⟩⟩
theorem BAns.is {T : List Int → Prop} (uq : ∀ a b, T a → T b → a = b) {w w' : World} {e : Ending} {ok : Bool} {zs : List Int} (h : BAns T w w' e) (hi : YIs T ok zs) : (∃ u, e = .returned (.tuple #[u, .bool ok]) ∧ Reads .u8 w' u zs) ∧ Below w.heap.size w w' := by
  obtain ⟨h1 | h1, h2⟩ := h
  · obtain ⟨v, xs, a, b, c⟩ := h1
    rcases hi with ⟨rfl, hz⟩ | ⟨_, _, hz⟩
    · rw [uq xs zs a hz] at c
      exact ⟨⟨v, b, breads_of_own rfl c⟩, h2⟩
    · exact absurd a (hz xs)
  · rcases hi with ⟨rfl, hz⟩ | ⟨rfl, rfl, hz⟩
    · exact absurd hz (h1.1 zs)
    · exact ⟨⟨_, h1.2, ⟨none, 0, rfl, Nat.le_refl _, by unfold maxLen; omega, fun h => absurd h (by simp)⟩⟩, h2⟩
theorem YAns.is {T : List Int → Prop} (uq : ∀ a b, T a → T b → a = b) {w w' : World} {e : Ending} {ok : Bool} {zs : List Int} (h : YAns T w w' e) (hi : YIs T ok zs) : (∃ ao c, e = .returned (.tuple #[.slice ao zs.length c, .bool ok]) ∧ Lies w' (.slice ao zs.length c) zs c ∧ ∀ k, blk (.slice ao zs.length c) = some k → w.heap.size ≤ k) ∧ Below w.heap.size w w' := by
  obtain ⟨h1 | h1, h2⟩ := h
  · obtain ⟨g, c, xs, rest, a, b, hg, hR, hc, hm⟩ := h1
    rcases hi with ⟨rfl, hz⟩ | ⟨_, _, hz⟩
    · have e := uq xs zs a hz
      subst e
      exact ⟨⟨_, c, b, lies_ans hg hR hc hm⟩, h2⟩
    · exact absurd a (hz xs)
  · rcases hi with ⟨rfl, hz⟩ | ⟨rfl, rfl, hz⟩
    · exact absurd hz (h1.1 zs)
    · exact ⟨⟨none, 0, h1.2, lies_nil _, fun k hk => by cases hk⟩, h2⟩
/-- between the rounds -/
structure YS (w wr : World) (lv : Value) (vs : List Value) (s t : ByteArray) : Prop where
  kept : Kept w.heap.size wr w.heap.size lv (nilled vs)
  mem : Mem w.heap.size wr vs
  txt : wr.heap[w.heap.size + 1]? = some (.cells #[.string s, .string t, .string s] 38 (0, 0))
  bel : Below w.heap.size w wr
theorem YS.lt {w wr : World} {lv : Value} {vs : List Value} {s t : ByteArray} (h : YS w wr lv vs s t) : w.heap.size + 1 < wr.heap.size := (Array.getElem?_eq_some_iff.1 h.txt).1
theorem YS.cell {w wr : World} {lv : Value} {vs : List Value} {s t : ByteArray} (h : YS w wr lv vs s t) : wr.cell? ⟨w.heap.size + 1, 0, none⟩ = some (.string s) ∧ wr.cell? ⟨w.heap.size + 1, 1, none⟩ = some (.string t) ∧ wr.cell? ⟨w.heap.size + 1, 2, none⟩ = some (.string s) :=
  ⟨cell_of_row wr _ 0 _ _ _ h.txt, cell_of_row wr _ 1 _ _ _ h.txt, cell_of_row wr _ 2 _ _ _ h.txt⟩
theorem YS.below {w wr w' : World} {lv : Value} {vs : List Value} {s t : ByteArray} (h : YS w wr lv vs s t) (k : Below wr.heap.size wr w') : YS w w' lv vs s t :=
  ⟨h.kept.below k, h.mem.below k, (k.block _ h.lt).trans h.txt, h.bel.trans (k.mono h.bel.size)⟩
theorem YS.put {w w1 w2 w3 w4 : World} {lv lv' v : Value} {vs : List Value} {s t : ByteArray} {zs : List Int} {c : Nat} (h : YS w w1 lv vs s t) (k2 : Below w1.heap.size w1 w2) (hv : Lies w2 v zs c) (hk : ∀ k, blk v = some k → w1.heap.size ≤ k) (hl : zs.length ≤ 20000000) (k3 : Below w2.heap.size w2 w3)
    (hK : Kept w.heap.size w4 w.heap.size lv' (nilled vs ++ [(v, .slice none 0 0)])) (ho : Off w.heap.size lv w3 w4) : YS w w4 lv' (vs ++ [v]) s t := by
  have h3 : YS w w3 lv vs s t := (h.below k2).below k3
  have hm : Mem w.heap.size w3 (vs ++ [v]) := (h.mem.snoc k2 hv hk hl h.bel.size).below k3
  exact ⟨by rw [nilled_snoc]; exact hK, hm.off h3.kept ho, arr_off h3.kept ho h3.txt (by decide) (by omega), h3.bel.trans (ho.below h3.kept h3.bel.size)⟩
/-- what both ways tell of a text -/
structure YC (x : ByteArray) (okH ok6 : Bool) (zH z6 : List Int) : Prop where
  rh : ∀ W : World, Calls Tryz.prog 4 #[.string x] W fun e w' => (∃ u, e = .returned (.tuple #[u, .bool okH]) ∧ Reads .u8 w' u zH) ∧ Below W.heap.size W w'
  ph : ∀ W : World, Calls Tryz.prog 5 #[.string x] W fun e w' => (∃ ao c, e = .returned (.tuple #[.slice ao zH.length c, .bool okH]) ∧ Lies w' (.slice ao zH.length c) zH c ∧ ∀ k, blk (.slice ao zH.length c) = some k → W.heap.size ≤ k) ∧ Below W.heap.size W w'
  r6 : ∀ W : World, Calls Tryz.prog 8 #[.string x] W fun e w' => (∃ u, e = .returned (.tuple #[u, .bool ok6]) ∧ Reads .u8 w' u z6) ∧ Below W.heap.size W w'
  p6 : ∀ W : World, Calls Tryz.prog 9 #[.string x] W fun e w' => (∃ ao c, e = .returned (.tuple #[.slice ao z6.length c, .bool ok6]) ∧ Lies w' (.slice ao z6.length c) z6 c ∧ ∀ k, blk (.slice ao z6.length c) = some k → W.heap.size ≤ k) ∧ Below W.heap.size W w'
  lh : zH.length ≤ 20000000
  l6 : z6.length ≤ 20000000
theorem yc_of (x : ByteArray) (hx : x.size ≤ 16777216) : ∃ okH ok6 zH z6, YC x okH ok6 zH z6 := by
  obtain ⟨es, hb, hes, rfl⟩ := utxt_of x
  rw [← hes] at hx
  obtain ⟨okH, zH, iH⟩ := yis (HexOf es)
  obtain ⟨ok6, z6, i6⟩ := yis (SixOf es)
  refine ⟨okH, ok6, zH, z6, ⟨fun W => (rfromhex_any rfl hb hx).mono fun e w' h => h.is (fun a b => HexOf.uniq) iH, fun W => (yfromhex_any rfl hb (by omega)).mono fun e w' h => h.is (fun a b => HexOf.uniq) iH, fun W => (rfrom64_any rfl hb hx).mono fun e w' h => h.is (fun a b => SixOf.uniq) i6, fun W => (yfrom64_any rfl hb (by omega)).mono fun e w' h => h.is (fun a b => SixOf.uniq) i6, ?_, ?_⟩⟩
  · rcases iH with ⟨_, h⟩ | ⟨_, rfl, _⟩
    · have := bHex_len zH
      rw [h.2] at this
      omega
    · simp
  · rcases i6 with ⟨_, h⟩ | ⟨_, rfl, _⟩
    · have := b64_len z6
      rw [h.2] at this
      omega
    · simp

set_option maxRecDepth 100000 in
set_option maxHeartbeats 8000000 in
theorem ybreads_walk {w : World} {s t : ByteArray} (ls : s.size ≤ 140737488351232) (lt : t.size ≤ 140737488351232) :
    Calls Tryz.prog 3 #[.string s, .string t] w fun e w' => e = .returned (.bool true) ∧ Below w.heap.size w w' := by
  by_cases hbig : 16777216 < s.size + t.size
  · have q1 : (16777216 : Int) < (s.size : Int) + (t.size : Int) := by omega
    go_enter Tryz.func3, Tryz.ntmps3
    go_wp2
    go_ret
    exact ⟨rfl, Below.refl _ _⟩
  · have q1 : ¬ (16777216 : Int) < (s.size : Int) + (t.size : Int) := by omega
    have Cs := hide (yc_of s (by omega))
    have Ct := hide (yc_of t (by omega))
    clear hbig
    go_enter Tryz.func3, Tryz.ntmps3
    go_wp2
    have Hst0 : Hid (YS w ((w.alloc (.cells (bookCells 0 (.slice none 0 0)) 37)).alloc (.cells #[.string s, .string t, .string s] 38)) (.slice none 0 0) [] s t) := by
      refine ⟨⟨by omega, ?_, World.ownsRow_nil _ _ _ _⟩, ⟨fun v hv => (by cases hv), List.Pairwise.nil, fun v hv => (by cases hv)⟩, ?_, ?_⟩
      · have e1 := heap_alloc_old (w.alloc (.cells (bookCells 0 (.slice none 0 0)) 37)) (.cells #[.string s, .string t, .string s] 38) (r := w.heap.size) (by simp)
        exact e1.trans (heap_alloc_new w _)
      · have e1 := heap_alloc_new (w.alloc (.cells (bookCells 0 (.slice none 0 0)) 37)) (.cells #[.string s, .string t, .string s] 38)
        simpa using e1
      · exact ((Below.refl _ w).alloc (Nat.le_refl _) _).alloc (by simp) _
    go_loopw [7] (fun iv wr => ∃ (i : Nat) (lv : Value) (vs : List Value), i ≤ 3 ∧ iv = .int .i64 i ∧ vs.length = 2 * i ∧ YS w wr lv vs s t) (fun iv _ => 3 - (intOf iv).toNat)
    case atStart => exact ⟨0, _, [], by omega, rfl, rfl, Hst0.out⟩
    case round =>
      obtain ⟨i, lv, vs, hi3, rfl, hvl, hY⟩ := hrel
      clear Hst0
      by_cases hi : i < 3
      · have hi' : (i : Int) < 3 := by omega
        obtain ⟨x, hx, okH, ok6, zH, z6, C⟩ : ∃ x, (∀ W lv vs, YS w W lv vs s t → W.cell? ⟨w.heap.size + 1, i, none⟩ = some (.string x)) ∧ ∃ okH ok6 zH z6, YC x okH ok6 zH z6 := by
          match i, hi with
          | 0, _ => exact ⟨s, fun W lv vs h => h.cell.1, Cs.out⟩
          | 1, _ => exact ⟨t, fun W lv vs h => h.cell.2.1, Ct.out⟩
          | 2, _ => exact ⟨s, fun W lv vs h => h.cell.2.2, Cs.out⟩
        have HX := hide hx
        have HC := hide C
        have HY := hide hY
        clear hx C hY Cs Ct
        have c0 := HX.out _ _ _ HY.out
        go_wp2_with fail
        refine (HC.out.rh wr).mono ?_
        rintro e wa ⟨⟨ua, rfl, ra⟩, ka⟩
        have Ya := hide (HY.out.below ka)
        have Ra := hide ra
        clear ka ra c0 HY
        have ca := HX.out _ _ _ Ya.out
        go_wp2_with fail
        refine (HC.out.ph wa).mono ?_
        rintro e wb ⟨⟨ao0, cc0, rfl, lb, kb⟩, bb⟩
        have Sb := hide (bsame_any lb.reads (Ra.out.below bb))
        have Lb := hide (And.intro lb (And.intro kb bb))
        have Bb := hide (Ya.out.below bb)
        clear lb kb bb ca Ra
        rw [decide_eq_true rfl] at Sb
        go_wp2_with fail
        refine Sb.out.mono ?_
        rintro e wc ⟨rfl, bc⟩
        have Bc := hide bc
        have Kc := hide (Bb.out.below bc)
        clear bc Sb Bb
        go_wp2_with fail
        refine (nat_any Kc.out.kept Kc.out.bel.size (by rw [nilled_length]; omega)).mono ?_
        rintro e wr1 ⟨rfl, lv1, kd, od⟩
        have HY := hide (Ya.out.put Lb.out.2.2 Lb.out.1 Lb.out.2.1 HC.out.lh Bc.out kd od)
        clear kd od Bc Kc Lb Ya
        have c1 := HX.out _ _ _ HY.out
        go_wp2_with fail
        refine (HC.out.r6 wr1).mono ?_
        rintro e wa ⟨⟨ua, rfl, ra⟩, ka⟩
        have Ya := hide (HY.out.below ka)
        have Ra := hide ra
        clear ka ra c1 HY
        have ca := HX.out _ _ _ Ya.out
        go_wp2_with fail
        refine (HC.out.p6 wa).mono ?_
        rintro e wb ⟨⟨ao1, cc1, rfl, lb, kb⟩, bb⟩
        have Sb := hide (bsame_any lb.reads (Ra.out.below bb))
        have Lb := hide (And.intro lb (And.intro kb bb))
        have Bb := hide (Ya.out.below bb)
        clear lb kb bb ca Ra
        rw [decide_eq_true rfl] at Sb
        go_wp2_with fail
        refine Sb.out.mono ?_
        rintro e wc ⟨rfl, bc⟩
        have Bc := hide bc
        have Kc := hide (Bb.out.below bc)
        clear bc Sb Bb
        go_wp2_with fail
        refine (nat_any Kc.out.kept Kc.out.bel.size (by rw [nilled_length]; simp; omega)).mono ?_
        rintro e wr2 ⟨rfl, lv2, kd, od⟩
        have HY := hide (Ya.out.put Lb.out.2.2 Lb.out.1 Lb.out.2.1 HC.out.l6 Bc.out kd od)
        clear kd od Bc Kc Lb Ya
        go_wp2
        go_roundw
        case rel => exact ⟨i + 1, _, _, by omega, by simp, by simp; omega, HY.out⟩
        case measure => simp [intOf]; omega
      · obtain rfl : i = 3 := by omega
        go_wp2_with fail
        refine (apart_mem hY.kept hY.bel.size (by omega) hY.mem).mono ?_
        rintro e wa ⟨rfl, ka⟩
        go_wp2_with fail
        refine blives.mono ?_
        rintro e wb ⟨rfl, kb⟩
        go_wp2
        go_ret
        exact ⟨rfl, hY.bel.trans (ka.trans (kb.mono (Nat.le_trans hY.bel.size ka.size)))⟩

end Go.Proofs.YtlpddfocihlbcaaGreatDoor
