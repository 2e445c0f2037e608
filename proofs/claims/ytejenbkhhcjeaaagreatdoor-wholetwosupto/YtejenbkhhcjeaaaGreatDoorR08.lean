/- WholeB, WholeC, WKit, WRef, WholeQ -/
import Derived.Test.YtejenbkhhcjeaaaGreatDoorR07
import Derived.Test.YtejenbkhhcjeaaaGreatDoorR06
import Derived.Test.YtejenbkhhcjeaaaGreatDoorR03
import Derived.Test.YtejenbkhhcjeaaaGreatDoorR02
namespace Go.Proofs.YtejenbkhhcjeaaaGreatDoor
open Go.RowKit

theorem Num.put {B : Nat} {w : World} {v : Value} {n : Int} {k b : Nat} (h : Num B w v n k) (hb : b < B) (i : Nat) (x : Value) : Num B (w.setCell ⟨b, i, none⟩ x) v n k := by
  obtain ⟨zs, ⟨ao, h1, h2, h3⟩, h4⟩ := h
  refine ⟨zs, ⟨ao, h1, h2, fun hp => ?_⟩, h4⟩
  obtain ⟨g, rest, h5, h6, h7⟩ := h3 hp
  refine ⟨g, rest, h5, h6, ?_⟩
  unfold Row
  rw [Below.heap_setCell _ _ _ _ (by show g ≠ b; omega)]
  exact h7
theorem WNum.put {B : Nat} {w : World} {v : Value} {n : Int} {k b : Nat} (h : WNum B w v n k) (hb : b < B) (i : Nat) (x : Value) : WNum B (w.setCell ⟨b, i, none⟩ x) v n k := by
  obtain ⟨neg, m, a, rfl, h1, h2⟩ := h
  exact ⟨neg, m, a, rfl, h1.put hb i x, h2⟩
theorem WNum.told {B : Nat} {w : World} {v : Value} {n : Int} {k : Nat} (h : WNum B w v n k) : ∃ neg ao l, v = .agg #[.bool neg, .slice ao l l] := by
  obtain ⟨neg, m, a, rfl, ⟨zs, ⟨ao, rfl, _⟩, _⟩, _⟩ := h
  exact ⟨neg, ao, _, rfl⟩
/-- two cells behind one another in a block, which may be written -/
structure Cell2 (w : World) (b : Nat) (x y : Value) : Prop where
  c0 : w.cell? ⟨b, 0, none⟩ = some x
  c1 : w.cell? ⟨b, 1, none⟩ = some y
  f0 : w.frozen? ⟨b, 0, none⟩ = false
  f1 : w.frozen? ⟨b, 1, none⟩ = false
  lt : b < w.heap.size
theorem Cell2.below {w w' : World} {b : Nat} {x y : Value} (h : Cell2 w b x y) (hb : Below w.heap.size w w') : Cell2 w' b x y :=
  ⟨(hb.cell (p := ⟨b, 0, none⟩) h.lt).trans h.c0, (hb.cell (p := ⟨b, 1, none⟩) h.lt).trans h.c1, (hb.frozen (p := ⟨b, 0, none⟩) h.lt).trans h.f0, (hb.frozen (p := ⟨b, 1, none⟩) h.lt).trans h.f1, Nat.lt_of_lt_of_le h.lt hb.size⟩
theorem cell2_new (w : World) (x y : Value) (t : TypeId) : Cell2 (w.alloc (.cells #[x, y] t)) w.heap.size x y := by
  refine ⟨?_, ?_, ?_, ?_, by simp⟩
  · rw [World.cell?_alloc_at _ _ _ _ rfl]; rfl
  · rw [World.cell?_alloc_at _ _ _ _ rfl]; rfl
  · rw [World.frozen?_alloc_at _ _ _ _ rfl]
  · rw [World.frozen?_alloc_at _ _ _ _ rfl]
theorem sg_mul {n m s t a b : Int} (h : Sg n s a) (k : Sg m t b) : (if s * t = -1 then -(a * b) else a * b) = n * m := by
  unfold Sg at h k
  rcases h with ⟨_, rfl, rfl⟩ | ⟨rfl, rfl, rfl⟩ | ⟨_, rfl, rfl⟩ <;> rcases k with ⟨_, rfl, rfl⟩ | ⟨rfl, rfl, rfl⟩ | ⟨_, rfl, rfl⟩ <;> simp [Int.neg_mul, Int.mul_neg]
theorem sg_mul_bound {n m s t a b : Int} (h : Sg n s a) (k : Sg m t b) : -1 ≤ s * t ∧ s * t ≤ 1 := by
  unfold Sg at h k
  rcases h with ⟨_, rfl, rfl⟩ | ⟨rfl, rfl, rfl⟩ | ⟨_, rfl, rfl⟩ <;> rcases k with ⟨_, rfl, rfl⟩ | ⟨rfl, rfl, rfl⟩ | ⟨_, rfl, rfl⟩ <;> simp
theorem Cell2.alloc {w : World} {b : Nat} {x y : Value} (h : Cell2 w b x y) (o : Obj) : Cell2 (w.alloc o) b x y := h.below (bel_alloc w o)
theorem Cell2.put {w : World} {b : Nat} {x y : Value} (h : Cell2 w b x y) (x' y' : Value) : Cell2 ((w.setCell ⟨b, 0, none⟩ x').setCell ⟨b, 1, none⟩ y') b x' y' := by
  have n01 : (⟨b, 0, none⟩ : Addr) ≠ ⟨b, 1, none⟩ := by intro e; injection e with _ e _; cases e
  refine ⟨?_, ?_, ?_, ?_, by simpa [World.setCell] using h.lt⟩
  · rw [World.cell?_setCell_other _ _ _ _ (by first | exact n01 | exact n01.symm)]
    exact World.cell?_setCell_same _ _ _ h.c0
  · refine World.cell?_setCell_same (u := y) _ _ _ ?_
    rw [World.cell?_setCell_other _ _ _ _ (by first | exact n01.symm | exact n01)]
    exact h.c1
  · have := h.f0; simpa [go_sem] using this
  · have := h.f1; simpa [go_sem] using this
theorem Cell2.away {w : World} {b c : Nat} {x y : Value} (h : Cell2 w b x y) (hn : b ≠ c) (x' y' : Value) : Cell2 ((w.setCell ⟨c, 0, none⟩ x').setCell ⟨c, 1, none⟩ y') b x y := by
  have hh : ((w.setCell ⟨c, 0, none⟩ x').setCell ⟨c, 1, none⟩ y').heap[b]? = w.heap[b]? := (Below.heap_setCell _ _ _ _ (by show b ≠ c; exact hn)).trans (Below.heap_setCell _ _ _ _ (by show b ≠ c; exact hn))
  have hc : ∀ i, ((w.setCell ⟨c, 0, none⟩ x').setCell ⟨c, 1, none⟩ y').cell? ⟨b, i, none⟩ = w.cell? ⟨b, i, none⟩ := fun i => World.cell?_of_block hh
  refine ⟨(hc 0).trans h.c0, (hc 1).trans h.c1, ?_, ?_, by simpa [World.setCell] using h.lt⟩
  · have := h.f0; simpa [go_sem] using this
  · have := h.f1; simpa [go_sem] using this
theorem below_put2 {B : Nat} {w w' : World} {b : Nat} (h : Below B w w') (hb : B ≤ b) (x y : Value) : Below B w ((w'.setCell ⟨b, 0, none⟩ x).setCell ⟨b, 1, none⟩ y) :=
  (h.setCell (p := ⟨b, 0, none⟩) hb _).setCell (p := ⟨b, 1, none⟩) hb _

set_option maxRecDepth 20000 in
set_option maxHeartbeats 4000000 in
theorem sum_any {w : World} {va vb : Value} {s t a b X Y : Int} {ka kb : Nat} (ha : Arg w va a ka) (hb : Arg w vb b kb) (hka : ka ≤ 1099511627776) (hkb : kb ≤ 1099511627776) (hx : Sg X s a) (hy : Sg Y t b) :
    Calls Tryz.prog 124 #[.int .i8 s, va, .int .i8 t, vb] w fun e w' => ∃ v, e = .returned v ∧ WNum w.heap.size w' v (X + Y) (max ka kb + 1) ∧ Below w.heap.size w w' := by
  have A0 := ha
  have B0 := hb
  have na := ha.nonneg
  have nb := hb.nonneg
  obtain ⟨xs, ⟨ao, ca, rfl, -⟩, -⟩ := ha
  obtain ⟨ys, ⟨bo, cb, rfl, -⟩, -⟩ := hb
  have K1 := bel_alloc w (.cells #[.bool false, .slice none 0 0] 25)
  have D1 := cell2_new w (.bool false) (.slice none 0 0) 25
  replace A0 := A0.below K1
  replace B0 := B0.below K1
  have HD := hide D1
  clear D1
  have lt1 := HD.out.lt
  by_cases hst : s = t
  · subst hst
    have q1 : (s == s) = true := by simp
    go_enter Tryz.func124, Tryz.ntmps124
    go_wp2_with fail
    with_reducible refine (add_any A0 B0 hka hkb).mono ?_
    rintro e w2 ⟨vn, rfl, hN, hb2⟩
    go_wp2_with fail
    with_reducible refine (number_any hN hx.bound).mono ?_
    rintro e w3 ⟨vr, rfl, hR, hb3⟩
    have hval : (if s = -1 then -(a + b) else a + b) = X + Y := by unfold Sg at hx hy; split <;> omega
    rw [hval] at hR
    have K := below_trans hb2 hb3
    clear hval q1 hx hy hb2 hb3 hN A0 B0
    rename World => wl
    obtain ⟨ng, ro, rl, rfl⟩ := hR.told
    have d0 := (HD.out.below K).c0
    have d1 := (HD.out.below K).c1
    have g0 := (HD.out.below K).f0
    have g1 := (HD.out.below K).f1
    go_wp2
    have PD := (HD.out.below K).put (.bool ng) (.slice ro rl rl)
    have KB := below_put2 (b := w.heap.size) (K1.trans (K.mono (by have := K1.size; omega))) (by omega) (.bool ng) (.slice ro rl rl)
    have WN := ((hR.put lt1 0 (.bool ng)).put lt1 1 (.slice ro rl rl)).low (B' := w.heap.size) (by omega)
    clear d0 d1 g0 g1 hR K K1 HD
    generalize (wl.setCell ⟨w.heap.size, 0, none⟩ (.bool ng)).setCell ⟨w.heap.size, 1, none⟩ (.slice ro rl rl) = w9 at *
    (try simp only [Exit.inBlock, Exit.then])
    exact bodyPost_ret (v := .agg #[.bool ng, .slice ro rl rl]) (by simp [results, Tryz.results124, go_sem, PD.c0, PD.c1]) rfl ⟨_, rfl, WN, KB⟩
  · have q1 : (s == t) = false := by simp [hst]
    by_cases hab : b ≤ a
    · go_enter Tryz.func124, Tryz.ntmps124
      go_wp2_with fail
      with_reducible refine (sub_yes A0 B0 hka hkb hab).mono ?_
      rintro e w2 ⟨vn, rfl, hN, hb2⟩
      go_wp2_with fail
      with_reducible refine (number_any hN hx.bound).mono ?_
      rintro e w3 ⟨vr, rfl, hR, hb3⟩
      have hval : (if s = -1 then -(a - b) else a - b) = X + Y := by unfold Sg at hx hy; split <;> omega
      rw [hval] at hR
      replace hR := hR.mono (k' := max ka kb + 1) (by omega)
      have K := below_trans hb2 hb3
      clear hval q1 hst hx hy hb2 hb3 hN A0 B0
      rename World => wl
      obtain ⟨ng, ro, rl, rfl⟩ := hR.told
      have d0 := (HD.out.below K).c0
      have d1 := (HD.out.below K).c1
      have g0 := (HD.out.below K).f0
      have g1 := (HD.out.below K).f1
      go_wp2
      have PD := (HD.out.below K).put (.bool ng) (.slice ro rl rl)
      have KB := below_put2 (b := w.heap.size) (K1.trans (K.mono (by have := K1.size; omega))) (by omega) (.bool ng) (.slice ro rl rl)
      have WN := ((hR.put lt1 0 (.bool ng)).put lt1 1 (.slice ro rl rl)).low (B' := w.heap.size) (by omega)
      clear d0 d1 g0 g1 hR K K1 HD
      generalize (wl.setCell ⟨w.heap.size, 0, none⟩ (.bool ng)).setCell ⟨w.heap.size, 1, none⟩ (.slice ro rl rl) = w9 at *
      (try simp only [Exit.inBlock, Exit.then])
      exact bodyPost_ret (v := .agg #[.bool ng, .slice ro rl rl]) (by simp [results, Tryz.results124, go_sem, PD.c0, PD.c1]) rfl ⟨_, rfl, WN, KB⟩
    · go_enter Tryz.func124, Tryz.ntmps124
      go_wp2_with fail
      with_reducible refine (sub_no A0 B0 hka hkb (by omega)).mono ?_
      rintro e w2 ⟨rfl, hb2⟩
      go_wp2_with fail
      with_reducible refine (sub_yes (B0.below hb2) (A0.below hb2) hkb hka (by omega)).mono ?_
      rintro e w3 ⟨vn, rfl, hN, hb3⟩
      go_wp2_with fail
      with_reducible refine (number_any hN hy.bound).mono ?_
      rintro e w4 ⟨vr, rfl, hR, hb4⟩
      have hval : (if t = -1 then -(b - a) else b - a) = X + Y := by unfold Sg at hx hy; split <;> omega
      rw [hval] at hR
      replace hR := (hR.mono (k' := max ka kb + 1) (by omega)).low hb2.size
      have K := below_trans (below_trans hb2 hb3) hb4
      clear hval q1 hst hx hy hb2 hb3 hb4 hN A0 B0
      rename World => wl
      obtain ⟨ng, ro, rl, rfl⟩ := hR.told
      have d0 := (HD.out.below K).c0
      have d1 := (HD.out.below K).c1
      have g0 := (HD.out.below K).f0
      have g1 := (HD.out.below K).f1
      go_wp2
      have PD := (HD.out.below K).put (.bool ng) (.slice ro rl rl)
      have KB := below_put2 (b := w.heap.size) (K1.trans (K.mono (by have := K1.size; omega))) (by omega) (.bool ng) (.slice ro rl rl)
      have WN := ((hR.put lt1 0 (.bool ng)).put lt1 1 (.slice ro rl rl)).low (B' := w.heap.size) (by omega)
      clear d0 d1 g0 g1 hR K K1 HD
      generalize (wl.setCell ⟨w.heap.size, 0, none⟩ (.bool ng)).setCell ⟨w.heap.size, 1, none⟩ (.slice ro rl rl) = w9 at *
      (try simp only [Exit.inBlock, Exit.then])
      exact bodyPost_ret (v := .agg #[.bool ng, .slice ro rl rl]) (by simp [results, Tryz.results124, go_sem, PD.c0, PD.c1]) rfl ⟨_, rfl, WN, KB⟩

set_option maxRecDepth 20000 in
set_option maxHeartbeats 4000000 in
theorem wnorm_any {w : World} {v1 : Value} {n1 : Int} {k1 : Nat} (h1 : WArg w v1 n1 k1) (j1 : k1 ≤ 1099511627776) :
    Calls Tryz.prog 51 #[v1] w fun e w' => ∃ v, e = .returned v ∧ WNum w.heap.size w' v (n1) (k1) ∧ Below w.heap.size w w' := by
  obtain ⟨neg1, m1, a1, rfl, ha, hn1⟩ := h1
  have A1 := ha
  obtain ⟨zs1, ⟨ao1, cap1, rfl, -⟩, -⟩ := ha
  have N1 := A1.nonneg
  have hs1 := sg_self hn1 N1
  have Hn1 := hide hn1
  clear hn1
  go_enter Tryz.func51, Tryz.ntmps51
  go_upto_region 1 with fail
  have K1 : Below w.heap.size w ((w.alloc (.cells #[.bool neg1, .slice ao1 zs1.length cap1] 25)).alloc (.cells #[.bool false, .slice none 0 0] 25)) := (below_trans (bel_alloc _ _) (bel_alloc _ _))
  have z1 : (w.alloc (.cells #[.bool neg1, .slice ao1 zs1.length cap1] 25)).heap.size = w.heap.size + 1 := by simp
  have C1 := (cell2_new w (.bool neg1) (.slice ao1 zs1.length cap1) 25).alloc (.cells #[.bool false, .slice none 0 0] 25)
  have D1 := cell2_new (w.alloc (.cells #[.bool neg1, .slice ao1 zs1.length cap1] 25)) (.bool false) (.slice none 0 0) 25
  rw [z1] at D1
  replace A1 := A1.below K1
  clear z1
  generalize ((w.alloc (.cells #[.bool neg1, .slice ao1 zs1.length cap1] 25)).alloc (.cells #[.bool false, .slice none 0 0] 25)) = w1 at *
  have K : Below w1.heap.size w1 w1.drew := (Below.refl _ _).drew
  have p1 := C1.c0
  have q1 := C1.c1
  have HC1 := hide C1
  clear C1
  have l1 := hs1.bound.1
  have u1 := hs1.bound.2
  have lt1 := D1.lt
  have HD := hide D1
  clear D1
  go_region_held3 (fun w' => w'.cell? ⟨w.heap.size, 0, none⟩ = some (.bool neg1) ∧ w'.cell? ⟨w.heap.size, 1, none⟩ = some (.slice ao1 zs1.length cap1))
    (first
      | exact ⟨(HC1.out.below K).c0, (HC1.out.below K).c1⟩
      | exact ⟨((HC1.out.below K).away (by omega) _ _).c0, ((HC1.out.below K).away (by omega) _ _).c1⟩
      | go_keep)
    (first
      | (go_at_call 22; first | (with_reducible refine (sign_any (A1.below K) Hn1.out (by omega)).mono ?_; rintro e w2 ⟨rfl, hb⟩; replace K := below_trans K hb; (try replace hN := hN.below hb); clear hb))
      | (go_at_call 113; with_reducible refine (norm_any (A1.below K) (by omega)).mono ?_; rintro e w2 ⟨vn, rfl, hN, hb⟩; replace hN := num_low hN K.size; replace K := below_trans K hb; clear hb)
      | (go_at_call 37; (try rw [HW.out]); with_reducible refine (number_any hN (by unfold Sg at hs1; omega)).mono ?_; rintro e w2 ⟨vr, rfl, hR, hb⟩; replace K := below_trans K hb; obtain ⟨ng, ro, rl, rfl⟩ := hR.told; have d0 := (HD.out.below K).c0; have d1 := (HD.out.below K).c1; have g0 := (HD.out.below K).f0; have g1 := (HD.out.below K).f1))
  all_goals go_wp2
  all_goals
    have PD := (HD.out.below K).put (.bool ng) (.slice ro rl rl)
    have KB := below_put2 (b := w.heap.size + 1) (K1.trans (K.mono (by have := K1.size; omega))) (by omega) (.bool ng) (.slice ro rl rl)
    have WN := ((hR.put lt1 0 (.bool ng)).put lt1 1 (.slice ro rl rl)).low (B' := w.heap.size) (by omega)
    rw [show (if sgn n1 0 = -1 then -a1 else a1) = n1 by unfold Sg at hs1; split <;> omega] at WN
    clear p1 q1 A1 HC1 d0 d1 g0 g1 hR K K1 HD hN
    generalize (w2.setCell ⟨w.heap.size + 1, 0, none⟩ (.bool ng)).setCell ⟨w.heap.size + 1, 1, none⟩ (.slice ro rl rl) = w3 at *
    (try simp only [Exit.inBlock, Exit.then])
    exact bodyPost_ret (v := .agg #[.bool ng, .slice ro rl rl]) (by simp [results, Tryz.results51, go_sem, PD.c0, PD.c1]) rfl ⟨_, rfl, WN, KB⟩

set_option maxRecDepth 20000 in
set_option maxHeartbeats 4000000 in
theorem wneg_any {w : World} {v1 : Value} {n1 : Int} {k1 : Nat} (h1 : WArg w v1 n1 k1) (j1 : k1 ≤ 1099511627776) :
    Calls Tryz.prog 52 #[v1] w fun e w' => ∃ v, e = .returned v ∧ WNum w.heap.size w' v (-n1) (k1) ∧ Below w.heap.size w w' := by
  obtain ⟨neg1, m1, a1, rfl, ha, hn1⟩ := h1
  have A1 := ha
  obtain ⟨zs1, ⟨ao1, cap1, rfl, -⟩, -⟩ := ha
  have N1 := A1.nonneg
  have hs1 := sg_self hn1 N1
  have Hn1 := hide hn1
  clear hn1
  go_enter Tryz.func52, Tryz.ntmps52
  go_upto_region 1 with fail
  have K1 : Below w.heap.size w ((w.alloc (.cells #[.bool neg1, .slice ao1 zs1.length cap1] 25)).alloc (.cells #[.bool false, .slice none 0 0] 25)) := (below_trans (bel_alloc _ _) (bel_alloc _ _))
  have z1 : (w.alloc (.cells #[.bool neg1, .slice ao1 zs1.length cap1] 25)).heap.size = w.heap.size + 1 := by simp
  have C1 := (cell2_new w (.bool neg1) (.slice ao1 zs1.length cap1) 25).alloc (.cells #[.bool false, .slice none 0 0] 25)
  have D1 := cell2_new (w.alloc (.cells #[.bool neg1, .slice ao1 zs1.length cap1] 25)) (.bool false) (.slice none 0 0) 25
  rw [z1] at D1
  replace A1 := A1.below K1
  clear z1
  generalize ((w.alloc (.cells #[.bool neg1, .slice ao1 zs1.length cap1] 25)).alloc (.cells #[.bool false, .slice none 0 0] 25)) = w1 at *
  have K : Below w1.heap.size w1 w1.drew := (Below.refl _ _).drew
  have p1 := C1.c0
  have q1 := C1.c1
  have HC1 := hide C1
  clear C1
  have l1 := hs1.bound.1
  have u1 := hs1.bound.2
  have HW : Hid (IntKind.i8.wrap (-sgn n1 0) = -sgn n1 0) := hide (IntWalk.i8_in _ ⟨by omega, by omega⟩)
  have lt1 := D1.lt
  have HD := hide D1
  clear D1
  go_region_held3 (fun w' => w'.cell? ⟨w.heap.size, 0, none⟩ = some (.bool neg1) ∧ w'.cell? ⟨w.heap.size, 1, none⟩ = some (.slice ao1 zs1.length cap1))
    (first
      | exact ⟨(HC1.out.below K).c0, (HC1.out.below K).c1⟩
      | exact ⟨((HC1.out.below K).away (by omega) _ _).c0, ((HC1.out.below K).away (by omega) _ _).c1⟩
      | go_keep)
    (first
      | (go_at_call 22; first | (with_reducible refine (sign_any (A1.below K) Hn1.out (by omega)).mono ?_; rintro e w2 ⟨rfl, hb⟩; replace K := below_trans K hb; (try replace hN := hN.below hb); clear hb))
      | (go_at_call 113; with_reducible refine (norm_any (A1.below K) (by omega)).mono ?_; rintro e w2 ⟨vn, rfl, hN, hb⟩; replace hN := num_low hN K.size; replace K := below_trans K hb; clear hb)
      | (go_at_call 37; (try rw [HW.out]); with_reducible refine (number_any hN (by unfold Sg at hs1; omega)).mono ?_; rintro e w2 ⟨vr, rfl, hR, hb⟩; replace K := below_trans K hb; obtain ⟨ng, ro, rl, rfl⟩ := hR.told; have d0 := (HD.out.below K).c0; have d1 := (HD.out.below K).c1; have g0 := (HD.out.below K).f0; have g1 := (HD.out.below K).f1))
  all_goals go_wp2
  all_goals
    have PD := (HD.out.below K).put (.bool ng) (.slice ro rl rl)
    have KB := below_put2 (b := w.heap.size + 1) (K1.trans (K.mono (by have := K1.size; omega))) (by omega) (.bool ng) (.slice ro rl rl)
    have WN := ((hR.put lt1 0 (.bool ng)).put lt1 1 (.slice ro rl rl)).low (B' := w.heap.size) (by omega)
    rw [show (if -sgn n1 0 = -1 then -a1 else a1) = -n1 by unfold Sg at hs1; split <;> omega] at WN
    clear p1 q1 A1 HC1 d0 d1 g0 g1 hR K K1 HD hN
    generalize (w2.setCell ⟨w.heap.size + 1, 0, none⟩ (.bool ng)).setCell ⟨w.heap.size + 1, 1, none⟩ (.slice ro rl rl) = w3 at *
    (try simp only [Exit.inBlock, Exit.then])
    exact bodyPost_ret (v := .agg #[.bool ng, .slice ro rl rl]) (by simp [results, Tryz.results52, go_sem, PD.c0, PD.c1]) rfl ⟨_, rfl, WN, KB⟩

set_option maxRecDepth 20000 in
set_option maxHeartbeats 4000000 in
theorem wadd_any {w : World} {v1 : Value} {n1 : Int} {k1 : Nat} {v2 : Value} {n2 : Int} {k2 : Nat} (h1 : WArg w v1 n1 k1) (j1 : k1 ≤ 1099511627776) (h2 : WArg w v2 n2 k2) (j2 : k2 ≤ 1099511627776) :
    Calls Tryz.prog 53 #[v1, v2] w fun e w' => ∃ v, e = .returned v ∧ WNum w.heap.size w' v (n1 + n2) (max k1 k2 + 1) ∧ Below w.heap.size w w' := by
  obtain ⟨neg1, m1, a1, rfl, ha, hn1⟩ := h1
  have A1 := ha
  obtain ⟨zs1, ⟨ao1, cap1, rfl, -⟩, -⟩ := ha
  have N1 := A1.nonneg
  have hs1 := sg_self hn1 N1
  have Hn1 := hide hn1
  clear hn1
  obtain ⟨neg2, m2, a2, rfl, ha, hn2⟩ := h2
  have A2 := ha
  obtain ⟨zs2, ⟨ao2, cap2, rfl, -⟩, -⟩ := ha
  have N2 := A2.nonneg
  have hs2 := sg_self hn2 N2
  have Hn2 := hide hn2
  clear hn2
  go_enter Tryz.func53, Tryz.ntmps53
  go_upto_region 1 with fail
  have K1 : Below w.heap.size w (((w.alloc (.cells #[.bool neg1, .slice ao1 zs1.length cap1] 25)).alloc (.cells #[.bool neg2, .slice ao2 zs2.length cap2] 25)).alloc (.cells #[.bool false, .slice none 0 0] 25)) := (below_trans (below_trans (bel_alloc _ _) (bel_alloc _ _)) (bel_alloc _ _))
  have z1 : (w.alloc (.cells #[.bool neg1, .slice ao1 zs1.length cap1] 25)).heap.size = w.heap.size + 1 := by simp
  have z2 : ((w.alloc (.cells #[.bool neg1, .slice ao1 zs1.length cap1] 25)).alloc (.cells #[.bool neg2, .slice ao2 zs2.length cap2] 25)).heap.size = w.heap.size + 2 := by simp
  have C1 := ((cell2_new w (.bool neg1) (.slice ao1 zs1.length cap1) 25).alloc (.cells #[.bool neg2, .slice ao2 zs2.length cap2] 25)).alloc (.cells #[.bool false, .slice none 0 0] 25)
  have C2 := (cell2_new (w.alloc (.cells #[.bool neg1, .slice ao1 zs1.length cap1] 25)) (.bool neg2) (.slice ao2 zs2.length cap2) 25).alloc (.cells #[.bool false, .slice none 0 0] 25)
  rw [z1] at C2
  have D1 := cell2_new ((w.alloc (.cells #[.bool neg1, .slice ao1 zs1.length cap1] 25)).alloc (.cells #[.bool neg2, .slice ao2 zs2.length cap2] 25)) (.bool false) (.slice none 0 0) 25
  rw [z2] at D1
  replace A1 := A1.below K1
  replace A2 := A2.below K1
  clear z1 z2
  generalize (((w.alloc (.cells #[.bool neg1, .slice ao1 zs1.length cap1] 25)).alloc (.cells #[.bool neg2, .slice ao2 zs2.length cap2] 25)).alloc (.cells #[.bool false, .slice none 0 0] 25)) = w1 at *
  have K : Below w1.heap.size w1 w1.drew := (Below.refl _ _).drew
  have p1 := C1.c0
  have q1 := C1.c1
  have HC1 := hide C1
  clear C1
  have p2 := C2.c0
  have q2 := C2.c1
  have HC2 := hide C2
  clear C2
  have l1 := hs1.bound.1
  have u1 := hs1.bound.2
  have l2 := hs2.bound.1
  have u2 := hs2.bound.2
  have lt1 := D1.lt
  have HD := hide D1
  clear D1
  go_region_held3 (fun w' => w'.cell? ⟨w.heap.size, 0, none⟩ = some (.bool neg1) ∧ w'.cell? ⟨w.heap.size, 1, none⟩ = some (.slice ao1 zs1.length cap1) ∧ w'.cell? ⟨w.heap.size + 1, 0, none⟩ = some (.bool neg2) ∧ w'.cell? ⟨w.heap.size + 1, 1, none⟩ = some (.slice ao2 zs2.length cap2))
    (first
      | exact ⟨(HC1.out.below K).c0, (HC1.out.below K).c1, (HC2.out.below K).c0, (HC2.out.below K).c1⟩
      | exact ⟨((HC1.out.below K).away (by omega) _ _).c0, ((HC1.out.below K).away (by omega) _ _).c1, ((HC2.out.below K).away (by omega) _ _).c0, ((HC2.out.below K).away (by omega) _ _).c1⟩
      | go_keep)
    (first
      | (go_at_call 22; first | (with_reducible refine (sign_any (A1.below K) Hn1.out (by omega)).mono ?_; rintro e w2 ⟨rfl, hb⟩; replace K := below_trans K hb; (try replace hN := hN.below hb); clear hb) | (with_reducible refine (sign_any (A2.below K) Hn2.out (by omega)).mono ?_; rintro e w2 ⟨rfl, hb⟩; replace K := below_trans K hb; (try replace hN := hN.below hb); clear hb))
      | (go_at_call 124; (try rw [HW.out]); with_reducible refine (sum_any (A1.below K) (A2.below K) (by omega) (by omega) hs1 hs2).mono ?_; rintro e w2 ⟨vr, rfl, hR, hb⟩; replace hR := hR.low K.size; replace K := below_trans K hb; obtain ⟨ng, ro, rl, rfl⟩ := hR.told; have d0 := (HD.out.below K).c0; have d1 := (HD.out.below K).c1; have g0 := (HD.out.below K).f0; have g1 := (HD.out.below K).f1))
  all_goals go_wp2
  all_goals
    have PD := (HD.out.below K).put (.bool ng) (.slice ro rl rl)
    have KB := below_put2 (b := w.heap.size + 2) (K1.trans (K.mono (by have := K1.size; omega))) (by omega) (.bool ng) (.slice ro rl rl)
    have WN := ((hR.put lt1 0 (.bool ng)).put lt1 1 (.slice ro rl rl)).low (B' := w.heap.size) (by omega)
    skip
    clear p1 q1 A1 HC1 p2 q2 A2 HC2 d0 d1 g0 g1 hR K K1 HD 
    generalize (w2.setCell ⟨w.heap.size + 2, 0, none⟩ (.bool ng)).setCell ⟨w.heap.size + 2, 1, none⟩ (.slice ro rl rl) = w3 at *
    (try simp only [Exit.inBlock, Exit.then])
    exact bodyPost_ret (v := .agg #[.bool ng, .slice ro rl rl]) (by simp [results, Tryz.results53, go_sem, PD.c0, PD.c1]) rfl ⟨_, rfl, WN, KB⟩

set_option maxRecDepth 20000 in
set_option maxHeartbeats 4000000 in
theorem wsub_any {w : World} {v1 : Value} {n1 : Int} {k1 : Nat} {v2 : Value} {n2 : Int} {k2 : Nat} (h1 : WArg w v1 n1 k1) (j1 : k1 ≤ 1099511627776) (h2 : WArg w v2 n2 k2) (j2 : k2 ≤ 1099511627776) :
    Calls Tryz.prog 54 #[v1, v2] w fun e w' => ∃ v, e = .returned v ∧ WNum w.heap.size w' v (n1 + -n2) (max k1 k2 + 1) ∧ Below w.heap.size w w' := by
  obtain ⟨neg1, m1, a1, rfl, ha, hn1⟩ := h1
  have A1 := ha
  obtain ⟨zs1, ⟨ao1, cap1, rfl, -⟩, -⟩ := ha
  have N1 := A1.nonneg
  have hs1 := sg_self hn1 N1
  have Hn1 := hide hn1
  clear hn1
  obtain ⟨neg2, m2, a2, rfl, ha, hn2⟩ := h2
  have A2 := ha
  obtain ⟨zs2, ⟨ao2, cap2, rfl, -⟩, -⟩ := ha
  have N2 := A2.nonneg
  have hs2 := sg_self hn2 N2
  have Hn2 := hide hn2
  clear hn2
  go_enter Tryz.func54, Tryz.ntmps54
  go_upto_region 1 with fail
  have K1 : Below w.heap.size w (((w.alloc (.cells #[.bool neg1, .slice ao1 zs1.length cap1] 25)).alloc (.cells #[.bool neg2, .slice ao2 zs2.length cap2] 25)).alloc (.cells #[.bool false, .slice none 0 0] 25)) := (below_trans (below_trans (bel_alloc _ _) (bel_alloc _ _)) (bel_alloc _ _))
  have z1 : (w.alloc (.cells #[.bool neg1, .slice ao1 zs1.length cap1] 25)).heap.size = w.heap.size + 1 := by simp
  have z2 : ((w.alloc (.cells #[.bool neg1, .slice ao1 zs1.length cap1] 25)).alloc (.cells #[.bool neg2, .slice ao2 zs2.length cap2] 25)).heap.size = w.heap.size + 2 := by simp
  have C1 := ((cell2_new w (.bool neg1) (.slice ao1 zs1.length cap1) 25).alloc (.cells #[.bool neg2, .slice ao2 zs2.length cap2] 25)).alloc (.cells #[.bool false, .slice none 0 0] 25)
  have C2 := (cell2_new (w.alloc (.cells #[.bool neg1, .slice ao1 zs1.length cap1] 25)) (.bool neg2) (.slice ao2 zs2.length cap2) 25).alloc (.cells #[.bool false, .slice none 0 0] 25)
  rw [z1] at C2
  have D1 := cell2_new ((w.alloc (.cells #[.bool neg1, .slice ao1 zs1.length cap1] 25)).alloc (.cells #[.bool neg2, .slice ao2 zs2.length cap2] 25)) (.bool false) (.slice none 0 0) 25
  rw [z2] at D1
  replace A1 := A1.below K1
  replace A2 := A2.below K1
  clear z1 z2
  generalize (((w.alloc (.cells #[.bool neg1, .slice ao1 zs1.length cap1] 25)).alloc (.cells #[.bool neg2, .slice ao2 zs2.length cap2] 25)).alloc (.cells #[.bool false, .slice none 0 0] 25)) = w1 at *
  have K : Below w1.heap.size w1 w1.drew := (Below.refl _ _).drew
  have p1 := C1.c0
  have q1 := C1.c1
  have HC1 := hide C1
  clear C1
  have p2 := C2.c0
  have q2 := C2.c1
  have HC2 := hide C2
  clear C2
  have l1 := hs1.bound.1
  have u1 := hs1.bound.2
  have l2 := hs2.bound.1
  have u2 := hs2.bound.2
  have HW : Hid (IntKind.i8.wrap (-sgn n2 0) = -sgn n2 0) := hide (IntWalk.i8_in _ ⟨by omega, by omega⟩)
  have lt1 := D1.lt
  have HD := hide D1
  clear D1
  go_region_held3 (fun w' => w'.cell? ⟨w.heap.size, 0, none⟩ = some (.bool neg1) ∧ w'.cell? ⟨w.heap.size, 1, none⟩ = some (.slice ao1 zs1.length cap1) ∧ w'.cell? ⟨w.heap.size + 1, 0, none⟩ = some (.bool neg2) ∧ w'.cell? ⟨w.heap.size + 1, 1, none⟩ = some (.slice ao2 zs2.length cap2))
    (first
      | exact ⟨(HC1.out.below K).c0, (HC1.out.below K).c1, (HC2.out.below K).c0, (HC2.out.below K).c1⟩
      | exact ⟨((HC1.out.below K).away (by omega) _ _).c0, ((HC1.out.below K).away (by omega) _ _).c1, ((HC2.out.below K).away (by omega) _ _).c0, ((HC2.out.below K).away (by omega) _ _).c1⟩
      | go_keep)
    (first
      | (go_at_call 22; first | (with_reducible refine (sign_any (A1.below K) Hn1.out (by omega)).mono ?_; rintro e w2 ⟨rfl, hb⟩; replace K := below_trans K hb; (try replace hN := hN.below hb); clear hb) | (with_reducible refine (sign_any (A2.below K) Hn2.out (by omega)).mono ?_; rintro e w2 ⟨rfl, hb⟩; replace K := below_trans K hb; (try replace hN := hN.below hb); clear hb))
      | (go_at_call 124; (try rw [HW.out]); with_reducible refine (sum_any (A1.below K) (A2.below K) (by omega) (by omega) hs1 hs2.neg).mono ?_; rintro e w2 ⟨vr, rfl, hR, hb⟩; replace hR := hR.low K.size; replace K := below_trans K hb; obtain ⟨ng, ro, rl, rfl⟩ := hR.told; have d0 := (HD.out.below K).c0; have d1 := (HD.out.below K).c1; have g0 := (HD.out.below K).f0; have g1 := (HD.out.below K).f1))
  all_goals go_wp2
  all_goals
    have PD := (HD.out.below K).put (.bool ng) (.slice ro rl rl)
    have KB := below_put2 (b := w.heap.size + 2) (K1.trans (K.mono (by have := K1.size; omega))) (by omega) (.bool ng) (.slice ro rl rl)
    have WN := ((hR.put lt1 0 (.bool ng)).put lt1 1 (.slice ro rl rl)).low (B' := w.heap.size) (by omega)
    skip
    clear p1 q1 A1 HC1 p2 q2 A2 HC2 d0 d1 g0 g1 hR K K1 HD 
    generalize (w2.setCell ⟨w.heap.size + 2, 0, none⟩ (.bool ng)).setCell ⟨w.heap.size + 2, 1, none⟩ (.slice ro rl rl) = w3 at *
    (try simp only [Exit.inBlock, Exit.then])
    exact bodyPost_ret (v := .agg #[.bool ng, .slice ro rl rl]) (by simp [results, Tryz.results54, go_sem, PD.c0, PD.c1]) rfl ⟨_, rfl, WN, KB⟩

set_option maxRecDepth 20000 in
set_option maxHeartbeats 4000000 in
theorem wmul_any {w : World} {v1 : Value} {n1 : Int} {k1 : Nat} {v2 : Value} {n2 : Int} {k2 : Nat} (h1 : WArg w v1 n1 k1) (j1 : k1 ≤ 549755813888) (h2 : WArg w v2 n2 k2) (j2 : k2 ≤ 549755813888) :
    Calls Tryz.prog 55 #[v1, v2] w fun e w' => ∃ v, e = .returned v ∧ WNum w.heap.size w' v (n1 * n2) (k1 + k2) ∧ Below w.heap.size w w' := by
  obtain ⟨neg1, m1, a1, rfl, ha, hn1⟩ := h1
  have A1 := ha
  obtain ⟨zs1, ⟨ao1, cap1, rfl, -⟩, -⟩ := ha
  have N1 := A1.nonneg
  have hs1 := sg_self hn1 N1
  have Hn1 := hide hn1
  clear hn1
  obtain ⟨neg2, m2, a2, rfl, ha, hn2⟩ := h2
  have A2 := ha
  obtain ⟨zs2, ⟨ao2, cap2, rfl, -⟩, -⟩ := ha
  have N2 := A2.nonneg
  have hs2 := sg_self hn2 N2
  have Hn2 := hide hn2
  clear hn2
  go_enter Tryz.func55, Tryz.ntmps55
  go_upto_region 1 with fail
  have K1 : Below w.heap.size w (((w.alloc (.cells #[.bool neg1, .slice ao1 zs1.length cap1] 25)).alloc (.cells #[.bool neg2, .slice ao2 zs2.length cap2] 25)).alloc (.cells #[.bool false, .slice none 0 0] 25)) := (below_trans (below_trans (bel_alloc _ _) (bel_alloc _ _)) (bel_alloc _ _))
  have z1 : (w.alloc (.cells #[.bool neg1, .slice ao1 zs1.length cap1] 25)).heap.size = w.heap.size + 1 := by simp
  have z2 : ((w.alloc (.cells #[.bool neg1, .slice ao1 zs1.length cap1] 25)).alloc (.cells #[.bool neg2, .slice ao2 zs2.length cap2] 25)).heap.size = w.heap.size + 2 := by simp
  have C1 := ((cell2_new w (.bool neg1) (.slice ao1 zs1.length cap1) 25).alloc (.cells #[.bool neg2, .slice ao2 zs2.length cap2] 25)).alloc (.cells #[.bool false, .slice none 0 0] 25)
  have C2 := (cell2_new (w.alloc (.cells #[.bool neg1, .slice ao1 zs1.length cap1] 25)) (.bool neg2) (.slice ao2 zs2.length cap2) 25).alloc (.cells #[.bool false, .slice none 0 0] 25)
  rw [z1] at C2
  have D1 := cell2_new ((w.alloc (.cells #[.bool neg1, .slice ao1 zs1.length cap1] 25)).alloc (.cells #[.bool neg2, .slice ao2 zs2.length cap2] 25)) (.bool false) (.slice none 0 0) 25
  rw [z2] at D1
  replace A1 := A1.below K1
  replace A2 := A2.below K1
  clear z1 z2
  generalize (((w.alloc (.cells #[.bool neg1, .slice ao1 zs1.length cap1] 25)).alloc (.cells #[.bool neg2, .slice ao2 zs2.length cap2] 25)).alloc (.cells #[.bool false, .slice none 0 0] 25)) = w1 at *
  have K : Below w1.heap.size w1 w1.drew := (Below.refl _ _).drew
  have p1 := C1.c0
  have q1 := C1.c1
  have HC1 := hide C1
  clear C1
  have p2 := C2.c0
  have q2 := C2.c1
  have HC2 := hide C2
  clear C2
  have l1 := hs1.bound.1
  have u1 := hs1.bound.2
  have l2 := hs2.bound.1
  have u2 := hs2.bound.2
  have l3 := (sg_mul_bound hs1 hs2).1
  have u3 := (sg_mul_bound hs1 hs2).2
  have HW : Hid (IntKind.i8.wrap (sgn n1 0 * sgn n2 0) = sgn n1 0 * sgn n2 0) := hide (IntWalk.i8_in _ ⟨by omega, by omega⟩)
  have lt1 := D1.lt
  have HD := hide D1
  clear D1
  go_region_held3 (fun w' => w'.cell? ⟨w.heap.size, 0, none⟩ = some (.bool neg1) ∧ w'.cell? ⟨w.heap.size, 1, none⟩ = some (.slice ao1 zs1.length cap1) ∧ w'.cell? ⟨w.heap.size + 1, 0, none⟩ = some (.bool neg2) ∧ w'.cell? ⟨w.heap.size + 1, 1, none⟩ = some (.slice ao2 zs2.length cap2))
    (first
      | exact ⟨(HC1.out.below K).c0, (HC1.out.below K).c1, (HC2.out.below K).c0, (HC2.out.below K).c1⟩
      | exact ⟨((HC1.out.below K).away (by omega) _ _).c0, ((HC1.out.below K).away (by omega) _ _).c1, ((HC2.out.below K).away (by omega) _ _).c0, ((HC2.out.below K).away (by omega) _ _).c1⟩
      | go_keep)
    (first
      | (go_at_call 22; first | (with_reducible refine (sign_any (A1.below K) Hn1.out (by omega)).mono ?_; rintro e w2 ⟨rfl, hb⟩; replace K := below_trans K hb; (try replace hN := hN.below hb); clear hb) | (with_reducible refine (sign_any (A2.below K) Hn2.out (by omega)).mono ?_; rintro e w2 ⟨rfl, hb⟩; replace K := below_trans K hb; (try replace hN := hN.below hb); clear hb))
      | (go_at_call 125; with_reducible refine (mul_any (A1.below K) (A2.below K) (by omega) (by omega)).mono ?_; rintro e w2 ⟨vn, rfl, hN, hb⟩; replace hN := num_low hN K.size; replace K := below_trans K hb; clear hb)
      | (go_at_call 37; (try rw [HW.out]); with_reducible refine (number_any hN (by exact sg_mul_bound hs1 hs2)).mono ?_; rintro e w2 ⟨vr, rfl, hR, hb⟩; replace K := below_trans K hb; obtain ⟨ng, ro, rl, rfl⟩ := hR.told; have d0 := (HD.out.below K).c0; have d1 := (HD.out.below K).c1; have g0 := (HD.out.below K).f0; have g1 := (HD.out.below K).f1))
  all_goals go_wp2
  all_goals
    have PD := (HD.out.below K).put (.bool ng) (.slice ro rl rl)
    have KB := below_put2 (b := w.heap.size + 2) (K1.trans (K.mono (by have := K1.size; omega))) (by omega) (.bool ng) (.slice ro rl rl)
    have WN := ((hR.put lt1 0 (.bool ng)).put lt1 1 (.slice ro rl rl)).low (B' := w.heap.size) (by omega)
    rw [show (if sgn n1 0 * sgn n2 0 = -1 then -(a1 * a2) else a1 * a2) = n1 * n2 from sg_mul hs1 hs2] at WN
    clear p1 q1 A1 HC1 p2 q2 A2 HC2 d0 d1 g0 g1 hR K K1 HD hN
    generalize (w2.setCell ⟨w.heap.size + 2, 0, none⟩ (.bool ng)).setCell ⟨w.heap.size + 2, 1, none⟩ (.slice ro rl rl) = w3 at *
    (try simp only [Exit.inBlock, Exit.then])
    exact bodyPost_ret (v := .agg #[.bool ng, .slice ro rl rl]) (by simp [results, Tryz.results55, go_sem, PD.c0, PD.c1]) rfl ⟨_, rfl, WN, KB⟩

end Go.Proofs.YtejenbkhhcjeaaaGreatDoor

namespace Go.Proofs.YtejenbkhhcjeaaaGreatDoor
open Go.RowKit

set_option maxHeartbeats 1000000 in
theorem compare_sign (x y : Int) (w : World) :
    Calls Tryz.prog 119 #[.int .i8 x, .int .i8 y] w fun e w' => e = .returned (.int .i64 (sgn x y)) ∧ w' = w := by
  have hx : (x != x) = false := by simp
  have hy : (y != y) = false := by simp
  rcases Int.lt_trichotomy x y with h | h | h
  · rw [sgn_lt h]
    go_enter Tryz.func119, Tryz.ntmps119
    go_wp2
    go_ret
    exact ⟨rfl, rfl⟩
  · subst h
    rw [sgn_eq rfl]
    go_enter Tryz.func119, Tryz.ntmps119
    go_wp2
    go_ret
    exact ⟨rfl, rfl⟩
  · rw [sgn_gt h]
    have h' : ¬ x < y := by omega
    go_enter Tryz.func119, Tryz.ntmps119
    go_wp2
    go_ret
    exact ⟨rfl, rfl⟩

theorem sgn_cases (x y : Int) : (x < y ∧ sgn x y = -1) ∨ (x = y ∧ sgn x y = 0) ∨ (y < x ∧ sgn x y = 1) := by
  rcases Int.lt_trichotomy x y with h | h | h
  · exact Or.inl ⟨h, sgn_lt h⟩
  · exact Or.inr (Or.inl ⟨h, sgn_eq h⟩)
  · exact Or.inr (Or.inr ⟨h, sgn_gt h⟩)
theorem sgn_bound (x y : Int) : -1 ≤ sgn x y ∧ sgn x y ≤ 1 := by rcases sgn_cases x y with h | h | h <;> omega
theorem sgn_sign {n m s t a b : Int} (hn : Sg n s a) (hm : Sg m t b) (h : s ≠ t) : sgn s t = sgn n m := by
  unfold Sg at hn hm
  rcases sgn_cases s t with h1 | h1 | h1 <;> rcases sgn_cases n m with h2 | h2 | h2 <;> omega
theorem sgn_size {n m s a b : Int} (hn : Sg n s a) (hm : Sg m s b) : s * sgn a b = sgn n m := by
  unfold Sg at hn hm
  rcases hn with ⟨h1, rfl, h3⟩ | ⟨h1, rfl, h3⟩ | ⟨h1, rfl, h3⟩ <;> rcases sgn_cases a b with h4 | h4 | h4 <;> rcases sgn_cases n m with h2 | h2 | h2 <;> rw [h4.2, h2.2] <;> first | rfl | omega

set_option maxRecDepth 20000 in
set_option maxHeartbeats 4000000 in
theorem wcmp_any {w : World} {v1 : Value} {n1 : Int} {k1 : Nat} {v2 : Value} {n2 : Int} {k2 : Nat} (h1 : WArg w v1 n1 k1) (h2 : WArg w v2 n2 k2) (j1 : k1 ≤ 1099511627776) (j2 : k2 ≤ 1099511627776) :
    Calls Tryz.prog 46 #[v1, v2] w fun e w' => e = .returned (.int .i64 (sgn n1 n2)) ∧ Below w.heap.size w w' := by
  obtain ⟨neg1, m1, a1, rfl, ha, hn1⟩ := h1
  have A1 := ha
  obtain ⟨zs1, ⟨ao1, cap1, rfl, -⟩, -⟩ := ha
  have N1 := A1.nonneg
  have hs1 := sg_self hn1 N1
  have Hn1 := hide hn1
  clear hn1
  obtain ⟨neg2, m2, a2, rfl, ha, hn2⟩ := h2
  have A2 := ha
  obtain ⟨zs2, ⟨ao2, cap2, rfl, -⟩, -⟩ := ha
  have N2 := A2.nonneg
  have hs2 := sg_self hn2 N2
  have Hn2 := hide hn2
  clear hn2
  have K1 : Below w.heap.size w ((w.alloc (.cells #[.bool neg1, .slice ao1 zs1.length cap1] 25)).alloc (.cells #[.bool neg2, .slice ao2 zs2.length cap2] 25)) := below_trans (bel_alloc _ _) (bel_alloc _ _)
  have z1 : (w.alloc (.cells #[.bool neg1, .slice ao1 zs1.length cap1] 25)).heap.size = w.heap.size + 1 := by simp
  have C1 := (cell2_new w (.bool neg1) (.slice ao1 zs1.length cap1) 25).alloc (.cells #[.bool neg2, .slice ao2 zs2.length cap2] 25)
  have C2 := cell2_new (w.alloc (.cells #[.bool neg1, .slice ao1 zs1.length cap1] 25)) (.bool neg2) (.slice ao2 zs2.length cap2) 25
  rw [z1] at C2
  replace A1 := A1.below K1
  replace A2 := A2.below K1
  have HC1 := hide C1
  have HC2 := hide C2
  clear C1 C2 z1
  have l1 := hs1.bound.1
  have u1 := hs1.bound.2
  go_enter Tryz.func46, Tryz.ntmps46
  go_wp2_with fail
  with_reducible refine (sign_any A1 Hn1.out j1).mono ?_
  rintro e w2 ⟨rfl, hb2⟩
  have K := hb2
  have p0 := (HC2.out.below K).c0
  have p1 := (HC2.out.below K).c1
  go_wp2_with fail
  with_reducible refine (sign_any (A2.below K) Hn2.out j2).mono ?_
  rintro e w3 ⟨rfl, hb3⟩
  replace K := below_trans K hb3
  clear hb2 hb3 p0 p1
  go_wp2_with fail
  with_reducible refine (compare_sign _ _ _).mono ?_
  rintro e w4 ⟨rfl, rfl⟩
  by_cases hst : sgn n1 0 = sgn n2 0
  · have q0 : sgn (sgn n1 0) (sgn n2 0) = 0 := sgn_eq hst
    rw [← hst] at hs2
    have hval := hide (sgn_size hs1 hs2)
    have hbd : -1 ≤ sgn n1 0 * sgn a1 a2 ∧ sgn n1 0 * sgn a1 a2 ≤ 1 := by rw [hval.out]; exact sgn_bound _ _
    have p0 := (HC1.out.below K).c1
    have p1 := (HC2.out.below K).c1
    clear hs1 hs2
    have Hst := hide hst
    clear hst
    go_wp2_with fail
    with_reducible refine (cmp_any (A1.below K) (A2.below K) j1 j2).mono ?_
    rintro e w5 ⟨rfl, hb5⟩
    have b1 := hbd.1
    have b2 := hbd.2
    clear hbd
    go_wp2
    go_ret
    refine ⟨?_, K1.trans ((below_trans K hb5).mono K1.size)⟩
    rw [← hval.out]
    rfl
  · have q0 : ¬ sgn (sgn n1 0) (sgn n2 0) = 0 := by
      rcases sgn_cases (sgn n1 0) (sgn n2 0) with h | h | h <;> omega
    have hval := hide (sgn_sign hs1 hs2 hst)
    clear hs1 hs2 hst
    have q1 : (sgn (sgn n1 0) (sgn n2 0) != 0) = true := by simp [q0]
    go_wp2
    go_ret
    refine ⟨?_, K1.trans (K.mono K1.size)⟩
    rw [← hval.out]
    rfl

set_option maxRecDepth 20000 in
set_option maxHeartbeats 4000000 in
theorem wfrom_any {w : World} {n : Int} (h0 : -9223372036854775808 ≤ n) (h1 : n ≤ 9223372036854775807) :
    Calls Tryz.prog 43 #[.int .i64 n] w fun e w' => ∃ v, e = .returned v ∧ WNum w.heap.size w' v n 2 ∧ Below w.heap.size w w' := by
  have K1 := bel_alloc w (.cells #[.bool false, .slice none 0 0] 25)
  have D1 := cell2_new w (.bool false) (.slice none 0 0) 25
  have HD := hide D1
  clear D1
  have lt1 := HD.out.lt
  by_cases hn : n < 0
  · have e1 : IntKind.u64.wrap (wrap64 (-n)) = -n := by
      simp only [wrap64, IntKind.wrap, IntKind.bits, IntKind.signed]; simp; omega
    have He1 := hide e1
    clear e1
    go_enter Tryz.func43, Tryz.ntmps43
    go_wp2_with fail
    rw [He1.out]
    with_reducible refine (from_any (-n) (by omega) (by omega)).mono ?_
    rintro e w2 ⟨vn, rfl, hN, hb2⟩
    go_wp2_with fail
    with_reducible refine (number_any hN (by omega)).mono ?_
    rintro e w3 ⟨vr, rfl, hR, hb3⟩
    rw [if_pos rfl, Int.neg_neg] at hR
    have K := below_trans hb2 hb3
    clear hb2 hb3 hN
    obtain ⟨ng, ro, rl, rfl⟩ := hR.told
    have d0 := (HD.out.below K).c0
    have d1 := (HD.out.below K).c1
    have g0 := (HD.out.below K).f0
    have g1 := (HD.out.below K).f1
    go_wp2
    have PD := (HD.out.below K).put (.bool ng) (.slice ro rl rl)
    have KB := below_put2 (b := w.heap.size) (K1.trans (K.mono (by have := K1.size; omega))) (by omega) (.bool ng) (.slice ro rl rl)
    have WN := ((hR.put lt1 0 (.bool ng)).put lt1 1 (.slice ro rl rl)).low (B' := w.heap.size) (by omega)
    clear d0 d1 g0 g1 hR K K1 HD
    generalize (w3.setCell ⟨w.heap.size, 0, none⟩ (.bool ng)).setCell ⟨w.heap.size, 1, none⟩ (.slice ro rl rl) = w9 at *
    (try simp only [Exit.inBlock, Exit.then])
    exact bodyPost_ret (v := .agg #[.bool ng, .slice ro rl rl]) (by simp [results, Tryz.results43, go_sem, PD.c0, PD.c1]) rfl ⟨_, rfl, WN, KB⟩
  · go_enter Tryz.func43, Tryz.ntmps43
    go_wp2_with fail
    with_reducible refine (from_any n (by omega) (by omega)).mono ?_
    rintro e w2 ⟨vn, rfl, hN, hb2⟩
    go_wp2_with fail
    with_reducible refine (number_any hN (by omega)).mono ?_
    rintro e w3 ⟨vr, rfl, hR, hb3⟩
    rw [if_neg (by decide)] at hR
    have K := below_trans hb2 hb3
    clear hb2 hb3 hN
    obtain ⟨ng, ro, rl, rfl⟩ := hR.told
    have d0 := (HD.out.below K).c0
    have d1 := (HD.out.below K).c1
    have g0 := (HD.out.below K).f0
    have g1 := (HD.out.below K).f1
    go_wp2
    have PD := (HD.out.below K).put (.bool ng) (.slice ro rl rl)
    have KB := below_put2 (b := w.heap.size) (K1.trans (K.mono (by have := K1.size; omega))) (by omega) (.bool ng) (.slice ro rl rl)
    have WN := ((hR.put lt1 0 (.bool ng)).put lt1 1 (.slice ro rl rl)).low (B' := w.heap.size) (by omega)
    clear d0 d1 g0 g1 hR K K1 HD
    generalize (w3.setCell ⟨w.heap.size, 0, none⟩ (.bool ng)).setCell ⟨w.heap.size, 1, none⟩ (.slice ro rl rl) = w9 at *
    (try simp only [Exit.inBlock, Exit.then])
    exact bodyPost_ret (v := .agg #[.bool ng, .slice ro rl rl]) (by simp [results, Tryz.results43, go_sem, PD.c0, PD.c1]) rfl ⟨_, rfl, WN, KB⟩

theorem sg_lt {n s a : Int} (h : Sg n s a) : ((s == -1) : Bool) = decide (n < 0) := by
  unfold Sg at h
  by_cases h0 : n < 0
  · have : s = -1 := by omega
    simp [this, h0]
  · have : ¬ s = -1 := by omega
    simp [this, h0]

end Go.Proofs.YtejenbkhhcjeaaaGreatDoor

namespace Go.Proofs.YtejenbkhhcjeaaaGreatDoor
open Go.RowKit

theorem below_trans' {a b c : World} (k : Below b.heap.size b c) (h : Below a.heap.size a b) : Below a.heap.size a c := below_trans h k
theorem after1 {w w2 : World} {x y : Value} {t : TypeId} (hb : Below (w.alloc (.cells #[x, y] t)).heap.size (w.alloc (.cells #[x, y] t)) w2) : Cell2 w2 w.heap.size x y ∧ True := ⟨(cell2_new w x y t).below hb, trivial⟩
theorem after2 {w w2 : World} {x y x' y' : Value} {t t' : TypeId} (hb : Below ((w.alloc (.cells #[x, y] t)).alloc (.cells #[x', y'] t')).heap.size ((w.alloc (.cells #[x, y] t)).alloc (.cells #[x', y'] t')) w2) : Cell2 w2 w.heap.size x y ∧ Cell2 w2 (w.heap.size + 1) x' y' := by
  refine ⟨((cell2_new w x y t).alloc _).below hb, ?_⟩
  have h := (cell2_new (w.alloc (.cells #[x, y] t)) x' y' t').below hb
  rw [show (w.alloc (.cells #[x, y] t)).heap.size = w.heap.size + 1 by simp] at h
  exact h

theorem after1_k {G : Prop} {w w2 : World} {x y : Value} {t : TypeId} (h : Cell2 w2 w.heap.size x y → Below (w.alloc (.cells #[x, y] t)).heap.size (w.alloc (.cells #[x, y] t)) w2 → G) : Below (w.alloc (.cells #[x, y] t)).heap.size (w.alloc (.cells #[x, y] t)) w2 → G := fun hb => h (after1 hb).1 hb
theorem after2_k {G : Prop} {w w2 : World} {x y x' y' : Value} {t t' : TypeId} (h : Cell2 w2 w.heap.size x y ∧ Cell2 w2 (w.heap.size + 1) x' y' → Below ((w.alloc (.cells #[x, y] t)).alloc (.cells #[x', y'] t')).heap.size ((w.alloc (.cells #[x, y] t)).alloc (.cells #[x', y'] t')) w2 → G) : Below ((w.alloc (.cells #[x, y] t)).alloc (.cells #[x', y'] t')).heap.size ((w.alloc (.cells #[x, y] t)).alloc (.cells #[x', y'] t')) w2 → G := fun hb => h (after2 hb) hb

theorem after1d_k {G : Prop} {w w2 : World} {x y : Value} {t : TypeId} (h : Cell2 w2 w.heap.size x y → Below (w.alloc (.cells #[x, y] t)).drew.heap.size (w.alloc (.cells #[x, y] t)).drew w2 → G) : Below (w.alloc (.cells #[x, y] t)).drew.heap.size (w.alloc (.cells #[x, y] t)).drew w2 → G :=
  fun hb => h (((cell2_new w x y t).below (Below.refl _ _).drew).below hb) hb
theorem after2d_k {G : Prop} {w w2 : World} {x y x' y' : Value} {t t' : TypeId} (h : Cell2 w2 w.heap.size x y ∧ Cell2 w2 (w.heap.size + 1) x' y' → Below ((w.alloc (.cells #[x, y] t)).alloc (.cells #[x', y'] t')).drew.heap.size ((w.alloc (.cells #[x, y] t)).alloc (.cells #[x', y'] t')).drew w2 → G) : Below ((w.alloc (.cells #[x, y] t)).alloc (.cells #[x', y'] t')).drew.heap.size ((w.alloc (.cells #[x, y] t)).alloc (.cells #[x', y'] t')).drew w2 → G :=
  fun hb => h (after2 (below_trans (Below.refl _ _).drew hb)) hb

/-- two new cells behind one another -/
theorem two_aa {w wn : World} (K : Below w.heap.size w wn) (x y x' y' : Value) (t t' : TypeId) :
    Cell2 ((wn.alloc (.cells #[x, y] t)).alloc (.cells #[x', y'] t')) wn.heap.size x y ∧ Cell2 ((wn.alloc (.cells #[x, y] t)).alloc (.cells #[x', y'] t')) (wn.heap.size + 1) x' y' ∧ Below w.heap.size w ((wn.alloc (.cells #[x, y] t)).alloc (.cells #[x', y'] t')) ∧
      ∀ {B : Nat} {v : Value} {n : Int} {k : Nat}, WNum B wn v n k → WNum 0 ((wn.alloc (.cells #[x, y] t)).alloc (.cells #[x', y'] t')) v n k := by
  have hb : Below wn.heap.size wn ((wn.alloc (.cells #[x, y] t)).alloc (.cells #[x', y'] t')) := below_trans (bel_alloc _ _) (bel_alloc _ _)
  have h := after2 (Below.refl _ ((wn.alloc (.cells #[x, y] t)).alloc (.cells #[x', y'] t')))
  exact ⟨h.1, h.2, below_trans K hb, fun q => (q.below hb).low (Nat.zero_le _)⟩
/-- one is written, one is new -/
theorem two_sa {w wn : World} {b : Nat} {u u' : Value} (K : Below w.heap.size w wn) (Z : Cell2 wn b u u') (hb : w.heap.size ≤ b) (x y x' y' : Value) (t : TypeId) :
    Cell2 (((wn.setCell ⟨b, 0, none⟩ x).setCell ⟨b, 1, none⟩ y).alloc (.cells #[x', y'] t)) b x y ∧ Cell2 (((wn.setCell ⟨b, 0, none⟩ x).setCell ⟨b, 1, none⟩ y).alloc (.cells #[x', y'] t)) wn.heap.size x' y' ∧ b ≠ wn.heap.size ∧ Below w.heap.size w (((wn.setCell ⟨b, 0, none⟩ x).setCell ⟨b, 1, none⟩ y).alloc (.cells #[x', y'] t)) ∧
      ∀ {B : Nat} {v : Value} {n : Int} {k : Nat}, WNum B wn v n k → b < B → WNum 0 (((wn.setCell ⟨b, 0, none⟩ x).setCell ⟨b, 1, none⟩ y).alloc (.cells #[x', y'] t)) v n k := by
  have hz : ((wn.setCell ⟨b, 0, none⟩ x).setCell ⟨b, 1, none⟩ y).heap.size = wn.heap.size := by simp [World.setCell]
  have hk := below_put2 K hb x y
  have hn := cell2_new ((wn.setCell ⟨b, 0, none⟩ x).setCell ⟨b, 1, none⟩ y) x' y' t
  rw [hz] at hn
  refine ⟨(Z.put x y).alloc _, hn, Nat.ne_of_lt Z.lt, below_trans hk (bel_alloc _ _), fun q hB => ?_⟩
  exact (((q.put hB 0 x).put hB 1 y).below (bel_alloc _ _)).low (Nat.zero_le _)
/-- both are written -/
theorem two_ss {w wn : World} {b c : Nat} {u u' z z' : Value} (K : Below w.heap.size w wn) (Z : Cell2 wn b u u') (Z' : Cell2 wn c z z') (hb : w.heap.size ≤ b) (hc : w.heap.size ≤ c) (hn : b ≠ c) (x y x' y' : Value) :
    Cell2 ((((wn.setCell ⟨b, 0, none⟩ x).setCell ⟨b, 1, none⟩ y).setCell ⟨c, 0, none⟩ x').setCell ⟨c, 1, none⟩ y') b x y ∧ Cell2 ((((wn.setCell ⟨b, 0, none⟩ x).setCell ⟨b, 1, none⟩ y).setCell ⟨c, 0, none⟩ x').setCell ⟨c, 1, none⟩ y') c x' y' ∧ Below w.heap.size w ((((wn.setCell ⟨b, 0, none⟩ x).setCell ⟨b, 1, none⟩ y).setCell ⟨c, 0, none⟩ x').setCell ⟨c, 1, none⟩ y') ∧
      ∀ {B : Nat} {v : Value} {n : Int} {k : Nat}, WNum B wn v n k → b < B → c < B → WNum 0 ((((wn.setCell ⟨b, 0, none⟩ x).setCell ⟨b, 1, none⟩ y).setCell ⟨c, 0, none⟩ x').setCell ⟨c, 1, none⟩ y') v n k :=
  ⟨(Z.put x y).away hn _ _, (Z'.away (fun e => hn e.symm) _ _).put _ _, below_put2 (below_put2 K hb x y) hc x' y', fun q h1 h2 => ((((q.put h1 0 x).put h1 1 y).put h2 0 x').put h2 1 y').low (Nat.zero_le _)⟩

theorem Num.putc {B : Nat} {w : World} {v : Value} {n : Int} {k b : Nat} {z : Bool} {u : Value} (h : Num B w v n k) (Z : Cell2 w b (.bool z) u) (x y : Value) : Num B ((w.setCell ⟨b, 0, none⟩ x).setCell ⟨b, 1, none⟩ y) v n k := by
  obtain ⟨zs, ⟨ao, h1, h2, h3⟩, h4⟩ := h
  refine ⟨zs, ⟨ao, h1, h2, fun hp => ?_⟩, h4⟩
  obtain ⟨g, rest, h5, h6, h7⟩ := h3 hp
  have hne : g ≠ b := by
    intro e
    subst e
    have hc := h7.cell (i := 0) (by rw [List.length_append]; omega)
    rw [Z.c0] at hc
    cases hc
  refine ⟨g, rest, h5, h6, ?_⟩
  unfold Row
  rw [Below.heap_setCell _ _ _ _ (by show g ≠ b; exact hne), Below.heap_setCell _ _ _ _ (by show g ≠ b; exact hne)]
  exact h7
theorem WNum.putc {B : Nat} {w : World} {v : Value} {n : Int} {k b : Nat} {z : Bool} {u : Value} (h : WNum B w v n k) (Z : Cell2 w b (.bool z) u) (x y : Value) : WNum B ((w.setCell ⟨b, 0, none⟩ x).setCell ⟨b, 1, none⟩ y) v n k := by
  obtain ⟨neg, m, a, rfl, h1, h2⟩ := h
  exact ⟨neg, m, a, rfl, h1.putc Z x y, h2⟩
theorem WNum.sign {B : Nat} {w : World} {ng : Bool} {m : Value} {n : Int} {k : Nat} (h : WNum B w (.agg #[.bool ng, m]) n k) : (ng = true → n < 0) ∧ (ng = false → 0 ≤ n) := by
  obtain ⟨neg, m', a, e, h1, rfl, h3⟩ := h
  simp at e
  obtain ⟨rfl, rfl⟩ := e
  have := h1.arg.nonneg
  unfold wn
  cases ng
  · exact ⟨fun h => (by cases h), fun _ => this⟩
  · exact ⟨fun _ => (by have h4 := h3 rfl; simp; exact h4), fun h => (by cases h)⟩

theorem wcmp_told {w : World} {v1 : Value} {n1 : Int} {k1 : Nat} {v2 : Value} {n2 : Int} {k2 : Nat} {c : Int} (hc : sgn n1 n2 = c) (h1 : WArg w v1 n1 k1) (h2 : WArg w v2 n2 k2) (j1 : k1 ≤ 1099511627776) (j2 : k2 ≤ 1099511627776) :
    Calls Tryz.prog 46 #[v1, v2] w fun e w' => e = .returned (.int .i64 c) ∧ Below w.heap.size w w' := by
  subst hc
  exact wcmp_any h1 h2 j1 j2

theorem wnum_zero (B : Nat) (w : World) (k : Nat) : WNum B w (.agg #[.bool false, .slice none 0 0]) 0 k :=
  ⟨false, _, 0, rfl, ⟨[], ⟨none, rfl, by unfold maxLen; simp, fun h => absurd h (by simp)⟩, Nt.canon_nil, rfl, Nat.zero_le _⟩, rfl, fun h => by cases h⟩

theorem wnum_eq {ng ng' : Bool} {a b n m : Int} (ha : n = wn ng a) (hb : m = wn ng' b) (pa : ng = true → 0 < a) (pb : ng' = true → 0 < b) (na : 0 ≤ a) (nb : 0 ≤ b) (he : n = m) : ng = ng' ∧ a = b := by
  subst ha
  subst hb
  unfold wn at he
  cases ng <;> cases ng' <;> simp at * <;> omega

set_option maxHeartbeats 1000000 in
theorem wsame_any {w : World} {va vb : Value} {n m : Int} {B B' k k' : Nat} (ha : WNum B w va n k) (hb : WNum B' w vb m k') (he : n = m) :
    Calls Tryz.prog 10 #[va, vb] w fun e w' => e = .returned (.bool true) ∧ Below w.heap.size w w' := by
  obtain ⟨ng, m1, a, rfl, h1, h2, h3⟩ := ha
  obtain ⟨ng', m2, b, rfl, k1, k2, k3⟩ := hb
  obtain ⟨rfl, rfl⟩ := wnum_eq h2 k2 h3 k3 h1.arg.nonneg k1.arg.nonneg he
  clear h2 k2 h3 k3 he
  have H1 := h1
  have K1 := k1
  obtain ⟨xs, ⟨ao, rfl, _, _⟩, _⟩ := h1
  obtain ⟨ys, ⟨bo, rfl, _, _⟩, _⟩ := k1
  have hB : Below w.heap.size w ((w.alloc (.cells #[.bool ng, .slice ao xs.length xs.length] 25)).alloc (.cells #[.bool ng, .slice bo ys.length ys.length] 25)) := below_trans (bel_alloc _ _) (bel_alloc _ _)
  have hc := same_num (H1.below hB) (K1.below hB) rfl
  have q : (ng == ng) = true := by simp
  clear H1 K1
  go_enter Tryz.func10, Tryz.ntmps10
  go_wp2_with fail
  with_reducible refine hc.mono ?_
  rintro e w3 ⟨rfl, hb3⟩
  go_wp2
  go_ret
  exact ⟨rfl, hB.trans (hb3.mono hB.size)⟩

/-- a cell of a list of structs -/
theorem beyond_one {w : World} {ao : Option Addr} {l cap : Nat} (hl : l ≤ 70368744177664) :
    Calls Tryz.prog 20 #[.slice (some ⟨w.heap.size, 0, none⟩) 1 1] (w.alloc (.cells #[.slice ao l cap] 23)) fun e w' => e = .returned (.bool (decide (1048576 < 1 + l))) ∧ w' = w.alloc (.cells #[.slice ao l cap] 23) := by
  have h := beyond_any (w := w.alloc (.cells #[.slice ao l cap] 23)) (g := w.heap.size) (ls := [l]) (by simp) (fun i => by
    match i with
    | 0 => simpa using hl
    | i + 1 => simp) (fun i hi => by
    match i, hi with
    | 0, _ => exact ⟨ao, cap, by rw [World.cell?_alloc_at _ _ _ _ rfl]; rfl⟩)
  refine h.mono ?_
  rintro e w' ⟨rfl, rfl⟩
  refine ⟨?_, rfl⟩
  have e1 : decide (1048576 < tot [l]) = decide (1048576 < 1 + l) := decide_eq_decide.2 (by simp [tot])
  rw [e1]

set_option maxRecDepth 20000 in
set_option maxHeartbeats 2000000 in
theorem wbeyond_any {w : World} {g : Nat} {ls : List Nat} (hm : ls.length ≤ 1000) (hl : ∀ i, ls.getD i 0 ≤ 70368744177664) (hg : g < w.heap.size)
    (hc : ∀ i, i < ls.length → ∃ ao cap, w.cell? ⟨g, i * 2 + 1, none⟩ = some (.slice ao (ls.getD i 0) cap)) :
    Calls Tryz.prog 5 #[.slice (some ⟨g, 0, none⟩) ls.length ls.length] w fun e w' => e = .returned (.bool (decide (∃ i, i < ls.length ∧ 1048576 < 1 + ls.getD i 0))) ∧ Below w.heap.size w w' := by
  go_enter Tryz.func5, Tryz.ntmps5
  go_wp2
  go_loopw [3] (fun i wr => ∃ k : Nat, k ≤ ls.length ∧ i = .int .i64 k ∧ (∀ j, j < k → ¬ 1048576 < 1 + ls.getD j 0) ∧ Below w.heap.size w wr) (fun i _ => ls.length - (intOf i).toNat)
  case atStart => exact ⟨0, Nat.zero_le _, rfl, fun j hj => by omega, Below.refl _ _⟩
  case round =>
    obtain ⟨k, hk, rfl, hno, hbr⟩ := hrel
    have HN := hide hno
    clear hno
    by_cases hkl : k < ls.length
    · obtain ⟨ao, cap, hcell⟩ := hc k hkl
      have hlk := hl k
      have hcell' := (hbr.cell (p := ⟨g, k * 2 + 1, none⟩) hg).trans hcell
      clear hc hl hcell
      generalize hL : ls.getD k 0 = L at *
      have HL := hide hL
      clear hL
      go_wp2_with fail
      with_reducible refine (beyond_one hlk).mono ?_
      rintro e w2 ⟨rfl, rfl⟩
      have hb2 := below_trans hbr (bel_alloc wr (.cells #[.slice ao L cap] 23))
      by_cases hq : 1048576 < 1 + L
      · rw [decide_eq_true hq]
        go_wp2
        go_ret
        refine ⟨?_, hb2⟩
        rw [decide_eq_true]
        · rfl
        · exact ⟨k, hkl, by rw [HL.out]; exact hq⟩
      · rw [decide_eq_false hq]
        go_wp2
        go_roundw
        case rel => exact ⟨k + 1, by omega, by go_num, fun j hj => by
            by_cases e : j = k
            · subst e; rw [HL.out]; exact hq
            · exact HN.out j (by omega), hb2⟩
        case measure => simp [intOf]; omega
    · have hke : k = ls.length := by omega
      subst hke
      go_wp2
      go_ret
      refine ⟨?_, hbr⟩
      rw [decide_eq_false]
      · rfl
      · rintro ⟨i, hi, h2⟩
        exact HN.out i hi h2

end Go.Proofs.YtejenbkhhcjeaaaGreatDoor

namespace Go.Proofs.YtejenbkhhcjeaaaGreatDoor
open Go.RowKit

set_option maxRecDepth 20000 in
set_option maxHeartbeats 4000000 in
theorem r3norm_any {w : World} {v1 : Value} {n1 : Int} {k1 : Nat} (h1 : WArg w v1 n1 k1) (j1 : k1 ≤ 1099511627776) :
    Calls Tryz.prog 40 #[v1] w fun e w' => ∃ v, e = .returned v ∧ WNum w.heap.size w' v n1 k1 ∧ Below w.heap.size w w' := by
  obtain ⟨neg1, m1, a1, rfl, ha, hn1⟩ := h1
  have A1 := ha
  have N1 := ha.nonneg
  obtain ⟨zs1, ⟨ao1, cap1, rfl, -⟩, -⟩ := ha
  have Hn := hide hn1
  clear hn1
  have K1 : Below w.heap.size w ((w.alloc (.cells #[.bool neg1, .slice ao1 zs1.length cap1] 25)).alloc (.cells #[.bool false, .slice none 0 0] 25)) := below_trans (bel_alloc _ _) (bel_alloc _ _)
  have C1 := (cell2_new w (.bool neg1) (.slice ao1 zs1.length cap1) 25).alloc (.cells #[.bool false, .slice none 0 0] 25)
  have D1 := (after2 (Below.refl _ ((w.alloc (.cells #[.bool neg1, .slice ao1 zs1.length cap1] 25)).alloc (.cells #[.bool false, .slice none 0 0] 25)))).2
  replace A1 := A1.below K1
  have HC := hide C1
  have HD := hide D1
  have lt1 := D1.lt
  clear C1 D1
  go_enter Tryz.func40, Tryz.ntmps40
  go_wp2_with fail
  with_reducible refine (rnorm_any A1 j1).mono ?_
  rintro e w2 ⟨vn, rfl, hN, K⟩
  have d0 := (HD.out.below K).c0
  have d1 := (HD.out.below K).c1
  have g0 := (HD.out.below K).f0
  have g1 := (HD.out.below K).f1
  have p0 := (HC.out.below K).c0
  have hN' := hN
  obtain ⟨xs, ⟨ro, rfl, hm, _⟩, hc, hv, _⟩ := hN
  have hp : (0 : Int) < (xs.length : Int) ↔ 0 < a1 := by
    constructor
    · intro h0
      rcases Int.lt_or_eq_of_le N1 with h2 | h2
      · exact h2
      · have h3 := Nt.canon_unique hc Nt.canon_nil (by rw [hv, ← h2]; rfl)
        rw [h3] at h0; simp at h0
    · intro h0
      rcases Nat.eq_zero_or_pos xs.length with h1 | h1
      · rw [List.eq_nil_of_length_eq_zero h1] at hv
        have : Nt.val [] = 0 := rfl
        omega
      · omega
  unfold maxLen at hm
  have h63 : (xs.length : Int) ≤ 9223372036854775807 := by omega
  have Hp := hide hp
  clear hp hc hv
  cases neg1
  · go_wp2
    have PD := (HD.out.below K).put (.bool false) (.slice ro xs.length xs.length)
    have KB := below_put2 (b := w.heap.size + 1) (K1.trans (K.mono (by have := K1.size; omega))) (by omega) (.bool false) (.slice ro xs.length xs.length)
    have WN : WNum w.heap.size ((w2.setCell ⟨w.heap.size + 1, 0, none⟩ (.bool false)).setCell ⟨w.heap.size + 1, 1, none⟩ (.slice ro xs.length xs.length)) (.agg #[.bool false, .slice ro xs.length xs.length]) n1 k1 := ⟨_, _, a1, rfl, num_low ((hN'.put lt1 0 _).put lt1 1 _) K1.size, Hn.out, fun h => by cases h⟩
    clear d0 d1 g0 g1 p0 hN' K K1 HD HC
    generalize (w2.setCell ⟨w.heap.size + 1, 0, none⟩ (.bool false)).setCell ⟨w.heap.size + 1, 1, none⟩ (.slice ro xs.length xs.length) = w9 at *
    (try simp only [Exit.inBlock, Exit.then])
    exact bodyPost_ret (v := .agg #[.bool false, .slice ro xs.length xs.length]) (by simp [results, Tryz.results40, go_sem, PD.c0, PD.c1]) rfl ⟨_, rfl, WN, KB⟩
  · obtain ⟨bb, hbb⟩ : ∃ bb, bb = decide ((0 : Int) < (xs.length : Int)) := ⟨_, rfl⟩
    have hb2 : decide (0 < xs.length) = bb := by rw [hbb]; exact decide_eq_decide.2 (by omega)
    have hval : n1 = wn bb a1 ∧ (bb = true → 0 < a1) := by
      have h1 := Hp.out
      have h2 := Hn.out
      by_cases h0 : 0 < a1
      · have : bb = true := by rw [hbb]; exact decide_eq_true (h1.2 h0)
        subst this; exact ⟨h2, fun _ => h0⟩
      · have : bb = false := by rw [hbb]; exact decide_eq_false (fun h => h0 (h1.1 h))
        subst this
        refine ⟨?_, fun h => by cases h⟩
        unfold wn at *; simp at h2 ⊢; omega
    have Hval := hide hval
    have hb3 := hbb.symm
    clear hval hbb Hp
    go_wp2
    have PD := (HD.out.below K).put (.bool bb) (.slice ro xs.length xs.length)
    have KB := below_put2 (b := w.heap.size + 1) (K1.trans (K.mono (by have := K1.size; omega))) (by omega) (.bool bb) (.slice ro xs.length xs.length)
    have WN : WNum w.heap.size ((w2.setCell ⟨w.heap.size + 1, 0, none⟩ (.bool bb)).setCell ⟨w.heap.size + 1, 1, none⟩ (.slice ro xs.length xs.length)) (.agg #[.bool bb, .slice ro xs.length xs.length]) n1 k1 := ⟨_, _, a1, rfl, num_low ((hN'.put lt1 0 _).put lt1 1 _) K1.size, Hval.out.1, Hval.out.2⟩
    clear d0 d1 g0 g1 p0 hN' K K1 HD HC
    generalize (w2.setCell ⟨w.heap.size + 1, 0, none⟩ (.bool bb)).setCell ⟨w.heap.size + 1, 1, none⟩ (.slice ro xs.length xs.length) = w9 at *
    (try simp only [Exit.inBlock, Exit.then])
    exact bodyPost_ret (v := .agg #[.bool bb, .slice ro xs.length xs.length]) (by simp [results, Tryz.results40, go_sem, PD.c0, PD.c1]) rfl ⟨_, rfl, WN, KB⟩

theorem field0_int (z : Bool) (m : Value) (w : World) : (Instr.field 25 (.agg #[.bool z, m]) 0).run Tryz.prog w = .ok (.bool z) w := by
  kernel_rfl

set_option maxRecDepth 20000 in
set_option maxHeartbeats 4000000 in
theorem r3below_any {w : World} {v1 : Value} {n1 : Int} {k1 : Nat} (h1 : WArg w v1 n1 k1) (j1 : k1 ≤ 1099511627776) :
    Calls Tryz.prog 32 #[v1] w fun e w' => e = .returned (.bool (decide (n1 < 0))) ∧ Below w.heap.size w w' := by
  have h1' := h1
  obtain ⟨neg1, m1, a1, rfl, ha, hn1⟩ := h1
  obtain ⟨zs1, ⟨ao1, cap1, rfl, -⟩, -⟩ := ha
  have K1 : Below w.heap.size w (w.alloc (.cells #[.bool neg1, .slice ao1 zs1.length cap1] 25)) := bel_alloc _ _
  have H1 := hide (h1'.below K1)
  clear h1' hn1
  go_enter Tryz.func32, Tryz.ntmps32
  go_wp2_with fail
  with_reducible refine (r3norm_any H1.out j1).mono ?_
  rintro e w2 ⟨vn, rfl, hN, K⟩
  obtain ⟨ng, ro, rl, rfl⟩ := hN.told
  have hs := hN.sign
  have hd : decide (n1 < 0) = ng := by
    cases ng
    · exact decide_eq_false (by have := hs.2 rfl; omega)
    · exact decide_eq_true (hs.1 rfl)
  have KB := K1.trans (K.mono K1.size)
  have Hd := hide hd
  clear hs hd hN K K1 H1
  have hfld : (Instr.field 25 (.agg #[.bool ng, .slice ro rl rl]) 0).run Tryz.prog w2 = .ok (.bool ng) w2 := field0_int _ _ _
  go_wp2
  go_ret
  exact ⟨by rw [Hd.out]; rfl, KB⟩

set_option maxRecDepth 20000 in
set_option maxHeartbeats 4000000 in
theorem r3from_any {w : World} {n : Int} (h0 : -9223372036854775808 ≤ n) (h1 : n ≤ 9223372036854775807) :
    Calls Tryz.prog 47 #[.int .i64 n] w fun e w' => ∃ v, e = .returned v ∧ WNum w.heap.size w' v n 2 ∧ Below w.heap.size w w' := by
  have K1 := bel_alloc w (.cells #[.bool false, .slice none 0 0] 25)
  have D1 := cell2_new w (.bool false) (.slice none 0 0) 25
  have HD := hide D1
  clear D1
  have lt1 := HD.out.lt
  by_cases hn : n < 0
  · have e1 : IntKind.u64.wrap (-IntKind.u64.wrap n) = -n := by
      simp only [IntKind.wrap, IntKind.bits, IntKind.signed]; simp; omega
    have He1 := hide e1
    clear e1
    go_enter Tryz.func47, Tryz.ntmps47
    go_wp2_with fail
    rw [He1.out]
    with_reducible refine (rfrom_any (-n) (by omega) (by omega)).mono ?_
    rintro e w3 ⟨vn, rfl, hN, K⟩
    have hN' := hN
    obtain ⟨xs, ⟨ro, rfl, _, _⟩, _⟩ := hN
    have d0 := (HD.out.below K).c0
    have d1 := (HD.out.below K).c1
    have g0 := (HD.out.below K).f0
    have g1 := (HD.out.below K).f1
    go_wp2
    have PD := (HD.out.below K).put (.bool true) (.slice ro xs.length xs.length)
    have KB := below_put2 (b := w.heap.size) (K1.trans (K.mono (by have := K1.size; omega))) (by omega) (.bool true) (.slice ro xs.length xs.length)
    have WN : WNum w.heap.size ((w3.setCell ⟨w.heap.size, 0, none⟩ (.bool true)).setCell ⟨w.heap.size, 1, none⟩ (.slice ro xs.length xs.length)) (.agg #[.bool true, .slice ro xs.length xs.length]) n 2 := ⟨_, _, -n, rfl, num_low ((hN'.put lt1 0 _).put lt1 1 _) (by omega), by unfold wn; simp, fun _ => by omega⟩
    clear d0 d1 g0 g1 hN' K K1 HD
    generalize (w3.setCell ⟨w.heap.size, 0, none⟩ (.bool true)).setCell ⟨w.heap.size, 1, none⟩ (.slice ro xs.length xs.length) = w9 at *
    (try simp only [Exit.inBlock, Exit.then])
    exact bodyPost_ret (v := .agg #[.bool true, .slice ro xs.length xs.length]) (by simp [results, Tryz.results47, go_sem, PD.c0, PD.c1]) rfl ⟨_, rfl, WN, KB⟩
  · go_enter Tryz.func47, Tryz.ntmps47
    go_wp2_with fail
    with_reducible refine (rfrom_any n (by omega) (by omega)).mono ?_
    rintro e w3 ⟨vn, rfl, hN, K⟩
    have hN' := hN
    obtain ⟨xs, ⟨ro, rfl, _, _⟩, _⟩ := hN
    have d0 := (HD.out.below K).c0
    have d1 := (HD.out.below K).c1
    have g0 := (HD.out.below K).f0
    have g1 := (HD.out.below K).f1
    go_wp2
    have PD := (HD.out.below K).put (.bool false) (.slice ro xs.length xs.length)
    have KB := below_put2 (b := w.heap.size) (K1.trans (K.mono (by have := K1.size; omega))) (by omega) (.bool false) (.slice ro xs.length xs.length)
    have WN : WNum w.heap.size ((w3.setCell ⟨w.heap.size, 0, none⟩ (.bool false)).setCell ⟨w.heap.size, 1, none⟩ (.slice ro xs.length xs.length)) (.agg #[.bool false, .slice ro xs.length xs.length]) n 2 := ⟨_, _, n, rfl, num_low ((hN'.put lt1 0 _).put lt1 1 _) (by omega), rfl, fun h => by cases h⟩
    clear d0 d1 g0 g1 hN' K K1 HD
    generalize (w3.setCell ⟨w.heap.size, 0, none⟩ (.bool false)).setCell ⟨w.heap.size, 1, none⟩ (.slice ro xs.length xs.length) = w9 at *
    (try simp only [Exit.inBlock, Exit.then])
    exact bodyPost_ret (v := .agg #[.bool false, .slice ro xs.length xs.length]) (by simp [results, Tryz.results47, go_sem, PD.c0, PD.c1]) rfl ⟨_, rfl, WN, KB⟩

set_option maxRecDepth 20000 in
set_option maxHeartbeats 4000000 in
theorem wtwin_any {w : World} {m : Value} {ng : Bool} {xs : List Int} (ha : Reads .u32 w m xs) (hl : xs.length ≤ 1099511627776) :
    Calls Tryz.prog 6 #[.agg #[.bool ng, m]] w fun e w' => ∃ g, e = .returned (.agg #[.bool ng, .slice (some ⟨g, 0, none⟩) xs.length (xs.length + 1)]) ∧ Twin w.heap.size w' (.slice (some ⟨g, 0, none⟩) xs.length (xs.length + 1)) xs ∧ Below w.heap.size w w' := by
  have R1 := ha
  obtain ⟨ao, cap, rfl, -⟩ := ha
  have K1 : Below w.heap.size w ((w.alloc (.cells #[.bool ng, .slice ao xs.length cap] 25)).alloc (.cells #[.bool false, .slice none 0 0] 25)) := below_trans (bel_alloc _ _) (bel_alloc _ _)
  have C1 := (cell2_new w (.bool ng) (.slice ao xs.length cap) 25).alloc (.cells #[.bool false, .slice none 0 0] 25)
  have D1 := (after2 (Below.refl _ ((w.alloc (.cells #[.bool ng, .slice ao xs.length cap] 25)).alloc (.cells #[.bool false, .slice none 0 0] 25)))).2
  replace R1 := R1.below K1
  have HC := hide C1
  have HD := hide D1
  have lt1 := D1.lt
  have p0 := C1.c0
  have p1 := C1.c1
  clear C1 D1
  go_enter Tryz.func6, Tryz.ntmps6
  go_upto_region 1 with fail
  generalize (w.alloc (.cells #[.bool ng, .slice ao xs.length cap] 25)).alloc (.cells #[.bool false, .slice none 0 0] 25) = w1 at *
  have K : Below w1.heap.size w1 w1.drew := (Below.refl _ _).drew
  go_region_held3 (fun w' => w'.cell? ⟨w.heap.size, 0, none⟩ = some (.bool ng) ∧ w'.cell? ⟨w.heap.size, 1, none⟩ = some (.slice ao xs.length cap))
    (first
      | with_reducible exact ⟨(HC.out.below K).c0, (HC.out.below K).c1⟩
      | with_reducible exact ⟨((HC.out.below K).away (by omega) _ _).c0, ((HC.out.below K).away (by omega) _ _).c1⟩
      | go_keep)
    (first
      | (go_at_call 21; (with_reducible refine (twin_any (R1.below K) hl).mono ?_); rintro e w2 ⟨vt, rfl, hT, hb⟩; have kl := K.size; replace K := below_trans K hb; obtain ⟨g, rfl, hg, hm, hrow⟩ := hT; have d0 := (HD.out.below K).c0; have d1 := (HD.out.below K).c1; have g0 := (HD.out.below K).f0; have g1 := (HD.out.below K).f1))
  all_goals go_wp2
  all_goals
    have PD := (HD.out.below K).put (.bool ng) (.slice (some ⟨g, 0, none⟩) xs.length (xs.length + 1))
    have KB := below_put2 (b := w.heap.size + 1) (K1.trans (K.mono (by have := K1.size; omega))) (by omega) (.bool ng) (.slice (some ⟨g, 0, none⟩) xs.length (xs.length + 1))
    have hne : g ≠ w.heap.size + 1 := by omega
    have TW : Twin w.heap.size ((w2.setCell ⟨w.heap.size + 1, 0, none⟩ (.bool ng)).setCell ⟨w.heap.size + 1, 1, none⟩ (.slice (some ⟨g, 0, none⟩) xs.length (xs.length + 1))) (.slice (some ⟨g, 0, none⟩) xs.length (xs.length + 1)) xs := by
      refine ⟨g, rfl, by omega, hm, ?_⟩
      unfold Row
      rw [Below.heap_setCell _ _ _ _ (by show g ≠ w.heap.size + 1; exact hne), Below.heap_setCell _ _ _ _ (by show g ≠ w.heap.size + 1; exact hne)]
      exact hrow
    clear d0 d1 g0 g1 K K1 HD HC p0 p1 hrow R1
    generalize (w2.setCell ⟨w.heap.size + 1, 0, none⟩ (.bool ng)).setCell ⟨w.heap.size + 1, 1, none⟩ (.slice (some ⟨g, 0, none⟩) xs.length (xs.length + 1)) = w9 at *
    (try simp only [Exit.inBlock, Exit.then])
    exact bodyPost_ret (v := .agg #[.bool ng, .slice (some ⟨g, 0, none⟩) xs.length (xs.length + 1)]) (by simp [results, Tryz.results6, go_sem, PD.c0, PD.c1]) rfl ⟨_, rfl, TW, KB⟩

theorem reads_one {k : IntKind} {w : World} {v : Value} {xs ys : List Int} (h1 : Reads k w v xs) (h2 : Reads k w v ys) : xs = ys := by
  obtain ⟨ao, cap, rfl, _, _, hc⟩ := h1
  obtain ⟨bo, cap', e, _, _, hd⟩ := h2
  injection e with e1 e2 e3
  subst e1
  refine Nt.ext_lb e2 (fun i hi => ?_)
  obtain ⟨b, off, h3, _, h4⟩ := hc (by omega)
  obtain ⟨b', off', h5, _, h6⟩ := hd (by omega)
  rw [h3] at h5
  injection h5 with h5
  injection h5 with h5 h7
  subst h5 h7
  have h8 := h4 i hi
  rw [h6 i (by omega)] at h8
  injection h8 with h8
  injection h8 with _ h8
  exact h8.symm
/-- a copy is the same number -/
theorem twin_arg3 {w w2 : World} {ng : Bool} {m vt : Value} {n : Int} {k B : Nat} {xs : List Int} (h : WArg w (.agg #[.bool ng, m]) n k) (hr : Reads .u32 w m xs) (ht : Twin B w2 vt xs) : WArg w2 (.agg #[.bool ng, vt]) n k := by
  obtain ⟨neg, m', a, e, ⟨ys, h1, h2, h3, h4⟩, h5⟩ := h
  simp at e
  obtain ⟨rfl, rfl⟩ := e
  obtain rfl := reads_one h1 hr
  exact ⟨_, _, a, rfl, ⟨_, ht.reads, h2, h3, h4⟩, h5⟩

set_option maxHeartbeats 1000000 in
theorem wleft_any {w : World} {va vb : Value} {ng : Bool} {xs : List Int} {B : Nat} (ha : Twin B w va xs) (hb : Reads .u32 w vb xs) :
    Calls Tryz.prog 9 #[.agg #[.bool ng, va], .agg #[.bool ng, vb]] w fun e w' => e = .returned (.bool true) ∧ Below w.heap.size w w' := by
  have H1 := ha
  have H2 := hb
  obtain ⟨g, rfl, _, _, _⟩ := ha
  obtain ⟨ao, cap, rfl, _⟩ := hb
  have hB : Below w.heap.size w ((w.alloc (.cells #[.bool ng, .slice (some ⟨g, 0, none⟩) xs.length (xs.length + 1)] 25)).alloc (.cells #[.bool ng, .slice ao xs.length cap] 25)) := below_trans (bel_alloc _ _) (bel_alloc _ _)
  have hc := left_any (H1.below hB) (H2.below hB)
  have q : (ng == ng) = true := by simp
  clear H1 H2
  go_enter Tryz.func9, Tryz.ntmps9
  go_wp2_with fail
  with_reducible refine hc.mono ?_
  rintro e w3 ⟨rfl, hb3⟩
  go_wp2
  go_ret
  exact ⟨rfl, hB.trans (hb3.mono hB.size)⟩

end Go.Proofs.YtejenbkhhcjeaaaGreatDoor

namespace Go.Proofs.YtejenbkhhcjeaaaGreatDoor
open Go.RowKit

theorem tdiv_sg {n m s t a b : Int} (h : Sg n s a) (k : Sg m t b) : (if s * t = -1 then -(a / b) else a / b) = n.tdiv m := by
  unfold Sg at h k
  rcases h with ⟨h1, rfl, rfl⟩ | ⟨rfl, rfl, rfl⟩ | ⟨h1, rfl, rfl⟩ <;> rcases k with ⟨k1, rfl, rfl⟩ | ⟨rfl, rfl, rfl⟩ | ⟨k1, rfl, rfl⟩ <;> simp
  · rw [← Int.tdiv_eq_ediv_of_nonneg (by omega), Int.neg_tdiv]; omega
  · rw [← Int.tdiv_eq_ediv_of_nonneg (by omega), Int.neg_tdiv]; omega
  · rw [← Int.tdiv_eq_ediv_of_nonneg (by omega)]
  · rw [← Int.tdiv_eq_ediv_of_nonneg (by omega)]
theorem tmod_sg {n m s t a b : Int} (h : Sg n s a) (k : Sg m t b) : (if s = -1 then -(a % b) else a % b) = n.tmod m := by
  unfold Sg at h k
  rcases h with ⟨h1, rfl, rfl⟩ | ⟨rfl, rfl, rfl⟩ | ⟨h1, rfl, rfl⟩ <;> rcases k with ⟨k1, rfl, rfl⟩ | ⟨rfl, rfl, rfl⟩ | ⟨k1, rfl, rfl⟩ <;> simp
  · rw [← Int.emod_neg, ← Int.tmod_eq_emod_of_nonneg (by omega), Int.neg_tmod, Int.tmod_neg]; simp
  · rw [← Int.tmod_eq_emod_of_nonneg (by omega), Int.neg_tmod]; omega
  · rw [← Int.tmod_eq_emod_of_nonneg (by omega)]
  · rw [← Int.tmod_eq_emod_of_nonneg (by omega)]

theorem tmod_lt {n m : Int} (h : ¬ m = 0) : (if n.tmod m < 0 then -n.tmod m else n.tmod m) < (if m < 0 then -m else m) := by
  have h1 := Int.lt_tmod_of_pos
  have h2 : (n.tmod m).natAbs < m.natAbs := by
    rw [Int.natAbs_tmod]
    exact Nat.mod_lt _ (Int.natAbs_pos.2 h)
  clear h1
  split <;> split <;> omega
theorem tmod_sgn (n m : Int) : n.tmod m = 0 ∨ sgn (n.tmod m) 0 = sgn n 0 := by
  rcases Int.lt_trichotomy n 0 with h | h | h
  · have h1 : n.tmod m ≤ 0 := by
      have h2 := Int.tmod_nonneg (a := -n) m (by omega)
      rw [Int.neg_tmod] at h2
      omega
    rcases Int.lt_or_eq_of_le h1 with h2 | h2
    · exact Or.inr (by rw [sgn_lt h2, sgn_lt h])
    · exact Or.inl h2
  · subst h; exact Or.inl (by simp)
  · have h1 := Int.tmod_nonneg (a := n) m (by omega)
    rcases Int.lt_or_eq_of_le h1 with h2 | h2
    · exact Or.inr (by rw [sgn_gt h2, sgn_gt h])
    · exact Or.inl h2.symm

set_option maxRecDepth 20000 in
set_option maxHeartbeats 4000000 in
theorem wquo_zero {w : World} {v1 : Value} {n1 : Int} {k1 : Nat} {v2 : Value} {n2 : Int} {k2 : Nat} (h1 : WArg w v1 n1 k1) (j1 : k1 ≤ 549755813888) (h2 : WArg w v2 n2 k2) (j2 : k2 ≤ 549755813888) (hz : n2 = 0) :
    Calls Tryz.prog 42 #[v1, v2] w fun e w' => e = .returned (.tuple #[.agg #[.bool false, .slice none 0 0], .agg #[.bool false, .slice none 0 0], .bool false]) ∧ Below w.heap.size w w' := by
  obtain ⟨neg1, m1, a1, rfl, ha, hn1⟩ := h1
  have A1 := ha
  obtain ⟨zs1, ⟨ao1, cap1, rfl, -⟩, -⟩ := ha
  obtain ⟨neg2, m2, a2, rfl, ha, hn2⟩ := h2
  have A2 := ha
  have N2 := ha.nonneg
  obtain ⟨zs2, ⟨ao2, cap2, rfl, -⟩, -⟩ := ha
  have ha2 : a2 = 0 := by unfold wn at hn2; split at hn2 <;> omega
  subst ha2
  clear hn1 hn2
  have K1 : Below w.heap.size w ((((w.alloc (.cells #[.bool neg1, .slice ao1 zs1.length cap1] 25)).alloc (.cells #[.bool neg2, .slice ao2 zs2.length cap2] 25)).alloc (.cells #[.bool false, .slice none 0 0] 25)).alloc (.cells #[.bool false, .slice none 0 0] 25)) := below_trans (below_trans (below_trans (bel_alloc _ _) (bel_alloc _ _)) (bel_alloc _ _)) (bel_alloc _ _)
  replace A1 := A1.below K1
  replace A2 := A2.below K1
  go_enter Tryz.func42, Tryz.ntmps42
  go_wp2_with fail
  with_reducible refine (div_zero A1 A2 (by omega) (by omega)).mono ?_
  rintro e w2 ⟨rfl, rfl⟩
  go_wp2
  go_returns
  exact ⟨rfl, K1⟩

set_option maxRecDepth 20000 in
set_option maxHeartbeats 8000000 in
theorem wquo_any {w : World} {v1 : Value} {n1 : Int} {k1 : Nat} {v2 : Value} {n2 : Int} {k2 : Nat} (h1 : WArg w v1 n1 k1) (j1 : k1 ≤ 549755813888) (h2 : WArg w v2 n2 k2) (j2 : k2 ≤ 549755813888) (hz : n2 ≠ 0) :
    Calls Tryz.prog 42 #[v1, v2] w fun e w' => ∃ q r, e = .returned (.tuple #[q, r, .bool true]) ∧ WNum w.heap.size w' q (n1.tdiv n2) k1 ∧ WNum w.heap.size w' r (n1.tmod n2) k2 ∧ Below w.heap.size w w' := by
  obtain ⟨neg1, m1, a1, rfl, ha, hn1⟩ := h1
  have A1 := ha
  obtain ⟨zs1, ⟨ao1, cap1, rfl, -⟩, -⟩ := ha
  have N1 := A1.nonneg
  have hs1 := sg_self hn1 N1
  have Hn1 := hide hn1
  clear hn1
  obtain ⟨neg2, m2, a2, rfl, ha, hn2⟩ := h2
  have A2 := ha
  obtain ⟨zs2, ⟨ao2, cap2, rfl, -⟩, -⟩ := ha
  have N2 := A2.nonneg
  have hs2 := sg_self hn2 N2
  have hp2 : 0 < a2 := by unfold wn at hn2; split at hn2 <;> omega
  have Hn2 := hide hn2
  clear hn2
  have l1 := hs1.bound.1
  have u1 := hs1.bound.2
  have l3 := (sg_mul_bound hs1 hs2).1
  have u3 := (sg_mul_bound hs1 hs2).2
  have HW : Hid (IntKind.i8.wrap (sgn n1 0 * sgn n2 0) = sgn n1 0 * sgn n2 0) := hide (IntWalk.i8_in _ ⟨by omega, by omega⟩)
  have eq := hide (tdiv_sg hs1 hs2)
  have er := hide (tmod_sg hs1 hs2)
  have K1 : Below w.heap.size w ((((w.alloc (.cells #[.bool neg1, .slice ao1 zs1.length cap1] 25)).alloc (.cells #[.bool neg2, .slice ao2 zs2.length cap2] 25)).alloc (.cells #[.bool false, .slice none 0 0] 25)).alloc (.cells #[.bool false, .slice none 0 0] 25)) := below_trans (below_trans (below_trans (bel_alloc _ _) (bel_alloc _ _)) (bel_alloc _ _)) (bel_alloc _ _)
  have z1 : (w.alloc (.cells #[.bool neg1, .slice ao1 zs1.length cap1] 25)).heap.size = w.heap.size + 1 := by simp
  have z2 : ((w.alloc (.cells #[.bool neg1, .slice ao1 zs1.length cap1] 25)).alloc (.cells #[.bool neg2, .slice ao2 zs2.length cap2] 25)).heap.size = w.heap.size + 2 := by simp
  have z3 : (((w.alloc (.cells #[.bool neg1, .slice ao1 zs1.length cap1] 25)).alloc (.cells #[.bool neg2, .slice ao2 zs2.length cap2] 25)).alloc (.cells #[.bool false, .slice none 0 0] 25)).heap.size = w.heap.size + 3 := by simp
  have C1 := (((cell2_new w (.bool neg1) (.slice ao1 zs1.length cap1) 25).alloc (.cells #[.bool neg2, .slice ao2 zs2.length cap2] 25)).alloc (.cells #[.bool false, .slice none 0 0] 25)).alloc (.cells #[.bool false, .slice none 0 0] 25)
  have C2 := ((cell2_new (w.alloc (.cells #[.bool neg1, .slice ao1 zs1.length cap1] 25)) (.bool neg2) (.slice ao2 zs2.length cap2) 25).alloc (.cells #[.bool false, .slice none 0 0] 25)).alloc (.cells #[.bool false, .slice none 0 0] 25)
  have D4 := (cell2_new ((w.alloc (.cells #[.bool neg1, .slice ao1 zs1.length cap1] 25)).alloc (.cells #[.bool neg2, .slice ao2 zs2.length cap2] 25)) (.bool false) (.slice none 0 0) 25).alloc (.cells #[.bool false, .slice none 0 0] 25)
  have D5 := cell2_new (((w.alloc (.cells #[.bool neg1, .slice ao1 zs1.length cap1] 25)).alloc (.cells #[.bool neg2, .slice ao2 zs2.length cap2] 25)).alloc (.cells #[.bool false, .slice none 0 0] 25)) (.bool false) (.slice none 0 0) 25
  rw [z1] at C2
  rw [z2] at D4
  rw [z3] at D5
  clear z1 z2 z3
  replace A1 := A1.below K1
  replace A2 := A2.below K1
  have HC1 := hide C1
  have HC2 := hide C2
  have H4 := hide D4
  have H5 := hide D5
  clear C1 C2 D4 D5
  go_enter Tryz.func42, Tryz.ntmps42
  go_wp2_with fail
  with_reducible refine (div_any A1 A2 j1 j2 hp2).mono ?_
  rintro e w2 ⟨vq, vr, rfl, hq, hr, hbd⟩
  go_upto_region 4 with fail
  replace A1 := A1.below hbd
  replace A2 := A2.below hbd
  have C1 := HC1.out.below hbd
  have C2 := HC2.out.below hbd
  have D4 := H4.out.below hbd
  have D5 := H5.out.below hbd
  replace K1 := K1.trans (hbd.mono K1.size)
  have lq : w.heap.size + 3 < w2.heap.size := D5.lt
  replace hq := num_low (B' := w.heap.size + 4) hq (by have := H5.out.lt; omega)
  replace hr := num_low (B' := w.heap.size + 4) hr (by have := H5.out.lt; omega)
  clear HC1 HC2 H4 H5 hbd
  have HC1 := hide C1
  have HC2 := hide C2
  have H4 := hide D4
  have H5 := hide D5
  have p1 := C1.c0
  have q1 := C1.c1
  have p2 := C2.c0
  have q2 := C2.c1
  clear C1 C2 D4 D5
  have K : Below w2.heap.size w2 w2.drew := (Below.refl _ _).drew
  replace hq := hq.below K
  replace hr := hr.below K
  go_region_held3 (fun w' => w'.cell? ⟨w.heap.size, 0, none⟩ = some (.bool neg1) ∧ w'.cell? ⟨w.heap.size, 1, none⟩ = some (.slice ao1 zs1.length cap1) ∧ w'.cell? ⟨w.heap.size + 1, 0, none⟩ = some (.bool neg2) ∧ w'.cell? ⟨w.heap.size + 1, 1, none⟩ = some (.slice ao2 zs2.length cap2))
    (first
      | with_reducible exact ⟨(HC1.out.below K).c0, (HC1.out.below K).c1, (HC2.out.below K).c0, (HC2.out.below K).c1⟩
      | with_reducible exact ⟨((HC1.out.below K).away (by omega) _ _).c0, ((HC1.out.below K).away (by omega) _ _).c1, ((HC2.out.below K).away (by omega) _ _).c0, ((HC2.out.below K).away (by omega) _ _).c1⟩
      | with_reducible exact ⟨(((HC1.out.below K).away (by omega) _ _).away (by omega) _ _).c0, (((HC1.out.below K).away (by omega) _ _).away (by omega) _ _).c1, (((HC2.out.below K).away (by omega) _ _).away (by omega) _ _).c0, (((HC2.out.below K).away (by omega) _ _).away (by omega) _ _).c1⟩
      | go_keep)
    (first
      | (go_at_call 22; first | (with_reducible refine (sign_any (A1.below K) Hn1.out (by omega)).mono ?_; rintro e w3 ⟨rfl, hb⟩; replace K := below_trans K hb; replace hq := hq.below hb; replace hr := hr.below hb; (try replace R1 := R1.below hb); (try replace R2 := R2.below hb); clear hb; have d40 := (H4.out.below K).c0; have d41 := (H4.out.below K).c1; have g40 := (H4.out.below K).f0; have g41 := (H4.out.below K).f1; have d50 := (H5.out.below K).c0; have d51 := (H5.out.below K).c1; have g50 := (H5.out.below K).f0; have g51 := (H5.out.below K).f1) | (with_reducible refine (sign_any (A2.below K) Hn2.out (by omega)).mono ?_; rintro e w3 ⟨rfl, hb⟩; replace K := below_trans K hb; replace hq := hq.below hb; replace hr := hr.below hb; (try replace R1 := R1.below hb); (try replace R2 := R2.below hb); clear hb; have d40 := (H4.out.below K).c0; have d41 := (H4.out.below K).c1; have g40 := (H4.out.below K).f0; have g41 := (H4.out.below K).f1; have d50 := (H5.out.below K).c0; have d51 := (H5.out.below K).c1; have g50 := (H5.out.below K).f0; have g51 := (H5.out.below K).f1))
      | (go_at_call 37; (try rw [HW.out]); first | (with_reducible refine (number_any hq ⟨l3, u3⟩).mono ?_; rintro e w3 ⟨vw, rfl, R1, hb⟩; rw [eq.out] at R1; obtain ⟨ng1, ro1, rl1, rfl⟩ := R1.told; replace K := below_trans K hb; replace hq := hq.below hb; replace hr := hr.below hb; (try replace R2 := R2.below hb); clear hb; have d40 := (H4.out.below K).c0; have d41 := (H4.out.below K).c1; have g40 := (H4.out.below K).f0; have g41 := (H4.out.below K).f1; have d50 := (H5.out.below K).c0; have d51 := (H5.out.below K).c1; have g50 := (H5.out.below K).f0; have g51 := (H5.out.below K).f1) | (with_reducible refine (number_any hr ⟨l1, u1⟩).mono ?_; rintro e w3 ⟨vw, rfl, R2, hb⟩; rw [er.out] at R2; obtain ⟨ng2, ro2, rl2, rfl⟩ := R2.told; replace K := below_trans K hb; replace hq := hq.below hb; replace hr := hr.below hb; (try replace R1 := R1.below hb); clear hb; have d40 := (H4.out.below K).c0; have d41 := (H4.out.below K).c1; have g40 := (H4.out.below K).f0; have g41 := (H4.out.below K).f1; have d50 := (H5.out.below K).c0; have d51 := (H5.out.below K).c1; have g50 := (H5.out.below K).f0; have g51 := (H5.out.below K).f1)))
  all_goals go_wp2
  all_goals
    have P4 := ((H4.out.below K).put (.bool ng1) (.slice ro1 rl1 rl1)).away (c := w.heap.size + 3) (by omega) (.bool ng2) (.slice ro2 rl2 rl2)
    have P5 := ((H5.out.below K).away (c := w.heap.size + 2) (by omega) (.bool ng1) (.slice ro1 rl1 rl1)).put (.bool ng2) (.slice ro2 rl2 rl2)
    have KB := below_put2 (b := w.heap.size + 3) (below_put2 (b := w.heap.size + 2) (K1.trans (K.mono (by have := K1.size; omega))) (by omega) (.bool ng1) (.slice ro1 rl1 rl1)) (by omega) (.bool ng2) (.slice ro2 rl2 rl2)
    have W1 := ((((R1.put (b := w.heap.size + 2) (by omega) 0 (.bool ng1)).put (b := w.heap.size + 2) (by omega) 1 (.slice ro1 rl1 rl1)).put (b := w.heap.size + 3) (by omega) 0 (.bool ng2)).put (b := w.heap.size + 3) (by omega) 1 (.slice ro2 rl2 rl2)).low (B' := w.heap.size) (by omega)
    have W2 := ((((R2.put (b := w.heap.size + 2) (by omega) 0 (.bool ng1)).put (b := w.heap.size + 2) (by omega) 1 (.slice ro1 rl1 rl1)).put (b := w.heap.size + 3) (by omega) 0 (.bool ng2)).put (b := w.heap.size + 3) (by omega) 1 (.slice ro2 rl2 rl2)).low (B' := w.heap.size) (by omega)
    clear d40 d41 g40 g41 d50 d51 g50 g51 R1 R2 K K1 H4 H5 HC1 HC2 A1 A2 p1 q1 p2 q2 hq hr
    generalize (((w3.setCell ⟨w.heap.size + 2, 0, none⟩ (.bool ng1)).setCell ⟨w.heap.size + 2, 1, none⟩ (.slice ro1 rl1 rl1)).setCell ⟨w.heap.size + 3, 0, none⟩ (.bool ng2)).setCell ⟨w.heap.size + 3, 1, none⟩ (.slice ro2 rl2 rl2) = w9 at *
    (try simp only [Exit.inBlock, Exit.then])
    exact bodyPost_ret (v := .tuple #[.agg #[.bool ng1, .slice ro1 rl1 rl1], .agg #[.bool ng2, .slice ro2 rl2 rl2], .bool true]) (by simp [results, Tryz.results42, go_sem, P4.c0, P4.c1, P5.c0, P5.c1]) rfl ⟨_, _, rfl, W1, W2, KB⟩

end Go.Proofs.YtejenbkhhcjeaaaGreatDoor
