import Derived.Test.YticmlelalbaalaaGreatDoorB07
import Derived.Test.YticmlelalbaalaaGreatDoorB02
import Derived.Deep.Cut
import Derived.Test.YticmlelalbaalaaGreatDoorB03
namespace Go.Proofs.YticmlelalbaalaaGreatDoor
open Go.RowKit
theorem Num.put {B : Nat} {w : World} {v : Value} {n : Int} {k b : Nat} (h : Num B w v n k) (hb : b < B) (i : Nat) (x : Value) : Num B (w.setCell ⟨b, i, none⟩ x) v n k := by
  obtain ⟨zs, ⟨ao, h1, h2, h3⟩, h4⟩ := h
  refine ⟨zs, ⟨ao, h1, h2, fun hp => ?_⟩, h4⟩
  obtain ⟨g, rest, h5, h6, h7⟩ := h3 hp
  refine ⟨g, rest, h5, h6, ?_⟩
  unfold Row
  rw [Below.heap_setCell _ _ _ _ (by show g ≠ b; omega)]
  exact h7
theorem WNum.put {B : Nat} {w : World} {v : Value} {n : Int} {k b : Nat} (h : WNum B w v n k) (hb : b < B) (i : Nat) (x : Value) : WNum B (w.setCell ⟨b, i, none⟩ x) v n k := by
  obtain ⟨neg, m, a, rfl, h1, h2⟩ := h
  exact ⟨neg, m, a, rfl, h1.put hb i x, h2⟩
theorem WNum.told {B : Nat} {w : World} {v : Value} {n : Int} {k : Nat} (h : WNum B w v n k) : ∃ neg ao l, v = .agg #[.bool neg, .slice ao l l] := by
  obtain ⟨neg, m, a, rfl, ⟨zs, ⟨ao, rfl, _⟩, _⟩, _⟩ := h
  exact ⟨neg, ao, _, rfl⟩
structure Cell2 (w : World) (b : Nat) (x y : Value) : Prop where
  c0 : w.cell? ⟨b, 0, none⟩ = some x
  c1 : w.cell? ⟨b, 1, none⟩ = some y
  f0 : w.frozen? ⟨b, 0, none⟩ = false
  f1 : w.frozen? ⟨b, 1, none⟩ = false
  lt : b < w.heap.size
theorem Cell2.below {w w' : World} {b : Nat} {x y : Value} (h : Cell2 w b x y) (hb : Below w.heap.size w w') : Cell2 w' b x y :=
  ⟨(hb.cell (p := ⟨b, 0, none⟩) h.lt).trans h.c0, (hb.cell (p := ⟨b, 1, none⟩) h.lt).trans h.c1, (hb.frozen (p := ⟨b, 0, none⟩) h.lt).trans h.f0, (hb.frozen (p := ⟨b, 1, none⟩) h.lt).trans h.f1, Nat.lt_of_lt_of_le h.lt hb.size⟩
theorem cell2_new (w : World) (x y : Value) (t : TypeId) : Cell2 (w.alloc (.cells #[x, y] t)) w.heap.size x y := by
  refine ⟨?_, ?_, ?_, ?_, by simp⟩
  · rw [World.cell?_alloc_at _ _ _ _ rfl]; rfl
  · rw [World.cell?_alloc_at _ _ _ _ rfl]; rfl
  · rw [World.frozen?_alloc_at _ _ _ _ rfl]
  · rw [World.frozen?_alloc_at _ _ _ _ rfl]
theorem Cell2.alloc {w : World} {b : Nat} {x y : Value} (h : Cell2 w b x y) (o : Obj) : Cell2 (w.alloc o) b x y := h.below (bel_alloc w o)
theorem Cell2.put {w : World} {b : Nat} {x y : Value} (h : Cell2 w b x y) (x' y' : Value) : Cell2 ((w.setCell ⟨b, 0, none⟩ x').setCell ⟨b, 1, none⟩ y') b x' y' := by
  have n01 : (⟨b, 0, none⟩ : Addr) ≠ ⟨b, 1, none⟩ := by intro e; injection e with _ e _; cases e
  refine ⟨?_, ?_, ?_, ?_, by simpa [World.setCell] using h.lt⟩
  · rw [World.cell?_setCell_other _ _ _ _ (by first | exact n01 | exact n01.symm)]
    exact World.cell?_setCell_same _ _ _ h.c0
  · refine World.cell?_setCell_same (u := y) _ _ _ ?_
    rw [World.cell?_setCell_other _ _ _ _ (by first | exact n01.symm | exact n01)]
    exact h.c1
  · have := h.f0; simpa [go_sem] using this
  · have := h.f1; simpa [go_sem] using this
theorem Cell2.away {w : World} {b c : Nat} {x y : Value} (h : Cell2 w b x y) (hn : b ≠ c) (x' y' : Value) : Cell2 ((w.setCell ⟨c, 0, none⟩ x').setCell ⟨c, 1, none⟩ y') b x y := by
  have hh : ((w.setCell ⟨c, 0, none⟩ x').setCell ⟨c, 1, none⟩ y').heap[b]? = w.heap[b]? := (Below.heap_setCell _ _ _ _ (by show b ≠ c; exact hn)).trans (Below.heap_setCell _ _ _ _ (by show b ≠ c; exact hn))
  have hc : ∀ i, ((w.setCell ⟨c, 0, none⟩ x').setCell ⟨c, 1, none⟩ y').cell? ⟨b, i, none⟩ = w.cell? ⟨b, i, none⟩ := fun i => World.cell?_of_block hh
  refine ⟨(hc 0).trans h.c0, (hc 1).trans h.c1, ?_, ?_, by simpa [World.setCell] using h.lt⟩
  · have := h.f0; simpa [go_sem] using this
  · have := h.f1; simpa [go_sem] using this
theorem below_put2 {B : Nat} {w w' : World} {b : Nat} (h : Below B w w') (hb : B ≤ b) (x y : Value) : Below B w ((w'.setCell ⟨b, 0, none⟩ x).setCell ⟨b, 1, none⟩ y) :=
  (h.setCell (p := ⟨b, 0, none⟩) hb _).setCell (p := ⟨b, 1, none⟩) hb _
set_option maxRecDepth 20000 in
set_option maxHeartbeats 4000000 in
theorem wnorm_any {w : World} {v1 : Value} {n1 : Int} {k1 : Nat} (h1 : WArg w v1 n1 k1) (j1 : k1 ≤ 1099511627776) :
    Calls Tryz.prog 165 #[v1] w fun e w' => ∃ v, e = .returned v ∧ WNum w.heap.size w' v (n1) (k1) ∧ Below w.heap.size w w' := by
  obtain ⟨neg1, m1, a1, rfl, ha, hn1⟩ := h1
  have A1 := ha
  obtain ⟨zs1, ⟨ao1, cap1, rfl, -⟩, -⟩ := ha
  have N1 := A1.nonneg
  have hs1 := sg_self hn1 N1
  have Hn1 := hide hn1
  clear hn1
  go_enter Tryz.func165, Tryz.ntmps165
  go_upto_region 1 with fail
  have K1 : Below w.heap.size w ((w.alloc (.cells #[.bool neg1, .slice ao1 zs1.length cap1] 28)).alloc (.cells #[.bool false, .slice none 0 0] 28)) := (below_trans (bel_alloc _ _) (bel_alloc _ _))
  have z1 : (w.alloc (.cells #[.bool neg1, .slice ao1 zs1.length cap1] 28)).heap.size = w.heap.size + 1 := by simp
  have C1 := (cell2_new w (.bool neg1) (.slice ao1 zs1.length cap1) 28).alloc (.cells #[.bool false, .slice none 0 0] 28)
  have D1 := cell2_new (w.alloc (.cells #[.bool neg1, .slice ao1 zs1.length cap1] 28)) (.bool false) (.slice none 0 0) 28
  rw [z1] at D1
  replace A1 := A1.below K1
  clear z1
  generalize ((w.alloc (.cells #[.bool neg1, .slice ao1 zs1.length cap1] 28)).alloc (.cells #[.bool false, .slice none 0 0] 28)) = w1 at *
  have K : Below w1.heap.size w1 w1.drew := (Below.refl _ _).drew
  have p1 := C1.c0
  have q1 := C1.c1
  have HC1 := hide C1
  clear C1
  have l1 := hs1.bound.1
  have u1 := hs1.bound.2
  have lt1 := D1.lt
  have HD := hide D1
  clear D1
  go_region_held3 (fun w' => w'.cell? ⟨w.heap.size, 0, none⟩ = some (.bool neg1) ∧ w'.cell? ⟨w.heap.size, 1, none⟩ = some (.slice ao1 zs1.length cap1))
    (first
      | exact ⟨(HC1.out.below K).c0, (HC1.out.below K).c1⟩
      | exact ⟨((HC1.out.below K).away (by omega) _ _).c0, ((HC1.out.below K).away (by omega) _ _).c1⟩
      | go_keep)
    (first
      | (go_at_call 94; first | (with_reducible refine (sign_any (A1.below K) Hn1.out (by omega)).mono ?_; rintro e w2 ⟨rfl, hb⟩; replace K := below_trans K hb; (try replace hN := hN.below hb); clear hb))
      | (go_at_call 188; with_reducible refine (norm_any (A1.below K) (by omega)).mono ?_; rintro e w2 ⟨vn, rfl, hN, hb⟩; replace hN := num_low hN K.size; replace K := below_trans K hb; clear hb)
      | (go_at_call 187; (try rw [HW.out]); with_reducible refine (number_any hN (by unfold Sg at hs1; omega)).mono ?_; rintro e w2 ⟨vr, rfl, hR, hb⟩; replace K := below_trans K hb; obtain ⟨ng, ro, rl, rfl⟩ := hR.told; have d0 := (HD.out.below K).c0; have d1 := (HD.out.below K).c1; have g0 := (HD.out.below K).f0; have g1 := (HD.out.below K).f1))
  all_goals go_wp2
  all_goals
    have PD := (HD.out.below K).put (.bool ng) (.slice ro rl rl)
    have KB := below_put2 (b := w.heap.size + 1) (K1.trans (K.mono (by have := K1.size; omega))) (by omega) (.bool ng) (.slice ro rl rl)
    have WN := ((hR.put lt1 0 (.bool ng)).put lt1 1 (.slice ro rl rl)).low (B' := w.heap.size) (by omega)
    rw [show (if sgn n1 0 = -1 then -a1 else a1) = n1 by unfold Sg at hs1; split <;> omega] at WN
    clear p1 q1 A1 HC1 d0 d1 g0 g1 hR K K1 HD hN
    generalize (w2.setCell ⟨w.heap.size + 1, 0, none⟩ (.bool ng)).setCell ⟨w.heap.size + 1, 1, none⟩ (.slice ro rl rl) = w3 at *
    (try simp only [Exit.inBlock, Exit.then])
    exact bodyPost_ret (v := .agg #[.bool ng, .slice ro rl rl]) (by simp [results, Tryz.results165, go_sem, PD.c0, PD.c1]) rfl ⟨_, rfl, WN, KB⟩
theorem wnum_zero (B : Nat) (w : World) (k : Nat) : WNum B w (.agg #[.bool false, .slice none 0 0]) 0 k :=
  ⟨false, _, 0, rfl, ⟨[], ⟨none, rfl, by unfold maxLen; simp, fun h => absurd h (by simp)⟩, Nt.canon_nil, rfl, Nat.zero_le _⟩, rfl, fun h => by cases h⟩
set_option maxHeartbeats 1000000 in
theorem compare_sign (x y : Int) (w : World) :
    Calls Tryz.prog 95 #[.int .i8 x, .int .i8 y] w fun e w' => e = .returned (.int .i64 (sgn x y)) ∧ w' = w := by
  have hx : (x != x) = false := by simp
  have hy : (y != y) = false := by simp
  rcases Int.lt_trichotomy x y with h | h | h
  · rw [sgn_lt h]
    go_enter Tryz.func95, Tryz.ntmps95
    go_wp2
    go_ret
    exact ⟨rfl, rfl⟩
  · subst h
    rw [sgn_eq rfl]
    go_enter Tryz.func95, Tryz.ntmps95
    go_wp2
    go_ret
    exact ⟨rfl, rfl⟩
  · rw [sgn_gt h]
    have h' : ¬ x < y := by omega
    go_enter Tryz.func95, Tryz.ntmps95
    go_wp2
    go_ret
    exact ⟨rfl, rfl⟩
theorem sgn_cases (x y : Int) : (x < y ∧ sgn x y = -1) ∨ (x = y ∧ sgn x y = 0) ∨ (y < x ∧ sgn x y = 1) := by
  rcases Int.lt_trichotomy x y with h | h | h
  · exact Or.inl ⟨h, sgn_lt h⟩
  · exact Or.inr (Or.inl ⟨h, sgn_eq h⟩)
  · exact Or.inr (Or.inr ⟨h, sgn_gt h⟩)
theorem sgn_bound (x y : Int) : -1 ≤ sgn x y ∧ sgn x y ≤ 1 := by rcases sgn_cases x y with h | h | h <;> omega
theorem sgn_sign {n m s t a b : Int} (hn : Sg n s a) (hm : Sg m t b) (h : s ≠ t) : sgn s t = sgn n m := by
  unfold Sg at hn hm
  rcases sgn_cases s t with h1 | h1 | h1 <;> rcases sgn_cases n m with h2 | h2 | h2 <;> omega
theorem sgn_size {n m s a b : Int} (hn : Sg n s a) (hm : Sg m s b) : s * sgn a b = sgn n m := by
  unfold Sg at hn hm
  rcases hn with ⟨h1, rfl, h3⟩ | ⟨h1, rfl, h3⟩ | ⟨h1, rfl, h3⟩ <;> rcases sgn_cases a b with h4 | h4 | h4 <;> rcases sgn_cases n m with h2 | h2 | h2 <;> rw [h4.2, h2.2] <;> first | rfl | omega
set_option maxRecDepth 20000 in
set_option maxHeartbeats 4000000 in
theorem wcmp_any {w : World} {v1 : Value} {n1 : Int} {k1 : Nat} {v2 : Value} {n2 : Int} {k2 : Nat} (h1 : WArg w v1 n1 k1) (h2 : WArg w v2 n2 k2) (j1 : k1 ≤ 1099511627776) (j2 : k2 ≤ 1099511627776) :
    Calls Tryz.prog 53 #[v1, v2] w fun e w' => e = .returned (.int .i64 (sgn n1 n2)) ∧ Below w.heap.size w w' := by
  obtain ⟨neg1, m1, a1, rfl, ha, hn1⟩ := h1
  have A1 := ha
  obtain ⟨zs1, ⟨ao1, cap1, rfl, -⟩, -⟩ := ha
  have N1 := A1.nonneg
  have hs1 := sg_self hn1 N1
  have Hn1 := hide hn1
  clear hn1
  obtain ⟨neg2, m2, a2, rfl, ha, hn2⟩ := h2
  have A2 := ha
  obtain ⟨zs2, ⟨ao2, cap2, rfl, -⟩, -⟩ := ha
  have N2 := A2.nonneg
  have hs2 := sg_self hn2 N2
  have Hn2 := hide hn2
  clear hn2
  have K1 : Below w.heap.size w ((w.alloc (.cells #[.bool neg1, .slice ao1 zs1.length cap1] 28)).alloc (.cells #[.bool neg2, .slice ao2 zs2.length cap2] 28)) := below_trans (bel_alloc _ _) (bel_alloc _ _)
  have z1 : (w.alloc (.cells #[.bool neg1, .slice ao1 zs1.length cap1] 28)).heap.size = w.heap.size + 1 := by simp
  have C1 := (cell2_new w (.bool neg1) (.slice ao1 zs1.length cap1) 28).alloc (.cells #[.bool neg2, .slice ao2 zs2.length cap2] 28)
  have C2 := cell2_new (w.alloc (.cells #[.bool neg1, .slice ao1 zs1.length cap1] 28)) (.bool neg2) (.slice ao2 zs2.length cap2) 28
  rw [z1] at C2
  replace A1 := A1.below K1
  replace A2 := A2.below K1
  have HC1 := hide C1
  have HC2 := hide C2
  clear C1 C2 z1
  have l1 := hs1.bound.1
  have u1 := hs1.bound.2
  go_enter Tryz.func53, Tryz.ntmps53
  go_wp2_with fail
  with_reducible refine (sign_any A1 Hn1.out j1).mono ?_
  rintro e w2 ⟨rfl, hb2⟩
  have K := hb2
  have p0 := (HC2.out.below K).c0
  have p1 := (HC2.out.below K).c1
  go_wp2_with fail
  with_reducible refine (sign_any (A2.below K) Hn2.out j2).mono ?_
  rintro e w3 ⟨rfl, hb3⟩
  replace K := below_trans K hb3
  clear hb2 hb3 p0 p1
  go_wp2_with fail
  with_reducible refine (compare_sign _ _ _).mono ?_
  rintro e w4 ⟨rfl, rfl⟩
  by_cases hst : sgn n1 0 = sgn n2 0
  · have q0 : sgn (sgn n1 0) (sgn n2 0) = 0 := sgn_eq hst
    rw [← hst] at hs2
    have hval := hide (sgn_size hs1 hs2)
    have hbd : -1 ≤ sgn n1 0 * sgn a1 a2 ∧ sgn n1 0 * sgn a1 a2 ≤ 1 := by rw [hval.out]; exact sgn_bound _ _
    have p0 := (HC1.out.below K).c1
    have p1 := (HC2.out.below K).c1
    clear hs1 hs2
    have Hst := hide hst
    clear hst
    go_wp2_with fail
    with_reducible refine (cmp_any (A1.below K) (A2.below K) j1 j2).mono ?_
    rintro e w5 ⟨rfl, hb5⟩
    have b1 := hbd.1
    have b2 := hbd.2
    clear hbd
    go_wp2
    go_ret
    refine ⟨?_, K1.trans ((below_trans K hb5).mono K1.size)⟩
    rw [← hval.out]
    rfl
  · have q0 : ¬ sgn (sgn n1 0) (sgn n2 0) = 0 := by
      rcases sgn_cases (sgn n1 0) (sgn n2 0) with h | h | h <;> omega
    have hval := hide (sgn_sign hs1 hs2 hst)
    clear hs1 hs2 hst
    have q1 : (sgn (sgn n1 0) (sgn n2 0) != 0) = true := by simp [q0]
    go_wp2
    go_ret
    refine ⟨?_, K1.trans (K.mono K1.size)⟩
    rw [← hval.out]
    rfl
theorem after2 {w w2 : World} {x y x' y' : Value} {t t' : TypeId} (hb : Below ((w.alloc (.cells #[x, y] t)).alloc (.cells #[x', y'] t')).heap.size ((w.alloc (.cells #[x, y] t)).alloc (.cells #[x', y'] t')) w2) : Cell2 w2 w.heap.size x y ∧ Cell2 w2 (w.heap.size + 1) x' y' := by
  refine ⟨((cell2_new w x y t).alloc _).below hb, ?_⟩
  have h := (cell2_new (w.alloc (.cells #[x, y] t)) x' y' t').below hb
  rw [show (w.alloc (.cells #[x, y] t)).heap.size = w.heap.size + 1 by simp] at h
  exact h
end Go.Proofs.YticmlelalbaalaaGreatDoor
