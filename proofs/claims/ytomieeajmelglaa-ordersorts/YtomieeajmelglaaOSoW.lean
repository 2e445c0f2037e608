/- OrderSorts: the walk -/
import Derived.BigFrame
import Derived.Test.YtomieeajmelglaaOMine
namespace Go.Proofs.Ytomieeajmelglaa
open Go.RowKit Go.Shelf
set_option linter.unusedVariables false
set_option linter.unusedSimpArgs false

theorem wpList_append_wanted {w : World} {ops : Array Oper} {rest : List Oper} {o : Oper} {a : Act} {Q : Exit → Act → World → Prop} (hw : Region.wanted o (yielded ops a.tmps) = true) (s x : Operand)
    (ho : o.op = .call { callee := .builtin .append, args := #[s, x], argTypes := #[22, 22] })
    (base : Nat) (v : Value) (n : Nat) (ys : List Value) (hs : a.eval s = v) (hown : w.ownsRow base 27 2 v n ys)
    (va : Value) (l : List It) (hx : a.eval x = va) (hrd : ItRd (fun _ => True) w va l) (hno : ∀ c, va = .slice none 0 c → c = 0)
    (h63 : n + l.length ≤ maxLen) (hby : (n + l.length) * 16 ≤ 140737488355328) (hbase : base ≤ w.heap.size)
    (h : ∀ v' w', w'.ownsRow base 27 2 v' (n + l.length) (ys ++ flat l) → Below base w w' → wpList Try.prog ops Q rest (a.put o.dst v') w') : wpList Try.prog ops Q (o :: rest) a w := by
  refine Go.BigFrame.wpList_want hw fun K hK => ?_
  obtain ⟨v', w', hr, h2, h3⟩ := run_append_items hown hrd hno h63 hby hbase o.type
  unfold Oper.wp execOp
  simp only [ho, resolve, invoke, builtin, Sem.run_bind, Sem.run_pure, Result.andThen_ok, List.map_toArray, List.map_cons, List.map_nil, hs, hx]
  rw [hr]
  exact hK _ _ (h v' w' h2 ((BelX.grown (X := fun _ => False) (n := base) h3 hbase (fun k e => .inl (owns_row hown e).1)).below (Nat.le_refl _) (fun _ _ e => e)))
theorem two_sort : srt (fun a b => ocmp 0 a b) 1 [((2 : Int), (0 : Int)), (1, 0)] = [(1, 0), (2, 0)] := by decide +kernel

set_option maxRecDepth 100000 in
set_option maxHeartbeats 8000000 in
theorem sorts_any {w : World} {va : Value} {l : List It} {o : Int} (ha : ItRd (fun _ => True) w va l) (hno : ∀ c, va = .slice none 0 c → c = 0) (hl : l.length ≤ 8796093022000) :
    Calls Try.prog 3 #[va, .int .i64 o] w fun e w' => e = .returned (.bool true) ∧ Below w.heap.size w w' := by
  have RL := hide ha
  have CC := hide (lend2_any ha hno (by omega))
  obtain ⟨ao, ca, rfl, -, -, -⟩ := ha
  have hsl : (srt (byF o) 1 l).length = l.length := (srt_perm (byF o) 1 l).length_eq
  obtain ⟨s, hs⟩ : ∃ s, srt (byF o) 1 l = s := ⟨_, rfl⟩
  have HS := hide hs
  rw [hs] at hsl
  have HSL := hide hsl
  clear hno hs hsl
  go_enter Try.func3, Try.ntmps3
  go_wp2_with fail
  refine CC.out.mono ?_
  rintro e w1 ⟨⟨gt, rfl, hL⟩, k⟩
  have LT := hide hL
  have MT := hide (Mine.of_lent hL)
  have KK := hide k
  have Z1 := hide k.size
  replace RL := hide (RL.out.far k)
  clear CC k hL
  have CC := hide (rsort_any (o := o) RL.out (by omega))
  rw [HS.out] at CC
  go_wp2_with fail
  refine CC.out.mono ?_
  rintro e w2 ⟨⟨gw, rfl, hgw, hrw⟩, k⟩
  have MW := Mine.of_own (v := .slice (some ⟨gw, 0, none⟩) s.length s.length) (.inr ⟨gw, rfl, hgw, hrw, by have := HSL.out; unfold maxLen; omega⟩)
  rw [HSL.out] at MW
  replace MW := hide MW
  replace RL := hide (RL.out.far k)
  replace LT := hide (LT.out.far k)
  replace MT := hide (MT.out.far k)
  replace KK := hide (below_trans KK.out k)
  have Z2 := hide k.size
  clear CC k hrw hgw
  go_wp2_with (go_at_call 10; (with_reducible refine by_any.mono ?_); rintro e w2 ⟨rfl, rfl⟩)
  have CC := hide (itsort_any (I := fun _ => True) (w := w2) (by omega) MT.out.rd (by_is o) trivial (fun _ _ _ _ => trivial))
  go_wp2_with fail
  refine CC.out.mono ?_
  rintro e w3 ⟨⟨v, rfl, hO⟩, k⟩
  replace RL := hide (RL.out.far k)
  replace LT := hide (LT.out.far k)
  replace MT := hide (MT.out.far k)
  replace MW := hide (MW.out.far k)
  replace KK := hide (below_trans KK.out k)
  have Z3 := hide k.size
  rw [HS.out] at hO
  have MA := hide (Mine.of_own hO)
  obtain ⟨pMA, eMA⟩ := MA.out.sh
  subst eMA
  clear hO
  clear CC k
  go_wp2_with (go_at_call 10; (with_reducible refine by_any.mono ?_); rintro e w3 ⟨rfl, rfl⟩)
  have CC := hide (itsort_any (I := fun _ => True) (w := w3) (by omega) MT.out.rd (by_is o) trivial (fun _ _ _ _ => trivial))
  go_wp2_with fail
  refine CC.out.mono ?_
  rintro e w4 ⟨⟨v, rfl, hO⟩, k⟩
  replace RL := hide (RL.out.far k)
  replace LT := hide (LT.out.far k)
  replace MT := hide (MT.out.far k)
  replace MW := hide (MW.out.far k)
  replace MA := hide (MA.out.far k)
  replace KK := hide (below_trans KK.out k)
  have Z4 := hide k.size
  rw [HS.out] at hO
  have MB := hide (Mine.of_own hO)
  obtain ⟨pMB, eMB⟩ := MB.out.sh
  subst eMB
  clear hO
  clear CC k
  obtain ⟨W5, hW5⟩ : ∃ u, w4.alloc (.cells #[.int .i64 2, .int .i64 0, .int .i64 1, .int .i64 0] 27) = u := ⟨_, rfl⟩
  have k : Below w4.heap.size w4 W5 := by rw [← hW5]; exact (Below.refl _ w4).alloc (Nat.le_refl _) _
  have hr5 : ItRow W5 w4.heap.size [(2, 0), (1, 0)] := by rw [← hW5]; exact heap_alloc_new w4 _
  have CC := hide (itsort_any (I := fun _ => True) (w := W5) (by decide) (hr5.rd (G := fun _ => True) trivial (Nat.le_refl _) (by unfold maxLen; decide)) byKey_is trivial (fun _ _ _ _ => trivial))
  rw [two_sort] at CC
  go_wp2_with fail
  try rw [hW5]
  have Z5 := hide k.size
  replace RL := hide (RL.out.far k)
  replace LT := hide (LT.out.far k)
  replace MT := hide (MT.out.far k)
  replace MW := hide (MW.out.far k)
  replace MA := hide (MA.out.far k)
  replace MB := hide (MB.out.far k)
  replace KK := hide (below_trans KK.out k)
  clear k hr5 hW5
  refine CC.out.mono ?_
  rintro e w6 ⟨⟨v, rfl, hO⟩, k⟩
  have MC := hide (Mine.of_own hO)
  obtain ⟨pC, eC⟩ := MC.out.sh
  subst eC
  have Z6 := hide k.size
  clear hO CC
  replace RL := hide (RL.out.far k)
  replace LT := hide (LT.out.far k)
  replace MT := hide (MT.out.far k)
  replace MW := hide (MW.out.far k)
  replace MA := hide (MA.out.far k)
  replace MB := hide (MB.out.far k)
  replace KK := hide (below_trans KK.out k)
  clear k
  have CC := hide (osame_any MA.out.rd MW.out.rd)
  go_wp2_with fail
  refine CC.out.mono ?_
  rintro e w7 ⟨rfl, k⟩
  replace RL := hide (RL.out.far k)
  replace LT := hide (LT.out.far k)
  replace MT := hide (MT.out.far k)
  replace MW := hide (MW.out.far k)
  replace MA := hide (MA.out.far k)
  replace MB := hide (MB.out.far k)
  replace MC := hide (MC.out.far k)
  replace KK := hide (below_trans KK.out k)
  have Z7 := hide k.size
  clear CC k
  have CC := hide (osame_any MB.out.rd MW.out.rd)
  go_wp2_with fail
  refine CC.out.mono ?_
  rintro e w8 ⟨rfl, k⟩
  replace RL := hide (RL.out.far k)
  replace LT := hide (LT.out.far k)
  replace MT := hide (MT.out.far k)
  replace MW := hide (MW.out.far k)
  replace MA := hide (MA.out.far k)
  replace MB := hide (MB.out.far k)
  replace MC := hide (MC.out.far k)
  replace KK := hide (below_trans KK.out k)
  have Z8 := hide k.size
  clear CC k
  obtain ⟨W9, hW9⟩ : ∃ u, w8.alloc (.cells #[.int .i64 1, .int .i64 0, .int .i64 2, .int .i64 0] 27) = u := ⟨_, rfl⟩
  have k : Below w8.heap.size w8 W9 := by rw [← hW9]; exact (Below.refl _ w8).alloc (Nat.le_refl _) _
  have hr9 : ItRow W9 w8.heap.size [(1, 0), (2, 0)] := by rw [← hW9]; exact heap_alloc_new w8 _
  have CC := hide (osame_any (MC.out.far k).rd (hr9.rd (G := fun _ => True) trivial (Nat.le_refl _) (by unfold maxLen; decide)))
  go_wp2_with fail
  try rw [hW9]
  have Z9 := hide k.size
  replace RL := hide (RL.out.far k)
  replace LT := hide (LT.out.far k)
  replace MT := hide (MT.out.far k)
  replace MW := hide (MW.out.far k)
  replace MA := hide (MA.out.far k)
  replace MB := hide (MB.out.far k)
  replace MC := hide (MC.out.far k)
  replace KK := hide (below_trans KK.out k)
  clear k hr9 hW9
  refine CC.out.mono ?_
  rintro e w10 ⟨rfl, k⟩
  have Z10 := hide k.size
  clear CC
  replace RL := hide (RL.out.far k)
  replace LT := hide (LT.out.far k)
  replace MT := hide (MT.out.far k)
  replace MW := hide (MW.out.far k)
  replace MA := hide (MA.out.far k)
  replace MB := hide (MB.out.far k)
  replace MC := hide (MC.out.far k)
  replace KK := hide (below_trans KK.out k)
  clear k
  have CC := hide (left_any LT.out RL.out (by omega))
  go_wp2_with fail
  refine CC.out.mono ?_
  rintro e w11 ⟨rfl, k⟩
  replace RL := hide (RL.out.far k)
  replace MT := hide (MT.out.far k)
  replace MW := hide (MW.out.far k)
  replace MA := hide (MA.out.far k)
  replace MB := hide (MB.out.far k)
  replace MC := hide (MC.out.far k)
  replace KK := hide (below_trans KK.out k)
  have Z11 := hide k.size
  clear LT
  clear CC k
  go_wp2_with fail
  refine sort_nil.mono ?_
  rintro e w11 ⟨rfl, rfl⟩
  go_wp2_with (go_at_call 10; (with_reducible refine by_any.mono ?_); rintro e w11 ⟨rfl, rfl⟩)
  have CC := hide (itsort_any (I := fun _ => True) (w := w11) (by omega) MT.out.rd (by_is o) trivial (fun _ _ _ _ => trivial))
  go_wp2_with fail
  refine CC.out.mono ?_
  rintro e w12 ⟨⟨v, rfl, hO⟩, k⟩
  replace MT := hide (MT.out.far k)
  replace MW := hide (MW.out.far k)
  replace MA := hide (MA.out.far k)
  replace MB := hide (MB.out.far k)
  replace MC := hide (MC.out.far k)
  replace KK := hide (below_trans KK.out k)
  have Z12 := hide k.size
  rw [HS.out] at hO
  have MD := hide (Mine.of_own hO)
  obtain ⟨pMD, eMD⟩ := MD.out.sh
  subst eMD
  clear hO
  clear CC k
  obtain ⟨h, hh⟩ : ∃ h, l.length / 2 = h := ⟨_, rfl⟩
  have hq : (l.length : Int) / 2 = (h : Int) := by omega
  have hq2 : (l.length : Int).tdiv 2 = (h : Int) := by rw [Int.tdiv_eq_ediv_of_nonneg (by omega)]; omega
  have hgt : Hid (w.heap.size ≤ gt ∧ gt < w1.heap.size) := hide (MT.out.at_ gt rfl)
  have HH := hide hh
  clear hh RL
  go_wp2
  go_loopw [11, 12] (fun p q wr => ∃ (i : Nat) (c : List It), p = .int .i64 i ∧ i ≤ h ∧ Hid (c.length = l.length) ∧ Hid (Mine w.heap.size w1.heap.size (l.length + 4) wr (.slice (some ⟨gt, 0, none⟩) l.length (l.length + 4)) c) ∧ Hid (BelX (fun k => k = gt) w12.heap.size w12 wr)) (fun p _ _ => h - (intOf p).toNat)
  case atStart => exact ⟨0, l, rfl, by omega, hide rfl, MT, hide (BelX.refl _ _ _)⟩
  case round =>
    clear MT
    obtain ⟨i, c, rfl, hi, hcl, hM, hX⟩ := hrel
    by_cases hil : i < h
    · have q1 : (i : Int) < (h : Int) := by omega
      obtain ⟨k, hk⟩ : ∃ k, l.length - 1 - i = k := ⟨_, rfl⟩
      have hH := HH.out
      have w1' : IntKind.i64.wrap ((l.length : Int) - 1) = (l.length : Int) - 1 := by rw [IntKind.wrap_i64]; omega
      have w2' : IntKind.i64.wrap ((l.length : Int) - 1 - (i : Int)) = (k : Int) := by rw [IntKind.wrap_i64]; omega
      have w3' : IntKind.i64.wrap ((i : Int) + 1) = (i : Int) + 1 := by rw [IntKind.wrap_i64]; omega
      have q2 : (i : Int) < (l.length : Int) := by omega
      have q3 : (k : Int) < (l.length : Int) := by omega
      have hik : i < c.length := by rw [hcl.out]; omega
      have hkk : k < c.length := by rw [hcl.out]; omega
      have hM' := hM.out
      rw [← hcl.out] at hM'
      obtain ⟨a1, a2, a3, a4⟩ := owns_cell (c := c) (show wr.ownsRow w.heap.size 27 2 (.slice (some ⟨gt, 0, none⟩) c.length (c.length + 4)) c.length (flat c) from hM'.own) hik
      obtain ⟨b1, b2, b3, b4⟩ := owns_cell (c := c) (show wr.ownsRow w.heap.size 27 2 (.slice (some ⟨gt, 0, none⟩) c.length (c.length + 4)) c.length (flat c) from hM'.own) hkk
      have SW := hM'.swap hik hkk
      obtain ⟨⟨x1, x2⟩, hx⟩ : ∃ x, c[i] = x := ⟨_, rfl⟩
      obtain ⟨⟨y1, y2⟩, hy⟩ : ∃ x, c[k] = x := ⟨_, rfl⟩
      rw [hx] at a1 a2 SW
      rw [hy] at b1 b2 SW
      have hlen : ((c.set i (y1, y2)).set k (x1, x2)).length = l.length := by simpa using hcl.out
      rw [hcl.out] at SW
      simp only at SW a1 a2 b1 b2
      have HLN := hide hlen
      have HSW := hide (SW.far ((Below.refl _ _).drew))
      have HX2 := hide (((((hX.out.trans (belx_set (i := i * 2) wr (.int .i64 y1) (rfl : gt = gt))).trans (belx_set (i := i * 2 + 1) _ (.int .i64 y2) (rfl : gt = gt))).trans (belx_set (i := k * 2) _ (.int .i64 x1) (rfl : gt = gt))).trans (belx_set (i := k * 2 + 1) _ (.int .i64 x2) (rfl : gt = gt))).trans (BelX.of ((Below.refl _ _).drew) (by have := hX.out.size; simpa using this)))
      have hki : k ≠ i := by omega
      have hki' : i ≠ k := by omega
      have n1 : ¬ k * 2 = i * 2 + 1 := by omega
      have n2 : ¬ k * 2 + 1 = i * 2 := by omega
      have n3 : ¬ i * 2 = k * 2 + 1 := by omega
      have n4 : ¬ i * 2 + 1 = k * 2 := by omega
      clear hM' hx hy hlen SW hik hkk hH hk
      go_wp2
      go_region
      go_wp2
      go_roundw
      case rel => exact ⟨i + 1, _, by simp, by omega, HLN, HSW, HX2⟩
      case measure => simp [intOf]; omega
    · have q1 : ¬ (i : Int) < (h : Int) := by omega
      have bx := hX.out
      have t0 := hgt.out
      have z1 := Z1.out
      have z2 := Z2.out
      have z3 := Z3.out
      have z4 := Z4.out
      have z5 := Z5.out
      have z6 := Z6.out
      have z7 := Z7.out
      have z8 := Z8.out
      have z9 := Z9.out
      have z10 := Z10.out
      have z11 := Z11.out
      have z12 := Z12.out
      replace MW := hide (MW.out.belx bx (by omega))
      replace MA := hide (MA.out.belx bx (by omega))
      replace MB := hide (MB.out.belx bx (by omega))
      replace MC := hide (MC.out.belx bx (by omega))
      replace MD := hide (MD.out.belx bx (by omega))
      replace KK := hide (KK.out.trans (bx.below (B := w.heap.size) (by omega) (fun k hk e => by omega)))
      have Z13 := hide bx.size
      have MT := hM
      clear bx t0 z1 z2 z3 z4 z5 z6 z7 z8 z9 z10 z11 z12 hM hX
      have hs2l : (srt (byF o) 1 c).length = l.length := (srt_perm (byF o) 1 c).length_eq.trans hcl.out
      obtain ⟨s2, hs2⟩ : ∃ s, srt (byF o) 1 c = s := ⟨_, rfl⟩
      rw [hs2] at hs2l
      have HS2 := hide hs2
      have HSL2 := hide hs2l
      clear hs2 hs2l
      go_wp2_with (go_at_call 10; (with_reducible refine by_any.mono ?_); rintro e w13 ⟨rfl, rfl⟩)
      have CC := hide (itsort_any (I := fun _ => True) (w := w13) (by rw [hcl.out]; omega) MT.out.rd (by_is o) trivial (fun _ _ _ _ => trivial))
      go_wp2_with fail
      refine CC.out.mono ?_
      rintro e w14 ⟨⟨v, rfl, hO⟩, k⟩
      replace MT := hide (MT.out.far k)
      replace MW := hide (MW.out.far k)
      replace MA := hide (MA.out.far k)
      replace MB := hide (MB.out.far k)
      replace MC := hide (MC.out.far k)
      replace MD := hide (MD.out.far k)
      replace KK := hide (below_trans KK.out k)
      have Z14 := hide k.size
      rw [HS2.out] at hO
      have ME := hide (Mine.of_own hO)
      obtain ⟨pE, eE⟩ := ME.out.sh
      subst eE
      clear hO
      clear CC k
      have CC := hide (osame_any MD.out.rd MW.out.rd)
      go_wp2_with fail
      refine CC.out.mono ?_
      rintro e w15 ⟨rfl, k⟩
      replace MT := hide (MT.out.far k)
      replace MW := hide (MW.out.far k)
      replace MA := hide (MA.out.far k)
      replace MB := hide (MB.out.far k)
      replace MC := hide (MC.out.far k)
      replace MD := hide (MD.out.far k)
      replace ME := hide (ME.out.far k)
      replace KK := hide (below_trans KK.out k)
      have Z15 := hide k.size
      clear CC k
      have OW : Hid ((w15.alloc (.cells #[] 27)).ownsRow w15.heap.size 27 2 (.slice (some ⟨w15.heap.size, 0, none⟩) 0 0) 0 []) := hide (World.ownsRow_made w15 _ 0 (Nat.le_refl _) (by unfold maxLen; omega) (by simp))
      go_wp2_with (at_builtin; refine wpList_append_wanted rfl _ _ rfl w15.heap.size _ 0 [] rfl OW.out _ c rfl (MT.out.rd.far ((Below.refl _ _).alloc (Nat.le_refl _) _)) MT.out.no (by rw [hcl.out]; unfold maxLen; omega) (by rw [hcl.out]; omega) (by simp) ?_)
      intro v4 w16 own4 bel4
      have k : Below w15.heap.size w15 w16 := ((Below.refl _ w15).alloc (Nat.le_refl _) _).trans bel4
      have RC := hide (own_rdA own4)
      obtain ⟨p4, c4, e4, -, -, -⟩ := RC.out
      subst e4
      have Z16 := hide k.size
      replace MT := hide (MT.out.far k)
      replace MW := hide (MW.out.far k)
      replace MA := hide (MA.out.far k)
      replace MB := hide (MB.out.far k)
      replace MC := hide (MC.out.far k)
      replace MD := hide (MD.out.far k)
      replace ME := hide (ME.out.far k)
      replace KK := hide (below_trans KK.out k)
      clear k own4 bel4 OW
      have CC := hide (rsort_any (o := o) RC.out (by rw [hcl.out]; omega))
      go_wp2_with fail
      refine CC.out.mono ?_
      rintro e w17 ⟨⟨gr, rfl, hgr, hrr⟩, k⟩
      replace MT := hide (MT.out.far k)
      replace MW := hide (MW.out.far k)
      replace MA := hide (MA.out.far k)
      replace MB := hide (MB.out.far k)
      replace MC := hide (MC.out.far k)
      replace MD := hide (MD.out.far k)
      replace ME := hide (ME.out.far k)
      replace KK := hide (below_trans KK.out k)
      have Z17 := hide k.size
      rw [HS2.out] at hrr
      have RR := hide (hrr.rd (G := fun _ => True) (c := s2.length) trivial (Nat.le_refl _) (by have := HSL2.out; unfold maxLen; omega))
      rw [HSL2.out, ← hcl.out] at RR
      clear hrr hgr
      clear CC k
      have CC := hide (osame_any ME.out.rd RR.out)
      go_wp2_with fail
      refine CC.out.mono ?_
      rintro e w18 ⟨rfl, k⟩
      replace MT := hide (MT.out.far k)
      replace MW := hide (MW.out.far k)
      replace MA := hide (MA.out.far k)
      replace MB := hide (MB.out.far k)
      replace MC := hide (MC.out.far k)
      replace MD := hide (MD.out.far k)
      replace ME := hide (ME.out.far k)
      replace KK := hide (below_trans KK.out k)
      have Z18 := hide k.size
      clear RR RC
      clear CC k
      obtain ⟨W19, hW19⟩ : ∃ u, w18.alloc (.cells #[.slice pMA s.length s.length, .slice pMB s.length s.length, .slice pC 2 2, .slice pMD s.length s.length, .slice pE s2.length s2.length, .slice (some ⟨gt, 0, none⟩) l.length (l.length + 4)] 22) = u := ⟨_, rfl⟩
      have k : Below w18.heap.size w18 W19 := by rw [← hW19]; exact (Below.refl _ w18).alloc (Nat.le_refl _) _
      have hgl : W19.heap[w18.heap.size]? = some (.cells #[.slice pMA s.length s.length, .slice pMB s.length s.length, .slice pC 2 2, .slice pMD s.length s.length, .slice pE s2.length s2.length, .slice (some ⟨gt, 0, none⟩) l.length (l.length + 4)] 22 (0, 0)) := by rw [← hW19]; exact heap_alloc_new w18 _
      replace MT := hide (MT.out.far k)
      replace MW := hide (MW.out.far k)
      replace MA := hide (MA.out.far k)
      replace MB := hide (MB.out.far k)
      replace MC := hide (MC.out.far k)
      replace MD := hide (MD.out.far k)
      replace ME := hide (ME.out.far k)
      replace KK := hide (below_trans KK.out k)
      have AL : Hid (Calls Try.prog 14 #[.slice (some ⟨w18.heap.size, 0, none⟩) 6 6] W19 fun e w' => e = .returned (.bool true) ∧ Below w.heap.size W19 w') := hide (by
        have z1 := Z1.out
        have z2 := Z2.out
        have z3 := Z3.out
        have z4 := Z4.out
        have z5 := Z5.out
        have z6 := Z6.out
        have z7 := Z7.out
        have z8 := Z8.out
        have z9 := Z9.out
        have z10 := Z10.out
        have z11 := Z11.out
        have z12 := Z12.out
        have z13 := Z13.out
        have z14 := Z14.out
        have z15 := Z15.out
        have z16 := Z16.out
        have z17 := Z17.out
        have z18 := Z18.out
        have z19 := k.size
        have y1 := HSL.out
        have y2 := HSL2.out
        refine apartL (L := [⟨.slice pMA s.length s.length, s, w2.heap.size, w3.heap.size, s.length⟩, ⟨.slice pMB s.length s.length, s, w3.heap.size, w4.heap.size, s.length⟩, ⟨.slice pC 2 2, [(1, 0), (2, 0)], W5.heap.size, w6.heap.size, 2⟩, ⟨.slice pMD s.length s.length, s, w11.heap.size, w12.heap.size, s.length⟩, ⟨.slice pE s2.length s2.length, s2, w13.heap.size, w14.heap.size, s2.length⟩, ⟨.slice (some ⟨gt, 0, none⟩) l.length (l.length + 4), c, w.heap.size, w1.heap.size, l.length + 4⟩]) (by simp) ?_ ?_ hgl (by omega)
        · intro e he
          simp only [List.mem_cons, List.not_mem_nil, or_false] at he
          rcases he with rfl | rfl | rfl | rfl | rfl | rfl
          · exact ⟨MA.out, by show w.heap.size ≤ w2.heap.size; omega, by show w3.heap.size ≤ w18.heap.size; omega, by show s.length + 1 ≤ _; omega⟩
          · exact ⟨MB.out, by show w.heap.size ≤ w3.heap.size; omega, by show w4.heap.size ≤ w18.heap.size; omega, by show s.length + 1 ≤ _; omega⟩
          · exact ⟨MC.out, by show w.heap.size ≤ W5.heap.size; omega, by show w6.heap.size ≤ w18.heap.size; omega, by show 2 + 1 ≤ _; omega⟩
          · exact ⟨MD.out, by show w.heap.size ≤ w11.heap.size; omega, by show w12.heap.size ≤ w18.heap.size; omega, by show s.length + 1 ≤ _; omega⟩
          · exact ⟨ME.out, by show w.heap.size ≤ w13.heap.size; omega, by show w14.heap.size ≤ w18.heap.size; omega, by show s2.length + 1 ≤ _; omega⟩
          · exact ⟨MT.out, by show w.heap.size ≤ w.heap.size; omega, by show w1.heap.size ≤ w18.heap.size; omega, by show l.length + 4 + 1 ≤ _; omega⟩
        · simp only [List.pairwise_cons, List.mem_cons, List.not_mem_nil, or_false, forall_eq_or_imp, forall_eq, false_implies, implies_true, List.Pairwise.nil, and_true]
          omega)
      clear hgl k MA MB MC MD ME MT MW
      go_wp2_with fail
      try rw [hW19]
      refine AL.out.mono ?_
      rintro e w20 ⟨rfl, k⟩
      replace KK := hide (KK.out.trans k)
      clear k AL hW19
      go_wp2_with fail
      refine olives.mono ?_
      rintro e w21 ⟨rfl, k⟩
      replace KK := hide (below_trans KK.out k)
      clear k
      go_wp2
      go_ret
      exact ⟨rfl, KK.out⟩

end Go.Proofs.Ytomieeajmelglaa
