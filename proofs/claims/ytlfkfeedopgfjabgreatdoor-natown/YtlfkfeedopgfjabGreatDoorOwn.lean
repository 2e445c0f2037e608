/- NatOwn -/
import Derived.Test.YtlfkfeedopgfjabGreatDoorOwnB
import Derived.Test.YtlfkfeedopgfjabGreatDoorBeyond
namespace Go.Proofs.YtlfkfeedopgfjabGreatDoor
open Go.RowKit

theorem beyond_one {w : World} {g : Nat} {ao : Option Addr} {la ca : Nat} (ha : la ≤ 70368744177664) (h0 : w.cell? ⟨g, 0, none⟩ = some (.slice ao la ca)) :
    Calls Tryz.prog 6 #[.slice (some ⟨g, 0, none⟩) 1 1] w fun e w' => e = .returned (.bool (decide (1048576 < tot [la]))) ∧ w' = w := by
  refine beyond_any (ls := [la]) (by simp) (fun i => ?_) (fun i hi => ?_)
  · match i with
    | 0 => simpa using ha
    | i + 1 => simp
  · match i, hi with
    | 0, _ => exact ⟨_, _, h0⟩
theorem beyond_two {w : World} {g : Nat} {ao bo : Option Addr} {la ca lb cb : Nat} (ha : la ≤ 70368744177664) (hb : lb ≤ 70368744177664) (h0 : w.cell? ⟨g, 0, none⟩ = some (.slice ao la ca)) (h1 : w.cell? ⟨g, 1, none⟩ = some (.slice bo lb cb)) :
    Calls Tryz.prog 6 #[.slice (some ⟨g, 0, none⟩) 2 2] w fun e w' => e = .returned (.bool (decide (1048576 < tot [la, lb]))) ∧ w' = w := by
  refine beyond_any (ls := [la, lb]) (by simp) (fun i => ?_) (fun i hi => ?_)
  · match i with
    | 0 => simpa using ha
    | 1 => simpa using hb
    | i + 2 => simp
  · match i, hi with
    | 0, _ => exact ⟨_, _, h0⟩
    | 1, _ => exact ⟨_, _, h1⟩
theorem Twin.argOf {B : Nat} {w : World} {v : Value} {xs : List Int} {k : Nat} (h : Twin B w v xs) (ho : Nt.Ok xs) (hl : xs.length ≤ k) : Arg w v (Nt.val xs) k := ⟨xs, h.reads, ho, rfl, hl⟩

theorem Hold.snoc {base g fb : Nat} {w w' : World} {t u : Value} {xt ys : List Int} {c d : Nat} {vs L7 fs : List Value} {lv lv' x : Value} {i : Nat} (h : Hold base g fb w t u xt ys c d (vs ++ L7) (vs ++ L7.take i) fs) (hk : Kept base w g lv (nilled (vs ++ L7.take i))) (ho : Off g lv w w') (hi : i < L7.length) (hx : L7[i] = x) (hk' : Kept base w' g lv' (nilled (vs ++ L7.take i) ++ [(x, .slice none 0 0)])) :
    Hold base g fb w' t u xt ys c d (vs ++ L7) (vs ++ L7.take (i + 1)) fs := by
  refine h.off hk ho (lv' := lv') ?_
  have e : vs ++ L7.take (i + 1) = (vs ++ L7.take i) ++ [x] := by
    rw [List.append_assoc, ← hx, List.take_succ_eq_append_getElem hi]
  rw [e, nilled_snoc]
  exact hk'
theorem below_same {w w' : World} (h : Below w.drew.heap.size w.drew w') : Below w.heap.size w w' := ⟨h.os, h.tape, h.output, h.size, h.block⟩
set_option maxRecDepth 100000 in
set_option maxHeartbeats 4000000 in
theorem own_0 {w : World} {va vb : Value} {xs ys : List Int} {N : Nat} (ha : Reads .u32 w va xs) (hb : Reads .u32 w vb ys) (oa : Nt.Ok xs) (ob : Nt.Ok ys) (la : xs.length ≤ 70368744177664) (lb : ys.length ≤ 70368744177664) (hsml : ¬ 1048576 < tot [xs.length, ys.length]) (hsum : xs.length + ys.length ≤ 1024) (hN : N ≤ 255) :
    Calls Tryz.prog 3 #[va, vb, .int .u8 (N : Int)] w fun e w' => e = .returned (.bool true) ∧ Below w.heap.size w w' := by
  obtain ⟨ao, ca, rfl, ha1, ha2, ha3⟩ := ha
  obtain ⟨bo, cb, rfl, hb1, hb2, hb3⟩ := hb
  have hbey := fun (W : World) => beyond_two (w := W) (g := w.heap.size) (ao := ao) (ca := ca) (bo := bo) (cb := cb) la lb
  rw [decide_eq_false hsml] at hbey
  have Hbey := hide hbey
  have hsum' : ¬ (1024 : Int) < (xs.length : Int) + (ys.length : Int) := by omega
  have h_r : Reads .u32 w (.slice ao xs.length ca) xs := ⟨ao, ca, rfl, ha1, ha2, ha3⟩
  have h_s : Reads .u32 w (.slice bo ys.length cb) ys := ⟨bo, cb, rfl, hb1, hb2, hb3⟩
  clear hbey hsml ha1 ha2 ha3 hb1 hb2 hb3
  go_enter Tryz.func3, Tryz.ntmps3
  go_wp2_with fail
  refine Calls.mono (Hbey.out _ (by simp) (by simp)) ?_
  rintro e w1 ⟨rfl, rfl⟩
  clear Hbey
  have hW : Below w.heap.size w (w.alloc (.cells #[.slice ao xs.length ca, .slice bo ys.length cb] 23)) := below_alloc _ _
  replace h_r := h_r.below hW
  replace h_s := h_s.below hW
  go_wp2_with fail
  refine lives_any.mono ?_
  rintro e w2 ⟨rfl, hB⟩
  replace hW := below_trans hW hB
  replace h_r := h_r.below hB
  replace h_s := h_s.below hB
  clear hB
  go_wp2_with fail
  refine (twin_any h_r (by omega)).mono ?_
  rintro e w3 ⟨t, rfl, h_t, hB⟩
  have s2 := hW.size
  replace hW := below_trans hW hB
  replace h_s := h_s.below hB
  have s3 := hB.size
  have i_t := h_t.lies.1
  clear hB h_r
  go_wp2_with fail
  refine (twin_any h_s (by omega)).mono ?_
  rintro e w4 ⟨u, rfl, h_u, hB⟩
  have s4 := hB.size
  replace hW := below_trans hW hB
  replace h_t := h_t.below hB
  have hsep : Far t u := fun k h1 h2 => by
    have := i_t.lt h1
    have := h_u.lies.2 k h2
    omega
  clear hB h_s i_t
  obtain ⟨lt, bt⟩ := h_t.lies
  obtain ⟨lu, bu⟩ := h_u.lies
  have hm0 : Mem w.heap.size w4 ([t, u] ++ []) := by
    refine ⟨fun v hv => ?_, ?_, fun v hv k hk => ?_⟩
    · simp at hv
      rcases hv with rfl | rfl
      · exact ⟨xs, _, lt, by omega⟩
      · exact ⟨ys, _, lu, by omega⟩
    · simp only [List.append_nil, List.pairwise_cons, List.mem_singleton, forall_eq, List.not_mem_nil, and_true, List.Pairwise.nil]
      exact ⟨hsep, fun _ h => h.elim⟩
    · simp at hv
      rcases hv with rfl | rfl
      · have := bt k hk; omega
      · have := bu k hk; omega
  obtain ⟨gt, rfl, -, -, -⟩ := h_t
  obtain ⟨gu, rfl, -, -, -⟩ := h_u
  have hal1 : Below w4.heap.size w4 ((w4.alloc (.cells (bookCells 0 (.slice none 0 0)) 42)).alloc (.cells #[.slice none 0 0, .slice none 0 0, .slice none 0 0, .slice none 0 0, .slice none 0 0, .slice none 0 0, .slice none 0 0] 43)) := (below_alloc _ _).trans ((below_alloc _ _).mono (by simp))
  have hH0 : Hold w.heap.size w4.heap.size (w4.heap.size + 1) ((w4.alloc (.cells (bookCells 0 (.slice none 0 0)) 42)).alloc (.cells #[.slice none 0 0, .slice none 0 0, .slice none 0 0, .slice none 0 0, .slice none 0 0, .slice none 0 0, .slice none 0 0] 43)) (.slice (some ⟨gt, 0, none⟩) xs.length (xs.length + 1)) (.slice (some ⟨gu, 0, none⟩) ys.length (ys.length + 1)) xs ys (xs.length + 1) (ys.length + 1) [] [] [.slice none 0 0, .slice none 0 0, .slice none 0 0, .slice none 0 0, .slice none 0 0, .slice none 0 0, .slice none 0 0] := by
    refine ⟨lt.below hal1, lu.below hal1, hm0.below hal1, ⟨.slice none 0 0, ⟨by omega, ?_, World.ownsRow_nil _ _ _ _⟩⟩, ?_, rfl⟩
    · have e1 := heap_alloc_old (w4.alloc (.cells (bookCells 0 (.slice none 0 0)) 42)) (.cells #[.slice none 0 0, .slice none 0 0, .slice none 0 0, .slice none 0 0, .slice none 0 0, .slice none 0 0, .slice none 0 0] 43) (r := w4.heap.size) (by simp)
      exact e1.trans (heap_alloc_new w4 _)
    · have e1 := heap_alloc_new (w4.alloc (.cells (bookCells 0 (.slice none 0 0)) 42)) (.cells #[.slice none 0 0, .slice none 0 0, .slice none 0 0, .slice none 0 0, .slice none 0 0, .slice none 0 0, .slice none 0 0] 43)
      simpa using e1
  have hW0 := below_trans hW hal1
  have Hst0 := hide (And.intro hH0 hW0)
  clear hW hW0 hH0 hm0 lt lu bt bu hal1 hsep
  go_wp2
  go_loopw [11] (fun sT wr => ∃ (T : Nat) (xt : List Int) (vs fs : List Value), T ≤ 4 ∧ sT = .int .i64 T ∧ xt.length = xs.length ∧ Nt.Ok xt ∧ (T ≤ 3 → xt = xs) ∧ Hold w.heap.size w4.heap.size (w4.heap.size + 1) wr (.slice (some ⟨gt, 0, none⟩) xs.length (xs.length + 1)) (.slice (some ⟨gu, 0, none⟩) ys.length (ys.length + 1)) xt ys (xs.length + 1) (ys.length + 1) vs vs fs ∧ vs.length ≤ 14 * T ∧ (1 ≤ T → T ≤ 3 → Tolds wr fs (ans (Nt.val xs) (Nt.val ys) N)) ∧ Below w.heap.size w wr) (fun sT _ => 4 - (intOf sT).toNat)
  case atStart => exact ⟨0, xs, [], _, by omega, rfl, rfl, oa, fun _ => rfl, Hst0.out.1, by simp, fun h => by omega, Hst0.out.2⟩
  case round =>
    obtain ⟨T, xt, vs, fs, hT4, rfl, hxl, okt, hxt, hH, hvl, hF, hW⟩ := hrel
    clear Hst0
    by_cases hT : T < 4
    · have hT' : (T : Int) < 4 := by omega
      rcases (show T = 0 ∨ T = 1 ∨ T = 2 ∨ T = 3 by omega) with rfl | rfl | rfl | rfl
      · have hxe := (hxt (by omega)).symm
        subst hxe
        clear hxt hxl hF

        go_wp2_with fail
        refine (answers_any (A := Nt.val xs) (B := Nt.val ys) ⟨xs, hH.tl.reads, okt, rfl, by omega⟩ ⟨ys, hH.ul.reads, ob, rfl, by omega⟩ rfl hN).mono ?_
        rintro e wA ⟨v0, v1, v2, v3, v4, v5, v6, rfl, hS, hB⟩
        replace hH := hH.add hB hS (by have := hW.size; omega)
        have hT := hS.tolds
        have hfbl := hH.arr.lt
        replace hW := below_trans hW hB
        have q0 : Num _ _ v0 _ _ := hS.num 0 (by simp)
        obtain ⟨o0, l0, rfl⟩ := q0.form
        have q1 : Num _ _ v1 _ _ := hS.num 1 (by simp)
        obtain ⟨o1, l1, rfl⟩ := q1.form
        have q2 : Num _ _ v2 _ _ := hS.num 2 (by simp)
        obtain ⟨o2, l2, rfl⟩ := q2.form
        have q3 : Num _ _ v3 _ _ := hS.num 3 (by simp)
        obtain ⟨o3, l3, rfl⟩ := q3.form
        have q4 : Num _ _ v4 _ _ := hS.num 4 (by simp)
        obtain ⟨o4, l4, rfl⟩ := q4.form
        have q5 : Num _ _ v5 _ _ := hS.num 5 (by simp)
        obtain ⟨o5, l5, rfl⟩ := q5.form
        have q6 : Num _ _ v6 _ _ := hS.num 6 (by simp)
        obtain ⟨o6, l6, rfl⟩ := q6.form
        clear hS q0 q1 q2 q3 q4 q5 q6

        obtain ⟨L7, hL7⟩ : ∃ l : List Value, l = [.slice o0 l0 l0, .slice o1 l1 l1, .slice o2 l2 l2, .slice o3 l3 l3, .slice o4 l4 l4, .slice o5 l5 l5, .slice o6 l6 l6] := ⟨_, rfl⟩
        rw [← hL7] at hH hT
        have hal : Below wA.heap.size wA (wA.alloc (.cells #[Value.slice o0 l0 l0, Value.slice o1 l1 l1, Value.slice o2 l2 l2, Value.slice o3 l3 l3, Value.slice o4 l4 l4, Value.slice o5 l5 l5, Value.slice o6 l6 l6] 43)) := below_alloc _ _
        have larr : Arr (wA.alloc (.cells #[Value.slice o0 l0 l0, Value.slice o1 l1 l1, Value.slice o2 l2 l2, Value.slice o3 l3 l3, Value.slice o4 l4 l4, Value.slice o5 l5 l5, Value.slice o6 l6 l6] 43)) wA.heap.size L7 := ⟨by rw [hL7]; exact heap_alloc_new wA _, by rw [hL7]; rfl⟩
        replace hH := hH.below hal
        replace hT := hT.below hal
        replace hW := below_trans hW hal
        clear hL7

        have Hst := hide (And.intro hH (And.intro hT (And.intro larr hW)))
        clear hH hT larr hW hal hB
        go_wp2
        go_loopw [14] (fun si wr2 => ∃ (i : Nat) (fs2 : List Value), i ≤ 7 ∧ si = .int .i64 i ∧ Hold w.heap.size w4.heap.size (w4.heap.size + 1) wr2 (.slice (some ⟨gt, 0, none⟩) xs.length (xs.length + 1)) (.slice (some ⟨gu, 0, none⟩) ys.length (ys.length + 1)) xs ys (xs.length + 1) (ys.length + 1) (vs ++ L7) vs fs2 ∧ (∀ j (h : j < fs2.length), j < i → Told wr2 fs2[j] (ans (Nt.val xs) (Nt.val ys) N j)) ∧ Tolds wr2 L7 (ans (Nt.val xs) (Nt.val ys) N) ∧ Arr wr2 wA.heap.size L7 ∧ Below w.heap.size w wr2) (fun si _ => 7 - (intOf si).toNat)
        case atStart =>
          obtain ⟨a1, a2, a3, a4⟩ := Hst.out
          exact ⟨0, fs, by omega, rfl, a1, fun j _ h => by omega, a2, a3, a4⟩
        case round =>
          obtain ⟨i, fs2, hi7, rfl, hH, hF, hT, hL, hW⟩ := hrel
          have hL7l : L7.length = 7 := hL.2
          have hfsl : fs2.length = 7 := hH.arr.2
          by_cases hi : i < 7
          · have hi' : (i : Int) < 7 := by omega
            have ht := hT i (by omega)
            obtain ⟨ol, ll, cl, el⟩ := ht.shape
            have c1 := hL.cell (i := i) (by omega)
            rw [el] at c1 ht
            obtain ⟨zs, hr, hzl⟩ := ht.reads
            have Hst2 := hide (And.intro hH (And.intro hF (And.intro hT (And.intro hL (And.intro hW ht)))))
            clear hH hF hT hL hW ht el
            go_wp2_with fail
            refine (twin_any hr hzl).mono ?_
            rintro e w5 ⟨v, rfl, h_v, hB⟩
            obtain ⟨hH, hF, hT, hL, hW, ht⟩ := Hst2.out
            have htw := ht.twin hr h_v
            obtain ⟨gv, ev, -, -, -⟩ := h_v
            subst ev
            replace hH := hH.below hB
            replace hT := hT.below hB
            replace hL := hL.below hB
            replace hW := below_trans hW hB
            have c2 := hH.arr.cell (i := i) (by omega)
            have f2 := hH.arr.frozen i
            have hne : wA.heap.size ≠ w4.heap.size + 1 := by omega
            have Hfin := hide (And.intro (hH.arrset i (.slice (some ⟨gv, 0, none⟩) zs.length (zs.length + 1))) (And.intro (tolds_set (fun j hj hji => ((hF j hj hji).below hB).arrset hH.arr i (.slice (some ⟨gv, 0, none⟩) zs.length (zs.length + 1))) (htw.arrset hH.arr i (.slice (some ⟨gv, 0, none⟩) zs.length (zs.length + 1)))) (And.intro (hT.arrset hH.arr i (.slice (some ⟨gv, 0, none⟩) zs.length (zs.length + 1))) (And.intro (hL.other hne i (.slice (some ⟨gv, 0, none⟩) zs.length (zs.length + 1))) (hW.setCell (p := ⟨w4.heap.size + 1, i, none⟩) (by show w.heap.size ≤ w4.heap.size + 1; omega) (.slice (some ⟨gv, 0, none⟩) zs.length (zs.length + 1)))))))
            clear hH hF hT hL hW ht htw hB hr hne
            go_wp2
            go_roundw
            case rel => exact ⟨i + 1, _, by omega, by go_num, Hfin.out⟩
            case measure => simp [intOf]; omega
          · have hi' : ¬ (i : Int) < 7 := by omega
            replace hF : Tolds wr fs2 (ans (Nt.val xs) (Nt.val ys) N) := fun j hj => hF j hj (by omega)
            have larr := hL
            clear hL
            have Hst := hide (And.intro hH (And.intro hF (And.intro hT (And.intro larr hW))))
            clear hH hF hT larr hW hi'
            go_wp2
            go_loopw [15] (fun si wr2 => ∃ i : Nat, i ≤ 7 ∧ si = .int .i64 i ∧ Hold w.heap.size w4.heap.size (w4.heap.size + 1) wr2 (.slice (some ⟨gt, 0, none⟩) xs.length (xs.length + 1)) (.slice (some ⟨gu, 0, none⟩) ys.length (ys.length + 1)) xs ys (xs.length + 1) (ys.length + 1) (vs ++ L7) (vs ++ L7.take i) fs2 ∧ Tolds wr2 fs2 (ans (Nt.val xs) (Nt.val ys) N) ∧ Tolds wr2 L7 (ans (Nt.val xs) (Nt.val ys) N) ∧ Arr wr2 wA.heap.size L7 ∧ Below w.heap.size w wr2) (fun si _ => 7 - (intOf si).toNat)
            case atStart =>
              obtain ⟨a1, a2, a3, a4, a5⟩ := Hst.out
              exact ⟨0, by omega, rfl, by rw [List.take_zero, List.append_nil]; exact a1, a2, a3, a4, a5⟩
            case round =>
              obtain ⟨i, hi7, rfl, hH, hF, hT, hL, hW⟩ := hrel
              have hL7l : L7.length = 7 := hL.2
              have hfsl : fs2.length = 7 := hH.arr.2
              by_cases hi : i < 7
              · have hi' : (i : Int) < 7 := by omega
                obtain ⟨ol, ll, cl, el⟩ := (hT i (by omega)).shape
                obtain ⟨of, lf, cf, ef⟩ := (hF i (by omega)).shape
                have c1 := hL.cell (i := i) (by omega)
                have c2 := hH.arr.cell (i := i) (by omega)
                have ht1 := (hT i (by omega)).below ((Below.refl _ _).drew)
                have ht2 := (hF i (by omega)).below ((Below.refl _ _).drew)
                rw [el] at c1 ht1
                rw [ef] at c2 ht2
                have hll := hL.lt
                have hfl := hH.arr.lt
                have Hst2 := hide (And.intro hH (And.intro hF (And.intro hT (And.intro hL hW))))
                have Hel := hide el
                have Hlen := hide (And.intro hL7l hfsl)
                clear hH hF hT hL hW el ef
                go_wp2
                go_region_held3 (fun w' => w'.cell? ⟨wA.heap.size, i, none⟩ = some (.slice ol ll cl) ∧ w'.cell? ⟨w4.heap.size + 1, i, none⟩ = some (.slice of lf cf))
                  (first
                    | go_keep
                    | exact ⟨(hB.cell (p := ⟨wA.heap.size, i, none⟩) hll).trans c1, (hB.cell (p := ⟨w4.heap.size + 1, i, none⟩) hfl).trans c2⟩)
                  (first
                    | (go_at_call 10; refine (same_told ht1 ht2).mono ?_; rintro e w5 ⟨rfl, hB⟩))
                replace hB := below_same hB
                obtain ⟨hH, hF, hT, hL, hW⟩ := Hst2.out
                replace hH := hH.below hB
                replace hF := hF.below hB
                replace hT := hT.below hB
                replace hL := hL.below hB
                replace hW := below_trans hW hB
                obtain ⟨lv, hk⟩ := hH.kept
                have d1 : w5.cell? ⟨wA.heap.size, i, none⟩ = some (.slice ol ll cl) := (hB.cell (p := ⟨wA.heap.size, i, none⟩) hll).trans c1
                have Hst3 := hide (And.intro hH (And.intro hF (And.intro hT (And.intro hL (And.intro hW hk)))))
                have hbs : w.heap.size ≤ w5.heap.size := hW.size
                have hkl : (nilled (vs ++ L7.take i)).length < 1000 := by
                  have := Hlen.out.1
                  rw [nilled_length, List.length_append, List.length_take]
                  omega
                clear hH hF hT hL hW hB c1 c2 ht1 ht2
                go_wp2_with fail
                refine (nat_any hk hbs hkl).mono ?_
                rintro e w6 ⟨rfl, lv', hk', ho⟩
                obtain ⟨hH, hF, hT, hL, hW, hk2⟩ := Hst3.out
                have Hfin := hide (And.intro (hH.snoc hk ho (by have := Hlen.out.1; omega) Hel.out hk') (And.intro (hF.off hk ho) (And.intro (hT.off hk ho) (And.intro (hL.off hk ho) (hW.trans (ho.below hk hbs))))))
                clear hH hF hT hL hW hk hk2 hk' ho hbs hkl d1
                go_wp2
                go_roundw
                case rel => exact ⟨i + 1, by omega, by go_num, Hfin.out⟩
                case measure => simp [intOf]; omega
              · have hi' : ¬ (i : Int) < 7 := by omega
                rw [List.take_of_length_le (by omega)] at hH
                have Hfin := hide (And.intro hH (And.intro hF hW))
                clear hH hF hT hL hW
                go_wp2
                go_roundw
                case rel => exact ⟨1, xs, vs ++ L7, fs2, by omega, by go_num, rfl, okt, fun _ => rfl, Hfin.out.1, by rw [List.length_append]; omega, fun _ _ => Hfin.out.2.1, Hfin.out.2.2⟩
                case measure => simp [intOf]
      · have hxe := (hxt (by omega)).symm
        replace hF := hF (by omega) (by omega)
        subst hxe
        clear hxt hxl

        go_wp2_with fail
        refine (answers_any (A := Nt.val xs) (B := Nt.val ys) ⟨xs, hH.tl.reads, okt, rfl, by omega⟩ ⟨ys, hH.ul.reads, ob, rfl, by omega⟩ rfl hN).mono ?_
        rintro e wA ⟨v0, v1, v2, v3, v4, v5, v6, rfl, hS, hB⟩
        replace hH := hH.add hB hS (by have := hW.size; omega)
        have hT := hS.tolds
        have hfbl := hH.arr.lt
        replace hW := below_trans hW hB
        have q0 : Num _ _ v0 _ _ := hS.num 0 (by simp)
        obtain ⟨o0, l0, rfl⟩ := q0.form
        have q1 : Num _ _ v1 _ _ := hS.num 1 (by simp)
        obtain ⟨o1, l1, rfl⟩ := q1.form
        have q2 : Num _ _ v2 _ _ := hS.num 2 (by simp)
        obtain ⟨o2, l2, rfl⟩ := q2.form
        have q3 : Num _ _ v3 _ _ := hS.num 3 (by simp)
        obtain ⟨o3, l3, rfl⟩ := q3.form
        have q4 : Num _ _ v4 _ _ := hS.num 4 (by simp)
        obtain ⟨o4, l4, rfl⟩ := q4.form
        have q5 : Num _ _ v5 _ _ := hS.num 5 (by simp)
        obtain ⟨o5, l5, rfl⟩ := q5.form
        have q6 : Num _ _ v6 _ _ := hS.num 6 (by simp)
        obtain ⟨o6, l6, rfl⟩ := q6.form
        clear hS q0 q1 q2 q3 q4 q5 q6

        obtain ⟨L7, hL7⟩ : ∃ l : List Value, l = [.slice o0 l0 l0, .slice o1 l1 l1, .slice o2 l2 l2, .slice o3 l3 l3, .slice o4 l4 l4, .slice o5 l5 l5, .slice o6 l6 l6] := ⟨_, rfl⟩
        rw [← hL7] at hH hT
        have hal : Below wA.heap.size wA (wA.alloc (.cells #[Value.slice o0 l0 l0, Value.slice o1 l1 l1, Value.slice o2 l2 l2, Value.slice o3 l3 l3, Value.slice o4 l4 l4, Value.slice o5 l5 l5, Value.slice o6 l6 l6] 43)) := below_alloc _ _
        have larr : Arr (wA.alloc (.cells #[Value.slice o0 l0 l0, Value.slice o1 l1 l1, Value.slice o2 l2 l2, Value.slice o3 l3 l3, Value.slice o4 l4 l4, Value.slice o5 l5 l5, Value.slice o6 l6 l6] 43)) wA.heap.size L7 := ⟨by rw [hL7]; exact heap_alloc_new wA _, by rw [hL7]; rfl⟩
        replace hH := hH.below hal
        replace hT := hT.below hal
        replace hW := below_trans hW hal
        clear hL7
        replace hF := (hF.below hB).below hal

        have Hst := hide (And.intro hH (And.intro hF (And.intro hT (And.intro larr hW))))
        clear hH hF hT larr hW hal hB
        go_wp2
        go_loopw [15] (fun si wr2 => ∃ i : Nat, i ≤ 7 ∧ si = .int .i64 i ∧ Hold w.heap.size w4.heap.size (w4.heap.size + 1) wr2 (.slice (some ⟨gt, 0, none⟩) xs.length (xs.length + 1)) (.slice (some ⟨gu, 0, none⟩) ys.length (ys.length + 1)) xs ys (xs.length + 1) (ys.length + 1) (vs ++ L7) (vs ++ L7.take i) fs ∧ Tolds wr2 fs (ans (Nt.val xs) (Nt.val ys) N) ∧ Tolds wr2 L7 (ans (Nt.val xs) (Nt.val ys) N) ∧ Arr wr2 wA.heap.size L7 ∧ Below w.heap.size w wr2) (fun si _ => 7 - (intOf si).toNat)
        case atStart =>
          obtain ⟨a1, a2, a3, a4, a5⟩ := Hst.out
          exact ⟨0, by omega, rfl, by rw [List.take_zero, List.append_nil]; exact a1, a2, a3, a4, a5⟩
        case round =>
          obtain ⟨i, hi7, rfl, hH, hF, hT, hL, hW⟩ := hrel
          have hL7l : L7.length = 7 := hL.2
          have hfsl : fs.length = 7 := hH.arr.2
          by_cases hi : i < 7
          · have hi' : (i : Int) < 7 := by omega
            obtain ⟨ol, ll, cl, el⟩ := (hT i (by omega)).shape
            obtain ⟨of, lf, cf, ef⟩ := (hF i (by omega)).shape
            have c1 := hL.cell (i := i) (by omega)
            have c2 := hH.arr.cell (i := i) (by omega)
            have ht1 := (hT i (by omega)).below ((Below.refl _ _).drew)
            have ht2 := (hF i (by omega)).below ((Below.refl _ _).drew)
            rw [el] at c1 ht1
            rw [ef] at c2 ht2
            have hll := hL.lt
            have hfl := hH.arr.lt
            have Hst2 := hide (And.intro hH (And.intro hF (And.intro hT (And.intro hL hW))))
            have Hel := hide el
            have Hlen := hide (And.intro hL7l hfsl)
            clear hH hF hT hL hW el ef
            go_wp2
            go_region_held3 (fun w' => w'.cell? ⟨wA.heap.size, i, none⟩ = some (.slice ol ll cl) ∧ w'.cell? ⟨w4.heap.size + 1, i, none⟩ = some (.slice of lf cf))
              (first
                | go_keep
                | exact ⟨(hB.cell (p := ⟨wA.heap.size, i, none⟩) hll).trans c1, (hB.cell (p := ⟨w4.heap.size + 1, i, none⟩) hfl).trans c2⟩)
              (first
                | (go_at_call 10; refine (same_told ht1 ht2).mono ?_; rintro e w5 ⟨rfl, hB⟩))
            replace hB := below_same hB
            obtain ⟨hH, hF, hT, hL, hW⟩ := Hst2.out
            replace hH := hH.below hB
            replace hF := hF.below hB
            replace hT := hT.below hB
            replace hL := hL.below hB
            replace hW := below_trans hW hB
            obtain ⟨lv, hk⟩ := hH.kept
            have d1 : w5.cell? ⟨wA.heap.size, i, none⟩ = some (.slice ol ll cl) := (hB.cell (p := ⟨wA.heap.size, i, none⟩) hll).trans c1
            have Hst3 := hide (And.intro hH (And.intro hF (And.intro hT (And.intro hL (And.intro hW hk)))))
            have hbs : w.heap.size ≤ w5.heap.size := hW.size
            have hkl : (nilled (vs ++ L7.take i)).length < 1000 := by
              have := Hlen.out.1
              rw [nilled_length, List.length_append, List.length_take]
              omega
            clear hH hF hT hL hW hB c1 c2 ht1 ht2
            go_wp2_with fail
            refine (nat_any hk hbs hkl).mono ?_
            rintro e w6 ⟨rfl, lv', hk', ho⟩
            obtain ⟨hH, hF, hT, hL, hW, hk2⟩ := Hst3.out
            have Hfin := hide (And.intro (hH.snoc hk ho (by have := Hlen.out.1; omega) Hel.out hk') (And.intro (hF.off hk ho) (And.intro (hT.off hk ho) (And.intro (hL.off hk ho) (hW.trans (ho.below hk hbs))))))
            clear hH hF hT hL hW hk hk2 hk' ho hbs hkl d1
            go_wp2
            go_roundw
            case rel => exact ⟨i + 1, by omega, by go_num, Hfin.out⟩
            case measure => simp [intOf]; omega
          · have hi' : ¬ (i : Int) < 7 := by omega
            rw [List.take_of_length_le (by omega)] at hH
            clear hT hL

            go_wp2_with fail
            refine (answers_any (A := Nt.val ys) (B := Nt.val xs) ⟨ys, hH.ul.reads, ob, rfl, by omega⟩ ⟨xs, hH.tl.reads, okt, rfl, by omega⟩ (N := (N + 1) % 256) (by omega) (by omega)).mono ?_
            rintro e wB ⟨v0, v1, v2, v3, v4, v5, v6, rfl, hS, hB⟩
            replace hH := hH.add hB hS (by have := hW.size; omega)
            have hT := hS.tolds
            have hfbl := hH.arr.lt
            replace hW := below_trans hW hB
            have q0 : Num _ _ v0 _ _ := hS.num 0 (by simp)
            obtain ⟨o0, l0, rfl⟩ := q0.form
            have q1 : Num _ _ v1 _ _ := hS.num 1 (by simp)
            obtain ⟨o1, l1, rfl⟩ := q1.form
            have q2 : Num _ _ v2 _ _ := hS.num 2 (by simp)
            obtain ⟨o2, l2, rfl⟩ := q2.form
            have q3 : Num _ _ v3 _ _ := hS.num 3 (by simp)
            obtain ⟨o3, l3, rfl⟩ := q3.form
            have q4 : Num _ _ v4 _ _ := hS.num 4 (by simp)
            obtain ⟨o4, l4, rfl⟩ := q4.form
            have q5 : Num _ _ v5 _ _ := hS.num 5 (by simp)
            obtain ⟨o5, l5, rfl⟩ := q5.form
            have q6 : Num _ _ v6 _ _ := hS.num 6 (by simp)
            obtain ⟨o6, l6, rfl⟩ := q6.form
            clear hS q0 q1 q2 q3 q4 q5 q6

            obtain ⟨L8, hL8⟩ : ∃ l : List Value, l = [.slice o0 l0 l0, .slice o1 l1 l1, .slice o2 l2 l2, .slice o3 l3 l3, .slice o4 l4 l4, .slice o5 l5 l5, .slice o6 l6 l6] := ⟨_, rfl⟩
            rw [← hL8] at hH hT
            have hal : Below wB.heap.size wB (wB.alloc (.cells #[Value.slice o0 l0 l0, Value.slice o1 l1 l1, Value.slice o2 l2 l2, Value.slice o3 l3 l3, Value.slice o4 l4 l4, Value.slice o5 l5 l5, Value.slice o6 l6 l6] 43)) := below_alloc _ _
            have larr : Arr (wB.alloc (.cells #[Value.slice o0 l0 l0, Value.slice o1 l1 l1, Value.slice o2 l2 l2, Value.slice o3 l3 l3, Value.slice o4 l4 l4, Value.slice o5 l5 l5, Value.slice o6 l6 l6] 43)) wB.heap.size L8 := ⟨by rw [hL8]; exact heap_alloc_new wB _, by rw [hL8]; rfl⟩
            replace hH := hH.below hal
            replace hT := hT.below hal
            replace hW := below_trans hW hal
            clear hL8
            replace hF := (hF.below hB).below hal

            have Hst := hide (And.intro hH (And.intro hF (And.intro hT (And.intro larr hW))))
            clear hH hF hT larr hW hal hB
            go_wp2
            go_loopw [17] (fun si wr2 => ∃ i : Nat, i ≤ 7 ∧ si = .int .i64 i ∧ Hold w.heap.size w4.heap.size (w4.heap.size + 1) wr2 (.slice (some ⟨gt, 0, none⟩) xs.length (xs.length + 1)) (.slice (some ⟨gu, 0, none⟩) ys.length (ys.length + 1)) xs ys (xs.length + 1) (ys.length + 1) (vs ++ L7 ++ L8) (vs ++ L7 ++ L8.take i) fs ∧ Tolds wr2 fs (ans (Nt.val xs) (Nt.val ys) N) ∧ Tolds wr2 L8 (ans (Nt.val ys) (Nt.val xs) ((N + 1) % 256)) ∧ Arr wr2 wB.heap.size L8 ∧ Below w.heap.size w wr2) (fun si _ => 7 - (intOf si).toNat)
            case atStart =>
              obtain ⟨a1, a2, a3, a4, a5⟩ := Hst.out
              exact ⟨0, by omega, rfl, by rw [List.take_zero, List.append_nil]; exact a1, a2, a3, a4, a5⟩
            case round =>
              obtain ⟨i, hi7, rfl, hH, hF, hT, hL, hW⟩ := hrel
              have hL8l : L8.length = 7 := hL.2
              by_cases hi : i < 7
              · have hi' : (i : Int) < 7 := by omega
                obtain ⟨ol, ll, cl, el⟩ := (hT i (by omega)).shape
                have c1 := hL.cell (i := i) (by omega)
                rw [el] at c1
                obtain ⟨lv, hk⟩ := hH.kept
                have Hst3 := hide (And.intro hH (And.intro hF (And.intro hT (And.intro hL hW))))
                have Hel := hide el
                have hbs : w.heap.size ≤ wr.heap.size := hW.size
                have hkl : (nilled (vs ++ L7 ++ L8.take i)).length < 1000 := by
                  rw [nilled_length, List.length_append, List.length_append, List.length_take]
                  omega
                clear hH hF hT hL hW el
                go_wp2_with fail
                refine (nat_any hk hbs hkl).mono ?_
                rintro e w6 ⟨rfl, lv', hk', ho⟩
                obtain ⟨hH, hF, hT, hL, hW⟩ := Hst3.out
                have Hfin := hide (And.intro (hH.snoc hk ho (by omega) Hel.out hk') (And.intro (hF.off hk ho) (And.intro (hT.off hk ho) (And.intro (hL.off hk ho) (hW.trans (ho.below hk hbs))))))
                clear hH hF hT hL hW hk hk' ho hbs hkl c1
                go_wp2
                go_roundw
                case rel => exact ⟨i + 1, by omega, by go_num, Hfin.out⟩
                case measure => simp [intOf]; omega
              · have hi' : ¬ (i : Int) < 7 := by omega
                rw [List.take_of_length_le (by omega)] at hH
                have Hfin := hide (And.intro hH (And.intro hF hW))
                clear hH hF hT hL hW
                go_wp2
                go_roundw
                case rel => exact ⟨2, xs, vs ++ L7 ++ L8, fs, by omega, by go_num, rfl, okt, fun _ => rfl, Hfin.out.1, by rw [List.length_append, List.length_append]; omega, fun _ _ => Hfin.out.2.1, Hfin.out.2.2⟩
                case measure => simp [intOf]
      · have hxe := (hxt (by omega)).symm
        replace hF := hF (by omega) (by omega)
        subst hxe
        clear hxt hxl

        go_wp2_with fail
        refine (answers_any (A := Nt.val xs) (B := Nt.val ys) ⟨xs, hH.tl.reads, okt, rfl, by omega⟩ ⟨ys, hH.ul.reads, ob, rfl, by omega⟩ rfl hN).mono ?_
        rintro e wA ⟨v0, v1, v2, v3, v4, v5, v6, rfl, hS, hB⟩
        replace hH := hH.add hB hS (by have := hW.size; omega)
        have hT := hS.tolds
        have hfbl := hH.arr.lt
        replace hW := below_trans hW hB
        have q0 : Num _ _ v0 _ _ := hS.num 0 (by simp)
        obtain ⟨o0, l0, rfl⟩ := q0.form
        have q1 : Num _ _ v1 _ _ := hS.num 1 (by simp)
        obtain ⟨o1, l1, rfl⟩ := q1.form
        have q2 : Num _ _ v2 _ _ := hS.num 2 (by simp)
        obtain ⟨o2, l2, rfl⟩ := q2.form
        have q3 : Num _ _ v3 _ _ := hS.num 3 (by simp)
        obtain ⟨o3, l3, rfl⟩ := q3.form
        have q4 : Num _ _ v4 _ _ := hS.num 4 (by simp)
        obtain ⟨o4, l4, rfl⟩ := q4.form
        have q5 : Num _ _ v5 _ _ := hS.num 5 (by simp)
        obtain ⟨o5, l5, rfl⟩ := q5.form
        have q6 : Num _ _ v6 _ _ := hS.num 6 (by simp)
        obtain ⟨o6, l6, rfl⟩ := q6.form
        clear hS q0 q1 q2 q3 q4 q5 q6

        obtain ⟨L7, hL7⟩ : ∃ l : List Value, l = [.slice o0 l0 l0, .slice o1 l1 l1, .slice o2 l2 l2, .slice o3 l3 l3, .slice o4 l4 l4, .slice o5 l5 l5, .slice o6 l6 l6] := ⟨_, rfl⟩
        rw [← hL7] at hH hT
        have hal : Below wA.heap.size wA (wA.alloc (.cells #[Value.slice o0 l0 l0, Value.slice o1 l1 l1, Value.slice o2 l2 l2, Value.slice o3 l3 l3, Value.slice o4 l4 l4, Value.slice o5 l5 l5, Value.slice o6 l6 l6] 43)) := below_alloc _ _
        have larr : Arr (wA.alloc (.cells #[Value.slice o0 l0 l0, Value.slice o1 l1 l1, Value.slice o2 l2 l2, Value.slice o3 l3 l3, Value.slice o4 l4 l4, Value.slice o5 l5 l5, Value.slice o6 l6 l6] 43)) wA.heap.size L7 := ⟨by rw [hL7]; exact heap_alloc_new wA _, by rw [hL7]; rfl⟩
        replace hH := hH.below hal
        replace hT := hT.below hal
        replace hW := below_trans hW hal
        clear hL7
        replace hF := (hF.below hB).below hal

        have Hst := hide (And.intro hH (And.intro hF (And.intro hT (And.intro larr hW))))
        clear hH hF hT larr hW hal hB
        go_wp2
        go_loopw [15] (fun si wr2 => ∃ i : Nat, i ≤ 7 ∧ si = .int .i64 i ∧ Hold w.heap.size w4.heap.size (w4.heap.size + 1) wr2 (.slice (some ⟨gt, 0, none⟩) xs.length (xs.length + 1)) (.slice (some ⟨gu, 0, none⟩) ys.length (ys.length + 1)) xs ys (xs.length + 1) (ys.length + 1) (vs ++ L7) (vs ++ L7.take i) fs ∧ Tolds wr2 fs (ans (Nt.val xs) (Nt.val ys) N) ∧ Tolds wr2 L7 (ans (Nt.val xs) (Nt.val ys) N) ∧ Arr wr2 wA.heap.size L7 ∧ Below w.heap.size w wr2) (fun si _ => 7 - (intOf si).toNat)
        case atStart =>
          obtain ⟨a1, a2, a3, a4, a5⟩ := Hst.out
          exact ⟨0, by omega, rfl, by rw [List.take_zero, List.append_nil]; exact a1, a2, a3, a4, a5⟩
        case round =>
          obtain ⟨i, hi7, rfl, hH, hF, hT, hL, hW⟩ := hrel
          have hL7l : L7.length = 7 := hL.2
          have hfsl : fs.length = 7 := hH.arr.2
          by_cases hi : i < 7
          · have hi' : (i : Int) < 7 := by omega
            obtain ⟨ol, ll, cl, el⟩ := (hT i (by omega)).shape
            obtain ⟨of, lf, cf, ef⟩ := (hF i (by omega)).shape
            have c1 := hL.cell (i := i) (by omega)
            have c2 := hH.arr.cell (i := i) (by omega)
            have ht1 := (hT i (by omega)).below ((Below.refl _ _).drew)
            have ht2 := (hF i (by omega)).below ((Below.refl _ _).drew)
            rw [el] at c1 ht1
            rw [ef] at c2 ht2
            have hll := hL.lt
            have hfl := hH.arr.lt
            have Hst2 := hide (And.intro hH (And.intro hF (And.intro hT (And.intro hL hW))))
            have Hel := hide el
            have Hlen := hide (And.intro hL7l hfsl)
            clear hH hF hT hL hW el ef
            go_wp2
            go_region_held3 (fun w' => w'.cell? ⟨wA.heap.size, i, none⟩ = some (.slice ol ll cl) ∧ w'.cell? ⟨w4.heap.size + 1, i, none⟩ = some (.slice of lf cf))
              (first
                | go_keep
                | exact ⟨(hB.cell (p := ⟨wA.heap.size, i, none⟩) hll).trans c1, (hB.cell (p := ⟨w4.heap.size + 1, i, none⟩) hfl).trans c2⟩)
              (first
                | (go_at_call 10; refine (same_told ht1 ht2).mono ?_; rintro e w5 ⟨rfl, hB⟩))
            replace hB := below_same hB
            obtain ⟨hH, hF, hT, hL, hW⟩ := Hst2.out
            replace hH := hH.below hB
            replace hF := hF.below hB
            replace hT := hT.below hB
            replace hL := hL.below hB
            replace hW := below_trans hW hB
            obtain ⟨lv, hk⟩ := hH.kept
            have d1 : w5.cell? ⟨wA.heap.size, i, none⟩ = some (.slice ol ll cl) := (hB.cell (p := ⟨wA.heap.size, i, none⟩) hll).trans c1
            have Hst3 := hide (And.intro hH (And.intro hF (And.intro hT (And.intro hL (And.intro hW hk)))))
            have hbs : w.heap.size ≤ w5.heap.size := hW.size
            have hkl : (nilled (vs ++ L7.take i)).length < 1000 := by
              have := Hlen.out.1
              rw [nilled_length, List.length_append, List.length_take]
              omega
            clear hH hF hT hL hW hB c1 c2 ht1 ht2
            go_wp2_with fail
            refine (nat_any hk hbs hkl).mono ?_
            rintro e w6 ⟨rfl, lv', hk', ho⟩
            obtain ⟨hH, hF, hT, hL, hW, hk2⟩ := Hst3.out
            have Hfin := hide (And.intro (hH.snoc hk ho (by have := Hlen.out.1; omega) Hel.out hk') (And.intro (hF.off hk ho) (And.intro (hT.off hk ho) (And.intro (hL.off hk ho) (hW.trans (ho.below hk hbs))))))
            clear hH hF hT hL hW hk hk2 hk' ho hbs hkl d1
            go_wp2
            go_roundw
            case rel => exact ⟨i + 1, by omega, by go_num, Hfin.out⟩
            case measure => simp [intOf]; omega
          · have hi' : ¬ (i : Int) < 7 := by omega
            rw [List.take_of_length_le (by omega)] at hH
            have Hfin := hide (And.intro hH (And.intro hF hW))
            clear hH hF hT hL hW
            go_wp2
            go_roundw
            case rel => exact ⟨3, xs, vs ++ L7, fs, by omega, by go_num, rfl, okt, fun _ => rfl, Hfin.out.1, by rw [List.length_append]; omega, fun _ _ => Hfin.out.2.1, Hfin.out.2.2⟩
            case measure => simp [intOf]
      · have hxe := (hxt (by omega)).symm
        subst hxe
        have Hst := hide (And.intro hH hW)
        clear hH hW hF hxt hxl
        go_wp2
        go_loopw [12] (fun si wr2 => ∃ (k : Nat) (zs : List Int), k ≤ xs.length ∧ si = .int .i64 k ∧ zs.length = xs.length ∧ Nt.Ok zs ∧ Hold w.heap.size w4.heap.size (w4.heap.size + 1) wr2 (.slice (some ⟨gt, 0, none⟩) xs.length (xs.length + 1)) (.slice (some ⟨gu, 0, none⟩) ys.length (ys.length + 1)) zs ys (xs.length + 1) (ys.length + 1) vs vs fs ∧ Below w.heap.size w wr2) (fun si _ => xs.length - (intOf si).toNat)
        case atStart => exact ⟨0, xs, by omega, rfl, rfl, okt, Hst.out.1, Hst.out.2⟩
        case round =>
          clear Hst okt
          obtain ⟨k, zs, hk, rfl, hzl, okt, hH, hW⟩ := hrel
          by_cases hkl : k < xs.length
          · have hk' : (k : Int) < (xs.length : Int) := by omega
            obtain ⟨-, rest, hr, -⟩ := hH.tl.own (k := gt) rfl
            have g2 := hr.cell (i := k) (by rw [List.length_append]; omega)
            have hfz := hr.frozen k
            have Hfin := hide (And.intro (hH.tset (m := (k : Int) + 1) (by omega) (by omega : k < zs.length) (by omega)) (And.intro (hW.setCell (p := ⟨gt, k, none⟩) (hH.mem.above (.slice (some ⟨gt, 0, none⟩) xs.length (xs.length + 1)) (by simp) gt rfl) (.int .u32 ((k : Int) + 1))) (Nt.ok_set (i := k) (v := (k : Int) + 1) okt (by omega))))
            have Hzl := hide hzl
            clear hH hW hr hzl
            go_wp2
            go_roundw
            case rel => exact ⟨k + 1, _, by omega, by go_num, by rw [List.length_set]; exact Hzl.out, Hfin.out.2.2, Hfin.out.1, Hfin.out.2.1⟩
            case measure => simp [intOf]; omega
          · have hk' : ¬ (k : Int) < (xs.length : Int) := by omega
            have Hzl := hide hzl
            have hzb : zs.length ≤ 1024 := by omega
            clear hzl
            go_wp2_with fail
            refine (answers_any (A := Nt.val zs) (B := Nt.val ys) ⟨zs, hH.tl.reads, okt, rfl, by omega⟩ ⟨ys, hH.ul.reads, ob, rfl, by omega⟩ rfl hN).mono ?_
            rintro e wA ⟨v0, v1, v2, v3, v4, v5, v6, rfl, hS, hB⟩
            replace hH := hH.add hB hS (by have := hW.size; omega)
            have hT := hS.tolds
            have hfbl := hH.arr.lt
            replace hW := below_trans hW hB
            have q0 : Num _ _ v0 _ _ := hS.num 0 (by simp)
            obtain ⟨o0, l0, rfl⟩ := q0.form
            have q1 : Num _ _ v1 _ _ := hS.num 1 (by simp)
            obtain ⟨o1, l1, rfl⟩ := q1.form
            have q2 : Num _ _ v2 _ _ := hS.num 2 (by simp)
            obtain ⟨o2, l2, rfl⟩ := q2.form
            have q3 : Num _ _ v3 _ _ := hS.num 3 (by simp)
            obtain ⟨o3, l3, rfl⟩ := q3.form
            have q4 : Num _ _ v4 _ _ := hS.num 4 (by simp)
            obtain ⟨o4, l4, rfl⟩ := q4.form
            have q5 : Num _ _ v5 _ _ := hS.num 5 (by simp)
            obtain ⟨o5, l5, rfl⟩ := q5.form
            have q6 : Num _ _ v6 _ _ := hS.num 6 (by simp)
            obtain ⟨o6, l6, rfl⟩ := q6.form
            clear hS q0 q1 q2 q3 q4 q5 q6

            obtain ⟨L7, hL7⟩ : ∃ l : List Value, l = [.slice o0 l0 l0, .slice o1 l1 l1, .slice o2 l2 l2, .slice o3 l3 l3, .slice o4 l4 l4, .slice o5 l5 l5, .slice o6 l6 l6] := ⟨_, rfl⟩
            rw [← hL7] at hH hT
            have hal : Below wA.heap.size wA (wA.alloc (.cells #[Value.slice o0 l0 l0, Value.slice o1 l1 l1, Value.slice o2 l2 l2, Value.slice o3 l3 l3, Value.slice o4 l4 l4, Value.slice o5 l5 l5, Value.slice o6 l6 l6] 43)) := below_alloc _ _
            have larr : Arr (wA.alloc (.cells #[Value.slice o0 l0 l0, Value.slice o1 l1 l1, Value.slice o2 l2 l2, Value.slice o3 l3 l3, Value.slice o4 l4 l4, Value.slice o5 l5 l5, Value.slice o6 l6 l6] 43)) wA.heap.size L7 := ⟨by rw [hL7]; exact heap_alloc_new wA _, by rw [hL7]; rfl⟩
            replace hH := hH.below hal
            replace hT := hT.below hal
            replace hW := below_trans hW hal
            clear hL7
            replace hH := hH

            go_wp2_with fail
            refine (twin_any hH.tl.reads (by omega)).mono ?_
            rintro e wB ⟨t2, rfl, h_t2, hB2⟩
            replace hH := hH.below hB2
            replace hT := hT.below hB2
            replace larr := larr.below hB2
            replace hW := below_trans hW hB2
            go_wp2_with fail
            refine (twin_any hH.ul.reads (by omega)).mono ?_
            rintro e wC ⟨u2, rfl, h_u2, hB3⟩
            replace h_t2 := h_t2.below hB3
            replace hH := hH.below hB3
            replace hT := hT.below hB3
            replace larr := larr.below hB3
            replace hW := below_trans hW hB3
            go_wp2_with fail
            refine (answers_any (A := Nt.val zs) (B := Nt.val ys) ⟨zs, h_t2.reads, okt, rfl, by omega⟩ ⟨ys, h_u2.reads, ob, rfl, by omega⟩ rfl hN).mono ?_
            rintro e wD ⟨x0, x1, x2, x3, x4, x5, x6, rfl, hS, hB4⟩
            have hF := hS.tolds
            replace hH := hH.below hB4
            replace hT := hT.below hB4
            replace larr := larr.below hB4
            replace hW := below_trans hW hB4
            have q0 : Num _ _ x0 _ _ := hS.num 0 (by simp)
            obtain ⟨p0, m0, rfl⟩ := q0.form
            have q1 : Num _ _ x1 _ _ := hS.num 1 (by simp)
            obtain ⟨p1, m1, rfl⟩ := q1.form
            have q2 : Num _ _ x2 _ _ := hS.num 2 (by simp)
            obtain ⟨p2, m2, rfl⟩ := q2.form
            have q3 : Num _ _ x3 _ _ := hS.num 3 (by simp)
            obtain ⟨p3, m3, rfl⟩ := q3.form
            have q4 : Num _ _ x4 _ _ := hS.num 4 (by simp)
            obtain ⟨p4, m4, rfl⟩ := q4.form
            have q5 : Num _ _ x5 _ _ := hS.num 5 (by simp)
            obtain ⟨p5, m5, rfl⟩ := q5.form
            have q6 : Num _ _ x6 _ _ := hS.num 6 (by simp)
            obtain ⟨p6, m6, rfl⟩ := q6.form
            clear hS q0 q1 q2 q3 q4 q5 q6 hB2 hB3 hB4 h_t2 h_u2
            have hfsn : fs.length = 7 := hH.arr.2
            have cc0 := hH.arr.cell (i := 0) (by omega)
            have ff0 := hH.arr.frozen 0
            have cc1 := hH.arr.cell (i := 1) (by omega)
            have ff1 := hH.arr.frozen 1
            have cc2 := hH.arr.cell (i := 2) (by omega)
            have ff2 := hH.arr.frozen 2
            have cc3 := hH.arr.cell (i := 3) (by omega)
            have ff3 := hH.arr.frozen 3
            have cc4 := hH.arr.cell (i := 4) (by omega)
            have ff4 := hH.arr.frozen 4
            have cc5 := hH.arr.cell (i := 5) (by omega)
            have ff5 := hH.arr.frozen 5
            have cc6 := hH.arr.cell (i := 6) (by omega)
            have ff6 := hH.arr.frozen 6

            have hne : wA.heap.size ≠ w4.heap.size + 1 := by omega
            have hH9 := hH.set7 (.slice p0 m0 m0) (.slice p1 m1 m1) (.slice p2 m2 m2) (.slice p3 m3 m3) (.slice p4 m4 m4) (.slice p5 m5 m5) (.slice p6 m6 m6)
            have hF9 := hF.set7 hH.arr (.slice p0 m0 m0) (.slice p1 m1 m1) (.slice p2 m2 m2) (.slice p3 m3 m3) (.slice p4 m4 m4) (.slice p5 m5 m5) (.slice p6 m6 m6)
            have hT9 := hT.set7 hH.arr (.slice p0 m0 m0) (.slice p1 m1 m1) (.slice p2 m2 m2) (.slice p3 m3 m3) (.slice p4 m4 m4) (.slice p5 m5 m5) (.slice p6 m6 m6)
            have hL9 := larr.other7 hne (.slice p0 m0 m0) (.slice p1 m1 m1) (.slice p2 m2 m2) (.slice p3 m3 m3) (.slice p4 m4 m4) (.slice p5 m5 m5) (.slice p6 m6 m6)
            have hW9 := below7 hW (g := w4.heap.size + 1) (by omega) (.slice p0 m0 m0) (.slice p1 m1 m1) (.slice p2 m2 m2) (.slice p3 m3 m3) (.slice p4 m4 m4) (.slice p5 m5 m5) (.slice p6 m6 m6)
            have Hst9 := hide (And.intro hH9 (And.intro hF9 (And.intro hT9 (And.intro hL9 hW9))))
            clear hH hF hT larr hW hH9 hF9 hT9 hL9 hW9 hal hB hne
            go_wp2
            obtain ⟨hH, hF, hT, larr, hW⟩ := Hst9.out
            obtain ⟨F7, hF7⟩ : ∃ l : List Value, l = [.slice p0 m0 m0, .slice p1 m1 m1, .slice p2 m2 m2, .slice p3 m3 m3, .slice p4 m4 m4, .slice p5 m5 m5, .slice p6 m6 m6] := ⟨_, rfl⟩
            rw [← hF7] at hH hF

            have Hst := hide (And.intro hH (And.intro hF (And.intro hT (And.intro larr hW))))
            clear hH hF hT larr hW hF7
            go_loopw [15] (fun si wr2 => ∃ i : Nat, i ≤ 7 ∧ si = .int .i64 i ∧ Hold w.heap.size w4.heap.size (w4.heap.size + 1) wr2 (.slice (some ⟨gt, 0, none⟩) xs.length (xs.length + 1)) (.slice (some ⟨gu, 0, none⟩) ys.length (ys.length + 1)) zs ys (xs.length + 1) (ys.length + 1) (vs ++ L7) (vs ++ L7.take i) F7 ∧ Tolds wr2 F7 (ans (Nt.val zs) (Nt.val ys) N) ∧ Tolds wr2 L7 (ans (Nt.val zs) (Nt.val ys) N) ∧ Arr wr2 wA.heap.size L7 ∧ Below w.heap.size w wr2) (fun si _ => 7 - (intOf si).toNat)
            case atStart =>
              obtain ⟨a1, a2, a3, a4, a5⟩ := Hst.out
              exact ⟨0, by omega, rfl, by rw [List.take_zero, List.append_nil]; exact a1, a2, a3, a4, a5⟩
            case round =>
              obtain ⟨i, hi7, rfl, hH, hF, hT, hL, hW⟩ := hrel
              have hL7l : L7.length = 7 := hL.2
              have hfsl : F7.length = 7 := hH.arr.2
              by_cases hi : i < 7
              · have hi' : (i : Int) < 7 := by omega
                obtain ⟨ol, ll, cl, el⟩ := (hT i (by omega)).shape
                obtain ⟨of, lf, cf, ef⟩ := (hF i (by omega)).shape
                have c1 := hL.cell (i := i) (by omega)
                have c2 := hH.arr.cell (i := i) (by omega)
                have ht1 := (hT i (by omega)).below ((Below.refl _ _).drew)
                have ht2 := (hF i (by omega)).below ((Below.refl _ _).drew)
                rw [el] at c1 ht1
                rw [ef] at c2 ht2
                have hll := hL.lt
                have hfl := hH.arr.lt
                have Hst2 := hide (And.intro hH (And.intro hF (And.intro hT (And.intro hL hW))))
                have Hel := hide el
                have Hlen := hide (And.intro hL7l hfsl)
                clear hH hF hT hL hW el ef
                go_wp2
                go_region_held3 (fun w' => w'.cell? ⟨wA.heap.size, i, none⟩ = some (.slice ol ll cl) ∧ w'.cell? ⟨w4.heap.size + 1, i, none⟩ = some (.slice of lf cf))
                  (first
                    | go_keep
                    | exact ⟨(hB.cell (p := ⟨wA.heap.size, i, none⟩) hll).trans c1, (hB.cell (p := ⟨w4.heap.size + 1, i, none⟩) hfl).trans c2⟩)
                  (first
                    | (go_at_call 10; refine (same_told ht1 ht2).mono ?_; rintro e w5 ⟨rfl, hB⟩))
                replace hB := below_same hB
                obtain ⟨hH, hF, hT, hL, hW⟩ := Hst2.out
                replace hH := hH.below hB
                replace hF := hF.below hB
                replace hT := hT.below hB
                replace hL := hL.below hB
                replace hW := below_trans hW hB
                obtain ⟨lv, hk⟩ := hH.kept
                have d1 : w5.cell? ⟨wA.heap.size, i, none⟩ = some (.slice ol ll cl) := (hB.cell (p := ⟨wA.heap.size, i, none⟩) hll).trans c1
                have Hst3 := hide (And.intro hH (And.intro hF (And.intro hT (And.intro hL (And.intro hW hk)))))
                have hbs : w.heap.size ≤ w5.heap.size := hW.size
                have hkl : (nilled (vs ++ L7.take i)).length < 1000 := by
                  have := Hlen.out.1
                  rw [nilled_length, List.length_append, List.length_take]
                  omega
                clear hH hF hT hL hW hB c1 c2 ht1 ht2
                go_wp2_with fail
                refine (nat_any hk hbs hkl).mono ?_
                rintro e w6 ⟨rfl, lv', hk', ho⟩
                obtain ⟨hH, hF, hT, hL, hW, hk2⟩ := Hst3.out
                have Hfin := hide (And.intro (hH.snoc hk ho (by have := Hlen.out.1; omega) Hel.out hk') (And.intro (hF.off hk ho) (And.intro (hT.off hk ho) (And.intro (hL.off hk ho) (hW.trans (ho.below hk hbs))))))
                clear hH hF hT hL hW hk hk2 hk' ho hbs hkl d1
                go_wp2
                go_roundw
                case rel => exact ⟨i + 1, by omega, by go_num, Hfin.out⟩
                case measure => simp [intOf]; omega
              · have hi' : ¬ (i : Int) < 7 := by omega
                rw [List.take_of_length_le (by omega)] at hH
                have Hfin := hide (And.intro hH hW)
                clear hH hF hT hL hW
                go_wp2
                go_roundw
                case rel => exact ⟨4, zs, vs ++ L7, F7, by omega, by go_num, Hzl.out, okt, fun h => by omega, Hfin.out.1, by rw [List.length_append]; omega, fun _ h => by omega, Hfin.out.2⟩
                case measure => simp [intOf]

    · have hT' : ¬ (T : Int) < 4 := by omega
      have hTe : T = 4 := by omega
      obtain ⟨lv, hk⟩ := hH.kept
      have hbs : w.heap.size ≤ wr.heap.size := hW.size
      have Hst := hide (And.intro hH hW)
      have hvl2 : vs.length ≤ 100 := by omega
      clear hH hW hF hxt hxl hvl
      go_wp2_with fail
      refine (nat_any hk hbs (by rw [nilled_length]; omega)).mono ?_
      rintro e w6 ⟨rfl, lv', hk', ho⟩
      rw [← nilled_snoc] at hk'
      have hm6 := Hst.out.1.mem.off hk ho
      have hW6 := Hst.out.2.trans (ho.below hk hbs)
      have hbs6 : w.heap.size ≤ w6.heap.size := hW6.size
      clear ho hk Hst
      go_wp2_with fail
      refine (nat_any hk' hbs6 (by rw [nilled_length, List.length_append, List.length_singleton]; omega)).mono ?_
      rintro e w7 ⟨rfl, lv2, hk7, ho⟩
      rw [← nilled_snoc] at hk7
      have hm7 := hm6.off hk' ho
      have hW7 := hW6.trans (ho.below hk' hbs6)
      have hm8 := hm7.swap
      have e8 : vs ++ [.slice (some ⟨gt, 0, none⟩) xs.length (xs.length + 1), .slice (some ⟨gu, 0, none⟩) ys.length (ys.length + 1)] = (vs ++ [.slice (some ⟨gt, 0, none⟩) xs.length (xs.length + 1)]) ++ [.slice (some ⟨gu, 0, none⟩) ys.length (ys.length + 1)] := by simp
      rw [e8] at hm8
      have hbs7 : w.heap.size ≤ w7.heap.size := hW7.size
      clear ho hk' hm6 hm7 hW6 e8
      go_wp2_with fail
      refine (apart_mem hk7 hbs7 (by rw [List.length_append, List.length_append, List.length_singleton, List.length_singleton]; omega) hm8).mono ?_
      rintro e w8 ⟨rfl, hB⟩
      have Hfin := hide (hW7.trans hB)
      clear hW7 hB hm8 hk7
      go_wp2
      go_ret
      exact ⟨rfl, Hfin.out⟩

set_option maxRecDepth 100000 in
set_option maxHeartbeats 1000000 in
theorem own_big {w : World} {va vb : Value} {xs ys : List Int} {N : Int} (ha : Reads .u32 w va xs) (hb : Reads .u32 w vb ys) (la : xs.length ≤ 70368744177664) (lb : ys.length ≤ 70368744177664) (hbig : 1048576 < tot [xs.length, ys.length]) :
    Calls Tryz.prog 3 #[va, vb, .int .u8 N] w fun e w' => e = .returned (.bool true) ∧ Below w.heap.size w w' := by
  obtain ⟨ao, ca, rfl, ha1, ha2, ha3⟩ := ha
  obtain ⟨bo, cb, rfl, hb1, hb2, hb3⟩ := hb
  have hbey := fun (W : World) => beyond_two (w := W) (g := w.heap.size) (ao := ao) (ca := ca) (bo := bo) (cb := cb) la lb
  rw [decide_eq_true hbig] at hbey
  have Hbey := hide hbey
  clear hbey hbig
  go_enter Tryz.func3, Tryz.ntmps3
  go_wp2_with fail
  refine Calls.mono (Hbey.out _ (by simp) (by simp)) ?_
  rintro e w1 ⟨rfl, rfl⟩
  go_wp2
  go_ret
  exact ⟨rfl, below_alloc _ _⟩

set_option maxRecDepth 100000 in
set_option maxHeartbeats 1000000 in
theorem own_long {w : World} {va vb : Value} {xs ys : List Int} {N : Int} (ha : Reads .u32 w va xs) (hb : Reads .u32 w vb ys) (la : xs.length ≤ 70368744177664) (lb : ys.length ≤ 70368744177664) (hsml : ¬ 1048576 < tot [xs.length, ys.length]) (hsum : 1024 < xs.length + ys.length) :
    Calls Tryz.prog 3 #[va, vb, .int .u8 N] w fun e w' => e = .returned (.bool true) ∧ Below w.heap.size w w' := by
  obtain ⟨ao, ca, rfl, ha1, ha2, ha3⟩ := ha
  obtain ⟨bo, cb, rfl, hb1, hb2, hb3⟩ := hb
  have hbey := fun (W : World) => beyond_two (w := W) (g := w.heap.size) (ao := ao) (ca := ca) (bo := bo) (cb := cb) la lb
  rw [decide_eq_false hsml] at hbey
  have Hbey := hide hbey
  have hsum' : (1024 : Int) < (xs.length : Int) + (ys.length : Int) := by omega
  clear hbey hsml
  go_enter Tryz.func3, Tryz.ntmps3
  go_wp2_with fail
  refine Calls.mono (Hbey.out _ (by simp) (by simp)) ?_
  rintro e w1 ⟨rfl, rfl⟩
  go_wp2
  go_ret
  exact ⟨rfl, below_alloc _ _⟩

theorem wf_byte {n : Int} (h : (Lit.int .u8 n).wf = true) : ∃ m : Nat, n = (m : Int) ∧ m ≤ 255 := by
  have : 0 ≤ n ∧ n ≤ 255 := by simpa [Lit.wf, IntKind.min, IntKind.max, IntKind.signed, IntKind.bits] using h
  exact ⟨n.toNat, by omega, by omega⟩
theorem own_walk {w : World} {va vb : Value} {xs ys : List Int} {N : Int} (ha : Reads .u32 w va xs) (hb : Reads .u32 w vb ys) (wN : (Lit.int .u8 N).wf = true) (oa : Nt.Ok xs) (ob : Nt.Ok ys) (la : xs.length ≤ 70368744177664) (lb : ys.length ≤ 70368744177664) :
    Calls Tryz.prog 3 #[va, vb, .int .u8 N] w fun e w' => e = .returned (.bool true) ∧ Below w.heap.size w w' := by
  obtain ⟨n, rfl, hn⟩ := wf_byte wN
  by_cases hbig : 1048576 < tot [xs.length, ys.length]
  · exact own_big ha hb la lb hbig
  by_cases hsum : xs.length + ys.length ≤ 1024
  · exact own_0 ha hb oa ob la lb hbig hsum hn
  · exact own_long ha hb la lb hbig (by omega)

end Go.Proofs.YtlfkfeedopgfjabGreatDoor
