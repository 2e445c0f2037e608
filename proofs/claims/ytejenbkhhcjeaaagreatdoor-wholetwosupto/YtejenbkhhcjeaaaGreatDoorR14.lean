/- WTf, WTr, WTw -/
import Derived.Test.YtejenbkhhcjeaaaGreatDoorR09
import Derived.Test.YtejenbkhhcjeaaaGreatDoorR11
import Derived.Test.YtejenbkhhcjeaaaGreatDoorR02
import Derived.Laws.OwnMore
import Derived.Deep.AppendLies
import Derived.Test.YtejenbkhhcjeaaaGreatDoorR12
import Derived.Test.YtejenbkhhcjeaaaGreatDoorR06
import Derived.Test.YtejenbkhhcjeaaaGreatDoorR13
import Derived.Test.YtejenbkhhcjeaaaGreatDoorR08
namespace Go.Proofs.YtejenbkhhcjeaaaGreatDoor
open Go.RowKit
set_option linter.unusedVariables false
set_option linter.unusedSimpArgs false

theorem fromRel_pad {ds zs : List Int} {k : Nat} (h : FromRel ds zs k) : FromRel ds (zs ++ [0]) k := by
  obtain ⟨h1, h2, h3, h4⟩ := h
  have e : ∀ i, Nt.lb (zs ++ [0]) i = Nt.lb zs i := fun i => lb_tail0 (z := 1)
  exact ⟨nt_pad_ok (z := 1) h1, fun j hj => by rw [e]; exact h2 j hj, by rw [e]; exact h3, by rw [show Nt.val (zs ++ [0]) = Nt.val zs from nt_pad_val (z := 1)]; exact h4⟩
theorem reads_own {w : World} {B : Nat} {v : Value} {zs : List Int} (h : w.ownsRow B 41 1 v zs.length (zs.map (Value.int .u32))) : Reads .u32 w v zs := by
  rcases Nat.eq_zero_or_pos zs.length with h0 | h0
  · have e : zs = [] := List.eq_nil_of_length_eq_zero h0
    subst e
    rcases h.2 with ⟨rfl, _⟩ | ⟨g, cap, cur, rfl, hb, hg, hnc, hcm, _⟩
    · exact ⟨none, 0, rfl, by simp, by unfold maxLen; omega, fun h => by simp at h⟩
    · exact ⟨_, cap, rfl, hnc, hcm, fun h => by simp at h⟩
  · obtain ⟨g, cap, rfl, hb, hlt⟩ := h.form h0
    have h2 := h.2
    rcases h2 with ⟨he, _⟩ | ⟨g', cap', cur, he, _, hg, hnc, hcm, _⟩
    · cases he
    · simp only [Value.slice.injEq, Option.some.injEq, Addr.mk.injEq, and_true, true_and] at he
      obtain ⟨rfl, rfl⟩ := he
      refine ⟨_, cap, rfl, hnc, hcm, fun _ => ⟨g, 0, rfl, hlt, fun i hi => ?_⟩⟩
      rw [Nat.zero_add, h.cellAt i (by omega)]
      simp [Nt.lb, hi]
theorem own_set {w : World} {B g cap : Nat} {zs : List Int} (h : w.ownsRow B 41 1 (.slice (some ⟨g, 0, none⟩) zs.length cap) zs.length (zs.map (Value.int .u32))) (q : Nat) (x : Int) :
    (w.setCell ⟨g, q, none⟩ (.int .u32 x)).ownsRow B 41 1 (.slice (some ⟨g, 0, none⟩) (zs.set q x).length cap) (zs.set q x).length ((zs.set q x).map (Value.int .u32)) := by
  have h1 := (h.stored q (.int .u32 x)).1
  rw [List.length_set, List.map_set]
  exact h1

set_option maxRecDepth 20000 in
set_option maxHeartbeats 8000000 in
theorem r3fromtwos_any {w : World} {es : List Int} {s : ByteArray} {N : Nat} (ho : Nb.Ok es) (hs : s = strOfNums es.reverse) (hN : es.length = N) (hl : N < 1048576) :
    Calls Tryz.prog 12 #[.string s] w fun e w' => ∃ v, e = .returned v ∧ WNum w.heap.size w' v (twv es) ((N + 3) / 4 + (N / 4 + 1) + 1) ∧ Below w.heap.size w w' := by
  have hsz : s.size = N := by rw [hs, strOfNums_size, List.length_reverse, hN]
  have Hix := hide (show ∀ p (h : p < s.size), (((s[p]'h).toNat : Nat) : Int) = Nt.lb es (N - 1 - p) from fun p h => by
    subst hs
    have hp : p < es.length := by omega
    rw [strOfNums_at h (by rw [lb_reverse hp]; exact ho _), lb_reverse hp, hN])
  have HO := hide ho
  have HN := hide hN
  have HS := hide hs
  clear ho hN hs
  go_enter Tryz.func12, Tryz.ntmps12
  go_upto_region 1 with fail
  have D := cell2_new w (.bool false) (.slice none 0 0) 25
  have K1 := bel_alloc w (.cells #[.bool false, .slice none 0 0] 25)
  have ltb : w.heap.size < (w.alloc (.cells #[.bool false, .slice none 0 0] 25)).heap.size := D.lt
  generalize w.alloc (.cells #[.bool false, .slice none 0 0] 25) = w1 at *
  go_wp2
  go_loopw [3, 4] (fun mv iv wr => ∃ (k : Nat) (zs : List Int), k ≤ N ∧ iv = .int .i64 k ∧ zs.length = (k + 3) / 4 ∧ FromRel es zs k ∧ wr.ownsRow w1.heap.size 41 1 mv zs.length (zs.map (Value.int .u32)) ∧ Below w1.heap.size w1 wr) (fun _ iv _ => N - (intOf iv).toNat)
  case atStart => exact ⟨0, [], by omega, rfl, rfl, ⟨Nt.ok_nil, fun j _ => by simp [Nt.lb], by simp [Nt.lb]; decide, rfl⟩, World.ownsRow_nil _ _ _ _, Below.refl _ _⟩
  case round =>
    obtain ⟨k, zs, hk, rfl, hzl, hrel, hown, hbr⟩ := hrel
    have HZR := hide hrel
    clear hrel
    by_cases hkN : k < N
    · obtain ⟨q, hq⟩ : ∃ q, q = k / 4 := ⟨_, rfl⟩
      obtain ⟨r, hr⟩ : ∃ r, r = k % 4 := ⟨_, rfl⟩
      obtain ⟨p, hp⟩ : ∃ p, p = N - 1 - k := ⟨_, rfl⟩
      have hps : p < s.size := by omega
      have hx := Hix.out p hps
      rw [show N - 1 - p = k by omega] at hx
      have bd := HO.out k
      obtain ⟨b, hb⟩ : ∃ b, Nt.lb es k = b := ⟨_, rfl⟩
      rw [hb] at hx bd
      have HB := hide hb
      have q0 : (k : Int) < (N : Int) := by omega
      have q1 : (k : Int) / 4 = (q : Int) := by omega
      have q2 : (N : Int) - 1 - (k : Int) = (p : Int) := by omega
      have q4 : (p : Int) < (N : Int) := by omega
      have q5 : (k : Int) % 4 = (r : Int) := by omega
      have hrb : r < 4 := by omega
      have hzm : zs.length ≤ 1048576 := by omega
      have HQ := hide (And.intro hq (And.intro hr hzl))
      clear hb hp hq hr hzl
      match r, hrb with
      | 0, _ =>
        have hsB := hbr.size
        go_wp2_with (at_builtin; refine wpList_append_cells _ rfl _ _ 23 rfl w1.heap.size 41 .u32 4 Tryz.underlying23 Tryz.infoU32 _ zs.length zs rfl (hown.alloc _) (some ⟨wr.heap.size, 0, none⟩) 1 [0] rfl (cells_one _ _ _ _) (by unfold maxLen; simp; omega) (by simp; omega) (by simp; omega) ?_)
        intro v' wq hown' hgrow
        have hbq : Below w1.heap.size w1 wq := below_own (hbr.alloc hsB _) (by simp; omega) (hown.alloc _) hgrow
        obtain ⟨ys, hys⟩ : ∃ ys, zs ++ [0] = ys := ⟨_, rfl⟩
        have HR := hide (show FromRel es ys k from by rw [← hys]; exact fromRel_pad HZR.out)
        have hyl : ys.length = q + 1 := by have := HQ.out.1; have := HQ.out.2.1; have := HQ.out.2.2; rw [← hys]; simp; omega
        have hown2 : wq.ownsRow w1.heap.size 41 1 v' ys.length (ys.map (Value.int .u32)) := by rw [← hys]; simpa using hown'
        clear hown
        have hown := hown2
        clear hown2 hown' hgrow hys HZR hzm hsB hbr
        have hq := HQ.out.1
        have hr := HQ.out.2.1
        obtain ⟨g, cap, rfl, hgB, hglt⟩ := hown.form (by omega)
        have g1 : wq.cell? ⟨g, q, none⟩ = some (.int .u32 (Nt.lb ys q)) := by
          rw [hown.cellAt q (by omega)]
          have : q < ys.length := by omega
          simp [Nt.lb, this]
        have hfz := hown.frozenAt q
        have hst := fromRel_step HR.out (q := q) (r := 0) (by omega) (by omega) (by omega) (HO.out k)
        have hbn := (limb_or (x := Nt.lb ys q) (b := Nt.lb es k) (r := 0) ⟨(HR.out.1 q).1, by have h := HR.out.2.2.1; rw [show k / 4 = q by omega, show k % 4 = 0 by omega] at h; exact h⟩ (HO.out k) (by omega)).2
        rw [show Nb.pw 0 = 1 by decide, Int.mul_one] at hst
        rw [show Nb.pw 0 = 1 by decide, show Nb.pw (0 + 1) = 256 by decide, Int.mul_one] at hbn
        have y0 := (HR.out.1 q).1
        obtain ⟨x, hx⟩ : ∃ x, Nt.lb ys q = x := ⟨_, rfl⟩
        rw [hx] at g1 hst hbn y0
        have q6 : (q : Int) < (ys.length : Int) := by omega
        have wr8 : IntKind.u32.wrap (x + b) = x + b := by rw [IntKind.wrap_u32]; rw [HB.out] at hbn; omega
        have HST := hide hst
        have HON := hide hown
        have HYL := hide hyl
        have HBQ := hide hbq
        rw [HB.out] at hbn
        clear hst hown hyl hbq hx hq hr
        go_wp2
        go_region
        all_goals go_wp2
        all_goals go_roundw
        all_goals first
          | exact ⟨k + 1, ys.set q (x + b), by omega, by go_num, by rw [List.length_set, HYL.out]; have := HQ.out.1; have := HQ.out.2.1; omega, by rw [← HB.out]; exact HST.out, by rw [← List.length_set (i := q) (a := x + b)]; exact own_set HON.out q _, (HBQ.out.setCell (by simpa using hgB) _).drew⟩
          | (simp [intOf]; omega)
      | 1, _ =>
        obtain ⟨ys, rfl⟩ : ∃ ys, ys = zs := ⟨_, rfl⟩
        obtain ⟨wq, rfl⟩ : ∃ u, u = wr := ⟨_, rfl⟩
        have HR := HZR
        have hbq := hbr
        have hyl : ys.length = q + 1 := by have := HQ.out.1; have := HQ.out.2.1; have := HQ.out.2.2; omega
        clear hbr HZR hzm
        have hq := HQ.out.1
        have hr := HQ.out.2.1
        obtain ⟨g, cap, rfl, hgB, hglt⟩ := hown.form (by omega)
        have g1 : wq.cell? ⟨g, q, none⟩ = some (.int .u32 (Nt.lb ys q)) := by
          rw [hown.cellAt q (by omega)]
          have : q < ys.length := by omega
          simp [Nt.lb, this]
        have hfz := hown.frozenAt q
        have hst := fromRel_step HR.out (q := q) (r := 1) (by omega) (by omega) (by omega) (HO.out k)
        have hbn := (limb_or (x := Nt.lb ys q) (b := Nt.lb es k) (r := 1) ⟨(HR.out.1 q).1, by have h := HR.out.2.2.1; rw [show k / 4 = q by omega, show k % 4 = 1 by omega] at h; exact h⟩ (HO.out k) (by omega)).2
        rw [show Nb.pw 1 = 256 by decide] at hst
        rw [show Nb.pw 1 = 256 by decide, show Nb.pw (1 + 1) = 65536 by decide] at hbn
        have y0 := (HR.out.1 q).1
        obtain ⟨x, hx⟩ : ∃ x, Nt.lb ys q = x := ⟨_, rfl⟩
        rw [hx] at g1 hst hbn y0
        have q6 : (q : Int) < (ys.length : Int) := by omega
        have wr8 : IntKind.u32.wrap (x + b * 256) = x + b * 256 := by rw [IntKind.wrap_u32]; rw [HB.out] at hbn; omega
        have HST := hide hst
        have HON := hide hown
        have HYL := hide hyl
        have HBQ := hide hbq
        rw [HB.out] at hbn
        clear hst hown hyl hbq hx hq hr
        go_wp2
        go_region
        all_goals go_wp2
        all_goals go_roundw
        all_goals first
          | exact ⟨k + 1, ys.set q (x + b * 256), by omega, by go_num, by rw [List.length_set, HYL.out]; have := HQ.out.1; have := HQ.out.2.1; omega, by rw [← HB.out]; exact HST.out, by rw [← List.length_set (i := q) (a := x + b * 256)]; exact own_set HON.out q _, (HBQ.out.setCell (by simpa using hgB) _).drew⟩
          | (simp [intOf]; omega)
      | 2, _ =>
        obtain ⟨ys, rfl⟩ : ∃ ys, ys = zs := ⟨_, rfl⟩
        obtain ⟨wq, rfl⟩ : ∃ u, u = wr := ⟨_, rfl⟩
        have HR := HZR
        have hbq := hbr
        have hyl : ys.length = q + 1 := by have := HQ.out.1; have := HQ.out.2.1; have := HQ.out.2.2; omega
        clear hbr HZR hzm
        have hq := HQ.out.1
        have hr := HQ.out.2.1
        obtain ⟨g, cap, rfl, hgB, hglt⟩ := hown.form (by omega)
        have g1 : wq.cell? ⟨g, q, none⟩ = some (.int .u32 (Nt.lb ys q)) := by
          rw [hown.cellAt q (by omega)]
          have : q < ys.length := by omega
          simp [Nt.lb, this]
        have hfz := hown.frozenAt q
        have hst := fromRel_step HR.out (q := q) (r := 2) (by omega) (by omega) (by omega) (HO.out k)
        have hbn := (limb_or (x := Nt.lb ys q) (b := Nt.lb es k) (r := 2) ⟨(HR.out.1 q).1, by have h := HR.out.2.2.1; rw [show k / 4 = q by omega, show k % 4 = 2 by omega] at h; exact h⟩ (HO.out k) (by omega)).2
        rw [show Nb.pw 2 = 65536 by decide] at hst
        rw [show Nb.pw 2 = 65536 by decide, show Nb.pw (2 + 1) = 16777216 by decide] at hbn
        have y0 := (HR.out.1 q).1
        obtain ⟨x, hx⟩ : ∃ x, Nt.lb ys q = x := ⟨_, rfl⟩
        rw [hx] at g1 hst hbn y0
        have q6 : (q : Int) < (ys.length : Int) := by omega
        have wr8 : IntKind.u32.wrap (x + b * 65536) = x + b * 65536 := by rw [IntKind.wrap_u32]; rw [HB.out] at hbn; omega
        have HST := hide hst
        have HON := hide hown
        have HYL := hide hyl
        have HBQ := hide hbq
        rw [HB.out] at hbn
        clear hst hown hyl hbq hx hq hr
        go_wp2
        go_region
        all_goals go_wp2
        all_goals go_roundw
        all_goals first
          | exact ⟨k + 1, ys.set q (x + b * 65536), by omega, by go_num, by rw [List.length_set, HYL.out]; have := HQ.out.1; have := HQ.out.2.1; omega, by rw [← HB.out]; exact HST.out, by rw [← List.length_set (i := q) (a := x + b * 65536)]; exact own_set HON.out q _, (HBQ.out.setCell (by simpa using hgB) _).drew⟩
          | (simp [intOf]; omega)
      | 3, _ =>
        obtain ⟨ys, rfl⟩ : ∃ ys, ys = zs := ⟨_, rfl⟩
        obtain ⟨wq, rfl⟩ : ∃ u, u = wr := ⟨_, rfl⟩
        have HR := HZR
        have hbq := hbr
        have hyl : ys.length = q + 1 := by have := HQ.out.1; have := HQ.out.2.1; have := HQ.out.2.2; omega
        clear hbr HZR hzm
        have hq := HQ.out.1
        have hr := HQ.out.2.1
        obtain ⟨g, cap, rfl, hgB, hglt⟩ := hown.form (by omega)
        have g1 : wq.cell? ⟨g, q, none⟩ = some (.int .u32 (Nt.lb ys q)) := by
          rw [hown.cellAt q (by omega)]
          have : q < ys.length := by omega
          simp [Nt.lb, this]
        have hfz := hown.frozenAt q
        have hst := fromRel_step HR.out (q := q) (r := 3) (by omega) (by omega) (by omega) (HO.out k)
        have hbn := (limb_or (x := Nt.lb ys q) (b := Nt.lb es k) (r := 3) ⟨(HR.out.1 q).1, by have h := HR.out.2.2.1; rw [show k / 4 = q by omega, show k % 4 = 3 by omega] at h; exact h⟩ (HO.out k) (by omega)).2
        rw [show Nb.pw 3 = 16777216 by decide] at hst
        rw [show Nb.pw 3 = 16777216 by decide, show Nb.pw (3 + 1) = 4294967296 by decide] at hbn
        have y0 := (HR.out.1 q).1
        obtain ⟨x, hx⟩ : ∃ x, Nt.lb ys q = x := ⟨_, rfl⟩
        rw [hx] at g1 hst hbn y0
        have q6 : (q : Int) < (ys.length : Int) := by omega
        have wr8 : IntKind.u32.wrap (x + b * 16777216) = x + b * 16777216 := by rw [IntKind.wrap_u32]; rw [HB.out] at hbn; omega
        have HST := hide hst
        have HON := hide hown
        have HYL := hide hyl
        have HBQ := hide hbq
        rw [HB.out] at hbn
        clear hst hown hyl hbq hx hq hr
        go_wp2
        go_region
        all_goals go_wp2
        all_goals go_roundw
        all_goals first
          | exact ⟨k + 1, ys.set q (x + b * 16777216), by omega, by go_num, by rw [List.length_set, HYL.out]; have := HQ.out.1; have := HQ.out.2.1; omega, by rw [← HB.out]; exact HST.out, by rw [← List.length_set (i := q) (a := x + b * 16777216)]; exact own_set HON.out q _, (HBQ.out.setCell (by simpa using hgB) _).drew⟩
          | (simp [intOf]; omega)
    · have q0 : ¬ (k : Int) < (N : Int) := by omega
      obtain rfl : k = N := by omega
      have hrd := reads_own hown
      have HA := hide (show Arg _ _ (Nb.val es) ((k + 3) / 4) from ⟨zs, hrd, HZR.out.1, by rw [HZR.out.2.2.2]; unfold Nb.val; rw [HN.out], by omega⟩)
      obtain ⟨ao, cap, rfl, -⟩ := hrd
      have K := hbr
      clear hown HZR hzl hk hkN hbr
      go_wp2_with fail
      with_reducible refine (r3norm_any (warg_mk (z := false) HA.out) (by omega)).mono ?_
      rintro e w2 ⟨v2, rfl, h2, hb2⟩
      obtain ⟨xg, xo, xl, rfl⟩ := h2.told
      have KA := below_trans K hb2
      go_upto_region 10 with fail
      have CX := cell2_new w2 (.bool xg) (.slice xo xl xl) 25
      have hb := bel_alloc w2 (.cells #[.bool xg, .slice xo xl xl] 25)
      have h3 := h2.below hb
      have KB := below_trans KA hb
      obtain ⟨bx, eb⟩ : ∃ b, b = w2.heap.size := ⟨_, rfl⟩
      rw [← eb] at CX ⊢
      have hbx : w1.heap.size ≤ bx := by rw [eb]; exact KA.size
      have hwr := K.size
      clear eb hb h2 hb2 KA K HA
      generalize w2.alloc (.cells #[.bool xg, .slice xo xl xl] 25) = w3 at *
      have DW := D.below KB
      have hV : Hid (WNum w1.heap.size w3 (.agg #[.bool xg, .slice xo xl xl]) (Nb.val es) ((k + 3) / 4 + (k / 4 + 1) + 1)) := hide (by
        have e : wn false (Nb.val es) = Nb.val es := rfl
        rw [← e]
        exact (h3.low hwr).mono (by omega))
      by_cases hc : k = 0
      · have q5 : ¬ (0 : Int) < (k : Int) := by omega
        have hTV : Nb.val es = twv es := by
          have e : es = [] := List.eq_nil_of_length_eq_zero (by rw [HN.out]; exact hc)
          rw [e]; rfl
        clear hc
        have d0 := DW.c0; have d1 := DW.c1; have f0 := DW.f0; have f1 := DW.f1
        have p0 := CX.c0; have p1 := CX.c1
        have HDW := hide DW
        have HV := hide (hTV ▸ hV.out : WNum w1.heap.size w3 (.agg #[.bool xg, .slice xo xl xl]) (twv es) ((k + 3) / 4 + (k / 4 + 1) + 1))
        clear h3 CX D DW hTV hV
        go_wp2
        have PD := HDW.out.put (.bool xg) (.slice xo xl xl)
        have KZ := below_put2 (b := w.heap.size) (below_trans K1 KB) (Nat.le_refl _) (.bool xg) (.slice xo xl xl)
        have WN := ((HV.out.put ltb 0 (.bool xg)).put ltb 1 (.slice xo xl xl)).low (B' := w.heap.size) (by omega)
        clear d0 d1 f0 f1 p0 p1 HV
        generalize (w3.setCell ⟨w.heap.size, 0, none⟩ (.bool xg)).setCell ⟨w.heap.size, 1, none⟩ (.slice xo xl xl) = w9 at *
        (try simp only [Exit.inBlock, Exit.then])
        exact bodyPost_ret (v := .agg #[.bool xg, .slice xo xl xl]) (by simp [results, Tryz.results12, go_sem, PD.c0, PD.c1]) rfl ⟨_, rfl, WN, KZ⟩
      · have hp : 0 < s.size := by omega
        have q5 : (0 : Int) < (k : Int) := by omega
        have hix := Hix.out 0 hp
        rw [Nat.sub_zero] at hix
        have bd := HO.out (k - 1)
        obtain ⟨y, hy⟩ : ∃ y, Nt.lb es (k - 1) = y := ⟨_, rfl⟩
        rw [hy] at hix bd
        have HY := hide hy
        clear hy
        by_cases ht : y < 128
        · have q6 : ¬ (128 : Int) ≤ y := by omega
          have hTV : Nb.val es = twv es := by unfold twv; rw [HN.out, HY.out, if_neg q6]
          clear ht
          have d0 := DW.c0; have d1 := DW.c1; have f0 := DW.f0; have f1 := DW.f1
          have p0 := CX.c0; have p1 := CX.c1
          have HDW := hide DW
          have HV := hide (hTV ▸ hV.out : WNum w1.heap.size w3 (.agg #[.bool xg, .slice xo xl xl]) (twv es) ((k + 3) / 4 + (k / 4 + 1) + 1))
          clear h3 CX D DW hTV hV
          go_wp2
          have PD := HDW.out.put (.bool xg) (.slice xo xl xl)
          have KZ := below_put2 (b := w.heap.size) (below_trans K1 KB) (Nat.le_refl _) (.bool xg) (.slice xo xl xl)
          have WN := ((HV.out.put ltb 0 (.bool xg)).put ltb 1 (.slice xo xl xl)).low (B' := w.heap.size) (by omega)
          clear d0 d1 f0 f1 p0 p1 HV
          generalize (w3.setCell ⟨w.heap.size, 0, none⟩ (.bool xg)).setCell ⟨w.heap.size, 1, none⟩ (.slice xo xl xl) = w9 at *
          (try simp only [Exit.inBlock, Exit.then])
          exact bodyPost_ret (v := .agg #[.bool xg, .slice xo xl xl]) (by simp [results, Tryz.results12, go_sem, PD.c0, PD.c1]) rfl ⟨_, rfl, WN, KZ⟩
        · have q6 : (128 : Int) ≤ y := by omega
          have hTV : Nb.val es + -(Nb.pw k) = twv es := by unfold twv; rw [HN.out, HY.out, if_pos q6]; omega
          obtain ⟨m, hm⟩ : ∃ m, k / 4 = m := ⟨_, rfl⟩
          obtain ⟨M, hM⟩ : ∃ M, m + 1 = M := ⟨_, rfl⟩
          obtain ⟨r, hr⟩ : ∃ r, k % 4 = r := ⟨_, rfl⟩
          have y1 : (k : Int) / 4 = (m : Int) := by omega
          have y2 : (m : Int) + 1 = (M : Int) := by omega
          have y3 : (k : Int) % 4 = (r : Int) := by omega
          have y4 : (m : Int) < (M : Int) := by omega
          have hMb : M ≤ 1048576 := by omega
          have hrb : r < 4 := by omega
          have HMR := hide (And.intro hm (And.intro hM hr))
          clear ht hm hM hr
          match r, hrb with
          | 0, _ =>
            go_wp2_with (at_make; refine wpList_make_row _ rfl _ _ 23 rfl 41 .u32 4 Tryz.underlying23 Tryz.infoU32 _ _ _ _ M M rfl rfl (by omega) (by omega) (Nat.le_refl _) (by omega) (by unfold maxLen; omega) ?_)
            intro w4 hrow hbel hsz1
            have hfz := hrow.frozen m
            have g1 := hrow.cell (i := m) (by simp; omega)
            have R5 := hrow.set m 1
            have hb5 : Below w3.heap.size w3 (w4.setCell ⟨w3.heap.size, m, none⟩ (.int .u32 1)) := hbel.setCell (p := ⟨w3.heap.size, m, none⟩) (Nat.le_refl _) _
            go_upto_region 13 with fail
            generalize w4.setCell ⟨w3.heap.size, m, none⟩ (.int .u32 1) = w5 at *
            clear hrow hbel hsz1 hfz g1 DW
            have hm := HMR.out.1
            have hM := HMR.out.2.1
            have hr := HMR.out.2.2
            have HA := hide (show Arg w5 (.slice (some ⟨w3.heap.size, 0, none⟩) M M) (Nb.pw k) M from ⟨_, by
              have h := (R5.made (Nat.le_refl _) (n := M) (by simp) (by unfold maxLen; omega)).reads
              rw [List.take_of_length_le (by simp)] at h
              exact h, Nt.ok_set (Nt.ok_replicate _) ⟨by omega, by omega⟩, by
              rw [nt_val_set (by simp; omega), Nt.val_replicate, Nt.lb_replicate, show k = 4 * m + 0 by omega, Nb.pw_add, Nb.pw_four, show Nb.pw 0 = 1 by decide, Int.zero_add, Int.sub_zero, Int.mul_comm], by simp⟩)
            have CX5 := CX.below hb5
            have h5 := h3.below hb5
            have K5 := below_trans KB hb5
            clear R5 hb5 CX KB h3 hm hM hr
            have p0 := CX5.c0; have p1 := CX5.c1
            go_wp2_with fail
            with_reducible refine (r3sub_any h5.arg (by omega) (warg_mk (z := false) HA.out) (by have := HMR.out.1; have := HMR.out.2.1; omega)).mono ?_
            rintro e w6 ⟨v6, rfl, h6, hb6⟩
            obtain ⟨zg, zo, zl, rfl⟩ := h6.told
            clear p0 p1
            have CX6 := CX5.below hb6
            have K6 := below_trans K5 hb6
            have hblt : bx < w5.heap.size := CX5.lt
            have p0 := CX6.c0; have p1 := CX6.c1; have f0 := CX6.f0; have f1 := CX6.f1
            go_upto_region 14 with fail
            have CX7 := CX6.put (.bool zg) (.slice zo zl zl)
            have K7 := below_put2 (b := bx) K6 hbx (.bool zg) (.slice zo zl zl)
            have h7 := (h6.put hblt 0 (.bool zg)).put hblt 1 (.slice zo zl zl)
            clear p0 p1 f0 f1 CX5 CX6 K6 h5 h6 hb6
            generalize (w6.setCell ⟨bx, 0, none⟩ (.bool zg)).setCell ⟨bx, 1, none⟩ (.slice zo zl zl) = w7 at *
            have DW := D.below K7
            have hV : Hid (WNum w1.heap.size w7 (.agg #[.bool zg, .slice zo zl zl]) (Nb.val es + -(Nb.pw k)) ((k + 3) / 4 + (k / 4 + 1) + 1)) := hide ((h7.low K5.size).mono (by have := HMR.out.1; have := HMR.out.2.1; omega))
            clear h7 HA K5
            have d0 := DW.c0; have d1 := DW.c1; have f0 := DW.f0; have f1 := DW.f1
            have p0 := CX7.c0; have p1 := CX7.c1
            have HDW := hide DW
            have HV := hide (hTV ▸ hV.out : WNum w1.heap.size w7 (.agg #[.bool zg, .slice zo zl zl]) (twv es) ((k + 3) / 4 + (k / 4 + 1) + 1))
            clear CX7 D DW hTV hV
            go_wp2
            have PD := HDW.out.put (.bool zg) (.slice zo zl zl)
            have KZ := below_put2 (b := w.heap.size) (below_trans K1 K7) (Nat.le_refl _) (.bool zg) (.slice zo zl zl)
            have WN := ((HV.out.put ltb 0 (.bool zg)).put ltb 1 (.slice zo zl zl)).low (B' := w.heap.size) (by omega)
            clear d0 d1 f0 f1 p0 p1 HV
            generalize (w7.setCell ⟨w.heap.size, 0, none⟩ (.bool zg)).setCell ⟨w.heap.size, 1, none⟩ (.slice zo zl zl) = w9 at *
            (try simp only [Exit.inBlock, Exit.then])
            exact bodyPost_ret (v := .agg #[.bool zg, .slice zo zl zl]) (by simp [results, Tryz.results12, go_sem, PD.c0, PD.c1]) rfl ⟨_, rfl, WN, KZ⟩
          | 1, _ =>
            go_wp2_with (at_make; refine wpList_make_row _ rfl _ _ 23 rfl 41 .u32 4 Tryz.underlying23 Tryz.infoU32 _ _ _ _ M M rfl rfl (by omega) (by omega) (Nat.le_refl _) (by omega) (by unfold maxLen; omega) ?_)
            intro w4 hrow hbel hsz1
            have hfz := hrow.frozen m
            have g1 := hrow.cell (i := m) (by simp; omega)
            have R5 := hrow.set m 256
            have hb5 : Below w3.heap.size w3 (w4.setCell ⟨w3.heap.size, m, none⟩ (.int .u32 256)) := hbel.setCell (p := ⟨w3.heap.size, m, none⟩) (Nat.le_refl _) _
            go_upto_region 13 with fail
            generalize w4.setCell ⟨w3.heap.size, m, none⟩ (.int .u32 256) = w5 at *
            clear hrow hbel hsz1 hfz g1 DW
            have hm := HMR.out.1
            have hM := HMR.out.2.1
            have hr := HMR.out.2.2
            have HA := hide (show Arg w5 (.slice (some ⟨w3.heap.size, 0, none⟩) M M) (Nb.pw k) M from ⟨_, by
              have h := (R5.made (Nat.le_refl _) (n := M) (by simp) (by unfold maxLen; omega)).reads
              rw [List.take_of_length_le (by simp)] at h
              exact h, Nt.ok_set (Nt.ok_replicate _) ⟨by omega, by omega⟩, by
              rw [nt_val_set (by simp; omega), Nt.val_replicate, Nt.lb_replicate, show k = 4 * m + 1 by omega, Nb.pw_add, Nb.pw_four, show Nb.pw 1 = 256 by decide, Int.zero_add, Int.sub_zero, Int.mul_comm], by simp⟩)
            have CX5 := CX.below hb5
            have h5 := h3.below hb5
            have K5 := below_trans KB hb5
            clear R5 hb5 CX KB h3 hm hM hr
            have p0 := CX5.c0; have p1 := CX5.c1
            go_wp2_with fail
            with_reducible refine (r3sub_any h5.arg (by omega) (warg_mk (z := false) HA.out) (by have := HMR.out.1; have := HMR.out.2.1; omega)).mono ?_
            rintro e w6 ⟨v6, rfl, h6, hb6⟩
            obtain ⟨zg, zo, zl, rfl⟩ := h6.told
            clear p0 p1
            have CX6 := CX5.below hb6
            have K6 := below_trans K5 hb6
            have hblt : bx < w5.heap.size := CX5.lt
            have p0 := CX6.c0; have p1 := CX6.c1; have f0 := CX6.f0; have f1 := CX6.f1
            go_upto_region 14 with fail
            have CX7 := CX6.put (.bool zg) (.slice zo zl zl)
            have K7 := below_put2 (b := bx) K6 hbx (.bool zg) (.slice zo zl zl)
            have h7 := (h6.put hblt 0 (.bool zg)).put hblt 1 (.slice zo zl zl)
            clear p0 p1 f0 f1 CX5 CX6 K6 h5 h6 hb6
            generalize (w6.setCell ⟨bx, 0, none⟩ (.bool zg)).setCell ⟨bx, 1, none⟩ (.slice zo zl zl) = w7 at *
            have DW := D.below K7
            have hV : Hid (WNum w1.heap.size w7 (.agg #[.bool zg, .slice zo zl zl]) (Nb.val es + -(Nb.pw k)) ((k + 3) / 4 + (k / 4 + 1) + 1)) := hide ((h7.low K5.size).mono (by have := HMR.out.1; have := HMR.out.2.1; omega))
            clear h7 HA K5
            have d0 := DW.c0; have d1 := DW.c1; have f0 := DW.f0; have f1 := DW.f1
            have p0 := CX7.c0; have p1 := CX7.c1
            have HDW := hide DW
            have HV := hide (hTV ▸ hV.out : WNum w1.heap.size w7 (.agg #[.bool zg, .slice zo zl zl]) (twv es) ((k + 3) / 4 + (k / 4 + 1) + 1))
            clear CX7 D DW hTV hV
            go_wp2
            have PD := HDW.out.put (.bool zg) (.slice zo zl zl)
            have KZ := below_put2 (b := w.heap.size) (below_trans K1 K7) (Nat.le_refl _) (.bool zg) (.slice zo zl zl)
            have WN := ((HV.out.put ltb 0 (.bool zg)).put ltb 1 (.slice zo zl zl)).low (B' := w.heap.size) (by omega)
            clear d0 d1 f0 f1 p0 p1 HV
            generalize (w7.setCell ⟨w.heap.size, 0, none⟩ (.bool zg)).setCell ⟨w.heap.size, 1, none⟩ (.slice zo zl zl) = w9 at *
            (try simp only [Exit.inBlock, Exit.then])
            exact bodyPost_ret (v := .agg #[.bool zg, .slice zo zl zl]) (by simp [results, Tryz.results12, go_sem, PD.c0, PD.c1]) rfl ⟨_, rfl, WN, KZ⟩
          | 2, _ =>
            go_wp2_with (at_make; refine wpList_make_row _ rfl _ _ 23 rfl 41 .u32 4 Tryz.underlying23 Tryz.infoU32 _ _ _ _ M M rfl rfl (by omega) (by omega) (Nat.le_refl _) (by omega) (by unfold maxLen; omega) ?_)
            intro w4 hrow hbel hsz1
            have hfz := hrow.frozen m
            have g1 := hrow.cell (i := m) (by simp; omega)
            have R5 := hrow.set m 65536
            have hb5 : Below w3.heap.size w3 (w4.setCell ⟨w3.heap.size, m, none⟩ (.int .u32 65536)) := hbel.setCell (p := ⟨w3.heap.size, m, none⟩) (Nat.le_refl _) _
            go_upto_region 13 with fail
            generalize w4.setCell ⟨w3.heap.size, m, none⟩ (.int .u32 65536) = w5 at *
            clear hrow hbel hsz1 hfz g1 DW
            have hm := HMR.out.1
            have hM := HMR.out.2.1
            have hr := HMR.out.2.2
            have HA := hide (show Arg w5 (.slice (some ⟨w3.heap.size, 0, none⟩) M M) (Nb.pw k) M from ⟨_, by
              have h := (R5.made (Nat.le_refl _) (n := M) (by simp) (by unfold maxLen; omega)).reads
              rw [List.take_of_length_le (by simp)] at h
              exact h, Nt.ok_set (Nt.ok_replicate _) ⟨by omega, by omega⟩, by
              rw [nt_val_set (by simp; omega), Nt.val_replicate, Nt.lb_replicate, show k = 4 * m + 2 by omega, Nb.pw_add, Nb.pw_four, show Nb.pw 2 = 65536 by decide, Int.zero_add, Int.sub_zero, Int.mul_comm], by simp⟩)
            have CX5 := CX.below hb5
            have h5 := h3.below hb5
            have K5 := below_trans KB hb5
            clear R5 hb5 CX KB h3 hm hM hr
            have p0 := CX5.c0; have p1 := CX5.c1
            go_wp2_with fail
            with_reducible refine (r3sub_any h5.arg (by omega) (warg_mk (z := false) HA.out) (by have := HMR.out.1; have := HMR.out.2.1; omega)).mono ?_
            rintro e w6 ⟨v6, rfl, h6, hb6⟩
            obtain ⟨zg, zo, zl, rfl⟩ := h6.told
            clear p0 p1
            have CX6 := CX5.below hb6
            have K6 := below_trans K5 hb6
            have hblt : bx < w5.heap.size := CX5.lt
            have p0 := CX6.c0; have p1 := CX6.c1; have f0 := CX6.f0; have f1 := CX6.f1
            go_upto_region 14 with fail
            have CX7 := CX6.put (.bool zg) (.slice zo zl zl)
            have K7 := below_put2 (b := bx) K6 hbx (.bool zg) (.slice zo zl zl)
            have h7 := (h6.put hblt 0 (.bool zg)).put hblt 1 (.slice zo zl zl)
            clear p0 p1 f0 f1 CX5 CX6 K6 h5 h6 hb6
            generalize (w6.setCell ⟨bx, 0, none⟩ (.bool zg)).setCell ⟨bx, 1, none⟩ (.slice zo zl zl) = w7 at *
            have DW := D.below K7
            have hV : Hid (WNum w1.heap.size w7 (.agg #[.bool zg, .slice zo zl zl]) (Nb.val es + -(Nb.pw k)) ((k + 3) / 4 + (k / 4 + 1) + 1)) := hide ((h7.low K5.size).mono (by have := HMR.out.1; have := HMR.out.2.1; omega))
            clear h7 HA K5
            have d0 := DW.c0; have d1 := DW.c1; have f0 := DW.f0; have f1 := DW.f1
            have p0 := CX7.c0; have p1 := CX7.c1
            have HDW := hide DW
            have HV := hide (hTV ▸ hV.out : WNum w1.heap.size w7 (.agg #[.bool zg, .slice zo zl zl]) (twv es) ((k + 3) / 4 + (k / 4 + 1) + 1))
            clear CX7 D DW hTV hV
            go_wp2
            have PD := HDW.out.put (.bool zg) (.slice zo zl zl)
            have KZ := below_put2 (b := w.heap.size) (below_trans K1 K7) (Nat.le_refl _) (.bool zg) (.slice zo zl zl)
            have WN := ((HV.out.put ltb 0 (.bool zg)).put ltb 1 (.slice zo zl zl)).low (B' := w.heap.size) (by omega)
            clear d0 d1 f0 f1 p0 p1 HV
            generalize (w7.setCell ⟨w.heap.size, 0, none⟩ (.bool zg)).setCell ⟨w.heap.size, 1, none⟩ (.slice zo zl zl) = w9 at *
            (try simp only [Exit.inBlock, Exit.then])
            exact bodyPost_ret (v := .agg #[.bool zg, .slice zo zl zl]) (by simp [results, Tryz.results12, go_sem, PD.c0, PD.c1]) rfl ⟨_, rfl, WN, KZ⟩
          | 3, _ =>
            go_wp2_with (at_make; refine wpList_make_row _ rfl _ _ 23 rfl 41 .u32 4 Tryz.underlying23 Tryz.infoU32 _ _ _ _ M M rfl rfl (by omega) (by omega) (Nat.le_refl _) (by omega) (by unfold maxLen; omega) ?_)
            intro w4 hrow hbel hsz1
            have hfz := hrow.frozen m
            have g1 := hrow.cell (i := m) (by simp; omega)
            have R5 := hrow.set m 16777216
            have hb5 : Below w3.heap.size w3 (w4.setCell ⟨w3.heap.size, m, none⟩ (.int .u32 16777216)) := hbel.setCell (p := ⟨w3.heap.size, m, none⟩) (Nat.le_refl _) _
            go_upto_region 13 with fail
            generalize w4.setCell ⟨w3.heap.size, m, none⟩ (.int .u32 16777216) = w5 at *
            clear hrow hbel hsz1 hfz g1 DW
            have hm := HMR.out.1
            have hM := HMR.out.2.1
            have hr := HMR.out.2.2
            have HA := hide (show Arg w5 (.slice (some ⟨w3.heap.size, 0, none⟩) M M) (Nb.pw k) M from ⟨_, by
              have h := (R5.made (Nat.le_refl _) (n := M) (by simp) (by unfold maxLen; omega)).reads
              rw [List.take_of_length_le (by simp)] at h
              exact h, Nt.ok_set (Nt.ok_replicate _) ⟨by omega, by omega⟩, by
              rw [nt_val_set (by simp; omega), Nt.val_replicate, Nt.lb_replicate, show k = 4 * m + 3 by omega, Nb.pw_add, Nb.pw_four, show Nb.pw 3 = 16777216 by decide, Int.zero_add, Int.sub_zero, Int.mul_comm], by simp⟩)
            have CX5 := CX.below hb5
            have h5 := h3.below hb5
            have K5 := below_trans KB hb5
            clear R5 hb5 CX KB h3 hm hM hr
            have p0 := CX5.c0; have p1 := CX5.c1
            go_wp2_with fail
            with_reducible refine (r3sub_any h5.arg (by omega) (warg_mk (z := false) HA.out) (by have := HMR.out.1; have := HMR.out.2.1; omega)).mono ?_
            rintro e w6 ⟨v6, rfl, h6, hb6⟩
            obtain ⟨zg, zo, zl, rfl⟩ := h6.told
            clear p0 p1
            have CX6 := CX5.below hb6
            have K6 := below_trans K5 hb6
            have hblt : bx < w5.heap.size := CX5.lt
            have p0 := CX6.c0; have p1 := CX6.c1; have f0 := CX6.f0; have f1 := CX6.f1
            go_upto_region 14 with fail
            have CX7 := CX6.put (.bool zg) (.slice zo zl zl)
            have K7 := below_put2 (b := bx) K6 hbx (.bool zg) (.slice zo zl zl)
            have h7 := (h6.put hblt 0 (.bool zg)).put hblt 1 (.slice zo zl zl)
            clear p0 p1 f0 f1 CX5 CX6 K6 h5 h6 hb6
            generalize (w6.setCell ⟨bx, 0, none⟩ (.bool zg)).setCell ⟨bx, 1, none⟩ (.slice zo zl zl) = w7 at *
            have DW := D.below K7
            have hV : Hid (WNum w1.heap.size w7 (.agg #[.bool zg, .slice zo zl zl]) (Nb.val es + -(Nb.pw k)) ((k + 3) / 4 + (k / 4 + 1) + 1)) := hide ((h7.low K5.size).mono (by have := HMR.out.1; have := HMR.out.2.1; omega))
            clear h7 HA K5
            have d0 := DW.c0; have d1 := DW.c1; have f0 := DW.f0; have f1 := DW.f1
            have p0 := CX7.c0; have p1 := CX7.c1
            have HDW := hide DW
            have HV := hide (hTV ▸ hV.out : WNum w1.heap.size w7 (.agg #[.bool zg, .slice zo zl zl]) (twv es) ((k + 3) / 4 + (k / 4 + 1) + 1))
            clear CX7 D DW hTV hV
            go_wp2
            have PD := HDW.out.put (.bool zg) (.slice zo zl zl)
            have KZ := below_put2 (b := w.heap.size) (below_trans K1 K7) (Nat.le_refl _) (.bool zg) (.slice zo zl zl)
            have WN := ((HV.out.put ltb 0 (.bool zg)).put ltb 1 (.slice zo zl zl)).low (B' := w.heap.size) (by omega)
            clear d0 d1 f0 f1 p0 p1 HV
            generalize (w7.setCell ⟨w.heap.size, 0, none⟩ (.bool zg)).setCell ⟨w.heap.size, 1, none⟩ (.slice zo zl zl) = w9 at *
            (try simp only [Exit.inBlock, Exit.then])
            exact bodyPost_ret (v := .agg #[.bool zg, .slice zo zl zl]) (by simp [results, Tryz.results12, go_sem, PD.c0, PD.c1]) rfl ⟨_, rfl, WN, KZ⟩

end Go.Proofs.YtejenbkhhcjeaaaGreatDoor

namespace Go.Proofs.YtejenbkhhcjeaaaGreatDoor
open Go.RowKit
set_option linter.unusedVariables false
set_option linter.unusedSimpArgs false

theorem isLen_any {a : Int} (h : 0 ≤ a) : ∃ L, IsLen a L := by
  obtain ⟨n, rfl⟩ : ∃ n : Nat, a = (n : Int) := ⟨a.toNat, by omega⟩
  by_cases h0 : n = 0
  · subst h0; exact ⟨0, by decide, fun h => by omega⟩
  · have h1 := Nat.log2_self_le h0
    have h2 := Nat.lt_log2_self (n := n)
    refine ⟨n.log2 + 1, ?_, fun _ => ?_⟩
    · rw [p2_cast]; omega
    · rw [Nat.add_sub_cancel, p2_cast]; omega
theorem sgn_ge {x y : Int} : 0 ≤ sgn x y ↔ y ≤ x := by unfold sgn; split <;> (try split) <;> omega

set_option maxRecDepth 20000 in
set_option maxHeartbeats 4000000 in
theorem r3power_any {w : World} {N : Nat} {n : Int} (h1 : 1 ≤ N) (h2 : N ≤ 1048576) (hn : n = 8 * N - 1) :
    Calls Tryz.prog 29 #[.int .i64 n] w fun e w' => ∃ v, e = .returned v ∧ WNum w.heap.size w' v (p2 (8 * N - 1)) 1048578 ∧ Below w.heap.size w w' := by
  obtain ⟨Z, hZ⟩ : ∃ Z, 8 * N - 1 = Z := ⟨_, rfl⟩
  obtain rfl : n = (Z : Int) := by omega
  rw [hZ]
  have HZ := hide hZ
  clear hn hZ
  go_enter Tryz.func29, Tryz.ntmps29
  go_upto_region 1 with fail
  have D := cell2_new w (.bool false) (.slice none 0 0) 25
  have K1 := bel_alloc w (.cells #[.bool false, .slice none 0 0] 25)
  have ltb : w.heap.size < (w.alloc (.cells #[.bool false, .slice none 0 0] 25)).heap.size := D.lt
  generalize w.alloc (.cells #[.bool false, .slice none 0 0] 25) = w1 at *
  have A1 : Arg (w1.alloc (.cells #[.int .u32 1] 41)) (.slice (some ⟨w1.heap.size, 0, none⟩) 1 1) 1 1 := ⟨[1], ⟨_, 1, rfl, by simp, by unfold maxLen; omega, cells_one _ _ _ _⟩, Nt.ok_set (xs := [0]) (i := 0) (Nt.ok_replicate 1) ⟨by decide, by decide⟩, by decide, by simp⟩
  have HA := hide A1
  have hb := bel_alloc w1 (.cells #[.int .u32 1] 41)
  clear A1
  go_wp2_with fail
  with_reducible refine (rshl_ok (N := Z) (W := N - 1) (s := 7) (k := 1) HA.out (by omega) (by omega) (by unfold IsLen; decide) (by omega) (by have := HZ.out; omega) (by have := HZ.out; omega) (by omega)).mono ?_
  rintro e w2 ⟨v2, rfl, hS, hb2⟩
  obtain ⟨ao, l, rfl⟩ := hS.form'
  have KB := below_trans hb hb2
  have HV : Hid (WNum w1.heap.size w2 (.agg #[.bool false, .slice ao l l]) (p2 Z) 1048578) := hide (by
    have h := hS.low (B' := w1.heap.size) hb.size
    rw [Int.one_mul] at h
    exact WNum.mono ⟨false, _, _, rfl, h, rfl, by simp⟩ (by omega))
  have DW := D.below KB
  have HDW := hide DW
  have d0 := DW.c0; have d1 := DW.c1; have f0 := DW.f0; have f1 := DW.f1
  clear DW D hb hb2 hS HA
  go_wp2
  have PD := HDW.out.put (.bool false) (.slice ao l l)
  have KZ := below_put2 (b := w.heap.size) (below_trans K1 KB) (Nat.le_refl _) (.bool false) (.slice ao l l)
  have WN := ((HV.out.put ltb 0 (.bool false)).put ltb 1 (.slice ao l l)).low (B' := w.heap.size) (by omega)
  clear d0 d1 f0 f1 HV
  generalize (w2.setCell ⟨w.heap.size, 0, none⟩ (.bool false)).setCell ⟨w.heap.size, 1, none⟩ (.slice ao l l) = w9 at *
  (try simp only [Exit.inBlock, Exit.then])
  exact bodyPost_ret (v := .agg #[.bool false, .slice ao l l]) (by simp [results, Tryz.results29, go_sem, PD.c0, PD.c1]) rfl ⟨_, rfl, WN, KZ⟩

/-- what two's complement of so many bytes answers -/
def TwE (N : Nat) (x : Int) (e : Ending) : Prop := ∃ s b, e = .returned (.tuple #[.string s, .bool b]) ∧ ((b = true ∧ Fits N x ∧ TStr N x s) ∨ (b = false ∧ ¬ Fits N x ∧ s = ⟨#[]⟩))
theorem twE_no {N : Nat} {x : Int} (h : ¬ Fits N x) : TwE N x (.returned (.tuple #[.string ⟨#[]⟩, .bool false])) := ⟨_, _, rfl, Or.inr ⟨rfl, h, rfl⟩⟩

set_option maxRecDepth 100000 in
set_option maxHeartbeats 16000000 in
theorem r3twos_any {w : World} {v : Value} {x : Int} {k N : Nat} (h : WArg w v x k) (hk : k ≤ 1048576) (h1 : 1 ≤ N) (h2 : N ≤ 1048576) :
    Calls Tryz.prog 8 #[v, .int .i64 N] w fun e w' => TwE N x e ∧ Below w.heap.size w w' := by
  have H0 := h
  obtain ⟨neg, m, a, rfl, ha, hn⟩ := h
  have A1 := ha
  obtain ⟨zs, ⟨ao, cap, rfl, -⟩, -⟩ := ha
  have N1 := A1.nonneg
  obtain ⟨L, hL⟩ := isLen_any N1
  have hLf := isLen_fits (m := 8 * N) hL
  have hxa : x = a ∨ x = -a := by rw [hn]; unfold wn; split <;> omega
  have hxn : neg = false ∨ a = 0 ∨ x = -a := by rw [hn]; unfold wn; cases neg <;> simp
  have K1 : Below w.heap.size w (w.alloc (.cells #[.bool neg, .slice ao zs.length cap] 25)) := bel_alloc _ _
  have CX := cell2_new w (.bool neg) (.slice ao zs.length cap) 25
  replace A1 := A1.below K1
  have HX := hide (H0.below K1)
  have HCX := hide CX
  have HF := hide (And.intro hLf (And.intro hxa hn))
  have p0 := CX.c0
  have p1 := CX.c1
  clear CX H0 hLf hxa hn
  go_enter Tryz.func8, Tryz.ntmps8
  go_upto_region 1 with fail
  generalize w.alloc (.cells #[.bool neg, .slice ao zs.length cap] 25) = w1 at *
  have q1 : ¬ (N : Int) < 1 := by omega
  have q2 : ¬ (1048576 : Int) < (N : Int) := by omega
  go_wp2_with fail
  with_reducible refine (rlen_any A1 (by omega) hL).mono ?_
  rintro e w2 ⟨rfl, hb⟩
  have KB := below_trans K1 hb
  replace HX := hide (HX.out.below hb)
  replace HCX := hide (HCX.out.below hb)
  clear p0 p1 A1 K1 hb hL
  by_cases hbig : 8 * N < L
  · have q3 : (8 : Int) * (N : Int) < (L : Int) := by omega
    have hF : ¬ Fits N x := by
      have h3 : ¬ a < p2 (8 * N) := fun c => by have := HF.out.1.2 c; omega
      have h4 := p2_mono (m := 8 * N - 1) (n := 8 * N) (by omega)
      rintro ⟨f1, f2⟩
      have h5 : p2 (8 * N) = 2 * p2 (8 * N - 1) := by rw [show 8 * N = (8 * N - 1) + 1 by omega]; rfl
      have h6 := p2_pos (8 * N - 1)
      rcases HF.out.2.1 with e | e <;> omega
    have HE := hide (twE_no hF)
    clear hF
    go_wp2
    go_ret2
    exact ⟨HE.out, KB⟩
  have q3 : ¬ (8 : Int) * (N : Int) < (L : Int) := by omega
  have HA := hide (HF.out.1.1 (by omega))
  clear hbig
  go_wp2_with fail
  with_reducible refine (r3power_any h1 h2 rfl).mono ?_
  rintro e w3 ⟨vh, rfl, hh, hb⟩
  obtain ⟨hg, ho, hl, rfl⟩ := hh.told
  replace KB := below_trans KB hb
  replace HX := hide (HX.out.below hb)
  replace HCX := hide (HCX.out.below hb)
  clear hb q1 q2 q3
  go_upto_region 4 with fail
  have CH := cell2_new w3 (.bool hg) (.slice ho hl hl) 25
  have hb := bel_alloc w3 (.cells #[.bool hg, .slice ho hl hl] 25)
  replace KB := below_trans KB hb
  have HH := hide (hh.below hb)
  replace HX := hide (HX.out.below hb)
  replace HCX := hide (HCX.out.below hb)
  obtain ⟨bh, eb⟩ : ∃ b, b = w3.heap.size := ⟨_, rfl⟩
  rw [← eb] at CH ⊢
  clear eb hb hh
  generalize w3.alloc (.cells #[.bool hg, .slice ho hl hl] 25) = w4 at *
  have HCH := hide CH
  clear CH
  obtain ⟨c, hc⟩ : ∃ c, sgn x (p2 (8 * N - 1)) = c := ⟨_, rfl⟩
  obtain ⟨d, hd⟩ : ∃ d, sgn x (-p2 (8 * N - 1)) = d := ⟨_, rfl⟩
  have HC1 := hide hc
  have HC2 := hide hd
  have g1 := sgn_ge (x := x) (y := p2 (8 * N - 1))
  have g2 := sgn_ge (x := x) (y := -p2 (8 * N - 1))
  rw [hc] at g1
  rw [hd] at g2
  clear hc hd
  have HG := hide (And.intro g1 g2)
  clear g1 g2
  by_cases c0 : 0 ≤ c
  · have HE := hide (twE_no (show ¬ Fits N x from fun f => by have := HG.out.1.1 c0; have := f.2; omega))
    have CC : ∀ u : World, Below w4.heap.size w4 u → u.cell? ⟨w.heap.size, 0, none⟩ = some (.bool neg) ∧ u.cell? ⟨w.heap.size, 1, none⟩ = some (.slice ao zs.length cap) ∧ u.cell? ⟨bh, 0, none⟩ = some (.bool hg) ∧ u.cell? ⟨bh, 1, none⟩ = some (.slice ho hl hl) := fun u hu => ⟨(HCX.out.below hu).c0, (HCX.out.below hu).c1, (HCH.out.below hu).c0, (HCH.out.below hu).c1⟩
    have K : Below w4.heap.size w4 w4.drew := (Below.refl _ _).drew
    have HC0 := CC _ K
    refine wpHl.region0 (C := fun u => u.cell? ⟨w.heap.size, 0, none⟩ = some (.bool neg) ∧ u.cell? ⟨w.heap.size, 1, none⟩ = some (.slice ao zs.length cap) ∧ u.cell? ⟨bh, 0, none⟩ = some (.bool hg) ∧ u.cell? ⟨bh, 1, none⟩ = some (.slice ho hl hl)) (by kernel_rfl) (by kernel_rfl) (fun HS => ?_)
    refine wpHl.tk0 (i := 0) (d := some 26) (v := .agg #[.bool neg, .slice ao zs.length cap]) rfl HS (by as_aux_lemma => kernel_rfl) rfl (fun _ _ _ h => h) (Or.inl ⟨by rfl, ?_⟩) HC0 ?_
    · intro u hC
      obtain ⟨z0, z1, z2, z3⟩ := hC
      go_simp
    simp only [Act.put, List.setIfInBounds_toArray, List.set_cons_zero, List.set_cons_succ]
    refine wpHl.tk0 (i := 1) (d := some 27) (v := .agg #[.bool hg, .slice ho hl hl]) rfl HS (by as_aux_lemma => kernel_rfl) rfl (fun _ _ _ h => h) (Or.inl ⟨by rfl, ?_⟩) HC0 ?_
    · intro u hC
      obtain ⟨z0, z1, z2, z3⟩ := hC
      go_simp
    simp only [Act.put, List.setIfInBounds_toArray, List.set_cons_zero, List.set_cons_succ]
    refine wpHl.one (i := 2) (by as_aux_lemma => kernel_rfl) rfl (fun K1 hK1 => ?_)
    rw [if_pos (by rfl)]
    refine wp_call_of (f := 30) (args := #[.agg #[.bool neg, .slice ao zs.length cap], .agg #[.bool hg, .slice ho hl hl]]) (by kernel_rfl) ?_
    with_reducible refine (r3cmp_told HC1.out (HX.out.below K) (by omega) (HH.out.arg.below K) (by omega)).mono ?_
    rintro e wn ⟨rfl, hb⟩
    replace K := below_trans K hb
    clear HC0
    have HC0 := CC _ K
    refine hK1 (Act.put _ (some 28) _) _ ⟨fun _ => HC0, ?_⟩
    clear hK1 K1 hb
    try simp only [Act.put, List.setIfInBounds_toArray, List.set_cons_zero, List.set_cons_succ]
    refine wpHl.tk0 (i := 3) (d := some 29) (v := .bool true) rfl HS (by as_aux_lemma => kernel_rfl) rfl (fun _ _ _ h => h) (Or.inl ⟨by rfl, ?_⟩) HC0 ?_
    · intro u hC
      go_simp
    simp only [Act.put, List.setIfInBounds_toArray, List.set_cons_zero, List.set_cons_succ]
    refine wpHl.tk0 (i := 4) (d := some 30) (v := .bool true) rfl HS (by as_aux_lemma => kernel_rfl) rfl (fun _ _ _ h => h) (Or.inl ⟨by rfl, ?_⟩) HC0 ?_
    · intro u hC
      go_simp
    simp only [Act.put, List.setIfInBounds_toArray, List.set_cons_zero, List.set_cons_succ]
    refine wpHl.tk0 (i := 5) (d := some 31) (v := undef) rfl HS (by as_aux_lemma => kernel_rfl) rfl (fun _ _ _ h => h) (Or.inr ⟨by rfl, rfl⟩) HC0 ?_
    simp only [Act.put, List.setIfInBounds_toArray, List.set_cons_zero, List.set_cons_succ]
    refine wpHl.tk0 (i := 6) (d := some 32) (v := undef) rfl HS (by as_aux_lemma => kernel_rfl) rfl (fun _ _ _ h => h) (Or.inr ⟨by rfl, rfl⟩) HC0 ?_
    simp only [Act.put, List.setIfInBounds_toArray, List.set_cons_zero, List.set_cons_succ]
    refine wpHl.one (i := 7) (by as_aux_lemma => kernel_rfl) rfl (fun K1 hK1 => ?_)
    refine hK1 (Act.put _ (some 33) undef) _ ⟨fun _ => HC0, ?_⟩
    clear hK1 K1
    try simp only [Act.put, List.setIfInBounds_toArray, List.set_cons_zero, List.set_cons_succ]
    refine wpHl.one (i := 8) (by as_aux_lemma => kernel_rfl) rfl (fun K1 hK1 => ?_)
    refine hK1 (Act.put _ (some 34) undef) _ ⟨fun _ => HC0, ?_⟩
    clear hK1 K1
    try simp only [Act.put, List.setIfInBounds_toArray, List.set_cons_zero, List.set_cons_succ]
    refine wpHl.tk0 (i := 9) (d := some 35) (v := undef) rfl HS (by as_aux_lemma => kernel_rfl) rfl (fun _ _ _ h => h) (Or.inr ⟨by rfl, rfl⟩) HC0 ?_
    simp only [Act.put, List.setIfInBounds_toArray, List.set_cons_zero, List.set_cons_succ]
    refine wpHl.tk0 (i := 10) (d := some 36) (v := .bool true) rfl HS (by as_aux_lemma => kernel_rfl) rfl (fun _ _ _ h => h) (Or.inl ⟨by rfl, ?_⟩) HC0 ?_
    · intro u hC
      go_simp
    simp only [Act.put, List.setIfInBounds_toArray, List.set_cons_zero, List.set_cons_succ]
    refine wpHl.done (by as_aux_lemma => kernel_rfl) ?_ _
    clear CC HC0 HS
    clear HC1 HC2
    have KZ := below_trans KB K
    clear KB K
    go_wp2
    go_ret2
    exact ⟨HE.out, KZ⟩
  by_cases d0 : d < 0
  · have HE := hide (twE_no (show ¬ Fits N x from fun f => by have := HG.out.2.2 f.1; omega))
    have CC : ∀ u : World, Below w4.heap.size w4 u → u.cell? ⟨w.heap.size, 0, none⟩ = some (.bool neg) ∧ u.cell? ⟨w.heap.size, 1, none⟩ = some (.slice ao zs.length cap) ∧ u.cell? ⟨bh, 0, none⟩ = some (.bool hg) ∧ u.cell? ⟨bh, 1, none⟩ = some (.slice ho hl hl) := fun u hu => ⟨(HCX.out.below hu).c0, (HCX.out.below hu).c1, (HCH.out.below hu).c0, (HCH.out.below hu).c1⟩
    have K : Below w4.heap.size w4 w4.drew := (Below.refl _ _).drew
    have HC0 := CC _ K
    refine wpHl.region0 (C := fun u => u.cell? ⟨w.heap.size, 0, none⟩ = some (.bool neg) ∧ u.cell? ⟨w.heap.size, 1, none⟩ = some (.slice ao zs.length cap) ∧ u.cell? ⟨bh, 0, none⟩ = some (.bool hg) ∧ u.cell? ⟨bh, 1, none⟩ = some (.slice ho hl hl)) (by kernel_rfl) (by kernel_rfl) (fun HS => ?_)
    refine wpHl.tk0 (i := 0) (d := some 26) (v := .agg #[.bool neg, .slice ao zs.length cap]) rfl HS (by as_aux_lemma => kernel_rfl) rfl (fun _ _ _ h => h) (Or.inl ⟨by rfl, ?_⟩) HC0 ?_
    · intro u hC
      obtain ⟨z0, z1, z2, z3⟩ := hC
      go_simp
    simp only [Act.put, List.setIfInBounds_toArray, List.set_cons_zero, List.set_cons_succ]
    refine wpHl.tk0 (i := 1) (d := some 27) (v := .agg #[.bool hg, .slice ho hl hl]) rfl HS (by as_aux_lemma => kernel_rfl) rfl (fun _ _ _ h => h) (Or.inl ⟨by rfl, ?_⟩) HC0 ?_
    · intro u hC
      obtain ⟨z0, z1, z2, z3⟩ := hC
      go_simp
    simp only [Act.put, List.setIfInBounds_toArray, List.set_cons_zero, List.set_cons_succ]
    refine wpHl.one (i := 2) (by as_aux_lemma => kernel_rfl) rfl (fun K1 hK1 => ?_)
    rw [if_pos (by rfl)]
    refine wp_call_of (f := 30) (args := #[.agg #[.bool neg, .slice ao zs.length cap], .agg #[.bool hg, .slice ho hl hl]]) (by kernel_rfl) ?_
    with_reducible refine (r3cmp_told HC1.out (HX.out.below K) (by omega) (HH.out.arg.below K) (by omega)).mono ?_
    rintro e wn ⟨rfl, hb⟩
    replace K := below_trans K hb
    clear HC0
    have HC0 := CC _ K
    refine hK1 (Act.put _ (some 28) _) _ ⟨fun _ => HC0, ?_⟩
    clear hK1 K1 hb
    try simp only [Act.put, List.setIfInBounds_toArray, List.set_cons_zero, List.set_cons_succ]
    refine wpHl.tk0 (i := 3) (d := some 29) (v := .bool false) rfl HS (by as_aux_lemma => kernel_rfl) rfl (fun _ _ _ h => h) (Or.inl ⟨by rfl, ?_⟩) HC0 ?_
    · intro u hC
      go_simp
    simp only [Act.put, List.setIfInBounds_toArray, List.set_cons_zero, List.set_cons_succ]
    refine wpHl.tk0 (i := 4) (d := some 30) (v := .bool false) rfl HS (by as_aux_lemma => kernel_rfl) rfl (fun _ _ _ h => h) (Or.inl ⟨by rfl, ?_⟩) HC0 ?_
    · intro u hC
      go_simp
    simp only [Act.put, List.setIfInBounds_toArray, List.set_cons_zero, List.set_cons_succ]
    refine wpHl.tk0 (i := 5) (d := some 31) (v := .agg #[.bool neg, .slice ao zs.length cap]) rfl HS (by as_aux_lemma => kernel_rfl) rfl (fun _ _ _ h => h) (Or.inl ⟨by rfl, ?_⟩) HC0 ?_
    · intro u hC
      obtain ⟨z0, z1, z2, z3⟩ := hC
      go_simp
    simp only [Act.put, List.setIfInBounds_toArray, List.set_cons_zero, List.set_cons_succ]
    refine wpHl.tk0 (i := 6) (d := some 32) (v := .agg #[.bool hg, .slice ho hl hl]) rfl HS (by as_aux_lemma => kernel_rfl) rfl (fun _ _ _ h => h) (Or.inl ⟨by rfl, ?_⟩) HC0 ?_
    · intro u hC
      obtain ⟨z0, z1, z2, z3⟩ := hC
      go_simp
    simp only [Act.put, List.setIfInBounds_toArray, List.set_cons_zero, List.set_cons_succ]
    refine wpHl.one (i := 7) (by as_aux_lemma => kernel_rfl) rfl (fun K1 hK1 => ?_)
    rw [if_pos (by rfl)]
    refine wp_call_of (f := 31) (args := #[.agg #[.bool hg, .slice ho hl hl]]) (by kernel_rfl) ?_
    with_reducible refine (r3neg_any (HH.out.arg.below K) (by omega)).mono ?_
    rintro e wn ⟨vn, rfl, hN, hb⟩
    replace K := below_trans K hb
    obtain ⟨gn, ro, rl, rfl⟩ := hN.told
    have HNN := hide hN
    clear hN
    clear HC0
    have HC0 := CC _ K
    refine hK1 (Act.put _ (some 33) _) _ ⟨fun _ => HC0, ?_⟩
    clear hK1 K1 hb
    try simp only [Act.put, List.setIfInBounds_toArray, List.set_cons_zero, List.set_cons_succ]
    refine wpHl.one (i := 8) (by as_aux_lemma => kernel_rfl) rfl (fun K1 hK1 => ?_)
    rw [if_pos (by rfl)]
    refine wp_call_of (f := 30) (args := #[.agg #[.bool neg, .slice ao zs.length cap], .agg #[.bool gn, .slice ro rl rl]]) (by kernel_rfl) ?_
    with_reducible refine (r3cmp_told HC2.out (HX.out.below K) (by omega) HNN.out.arg (by omega)).mono ?_
    rintro e wn ⟨rfl, hb⟩
    replace K := below_trans K hb
    clear HC0
    have HC0 := CC _ K
    refine hK1 (Act.put _ (some 34) _) _ ⟨fun _ => HC0, ?_⟩
    clear hK1 K1 hb
    try simp only [Act.put, List.setIfInBounds_toArray, List.set_cons_zero, List.set_cons_succ]
    refine wpHl.tk0 (i := 9) (d := some 35) (v := .bool true) rfl HS (by as_aux_lemma => kernel_rfl) rfl (fun _ _ _ h => h) (Or.inl ⟨by rfl, ?_⟩) HC0 ?_
    · intro u hC
      go_simp
    simp only [Act.put, List.setIfInBounds_toArray, List.set_cons_zero, List.set_cons_succ]
    refine wpHl.tk0 (i := 10) (d := some 36) (v := .bool true) rfl HS (by as_aux_lemma => kernel_rfl) rfl (fun _ _ _ h => h) (Or.inl ⟨by rfl, ?_⟩) HC0 ?_
    · intro u hC
      go_simp
    simp only [Act.put, List.setIfInBounds_toArray, List.set_cons_zero, List.set_cons_succ]
    refine wpHl.done (by as_aux_lemma => kernel_rfl) ?_ _
    clear CC HC0 HS
    clear HC1 HC2
    have KZ := below_trans KB K
    clear KB K
    go_wp2
    go_ret2
    exact ⟨HE.out, KZ⟩
  have HFit := hide (show Fits N x from ⟨HG.out.2.1 (by omega), by have := HG.out.1; have := fun h => c0 (HG.out.1.2 h); omega⟩)
  have CC : ∀ u : World, Below w4.heap.size w4 u → u.cell? ⟨w.heap.size, 0, none⟩ = some (.bool neg) ∧ u.cell? ⟨w.heap.size, 1, none⟩ = some (.slice ao zs.length cap) ∧ u.cell? ⟨bh, 0, none⟩ = some (.bool hg) ∧ u.cell? ⟨bh, 1, none⟩ = some (.slice ho hl hl) := fun u hu => ⟨(HCX.out.below hu).c0, (HCX.out.below hu).c1, (HCH.out.below hu).c0, (HCH.out.below hu).c1⟩
  have K : Below w4.heap.size w4 w4.drew := (Below.refl _ _).drew
  have HC0 := CC _ K
  refine wpHl.region0 (C := fun u => u.cell? ⟨w.heap.size, 0, none⟩ = some (.bool neg) ∧ u.cell? ⟨w.heap.size, 1, none⟩ = some (.slice ao zs.length cap) ∧ u.cell? ⟨bh, 0, none⟩ = some (.bool hg) ∧ u.cell? ⟨bh, 1, none⟩ = some (.slice ho hl hl)) (by kernel_rfl) (by kernel_rfl) (fun HS => ?_)
  refine wpHl.tk0 (i := 0) (d := some 26) (v := .agg #[.bool neg, .slice ao zs.length cap]) rfl HS (by as_aux_lemma => kernel_rfl) rfl (fun _ _ _ h => h) (Or.inl ⟨by rfl, ?_⟩) HC0 ?_
  · intro u hC
    obtain ⟨z0, z1, z2, z3⟩ := hC
    go_simp
  simp only [Act.put, List.setIfInBounds_toArray, List.set_cons_zero, List.set_cons_succ]
  refine wpHl.tk0 (i := 1) (d := some 27) (v := .agg #[.bool hg, .slice ho hl hl]) rfl HS (by as_aux_lemma => kernel_rfl) rfl (fun _ _ _ h => h) (Or.inl ⟨by rfl, ?_⟩) HC0 ?_
  · intro u hC
    obtain ⟨z0, z1, z2, z3⟩ := hC
    go_simp
  simp only [Act.put, List.setIfInBounds_toArray, List.set_cons_zero, List.set_cons_succ]
  refine wpHl.one (i := 2) (by as_aux_lemma => kernel_rfl) rfl (fun K1 hK1 => ?_)
  rw [if_pos (by rfl)]
  refine wp_call_of (f := 30) (args := #[.agg #[.bool neg, .slice ao zs.length cap], .agg #[.bool hg, .slice ho hl hl]]) (by kernel_rfl) ?_
  with_reducible refine (r3cmp_told HC1.out (HX.out.below K) (by omega) (HH.out.arg.below K) (by omega)).mono ?_
  rintro e wn ⟨rfl, hb⟩
  replace K := below_trans K hb
  clear HC0
  have HC0 := CC _ K
  refine hK1 (Act.put _ (some 28) _) _ ⟨fun _ => HC0, ?_⟩
  clear hK1 K1 hb
  try simp only [Act.put, List.setIfInBounds_toArray, List.set_cons_zero, List.set_cons_succ]
  refine wpHl.tk0 (i := 3) (d := some 29) (v := .bool false) rfl HS (by as_aux_lemma => kernel_rfl) rfl (fun _ _ _ h => h) (Or.inl ⟨by rfl, ?_⟩) HC0 ?_
  · intro u hC
    go_simp
  simp only [Act.put, List.setIfInBounds_toArray, List.set_cons_zero, List.set_cons_succ]
  refine wpHl.tk0 (i := 4) (d := some 30) (v := .bool false) rfl HS (by as_aux_lemma => kernel_rfl) rfl (fun _ _ _ h => h) (Or.inl ⟨by rfl, ?_⟩) HC0 ?_
  · intro u hC
    go_simp
  simp only [Act.put, List.setIfInBounds_toArray, List.set_cons_zero, List.set_cons_succ]
  refine wpHl.tk0 (i := 5) (d := some 31) (v := .agg #[.bool neg, .slice ao zs.length cap]) rfl HS (by as_aux_lemma => kernel_rfl) rfl (fun _ _ _ h => h) (Or.inl ⟨by rfl, ?_⟩) HC0 ?_
  · intro u hC
    obtain ⟨z0, z1, z2, z3⟩ := hC
    go_simp
  simp only [Act.put, List.setIfInBounds_toArray, List.set_cons_zero, List.set_cons_succ]
  refine wpHl.tk0 (i := 6) (d := some 32) (v := .agg #[.bool hg, .slice ho hl hl]) rfl HS (by as_aux_lemma => kernel_rfl) rfl (fun _ _ _ h => h) (Or.inl ⟨by rfl, ?_⟩) HC0 ?_
  · intro u hC
    obtain ⟨z0, z1, z2, z3⟩ := hC
    go_simp
  simp only [Act.put, List.setIfInBounds_toArray, List.set_cons_zero, List.set_cons_succ]
  refine wpHl.one (i := 7) (by as_aux_lemma => kernel_rfl) rfl (fun K1 hK1 => ?_)
  rw [if_pos (by rfl)]
  refine wp_call_of (f := 31) (args := #[.agg #[.bool hg, .slice ho hl hl]]) (by kernel_rfl) ?_
  with_reducible refine (r3neg_any (HH.out.arg.below K) (by omega)).mono ?_
  rintro e wn ⟨vn, rfl, hN, hb⟩
  replace K := below_trans K hb
  obtain ⟨gn, ro, rl, rfl⟩ := hN.told
  have HNN := hide hN
  clear hN
  clear HC0
  have HC0 := CC _ K
  refine hK1 (Act.put _ (some 33) _) _ ⟨fun _ => HC0, ?_⟩
  clear hK1 K1 hb
  try simp only [Act.put, List.setIfInBounds_toArray, List.set_cons_zero, List.set_cons_succ]
  refine wpHl.one (i := 8) (by as_aux_lemma => kernel_rfl) rfl (fun K1 hK1 => ?_)
  rw [if_pos (by rfl)]
  refine wp_call_of (f := 30) (args := #[.agg #[.bool neg, .slice ao zs.length cap], .agg #[.bool gn, .slice ro rl rl]]) (by kernel_rfl) ?_
  with_reducible refine (r3cmp_told HC2.out (HX.out.below K) (by omega) HNN.out.arg (by omega)).mono ?_
  rintro e wn ⟨rfl, hb⟩
  replace K := below_trans K hb
  clear HC0
  have HC0 := CC _ K
  refine hK1 (Act.put _ (some 34) _) _ ⟨fun _ => HC0, ?_⟩
  clear hK1 K1 hb
  try simp only [Act.put, List.setIfInBounds_toArray, List.set_cons_zero, List.set_cons_succ]
  refine wpHl.tk0 (i := 9) (d := some 35) (v := .bool false) rfl HS (by as_aux_lemma => kernel_rfl) rfl (fun _ _ _ h => h) (Or.inl ⟨by rfl, ?_⟩) HC0 ?_
  · intro u hC
    go_simp
  simp only [Act.put, List.setIfInBounds_toArray, List.set_cons_zero, List.set_cons_succ]
  refine wpHl.tk0 (i := 10) (d := some 36) (v := .bool false) rfl HS (by as_aux_lemma => kernel_rfl) rfl (fun _ _ _ h => h) (Or.inl ⟨by rfl, ?_⟩) HC0 ?_
  · intro u hC
    go_simp
  simp only [Act.put, List.setIfInBounds_toArray, List.set_cons_zero, List.set_cons_succ]
  refine wpHl.done (by as_aux_lemma => kernel_rfl) ?_ _
  clear CC HC0 HS
  clear HC1 HC2 HG c0 d0 HNN
  replace HX := hide (HX.out.below K)
  replace HCX := hide (HCX.out.below K)
  replace HH := hide (HH.out.below K)
  replace HCH := hide (HCH.out.below K)
  replace KB := below_trans KB K
  clear K
  have p0 := HCX.out.c0
  have p1 := HCX.out.c1
  have hw := HFit.out
  by_cases hx : x < 0
  · go_wp2_with fail
    with_reducible refine (r3below_told (decide_eq_true hx) HX.out (by omega)).mono ?_
    rintro e w5 ⟨rfl, hb⟩
    clear p0 p1
    replace HX := hide (HX.out.below hb)
    replace HCX := hide (HCX.out.below hb)
    replace HH := hide (HH.out.below hb)
    replace HCH := hide (HCH.out.below hb)
    replace KB := below_trans KB hb
    clear hb
    go_upto_region 7 with fail
    have CC : ∀ u : World, Below w5.heap.size w5 u → u.cell? ⟨w.heap.size, 0, none⟩ = some (.bool neg) ∧ u.cell? ⟨w.heap.size, 1, none⟩ = some (.slice ao zs.length cap) ∧ u.cell? ⟨bh, 0, none⟩ = some (.bool hg) ∧ u.cell? ⟨bh, 1, none⟩ = some (.slice ho hl hl) := fun u hu => ⟨(HCX.out.below hu).c0, (HCX.out.below hu).c1, (HCH.out.below hu).c0, (HCH.out.below hu).c1⟩
    have K : Below w5.heap.size w5 w5.drew := (Below.refl _ _).drew
    have HC0 := CC _ K
    refine wpHl.region (C := fun u => u.cell? ⟨w.heap.size, 0, none⟩ = some (.bool neg) ∧ u.cell? ⟨w.heap.size, 1, none⟩ = some (.slice ao zs.length cap) ∧ u.cell? ⟨bh, 0, none⟩ = some (.bool hg) ∧ u.cell? ⟨bh, 1, none⟩ = some (.slice ho hl hl)) (D := fun j => decide (5 ≤ j)) (by kernel_rfl) ?_
    refine wpHl.tk (i := 0) (d := some 39) (v := .agg #[.bool neg, .slice ao zs.length cap]) rfl (by kernel_rfl) (by kernel_rfl) (by kernel_rfl) (by kernel_rfl) rfl (fun _ _ _ h => h) (Or.inl ⟨by rfl, ?_⟩) HC0 ?_
    · intro u hC
      obtain ⟨z0, z1, z2, z3⟩ := hC
      go_simp
    simp only [Act.put, List.setIfInBounds_toArray, List.set_cons_zero, List.set_cons_succ]
    refine wpHl.tk (i := 1) (d := some 40) (v := .agg #[.bool hg, .slice ho hl hl]) rfl (by kernel_rfl) (by kernel_rfl) (by kernel_rfl) (by kernel_rfl) rfl (fun _ _ _ h => h) (Or.inl ⟨by rfl, ?_⟩) HC0 ?_
    · intro u hC
      obtain ⟨z0, z1, z2, z3⟩ := hC
      go_simp
    simp only [Act.put, List.setIfInBounds_toArray, List.set_cons_zero, List.set_cons_succ]
    refine wpHl.tk (i := 2) (d := some 41) (v := .agg #[.bool hg, .slice ho hl hl]) rfl (by kernel_rfl) (by kernel_rfl) (by kernel_rfl) (by kernel_rfl) rfl (fun _ _ _ h => h) (Or.inl ⟨by rfl, ?_⟩) HC0 ?_
    · intro u hC
      obtain ⟨z0, z1, z2, z3⟩ := hC
      go_simp
    simp only [Act.put, List.setIfInBounds_toArray, List.set_cons_zero, List.set_cons_succ]
    refine wpHl.one (i := 3) (by as_aux_lemma => kernel_rfl) rfl (fun K1 hK1 => ?_)
    rw [if_pos (by rfl)]
    refine wp_call_of (f := 33) (args := #[.agg #[.bool hg, .slice ho hl hl], .agg #[.bool hg, .slice ho hl hl]]) (by kernel_rfl) ?_
    with_reducible refine (r3add_any (HH.out.arg.below K) (by omega) (HH.out.arg.below K) (by omega)).mono ?_
    rintro e u1 ⟨vs, rfl, hS, hb⟩
    obtain ⟨sg, so, sl, rfl⟩ := hS.told
    replace K := below_trans K hb
    clear HC0 hb
    have hu1 := K.size
    have HC0 := CC _ K
    refine hK1 (Act.put _ (some 42) _) _ ⟨fun _ => HC0, ?_⟩
    clear hK1 K1
    try simp only [Act.put, List.setIfInBounds_toArray, List.set_cons_zero, List.set_cons_succ]
    refine wpHl.one (i := 4) (by as_aux_lemma => kernel_rfl) rfl (fun K1 hK1 => ?_)
    rw [if_pos (by rfl)]
    refine wp_call_of (f := 33) (args := #[.agg #[.bool neg, .slice ao zs.length cap], .agg #[.bool sg, .slice so sl sl]]) (by kernel_rfl) ?_
    with_reducible refine (r3add_any (HX.out.below K) (by omega) hS.arg (by omega)).mono ?_
    rintro e u2 ⟨vz, rfl, ⟨zg, mz, az, rfl, hz, hy, hzp⟩, hb⟩
    obtain ⟨zo, zl, rfl⟩ := hz.form'
    replace K := below_trans K hb
    clear HC0 hb hS
    have HC0 := CC _ K
    refine hK1 (Act.put _ (some 43) _) _ ⟨fun _ => HC0, ?_⟩
    clear hK1 K1
    try simp only [Act.put, List.setIfInBounds_toArray, List.set_cons_zero, List.set_cons_succ]
    have HCY := hide (HCX.out.below K)
    have p0 := HCY.out.c0; have p1 := HCY.out.c1; have f0 := HCY.out.f0; have f1 := HCY.out.f1
    refine wpHl.one (i := 5) (by as_aux_lemma => kernel_rfl) rfl (fun K1 hK1 => ?_)
    rw [if_pos (by rfl)]
    go_simp
    refine hK1 _ _ ⟨fun h => absurd h (by decide), ?_⟩
    clear hK1 K1
    refine wpHl.done (by as_aux_lemma => kernel_rfl) ?_ _
    clear CC HC0
    have KB7 := below_put2 (b := w.heap.size) (below_trans KB K) (Nat.le_refl _) (.bool zg) (.slice zo zl zl)
    have HC7 := hide (HCY.out.put (.bool zg) (.slice zo zl zl))
    have hltb : w.heap.size < u1.heap.size := by have := HCX.out.lt; omega
    have hz7 := (hz.put hltb 0 (.bool zg)).put hltb 1 (.slice zo zl zl)
    have e2 : p2 (8 * N) = 2 * p2 (8 * N - 1) := by rw [show 8 * N = (8 * N - 1) + 1 by omega]; rfl
    have e3 : p2 (8 * N) = Nb.pw N := p2_8 N
    have hzx : x + Nb.pw N = az := by
      have a0 := hz.arg.nonneg
      have h5 : @Go.Proofs.YtejenbkhhcjeaaaGreatDoor.wn zg az = if zg then -az else az := rfl
      rw [h5] at hy
      have := hw.1
      cases zg with
      | false => simp at hy; omega
      | true => have := hzp rfl; simp at hy; omega
    have HY := hide (show 0 ≤ az ∧ az < Nb.pw N ∧ (if x < 0 then x + Nb.pw N else x) = az from ⟨hz.arg.nonneg, by omega, by rw [if_pos hx]; exact hzx⟩)
    have HAr := hide hz7.arg
    clear p0 p1 f0 f1 hz hz7 hy hzp e2 e3 hzx HCY HCX HX HH HCH hw K KB hu1 hltb
    generalize (u2.setCell ⟨w.heap.size, 0, none⟩ (.bool zg)).setCell ⟨w.heap.size, 1, none⟩ (.slice zo zl zl) = w7 at *
    have p1 := HC7.out.c1
    go_wp2_with fail
    with_reducible refine (rbytes_any HAr.out (by omega)).mono ?_
    rintro e w8 ⟨sb, rfl, ⟨ds, hdc, hdv, hsb⟩, hb8⟩
    have KB := below_trans KB7 hb8
    have hdl : ds.length ≤ N := canon_fits hdc (by rw [hdv]; exact HY.out.2.1)
    obtain ⟨D, hD⟩ : ∃ D, ds.length = D := ⟨_, rfl⟩
    have hsz : sb.size = D := by rw [hsb, strOfNums_size, List.length_reverse, hD]
    obtain ⟨z, hz⟩ : ∃ z, N - D = z := ⟨_, rfl⟩
    have q5 : (N : Int) - (D : Int) = (z : Int) := by omega
    have hDN : D ≤ N := by omega
    have HD := hide (And.intro hdc (And.intro hdv (And.intro hsb (And.intro hD hz))))
    clear hdc hdv hsb hD hz hb8 p1 hdl KB7
    go_wp2_with (at_make; refine wpList_make_row _ rfl _ _ 73 rfl 5 .u8 1 Tryz.underlying73 Tryz.infoU8 _ _ _ _ z z rfl rfl (by omega) (by omega) (Nat.le_refl _) (by have := HD.out.2.2.2.2; omega) (by have := HD.out.2.2.2.2; unfold maxLen; omega) ?_)
    intro w9 hrow hb9 hz9
    have hcv := row_string (cap := z) hrow
    rw [List.length_replicate] at hcv
    have KC := below_trans KB hb9
    have hadd : strOfNums (List.replicate z 0) ++ sb = strOfNums (ds ++ List.replicate z 0).reverse := by
      rw [HD.out.2.2.1, List.reverse_append, List.reverse_replicate]
      apply ByteArray.ext
      apply Array.ext'
      simp [strOfNums]
    obtain ⟨t0, ht0⟩ : ∃ t, strOfNums (List.replicate z 0) = t := ⟨_, rfl⟩
    have hz0 : t0.size = z := by rw [← ht0, strOfNums_size, List.length_replicate]
    rw [ht0] at hcv hadd
    obtain ⟨t1, ht1⟩ : ∃ t, strOfNums (ds ++ List.replicate z 0).reverse = t := ⟨_, rfl⟩
    rw [ht1] at hadd
    have a1 : ¬ 9223372036854775807 < z + D := by have := HD.out.2.2.2.2; omega
    have HT := hide (show TwE N x (.returned (.tuple #[.string t1, .bool true])) from ⟨t1, true, rfl, Or.inl ⟨rfl, HFit.out, ds ++ List.replicate z 0, pad_ok HD.out.1.1, by rw [List.length_append, List.length_replicate, HD.out.2.2.2.1]; have := HD.out.2.2.2.2; omega, ht1.symm, by rw [pad_val, HD.out.2.1]; exact HY.out.2.2.symm⟩⟩)
    clear ht0 ht1 hrow hb9 hz9 KB HD HY HAr HC7
    go_wp2
    go_ret2
    exact ⟨HT.out, KC⟩
  · go_wp2_with fail
    with_reducible refine (r3below_told (decide_eq_false (show ¬ x < 0 by omega)) HX.out (by omega)).mono ?_
    rintro e w7 ⟨rfl, hb⟩
    clear p0 p1
    have hx2 : ¬ x < 0 := by omega
    obtain ⟨az, haz⟩ : ∃ q, x = q := ⟨_, rfl⟩
    have HC7 := hide (HCX.out.below hb)
    have KB7 := below_trans KB hb
    have HAr : Hid (Arg w7 (.slice ao zs.length cap) az k) := hide (by
      obtain ⟨n2, m2, a2, he, h2', h3'⟩ := HX.out.below hb
      obtain ⟨rfl, rfl⟩ : neg = n2 ∧ Value.slice ao zs.length cap = m2 := by simpa using he
      have a0 := h2'.nonneg
      have e : a2 = az := by
        rw [← haz]
        have h5 : @Go.Proofs.YtejenbkhhcjeaaaGreatDoor.wn neg a2 = if neg then -a2 else a2 := rfl
        rw [h5] at h3'
        cases neg with
        | false => simp at h3'; omega
        | true => simp at h3'; omega
      rw [← e]; exact h2')
    have HY := hide (show 0 ≤ az ∧ az < Nb.pw N ∧ (if x < 0 then x + Nb.pw N else x) = az from ⟨by omega, by have h5 := hw.2; have e2 : p2 (8 * N) = 2 * p2 (8 * N - 1) := by { rw [show 8 * N = (8 * N - 1) + 1 by omega]; rfl }; have e3 : p2 (8 * N) = Nb.pw N := p2_8 N; omega, by rw [if_neg hx2]; exact haz⟩)
    clear hb hx2 HCX HX HH HCH hw KB haz
    have p1 := HC7.out.c1
    go_wp2_with fail
    with_reducible refine (rbytes_any HAr.out (by omega)).mono ?_
    rintro e w8 ⟨sb, rfl, ⟨ds, hdc, hdv, hsb⟩, hb8⟩
    have KB := below_trans KB7 hb8
    have hdl : ds.length ≤ N := canon_fits hdc (by rw [hdv]; exact HY.out.2.1)
    obtain ⟨D, hD⟩ : ∃ D, ds.length = D := ⟨_, rfl⟩
    have hsz : sb.size = D := by rw [hsb, strOfNums_size, List.length_reverse, hD]
    obtain ⟨z, hz⟩ : ∃ z, N - D = z := ⟨_, rfl⟩
    have q5 : (N : Int) - (D : Int) = (z : Int) := by omega
    have hDN : D ≤ N := by omega
    have HD := hide (And.intro hdc (And.intro hdv (And.intro hsb (And.intro hD hz))))
    clear hdc hdv hsb hD hz hb8 p1 hdl KB7
    go_wp2_with (at_make; refine wpList_make_row _ rfl _ _ 73 rfl 5 .u8 1 Tryz.underlying73 Tryz.infoU8 _ _ _ _ z z rfl rfl (by omega) (by omega) (Nat.le_refl _) (by have := HD.out.2.2.2.2; omega) (by have := HD.out.2.2.2.2; unfold maxLen; omega) ?_)
    intro w9 hrow hb9 hz9
    have hcv := row_string (cap := z) hrow
    rw [List.length_replicate] at hcv
    have KC := below_trans KB hb9
    have hadd : strOfNums (List.replicate z 0) ++ sb = strOfNums (ds ++ List.replicate z 0).reverse := by
      rw [HD.out.2.2.1, List.reverse_append, List.reverse_replicate]
      apply ByteArray.ext
      apply Array.ext'
      simp [strOfNums]
    obtain ⟨t0, ht0⟩ : ∃ t, strOfNums (List.replicate z 0) = t := ⟨_, rfl⟩
    have hz0 : t0.size = z := by rw [← ht0, strOfNums_size, List.length_replicate]
    rw [ht0] at hcv hadd
    obtain ⟨t1, ht1⟩ : ∃ t, strOfNums (ds ++ List.replicate z 0).reverse = t := ⟨_, rfl⟩
    rw [ht1] at hadd
    have a1 : ¬ 9223372036854775807 < z + D := by have := HD.out.2.2.2.2; omega
    have HT := hide (show TwE N x (.returned (.tuple #[.string t1, .bool true])) from ⟨t1, true, rfl, Or.inl ⟨rfl, HFit.out, ds ++ List.replicate z 0, pad_ok HD.out.1.1, by rw [List.length_append, List.length_replicate, HD.out.2.2.2.1]; have := HD.out.2.2.2.2; omega, ht1.symm, by rw [pad_val, HD.out.2.1]; exact HY.out.2.2.symm⟩⟩)
    clear ht0 ht1 hrow hb9 hz9 KB HD HY HAr HC7
    go_wp2
    go_ret2
    exact ⟨HT.out, KC⟩

end Go.Proofs.YtejenbkhhcjeaaaGreatDoor

namespace Go.Proofs.YtejenbkhhcjeaaaGreatDoor
open Go.RowKit
set_option linter.unusedVariables false
set_option linter.unusedSimpArgs false

theorem bytes_low (s : ByteArray) : ∃ es, Nb.Ok es ∧ s = strOfNums es.reverse ∧ es.length = s.size := by
  have key : ∀ x ∈ s.data.toList.map (fun b => ((b.toNat : Nat) : Int)), 0 ≤ x ∧ x < 256 := by
    intro x hx
    obtain ⟨b, _, rfl⟩ := List.mem_map.1 hx
    have := b.toNat_lt
    omega
  refine ⟨(s.data.toList.map fun b => ((b.toNat : Nat) : Int)).reverse, ?_, ?_, by simp⟩
  · intro i
    show 0 ≤ List.getD _ i 0 ∧ List.getD _ i 0 < 256
    rw [List.getD_eq_getElem?_getD]
    cases hk : (s.data.toList.map fun b => ((b.toNat : Nat) : Int)).reverse[i]? with
    | none => simp
    | some x => exact key x (List.mem_reverse.1 (List.mem_of_getElem? hk))
  · rw [List.reverse_reverse]
    apply ByteArray.ext
    apply Array.ext'
    rw [strOfNums_data, List.map_map]
    symm
    conv => rhs; rw [← List.map_id s.data.toList]
    apply List.map_congr_left
    intro b _
    simp

/-- what two's complement of any number of bytes answers -/
def TwN (n x : Int) (e : Ending) : Prop := ∃ s b, e = .returned (.tuple #[.string s, .bool b]) ∧ ((b = true ∧ ∃ N : Nat, n = N ∧ 1 ≤ N ∧ N ≤ 1048576 ∧ Fits N x ∧ TStr N x s) ∨ (b = false ∧ s = ⟨#[]⟩ ∧ ∀ N : Nat, n = N → 1 ≤ N → N ≤ 1048576 → ¬ Fits N x))
theorem twN_of {N : Nat} {x : Int} {e : Ending} (h1 : 1 ≤ N) (h2 : N ≤ 1048576) (h : TwE N x e) : TwN N x e := by
  obtain ⟨s, b, rfl, ⟨rfl, f, t⟩ | ⟨rfl, f, rfl⟩⟩ := h
  · exact ⟨s, _, rfl, Or.inl ⟨rfl, N, rfl, h1, h2, f, t⟩⟩
  · exact ⟨_, _, rfl, Or.inr ⟨rfl, rfl, fun M e _ _ => by obtain rfl : N = M := by omega
                                                          exact f⟩⟩
theorem twN_out {n x : Int} (h : n < 1 ∨ 1048576 < n) : TwN n x (.returned (.tuple #[.string ⟨#[]⟩, .bool false])) := ⟨_, _, rfl, Or.inr ⟨rfl, rfl, fun N e h1 h2 => by omega⟩⟩
theorem twN_one {n x : Int} {s t : ByteArray} {b c : Bool} (h : TwN n x (.returned (.tuple #[.string s, .bool b]))) (k : TwN n x (.returned (.tuple #[.string t, .bool c]))) : t = s ∧ c = b := by
  obtain ⟨s1, b1, e1, h1⟩ := h
  obtain ⟨s2, b2, e2, h2⟩ := k
  obtain ⟨rfl, rfl⟩ : s = s1 ∧ b = b1 := by simpa using e1
  obtain ⟨rfl, rfl⟩ : t = s2 ∧ c = b2 := by simpa using e2
  rcases h1 with ⟨rfl, N, rfl, n1, n2, f, u⟩ | ⟨rfl, rfl, f⟩ <;> rcases h2 with ⟨rfl, M, e, m1, m2, g, v⟩ | ⟨rfl, rfl, g⟩
  · obtain rfl : N = M := by omega
    exact ⟨tstr_one v u, rfl⟩
  · exact absurd f (g N rfl n1 n2)
  · exact absurd g (f M e m1 m2)
  · exact ⟨rfl, rfl⟩

theorem beyond_w1 {w : World} {g : Nat} {a0 : Option Addr} {l0 c0 : Nat} (hg : g < w.heap.size) (j0 : l0 ≤ 70368744177664) (h0 : w.cell? ⟨g, 1, none⟩ = some (.slice a0 l0 c0)) :
    Calls Tryz.prog 5 #[.slice (some ⟨g, 0, none⟩) 1 1] w fun e w' => e = .returned (.bool (decide (1048576 < 1 + l0))) ∧ Below w.heap.size w w' := by
  refine (wbeyond_any (ls := [l0]) (by simp) (fun i => ?_) hg (fun i hi => ?_)).mono ?_
  · match i with
    | 0 => simpa using j0
    | i + 1 => simp
  · match i, hi with
    | 0, _ => exact ⟨_, _, h0⟩
  · rintro e w' ⟨rfl, hb⟩
    refine ⟨?_, hb⟩
    congr 2
    apply decide_eq_decide.2
    constructor
    · rintro ⟨i, hi, h⟩
      match i, hi, h with
      | 0, _, h => exact h
    · intro h
      rcases h with h
      · exact ⟨0, by simp, h⟩

set_option maxRecDepth 20000 in
set_option maxHeartbeats 4000000 in
theorem twos_out {w : World} {v : Value} {x n : Int} {k : Nat} (h : WArg w v x k) (hn : n < 1 ∨ 1048576 < n) :
    Calls Tryz.prog 7 #[v, .int .i64 n] w fun e w' => TwN n x e ∧ Below w.heap.size w w' := by
  have HE := hide (twN_out (x := x) hn)
  obtain ⟨neg, m, a, rfl, ha, -⟩ := h
  obtain ⟨zs, ⟨ao, cap, rfl, -⟩, -⟩ := ha
  have K1 : Below w.heap.size w (w.alloc (.cells #[.bool neg, .slice ao zs.length cap] 25)) := bel_alloc _ _
  rcases hn with q | q
  · go_enter Tryz.func7, Tryz.ntmps7
    go_wp2
    go_ret2
    exact ⟨HE.out, K1⟩
  · have q0 : ¬ n < 1 := by omega
    go_enter Tryz.func7, Tryz.ntmps7
    go_wp2
    go_ret2
    exact ⟨HE.out, K1⟩

set_option maxRecDepth 20000 in
set_option maxHeartbeats 4000000 in
theorem r3twos_out {w : World} {v : Value} {x n : Int} {k : Nat} (h : WArg w v x k) (hn : n < 1 ∨ 1048576 < n) :
    Calls Tryz.prog 8 #[v, .int .i64 n] w fun e w' => TwN n x e ∧ Below w.heap.size w w' := by
  have HE := hide (twN_out (x := x) hn)
  obtain ⟨neg, m, a, rfl, ha, -⟩ := h
  obtain ⟨zs, ⟨ao, cap, rfl, -⟩, -⟩ := ha
  have K1 : Below w.heap.size w (w.alloc (.cells #[.bool neg, .slice ao zs.length cap] 25)) := bel_alloc _ _
  rcases hn with q | q
  · go_enter Tryz.func8, Tryz.ntmps8
    go_wp2
    go_ret2
    exact ⟨HE.out, K1⟩
  · have q0 : ¬ n < 1 := by omega
    go_enter Tryz.func8, Tryz.ntmps8
    go_wp2
    go_ret2
    exact ⟨HE.out, K1⟩

theorem twos_all {w : World} {v : Value} {x n : Int} {k : Nat} (h : WArg w v x k) (hk : k ≤ 1048576) (n0 : -9223372036854775808 ≤ n) (n1 : n ≤ 9223372036854775807) :
    Calls Tryz.prog 7 #[v, .int .i64 n] w fun e w' => TwN n x e ∧ Below w.heap.size w w' := by
  by_cases c : n < 1 ∨ 1048576 < n
  · exact twos_out h c
  · obtain ⟨N, rfl⟩ : ∃ N : Nat, n = N := ⟨n.toNat, by omega⟩
    refine (twos_any h (by omega) (by omega) (by omega)).mono ?_
    rintro e w' ⟨t, K⟩
    exact ⟨twN_of (by omega) (by omega) t, K⟩
theorem r3twos_all {w : World} {v : Value} {x n : Int} {k : Nat} (h : WArg w v x k) (hk : k ≤ 1048576) (n0 : -9223372036854775808 ≤ n) (n1 : n ≤ 9223372036854775807) :
    Calls Tryz.prog 8 #[v, .int .i64 n] w fun e w' => TwN n x e ∧ Below w.heap.size w w' := by
  by_cases c : n < 1 ∨ 1048576 < n
  · exact r3twos_out h c
  · obtain ⟨N, rfl⟩ : ∃ N : Nat, n = N := ⟨n.toNat, by omega⟩
    refine (r3twos_any h hk (by omega) (by omega)).mono ?_
    rintro e w' ⟨t, K⟩
    exact ⟨twN_of (by omega) (by omega) t, K⟩

set_option maxRecDepth 100000 in
set_option maxHeartbeats 16000000 in
theorem wtwos_walk {w : World} {ng_x : Bool} {v_x : Value} {zs_x : List Int} {n : Int} {s : ByteArray}
    (r_x : Reads .u32 w v_x zs_x) (o_x : Nt.Ok zs_x) (j_x : zs_x.length ≤ 70368744177664) (n0 : -9223372036854775808 ≤ n) (n1 : n ≤ 9223372036854775807) (hs : s.size < 1048576) :
    Calls Tryz.prog 3 #[.agg #[.bool ng_x, v_x], .int .i64 n, .string s] w fun e w' => e = .returned (.bool true) ∧ Below w.heap.size w w' := by
  obtain ⟨es, he1, he2, he3⟩ := bytes_low s
  have HES := hide (And.intro he1 (And.intro he2 (show es.length < 1048576 by omega)))
  clear he1 he2 he3 hs
  obtain ⟨ao_x, c_x, rfl, ha1_x, ha2_x, ha3_x⟩ := r_x
  have R0_x : Reads .u32 w (.slice ao_x zs_x.length c_x) zs_x := ⟨ao_x, c_x, rfl, ha1_x, ha2_x, ha3_x⟩
  have HR0 := hide R0_x
  clear R0_x
  have KB : Below w.heap.size w ((w.alloc (.cells #[.bool ng_x, .slice ao_x zs_x.length c_x] 25)).alloc (.cells #[.bool ng_x, .slice ao_x zs_x.length c_x] 25)) := (below_trans (bel_alloc _ _) (bel_alloc _ _))
  have z1 : (w.alloc (.cells #[.bool ng_x, .slice ao_x zs_x.length c_x] 25)).heap.size = w.heap.size + 1 := by simp
  have C_x := (cell2_new w (.bool ng_x) (.slice ao_x zs_x.length c_x) 25).alloc (.cells #[.bool ng_x, .slice ao_x zs_x.length c_x] 25)
  have f0 : ((w.alloc (.cells #[.bool ng_x, .slice ao_x zs_x.length c_x] 25)).alloc (.cells #[.bool ng_x, .slice ao_x zs_x.length c_x] 25)).cell? ⟨w.heap.size + 1, 1, none⟩ = some (.slice ao_x zs_x.length c_x) := by rw [World.cell?_alloc_at _ _ _ _ (by rw [z1])]; rfl
  have fz : w.heap.size + 1 < ((w.alloc (.cells #[.bool ng_x, .slice ao_x zs_x.length c_x] 25)).alloc (.cells #[.bool ng_x, .slice ao_x zs_x.length c_x] 25)).heap.size := by simp
  have hbey := beyond_w1 fz j_x f0
  clear fz f0 z1
  by_cases hbig : (1048576 < 1 + zs_x.length)
  · rw [decide_eq_true hbig] at hbey
    have Hbey := hide hbey
    clear hbey hbig
    go_enter Tryz.func3, Tryz.ntmps3
    go_wp2_with fail
    with_reducible refine Hbey.out.mono ?_
    rintro e w1 ⟨rfl, hb⟩
    go_wp2
    go_ret
    exact ⟨rfl, KB.trans (hb.mono KB.size)⟩
  rw [decide_eq_false hbig] at hbey
  have Hbey := hide hbey
  clear hbey
  have hl_x : zs_x.length ≤ 1048576 := by omega
  have h_x : WArg w (.agg #[.bool ng_x, .slice ao_x zs_x.length c_x]) (wn ng_x (Nt.val zs_x)) 1048576 := ⟨_, _, _, rfl, ⟨zs_x, ⟨ao_x, c_x, rfl, ha1_x, ha2_x, ha3_x⟩, o_x, rfl, by omega⟩, rfl⟩
  clear ha1_x ha2_x ha3_x o_x
  generalize wn ng_x (Nt.val zs_x) = N_x at *
  have H0_x := hide h_x
  replace h_x := h_x.below KB
  have HC_x := hide C_x
  clear C_x
  clear hbig
  go_enter Tryz.func3, Tryz.ntmps3
  go_wp2_with fail
  with_reducible refine Hbey.out.mono ?_
  clear Hbey
  rintro e w1 ⟨rfl, hb⟩
  replace KB := KB.trans (hb.mono KB.size)
  replace h_x := h_x.below hb
  replace HC_x := hide (HC_x.out.below hb)
  clear hb
  have p_x := HC_x.out.c0
  have q_x := HC_x.out.c1
  have R_x := HR0.out.below KB
  go_wp2_with fail
  (with_reducible refine (wtwin_any R_x (by omega)).mono ?_)
  rintro e w2 ⟨g_t, rfl, Tw, hb⟩
  clear p_x q_x
  clear R_x
  replace KB := below_trans KB hb
  have h_t := twin_arg3 (H0_x.out) HR0.out Tw
  replace h_x := h_x.below hb
  replace HC_x := hide (HC_x.out.below hb)
  clear hb
  go_upto_region 4 with fail
  have hb := bel_alloc w2 (.cells #[.bool ng_x, .slice (some ⟨g_t, 0, none⟩) zs_x.length (zs_x.length + 1)] 25)
  have C_t := cell2_new w2 (.bool ng_x) (.slice (some ⟨g_t, 0, none⟩) zs_x.length (zs_x.length + 1)) 25
  replace KB := below_trans KB hb
  replace h_t := h_t.below hb
  replace Tw := Tw.below hb
  replace h_x := h_x.below hb
  replace HC_x := hide (HC_x.out.below hb)
  clear hb
  obtain ⟨b_t, eb⟩ : ∃ b, b = w2.heap.size := ⟨_, rfl⟩
  rw [← eb] at C_t ⊢
  clear eb
  generalize w2.alloc (.cells #[.bool ng_x, .slice (some ⟨g_t, 0, none⟩) zs_x.length (zs_x.length + 1)] 25) = w3 at *
  have HC_t := hide C_t
  clear C_t
  have p_t := HC_t.out.c0
  have q_t := HC_t.out.c1
  go_wp2_with fail
  (with_reducible refine (twos_all h_t (by omega) n0 n1).mono ?_)
  rintro e w4 ⟨⟨sa, ba, rfl, ha⟩, hb⟩
  have HTA := hide (show TwN n N_x (.returned (.tuple #[.string sa, .bool ba])) from ⟨sa, ba, rfl, ha⟩)
  clear p_t q_t ha
  replace KB := below_trans KB hb
  replace h_t := h_t.below hb
  replace Tw := Tw.below hb
  replace h_x := h_x.below hb
  replace HC_x := hide (HC_x.out.below hb)
  replace HC_t := hide (HC_t.out.below hb)
  clear hb
  have p_x := HC_x.out.c0
  have q_x := HC_x.out.c1
  go_wp2_with fail
  (with_reducible refine (r3twos_all h_x (by omega) n0 n1).mono ?_)
  rintro e w5 ⟨⟨sb, bb, rfl, ha⟩, hb⟩
  obtain ⟨rfl, rfl⟩ := twN_one HTA.out (show TwN n N_x (.returned (.tuple #[.string sb, .bool bb])) from ⟨sb, bb, rfl, ha⟩)
  clear p_x q_x ha HTA
  replace KB := below_trans KB hb
  replace h_t := h_t.below hb
  replace Tw := Tw.below hb
  replace h_x := h_x.below hb
  replace HC_x := hide (HC_x.out.below hb)
  replace HC_t := hide (HC_t.out.below hb)
  clear hb
  go_upto_region 6 with fail
  have R_x := HR0.out.below KB
  have p_t := HC_t.out.c0
  have q_t := HC_t.out.c1
  have p_x := HC_x.out.c0
  have q_x := HC_x.out.c1
  go_wp2_with fail
  (with_reducible refine (wleft_any Tw R_x).mono ?_)
  rintro e w6 ⟨rfl, hb⟩
  replace KB := below_trans KB hb
  clear hb p_t q_t p_x q_x Tw R_x h_t h_x HC_x HC_t HR0
  go_wp2_with fail
  (with_reducible refine (fromtwos_any HES.out.1 HES.out.2.1 rfl HES.out.2.2).mono ?_)
  rintro e w7 ⟨v_f, rfl, h_f, hb⟩
  obtain ⟨ng_f, ro_f, rl_f, rfl⟩ := h_f.told
  replace KB := below_trans KB hb
  clear hb
  go_wp2_with fail
  (with_reducible refine (r3fromtwos_any HES.out.1 HES.out.2.1 rfl HES.out.2.2).mono ?_)
  rintro e w8 ⟨v_g, rfl, h_g, hb⟩
  obtain ⟨ng_g, ro_g, rl_g, rfl⟩ := h_g.told
  replace h_f := h_f.below hb
  replace KB := below_trans KB hb
  clear hb
  go_wp2_with fail
  (with_reducible refine (wsame_any h_f h_g rfl).mono ?_)
  rintro e w9 ⟨rfl, hb⟩
  replace KB := below_trans KB hb
  clear hb h_f h_g
  go_wp2_with fail
  (with_reducible refine wlives_any.mono ?_)
  rintro e w10 ⟨rfl, hb⟩
  replace KB := below_trans KB hb
  clear hb HES
  go_wp2
  go_ret
  exact ⟨rfl, KB⟩

end Go.Proofs.YtejenbkhhcjeaaaGreatDoor
