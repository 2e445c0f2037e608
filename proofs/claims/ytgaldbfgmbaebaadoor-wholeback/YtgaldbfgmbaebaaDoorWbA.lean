/- WRef, RDg, RRd, WSh, WRn, WB0 -/
import Derived.Test.YtgaldbfgmbaebaaDoorTwL2
import Derived.Test.YtgaldbfgmbaebaaDoorRefA
import Derived.Test.YtgaldbfgmbaebaaDoorTwin
import Derived.Test.YtgaldbfgmbaebaaDoorQGw
import Derived.Test.YtgaldbfgmbaebaaDoorRefBD
import Derived.Test.YtgaldbfgmbaebaaDoorAppZero
import Derived.Laws.BytesArg
import Derived.Deep.LoopGhost
import Derived.Deep.RegionHeld3
import Derived.Deep.Cut
namespace Go.Proofs.YtgaldbfgmbaebaaDoor
open Go.RowKit

set_option maxRecDepth 20000 in
set_option maxHeartbeats 4000000 in
theorem r3norm_any {w : World} {v1 : Value} {n1 : Int} {k1 : Nat} (h1 : WArg w v1 n1 k1) (j1 : k1 ≤ 1099511627776) :
    Calls Tryd.prog 91 #[v1] w fun e w' => ∃ v, e = .returned v ∧ WNum w.heap.size w' v n1 k1 ∧ Below w.heap.size w w' := by
  obtain ⟨neg1, m1, a1, rfl, ha, hn1⟩ := h1
  have A1 := ha
  have N1 := ha.nonneg
  obtain ⟨zs1, ⟨ao1, cap1, rfl, -⟩, -⟩ := ha
  have Hn := hide hn1
  clear hn1
  have K1 : Below w.heap.size w ((w.alloc (.cells #[.bool neg1, .slice ao1 zs1.length cap1] 38)).alloc (.cells #[.bool false, .slice none 0 0] 38)) := below_trans (bel_alloc _ _) (bel_alloc _ _)
  have C1 := (cell2_new w (.bool neg1) (.slice ao1 zs1.length cap1) 38).alloc (.cells #[.bool false, .slice none 0 0] 38)
  have D1 := (after2 (Below.refl _ ((w.alloc (.cells #[.bool neg1, .slice ao1 zs1.length cap1] 38)).alloc (.cells #[.bool false, .slice none 0 0] 38)))).2
  replace A1 := A1.below K1
  have HC := hide C1
  have HD := hide D1
  have lt1 := D1.lt
  clear C1 D1
  go_enter Tryd.func91, Tryd.ntmps91
  go_wp2_with fail
  with_reducible refine (rnorm_any A1 j1).mono ?_
  rintro e w2 ⟨vn, rfl, hN, K⟩
  have d0 := (HD.out.below K).c0
  have d1 := (HD.out.below K).c1
  have g0 := (HD.out.below K).f0
  have g1 := (HD.out.below K).f1
  have p0 := (HC.out.below K).c0
  have hN' := hN
  obtain ⟨xs, ⟨ro, rfl, hm, _⟩, hc, hv, _⟩ := hN
  have hp : (0 : Int) < (xs.length : Int) ↔ 0 < a1 := by
    constructor
    · intro h0
      rcases Int.lt_or_eq_of_le N1 with h2 | h2
      · exact h2
      · have h3 := Nt.canon_unique hc Nt.canon_nil (by rw [hv, ← h2]; rfl)
        rw [h3] at h0; simp at h0
    · intro h0
      rcases Nat.eq_zero_or_pos xs.length with h1 | h1
      · rw [List.eq_nil_of_length_eq_zero h1] at hv
        have : Nt.val [] = 0 := rfl
        omega
      · omega
  unfold maxLen at hm
  have h63 : (xs.length : Int) ≤ 9223372036854775807 := by omega
  have Hp := hide hp
  clear hp hc hv
  cases neg1
  · go_wp2
    have PD := (HD.out.below K).put (.bool false) (.slice ro xs.length xs.length)
    have KB := below_put2 (b := w.heap.size + 1) (K1.trans (K.mono (by have := K1.size; omega))) (by omega) (.bool false) (.slice ro xs.length xs.length)
    have WN : WNum w.heap.size ((w2.setCell ⟨w.heap.size + 1, 0, none⟩ (.bool false)).setCell ⟨w.heap.size + 1, 1, none⟩ (.slice ro xs.length xs.length)) (.agg #[.bool false, .slice ro xs.length xs.length]) n1 k1 := ⟨_, _, a1, rfl, num_low ((hN'.put lt1 0 _).put lt1 1 _) K1.size, Hn.out, fun h => by cases h⟩
    clear d0 d1 g0 g1 p0 hN' K K1 HD HC
    generalize (w2.setCell ⟨w.heap.size + 1, 0, none⟩ (.bool false)).setCell ⟨w.heap.size + 1, 1, none⟩ (.slice ro xs.length xs.length) = w9 at *
    (try simp only [Exit.inBlock, Exit.then])
    exact bodyPost_ret (v := .agg #[.bool false, .slice ro xs.length xs.length]) (by simp [results, Tryd.results91, go_sem, PD.c0, PD.c1]) rfl ⟨_, rfl, WN, KB⟩
  · obtain ⟨bb, hbb⟩ : ∃ bb, bb = decide ((0 : Int) < (xs.length : Int)) := ⟨_, rfl⟩
    have hb2 : decide (0 < xs.length) = bb := by rw [hbb]; exact decide_eq_decide.2 (by omega)
    have hval : n1 = wn bb a1 ∧ (bb = true → 0 < a1) := by
      have h1 := Hp.out
      have h2 := Hn.out
      by_cases h0 : 0 < a1
      · have : bb = true := by rw [hbb]; exact decide_eq_true (h1.2 h0)
        subst this; exact ⟨h2, fun _ => h0⟩
      · have : bb = false := by rw [hbb]; exact decide_eq_false (fun h => h0 (h1.1 h))
        subst this
        refine ⟨?_, fun h => by cases h⟩
        unfold wn at *; simp at h2 ⊢; omega
    have Hval := hide hval
    have hb3 := hbb.symm
    clear hval hbb Hp
    go_wp2
    have PD := (HD.out.below K).put (.bool bb) (.slice ro xs.length xs.length)
    have KB := below_put2 (b := w.heap.size + 1) (K1.trans (K.mono (by have := K1.size; omega))) (by omega) (.bool bb) (.slice ro xs.length xs.length)
    have WN : WNum w.heap.size ((w2.setCell ⟨w.heap.size + 1, 0, none⟩ (.bool bb)).setCell ⟨w.heap.size + 1, 1, none⟩ (.slice ro xs.length xs.length)) (.agg #[.bool bb, .slice ro xs.length xs.length]) n1 k1 := ⟨_, _, a1, rfl, num_low ((hN'.put lt1 0 _).put lt1 1 _) K1.size, Hval.out.1, Hval.out.2⟩
    clear d0 d1 g0 g1 p0 hN' K K1 HD HC
    generalize (w2.setCell ⟨w.heap.size + 1, 0, none⟩ (.bool bb)).setCell ⟨w.heap.size + 1, 1, none⟩ (.slice ro xs.length xs.length) = w9 at *
    (try simp only [Exit.inBlock, Exit.then])
    exact bodyPost_ret (v := .agg #[.bool bb, .slice ro xs.length xs.length]) (by simp [results, Tryd.results91, go_sem, PD.c0, PD.c1]) rfl ⟨_, rfl, WN, KB⟩

theorem field0_int (z : Bool) (m : Value) (w : World) : (Instr.field 38 (.agg #[.bool z, m]) 0).run Tryd.prog w = .ok (.bool z) w := by
  kernel_rfl

set_option maxRecDepth 20000 in
set_option maxHeartbeats 4000000 in
theorem r3below_any {w : World} {v1 : Value} {n1 : Int} {k1 : Nat} (h1 : WArg w v1 n1 k1) (j1 : k1 ≤ 1099511627776) :
    Calls Tryd.prog 64 #[v1] w fun e w' => e = .returned (.bool (decide (n1 < 0))) ∧ Below w.heap.size w w' := by
  have h1' := h1
  obtain ⟨neg1, m1, a1, rfl, ha, hn1⟩ := h1
  obtain ⟨zs1, ⟨ao1, cap1, rfl, -⟩, -⟩ := ha
  have K1 : Below w.heap.size w (w.alloc (.cells #[.bool neg1, .slice ao1 zs1.length cap1] 38)) := bel_alloc _ _
  have H1 := hide (h1'.below K1)
  clear h1' hn1
  go_enter Tryd.func64, Tryd.ntmps64
  go_wp2_with fail
  with_reducible refine (r3norm_any H1.out j1).mono ?_
  rintro e w2 ⟨vn, rfl, hN, K⟩
  obtain ⟨ng, ro, rl, rfl⟩ := hN.told
  have hs := hN.sign
  have hd : decide (n1 < 0) = ng := by
    cases ng
    · exact decide_eq_false (by have := hs.2 rfl; omega)
    · exact decide_eq_true (hs.1 rfl)
  have KB := K1.trans (K.mono K1.size)
  have Hd := hide hd
  clear hs hd hN K K1 H1
  have hfld : (Instr.field 38 (.agg #[.bool ng, .slice ro rl rl]) 0).run Tryd.prog w2 = .ok (.bool ng) w2 := field0_int _ _ _
  go_wp2
  go_ret
  exact ⟨by rw [Hd.out]; rfl, KB⟩

set_option maxRecDepth 20000 in
set_option maxHeartbeats 4000000 in
theorem wtwin_any {w : World} {m : Value} {ng : Bool} {xs : List Int} (ha : Reads .u32 w m xs) (hl : xs.length ≤ 1099511627776) :
    Calls Tryd.prog 18 #[.agg #[.bool ng, m]] w fun e w' => ∃ g, e = .returned (.agg #[.bool ng, .slice (some ⟨g, 0, none⟩) xs.length (xs.length + 1)]) ∧ Twin w.heap.size w' (.slice (some ⟨g, 0, none⟩) xs.length (xs.length + 1)) xs ∧ Below w.heap.size w w' := by
  have R1 := ha
  obtain ⟨ao, cap, rfl, -⟩ := ha
  have K1 : Below w.heap.size w ((w.alloc (.cells #[.bool ng, .slice ao xs.length cap] 38)).alloc (.cells #[.bool false, .slice none 0 0] 38)) := below_trans (bel_alloc _ _) (bel_alloc _ _)
  have C1 := (cell2_new w (.bool ng) (.slice ao xs.length cap) 38).alloc (.cells #[.bool false, .slice none 0 0] 38)
  have D1 := (after2 (Below.refl _ ((w.alloc (.cells #[.bool ng, .slice ao xs.length cap] 38)).alloc (.cells #[.bool false, .slice none 0 0] 38)))).2
  replace R1 := R1.below K1
  have HC := hide C1
  have HD := hide D1
  have lt1 := D1.lt
  have p0 := C1.c0
  have p1 := C1.c1
  clear C1 D1
  go_enter Tryd.func18, Tryd.ntmps18
  go_upto_region 1 with fail
  generalize (w.alloc (.cells #[.bool ng, .slice ao xs.length cap] 38)).alloc (.cells #[.bool false, .slice none 0 0] 38) = w1 at *
  have K : Below w1.heap.size w1 w1.drew := (Below.refl _ _).drew
  go_region_held3 (fun w' => w'.cell? ⟨w.heap.size, 0, none⟩ = some (.bool ng) ∧ w'.cell? ⟨w.heap.size, 1, none⟩ = some (.slice ao xs.length cap))
    (first
      | with_reducible exact ⟨(HC.out.below K).c0, (HC.out.below K).c1⟩
      | with_reducible exact ⟨((HC.out.below K).away (by omega) _ _).c0, ((HC.out.below K).away (by omega) _ _).c1⟩
      | go_keep)
    (first
      | (go_at_call 8; (with_reducible refine (twin_any (R1.below K) hl).mono ?_); rintro e w2 ⟨vt, rfl, hT, hb⟩; have kl := K.size; replace K := below_trans K hb; obtain ⟨g, rfl, hg, hm, hrow⟩ := hT; have d0 := (HD.out.below K).c0; have d1 := (HD.out.below K).c1; have g0 := (HD.out.below K).f0; have g1 := (HD.out.below K).f1))
  all_goals go_wp2
  all_goals
    have PD := (HD.out.below K).put (.bool ng) (.slice (some ⟨g, 0, none⟩) xs.length (xs.length + 1))
    have KB := below_put2 (b := w.heap.size + 1) (K1.trans (K.mono (by have := K1.size; omega))) (by omega) (.bool ng) (.slice (some ⟨g, 0, none⟩) xs.length (xs.length + 1))
    have hne : g ≠ w.heap.size + 1 := by omega
    have TW : Twin w.heap.size ((w2.setCell ⟨w.heap.size + 1, 0, none⟩ (.bool ng)).setCell ⟨w.heap.size + 1, 1, none⟩ (.slice (some ⟨g, 0, none⟩) xs.length (xs.length + 1))) (.slice (some ⟨g, 0, none⟩) xs.length (xs.length + 1)) xs := by
      refine ⟨g, rfl, by omega, hm, ?_⟩
      unfold Row
      rw [Below.heap_setCell _ _ _ _ (by show g ≠ w.heap.size + 1; exact hne), Below.heap_setCell _ _ _ _ (by show g ≠ w.heap.size + 1; exact hne)]
      exact hrow
    clear d0 d1 g0 g1 K K1 HD HC p0 p1 hrow R1
    generalize (w2.setCell ⟨w.heap.size + 1, 0, none⟩ (.bool ng)).setCell ⟨w.heap.size + 1, 1, none⟩ (.slice (some ⟨g, 0, none⟩) xs.length (xs.length + 1)) = w9 at *
    (try simp only [Exit.inBlock, Exit.then])
    exact bodyPost_ret (v := .agg #[.bool ng, .slice (some ⟨g, 0, none⟩) xs.length (xs.length + 1)]) (by simp [results, Tryd.results18, go_sem, PD.c0, PD.c1]) rfl ⟨_, rfl, TW, KB⟩

theorem reads_one {k : IntKind} {w : World} {v : Value} {xs ys : List Int} (h1 : Reads k w v xs) (h2 : Reads k w v ys) : xs = ys := by
  obtain ⟨ao, cap, rfl, _, _, hc⟩ := h1
  obtain ⟨bo, cap', e, _, _, hd⟩ := h2
  injection e with e1 e2 e3
  subst e1
  refine Nt.ext_lb e2 (fun i hi => ?_)
  obtain ⟨b, off, h3, _, h4⟩ := hc (by omega)
  obtain ⟨b', off', h5, _, h6⟩ := hd (by omega)
  rw [h3] at h5
  injection h5 with h5
  injection h5 with h5 h7
  subst h5 h7
  have h8 := h4 i hi
  rw [h6 i (by omega)] at h8
  injection h8 with h8
  injection h8 with _ h8
  exact h8.symm
/-- a copy is the same number -/
theorem twin_arg3 {w w2 : World} {ng : Bool} {m vt : Value} {n : Int} {k B : Nat} {xs : List Int} (h : WArg w (.agg #[.bool ng, m]) n k) (hr : Reads .u32 w m xs) (ht : Twin B w2 vt xs) : WArg w2 (.agg #[.bool ng, vt]) n k := by
  obtain ⟨neg, m', a, e, ⟨ys, h1, h2, h3, h4⟩, h5⟩ := h
  simp at e
  obtain ⟨rfl, rfl⟩ := e
  obtain rfl := reads_one h1 hr
  exact ⟨_, _, a, rfl, ⟨_, ht.reads, h2, h3, h4⟩, h5⟩

set_option maxHeartbeats 1000000 in
theorem wleft_any {w : World} {va vb : Value} {ng : Bool} {xs : List Int} {B : Nat} (ha : Twin B w va xs) (hb : Reads .u32 w vb xs) :
    Calls Tryd.prog 23 #[.agg #[.bool ng, va], .agg #[.bool ng, vb]] w fun e w' => e = .returned (.bool true) ∧ Below w.heap.size w w' := by
  have H1 := ha
  have H2 := hb
  obtain ⟨g, rfl, _, _, _⟩ := ha
  obtain ⟨ao, cap, rfl, _⟩ := hb
  have hB : Below w.heap.size w ((w.alloc (.cells #[.bool ng, .slice (some ⟨g, 0, none⟩) xs.length (xs.length + 1)] 38)).alloc (.cells #[.bool ng, .slice ao xs.length cap] 38)) := below_trans (bel_alloc _ _) (bel_alloc _ _)
  have hc := left_any (H1.below hB) (H2.below hB)
  have q : (ng == ng) = true := by simp
  clear H1 H2
  go_enter Tryd.func23, Tryd.ntmps23
  go_wp2_with fail
  with_reducible refine hc.mono ?_
  rintro e w3 ⟨rfl, hb3⟩
  go_wp2
  go_ret
  exact ⟨rfl, hB.trans (hb3.mono hB.size)⟩

end Go.Proofs.YtgaldbfgmbaebaaDoor

namespace Go.Proofs.YtgaldbfgmbaebaaDoor
open Go.RowKit
set_option linter.unusedVariables false

theorem Num.grown8 {B : Nat} {w w' : World} {v : Value} {n : Int} {k : Nat} {r : Option Nat} (h : Num B w v n k) (hg : w.grownBy w' r) (hr : ∀ b, r = some b → ∃ cs, w.heap[b]? = some (.cells cs 5 (0, 0))) : Num B w' v n k := by
  obtain ⟨zs, ⟨ao, rfl, h2, h3⟩, h4⟩ := h
  refine ⟨zs, ⟨ao, rfl, h2, fun hp => ?_⟩, h4⟩
  obtain ⟨g, rest, e, hB, hrow⟩ := h3 hp
  refine ⟨g, rest, e, hB, ?_⟩
  obtain ⟨_, _, _, _, hk⟩ := hg
  unfold Row
  rw [hk g hrow.lt ?_]
  · exact hrow
  · intro e
    obtain ⟨cs, hc⟩ := hr g e.symm
    unfold Row at hrow
    rw [hrow] at hc
    injection hc with hc
    injection hc with _ h5
    exact absurd h5 (by decide)
theorem owns_u8 {w : World} {base : Nat} {v : Value} {n : Nat} {xs : List Value} (h : w.ownsRow base 5 1 v n xs) : ∀ b, v.ownBlock = some b → ∃ cs, w.heap[b]? = some (.cells cs 5 (0, 0)) := by
  intro b hb
  rcases h.2 with ⟨rfl, _⟩ | ⟨g, cap, cur, rfl, _, h1, _⟩
  · cases hb
  · cases hb
    exact ⟨_, h1⟩
theorem cell_1 (w : World) (E : TypeId) (k : IntKind) (x : Int) : Cells k (w.alloc (.cells #[.int k x] E)) (some ⟨w.heap.size, 0, none⟩) [x] := by
  intro _
  refine ⟨w.heap.size, 0, rfl, by simp, fun i hi => ?_⟩
  have hi0 : i = 0 := by simpa using hi
  subst hi0
  rw [World.cell?_alloc_at _ _ _ _ (by simp)]
  rfl
theorem own_str {w : World} {v : Value} {zs : List Int} (h : Reads .u8 w v zs) (hn : 0 < zs.length) : (convert 28 9 v).run Tryd.prog w = .ok (.string (strOfNums zs)) w := by
  obtain ⟨ao, cap, rfl, h2, h3, h4⟩ := h
  obtain ⟨b, off, rfl, _, e3⟩ := h4 hn
  refine run_convert_bytes_arg w 28 5 Tryd.underlying28 Tryd.underlying5 b off zs.length cap zs rfl ?_ 9 Tryd.underlying9
  intro i hi
  rw [e3 i hi]; simp [Nt.lb]
/-- a store into a row of one's own -/
theorem owns_put {w : World} {base : Nat} {e : TypeId} {kd : IntKind} {g n cap : Nat} {xs : List Int} (h : w.ownsRow base e 1 (.slice (some ⟨g, 0, none⟩) n cap) n (xs.map (Value.int kd))) {i : Nat} (hi : i < n) (x : Int) :
    (w.setCell ⟨g, i, none⟩ (.int kd x)).ownsRow base e 1 (.slice (some ⟨g, 0, none⟩) n cap) n ((xs.set i x).map (Value.int kd)) := by
  obtain ⟨h1, h2⟩ := h
  rcases h2 with ⟨h2, _⟩ | ⟨g', cap', cur, he, hb, hg, hnc, hcm, hcs, ht⟩
  · cases h2
  cases he
  refine ⟨by simpa using h1, .inr ⟨g, cap, cur.setIfInBounds i (.int kd x), rfl, hb, ?_, hnc, hcm, by simpa using hcs, ?_⟩⟩
  · rw [heap_setCell_same w g i _ _ _ hg]
  · rw [List.map_set, ← ht]
    simp [List.take_set]
theorem owns_get {w : World} {base : Nat} {e : TypeId} {kd : IntKind} {g n cap : Nat} {xs : List Int} (h : w.ownsRow base e 1 (.slice (some ⟨g, 0, none⟩) n cap) n (xs.map (Value.int kd))) {i : Nat} (hi : i < n) :
    w.cell? ⟨g, i, none⟩ = some (.int kd (Nt.lb xs i)) ∧ w.frozen? ⟨g, i, none⟩ = false ∧ base ≤ g := by
  obtain ⟨h1, h2⟩ := h
  have hl : xs.length = n := by simpa using h1
  rcases h2 with ⟨h2, _⟩ | ⟨g', cap', cur, he, hb, hg, hnc, hcm, hcs, ht⟩
  · cases h2
  cases he
  refine ⟨?_, frozen_of_row w g i _ _ hg, hb⟩
  rw [cell_of_row w g i _ _ _ hg]
  have h3 : (cur.toList.take (n * 1))[i]? = some (.int kd (Nt.lb xs i)) := by
    rw [ht, List.getElem?_map, List.getElem?_eq_getElem (by omega)]
    simp [Nt.lb, hl, hi]
  rw [List.getElem?_take_of_lt (by omega)] at h3
  simpa using h3
theorem p2_tn (n : Nat) : p2 n ≤ tn n := by
  induction n with
  | zero => decide
  | succ n ih =>
    have := p2_pos n
    rw [tn_succ, p2]; omega
theorem dg_rev (bs : List Int) (d : Int) : dgv (bs ++ [d]).reverse = (d - 48) * tn bs.length + dgv bs.reverse := by
  rw [List.reverse_append, List.reverse_singleton, List.singleton_append, dgv, List.length_reverse]
theorem lb_rev {xs : List Int} {i : Nat} (h : i < xs.length) : Nt.lb xs.reverse i = Nt.lb xs (xs.length - 1 - i) := by
  have h2 : xs.length - 1 - i < xs.length := by omega
  simp [Nt.lb, h, h2]
/-- the digits so far, the lowest first -/
structure Bck (V A : Int) (bs : List Int) : Prop where
  dgv : Dg bs
  val : A * tn bs.length + Go.Proofs.YtgaldbfgmbaebaaDoor.dgv bs.reverse = V
  top : A = 0 → 0 < bs.length ∧ Nt.lb bs (bs.length - 1) ≠ 48
theorem Bck.next {V A : Int} {bs : List Int} (h : Bck V A bs) (hA : 0 < A) : Bck V (A / 10) (bs ++ [48 + A % 10]) := by
  have m0 := Int.emod_nonneg A (b := 10) (by omega)
  have m1 := Int.emod_lt_of_pos A (b := 10) (by omega)
  refine ⟨h.dgv.append (fun x hx => by simp at hx; omega), ?_, fun e => ⟨by simp, ?_⟩⟩
  · rw [List.length_append, dg_rev, show [48 + A % 10].length = 1 from rfl, tn_succ, ← h.val]
    generalize tn bs.length = T
    generalize Go.Proofs.YtgaldbfgmbaebaaDoor.dgv bs.reverse = R
    have e : A * T = (A / 10 * 10 + A % 10) * T := by congr 1; omega
    rw [e, Int.add_mul, show 48 + A % 10 - 48 = A % 10 by omega, Int.mul_assoc]
    omega
  · rw [show (bs ++ [48 + A % 10]).length - 1 = bs.length by simp]
    have : Nt.lb (bs ++ [48 + A % 10]) bs.length = 48 + A % 10 := by simp [Nt.lb]
    rw [this]; omega
theorem Bck.len {V A : Int} {bs : List Int} (h : Bck V A bs) (hA : 0 < A) {k : Nat} (hV : V < Nt.pw k) : bs.length < 32 * k := by
  have h1 := p2_tn bs.length
  have h2 : 1 * tn bs.length ≤ A * tn bs.length := Int.mul_le_mul_of_nonneg_right (by omega) (Int.le_of_lt (tn_pos _))
  have h3 := (dg_range (xs := bs.reverse) (fun x hx => h.dgv x (by simpa using hx))).1
  have h4 := h.val
  rcases Nat.lt_or_ge bs.length (32 * k) with c | c
  · exact c
  · have h5 := p2_mono c
    rw [p2_32] at h5
    omega

theorem rev_step {zs bs : List Int} {L i k : Nat} {a b : Int} (hzl : zs.length = L) (hk : k = L - 1 - i) (hik : i < k) (h1 : ∀ j, j < i → Nt.lb zs j = Nt.lb bs (L - 1 - j) ∧ Nt.lb zs (L - 1 - j) = Nt.lb bs j) (h2 : ∀ j, i ≤ j → j < L - i → Nt.lb zs j = Nt.lb bs j) (ha : Nt.lb zs i = a) (hb : Nt.lb zs k = b) :
    (∀ j, j < i + 1 → Nt.lb ((zs.set i b).set k a) j = Nt.lb bs (L - 1 - j) ∧ Nt.lb ((zs.set i b).set k a) (L - 1 - j) = Nt.lb bs j) ∧ (∀ j, i + 1 ≤ j → j < L - (i + 1) → Nt.lb ((zs.set i b).set k a) j = Nt.lb bs j) := by
  have kl : k < (zs.set i b).length := by rw [List.length_set]; omega
  have il : i < zs.length := by omega
  refine ⟨fun j hj => ?_, fun j c1 c2 => ?_⟩
  · rcases Nat.lt_or_ge j i with c | c
    · rw [Nt.lb_set_ne (by omega), Nt.lb_set_ne (by omega), Nt.lb_set_ne (by omega), Nt.lb_set_ne (by omega)]
      exact h1 j c
    · have e : j = i := by omega
      subst e
      rw [← hk, Nt.lb_set_eq kl, Nt.lb_set_ne (by omega), Nt.lb_set_eq il, ← ha, ← hb]
      exact ⟨h2 k (by omega) (by omega), h2 j (by omega) (by omega)⟩
  · rw [Nt.lb_set_ne (by omega), Nt.lb_set_ne (by omega)]
    exact h2 j (by omega) (by omega)
theorem rev_done {zs bs : List Int} {L M : Nat} (hzl : zs.length = L) (hbl : bs.length = L) (hM2 : 2 * M ≤ L) (hM3 : L ≤ 2 * M + 1) (h1 : ∀ j, j < M → Nt.lb zs j = Nt.lb bs (L - 1 - j) ∧ Nt.lb zs (L - 1 - j) = Nt.lb bs j) (h2 : ∀ j, M ≤ j → j < L - M → Nt.lb zs j = Nt.lb bs j) : zs = bs.reverse := by
  apply List.ext_getElem (by simp [hzl, hbl])
  intro j c1 c2
  have key : Nt.lb zs j = Nt.lb bs.reverse j := by
    rw [lb_rev (by omega), hbl]
    rcases Nat.lt_or_ge j M with c | c
    · exact (h1 j c).1
    · rcases Nat.lt_or_ge j (L - M) with d | d
      · rw [show L - 1 - j = j by omega]
        exact h2 j c d
      · have := (h1 (L - 1 - j) (by omega)).2
        rw [show L - 1 - (L - 1 - j) = j by omega] at this
        exact this
  rw [lb_get c1, lb_get c2] at key
  exact key

set_option maxRecDepth 20000 in
set_option maxHeartbeats 8000000 in
theorem rdigits_any {w : World} {va : Value} {V : Int} {kk : Nat} (ha : Arg w va V kk) (hkk : kk ≤ 1048576) :
    Calls Tryd.prog 65 #[va] w fun e w' => ∃ ds, e = .returned (.string (strOfNums ds)) ∧ Dstr V ds ∧ Below w.heap.size w w' := by
  go_enter Tryd.func65, Tryd.ntmps65
  go_wp2_with fail
  refine (rnorm_any ha (by omega)).mono ?_
  rintro e w0 ⟨v, rfl, hn, hb0⟩
  have hVlt := ha.lt
  have hV0 := ha.nonneg
  have HN0 := hide hn
  obtain ⟨xs, ⟨ao, rfl, -⟩, hc, hv, hxk⟩ := hn
  have HVl := hide (And.intro hV0 hVlt)
  clear ha hVlt hV0
  by_cases hz : V = 0
  · have hx0 : xs = [] := (Nt.canon_zero hc).1 (hv.trans hz)
    subst hx0
    have HD : Hid (Dstr V [48]) := hide ⟨fun x hx => by simp at hx; omega, by simp, .inr rfl, by rw [dg_one, hz]; omega⟩
    clear hc hv
    go_wp2
    go_ret
    exact ⟨[48], rfl, HD.out, hb0⟩
  · have hx0 : ¬ xs.length = 0 := by
      intro e
      have := List.eq_nil_of_length_eq_zero e
      subst this
      rw [Nt.val_nil] at hv; omega
    have hx1 : ((xs.length : Int) == 0) = false := by simp; intro e; subst e; simp at hx0
    have HB0 : Hid (Bck V V []) := hide ⟨fun x hx => (by cases hx), (by simp [Go.Proofs.YtgaldbfgmbaebaaDoor.dgv, tn_zero]), fun e => absurd e hz⟩
    clear hc hv hx0
    go_wp2
    clear hx1
    go_loopg [0, 3] V.toNat (fun c sa out wr => ∃ (A : Int) (bs : List Int), c = A.toNat ∧ 0 ≤ A ∧ Num w.heap.size wr sa A kk ∧ Bck V A bs ∧ bs.length ≤ 33554432 ∧ wr.ownsRow w.heap.size 5 1 out bs.length (bs.map (Value.int .u8)) ∧ Below w.heap.size w wr)
    case atStart => exact ⟨V, [], rfl, HVl.out.1, HN0.out, HB0.out, by simp, World.ownsRow_nil _ _ _ _, hb0⟩
    case round =>
      clear HN0 HB0 hb0
      obtain ⟨A, bs, hgA, hA0, hna, hbk, hbl, hown, hbr⟩ := hrel
      have HBK := hide hbk
      have HNA := hide hna
      clear hbk
      obtain ⟨ys, ⟨yo, rfl, -⟩, yc, yv, -⟩ := hna
      by_cases hA : A = 0
      · have hy0 : ys = [] := (Nt.canon_zero yc).1 (yv.trans hA)
        subst hy0
        have hbp := (HBK.out.top hA).1
        obtain ⟨L, hL⟩ : ∃ L, bs.length = L := ⟨_, rfl⟩
        rw [hL] at hown hbl hbp
        obtain ⟨g, cap, hve⟩ : ∃ g cap, u3 = .slice (some ⟨g, 0, none⟩) L cap := by
          rcases hown.2 with ⟨_, h⟩ | ⟨g, cap, _, h, _⟩
          · omega
          · exact ⟨g, cap, h⟩
        subst hve
        have HL := hide hL
        obtain ⟨M, hM⟩ : ∃ M : Nat, M = L / 2 := ⟨_, rfl⟩
        have hM1 : (L : Int) / 2 = (M : Int) := by omega
        have hM2 : 2 * M ≤ L := by omega
        have hM3 : L ≤ 2 * M + 1 := by omega
        clear yc yv hL hM
        go_wp2
        go_loopg [7] M (fun c iv wr => ∃ (i : Nat) (zs : List Int), i ≤ M ∧ c = M - i ∧ iv = .int .i64 i ∧ zs.length = L ∧ (∀ j, j < i → Nt.lb zs j = Nt.lb bs (L - 1 - j) ∧ Nt.lb zs (L - 1 - j) = Nt.lb bs j) ∧ (∀ j, i ≤ j → j < L - i → Nt.lb zs j = Nt.lb bs j) ∧ wr.ownsRow w.heap.size 5 1 (.slice (some ⟨g, 0, none⟩) L cap) L (zs.map (Value.int .u8)) ∧ Below w.heap.size w wr)
        case atStart => exact ⟨0, bs, by omega, rfl, rfl, HL.out, fun j hj => absurd hj (by omega), fun _ _ _ => rfl, hown, hbr⟩
        case round =>
          clear hown hbr
          obtain ⟨i, zs, hi, hgi, rfl, hzl, hz1, hz2, hown, hbr⟩ := hrel
          have HZ := hide (And.intro hz1 hz2)
          clear hz1 hz2
          by_cases hiM : i < M
          · obtain ⟨k, hk⟩ : ∃ k : Nat, k = L - 1 - i := ⟨_, rfl⟩
            have hk1 : (L : Int) - 1 - (i : Int) = (k : Int) := by omega
            have hkL : k < L := by omega
            have hik : i < k := by omega
            have hiL : i < L := by omega
            obtain ⟨g1, f1, gb⟩ := owns_get hown hiL
            obtain ⟨g2, f2, _⟩ := owns_get hown hkL
            have hne : ¬ i = k := by omega
            have hne' : ¬ k = i := by omega
            have i1 : (i : Int) < (M : Int) := by omega
            have i2 : (i : Int) < (L : Int) := by omega
            have k2 : (k : Int) < (L : Int) := by omega
            have HK := hide hk
            obtain ⟨a, hae⟩ : ∃ a, Nt.lb zs i = a := ⟨_, rfl⟩
            obtain ⟨b, hbe⟩ : ∃ b, Nt.lb zs k = b := ⟨_, rfl⟩
            rw [hae] at g1
            rw [hbe] at g2
            have HAB := hide (And.intro hae hbe)
            have HO := hide (show ((wr.setCell ⟨g, i, none⟩ (.int .u8 b)).setCell ⟨g, k, none⟩ (.int .u8 a)).ownsRow w.heap.size 5 1 (.slice (some ⟨g, 0, none⟩) L cap) L (((zs.set i b).set k a).map (Value.int .u8)) from owns_put (owns_put hown hiL b) hkL a)
            have HO2 := hide (show ((wr.setCell ⟨g, k, none⟩ (.int .u8 a)).setCell ⟨g, i, none⟩ (.int .u8 b)).ownsRow w.heap.size 5 1 (.slice (some ⟨g, 0, none⟩) L cap) L (((zs.set k a).set i b).map (Value.int .u8)) from owns_put (owns_put hown hkL a) hiL b)
            have HW := hide (And.intro hbr gb)
            clear hk hown hae hbe hbr
            go_wp2
            go_region
            all_goals go_wp2
            all_goals go_roundg (M - (i + 1))
            all_goals first
              | omega
              | exact ⟨i + 1, (zs.set i b).set k a, by omega, rfl, by go_num, by simp [hzl], (rev_step hzl HK.out hik HZ.out.1 HZ.out.2 HAB.out.1 HAB.out.2).1, (rev_step hzl HK.out hik HZ.out.1 HZ.out.2 HAB.out.1 HAB.out.2).2, HO.out, ((HW.out.1.drew.setCell (p := ⟨g, i, none⟩) HW.out.2 _).setCell (p := ⟨g, k, none⟩) HW.out.2 _)⟩
          · have hie : i = M := by omega
            subst hie
            have hzs := rev_done hzl HL.out hM2 hM3 HZ.out.1 HZ.out.2
            have hcv := own_str (reads_of_owns hown) (by omega)
            have HD : Hid (Dstr V zs) := hide (by
              obtain ⟨b1, b2, b3⟩ := HBK.out
              rw [hA, Int.zero_mul, Int.zero_add] at b2
              refine ⟨by rw [hzs]; exact fun x hx => b1 x (by simpa using hx), by omega, .inl ?_, by rw [hzs]; exact b2⟩
              rw [hzs, lb_rev (by have := HL.out; omega), Nat.sub_zero]
              exact (b3 hA).2)
            have HW := hide hbr
            clear hzs hbr
            go_wp2
            go_ret
            exact ⟨zs, rfl, HD.out, HW.out⟩
      · have hyp : (0 : Int) < (ys.length : Int) := by
          rcases Nat.eq_zero_or_pos ys.length with h | h
          · rw [List.eq_nil_of_length_eq_zero h, Nt.val_nil] at yv; omega
          · omega
        have hA10 : 0 ≤ A / 10 := by omega
        have hme : (A / 10).toNat < gk := by omega
        have m0 := Int.emod_nonneg A (b := 10) (by omega)
        have m1 := Int.emod_lt_of_pos A (b := 10) (by omega)
        have hlen := HBK.out.len (by omega) HVl.out.2
        clear yc yv
        go_wp2_with fail
        with_reducible refine (rsmall_yes (d := 10) HNA.out.arg (by omega) (by omega) (by omega)).mono ?_
        rintro e w2 ⟨v2, rfl, hn2, hb2⟩
        obtain ⟨r, hr⟩ : ∃ r, A % 10 = r := ⟨_, rfl⟩
        rw [hr] at m0 m1 ⊢
        have hown2 := (owns_below hown hb2).alloc (.cells #[.int .u8 (48 + r)] 5)
        have hal := below_alloc w2 (.cells #[.int .u8 (48 + r)] 5)
        have HX := hide (And.intro ((hn2.low hbr.size).below hal) (below_trans (below_trans hbr hb2) hal))
        have hs2 : w.heap.size ≤ w2.heap.size := Nat.le_trans hbr.size hb2.size
        obtain ⟨_, ⟨po, rfl, -⟩, -⟩ := hn2
        clear hbr hb2 hown
        have e48 : (48 + r) % 256 = 48 + r := by omega
        go_wp2_with (at_builtin; refine wpList_append_cells _ rfl _ _ 28 rfl w.heap.size 5 .u8 1 Tryd.underlying28 Tryd.infoU8 _ bs.length bs rfl hown2 (some ⟨w2.heap.size, 0, none⟩) 1 [48 + r] rfl (cell_1 _ _ _ _) (by unfold maxLen; simp; omega) (by simp; omega) (by simp; omega) ?_)
        intro v' w3 hown3 hgr
        have HF := hide (And.intro (HX.out.1.grown8 hgr (owns_u8 hown2)) (own_grew HX.out.2 (by simp; omega) hown2 hgr))
        have HO3 := hide hown3
        have HBN := hide (HBK.out.next (by omega))
        rw [hr] at HBN
        clear hown3 hgr hown2
        go_wp2
        go_roundg (A / 10).toNat
        case measure => exact hme
        case rel => exact ⟨A / 10, bs ++ [48 + r], rfl, hA10, HF.out.1, HBN.out, by simp; omega, by simpa using HO3.out, HF.out.2⟩

end Go.Proofs.YtgaldbfgmbaebaaDoor

namespace Go.Proofs.YtgaldbfgmbaebaaDoor
open Go.RowKit
set_option linter.unusedVariables false

abbrev cq1 (x : Int) : Obj := .cells #[.int .u32 x] 26
theorem bl1 (w : World) (o : Obj) : Below w.heap.size w (w.alloc o) := (Below.refl _ _).alloc (Nat.le_refl _) _
theorem bl1d (w : World) (o : Obj) : Below w.heap.size w (w.alloc o).drew := (bl1 w o).drew
theorem bl2 (w : World) (o o' : Obj) : Below w.heap.size w ((w.alloc o).alloc o') := below_trans (bl1 w o) (bl1 _ o')
theorem bl2d (w : World) (o o' : Obj) : Below w.heap.size w ((w.alloc o).alloc o').drew := (bl2 w o o').drew
theorem un_1 (w : World) (x : Int) (h0 : 0 ≤ x) (h1 : x < 4294967296) : Arg (w.alloc (cq1 x)) (.slice (some ⟨w.heap.size, 0, none⟩) 1 1) x 1 := lit_arg w ⟨h0, h1⟩
theorem un_1d (w : World) (x : Int) (h0 : 0 ≤ x) (h1 : x < 4294967296) : Arg (w.alloc (cq1 x)).drew (.slice (some ⟨w.heap.size, 0, none⟩) 1 1) x 1 := (un_1 w x h0 h1).below (Below.refl _ _).drew
theorem un_2 (w : World) (o : Obj) (x : Int) (h0 : 0 ≤ x) (h1 : x < 4294967296) : Arg ((w.alloc (cq1 x)).alloc o) (.slice (some ⟨w.heap.size, 0, none⟩) 1 1) x 1 := (un_1 w x h0 h1).below (bl1 _ _)
theorem un_2d (w : World) (o : Obj) (x : Int) (h0 : 0 ≤ x) (h1 : x < 4294967296) : Arg ((w.alloc (cq1 x)).alloc o).drew (.slice (some ⟨w.heap.size, 0, none⟩) 1 1) x 1 := (un_2 w o x h0 h1).below (Below.refl _ _).drew
theorem un_3 (w : World) (o : Obj) (x : Int) (h0 : 0 ≤ x) (h1 : x < 4294967296) : Arg ((w.alloc o).alloc (cq1 x)) (.slice (some ⟨w.heap.size + 1, 0, none⟩) 1 1) x 1 := by
  have := un_1 (w.alloc o) x h0 h1
  rwa [show (w.alloc o).heap.size = w.heap.size + 1 by simp] at this
theorem un_3d (w : World) (o : Obj) (x : Int) (h0 : 0 ≤ x) (h1 : x < 4294967296) : Arg ((w.alloc o).alloc (cq1 x)).drew (.slice (some ⟨w.heap.size + 1, 0, none⟩) 1 1) x 1 := (un_3 w o x h0 h1).below (Below.refl _ _).drew
theorem dg_take_le {es : List Int} (h : Dg es) (k : Nat) : 0 ≤ dgv (es.take k) ∧ dgv (es.take k) ≤ dgv es := by
  have h1 := dg_append (es.take k) (es.drop k)
  rw [List.take_append_drop] at h1
  have h2 := (dg_range (h.take k)).1
  have h3 := (dg_range (h.drop k)).1
  have h4 := tn_pos (es.drop k).length
  have h5 : dgv (es.take k) * 1 ≤ dgv (es.take k) * tn (es.drop k).length := Int.mul_le_mul_of_nonneg_left (by omega) h2
  omega
theorem Rdv.no {es : List Int} {b : Bool} {n : Int} (h : Rdv es b n) (hn : ¬ (Nmb es ∧ dgv es < Nt.pw 262144)) : b = false ∧ n = 0 := by
  cases b with
  | false => exact ⟨rfl, by rw [h.2, if_neg (by decide)]⟩
  | true => exact absurd (h.1.1 rfl) hn
theorem Rdv.yes {es : List Int} {b : Bool} {n : Int} (h : Rdv es b n) (hn : Nmb es ∧ dgv es < Nt.pw 262144) : b = true ∧ n = dgv es := by
  have hb := h.1.2 hn
  exact ⟨hb, by rw [h.2, if_pos hb]⟩
theorem num_form {B : Nat} {w : World} {v : Value} {n : Int} {k : Nat} (h : Num B w v n k) : ∃ a l, v = .slice a l l ∧ l ≤ k ∧ (l ≤ 262144 ↔ n < Nt.pw 262144) := by
  obtain ⟨zs, ⟨ao, h1, _⟩, h2, h3, h4⟩ := h
  refine ⟨ao, zs.length, h1, h4, ?_⟩
  rw [← h3]
  exact canon_short h2 262144

set_option maxRecDepth 100000 in
set_option maxHeartbeats 8000000 in
theorem rread_bad {w : World} {es : List Int} {s : ByteArray} {N : Nat} (hb : Byt es) (hs : s = strOfNums es) (hN : es.length = N) (h : N = 0 ∨ (1 < N ∧ Nt.lb es 0 = 48)) :
    Calls Tryd.prog 62 #[.string s] w fun e w' => e = .returned (.tuple #[.slice none 0 0, .bool false]) ∧ w' = w := by
  have hsz : s.size = N := by rw [hs, strOfNums_size, hN]
  rcases h with h | ⟨h, h0⟩
  · have hn0 : ((N : Int) == 0) = true := by simp [h]
    clear hs hN hb
    go_enter Tryd.func62, Tryd.ntmps62
    go_wp2
    go_ret2
    exact ⟨rfl, rfl⟩
  · have hp0 : 0 < s.size := by omega
    have hx0 : (((s[0]'hp0).toNat : Nat) : Int) = 48 := by
      subst hs
      rw [txt_at hp0 hb, h0]
    have hn0 : ((N : Int) == 0) = false := by simp; omega
    have hN1 : (1 : Int) < (N : Int) := by omega
    have hN0 : (0 : Int) < (N : Int) := by omega
    clear hs hN hb h0
    go_enter Tryd.func62, Tryd.ntmps62
    go_wp2
    go_ret2
    exact ⟨rfl, rfl⟩

set_option maxRecDepth 100000 in
set_option maxHeartbeats 8000000 in
theorem rread_any {w : World} {es : List Int} {s : ByteArray} {b : Bool} {n : Int} (hb : Byt es) (hs : s = strOfNums es) (hl : es.length ≤ 9223372036854775807) (h : Rdv es b n) :
    Calls Tryd.prog 62 #[.string s] w fun e w' => ∃ v, e = .returned (.tuple #[v, .bool b]) ∧ Num w.heap.size w' v n 262144 ∧ Below w.heap.size w w' := by
  obtain ⟨N, hN⟩ : ∃ N, es.length = N := ⟨_, rfl⟩
  have hsz : s.size = N := by rw [hs, strOfNums_size, hN]
  by_cases hbad : N = 0 ∨ (1 < N ∧ Nt.lb es 0 = 48)
  · obtain ⟨rfl, rfl⟩ := h.no (fun q => by
      rcases hbad with c | ⟨c, d⟩
      · have := q.1.1; omega
      · rcases q.1.2.2 with e | e
        · exact e d
        · rw [e] at hN; simp at hN; omega)
    refine (rread_bad hb hs hN hbad).mono ?_
    rintro e w' ⟨rfl, rfl⟩
    exact ⟨_, rfl, num_none _ _ _, Below.refl _ _⟩
  · have n0 : 0 < N := by omega
    have Hix := hide (show ∀ p (h : p < s.size), (((s[p]'h).toNat : Nat) : Int) = Nt.lb es p from fun p h => by subst hs; exact txt_at h hb)
    have Hby := hide (lb_byt hb)
    have HR := hide h
    have HN := hide hN
    have HNM := hide (show Dg es → Nmb es from fun hd => by
      refine ⟨by omega, hd, ?_⟩
      by_cases c : Nt.lb es 0 = 48
      · right
        have h1 : N = 1 := by
          rcases Nat.lt_or_ge 1 N with d | d
          · exact absurd (.inr ⟨d, c⟩) hbad
          · omega
        cases es with
        | nil => simp at hN; omega
        | cons a r =>
          have hr : r = [] := List.eq_nil_of_length_eq_zero (by simp at hN; omega)
          subst hr
          have : a = 48 := by simpa [Nt.lb] using c
          rw [this]
      · exact .inl c)
    rw [hN] at hl
    have hp0 : 0 < s.size := by omega
    have hx0 := Hix.out 0 hp0
    have hn0 : ((N : Int) == 0) = false := by simp; omega
    have hN0 : (0 : Int) < (N : Int) := by omega
    by_cases c48 : Nt.lb es 0 = 48
    · have hN1 : ¬ (1 : Int) < (N : Int) := by
        intro q
        exact hbad (.inr ⟨by omega, c48⟩)
      rw [c48] at hx0
      have hz : (1 : Int) = 1 := rfl
      clear hs hb h hN hbad c48
      go_enter Tryd.func62, Tryd.ntmps62
      go_wp2
      clear hx0 hz hn0 hN1
      go_loopg [5] N (fun c i wr => ∃ k : Nat, k ≤ N ∧ c = N - k ∧ i = .int .i64 k ∧ (∀ j, j < k → 48 ≤ Nt.lb es j ∧ Nt.lb es j ≤ 57) ∧ w = wr)
      case atStart => exact ⟨0, by omega, rfl, rfl, fun j hj => absurd hj (by omega), rfl⟩
      case round =>
        obtain ⟨k, hk, hgk, rfl, hall, hw⟩ := hrel
        subst hw
        have HALL := hide hall
        clear hall
        by_cases hkl : k < N
        · have hps : k < s.size := by omega
          have hx := Hix.out k hps
          have hby := Hby.out k
          obtain ⟨d, hdd⟩ : ∃ d, Nt.lb es k = d := ⟨_, rfl⟩
          rw [hdd] at hx hby
          have HDD := hide hdd
          clear hdd
          have q4 : (k : Int) < (N : Int) := by omega
          obtain ⟨y0, y1⟩ := hby
          by_cases c1 : d < 48
          · obtain ⟨rfl, rfl⟩ := HR.out.no (fun h => by have := h.1.2.1 _ (lb_in (by rw [HN.out]; exact hkl)); rw [HDD.out] at this; omega)
            go_wp2
            go_ret2
            exact ⟨_, rfl, num_none _ _ _, Below.refl _ _⟩
          · by_cases c2 : 57 < d
            · obtain ⟨rfl, rfl⟩ := HR.out.no (fun h => by have := h.1.2.1 _ (lb_in (by rw [HN.out]; exact hkl)); rw [HDD.out] at this; omega)
              go_wp2
              go_ret2
              exact ⟨_, rfl, num_none _ _ _, Below.refl _ _⟩
            · have HNX := hide (show ∀ j, j < k + 1 → 48 ≤ Nt.lb es j ∧ Nt.lb es j ≤ 57 from fun j hj => by
                rcases Nat.lt_or_ge j k with c | c
                · exact HALL.out j c
                · rw [show j = k by omega, HDD.out]; omega)
              go_wp2
              go_roundg (N - (k + 1))
              case measure => omega
              case rel => exact ⟨k + 1, by omega, rfl, by simp, HNX.out, rfl⟩
        · have hke : k = N := by omega
          subst hke
          have HD := hide (show Dg es from all_dg0 (fun j hj => HALL.out j (by have := HN.out; omega)))
          clear hgk hk hkl HALL
          go_wp2
          go_loopg [4, 6] k (fun c va i wr => ∃ j : Nat, j ≤ k ∧ c = k - j ∧ i = .int .i64 j ∧ Num w.heap.size wr va (dgv (es.take j)) 262144 ∧ Below w.heap.size w wr)
          case atStart => exact ⟨0, by omega, rfl, rfl, by rw [List.take_zero]; exact num_none _ _ _, Below.refl _ _⟩
          case round =>
            obtain ⟨j, hj, hgj, rfl, ha, hb⟩ := hrel
            have HA := hide ha.arg
            have HNA := hide ha
            obtain ⟨zs, ⟨ao, rfl, -⟩, -, -, z7⟩ := ha
            by_cases hjl : j < k
            · have hps : j < s.size := by omega
              have hx := Hix.out j hps
              have hb9 := HD.out _ (lb_in (p := j) (by rw [HN.out]; exact hjl))
              have hv := hide (dg_take (ds := es) (k := j) (by rw [HN.out]; exact hjl))
              obtain ⟨d, hdd⟩ : ∃ d, Nt.lb es j = d := ⟨_, rfl⟩
              rw [hdd] at hx hb9 hv
              clear hdd
              obtain ⟨x0, x1⟩ := hb9
              have q4 : (j : Int) < (k : Int) := by omega
              have wd : IntKind.u8.wrap (d - 48) = d - 48 := by rw [IntKind.wrap_u8]; omega
              have wd2 : IntKind.u32.wrap (d - 48) = d - 48 := by rw [IntKind.wrap_u32]; omega
              have T0 := hide (show (0 : Int) ≤ 10 ∧ (10 : Int) < 4294967296 by omega)
              have T1 := hide (show 0 ≤ d - 48 ∧ d - 48 < 4294967296 by omega)
              have Z7 := hide z7
              clear z7
              go_upto_region 12 with fail
              go_region_held3 (fun _ => True) (exact trivial)
                (first
                  | (go_at_call 90; (refine (rmul_any (n := dgv (es.take j)) (m := 10) ?_ ?_ (ka := 262144) (kb := 1) ?_ ?_).mono ?_); (first | exact HA.out.below (bl1 _ _) | exact HA.out.below (bl1d _ _) | exact HA.out.below (bl2 _ _ _) | exact HA.out.below (bl2d _ _ _)); (first | exact un_1 _ 10 T0.out.1 T0.out.2 | exact un_1d _ 10 T0.out.1 T0.out.2 | exact un_2 _ _ 10 T0.out.1 T0.out.2 | exact un_2d _ _ 10 T0.out.1 T0.out.2 | exact un_3 _ _ 10 T0.out.1 T0.out.2 | exact un_3d _ _ 10 T0.out.1 T0.out.2); omega; omega; rintro r w2 ⟨x, rfl, hx2, b2⟩)
                  | (go_at_call 89; (refine (radd_any (n := dgv (es.take j) * 10) (m := d - 48) ?_ ?_ (ka := 262146) (kb := 1) ?_ ?_).mono ?_); (first | exact hx2.arg | exact hx2.arg.below (bl1 _ _)); (first | exact un_1 _ (d - 48) T1.out.1 T1.out.2 | exact (un_2 _ _ (d - 48) T1.out.1 T1.out.2).below b2 | exact (un_2d _ _ (d - 48) T1.out.1 T1.out.2).below b2 | exact (un_3 _ _ (d - 48) T1.out.1 T1.out.2).below b2 | exact (un_3d _ _ (d - 48) T1.out.1 T1.out.2).below b2); omega; omega; rintro r w3 ⟨y, rfl, hy, b3⟩; have HYN := hide hy; obtain ⟨ya, yl, rfl, yl2, hyi⟩ := num_form hy))
              all_goals (
                have K : Below wr.heap.size wr w3 := by first | exact below_trans (below_trans (below_trans (bl1d _ _) b2) (bl1 _ _)) b3 | exact below_trans (below_trans (bl2d _ _ _) b2) b3
                have s3 : w.heap.size ≤ wr.heap.size := hb.size
                have LW := hide (show Num w.heap.size w3 (.slice ya yl yl) (dgv (es.take (j + 1))) 262148 from by rw [hv.out]; exact HYN.out.low (by have q1 := b2.size; have q2 := hb.size; simp at q1 ⊢; omega))
                have Fin := hide (below_trans hb K)
                rw [← hv.out] at hyi
                have HYI := hide hyi
                clear hx2 hy b2 b3 hyi K hb HYN
                by_cases hbig : yl ≤ 262144
                · have nl : decide ((262144 : Int) < (yl : Int)) = false := decide_eq_false (by omega)
                  have LN := hide (LW.out.tight (HYI.out.1 hbig))
                  clear hbig yl2
                  go_wp2
                  go_roundg (k - (j + 1))
                  case measure => omega
                  case rel => exact ⟨j + 1, by omega, rfl, by simp, LN.out, Fin.out⟩
                · have nl : (262144 : Int) < (yl : Int) := by omega
                  obtain ⟨rfl, rfl⟩ := HR.out.no (fun h => by have q1 := dg_take_le HD.out (j + 1); have q2 := h.2; exact hbig (HYI.out.2 (Int.lt_of_le_of_lt q1.2 q2)))
                  clear hbig yl2
                  go_wp2
                  go_ret2
                  exact ⟨_, rfl, num_none _ _ _, Fin.out⟩)
            · have hje : j = k := by omega
              subst hje
              have hfull : es.take j = es := List.take_of_length_le (by rw [HN.out]; omega)
              have LN := hide (show Num w.heap.size wr (.slice ao zs.length zs.length) (dgv es) 262144 by have := HNA.out; rwa [hfull] at this)
              have hlt := (num_form LN.out)
              obtain ⟨_, _, hve, hvl, hiff⟩ := hlt
              obtain ⟨rfl, rfl⟩ := HR.out.yes ⟨HNM.out HD.out, hiff.1 hvl⟩
              have Fin := hide hb
              clear hb hfull z7 hve hvl hiff
              go_wp2
              go_ret2
              exact ⟨_, rfl, LN.out, Fin.out⟩
    · have hz : (Nt.lb es 0 == 48) = false := by simp [c48]
      obtain ⟨d0, hd0⟩ : ∃ d, Nt.lb es 0 = d := ⟨_, rfl⟩
      rw [hd0] at hx0 hz
      clear hs hb h hN hbad c48 hd0
      go_enter Tryd.func62, Tryd.ntmps62
      go_wp2
      clear hx0 hz hn0
      go_loopg [5] N (fun c i wr => ∃ k : Nat, k ≤ N ∧ c = N - k ∧ i = .int .i64 k ∧ (∀ j, j < k → 48 ≤ Nt.lb es j ∧ Nt.lb es j ≤ 57) ∧ w = wr)
      case atStart => exact ⟨0, by omega, rfl, rfl, fun j hj => absurd hj (by omega), rfl⟩
      case round =>
        obtain ⟨k, hk, hgk, rfl, hall, hw⟩ := hrel
        subst hw
        have HALL := hide hall
        clear hall
        by_cases hkl : k < N
        · have hps : k < s.size := by omega
          have hx := Hix.out k hps
          have hby := Hby.out k
          obtain ⟨d, hdd⟩ : ∃ d, Nt.lb es k = d := ⟨_, rfl⟩
          rw [hdd] at hx hby
          have HDD := hide hdd
          clear hdd
          have q4 : (k : Int) < (N : Int) := by omega
          obtain ⟨y0, y1⟩ := hby
          by_cases c1 : d < 48
          · obtain ⟨rfl, rfl⟩ := HR.out.no (fun h => by have := h.1.2.1 _ (lb_in (by rw [HN.out]; exact hkl)); rw [HDD.out] at this; omega)
            go_wp2
            go_ret2
            exact ⟨_, rfl, num_none _ _ _, Below.refl _ _⟩
          · by_cases c2 : 57 < d
            · obtain ⟨rfl, rfl⟩ := HR.out.no (fun h => by have := h.1.2.1 _ (lb_in (by rw [HN.out]; exact hkl)); rw [HDD.out] at this; omega)
              go_wp2
              go_ret2
              exact ⟨_, rfl, num_none _ _ _, Below.refl _ _⟩
            · have HNX := hide (show ∀ j, j < k + 1 → 48 ≤ Nt.lb es j ∧ Nt.lb es j ≤ 57 from fun j hj => by
                rcases Nat.lt_or_ge j k with c | c
                · exact HALL.out j c
                · rw [show j = k by omega, HDD.out]; omega)
              go_wp2
              go_roundg (N - (k + 1))
              case measure => omega
              case rel => exact ⟨k + 1, by omega, rfl, by simp, HNX.out, rfl⟩
        · have hke : k = N := by omega
          subst hke
          have HD := hide (show Dg es from all_dg0 (fun j hj => HALL.out j (by have := HN.out; omega)))
          clear hgk hk hkl HALL
          go_wp2
          go_loopg [4, 6] k (fun c va i wr => ∃ j : Nat, j ≤ k ∧ c = k - j ∧ i = .int .i64 j ∧ Num w.heap.size wr va (dgv (es.take j)) 262144 ∧ Below w.heap.size w wr)
          case atStart => exact ⟨0, by omega, rfl, rfl, by rw [List.take_zero]; exact num_none _ _ _, Below.refl _ _⟩
          case round =>
            obtain ⟨j, hj, hgj, rfl, ha, hb⟩ := hrel
            have HA := hide ha.arg
            have HNA := hide ha
            obtain ⟨zs, ⟨ao, rfl, -⟩, -, -, z7⟩ := ha
            by_cases hjl : j < k
            · have hps : j < s.size := by omega
              have hx := Hix.out j hps
              have hb9 := HD.out _ (lb_in (p := j) (by rw [HN.out]; exact hjl))
              have hv := hide (dg_take (ds := es) (k := j) (by rw [HN.out]; exact hjl))
              obtain ⟨d, hdd⟩ : ∃ d, Nt.lb es j = d := ⟨_, rfl⟩
              rw [hdd] at hx hb9 hv
              clear hdd
              obtain ⟨x0, x1⟩ := hb9
              have q4 : (j : Int) < (k : Int) := by omega
              have wd : IntKind.u8.wrap (d - 48) = d - 48 := by rw [IntKind.wrap_u8]; omega
              have wd2 : IntKind.u32.wrap (d - 48) = d - 48 := by rw [IntKind.wrap_u32]; omega
              have T0 := hide (show (0 : Int) ≤ 10 ∧ (10 : Int) < 4294967296 by omega)
              have T1 := hide (show 0 ≤ d - 48 ∧ d - 48 < 4294967296 by omega)
              have Z7 := hide z7
              clear z7
              go_upto_region 12 with fail
              go_region_held3 (fun _ => True) (exact trivial)
                (first
                  | (go_at_call 90; (refine (rmul_any (n := dgv (es.take j)) (m := 10) ?_ ?_ (ka := 262144) (kb := 1) ?_ ?_).mono ?_); (first | exact HA.out.below (bl1 _ _) | exact HA.out.below (bl1d _ _) | exact HA.out.below (bl2 _ _ _) | exact HA.out.below (bl2d _ _ _)); (first | exact un_1 _ 10 T0.out.1 T0.out.2 | exact un_1d _ 10 T0.out.1 T0.out.2 | exact un_2 _ _ 10 T0.out.1 T0.out.2 | exact un_2d _ _ 10 T0.out.1 T0.out.2 | exact un_3 _ _ 10 T0.out.1 T0.out.2 | exact un_3d _ _ 10 T0.out.1 T0.out.2); omega; omega; rintro r w2 ⟨x, rfl, hx2, b2⟩)
                  | (go_at_call 89; (refine (radd_any (n := dgv (es.take j) * 10) (m := d - 48) ?_ ?_ (ka := 262146) (kb := 1) ?_ ?_).mono ?_); (first | exact hx2.arg | exact hx2.arg.below (bl1 _ _)); (first | exact un_1 _ (d - 48) T1.out.1 T1.out.2 | exact (un_2 _ _ (d - 48) T1.out.1 T1.out.2).below b2 | exact (un_2d _ _ (d - 48) T1.out.1 T1.out.2).below b2 | exact (un_3 _ _ (d - 48) T1.out.1 T1.out.2).below b2 | exact (un_3d _ _ (d - 48) T1.out.1 T1.out.2).below b2); omega; omega; rintro r w3 ⟨y, rfl, hy, b3⟩; have HYN := hide hy; obtain ⟨ya, yl, rfl, yl2, hyi⟩ := num_form hy))
              all_goals (
                have K : Below wr.heap.size wr w3 := by first | exact below_trans (below_trans (below_trans (bl1d _ _) b2) (bl1 _ _)) b3 | exact below_trans (below_trans (bl2d _ _ _) b2) b3
                have s3 : w.heap.size ≤ wr.heap.size := hb.size
                have LW := hide (show Num w.heap.size w3 (.slice ya yl yl) (dgv (es.take (j + 1))) 262148 from by rw [hv.out]; exact HYN.out.low (by have q1 := b2.size; have q2 := hb.size; simp at q1 ⊢; omega))
                have Fin := hide (below_trans hb K)
                rw [← hv.out] at hyi
                have HYI := hide hyi
                clear hx2 hy b2 b3 hyi K hb HYN
                by_cases hbig : yl ≤ 262144
                · have nl : decide ((262144 : Int) < (yl : Int)) = false := decide_eq_false (by omega)
                  have LN := hide (LW.out.tight (HYI.out.1 hbig))
                  clear hbig yl2
                  go_wp2
                  go_roundg (k - (j + 1))
                  case measure => omega
                  case rel => exact ⟨j + 1, by omega, rfl, by simp, LN.out, Fin.out⟩
                · have nl : (262144 : Int) < (yl : Int) := by omega
                  obtain ⟨rfl, rfl⟩ := HR.out.no (fun h => by have q1 := dg_take_le HD.out (j + 1); have q2 := h.2; exact hbig (HYI.out.2 (Int.lt_of_le_of_lt q1.2 q2)))
                  clear hbig yl2
                  go_wp2
                  go_ret2
                  exact ⟨_, rfl, num_none _ _ _, Fin.out⟩)
            · have hje : j = k := by omega
              subst hje
              have hfull : es.take j = es := List.take_of_length_le (by rw [HN.out]; omega)
              have LN := hide (show Num w.heap.size wr (.slice ao zs.length zs.length) (dgv es) 262144 by have := HNA.out; rwa [hfull] at this)
              have hlt := (num_form LN.out)
              obtain ⟨_, _, hve, hvl, hiff⟩ := hlt
              obtain ⟨rfl, rfl⟩ := HR.out.yes ⟨HNM.out HD.out, hiff.1 hvl⟩
              have Fin := hide hb
              clear hb hfull z7 hve hvl hiff
              go_wp2
              go_ret2
              exact ⟨_, rfl, LN.out, Fin.out⟩

end Go.Proofs.YtgaldbfgmbaebaaDoor

namespace Go.Proofs.YtgaldbfgmbaebaaDoor
open Go.RowKit
set_option linter.unusedVariables false

/-- the size of a whole number -/
def wab (n : Int) : Int := if n < 0 then -n else n
/-- a whole number's text -/
def wst (n : Int) (ds : List Int) : ByteArray := if n < 0 then ⟨#[45]⟩ ++ strOfNums ds else strOfNums ds
theorem wab_wn {ng : Bool} {a n : Int} (h : n = wn ng a) (h0 : 0 ≤ a) : wab n = a := by
  unfold wab
  unfold wn at h
  cases ng <;> simp at h <;> split <;> omega

set_option maxRecDepth 20000 in
set_option maxHeartbeats 4000000 in
theorem wshow_any {w : World} {v : Value} {n : Int} {k : Nat} (h : WArg w v n k) (hk : k ≤ 1048576) :
    Calls Tryd.prog 21 #[v] w fun e w' => ∃ ds, e = .returned (.string (wst n ds)) ∧ Dstr (wab n) ds ∧ ds.length ≤ 10200000 ∧ Below w.heap.size w w' := by
  obtain ⟨neg, m, a, rfl, ha, hn⟩ := h
  have A1 := ha
  have N1 := ha.nonneg
  obtain ⟨zs, ⟨ao, cap, rfl, -⟩, -⟩ := ha
  have K1 : Below w.heap.size w (w.alloc (.cells #[.bool neg, .slice ao zs.length cap] 38)) := bel_alloc _ _
  have C1 := cell2_new w (.bool neg) (.slice ao zs.length cap) 38
  have HC := hide C1
  have HN := hide hn
  have HAB := hide (wab_wn hn N1)
  clear C1 hn
  replace A1 := A1.below K1
  go_enter Tryd.func21, Tryd.ntmps21
  go_wp2_with fail
  with_reducible refine (sign_any A1 HN.out (by omega)).mono ?_
  rintro e w2 ⟨rfl, hb2⟩
  have p1 := (HC.out.below hb2).c1
  by_cases hneg : n < 0
  · have HWS := hide (show ∀ ds, wst n ds = ⟨#[45]⟩ ++ strOfNums ds from fun ds => if_pos hneg)
    have hsg : sgn n 0 = -1 := sgn_lt hneg
    go_wp2_with fail
    with_reducible refine (digits_any (A1.below hb2) (by omega)).mono ?_
    rintro e w3 ⟨ds, rfl, hds, hdl, hb3⟩
    have hsz : (strOfNums ds).size ≤ 10200000 := by rw [strOfNums_size]; exact hdl
    generalize hsd : strOfNums ds = s at *
    have HSD := hide hsd
    clear hsd
    have k1 : ¬ 9223372036854775807 < (⟨#[45]⟩ : ByteArray).size + s.size := by rw [show (⟨#[45]⟩ : ByteArray).size = 1 from rfl]; omega
    have HF := hide (K1.trans ((below_trans hb2 hb3).mono K1.size))
    have HD := hide hds
    clear hb2 hb3 hds
    go_wp2
    go_ret
    exact ⟨ds, congrArg (fun x => Ending.returned (.string x)) (by rw [HWS.out ds, HSD.out]), by rw [HAB.out]; exact HD.out, hdl, HF.out⟩
  · have HWS := hide (show ∀ ds, wst n ds = strOfNums ds from fun ds => if_neg hneg)
    have hsg : (sgn n 0 == -1) = false := by
      rcases Int.lt_or_le 0 n with c | c
      · rw [sgn_gt c]; rfl
      · rw [sgn_eq (by omega)]; rfl
    go_wp2_with fail
    with_reducible refine (digits_any (A1.below hb2) (by omega)).mono ?_
    rintro e w3 ⟨ds, rfl, hds, hdl, hb3⟩
    generalize hsd : strOfNums ds = s at *
    have HSD := hide hsd
    clear hsd
    have HF := hide (K1.trans ((below_trans hb2 hb3).mono K1.size))
    have HD := hide hds
    clear hb2 hb3 hds
    go_wp2
    go_ret
    exact ⟨ds, congrArg (fun x => Ending.returned (.string x)) (by rw [HWS.out ds, HSD.out]), by rw [HAB.out]; exact HD.out, hdl, HF.out⟩

set_option maxRecDepth 20000 in
set_option maxHeartbeats 4000000 in
theorem r3show_any {w : World} {v : Value} {n : Int} {k : Nat} {es : List Int} (hes : Dstr (wab n) es) (hel : es.length ≤ 10200000) (h : WArg w v n k) (hk : k ≤ 1048576) :
    Calls Tryd.prog 22 #[v] w fun e w' => e = .returned (.string (wst n es)) ∧ Below w.heap.size w w' := by
  have h' := h
  obtain ⟨neg, m, a, rfl, ha, hn⟩ := h
  have A1 := ha
  have N1 := ha.nonneg
  obtain ⟨zs, ⟨ao, cap, rfl, -⟩, -⟩ := ha
  have K1 : Below w.heap.size w (w.alloc (.cells #[.bool neg, .slice ao zs.length cap] 38)) := bel_alloc _ _
  have C1 := cell2_new w (.bool neg) (.slice ao zs.length cap) 38
  have HC := hide C1
  have HAB := hide (wab_wn hn N1)
  have H' := hide (h'.below K1)
  have HES := hide hes
  clear C1 hn h' hes
  replace A1 := A1.below K1
  go_enter Tryd.func22, Tryd.ntmps22
  go_wp2_with fail
  with_reducible refine (r3below_any H'.out (by omega)).mono ?_
  rintro e w2 ⟨rfl, hb2⟩
  have p1 := (HC.out.below hb2).c1
  by_cases hneg : n < 0
  · have HWS := hide (show ∀ ds, wst n ds = ⟨#[45]⟩ ++ strOfNums ds from fun ds => if_pos hneg)
    have hsg : decide (n < 0) = true := decide_eq_true hneg
    go_wp2_with fail
    with_reducible refine (rdigits_any (A1.below hb2) (by omega)).mono ?_
    rintro e w3 ⟨ds, rfl, hds, hb3⟩
    have hde : ds = es := hds.unique (by rw [← HAB.out]; exact HES.out)
    subst hde
    have hsz : (strOfNums ds).size ≤ 10200000 := by rw [strOfNums_size]; exact hel
    generalize hsd : strOfNums ds = s at *
    have HSD := hide hsd
    clear hsd
    have k1 : ¬ 9223372036854775807 < (⟨#[45]⟩ : ByteArray).size + s.size := by rw [show (⟨#[45]⟩ : ByteArray).size = 1 from rfl]; omega
    have HF := hide (K1.trans ((below_trans hb2 hb3).mono K1.size))
    clear hb2 hb3 hds
    go_wp2
    go_ret
    exact ⟨congrArg (fun x => Ending.returned (.string x)) (by rw [HWS.out ds, HSD.out]), HF.out⟩
  · have HWS := hide (show ∀ ds, wst n ds = strOfNums ds from fun ds => if_neg hneg)
    have hsg : decide (n < 0) = false := decide_eq_false hneg
    go_wp2_with fail
    with_reducible refine (rdigits_any (A1.below hb2) (by omega)).mono ?_
    rintro e w3 ⟨ds, rfl, hds, hb3⟩
    have hde : ds = es := hds.unique (by rw [← HAB.out]; exact HES.out)
    subst hde
    generalize hsd : strOfNums ds = s at *
    have HSD := hide hsd
    clear hsd
    have HF := hide (K1.trans ((below_trans hb2 hb3).mono K1.size))
    clear hb2 hb3 hds
    go_wp2
    go_ret
    exact ⟨congrArg (fun x => Ending.returned (.string x)) (by rw [HWS.out ds, HSD.out]), HF.out⟩

end Go.Proofs.YtgaldbfgmbaebaaDoor

namespace Go.Proofs.YtgaldbfgmbaebaaDoor
open Go.RowKit
set_option linter.unusedVariables false

set_option maxRecDepth 20000 in
set_option maxHeartbeats 2000000 in
theorem cut_yes {w : World} {r : List Int} {s : ByteArray} {N : Nat} (hs : s = strOfNums (45 :: r)) (hN : r.length + 1 = N) (hl : N ≤ 9223372036854775807) :
    Calls Tryd.prog 60 #[.string s, .string ⟨#[45]⟩] w fun e w' => e = .returned (.tuple #[.string (strOfNums r), .bool true]) ∧ w' = w := by
  have hsz : s.size = N := by rw [hs, strOfNums_size]; simpa using hN
  have x1 : s.extract 0 1 = { data := #[45] } := by rw [hs, txt_cut]; rfl
  have x2 : s.extract 1 N = strOfNums r := by rw [hs, txt_cut, List.take_of_length_le (by simp; omega)]; rfl
  have x3 : (({ data := #[45] } : ByteArray) == { data := #[45] }) = true := by decide
  have hN1 : (1 : Int) ≤ (N : Int) := by omega
  have hN2 : 1 ≤ N := by omega
  generalize strOfNums r = t at *
  clear hs hN
  go_enter Tryd.func60, Tryd.ntmps60
  go_wp2
  go_ret2
  exact ⟨rfl, rfl⟩

set_option maxRecDepth 20000 in
set_option maxHeartbeats 2000000 in
theorem cut_no {w : World} {es : List Int} {s : ByteArray} {N : Nat} (hb : Byt es) (hs : s = strOfNums es) (hN : es.length = N) (hl : N ≤ 9223372036854775807) (h : ∀ r, es ≠ 45 :: r) :
    Calls Tryd.prog 60 #[.string s, .string ⟨#[45]⟩] w fun e w' => e = .returned (.tuple #[.string s, .bool false]) ∧ w' = w := by
  have hsz : s.size = N := by rw [hs, strOfNums_size, hN]
  rcases Nat.eq_zero_or_pos N with h0 | h0
  · have hN1 : ¬ (1 : Int) ≤ (N : Int) := by omega
    clear hs hN hb h
    go_enter Tryd.func60, Tryd.ntmps60
    go_wp2
    go_ret2
    exact ⟨rfl, rfl⟩
  · obtain ⟨t, x1⟩ : ∃ t, s.extract 0 1 = t := ⟨_, rfl⟩
    have hne : ¬ t.toList = [45] := by
      rw [← x1, hs, txt_cut]
      cases es with
      | nil => simp at hN; omega
      | cons a r =>
        intro e
        have e2 : (strOfNums [a]).toList = [45] := e
        rw [ByteArray.toList_eq, strOfNums_data] at e2
        have ha := hb a List.mem_cons_self
        have e3 : UInt8.ofNat a.toNat = 45 := by simpa using e2
        have e4 : a = 45 := by
          have := congrArg UInt8.toNat e3
          rw [UInt8.toNat_ofNat'] at this
          have e5 : (45 : UInt8).toNat = 45 := rfl
          omega
        exact h r (by rw [e4])
    have x3 : (t.toList == [45]) = false := by rw [beq_eq_false_iff_ne]; exact hne
    have hN1 : (1 : Int) ≤ (N : Int) := by omega
    have hN2 : 1 ≤ N := by omega
    clear hs hN hb h hne
    go_enter Tryd.func60, Tryd.ntmps60
    go_wp2
    go_ret2
    exact ⟨rfl, rfl⟩

/-- what a text tells: a whole number, or none -/
def Wrd (es : List Int) (b : Bool) (n : Int) : Prop := ∃ ng ds b0 n0, ((ng = true ∧ es = 45 :: ds) ∨ (ng = false ∧ (∀ r, es ≠ 45 :: r) ∧ es = ds)) ∧ Rdv ds b0 n0 ∧ (b = true ↔ b0 = true ∧ ¬ (ng = true ∧ n0 = 0)) ∧ n = if b = true then wn ng n0 else 0
theorem rdv_any (es : List Int) : ∃ b n, Rdv es b n := ⟨@decide (Nmb es ∧ dgv es < Nt.pw 262144) (Classical.propDecidable _), _, @decide_eq_true_iff _ (Classical.propDecidable _), rfl⟩
theorem wrd_any (es : List Int) : ∃ b n, Wrd es b n := by
  by_cases h : ∃ r, es = 45 :: r
  · obtain ⟨r, h⟩ := h
    obtain ⟨b0, n0, h0⟩ := rdv_any r
    exact ⟨@decide (b0 = true ∧ ¬ (true = true ∧ n0 = 0)) (Classical.propDecidable _), _, true, r, b0, n0, .inl ⟨rfl, h⟩, h0, @decide_eq_true_iff _ (Classical.propDecidable _), rfl⟩
  · obtain ⟨b0, n0, h0⟩ := rdv_any es
    exact ⟨@decide (b0 = true ∧ ¬ (false = true ∧ n0 = 0)) (Classical.propDecidable _), _, false, es, b0, n0, .inr ⟨rfl, fun r e => h ⟨r, e⟩, rfl⟩, h0, @decide_eq_true_iff _ (Classical.propDecidable _), rfl⟩
theorem num_len {B : Nat} {w : World} {v : Value} {n : Int} {k : Nat} (h : Num B w v n k) : ∃ a l, v = .slice a l l ∧ (((l : Int) == 0) = decide (n = 0)) := by
  obtain ⟨zs, ⟨ao, h1, _⟩, h2, h3, h4⟩ := h
  refine ⟨ao, zs.length, h1, ?_⟩
  rw [Bool.eq_iff_iff, decide_eq_true_iff, beq_iff_eq]
  constructor
  · intro e
    have : zs = [] := List.eq_nil_of_length_eq_zero (by omega)
    rw [← h3, this, Nt.val_nil]
  · intro e
    rw [(Nt.canon_zero h2).1 (h3.trans e)]; rfl

set_option maxRecDepth 20000 in
set_option maxHeartbeats 4000000 in
theorem wread_core {w : World} {s t : ByteArray} {ng b b0 : Bool} {n n0 : Int} {ds : List Int} (hcut : ∀ w0 : World, Calls Tryd.prog 60 #[.string s, .string ⟨#[45]⟩] w0 fun e w' => e = .returned (.tuple #[.string t, .bool ng]) ∧ w' = w0) (hb : Byt ds) (ht : t = strOfNums ds) (hl : ds.length ≤ 9223372036854775807) (h0 : Rdv ds b0 n0) (hbb : b = true ↔ b0 = true ∧ ¬ (ng = true ∧ n0 = 0)) (hn : n = if b = true then wn ng n0 else 0) :
    Calls Tryd.prog 19 #[.string s] w fun e w' => ∃ v, e = .returned (.tuple #[v, .bool b]) ∧ WNum w.heap.size w' v n 262144 ∧ Below w.heap.size w w' := by
  have K1 := bel_alloc w (.cells #[.bool false, .slice none 0 0] 38)
  have D1 := cell2_new w (.bool false) (.slice none 0 0) 38
  have HD := hide D1
  clear D1
  have lt1 := HD.out.lt
  have HQ := hide (fun w0 : World => qread_any (w := w0) hb ht hl h0)
  have HBB := hide (And.intro hbb hn)
  clear hb ht hl h0 hbb hn
  go_enter Tryd.func19, Tryd.ntmps19
  go_wp2_with fail
  with_reducible refine (hcut _).mono ?_
  clear hcut
  rintro e w2 ⟨rfl, rfl⟩
  go_wp2_with fail
  with_reducible refine (HQ.out _).mono ?_
  rintro e w2 ⟨vn, rfl, hN, hb2⟩
  have hN' := hide hN
  obtain ⟨na, nl, rfl, hz⟩ := num_len hN
  have hn0 := hN.arg.nonneg
  clear hN
  cases b with
  | false =>
    have hbad : b0 = false ∨ (b0 = true ∧ ng = true ∧ n0 = 0) := by
      cases b0 with
      | false => exact .inl rfl
      | true =>
        right
        refine ⟨rfl, ?_⟩
        by_cases c : ng = true ∧ n0 = 0
        · exact c
        · exact absurd (HBB.out.1.2 ⟨rfl, c⟩) (by simp)
    have hnn : n = 0 := by rw [HBB.out.2, if_neg (by decide)]
    subst hnn
    have d0 := (HD.out.below hb2).c0
    have d1 := (HD.out.below hb2).c1
    have g0 := (HD.out.below hb2).f0
    have g1 := (HD.out.below hb2).f1
    have PD := hide ((HD.out.below hb2).put (.bool false) (.slice none 0 0))
    have KB := hide (below_put2 (b := w.heap.size) (K1.trans (hb2.mono (by have := K1.size; omega))) (by omega) (.bool false) (.slice none 0 0))
    rcases hbad with rfl | ⟨rfl, rfl, rfl⟩
    · clear hb2 hz hn0
      go_wp2
      clear d0 d1 g0 g1
      replace PD := PD.out
      replace KB := KB.out
      generalize (w2.setCell ⟨w.heap.size, 0, none⟩ (.bool false)).setCell ⟨w.heap.size, 1, none⟩ (.slice none 0 0) = w9 at *
      (try simp only [Exit.inBlock, Exit.then])
      exact bodyPost_ret (v := .tuple #[.agg #[.bool false, .slice none 0 0], .bool false]) (by simp [results, Tryd.results19, go_sem, PD.c0, PD.c1]) rfl ⟨_, rfl, wnum_zero _ _ _, KB⟩
    · rw [decide_eq_true rfl] at hz
      clear hb2 hn0
      go_wp2
      clear d0 d1 g0 g1
      replace PD := PD.out
      replace KB := KB.out
      generalize (w2.setCell ⟨w.heap.size, 0, none⟩ (.bool false)).setCell ⟨w.heap.size, 1, none⟩ (.slice none 0 0) = w9 at *
      (try simp only [Exit.inBlock, Exit.then])
      exact bodyPost_ret (v := .tuple #[.agg #[.bool false, .slice none 0 0], .bool false]) (by simp [results, Tryd.results19, go_sem, PD.c0, PD.c1]) rfl ⟨_, rfl, wnum_zero _ _ _, KB⟩
  | true =>
    obtain ⟨rfl, hnot⟩ := HBB.out.1.1 rfl
    have hnn : n = wn ng n0 := by rw [HBB.out.2, if_pos rfl]
    cases ng with
    | true =>
      have hz2 : ((nl : Int) == 0) = false := by rw [hz]; exact decide_eq_false (fun c => hnot ⟨rfl, c⟩)
      have HNN := hide (show n = -n0 by rw [hnn]; rfl)
      clear hz hnot hnn
      go_wp2_with fail
      with_reducible refine (number_any hN'.out (by omega)).mono ?_
      rintro e w3 ⟨vr, rfl, hR, hb3⟩
      rw [if_pos rfl, ← HNN.out] at hR
      have K := below_trans hb2 hb3
      clear hb2 hb3 hn0
      obtain ⟨ng', ro, rl, rfl⟩ := hR.told
      have d0 := (HD.out.below K).c0
      have d1 := (HD.out.below K).c1
      have g0 := (HD.out.below K).f0
      have g1 := (HD.out.below K).f1
      have PD := hide ((HD.out.below K).put (.bool ng') (.slice ro rl rl))
      have KB := hide (below_put2 (b := w.heap.size) (K1.trans (K.mono (by have := K1.size; omega))) (by omega) (.bool ng') (.slice ro rl rl))
      have WN := hide (((hR.put lt1 0 (.bool ng')).put lt1 1 (.slice ro rl rl)).low (B' := w.heap.size) (by omega))
      clear hR K
      go_wp2
      clear d0 d1 g0 g1
      replace PD := PD.out
      replace KB := KB.out
      replace WN := WN.out
      generalize (w3.setCell ⟨w.heap.size, 0, none⟩ (.bool ng')).setCell ⟨w.heap.size, 1, none⟩ (.slice ro rl rl) = w9 at *
      (try simp only [Exit.inBlock, Exit.then])
      exact bodyPost_ret (v := .tuple #[.agg #[.bool ng', .slice ro rl rl], .bool true]) (by simp [results, Tryd.results19, go_sem, PD.c0, PD.c1]) rfl ⟨_, rfl, WN, KB⟩
    | false =>
      have HNN := hide (show n = n0 by rw [hnn]; rfl)
      clear hz hnot hnn
      go_wp2_with fail
      with_reducible refine (number_any hN'.out (by omega)).mono ?_
      rintro e w3 ⟨vr, rfl, hR, hb3⟩
      rw [if_neg (by decide), ← HNN.out] at hR
      have K := below_trans hb2 hb3
      clear hb2 hb3 hn0
      obtain ⟨ng', ro, rl, rfl⟩ := hR.told
      have d0 := (HD.out.below K).c0
      have d1 := (HD.out.below K).c1
      have g0 := (HD.out.below K).f0
      have g1 := (HD.out.below K).f1
      have PD := hide ((HD.out.below K).put (.bool ng') (.slice ro rl rl))
      have KB := hide (below_put2 (b := w.heap.size) (K1.trans (K.mono (by have := K1.size; omega))) (by omega) (.bool ng') (.slice ro rl rl))
      have WN := hide (((hR.put lt1 0 (.bool ng')).put lt1 1 (.slice ro rl rl)).low (B' := w.heap.size) (by omega))
      clear hR K
      go_wp2
      clear d0 d1 g0 g1
      replace PD := PD.out
      replace KB := KB.out
      replace WN := WN.out
      generalize (w3.setCell ⟨w.heap.size, 0, none⟩ (.bool ng')).setCell ⟨w.heap.size, 1, none⟩ (.slice ro rl rl) = w9 at *
      (try simp only [Exit.inBlock, Exit.then])
      exact bodyPost_ret (v := .tuple #[.agg #[.bool ng', .slice ro rl rl], .bool true]) (by simp [results, Tryd.results19, go_sem, PD.c0, PD.c1]) rfl ⟨_, rfl, WN, KB⟩

theorem wread_any {w : World} {es : List Int} {s : ByteArray} {b : Bool} {n : Int} (hb : Byt es) (hs : s = strOfNums es) (hl : es.length ≤ 9223372036854775807) (h : Wrd es b n) :
    Calls Tryd.prog 19 #[.string s] w fun e w' => ∃ v, e = .returned (.tuple #[v, .bool b]) ∧ WNum w.heap.size w' v n 262144 ∧ Below w.heap.size w w' := by
  obtain ⟨ng, ds, b0, n0, hc, h0, h1, h2⟩ := h
  rcases hc with ⟨rfl, rfl⟩ | ⟨rfl, hne, rfl⟩
  · exact wread_core (fun w0 => cut_yes hs rfl (by simpa using hl)) (fun x hx => hb x (List.mem_cons_of_mem _ hx)) rfl (by simp at hl; omega) h0 h1 h2
  · exact wread_core (fun w0 => cut_no hb hs rfl hl hne) hb hs hl h0 h1 h2

set_option maxRecDepth 20000 in
set_option maxHeartbeats 4000000 in
theorem r3read_core {w : World} {s : ByteArray} {ng b b0 : Bool} {n n0 : Int} {es ds : List Int} {N : Nat} (hes : Byt es) (hs : s = strOfNums es) (hN : es.length = N) (hlN : N ≤ 9223372036854775807) (hc : (ng = true ∧ es = 45 :: ds) ∨ (ng = false ∧ (∀ r, es ≠ 45 :: r) ∧ es = ds)) (h0 : Rdv ds b0 n0) (hbb : b = true ↔ b0 = true ∧ ¬ (ng = true ∧ n0 = 0)) (hn : n = if b = true then wn ng n0 else 0) :
    Calls Tryd.prog 20 #[.string s] w fun e w' => ∃ v, e = .returned (.tuple #[v, .bool b]) ∧ WNum w.heap.size w' v n 262144 ∧ Below w.heap.size w w' := by
  have hsz : s.size = N := by rw [hs, strOfNums_size, hN]
  have K1 := bel_alloc w (.cells #[.bool false, .slice none 0 0] 38)
  have D1 := cell2_new w (.bool false) (.slice none 0 0) 38
  have HD := hide D1
  clear D1
  have lt1 := HD.out.lt
  have hdb : Byt ds := by
    rcases hc with ⟨_, e⟩ | ⟨_, _, e⟩
    · rw [e] at hes; exact fun x hx => hes x (List.mem_cons_of_mem _ hx)
    · rw [← e]; exact hes
  have hdl : ds.length ≤ 9223372036854775807 := by
    rcases hc with ⟨_, e⟩ | ⟨_, _, e⟩
    · rw [e] at hN; simp at hN; omega
    · rw [← e]; omega
  obtain ⟨t, htd⟩ : ∃ t, t = strOfNums ds := ⟨_, rfl⟩
  have HQ := hide (fun w0 : World => rread_any (w := w0) hdb htd hdl h0)
  have HBB := hide (And.intro hbb hn)
  have HE := hide (And.intro hes (And.intro hs (And.intro htd hN)))
  clear h0 hbb hn hdb hdl hs hes htd hN
  rcases hc with ⟨rfl, hee⟩ | ⟨rfl, hne, hee⟩
  · have hN2 : 0 < N := by have := HE.out.2.2.2; rw [hee] at this; simp at this; omega
    have hN0 : (0 : Int) < (N : Int) := by omega
    have hp0 : 0 < s.size := by omega
    have hx0 : (((s[0]'hp0).toNat : Nat) : Int) = 45 := by
      have h1 := HE.out.2.1
      subst h1
      rw [txt_at hp0 HE.out.1, hee]
      rfl
    have x2 : s.extract 1 N = t := by rw [HE.out.2.1, HE.out.2.2.1, txt_cut, List.take_of_length_le (by rw [HE.out.2.2.2]; omega), hee]; rfl
    have hN1 : 1 ≤ N := by omega
    have hN3 : (1 : Int) ≤ (N : Int) := by omega
    clear hee
    go_enter Tryd.func20, Tryd.ntmps20
    go_wp2_with fail
    clear hx0
    with_reducible refine (HQ.out _).mono ?_
    rintro e w2 ⟨vn, rfl, hN, hb2⟩
    have hN' := hide hN
    obtain ⟨na, nl, rfl, hz⟩ := num_len hN
    have hn0 := hN.arg.nonneg
    clear hN
    obtain ⟨g2, hg2⟩ : ∃ g2, w2.heap.size = g2 := ⟨_, rfl⟩
    have K2 := bel_alloc w2 (.cells #[.bool true, .slice na nl nl] 38)
    have D2 := cell2_new w2 (.bool true) (.slice na nl nl) 38
    have HD2 := hide D2
    have K12 := below_trans hb2 K2
    have e0 := D2.c0
    have e1 := D2.c1
    have d0 := (HD.out.below K12).c0
    have d1 := (HD.out.below K12).c1
    have g0 := (HD.out.below K12).f0
    have g1 := (HD.out.below K12).f1
    clear D2
    cases b with
    | false =>
      have hbad : b0 = false ∨ (b0 = true ∧ true = true ∧ n0 = 0) := by
        cases b0 with
        | false => exact .inl rfl
        | true =>
          right
          refine ⟨rfl, ?_⟩
          by_cases c : true = true ∧ n0 = 0
          · exact c
          · exact absurd (HBB.out.1.2 ⟨rfl, by simpa using c⟩) (by simp)
      have hnn : n = 0 := by rw [HBB.out.2, if_neg (by decide)]
      subst hnn
      have PD := hide ((HD.out.below K12).put (.bool false) (.slice none 0 0))
      have KB := hide (below_put2 (b := w.heap.size) (K1.trans (K12.mono (by have := K1.size; omega))) (by omega) (.bool false) (.slice none 0 0))
      rcases hbad with rfl | ⟨rfl, _, hn00⟩
      · clear hb2 hz hn0 K12 K2
        go_wp2
        clear d0 d1 g0 g1 e0 e1
        replace PD := PD.out
        replace KB := KB.out
        generalize ((w2.alloc (.cells #[.bool true, .slice na nl nl] 38)).setCell ⟨w.heap.size, 0, none⟩ (.bool false)).setCell ⟨w.heap.size, 1, none⟩ (.slice none 0 0) = w9 at *
        (try simp only [Exit.inBlock, Exit.then])
        exact bodyPost_ret (v := .tuple #[.agg #[.bool false, .slice none 0 0], .bool false]) (by simp [results, Tryd.results20, go_sem, PD.c0, PD.c1]) rfl ⟨_, rfl, wnum_zero _ _ _, KB⟩
      · rw [hn00, decide_eq_true rfl] at hz
        clear hb2 hn0 K12 K2
        go_wp2
        clear d0 d1 g0 g1 e0 e1
        replace PD := PD.out
        replace KB := KB.out
        generalize ((w2.alloc (.cells #[.bool true, .slice na nl nl] 38)).setCell ⟨w.heap.size, 0, none⟩ (.bool false)).setCell ⟨w.heap.size, 1, none⟩ (.slice none 0 0) = w9 at *
        (try simp only [Exit.inBlock, Exit.then])
        exact bodyPost_ret (v := .tuple #[.agg #[.bool false, .slice none 0 0], .bool false]) (by simp [results, Tryd.results20, go_sem, PD.c0, PD.c1]) rfl ⟨_, rfl, wnum_zero _ _ _, KB⟩
    | true =>
      obtain ⟨rfl, hnot⟩ := HBB.out.1.1 rfl
      have hnn : n = wn true n0 := by rw [HBB.out.2, if_pos rfl]
      have hz2 : ((nl : Int) == 0) = false := by rw [hz]; exact decide_eq_false (fun c => hnot (by simp [c]))
      have hpos : 0 < n0 := by
        rcases Int.lt_or_le 0 n0 with c | c
        · exact c
        · exact absurd (by simp; omega) hnot
      have HWN := hide (show WNum (w.alloc (.cells #[.bool false, .slice none 0 0] 38)).heap.size (w2.alloc (.cells #[.bool true, .slice na nl nl] 38)) (.agg #[.bool true, .slice na nl nl]) n 262144 from ⟨true, _, n0, rfl, hN'.out.below K2, hnn, fun _ => hpos⟩)
      have PD := hide ((HD.out.below K12).put (.bool true) (.slice na nl nl))
      have KB := hide (below_put2 (b := w.heap.size) (K1.trans (K12.mono (by have := K1.size; omega))) (by omega) (.bool true) (.slice na nl nl))
      have WN := hide (((HWN.out.put lt1 0 (.bool true)).put lt1 1 (.slice na nl nl)).low (B' := w.heap.size) (by omega))
      clear hb2 hz hn0 K12 K2 hnot hnn
      go_wp2
      clear d0 d1 g0 g1 e0 e1
      replace PD := PD.out
      replace KB := KB.out
      replace WN := WN.out
      generalize ((w2.alloc (.cells #[.bool true, .slice na nl nl] 38)).setCell ⟨w.heap.size, 0, none⟩ (.bool true)).setCell ⟨w.heap.size, 1, none⟩ (.slice na nl nl) = w9 at *
      (try simp only [Exit.inBlock, Exit.then])
      exact bodyPost_ret (v := .tuple #[.agg #[.bool true, .slice na nl nl], .bool true]) (by simp [results, Tryd.results20, go_sem, PD.c0, PD.c1]) rfl ⟨_, rfl, WN, KB⟩
  · have hst : s = t := by rw [HE.out.2.1, HE.out.2.2.1, hee]
    rcases Nat.eq_zero_or_pos N with h0 | h0
    · have hN0 : ¬ (0 : Int) < (N : Int) := by omega
      clear hee hne
      subst hst
      go_enter Tryd.func20, Tryd.ntmps20
      go_wp2_with fail
      with_reducible refine (HQ.out _).mono ?_
      rintro e w2 ⟨vn, rfl, hN, hb2⟩
      have hN' := hide hN
      obtain ⟨na, nl, rfl, hz⟩ := num_len hN
      have hn0 := hN.arg.nonneg
      clear hN
      obtain ⟨g2, hg2⟩ : ∃ g2, w2.heap.size = g2 := ⟨_, rfl⟩
      have K2 := bel_alloc w2 (.cells #[.bool false, .slice na nl nl] 38)
      have D2 := cell2_new w2 (.bool false) (.slice na nl nl) 38
      have HD2 := hide D2
      have K12 := below_trans hb2 K2
      have e0 := D2.c0
      have e1 := D2.c1
      have d0 := (HD.out.below K12).c0
      have d1 := (HD.out.below K12).c1
      have g0 := (HD.out.below K12).f0
      have g1 := (HD.out.below K12).f1
      clear D2
      cases b with
      | false =>
        have hbad : b0 = false ∨ (b0 = true ∧ false = true ∧ n0 = 0) := by
          cases b0 with
          | false => exact .inl rfl
          | true =>
            right
            refine ⟨rfl, ?_⟩
            by_cases c : false = true ∧ n0 = 0
            · exact c
            · exact absurd (HBB.out.1.2 ⟨rfl, c⟩) (by simp)
        have hnn : n = 0 := by rw [HBB.out.2, if_neg (by decide)]
        subst hnn
        have PD := hide ((HD.out.below K12).put (.bool false) (.slice none 0 0))
        have KB := hide (below_put2 (b := w.heap.size) (K1.trans (K12.mono (by have := K1.size; omega))) (by omega) (.bool false) (.slice none 0 0))
        rcases hbad with rfl | ⟨rfl, hf, hn00⟩
        · clear hb2 hz hn0 K12 K2
          go_wp2
          clear d0 d1 g0 g1 e0 e1
          replace PD := PD.out
          replace KB := KB.out
          generalize ((w2.alloc (.cells #[.bool false, .slice na nl nl] 38)).setCell ⟨w.heap.size, 0, none⟩ (.bool false)).setCell ⟨w.heap.size, 1, none⟩ (.slice none 0 0) = w9 at *
          (try simp only [Exit.inBlock, Exit.then])
          exact bodyPost_ret (v := .tuple #[.agg #[.bool false, .slice none 0 0], .bool false]) (by simp [results, Tryd.results20, go_sem, PD.c0, PD.c1]) rfl ⟨_, rfl, wnum_zero _ _ _, KB⟩
        · exact absurd hf (by decide)
      | true =>
        obtain ⟨rfl, hnot⟩ := HBB.out.1.1 rfl
        have hnn : n = wn false n0 := by rw [HBB.out.2, if_pos rfl]
        have HWN := hide (show WNum (w.alloc (.cells #[.bool false, .slice none 0 0] 38)).heap.size (w2.alloc (.cells #[.bool false, .slice na nl nl] 38)) (.agg #[.bool false, .slice na nl nl]) n 262144 from ⟨false, _, n0, rfl, hN'.out.below K2, hnn, fun c => absurd c (by decide)⟩)
        have PD := hide ((HD.out.below K12).put (.bool false) (.slice na nl nl))
        have KB := hide (below_put2 (b := w.heap.size) (K1.trans (K12.mono (by have := K1.size; omega))) (by omega) (.bool false) (.slice na nl nl))
        have WN := hide (((HWN.out.put lt1 0 (.bool false)).put lt1 1 (.slice na nl nl)).low (B' := w.heap.size) (by omega))
        clear hb2 hz hn0 K12 K2 hnot hnn
        go_wp2
        clear d0 d1 g0 g1 e0 e1
        replace PD := PD.out
        replace KB := KB.out
        replace WN := WN.out
        generalize ((w2.alloc (.cells #[.bool false, .slice na nl nl] 38)).setCell ⟨w.heap.size, 0, none⟩ (.bool false)).setCell ⟨w.heap.size, 1, none⟩ (.slice na nl nl) = w9 at *
        (try simp only [Exit.inBlock, Exit.then])
        exact bodyPost_ret (v := .tuple #[.agg #[.bool false, .slice na nl nl], .bool true]) (by simp [results, Tryd.results20, go_sem, PD.c0, PD.c1]) rfl ⟨_, rfl, WN, KB⟩
    · have hN0 : (0 : Int) < (N : Int) := by omega
      have hp0 : 0 < s.size := by omega
      have hx0 : (((s[0]'hp0).toNat : Nat) : Int) = Nt.lb es 0 := by
        have h1 := HE.out.2.1
        subst h1
        exact txt_at hp0 HE.out.1
      have hz0 : (Nt.lb es 0 == 45) = false := by
        rw [beq_eq_false_iff_ne]
        intro e
        have hl := HE.out.2.2.2
        cases es with
        | nil => simp at hl; omega
        | cons a r => exact hne r (by have : a = 45 := by simpa [Nt.lb] using e
                                      rw [this])
      obtain ⟨c0, hc0⟩ : ∃ c, Nt.lb es 0 = c := ⟨_, rfl⟩
      rw [hc0] at hx0 hz0
      clear hee hne hc0
      subst hst
      go_enter Tryd.func20, Tryd.ntmps20
      go_wp2_with fail
      clear hx0 hz0
      with_reducible refine (HQ.out _).mono ?_
      rintro e w2 ⟨vn, rfl, hN, hb2⟩
      have hN' := hide hN
      obtain ⟨na, nl, rfl, hz⟩ := num_len hN
      have hn0 := hN.arg.nonneg
      clear hN
      obtain ⟨g2, hg2⟩ : ∃ g2, w2.heap.size = g2 := ⟨_, rfl⟩
      have K2 := bel_alloc w2 (.cells #[.bool false, .slice na nl nl] 38)
      have D2 := cell2_new w2 (.bool false) (.slice na nl nl) 38
      have HD2 := hide D2
      have K12 := below_trans hb2 K2
      have e0 := D2.c0
      have e1 := D2.c1
      have d0 := (HD.out.below K12).c0
      have d1 := (HD.out.below K12).c1
      have g0 := (HD.out.below K12).f0
      have g1 := (HD.out.below K12).f1
      clear D2
      cases b with
      | false =>
        have hbad : b0 = false ∨ (b0 = true ∧ false = true ∧ n0 = 0) := by
          cases b0 with
          | false => exact .inl rfl
          | true =>
            right
            refine ⟨rfl, ?_⟩
            by_cases c : false = true ∧ n0 = 0
            · exact c
            · exact absurd (HBB.out.1.2 ⟨rfl, c⟩) (by simp)
        have hnn : n = 0 := by rw [HBB.out.2, if_neg (by decide)]
        subst hnn
        have PD := hide ((HD.out.below K12).put (.bool false) (.slice none 0 0))
        have KB := hide (below_put2 (b := w.heap.size) (K1.trans (K12.mono (by have := K1.size; omega))) (by omega) (.bool false) (.slice none 0 0))
        rcases hbad with rfl | ⟨rfl, hf, hn00⟩
        · clear hb2 hz hn0 K12 K2
          go_wp2
          clear d0 d1 g0 g1 e0 e1
          replace PD := PD.out
          replace KB := KB.out
          generalize ((w2.alloc (.cells #[.bool false, .slice na nl nl] 38)).setCell ⟨w.heap.size, 0, none⟩ (.bool false)).setCell ⟨w.heap.size, 1, none⟩ (.slice none 0 0) = w9 at *
          (try simp only [Exit.inBlock, Exit.then])
          exact bodyPost_ret (v := .tuple #[.agg #[.bool false, .slice none 0 0], .bool false]) (by simp [results, Tryd.results20, go_sem, PD.c0, PD.c1]) rfl ⟨_, rfl, wnum_zero _ _ _, KB⟩
        · exact absurd hf (by decide)
      | true =>
        obtain ⟨rfl, hnot⟩ := HBB.out.1.1 rfl
        have hnn : n = wn false n0 := by rw [HBB.out.2, if_pos rfl]
        have HWN := hide (show WNum (w.alloc (.cells #[.bool false, .slice none 0 0] 38)).heap.size (w2.alloc (.cells #[.bool false, .slice na nl nl] 38)) (.agg #[.bool false, .slice na nl nl]) n 262144 from ⟨false, _, n0, rfl, hN'.out.below K2, hnn, fun c => absurd c (by decide)⟩)
        have PD := hide ((HD.out.below K12).put (.bool false) (.slice na nl nl))
        have KB := hide (below_put2 (b := w.heap.size) (K1.trans (K12.mono (by have := K1.size; omega))) (by omega) (.bool false) (.slice na nl nl))
        have WN := hide (((HWN.out.put lt1 0 (.bool false)).put lt1 1 (.slice na nl nl)).low (B' := w.heap.size) (by omega))
        clear hb2 hz hn0 K12 K2 hnot hnn
        go_wp2
        clear d0 d1 g0 g1 e0 e1
        replace PD := PD.out
        replace KB := KB.out
        replace WN := WN.out
        generalize ((w2.alloc (.cells #[.bool false, .slice na nl nl] 38)).setCell ⟨w.heap.size, 0, none⟩ (.bool false)).setCell ⟨w.heap.size, 1, none⟩ (.slice na nl nl) = w9 at *
        (try simp only [Exit.inBlock, Exit.then])
        exact bodyPost_ret (v := .tuple #[.agg #[.bool false, .slice na nl nl], .bool true]) (by simp [results, Tryd.results20, go_sem, PD.c0, PD.c1]) rfl ⟨_, rfl, WN, KB⟩

theorem r3read_any {w : World} {es : List Int} {s : ByteArray} {b : Bool} {n : Int} (hb : Byt es) (hs : s = strOfNums es) (hl : es.length ≤ 9223372036854775807) (h : Wrd es b n) :
    Calls Tryd.prog 20 #[.string s] w fun e w' => ∃ v, e = .returned (.tuple #[v, .bool b]) ∧ WNum w.heap.size w' v n 262144 ∧ Below w.heap.size w w' := by
  obtain ⟨ng, ds, b0, n0, hc, h0, h1, h2⟩ := h
  exact r3read_core hb hs rfl hl hc h0 h1 h2

end Go.Proofs.YtgaldbfgmbaebaaDoor

namespace Go.Proofs.YtgaldbfgmbaebaaDoor
open Go.RowKit
set_option linter.unusedVariables false

theorem beyond_w1 {w : World} {g : Nat} {a0 : Option Addr} {l0 c0 : Nat} (hg : g < w.heap.size) (j0 : l0 ≤ 70368744177664) (h0 : w.cell? ⟨g, 1, none⟩ = some (.slice a0 l0 c0)) :
    Calls Tryd.prog 17 #[.slice (some ⟨g, 0, none⟩) 1 1] w fun e w' => e = .returned (.bool (decide (1048576 < 1 + l0))) ∧ Below w.heap.size w w' := by
  refine (wbeyond_any (ls := [l0]) (by simp) (fun i => ?_) hg (fun i hi => ?_)).mono ?_
  · match i with
    | 0 => simpa using j0
    | i + 1 => simp
  · match i, hi with
    | 0, _ => exact ⟨_, _, h0⟩
  · rintro e w' ⟨rfl, hb⟩
    refine ⟨?_, hb⟩
    congr 2
    apply decide_eq_decide.2
    constructor
    · rintro ⟨i, hi, h⟩
      match i, hi, h with
      | 0, _, h => exact h
    · intro h
      rcases h with h
      · exact ⟨0, by simp, h⟩

theorem dgv_one' (a : Int) : dgv [a] = a - 48 := dg_one a
theorem sgn_self' (n : Int) : sgn n n = 0 := by unfold sgn; simp
theorem back_text {N : Int} {ds : List Int} (hds : Dstr (wab N) ds) (hdl : ds.length ≤ 10200000) (hlt : wab N < Nt.pw 2000) : ∃ es0 s0, Byt es0 ∧ wst N ds = s0 ∧ s0 = strOfNums es0 ∧ s0.size = es0.length ∧ es0.length ≤ 10200001 ∧ Wrd es0 true N ∧ (if N < 0 then es0 = 45 :: ds else es0 = ds) := by
  have hp : wab N < Nt.pw 262144 := Int.lt_of_lt_of_le hlt (Nt.pw_mono (by omega))
  have hr : ∀ b0 : Bool, b0 = true → Rdv ds b0 (wab N) := fun b0 h => ⟨⟨fun _ => ⟨⟨hds.2.1, hds.1, hds.2.2.1⟩, by rw [hds.2.2.2]; exact hp⟩, fun _ => h⟩, by rw [if_pos h, hds.2.2.2]⟩
  by_cases hn : N < 0
  · have ha : wab N = -N := by unfold wab; rw [if_pos hn]
    refine ⟨45 :: ds, _, fun x hx => ?_, rfl, ?_, ?_, by simp; omega, ⟨true, ds, true, wab N, .inl ⟨rfl, rfl⟩, hr true rfl, ⟨fun _ => ⟨rfl, fun c => by have := c.2; omega⟩, fun _ => rfl⟩, ?_⟩, by rw [if_pos hn]⟩
    · rcases List.mem_cons.1 hx with c | c
      · omega
      · exact hds.1.byt x c
    · unfold wst
      rw [if_pos hn, show (⟨#[45]⟩ : ByteArray) = strOfNums [45] from rfl, txt_join]; rfl
    · unfold wst
      rw [if_pos hn, show (⟨#[45]⟩ : ByteArray) = strOfNums [45] from rfl, txt_join, strOfNums_size]; rfl
    · rw [if_pos rfl, ha]; unfold wn; simp
  · have ha : wab N = N := by unfold wab; rw [if_neg hn]
    refine ⟨ds, _, hds.1.byt, rfl, ?_, ?_, by omega, ⟨false, ds, true, wab N, .inr ⟨rfl, fun r e => ?_, rfl⟩, hr true rfl, ⟨fun _ => ⟨rfl, fun c => absurd c.1 (by decide)⟩, fun _ => rfl⟩, ?_⟩, by rw [if_neg hn]⟩
    · unfold wst; rw [if_neg hn]
    · unfold wst; rw [if_neg hn, strOfNums_size]
    · have := hds.1 45 (by rw [e]; exact List.mem_cons_self)
      omega
    · rw [if_pos rfl, ha]; rfl

theorem back_show {es ds : List Int} {n : Int} {s : ByteArray} (h : Wrd es true n) (hd : Dstr (wab n) ds) (hs : s = strOfNums es) : wst n ds = s := by
  obtain ⟨ng, ds', b0, n0, hc, h0, h1, h2⟩ := h
  obtain ⟨hb0, hnot⟩ := h1.1 rfl
  subst hb0
  rw [if_pos rfl] at h2
  have hn0 : n0 = dgv ds' := by rw [h0.2, if_pos rfl]
  have hnm := (h0.1.1 rfl).1
  have hpos : 0 ≤ n0 := by rw [hn0]; exact (dg_range hnm.2.1).1
  have hdd : Dstr n0 ds' := ⟨hnm.2.1, hnm.1, hnm.2.2, hn0.symm⟩
  have hab : wab n = n0 := wab_wn h2 hpos
  rw [hab] at hd
  have hde := hd.unique hdd
  subst hde
  unfold wst
  rcases hc with ⟨rfl, rfl⟩ | ⟨rfl, _, rfl⟩
  · have hlt : n < 0 := by
      have : n = -n0 := by rw [h2]; rfl
      rcases Int.lt_or_le 0 n0 with c | c
      · omega
      · exact absurd ⟨rfl, by omega⟩ hnot
    rw [if_pos hlt, hs, show (⟨#[45]⟩ : ByteArray) = strOfNums [45] from rfl, txt_join]; rfl
  · have : n = n0 := by rw [h2]; rfl
    rw [if_neg (by omega), hs]
theorem Dstr.more' {A x : Int} {ds : List Int} (h : Dstr A ds) (hA : A ≠ 0) (x0 : 0 ≤ x) (x9 : x ≤ 9) : Dstr (A * 10 + x) (ds ++ [48 + x]) := by
  obtain ⟨h1, h2, h3, h4⟩ := h
  refine ⟨h1.append (fun y hy => by simp at hy; omega), by simp, .inl ?_, by rw [dg_snoc, h4]; omega⟩
  rcases h3 with c | c
  · rw [lb_append_left h2]; exact c
  · exfalso
    rw [c, dg_one] at h4; omega
theorem back_neg {N x : Int} {ds dsn : List Int} (hN : N < 0) (h : Dstr (wab N) ds) (x0 : 0 ≤ x) (x9 : x ≤ 9) (hn : Dstr (wab (N * 10 + -x)) dsn) : wst (N * 10 + -x) dsn = wst N ds ++ strOfNums [48 + x] := by
  have h1 : wab N = -N := by unfold wab; rw [if_pos hN]
  have h2 : wab (N * 10 + -x) = wab N * 10 + x := by rw [h1]; unfold wab; rw [if_pos (by omega)]; omega
  rw [h2] at hn
  rw [hn.unique (h.more' (by omega) x0 x9)]
  unfold wst
  rw [if_pos hN, if_pos (by omega), show (⟨#[45]⟩ : ByteArray) = strOfNums [45] from rfl, txt_join, txt_join, txt_join]
  rfl
theorem back_pos {N x : Int} {ds dsn : List Int} (hN : 0 < N) (h : Dstr (wab N) ds) (x0 : 0 ≤ x) (x9 : x ≤ 9) (hn : Dstr (wab (N * 10 + x)) dsn) : wst (N * 10 + x) dsn = wst N ds ++ strOfNums [48 + x] := by
  have h1 : wab N = N := by unfold wab; rw [if_neg (by omega)]
  have h2 : wab (N * 10 + x) = wab N * 10 + x := by rw [h1]; unfold wab; rw [if_neg (by omega)]
  rw [h2] at hn
  rw [hn.unique (h.more' (by omega) x0 x9)]
  unfold wst
  rw [if_neg (by omega), if_neg (by omega), txt_join]
theorem row_b (w : World) (x : Int) : Row .u8 5 (w.alloc (.cells #[.int .u8 x] 5)) w.heap.size [x] := by
  unfold Row
  rw [heap_alloc_new]
  rfl


end Go.Proofs.YtgaldbfgmbaebaaDoor
