/- crucibleref03: Norm, below, Int64, Uint64, From; the laws' copies -/
import Derived.Test.YtllddhiflnfhaaaDoorWKit
import Derived.Test.YtllddhiflnfhaaaDoorRefA
import Derived.Test.YtllddhiflnfhaaaDoorTwin
namespace Go.Proofs.YtllddhiflnfhaaaDoor
open Go.RowKit

set_option maxRecDepth 20000 in
set_option maxHeartbeats 4000000 in
theorem r3norm_any {w : World} {v1 : Value} {n1 : Int} {k1 : Nat} (h1 : WArg w v1 n1 k1) (j1 : k1 ≤ 1099511627776) :
    Calls Tryd.prog 91 #[v1] w fun e w' => ∃ v, e = .returned v ∧ WNum w.heap.size w' v n1 k1 ∧ Below w.heap.size w w' := by
  obtain ⟨neg1, m1, a1, rfl, ha, hn1⟩ := h1
  have A1 := ha
  have N1 := ha.nonneg
  obtain ⟨zs1, ⟨ao1, cap1, rfl, -⟩, -⟩ := ha
  have Hn := hide hn1
  clear hn1
  have K1 : Below w.heap.size w ((w.alloc (.cells #[.bool neg1, .slice ao1 zs1.length cap1] 38)).alloc (.cells #[.bool false, .slice none 0 0] 38)) := below_trans (bel_alloc _ _) (bel_alloc _ _)
  have C1 := (cell2_new w (.bool neg1) (.slice ao1 zs1.length cap1) 38).alloc (.cells #[.bool false, .slice none 0 0] 38)
  have D1 := (after2 (Below.refl _ ((w.alloc (.cells #[.bool neg1, .slice ao1 zs1.length cap1] 38)).alloc (.cells #[.bool false, .slice none 0 0] 38)))).2
  replace A1 := A1.below K1
  have HC := hide C1
  have HD := hide D1
  have lt1 := D1.lt
  clear C1 D1
  go_enter Tryd.func91, Tryd.ntmps91
  go_wp2_with fail
  with_reducible refine (rnorm_any A1 j1).mono ?_
  rintro e w2 ⟨vn, rfl, hN, K⟩
  have d0 := (HD.out.below K).c0
  have d1 := (HD.out.below K).c1
  have g0 := (HD.out.below K).f0
  have g1 := (HD.out.below K).f1
  have p0 := (HC.out.below K).c0
  have hN' := hN
  obtain ⟨xs, ⟨ro, rfl, hm, _⟩, hc, hv, _⟩ := hN
  have hp : (0 : Int) < (xs.length : Int) ↔ 0 < a1 := by
    constructor
    · intro h0
      rcases Int.lt_or_eq_of_le N1 with h2 | h2
      · exact h2
      · have h3 := Nt.canon_unique hc Nt.canon_nil (by rw [hv, ← h2]; rfl)
        rw [h3] at h0; simp at h0
    · intro h0
      rcases Nat.eq_zero_or_pos xs.length with h1 | h1
      · rw [List.eq_nil_of_length_eq_zero h1] at hv
        have : Nt.val [] = 0 := rfl
        omega
      · omega
  unfold maxLen at hm
  have h63 : (xs.length : Int) ≤ 9223372036854775807 := by omega
  have Hp := hide hp
  clear hp hc hv
  cases neg1
  · go_wp2
    have PD := (HD.out.below K).put (.bool false) (.slice ro xs.length xs.length)
    have KB := below_put2 (b := w.heap.size + 1) (K1.trans (K.mono (by have := K1.size; omega))) (by omega) (.bool false) (.slice ro xs.length xs.length)
    have WN : WNum w.heap.size ((w2.setCell ⟨w.heap.size + 1, 0, none⟩ (.bool false)).setCell ⟨w.heap.size + 1, 1, none⟩ (.slice ro xs.length xs.length)) (.agg #[.bool false, .slice ro xs.length xs.length]) n1 k1 := ⟨_, _, a1, rfl, num_low ((hN'.put lt1 0 _).put lt1 1 _) K1.size, Hn.out, fun h => by cases h⟩
    clear d0 d1 g0 g1 p0 hN' K K1 HD HC
    generalize (w2.setCell ⟨w.heap.size + 1, 0, none⟩ (.bool false)).setCell ⟨w.heap.size + 1, 1, none⟩ (.slice ro xs.length xs.length) = w9 at *
    (try simp only [Exit.inBlock, Exit.then])
    exact bodyPost_ret (v := .agg #[.bool false, .slice ro xs.length xs.length]) (by simp [results, Tryd.results91, go_sem, PD.c0, PD.c1]) rfl ⟨_, rfl, WN, KB⟩
  · obtain ⟨bb, hbb⟩ : ∃ bb, bb = decide ((0 : Int) < (xs.length : Int)) := ⟨_, rfl⟩
    have hb2 : decide (0 < xs.length) = bb := by rw [hbb]; exact decide_eq_decide.2 (by omega)
    have hval : n1 = wn bb a1 ∧ (bb = true → 0 < a1) := by
      have h1 := Hp.out
      have h2 := Hn.out
      by_cases h0 : 0 < a1
      · have : bb = true := by rw [hbb]; exact decide_eq_true (h1.2 h0)
        subst this; exact ⟨h2, fun _ => h0⟩
      · have : bb = false := by rw [hbb]; exact decide_eq_false (fun h => h0 (h1.1 h))
        subst this
        refine ⟨?_, fun h => by cases h⟩
        unfold wn at *; simp at h2 ⊢; omega
    have Hval := hide hval
    have hb3 := hbb.symm
    clear hval hbb Hp
    go_wp2
    have PD := (HD.out.below K).put (.bool bb) (.slice ro xs.length xs.length)
    have KB := below_put2 (b := w.heap.size + 1) (K1.trans (K.mono (by have := K1.size; omega))) (by omega) (.bool bb) (.slice ro xs.length xs.length)
    have WN : WNum w.heap.size ((w2.setCell ⟨w.heap.size + 1, 0, none⟩ (.bool bb)).setCell ⟨w.heap.size + 1, 1, none⟩ (.slice ro xs.length xs.length)) (.agg #[.bool bb, .slice ro xs.length xs.length]) n1 k1 := ⟨_, _, a1, rfl, num_low ((hN'.put lt1 0 _).put lt1 1 _) K1.size, Hval.out.1, Hval.out.2⟩
    clear d0 d1 g0 g1 p0 hN' K K1 HD HC
    generalize (w2.setCell ⟨w.heap.size + 1, 0, none⟩ (.bool bb)).setCell ⟨w.heap.size + 1, 1, none⟩ (.slice ro xs.length xs.length) = w9 at *
    (try simp only [Exit.inBlock, Exit.then])
    exact bodyPost_ret (v := .agg #[.bool bb, .slice ro xs.length xs.length]) (by simp [results, Tryd.results91, go_sem, PD.c0, PD.c1]) rfl ⟨_, rfl, WN, KB⟩

theorem field0_int (z : Bool) (m : Value) (w : World) : (Instr.field 38 (.agg #[.bool z, m]) 0).run Tryd.prog w = .ok (.bool z) w := by
  kernel_rfl

set_option maxRecDepth 20000 in
set_option maxHeartbeats 4000000 in
theorem r3below_any {w : World} {v1 : Value} {n1 : Int} {k1 : Nat} (h1 : WArg w v1 n1 k1) (j1 : k1 ≤ 1099511627776) :
    Calls Tryd.prog 64 #[v1] w fun e w' => e = .returned (.bool (decide (n1 < 0))) ∧ Below w.heap.size w w' := by
  have h1' := h1
  obtain ⟨neg1, m1, a1, rfl, ha, hn1⟩ := h1
  obtain ⟨zs1, ⟨ao1, cap1, rfl, -⟩, -⟩ := ha
  have K1 : Below w.heap.size w (w.alloc (.cells #[.bool neg1, .slice ao1 zs1.length cap1] 38)) := bel_alloc _ _
  have H1 := hide (h1'.below K1)
  clear h1' hn1
  go_enter Tryd.func64, Tryd.ntmps64
  go_wp2_with fail
  with_reducible refine (r3norm_any H1.out j1).mono ?_
  rintro e w2 ⟨vn, rfl, hN, K⟩
  obtain ⟨ng, ro, rl, rfl⟩ := hN.told
  have hs := hN.sign
  have hd : decide (n1 < 0) = ng := by
    cases ng
    · exact decide_eq_false (by have := hs.2 rfl; omega)
    · exact decide_eq_true (hs.1 rfl)
  have KB := K1.trans (K.mono K1.size)
  have Hd := hide hd
  clear hs hd hN K K1 H1
  have hfld : (Instr.field 38 (.agg #[.bool ng, .slice ro rl rl]) 0).run Tryd.prog w2 = .ok (.bool ng) w2 := field0_int _ _ _
  go_wp2
  go_ret
  exact ⟨by rw [Hd.out]; rfl, KB⟩

set_option maxRecDepth 20000 in
set_option maxHeartbeats 4000000 in
theorem wtwin_any {w : World} {m : Value} {ng : Bool} {xs : List Int} (ha : Reads .u32 w m xs) (hl : xs.length ≤ 1099511627776) :
    Calls Tryd.prog 18 #[.agg #[.bool ng, m]] w fun e w' => ∃ g, e = .returned (.agg #[.bool ng, .slice (some ⟨g, 0, none⟩) xs.length (xs.length + 1)]) ∧ Twin w.heap.size w' (.slice (some ⟨g, 0, none⟩) xs.length (xs.length + 1)) xs ∧ Below w.heap.size w w' := by
  have R1 := ha
  obtain ⟨ao, cap, rfl, -⟩ := ha
  have K1 : Below w.heap.size w ((w.alloc (.cells #[.bool ng, .slice ao xs.length cap] 38)).alloc (.cells #[.bool false, .slice none 0 0] 38)) := below_trans (bel_alloc _ _) (bel_alloc _ _)
  have C1 := (cell2_new w (.bool ng) (.slice ao xs.length cap) 38).alloc (.cells #[.bool false, .slice none 0 0] 38)
  have D1 := (after2 (Below.refl _ ((w.alloc (.cells #[.bool ng, .slice ao xs.length cap] 38)).alloc (.cells #[.bool false, .slice none 0 0] 38)))).2
  replace R1 := R1.below K1
  have HC := hide C1
  have HD := hide D1
  have lt1 := D1.lt
  have p0 := C1.c0
  have p1 := C1.c1
  clear C1 D1
  go_enter Tryd.func18, Tryd.ntmps18
  go_upto_region 1 with fail
  generalize (w.alloc (.cells #[.bool ng, .slice ao xs.length cap] 38)).alloc (.cells #[.bool false, .slice none 0 0] 38) = w1 at *
  have K : Below w1.heap.size w1 w1.drew := (Below.refl _ _).drew
  go_region_held3 (fun w' => w'.cell? ⟨w.heap.size, 0, none⟩ = some (.bool ng) ∧ w'.cell? ⟨w.heap.size, 1, none⟩ = some (.slice ao xs.length cap))
    (first
      | with_reducible exact ⟨(HC.out.below K).c0, (HC.out.below K).c1⟩
      | with_reducible exact ⟨((HC.out.below K).away (by omega) _ _).c0, ((HC.out.below K).away (by omega) _ _).c1⟩
      | go_keep)
    (first
      | (go_at_call 8; (with_reducible refine (twin_any (R1.below K) hl).mono ?_); rintro e w2 ⟨vt, rfl, hT, hb⟩; have kl := K.size; replace K := below_trans K hb; obtain ⟨g, rfl, hg, hm, hrow⟩ := hT; have d0 := (HD.out.below K).c0; have d1 := (HD.out.below K).c1; have g0 := (HD.out.below K).f0; have g1 := (HD.out.below K).f1))
  all_goals go_wp2
  all_goals
    have PD := (HD.out.below K).put (.bool ng) (.slice (some ⟨g, 0, none⟩) xs.length (xs.length + 1))
    have KB := below_put2 (b := w.heap.size + 1) (K1.trans (K.mono (by have := K1.size; omega))) (by omega) (.bool ng) (.slice (some ⟨g, 0, none⟩) xs.length (xs.length + 1))
    have hne : g ≠ w.heap.size + 1 := by omega
    have TW : Twin w.heap.size ((w2.setCell ⟨w.heap.size + 1, 0, none⟩ (.bool ng)).setCell ⟨w.heap.size + 1, 1, none⟩ (.slice (some ⟨g, 0, none⟩) xs.length (xs.length + 1))) (.slice (some ⟨g, 0, none⟩) xs.length (xs.length + 1)) xs := by
      refine ⟨g, rfl, by omega, hm, ?_⟩
      unfold Row
      rw [Below.heap_setCell _ _ _ _ (by show g ≠ w.heap.size + 1; exact hne), Below.heap_setCell _ _ _ _ (by show g ≠ w.heap.size + 1; exact hne)]
      exact hrow
    clear d0 d1 g0 g1 K K1 HD HC p0 p1 hrow R1
    generalize (w2.setCell ⟨w.heap.size + 1, 0, none⟩ (.bool ng)).setCell ⟨w.heap.size + 1, 1, none⟩ (.slice (some ⟨g, 0, none⟩) xs.length (xs.length + 1)) = w9 at *
    (try simp only [Exit.inBlock, Exit.then])
    exact bodyPost_ret (v := .agg #[.bool ng, .slice (some ⟨g, 0, none⟩) xs.length (xs.length + 1)]) (by simp [results, Tryd.results18, go_sem, PD.c0, PD.c1]) rfl ⟨_, rfl, TW, KB⟩

theorem reads_one {k : IntKind} {w : World} {v : Value} {xs ys : List Int} (h1 : Reads k w v xs) (h2 : Reads k w v ys) : xs = ys := by
  obtain ⟨ao, cap, rfl, _, _, hc⟩ := h1
  obtain ⟨bo, cap', e, _, _, hd⟩ := h2
  injection e with e1 e2 e3
  subst e1
  refine Nt.ext_lb e2 (fun i hi => ?_)
  obtain ⟨b, off, h3, _, h4⟩ := hc (by omega)
  obtain ⟨b', off', h5, _, h6⟩ := hd (by omega)
  rw [h3] at h5
  injection h5 with h5
  injection h5 with h5 h7
  subst h5 h7
  have h8 := h4 i hi
  rw [h6 i (by omega)] at h8
  injection h8 with h8
  injection h8 with _ h8
  exact h8.symm
/-- a copy is the same number -/
theorem twin_arg3 {w w2 : World} {ng : Bool} {m vt : Value} {n : Int} {k B : Nat} {xs : List Int} (h : WArg w (.agg #[.bool ng, m]) n k) (hr : Reads .u32 w m xs) (ht : Twin B w2 vt xs) : WArg w2 (.agg #[.bool ng, vt]) n k := by
  obtain ⟨neg, m', a, e, ⟨ys, h1, h2, h3, h4⟩, h5⟩ := h
  simp at e
  obtain ⟨rfl, rfl⟩ := e
  obtain rfl := reads_one h1 hr
  exact ⟨_, _, a, rfl, ⟨_, ht.reads, h2, h3, h4⟩, h5⟩

set_option maxHeartbeats 1000000 in
theorem wleft_any {w : World} {va vb : Value} {ng : Bool} {xs : List Int} {B : Nat} (ha : Twin B w va xs) (hb : Reads .u32 w vb xs) :
    Calls Tryd.prog 23 #[.agg #[.bool ng, va], .agg #[.bool ng, vb]] w fun e w' => e = .returned (.bool true) ∧ Below w.heap.size w w' := by
  have H1 := ha
  have H2 := hb
  obtain ⟨g, rfl, _, _, _⟩ := ha
  obtain ⟨ao, cap, rfl, _⟩ := hb
  have hB : Below w.heap.size w ((w.alloc (.cells #[.bool ng, .slice (some ⟨g, 0, none⟩) xs.length (xs.length + 1)] 38)).alloc (.cells #[.bool ng, .slice ao xs.length cap] 38)) := below_trans (bel_alloc _ _) (bel_alloc _ _)
  have hc := left_any (H1.below hB) (H2.below hB)
  have q : (ng == ng) = true := by simp
  clear H1 H2
  go_enter Tryd.func23, Tryd.ntmps23
  go_wp2_with fail
  with_reducible refine hc.mono ?_
  rintro e w3 ⟨rfl, hb3⟩
  go_wp2
  go_ret
  exact ⟨rfl, hB.trans (hb3.mono hB.size)⟩

end Go.Proofs.YtllddhiflnfhaaaDoor
