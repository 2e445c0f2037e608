/- QuotPowers: the walk -/
import Derived.Test.YtlfkfeedopgfjacGreatDoorRefPow2
import Derived.Test.YtlfkfeedopgfjacGreatDoorQMem
import Derived.Deep.LoopGhost
namespace Go.Proofs.YtlfkfeedopgfjacGreatDoor
open Go.RowKit

set_option maxRecDepth 20000 in
set_option maxHeartbeats 8000000 in
theorem powers_walk {w : World} {b n c m : Int} (b0 : 0 ≤ b) (b1 : b < 4294967296) (c0 : 0 ≤ c) (c1 : c < 4294967296) (hn : n ≤ 9223372036854775807) (hm : m ≤ 9223372036854775807) :
    Calls Tryz.prog 3 #[.int .u32 b, .int .i64 n, .int .u32 c, .int .i64 m] w fun e w' => e = .returned (.bool true) ∧ Below w.heap.size w w' := by
  go_enter Tryz.func3, Tryz.ntmps3
  obtain ⟨w0, hw0⟩ : ∃ w0, w0 = ((w.alloc (.cells (bookCells 0 (.slice none 0 0)) 38)).alloc (.cells #[.int .u32 b, .int .u32 c, .int .u32 b] 39)).alloc (.cells #[.int .i64 n, .int .i64 m, .int .i64 n] 40) := ⟨_, rfl⟩
  have hs1 : ∀ o : Obj, (w.alloc o).heap.size = w.heap.size + 1 := fun o => by simp
  have hs2 : ∀ o o' : Obj, ((w.alloc o).alloc o').heap.size = w.heap.size + 1 + 1 := fun o o' => by simp
  have hbelow0 : Below w.heap.size w w0 := by rw [hw0]; exact ((below_alloc w _).alloc (by simp) _).alloc (by simp; omega) _
  have hbook0 : Kept w.heap.size w0 w.heap.size (.slice none 0 0) (nilled []) := by
    refine ⟨Nat.le_refl _, ?_, World.ownsRow_nil _ _ _ _⟩
    unfold BookAt
    rw [hw0, heap_alloc_old _ _ (by rw [hs2]; omega), heap_alloc_old _ _ (by rw [hs1]; omega), heap_alloc_new]
    rfl
  have hb0 : w0.heap[w.heap.size + 1]? = some (.cells #[.int .u32 b, .int .u32 c, .int .u32 b] 39 (0, 0)) := by
    rw [hw0, heap_alloc_old _ _ (by rw [hs2]; omega)]
    have h := heap_alloc_new (w.alloc (.cells (bookCells 0 (.slice none 0 0)) 38)) (.cells #[.int .u32 b, .int .u32 c, .int .u32 b] 39)
    rw [hs1] at h
    exact h
  have hp0 : w0.heap[w.heap.size + 1 + 1]? = some (.cells #[.int .i64 n, .int .i64 m, .int .i64 n] 40 (0, 0)) := by
    rw [hw0]
    have h := heap_alloc_new ((w.alloc (.cells (bookCells 0 (.slice none 0 0)) 38)).alloc (.cells #[.int .u32 b, .int .u32 c, .int .u32 b] 39)) (.cells #[.int .i64 n, .int .i64 m, .int .i64 n] 40)
    rw [hs2] at h
    exact h
  have hmem0 : Mem w.heap.size w0 [] := ⟨fun v hv => (by cases hv), List.Pairwise.nil, fun v hv => (by cases hv)⟩
  clear hs1 hs2
  go_wp2
  have hw0' : ((w.alloc (.cells #[.int .i64 0, .slice none 0 0, .slice none 0 0, .slice none 0 0, .slice none 0 0, .slice none 0 0, .slice none 0 0, .slice none 0 0, .slice none 0 0, .slice none 0 0, .slice none 0 0, .slice none 0 0, .slice none 0 0, .slice none 0 0, .slice none 0 0] 38)).alloc (.cells #[.int .u32 b, .int .u32 c, .int .u32 b] 39)).alloc (.cells #[.int .i64 n, .int .i64 m, .int .i64 n] 40) = w0 := by rw [hw0]; rfl
  rw [hw0']
  clear hw0 hw0'
  go_loopg [12] 3 (fun q i wr => ∃ (k : Nat) (all : List Value) (lv : Value), k + q = 3 ∧ i = .int .i64 k ∧ all.length = k ∧ Kept w.heap.size wr w.heap.size lv (nilled all) ∧ Mem w.heap.size wr all ∧ wr.heap[w.heap.size + 1]? = some (.cells #[.int .u32 b, .int .u32 c, .int .u32 b] 39 (0, 0)) ∧ wr.heap[w.heap.size + 1 + 1]? = some (.cells #[.int .i64 n, .int .i64 m, .int .i64 n] 40 (0, 0)) ∧ Below w.heap.size w wr)
  case atStart => exact ⟨0, [], .slice none 0 0, by omega, rfl, rfl, hbook0, hmem0, hb0, hp0, hbelow0⟩
  case round =>
    clear hbook0 hmem0 hb0 hp0 hbelow0
    obtain ⟨k, all, lv, hkq, rfl, hal, hkept, hmem, hbs, hps, hW⟩ := hrel
    have hsz := hW.size
    cases gk with
    | zero =>
      have hk3 : k = 3 := by omega
      have hap := apart_mem hkept hsz (by omega) hmem
      have k3 : ¬ (k : Int) < 3 := by omega
      clear hbs hps hkept hmem
      go_wp2_with fail
      with_reducible refine hap.mono ?_
      clear hap
      rintro e w1 ⟨rfl, hB⟩
      replace hW := hW.trans hB
      clear hB
      go_wp2_with fail
      with_reducible refine qlives_any.mono ?_
      rintro e w2 ⟨rfl, hB⟩
      replace hW := below_trans hW hB
      clear hB
      go_wp2
      go_ret
      exact ⟨rfl, hW⟩
    | succ q =>
      have k3 : (k : Int) < 3 := by omega
      obtain ⟨bk, nk, bk0, bk1, nk1, hcb, hcp⟩ : ∃ bk nk : Int, 0 ≤ bk ∧ bk < 4294967296 ∧ nk ≤ 9223372036854775807 ∧ wr.cell? ⟨w.heap.size + 1, k, none⟩ = some (.int .u32 bk) ∧ wr.cell? ⟨w.heap.size + 1 + 1, k, none⟩ = some (.int .i64 nk) := by
        have e1 := cell_of_row wr (w.heap.size + 1) k _ _ _ hbs
        have e2 := cell_of_row wr (w.heap.size + 1 + 1) k _ _ _ hps
        have hk : k < 3 := by omega
        match k, hk with
        | 0, _ => exact ⟨b, n, b0, b1, hn, e1, e2⟩
        | 1, _ => exact ⟨c, m, c0, c1, hm, e1, e2⟩
        | 2, _ => exact ⟨b, n, b0, b1, hn, e1, e2⟩
        | k + 3, h => omega
      obtain ⟨kk, hkk, hkk2⟩ := isLen_exists bk1
      have HK := hide hkk
      have hg1 : w.heap.size + 1 < wr.heap.size := (Array.getElem?_eq_some_iff.1 hbs).1
      have hg2 : w.heap.size + 1 + 1 < wr.heap.size := (Array.getElem?_eq_some_iff.1 hps).1
      have HBs := hide hbs
      have HPs := hide hps
      clear hkk hbs hps
      go_wp2
      go_region_with (go_at_call 6; with_reducible refine (rpow_pv bk0 bk1 HK.out hkk2 nk1).mono ?_; rintro e w1 ⟨v1, rfl, h1, hB1⟩)
      all_goals go_wp2
      all_goals (
        have hBd : Below wr.heap.size wr w1 := below_trans (Below.refl _ _).drew hB1
        have hcb1 := (hBd.cell (p := ⟨w.heap.size + 1, k, none⟩) hg1).trans hcb
        have hcp1 := (hBd.cell (p := ⟨w.heap.size + 1 + 1, k, none⟩) hg2).trans hcp
        have hs1 := hBd.size
        have hs1' : w.heap.size ≤ w1.heap.size := by omega
        clear hB1)
      all_goals go_region_with (go_at_call 7; with_reducible refine (pow_pv bk0 bk1 HK.out nk1).mono ?_; rintro e w2 ⟨v2, rfl, h2, hB2⟩)
      all_goals (
        have hBe : Below w1.heap.size w1 w2 := below_trans (Below.refl _ _).drew hB2
        have hW2 := below_trans (below_trans hW hBd) hBe
        have hk2 := (hkept.below hBd).below hBe
        have hm2 := (hmem.below hBd).snoc hBe h2 (by omega) hs1'
        have hbs2 : w2.heap[w.heap.size + 1]? = some (.cells #[.int .u32 b, .int .u32 c, .int .u32 b] 39 (0, 0)) := by rw [hBe.block _ (by omega), hBd.block _ hg1]; exact HBs.out
        have hps2 : w2.heap[w.heap.size + 1 + 1]? = some (.cells #[.int .i64 n, .int .i64 m, .int .i64 n] 40 (0, 0)) := by rw [hBe.block _ (by omega), hBd.block _ hg2]; exact HPs.out
        have hsame := same_num h2 (h1.below hBe) rfl
        obtain ⟨zs, ⟨ao, rfl, _, _⟩, _⟩ := h2
        have Hbs := hide hbs2
        have Hps := hide hps2
        have Hk2 := hide hk2
        have Hm2 := hide hm2
        have Hsame := hide hsame
        clear hBd hBe hB2 h1 hkept hmem HBs HPs hcb hcp hcb1 hcp1 hW hbs2 hps2 hk2 hm2 hsame)
      all_goals go_wp2_with fail
      all_goals (
        with_reducible refine Hsame.out.mono ?_
        clear Hsame
        rintro e w3 ⟨rfl, hB3⟩
        have Hk3 := hide (Hk2.out.below hB3)
        have Hm3 := hide (Hm2.out.below hB3)
        have hW3 := below_trans hW2 hB3
        have hl1 : w.heap.size + 1 < w2.heap.size := (Array.getElem?_eq_some_iff.1 Hbs.out).1
        have hl2 : w.heap.size + 1 + 1 < w2.heap.size := (Array.getElem?_eq_some_iff.1 Hps.out).1
        have Hb3 : Hid (w3.heap[w.heap.size + 1]? = some (.cells #[.int .u32 b, .int .u32 c, .int .u32 b] 39 (0, 0))) := hide (by rw [hB3.block _ hl1]; exact Hbs.out)
        have Hp3 : Hid (w3.heap[w.heap.size + 1 + 1]? = some (.cells #[.int .i64 n, .int .i64 m, .int .i64 n] 40 (0, 0))) := hide (by rw [hB3.block _ hl2]; exact Hps.out)
        clear Hk2 Hm2 Hbs Hps hW2 hB3 hl1 hl2)
      all_goals go_wp2_with fail
      all_goals (
        with_reducible refine (nat_any Hk3.out hW3.size (by rw [nilled_length]; omega)).mono ?_
        rintro e w4 ⟨rfl, lv', hk4, hoff⟩
        have hm4 := Hm3.out.off Hk3.out hoff
        have hb4 := arr_off Hk3.out hoff Hb3.out (by decide) (by omega)
        have hp4 := arr_off Hk3.out hoff Hp3.out (by decide) (by omega)
        have hW4 := hW3.trans (hoff.below Hk3.out hW3.size)
        rw [← nilled_snoc] at hk4
        have HK4 := hide hk4
        have HM4 := hide hm4
        have HB4 := hide hb4
        have HP4 := hide hp4
        clear hk4 hm4 hb4 hp4 Hk3 Hm3 Hb3 Hp3 hoff)
      all_goals go_wp2
      all_goals go_roundg q
      all_goals first
        | exact ⟨k + 1, _, lv', by omega, by first | rfl | simp, by simp [hal], HK4.out, HM4.out, HB4.out, HP4.out, hW4⟩
        | omega

/-- of numbers as the row's reading hands them over -/
theorem powers_wf {w : World} {b n c m : Int} (hb : (Lit.int .u32 b).wf = true) (hn : (Lit.int .i64 n).wf = true) (hc : (Lit.int .u32 c).wf = true) (hm : (Lit.int .i64 m).wf = true) :
    Calls Tryz.prog 3 #[.int .u32 b, .int .i64 n, .int .u32 c, .int .i64 m] w fun e w' => e = .returned (.bool true) ∧ Below w.heap.size w w' := by
  have h1 : 0 ≤ b ∧ b ≤ 4294967295 := by simpa [Lit.wf, IntKind.min, IntKind.max, IntKind.signed, IntKind.bits] using hb
  have h2 : 0 ≤ c ∧ c ≤ 4294967295 := by simpa [Lit.wf, IntKind.min, IntKind.max, IntKind.signed, IntKind.bits] using hc
  have h3 : -9223372036854775808 ≤ n ∧ n ≤ 9223372036854775807 := by simpa [Lit.wf, IntKind.min, IntKind.max, IntKind.signed, IntKind.bits] using hn
  have h4 : -9223372036854775808 ≤ m ∧ m ≤ 9223372036854775807 := by simpa [Lit.wf, IntKind.min, IntKind.max, IntKind.signed, IntKind.bits] using hm
  exact powers_walk h1.1 (by omega) h2.1 (by omega) h3.2 h4.2

end Go.Proofs.YtlfkfeedopgfjacGreatDoor
