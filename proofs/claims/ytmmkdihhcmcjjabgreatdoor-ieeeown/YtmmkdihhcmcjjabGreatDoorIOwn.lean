/- IeeeOwn's walk (mk_iown.py) -/
import Derived.Test.YtmmkdihhcmcjjabGreatDoorILives
import Derived.Test.YtmmkdihhcmcjjabGreatDoorIInt
import Derived.Test.YtmmkdihhcmcjjabGreatDoorQMem
import Derived.Deep.LoopGhost
namespace Go.Proofs.YtmmkdihhcmcjjabGreatDoor
open Go.RowKit
set_option linter.unusedVariables false

theorem off_alloc {g : Nat} {lv : Value} {w w' : World} {o : Obj} (h : Off g lv (w.alloc o) w') : Off g lv w w' := by
  have b := bel_new w o
  refine ⟨h.os.trans b.os, h.tape.trans b.tape, h.output.trans b.output, Nat.le_trans b.size h.size, fun k hk hne hown => ?_⟩
  rw [h.block k (Nat.lt_of_lt_of_le hk b.size) hne hown, b.block k hk]
set_option maxHeartbeats 1000000 in
theorem int_book {base : Nat} {w : World} {g : Nat} {lv : Value} {ng : Bool} {ao : Option Addr} {L c : Nat} {ps : List (Value × Value)} (h : Kept base w g lv ps) (hb : base ≤ w.heap.size) (hn : ps.length < 1000) :
    Calls Tryz.prog 7 #[.pointer (some ⟨g, 0, none⟩), .agg #[.bool ng, .slice ao L c]] w fun e w' => e = .returned (.tuple #[]) ∧ ∃ lv', Kept base w' g lv' (ps ++ [(.slice ao L c, .slice none 0 0)]) ∧ Off g lv w w' := by
  have k1 := bel_new w (.cells #[.bool ng, .slice ao L c] 44)
  have h1 := h.below k1
  have hb1 : base ≤ (w.alloc (.cells #[.bool ng, .slice ao L c] 44)).heap.size := Nat.le_trans hb k1.size
  go_enter Tryz.func7, Tryz.ntmps7
  go_wp2_with fail
  refine (keep_any h1 hb1 hn).mono ?_
  rintro e w1 ⟨rfl, lv', h2, h3⟩
  have H2 := hide h2
  have H3 := hide (off_alloc h3)
  clear h2 h3 h1 h
  go_wp2
  go_end0
  exact ⟨rfl, lv', H2.out, H3.out⟩
def lx (x y : Int) (k : Nat) : Int := [x, y, x, x, y].getD k 0
theorem lx_range {x y : Int} (x0 : 0 ≤ x) (x1 : x < 18446744073709551616) (y0 : 0 ≤ y) (y1 : y < 18446744073709551616) (k : Nat) : 0 ≤ lx x y k ∧ lx x y k < 18446744073709551616 := by
  match k with
  | 0 => exact ⟨x0, x1⟩
  | 1 => exact ⟨y0, y1⟩
  | 2 => exact ⟨x0, x1⟩
  | 3 => exact ⟨x0, x1⟩
  | 4 => exact ⟨y0, y1⟩
  | k + 5 => exact ⟨by simp [lx], by simp [lx]⟩
theorem lx_cell {w : World} {b : Nat} {x y : Int} {k : Nat} (h : w.heap[b]? = some (.cells #[.int .u64 x, .int .u64 y, .int .u64 x, .int .u64 x, .int .u64 y] 40 (0, 0))) (hk : k < 5) : w.cell? ⟨b, k, none⟩ = some (.int .u64 (lx x y k)) := by
  rw [cell_of_row w b k _ _ _ h]
  match k, hk with
  | 0, _ => rfl
  | 1, _ => rfl
  | 2, _ => rfl
  | 3, _ => rfl
  | 4, _ => rfl
theorem box_cells {w : World} {b : Nat} {ng : Bool} {m : Value} (h : w.heap[b]? = some (.cells #[.bool ng, m] 44 (0, 0))) : w.cell? ⟨b, 0, none⟩ = some (.bool ng) ∧ w.cell? ⟨b, 1, none⟩ = some m := ⟨by rw [cell_of_row w b 0 _ _ _ h]; rfl, by rw [cell_of_row w b 1 _ _ _ h]; rfl⟩
theorem blk_below {w w' : World} {b : Nat} {ob : Obj} (h : w.heap[b]? = some ob) (hb : Below w.heap.size w w') : w'.heap[b]? = some ob := by rw [hb.block b (Array.getElem?_eq_some_iff.1 h).1]; exact h
theorem wnum_mag {B : Nat} {w : World} {ng : Bool} {m : Value} {n : Int} {k : Nat} (h : WNum B w (.agg #[.bool ng, m]) n k) : ∃ a, Num B w m a k := by
  obtain ⟨g, m', a, e, h1, -⟩ := h
  simp at e
  obtain ⟨rfl, rfl⟩ := e
  exact ⟨a, h1⟩

set_option maxHeartbeats 4000000 in
theorem owhole_0 {w : World} (L : Lays w) (T : Brn w) (v : Int) (v0 : 0 ≤ v) (v1 : v < 256) (hv : v % 4 = 0) (x X s : Int) (ng : Bool) (x0 : 0 ≤ x) (x1 : x < 18446744073709551616) (hX : x % 65536 = X) (h0 : 0 ≤ X) (h1 : X < 65536) (hs : X % 32768 = s) (hng : ng = decide (32768 ≤ X)) : Calls Tryz.prog 5 #[.int .u8 v, .int .u64 x] w fun e w' => ∃ va n ok, e = .returned (.tuple #[va, .bool ok]) ∧ WNum w.heap.size w' va n 100 ∧ IntIs 1024 (-24) 31744 s ng n ok ∧ Below w.heap.size w w' := by
  have hw : IntKind.u16.wrap x = X := by rw [IntKind.wrap_u16]; exact hX
  have hw2 : x % 65536 = X := hX
  clear hX
  go_enter Tryz.func5, Tryz.ntmps5
  go_upto_region 1 with fail
  have D := cell2_new w (.bool false) (.slice none 0 0) 44
  have K1 := bel_new w (.cells #[.bool false, .slice none 0 0] 44)
  generalize w.alloc (.cells #[.bool false, .slice none 0 0] 44) = w1 at *
  go_wp2_with fail
  with_reducible refine (int_16 (L.below K1) (T.below K1) X s ng h0 h1 hs hng).mono ?_
  rintro x' w5 ⟨vr, n, ok, rfl, hR, hI, K⟩
  have HI := hide hI
  have ltb : w.heap.size < w1.heap.size := D.lt
  obtain ⟨rg, ro, rl, rfl⟩ := hR.told
  clear hI hs hng
  have d0 := (D.below K).c0; have d1 := (D.below K).c1; have g0 := (D.below K).f0; have g1 := (D.below K).f1
  go_wp2
  have PD := (D.below K).put (.bool rg) (.slice ro rl rl)
  have KB := below_put2 (b := w.heap.size) (below_trans K1 K) (Nat.le_refl _) (.bool rg) (.slice ro rl rl)
  have WN := ((hR.put ltb 0 (.bool rg)).put ltb 1 (.slice ro rl rl)).low (B' := w.heap.size) (by omega)
  clear d0 d1 g0 g1 hR
  generalize (w5.setCell ⟨w.heap.size, 0, none⟩ (.bool rg)).setCell ⟨w.heap.size, 1, none⟩ (.slice ro rl rl) = w9 at *
  (try simp only [Exit.inBlock, Exit.then])
  exact bodyPost_ret (v := .tuple #[.agg #[.bool rg, .slice ro rl rl], .bool ok]) (by simp [results, Tryz.results5, go_sem, PD.c0, PD.c1]) rfl ⟨_, _, _, rfl, WN, HI.out, KB⟩

set_option maxRecDepth 20000 in
set_option maxHeartbeats 8000000 in
theorem iown_0 {w : World} (L : Lays w) (T : Brn w) (v : Int) (v0 : 0 ≤ v) (v1 : v < 256) (hv : v % 4 = 0) (x : Int) (x0 : 0 ≤ x) (x1 : x < 18446744073709551616) (y : Int) (y0 : 0 ≤ y) (y1 : y < 18446744073709551616) :
    Calls Tryz.prog 3 #[.int .u8 v, .int .u64 x, .int .u64 y] w fun e w' => e = .returned (.bool true) ∧ Below w.heap.size w w' := by
  go_enter Tryz.func3, Tryz.ntmps3
  go_wp2_with fail
  with_reducible refine (lives_ok L T).mono ?_
  rintro x' w1 ⟨rfl, K⟩
  replace L := L.below K
  replace T := T.below K
  obtain ⟨w0, hw0⟩ : ∃ w0, w0 = (w1.alloc (.cells (bookCells 0 (.slice none 0 0)) 39)).alloc (.cells #[.int .u64 x, .int .u64 y, .int .u64 x, .int .u64 x, .int .u64 y] 40) := ⟨_, rfl⟩
  have hs1 : ∀ ob : Obj, (w1.alloc ob).heap.size = w1.heap.size + 1 := fun ob => by simp
  have hbelow0 : Below w1.heap.size w1 w0 := by rw [hw0]; exact (bel_new w1 _).alloc (by simp) _
  have hbook0 : Kept w1.heap.size w0 w1.heap.size (.slice none 0 0) (nilled []) := by
    refine ⟨Nat.le_refl _, ?_, World.ownsRow_nil _ _ _ _⟩
    unfold BookAt
    rw [hw0, heap_alloc_old _ _ (by rw [hs1]; omega), heap_alloc_new]
    rfl
  have hb0 : w0.heap[w1.heap.size + 1]? = some (.cells #[.int .u64 x, .int .u64 y, .int .u64 x, .int .u64 x, .int .u64 y] 40 (0, 0)) := by
    rw [hw0]
    have h := heap_alloc_new (w1.alloc (.cells (bookCells 0 (.slice none 0 0)) 39)) (.cells #[.int .u64 x, .int .u64 y, .int .u64 x, .int .u64 x, .int .u64 y] 40)
    rw [hs1] at h
    exact h
  have hmem0 : Mem w1.heap.size w0 [] := ⟨fun v hv => (by cases hv), List.Pairwise.nil, fun v hv => (by cases hv)⟩
  clear hs1
  go_wp2
  have hw0' : (w1.alloc (.cells #[.int .i64 0, .slice none 0 0, .slice none 0 0, .slice none 0 0, .slice none 0 0, .slice none 0 0, .slice none 0 0, .slice none 0 0, .slice none 0 0, .slice none 0 0, .slice none 0 0, .slice none 0 0, .slice none 0 0, .slice none 0 0, .slice none 0 0] 39)).alloc (.cells #[.int .u64 x, .int .u64 y, .int .u64 x, .int .u64 x, .int .u64 y] 40) = w0 := by rw [hw0]; rfl
  rw [hw0']
  clear hw0 hw0'
  go_loopg [9] 5 (fun q i wr => ∃ (k : Nat) (all : List Value) (lv : Value), k + q = 5 ∧ i = .int .i64 k ∧ all.length = 2 * k ∧ Kept w1.heap.size wr w1.heap.size lv (nilled all) ∧ Mem w1.heap.size wr all ∧ wr.heap[w1.heap.size + 1]? = some (.cells #[.int .u64 x, .int .u64 y, .int .u64 x, .int .u64 x, .int .u64 y] 40 (0, 0)) ∧ Below w1.heap.size w1 wr)
  case atStart => exact ⟨0, [], .slice none 0 0, by omega, rfl, rfl, hbook0, hmem0, hb0, hbelow0⟩
  case round =>
    clear hbook0 hmem0 hb0 hbelow0
    obtain ⟨k, all, lv, hkq, rfl, hal, hkept, hmem, hbs, hW⟩ := hrel
    have hsz := hW.size
    cases gk with
    | zero =>
      have hk5 : k = 5 := by omega
      have hap := apart_mem hkept hsz (by omega) hmem
      have k5 : ¬ (k : Int) < 5 := by omega
      clear hbs hkept hmem
      go_wp2_with fail
      with_reducible refine hap.mono ?_
      clear hap
      rintro e w2 ⟨rfl, hB⟩
      go_wp2
      go_ret
      exact ⟨rfl, below_trans K (hW.trans hB)⟩
    | succ q =>
      have k5 : (k : Int) < 5 := by omega
      have k0 : (0 : Int) ≤ (k : Int) := by omega
      obtain ⟨l0, l1⟩ := lx_range x0 x1 y0 y1 k
      have hc := lx_cell (k := k) hbs (by omega)
      have Hbs := hide hbs
      clear hbs
      obtain ⟨z, hz⟩ : ∃ z, z = lx x y k := ⟨_, rfl⟩
      rw [← hz] at hc l0 l1
      have HZ := hide hz
      clear hz
      obtain ⟨X, hX⟩ : ∃ X, z % 65536 = X := ⟨_, rfl⟩
      have X0 : 0 ≤ X := by omega
      have X1 : X < 65536 := by omega
      obtain ⟨s, hs⟩ : ∃ s, X % 32768 = s := ⟨_, rfl⟩
      have s0 : 0 ≤ s := by omega
      obtain ⟨ng, hng⟩ : ∃ b, b = decide (32768 ≤ X) := ⟨_, rfl⟩
      have HX := hide hX
      have HS := hide hs
      have HG := hide hng
      clear hX hs hng
      go_wp2_with fail
      with_reducible refine (owhole_0 (L.below hW) (T.below hW) v v0 v1 hv z X s ng l0 l1 HX.out X0 X1 HS.out HG.out).mono ?_
      rintro x' w2 ⟨va, n, ok, rfl, hR, hI, kb⟩
      obtain ⟨rg, ro, rl, rfl⟩ := hR.told
      obtain ⟨a1, hA⟩ := wnum_mag hR
      have hm1 := hmem.snoc kb hA (by decide) hsz
      have hk1 := hkept.below kb
      have hW1 := below_trans hW kb
      have hb1 := blk_below Hbs.out kb
      have HI := hide hI
      clear hI hA hkept hmem hW Hbs kb hc
      go_upto_region 9 with fail
      obtain ⟨w3, hw3⟩ : ∃ w3, w3 = w2.alloc (.cells #[.bool rg, .slice ro rl rl] 44) := ⟨_, rfl⟩
      have k3 : Below w2.heap.size w2 w3 := by rw [hw3]; exact bel_new _ _
      have D1 : w3.heap[w2.heap.size]? = some (.cells #[.bool rg, .slice ro rl rl] 44 (0, 0)) := by rw [hw3]; exact heap_alloc_new _ _
      rw [← hw3]
      clear hw3
      have hm3 := hm1.below k3
      have hk3 := hk1.below k3
      have hW3 := below_trans hW1 k3
      have hb3 := blk_below hb1 k3
      have hR3 := hR.below k3
      have z2 : w1.heap.size ≤ w2.heap.size := hW1.size
      have z3 := hW3.size
      have g1 : w1.heap.size + 1 < w2.heap.size := (Array.getElem?_eq_some_iff.1 hb1).1
      clear hm1 hk1 hW1 hb1 hR k3
      generalize w2.heap.size = d1 at *
      have hc := lx_cell (k := k) hb3 (by omega)
      rw [← HZ.out] at hc
      have Hb3 := hide hb3
      have Hm3 := hide hm3
      have Hk3 := hide hk3
      have HD1 := hide D1
      have HR3 := hide hR3
      clear hb3 hm3 hk3 D1 hR3
      go_wp2_with fail
      with_reducible refine (owhole_0 (L.below hW3) (T.below hW3) v v0 v1 hv z X s ng l0 l1 HX.out X0 X1 HS.out HG.out).mono ?_
      rintro x' w4 ⟨va, n', ok', rfl, hR, hI, kb⟩
      obtain ⟨rfl, rfl⟩ := IntIs.unique s0 HI.out hI
      obtain ⟨rg', ro', rl', rfl⟩ := hR.told
      obtain ⟨a2, hA⟩ := wnum_mag hR
      have hm4 := Hm3.out.snoc kb hA (by decide) z3
      have hk4 := Hk3.out.below kb
      have hW4 := below_trans hW3 kb
      have hb4 := blk_below Hb3.out kb
      have D4 := blk_below HD1.out kb
      have hR4 := HR3.out.below kb
      clear hI HI hA Hk3 Hm3 hW3 Hb3 HD1 HR3 kb hc
      go_upto_region 10 with fail
      obtain ⟨w5, hw5⟩ : ∃ w5, w5 = w4.alloc (.cells #[.bool rg', .slice ro' rl' rl'] 44) := ⟨_, rfl⟩
      have k5' : Below w4.heap.size w4 w5 := by rw [hw5]; exact bel_new _ _
      have E5 : w5.heap[w4.heap.size]? = some (.cells #[.bool rg', .slice ro' rl' rl'] 44 (0, 0)) := by rw [hw5]; exact heap_alloc_new _ _
      rw [← hw5]
      clear hw5
      have Hm5 := hide (hm4.below k5')
      have Hk5 := hide (hk4.below k5')
      have hW5 := below_trans hW4 k5'
      have Hb5 := hide (blk_below hb4 k5')
      have HD5 := hide (blk_below D4 k5')
      have hsame := wsame_any (hR4.below k5') (hR.below k5') rfl
      have z5 := hW5.size
      have g2 : w1.heap.size + 1 < w4.heap.size := (Array.getElem?_eq_some_iff.1 hb4).1
      clear hm4 hk4 hW4 hb4 D4 hR4 hR k5'
      generalize w4.heap.size = d2 at *
      have HE5 := hide E5
      obtain ⟨c1, c2⟩ := box_cells HD5.out
      obtain ⟨c3, c4⟩ := box_cells E5
      have Hsame := hide hsame
      clear E5 hsame
      go_wp2_with fail
      with_reducible refine Hsame.out.mono ?_
      clear Hsame c1 c2 c3 c4
      rintro e w6 ⟨rfl, kb⟩
      have Hm6 := hide (Hm5.out.below kb)
      have Hk6 := hide (Hk5.out.below kb)
      have hW6 := below_trans hW5 kb
      have Hb6 := hide (blk_below Hb5.out kb)
      have HD6 := hide (blk_below HD5.out kb)
      have HE6 := hide (blk_below HE5.out kb)
      clear Hm5 Hk5 hW5 Hb5 HD5 HE5 kb
      obtain ⟨c1, c2⟩ := box_cells HD6.out
      go_wp2_with fail
      with_reducible refine (int_book Hk6.out hW6.size (by rw [nilled_length]; omega)).mono ?_
      clear c1 c2
      rintro e w7 ⟨rfl, lv1, hk7, hoff⟩
      have Hm7 := hide (Hm6.out.off Hk6.out hoff)
      have Hb7 := hide (arr_off Hk6.out hoff Hb6.out (by decide) (by omega))
      have HE7 := hide (arr_off Hk6.out hoff HE6.out (by decide) (by omega))
      have hW7 := hW6.trans (hoff.below Hk6.out hW6.size)
      rw [← nilled_snoc] at hk7
      have Hk7 := hide hk7
      clear hk7 Hm6 Hk6 Hb6 HD6 HE6 hW6 hoff
      obtain ⟨c1, c2⟩ := box_cells HE7.out
      go_wp2_with fail
      with_reducible refine (int_book Hk7.out hW7.size (by rw [nilled_length]; simp; omega)).mono ?_
      clear c1 c2
      rintro e w8 ⟨rfl, lv2, hk8, hoff⟩
      have Hm8 := hide (Hm7.out.off Hk7.out hoff)
      have Hb8 := hide (arr_off Hk7.out hoff Hb7.out (by decide) (by omega))
      have hW8 := hW7.trans (hoff.below Hk7.out hW7.size)
      rw [← nilled_snoc] at hk8
      have Hk8 := hide hk8
      clear hk8 Hm7 Hk7 Hb7 HE7 hW7 hoff
      go_wp2
      go_roundg q
      all_goals first
        | exact ⟨k + 1, _, lv2, by omega, by first | rfl | simp, by simp [hal]; omega, Hk8.out, Hm8.out, Hb8.out, hW8⟩
        | omega

set_option maxHeartbeats 4000000 in
theorem owhole_1 {w : World} (L : Lays w) (T : Brn w) (v : Int) (v0 : 0 ≤ v) (v1 : v < 256) (hv : v % 4 = 1) (x X s : Int) (ng : Bool) (x0 : 0 ≤ x) (x1 : x < 18446744073709551616) (hX : x % 4294967296 = X) (h0 : 0 ≤ X) (h1 : X < 4294967296) (hs : X % 2147483648 = s) (hng : ng = decide (2147483648 ≤ X)) : Calls Tryz.prog 5 #[.int .u8 v, .int .u64 x] w fun e w' => ∃ va n ok, e = .returned (.tuple #[va, .bool ok]) ∧ WNum w.heap.size w' va n 100 ∧ IntIs 8388608 (-149) 2139095040 s ng n ok ∧ Below w.heap.size w w' := by
  have hw : IntKind.u32.wrap x = X := by rw [IntKind.wrap_u32]; exact hX
  have hw2 : x % 4294967296 = X := hX
  clear hX
  go_enter Tryz.func5, Tryz.ntmps5
  go_upto_region 1 with fail
  have D := cell2_new w (.bool false) (.slice none 0 0) 44
  have K1 := bel_new w (.cells #[.bool false, .slice none 0 0] 44)
  generalize w.alloc (.cells #[.bool false, .slice none 0 0] 44) = w1 at *
  go_wp2_with fail
  with_reducible refine (int_32 (L.below K1) (T.below K1) X s ng h0 h1 hs hng).mono ?_
  rintro x' w5 ⟨vr, n, ok, rfl, hR, hI, K⟩
  have HI := hide hI
  have ltb : w.heap.size < w1.heap.size := D.lt
  obtain ⟨rg, ro, rl, rfl⟩ := hR.told
  clear hI hs hng
  have d0 := (D.below K).c0; have d1 := (D.below K).c1; have g0 := (D.below K).f0; have g1 := (D.below K).f1
  go_wp2
  have PD := (D.below K).put (.bool rg) (.slice ro rl rl)
  have KB := below_put2 (b := w.heap.size) (below_trans K1 K) (Nat.le_refl _) (.bool rg) (.slice ro rl rl)
  have WN := ((hR.put ltb 0 (.bool rg)).put ltb 1 (.slice ro rl rl)).low (B' := w.heap.size) (by omega)
  clear d0 d1 g0 g1 hR
  generalize (w5.setCell ⟨w.heap.size, 0, none⟩ (.bool rg)).setCell ⟨w.heap.size, 1, none⟩ (.slice ro rl rl) = w9 at *
  (try simp only [Exit.inBlock, Exit.then])
  exact bodyPost_ret (v := .tuple #[.agg #[.bool rg, .slice ro rl rl], .bool ok]) (by simp [results, Tryz.results5, go_sem, PD.c0, PD.c1]) rfl ⟨_, _, _, rfl, WN, HI.out, KB⟩

set_option maxRecDepth 20000 in
set_option maxHeartbeats 8000000 in
theorem iown_1 {w : World} (L : Lays w) (T : Brn w) (v : Int) (v0 : 0 ≤ v) (v1 : v < 256) (hv : v % 4 = 1) (x : Int) (x0 : 0 ≤ x) (x1 : x < 18446744073709551616) (y : Int) (y0 : 0 ≤ y) (y1 : y < 18446744073709551616) :
    Calls Tryz.prog 3 #[.int .u8 v, .int .u64 x, .int .u64 y] w fun e w' => e = .returned (.bool true) ∧ Below w.heap.size w w' := by
  go_enter Tryz.func3, Tryz.ntmps3
  go_wp2_with fail
  with_reducible refine (lives_ok L T).mono ?_
  rintro x' w1 ⟨rfl, K⟩
  replace L := L.below K
  replace T := T.below K
  obtain ⟨w0, hw0⟩ : ∃ w0, w0 = (w1.alloc (.cells (bookCells 0 (.slice none 0 0)) 39)).alloc (.cells #[.int .u64 x, .int .u64 y, .int .u64 x, .int .u64 x, .int .u64 y] 40) := ⟨_, rfl⟩
  have hs1 : ∀ ob : Obj, (w1.alloc ob).heap.size = w1.heap.size + 1 := fun ob => by simp
  have hbelow0 : Below w1.heap.size w1 w0 := by rw [hw0]; exact (bel_new w1 _).alloc (by simp) _
  have hbook0 : Kept w1.heap.size w0 w1.heap.size (.slice none 0 0) (nilled []) := by
    refine ⟨Nat.le_refl _, ?_, World.ownsRow_nil _ _ _ _⟩
    unfold BookAt
    rw [hw0, heap_alloc_old _ _ (by rw [hs1]; omega), heap_alloc_new]
    rfl
  have hb0 : w0.heap[w1.heap.size + 1]? = some (.cells #[.int .u64 x, .int .u64 y, .int .u64 x, .int .u64 x, .int .u64 y] 40 (0, 0)) := by
    rw [hw0]
    have h := heap_alloc_new (w1.alloc (.cells (bookCells 0 (.slice none 0 0)) 39)) (.cells #[.int .u64 x, .int .u64 y, .int .u64 x, .int .u64 x, .int .u64 y] 40)
    rw [hs1] at h
    exact h
  have hmem0 : Mem w1.heap.size w0 [] := ⟨fun v hv => (by cases hv), List.Pairwise.nil, fun v hv => (by cases hv)⟩
  clear hs1
  go_wp2
  have hw0' : (w1.alloc (.cells #[.int .i64 0, .slice none 0 0, .slice none 0 0, .slice none 0 0, .slice none 0 0, .slice none 0 0, .slice none 0 0, .slice none 0 0, .slice none 0 0, .slice none 0 0, .slice none 0 0, .slice none 0 0, .slice none 0 0, .slice none 0 0, .slice none 0 0] 39)).alloc (.cells #[.int .u64 x, .int .u64 y, .int .u64 x, .int .u64 x, .int .u64 y] 40) = w0 := by rw [hw0]; rfl
  rw [hw0']
  clear hw0 hw0'
  go_loopg [9] 5 (fun q i wr => ∃ (k : Nat) (all : List Value) (lv : Value), k + q = 5 ∧ i = .int .i64 k ∧ all.length = 2 * k ∧ Kept w1.heap.size wr w1.heap.size lv (nilled all) ∧ Mem w1.heap.size wr all ∧ wr.heap[w1.heap.size + 1]? = some (.cells #[.int .u64 x, .int .u64 y, .int .u64 x, .int .u64 x, .int .u64 y] 40 (0, 0)) ∧ Below w1.heap.size w1 wr)
  case atStart => exact ⟨0, [], .slice none 0 0, by omega, rfl, rfl, hbook0, hmem0, hb0, hbelow0⟩
  case round =>
    clear hbook0 hmem0 hb0 hbelow0
    obtain ⟨k, all, lv, hkq, rfl, hal, hkept, hmem, hbs, hW⟩ := hrel
    have hsz := hW.size
    cases gk with
    | zero =>
      have hk5 : k = 5 := by omega
      have hap := apart_mem hkept hsz (by omega) hmem
      have k5 : ¬ (k : Int) < 5 := by omega
      clear hbs hkept hmem
      go_wp2_with fail
      with_reducible refine hap.mono ?_
      clear hap
      rintro e w2 ⟨rfl, hB⟩
      go_wp2
      go_ret
      exact ⟨rfl, below_trans K (hW.trans hB)⟩
    | succ q =>
      have k5 : (k : Int) < 5 := by omega
      have k0 : (0 : Int) ≤ (k : Int) := by omega
      obtain ⟨l0, l1⟩ := lx_range x0 x1 y0 y1 k
      have hc := lx_cell (k := k) hbs (by omega)
      have Hbs := hide hbs
      clear hbs
      obtain ⟨z, hz⟩ : ∃ z, z = lx x y k := ⟨_, rfl⟩
      rw [← hz] at hc l0 l1
      have HZ := hide hz
      clear hz
      obtain ⟨X, hX⟩ : ∃ X, z % 4294967296 = X := ⟨_, rfl⟩
      have X0 : 0 ≤ X := by omega
      have X1 : X < 4294967296 := by omega
      obtain ⟨s, hs⟩ : ∃ s, X % 2147483648 = s := ⟨_, rfl⟩
      have s0 : 0 ≤ s := by omega
      obtain ⟨ng, hng⟩ : ∃ b, b = decide (2147483648 ≤ X) := ⟨_, rfl⟩
      have HX := hide hX
      have HS := hide hs
      have HG := hide hng
      clear hX hs hng
      go_wp2_with fail
      with_reducible refine (owhole_1 (L.below hW) (T.below hW) v v0 v1 hv z X s ng l0 l1 HX.out X0 X1 HS.out HG.out).mono ?_
      rintro x' w2 ⟨va, n, ok, rfl, hR, hI, kb⟩
      obtain ⟨rg, ro, rl, rfl⟩ := hR.told
      obtain ⟨a1, hA⟩ := wnum_mag hR
      have hm1 := hmem.snoc kb hA (by decide) hsz
      have hk1 := hkept.below kb
      have hW1 := below_trans hW kb
      have hb1 := blk_below Hbs.out kb
      have HI := hide hI
      clear hI hA hkept hmem hW Hbs kb hc
      go_upto_region 9 with fail
      obtain ⟨w3, hw3⟩ : ∃ w3, w3 = w2.alloc (.cells #[.bool rg, .slice ro rl rl] 44) := ⟨_, rfl⟩
      have k3 : Below w2.heap.size w2 w3 := by rw [hw3]; exact bel_new _ _
      have D1 : w3.heap[w2.heap.size]? = some (.cells #[.bool rg, .slice ro rl rl] 44 (0, 0)) := by rw [hw3]; exact heap_alloc_new _ _
      rw [← hw3]
      clear hw3
      have hm3 := hm1.below k3
      have hk3 := hk1.below k3
      have hW3 := below_trans hW1 k3
      have hb3 := blk_below hb1 k3
      have hR3 := hR.below k3
      have z2 : w1.heap.size ≤ w2.heap.size := hW1.size
      have z3 := hW3.size
      have g1 : w1.heap.size + 1 < w2.heap.size := (Array.getElem?_eq_some_iff.1 hb1).1
      clear hm1 hk1 hW1 hb1 hR k3
      generalize w2.heap.size = d1 at *
      have hc := lx_cell (k := k) hb3 (by omega)
      rw [← HZ.out] at hc
      have Hb3 := hide hb3
      have Hm3 := hide hm3
      have Hk3 := hide hk3
      have HD1 := hide D1
      have HR3 := hide hR3
      clear hb3 hm3 hk3 D1 hR3
      go_wp2_with fail
      with_reducible refine (owhole_1 (L.below hW3) (T.below hW3) v v0 v1 hv z X s ng l0 l1 HX.out X0 X1 HS.out HG.out).mono ?_
      rintro x' w4 ⟨va, n', ok', rfl, hR, hI, kb⟩
      obtain ⟨rfl, rfl⟩ := IntIs.unique s0 HI.out hI
      obtain ⟨rg', ro', rl', rfl⟩ := hR.told
      obtain ⟨a2, hA⟩ := wnum_mag hR
      have hm4 := Hm3.out.snoc kb hA (by decide) z3
      have hk4 := Hk3.out.below kb
      have hW4 := below_trans hW3 kb
      have hb4 := blk_below Hb3.out kb
      have D4 := blk_below HD1.out kb
      have hR4 := HR3.out.below kb
      clear hI HI hA Hk3 Hm3 hW3 Hb3 HD1 HR3 kb hc
      go_upto_region 10 with fail
      obtain ⟨w5, hw5⟩ : ∃ w5, w5 = w4.alloc (.cells #[.bool rg', .slice ro' rl' rl'] 44) := ⟨_, rfl⟩
      have k5' : Below w4.heap.size w4 w5 := by rw [hw5]; exact bel_new _ _
      have E5 : w5.heap[w4.heap.size]? = some (.cells #[.bool rg', .slice ro' rl' rl'] 44 (0, 0)) := by rw [hw5]; exact heap_alloc_new _ _
      rw [← hw5]
      clear hw5
      have Hm5 := hide (hm4.below k5')
      have Hk5 := hide (hk4.below k5')
      have hW5 := below_trans hW4 k5'
      have Hb5 := hide (blk_below hb4 k5')
      have HD5 := hide (blk_below D4 k5')
      have hsame := wsame_any (hR4.below k5') (hR.below k5') rfl
      have z5 := hW5.size
      have g2 : w1.heap.size + 1 < w4.heap.size := (Array.getElem?_eq_some_iff.1 hb4).1
      clear hm4 hk4 hW4 hb4 D4 hR4 hR k5'
      generalize w4.heap.size = d2 at *
      have HE5 := hide E5
      obtain ⟨c1, c2⟩ := box_cells HD5.out
      obtain ⟨c3, c4⟩ := box_cells E5
      have Hsame := hide hsame
      clear E5 hsame
      go_wp2_with fail
      with_reducible refine Hsame.out.mono ?_
      clear Hsame c1 c2 c3 c4
      rintro e w6 ⟨rfl, kb⟩
      have Hm6 := hide (Hm5.out.below kb)
      have Hk6 := hide (Hk5.out.below kb)
      have hW6 := below_trans hW5 kb
      have Hb6 := hide (blk_below Hb5.out kb)
      have HD6 := hide (blk_below HD5.out kb)
      have HE6 := hide (blk_below HE5.out kb)
      clear Hm5 Hk5 hW5 Hb5 HD5 HE5 kb
      obtain ⟨c1, c2⟩ := box_cells HD6.out
      go_wp2_with fail
      with_reducible refine (int_book Hk6.out hW6.size (by rw [nilled_length]; omega)).mono ?_
      clear c1 c2
      rintro e w7 ⟨rfl, lv1, hk7, hoff⟩
      have Hm7 := hide (Hm6.out.off Hk6.out hoff)
      have Hb7 := hide (arr_off Hk6.out hoff Hb6.out (by decide) (by omega))
      have HE7 := hide (arr_off Hk6.out hoff HE6.out (by decide) (by omega))
      have hW7 := hW6.trans (hoff.below Hk6.out hW6.size)
      rw [← nilled_snoc] at hk7
      have Hk7 := hide hk7
      clear hk7 Hm6 Hk6 Hb6 HD6 HE6 hW6 hoff
      obtain ⟨c1, c2⟩ := box_cells HE7.out
      go_wp2_with fail
      with_reducible refine (int_book Hk7.out hW7.size (by rw [nilled_length]; simp; omega)).mono ?_
      clear c1 c2
      rintro e w8 ⟨rfl, lv2, hk8, hoff⟩
      have Hm8 := hide (Hm7.out.off Hk7.out hoff)
      have Hb8 := hide (arr_off Hk7.out hoff Hb7.out (by decide) (by omega))
      have hW8 := hW7.trans (hoff.below Hk7.out hW7.size)
      rw [← nilled_snoc] at hk8
      have Hk8 := hide hk8
      clear hk8 Hm7 Hk7 Hb7 HE7 hW7 hoff
      go_wp2
      go_roundg q
      all_goals first
        | exact ⟨k + 1, _, lv2, by omega, by first | rfl | simp, by simp [hal]; omega, Hk8.out, Hm8.out, Hb8.out, hW8⟩
        | omega

set_option maxHeartbeats 4000000 in
theorem owhole_2 {w : World} (L : Lays w) (T : Brn w) (v : Int) (v0 : 0 ≤ v) (v1 : v < 256) (hv : v % 4 = 2) (x X s : Int) (ng : Bool) (x0 : 0 ≤ x) (x1 : x < 18446744073709551616) (hX : x % 18446744073709551616 = X) (h0 : 0 ≤ X) (h1 : X < 18446744073709551616) (hs : X % 9223372036854775808 = s) (hng : ng = decide (9223372036854775808 ≤ X)) : Calls Tryz.prog 5 #[.int .u8 v, .int .u64 x] w fun e w' => ∃ va n ok, e = .returned (.tuple #[va, .bool ok]) ∧ WNum w.heap.size w' va n 100 ∧ IntIs 4503599627370496 (-1074) 9218868437227405312 s ng n ok ∧ Below w.heap.size w w' := by
  obtain rfl : X = x := by omega
  clear hX
  go_enter Tryz.func5, Tryz.ntmps5
  go_upto_region 1 with fail
  have D := cell2_new w (.bool false) (.slice none 0 0) 44
  have K1 := bel_new w (.cells #[.bool false, .slice none 0 0] 44)
  generalize w.alloc (.cells #[.bool false, .slice none 0 0] 44) = w1 at *
  go_wp2_with fail
  with_reducible refine (int_64 (L.below K1) (T.below K1) X s ng h0 h1 hs hng).mono ?_
  rintro x' w5 ⟨vr, n, ok, rfl, hR, hI, K⟩
  have HI := hide hI
  have ltb : w.heap.size < w1.heap.size := D.lt
  obtain ⟨rg, ro, rl, rfl⟩ := hR.told
  clear hI hs hng
  have d0 := (D.below K).c0; have d1 := (D.below K).c1; have g0 := (D.below K).f0; have g1 := (D.below K).f1
  go_wp2
  have PD := (D.below K).put (.bool rg) (.slice ro rl rl)
  have KB := below_put2 (b := w.heap.size) (below_trans K1 K) (Nat.le_refl _) (.bool rg) (.slice ro rl rl)
  have WN := ((hR.put ltb 0 (.bool rg)).put ltb 1 (.slice ro rl rl)).low (B' := w.heap.size) (by omega)
  clear d0 d1 g0 g1 hR
  generalize (w5.setCell ⟨w.heap.size, 0, none⟩ (.bool rg)).setCell ⟨w.heap.size, 1, none⟩ (.slice ro rl rl) = w9 at *
  (try simp only [Exit.inBlock, Exit.then])
  exact bodyPost_ret (v := .tuple #[.agg #[.bool rg, .slice ro rl rl], .bool ok]) (by simp [results, Tryz.results5, go_sem, PD.c0, PD.c1]) rfl ⟨_, _, _, rfl, WN, HI.out, KB⟩

set_option maxRecDepth 20000 in
set_option maxHeartbeats 8000000 in
theorem iown_2 {w : World} (L : Lays w) (T : Brn w) (v : Int) (v0 : 0 ≤ v) (v1 : v < 256) (hv : v % 4 = 2) (x : Int) (x0 : 0 ≤ x) (x1 : x < 18446744073709551616) (y : Int) (y0 : 0 ≤ y) (y1 : y < 18446744073709551616) :
    Calls Tryz.prog 3 #[.int .u8 v, .int .u64 x, .int .u64 y] w fun e w' => e = .returned (.bool true) ∧ Below w.heap.size w w' := by
  go_enter Tryz.func3, Tryz.ntmps3
  go_wp2_with fail
  with_reducible refine (lives_ok L T).mono ?_
  rintro x' w1 ⟨rfl, K⟩
  replace L := L.below K
  replace T := T.below K
  obtain ⟨w0, hw0⟩ : ∃ w0, w0 = (w1.alloc (.cells (bookCells 0 (.slice none 0 0)) 39)).alloc (.cells #[.int .u64 x, .int .u64 y, .int .u64 x, .int .u64 x, .int .u64 y] 40) := ⟨_, rfl⟩
  have hs1 : ∀ ob : Obj, (w1.alloc ob).heap.size = w1.heap.size + 1 := fun ob => by simp
  have hbelow0 : Below w1.heap.size w1 w0 := by rw [hw0]; exact (bel_new w1 _).alloc (by simp) _
  have hbook0 : Kept w1.heap.size w0 w1.heap.size (.slice none 0 0) (nilled []) := by
    refine ⟨Nat.le_refl _, ?_, World.ownsRow_nil _ _ _ _⟩
    unfold BookAt
    rw [hw0, heap_alloc_old _ _ (by rw [hs1]; omega), heap_alloc_new]
    rfl
  have hb0 : w0.heap[w1.heap.size + 1]? = some (.cells #[.int .u64 x, .int .u64 y, .int .u64 x, .int .u64 x, .int .u64 y] 40 (0, 0)) := by
    rw [hw0]
    have h := heap_alloc_new (w1.alloc (.cells (bookCells 0 (.slice none 0 0)) 39)) (.cells #[.int .u64 x, .int .u64 y, .int .u64 x, .int .u64 x, .int .u64 y] 40)
    rw [hs1] at h
    exact h
  have hmem0 : Mem w1.heap.size w0 [] := ⟨fun v hv => (by cases hv), List.Pairwise.nil, fun v hv => (by cases hv)⟩
  clear hs1
  go_wp2
  have hw0' : (w1.alloc (.cells #[.int .i64 0, .slice none 0 0, .slice none 0 0, .slice none 0 0, .slice none 0 0, .slice none 0 0, .slice none 0 0, .slice none 0 0, .slice none 0 0, .slice none 0 0, .slice none 0 0, .slice none 0 0, .slice none 0 0, .slice none 0 0, .slice none 0 0] 39)).alloc (.cells #[.int .u64 x, .int .u64 y, .int .u64 x, .int .u64 x, .int .u64 y] 40) = w0 := by rw [hw0]; rfl
  rw [hw0']
  clear hw0 hw0'
  go_loopg [9] 5 (fun q i wr => ∃ (k : Nat) (all : List Value) (lv : Value), k + q = 5 ∧ i = .int .i64 k ∧ all.length = 2 * k ∧ Kept w1.heap.size wr w1.heap.size lv (nilled all) ∧ Mem w1.heap.size wr all ∧ wr.heap[w1.heap.size + 1]? = some (.cells #[.int .u64 x, .int .u64 y, .int .u64 x, .int .u64 x, .int .u64 y] 40 (0, 0)) ∧ Below w1.heap.size w1 wr)
  case atStart => exact ⟨0, [], .slice none 0 0, by omega, rfl, rfl, hbook0, hmem0, hb0, hbelow0⟩
  case round =>
    clear hbook0 hmem0 hb0 hbelow0
    obtain ⟨k, all, lv, hkq, rfl, hal, hkept, hmem, hbs, hW⟩ := hrel
    have hsz := hW.size
    cases gk with
    | zero =>
      have hk5 : k = 5 := by omega
      have hap := apart_mem hkept hsz (by omega) hmem
      have k5 : ¬ (k : Int) < 5 := by omega
      clear hbs hkept hmem
      go_wp2_with fail
      with_reducible refine hap.mono ?_
      clear hap
      rintro e w2 ⟨rfl, hB⟩
      go_wp2
      go_ret
      exact ⟨rfl, below_trans K (hW.trans hB)⟩
    | succ q =>
      have k5 : (k : Int) < 5 := by omega
      have k0 : (0 : Int) ≤ (k : Int) := by omega
      obtain ⟨l0, l1⟩ := lx_range x0 x1 y0 y1 k
      have hc := lx_cell (k := k) hbs (by omega)
      have Hbs := hide hbs
      clear hbs
      obtain ⟨z, hz⟩ : ∃ z, z = lx x y k := ⟨_, rfl⟩
      rw [← hz] at hc l0 l1
      have HZ := hide hz
      clear hz
      obtain ⟨X, hX⟩ : ∃ X, z % 18446744073709551616 = X := ⟨_, rfl⟩
      have X0 : 0 ≤ X := by omega
      have X1 : X < 18446744073709551616 := by omega
      obtain ⟨s, hs⟩ : ∃ s, X % 9223372036854775808 = s := ⟨_, rfl⟩
      have s0 : 0 ≤ s := by omega
      obtain ⟨ng, hng⟩ : ∃ b, b = decide (9223372036854775808 ≤ X) := ⟨_, rfl⟩
      have HX := hide hX
      have HS := hide hs
      have HG := hide hng
      clear hX hs hng
      go_wp2_with fail
      with_reducible refine (owhole_2 (L.below hW) (T.below hW) v v0 v1 hv z X s ng l0 l1 HX.out X0 X1 HS.out HG.out).mono ?_
      rintro x' w2 ⟨va, n, ok, rfl, hR, hI, kb⟩
      obtain ⟨rg, ro, rl, rfl⟩ := hR.told
      obtain ⟨a1, hA⟩ := wnum_mag hR
      have hm1 := hmem.snoc kb hA (by decide) hsz
      have hk1 := hkept.below kb
      have hW1 := below_trans hW kb
      have hb1 := blk_below Hbs.out kb
      have HI := hide hI
      clear hI hA hkept hmem hW Hbs kb hc
      go_upto_region 9 with fail
      obtain ⟨w3, hw3⟩ : ∃ w3, w3 = w2.alloc (.cells #[.bool rg, .slice ro rl rl] 44) := ⟨_, rfl⟩
      have k3 : Below w2.heap.size w2 w3 := by rw [hw3]; exact bel_new _ _
      have D1 : w3.heap[w2.heap.size]? = some (.cells #[.bool rg, .slice ro rl rl] 44 (0, 0)) := by rw [hw3]; exact heap_alloc_new _ _
      rw [← hw3]
      clear hw3
      have hm3 := hm1.below k3
      have hk3 := hk1.below k3
      have hW3 := below_trans hW1 k3
      have hb3 := blk_below hb1 k3
      have hR3 := hR.below k3
      have z2 : w1.heap.size ≤ w2.heap.size := hW1.size
      have z3 := hW3.size
      have g1 : w1.heap.size + 1 < w2.heap.size := (Array.getElem?_eq_some_iff.1 hb1).1
      clear hm1 hk1 hW1 hb1 hR k3
      generalize w2.heap.size = d1 at *
      have hc := lx_cell (k := k) hb3 (by omega)
      rw [← HZ.out] at hc
      have Hb3 := hide hb3
      have Hm3 := hide hm3
      have Hk3 := hide hk3
      have HD1 := hide D1
      have HR3 := hide hR3
      clear hb3 hm3 hk3 D1 hR3
      go_wp2_with fail
      with_reducible refine (owhole_2 (L.below hW3) (T.below hW3) v v0 v1 hv z X s ng l0 l1 HX.out X0 X1 HS.out HG.out).mono ?_
      rintro x' w4 ⟨va, n', ok', rfl, hR, hI, kb⟩
      obtain ⟨rfl, rfl⟩ := IntIs.unique s0 HI.out hI
      obtain ⟨rg', ro', rl', rfl⟩ := hR.told
      obtain ⟨a2, hA⟩ := wnum_mag hR
      have hm4 := Hm3.out.snoc kb hA (by decide) z3
      have hk4 := Hk3.out.below kb
      have hW4 := below_trans hW3 kb
      have hb4 := blk_below Hb3.out kb
      have D4 := blk_below HD1.out kb
      have hR4 := HR3.out.below kb
      clear hI HI hA Hk3 Hm3 hW3 Hb3 HD1 HR3 kb hc
      go_upto_region 10 with fail
      obtain ⟨w5, hw5⟩ : ∃ w5, w5 = w4.alloc (.cells #[.bool rg', .slice ro' rl' rl'] 44) := ⟨_, rfl⟩
      have k5' : Below w4.heap.size w4 w5 := by rw [hw5]; exact bel_new _ _
      have E5 : w5.heap[w4.heap.size]? = some (.cells #[.bool rg', .slice ro' rl' rl'] 44 (0, 0)) := by rw [hw5]; exact heap_alloc_new _ _
      rw [← hw5]
      clear hw5
      have Hm5 := hide (hm4.below k5')
      have Hk5 := hide (hk4.below k5')
      have hW5 := below_trans hW4 k5'
      have Hb5 := hide (blk_below hb4 k5')
      have HD5 := hide (blk_below D4 k5')
      have hsame := wsame_any (hR4.below k5') (hR.below k5') rfl
      have z5 := hW5.size
      have g2 : w1.heap.size + 1 < w4.heap.size := (Array.getElem?_eq_some_iff.1 hb4).1
      clear hm4 hk4 hW4 hb4 D4 hR4 hR k5'
      generalize w4.heap.size = d2 at *
      have HE5 := hide E5
      obtain ⟨c1, c2⟩ := box_cells HD5.out
      obtain ⟨c3, c4⟩ := box_cells E5
      have Hsame := hide hsame
      clear E5 hsame
      go_wp2_with fail
      with_reducible refine Hsame.out.mono ?_
      clear Hsame c1 c2 c3 c4
      rintro e w6 ⟨rfl, kb⟩
      have Hm6 := hide (Hm5.out.below kb)
      have Hk6 := hide (Hk5.out.below kb)
      have hW6 := below_trans hW5 kb
      have Hb6 := hide (blk_below Hb5.out kb)
      have HD6 := hide (blk_below HD5.out kb)
      have HE6 := hide (blk_below HE5.out kb)
      clear Hm5 Hk5 hW5 Hb5 HD5 HE5 kb
      obtain ⟨c1, c2⟩ := box_cells HD6.out
      go_wp2_with fail
      with_reducible refine (int_book Hk6.out hW6.size (by rw [nilled_length]; omega)).mono ?_
      clear c1 c2
      rintro e w7 ⟨rfl, lv1, hk7, hoff⟩
      have Hm7 := hide (Hm6.out.off Hk6.out hoff)
      have Hb7 := hide (arr_off Hk6.out hoff Hb6.out (by decide) (by omega))
      have HE7 := hide (arr_off Hk6.out hoff HE6.out (by decide) (by omega))
      have hW7 := hW6.trans (hoff.below Hk6.out hW6.size)
      rw [← nilled_snoc] at hk7
      have Hk7 := hide hk7
      clear hk7 Hm6 Hk6 Hb6 HD6 HE6 hW6 hoff
      obtain ⟨c1, c2⟩ := box_cells HE7.out
      go_wp2_with fail
      with_reducible refine (int_book Hk7.out hW7.size (by rw [nilled_length]; simp; omega)).mono ?_
      clear c1 c2
      rintro e w8 ⟨rfl, lv2, hk8, hoff⟩
      have Hm8 := hide (Hm7.out.off Hk7.out hoff)
      have Hb8 := hide (arr_off Hk7.out hoff Hb7.out (by decide) (by omega))
      have hW8 := hW7.trans (hoff.below Hk7.out hW7.size)
      rw [← nilled_snoc] at hk8
      have Hk8 := hide hk8
      clear hk8 Hm7 Hk7 Hb7 HE7 hW7 hoff
      go_wp2
      go_roundg q
      all_goals first
        | exact ⟨k + 1, _, lv2, by omega, by first | rfl | simp, by simp [hal]; omega, Hk8.out, Hm8.out, Hb8.out, hW8⟩
        | omega

set_option maxHeartbeats 4000000 in
theorem owhole_3 {w : World} (L : Lays w) (T : Brn w) (v : Int) (v0 : 0 ≤ v) (v1 : v < 256) (hv : v % 4 = 3) (x X s : Int) (ng : Bool) (x0 : 0 ≤ x) (x1 : x < 18446744073709551616) (hX : x % 4294967296 = X) (h0 : 0 ≤ X) (h1 : X < 4294967296) (hs : X % 2147483648 = s) (hng : ng = decide (2147483648 ≤ X)) : Calls Tryz.prog 5 #[.int .u8 v, .int .u64 x] w fun e w' => ∃ va n ok, e = .returned (.tuple #[va, .bool ok]) ∧ WNum w.heap.size w' va n 100 ∧ IntIs 8388608 (-149) 2139095040 s ng n ok ∧ Below w.heap.size w w' := by
  have hw : IntKind.u32.wrap x = X := by rw [IntKind.wrap_u32]; exact hX
  have hw2 : x % 4294967296 = X := hX
  clear hX
  go_enter Tryz.func5, Tryz.ntmps5
  go_upto_region 1 with fail
  have D := cell2_new w (.bool false) (.slice none 0 0) 44
  have K1 := bel_new w (.cells #[.bool false, .slice none 0 0] 44)
  generalize w.alloc (.cells #[.bool false, .slice none 0 0] 44) = w1 at *
  go_wp2_with fail
  with_reducible refine (int_m (L.below K1) (T.below K1) X s ng h0 h1 hs hng).mono ?_
  rintro x' w5 ⟨vr, n, ok, rfl, hR, hI, K⟩
  have HI := hide hI
  have ltb : w.heap.size < w1.heap.size := D.lt
  obtain ⟨rg, ro, rl, rfl⟩ := hR.told
  clear hI hs hng
  have d0 := (D.below K).c0; have d1 := (D.below K).c1; have g0 := (D.below K).f0; have g1 := (D.below K).f1
  go_wp2
  have PD := (D.below K).put (.bool rg) (.slice ro rl rl)
  have KB := below_put2 (b := w.heap.size) (below_trans K1 K) (Nat.le_refl _) (.bool rg) (.slice ro rl rl)
  have WN := ((hR.put ltb 0 (.bool rg)).put ltb 1 (.slice ro rl rl)).low (B' := w.heap.size) (by omega)
  clear d0 d1 g0 g1 hR
  generalize (w5.setCell ⟨w.heap.size, 0, none⟩ (.bool rg)).setCell ⟨w.heap.size, 1, none⟩ (.slice ro rl rl) = w9 at *
  (try simp only [Exit.inBlock, Exit.then])
  exact bodyPost_ret (v := .tuple #[.agg #[.bool rg, .slice ro rl rl], .bool ok]) (by simp [results, Tryz.results5, go_sem, PD.c0, PD.c1]) rfl ⟨_, _, _, rfl, WN, HI.out, KB⟩

set_option maxRecDepth 20000 in
set_option maxHeartbeats 8000000 in
theorem iown_3 {w : World} (L : Lays w) (T : Brn w) (v : Int) (v0 : 0 ≤ v) (v1 : v < 256) (hv : v % 4 = 3) (x : Int) (x0 : 0 ≤ x) (x1 : x < 18446744073709551616) (y : Int) (y0 : 0 ≤ y) (y1 : y < 18446744073709551616) :
    Calls Tryz.prog 3 #[.int .u8 v, .int .u64 x, .int .u64 y] w fun e w' => e = .returned (.bool true) ∧ Below w.heap.size w w' := by
  go_enter Tryz.func3, Tryz.ntmps3
  go_wp2_with fail
  with_reducible refine (lives_ok L T).mono ?_
  rintro x' w1 ⟨rfl, K⟩
  replace L := L.below K
  replace T := T.below K
  obtain ⟨w0, hw0⟩ : ∃ w0, w0 = (w1.alloc (.cells (bookCells 0 (.slice none 0 0)) 39)).alloc (.cells #[.int .u64 x, .int .u64 y, .int .u64 x, .int .u64 x, .int .u64 y] 40) := ⟨_, rfl⟩
  have hs1 : ∀ ob : Obj, (w1.alloc ob).heap.size = w1.heap.size + 1 := fun ob => by simp
  have hbelow0 : Below w1.heap.size w1 w0 := by rw [hw0]; exact (bel_new w1 _).alloc (by simp) _
  have hbook0 : Kept w1.heap.size w0 w1.heap.size (.slice none 0 0) (nilled []) := by
    refine ⟨Nat.le_refl _, ?_, World.ownsRow_nil _ _ _ _⟩
    unfold BookAt
    rw [hw0, heap_alloc_old _ _ (by rw [hs1]; omega), heap_alloc_new]
    rfl
  have hb0 : w0.heap[w1.heap.size + 1]? = some (.cells #[.int .u64 x, .int .u64 y, .int .u64 x, .int .u64 x, .int .u64 y] 40 (0, 0)) := by
    rw [hw0]
    have h := heap_alloc_new (w1.alloc (.cells (bookCells 0 (.slice none 0 0)) 39)) (.cells #[.int .u64 x, .int .u64 y, .int .u64 x, .int .u64 x, .int .u64 y] 40)
    rw [hs1] at h
    exact h
  have hmem0 : Mem w1.heap.size w0 [] := ⟨fun v hv => (by cases hv), List.Pairwise.nil, fun v hv => (by cases hv)⟩
  clear hs1
  go_wp2
  have hw0' : (w1.alloc (.cells #[.int .i64 0, .slice none 0 0, .slice none 0 0, .slice none 0 0, .slice none 0 0, .slice none 0 0, .slice none 0 0, .slice none 0 0, .slice none 0 0, .slice none 0 0, .slice none 0 0, .slice none 0 0, .slice none 0 0, .slice none 0 0, .slice none 0 0] 39)).alloc (.cells #[.int .u64 x, .int .u64 y, .int .u64 x, .int .u64 x, .int .u64 y] 40) = w0 := by rw [hw0]; rfl
  rw [hw0']
  clear hw0 hw0'
  go_loopg [9] 5 (fun q i wr => ∃ (k : Nat) (all : List Value) (lv : Value), k + q = 5 ∧ i = .int .i64 k ∧ all.length = 2 * k ∧ Kept w1.heap.size wr w1.heap.size lv (nilled all) ∧ Mem w1.heap.size wr all ∧ wr.heap[w1.heap.size + 1]? = some (.cells #[.int .u64 x, .int .u64 y, .int .u64 x, .int .u64 x, .int .u64 y] 40 (0, 0)) ∧ Below w1.heap.size w1 wr)
  case atStart => exact ⟨0, [], .slice none 0 0, by omega, rfl, rfl, hbook0, hmem0, hb0, hbelow0⟩
  case round =>
    clear hbook0 hmem0 hb0 hbelow0
    obtain ⟨k, all, lv, hkq, rfl, hal, hkept, hmem, hbs, hW⟩ := hrel
    have hsz := hW.size
    cases gk with
    | zero =>
      have hk5 : k = 5 := by omega
      have hap := apart_mem hkept hsz (by omega) hmem
      have k5 : ¬ (k : Int) < 5 := by omega
      clear hbs hkept hmem
      go_wp2_with fail
      with_reducible refine hap.mono ?_
      clear hap
      rintro e w2 ⟨rfl, hB⟩
      go_wp2
      go_ret
      exact ⟨rfl, below_trans K (hW.trans hB)⟩
    | succ q =>
      have k5 : (k : Int) < 5 := by omega
      have k0 : (0 : Int) ≤ (k : Int) := by omega
      obtain ⟨l0, l1⟩ := lx_range x0 x1 y0 y1 k
      have hc := lx_cell (k := k) hbs (by omega)
      have Hbs := hide hbs
      clear hbs
      obtain ⟨z, hz⟩ : ∃ z, z = lx x y k := ⟨_, rfl⟩
      rw [← hz] at hc l0 l1
      have HZ := hide hz
      clear hz
      obtain ⟨X, hX⟩ : ∃ X, z % 4294967296 = X := ⟨_, rfl⟩
      have X0 : 0 ≤ X := by omega
      have X1 : X < 4294967296 := by omega
      obtain ⟨s, hs⟩ : ∃ s, X % 2147483648 = s := ⟨_, rfl⟩
      have s0 : 0 ≤ s := by omega
      obtain ⟨ng, hng⟩ : ∃ b, b = decide (2147483648 ≤ X) := ⟨_, rfl⟩
      have HX := hide hX
      have HS := hide hs
      have HG := hide hng
      clear hX hs hng
      go_wp2_with fail
      with_reducible refine (owhole_3 (L.below hW) (T.below hW) v v0 v1 hv z X s ng l0 l1 HX.out X0 X1 HS.out HG.out).mono ?_
      rintro x' w2 ⟨va, n, ok, rfl, hR, hI, kb⟩
      obtain ⟨rg, ro, rl, rfl⟩ := hR.told
      obtain ⟨a1, hA⟩ := wnum_mag hR
      have hm1 := hmem.snoc kb hA (by decide) hsz
      have hk1 := hkept.below kb
      have hW1 := below_trans hW kb
      have hb1 := blk_below Hbs.out kb
      have HI := hide hI
      clear hI hA hkept hmem hW Hbs kb hc
      go_upto_region 9 with fail
      obtain ⟨w3, hw3⟩ : ∃ w3, w3 = w2.alloc (.cells #[.bool rg, .slice ro rl rl] 44) := ⟨_, rfl⟩
      have k3 : Below w2.heap.size w2 w3 := by rw [hw3]; exact bel_new _ _
      have D1 : w3.heap[w2.heap.size]? = some (.cells #[.bool rg, .slice ro rl rl] 44 (0, 0)) := by rw [hw3]; exact heap_alloc_new _ _
      rw [← hw3]
      clear hw3
      have hm3 := hm1.below k3
      have hk3 := hk1.below k3
      have hW3 := below_trans hW1 k3
      have hb3 := blk_below hb1 k3
      have hR3 := hR.below k3
      have z2 : w1.heap.size ≤ w2.heap.size := hW1.size
      have z3 := hW3.size
      have g1 : w1.heap.size + 1 < w2.heap.size := (Array.getElem?_eq_some_iff.1 hb1).1
      clear hm1 hk1 hW1 hb1 hR k3
      generalize w2.heap.size = d1 at *
      have hc := lx_cell (k := k) hb3 (by omega)
      rw [← HZ.out] at hc
      have Hb3 := hide hb3
      have Hm3 := hide hm3
      have Hk3 := hide hk3
      have HD1 := hide D1
      have HR3 := hide hR3
      clear hb3 hm3 hk3 D1 hR3
      go_wp2_with fail
      with_reducible refine (owhole_3 (L.below hW3) (T.below hW3) v v0 v1 hv z X s ng l0 l1 HX.out X0 X1 HS.out HG.out).mono ?_
      rintro x' w4 ⟨va, n', ok', rfl, hR, hI, kb⟩
      obtain ⟨rfl, rfl⟩ := IntIs.unique s0 HI.out hI
      obtain ⟨rg', ro', rl', rfl⟩ := hR.told
      obtain ⟨a2, hA⟩ := wnum_mag hR
      have hm4 := Hm3.out.snoc kb hA (by decide) z3
      have hk4 := Hk3.out.below kb
      have hW4 := below_trans hW3 kb
      have hb4 := blk_below Hb3.out kb
      have D4 := blk_below HD1.out kb
      have hR4 := HR3.out.below kb
      clear hI HI hA Hk3 Hm3 hW3 Hb3 HD1 HR3 kb hc
      go_upto_region 10 with fail
      obtain ⟨w5, hw5⟩ : ∃ w5, w5 = w4.alloc (.cells #[.bool rg', .slice ro' rl' rl'] 44) := ⟨_, rfl⟩
      have k5' : Below w4.heap.size w4 w5 := by rw [hw5]; exact bel_new _ _
      have E5 : w5.heap[w4.heap.size]? = some (.cells #[.bool rg', .slice ro' rl' rl'] 44 (0, 0)) := by rw [hw5]; exact heap_alloc_new _ _
      rw [← hw5]
      clear hw5
      have Hm5 := hide (hm4.below k5')
      have Hk5 := hide (hk4.below k5')
      have hW5 := below_trans hW4 k5'
      have Hb5 := hide (blk_below hb4 k5')
      have HD5 := hide (blk_below D4 k5')
      have hsame := wsame_any (hR4.below k5') (hR.below k5') rfl
      have z5 := hW5.size
      have g2 : w1.heap.size + 1 < w4.heap.size := (Array.getElem?_eq_some_iff.1 hb4).1
      clear hm4 hk4 hW4 hb4 D4 hR4 hR k5'
      generalize w4.heap.size = d2 at *
      have HE5 := hide E5
      obtain ⟨c1, c2⟩ := box_cells HD5.out
      obtain ⟨c3, c4⟩ := box_cells E5
      have Hsame := hide hsame
      clear E5 hsame
      go_wp2_with fail
      with_reducible refine Hsame.out.mono ?_
      clear Hsame c1 c2 c3 c4
      rintro e w6 ⟨rfl, kb⟩
      have Hm6 := hide (Hm5.out.below kb)
      have Hk6 := hide (Hk5.out.below kb)
      have hW6 := below_trans hW5 kb
      have Hb6 := hide (blk_below Hb5.out kb)
      have HD6 := hide (blk_below HD5.out kb)
      have HE6 := hide (blk_below HE5.out kb)
      clear Hm5 Hk5 hW5 Hb5 HD5 HE5 kb
      obtain ⟨c1, c2⟩ := box_cells HD6.out
      go_wp2_with fail
      with_reducible refine (int_book Hk6.out hW6.size (by rw [nilled_length]; omega)).mono ?_
      clear c1 c2
      rintro e w7 ⟨rfl, lv1, hk7, hoff⟩
      have Hm7 := hide (Hm6.out.off Hk6.out hoff)
      have Hb7 := hide (arr_off Hk6.out hoff Hb6.out (by decide) (by omega))
      have HE7 := hide (arr_off Hk6.out hoff HE6.out (by decide) (by omega))
      have hW7 := hW6.trans (hoff.below Hk6.out hW6.size)
      rw [← nilled_snoc] at hk7
      have Hk7 := hide hk7
      clear hk7 Hm6 Hk6 Hb6 HD6 HE6 hW6 hoff
      obtain ⟨c1, c2⟩ := box_cells HE7.out
      go_wp2_with fail
      with_reducible refine (int_book Hk7.out hW7.size (by rw [nilled_length]; simp; omega)).mono ?_
      clear c1 c2
      rintro e w8 ⟨rfl, lv2, hk8, hoff⟩
      have Hm8 := hide (Hm7.out.off Hk7.out hoff)
      have Hb8 := hide (arr_off Hk7.out hoff Hb7.out (by decide) (by omega))
      have hW8 := hW7.trans (hoff.below Hk7.out hW7.size)
      rw [← nilled_snoc] at hk8
      have Hk8 := hide hk8
      clear hk8 Hm7 Hk7 Hb7 HE7 hW7 hoff
      go_wp2
      go_roundg q
      all_goals first
        | exact ⟨k + 1, _, lv2, by omega, by first | rfl | simp, by simp [hal]; omega, Hk8.out, Hm8.out, Hb8.out, hW8⟩
        | omega

theorem iown_walk {w : World} (h : Lays w ∧ Brn w) (v : Int) (v0 : 0 ≤ v) (v1 : v < 256) (x : Int) (x0 : 0 ≤ x) (x1 : x < 18446744073709551616) (y : Int) (y0 : 0 ≤ y) (y1 : y < 18446744073709551616) :
    Calls Tryz.prog 3 #[.int .u8 v, .int .u64 x, .int .u64 y] w fun e w' => e = .returned (.bool true) ∧ Below w.heap.size w w' := by
  rcases (by omega : v % 4 = 0 ∨ v % 4 = 1 ∨ v % 4 = 2 ∨ v % 4 = 3) with k | k | k | k
  · exact iown_0 h.1 h.2 v v0 v1 k x x0 x1 y y0 y1
  · exact iown_1 h.1 h.2 v v0 v1 k x x0 x1 y y0 y1
  · exact iown_2 h.1 h.2 v v0 v1 k x x0 x1 y y0 y1
  · exact iown_3 h.1 h.2 v v0 v1 k x x0 x1 y y0 y1

end Go.Proofs.YtmmkdihhcmcjjabGreatDoor
