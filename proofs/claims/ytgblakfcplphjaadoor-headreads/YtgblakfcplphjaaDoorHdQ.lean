/- layer 19: the document's Read -/
import Derived.Test.YtgblakfcplphjaaDoorHdF
import Derived.Test.YtgblakfcplphjaaDoorHdR
namespace Go.Proofs.YtgblakfcplphjaaDoor
open Go.RowKit
set_option linter.unusedVariables false

def fl8 (c k : Int) : Value := .agg #[.int .i64 c, .int .i64 k, .string ⟨#[]⟩]
/-- what the document's Read returns -/
def RrV (r : Rd) : Value := match r with
  | .arg => .tuple #[hdV 0 0 0 0, fl8 1 0]
  | .bad k => .tuple #[hdV 0 0 0 0, fl8 3 k]
  | .hd m i x n => .tuple #[hdV m i x n, fl8 0 0]
theorem results_cc {fn : Func} {p q : Tmp} {ty ty' : TypeId} (h : fn.results = #[.cell p ty, .cell q ty']) (tmps : Array Value) (P : Program) (w : World) :
    (results fn tmps).run P w = (((asAddr (tmps.getD p undef)).run P w).andThen fun a w₁ => (loadVar ty a).run P w₁).andThen fun v w₂ => (((asAddr (tmps.getD q undef)).run P w₂).andThen fun a w₃ => (loadVar ty' a).run P w₃).andThen fun u w₄ => .ok (.tuple #[v, u]) w₄ := by
  simp only [results, h]
  simp [Sem.run_bind, Result.andThen]
  cases (asAddr (tmps[p]?.getD undef)).run P w with
  | ok a w1 =>
    dsimp only
    cases (loadVar ty a).run P w1 with
    | ok v w2 =>
      dsimp only
      cases (asAddr (tmps[q]?.getD undef)).run P w2 with
      | ok a w3 =>
        dsimp only
      | halt a w3 => rfl
    | halt a w2 => rfl
  | halt a w1 => rfl
/-- Read's two results lie in two blocks of its own -/
structure Two (w W : World) : Prop where
  low : Below w.heap.size w W
  hd : W.heap[w.heap.size]? = some (.cells #[.int .u8 0, .int .u8 0, .int .u64 0, .int .i64 0] 24 (0, 0))
  fl : W.heap[w.heap.size + 1]? = some (.cells #[.int .i64 0, .int .i64 0, .string ⟨#[]⟩] 30 (0, 0))
theorem put7 {w W : World} (h : Below w.heap.size w W) (a b c d e f g : Value) : Below w.heap.size w (((((((W.setCell ⟨w.heap.size, 0, none⟩ a).setCell ⟨w.heap.size, 1, none⟩ b).setCell ⟨w.heap.size, 2, none⟩ c).setCell ⟨w.heap.size, 3, none⟩ d).setCell ⟨w.heap.size + 1, 0, none⟩ e).setCell ⟨w.heap.size + 1, 1, none⟩ f).setCell ⟨w.heap.size + 1, 2, none⟩ g) :=
  three_below (four_below h (Nat.le_refl _) _ _ _ _) (by omega) _ _ _

set_option maxRecDepth 100000 in
set_option maxHeartbeats 4000000 in
theorem rread_any {w : World} {es : List Int} {s : ByteArray} {k : Int} (hb : uByt es) (hs : s = strOfNums es) (hl : es.length ≤ 9223372036854775807) :
    Calls Tryd.prog 10 #[.string s, .int .i64 k] w fun e w' => e = .returned (RrV (rdH es k)) ∧ Below w.heap.size w w' := by
  have hsz : s.size = es.length := by rw [hs, strOfNums_size]
  obtain ⟨U, hU⟩ : ∃ U, w.alloc (.cells #[.int .u8 0, .int .u8 0, .int .u64 0, .int .i64 0] 24) = U := ⟨_, rfl⟩
  have hUz : U.heap.size = w.heap.size + 1 := by rw [← hU]; simp
  obtain ⟨W, hW⟩ : ∃ W, U.alloc (.cells #[.int .i64 0, .int .i64 0, .string ⟨#[]⟩] 30) = W := ⟨_, rfl⟩
  have HW := hide (show Two w W from by
    have b0 : Below w.heap.size w U := hU ▸ (Below.refl w.heap.size w).alloc (Nat.le_refl _) _
    have b1 : Below U.heap.size U W := hW ▸ (Below.refl _ _).alloc (Nat.le_refl _) _
    refine ⟨b0.trans (b1.mono b0.size), ?_, ?_⟩
    · rw [b1.block _ (by omega), ← hU]; exact heap_alloc_new w _
    · rw [← hUz, ← hW]; exact heap_alloc_new U _)
  obtain ⟨f0, f1, f2, f3, fz⟩ := four_cells HW.out.hd
  have z0 := fz 0
  have z1 := fz 1
  have z2 := fz 2
  have z3 := fz 3
  have t0 : W.cell? ⟨w.heap.size + 1, 0, none⟩ = some (.int .i64 0) := by rw [Lib.cell_of_heap HW.out.fl]; rfl
  have t1 : W.cell? ⟨w.heap.size + 1, 1, none⟩ = some (.int .i64 0) := by rw [Lib.cell_of_heap HW.out.fl]; rfl
  have t2 : W.cell? ⟨w.heap.size + 1, 2, none⟩ = some (.string ⟨#[]⟩) := by rw [Lib.cell_of_heap HW.out.fl]; rfl
  have y0 : W.frozen? ⟨w.heap.size + 1, 0, none⟩ = false := by simp [World.frozen?, HW.out.fl]
  have y1 : W.frozen? ⟨w.heap.size + 1, 1, none⟩ = false := by simp [World.frozen?, HW.out.fl]
  have y2 : W.frozen? ⟨w.heap.size + 1, 2, none⟩ = false := by simp [World.frozen?, HW.out.fl]
  have HP := hide (put7 HW.out.low)
  clear fz
  have Hix := hide (show ∀ p (h : p < s.size), (((s[p]'h).toNat : Nat) : Int) = Nt.lb es p from fun p h => by subst hs; exact utxt_at h hb)
  have HBy := hide hb
  obtain ⟨n, hn⟩ : ∃ n, es.length = n := ⟨_, rfl⟩
  have HN := hide hn
  rw [hn] at hsz hl
  clear hs hn hb
  by_cases h0 : k < 0
  · have hr : rdH es k = .arg := if_pos (Or.inl h0)
    rw [hr]
    go_enter Tryd.func10, Tryd.ntmps10
    go_wp2
    refine bodyPost_ret (v := .tuple #[hdV 0 0 0 0, fl8 1 0]) (by rw [results_cc rfl]; simp only [hdV, fl8]; go_simp) rfl ⟨rfl, HP.out _ _ _ _ _ _ _⟩
  · by_cases h1 : (n : Int) < k
    · have hr : rdH es k = .arg := if_pos (Or.inr (by rw [HN.out]; exact h1))
      rw [hr]
      go_enter Tryd.func10, Tryd.ntmps10
      go_wp2
      refine bodyPost_ret (v := .tuple #[hdV 0 0 0 0, fl8 1 0]) (by rw [results_cc rfl]; simp only [hdV, fl8]; go_simp) rfl ⟨rfl, HP.out _ _ _ _ _ _ _⟩
    · obtain ⟨kn, rfl⟩ : ∃ kn : Nat, k = kn := ⟨k.toNat, by omega⟩
      by_cases h2 : kn = n
      · subst h2
        have hr : rdH es kn = .bad kn := by unfold rdH; rw [HN.out, if_neg (by omega), if_pos rfl]
        rw [hr]
        go_enter Tryd.func10, Tryd.ntmps10
        go_wp2
        refine bodyPost_ret (v := .tuple #[hdV 0 0 0 0, fl8 3 kn]) (by rw [results_cc rfl]; simp only [hdV, fl8]; go_simp) rfl ⟨rfl, HP.out _ _ _ _ _ _ _⟩
      · have q1 : ((kn : Int) == (n : Int)) = false := by simp; omega
        have hkn : kn < n := by omega
        have hps : kn < s.size := by omega
        have hx := Hix.out kn hps
        have hd := lb_byt HBy.out kn
        have HR := hide (show rdH es kn = (if hB (Nt.lb es kn / 32) (Nt.lb es kn % 32) = false then Rd.bad kn else if (n : Int) - kn < 1 + hN (Nt.lb es kn % 32) then Rd.bad n else .hd (Nt.lb es kn / 32) (Nt.lb es kn % 32) (if Nt.lb es kn % 32 < 24 then Nt.lb es kn % 32 else beV 0 ((es.drop (kn + 1)).take (hN (Nt.lb es kn % 32)).toNat)) (1 + hN (Nt.lb es kn % 32))) by
          unfold rdH; rw [HN.out, if_neg (by omega), if_neg (by omega), Int.toNat_natCast])
        obtain ⟨d, hd'⟩ : ∃ d, Nt.lb es kn = d := ⟨_, rfl⟩
        rw [hd'] at hx hd HR
        obtain ⟨m, hm⟩ : ∃ m, d / 32 = m := ⟨_, rfl⟩
        obtain ⟨i, hi⟩ : ∃ i, d % 32 = i := ⟨_, rfl⟩
        have hmr : 0 ≤ m ∧ m ≤ 7 := by omega
        have hir : 0 ≤ i ∧ i < 32 := by omega
        have hdt : d.tdiv 32 = m := by rw [Int.tdiv_eq_ediv_of_nonneg hd.1]; exact hm
        have hmt : d.tmod 32 = i := by rw [Int.tmod_eq_emod_of_nonneg hd.1]; exact hi
        rw [hm, hi] at HR
        have CB := hide (rbehind_any (w := W) (m := m) (i := i) hir.1 hir.2)
        obtain ⟨b, hb⟩ : ∃ b, hB m i = b := ⟨_, rfl⟩
        have Hb := hide hb
        rw [hb] at HR CB
        clear hd' hb
        cases b
        · rw [if_pos rfl] at HR
          rw [if_neg (by decide)] at CB
          rw [HR.out]
          go_enter Tryd.func10, Tryd.ntmps10
          go_wp2_with (go_at_call 23; refine CB.out.mono ?_; rintro e w' ⟨rfl, hw'⟩; rw [hw']; clear hw')
          refine bodyPost_ret (v := .tuple #[hdV 0 0 0 0, fl8 3 kn]) (by rw [results_cc rfl]; simp only [hdV, fl8]; go_simp) rfl ⟨rfl, HP.out _ _ _ _ _ _ _⟩
        · rw [if_neg (by decide)] at HR
          rw [if_pos rfl] at CB
          obtain ⟨hn0, hn8⟩ := hB_n Hb.out
          have hc24 := hN_cases i
          obtain ⟨c, hc⟩ : ∃ c : Nat, hN i = c := ⟨(hN i).toNat, by omega⟩
          rw [hc] at CB HR hn8 hc24
          have HC24 := hide hc24
          clear hc24 hn0 hc
          by_cases hz : (n : Int) - kn < 1 + (c : Int)
          · rw [if_pos hz] at HR
            rw [HR.out]
            have hz' : (n : Int) - kn - 1 < c := by omega
            have cn : ¬ ((c : Int) < 0) := by omega
            go_enter Tryd.func10, Tryd.ntmps10
            go_wp2_with (go_at_call 23; refine CB.out.mono ?_; rintro e w' ⟨rfl, hw'⟩; rw [hw']; clear hw')
            refine bodyPost_ret (v := .tuple #[hdV 0 0 0 0, fl8 3 n]) (by rw [results_cc rfl]; simp only [hdV, fl8]; go_simp) rfl ⟨rfl, HP.out _ _ _ _ _ _ _⟩
          · rw [if_neg hz, Int.toNat_natCast] at HR
            have hz' : ¬ ((n : Int) - kn - 1 < c) := by omega
            have cn : ¬ ((c : Int) < 0) := by omega
            by_cases h24 : i < 24
            · obtain rfl : c = 0 := by have := HC24.out; omega
              have hr : rdH es kn = .hd m i i 1 := by rw [HR.out, if_pos h24]; rfl
              rw [hr]
              go_enter Tryd.func10, Tryd.ntmps10
              go_wp2_with (go_at_call 23; refine CB.out.mono ?_; rintro e w' ⟨rfl, hw'⟩; rw [hw']; clear hw')
              go_loopg [9, 10] 0 (fun g y k wr => g = 0 ∧ k = .int .i64 1 ∧ y = .int .u64 i ∧ wr = W)
              case atStart => exact ⟨rfl, rfl, rfl, rfl⟩
              case round =>
                obtain ⟨rfl, rfl, rfl, rfl⟩ := hrel
                go_wp2
                refine bodyPost_ret (v := .tuple #[hdV m i i 1, fl8 0 0]) (by rw [results_cc rfl]; simp only [hdV, fl8]; go_simp) rfl ⟨rfl, HP.out _ _ _ _ _ _ _⟩
            · obtain ⟨l, hlv⟩ : ∃ l, (es.drop (kn + 1)).take c = l := ⟨_, rfl⟩
              have hll : l.length = c := by rw [← hlv, List.length_take, List.length_drop, HN.out]; omega
              have hlb : uByt l := fun y hy => HBy.out y (List.mem_of_mem_drop (List.mem_of_mem_take (hlv ▸ hy)))
              have hlg : ∀ j, j < c → Nt.lb l j = Nt.lb es (kn + (j + 1)) := fun j hj => by
                rw [← hlv, Nt.lb_take hj]
                simp only [Nt.lb, List.getD_eq_getElem?_getD, List.getElem?_drop]
                rw [show kn + 1 + j = kn + (j + 1) by omega]
              have HLB := hide (lb_byt hlb)
              have HT := hide (show ∀ j, j < c → beV 0 (l.take (j + 1)) = 256 * beV 0 (l.take j) + Nt.lb l j from fun j h => by
                rw [List.take_succ_eq_append_getElem (by omega), beV_snoc]; simp [Nt.lb, hll, h])
              have HV := hide (show ∀ j, j < c → 0 ≤ beV 0 (l.take j) ∧ beV 0 (l.take j) < 72057594037927936 from fun j h => by
                have := beV_lt (l.take j) 0 0 (by omega) (by decide) (fun y hy => hlb y (List.mem_of_mem_take hy))
                rw [List.length_take, Nat.min_eq_left (by omega), Nat.zero_add] at this
                rcases (by omega : j = 0 ∨ j = 1 ∨ j = 2 ∨ j = 3 ∨ j = 4 ∨ j = 5 ∨ j = 6 ∨ j = 7) with rfl | rfl | rfl | rfl | rfl | rfl | rfl | rfl <;> simp only [p256] at this <;> omega)
              have HE := hide (show beV 0 (l.take c) = beV 0 l by rw [← hll, List.take_length])
              rw [if_neg h24, hlv] at HR
              obtain ⟨r, hr'⟩ : ∃ r, beV 0 l = r := ⟨_, rfl⟩
              rw [hr'] at HE HR
              rw [HR.out]
              have HLG := hide hlg
              clear hr' hlv hll hlb hlg
              go_enter Tryd.func10, Tryd.ntmps10
              go_wp2_with (go_at_call 23; refine CB.out.mono ?_; rintro e w' ⟨rfl, hw'⟩; rw [hw']; clear hw')
              go_loopg [9, 10] c (fun g y k wr => ∃ j : Nat, j ≤ c ∧ g = c - j ∧ k = .int .i64 ((j : Int) + 1) ∧ y = .int .u64 (beV 0 (l.take j)) ∧ wr = W)
              case atStart => exact ⟨0, by omega, by omega, by simp, rfl, rfl⟩
              case round =>
                obtain ⟨j, hj, hg, rfl, rfl, rfl⟩ := hrel
                by_cases hjc : j < c
                · have j1 : (j : Int) + 1 ≤ (c : Int) := by omega
                  have hps2 : kn + (j + 1) < s.size := by omega
                  have hx2 := Hix.out (kn + (j + 1)) hps2
                  rw [← HLG.out j hjc] at hx2
                  have hd2 := HLB.out j
                  have ht := HT.out j hjc
                  have hv := HV.out j hjc
                  obtain ⟨d2, hd2'⟩ : ∃ d, Nt.lb l j = d := ⟨_, rfl⟩
                  obtain ⟨x, hx'⟩ : ∃ x, beV 0 (l.take j) = x := ⟨_, rfl⟩
                  rw [hd2'] at hx2 hd2 ht
                  rw [hx'] at ht hv ⊢
                  have HT2 := hide ht
                  have q5 : ((kn : Int) + ((j : Int) + 1)).toNat = kn + (j + 1) := by omega
                  have q6 : (kn : Int) + ((j : Int) + 1) < (n : Int) := by omega
                  clear hd2' hx' ht
                  go_wp2
                  go_roundg (c - (j + 1))
                  case measure => omega
                  case rel => exact ⟨j + 1, by omega, rfl, by simp, by rw [HT2.out], rfl⟩
                · obtain rfl : j = c := by omega
                  have j1 : ¬ ((j : Int) + 1 ≤ (j : Int)) := by omega
                  rw [HE.out]
                  go_wp2
                  refine bodyPost_ret (v := .tuple #[hdV m i r (1 + (j : Int)), fl8 0 0]) (by rw [results_cc rfl]; simp only [hdV, fl8]; go_simp) rfl ⟨rfl, HP.out _ _ _ _ _ _ _⟩


end Go.Proofs.YtgblakfcplphjaaDoor