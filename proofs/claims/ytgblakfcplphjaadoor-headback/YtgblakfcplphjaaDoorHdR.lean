/- layer 19: Read -/
import Derived.Test.YtgblakfcplphjaaDoorHdW
import Derived.BigQuiet
namespace Go.Proofs.YtgblakfcplphjaaDoor
open Go.RowKit
set_option linter.unusedVariables false

/-- a head as a value -/
def hdV (m i x n : Int) : Value := .agg #[.int .u8 m, .int .u8 i, .int .u64 x, .int .i64 n]
/-- what Read returns -/
def RdE (w' : World) (a : Nat → Addr) (r : Rd) (e : Ending) : Prop := match r with
  | .arg => e = .returned (.tuple #[hdV 0 0 0 0, .iface 102 (.pointer (some (a 0)))])
  | .bad k => ∃ g, e = .returned (.tuple #[hdV 0 0 0 0, .iface 63 (.pointer (some ⟨g, 0, none⟩))]) ∧ FltAt w' g (.iface 102 (.pointer (some (a 2)))) k ⟨#[]⟩
  | .hd m i x n => e = .returned (.tuple #[hdV m i x n, .nilIface])
theorem below_drewN (w : World) : ∀ n, Below w.heap.size w (w.drewN n) := by
  intro n
  induction n with
  | zero => exact Below.refl _ _
  | succ n ih => exact ih.drew
theorem results_ct {fn : Func} {t1 p : Tmp} {ty : TypeId} (h : fn.results = #[.cell p ty, .tmp t1]) (tmps : Array Value) (P : Program) (w : World) :
    (results fn tmps).run P w = (((asAddr (tmps.getD p undef)).run P w).andThen fun a w₁ => (loadVar ty a).run P w₁).andThen fun v w₂ => .ok (.tuple #[v, tmps.getD t1 undef]) w₂ := by
  simp only [results, h]
  simp [Sem.run_bind, Result.andThen]
  cases (asAddr (tmps[p]?.getD undef)).run P w with
  | ok a w1 => cases (loadVar ty a).run P w1 <;> rfl
  | halt a w1 => rfl
/-- four cells of one's own -/
theorem four_cells {w : World} {b : Nat} {x0 x1 x2 x3 : Value} {T : TypeId} (h : w.heap[b]? = some (.cells #[x0, x1, x2, x3] T (0, 0))) :
    w.cell? ⟨b, 0, none⟩ = some x0 ∧ w.cell? ⟨b, 1, none⟩ = some x1 ∧ w.cell? ⟨b, 2, none⟩ = some x2 ∧ w.cell? ⟨b, 3, none⟩ = some x3 ∧ (∀ j, w.frozen? ⟨b, j, none⟩ = false) := by
  refine ⟨by rw [Lib.cell_of_heap h]; rfl, by rw [Lib.cell_of_heap h]; rfl, by rw [Lib.cell_of_heap h]; rfl, by rw [Lib.cell_of_heap h]; rfl, fun j => ?_⟩
  simp only [World.frozen?, h]
  simp
theorem four_set {w : World} {b : Nat} {x0 x1 x2 x3 : Value} {T : TypeId} (y0 y1 y2 y3 : Value) (h : w.heap[b]? = some (.cells #[x0, x1, x2, x3] T (0, 0))) :
    ((((w.setCell ⟨b, 0, none⟩ y0).setCell ⟨b, 1, none⟩ y1).setCell ⟨b, 2, none⟩ y2).setCell ⟨b, 3, none⟩ y3).heap[b]? = some (.cells #[y0, y1, y2, y3] T (0, 0)) := by
  have h1 := heap_setCell_same w b 0 _ T y0 h
  have h2 := heap_setCell_same _ b 1 _ T y1 h1
  have h3 := heap_setCell_same _ b 2 _ T y2 h2
  exact heap_setCell_same _ b 3 _ T y3 h3
theorem four_below {B : Nat} {w w' : World} {b : Nat} (h : Below B w w') (hb : B ≤ b) (x y z u : Value) : Below B w ((((w'.setCell ⟨b, 0, none⟩ x).setCell ⟨b, 1, none⟩ y).setCell ⟨b, 2, none⟩ z).setCell ⟨b, 3, none⟩ u) :=
  (((h.setCell (p := ⟨b, 0, none⟩) hb _).setCell (p := ⟨b, 1, none⟩) hb _).setCell (p := ⟨b, 2, none⟩) hb _).setCell (p := ⟨b, 3, none⟩) hb _
theorem four_flt {w : World} {b g : Nat} {e : Value} {k : Int} {s : ByteArray} (h : FltAt w g e k s) (hg : g ≠ b) (x y z u : Value) : FltAt ((((w.setCell ⟨b, 0, none⟩ x).setCell ⟨b, 1, none⟩ y).setCell ⟨b, 2, none⟩ z).setCell ⟨b, 3, none⟩ u) g e k s := by
  unfold FltAt
  rw [heap_setCell_other _ _ _ _ hg, heap_setCell_other _ _ _ _ hg, heap_setCell_other _ _ _ _ hg, heap_setCell_other _ _ _ _ hg]
  exact h

set_option maxRecDepth 100000 in
set_option maxHeartbeats 4000000 in
theorem hread_any {w : World} {a : Nat → Addr} {es : List Int} {s : ByteArray} {k : Int} (hS : Snt w a) (hB0 : Beh w) (hb : uByt es) (hs : s = strOfNums es) (hl : es.length ≤ 9223372036854775807) :
    Calls Tryd.prog 9 #[.string s, .int .i64 k] w fun e w' => RdE w' a (rdH es k) e ∧ Below w.heap.size w w' := by
  have hsz : s.size = es.length := by rw [hs, strOfNums_size]
  have c0 := hS.cell 0 (by omega)
  simp only [sG, List.getD_cons_zero] at c0
  obtain ⟨W, hW⟩ : ∃ W, w.alloc (.cells #[.int .u8 0, .int .u8 0, .int .u64 0, .int .i64 0] 24) = W := ⟨_, rfl⟩
  have HB0 := hide (show Below w.heap.size w W from hW ▸ (Below.refl w.heap.size w).alloc (Nat.le_refl _) _)
  have HW := hide (show W.heap[w.heap.size]? = some (.cells #[.int .u8 0, .int .u8 0, .int .u64 0, .int .i64 0] 24 (0, 0)) from hW ▸ heap_alloc_new w _)
  have hWz : w.heap.size < W.heap.size := by rw [← hW]; simp
  have HS := hide (hS.below HB0.out)
  have HT := hide (hB0.below HB0.out)
  have c0' : W.cell? ⟨0, 0, none⟩ = some (.iface 102 (.pointer (some (a 0)))) := by
    have := HS.out.cell 0 (by omega)
    simpa only [sG, List.getD_cons_zero] using this
  have HFin := hide (show ∀ w2 (m i x n : Int), Below W.heap.size W w2 → rdH es k = .hd m i x n → (RdE ((((w2.setCell ⟨w.heap.size, 0, none⟩ (.int .u8 m)).setCell ⟨w.heap.size, 1, none⟩ (.int .u8 i)).setCell ⟨w.heap.size, 2, none⟩ (.int .u64 x)).setCell ⟨w.heap.size, 3, none⟩ (.int .i64 n)) a (rdH es k) (.returned (.tuple #[hdV m i x n, .nilIface])) ∧ Below w.heap.size w ((((w2.setCell ⟨w.heap.size, 0, none⟩ (.int .u8 m)).setCell ⟨w.heap.size, 1, none⟩ (.int .u8 i)).setCell ⟨w.heap.size, 2, none⟩ (.int .u64 x)).setCell ⟨w.heap.size, 3, none⟩ (.int .i64 n))) from fun w2 m i x n h2 he => by
    rw [he]; exact ⟨rfl, four_below (HB0.out.trans (h2.mono (by omega))) (Nat.le_refl _) _ _ _ _⟩)
  have g0 : 0 < w.heap.size := by
    rcases Nat.lt_or_ge 0 w.heap.size with g | g
    · exact g
    · simp [World.cell?, Array.getElem?_eq_none g] at c0
  have g1 : ¬ (0 = w.heap.size) := by omega
  have g2 : ¬ (w.heap.size = 0) := by omega
  clear hS hB0 c0
  obtain ⟨f0, f1, f2, f3, fz⟩ := four_cells HW.out
  have z0 := fz 0
  have z1 := fz 1
  have z2 := fz 2
  have z3 := fz 3
  clear fz
  have HBad := hide (show ∀ (w2 : World) (g : Nat) (j : Int), Below W.heap.size W w2 → W.heap.size ≤ g → FltAt w2 g (.iface 102 (.pointer (some (a 2)))) j ⟨#[]⟩ → rdH es k = .bad j → (RdE ((((w2.setCell ⟨w.heap.size, 0, none⟩ (.int .u8 0)).setCell ⟨w.heap.size, 1, none⟩ (.int .u8 0)).setCell ⟨w.heap.size, 2, none⟩ (.int .u64 0)).setCell ⟨w.heap.size, 3, none⟩ (.int .i64 0)) a (rdH es k) (.returned (.tuple #[hdV 0 0 0 0, .iface 63 (.pointer (some ⟨g, 0, none⟩))])) ∧ Below w.heap.size w ((((w2.setCell ⟨w.heap.size, 0, none⟩ (.int .u8 0)).setCell ⟨w.heap.size, 1, none⟩ (.int .u8 0)).setCell ⟨w.heap.size, 2, none⟩ (.int .u64 0)).setCell ⟨w.heap.size, 3, none⟩ (.int .i64 0))) from fun w2 g j h2 hg hf he => by
    rw [he]; exact ⟨⟨g, rfl, four_flt hf (by omega) _ _ _ _⟩, four_below (HB0.out.trans (h2.mono (by omega))) (Nat.le_refl _) _ _ _ _⟩)
  have Hix := hide (show ∀ p (h : p < s.size), (((s[p]'h).toNat : Nat) : Int) = Nt.lb es p from fun p h => by subst hs; exact utxt_at h hb)
  have HCut := hide (show ∀ x y, s.extract x y = strOfNums ((es.take y).drop x) from fun x y => by rw [hs, utxt_cut])
  have HBy := hide hb
  have HD := hide (show rdH es k = _ from rfl)
  obtain ⟨n, hn⟩ : ∃ n, es.length = n := ⟨_, rfl⟩
  have HN := hide hn
  rw [hn] at hsz hl
  clear hs hn hb
  by_cases h0 : k < 0
  · have hr : rdH es k = .arg := if_pos (Or.inl h0)
    rw [hr]
    go_enter Tryd.func9, Tryd.ntmps9
    go_wp2
    go_region
    all_goals go_wp2
    refine bodyPost_ret (v := .tuple #[hdV 0 0 0 0, .iface 102 (.pointer (some (a 0)))]) (by rw [results_ct rfl]; simp only [hdV]; go_simp) rfl ⟨rfl, (four_below HB0.out (Nat.le_refl _) _ _ _ _).drew⟩
  · by_cases h1 : (n : Int) < k
    · have hr : rdH es k = .arg := if_pos (Or.inr (by rw [HN.out]; exact h1))
      rw [hr]
      go_enter Tryd.func9, Tryd.ntmps9
      go_wp2
      go_region
      all_goals go_wp2
      refine bodyPost_ret (v := .tuple #[hdV 0 0 0 0, .iface 102 (.pointer (some (a 0)))]) (by rw [results_ct rfl]; simp only [hdV]; go_simp) rfl ⟨rfl, (four_below HB0.out (Nat.le_refl _) _ _ _ _).drew⟩
    · obtain ⟨kn, rfl⟩ : ∃ kn : Nat, k = kn := ⟨k.toNat, by omega⟩
      by_cases h2 : kn = n
      · subst h2
        have hr := hide (show rdH es kn = .bad kn by unfold rdH; rw [HN.out, if_neg (by omega), if_pos rfl])
        have CW := hide (wrongAt_any (k := (kn : Int)) HS.out)
        go_enter Tryd.func9, Tryd.ntmps9
        go_wp2_with fail
        refine CW.out.mono ?_
        rintro e w2 ⟨g, hg, rfl, hf, hb2⟩
        have HX := hide (HBad.out w2 g kn hb2 hg hf hr.out)
        have hw2 : w2.heap[w.heap.size]? = some (.cells #[.int .u8 0, .int .u8 0, .int .u64 0, .int .i64 0] 24 (0, 0)) := by rw [hb2.block _ hWz]; exact HW.out
        clear f0 f1 f2 f3 z0 z1 z2 z3 hf hb2
        obtain ⟨f0, f1, f2, f3, fz⟩ := four_cells hw2
        have z0 := fz 0
        have z1 := fz 1
        have z2 := fz 2
        have z3 := fz 3
        clear fz hw2
        go_wp2
        refine bodyPost_ret (v := .tuple #[hdV 0 0 0 0, .iface 63 (.pointer (some ⟨g, 0, none⟩))]) (by rw [results_ct rfl]; simp only [hdV]; go_simp) rfl HX.out
      · have q1 : ((kn : Int) == (n : Int)) = false := by simp; omega
        have hkn : kn < n := by omega
        have hps : kn < s.size := by omega
        have hx := Hix.out kn hps
        have hd := lb_byt HBy.out kn
        have HR := hide (show rdH es kn = (if hB (Nt.lb es kn / 32) (Nt.lb es kn % 32) = false then Rd.bad kn else if (n : Int) - kn < 1 + hN (Nt.lb es kn % 32) then Rd.bad n else .hd (Nt.lb es kn / 32) (Nt.lb es kn % 32) (if Nt.lb es kn % 32 < 24 then Nt.lb es kn % 32 else beV 0 ((es.drop (kn + 1)).take (hN (Nt.lb es kn % 32)).toNat)) (1 + hN (Nt.lb es kn % 32))) by
          unfold rdH; rw [HN.out, if_neg (by omega), if_neg (by omega), Int.toNat_natCast])
        obtain ⟨d, hd'⟩ : ∃ d, Nt.lb es kn = d := ⟨_, rfl⟩
        rw [hd'] at hx hd HR
        have ha := and31 d hd.1 hd.2
        obtain ⟨m, hm⟩ : ∃ m, d / 32 = m := ⟨_, rfl⟩
        obtain ⟨i, hi⟩ : ∃ i, d % 32 = i := ⟨_, rfl⟩
        have hmr : 0 ≤ m ∧ m ≤ 7 := by omega
        have hir : 0 ≤ i ∧ i < 32 := by omega
        rw [hi] at ha
        rw [hm, hi] at HR
        obtain ⟨b, hb⟩ : ∃ b, hB m i = b := ⟨_, rfl⟩
        have Hb := hide hb
        rw [hb] at HR
        clear hd' hb
        go_enter Tryd.func9, Tryd.ntmps9
        go_wp2
        go_quiet (fail)
        obtain ⟨V, hV⟩ : ∃ V, W.drewN nq = V := ⟨_, rfl⟩
        have hbV : Below W.heap.size W V := hV ▸ below_drewN W nq
        rw [hV]
        clear hV
        have HSV := hide (HS.out.below hbV)
        have HTV := hide (HT.out.below hbV)
        have CB := hide (begins_any (w := V) (m := m) (i := i) HTV.out hir.1 hir.2)
        rw [Hb.out] at CB
        have hV0 : V.heap[w.heap.size]? = some (.cells #[.int .u8 0, .int .u8 0, .int .u64 0, .int .i64 0] 24 (0, 0)) := by rw [hbV.block _ hWz]; exact HW.out
        clear f0 f1 f2 f3 z0 z1 z2 z3
        obtain ⟨f0, f1, f2, f3, fz⟩ := four_cells hV0
        have z0 := fz 0
        have z1 := fz 1
        have z2 := fz 2
        have z3 := fz 3
        clear fz
        go_wp2_with fail
        refine CB.out.mono ?_
        rintro e w' ⟨rfl, hw'⟩
        rw [hw']
        clear hw'
        cases b
        · rw [if_pos rfl] at HR
          have CW := hide (wrongAt_any (k := (kn : Int)) HSV.out)
          go_wp2_with fail
          refine CW.out.mono ?_
          rintro e w2 ⟨g, hg, rfl, hf, hb2⟩
          have hbw := hbV.trans (hb2.mono hbV.size)
          have HX := hide (HBad.out w2 g kn hbw (Nat.le_trans hbV.size hg) hf HR.out)
          have hw2 : w2.heap[w.heap.size]? = some (.cells #[.int .u8 0, .int .u8 0, .int .u64 0, .int .i64 0] 24 (0, 0)) := by rw [hbw.block _ hWz]; exact HW.out
          clear f0 f1 f2 f3 z0 z1 z2 z3 hf hb2
          obtain ⟨f0, f1, f2, f3, fz⟩ := four_cells hw2
          have z0 := fz 0
          have z1 := fz 1
          have z2 := fz 2
          have z3 := fz 3
          clear fz hw2
          go_wp2
          refine bodyPost_ret (v := .tuple #[hdV 0 0 0 0, .iface 63 (.pointer (some ⟨g, 0, none⟩))]) (by rw [results_ct rfl]; simp only [hdV]; go_simp) rfl HX.out
        · rw [if_neg (by decide)] at HR
          have tc := HTV.out.at hir.1 hir.2
          obtain ⟨hn0, hn8⟩ := hB_n Hb.out
          obtain ⟨c, hc⟩ : ∃ c : Nat, hN i = c := ⟨(hN i).toNat, by omega⟩
          rw [hc] at tc HR hn8
          by_cases hz : (n : Int) - kn < 1 + (c : Int)
          · rw [if_pos hz] at HR
            have CW := hide (wrongAt_any (k := (n : Int)) HSV.out)
            go_wp2_with fail
            refine CW.out.mono ?_
            rintro e w2 ⟨g, hg, rfl, hf, hb2⟩
            have hbw := hbV.trans (hb2.mono hbV.size)
            have HX := hide (HBad.out w2 g n hbw (Nat.le_trans hbV.size hg) hf HR.out)
            have hw2 : w2.heap[w.heap.size]? = some (.cells #[.int .u8 0, .int .u8 0, .int .u64 0, .int .i64 0] 24 (0, 0)) := by rw [hbw.block _ hWz]; exact HW.out
            clear f0 f1 f2 f3 z0 z1 z2 z3 hf hb2
            obtain ⟨f0, f1, f2, f3, fz⟩ := four_cells hw2
            have z0 := fz 0
            have z1 := fz 1
            have z2 := fz 2
            have z3 := fz 3
            clear fz hw2
            go_wp2
            refine bodyPost_ret (v := .tuple #[hdV 0 0 0 0, .iface 63 (.pointer (some ⟨g, 0, none⟩))]) (by rw [results_ct rfl]; simp only [hdV]; go_simp) rfl HX.out
          · rw [if_neg hz, Int.toNat_natCast] at HR
            have q3 : ((kn : Int) + 1).toNat = kn + 1 := by omega
            have q4 : ((kn : Int) + (1 + (c : Int))).toNat = kn + (1 + c) := by omega
            have CA := hide (argument_any (w := V) (i := i) (l := (es.take (kn + (1 + c))).drop (kn + 1)) (s := s.extract (kn + 1) (kn + (1 + c))) (HCut.out _ _) (fun y hy => HBy.out y (List.mem_of_mem_take (List.mem_of_mem_drop hy))) (by rw [List.length_drop, List.length_take]; omega) hir.1 (by omega))
            rw [show (es.take (kn + (1 + c))).drop (kn + 1) = (es.drop (kn + 1)).take c by rw [List.drop_take]; congr 1; omega] at CA
            obtain ⟨x, hx'⟩ : ∃ x, (if i < 24 then i else beV 0 ((es.drop (kn + 1)).take c)) = x := ⟨_, rfl⟩
            rw [hx'] at CA HR
            have HX := hide (HFin.out V m i x (1 + c) hbV HR.out)
            clear hx'
            have hsl : ∀ u, (Instr.slice 9 (.string s) (some (.int .i64 ((kn : Int) + 1))) (some (.int .i64 ((kn : Int) + (1 + (c : Int))))) none).run Tryd.prog u = .ok (.string (s.extract (kn + 1) (kn + (1 + c)))) u := fun u => by
              rw [run_slice_string u 9 _ _ _ _ _ Tryd.underlying9, q3, q4] <;> omega
            go_wp2_with fail
            refine CA.out.mono ?_
            rintro e w' ⟨rfl, hw'⟩
            rw [hw']
            clear hw' CA
            go_wp2
            refine bodyPost_ret (v := .tuple #[hdV m i x (1 + (c : Int)), .nilIface]) (by rw [results_ct rfl]; simp only [hdV]; go_simp) rfl HX.out

end Go.Proofs.YtgblakfcplphjaaDoor
