/- crucibleref07: twice, halved -/
import Derived.Test.YtigehipclkoecaaDoorDStr
import Derived.Test.YtigehipclkoecaaDoorAppZero
import Derived.Deep.LoopGhost
import Derived.Deep.RegionHeld3
import Derived.Deep.Cut
import Derived.LoopN
import Derived.Laws.BytesArg
namespace Go.Proofs.YtigehipclkoecaaDoor
open Go.RowKit
set_option linter.unusedVariables false

theorem Tryd.infoI : (Tryd.prog.info? 3).map (fun i => (i.zero, i.size, i.bytes)) = some (some (.int .i64 0), 1, 8) := by kernel_rfl
/-- digits as numbers, the first ahead -/
def Dz (l : List Int) : Prop := ∀ x ∈ l, 0 ≤ x ∧ x ≤ 9
def dz : List Int → Int
  | [] => 0
  | a :: l => a * tn l.length + dz l
theorem dz_append (xs ys : List Int) : dz (xs ++ ys) = dz xs * tn ys.length + dz ys := by
  induction xs with
  | nil => simp [dz]
  | cons a xs ih => simp only [List.cons_append, dz, ih, List.length_append, tn_add, Int.add_mul, Int.mul_assoc, Int.add_assoc]
theorem dz_snoc (xs : List Int) (b : Int) : dz (xs ++ [b]) = 10 * dz xs + b := by
  rw [dz_append, Int.mul_comm 10]
  simp [dz, tn]
theorem dz_drop {l : List Int} {i : Nat} (h : i < l.length) : dz (l.drop i) = Nt.lb l i * tn (l.length - (i + 1)) + dz (l.drop (i + 1)) := by
  rw [List.drop_eq_getElem_cons h, dz, List.length_drop]
  simp [Nt.lb, h]
theorem dz_take {l : List Int} {i : Nat} (h : i < l.length) : dz (l.take (i + 1)) = 10 * dz (l.take i) + Nt.lb l i := by
  rw [List.take_succ_eq_append_getElem h, dz_snoc]
  simp [Nt.lb, h]
theorem dz_dg (l : List Int) : dg (l.map (48 + ·)) = dz l := by
  induction l with
  | nil => rfl
  | cons a l ih => simp only [List.map_cons, dg, dz, ih, List.length_map]; rw [show 48 + a - 48 = a by omega]
theorem Dz.dg {l : List Int} (h : Dz l) : Dg (l.map (48 + ·)) := by
  intro x hx
  obtain ⟨y, hy, rfl⟩ := List.mem_map.1 hx
  have := h y hy
  omega
theorem Dz.snoc {l : List Int} {a : Int} (h : Dz l) (h0 : 0 ≤ a) (h1 : a ≤ 9) : Dz (l ++ [a]) := by
  intro x hx
  rcases List.mem_append.1 hx with g | g
  · exact h x g
  · simp at g; subst g; exact ⟨h0, h1⟩
theorem Dz.cons {l : List Int} {a : Int} (h : Dz l) (h0 : 0 ≤ a) (h1 : a ≤ 9) : Dz (a :: l) := by
  intro x hx
  rcases List.mem_cons.1 hx with g | g
  · subst g; exact ⟨h0, h1⟩
  · exact h x g
theorem lb_mem {l : List Int} {i : Nat} (h : i < l.length) : Nt.lb l i ∈ l := by
  simp [Nt.lb, h]
theorem drop_set {zs : List Int} {i : Nat} {x : Int} (h : i < zs.length) : (zs.set i x).drop i = x :: zs.drop (i + 1) := by
  rw [List.drop_eq_getElem_cons (by rw [List.length_set]; exact h)]
  congr 1
  · simp
  · rw [List.drop_set_of_lt (by omega)]

set_option maxRecDepth 100000 in
set_option maxHeartbeats 4000000 in
theorem twice7 {w : World} {v : Value} {l : List Int} {N : Nat} (h : Reads .i64 w v l) (hd : Dz l) (hN : l.length = N) (h0 : 0 < N) (hl : N ≤ 100000) :
    Calls Tryd.prog 13 #[v] w fun e w' => ∃ v' zs, e = .returned v' ∧ Reads .i64 w' v' zs ∧ Dz zs ∧ zs.length = N + 1 ∧ dz zs = 2 * dz l ∧ Below w.heap.size w w' := by
  obtain ⟨ao, cap, rfl, la1, la2, Ca⟩ := h
  rw [hN]
  obtain ⟨b, off, rfl, hb, hcell⟩ := Ca (by omega)
  have HC := hide hcell
  have HD := hide hd
  have HN := hide hN
  clear Ca hcell hd hN la1 la2
  go_enter Tryd.func13, Tryd.ntmps13
  go_wp2_with (at_make; refine wpList_make_row _ rfl _ _ 40 rfl 3 .i64 8 Tryd.underlying40 Tryd.infoI _ _ _ _ (N + 1) (N + 1) rfl rfl (by omega) (by omega) (Nat.le_refl _) (by omega) (by unfold maxLen; omega) ?_)
  intro w1 hr K1 hsz
  have gB : w.heap.size ≤ w.heap.size := Nat.le_refl _
  generalize hg : w.heap.size = g at *
  clear hsz
  go_wp2
  go_loopg [3, 5] N (fun c cv iv wr => ∃ (i : Nat) (cy : Int) (zs : List Int), i ≤ N ∧ c = i ∧ cv = .int .i64 cy ∧ iv = .int .i64 ((i : Int) - 1) ∧ zs.length = N + 1 ∧ Row .i64 3 wr g zs ∧ 0 ≤ cy ∧ cy ≤ 1 ∧ Dz (zs.drop (i + 1)) ∧ dz (zs.drop (i + 1)) + cy * tn (N - i) = 2 * dz (l.drop i) ∧ Below g w wr)
  case atStart => exact ⟨N, 0, _, Nat.le_refl _, rfl, rfl, rfl, by simp, hr, by decide, by decide, by (rw [List.drop_of_length_le (by simp)]; intro x hx; cases hx), by rw [List.drop_of_length_le (by simp), List.drop_of_length_le (by rw [HN.out]; omega)]; simp [dz], K1⟩
  case round =>
    obtain ⟨i, cy, zs, hi, hgi, rfl, rfl, hzl, hrow, c0, c1, hdz, heq, hbr⟩ := hrel
    have HZ := hide (And.intro hdz heq)
    clear hdz heq
    rcases Nat.eq_zero_or_pos i with z | z
    · subst z
      have f0 := hrow.frozen 0
      have g0 := hrow.cell (i := 0) (by omega)
      have hrow2 := hrow.set 0 cy
      have hb2 : Below g w (wr.setCell ⟨g, 0, none⟩ (.int .i64 cy)) := hbr.setCell (p := ⟨g, 0, none⟩) gB _
      have e0 : zs.set 0 cy = cy :: zs.drop 1 := by have := drop_set (zs := zs) (i := 0) (x := cy) (by omega); simpa using this
      have HF := hide (And.intro hrow2 (And.intro hb2 e0))
      clear hrow2 hb2 e0 hrow
      go_wp2
      go_ret
      obtain ⟨r2, b2, e0⟩ := HF.out
      obtain ⟨z1, z2⟩ := HZ.out
      refine ⟨_, zs.set 0 cy, rfl, ?_, ?_, by rw [List.length_set]; exact hzl, ?_, by rw [hg]; exact b2⟩
      · have hm := (r2.made (B := 0) (Nat.zero_le _) (n := N + 1) (by rw [List.length_set]; omega) (by unfold maxLen; omega))
        have := hm.reads
        rw [List.take_of_length_le (by rw [List.length_set]; omega)] at this
        simpa using this
      · rw [e0]; exact z1.cons c0 (by omega)
      · rw [e0, dz, List.length_drop, hzl, Nat.add_sub_cancel]
        rw [Nat.sub_zero, Nat.zero_add, List.drop_zero] at z2
        omega
    · obtain ⟨k, rfl⟩ : ∃ k, i = k + 1 := ⟨i - 1, by omega⟩
      have hc := HC.out k (by rw [HN.out]; omega)
      have hc2 := (hbr.cell (p := ⟨b, off + k, none⟩) (by simpa using hb)).trans hc
      have dr := HD.out _ (lb_mem (l := l) (i := k) (by rw [HN.out]; omega))
      obtain ⟨d, hdd⟩ : ∃ d, Nt.lb l k = d := ⟨_, rfl⟩
      rw [hdd] at hc2 dr
      obtain ⟨d0, d9⟩ := dr
      clear hc
      rw [show ((k + 1 : Nat) : Int) - 1 = (k : Int) by omega]
      have e1 : (2 * d + cy).tmod 10 = (2 * d + cy) % 10 := Int.tmod_eq_emod_of_nonneg (by omega)
      have e2 : (2 * d + cy).tdiv 10 = (2 * d + cy) / 10 := Int.tdiv_eq_ediv_of_nonneg (by omega)
      have f1 := hrow.frozen (k + 1)
      have g1 := hrow.cell (i := k + 1) (by omega)
      obtain ⟨x, hx⟩ : ∃ x, 2 * d + cy = x := ⟨_, rfl⟩
      rw [hx] at e1 e2
      have x0 : 0 ≤ x := by omega
      have x1 : x ≤ 19 := by omega
      have HR := hide (hrow.set (k + 1) (x % 10))
      have HB := hide (show Below g w (wr.setCell ⟨g, k + 1, none⟩ (.int .i64 (x % 10))) from hbr.setCell (p := ⟨g, k + 1, none⟩) gB _)
      clear hrow
      go_wp2
      go_roundg k
      case measure => omega
      case rel =>
        obtain ⟨z1, z2⟩ := HZ.out
        refine ⟨k, x / 10, zs.set (k + 1) (x % 10), by omega, rfl, rfl, rfl, by rw [List.length_set]; exact hzl, HR.out, by omega, by omega, ?_, ?_, HB.out⟩
        · rw [drop_set (by omega)]; exact z1.cons (by omega) (by omega)
        · rw [drop_set (by omega), dz, List.length_drop, hzl, dz_drop (l := l) (by rw [HN.out]; omega), HN.out, hdd, show N + 1 - (k + 1 + 1) = N - (k + 1) by omega, show N - k = N - (k + 1) + 1 by omega, tn_succ]
          generalize tn (N - (k + 1)) = t at *
          generalize dz (zs.drop (k + 1 + 1)) = u at *
          generalize dz (l.drop (k + 1)) = y at *
          have hxx := hx
          have a1 : x % 10 * t + x / 10 * (10 * t) = x * t := by
            rw [← Int.mul_assoc, ← Int.add_mul]; congr 1; omega
          have a2 : x * t = 2 * (d * t) + cy * t := by rw [← hx, Int.add_mul, Int.mul_assoc]
          omega

theorem own_below {w0 w w' : World} {B : Nat} {E : TypeId} {v : Value} {n : Nat} {xs : List Value} (h : Below B w0 w) (hB : B ≤ w.heap.size) (ho : w.ownsRow B E 1 v n xs) (hg : w.grownBy w' v.ownBlock) : Below B w0 w' :=
  h.grown hg hB (fun k hk => (ho.lt k hk).1)
theorem one_cell (w : World) (E : TypeId) (k : IntKind) (x : Int) : Cells k (w.alloc (.cells #[.int k x] E)) (some ⟨w.heap.size, 0, none⟩) [x] := by
  intro _
  refine ⟨w.heap.size, 0, rfl, by simp, fun i hi => ?_⟩
  have hi0 : i = 0 := by simpa using hi
  subst hi0
  rw [World.cell?_alloc_at _ _ _ _ (by simp)]
  rfl
theorem owns_keep {w w' : World} {base : Nat} {e : TypeId} {size : Nat} {v : Value} {n : Nat} {xs : List Value} (h : w.ownsRow base e size v n xs) (hb : Below w.heap.size w w') : w'.ownsRow base e size v n xs := by
  obtain ⟨h1, h2⟩ := h
  refine ⟨h1, ?_⟩
  rcases h2 with h2 | ⟨g, cap, cur, h3, h4, h5, h6, h7, h8⟩
  · exact .inl h2
  · exact .inr ⟨g, cap, cur, h3, h4, (hb.block g (Array.getElem?_eq_some_iff.1 h5).1).trans h5, h6, h7, h8⟩

set_option maxRecDepth 100000 in
set_option maxHeartbeats 4000000 in
theorem halved7 {w : World} {v : Value} {l : List Int} {N : Nat} (h : Reads .i64 w v l) (hd : Dz l) (hN : l.length = N) (h0 : 0 < N) (hl : N ≤ 100000) :
    Calls Tryd.prog 14 #[v] w fun e w' => ∃ v' zs, e = .returned v' ∧ Reads .i64 w' v' zs ∧ Dz zs ∧ ((zs.length = N ∧ 2 * dz zs = dz l) ∨ (zs.length = N + 1 ∧ 2 * dz zs = 10 * dz l)) ∧ Below w.heap.size w w' := by
  obtain ⟨ao, cap, rfl, la1, la2, Ca⟩ := h
  rw [hN]
  obtain ⟨b, off, rfl, hb, hcell⟩ := Ca (by omega)
  have HC := hide hcell
  have HD := hide hd
  have HN := hide hN
  clear Ca hcell hd hN la1 la2
  go_enter Tryd.func14, Tryd.ntmps14
  go_wp2
  go_loopg [3, 4, 5] N (fun c lv ov iv wr => ∃ (i : Nat) (lf : Int) (ys : List Int), i ≤ N ∧ c = N - i ∧ lv = .int .i64 lf ∧ iv = .int .i64 i ∧ ys.length = i ∧ 0 ≤ lf ∧ lf ≤ 1 ∧ Dz ys ∧ 2 * dz ys + lf = dz (l.take i) ∧ wr.ownsRow w.heap.size 3 1 ov i (ys.map (Value.int .i64)) ∧ Below w.heap.size w wr)
  case atStart => exact ⟨0, 0, [], by omega, rfl, rfl, rfl, rfl, by decide, by decide, (fun x hx => by cases hx), by simp [dz], ⟨rfl, .inl ⟨rfl, rfl⟩⟩, Below.refl _ _⟩
  case round =>
    obtain ⟨i, lf, ys, hi, hgi, rfl, rfl, hyl, f0, f1, hdz, heq, hown, hbr⟩ := hrel
    have HZ := hide (And.intro hdz heq)
    have hbs := hbr.size
    clear hdz heq
    by_cases hiN : i < N
    · have q4 : (i : Int) < (N : Int) := by omega
      have hc := (hbr.cell (p := ⟨b, off + i, none⟩) (by simpa using hb)).trans (HC.out i (by rw [HN.out]; omega))
      have dr := HD.out _ (lb_mem (l := l) (i := i) (by rw [HN.out]; omega))
      obtain ⟨d, hdd⟩ : ∃ d, Nt.lb l i = d := ⟨_, rfl⟩
      rw [hdd] at hc dr
      obtain ⟨d0, d9⟩ := dr
      have Hdd := hide hdd
      clear hdd
      obtain ⟨x, hx⟩ : ∃ x, 10 * lf + d = x := ⟨_, rfl⟩
      have x0 : 0 ≤ x := by omega
      have x1 : x ≤ 19 := by omega
      have e1 : x.tmod 2 = x % 2 := Int.tmod_eq_emod_of_nonneg (by omega)
      have e2 : x.tdiv 2 = x / 2 := Int.tdiv_eq_ediv_of_nonneg (by omega)
      go_wp2_with (at_builtin; refine wpList_append_cells _ rfl _ _ 40 rfl w.heap.size 3 .i64 8 Tryd.underlying40 Tryd.infoI _ i ys rfl (hown.alloc _) (some ⟨wr.heap.size, 0, none⟩) 1 [x / 2] rfl (one_cell _ _ _ _) (by unfold maxLen; simp; omega) (by simp; omega) (by simp; omega) ?_)
      intro v' w5 hown' hgrow
      have hb5 : Below w.heap.size w w5 := own_below (hbr.alloc hbs _) (by simp; omega) (hown.alloc _) hgrow
      have HO := hide (And.intro hown' hb5)
      clear hown' hgrow hown hb5 hc
      go_wp2
      go_roundg (N - (i + 1))
      case measure => omega
      case rel =>
        obtain ⟨z1, z2⟩ := HZ.out
        refine ⟨i + 1, x % 2, ys ++ [x / 2], by omega, rfl, rfl, by simp, by simp [hyl], by omega, by omega, z1.snoc (by omega) (by omega), ?_, by simpa using HO.out.1, HO.out.2⟩
        rw [dz_snoc, dz_take (by rw [HN.out]; omega), Hdd.out]
        omega
    · have hiE : i = N := by omega
      subst hiE
      have tk := hide (show l.take l.length = l from List.take_length)
      by_cases lz : lf = 0
      · subst lz
        go_wp2
        go_ret
        obtain ⟨z1, z2⟩ := HZ.out
        rw [← HN.out, tk.out] at z2
        exact ⟨_, ys, rfl, reads_of_owns hown, z1, .inl ⟨hyl, by omega⟩, hbr⟩
      · have l1 : lf = 1 := by omega
        subst l1
        go_wp2_with (at_builtin; refine wpList_append_cells _ rfl _ _ 40 rfl w.heap.size 3 .i64 8 Tryd.underlying40 Tryd.infoI _ i ys rfl (hown.alloc _) (some ⟨wr.heap.size, 0, none⟩) 1 [5] rfl (one_cell _ _ _ _) (by unfold maxLen; simp; omega) (by simp; omega) (by simp; omega) ?_)
        intro v' w5 hown' hgrow
        have hb5 : Below w.heap.size w w5 := own_below (hbr.alloc hbs _) (by simp; omega) (hown.alloc _) hgrow
        have HO := hide (And.intro (show Reads .i64 w5 v' (ys ++ [5]) from reads_of_owns (n := i + 1) (by simpa using hown')) hb5)
        clear hown' hgrow hown hb5
        go_wp2
        go_ret
        obtain ⟨z1, z2⟩ := HZ.out
        rw [← HN.out, tk.out] at z2
        refine ⟨_, ys ++ [5], rfl, HO.out.1, z1.snoc (by decide) (by decide), .inr ⟨by simp [hyl], ?_⟩, HO.out.2⟩
        rw [dz_snoc]
        omega

end Go.Proofs.YtigehipclkoecaaDoor
