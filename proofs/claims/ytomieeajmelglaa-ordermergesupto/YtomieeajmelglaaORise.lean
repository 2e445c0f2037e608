/- rise -/
import Derived.Test.YtomieeajmelglaaOBag
namespace Go.Proofs.Ytomieeajmelglaa
open Go.RowKit Go.Shelf
set_option linter.unusedVariables false
set_option linter.unusedSimpArgs false

def hAt (hs : List Hi) (i : Nat) : Hi := hs[i]?.getD ((0, 0), 0)
theorem hAt_eq {hs : List Hi} {i : Nat} (h : i < hs.length) : hAt hs i = hs[i] := by simp [hAt, h]
def swp (hs : List Hi) (i j : Nat) : List Hi := (hs.set i (hAt hs j)).set j (hAt hs i)
theorem swp_len (hs : List Hi) (i j : Nat) : (swp hs i j).length = hs.length := by simp [swp]
theorem swp_comm (hs : List Hi) {i j : Nat} (h : i ≠ j) : (hs.set j (hAt hs i)).set i (hAt hs j) = swp hs i j := by
  unfold swp; rw [List.set_comm _ _ h]
def riseF (ah : Hi → Hi → Bool) (hs : List Hi) (a : Nat) : List Hi :=
  if h : 0 < a then if ah (hAt hs a) (hAt hs ((a - 1) / 2)) then riseF ah (swp hs a ((a - 1) / 2)) ((a - 1) / 2) else hs else hs
termination_by a
theorem riseF_len (ah : Hi → Hi → Bool) (hs : List Hi) (a : Nat) : (riseF ah hs a).length = hs.length := by
  fun_induction riseF ah hs a with
  | case1 hs a h h2 ih => rw [ih, swp_len]
  | case2 => rfl
  | case3 => rfl
theorem belx_three {X : Nat → Prop} {n g i : Nat} {u v x : Value} (h : X g) (W : World) : BelX X n W (((W.setCell ⟨g, i, none⟩ u).setCell ⟨g, i + 1, none⟩ v).setCell ⟨g, i + 2, none⟩ x) := ((belx_set _ _ h).trans (belx_set _ _ h)).trans (belx_set _ _ h)

theorem HpRow.drew {base : Nat} {w : World} {hv : Value} {hs : List Hi} (h : HpRow base w hv hs) : HpRow base w.drew hv hs := h
theorem BelX.drew {X : Nat → Prop} {n : Nat} {a b : World} (h : BelX X n a b) : BelX X n a b.drew := ⟨h.os, h.tape, h.output, h.size, h.block⟩
theorem swap_done {base g cap n a b : Nat} {w w8 : World} {hs : List Hi} {x y : Hi} (hR : HpRow base w8 (.slice (some ⟨g, 0, none⟩) n cap) hs) (hL : hs.length = n) (ha : a < n) (hb : b < n) (hx : hAt hs a = x) (hy : hAt hs b = y) (hB : BelX (fun k => k = g) w.heap.size w w8) :
    HpRow base ((((((w8.setCell ⟨g, a * 3, none⟩ (.int .i64 y.1.1)).setCell ⟨g, a * 3 + 1, none⟩ (.int .i64 y.1.2)).setCell ⟨g, a * 3 + 2, none⟩ (.int .i64 y.2)).setCell ⟨g, b * 3, none⟩ (.int .i64 x.1.1)).setCell ⟨g, b * 3 + 1, none⟩ (.int .i64 x.1.2)).setCell ⟨g, b * 3 + 2, none⟩ (.int .i64 x.2)).drew (.slice (some ⟨g, 0, none⟩) n cap) (swp hs a b) ∧
      BelX (fun k => k = g) w.heap.size w ((((((w8.setCell ⟨g, a * 3, none⟩ (.int .i64 y.1.1)).setCell ⟨g, a * 3 + 1, none⟩ (.int .i64 y.1.2)).setCell ⟨g, a * 3 + 2, none⟩ (.int .i64 y.2)).setCell ⟨g, b * 3, none⟩ (.int .i64 x.1.1)).setCell ⟨g, b * 3 + 1, none⟩ (.int .i64 x.1.2)).setCell ⟨g, b * 3 + 2, none⟩ (.int .i64 x.2)).drew := by
  have hX : (fun k => k = g) g := rfl
  refine ⟨?_, ((((((hB.trans (belx_set _ _ hX)).trans (belx_set _ _ hX)).trans (belx_set _ _ hX)).trans (belx_set _ _ hX)).trans (belx_set _ _ hX)).trans (belx_set _ _ hX)).drew⟩
  have := (hR.set hL ha y).set (by rw [List.length_set]; exact hL) hb x
  rw [swp, hx, hy]
  exact this.drew

set_option maxRecDepth 100000 in
set_option maxHeartbeats 8000000 in
theorem rise_any {w : World} {base B g cap n : Nat} {cv : Value} {hs : List Hi} {f : It → It → Int} {I : World → Prop} (hb : w.cell? ⟨B, 0, none⟩ = some cv) (hB : B < w.heap.size) (hne : B ≠ g) (hg : g < w.heap.size) (hrow : HpRow base w (.slice (some ⟨g, 0, none⟩) n cap) hs) (hn : hs.length = n) (hn1 : 1 ≤ n) (hn2 : n ≤ 1099511627776) (hc : CmpIs I cv f) (hI : ∀ W, BelX (fun k => k = g) w.heap.size w W → I W) :
    Calls Try.prog 48 #[.pointer (some ⟨B, 0, none⟩), .slice (some ⟨g, 0, none⟩) n cap] w fun e w' => e = .returned (.tuple #[]) ∧ HpRow base w' (.slice (some ⟨g, 0, none⟩) n cap) (riseF (ahF f) hs (n - 1)) ∧ BelX (fun k => k = g) w.heap.size w w' := by
  have HR := hide hrow
  have HB := hide hb
  have HC := hide hc
  have HI := hide hI
  clear hrow hb hc hI
  obtain ⟨Z, hZ⟩ : ∃ Z, riseF (ahF f) hs (n - 1) = Z := ⟨_, rfl⟩
  rw [hZ]
  have HZ := hide hZ
  have HN := hide hn
  clear hZ hn
  have e0 : IntKind.i64.wrap ((n : Int) - 1) = ((n - 1 : Nat) : Int) := by rw [IntKind.wrap_i64]; omega
  go_enter Try.func48, Try.ntmps48
  go_wp2
  clear e0
  go_loopw [4] (fun p wr => ∃ (a : Nat) (hs' : List Hi), p = .int .i64 a ∧ a < n ∧ Hid (HpRow base wr (.slice (some ⟨g, 0, none⟩) n cap) hs') ∧ Hid (hs'.length = n) ∧ Hid (riseF (ahF f) hs' a = Z) ∧ Hid (BelX (fun k => k = g) w.heap.size w wr)) (fun p _ => (intOf p).toNat)
  case atStart => exact ⟨n - 1, hs, rfl, by omega, HR, HN, HZ, hide (BelX.refl _ _ _)⟩
  case round =>
    obtain ⟨a, hs', rfl, ha, hR, hL, hZ, hBx⟩ := hrel
    by_cases h0 : 0 < a
    · have q0 : (0 : Int) < (a : Int) := by omega
      obtain ⟨b, hbd⟩ : ∃ b, (a - 1) / 2 = b := ⟨_, rfl⟩
      have hbn : b < n := by omega
      have e1 : IntKind.i64.wrap ((a : Int) - 1) = ((a - 1 : Nat) : Int) := by rw [IntKind.wrap_i64]; omega
      have e2 : ((a - 1 : Nat) : Int) / 2 = (b : Int) := by omega
      have q1 : (a : Int) < (n : Int) := by omega
      have q2 : (b : Int) < (n : Int) := by omega
      have hab : a ≠ b := by omega
      obtain ⟨⟨⟨x1, x2⟩, x3⟩, hx⟩ : ∃ x, hAt hs' a = x := ⟨_, rfl⟩
      obtain ⟨⟨⟨y1, y2⟩, y3⟩, hy⟩ : ∃ x, hAt hs' b = x := ⟨_, rfl⟩
      have cx := hR.out.cell hL.out ha
      have cy := hR.out.cell hL.out hbn
      rw [← hAt_eq (by rw [hL.out]; exact ha), hx] at cx
      rw [← hAt_eq (by rw [hL.out]; exact hbn), hy] at cy
      have hBw := hBx.out.size
      have CF : Hid (∀ U, Below wr.heap.size wr U → U.cell? ⟨g, a * 3, none⟩ = some (.int .i64 x1) ∧ U.cell? ⟨g, a * 3 + 1, none⟩ = some (.int .i64 x2) ∧ U.cell? ⟨g, a * 3 + 2, none⟩ = some (.int .i64 x3) ∧ U.cell? ⟨g, b * 3, none⟩ = some (.int .i64 y1) ∧ U.cell? ⟨g, b * 3 + 1, none⟩ = some (.int .i64 y2) ∧ U.cell? ⟨g, b * 3 + 2, none⟩ = some (.int .i64 y3)) := hide (fun U k => ⟨(k.cell (p := ⟨g, _, none⟩) (by simp; omega)).trans cx.1, (k.cell (p := ⟨g, _, none⟩) (by simp; omega)).trans cx.2.1, (k.cell (p := ⟨g, _, none⟩) (by simp; omega)).trans cx.2.2, (k.cell (p := ⟨g, _, none⟩) (by simp; omega)).trans cy.1, (k.cell (p := ⟨g, _, none⟩) (by simp; omega)).trans cy.2.1, (k.cell (p := ⟨g, _, none⟩) (by simp; omega)).trans cy.2.2⟩)
      have CA := hide (fun (U : World) (k : Below wr.heap.size wr U) => ahead_any (w := U) (B := B) (I := I) (((hBx.out.trans (BelX.of k hBw)).cell (p := ⟨B, 0, none⟩) hB hne).trans HB.out) (by have := k.size; omega) HC.out (fun W kk => HI.out W (hBx.out.trans (BelX.of (k.trans (kk.mono k.size)) hBw))) ((x1, x2), x3) ((y1, y2), y3))
      have K : Below wr.heap.size wr wr.drew := (Below.refl _ _).drew
      obtain ⟨av, hav⟩ : ∃ z, ahF f ((x1, x2), x3) ((y1, y2), y3) = z := ⟨_, rfl⟩
      rw [hav] at CA
      have HAV := hide (show ahF f (hAt hs' a) (hAt hs' b) = av by rw [hx, hy]; exact hav)
      have HBD := hide hbd
      have HX := hide hx
      have HY := hide hy
      clear hav hbd cx cy hx hy
      cases av with
      | false =>
        have HE := hide (show hs' = Z by rw [← hZ.out, riseF, dif_pos h0, HBD.out, HAV.out]; rfl)
        go_wp2
        first | go_region_held3 (fun u => u.cell? ⟨g, a * 3, none⟩ = some (.int .i64 x1) ∧ u.cell? ⟨g, a * 3 + 1, none⟩ = some (.int .i64 x2) ∧ u.cell? ⟨g, a * 3 + 2, none⟩ = some (.int .i64 x3) ∧ u.cell? ⟨g, b * 3, none⟩ = some (.int .i64 y1) ∧ u.cell? ⟨g, b * 3 + 1, none⟩ = some (.int .i64 y2) ∧ u.cell? ⟨g, b * 3 + 2, none⟩ = some (.int .i64 y3))
          (first | with_reducible exact CF.out _ K | go_keep)
          (first | (go_at_call 56; (with_reducible refine (CA.out _ K).mono ?_); rintro e w8 ⟨rfl, hb⟩; replace K := K.trans (hb.mono K.size); clear hb)) | fail "region"
        have HB8 := hide (hBx.out.trans (BelX.of K hBw))
        have HR8 := hide (show HpRow base _ (.slice (some ⟨g, 0, none⟩) n cap) hs' from hR.out.kept (ograwn K) (.inr (by simp [Value.ownBlock])))
        clear K
        go_wp2
        refine bodyPost_ret (results_none rfl _ _ _) rfl ?_
        exact ⟨rfl, by rw [← HE.out]; exact HR8.out, HB8.out⟩
      | true =>
        have HE : Hid (riseF (ahF f) (swp hs' a b) b = Z) := hide (by rw [← hZ.out]; conv => { rhs; rw [riseF, dif_pos h0, HBD.out, HAV.out, if_pos rfl] })
        go_wp2
        first | go_region_held3 (fun u => u.cell? ⟨g, a * 3, none⟩ = some (.int .i64 x1) ∧ u.cell? ⟨g, a * 3 + 1, none⟩ = some (.int .i64 x2) ∧ u.cell? ⟨g, a * 3 + 2, none⟩ = some (.int .i64 x3) ∧ u.cell? ⟨g, b * 3, none⟩ = some (.int .i64 y1) ∧ u.cell? ⟨g, b * 3 + 1, none⟩ = some (.int .i64 y2) ∧ u.cell? ⟨g, b * 3 + 2, none⟩ = some (.int .i64 y3))
          (first | with_reducible exact CF.out _ K | go_keep)
          (first | (go_at_call 56; (with_reducible refine (CA.out _ K).mono ?_); rintro e w8 ⟨rfl, hb⟩; replace K := K.trans (hb.mono K.size); clear hb)) | fail "region"
        have HB8 := hide (hBx.out.trans (BelX.of K hBw))
        have HR8 := hide (show HpRow base w8 (.slice (some ⟨g, 0, none⟩) n cap) hs' from hR.out.kept (ograwn K) (.inr (by simp [Value.ownBlock])))
        obtain ⟨f0, f1, f2, f3, f4, f5⟩ := CF.out _ K
        have fz := hide (fun i => World.ownsRow.frozenAt (show w8.ownsRow base 69 3 (.slice (some ⟨g, 0, none⟩) n cap) n (flat3 hs') by have := HR8.out; unfold HpRow at this; rw [hL.out] at this; exact this) i)
        have z0 := fz.out (a * 3)
        have z1 := fz.out (a * 3 + 1)
        have z2 := fz.out (a * 3 + 2)
        have z3 := fz.out (b * 3)
        have z4 := fz.out (b * 3 + 1)
        have z5 := fz.out (b * 3 + 2)
        have HSD := hide (swap_done HR8.out hL.out ha hbn HX.out HY.out HB8.out)
        have hba : b < a := by have := HBD.out; omega
        clear K CF CA
        go_wp2
        go_region
        go_wp2
        exact ⟨⟨b, swp hs' a b, rfl, hbn, hide HSD.out.1, hide (by rw [swp_len]; exact hL.out), HE, hide HSD.out.2⟩, by simp only [intOf, Int.toNat_natCast]; exact hba⟩
    · have q0 : ¬ (0 : Int) < (a : Int) := by omega
      have HE := hide (show hs' = Z by rw [← hZ.out, riseF, dif_neg h0])
      go_wp2
      go_end0
      exact ⟨rfl, by rw [← HE.out]; exact hR.out, hBx.out⟩

end Go.Proofs.Ytomieeajmelglaa
