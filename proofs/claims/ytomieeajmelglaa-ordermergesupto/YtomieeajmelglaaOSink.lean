/- sink -/
import Derived.Test.YtomieeajmelglaaORise
namespace Go.Proofs.Ytomieeajmelglaa
open Go.RowKit Go.Shelf
set_option linter.unusedVariables false
set_option linter.unusedSimpArgs false

/-- which of the two below is ahead -/
def low (ah : Hi → Hi → Bool) (hs : List Hi) (a : Nat) : Nat := if 2 * a + 2 < hs.length ∧ ah (hAt hs (2 * a + 2)) (hAt hs (2 * a + 1)) = true then 2 * a + 2 else 2 * a + 1
theorem low_two {ah : Hi → Hi → Bool} {hs : List Hi} {a : Nat} : low ah hs a = 2 * a + 1 ∨ low ah hs a = 2 * a + 2 := by unfold low; split <;> simp
theorem low_lt {ah : Hi → Hi → Bool} {hs : List Hi} {a : Nat} (h : 2 * a + 1 < hs.length) : low ah hs a < hs.length := by unfold low; split <;> omega
def sinkF (ah : Hi → Hi → Bool) (hs : List Hi) (a : Nat) : List Hi :=
  if h : 2 * a + 1 < hs.length then if ah (hAt hs (low ah hs a)) (hAt hs a) then sinkF ah (swp hs a (low ah hs a)) (low ah hs a) else hs else hs
termination_by hs.length - a
decreasing_by
  rw [swp_len]
  have := low_lt (ah := ah) h
  rcases low_two (ah := ah) (hs := hs) (a := a) with e | e <;> omega
theorem sinkF_len (ah : Hi → Hi → Bool) (hs : List Hi) (a : Nat) : (sinkF ah hs a).length = hs.length := by
  fun_induction sinkF ah hs a with
  | case1 hs a h h2 ih => rw [ih, swp_len]
  | case2 => rfl
  | case3 => rfl

set_option maxRecDepth 100000 in
set_option maxHeartbeats 16000000 in
theorem sink_any {w : World} {base B g cap n : Nat} {cv : Value} {hs : List Hi} {f : It → It → Int} {I : World → Prop} (hb : w.cell? ⟨B, 0, none⟩ = some cv) (hB : B < w.heap.size) (hne : B ≠ g) (hg : g < w.heap.size) (hrow : HpRow base w (.slice (some ⟨g, 0, none⟩) n cap) hs) (hn : hs.length = n) (hn2 : n ≤ 1099511627776) (hc : CmpIs I cv f) (hI : ∀ W, BelX (fun k => k = g) w.heap.size w W → I W) :
    Calls Try.prog 51 #[.pointer (some ⟨B, 0, none⟩), .slice (some ⟨g, 0, none⟩) n cap] w fun e w' => e = .returned (.tuple #[]) ∧ HpRow base w' (.slice (some ⟨g, 0, none⟩) n cap) (sinkF (ahF f) hs 0) ∧ BelX (fun k => k = g) w.heap.size w w' := by
  have HR := hide hrow
  have HB := hide hb
  have HC := hide hc
  have HI := hide hI
  clear hrow hb hc hI
  obtain ⟨Z, hZ⟩ : ∃ Z, sinkF (ahF f) hs 0 = Z := ⟨_, rfl⟩
  rw [hZ]
  have HZ := hide hZ
  have HN := hide hn
  clear hZ hn
  go_enter Try.func51, Try.ntmps51
  go_wp2
  go_loopw [4] (fun p wr => ∃ (a : Nat) (hs' : List Hi), p = .int .i64 a ∧ a ≤ n ∧ Hid (HpRow base wr (.slice (some ⟨g, 0, none⟩) n cap) hs') ∧ Hid (hs'.length = n) ∧ Hid (sinkF (ahF f) hs' a = Z) ∧ Hid (BelX (fun k => k = g) w.heap.size w wr)) (fun p _ => n - (intOf p).toNat)
  case atStart => exact ⟨0, hs, rfl, by omega, HR, HN, HZ, hide (BelX.refl _ _ _)⟩
  case round =>
    obtain ⟨a, hs', rfl, ha, hR, hL, hZ, hBx⟩ := hrel
    have hBw := hBx.out.size
    obtain ⟨c, hc⟩ : ∃ c, 2 * a + 1 = c := ⟨_, rfl⟩
    have e2 : 2 * (a : Int) + 1 = (c : Int) := by omega
    by_cases h0 : c < n
    · have q0 : (c : Int) < (n : Int) := by omega
      have han : a < n := by omega
      have q1 : (a : Int) < (n : Int) := by omega
      have CA := hide (fun (wq : World) (hq : BelX (fun k => k = g) w.heap.size w wq) (x y : Hi) (U : World) (k : Below wq.heap.size wq U) => ahead_any (w := U) (B := B) (I := I) (((hq.trans (BelX.of k hq.size)).cell (p := ⟨B, 0, none⟩) hB hne).trans HB.out) (by have := k.size; have := hq.size; omega) HC.out (fun W kk => HI.out W (hq.trans (BelX.of (k.trans (kk.mono k.size)) hq.size))) x y)
      have CL := hide (fun (wq : World) (hq : HpRow base wq (.slice (some ⟨g, 0, none⟩) n cap) hs') (hs : w.heap.size ≤ wq.heap.size) (i : Nat) (hi : i < n) (x : Hi) (hx : hAt hs' i = x) (U : World) (k : Below wq.heap.size wq U) => (show U.cell? ⟨g, i * 3, none⟩ = some (.int .i64 x.1.1) ∧ U.cell? ⟨g, i * 3 + 1, none⟩ = some (.int .i64 x.1.2) ∧ U.cell? ⟨g, i * 3 + 2, none⟩ = some (.int .i64 x.2) by
        have q := hq.cell hL.out hi
        rw [← hAt_eq (by rw [hL.out]; exact hi), hx] at q
        exact ⟨(k.cell (p := ⟨g, _, none⟩) (by simp; omega)).trans q.1, (k.cell (p := ⟨g, _, none⟩) (by simp; omega)).trans q.2.1, (k.cell (p := ⟨g, _, none⟩) (by simp; omega)).trans q.2.2⟩))
      obtain ⟨⟨⟨x1, x2⟩, x3⟩, hx⟩ : ∃ x, hAt hs' a = x := ⟨_, rfl⟩
      obtain ⟨⟨⟨y1, y2⟩, y3⟩, hy⟩ : ∃ x, hAt hs' c = x := ⟨_, rfl⟩
      have HX := hide hx
      have HY := hide hy
      have HCC := hide hc
      clear hx hy hc
      by_cases h3 : c + 1 < n
      · obtain ⟨d, hd⟩ : ∃ d, c + 1 = d := ⟨_, rfl⟩
        have e4 : IntKind.i64.wrap ((c : Int) + 1) = (d : Int) := by rw [IntKind.wrap_i64]; omega
        have e3 : Hid ((c : Int) + 1 = (d : Int)) := hide (by omega)
        have hdn : d < n := by omega
        have q3 : (d : Int) < (n : Int) := by omega
        have d3 : decide ((d : Int) < (n : Int)) = true := by simpa using q3
        obtain ⟨⟨⟨v1, v2⟩, v3⟩, hv⟩ : ∃ x, hAt hs' d = x := ⟨_, rfl⟩
        have HV := hide hv
        have HD := hide hd
        clear hv hd
        have K : Below wr.heap.size wr wr.drew := (Below.refl _ _).drew
        have CF1 := hide (fun (U : World) (k : Below wr.heap.size wr U) => And.intro (CL.out wr hR.out hBw d hdn _ HV.out U k) (CL.out wr hR.out hBw c h0 _ HY.out U k))
        obtain ⟨bv, hbv⟩ : ∃ z, ahF f ((v1, v2), v3) ((y1, y2), y3) = z := ⟨_, rfl⟩
        have CA1 := hide (CA.out wr hBx.out ((v1, v2), v3) ((y1, y2), y3))
        rw [hbv] at CA1
        have HBV := hide (show ahF f (hAt hs' (2 * a + 2)) (hAt hs' (2 * a + 1)) = bv by rw [show 2 * a + 2 = d by have := HD.out; have := HCC.out; omega, HCC.out, HV.out, HY.out]; exact hbv)
        clear hbv
        cases bv with
        | false =>
          go_wp2
          first | go_region_held3 (fun u => (u.cell? ⟨g, d * 3, none⟩ = some (.int .i64 v1) ∧ u.cell? ⟨g, d * 3 + 1, none⟩ = some (.int .i64 v2) ∧ u.cell? ⟨g, d * 3 + 2, none⟩ = some (.int .i64 v3)) ∧ (u.cell? ⟨g, c * 3, none⟩ = some (.int .i64 y1) ∧ u.cell? ⟨g, c * 3 + 1, none⟩ = some (.int .i64 y2) ∧ u.cell? ⟨g, c * 3 + 2, none⟩ = some (.int .i64 y3)))
            (first | with_reducible exact CF1.out _ K | go_keep)
            (first | (go_at_call 56; (with_reducible refine (CA1.out _ K).mono ?_); rintro e w8 ⟨rfl, hb⟩; replace K := K.trans (hb.mono K.size); clear hb)) | fail "region"
          have HBW := hide (hBx.out.trans (BelX.of K hBw))
          have HRW := hide (show HpRow base w8 (.slice (some ⟨g, 0, none⟩) n cap) hs' from hR.out.kept (ograwn K) (.inr (by simp [Value.ownBlock])))
          clear K CF1 CA1 e4
          replace e3 := e3.out
          have hcn : c < n := by omega
          have hac : a < c := by have := HCC.out; omega
          have CF2 := hide (fun (U : World) (k : Below w8.heap.size w8 U) => And.intro (CL.out w8 HRW.out HBW.out.size c hcn _ HY.out U k) (CL.out w8 HRW.out HBW.out.size a han _ HX.out U k))
          obtain ⟨av, hav⟩ : ∃ z, ahF f ((y1, y2), y3) ((x1, x2), x3) = z := ⟨_, rfl⟩
          have CA2 := hide (CA.out w8 HBW.out ((y1, y2), y3) ((x1, x2), x3))
          rw [hav] at CA2
          have HLW : Hid (low (ahF f) hs' a = c) := hide (by rw [low, if_neg (by rw [HBV.out]; simp), HCC.out])
          have HAV := hide (show ahF f (hAt hs' (low (ahF f) hs' a)) (hAt hs' a) = av by rw [HLW.out, HX.out, HY.out]; exact hav)
          clear hav CA CL
          have KW : Below w8.heap.size w8 w8.drew := (Below.refl _ _).drew
          have hrl : 2 * a + 1 < hs'.length := by rw [hL.out, HCC.out]; exact h0
          have HRL := hide hrl
          clear hrl
          cases av with
          | false =>
            have HE := hide (show hs' = Z by rw [← hZ.out, sinkF, dif_pos HRL.out, HAV.out]; rfl)
            go_wp2
            first | go_region_held3 (fun u => (u.cell? ⟨g, c * 3, none⟩ = some (.int .i64 y1) ∧ u.cell? ⟨g, c * 3 + 1, none⟩ = some (.int .i64 y2) ∧ u.cell? ⟨g, c * 3 + 2, none⟩ = some (.int .i64 y3)) ∧ (u.cell? ⟨g, a * 3, none⟩ = some (.int .i64 x1) ∧ u.cell? ⟨g, a * 3 + 1, none⟩ = some (.int .i64 x2) ∧ u.cell? ⟨g, a * 3 + 2, none⟩ = some (.int .i64 x3)))
              (first | with_reducible exact CF2.out _ KW | go_keep)
              (first | (go_at_call 56; (with_reducible refine (CA2.out _ KW).mono ?_); rintro e w9 ⟨rfl, hb⟩; replace KW := KW.trans (hb.mono KW.size); clear hb)) | fail "region"
            have HB9 := hide (HBW.out.trans (BelX.of KW HBW.out.size))
            have HR9 := hide (show HpRow base _ (.slice (some ⟨g, 0, none⟩) n cap) hs' from HRW.out.kept (ograwn KW) (.inr (by simp [Value.ownBlock])))
            clear KW
            go_wp2
            refine bodyPost_ret (results_none rfl _ _ _) rfl ?_
            exact ⟨rfl, by rw [← HE.out]; exact HR9.out, HB9.out⟩
          | true =>
            have HE : Hid (sinkF (ahF f) (swp hs' a c) c = Z) := hide (by rw [← hZ.out]; conv => { rhs; rw [sinkF, dif_pos HRL.out, HAV.out, if_pos rfl, HLW.out] })
            go_wp2
            first | go_region_held3 (fun u => (u.cell? ⟨g, c * 3, none⟩ = some (.int .i64 y1) ∧ u.cell? ⟨g, c * 3 + 1, none⟩ = some (.int .i64 y2) ∧ u.cell? ⟨g, c * 3 + 2, none⟩ = some (.int .i64 y3)) ∧ (u.cell? ⟨g, a * 3, none⟩ = some (.int .i64 x1) ∧ u.cell? ⟨g, a * 3 + 1, none⟩ = some (.int .i64 x2) ∧ u.cell? ⟨g, a * 3 + 2, none⟩ = some (.int .i64 x3)))
              (first | with_reducible exact CF2.out _ KW | go_keep)
              (first | (go_at_call 56; (with_reducible refine (CA2.out _ KW).mono ?_); rintro e w9 ⟨rfl, hb⟩; replace KW := KW.trans (hb.mono KW.size); clear hb)) | fail "region"
            have HB9 := hide (HBW.out.trans (BelX.of KW HBW.out.size))
            have HR9 := hide (show HpRow base w9 (.slice (some ⟨g, 0, none⟩) n cap) hs' from HRW.out.kept (ograwn KW) (.inr (by simp [Value.ownBlock])))
            obtain ⟨⟨f0, f1, f2⟩, f3, f4, f5⟩ := CF2.out _ KW
            have fz := hide (fun i => World.ownsRow.frozenAt (show w9.ownsRow base 69 3 (.slice (some ⟨g, 0, none⟩) n cap) n (flat3 hs') by have := HR9.out; unfold HpRow at this; rw [hL.out] at this; exact this) i)
            have z0 := fz.out (c * 3)
            have z1 := fz.out (c * 3 + 1)
            have z2 := fz.out (c * 3 + 2)
            have z3 := fz.out (a * 3)
            have z4 := fz.out (a * 3 + 1)
            have z5 := fz.out (a * 3 + 2)
            have HSD := hide (swap_done HR9.out hL.out han hcn HX.out HY.out HB9.out)
            have hne2 : a ≠ c := by omega
            clear KW CF2 CA2
            go_wp2
            go_region
            go_wp2
            exact ⟨⟨c, swp hs' a c, rfl, by omega, hide HSD.out.1, hide (by rw [swp_len]; exact hL.out), HE, hide HSD.out.2⟩, by simp only [intOf, Int.toNat_natCast]; omega⟩
        | true =>
          go_wp2
          first | go_region_held3 (fun u => (u.cell? ⟨g, d * 3, none⟩ = some (.int .i64 v1) ∧ u.cell? ⟨g, d * 3 + 1, none⟩ = some (.int .i64 v2) ∧ u.cell? ⟨g, d * 3 + 2, none⟩ = some (.int .i64 v3)) ∧ (u.cell? ⟨g, c * 3, none⟩ = some (.int .i64 y1) ∧ u.cell? ⟨g, c * 3 + 1, none⟩ = some (.int .i64 y2) ∧ u.cell? ⟨g, c * 3 + 2, none⟩ = some (.int .i64 y3)))
            (first | with_reducible exact CF1.out _ K | go_keep)
            (first | (go_at_call 56; (with_reducible refine (CA1.out _ K).mono ?_); rintro e w8 ⟨rfl, hb⟩; replace K := K.trans (hb.mono K.size); clear hb)) | fail "region"
          have HBW := hide (hBx.out.trans (BelX.of K hBw))
          have HRW := hide (show HpRow base w8 (.slice (some ⟨g, 0, none⟩) n cap) hs' from hR.out.kept (ograwn K) (.inr (by simp [Value.ownBlock])))
          clear K CF1 CA1 e4
          replace e3 := e3.out
          have q6 : (d : Int) < (n : Int) := by omega
          have hcn : d < n := by omega
          have hac : a < d := by have := HCC.out; omega
          have CF2 := hide (fun (U : World) (k : Below w8.heap.size w8 U) => And.intro (CL.out w8 HRW.out HBW.out.size d hcn _ HV.out U k) (CL.out w8 HRW.out HBW.out.size a han _ HX.out U k))
          obtain ⟨av, hav⟩ : ∃ z, ahF f ((v1, v2), v3) ((x1, x2), x3) = z := ⟨_, rfl⟩
          have CA2 := hide (CA.out w8 HBW.out ((v1, v2), v3) ((x1, x2), x3))
          rw [hav] at CA2
          have HLW : Hid (low (ahF f) hs' a = d) := hide (by rw [low, if_pos ⟨by rw [hL.out]; have := HD.out; have := HCC.out; omega, HBV.out⟩]; have := HD.out; have := HCC.out; omega)
          have HAV := hide (show ahF f (hAt hs' (low (ahF f) hs' a)) (hAt hs' a) = av by rw [HLW.out, HX.out, HV.out]; exact hav)
          clear hav CA CL
          have KW : Below w8.heap.size w8 w8.drew := (Below.refl _ _).drew
          have hrl : 2 * a + 1 < hs'.length := by rw [hL.out, HCC.out]; exact h0
          have HRL := hide hrl
          clear hrl
          cases av with
          | false =>
            have HE := hide (show hs' = Z by rw [← hZ.out, sinkF, dif_pos HRL.out, HAV.out]; rfl)
            go_wp2
            first | go_region_held3 (fun u => (u.cell? ⟨g, d * 3, none⟩ = some (.int .i64 v1) ∧ u.cell? ⟨g, d * 3 + 1, none⟩ = some (.int .i64 v2) ∧ u.cell? ⟨g, d * 3 + 2, none⟩ = some (.int .i64 v3)) ∧ (u.cell? ⟨g, a * 3, none⟩ = some (.int .i64 x1) ∧ u.cell? ⟨g, a * 3 + 1, none⟩ = some (.int .i64 x2) ∧ u.cell? ⟨g, a * 3 + 2, none⟩ = some (.int .i64 x3)))
              (first | with_reducible exact CF2.out _ KW | go_keep)
              (first | (go_at_call 56; (with_reducible refine (CA2.out _ KW).mono ?_); rintro e w9 ⟨rfl, hb⟩; replace KW := KW.trans (hb.mono KW.size); clear hb)) | fail "region"
            have HB9 := hide (HBW.out.trans (BelX.of KW HBW.out.size))
            have HR9 := hide (show HpRow base _ (.slice (some ⟨g, 0, none⟩) n cap) hs' from HRW.out.kept (ograwn KW) (.inr (by simp [Value.ownBlock])))
            clear KW
            go_wp2
            refine bodyPost_ret (results_none rfl _ _ _) rfl ?_
            exact ⟨rfl, by rw [← HE.out]; exact HR9.out, HB9.out⟩
          | true =>
            have HE : Hid (sinkF (ahF f) (swp hs' a d) d = Z) := hide (by rw [← hZ.out]; conv => { rhs; rw [sinkF, dif_pos HRL.out, HAV.out, if_pos rfl, HLW.out] })
            go_wp2
            first | go_region_held3 (fun u => (u.cell? ⟨g, d * 3, none⟩ = some (.int .i64 v1) ∧ u.cell? ⟨g, d * 3 + 1, none⟩ = some (.int .i64 v2) ∧ u.cell? ⟨g, d * 3 + 2, none⟩ = some (.int .i64 v3)) ∧ (u.cell? ⟨g, a * 3, none⟩ = some (.int .i64 x1) ∧ u.cell? ⟨g, a * 3 + 1, none⟩ = some (.int .i64 x2) ∧ u.cell? ⟨g, a * 3 + 2, none⟩ = some (.int .i64 x3)))
              (first | with_reducible exact CF2.out _ KW | go_keep)
              (first | (go_at_call 56; (with_reducible refine (CA2.out _ KW).mono ?_); rintro e w9 ⟨rfl, hb⟩; replace KW := KW.trans (hb.mono KW.size); clear hb)) | fail "region"
            have HB9 := hide (HBW.out.trans (BelX.of KW HBW.out.size))
            have HR9 := hide (show HpRow base w9 (.slice (some ⟨g, 0, none⟩) n cap) hs' from HRW.out.kept (ograwn KW) (.inr (by simp [Value.ownBlock])))
            obtain ⟨⟨f0, f1, f2⟩, f3, f4, f5⟩ := CF2.out _ KW
            have fz := hide (fun i => World.ownsRow.frozenAt (show w9.ownsRow base 69 3 (.slice (some ⟨g, 0, none⟩) n cap) n (flat3 hs') by have := HR9.out; unfold HpRow at this; rw [hL.out] at this; exact this) i)
            have z0 := fz.out (d * 3)
            have z1 := fz.out (d * 3 + 1)
            have z2 := fz.out (d * 3 + 2)
            have z3 := fz.out (a * 3)
            have z4 := fz.out (a * 3 + 1)
            have z5 := fz.out (a * 3 + 2)
            have HSD := hide (swap_done HR9.out hL.out han hcn HX.out HV.out HB9.out)
            have hne2 : a ≠ d := by omega
            clear KW CF2 CA2
            go_wp2
            go_region
            go_wp2
            exact ⟨⟨d, swp hs' a d, rfl, by omega, hide HSD.out.1, hide (by rw [swp_len]; exact hL.out), HE, hide HSD.out.2⟩, by simp only [intOf, Int.toNat_natCast]; omega⟩
      · have d3 : decide ((c : Int) + 1 < (n : Int)) = false := by simp; omega
        go_wp2
        go_quiet (fail)
        obtain ⟨w8, hU⟩ : ∃ U, wr.drewN nq = U := ⟨_, rfl⟩
        have K : Below wr.heap.size wr w8 := by rw [← hU]; exact obel_drewN wr nq
        rw [hU]
        clear hU
        have HBW := hide (hBx.out.trans (BelX.of K hBw))
        have HRW := hide (show HpRow base w8 (.slice (some ⟨g, 0, none⟩) n cap) hs' from hR.out.kept (ograwn K) (.inr (by simp [Value.ownBlock])))
        clear K
        have hcn : c < n := by omega
        have hac : a < c := by have := HCC.out; omega
        have CF2 := hide (fun (U : World) (k : Below w8.heap.size w8 U) => And.intro (CL.out w8 HRW.out HBW.out.size c hcn _ HY.out U k) (CL.out w8 HRW.out HBW.out.size a han _ HX.out U k))
        obtain ⟨av, hav⟩ : ∃ z, ahF f ((y1, y2), y3) ((x1, x2), x3) = z := ⟨_, rfl⟩
        have CA2 := hide (CA.out w8 HBW.out ((y1, y2), y3) ((x1, x2), x3))
        rw [hav] at CA2
        have HLW : Hid (low (ahF f) hs' a = c) := hide (by rw [low, if_neg (by rw [hL.out]; have := HCC.out; omega), HCC.out])
        have HAV := hide (show ahF f (hAt hs' (low (ahF f) hs' a)) (hAt hs' a) = av by rw [HLW.out, HX.out, HY.out]; exact hav)
        clear hav CA CL
        have KW : Below w8.heap.size w8 w8.drew := (Below.refl _ _).drew
        have hrl : 2 * a + 1 < hs'.length := by rw [hL.out, HCC.out]; exact h0
        have HRL := hide hrl
        clear hrl
        cases av with
        | false =>
          have HE := hide (show hs' = Z by rw [← hZ.out, sinkF, dif_pos HRL.out, HAV.out]; rfl)
          go_wp2
          first | go_region_held3 (fun u => (u.cell? ⟨g, c * 3, none⟩ = some (.int .i64 y1) ∧ u.cell? ⟨g, c * 3 + 1, none⟩ = some (.int .i64 y2) ∧ u.cell? ⟨g, c * 3 + 2, none⟩ = some (.int .i64 y3)) ∧ (u.cell? ⟨g, a * 3, none⟩ = some (.int .i64 x1) ∧ u.cell? ⟨g, a * 3 + 1, none⟩ = some (.int .i64 x2) ∧ u.cell? ⟨g, a * 3 + 2, none⟩ = some (.int .i64 x3)))
            (first | with_reducible exact CF2.out _ KW | go_keep)
            (first | (go_at_call 56; (with_reducible refine (CA2.out _ KW).mono ?_); rintro e w9 ⟨rfl, hb⟩; replace KW := KW.trans (hb.mono KW.size); clear hb)) | fail "region"
          have HB9 := hide (HBW.out.trans (BelX.of KW HBW.out.size))
          have HR9 := hide (show HpRow base _ (.slice (some ⟨g, 0, none⟩) n cap) hs' from HRW.out.kept (ograwn KW) (.inr (by simp [Value.ownBlock])))
          clear KW
          go_wp2
          refine bodyPost_ret (results_none rfl _ _ _) rfl ?_
          exact ⟨rfl, by rw [← HE.out]; exact HR9.out, HB9.out⟩
        | true =>
          have HE : Hid (sinkF (ahF f) (swp hs' a c) c = Z) := hide (by rw [← hZ.out]; conv => { rhs; rw [sinkF, dif_pos HRL.out, HAV.out, if_pos rfl, HLW.out] })
          go_wp2
          first | go_region_held3 (fun u => (u.cell? ⟨g, c * 3, none⟩ = some (.int .i64 y1) ∧ u.cell? ⟨g, c * 3 + 1, none⟩ = some (.int .i64 y2) ∧ u.cell? ⟨g, c * 3 + 2, none⟩ = some (.int .i64 y3)) ∧ (u.cell? ⟨g, a * 3, none⟩ = some (.int .i64 x1) ∧ u.cell? ⟨g, a * 3 + 1, none⟩ = some (.int .i64 x2) ∧ u.cell? ⟨g, a * 3 + 2, none⟩ = some (.int .i64 x3)))
            (first | with_reducible exact CF2.out _ KW | go_keep)
            (first | (go_at_call 56; (with_reducible refine (CA2.out _ KW).mono ?_); rintro e w9 ⟨rfl, hb⟩; replace KW := KW.trans (hb.mono KW.size); clear hb)) | fail "region"
          have HB9 := hide (HBW.out.trans (BelX.of KW HBW.out.size))
          have HR9 := hide (show HpRow base w9 (.slice (some ⟨g, 0, none⟩) n cap) hs' from HRW.out.kept (ograwn KW) (.inr (by simp [Value.ownBlock])))
          obtain ⟨⟨f0, f1, f2⟩, f3, f4, f5⟩ := CF2.out _ KW
          have fz := hide (fun i => World.ownsRow.frozenAt (show w9.ownsRow base 69 3 (.slice (some ⟨g, 0, none⟩) n cap) n (flat3 hs') by have := HR9.out; unfold HpRow at this; rw [hL.out] at this; exact this) i)
          have z0 := fz.out (c * 3)
          have z1 := fz.out (c * 3 + 1)
          have z2 := fz.out (c * 3 + 2)
          have z3 := fz.out (a * 3)
          have z4 := fz.out (a * 3 + 1)
          have z5 := fz.out (a * 3 + 2)
          have HSD := hide (swap_done HR9.out hL.out han hcn HX.out HY.out HB9.out)
          have hne2 : a ≠ c := by omega
          clear KW CF2 CA2
          go_wp2
          go_region
          go_wp2
          exact ⟨⟨c, swp hs' a c, rfl, by omega, hide HSD.out.1, hide (by rw [swp_len]; exact hL.out), HE, hide HSD.out.2⟩, by simp only [intOf, Int.toNat_natCast]; omega⟩
    · have q0 : ¬ (c : Int) < (n : Int) := by omega
      have HE := hide (show hs' = Z by rw [← hZ.out, sinkF, dif_neg (by rw [hL.out, hc]; exact h0)])
      go_wp2
      go_end0
      exact ⟨rfl, by rw [← HE.out]; exact hR.out, hBx.out⟩

end Go.Proofs.Ytomieeajmelglaa
