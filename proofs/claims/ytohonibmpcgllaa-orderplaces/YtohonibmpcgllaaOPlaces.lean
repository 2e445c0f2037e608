/- OrderPlaces: the walk -/
import Derived.Test.YtohonibmpcgllaaOPlM
import Derived.Test.YtohonibmpcgllaaOLives
namespace Go.Proofs.Ytohonibmpcgllaa
open Go.RowKit Go.Shelf
set_option linter.unusedVariables false
set_option linter.unusedSimpArgs false

theorem oAny_step {o : Int} {l : List It} {x : It} {i : Nat} (hi : i < l.length) : (l.take (i + 1)).any (fun a => ocmp o a x == 0) = ((l.take i).any (fun a => ocmp o a x == 0) || ocmp o l[i] x == 0) := by
  rw [List.take_succ_eq_append_getElem hi, List.any_append]; simp
theorem oCnt_step {o : Int} {l : List It} {x : It} {i : Nat} (hi : i < l.length) : (l.take (i + 1)).countP (fun a => decide (ocmp o a x < 0)) = (l.take i).countP (fun a => decide (ocmp o a x < 0)) + (if ocmp o l[i] x < 0 then 1 else 0) := by
  rw [List.take_succ_eq_append_getElem hi, List.countP_append]
  by_cases h : ocmp o l[i] x < 0 <;> simp [h]
theorem oBelow_le {o : Int} {l : List It} {x : It} {i : Nat} : (l.take i).countP (fun a => decide (ocmp o a x < 0)) ≤ i := Nat.le_trans List.countP_le_length (by rw [List.length_take]; omega)

theorem ItRd.take {G : Nat → Prop} {w : World} {ao : Option Addr} {ca : Nat} {l : List It} (h : ItRd G w (.slice ao l.length ca) l) {k : Nat} (hk : k ≤ l.length) : ItRd G w (.slice ao k ca) (l.take k) := by
  obtain ⟨ao', cap, e, h1, h2, h3⟩ := h
  injection e with e1 _ e3
  subst e1 e3
  have hl : (l.take k).length = k := by rw [List.length_take]; omega
  refine ⟨ao, ca, by rw [hl], by omega, h2, fun hp => ?_⟩
  obtain ⟨g, o, e, hg, hlt, hin⟩ := h3 (by omega)
  refine ⟨g, o, e, hg, hlt, fun i hi => ?_⟩
  have := hin i (by omega)
  simpa [List.getElem_take] using this
theorem take_none {o : Int} {l : List It} {k : Nat} (hk : k < l.length) (h : ∀ j, j < k → ¬ Rep o l j) : tw (byF o) (l.take k) = -1 := by
  rcases twice_spec o (l.take k) with ⟨h1, _⟩ | ⟨j, _, ⟨i, hij, hj, he⟩, _⟩
  · exact h1
  · rw [List.length_take] at hj
    refine absurd ⟨i, hij, by omega, ?_⟩ (h j (by omega))
    rw [List.getElem?_take_of_lt (by omega), List.getElem?_take_of_lt (by omega)] at he
    exact he
theorem rep_any {o : Int} {l : List It} {k : Nat} {z : It} (hk : k < l.length) (hz : l[k] = z) (h : Rep o l k) : (l.take k).any (fun a => ocmp o a z == 0) = true := by
  obtain ⟨i, hik, _, he⟩ := h
  rw [List.any_eq_true]
  have hi : i < l.length := by omega
  refine ⟨l[i], ?_, ?_⟩
  · rw [List.mem_take_iff_getElem]
    exact ⟨i, by omega, rfl⟩
  · simp [hi, hk, hz] at he
    simpa using ocmp_eq.2 he

set_option maxRecDepth 100000 in
set_option maxHeartbeats 16000000 in
theorem oplaces_walk {w : World} {va : Value} {l : List It} {x : It} {o : Int} (ha : ItRd (fun _ => True) w va l) (hl : l.length ≤ 8796093022208) :
    Calls Try.prog 8 #[va, itV x, .int .i64 o] w fun e w' => e = .returned (.bool true) ∧ Below w.heap.size w w' := by
  have haa := ha
  obtain ⟨ao, ca, rfl, hac, ham, hacl⟩ := ha
  unfold maxLen at ham
  obtain ⟨x1, x2⟩ := x
  obtain ⟨W1, hW1⟩ : ∃ u, w.alloc (.cells #[.int .i64 x1, .int .i64 x2] 27) = u := ⟨_, rfl⟩
  have K1 : Hid (Below w.heap.size w W1) := by rw [← hW1]; exact hide ((Below.refl _ w).alloc (Nat.le_refl _) _)
  have hx0 : W1.heap[w.heap.size]? = some (.cells #[.int .i64 x1, .int .i64 x2] 27 (0, 0)) := by rw [← hW1]; exact heap_alloc_new w _
  have HX : Hid (∀ U, Below W1.heap.size W1 U → U.cell? ⟨w.heap.size, 0, none⟩ = some (.int .i64 x1) ∧ U.cell? ⟨w.heap.size, 1, none⟩ = some (.int .i64 x2)) := hide (fun U k => by
    have h := (k.block _ (Array.getElem?_eq_some_iff.1 hx0).1).trans hx0
    exact ⟨cell_of_row U _ 0 _ _ _ h, cell_of_row U _ 1 _ _ _ h⟩)
  have RD : Hid (∀ U, Below w.heap.size w U → ItRd (fun _ => True) U (.slice ao l.length ca) l) := hide (fun U k => haa.below k)
  have RA := hide hacl
  have C1 := hide (itsort_any (I := fun _ => True) (w := W1) (by omega) (RD.out W1 K1.out) (by_is o) trivial (fun _ _ _ _ => trivial))
  clear hacl haa hx0
  obtain ⟨sp1, sp2⟩ := search_spec o l (x1, x2)
  have SP1 := hide sp1
  have SP2 := hide sp2
  clear sp1 sp2
  obtain ⟨cn, hcn⟩ : ∃ c, l.countP (fun a => decide (ocmp o a (x1, x2) < 0)) = c := ⟨_, rfl⟩
  obtain ⟨av, hav⟩ : ∃ c, l.any (fun a => ocmp o a (x1, x2) == 0) = c := ⟨_, rfl⟩
  rw [hcn] at SP1 SP2
  rw [hav] at SP2
  have HCN := hide hcn
  have HAV := hide hav
  clear hcn hav
  go_enter Try.func8, Try.ntmps8
  go_wp2_with fail
  refine by_any.mono ?_
  rintro e w' ⟨rfl, hw'⟩
  rw [hw']
  clear hw' w'
  go_wp2_with fail
  refine C1.out.mono ?_
  rintro e w2 ⟨⟨v, rfl, ho⟩, k2⟩
  have hsl := srt_len (byF o) 1 l
  obtain ⟨so, sc, rfl, _, _, _⟩ := ho.rd
  have RS : Hid (ItRd (fun _ => True) w2 (.slice so (srt (byF o) 1 l).length sc) (srt (byF o) 1 l)) := hide (ho.rd.mono (fun _ _ _ => trivial))
  have K2 := hide k2
  have CS := hide (fun (U : World) (k : Below w2.heap.size w2 U) => search_any (I := fun _ => True) (w := U) (x := (x1, x2)) (RS.out.below k) (by rw [hsl]; omega) (by_is o) (fun _ _ => trivial))
  have CF : Hid (∀ U, Below w2.heap.size w2 U → U.cell? ⟨w.heap.size, 0, none⟩ = some (.int .i64 x1) ∧ U.cell? ⟨w.heap.size, 1, none⟩ = some (.int .i64 x2)) := hide (fun U k => HX.out U (K2.out.trans (k.mono K2.out.size)))
  have K : Below w2.heap.size w2 w2.drew := (Below.refl _ _).drew
  clear ho k2 C1 hW1 hsl
  go_wp2
  first | go_region_held3 (fun u => u.cell? ⟨w.heap.size, 0, none⟩ = some (.int .i64 x1) ∧ u.cell? ⟨w.heap.size, 1, none⟩ = some (.int .i64 x2))
    (first | with_reducible exact CF.out _ K | go_keep)
    (first | (go_at_call 12; (with_reducible refine by_any.mono ?_); rintro e w8 ⟨rfl, rfl⟩) | (go_at_call 22; (with_reducible refine (CS.out _ K).mono ?_); rintro e w8 ⟨rfl, hb⟩; rw [SP1.out, SP2.out]; replace K := K.trans (hb.mono K.size); clear hb)) | fail "region"
  have K3 : Hid (Below W1.heap.size W1 w8) := hide (K2.out.trans (K.mono K2.out.size))
  clear K CS CF K2 RS
  go_wp2
  go_loopw [10, 11, 12] (fun p q r wr => ∃ (i : Nat), p = .int .i64 ((l.take i).countP (fun a => decide (ocmp o a (x1, x2) < 0)) : Nat) ∧ q = .bool ((l.take i).any (fun a => ocmp o a (x1, x2) == 0)) ∧ r = .int .i64 i ∧ i ≤ l.length ∧ Hid (Below W1.heap.size W1 wr)) (fun _ _ r _ => l.length - (intOf r).toNat)
  case atStart => exact ⟨0, by simp, by simp, rfl, by omega, K3⟩
  case round =>
    obtain ⟨i, rfl, rfl, rfl, hi, hB⟩ := hrel
    by_cases hil : i < l.length
    · obtain ⟨ga, oa, rfl, _, hga, hin⟩ := RA.out (by omega)
      have q1 : (i : Int) < (l.length : Int) := by omega
      obtain ⟨⟨y1, y2⟩, hy⟩ : ∃ y, l[i] = y := ⟨_, rfl⟩
      have qy := hin i hil
      rw [hy] at qy
      have CF : Hid (∀ U, Below wr.heap.size wr U → U.cell? ⟨w.heap.size, 0, none⟩ = some (.int .i64 x1) ∧ U.cell? ⟨w.heap.size, 1, none⟩ = some (.int .i64 x2) ∧ U.cell? ⟨ga, oa + i * 2, none⟩ = some (.int .i64 y1) ∧ U.cell? ⟨ga, oa + i * 2 + 1, none⟩ = some (.int .i64 y2)) := hide (fun U k => by
        have k1 := hB.out.trans (k.mono hB.out.size)
        have k2 : Below w.heap.size w U := K1.out.trans (k1.mono K1.out.size)
        exact ⟨(HX.out U k1).1, (HX.out U k1).2, (k2.cell (p := ⟨ga, _, none⟩) hga).trans qy.1, (k2.cell (p := ⟨ga, _, none⟩) hga).trans qy.2⟩)
      have K : Below wr.heap.size wr wr.drew := (Below.refl _ _).drew
      have HC := hide (fun (U : World) => ocmp_any (w := U) (o := o) (a := (y1, y2)) (b := (x1, x2)))
      have hcs := oCnt_step (o := o) (x := (x1, x2)) hil
      have has := oAny_step (o := o) (x := (x1, x2)) hil
      rw [hy] at hcs has
      obtain ⟨c, hc⟩ : ∃ c, ocmp o (y1, y2) (x1, x2) = c := ⟨_, rfl⟩
      rw [hc] at hcs has HC
      have hle := oBelow_le (o := o) (l := l) (x := (x1, x2)) (i := i)
      obtain ⟨m, hm⟩ : ∃ m, (l.take i).countP (fun a => decide (ocmp o a (x1, x2) < 0)) = m := ⟨_, rfl⟩
      obtain ⟨t, ht⟩ : ∃ t, (l.take i).any (fun a => ocmp o a (x1, x2) == 0) = t := ⟨_, rfl⟩
      rw [hm] at hcs hle ⊢
      rw [ht] at has ⊢
      have HCS := hide hcs
      have HAS := hide has
      clear hin qy hcs has hc hm ht hy
      obtain ⟨z, hz⟩ : ∃ z, (c == 0) = z := ⟨_, rfl⟩
      by_cases hc0 : c < 0
      · have d0 : decide (c < 0) = true := by simpa using hc0
        have HE := hide hc0
        cases t with
        | true =>
          go_wp2
          first | go_region_held3 (fun u => u.cell? ⟨w.heap.size, 0, none⟩ = some (.int .i64 x1) ∧ u.cell? ⟨w.heap.size, 1, none⟩ = some (.int .i64 x2) ∧ u.cell? ⟨ga, oa + i * 2, none⟩ = some (.int .i64 y1) ∧ u.cell? ⟨ga, oa + i * 2 + 1, none⟩ = some (.int .i64 y2))
            (first | with_reducible exact CF.out _ K | go_keep)
            (first | (go_at_call 24; (with_reducible refine (HC.out _).mono ?_); rintro e w9 ⟨rfl, hb⟩; replace K := K.trans (hb.mono K.size); clear hb)) | fail "region"
          have HB9 := hide (hB.out.trans (K.mono hB.out.size))
          clear K
          go_wp2
          go_roundw
          case rel => exact ⟨i + 1, by rw [HCS.out, if_pos HE.out]; simp, by rw [HAS.out]; simp, by simp, by omega, HB9⟩
          case measure => simp [intOf]; omega
        | false =>
          go_wp2
          first | go_region_held3 (fun u => u.cell? ⟨w.heap.size, 0, none⟩ = some (.int .i64 x1) ∧ u.cell? ⟨w.heap.size, 1, none⟩ = some (.int .i64 x2) ∧ u.cell? ⟨ga, oa + i * 2, none⟩ = some (.int .i64 y1) ∧ u.cell? ⟨ga, oa + i * 2 + 1, none⟩ = some (.int .i64 y2))
            (first | with_reducible exact CF.out _ K | go_keep)
            (first | (go_at_call 24; (with_reducible refine (HC.out _).mono ?_); rintro e w9 ⟨rfl, hb⟩; replace K := K.trans (hb.mono K.size); clear hb)) | fail "region"
          have HB9 := hide (hB.out.trans (K.mono hB.out.size))
          clear K
          go_wp2
          go_roundw
          case rel => exact ⟨i + 1, by rw [HCS.out, if_pos HE.out]; simp, by rw [HAS.out, hz]; simp, by simp, by omega, HB9⟩
          case measure => simp [intOf]; omega
      · have d0 : decide (c < 0) = false := by simpa using hc0
        have HE := hide hc0
        cases t with
        | true =>
          go_wp2
          first | go_region_held3 (fun u => u.cell? ⟨w.heap.size, 0, none⟩ = some (.int .i64 x1) ∧ u.cell? ⟨w.heap.size, 1, none⟩ = some (.int .i64 x2) ∧ u.cell? ⟨ga, oa + i * 2, none⟩ = some (.int .i64 y1) ∧ u.cell? ⟨ga, oa + i * 2 + 1, none⟩ = some (.int .i64 y2))
            (first | with_reducible exact CF.out _ K | go_keep)
            (first | (go_at_call 24; (with_reducible refine (HC.out _).mono ?_); rintro e w9 ⟨rfl, hb⟩; replace K := K.trans (hb.mono K.size); clear hb)) | fail "region"
          have HB9 := hide (hB.out.trans (K.mono hB.out.size))
          clear K
          go_wp2
          go_roundw
          case rel => exact ⟨i + 1, by rw [HCS.out, if_neg (by have := HE.out; omega)]; simp, by rw [HAS.out]; simp, by simp, by omega, HB9⟩
          case measure => simp [intOf]; omega
        | false =>
          go_wp2
          first | go_region_held3 (fun u => u.cell? ⟨w.heap.size, 0, none⟩ = some (.int .i64 x1) ∧ u.cell? ⟨w.heap.size, 1, none⟩ = some (.int .i64 x2) ∧ u.cell? ⟨ga, oa + i * 2, none⟩ = some (.int .i64 y1) ∧ u.cell? ⟨ga, oa + i * 2 + 1, none⟩ = some (.int .i64 y2))
            (first | with_reducible exact CF.out _ K | go_keep)
            (first | (go_at_call 24; (with_reducible refine (HC.out _).mono ?_); rintro e w9 ⟨rfl, hb⟩; replace K := K.trans (hb.mono K.size); clear hb)) | fail "region"
          have HB9 := hide (hB.out.trans (K.mono hB.out.size))
          clear K
          go_wp2
          go_roundw
          case rel => exact ⟨i + 1, by rw [HCS.out, if_neg (by have := HE.out; omega)]; simp, by rw [HAS.out, hz]; simp, by simp, by omega, HB9⟩
          case measure => simp [intOf]; omega
    · have q1 : ¬ (i : Int) < (l.length : Int) := by omega
      obtain rfl : i = l.length := by omega
      rw [List.take_length, HCN.out, HAV.out]
      have C5 := hide (twice_any (I := fun _ => True) (w := wr) (RD.out wr (K1.out.trans (hB.out.mono K1.out.size))) (by omega) (by_is o) (fun _ _ => trivial))
      go_wp2_with fail
      refine by_any.mono ?_
      rintro e w' ⟨rfl, hw'⟩
      rw [hw']
      clear hw' w'
      go_wp2_with fail
      refine C5.out.mono ?_
      rintro e w5 ⟨rfl, k5⟩
      have K5 := hide (hB.out.trans (k5.mono hB.out.size))
      clear k5 C5
      rcases twice_spec o l with ⟨ht, hno⟩ | ⟨k, ht, hrp, hno⟩
      · rw [ht]
        have OL := hide (olives (w := w5))
        clear hno
        go_wp2_with fail
        refine OL.out.mono ?_
        rintro e w6 ⟨rfl, k6⟩
        have K6 := hide (K1.out.trans ((K5.out.trans (k6.mono K5.out.size)).mono K1.out.size))
        go_wp2
        go_ret
        exact ⟨rfl, K6.out⟩
      · obtain ⟨i0, hik0, hkl, _⟩ := id hrp
        obtain ⟨ga, oa, rfl, _, hga, hin⟩ := RA.out (by omega)
        obtain ⟨⟨z1, z2⟩, hz⟩ : ∃ z, l[k] = z := ⟨_, rfl⟩
        have HAN := hide (rep_any hkl hz hrp)
        have HTN := hide (take_none hkl hno)
        have qz := hin k hkl
        rw [hz] at qz
        have QZ := hide qz
        have HIN := hide hin
        rw [ht]
        have q2 : ¬ (l.length : Int) ≤ (k : Int) := by omega
        have q3 : (k : Int) < (l.length : Int) := by omega
        have d8 : decide (l.length ≤ k) = false := by rw [decide_eq_false_iff_not]; omega
        have d9 : decide ((l.length : Int) ≤ (k : Int)) = false := by rw [decide_eq_false_iff_not]; omega
        have d10 : decide ((k : Int) < -1) = false := by rw [decide_eq_false_iff_not]; omega
        clear hno hrp hz qz hin ht
        go_wp2
        go_loopw [15, 16] (fun q r wr => ∃ (i : Nat), q = .bool ((l.take i).any (fun a => ocmp o a (z1, z2) == 0)) ∧ r = .int .i64 i ∧ i ≤ k ∧ Hid (Below W1.heap.size W1 wr)) (fun _ r _ => k - (intOf r).toNat)
        case atStart => exact ⟨0, by simp, rfl, by omega, K5⟩
        case round =>
          obtain ⟨i, rfl, rfl, hi, hB⟩ := hrel
          by_cases hik : i < k
          · have q4 : (i : Int) < (k : Int) := by omega
            have q5 : (i : Int) < (l.length : Int) := by omega
            have hil : i < l.length := by omega
            have has := oAny_step (o := o) (x := (z1, z2)) hil
            obtain ⟨t, ht⟩ : ∃ t, (l.take i).any (fun a => ocmp o a (z1, z2) == 0) = t := ⟨_, rfl⟩
            rw [ht] at has ⊢
            cases t with
            | true =>
              have HAS := hide has
              clear has ht
              go_wp2
              go_quiet (fail)
              go_wp2
              go_roundw
              case rel => exact ⟨i + 1, by rw [HAS.out]; simp, by simp, by omega, hide (hB.out.trans ((obel_drewN _ _).mono hB.out.size))⟩
              case measure => simp [intOf]; omega
            | false =>
              obtain ⟨⟨y1, y2⟩, hy⟩ : ∃ y, l[i] = y := ⟨_, rfl⟩
              rw [hy] at has
              have qy := HIN.out i hil
              rw [hy] at qy
              have CF : Hid (∀ U, Below wr.heap.size wr U → U.cell? ⟨ga, oa + i * 2, none⟩ = some (.int .i64 y1) ∧ U.cell? ⟨ga, oa + i * 2 + 1, none⟩ = some (.int .i64 y2) ∧ U.cell? ⟨ga, oa + k * 2, none⟩ = some (.int .i64 z1) ∧ U.cell? ⟨ga, oa + k * 2 + 1, none⟩ = some (.int .i64 z2)) := hide (fun U k' => by
                have k1 := hB.out.trans (k'.mono hB.out.size)
                have k2 : Below w.heap.size w U := K1.out.trans (k1.mono K1.out.size)
                exact ⟨(k2.cell (p := ⟨ga, _, none⟩) hga).trans qy.1, (k2.cell (p := ⟨ga, _, none⟩) hga).trans qy.2, (k2.cell (p := ⟨ga, _, none⟩) hga).trans QZ.out.1, (k2.cell (p := ⟨ga, _, none⟩) hga).trans QZ.out.2⟩)
              have K : Below wr.heap.size wr wr.drew := (Below.refl _ _).drew
              have HC := hide (fun (U : World) => ocmp_any (w := U) (o := o) (a := (y1, y2)) (b := (z1, z2)))
              obtain ⟨c, hc⟩ : ∃ c, ocmp o (y1, y2) (z1, z2) = c := ⟨_, rfl⟩
              rw [hc] at has HC
              obtain ⟨z, hz⟩ : ∃ z, (c == 0) = z := ⟨_, rfl⟩
              rw [hz] at has
              have HAS := hide has
              clear has ht hy hc qy
              go_wp2
              first | go_region_held3 (fun u => u.cell? ⟨ga, oa + i * 2, none⟩ = some (.int .i64 y1) ∧ u.cell? ⟨ga, oa + i * 2 + 1, none⟩ = some (.int .i64 y2) ∧ u.cell? ⟨ga, oa + k * 2, none⟩ = some (.int .i64 z1) ∧ u.cell? ⟨ga, oa + k * 2 + 1, none⟩ = some (.int .i64 z2))
                (first | with_reducible exact CF.out _ K | go_keep)
                (first | (go_at_call 24; (with_reducible refine (HC.out _).mono ?_); rintro e w9 ⟨rfl, hb⟩; replace K := K.trans (hb.mono K.size); clear hb)) | fail "region"
              have HB9 := hide (hB.out.trans (K.mono hB.out.size))
              clear K
              go_wp2
              go_roundw
              case rel => first | exact ⟨i + 1, by rw [HAS.out]; simp, by simp, by omega, HB9⟩ | exact ⟨.bool z, .int .i64 ((i : Int) + 1), _, _, _, _, _, _, _, _, _, _, _, _, _, _, _, _, _, _, _, ⟨i + 1, by rw [HAS.out]; simp, by simp, by omega, HB9⟩, rfl⟩
              case measure => simp [intOf]; omega
          · have q4 : ¬ (i : Int) < (k : Int) := by omega
            obtain rfl : i = k := by omega
            rw [HAN.out]
            have CT := hide (fun (U : World) (k' : Below wr.heap.size wr U) => twice_any (I := fun _ => True) (w := U) ((RD.out U (K1.out.trans ((hB.out.trans (k'.mono hB.out.size)).mono K1.out.size))).take (k := i) (by omega)) (by rw [List.length_take]; omega) (by_is o) (fun _ _ => trivial))
            rw [HTN.out] at CT
            have K : Below wr.heap.size wr wr.drew := (Below.refl _ _).drew
            have n1 : i ≤ ca := by omega
            go_wp2
            first | go_region_held3 (fun _ => True) (trivial)
              (first | (go_at_call 12; (with_reducible refine by_any.mono ?_); rintro e w9 ⟨rfl, rfl⟩) | (go_at_call 25; (with_reducible refine (CT.out _ K).mono ?_); rintro e w9 ⟨rfl, hb⟩; replace K := K.trans (hb.mono K.size); clear hb) | (go_at_call 17; (with_reducible refine olives.mono ?_); rintro e w9 ⟨rfl, hb⟩; replace K := K.trans (hb.mono K.size); clear hb)) | fail "region"
            have HB9 := hide (K1.out.trans ((hB.out.trans (K.mono hB.out.size)).mono K1.out.size))
            go_wp2
            go_ret
            exact ⟨rfl, HB9.out⟩

end Go.Proofs.Ytohonibmpcgllaa
