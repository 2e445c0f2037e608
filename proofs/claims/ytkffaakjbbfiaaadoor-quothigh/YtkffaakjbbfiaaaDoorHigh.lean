/- QuotHigh: the walk -/
import Derived.Test.YtkffaakjbbfiaaaDoorQStr
namespace Go.Proofs.YtkffaakjbbfiaaaDoor
open Go.RowKit

theorem row_one8 (w : World) (x : Int) : Row .u8 5 (w.alloc (.cells #[.int .u8 x] 5)) w.heap.size [x] := by
  unfold Row
  rw [heap_alloc_new]
  rfl

theorem high_from {w : World} {A : Int} {s : ByteArray} (hs : Bstr A s) (z : Nat) (hz : z < 256) (hl : s.size ≤ 1048576) :
    Calls Tryd.prog 17 #[.string (strOfNums (List.replicate z 0) ++ s)] w fun e w' => ∃ v, e = .returned (.tuple #[v, .bool true]) ∧ Num w.heap.size w' v A 262144 ∧ Below w.heap.size w w' := by
  obtain ⟨ds, d1, d2, rfl⟩ := hs
  have hdl : ds.length ≤ 1048576 := by rw [strOfNums_size, List.length_reverse] at hl; exact hl
  refine (qfrom_any d1 d2 ?_ hdl (bstr_drop d1 z)).mono ?_
  · have e : (strOfNums (List.replicate z 0) ++ strOfNums ds.reverse).size = (strOfNums (List.replicate z 0)).size + (strOfNums ds.reverse).size := by simp
    rw [e, strOfNums_size, strOfNums_size, List.length_replicate, List.length_reverse]
    omega
  · rintro e w' ⟨v, rfl, hn, hb⟩
    exact ⟨v, rfl, hn.mono (by omega), hb⟩

set_option maxRecDepth 20000 in
set_option maxHeartbeats 16000000 in
theorem high_walk {w : World} {va vb : Value} {A B x : Int} {z ka kb : Nat} (h_a : Arg w va A ka) (h_b : Arg w vb B kb) (hx : 0 ≤ x ∧ x < 256) (z1 : z < 256) (l_a : ka ≤ 35184372087808) (l_b : kb ≤ 35184372087808) :
    Calls Tryd.prog 5 #[va, vb, .int .u8 x, .int .u8 (z : Int)] w fun e w' => e = .returned (.bool true) ∧ Below w.heap.size w w' := by
  obtain ⟨ao, la, ca, rfl, h_a, hla⟩ : ∃ ao la ca, va = .slice ao la ca ∧ Arg w (.slice ao la ca) A la ∧ la ≤ 35184372087808 := by
    obtain ⟨xs, ⟨ao, ca, rfl, h1, h2, h3⟩, h4, h5, h6⟩ := h_a
    exact ⟨ao, xs.length, ca, rfl, ⟨xs, ⟨ao, ca, rfl, h1, h2, h3⟩, h4, h5, Nat.le_refl _⟩, by omega⟩
  have n_a := h_a.nonneg
  have hW : Below w.heap.size w w := Below.refl _ _
  obtain ⟨x0, x1⟩ := hx
  go_enter Tryd.func5, Tryd.ntmps5
  go_wp2_with fail
  with_reducible refine (twin_arg h_a (by omega)).mono ?_
  rintro e w1 ⟨v1, rfl, h_s, hB⟩
  replace hW := below_trans hW hB
  replace h_a := h_a.below hB
  replace h_b := h_b.below hB
  clear hB
  go_wp2_with fail
  with_reducible refine (qbytes_any h_s (by omega)).mono ?_
  rintro e w2 ⟨s, rfl, hs, hs4, hB⟩
  replace hW := below_trans hW hB
  replace h_a := h_a.below hB
  replace h_b := h_b.below hB
  clear hB h_s
  go_wp2_with fail
  with_reducible refine (twin_arg h_b (by omega)).mono ?_
  rintro e w3 ⟨v3, rfl, h_t, hB⟩
  replace hW := below_trans hW hB
  replace h_a := h_a.below hB
  replace h_b := h_b.below hB
  clear hB
  go_wp2_with fail
  with_reducible refine (qbytes_any h_t (by omega)).mono ?_
  rintro e w4 ⟨t, rfl, ht, ht4, hB⟩
  replace hW := below_trans hW hB
  replace h_a := h_a.below hB
  replace h_b := h_b.below hB
  clear hB h_t
  go_wp2_with fail
  with_reducible refine (mul_any (h_a.below (below_alloc _ _)) (arg_one w4 (x := 256) (by omega)) (by omega) (by omega)).mono ?_
  rintro e w5 ⟨v5, rfl, h_m, hB⟩
  have hB2 := below_trans (below_alloc w4 _) hB
  replace hW := below_trans hW hB2
  replace h_a := h_a.below hB2
  replace h_b := h_b.below hB2
  clear hB hB2
  go_wp2_with fail
  with_reducible refine (add_any (h_m.arg.below (below_alloc _ _)) (arg_one w5 (x := x) ⟨x0, by omega⟩) (by omega) (by omega)).mono ?_
  rintro e w6 ⟨v6, rfl, h_n, hB⟩
  have hB2 := below_trans (below_alloc w5 _) hB
  replace hW := below_trans hW hB2
  replace h_a := h_a.below hB2
  replace h_b := h_b.below hB2
  clear hB hB2 h_m
  go_wp2_with fail
  with_reducible refine (qbytes_any h_n.arg (by omega)).mono ?_
  rintro e w7 ⟨m, rfl, hm, hm4, hB⟩
  replace hW := below_trans hW hB
  replace h_a := h_a.below hB
  replace h_b := h_b.below hB
  clear hB h_n
  have hcv := row_string (cap := 1) (row_one8 w7 x)
  have l1 : ([x] : List Int).length = 1 := rfl
  rw [l1] at hcv
  have hB2 := below_alloc w7 (.cells #[.int .u8 x] 5)
  have hW8 := below_trans hW hB2
  have h_a8 := h_a.below hB2
  have h_b8 := h_b.below hB2
  have hfirst : Hid (∀ h : 0 < s.size, (((s[0]'h).toNat : Nat) : Int) ≠ 0) := hide (fun h => bstr_first hs h)
  clear hW h_a h_b hB2 l1
  have k1 : ¬ 9223372036854775807 < s.size + (strOfNums [x]).size := by rw [strOfNums_size]; simp; omega
  clear hm4 ht4
  by_cases hA : A = 0
  · have hlz := len_is h_a8 (by omega) (k := 0) (by rw [hA]; exact isLen_zero)
    go_wp2_with fail
    with_reducible refine hlz.mono ?_
    clear hlz
    rintro e w8 ⟨rfl, rfl⟩
    by_cases hx0 : x = 0
    · have hme : m = ⟨#[]⟩ := bstr_one (by rw [hA, hx0] at hm; exact hm) bstr_zero
      subst hme
      have xb : (x == 0) = true := by simp [hx0]
      clear hx0 hm
      by_cases hps : 0 < s.size
      · have hf := hfirst.out hps
        have f1 : ((((s[0]'hps).toNat : Nat) : Int) == 0) = false := by simpa using hf
        have f2 : (0 : Int) < (s.size : Int) := by omega
        clear hf hfirst
        go_wp2_with fail
        with_reducible refine (less_bstr hs ht).mono ?_
        rintro e w9 ⟨rfl, rfl⟩
        go_wp2_with fail
        with_reducible refine (cmp_any h_a8 h_b8 (by omega) (by omega)).mono ?_
        rintro e w10 ⟨rfl, hB⟩
        replace hW8 := below_trans hW8 hB
        replace h_a8 := h_a8.below hB
        clear hB h_b8
        by_cases hbig : 262144 < la
        · have hbig1 : (262144 : Int) < (la : Int) := by omega
          go_wp2_with fail
          with_reducible refine qlives_any.mono ?_
          rintro e w11 ⟨rfl, hB⟩
          replace hW8 := below_trans hW8 hB
          clear hB
          go_wp2
          go_ret
          exact ⟨rfl, hW8⟩
        · have hbig1 : ¬ (262144 : Int) < (la : Int) := by omega
          go_wp2_with (at_make; refine wpList_make_row _ rfl _ _ 35 rfl 5 .u8 1 Tryd.underlying35 Tryd.infoU8 _ _ _ _ z z rfl rfl (by omega) (by omega) (Nat.le_refl _) (by omega) (by unfold maxLen; omega) ?_)
          intro w11 hr hB hsz
          replace hW8 := below_trans hW8 hB
          replace h_a8 := h_a8.below hB
          have hcv2 := row_string (cap := z) hr
          rw [List.length_replicate] at hcv2
          have k2 : ¬ 9223372036854775807 < (strOfNums (List.replicate z 0)).size + s.size := by rw [strOfNums_size, List.length_replicate]; omega
          have HFrom := hide (high_from (w := w11) hs z (by omega) (by omega))
          obtain ⟨u, hu⟩ : ∃ u, strOfNums (List.replicate z 0) = u := ⟨_, rfl⟩
          rw [hu] at hcv2 k2 HFrom
          clear hB hu hr
          go_wp2_with fail
          with_reducible refine HFrom.out.mono ?_
          rintro e w12 ⟨vn, rfl, h_n, hB⟩
          replace hW8 := below_trans hW8 hB
          replace h_a8 := h_a8.below hB
          have s3 := sgn_self A
          clear hB HFrom
          go_wp2_with fail
          with_reducible refine (cmp_any h_n.arg h_a8 (by omega) (by omega)).mono ?_
          rintro e w13 ⟨rfl, hB⟩
          replace hW8 := below_trans hW8 hB
          replace h_n := h_n.below hB
          clear hB
          go_wp2_with fail
          with_reducible refine (tight_num h_n).mono ?_
          rintro e w14 ⟨rfl, rfl⟩
          go_wp2_with fail
          with_reducible refine qlives_any.mono ?_
          rintro e w15 ⟨rfl, hB⟩
          replace hW8 := below_trans hW8 hB
          clear hB
          go_wp2
          go_ret
          exact ⟨rfl, hW8⟩
      · have f2 : ¬ (0 : Int) < (s.size : Int) := by omega
        clear hfirst
        go_wp2_with fail
        with_reducible refine (less_bstr hs ht).mono ?_
        rintro e w9 ⟨rfl, rfl⟩
        go_wp2_with fail
        with_reducible refine (cmp_any h_a8 h_b8 (by omega) (by omega)).mono ?_
        rintro e w10 ⟨rfl, hB⟩
        replace hW8 := below_trans hW8 hB
        replace h_a8 := h_a8.below hB
        clear hB h_b8
        by_cases hbig : 262144 < la
        · have hbig1 : (262144 : Int) < (la : Int) := by omega
          go_wp2_with fail
          with_reducible refine qlives_any.mono ?_
          rintro e w11 ⟨rfl, hB⟩
          replace hW8 := below_trans hW8 hB
          clear hB
          go_wp2
          go_ret
          exact ⟨rfl, hW8⟩
        · have hbig1 : ¬ (262144 : Int) < (la : Int) := by omega
          go_wp2_with (at_make; refine wpList_make_row _ rfl _ _ 35 rfl 5 .u8 1 Tryd.underlying35 Tryd.infoU8 _ _ _ _ z z rfl rfl (by omega) (by omega) (Nat.le_refl _) (by omega) (by unfold maxLen; omega) ?_)
          intro w11 hr hB hsz
          replace hW8 := below_trans hW8 hB
          replace h_a8 := h_a8.below hB
          have hcv2 := row_string (cap := z) hr
          rw [List.length_replicate] at hcv2
          have k2 : ¬ 9223372036854775807 < (strOfNums (List.replicate z 0)).size + s.size := by rw [strOfNums_size, List.length_replicate]; omega
          have HFrom := hide (high_from (w := w11) hs z (by omega) (by omega))
          obtain ⟨u, hu⟩ : ∃ u, strOfNums (List.replicate z 0) = u := ⟨_, rfl⟩
          rw [hu] at hcv2 k2 HFrom
          clear hB hu hr
          go_wp2_with fail
          with_reducible refine HFrom.out.mono ?_
          rintro e w12 ⟨vn, rfl, h_n, hB⟩
          replace hW8 := below_trans hW8 hB
          replace h_a8 := h_a8.below hB
          have s3 := sgn_self A
          clear hB HFrom
          go_wp2_with fail
          with_reducible refine (cmp_any h_n.arg h_a8 (by omega) (by omega)).mono ?_
          rintro e w13 ⟨rfl, hB⟩
          replace hW8 := below_trans hW8 hB
          replace h_n := h_n.below hB
          clear hB
          go_wp2_with fail
          with_reducible refine (tight_num h_n).mono ?_
          rintro e w14 ⟨rfl, rfl⟩
          go_wp2_with fail
          with_reducible refine qlives_any.mono ?_
          rintro e w15 ⟨rfl, hB⟩
          replace hW8 := below_trans hW8 hB
          clear hB
          go_wp2
          go_ret
          exact ⟨rfl, hW8⟩
    · have hme : m = s ++ strOfNums [x] := bstr_one hm (bstr_more hs ⟨x0, x1⟩ (fun h => hx0 h.2))
      subst hme
      have xb : (x == 0) = false := by simp [hx0]
      clear hm
      by_cases hps : 0 < s.size
      · have hf := hfirst.out hps
        have f1 : ((((s[0]'hps).toNat : Nat) : Int) == 0) = false := by simpa using hf
        have f2 : (0 : Int) < (s.size : Int) := by omega
        clear hf hfirst
        go_wp2_with fail
        with_reducible refine (less_bstr hs ht).mono ?_
        rintro e w9 ⟨rfl, rfl⟩
        go_wp2_with fail
        with_reducible refine (cmp_any h_a8 h_b8 (by omega) (by omega)).mono ?_
        rintro e w10 ⟨rfl, hB⟩
        replace hW8 := below_trans hW8 hB
        replace h_a8 := h_a8.below hB
        clear hB h_b8
        by_cases hbig : 262144 < la
        · have hbig1 : (262144 : Int) < (la : Int) := by omega
          go_wp2_with fail
          with_reducible refine qlives_any.mono ?_
          rintro e w11 ⟨rfl, hB⟩
          replace hW8 := below_trans hW8 hB
          clear hB
          go_wp2
          go_ret
          exact ⟨rfl, hW8⟩
        · have hbig1 : ¬ (262144 : Int) < (la : Int) := by omega
          go_wp2_with (at_make; refine wpList_make_row _ rfl _ _ 35 rfl 5 .u8 1 Tryd.underlying35 Tryd.infoU8 _ _ _ _ z z rfl rfl (by omega) (by omega) (Nat.le_refl _) (by omega) (by unfold maxLen; omega) ?_)
          intro w11 hr hB hsz
          replace hW8 := below_trans hW8 hB
          replace h_a8 := h_a8.below hB
          have hcv2 := row_string (cap := z) hr
          rw [List.length_replicate] at hcv2
          have k2 : ¬ 9223372036854775807 < (strOfNums (List.replicate z 0)).size + s.size := by rw [strOfNums_size, List.length_replicate]; omega
          have HFrom := hide (high_from (w := w11) hs z (by omega) (by omega))
          obtain ⟨u, hu⟩ : ∃ u, strOfNums (List.replicate z 0) = u := ⟨_, rfl⟩
          rw [hu] at hcv2 k2 HFrom
          clear hB hu hr
          go_wp2_with fail
          with_reducible refine HFrom.out.mono ?_
          rintro e w12 ⟨vn, rfl, h_n, hB⟩
          replace hW8 := below_trans hW8 hB
          replace h_a8 := h_a8.below hB
          have s3 := sgn_self A
          clear hB HFrom
          go_wp2_with fail
          with_reducible refine (cmp_any h_n.arg h_a8 (by omega) (by omega)).mono ?_
          rintro e w13 ⟨rfl, hB⟩
          replace hW8 := below_trans hW8 hB
          replace h_n := h_n.below hB
          clear hB
          go_wp2_with fail
          with_reducible refine (tight_num h_n).mono ?_
          rintro e w14 ⟨rfl, rfl⟩
          go_wp2_with fail
          with_reducible refine qlives_any.mono ?_
          rintro e w15 ⟨rfl, hB⟩
          replace hW8 := below_trans hW8 hB
          clear hB
          go_wp2
          go_ret
          exact ⟨rfl, hW8⟩
      · have f2 : ¬ (0 : Int) < (s.size : Int) := by omega
        clear hfirst
        go_wp2_with fail
        with_reducible refine (less_bstr hs ht).mono ?_
        rintro e w9 ⟨rfl, rfl⟩
        go_wp2_with fail
        with_reducible refine (cmp_any h_a8 h_b8 (by omega) (by omega)).mono ?_
        rintro e w10 ⟨rfl, hB⟩
        replace hW8 := below_trans hW8 hB
        replace h_a8 := h_a8.below hB
        clear hB h_b8
        by_cases hbig : 262144 < la
        · have hbig1 : (262144 : Int) < (la : Int) := by omega
          go_wp2_with fail
          with_reducible refine qlives_any.mono ?_
          rintro e w11 ⟨rfl, hB⟩
          replace hW8 := below_trans hW8 hB
          clear hB
          go_wp2
          go_ret
          exact ⟨rfl, hW8⟩
        · have hbig1 : ¬ (262144 : Int) < (la : Int) := by omega
          go_wp2_with (at_make; refine wpList_make_row _ rfl _ _ 35 rfl 5 .u8 1 Tryd.underlying35 Tryd.infoU8 _ _ _ _ z z rfl rfl (by omega) (by omega) (Nat.le_refl _) (by omega) (by unfold maxLen; omega) ?_)
          intro w11 hr hB hsz
          replace hW8 := below_trans hW8 hB
          replace h_a8 := h_a8.below hB
          have hcv2 := row_string (cap := z) hr
          rw [List.length_replicate] at hcv2
          have k2 : ¬ 9223372036854775807 < (strOfNums (List.replicate z 0)).size + s.size := by rw [strOfNums_size, List.length_replicate]; omega
          have HFrom := hide (high_from (w := w11) hs z (by omega) (by omega))
          obtain ⟨u, hu⟩ : ∃ u, strOfNums (List.replicate z 0) = u := ⟨_, rfl⟩
          rw [hu] at hcv2 k2 HFrom
          clear hB hu hr
          go_wp2_with fail
          with_reducible refine HFrom.out.mono ?_
          rintro e w12 ⟨vn, rfl, h_n, hB⟩
          replace hW8 := below_trans hW8 hB
          replace h_a8 := h_a8.below hB
          have s3 := sgn_self A
          clear hB HFrom
          go_wp2_with fail
          with_reducible refine (cmp_any h_n.arg h_a8 (by omega) (by omega)).mono ?_
          rintro e w13 ⟨rfl, hB⟩
          replace hW8 := below_trans hW8 hB
          replace h_n := h_n.below hB
          clear hB
          go_wp2_with fail
          with_reducible refine (tight_num h_n).mono ?_
          rintro e w14 ⟨rfl, rfl⟩
          go_wp2_with fail
          with_reducible refine qlives_any.mono ?_
          rintro e w15 ⟨rfl, hB⟩
          replace hW8 := below_trans hW8 hB
          clear hB
          go_wp2
          go_ret
          exact ⟨rfl, hW8⟩
  · have hlp := len_any h_a8 (by omega)
    go_wp2_with fail
    with_reducible refine hlp.mono ?_
    clear hlp
    rintro e w8 ⟨k9, rfl, hk9, _, rfl⟩
    have p_k9 := isLen_pos hk9 (by omega)
    have r_k9 : ((k9 : Int) == 0) = false := by simp; omega
    clear hk9
    have hme : m = s ++ strOfNums [x] := bstr_one hm (bstr_more hs ⟨x0, x1⟩ (fun h => hA h.1))
    subst hme
    clear hm
    by_cases hps : 0 < s.size
    · have hf := hfirst.out hps
      have f1 : ((((s[0]'hps).toNat : Nat) : Int) == 0) = false := by simpa using hf
      have f2 : (0 : Int) < (s.size : Int) := by omega
      clear hf hfirst
      go_wp2_with fail
      with_reducible refine (less_bstr hs ht).mono ?_
      rintro e w9 ⟨rfl, rfl⟩
      go_wp2_with fail
      with_reducible refine (cmp_any h_a8 h_b8 (by omega) (by omega)).mono ?_
      rintro e w10 ⟨rfl, hB⟩
      replace hW8 := below_trans hW8 hB
      replace h_a8 := h_a8.below hB
      clear hB h_b8
      by_cases hbig : 262144 < la
      · have hbig1 : (262144 : Int) < (la : Int) := by omega
        go_wp2_with fail
        with_reducible refine qlives_any.mono ?_
        rintro e w11 ⟨rfl, hB⟩
        replace hW8 := below_trans hW8 hB
        clear hB
        go_wp2
        go_ret
        exact ⟨rfl, hW8⟩
      · have hbig1 : ¬ (262144 : Int) < (la : Int) := by omega
        go_wp2_with (at_make; refine wpList_make_row _ rfl _ _ 35 rfl 5 .u8 1 Tryd.underlying35 Tryd.infoU8 _ _ _ _ z z rfl rfl (by omega) (by omega) (Nat.le_refl _) (by omega) (by unfold maxLen; omega) ?_)
        intro w11 hr hB hsz
        replace hW8 := below_trans hW8 hB
        replace h_a8 := h_a8.below hB
        have hcv2 := row_string (cap := z) hr
        rw [List.length_replicate] at hcv2
        have k2 : ¬ 9223372036854775807 < (strOfNums (List.replicate z 0)).size + s.size := by rw [strOfNums_size, List.length_replicate]; omega
        have HFrom := hide (high_from (w := w11) hs z (by omega) (by omega))
        obtain ⟨u, hu⟩ : ∃ u, strOfNums (List.replicate z 0) = u := ⟨_, rfl⟩
        rw [hu] at hcv2 k2 HFrom
        clear hB hu hr
        go_wp2_with fail
        with_reducible refine HFrom.out.mono ?_
        rintro e w12 ⟨vn, rfl, h_n, hB⟩
        replace hW8 := below_trans hW8 hB
        replace h_a8 := h_a8.below hB
        have s3 := sgn_self A
        clear hB HFrom
        go_wp2_with fail
        with_reducible refine (cmp_any h_n.arg h_a8 (by omega) (by omega)).mono ?_
        rintro e w13 ⟨rfl, hB⟩
        replace hW8 := below_trans hW8 hB
        replace h_n := h_n.below hB
        clear hB
        go_wp2_with fail
        with_reducible refine (tight_num h_n).mono ?_
        rintro e w14 ⟨rfl, rfl⟩
        go_wp2_with fail
        with_reducible refine qlives_any.mono ?_
        rintro e w15 ⟨rfl, hB⟩
        replace hW8 := below_trans hW8 hB
        clear hB
        go_wp2
        go_ret
        exact ⟨rfl, hW8⟩
    · have f2 : ¬ (0 : Int) < (s.size : Int) := by omega
      clear hfirst
      go_wp2_with fail
      with_reducible refine (less_bstr hs ht).mono ?_
      rintro e w9 ⟨rfl, rfl⟩
      go_wp2_with fail
      with_reducible refine (cmp_any h_a8 h_b8 (by omega) (by omega)).mono ?_
      rintro e w10 ⟨rfl, hB⟩
      replace hW8 := below_trans hW8 hB
      replace h_a8 := h_a8.below hB
      clear hB h_b8
      by_cases hbig : 262144 < la
      · have hbig1 : (262144 : Int) < (la : Int) := by omega
        go_wp2_with fail
        with_reducible refine qlives_any.mono ?_
        rintro e w11 ⟨rfl, hB⟩
        replace hW8 := below_trans hW8 hB
        clear hB
        go_wp2
        go_ret
        exact ⟨rfl, hW8⟩
      · have hbig1 : ¬ (262144 : Int) < (la : Int) := by omega
        go_wp2_with (at_make; refine wpList_make_row _ rfl _ _ 35 rfl 5 .u8 1 Tryd.underlying35 Tryd.infoU8 _ _ _ _ z z rfl rfl (by omega) (by omega) (Nat.le_refl _) (by omega) (by unfold maxLen; omega) ?_)
        intro w11 hr hB hsz
        replace hW8 := below_trans hW8 hB
        replace h_a8 := h_a8.below hB
        have hcv2 := row_string (cap := z) hr
        rw [List.length_replicate] at hcv2
        have k2 : ¬ 9223372036854775807 < (strOfNums (List.replicate z 0)).size + s.size := by rw [strOfNums_size, List.length_replicate]; omega
        have HFrom := hide (high_from (w := w11) hs z (by omega) (by omega))
        obtain ⟨u, hu⟩ : ∃ u, strOfNums (List.replicate z 0) = u := ⟨_, rfl⟩
        rw [hu] at hcv2 k2 HFrom
        clear hB hu hr
        go_wp2_with fail
        with_reducible refine HFrom.out.mono ?_
        rintro e w12 ⟨vn, rfl, h_n, hB⟩
        replace hW8 := below_trans hW8 hB
        replace h_a8 := h_a8.below hB
        have s3 := sgn_self A
        clear hB HFrom
        go_wp2_with fail
        with_reducible refine (cmp_any h_n.arg h_a8 (by omega) (by omega)).mono ?_
        rintro e w13 ⟨rfl, hB⟩
        replace hW8 := below_trans hW8 hB
        replace h_n := h_n.below hB
        clear hB
        go_wp2_with fail
        with_reducible refine (tight_num h_n).mono ?_
        rintro e w14 ⟨rfl, rfl⟩
        go_wp2_with fail
        with_reducible refine qlives_any.mono ?_
        rintro e w15 ⟨rfl, hB⟩
        replace hW8 := below_trans hW8 hB
        clear hB
        go_wp2
        go_ret
        exact ⟨rfl, hW8⟩

/-- of numbers as the row's reading hands them over -/
theorem high_wf {w : World} {va vb : Value} {A B x z : Int} {ka kb : Nat} (h_a : Arg w va A ka) (h_b : Arg w vb B kb) (hx : (Lit.int .u8 x).wf = true) (hz : (Lit.int .u8 z).wf = true) (l_a : ka ≤ 35184372087808) (l_b : kb ≤ 35184372087808) :
    Calls Tryd.prog 5 #[va, vb, .int .u8 x, .int .u8 z] w fun e w' => e = .returned (.bool true) ∧ Below w.heap.size w w' := by
  have h1 : 0 ≤ x ∧ x ≤ 255 := by simpa [Lit.wf, IntKind.min, IntKind.max, IntKind.signed, IntKind.bits] using hx
  have h2 : 0 ≤ z ∧ z ≤ 255 := by simpa [Lit.wf, IntKind.min, IntKind.max, IntKind.signed, IntKind.bits] using hz
  obtain ⟨n, rfl⟩ := Int.eq_ofNat_of_zero_le h2.1
  exact high_walk h_a h_b ⟨h1.1, by omega⟩ (by omega) l_a l_b

end Go.Proofs.YtkffaakjbbfiaaaDoor
