/- ieee: nearest, Round (mk_ieeen.py) -/
import Derived.Test.YtfnfnkakaggmbabGreatDoorIeeeN
namespace Go.Proofs.YtfnfnkakaggmbabGreatDoor
open Go.RowKit
set_option linter.unusedVariables false

set_option maxRecDepth 20000 in
set_option maxHeartbeats 8000000 in
theorem nearest_h {w : World} {va : Value} {A e : Int} {ka : Nat} {more : Bool} (ha : Arg w va A ka) (hka : ka ≤ 1099511627776) (e0 : -9223372036854775808 ≤ e) (e1 : e < 9223372036854775808) :
    Calls Tryz.prog 106 #[.agg #[.int .i64 16, .int .i64 10, .int .i64 (-24)], va, .int .i64 e, .bool more] w fun x w' => ∃ r, x = .returned (.int .u64 r) ∧ Near 1024 (-24) 31744 (2 * A + b2i more) (e - 1) r ∧ Below w.heap.size w w' := by
  have hA := ha.nonneg
  go_enter Tryz.func106, Tryz.ntmps106
  go_upto_region 1 with fail
  have C := cell3_new w (.int .i64 16) (.int .i64 10) (.int .i64 (-24)) 65
  have K1 := bel_new w (.cells #[.int .i64 16, .int .i64 10, .int .i64 (-24)] 65)
  have A1 := ha.below K1
  generalize w.alloc (.cells #[.int .i64 16, .int .i64 10, .int .i64 (-24)] 65) = w1 at *
  clear ha
  go_wp2_with fail
  with_reducible refine (len_any A1 hka).mono ?_
  rintro x w2 ⟨size, rfl, hlen, hsz, rfl⟩
  have Hlen := hide hlen
  clear hlen
  have sz1 : (size : Int) ≤ 35184372088832 := by omega
  have c0 := C.c0; have c1 := C.c1; have c2 := C.c2
  by_cases z : size = 0
  · have z' : ((size : Int) == 0) = true := by simp [z]
    cases more
    · have HN := hide (near_low (F := 1024) (L := (-24)) (I := 31744) (e := e) (by decide) (by decide) hA Hlen.out (b2i_or false) (Or.inl ⟨z, rfl⟩))
      clear z
      go_wp2
      go_ret
      exact ⟨0, rfl, HN.out, K1⟩
    · obtain ⟨more0, hm⟩ : ∃ b, b = true := ⟨_, rfl⟩
      have Hmore := hide hm
      have Hz := hide (show ¬ (size = 0 ∧ b2i more0 = 0) by rw [hm]; simp [b2i])
      clear z hm
      by_cases lo : e < (-24) - (size : Int)
      · have HN := hide (near_low (F := 1024) (L := (-24)) (I := 31744) (by decide) (by decide) hA Hlen.out (b2i_or true) (Or.inr lo))
        skip
        go_wp2
        go_ret
        exact ⟨0, rfl, HN.out, K1⟩
      skip
      go_wp2_with fail
      with_reducible refine (limit_h _).mono ?_
      rintro x w3 ⟨rfl, b3⟩
      clear c0 c1 c2
      replace C := C.below b3
      replace K1 := below_trans K1 b3
      replace A1 := A1.below b3
      clear b3
      have c0 := C.c0; have c1 := C.c1; have c2 := C.c2
      by_cases hi : 16 - (size : Int) < e
      · have HN := hide (near_high (F := 1024) (L := (-24)) (I := 31744) (lim := 16) (fr := 10) (by decide) (by decide) (by decide) hA Hlen.out (b2i_or more0) Hz.out hi)
        rw [Hmore.out] at HN
        go_wp2_with fail
        with_reducible refine (infinite_h _).mono ?_
        rintro x w4 ⟨rfl, b4⟩
        go_wp2
        go_ret
        exact ⟨_, rfl, HN.out, below_trans K1 b4⟩
      obtain ⟨d, hd⟩ : ∃ d, d = size - 62 := ⟨_, rfl⟩
      have Hd := hide hd
      clear hd
      go_wp2_with fail
      with_reducible refine (cut_any A1 hka Hlen.out (by omega) Hd.out (by omega) (by omega)).mono ?_
      rintro x w4 ⟨rfl, b4⟩
      clear c0 c1 c2
      replace C := C.below b4
      replace K1 := below_trans K1 b4
      clear b4 A1
      have Hst := hide (sty_or (A % p2 d) (b2i more0))
      have Hsl := hide (short_len Hlen.out hA (b2i_or more0) Hz.out Hd.out Hst.out)
      rw [Hmore.out] at Hst Hsl
      obtain ⟨sl0, sl1⟩ := cut_low Hlen.out hA Hd.out
      have st01 : 0 ≤ sty (A % p2 d) (b2i true) ∧ sty (A % p2 d) (b2i true) ≤ 1 := by rcases Hst.out with h | h <;> omega
      obtain ⟨st0, st1⟩ := st01
      generalize hSH : 2 * (A / p2 d) + sty (A % p2 d) (b2i true) = sh at *
      have sh0 : 0 ≤ sh := by omega
      have sh1 : sh < 9223372036854775808 := by omega
      have HSH := hide hSH
      clear hSH sl0 sl1 st0 st1
      obtain ⟨t, ht⟩ : ∃ t, t = max (e + size - 1 - 10) (-24) := ⟨_, rfl⟩
      have Hfit := hide (mid_fits (L := (-24)) (fr := 10) (by decide) Hd.out Hsl.out sh0 (by omega) ht)
      have Hnear : ∀ q, 0 ≤ q → (0 ≤ e + d - 1 - t → q = sh * p2 (e + d - 1 - t).toNat) → (e + d - 1 - t < 0 → Half q (p2 (-(e + d - 1 - t)).toNat) (2 * sh)) → Hid (q ≤ 2 * 1024 ∧ (t = (-24) ∨ 1024 ≤ q) ∧ q + (t - (-24)) * 1024 ≤ 31744 ∧ Near 1024 (-24) 31744 (2 * A + b2i true) (e - 1) (q + (t - (-24)) * 1024)) := by
        intro q q0 h1 h2
        have hz := Hz.out
        rw [Hmore.out] at hz
        refine hide (near_of (lim := 16) (fr := 10) (size := size) (d := d) (st := sty (A % p2 d) (b2i true)) (by decide) (by decide) (by decide) (by decide) (by decide) Hlen.out hA (b2i_or _) hz (by omega) Hd.out Hst.out (by rw [ht]; rfl) (fun h => ?_) (fun h => ?_) q0)
        · rw [HSH.out]; exact h1 (by omega)
        · rw [HSH.out, show t - (e + d - 1) = -(e + d - 1 - t) by omega]; exact h2 (by omega)
      have hdd := Hd.out
      have hln : ((size + 1 - d : Nat) : Int) = size + 1 - d := by omega
      have t0 : (-24) ≤ t := by omega
      have t1 : t ≤ 4611686018427387904 := by omega
      have d0 : (d : Int) ≤ 35184372088832 := by omega
      have hw1 : IntKind.i64.wrap (e + d - 1 + ((size + 1 - d : Nat) : Int)) = e + size := by rw [IntKind.wrap_i64]; omega
      have hw2 : IntKind.i64.wrap (e + size - 1) = e + size - 1 := by rw [IntKind.wrap_i64]; omega
      have hw3 : IntKind.i64.wrap (e + size - 1 - 10) = e + size - 1 - 10 := by rw [IntKind.wrap_i64]; omega
      have hw4 : (if e + size - 1 - 10 < (-24) then (-24) else e + size - 1 - 10) = t := by split <;> omega
      have hw5 : IntKind.i64.wrap (e + d - 1 - t) = e + d - 1 - t := by rw [IntKind.wrap_i64]; omega
      have Hnn := hide Hnear
      have HT := hide ht
      clear hdd ht Hnear hln
      go_upto_region 7 with fail
      have K : Below w4.heap.size w4 w4.drew := (Below.refl _ _).drew
      go_region_held3 (fun w' => w'.cell? ⟨w.heap.size, 0, none⟩ = some (.int .i64 16) ∧ w'.cell? ⟨w.heap.size, 1, none⟩ = some (.int .i64 10) ∧ w'.cell? ⟨w.heap.size, 2, none⟩ = some (.int .i64 (-24)))
        (first
                | with_reducible exact ⟨(C.below K).c0, (C.below K).c1, (C.below K).c2⟩
                | go_keep)
        (first
          | (go_at_call 144; (with_reducible refine (len64_any sh _ sh0 (by omega)).mono ?_); rintro x w5 ⟨ln, rfl, hll, _, rfl⟩; obtain rfl := isLen_unique hll Hsl.out; clear hll))
      all_goals (
        (try simp only [hw1, hw2, hw3, hw4])
        replace C := C.below K
        replace K1 := below_trans K1 K
        clear K hw1 hw2 hw3 hw4
        go_upto_region 8 with fail)
      all_goals (
        have K : Below w4.drew.heap.size w4.drew w4.drew.drew := (Below.refl _ _).drew
        go_region_held3 (fun w' => w'.cell? ⟨w.heap.size, 0, none⟩ = some (.int .i64 16) ∧ w'.cell? ⟨w.heap.size, 1, none⟩ = some (.int .i64 10) ∧ w'.cell? ⟨w.heap.size, 2, none⟩ = some (.int .i64 (-24)))
          (first
                | with_reducible exact ⟨(C.below K).c0, (C.below K).c1, (C.below K).c2⟩
                | go_keep)
          (first
            | (go_at_call 146; (with_reducible refine (half_any _ sh (e + d - 1 - t) sh0 sh1 Hfit.out.1 Hfit.out.2).mono ?_); rintro x w6 ⟨q, rfl, q0, hq1, hq2, hb⟩; have HN := Hnn.out q q0 hq1 hq2; clear hq1 hq2; replace K := below_trans K hb; clear hb)
            | (go_at_call 145; (with_reducible refine (pattern_h _ q t q0 t0 HN.out.2.2.1).mono ?_); rintro x w7 ⟨rfl, hb⟩; replace K := below_trans K hb; clear hb)))
      all_goals (
        have HN2 := hide HN.out.2.2.2
        rw [show t - (-24) = t + 24 by omega] at HN2
        clear HN
        go_wp2
        go_ret
        exact ⟨_, rfl, HN2.out, below_trans K1 K⟩)
  · have z' : ((size : Int) == 0) = false := by simp [z]
    obtain ⟨more0, hm⟩ : ∃ b, b = more := ⟨_, rfl⟩
    have Hmore := hide hm
    have Hz := hide (show ¬ (size = 0 ∧ b2i more0 = 0) by omega)
    clear z hm
    by_cases lo : e < (-24) - (size : Int)
    · have HN := hide (near_low (F := 1024) (L := (-24)) (I := 31744) (by decide) (by decide) hA Hlen.out (b2i_or more) (Or.inr lo))
      skip
      go_wp2
      go_ret
      exact ⟨0, rfl, HN.out, K1⟩
    skip
    go_wp2_with fail
    with_reducible refine (limit_h _).mono ?_
    rintro x w3 ⟨rfl, b3⟩
    clear c0 c1 c2
    replace C := C.below b3
    replace K1 := below_trans K1 b3
    replace A1 := A1.below b3
    clear b3
    have c0 := C.c0; have c1 := C.c1; have c2 := C.c2
    by_cases hi : 16 - (size : Int) < e
    · have HN := hide (near_high (F := 1024) (L := (-24)) (I := 31744) (lim := 16) (fr := 10) (by decide) (by decide) (by decide) hA Hlen.out (b2i_or more0) Hz.out hi)
      rw [Hmore.out] at HN
      go_wp2_with fail
      with_reducible refine (infinite_h _).mono ?_
      rintro x w4 ⟨rfl, b4⟩
      go_wp2
      go_ret
      exact ⟨_, rfl, HN.out, below_trans K1 b4⟩
    obtain ⟨d, hd⟩ : ∃ d, d = size - 62 := ⟨_, rfl⟩
    have Hd := hide hd
    clear hd
    go_wp2_with fail
    with_reducible refine (cut_any A1 hka Hlen.out (by omega) Hd.out (by omega) (by omega)).mono ?_
    rintro x w4 ⟨rfl, b4⟩
    clear c0 c1 c2
    replace C := C.below b4
    replace K1 := below_trans K1 b4
    clear b4 A1
    have Hst := hide (sty_or (A % p2 d) (b2i more0))
    have Hsl := hide (short_len Hlen.out hA (b2i_or more0) Hz.out Hd.out Hst.out)
    rw [Hmore.out] at Hst Hsl
    obtain ⟨sl0, sl1⟩ := cut_low Hlen.out hA Hd.out
    have st01 : 0 ≤ sty (A % p2 d) (b2i more) ∧ sty (A % p2 d) (b2i more) ≤ 1 := by rcases Hst.out with h | h <;> omega
    obtain ⟨st0, st1⟩ := st01
    generalize hSH : 2 * (A / p2 d) + sty (A % p2 d) (b2i more) = sh at *
    have sh0 : 0 ≤ sh := by omega
    have sh1 : sh < 9223372036854775808 := by omega
    have HSH := hide hSH
    clear hSH sl0 sl1 st0 st1
    obtain ⟨t, ht⟩ : ∃ t, t = max (e + size - 1 - 10) (-24) := ⟨_, rfl⟩
    have Hfit := hide (mid_fits (L := (-24)) (fr := 10) (by decide) Hd.out Hsl.out sh0 (by omega) ht)
    have Hnear : ∀ q, 0 ≤ q → (0 ≤ e + d - 1 - t → q = sh * p2 (e + d - 1 - t).toNat) → (e + d - 1 - t < 0 → Half q (p2 (-(e + d - 1 - t)).toNat) (2 * sh)) → Hid (q ≤ 2 * 1024 ∧ (t = (-24) ∨ 1024 ≤ q) ∧ q + (t - (-24)) * 1024 ≤ 31744 ∧ Near 1024 (-24) 31744 (2 * A + b2i more) (e - 1) (q + (t - (-24)) * 1024)) := by
      intro q q0 h1 h2
      have hz := Hz.out
      rw [Hmore.out] at hz
      refine hide (near_of (lim := 16) (fr := 10) (size := size) (d := d) (st := sty (A % p2 d) (b2i more)) (by decide) (by decide) (by decide) (by decide) (by decide) Hlen.out hA (b2i_or _) hz (by omega) Hd.out Hst.out (by rw [ht]; rfl) (fun h => ?_) (fun h => ?_) q0)
      · rw [HSH.out]; exact h1 (by omega)
      · rw [HSH.out, show t - (e + d - 1) = -(e + d - 1 - t) by omega]; exact h2 (by omega)
    have hdd := Hd.out
    have hln : ((size + 1 - d : Nat) : Int) = size + 1 - d := by omega
    have t0 : (-24) ≤ t := by omega
    have t1 : t ≤ 4611686018427387904 := by omega
    have d0 : (d : Int) ≤ 35184372088832 := by omega
    have hw1 : IntKind.i64.wrap (e + d - 1 + ((size + 1 - d : Nat) : Int)) = e + size := by rw [IntKind.wrap_i64]; omega
    have hw2 : IntKind.i64.wrap (e + size - 1) = e + size - 1 := by rw [IntKind.wrap_i64]; omega
    have hw3 : IntKind.i64.wrap (e + size - 1 - 10) = e + size - 1 - 10 := by rw [IntKind.wrap_i64]; omega
    have hw4 : (if e + size - 1 - 10 < (-24) then (-24) else e + size - 1 - 10) = t := by split <;> omega
    have hw5 : IntKind.i64.wrap (e + d - 1 - t) = e + d - 1 - t := by rw [IntKind.wrap_i64]; omega
    have Hnn := hide Hnear
    have HT := hide ht
    clear hdd ht Hnear hln
    go_upto_region 7 with fail
    have K : Below w4.heap.size w4 w4.drew := (Below.refl _ _).drew
    go_region_held3 (fun w' => w'.cell? ⟨w.heap.size, 0, none⟩ = some (.int .i64 16) ∧ w'.cell? ⟨w.heap.size, 1, none⟩ = some (.int .i64 10) ∧ w'.cell? ⟨w.heap.size, 2, none⟩ = some (.int .i64 (-24)))
      (first
              | with_reducible exact ⟨(C.below K).c0, (C.below K).c1, (C.below K).c2⟩
              | go_keep)
      (first
        | (go_at_call 144; (with_reducible refine (len64_any sh _ sh0 (by omega)).mono ?_); rintro x w5 ⟨ln, rfl, hll, _, rfl⟩; obtain rfl := isLen_unique hll Hsl.out; clear hll))
    all_goals (
      (try simp only [hw1, hw2, hw3, hw4])
      replace C := C.below K
      replace K1 := below_trans K1 K
      clear K hw1 hw2 hw3 hw4
      go_upto_region 8 with fail)
    all_goals (
      have K : Below w4.drew.heap.size w4.drew w4.drew.drew := (Below.refl _ _).drew
      go_region_held3 (fun w' => w'.cell? ⟨w.heap.size, 0, none⟩ = some (.int .i64 16) ∧ w'.cell? ⟨w.heap.size, 1, none⟩ = some (.int .i64 10) ∧ w'.cell? ⟨w.heap.size, 2, none⟩ = some (.int .i64 (-24)))
        (first
              | with_reducible exact ⟨(C.below K).c0, (C.below K).c1, (C.below K).c2⟩
              | go_keep)
        (first
          | (go_at_call 146; (with_reducible refine (half_any _ sh (e + d - 1 - t) sh0 sh1 Hfit.out.1 Hfit.out.2).mono ?_); rintro x w6 ⟨q, rfl, q0, hq1, hq2, hb⟩; have HN := Hnn.out q q0 hq1 hq2; clear hq1 hq2; replace K := below_trans K hb; clear hb)
          | (go_at_call 145; (with_reducible refine (pattern_h _ q t q0 t0 HN.out.2.2.1).mono ?_); rintro x w7 ⟨rfl, hb⟩; replace K := below_trans K hb; clear hb)))
    all_goals (
      have HN2 := hide HN.out.2.2.2
      rw [show t - (-24) = t + 24 by omega] at HN2
      clear HN
      go_wp2
      go_ret
      exact ⟨_, rfl, HN2.out, below_trans K1 K⟩)

theorem or64_h (x : Int) (h0 : 0 ≤ x) (h1 : x < 32768) : bits .or .u64 x 32768 = x + 32768 := by
  rw [u64_or x 32768 h0 (by omega) (by decide) (by decide)]
  have := nat_or (n := 15) (x := x.toNat) (by omega)
  rw [show (32768 : Int).toNat = 2 ^ 15 from rfl, this]
  omega

set_option maxRecDepth 20000 in
set_option maxHeartbeats 8000000 in
theorem nearest_s {w : World} {va : Value} {A e : Int} {ka : Nat} {more : Bool} (ha : Arg w va A ka) (hka : ka ≤ 1099511627776) (e0 : -9223372036854775808 ≤ e) (e1 : e < 9223372036854775808) :
    Calls Tryz.prog 106 #[.agg #[.int .i64 32, .int .i64 23, .int .i64 (-149)], va, .int .i64 e, .bool more] w fun x w' => ∃ r, x = .returned (.int .u64 r) ∧ Near 8388608 (-149) 2139095040 (2 * A + b2i more) (e - 1) r ∧ Below w.heap.size w w' := by
  have hA := ha.nonneg
  go_enter Tryz.func106, Tryz.ntmps106
  go_upto_region 1 with fail
  have C := cell3_new w (.int .i64 32) (.int .i64 23) (.int .i64 (-149)) 65
  have K1 := bel_new w (.cells #[.int .i64 32, .int .i64 23, .int .i64 (-149)] 65)
  have A1 := ha.below K1
  generalize w.alloc (.cells #[.int .i64 32, .int .i64 23, .int .i64 (-149)] 65) = w1 at *
  clear ha
  go_wp2_with fail
  with_reducible refine (len_any A1 hka).mono ?_
  rintro x w2 ⟨size, rfl, hlen, hsz, rfl⟩
  have Hlen := hide hlen
  clear hlen
  have sz1 : (size : Int) ≤ 35184372088832 := by omega
  have c0 := C.c0; have c1 := C.c1; have c2 := C.c2
  by_cases z : size = 0
  · have z' : ((size : Int) == 0) = true := by simp [z]
    cases more
    · have HN := hide (near_low (F := 8388608) (L := (-149)) (I := 2139095040) (e := e) (by decide) (by decide) hA Hlen.out (b2i_or false) (Or.inl ⟨z, rfl⟩))
      clear z
      go_wp2
      go_ret
      exact ⟨0, rfl, HN.out, K1⟩
    · obtain ⟨more0, hm⟩ : ∃ b, b = true := ⟨_, rfl⟩
      have Hmore := hide hm
      have Hz := hide (show ¬ (size = 0 ∧ b2i more0 = 0) by rw [hm]; simp [b2i])
      clear z hm
      by_cases lo : e < (-149) - (size : Int)
      · have HN := hide (near_low (F := 8388608) (L := (-149)) (I := 2139095040) (by decide) (by decide) hA Hlen.out (b2i_or true) (Or.inr lo))
        skip
        go_wp2
        go_ret
        exact ⟨0, rfl, HN.out, K1⟩
      skip
      go_wp2_with fail
      with_reducible refine (limit_s _).mono ?_
      rintro x w3 ⟨rfl, b3⟩
      clear c0 c1 c2
      replace C := C.below b3
      replace K1 := below_trans K1 b3
      replace A1 := A1.below b3
      clear b3
      have c0 := C.c0; have c1 := C.c1; have c2 := C.c2
      by_cases hi : 128 - (size : Int) < e
      · have HN := hide (near_high (F := 8388608) (L := (-149)) (I := 2139095040) (lim := 128) (fr := 23) (by decide) (by decide) (by decide) hA Hlen.out (b2i_or more0) Hz.out hi)
        rw [Hmore.out] at HN
        go_wp2_with fail
        with_reducible refine (infinite_s _).mono ?_
        rintro x w4 ⟨rfl, b4⟩
        go_wp2
        go_ret
        exact ⟨_, rfl, HN.out, below_trans K1 b4⟩
      obtain ⟨d, hd⟩ : ∃ d, d = size - 62 := ⟨_, rfl⟩
      have Hd := hide hd
      clear hd
      go_wp2_with fail
      with_reducible refine (cut_any A1 hka Hlen.out (by omega) Hd.out (by omega) (by omega)).mono ?_
      rintro x w4 ⟨rfl, b4⟩
      clear c0 c1 c2
      replace C := C.below b4
      replace K1 := below_trans K1 b4
      clear b4 A1
      have Hst := hide (sty_or (A % p2 d) (b2i more0))
      have Hsl := hide (short_len Hlen.out hA (b2i_or more0) Hz.out Hd.out Hst.out)
      rw [Hmore.out] at Hst Hsl
      obtain ⟨sl0, sl1⟩ := cut_low Hlen.out hA Hd.out
      have st01 : 0 ≤ sty (A % p2 d) (b2i true) ∧ sty (A % p2 d) (b2i true) ≤ 1 := by rcases Hst.out with h | h <;> omega
      obtain ⟨st0, st1⟩ := st01
      generalize hSH : 2 * (A / p2 d) + sty (A % p2 d) (b2i true) = sh at *
      have sh0 : 0 ≤ sh := by omega
      have sh1 : sh < 9223372036854775808 := by omega
      have HSH := hide hSH
      clear hSH sl0 sl1 st0 st1
      obtain ⟨t, ht⟩ : ∃ t, t = max (e + size - 1 - 23) (-149) := ⟨_, rfl⟩
      have Hfit := hide (mid_fits (L := (-149)) (fr := 23) (by decide) Hd.out Hsl.out sh0 (by omega) ht)
      have Hnear : ∀ q, 0 ≤ q → (0 ≤ e + d - 1 - t → q = sh * p2 (e + d - 1 - t).toNat) → (e + d - 1 - t < 0 → Half q (p2 (-(e + d - 1 - t)).toNat) (2 * sh)) → Hid (q ≤ 2 * 8388608 ∧ (t = (-149) ∨ 8388608 ≤ q) ∧ q + (t - (-149)) * 8388608 ≤ 2139095040 ∧ Near 8388608 (-149) 2139095040 (2 * A + b2i true) (e - 1) (q + (t - (-149)) * 8388608)) := by
        intro q q0 h1 h2
        have hz := Hz.out
        rw [Hmore.out] at hz
        refine hide (near_of (lim := 128) (fr := 23) (size := size) (d := d) (st := sty (A % p2 d) (b2i true)) (by decide) (by decide) (by decide) (by decide) (by decide) Hlen.out hA (b2i_or _) hz (by omega) Hd.out Hst.out (by rw [ht]; rfl) (fun h => ?_) (fun h => ?_) q0)
        · rw [HSH.out]; exact h1 (by omega)
        · rw [HSH.out, show t - (e + d - 1) = -(e + d - 1 - t) by omega]; exact h2 (by omega)
      have hdd := Hd.out
      have hln : ((size + 1 - d : Nat) : Int) = size + 1 - d := by omega
      have t0 : (-149) ≤ t := by omega
      have t1 : t ≤ 4611686018427387904 := by omega
      have d0 : (d : Int) ≤ 35184372088832 := by omega
      have hw1 : IntKind.i64.wrap (e + d - 1 + ((size + 1 - d : Nat) : Int)) = e + size := by rw [IntKind.wrap_i64]; omega
      have hw2 : IntKind.i64.wrap (e + size - 1) = e + size - 1 := by rw [IntKind.wrap_i64]; omega
      have hw3 : IntKind.i64.wrap (e + size - 1 - 23) = e + size - 1 - 23 := by rw [IntKind.wrap_i64]; omega
      have hw4 : (if e + size - 1 - 23 < (-149) then (-149) else e + size - 1 - 23) = t := by split <;> omega
      have hw5 : IntKind.i64.wrap (e + d - 1 - t) = e + d - 1 - t := by rw [IntKind.wrap_i64]; omega
      have Hnn := hide Hnear
      have HT := hide ht
      clear hdd ht Hnear hln
      go_upto_region 7 with fail
      have K : Below w4.heap.size w4 w4.drew := (Below.refl _ _).drew
      go_region_held3 (fun w' => w'.cell? ⟨w.heap.size, 0, none⟩ = some (.int .i64 32) ∧ w'.cell? ⟨w.heap.size, 1, none⟩ = some (.int .i64 23) ∧ w'.cell? ⟨w.heap.size, 2, none⟩ = some (.int .i64 (-149)))
        (first
                | with_reducible exact ⟨(C.below K).c0, (C.below K).c1, (C.below K).c2⟩
                | go_keep)
        (first
          | (go_at_call 144; (with_reducible refine (len64_any sh _ sh0 (by omega)).mono ?_); rintro x w5 ⟨ln, rfl, hll, _, rfl⟩; obtain rfl := isLen_unique hll Hsl.out; clear hll))
      all_goals (
        (try simp only [hw1, hw2, hw3, hw4])
        replace C := C.below K
        replace K1 := below_trans K1 K
        clear K hw1 hw2 hw3 hw4
        go_upto_region 8 with fail)
      all_goals (
        have K : Below w4.drew.heap.size w4.drew w4.drew.drew := (Below.refl _ _).drew
        go_region_held3 (fun w' => w'.cell? ⟨w.heap.size, 0, none⟩ = some (.int .i64 32) ∧ w'.cell? ⟨w.heap.size, 1, none⟩ = some (.int .i64 23) ∧ w'.cell? ⟨w.heap.size, 2, none⟩ = some (.int .i64 (-149)))
          (first
                | with_reducible exact ⟨(C.below K).c0, (C.below K).c1, (C.below K).c2⟩
                | go_keep)
          (first
            | (go_at_call 146; (with_reducible refine (half_any _ sh (e + d - 1 - t) sh0 sh1 Hfit.out.1 Hfit.out.2).mono ?_); rintro x w6 ⟨q, rfl, q0, hq1, hq2, hb⟩; have HN := Hnn.out q q0 hq1 hq2; clear hq1 hq2; replace K := below_trans K hb; clear hb)
            | (go_at_call 145; (with_reducible refine (pattern_s _ q t q0 t0 HN.out.2.2.1).mono ?_); rintro x w7 ⟨rfl, hb⟩; replace K := below_trans K hb; clear hb)))
      all_goals (
        have HN2 := hide HN.out.2.2.2
        rw [show t - (-149) = t + 149 by omega] at HN2
        clear HN
        go_wp2
        go_ret
        exact ⟨_, rfl, HN2.out, below_trans K1 K⟩)
  · have z' : ((size : Int) == 0) = false := by simp [z]
    obtain ⟨more0, hm⟩ : ∃ b, b = more := ⟨_, rfl⟩
    have Hmore := hide hm
    have Hz := hide (show ¬ (size = 0 ∧ b2i more0 = 0) by omega)
    clear z hm
    by_cases lo : e < (-149) - (size : Int)
    · have HN := hide (near_low (F := 8388608) (L := (-149)) (I := 2139095040) (by decide) (by decide) hA Hlen.out (b2i_or more) (Or.inr lo))
      skip
      go_wp2
      go_ret
      exact ⟨0, rfl, HN.out, K1⟩
    skip
    go_wp2_with fail
    with_reducible refine (limit_s _).mono ?_
    rintro x w3 ⟨rfl, b3⟩
    clear c0 c1 c2
    replace C := C.below b3
    replace K1 := below_trans K1 b3
    replace A1 := A1.below b3
    clear b3
    have c0 := C.c0; have c1 := C.c1; have c2 := C.c2
    by_cases hi : 128 - (size : Int) < e
    · have HN := hide (near_high (F := 8388608) (L := (-149)) (I := 2139095040) (lim := 128) (fr := 23) (by decide) (by decide) (by decide) hA Hlen.out (b2i_or more0) Hz.out hi)
      rw [Hmore.out] at HN
      go_wp2_with fail
      with_reducible refine (infinite_s _).mono ?_
      rintro x w4 ⟨rfl, b4⟩
      go_wp2
      go_ret
      exact ⟨_, rfl, HN.out, below_trans K1 b4⟩
    obtain ⟨d, hd⟩ : ∃ d, d = size - 62 := ⟨_, rfl⟩
    have Hd := hide hd
    clear hd
    go_wp2_with fail
    with_reducible refine (cut_any A1 hka Hlen.out (by omega) Hd.out (by omega) (by omega)).mono ?_
    rintro x w4 ⟨rfl, b4⟩
    clear c0 c1 c2
    replace C := C.below b4
    replace K1 := below_trans K1 b4
    clear b4 A1
    have Hst := hide (sty_or (A % p2 d) (b2i more0))
    have Hsl := hide (short_len Hlen.out hA (b2i_or more0) Hz.out Hd.out Hst.out)
    rw [Hmore.out] at Hst Hsl
    obtain ⟨sl0, sl1⟩ := cut_low Hlen.out hA Hd.out
    have st01 : 0 ≤ sty (A % p2 d) (b2i more) ∧ sty (A % p2 d) (b2i more) ≤ 1 := by rcases Hst.out with h | h <;> omega
    obtain ⟨st0, st1⟩ := st01
    generalize hSH : 2 * (A / p2 d) + sty (A % p2 d) (b2i more) = sh at *
    have sh0 : 0 ≤ sh := by omega
    have sh1 : sh < 9223372036854775808 := by omega
    have HSH := hide hSH
    clear hSH sl0 sl1 st0 st1
    obtain ⟨t, ht⟩ : ∃ t, t = max (e + size - 1 - 23) (-149) := ⟨_, rfl⟩
    have Hfit := hide (mid_fits (L := (-149)) (fr := 23) (by decide) Hd.out Hsl.out sh0 (by omega) ht)
    have Hnear : ∀ q, 0 ≤ q → (0 ≤ e + d - 1 - t → q = sh * p2 (e + d - 1 - t).toNat) → (e + d - 1 - t < 0 → Half q (p2 (-(e + d - 1 - t)).toNat) (2 * sh)) → Hid (q ≤ 2 * 8388608 ∧ (t = (-149) ∨ 8388608 ≤ q) ∧ q + (t - (-149)) * 8388608 ≤ 2139095040 ∧ Near 8388608 (-149) 2139095040 (2 * A + b2i more) (e - 1) (q + (t - (-149)) * 8388608)) := by
      intro q q0 h1 h2
      have hz := Hz.out
      rw [Hmore.out] at hz
      refine hide (near_of (lim := 128) (fr := 23) (size := size) (d := d) (st := sty (A % p2 d) (b2i more)) (by decide) (by decide) (by decide) (by decide) (by decide) Hlen.out hA (b2i_or _) hz (by omega) Hd.out Hst.out (by rw [ht]; rfl) (fun h => ?_) (fun h => ?_) q0)
      · rw [HSH.out]; exact h1 (by omega)
      · rw [HSH.out, show t - (e + d - 1) = -(e + d - 1 - t) by omega]; exact h2 (by omega)
    have hdd := Hd.out
    have hln : ((size + 1 - d : Nat) : Int) = size + 1 - d := by omega
    have t0 : (-149) ≤ t := by omega
    have t1 : t ≤ 4611686018427387904 := by omega
    have d0 : (d : Int) ≤ 35184372088832 := by omega
    have hw1 : IntKind.i64.wrap (e + d - 1 + ((size + 1 - d : Nat) : Int)) = e + size := by rw [IntKind.wrap_i64]; omega
    have hw2 : IntKind.i64.wrap (e + size - 1) = e + size - 1 := by rw [IntKind.wrap_i64]; omega
    have hw3 : IntKind.i64.wrap (e + size - 1 - 23) = e + size - 1 - 23 := by rw [IntKind.wrap_i64]; omega
    have hw4 : (if e + size - 1 - 23 < (-149) then (-149) else e + size - 1 - 23) = t := by split <;> omega
    have hw5 : IntKind.i64.wrap (e + d - 1 - t) = e + d - 1 - t := by rw [IntKind.wrap_i64]; omega
    have Hnn := hide Hnear
    have HT := hide ht
    clear hdd ht Hnear hln
    go_upto_region 7 with fail
    have K : Below w4.heap.size w4 w4.drew := (Below.refl _ _).drew
    go_region_held3 (fun w' => w'.cell? ⟨w.heap.size, 0, none⟩ = some (.int .i64 32) ∧ w'.cell? ⟨w.heap.size, 1, none⟩ = some (.int .i64 23) ∧ w'.cell? ⟨w.heap.size, 2, none⟩ = some (.int .i64 (-149)))
      (first
              | with_reducible exact ⟨(C.below K).c0, (C.below K).c1, (C.below K).c2⟩
              | go_keep)
      (first
        | (go_at_call 144; (with_reducible refine (len64_any sh _ sh0 (by omega)).mono ?_); rintro x w5 ⟨ln, rfl, hll, _, rfl⟩; obtain rfl := isLen_unique hll Hsl.out; clear hll))
    all_goals (
      (try simp only [hw1, hw2, hw3, hw4])
      replace C := C.below K
      replace K1 := below_trans K1 K
      clear K hw1 hw2 hw3 hw4
      go_upto_region 8 with fail)
    all_goals (
      have K : Below w4.drew.heap.size w4.drew w4.drew.drew := (Below.refl _ _).drew
      go_region_held3 (fun w' => w'.cell? ⟨w.heap.size, 0, none⟩ = some (.int .i64 32) ∧ w'.cell? ⟨w.heap.size, 1, none⟩ = some (.int .i64 23) ∧ w'.cell? ⟨w.heap.size, 2, none⟩ = some (.int .i64 (-149)))
        (first
              | with_reducible exact ⟨(C.below K).c0, (C.below K).c1, (C.below K).c2⟩
              | go_keep)
        (first
          | (go_at_call 146; (with_reducible refine (half_any _ sh (e + d - 1 - t) sh0 sh1 Hfit.out.1 Hfit.out.2).mono ?_); rintro x w6 ⟨q, rfl, q0, hq1, hq2, hb⟩; have HN := Hnn.out q q0 hq1 hq2; clear hq1 hq2; replace K := below_trans K hb; clear hb)
          | (go_at_call 145; (with_reducible refine (pattern_s _ q t q0 t0 HN.out.2.2.1).mono ?_); rintro x w7 ⟨rfl, hb⟩; replace K := below_trans K hb; clear hb)))
    all_goals (
      have HN2 := hide HN.out.2.2.2
      rw [show t - (-149) = t + 149 by omega] at HN2
      clear HN
      go_wp2
      go_ret
      exact ⟨_, rfl, HN2.out, below_trans K1 K⟩)

theorem or64_s (x : Int) (h0 : 0 ≤ x) (h1 : x < 2147483648) : bits .or .u64 x 2147483648 = x + 2147483648 := by
  rw [u64_or x 2147483648 h0 (by omega) (by decide) (by decide)]
  have := nat_or (n := 31) (x := x.toNat) (by omega)
  rw [show (2147483648 : Int).toNat = 2 ^ 31 from rfl, this]
  omega

set_option maxRecDepth 20000 in
set_option maxHeartbeats 8000000 in
theorem nearest_d {w : World} {va : Value} {A e : Int} {ka : Nat} {more : Bool} (ha : Arg w va A ka) (hka : ka ≤ 1099511627776) (e0 : -9223372036854775808 ≤ e) (e1 : e < 9223372036854775808) :
    Calls Tryz.prog 106 #[.agg #[.int .i64 64, .int .i64 52, .int .i64 (-1074)], va, .int .i64 e, .bool more] w fun x w' => ∃ r, x = .returned (.int .u64 r) ∧ Near 4503599627370496 (-1074) 9218868437227405312 (2 * A + b2i more) (e - 1) r ∧ Below w.heap.size w w' := by
  have hA := ha.nonneg
  go_enter Tryz.func106, Tryz.ntmps106
  go_upto_region 1 with fail
  have C := cell3_new w (.int .i64 64) (.int .i64 52) (.int .i64 (-1074)) 65
  have K1 := bel_new w (.cells #[.int .i64 64, .int .i64 52, .int .i64 (-1074)] 65)
  have A1 := ha.below K1
  generalize w.alloc (.cells #[.int .i64 64, .int .i64 52, .int .i64 (-1074)] 65) = w1 at *
  clear ha
  go_wp2_with fail
  with_reducible refine (len_any A1 hka).mono ?_
  rintro x w2 ⟨size, rfl, hlen, hsz, rfl⟩
  have Hlen := hide hlen
  clear hlen
  have sz1 : (size : Int) ≤ 35184372088832 := by omega
  have c0 := C.c0; have c1 := C.c1; have c2 := C.c2
  by_cases z : size = 0
  · have z' : ((size : Int) == 0) = true := by simp [z]
    cases more
    · have HN := hide (near_low (F := 4503599627370496) (L := (-1074)) (I := 9218868437227405312) (e := e) (by decide) (by decide) hA Hlen.out (b2i_or false) (Or.inl ⟨z, rfl⟩))
      clear z
      go_wp2
      go_ret
      exact ⟨0, rfl, HN.out, K1⟩
    · obtain ⟨more0, hm⟩ : ∃ b, b = true := ⟨_, rfl⟩
      have Hmore := hide hm
      have Hz := hide (show ¬ (size = 0 ∧ b2i more0 = 0) by rw [hm]; simp [b2i])
      clear z hm
      by_cases lo : e < (-1074) - (size : Int)
      · have HN := hide (near_low (F := 4503599627370496) (L := (-1074)) (I := 9218868437227405312) (by decide) (by decide) hA Hlen.out (b2i_or true) (Or.inr lo))
        skip
        go_wp2
        go_ret
        exact ⟨0, rfl, HN.out, K1⟩
      skip
      go_wp2_with fail
      with_reducible refine (limit_d _).mono ?_
      rintro x w3 ⟨rfl, b3⟩
      clear c0 c1 c2
      replace C := C.below b3
      replace K1 := below_trans K1 b3
      replace A1 := A1.below b3
      clear b3
      have c0 := C.c0; have c1 := C.c1; have c2 := C.c2
      by_cases hi : 1024 - (size : Int) < e
      · have HN := hide (near_high (F := 4503599627370496) (L := (-1074)) (I := 9218868437227405312) (lim := 1024) (fr := 52) (by decide) (by decide) (by decide) hA Hlen.out (b2i_or more0) Hz.out hi)
        rw [Hmore.out] at HN
        go_wp2_with fail
        with_reducible refine (infinite_d _).mono ?_
        rintro x w4 ⟨rfl, b4⟩
        go_wp2
        go_ret
        exact ⟨_, rfl, HN.out, below_trans K1 b4⟩
      obtain ⟨d, hd⟩ : ∃ d, d = size - 62 := ⟨_, rfl⟩
      have Hd := hide hd
      clear hd
      go_wp2_with fail
      with_reducible refine (cut_any A1 hka Hlen.out (by omega) Hd.out (by omega) (by omega)).mono ?_
      rintro x w4 ⟨rfl, b4⟩
      clear c0 c1 c2
      replace C := C.below b4
      replace K1 := below_trans K1 b4
      clear b4 A1
      have Hst := hide (sty_or (A % p2 d) (b2i more0))
      have Hsl := hide (short_len Hlen.out hA (b2i_or more0) Hz.out Hd.out Hst.out)
      rw [Hmore.out] at Hst Hsl
      obtain ⟨sl0, sl1⟩ := cut_low Hlen.out hA Hd.out
      have st01 : 0 ≤ sty (A % p2 d) (b2i true) ∧ sty (A % p2 d) (b2i true) ≤ 1 := by rcases Hst.out with h | h <;> omega
      obtain ⟨st0, st1⟩ := st01
      generalize hSH : 2 * (A / p2 d) + sty (A % p2 d) (b2i true) = sh at *
      have sh0 : 0 ≤ sh := by omega
      have sh1 : sh < 9223372036854775808 := by omega
      have HSH := hide hSH
      clear hSH sl0 sl1 st0 st1
      obtain ⟨t, ht⟩ : ∃ t, t = max (e + size - 1 - 52) (-1074) := ⟨_, rfl⟩
      have Hfit := hide (mid_fits (L := (-1074)) (fr := 52) (by decide) Hd.out Hsl.out sh0 (by omega) ht)
      have Hnear : ∀ q, 0 ≤ q → (0 ≤ e + d - 1 - t → q = sh * p2 (e + d - 1 - t).toNat) → (e + d - 1 - t < 0 → Half q (p2 (-(e + d - 1 - t)).toNat) (2 * sh)) → Hid (q ≤ 2 * 4503599627370496 ∧ (t = (-1074) ∨ 4503599627370496 ≤ q) ∧ q + (t - (-1074)) * 4503599627370496 ≤ 9218868437227405312 ∧ Near 4503599627370496 (-1074) 9218868437227405312 (2 * A + b2i true) (e - 1) (q + (t - (-1074)) * 4503599627370496)) := by
        intro q q0 h1 h2
        have hz := Hz.out
        rw [Hmore.out] at hz
        refine hide (near_of (lim := 1024) (fr := 52) (size := size) (d := d) (st := sty (A % p2 d) (b2i true)) (by decide) (by decide) (by decide) (by decide) (by decide) Hlen.out hA (b2i_or _) hz (by omega) Hd.out Hst.out (by rw [ht]; rfl) (fun h => ?_) (fun h => ?_) q0)
        · rw [HSH.out]; exact h1 (by omega)
        · rw [HSH.out, show t - (e + d - 1) = -(e + d - 1 - t) by omega]; exact h2 (by omega)
      have hdd := Hd.out
      have hln : ((size + 1 - d : Nat) : Int) = size + 1 - d := by omega
      have t0 : (-1074) ≤ t := by omega
      have t1 : t ≤ 4611686018427387904 := by omega
      have d0 : (d : Int) ≤ 35184372088832 := by omega
      have hw1 : IntKind.i64.wrap (e + d - 1 + ((size + 1 - d : Nat) : Int)) = e + size := by rw [IntKind.wrap_i64]; omega
      have hw2 : IntKind.i64.wrap (e + size - 1) = e + size - 1 := by rw [IntKind.wrap_i64]; omega
      have hw3 : IntKind.i64.wrap (e + size - 1 - 52) = e + size - 1 - 52 := by rw [IntKind.wrap_i64]; omega
      have hw4 : (if e + size - 1 - 52 < (-1074) then (-1074) else e + size - 1 - 52) = t := by split <;> omega
      have hw5 : IntKind.i64.wrap (e + d - 1 - t) = e + d - 1 - t := by rw [IntKind.wrap_i64]; omega
      have Hnn := hide Hnear
      have HT := hide ht
      clear hdd ht Hnear hln
      go_upto_region 7 with fail
      have K : Below w4.heap.size w4 w4.drew := (Below.refl _ _).drew
      go_region_held3 (fun w' => w'.cell? ⟨w.heap.size, 0, none⟩ = some (.int .i64 64) ∧ w'.cell? ⟨w.heap.size, 1, none⟩ = some (.int .i64 52) ∧ w'.cell? ⟨w.heap.size, 2, none⟩ = some (.int .i64 (-1074)))
        (first
                | with_reducible exact ⟨(C.below K).c0, (C.below K).c1, (C.below K).c2⟩
                | go_keep)
        (first
          | (go_at_call 144; (with_reducible refine (len64_any sh _ sh0 (by omega)).mono ?_); rintro x w5 ⟨ln, rfl, hll, _, rfl⟩; obtain rfl := isLen_unique hll Hsl.out; clear hll))
      all_goals (
        (try simp only [hw1, hw2, hw3, hw4])
        replace C := C.below K
        replace K1 := below_trans K1 K
        clear K hw1 hw2 hw3 hw4
        go_upto_region 8 with fail)
      all_goals (
        have K : Below w4.drew.heap.size w4.drew w4.drew.drew := (Below.refl _ _).drew
        go_region_held3 (fun w' => w'.cell? ⟨w.heap.size, 0, none⟩ = some (.int .i64 64) ∧ w'.cell? ⟨w.heap.size, 1, none⟩ = some (.int .i64 52) ∧ w'.cell? ⟨w.heap.size, 2, none⟩ = some (.int .i64 (-1074)))
          (first
                | with_reducible exact ⟨(C.below K).c0, (C.below K).c1, (C.below K).c2⟩
                | go_keep)
          (first
            | (go_at_call 146; (with_reducible refine (half_any _ sh (e + d - 1 - t) sh0 sh1 Hfit.out.1 Hfit.out.2).mono ?_); rintro x w6 ⟨q, rfl, q0, hq1, hq2, hb⟩; have HN := Hnn.out q q0 hq1 hq2; clear hq1 hq2; replace K := below_trans K hb; clear hb)
            | (go_at_call 145; (with_reducible refine (pattern_d _ q t q0 t0 HN.out.2.2.1).mono ?_); rintro x w7 ⟨rfl, hb⟩; replace K := below_trans K hb; clear hb)))
      all_goals (
        have HN2 := hide HN.out.2.2.2
        rw [show t - (-1074) = t + 1074 by omega] at HN2
        clear HN
        go_wp2
        go_ret
        exact ⟨_, rfl, HN2.out, below_trans K1 K⟩)
  · have z' : ((size : Int) == 0) = false := by simp [z]
    obtain ⟨more0, hm⟩ : ∃ b, b = more := ⟨_, rfl⟩
    have Hmore := hide hm
    have Hz := hide (show ¬ (size = 0 ∧ b2i more0 = 0) by omega)
    clear z hm
    by_cases lo : e < (-1074) - (size : Int)
    · have HN := hide (near_low (F := 4503599627370496) (L := (-1074)) (I := 9218868437227405312) (by decide) (by decide) hA Hlen.out (b2i_or more) (Or.inr lo))
      skip
      go_wp2
      go_ret
      exact ⟨0, rfl, HN.out, K1⟩
    skip
    go_wp2_with fail
    with_reducible refine (limit_d _).mono ?_
    rintro x w3 ⟨rfl, b3⟩
    clear c0 c1 c2
    replace C := C.below b3
    replace K1 := below_trans K1 b3
    replace A1 := A1.below b3
    clear b3
    have c0 := C.c0; have c1 := C.c1; have c2 := C.c2
    by_cases hi : 1024 - (size : Int) < e
    · have HN := hide (near_high (F := 4503599627370496) (L := (-1074)) (I := 9218868437227405312) (lim := 1024) (fr := 52) (by decide) (by decide) (by decide) hA Hlen.out (b2i_or more0) Hz.out hi)
      rw [Hmore.out] at HN
      go_wp2_with fail
      with_reducible refine (infinite_d _).mono ?_
      rintro x w4 ⟨rfl, b4⟩
      go_wp2
      go_ret
      exact ⟨_, rfl, HN.out, below_trans K1 b4⟩
    obtain ⟨d, hd⟩ : ∃ d, d = size - 62 := ⟨_, rfl⟩
    have Hd := hide hd
    clear hd
    go_wp2_with fail
    with_reducible refine (cut_any A1 hka Hlen.out (by omega) Hd.out (by omega) (by omega)).mono ?_
    rintro x w4 ⟨rfl, b4⟩
    clear c0 c1 c2
    replace C := C.below b4
    replace K1 := below_trans K1 b4
    clear b4 A1
    have Hst := hide (sty_or (A % p2 d) (b2i more0))
    have Hsl := hide (short_len Hlen.out hA (b2i_or more0) Hz.out Hd.out Hst.out)
    rw [Hmore.out] at Hst Hsl
    obtain ⟨sl0, sl1⟩ := cut_low Hlen.out hA Hd.out
    have st01 : 0 ≤ sty (A % p2 d) (b2i more) ∧ sty (A % p2 d) (b2i more) ≤ 1 := by rcases Hst.out with h | h <;> omega
    obtain ⟨st0, st1⟩ := st01
    generalize hSH : 2 * (A / p2 d) + sty (A % p2 d) (b2i more) = sh at *
    have sh0 : 0 ≤ sh := by omega
    have sh1 : sh < 9223372036854775808 := by omega
    have HSH := hide hSH
    clear hSH sl0 sl1 st0 st1
    obtain ⟨t, ht⟩ : ∃ t, t = max (e + size - 1 - 52) (-1074) := ⟨_, rfl⟩
    have Hfit := hide (mid_fits (L := (-1074)) (fr := 52) (by decide) Hd.out Hsl.out sh0 (by omega) ht)
    have Hnear : ∀ q, 0 ≤ q → (0 ≤ e + d - 1 - t → q = sh * p2 (e + d - 1 - t).toNat) → (e + d - 1 - t < 0 → Half q (p2 (-(e + d - 1 - t)).toNat) (2 * sh)) → Hid (q ≤ 2 * 4503599627370496 ∧ (t = (-1074) ∨ 4503599627370496 ≤ q) ∧ q + (t - (-1074)) * 4503599627370496 ≤ 9218868437227405312 ∧ Near 4503599627370496 (-1074) 9218868437227405312 (2 * A + b2i more) (e - 1) (q + (t - (-1074)) * 4503599627370496)) := by
      intro q q0 h1 h2
      have hz := Hz.out
      rw [Hmore.out] at hz
      refine hide (near_of (lim := 1024) (fr := 52) (size := size) (d := d) (st := sty (A % p2 d) (b2i more)) (by decide) (by decide) (by decide) (by decide) (by decide) Hlen.out hA (b2i_or _) hz (by omega) Hd.out Hst.out (by rw [ht]; rfl) (fun h => ?_) (fun h => ?_) q0)
      · rw [HSH.out]; exact h1 (by omega)
      · rw [HSH.out, show t - (e + d - 1) = -(e + d - 1 - t) by omega]; exact h2 (by omega)
    have hdd := Hd.out
    have hln : ((size + 1 - d : Nat) : Int) = size + 1 - d := by omega
    have t0 : (-1074) ≤ t := by omega
    have t1 : t ≤ 4611686018427387904 := by omega
    have d0 : (d : Int) ≤ 35184372088832 := by omega
    have hw1 : IntKind.i64.wrap (e + d - 1 + ((size + 1 - d : Nat) : Int)) = e + size := by rw [IntKind.wrap_i64]; omega
    have hw2 : IntKind.i64.wrap (e + size - 1) = e + size - 1 := by rw [IntKind.wrap_i64]; omega
    have hw3 : IntKind.i64.wrap (e + size - 1 - 52) = e + size - 1 - 52 := by rw [IntKind.wrap_i64]; omega
    have hw4 : (if e + size - 1 - 52 < (-1074) then (-1074) else e + size - 1 - 52) = t := by split <;> omega
    have hw5 : IntKind.i64.wrap (e + d - 1 - t) = e + d - 1 - t := by rw [IntKind.wrap_i64]; omega
    have Hnn := hide Hnear
    have HT := hide ht
    clear hdd ht Hnear hln
    go_upto_region 7 with fail
    have K : Below w4.heap.size w4 w4.drew := (Below.refl _ _).drew
    go_region_held3 (fun w' => w'.cell? ⟨w.heap.size, 0, none⟩ = some (.int .i64 64) ∧ w'.cell? ⟨w.heap.size, 1, none⟩ = some (.int .i64 52) ∧ w'.cell? ⟨w.heap.size, 2, none⟩ = some (.int .i64 (-1074)))
      (first
              | with_reducible exact ⟨(C.below K).c0, (C.below K).c1, (C.below K).c2⟩
              | go_keep)
      (first
        | (go_at_call 144; (with_reducible refine (len64_any sh _ sh0 (by omega)).mono ?_); rintro x w5 ⟨ln, rfl, hll, _, rfl⟩; obtain rfl := isLen_unique hll Hsl.out; clear hll))
    all_goals (
      (try simp only [hw1, hw2, hw3, hw4])
      replace C := C.below K
      replace K1 := below_trans K1 K
      clear K hw1 hw2 hw3 hw4
      go_upto_region 8 with fail)
    all_goals (
      have K : Below w4.drew.heap.size w4.drew w4.drew.drew := (Below.refl _ _).drew
      go_region_held3 (fun w' => w'.cell? ⟨w.heap.size, 0, none⟩ = some (.int .i64 64) ∧ w'.cell? ⟨w.heap.size, 1, none⟩ = some (.int .i64 52) ∧ w'.cell? ⟨w.heap.size, 2, none⟩ = some (.int .i64 (-1074)))
        (first
              | with_reducible exact ⟨(C.below K).c0, (C.below K).c1, (C.below K).c2⟩
              | go_keep)
        (first
          | (go_at_call 146; (with_reducible refine (half_any _ sh (e + d - 1 - t) sh0 sh1 Hfit.out.1 Hfit.out.2).mono ?_); rintro x w6 ⟨q, rfl, q0, hq1, hq2, hb⟩; have HN := Hnn.out q q0 hq1 hq2; clear hq1 hq2; replace K := below_trans K hb; clear hb)
          | (go_at_call 145; (with_reducible refine (pattern_d _ q t q0 t0 HN.out.2.2.1).mono ?_); rintro x w7 ⟨rfl, hb⟩; replace K := below_trans K hb; clear hb)))
    all_goals (
      have HN2 := hide HN.out.2.2.2
      rw [show t - (-1074) = t + 1074 by omega] at HN2
      clear HN
      go_wp2
      go_ret
      exact ⟨_, rfl, HN2.out, below_trans K1 K⟩)

theorem or64_d (x : Int) (h0 : 0 ≤ x) (h1 : x < 9223372036854775808) : bits .or .u64 x 9223372036854775808 = x + 9223372036854775808 := by
  rw [u64_or x 9223372036854775808 h0 (by omega) (by decide) (by decide)]
  have := nat_or (n := 63) (x := x.toNat) (by omega)
  rw [show (9223372036854775808 : Int).toNat = 2 ^ 63 from rfl, this]
  omega

set_option maxHeartbeats 4000000 in
theorem round_64 {w : World} (L : Lays w) {va : Value} {A e : Int} {ka : Nat} {neg more : Bool} (ha : Arg w va A ka) (hka : ka ≤ 1099511627776) (e0 : -9223372036854775808 ≤ e) (e1 : e < 9223372036854775808) :
    Calls Tryz.prog 67 #[.bool neg, va, .int .i64 e, .bool more] w fun x w' => ∃ r, x = .returned (.int .u64 (r + b2i neg * 9223372036854775808)) ∧ Near 4503599627370496 (-1074) 9218868437227405312 (2 * A + b2i more) (e - 1) r ∧ Below w.heap.size w w' := by
  go_enter Tryz.func67, Tryz.ntmps67
  go_wp2_with fail
  with_reducible refine (layoutOf_64 L).mono ?_
  rintro e w1 ⟨rfl, K1⟩
  go_upto_region 2 with fail
  have C := cell3_new w1 (.int .i64 64) (.int .i64 52) (.int .i64 (-1074)) 65
  have K2 := below_trans K1 (bel_new w1 (.cells #[.int .i64 64, .int .i64 52, .int .i64 (-1074)] 65))
  generalize w1.alloc (.cells #[.int .i64 64, .int .i64 52, .int .i64 (-1074)] 65) = w2 at *
  have c0 := C.c0; have c1 := C.c1; have c2 := C.c2
  go_wp2_with fail
  with_reducible refine (nearest_d (ha.below K2) hka e0 e1).mono ?_
  rintro x w3 ⟨r, rfl, hN, b3⟩
  clear c0 c1 c2
  replace C := C.below b3
  replace K2 := below_trans K2 b3
  clear b3
  have r0 := hN.1
  have r1 := hN.2.1
  have HN := hide hN
  have ho := or64_d r r0 (by omega)
  clear hN
  have c0 := C.c0; have c1 := C.c1; have c2 := C.c2
  cases neg
  · go_wp2
    go_ret
    exact ⟨r, ret_int (by rw [show b2i false = 0 from rfl]; omega), HN.out, K2⟩
  · go_wp2_with fail
    with_reducible refine (sign_d _).mono ?_
    rintro x w4 ⟨rfl, b4⟩
    go_wp2
    go_ret
    exact ⟨r, ret_int (by rw [show b2i true = 1 from rfl]; omega), HN.out, below_trans K2 b4⟩

end Go.Proofs.YtfnfnkakaggmbabGreatDoor
