/- DecimalNearest: the walk -/
import Derived.Test.YtigehipclkoecabGreatDoorDLaw
import Derived.Test.YtigehipclkoecabGreatDoorDLives
import Derived.Test.YtigehipclkoecabGreatDoorAppZero
namespace Go.Proofs.YtigehipclkoecabGreatDoor
open Go.RowKit
set_option linter.unusedVariables false

set_option maxRecDepth 100000 in
set_option maxHeartbeats 4000000 in
theorem lscaled7 {w : World} {va : Value} {A p : Int} {ka : Nat} (ha : Arg w va A ka) (hk : ka ≤ 10000) (p0 : 0 ≤ p) (p1 : p ≤ 420) :
    Calls Tryz.prog 38 #[va, .int .i64 p] w fun e w' => ∃ v, e = .returned v ∧ Arg w' v (A * tn p.toNat) (ka + 2048) ∧ Below w.heap.size w w' := by
  obtain ⟨n, rfl⟩ : ∃ n : Nat, p = n := ⟨p.toNat, by omega⟩
  rw [Int.toNat_natCast]
  have HA := hide ha
  clear ha
  go_enter Tryz.func38, Tryz.ntmps38
  go_wp2_with fail
  refine (pow_ok (b := 10) (N := n) (k := 4) (by omega) (by omega) ⟨by decide, fun _ => by decide⟩ (by omega) (.inr (by omega))).mono ?_
  rintro x w1 ⟨v1, rfl, h1, b1⟩
  have H1 := hide (show Arg w1 v1 (tn n) 2048 from h1.arg)
  clear h1
  go_wp2_with fail
  with_reducible refine (mul_any (HA.out.below b1) H1.out (by omega) (by omega)).mono ?_
  rintro x w2 ⟨v2, rfl, h2, b2⟩
  have H2 := hide (And.intro h2.arg (below_trans b1 b2))
  clear h2 b1 b2
  go_wp2
  go_ret
  exact ⟨_, rfl, H2.out.1, H2.out.2⟩

theorem and52 (x : Int) (h0 : 0 ≤ x) (h1 : x < 18446744073709551616) : bits .and .u64 x 4503599627370495 = x % 4503599627370496 := by
  rw [u64_and x 4503599627370495 h0 h1 (by decide) (by decide)]
  rw [show (4503599627370495 : Int).toNat = 2 ^ 52 - 1 from rfl, Nat.and_two_pow_sub_one_eq_mod]
  omega
theorem or52 (x : Int) (h0 : 0 ≤ x) (h1 : x < 4503599627370496) : bits .or .u64 x 4503599627370496 = x + 4503599627370496 := by
  rw [u64_or x 4503599627370496 h0 (by omega) (by decide) (by decide)]
  have := nat_or (n := 52) (x := x.toNat) (by omega)
  rw [show (4503599627370496 : Int).toNat = 2 ^ 52 from rfl, this]
  omega
set_option maxRecDepth 100000 in
set_option maxHeartbeats 4000000 in
theorem middle7 {w : World} {z : Int} (z0 : 0 ≤ z) (z1 : z < 9218868437227405312) :
    Calls Tryz.prog 16 #[.int .u64 z] w fun e w' => ∃ v n E, e = .returned (.tuple #[v, .int .i64 E]) ∧ Arg w' v n 2 ∧ -1075 ≤ E ∧ E ≤ 971 ∧ mid2 4503599627370496 (-1074) z = n * p2 (E + 1075).toNat ∧ Below w.heap.size w w' := by
  have hmid := mid2_at (F := 4503599627370496) (L := -1074) (r := z) (by decide) z0
  by_cases c : z < 4503599627370496
  · have q : z / 4503599627370496 = 0 := Int.ediv_eq_zero_of_lt z0 c
    have hm : mst 4503599627370496 z = z := by unfold mst; rw [if_pos c]
    have he : est 4503599627370496 (-1074) z = -1074 := by unfold est; rw [if_pos c]
    rw [hm, he] at hmid
    have HM := hide hmid
    clear hmid hm he
    go_enter Tryz.func16, Tryz.ntmps16
    go_wp2_with fail
    with_reducible refine (from_any (2 * z + 1) (by omega) (by omega)).mono ?_
    rintro x w1 ⟨v1, rfl, h1, b1⟩
    have H1 := hide (And.intro h1.arg b1)
    clear h1 b1
    go_wp2
    go_ret2
    exact ⟨_, _, _, rfl, H1.out.1, by omega, by omega, HM.out, H1.out.2⟩
  · have q0 : 1 ≤ z / 4503599627370496 := by rw [Int.le_ediv_iff_mul_le (by omega)]; omega
    have q1 : z / 4503599627370496 ≤ 2046 := by omega
    have hm : mst 4503599627370496 z = z % 4503599627370496 + 4503599627370496 := by unfold mst; rw [if_neg c]
    have he : est 4503599627370496 (-1074) z = -1074 - 1 + z / 4503599627370496 := by unfold est; rw [if_neg c]
    rw [hm, he] at hmid
    have m0 := Int.emod_nonneg z (b := 4503599627370496) (by omega)
    have m1 := Int.emod_lt_of_pos z (b := 4503599627370496) (by omega)
    have HM := hide hmid
    clear hmid hm he
    go_enter Tryz.func16, Tryz.ntmps16
    have ba := and52 z z0 (by omega)
    have bo := or52 (z % 4503599627370496) m0 m1
    go_wp2_with fail
    with_reducible refine (from_any (2 * (z % 4503599627370496 + 4503599627370496) + 1) (by omega) (by omega)).mono ?_
    rintro x w1 ⟨v1, rfl, h1, b1⟩
    have H1 := hide (And.intro h1.arg b1)
    clear h1 b1 ba bo
    go_wp2
    go_ret2
    exact ⟨_, _, _, rfl, H1.out.1, by omega, by omega, by rw [HM.out]; congr 2; omega, H1.out.2⟩

set_option maxRecDepth 100000 in
set_option maxHeartbeats 8000000 in
theorem side7 {w : World} {va vb : Value} {A B p E : Int} (ha : Arg w va A 8) (hb : Arg w vb B 2) (p0 : -420 ≤ p) (p1 : p ≤ 420) (e0 : -1075 ≤ E) (e1 : E ≤ 971) :
    Calls Tryz.prog 17 #[va, .int .i64 p, vb, .int .i64 E] w fun e w' => e = .returned (.int .i64 (sgn (A * tn p.toNat * p2 (-E).toNat) (B * tn (-p).toNat * p2 E.toNat))) ∧ Below w.heap.size w w' := by
  obtain ⟨c, hc⟩ : ∃ c, sgn (A * tn p.toNat * p2 (-E).toNat) (B * tn (-p).toNat * p2 E.toNat) = c := ⟨_, rfl⟩
  rw [hc]
  have HA := hide (And.intro ha hb)
  have HC := hide hc
  clear ha hb hc
  go_enter Tryz.func17, Tryz.ntmps17
  by_cases cp : 0 < p
  · go_wp2_with fail
    refine (lscaled7 HA.out.1 (by omega) (by omega) (by omega)).mono ?_
    rintro x w1 ⟨v1, rfl, h1, b1⟩
    have H1 := hide (And.intro h1 (HA.out.2.below b1))
    have K1 := b1
    clear h1 b1
    by_cases ce : 0 < E
    · obtain ⟨k, rfl⟩ : ∃ k : Nat, E = k := ⟨E.toNat, by omega⟩
      go_wp2_with fail
      with_reducible refine (shl_room (N := k) H1.out.2 (by omega) (by omega)).mono ?_
      rintro x w2 ⟨v2, rfl, h2, b2⟩
      have H2 := hide (And.intro h2.arg (H1.out.1.below b2))
      have K2 := below_trans K1 b2
      clear h2 b2 K1
      go_wp2_with fail
      with_reducible refine (cmp_any H2.out.2 H2.out.1 (by omega) (by omega)).mono ?_
      rintro x w3 ⟨rfl, b3⟩
      have hf := hide (show sgn (A * tn p.toNat) (B * p2 k) = c by rw [← HC.out, show (-(k : Int)).toNat = 0 by omega, show (-p).toNat = 0 by omega, Int.toNat_natCast, tn_zero, Int.mul_one, show p2 0 = 1 from rfl, Int.mul_one])
      have K3 := below_trans K2 b3
      clear b3
      go_wp2
      go_ret
      exact ⟨ret_int hf.out, K3⟩
    · obtain ⟨k, rfl⟩ : ∃ k : Nat, E = -(k : Int) := ⟨(-E).toNat, by omega⟩
      go_wp2_with fail
      with_reducible refine (shl_room (N := k) H1.out.1 (by omega) (by omega)).mono ?_
      rintro x w2 ⟨v2, rfl, h2, b2⟩
      have H2 := hide (And.intro h2.arg (H1.out.2.below b2))
      have K2 := below_trans K1 b2
      clear h2 b2 K1
      go_wp2_with fail
      with_reducible refine (cmp_any H2.out.1 H2.out.2 (by omega) (by omega)).mono ?_
      rintro x w3 ⟨rfl, b3⟩
      have hf := hide (show sgn (A * tn p.toNat * p2 k) B = c by rw [← HC.out, show (- -(k : Int)).toNat = k by omega, show (-p).toNat = 0 by omega, show (-(k : Int)).toNat = 0 by omega, tn_zero, Int.mul_one, show p2 0 = 1 from rfl, Int.mul_one])
      have K3 := below_trans K2 b3
      clear b3
      go_wp2
      go_ret
      exact ⟨ret_int hf.out, K3⟩
  · go_wp2_with fail
    refine (lscaled7 (p := -p) HA.out.2 (by omega) (by omega) (by omega)).mono ?_
    rintro x w1 ⟨v1, rfl, h1, b1⟩
    have H1 := hide (And.intro (HA.out.1.below b1) h1)
    have K1 := b1
    clear h1 b1
    by_cases ce : 0 < E
    · obtain ⟨k, rfl⟩ : ∃ k : Nat, E = k := ⟨E.toNat, by omega⟩
      go_wp2_with fail
      with_reducible refine (shl_room (N := k) H1.out.2 (by omega) (by omega)).mono ?_
      rintro x w2 ⟨v2, rfl, h2, b2⟩
      have H2 := hide (And.intro h2.arg (H1.out.1.below b2))
      have K2 := below_trans K1 b2
      clear h2 b2 K1
      go_wp2_with fail
      with_reducible refine (cmp_any H2.out.2 H2.out.1 (by omega) (by omega)).mono ?_
      rintro x w3 ⟨rfl, b3⟩
      have hf := hide (show sgn A (B * tn (-p).toNat * p2 k) = c by rw [← HC.out, show (-(k : Int)).toNat = 0 by omega, show p.toNat = 0 by omega, Int.toNat_natCast, tn_zero, Int.mul_one, show p2 0 = 1 from rfl, Int.mul_one])
      have K3 := below_trans K2 b3
      clear b3
      go_wp2
      go_ret
      exact ⟨ret_int hf.out, K3⟩
    · obtain ⟨k, rfl⟩ : ∃ k : Nat, E = -(k : Int) := ⟨(-E).toNat, by omega⟩
      go_wp2_with fail
      with_reducible refine (shl_room (N := k) H1.out.1 (by omega) (by omega)).mono ?_
      rintro x w2 ⟨v2, rfl, h2, b2⟩
      have H2 := hide (And.intro h2.arg (H1.out.2.below b2))
      have K2 := below_trans K1 b2
      clear h2 b2 K1
      go_wp2_with fail
      with_reducible refine (cmp_any H2.out.1 H2.out.2 (by omega) (by omega)).mono ?_
      rintro x w3 ⟨rfl, b3⟩
      have hf := hide (show sgn (A * p2 k) (B * tn (-p).toNat) = c by rw [← HC.out, show (- -(k : Int)).toNat = k by omega, show p.toNat = 0 by omega, show (-(k : Int)).toNat = 0 by omega, tn_zero, Int.mul_one, show p2 0 = 1 from rfl, Int.mul_one])
      have K3 := below_trans K2 b3
      clear b3
      go_wp2
      go_ret
      exact ⟨ret_int hf.out, K3⟩

/-- what side says of a middle -/
theorem side_mid {N p r n E : Int} (e0 : -1075 ≤ E) (hm : mid2 4503599627370496 (-1074) r = n * p2 (E + 1075).toNat) :
    sgn (N * tn p.toNat * p2 (-E).toNat) (n * tn (-p).toNat * p2 E.toNat) = sgn (2 * (N * tn p.toNat * p2 1074)) (mid2 4503599627370496 (-1074) r * tn (-p).toNat) := by
  have e1 : 2 * (N * tn p.toNat * p2 1074) = N * tn p.toNat * p2 1075 := by rw [show p2 1075 = 2 * p2 1074 from rfl, Int.mul_left_comm]
  rw [e1, hm]
  obtain ⟨j, k, h1, h2, h3⟩ : ∃ j : Nat, ∃ k : Nat, (-E).toNat + j = 1075 ∧ E.toNat + j = (E + 1075).toNat ∧ k = j := ⟨1075 - (-E).toNat, 1075 - (-E).toNat, by omega, by omega, rfl⟩
  have e2 : N * tn p.toNat * p2 1075 = N * tn p.toNat * p2 (-E).toNat * p2 j := by rw [← h1, p2_add, Int.mul_assoc (N * tn p.toNat)]
  have e3 : n * p2 (E + 1075).toNat * tn (-p).toNat = n * tn (-p).toNat * p2 E.toNat * p2 j := by rw [← h2, p2_add]; ac_rfl
  rw [e2, e3]
  have P := p2_pos j
  exact sgn_of (mle P).symm (mle P).symm

theorem own_below {w0 w w' : World} {B : Nat} {E : TypeId} {v : Value} {n : Nat} {xs : List Value} (h : Below B w0 w) (hB : B ≤ w.heap.size) (ho : w.ownsRow B E 1 v n xs) (hg : w.grownBy w' v.ownBlock) : Below B w0 w' :=
  h.grown hg hB (fun k hk => (ho.lt k hk).1)
theorem one_cell (w : World) (E : TypeId) (k : IntKind) (x : Int) : Cells k (w.alloc (.cells #[.int k x] E)) (some ⟨w.heap.size, 0, none⟩) [x] := by
  intro _
  refine ⟨w.heap.size, 0, rfl, by simp, fun i hi => ?_⟩
  have hi0 : i = 0 := by simpa using hi
  subst hi0
  rw [World.cell?_alloc_at _ _ _ _ (by simp)]
  rfl
theorem owns_keep {w w' : World} {base : Nat} {e : TypeId} {size : Nat} {v : Value} {n : Nat} {xs : List Value} (h : w.ownsRow base e size v n xs) (hb : Below w.heap.size w w') : w'.ownsRow base e size v n xs := by
  obtain ⟨h1, h2⟩ := h
  refine ⟨h1, ?_⟩
  rcases h2 with h2 | ⟨g, cap, cur, h3, h4, h5, h6, h7, h8⟩
  · exact .inl h2
  · exact .inr ⟨g, cap, cur, h3, h4, (hb.block g (Array.getElem?_eq_some_iff.1 h5).1).trans h5, h6, h7, h8⟩
theorem reads_txt {w : World} {v : Value} {zs : List Int} (h : Reads .u8 w v zs) (h0 : 0 < zs.length) : (convert 34 9 v).run Tryz.prog w = .ok (.string (strOfNums zs)) w := by
  obtain ⟨ao, cap, rfl, h1, h2, h3⟩ := h
  obtain ⟨b, off, rfl, hb, hc⟩ := h3 h0
  exact run_convert_bytes_arg w 34 5 Tryz.underlying34 Tryz.underlying5 b off zs.length cap zs rfl (fun i hi => hc i hi) 9 Tryz.underlying9
abbrev c1 (x : Int) : Obj := .cells #[.int .u32 x] 43
theorem al1 (w : World) (o : Obj) : Below w.heap.size w (w.alloc o) := (Below.refl _ _).alloc (Nat.le_refl _) _
theorem al1d (w : World) (o : Obj) : Below w.heap.size w (w.alloc o).drew := (al1 w o).drew
theorem al2 (w : World) (o o' : Obj) : Below w.heap.size w ((w.alloc o).alloc o') := below_trans (al1 w o) (al1 _ o')
theorem al2d (w : World) (o o' : Obj) : Below w.heap.size w ((w.alloc o).alloc o').drew := (al2 w o o').drew
theorem one_1 (w : World) (x : Int) (h0 : 0 ≤ x) (h1 : x < 4294967296) : Arg (w.alloc (c1 x)) (.slice (some ⟨w.heap.size, 0, none⟩) 1 1) x 1 := arg_lit w ⟨h0, h1⟩
theorem one_1d (w : World) (x : Int) (h0 : 0 ≤ x) (h1 : x < 4294967296) : Arg (w.alloc (c1 x)).drew (.slice (some ⟨w.heap.size, 0, none⟩) 1 1) x 1 := (one_1 w x h0 h1).below (Below.refl _ _).drew
theorem one_2 (w : World) (o : Obj) (x : Int) (h0 : 0 ≤ x) (h1 : x < 4294967296) : Arg ((w.alloc (c1 x)).alloc o) (.slice (some ⟨w.heap.size, 0, none⟩) 1 1) x 1 := (one_1 w x h0 h1).below (al1 _ _)
theorem one_2d (w : World) (o : Obj) (x : Int) (h0 : 0 ≤ x) (h1 : x < 4294967296) : Arg ((w.alloc (c1 x)).alloc o).drew (.slice (some ⟨w.heap.size, 0, none⟩) 1 1) x 1 := (one_2 w o x h0 h1).below (Below.refl _ _).drew
theorem one_3 (w : World) (o : Obj) (x : Int) (h0 : 0 ≤ x) (h1 : x < 4294967296) : Arg ((w.alloc o).alloc (c1 x)) (.slice (some ⟨w.heap.size + 1, 0, none⟩) 1 1) x 1 := by
  have := one_1 (w.alloc o) x h0 h1
  rwa [show (w.alloc o).heap.size = w.heap.size + 1 by simp] at this
theorem one_3d (w : World) (o : Obj) (x : Int) (h0 : 0 ≤ x) (h1 : x < 4294967296) : Arg ((w.alloc o).alloc (c1 x)).drew (.slice (some ⟨w.heap.size + 1, 0, none⟩) 1 1) x 1 := (one_3 w o x h0 h1).below (Below.refl _ _).drew
theorem cell_keep {w w' : World} {b i : Nat} {x : Value} (hb : Below w.heap.size w w') (hl : b < w.heap.size) (hc : w.cell? ⟨b, i, none⟩ = some x) : w'.cell? ⟨b, i, none⟩ = some x := (hb.cell (p := ⟨b, i, none⟩) hl).trans hc
theorem conv_nil (w : World) : (convert 34 9 (.slice none 0 0)).run Tryz.prog w = .ok (.string (strOfNums [])) w :=
  run_convert_bytes_nil w 34 5 Tryz.underlying34 Tryz.underlying5 0 0 9 Tryz.underlying9
theorem tn_60 : tn 60 < Nt.pw 8 := by rw [← p2_32, p2_pow]; unfold tn; decide +kernel
theorem dg_60 {es : List Int} (h : Dg es) (hl : es.length ≤ 60) : dg es < Nt.pw 8 := by
  have a := dg_range h
  have b := tn_mono hl
  have c := tn_60
  omega
theorem dv_sides {N p r : Int} (h : DV 4503599627370496 (-1074) 9218868437227405312 N p r) :
    (r < 9218868437227405312 → sgn (2 * (N * tn p.toNat * p2 1074)) (mid2 4503599627370496 (-1074) r * tn (-p).toNat) ≤ 0 ∧ (sgn (2 * (N * tn p.toNat * p2 1074)) (mid2 4503599627370496 (-1074) r * tn (-p).toNat) = 0 → r % 2 = 0)) ∧
    (0 < r → 0 ≤ sgn (2 * (N * tn p.toNat * p2 1074)) (mid2 4503599627370496 (-1074) (r - 1) * tn (-p).toNat) ∧ (sgn (2 * (N * tn p.toNat * p2 1074)) (mid2 4503599627370496 (-1074) (r - 1) * tn (-p).toNat) = 0 → r % 2 = 0)) := by
  obtain ⟨h0, h1, h2, h3⟩ := h
  rw [show (-(-1074 : Int)).toNat = 1074 from rfl] at h2 h3
  generalize N * tn p.toNat * p2 1074 = X at *
  have le : ∀ {a b : Int}, a ≤ b → sgn a b ≤ 0 := fun {a b} h => by
    unfold sgn
    by_cases c : a < b
    · rw [if_pos c]; omega
    · rw [if_neg c]; split <;> omega
  have ge : ∀ {a b : Int}, b ≤ a → 0 ≤ sgn a b := fun {a b} h => by
    unfold sgn
    by_cases c : a < b
    · omega
    · rw [if_neg c]; split <;> omega
  have se : ∀ {a b : Int}, sgn a b = 0 → a = b := fun {a b} h => by
    unfold sgn at h
    by_cases c : a < b
    · rw [if_pos c] at h; omega
    · rw [if_neg c] at h; split at h <;> omega
  exact ⟨fun g => ⟨le (h2 g).1, fun e => (h2 g).2 (se e)⟩, fun g => ⟨ge (h3 g).1, fun e => (h3 g).2 (se e)⟩⟩
theorem num_cut {B : Nat} {w : World} {v : Value} {n : Int} {k : Nat} (h : Num B w v n k) (hj : n < Nt.pw 8) : Arg w v n 8 := (h.tight (k' := 8) hj).arg

set_option maxRecDepth 100000 in
set_option maxHeartbeats 8000000 in
theorem nearest_walk7 {w : World} (TT : Lays w ∧ Brn w) {va : Value} {xs : List Int} {q : Int} (ha : Reads .u8 w va xs) (hx : Byt xs) (q0 : -32768 ≤ q) (q1 : q < 32768) :
    Calls Tryz.prog 6 #[va, .int .i16 q] w fun e w' => e = .returned (.bool true) ∧ Below w.heap.size w w' := by
  obtain ⟨T, U⟩ := TT
  have HX := hide hx
  clear hx
  obtain ⟨ao, ca, rfl, la1, la2, Ca⟩ := ha
  have HCa := hide Ca
  clear Ca
  go_enter Tryz.func6, Tryz.ntmps6
  go_wp2_with fail
  refine (lives7 T U).mono ?_
  rintro x w1 ⟨rfl, b1⟩
  go_wp2
  go_loopg [5, 6] 60 (fun c ov iv wr => ∃ (k : Nat) (ys : List Int), k ≤ 60 ∧ k ≤ xs.length ∧ c = 60 - k ∧ iv = .int .i64 k ∧ ys.length = k ∧ Dg ys ∧ (k = 0 → ov = .slice none 0 0) ∧ wr.ownsRow w.heap.size 5 1 ov k (ys.map (Value.int .u8)) ∧ Below w.heap.size w wr)
  case atStart => exact ⟨0, [], by omega, by omega, rfl, rfl, rfl, fun x hx => absurd hx (by simp), fun _ => rfl, by simpa using World.ownsRow_nil w1 w.heap.size 5 1, b1⟩
  case round =>
    obtain ⟨k, ys, hk, hkx, hgk, rfl, hyl, hyd, hnil, hown, hbr⟩ := hrel
    have HY := hide (And.intro hyl hyd)
    clear hyl hyd
    by_cases go : k < xs.length ∧ k < 60
    · obtain ⟨gk1, gk2⟩ := go
      have hbs := hbr.size
      obtain ⟨bk, off, rfl, hbk, hcell⟩ := (HCa.out.below hbr) (by omega)
      have hc := hcell k gk1
      clear hcell
      obtain ⟨d, hdd⟩ : ∃ d, Nt.lb xs k = d := ⟨_, rfl⟩
      have dr := HX.out _ (lb_in gk1)
      rw [hdd] at hc dr
      obtain ⟨d0, d1⟩ := dr
      clear hdd hnil
      have q5 : (k : Int) < (xs.length : Int) := by omega
      have q6 : (k : Int) < 60 := by omega
      have wd : IntKind.u8.wrap (48 + d % 10) = 48 + d % 10 := by rw [IntKind.wrap_u8]; omega
      go_wp2_with (at_builtin; refine wpList_append_cells _ rfl _ _ 34 rfl w.heap.size 5 .u8 1 Tryz.underlying34 Tryz.infoB8 _ k ys rfl (hown.alloc _) (some ⟨wr.heap.size, 0, none⟩) 1 [48 + d % 10] rfl (one_cell _ _ _ _) (by unfold maxLen; simp; omega) (by simp; omega) (by simp; omega) ?_)
      intro v' w5 hown' hgrow
      have hb5 : Below w.heap.size w w5 := own_below (hbr.alloc hbs _) (by simp; omega) (hown.alloc _) hgrow
      have HO := hide (And.intro hown' hb5)
      have hdd : Dg (ys ++ [48 + d % 10]) := HY.out.2.append (fun x hx => by simp at hx; subst hx; omega)
      have HZ := hide hdd
      clear hown' hgrow hown hb5 hdd hc
      go_wp2
      go_roundg (60 - (k + 1))
      case measure => omega
      case rel => exact ⟨k + 1, ys ++ [48 + d % 10], by omega, by omega, rfl, by simp, by simp [HY.out.1], HZ.out, fun h => absurd h (by omega), by simpa using HO.out.1, HO.out.2⟩
    · obtain ⟨p, hp⟩ : ∃ p, q.tmod 420 = p := ⟨_, rfl⟩
      have pr : -420 < p ∧ p < 420 := by
        have a := Int.tmod_lt_of_pos q (b := 420) (by omega)
        have b := Int.lt_tmod_of_pos q (b := 420) (by omega)
        omega
      obtain ⟨p0, p1⟩ := pr
      have wq : IntKind.i64.wrap q = q := by rw [IntKind.wrap_i64]; omega
      have hcond : ¬ (k : Int) < (xs.length : Int) ∨ (k : Int) < (xs.length : Int) ∧ ¬ (k : Int) < 60 := by
        rcases Nat.lt_or_ge k xs.length with c | c
        · right; have := fun h => go ⟨c, h⟩; omega
        · left; omega
      clear go
      rcases hcond with c1 | ⟨c1, c2⟩
      · go_upto_region 9 with fail
        have hcv : (convert 34 9 u5).run Tryz.prog wr = .ok (.string (strOfNums ys)) wr := by
          rcases Nat.eq_zero_or_pos k with z | z
          · rw [hnil z]
            have e : ys = [] := List.eq_nil_of_length_eq_zero (by rw [HY.out.1]; exact z)
            rw [e]
            exact conv_nil wr
          · exact reads_txt (reads_of_owns hown) (by rw [HY.out.1]; exact z)
        have hrd := reads_of_owns hown
        obtain ⟨so, sc, rfl, h1, h2, h3⟩ := hrd
        rw [HY.out.1] at hcv hown ⊢
        have HO := hide (And.intro hown hbr)
        have wk : IntKind.i64.wrap ((k : Int) + p) = k + p := by rw [IntKind.wrap_i64]; omega
        have HR := hide (dread_d (w := wr) (es := ys) (s := strOfNums ys) (N := k) (ng := false) (P := k + p) (T.below hbr) HY.out.2.byt rfl HY.out.1 (by omega) (by omega) (by omega))
        clear hown hbr h1 h2 h3 hnil
        go_wp2_with fail
        refine HR.out.mono ?_
        clear HR
        rintro x w2 ⟨b2, hcase⟩
        rcases hcase with ⟨n1, _⟩ | ⟨n1, r, rfl, dv⟩
        · exact absurd HY.out.2 n1
        rw [show ((k : Int) + p) - (k : Int) = p by omega] at dv
        rw [show b2i false = 0 from rfl, Int.zero_mul, Int.add_zero]
        have r0 := dv.1
        have r1 := dv.2.1
        have HV := hide dv
        have rn : ¬ 9218868437227405312 < r := by omega
        have HO2 := hide (And.intro (owns_keep HO.out.1 b2) (below_trans HO.out.2 b2))
        clear dv b2 HO n1 hcv
        go_wp2
        go_loopg [10, 11] k (fun c mv jv wq => ∃ j : Nat, j ≤ k ∧ c = k - j ∧ jv = .int .i64 j ∧ Arg wq mv (dg (ys.take j)) 8 ∧ wq.ownsRow w.heap.size 5 1 (.slice so k sc) k (ys.map (Value.int .u8)) ∧ Below w.heap.size w wq)
        case atStart => exact ⟨0, by omega, rfl, rfl, by simpa [dg] using arg_none w2 8, HO2.out.1, HO2.out.2⟩
        case round =>
          obtain ⟨j, hj, hgj, rfl, ham, hown, hbq⟩ := hrel
          have HA := hide ham
          have HO := hide (And.intro hown hbq)
          by_cases hjk : j < k
          · have hrd := reads_of_owns hown
            obtain ⟨so2, sc2, hse, h1, h2, h3⟩ := hrd
            injection hse with e1 e2 e3
            subst e1 e3
            obtain ⟨bk, off, rfl, hbk, hcell⟩ := h3 (by rw [HY.out.1]; omega)
            have hc := hcell j (by rw [HY.out.1]; exact hjk)
            have dd := HY.out.2 _ (lb_in (p := j) (by rw [HY.out.1]; exact hjk))
            have hv := hide (dg_take (ds := ys) (k := j) (by rw [HY.out.1]; exact hjk))
            obtain ⟨d, hdd⟩ : ∃ d, Nt.lb ys j = d := ⟨_, rfl⟩
            rw [hdd] at hc dd hv
            obtain ⟨x0, x1⟩ := dd
            obtain ⟨zs, ⟨mo, mc, rfl, -⟩, -⟩ := ham
            have LM := hide (dg_60 (HY.out.2.take (j + 1)) (by rw [List.length_take]; omega))
            clear hdd hcell h1 h2 h3 e2 hown hbq
            have q4 : (j : Int) < (k : Int) := by omega
            have wd : IntKind.u8.wrap (d - 48) = d - 48 := by rw [IntKind.wrap_u8]; omega
            have wd2 : IntKind.u32.wrap (d - 48) = d - 48 := by rw [IntKind.wrap_u32]; omega
            have T0 := hide (show (0 : Int) ≤ 10 ∧ (10 : Int) < 4294967296 by omega)
            have T1 := hide (show 0 ≤ d - 48 ∧ d - 48 < 4294967296 by omega)
            have i1 : (0 : Int) ≤ (j : Int) := by omega
            go_upto_region 16 with fail
            go_region_held3 (fun u => u.cell? ⟨bk, off + j, none⟩ = some (.int .u8 d))
              (first | exact hc | exact cell_keep (al1 _ _) hbk hc | exact cell_keep (al1d _ _) hbk hc | exact cell_keep (al2 _ _ _) hbk hc | exact cell_keep (al2d _ _ _) hbk hc | exact hc2 | exact cell_keep (al1 _ _) hbk2 hc2 | exact hc3)
              (first
                | (go_at_call 15; (refine (mul_any (n := dg (ys.take j)) (m := 10) ?_ ?_ (ka := 8) (kb := 1) ?_ ?_).mono ?_); (first | exact HA.out.below (al1 _ _) | exact HA.out.below (al1d _ _) | exact HA.out.below (al2 _ _ _) | exact HA.out.below (al2d _ _ _)); (first | exact one_1 _ 10 T0.out.1 T0.out.2 | exact one_1d _ 10 T0.out.1 T0.out.2 | exact one_2 _ _ 10 T0.out.1 T0.out.2 | exact one_2d _ _ 10 T0.out.1 T0.out.2 | exact one_3 _ _ 10 T0.out.1 T0.out.2 | exact one_3d _ _ 10 T0.out.1 T0.out.2); omega; omega; rintro r9 w3 ⟨x, rfl, hx2, b2⟩; (first | have hbk2 : bk < w3.heap.size := Nat.lt_of_lt_of_le hbk (below_trans (al1d _ _) b2).size; have hc2 := cell_keep (below_trans (al1d _ _) b2) hbk hc | have hbk2 : bk < w3.heap.size := Nat.lt_of_lt_of_le hbk (below_trans (al2d _ _ _) b2).size; have hc2 := cell_keep (below_trans (al2d _ _ _) b2) hbk hc))
                | (go_at_call 14; (refine (add_any (n := dg (ys.take j) * 10) (m := d - 48) ?_ ?_ (ka := 9) (kb := 1) ?_ ?_).mono ?_); (first | exact hx2.arg | exact hx2.arg.below (al1 _ _)); (first | exact one_1 _ (d - 48) T1.out.1 T1.out.2 | exact (one_2 _ _ (d - 48) T1.out.1 T1.out.2).below b2 | exact (one_2d _ _ (d - 48) T1.out.1 T1.out.2).below b2 | exact (one_3 _ _ (d - 48) T1.out.1 T1.out.2).below b2 | exact (one_3d _ _ (d - 48) T1.out.1 T1.out.2).below b2); omega; omega; rintro r9 w4 ⟨y, rfl, hy, b3⟩; (first | have hc3 := cell_keep (below_trans (al1 _ _) b3) hbk2 hc2 | have hc3 := cell_keep b3 hbk2 hc2)))
            all_goals (
              have K : Below wr.heap.size wr w4 := by first | exact below_trans (below_trans (below_trans (al1d _ _) b2) (al1 _ _)) b3 | exact below_trans (below_trans (al2d _ _ _) b2) b3
              have hyA : Arg w4 y (dg (ys.take (j + 1))) 8 := by
                have h := hy
                rw [← hv.out] at h
                exact num_cut h LM.out
              have Fin := hide (And.intro hyA (And.intro (owns_keep HO.out.1 K) (below_trans HO.out.2 K)))
              clear hx2 hy b2 b3 hyA K
              go_wp2
              go_roundg (k - (j + 1))
              case measure => omega
              case rel => exact ⟨j + 1, by omega, rfl, by simp, Fin.out.1, Fin.out.2.1, Fin.out.2.2⟩)
          · have hje : j = k := by omega
            subst hje
            have HAm := hide (show Arg wr u10 (dg ys) 8 by have h := HA.out; rwa [List.take_of_length_le (by rw [HY.out.1]; omega)] at h)
            have HS := hide (dv_sides HV.out)
            have K := HO.out.2
            clear ham hown hbq HA HO HO2 HV
            by_cases rI : r < 9218868437227405312
            · go_wp2_with fail
              refine (middle7 r0 rI).mono ?_
              rintro x w3 ⟨v3, n3, E3, rfl, hA3, e30, e31, hm3, b3⟩
              have H3 := hide (And.intro hA3 (And.intro (HAm.out.below b3) hm3))
              replace K := below_trans K b3
              clear hA3 b3 hm3
              go_wp2_with fail
              refine (side7 H3.out.2.1 H3.out.1 (by omega) (by omega) e30 e31).mono ?_
              rintro x w4 ⟨rfl, b4⟩
              rw [side_mid e30 H3.out.2.2]
              have sd := HS.out.1 rI
              have HAn := hide (H3.out.2.1.below b4)
              replace K := below_trans K b4
              clear b4 H3
              obtain ⟨c, hc⟩ : ∃ c, sgn (2 * (dg ys * tn p.toNat * p2 1074)) (mid2 4503599627370496 (-1074) r * tn (-p).toNat) = c := ⟨_, rfl⟩
              rw [hc] at sd ⊢
              clear hc
              obtain ⟨sd1, sd2⟩ := sd
              have c1 : ¬ 0 < c := by omega
              by_cases cz : c = 0
              · have ev := sd2 cz
                have cz1 : (c == 0) = true := by simp [cz]
                clear sd2
                by_cases rz : r = 0
                · have rz1 : (r == 0) = true := by simp [rz]
                  go_wp2
                  go_ret
                  exact ⟨rfl, K⟩
                · have rz1 : (r == 0) = false := by simp [rz]
                  go_wp2_with fail
                  refine (middle7 (z := r - 1) (by omega) (by omega)).mono ?_
                  rintro x w5 ⟨v5, n5, E5, rfl, hA5, e50, e51, hm5, b5⟩
                  have H5 := hide (And.intro hA5 (And.intro (HAn.out.below b5) hm5))
                  replace K := below_trans K b5
                  clear hA5 b5 hm5
                  go_wp2_with fail
                  refine (side7 H5.out.2.1 H5.out.1 (by omega) (by omega) e50 e51).mono ?_
                  rintro x w6 ⟨rfl, b6⟩
                  rw [side_mid e50 H5.out.2.2]
                  have td := HS.out.2 (by omega)
                  replace K := below_trans K b6
                  clear b6 H5
                  obtain ⟨c', hc'⟩ : ∃ c, sgn (2 * (dg ys * tn p.toNat * p2 1074)) (mid2 4503599627370496 (-1074) (r - 1) * tn (-p).toNat) = c := ⟨_, rfl⟩
                  rw [hc'] at td ⊢
                  clear hc'
                  obtain ⟨td1, td2⟩ := td
                  by_cases cw : c' = 0
                  · have ev2 := td2 cw
                    have cw1 : (c' == 0) = true := by simp [cw]
                    have cw2 : ¬ 0 < c' := by omega
                    have ev3 : (r % 2 == 0) = true := by simp [ev2]
                    clear td2
                    go_wp2
                    go_ret
                    exact ⟨rfl, K⟩
                  · have cw2 : 0 < c' := by omega
                    clear td2
                    go_wp2
                    go_ret
                    exact ⟨rfl, K⟩
              · have cz1 : (c == 0) = false := by simp [cz]
                clear sd2
                by_cases rz : r = 0
                · have rz1 : (r == 0) = true := by simp [rz]
                  go_wp2
                  go_ret
                  exact ⟨rfl, K⟩
                · have rz1 : (r == 0) = false := by simp [rz]
                  go_wp2_with fail
                  refine (middle7 (z := r - 1) (by omega) (by omega)).mono ?_
                  rintro x w5 ⟨v5, n5, E5, rfl, hA5, e50, e51, hm5, b5⟩
                  have H5 := hide (And.intro hA5 (And.intro (HAn.out.below b5) hm5))
                  replace K := below_trans K b5
                  clear hA5 b5 hm5
                  go_wp2_with fail
                  refine (side7 H5.out.2.1 H5.out.1 (by omega) (by omega) e50 e51).mono ?_
                  rintro x w6 ⟨rfl, b6⟩
                  rw [side_mid e50 H5.out.2.2]
                  have td := HS.out.2 (by omega)
                  replace K := below_trans K b6
                  clear b6 H5
                  obtain ⟨c', hc'⟩ : ∃ c, sgn (2 * (dg ys * tn p.toNat * p2 1074)) (mid2 4503599627370496 (-1074) (r - 1) * tn (-p).toNat) = c := ⟨_, rfl⟩
                  rw [hc'] at td ⊢
                  clear hc'
                  obtain ⟨td1, td2⟩ := td
                  by_cases cw : c' = 0
                  · have ev2 := td2 cw
                    have cw1 : (c' == 0) = true := by simp [cw]
                    have cw2 : ¬ 0 < c' := by omega
                    have ev3 : (r % 2 == 0) = true := by simp [ev2]
                    clear td2
                    go_wp2
                    go_ret
                    exact ⟨rfl, K⟩
                  · have cw2 : 0 < c' := by omega
                    clear td2
                    go_wp2
                    go_ret
                    exact ⟨rfl, K⟩
            · by_cases rz : r = 0
              · exact absurd (by omega) rI
              · have rz1 : (r == 0) = false := by simp [rz]
                go_wp2_with fail
                refine (middle7 (z := r - 1) (by omega) (by omega)).mono ?_
                rintro x w5 ⟨v5, n5, E5, rfl, hA5, e50, e51, hm5, b5⟩
                have H5 := hide (And.intro hA5 (And.intro (HAm.out.below b5) hm5))
                replace K := below_trans K b5
                clear hA5 b5 hm5
                go_wp2_with fail
                refine (side7 H5.out.2.1 H5.out.1 (by omega) (by omega) e50 e51).mono ?_
                rintro x w6 ⟨rfl, b6⟩
                rw [side_mid e50 H5.out.2.2]
                have td := HS.out.2 (by omega)
                replace K := below_trans K b6
                clear b6 H5
                obtain ⟨c', hc'⟩ : ∃ c, sgn (2 * (dg ys * tn p.toNat * p2 1074)) (mid2 4503599627370496 (-1074) (r - 1) * tn (-p).toNat) = c := ⟨_, rfl⟩
                rw [hc'] at td ⊢
                clear hc'
                obtain ⟨td1, td2⟩ := td
                by_cases cw : c' = 0
                · have ev2 := td2 cw
                  have cw1 : (c' == 0) = true := by simp [cw]
                  have cw2 : ¬ 0 < c' := by omega
                  have ev3 : (r % 2 == 0) = true := by simp [ev2]
                  clear td2
                  go_wp2
                  go_ret
                  exact ⟨rfl, K⟩
                · have cw2 : 0 < c' := by omega
                  clear td2
                  go_wp2
                  go_ret
                  exact ⟨rfl, K⟩
      · go_upto_region 9 with fail
        have hcv : (convert 34 9 u5).run Tryz.prog wr = .ok (.string (strOfNums ys)) wr := by
          rcases Nat.eq_zero_or_pos k with z | z
          · rw [hnil z]
            have e : ys = [] := List.eq_nil_of_length_eq_zero (by rw [HY.out.1]; exact z)
            rw [e]
            exact conv_nil wr
          · exact reads_txt (reads_of_owns hown) (by rw [HY.out.1]; exact z)
        have hrd := reads_of_owns hown
        obtain ⟨so, sc, rfl, h1, h2, h3⟩ := hrd
        rw [HY.out.1] at hcv hown ⊢
        have HO := hide (And.intro hown hbr)
        have wk : IntKind.i64.wrap ((k : Int) + p) = k + p := by rw [IntKind.wrap_i64]; omega
        have HR := hide (dread_d (w := wr) (es := ys) (s := strOfNums ys) (N := k) (ng := false) (P := k + p) (T.below hbr) HY.out.2.byt rfl HY.out.1 (by omega) (by omega) (by omega))
        clear hown hbr h1 h2 h3 hnil
        go_wp2_with fail
        refine HR.out.mono ?_
        clear HR
        rintro x w2 ⟨b2, hcase⟩
        rcases hcase with ⟨n1, _⟩ | ⟨n1, r, rfl, dv⟩
        · exact absurd HY.out.2 n1
        rw [show ((k : Int) + p) - (k : Int) = p by omega] at dv
        rw [show b2i false = 0 from rfl, Int.zero_mul, Int.add_zero]
        have r0 := dv.1
        have r1 := dv.2.1
        have HV := hide dv
        have rn : ¬ 9218868437227405312 < r := by omega
        have HO2 := hide (And.intro (owns_keep HO.out.1 b2) (below_trans HO.out.2 b2))
        clear dv b2 HO n1 hcv
        go_wp2
        go_loopg [10, 11] k (fun c mv jv wq => ∃ j : Nat, j ≤ k ∧ c = k - j ∧ jv = .int .i64 j ∧ Arg wq mv (dg (ys.take j)) 8 ∧ wq.ownsRow w.heap.size 5 1 (.slice so k sc) k (ys.map (Value.int .u8)) ∧ Below w.heap.size w wq)
        case atStart => exact ⟨0, by omega, rfl, rfl, by simpa [dg] using arg_none w2 8, HO2.out.1, HO2.out.2⟩
        case round =>
          obtain ⟨j, hj, hgj, rfl, ham, hown, hbq⟩ := hrel
          have HA := hide ham
          have HO := hide (And.intro hown hbq)
          by_cases hjk : j < k
          · have hrd := reads_of_owns hown
            obtain ⟨so2, sc2, hse, h1, h2, h3⟩ := hrd
            injection hse with e1 e2 e3
            subst e1 e3
            obtain ⟨bk, off, rfl, hbk, hcell⟩ := h3 (by rw [HY.out.1]; omega)
            have hc := hcell j (by rw [HY.out.1]; exact hjk)
            have dd := HY.out.2 _ (lb_in (p := j) (by rw [HY.out.1]; exact hjk))
            have hv := hide (dg_take (ds := ys) (k := j) (by rw [HY.out.1]; exact hjk))
            obtain ⟨d, hdd⟩ : ∃ d, Nt.lb ys j = d := ⟨_, rfl⟩
            rw [hdd] at hc dd hv
            obtain ⟨x0, x1⟩ := dd
            obtain ⟨zs, ⟨mo, mc, rfl, -⟩, -⟩ := ham
            have LM := hide (dg_60 (HY.out.2.take (j + 1)) (by rw [List.length_take]; omega))
            clear hdd hcell h1 h2 h3 e2 hown hbq
            have q4 : (j : Int) < (k : Int) := by omega
            have wd : IntKind.u8.wrap (d - 48) = d - 48 := by rw [IntKind.wrap_u8]; omega
            have wd2 : IntKind.u32.wrap (d - 48) = d - 48 := by rw [IntKind.wrap_u32]; omega
            have T0 := hide (show (0 : Int) ≤ 10 ∧ (10 : Int) < 4294967296 by omega)
            have T1 := hide (show 0 ≤ d - 48 ∧ d - 48 < 4294967296 by omega)
            have i1 : (0 : Int) ≤ (j : Int) := by omega
            go_upto_region 16 with fail
            go_region_held3 (fun u => u.cell? ⟨bk, off + j, none⟩ = some (.int .u8 d))
              (first | exact hc | exact cell_keep (al1 _ _) hbk hc | exact cell_keep (al1d _ _) hbk hc | exact cell_keep (al2 _ _ _) hbk hc | exact cell_keep (al2d _ _ _) hbk hc | exact hc2 | exact cell_keep (al1 _ _) hbk2 hc2 | exact hc3)
              (first
                | (go_at_call 15; (refine (mul_any (n := dg (ys.take j)) (m := 10) ?_ ?_ (ka := 8) (kb := 1) ?_ ?_).mono ?_); (first | exact HA.out.below (al1 _ _) | exact HA.out.below (al1d _ _) | exact HA.out.below (al2 _ _ _) | exact HA.out.below (al2d _ _ _)); (first | exact one_1 _ 10 T0.out.1 T0.out.2 | exact one_1d _ 10 T0.out.1 T0.out.2 | exact one_2 _ _ 10 T0.out.1 T0.out.2 | exact one_2d _ _ 10 T0.out.1 T0.out.2 | exact one_3 _ _ 10 T0.out.1 T0.out.2 | exact one_3d _ _ 10 T0.out.1 T0.out.2); omega; omega; rintro r9 w3 ⟨x, rfl, hx2, b2⟩; (first | have hbk2 : bk < w3.heap.size := Nat.lt_of_lt_of_le hbk (below_trans (al1d _ _) b2).size; have hc2 := cell_keep (below_trans (al1d _ _) b2) hbk hc | have hbk2 : bk < w3.heap.size := Nat.lt_of_lt_of_le hbk (below_trans (al2d _ _ _) b2).size; have hc2 := cell_keep (below_trans (al2d _ _ _) b2) hbk hc))
                | (go_at_call 14; (refine (add_any (n := dg (ys.take j) * 10) (m := d - 48) ?_ ?_ (ka := 9) (kb := 1) ?_ ?_).mono ?_); (first | exact hx2.arg | exact hx2.arg.below (al1 _ _)); (first | exact one_1 _ (d - 48) T1.out.1 T1.out.2 | exact (one_2 _ _ (d - 48) T1.out.1 T1.out.2).below b2 | exact (one_2d _ _ (d - 48) T1.out.1 T1.out.2).below b2 | exact (one_3 _ _ (d - 48) T1.out.1 T1.out.2).below b2 | exact (one_3d _ _ (d - 48) T1.out.1 T1.out.2).below b2); omega; omega; rintro r9 w4 ⟨y, rfl, hy, b3⟩; (first | have hc3 := cell_keep (below_trans (al1 _ _) b3) hbk2 hc2 | have hc3 := cell_keep b3 hbk2 hc2)))
            all_goals (
              have K : Below wr.heap.size wr w4 := by first | exact below_trans (below_trans (below_trans (al1d _ _) b2) (al1 _ _)) b3 | exact below_trans (below_trans (al2d _ _ _) b2) b3
              have hyA : Arg w4 y (dg (ys.take (j + 1))) 8 := by
                have h := hy
                rw [← hv.out] at h
                exact num_cut h LM.out
              have Fin := hide (And.intro hyA (And.intro (owns_keep HO.out.1 K) (below_trans HO.out.2 K)))
              clear hx2 hy b2 b3 hyA K
              go_wp2
              go_roundg (k - (j + 1))
              case measure => omega
              case rel => exact ⟨j + 1, by omega, rfl, by simp, Fin.out.1, Fin.out.2.1, Fin.out.2.2⟩)
          · have hje : j = k := by omega
            subst hje
            have HAm := hide (show Arg wr u10 (dg ys) 8 by have h := HA.out; rwa [List.take_of_length_le (by rw [HY.out.1]; omega)] at h)
            have HS := hide (dv_sides HV.out)
            have K := HO.out.2
            clear ham hown hbq HA HO HO2 HV
            by_cases rI : r < 9218868437227405312
            · go_wp2_with fail
              refine (middle7 r0 rI).mono ?_
              rintro x w3 ⟨v3, n3, E3, rfl, hA3, e30, e31, hm3, b3⟩
              have H3 := hide (And.intro hA3 (And.intro (HAm.out.below b3) hm3))
              replace K := below_trans K b3
              clear hA3 b3 hm3
              go_wp2_with fail
              refine (side7 H3.out.2.1 H3.out.1 (by omega) (by omega) e30 e31).mono ?_
              rintro x w4 ⟨rfl, b4⟩
              rw [side_mid e30 H3.out.2.2]
              have sd := HS.out.1 rI
              have HAn := hide (H3.out.2.1.below b4)
              replace K := below_trans K b4
              clear b4 H3
              obtain ⟨c, hc⟩ : ∃ c, sgn (2 * (dg ys * tn p.toNat * p2 1074)) (mid2 4503599627370496 (-1074) r * tn (-p).toNat) = c := ⟨_, rfl⟩
              rw [hc] at sd ⊢
              clear hc
              obtain ⟨sd1, sd2⟩ := sd
              have c1 : ¬ 0 < c := by omega
              by_cases cz : c = 0
              · have ev := sd2 cz
                have cz1 : (c == 0) = true := by simp [cz]
                clear sd2
                by_cases rz : r = 0
                · have rz1 : (r == 0) = true := by simp [rz]
                  go_wp2
                  go_ret
                  exact ⟨rfl, K⟩
                · have rz1 : (r == 0) = false := by simp [rz]
                  go_wp2_with fail
                  refine (middle7 (z := r - 1) (by omega) (by omega)).mono ?_
                  rintro x w5 ⟨v5, n5, E5, rfl, hA5, e50, e51, hm5, b5⟩
                  have H5 := hide (And.intro hA5 (And.intro (HAn.out.below b5) hm5))
                  replace K := below_trans K b5
                  clear hA5 b5 hm5
                  go_wp2_with fail
                  refine (side7 H5.out.2.1 H5.out.1 (by omega) (by omega) e50 e51).mono ?_
                  rintro x w6 ⟨rfl, b6⟩
                  rw [side_mid e50 H5.out.2.2]
                  have td := HS.out.2 (by omega)
                  replace K := below_trans K b6
                  clear b6 H5
                  obtain ⟨c', hc'⟩ : ∃ c, sgn (2 * (dg ys * tn p.toNat * p2 1074)) (mid2 4503599627370496 (-1074) (r - 1) * tn (-p).toNat) = c := ⟨_, rfl⟩
                  rw [hc'] at td ⊢
                  clear hc'
                  obtain ⟨td1, td2⟩ := td
                  by_cases cw : c' = 0
                  · have ev2 := td2 cw
                    have cw1 : (c' == 0) = true := by simp [cw]
                    have cw2 : ¬ 0 < c' := by omega
                    have ev3 : (r % 2 == 0) = true := by simp [ev2]
                    clear td2
                    go_wp2
                    go_ret
                    exact ⟨rfl, K⟩
                  · have cw2 : 0 < c' := by omega
                    clear td2
                    go_wp2
                    go_ret
                    exact ⟨rfl, K⟩
              · have cz1 : (c == 0) = false := by simp [cz]
                clear sd2
                by_cases rz : r = 0
                · have rz1 : (r == 0) = true := by simp [rz]
                  go_wp2
                  go_ret
                  exact ⟨rfl, K⟩
                · have rz1 : (r == 0) = false := by simp [rz]
                  go_wp2_with fail
                  refine (middle7 (z := r - 1) (by omega) (by omega)).mono ?_
                  rintro x w5 ⟨v5, n5, E5, rfl, hA5, e50, e51, hm5, b5⟩
                  have H5 := hide (And.intro hA5 (And.intro (HAn.out.below b5) hm5))
                  replace K := below_trans K b5
                  clear hA5 b5 hm5
                  go_wp2_with fail
                  refine (side7 H5.out.2.1 H5.out.1 (by omega) (by omega) e50 e51).mono ?_
                  rintro x w6 ⟨rfl, b6⟩
                  rw [side_mid e50 H5.out.2.2]
                  have td := HS.out.2 (by omega)
                  replace K := below_trans K b6
                  clear b6 H5
                  obtain ⟨c', hc'⟩ : ∃ c, sgn (2 * (dg ys * tn p.toNat * p2 1074)) (mid2 4503599627370496 (-1074) (r - 1) * tn (-p).toNat) = c := ⟨_, rfl⟩
                  rw [hc'] at td ⊢
                  clear hc'
                  obtain ⟨td1, td2⟩ := td
                  by_cases cw : c' = 0
                  · have ev2 := td2 cw
                    have cw1 : (c' == 0) = true := by simp [cw]
                    have cw2 : ¬ 0 < c' := by omega
                    have ev3 : (r % 2 == 0) = true := by simp [ev2]
                    clear td2
                    go_wp2
                    go_ret
                    exact ⟨rfl, K⟩
                  · have cw2 : 0 < c' := by omega
                    clear td2
                    go_wp2
                    go_ret
                    exact ⟨rfl, K⟩
            · by_cases rz : r = 0
              · exact absurd (by omega) rI
              · have rz1 : (r == 0) = false := by simp [rz]
                go_wp2_with fail
                refine (middle7 (z := r - 1) (by omega) (by omega)).mono ?_
                rintro x w5 ⟨v5, n5, E5, rfl, hA5, e50, e51, hm5, b5⟩
                have H5 := hide (And.intro hA5 (And.intro (HAm.out.below b5) hm5))
                replace K := below_trans K b5
                clear hA5 b5 hm5
                go_wp2_with fail
                refine (side7 H5.out.2.1 H5.out.1 (by omega) (by omega) e50 e51).mono ?_
                rintro x w6 ⟨rfl, b6⟩
                rw [side_mid e50 H5.out.2.2]
                have td := HS.out.2 (by omega)
                replace K := below_trans K b6
                clear b6 H5
                obtain ⟨c', hc'⟩ : ∃ c, sgn (2 * (dg ys * tn p.toNat * p2 1074)) (mid2 4503599627370496 (-1074) (r - 1) * tn (-p).toNat) = c := ⟨_, rfl⟩
                rw [hc'] at td ⊢
                clear hc'
                obtain ⟨td1, td2⟩ := td
                by_cases cw : c' = 0
                · have ev2 := td2 cw
                  have cw1 : (c' == 0) = true := by simp [cw]
                  have cw2 : ¬ 0 < c' := by omega
                  have ev3 : (r % 2 == 0) = true := by simp [ev2]
                  clear td2
                  go_wp2
                  go_ret
                  exact ⟨rfl, K⟩
                · have cw2 : 0 < c' := by omega
                  clear td2
                  go_wp2
                  go_ret
                  exact ⟨rfl, K⟩

end Go.Proofs.YtigehipclkoecabGreatDoor
