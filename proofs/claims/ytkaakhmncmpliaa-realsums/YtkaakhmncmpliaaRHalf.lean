/- halves: what the float of each is, and that rounding gives it back (by the kernel, one by one) -/
import Derived.Test.YtkaakhmncmpliaaRSumM
import Derived.Test.YtkaakhmncmpliaaRWhM
namespace Go.Proofs.Ytkaakhmncmpliaa
open Go.RowKit
set_option linter.unusedVariables false

/-- the float of a pattern of 16 bits without the sign -/
def subH (s : Nat) : Nat := Ieee.double.nearest false s (-24)
def fhS (s : Nat) : Nat := if 31744 < s then 9221120237041090560 else if s = 31744 then 9218868437227405312 else if s < 1024 then subH s else s * 4398046511104 + 4539628424389459968
def hpow (z : Nat) : Nat := (max (z / 4503599627370496) 1009 + 42) * 4503599627370496
def hsum (z : Nat) : Nat := sumD z (hpow z)
theorem near_exact6 {F L I N E r : Int} (hF : 0 < F) (r0 : 0 ≤ r) (r1 : r ≤ I) (h : ∀ B, B ≤ E → B ≤ L → sc N E B = um F L B r) : Near F L I N E r := by
  refine ⟨r0, r1, fun B hE hB => ?_⟩
  rw [h B hE hB]
  refine ⟨fun _ => ?_, fun hr => ?_⟩
  · have := um_lt (F := F) (L := L) (B := B) (s := r) hF r0 hB
    exact ⟨by omega, fun e => by omega⟩
  · have := um_lt (F := F) (L := L) (B := B) (s := r - 1) hF (by omega) hB
    rw [Int.sub_add_cancel] at this
    exact ⟨by omega, fun e => by omega⟩
/-- what the walk wants of a half and its float -/
structure HFact (s z : Nat) : Prop where
  top : z < 4679240012837945344
  pow : hpow z < 9218868437227405312
  add : Ieee.double.add z (hpow z) = some (hsum z)
  sub : Ieee.double.sub (hsum z) (hpow z) = some z
  low : z < 4544132024016830464 → ∃ q, Ieee.double.mul z 4715268809856909312 = some q ∧ (Ieee.double.read q).toInt .zero = some (s : Int)
  high : 4544132024016830464 ≤ z → z / 4398046511104 = s + 1032192
theorem add_fin {a b : Nat} (ha : szD a < 9218868437227405312) (hb : szD b < 9218868437227405312) : Ieee.double.add a b = some (sumD a b) := by
  obtain ⟨m, i, ea, _, _⟩ := read_num ha
  obtain ⟨n, j, eb, _, _⟩ := read_num hb
  unfold sumD Ieee.Format.add
  rw [ea, eb]
  rfl
theorem sub_fin {a b : Nat} (ha : szD a < 9218868437227405312) (hb : szD b < 9218868437227405312) : Ieee.double.sub a b = some (subD a b) := by
  obtain ⟨m, i, ea, _, _⟩ := read_num ha
  obtain ⟨n, j, eb, _, _⟩ := read_num hb
  unfold subD Ieee.Format.sub
  rw [ea, eb]
  rfl
/-- a number that is a size's, in whichever steps, is read as it -/
theorem nearest_um {N s : Nat} {E : Int} (hs : s ≤ 9218868437227405312) (h : ∀ B, B ≤ E → B ≤ -1074 → sc N E B = um 4503599627370496 (-1074) B s) : Ieee.double.nearest false N E = s := by
  have h1 := near_double N E
  have h2 : Near 4503599627370496 (-1074) 9218868437227405312 N E s := near_exact6 (by decide) (by omega) (by omega) h
  have := near_unique (by decide) h1 h2
  omega
theorem word_at {x : Nat} {q r : Int} (hx : (x : Int) = q * 4503599627370496 + r) (q1 : 1 ≤ q) (r0 : 0 ≤ r) (r1 : r < 4503599627370496) : mst 4503599627370496 x = r + 4503599627370496 ∧ est 4503599627370496 (-1074) x = q - 1075 := by
  have hd : (x : Int) / 4503599627370496 = q := by
    rw [hx, Int.add_comm, Int.add_mul_ediv_right _ _ (by decide), Int.ediv_eq_zero_of_lt r0 r1, Int.zero_add]
  have hm : (x : Int) % 4503599627370496 = r := by
    rw [hx, Int.add_comm, Int.add_mul_emod_self_right, Int.emod_eq_of_lt r0 r1]
  have hg : ¬ (x : Int) < 4503599627370496 := by
    have : 1 * 4503599627370496 ≤ q * 4503599627370496 := Int.mul_le_mul_of_nonneg_right q1 (by decide)
    omega
  unfold mst est
  rw [if_neg hg, if_neg hg, hm, hd]
  exact ⟨rfl, by omega⟩
theorem plain_word {x : Nat} (hx : x < 9223372036854775808) : szD x = x ∧ ngD x = false := by
  unfold szD ngD
  rw [show x / 9223372036854775808 = 0 by omega]
  exact ⟨by omega, rfl⟩
theorem sc_sc {M E b B : Int} (h1 : B ≤ b) (h2 : b ≤ E) : sc (sc M E b) b B = sc M E B := by
  unfold sc
  rw [Int.mul_assoc, ← p2_toNat_add (by omega) (by omega)]
  congr 2
  congr 1
  omega
theorem sc_add {M N E B : Int} : sc (M + N) E B = sc M E B + sc N E B := by unfold sc; exact Int.add_mul _ _ _
/-- adding a power of 2 and taking it off again -/
theorem half_addoff {z N p : Nat} {E ez : Int} (hz : z < 9218868437227405312) (hp : (p : Int) = (E + 1075) * 4503599627370496) (E0 : -1073 ≤ E) (E1 : E ≤ 900) (hN : N < 4503599627370496) (he : ez ≤ E) (eg : -1074 ≤ ez) (He : Hid (est 4503599627370496 (-1074) z = ez))
    (Hm : Hid (mst 4503599627370496 z = N * p2 (E - ez).toNat)) : sumD z p = p + N ∧ subD (p + N) p = z ∧ p + N < 9218868437227405312 := by
  have pI : (p : Int) ≤ 8894609264056729600 := by omega
  have p0 : 9007199254740992 ≤ (p : Int) := by omega
  have W1 : mst 4503599627370496 (p : Int) = 0 + 4503599627370496 ∧ est 4503599627370496 (-1074) (p : Int) = E + 1075 - 1075 := word_at (x := p) (q := E + 1075) (r := 0) (by omega) (by omega) (by decide) (by decide)
  have Wp := hide W1
  clear W1
  have W2 : mst 4503599627370496 ((p + N : Nat) : Int) = (N : Int) + 4503599627370496 ∧ est 4503599627370496 (-1074) ((p + N : Nat) : Int) = E + 1075 - 1075 := word_at (x := p + N) (q := E + 1075) (r := N) (by omega) (by omega) (by omega) (by omega)
  have Wy := hide W2
  clear W2
  obtain ⟨z1, z2⟩ := plain_word (x := z) (by omega)
  obtain ⟨p1, p3⟩ := plain_word (x := p) (by omega)
  obtain ⟨y1, y2⟩ := plain_word (x := p + N) (by omega)
  have eE : E + 1075 - 1075 = E := by omega
  have lz : szD z < 9218868437227405312 := by omega
  have lp : szD p < 9218868437227405312 := by omega
  have ly : szD (p + N) < 9218868437227405312 := by omega
  have ly2 : p + N ≤ 9218868437227405312 := by omega
  have lz2 : z ≤ 9218868437227405312 := by omega
  have ly3 : p + N < 9218868437227405312 := by omega
  have N0 : (0 : Int) ≤ N := by omega
  have lf : p < 18446744073709551616 := by omega
  have NX : (0 : Int) ≤ (N : Int) + 4503599627370496 := by omega
  have NP : 0 < N → (4503599627370496 : Int) < (N : Int) + 4503599627370496 := fun _ => by omega
  have NZ : ¬ 0 < N → (N : Int) + 4503599627370496 = 4503599627370496 := fun _ => by omega
  have NT : ((N : Int) + 4503599627370496 - 4503599627370496).toNat = N := by omega
  have sh : ∀ B, B ≤ ez → 0 ≤ E - ez ∧ 0 ≤ ez - B ∧ E - ez + (ez - B) = E - B := fun B hB => ⟨by omega, by omega, by omega⟩
  have tr : ∀ B, B ≤ -1074 → B ≤ ez := fun B hB => by omega
  clear pI p0 hp hN hz E0 E1
  have Huz : Hid (∀ B, B ≤ ez → um 4503599627370496 (-1074) B z = sc N E B) := hide fun B hB => by
    obtain ⟨a1, a2, a3⟩ := sh B hB
    unfold um sc
    rw [Hm.out, He.out, Int.mul_assoc, ← p2_toNat_add a1 a2, a3]
  have Hup : Hid (∀ B, um 4503599627370496 (-1074) B p = sc 4503599627370496 E B) := hide fun B => by
    unfold um
    rw [Wp.out.1, Wp.out.2, eE]
    rfl
  have Huy : Hid (∀ B, um 4503599627370496 (-1074) B ((p + N : Nat) : Int) = sc ((N : Int) + 4503599627370496) E B) := hide fun B => by
    unfold um
    rw [Wy.out.1, Wy.out.2, eE]
  have at0 : ∀ M E : Int, sc M E E = M := fun M E => by unfold sc; rw [Int.sub_self]; exact Int.mul_one M
  have pos : ∀ (M E B : Int), 0 ≤ M → 0 ≤ sc M E B := fun M E B h => Int.mul_nonneg h (Int.le_of_lt (p2_pos _))
  refine ⟨?_, ?_, ly3⟩
  · have S := (sum_fin (a := z) (b := p) (X := sc N E ez) (Y := sc 4503599627370496 E ez) (B := ez) lz lp (by rw [z1, p1, Wp.out.2, eE, He.out]; exact (Int.min_eq_left he).symm) (by rw [z1, Huz.out _ (Int.le_refl _)]) (by rw [p1, Hup.out]) (pos _ _ _ N0) (pos _ _ _ (by decide))).1 (by rw [z2, p3])
    rw [S, z2, word_false]
    refine nearest_um ly2 (fun B hB hL => ?_)
    rw [Huy.out, Int.toNat_of_nonneg (Int.add_nonneg (pos _ _ _ N0) (pos _ _ _ (by decide))), ← sc_add]
    exact sc_sc hB he
  · rw [sub_flip lf]
    obtain ⟨q1, q2⟩ := flip_sz (b := p) lf
    have S := (sum_fin (a := p + N) (b := flipD p) (X := (N : Int) + 4503599627370496) (Y := 4503599627370496) (B := E) ly (by rw [q1]; exact lp) (by rw [y1, q1, p1, Wy.out.2, Wp.out.2, eE]; exact (Int.min_self E).symm) (by rw [y1, Huy.out, at0]) (by rw [q1, p1, Hup.out, at0]) NX (by decide)).2 (by rw [y2, q2, p3]; decide)
    by_cases c : 0 < N
    · rw [S.2.1 (NP c), y2, word_false, NT]
      refine nearest_um lz2 (fun B hB hL => ?_)
      rw [Huz.out _ (tr B hL)]
    · rw [S.1 (NZ c)]
      have hm0 : mst 4503599627370496 z = 0 := by rw [Hm.out, show N = 0 by omega]; exact Int.zero_mul _
      clear S Huz Hup Huy Wp Wy Hm He
      unfold mst at hm0
      split at hm0
      · omega
      · omega
/-- a small whole number times 2 to the power of E -/
theorem small_word {s lg P Q r : Nat} {E : Int} (hP : 2 ^ lg = P) (hQ : 2 ^ (52 - lg) = Q) (hl : lg ≤ 52) (h1 : P ≤ s) (h2 : s < 2 * P) (E0 : -1000 ≤ E) (E1 : E ≤ 500) (hr : (r : Int) = (lg + E + 1023) * 4503599627370496 + ((s - P : Nat) : Int) * Q) :
    mst 4503599627370496 r = s * p2 (52 - lg) ∧ est 4503599627370496 (-1074) r = lg + E - 52 ∧ r < 9218868437227405312 ∧ (∀ B, B ≤ lg + E - 52 → um 4503599627370496 (-1074) B r = sc s E B) ∧ Ieee.double.nearest false s E = r := by
  have hPQ : P * Q = 4503599627370496 := by rw [← hP, ← hQ, ← Nat.pow_add, show lg + (52 - lg) = 52 by omega]
  have Q0 : 0 < Q := by rw [← hQ]; exact Nat.two_pow_pos _
  have t1 : (s - P) * Q < 4503599627370496 := by rw [← hPQ]; exact Nat.mul_lt_mul_of_pos_right (by omega) Q0
  have t2 : s * Q = (s - P) * Q + 4503599627370496 := by rw [← hPQ, ← Nat.add_mul]; congr 1; omega
  have hc : (((s - P : Nat) : Int) * Q) = (((s - P) * Q : Nat) : Int) := (Int.natCast_mul _ _).symm
  have hpq : p2 (52 - lg) = (Q : Int) := by rw [p2_cast, hQ]
  have hsq : (s : Int) * (Q : Int) = ((s * Q : Nat) : Int) := (Int.natCast_mul _ _).symm
  rw [hc] at hr
  rw [t2] at hsq
  clear hP hQ hPQ t2
  generalize (s - P) * Q = t at *
  have W := hide (word_at (x := r) (q := lg + E + 1023) (r := (t : Int)) hr (by omega) (by omega) (by omega))
  have hlt : (r : Int) < 9218868437227405312 := by omega
  have e1 : (lg : Int) + E + 1023 - 1075 = lg + E - 52 := by omega
  have hr2 : r < 9218868437227405312 := by omega
  have hr3 : r ≤ 9218868437227405312 := by omega
  have s1 : ((t + 4503599627370496 : Nat) : Int) = (t : Int) + 4503599627370496 := by omega
  have nn : (0 : Int) ≤ ((52 - lg : Nat) : Int) := by omega
  have sh : ∀ B, B ≤ lg + E - 52 → 0 ≤ lg + E - 52 - B ∧ ((52 - lg : Nat) : Int) + (lg + E - 52 - B) = E - B := fun B hB => ⟨by omega, by omega⟩
  have tr : ∀ B, B ≤ -1074 → B ≤ lg + E - 52 := fun B hB => by omega
  clear hr hlt t1 Q0 hc
  have Hm : Hid (mst 4503599627370496 r = s * p2 (52 - lg)) := hide (by rw [W.out.1, hpq, hsq, s1])
  have He : Hid (est 4503599627370496 (-1074) r = lg + E - 52) := hide (by rw [W.out.2, e1])
  have hu : ∀ B, B ≤ lg + E - 52 → um 4503599627370496 (-1074) B r = sc s E B := fun B hB => by
    obtain ⟨a1, a2⟩ := sh B hB
    unfold um sc
    rw [Hm.out, He.out, Int.mul_assoc, show p2 (52 - lg) = p2 (((52 - lg : Nat) : Int)).toNat by rw [Int.toNat_natCast], ← p2_toNat_add nn a1, a2]
  exact ⟨Hm.out, He.out, hr2, hu, nearest_um hr3 (fun B hB hL => (hu B (tr B hL)).symm)⟩

end Go.Proofs.Ytkaakhmncmpliaa
