/- IeeeN, IeeeO, ITo -/
import Derived.Test.YtlhjbmdkfdabmaaGreatDoorIeeeP
import Derived.Test.YtlhjbmdkfdabmaaGreatDoorWB
import Derived.Test.YtlhjbmdkfdabmaaGreatDoorShr
import Derived.Test.YtlhjbmdkfdabmaaGreatDoorUint
import Derived.Laws.Small
import Derived.Test.YtlhjbmdkfdabmaaGreatDoorWA
namespace Go.Proofs.YtlhjbmdkfdabmaaGreatDoor
open Go.RowKit
set_option linter.unusedVariables false

theorem or_one (x : Int) (h0 : 0 ≤ x) (h1 : x < 9223372036854775808) : bits .or .u64 (x * 2) 1 = x * 2 + 1 := by
  rw [u64_or (x * 2) 1 (by omega) (by omega) (by decide) (by decide), show (1 : Int).toNat = 1 from rfl]
  have := Nat.two_pow_add_eq_or_of_lt (i := 1) (b := 1) (by decide) x.toNat
  rw [show (x * 2).toNat = 2 ^ 1 * x.toNat by omega, ← this]
  omega

/-- the sticky digit -/
def sty (r mb : Int) : Int := if r = 0 ∧ mb = 0 then 0 else 1

def b2i (b : Bool) : Int := if b then 1 else 0

theorem b2i_or (b : Bool) : b2i b = 0 ∨ b2i b = 1 := by cases b <;> simp [b2i]

theorem cut_low {A : Int} {size d : Nat} (h : IsLen A size) (hA : 0 ≤ A) (hd : d = size - 62) : 0 ≤ A / p2 d ∧ A / p2 d < 4611686018427387904 := by
  have hp := p2_pos d
  refine ⟨Int.ediv_nonneg hA (by omega), ?_⟩
  rw [Int.ediv_lt_iff_lt_mul hp, show (4611686018427387904 : Int) = p2 62 from by decide, ← p2_add]
  have h1 := h.1
  have h2 := p2_mono (m := size) (n := 62 + d) (by omega)
  omega

theorem shr_cut {w : World} {va : Value} {A : Int} {ka size d : Nat} (ha : Arg w va A ka) (hka : ka ≤ 1099511627776) (h : IsLen A size) (hd : d = size - 62) (hb : d ≤ 4503599627370496) :
    Calls Tryz.prog 120 #[va, .int .i64 d] w fun e w' => ∃ v, e = .returned (.tuple #[v, .bool (decide (0 < A % p2 d)), .bool true]) ∧ Num w.heap.size w' v (A / p2 d) ka ∧ Below w.heap.size w w' := by
  have hA := ha.nonneg
  rcases Int.lt_or_eq_of_le hA with c | c
  · refine shr_near (W := d / 32) (s := d % 32) ha hka (by omega) (by omega) ?_
    have hs : 0 < size := by
      rcases Nat.eq_zero_or_pos size with e | e
      · subst e; have := h.1; simp only [p2] at this; omega
      · exact e
    have h1 := h.2 hs
    have h2 := p2_mono (m := 32 * (d / 32)) (n := size - 1) (by omega)
    rw [p2_32] at h2
    omega
  · have hs : size = 0 := by
      rcases Nat.eq_zero_or_pos size with e | e
      · exact e
      · have := h.2 e; have := p2_pos (size - 1); omega
    have hd0 : d = 0 := by omega
    subst hd0
    refine (shr_far (n := ((0 : Nat) : Int)) ha (by decide) (by decide) (by rw [← c]; decide)).mono ?_
    rintro e w' ⟨rfl, rfl⟩
    refine ⟨.slice none 0 0, by rw [← c]; rfl, ?_, Below.refl _ _⟩
    rw [← c]
    exact ⟨[], ⟨none, rfl, by simp [maxLen], fun h => by simp at h⟩, Nt.canon_nil, by simp [Nt.val, Nt.vt], by simp⟩

theorem half_math {m P q0 r : Int} (hP : 0 < P) (hm : m = q0 * (2 * P) + r) (r0 : 0 ≤ r) (r1 : r < 2 * P) :
    (P < r → Half (q0 + 1) (2 * P) (2 * m)) ∧ (r < P → Half q0 (2 * P) (2 * m)) ∧ (r = P → q0 % 2 = 1 → Half (q0 + 1) (2 * P) (2 * m)) ∧ (r = P → q0 % 2 = 0 → Half q0 (2 * P) (2 * m)) := by
  have e1 : 2 * (q0 + 1) * (2 * P) = 2 * (q0 * (2 * P)) + 2 * (2 * P) := by grind
  have e2 : 2 * q0 * (2 * P) = 2 * (q0 * (2 * P)) := by grind
  refine ⟨fun h => ⟨by omega, by omega, fun e => by omega, fun e => by omega⟩, fun h => ⟨by omega, by omega, fun e => by omega, fun e => by omega⟩, fun h h' => ⟨by omega, by omega, fun e => by omega, fun e => by omega⟩, fun h h' => ⟨by omega, by omega, fun e => by omega, fun e => by omega⟩⟩

theorem short_len {A mb st : Int} {size d : Nat} (hlen : IsLen A size) (hA : 0 ≤ A) (hmb : mb = 0 ∨ mb = 1) (hz : ¬ (size = 0 ∧ mb = 0)) (hd : d = size - 62)
    (hst : (st = 0 ∧ A % p2 d = 0 ∧ mb = 0) ∨ (st = 1 ∧ ¬ (A % p2 d = 0 ∧ mb = 0))) : IsLen (2 * (A / p2 d) + st) (size + 1 - d) := by
  rcases Nat.eq_zero_or_pos d with c | c
  · have e0 : p2 d = 1 := by rw [c]; rfl
    rw [e0, Int.emod_one] at hst
    rw [e0, Int.ediv_one, c, Nat.sub_zero]
    have hs : st = mb := by rcases hst with ⟨h1, _, h2⟩ | ⟨h1, h2⟩ <;> omega
    rw [hs]
    refine ⟨by have := hlen.1; rw [p2]; omega, fun _ => ?_⟩
    rw [Nat.add_sub_cancel]
    rcases Nat.eq_zero_or_pos size with k | k
    · subst k; simp only [p2]; omega
    · have := hlen.2 k
      obtain ⟨n, rfl⟩ : ∃ n, size = n + 1 := ⟨size - 1, by omega⟩
      rw [Nat.add_sub_cancel] at this
      simp only [p2]
      omega
  · have hp := p2_pos d
    have e1 : size + 1 - d = 63 := by omega
    rw [e1]
    have hlo : p2 61 ≤ A / p2 d := by
      rw [Int.le_ediv_iff_mul_le hp, ← p2_add]
      have := hlen.2 (by omega)
      rwa [show size - 1 = 61 + d by omega] at this
    have hhi := (cut_low hlen hA hd).2
    rw [show p2 61 = 2305843009213693952 from by decide] at hlo
    refine ⟨?_, fun _ => ?_⟩
    · rw [show p2 63 = 9223372036854775808 from by decide]; omega
    · rw [show p2 (63 - 1) = 4611686018427387904 from by decide]; omega

theorem sty_or (r mb : Int) : (sty r mb = 0 ∧ r = 0 ∧ mb = 0) ∨ (sty r mb = 1 ∧ ¬ (r = 0 ∧ mb = 0)) := by
  unfold sty
  by_cases h : r = 0 ∧ mb = 0
  · rw [if_pos h]; exact Or.inl ⟨rfl, h⟩
  · rw [if_neg h]; exact Or.inr ⟨rfl, h⟩

/-- that the shift of the cut number fits -/
theorem mid_fits {sh L e t : Int} {fr size d : Nat} (fr2 : fr ≤ 52) (hd : d = size - 62) (hs : IsLen sh (size + 1 - d)) (s0 : 0 ≤ sh) (he : L - size ≤ e) (ht : t = max (e + size - 1 - fr) L) :
    (0 ≤ e + d - 1 - t → e + d - 1 - t < 64 ∧ sh * p2 (e + d - 1 - t).toNat < 18446744073709551616) ∧ (e + d - 1 - t < 0 → -63 ≤ e + d - 1 - t) := by
  refine ⟨fun h => ⟨by omega, ?_⟩, fun h => by omega⟩
  have h1 := p2_pos (e + d - 1 - t).toNat
  have h2 : sh * p2 (e + d - 1 - t).toNat < p2 (size + 1 - d) * p2 (e + d - 1 - t).toNat := Int.mul_lt_mul_of_pos_right hs.1 h1
  rw [← p2_add] at h2
  have h3 := p2_mono (m := size + 1 - d + (e + d - 1 - t).toNat) (n := 53) (by omega)
  rw [show p2 53 = 9007199254740992 from by decide] at h3
  omega

end Go.Proofs.YtlhjbmdkfdabmaaGreatDoor

namespace Go.Proofs.YtlhjbmdkfdabmaaGreatDoor
open Go.RowKit
set_option linter.unusedVariables false

theorem or64_h (x : Int) (h0 : 0 ≤ x) (h1 : x < 32768) : bits .or .u64 x 32768 = x + 32768 := by
  rw [u64_or x 32768 h0 (by omega) (by decide) (by decide)]
  have := nat_or (n := 15) (x := x.toNat) (by omega)
  rw [show (32768 : Int).toNat = 2 ^ 15 from rfl, this]
  omega

theorem or64_s (x : Int) (h0 : 0 ≤ x) (h1 : x < 2147483648) : bits .or .u64 x 2147483648 = x + 2147483648 := by
  rw [u64_or x 2147483648 h0 (by omega) (by decide) (by decide)]
  have := nat_or (n := 31) (x := x.toNat) (by omega)
  rw [show (2147483648 : Int).toNat = 2 ^ 31 from rfl, this]
  omega

theorem or64_d (x : Int) (h0 : 0 ≤ x) (h1 : x < 9223372036854775808) : bits .or .u64 x 9223372036854775808 = x + 9223372036854775808 := by
  rw [u64_or x 9223372036854775808 h0 (by omega) (by decide) (by decide)]
  have := nat_or (n := 63) (x := x.toNat) (by omega)
  rw [show (9223372036854775808 : Int).toNat = 2 ^ 63 from rfl, this]
  omega

end Go.Proofs.YtlhjbmdkfdabmaaGreatDoor

namespace Go.Proofs.YtlhjbmdkfdabmaaGreatDoor
open Go.RowKit
set_option linter.unusedVariables false

def ToP (Sb Fb Lb Ib Fa La Ia s : Int) (ng : Bool) (y : Int) (ok : Bool) : Prop :=
  (Ia < s ∧ y = Ib + Fb / 2 ∧ ok = true) ∨ (s = Ia ∧ y = Ib + b2i ng * Sb ∧ ok = true) ∨
  (s < Ia ∧ ∃ m E r a n f k, PartIs Fa La Ia s ng ng m E true ∧ Near Fb Lb Ib (2 * m + b2i false) (E - 1) r ∧ y = r + b2i ng * Sb ∧ PartIs Fb Lb Ib r ng a n f k ∧ ok = (k && (n == m) && (f == E)))

def ToR (Sb Fb Lb Ib Fa La Ia s : Int) (ng : Bool) (y : Int) (ok : Bool) : Prop :=
  (Ia < s ∧ y = Ib + Fb / 2 ∧ ok = true) ∨ (s = Ia ∧ y = Ib + b2i ng * Sb ∧ ok = true) ∨
  (s < Ia ∧ ∃ m E r a n f k, PartIs Fa La Ia s ng ng m E true ∧ (∀ r', Near Fb Lb Ib (2 * m + b2i false) (E - 1) r' → r' = r) ∧ y = r + b2i ng * Sb ∧ PartIs Fb Lb Ib r ng a n f k ∧ ok = (k && (n == m) && (f == E)))

theorem to_same {Sb Fb Lb Ib Fa La Ia s : Int} {ng : Bool} {y y' : Int} {ok ok' : Bool} (s0 : 0 ≤ s) (h : ToP Sb Fb Lb Ib Fa La Ia s ng y ok) (h' : ToR Sb Fb Lb Ib Fa La Ia s ng y' ok') : y = y' ∧ ok = ok' := by
  rcases h with ⟨a, rfl, rfl⟩ | ⟨a, rfl, rfl⟩ | ⟨a, m, E, r, p, n, f, k, h1, h2, rfl, h4, rfl⟩
  · rcases h' with ⟨b, rfl, rfl⟩ | ⟨b, _⟩ | ⟨b, _⟩
    · exact ⟨rfl, rfl⟩
    · omega
    · omega
  · rcases h' with ⟨b, _⟩ | ⟨b, rfl, rfl⟩ | ⟨b, _⟩
    · omega
    · exact ⟨rfl, rfl⟩
    · omega
  · rcases h' with ⟨b, _⟩ | ⟨b, _⟩ | ⟨b, m', E', r', p', n', f', k', g1, g2, rfl, g4, rfl⟩
    · omega
    · omega
    · obtain ⟨_, rfl, rfl, _⟩ := h1.unique s0 g1
      obtain rfl := g2 _ h2
      obtain ⟨_, rfl, rfl, rfl⟩ := h4.unique h2.1 g4
      exact ⟨rfl, rfl⟩

theorem sgn_part {S r : Int} (ng : Bool) (r0 : 0 ≤ r) (r1 : r < S) : (r + b2i ng * S) % S = r ∧ ng = decide (S ≤ r + b2i ng * S) ∧ 0 ≤ r + b2i ng * S ∧ r + b2i ng * S < 2 * S := by
  cases ng
  · rw [show b2i false = 0 from rfl, Int.zero_mul, Int.add_zero]
    exact ⟨Int.emod_eq_of_lt r0 r1, by rw [decide_eq_false]; omega, r0, by omega⟩
  · rw [show b2i true = 1 from rfl, Int.one_mul]
    exact ⟨by rw [Int.add_emod_right, Int.emod_eq_of_lt r0 r1], by rw [decide_eq_true]; omega, by omega, by omega⟩

end Go.Proofs.YtlhjbmdkfdabmaaGreatDoor
