/- NBkA, NBkP -/
import Derived.Test.YtggoobbnibpbkaaGreatDoorR12
import Derived.Test.YtggoobbnibpbkaaGreatDoorR18
import Derived.Test.YtggoobbnibpbkaaGreatDoorR19
namespace Go.Proofs.YtggoobbnibpbkaaGreatDoor
open Go.RowKit
set_option linter.unusedVariables false

theorem bits_uniq {z : NZ} {y y' : Int} {ok ok' : Bool} (h : BitsIs z y ok) (h' : BitsIs z y' ok') : y = y' ∧ ok = ok' := by
  cases z with
  | w n =>
    obtain ⟨q, o, ⟨r, n2, k, hN, rfl, hI, rfl⟩, h1⟩ := h
    obtain ⟨q', o', ⟨r', n2', k', hN', rfl, hI', rfl⟩, h1'⟩ := h'
    obtain rfl := near_unique (by decide) hN hN'
    obtain ⟨rfl, rfl⟩ := hI.unique hN.1 hI'
    rcases h1 with ⟨a, rfl, rfl⟩ | ⟨a, rfl, rfl⟩ <;> rcases h1' with ⟨b, rfl, rfl⟩ | ⟨b, rfl, rfl⟩
    · exact ⟨rfl, rfl⟩
    · rw [a] at b; cases b
    · rw [a] at b; cases b
    · exact ⟨rfl, rfl⟩
  | f b =>
    obtain ⟨rfl, rfl⟩ := h
    obtain ⟨rfl, rfl⟩ := h'
    exact ⟨rfl, rfl⟩
theorem top_lt {Sb Fb Lb Ib lim Fa La Ia s y : Int} {fr : Nat} {ng : Bool} (V : Wth Sb Fb Lb Ib lim fr) (h : ToP Sb Fb Lb Ib Fa La Ia s ng y true) : 0 ≤ y ∧ y < 2 * Sb := by
  have h1 := V.s
  have h2 := V.i0
  have h3 := V.fe
  have h4 := V.f0
  have hb : b2i ng = 0 ∨ b2i ng = 1 := by cases ng <;> simp [b2i]
  rcases h with ⟨a, rfl, -⟩ | ⟨a, rfl, -⟩ | ⟨a, m, E, r, a1, n, f, k, hP, hN, rfl, hQ, hok⟩
  · omega
  · rcases hb with h | h <;> rw [h] <;> omega
  · have hr : r < Ib := by
      rcases Int.lt_or_le r Ib with g | g
      · exact g
      · have := (hQ.1 g).2.2.2
        subst this
        simp at hok
    have := hN.1
    rcases hb with h | h <;> rw [h] <;> omega
/-- what Narrow of a number that has a pattern tells -/
theorem nar_cases {z : NZ} {b wd y : Int} {ok : Bool} (hf : ∀ y, z = .f y → FOk y) (hb : BitsIs z b true) (hn : NarIs z wd y ok) : ok = true ∧
    ((wd = 16 ∧ (0 ≤ y ∧ y < 65536) ∧ ∀ z', OfIs 9223372036854775808 4503599627370496 (-1074) 9218868437227405312 1024 (-24) 31744 (y % 32768) (decide (32768 ≤ y)) z' → z' = z) ∨
     (wd = 32 ∧ (0 ≤ y ∧ y < 4294967296) ∧ ∀ z', OfIs 9223372036854775808 4503599627370496 (-1074) 9218868437227405312 8388608 (-149) 2139095040 (y % 2147483648) (decide (2147483648 ≤ y)) z' → z' = z) ∨
     (wd = 64 ∧ ∀ z', OfIs 9223372036854775808 4503599627370496 (-1074) 9218868437227405312 4503599627370496 (-1074) 9218868437227405312 (y % 9223372036854775808) (decide (9223372036854775808 ≤ y)) z' → z' = z)) := by
  obtain ⟨bb, bk, hB, h⟩ := hn
  obtain ⟨rfl, rfl⟩ := bits_uniq hb hB
  have hw := bits_wide hf hb
  have s0 : 0 ≤ b % 9223372036854775808 := Int.emod_nonneg _ (by decide)
  rcases h with ⟨h, -⟩ | ⟨-, rfl, y16, k16, h16, h⟩
  · cases h
  · refine ⟨rfl, ?_⟩
    rcases h with ⟨rfl, rfl, rfl⟩ | ⟨-, y32, k32, h32, h⟩
    · exact .inl ⟨rfl, top_lt wth16 h16, fun z' hz' => wide_narrow wth64 wth16 (by decide) (by decide) (by decide) s0 hw h16 hz'⟩
    · rcases h with ⟨rfl, rfl, rfl⟩ | ⟨-, rfl, rfl⟩
      · exact .inr (.inl ⟨rfl, top_lt wth32 h32, fun z' hz' => wide_narrow wth64 wth32 (by decide) (by decide) (by decide) s0 hw h32 hz'⟩)
      · exact .inr (.inr ⟨rfl, fun z' hz' => wide_of wth64 s0 hw hz'⟩)
theorem nre_fok {w : World} {v : Value} {k : Nat} {z : NZ} (h : NRe w v k z) : ∀ y, z = .f y → FOk y := by
  rintro y rfl
  obtain ⟨-, -, -, -, -, -, hb⟩ := h
  exact hb
/-- Bits of any value -/
theorem bits_v {w : World} (L : Lays w) (T : Brn w) (U : Uss w) {v : Value} {k : Nat} (h : (∃ z, NRe w v k z) ∨ NoN w v) (hk : k ≤ 1048577) : Calls Tryz.prog 23 #[v] w fun e' w' => ∃ y ok, e' = .returned (.tuple #[.int .u64 y, .bool ok]) ∧ 0 ≤ y ∧ y < 18446744073709551616 ∧ (ok = true → ∃ z, NRe w v k z ∧ BitsIs z y true) ∧ Below w.heap.size w w' := by
  rcases h with ⟨z, h⟩ | h
  · refine (bits_e L T U h hk).mono ?_
    rintro e w' ⟨y, ok, rfl, y0, y1, hb, K⟩
    exact ⟨y, ok, rfl, y0, y1, fun ho => ⟨z, h, ho ▸ hb⟩, K⟩
  · refine (bits_none h).mono ?_
    rintro e w' ⟨rfl, K⟩
    exact ⟨0, false, rfl, by decide, by decide, (fun h => by cases h), K⟩
/-- a number's reading of its own bits: its number is it -/
theorem back_cmp {x y : Int} {z : NZ} (x0 : 0 ≤ x) (x1 : x < 18446744073709551616) (h : (y = x ∧ x % 9223372036854775808 ≤ 9218868437227405312) ∨ (x = 9223372036854775808 ∧ y = 0 ∧ z = .w 0)) : cmpC 9223372036854775808 4503599627370496 x y = 0 ∧ cmpOk 9223372036854775808 4503599627370496 x y = true := by
  rcases h with ⟨rfl, h⟩ | ⟨rfl, rfl, -⟩
  · obtain ⟨e1, e2⟩ := cmp_u wth64 x0 (by omega) x0 (by omega) h h
    exact ⟨by rw [e1]; exact sgn_nil.2 rfl, e2⟩
  · decide

end Go.Proofs.YtggoobbnibpbkaaGreatDoor

namespace Go.Proofs.YtggoobbnibpbkaaGreatDoor
open Go.RowKit
set_option linter.unusedVariables false

theorem back_pre {w : World} (L : Lays w) (T : Brn w) (U : Uss w) {et : TypeId} {eo : Option Addr} (hE : w.cell? ⟨0, 0, none⟩ = some (.iface et (.pointer eo))) (hEl : 0 < w.heap.size) {x : Va} {v : Value} (h : VaRd w v x) :
    ∃ (k n1 b e : Int) (g : Bool) (s : ByteArray) (mo ko : Option Addr) (ml mc kl kc : Nat), v = .agg #[.int .i8 k, .int .u64 n1, .bool g, .slice mo ml mc, .int .u64 b, .int .i8 e, .string s, .slice ko kl kc] ∧
      (∀ W bb, Below w.heap.size w W → Bx8 W bb (.int .i8 k) (.int .u64 n1) (.bool g) (.slice mo ml mc) (.int .u64 b) (.int .i8 e) (.string s) (.slice ko kl kc) → Calls Tryz.prog 21 #[.slice (some ⟨bb, 0, none⟩) 1 1] W fun e' w' => (∃ q, e' = .returned (.bool q) ∧ (q = false → x.mag.length ≤ 1048576)) ∧ Below W.heap.size W w') ∧
      (∀ W, Below w.heap.size w W → (∃ z, NRe W v x.mag.length z) ∨ NoN W v) := by
  have hD : ∀ W, Below w.heap.size w W → (∃ z, NRe W v x.mag.length z) ∨ NoN W v := fun W hW => num_dec (L.below hW) (T.below hW) (U.below hW) ((hW.cell (p := ⟨0, 0, none⟩) hEl).trans hE) (Nat.lt_of_lt_of_le hEl hW.size) (h.far hW) (Nat.le_refl _)
  obtain ⟨⟨vm, vk, rfl, hm, hk⟩, wf⟩ := h
  obtain ⟨mo, mc, rfl⟩ : ∃ ao cap, vm = .slice ao x.mag.length cap := by obtain ⟨ao, cap, h, _⟩ := hm; exact ⟨ao, cap, h⟩
  obtain ⟨ko, kc, rfl, -, -⟩ := hk.len
  refine ⟨_, _, _, _, _, _, _, _, _, _, _, _, rfl, fun W bb hW hb => ?_, hD⟩
  have hs : VaSl W (.slice (some ⟨bb, 0, none⟩) [x].length 1) [x] := by
    refine .mk (some ⟨bb, 0, none⟩) 1 [x] (fun _ => .slice mo x.mag.length mc) (fun _ => .slice ko x.kids.length kc) (by simp) (by unfold maxLen; omega) (by simp) (fun h => by cases h) (fun _ => ⟨bb, 0, rfl, hb.lt, fun i hi => ?_⟩) (fun i hi => ?_) (fun i hi => ?_)
    all_goals
      obtain rfl : i = 0 := by simp at hi; exact hi
    · obtain ⟨z0, z1, z2, z3, z4, z5, z6, z7⟩ := hb
      exact ⟨z0, z1, z2, z3, z4, z5, z6, z7⟩
    · exact ⟨hm.below hW, wf⟩
    · exact hk.far hW
  refine (beyondval_any hs).mono fun e w' h => ⟨h.1.imp fun q hq => ⟨hq.1, fun hf => ?_⟩, h.2⟩
  have h2 : kpts [x] ≤ 1048576 := by
    rcases hq.2 with h | h
    · rw [hf] at h; cases h
    · exact h
  have h3 : x.mag.length ≤ kpts [x] := by
    cases x
    simp [kpts, vpts, Va.mag]
    try omega
  omega

end Go.Proofs.YtggoobbnibpbkaaGreatDoor
