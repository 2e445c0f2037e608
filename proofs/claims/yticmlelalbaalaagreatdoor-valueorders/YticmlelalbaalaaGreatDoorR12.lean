/- NMay -/
import Derived.Test.YticmlelalbaalaaGreatDoorR09
import Derived.Test.YticmlelalbaalaaGreatDoorR04
import Derived.Test.YticmlelalbaalaaGreatDoorR08
import Derived.Test.YticmlelalbaalaaGreatDoorR11
import Derived.Deep.RegionHeld3
import Derived.BigQuiet
namespace Go.Proofs.YticmlelalbaalaaGreatDoor
open Go.RowKit
set_option linter.unusedVariables false

/-- what each kind uses -/
def usTab : List Nat := [0, 0, 1, 2, 4, 16, 16, 32, 32, 33, 1, 24]
structure Uss (w : World) : Prop where
  at_ : ∀ j, j < 12 → w.cell? ⟨11, j, none⟩ = some (.int .u8 (usTab.getD j 0))
  lt : 11 < w.heap.size
theorem Uss.below {w w' : World} (h : Uss w) (hb : Below w.heap.size w w') : Uss w' := ⟨fun j hj => (hb.cell (p := ⟨11, j, none⟩) h.lt).trans (h.at_ j hj), Nat.lt_of_lt_of_le h.lt hb.size⟩
/-- a list of limbs that is its number's own -/
def CArg (w : World) (v : Value) (n : Int) (k : Nat) : Prop := ∃ zs, Reads .u32 w v zs ∧ Nt.Canon zs ∧ Nt.val zs = n ∧ zs.length ≤ k
theorem CArg.below {w w' : World} {v : Value} {n : Int} {k : Nat} (h : CArg w v n k) (hb : Below w.heap.size w w') : CArg w' v n k := by
  obtain ⟨zs, h1, h2⟩ := h
  exact ⟨zs, h1.below hb, h2⟩
theorem CArg.arg {w : World} {v : Value} {n : Int} {k : Nat} (h : CArg w v n k) : Arg w v n k := by
  obtain ⟨zs, h1, h2, h3, h4⟩ := h
  exact ⟨zs, h1, h2.1, h3, h4⟩
theorem Num.carg {B : Nat} {w : World} {v : Value} {n : Int} {k : Nat} (h : Num B w v n k) : CArg w v n k := by
  obtain ⟨zs, h1, h2, h3, h4⟩ := h
  exact ⟨zs, h1.reads, h2, h3, h4⟩
abbrev nvW (g : Bool) (m : Value) : Value := .agg #[.int .i8 3, .int .u64 0, .bool g, m, .int .u64 0, .int .i8 0, .string ⟨#[]⟩, .slice none 0 0]
abbrev nvF (b : Int) : Value := .agg #[.int .i8 4, .int .u64 0, .bool false, .slice none 0 0, .int .u64 b, .int .i8 0, .string ⟨#[]⟩, .slice none 0 0]

set_option maxHeartbeats 4000000 in
theorem filled_w0 {w : World} {mo : Option Addr} {mc : Nat} : Calls Tryz.prog 66 #[nvW false (.slice mo 0 mc)] w fun e w' => e = .returned (.int .u8 0) ∧ Below w.heap.size w w' := by
  go_enter Tryz.func66, Tryz.ntmps66
  go_wp2
  go_ret
  exact ⟨rfl, bel_new _ _⟩

set_option maxHeartbeats 4000000 in
theorem filled_w1 {w : World} {mo : Option Addr} {ml mc : Nat} {g : Bool} (h : 0 < ml) : Calls Tryz.prog 66 #[nvW g (.slice mo ml mc)] w fun e w' => e = .returned (.int .u8 2) ∧ Below w.heap.size w w' := by
  have h2 : (0 : Int) < (ml : Int) := by omega
  cases g <;>
  · go_enter Tryz.func66, Tryz.ntmps66
    go_wp2
    go_ret
    exact ⟨rfl, bel_new _ _⟩

set_option maxHeartbeats 4000000 in
theorem filled_f {w : World} {b : Int} (h : b ≠ 0) : Calls Tryz.prog 66 #[nvF b] w fun e w' => e = .returned (.int .u8 4) ∧ Below w.heap.size w w' := by
  have h2 : (b == 0) = false := by simp [h]
  go_enter Tryz.func66, Tryz.ntmps66
  go_wp2
  go_ret
  exact ⟨rfl, bel_new _ _⟩

set_option maxHeartbeats 4000000 in
theorem isnormal_any {w : World} {g : Bool} {m : Value} {a : Int} {k : Nat} (hm : CArg w m a k) (hg : g = true → 0 < a) : Calls Tryz.prog 107 #[.agg #[.bool g, m]] w fun e w' => e = .returned (.bool true) ∧ Below w.heap.size w w' := by
  obtain ⟨zs, ⟨ao, cap, rfl, hlc, hcm, hc⟩, hcn, hv, hk⟩ := hm
  by_cases hz : zs.length = 0
  · have : zs = [] := List.length_eq_zero_iff.1 hz
    subst this
    have ha : a = 0 := by rw [← hv]; rfl
    have hgf : g = false := by cases g; rfl; have := hg rfl; omega
    subst hgf
    clear hcn hv hc hg ha hk hlc hcm
    simp only [List.length_nil]
    go_enter Tryz.func107, Tryz.ntmps107
    go_wp2
    go_ret
    exact ⟨rfl, bel_new _ _⟩
  · obtain ⟨b, off, rfl, hb, hcell⟩ := hc (by omega)
    have hne : zs ≠ [] := fun h => hz (by rw [h]; rfl)
    have h1 := hcell (zs.length - 1) (by omega)
    have h2 := hcn.2 hne
    generalize Nt.lb zs (zs.length - 1) = x at h1 h2
    obtain ⟨n, hn⟩ : ∃ n, zs.length = n + 1 := ⟨zs.length - 1, by omega⟩
    rw [hn] at h1 hlc ⊢
    rw [show n + 1 - 1 = n by omega] at h1
    have h3 := hide (show (x != 0) = true by simp [h2])
    have hcm2 : cap ≤ 9223372036854775807 := hcm
    have h5 := (bel_new w (.cells #[.bool g, .slice (some ⟨b, off, none⟩) (n + 1) cap] 28)).cell (p := ⟨b, off + n, none⟩) hb
    rw [h1] at h5
    clear hcell hne hcn hv hz hk hn h1 h2 hg hcm
    go_enter Tryz.func107, Tryz.ntmps107
    go_wp2
    go_ret
    refine ⟨?_, bel_new _ _⟩
    show Ending.returned (.bool (x != 0)) = _
    rw [h3.out]

/-- a float that may be -/
def FOk (b : Int) : Prop := 0 ≤ b ∧ b < 18446744073709551616 ∧ b ≠ 0 ∧ (b = 9221120237041090560 ∨ b % 9223372036854775808 = 9218868437227405312 ∨ (b % 9223372036854775808 < 9218868437227405312 ∧ ∃ n, IntIs 4503599627370496 (-1074) 9218868437227405312 (b % 9223372036854775808) (decide (9223372036854775808 ≤ b)) n false))

set_option maxHeartbeats 8000000 in
set_option maxRecDepth 20000 in
theorem isfloat_ok {w : World} (L : Lays w) (T : Brn w) {b : Int} (h : FOk b) : Calls Tryz.prog 108 #[.int .u64 b] w fun e w' => e = .returned (.bool true) ∧ Below w.heap.size w w' := by
  obtain ⟨b0, b1, bn, h⟩ := h
  have HH := hide h
  clear h
  go_enter Tryz.func108, Tryz.ntmps108
  go_wp2_with fail
  with_reducible refine (class_64 L b (b % 9223372036854775808) b0 b1 rfl).mono ?_
  rintro e w1 ⟨rfl, K1⟩
  have HK := hide K1
  have L1 := hide (L.below K1)
  have T1 := hide (T.below K1)
  clear K1
  rcases HH.out with rfl | h | ⟨h, n, hn⟩
  · rw [show cls 9223372036854775808 4503599627370496 (9221120237041090560 % 9223372036854775808) = 5 from by decide]
    go_wp2
    go_ret
    exact ⟨rfl, HK.out⟩
  · rw [show cls 9223372036854775808 4503599627370496 (b % 9223372036854775808) = 4 from by rw [h]; decide]
    clear h
    go_wp2
    go_ret
    exact ⟨rfl, HK.out⟩
  · obtain ⟨c, hc⟩ : ∃ c, cls 9223372036854775808 4503599627370496 (b % 9223372036854775808) = c := ⟨_, rfl⟩
    rw [hc]
    have c5 : c ≠ 5 := by
      rw [← hc, Ne, cls_nan]; omega
    have c4 : c ≠ 4 := by
      rw [← hc]; unfold cls; intro hx
      rw [if_neg (by omega), if_neg (by omega)] at hx
      split at hx
      · omega
      · split at hx <;> omega
    have HN := hide hn
    have e5 : (c == 5) = false := by simp [c5]
    have e4 : (c == 4) = false := by simp [c4]
    clear hc hn h c4 c5 bn HH
    go_wp2_with fail
    with_reducible refine (int_64 L1.out T1.out b (b % 9223372036854775808) (decide (9223372036854775808 ≤ b)) b0 b1 rfl rfl).mono ?_
    rintro e w2 ⟨va, n2, ok, rfl, hW, hI, K2⟩
    obtain ⟨-, rfl⟩ := HN.out.unique (Int.emod_nonneg _ (by decide)) hI
    obtain ⟨ng2, m2, a2, rfl, ⟨zs2, ⟨ao2, rfl, -⟩, -⟩, -, -⟩ := hW
    clear hI HN
    have KK := hide (below_trans HK.out K2)
    clear K2
    go_wp2
    go_ret
    exact ⟨rfl, KK.out.alloc (by have := KK.out.size; omega) _⟩


set_option maxHeartbeats 8000000 in
set_option maxRecDepth 20000 in
theorem fits_w {w : World} {g : Bool} {m : Value} {a : Int} {k : Nat} (hm : CArg w m a k) (hg : g = true → 0 < a) : Calls Tryz.prog 67 #[nvW g m] w fun e w' => e = .returned (.bool true) ∧ Below w.heap.size w w' := by
  have HM := hide hm
  obtain ⟨zs, ⟨ao, cap, rfl, -⟩, -⟩ := hm
  generalize zs.length = ml at *
  go_enter Tryz.func67, Tryz.ntmps67
  go_wp2_with fail
  have K1 := bel_new w (.cells #[.int .i8 3, .int .u64 0, .bool g, .slice ao ml cap, .int .u64 0, .int .i8 0, .string ⟨#[]⟩, .slice none 0 0] 31)
  with_reducible refine (isnormal_any (HM.out.below K1) hg).mono ?_
  rintro e w2 ⟨rfl, K2⟩
  have KK := hide (below_trans K1 K2)
  clear K1 K2
  go_wp2
  go_ret
  exact ⟨rfl, KK.out⟩

set_option maxHeartbeats 8000000 in
set_option maxRecDepth 20000 in
theorem fits_f {w : World} (L : Lays w) (T : Brn w) {b : Int} (h : FOk b) : Calls Tryz.prog 67 #[nvF b] w fun e w' => e = .returned (.bool true) ∧ Below w.heap.size w w' := by
  go_enter Tryz.func67, Tryz.ntmps67
  go_wp2_with fail
  have K1 := bel_new w (.cells #[.int .i8 4, .int .u64 0, .bool false, .slice none 0 0, .int .u64 b, .int .i8 0, .string ⟨#[]⟩, .slice none 0 0] 31)
  with_reducible refine (isfloat_ok (L.below K1) (T.below K1) h).mono ?_
  rintro e w2 ⟨rfl, K2⟩
  have KK := hide (below_trans K1 K2)
  clear K1 K2
  go_wp2
  go_ret
  exact ⟨rfl, KK.out⟩

set_option maxHeartbeats 8000000 in
set_option maxRecDepth 20000 in
theorem maybe_w0 {w : World} (U : Uss w) {g : Bool} {mo : Option Addr} {ml mc : Nat} {b : Int}
    (h1 : ∀ W, Below w.heap.size w W → Calls Tryz.prog 66 #[.agg #[.int .i8 3, .int .u64 0, .bool g, .slice mo ml mc, .int .u64 b, .int .i8 0, .string ⟨#[]⟩, .slice none 0 0]] W fun e w' => e = .returned (.int .u8 0) ∧ Below W.heap.size W w')
    (h2 : ∀ W, Below w.heap.size w W → Calls Tryz.prog 67 #[.agg #[.int .i8 3, .int .u64 0, .bool g, .slice mo ml mc, .int .u64 b, .int .i8 0, .string ⟨#[]⟩, .slice none 0 0]] W fun e w' => e = .returned (.bool true) ∧ Below W.heap.size W w') :
    Calls Tryz.prog 33 #[.agg #[.int .i8 3, .int .u64 0, .bool g, .slice mo ml mc, .int .u64 b, .int .i8 0, .string ⟨#[]⟩, .slice none 0 0]] w fun e w' => e = .returned (.bool true) ∧ Below w.heap.size w w' := by
  have H1 := hide h1
  have H2 := hide h2
  have HU := hide U
  clear h1 h2 U
  go_enter Tryz.func33, Tryz.ntmps33
  go_wp2_with fail
  have B := hide (bx8_new w (.int .i8 3) (.int .u64 0) (.bool g) (.slice mo ml mc) (.int .u64 b) (.int .i8 0) (.string ⟨#[]⟩) (.slice none 0 0) 31)
  have K0 := hide (bel_new w (.cells #[.int .i8 3, .int .u64 0, .bool g, .slice mo ml mc, .int .u64 b, .int .i8 0, .string ⟨#[]⟩, .slice none 0 0] 31))
  have hs : w.heap.size < (w.alloc (.cells #[.int .i8 3, .int .u64 0, .bool g, .slice mo ml mc, .int .u64 b, .int .i8 0, .string ⟨#[]⟩, .slice none 0 0] 31)).heap.size := by simp
  generalize w.alloc (.cells #[.int .i8 3, .int .u64 0, .bool g, .slice mo ml mc, .int .u64 b, .int .i8 0, .string ⟨#[]⟩, .slice none 0 0] 31) = W at *
  have CC : ∀ u : World, Below W.heap.size W u → u.cell? ⟨w.heap.size, 0, none⟩ = some (.int .i8 3) ∧ u.cell? ⟨w.heap.size, 1, none⟩ = some (.int .u64 0) ∧ u.cell? ⟨w.heap.size, 2, none⟩ = some (.bool g) ∧ u.cell? ⟨w.heap.size, 3, none⟩ = some (.slice mo ml mc) ∧ u.cell? ⟨w.heap.size, 4, none⟩ = some (.int .u64 b) ∧ u.cell? ⟨w.heap.size, 5, none⟩ = some (.int .i8 0) ∧ u.cell? ⟨w.heap.size, 6, none⟩ = some (.string ⟨#[]⟩) ∧ u.cell? ⟨w.heap.size, 7, none⟩ = some (.slice none 0 0) ∧ u.cell? ⟨11, 3, none⟩ = some (.int .u8 2) := fun u hu => by
    obtain ⟨h0, h1, h2, h3, h4, h5, h6, h7⟩ := B.out.below hu hs
    exact ⟨h0, h1, h2, h3, h4, h5, h6, h7, ((HU.out.below K0.out).below hu).at_ 3 (by omega)⟩
  have K : Below W.heap.size W W.drew := (Below.refl _ _).drew
  clear hs
  go_region_held3 (fun u => u.cell? ⟨w.heap.size, 0, none⟩ = some (.int .i8 3) ∧ u.cell? ⟨w.heap.size, 1, none⟩ = some (.int .u64 0) ∧ u.cell? ⟨w.heap.size, 2, none⟩ = some (.bool g) ∧ u.cell? ⟨w.heap.size, 3, none⟩ = some (.slice mo ml mc) ∧ u.cell? ⟨w.heap.size, 4, none⟩ = some (.int .u64 b) ∧ u.cell? ⟨w.heap.size, 5, none⟩ = some (.int .i8 0) ∧ u.cell? ⟨w.heap.size, 6, none⟩ = some (.string ⟨#[]⟩) ∧ u.cell? ⟨w.heap.size, 7, none⟩ = some (.slice none 0 0) ∧ u.cell? ⟨11, 3, none⟩ = some (.int .u8 2)) (first | with_reducible exact CC _ K)
    (first
      | (go_at_call 66; (refine (H1.out _ (K0.out.trans (K.mono K0.out.size))).mono ?_); rintro e w2 ⟨rfl, hb2⟩; replace K := K.trans (hb2.mono K.size))
      | (go_at_call 67; (refine (H2.out _ (K0.out.trans (K.mono K0.out.size))).mono ?_); rintro e w3 ⟨rfl, hb3⟩; replace K := K.trans (hb3.mono K.size)))
  have KZ := hide (K0.out.trans (K.mono K0.out.size))
  clear CC K
  go_wp2
  go_ret
  exact ⟨rfl, KZ.out⟩

set_option maxHeartbeats 8000000 in
set_option maxRecDepth 20000 in
theorem maybe_w1 {w : World} (U : Uss w) {g : Bool} {mo : Option Addr} {ml mc : Nat} {b : Int}
    (h1 : ∀ W, Below w.heap.size w W → Calls Tryz.prog 66 #[.agg #[.int .i8 3, .int .u64 0, .bool g, .slice mo ml mc, .int .u64 b, .int .i8 0, .string ⟨#[]⟩, .slice none 0 0]] W fun e w' => e = .returned (.int .u8 2) ∧ Below W.heap.size W w')
    (h2 : ∀ W, Below w.heap.size w W → Calls Tryz.prog 67 #[.agg #[.int .i8 3, .int .u64 0, .bool g, .slice mo ml mc, .int .u64 b, .int .i8 0, .string ⟨#[]⟩, .slice none 0 0]] W fun e w' => e = .returned (.bool true) ∧ Below W.heap.size W w') :
    Calls Tryz.prog 33 #[.agg #[.int .i8 3, .int .u64 0, .bool g, .slice mo ml mc, .int .u64 b, .int .i8 0, .string ⟨#[]⟩, .slice none 0 0]] w fun e w' => e = .returned (.bool true) ∧ Below w.heap.size w w' := by
  have H1 := hide h1
  have H2 := hide h2
  have HU := hide U
  clear h1 h2 U
  go_enter Tryz.func33, Tryz.ntmps33
  go_wp2_with fail
  have B := hide (bx8_new w (.int .i8 3) (.int .u64 0) (.bool g) (.slice mo ml mc) (.int .u64 b) (.int .i8 0) (.string ⟨#[]⟩) (.slice none 0 0) 31)
  have K0 := hide (bel_new w (.cells #[.int .i8 3, .int .u64 0, .bool g, .slice mo ml mc, .int .u64 b, .int .i8 0, .string ⟨#[]⟩, .slice none 0 0] 31))
  have hs : w.heap.size < (w.alloc (.cells #[.int .i8 3, .int .u64 0, .bool g, .slice mo ml mc, .int .u64 b, .int .i8 0, .string ⟨#[]⟩, .slice none 0 0] 31)).heap.size := by simp
  generalize w.alloc (.cells #[.int .i8 3, .int .u64 0, .bool g, .slice mo ml mc, .int .u64 b, .int .i8 0, .string ⟨#[]⟩, .slice none 0 0] 31) = W at *
  have CC : ∀ u : World, Below W.heap.size W u → u.cell? ⟨w.heap.size, 0, none⟩ = some (.int .i8 3) ∧ u.cell? ⟨w.heap.size, 1, none⟩ = some (.int .u64 0) ∧ u.cell? ⟨w.heap.size, 2, none⟩ = some (.bool g) ∧ u.cell? ⟨w.heap.size, 3, none⟩ = some (.slice mo ml mc) ∧ u.cell? ⟨w.heap.size, 4, none⟩ = some (.int .u64 b) ∧ u.cell? ⟨w.heap.size, 5, none⟩ = some (.int .i8 0) ∧ u.cell? ⟨w.heap.size, 6, none⟩ = some (.string ⟨#[]⟩) ∧ u.cell? ⟨w.heap.size, 7, none⟩ = some (.slice none 0 0) ∧ u.cell? ⟨11, 3, none⟩ = some (.int .u8 2) := fun u hu => by
    obtain ⟨h0, h1, h2, h3, h4, h5, h6, h7⟩ := B.out.below hu hs
    exact ⟨h0, h1, h2, h3, h4, h5, h6, h7, ((HU.out.below K0.out).below hu).at_ 3 (by omega)⟩
  have K : Below W.heap.size W W.drew := (Below.refl _ _).drew
  clear hs
  go_region_held3 (fun u => u.cell? ⟨w.heap.size, 0, none⟩ = some (.int .i8 3) ∧ u.cell? ⟨w.heap.size, 1, none⟩ = some (.int .u64 0) ∧ u.cell? ⟨w.heap.size, 2, none⟩ = some (.bool g) ∧ u.cell? ⟨w.heap.size, 3, none⟩ = some (.slice mo ml mc) ∧ u.cell? ⟨w.heap.size, 4, none⟩ = some (.int .u64 b) ∧ u.cell? ⟨w.heap.size, 5, none⟩ = some (.int .i8 0) ∧ u.cell? ⟨w.heap.size, 6, none⟩ = some (.string ⟨#[]⟩) ∧ u.cell? ⟨w.heap.size, 7, none⟩ = some (.slice none 0 0) ∧ u.cell? ⟨11, 3, none⟩ = some (.int .u8 2)) (first | with_reducible exact CC _ K)
    (first
      | (go_at_call 66; (refine (H1.out _ (K0.out.trans (K.mono K0.out.size))).mono ?_); rintro e w2 ⟨rfl, hb2⟩; replace K := K.trans (hb2.mono K.size))
      | (go_at_call 67; (refine (H2.out _ (K0.out.trans (K.mono K0.out.size))).mono ?_); rintro e w3 ⟨rfl, hb3⟩; replace K := K.trans (hb3.mono K.size)))
  have KZ := hide (K0.out.trans (K.mono K0.out.size))
  clear CC K
  go_wp2
  go_ret
  exact ⟨rfl, KZ.out⟩

set_option maxHeartbeats 8000000 in
set_option maxRecDepth 20000 in
theorem maybe_f {w : World} (U : Uss w) {g : Bool} {mo : Option Addr} {ml mc : Nat} {b : Int}
    (h1 : ∀ W, Below w.heap.size w W → Calls Tryz.prog 66 #[.agg #[.int .i8 4, .int .u64 0, .bool g, .slice mo ml mc, .int .u64 b, .int .i8 0, .string ⟨#[]⟩, .slice none 0 0]] W fun e w' => e = .returned (.int .u8 4) ∧ Below W.heap.size W w')
    (h2 : ∀ W, Below w.heap.size w W → Calls Tryz.prog 67 #[.agg #[.int .i8 4, .int .u64 0, .bool g, .slice mo ml mc, .int .u64 b, .int .i8 0, .string ⟨#[]⟩, .slice none 0 0]] W fun e w' => e = .returned (.bool true) ∧ Below W.heap.size W w') :
    Calls Tryz.prog 33 #[.agg #[.int .i8 4, .int .u64 0, .bool g, .slice mo ml mc, .int .u64 b, .int .i8 0, .string ⟨#[]⟩, .slice none 0 0]] w fun e w' => e = .returned (.bool true) ∧ Below w.heap.size w w' := by
  have H1 := hide h1
  have H2 := hide h2
  have HU := hide U
  clear h1 h2 U
  go_enter Tryz.func33, Tryz.ntmps33
  go_wp2_with fail
  have B := hide (bx8_new w (.int .i8 4) (.int .u64 0) (.bool g) (.slice mo ml mc) (.int .u64 b) (.int .i8 0) (.string ⟨#[]⟩) (.slice none 0 0) 31)
  have K0 := hide (bel_new w (.cells #[.int .i8 4, .int .u64 0, .bool g, .slice mo ml mc, .int .u64 b, .int .i8 0, .string ⟨#[]⟩, .slice none 0 0] 31))
  have hs : w.heap.size < (w.alloc (.cells #[.int .i8 4, .int .u64 0, .bool g, .slice mo ml mc, .int .u64 b, .int .i8 0, .string ⟨#[]⟩, .slice none 0 0] 31)).heap.size := by simp
  generalize w.alloc (.cells #[.int .i8 4, .int .u64 0, .bool g, .slice mo ml mc, .int .u64 b, .int .i8 0, .string ⟨#[]⟩, .slice none 0 0] 31) = W at *
  have CC : ∀ u : World, Below W.heap.size W u → u.cell? ⟨w.heap.size, 0, none⟩ = some (.int .i8 4) ∧ u.cell? ⟨w.heap.size, 1, none⟩ = some (.int .u64 0) ∧ u.cell? ⟨w.heap.size, 2, none⟩ = some (.bool g) ∧ u.cell? ⟨w.heap.size, 3, none⟩ = some (.slice mo ml mc) ∧ u.cell? ⟨w.heap.size, 4, none⟩ = some (.int .u64 b) ∧ u.cell? ⟨w.heap.size, 5, none⟩ = some (.int .i8 0) ∧ u.cell? ⟨w.heap.size, 6, none⟩ = some (.string ⟨#[]⟩) ∧ u.cell? ⟨w.heap.size, 7, none⟩ = some (.slice none 0 0) ∧ u.cell? ⟨11, 4, none⟩ = some (.int .u8 4) := fun u hu => by
    obtain ⟨h0, h1, h2, h3, h4, h5, h6, h7⟩ := B.out.below hu hs
    exact ⟨h0, h1, h2, h3, h4, h5, h6, h7, ((HU.out.below K0.out).below hu).at_ 4 (by omega)⟩
  have K : Below W.heap.size W W.drew := (Below.refl _ _).drew
  clear hs
  go_region_held3 (fun u => u.cell? ⟨w.heap.size, 0, none⟩ = some (.int .i8 4) ∧ u.cell? ⟨w.heap.size, 1, none⟩ = some (.int .u64 0) ∧ u.cell? ⟨w.heap.size, 2, none⟩ = some (.bool g) ∧ u.cell? ⟨w.heap.size, 3, none⟩ = some (.slice mo ml mc) ∧ u.cell? ⟨w.heap.size, 4, none⟩ = some (.int .u64 b) ∧ u.cell? ⟨w.heap.size, 5, none⟩ = some (.int .i8 0) ∧ u.cell? ⟨w.heap.size, 6, none⟩ = some (.string ⟨#[]⟩) ∧ u.cell? ⟨w.heap.size, 7, none⟩ = some (.slice none 0 0) ∧ u.cell? ⟨11, 4, none⟩ = some (.int .u8 4)) (first | with_reducible exact CC _ K)
    (first
      | (go_at_call 66; (refine (H1.out _ (K0.out.trans (K.mono K0.out.size))).mono ?_); rintro e w2 ⟨rfl, hb2⟩; replace K := K.trans (hb2.mono K.size))
      | (go_at_call 67; (refine (H2.out _ (K0.out.trans (K.mono K0.out.size))).mono ?_); rintro e w3 ⟨rfl, hb3⟩; replace K := K.trans (hb3.mono K.size)))
  have KZ := hide (K0.out.trans (K.mono K0.out.size))
  clear CC K
  go_wp2
  go_ret
  exact ⟨rfl, KZ.out⟩

end Go.Proofs.YticmlelalbaalaaGreatDoor
