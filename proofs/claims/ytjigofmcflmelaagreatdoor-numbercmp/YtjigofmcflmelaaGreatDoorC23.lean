/- NMay, NAmt, NBits, NCmp, NCmq, NLm, NNm, NEx, NSame, NOdI, NLives -/
import Derived.Test.YtjigofmcflmelaaGreatDoorC09
import Derived.Test.YtjigofmcflmelaaGreatDoorC11
import Derived.Deep.RegionHeld3
import Derived.BigQuiet
import Derived.Test.YtjigofmcflmelaaGreatDoorC05
import Derived.Test.YtjigofmcflmelaaGreatDoorC06
import Derived.Test.YtjigofmcflmelaaGreatDoorC22
namespace Go.Proofs.YtjigofmcflmelaaGreatDoor
open Go.RowKit
set_option linter.unusedVariables false

/-- what each kind uses -/
def usTab : List Nat := [0, 0, 1, 2, 4, 16, 16, 32, 32, 33, 1, 24]
structure Uss (w : World) : Prop where
  at_ : ∀ j, j < 12 → w.cell? ⟨3, j, none⟩ = some (.int .u8 (usTab.getD j 0))
  lt : 3 < w.heap.size
theorem Uss.below {w w' : World} (h : Uss w) (hb : Below w.heap.size w w') : Uss w' := ⟨fun j hj => (hb.cell (p := ⟨3, j, none⟩) h.lt).trans (h.at_ j hj), Nat.lt_of_lt_of_le h.lt hb.size⟩
/-- a list of limbs that is its number's own -/
def CArg (w : World) (v : Value) (n : Int) (k : Nat) : Prop := ∃ zs, Reads .u32 w v zs ∧ Nt.Canon zs ∧ Nt.val zs = n ∧ zs.length ≤ k
theorem CArg.below {w w' : World} {v : Value} {n : Int} {k : Nat} (h : CArg w v n k) (hb : Below w.heap.size w w') : CArg w' v n k := by
  obtain ⟨zs, h1, h2⟩ := h
  exact ⟨zs, h1.below hb, h2⟩
theorem CArg.arg {w : World} {v : Value} {n : Int} {k : Nat} (h : CArg w v n k) : Arg w v n k := by
  obtain ⟨zs, h1, h2, h3, h4⟩ := h
  exact ⟨zs, h1, h2.1, h3, h4⟩
theorem Num.carg {B : Nat} {w : World} {v : Value} {n : Int} {k : Nat} (h : Num B w v n k) : CArg w v n k := by
  obtain ⟨zs, h1, h2, h3, h4⟩ := h
  exact ⟨zs, h1.reads, h2, h3, h4⟩
abbrev nvW (g : Bool) (m : Value) : Value := .agg #[.int .i8 3, .int .u64 0, .bool g, m, .int .u64 0, .int .i8 0, .string ⟨#[]⟩, .slice none 0 0]
abbrev nvF (b : Int) : Value := .agg #[.int .i8 4, .int .u64 0, .bool false, .slice none 0 0, .int .u64 b, .int .i8 0, .string ⟨#[]⟩, .slice none 0 0]

set_option maxHeartbeats 4000000 in
theorem filled_w0 {w : World} {mo : Option Addr} {mc : Nat} : Calls Tryz.prog 203 #[nvW false (.slice mo 0 mc)] w fun e w' => e = .returned (.int .u8 0) ∧ Below w.heap.size w w' := by
  go_enter Tryz.func203, Tryz.ntmps203
  go_wp2
  go_ret
  exact ⟨rfl, bel_new _ _⟩

set_option maxHeartbeats 4000000 in
theorem filled_w1 {w : World} {mo : Option Addr} {ml mc : Nat} {g : Bool} (h : 0 < ml) : Calls Tryz.prog 203 #[nvW g (.slice mo ml mc)] w fun e w' => e = .returned (.int .u8 2) ∧ Below w.heap.size w w' := by
  have h2 : (0 : Int) < (ml : Int) := by omega
  cases g <;>
  · go_enter Tryz.func203, Tryz.ntmps203
    go_wp2
    go_ret
    exact ⟨rfl, bel_new _ _⟩

set_option maxHeartbeats 4000000 in
theorem filled_f {w : World} {b : Int} (h : b ≠ 0) : Calls Tryz.prog 203 #[nvF b] w fun e w' => e = .returned (.int .u8 4) ∧ Below w.heap.size w w' := by
  have h2 : (b == 0) = false := by simp [h]
  go_enter Tryz.func203, Tryz.ntmps203
  go_wp2
  go_ret
  exact ⟨rfl, bel_new _ _⟩

set_option maxHeartbeats 4000000 in
theorem isnormal_any {w : World} {g : Bool} {m : Value} {a : Int} {k : Nat} (hm : CArg w m a k) (hg : g = true → 0 < a) : Calls Tryz.prog 227 #[.agg #[.bool g, m]] w fun e w' => e = .returned (.bool true) ∧ Below w.heap.size w w' := by
  obtain ⟨zs, ⟨ao, cap, rfl, hlc, hcm, hc⟩, hcn, hv, hk⟩ := hm
  by_cases hz : zs.length = 0
  · have : zs = [] := List.length_eq_zero_iff.1 hz
    subst this
    have ha : a = 0 := by rw [← hv]; rfl
    have hgf : g = false := by cases g; rfl; have := hg rfl; omega
    subst hgf
    clear hcn hv hc hg ha hk hlc hcm
    simp only [List.length_nil]
    go_enter Tryz.func227, Tryz.ntmps227
    go_wp2
    go_ret
    exact ⟨rfl, bel_new _ _⟩
  · obtain ⟨b, off, rfl, hb, hcell⟩ := hc (by omega)
    have hne : zs ≠ [] := fun h => hz (by rw [h]; rfl)
    have h1 := hcell (zs.length - 1) (by omega)
    have h2 := hcn.2 hne
    generalize Nt.lb zs (zs.length - 1) = x at h1 h2
    obtain ⟨n, hn⟩ : ∃ n, zs.length = n + 1 := ⟨zs.length - 1, by omega⟩
    rw [hn] at h1 hlc ⊢
    rw [show n + 1 - 1 = n by omega] at h1
    have h3 := hide (show (x != 0) = true by simp [h2])
    have hcm2 : cap ≤ 9223372036854775807 := hcm
    have h5 := (bel_new w (.cells #[.bool g, .slice (some ⟨b, off, none⟩) (n + 1) cap] 28)).cell (p := ⟨b, off + n, none⟩) hb
    rw [h1] at h5
    clear hcell hne hcn hv hz hk hn h1 h2 hg hcm
    go_enter Tryz.func227, Tryz.ntmps227
    go_wp2
    go_ret
    refine ⟨?_, bel_new _ _⟩
    show Ending.returned (.bool (x != 0)) = _
    rw [h3.out]

/-- a float that may be -/
def FOk (b : Int) : Prop := 0 ≤ b ∧ b < 18446744073709551616 ∧ b ≠ 0 ∧ (b = 9221120237041090560 ∨ b % 9223372036854775808 = 9218868437227405312 ∨ (b % 9223372036854775808 < 9218868437227405312 ∧ ∃ n, IntIs 4503599627370496 (-1074) 9218868437227405312 (b % 9223372036854775808) (decide (9223372036854775808 ≤ b)) n false))

set_option maxHeartbeats 8000000 in
set_option maxRecDepth 20000 in
theorem isfloat_ok {w : World} (L : Lays w) (T : Brn w) {b : Int} (h : FOk b) : Calls Tryz.prog 228 #[.int .u64 b] w fun e w' => e = .returned (.bool true) ∧ Below w.heap.size w w' := by
  obtain ⟨b0, b1, bn, h⟩ := h
  have HH := hide h
  clear h
  go_enter Tryz.func228, Tryz.ntmps228
  go_wp2_with fail
  with_reducible refine (class_64 L b (b % 9223372036854775808) b0 b1 rfl).mono ?_
  rintro e w1 ⟨rfl, K1⟩
  have HK := hide K1
  have L1 := hide (L.below K1)
  have T1 := hide (T.below K1)
  clear K1
  rcases HH.out with rfl | h | ⟨h, n, hn⟩
  · rw [show cls 9223372036854775808 4503599627370496 (9221120237041090560 % 9223372036854775808) = 5 from by decide]
    go_wp2
    go_ret
    exact ⟨rfl, HK.out⟩
  · rw [show cls 9223372036854775808 4503599627370496 (b % 9223372036854775808) = 4 from by rw [h]; decide]
    clear h
    go_wp2
    go_ret
    exact ⟨rfl, HK.out⟩
  · obtain ⟨c, hc⟩ : ∃ c, cls 9223372036854775808 4503599627370496 (b % 9223372036854775808) = c := ⟨_, rfl⟩
    rw [hc]
    have c5 : c ≠ 5 := by
      rw [← hc, Ne, cls_nan]; omega
    have c4 : c ≠ 4 := by
      rw [← hc]; unfold cls; intro hx
      rw [if_neg (by omega), if_neg (by omega)] at hx
      split at hx
      · omega
      · split at hx <;> omega
    have HN := hide hn
    have e5 : (c == 5) = false := by simp [c5]
    have e4 : (c == 4) = false := by simp [c4]
    clear hc hn h c4 c5 bn HH
    go_wp2_with fail
    with_reducible refine (int_64 L1.out T1.out b (b % 9223372036854775808) (decide (9223372036854775808 ≤ b)) b0 b1 rfl rfl).mono ?_
    rintro e w2 ⟨va, n2, ok, rfl, hW, hI, K2⟩
    obtain ⟨-, rfl⟩ := HN.out.unique (Int.emod_nonneg _ (by decide)) hI
    obtain ⟨ng2, m2, a2, rfl, ⟨zs2, ⟨ao2, rfl, -⟩, -⟩, -, -⟩ := hW
    clear hI HN
    have KK := hide (below_trans HK.out K2)
    clear K2
    go_wp2
    go_ret
    exact ⟨rfl, KK.out.alloc (by have := KK.out.size; omega) _⟩


set_option maxHeartbeats 8000000 in
set_option maxRecDepth 20000 in
theorem fits_w {w : World} {g : Bool} {m : Value} {a : Int} {k : Nat} (hm : CArg w m a k) (hg : g = true → 0 < a) : Calls Tryz.prog 204 #[nvW g m] w fun e w' => e = .returned (.bool true) ∧ Below w.heap.size w w' := by
  have HM := hide hm
  obtain ⟨zs, ⟨ao, cap, rfl, -⟩, -⟩ := hm
  generalize zs.length = ml at *
  go_enter Tryz.func204, Tryz.ntmps204
  go_wp2_with fail
  have K1 := bel_new w (.cells #[.int .i8 3, .int .u64 0, .bool g, .slice ao ml cap, .int .u64 0, .int .i8 0, .string ⟨#[]⟩, .slice none 0 0] 31)
  with_reducible refine (isnormal_any (HM.out.below K1) hg).mono ?_
  rintro e w2 ⟨rfl, K2⟩
  have KK := hide (below_trans K1 K2)
  clear K1 K2
  go_wp2
  go_ret
  exact ⟨rfl, KK.out⟩

set_option maxHeartbeats 8000000 in
set_option maxRecDepth 20000 in
theorem fits_f {w : World} (L : Lays w) (T : Brn w) {b : Int} (h : FOk b) : Calls Tryz.prog 204 #[nvF b] w fun e w' => e = .returned (.bool true) ∧ Below w.heap.size w w' := by
  go_enter Tryz.func204, Tryz.ntmps204
  go_wp2_with fail
  have K1 := bel_new w (.cells #[.int .i8 4, .int .u64 0, .bool false, .slice none 0 0, .int .u64 b, .int .i8 0, .string ⟨#[]⟩, .slice none 0 0] 31)
  with_reducible refine (isfloat_ok (L.below K1) (T.below K1) h).mono ?_
  rintro e w2 ⟨rfl, K2⟩
  have KK := hide (below_trans K1 K2)
  clear K1 K2
  go_wp2
  go_ret
  exact ⟨rfl, KK.out⟩

set_option maxHeartbeats 8000000 in
set_option maxRecDepth 20000 in
theorem maybe_w0 {w : World} (U : Uss w) {g : Bool} {mo : Option Addr} {ml mc : Nat} {b : Int}
    (h1 : ∀ W, Below w.heap.size w W → Calls Tryz.prog 203 #[.agg #[.int .i8 3, .int .u64 0, .bool g, .slice mo ml mc, .int .u64 b, .int .i8 0, .string ⟨#[]⟩, .slice none 0 0]] W fun e w' => e = .returned (.int .u8 0) ∧ Below W.heap.size W w')
    (h2 : ∀ W, Below w.heap.size w W → Calls Tryz.prog 204 #[.agg #[.int .i8 3, .int .u64 0, .bool g, .slice mo ml mc, .int .u64 b, .int .i8 0, .string ⟨#[]⟩, .slice none 0 0]] W fun e w' => e = .returned (.bool true) ∧ Below W.heap.size W w') :
    Calls Tryz.prog 173 #[.agg #[.int .i8 3, .int .u64 0, .bool g, .slice mo ml mc, .int .u64 b, .int .i8 0, .string ⟨#[]⟩, .slice none 0 0]] w fun e w' => e = .returned (.bool true) ∧ Below w.heap.size w w' := by
  have H1 := hide h1
  have H2 := hide h2
  have HU := hide U
  clear h1 h2 U
  go_enter Tryz.func173, Tryz.ntmps173
  go_wp2_with fail
  have B := hide (bx8_new w (.int .i8 3) (.int .u64 0) (.bool g) (.slice mo ml mc) (.int .u64 b) (.int .i8 0) (.string ⟨#[]⟩) (.slice none 0 0) 31)
  have K0 := hide (bel_new w (.cells #[.int .i8 3, .int .u64 0, .bool g, .slice mo ml mc, .int .u64 b, .int .i8 0, .string ⟨#[]⟩, .slice none 0 0] 31))
  have hs : w.heap.size < (w.alloc (.cells #[.int .i8 3, .int .u64 0, .bool g, .slice mo ml mc, .int .u64 b, .int .i8 0, .string ⟨#[]⟩, .slice none 0 0] 31)).heap.size := by simp
  generalize w.alloc (.cells #[.int .i8 3, .int .u64 0, .bool g, .slice mo ml mc, .int .u64 b, .int .i8 0, .string ⟨#[]⟩, .slice none 0 0] 31) = W at *
  have CC : ∀ u : World, Below W.heap.size W u → u.cell? ⟨w.heap.size, 0, none⟩ = some (.int .i8 3) ∧ u.cell? ⟨w.heap.size, 1, none⟩ = some (.int .u64 0) ∧ u.cell? ⟨w.heap.size, 2, none⟩ = some (.bool g) ∧ u.cell? ⟨w.heap.size, 3, none⟩ = some (.slice mo ml mc) ∧ u.cell? ⟨w.heap.size, 4, none⟩ = some (.int .u64 b) ∧ u.cell? ⟨w.heap.size, 5, none⟩ = some (.int .i8 0) ∧ u.cell? ⟨w.heap.size, 6, none⟩ = some (.string ⟨#[]⟩) ∧ u.cell? ⟨w.heap.size, 7, none⟩ = some (.slice none 0 0) ∧ u.cell? ⟨3, 3, none⟩ = some (.int .u8 2) := fun u hu => by
    obtain ⟨h0, h1, h2, h3, h4, h5, h6, h7⟩ := B.out.below hu hs
    exact ⟨h0, h1, h2, h3, h4, h5, h6, h7, ((HU.out.below K0.out).below hu).at_ 3 (by omega)⟩
  have K : Below W.heap.size W W.drew := (Below.refl _ _).drew
  clear hs
  go_region_held3 (fun u => u.cell? ⟨w.heap.size, 0, none⟩ = some (.int .i8 3) ∧ u.cell? ⟨w.heap.size, 1, none⟩ = some (.int .u64 0) ∧ u.cell? ⟨w.heap.size, 2, none⟩ = some (.bool g) ∧ u.cell? ⟨w.heap.size, 3, none⟩ = some (.slice mo ml mc) ∧ u.cell? ⟨w.heap.size, 4, none⟩ = some (.int .u64 b) ∧ u.cell? ⟨w.heap.size, 5, none⟩ = some (.int .i8 0) ∧ u.cell? ⟨w.heap.size, 6, none⟩ = some (.string ⟨#[]⟩) ∧ u.cell? ⟨w.heap.size, 7, none⟩ = some (.slice none 0 0) ∧ u.cell? ⟨3, 3, none⟩ = some (.int .u8 2)) (first | with_reducible exact CC _ K)
    (first
      | (go_at_call 203; (refine (H1.out _ (K0.out.trans (K.mono K0.out.size))).mono ?_); rintro e w2 ⟨rfl, hb2⟩; replace K := K.trans (hb2.mono K.size))
      | (go_at_call 204; (refine (H2.out _ (K0.out.trans (K.mono K0.out.size))).mono ?_); rintro e w3 ⟨rfl, hb3⟩; replace K := K.trans (hb3.mono K.size)))
  have KZ := hide (K0.out.trans (K.mono K0.out.size))
  clear CC K
  go_wp2
  go_ret
  exact ⟨rfl, KZ.out⟩

set_option maxHeartbeats 8000000 in
set_option maxRecDepth 20000 in
theorem maybe_w1 {w : World} (U : Uss w) {g : Bool} {mo : Option Addr} {ml mc : Nat} {b : Int}
    (h1 : ∀ W, Below w.heap.size w W → Calls Tryz.prog 203 #[.agg #[.int .i8 3, .int .u64 0, .bool g, .slice mo ml mc, .int .u64 b, .int .i8 0, .string ⟨#[]⟩, .slice none 0 0]] W fun e w' => e = .returned (.int .u8 2) ∧ Below W.heap.size W w')
    (h2 : ∀ W, Below w.heap.size w W → Calls Tryz.prog 204 #[.agg #[.int .i8 3, .int .u64 0, .bool g, .slice mo ml mc, .int .u64 b, .int .i8 0, .string ⟨#[]⟩, .slice none 0 0]] W fun e w' => e = .returned (.bool true) ∧ Below W.heap.size W w') :
    Calls Tryz.prog 173 #[.agg #[.int .i8 3, .int .u64 0, .bool g, .slice mo ml mc, .int .u64 b, .int .i8 0, .string ⟨#[]⟩, .slice none 0 0]] w fun e w' => e = .returned (.bool true) ∧ Below w.heap.size w w' := by
  have H1 := hide h1
  have H2 := hide h2
  have HU := hide U
  clear h1 h2 U
  go_enter Tryz.func173, Tryz.ntmps173
  go_wp2_with fail
  have B := hide (bx8_new w (.int .i8 3) (.int .u64 0) (.bool g) (.slice mo ml mc) (.int .u64 b) (.int .i8 0) (.string ⟨#[]⟩) (.slice none 0 0) 31)
  have K0 := hide (bel_new w (.cells #[.int .i8 3, .int .u64 0, .bool g, .slice mo ml mc, .int .u64 b, .int .i8 0, .string ⟨#[]⟩, .slice none 0 0] 31))
  have hs : w.heap.size < (w.alloc (.cells #[.int .i8 3, .int .u64 0, .bool g, .slice mo ml mc, .int .u64 b, .int .i8 0, .string ⟨#[]⟩, .slice none 0 0] 31)).heap.size := by simp
  generalize w.alloc (.cells #[.int .i8 3, .int .u64 0, .bool g, .slice mo ml mc, .int .u64 b, .int .i8 0, .string ⟨#[]⟩, .slice none 0 0] 31) = W at *
  have CC : ∀ u : World, Below W.heap.size W u → u.cell? ⟨w.heap.size, 0, none⟩ = some (.int .i8 3) ∧ u.cell? ⟨w.heap.size, 1, none⟩ = some (.int .u64 0) ∧ u.cell? ⟨w.heap.size, 2, none⟩ = some (.bool g) ∧ u.cell? ⟨w.heap.size, 3, none⟩ = some (.slice mo ml mc) ∧ u.cell? ⟨w.heap.size, 4, none⟩ = some (.int .u64 b) ∧ u.cell? ⟨w.heap.size, 5, none⟩ = some (.int .i8 0) ∧ u.cell? ⟨w.heap.size, 6, none⟩ = some (.string ⟨#[]⟩) ∧ u.cell? ⟨w.heap.size, 7, none⟩ = some (.slice none 0 0) ∧ u.cell? ⟨3, 3, none⟩ = some (.int .u8 2) := fun u hu => by
    obtain ⟨h0, h1, h2, h3, h4, h5, h6, h7⟩ := B.out.below hu hs
    exact ⟨h0, h1, h2, h3, h4, h5, h6, h7, ((HU.out.below K0.out).below hu).at_ 3 (by omega)⟩
  have K : Below W.heap.size W W.drew := (Below.refl _ _).drew
  clear hs
  go_region_held3 (fun u => u.cell? ⟨w.heap.size, 0, none⟩ = some (.int .i8 3) ∧ u.cell? ⟨w.heap.size, 1, none⟩ = some (.int .u64 0) ∧ u.cell? ⟨w.heap.size, 2, none⟩ = some (.bool g) ∧ u.cell? ⟨w.heap.size, 3, none⟩ = some (.slice mo ml mc) ∧ u.cell? ⟨w.heap.size, 4, none⟩ = some (.int .u64 b) ∧ u.cell? ⟨w.heap.size, 5, none⟩ = some (.int .i8 0) ∧ u.cell? ⟨w.heap.size, 6, none⟩ = some (.string ⟨#[]⟩) ∧ u.cell? ⟨w.heap.size, 7, none⟩ = some (.slice none 0 0) ∧ u.cell? ⟨3, 3, none⟩ = some (.int .u8 2)) (first | with_reducible exact CC _ K)
    (first
      | (go_at_call 203; (refine (H1.out _ (K0.out.trans (K.mono K0.out.size))).mono ?_); rintro e w2 ⟨rfl, hb2⟩; replace K := K.trans (hb2.mono K.size))
      | (go_at_call 204; (refine (H2.out _ (K0.out.trans (K.mono K0.out.size))).mono ?_); rintro e w3 ⟨rfl, hb3⟩; replace K := K.trans (hb3.mono K.size)))
  have KZ := hide (K0.out.trans (K.mono K0.out.size))
  clear CC K
  go_wp2
  go_ret
  exact ⟨rfl, KZ.out⟩

set_option maxHeartbeats 8000000 in
set_option maxRecDepth 20000 in
theorem maybe_f {w : World} (U : Uss w) {g : Bool} {mo : Option Addr} {ml mc : Nat} {b : Int}
    (h1 : ∀ W, Below w.heap.size w W → Calls Tryz.prog 203 #[.agg #[.int .i8 4, .int .u64 0, .bool g, .slice mo ml mc, .int .u64 b, .int .i8 0, .string ⟨#[]⟩, .slice none 0 0]] W fun e w' => e = .returned (.int .u8 4) ∧ Below W.heap.size W w')
    (h2 : ∀ W, Below w.heap.size w W → Calls Tryz.prog 204 #[.agg #[.int .i8 4, .int .u64 0, .bool g, .slice mo ml mc, .int .u64 b, .int .i8 0, .string ⟨#[]⟩, .slice none 0 0]] W fun e w' => e = .returned (.bool true) ∧ Below W.heap.size W w') :
    Calls Tryz.prog 173 #[.agg #[.int .i8 4, .int .u64 0, .bool g, .slice mo ml mc, .int .u64 b, .int .i8 0, .string ⟨#[]⟩, .slice none 0 0]] w fun e w' => e = .returned (.bool true) ∧ Below w.heap.size w w' := by
  have H1 := hide h1
  have H2 := hide h2
  have HU := hide U
  clear h1 h2 U
  go_enter Tryz.func173, Tryz.ntmps173
  go_wp2_with fail
  have B := hide (bx8_new w (.int .i8 4) (.int .u64 0) (.bool g) (.slice mo ml mc) (.int .u64 b) (.int .i8 0) (.string ⟨#[]⟩) (.slice none 0 0) 31)
  have K0 := hide (bel_new w (.cells #[.int .i8 4, .int .u64 0, .bool g, .slice mo ml mc, .int .u64 b, .int .i8 0, .string ⟨#[]⟩, .slice none 0 0] 31))
  have hs : w.heap.size < (w.alloc (.cells #[.int .i8 4, .int .u64 0, .bool g, .slice mo ml mc, .int .u64 b, .int .i8 0, .string ⟨#[]⟩, .slice none 0 0] 31)).heap.size := by simp
  generalize w.alloc (.cells #[.int .i8 4, .int .u64 0, .bool g, .slice mo ml mc, .int .u64 b, .int .i8 0, .string ⟨#[]⟩, .slice none 0 0] 31) = W at *
  have CC : ∀ u : World, Below W.heap.size W u → u.cell? ⟨w.heap.size, 0, none⟩ = some (.int .i8 4) ∧ u.cell? ⟨w.heap.size, 1, none⟩ = some (.int .u64 0) ∧ u.cell? ⟨w.heap.size, 2, none⟩ = some (.bool g) ∧ u.cell? ⟨w.heap.size, 3, none⟩ = some (.slice mo ml mc) ∧ u.cell? ⟨w.heap.size, 4, none⟩ = some (.int .u64 b) ∧ u.cell? ⟨w.heap.size, 5, none⟩ = some (.int .i8 0) ∧ u.cell? ⟨w.heap.size, 6, none⟩ = some (.string ⟨#[]⟩) ∧ u.cell? ⟨w.heap.size, 7, none⟩ = some (.slice none 0 0) ∧ u.cell? ⟨3, 4, none⟩ = some (.int .u8 4) := fun u hu => by
    obtain ⟨h0, h1, h2, h3, h4, h5, h6, h7⟩ := B.out.below hu hs
    exact ⟨h0, h1, h2, h3, h4, h5, h6, h7, ((HU.out.below K0.out).below hu).at_ 4 (by omega)⟩
  have K : Below W.heap.size W W.drew := (Below.refl _ _).drew
  clear hs
  go_region_held3 (fun u => u.cell? ⟨w.heap.size, 0, none⟩ = some (.int .i8 4) ∧ u.cell? ⟨w.heap.size, 1, none⟩ = some (.int .u64 0) ∧ u.cell? ⟨w.heap.size, 2, none⟩ = some (.bool g) ∧ u.cell? ⟨w.heap.size, 3, none⟩ = some (.slice mo ml mc) ∧ u.cell? ⟨w.heap.size, 4, none⟩ = some (.int .u64 b) ∧ u.cell? ⟨w.heap.size, 5, none⟩ = some (.int .i8 0) ∧ u.cell? ⟨w.heap.size, 6, none⟩ = some (.string ⟨#[]⟩) ∧ u.cell? ⟨w.heap.size, 7, none⟩ = some (.slice none 0 0) ∧ u.cell? ⟨3, 4, none⟩ = some (.int .u8 4)) (first | with_reducible exact CC _ K)
    (first
      | (go_at_call 203; (refine (H1.out _ (K0.out.trans (K.mono K0.out.size))).mono ?_); rintro e w2 ⟨rfl, hb2⟩; replace K := K.trans (hb2.mono K.size))
      | (go_at_call 204; (refine (H2.out _ (K0.out.trans (K.mono K0.out.size))).mono ?_); rintro e w3 ⟨rfl, hb3⟩; replace K := K.trans (hb3.mono K.size)))
  have KZ := hide (K0.out.trans (K.mono K0.out.size))
  clear CC K
  go_wp2
  go_ret
  exact ⟨rfl, KZ.out⟩

end Go.Proofs.YtjigofmcflmelaaGreatDoor

namespace Go.Proofs.YtjigofmcflmelaaGreatDoor
open Go.RowKit
set_option linter.unusedVariables false

/-- the value is the number z -/
def NRd (w : World) (v : Value) (k : Nat) : NZ → Prop
  | .w n => ∃ g m a, v = nvW g m ∧ CArg w m a k ∧ n = wn g a ∧ (g = true → 0 < a)
  | .f b => v = nvF b ∧ FOk b
theorem NRd.below {w w' : World} {v : Value} {k : Nat} {z : NZ} (h : NRd w v k z) (hb : Below w.heap.size w w') : NRd w' v k z := by
  cases z with
  | w n =>
    obtain ⟨g, m, a, h1, h2, h3⟩ := h
    exact ⟨g, m, a, h1, h2.below hb, h3⟩
  | f b => exact h
/-- what a number is behind the interface -/
def AmtIs (w : World) (u : Value) (k : Nat) : NZ → Prop
  | .w n => ∃ g m a, u = .iface 108 (.agg #[.bool g, m]) ∧ CArg w m a k ∧ n = wn g a ∧ (g = true → 0 < a)
  | .f b => u = .iface 109 (.int .u64 b) ∧ FOk b
theorem AmtIs.below {w w' : World} {v : Value} {k : Nat} {z : NZ} (h : AmtIs w v k z) (hb : Below w.heap.size w w') : AmtIs w' v k z := by
  cases z with
  | w n =>
    obtain ⟨g, m, a, h1, h2, h3⟩ := h
    exact ⟨g, m, a, h1, h2.below hb, h3⟩
  | f b => exact h

theorem ncheck_any {w : World} (L : Lays w) (T : Brn w) (U : Uss w) {v : Value} {k : Nat} {z : NZ} (h : NRd w v k z) : Calls Tryz.prog 100 #[v] w fun e' w' => e' = .returned .nilIface ∧ Below w.heap.size w w' := by
  cases z with
  | w n =>
    obtain ⟨g, m, a, rfl, hm, rfl, hg⟩ := h
    have hm' := hm
    obtain ⟨zs, ⟨ao, cap, rfl, -⟩, -, hv, -⟩ := hm
    refine check_leaf (by decide) (by decide) (by decide) fun W hW => ?_
    by_cases hz : zs.length = 0
    · have : zs = [] := List.length_eq_zero_iff.1 hz
      subst this
      have ha : a = 0 := by rw [← hv]; rfl
      have hgf : g = false := by cases g; rfl; have := hg rfl; omega
      subst hgf
      exact maybe_w0 (U.below hW) (fun W' hW' => filled_w0) (fun W' hW' => fits_w ((hm'.below hW).below hW') hg)
    · exact maybe_w1 (U.below hW) (fun W' hW' => filled_w1 (by omega)) (fun W' hW' => fits_w ((hm'.below hW).below hW') hg)
  | f b =>
    obtain ⟨rfl, hb⟩ := h
    exact check_leaf (by decide) (by decide) (by decide) fun W hW => maybe_f (U.below hW) (fun W' hW' => filled_f hb.2.2.1) (fun W' hW' => fits_f ((L.below hW).below hW') ((T.below hW).below hW') hb)

set_option maxHeartbeats 8000000 in
set_option maxRecDepth 20000 in
theorem amount_any {w : World} (L : Lays w) (T : Brn w) (U : Uss w) {v : Value} {k : Nat} {z : NZ} (h : NRd w v k z) : Calls Tryz.prog 30 #[v] w fun e' w' => ∃ u, e' = .returned u ∧ AmtIs w' u k z ∧ Below w.heap.size w w' := by
  have HR := hide h
  have HC := hide (fun (W : World) (hW : Below w.heap.size w W) => ncheck_any (L.below hW) (T.below hW) (U.below hW) (h.below hW))
  clear L T U
  cases z with
  | w n =>
    obtain ⟨g, m, a, rfl, ⟨zs, ⟨ao, cap, rfl, -⟩, -⟩, -⟩ := h
    generalize zs.length = ml at *
    go_enter Tryz.func30, Tryz.ntmps30
    go_wp2_with fail
    have K1 := bel_new w (.cells #[.int .i8 3, .int .u64 0, .bool g, .slice ao ml cap, .int .u64 0, .int .i8 0, .string ⟨#[]⟩, .slice none 0 0] 31)
    have B1 := bx8_new w (.int .i8 3) (.int .u64 0) (.bool g) (.slice ao ml cap) (.int .u64 0) (.int .i8 0) (.string ⟨#[]⟩) (.slice none 0 0) 31
    with_reducible refine (HC.out _ K1).mono ?_
    rintro e w2 ⟨rfl, K2⟩
    obtain ⟨z0, z1, z2, z3, z4, z5, z6, z7⟩ := B1.below K2 B1.lt
    have KK := hide (below_trans K1 K2)
    clear K1 K2 B1
    go_wp2
    go_ret
    obtain ⟨g', m', a', e', h1, h2⟩ := HR.out.below KK.out
    simp only [nvW, Value.agg.injEq, Array.mk.injEq, List.cons.injEq, and_true, true_and, Value.bool.injEq] at e'
    obtain ⟨rfl, rfl⟩ := e'
    exact ⟨_, rfl, ⟨_, _, _, rfl, h1, h2⟩, KK.out⟩
  | f b =>
    obtain ⟨rfl, hb⟩ := h
    have HB := hide hb
    clear hb
    go_enter Tryz.func30, Tryz.ntmps30
    go_wp2_with fail
    have K1 := bel_new w (.cells #[.int .i8 4, .int .u64 0, .bool false, .slice none 0 0, .int .u64 b, .int .i8 0, .string ⟨#[]⟩, .slice none 0 0] 31)
    have B1 := bx8_new w (.int .i8 4) (.int .u64 0) (.bool false) (.slice none 0 0) (.int .u64 b) (.int .i8 0) (.string ⟨#[]⟩) (.slice none 0 0) 31
    with_reducible refine (HC.out _ K1).mono ?_
    rintro e w2 ⟨rfl, K2⟩
    obtain ⟨z0, z1, z2, z3, z4, z5, z6, z7⟩ := B1.below K2 B1.lt
    have KK := hide (below_trans K1 K2)
    clear K1 K2 B1
    go_wp2
    go_ret
    exact ⟨_, rfl, ⟨rfl, HB.out⟩, KK.out⟩

end Go.Proofs.YtjigofmcflmelaaGreatDoor

namespace Go.Proofs.YtjigofmcflmelaaGreatDoor
open Go.RowKit
set_option linter.unusedVariables false

theorem cells8 {u : World} {b : Nat} {a0 a1 a2 a3 a4 a5 a6 a7 : Value} {t : TypeId} (h : u.heap[b]? = some (.cells #[a0, a1, a2, a3, a4, a5, a6, a7] t (0, 0))) :
    u.cell? ⟨b, 0, none⟩ = some a0 ∧ u.cell? ⟨b, 1, none⟩ = some a1 ∧ u.cell? ⟨b, 2, none⟩ = some a2 ∧ u.cell? ⟨b, 3, none⟩ = some a3 ∧ u.cell? ⟨b, 4, none⟩ = some a4 ∧ u.cell? ⟨b, 5, none⟩ = some a5 ∧ u.cell? ⟨b, 6, none⟩ = some a6 ∧ u.cell? ⟨b, 7, none⟩ = some a7 ∧
    u.frozen? ⟨b, 0, none⟩ = false ∧ u.frozen? ⟨b, 1, none⟩ = false ∧ u.frozen? ⟨b, 2, none⟩ = false ∧ u.frozen? ⟨b, 3, none⟩ = false ∧ u.frozen? ⟨b, 4, none⟩ = false ∧ u.frozen? ⟨b, 5, none⟩ = false ∧ u.frozen? ⟨b, 6, none⟩ = false ∧ u.frozen? ⟨b, 7, none⟩ = false := by
  refine ⟨?_, ?_, ?_, ?_, ?_, ?_, ?_, ?_, ?_, ?_, ?_, ?_, ?_, ?_, ?_, ?_⟩ <;> simp [World.cell?, World.frozen?, h]
theorem set8_below {B b : Nat} {w w4 : World} {v0 v1 v2 v3 v4 v5 v6 v7 : Value} (h : Below B w w4) (hb : B ≤ b) : Below B w ((((((((w4.setCell ⟨b, 0, none⟩ v0).setCell ⟨b, 1, none⟩ v1).setCell ⟨b, 2, none⟩ v2).setCell ⟨b, 3, none⟩ v3).setCell ⟨b, 4, none⟩ v4).setCell ⟨b, 5, none⟩ v5).setCell ⟨b, 6, none⟩ v6).setCell ⟨b, 7, none⟩ v7) :=
  (((((((h.setCell (p := ⟨b, 0, none⟩) hb v0).setCell (p := ⟨b, 1, none⟩) hb v1).setCell (p := ⟨b, 2, none⟩) hb v2).setCell (p := ⟨b, 3, none⟩) hb v3).setCell (p := ⟨b, 4, none⟩) hb v4).setCell (p := ⟨b, 5, none⟩) hb v5).setCell (p := ⟨b, 6, none⟩) hb v6).setCell (p := ⟨b, 7, none⟩) hb v7
theorem Num.off {B b o : Nat} {w : World} {v u : Value} {n : Int} {k : Nat} (h : Num B w v n k) (hb : b < B) : Num B (w.setCell ⟨b, o, none⟩ u) v n k := by
  obtain ⟨zs, ⟨ao, rfl, hl, hr⟩, hc⟩ := h
  refine ⟨zs, ⟨ao, rfl, hl, fun hp => ?_⟩, hc⟩
  obtain ⟨g, rest, h1, h2, h3⟩ := hr hp
  exact ⟨g, rest, h1, h2, (Below.heap_setCell _ _ _ _ (show g ≠ b by omega)).trans h3⟩
theorem WNum.off {B b o : Nat} {w : World} {v u : Value} {n : Int} {k : Nat} (h : WNum B w v n k) (hb : b < B) : WNum B (w.setCell ⟨b, o, none⟩ u) v n k := by
  obtain ⟨g, m, a, rfl, hm, h2⟩ := h
  exact ⟨g, m, a, rfl, hm.off hb, h2⟩
theorem WNum.far {B : Nat} {w w' : World} {v : Value} {n : Int} {k : Nat} (h : WNum B w v n k) (hb : Below w.heap.size w w') : WNum B w' v n k := by
  obtain ⟨g, m, a, rfl, hm, h2⟩ := h
  exact ⟨g, m, a, rfl, hm.below hb, h2⟩
/-- what Bits tells of a number -/
def BitsIs (z : NZ) (y : Int) (ok : Bool) : Prop :=
  match z with
  | .w n => ∃ y' ok', FromP 9223372036854775808 4503599627370496 (-1074) 9218868437227405312 n y' ok' ∧ ((ok' = true ∧ y = y' ∧ ok = true) ∨ (ok' = false ∧ y = 0 ∧ ok = false))
  | .f b => y = b ∧ ok = true
def NarIs (z : NZ) (wd y : Int) (ok : Bool) : Prop :=
  ∃ bb bk, BitsIs z bb bk ∧ ((bk = false ∧ wd = 0 ∧ y = 0 ∧ ok = false) ∨ (bk = true ∧ ok = true ∧ ∃ y16 k16, ToP 32768 1024 (-24) 31744 4503599627370496 (-1074) 9218868437227405312 (bb % 9223372036854775808) (decide (9223372036854775808 ≤ bb)) y16 k16 ∧
    ((k16 = true ∧ wd = 16 ∧ y = y16) ∨ (k16 = false ∧ ∃ y32 k32, ToP 2147483648 8388608 (-149) 2139095040 4503599627370496 (-1074) 9218868437227405312 (bb % 9223372036854775808) (decide (9223372036854775808 ≤ bb)) y32 k32 ∧ ((k32 = true ∧ wd = 32 ∧ y = y32) ∨ (k32 = false ∧ wd = 64 ∧ y = bb))))))

set_option maxHeartbeats 8000000 in
set_option maxRecDepth 20000 in
theorem ipattern_any {w : World} (L : Lays w) (T : Brn w) {g : Bool} {m : Value} {a : Int} {k : Nat} (hm : CArg w m a k) (hk : k ≤ 1048577) : Calls Tryz.prog 300 #[.agg #[.bool g, m]] w fun e' w' => ∃ y ok, e' = .returned (.tuple #[.int .u64 y, .bool ok]) ∧ 0 ≤ y ∧ y < 18446744073709551616 ∧ BitsIs (.w (wn g a)) y ok ∧ Below w.heap.size w w' := by
  have HM := hide hm
  have HL := hide L
  have HT := hide T
  obtain ⟨zs, ⟨ao, cap, rfl, -⟩, -⟩ := hm
  generalize zs.length = ml at *
  clear L T
  go_enter Tryz.func300, Tryz.ntmps300
  go_wp2_with fail
  have K1 := bel_new w (.cells #[.bool g, .slice ao ml cap] 108)
  have hA : WArg (w.alloc (.cells #[.bool g, .slice ao ml cap] 108)) (.agg #[.bool g, .slice ao ml cap]) (wn g a) k := ⟨g, _, a, rfl, (HM.out.below K1).arg, rfl⟩
  with_reducible refine (fromi_64 (HL.out.below K1) (HT.out.below K1) hA hk).mono ?_
  rintro e w2 ⟨y, ok, rfl, y0, y1, hP, K2⟩
  have KK := hide (below_trans K1 K2)
  have HP := hide hP
  clear K1 K2 hP
  cases ok
  · go_wp2
    go_ret2
    exact ⟨0, false, rfl, by decide, by decide, ⟨_, _, HP.out, .inr ⟨rfl, rfl, rfl⟩⟩, KK.out⟩
  · go_wp2
    go_ret2
    exact ⟨y, true, rfl, y0, y1, ⟨_, _, HP.out, .inl ⟨rfl, rfl, rfl⟩⟩, KK.out⟩

set_option maxHeartbeats 8000000 in
set_option maxRecDepth 20000 in
theorem fpattern_any {w : World} {b : Int} : Calls Tryz.prog 302 #[.int .u64 b] w fun e' w' => e' = .returned (.tuple #[.int .u64 b, .bool true]) ∧ w' = w := by
  go_enter Tryz.func302, Tryz.ntmps302
  go_wp2
  go_ret2
  exact ⟨rfl, rfl⟩

set_option maxHeartbeats 8000000 in
set_option maxRecDepth 20000 in
theorem nbits_any {w : World} (L : Lays w) (T : Brn w) (U : Uss w) {v : Value} {k : Nat} {z : NZ} (h : NRd w v k z) (hk : k ≤ 1048577) : Calls Tryz.prog 8 #[v] w fun e' w' => ∃ y ok, e' = .returned (.tuple #[.int .u64 y, .bool ok]) ∧ 0 ≤ y ∧ y < 18446744073709551616 ∧ BitsIs z y ok ∧ Below w.heap.size w w' := by
  have HA := hide (fun (W : World) (hW : Below w.heap.size w W) => amount_any (L.below hW) (T.below hW) (U.below hW) (h.below hW))
  have HL := hide L
  have HT := hide T
  cases z with
  | w n =>
    obtain ⟨g, m, a, rfl, ⟨zs, ⟨ao, cap, rfl, -⟩, -⟩, -⟩ := h
    generalize zs.length = ml at *
    clear L T U
    go_enter Tryz.func8, Tryz.ntmps8
    go_wp2_with fail
    have K1 := bel_new w (.cells #[.int .i8 3, .int .u64 0, .bool g, .slice ao ml cap, .int .u64 0, .int .i8 0, .string ⟨#[]⟩, .slice none 0 0] 31)
    with_reducible refine (HA.out _ K1).mono ?_
    rintro e w2 ⟨u, rfl, ⟨g', m', a', rfl, hc, rfl, -⟩, K2⟩
    have KK := hide (below_trans K1 K2)
    clear K1 K2
    go_wp2_with fail
    with_reducible refine (ipattern_any (HL.out.below KK.out) (HT.out.below KK.out) hc hk).mono ?_
    rintro e w3 ⟨y, ok, rfl, y0, y1, hP, K3⟩
    have KZ := hide (below_trans KK.out K3)
    have HP := hide hP
    clear K3 hP
    go_wp2
    go_ret2
    exact ⟨y, ok, rfl, y0, y1, HP.out, KZ.out⟩
  | f b =>
    obtain ⟨rfl, hb⟩ := h
    have HB := hide hb
    clear L T U hb
    go_enter Tryz.func8, Tryz.ntmps8
    go_wp2_with fail
    have K1 := bel_new w (.cells #[.int .i8 4, .int .u64 0, .bool false, .slice none 0 0, .int .u64 b, .int .i8 0, .string ⟨#[]⟩, .slice none 0 0] 31)
    with_reducible refine (HA.out _ K1).mono ?_
    rintro e w2 ⟨u, rfl, ⟨rfl, -⟩, K2⟩
    have KK := hide (below_trans K1 K2)
    clear K1 K2
    go_wp2_with fail
    with_reducible refine fpattern_any.mono ?_
    rintro e w3 ⟨rfl, rfl⟩
    go_wp2
    go_ret2
    exact ⟨b, true, rfl, HB.out.1, HB.out.2.1, ⟨rfl, rfl⟩, KK.out⟩

set_option maxHeartbeats 8000000 in
set_option maxRecDepth 20000 in
theorem narrow_any {w : World} (L : Lays w) (T : Brn w) (U : Uss w) {v : Value} {k : Nat} {z : NZ} (h : NRd w v k z) (hk : k ≤ 1048577) : Calls Tryz.prog 10 #[v] w fun e' w' => ∃ wd y ok, e' = .returned (.tuple #[.int .i64 wd, .int .u64 y, .bool ok]) ∧ 0 ≤ y ∧ y < 18446744073709551616 ∧ NarIs z wd y ok ∧ Below w.heap.size w w' := by
  have HA := hide (fun (W : World) (hW : Below w.heap.size w W) => nbits_any (L.below hW) (T.below hW) (U.below hW) (h.below hW) hk)
  have HL := hide L
  have HT := hide T
  obtain ⟨a0, a1, a2, a3, a4, a5, a6, a7, rfl⟩ : ∃ (k3 : Int) (n1 : Int) (g : Bool) (mo : Option Addr) (ml mc : Nat) (bt : Int) (r : Unit), v = .agg #[.int .i8 k3, .int .u64 n1, .bool g, .slice mo ml mc, .int .u64 bt, .int .i8 0, .string ⟨#[]⟩, .slice none 0 0] := by
    cases z with
    | w n =>
      obtain ⟨g, m, a, rfl, ⟨zs, ⟨ao, cap, rfl, -⟩, -⟩, -⟩ := h
      exact ⟨_, _, _, _, _, _, _, (), rfl⟩
    | f b =>
      obtain ⟨rfl, hb⟩ := h
      exact ⟨_, _, _, _, _, _, _, (), rfl⟩
  clear L T U h
  go_enter Tryz.func10, Tryz.ntmps10
  go_wp2_with fail
  have K1 := bel_new w (.cells #[.int .i8 a0, .int .u64 a1, .bool a2, .slice a3 a4 a5, .int .u64 a6, .int .i8 0, .string ⟨#[]⟩, .slice none 0 0] 31)
  with_reducible refine (HA.out _ K1).mono ?_
  rintro e w2 ⟨bb, bk, rfl, b0, b1, hB, K2⟩
  have KK := hide (below_trans K1 K2)
  have HB := hide hB
  clear K1 K2 hB HA
  cases bk
  · go_wp2
    go_ret3
    exact ⟨0, 0, false, rfl, by decide, by decide, ⟨_, _, HB.out, .inl ⟨rfl, rfl, rfl, rfl⟩⟩, KK.out⟩
  · go_wp2_with fail
    with_reducible refine (to_16_64 (HL.out.below KK.out) (HT.out.below KK.out) bb (bb % 9223372036854775808) (decide (9223372036854775808 ≤ bb)) b0 b1 rfl rfl).mono ?_
    rintro e w3 ⟨y16, k16, rfl, p0, p1, hT1, K3⟩
    have KZ := hide (below_trans KK.out K3)
    have HT1 := hide hT1
    clear K3 hT1
    cases k16
    · go_wp2_with fail
      with_reducible refine (to_32_64 (HL.out.below KZ.out) (HT.out.below KZ.out) bb (bb % 9223372036854775808) (decide (9223372036854775808 ≤ bb)) b0 b1 rfl rfl).mono ?_
      rintro e w4 ⟨y32, k32, rfl, q0, q1, hT2, K4⟩
      have KY := hide (below_trans KZ.out K4)
      have HT2 := hide hT2
      clear K4 hT2
      cases k32
      · go_wp2
        go_ret3
        exact ⟨64, bb, true, rfl, b0, b1, ⟨_, _, HB.out, .inr ⟨rfl, rfl, _, _, HT1.out, .inr ⟨rfl, _, _, HT2.out, .inr ⟨rfl, rfl, rfl⟩⟩⟩⟩, KY.out⟩
      · have hw : IntKind.u64.wrap y32 = y32 := by simp only [IntKind.wrap, IntKind.signed, IntKind.bits]; simp; omega
        go_wp2
        go_ret3
        exact ⟨32, y32, true, rfl, q0, by omega, ⟨_, _, HB.out, .inr ⟨rfl, rfl, _, _, HT1.out, .inr ⟨rfl, _, _, HT2.out, .inl ⟨rfl, rfl, rfl⟩⟩⟩⟩, KY.out⟩
    · have hw : IntKind.u64.wrap y16 = y16 := by simp only [IntKind.wrap, IntKind.signed, IntKind.bits]; simp; omega
      go_wp2
      go_ret3
      exact ⟨16, y16, true, rfl, p0, by omega, ⟨_, _, HB.out, .inr ⟨rfl, rfl, _, _, HT1.out, .inl ⟨rfl, rfl, rfl⟩⟩⟩, KZ.out⟩

theorem fok_of {s : Int} {ng : Bool} {Fa La Ia lima Sa n b : Int} {fra : Nat} {ok : Bool} (V : Wth Sa Fa La Ia lima fra) (h1 : fra ≤ 52) (h2 : -1074 ≤ La) (h3 : lima ≤ 1024) (s0 : 0 ≤ s) (hI : IntIs Fa La Ia s ng n false) (hT : ToP 9223372036854775808 4503599627370496 (-1074) 9218868437227405312 Fa La Ia s ng b ok) : FOk b := by
  obtain ⟨-, ⟨a, rfl⟩ | ⟨a, rfl⟩ | ⟨a, q, q0, q1, rfl, hu⟩⟩ := to_wide wth64 V h1 h2 h3 s0 hT
  · exact ⟨by decide, by decide, by decide, .inl (by decide)⟩
  · cases ng
    · exact ⟨by decide, by decide, by decide, .inr (.inl (by decide))⟩
    · exact ⟨by decide, by decide, by decide, .inr (.inl (by decide))⟩
  · obtain ⟨e1, e2, e3, e4⟩ := top_mod (S := 9223372036854775808) (s := q) (ng := ng) q0 (by omega)
    obtain ⟨sp, m, E, hP, hE, -⟩ := frac_u V.f0 V.l0 s0 a hI
    have qp : 0 < q := by
      rcases Int.lt_or_eq_of_le q0 with c | c
      · exact c
      · exfalso
        have h5 := hu (-1074) (Int.le_refl _)
        rw [← c, um_zero (by decide)] at h5
        have := um_pos V.f0 h2 sp
        omega
    have ex : ∃ a m E k, PartIs 4503599627370496 (-1074) 9218868437227405312 q ng a m E k := by
      rcases hT with ⟨a', _⟩ | ⟨a', _⟩ | ⟨a', m', E', r', a1', n', f', k', hP', hN', e', hQ', _⟩
      · omega
      · omega
      · have : r' = q := by
          have r0 := hN'.1
          have r1 := hN'.2.1
          cases ng <;> simp [b2i] at e' <;> omega
        subst this
        exact ⟨_, _, _, _, hQ'⟩
    have hmv := int_move wth64 V h2 s0 a q0 q1 (hu (-1074) (Int.le_refl _)) hI ex
    refine ⟨e3, by omega, ?_, .inr (.inr ⟨by rw [e1]; exact q1, n, by rw [e1, e2]; exact hmv⟩)⟩
    have := b2i_or ng
    rcases this with h | h <;> rw [h] <;> omega
theorem wnum_nrd {B : Nat} {w : World} {va : Value} {n : Int} {k : Nat} (h : WNum B w va n k) : ∃ g ao l cap, va = .agg #[.bool g, .slice ao l cap] ∧ NRd w (nvW g (.slice ao l cap)) k (.w n) := by
  obtain ⟨g, m, a, rfl, hm, rfl, hg⟩ := h
  have hm' := hm
  obtain ⟨zs, ⟨ao, rfl, -⟩, -⟩ := hm
  exact ⟨g, ao, _, _, rfl, g, _, a, rfl, hm'.carg, rfl, hg⟩

set_option maxHeartbeats 8000000 in
set_option maxRecDepth 20000 in
theorem nof_16 {w : World} (L : Lays w) (T : Brn w) (x : Int) (x0 : 0 ≤ x) (x1 : x < 65536) : Calls Tryz.prog 22 #[.int .u16 x] w fun e' w' => ∃ v z, e' = .returned v ∧ NRd w' v 100 z ∧ OfIs 9223372036854775808 4503599627370496 (-1074) 9218868437227405312 1024 (-24) 31744 (x % 32768) (decide (32768 ≤ x)) z ∧ Below w.heap.size w w' := by
  have HL := hide L
  have HT := hide T
  clear L T
  go_enter Tryz.func22, Tryz.ntmps22
  go_upto_region 1 with fail
  have K1 := bel_new w (.cells #[.int .i8 0, .int .u64 0, .bool false, .slice none 0 0, .int .u64 0, .int .i8 0, .string ⟨#[]⟩, .slice none 0 0] 31)
  have G1 : Hid (∀ u, Below (w.alloc (.cells #[.int .i8 0, .int .u64 0, .bool false, .slice none 0 0, .int .u64 0, .int .i8 0, .string ⟨#[]⟩, .slice none 0 0] 31)).heap.size (w.alloc (.cells #[.int .i8 0, .int .u64 0, .bool false, .slice none 0 0, .int .u64 0, .int .i8 0, .string ⟨#[]⟩, .slice none 0 0] 31)) u → u.heap[w.heap.size]? = some (.cells #[.int .i8 0, .int .u64 0, .bool false, .slice none 0 0, .int .u64 0, .int .i8 0, .string ⟨#[]⟩, .slice none 0 0] 31 (0, 0))) := hide fun u hu => (hu.block _ (by simp)).trans (World.alloc_heap_new w _)
  have hs1 : w.heap.size < (w.alloc (.cells #[.int .i8 0, .int .u64 0, .bool false, .slice none 0 0, .int .u64 0, .int .i8 0, .string ⟨#[]⟩, .slice none 0 0] 31)).heap.size := by simp
  generalize w.alloc (.cells #[.int .i8 0, .int .u64 0, .bool false, .slice none 0 0, .int .u64 0, .int .i8 0, .string ⟨#[]⟩, .slice none 0 0] 31) = w1 at *
  have HK1 := hide K1
  clear K1
  go_wp2_with fail
  with_reducible refine (int_16 (HL.out.below HK1.out) (HT.out.below HK1.out) x (x % 32768) (decide (32768 ≤ x)) x0 x1 rfl rfl).mono ?_
  rintro e w2 ⟨va, n, ok, rfl, hW, hI, K2⟩
  obtain ⟨g, ao, ml, mc, rfl, -⟩ := wnum_nrd hW
  have HN := hide hW
  have HI := hide hI
  have HK2 := hide K2
  clear hI K2 hW
  cases ok
  · have KK := hide (below_trans HK1.out HK2.out)
    have K3 := bel_new w2 (.cells #[.bool g, .slice ao ml mc] 28)
    have HK3 := hide (below_trans HK2.out K3)
    have HK03 := hide (below_trans KK.out K3)
    clear K3
    go_upto_region 4 with fail
    generalize w2.alloc (.cells #[.bool g, .slice ao ml mc] 28) = w3 at *
    go_wp2_with fail
    with_reducible refine (to_64_16 (HL.out.below HK03.out) (HT.out.below HK03.out) x (x % 32768) (decide (32768 ≤ x)) x0 x1 rfl rfl).mono ?_
    rintro e w4 ⟨y, ok, rfl, y0, y1, hT, K4⟩
    have hg := G1.out w4 (below_trans HK3.out K4)
    have HT4 := hide hT
    have HK4 := hide (below_trans HK03.out K4)
    clear hT K4
    obtain ⟨c0, c1, c2, c3, c4, c5, c6, c7, f0, f1, f2, f3, f4, f5, f6, f7⟩ := cells8 hg
    have HG := hide hg
    clear hg
    go_wp2
    refine bodyPost_ret (v := nvF y) ?_ rfl ?_
    · rw [results_cellN rfl]
      go_simp
    · exact ⟨_, .f y, rfl, ⟨rfl, fok_of wth16 (by decide) (by decide) (by decide) (Int.emod_nonneg _ (by decide)) HI.out HT4.out⟩, .inr ⟨_, _, _, HI.out, HT4.out, rfl⟩, set8_below HK4.out (Nat.le_refl _)⟩
  · have KK := hide (below_trans HK1.out HK2.out)
    have K3 := bel_new w2 (.cells #[.bool g, .slice ao ml mc] 28)
    have C2 := cell2_new w2 (.bool g) (.slice ao ml mc) 28
    have HK3 := hide (below_trans HK2.out K3)
    have HK03 := hide (below_trans KK.out K3)
    have HN3 := hide (HN.out.far K3)
    clear K3
    go_upto_region 3 with fail
    generalize w2.alloc (.cells #[.bool g, .slice ao ml mc] 28) = w3 at *
    have hg := G1.out w3 HK3.out
    obtain ⟨c0, c1, c2, c3, c4, c5, c6, c7, f0, f1, f2, f3, f4, f5, f6, f7⟩ := cells8 hg
    have d0 := C2.c0
    have d1 := C2.c1
    clear hg
    go_wp2
    refine bodyPost_ret (v := nvW g (.slice ao ml mc)) ?_ rfl ?_
    · rw [results_cellN rfl]
      go_simp
    · obtain ⟨g', ao', ml', mc', e', hN⟩ := wnum_nrd ((((((((HN3.out.off (o := 0) (u := .int .i8 3) hs1).off (o := 1) (u := .int .u64 0) hs1).off (o := 2) (u := .bool g) hs1).off (o := 3) (u := .slice ao ml mc) hs1).off (o := 4) (u := .int .u64 0) hs1).off (o := 5) (u := .int .i8 0) hs1).off (o := 6) (u := .string ⟨#[]⟩) hs1).off (o := 7) (u := .slice none 0 0) hs1)
      simp only [Value.agg.injEq, Array.mk.injEq, List.cons.injEq, and_true, Value.bool.injEq] at e'
      obtain ⟨rfl, e2⟩ := e'
      rw [← e2] at hN
      exact ⟨_, .w n, rfl, hN, .inl ⟨n, HI.out, rfl⟩, set8_below HK03.out (Nat.le_refl _)⟩

set_option maxHeartbeats 8000000 in
set_option maxRecDepth 20000 in
theorem nof_32 {w : World} (L : Lays w) (T : Brn w) (x : Int) (x0 : 0 ≤ x) (x1 : x < 4294967296) : Calls Tryz.prog 21 #[.int .u32 x] w fun e' w' => ∃ v z, e' = .returned v ∧ NRd w' v 100 z ∧ OfIs 9223372036854775808 4503599627370496 (-1074) 9218868437227405312 8388608 (-149) 2139095040 (x % 2147483648) (decide (2147483648 ≤ x)) z ∧ Below w.heap.size w w' := by
  have HL := hide L
  have HT := hide T
  clear L T
  go_enter Tryz.func21, Tryz.ntmps21
  go_upto_region 1 with fail
  have K1 := bel_new w (.cells #[.int .i8 0, .int .u64 0, .bool false, .slice none 0 0, .int .u64 0, .int .i8 0, .string ⟨#[]⟩, .slice none 0 0] 31)
  have G1 : Hid (∀ u, Below (w.alloc (.cells #[.int .i8 0, .int .u64 0, .bool false, .slice none 0 0, .int .u64 0, .int .i8 0, .string ⟨#[]⟩, .slice none 0 0] 31)).heap.size (w.alloc (.cells #[.int .i8 0, .int .u64 0, .bool false, .slice none 0 0, .int .u64 0, .int .i8 0, .string ⟨#[]⟩, .slice none 0 0] 31)) u → u.heap[w.heap.size]? = some (.cells #[.int .i8 0, .int .u64 0, .bool false, .slice none 0 0, .int .u64 0, .int .i8 0, .string ⟨#[]⟩, .slice none 0 0] 31 (0, 0))) := hide fun u hu => (hu.block _ (by simp)).trans (World.alloc_heap_new w _)
  have hs1 : w.heap.size < (w.alloc (.cells #[.int .i8 0, .int .u64 0, .bool false, .slice none 0 0, .int .u64 0, .int .i8 0, .string ⟨#[]⟩, .slice none 0 0] 31)).heap.size := by simp
  generalize w.alloc (.cells #[.int .i8 0, .int .u64 0, .bool false, .slice none 0 0, .int .u64 0, .int .i8 0, .string ⟨#[]⟩, .slice none 0 0] 31) = w1 at *
  have HK1 := hide K1
  clear K1
  go_wp2_with fail
  with_reducible refine (int_32 (HL.out.below HK1.out) (HT.out.below HK1.out) x (x % 2147483648) (decide (2147483648 ≤ x)) x0 x1 rfl rfl).mono ?_
  rintro e w2 ⟨va, n, ok, rfl, hW, hI, K2⟩
  obtain ⟨g, ao, ml, mc, rfl, -⟩ := wnum_nrd hW
  have HN := hide hW
  have HI := hide hI
  have HK2 := hide K2
  clear hI K2 hW
  cases ok
  · have KK := hide (below_trans HK1.out HK2.out)
    have K3 := bel_new w2 (.cells #[.bool g, .slice ao ml mc] 28)
    have HK3 := hide (below_trans HK2.out K3)
    have HK03 := hide (below_trans KK.out K3)
    clear K3
    go_upto_region 4 with fail
    generalize w2.alloc (.cells #[.bool g, .slice ao ml mc] 28) = w3 at *
    go_wp2_with fail
    with_reducible refine (to_64_32 (HL.out.below HK03.out) (HT.out.below HK03.out) x (x % 2147483648) (decide (2147483648 ≤ x)) x0 x1 rfl rfl).mono ?_
    rintro e w4 ⟨y, ok, rfl, y0, y1, hT, K4⟩
    have hg := G1.out w4 (below_trans HK3.out K4)
    have HT4 := hide hT
    have HK4 := hide (below_trans HK03.out K4)
    clear hT K4
    obtain ⟨c0, c1, c2, c3, c4, c5, c6, c7, f0, f1, f2, f3, f4, f5, f6, f7⟩ := cells8 hg
    have HG := hide hg
    clear hg
    go_wp2
    refine bodyPost_ret (v := nvF y) ?_ rfl ?_
    · rw [results_cellN rfl]
      go_simp
    · exact ⟨_, .f y, rfl, ⟨rfl, fok_of wth32 (by decide) (by decide) (by decide) (Int.emod_nonneg _ (by decide)) HI.out HT4.out⟩, .inr ⟨_, _, _, HI.out, HT4.out, rfl⟩, set8_below HK4.out (Nat.le_refl _)⟩
  · have KK := hide (below_trans HK1.out HK2.out)
    have K3 := bel_new w2 (.cells #[.bool g, .slice ao ml mc] 28)
    have C2 := cell2_new w2 (.bool g) (.slice ao ml mc) 28
    have HK3 := hide (below_trans HK2.out K3)
    have HK03 := hide (below_trans KK.out K3)
    have HN3 := hide (HN.out.far K3)
    clear K3
    go_upto_region 3 with fail
    generalize w2.alloc (.cells #[.bool g, .slice ao ml mc] 28) = w3 at *
    have hg := G1.out w3 HK3.out
    obtain ⟨c0, c1, c2, c3, c4, c5, c6, c7, f0, f1, f2, f3, f4, f5, f6, f7⟩ := cells8 hg
    have d0 := C2.c0
    have d1 := C2.c1
    clear hg
    go_wp2
    refine bodyPost_ret (v := nvW g (.slice ao ml mc)) ?_ rfl ?_
    · rw [results_cellN rfl]
      go_simp
    · obtain ⟨g', ao', ml', mc', e', hN⟩ := wnum_nrd ((((((((HN3.out.off (o := 0) (u := .int .i8 3) hs1).off (o := 1) (u := .int .u64 0) hs1).off (o := 2) (u := .bool g) hs1).off (o := 3) (u := .slice ao ml mc) hs1).off (o := 4) (u := .int .u64 0) hs1).off (o := 5) (u := .int .i8 0) hs1).off (o := 6) (u := .string ⟨#[]⟩) hs1).off (o := 7) (u := .slice none 0 0) hs1)
      simp only [Value.agg.injEq, Array.mk.injEq, List.cons.injEq, and_true, Value.bool.injEq] at e'
      obtain ⟨rfl, e2⟩ := e'
      rw [← e2] at hN
      exact ⟨_, .w n, rfl, hN, .inl ⟨n, HI.out, rfl⟩, set8_below HK03.out (Nat.le_refl _)⟩

end Go.Proofs.YtjigofmcflmelaaGreatDoor

namespace Go.Proofs.YtjigofmcflmelaaGreatDoor
open Go.RowKit
set_option linter.unusedVariables false

theorem nnum_none (B : Nat) (w : World) (k : Nat) : Num B w (.slice none 0 0) 0 k :=
  ⟨[], ⟨none, rfl, by unfold maxLen; simp, fun h => absurd h (by simp)⟩, ⟨fun i => by simp [Nt.lb], fun h => absurd rfl h⟩, rfl, by simp⟩
theorem nshr_all {w : World} {va : Value} {A i : Int} {ka N : Nat} (ha : Arg w va A ka) (hka : ka ≤ 1099511627776) (hi : i = (N : Int)) (hN : N ≤ 9223372036854775807) :
    Calls Tryz.prog 194 #[va, .int .i64 i] w fun e w' => ∃ v b, e = .returned (.tuple #[v, .bool b, .bool true]) ∧ Num w.heap.size w' v (A / p2 N) ka ∧ Below w.heap.size w w' := by
  subst hi
  have hn := ha.nonneg
  by_cases hf : Nt.pw (N / 32) ≤ A
  · refine (shr_near ha hka (W := N / 32) (s := N % 32) (by omega) (by omega) hf).mono ?_
    rintro e w' ⟨v, rfl, h1, h2⟩
    exact ⟨v, _, rfl, h1, h2⟩
  · have hlt : A < p2 N := by
      have h := p2_mono (m := 32 * (N / 32)) (n := N) (by omega)
      rw [p2_32] at h
      omega
    refine (shr_far ha (by omega) (by omega) (by rw [show ((N : Int) / 32).toNat = N / 32 by omega]; omega)).mono ?_
    rintro e w' ⟨rfl, rfl⟩
    rw [Int.ediv_eq_zero_of_lt hn hlt]
    exact ⟨_, _, rfl, nnum_none _ _ _, Below.refl _ _⟩

set_option maxHeartbeats 8000000 in
set_option maxRecDepth 20000 in
theorem beside_any {w : World} (L : Lays w) (T : Brn w) {g : Bool} {m : Value} {a b : Int} {k : Nat} (hm : CArg w m a k) (hk : k ≤ 1048577) (hb : FOk b) : Calls Tryz.prog 128 #[.agg #[.bool g, m], .int .u64 b] w fun e' w' => e' = .returned (.tuple #[.int .i64 (besd 9223372036854775808 4503599627370496 (-1074) 9218868437227405312 (wn g a) b).1, .bool (besd 9223372036854775808 4503599627370496 (-1074) 9218868437227405312 (wn g a) b).2]) ∧ Below w.heap.size w w' := by
  have HM := hide hm
  have HL := hide L
  have HT := hide T
  obtain ⟨b0, b1, bn, hb⟩ := hb
  have HB := hide hb
  obtain ⟨zs, ⟨ao, cap, rfl, -⟩, -⟩ := hm
  generalize zs.length = ml at *
  clear L T hb
  go_enter Tryz.func128, Tryz.ntmps128
  go_wp2_with fail
  have K1 := bel_new w (.cells #[.bool g, .slice ao ml cap] 108)
  have C1 := cell2_new w (.bool g) (.slice ao ml cap) 108
  with_reducible refine (parts_fl (HL.out.below K1) (HT.out.below K1) b (b % 9223372036854775808) (decide (9223372036854775808 ≤ b)) b0 b1 rfl rfl).mono ?_
  rintro e w2 ⟨a2, m2, E, ok, rfl, hP, K2⟩
  replace C1 := C1.below K2
  have KK := hide (below_trans K1 K2)
  clear K1 K2
  by_cases fin : b % 9223372036854775808 < 9218868437227405312
  · obtain ⟨rfl, rfl, -, -⟩ := hP.2 fin
    have hfr : ∃ n, IntIs 4503599627370496 (-1074) 9218868437227405312 (b % 9223372036854775808) (decide (9223372036854775808 ≤ b)) n false := by
      rcases HB.out with rfl | h | ⟨-, h⟩
      · exact absurd fin (by decide)
      · omega
      · exact h
    obtain ⟨n0, hn0⟩ := hfr
    obtain ⟨sp, m3, E3, hP3, hE, hLE, mo, mp, hu⟩ := frac_u (by decide) (by decide) (Int.emod_nonneg _ (by decide)) fin hn0
    obtain ⟨-, rfl, rfl, -⟩ := hP.unique (Int.emod_nonneg _ (by decide)) hP3
    obtain ⟨m0, m1, -, -⟩ := part_bounds (F := 4503599627370496) (L := (-1074)) (S := 9223372036854775808) (by decide) (by decide) (by decide) (Int.emod_nonneg _ (by decide)) (Int.emod_lt_of_pos _ (by decide)) (by unfold est; split <;> omega) (by decide) hP
    have HBS := hide (show besd 9223372036854775808 4503599627370496 (-1074) 9218868437227405312 (wn g a) b = (if sgn (wn g a) (wn (decide (9223372036854775808 ≤ b)) (m2 / p2 (-E).toNat)) ≠ 0 then sgn (wn g a) (wn (decide (9223372036854775808 ≤ b)) (m2 / p2 (-E).toNat)) else if decide (9223372036854775808 ≤ b) = true then 1 else -1, true) by
      unfold besd
      rw [if_pos fin]
      unfold uP
      rw [hu, beside_math hLE hE mo mp])
    generalize decide (9223372036854775808 ≤ b) = ng at *
    clear hP hn0 hP3 hu sp HB fin
    go_wp2_with fail
    with_reducible refine (from_any m2 m0 (by omega)).mono ?_
    rintro e w3 ⟨vm, rfl, hM, K3⟩
    have KZ := hide (below_trans KK.out K3)
    replace C1 := C1.below K3
    clear K3
    go_wp2_with fail
    with_reducible refine (nshr_all hM.arg (by decide) (i := -E) (N := (-E).toNat) (by omega) (by omega)).mono ?_
    rintro e w4 ⟨vq, bq, rfl, hQ, K4⟩
    have KY := hide (below_trans KZ.out K4)
    replace C1 := C1.below K4
    have d0 := C1.c0
    have d1 := C1.c1
    clear K4 hM KZ
    have hA1 : WArg w4 (.agg #[.bool g, .slice ao ml cap]) (wn g a) k := ⟨g, _, a, rfl, (HM.out.below KY.out).arg, rfl⟩
    have hA2 : WArg w4 (.agg #[.bool ng, vq]) (wn ng (m2 / p2 (-E).toNat)) 2 := ⟨ng, _, _, rfl, hQ.arg, rfl⟩
    obtain ⟨zq, ⟨qo, rfl, -⟩, -⟩ := hQ
    go_wp2_with fail
    with_reducible refine (wcmp_any hA1 hA2 (by omega) (by decide)).mono ?_
    rintro e w5 ⟨rfl, K5⟩
    have KX := hide (below_trans KY.out K5)
    clear K5 hA1 hA2
    obtain ⟨c, hc⟩ : ∃ c, sgn (wn g a) (wn ng (m2 / p2 (-E).toNat)) = c := ⟨_, rfl⟩
    rw [hc] at HBS ⊢
    clear hc
    by_cases c0 : c = 0
    · subst c0
      cases ng
      · go_wp2
        go_ret2
        exact ⟨by rw [HBS.out]; rfl, KX.out⟩
      · go_wp2
        go_ret2
        exact ⟨by rw [HBS.out]; rfl, KX.out⟩
    · have hne : (c == 0) = false := by simp [c0]
      have HE := hide (show besd 9223372036854775808 4503599627370496 (-1074) 9218868437227405312 (wn g a) b = (c, true) by rw [HBS.out, if_pos c0])
      go_wp2
      go_ret2
      exact ⟨by rw [HE.out]; rfl, KX.out⟩
  · obtain ⟨rfl, rfl, rfl, rfl⟩ := hP.1 (by omega)
    have HBS := hide (show besd 9223372036854775808 4503599627370496 (-1074) 9218868437227405312 (wn g a) b = (cmpC 9223372036854775808 4503599627370496 0 b, cmpOk 9223372036854775808 4503599627370496 0 b) by unfold besd; rw [if_neg fin])
    clear hP HB fin
    go_wp2_with fail
    with_reducible refine (cmp_fl (HL.out.below KK.out) 0 b (by decide) (by decide) b0 b1).mono ?_
    rintro e w3 ⟨rfl, K3⟩
    have KZ := hide (below_trans KK.out K3)
    clear K3
    go_wp2
    go_ret2
    exact ⟨by rw [HBS.out]; rfl, KZ.out⟩

end Go.Proofs.YtjigofmcflmelaaGreatDoor

namespace Go.Proofs.YtjigofmcflmelaaGreatDoor
open Go.RowKit
set_option linter.unusedVariables false

theorem asWW (v : Value) (W : World) : (Instr.typeAssert (.iface 108 v) 73 108 true).run Tryz.prog W = .ok (.tuple #[v, .bool true]) W := by kernel_rfl
theorem asWF (v : Value) (W : World) : (Instr.typeAssert (.iface 108 v) 73 109 true).run Tryz.prog W = .ok (.tuple #[.int .u64 0, .bool false]) W := by kernel_rfl
theorem asFW (v : Value) (W : World) : (Instr.typeAssert (.iface 109 v) 73 108 true).run Tryz.prog W = .ok (.tuple #[.agg #[.bool false, .slice none 0 0], .bool false]) W := by kernel_rfl
theorem asFF (v : Value) (W : World) : (Instr.typeAssert (.iface 109 v) 73 109 true).run Tryz.prog W = .ok (.tuple #[v, .bool true]) W := by kernel_rfl
attribute [local go_sem] asWW asWF asFW asFF

abbrev ncmp64 (z z' : NZ) : Int × Bool := ncmp 9223372036854775808 4503599627370496 (-1074) 9218868437227405312 z z'
set_option maxHeartbeats 8000000 in
set_option maxRecDepth 20000 in
theorem compare_any {w : World} (L : Lays w) (T : Brn w) {u u' : Value} {k k' : Nat} {z z' : NZ} (h : AmtIs w u k z) (h' : AmtIs w u' k' z') (hk : k ≤ 1048577) (hk' : k' ≤ 1048577) : Calls Tryz.prog 38 #[u, u'] w fun e' w' => e' = .returned (.tuple #[.int .i64 (ncmp64 z z').1, .bool (ncmp64 z z').2]) ∧ Below w.heap.size w w' := by
  have HL := hide L
  have HT := hide T
  clear L T
  cases z with
  | w n =>
    obtain ⟨g, m, a, rfl, hm, rfl, hg⟩ := h
    have HM := hide hm
    obtain ⟨zs, ⟨ao, cap, rfl, -⟩, -⟩ := hm
    generalize zs.length = ml at *
    cases z' with
    | w n' =>
      obtain ⟨g', m', a', rfl, hm', rfl, hg'⟩ := h'
      have HM' := hide hm'
      obtain ⟨zs', ⟨ao', cap', rfl, -⟩, -⟩ := hm'
      generalize zs'.length = ml' at *
      clear hg hg'
      go_enter Tryz.func38, Tryz.ntmps38
      go_wp2_with fail
      have K1 := bel_new w (.cells #[.bool g, .slice ao ml cap] 108)
      have K2 := bel_new (w.alloc (.cells #[.bool g, .slice ao ml cap] 108)) (.cells #[.bool g', .slice ao' ml' cap'] 108)
      have KK := hide (below_trans K1 K2)
      have hA1 : WArg ((w.alloc (.cells #[.bool g, .slice ao ml cap] 108)).alloc (.cells #[.bool g', .slice ao' ml' cap'] 108)) (.agg #[.bool g, .slice ao ml cap]) (wn g a) k := ⟨g, _, a, rfl, (HM.out.below KK.out).arg, rfl⟩
      have hA2 : WArg ((w.alloc (.cells #[.bool g, .slice ao ml cap] 108)).alloc (.cells #[.bool g', .slice ao' ml' cap'] 108)) (.agg #[.bool g', .slice ao' ml' cap']) (wn g' a') k' := ⟨g', _, a', rfl, (HM'.out.below KK.out).arg, rfl⟩
      with_reducible refine (wcmp_any hA1 hA2 (by omega) (by omega)).mono ?_
      rintro e w5 ⟨rfl, K5⟩
      have KX := hide (below_trans KK.out K5)
      clear K5 hA1 hA2 K1 K2
      go_wp2
      go_ret2
      exact ⟨rfl, KX.out⟩
    | f b =>
      obtain ⟨rfl, hb⟩ := h'
      clear hg
      go_enter Tryz.func38, Tryz.ntmps38
      go_wp2_with fail
      have K1 := bel_new w (.cells #[.bool g, .slice ao ml cap] 108)
      with_reducible refine (beside_any (HL.out.below K1) (HT.out.below K1) (HM.out.below K1) hk hb).mono ?_
      rintro e w5 ⟨rfl, K5⟩
      have KX := hide (below_trans K1 K5)
      clear K5 K1
      go_wp2
      go_ret2
      exact ⟨rfl, KX.out⟩
  | f b =>
    obtain ⟨rfl, hb⟩ := h
    cases z' with
    | w n' =>
      obtain ⟨g', m', a', rfl, hm', rfl, hg'⟩ := h'
      have HM' := hide hm'
      obtain ⟨zs', ⟨ao', cap', rfl, -⟩, -⟩ := hm'
      generalize zs'.length = ml' at *
      clear hg'
      have hrange : Hid (-1 ≤ (besd 9223372036854775808 4503599627370496 (-1074) 9218868437227405312 (wn g' a') b).1 ∧ (besd 9223372036854775808 4503599627370496 (-1074) 9218868437227405312 (wn g' a') b).1 ≤ 1) := by
        have hsg : ∀ x y : Int, -1 ≤ sgn x y ∧ sgn x y ≤ 1 := fun x y => by unfold sgn; split <;> (try split) <;> omega
        unfold besd Hid
        split
        · exact hsg _ _
        · unfold cmpC
          split
          · split
            · omega
            · exact hsg _ _
          · omega
      go_enter Tryz.func38, Tryz.ntmps38
      go_wp2_with fail
      have K1 := bel_new w (.cells #[.bool g', .slice ao' ml' cap'] 108)
      with_reducible refine (beside_any (HL.out.below K1) (HT.out.below K1) (HM'.out.below K1) hk' hb).mono ?_
      rintro e w5 ⟨rfl, K5⟩
      have KX := hide (below_trans K1 K5)
      clear K5 K1
      have HE := hide (show ncmp64 (.f b) (.w (wn g' a')) = (-(besd 9223372036854775808 4503599627370496 (-1074) 9218868437227405312 (wn g' a') b).1, (besd 9223372036854775808 4503599627370496 (-1074) 9218868437227405312 (wn g' a') b).2) from rfl)
      generalize (besd 9223372036854775808 4503599627370496 (-1074) 9218868437227405312 (wn g' a') b).1 = c at *
      generalize (besd 9223372036854775808 4503599627370496 (-1074) 9218868437227405312 (wn g' a') b).2 = ok at *
      have hw : IntKind.i64.wrap (-c) = -c := by have := hrange.out; simp only [IntKind.wrap, IntKind.signed, IntKind.bits]; simp; omega
      go_wp2
      go_ret2
      exact ⟨by rw [HE.out]; rfl, KX.out⟩
    | f b' =>
      obtain ⟨rfl, hb'⟩ := h'
      obtain ⟨p0, p1, -, -⟩ := hb
      obtain ⟨q0, q1, -, -⟩ := hb'
      go_enter Tryz.func38, Tryz.ntmps38
      go_wp2_with fail
      with_reducible refine (cmp_fl HL.out b b' p0 p1 q0 q1).mono ?_
      rintro e w5 ⟨rfl, K5⟩
      have KX := hide K5
      clear K5
      go_wp2
      go_ret2
      exact ⟨rfl, KX.out⟩
theorem nrd_shape {w : World} {v : Value} {k : Nat} {z : NZ} (h : NRd w v k z) : ∃ (k3 : Int) (g : Bool) (mo : Option Addr) (ml mc : Nat) (bt : Int), v = .agg #[.int .i8 k3, .int .u64 0, .bool g, .slice mo ml mc, .int .u64 bt, .int .i8 0, .string ⟨#[]⟩, .slice none 0 0] := by
  cases z with
  | w n =>
    obtain ⟨g, m, a, rfl, ⟨zs, ⟨ao, cap, rfl, -⟩, -⟩, -⟩ := h
    exact ⟨_, _, _, _, _, _, rfl⟩
  | f b =>
    obtain ⟨rfl, hb⟩ := h
    exact ⟨_, _, _, _, _, _, rfl⟩

set_option maxHeartbeats 8000000 in
set_option maxRecDepth 20000 in
theorem ncmp_any {w : World} (L : Lays w) (T : Brn w) (U : Uss w) {v v' : Value} {k k' : Nat} {z z' : NZ} (h : NRd w v k z) (h' : NRd w v' k' z') (hk : k ≤ 1048577) (hk' : k' ≤ 1048577) : Calls Tryz.prog 14 #[v, v'] w fun e' w' => e' = .returned (.tuple #[.int .i64 (ncmp64 z z').1, .bool (ncmp64 z z').2]) ∧ Below w.heap.size w w' := by
  have H1 := hide (fun (W : World) (hW : Below w.heap.size w W) => amount_any (L.below hW) (T.below hW) (U.below hW) (h.below hW))
  have H2 := hide (fun (W : World) (hW : Below w.heap.size w W) => amount_any (L.below hW) (T.below hW) (U.below hW) (h'.below hW))
  have H3 := hide (fun (W : World) (u u' : Value) (hW : Below w.heap.size w W) (g : AmtIs W u k z) (g' : AmtIs W u' k' z') => compare_any (L.below hW) (T.below hW) g g' hk hk')
  obtain ⟨k1, g1, mo1, ml1, mc1, b1, rfl⟩ := nrd_shape h
  obtain ⟨k2, g2, mo2, ml2, mc2, b2, rfl⟩ := nrd_shape h'
  clear h h' L T U
  generalize hc : (ncmp64 z z').1 = c at *
  generalize ho : (ncmp64 z z').2 = ok at *
  clear hc ho
  go_enter Tryz.func14, Tryz.ntmps14
  go_wp2_with fail
  have B1 := bx8_new w (.int .i8 k1) (.int .u64 0) (.bool g1) (.slice mo1 ml1 mc1) (.int .u64 b1) (.int .i8 0) (.string ⟨#[]⟩) (.slice none 0 0) 31
  have K1 := bel_new w (.cells #[.int .i8 k1, .int .u64 0, .bool g1, .slice mo1 ml1 mc1, .int .u64 b1, .int .i8 0, .string ⟨#[]⟩, .slice none 0 0] 31)
  have s1 : w.heap.size + 1 = (w.alloc (.cells #[.int .i8 k1, .int .u64 0, .bool g1, .slice mo1 ml1 mc1, .int .u64 b1, .int .i8 0, .string ⟨#[]⟩, .slice none 0 0] 31)).heap.size := by simp
  generalize w.alloc (.cells #[.int .i8 k1, .int .u64 0, .bool g1, .slice mo1 ml1 mc1, .int .u64 b1, .int .i8 0, .string ⟨#[]⟩, .slice none 0 0] 31) = w1 at *
  have B2 := bx8_new w1 (.int .i8 k2) (.int .u64 0) (.bool g2) (.slice mo2 ml2 mc2) (.int .u64 b2) (.int .i8 0) (.string ⟨#[]⟩) (.slice none 0 0) 31
  have K2 := bel_new w1 (.cells #[.int .i8 k2, .int .u64 0, .bool g2, .slice mo2 ml2 mc2, .int .u64 b2, .int .i8 0, .string ⟨#[]⟩, .slice none 0 0] 31)
  have B1' := B1.below K2 B1.lt
  rw [← s1] at B2
  have HK0 := hide (below_trans K1 K2)
  generalize w1.alloc (.cells #[.int .i8 k2, .int .u64 0, .bool g2, .slice mo2 ml2 mc2, .int .u64 b2, .int .i8 0, .string ⟨#[]⟩, .slice none 0 0] 31) = W at *
  have HB1 := hide B1'
  have HB2 := hide B2
  have CC : ∀ u : World, Below W.heap.size W u → u.cell? ⟨w.heap.size, 0, none⟩ = some (.int .i8 k1) ∧ u.cell? ⟨w.heap.size, 1, none⟩ = some (.int .u64 0) ∧ u.cell? ⟨w.heap.size, 2, none⟩ = some (.bool g1) ∧ u.cell? ⟨w.heap.size, 3, none⟩ = some (.slice mo1 ml1 mc1) ∧ u.cell? ⟨w.heap.size, 4, none⟩ = some (.int .u64 b1) ∧ u.cell? ⟨w.heap.size, 5, none⟩ = some (.int .i8 0) ∧ u.cell? ⟨w.heap.size, 6, none⟩ = some (.string ⟨#[]⟩) ∧ u.cell? ⟨w.heap.size, 7, none⟩ = some (.slice none 0 0) ∧ u.cell? ⟨w.heap.size + 1, 0, none⟩ = some (.int .i8 k2) ∧ u.cell? ⟨w.heap.size + 1, 1, none⟩ = some (.int .u64 0) ∧ u.cell? ⟨w.heap.size + 1, 2, none⟩ = some (.bool g2) ∧ u.cell? ⟨w.heap.size + 1, 3, none⟩ = some (.slice mo2 ml2 mc2) ∧ u.cell? ⟨w.heap.size + 1, 4, none⟩ = some (.int .u64 b2) ∧ u.cell? ⟨w.heap.size + 1, 5, none⟩ = some (.int .i8 0) ∧ u.cell? ⟨w.heap.size + 1, 6, none⟩ = some (.string ⟨#[]⟩) ∧ u.cell? ⟨w.heap.size + 1, 7, none⟩ = some (.slice none 0 0) := fun u hu => by
    obtain ⟨x0, x1, x2, x3, x4, x5, x6, x7⟩ := HB1.out.below hu HB1.out.lt
    obtain ⟨y0, y1, y2, y3, y4, y5, y6, y7⟩ := HB2.out.below hu HB2.out.lt
    exact ⟨x0, x1, x2, x3, x4, x5, x6, x7, y0, y1, y2, y3, y4, y5, y6, y7⟩
  have K : Below W.heap.size W W.drew := (Below.refl _ _).drew
  clear B1 B2 K1 K2 s1 B1'
  go_region_held3 (fun u => u.cell? ⟨w.heap.size, 0, none⟩ = some (.int .i8 k1) ∧ u.cell? ⟨w.heap.size, 1, none⟩ = some (.int .u64 0) ∧ u.cell? ⟨w.heap.size, 2, none⟩ = some (.bool g1) ∧ u.cell? ⟨w.heap.size, 3, none⟩ = some (.slice mo1 ml1 mc1) ∧ u.cell? ⟨w.heap.size, 4, none⟩ = some (.int .u64 b1) ∧ u.cell? ⟨w.heap.size, 5, none⟩ = some (.int .i8 0) ∧ u.cell? ⟨w.heap.size, 6, none⟩ = some (.string ⟨#[]⟩) ∧ u.cell? ⟨w.heap.size, 7, none⟩ = some (.slice none 0 0) ∧ u.cell? ⟨w.heap.size + 1, 0, none⟩ = some (.int .i8 k2) ∧ u.cell? ⟨w.heap.size + 1, 1, none⟩ = some (.int .u64 0) ∧ u.cell? ⟨w.heap.size + 1, 2, none⟩ = some (.bool g2) ∧ u.cell? ⟨w.heap.size + 1, 3, none⟩ = some (.slice mo2 ml2 mc2) ∧ u.cell? ⟨w.heap.size + 1, 4, none⟩ = some (.int .u64 b2) ∧ u.cell? ⟨w.heap.size + 1, 5, none⟩ = some (.int .i8 0) ∧ u.cell? ⟨w.heap.size + 1, 6, none⟩ = some (.string ⟨#[]⟩) ∧ u.cell? ⟨w.heap.size + 1, 7, none⟩ = some (.slice none 0 0)) (first | with_reducible exact CC _ K)
    (first
      | (go_at_call 30; (with_reducible refine (H1.out _ (HK0.out.trans (K.mono HK0.out.size))).mono ?_); rintro e w2 ⟨u1, rfl, hA1, hb2⟩; replace K := K.trans (hb2.mono K.size))
      | (go_at_call 30; (with_reducible refine (H2.out _ (HK0.out.trans (K.mono HK0.out.size))).mono ?_); rintro e w3 ⟨u2, rfl, hA2, hb3⟩; replace K := K.trans (hb3.mono K.size))
      | (go_at_call 38; (with_reducible refine (H3.out _ _ _ (HK0.out.trans (K.mono HK0.out.size)) (hA1.below hb3) hA2).mono ?_); rintro e w4 ⟨rfl, hb4⟩; replace K := K.trans (hb4.mono K.size)))
  have KZ := hide (HK0.out.trans (K.mono HK0.out.size))
  clear CC K
  go_wp2
  go_ret2
  exact ⟨rfl, KZ.out⟩

end Go.Proofs.YtjigofmcflmelaaGreatDoor

namespace Go.Proofs.YtjigofmcflmelaaGreatDoor
set_option linter.unusedVariables false

/-- a pattern whose number another width has, too -/
theorem to_exact {Sb Fb Lb Ib limb Sa Fa La Ia lima s q y m E : Int} {frb fra : Nat} {ng ng' a ok k k' : Bool} (W : Wth Sb Fb Lb Ib limb frb) (V : Wth Sa Fa La Ia lima fra) (s0 : 0 ≤ s) (s1 : s < Ia) (q0 : 0 ≤ q) (q1 : q < Ib) (h : ToP Sb Fb Lb Ib Fa La Ia s ng y ok)
    (hP : PartIs Fa La Ia s ng ng m E k) (hQ : PartIs Fb Lb Ib q ng' a m E k') : y = q + b2i ng * Sb ∧ ok = true := by
  rcases h with ⟨c, -⟩ | ⟨c, -⟩ | ⟨c, m2, E2, r, a1, n, f, kk, hP2, hN, rfl, hR, rfl⟩
  · omega
  · omega
  · obtain ⟨-, rfl, rfl, rfl⟩ := hP2.unique s0 hP
    obtain ⟨e1, e2⟩ := part_um V.f0 V.l0 s0 s1 hP
    obtain ⟨f1, f2⟩ := part_um W.f0 W.l0 q0 q1 hQ
    obtain rfl := near_there V.f0 W.f0 V.l0 W.l0 s0 s1 hP q0 (by omega) (fun B h1 h2 => by rw [← f2 B h2, ← e2 B h1]) hN
    obtain ⟨r1, r2, r3, r4⟩ := hR.2 q1
    obtain ⟨u1, u2, u3, u4⟩ := hQ.2 q1
    have hR' : PartIs Fb Lb Ib r ng' ng' n f kk := ⟨fun h => absurd h (by omega), fun _ => ⟨r1, rfl, r3, r4⟩⟩
    obtain ⟨-, rfl, rfl, -⟩ := hR'.unique q0 hQ
    exact ⟨rfl, by simp [r1]⟩
theorem part_lit {F L I s m E : Int} {ng : Bool} (k : Nat) (s0 : 0 < s) (s1 : s < I) (k1 : k < 64) (mo : m % 2 = 1) (hm : mst F s = m * p2 k) (hE : E = est F L s + k) : PartIs F L I s ng ng m E true :=
  ⟨fun h => absurd h (by omega), fun _ => ⟨rfl, rfl, fun h => absurd h (by omega), fun _ => ⟨mo, k, k1, hm, hE⟩⟩⟩
theorem int_lit {F L I s m E : Int} {ng : Bool} (h : PartIs F L I s ng ng m E true) (hE : 0 ≤ E) : IntIs F L I s ng (wn ng (m * p2 E.toNat)) true := ⟨ng, m, E, true, h, .inl ⟨rfl, hE, rfl, rfl⟩⟩
theorem int_lit_no {F L I s m E : Int} {ng : Bool} (h : PartIs F L I s ng ng m E true) (hE : E < 0) : IntIs F L I s ng 0 false := ⟨ng, m, E, true, h, .inr ⟨by omega, rfl, rfl⟩⟩
/-- too many digits for a narrower width -/
theorem to_fewer {Sb Fb Lb Ib Fa La Ia s y m E : Int} {ng ok k : Bool} (hF : 0 < Fb) (s0 : 0 ≤ s) (s1 : s < Ia) (hm : 2 * Fb ≤ m) (h : ToP Sb Fb Lb Ib Fa La Ia s ng y ok) (hP : PartIs Fa La Ia s ng ng m E k) : ok = false := by
  rcases h with ⟨c, -⟩ | ⟨c, -⟩ | ⟨c, m2, E2, r, a1, n, f, kk, hP2, hN, rfl, hR, rfl⟩
  · omega
  · omega
  · obtain ⟨-, rfl, rfl, rfl⟩ := hP2.unique s0 hP
    have r0 := hN.1
    cases hk : kk && (n == m2) && (f == E2) with
    | false => rfl
    | true =>
      exfalso
      simp only [Bool.and_eq_true, beq_iff_eq] at hk
      obtain ⟨⟨rfl, rfl⟩, rfl⟩ := hk
      have rI : r < Ib := by
        rcases Int.lt_or_le r Ib with g | g
        · exact g
        · exact absurd (hR.1 g).2.2.2 (by simp)
      obtain ⟨-, -, h0, h1⟩ := hR.2 rI
      rcases Int.lt_or_eq_of_le r0 with g | g
      · obtain ⟨-, j, -, hj, -⟩ := h1 g
        have h2 := mst_top hF r0
        have h3 := p2_pos j
        have : n * 1 ≤ n * p2 j := Int.mul_le_mul_of_nonneg_left (by omega) (by omega)
        omega
      · obtain ⟨rfl, -⟩ := h0 g.symm
        omega
/-- 1.5 in 16 bits -/
theorem live_half {z : NZ} (h : OfIs 9223372036854775808 4503599627370496 (-1074) 9218868437227405312 1024 (-24) 31744 (15872 % 32768) (decide (32768 ≤ (15872 : Int))) z) : z = .f 4609434218613702656 := by
  have hP : PartIs 1024 (-24) 31744 15872 false false 3 (-1) true := part_lit 9 (by decide) (by decide) (by decide) (by decide) (by decide) (by decide)
  have hQ : PartIs 4503599627370496 (-1074) 9218868437227405312 4609434218613702656 false false 3 (-1) true := part_lit 51 (by decide) (by decide) (by decide) (by decide) (by decide +kernel) (by decide)
  rw [show (15872 : Int) % 32768 = 15872 from by decide, show decide ((32768 : Int) ≤ 15872) = false from by decide] at h
  rcases h with ⟨n, h1, rfl⟩ | ⟨n, b, ok, h1, h2, rfl⟩
  · exact absurd ((int_lit_no hP (by decide)).unique (by decide) h1).2 (by simp)
  · obtain ⟨rfl, -⟩ := to_exact wth64 wth16 (by decide) (by decide) (by decide) (by decide) h2 hP hQ
    rfl
/-- 1 in 32 bits -/
theorem live_one {z : NZ} (h : OfIs 9223372036854775808 4503599627370496 (-1074) 9218868437227405312 8388608 (-149) 2139095040 (1065353216 % 2147483648) (decide (2147483648 ≤ (1065353216 : Int))) z) : z = .w 1 := by
  have hP : PartIs 8388608 (-149) 2139095040 1065353216 false false 1 0 true := part_lit 23 (by decide) (by decide) (by decide) (by decide) (by decide +kernel) (by decide)
  rw [show (1065353216 : Int) % 2147483648 = 1065353216 from by decide, show decide ((2147483648 : Int) ≤ 1065353216) = false from by decide] at h
  rcases h with ⟨n, h1, rfl⟩ | ⟨n, b, ok, h1, h2, rfl⟩
  · rw [← ((int_lit hP (by decide)).unique (by decide) h1).1]
    rfl
  · exact absurd ((int_lit hP (by decide)).unique (by decide) h1).2 (by simp)
/-- 65505, as narrow as it may be -/
theorem live_narrow {wd y : Int} {ok : Bool} (h : NarIs (.w 65505) wd y ok) : wd = 32 ∧ y = 1199563008 ∧ ok = true := by
  obtain ⟨bb, bk, ⟨y', ok', hF, h1⟩, h2⟩ := h
  have hP : PartIs 4503599627370496 (-1074) 9218868437227405312 4679235752230387712 false false 65505 0 true := part_lit 37 (by decide) (by decide) (by decide) (by decide) (by decide +kernel) (by decide)
  have hI : IntIs 4503599627370496 (-1074) 9218868437227405312 4679235752230387712 false 65505 true := int_lit hP (by decide)
  obtain ⟨rfl, h3⟩ := from_back (S := 9223372036854775808) (by decide) (by decide) (by decide) (by decide) (by decide) (by decide) (wth64.e _ (by decide)) (by decide) (by decide) hI hF
  have e : y' = 4679235752230387712 := by
    rcases h3 with h | ⟨h, -, -⟩
    · rw [h]; decide
    · exact absurd h (by decide)
  subst e
  rcases h1 with ⟨-, rfl, rfl⟩ | ⟨h, -⟩
  · rcases h2 with ⟨h, -⟩ | ⟨-, rfl, y16, k16, hT, h4⟩
    · cases h
    · rw [show (4679235752230387712 : Int) % 9223372036854775808 = 4679235752230387712 from by decide, show decide ((9223372036854775808 : Int) ≤ 4679235752230387712) = false from by decide] at hT h4
      obtain rfl := to_fewer (by decide) (by decide) (by decide) (by decide) hT hP
      rcases h4 with ⟨h, -⟩ | ⟨-, y32, k32, hT2, h5⟩
      · cases h
      · have hQ : PartIs 8388608 (-149) 2139095040 1199563008 false false 65505 0 true := part_lit 8 (by decide) (by decide) (by decide) (by decide) (by decide +kernel) (by decide)
        obtain ⟨rfl, rfl⟩ := to_exact wth32 wth64 (by decide) (by decide) (by decide) (by decide) hT2 hP hQ
        rcases h5 with ⟨-, rfl, rfl⟩ | ⟨h, -⟩
        · exact ⟨rfl, by decide, rfl⟩
        · cases h
  · cases h
theorem live_cmp : ncmp 9223372036854775808 4503599627370496 (-1074) 9218868437227405312 (.w 1) (.f 4609434218613702656) = (-1, true) := by
  have hQ : PartIs 4503599627370496 (-1074) 9218868437227405312 4609434218613702656 false false 3 (-1) true := part_lit 51 (by decide) (by decide) (by decide) (by decide) (by decide +kernel) (by decide)
  have hm : (4609434218613702656 : Int) % 9223372036854775808 = 4609434218613702656 := by decide
  have hd : decide ((9223372036854775808 : Int) ≤ 4609434218613702656) = false := by decide
  obtain ⟨-, hu⟩ := part_um (by decide) (by decide) (by decide) (by decide) hQ
  have hu1 := hu (-1074) (Int.le_refl _)
  show besd 9223372036854775808 4503599627370496 (-1074) 9218868437227405312 1 4609434218613702656 = _
  unfold besd
  rw [if_pos (by rw [hm]; decide)]
  unfold uP
  rw [hm, hd, ← hu1]
  unfold sc
  rw [beside_math (by decide) (by decide) (by decide) (by decide)]
  rw [show p2 (-(-1 : Int)).toNat = 2 from rfl, show (3 : Int) / 2 = 1 from by decide]
  rfl

end Go.Proofs.YtjigofmcflmelaaGreatDoor

namespace Go.Proofs.YtjigofmcflmelaaGreatDoor
set_option linter.unusedVariables false

theorem part_zero {F L I : Int} {ng : Bool} (hI : 0 < I) : PartIs F L I 0 ng ng 0 0 true := ⟨fun h => absurd h (by omega), fun _ => ⟨rfl, rfl, fun _ => ⟨rfl, rfl⟩, fun h => absurd h (by omega)⟩⟩
end Go.Proofs.YtjigofmcflmelaaGreatDoor

namespace Go.Proofs.YtjigofmcflmelaaGreatDoor
open Go.RowKit
set_option linter.unusedVariables false

theorem p2n : p2 0 = 1 := rfl
theorem p2s (k : Nat) : p2 (k + 1) = 2 * p2 k := rfl
theorem odd_split : ∀ (j : Nat) (n : Int), 0 < n → n < p2 j → ∃ (m : Int) (k : Nat), m % 2 = 1 ∧ k < j ∧ n = m * p2 k := by
  intro j
  induction j with
  | zero =>
    intro n h1 h2
    rw [p2n] at h2
    omega
  | succ j ih =>
    intro n h1 h2
    rw [p2s] at h2
    rcases Int.emod_two_eq n with h | h
    · obtain ⟨m, k, h3, h4, h5⟩ := ih (n / 2) (by omega) (by omega)
      refine ⟨m, k + 1, h3, by omega, ?_⟩
      rw [p2s, show m * (2 * p2 k) = 2 * (m * p2 k) by rw [Int.mul_left_comm], ← h5]
      omega
    · exact ⟨n, 0, h, by omega, by rw [p2n, Int.mul_one]⟩
theorem part_ex {S F L I lim s : Int} {fr : Nat} {ng : Bool} (W : Wth S F L I lim fr) (hp : S ≤ p2 64) (s0 : 0 ≤ s) (s1 : s < I) : ∃ m E, PartIs F L I s ng ng m E true := by
  rcases Int.lt_or_eq_of_le s0 with g | g
  · have hI : I < S := by have := W.s; have := W.f0; omega
    obtain ⟨m0, m1⟩ := mst_range (F := F) (s := s) (S := S) W.f0 g W.s2 (by omega)
    obtain ⟨m, k, h1, h2, h3⟩ := odd_split 64 (mst F s) (by omega) (by omega)
    exact ⟨m, est F L s + k, part_lit k g s1 h2 h1 h3 rfl⟩
  · subst g
    exact ⟨0, 0, part_zero s1⟩
theorem int_ex {S F L I lim s : Int} {fr : Nat} {ng : Bool} (W : Wth S F L I lim fr) (hp : S ≤ p2 64) (s0 : 0 ≤ s) (s1 : s < I) : ∃ n ok, IntIs F L I s ng n ok := by
  obtain ⟨m, E, h⟩ := part_ex (ng := ng) W hp s0 s1
  by_cases hE : 0 ≤ E
  · exact ⟨_, _, int_lit h hE⟩
  · exact ⟨_, _, int_lit_no h (by omega)⟩

end Go.Proofs.YtjigofmcflmelaaGreatDoor

namespace Go.Proofs.YtjigofmcflmelaaGreatDoor
open Go.RowKit
set_option linter.unusedVariables false

end Go.Proofs.YtjigofmcflmelaaGreatDoor

namespace Go.Proofs.YtjigofmcflmelaaGreatDoor
open Go.RowKit
set_option linter.unusedVariables false

theorem zero8_noO {W : World} {b : Nat} {t : TypeId} (h : W.heap[b]? = some (.cells #[.int .i8 0, .int .u64 0, .bool false, .slice none 0 0, .int .u64 0, .int .i8 0, .string ⟨#[]⟩, .slice none 0 0] t (0, 0))) (o : Nat) (z : Int) : W.cell? ⟨b, o, none⟩ ≠ some (.int .u32 z) := by
  intro hc
  have h8 := cells8 h
  match o, hc with
  | 0, hc => rw [h8.1] at hc; cases hc
  | 1, hc => rw [h8.2.1] at hc; cases hc
  | 2, hc => rw [h8.2.2.1] at hc; cases hc
  | 3, hc => rw [h8.2.2.2.1] at hc; cases hc
  | 4, hc => rw [h8.2.2.2.2.1] at hc; cases hc
  | 5, hc => rw [h8.2.2.2.2.2.1] at hc; cases hc
  | 6, hc => rw [h8.2.2.2.2.2.2.1] at hc; cases hc
  | 7, hc => rw [h8.2.2.2.2.2.2.2.1] at hc; cases hc
  | o + 8, hc => simp [World.cell?, h] at hc
theorem reads_offO {W W' : World} {b : Nat} {v : Value} {zs : List Int} (h : Reads .u32 W v zs) (hne : ∀ o z, W.cell? ⟨b, o, none⟩ ≠ some (.int .u32 z)) (hsz : W.heap.size ≤ W'.heap.size) (hs : ∀ j, j ≠ b → W'.heap[j]? = W.heap[j]?) : Reads .u32 W' v zs := by
  obtain ⟨ao, cap, rfl, h1, h2, h3⟩ := h
  refine ⟨ao, cap, rfl, h1, h2, fun hp => ?_⟩
  obtain ⟨b', off, rfl, h4, h5⟩ := h3 hp
  have hb : b' ≠ b := by
    rintro rfl
    exact hne _ _ (h5 0 hp)
  refine ⟨b', off, rfl, Nat.lt_of_lt_of_le h4 hsz, fun i hi => ?_⟩
  have := h5 i hi
  simp only [World.cell?, hs b' hb] at this ⊢
  exact this
theorem set1_sameO {w : World} {b o : Nat} {v : Value} {j : Nat} (h : j ≠ b) : (w.setCell ⟨b, o, none⟩ v).heap[j]? = w.heap[j]? := Below.heap_setCell w ⟨b, o, none⟩ v j h
theorem set8_sameO {W : World} {b : Nat} {v0 v1 v2 v3 v4 v5 v6 v7 : Value} {j : Nat} (h : j ≠ b) : ((((((((W.setCell ⟨b, 0, none⟩ v0).setCell ⟨b, 1, none⟩ v1).setCell ⟨b, 2, none⟩ v2).setCell ⟨b, 3, none⟩ v3).setCell ⟨b, 4, none⟩ v4).setCell ⟨b, 5, none⟩ v5).setCell ⟨b, 6, none⟩ v6).setCell ⟨b, 7, none⟩ v7).heap[j]? = W.heap[j]? := by
  rw [set1_sameO h, set1_sameO h, set1_sameO h, set1_sameO h, set1_sameO h, set1_sameO h, set1_sameO h, set1_sameO h]
theorem set8_sizeO {W : World} {b : Nat} {v0 v1 v2 v3 v4 v5 v6 v7 : Value} : W.heap.size ≤ ((((((((W.setCell ⟨b, 0, none⟩ v0).setCell ⟨b, 1, none⟩ v1).setCell ⟨b, 2, none⟩ v2).setCell ⟨b, 3, none⟩ v3).setCell ⟨b, 4, none⟩ v4).setCell ⟨b, 5, none⟩ v5).setCell ⟨b, 6, none⟩ v6).setCell ⟨b, 7, none⟩ v7).heap.size := (set8_below (Below.refl 0 W) (Nat.zero_le _)).size
theorem NRd.offO {W : World} {b k : Nat} {t : TypeId} {v : Value} {z : NZ} {v0 v1 v2 v3 v4 v5 v6 v7 : Value} (h : NRd W v k z) (hg : W.heap[b]? = some (.cells #[.int .i8 0, .int .u64 0, .bool false, .slice none 0 0, .int .u64 0, .int .i8 0, .string ⟨#[]⟩, .slice none 0 0] t (0, 0))) : NRd ((((((((W.setCell ⟨b, 0, none⟩ v0).setCell ⟨b, 1, none⟩ v1).setCell ⟨b, 2, none⟩ v2).setCell ⟨b, 3, none⟩ v3).setCell ⟨b, 4, none⟩ v4).setCell ⟨b, 5, none⟩ v5).setCell ⟨b, 6, none⟩ v6).setCell ⟨b, 7, none⟩ v7) v k z := by
  cases z with
  | w n =>
    obtain ⟨g, m, a, h1, ⟨zs, h2, h3⟩, h4⟩ := h
    exact ⟨g, m, a, h1, ⟨zs, reads_offO h2 (zero8_noO hg) set8_sizeO fun j hj => set8_sameO hj, h3⟩, h4⟩
  | f b =>
    obtain ⟨h1, h2⟩ := h
    exact ⟨h1, h2⟩
theorem bx8_put {W : World} {b : Nat} {t : TypeId} {v0 v1 v2 v3 v4 v5 v6 v7 : Value} (hg : W.heap[b]? = some (.cells #[.int .i8 0, .int .u64 0, .bool false, .slice none 0 0, .int .u64 0, .int .i8 0, .string ⟨#[]⟩, .slice none 0 0] t (0, 0))) : Bx8 ((((((((W.setCell ⟨b, 0, none⟩ v0).setCell ⟨b, 1, none⟩ v1).setCell ⟨b, 2, none⟩ v2).setCell ⟨b, 3, none⟩ v3).setCell ⟨b, 4, none⟩ v4).setCell ⟨b, 5, none⟩ v5).setCell ⟨b, 6, none⟩ v6).setCell ⟨b, 7, none⟩ v7) b v0 v1 v2 v3 v4 v5 v6 v7 := by
  have h8 := cells8 hg
  have n : ∀ i j : Nat, i ≠ j → (⟨b, i, none⟩ : Addr) ≠ ⟨b, j, none⟩ := fun i j h e => h (by injection e)
  refine ⟨?_, ?_, ?_, ?_, ?_, ?_, ?_, ?_⟩
  · rw [World.cell?_setCell_other _ _ _ _ (by first | exact n 0 7 (by decide) | exact n 7 0 (by decide))]
    rw [World.cell?_setCell_other _ _ _ _ (by first | exact n 0 6 (by decide) | exact n 6 0 (by decide))]
    rw [World.cell?_setCell_other _ _ _ _ (by first | exact n 0 5 (by decide) | exact n 5 0 (by decide))]
    rw [World.cell?_setCell_other _ _ _ _ (by first | exact n 0 4 (by decide) | exact n 4 0 (by decide))]
    rw [World.cell?_setCell_other _ _ _ _ (by first | exact n 0 3 (by decide) | exact n 3 0 (by decide))]
    rw [World.cell?_setCell_other _ _ _ _ (by first | exact n 0 2 (by decide) | exact n 2 0 (by decide))]
    rw [World.cell?_setCell_other _ _ _ _ (by first | exact n 0 1 (by decide) | exact n 1 0 (by decide))]
    refine World.cell?_setCell_same (u := .int .i8 0) _ _ _ ?_
    exact h8.1
  · rw [World.cell?_setCell_other _ _ _ _ (by first | exact n 1 7 (by decide) | exact n 7 1 (by decide))]
    rw [World.cell?_setCell_other _ _ _ _ (by first | exact n 1 6 (by decide) | exact n 6 1 (by decide))]
    rw [World.cell?_setCell_other _ _ _ _ (by first | exact n 1 5 (by decide) | exact n 5 1 (by decide))]
    rw [World.cell?_setCell_other _ _ _ _ (by first | exact n 1 4 (by decide) | exact n 4 1 (by decide))]
    rw [World.cell?_setCell_other _ _ _ _ (by first | exact n 1 3 (by decide) | exact n 3 1 (by decide))]
    rw [World.cell?_setCell_other _ _ _ _ (by first | exact n 1 2 (by decide) | exact n 2 1 (by decide))]
    refine World.cell?_setCell_same (u := .int .u64 0) _ _ _ ?_
    rw [World.cell?_setCell_other _ _ _ _ (by first | exact n 1 0 (by decide) | exact n 0 1 (by decide))]
    exact h8.2.1
  · rw [World.cell?_setCell_other _ _ _ _ (by first | exact n 2 7 (by decide) | exact n 7 2 (by decide))]
    rw [World.cell?_setCell_other _ _ _ _ (by first | exact n 2 6 (by decide) | exact n 6 2 (by decide))]
    rw [World.cell?_setCell_other _ _ _ _ (by first | exact n 2 5 (by decide) | exact n 5 2 (by decide))]
    rw [World.cell?_setCell_other _ _ _ _ (by first | exact n 2 4 (by decide) | exact n 4 2 (by decide))]
    rw [World.cell?_setCell_other _ _ _ _ (by first | exact n 2 3 (by decide) | exact n 3 2 (by decide))]
    refine World.cell?_setCell_same (u := .bool false) _ _ _ ?_
    rw [World.cell?_setCell_other _ _ _ _ (by first | exact n 2 1 (by decide) | exact n 1 2 (by decide))]
    rw [World.cell?_setCell_other _ _ _ _ (by first | exact n 2 0 (by decide) | exact n 0 2 (by decide))]
    exact h8.2.2.1
  · rw [World.cell?_setCell_other _ _ _ _ (by first | exact n 3 7 (by decide) | exact n 7 3 (by decide))]
    rw [World.cell?_setCell_other _ _ _ _ (by first | exact n 3 6 (by decide) | exact n 6 3 (by decide))]
    rw [World.cell?_setCell_other _ _ _ _ (by first | exact n 3 5 (by decide) | exact n 5 3 (by decide))]
    rw [World.cell?_setCell_other _ _ _ _ (by first | exact n 3 4 (by decide) | exact n 4 3 (by decide))]
    refine World.cell?_setCell_same (u := .slice none 0 0) _ _ _ ?_
    rw [World.cell?_setCell_other _ _ _ _ (by first | exact n 3 2 (by decide) | exact n 2 3 (by decide))]
    rw [World.cell?_setCell_other _ _ _ _ (by first | exact n 3 1 (by decide) | exact n 1 3 (by decide))]
    rw [World.cell?_setCell_other _ _ _ _ (by first | exact n 3 0 (by decide) | exact n 0 3 (by decide))]
    exact h8.2.2.2.1
  · rw [World.cell?_setCell_other _ _ _ _ (by first | exact n 4 7 (by decide) | exact n 7 4 (by decide))]
    rw [World.cell?_setCell_other _ _ _ _ (by first | exact n 4 6 (by decide) | exact n 6 4 (by decide))]
    rw [World.cell?_setCell_other _ _ _ _ (by first | exact n 4 5 (by decide) | exact n 5 4 (by decide))]
    refine World.cell?_setCell_same (u := .int .u64 0) _ _ _ ?_
    rw [World.cell?_setCell_other _ _ _ _ (by first | exact n 4 3 (by decide) | exact n 3 4 (by decide))]
    rw [World.cell?_setCell_other _ _ _ _ (by first | exact n 4 2 (by decide) | exact n 2 4 (by decide))]
    rw [World.cell?_setCell_other _ _ _ _ (by first | exact n 4 1 (by decide) | exact n 1 4 (by decide))]
    rw [World.cell?_setCell_other _ _ _ _ (by first | exact n 4 0 (by decide) | exact n 0 4 (by decide))]
    exact h8.2.2.2.2.1
  · rw [World.cell?_setCell_other _ _ _ _ (by first | exact n 5 7 (by decide) | exact n 7 5 (by decide))]
    rw [World.cell?_setCell_other _ _ _ _ (by first | exact n 5 6 (by decide) | exact n 6 5 (by decide))]
    refine World.cell?_setCell_same (u := .int .i8 0) _ _ _ ?_
    rw [World.cell?_setCell_other _ _ _ _ (by first | exact n 5 4 (by decide) | exact n 4 5 (by decide))]
    rw [World.cell?_setCell_other _ _ _ _ (by first | exact n 5 3 (by decide) | exact n 3 5 (by decide))]
    rw [World.cell?_setCell_other _ _ _ _ (by first | exact n 5 2 (by decide) | exact n 2 5 (by decide))]
    rw [World.cell?_setCell_other _ _ _ _ (by first | exact n 5 1 (by decide) | exact n 1 5 (by decide))]
    rw [World.cell?_setCell_other _ _ _ _ (by first | exact n 5 0 (by decide) | exact n 0 5 (by decide))]
    exact h8.2.2.2.2.2.1
  · rw [World.cell?_setCell_other _ _ _ _ (by first | exact n 6 7 (by decide) | exact n 7 6 (by decide))]
    refine World.cell?_setCell_same (u := .string ⟨#[]⟩) _ _ _ ?_
    rw [World.cell?_setCell_other _ _ _ _ (by first | exact n 6 5 (by decide) | exact n 5 6 (by decide))]
    rw [World.cell?_setCell_other _ _ _ _ (by first | exact n 6 4 (by decide) | exact n 4 6 (by decide))]
    rw [World.cell?_setCell_other _ _ _ _ (by first | exact n 6 3 (by decide) | exact n 3 6 (by decide))]
    rw [World.cell?_setCell_other _ _ _ _ (by first | exact n 6 2 (by decide) | exact n 2 6 (by decide))]
    rw [World.cell?_setCell_other _ _ _ _ (by first | exact n 6 1 (by decide) | exact n 1 6 (by decide))]
    rw [World.cell?_setCell_other _ _ _ _ (by first | exact n 6 0 (by decide) | exact n 0 6 (by decide))]
    exact h8.2.2.2.2.2.2.1
  · refine World.cell?_setCell_same (u := .slice none 0 0) _ _ _ ?_
    rw [World.cell?_setCell_other _ _ _ _ (by first | exact n 7 6 (by decide) | exact n 6 7 (by decide))]
    rw [World.cell?_setCell_other _ _ _ _ (by first | exact n 7 5 (by decide) | exact n 5 7 (by decide))]
    rw [World.cell?_setCell_other _ _ _ _ (by first | exact n 7 4 (by decide) | exact n 4 7 (by decide))]
    rw [World.cell?_setCell_other _ _ _ _ (by first | exact n 7 3 (by decide) | exact n 3 7 (by decide))]
    rw [World.cell?_setCell_other _ _ _ _ (by first | exact n 7 2 (by decide) | exact n 2 7 (by decide))]
    rw [World.cell?_setCell_other _ _ _ _ (by first | exact n 7 1 (by decide) | exact n 1 7 (by decide))]
    rw [World.cell?_setCell_other _ _ _ _ (by first | exact n 7 0 (by decide) | exact n 0 7 (by decide))]
    exact h8.2.2.2.2.2.2.2.1
/-- has it come up, the slot holds that -/
def LdO (b : Bool) (s v : Value) : Prop := b = true → s = v
/-- has it come up, the slot holds a number -/
def ReO (b : Bool) (w : World) (s : Value) (k : Nat) (P : NZ → Prop) : Prop := b = true → ∃ z, NRd w s k z ∧ P z
/-- has it come up, the slot points to eight cells above B; noughts, as long as nothing has been stored -/
def AlO (ba bs : Bool) (B : Nat) (t : TypeId) (w : World) (s : Value) : Prop := ba = true → ∃ c, s = .pointer (some ⟨c, 0, none⟩) ∧ B ≤ c ∧ c < w.heap.size ∧ (bs = false → w.heap[c]? = some (.cells #[.int .i8 0, .int .u64 0, .bool false, .slice none 0 0, .int .u64 0, .int .i8 0, .string ⟨#[]⟩, .slice none 0 0] t (0, 0)))
def UnO (b c : Bool) (s t : Value) : Prop := b = true → c = true → s ≠ t
/-- has it come up, the cells hold that -/
def StO (b ua uc : Bool) (w : World) (s r : Value) : Prop := b = true → ua = true ∧ uc = true ∧ ∃ c v0 v1 v2 v3 v4 v5 v6 v7, s = .pointer (some ⟨c, 0, none⟩) ∧ r = .agg #[v0, v1, v2, v3, v4, v5, v6, v7] ∧ Bx8 w c v0 v1 v2 v3 v4 v5 v6 v7
theorem ReO.below {b : Bool} {w w' : World} {s : Value} {k : Nat} {P : NZ → Prop} (h : ReO b w s k P) (hb : Below w.heap.size w w') : ReO b w' s k P := fun e => by
  obtain ⟨z, h1, h2⟩ := h e
  exact ⟨z, h1.below hb, h2⟩
theorem AlO.below {ba bs : Bool} {B : Nat} {t : TypeId} {w w' : World} {s : Value} (h : AlO ba bs B t w s) (hb : Below w.heap.size w w') : AlO ba bs B t w' s := fun e => by
  obtain ⟨c, h1, h2, h3, h4⟩ := h e
  exact ⟨c, h1, h2, Nat.lt_of_lt_of_le h3 hb.size, fun e => (hb.block c h3).trans (h4 e)⟩
theorem StO.below {b ua uc : Bool} {w w' : World} {s r : Value} (h : StO b ua uc w s r) (hb : Below w.heap.size w w') : StO b ua uc w' s r := fun e => by
  obtain ⟨a1, a2, c, v0, v1, v2, v3, v4, v5, v6, v7, h1, h2, h3⟩ := h e
  exact ⟨a1, a2, c, v0, v1, v2, v3, v4, v5, v6, v7, h1, h2, h3.below hb h3.lt⟩
theorem ReO.put {b : Bool} {W : World} {s : Value} {k c : Nat} {t : TypeId} {P : NZ → Prop} {v0 v1 v2 v3 v4 v5 v6 v7 : Value} (h : ReO b W s k P) (hg : W.heap[c]? = some (.cells #[.int .i8 0, .int .u64 0, .bool false, .slice none 0 0, .int .u64 0, .int .i8 0, .string ⟨#[]⟩, .slice none 0 0] t (0, 0))) : ReO b ((((((((W.setCell ⟨c, 0, none⟩ v0).setCell ⟨c, 1, none⟩ v1).setCell ⟨c, 2, none⟩ v2).setCell ⟨c, 3, none⟩ v3).setCell ⟨c, 4, none⟩ v4).setCell ⟨c, 5, none⟩ v5).setCell ⟨c, 6, none⟩ v6).setCell ⟨c, 7, none⟩ v7) s k P := fun e => by
  obtain ⟨z, h1, h2⟩ := h e
  exact ⟨z, h1.offO hg, h2⟩
theorem AlO.put {ba bs : Bool} {B : Nat} {t : TypeId} {W : World} {s : Value} {c : Nat} {v0 v1 v2 v3 v4 v5 v6 v7 : Value} (h : AlO ba bs B t W s) (hn : ba = true → s ≠ .pointer (some ⟨c, 0, none⟩)) : AlO ba bs B t ((((((((W.setCell ⟨c, 0, none⟩ v0).setCell ⟨c, 1, none⟩ v1).setCell ⟨c, 2, none⟩ v2).setCell ⟨c, 3, none⟩ v3).setCell ⟨c, 4, none⟩ v4).setCell ⟨c, 5, none⟩ v5).setCell ⟨c, 6, none⟩ v6).setCell ⟨c, 7, none⟩ v7) s := fun e => by
  obtain ⟨c', h1, h2, h3, h4⟩ := h e
  have hc : c' ≠ c := fun q => hn e (by rw [h1, q])
  exact ⟨c', h1, h2, Nat.lt_of_lt_of_le h3 set8_sizeO, fun e => (set8_sameO hc).trans (h4 e)⟩
theorem AlO.done {ba bs : Bool} {B : Nat} {t : TypeId} {W : World} {s : Value} {c : Nat} {v0 v1 v2 v3 v4 v5 v6 v7 : Value} (h : AlO ba bs B t W s) : AlO ba true B t ((((((((W.setCell ⟨c, 0, none⟩ v0).setCell ⟨c, 1, none⟩ v1).setCell ⟨c, 2, none⟩ v2).setCell ⟨c, 3, none⟩ v3).setCell ⟨c, 4, none⟩ v4).setCell ⟨c, 5, none⟩ v5).setCell ⟨c, 6, none⟩ v6).setCell ⟨c, 7, none⟩ v7) s := fun e => by
  obtain ⟨c', h1, h2, h3, h4⟩ := h e
  exact ⟨c', h1, h2, Nat.lt_of_lt_of_le h3 set8_sizeO, fun e => by cases e⟩
theorem StO.away {b ua uc : Bool} {W : World} {s r : Value} {c : Nat} {v0 v1 v2 v3 v4 v5 v6 v7 : Value} (h : StO b ua uc W s r) (hn : b = true → s ≠ .pointer (some ⟨c, 0, none⟩)) : StO b ua uc ((((((((W.setCell ⟨c, 0, none⟩ v0).setCell ⟨c, 1, none⟩ v1).setCell ⟨c, 2, none⟩ v2).setCell ⟨c, 3, none⟩ v3).setCell ⟨c, 4, none⟩ v4).setCell ⟨c, 5, none⟩ v5).setCell ⟨c, 6, none⟩ v6).setCell ⟨c, 7, none⟩ v7) s r := fun e => by
  obtain ⟨a1, a2, c', x0, x1, x2, x3, x4, x5, x6, x7, h1, h2, h3⟩ := h e
  have hc : c' ≠ c := fun q => hn e (by rw [h1, q])
  exact ⟨a1, a2, c', x0, x1, x2, x3, x4, x5, x6, x7, h1, h2, h3.same (set8_sameO hc)⟩
theorem StO.off {b ua uc ua' uc' : Bool} {w w' : World} {s r s' r' : Value} (h : StO b ua uc w s r) (hn : ua = false ∨ uc = false) : StO b ua' uc' w' s' r' := fun e => by
  obtain ⟨a1, a2, -⟩ := h e
  rcases hn with q | q
  · rw [q] at a1; cases a1
  · rw [q] at a2; cases a2
theorem AlO.new {w : World} {B : Nat} {bs : Bool} (hB : B ≤ w.heap.size) (t : TypeId) : AlO true bs B t (w.alloc (.cells #[.int .i8 0, .int .u64 0, .bool false, .slice none 0 0, .int .u64 0, .int .i8 0, .string ⟨#[]⟩, .slice none 0 0] t)) (.pointer (some ⟨w.heap.size, 0, none⟩)) := fun _ => ⟨_, rfl, hB, by simp, fun _ => heap_alloc_new w _⟩
theorem AlO.unlike {b c bs : Bool} {B : Nat} {t : TypeId} {w : World} {s : Value} (h : AlO b bs B t w s) : UnO b c s (.pointer (some ⟨w.heap.size, 0, none⟩)) := fun e _ q => by
  obtain ⟨c', h1, h2, h3, h4⟩ := h e
  rw [h1] at q
  have : c' = w.heap.size := by
    injection q with q
    injection q with q
    injection q
  omega
theorem UnO.symm {b c : Bool} {s t : Value} (h : UnO b c s t) : UnO c b t s := fun x y e => h y x e.symm
theorem AlO.unlike' {b c bs : Bool} {B : Nat} {t : TypeId} {w : World} {s : Value} (h : AlO b bs B t w s) : UnO c b (.pointer (some ⟨w.heap.size, 0, none⟩)) s := h.unlike.symm

/-- a value that is a number, in eight cells -/
structure Nv (w : World) (b : Nat) (k1 : Int) (g1 : Bool) (o1 : Option Addr) (l1 c1 : Nat) (t1 : Int) (k : Nat) (z : NZ) : Prop where
  bx : Bx8 w b (.int .i8 k1) (.int .u64 0) (.bool g1) (.slice o1 l1 c1) (.int .u64 t1) (.int .i8 0) (.string ⟨#[]⟩) (.slice none 0 0)
  rd : NRd w (.agg #[.int .i8 k1, .int .u64 0, .bool g1, .slice o1 l1 c1, .int .u64 t1, .int .i8 0, .string ⟨#[]⟩, .slice none 0 0]) k z
theorem Nv.below {w w' : World} {b : Nat} {k1 : Int} {g1 : Bool} {o1 : Option Addr} {l1 c1 : Nat} {t1 : Int} {k : Nat} {z : NZ} (h : Nv w b k1 g1 o1 l1 c1 t1 k z) (hb : Below w.heap.size w w') : Nv w' b k1 g1 o1 l1 c1 t1 k z := ⟨h.bx.below hb h.bx.lt, h.rd.below hb⟩
end Go.Proofs.YtjigofmcflmelaaGreatDoor

namespace Go.Proofs.YtjigofmcflmelaaGreatDoor
open Go.RowKit
set_option linter.unusedVariables false

theorem carg_one (w : World) (x : Int) (x0 : 0 < x) (x1 : x < 4294967296) : CArg (w.alloc (.cells #[.int .u32 x] 48)) (.slice (some ⟨w.heap.size, 0, none⟩) 1 1) x 1 := by
  have hr : Row .u32 48 (w.alloc (.cells #[.int .u32 x] 48)) w.heap.size [x] := by
    unfold Row
    exact World.alloc_heap_new w _
  refine ⟨[x], ⟨some ⟨w.heap.size, 0, none⟩, 1, rfl, Nat.le_refl _, by unfold maxLen; omega, fun _ => ⟨w.heap.size, 0, rfl, hr.lt, fun i hi => ?_⟩⟩, ⟨?_, ?_⟩, ?_, Nat.le_refl _⟩
  · rw [Nat.zero_add]
    exact hr.cell hi
  · intro i
    match i with
    | 0 => simp [Nt.lb]; omega
    | i + 1 => simp [Nt.lb]
  · intro _
    simp [Nt.lb]
    omega
  · simp [Nt.val, Nt.vt, Nt.lb, Nt.pw]

set_option maxHeartbeats 8000000 in
set_option maxRecDepth 20000 in
theorem nlives {w : World} (L : Lays w) (T : Brn w) (U : Uss w) : Calls Tryz.prog 13 #[] w fun e' w' => e' = .returned (.bool true) ∧ Below w.heap.size w w' := by
  have HL := hide L
  have HT := hide T
  have HU := hide U
  clear L T U
  go_enter Tryz.func13, Tryz.ntmps13
  go_wp2_with fail
  with_reducible refine (nof_16 HL.out HT.out 15872 (by decide) (by decide)).mono ?_
  rintro e w1 ⟨v, z, rfl, hN, hz, K1⟩
  obtain rfl := live_half hz
  obtain ⟨rfl, hF⟩ := hN
  have HK1 := hide K1
  have HNF := hide (fun (W : World) => (show NRd W (nvF 4609434218613702656) 1 (.f 4609434218613702656) from ⟨rfl, hF⟩))
  clear K1 hz hF
  go_upto_region 2 with fail
  have B1 := hide (bx8_new w1 (.int .i8 4) (.int .u64 0) (.bool false) (.slice none 0 0) (.int .u64 4609434218613702656) (.int .i8 0) (.string ⟨#[]⟩) (.slice none 0 0) 31)
  have K2 := hide (below_trans HK1.out (bel_new w1 (.cells #[.int .i8 4, .int .u64 0, .bool false, .slice none 0 0, .int .u64 4609434218613702656, .int .i8 0, .string ⟨#[]⟩, .slice none 0 0] 31)))
  generalize w1.alloc (.cells #[.int .i8 4, .int .u64 0, .bool false, .slice none 0 0, .int .u64 4609434218613702656, .int .i8 0, .string ⟨#[]⟩, .slice none 0 0] 31) = w2 at *
  have hC := hide (carg_one w2 65505 (by decide) (by decide))
  have K3 := bel_new w2 (.cells #[.int .u32 65505] 48)
  have HB3 := hide (B1.out.below K3 B1.out.lt)
  have HK3 := hide (below_trans K2.out K3)
  clear K3
  go_wp2_with fail
  generalize w2.alloc (.cells #[.int .u32 65505] 48) = w3 at *
  have hN2 : NRd w3 (nvW false (.slice (some ⟨w2.heap.size, 0, none⟩) 1 1)) 1 (.w 65505) := ⟨false, _, 65505, rfl, hC.out, rfl, fun h => by cases h⟩
  with_reducible refine (narrow_any (HL.out.below HK3.out) (HT.out.below HK3.out) (HU.out.below HK3.out) hN2 (by decide)).mono ?_
  rintro e w4 ⟨wd, y, ok, rfl, -, -, hA, K4⟩
  obtain ⟨rfl, rfl, rfl⟩ := live_narrow hA
  have HB4 := hide (HB3.out.below K4 HB3.out.lt)
  have HK4 := hide (below_trans HK3.out K4)
  clear hA K4 hN2 HB3 B1 K2 hC
  go_upto_region 3 with fail
  have CC : ∀ u : World, Below w4.heap.size w4 u → u.cell? ⟨w1.heap.size, 0, none⟩ = some (.int .i8 4) ∧ u.cell? ⟨w1.heap.size, 1, none⟩ = some (.int .u64 0) ∧ u.cell? ⟨w1.heap.size, 2, none⟩ = some (.bool false) ∧ u.cell? ⟨w1.heap.size, 3, none⟩ = some (.slice none 0 0) ∧ u.cell? ⟨w1.heap.size, 4, none⟩ = some (.int .u64 4609434218613702656) ∧ u.cell? ⟨w1.heap.size, 5, none⟩ = some (.int .i8 0) ∧ u.cell? ⟨w1.heap.size, 6, none⟩ = some (.string ⟨#[]⟩) ∧ u.cell? ⟨w1.heap.size, 7, none⟩ = some (.slice none 0 0) := fun u hu => HB4.out.below hu HB4.out.lt
  have K : Below w4.heap.size w4 w4.drew := (Below.refl _ _).drew
  go_region_held3 (fun u => u.cell? ⟨w1.heap.size, 0, none⟩ = some (.int .i8 4) ∧ u.cell? ⟨w1.heap.size, 1, none⟩ = some (.int .u64 0) ∧ u.cell? ⟨w1.heap.size, 2, none⟩ = some (.bool false) ∧ u.cell? ⟨w1.heap.size, 3, none⟩ = some (.slice none 0 0) ∧ u.cell? ⟨w1.heap.size, 4, none⟩ = some (.int .u64 4609434218613702656) ∧ u.cell? ⟨w1.heap.size, 5, none⟩ = some (.int .i8 0) ∧ u.cell? ⟨w1.heap.size, 6, none⟩ = some (.string ⟨#[]⟩) ∧ u.cell? ⟨w1.heap.size, 7, none⟩ = some (.slice none 0 0)) (first | with_reducible exact CC _ K)
    (first
      | (go_at_call 21; (with_reducible refine (nof_32 (HL.out.below (HK4.out.trans (K.mono HK4.out.size))) (HT.out.below (HK4.out.trans (K.mono HK4.out.size))) 1065353216 (by decide) (by decide)).mono ?_); rintro e w5 ⟨v5, z5, rfl, hN5, hz5, hb5⟩; replace K := K.trans (hb5.mono K.size))
      | (go_at_call 14; (with_reducible refine (ncmp_any (HL.out.below (HK4.out.trans (K.mono HK4.out.size))) (HT.out.below (HK4.out.trans (K.mono HK4.out.size))) (HU.out.below (HK4.out.trans (K.mono HK4.out.size))) hN5 (HNF.out _) (by decide) (by decide)).mono ?_); rintro e w6 ⟨rfl, hb6⟩; replace K := K.trans (hb6.mono K.size)))
  obtain rfl := live_one hz5
  rw [show ncmp64 (.w 1) (.f 4609434218613702656) = (-1, true) from live_cmp]
  have KZ := hide (HK4.out.trans (K.mono HK4.out.size))
  obtain ⟨x0, x1, x2, x3, x4, x5, x6, x7⟩ := CC _ K
  clear CC K HB4 hz5 hN5
  go_wp2
  go_ret
  exact ⟨rfl, KZ.out⟩

end Go.Proofs.YtjigofmcflmelaaGreatDoor
