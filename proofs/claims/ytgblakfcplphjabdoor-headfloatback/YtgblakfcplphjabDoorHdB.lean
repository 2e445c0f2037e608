/- HeadFloatBack: the walk -/
import Derived.Test.YtgblakfcplphjabDoorHdA
namespace Go.Proofs.YtgblakfcplphjabDoor
open Go.RowKit
set_option linter.unusedVariables false

set_option maxRecDepth 100000 in
set_option maxHeartbeats 4000000 in
theorem hfloatback {w : World} {a : Nat → Addr} {v x : Int} (hSn : Snt w a) (hH : Hnd w) (hT : Beh w) (hx0 : 0 ≤ x) (hx1 : x < 18446744073709551616) :
    Calls Tryd.prog 3 #[.int .i64 v, .int .u64 x] w fun e w' => e = .returned (.bool true) ∧ Below w.heap.size w w' := by
  have CL := hide (lives19 hSn hH hT)
  have CF := hide (fun w1 (h : Below w.heap.size w w1) => hfloat_any (w := w1) (v := v) (hT.below h) hx0 hx1)
  have HR := hide (show ∀ (i : Int), 24 < i → i ≤ 27 → x < p256 (hN i).toNat → ∀ w1, Below w.heap.size w w1 → Calls Tryd.prog 6 #[.string (strOfNums (hdL 7 i x)), .int .i64 0] w1 fun e w' => e = .returned (.tuple #[hdV 7 i x (1 + hN i), .nilIface]) ∧ Below w1.heap.size w1 w' from fun i h0 h1 h2 w1 h => by
    have := hread_any (w := w1) (a := a) (es := hdL 7 i x) (k := 0) (hSn.below h) (hT.below h) (hdL_byt x ⟨by omega, by omega⟩ ⟨by omega, by omega⟩) rfl (by rw [hdL_len]; have := hN_cases i; omega)
    rw [rd_hdL ⟨by omega, by omega⟩ ⟨by omega, h1⟩ hx0 (Or.inl h2) (by omega)] at this
    exact this)
  have hc := hF_cases v x
  obtain ⟨f, hf⟩ : ∃ f, hF v x = f := ⟨_, rfl⟩
  rw [hf] at hc CF
  clear hf hSn hH hT
  go_enter Tryd.func3, Tryd.ntmps3
  go_wp2_with fail
  refine CL.out.mono ?_
  rintro e w1 ⟨rfl, hb1⟩
  have HB1 := hide hb1
  clear hb1 CL
  go_wp2_with fail
  refine (CF.out w1 HB1.out).mono ?_
  rintro e w2 ⟨rfl, hb2⟩
  have HB2 := hide (HB1.out.trans (hb2.mono HB1.out.size))
  clear hb2 CF
  rcases hc with ⟨rfl, h, rfl⟩ | ⟨rfl, h, rfl⟩ | ⟨rfl, rfl⟩ | ⟨rfl, n16, n32, n64⟩
  · rw [if_neg (by decide)]
    rw [show (((25 : Int) != 0)) = true by decide]
    have CR := hide (HR.out 25 (by omega) (by omega) h w2 HB2.out)
    rw [show hN 25 = 2 from rfl] at CR
    have hz : (strOfNums (hdL 7 25 x)).size = 3 := by rw [strOfNums_size, hdL_len]; rfl
    obtain ⟨s, hs⟩ : ∃ s, strOfNums (hdL 7 25 x) = s := ⟨_, rfl⟩
    rw [hs] at CR hz ⊢
    clear hs HR
    go_wp2_with fail
    refine CR.out.mono ?_
    rintro e w3 ⟨rfl, hb3⟩
    have HB3 := hide ((HB2.out.trans (hb3.mono HB2.out.size)).alloc (Nat.le_trans HB2.out.size hb3.size) (.cells #[.int .u8 7, .int .u8 25, .int .u64 x, .int .i64 3] 27))
    clear hb3 CR
    simp only [hdV]
    go_wp2
    go_ret
    exact ⟨by simp, HB3.out⟩
  · rw [if_neg (by decide)]
    rw [show (((26 : Int) != 0)) = true by decide]
    have CR := hide (HR.out 26 (by omega) (by omega) h w2 HB2.out)
    rw [show hN 26 = 4 from rfl] at CR
    have hz : (strOfNums (hdL 7 26 x)).size = 5 := by rw [strOfNums_size, hdL_len]; rfl
    obtain ⟨s, hs⟩ : ∃ s, strOfNums (hdL 7 26 x) = s := ⟨_, rfl⟩
    rw [hs] at CR hz ⊢
    clear hs HR
    go_wp2_with fail
    refine CR.out.mono ?_
    rintro e w3 ⟨rfl, hb3⟩
    have HB3 := hide ((HB2.out.trans (hb3.mono HB2.out.size)).alloc (Nat.le_trans HB2.out.size hb3.size) (.cells #[.int .u8 7, .int .u8 26, .int .u64 x, .int .i64 5] 27))
    clear hb3 CR
    simp only [hdV]
    go_wp2
    go_ret
    exact ⟨by simp, HB3.out⟩
  · rw [if_neg (by decide)]
    rw [show (((27 : Int) != 0)) = true by decide]
    have CR := hide (HR.out 27 (by omega) (by omega) hx1 w2 HB2.out)
    rw [show hN 27 = 8 from rfl] at CR
    have hz : (strOfNums (hdL 7 27 x)).size = 9 := by rw [strOfNums_size, hdL_len]; rfl
    obtain ⟨s, hs⟩ : ∃ s, strOfNums (hdL 7 27 x) = s := ⟨_, rfl⟩
    rw [hs] at CR hz ⊢
    clear hs HR
    go_wp2_with fail
    refine CR.out.mono ?_
    rintro e w3 ⟨rfl, hb3⟩
    have HB3 := hide ((HB2.out.trans (hb3.mono HB2.out.size)).alloc (Nat.le_trans HB2.out.size hb3.size) (.cells #[.int .u8 7, .int .u8 27, .int .u64 x, .int .i64 9] 27))
    clear hb3 CR
    simp only [hdV]
    go_wp2
    go_ret
    exact ⟨by simp, HB3.out⟩
  · rw [if_pos rfl, show (((0 : Int) != 0)) = false by decide]
    have m64 : (v != 64) = true := by simpa using n64
    by_cases h16 : v = 16
    · subst h16
      have hq : (x / 65536 != 0) = true := by simp; omega
      go_wp2
      go_ret
      exact ⟨by simp, HB2.out⟩
    · have m16 : (v != 16) = true := by simpa using h16
      by_cases h32 : v = 32
      · subst h32
        have hq : (x / 4294967296 != 0) = true := by simp; omega
        go_wp2
        go_ret
        exact ⟨by simp, HB2.out⟩
      · have m32 : (v != 32) = true := by simpa using h32
        go_wp2
        go_ret
        exact ⟨by simp, HB2.out⟩

end Go.Proofs.YtgblakfcplphjabDoor
