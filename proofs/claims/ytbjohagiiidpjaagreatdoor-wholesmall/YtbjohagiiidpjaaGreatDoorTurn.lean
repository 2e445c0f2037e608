/- whole.turnOver -/
import Derived.Test.YtbjohagiiidpjaaGreatDoorQBytes
import Derived.Handy
namespace Go.Proofs.YtbjohagiiidpjaaGreatDoor
open Go.RowKit

theorem xor_ones8 (n : Nat) (h : n < 256) : 255 ^^^ n = 255 - n := by
  have e : (BitVec.allOnes 8 ^^^ BitVec.ofNat 8 n).toNat = (~~~ BitVec.ofNat 8 n).toNat := by rw [BitVec.allOnes_xor]
  rw [BitVec.toNat_xor, BitVec.toNat_not, BitVec.toNat_allOnes, BitVec.toNat_ofNat, Nat.mod_eq_of_lt (by omega)] at e
  simpa using e
theorem flip8 {x : Int} (h0 : 0 ≤ x) (h1 : x < 256) : bits BinOp.xor IntKind.u8 (if IntKind.u8.signed = true then -1 else IntKind.u8.max) x = 255 - x := by
  obtain ⟨n, rfl⟩ := Int.eq_ofNat_of_zero_le h0
  have hn : n < 256 := by omega
  rw [show (if IntKind.u8.signed = true then (-1 : Int) else IntKind.u8.max) = ((255 : Nat) : Int) from rfl, u8_xor_nat 255 n (by omega) (by omega), xor_ones8 n hn]
  omega

def flip (zs : List Int) : List Int := zs.map fun z => 255 - z
theorem flip_length (zs : List Int) : (flip zs).length = zs.length := by simp [flip]
theorem flip_set {zs cur : List Int} {k : Nat} (hl : cur.length = zs.length) (hk : k < zs.length) (h1 : cur.take k = (flip zs).take k) (h2 : ∀ i, k ≤ i → Nt.lb cur i = Nt.lb zs i) {y : Int} (hy : y = 255 - Nt.lb zs k) : (cur.set k y).take (k + 1) = (flip zs).take (k + 1) ∧ ∀ i, k + 1 ≤ i → Nt.lb (cur.set k y) i = Nt.lb zs i := by
  subst hy
  refine ⟨?_, fun i hi => ?_⟩
  · rw [List.take_succ_eq_append_getElem (by rw [List.length_set]; omega), List.take_succ_eq_append_getElem (by rw [flip_length]; exact hk), List.take_set_of_le (Nat.le_refl _), h1]
    simp [flip, Nt.lb, hk]
  · rw [← h2 i (by omega)]
    simp only [Nt.lb, List.getD_eq_getElem?_getD]
    rw [List.getElem?_set_ne (by omega)]

set_option maxHeartbeats 2000000 in
theorem turnOver_any {w : World} {g N : Nat} {zs : List Int} (hr : Row .u8 5 w g zs) (hl : zs.length = N) (ho : Nb.Ok zs) (hN : N ≤ 1099511627776) :
    Calls Tryz.prog 71 #[.slice (some ⟨g, 0, none⟩) N N] w fun e w' => e = .returned (.tuple #[]) ∧ Row .u8 5 w' g (flip zs) ∧ Below g w w' := by
  have HL := hide hl
  clear hl
  go_enter Tryz.func71, Tryz.ntmps71
  go_wp2
  go_loopw [5] (fun i wr => ∃ (k : Nat) (cur : List Int), k ≤ N ∧ i = .int .i64 k ∧ cur.length = zs.length ∧ cur.take k = (flip zs).take k ∧ (∀ i, k ≤ i → Nt.lb cur i = Nt.lb zs i) ∧ Row .u8 5 wr g cur ∧ Below g w wr) (fun i _ => N - (intOf i).toNat)
  case atStart => exact ⟨0, zs, by omega, rfl, rfl, by simp, fun _ _ => rfl, hr, Below.refl _ _⟩
  case round =>
    obtain ⟨k, cur, hk, rfl, hcl, hct, hcr, hrow, hbr⟩ := hrel
    have hkk := hcr k (Nat.le_refl _)
    have HA := hide (And.intro hcl (And.intro hct hcr))
    clear hcl hct hcr hr
    by_cases hkN : k < N
    · have g1 := hrow.cell (i := k) (by have := HA.out.1; have := HL.out; omega)
      have hfz := hrow.frozen k
      have bk := ho k
      rw [hkk] at g1
      clear hkk
      have b0 : 0 ≤ Nt.lb zs k := bk.1
      have b1 : Nt.lb zs k < 256 := bk.2
      have hfl := hide (flip8 b0 b1)
      go_wp2
      rw [hfl.out]
      go_roundw
      case rel => 
        have hstep := flip_set HA.out.1 (by have := HL.out; omega) HA.out.2.1 HA.out.2.2 (y := 255 - Nt.lb zs k) rfl
        exact ⟨k + 1, cur.set k (255 - Nt.lb zs k), by omega, by go_num, by rw [List.length_set, HA.out.1], hstep.1, hstep.2, hrow.set _ _, hbr.setCell (p := ⟨g, k, none⟩) (Nat.le_refl _) _⟩
      case measure => simp [intOf]; omega
    · go_wp2
      go_returns
      refine ⟨rfl, ?_, hbr⟩
      have h1 := HA.out.1
      have h2 := HA.out.2.1
      have h3 := HL.out
      have : cur = flip zs := by
        rw [List.take_of_length_le (by omega), List.take_of_length_le (by rw [flip_length]; omega)] at h2
        exact h2
      rw [← this]
      exact hrow

end Go.Proofs.YtbjohagiiidpjaaGreatDoor
