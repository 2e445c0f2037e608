/- strings.TrimLeft, where the set is the byte 0 -/
import Derived.Test.YtmpdkeafbjibpaaDoorQBytes
import Derived.Deep.LoopGhost
namespace Go.Proofs.YtmpdkeafbjibpaaDoor
open Go.RowKit

theorem bytes_uncons {v : ByteArray} (h : 0 < v.size) : v.data.toList = v[0] :: (v.extract 1 v.size).data.toList := by
  have e : (v.extract 1 v.size).data = v.data.extract 1 v.size := by simp
  rw [e]
  have h2 : 0 < v.data.size := h
  apply List.ext_getElem
  · simp; have : v.data.size = v.size := rfl; omega
  · intro i h1 h3
    cases i with
    | zero => rfl
    | succ i => simp

set_option maxRecDepth 20000 in
set_option maxHeartbeats 2000000 in
theorem trim0_any {w : World} {u : ByteArray} (hu : u.size ≤ 1099511627776) :
    Calls Tryd.prog 79 #[.string u, .int .u8 0] w fun e w' => ∃ v : ByteArray, e = .returned (.string v) ∧ w' = w ∧ v.data.toList = u.data.toList.dropWhile (· == 0) := by
  go_enter Tryd.func79, Tryd.ntmps79
  go_wp2
  go_loopg [0] u.size (fun c s wr => ∃ v : ByteArray, s = .string v ∧ v.size = c ∧ c ≤ 1099511627776 ∧ v.data.toList.dropWhile (· == 0) = u.data.toList.dropWhile (· == 0) ∧ wr = w)
  case atStart => exact ⟨u, rfl, rfl, hu, rfl, rfl⟩
  case round =>
    obtain ⟨v, rfl, hc, hcb, hd, rfl⟩ := hrel
    subst hc
    have HD := hide hd
    clear hd
    by_cases hp : 0 < v.size
    · have hun := bytes_uncons hp
      have hp2 : (0 : Int) < (v.size : Int) := by omega
      by_cases h0 : v[0] = 0
      · have hz : (((v[0].toNat : Nat) : Int) == 0) = true := by rw [h0]; rfl
        have hnew : (v.extract 1 v.size).data.toList.dropWhile (· == 0) = u.data.toList.dropWhile (· == 0) := by
          have h := HD.out
          rw [hun, List.dropWhile_cons, h0] at h
          simpa using h
        have hsz : (v.extract 1 v.size).size = v.size - 1 := by simp
        have HN := hide hnew
        have HS := hide hsz
        clear hun hnew hsz h0
        go_wp2
        go_roundg (v.size - 1)
        case measure => omega
        case rel => exact ⟨v.extract 1 v.size, rfl, HS.out, by omega, HN.out, rfl⟩
      · have hz : (((v[0].toNat : Nat) : Int) == 0) = false := by
          simp
          intro h
          exact h0 (UInt8.toNat_inj.1 (by simpa using h))
        have hfin : v.data.toList = u.data.toList.dropWhile (· == 0) := by
          rw [← HD.out, hun, List.dropWhile_cons]
          simp [h0]
        have HF := hide hfin
        clear hun hfin h0
        go_wp2
        go_ret
        exact ⟨v, rfl, rfl, HF.out⟩
    · have hs0 : v.size = 0 := by omega
      have hl0 : v.data.toList = [] := by
        apply List.eq_nil_of_length_eq_zero
        rw [Array.length_toList]
        exact hs0
      have hfin : v.data.toList = u.data.toList.dropWhile (· == 0) := by
        rw [← HD.out, hl0]; rfl
      have hp2 : ¬ (0 : Int) < (v.size : Int) := by omega
      have HF := hide hfin
      clear hl0 hfin hp
      go_wp2
      go_ret
      exact ⟨v, rfl, rfl, HF.out⟩

set_option maxRecDepth 20000 in
set_option maxHeartbeats 2000000 in
theorem trimLeft0_any {w : World} {u : ByteArray} (hu : u.size ≤ 1099511627776) :
    Calls Tryd.prog 69 #[.string u, .string ⟨#[0]⟩] w fun e w' => ∃ v : ByteArray, e = .returned (.string v) ∧ w' = w ∧ v.data.toList = u.data.toList.dropWhile (· == 0) := by
  by_cases h : u.toList = []
  · have hl0 : u.data.toList = [] := by rw [← ByteArray.toList_eq]; exact h
    have HF : Hid (u.data.toList = u.data.toList.dropWhile (· == 0)) := hide (by rw [hl0]; rfl)
    clear hl0
    go_enter Tryd.func69, Tryd.ntmps69
    go_wp2
    go_ret
    exact ⟨u, rfl, rfl, HF.out⟩
  · have hb : u.toList.isEmpty = false := by simpa using h
    have c0 : ((({ data := #[0] } : ByteArray)[0].toNat : Nat) : Int) = 0 := rfl
    go_enter Tryd.func69, Tryd.ntmps69
    go_wp2_with fail
    refine (trim0_any hu).mono ?_
    rintro e w' ⟨v, rfl, rfl, hv⟩
    have HV := hide hv
    clear hv
    go_wp2
    go_ret
    exact ⟨v, rfl, rfl, HV.out⟩

end Go.Proofs.YtmpdkeafbjibpaaDoor
