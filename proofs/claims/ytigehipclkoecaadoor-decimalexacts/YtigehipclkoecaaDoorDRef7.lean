/- crucibleref07: Fine, Plain -/
import Derived.Test.YtigehipclkoecaaDoorDNum
namespace Go.Proofs.YtigehipclkoecaaDoor
open Go.RowKit
set_option linter.unusedVariables false

/-- the digits between the noughts at both ends: from a to b -/
def Btw (es : List Int) (N a b : Nat) : Prop := a ≤ b ∧ b ≤ N ∧ (∀ j, j < a → Nt.lb es j = 48) ∧ (∀ j, b ≤ j → j < N → Nt.lb es j = 48) ∧ (a < b → Nt.lb es a ≠ 48 ∧ Nt.lb es (b - 1) ≠ 48) ∧ (a = b → a = N)
set_option maxRecDepth 100000 in
set_option maxHeartbeats 4000000 in
theorem plain7 {w : World} {es : List Int} {s : ByteArray} {N : Nat} (hd : Byt es) (hs : s = strOfNums es) (hN : es.length = N) (hl : N ≤ 4611686018427387904) :
    Calls Tryd.prog 15 #[.string s] w fun e w' => w' = w ∧ ∃ a b : Nat, Btw es N a b ∧ e = .returned (.tuple #[.string (strOfNums ((es.take b).drop a)), .int .i64 a]) := by
  have hsz : s.size = N := by rw [hs, strOfNums_size, hN]
  have HS := hide hs
  have hix : ∀ p (h : p < s.size), ((s[p]'h).toNat : Int) = Nt.lb es p := by
    intro p h
    subst hs
    exact txt_at h hd
  have Hix := hide hix
  clear hd hN hs hix
  go_enter Tryd.func15, Tryd.ntmps15
  go_wp2
  go_loopg [4] N (fun c iv wr => ∃ i : Nat, i ≤ N ∧ c = N - i ∧ iv = .int .i64 i ∧ wr = w ∧ ∀ j, j < i → Nt.lb es j = 48)
  case atStart => exact ⟨0, by omega, rfl, rfl, rfl, fun j hj => absurd hj (by omega)⟩
  case round =>
    obtain ⟨i, hi, hgi, rfl, hw, hD⟩ := hrel
    replace hw := hw.symm
    subst hw
    have HD := hide hD
    clear hD
    by_cases go : i < N ∧ Nt.lb es i = 48
    · obtain ⟨hiN, h48⟩ := go
      have his : i < s.size := by omega
      have hx := Hix.out i his
      rw [h48] at hx
      have H48 := hide h48
      have q4 : (i : Int) < (N : Int) := by omega
      clear h48
      go_wp2
      go_roundg (N - (i + 1))
      case measure => omega
      case rel => exact ⟨i + 1, by omega, rfl, by simp, rfl, fun j hj => by
        rcases Nat.lt_or_ge j i with k | k
        · exact HD.out j k
        · rw [show j = i by omega]; exact H48.out⟩
    · have HG := hide go
      have tail : ∀ {Q : Prop}, Q → Q := fun q => q
      by_cases hiN : i < N
      · have his : i < s.size := by omega
        have hx := Hix.out i his
        obtain ⟨d, hdd⟩ : ∃ d, Nt.lb es i = d := ⟨_, rfl⟩
        have h48 : (d == 48) = false := by
          simp
          intro e
          exact HG.out ⟨hiN, by rw [hdd, e]⟩
        rw [hdd] at hx
        have Hdd := hide hdd
        have q4 : (i : Int) < (N : Int) := by omega
        have Hn48 := hide (show Nt.lb es i ≠ 48 from fun e => HG.out ⟨hiN, e⟩)
        clear go hdd tail
        go_wp2
        clear hx h48 Hdd
        go_loopg [5] (N - i) (fun c ev wr => ∃ b : Nat, i < b ∧ b ≤ N ∧ c = b - i ∧ ev = .int .i64 b ∧ wr = w ∧ ∀ j, b ≤ j → j < N → Nt.lb es j = 48)
        case atStart => exact ⟨N, hiN, by omega, rfl, rfl, rfl, fun j h1 h2 => absurd h2 (by omega)⟩
        case round =>
          obtain ⟨b, hb1, hb2, hgb, rfl, hw, hZ⟩ := hrel
          replace hw := hw.symm
          subst hw
          have HZ := hide hZ
          clear hZ
          have hbs : b - 1 < s.size := by omega
          have hx := Hix.out (b - 1) hbs
          have q5 : (i : Int) < (b : Int) := by omega
          have q6 : ((b : Int) - 1).toNat = b - 1 := by omega
          have q7 : (0 : Int) ≤ (b : Int) - 1 := by omega
          have q8 : (b : Int) - 1 < (N : Int) := by omega
          obtain ⟨d, hdd⟩ : ∃ d, Nt.lb es (b - 1) = d := ⟨_, rfl⟩
          rw [hdd] at hx
          have Hdd := hide hdd
          clear hdd
          by_cases e48 : d = 48
          · have h48 : (d == 48) = true := by simp [e48]
            have hb3 : i < b - 1 := by
              rcases Nat.lt_or_ge i (b - 1) with k | k
              · exact k
              · exfalso
                have : b - 1 = i := by omega
                rw [← this] at Hn48
                exact Hn48.out (by rw [Hdd.out]; exact e48)
            go_wp2
            go_roundg (b - 1 - i)
            case measure => omega
            case rel => exact ⟨b - 1, hb3, by omega, rfl, by congr 1; omega, rfl, fun j h1 h2 => by
              rcases Nat.lt_or_ge j b with k | k
              · rw [show j = b - 1 by omega, Hdd.out]; exact e48
              · exact HZ.out j k h2⟩
          · have h48 : (d == 48) = false := by simp [e48]
            have hc := txt_cut es i b
            rw [← HS.out] at hc
            have hab : i ≤ b := by omega
            have hbs2 : b ≤ s.size := by omega
            go_wp2
            go_ret2
            exact ⟨rfl, i, b, ⟨by omega, hb2, HD.out, HZ.out, fun _ => ⟨Hn48.out, by rw [Hdd.out]; exact e48⟩, fun e => absurd e (by omega)⟩, rfl⟩
      · have hiE : i = N := by omega
        subst hiE
        have hc := txt_cut es i i
        rw [← HS.out] at hc
        have hbs2 : i ≤ s.size := by omega
        clear go tail
        go_wp2
        refine wp_loop_rounds 1 ?_
        rw [rounds_succ]
        go_wp2
        go_ret2
        exact ⟨rfl, i, i, ⟨by omega, by omega, HD.out, fun j h1 h2 => absurd h2 (by omega), fun h => absurd h (by omega), fun _ => rfl⟩, by rw [show strOfNums ((es.take i).drop i) = ByteArray.empty by rw [List.drop_eq_nil_of_le (by rw [List.length_take]; omega)]; rfl]; rfl⟩

end Go.Proofs.YtigehipclkoecaaDoor
