/- the law's wrong -/
import Derived.Test.YteejbcknikjkjabUFrom
import Derived.Test.YteejbcknikjkjabURunes
import Derived.Test.YteejbcknikjkjabULives
namespace Go.Proofs.Yteejbcknikjkjab
open Go.RowKit
set_option linter.unusedVariables false

theorem all_false {xs : List Int} {k : Nat} (h : k < xs.length) (hp : uPt (Nt.lb xs k) = false) : xs.all uPt = false := by
  cases h2 : xs.all uPt
  · rfl
  · rw [List.all_eq_true] at h2
    rw [ulb_get h, h2 _ (List.getElem_mem h)] at hp
    cases hp
set_option maxRecDepth 100000 in
set_option maxHeartbeats 4000000 in
theorem wrong_any {v : Value} {xs : List Int} {w : World} (hr : Reads .i32 w v xs) :
    Calls Try.prog 12 #[v] w fun e w' => e = .returned (.bool (!(xs.all uPt))) ∧ w' = w := by
  obtain ⟨ao, ca, rfl, hxl, hxm, hxc⟩ := hr
  unfold maxLen at hxm
  go_enter Try.func12, Try.ntmps12
  go_wp2
  go_loopg [3] xs.length (fun c i wr => ∃ k : Nat, k ≤ xs.length ∧ i = .int .i64 k ∧ c = xs.length - k ∧ Hid ((xs.take k).all uPt = true) ∧ w = wr)
  case atStart => exact ⟨0, by omega, rfl, by omega, hide rfl, rfl⟩
  case round =>
    obtain ⟨k, hk, rfl, hg, hall, hbr⟩ := hrel
    subst hbr
    by_cases hlt : k < xs.length
    · have p1 : (k : Int) < (xs.length : Int) := by omega
      obtain ⟨b1, o1, rfl, _, hc1⟩ := hxc (by omega)
      have g1 := hc1 k hlt
      have HT := hide (show xs.take (k + 1) = xs.take k ++ [Nt.lb xs k] by rw [List.take_add_one, List.getElem?_eq_getElem hlt, ← ulb_get hlt]; rfl)
      have HM := hide (fun h => all_false (xs := xs) hlt h)
      obtain ⟨p, hp⟩ : ∃ p, Nt.lb xs k = p := ⟨_, rfl⟩
      rw [hp] at g1 HT HM
      clear hc1 hp hxc
      have no : ¬ (0 ≤ p ∧ p ≤ 1114111 ∧ (p < 55296 ∨ 57343 < p)) → xs.all uPt = false := fun h => HM.out (by
        cases e : uPt p
        · rfl
        · exact absurd (uPt_iff.1 e) h)
      have NO := hide no
      clear no
      by_cases a1 : p < 0
      · have F := hide (NO.out (by omega))
        clear NO
        go_wp2
        go_ret
        exact ⟨by rw [F.out]; rfl, rfl⟩
      · by_cases a2 : 1114111 < p
        · have F := hide (NO.out (by omega))
          clear NO
          go_wp2
          go_ret
          exact ⟨by rw [F.out]; rfl, rfl⟩
        · by_cases a3 : 55296 ≤ p
          · by_cases a4 : p ≤ 57343
            · have F := hide (NO.out (by omega))
              clear NO
              go_wp2
              go_ret
              exact ⟨by rw [F.out]; rfl, rfl⟩
            · have Y := hide (show uPt p = true from uPt_iff.2 (by omega))
              clear NO
              go_wp2
              go_roundg (xs.length - (k + 1))
              case measure => omega
              case rel => exact ⟨k + 1, by omega, by simp, rfl, hide (by rw [HT.out, List.all_append, hall.out]; simp [Y.out]), rfl⟩
          · have Y := hide (show uPt p = true from uPt_iff.2 (by omega))
            clear NO
            go_wp2
            go_roundg (xs.length - (k + 1))
            case measure => omega
            case rel => exact ⟨k + 1, by omega, by simp, rfl, hide (by rw [HT.out, List.all_append, hall.out]; simp [Y.out]), rfl⟩
    · have p1 : ¬ (k : Int) < (xs.length : Int) := by omega
      have F := hide (show xs.all uPt = true by
        have := hall.out
        rw [List.take_of_length_le (by omega)] at this
        exact this)
      go_wp2
      go_ret
      exact ⟨by rw [F.out]; rfl, rfl⟩

end Go.Proofs.Yteejbcknikjkjab
