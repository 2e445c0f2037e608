/- ref13.Step: a step as it is written -/
import Derived.Test.YtbkgphglojjllaaDoorFStepM
namespace Go.Proofs.YtbkgphglojjllaaDoor
open Go.RowKit
set_option linter.unusedVariables false

set_option maxHeartbeats 4000000 in
set_option maxRecDepth 100000 in
theorem rStep_any {w : World} {s : ByteArray} (hs : s.size ≤ 140737488355328) :
    Calls Tryd.prog 20 #[.string s] w fun e w' => e = .returned (.string ⟨(wrt s.data.toList).toArray⟩) ∧ w' = w := by
  have HL : s.data.toList.length = s.size := (Lib.size_eq s).symm
  rw [wrt_esc]
  go_enter Tryd.func20, Tryd.ntmps20
  go_wp2
  go_loopw [3, 4] (fun p q wr => ∃ (i : Nat) (t : ByteArray), q = .int .i64 i ∧ p = .string t ∧ i ≤ s.size ∧ t.size ≤ 2 * i + 1 ∧ Hid (t = ⟨(47 :: (s.data.toList.take i).flatMap esc).toArray⟩) ∧ wr = w) (fun _ q _ => s.size - (intOf q).toNat)
  case atStart => exact ⟨0, ⟨#[47]⟩, rfl, rfl, by omega, by decide, hide rfl, rfl⟩
  case round =>
    obtain ⟨i, t, rfl, rfl, hi, htl, HT, rfl⟩ := hrel
    by_cases hil : i < s.size
    · have q1 : (i : Int) < (s.size : Int) := by omega
      have q0 : (0 : Int) ≤ (i : Int) := by omega
      have w2' : IntKind.i64.wrap ((i : Int) + 1) = (i : Int) + 1 := by rw [IntKind.wrap_i64]; omega
      obtain ⟨c, hc⟩ : ∃ c, s.data.toList[i]'(by omega) = c := ⟨_, rfl⟩
      have hb : (s[i]'hil).toNat = c.toNat := by rw [← hc]; rfl
      have hd : s.data.toList.drop i = c :: s.data.toList.drop (i + 1) := by rw [← hc]; exact List.drop_eq_getElem_cons (by omega)
      have htk : s.data.toList.take (i + 1) = s.data.toList.take i ++ [c] := by
        rw [List.take_succ_eq_append_getElem (by omega), hc]
      have HN := hide (show ∀ u : ByteArray, u.data.toList = esc c → t ++ u = ⟨(47 :: (s.data.toList.take (i + 1)).flatMap esc).toArray⟩ from fun u hu => by
        rw [HT.out, htk]
        apply ByteArray.ext
        rw [ByteArray.data_append]
        apply Array.toList_inj.1
        simp [hu])
      by_cases h1 : c = 126
      · subst h1
        have hb2 : (s[i]'hil).toNat = 126 := hb
        have HE := hide (HN.out ⟨#[126, 48]⟩ rfl)
        obtain ⟨t2, ht2⟩ : ∃ t2, t ++ (⟨#[126, 48]⟩ : ByteArray) = t2 := ⟨_, rfl⟩
        have hs2 : t2.size = t.size + 2 := by rw [← ht2, ByteArray.size_append]; rfl
        rw [ht2] at HE
        have HK3 := hide (show ¬ (9223372036854775807 < t.size + 2) from by omega)
        have HS2 := hide hs2
        have ht3 := ht2
        clear hb hd htk HN hc hs2 ht2
        go_wp2
        all_goals
          go_roundw
          case rel => exact ⟨i + 1, t2, by simp, rfl, by omega, by have := HS2.out; omega, HE, trivial⟩
          case measure => simp [intOf]; omega
      · by_cases h2 : c = 47
        · subst h2
          have hb2 : (s[i]'hil).toNat = 47 := hb
          have HE := hide (HN.out ⟨#[126, 49]⟩ rfl)
          obtain ⟨t2, ht2⟩ : ∃ t2, t ++ (⟨#[126, 49]⟩ : ByteArray) = t2 := ⟨_, rfl⟩
          have hs2 : t2.size = t.size + 2 := by rw [← ht2, ByteArray.size_append]; rfl
          rw [ht2] at HE
          have HK3 := hide (show ¬ (9223372036854775807 < t.size + 2) from by omega)
          have HS2 := hide hs2
          have ht3 := ht2
          clear hb hd htk HN hc hs2 ht2
          go_wp2
          all_goals
            go_roundw
            case rel => exact ⟨i + 1, t2, by simp, rfl, by omega, by have := HS2.out; omega, HE, trivial⟩
            case measure => simp [intOf]; omega
        · have z1 : ((c.toNat : Int) == 47) = false := by
            refine beq_eq_false_iff_ne.2 fun e => h2 ?_
            exact UInt8.toNat_inj.1 (by simpa using (by omega : c.toNat = 47))
          have z2 : ((c.toNat : Int) == 126) = false := by
            refine beq_eq_false_iff_ne.2 fun e => h1 ?_
            exact UInt8.toNat_inj.1 (by simpa using (by omega : c.toNat = 126))
          have ex : s.extract i (i + 1) = ⟨#[c]⟩ := by
            apply ByteArray.ext
            rw [ByteArray.data_extract]
            apply Array.toList_inj.1
            rw [Array.toList_extract]
            simp [List.extract, hd]
          obtain ⟨sc, hsc⟩ : ∃ sc : ByteArray, ⟨#[c]⟩ = sc := ⟨_, rfl⟩
          have HE := hide (HN.out sc (by rw [← hsc]; unfold esc; rw [if_neg h1, if_neg h2]))
          obtain ⟨t2, ht2⟩ : ∃ t2, t ++ sc = t2 := ⟨_, rfl⟩
          have e1 : sc.size = 1 := by rw [← hsc]; rfl
          have hs2 : t2.size = t.size + 1 := by rw [← ht2, ByteArray.size_append, e1]
          rw [ht2] at HE
          rw [hsc] at ex
          have q4 : (i : Int) + 1 ≤ (s.size : Int) := by omega
          have q5 : (i : Int) ≤ (i : Int) + 1 := by omega
          have k1 : ¬ ((9223372036854775807 : Int) < (t.size : Int) + (sc.size : Int)) := by omega
          have k3 : ¬ (9223372036854775807 < t.size + sc.size) := by omega
          have HS2 := hide hs2
          clear hd htk HN hc hs2 hsc e1
          go_wp2
          go_roundw
          case rel => exact ⟨i + 1, t2, by simp, rfl, by omega, by have := HS2.out; omega, HE, trivial⟩
          case measure => simp [intOf]; omega
    · have q1 : ¬ ((i : Int) < (s.size : Int)) := by omega
      have HT2 := hide (show t = ⟨(47 :: s.data.toList.flatMap esc).toArray⟩ from by rw [HT.out, List.take_of_length_le (by omega)])
      clear HT
      go_wp2
      go_ret
      exact ⟨by rw [← HT2.out]; rfl, rfl⟩

end Go.Proofs.YtbkgphglojjllaaDoor
