/- EcmaReads: the walk -/
import Derived.Test.YthnpndlobhgdhaaGreatDoorS36
namespace Go.Proofs.YthnpndlobhgdhaaGreatDoor
open Go.RowKit
set_option linter.unusedVariables false
set_option linter.unusedSimpArgs false

set_option maxRecDepth 100000 in
set_option maxHeartbeats 8000000 in
theorem reads8_any {w : World} {a : Nat → Addr} {s : ByteArray} {es : List Int} (h : Ew w a) (hb : Byt es) (hs : s = strOfNums es) (hl : es.length ≤ 1000000000) :
    Calls Tryz.prog 11 #[.string s] w fun e w' => e = .returned (.bool true) ∧ Below w.heap.size w w' := by
  have HRR := hide (fun u : World => rread8f (w := u) hb hs hl)
  have HRP := hide (fun (u : World) (k : Ew u a) => read_f (w := u) k hb hs (by omega))
  have HE := hide h
  clear hb hs h
  go_enter Tryz.func11, Tryz.ntmps11
  go_wp2_with fail
  with_reducible refine (HRR.out _).mono ?_
  rintro e w1 ⟨hr, K⟩
  replace HE := hide (HE.out.below K)
  have HK := hide K
  clear K HRR
  rcases hr with ⟨k, rfl, hk⟩ | ⟨hsc, r, r0, r1, hd, rfl⟩
  · have H3 := hide (cf3_new w1 (.int .i64 3) (.int .i64 k) (.string ⟨#[]⟩) 56)
    have KA := bel_new w1 (.cells #[.int .i64 3, .int .i64 k, .string ⟨#[]⟩] 56)
    replace HE := hide (HE.out.below KA)
    replace HK := hide (below_trans HK.out KA)
    have HKK := hide hk
    clear KA hk
    go_wp2_with fail
    generalize w1.alloc (.cells #[.int .i64 3, .int .i64 k, .string ⟨#[]⟩] 56) = w2 at *
    with_reducible refine (HRP.out _ HE.out).mono ?_
    rintro e w3 ⟨hp, K⟩
    replace HE := hide (HE.out.below K)
    replace HK := hide (below_trans HK.out K)
    replace H3 := hide (H3.out.below K)
    clear K HRP
    rcases hp with ⟨v, k2, rfl, hf, hk2⟩ | ⟨hsc, r, r0, r1, hd, rfl⟩
    · have hkk : k2 = k := by
        rcases HKK.out with ⟨x1, x2⟩ | ⟨x1, x2, _⟩ <;> rcases hk2 with ⟨y1, y2⟩ | ⟨y1, y2, _⟩
        · omega
        · rw [x1] at y1; cases y1
        · rw [x1] at y1; cases y1
        · omega
      subst hkk
      have HA := hide (fun u (K : Below w3.heap.size w3 u) => isAt_flt (j := (k2 : Int)) (HE.out.below K).S (HE.out.below K).H (hf.below K))
      have c0 := H3.out.c0
      have c1 := H3.out.c1
      clear hf hk2 HKK H3
      go_wp2_with fail
      with_reducible refine (HA.out _ (Below.refl _ _)).mono ?_
      rintro e w4 ⟨rfl, K⟩
      simp only [decide_true]
      replace HK := hide (below_trans HK.out K)
      clear K HA c0 c1
      go_wp2
      go_ret
      exact ⟨rfl, HK.out⟩
    · exfalso
      rcases HKK.out with ⟨x1, _⟩ | ⟨_, _, x3⟩
      · rw [x1] at hsc; cases hsc
      · have := dv_one (by decide) hd x3
        omega
  · have H3 := hide (cf3_new w1 (.int .i64 0) (.int .i64 0) (.string ⟨#[]⟩) 56)
    have KA := bel_new w1 (.cells #[.int .i64 0, .int .i64 0, .string ⟨#[]⟩] 56)
    replace HE := hide (HE.out.below KA)
    replace HK := hide (below_trans HK.out KA)
    obtain ⟨y, hy⟩ : ∃ y, r + b2i (headB es 45) * 9223372036854775808 = y := ⟨_, rfl⟩
    have HY := hide hy
    have HD := hide (And.intro hsc hd)
    rw [hy]
    clear KA hy hsc hd
    go_wp2_with fail
    generalize w1.alloc (.cells #[.int .i64 0, .int .i64 0, .string ⟨#[]⟩] 56) = w2 at *
    with_reducible refine (HRP.out _ HE.out).mono ?_
    rintro e w3 ⟨hp, K⟩
    replace HE := hide (HE.out.below K)
    replace HK := hide (below_trans HK.out K)
    replace H3 := hide (H3.out.below K)
    clear K HRP
    rcases hp with ⟨v, k2, rfl, hf, hk2⟩ | ⟨_, r2, _, _, hd2, rfl⟩
    · exfalso
      rcases hk2 with ⟨x1, _⟩ | ⟨_, _, x3⟩
      · rw [HD.out.1] at x1; cases x1
      · have := dv_one (by decide) HD.out.2 x3
        omega
    · have hrr : r2 = r := dv_one (by decide) hd2 HD.out.2
      subst hrr
      rw [HY.out]
      have c0 := H3.out.c0
      clear hd2 HY HD H3
      go_wp2_with fail
      with_reducible refine code_nil.mono ?_
      rintro e w4 ⟨rfl, rfl⟩
      clear c0
      go_wp2
      go_ret
      exact ⟨rfl, HK.out⟩

set_option maxRecDepth 100000 in
set_option maxHeartbeats 8000000 in
theorem ereads_walk {w : World} {a : Nat → Addr} (h : Ew w a) {s : ByteArray} {es : List Int} (hb : Byt es) (hs : s = strOfNums es) (hl : es.length ≤ 140737488355328) :
    Calls Tryz.prog 5 #[.string s] w fun e w' => e = .returned (.bool true) ∧ Below w.heap.size w w' := by
  have hsz : s.size = es.length := by rw [hs, strOfNums_size]
  by_cases hq : 1048576 < es.length
  · have q : (1048576 : Int) < (s.size : Int) := by omega
    clear hs hb
    go_enter Tryz.func5, Tryz.ntmps5
    go_wp2
    go_ret
    exact ⟨rfl, Below.refl _ _⟩
  · have q : ¬ (1048576 : Int) < (s.size : Int) := by omega
    have HRD := hide (fun (u : World) (k : Ew u a) => reads8_any (w := u) k hb hs (by omega))
    have HRT := hide (fun (u : World) (k : Ew u a) (i : Nat) => reads8_any (w := u) (es := es.take i) k (fun x hx => hb x (List.mem_of_mem_take hx)) rfl (by rw [List.length_take]; omega))
    have HEX := hide (show ∀ i, s.extract 0 i = strOfNums (es.take i) from fun i => by rw [hs, txt_cut, List.drop_zero])
    obtain ⟨N, hN⟩ : ∃ N, es.length = N := ⟨_, rfl⟩
    rw [hN] at hsz hl hq
    have HE := hide h
    clear hb hs hN h
    go_enter Tryz.func5, Tryz.ntmps5
    go_wp2
    clear q
    go_loopg [3] (N + 1) (fun c s3 wr => ∃ i : Nat, i ≤ N ∧ c = N + 1 - i ∧ s3 = .int .i64 i ∧ Hid (Below w.heap.size w wr))
    case atStart => exact ⟨0, by omega, rfl, rfl, hide (Below.refl _ _)⟩
    case round =>
      obtain ⟨i, hi, hc, rfl, HB⟩ := hrel
      have y1 : IntKind.i64.wrap ((i : Int) + 1) = ((i + 1 : Nat) : Int) := by rw [IntKind.wrap_i64]; omega
      by_cases c : i < N ∧ i < 24
      · have q1 : (i : Int) < (N : Int) := by omega
        have q2 : (i : Int) < 24 := by omega
        have q3 : (i : Int) ≤ (N : Int) := by omega
        obtain ⟨t, ht⟩ : ∃ t, strOfNums (es.take i) = t := ⟨_, rfl⟩
        have x1 : s.extract 0 i = t := by rw [HEX.out, ht]
        have hrt := HRT.out _ (HE.out.below HB.out) i
        rw [ht] at hrt
        have HR := hide hrt
        clear ht hrt
        go_wp2_with fail
        with_reducible refine HR.out.mono ?_
        rintro e w2 ⟨rfl, K⟩
        have HB2 := hide (below_trans HB.out K)
        clear K HR x1
        go_wp2
        go_roundg (N + 1 - (i + 1))
        case measure => omega
        case rel => exact ⟨i + 1, by omega, rfl, by first | rfl | (simp only [Int.natCast_add]; rfl), HB2⟩
      · have HR := hide (HRD.out _ (HE.out.below HB.out))
        by_cases c1 : i < N
        · have q1 : (i : Int) < (N : Int) := by omega
          have q2 : ¬ (i : Int) < 24 := by omega
          go_wp2_with fail
          with_reducible refine HR.out.mono ?_
          rintro e w2 ⟨rfl, K⟩
          have HB2 := hide (below_trans HB.out K)
          clear K HR
          go_wp2_with fail
          with_reducible refine (lives8_any (HE.out.below HB2.out)).mono ?_
          rintro e w3 ⟨rfl, K⟩
          have HB3 := hide (below_trans HB2.out K)
          clear K
          go_wp2
          go_ret
          exact ⟨rfl, HB3.out⟩
        · have q1 : ¬ (i : Int) < (N : Int) := by omega
          go_wp2_with fail
          with_reducible refine HR.out.mono ?_
          rintro e w2 ⟨rfl, K⟩
          have HB2 := hide (below_trans HB.out K)
          clear K HR
          go_wp2_with fail
          with_reducible refine (lives8_any (HE.out.below HB2.out)).mono ?_
          rintro e w3 ⟨rfl, K⟩
          have HB3 := hide (below_trans HB2.out K)
          clear K
          go_wp2
          go_ret
          exact ⟨rfl, HB3.out⟩

end Go.Proofs.YthnpndlobhgdhaaGreatDoor
