/- EscapeWithin's walk -/
import Derived.Test.YtdhoknoemdjemaaDoorXLives
namespace Go.Proofs.YtdhoknoemdjemaaDoor
open Go.RowKit
set_option linter.unusedVariables false

/-- what stands behind an end or a wrong byte makes no difference -/
theorem xRun_more : ∀ {l r : List Int} {σ : XS} {t : List Int} {k : Nat}, (∀ {u m}, xRun σ l t k = .ok u m → xRun σ (l ++ r) t k = .ok u m) ∧ (∀ {m}, xRun σ l t k = .bad m → m < k + l.length → xRun σ (l ++ r) t k = .bad m) := by
  intro l
  induction l with
  | nil => intro r σ t k; exact ⟨fun h => (by cases h), fun h g => (by cases h; simp at g)⟩
  | cons c l ih =>
    intro r σ t k
    cases hs : xStep σ c with
    | none => exact ⟨fun h => (by rw [xRun_bad hs] at h; cases h), fun h g => (by rw [List.cons_append, xRun_bad hs]; rwa [xRun_bad hs] at h)⟩
    | some q =>
      obtain ⟨τ, v⟩ := q
      by_cases hf : τ = .fin
      · subst hf
        exact ⟨fun h => (by rw [List.cons_append, xRun_fin hs]; rwa [xRun_fin hs] at h), fun h g => (by rw [xRun_fin hs] at h; cases h)⟩
      · have := ih (r := r) (σ := τ) (t := t ++ v) (k := k + 1)
        refine ⟨fun h => ?_, fun h g => ?_⟩
        · rw [List.cons_append, xRun_step hs hf]
          rw [xRun_step hs hf] at h
          exact this.1 h
        · rw [List.cons_append, xRun_step hs hf]
          rw [xRun_step hs hf] at h
          exact this.2 h (by simp at g; omega)

set_option maxHeartbeats 8000000 in
set_option maxRecDepth 100000 in
theorem ewithin_walk {w : World} {a : Nat → Addr} {s0 s1 s2 : ByteArray} (h : Lvs w a) (z0 : s0.size ≤ 140737488351232) (z1 : s1.size ≤ 140737488351232) (z2 : s2.size ≤ 140737488351232) : Calls Tryd.prog 8 #[.string s0, .string s1, .string s2] w fun e w' => e = .returned (.bool true) ∧ Below w.heap.size w w' := by
  have H := hide h
  have HV := hide (lives10 h)
  clear h
  by_cases hbig : 16777216 < s0.size + s1.size + s2.size
  · have q1 : (16777216 : Int) < (s0.size : Int) + (s1.size : Int) + (s2.size : Int) := by omega
    go_enter Tryd.func8, Tryd.ntmps8
    go_wp2_with fail
    refine HV.out.mono ?_
    rintro e w1 ⟨rfl, b1⟩
    replace b1 := hide b1
    go_wp2
    go_ret
    exact ⟨rfl, b1.out⟩
  · obtain ⟨l0, hb0, e0, rfl⟩ := utxt_of s0
    obtain ⟨l1, hb1, e1, rfl⟩ := utxt_of s1
    obtain ⟨l2, hb2, e2, rfl⟩ := utxt_of s2
    have f1 : (strOfNums l0).size = l0.length := strOfNums_size _
    have f2 : (strOfNums l1).size = l1.length := strOfNums_size _
    have f3 : (strOfNums l2).size = l2.length := strOfNums_size _
    have hj : strOfNums l0 ++ strOfNums l1 ++ strOfNums l2 = strOfNums (l0 ++ l1 ++ l2) := by rw [utxt_join, utxt_join]
    have HS := hide (fun (W : World) (hW : Below w.heap.size w W) => scan_any (w := W) (a := a) (s := strOfNums l1) (ls := l1) (at_ := 0) hb1 rfl (by omega) (H.out.below hW).snt (H.out.below hW).tab)
    have HS2 := hide (fun (W : World) (hW : Below w.heap.size w W) => scan_any (w := W) (a := a) (s := strOfNums l0 ++ strOfNums l1 ++ strOfNums l2) (ls := l0 ++ l1 ++ l2) (at_ := ((strOfNums l0).size : Int)) ((hb0.append hb1).append hb2) hj (by simp; omega) (H.out.below hW).snt (H.out.below hW).tab)
    -- what the two runs have to do with one another
    have hdrop : (l0 ++ l1 ++ l2).drop l0.length = l1 ++ l2 := by rw [List.append_assoc, List.drop_left]
    have HR1 := hide (show ∀ t n, xRun .start l1 [] 0 = .ok t n → xRun .start ((l0 ++ l1 ++ l2).drop l0.length) [] l0.length = .ok t (l0.length + n) from fun t n hx => by
      rw [hdrop, xRun_pre, xRun_more.1 hx]; rfl)
    have HR2 := hide (show ∀ n, xRun .start l1 [] 0 = .bad n → n < l1.length → xRun .start ((l0 ++ l1 ++ l2).drop l0.length) [] l0.length = .bad (l0.length + n) from fun n hx hn => by
      rw [hdrop, xRun_pre, xRun_more.2 hx (by omega)])
    have HL1 := hide e1
    have HL0 := hide e0
    obtain ⟨x0, hx0⟩ : ∃ x, strOfNums l0 = x := ⟨_, rfl⟩
    obtain ⟨x1, hx1⟩ : ∃ x, strOfNums l1 = x := ⟨_, rfl⟩
    obtain ⟨x2, hx2⟩ : ∃ x, strOfNums l2 = x := ⟨_, rfl⟩
    rw [hx0] at f1 HS2 HL0 z0 hbig
    rw [hx1] at f2 HS HS2 HL1 z1 hbig
    rw [hx2] at f3 HS2 z2 hbig
    rw [hx0, hx1, hx2]
    obtain ⟨A, hA⟩ : ∃ A, x0.size = A := ⟨_, rfl⟩
    obtain ⟨B, hB⟩ : ∃ B, x1.size = B := ⟨_, rfl⟩
    obtain ⟨C, hC⟩ : ∃ C, x2.size = C := ⟨_, rfl⟩
    rw [hA, hB, hC] at hbig
    rw [hA] at HS2 HL0
    rw [hB] at HL1
    have q1 : ¬ (16777216 : Int) < (A : Int) + (B : Int) + (C : Int) := by omega
    have qa : A ≤ 16777216 := by omega
    have qb : B ≤ 16777216 := by omega
    have qc : C ≤ 16777216 := by omega
    clear hj f1 f2 f3 e0 e1 e2 hdrop hx0 hx1 hx2 hb0 hb1 hb2 hbig z0 z1 z2
    go_enter Tryd.func8, Tryd.ntmps8
    go_wp2_with fail
    refine HV.out.mono ?_
    rintro e w1 ⟨rfl, b1⟩
    have K1 := hide b1
    clear b1
    go_wp2_with fail
    refine (HS.out w1 K1.out).mono ?_
    rintro e w2 ⟨hI, b2⟩
    have K2 := hide (K1.out.trans (b2.mono K1.out.size))
    clear b2
    rcases hI with ⟨h0, _⟩ | ⟨k, hk0, hk, ⟨t, n, hx, hn, rfl⟩ | ⟨n, v, hx, hn, rfl, hf⟩⟩
    · exact absurd ⟨Int.le_refl 0, Int.natCast_nonneg _⟩ h0
    · have hk1 : k = 0 := by omega
      subst hk1
      rw [List.drop_zero] at hx
      have HX := hide (HR1.out _ _ hx)
      have hnb : n ≤ B := by have := HL1.out; omega
      clear hk0 hk hx hn
      go_wp2_with fail
      refine (HS2.out w2 K2.out).mono ?_
      rintro e w3 ⟨hI, b3⟩
      have K3 := hide (K2.out.trans (b3.mono K2.out.size))
      clear b3
      rcases hI with ⟨h0, _⟩ | ⟨k, hk0, hk, ⟨t', n', hx', hn', rfl⟩ | ⟨n', v', hx', hn', rfl, hf'⟩⟩
      · exact absurd ⟨Int.natCast_nonneg _, by have := HL0.out; simp; omega⟩ h0
      · have hk1 : k = l0.length := by have := HL0.out; omega
        subst hk1
        rw [HX.out] at hx'
        cases hx'
        have e5 : (((l0.length + n : Nat) : Int)) = (n : Int) + (A : Int) := by have := HL0.out; omega
        rw [e5]
        clear hk0 hk hn' e5
        go_wp2
        go_ret
        exact ⟨rfl, K3.out⟩
      · have hk1 : k = l0.length := by have := HL0.out; omega
        subst hk1
        rw [HX.out] at hx'
        cases hx'
    · have hk1 : k = 0 := by omega
      subst hk1
      rw [List.drop_zero] at hx
      have HX := hide hx
      have HF := hide hf
      obtain ⟨g, rfl, _⟩ := hf
      have hnb : n ≤ B := by have := HL1.out; omega
      clear hk0 hk hx hn
      go_wp2_with fail
      refine (HS2.out w2 K2.out).mono ?_
      rintro e w3 ⟨hI, b3⟩
      have K3 := hide (K2.out.trans (b3.mono K2.out.size))
      have HF3 := hide (HF.out.below b3)
      clear b3
      -- the first error's place and number
      have HA := hide (at_flt (H.out.below K3.out).hnd HF3.out)
      by_cases he : n = B
      · have q5 : ((n : Int) == (B : Int)) = true := by rw [he]; simp
        have done : ∀ (tx : Value) (nx : Value) (vx : Value), True := fun _ _ _ => trivial
        clear he
        rcases hI with ⟨h0, _⟩ | ⟨k, hk0, hk, ⟨t', n', hx', hn', rfl⟩ | ⟨n', v', hx', hn', rfl, hf'⟩⟩
        · exact absurd ⟨Int.natCast_nonneg _, by have := HL0.out; simp; omega⟩ h0
        · clear hk0 hk hx' hn' done
          go_wp2_with fail
          refine HA.out.mono ?_
          rintro e w4 ⟨rfl, b4⟩
          have K4 := hide (K3.out.trans (b4.mono K3.out.size))
          have HC := hide (code_flt (H.out.below K4.out).snt (HF3.out.below b4))
          clear b4
          go_wp2_with fail
          refine HC.out.mono ?_
          rintro e w5 ⟨rfl, b5⟩
          have K5 := hide (K4.out.trans (b5.mono K4.out.size))
          clear b5
          go_wp2
          go_ret
          exact ⟨rfl, K5.out⟩
        · clear hk0 hk hx' hn' done hf'
          go_wp2_with fail
          refine HA.out.mono ?_
          rintro e w4 ⟨rfl, b4⟩
          have K4 := hide (K3.out.trans (b4.mono K3.out.size))
          have HC := hide (code_flt (H.out.below K4.out).snt (HF3.out.below b4))
          clear b4
          go_wp2_with fail
          refine HC.out.mono ?_
          rintro e w5 ⟨rfl, b5⟩
          have K5 := hide (K4.out.trans (b5.mono K4.out.size))
          clear b5
          go_wp2
          go_ret
          exact ⟨rfl, K5.out⟩
      · have q5 : ((n : Int) == (B : Int)) = false := beq_eq_false_iff_ne.2 (by omega)
        have HX2 := hide (HR2.out _ HX.out (by have := HL1.out; omega))
        clear he
        rcases hI with ⟨h0, _⟩ | ⟨k, hk0, hk, ⟨t', n', hx', hn', rfl⟩ | ⟨n', v', hx', hn', rfl, hf'⟩⟩
        · exact absurd ⟨Int.natCast_nonneg _, by have := HL0.out; simp; omega⟩ h0
        · have hk1 : k = l0.length := by have := HL0.out; omega
          subst hk1
          rw [HX2.out] at hx'
          cases hx'
        · have hk1 : k = l0.length := by have := HL0.out; omega
          subst hk1
          rw [HX2.out] at hx'
          cases hx'
          have HF' := hide hf'
          obtain ⟨g', rfl, _⟩ := hf'
          have e5 : (((l0.length + n : Nat) : Int)) = (n : Int) + (A : Int) := by have := HL0.out; omega
          have HE5 := hide e5
          clear hk0 hk hn' e5
          go_wp2_with fail
          refine HA.out.mono ?_
          rintro e w4 ⟨rfl, b4⟩
          have K4 := hide (K3.out.trans (b4.mono K3.out.size))
          have HC := hide (code_flt (H.out.below K4.out).snt (HF3.out.below b4))
          have HF4 := hide (HF'.out.below b4)
          clear b4
          go_wp2_with fail
          refine HC.out.mono ?_
          rintro e w5 ⟨rfl, b5⟩
          have K5 := hide (K4.out.trans (b5.mono K4.out.size))
          have HI := hide (isAt_flt (j := (n : Int) + (A : Int)) (H.out.below K5.out).snt (H.out.below K5.out).hnd (HF4.out.below b5))
          rw [decide_eq_true HE5.out] at HI
          clear b5
          go_wp2_with fail
          refine HI.out.mono ?_
          rintro e w6 ⟨rfl, b6⟩
          have K6 := hide (K5.out.trans (b6.mono K5.out.size))
          clear b6
          go_wp2
          go_ret
          exact ⟨rfl, K6.out⟩

end Go.Proofs.YtdhoknoemdjemaaDoor
