/- EscapeBack's walk -/
import Derived.Test.YtdhoknoemdjemaaDoorXLives
namespace Go.Proofs.YtdhoknoemdjemaaDoor
open Go.RowKit
set_option linter.unusedVariables false

set_option maxHeartbeats 4000000 in
set_option maxRecDepth 100000 in
theorem eback_walk {w : World} {a : Nat → Addr} {s : ByteArray} (h : Lvs w a) (hsb : s.size ≤ 1048576) : Calls Tryd.prog 6 #[.string s] w fun e w' => e = .returned (.bool true) ∧ Below w.heap.size w w' := by
  obtain ⟨ls, hb, hlen, hs⟩ := utxt_of s
  obtain ⟨ps, t, hS⟩ := USplit.exists ls.length (Nat.le_refl _) hb
  have H := hide h
  have HV := hide (lives10 h)
  have hql := xQ_len ls
  have HQ := hide (fun (W : World) (hW : Below w.heap.size w W) => quote_any (w := W) (s := s) hb hs (by omega) (by omega) hS (H.out.below hW).tab)
  have HB := hide (fun (W : World) => bad_any (w := W) (s := s) hb hs (by omega) hS)
  have hpl : (uFlat ps).length + t.length = ls.length := by rw [hS.eq, List.length_append]
  cases t with
  | cons x r =>
    simp only [List.isEmpty_cons, Bool.false_eq_true, if_false] at HQ
    rw [show strOfNums [] = (⟨#[]⟩ : ByteArray) from rfl] at HQ
    obtain ⟨m, hm⟩ : ∃ m, (uFlat ps).length = m := ⟨_, rfl⟩
    rw [hm] at HB hpl
    obtain ⟨L, hL⟩ : ∃ L, s.size = L := ⟨_, rfl⟩
    have q1 : ((m : Int) == (L : Int)) = false := beq_eq_false_iff_ne.2 (by simp at hpl; omega)
    clear h hb hlen hs hS hql hm hpl hsb
    go_enter Tryd.func6, Tryd.ntmps6
    go_wp2_with fail
    refine HV.out.mono ?_
    rintro e w1 ⟨rfl, b1⟩
    have K1 := hide b1
    clear b1
    go_wp2_with fail
    refine (HQ.out w1 K1.out).mono ?_
    rintro e w2 ⟨rfl, b2⟩
    have K2 := hide (K1.out.trans (b2.mono K1.out.size))
    clear b2
    go_wp2_with fail
    refine (HB.out w2).mono ?_
    rintro e w3 ⟨rfl, b3⟩
    have K3 := hide (K2.out.trans (b3.mono K2.out.size))
    clear b3
    go_wp2
    go_ret
    exact ⟨rfl, K3.out⟩
  | nil =>
    simp only [List.isEmpty_nil, if_true] at HQ
    have heq : ls = uFlat ps := by have := hS.eq; rwa [List.append_nil] at this
    have hqb := xQ_byt hb
    have hql2 := xQ_low hb
    have hrun : xRun .start (xQ ls) [] 0 = .ok ls (xQ ls).length := by
      have := xRun_quoted (r := []) hS.pts
      rw [List.append_nil, ← heq] at this
      exact this
    have HU := hide (fun (W : World) (hW : Below w.heap.size w W) => unquote_any (w := W) (a := a) (s := strOfNums (xQ ls)) (ls := xQ ls) hqb rfl (by omega) (H.out.below hW).snt (H.out.below hW).tab)
    have HX := hide (show ∀ p (hp : p < (strOfNums (xQ ls)).size), (((strOfNums (xQ ls))[p]'hp).toNat : Int) = Nt.lb (xQ ls) p from fun p hp => utxt_at hp hqb)
    have hqs : (strOfNums (xQ ls)).size = (xQ ls).length := strOfNums_size _
    have HLo := hide (show ∀ p, p < (xQ ls).length → 32 ≤ Nt.lb (xQ ls) p from fun p hp => by rw [ulb_get hp]; exact hql2 _ (List.getElem_mem hp))
    have HS := hide hs
    have HR := hide hrun
    obtain ⟨q, hq⟩ : ∃ q, strOfNums (xQ ls) = q := ⟨_, rfl⟩
    have HQQ := hide hq
    rw [hq] at HQ HU HX hqs
    obtain ⟨M, hM⟩ : ∃ M, (xQ ls).length = M := ⟨_, rfl⟩
    have HM := hide hM
    rw [hM] at hqs HLo hql
    obtain ⟨m, hm⟩ : ∃ m, (uFlat ps).length = m := ⟨_, rfl⟩
    rw [hm] at HB hpl
    obtain ⟨L, hL⟩ : ∃ L, s.size = L := ⟨_, rfl⟩
    have q1 : ((m : Int) == (L : Int)) = true := by simp at hpl ⊢; omega
    have q2 : ¬ (M : Int) < (L : Int) + 2 := by omega
    have q3 : M ≤ 10000000 := by omega
    have q4 : L ≤ 10000000 := by omega
    clear h hb hlen hs hS hql hm hpl hsb heq hqb hql2 hrun hq hM
    go_enter Tryd.func6, Tryd.ntmps6
    go_wp2_with fail
    refine HV.out.mono ?_
    rintro e w1 ⟨rfl, b1⟩
    have K1 := hide b1
    clear b1
    go_wp2_with fail
    refine (HQ.out w1 K1.out).mono ?_
    rintro e w2 ⟨rfl, b2⟩
    have K2 := hide (K1.out.trans (b2.mono K1.out.size))
    clear b2
    go_wp2_with fail
    refine (HB.out w2).mono ?_
    rintro e w3 ⟨rfl, b3⟩
    have K3 := hide (K2.out.trans (b3.mono K2.out.size))
    clear b3
    go_wp2_with fail
    refine (HU.out w3 K3.out).mono ?_
    rintro e w4 ⟨hI, b4⟩
    have K4 := hide (K3.out.trans (b4.mono K3.out.size))
    clear b4
    rcases hI with ⟨t, hx, rfl⟩ | ⟨t, n, v, hx, hn, rfl, hf⟩ | ⟨n, v, hx, hn, rfl, hf⟩
    · rw [HR.out] at hx
      cases hx
      rw [← HS.out]
      go_wp2
      go_loopg [7] M (fun c i wr => ∃ k : Nat, k ≤ M ∧ i = .int .i64 k ∧ c = M - k ∧ wr = w4)
      case atStart => exact ⟨0, by omega, rfl, by omega, rfl⟩
      case round =>
        obtain ⟨k, hk, rfl, hc, rfl⟩ := hrel
        by_cases hlt : k < M
        · have p1 : (k : Int) < (M : Int) := by omega
          have hps : k < q.size := by omega
          have hx := HX.out k hps
          have hlo := HLo.out k hlt
          obtain ⟨z, hz⟩ : ∃ z, Nt.lb (xQ ls) k = z := ⟨_, rfl⟩
          rw [hz] at hx hlo
          have p2 : ¬ z < 32 := by omega
          clear hz
          go_wp2
          go_roundg (M - (k + 1))
          case measure => omega
          case rel => exact ⟨k + 1, by omega, by simp, rfl, rfl⟩
        · have p1 : ¬ (k : Int) < (M : Int) := by omega
          go_wp2
          go_ret
          exact ⟨rfl, K4.out⟩
    · rw [HR.out] at hx; cases hx; exact absurd hn (Nat.lt_irrefl _)
    · rw [HR.out] at hx; cases hx

end Go.Proofs.YtdhoknoemdjemaaDoor
