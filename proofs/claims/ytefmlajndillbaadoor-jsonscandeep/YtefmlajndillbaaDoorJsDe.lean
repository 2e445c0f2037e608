/- JsonscanDeep: the walk -/
import Derived.Test.YtefmlajndillbaaDoorJsDm
namespace Go.Proofs.YtefmlajndillbaaDoor
open Go.RowKit
set_option linter.unusedVariables false

/-- a list of bools -/
def BRd (w : World) (v : Value) (ks : List Bool) : Prop :=
  ∃ ao cap, v = .slice ao ks.length cap ∧ ks.length ≤ cap ∧ cap ≤ maxLen ∧ (0 < ks.length → ∃ b off, ao = some ⟨b, off, none⟩ ∧ b < w.heap.size ∧ ∀ i, i < ks.length → w.cell? ⟨b, off + i, none⟩ = some (.bool (ks.getD i false)))
theorem take_more {ks : List Bool} {k : Nat} (h : k < ks.length) : ks.take (k + 1) = ks.take k ++ [ks.getD k false] := by
  rw [List.take_add_one]; congr 1; simp [h]
theorem opens_more {ks : List Bool} {k : Nat} (h : k < ks.length) : opens (ks.take (k + 1)) = opens (ks.take k) ++ opT (ks.getD k false) := by
  rw [take_more h, opens_append]; simp [opens]
theorem shuts_more {ks : List Bool} {k : Nat} (h : k < ks.length) : shuts (ks.take (k + 1)) = shC (ks.getD k false) :: shuts (ks.take k) := by
  rw [take_more h, shuts_snoc]
theorem last_take {ks : List Bool} {j : Nat} (h : j < ks.length) : (ks.take (j + 1)).getLastD true = ks.getD j false ∧ (ks.take (j + 1)).isEmpty = false := by
  rw [take_more h]; simp
def lim (ks : List Bool) (k : Nat) : Nat := if k ≤ 128 then 0 else (opens (ks.take 128)).length
theorem over_all {ks : List Bool} {M : Nat} (h : 128 < M) (hM : M ≤ ks.length) (r : List Int) :
    codeC (writeB (opens (ks.take M) ++ r) sc0) = 5 ∧ (writeB (opens (ks.take M) ++ r) sc0).size = lim ks M ∧ (writeB (opens (ks.take M) ++ r) sc0).st.opn.length = 128 := by
  obtain ⟨n, rfl⟩ : ∃ n, M = 129 + n := ⟨M - 129, by omega⟩
  have e : ks.take (129 + n) = ks.take 128 ++ ([ks.getD 128 false] ++ (ks.drop 129).take n) := by
    rw [← List.append_assoc, ← take_more (by omega : 128 < ks.length)]
    exact List.take_add
  have e2 : opens (ks.take (129 + n)) ++ r = opens (ks.take 128) ++ (opT (ks.getD 128 false) ++ (opens ((ks.drop 129).take n) ++ r)) := by
    rw [e, opens_append, opens_append]; simp [opens, List.append_assoc]
  rw [e2]
  obtain ⟨a, b, c⟩ := opn_over (l := ks.take 128) (by simp; omega) (ks.getD 128 false) (opens ((ks.drop 129).take n) ++ r)
  exact ⟨by rw [codeC, if_neg (by rw [a]; omega), a], by rw [b, lim, if_neg (by omega)], c⟩
set_option maxRecDepth 100000 in
set_option maxHeartbeats 8000000 in
theorem jdeep {w : World} {a : Nat → Addr} {ks : List Bool} {vk : Value} {v : Bool} (hS : Snt w a) (hH : Hnd w) (hv : BRd w vk ks) :
    Calls Tryd.prog 5 #[vk, .bool v] w fun e w' => e = .returned (.bool true) ∧ Below w.heap.size w w' := by
  have C0 := hide (jlives hS hH)
  have HS := hide (sntB_of hS)
  have HH := hide hH
  obtain ⟨ao, cap, rfl, hcap, hmx, hcell⟩ := hv
  have HCl := hide hcell
  obtain ⟨N, hN⟩ : ∃ N, ks.length = N := ⟨_, rfl⟩
  have HN := hide hN
  rw [hN]
  have hNb : N ≤ 9223372036854775807 := by unfold maxLen at hmx; omega
  obtain ⟨M, hM⟩ : ∃ M, min N 200 = M := ⟨_, rfl⟩
  have hM1 : M ≤ N ∧ M ≤ 200 := by omega
  clear hS hH hcell hcap hmx hN
  go_enter Tryd.func5, Tryd.ntmps5
  go_wp2_with fail
  refine C0.out.mono ?_
  rintro e w1 ⟨rfl, hb1⟩
  have B1 := hide hb1
  clear hb1 C0
  go_wp2
  go_loopg [5, 6, 7, 8] M (fun c o s m i wr => ∃ k : Nat, k ≤ M ∧ i = .int .i64 k ∧ o = .string (strOfNums (opens (ks.take k))) ∧ s = .string (strOfNums (shuts (ks.take k))) ∧ m = .int .i64 (lim ks k : Nat) ∧ c = M - k ∧ w1 = wr)
  case atStart => exact ⟨0, by omega, rfl, rfl, rfl, rfl, by omega, rfl⟩
  case round =>
    obtain ⟨k, hk, rfl, rfl, rfl, rfl, hc, rfl⟩ := hrel
    by_cases hkm : k < M
    · have p1 : (k : Int) < (N : Int) := by omega
      have p2 : (k : Int) < 200 := by omega
      have p3 : (0 : Int) ≤ (k : Int) ∧ (k : Int) < (N : Int) := by omega
      obtain ⟨bb, oo, hao, hbb, hcl⟩ := HCl.out (by have := HN.out; omega)
      subst hao
      have hkn : k < ks.length := by have := HN.out; omega
      have ck := hcl k hkn
      rw [← B1.out.cell (p := ⟨bb, oo + k, none⟩) hbb] at ck
      have ho := opens_more hkn
      have hs := shuts_more hkn
      have zo := opens_len (ks.take k)
      have zs := shuts_len (ks.take k)
      have zk : (ks.take k).length ≤ 200 := by simp; omega
      obtain ⟨so, hso⟩ : ∃ so, strOfNums (opens (ks.take k)) = so := ⟨_, rfl⟩
      obtain ⟨sh, hsh⟩ : ∃ sh, strOfNums (shuts (ks.take k)) = sh := ⟨_, rfl⟩
      have zso : so.size = (opens (ks.take k)).length := by rw [← hso, strOfNums_size]
      have zsh : sh.size = (shuts (ks.take k)).length := by rw [← hsh, strOfNums_size]
      have hlk : lim ks (k + 1) = if k = 128 then (opens (ks.take k)).length else lim ks k := by
        unfold lim
        by_cases q : k = 128
        · subst q; simp
        · rw [if_neg q]
          by_cases q2 : k ≤ 128
          · rw [if_pos q2, if_pos (by omega)]
          · rw [if_neg q2, if_neg (by omega)]
      obtain ⟨lo, hlo⟩ : ∃ lo, (opens (ks.take k)).length = lo := ⟨_, rfl⟩
      obtain ⟨ls, hls⟩ : ∃ ls, (shuts (ks.take k)).length = ls := ⟨_, rfl⟩
      rw [hlo] at zso zo hlk
      rw [hls] at zsh zs
      have m1 : lo + 5 ≤ 9223372036854775807 := by omega
      have m2 : 1 + ls ≤ 9223372036854775807 := by omega
      have HLK := hide hlk
      have HF := hide (And.intro ho hs)
      have HG := hide (And.intro hso hsh)
      rw [hso, hsh]
      have HSz := hide (And.intro zso zsh)
      clear hcl hbb ho hs zo zs zk hlk hso hsh hlo hls
      by_cases q : k = 128
      · cases hb : ks.getD k false with
        | true =>
          rw [hb] at ck
          have j1 : so ++ ⟨#[91]⟩ = strOfNums (opens (ks.take (k + 1))) := by rw [HF.out.1, hb, ← HG.out.1]; exact utxt_join _ [91]
          have j2 : (⟨#[93]⟩ : ByteArray) ++ sh = strOfNums (shuts (ks.take (k + 1))) := by rw [HF.out.2, hb, ← HG.out.2]; exact utxt_join [93] _
          have hq : (k : Int) = 128 := by omega
          have HLJ := hide (HLK.out.trans (if_pos q))
          subst q
          obtain ⟨so2, hso2⟩ : ∃ so2, strOfNums (opens (ks.take (128 + 1))) = so2 := ⟨_, rfl⟩
          obtain ⟨sh2, hsh2⟩ : ∃ sh2, strOfNums (shuts (ks.take (128 + 1))) = sh2 := ⟨_, rfl⟩
          rw [hso2] at j1
          rw [hsh2] at j2
          have HJ := hide (And.intro hso2 hsh2)
          clear hso2 hsh2 hb
          go_wp2
          go_roundg (M - (128 + 1))
          case measure => omega
          case rel => exact ⟨128 + 1, by omega, by go_num, by rw [HJ.out.1], by rw [HJ.out.2], by rw [HLJ.out], rfl, rfl⟩
        | false =>
          rw [hb] at ck
          have j1 : so ++ ⟨#[123, 34, 107, 34, 58]⟩ = strOfNums (opens (ks.take (k + 1))) := by rw [HF.out.1, hb, ← HG.out.1]; exact utxt_join _ [123, 34, 107, 34, 58]
          have j2 : (⟨#[125]⟩ : ByteArray) ++ sh = strOfNums (shuts (ks.take (k + 1))) := by rw [HF.out.2, hb, ← HG.out.2]; exact utxt_join [125] _
          have hq : (k : Int) = 128 := by omega
          have HLJ := hide (HLK.out.trans (if_pos q))
          subst q
          obtain ⟨so2, hso2⟩ : ∃ so2, strOfNums (opens (ks.take (128 + 1))) = so2 := ⟨_, rfl⟩
          obtain ⟨sh2, hsh2⟩ : ∃ sh2, strOfNums (shuts (ks.take (128 + 1))) = sh2 := ⟨_, rfl⟩
          rw [hso2] at j1
          rw [hsh2] at j2
          have HJ := hide (And.intro hso2 hsh2)
          clear hso2 hsh2 hb
          go_wp2
          go_roundg (M - (128 + 1))
          case measure => omega
          case rel => exact ⟨128 + 1, by omega, by go_num, by rw [HJ.out.1], by rw [HJ.out.2], by rw [HLJ.out], rfl, rfl⟩
      · cases hb : ks.getD k false with
        | true =>
          rw [hb] at ck
          have j1 : so ++ ⟨#[91]⟩ = strOfNums (opens (ks.take (k + 1))) := by rw [HF.out.1, hb, ← HG.out.1]; exact utxt_join _ [91]
          have j2 : (⟨#[93]⟩ : ByteArray) ++ sh = strOfNums (shuts (ks.take (k + 1))) := by rw [HF.out.2, hb, ← HG.out.2]; exact utxt_join [93] _
          have hq : ¬ ((k : Int) = 128) := by omega
          have HLJ := hide (HLK.out.trans (if_neg q))
          obtain ⟨so2, hso2⟩ : ∃ so2, strOfNums (opens (ks.take (k + 1))) = so2 := ⟨_, rfl⟩
          obtain ⟨sh2, hsh2⟩ : ∃ sh2, strOfNums (shuts (ks.take (k + 1))) = sh2 := ⟨_, rfl⟩
          rw [hso2] at j1
          rw [hsh2] at j2
          have HJ := hide (And.intro hso2 hsh2)
          clear hso2 hsh2 hb
          go_wp2
          go_roundg (M - (k + 1))
          case measure => omega
          case rel => exact ⟨k + 1, by omega, by go_num, by rw [HJ.out.1], by rw [HJ.out.2], by rw [HLJ.out], rfl, rfl⟩
        | false =>
          rw [hb] at ck
          have j1 : so ++ ⟨#[123, 34, 107, 34, 58]⟩ = strOfNums (opens (ks.take (k + 1))) := by rw [HF.out.1, hb, ← HG.out.1]; exact utxt_join _ [123, 34, 107, 34, 58]
          have j2 : (⟨#[125]⟩ : ByteArray) ++ sh = strOfNums (shuts (ks.take (k + 1))) := by rw [HF.out.2, hb, ← HG.out.2]; exact utxt_join [125] _
          have hq : ¬ ((k : Int) = 128) := by omega
          have HLJ := hide (HLK.out.trans (if_neg q))
          obtain ⟨so2, hso2⟩ : ∃ so2, strOfNums (opens (ks.take (k + 1))) = so2 := ⟨_, rfl⟩
          obtain ⟨sh2, hsh2⟩ : ∃ sh2, strOfNums (shuts (ks.take (k + 1))) = sh2 := ⟨_, rfl⟩
          rw [hso2] at j1
          rw [hsh2] at j2
          have HJ := hide (And.intro hso2 hsh2)
          clear hso2 hsh2 hb
          go_wp2
          go_roundg (M - (k + 1))
          case measure => omega
          case rel => exact ⟨k + 1, by omega, by go_num, by rw [HJ.out.1], by rw [HJ.out.2], by rw [HLJ.out], rfl, rfl⟩
    · have hkM : k = M := by omega
      subst hkM
      obtain ⟨so, hso⟩ : ∃ so, strOfNums (opens (ks.take k)) = so := ⟨_, rfl⟩
      obtain ⟨sh, hsh⟩ : ∃ sh, strOfNums (shuts (ks.take k)) = sh := ⟨_, rfl⟩
      obtain ⟨l, hl⟩ : ∃ l, ks.take k = l := ⟨_, rfl⟩
      have hll : l.length = k := by rw [← hl]; have := HN.out; simp; omega
      have zo := opens_len l
      have zs := shuts_len l
      rw [hl] at hso hsh
      have zso : so.size = (opens l).length := by rw [← hso, strOfNums_size]
      have zsh : sh.size = (shuts l).length := by rw [← hsh, strOfNums_size]
      have HSo := hide hso
      have HSh := hide hsh
      have Hl := hide hl
      have HLl := hide (show l.length ≤ 200 by omega)
      rw [hl, hso, hsh]
      obtain ⟨lo, hlo⟩ : ∃ lo, (opens l).length = lo := ⟨_, rfl⟩
      obtain ⟨ls, hls⟩ : ∃ ls, (shuts l).length = ls := ⟨_, rfl⟩
      rw [hlo] at zso zo
      rw [hls] at zsh zs
      have m1 : lo + 1 ≤ 9223372036854775807 := by omega
      have m2 : lo + 1 + ls ≤ 9223372036854775807 := by omega
      have m3 : lo + ls ≤ 9223372036854775807 := by omega
      have m4 : lo ≤ 9223372036854775807 := by omega
      have HLO := hide (And.intro hlo hls)
      clear hl hso hsh zo zs hlo hls
      by_cases ov : 128 < N
      · have ov' : (128 : Int) < (N : Int) := by omega
        have HOv := hide (show ∀ r, codeC (writeB (opens l ++ r) sc0) = 5 ∧ (writeB (opens l ++ r) sc0).size = lim ks k ∧ (writeB (opens l ++ r) sc0).st.opn.length = 128 from fun r => by rw [← Hl.out]; exact over_all (by omega) (by have := HN.out; omega) r)
        by_cases bg : 200 < N
        · have q1 : (k : Int) < (N : Int) := by omega
          have q2 : ¬ ((k : Int) < 200) := by omega
          cases v with
          | true =>
            have HQ := hide (show strOfNums (opens l) = so ∧ strOfNums (shuts l) = sh ∧ withinT l true = [48] from ⟨HSo.out, HSh.out, by simp [withinT]⟩)
            have hes : so ++ ⟨#[48]⟩ ++ sh = strOfNums (opens l ++ withinT l true ++ shuts l) := by
              rw [HQ.out.2.2, ← utxt_join, ← utxt_join, HQ.out.1, HQ.out.2.1]; rfl
            have hub : uByt (opens l ++ withinT l true ++ shuts l) := by
              rw [HQ.out.2.2]
              intro x hx
              rcases List.mem_append.1 hx with hx | hx
              · rcases List.mem_append.1 hx with hx | hx
                · exact opens_byt l x hx
                · simp at hx; omega
              · exact shuts_byt l x hx
            have hzz : (opens l ++ withinT l true ++ shuts l).length ≤ 9223372036854775807 := by
              have h1 := opens_len l
              have h2 := shuts_len l
              have h3 := HLl.out
              rw [HQ.out.2.2]
              simp only [List.length_append, h2]
              have h4 : ([48] : List Int).length ≤ 1 := by simp
              omega
            have CR := hide (jread (es := opens l ++ withinT l true ++ shuts l) (ch := so ++ ⟨#[48]⟩ ++ sh) (HS.out.below B1.out).here hub hes hzz)
            clear hes hub hzz
            obtain ⟨o1, o2, o3⟩ := HOv.out (withinT l true ++ shuts l)
            rw [← List.append_assoc] at o1 o2 o3
            rw [o1, o2, o3] at CR
            clear o1 o2 o3
            go_wp2_with fail
            refine CR.out.mono ?_
            rintro e w2 ⟨v2, rfl, ht2, hb2⟩
            have B2 := hide (B1.out.trans (hb2.mono B1.out.size))
            have CI := hide (jisat 5 (lim ks k) ht2 (by omega) (by omega) (by omega) (HS.out.below B2.out).here (HH.out.below B2.out))
            rw [decide_eq_true (show (5 : Nat) = 5 from rfl), decide_eq_true (show ((lim ks k : Nat) : Int) = (lim ks k : Nat) from rfl)] at CI
            clear ht2 hb2 CR
            go_wp2_with fail
            refine CI.out.mono ?_
            rintro e w3 ⟨rfl, hb3⟩
            have B3 := hide (B2.out.trans (hb3.mono B2.out.size))
            clear hb3 CI
            go_wp2
            go_ret
            exact ⟨rfl, B3.out⟩
          | false =>
            have n0' : ¬ (((N : Nat) : Int) = 0) := by omega
            have hm2 : ((200 : Int) < (N : Int)) := by omega
            have hj2 : (199 : Int) < (N : Int) := by omega
            obtain ⟨bb, oo, hao, hbb, hcl⟩ := HCl.out (by have := HN.out; omega)
            subst hao
            have ck := hcl 199 (by have := HN.out; omega)
            rw [← B1.out.cell (p := ⟨bb, oo + 199, none⟩) hbb] at ck
            have hlast : l.getLastD true = ks.getD 199 false ∧ l.isEmpty = false := by
              have hq := last_take (ks := ks) (j := 199) (by have := HN.out; omega)
              rw [show 199 + 1 = k by omega, Hl.out] at hq
              exact hq
            clear hcl hbb
            cases hb : ks.getD 199 false with
            | true =>
              rw [hb] at ck hlast
              have HQ := hide (show strOfNums (opens l) = so ∧ strOfNums (shuts l) = sh ∧ withinT l false = [] from ⟨HSo.out, HSh.out, by rw [withinT, hlast.1, hlast.2]; rfl⟩)
              clear hb hlast
              have hes : so ++ ⟨#[]⟩ ++ sh = strOfNums (opens l ++ withinT l false ++ shuts l) := by
                rw [HQ.out.2.2, ← utxt_join, ← utxt_join, HQ.out.1, HQ.out.2.1]; rfl
              have hub : uByt (opens l ++ withinT l false ++ shuts l) := by
                rw [HQ.out.2.2]
                intro x hx
                rcases List.mem_append.1 hx with hx | hx
                · rcases List.mem_append.1 hx with hx | hx
                  · exact opens_byt l x hx
                  · simp at hx
                · exact shuts_byt l x hx
              have hzz : (opens l ++ withinT l false ++ shuts l).length ≤ 9223372036854775807 := by
                have h1 := opens_len l
                have h2 := shuts_len l
                have h3 := HLl.out
                rw [HQ.out.2.2]
                simp only [List.length_append, h2]
                have h4 : ([] : List Int).length ≤ 1 := by simp
                omega
              have CR := hide (jread (es := opens l ++ withinT l false ++ shuts l) (ch := so ++ ⟨#[]⟩ ++ sh) (HS.out.below B1.out).here hub hes hzz)
              clear hes hub hzz
              obtain ⟨o1, o2, o3⟩ := HOv.out (withinT l false ++ shuts l)
              rw [← List.append_assoc] at o1 o2 o3
              rw [o1, o2, o3] at CR
              clear o1 o2 o3
              go_wp2_with fail
              refine CR.out.mono ?_
              rintro e w2 ⟨v2, rfl, ht2, hb2⟩
              have B2 := hide (B1.out.trans (hb2.mono B1.out.size))
              have CI := hide (jisat 5 (lim ks k) ht2 (by omega) (by omega) (by omega) (HS.out.below B2.out).here (HH.out.below B2.out))
              rw [decide_eq_true (show (5 : Nat) = 5 from rfl), decide_eq_true (show ((lim ks k : Nat) : Int) = (lim ks k : Nat) from rfl)] at CI
              clear ht2 hb2 CR
              go_wp2_with fail
              refine CI.out.mono ?_
              rintro e w3 ⟨rfl, hb3⟩
              have B3 := hide (B2.out.trans (hb3.mono B2.out.size))
              clear hb3 CI
              go_wp2
              go_ret
              exact ⟨rfl, B3.out⟩
            | false =>
              rw [hb] at ck hlast
              have HQ := hide (show strOfNums (opens l) = so ∧ strOfNums (shuts l) = sh ∧ withinT l false = [48] from ⟨HSo.out, HSh.out, by rw [withinT, hlast.1, hlast.2]; rfl⟩)
              clear hb hlast
              have hes : so ++ ⟨#[48]⟩ ++ sh = strOfNums (opens l ++ withinT l false ++ shuts l) := by
                rw [HQ.out.2.2, ← utxt_join, ← utxt_join, HQ.out.1, HQ.out.2.1]; rfl
              have hub : uByt (opens l ++ withinT l false ++ shuts l) := by
                rw [HQ.out.2.2]
                intro x hx
                rcases List.mem_append.1 hx with hx | hx
                · rcases List.mem_append.1 hx with hx | hx
                  · exact opens_byt l x hx
                  · simp at hx; omega
                · exact shuts_byt l x hx
              have hzz : (opens l ++ withinT l false ++ shuts l).length ≤ 9223372036854775807 := by
                have h1 := opens_len l
                have h2 := shuts_len l
                have h3 := HLl.out
                rw [HQ.out.2.2]
                simp only [List.length_append, h2]
                have h4 : ([48] : List Int).length ≤ 1 := by simp
                omega
              have CR := hide (jread (es := opens l ++ withinT l false ++ shuts l) (ch := so ++ ⟨#[48]⟩ ++ sh) (HS.out.below B1.out).here hub hes hzz)
              clear hes hub hzz
              obtain ⟨o1, o2, o3⟩ := HOv.out (withinT l false ++ shuts l)
              rw [← List.append_assoc] at o1 o2 o3
              rw [o1, o2, o3] at CR
              clear o1 o2 o3
              go_wp2_with fail
              refine CR.out.mono ?_
              rintro e w2 ⟨v2, rfl, ht2, hb2⟩
              have B2 := hide (B1.out.trans (hb2.mono B1.out.size))
              have CI := hide (jisat 5 (lim ks k) ht2 (by omega) (by omega) (by omega) (HS.out.below B2.out).here (HH.out.below B2.out))
              rw [decide_eq_true (show (5 : Nat) = 5 from rfl), decide_eq_true (show ((lim ks k : Nat) : Int) = (lim ks k : Nat) from rfl)] at CI
              clear ht2 hb2 CR
              go_wp2_with fail
              refine CI.out.mono ?_
              rintro e w3 ⟨rfl, hb3⟩
              have B3 := hide (B2.out.trans (hb3.mono B2.out.size))
              clear hb3 CI
              go_wp2
              go_ret
              exact ⟨rfl, B3.out⟩
        · have q1 : ¬ ((k : Int) < (N : Int)) := by omega
          cases v with
          | true =>
            have HQ := hide (show strOfNums (opens l) = so ∧ strOfNums (shuts l) = sh ∧ withinT l true = [48] from ⟨HSo.out, HSh.out, by simp [withinT]⟩)
            have hes : so ++ ⟨#[48]⟩ ++ sh = strOfNums (opens l ++ withinT l true ++ shuts l) := by
              rw [HQ.out.2.2, ← utxt_join, ← utxt_join, HQ.out.1, HQ.out.2.1]; rfl
            have hub : uByt (opens l ++ withinT l true ++ shuts l) := by
              rw [HQ.out.2.2]
              intro x hx
              rcases List.mem_append.1 hx with hx | hx
              · rcases List.mem_append.1 hx with hx | hx
                · exact opens_byt l x hx
                · simp at hx; omega
              · exact shuts_byt l x hx
            have hzz : (opens l ++ withinT l true ++ shuts l).length ≤ 9223372036854775807 := by
              have h1 := opens_len l
              have h2 := shuts_len l
              have h3 := HLl.out
              rw [HQ.out.2.2]
              simp only [List.length_append, h2]
              have h4 : ([48] : List Int).length ≤ 1 := by simp
              omega
            have CR := hide (jread (es := opens l ++ withinT l true ++ shuts l) (ch := so ++ ⟨#[48]⟩ ++ sh) (HS.out.below B1.out).here hub hes hzz)
            clear hes hub hzz
            obtain ⟨o1, o2, o3⟩ := HOv.out (withinT l true ++ shuts l)
            rw [← List.append_assoc] at o1 o2 o3
            rw [o1, o2, o3] at CR
            clear o1 o2 o3
            go_wp2_with fail
            refine CR.out.mono ?_
            rintro e w2 ⟨v2, rfl, ht2, hb2⟩
            have B2 := hide (B1.out.trans (hb2.mono B1.out.size))
            have CI := hide (jisat 5 (lim ks k) ht2 (by omega) (by omega) (by omega) (HS.out.below B2.out).here (HH.out.below B2.out))
            rw [decide_eq_true (show (5 : Nat) = 5 from rfl), decide_eq_true (show ((lim ks k : Nat) : Int) = (lim ks k : Nat) from rfl)] at CI
            clear ht2 hb2 CR
            go_wp2_with fail
            refine CI.out.mono ?_
            rintro e w3 ⟨rfl, hb3⟩
            have B3 := hide (B2.out.trans (hb3.mono B2.out.size))
            clear hb3 CI
            go_wp2
            go_ret
            exact ⟨rfl, B3.out⟩
          | false =>
            have n0' : ¬ (((N : Nat) : Int) = 0) := by omega
            obtain ⟨jj, hjj⟩ : ∃ jj, N = jj + 1 := ⟨N - 1, by omega⟩
            have hj1 : (N : Int) - 1 = (jj : Int) := by omega
            have hj2 : (0 : Int) ≤ (jj : Int) ∧ (jj : Int) < (N : Int) := by omega
            have hm2 : ¬ ((200 : Int) < (N : Int)) := by omega
            obtain ⟨bb, oo, hao, hbb, hcl⟩ := HCl.out (by have := HN.out; omega)
            subst hao
            have ck := hcl jj (by have := HN.out; omega)
            rw [← B1.out.cell (p := ⟨bb, oo + jj, none⟩) hbb] at ck
            have hlast : l.getLastD true = ks.getD jj false ∧ l.isEmpty = false := by
              have hq := last_take (ks := ks) (j := jj) (by have := HN.out; omega)
              rw [show jj + 1 = k by omega, Hl.out] at hq
              exact hq
            clear hcl hbb
            cases hb : ks.getD jj false with
            | true =>
              rw [hb] at ck hlast
              have HQ := hide (show strOfNums (opens l) = so ∧ strOfNums (shuts l) = sh ∧ withinT l false = [] from ⟨HSo.out, HSh.out, by rw [withinT, hlast.1, hlast.2]; rfl⟩)
              clear hb hlast hjj
              have hes : so ++ ⟨#[]⟩ ++ sh = strOfNums (opens l ++ withinT l false ++ shuts l) := by
                rw [HQ.out.2.2, ← utxt_join, ← utxt_join, HQ.out.1, HQ.out.2.1]; rfl
              have hub : uByt (opens l ++ withinT l false ++ shuts l) := by
                rw [HQ.out.2.2]
                intro x hx
                rcases List.mem_append.1 hx with hx | hx
                · rcases List.mem_append.1 hx with hx | hx
                  · exact opens_byt l x hx
                  · simp at hx
                · exact shuts_byt l x hx
              have hzz : (opens l ++ withinT l false ++ shuts l).length ≤ 9223372036854775807 := by
                have h1 := opens_len l
                have h2 := shuts_len l
                have h3 := HLl.out
                rw [HQ.out.2.2]
                simp only [List.length_append, h2]
                have h4 : ([] : List Int).length ≤ 1 := by simp
                omega
              have CR := hide (jread (es := opens l ++ withinT l false ++ shuts l) (ch := so ++ ⟨#[]⟩ ++ sh) (HS.out.below B1.out).here hub hes hzz)
              clear hes hub hzz
              obtain ⟨o1, o2, o3⟩ := HOv.out (withinT l false ++ shuts l)
              rw [← List.append_assoc] at o1 o2 o3
              rw [o1, o2, o3] at CR
              clear o1 o2 o3
              go_wp2_with fail
              refine CR.out.mono ?_
              rintro e w2 ⟨v2, rfl, ht2, hb2⟩
              have B2 := hide (B1.out.trans (hb2.mono B1.out.size))
              have CI := hide (jisat 5 (lim ks k) ht2 (by omega) (by omega) (by omega) (HS.out.below B2.out).here (HH.out.below B2.out))
              rw [decide_eq_true (show (5 : Nat) = 5 from rfl), decide_eq_true (show ((lim ks k : Nat) : Int) = (lim ks k : Nat) from rfl)] at CI
              clear ht2 hb2 CR
              go_wp2_with fail
              refine CI.out.mono ?_
              rintro e w3 ⟨rfl, hb3⟩
              have B3 := hide (B2.out.trans (hb3.mono B2.out.size))
              clear hb3 CI
              go_wp2
              go_ret
              exact ⟨rfl, B3.out⟩
            | false =>
              rw [hb] at ck hlast
              have HQ := hide (show strOfNums (opens l) = so ∧ strOfNums (shuts l) = sh ∧ withinT l false = [48] from ⟨HSo.out, HSh.out, by rw [withinT, hlast.1, hlast.2]; rfl⟩)
              clear hb hlast hjj
              have hes : so ++ ⟨#[48]⟩ ++ sh = strOfNums (opens l ++ withinT l false ++ shuts l) := by
                rw [HQ.out.2.2, ← utxt_join, ← utxt_join, HQ.out.1, HQ.out.2.1]; rfl
              have hub : uByt (opens l ++ withinT l false ++ shuts l) := by
                rw [HQ.out.2.2]
                intro x hx
                rcases List.mem_append.1 hx with hx | hx
                · rcases List.mem_append.1 hx with hx | hx
                  · exact opens_byt l x hx
                  · simp at hx; omega
                · exact shuts_byt l x hx
              have hzz : (opens l ++ withinT l false ++ shuts l).length ≤ 9223372036854775807 := by
                have h1 := opens_len l
                have h2 := shuts_len l
                have h3 := HLl.out
                rw [HQ.out.2.2]
                simp only [List.length_append, h2]
                have h4 : ([48] : List Int).length ≤ 1 := by simp
                omega
              have CR := hide (jread (es := opens l ++ withinT l false ++ shuts l) (ch := so ++ ⟨#[48]⟩ ++ sh) (HS.out.below B1.out).here hub hes hzz)
              clear hes hub hzz
              obtain ⟨o1, o2, o3⟩ := HOv.out (withinT l false ++ shuts l)
              rw [← List.append_assoc] at o1 o2 o3
              rw [o1, o2, o3] at CR
              clear o1 o2 o3
              go_wp2_with fail
              refine CR.out.mono ?_
              rintro e w2 ⟨v2, rfl, ht2, hb2⟩
              have B2 := hide (B1.out.trans (hb2.mono B1.out.size))
              have CI := hide (jisat 5 (lim ks k) ht2 (by omega) (by omega) (by omega) (HS.out.below B2.out).here (HH.out.below B2.out))
              rw [decide_eq_true (show (5 : Nat) = 5 from rfl), decide_eq_true (show ((lim ks k : Nat) : Int) = (lim ks k : Nat) from rfl)] at CI
              clear ht2 hb2 CR
              go_wp2_with fail
              refine CI.out.mono ?_
              rintro e w3 ⟨rfl, hb3⟩
              have B3 := hide (B2.out.trans (hb3.mono B2.out.size))
              clear hb3 CI
              go_wp2
              go_ret
              exact ⟨rfl, B3.out⟩
      · have ov' : ¬ ((128 : Int) < (N : Int)) := by omega
        have q1 : ¬ ((k : Int) < (N : Int)) := by omega
        have HlN := hide (show l.length = N by omega)
        have HIn := hide (show ∀ v, _ from fun v => deep_all l v (by omega))
        have HOpn := hide (opn_all l (by omega))
        cases v with
        | true =>
          have HQ := hide (show strOfNums (opens l) = so ∧ strOfNums (shuts l) = sh ∧ withinT l true = [48] from ⟨HSo.out, HSh.out, by simp [withinT]⟩)
          have hes : so ++ ⟨#[48]⟩ ++ sh = strOfNums (opens l ++ withinT l true ++ shuts l) := by
            rw [HQ.out.2.2, ← utxt_join, ← utxt_join, HQ.out.1, HQ.out.2.1]; rfl
          have hub : uByt (opens l ++ withinT l true ++ shuts l) := by
            rw [HQ.out.2.2]
            intro x hx
            rcases List.mem_append.1 hx with hx | hx
            · rcases List.mem_append.1 hx with hx | hx
              · exact opens_byt l x hx
              · simp at hx; omega
            · exact shuts_byt l x hx
          have hzz : (opens l ++ withinT l true ++ shuts l).length ≤ 9223372036854775807 := by
            have h1 := opens_len l
            have h2 := shuts_len l
            have h3 := HLl.out
            rw [HQ.out.2.2]
            simp only [List.length_append, h2]
            have h4 : ([48] : List Int).length ≤ 1 := by simp
            omega
          have CR := hide (jread (es := opens l ++ withinT l true ++ shuts l) (ch := so ++ ⟨#[48]⟩ ++ sh) (HS.out.below B1.out).here hub hes hzz)
          clear hes hub hzz
          obtain ⟨o1, o2, o3⟩ := HIn.out true
          rw [o1, o2, o3] at CR
          clear o1 o2 o3
          have hlw : (withinT l true).length = 1 := by rw [HQ.out.2.2]; rfl
          rw [hlw, HLO.out.1, HLO.out.2] at CR
          have HOp := hide HOpn.out
          clear hlw
          go_wp2_with fail
          refine CR.out.mono ?_
          rintro e w2 ⟨v2, rfl, ht2, hb2⟩
          have hv2 := ht2.none rfl
          subst hv2
          have B2 := hide (B1.out.trans (hb2.mono B1.out.size))
          have CN := hide (jNew (w := w2) (a := a))
          clear ht2 hb2 CR
          go_wp2_with fail
          refine CN.out.mono ?_
          rintro e w3 ⟨rfl, hp3, hb3⟩
          have B3 := hide (B2.out.trans (hb3.mono B2.out.size))
          have P3 := hide hp3
          have CW := hide (jWrite (es := opens l) (ch := so) hp3 (sntB_mono (HS.out.below B3.out) B2.out.size) (opens_byt l) HQ.out.1.symm (by have h1 := opens_len l; have h3 := HLl.out; simp [sc0]; omega))
          clear hp3 hb3 CN
          go_wp2_with fail
          refine CW.out.mono ?_
          rintro e w4 ⟨v4, ov4, rfl, hp4, ht4, hf4⟩
          have hv4 := ht4.none HOp.out.bad
          subst hv4
          have B4 := hide (B3.out.trans ((P3.out.sc.toBelow hf4).mono B2.out.size))
          have CD := hide (jDepth hp4.sc)
          rw [HOp.out.opn, List.length_map, HlN.out] at CD
          clear hp4 ht4 hf4 CW
          go_wp2_with fail
          refine CD.out.mono ?_
          rintro e w5 ⟨rfl, rfl⟩
          go_wp2
          go_ret
          exact ⟨rfl, B4.out⟩
        | false =>
          by_cases n0 : N = 0
          · have hwi : withinT l false = [48] := by
              have e : l = [] := List.eq_nil_of_length_eq_zero (by have := HlN.out; omega)
              rw [e]; rfl
            have HQ := hide (show strOfNums (opens l) = so ∧ strOfNums (shuts l) = sh ∧ withinT l false = [48] from ⟨HSo.out, HSh.out, hwi⟩)
            clear hwi
            have n0' : ((N : Nat) : Int) = 0 := by omega
            have hes : so ++ ⟨#[48]⟩ ++ sh = strOfNums (opens l ++ withinT l false ++ shuts l) := by
              rw [HQ.out.2.2, ← utxt_join, ← utxt_join, HQ.out.1, HQ.out.2.1]; rfl
            have hub : uByt (opens l ++ withinT l false ++ shuts l) := by
              rw [HQ.out.2.2]
              intro x hx
              rcases List.mem_append.1 hx with hx | hx
              · rcases List.mem_append.1 hx with hx | hx
                · exact opens_byt l x hx
                · simp at hx; omega
              · exact shuts_byt l x hx
            have hzz : (opens l ++ withinT l false ++ shuts l).length ≤ 9223372036854775807 := by
              have h1 := opens_len l
              have h2 := shuts_len l
              have h3 := HLl.out
              rw [HQ.out.2.2]
              simp only [List.length_append, h2]
              have h4 : ([48] : List Int).length ≤ 1 := by simp
              omega
            have CR := hide (jread (es := opens l ++ withinT l false ++ shuts l) (ch := so ++ ⟨#[48]⟩ ++ sh) (HS.out.below B1.out).here hub hes hzz)
            clear hes hub hzz
            obtain ⟨o1, o2, o3⟩ := HIn.out false
            rw [o1, o2, o3] at CR
            clear o1 o2 o3
            have hlw : (withinT l false).length = 1 := by rw [HQ.out.2.2]; rfl
            rw [hlw, HLO.out.1, HLO.out.2] at CR
            have HOp := hide HOpn.out
            clear hlw
            go_wp2_with fail
            refine CR.out.mono ?_
            rintro e w2 ⟨v2, rfl, ht2, hb2⟩
            have hv2 := ht2.none rfl
            subst hv2
            have B2 := hide (B1.out.trans (hb2.mono B1.out.size))
            have CN := hide (jNew (w := w2) (a := a))
            clear ht2 hb2 CR
            go_wp2_with fail
            refine CN.out.mono ?_
            rintro e w3 ⟨rfl, hp3, hb3⟩
            have B3 := hide (B2.out.trans (hb3.mono B2.out.size))
            have P3 := hide hp3
            have CW := hide (jWrite (es := opens l) (ch := so) hp3 (sntB_mono (HS.out.below B3.out) B2.out.size) (opens_byt l) HQ.out.1.symm (by have h1 := opens_len l; have h3 := HLl.out; simp [sc0]; omega))
            clear hp3 hb3 CN
            go_wp2_with fail
            refine CW.out.mono ?_
            rintro e w4 ⟨v4, ov4, rfl, hp4, ht4, hf4⟩
            have hv4 := ht4.none HOp.out.bad
            subst hv4
            have B4 := hide (B3.out.trans ((P3.out.sc.toBelow hf4).mono B2.out.size))
            have CD := hide (jDepth hp4.sc)
            rw [HOp.out.opn, List.length_map, HlN.out] at CD
            clear hp4 ht4 hf4 CW
            go_wp2_with fail
            refine CD.out.mono ?_
            rintro e w5 ⟨rfl, rfl⟩
            go_wp2
            go_ret
            exact ⟨rfl, B4.out⟩
          · have n0' : ¬ (((N : Nat) : Int) = 0) := by omega
            obtain ⟨jj, hjj⟩ : ∃ jj, N = jj + 1 := ⟨N - 1, by omega⟩
            have hj1 : (N : Int) - 1 = (jj : Int) := by omega
            have hj2 : (0 : Int) ≤ (jj : Int) ∧ (jj : Int) < (N : Int) := by omega
            have hm2 : ¬ ((200 : Int) < (N : Int)) := by omega
            obtain ⟨bb, oo, hao, hbb, hcl⟩ := HCl.out (by have := HN.out; omega)
            subst hao
            have ck := hcl jj (by have := HN.out; omega)
            rw [← B1.out.cell (p := ⟨bb, oo + jj, none⟩) hbb] at ck
            have hlast : l.getLastD true = ks.getD jj false ∧ l.isEmpty = false := by
              have hq := last_take (ks := ks) (j := jj) (by have := HN.out; omega)
              rw [show jj + 1 = k by omega, Hl.out] at hq
              exact hq
            clear hcl hbb
            cases hb : ks.getD jj false with
            | true =>
              rw [hb] at ck hlast
              have HQ := hide (show strOfNums (opens l) = so ∧ strOfNums (shuts l) = sh ∧ withinT l false = [] from ⟨HSo.out, HSh.out, by rw [withinT, hlast.1, hlast.2]; rfl⟩)
              clear hb hlast hjj
              have hes : so ++ ⟨#[]⟩ ++ sh = strOfNums (opens l ++ withinT l false ++ shuts l) := by
                rw [HQ.out.2.2, ← utxt_join, ← utxt_join, HQ.out.1, HQ.out.2.1]; rfl
              have hub : uByt (opens l ++ withinT l false ++ shuts l) := by
                rw [HQ.out.2.2]
                intro x hx
                rcases List.mem_append.1 hx with hx | hx
                · rcases List.mem_append.1 hx with hx | hx
                  · exact opens_byt l x hx
                  · simp at hx
                · exact shuts_byt l x hx
              have hzz : (opens l ++ withinT l false ++ shuts l).length ≤ 9223372036854775807 := by
                have h1 := opens_len l
                have h2 := shuts_len l
                have h3 := HLl.out
                rw [HQ.out.2.2]
                simp only [List.length_append, h2]
                have h4 : ([] : List Int).length ≤ 1 := by simp
                omega
              have CR := hide (jread (es := opens l ++ withinT l false ++ shuts l) (ch := so ++ ⟨#[]⟩ ++ sh) (HS.out.below B1.out).here hub hes hzz)
              clear hes hub hzz
              obtain ⟨o1, o2, o3⟩ := HIn.out false
              rw [o1, o2, o3] at CR
              clear o1 o2 o3
              have hlw : (withinT l false).length = 0 := by rw [HQ.out.2.2]; rfl
              rw [hlw, HLO.out.1, HLO.out.2] at CR
              have HOp := hide HOpn.out
              clear hlw
              go_wp2_with fail
              refine CR.out.mono ?_
              rintro e w2 ⟨v2, rfl, ht2, hb2⟩
              have hv2 := ht2.none rfl
              subst hv2
              have B2 := hide (B1.out.trans (hb2.mono B1.out.size))
              have CN := hide (jNew (w := w2) (a := a))
              clear ht2 hb2 CR
              go_wp2_with fail
              refine CN.out.mono ?_
              rintro e w3 ⟨rfl, hp3, hb3⟩
              have B3 := hide (B2.out.trans (hb3.mono B2.out.size))
              have P3 := hide hp3
              have CW := hide (jWrite (es := opens l) (ch := so) hp3 (sntB_mono (HS.out.below B3.out) B2.out.size) (opens_byt l) HQ.out.1.symm (by have h1 := opens_len l; have h3 := HLl.out; simp [sc0]; omega))
              clear hp3 hb3 CN
              go_wp2_with fail
              refine CW.out.mono ?_
              rintro e w4 ⟨v4, ov4, rfl, hp4, ht4, hf4⟩
              have hv4 := ht4.none HOp.out.bad
              subst hv4
              have B4 := hide (B3.out.trans ((P3.out.sc.toBelow hf4).mono B2.out.size))
              have CD := hide (jDepth hp4.sc)
              rw [HOp.out.opn, List.length_map, HlN.out] at CD
              clear hp4 ht4 hf4 CW
              go_wp2_with fail
              refine CD.out.mono ?_
              rintro e w5 ⟨rfl, rfl⟩
              go_wp2
              go_ret
              exact ⟨rfl, B4.out⟩
            | false =>
              rw [hb] at ck hlast
              have HQ := hide (show strOfNums (opens l) = so ∧ strOfNums (shuts l) = sh ∧ withinT l false = [48] from ⟨HSo.out, HSh.out, by rw [withinT, hlast.1, hlast.2]; rfl⟩)
              clear hb hlast hjj
              have hes : so ++ ⟨#[48]⟩ ++ sh = strOfNums (opens l ++ withinT l false ++ shuts l) := by
                rw [HQ.out.2.2, ← utxt_join, ← utxt_join, HQ.out.1, HQ.out.2.1]; rfl
              have hub : uByt (opens l ++ withinT l false ++ shuts l) := by
                rw [HQ.out.2.2]
                intro x hx
                rcases List.mem_append.1 hx with hx | hx
                · rcases List.mem_append.1 hx with hx | hx
                  · exact opens_byt l x hx
                  · simp at hx; omega
                · exact shuts_byt l x hx
              have hzz : (opens l ++ withinT l false ++ shuts l).length ≤ 9223372036854775807 := by
                have h1 := opens_len l
                have h2 := shuts_len l
                have h3 := HLl.out
                rw [HQ.out.2.2]
                simp only [List.length_append, h2]
                have h4 : ([48] : List Int).length ≤ 1 := by simp
                omega
              have CR := hide (jread (es := opens l ++ withinT l false ++ shuts l) (ch := so ++ ⟨#[48]⟩ ++ sh) (HS.out.below B1.out).here hub hes hzz)
              clear hes hub hzz
              obtain ⟨o1, o2, o3⟩ := HIn.out false
              rw [o1, o2, o3] at CR
              clear o1 o2 o3
              have hlw : (withinT l false).length = 1 := by rw [HQ.out.2.2]; rfl
              rw [hlw, HLO.out.1, HLO.out.2] at CR
              have HOp := hide HOpn.out
              clear hlw
              go_wp2_with fail
              refine CR.out.mono ?_
              rintro e w2 ⟨v2, rfl, ht2, hb2⟩
              have hv2 := ht2.none rfl
              subst hv2
              have B2 := hide (B1.out.trans (hb2.mono B1.out.size))
              have CN := hide (jNew (w := w2) (a := a))
              clear ht2 hb2 CR
              go_wp2_with fail
              refine CN.out.mono ?_
              rintro e w3 ⟨rfl, hp3, hb3⟩
              have B3 := hide (B2.out.trans (hb3.mono B2.out.size))
              have P3 := hide hp3
              have CW := hide (jWrite (es := opens l) (ch := so) hp3 (sntB_mono (HS.out.below B3.out) B2.out.size) (opens_byt l) HQ.out.1.symm (by have h1 := opens_len l; have h3 := HLl.out; simp [sc0]; omega))
              clear hp3 hb3 CN
              go_wp2_with fail
              refine CW.out.mono ?_
              rintro e w4 ⟨v4, ov4, rfl, hp4, ht4, hf4⟩
              have hv4 := ht4.none HOp.out.bad
              subst hv4
              have B4 := hide (B3.out.trans ((P3.out.sc.toBelow hf4).mono B2.out.size))
              have CD := hide (jDepth hp4.sc)
              rw [HOp.out.opn, List.length_map, HlN.out] at CD
              clear hp4 ht4 hf4 CW
              go_wp2_with fail
              refine CD.out.mono ?_
              rintro e w5 ⟨rfl, rfl⟩
              go_wp2
              go_ret
              exact ⟨rfl, B4.out⟩

end Go.Proofs.YtefmlajndillbaaDoor
