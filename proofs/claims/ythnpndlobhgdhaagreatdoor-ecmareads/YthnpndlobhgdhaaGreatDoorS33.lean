/- EnS, EnT, EnU, EnB -/
import Derived.Test.YthnpndlobhgdhaaGreatDoorS16
import Derived.Test.YthnpndlobhgdhaaGreatDoorS32
import Derived.Test.YthnpndlobhgdhaaGreatDoorS06
import Derived.Deep.Cut
namespace Go.Proofs.YthnpndlobhgdhaaGreatDoor
open Go.RowKit
set_option linter.unusedVariables false

/-- behind the digits that begin at a place -/
def runE (es : List Int) (k : Nat) : Nat := k + ((es.drop k).takeWhile isD).length
theorem runE_ge (es : List Int) (k : Nat) : k ≤ runE es k := by unfold runE; omega
theorem runE_le {es : List Int} {k : Nat} (h : k ≤ es.length) : runE es k ≤ es.length := by
  unfold runE
  have := (List.takeWhile_prefix (l := es.drop k) isD).length_le
  rw [List.length_drop] at this
  omega
theorem runE_stop {es : List Int} {k : Nat} (h : k < es.length) (hc : isD (Nt.lb es k) = false) : runE es k = k := by
  unfold runE
  rw [drop_lb h, List.takeWhile_cons, if_neg (by rw [hc]; decide)]
  rfl
theorem runE_end {es : List Int} {k : Nat} (h : es.length ≤ k) : runE es k = k := by
  unfold runE
  rw [List.drop_of_length_le h]; rfl
theorem runE_more {es : List Int} {k : Nat} (h : k < es.length) (hc : isD (Nt.lb es k) = true) : runE es k = runE es (k + 1) := by
  unfold runE
  rw [drop_lb h, List.takeWhile_cons, if_pos hc, List.length_cons]
  omega
/-- what stands there is no digit -/
theorem runE_at {es : List Int} {k : Nat} (h : runE es k < es.length) : isD (Nt.lb es (runE es k)) = false := by
  obtain ⟨n, hn⟩ : ∃ n, es.length - k = n := ⟨_, rfl⟩
  induction n generalizing k with
  | zero =>
    rw [runE_end (by omega)] at h
    omega
  | succ n ih =>
    cases hd : isD (Nt.lb es k) with
    | false => rw [runE_stop (by omega) hd]; exact hd
    | true =>
      rw [runE_more (by omega) hd] at h ⊢
      exact ih h (by omega)
theorem runE_dig {es : List Int} {k j : Nat} (h1 : k ≤ j) (h2 : j < runE es k) : j < es.length ∧ 48 ≤ Nt.lb es j ∧ Nt.lb es j ≤ 57 := by
  obtain ⟨n, hn⟩ : ∃ n, es.length - k = n := ⟨_, rfl⟩
  induction n generalizing k with
  | zero => rw [runE_end (by omega)] at h2; omega
  | succ n ih =>
    cases hd : isD (Nt.lb es k) with
    | false => rw [runE_stop (by omega) hd] at h2; omega
    | true =>
      rcases Nat.lt_or_ge k j with g | g
      · rw [runE_more (by omega) hd] at h2
        exact ih (by omega) h2 (by omega)
      · obtain rfl : j = k := by omega
        exact ⟨by omega, isD_iff.1 hd⟩
theorem runE_dgt {es : List Int} {k : Nat} : Dgt ((es.take (runE es k)).drop k) := by
  intro x hx
  obtain ⟨j, hj, rfl⟩ := List.getElem_of_mem hx
  rw [List.getElem_drop, List.getElem_take]
  rw [List.length_drop, List.length_take] at hj
  have := runE_dig (es := es) (k := k) (j := k + j) (by omega) (by omega)
  rw [← lb_get this.1]
  exact this.2
/-- the scanner goes over digits -/
theorem run_go {es : List Int} {k q : Nat} {R : Nat × Bool} (hq : q = 3 ∨ q = 4 ∨ q = 8) (h : R = scG (es.drop k) k q) : R = scG (es.drop (runE es k)) (runE es k) q := by
  obtain ⟨n, hn⟩ : ∃ n, es.length - k = n := ⟨_, rfl⟩
  induction n generalizing k with
  | zero => rw [runE_end (by omega)]; exact h
  | succ n ih =>
    cases hd : isD (Nt.lb es k) with
    | false => rw [runE_stop (by omega) hd]; exact h
    | true =>
      rw [runE_more (by omega) hd]
      exact ih (sc_go h (by omega) rfl (nx_dig hq (isD_iff.1 hd)) (by omega)) (by omega)
theorem run_first {es : List Int} {k q q' : Nat} {R : Nat × Bool} (hq : (q ≤ 1 ∧ q' = 3 ∧ Nt.lb es k ≠ 48) ∨ (q = 5 ∧ q' = 4) ∨ ((q = 6 ∨ q = 7) ∧ q' = 8)) (h : R = scG (es.drop k) k q) (hk : runE es k ≠ k) : R = scG (es.drop (runE es k)) (runE es k) q' := by
  have hl : k < es.length := by
    rcases Nat.lt_or_ge k es.length with g | g
    · exact g
    · exact absurd (runE_end g) hk
  have hd : isD (Nt.lb es k) = true := by
    cases hd : isD (Nt.lb es k) with
    | true => rfl
    | false => exact absurd (runE_stop hl hd) hk
  have hD := isD_iff.1 hd
  have hn : nx q (Nt.lb es k) = q' := by
    rcases hq with ⟨a, rfl, c⟩ | ⟨rfl, rfl⟩ | ⟨rfl | rfl, rfl⟩
    · exact nx_first a hD c
    · exact nx_57 (Or.inl ⟨rfl, rfl⟩) hD
    · unfold nx; simp [hd]; omega
    · exact nx_57 (Or.inr ⟨rfl, rfl⟩) hD
  rw [runE_more hl hd]
  exact run_go (by omega) (sc_go h hl rfl hn (by omega))
/-- where the scanner wants a digit and there is none -/
theorem run_none {es : List Int} {k q : Nat} {R : Nat × Bool} (hq : q = 1 ∨ q = 5 ∨ q = 7 ∨ (q = 0 ∧ (k < es.length → Nt.lb es k ≠ 45)) ∨ (q = 6 ∧ (k < es.length → Nt.lb es k ≠ 43 ∧ Nt.lb es k ≠ 45))) (h : R = scG (es.drop k) k q) (hk : runE es k = k) : R = (k, false) := by
  rcases Nat.lt_or_ge k es.length with g | g
  · have hd : isD (Nt.lb es k) = false := by
      have := runE_at (es := es) (k := k) (by rw [hk]; exact g)
      rwa [hk] at this
    refine sc_stop h g rfl ?_
    rcases hq with rfl | rfl | rfl | ⟨rfl, c⟩ | ⟨rfl, c⟩
    · unfold nx; simp [hd]
    · unfold nx; simp [hd]
    · unfold nx; simp [hd]
    · have := c g; unfold nx; simp [hd, this]
    · have := c g; unfold nx; simp [hd, this.1, this.2]
  · rw [sc_end h g]
    rcases hq with rfl | rfl | rfl | ⟨rfl, _⟩ | ⟨rfl, _⟩ <;> rfl

set_option maxRecDepth 100000 in
set_option maxHeartbeats 4000000 in
theorem run8_any {w : World} {s : ByteArray} {es : List Int} {k : Nat} (hb : Byt es) (hs : s = strOfNums es) (hk : k ≤ es.length) (hl : es.length ≤ 70368744177664) :
    Calls Tryz.prog 87 #[.string s, .int .i64 k] w fun e w' => e = .returned (.int .i64 (runE es k)) ∧ w' = w := by
  have hsz : s.size = es.length := by rw [hs, strOfNums_size]
  have Hix := hide (show ∀ p (h : p < s.size), (((s[p]'h).toNat : Nat) : Int) = Nt.lb es p from fun p h => by subst hs; exact txt_at h hb)
  have HB := hide (show ∀ p, p < es.length → 0 ≤ Nt.lb es p ∧ Nt.lb es p < 256 from fun p h => hb _ (lb_in h))
  obtain ⟨N, hN⟩ : ∃ N, es.length = N := ⟨_, rfl⟩
  have HN := hide hN
  rw [hN] at hsz hk hl
  clear hs hb hN
  go_enter Tryz.func87, Tryz.ntmps87
  go_wp2
  go_loopg [1] (N - k) (fun c i wr => ∃ j : Nat, j ≤ N ∧ c = N - j ∧ i = .int .i64 j ∧ Hid (runE es k = runE es j) ∧ w = wr)
  case atStart => exact ⟨k, hk, rfl, rfl, hide rfl, rfl⟩
  case round =>
    obtain ⟨j, hj, hc, rfl, HR, hw⟩ := hrel
    subst hw
    by_cases hjl : j < N
    · have hps : j < s.size := by omega
      have hx := Hix.out j hps
      have hb9 := HB.out j (by rw [HN.out]; exact hjl)
      obtain ⟨c, hcc⟩ : ∃ c, Nt.lb es j = c := ⟨_, rfl⟩
      rw [hcc] at hx hb9
      have HCC := hide hcc
      obtain ⟨x0, x1⟩ := hb9
      have q4 : (j : Int) < (N : Int) := by omega
      clear hcc
      cases hd : isD c with
      | true =>
        have HR2 := hide (HR.out.trans (runE_more (by rw [HN.out]; exact hjl) (by rw [HCC.out]; exact hd)))
        go_wp2_with fail
        refine (digit8_any x0 x1).mono ?_
        rintro e w2 ⟨rfl, rfl⟩
        rw [hd]
        go_wp2
        go_roundg (N - (j + 1))
        case measure => omega
        case rel => exact ⟨j + 1, by omega, rfl, by simp, HR2, rfl⟩
      | false =>
        have HR2 := hide (HR.out.trans (runE_stop (by rw [HN.out]; exact hjl) (by rw [HCC.out]; exact hd)))
        go_wp2_with fail
        refine (digit8_any x0 x1).mono ?_
        rintro e w2 ⟨rfl, rfl⟩
        rw [hd]
        go_wp2
        go_ret
        exact ⟨by rw [HR2.out]; rfl, rfl⟩
    · obtain rfl : j = N := by omega
      have HR2 := hide (HR.out.trans (runE_end (by rw [HN.out]; exact Nat.le_refl _)))
      have q4 : ¬ (j : Int) < (j : Int) := by omega
      go_wp2
      go_ret
      exact ⟨by rw [HR2.out]; rfl, rfl⟩

end Go.Proofs.YthnpndlobhgdhaaGreatDoor

namespace Go.Proofs.YthnpndlobhgdhaaGreatDoor
open Go.RowKit
set_option linter.unusedVariables false

theorem seg_app {es : List Int} {i j : Nat} (h : i ≤ j) : es.drop i = (es.take j).drop i ++ es.drop j := by
  rcases Nat.lt_or_ge es.length j with g | g
  · rw [List.take_of_length_le (by omega), show es.drop j = [] from List.drop_of_length_le (by omega), List.append_nil]
  · conv => lhs; rw [← List.take_append_drop j es]
    rw [List.drop_append_of_le_length (by rw [List.length_take]; omega)]
theorem ixE_body {W X rest : List Int} {F : List Int} (hW : Dgt W) (hX : X = [] ∨ (X = 46 :: F ∧ Dgt F)) : ixE (W ++ (X ++ rest)) = if ixE rest = -1 then -1 else ixE rest + (W ++ X).length := by
  rw [ixE_dig hW]
  rcases hX with rfl | ⟨rfl, hF⟩
  · simp
  · rw [List.cons_append, ixE_pt, ixE_dig hF]
    by_cases c : ixE rest = -1
    · simp [c]
    · have r := ixE_range rest
      rw [if_neg c, if_neg c, if_neg (by omega), if_neg (by omega)]
      simp; omega
theorem body_wf {W X F : List Int} (hW : Dgt W) (hX : (X = [] ∧ F = []) ∨ (X = 46 :: F ∧ Dgt F)) : voW (W ++ X) = W ∧ voF (W ++ X) = F := by
  rcases hX with ⟨rfl, rfl⟩ | ⟨rfl, hF⟩
  · rw [List.append_nil]; exact voW_no hW
  · exact voW_pt hW
/-- the parts, of a text that is a number -/
theorem sp_full {es W X F Y T P : List Int} {ng less : Bool} (h : es = (if ng then [45] else []) ++ (W ++ (X ++ Y))) (hW : Dgt W) (hW0 : 0 < W.length) (hX : (X = [] ∧ F = []) ∨ (X = 46 :: F ∧ Dgt F))
    (hY : (Y = [] ∧ P = [] ∧ less = false) ∨ (∃ c, (c = 101 ∨ c = 69) ∧ Y = c :: T ∧ Dgt P ∧ ((T = P ∧ less = false ∧ 0 < P.length) ∨ (T = 43 :: P ∧ less = false) ∨ (T = 45 :: P ∧ less = true)))) :
    headB es 45 = ng ∧ voDs es = W ++ F ∧ (voW (voB es)).length = W.length ∧ ∀ lim, voP lim es = if less then -(pwF lim P 0) else pwF lim P 0 := by
  have hX' : X = [] ∨ (X = 46 :: F ∧ Dgt F) := by rcases hX with ⟨a, _⟩ | a; exact Or.inl a; exact Or.inr a
  obtain ⟨w0, Wr, hw⟩ : ∃ a r, W = a :: r := by cases W with | nil => simp at hW0 | cons a r => exact ⟨a, r, rfl⟩
  have hw0 := hW w0 (by rw [hw]; simp)
  have hb : headB es 45 = ng := by
    rw [h, hw]
    cases ng
    · show (w0 == 45) = false; simp; omega
    · rfl
  have hc : cutB es 45 = W ++ (X ++ Y) := by
    unfold cutB
    rw [hb, h]
    cases ng <;> simp
  have hbody : ∀ B, B = W ++ X → voW B = W ∧ voF B = F := fun B e => by rw [e]; exact body_wf hW hX
  rcases hY with ⟨rfl, rfl, rfl⟩ | ⟨c, hc1, rfl, hP, hT⟩
  · have hi : ixE (cutB es 45) = -1 := by rw [hc, ixE_body hW hX']; rfl
    have hB : voB es = W ++ X := by unfold voB; rw [if_pos hi, hc, List.append_nil]
    obtain ⟨a, b⟩ := hbody _ hB
    refine ⟨hb, by unfold voDs; rw [a, b], by rw [a], fun lim => ?_⟩
    unfold voP; rw [if_pos hi]; rfl
  · have hz : ixE (c :: T) = 0 := by
      unfold ixE
      rcases hc1 with rfl | rfl <;> rfl
    have hi : ixE (cutB es 45) = (W ++ X).length := by rw [hc, ixE_body hW hX', hz]; simp
    have hB : voB es = W ++ X := by
      unfold voB
      rw [if_neg (by rw [hi]; omega), hi, hc, Int.toNat_natCast, ← List.append_assoc, List.take_left]
    have hTT : voT es = T := by
      unfold voT
      rw [hi, hc, Int.toNat_natCast, ← List.append_assoc]
      rw [List.drop_append]
      simp
    obtain ⟨a, b⟩ := hbody _ hB
    refine ⟨hb, by unfold voDs; rw [a, b], by rw [a], fun lim => ?_⟩
    unfold voP
    rw [if_neg (by rw [hi]; omega), hTT]
    have hd : ∀ c, c < 48 → cutB P c = P := fun c hc => cutB_dig hc hP
    rcases hT with ⟨rfl, rfl, hl⟩ | ⟨rfl, rfl⟩ | ⟨rfl, rfl⟩
    · have e : headB T 45 = false := by
        cases T with
        | nil => rfl
        | cons a r => have := hP a (by simp); show (a == 45) = false; simp; omega
      rw [e, hd 45 (by omega), hd 43 (by omega)]; first | done | rfl
    · have e : headB (43 :: P) 45 = false := rfl
      have e2 : cutB (43 :: P) 45 = 43 :: P := rfl
      have e3 : cutB (43 :: P) 43 = P := rfl
      rw [e, e2, e3]; first | done | rfl
    · have e : headB (45 :: P) 45 = true := rfl
      have e2 : cutB (45 :: P) 45 = P := rfl
      rw [e, e2, hd 43 (by omega)]; first | done | rfl
/-- what stops the scanner behind a number -/
theorem nx_stop {q : Nat} {c : Int} (hq : (q = 2 ∧ c ≠ 46 ∧ c ≠ 101 ∧ c ≠ 69) ∨ (q = 3 ∧ isD c = false ∧ c ≠ 46 ∧ c ≠ 101 ∧ c ≠ 69) ∨ (q = 4 ∧ isD c = false ∧ c ≠ 101 ∧ c ≠ 69) ∨ (q = 8 ∧ isD c = false)) : nx q c = 9 := by
  rcases hq with ⟨rfl, a, b, d⟩ | ⟨rfl, a, b, d, f⟩ | ⟨rfl, a, b, d⟩ | ⟨rfl, a⟩
  · unfold nx
    cases isD c <;> simp [a, b, d]
  · unfold nx; simp [a, b, d, f]
  · unfold nx; simp [a, b, d]
  · unfold nx; simp [a]

/-- what Split answers of a number -/
structure Sp8 (es : List Int) (k : Nat) (ng : Bool) (ds : List Int) (wl : Nat) (less : Bool) (ps : List Int) : Prop where
  le : k ≤ es.length
  dd : Dgt ds
  pd : Dgt ps
  dl : ds.length ≤ es.length
  pl : ps.length ≤ es.length
  wl' : wl ≤ es.length
  short : k < es.length → scG es 0 0 = (k, false)
  full : k = es.length → (scG es 0 0).2 = true ∧ headB es 45 = ng ∧ voDs es = ds ∧ (voW (voB es)).length = wl ∧ ∀ lim, voP lim es = if less then -(pwF lim ps 0) else pwF lim ps 0

/-- behind the sign -/
def PA (es : List Int) (ng : Bool) (a : Nat) : Prop := a ≤ es.length ∧ es = (if ng then [45] else []) ++ es.drop a ∧ ∃ q, q ≤ 1 ∧ scG es 0 0 = scG (es.drop a) a q ∧ (q = 1 ∨ (a < es.length → Nt.lb es a ≠ 45))
theorem pa_no {es : List Int} (h : 0 < es.length → Nt.lb es 0 ≠ 45) : PA es false 0 := ⟨Nat.zero_le _, rfl, 0, by omega, rfl, Or.inr h⟩
theorem pa_yes {es : List Int} (h0 : 0 < es.length) (h : Nt.lb es 0 = 45) : PA es true 1 := by
  refine ⟨h0, ?_, 1, by omega, sc_go (R := scG es 0 0) (k := 0) (q := 0) rfl h0 h rfl (by decide), Or.inl rfl⟩
  conv => lhs; rw [show es = es.drop 0 from rfl, drop_lb h0, h]
  rfl
/-- behind the whole part -/
structure PB (es : List Int) (a b q : Nat) : Prop where
  le : a ≤ b
  le2 : b ≤ es.length
  no : b = a → scG es 0 0 = (a, false)
  yes : a < b → scG es 0 0 = scG (es.drop b) b q ∧ Dgt ((es.take b).drop a) ∧ (q = 2 ∨ (q = 3 ∧ (b < es.length → isD (Nt.lb es b) = false)))
theorem pb_nought {es : List Int} {ng : Bool} {a : Nat} (h : PA es ng a) (hl : a < es.length) (h0 : Nt.lb es a = 48) : PB es a (a + 1) 2 := by
  obtain ⟨_, _, q, hq, hs, _⟩ := h
  have hn : nx q 48 = 2 := by
    have : q = 0 ∨ q = 1 := by omega
    rcases this with rfl | rfl <;> rfl
  refine ⟨by omega, by omega, fun e => by omega, fun _ => ⟨sc_go hs hl h0 hn (by decide), ?_, Or.inl rfl⟩⟩
  have e : (es.take (a + 1)).drop a = [48] := by
    have := drop_lb (es := es.take (a + 1)) (k := a) (by rw [List.length_take]; omega)
    rw [this, lb_take8 (by omega), h0, List.drop_of_length_le (by rw [List.length_take]; omega)]
  rw [e]; intro x hx; simp at hx; omega
theorem pb_run {es : List Int} {ng : Bool} {a : Nat} (h : PA es ng a) (h0 : ¬ (a < es.length ∧ Nt.lb es a = 48)) : PB es a (runE es a) 3 := by
  obtain ⟨hl, _, q, hq, hs, h4⟩ := h
  refine ⟨runE_ge _ _, runE_le hl, fun e => ?_, fun hlt => ⟨?_, runE_dgt, Or.inr ⟨rfl, fun g => runE_at g⟩⟩⟩
  · refine run_none ?_ hs e
    have : q = 0 ∨ q = 1 := by omega
    rcases this with rfl | rfl
    · rcases h4 with h4 | h4
      · omega
      · exact Or.inr (Or.inr (Or.inr (Or.inl ⟨rfl, h4⟩)))
    · exact Or.inl rfl
  · refine run_first (Or.inl ⟨hq, rfl, fun e => ?_⟩) hs (by omega)
    rcases Nat.lt_or_ge a es.length with g | g
    · exact h0 ⟨g, e⟩
    · rw [runE_end g] at hlt; omega
/-- behind the point's digits -/
structure PC (es F : List Int) (b c q : Nat) : Prop where
  le : b ≤ c
  le2 : c ≤ es.length
  sc : scG es 0 0 = scG (es.drop c) c q
  fd : Dgt F
  fl : F.length ≤ es.length
  st : ∃ X, es.drop b = X ++ es.drop c ∧ ((X = [] ∧ F = []) ∨ (X = 46 :: F))
  nx : c < es.length → (q = 2 ∧ Nt.lb es c ≠ 46) ∨ (q = 3 ∧ isD (Nt.lb es c) = false ∧ Nt.lb es c ≠ 46) ∨ (q = 4 ∧ isD (Nt.lb es c) = false)
  fin : fin8 q = true
theorem pc_no {es : List Int} {a b q : Nat} (h : PB es a b q) (hab : a < b) (h0 : ¬ (b < es.length ∧ Nt.lb es b = 46)) : PC es [] b b q := by
  obtain ⟨h1, h2, h3⟩ := h.yes hab
  refine ⟨Nat.le_refl _, h.le2, h1, (fun x hx => by cases hx), by simp, ⟨[], rfl, Or.inl ⟨rfl, rfl⟩⟩, fun g => ?_, ?_⟩
  · have n46 : Nt.lb es b ≠ 46 := fun e => h0 ⟨g, e⟩
    rcases h3 with rfl | ⟨rfl, h3⟩
    · exact Or.inl ⟨rfl, n46⟩
    · exact Or.inr (Or.inl ⟨rfl, h3 g, n46⟩)
  · rcases h3 with rfl | ⟨rfl, _⟩ <;> rfl
theorem pt_sc {es : List Int} {a b q : Nat} (h : PB es a b q) (hab : a < b) (hl : b < es.length) (h0 : Nt.lb es b = 46) : scG es 0 0 = scG (es.drop (b + 1)) (b + 1) 5 := by
  obtain ⟨h1, _, h3⟩ := h.yes hab
  refine sc_go h1 hl h0 ?_ (by decide)
  rcases h3 with rfl | ⟨rfl, _⟩ <;> rfl
theorem pc_yes {es : List Int} {a b q : Nat} (h : PB es a b q) (hab : a < b) (hl : b < es.length) (h0 : Nt.lb es b = 46) (hr : runE es (b + 1) ≠ b + 1) : PC es ((es.take (runE es (b + 1))).drop (b + 1)) b (runE es (b + 1)) 4 := by
  have g1 := runE_ge es (b + 1)
  have g2 := runE_le (es := es) (k := b + 1) (by omega)
  refine ⟨by omega, g2, run_first (Or.inr (Or.inl ⟨rfl, rfl⟩)) (pt_sc h hab hl h0) hr, runE_dgt, by rw [List.length_drop, List.length_take]; omega, ⟨_, ?_, Or.inr rfl⟩, fun g => Or.inr (Or.inr ⟨rfl, runE_at g⟩), rfl⟩
  rw [drop_lb hl, h0, seg_app (es := es) g1, List.cons_append]
/-- the end, without a power -/
theorem sp_end0 {es F : List Int} {ng : Bool} {a b c q q' : Nat} (hA : PA es ng a) (hB : PB es a b q) (hab : a < b) (hC : PC es F b c q') (h0 : ¬ (c < es.length ∧ (Nt.lb es c = 101 ∨ Nt.lb es c = 69))) :
    Sp8 es c ng ((es.take b).drop a ++ F) (b - a) false [] := by
  obtain ⟨_, hW, _⟩ := hB.yes hab
  have hle := hB.le2
  have wl : ((es.take b).drop a).length = b - a := by rw [List.length_drop, List.length_take]; omega
  obtain ⟨X, hX, hXF⟩ := hC.st
  have hXl : F.length + b ≤ es.length := by
    have := congrArg List.length hX
    rw [List.length_drop, List.length_append, List.length_drop] at this
    rcases hXF with ⟨rfl, rfl⟩ | rfl
    · simp; omega
    · simp only [List.length_cons] at this
      have := hC.le2
      omega
  refine ⟨hC.le2, hW.append hC.fd, fun x hx => (by cases hx), by rw [List.length_append, wl]; omega, by simp, by omega, fun g => ?_, fun g => ?_⟩
  · refine sc_stop hC.sc g rfl (nx_stop ?_)
    have n1 : Nt.lb es c ≠ 101 := fun e => h0 ⟨g, Or.inl e⟩
    have n2 : Nt.lb es c ≠ 69 := fun e => h0 ⟨g, Or.inr e⟩
    rcases hC.nx g with ⟨a, b⟩ | ⟨a, b, d⟩ | ⟨a, b⟩
    · exact Or.inl ⟨a, b, n1, n2⟩
    · exact Or.inr (Or.inl ⟨a, b, d, n1, n2⟩)
    · exact Or.inr (Or.inr (Or.inl ⟨a, b, n1, n2⟩))
  · have e1 : es = (if ng then [45] else []) ++ ((es.take b).drop a ++ (X ++ [])) := by
      conv => lhs; rw [hA.2.1]
      rw [seg_app (es := es) hB.le, hX, g, List.drop_length]
    have hh := sp_full (T := []) (P := []) (less := false) e1 hW (by rw [wl]; omega) (by rcases hXF with h | h; exact Or.inl h; exact Or.inr ⟨h, hC.fd⟩) (Or.inl ⟨rfl, rfl, rfl⟩)
    refine ⟨?_, hh.1, hh.2.1, by rw [hh.2.2.1, wl], hh.2.2.2⟩
    rw [sc_end hC.sc (by omega)]; exact hC.fin
/-- behind the mark and its sign -/
structure PD (es T0 : List Int) (c d q : Nat) (less : Bool) : Prop where
  le : c < d
  le2 : d ≤ es.length
  sc : scG es 0 0 = scG (es.drop d) d q
  st : ∃ m, (m = 101 ∨ m = 69) ∧ es.drop c = m :: (T0 ++ es.drop d)
  tt : (T0 = [] ∧ less = false ∧ q = 6 ∧ (d < es.length → Nt.lb es d ≠ 43 ∧ Nt.lb es d ≠ 45)) ∨ (T0 = [43] ∧ less = false ∧ q = 7) ∨ (T0 = [45] ∧ less = true ∧ q = 7)
theorem mark_sc {es F : List Int} {b c q : Nat} (h : PC es F b c q) (hl : c < es.length) (h0 : Nt.lb es c = 101 ∨ Nt.lb es c = 69) : scG es 0 0 = scG (es.drop (c + 1)) (c + 1) 6 := by
  have hx := h.nx hl
  rcases h0 with h0 | h0
  · refine sc_go h.sc hl h0 ?_ (by decide)
    rcases hx with ⟨rfl, _⟩ | ⟨rfl, _⟩ | ⟨rfl, _⟩ <;> rfl
  · refine sc_go h.sc hl h0 ?_ (by decide)
    rcases hx with ⟨rfl, _⟩ | ⟨rfl, _⟩ | ⟨rfl, _⟩ <;> rfl
theorem pd_no {es F : List Int} {b c q : Nat} (h : PC es F b c q) (hl : c < es.length) (h0 : Nt.lb es c = 101 ∨ Nt.lb es c = 69) (h1 : ¬ (c + 1 < es.length ∧ (Nt.lb es (c + 1) = 43 ∨ Nt.lb es (c + 1) = 45))) : PD es [] c (c + 1) 6 false :=
  ⟨by omega, by omega, mark_sc h hl h0, ⟨_, h0, by rw [drop_lb hl]; rfl⟩, Or.inl ⟨rfl, rfl, rfl, fun g => ⟨fun e => h1 ⟨g, Or.inl e⟩, fun e => h1 ⟨g, Or.inr e⟩⟩⟩⟩
theorem pd_yes {es F : List Int} {b c q : Nat} {x : Int} {less : Bool} (h : PC es F b c q) (hl : c < es.length) (h0 : Nt.lb es c = 101 ∨ Nt.lb es c = 69) (h1 : c + 1 < es.length) (hx : Nt.lb es (c + 1) = x) (hc : (x = 43 ∧ less = false) ∨ (x = 45 ∧ less = true)) : PD es [x] c (c + 2) 7 less := by
  refine ⟨by omega, by omega, sc_go (mark_sc h hl h0) h1 hx ?_ (by decide), ⟨_, h0, ?_⟩, ?_⟩
  · rcases hc with ⟨rfl, _⟩ | ⟨rfl, _⟩ <;> rfl
  · rw [drop_lb hl, drop_lb h1, hx]; rfl
  · rcases hc with ⟨rfl, hc⟩ | ⟨rfl, hc⟩
    · exact Or.inr (Or.inl ⟨rfl, hc, rfl⟩)
    · exact Or.inr (Or.inr ⟨rfl, hc, rfl⟩)
theorem pd_none {es T0 : List Int} {c d q : Nat} {less : Bool} (h : PD es T0 c d q less) (hr : runE es d = d) : scG es 0 0 = (d, false) := by
  refine run_none ?_ h.sc hr
  rcases h.tt with ⟨_, _, e, f⟩ | ⟨_, _, e⟩ | ⟨_, _, e⟩
  · exact Or.inr (Or.inr (Or.inr (Or.inr ⟨e, f⟩)))
  · exact Or.inr (Or.inr (Or.inl e))
  · exact Or.inr (Or.inr (Or.inl e))
/-- the end, with a power -/
theorem sp_end1 {es F T0 : List Int} {ng less : Bool} {a b c d q q' q'' : Nat} (hA : PA es ng a) (hB : PB es a b q) (hab : a < b) (hC : PC es F b c q') (hD : PD es T0 c d q'' less) (hr : runE es d ≠ d) :
    Sp8 es (runE es d) ng ((es.take b).drop a ++ F) (b - a) less ((es.take (runE es d)).drop d) := by
  obtain ⟨_, hW, _⟩ := hB.yes hab
  have hle := hB.le2
  have g1 := runE_ge es d
  have g2 := runE_le (es := es) (k := d) hD.le2
  have wl : ((es.take b).drop a).length = b - a := by rw [List.length_drop, List.length_take]; omega
  obtain ⟨X, hX, hXF⟩ := hC.st
  have hXl : F.length + b ≤ es.length := by
    have := congrArg List.length hX
    rw [List.length_drop, List.length_append, List.length_drop] at this
    rcases hXF with ⟨rfl, rfl⟩ | rfl
    · simp; omega
    · simp only [List.length_cons] at this
      have := hC.le2
      omega
  have hsc : scG es 0 0 = scG (es.drop (runE es d)) (runE es d) 8 := by
    refine run_first (Or.inr (Or.inr ⟨?_, rfl⟩)) hD.sc hr
    rcases hD.tt with ⟨_, _, e, _⟩ | ⟨_, _, e⟩ | ⟨_, _, e⟩
    · exact Or.inl e
    · exact Or.inr e
    · exact Or.inr e
  refine ⟨g2, hW.append hC.fd, runE_dgt, by rw [List.length_append, wl]; omega, by rw [List.length_drop, List.length_take]; omega, by omega, fun g => sc_stop hsc g rfl (nx_stop (Or.inr (Or.inr (Or.inr ⟨rfl, runE_at g⟩)))), fun g => ?_⟩
  obtain ⟨m, hm, hY⟩ := hD.st
  have e0 : es.drop d = (es.take (runE es d)).drop d := by
    conv => lhs; rw [seg_app (es := es) g1]
    rw [List.drop_of_length_le (l := es) (i := runE es d) (by omega), List.append_nil]
  have e1 : es = (if ng then [45] else []) ++ ((es.take b).drop a ++ (X ++ (m :: (T0 ++ (es.take (runE es d)).drop d)))) := by
    conv => lhs; rw [hA.2.1]
    rw [seg_app (es := es) hB.le, hX, hY, e0]
  have pl : 0 < ((es.take (runE es d)).drop d).length := by rw [List.length_drop, List.length_take]; omega
  have hh := sp_full (T := T0 ++ (es.take (runE es d)).drop d) (P := (es.take (runE es d)).drop d) (less := less) e1 hW (by rw [wl]; omega) (by rcases hXF with h | h; exact Or.inl h; exact Or.inr ⟨h, hC.fd⟩) (Or.inr ⟨m, hm, rfl, runE_dgt, by
    rcases hD.tt with ⟨rfl, e, _, _⟩ | ⟨rfl, e, _⟩ | ⟨rfl, e, _⟩
    · exact Or.inl ⟨rfl, e, pl⟩
    · exact Or.inr (Or.inl ⟨rfl, e⟩)
    · exact Or.inr (Or.inr ⟨rfl, e⟩)⟩)
  refine ⟨?_, hh.1, hh.2.1, by rw [hh.2.2.1, wl], hh.2.2.2⟩
  rw [sc_end hsc (by omega)]; rfl

end Go.Proofs.YthnpndlobhgdhaaGreatDoor

namespace Go.Proofs.YthnpndlobhgdhaaGreatDoor
open Go.RowKit
set_option linter.unusedVariables false
set_option linter.unusedSimpArgs false

/-- five cells that may be written -/
structure Cl5 (w : World) (b : Nat) (v0 v1 v2 v3 v4 : Value) : Prop where
  c0 : w.cell? ⟨b, 0, none⟩ = some v0
  f0 : w.frozen? ⟨b, 0, none⟩ = false
  c1 : w.cell? ⟨b, 1, none⟩ = some v1
  f1 : w.frozen? ⟨b, 1, none⟩ = false
  c2 : w.cell? ⟨b, 2, none⟩ = some v2
  f2 : w.frozen? ⟨b, 2, none⟩ = false
  c3 : w.cell? ⟨b, 3, none⟩ = some v3
  f3 : w.frozen? ⟨b, 3, none⟩ = false
  c4 : w.cell? ⟨b, 4, none⟩ = some v4
  f4 : w.frozen? ⟨b, 4, none⟩ = false
  lt : b < w.heap.size
theorem Cl5.below {w w' : World} {b : Nat} {v0 v1 v2 v3 v4 : Value} (h : Cl5 w b v0 v1 v2 v3 v4) (hb : Below w.heap.size w w') : Cl5 w' b v0 v1 v2 v3 v4 :=
  ⟨(hb.cell (p := ⟨b, 0, none⟩) h.lt).trans h.c0, (hb.frozen (p := ⟨b, 0, none⟩) h.lt).trans h.f0, (hb.cell (p := ⟨b, 1, none⟩) h.lt).trans h.c1, (hb.frozen (p := ⟨b, 1, none⟩) h.lt).trans h.f1, (hb.cell (p := ⟨b, 2, none⟩) h.lt).trans h.c2, (hb.frozen (p := ⟨b, 2, none⟩) h.lt).trans h.f2, (hb.cell (p := ⟨b, 3, none⟩) h.lt).trans h.c3, (hb.frozen (p := ⟨b, 3, none⟩) h.lt).trans h.f3, (hb.cell (p := ⟨b, 4, none⟩) h.lt).trans h.c4, (hb.frozen (p := ⟨b, 4, none⟩) h.lt).trans h.f4, Nat.lt_of_lt_of_le h.lt hb.size⟩
theorem cl5_new (w : World) (v0 v1 v2 v3 v4 : Value) (t : TypeId) : Cl5 (w.alloc (.cells #[v0, v1, v2, v3, v4] t)) w.heap.size v0 v1 v2 v3 v4 := by
  refine ⟨?_, ?_, ?_, ?_, ?_, ?_, ?_, ?_, ?_, ?_, by simp⟩ <;> first | (rw [World.cell?_alloc_at _ _ _ _ rfl]; rfl) | (rw [World.frozen?_alloc_at _ _ _ _ rfl])
theorem Cl5.set0 {w : World} {b : Nat} {v0 v1 v2 v3 v4 : Value} (h : Cl5 w b v0 v1 v2 v3 v4) (x : Value) : Cl5 (w.setCell ⟨b, 0, none⟩ x) b x v1 v2 v3 v4 := by
  refine ⟨?_, ?_, ?_, ?_, ?_, ?_, ?_, ?_, ?_, ?_, by simpa [World.setCell] using h.lt⟩
  · exact World.cell?_setCell_same _ _ _ h.c0
  · have := h.f0; simpa [go_sem] using this
  · rw [World.cell?_setCell_other _ _ _ _ (by intro e; injection e with _ e _; cases e)]; exact h.c1
  · have := h.f1; simpa [go_sem] using this
  · rw [World.cell?_setCell_other _ _ _ _ (by intro e; injection e with _ e _; cases e)]; exact h.c2
  · have := h.f2; simpa [go_sem] using this
  · rw [World.cell?_setCell_other _ _ _ _ (by intro e; injection e with _ e _; cases e)]; exact h.c3
  · have := h.f3; simpa [go_sem] using this
  · rw [World.cell?_setCell_other _ _ _ _ (by intro e; injection e with _ e _; cases e)]; exact h.c4
  · have := h.f4; simpa [go_sem] using this
theorem Cl5.set1 {w : World} {b : Nat} {v0 v1 v2 v3 v4 : Value} (h : Cl5 w b v0 v1 v2 v3 v4) (x : Value) : Cl5 (w.setCell ⟨b, 1, none⟩ x) b v0 x v2 v3 v4 := by
  refine ⟨?_, ?_, ?_, ?_, ?_, ?_, ?_, ?_, ?_, ?_, by simpa [World.setCell] using h.lt⟩
  · rw [World.cell?_setCell_other _ _ _ _ (by intro e; injection e with _ e _; cases e)]; exact h.c0
  · have := h.f0; simpa [go_sem] using this
  · exact World.cell?_setCell_same _ _ _ h.c1
  · have := h.f1; simpa [go_sem] using this
  · rw [World.cell?_setCell_other _ _ _ _ (by intro e; injection e with _ e _; cases e)]; exact h.c2
  · have := h.f2; simpa [go_sem] using this
  · rw [World.cell?_setCell_other _ _ _ _ (by intro e; injection e with _ e _; cases e)]; exact h.c3
  · have := h.f3; simpa [go_sem] using this
  · rw [World.cell?_setCell_other _ _ _ _ (by intro e; injection e with _ e _; cases e)]; exact h.c4
  · have := h.f4; simpa [go_sem] using this
theorem Cl5.set2 {w : World} {b : Nat} {v0 v1 v2 v3 v4 : Value} (h : Cl5 w b v0 v1 v2 v3 v4) (x : Value) : Cl5 (w.setCell ⟨b, 2, none⟩ x) b v0 v1 x v3 v4 := by
  refine ⟨?_, ?_, ?_, ?_, ?_, ?_, ?_, ?_, ?_, ?_, by simpa [World.setCell] using h.lt⟩
  · rw [World.cell?_setCell_other _ _ _ _ (by intro e; injection e with _ e _; cases e)]; exact h.c0
  · have := h.f0; simpa [go_sem] using this
  · rw [World.cell?_setCell_other _ _ _ _ (by intro e; injection e with _ e _; cases e)]; exact h.c1
  · have := h.f1; simpa [go_sem] using this
  · exact World.cell?_setCell_same _ _ _ h.c2
  · have := h.f2; simpa [go_sem] using this
  · rw [World.cell?_setCell_other _ _ _ _ (by intro e; injection e with _ e _; cases e)]; exact h.c3
  · have := h.f3; simpa [go_sem] using this
  · rw [World.cell?_setCell_other _ _ _ _ (by intro e; injection e with _ e _; cases e)]; exact h.c4
  · have := h.f4; simpa [go_sem] using this
theorem Cl5.set3 {w : World} {b : Nat} {v0 v1 v2 v3 v4 : Value} (h : Cl5 w b v0 v1 v2 v3 v4) (x : Value) : Cl5 (w.setCell ⟨b, 3, none⟩ x) b v0 v1 v2 x v4 := by
  refine ⟨?_, ?_, ?_, ?_, ?_, ?_, ?_, ?_, ?_, ?_, by simpa [World.setCell] using h.lt⟩
  · rw [World.cell?_setCell_other _ _ _ _ (by intro e; injection e with _ e _; cases e)]; exact h.c0
  · have := h.f0; simpa [go_sem] using this
  · rw [World.cell?_setCell_other _ _ _ _ (by intro e; injection e with _ e _; cases e)]; exact h.c1
  · have := h.f1; simpa [go_sem] using this
  · rw [World.cell?_setCell_other _ _ _ _ (by intro e; injection e with _ e _; cases e)]; exact h.c2
  · have := h.f2; simpa [go_sem] using this
  · exact World.cell?_setCell_same _ _ _ h.c3
  · have := h.f3; simpa [go_sem] using this
  · rw [World.cell?_setCell_other _ _ _ _ (by intro e; injection e with _ e _; cases e)]; exact h.c4
  · have := h.f4; simpa [go_sem] using this
theorem Cl5.set4 {w : World} {b : Nat} {v0 v1 v2 v3 v4 : Value} (h : Cl5 w b v0 v1 v2 v3 v4) (x : Value) : Cl5 (w.setCell ⟨b, 4, none⟩ x) b v0 v1 v2 v3 x := by
  refine ⟨?_, ?_, ?_, ?_, ?_, ?_, ?_, ?_, ?_, ?_, by simpa [World.setCell] using h.lt⟩
  · rw [World.cell?_setCell_other _ _ _ _ (by intro e; injection e with _ e _; cases e)]; exact h.c0
  · have := h.f0; simpa [go_sem] using this
  · rw [World.cell?_setCell_other _ _ _ _ (by intro e; injection e with _ e _; cases e)]; exact h.c1
  · have := h.f1; simpa [go_sem] using this
  · rw [World.cell?_setCell_other _ _ _ _ (by intro e; injection e with _ e _; cases e)]; exact h.c2
  · have := h.f2; simpa [go_sem] using this
  · rw [World.cell?_setCell_other _ _ _ _ (by intro e; injection e with _ e _; cases e)]; exact h.c3
  · have := h.f3; simpa [go_sem] using this
  · exact World.cell?_setCell_same _ _ _ h.c4
  · have := h.f4; simpa [go_sem] using this
theorem Cl5.away {w : World} {b c o : Nat} {v0 v1 v2 v3 v4 x : Value} (h : Cl5 w b v0 v1 v2 v3 v4) (hn : b ≠ c) : Cl5 (w.setCell ⟨c, o, none⟩ x) b v0 v1 v2 v3 v4 := by
  have hh : (w.setCell ⟨c, o, none⟩ x).heap[b]? = w.heap[b]? := Below.heap_setCell _ _ _ _ (by show b ≠ c; exact hn)
  have hc : ∀ i, (w.setCell ⟨c, o, none⟩ x).cell? ⟨b, i, none⟩ = w.cell? ⟨b, i, none⟩ := fun i => World.cell?_of_block hh
  refine ⟨(hc 0).trans h.c0, ?_, (hc 1).trans h.c1, ?_, (hc 2).trans h.c2, ?_, (hc 3).trans h.c3, ?_, (hc 4).trans h.c4, ?_, by simpa [World.setCell] using h.lt⟩
  · have := h.f0; simpa [go_sem] using this
  · have := h.f1; simpa [go_sem] using this
  · have := h.f2; simpa [go_sem] using this
  · have := h.f3; simpa [go_sem] using this
  · have := h.f4; simpa [go_sem] using this
/-- what Split answers -/
def Sq8 (es : List Int) (w : World) (e : Ending) (w' : World) : Prop :=
  ((∃ k : Nat, e = .returned (.tuple #[.agg #[.bool false, .string ⟨#[]⟩, .int .i64 0, .bool false, .string ⟨#[]⟩], .int .i64 k, .bool false]) ∧ k ≤ es.length ∧ scG es 0 0 = (k, false)) ∨
  (∃ (k : Nat) (ng : Bool) (ds : List Int) (wl : Nat) (less : Bool) (ps : List Int), e = .returned (.tuple #[.agg #[.bool ng, .string (strOfNums ds), .int .i64 wl, .bool less, .string (strOfNums ps)], .int .i64 k, .bool true]) ∧ Sp8 es k ng ds wl less ps)) ∧ Below w.heap.size w w'
theorem sq8_no {es : List Int} {w w' : World} {k : Nat} (h : k ≤ es.length) (hs : scG es 0 0 = (k, false)) (K : Below w.heap.size w w') : Sq8 es w (.returned (.tuple #[.agg #[.bool false, .string ⟨#[]⟩, .int .i64 0, .bool false, .string ⟨#[]⟩], .int .i64 k, .bool false])) w' := ⟨Or.inl ⟨k, rfl, h, hs⟩, K⟩

set_option maxRecDepth 100000 in
set_option maxHeartbeats 16000000 in
theorem split8_any {w : World} {s : ByteArray} {es : List Int} (hb : Byt es) (hs : s = strOfNums es) (hl : es.length ≤ 70368744177664) :
    Calls Tryz.prog 50 #[.string s] w fun e w' => Sq8 es w e w' := by
  have hsz : s.size = es.length := by rw [hs, strOfNums_size]
  have HIX := hide (show ∀ p (h : p < s.size), (((s[p]'h).toNat : Nat) : Int) = Nt.lb es p from fun p h => by subst hs; exact txt_at h hb)
  have HBY := hide (show ∀ p, p < es.length → 0 ≤ Nt.lb es p ∧ Nt.lb es p < 256 from fun p h => hb _ (lb_in h))
  have HRUN := hide (fun (u : World) (k : Nat) (hk : k ≤ es.length) => run8_any (w := u) hb hs hk hl)
  have HEX := hide (show ∀ a b, s.extract a b = strOfNums ((es.take b).drop a) from fun a b => by rw [hs, txt_cut])
  obtain ⟨N, hN⟩ : ∃ N, es.length = N := ⟨_, rfl⟩
  have HN := hide hN
  rw [hN] at hsz hl
  clear hs hb hN
  obtain ⟨b2, hb2⟩ : ∃ b, w.heap.size = b := ⟨_, rfl⟩
  have D2 := (cl5_new w (.bool false) (.string ⟨#[]⟩) (.int .i64 0) (.bool false) (.string ⟨#[]⟩) 92).below (bel_new _ (.cells #[.bool false, .string ⟨#[]⟩, .int .i64 0, .bool false, .string ⟨#[]⟩] 92))
  have D5 := cl5_new (w.alloc (.cells #[.bool false, .string ⟨#[]⟩, .int .i64 0, .bool false, .string ⟨#[]⟩] 92)) (.bool false) (.string ⟨#[]⟩) (.int .i64 0) (.bool false) (.string ⟨#[]⟩) 92
  have hb5 : (w.alloc (.cells #[.bool false, .string ⟨#[]⟩, .int .i64 0, .bool false, .string ⟨#[]⟩] 92)).heap.size = b2 + 1 := by rw [← hb2]; simp
  have KK := below_trans (bel_new w (.cells #[.bool false, .string ⟨#[]⟩, .int .i64 0, .bool false, .string ⟨#[]⟩] 92)) (bel_new (w.alloc (.cells #[.bool false, .string ⟨#[]⟩, .int .i64 0, .bool false, .string ⟨#[]⟩] 92)) (.cells #[.bool false, .string ⟨#[]⟩, .int .i64 0, .bool false, .string ⟨#[]⟩] 92))
  rw [hb5] at D5
  rw [hb2] at D2
  obtain ⟨w1, hw1⟩ : ∃ q, (w.alloc (.cells #[.bool false, .string ⟨#[]⟩, .int .i64 0, .bool false, .string ⟨#[]⟩] 92)).alloc (.cells #[.bool false, .string ⟨#[]⟩, .int .i64 0, .bool false, .string ⟨#[]⟩] 92) = q := ⟨_, rfl⟩
  rw [hw1] at D2 D5 KK
  have H2 := hide D2
  have H5 := hide D5
  have HK := hide KK
  have HB := hide hb2
  have HW := hide (And.intro hb2 hw1)
  have bne : b2 ≠ b2 + 1 := by omega
  have BW : w.heap.size ≤ b2 := Nat.le_of_eq hb2
  have BW1 : w.heap.size ≤ b2 + 1 := by omega
  clear D2 D5 KK hb5 hb2 hw1
  go_enter Tryz.func50, Tryz.ntmps50
  go_upto_region 2 with fail
  simp only [HW.out.1, HW.out.2]

  clear HW
  obtain ⟨ng, hng⟩ : ∃ t : Bool, decide (0 < N ∧ (Nt.lb es (0) = 45)) = t := ⟨_, rfl⟩
  have Hng := hide hng
  clear hng
  go_upto_region 3 with fail
  go_cut [17] from 10 (fun sx wx => sx = .bool ng ∧ w1 = wx)
  case first =>
    have ht := Hng.out
    by_cases kN : 0 < N
    · have hps : 0 < s.size := by omega
      have hx := HIX.out (0) hps
      have q4 : (0 : Int) < (N : Int) := by omega
      obtain ⟨x, hxx⟩ : ∃ x, Nt.lb es (0) = x := ⟨_, rfl⟩
      rw [hxx] at hx
      simp only [hxx] at ht
      clear hxx
      by_cases c45 : x = 45
      · subst c45
        obtain rfl : ng = true := by rw [← ht]; simp [kN]
        clear ht
        go_wp2_with fail
        go_meet
        exact ⟨rfl, rfl⟩
      · have e45 : (x == 45) = false := beq_eq_false_iff_ne.2 c45
        obtain rfl : ng = false := by rw [← ht]; simp [kN, c45]
        clear ht
        go_wp2_with fail
        go_meet
        exact ⟨rfl, rfl⟩
    · have q4 : ¬ (0 : Int) < (N : Int) := by omega
      obtain rfl : ng = false := by rw [← ht]; simp [kN]
      clear ht
      go_wp2_with fail
      go_meet
      exact ⟨rfl, rfl⟩
  case rest =>
  obtain ⟨rfl, rfl⟩ := hcut
  go_upto_if 17 with fail
  go_cut [6] from 10 (fun s6 wx => ∃ a : Nat, s6 = .int .i64 a ∧ Hid (PA es ng a) ∧ Hid (Cl5 wx (b2 + 1) (.bool ng) (.string ⟨#[]⟩) (.int .i64 0) (.bool false) (.string ⟨#[]⟩)) ∧ Hid (Cl5 wx (b2) (.bool false) (.string ⟨#[]⟩) (.int .i64 0) (.bool false) (.string ⟨#[]⟩)) ∧ Hid (Below w.heap.size w wx))
  case first =>
    have ht := Hng.out
    have hn := HN.out
    cases ng
    · have pa := hide (pa_no (es := es) (fun h e => by rw [decide_eq_false_iff_not] at ht; exact ht ⟨by omega, e⟩))
      clear ht hn
      go_wp2_with fail
      go_meet
      exact ⟨0, rfl, pa, H5, H2, HK⟩
    · rw [decide_eq_true_iff] at ht
      have pa := hide (pa_yes (es := es) (by omega) ht.2)
      have c0 := H5.out.c0
      have f0 := H5.out.f0
      clear ht hn
      go_wp2_with fail
      go_meet
      exact ⟨1, rfl, pa, hide (H5.out.set0 (.bool true)), hide (H2.out.away (o := 0) (x := .bool true) bne), hide (HK.out.setCell (p := ⟨b2 + 1, 0, none⟩) BW1 (.bool true))⟩
  case rest =>
  clear H5 H2 HK Hng
  obtain ⟨a, rfl, HPA, H5, H2, HK⟩ := hcut
  rename World => w2
  have an : a ≤ N := by have := HPA.out.1; have := HN.out; omega
  obtain ⟨t1, ht1⟩ : ∃ t : Bool, decide (a < N ∧ (Nt.lb es (a) = 48)) = t := ⟨_, rfl⟩
  have Ht1 := hide ht1
  clear ht1
  go_upto_region 7 with fail
  go_cut [29] from 18 (fun sx wx => sx = .bool t1 ∧ w2 = wx)
  case first =>
    have ht := Ht1.out
    by_cases kN : a < N
    · have hps : a < s.size := by omega
      have hx := HIX.out (a) hps
      have q4 : ((a : Nat) : Int) < (N : Int) := by omega
      obtain ⟨x, hxx⟩ : ∃ x, Nt.lb es (a) = x := ⟨_, rfl⟩
      rw [hxx] at hx
      simp only [hxx] at ht
      clear hxx
      by_cases c48 : x = 48
      · subst c48
        obtain rfl : t1 = true := by rw [← ht]; simp [kN]
        clear ht
        go_wp2_with fail
        go_meet
        exact ⟨rfl, rfl⟩
      · have e48 : (x == 48) = false := beq_eq_false_iff_ne.2 c48
        obtain rfl : t1 = false := by rw [← ht]; simp [kN, c48]
        clear ht
        go_wp2_with fail
        go_meet
        exact ⟨rfl, rfl⟩
    · have q4 : ¬ ((a : Nat) : Int) < (N : Int) := by omega
      obtain rfl : t1 = false := by rw [← ht]; simp [kN]
      clear ht
      go_wp2_with fail
      go_meet
      exact ⟨rfl, rfl⟩
  case rest =>
  obtain ⟨rfl, rfl⟩ := hcut
  go_upto_if 29 with fail
  go_cut [6] from 18 (fun s6 wx => ∃ b q : Nat, s6 = .int .i64 b ∧ Hid (PB es a b q) ∧ w2 = wx)
  case first =>
    have ht := Ht1.out
    have hn := HN.out
    cases t1
    · have pb := hide (pb_run HPA.out (fun e => by rw [decide_eq_false_iff_not] at ht; exact ht ⟨by omega, e.2⟩))
      have han : a ≤ es.length := by omega
      clear ht hn
      go_wp2_with fail
      with_reducible refine (HRUN.out _ a han).mono ?_
      rintro r w3 ⟨rfl, rfl⟩
      go_wp2_with fail
      go_meet
      exact ⟨runE es a, 3, rfl, pb, rfl⟩
    · rw [decide_eq_true_iff] at ht
      have pb := hide (pb_nought HPA.out (by omega) ht.2)
      have y1 : IntKind.i64.wrap ((a : Int) + 1) = ((a + 1 : Nat) : Int) := by rw [IntKind.wrap_i64]; omega
      clear ht hn
      go_wp2_with fail
      go_meet
      exact ⟨a + 1, 2, by first | rfl | (simp only [Int.natCast_add]; rfl), pb, rfl⟩
  case rest =>
  clear Ht1
  obtain ⟨b, q, rfl, HPB, rfl⟩ := hcut
  have ab : a ≤ b := HPB.out.le
  have bn : b ≤ N := by have := HPB.out.le2; have := HN.out; omega
  by_cases eab : b = a
  ·
    subst eab
    have hsq := hide (HPB.out.no rfl)
    have hln := hide (show b ≤ es.length from HPB.out.le2)
    go_upto_region 11 with fail
    have m0 := H2.out.c0
    have n0 := H2.out.f0
    have m1 := H2.out.c1
    have n1 := H2.out.f1
    have m2 := H2.out.c2
    have n2 := H2.out.f2
    have m3 := H2.out.c3
    have n3 := H2.out.f3
    have m4 := H2.out.c4
    have n4 := H2.out.f4
    repeat go_step
    have PDD := (((((H2.out).set0 (.bool false)).set1 (.string ⟨#[]⟩)).set2 (.int .i64 0)).set3 (.bool false)).set4 (.string ⟨#[]⟩)
    have KF := (((((HK.out).setCell (p := ⟨b2, 0, none⟩) BW (.bool false)).setCell (p := ⟨b2, 1, none⟩) BW (.string ⟨#[]⟩)).setCell (p := ⟨b2, 2, none⟩) BW (.int .i64 0)).setCell (p := ⟨b2, 3, none⟩) BW (.bool false)).setCell (p := ⟨b2, 4, none⟩) BW (.string ⟨#[]⟩)
    clear H2 HK H5 m0 m1 m2 m3 m4 n0 n1 n2 n3 n4
    generalize (((((w2).setCell ⟨b2, 0, none⟩ (.bool false)).setCell ⟨b2, 1, none⟩ (.string ⟨#[]⟩)).setCell ⟨b2, 2, none⟩ (.int .i64 0)).setCell ⟨b2, 3, none⟩ (.bool false)).setCell ⟨b2, 4, none⟩ (.string ⟨#[]⟩) = wz at *
    (try simp only [Exit.inBlock, Exit.then])
    exact bodyPost_ret (v := .tuple #[.agg #[.bool false, .string ⟨#[]⟩, .int .i64 0, .bool false, .string ⟨#[]⟩], .int .i64 (b : Nat), .bool false]) (by simp [results, Tryz.results50, go_sem, PDD.c0, PDD.c1, PDD.c2, PDD.c3, PDD.c4]) rfl (sq8_no hln.out hsq.out KF)
  have eab2 : ((b : Int) == (a : Int)) = false := by simp; omega
  have lab : a < b := by omega
  obtain ⟨Ws, hWs⟩ : ∃ x, (es.take b).drop a = x := ⟨_, rfl⟩
  obtain ⟨t, ht⟩ : ∃ t, strOfNums Ws = t := ⟨_, rfl⟩
  have x1 : s.extract a b = t := by rw [HEX.out, hWs, ht]
  have wsz : t.size = b - a := by rw [← ht, strOfNums_size, ← hWs, List.length_drop, List.length_take, HN.out]; omega
  have HT := hide ht
  have HWS := hide hWs
  obtain ⟨wl, hwl⟩ : ∃ m : Nat, b - a = m := ⟨_, rfl⟩
  have y1 : IntKind.i64.wrap ((b : Int) - (a : Int)) = (wl : Int) := by rw [IntKind.wrap_i64]; omega
  have f1 : (a : Int) ≤ (b : Int) := by omega
  have f2 : (b : Int) ≤ (N : Int) := by omega
  have HWL := hide hwl
  rw [hwl] at wsz
  have wlb : wl ≤ 70368744177664 := by omega
  clear ht hWs hwl
  go_upto_region 12 with fail
  have ck := H5.out.c1
  have fk := H5.out.f1
  go_upto_region 13 with fail
  clear ck fk
  replace H5 := hide (H5.out.set1 (.string t))
  replace H2 := hide (H2.out.away (o := 1) (x := .string t) bne)
  replace HK := hide (HK.out.setCell (p := ⟨b2 + 1, 1, none⟩) BW1 (.string t))
  generalize w2.setCell ⟨b2 + 1, 1, none⟩ (.string t) = w3 at *
  have ck := H5.out.c2
  have fk := H5.out.f2
  go_upto_region 14 with fail
  clear ck fk
  replace H5 := hide (H5.out.set2 (.int .i64 wl))
  replace H2 := hide (H2.out.away (o := 2) (x := .int .i64 wl) bne)
  replace HK := hide (HK.out.setCell (p := ⟨b2 + 1, 2, none⟩) BW1 (.int .i64 wl))
  generalize w3.setCell ⟨b2 + 1, 2, none⟩ (.int .i64 wl) = w4 at *
  clear x1 y1 eab2 f1 f2
  obtain ⟨t2, ht2⟩ : ∃ t : Bool, decide (b < N ∧ (Nt.lb es (b) = 46)) = t := ⟨_, rfl⟩
  have Ht2 := hide ht2
  clear ht2
  go_upto_region 14 with fail
  go_cut [58] from 49 (fun sx wx => sx = .bool t2 ∧ w4 = wx)
  case first =>
    have ht := Ht2.out
    by_cases kN : b < N
    · have hps : b < s.size := by omega
      have hx := HIX.out (b) hps
      have q4 : ((b : Nat) : Int) < (N : Int) := by omega
      obtain ⟨x, hxx⟩ : ∃ x, Nt.lb es (b) = x := ⟨_, rfl⟩
      rw [hxx] at hx
      simp only [hxx] at ht
      clear hxx
      by_cases c46 : x = 46
      · subst c46
        obtain rfl : t2 = true := by rw [← ht]; simp [kN]
        clear ht
        go_wp2_with fail
        go_meet
        exact ⟨rfl, rfl⟩
      · have e46 : (x == 46) = false := beq_eq_false_iff_ne.2 c46
        obtain rfl : t2 = false := by rw [← ht]; simp [kN, c46]
        clear ht
        go_wp2_with fail
        go_meet
        exact ⟨rfl, rfl⟩
    · have q4 : ¬ ((b : Nat) : Int) < (N : Int) := by omega
      obtain rfl : t2 = false := by rw [← ht]; simp [kN]
      clear ht
      go_wp2_with fail
      go_meet
      exact ⟨rfl, rfl⟩
  case rest =>
  obtain ⟨rfl, rfl⟩ := hcut
  by_cases rr : t2 = true ∧ runE es (b + 1) = b + 1
  ·
    obtain ⟨rfl, rr⟩ := rr
    have h2 := Ht2.out
    rw [decide_eq_true_iff] at h2
    have hn := HN.out
    have hsq := hide (show scG es 0 0 = (b + 1, false) from run_none (Or.inr (Or.inl rfl)) (pt_sc HPB.out lab (by omega) h2.2) rr)
    have hln := hide (show b + 1 ≤ es.length by omega)
    have hrun := hide (fun u => HRUN.out u (b + 1) hln.out)
    rw [rr] at hrun
    have y1 : IntKind.i64.wrap ((b : Int) + 1) = ((b + 1 : Nat) : Int) := by rw [IntKind.wrap_i64]; omega
    have y2 : IntKind.i64.wrap ((b : Int) + 1) = (b : Int) + 1 := by rw [IntKind.wrap_i64]; omega
    have y3 : ((b + 1 : Nat) : Int) = (b : Int) + 1 := by omega
    clear h2 hn rr
    simp only [y3] at hrun
    clear y1 y3
    go_wp2_with fail
    with_reducible refine (hrun.out _).mono ?_
    rintro r w5 ⟨rfl, rfl⟩
    go_upto_region 17 with fail
    have m0 := H2.out.c0
    have n0 := H2.out.f0
    have m1 := H2.out.c1
    have n1 := H2.out.f1
    have m2 := H2.out.c2
    have n2 := H2.out.f2
    have m3 := H2.out.c3
    have n3 := H2.out.f3
    have m4 := H2.out.c4
    have n4 := H2.out.f4
    repeat go_step
    have PDD := (((((H2.out).set0 (.bool false)).set1 (.string ⟨#[]⟩)).set2 (.int .i64 0)).set3 (.bool false)).set4 (.string ⟨#[]⟩)
    have KF := (((((HK.out).setCell (p := ⟨b2, 0, none⟩) BW (.bool false)).setCell (p := ⟨b2, 1, none⟩) BW (.string ⟨#[]⟩)).setCell (p := ⟨b2, 2, none⟩) BW (.int .i64 0)).setCell (p := ⟨b2, 3, none⟩) BW (.bool false)).setCell (p := ⟨b2, 4, none⟩) BW (.string ⟨#[]⟩)
    clear H2 HK H5 m0 m1 m2 m3 m4 n0 n1 n2 n3 n4
    generalize (((((w5).setCell ⟨b2, 0, none⟩ (.bool false)).setCell ⟨b2, 1, none⟩ (.string ⟨#[]⟩)).setCell ⟨b2, 2, none⟩ (.int .i64 0)).setCell ⟨b2, 3, none⟩ (.bool false)).setCell ⟨b2, 4, none⟩ (.string ⟨#[]⟩) = wz at *
    (try simp only [Exit.inBlock, Exit.then])
    exact bodyPost_ret (v := .tuple #[.agg #[.bool false, .string ⟨#[]⟩, .int .i64 0, .bool false, .string ⟨#[]⟩], .int .i64 (b + 1 : Nat), .bool false]) (by simp [results, Tryz.results50, go_sem, PDD.c0, PDD.c1, PDD.c2, PDD.c3, PDD.c4]) rfl (sq8_no hln.out hsq.out KF)
  go_upto_if 58 with fail
  go_cut [6, 8] from 59 (fun s6 s8 wx => ∃ (c q' : Nat) (F : List Int) (tx : ByteArray), s6 = .int .i64 c ∧ Hid (PC es F b c q') ∧ Hid (tx = strOfNums (Ws ++ F)) ∧ Hid (Cl5 wx (b2 + 1) (.bool ng) (.string tx) (.int .i64 wl) (.bool false) (.string ⟨#[]⟩)) ∧ Hid (Cl5 wx (b2) (.bool false) (.string ⟨#[]⟩) (.int .i64 0) (.bool false) (.string ⟨#[]⟩)) ∧ Hid (Below w.heap.size w wx))
  case first =>
    have h2 := Ht2.out
    have hn := HN.out
    cases t2
    · have pc := hide (pc_no HPB.out lab (fun e => by rw [decide_eq_false_iff_not] at h2; exact h2 ⟨by omega, e.2⟩))
      have HTT := hide (show t = strOfNums (Ws ++ []) by rw [List.append_nil, HT.out])
      clear h2 hn rr
      go_wp2_with fail
      go_meet
      exact ⟨b, q, [], t, rfl, pc, HTT, H5, H2, HK⟩
    · rw [decide_eq_true_iff] at h2
      have hr : runE es (b + 1) ≠ b + 1 := fun e => rr ⟨rfl, e⟩
      have pc := hide (pc_yes HPB.out lab (by omega) h2.2 hr)
      have hln : b + 1 ≤ es.length := by omega
      have g1 := runE_ge es (b + 1)
      have g2 := runE_le (es := es) (k := b + 1) hln
      obtain ⟨e, he⟩ : ∃ e, runE es (b + 1) = e := ⟨_, rfl⟩
      have hrun := hide (fun u => HRUN.out u (b + 1) hln)
      rw [he] at hrun pc g1 g2 hr
      obtain ⟨tf, htf⟩ : ∃ t, strOfNums ((es.take e).drop (b + 1)) = t := ⟨_, rfl⟩
      have x2 : s.extract (b + 1) e = tf := by rw [HEX.out, htf]
      have fsz : tf.size = e - (b + 1) := by rw [← htf, strOfNums_size, List.length_drop, List.length_take]; omega
      obtain ⟨fl, hfl⟩ : ∃ m : Nat, e - (b + 1) = m := ⟨_, rfl⟩
      rw [hfl] at fsz
      have HTT := hide (show t ++ tf = strOfNums (Ws ++ (es.take e).drop (b + 1)) by rw [← HT.out, ← htf, txt_join])
      have y2 : IntKind.i64.wrap ((b : Int) + 1) = (b : Int) + 1 := by rw [IntKind.wrap_i64]; omega
      have y3 : ((b + 1 : Nat) : Int) = (b : Int) + 1 := by omega
      have y4 : ((e : Int) == (b : Int) + 1) = false := by simp; omega
      have y5 : ((b : Int) + 1).toNat = b + 1 := by omega
      have y6 : (0 : Int) ≤ (b : Int) + 1 := by omega
      have y7 : (b : Int) + 1 ≤ (e : Int) := by omega
      have y8 : (e : Int) ≤ (N : Int) := by omega
      have y9 : wl + fl ≤ 9223372036854775807 := by omega
      have c1 := H5.out.c1
      have f1 := H5.out.f1
      simp only [y3] at hrun
      clear h2 hn rr y3 hr g1 g2 hfl htf he hln
      go_wp2_with fail
      with_reducible refine (hrun.out _).mono ?_
      rintro r w5 ⟨rfl, rfl⟩
      go_upto_region 18 with fail
      go_region
      go_wp2_with fail
      go_meet
      exact ⟨e, 4, _, _, rfl, pc, HTT, hide ((H5.out.set1 (.string (t ++ tf))).below (Below.refl _ _).drew), hide ((H2.out.away (o := 1) (x := .string (t ++ tf)) bne).below (Below.refl _ _).drew), hide ((HK.out.setCell (p := ⟨b2 + 1, 1, none⟩) BW1 (.string (t ++ tf))).drew)⟩
  case rest =>
  clear H5 H2 HK Ht2 rr HT wsz
  obtain ⟨c, q', F, tx, rfl, HPC, HTX, H5, H2, HK⟩ := hcut
  rename World => w5
  have cn : c ≤ N := by have := HPC.out.le2; have := HN.out; omega
  obtain ⟨t3, ht3⟩ : ∃ t : Bool, decide (c < N ∧ (Nt.lb es (c) = 101 ∨ Nt.lb es (c) = 69)) = t := ⟨_, rfl⟩
  have Ht3 := hide ht3
  clear ht3
  go_upto_region 20 with fail
  go_cut [94] from 79 (fun sx wx => sx = .bool t3 ∧ w5 = wx)
  case first =>
    have ht := Ht3.out
    by_cases kN : c < N
    · have hps : c < s.size := by omega
      have hx := HIX.out (c) hps
      have q4 : ((c : Nat) : Int) < (N : Int) := by omega
      obtain ⟨x, hxx⟩ : ∃ x, Nt.lb es (c) = x := ⟨_, rfl⟩
      rw [hxx] at hx
      simp only [hxx] at ht
      clear hxx
      by_cases c101 : x = 101
      · subst c101
        obtain rfl : t3 = true := by rw [← ht]; simp [kN]
        clear ht
        go_wp2_with fail
        go_meet
        exact ⟨rfl, rfl⟩
      · have e101 : (x == 101) = false := beq_eq_false_iff_ne.2 c101
        by_cases c69 : x = 69
        · subst c69
          obtain rfl : t3 = true := by rw [← ht]; simp [kN]
          clear ht
          go_wp2_with fail
          go_meet
          exact ⟨rfl, rfl⟩
        · have e69 : (x == 69) = false := beq_eq_false_iff_ne.2 c69
          obtain rfl : t3 = false := by rw [← ht]; simp [kN, c101, c69]
          clear ht
          go_wp2_with fail
          go_meet
          exact ⟨rfl, rfl⟩
    · have q4 : ¬ ((c : Nat) : Int) < (N : Int) := by omega
      obtain rfl : t3 = false := by rw [← ht]; simp [kN]
      clear ht
      go_wp2_with fail
      go_meet
      exact ⟨rfl, rfl⟩
  case rest =>
  obtain ⟨rfl, rfl⟩ := hcut
  cases t3
  ·
    have h3 := Ht3.out
    have hn := HN.out
    have sp := hide (sp_end0 HPA.out HPB.out lab HPC.out (fun e => by rw [decide_eq_false_iff_not] at h3; exact h3 ⟨by omega, e.2⟩))
    rw [HWS.out, HWL.out] at sp
    clear h3 hn Ht3
    go_upto_region 30 with fail
    have a0 := H5.out.c0
    have a1 := H5.out.c1
    have a2 := H5.out.c2
    have a3 := H5.out.c3
    have a4 := H5.out.c4
    have m0 := H2.out.c0
    have n0 := H2.out.f0
    have m1 := H2.out.c1
    have n1 := H2.out.f1
    have m2 := H2.out.c2
    have n2 := H2.out.f2
    have m3 := H2.out.c3
    have n3 := H2.out.f3
    have m4 := H2.out.c4
    have n4 := H2.out.f4
    repeat go_step
    have PDD := (((((H2.out).set0 (.bool ng)).set1 (.string tx)).set2 (.int .i64 wl)).set3 (.bool false)).set4 (.string ⟨#[]⟩)
    have KF := (((((HK.out).setCell (p := ⟨b2, 0, none⟩) BW (.bool ng)).setCell (p := ⟨b2, 1, none⟩) BW (.string tx)).setCell (p := ⟨b2, 2, none⟩) BW (.int .i64 wl)).setCell (p := ⟨b2, 3, none⟩) BW (.bool false)).setCell (p := ⟨b2, 4, none⟩) BW (.string ⟨#[]⟩)
    clear H2 HK H5 m0 m1 m2 m3 m4 n0 n1 n2 n3 n4
    generalize (((((w5).setCell ⟨b2, 0, none⟩ (.bool ng)).setCell ⟨b2, 1, none⟩ (.string tx)).setCell ⟨b2, 2, none⟩ (.int .i64 wl)).setCell ⟨b2, 3, none⟩ (.bool false)).setCell ⟨b2, 4, none⟩ (.string ⟨#[]⟩) = wz at *
    (try simp only [Exit.inBlock, Exit.then])
    exact bodyPost_ret (v := .tuple #[.agg #[.bool ng, .string tx, .int .i64 wl, .bool false, .string ⟨#[]⟩], .int .i64 (c : Nat), .bool true]) (by simp [results, Tryz.results50, go_sem, PDD.c0, PDD.c1, PDD.c2, PDD.c3, PDD.c4]) rfl (⟨Or.inr ⟨c, ng, Ws ++ F, wl, false, [], by rw [HTX.out]; rfl, sp.out⟩, KF⟩)
  ·
    have h3 := Ht3.out
    rw [decide_eq_true_iff] at h3
    have hn := HN.out
    have HC1 := hide (show c < es.length ∧ (Nt.lb es c = 101 ∨ Nt.lb es c = 69) from ⟨by omega, h3.2⟩)
    have c1n : c + 1 ≤ N := h3.1
    obtain ⟨d0, hd0⟩ : ∃ d, c + 1 = d := ⟨_, rfl⟩
    have y1 : IntKind.i64.wrap ((c : Int) + 1) = (d0 : Int) := by rw [IntKind.wrap_i64]; omega
    have HD0 := hide hd0
    rw [hd0] at c1n
    clear h3 hn Ht3 hd0
    obtain ⟨t4, ht4⟩ : ∃ t : Bool, decide (d0 < N ∧ (Nt.lb es (d0) = 43 ∨ Nt.lb es (d0) = 45)) = t := ⟨_, rfl⟩
    have Ht4 := hide ht4
    clear ht4
    go_upto_region 22 with fail
    go_cut [112] from 97 (fun sx wx => sx = .bool t4 ∧ w5 = wx)
    case first =>
      have ht := Ht4.out
      by_cases kN : d0 < N
      · have hps : d0 < s.size := by omega
        have hx := HIX.out (d0) hps
        have q4 : ((d0 : Nat) : Int) < (N : Int) := by omega
        obtain ⟨x, hxx⟩ : ∃ x, Nt.lb es (d0) = x := ⟨_, rfl⟩
        rw [hxx] at hx
        simp only [hxx] at ht
        clear hxx
        by_cases c43 : x = 43
        · subst c43
          obtain rfl : t4 = true := by rw [← ht]; simp [kN]
          clear ht
          go_wp2_with fail
          go_meet
          exact ⟨rfl, rfl⟩
        · have e43 : (x == 43) = false := beq_eq_false_iff_ne.2 c43
          by_cases c45 : x = 45
          · subst c45
            obtain rfl : t4 = true := by rw [← ht]; simp [kN]
            clear ht
            go_wp2_with fail
            go_meet
            exact ⟨rfl, rfl⟩
          · have e45 : (x == 45) = false := beq_eq_false_iff_ne.2 c45
            obtain rfl : t4 = false := by rw [← ht]; simp [kN, c43, c45]
            clear ht
            go_wp2_with fail
            go_meet
            exact ⟨rfl, rfl⟩
      · have q4 : ¬ ((d0 : Nat) : Int) < (N : Int) := by omega
        obtain rfl : t4 = false := by rw [← ht]; simp [kN]
        clear ht
        go_wp2_with fail
        go_meet
        exact ⟨rfl, rfl⟩
    case rest =>
    obtain ⟨rfl, rfl⟩ := hcut
    clear y1
    go_upto_if 112 with fail
    go_cut [6] from 113 (fun s6 wx => ∃ (d q'' : Nat) (less : Bool) (T0 : List Int), s6 = .int .i64 d ∧ Hid (PD es T0 c d q'' less) ∧ Hid (Cl5 wx (b2 + 1) (.bool ng) (.string tx) (.int .i64 wl) (.bool less) (.string ⟨#[]⟩)) ∧ Hid (Cl5 wx (b2) (.bool false) (.string ⟨#[]⟩) (.int .i64 0) (.bool false) (.string ⟨#[]⟩)) ∧ Hid (Below w.heap.size w wx))
    case first =>
      have h4 := Ht4.out
      have hn := HN.out
      have hd := HD0.out
      cases t4
      · have pd := hide (pd_no HPC.out HC1.out.1 HC1.out.2 (fun e => by rw [decide_eq_false_iff_not] at h4; rw [hd] at e; exact h4 ⟨by omega, e.2⟩))
        rw [hd] at pd
        clear h4 hn hd
        go_wp2_with fail
        go_meet
        exact ⟨d0, 6, false, [], rfl, pd, H5, H2, HK⟩
      · rw [decide_eq_true_iff] at h4
        have hps : d0 < s.size := by omega
        have hx := HIX.out d0 hps
        have q4 : (d0 : Int) < (N : Int) := by omega
        have y2 : IntKind.i64.wrap ((d0 : Int) + 1) = ((d0 + 1 : Nat) : Int) := by rw [IntKind.wrap_i64]; omega
        have c3 := H5.out.c3
        have f3 := H5.out.f3
        obtain ⟨x, hxx⟩ : ∃ x, Nt.lb es d0 = x := ⟨_, rfl⟩
        rw [hxx] at hx h4
        have hlen : c + 1 < es.length := by omega
        rcases h4.2 with e | e
        · have pd := hide (pd_yes (x := 43) (less := false) HPC.out HC1.out.1 HC1.out.2 hlen (by rw [hd, hxx, e]) (Or.inl ⟨rfl, rfl⟩))
          rw [show c + 2 = d0 + 1 by omega] at pd
          subst e
          clear h4 hn hd hxx hlen
          go_wp2_with fail
          go_meet
          exact ⟨d0 + 1, 7, false, [43], by first | rfl | (simp only [Int.natCast_add]; rfl), pd, hide (H5.out.set3 (.bool false)), hide (H2.out.away (o := 3) (x := .bool false) bne), hide (HK.out.setCell (p := ⟨b2 + 1, 3, none⟩) BW1 (.bool false))⟩
        · have pd := hide (pd_yes (x := 45) (less := true) HPC.out HC1.out.1 HC1.out.2 hlen (by rw [hd, hxx, e]) (Or.inr ⟨rfl, rfl⟩))
          rw [show c + 2 = d0 + 1 by omega] at pd
          subst e
          clear h4 hn hd hxx hlen
          go_wp2_with fail
          go_meet
          exact ⟨d0 + 1, 7, true, [45], by first | rfl | (simp only [Int.natCast_add]; rfl), pd, hide (H5.out.set3 (.bool true)), hide (H2.out.away (o := 3) (x := .bool true) bne), hide (HK.out.setCell (p := ⟨b2 + 1, 3, none⟩) BW1 (.bool true))⟩
    case rest =>
    clear H5 H2 HK Ht4
    obtain ⟨d, q'', less, T0, rfl, HPD, H5, H2, HK⟩ := hcut
    rename World => w6
    have hdn : d ≤ es.length := HPD.out.le2
    have hrun := hide (fun u => HRUN.out u d hdn)
    have dn : d ≤ N := by have := HN.out; omega
    by_cases rr : runE es d = d
    ·
      have hsq := hide (pd_none HPD.out rr)
      have hln := hide hdn
      rw [rr] at hrun
      clear rr hdn
      go_wp2_with fail
      with_reducible refine (hrun.out _).mono ?_
      rintro r w7 ⟨rfl, rfl⟩
      go_upto_region 27 with fail
      have m0 := H2.out.c0
      have n0 := H2.out.f0
      have m1 := H2.out.c1
      have n1 := H2.out.f1
      have m2 := H2.out.c2
      have n2 := H2.out.f2
      have m3 := H2.out.c3
      have n3 := H2.out.f3
      have m4 := H2.out.c4
      have n4 := H2.out.f4
      repeat go_step
      have PDD := (((((H2.out).set0 (.bool false)).set1 (.string ⟨#[]⟩)).set2 (.int .i64 0)).set3 (.bool false)).set4 (.string ⟨#[]⟩)
      have KF := (((((HK.out).setCell (p := ⟨b2, 0, none⟩) BW (.bool false)).setCell (p := ⟨b2, 1, none⟩) BW (.string ⟨#[]⟩)).setCell (p := ⟨b2, 2, none⟩) BW (.int .i64 0)).setCell (p := ⟨b2, 3, none⟩) BW (.bool false)).setCell (p := ⟨b2, 4, none⟩) BW (.string ⟨#[]⟩)
      clear H2 HK H5 m0 m1 m2 m3 m4 n0 n1 n2 n3 n4
      generalize (((((w7).setCell ⟨b2, 0, none⟩ (.bool false)).setCell ⟨b2, 1, none⟩ (.string ⟨#[]⟩)).setCell ⟨b2, 2, none⟩ (.int .i64 0)).setCell ⟨b2, 3, none⟩ (.bool false)).setCell ⟨b2, 4, none⟩ (.string ⟨#[]⟩) = wz at *
      (try simp only [Exit.inBlock, Exit.then])
      exact bodyPost_ret (v := .tuple #[.agg #[.bool false, .string ⟨#[]⟩, .int .i64 0, .bool false, .string ⟨#[]⟩], .int .i64 (d : Nat), .bool false]) (by simp [results, Tryz.results50, go_sem, PDD.c0, PDD.c1, PDD.c2, PDD.c3, PDD.c4]) rfl (sq8_no hln.out hsq.out KF)
    ·
      have sp := hide (sp_end1 HPA.out HPB.out lab HPC.out HPD.out rr)
      rw [HWS.out, HWL.out] at sp
      have g1 := runE_ge es d
      have g2 := runE_le (es := es) (k := d) hdn
      obtain ⟨e, he⟩ : ∃ e, runE es d = e := ⟨_, rfl⟩
      rw [he] at hrun sp g1 g2 rr
      obtain ⟨tp, htp⟩ : ∃ t, strOfNums ((es.take e).drop d) = t := ⟨_, rfl⟩
      have x2 : s.extract d e = tp := by rw [HEX.out, htp]
      have HTP := hide htp
      have y4 : ((e : Int) == (d : Int)) = false := by simp; omega
      have y7 : (d : Int) ≤ (e : Int) := by omega
      have y8 : (e : Int) ≤ (N : Int) := by have := HN.out; omega
      clear rr g1 g2 he htp hdn
      go_wp2_with fail
      with_reducible refine (hrun.out _).mono ?_
      rintro r w7 ⟨rfl, rfl⟩
      go_upto_region 28 with fail
      have ck := H5.out.c4
      have fk := H5.out.f4
      go_upto_region 30 with fail
      clear ck fk
      replace H5 := hide (H5.out.set4 (.string tp))
      replace H2 := hide (H2.out.away (o := 4) (x := .string tp) bne)
      replace HK := hide (HK.out.setCell (p := ⟨b2 + 1, 4, none⟩) BW1 (.string tp))
      generalize w7.setCell ⟨b2 + 1, 4, none⟩ (.string tp) = w8 at *
      clear x2 y4 y7 y8
      have a0 := H5.out.c0
      have a1 := H5.out.c1
      have a2 := H5.out.c2
      have a3 := H5.out.c3
      have a4 := H5.out.c4
      have m0 := H2.out.c0
      have n0 := H2.out.f0
      have m1 := H2.out.c1
      have n1 := H2.out.f1
      have m2 := H2.out.c2
      have n2 := H2.out.f2
      have m3 := H2.out.c3
      have n3 := H2.out.f3
      have m4 := H2.out.c4
      have n4 := H2.out.f4
      repeat go_step
      have PDD := (((((H2.out).set0 (.bool ng)).set1 (.string tx)).set2 (.int .i64 wl)).set3 (.bool less)).set4 (.string tp)
      have KF := (((((HK.out).setCell (p := ⟨b2, 0, none⟩) BW (.bool ng)).setCell (p := ⟨b2, 1, none⟩) BW (.string tx)).setCell (p := ⟨b2, 2, none⟩) BW (.int .i64 wl)).setCell (p := ⟨b2, 3, none⟩) BW (.bool less)).setCell (p := ⟨b2, 4, none⟩) BW (.string tp)
      clear H2 HK H5 m0 m1 m2 m3 m4 n0 n1 n2 n3 n4
      generalize (((((w8).setCell ⟨b2, 0, none⟩ (.bool ng)).setCell ⟨b2, 1, none⟩ (.string tx)).setCell ⟨b2, 2, none⟩ (.int .i64 wl)).setCell ⟨b2, 3, none⟩ (.bool less)).setCell ⟨b2, 4, none⟩ (.string tp) = wz at *
      (try simp only [Exit.inBlock, Exit.then])
      exact bodyPost_ret (v := .tuple #[.agg #[.bool ng, .string tx, .int .i64 wl, .bool less, .string tp], .int .i64 (e : Nat), .bool true]) (by simp [results, Tryz.results50, go_sem, PDD.c0, PDD.c1, PDD.c2, PDD.c3, PDD.c4]) rfl (⟨Or.inr ⟨e, ng, Ws ++ F, wl, less, _, by rw [HTX.out, ← HTP.out], sp.out⟩, KF⟩)

end Go.Proofs.YthnpndlobhgdhaaGreatDoor

namespace Go.Proofs.YthnpndlobhgdhaaGreatDoor
open Go.RowKit
set_option linter.unusedVariables false
set_option linter.unusedSimpArgs false

theorem pwF_min {lim : Int} (l0 : 0 ≤ lim) : ∀ (ds : List Int) (Z : Int), Dgt ds → 0 ≤ Z → pwF lim ds (min Z lim) = min (Z * tn ds.length + dg ds) lim
  | [], Z, _, _ => by show min Z lim = min (Z * tn 0 + 0) lim; rw [tn_zero, Int.mul_one, Int.add_zero]
  | d :: r, Z, h, z0 => by
    have hd := h d (by simp)
    have e : min (10 * min Z lim + (d - 48)) lim = min (10 * Z + (d - 48)) lim := by omega
    show pwF lim r (min (10 * min Z lim + (d - 48)) lim) = _
    rw [e, pwF_min l0 r _ (fun x hx => h x (by simp [hx])) (by omega)]
    congr 1
    rw [List.length_cons, tn_succ]
    show (10 * Z + (d - 48)) * tn r.length + dg r = Z * (10 * tn r.length) + ((d - 48) * tn r.length + dg r)
    rw [Int.add_mul, Int.mul_comm 10 Z, Int.mul_assoc]
    omega
theorem pw_cap {lim : Int} {ds : List Int} (l0 : 0 ≤ lim) (h : Dgt ds) : pwF lim ds 0 = min (dg ds) lim := by
  have := pwF_min l0 ds 0 h (Int.le_refl _)
  rw [Int.min_eq_left l0, Int.zero_mul, Int.zero_add] at this
  exact this
theorem dv_one {F L I N q r r' : Int} (hF : 0 < F) (h : DV F L I N q r) (h' : DV F L I N q r') : r = r' := dv_same hF h h' (dle_refl _ _) (dle_refl _ _)
/-- powers that are cut at two limits tell one pattern -/
theorem cap_to {D ps : List Int} {n wl : Nat} {less : Bool} {r : Int} (hD : Dgt D) (hp : Dgt ps) (hk : D.length ≤ n) (hw : wl ≤ n) (hn : n ≤ 1000000000)
    (h : DV 4503599627370496 (-1074) 9218868437227405312 (dg D) (wl + (if less then -(pwF 1099511627776 ps 0) else pwF 1099511627776 ps 0) - D.length) r) :
    DV 4503599627370496 (-1074) 9218868437227405312 (dg D) (wl + (if less then -(pwF (n + 400) ps 0) else pwF (n + 400) ps 0) - D.length) r := by
  rw [pw_cap (by omega) hp] at h ⊢
  have p0 := (dg_range hp).1
  have r0 := dg_range hD
  generalize dg ps = V at *
  rcases Int.lt_or_le ((n : Int) + 400) V with c | c
  · rw [Int.min_eq_right (a := V) (b := (n : Int) + 400) (by omega)]
    have m2 : (n : Int) + 400 ≤ min V 1099511627776 := by omega
    generalize min V 1099511627776 = M at *
    by_cases z : dg D = 0
    · rw [z] at h ⊢
      rw [dv_one (by decide) h (dv_zero wide_d)]
      exact dv_zero wide_d
    · cases less with
      | false =>
        simp only [Bool.false_eq_true, if_false] at h ⊢
        have t0 : tn 0 ≤ dg D := by rw [tn_zero]; omega
        rw [dv_one (by decide) h (dv_large (k := 0) wide_d t0 (by omega))]
        exact dv_large (k := 0) wide_d t0 (by omega)
      | true =>
        simp only [if_true] at h ⊢
        rw [dv_one (by decide) h (dv_small (k := D.length) wide_d r0.1 r0.2 (by omega))]
        exact dv_small (k := D.length) wide_d r0.1 r0.2 (by omega)
  · rw [Int.min_eq_left (a := V) (b := (n : Int) + 400) c]
    rw [Int.min_eq_left (a := V) (b := 1099511627776) (by omega)] at h
    exact h
theorem dv_rng {N q r : Int} (h : DV 4503599627370496 (-1074) 9218868437227405312 N q r) : 0 ≤ r ∧ r ≤ 9218868437227405312 := ⟨h.1, h.2.1⟩

/-- what Bits answers -/
def B8 (N q : Int) (ng : Bool) (w : World) (e : Ending) (w' : World) : Prop := ∃ r, e = .returned (.int .u64 (r + b2i ng * 9223372036854775808)) ∧ DV 4503599627370496 (-1074) 9218868437227405312 N q r ∧ Below w.heap.size w w'

set_option maxRecDepth 100000 in
set_option maxHeartbeats 8000000 in
theorem bits8_any {w : World} {ng less : Bool} {ds ps : List Int} {t tp : ByteArray} {wl : Nat} (hd : Dgt ds) (hp : Dgt ps) (ht : t = strOfNums ds) (htp : tp = strOfNums ps) (hl : ds.length ≤ 70368744177664) (hpl : ps.length ≤ 70368744177664) (hw : wl ≤ 70368744177664) {P : Int} (hP : (if less then -(pwF 1099511627776 ps 0) else pwF 1099511627776 ps 0) = P) :
    Calls Tryz.prog 51 #[.agg #[.bool ng, .string t, .int .i64 wl, .bool less, .string tp]] w fun e w' => B8 (dg ds) (wl + P - ds.length) ng w e w' := by
  have hsz : tp.size = ps.length := by rw [htp, strOfNums_size]
  have HIX := hide (show ∀ p (h : p < tp.size), (((tp[p]'h).toNat : Nat) : Int) = Nt.lb ps p from fun p h => by subst htp; exact txt_at h hp.byt)
  have HDG := hide (show ∀ p, p < ps.length → 48 ≤ Nt.lb ps p ∧ Nt.lb ps p ≤ 57 from fun p h => hp _ (lb_in h))
  have HDC := hide (fun (u : World) (q : Int) (a : -4611686018427387904 ≤ q) (b : q ≤ 4611686018427387904) => rdecimal (w := u) (p := q) hd ht rfl hl a b)
  obtain ⟨N, hN⟩ : ∃ N, ps.length = N := ⟨_, rfl⟩
  have HN := hide hN
  rw [hN] at hsz hpl
  have hcap : 0 ≤ pwF 1099511627776 ps 0 ∧ pwF 1099511627776 ps 0 ≤ 1099511627776 := by
    have := (dg_range hp).1
    rw [pw_cap (by omega) hp]; omega
  obtain ⟨Q, hQ⟩ : ∃ Q, pwF 1099511627776 ps 0 = Q := ⟨_, rfl⟩
  have HQ := hide hQ
  rw [hQ] at hcap hP
  have HP := hide hP
  clear hP
  have D5 := cl5_new w (.bool ng) (.string t) (.int .i64 wl) (.bool less) (.string tp) 92
  have KK := bel_new w (.cells #[.bool ng, .string t, .int .i64 wl, .bool less, .string tp] 92)
  obtain ⟨b1, hb1⟩ : ∃ b, w.heap.size = b := ⟨_, rfl⟩
  rw [hb1] at D5
  obtain ⟨w1, hw1⟩ : ∃ q, w.alloc (.cells #[.bool ng, .string t, .int .i64 wl, .bool less, .string tp] 92) = q := ⟨_, rfl⟩
  rw [hw1] at D5 KK
  have H5 := hide D5
  have HK := hide KK
  have HW := hide (And.intro hb1 hw1)
  clear D5 KK hb1 hw1 hd hp ht htp hN hQ
  go_enter Tryz.func51, Tryz.ntmps51
  go_upto_region 1 with fail
  simp only [HW.out.1, HW.out.2]
  clear HW
  have c0 := H5.out.c0
  have c1 := H5.out.c1
  have c2 := H5.out.c2
  have c3 := H5.out.c3
  have c4 := H5.out.c4
  go_wp2
  go_loopg [4, 5] N (fun c s4 s5 wr => ∃ (j : Nat) (z : Int), j ≤ N ∧ c = N - j ∧ s5 = .int .i64 j ∧ s4 = .int .i64 z ∧ 0 ≤ z ∧ z ≤ 1099511627776 ∧ Hid (Q = pwF 1099511627776 (ps.drop j) z) ∧ w1 = wr)
  case atStart => exact ⟨0, 0, by omega, rfl, rfl, rfl, by omega, by omega, hide HQ.out.symm, rfl⟩
  case round =>
    obtain ⟨j, z, hj, hc, rfl, rfl, z0, z1, HR, hw'⟩ := hrel
    subst hw'
    by_cases hjl : j < N
    · have hps : j < tp.size := by omega
      have hx := HIX.out j hps
      have hb9 := HDG.out j (by rw [HN.out]; exact hjl)
      have hdr := HR.out.trans (pwF_drop (by rw [HN.out]; exact hjl))
      obtain ⟨x, hxx⟩ : ∃ x, Nt.lb ps j = x := ⟨_, rfl⟩
      rw [hxx] at hx hb9 hdr
      obtain ⟨x0, x1⟩ := hb9
      have q4 : (j : Int) < (N : Int) := by omega
      have y1 : IntKind.i64.wrap (z * 10) = z * 10 := by rw [IntKind.wrap_i64]; omega
      have y2 : IntKind.u8.wrap (x - 48) = x - 48 := by rw [IntKind.wrap_u8]; omega
      have y2' : IntKind.i64.wrap (x - 48) = x - 48 := by rw [IntKind.wrap_i64]; omega
      obtain ⟨v, hv⟩ : ∃ v, z * 10 + (x - 48) = v := ⟨_, rfl⟩
      have y3 : IntKind.i64.wrap (z * 10 + (x - 48)) = v := by rw [IntKind.wrap_i64]; omega
      rw [show 10 * z + (x - 48) = v by omega] at hdr
      have HV := hide (And.intro hv hxx)
      have v0 : 0 ≤ v := by omega
      have y5 : IntKind.i64.wrap ((j : Int) + 1) = ((j + 1 : Nat) : Int) := by rw [IntKind.wrap_i64]; omega
      clear hv hxx
      have HR2 := hide hdr
      clear hdr
      go_wp2
      go_roundg (N - (j + 1))
      case measure => omega
      case rel => exact ⟨j + 1, min v 1099511627776, by omega, rfl, by first | rfl | (simp only [Int.natCast_add]; rfl), rfl, by omega, by omega, HR2, rfl⟩
    · obtain rfl : j = N := by omega
      have hz : Q = z := by rw [HR.out, List.drop_of_length_le (by rw [HN.out]; exact Nat.le_refl _)]; rfl
      subst hz
      have q4 : ¬ (j : Int) < (j : Int) := by omega
      have y1 : IntKind.i64.wrap (-Q) = -Q := by rw [IntKind.wrap_i64]; omega
      clear HR hjl
      have hP := HP.out
      have pb : -1099511627776 ≤ P ∧ P ≤ 1099511627776 := by rw [← hP]; cases less <;> simp <;> omega
      clear hP
      go_upto_if 27 with fail
      go_cut [4] from 26 (fun s4 wx => s4 = .int .i64 P ∧ w1 = wx)
      case first =>
        have hP := HP.out
        cases less
        · simp only [Bool.false_eq_true, if_false] at hP
          subst hP
          go_wp2_with fail
          go_meet
          exact ⟨rfl, rfl⟩
        · simp only [if_true] at hP
          subst hP
          go_wp2_with fail
          go_meet
          exact ⟨rfl, rfl⟩
      case rest =>
      obtain ⟨rfl, rfl⟩ := hcut
      have y6 : IntKind.i64.wrap ((wl : Int) + P) = (wl : Int) + P := by rw [IntKind.wrap_i64]; omega
      go_wp2_with fail
      with_reducible refine (HDC.out _ _ (by omega) (by omega)).mono ?_
      rintro e w2 ⟨r, rfl, hdv, K⟩
      have HR := hide hdv
      have rr := dv_rng hdv
      have hc0 := (H5.out.below K).c0
      have HKF := hide (below_trans HK.out K)
      have y7 : IntKind.u64.wrap (r + 9223372036854775808) = r + 9223372036854775808 := by rw [IntKind.wrap_u64]; omega
      clear hdv K c0 c1 c2 c3 c4 y1 y6 q4
      cases ng
      · go_wp2
        go_ret
        exact ⟨r, by rw [show b2i false = 0 from rfl, Int.zero_mul, Int.add_zero]; rfl, HR.out, HKF.out⟩
      · go_wp2
        go_ret
        exact ⟨r, by rw [show b2i true = 1 from rfl, Int.one_mul]; rfl, HR.out, HKF.out⟩

end Go.Proofs.YthnpndlobhgdhaaGreatDoor
