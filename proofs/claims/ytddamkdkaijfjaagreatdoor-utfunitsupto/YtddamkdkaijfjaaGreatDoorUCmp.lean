/- utf: weight, Cmp -/
import Derived.Test.YtddamkdkaijfjaaGreatDoorUUnits
namespace Go.Proofs.YtddamkdkaijfjaaGreatDoor
open Go.RowKit
set_option linter.unusedVariables false

/-- a step: its number, how many bytes -/
def uStp (l : List Int) : Int × Nat := if (uDec l).2 = 0 then (2000000 + l.headD 0, 1) else uDec l
theorem USteps.step {l qs : List Int} {q : Int} (hb : uByt l) (h : USteps l (q :: qs)) : uStp l = (q, (sEnc q).length) ∧ USteps (l.drop (sEnc q).length) qs ∧ sOk q ∧ 0 < (sEnc q).length ∧ (sEnc q).length ≤ l.length := by
  cases h with
  | @good _ _ _ n a b c =>
    have hc := uDec_cases hb (by rw [a]; exact b)
    have hle := uDec_le l
    rw [a] at hc hle
    obtain ⟨h1, h2, h3⟩ := hc
    simp only at h1 h2 h3 hle
    have e : (sEnc q).length = n := by unfold sEnc; rw [if_pos (uPt_lt h1)]; exact h2
    rw [e]
    refine ⟨?_, c, .inl h1, by omega, hle⟩
    unfold uStp; rw [a, if_neg b]
  | @bad a r _ c d =>
    have ha := hb a List.mem_cons_self
    have e : (sEnc (2000000 + a)).length = 1 := by unfold sEnc; rw [if_neg (by omega)]; rfl
    rw [e]
    refine ⟨?_, by simpa using d, .inr ⟨by omega, by omega⟩, by omega, by simp⟩
    unfold uStp; rw [if_pos c]; rfl
theorem USteps.nil_of {l : List Int} (h : USteps l []) : l = [] := by cases h; rfl
theorem uor16 {a b : Int} (h0 : 0 ≤ a) (h1 : a < 65536) (g0 : 0 ≤ b) (g1 : b < 65536) : bits .or .i64 (a * 65536) b = a * 65536 + b :=
  bits_join .i64 32 (by decide) (fun n p q => by rw [IntKind.wrap_i64]; omega) 16 (a * 65536) b (by omega) (by omega) (by omega) g0 (by omega) (by omega)
theorem ret_w {a b : Int} {m n : Int} (h : a = b) (g : m = n) : Ending.returned (.tuple #[.int .i64 a, .int .i64 m]) = .returned (.tuple #[.int .i64 b, .int .i64 n]) := by rw [h, g]

theorem weight_end {s : ByteArray} {es : List Int} {w : World} (hs : s = strOfNums es) (hl : es.length ≤ 9223372036854775807) :
    Calls Tryz.prog 120 #[.string s, .int .i64 (es.length : Nat)] w fun e w' => e = .returned (.tuple #[.int .i64 (-1), .int .i64 0]) ∧ w' = w := by
  have hsz : s.size = es.length := by rw [hs, strOfNums_size]
  obtain ⟨L, hL⟩ : ∃ L, es.length = L := ⟨_, rfl⟩
  rw [hL] at hsz hl ⊢
  clear hs hL
  have q : ((L : Int) == (L : Int)) = true := beq_self_eq_true _
  go_enter Tryz.func120, Tryz.ntmps120
  go_wp2
  go_ret2
  exact ⟨rfl, rfl⟩

set_option maxRecDepth 100000 in
set_option maxHeartbeats 4000000 in
theorem weight_in {s : ByteArray} {es : List Int} {w : World} {k : Nat} {q : Int} {n : Nat} (hb : uByt es) (hs : s = strOfNums es) (hl : es.length ≤ 9223372036854775807) (hk : k < es.length) (hst : uStp (es.drop k) = (q, n)) :
    Calls Tryz.prog 120 #[.string s, .int .i64 k] w fun e w' => e = .returned (.tuple #[.int .i64 (uW q), .int .i64 n]) ∧ w' = w := by
  have hsz : s.size = es.length := by rw [hs, strOfNums_size]
  have HF := hide (show ∀ (w : World), Calls Tryz.prog 77 #[.string s, .int .i64 (k : Nat)] w fun e w' => e = .returned (.tuple #[.int .i32 (uFst es k).1, .int .i64 ((uFst es k).2 : Nat), .bool ((uFst es k).2 != 0)]) ∧ w' = w from fun w => first_any hb hs hl)
  have hx : (((s[k]'(by rw [hsz]; exact hk)).toNat : Nat) : Int) = Nt.lb es k := by subst hs; exact utxt_at _ hb
  have hc : 0 ≤ Nt.lb es k ∧ Nt.lb es k < 256 := by have := hb _ (List.getElem_mem hk); simpa [Nt.lb, hk] using this
  rw [uFst_in hk] at HF
  have hd := udrop_lb hk
  have hdc := fun h => uDec_cases (hb.drop k) h
  obtain ⟨⟨p, m⟩, hD⟩ : ∃ R, uDec (es.drop k) = R := ⟨_, rfl⟩
  rw [hD] at HF hdc
  have hne : ((k : Int) == (es.length : Int)) = false := beq_eq_false_iff_ne.2 (by omega)
  obtain ⟨L, hL⟩ : ∃ L, es.length = L := ⟨_, rfl⟩
  rw [hL] at hsz hl hk hne
  have hps : k < s.size := by omega
  have f1 : 0 ≤ (k : Int) ∧ (k : Int) < (L : Int) := by omega
  obtain ⟨c, hcc⟩ : ∃ c, Nt.lb es k = c := ⟨_, rfl⟩
  rw [hcc] at hx hc hd
  clear hs hL hb hcc
  unfold uStp at hst
  rw [hD] at hst
  by_cases hm : m = 0
  · subst hm
    rw [if_pos rfl, hd] at hst
    simp only [List.headD_cons] at hst
    obtain ⟨e1, e2⟩ := Prod.mk.inj hst
    subst e1 e2
    have hww : uW (2000000 + c) = (65536 + c) * 65536 := by unfold uW; rw [if_neg (by omega)]; omega
    rw [hww]
    clear hst hdc hD hd hww
    go_enter Tryz.func120, Tryz.ntmps120
    go_wp2_with (go_at_call 77; refine (HF.out _).mono ?_; rintro e w' ⟨rfl, rfl⟩)
    go_ret2
    exact ⟨ret_w (by omega) rfl, rfl⟩
  · rw [if_neg hm] at hst
    obtain ⟨e1, e2⟩ := Prod.mk.inj hst
    subst e1 e2
    obtain ⟨h1, h2, -⟩ := hdc hm
    simp only at h1 h2
    have hp := uPt_iff.1 h1
    have hz : ((m != 0) : Bool) = true := by simp [hm]
    clear hst hdc hD hd h2
    by_cases h6 : p < 65536
    · have hww : uW p = p * 65536 := by unfold uW; rw [if_pos (by omega), if_pos h6]
      rw [hww]
      clear hww
      go_enter Tryz.func120, Tryz.ntmps120
      go_wp2_with (go_at_call 77; refine (HF.out _).mono ?_; rintro e w' ⟨rfl, rfl⟩)
      go_ret2
      exact ⟨ret_w (by omega) rfl, rfl⟩
    · have hww : uW p = (55296 + (p - 65536) / 1024) * 65536 + (56320 + (p - 65536) % 1024) := by unfold uW; rw [if_pos (by omega), if_neg h6]
      rw [hww]
      clear hww
      have HSP := hide (fun w => split_any (w := w) (p := p) (by omega) (by omega))
      obtain ⟨a, ha⟩ : ∃ a, 55296 + (p - 65536) / 1024 = a := ⟨_, rfl⟩
      obtain ⟨b, hb⟩ : ∃ b, 56320 + (p - 65536) % 1024 = b := ⟨_, rfl⟩
      rw [ha, hb] at HSP ⊢
      have ha1 : 0 ≤ a ∧ a < 65536 := by omega
      have hb1 : 0 ≤ b ∧ b < 65536 := by omega
      clear ha hb
      go_enter Tryz.func120, Tryz.ntmps120
      go_wp2_with (first | (go_at_call 77; refine (HF.out _).mono ?_; rintro e w' ⟨rfl, rfl⟩) | (go_at_call 81; refine (HSP.out _).mono ?_; rintro e w' ⟨rfl, rfl⟩))
      go_ret2
      exact ⟨ret_w (uor16 ha1.1 ha1.2 hb1.1 hb1.2) rfl, rfl⟩

def usgn (x y : Int) : Int := if x < y then -1 else if y < x then 1 else 0
theorem usgn_lt {x y : Int} (h : x < y) : usgn x y = -1 := by simp [usgn, h]
theorem usgn_gt {x y : Int} (h : y < x) : usgn x y = 1 := by unfold usgn; rw [if_neg (by omega), if_pos h]
theorem usgn_eq {x y : Int} (h : x = y) : usgn x y = 0 := by subst h; simp [usgn]

set_option maxHeartbeats 1000000 in
theorem compare_i64 (x y : Int) (w : World) :
    Calls Tryz.prog 121 #[.int .i64 x, .int .i64 y] w fun e w' => e = .returned (.int .i64 (usgn x y)) ∧ w' = w := by
  have hx : (x != x) = false := by simp
  have hy : (y != y) = false := by simp
  rcases Int.lt_trichotomy x y with h | h | h
  · rw [usgn_lt h]
    go_enter Tryz.func121, Tryz.ntmps121
    go_wp2
    go_ret
    exact ⟨rfl, rfl⟩
  · subst h
    rw [usgn_eq rfl]
    go_enter Tryz.func121, Tryz.ntmps121
    go_wp2
    go_ret
    exact ⟨rfl, rfl⟩
  · rw [usgn_gt h]
    have h' : ¬ x < y := by omega
    go_enter Tryz.func121, Tryz.ntmps121
    go_wp2
    go_ret
    exact ⟨rfl, rfl⟩

def uWt : List Int → Int
  | [] => -1
  | q :: _ => uW q
def uWn : List Int → Nat
  | [] => 0
  | q :: _ => (sEnc q).length
theorem uCmp_ne {xs ys : List Int} (hx : ∀ q ∈ xs, sOk q) (hy : ∀ q ∈ ys, sOk q) (h : uWt xs ≠ uWt ys) : uCmp (uCodes xs) (uCodes ys) = usgn (uWt xs) (uWt ys) := by
  cases xs with
  | nil =>
    cases ys with
    | nil => exact absurd rfl h
    | cons r ys =>
      have g := uW_pos (hy r List.mem_cons_self)
      rw [uCodes_cons, usgn_lt (by simp only [uWt]; omega)]
      have n := sU_ne r
      cases e : sU r with
      | nil => exact absurd e n
      | cons a b => rfl
  | cons q xs =>
    have g := hx q List.mem_cons_self
    cases ys with
    | nil =>
      have g := uW_pos g
      rw [uCodes_cons, usgn_gt (by simp only [uWt]; omega)]
      have n := sU_ne q
      cases e : sU q with
      | nil => exact absurd e n
      | cons a b => rfl
    | cons r ys =>
      have g2 := hy r List.mem_cons_self
      rw [uCodes_cons, uCodes_cons]
      simp only [uWt] at h ⊢
      rcases Int.lt_or_gt_of_ne h with k | k
      · rw [uW_lt g g2 k, usgn_lt k]
      · rw [uW_gt g g2 k, usgn_gt k]
theorem uCmp_same {xs ys : List Int} (hx : ∀ q ∈ xs, sOk q) (hy : ∀ q ∈ ys, sOk q) (h : uWt xs = uWt ys) : (xs = [] ∧ ys = []) ∨ ∃ q a b, xs = q :: a ∧ ys = q :: b := by
  cases xs with
  | nil =>
    cases ys with
    | nil => exact .inl ⟨rfl, rfl⟩
    | cons r ys => have g := uW_pos (hy r List.mem_cons_self); simp only [uWt] at h; omega
  | cons q xs =>
    have g := hx q List.mem_cons_self
    cases ys with
    | nil => have g := uW_pos g; simp only [uWt] at h; omega
    | cons r ys => exact .inr ⟨q, xs, ys, rfl, by rw [uW_inj g (hy r List.mem_cons_self) h]⟩

/-- the weight at a place, and how far it goes -/
theorem weight_at {s : ByteArray} {es qs : List Int} {k : Nat} (hb : uByt es) (hs : s = strOfNums es) (hl : es.length ≤ 9223372036854775807) (hk : k ≤ es.length) (h : USteps (es.drop k) qs) :
    ∀ w, Calls Tryz.prog 120 #[.string s, .int .i64 k] w fun e w' => e = .returned (.tuple #[.int .i64 (uWt qs), .int .i64 (uWn qs : Nat)]) ∧ w' = w := by
  intro w
  cases qs with
  | nil =>
    have e := h.nil_of
    have e2 : k = es.length := by have := congrArg List.length e; rw [List.length_drop, List.length_nil] at this; omega
    subst e2
    exact weight_end hs hl
  | cons q qs =>
    obtain ⟨h1, h2, h3, h4, h5⟩ := USteps.step (hb.drop k) h
    rw [List.length_drop] at h5
    exact weight_in hb hs hl (by omega) h1

set_option maxRecDepth 100000 in
set_option maxHeartbeats 4000000 in
theorem ucmp_any {s1 s2 : ByteArray} {ea eb qa qb : List Int} {w : World} (ha : uByt ea) (hs1 : s1 = strOfNums ea) (hl1 : ea.length ≤ 9223372036854775807) (hb : uByt eb) (hs2 : s2 = strOfNums eb) (hl2 : eb.length ≤ 9223372036854775807) (hqa : USteps ea qa) (hqb : USteps eb qb) :
    Calls Tryz.prog 79 #[.string s1, .string s2] w fun e w' => e = .returned (.int .i64 (uCmp (uCodes qa) (uCodes qb))) ∧ w' = w := by
  have HWA := hide (fun (k : Nat) (qs : List Int) hk h w => weight_at (k := k) (qs := qs) ha hs1 hl1 hk h w)
  have HWB := hide (fun (k : Nat) (qs : List Int) hk h w => weight_at (k := k) (qs := qs) hb hs2 hl2 hk h w)
  have HA := hide (fun k => ha.drop k)
  have HB := hide (fun k => hb.drop k)
  obtain ⟨R, hR⟩ : ∃ R, uCmp (uCodes qa) (uCodes qb) = R := ⟨_, rfl⟩
  rw [hR]
  have HR := hide hR
  have HL1 := hide hl1
  have HL2 := hide hl2
  clear ha hs1 hl1 hb hs2 hl2 hR
  go_enter Tryz.func79, Tryz.ntmps79
  go_wp2_with fail
  go_loopg [5] ea.length (fun c i wr => ∃ (k : Nat) (xs ys : List Int), i = .int .i64 k ∧ c = ea.length - k ∧ k ≤ ea.length ∧ k ≤ eb.length ∧ Hid (USteps (ea.drop k) xs) ∧ Hid (USteps (eb.drop k) ys) ∧ Hid (uCmp (uCodes xs) (uCodes ys) = R) ∧ w = wr)
  case atStart => exact ⟨0, qa, qb, rfl, by simp, by omega, by omega, hide hqa, hide hqb, HR, rfl⟩
  case round =>
    obtain ⟨k, xs, ys, rfl, hg, hk1, hk2, HX, HY, HC, hw⟩ := hrel
    subst hw
    have WA := hide (HWA.out k xs hk1 HX.out)
    have WB := hide (HWB.out k ys hk2 HY.out)
    have HK1 := hide hk1
    have HK2 := hide hk2
    have HG := hide hg
    have okx := (USteps.ok (HA.out k) HX.out).1
    have oky := (USteps.ok (HB.out k) HY.out).1
    clear HWA HWB hk1 hk2 hg
    by_cases hne : uWt xs = uWt ys
    · rcases uCmp_same okx oky hne with ⟨e1, e2⟩ | ⟨q, a, b, e1, e2⟩
      · subst e1 e2
        rw [show uWt [] = -1 from rfl, show uWn [] = 0 from rfl] at WA WB
        have hc := HC.out
        rw [show uCmp (uCodes []) (uCodes []) = 0 from rfl] at hc
        subst hc
        clear hne okx oky
        go_wp2_with (first | (go_at_call 120; first | ((with_reducible refine (WA.out _).mono ?_); rintro e w' ⟨rfl, rfl⟩) | ((with_reducible refine (WB.out _).mono ?_); rintro e w' ⟨rfl, rfl⟩)) | (go_at_call 121; refine (compare_i64 _ _ _).mono ?_; rintro e w' ⟨rfl, rfl⟩))
        go_ret
        exact ⟨rfl, rfl⟩
      · subst e1 e2
        obtain ⟨a1, a2, a3, a4, a5⟩ := USteps.step (HA.out k) HX.out
        obtain ⟨b1, b2, b3, b4, b5⟩ := USteps.step (HB.out k) HY.out
        rw [List.length_drop] at a5 b5
        rw [List.drop_drop] at a2 b2
        have hc := HC.out
        rw [uCodes_cons, uCodes_cons, uCmp_append] at hc
        rw [show uWt (q :: a) = uW q from rfl, show uWn (q :: a) = (sEnc q).length from rfl] at WA
        rw [show uWt (q :: b) = uW q from rfl, show uWn (q :: b) = (sEnc q).length from rfl] at WB
        obtain ⟨n, hn⟩ : ∃ n, (sEnc q).length = n := ⟨_, rfl⟩
        rw [hn] at a2 a4 a5 b2 b5 WA WB
        obtain ⟨x, hx⟩ : ∃ x, uW q = x := ⟨_, rfl⟩
        rw [hx] at WA WB
        have HC' := hide hc
        have HA2 := hide a2
        have HB2 := hide b2
        have q1 : (x != x) = false := by simp
        have q2 : ((n : Int) == 0) = false := beq_eq_false_iff_ne.2 (by omega)
        have q3 : (k : Int) + (n : Int) ≤ 9223372036854775807 := by have := HL1.out; have := HK1.out; omega
        have q4 := hide (show k + n ≤ ea.length by have := HK1.out; omega)
        have q5 := hide (show k + n ≤ eb.length by have := HK2.out; omega)
        clear hne okx oky hc a1 a2 b1 b2 a3 b3 b4 hn hx HC HX HY a5 b5
        go_wp2_with (first | (go_at_call 120; first | ((with_reducible refine (WA.out _).mono ?_); rintro e w' ⟨rfl, rfl⟩) | ((with_reducible refine (WB.out _).mono ?_); rintro e w' ⟨rfl, rfl⟩)))
        go_roundg (ea.length - (k + n))
        case measure => have := HG.out; have := HK1.out; have := q4.out; omega
        case rel => exact ⟨k + n, a, b, by simp, rfl, q4.out, q5.out, HA2, HB2, HC', rfl⟩
    · have hc := uCmp_ne okx oky hne
      have hr := HC.out
      rw [hc] at hr
      obtain ⟨x, hx⟩ : ∃ x, uWt xs = x := ⟨_, rfl⟩
      obtain ⟨y, hy⟩ : ∃ y, uWt ys = y := ⟨_, rfl⟩
      rw [hx] at WA hr hne
      rw [hy] at WB hr hne
      have q1 : (x != y) = true := by simp [hne]
      subst hr
      clear okx oky hc hne hx hy HC HR
      go_wp2_with (first | (go_at_call 120; first | ((with_reducible refine (WA.out _).mono ?_); rintro e w' ⟨rfl, rfl⟩) | ((with_reducible refine (WB.out _).mono ?_); rintro e w' ⟨rfl, rfl⟩)) | (go_at_call 121; refine (compare_i64 _ _ _).mono ?_; rintro e w' ⟨rfl, rfl⟩))
      go_ret
      exact ⟨rfl, rfl⟩

end Go.Proofs.YtddamkdkaijfjaaGreatDoor
