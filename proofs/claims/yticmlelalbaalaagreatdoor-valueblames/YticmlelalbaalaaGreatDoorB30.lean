import Derived.Test.YticmlelalbaalaaGreatDoorB01
import Derived.Test.YticmlelalbaalaaGreatDoorB02
import Derived.Deep.LoopGhost
import Derived.Laws.BytesArg
import Derived.WideShapes
namespace Go.Proofs.YticmlelalbaalaaGreatDoor
open Go.RowKit
set_option linter.unusedVariables false
theorem of_beq_true {a b : Int} (h : (a == b) = true) : a = b := by simpa using h
theorem of_beq_false {a b : Int} (h : (a == b) = false) : a ≠ b := by simpa using h
theorem ret_pair {a b : Int} {m n : Int} (h : a = b) (g : m = n) : Ending.returned (.tuple #[.int .i32 a, .int .i64 m]) = .returned (.tuple #[.int .i32 b, .int .i64 n]) := by rw [h, g]
theorem ret_i64 {a b : Int} (h : a = b) : Ending.returned (.int .i64 a) = .returned (.int .i64 b) := by rw [h]
theorem ret_bool {a b : Bool} (h : a = b) : Ending.returned (.bool a) = .returned (.bool b) := by rw [h]
theorem lead_any {w : World} {c : Int} (h0 : 0 ≤ c) (h1 : c < 256) : Calls Tryz.prog 189 #[.int .u8 c] w fun e w' => e = .returned (.tuple #[.int .i32 (uLead c).1, .int .i64 ((uLead c).2 : Nat)]) ∧ w' = w := by
  obtain ⟨R, hR⟩ : ∃ R, uLead c = R := ⟨_, rfl⟩
  have HR := hide hR
  rw [hR]; clear hR
  go_enter Tryz.func189, Tryz.ntmps189
  go_wp2
  all_goals go_ret2
  · rename_i k1
    have k1 := of_beq_true k1
    refine ⟨ret_pair ?_ ?_, rfl⟩ <;> rw [← HR.out, uLead, if_pos (by omega)]
    rfl
  · rename_i k1 k2
    have k1 := of_beq_false k1
    have k2 := of_beq_true k2
    refine ⟨ret_pair ?_ ?_, rfl⟩ <;> rw [← HR.out, uLead, if_neg (by omega), if_neg (by omega), if_pos (by omega)]
    · show c % 32 = c - 192; omega
    · rfl
  · rename_i k1 k2 k3
    have k1 := of_beq_false k1
    have k2 := of_beq_false k2
    have k3 := of_beq_true k3
    refine ⟨ret_pair ?_ ?_, rfl⟩ <;> rw [← HR.out, uLead, if_neg (by omega), if_neg (by omega), if_neg (by omega), if_pos (by omega)]
    · show c % 16 = c - 224; omega
    · rfl
  · rename_i k1 k2 k3 k4
    have k1 := of_beq_false k1
    have k2 := of_beq_false k2
    have k3 := of_beq_false k3
    have k4 := of_beq_true k4
    refine ⟨ret_pair ?_ ?_, rfl⟩ <;> rw [← HR.out, uLead, if_neg (by omega), if_neg (by omega), if_neg (by omega), if_neg (by omega), if_pos (by omega)]
    · show c % 8 = c - 240; omega
    · rfl
  · rename_i k1 k2 k3 k4
    have k1 := of_beq_false k1
    have k2 := of_beq_false k2
    have k3 := of_beq_false k3
    have k4 := of_beq_false k4
    refine ⟨ret_pair ?_ ?_, rfl⟩
    all_goals
      rw [← HR.out, uLead, if_neg (by omega)]
      by_cases g : c < 192
      · rw [if_pos g] <;> rfl
      · rw [if_neg g, if_neg (by omega), if_neg (by omega), if_neg (by omega)] <;> rfl
def uHi (r : Int) : Bool := decide (55296 ≤ r) && decide (r < 56320)
def uLo (r : Int) : Bool := decide (56320 ≤ r) && decide (r < 57344)
theorem isHigh_any {w : World} {r : Int} : Calls Tryz.prog 168 #[.int .i32 r] w fun e w' => e = .returned (.bool (uHi r)) ∧ w' = w := by
  unfold uHi
  by_cases h : 55296 ≤ r
  · have f1 : ¬ r < 55296 := by omega
    rw [decide_eq_true h]
    by_cases h2 : r < 56320
    · rw [decide_eq_true h2]
      go_enter Tryz.func168, Tryz.ntmps168
      go_wp2; go_ret; exact ⟨rfl, rfl⟩
    · rw [decide_eq_false h2]
      go_enter Tryz.func168, Tryz.ntmps168
      go_wp2; go_ret; exact ⟨rfl, rfl⟩
  · have f1 : r < 55296 := by omega
    rw [decide_eq_false h]
    go_enter Tryz.func168, Tryz.ntmps168
    go_wp2; go_ret; exact ⟨rfl, rfl⟩
theorem isLow_any {w : World} {r : Int} : Calls Tryz.prog 169 #[.int .i32 r] w fun e w' => e = .returned (.bool (uLo r)) ∧ w' = w := by
  unfold uLo
  by_cases h : 56320 ≤ r
  · have f1 : ¬ r < 56320 := by omega
    rw [decide_eq_true h]
    by_cases h2 : r < 57344
    · rw [decide_eq_true h2]
      go_enter Tryz.func169, Tryz.ntmps169
      go_wp2; go_ret; exact ⟨rfl, rfl⟩
    · rw [decide_eq_false h2]
      go_enter Tryz.func169, Tryz.ntmps169
      go_wp2; go_ret; exact ⟨rfl, rfl⟩
  · have f1 : r < 56320 := by omega
    rw [decide_eq_false h]
    go_enter Tryz.func169, Tryz.ntmps169
    go_wp2; go_ret; exact ⟨rfl, rfl⟩
theorem uSz_of {r : Int} (h0 : 0 ≤ r) (h1 : r ≤ 1114111) (h2 : uHi r = false) (h3 : uLo r = false) : uSz r = if r < 128 then 1 else if r < 2048 then 2 else if r < 65536 then 3 else 4 := by
  unfold uSz
  rw [if_pos]
  rw [uPt_iff]
  unfold uHi at h2; unfold uLo at h3
  simp at h2 h3
  omega
theorem uSz_none {r : Int} (h : r < 0 ∨ 1114111 < r ∨ uHi r = true ∨ uLo r = true) : uSz r = 0 := by
  rw [uSz_zero]
  cases hp : uPt r
  · rfl
  · exfalso
    have := uPt_iff.1 hp
    unfold uHi uLo at h
    simp at h
    omega
theorem usize_any {w : World} {r : Int} : Calls Tryz.prog 140 #[.int .i32 r] w fun e w' => e = .returned (.int .i64 (uSz r : Nat)) ∧ w' = w := by
  obtain ⟨R, hR⟩ : ∃ R, uSz r = R := ⟨_, rfl⟩
  have HR := hide hR
  rw [hR]; clear hR
  cases hh : uHi r
  all_goals cases hl : uLo r
  all_goals
    go_enter Tryz.func140, Tryz.ntmps140
    go_wp2_with (first | (go_at_call 168; refine isHigh_any.mono ?_; rintro e w' ⟨rfl, rfl⟩; rw [hh]) | (go_at_call 169; refine isLow_any.mono ?_; rintro e w' ⟨rfl, rfl⟩; rw [hl]))
    all_goals go_ret
    all_goals
      refine ⟨ret_i64 ?_, rfl⟩
      rw [← HR.out]
      first
        | rw [uSz_none (by first | exact .inl ‹_› | exact .inr (.inl ‹_›) | exact .inr (.inr (.inl hh)) | exact .inr (.inr (.inr hl)))]; rfl
        | (rw [uSz_of (by omega) (by omega) hh hl]; first | rw [if_pos (by omega)]; rfl | (rw [if_neg (by omega)]; first | rw [if_pos (by omega)]; rfl | (rw [if_neg (by omega)]; first | rw [if_pos (by omega)]; rfl | rw [if_neg (by omega)]; rfl)))
def uGo (n : Nat) : Int → List Int → Int × Nat
  | x, [] => if uSz x = n then (x, n) else (0, 0)
  | x, c :: cs => if uCont c = true then uGo n (x * 64 + (c - 128)) cs else (0, 0)
theorem uGo_eq (n : Nat) (x : Int) (l : List Int) : uGo n x l = if l.all uCont = false then (0, 0) else if uSz (uAcc x l) = n then (uAcc x l, n) else (0, 0) := by
  induction l generalizing x with
  | nil => rfl
  | cons c cs ih =>
    rw [uGo, uAcc]
    cases h : uCont c
    · simp [h]
    · rw [if_pos rfl, ih, List.all_cons, h, Bool.true_and]
theorem uDec_go (a : Int) (r : List Int) : uDec (a :: r) = if (uLead a).2 = 0 then (0, 0) else if r.length < (uLead a).2 - 1 then (0, 0) else uGo (uLead a).2 (uLead a).1 (r.take ((uLead a).2 - 1)) := by
  rw [uDec, uGo_eq]
theorem ulb_get {es : List Int} {p : Nat} (h : p < es.length) : Nt.lb es p = es[p] := by simp [Nt.lb, h]
theorem udrop_lb {es : List Int} {k : Nat} (h : k < es.length) : es.drop k = Nt.lb es k :: es.drop (k + 1) := by
  rw [List.drop_eq_getElem_cons h]
  simp [Nt.lb, h]
theorem uDec_at {es : List Int} {k : Nat} (h : k < es.length) : uDec (es.drop k) = if (uLead (Nt.lb es k)).2 = 0 then (0, 0) else if es.length - (k + 1) < (uLead (Nt.lb es k)).2 - 1 then (0, 0) else uGo (uLead (Nt.lb es k)).2 (uLead (Nt.lb es k)).1 ((es.drop (k + 1)).take ((uLead (Nt.lb es k)).2 - 1)) := by
  rw [udrop_lb h, uDec_go, List.length_drop]
theorem uGo_step {es : List Int} {n p m : Nat} {x : Int} {R : Int × Nat} (h : R = uGo n x ((es.drop p).take (m + 1))) (hp : p < es.length) : R = if uCont (Nt.lb es p) = true then uGo n (x * 64 + (Nt.lb es p - 128)) ((es.drop (p + 1)).take m) else (0, 0) := by
  rw [h, udrop_lb hp, List.take_succ_cons, uGo]
theorem uCont_div {d : Int} (h : (d / 64 != 2) = false) : uCont d = true ∧ d % 64 = d - 128 := by
  have e : d / 64 = 2 := by simpa using h
  refine ⟨?_, by omega⟩
  unfold uCont; simp; omega
theorem uCont_not {d : Int} (h : (d / 64 != 2) = true) : uCont d = false := by
  have e : d / 64 ≠ 2 := by simpa using h
  unfold uCont; simp; omega
theorem uLead_le (a : Int) : (uLead a).2 ≤ 4 := by
  unfold uLead
  split; simp
  split; simp
  split; simp
  split; simp
  split <;> simp
theorem uLead_rng {a : Int} (h0 : 0 ≤ a) (h1 : a < 256) : 0 ≤ (uLead a).1 ∧ ((uLead a).2 = 0 ∨ (uLead a).2 = 1 ∨ (uLead a).1 < 32) := by
  unfold uLead
  split
  · exact ⟨h0, .inr (.inl rfl)⟩
  split
  · exact ⟨by simp, .inl rfl⟩
  split
  · exact ⟨by simp; omega, .inr (.inr (by simp; omega))⟩
  split
  · exact ⟨by simp; omega, .inr (.inr (by simp; omega))⟩
  split
  · exact ⟨by simp; omega, .inr (.inr (by simp; omega))⟩
  · exact ⟨by simp, .inl rfl⟩
theorem utxt_at {es : List Int} {p : Nat} (h : p < (strOfNums es).size) (hb : uByt es) : (((strOfNums es)[p]'h).toNat : Int) = Nt.lb es p := by
  have hl : p < es.length := by rw [strOfNums_size] at h; exact h
  have e : (strOfNums es)[p]'h = UInt8.ofNat (es[p]).toNat := by
    show (strOfNums es).data[p]'h = _
    simp [strOfNums]
  have hp := hb _ (List.getElem_mem hl)
  rw [e, UInt8.toNat_ofNat']
  simp [Nt.lb, hl]
  omega
theorem utxt_join (xs ys : List Int) : strOfNums xs ++ strOfNums ys = strOfNums (xs ++ ys) := by
  apply Go.WideShapes.bytes_inj
  simp [strOfNums]
theorem ret_three {a b : Int} {m n : Int} {c d : Bool} (h : a = b) (g : m = n) (k : c = d) : Ending.returned (.tuple #[.int .i32 a, .int .i64 m, .bool c]) = .returned (.tuple #[.int .i32 b, .int .i64 n, .bool d]) := by rw [h, g, k]
def uFst (es : List Int) (at_ : Int) : Int × Nat := if 0 ≤ at_ ∧ at_ < es.length then uDec (es.drop at_.toNat) else (0, 0)
theorem uFst_in {es : List Int} {k : Nat} (h : k < es.length) : uFst es k = uDec (es.drop k) := by
  unfold uFst; rw [if_pos (by omega)]; rfl
theorem uDec_zero {l : List Int} (h : (uDec l).2 = 0) : uDec l = (0, 0) := by
  cases l with
  | nil => rfl
  | cons a r =>
    rw [uDec_go] at h ⊢
    split at h; rename_i g; rw [if_pos g]
    rename_i g; rw [if_neg g]
    split at h; rename_i g2; rw [if_pos g2]
    rename_i g2; rw [if_neg g2]
    rw [uGo_eq] at h ⊢
    split at h; rename_i g3; rw [if_pos g3]
    rename_i g3; rw [if_neg g3]
    split at h
    · rename_i g4; exact absurd h g
    · rename_i g4; rw [if_neg g4]
set_option maxRecDepth 100000 in
set_option maxHeartbeats 4000000 in
theorem first_any {w : World} {s : ByteArray} {es : List Int} {at_ : Int} (hb : uByt es) (hs : s = strOfNums es) (hl : es.length ≤ 9223372036854775807) :
    Calls Tryz.prog 167 #[.string s, .int .i64 at_] w fun e w' => e = .returned (.tuple #[.int .i32 (uFst es at_).1, .int .i64 ((uFst es at_).2 : Nat), .bool ((uFst es at_).2 != 0)]) ∧ w' = w := by
  have hsz : s.size = es.length := by rw [hs, strOfNums_size]
  have Hix := hide (show ∀ p (h : p < s.size), (((s[p]'h).toNat : Nat) : Int) = Nt.lb es p from fun p h => by subst hs; exact utxt_at h hb)
  have HB := hide (show ∀ p, p < es.length → 0 ≤ Nt.lb es p ∧ Nt.lb es p < 256 from fun p h => by have := hb _ (List.getElem_mem h); simpa [Nt.lb, h] using this)
  by_cases hin : 0 ≤ at_ ∧ at_ < es.length
  · obtain ⟨k, rfl⟩ : ∃ k : Nat, at_ = k := ⟨at_.toNat, by omega⟩
    have hk : k < es.length := by omega
    rw [uFst_in hk]
    have HD := hide (uDec_at hk)
    obtain ⟨R, hR⟩ : ∃ R, uDec (es.drop k) = R := ⟨_, rfl⟩
    rw [hR]
    have HR := hide hR
    clear hR hin
    obtain ⟨L, hL⟩ : ∃ L, es.length = L := ⟨_, rfl⟩
    rw [hL] at hsz hl hk
    have HL := hide hL
    clear hs hL
    have hps : k < s.size := by omega
    have hx := Hix.out k hps
    have hc := HB.out k (by rw [HL.out]; exact hk)
    have hn4 := uLead_le (Nt.lb es k)
    have hrng := uLead_rng hc.1 hc.2
    obtain ⟨⟨b, n⟩, hlead⟩ : ∃ P, uLead (Nt.lb es k) = P := ⟨_, rfl⟩
    rw [hlead] at hn4 hrng
    simp only at hn4 hrng
    have f1 : ¬ (k : Int) < 0 := by omega
    have f2 : ¬ (L : Int) ≤ (k : Int) := by omega
    clear hb
    by_cases hn : n = 0
    · subst hn
      go_enter Tryz.func167, Tryz.ntmps167
      go_wp2_with (first | (go_at_call 189; refine (lead_any hc.1 hc.2).mono ?_; rintro e w' ⟨rfl, rfl⟩; rw [hlead]))
      go_ret3
      have e : R = (0, 0) := by rw [← HR.out, HD.out, hlead]; rfl
      rw [e]; exact ⟨rfl, rfl⟩
    · have f3 : ((n : Int) == 0) = false := beq_eq_false_iff_ne.2 (by omega)
      by_cases hlen : n ≤ L - k
      · have f4 : decide ((L : Int) - (k : Int) < (n : Int)) = false := decide_eq_false (by omega)
        have HS := hide (show R = uGo n b ((es.drop (k + 1)).take (n - 1)) by rw [← HR.out, HD.out, hlead, HL.out, if_neg hn, if_neg (by simp only; omega)])
        go_enter Tryz.func167, Tryz.ntmps167
        go_wp2_with (first | (go_at_call 189; refine (lead_any hc.1 hc.2).mono ?_; rintro e w' ⟨rfl, rfl⟩; rw [hlead]))
        go_loopg [4, 5, 6, 7] (n - 1) (fun c r s5 s6 i wr => ∃ (x : Int) (j : Nat), r = .int .i32 x ∧ s5 = .int .i64 n ∧ s6 = .bool false ∧ i = .int .i64 j ∧ 1 ≤ j ∧ j ≤ n ∧ c = n - j ∧ 0 ≤ x ∧ (n = 1 ∨ j = 1 ∧ x < 32 ∨ j = 2 ∧ x < 2048 ∨ j = 3 ∧ x < 131072 ∨ j = 4) ∧ Hid (R = uGo n x ((es.drop (k + j)).take (n - j))) ∧ w' = wr)
        case atStart => exact ⟨b, 1, rfl, rfl, rfl, rfl, by omega, by omega, rfl, hrng.1, by omega, HS, rfl⟩
        case round =>
          obtain ⟨x, j, rfl, rfl, rfl, rfl, hj1, hj2, hg, hx0, hxx, HJ, hw⟩ := hrel
          subst hw
          by_cases hjn : j < n
          · have q1 : (j : Int) < (n : Int) := by omega
            have hps2 : k + j < s.size := by omega
            have hx2 := Hix.out (k + j) hps2
            have hkj : k + j < es.length := by rw [HL.out]; omega
            have hc2 := HB.out (k + j) hkj
            have HJ2 := hide (uGo_step (R := R) (n := n) (x := x) (p := k + j) (m := n - (j + 1)) (by rw [show n - (j + 1) + 1 = n - j by omega]; exact HJ.out) hkj)
            obtain ⟨d, hd⟩ : ∃ d, Nt.lb es (k + j) = d := ⟨_, rfl⟩
            rw [hd] at hx2 hc2 HJ2
            clear hd hkj HJ
            have hxm : x < 131072 := by omega
            go_wp2
            · rename_i _ hq
              go_ret3
              have e : R = (0, 0) := by rw [HJ2.out, uCont_not hq]; rfl
              rw [e]; exact ⟨rfl, rfl⟩
            · rename_i _ hq
              obtain ⟨q2, q3⟩ := uCont_div hq
              go_roundg (n - (j + 1))
              case measure => omega
              case rel => exact ⟨x * 64 + d % 64, j + 1, rfl, rfl, rfl, by simp, by omega, by omega, rfl, by omega, by omega, hide (by rw [HJ2.out, if_pos q2, q3]; rfl), rfl⟩
          · have q1 : ¬ (j : Int) < (n : Int) := by omega
            have HF := hide (show R = if uSz x = n then (x, n) else (0, 0) by rw [HJ.out, show n - j = 0 by omega]; rfl)
            clear HJ
            by_cases hz : uSz x = n
            · have q5 : ((uSz x : Int) != (n : Int)) = false := by rw [hz]; simp
              go_wp2_with (go_at_call 140; refine usize_any.mono ?_; rintro e w' ⟨rfl, rfl⟩)
              go_ret3
              have e : R = (x, n) := by rw [HF.out, if_pos hz]
              rw [e]; exact ⟨ret_three rfl rfl (by simpa using hn), rfl⟩
            · have q5 : ((uSz x : Int) != (n : Int)) = true := by simp; omega
              go_wp2_with (go_at_call 140; refine usize_any.mono ?_; rintro e w' ⟨rfl, rfl⟩)
              go_ret3
              have e : R = (0, 0) := by rw [HF.out, if_neg hz]
              rw [e]; exact ⟨rfl, rfl⟩
      · have f4 : decide ((L : Int) - (k : Int) < (n : Int)) = true := decide_eq_true (by omega)
        go_enter Tryz.func167, Tryz.ntmps167
        go_wp2_with (first | (go_at_call 189; refine (lead_any hc.1 hc.2).mono ?_; rintro e w' ⟨rfl, rfl⟩; rw [hlead]))
        go_ret3
        have e : R = (0, 0) := by rw [← HR.out, HD.out, hlead, HL.out, if_neg hn, if_pos (by simp only; omega)]
        rw [e]; exact ⟨rfl, rfl⟩
  · have e : uFst es at_ = (0, 0) := by unfold uFst; rw [if_neg hin]
    rw [e]
    by_cases f1 : at_ < 0
    · go_enter Tryz.func167, Tryz.ntmps167
      go_wp2
      go_ret3
      exact ⟨rfl, rfl⟩
    · have f2 : (s.size : Int) ≤ at_ := by omega
      clear hs Hix HB hb hsz hin e
      go_enter Tryz.func167, Tryz.ntmps167
      go_wp2
      go_ret3
      exact ⟨rfl, rfl⟩
end Go.Proofs.YticmlelalbaalaaGreatDoor
