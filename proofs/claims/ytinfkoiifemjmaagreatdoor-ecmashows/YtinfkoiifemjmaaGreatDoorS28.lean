/- SDw, STd -/
import Derived.Test.YtinfkoiifemjmaaGreatDoorS24
import Derived.Test.YtinfkoiifemjmaaGreatDoorS07
import Derived.Test.YtinfkoiifemjmaaGreatDoorS02
import Derived.Deep.RegionHeld3
import Derived.Test.YtinfkoiifemjmaaGreatDoorS11
import Derived.Test.YtinfkoiifemjmaaGreatDoorS03
import Derived.Deep.Cut
import Derived.Laws.BytesArg
import Derived.Deep.LoopGhost
import Derived.Test.YtinfkoiifemjmaaGreatDoorS04
import Derived.Deep.RegionWith
import Derived.Test.YtinfkoiifemjmaaGreatDoorS27
import Derived.Test.YtinfkoiifemjmaaGreatDoorS10
namespace Go.Proofs.YtinfkoiifemjmaaGreatDoor
open Go.RowKit
set_option linter.unusedVariables false

set_option maxRecDepth 100000 in
set_option maxHeartbeats 4000000 in
theorem nextDigit_any {w : World} {g : Nat} {v3 : Value} {N B A O : Int} {e : Bool} (h : Rc w g v3 N B A O e) (N0 : 0 ≤ N) (N1 : N < O) (hB : B ≤ O) (hA : A ≤ O) (hO : 10 * O < Nt.pw 100) :
    Calls Tryz.prog 76 #[.pointer (some ⟨g, 0, none⟩)] w fun r w' => r = .returned (.int .u8 (10 * N / O)) ∧ Rf w.heap.size w' g v3 (10 * N % O) (10 * B) (10 * A) e ∧ Only g w w' := by
  have d0 : 0 ≤ 10 * N / O := Int.ediv_nonneg (by omega) (by omega)
  have d9 : 10 * N / O ≤ 9 := by
    have : 10 * N / O < 10 := by rw [Int.ediv_lt_iff_lt_mul (by omega)]; omega
    omega
  have h3 : ArgA g w v3 O 100 := by obtain ⟨_, _, _, _, _, _, _, a⟩ := h; exact a
  have hg : g < w.heap.size := by obtain ⟨_, _, _, R, _⟩ := h; exact R.lt
  go_enter Tryz.func76, Tryz.ntmps76
  go_wp2_with fail
  refine (from_any 10 (by omega) (by omega)).mono ?_
  rintro r w1 ⟨vt, rfl, ht, hb1⟩
  go_wp2_with fail
  refine (rtimes_any (h.keeps hb1) (ht.mono (by omega)).arg (by omega) (by omega) (by omega)).mono ?_
  rintro r w2 ⟨rfl, h2, o2⟩
  have O2 := (below_only hb1).trans o2
  have a3 := h3.only O2
  replace h2 := h2.since hb1.size
  clear h ht hb1 o2 h3
  rw [Int.mul_comm N, Int.mul_comm B, Int.mul_comm A] at h2
  obtain ⟨v0, v1, v2, R, a0, a1, a2⟩ := h2
  have lt := R.lt
  go_upto_region 2 with fail
  have K : Below w2.heap.size w2 w2.drew := (Below.refl _ _).drew
  go_region_held3 (fun w' => w'.cell? ⟨g, 0, none⟩ = some v0 ∧ w'.cell? ⟨g, 3, none⟩ = some v3)
    (first
      | with_reducible exact ⟨(R.keeps K).c0, (R.keeps K).c3⟩
      | go_keep)
    (first
      | (go_at_call 116; (with_reducible refine (div_any (a0.arg.below K) (a3.arg.below K) (by omega) (by omega) (by omega)).mono ?_); rintro r w3 ⟨q, s, rfl, hq, hs, hb⟩; obtain ⟨sa, sl, sc, rfl⟩ := hs.slice; replace hs := hs.since (Nat.le_trans O2.size K.size); replace K := below_trans K hb; clear hb))
  all_goals (
    replace R := R.keeps K
    have c0 := R.c0
    have fz := R.frozen
    go_wp2_with fail
    have o3 : Only g w3 (w3.setCell ⟨g, 0, none⟩ (.slice sa sl sc)) := (Only.refl g w3).set 0 _
    have R3 := R.set0 (.slice sa sl sc)
    have hs3 := hs.only o3 hg
    have b1 := (a1.below K).only o3 hg
    have b2 := (a2.below K).only o3 hg
    have hq3 := (hq.away (Nat.lt_of_lt_of_le lt (Nat.le_refl _))).only o3
    have O3 := (O2.trans (below_only K)).trans o3
    clear o3 hs a1 a2 hq
    generalize w3.setCell ⟨g, 0, none⟩ (.slice sa sl sc) = w4 at *
    refine (uint_yes hq3.arg (by omega)).mono ?_
    rintro r w5 ⟨rfl, rfl⟩
    generalize hd : 10 * N / O = d at *
    have Hd := hide hd
    clear hd
    go_wp2
    go_ret
    refine ⟨?_, ?_⟩
    · rw [Hd.out]; rfl
    · exact ⟨⟨_, v1, v2, R3, hs3, b1, b2⟩, O3⟩)

end Go.Proofs.YtinfkoiifemjmaaGreatDoor

namespace Go.Proofs.YtinfkoiifemjmaaGreatDoor
open Go.RowKit
set_option linter.unusedVariables false

theorem sgn_cases (x y : Int) : (sgn x y = -1 ∧ x < y) ∨ (sgn x y = 0 ∧ x = y) ∨ (sgn x y = 1 ∧ y < x) := by
  unfold sgn
  rcases Int.lt_trichotomy x y with h | h | h
  · left; rw [if_pos h]; exact ⟨rfl, h⟩
  · right; left; rw [if_neg (by omega)]; exact ⟨by first | rw [if_neg (by omega)] | rw [if_pos h], h⟩
  · right; right; rw [if_neg (by omega)]; exact ⟨by first | rw [if_pos h] | rw [if_neg (by omega)], h⟩

set_option maxHeartbeats 4000000 in
theorem holdsDown_any {w : World} {g : Nat} {v3 : Value} {N B A O : Int} {e : Bool} (h : Rc w g v3 N B A O e) :
    Calls Tryz.prog 77 #[.pointer (some ⟨g, 0, none⟩)] w fun r w' => r = .returned (.bool (decide (N < B ∨ (N = B ∧ e = true)))) ∧ Below w.heap.size w w' := by
  obtain ⟨v0, v1, v2, R, a0, a1, a2, a3⟩ := h
  have sg := hide (sgn_cases N B)
  go_enter Tryz.func77, Tryz.ntmps77
  go_upto_region 1 with fail
  have K : Below w.heap.size w w.drew := (Below.refl _ _).drew
  go_region_held3 (fun w' => w'.cell? ⟨g, 0, none⟩ = some v0 ∧ w'.cell? ⟨g, 1, none⟩ = some v1)
    (first
      | with_reducible exact ⟨(R.keeps K).c0, (R.keeps K).c1⟩
      | go_keep)
    (first
      | (go_at_call 75; (with_reducible refine (cmp_any (a0.arg.below K) (a1.arg.below K) (by omega) (by omega)).mono ?_); rintro r w2 ⟨rfl, hb⟩; replace K := below_trans K hb; clear hb))
  all_goals (
    have c4 := (R.keeps K).c4
    generalize sgn N B = z at *
    obtain ⟨rfl, l⟩ | ⟨rfl, l⟩ | ⟨rfl, l⟩ := sg.out
    · clear sg; go_wp2; go_ret; exact ⟨by rw [decide_eq_true (Or.inl l)]; rfl, K⟩
    · clear sg; go_wp2; go_ret
      refine ⟨?_, K⟩
      cases e <;> simp [l]
    · clear sg; go_wp2; go_ret
      refine ⟨?_, K⟩
      rw [decide_eq_false (by omega)]; rfl)

set_option maxHeartbeats 4000000 in
theorem holdsUp_any {w : World} {g : Nat} {v3 : Value} {N B A O : Int} {e : Bool} (h : Rc w g v3 N B A O e) :
    Calls Tryz.prog 78 #[.pointer (some ⟨g, 0, none⟩)] w fun r w' => r = .returned (.bool (decide (O < N + A ∨ (N + A = O ∧ e = true)))) ∧ Below w.heap.size w w' := by
  obtain ⟨v0, v1, v2, R, a0, a1, a2, a3⟩ := h
  have sg := hide (sgn_cases (N + A) O)
  go_enter Tryz.func78, Tryz.ntmps78
  go_upto_region 1 with fail
  have K : Below w.heap.size w w.drew := (Below.refl _ _).drew
  go_region_held3 (fun w' => w'.cell? ⟨g, 0, none⟩ = some v0 ∧ w'.cell? ⟨g, 2, none⟩ = some v2 ∧ w'.cell? ⟨g, 3, none⟩ = some v3)
    (first
      | with_reducible exact ⟨(R.keeps K).c0, (R.keeps K).c2, (R.keeps K).c3⟩
      | go_keep)
    (first
      | (go_at_call 118; (with_reducible refine (add_any (a0.arg.below K) (a2.arg.below K) (by omega) (by omega)).mono ?_); rintro r w2 ⟨v, rfl, hv, hb⟩; replace K := below_trans K hb; clear hb)
      | (go_at_call 75; (with_reducible refine (cmp_any hv.arg (a3.arg.below K) (by omega) (by omega)).mono ?_); rintro r w3 ⟨rfl, hb⟩; replace K := below_trans K hb; clear hb))
  all_goals (
    have c4 := (R.keeps K).c4
    generalize sgn (N + A) O = z at *
    obtain ⟨rfl, l⟩ | ⟨rfl, l⟩ | ⟨rfl, l⟩ := sg.out
    · clear sg; go_wp2; go_ret
      refine ⟨?_, K⟩
      rw [decide_eq_false (by omega)]; rfl
    · clear sg; go_wp2; go_ret
      refine ⟨?_, K⟩
      cases e <;> simp [l]
    · clear sg; go_wp2; go_ret; exact ⟨by rw [decide_eq_true (Or.inl l)]; rfl, K⟩)

set_option maxHeartbeats 4000000 in
theorem isUpCloser_any {w : World} {g : Nat} {v3 : Value} {N B A O d : Int} {e : Bool} (h : Rc w g v3 N B A O e) (d0 : 0 ≤ d) (d1 : d ≤ 9) :
    Calls Tryz.prog 79 #[.pointer (some ⟨g, 0, none⟩), .int .u8 d] w fun r w' => r = .returned (.bool (decide (O < N + N ∨ (N + N = O ∧ d % 2 = 1)))) ∧ Below w.heap.size w w' := by
  obtain ⟨v0, v1, v2, R, a0, a1, a2, a3⟩ := h
  have sg := hide (sgn_cases (N + N) O)
  go_enter Tryz.func79, Tryz.ntmps79
  go_upto_region 1 with fail
  have K : Below w.heap.size w w.drew := (Below.refl _ _).drew
  go_region_held3 (fun w' => w'.cell? ⟨g, 0, none⟩ = some v0 ∧ w'.cell? ⟨g, 3, none⟩ = some v3)
    (first
      | with_reducible exact ⟨(R.keeps K).c0, (R.keeps K).c3⟩
      | go_keep)
    (first
      | (go_at_call 118; (with_reducible refine (add_any (a0.arg.below K) (a0.arg.below K) (by omega) (by omega)).mono ?_); rintro r w2 ⟨v, rfl, hv, hb⟩; replace K := below_trans K hb; clear hb)
      | (go_at_call 75; (with_reducible refine (cmp_any hv.arg (a3.arg.below K) (by omega) (by omega)).mono ?_); rintro r w3 ⟨rfl, hb⟩; replace K := below_trans K hb; clear hb))
  all_goals (
    generalize sgn (N + N) O = z at *
    obtain ⟨rfl, l⟩ | ⟨rfl, l⟩ | ⟨rfl, l⟩ := sg.out
    · clear sg; go_wp2; go_ret
      refine ⟨?_, K⟩
      rw [decide_eq_false (by omega)]; rfl
    · clear sg
      by_cases q : d % 2 = 1
      · have q1 : (d % 2 == 1) = true := by simp [q]
        go_wp2; go_ret
        refine ⟨?_, K⟩
        rw [decide_eq_true (Or.inr ⟨l, q⟩)]; rfl
      · have q1 : (d % 2 == 1) = false := by simp [q]
        go_wp2; go_ret
        refine ⟨?_, K⟩
        rw [decide_eq_false (by omega)]; rfl
    · clear sg; go_wp2; go_ret; exact ⟨by rw [decide_eq_true (Or.inl l)]; rfl, K⟩)

end Go.Proofs.YtinfkoiifemjmaaGreatDoor

namespace Go.Proofs.YtinfkoiifemjmaaGreatDoor
open Go.RowKit
set_option linter.unusedVariables false

theorem Tryz.infoU8s : (Tryz.prog.info? 5).map (fun i => (i.zero, i.size, i.bytes)) = some (some (.int .u8 0), 1, 1) := by kernel_rfl
theorem bel_sf (w : World) (o : Obj) : Below w.heap.size w (w.alloc o) := (Below.refl _ _).alloc (Nat.le_refl _) _
theorem Only.grown {g : Nat} {a w w' : World} {row : Option Nat} (h : Only g a w) (hg : w.grownBy w' row) (hr : ∀ k, row = some k → a.heap.size ≤ k) : Only g a w' :=
  ⟨hg.os.trans h.os, hg.tape.trans h.tape, hg.output.trans h.output, Nat.le_trans h.size hg.size, fun k hk hn => (hg.block k (Nat.lt_of_lt_of_le hk h.size) (fun e => by have := hr k e.symm; omega)).trans (h.block k hk hn)⟩
theorem Num.grown {C : Nat} {w w' : World} {v : Value} {n : Int} {k : Nat} {row : Option Nat} (h : Num C w v n k) (hg : w.grownBy w' row) (hr : ∀ k, row = some k → k < C) : Num C w' v n k := by
  obtain ⟨zs, ⟨ao, h1, h2, h3⟩, h4⟩ := h
  refine ⟨zs, ⟨ao, h1, h2, fun hp => ?_⟩, h4⟩
  obtain ⟨b, rest, e1, e2, e3⟩ := h3 hp
  refine ⟨b, rest, e1, e2, ?_⟩
  unfold Row
  rw [hg.block b e3.lt (fun e => by have := hr b e.symm; omega)]
  exact e3
theorem Rf.grown {C : Nat} {w w' : World} {g : Nat} {v3 : Value} {N B A : Int} {e : Bool} {row : Option Nat} (h : Rf C w g v3 N B A e) (hg : w.grownBy w' row) (hr : ∀ k, row = some k → g < k ∧ k < C) : Rf C w' g v3 N B A e := by
  obtain ⟨v0, v1, v2, h0, a0, a1, a2⟩ := h
  refine ⟨v0, v1, v2, ?_, a0.grown hg (fun k e => (hr k e).2), a1.grown hg (fun k e => (hr k e).2), a2.grown hg (fun k e => (hr k e).2)⟩
  unfold Rch
  rw [hg.block g h0.lt (fun e => by have := hr g e.symm; omega)]
  exact h0
/-- an own row of bytes, told as a text -/
theorem own_text {w : World} {base n : Nat} {v : Value} {zs : List Int} (h : w.ownsRow base 5 1 v n (zs.map (Value.int .u8))) (hn : 0 < n) :
    ∃ b cap, v = .slice (some ⟨b, 0, none⟩) n cap ∧ (convert 35 9 (.slice (some ⟨b, 0, none⟩) n cap)).run Tryz.prog w = .ok (.string (strOfNums zs)) w := by
  obtain ⟨ao, cap, h1, h2, h3, h4⟩ := reads_of_owns h
  have hl : zs.length = n := by have := h.1; simpa using this
  rcases h.2 with ⟨rfl, h0⟩ | ⟨g, cap', cur, rfl, _⟩
  · omega
  · refine ⟨g, cap', rfl, ?_⟩
    refine run_convert_bytes_arg w 35 5 Tryz.underlying35 Tryz.underlying5 g 0 n cap' zs hl ?_ 9 Tryz.underlying9
    intro i hi
    obtain ⟨b, off, e1, _, e3⟩ := h4 (by omega)
    injection h1 with e0
    rw [e1] at e0
    injection e0 with e0
    injection e0 with e0 e0'
    subst e0 e0'
    rw [e3 i (by omega)]; simp [Nt.lb]

end Go.Proofs.YtinfkoiifemjmaaGreatDoor

namespace Go.Proofs.YtinfkoiifemjmaaGreatDoor
open Go.RowKit
set_option linter.unusedVariables false

theorem txt_nine : txt 1 10 = [49] := by unfold txt; rw [if_pos (by rfl)]
theorem dec_nine : decide ((10 : Int) = 10 ^ 1) = true := by decide
/-- the last digit, and the text -/
theorem few_last {V Lo Hi G p O n b a d n' c : Int} {e down up closer : Bool} {i : Nat} (m : Mk V Lo Hi G p O e) (h : Rd V Lo Hi G p O e i n b a) (r : Rn V Lo Hi G p O e i n b a d n' down up closer) (s : Sh V Lo Hi (e = true) G p (i + 1) c) {x : Int}
    (hx : (c = V / TT G (p - (i + 1 : Nat)) + 1 ∧ d ≠ 9 ∧ x = 48 + d + 1) ∨ (c = V / TT G (p - (i + 1 : Nat)) ∧ x = 48 + d)) :
    txt (i + 1) c = dl i (V / TT G (p - i)) ++ [x] ∧ decide (c = 10 ^ (i + 1)) = false := by
  have hp := m.hp
  have i16 := h.i16
  have C := r.C
  have d0 := r.d0
  have d9 := r.d9
  obtain ⟨_, r1⟩ := s.range m.hG (by omega)
  have hpw : (10 : Int) ^ (i + 1) = 10 * 10 ^ i := by rw [Int.pow_succ, Int.mul_comm]
  have ne : ¬ c = 10 ^ (i + 1) := by
    rcases hx with ⟨h1, h2, _⟩ | ⟨h1, _⟩ <;> omega
  refine ⟨?_, decide_eq_false ne⟩
  unfold txt
  rw [if_neg ne]
  rcases hx with ⟨h1, h2, h3⟩ | ⟨h1, h3⟩
  · rw [h1, C, show 10 * (V / TT G (p - i)) + d + 1 = 10 * (V / TT G (p - i)) + (d + 1) by omega, dl_snoc _ _ _ (by omega) (by omega), h3, Int.add_assoc]
  · rw [h1, C, dl_snoc _ _ _ (by omega) (by omega), h3]

theorem own_only {g base n : Nat} {w w' : World} {E : TypeId} {v : Value} {xs : List Value} (h : w.ownsRow base E 1 v n xs) (ho : Only g w w') (hg : g < base) : w'.ownsRow base E 1 v n xs := by
  refine ⟨h.1, ?_⟩
  rcases h.2 with k | ⟨b, cap, cur, h1, h2, h3, h4⟩
  · exact Or.inl k
  · exact Or.inr ⟨b, cap, cur, h1, h2, by rw [ho.block b (Array.getElem?_eq_some_iff.1 h3).1 (by omega)]; exact h3, h4⟩

set_option maxRecDepth 100000 in
set_option maxHeartbeats 8000000 in
theorem fewest_any {w : World} {g : Nat} {v3 : Value} {V Lo Hi G p O N B A : Int} {e : Bool} (h : Rc w g v3 N B A O e) (m : Mk V Lo Hi G p O e) (r0 : Rd V Lo Hi G p O e 0 N B A) (N0 : 0 ≤ N) (N1 : N < O) :
    Calls Tryz.prog 47 #[.pointer (some ⟨g, 0, none⟩)] w fun r w' => ∃ k c, Sh V Lo Hi (e = true) G p k c ∧ k ≤ 17 ∧ r = .returned (.tuple #[.string (strOfNums (txt k c)), .bool (decide (c = 10 ^ k))]) ∧ Only g w w' := by
  have h3 : ArgA g w v3 O 100 := by obtain ⟨_, _, _, _, _, _, _, a⟩ := h; exact a
  have hg : g < w.heap.size := by obtain ⟨_, _, _, R, _⟩ := h; exact R.lt
  have M := hide m
  have H3 := hide h3
  clear m h3
  go_enter Tryz.func47, Tryz.ntmps47
  go_wp2
  go_step3
  go_wp2
  go_step3
  go_wp2
  go_loopg [4] 16 (fun c sv wr => ∃ (i : Nat) (n b a : Int), c = 16 - i ∧ Rd V Lo Hi G p O e i n b a ∧ 0 ≤ n ∧ n < O ∧ Rc wr g v3 n b a O e ∧ wr.ownsRow w.heap.size 5 1 sv i ((dl i (V / TT G (p - i))).map (Value.int .u8)) ∧ Only g w wr)
  case atStart => exact ⟨0, N, B, A, rfl, r0, N0, N1, h, by simpa [dl] using World.ownsRow_nil w w.heap.size 5 1, Only.refl g w⟩
  case round =>
    clear r0 N0 N1 h
    obtain ⟨i, n, b, a, hgk, rd, n0, n1, rc, hown, oo⟩ := hrel
    have RN := rd.round M.out
    have d0 := RN.d0
    have d9 := RN.d9
    have i16 := rd.i16
    have Rd_ := hide rd
    have hltr : ∀ k, u4.ownBlock = some k → k < wr.heap.size := fun k hk => (hown.lt k hk).2
    have b1 := rd.b1
    have a1 := rd.a1
    go_wp2_with fail
    refine (nextDigit_any rc n0 n1 b1 a1 M.out.h10).mono ?_
    rintro r w1 ⟨rfl, hf, o1⟩
    have hsz : w.heap.size ≤ wr.heap.size := oo.size
    have oo1 := oo.trans o1
    have rc1 := hf.rc (Nat.lt_of_lt_of_le hg hsz) (H3.out.only oo1)
    obtain ⟨d, hd⟩ : ∃ d, 10 * n / O = d := ⟨_, rfl⟩
    obtain ⟨n', hn'⟩ : ∃ x, 10 * n % O = x := ⟨_, rfl⟩
    rw [hd] at d0 d9
    simp only [hd, hn'] at RN rc1 hf
    -- the rounds
    have RX := hide RN
    clear RN
    go_wp2_with fail
    refine (holdsDown_any rc1).mono ?_
    rintro r w2 ⟨rfl, kb⟩
    have RN := RX.out
    clear RX
    generalize hdw : decide (n' < 10 * b ∨ n' = 10 * b ∧ e = true) = dw at *
    clear hdw
    have RX := hide RN
    clear RN
    go_wp2_with fail
    refine (holdsUp_any (rc1.keeps kb)).mono ?_
    rintro r w3 ⟨rfl, kc⟩
    have RN := RX.out
    clear RX
    generalize hup : decide (O < n' + 10 * a ∨ n' + 10 * a = O ∧ e = true) = up at *
    clear hup
    have kd := below_trans kb kc
    replace hf := hf.below kd
    have rc3 := rc1.keeps kd
    replace hown := own_only hown (o1.trans (below_only kd)) hg
    have hlt := hown.lt
    have oo3 := oo1.trans (below_only kd)
    have hlr : ∀ k, u4.ownBlock = some k → k < wr.heap.size := hltr
    clear oo hltr
    have oo := oo3
    have hs3 : w.heap.size ≤ w3.heap.size := oo.size
    clear kb kc kd rc1 oo1 oo3 o1 rd rc hd hn' b1 a1 n0 n1
    have RN_ := hide RN
    clear RN
    have q1 : IntKind.u8.wrap (48 + d) = 48 + d := by rw [IntKind.wrap_u8]; omega
    cases up with
    | false =>
      cases dw with
      | false =>
        go_wp2_with (at_builtin; refine wpList_append_cells _ rfl _ _ 35 rfl w.heap.size 5 .u8 1 Tryz.underlying35 Tryz.infoU8s _ i (dl i (V / TT G (p - i))) rfl (hown.alloc _) (some ⟨w3.heap.size, 0, none⟩) 1 [48 + d] rfl (cells_one _ _ _ _) (by unfold maxLen; simp; omega) (by simp; omega) (by simp; omega) ?_)
        intro v' w5 hown' hgrow
        have oo5 : Only g w w5 := (oo.trans (below_only (bel_sf w3 _))).grown hgrow (fun k hk => (hown.lt k hk).1)
        obtain ⟨rd', i15, n0', n1'⟩ := RN_.out.next rfl rfl
        have hf5 := (hf.below (bel_sf w3 _)).grown hgrow (fun k hk => ⟨Nat.lt_of_lt_of_le hg (hlt k hk).1, hlr k hk⟩)
        have rc5 := hf5.rc (Nat.lt_of_lt_of_le hg hsz) (H3.out.only oo5)
        have hC := RN_.out.C
        have hown5 : w5.ownsRow w.heap.size 5 1 v' (i + 1) ((dl (i + 1) (V / TT G (p - (i + 1 : Nat)))).map (Value.int .u8)) := by
          rw [hC, dl_snoc _ _ _ d0 d9]; simpa using hown'
        have Fin := hide (show Rd V Lo Hi G p O e (i + 1) n' (10 * b) (10 * a) ∧ 0 ≤ n' ∧ n' < O ∧ Rc w5 g v3 n' (10 * b) (10 * a) O e ∧ w5.ownsRow w.heap.size 5 1 v' (i + 1) ((dl (i + 1) (V / TT G (p - (i + 1 : Nat)))).map (Value.int .u8)) ∧ Only g w w5 from ⟨rd', n0', n1', rc5, hown5, oo5⟩)
        clear rd' n0' n1' rc5 hown5 oo5 hown' hgrow hown hf rc3 hf5 hC
        go_wp2
        go_roundg (16 - (i + 1))
        case measure => omega
        case rel => exact ⟨i + 1, n', 10 * b, 10 * a, rfl, Fin.out⟩
      | true =>
        go_wp2_with (at_builtin; refine wpList_append_cells _ rfl _ _ 35 rfl w.heap.size 5 .u8 1 Tryz.underlying35 Tryz.infoU8s _ i (dl i (V / TT G (p - i))) rfl (hown.alloc _) (some ⟨w3.heap.size, 0, none⟩) 1 [48 + d] rfl (cells_one _ _ _ _) (by unfold maxLen; simp; omega) (by simp; omega) (by simp; omega) ?_)
        intro v' w5 hown' hgrow
        have oo5 : Only g w w5 := (oo.trans (below_only (bel_sf w3 _))).grown hgrow (fun k hk => (hown.lt k hk).1)
        have S1 := Rn.sh M.out Rd_.out RN_.out (Or.inr ⟨rfl, rfl, by rintro ⟨k, _⟩; cases k⟩)
        obtain ⟨t1, t2⟩ := few_last M.out Rd_.out RN_.out S1 (x := 48 + d) (Or.inr ⟨rfl, rfl⟩)
        have hown5 : w5.ownsRow w.heap.size 5 1 v' (i + 1) ((dl i (V / TT G (p - i)) ++ [48 + d]).map (Value.int .u8)) := by simpa using hown'
        obtain ⟨bb, cap, rfl, hcv⟩ := own_text hown5 (by omega)
        have Fin := hide (show Sh V Lo Hi (e = true) G p (i + 1) _ ∧ _ ∧ _ ∧ _ from ⟨S1, t1, t2, oo5⟩)
        clear S1 t1 t2 oo5 hown5 hown' hgrow hown hf rc3
        go_wp2
        (try rw [Exit.noGoto_ret])
        go_ret2
        obtain ⟨S1, t1, t2, oo5⟩ := Fin.out
        exact ⟨i + 1, _, S1, by omega, by rw [t1, t2]; rfl, oo5⟩
    | true =>
      cases dw with
      | false =>
        by_cases h9 : d = 9
        · have q9 : (d == 9) = true := by simp [h9]
          obtain ⟨S1, i0⟩ := Rn.nine M.out Rd_.out RN_.out h9 rfl (Or.inl rfl)
          have Fin := hide (show Sh V Lo Hi (e = true) G p 1 10 ∧ Only g w w3 from ⟨S1, oo⟩)
          clear S1 oo hown hf rc3
          go_wp2
          (try rw [Exit.noGoto_ret])
          go_ret2
          obtain ⟨S1, oo5⟩ := Fin.out
          exact ⟨1, 10, S1, by omega, by rw [txt_nine, dec_nine]; rfl, oo5⟩
        · have q9 : (d == 9) = false := by simp [h9]
          have q2 : IntKind.u8.wrap (48 + d + 1) = 48 + d + 1 := by rw [IntKind.wrap_u8]; omega
          go_wp2_with (at_builtin; refine wpList_append_cells _ rfl _ _ 35 rfl w.heap.size 5 .u8 1 Tryz.underlying35 Tryz.infoU8s _ i (dl i (V / TT G (p - i))) rfl (hown.alloc _) (some ⟨w3.heap.size, 0, none⟩) 1 [48 + d + 1] rfl (cells_one _ _ _ _) (by unfold maxLen; simp; omega) (by simp; omega) (by simp; omega) ?_)
          intro v' w5 hown' hgrow
          have oo5 : Only g w w5 := (oo.trans (below_only (bel_sf w3 _))).grown hgrow (fun k hk => (hown.lt k hk).1)
          have S1 := Rn.sh M.out Rd_.out RN_.out (Or.inl ⟨rfl, rfl, Or.inl rfl⟩)
          obtain ⟨t1, t2⟩ := few_last M.out Rd_.out RN_.out S1 (x := 48 + d + 1) (Or.inl ⟨rfl, h9, rfl⟩)
          have hown5 : w5.ownsRow w.heap.size 5 1 v' (i + 1) ((dl i (V / TT G (p - i)) ++ [48 + d + 1]).map (Value.int .u8)) := by simpa using hown'
          obtain ⟨bb, cap, rfl, hcv⟩ := own_text hown5 (by omega)
          have Fin := hide (show Sh V Lo Hi (e = true) G p (i + 1) _ ∧ _ ∧ _ ∧ _ from ⟨S1, t1, t2, oo5⟩)
          clear S1 t1 t2 oo5 hown5 hown' hgrow hown hf rc3
          go_wp2
          (try rw [Exit.noGoto_ret])
          go_ret2
          obtain ⟨S1, t1, t2, oo5⟩ := Fin.out
          exact ⟨i + 1, _, S1, by omega, by rw [t1, t2]; rfl, oo5⟩
      | true =>
        go_wp2_with fail
        refine (isUpCloser_any rc3 d0 d9).mono ?_
        rintro r w4 ⟨rfl, kb⟩
        replace hf := hf.below kb
        replace oo := oo.trans (below_only kb)
        replace hown := own_only hown (below_only kb) hg
        have hs4 : w.heap.size ≤ w4.heap.size := oo.size
        have RN := RN_.out
        clear RN_ kb
        generalize hcl : decide (O < n' + n' ∨ n' + n' = O ∧ d % 2 = 1) = cl at *
        have RN_ := hide RN
        clear RN hcl
        cases cl with
        | false =>
          go_wp2_with (at_builtin; refine wpList_append_cells _ rfl _ _ 35 rfl w.heap.size 5 .u8 1 Tryz.underlying35 Tryz.infoU8s _ i (dl i (V / TT G (p - i))) rfl (hown.alloc _) (some ⟨w4.heap.size, 0, none⟩) 1 [48 + d] rfl (cells_one _ _ _ _) (by unfold maxLen; simp; omega) (by simp; omega) (by simp; omega) ?_)
          intro v' w5 hown' hgrow
          have oo5 : Only g w w5 := (oo.trans (below_only (bel_sf w4 _))).grown hgrow (fun k hk => (hown.lt k hk).1)
          have S1 := Rn.sh M.out Rd_.out RN_.out (Or.inr ⟨rfl, rfl, by rintro ⟨_, k⟩; cases k⟩)
          obtain ⟨t1, t2⟩ := few_last M.out Rd_.out RN_.out S1 (x := 48 + d) (Or.inr ⟨rfl, rfl⟩)
          have hown5 : w5.ownsRow w.heap.size 5 1 v' (i + 1) ((dl i (V / TT G (p - i)) ++ [48 + d]).map (Value.int .u8)) := by simpa using hown'
          obtain ⟨bb, cap, rfl, hcv⟩ := own_text hown5 (by omega)
          have Fin := hide (show Sh V Lo Hi (e = true) G p (i + 1) _ ∧ _ ∧ _ ∧ _ from ⟨S1, t1, t2, oo5⟩)
          clear S1 t1 t2 oo5 hown5 hown' hgrow hown hf rc3
          go_wp2
          (try rw [Exit.noGoto_ret])
          go_ret2
          obtain ⟨S1, t1, t2, oo5⟩ := Fin.out
          exact ⟨i + 1, _, S1, by omega, by rw [t1, t2]; rfl, oo5⟩
        | true =>
          by_cases h9 : d = 9
          · have q9 : (d == 9) = true := by simp [h9]
            obtain ⟨S1, i0⟩ := Rn.nine M.out Rd_.out RN_.out h9 rfl (Or.inr rfl)
            have Fin := hide (show Sh V Lo Hi (e = true) G p 1 10 ∧ Only g w w4 from ⟨S1, oo⟩)
            clear S1 oo hown hf rc3
            go_wp2
            (try rw [Exit.noGoto_ret])
            go_ret2
            obtain ⟨S1, oo5⟩ := Fin.out
            exact ⟨1, 10, S1, by omega, by rw [txt_nine, dec_nine]; rfl, oo5⟩
          · have q9 : (d == 9) = false := by simp [h9]
            have q2 : IntKind.u8.wrap (48 + d + 1) = 48 + d + 1 := by rw [IntKind.wrap_u8]; omega
            go_wp2_with (at_builtin; refine wpList_append_cells _ rfl _ _ 35 rfl w.heap.size 5 .u8 1 Tryz.underlying35 Tryz.infoU8s _ i (dl i (V / TT G (p - i))) rfl (hown.alloc _) (some ⟨w4.heap.size, 0, none⟩) 1 [48 + d + 1] rfl (cells_one _ _ _ _) (by unfold maxLen; simp; omega) (by simp; omega) (by simp; omega) ?_)
            intro v' w5 hown' hgrow
            have oo5 : Only g w w5 := (oo.trans (below_only (bel_sf w4 _))).grown hgrow (fun k hk => (hown.lt k hk).1)
            have S1 := Rn.sh M.out Rd_.out RN_.out (Or.inl ⟨rfl, rfl, Or.inr rfl⟩)
            obtain ⟨t1, t2⟩ := few_last M.out Rd_.out RN_.out S1 (x := 48 + d + 1) (Or.inl ⟨rfl, h9, rfl⟩)
            have hown5 : w5.ownsRow w.heap.size 5 1 v' (i + 1) ((dl i (V / TT G (p - i)) ++ [48 + d + 1]).map (Value.int .u8)) := by simpa using hown'
            obtain ⟨bb, cap, rfl, hcv⟩ := own_text hown5 (by omega)
            have Fin := hide (show Sh V Lo Hi (e = true) G p (i + 1) _ ∧ _ ∧ _ ∧ _ from ⟨S1, t1, t2, oo5⟩)
            clear S1 t1 t2 oo5 hown5 hown' hgrow hown hf rc3
            go_wp2
            (try rw [Exit.noGoto_ret])
            go_ret2
            obtain ⟨S1, t1, t2, oo5⟩ := Fin.out
            exact ⟨i + 1, _, S1, by omega, by rw [t1, t2]; rfl, oo5⟩

end Go.Proofs.YtinfkoiifemjmaaGreatDoor

namespace Go.Proofs.YtinfkoiifemjmaaGreatDoor
open Go.RowKit
set_option linter.unusedVariables false

/-- one more in the point: what is at hand -/
structure Sgp (w2 wd : World) (g : Nat) (v0 v1 v2 v3 : Value) (N B A O : Int) (e : Bool) : Prop where
  R : Rch w2 g v0 v1 v2 v3 e
  a0 : ArgA g w2 v0 N 100
  a1 : ArgA g w2 v1 B 100
  a2 : ArgA g w2 v2 A 100
  a3 : ArgA g w2 v3 O 100
  K : Below w2.heap.size w2 wd
structure Sgp1 (w2 wd : World) (g : Nat) (v0 v1 v2 v3 u : Value) (N B A O : Int) (e : Bool) : Prop where
  s : Sgp w2 wd g v0 v1 v2 v3 N B A O e
  hu : Num w2.heap.size wd u 10 2
structure Sgp2 (w2 wd : World) (g : Nat) (v0 v1 v2 v3 x : Value) (N B A O : Int) (e : Bool) : Prop where
  s : Sgp w2 wd g v0 v1 v2 v3 N B A O e
  hx : Num w2.heap.size wd x (O * 10) 100
theorem Sgp.from_ {w2 wd : World} {g : Nat} {v0 v1 v2 v3 : Value} {N B A O : Int} {e : Bool} (h : Sgp w2 wd g v0 v1 v2 v3 N B A O e) :
    Calls Tryz.prog 69 #[.int .u64 10] wd fun r w3 => ∃ u, r = .returned u ∧ w3.cell? ⟨g, 3, none⟩ = some v3 ∧ (∀ i, w3.frozen? ⟨g, i, none⟩ = false) ∧ Sgp1 w2 w3 g v0 v1 v2 v3 u N B A O e := by
  refine (from_any 10 (by omega) (by omega)).mono ?_
  rintro r w3 ⟨u, rfl, hu, hb⟩
  have K := below_trans h.K hb
  exact ⟨u, rfl, (h.R.keeps K).c3, (h.R.keeps K).frozen, ⟨h.R, h.a0, h.a1, h.a2, h.a3, K⟩, hu.since h.K.size⟩
theorem Sgp.mul {w2 wd : World} {g : Nat} {v0 v1 v2 v3 u : Value} {N B A O : Int} {e : Bool} (h : Sgp1 w2 wd g v0 v1 v2 v3 u N B A O e) (hs : 10 * O < Nt.pw 100) :
    Calls Tryz.prog 74 #[v3, u] wd fun r w3 => ∃ xa xl xc, r = .returned (.slice xa xl xc) ∧ w3.cell? ⟨g, 3, none⟩ = some v3 ∧ (∀ i, w3.frozen? ⟨g, i, none⟩ = false) ∧ Sgp2 w2 w3 g v0 v1 v2 v3 (.slice xa xl xc) N B A O e := by
  refine (mul_any (h.s.a3.arg.below h.s.K) h.hu.arg (by omega) (by omega)).mono ?_
  rintro r w3 ⟨x, rfl, hx, hb⟩
  obtain ⟨xa, xl, xc, rfl⟩ := hx.slice
  have K := below_trans h.s.K hb
  exact ⟨xa, xl, xc, rfl, (h.s.R.keeps K).c3, (h.s.R.keeps K).frozen, ⟨h.s.R, h.s.a0, h.s.a1, h.s.a2, h.s.a3, K⟩, (hx.fit (by omega)).since h.s.K.size⟩
theorem Sgp2.fin {w2 wd : World} {g : Nat} {v0 v1 v2 v3 x : Value} {N B A O : Int} {e : Bool} (h : Sgp2 w2 wd g v0 v1 v2 v3 x N B A O e) : Rc (wd.setCell ⟨g, 3, none⟩ x) g x N B A (O * 10) e ∧ Only g w2 (wd.setCell ⟨g, 3, none⟩ x) := by
  have o : Only g wd (wd.setCell ⟨g, 3, none⟩ x) := (Only.refl g wd).set 3 x
  have lt := h.s.R.lt
  exact ⟨⟨v0, v1, v2, (h.s.R.keeps h.s.K).set3 x, (h.s.a0.below h.s.K).only o, (h.s.a1.below h.s.K).only o, (h.s.a2.below h.s.K).only o, (h.hx.away lt).only o⟩, (below_only h.s.K).trans o⟩
theorem Rc.put3 {wx wd : World} {g : Nat} {v3 u : Value} {N B A O M : Int} {e : Bool} (h : Rc wx g v3 N B A O e) (hb : Below wx.heap.size wx wd) (hu : Num wx.heap.size wd u M 100) : Rc (wd.setCell ⟨g, 3, none⟩ u) g u N B A M e ∧ Only g wx (wd.setCell ⟨g, 3, none⟩ u) := by
  obtain ⟨v0, v1, v2, R, a0, a1, a2, a3⟩ := h
  have o : Only g wd (wd.setCell ⟨g, 3, none⟩ u) := (Only.refl g wd).set 3 u
  exact ⟨⟨v0, v1, v2, (R.keeps hb).set3 u, (a0.below hb).only o, (a1.below hb).only o, (a2.below hb).only o, (hu.away R.lt).only o⟩, (below_only hb).trans o⟩
theorem len_ten : IsLen 10 4 := by unfold IsLen; decide

set_option maxRecDepth 100000 in
set_option maxHeartbeats 8000000 in
theorem scale_any {w : World} {g : Nat} {v3 : Value} {V Lo Hi G N B A O : Int} {e : Bool} (h : Rc w g v3 N B A O e) (v : Vs V Lo Hi G) (hr : Rel V Lo Hi G 0 N B A O) (hO : 0 < O) (n : N < p2 1200) (o : O < p2 1150) :
    Calls Tryz.prog 46 #[.pointer (some ⟨g, 0, none⟩)] w fun r w' => ∃ (p : Int), r = .returned (.int .i64 p) ∧ ∃ (v3' : Value) (N' B' A' O' : Int), Rc w' g v3' N' B' A' O' e ∧ Sc V Lo Hi G p N' B' A' O' ∧ V < TT G p ∧ Only g w w' := by
  have HV := hide v
  have Hr := hide hr
  have Hn := hide n
  have Ho := hide o
  clear v hr n o
  have RC0 := hide h
  have hg : g < w.heap.size := by obtain ⟨_, _, _, R, _⟩ := h; exact R.lt
  obtain ⟨v0, v1, v2, R, a0, a1, a2, a3⟩ := h
  go_enter Tryz.func46, Tryz.ntmps46
  go_upto_region 1 with fail
  have K : Below w.heap.size w w.drew := (Below.refl _ _).drew
  go_region_held3 (fun w' => w'.cell? ⟨g, 0, none⟩ = some v0 ∧ w'.cell? ⟨g, 3, none⟩ = some v3)
    (first
      | with_reducible exact ⟨(R.keeps K).c0, (R.keeps K).c3⟩
      | go_keep)
    (first
      | (go_at_call 71; (with_reducible refine (len_any (a0.arg.below K) (by omega)).mono ?_); rintro r w2 ⟨k, rfl, hk, kk, rfl⟩)
      | (go_at_call 71; (with_reducible refine (len_any (a3.arg.below K) (by omega)).mono ?_); rintro r w3 ⟨l, rfl, hl, ll, rfl⟩;
          (have z1 : IntKind.i64.wrap ((k : Int) - (l : Int)) = (k : Int) - l := by rw [IntKind.wrap_i64]; omega);
          (obtain ⟨t, ht⟩ : ∃ t, (k : Int) - l - 1 = t := ⟨_, rfl⟩);
          (have z2 : IntKind.i64.wrap ((k : Int) - l - 1) = t := by rw [ht, IntKind.wrap_i64]; omega);
          (have z3 : IntKind.i64.wrap (t * 30103) = t * 30103 := by rw [IntKind.wrap_i64]; omega);
          (obtain ⟨f1, f2, f3, f4⟩ := Sc.first HV.out Hr.out hO Hn.out Ho.out hk hl ht.symm rfl);
          (obtain ⟨q, hq⟩ : ∃ q, (t * 30103).tdiv 100000 - 1 = q := ⟨_, rfl⟩);
          rw [hq] at f1 f2 f3 f4;
          (have z4 : IntKind.i64.wrap ((t * 30103).tdiv 100000) = (t * 30103).tdiv 100000 := by rw [IntKind.wrap_i64]; omega);
          (have z5 : IntKind.i64.wrap ((t * 30103).tdiv 100000 - 1) = q := by rw [hq, IntKind.wrap_i64]; omega);
          (have F3 := hide f3); (have F4 := hide f4); clear f3 f4 ht hq))
  all_goals (
    clear z1 z2 z3 z4 z5 hk hl
    have RC1 := hide (RC0.out.keeps K)
    have O1 := hide ((below_only K : Only g w _))
    clear R a0 a1 a2 a3 K
    generalize hww : w.drew = w1 at *
    clear hww
    have q1 : IntKind.i64.wrap (-q) = -q := by rw [IntKind.wrap_i64]; omega
    by_cases c : q < 0
    · obtain ⟨j, hj⟩ : ∃ j : Nat, -q = j := ⟨(-q).toNat, by omega⟩
      have j1 : (j : Int) ≤ 400 := by omega
      have sc := F3.out c
      rw [hj, Int.toNat_natCast] at sc
      obtain ⟨s1, s2, s3, s4, s5, s6, s7⟩ := sc.small HV.out
      have SC := hide sc
      have S := hide (show N * 10 ^ j < Nt.pw 100 ∧ B * 10 ^ j < Nt.pw 100 ∧ A * 10 ^ j < Nt.pw 100 from ⟨s2, by omega, by omega⟩)
      clear sc s1 s2 s3 s4 s5 s6 s7 F3 F4
      rw [hj] at q1
      go_wp2_with fail
      refine (pow_ok (b := 10) (N := j) (by omega) (by omega) len_ten (by omega) (Or.inr (by omega))).mono ?_
      rintro r w2 ⟨pv, rfl, hp, hb⟩
      have hp' := (hp.fit (j := 100) (by rw [pw_100]; exact ten_small (by omega))).arg
      have RC2 := RC1.out.keeps hb
      have O2 := O1.out.trans (below_only hb)
      clear hp hb RC1 O1
      go_wp2_with fail
      refine (rtimes_any RC2 hp' S.out.1 S.out.2.1 S.out.2.2).mono ?_
      rintro r w3 ⟨rfl, hf, o3⟩
      have OO := O2.trans o3
      have RC := hf.rc (Nat.lt_of_lt_of_le hg O2.size) (by obtain ⟨_, _, _, _, _, _, _, a⟩ := RC2; exact a.only o3)
      clear hf o3 RC2 O2 hp' S
      go_wp2
      go_loopg [3] ((400 - q).toNat) (fun c sp wr => ∃ (p : Int) (v3 : Value) (O' : Int), sp = .int .i64 p ∧ c = (400 - p).toNat ∧ Sc V Lo Hi G p (N * 10 ^ j) (B * 10 ^ j) (A * 10 ^ j) O' ∧ Rc wr g v3 (N * 10 ^ j) (B * 10 ^ j) (A * 10 ^ j) O' e ∧ Only g w wr)
      case atStart => exact ⟨q, v3, O, rfl, rfl, SC.out, RC, OO⟩
      case round =>
        clear RC OO SC
        obtain ⟨p, v3, O', rfl, hgk, sc, rc, oo⟩ := hrel
        obtain ⟨s1, s2, s3, s4, s5, s6, s7⟩ := sc.small HV.out
        have HS := hide s1
        clear s1 s2 s3 s4 s5 s6 s7
        have p0 := sc.p0
        have p1 := sc.p1
        have SC := hide sc
        have RC := hide rc
        obtain ⟨v0, v1, v2, R, a0, a1, a2, a3⟩ := rc
        clear sc
        have pw' : IntKind.i64.wrap (p + 1) = p + 1 := by rw [IntKind.wrap_i64]; omega
        go_upto_region 7 with fail
        have K : Below wr.heap.size wr wr.drew := (Below.refl _ _).drew
        go_region_held3 (fun w' => w'.cell? ⟨g, 0, none⟩ = some v0 ∧ w'.cell? ⟨g, 3, none⟩ = some v3)
          (first
            | with_reducible exact ⟨(R.keeps K).c0, (R.keeps K).c3⟩
            | go_keep)
          (first
            | (go_at_call 75; (with_reducible refine (cmp_any (a0.arg.below K) (a3.arg.below K) (by omega) (by omega)).mono ?_); rintro r w2 ⟨rfl, hb⟩; replace K := below_trans K hb; clear hb))
        all_goals (
          by_cases ge : O' ≤ (N * 10 ^ j)
          · have qg : decide (sgn (N * 10 ^ j) O' ≥ 0) = true := by rcases sgn_cases (N * 10 ^ j) O' with ⟨e1, e2⟩ | ⟨e1, e2⟩ | ⟨e1, e2⟩ <;> rw [e1] <;> first | omega | rfl
            have qg2 : 0 ≤ sgn (N * 10 ^ j) O' := of_decide_eq_true qg
            have nlt : ¬ sgn (N * 10 ^ j) O' < 0 := by omega
            clear qg
            generalize sgn (N * 10 ^ j) O' = z at *
            obtain ⟨sc', plt⟩ := SC.out.step HV.out ge
            have SC' := hide sc'
            clear sc' SC
            have R2 := R.keeps K
            have c3 := R2.c3
            have fz := R2.frozen
            go_upto_region 8 with fail
            have P := hide (show Sgp w2 w2.drew g v0 v1 v2 v3 (N * 10 ^ j) (B * 10 ^ j) (A * 10 ^ j) O' e from ⟨R2, a0.below K, a1.below K, a2.below K, a3.below K, (Below.refl _ _).drew⟩)
            have OO := hide (oo.trans (below_only K))
            clear R R2 a0 a1 a2 a3 K oo c3 fz RC
            have c3 := P.out.R.drew.c3
            have fz := P.out.R.drew.frozen
            go_region_with
              (first
                | (go_at_call 69; (with_reducible refine (Sgp.from_ P.out).mono ?_); rintro r w3 ⟨u, rfl, k3, kf, q1⟩; have P1 := hide q1; clear q1 P c3 fz; have c3 := k3; have fz := kf; clear k3 kf)
                | (go_at_call 74; (with_reducible refine (Sgp.mul P1.out HS.out).mono ?_); rintro r w4 ⟨xa, xl, xc, rfl, k3, kf, q1⟩; have P2 := hide q1; clear q1 P1 c3 fz; have c3 := k3; have fz := kf; clear k3 kf))
            all_goals (
              have F := hide (Sgp2.fin P2.out)
              go_wp2
              go_roundg ((400 - (p + 1)).toNat)
              case measure => omega
              case rel => exact ⟨p + 1, _, O' * 10, by first | rfl | (rw [pw']), rfl, SC'.out, F.out.1, OO.out.trans F.out.2⟩)
          · have qg : ¬ sgn (N * 10 ^ j) O' ≥ 0 := by rcases sgn_cases (N * 10 ^ j) O' with ⟨e1, e2⟩ | ⟨e1, e2⟩ | ⟨e1, e2⟩ <;> rw [e1] <;> omega
            have qg2 : sgn (N * 10 ^ j) O' < 0 := by omega
            have qg3 : ¬ 0 ≤ sgn (N * 10 ^ j) O' := by omega
            generalize sgn (N * 10 ^ j) O' = z at *
            have OO := hide (oo.trans (below_only K))
            have F := hide ((RC.out).keeps K)
            clear R a0 a1 a2 a3 K oo RC
            go_wp2
            go_ret
            exact ⟨p, rfl, v3, (N * 10 ^ j), (B * 10 ^ j), (A * 10 ^ j), O', F.out, SC.out, SC.out.done HV.out (by omega), OO.out⟩)
    · obtain ⟨j, hj⟩ : ∃ j : Nat, q = j := ⟨q.toNat, by omega⟩
      subst hj
      have sc := F4.out (by omega)
      rw [Int.toNat_natCast] at sc
      obtain ⟨s1, s2, s3, s4, s5, s6, s7⟩ := sc.small HV.out
      have SC := hide sc
      have S := hide (And.intro s1 sc.hO)
      clear sc s1 s2 s3 s4 s5 s6 s7 F3 F4
      go_wp2_with fail
      refine (pow_ok (b := 10) (N := j) (by omega) (by omega) len_ten (by omega) (Or.inr (by omega))).mono ?_
      rintro r w2 ⟨pv, rfl, hp, hb⟩
      have hp' := (hp.fit (j := 100) (by rw [pw_100]; exact ten_small (by omega))).arg
      have RC2 := RC1.out.keeps hb
      have O2 := O1.out.trans (below_only hb)
      clear hp hb RC1 O1
      have RC2' := RC2
      obtain ⟨v0', v1', v2', R, a0, a1, a2, a3⟩ := RC2
      have c3 := R.c3
      have fz := R.frozen
      go_wp2_with fail
      refine (mul_any a3.arg hp' (by omega) (by omega)).mono ?_
      rintro r w3 ⟨x, rfl, hx, hb⟩
      obtain ⟨xa, xl, xc, rfl⟩ := hx.slice
      obtain ⟨RC, o3⟩ := RC2'.put3 hb (hx.fit (j := 100) (by have := S.out.1; have := S.out.2; omega))
      have OO := O2.trans o3
      have R3 := R.keeps hb
      clear c3 fz
      have c3 := R3.c3
      have fz := R3.frozen
      clear R a0 a1 a2 a3 hx hb RC2' O2 hp' S R3 o3
      go_upto_region 7 with fail
      clear c3 fz
      generalize w3.setCell ⟨g, 3, none⟩ (.slice xa xl xc) = w4 at *
      go_wp2
      go_loopg [3] ((400 - (j : Int)).toNat) (fun c sp wr => ∃ (p : Int) (v3 : Value) (O' : Int), sp = .int .i64 p ∧ c = (400 - p).toNat ∧ Sc V Lo Hi G p (N) (B) (A) O' ∧ Rc wr g v3 (N) (B) (A) O' e ∧ Only g w wr)
      case atStart => exact ⟨(j : Int), .slice xa xl xc, O * 10 ^ j, rfl, rfl, SC.out, RC, OO⟩
      case round =>
        clear RC OO SC
        obtain ⟨p, v3, O', rfl, hgk, sc, rc, oo⟩ := hrel
        obtain ⟨s1, s2, s3, s4, s5, s6, s7⟩ := sc.small HV.out
        have HS := hide s1
        clear s1 s2 s3 s4 s5 s6 s7
        have p0 := sc.p0
        have p1 := sc.p1
        have SC := hide sc
        have RC := hide rc
        obtain ⟨v0, v1, v2, R, a0, a1, a2, a3⟩ := rc
        clear sc
        have pw' : IntKind.i64.wrap (p + 1) = p + 1 := by rw [IntKind.wrap_i64]; omega
        go_upto_region 7 with fail
        have K : Below wr.heap.size wr wr.drew := (Below.refl _ _).drew
        go_region_held3 (fun w' => w'.cell? ⟨g, 0, none⟩ = some v0 ∧ w'.cell? ⟨g, 3, none⟩ = some v3)
          (first
            | with_reducible exact ⟨(R.keeps K).c0, (R.keeps K).c3⟩
            | go_keep)
          (first
            | (go_at_call 75; (with_reducible refine (cmp_any (a0.arg.below K) (a3.arg.below K) (by omega) (by omega)).mono ?_); rintro r w2 ⟨rfl, hb⟩; replace K := below_trans K hb; clear hb))
        all_goals (
          by_cases ge : O' ≤ (N)
          · have qg : decide (sgn (N) O' ≥ 0) = true := by rcases sgn_cases (N) O' with ⟨e1, e2⟩ | ⟨e1, e2⟩ | ⟨e1, e2⟩ <;> rw [e1] <;> first | omega | rfl
            have qg2 : 0 ≤ sgn (N) O' := of_decide_eq_true qg
            have nlt : ¬ sgn (N) O' < 0 := by omega
            clear qg
            generalize sgn (N) O' = z at *
            obtain ⟨sc', plt⟩ := SC.out.step HV.out ge
            have SC' := hide sc'
            clear sc' SC
            have R2 := R.keeps K
            have c3 := R2.c3
            have fz := R2.frozen
            go_upto_region 8 with fail
            have P := hide (show Sgp w2 w2.drew g v0 v1 v2 v3 (N) (B) (A) O' e from ⟨R2, a0.below K, a1.below K, a2.below K, a3.below K, (Below.refl _ _).drew⟩)
            have OO := hide (oo.trans (below_only K))
            clear R R2 a0 a1 a2 a3 K oo c3 fz RC
            have c3 := P.out.R.drew.c3
            have fz := P.out.R.drew.frozen
            go_region_with
              (first
                | (go_at_call 69; (with_reducible refine (Sgp.from_ P.out).mono ?_); rintro r w3 ⟨u, rfl, k3, kf, q1⟩; have P1 := hide q1; clear q1 P c3 fz; have c3 := k3; have fz := kf; clear k3 kf)
                | (go_at_call 74; (with_reducible refine (Sgp.mul P1.out HS.out).mono ?_); rintro r w4 ⟨xa, xl, xc, rfl, k3, kf, q1⟩; have P2 := hide q1; clear q1 P1 c3 fz; have c3 := k3; have fz := kf; clear k3 kf))
            all_goals (
              have F := hide (Sgp2.fin P2.out)
              go_wp2
              go_roundg ((400 - (p + 1)).toNat)
              case measure => omega
              case rel => exact ⟨p + 1, _, O' * 10, by first | rfl | (rw [pw']), rfl, SC'.out, F.out.1, OO.out.trans F.out.2⟩)
          · have qg : ¬ sgn (N) O' ≥ 0 := by rcases sgn_cases (N) O' with ⟨e1, e2⟩ | ⟨e1, e2⟩ | ⟨e1, e2⟩ <;> rw [e1] <;> omega
            have qg2 : sgn (N) O' < 0 := by omega
            have qg3 : ¬ 0 ≤ sgn (N) O' := by omega
            generalize sgn (N) O' = z at *
            have OO := hide (oo.trans (below_only K))
            have F := hide ((RC.out).keeps K)
            clear R a0 a1 a2 a3 K oo RC
            go_wp2
            go_ret
            exact ⟨p, rfl, v3, (N), (B), (A), O', F.out, SC.out, SC.out.done HV.out (by omega), OO.out⟩)
)

end Go.Proofs.YtinfkoiifemjmaaGreatDoor

namespace Go.Proofs.YtinfkoiifemjmaaGreatDoor
open Go.RowKit
set_option linter.unusedVariables false

theorem cls_four {S F s : Int} (h : cls S F s = 4) : s = S - F := by
  unfold cls at h
  repeat' split at h
  all_goals omega
theorem sh_ends {V Lo Hi G p c : Int} {k : Nat} {s : Int} (h : Sh V Lo Hi (decide (s % 2 = 0) = true) G p k c) : Sh V Lo Hi (s % 2 = 0) G p k c := by
  have e : (decide (s % 2 = 0) = true) = (s % 2 = 0) := by simp
  rw [e] at h
  exact h
theorem pt_eq (k : Nat) (c p : Int) : pt k c p = if decide (c = 10 ^ k) = true then p + 1 else p := by
  unfold pt
  by_cases h : c = 10 ^ k <;> simp [h]

theorem low_d (x : Int) (h0 : 0 ≤ x) (h1 : x < 18446744073709551616) : bits .and .u64 x (bits .xor .u64 IntKind.u64.max 0 / 2) = x % 9223372036854775808 := by
  rw [show bits .xor .u64 IntKind.u64.max 0 / 2 = 9223372036854775807 by kernel_rfl]
  rw [u64_and x 9223372036854775807 h0 h1 (by decide) (by decide), show (9223372036854775807 : Int).toNat = 2 ^ 63 - 1 from rfl, Nat.and_two_pow_sub_one_eq_mod]
  omega
theorem fr_d : (4503599627370496 : Int) = p2 52 := by decide

set_option maxRecDepth 100000 in
set_option maxHeartbeats 8000000 in
theorem digits_d {w : World} (T : Lays w) (U : Brn w) (x s : Int) (ng : Bool) (h0 : 0 ≤ x) (h1 : x < 18446744073709551616) (hs : x % 9223372036854775808 = s) (hng : ng = decide (9223372036854775808 ≤ x)) :
    Calls Tryz.prog 23 #[.int .u64 x] w fun e w' => ∃ v ok, e = .returned (.tuple #[v, .bool ok]) ∧ Dg 4503599627370496 (-1074) 9218868437227405312 s ng v ok ∧ Below w.heap.size w w' := by
  have lw := low_d x h0 h1
  rw [hs] at lw
  have s0 : 0 ≤ s := by omega
  have s1 : s < 9223372036854775808 := by omega
  have nq : (x != s) = ng := by
    rw [hng]
    by_cases c : 9223372036854775808 ≤ x
    · rw [decide_eq_true c]; simp; omega
    · rw [decide_eq_false c]; simp; omega
  have Nq := hide nq
  have Hs := hide hs
  clear nq hng hs
  go_enter Tryz.func23, Tryz.ntmps23
  go_wp2_with fail
  have D : Dc (w.alloc (.cells #[.bool false, .string ⟨#[]⟩, .int .i64 0] 23)) w.heap.size (.bool false) (.string ⟨#[]⟩) (.int .i64 0) := heap_alloc_new _ _
  have K0 := bel_new w (.cells #[.bool false, .string ⟨#[]⟩, .int .i64 0] 23)
  generalize w.alloc (.cells #[.bool false, .string ⟨#[]⟩, .int .i64 0] 23) = w0 at *
  refine (class_64 (T.below K0) s s (by omega) (by omega) (by omega)).mono ?_
  rintro r w1 ⟨rfl, b1⟩
  have K := below_trans K0 b1
  replace D := D.keeps b1
  clear b1 K0 lw
  by_cases hi : 9218868437227405312 ≤ s
  · have dg : Dg 4503599627370496 (-1074) 9218868437227405312 s ng (.agg #[.bool false, .string ⟨#[]⟩, .int .i64 0]) false := ⟨fun _ => ⟨rfl, rfl⟩, fun z => by omega, fun a b => by omega⟩
    have HD := hide dg
    clear dg
    have d0 := D.c0
    have d1 := D.c1
    have d2 := D.c2
    have df := D.frozen
    by_cases c4 : s = 9218868437227405312
    · have e4 : cls 9223372036854775808 4503599627370496 s = 4 := by subst c4; rfl
      rw [e4]
      clear e4
      go_wp2
      obtain ⟨PD, KB⟩ : Dc (put3 w1 w.heap.size (.bool false) (.string ⟨#[]⟩) (.int .i64 0)) w.heap.size (.bool false) (.string ⟨#[]⟩) (.int .i64 0) ∧ Below w.heap.size w (put3 w1 w.heap.size (.bool false) (.string ⟨#[]⟩) (.int .i64 0)) := ⟨D.put _ _ _, put3_below K (Nat.le_refl _) _ _ _⟩
      clear d0 d1 d2 df D K
      unfold put3 at PD KB
      generalize ((w1.setCell ⟨w.heap.size, 0, none⟩ (.bool false)).setCell ⟨w.heap.size, 1, none⟩ (.string ⟨#[]⟩)).setCell ⟨w.heap.size, 2, none⟩ (.int .i64 0) = wf at *
      (try simp only [Exit.inBlock, Exit.then])
      exact bodyPost_ret (v := .tuple #[.agg #[.bool false, .string ⟨#[]⟩, .int .i64 0], .bool false]) (by simp [results, Tryz.results23, go_sem, PD.c0, PD.c1, PD.c2]) rfl ⟨_, _, rfl, HD.out, KB⟩
    · have e5 : cls 9223372036854775808 4503599627370496 s = 5 := by rw [cls_nan]; omega
      rw [e5]
      clear e5
      go_wp2
      obtain ⟨PD, KB⟩ : Dc (put3 w1 w.heap.size (.bool false) (.string ⟨#[]⟩) (.int .i64 0)) w.heap.size (.bool false) (.string ⟨#[]⟩) (.int .i64 0) ∧ Below w.heap.size w (put3 w1 w.heap.size (.bool false) (.string ⟨#[]⟩) (.int .i64 0)) := ⟨D.put _ _ _, put3_below K (Nat.le_refl _) _ _ _⟩
      clear d0 d1 d2 df D K
      unfold put3 at PD KB
      generalize ((w1.setCell ⟨w.heap.size, 0, none⟩ (.bool false)).setCell ⟨w.heap.size, 1, none⟩ (.string ⟨#[]⟩)).setCell ⟨w.heap.size, 2, none⟩ (.int .i64 0) = wf at *
      (try simp only [Exit.inBlock, Exit.then])
      exact bodyPost_ret (v := .tuple #[.agg #[.bool false, .string ⟨#[]⟩, .int .i64 0], .bool false]) (by simp [results, Tryz.results23, go_sem, PD.c0, PD.c1, PD.c2]) rfl ⟨_, _, rfl, HD.out, KB⟩
  · by_cases hz : s = 0
    · have dg : Dg 4503599627370496 (-1074) 9218868437227405312 s ng (.agg #[.bool ng, .string ⟨#[]⟩, .int .i64 0]) true := ⟨fun _ => by omega, fun _ => ⟨rfl, rfl⟩, fun a b => by omega⟩
      have HD := hide dg
      clear dg
      have e1 : cls 9223372036854775808 4503599627370496 s = 1 := by subst hz; rfl
      rw [e1]
      clear e1 hz
      have nq := Nq.out
      have d0 := D.c0
      have d1 := D.c1
      have d2 := D.c2
      have df := D.frozen
      go_wp2
      obtain ⟨PD, KB⟩ : Dc (put3 w1 w.heap.size (.bool ng) (.string ⟨#[]⟩) (.int .i64 0)) w.heap.size (.bool ng) (.string ⟨#[]⟩) (.int .i64 0) ∧ Below w.heap.size w (put3 w1 w.heap.size (.bool ng) (.string ⟨#[]⟩) (.int .i64 0)) := ⟨D.put _ _ _, put3_below K (Nat.le_refl _) _ _ _⟩
      clear d0 d1 d2 df D K
      unfold put3 at PD KB
      generalize ((w1.setCell ⟨w.heap.size, 0, none⟩ (.bool ng)).setCell ⟨w.heap.size, 1, none⟩ (.string ⟨#[]⟩)).setCell ⟨w.heap.size, 2, none⟩ (.int .i64 0) = wf at *
      (try simp only [Exit.inBlock, Exit.then])
      exact bodyPost_ret (v := .tuple #[.agg #[.bool ng, .string ⟨#[]⟩, .int .i64 0], .bool true]) (by simp [results, Tryz.results23, go_sem, PD.c0, PD.c1, PD.c2]) rfl ⟨_, _, rfl, HD.out, KB⟩
    · have c1 : ¬ cls 9223372036854775808 4503599627370496 s = 1 := fun h => hz ((cls_zero (by decide)).1 h)
      have c4 : ¬ cls 9223372036854775808 4503599627370496 s = 4 := fun h => by have := cls_four h; omega
      have c5 : ¬ cls 9223372036854775808 4503599627370496 s = 5 := fun h => by have := (cls_nan _ _ _).1 h; omega
      generalize cls 9223372036854775808 4503599627370496 s = cl at *
      have q1 : (cl == 1) = false := by simp [c1]
      have q4 : (cl == 4) = false := by simp [c4]
      have q5 : (cl == 5) = false := by simp [c5]
      have sp : 0 < s := by omega
      go_wp2_with fail
      refine (reach_d (T.below K) (U.below K) s sp (by omega)).mono ?_
      rintro r w2 ⟨v0, v1, v2, v3, rfl, up, dn, hud, hup, hdn, F4, b2⟩
      have est1 := est_top (F := 4503599627370496) (L := -1074) (s := s) (n := 2047) (by decide) (by decide) (by omega) (by omega)
      have est0 := est_ge (F := 4503599627370496) (L := -1074) (s := s - 1) (by decide)
      have hrel := rel_first (F := 4503599627370496) (L := -1074) (s := s) (dl := est 4503599627370496 (-1074) s - est 4503599627370496 (-1074) (s - 1)) (part := est 4503599627370496 (-1074) (s - 1) - 1) (up := up) (dn := dn) (by decide) sp (by decide) rfl rfl hud
      have VS := vs_of (F := 4503599627370496) (L := -1074) (s := s) fr_d sp (by decide) (by omega)
      have mk := fun (p N B A O : Int) => mk_of (F := 4503599627370496) (L := -1074) (s := s) (p := p) (N := N) (B := B) (A := A) (O := O) (e := decide (s % 2 = 0)) fr_d sp (by decide) (by decide) (by omega) (by decide)
      have nb := n_bound (F := 4503599627370496) (s := s) (dl := est 4503599627370496 (-1074) s - est 4503599627370496 (-1074) (s - 1)) (up := up) (by decide) sp (by rcases est_pred (F := 4503599627370496) (L := -1074) (s := s) (by decide) sp with g | ⟨g, _⟩ <;> omega) (by decide) hup
      have ob : p2 dn < p2 1150 := o_bound hdn
      generalize 2 * mst 4503599627370496 s * p2 (est 4503599627370496 (-1074) s - est 4503599627370496 (-1074) (s - 1)).toNat * p2 up = N at *
      generalize 1 * p2 up = B at *
      generalize p2 (est 4503599627370496 (-1074) s - est 4503599627370496 (-1074) (s - 1)).toNat * p2 up = A at *
      have op := p2_pos dn
      generalize p2 dn = O at *
      obtain ⟨v0a, v0l, v0c, rfl⟩ := arg_slc F4.a0
      obtain ⟨v1a, v1l, v1c, rfl⟩ := arg_slc F4.a1
      obtain ⟨v2a, v2l, v2c, rfl⟩ := arg_slc F4.a2
      obtain ⟨v3a, v3l, v3c, rfl⟩ := arg_slc F4.a3
      have RC := rc_new F4 (decide (s % 2 = 0))
      replace K := below_trans K b2
      replace D := D.keeps b2
      have D1 := D.keeps (bel_new w2 (.cells #[.slice v0a v0l v0c, .slice v1a v1l v1c, .slice v2a v2l v2c, .slice v3a v3l v3c, .bool (decide (s % 2 = 0))] 85))
      have K1 := below_trans K (bel_new w2 (.cells #[.slice v0a v0l v0c, .slice v1a v1l v1c, .slice v2a v2l v2c, .slice v3a v3l v3c, .bool (decide (s % 2 = 0))] 85))
      have HM := hide mk
      have HV := hide VS
      have HR := hide hrel
      have HN := hide nb
      have HO := hide ob
      clear mk VS hrel nb ob F4 b2 est0 est1 hud hup hdn
      have zl : w.heap.size < w2.heap.size := D.lt
      clear D K
      go_wp2_with fail
      generalize w2.alloc (.cells #[.slice v0a v0l v0c, .slice v1a v1l v1c, .slice v2a v2l v2c, .slice v3a v3l v3c, .bool (decide (s % 2 = 0))] 85) = w3 at *
      refine (scale_any RC HV.out HR.out op HN.out HO.out).mono ?_
      rintro r w4 ⟨p, rfl, v3', N', B', A', O', RC4, SC, hlt, o4⟩
      obtain ⟨m, rd, n0, n1⟩ := HM.out p N' B' A' O' SC hlt
      replace D1 := D1.only o4 (by omega)
      have K4 := only_below K1 o4 (by omega)
      have p0 := SC.p0
      have p1 := SC.p1
      clear RC SC o4 K1 hlt HM HV HR HN HO
      go_wp2_with fail
      refine (fewest_any RC4 m rd n0 n1).mono ?_
      rintro r w5 ⟨k, c, sh, k17, rfl, o5⟩
      replace D1 := D1.only o5 (by omega)
      have K := only_below K4 o5 (by omega)
      have D := D1
      clear RC4 m rd n0 n1 D1 K4 o5
      have wp : IntKind.i64.wrap (p + 1) = p + 1 := by rw [IntKind.wrap_i64]; omega
      have dg : Dg 4503599627370496 (-1074) 9218868437227405312 s ng (.agg #[.bool ng, .string (strOfNums (txt k c)), .int .i64 (pt k c p)]) true := ⟨fun _ => by omega, fun _ => by omega, fun _ _ => ⟨rfl, p, k, c, sh_ends sh, k17, rfl⟩⟩
      rw [pt_eq] at dg
      have HD := hide dg
      clear dg sh
      generalize decide (c = 10 ^ k) = cb at *
      generalize strOfNums (txt k c) = tx at *
      have nq := Nq.out
      have d0 := D.c0
      have d1 := D.c1
      have d2 := D.c2
      have df := D.frozen
      cases cb with
      | true =>
        go_wp2
        obtain ⟨PD, KB⟩ : Dc (put3 w5 w.heap.size (.bool ng) (.string tx) (.int .i64 (p + 1))) w.heap.size (.bool ng) (.string tx) (.int .i64 (p + 1)) ∧ Below w.heap.size w (put3 w5 w.heap.size (.bool ng) (.string tx) (.int .i64 (p + 1))) := ⟨D.put _ _ _, put3_below K (Nat.le_refl _) _ _ _⟩
        clear d0 d1 d2 df D K
        unfold put3 at PD KB
        generalize ((w5.setCell ⟨w.heap.size, 0, none⟩ (.bool ng)).setCell ⟨w.heap.size, 1, none⟩ (.string tx)).setCell ⟨w.heap.size, 2, none⟩ (.int .i64 (p + 1)) = wf at *
        (try simp only [Exit.inBlock, Exit.then])
        exact bodyPost_ret (v := .tuple #[.agg #[.bool ng, .string tx, .int .i64 (p + 1)], .bool true]) (by simp [results, Tryz.results23, go_sem, PD.c0, PD.c1, PD.c2]) rfl ⟨_, _, rfl, HD.out, KB⟩
      | false =>
        go_wp2
        obtain ⟨PD, KB⟩ : Dc (put3 w5 w.heap.size (.bool ng) (.string tx) (.int .i64 p)) w.heap.size (.bool ng) (.string tx) (.int .i64 p) ∧ Below w.heap.size w (put3 w5 w.heap.size (.bool ng) (.string tx) (.int .i64 p)) := ⟨D.put _ _ _, put3_below K (Nat.le_refl _) _ _ _⟩
        clear d0 d1 d2 df D K
        unfold put3 at PD KB
        generalize ((w5.setCell ⟨w.heap.size, 0, none⟩ (.bool ng)).setCell ⟨w.heap.size, 1, none⟩ (.string tx)).setCell ⟨w.heap.size, 2, none⟩ (.int .i64 p) = wf at *
        (try simp only [Exit.inBlock, Exit.then])
        exact bodyPost_ret (v := .tuple #[.agg #[.bool ng, .string tx, .int .i64 p], .bool true]) (by simp [results, Tryz.results23, go_sem, PD.c0, PD.c1, PD.c2]) rfl ⟨_, _, rfl, HD.out, KB⟩


end Go.Proofs.YtinfkoiifemjmaaGreatDoor

namespace Go.Proofs.YtinfkoiifemjmaaGreatDoor
open Go.RowKit
set_option linter.unusedVariables false

theorem Dg.unique {F L I s : Int} {ng ng' ok ok' : Bool} {v v' : Value} (hI : 0 < I) (h0 : 0 ≤ s) (h : Dg F L I s ng v ok) (h' : Dg F L I s ng' v' ok') :
    ok = ok' ∧ ((ok = false ∧ I ≤ s ∧ v = .agg #[.bool false, .string ⟨#[]⟩, .int .i64 0] ∧ v' = .agg #[.bool false, .string ⟨#[]⟩, .int .i64 0]) ∨ (ok = true ∧ s < I ∧ ∃ t q, v = .agg #[.bool ng, .string t, .int .i64 q] ∧ v' = .agg #[.bool ng', .string t, .int .i64 q])) := by
  rcases Int.lt_or_le s I with c | c
  · by_cases z : s = 0
    · obtain ⟨h1, h2⟩ := h.2.1 z
      obtain ⟨g1, g2⟩ := h'.2.1 z
      subst h1 h2 g1 g2
      exact ⟨rfl, Or.inr ⟨rfl, c, _, _, rfl, rfl⟩⟩
    · obtain ⟨h1, p, k, cc, sh, _, hv⟩ := h.2.2 (by omega) c
      obtain ⟨g1, p', k', cc', sh', _, gv⟩ := h'.2.2 (by omega) c
      obtain ⟨e1, e2, e3⟩ := Sh.unique (gG_pos L) sh sh'
      subst e1 e2 e3 h1 g1 hv gv
      exact ⟨rfl, Or.inr ⟨rfl, c, _, _, rfl, rfl⟩⟩
  · obtain ⟨h1, h2⟩ := h.1 c
    obtain ⟨g1, g2⟩ := h'.1 c
    subst h1 h2 g1 g2
    exact ⟨rfl, Or.inl ⟨rfl, c, rfl, rfl⟩⟩
/-- the two patterns of which the document tells the digits -/
theorem sh_tenth : ShP 4503599627370496 (-1074) 4591870180066957722 0 1 1 := by
  have e1 : vV 4503599627370496 (-1074) 4591870180066957722 / TT (gG (-1074)) (0 - (1 : Nat)) = 1 := by decide +kernel
  refine ⟨by decide +kernel, by decide +kernel, by decide, fun j h1 h2 => by omega, Or.inl ⟨e1.symm, ?_, ?_⟩⟩
  · rw [e1]; exact Or.inl ⟨by decide +kernel, by decide +kernel⟩
  · rw [e1]
    rintro ⟨h, _⟩
    have a : ¬ (1 + 1) * TT (gG (-1074)) (0 - (1 : Nat)) ≤ vHi 4503599627370496 (-1074) 4591870180066957722 := by decide +kernel
    have b : vLo 4503599627370496 (-1074) 4591870180066957722 < (1 + 1) * TT (gG (-1074)) (0 - (1 : Nat)) := by decide +kernel
    generalize (1 + 1) * TT (gG (-1074)) (0 - (1 : Nat)) = x at *
    rcases h with ⟨_, h⟩ | ⟨_, h | h⟩ <;> omega
theorem dg_tenth {v : Value} {ok : Bool} (h : Dg 4503599627370496 (-1074) 9218868437227405312 4591870180066957722 false v ok) : v = .agg #[.bool false, .string ⟨#[49]⟩, .int .i64 0] ∧ ok = true := by
  obtain ⟨h1, p, k, c, sh, _, hv⟩ := h.2.2 (by decide) (by decide)
  obtain ⟨rfl, rfl, rfl⟩ := Sh.unique (gG_pos (-1074)) sh sh_tenth
  exact ⟨hv, h1⟩
end Go.Proofs.YtinfkoiifemjmaaGreatDoor

namespace Go.Proofs.YtinfkoiifemjmaaGreatDoor
open Go.RowKit
set_option linter.unusedVariables false

/-- the digits that are told: as many as there may be -/
structure Td (F L s : Int) (M : Nat) (t : ByteArray) (P : Int) (ds : List Int) (N : Nat) : Prop where
  t : t = strOfNums ds
  dg : ∀ x ∈ ds, 48 ≤ x ∧ x ≤ 57
  len : ds.length = N
  n0 : 0 < N
  n1 : N ≤ M + 1
  n2 : N ≤ 17
  first : Nt.lb ds 0 ≠ 48
  last : Nt.lb ds (N - 1) ≠ 48
  pos : 0 < bv ds
  p0 : -400 < P
  p1 : P < 400
  inn : Inn (vLo F L s) (vHi F L s) (s % 2 = 0) (bv ds * TT (gG L) (P - N))
theorem dl_last (k : Nat) (d : Int) : Nt.lb (dl (k + 1) d) k = 48 + d % 10 := by
  rw [dl]
  simp [Nt.lb, dl_len]
theorem dl_first {k : Nat} {d : Int} (k1 : 1 ≤ k) (h0 : 10 ^ (k - 1) ≤ d) (h1 : d < 10 ^ k) : Nt.lb (dl k d) 0 ≠ 48 := by
  intro e
  have b := bv_dl k d (by have := ten_pos (k - 1); omega) h1
  have l := dl_len k d
  have hb := dl_byte k d
  cases hd : dl k d with
  | nil => rw [hd] at l; simp at l; omega
  | cons a x =>
    rw [hd] at b e l hb
    have ea : a = 48 := by simpa [Nt.lb] using e
    subst ea
    rw [bv] at b
    obtain ⟨_, r1⟩ := bv_range (xs := x) (fun y hy => hb y (List.mem_cons_of_mem _ hy))
    rw [List.length_cons] at l
    rw [show x.length = k - 1 by omega] at r1
    omega
theorem td_of {F L s p c : Int} {k M fr : Nat} (hfr : F = p2 fr) (h0 : 0 < s) (hL : -1074 ≤ L) (hL0 : L ≤ 0) (he : est F L s ≤ 1023 - fr) (hM : 2 * F ≤ 10 ^ M) (hM2 : M ≤ 16) (h : ShP F L s p k c) (h17 : k ≤ 17) : ∃ ds N, Td F L s M (strOfNums (txt k c)) (pt k c p) ds N := by
  have hF : 0 < F := by rw [hfr]; exact p2_pos fr
  have hp := point_low hF h0 hL h.hi
  have hp2 := point_high hfr (by omega) hL0 he h.lo
  have hG := gG_pos L
  have kM : k ≤ M + 1 := by
    rcases Nat.lt_or_ge (M + 1) k with g | g
    · exact absurd (h.out (M + 1) (by omega) g) (v_most hF h0 hM (by omega) h.lo)
    · exact g
  have inn : Inn (vLo F L s) (vHi F L s) (s % 2 = 0) (c * TT (gG L) (p - k)) := by
    rcases h.pick with ⟨e, g, _⟩ | ⟨e, g, _⟩ <;> rw [e] <;> exact g
  rcases h.cases hG (by omega) with ⟨e, rfl, _, e10⟩ | ⟨e, c0, c1, c2, _⟩
  · refine ⟨[49], 1, ?_, by simp, rfl, by omega, by omega, by omega, by decide, by decide, by decide, ?_, ?_, ?_⟩
    · unfold txt; rw [if_pos e]
    · unfold pt; rw [if_pos e]; omega
    · unfold pt; rw [if_pos e]; omega
    · unfold pt; rw [if_pos e]
      rw [e10] at inn
      have : TT (gG L) (p + 1 - (1 : Nat)) = 10 * TT (gG L) (p - (1 : Nat)) := by
        rw [← TT_succ (by omega)]; congr 1; omega
      rw [this, show bv [49] = 1 from rfl, Int.one_mul]; exact inn
  · have k1 := h.k1
    have cp : 0 < c := by have := ten_pos (k - 1); omega
    have eb := bv_dl k c (by omega) c1
    refine ⟨dl k c, k, ?_, dl_byte k c, dl_len k c, by omega, kM, h17, dl_first k1 c0 c1, ?_, by rw [eb]; exact cp, ?_, ?_, ?_⟩
    · unfold txt; rw [if_neg e]
    · obtain ⟨m, rfl⟩ : ∃ m, k = m + 1 := ⟨k - 1, by omega⟩
      rw [Nat.add_sub_cancel, dl_last]; omega
    · unfold pt; rw [if_neg e]; omega
    · unfold pt; rw [if_neg e]; omega
    · unfold pt; rw [if_neg e, eb]; exact inn

end Go.Proofs.YtinfkoiifemjmaaGreatDoor
