/- quot.Read of at most 1152 digits -/
import Derived.Test.YtigehipclkoecaaGreatDoorDStr
import Derived.Test.YtigehipclkoecaaGreatDoorMul
import Derived.Test.YtigehipclkoecaaGreatDoorAdd
import Derived.Test.YtigehipclkoecaaGreatDoorDiv
import Derived.Test.YtigehipclkoecaaGreatDoorPow
import Derived.Deep.LoopGhost
import Derived.Deep.RegionHeld3
import Derived.Deep.Cut
namespace Go.Proofs.YtigehipclkoecaaGreatDoor
open Go.RowKit
set_option linter.unusedVariables false

theorem tn_1152 : tn 1152 < Nt.pw 120 := by
  rw [← p2_32, p2_pow]
  unfold tn
  decide +kernel
theorem dg_limbs {es : List Int} (h : Dg es) (hl : es.length ≤ 1152) : dg es < Nt.pw 120 := by
  have a := dg_range h
  have b := tn_mono hl
  have c := tn_1152
  omega
theorem arg_none (w : World) (k : Nat) : Arg w (.slice none 0 0) 0 k := ⟨[], ⟨none, 0, rfl, Nat.le_refl _, by unfold maxLen; omega, fun h => absurd h (by simp)⟩, Nt.canon_nil.1, rfl, Nat.zero_le _⟩
theorem al_one (w : World) (o : Obj) : Below w.heap.size w (w.alloc o) := (Below.refl _ _).alloc (Nat.le_refl _) _
theorem ok_lit {x : Int} (h : 0 ≤ x ∧ x < 4294967296) : Nt.Ok [x] := by
  intro i
  match i with
  | 0 => exact h
  | i + 1 => simp [Nt.lb]
theorem val_lit (x : Int) : Nt.val [x] = x := by
  show Nt.vt _ 1 = x
  simp only [Nt.vt, Nt.pw, Nt.lb, List.getD_cons_zero]
  omega
theorem row_lit (w : World) (x : Int) : Row .u32 44 (w.alloc (.cells #[.int .u32 x] 44)) w.heap.size [x] := by
  unfold Row
  rw [heap_alloc_new]
  rfl
theorem arg_lit (w : World) {x : Int} (h : 0 ≤ x ∧ x < 4294967296) : Arg (w.alloc (.cells #[.int .u32 x] 44)) (.slice (some ⟨w.heap.size, 0, none⟩) 1 1) x 1 := by
  refine ⟨[x], ⟨some ⟨w.heap.size, 0, none⟩, 1, rfl, Nat.le_refl _, by unfold maxLen; omega, fun _ => ⟨w.heap.size, 0, rfl, (row_lit w x).lt, fun i hi => ?_⟩⟩, ok_lit h, val_lit x, Nat.le_refl _⟩
  rw [Nat.zero_add]
  exact (row_lit w x).cell hi
/-- what a text's bytes are -/
theorem txt_ix {es : List Int} {s : ByteArray} (hs : s = strOfNums es) (hd : Dg es) : ∀ p (h : p < s.size), ((s[p]'h).toNat : Int) = Nt.lb es p ∧ 48 ≤ Nt.lb es p ∧ Nt.lb es p ≤ 57 := by
  intro p h
  subst hs
  have hp : p < es.length := by rw [strOfNums_size] at h; exact h
  exact ⟨txt_at h hd.byt, hd _ (lb_in hp)⟩
theorem dg_drop_take {es : List Int} (p z : Nat) (h : p + z ≤ es.length) : dg (es.take (p + z)) = dg (es.take p) * tn z + dg ((es.drop p).take z) := by
  rw [List.take_add, dg_append]
  congr 3
  rw [List.length_take, List.length_drop]; omega
theorem dg_nine {es : List Int} (h : Dg es) (z : Nat) (hz : z ≤ 9) : 0 ≤ dg (es.take z) ∧ dg (es.take z) < 1000000000 := by
  obtain ⟨a, b⟩ := dg_range (h.take z)
  have c : tn (es.take z).length ≤ tn 9 := tn_mono (by rw [List.length_take]; omega)
  have d : tn 9 = 1000000000 := by decide
  omega

theorem txt_full {s : ByteArray} (h : 0 < s.size) : s.toList.isEmpty = false := by
  rw [ByteArray.toList_eq]
  cases hl : s.data.toList with
  | nil =>
    exfalso
    have h1 : s.data.size = 0 := by rw [← Array.length_toList, hl]; rfl
    have h2 : s.size = s.data.size := rfl
    omega
  | cons _ _ => rfl

set_option maxRecDepth 100000 in
set_option maxHeartbeats 8000000 in
theorem leaf_any {w : World} {es : List Int} {s : ByteArray} {N : Nat} (hd : Dg es) (hs : s = strOfNums es) (hN : es.length = N) (hl : N ≤ 1152) :
    Calls Tryz.prog 165 #[.string s] w fun e w' => ∃ v, e = .returned v ∧ Arg w' v (dg es) 120 ∧ Below w.heap.size w w' := by
  have Hd := hide hd
  have HN := hide hN
  have HS := hide hs
  clear hd hN hs
  go_enter Tryz.func165, Tryz.ntmps165
  go_wp2
  go_loopg [0, 3] N (fun c sv va wr => ∃ p : Nat, p ≤ N ∧ c = N - p ∧ (p = 0 ∨ (N - p) % 9 = 0) ∧ sv = .string (strOfNums (es.drop p)) ∧ Arg wr va (dg (es.take p)) 120 ∧ Below w.heap.size w wr)
  case atStart => exact ⟨0, by omega, rfl, .inl rfl, by rw [HS.out]; rfl, by simpa [dg] using arg_none w 120, Below.refl _ _⟩
  case round =>
    obtain ⟨p, hp, hgp, hp9, rfl, ha, hb⟩ := hrel
    have HP9 := hide hp9
    clear hp9
    obtain ⟨t, ht⟩ : ∃ t, t = strOfNums (es.drop p) := ⟨_, rfl⟩
    obtain ⟨M, hM⟩ : ∃ M : Nat, M = N - p := ⟨_, rfl⟩
    have htz : t.size = M := by rw [ht, strOfNums_size, List.length_drop, HN.out, hM]
    have HT := hide ht
    have HA := hide ha
    rw [← ht]
    clear ht ha
    have hgM : M + p = N := by omega
    have HM := hide hgM
    have hMl : M ≤ 1152 := by omega
    have m1 : (M : Int) ≤ 1152 := by omega
    have HG := hide hgp
    clear hM hgM hgp
    have HW := hide hb
    clear hb
    by_cases hpl : p < N
    · have m0 : (0 : Int) < (M : Int) := by have := HM.out; omega
      obtain ⟨z, hz⟩ : ∃ z : Nat, z = (M - 1) % 9 + 1 := ⟨_, rfl⟩
      have hz1 : ((M : Int) - 1) % 9 + 1 = (z : Int) := by omega
      have z9 : z ≤ 9 := by omega
      have zM : z ≤ M := by omega
      have z0 : 0 < z := by omega
      have HZ := hide hz
      clear hz
      have Hdp := hide (Hd.out.drop p)
      have Hix := hide (txt_ix HT.out (Hd.out.drop p))
      have Hlp := hide (show (es.drop p).length = M by rw [List.length_drop, HN.out]; have := HM.out; omega)
      go_wp2
      go_loopg [5, 16] z (fun c gv iv wx => ∃ j : Nat, j ≤ z ∧ c = z - j ∧ iv = .int .i64 j ∧ gv = .int .u32 (dg ((es.drop p).take j)) ∧ wx = wr)
      case atStart => exact ⟨0, by omega, rfl, rfl, by simp [dg], rfl⟩
      case round =>
        obtain ⟨j, hj, hgj, rfl, rfl, hw⟩ := hrel
        replace hw := hw.symm
        subst hw
        by_cases hjl : j < z
        · have hps : j < t.size := by omega
          obtain ⟨hx, x0, x1⟩ := Hix.out j hps
          have hv := hide (dg_take (ds := es.drop p) (k := j) (by rw [Hlp.out]; omega))
          obtain ⟨d, hdd⟩ : ∃ d, Nt.lb (es.drop p) j = d := ⟨_, rfl⟩
          rw [hdd] at hx x0 x1 hv
          clear hdd
          have sm := dg_nine Hdp.out (j + 1) (by omega)
          have sm0 := (dg_nine Hdp.out j (by omega)).1
          rw [hv.out] at sm
          obtain ⟨g, hg⟩ : ∃ g, dg ((es.drop p).take j) = g := ⟨_, rfl⟩
          rw [hg] at hv sm sm0 ⊢
          obtain ⟨sm1, sm2⟩ := sm
          have q4 : (j : Int) < (z : Int) := by omega
          have wd : IntKind.u8.wrap (d - 48) = d - 48 := by rw [IntKind.wrap_u8]; omega
          have wd2 : IntKind.u32.wrap (d - 48) = d - 48 := by rw [IntKind.wrap_u32]; omega
          have wd3 : IntKind.u32.wrap (g * 10) = g * 10 := by rw [IntKind.wrap_u32]; omega
          have wd4 : IntKind.u32.wrap (g * 10 + (d - 48)) = g * 10 + (d - 48) := by rw [IntKind.wrap_u32]; omega
          clear hg
          go_wp2
          go_roundg (z - (j + 1))
          case measure => omega
          case rel => exact ⟨j + 1, by omega, rfl, by simp, by rw [hv.out], rfl⟩
        · have hje : j = z := by omega
          subst hje
          have sm := dg_nine Hdp.out j (by omega)
          have hv := hide (dg_drop_take (es := es) p j (by rw [HN.out]; have := HM.out; omega))
          have Hlim := hide (dg_limbs (Hd.out.take (p + j)) (by rw [List.length_take, HN.out]; omega))
          obtain ⟨g, hg⟩ : ∃ g, dg ((es.drop p).take j) = g := ⟨_, rfl⟩
          rw [hg] at hv sm ⊢
          have ho : 0 ≤ g ∧ g < 4294967296 := by omega
          have Ho := hide ho
          clear hg ho sm hgj
          go_wp2_with fail
          with_reducible refine (mul_any (HA.out.below (al_one wr _)) (arg_lit wr (x := 1000000000) (by omega)) (by omega) (by omega)).mono ?_
          rintro e w1 ⟨v1, rfl, hn1, hb1⟩
          have hb01 := below_trans (al_one wr _) hb1
          go_wp2_with fail
          with_reducible refine (add_any (hn1.arg.below (al_one w1 _)) (arg_lit w1 (x := g) Ho.out) (by omega) (by omega)).mono ?_
          rintro e w2 ⟨v2, rfl, hn2, hb2⟩
          have hb02 := below_trans hb01 (below_trans (al_one w1 _) hb2)
          have heq : dg (es.take p) * 1000000000 + g = dg (es.take (p + j)) := by
            rw [hv.out]
            rcases HP9.out with k | k
            · subst k; simp [dg]
            · have : j = 9 := by have := HM.out; have := HZ.out; omega
              rw [this]; rfl
          rw [heq] at hn2
          have hnum := (hn2.tight (k' := 120) Hlim.out).arg
          have HN2 := hide hnum
          have HB2 := hide hb02
          clear hn1 hb1 hb2 hb01 hn2 hnum hb02 heq
          have hx : t.extract j M = strOfNums (es.drop (p + j)) := by
            rw [HT.out, txt_cut, List.take_of_length_le (by rw [Hlp.out]; omega), List.drop_drop]
          have hMs : (j : Int) ≤ (M : Int) := by omega
          go_wp2
          go_roundg (N - (p + j))
          case measure => have := HM.out; have := HG.out; omega
          case rel => exact ⟨p + j, by have := HM.out; omega, rfl, .inr (by have := HM.out; have := HZ.out; omega), rfl, HN2.out, below_trans HW.out HB2.out⟩
    · have hpN : p = N := by omega
      have Hend := hide (show Arg wr u3 (dg es) 120 by have := HA.out; rwa [List.take_of_length_le (by rw [HN.out]; omega)] at this)
      have hM0 : M = 0 := by have := HM.out; omega
      go_wp2
      go_ret
      exact ⟨_, rfl, Hend.out, HW.out⟩


set_option maxRecDepth 100000 in
set_option maxHeartbeats 8000000 in
theorem isNumber_any {w : World} {es : List Int} {s : ByteArray} {N : Nat} (hd : Dg es) (hs : s = strOfNums es) (hN : es.length = N) (hl : N ≤ 1152) (n0 : 0 < N) (h0 : Nt.lb es 0 ≠ 48) :
    Calls Tryz.prog 148 #[.string s] w fun e w' => e = .returned (.bool true) ∧ w' = w := by
  have hsz : s.size = N := by rw [hs, strOfNums_size, hN]
  have Hix := hide (txt_ix hs hd)
  clear hd hN hs
  have hp0 : 0 < s.size := by omega
  obtain ⟨hx0, -, -⟩ := Hix.out 0 hp0
  have hz : (Nt.lb es 0 == 48) = false := by simp [h0]
  obtain ⟨d0, hd0⟩ : ∃ d, Nt.lb es 0 = d := ⟨_, rfl⟩
  rw [hd0] at hx0 hz
  clear hd0 h0
  have hne : s.toList.isEmpty = false := txt_full hp0
  have hN0 : (0 : Int) < (N : Int) := by omega
  go_enter Tryz.func148, Tryz.ntmps148
  go_wp2
  clear hx0 hz hne
  go_loopg [17] N (fun c i wr => ∃ k : Nat, k ≤ N ∧ c = N - k ∧ i = .int .i64 k ∧ wr = w)
  case atStart => exact ⟨0, by omega, rfl, rfl, rfl⟩
  case round =>
    obtain ⟨k, hk, hgk, rfl, hw⟩ := hrel
    replace hw := hw.symm
    subst hw
    by_cases hkl : k < N
    · have hps : k < s.size := by omega
      obtain ⟨hx, x0, x1⟩ := Hix.out k hps
      obtain ⟨d, hdd⟩ : ∃ d, Nt.lb es k = d := ⟨_, rfl⟩
      rw [hdd] at hx x0 x1
      clear hdd
      have q4 : (k : Int) < (N : Int) := by omega
      have l1 : ¬ d < 48 := by omega
      have l2 : ¬ 57 < d := by omega
      go_wp2
      go_roundg (N - (k + 1))
      case measure => omega
      case rel => exact ⟨k + 1, by omega, rfl, by simp, rfl⟩
    · go_wp2
      go_ret
      exact ⟨rfl, rfl⟩

set_option maxRecDepth 20000 in
set_option maxHeartbeats 1000000 in
theorem qroom_any {w : World} {n : Int} (h0 : 0 ≤ n) (h1 : n ≤ 100000000000000) :
    Calls Tryz.prog 104 #[.int .i64 n] w fun e w' => e = .returned (.int .i64 (n * 30103 / 100000 + 1)) ∧ w' = w := by
  go_enter Tryz.func104, Tryz.ntmps104
  go_wp2
  go_ret
  exact ⟨rfl, rfl⟩

/-- what tens answers for at most 1152 digits -/
def Tens (w : World) (n : Nat) (v : Value) : Prop :=
  (n ≤ 576 ∧ v = .slice none 0 0) ∨
  (576 < n ∧ ∃ g pv, v = .slice (some ⟨g, 0, none⟩) 1 1 ∧ g < w.heap.size ∧ w.cell? ⟨g, 0, none⟩ = some pv ∧ Arg w pv (tn 576) 120)
set_option maxRecDepth 100000 in
set_option maxHeartbeats 8000000 in
theorem tens_few {w : World} {n : Nat} (h : n ≤ 1152) :
    Calls Tryz.prog 106 #[.int .i64 n] w fun e w' => ∃ v, e = .returned v ∧ Tens w' n v ∧ Below w.heap.size w w' := by
  by_cases c : n ≤ 576
  · have c1 : (n : Int) ≤ 576 := by omega
    go_enter Tryz.func106, Tryz.ntmps106
    go_wp2
    go_ret
    exact ⟨_, rfl, .inl ⟨c, rfl⟩, Below.refl _ _⟩
  · have c1 : ¬ (n : Int) ≤ 576 := by omega
    have c2 : ¬ (1152 : Int) < (n : Int) := by omega
    go_enter Tryz.func106, Tryz.ntmps106
    go_wp2_with fail
    refine (pow_ok (b := 10) (N := 576) (k := 4) (by omega) (by omega) ⟨by decide, fun _ => by decide⟩ (by omega) (.inr (by omega))).mono ?_
    rintro e w1 ⟨v, rfl, hv, hb⟩
    have hp : Arg w1 v (tn 576) 120 := (hv.tight (k' := 120) (by have := tn_1152; have := tn_mono (show 576 ≤ 1152 by omega); show tn 576 < _; omega)).arg
    have HP := hide hp
    clear hv
    obtain ⟨zs, ⟨ao, cap, rfl, -⟩, -⟩ := hp
    go_wp2
    refine wp_loop_rounds 1 ?_
    rw [rounds_succ]
    go_wp2
    go_ret
    refine ⟨_, rfl, .inr ⟨by omega, w1.heap.size, _, rfl, by simp, ?_, HP.out.below (al_one _ _)⟩, below_trans hb (al_one _ _)⟩
    rw [World.cell?_alloc_at _ _ _ _ rfl]; rfl

set_option maxRecDepth 100000 in
set_option maxHeartbeats 8000000 in
theorem number_leaf {w : World} {es : List Int} {s : ByteArray} {N c : Nat} {ao : Option Addr} (hd : Dg es) (hs : s = strOfNums es) (hN : es.length = N) (hl : N ≤ 1152) :
    Calls Tryz.prog 149 #[.string s, .slice ao 0 c] w fun e w' => ∃ v, e = .returned v ∧ Arg w' v (dg es) 120 ∧ Below w.heap.size w w' := by
  have H := leaf_any (w := w) hd hs hN hl
  clear hd hs hN hl
  go_enter Tryz.func149, Tryz.ntmps149
  go_wp2_with fail
  refine H.mono ?_
  clear H
  rintro e w1 ⟨v, rfl, hn, hb⟩
  have HN := hide (And.intro hn hb)
  clear hn hb
  go_wp2
  go_ret
  exact ⟨_, rfl, HN.out.1, HN.out.2⟩

set_option maxRecDepth 100000 in
set_option maxHeartbeats 8000000 in
theorem number_few {w : World} {es : List Int} {s : ByteArray} {N : Nat} {tv : Value} (hd : Dg es) (hs : s = strOfNums es) (hN : es.length = N) (hl : N ≤ 1152) (ht : Tens w N tv) :
    Calls Tryz.prog 149 #[.string s, tv] w fun e w' => ∃ v, e = .returned v ∧ Arg w' v (dg es) 120 ∧ Below w.heap.size w w' := by
  rcases ht with ⟨h1, rfl⟩ | ⟨h1, g, pv, rfl, hg, hc, hp⟩
  · exact number_leaf hd hs hN hl
  · have hsz : s.size = N := by rw [hs, strOfNums_size, hN]
    obtain ⟨at_, hat⟩ : ∃ a : Nat, (N : Int) - 576 = (a : Int) := ⟨N - 576, by omega⟩
    have hat0 : ¬ (at_ : Int) < 0 := by omega
    have x1 : s.extract 0 at_ = strOfNums (es.take at_) := by rw [hs, txt_cut, List.drop_zero]
    have x2 : s.extract at_ N = strOfNums (es.drop at_) := by rw [hs, txt_cut, List.take_of_length_le (by omega)]
    have D1 := hide (hd.take at_)
    have D2 := hide (hd.drop at_)
    have L1 := hide (show (es.take at_).length = at_ by rw [List.length_take, hN]; omega)
    have L2 := hide (show (es.drop at_).length = 576 by rw [List.length_drop, hN]; omega)
    have HE := hide (show dg es = dg (es.take at_) * tn 576 + dg (es.drop at_) by
      have k := dg_append (es.take at_) (es.drop at_)
      rw [List.take_append_drop, L2.out] at k
      exact k)
    have HL := hide (dg_limbs hd (by omega))
    have HP := hide hp
    have HC := hide hc
    have ha1 : at_ ≤ N := by omega
    have ha2 : at_ ≤ 1152 := by omega
    clear hd hs hN hp hc
    go_enter Tryz.func149, Tryz.ntmps149
    go_upto_region 5 with fail
    have K : Below w.heap.size w w.drew := (Below.refl _ _).drew
    go_region_held3 (fun _ => True) (exact trivial)
      (first
        | (go_at_call 149; have _z := A1; (refine (number_leaf D2.out ?_ L2.out ?_).mono ?_); (first | exact x2 | rfl); omega; rintro r w3 ⟨v2, rfl, A2, b2⟩; replace K := below_trans K b2; replace A1 := A1.below b2)
        | (go_at_call 149; (refine (number_leaf D1.out ?_ L1.out ha2).mono ?_); (first | exact x1 | rfl); rintro r w2 ⟨v1, rfl, A1, b1⟩; replace K := below_trans K b1; clear b1))
    have AP := HP.out.below K
    have c0 := (K.cell (p := ⟨g, 0, none⟩) hg).trans HC.out
    have HA := hide (And.intro A1 A2)
    clear A1 A2 b2
    go_wp2_with fail
    with_reducible refine (mul_any HA.out.1 AP (by omega) (by omega)).mono ?_
    rintro e w4 ⟨v4, rfl, hn4, b4⟩
    go_wp2_with fail
    with_reducible refine (add_any hn4.arg (HA.out.2.below b4) (by omega) (by omega)).mono ?_
    rintro e w5 ⟨v5, rfl, hn5, b5⟩
    rw [← HE.out] at hn5
    have HN := hide (And.intro (hn5.tight (k' := 120) HL.out).arg (below_trans (below_trans K b4) b5))
    clear hn4 hn5 b4 b5 AP c0
    go_wp2
    go_ret
    exact ⟨_, rfl, HN.out.1, HN.out.2⟩

set_option maxRecDepth 100000 in
set_option maxHeartbeats 8000000 in
theorem qread_few {w : World} {es : List Int} {s : ByteArray} {N : Nat} (hd : Dg es) (hs : s = strOfNums es) (hN : es.length = N) (hl : N ≤ 1152) (n0 : 0 < N) (h0 : Nt.lb es 0 ≠ 48) :
    Calls Tryz.prog 125 #[.string s] w fun e w' => ∃ v, e = .returned (.tuple #[v, .bool true]) ∧ Arg w' v (dg es) 120 ∧ Below w.heap.size w w' := by
  have hsz : s.size = N := by rw [hs, strOfNums_size, hN]
  have H1 := isNumber_any (w := w) hd hs hN hl n0 h0
  have HD := hide (And.intro hd (And.intro hs hN))
  clear hd hs hN h0
  have hr : ¬ (2525223 : Int) < (N : Int) := by omega
  go_enter Tryz.func125, Tryz.ntmps125
  go_wp2_with fail
  refine H1.mono ?_
  clear H1
  rintro e w' ⟨rfl, rfl⟩
  go_wp2_with fail
  refine (qroom_any (n := 8388608) (by omega) (by omega)).mono ?_
  rintro e w1 ⟨rfl, rfl⟩
  go_wp2_with fail
  refine (tens_few hl).mono ?_
  rintro e w2 ⟨tv, rfl, hT, b2⟩
  have HT := hide (And.intro hT b2)
  clear hT b2
  go_wp2_with fail
  refine (number_few HD.out.1 HD.out.2.1 HD.out.2.2 hl HT.out.1).mono ?_
  rintro e w3 ⟨v, rfl, hA, b3⟩
  have HA := hide (And.intro hA (below_trans HT.out.2 b3))
  obtain ⟨zs, ⟨ao, cap, rfl, -⟩, -, -, hz⟩ := hA
  have hz2 : ¬ (262144 : Int) < (zs.length : Int) := by omega
  clear b3
  go_wp2
  go_ret2
  exact ⟨_, rfl, HA.out.1, HA.out.2⟩

end Go.Proofs.YtigehipclkoecaaGreatDoor
