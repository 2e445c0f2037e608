/- JAll -/
import Derived.Test.YtinfkoiifemjmaaGreatDoorS03
import Derived.Test.YtinfkoiifemjmaaGreatDoorS07
import Derived.Test.YtinfkoiifemjmaaGreatDoorS02
import Derived.Deep.LoopGhost
import Derived.Deep.RegionHeld3
import Derived.Deep.Cut
import Derived.Test.YtinfkoiifemjmaaGreatDoorS10
import Derived.Laws.RangeString
import Derived.Laws.RangeAny
import Derived.Handy
import Derived.Laws.ResultCell
import Derived.Test.YtinfkoiifemjmaaGreatDoorS12
import Derived.Test.YtinfkoiifemjmaaGreatDoorS04
import Derived.Laws.Cover1
import Derived.LoopN
import Derived.Laws.BytesArg
import Derived.Test.YtinfkoiifemjmaaGreatDoorS11
namespace Go.Proofs.YtinfkoiifemjmaaGreatDoor
open Go.RowKit
set_option linter.unusedVariables false

theorem tn_1152 : tn 1152 < Nt.pw 120 := by
  rw [← p2_32, p2_pow]
  unfold tn
  decide +kernel
theorem dg_limbs {es : List Int} (h : Dgt es) (hl : es.length ≤ 1152) : dg es < Nt.pw 120 := by
  have a := dg_range h
  have b := tn_mono hl
  have c := tn_1152
  omega
theorem arg_none (w : World) (k : Nat) : Arg w (.slice none 0 0) 0 k := ⟨[], ⟨none, 0, rfl, Nat.le_refl _, by unfold maxLen; omega, fun h => absurd h (by simp)⟩, Nt.canon_nil.1, rfl, Nat.zero_le _⟩
theorem al_one (w : World) (o : Obj) : Below w.heap.size w (w.alloc o) := (Below.refl _ _).alloc (Nat.le_refl _) _
theorem ok_lit {x : Int} (h : 0 ≤ x ∧ x < 4294967296) : Nt.Ok [x] := by
  intro i
  match i with
  | 0 => exact h
  | i + 1 => simp [Nt.lb]
theorem val_lit (x : Int) : Nt.val [x] = x := by
  show Nt.vt _ 1 = x
  simp only [Nt.vt, Nt.pw, Nt.lb, List.getD_cons_zero]
  omega
theorem row_lit (w : World) (x : Int) : Row .u32 96 (w.alloc (.cells #[.int .u32 x] 96)) w.heap.size [x] := by
  unfold Row
  rw [heap_alloc_new]
  rfl
theorem arg_lit (w : World) {x : Int} (h : 0 ≤ x ∧ x < 4294967296) : Arg (w.alloc (.cells #[.int .u32 x] 96)) (.slice (some ⟨w.heap.size, 0, none⟩) 1 1) x 1 := by
  refine ⟨[x], ⟨some ⟨w.heap.size, 0, none⟩, 1, rfl, Nat.le_refl _, by unfold maxLen; omega, fun _ => ⟨w.heap.size, 0, rfl, (row_lit w x).lt, fun i hi => ?_⟩⟩, ok_lit h, val_lit x, Nat.le_refl _⟩
  rw [Nat.zero_add]
  exact (row_lit w x).cell hi
/-- what a text's bytes are -/
theorem txt_ix {es : List Int} {s : ByteArray} (hs : s = strOfNums es) (hd : Dgt es) : ∀ p (h : p < s.size), ((s[p]'h).toNat : Int) = Nt.lb es p ∧ 48 ≤ Nt.lb es p ∧ Nt.lb es p ≤ 57 := by
  intro p h
  subst hs
  have hp : p < es.length := by rw [strOfNums_size] at h; exact h
  exact ⟨txt_at h hd.byt, hd _ (lb_in hp)⟩
theorem dg_drop_take {es : List Int} (p z : Nat) (h : p + z ≤ es.length) : dg (es.take (p + z)) = dg (es.take p) * tn z + dg ((es.drop p).take z) := by
  rw [List.take_add, dg_append]
  congr 3
  rw [List.length_take, List.length_drop]; omega
theorem dg_nine {es : List Int} (h : Dgt es) (z : Nat) (hz : z ≤ 9) : 0 ≤ dg (es.take z) ∧ dg (es.take z) < 1000000000 := by
  obtain ⟨a, b⟩ := dg_range (h.take z)
  have c : tn (es.take z).length ≤ tn 9 := tn_mono (by rw [List.length_take]; omega)
  have d : tn 9 = 1000000000 := by decide
  omega

theorem txt_full {s : ByteArray} (h : 0 < s.size) : s.toList.isEmpty = false := by
  rw [ByteArray.toList_eq]
  cases hl : s.data.toList with
  | nil =>
    exfalso
    have h1 : s.data.size = 0 := by rw [← Array.length_toList, hl]; rfl
    have h2 : s.size = s.data.size := rfl
    omega
  | cons _ _ => rfl

set_option maxRecDepth 100000 in
set_option maxHeartbeats 8000000 in
theorem leaf_any {w : World} {es : List Int} {s : ByteArray} {N : Nat} (hd : Dgt es) (hs : s = strOfNums es) (hN : es.length = N) (hl : N ≤ 1152) :
    Calls Tryz.prog 185 #[.string s] w fun e w' => ∃ v, e = .returned v ∧ Arg w' v (dg es) 120 ∧ Below w.heap.size w w' := by
  have Hd := hide hd
  have HN := hide hN
  have HS := hide hs
  clear hd hN hs
  go_enter Tryz.func185, Tryz.ntmps185
  go_wp2
  go_loopg [0, 3] N (fun c sv va wr => ∃ p : Nat, p ≤ N ∧ c = N - p ∧ (p = 0 ∨ (N - p) % 9 = 0) ∧ sv = .string (strOfNums (es.drop p)) ∧ Arg wr va (dg (es.take p)) 120 ∧ Below w.heap.size w wr)
  case atStart => exact ⟨0, by omega, rfl, .inl rfl, by rw [HS.out]; rfl, by simpa [dg] using arg_none w 120, Below.refl _ _⟩
  case round =>
    obtain ⟨p, hp, hgp, hp9, rfl, ha, hb⟩ := hrel
    have HP9 := hide hp9
    clear hp9
    obtain ⟨t, ht⟩ : ∃ t, t = strOfNums (es.drop p) := ⟨_, rfl⟩
    obtain ⟨M, hM⟩ : ∃ M : Nat, M = N - p := ⟨_, rfl⟩
    have htz : t.size = M := by rw [ht, strOfNums_size, List.length_drop, HN.out, hM]
    have HT := hide ht
    have HA := hide ha
    rw [← ht]
    clear ht ha
    have hgM : M + p = N := by omega
    have HM := hide hgM
    have hMl : M ≤ 1152 := by omega
    have m1 : (M : Int) ≤ 1152 := by omega
    have HG := hide hgp
    clear hM hgM hgp
    have HW := hide hb
    clear hb
    by_cases hpl : p < N
    · have m0 : (0 : Int) < (M : Int) := by have := HM.out; omega
      obtain ⟨z, hz⟩ : ∃ z : Nat, z = (M - 1) % 9 + 1 := ⟨_, rfl⟩
      have hz1 : ((M : Int) - 1) % 9 + 1 = (z : Int) := by omega
      have z9 : z ≤ 9 := by omega
      have zM : z ≤ M := by omega
      have z0 : 0 < z := by omega
      have HZ := hide hz
      clear hz
      have Hdp := hide (Hd.out.drop p)
      have Hix := hide (txt_ix HT.out (Hd.out.drop p))
      have Hlp := hide (show (es.drop p).length = M by rw [List.length_drop, HN.out]; have := HM.out; omega)
      go_wp2
      go_loopg [5, 16] z (fun c gv iv wx => ∃ j : Nat, j ≤ z ∧ c = z - j ∧ iv = .int .i64 j ∧ gv = .int .u32 (dg ((es.drop p).take j)) ∧ wx = wr)
      case atStart => exact ⟨0, by omega, rfl, rfl, by simp [dg], rfl⟩
      case round =>
        obtain ⟨j, hj, hgj, rfl, rfl, hw⟩ := hrel
        replace hw := hw.symm
        subst hw
        by_cases hjl : j < z
        · have hps : j < t.size := by omega
          obtain ⟨hx, x0, x1⟩ := Hix.out j hps
          have hv := hide (dg_take (ds := es.drop p) (k := j) (by rw [Hlp.out]; omega))
          obtain ⟨d, hdd⟩ : ∃ d, Nt.lb (es.drop p) j = d := ⟨_, rfl⟩
          rw [hdd] at hx x0 x1 hv
          clear hdd
          have sm := dg_nine Hdp.out (j + 1) (by omega)
          have sm0 := (dg_nine Hdp.out j (by omega)).1
          rw [hv.out] at sm
          obtain ⟨g, hg⟩ : ∃ g, dg ((es.drop p).take j) = g := ⟨_, rfl⟩
          rw [hg] at hv sm sm0 ⊢
          obtain ⟨sm1, sm2⟩ := sm
          have q4 : (j : Int) < (z : Int) := by omega
          have wd : IntKind.u8.wrap (d - 48) = d - 48 := by rw [IntKind.wrap_u8]; omega
          have wd2 : IntKind.u32.wrap (d - 48) = d - 48 := by rw [IntKind.wrap_u32]; omega
          have wd3 : IntKind.u32.wrap (g * 10) = g * 10 := by rw [IntKind.wrap_u32]; omega
          have wd4 : IntKind.u32.wrap (g * 10 + (d - 48)) = g * 10 + (d - 48) := by rw [IntKind.wrap_u32]; omega
          clear hg
          go_wp2
          go_roundg (z - (j + 1))
          case measure => omega
          case rel => exact ⟨j + 1, by omega, rfl, by simp, by rw [hv.out], rfl⟩
        · have hje : j = z := by omega
          subst hje
          have sm := dg_nine Hdp.out j (by omega)
          have hv := hide (dg_drop_take (es := es) p j (by rw [HN.out]; have := HM.out; omega))
          have Hlim := hide (dg_limbs (Hd.out.take (p + j)) (by rw [List.length_take, HN.out]; omega))
          obtain ⟨g, hg⟩ : ∃ g, dg ((es.drop p).take j) = g := ⟨_, rfl⟩
          rw [hg] at hv sm ⊢
          have ho : 0 ≤ g ∧ g < 4294967296 := by omega
          have Ho := hide ho
          clear hg ho sm hgj
          go_wp2_with fail
          with_reducible refine (mul_any (HA.out.below (al_one wr _)) (arg_lit wr (x := 1000000000) (by omega)) (by omega) (by omega)).mono ?_
          rintro e w1 ⟨v1, rfl, hn1, hb1⟩
          have hb01 := below_trans (al_one wr _) hb1
          go_wp2_with fail
          with_reducible refine (add_any (hn1.arg.below (al_one w1 _)) (arg_lit w1 (x := g) Ho.out) (by omega) (by omega)).mono ?_
          rintro e w2 ⟨v2, rfl, hn2, hb2⟩
          have hb02 := below_trans hb01 (below_trans (al_one w1 _) hb2)
          have heq : dg (es.take p) * 1000000000 + g = dg (es.take (p + j)) := by
            rw [hv.out]
            rcases HP9.out with k | k
            · subst k; simp [dg]
            · have : j = 9 := by have := HM.out; have := HZ.out; omega
              rw [this]; rfl
          rw [heq] at hn2
          have hnum := (hn2.tight (k' := 120) Hlim.out).arg
          have HN2 := hide hnum
          have HB2 := hide hb02
          clear hn1 hb1 hb2 hb01 hn2 hnum hb02 heq
          have hx : t.extract j M = strOfNums (es.drop (p + j)) := by
            rw [HT.out, txt_cut, List.take_of_length_le (by rw [Hlp.out]; omega), List.drop_drop]
          have hMs : (j : Int) ≤ (M : Int) := by omega
          go_wp2
          go_roundg (N - (p + j))
          case measure => have := HM.out; have := HG.out; omega
          case rel => exact ⟨p + j, by have := HM.out; omega, rfl, .inr (by have := HM.out; have := HZ.out; omega), rfl, HN2.out, below_trans HW.out HB2.out⟩
    · have hpN : p = N := by omega
      have Hend := hide (show Arg wr u3 (dg es) 120 by have := HA.out; rwa [List.take_of_length_le (by rw [HN.out]; omega)] at this)
      have hM0 : M = 0 := by have := HM.out; omega
      go_wp2
      go_ret
      exact ⟨_, rfl, Hend.out, HW.out⟩


set_option maxRecDepth 100000 in
set_option maxHeartbeats 8000000 in
theorem isNumber_any {w : World} {es : List Int} {s : ByteArray} {N : Nat} (hd : Dgt es) (hs : s = strOfNums es) (hN : es.length = N) (hl : N ≤ 1152) (n0 : 0 < N) (h0 : Nt.lb es 0 ≠ 48) :
    Calls Tryz.prog 169 #[.string s] w fun e w' => e = .returned (.bool true) ∧ w' = w := by
  have hsz : s.size = N := by rw [hs, strOfNums_size, hN]
  have Hix := hide (txt_ix hs hd)
  clear hd hN hs
  have hp0 : 0 < s.size := by omega
  obtain ⟨hx0, -, -⟩ := Hix.out 0 hp0
  have hz : (Nt.lb es 0 == 48) = false := by simp [h0]
  obtain ⟨d0, hd0⟩ : ∃ d, Nt.lb es 0 = d := ⟨_, rfl⟩
  rw [hd0] at hx0 hz
  clear hd0 h0
  have hne : s.toList.isEmpty = false := txt_full hp0
  have hN0 : (0 : Int) < (N : Int) := by omega
  go_enter Tryz.func169, Tryz.ntmps169
  go_wp2
  clear hx0 hz hne
  go_loopg [17] N (fun c i wr => ∃ k : Nat, k ≤ N ∧ c = N - k ∧ i = .int .i64 k ∧ wr = w)
  case atStart => exact ⟨0, by omega, rfl, rfl, rfl⟩
  case round =>
    obtain ⟨k, hk, hgk, rfl, hw⟩ := hrel
    replace hw := hw.symm
    subst hw
    by_cases hkl : k < N
    · have hps : k < s.size := by omega
      obtain ⟨hx, x0, x1⟩ := Hix.out k hps
      obtain ⟨d, hdd⟩ : ∃ d, Nt.lb es k = d := ⟨_, rfl⟩
      rw [hdd] at hx x0 x1
      clear hdd
      have q4 : (k : Int) < (N : Int) := by omega
      have l1 : ¬ d < 48 := by omega
      have l2 : ¬ 57 < d := by omega
      go_wp2
      go_roundg (N - (k + 1))
      case measure => omega
      case rel => exact ⟨k + 1, by omega, rfl, by simp, rfl⟩
    · go_wp2
      go_ret
      exact ⟨rfl, rfl⟩

set_option maxRecDepth 20000 in
set_option maxHeartbeats 1000000 in
theorem qroom_any {w : World} {n : Int} (h0 : 0 ≤ n) (h1 : n ≤ 100000000000000) :
    Calls Tryz.prog 170 #[.int .i64 n] w fun e w' => e = .returned (.int .i64 (n * 30103 / 100000 + 1)) ∧ w' = w := by
  go_enter Tryz.func170, Tryz.ntmps170
  go_wp2
  go_ret
  exact ⟨rfl, rfl⟩

/-- what tens answers for at most 1152 digits -/
def Tens (w : World) (n : Nat) (v : Value) : Prop :=
  (n ≤ 576 ∧ v = .slice none 0 0) ∨
  (576 < n ∧ ∃ g pv, v = .slice (some ⟨g, 0, none⟩) 1 1 ∧ g < w.heap.size ∧ w.cell? ⟨g, 0, none⟩ = some pv ∧ Arg w pv (tn 576) 120)
set_option maxRecDepth 100000 in
set_option maxHeartbeats 8000000 in
theorem tens_few {w : World} {n : Nat} (h : n ≤ 1152) :
    Calls Tryz.prog 172 #[.int .i64 n] w fun e w' => ∃ v, e = .returned v ∧ Tens w' n v ∧ Below w.heap.size w w' := by
  by_cases c : n ≤ 576
  · have c1 : (n : Int) ≤ 576 := by omega
    go_enter Tryz.func172, Tryz.ntmps172
    go_wp2
    go_ret
    exact ⟨_, rfl, .inl ⟨c, rfl⟩, Below.refl _ _⟩
  · have c1 : ¬ (n : Int) ≤ 576 := by omega
    have c2 : ¬ (1152 : Int) < (n : Int) := by omega
    go_enter Tryz.func172, Tryz.ntmps172
    go_wp2_with fail
    refine (pow_ok (b := 10) (N := 576) (k := 4) (by omega) (by omega) ⟨by decide, fun _ => by decide⟩ (by omega) (.inr (by omega))).mono ?_
    rintro e w1 ⟨v, rfl, hv, hb⟩
    have hp : Arg w1 v (tn 576) 120 := (hv.tight (k' := 120) (by have := tn_1152; have := tn_mono (show 576 ≤ 1152 by omega); show tn 576 < _; omega)).arg
    have HP := hide hp
    clear hv
    obtain ⟨zs, ⟨ao, cap, rfl, -⟩, -⟩ := hp
    go_wp2
    refine wp_loop_rounds 1 ?_
    rw [rounds_succ]
    go_wp2
    go_ret
    refine ⟨_, rfl, .inr ⟨by omega, w1.heap.size, _, rfl, by simp, ?_, HP.out.below (al_one _ _)⟩, below_trans hb (al_one _ _)⟩
    rw [World.cell?_alloc_at _ _ _ _ rfl]; rfl

set_option maxRecDepth 100000 in
set_option maxHeartbeats 8000000 in
theorem number_leaf {w : World} {es : List Int} {s : ByteArray} {N c : Nat} {ao : Option Addr} (hd : Dgt es) (hs : s = strOfNums es) (hN : es.length = N) (hl : N ≤ 1152) :
    Calls Tryz.prog 171 #[.string s, .slice ao 0 c] w fun e w' => ∃ v, e = .returned v ∧ Arg w' v (dg es) 120 ∧ Below w.heap.size w w' := by
  have H := leaf_any (w := w) hd hs hN hl
  clear hd hs hN hl
  go_enter Tryz.func171, Tryz.ntmps171
  go_wp2_with fail
  refine H.mono ?_
  clear H
  rintro e w1 ⟨v, rfl, hn, hb⟩
  have HN := hide (And.intro hn hb)
  clear hn hb
  go_wp2
  go_ret
  exact ⟨_, rfl, HN.out.1, HN.out.2⟩

set_option maxRecDepth 100000 in
set_option maxHeartbeats 8000000 in
theorem number_few {w : World} {es : List Int} {s : ByteArray} {N : Nat} {tv : Value} (hd : Dgt es) (hs : s = strOfNums es) (hN : es.length = N) (hl : N ≤ 1152) (ht : Tens w N tv) :
    Calls Tryz.prog 171 #[.string s, tv] w fun e w' => ∃ v, e = .returned v ∧ Arg w' v (dg es) 120 ∧ Below w.heap.size w w' := by
  rcases ht with ⟨h1, rfl⟩ | ⟨h1, g, pv, rfl, hg, hc, hp⟩
  · exact number_leaf hd hs hN hl
  · have hsz : s.size = N := by rw [hs, strOfNums_size, hN]
    obtain ⟨at_, hat⟩ : ∃ a : Nat, (N : Int) - 576 = (a : Int) := ⟨N - 576, by omega⟩
    have hat0 : ¬ (at_ : Int) < 0 := by omega
    have x1 : s.extract 0 at_ = strOfNums (es.take at_) := by rw [hs, txt_cut, List.drop_zero]
    have x2 : s.extract at_ N = strOfNums (es.drop at_) := by rw [hs, txt_cut, List.take_of_length_le (by omega)]
    have D1 := hide (hd.take at_)
    have D2 := hide (hd.drop at_)
    have L1 := hide (show (es.take at_).length = at_ by rw [List.length_take, hN]; omega)
    have L2 := hide (show (es.drop at_).length = 576 by rw [List.length_drop, hN]; omega)
    have HE := hide (show dg es = dg (es.take at_) * tn 576 + dg (es.drop at_) by
      have k := dg_append (es.take at_) (es.drop at_)
      rw [List.take_append_drop, L2.out] at k
      exact k)
    have HL := hide (dg_limbs hd (by omega))
    have HP := hide hp
    have HC := hide hc
    have ha1 : at_ ≤ N := by omega
    have ha2 : at_ ≤ 1152 := by omega
    clear hd hs hN hp hc
    go_enter Tryz.func171, Tryz.ntmps171
    go_upto_region 5 with fail
    have K : Below w.heap.size w w.drew := (Below.refl _ _).drew
    go_region_held3 (fun _ => True) (exact trivial)
      (first
        | (go_at_call 171; have _z := A1; (refine (number_leaf D2.out ?_ L2.out ?_).mono ?_); (first | exact x2 | rfl); omega; rintro r w3 ⟨v2, rfl, A2, b2⟩; replace K := below_trans K b2; replace A1 := A1.below b2)
        | (go_at_call 171; (refine (number_leaf D1.out ?_ L1.out ha2).mono ?_); (first | exact x1 | rfl); rintro r w2 ⟨v1, rfl, A1, b1⟩; replace K := below_trans K b1; clear b1))
    have AP := HP.out.below K
    have c0 := (K.cell (p := ⟨g, 0, none⟩) hg).trans HC.out
    have HA := hide (And.intro A1 A2)
    clear A1 A2 b2
    go_wp2_with fail
    with_reducible refine (mul_any HA.out.1 AP (by omega) (by omega)).mono ?_
    rintro e w4 ⟨v4, rfl, hn4, b4⟩
    go_wp2_with fail
    with_reducible refine (add_any hn4.arg (HA.out.2.below b4) (by omega) (by omega)).mono ?_
    rintro e w5 ⟨v5, rfl, hn5, b5⟩
    rw [← HE.out] at hn5
    have HN := hide (And.intro (hn5.tight (k' := 120) HL.out).arg (below_trans (below_trans K b4) b5))
    clear hn4 hn5 b4 b5 AP c0
    go_wp2
    go_ret
    exact ⟨_, rfl, HN.out.1, HN.out.2⟩

set_option maxRecDepth 100000 in
set_option maxHeartbeats 8000000 in
theorem qread_few {w : World} {es : List Int} {s : ByteArray} {N : Nat} (hd : Dgt es) (hs : s = strOfNums es) (hN : es.length = N) (hl : N ≤ 1152) (n0 : 0 < N) (h0 : Nt.lb es 0 ≠ 48) :
    Calls Tryz.prog 132 #[.string s] w fun e w' => ∃ v, e = .returned (.tuple #[v, .bool true]) ∧ Arg w' v (dg es) 120 ∧ Below w.heap.size w w' := by
  have hsz : s.size = N := by rw [hs, strOfNums_size, hN]
  have H1 := isNumber_any (w := w) hd hs hN hl n0 h0
  have HD := hide (And.intro hd (And.intro hs hN))
  clear hd hs hN h0
  have hr : ¬ (2525223 : Int) < (N : Int) := by omega
  go_enter Tryz.func132, Tryz.ntmps132
  go_wp2_with fail
  refine H1.mono ?_
  clear H1
  rintro e w' ⟨rfl, rfl⟩
  go_wp2_with fail
  refine (qroom_any (n := 8388608) (by omega) (by omega)).mono ?_
  rintro e w1 ⟨rfl, rfl⟩
  go_wp2_with fail
  refine (tens_few hl).mono ?_
  rintro e w2 ⟨tv, rfl, hT, b2⟩
  have HT := hide (And.intro hT b2)
  clear hT b2
  go_wp2_with fail
  refine (number_few HD.out.1 HD.out.2.1 HD.out.2.2 hl HT.out.1).mono ?_
  rintro e w3 ⟨v, rfl, hA, b3⟩
  have HA := hide (And.intro hA (below_trans HT.out.2 b3))
  obtain ⟨zs, ⟨ao, cap, rfl, -⟩, -, -, hz⟩ := hA
  have hz2 : ¬ (262144 : Int) < (zs.length : Int) := by omega
  clear b3
  go_wp2
  go_ret2
  exact ⟨_, rfl, HA.out.1, HA.out.2⟩

end Go.Proofs.YtinfkoiifemjmaaGreatDoor

namespace Go.Proofs.YtinfkoiifemjmaaGreatDoor
open Go.RowKit
set_option linter.unusedVariables false

/-- the first and the last digit that is not 0, among the first i -/
def Ends (es : List Int) (N i : Nat) (f e : Int) : Prop :=
  (f = N ∧ e = 0 ∧ ∀ j, j < i → Nt.lb es j = 48) ∨
  (∃ a b : Nat, f = a ∧ e = b ∧ a < b ∧ b ≤ i ∧ Nt.lb es a ≠ 48 ∧ Nt.lb es (b - 1) ≠ 48 ∧ (∀ j, j < a → Nt.lb es j = 48) ∧ ∀ j, b ≤ j → j < i → Nt.lb es j = 48)
theorem ends_nought {es : List Int} {N i : Nat} {f e : Int} (h : Ends es N i f e) (h0 : Nt.lb es i = 48) : Ends es N (i + 1) f e := by
  rcases h with ⟨h1, h2, h3⟩ | ⟨a, b, h1, h2, h3, h4, h5, h6, h7, h8⟩
  · exact .inl ⟨h1, h2, fun j hj => by
      rcases Nat.lt_or_ge j i with g | g
      · exact h3 j g
      · rw [show j = i by omega]; exact h0⟩
  · exact .inr ⟨a, b, h1, h2, h3, by omega, h5, h6, h7, fun j hj hk => by
      rcases Nat.lt_or_ge j i with g | g
      · exact h8 j hj g
      · rw [show j = i by omega]; exact h0⟩
theorem ends_digit {es : List Int} {N i : Nat} {f e : Int} (hi : i < N) (h : Ends es N i f e) (h0 : Nt.lb es i ≠ 48) : Ends es N (i + 1) (min f i) (i + 1) := by
  rcases h with ⟨h1, h2, h3⟩ | ⟨a, b, h1, h2, h3, h4, h5, h6, h7, h8⟩
  · exact .inr ⟨i, i + 1, by omega, by omega, by omega, by omega, h0, by simpa using h0, h3, fun j hj hk => by omega⟩
  · exact .inr ⟨a, i + 1, by omega, by omega, by omega, by omega, h5, by simpa using h0, h7, fun j hj hk => by omega⟩

theorem not_dg {es : List Int} {i : Nat} (hi : i < es.length) (h : ¬ (48 ≤ Nt.lb es i ∧ Nt.lb es i ≤ 57)) : ¬ Dgt es := fun hd => h (hd _ (lb_in hi))
theorem all_dg {es : List Int} (h : ∀ j, j < es.length → 48 ≤ Nt.lb es j ∧ Nt.lb es j ≤ 57) : Dgt es := fun x hx => by
  obtain ⟨j, hj, rfl⟩ := List.getElem_of_mem hx
  rw [← lb_get hj]; exact h j hj

set_option maxRecDepth 100000 in
set_option maxHeartbeats 8000000 in
theorem numberOf_any {w : World} {es : List Int} {s : ByteArray} {N : Nat} {ng : Bool} {P : Int} (hd : Byt es) (hs : s = strOfNums es) (hN : es.length = N) (hl : N ≤ 9223372036854775807) :
    Calls Tryz.prog 58 #[.agg #[.bool ng, .string s, .int .i64 P]] w fun e w' => Below w.heap.size w w' ∧
      ((¬ Dgt es ∧ e = .returned (.tuple #[.agg #[.bool false, .string ⟨#[]⟩, .int .i64 0, .int .i64 0], .bool false])) ∨
       (Dgt es ∧ (∀ j, j < N → Nt.lb es j = 48) ∧ e = .returned (.tuple #[.agg #[.bool ng, .string ⟨#[]⟩, .int .i64 0, .int .i64 0], .bool true])) ∨
       (Dgt es ∧ ∃ a b : Nat, a < b ∧ b ≤ N ∧ Nt.lb es a ≠ 48 ∧ Nt.lb es (b - 1) ≠ 48 ∧ (∀ j, j < a → Nt.lb es j = 48) ∧ (∀ j, b ≤ j → j < N → Nt.lb es j = 48) ∧
         e = .returned (.tuple #[.agg #[.bool ng, .string (strOfNums ((es.take b).drop a)), .int .i64 P, .int .i64 a], .bool true]))) := by
  have hsz : s.size = N := by rw [hs, strOfNums_size, hN]
  have Hd := hide hd
  have HN := hide hN
  have HS := hide hs
  have hix : ∀ p (h : p < s.size), ((s[p]'h).toNat : Int) = Nt.lb es p := by
    intro p h
    subst hs
    exact txt_at h hd
  have Hix := hide hix
  clear hd hN hs hix
  go_enter Tryz.func58, Tryz.ntmps58
  go_wp2
  have K0 : Below w.heap.size w ((w.alloc (.cells #[.bool ng, .string s, .int .i64 P] 23)).alloc (.cells #[.bool false, .string ⟨#[]⟩, .int .i64 0, .int .i64 0] 106)) :=
    ((Below.refl _ _).alloc (Nat.le_refl _) _).alloc (by simp) _
  have z2 : ((w.alloc (.cells #[.bool ng, .string s, .int .i64 P] 23)).alloc (.cells #[.bool false, .string ⟨#[]⟩, .int .i64 0, .int .i64 0] 106)).heap.size = w.heap.size + 1 + 1 := by simp
  have Kb : ∀ k, Below (w.alloc (.cells #[.bool ng, .string s, .int .i64 P] 23)).heap.size (w.alloc (.cells #[.bool ng, .string s, .int .i64 P] 23)) (((w.alloc (.cells #[.bool ng, .string s, .int .i64 P] 23)).alloc (.cells #[.bool false, .string ⟨#[]⟩, .int .i64 0, .int .i64 0] 106)).iter s k) := fun k => by
    show Below _ _ (((w.alloc (.cells #[.bool ng, .string s, .int .i64 P] 23)).alloc (.cells #[.bool false, .string ⟨#[]⟩, .int .i64 0, .int .i64 0] 106)).alloc (.stringIter s k))
    exact ((Below.refl _ _).alloc (Nat.le_refl _) _).alloc (by simp) _
  have C := cell3_new w (.bool ng) (.string s) (.int .i64 P) 23
  have g0 : ∀ k, (((w.alloc (.cells #[.bool ng, .string s, .int .i64 P] 23)).alloc (.cells #[.bool false, .string ⟨#[]⟩, .int .i64 0, .int .i64 0] 106)).iter s k).cell? ⟨w.heap.size, 0, none⟩ = some (.bool ng) := fun k => ((Kb k).cell (p := ⟨w.heap.size, 0, none⟩) (by simp)).trans C.c0
  have g1 : ∀ k, (((w.alloc (.cells #[.bool ng, .string s, .int .i64 P] 23)).alloc (.cells #[.bool false, .string ⟨#[]⟩, .int .i64 0, .int .i64 0] 106)).iter s k).cell? ⟨w.heap.size, 1, none⟩ = some (.string s) := fun k => ((Kb k).cell (p := ⟨w.heap.size, 1, none⟩) (by simp)).trans C.c1
  have g2 : ∀ k, (((w.alloc (.cells #[.bool ng, .string s, .int .i64 P] 23)).alloc (.cells #[.bool false, .string ⟨#[]⟩, .int .i64 0, .int .i64 0] 106)).iter s k).cell? ⟨w.heap.size, 2, none⟩ = some (.int .i64 P) := fun k => ((Kb k).cell (p := ⟨w.heap.size, 2, none⟩) (by simp)).trans C.c2
  have Kc : ∀ k, Below ((w.alloc (.cells #[.bool ng, .string s, .int .i64 P] 23)).alloc (.cells #[.bool false, .string ⟨#[]⟩, .int .i64 0, .int .i64 0] 106)).heap.size ((w.alloc (.cells #[.bool ng, .string s, .int .i64 P] 23)).alloc (.cells #[.bool false, .string ⟨#[]⟩, .int .i64 0, .int .i64 0] 106)) (((w.alloc (.cells #[.bool ng, .string s, .int .i64 P] 23)).alloc (.cells #[.bool false, .string ⟨#[]⟩, .int .i64 0, .int .i64 0] 106)).iter s k) := fun k => by
    show Below _ _ (((w.alloc (.cells #[.bool ng, .string s, .int .i64 P] 23)).alloc (.cells #[.bool false, .string ⟨#[]⟩, .int .i64 0, .int .i64 0] 106)).alloc (.stringIter s k))
    exact (Below.refl _ _).alloc (Nat.le_refl _) _
  have n1 : (w.alloc (.cells #[.bool ng, .string s, .int .i64 P] 23)).heap.size = w.heap.size + 1 := by simp
  have r0 : ∀ k, (((w.alloc (.cells #[.bool ng, .string s, .int .i64 P] 23)).alloc (.cells #[.bool false, .string ⟨#[]⟩, .int .i64 0, .int .i64 0] 106)).iter s k).cell? ⟨w.heap.size + 1, 0, none⟩ = some (.bool false) := fun k => ((Kc k).cell (p := ⟨w.heap.size + 1, 0, none⟩) (by simp)).trans (by rw [World.cell?_alloc_at _ _ _ _ (by rw [n1])]; rfl)
  have f0 : ∀ k, (((w.alloc (.cells #[.bool ng, .string s, .int .i64 P] 23)).alloc (.cells #[.bool false, .string ⟨#[]⟩, .int .i64 0, .int .i64 0] 106)).iter s k).frozen? ⟨w.heap.size + 1, 0, none⟩ = false := fun k => ((Kc k).frozen (p := ⟨w.heap.size + 1, 0, none⟩) (by simp)).trans (by rw [World.frozen?_alloc_at _ _ _ _ (by rw [n1])])
  have r1 : ∀ k, (((w.alloc (.cells #[.bool ng, .string s, .int .i64 P] 23)).alloc (.cells #[.bool false, .string ⟨#[]⟩, .int .i64 0, .int .i64 0] 106)).iter s k).cell? ⟨w.heap.size + 1, 1, none⟩ = some (.string ⟨#[]⟩) := fun k => ((Kc k).cell (p := ⟨w.heap.size + 1, 1, none⟩) (by simp)).trans (by rw [World.cell?_alloc_at _ _ _ _ (by rw [n1])]; rfl)
  have f1 : ∀ k, (((w.alloc (.cells #[.bool ng, .string s, .int .i64 P] 23)).alloc (.cells #[.bool false, .string ⟨#[]⟩, .int .i64 0, .int .i64 0] 106)).iter s k).frozen? ⟨w.heap.size + 1, 1, none⟩ = false := fun k => ((Kc k).frozen (p := ⟨w.heap.size + 1, 1, none⟩) (by simp)).trans (by rw [World.frozen?_alloc_at _ _ _ _ (by rw [n1])])
  have r2 : ∀ k, (((w.alloc (.cells #[.bool ng, .string s, .int .i64 P] 23)).alloc (.cells #[.bool false, .string ⟨#[]⟩, .int .i64 0, .int .i64 0] 106)).iter s k).cell? ⟨w.heap.size + 1, 2, none⟩ = some (.int .i64 0) := fun k => ((Kc k).cell (p := ⟨w.heap.size + 1, 2, none⟩) (by simp)).trans (by rw [World.cell?_alloc_at _ _ _ _ (by rw [n1])]; rfl)
  have f2 : ∀ k, (((w.alloc (.cells #[.bool ng, .string s, .int .i64 P] 23)).alloc (.cells #[.bool false, .string ⟨#[]⟩, .int .i64 0, .int .i64 0] 106)).iter s k).frozen? ⟨w.heap.size + 1, 2, none⟩ = false := fun k => ((Kc k).frozen (p := ⟨w.heap.size + 1, 2, none⟩) (by simp)).trans (by rw [World.frozen?_alloc_at _ _ _ _ (by rw [n1])])
  have r3 : ∀ k, (((w.alloc (.cells #[.bool ng, .string s, .int .i64 P] 23)).alloc (.cells #[.bool false, .string ⟨#[]⟩, .int .i64 0, .int .i64 0] 106)).iter s k).cell? ⟨w.heap.size + 1, 3, none⟩ = some (.int .i64 0) := fun k => ((Kc k).cell (p := ⟨w.heap.size + 1, 3, none⟩) (by simp)).trans (by rw [World.cell?_alloc_at _ _ _ _ (by rw [n1])]; rfl)
  have f3 : ∀ k, (((w.alloc (.cells #[.bool ng, .string s, .int .i64 P] 23)).alloc (.cells #[.bool false, .string ⟨#[]⟩, .int .i64 0, .int .i64 0] 106)).iter s k).frozen? ⟨w.heap.size + 1, 3, none⟩ = false := fun k => ((Kc k).frozen (p := ⟨w.heap.size + 1, 3, none⟩) (by simp)).trans (by rw [World.frozen?_alloc_at _ _ _ _ (by rw [n1])])
  have Kit : ∀ k u0 u1 u2 u3, Below w.heap.size w (((((((w.alloc (.cells #[.bool ng, .string s, .int .i64 P] 23)).alloc (.cells #[.bool false, .string ⟨#[]⟩, .int .i64 0, .int .i64 0] 106)).iter s k).setCell ⟨w.heap.size + 1, 0, none⟩ u0).setCell ⟨w.heap.size + 1, 1, none⟩ u1).setCell ⟨w.heap.size + 1, 2, none⟩ u2).setCell ⟨w.heap.size + 1, 3, none⟩ u3) := fun k u0 u1 u2 u3 =>
    (((((K0.trans ((Kc k).mono (by simp; omega))).setCell (p := ⟨w.heap.size + 1, 0, none⟩) (Nat.le_succ _) u0).setCell (p := ⟨w.heap.size + 1, 1, none⟩) (Nat.le_succ _) u1).setCell (p := ⟨w.heap.size + 1, 2, none⟩) (Nat.le_succ _) u2).setCell (p := ⟨w.heap.size + 1, 3, none⟩) (Nat.le_succ _) u3)
  clear Kb Kc C n1
  generalize ((w.alloc (.cells #[.bool ng, .string s, .int .i64 P] 23)).alloc (.cells #[.bool false, .string ⟨#[]⟩, .int .i64 0, .int .i64 0] 106)) = w2 at *
  go_loopg [4, 5] N (fun c fv ev wr => ∃ (i : Nat) (f e : Int), i ≤ N ∧ c = N - i ∧ fv = .int .i64 f ∧ ev = .int .i64 e ∧ wr = w2.iter s i ∧ Ends es N i f e ∧ ∀ j, j < i → 48 ≤ Nt.lb es j ∧ Nt.lb es j ≤ 57)
  case atStart => exact ⟨0, N, 0, by omega, rfl, rfl, rfl, rfl, .inl ⟨rfl, rfl, fun j hj => absurd hj (by omega)⟩, fun j hj => absurd hj (by omega)⟩
  case round =>
    obtain ⟨i, f, e, hi, hgi, rfl, rfl, hw, hE, hD⟩ := hrel
    replace hw := hw.symm
    subst hw
    have HE := hide hE
    have HJ := hide (show (48 ≤ Nt.lb es i ∧ Nt.lb es i ≤ 57) → ∀ j, j < i + 1 → 48 ≤ Nt.lb es j ∧ Nt.lb es j ≤ 57 from fun g j hj => by
      rcases Nat.lt_or_ge j i with k | k
      · exact hD j k
      · rw [show j = i by omega]; exact g)
    have HD := hide hD
    clear hE hD
    by_cases hiN : i < N
    · have his : i < s.size := by omega
      have hb := Hix.out i his
      by_cases ha : (s[i]'his).toNat < 128
      · obtain ⟨d, hdd⟩ : ∃ d, Nt.lb es i = d := ⟨_, rfl⟩
        rw [hdd] at hb
        have hnx : ∀ ty, (Instr.next (.pointer (some ⟨w.heap.size + 1 + 1, 0, none⟩)) true ty).run Tryz.prog (w2.iter s i) = .ok (.tuple #[.bool true, .int .i64 i, .int .i32 d]) (w2.iter s (i + 1)) := fun ty => by rw [← z2, ← hb]; exact run_next_ascii w2 s i ty his ha
        have Hdd := hide hdd
        clear hdd
        by_cases l0 : d < 48
        · go_wp2
          (try simp only [Exit.inBlock, Exit.then])
          refine bodyPost_ret (v := .tuple #[.agg #[.bool false, .string ⟨#[]⟩, .int .i64 0, .int .i64 0], .bool false]) (by rw [results_cell_tmp rfl]; go_simp) rfl ?_
          exact ⟨Kit _ _ _ _ _, .inl ⟨not_dg (by rw [HN.out]; exact hiN) (by rw [Hdd.out]; omega), rfl⟩⟩
        · by_cases l1 : 57 < d
          · go_wp2
            (try simp only [Exit.inBlock, Exit.then])
            refine bodyPost_ret (v := .tuple #[.agg #[.bool false, .string ⟨#[]⟩, .int .i64 0, .int .i64 0], .bool false]) (by rw [results_cell_tmp rfl]; go_simp) rfl ?_
            exact ⟨Kit _ _ _ _ _, .inl ⟨not_dg (by rw [HN.out]; exact hiN) (by rw [Hdd.out]; omega), rfl⟩⟩
          · by_cases l2 : d = 48
            · have l3 : (d != 48) = false := by simp [l2]
              go_wp2
              go_roundg (N - (i + 1))
              case measure => omega
              case rel => exact ⟨i + 1, f, e, by omega, rfl, rfl, rfl, rfl, ends_nought HE.out (by rw [Hdd.out]; exact l2), HJ.out (by rw [Hdd.out]; omega)⟩
            · have l3 : (d != 48) = true := by simp [l2]
              have HM := hide (ends_digit hiN HE.out (by rw [Hdd.out]; exact l2))
              by_cases l4 : (i : Int) < f
              · go_wp2
                go_roundg (N - (i + 1))
                case measure => omega
                case rel => exact ⟨i + 1, i, i + 1, by omega, rfl, rfl, rfl, rfl, by have := HM.out; rwa [show min f (i : Int) = i by omega] at this, HJ.out (by rw [Hdd.out]; omega)⟩
              · go_wp2
                go_roundg (N - (i + 1))
                case measure => omega
                case rel => exact ⟨i + 1, f, i + 1, by omega, rfl, rfl, rfl, rfl, by have := HM.out; rwa [show min f (i : Int) = f by omega] at this, HJ.out (by rw [Hdd.out]; omega)⟩
      · have hnx : ∀ ty, (Instr.next (.pointer (some ⟨w.heap.size + 1 + 1, 0, none⟩)) true ty).run Tryz.prog (w2.iter s i) = .ok (.tuple #[.bool true, .int .i64 i, .int .i32 (Utf8.decode s i).1]) (w2.iter s (i + (Utf8.decode s i).2)) := fun ty => by rw [← z2]; exact run_next_any w2 s i ty his
        obtain ⟨u1, u2⟩ := decode_high s i his (by omega)
        generalize (Utf8.decode s i).1 = r at *
        generalize (Utf8.decode s i).2 = q at *
        have l0 : ¬ (r : Int) < 48 := by omega
        have l1 : 57 < (r : Int) := by omega
        go_wp2
        (try simp only [Exit.inBlock, Exit.then])
        refine bodyPost_ret (v := .tuple #[.agg #[.bool false, .string ⟨#[]⟩, .int .i64 0, .int .i64 0], .bool false]) (by rw [results_cell_tmp rfl]; go_simp) rfl ?_
        exact ⟨Kit _ _ _ _ _, .inl ⟨not_dg (by rw [HN.out]; exact hiN) (by omega), rfl⟩⟩
    · have his : ¬ i < s.size := by omega
      have hnx : ∀ ty, (Instr.next (.pointer (some ⟨w.heap.size + 1 + 1, 0, none⟩)) true ty).run Tryz.prog (w2.iter s i) = .ok (.tuple #[.bool false]) (w2.iter s i) := fun ty => by rw [← z2]; exact run_next_end w2 s i ty his
      have hiE : i = N := by omega
      have HDg := hide (all_dg (es := es) (fun j hj => HD.out j (by rw [HN.out] at hj; omega)))
      subst hiE
      rcases HE.out with ⟨h1, h2, h3⟩ | ⟨a, b, h1, h2, h3, h4, h5, h6, h7, h8⟩
      · subst h1 h2
        have H3 := hide h3
        clear h3
        go_wp2
        (try simp only [Exit.inBlock, Exit.then])
        refine bodyPost_ret (v := .tuple #[.agg #[.bool ng, .string ⟨#[]⟩, .int .i64 0, .int .i64 0], .bool true]) (by rw [results_cell_tmp rfl]; go_simp) rfl ?_
        exact ⟨Kit _ _ _ _ _, .inr (.inl ⟨HDg.out, H3.out, rfl⟩)⟩
      · subst h1 h2
        have H5 := hide (And.intro h5 (And.intro h6 (And.intro h7 h8)))
        clear h5 h6 h7 h8
        have hb0 : ((b : Int) == 0) = false := by simp; omega
        have hc := txt_cut es a b
        rw [← HS.out] at hc
        have hab : a ≤ b := by omega
        have hbs : b ≤ i := by omega
        have hbs2 : b ≤ s.size := by omega
        go_upto_region 11 with fail
        have q0 := g0 i
        have q1 := g1 i
        have q2 := g2 i
        go_region
        go_wp2
        (try simp only [Exit.inBlock, Exit.then])
        refine bodyPost_ret (v := .tuple #[.agg #[.bool ng, .string (strOfNums ((es.take b).drop a)), .int .i64 P, .int .i64 a], .bool true]) (by rw [results_cell_tmp rfl]; go_simp) rfl ?_
        refine ⟨?_, .inr (.inr ⟨HDg.out, a, b, by omega, by omega, H5.out.1, H5.out.2.1, H5.out.2.2.1, H5.out.2.2.2, rfl⟩)⟩
        have k := Kit i (.bool ng) (.string (strOfNums ((es.take b).drop a))) (.int .i64 P) (.int .i64 a)
        exact ⟨k.os, k.tape, k.output, k.size, k.block⟩

end Go.Proofs.YtinfkoiifemjmaaGreatDoor

namespace Go.Proofs.YtinfkoiifemjmaaGreatDoor
open Go.RowKit
set_option linter.unusedVariables false

theorem dv_of_up {F L I A r : Int} {n : Nat} (W : Wide F L I) (h : Near F L I (2 * (A * 5 ^ n) + b2i false) ((n : Int) - 1) r) : DV F L I A n r := by
  have k := near_dn_up (by have := W.f0; omega) W.l1 h
  have e : A * 5 ^ n * p2 n = A * tn n := by rw [tn_p2, Int.mul_assoc]
  unfold DV
  rw [show (-(n : Int)).toNat = 0 by omega, Int.toNat_natCast, tn_zero, ← e]
  exact k
theorem pow5_pos (n : Nat) : (0 : Int) < 5 ^ n := Int.pow_pos (by omega)
theorem quot_big {A D : Int} {kA k5 up : Nat} (hA : IsLen A kA) (h0 : 0 < A) (h5 : IsLen D k5) (hD : 0 < D) (hup : k5 + 64 ≤ kA + up) : p2 63 ≤ A * p2 up / D := by
  rw [Int.le_ediv_iff_mul_le hD]
  have kp : 0 < kA := by
    rcases Nat.eq_zero_or_pos kA with z | z
    · subst z; have := hA.1; simp [p2] at this; omega
    · exact z
  have a := hA.2 kp
  have b : p2 (kA - 1) * p2 up ≤ A * p2 up := Int.mul_le_mul_of_nonneg_right a (Int.le_of_lt (p2_pos _))
  rw [← p2_add] at b
  have c : p2 (63 + k5) ≤ p2 (kA - 1 + up) := p2_mono (by omega)
  rw [p2_add] at c
  have d : p2 63 * D ≤ p2 63 * p2 k5 := Int.mul_le_mul_of_nonneg_left (Int.le_of_lt h5.1) (Int.le_of_lt (p2_pos _))
  omega
/-- there is more -/
def Mr (b : Bool) (x : Int) : Prop := b = true ↔ x ≠ 0
theorem dv_of_dn {F L I A r : Int} {n up kA k5 : Nat} {more : Bool} (W : Wide F L I) (hF : 2 * F ≤ p2 63) (h0 : 0 < A) (hA : IsLen A kA) (h5 : IsLen (5 ^ n) k5) (hup : k5 + 64 ≤ kA + up)
    (hm : Mr more (A * p2 up % 5 ^ n)) (h : Near F L I (2 * (A * p2 up / 5 ^ n) + b2i more) (-(n : Int) - up - 1) r) : DV F L I A (-(n : Int)) r := by
  have D0 := pow5_pos n
  unfold DV
  rw [show (-(n : Int)).toNat = 0 by omega, show (-(-(n : Int))).toNat = n by omega, tn_zero, Int.mul_one]
  refine near_dn (a := A * p2 up / 5 ^ n) (D := 5 ^ n) (rest := A * p2 up % 5 ^ n) (mb := b2i more) (up := up + n) (by have := W.f0; omega) (by have := W.l1; omega) D0 (tn_pos n) (Int.emod_nonneg _ (by omega)) (Int.emod_lt_of_pos _ D0) ?_ ?_ ?_ ?_
  · by_cases z : A * p2 up % 5 ^ n = 0
    · rw [if_pos z]
      cases more
      · rfl
      · exact absurd z (hm.1 rfl)
    · rw [if_neg z, hm.2 z]; rfl
  · intro _
    have := quot_big hA h0 h5 D0 hup
    omega
  · have e : A * p2 up / 5 ^ n * 5 ^ n + A * p2 up % 5 ^ n = A * p2 up := by have := Int.mul_ediv_add_emod (A * p2 up) (5 ^ n); rw [Int.mul_comm] at this; exact this
    rw [e, p2_add, tn_p2]
    ac_rfl
  · rw [show -((up + n : Nat) : Int) - 1 = -(n : Int) - up - 1 by omega]
    exact h
theorem five_lt {n : Nat} (h : n ≤ 1131) : (5 : Int) ^ n < Nt.pw 83 := by
  have a : (5 : Int) ^ n ≤ 5 ^ 1131 := by
    obtain ⟨d, hd⟩ : ∃ d, 1131 = n + d := ⟨1131 - n, by omega⟩
    rw [hd, Int.pow_add]
    have := pow5_pos d
    have := Int.mul_le_mul_of_nonneg_left (show (1 : Int) ≤ 5 ^ d by omega) (Int.le_of_lt (pow5_pos n))
    omega
  have b : (5 : Int) ^ 1131 < Nt.pw 83 := by rw [← p2_32, p2_pow]; decide +kernel
  omega
theorem wide_f_d : 2 * (4503599627370496 : Int) ≤ p2 63 := by decide

set_option maxRecDepth 100000 in
set_option maxHeartbeats 8000000 in
theorem scaled_d {w : World} (T : Lays w) {va : Value} {A e : Int} {ng : Bool} (ha : Arg w va A 120) (hA : 0 < A) (e0 : -1131 ≤ e) (e1 : e ≤ 309) :
    Calls Tryz.prog 94 #[.bool ng, va, .int .i64 e] w fun x w' => ∃ r, x = .returned (.int .u64 (r + b2i ng * 9223372036854775808)) ∧ DV 4503599627370496 (-1074) 9218868437227405312 A e r ∧ Below w.heap.size w w' := by
  by_cases c : 0 ≤ e
  · obtain ⟨n, rfl⟩ : ∃ n : Nat, e = n := ⟨e.toNat, by omega⟩
    have n9 : n ≤ 309 := by omega
    have HA := hide ha
    clear ha
    go_enter Tryz.func94, Tryz.ntmps94
    go_wp2_with fail
    refine (pow_ok (b := 5) (N := n) (k := 3) (by omega) (by omega) ⟨by decide, fun _ => by decide⟩ (by omega) (.inr (by omega))).mono ?_
    rintro x w1 ⟨v1, rfl, h1, b1⟩
    have H1 := hide h1
    clear h1
    go_wp2_with fail
    with_reducible refine (mul_any (HA.out.below b1) H1.out.arg (by omega) (by omega)).mono ?_
    rintro x w2 ⟨v2, rfl, h2, b2⟩
    have H2 := hide h2
    clear h2
    have K := below_trans b1 b2
    clear b1 b2
    go_wp2_with fail
    with_reducible refine (round_64 (T.below K) H2.out.arg (by omega) (by omega) (by omega)).mono ?_
    rintro x w3 ⟨r, rfl, hN, b3⟩
    have HN := hide (dv_of_up wide_d hN)
    have K3 := below_trans K b3
    clear hN b3
    go_wp2
    go_ret
    exact ⟨r, rfl, HN.out, K3⟩
  · obtain ⟨n, rfl⟩ : ∃ n : Nat, e = -(n : Int) := ⟨(-e).toNat, by omega⟩
    have n9 : n ≤ 1131 := by omega
    have HA := hide ha
    clear ha
    go_enter Tryz.func94, Tryz.ntmps94
    go_wp2_with fail
    refine (pow_ok (b := 5) (N := n) (k := 3) (by omega) (by omega) ⟨by decide, fun _ => by decide⟩ (by omega) (.inr (by omega))).mono ?_
    rintro x w1 ⟨v1, rfl, h1, b1⟩
    have H1 := hide (h1.tight (five_lt n9))
    clear h1
    have A1 := hide (HA.out.below b1)
    go_wp2_with fail
    with_reducible refine (len_any H1.out.arg (by omega)).mono ?_
    rintro x w' ⟨k5, rfl, hk5, l5, rfl⟩
    have H5 := hide hk5
    clear hk5
    go_wp2_with fail
    with_reducible refine (len_any A1.out (by omega)).mono ?_
    rintro x w'' ⟨kA, rfl, hkA, lA, rfl⟩
    have HkA := hide hkA
    clear hkA
    obtain ⟨up, hup⟩ : ∃ up : Nat, (up : Int) = max 0 ((k5 : Int) + 64 - kA) := ⟨(max 0 ((k5 : Int) + 64 - kA)).toNat, by omega⟩
    have hu1 : k5 + 64 ≤ kA + up := by omega
    have hu2 : up ≤ 2720 := by omega
    by_cases m0 : 0 < (k5 : Int) + 64 - kA
    · have mx : (k5 : Int) + 64 - kA = (up : Int) := by omega
      clear hup
      go_wp2_with fail
      with_reducible refine (shl_room (N := up) A1.out (by omega) (by omega)).mono ?_
      rintro x w2 ⟨v2, rfl, h2, b2⟩
      have H2 := hide h2
      clear h2
      have P1 := hide (H1.out.arg.below b2)
      have K := below_trans b1 b2
      clear b2
      go_wp2_with fail
      with_reducible refine (div_any H2.out.arg P1.out (by omega) (by omega) (pow5_pos n)).mono ?_
      rintro x w3 ⟨vq, vr, rfl, hq, hr, b3⟩
      have HQ := hide hq
      have K3 := below_trans K b3
      clear hq b3 K
      obtain ⟨zr, ⟨ro, rfl, zr1, -⟩, zr2, zr3, zr4⟩ := hr
      have HZ := hide (And.intro zr2 zr3)
      clear zr2 zr3
      obtain ⟨more, hmore⟩ : ∃ m : Bool, m = decide (0 < zr.length) := ⟨_, rfl⟩
      have HM := hide (show Mr more (A * p2 up % 5 ^ n) by
        unfold Mr
        rw [hmore, decide_eq_true_iff]
        have k := Nt.canon_zero HZ.out.1
        rw [HZ.out.2] at k
        rw [Ne, k, ← List.length_eq_zero_iff]
        omega)
      have hmore2 : decide ((0 : Int) < (zr.length : Int)) = more := by rw [hmore]; congr 1; apply propext; omega
      by_cases z0 : 0 < zr.length
      · have z1 : (0 : Int) < (zr.length : Int) := by omega
        have mt : more = true := by rw [hmore]; simp [z0]
        subst mt
        clear hmore hmore2
        go_wp2_with fail
        with_reducible refine (round_64 (T.below K3) HQ.out.arg (by omega) (by omega) (by omega)).mono ?_
        rintro x w4 ⟨r, rfl, hN, b4⟩
        have HN := hide (dv_of_dn wide_d wide_f_d hA HkA.out H5.out hu1 HM.out hN)
        have K4 := below_trans K3 b4
        clear hN b4
        go_wp2
        go_ret
        exact ⟨r, rfl, HN.out, K4⟩
      · have z1 : zr.length = 0 := by omega
        have mt : more = false := by rw [hmore]; simp [z1]
        subst mt
        clear hmore hmore2
        go_wp2_with fail
        with_reducible refine (round_64 (T.below K3) HQ.out.arg (by omega) (by omega) (by omega)).mono ?_
        rintro x w4 ⟨r, rfl, hN, b4⟩
        have HN := hide (dv_of_dn (up := up) wide_d wide_f_d hA HkA.out H5.out hu1 HM.out hN)
        have K4 := below_trans K3 b4
        clear hN b4
        go_wp2
        go_ret
        exact ⟨r, rfl, HN.out, K4⟩
    · have mx : up = 0 := by omega
      subst mx
      clear hup
      go_wp2_with fail
      refine (shl_room (N := 0) A1.out (by omega) (by omega)).mono ?_
      rintro x w2 ⟨v2, rfl, h2, b2⟩
      have H2 := hide h2
      clear h2
      have P1 := hide (H1.out.arg.below b2)
      have K := below_trans b1 b2
      clear b2
      go_wp2_with fail
      with_reducible refine (div_any H2.out.arg P1.out (by omega) (by omega) (pow5_pos n)).mono ?_
      rintro x w3 ⟨vq, vr, rfl, hq, hr, b3⟩
      have HQ := hide hq
      have K3 := below_trans K b3
      clear hq b3 K
      obtain ⟨zr, ⟨ro, rfl, zr1, -⟩, zr2, zr3, zr4⟩ := hr
      have HZ := hide (And.intro zr2 zr3)
      clear zr2 zr3
      obtain ⟨more, hmore⟩ : ∃ m : Bool, m = decide (0 < zr.length) := ⟨_, rfl⟩
      have HM := hide (show Mr more (A * p2 0 % 5 ^ n) by
        unfold Mr
        rw [hmore, decide_eq_true_iff]
        have k := Nt.canon_zero HZ.out.1
        rw [HZ.out.2] at k
        rw [Ne, k, ← List.length_eq_zero_iff]
        omega)
      have hmore2 : decide ((0 : Int) < (zr.length : Int)) = more := by rw [hmore]; congr 1; apply propext; omega
      by_cases z0 : 0 < zr.length
      · have z1 : (0 : Int) < (zr.length : Int) := by omega
        have mt : more = true := by rw [hmore]; simp [z0]
        subst mt
        clear hmore hmore2
        go_wp2_with fail
        with_reducible refine (round_64 (T.below K3) HQ.out.arg (by omega) (by omega) (by omega)).mono ?_
        rintro x w4 ⟨r, rfl, hN, b4⟩
        have HN := hide (dv_of_dn (up := 0) wide_d wide_f_d hA HkA.out H5.out hu1 HM.out (by simpa using hN))
        have K4 := below_trans K3 b4
        clear hN b4
        go_wp2
        go_ret
        exact ⟨r, rfl, HN.out, K4⟩
      · have z1 : zr.length = 0 := by omega
        have mt : more = false := by rw [hmore]; simp [z1]
        subst mt
        clear hmore hmore2
        go_wp2_with fail
        with_reducible refine (round_64 (T.below K3) HQ.out.arg (by omega) (by omega) (by omega)).mono ?_
        rintro x w4 ⟨r, rfl, hN, b4⟩
        have HN := hide (dv_of_dn (up := 0) wide_d wide_f_d hA HkA.out H5.out hu1 HM.out (by simpa using hN))
        have K4 := below_trans K3 b4
        clear hN b4
        go_wp2
        go_ret
        exact ⟨r, rfl, HN.out, K4⟩

end Go.Proofs.YtinfkoiifemjmaaGreatDoor

namespace Go.Proofs.YtinfkoiifemjmaaGreatDoor
open Go.RowKit
set_option linter.unusedVariables false

theorem dv_first {F L I N q r r' : Int} (W : Wide F L I) (h : DV F L I N q r) (h' : DV F L I N q r') : r = r' := dv_same (by have := W.f0; omega) h h' (dle_refl _ _) (dle_refl _ _)
theorem near_none {F L I r : Int} (W : Wide F L I) (h : Near F L I (2 * 0 + b2i false) (0 - 1) r) : r = 0 := by
  have k := near_dn_up (F := F) (L := L) (I := I) (r := r) (N := 0) (e := 0) (by have := W.f0; omega) W.l1 (by have g := h; rw [show b2i false = 0 from rfl] at g; simpa using g)
  refine dv_first W (N := 0) (q := 0) ?_ (dv_zero W)
  unfold DV
  simpa [tn_zero] using k
theorem near_infinite {F L I r : Int} (W : Wide F L I) (h : Near F L I (2 * 1 + b2i false) (1240 - 1) r) : r = I := by
  have k := near_dn_up (N := 1) (e := 1240) (by have := W.f0; omega) W.l1 h
  refine dv_first W (N := p2 1240) (q := 0) ?_ (dv_large (k := 310) W ?_ (by omega))
  · unfold DV
    simpa [tn_zero] using k
  · rw [p2_pow]; unfold tn; decide +kernel
theorem dg_pos_last {xs : List Int} (h : Dgt xs) (hl : 0 < xs.length) (h1 : Nt.lb xs (xs.length - 1) ≠ 48) : 0 < dg xs := by
  rcases List.eq_nil_or_concat xs with e | ⟨l, b, e⟩
  · subst e; simp at hl
  · rw [List.concat_eq_append] at e
    subst e
    have hb : Nt.lb (l ++ [b]) ((l ++ [b]).length - 1) = b := by simp [Nt.lb]
    rw [hb] at h1
    have := h b (by simp)
    have := dg_range (xs := l) (fun x hx => h x (by simp [hx]))
    rw [dg_snoc]; omega
theorem lb_drop {xs : List Int} (k i : Nat) : Nt.lb (xs.drop k) i = Nt.lb xs (k + i) := by simp [Nt.lb, List.getElem?_drop]
theorem lb_take {xs : List Int} {k i : Nat} (h : i < k) : Nt.lb (xs.take k) i = Nt.lb xs i := by simp [Nt.lb, h]
/-- what stands behind 800 digits -/
theorem dv_leading {F L I q r : Int} {ds : List Int} {N : Nat} (W : Wide F L I) (hd : Dgt ds) (hN : ds.length = N) (h8 : 800 < N) (h0 : Nt.lb ds 0 ≠ 48) (h1 : Nt.lb ds (N - 1) ≠ 48)
    (hq : q ≤ 800) (h : DV F L I (dg (ds.take 800) * 10 + 1) (q - 801) r) : DV F L I (dg ds) (q - N) r := by
  have e : dg ds = dg (ds.take 800) * tn (N - 800) + dg (ds.drop 800) := by
    have k := dg_append (ds.take 800) (ds.drop 800)
    rw [List.take_append_drop, List.length_drop, hN] at k
    exact k
  have p := dg_pos_last (hd.drop 800) (by rw [List.length_drop]; omega) (by rw [List.length_drop, lb_drop, hN, show 800 + (N - 800 - 1) = N - 1 by omega]; exact h1)
  have s := (dg_range (hd.drop 800)).2
  rw [List.length_drop, hN] at s
  have l := dg_lead' (hd.take 800) (by rw [List.length_take]; omega) (by rw [lb_take (by omega)]; exact h0)
  rw [List.length_take, show min 800 ds.length - 1 = 799 by omega] at l
  have t10 : tn 1 = 10 := by decide
  refine dv_cut (A := dg (ds.take 800)) (j := 1) (j' := N - 800) W l ?_ ?_ ?_ ?_ ?_ ?_ h
  · rw [t10]; omega
  · rw [t10]; omega
  · omega
  · rw [e, Int.add_mul, Int.one_mul]; omega
  · omega
  · omega
theorem join_one (xs : List Int) : strOfNums xs ++ (⟨#[49]⟩ : ByteArray) = strOfNums (xs ++ [49]) := by rw [← txt_join]; rfl

set_option maxRecDepth 100000 in
set_option maxHeartbeats 8000000 in
theorem leading_any {w : World} {ds : List Int} {s : ByteArray} {N : Nat} (hd : Dgt ds) (hs : s = strOfNums ds) (hN : ds.length = N) (n0 : 0 < N) (hl : N ≤ 4611686018427387904) (h0 : Nt.lb ds 0 ≠ 48) :
    Calls Tryz.prog 93 #[.string s] w fun e w' => ∃ v M, ∃ K : Nat, e = .returned (.tuple #[v, .int .i64 K]) ∧ Arg w' v M 120 ∧ 0 < M ∧ Below w.heap.size w w' ∧ 1 ≤ K ∧ K ≤ 801 ∧
      ((N ≤ 800 ∧ M = dg ds ∧ K = N) ∨ (800 < N ∧ M = dg (ds.take 800) * 10 + 1 ∧ K = 801)) := by
  have hsz : s.size = N := by rw [hs, strOfNums_size, hN]
  have hpos : 0 < dg ds := by have := dg_lead' hd (by omega) h0; have := tn_pos (ds.length - 1); omega
  by_cases c : 800 < N
  · have x1 : s.extract 0 800 = strOfNums (ds.take 800) := by rw [hs, txt_cut, List.drop_zero]
    have l8 : (ds.take 800).length = 800 := by rw [List.length_take]; omega
    have z8 : (strOfNums (ds.take 800)).size = 800 := by rw [strOfNums_size, l8]
    have x2 := join_one (ds.take 800)
    have z9 : (strOfNums (ds.take 800 ++ [49])).size = 801 := by rw [strOfNums_size, List.length_append, l8]; rfl
    have p8 := (dg_range (hd.take 800)).1
    have H := fun w => qread_few (w := w) (es := ds.take 800 ++ [49]) (s := strOfNums (ds.take 800 ++ [49])) (N := 801) ((hd.take 800).append (fun x hx => by simp at hx; subst hx; decide)) rfl (by rw [List.length_append, l8]; rfl) (by omega) (by omega) (by
      rw [show Nt.lb (ds.take 800 ++ [49]) 0 = Nt.lb ds 0 by rw [lb_append_left (by omega), lb_take (by omega)]]; exact h0)
    rw [dg_snoc] at H
    have c1 : (800 : Int) < (N : Int) := by omega
    have HP := hide (And.intro hpos p8)
    clear hd hs hN h0 hpos p8
    go_enter Tryz.func93, Tryz.ntmps93
    go_wp2_with fail
    with_reducible refine (H _).mono ?_
    clear H
    rintro e w1 ⟨v, rfl, hA, b⟩
    have HA := hide (And.intro hA b)
    clear hA b
    go_wp2
    go_ret2
    exact ⟨v, _, 801, rfl, HA.out.1, by have := HP.out; omega, HA.out.2, by omega, by omega, .inr ⟨c, by omega, rfl⟩⟩
  · have c1 : ¬ (800 : Int) < (N : Int) := by omega
    have H := qread_few (w := w) hd hs hN (by omega) n0 h0
    have HP := hide hpos
    clear hd hs hN h0 hpos
    go_enter Tryz.func93, Tryz.ntmps93
    go_wp2_with fail
    with_reducible refine H.mono ?_
    clear H
    rintro e w1 ⟨v, rfl, hA, b⟩
    have HA := hide (And.intro hA b)
    clear hA b
    go_wp2
    go_ret2
    exact ⟨v, _, N, rfl, HA.out.1, HP.out, HA.out.2, by omega, by omega, .inl ⟨by omega, rfl, rfl⟩⟩

set_option maxRecDepth 100000 in
set_option maxHeartbeats 8000000 in
theorem dinf_d {w : World} (T : Lays w) {ng : Bool} :
    Calls Tryz.prog 92 #[.bool ng] w fun x w' => x = .returned (.int .u64 (9218868437227405312 + b2i ng * 9223372036854775808)) ∧ Below w.heap.size w w' := by
  go_enter Tryz.func92, Tryz.ntmps92
  go_wp2_with fail
  with_reducible refine (from_any 1 (by omega) (by omega)).mono ?_
  rintro x w1 ⟨v, rfl, h1, b1⟩
  have H1 := hide h1.arg
  clear h1
  go_wp2_with fail
  with_reducible refine (round_64 (T.below b1) H1.out (by omega) (by omega) (by omega)).mono ?_
  rintro x w2 ⟨r, rfl, hN, b2⟩
  have hr := near_infinite wide_d hN
  subst hr
  have K := below_trans b1 b2
  clear hN b1 b2
  go_wp2
  go_ret
  exact ⟨rfl, K⟩

set_option maxRecDepth 100000 in
set_option maxHeartbeats 8000000 in
theorem dnone_d {w : World} (T : Lays w) {ng : Bool} {P a : Int} (hP : -9223372036854775808 ≤ P) (hP2 : P ≤ 9223372036854775807) (ha0 : 0 ≤ a) (ha : a ≤ 4611686018427387904) :
    Calls Tryz.prog 59 #[.agg #[.bool ng, .string ⟨#[]⟩, .int .i64 P, .int .i64 a]] w fun x w' => x = .returned (.int .u64 (b2i ng * 9223372036854775808)) ∧ Below w.heap.size w w' := by
  obtain ⟨pl, hpl⟩ : ∃ pl, max P (-331) - a = pl := ⟨_, rfl⟩
  have hpr : -9223372036854775808 ≤ max P (-331) - a ∧ max P (-331) - a ≤ 9223372036854775807 := by omega
  obtain ⟨p0, p1⟩ := hpr
  clear hpl
  go_enter Tryz.func59, Tryz.ntmps59
  by_cases m : P < -331
  · go_wp2_with fail
    with_reducible refine (round_64 (ka := 0) (T.below (al_one _ _)) (arg_none _ 0) (by omega) (by omega) (by omega)).mono ?_
    rintro x w2 ⟨r, rfl, hN, b2⟩
    have hr := near_none wide_d hN
    subst hr
    have K := below_trans (al_one _ _) b2
    clear hN b2
    go_wp2
    go_ret
    exact ⟨rfl, K⟩
  · go_wp2_with fail
    with_reducible refine (round_64 (ka := 0) (T.below (al_one _ _)) (arg_none _ 0) (by omega) (by omega) (by omega)).mono ?_
    rintro x w2 ⟨r, rfl, hN, b2⟩
    have hr := near_none wide_d hN
    subst hr
    have K := below_trans (al_one _ _) b2
    clear hN b2
    go_wp2
    go_ret
    exact ⟨rfl, K⟩

set_option maxRecDepth 100000 in
set_option maxHeartbeats 8000000 in
theorem dnear_d {w : World} (T : Lays w) {ds : List Int} {s : ByteArray} {N a : Nat} {ng : Bool} {P : Int} (hd : Dgt ds) (hs : s = strOfNums ds) (hN : ds.length = N) (n0 : 0 < N) (hl : N ≤ 4611686018427387904) (h0 : Nt.lb ds 0 ≠ 48) (h1 : Nt.lb ds (N - 1) ≠ 48)
    (hP : -9223372036854775808 ≤ P) (hP2 : P ≤ 9223372036854775807) (ha : a ≤ 4611686018427387904) :
    Calls Tryz.prog 59 #[.agg #[.bool ng, .string s, .int .i64 P, .int .i64 a]] w fun x w' => ∃ r, x = .returned (.int .u64 (r + b2i ng * 9223372036854775808)) ∧ DV 4503599627370496 (-1074) 9218868437227405312 (dg ds) (P - a - N) r ∧ Below w.heap.size w w' := by
  have hsz : s.size = N := by rw [hs, strOfNums_size, hN]
  have he : s.toList.isEmpty = false := txt_full (by omega)
  obtain ⟨r0, r1⟩ := dg_range hd
  rw [hN] at r1
  have HL := hide (dg_lead' hd (by omega) h0)
  have HS := hide (show P - (a : Int) < -330 → DV 4503599627370496 (-1074) 9218868437227405312 (dg ds) (P - a - N) 0 from fun g => dv_small (k := N) wide_d r0 r1 (by omega))
  have HB := hide (show 310 < P - (a : Int) → DV 4503599627370496 (-1074) 9218868437227405312 (dg ds) (P - a - N) 9218868437227405312 from fun g => dv_large (k := N - 1) wide_d (by have := HL.out; rwa [hN] at this) (by omega))
  have HE := hide (show ∀ r, 800 < N → P - (a : Int) ≤ 800 → DV 4503599627370496 (-1074) 9218868437227405312 (dg (ds.take 800) * 10 + 1) (P - a - 801) r → DV 4503599627370496 (-1074) 9218868437227405312 (dg ds) (P - a - N) r from fun r g g2 h => dv_leading wide_d hd hN g h0 h1 g2 h)
  have HLd := hide (show ∀ w : World, _ from fun w => leading_any (w := w) hd hs hN n0 hl h0)
  clear hd hs hN h0 h1 r0 r1 HL
  have K0 : Below w.heap.size w (w.alloc (.cells #[.bool ng, .string s, .int .i64 P, .int .i64 a] 106)) := al_one _ _
  go_enter Tryz.func59, Tryz.ntmps59
  by_cases m : P < -331
  · have q1 : -331 - (a : Int) < -330 := by omega
    go_wp2_with fail
    with_reducible refine (round_64 (ka := 0) (T.below K0) (arg_none _ 0) (by omega) (by omega) (by omega)).mono ?_
    rintro x w2 ⟨r, rfl, hN, b2⟩
    have hr := near_none wide_d hN
    subst hr
    have K := below_trans K0 b2
    clear hN b2
    go_wp2
    go_ret
    exact ⟨0, ret_int (by omega), HS.out (by omega), K⟩
  · by_cases q1 : P - (a : Int) < -330
    · go_wp2_with fail
      with_reducible refine (round_64 (ka := 0) (T.below K0) (arg_none _ 0) (by omega) (by omega) (by omega)).mono ?_
      rintro x w2 ⟨r, rfl, hN, b2⟩
      have hr := near_none wide_d hN
      subst hr
      have K := below_trans K0 b2
      clear hN b2
      go_wp2
      go_ret
      exact ⟨0, ret_int (by omega), HS.out (by omega), K⟩
    · by_cases q2 : 310 < P - (a : Int)
      · go_wp2_with fail
        with_reducible refine (dinf_d (T.below K0)).mono ?_
        rintro x w2 ⟨rfl, b2⟩
        have K := below_trans K0 b2
        clear b2
        go_wp2
        go_ret
        exact ⟨_, rfl, HB.out (by omega), K⟩
      · go_wp2_with fail
        refine (HLd.out _).mono ?_
        rintro x w2 ⟨v, M, Kn, rfl, hA, m0, b2, k1, k2, hcase⟩
        have HC := hide hcase
        have HA := hide hA
        have Hm := hide m0
        clear hcase hA m0
        have K := below_trans K0 b2
        have c0 : w2.cell? ⟨w.heap.size, 0, none⟩ = some (.bool ng) := (b2.cell (p := ⟨w.heap.size, 0, none⟩) (by simp)).trans (by rw [World.cell?_alloc_at _ _ _ _ rfl]; rfl)
        clear b2
        go_wp2_with fail
        with_reducible refine (scaled_d (T.below K) HA.out Hm.out (by omega) (by omega)).mono ?_
        rintro x w3 ⟨r, rfl, hN, b3⟩
        have HN := hide (show DV 4503599627370496 (-1074) 9218868437227405312 (dg ds) (P - a - N) r by
          rcases HC.out with ⟨u1, u2, u3⟩ | ⟨u1, u2, u3⟩
          · rw [← u2, ← u3]; exact hN
          · refine HE.out r u1 (by omega) ?_
            rw [← u2]
            rw [u3] at hN
            exact hN)
        have K3 := below_trans K b3
        clear hN b3 c0
        go_wp2
        go_ret
        exact ⟨r, rfl, HN.out, K3⟩

set_option maxRecDepth 100000 in
set_option maxHeartbeats 8000000 in
theorem dread_d {w : World} (T : Lays w) {es : List Int} {s : ByteArray} {N : Nat} {ng : Bool} {P : Int} (hd : Byt es) (hs : s = strOfNums es) (hN : es.length = N) (hl : N ≤ 4611686018427387904) (hP : -9223372036854775808 ≤ P) (hP2 : P ≤ 9223372036854775807) :
    Calls Tryz.prog 36 #[.agg #[.bool ng, .string s, .int .i64 P]] w fun x w' => Below w.heap.size w w' ∧
      ((¬ Dgt es ∧ x = .returned (.tuple #[.int .u64 0, .bool false])) ∨
       (Dgt es ∧ ∃ r, x = .returned (.tuple #[.int .u64 (r + b2i ng * 9223372036854775808), .bool true]) ∧ DV 4503599627370496 (-1074) 9218868437227405312 (dg es) (P - N) r)) := by
  have HNum := hide (show ∀ w : World, _ from fun w => numberOf_any (w := w) (ng := ng) (P := P) hd hs hN (by omega))
  have HL := hide hN
  clear hd hs hN
  go_enter Tryz.func36, Tryz.ntmps36
  have K0 : Below w.heap.size w (w.alloc (.cells #[.bool ng, .string s, .int .i64 P] 23)) := al_one _ _
  go_wp2_with fail
  refine (HNum.out _).mono ?_
  rintro x w1 ⟨b1, hcase⟩
  have K1 := below_trans K0 b1
  clear b1 K0 HNum
  rcases hcase with ⟨h1, rfl⟩ | ⟨h1, h2, rfl⟩ | ⟨h1, a, b, h2, h3, h4, h5, h6, h7, rfl⟩
  · have H1 := hide h1
    clear h1
    go_wp2
    go_ret2
    exact ⟨below_trans K1 (al_one _ _), .inl ⟨H1.out, rfl⟩⟩
  · have H1 := hide (And.intro h1 h2)
    clear h1 h2
    go_wp2_with fail
    with_reducible refine (dnone_d (T.below (below_trans K1 (al_one _ _))) (by omega) (by omega) (by omega) (by omega)).mono ?_
    rintro x w2 ⟨rfl, b2⟩
    have K2 := below_trans (below_trans K1 (al_one _ _)) b2
    clear b2
    go_wp2
    go_ret2
    refine ⟨K2, .inr ⟨H1.out.1, 0, by rw [Int.zero_add]; rfl, ?_⟩⟩
    rw [dg_all (es := es) (fun j hj => H1.out.2 j (by rw [HL.out] at hj; exact hj)), dg_noughts]
    exact dv_zero wide_d
  · have H1 := hide (And.intro h1 (And.intro h4 (And.intro h5 (And.intro h6 h7))))
    clear h1 h4 h5 h6 h7
    have hab : ((es.take b).drop a).length = b - a := by rw [List.length_drop, List.length_take, HL.out]; omega
    have HN := hide (show ∀ (w : World) (T : Lays w), _ from fun w T => dnear_d (w := w) (ng := ng) (P := P) (a := a) (s := strOfNums ((es.take b).drop a)) T ((H1.out.1.take b).drop a) rfl hab (by omega) (by omega)
      (by rw [lb_drop, Nat.add_zero, lb_take (by omega)]; exact H1.out.2.1) (by rw [lb_drop, lb_take (by omega), show a + (b - a - 1) = b - 1 by omega]; exact H1.out.2.2.1) hP hP2 (by omega))
    clear hab
    go_wp2_with fail
    refine (HN.out _ (T.below (below_trans K1 (al_one _ _)))).mono ?_
    rintro x w2 ⟨r, rfl, hv, b2⟩
    have HV := hide hv
    have K2 := below_trans (below_trans K1 (al_one _ _)) b2
    clear b2 hv
    go_wp2
    go_ret2
    refine ⟨K2, .inr ⟨H1.out.1, r, rfl, ?_⟩⟩
    have k := dv_behind (N - b) HV.out
    rw [show P - (a : Int) - ((b - a : Nat) : Int) - ((N - b : Nat) : Int) = P - N by omega] at k
    have e := dg_between (es := es) (f := a) (e := b) (by rw [HL.out]; exact h3) (by omega) H1.out.2.2.2.1 (fun j hj hk => H1.out.2.2.2.2 j hj (by rw [HL.out] at hk; exact hk))
    rw [HL.out] at e
    rw [e]
    exact k

end Go.Proofs.YtinfkoiifemjmaaGreatDoor

namespace Go.Proofs.YtinfkoiifemjmaaGreatDoor
open Go.RowKit
set_option linter.unusedVariables false

def d8 (xs : List Int) : List UInt8 := xs.map fun n => UInt8.ofNat n.toNat
/-- no nought at the end -/
def Nt0 (xs : List Int) : Prop := 0 < xs.length → Nt.lb xs (xs.length - 1) ≠ 48
theorem Nt0.tail {a : Int} {x : List Int} (h : Nt0 (a :: x)) : Nt0 x := fun hx => by
  have k := h (by simp)
  rw [show (a :: x).length - 1 = x.length - 1 + 1 by simp; omega] at k
  simpa [Nt.lb] using k
def sgv (ng : Bool) (x : Int) : Int := if ng then -x else x
/-- -1, 0 or 1 of two decimal numbers -/
def dcmp (X q Y q' : Int) : Int := sgn (X * tn (q.toNat + (-q').toNat)) (Y * tn (q'.toNat + (-q).toNat))
/-- one decimal number, told twice -/
def Same10 (X q X' q' : Int) : Prop := X * tn (q.toNat + (-q').toNat) = X' * tn (q'.toNat + (-q).toNat)
theorem Same10.refl (X q : Int) : Same10 X q X q := rfl
theorem Same10.at {X q X' q' b : Int} (h : Same10 X q X' q') (h1 : b ≤ q) (h2 : b ≤ q') : X * tn (q - b).toNat = X' * tn (q' - b).toNat := (tn_shift_eq (by omega)).1 h
/-- digits without noughts at both ends -/
def Nm (ds : List Int) : Prop := Dgt ds ∧ (0 < ds.length → Nt.lb ds 0 ≠ 48) ∧ Nt0 ds
/-- the sign of a number -/
def nsg (ng : Bool) (n : Nat) : Int := if n = 0 then 0 else if ng then -1 else 1

/-- four cells of a struct -/
structure Cl4 (w : World) (b : Nat) (v0 v1 v2 v3 : Value) : Prop where
  c0 : w.cell? ⟨b, 0, none⟩ = some v0
  c1 : w.cell? ⟨b, 1, none⟩ = some v1
  c2 : w.cell? ⟨b, 2, none⟩ = some v2
  c3 : w.cell? ⟨b, 3, none⟩ = some v3
  lt : b < w.heap.size
theorem Cl4.below {w w' : World} {b : Nat} {v0 v1 v2 v3 : Value} (h : Cl4 w b v0 v1 v2 v3) (hb : Below w.heap.size w w') : Cl4 w' b v0 v1 v2 v3 :=
  ⟨(hb.cell (p := ⟨b, 0, none⟩) h.lt).trans h.c0, (hb.cell (p := ⟨b, 1, none⟩) h.lt).trans h.c1, (hb.cell (p := ⟨b, 2, none⟩) h.lt).trans h.c2, (hb.cell (p := ⟨b, 3, none⟩) h.lt).trans h.c3, Nat.lt_of_lt_of_le h.lt hb.size⟩
/-- what numberOf answers: the number without its outer noughts -/
def NumIs (es : List Int) (N : Nat) (ng : Bool) (P : Int) (ds : List Int) (P' a : Int) : Prop :=
  Nm ds ∧ Same10 (sgv ng (dg es)) (P - N) (sgv ng (dg ds)) (P' - a - ds.length) ∧ -9223372036854775808 ≤ P' ∧ P' ≤ 9223372036854775807 ∧ 0 ≤ a ∧ a ≤ 4611686018427387904
end Go.Proofs.YtinfkoiifemjmaaGreatDoor

namespace Go.Proofs.YtinfkoiifemjmaaGreatDoor
open Go.RowKit
set_option linter.unusedVariables false

end Go.Proofs.YtinfkoiifemjmaaGreatDoor

namespace Go.Proofs.YtinfkoiifemjmaaGreatDoor
open Go.RowKit
set_option linter.unusedVariables false

/-- the width that a number tells -/
def Wd (v F L I S n : Int) : Prop := 0 ≤ v ∧ v < 256 ∧
  ((v % 4 = 0 ∧ F = 1024 ∧ L = -24 ∧ I = 31744 ∧ S = 32768 ∧ n = 16) ∨ (v % 4 = 1 ∧ F = 8388608 ∧ L = -149 ∧ I = 2139095040 ∧ S = 2147483648 ∧ n = 32) ∨
   (v % 4 = 2 ∧ F = 4503599627370496 ∧ L = -1074 ∧ I = 9218868437227405312 ∧ S = 9223372036854775808 ∧ n = 64) ∨ (v % 4 = 3 ∧ F = 1024 ∧ L = -24 ∧ I = 31744 ∧ S = 32768 ∧ n = 16))
theorem Wd.ends {v F L I S n : Int} (h : Wd v F L I S n) : 0 < I ∧ I < S ∧ S ≤ 9223372036854775808 ∧ 16 ≤ n ∧ n ≤ 64 ∧ S = p2 (n - 1).toNat := by
  rcases h.2.2 with ⟨_, rfl, rfl, rfl, rfl, rfl⟩ | ⟨_, rfl, rfl, rfl, rfl, rfl⟩ | ⟨_, rfl, rfl, rfl, rfl, rfl⟩ | ⟨_, rfl, rfl, rfl, rfl, rfl⟩ <;> decide
/-- what is read of a text -/
def ReadIs (F L I S : Int) (es : List Int) (N : Nat) (ng : Bool) (P : Int) (x : Value) (ok : Bool) : Prop :=
  (¬ Dgt es ∧ x = .int .u64 0 ∧ ok = false) ∨ (Dgt es ∧ ok = true ∧ ∃ r, x = .int .u64 (r + b2i ng * S) ∧ 0 ≤ r ∧ r ≤ I ∧ DV F L I (dg es) (P - N) r)
theorem b2i_cases (ng : Bool) : b2i ng = 0 ∨ b2i ng = 1 := by cases ng <;> simp [b2i]

end Go.Proofs.YtinfkoiifemjmaaGreatDoor

namespace Go.Proofs.YtinfkoiifemjmaaGreatDoor
open Go.RowKit
set_option linter.unusedVariables false

/-- what the function that takes digits off keeps: V is left -/
def Lowd (w : World) (gc ga gg : Nat) (V : Int) : Prop := ∃ (A g : Int) (c : Nat) (va : Value),
  w.cell? ⟨gc, 0, none⟩ = some (.int .i64 c) ∧ w.cell? ⟨ga, 0, none⟩ = some va ∧ w.cell? ⟨gg, 0, none⟩ = some (.int .u32 g) ∧ Arg w va A 130 ∧ (∀ b off l cap, va = .slice (some ⟨b, off, none⟩) l cap → 0 < l → b ≠ gc ∧ b ≠ ga ∧ b ≠ gg) ∧
  c ≤ 9 ∧ 0 ≤ g ∧ g < tn c ∧ V = A * tn c + g ∧ w.frozen? ⟨gc, 0, none⟩ = false ∧ w.frozen? ⟨ga, 0, none⟩ = false ∧ w.frozen? ⟨gg, 0, none⟩ = false ∧ gc < w.heap.size ∧ ga < w.heap.size ∧ gg < w.heap.size
theorem Arg.setCell {w : World} {v : Value} {n : Int} {k : Nat} {p : Addr} {u : Value} (h : Arg w v n k) (hne : ∀ b off l cap, v = .slice (some ⟨b, off, none⟩) l cap → 0 < l → b ≠ p.block) : Arg (w.setCell p u) v n k := by
  obtain ⟨zs, ⟨ao, cap, rfl, h1, h2, h3⟩, h4, h5, h6⟩ := h
  refine ⟨zs, ⟨ao, cap, rfl, h1, h2, fun hp => ?_⟩, h4, h5, h6⟩
  obtain ⟨b, off, rfl, hb, hc⟩ := h3 hp
  have hn := hne b off _ _ rfl hp
  refine ⟨b, off, rfl, by simpa [World.setCell] using hb, fun i hi => ?_⟩
  rw [World.cell?_setCell_other _ _ _ _ (by intro e; exact hn (congrArg Addr.block e).symm)]
  exact hc i hi
/-- n digits of V, from off on -/
def Put (zs : List Int) (off n : Nat) (V : Int) (ys : List Int) : Prop := ys.length = zs.length ∧ (∀ i, i < n → Nt.lb ys (off + i) = 48 + V / tn (n - 1 - i) % 10) ∧ (∀ i, i < off ∨ off + n ≤ i → Nt.lb ys i = Nt.lb zs i)
theorem Row.at {w : World} {g : Nat} {zs : List Int} (h : Row .u8 5 w g zs) {i : Nat} (hi : i < zs.length) : w.cell? ⟨g, i, none⟩ = some (.int .u8 (Nt.lb zs i)) := h.cell hi
/-- digits and point of m times 2 to the power of e -/
def InDec (m e : Int) (ds : List Int) (pt : Int) : Prop := Nm ds ∧ 0 < ds.length ∧ ds.length ≤ 1152 ∧ -2000 ≤ pt ∧ pt ≤ 2000 ∧ dg ds * tn (pt - ds.length).toNat * p2 (-e).toNat = m * p2 e.toNat * tn (-(pt - ds.length)).toNat
/-- all digits of a size -/
def ExV (F L s : Int) (ds : List Int) (pt : Int) : Prop := Nm ds ∧ ds.length ≤ 1152 ∧ -2000 ≤ pt ∧ pt ≤ 2000 ∧ (s = 0 → ds = [] ∧ pt = 0) ∧ (0 < s → 0 < ds.length) ∧ dg ds * tn (pt - ds.length).toNat * p2 (-L).toNat = um F L L s * tn (-(pt - ds.length)).toNat
/-- what Exact answers of a pattern -/
def ExIs (F L I S x : Int) (v : Value) (ok : Bool) : Prop :=
  (I ≤ x % S ∧ v = .agg #[.bool false, .string ⟨#[]⟩, .int .i64 0] ∧ ok = false) ∨
  (x % S < I ∧ ok = true ∧ ∃ ds pt, v = .agg #[.bool (decide (S ≤ x)), .string (strOfNums ds), .int .i64 pt] ∧ ExV F L (x % S) ds pt)

end Go.Proofs.YtinfkoiifemjmaaGreatDoor
