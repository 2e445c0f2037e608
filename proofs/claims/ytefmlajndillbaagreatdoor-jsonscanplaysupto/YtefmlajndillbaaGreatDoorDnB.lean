/- ref16 on the document's scanner: value -/
import Derived.Test.YtefmlajndillbaaGreatDoorDnA
import Derived.Deep.RegionHeld3
namespace Go.Proofs.YtefmlajndillbaaGreatDoor
open Go.RowKit
set_option linter.unusedVariables false

theorem rblank {w : World} {b : Int} : Calls Tryz.prog 49 #[.int .u8 b] w fun e w' => e = .returned (.bool (blankB b)) ∧ w' = w := by
  go_enter Tryz.func49, Tryz.ntmps49
  go_wp2
  all_goals go_ret
  all_goals first | (simp_all [blankB]; done) | (refine ⟨ret_bool ?_, rfl⟩; unfold blankB; cases (b == 9) <;> cases (b == 10) <;> cases (b == 13) <;> cases (b == 32) <;> rfl)
theorem dconv_one {u : World} {c : Int} {g : Nat} (h : u.cell? ⟨g, 0, none⟩ = some (.int .u8 c)) : (convert 35 9 (.slice (some ⟨g, 0, none⟩) 1 1)).run Tryz.prog u = .ok (.string (strOfNums [c])) u :=
  run_convert_bytes_arg u 35 5 Tryz.underlying35 Tryz.underlying5 g 0 1 1 [c] rfl (fun i hi => by
    obtain rfl : i = 0 := by omega
    exact h) 9 Tryz.underlying9
theorem dnew_one {w : World} {E : TypeId} {c : Int} : (w.alloc (.cells #[.int .u8 c] E)).drew.cell? ⟨w.heap.size, 0, none⟩ = some (.int .u8 c) := by
  show (w.alloc (.cells #[.int .u8 c] E)).cell? ⟨w.heap.size, 0, none⟩ = _
  rw [Lib.cell_of_heap (heap_alloc_new w _)]; rfl

set_option maxRecDepth 100000 in
set_option maxHeartbeats 4000000 in
theorem dvalue_nb {w : World} {B p : Nat} {tv : Value} {es : List Int} {d : Dc} {n : Dn} {c : Int} (H : DcS w B p tv es d) (hn : dEq d n) (h91 : c ≠ 91) (h123 : c ≠ 123) (h0 : 0 ≤ c) (h1 : c < 256) : Calls Tryz.prog 67 #[.pointer (some ⟨p, 0, none⟩), .int .u8 c] w (DOut w B p tv d (.int .i64 (dVal c n).1) (dVal c n).2 (decide (c = 34))) := by
  by_cases k : c = 34
  · subst k
    have C := hide (dliteral (k := false) H hn)
    have E : dVal 34 n = (0, { n with keys := false, mode := 6 }) := rfl
    rw [E]; clear E
    clear H hn
    go_enter Tryz.func67, Tryz.ntmps67
    go_wp2_with fail
    refine C.out.mono ?_
    rintro e w1 ⟨tv', es', d', rfl, q1, q2, q3, q4, q5, q6, q7⟩
    have Q := hide (show _ ∧ _ ∧ _ ∧ _ ∧ _ ∧ _ ∧ _ from ⟨q1, q2, q3, q4, q5, q6, q7⟩)
    clear q1 q2 q3 q4 q5 q6 q7 C
    go_wp2
    go_ret
    obtain ⟨q1, q2, q3, q4, q5, q6, q7⟩ := Q.out
    exact ⟨tv', es', d', rfl, q1, q2, q3, q4, q5, q6, fun _ => q7 trivial⟩
  by_cases k110 : c = 110
  · subst k110
    have C := hide (dword (l := [117, 108, 108]) (s := ⟨#[117, 108, 108]⟩) H hn (by kernel_rfl))
    have E : dVal 110 n = (0, { n with mode := 7, rest := [117, 108, 108] }) := rfl
    rw [E]; clear E
    clear H hn
    go_enter Tryz.func67, Tryz.ntmps67
    go_wp2_with fail
    refine C.out.mono ?_
    rintro e w1 ⟨tv', es', d', rfl, q1, q2, q3, q4, q5, q6, q7⟩
    have Q := hide (show _ ∧ _ ∧ _ ∧ _ ∧ _ ∧ _ from ⟨q1, q2, q3, q4, q5, q6⟩)
    clear q1 q2 q3 q4 q5 q6 q7 C
    go_wp2
    go_ret
    obtain ⟨q1, q2, q3, q4, q5, q6⟩ := Q.out
    exact ⟨tv', es', d', rfl, q1, q2, q3, q4, q5, q6, fun q => absurd q (by simp)⟩
  by_cases k116 : c = 116
  · subst k116
    have C := hide (dword (l := [114, 117, 101]) (s := ⟨#[114, 117, 101]⟩) H hn (by kernel_rfl))
    have E : dVal 116 n = (0, { n with mode := 7, rest := [114, 117, 101] }) := rfl
    rw [E]; clear E
    clear H hn
    go_enter Tryz.func67, Tryz.ntmps67
    go_wp2_with fail
    refine C.out.mono ?_
    rintro e w1 ⟨tv', es', d', rfl, q1, q2, q3, q4, q5, q6, q7⟩
    have Q := hide (show _ ∧ _ ∧ _ ∧ _ ∧ _ ∧ _ from ⟨q1, q2, q3, q4, q5, q6⟩)
    clear q1 q2 q3 q4 q5 q6 q7 C
    go_wp2
    go_ret
    obtain ⟨q1, q2, q3, q4, q5, q6⟩ := Q.out
    exact ⟨tv', es', d', rfl, q1, q2, q3, q4, q5, q6, fun q => absurd q (by simp)⟩
  by_cases k102 : c = 102
  · subst k102
    have C := hide (dword (l := [97, 108, 115, 101]) (s := ⟨#[97, 108, 115, 101]⟩) H hn (by kernel_rfl))
    have E : dVal 102 n = (0, { n with mode := 7, rest := [97, 108, 115, 101] }) := rfl
    rw [E]; clear E
    clear H hn
    go_enter Tryz.func67, Tryz.ntmps67
    go_wp2_with fail
    refine C.out.mono ?_
    rintro e w1 ⟨tv', es', d', rfl, q1, q2, q3, q4, q5, q6, q7⟩
    have Q := hide (show _ ∧ _ ∧ _ ∧ _ ∧ _ ∧ _ from ⟨q1, q2, q3, q4, q5, q6⟩)
    clear q1 q2 q3 q4 q5 q6 q7 C
    go_wp2
    go_ret
    obtain ⟨q1, q2, q3, q4, q5, q6⟩ := Q.out
    exact ⟨tv', es', d', rfl, q1, q2, q3, q4, q5, q6, fun q => absurd q (by simp)⟩
  have HS := hide H
  have HN := hide hn
  have f1 := H.frz 1
  have f2 := H.frz 2
  have c1 := (dg_of H.blk).c1
  have c2 := (dg_of H.blk).c2
  have hno : d.opn = n.opn := hn.2.1
  clear H hn

  by_cases k45 : c = 45
  · subst k45
    have E : dVal 45 n = (0, { n with mode := 8 }) := rfl
    rw [E]; clear E
    go_enter Tryz.func67, Tryz.ntmps67
    go_wp2
    go_ret
    exact ⟨tv, es, _, rfl, HS.out.mode 8, (Fr.refl _ _ _).setP _, ⟨rfl, HN.out.2.1, HN.out.2.2.1, HN.out.2.2.2⟩, rfl, rfl, rfl, fun q => absurd q (by simp)⟩
  by_cases k48 : c = 48
  · subst k48
    have E : dVal 48 n = (0, { n with mode := 9 }) := rfl
    rw [E]; clear E
    go_enter Tryz.func67, Tryz.ntmps67
    go_wp2
    go_ret
    exact ⟨tv, es, _, rfl, HS.out.mode 9, (Fr.refl _ _ _).setP _, ⟨rfl, HN.out.2.1, HN.out.2.2.1, HN.out.2.2.2⟩, rfl, rfl, rfl, fun q => absurd q (by simp)⟩
  have b1 : (c == 91) = false := beq_eq_false_iff_ne.2 h91
  have b2 : (c == 123) = false := beq_eq_false_iff_ne.2 h123
  have b3 : (c == 34) = false := beq_eq_false_iff_ne.2 k
  have b4 : (c == 110) = false := beq_eq_false_iff_ne.2 k110
  have b5 : (c == 116) = false := beq_eq_false_iff_ne.2 k116
  have b6 : (c == 102) = false := beq_eq_false_iff_ne.2 k102
  have b7 : (c == 45) = false := beq_eq_false_iff_ne.2 k45
  have b8 : (c == 48) = false := beq_eq_false_iff_ne.2 k48
  have hd : decide (c = 34) = false := by simp [k]
  rw [hd]
  by_cases k9 : 49 ≤ c ∧ c ≤ 57
  · have E : dVal c n = (0, { n with mode := 10 }) := by simp [dVal, h91, h123, k, k110, k116, k102, k45, k48, k9]
    rw [E]; clear E hd
    obtain ⟨g1, g2⟩ := k9
    clear h91 h123 k k110 k116 k102 k45 k48
    go_enter Tryz.func67, Tryz.ntmps67
    go_wp2
    go_ret
    exact ⟨tv, es, _, rfl, HS.out.mode 10, (Fr.refl _ _ _).setP _, ⟨rfl, HN.out.2.1, HN.out.2.2.1, HN.out.2.2.2⟩, rfl, rfl, rfl, nofun⟩
  · have E : dVal c n = (3, n) := by simp [dVal, h91, h123, k, k110, k116, k102, k45, k48, k9]
    rw [E]; clear E hd
    by_cases g1 : 49 ≤ c
    · have g2 : ¬ c ≤ 57 := fun e => k9 ⟨g1, e⟩
      clear h91 h123 k k110 k116 k102 k45 k48 k9
      go_enter Tryz.func67, Tryz.ntmps67
      go_wp2
      go_ret
      exact ⟨tv, es, _, rfl, HS.out, Fr.refl _ _ _, HN.out, rfl, rfl, rfl, nofun⟩
    · clear h91 h123 k k110 k116 k102 k45 k48 k9
      go_enter Tryz.func67, Tryz.ntmps67
      go_wp2
      go_ret
      exact ⟨tv, es, _, rfl, HS.out, Fr.refl _ _ _, HN.out, rfl, rfl, rfl, nofun⟩
set_option maxRecDepth 100000 in
set_option maxHeartbeats 4000000 in
theorem dvalue_br {w : World} {B p : Nat} {tv : Value} {es : List Int} {d : Dc} {n : Dn} {c : Int} {m : Nat} (H : DcS w B p tv es d) (hn : dEq d n) (hu : uByt d.opn) (hl : d.opn.length ≤ 128) (hc : (c = 91 ∧ m = 1) ∨ (c = 123 ∧ m = 2)) : Calls Tryz.prog 67 #[.pointer (some ⟨p, 0, none⟩), .int .u8 c] w (DOut w B p tv d (.int .i64 (dVal c n).1) (dVal c n).2 (decide (c = 34))) := by
  have hd : decide (c = 34) = false := by simp; omega
  rw [hd]; clear hd
  have HS := hide H
  have HN := hide hn
  have f1 := H.frz 1
  have f2 := H.frz 2
  have c1 := (dg_of H.blk).c1
  have c2 := (dg_of H.blk).c2
  have hno : d.opn = n.opn := hn.2.1
  clear H hn

  obtain ⟨sw, hsw⟩ : ∃ sw, strOfNums d.opn = sw := ⟨_, rfl⟩
  rw [hsw] at c2
  have hsz : sw.size = d.opn.length := by rw [← hsw, strOfNums_size]
  by_cases k : n.opn.length = 128
  · have E : dVal c n = (5, n) := by rcases hc with ⟨rfl, rfl⟩ | ⟨rfl, rfl⟩ <;> simp [dVal, k]
    rw [E]; clear E
    rw [hno, k] at hsz
    clear hsw hl hu hno
    rcases hc with ⟨rfl, rfl⟩ | ⟨rfl, rfl⟩
    · go_enter Tryz.func67, Tryz.ntmps67
      go_wp2
      go_ret
      exact ⟨tv, es, _, rfl, HS.out, Fr.refl _ _ _, HN.out, rfl, rfl, rfl, nofun⟩
    · go_enter Tryz.func67, Tryz.ntmps67
      go_wp2
      go_ret
      exact ⟨tv, es, _, rfl, HS.out, Fr.refl _ _ _, HN.out, rfl, rfl, rfl, nofun⟩
  · have E : dVal c n = (0, { n with opn := n.opn ++ [c], mode := m }) := by rcases hc with ⟨rfl, rfl⟩ | ⟨rfl, rfl⟩ <;> simp [dVal, k]
    rw [E]; clear E
    have hlen : d.opn.length = n.opn.length := by rw [hno]
    obtain ⟨K, hK⟩ : ∃ K, d.opn.length = K := ⟨_, rfl⟩
    rw [hK] at hsz
    have k' : ((K : Int) == 128) = false := by simp; omega
    have hjn : sw ++ strOfNums [c] = strOfNums (d.opn ++ [c]) := by rw [← hsw, utxt_join]
    have h0 : 0 ≤ c := by omega
    have h1 : c < 256 := by omega
    have hne : ¬ (p = w.heap.size) := by have := HS.out.lt; omega
    have hlt := HS.out.lt
    have hcv := dconv_one (u := (w.alloc (.cells #[.int .u8 c] 5)).drew) (c := c) (g := w.heap.size) dnew_one
    have hq : ¬ (9223372036854775807 < K + (strOfNums [c]).size) := by rw [strOfNums_size]; simp; omega
    have HJ := hide hjn
    have HK := hide (And.intro hlen hno)
    have HM := hide hc
    clear hsw hl hu hno hlen hK k h0 h1 hjn
    rcases hc with ⟨rfl, rfl⟩ | ⟨rfl, rfl⟩
    · go_enter Tryz.func67, Tryz.ntmps67
      go_wp2_with fail
      go_region
      go_wp2
      go_ret
      rw [HJ.out]
      exact ⟨tv, es, _, rfl, (((HS.out.opn (d.opn ++ [91])).mode 1).below ((Below.refl _ _).alloc (Nat.le_refl _) _)).drew, ((((Fr.refl _ _ _).setP _).setP _).trans (Fr.of_below ((Below.refl _ _).alloc (Nat.le_refl _) _))).drew, ⟨rfl, by show d.opn ++ [91] = _; rw [HK.out.2], HN.out.2.2.1, HN.out.2.2.2⟩, rfl, rfl, rfl, nofun⟩
    · go_enter Tryz.func67, Tryz.ntmps67
      go_wp2_with fail
      go_region
      go_wp2
      go_ret
      rw [HJ.out]
      exact ⟨tv, es, _, rfl, ((((HS.out.opn (d.opn ++ [123])).mode 1).mode 2).below ((Below.refl _ _).alloc (Nat.le_refl _) _)).drew, (((((Fr.refl _ _ _).setP _).setP _).setP _).trans (Fr.of_below ((Below.refl _ _).alloc (Nat.le_refl _) _))).drew, ⟨rfl, by show d.opn ++ [123] = _; rw [HK.out.2], HN.out.2.2.1, HN.out.2.2.2⟩, rfl, rfl, rfl, nofun⟩
theorem dvalue {w : World} {B p : Nat} {tv : Value} {es : List Int} {d : Dc} {n : Dn} {c : Int} (H : DcS w B p tv es d) (hn : dEq d n) (hu : uByt d.opn) (hl : d.opn.length ≤ 128) (h0 : 0 ≤ c) (h1 : c < 256) : Calls Tryz.prog 67 #[.pointer (some ⟨p, 0, none⟩), .int .u8 c] w (DOut w B p tv d (.int .i64 (dVal c n).1) (dVal c n).2 (decide (c = 34))) := by
  by_cases k1 : c = 91
  · exact dvalue_br (m := 1) H hn hu hl (Or.inl ⟨k1, rfl⟩)
  · by_cases k2 : c = 123
    · exact dvalue_br (m := 2) H hn hu hl (Or.inr ⟨k2, rfl⟩)
    · exact dvalue_nb H hn k1 k2 h0 h1

end Go.Proofs.YtefmlajndillbaaGreatDoor
