/- ref16 on the document's scanner: number -/
import Derived.Test.YtefmlajndillbaaGreatDoorDnA
namespace Go.Proofs.YtefmlajndillbaaGreatDoor
open Go.RowKit
set_option linter.unusedVariables false

set_option maxRecDepth 100000 in
set_option maxHeartbeats 4000000 in
theorem dnum_8 {w : World} {B p : Nat} {tv : Value} {es : List Int} {d : Dc} {n : Dn} {c : Int} (H : DcS w B p tv es d) (hn : dEq d n) (hm : n.mode = 8) : Calls Tryz.prog 48 #[.pointer (some ⟨p, 0, none⟩), .int .u8 c] w (DOut w B p tv d (.tuple #[.bool (dGo n.mode c).isSome, .bool ((dGo n.mode c).isNone && dMay n.mode)]) { n with mode := (dGo n.mode c).getD n.mode } false) := by
  have HS := hide H
  have HN := hide hn
  have HM := hide hm
  have f1 := H.frz 1
  have c1 := (dg_of H.blk).c1
  rw [hn.1, hm] at c1
  clear H hn
  rw [hm]
  clear hm
  by_cases k48 : c = 48
  · subst k48
    have E : dGo 8 48 = some 9 := rfl
    rw [E]; clear E
    go_enter Tryz.func48, Tryz.ntmps48
    go_wp2
    go_ret2
    exact ⟨tv, es, _, rfl, HS.out.mode 9, (Fr.refl _ _ _).setP _, ⟨rfl, HN.out.2.1, HN.out.2.2.1, HN.out.2.2.2⟩, rfl, rfl, rfl, nofun⟩
  by_cases k : 48 ≤ c ∧ c ≤ 57
  · obtain ⟨g1, g2⟩ := k
    have hd : digB c = true := by simp [digB]; omega
    have e46 : (c == 46) = false := by simp; omega
    have e101 : (c == 101) = false := by simp; omega
    have e69 : (c == 69) = false := by simp; omega
    have e43 : (c == 43) = false := by simp; omega
    have e45 : (c == 45) = false := by simp; omega
    have e48 : (c == 48) = false := by simpa using k48
    have E : dGo 8 c = some 10 := by simp [dGo, hd, k48]
    rw [E]; clear E hd
    clear k48
    go_enter Tryz.func48, Tryz.ntmps48
    go_wp2
    go_ret2
    exact ⟨tv, es, _, rfl, HS.out.mode 10, (Fr.refl _ _ _).setP _, ⟨rfl, HN.out.2.1, HN.out.2.2.1, HN.out.2.2.2⟩, rfl, rfl, rfl, nofun⟩
  have hd : digB c = false := by simp [digB]; omega
  have E : dGo 8 c = none := by simp [dGo, hd, k48]
  rw [E]; clear E hd
  have bk48 : (c == 48) = false := beq_eq_false_iff_ne.2 k48
  clear k48
  by_cases g1 : 48 ≤ c
  · by_cases g2 : c ≤ 57
    · exact absurd ⟨g1, g2⟩ k
    · clear k
      go_enter Tryz.func48, Tryz.ntmps48
      go_wp2
      go_ret2
      exact ⟨tv, es, _, rfl, HS.out, Fr.refl _ _ _, ⟨by rw [HN.out.1, HM.out] <;> rfl, HN.out.2.1, HN.out.2.2.1, HN.out.2.2.2⟩, rfl, rfl, rfl, nofun⟩
  · clear k
    go_enter Tryz.func48, Tryz.ntmps48
    go_wp2
    go_ret2
    exact ⟨tv, es, _, rfl, HS.out, Fr.refl _ _ _, ⟨by rw [HN.out.1, HM.out] <;> rfl, HN.out.2.1, HN.out.2.2.1, HN.out.2.2.2⟩, rfl, rfl, rfl, nofun⟩
set_option maxRecDepth 100000 in
set_option maxHeartbeats 4000000 in
theorem dnum_9 {w : World} {B p : Nat} {tv : Value} {es : List Int} {d : Dc} {n : Dn} {c : Int} (H : DcS w B p tv es d) (hn : dEq d n) (hm : n.mode = 9) : Calls Tryz.prog 48 #[.pointer (some ⟨p, 0, none⟩), .int .u8 c] w (DOut w B p tv d (.tuple #[.bool (dGo n.mode c).isSome, .bool ((dGo n.mode c).isNone && dMay n.mode)]) { n with mode := (dGo n.mode c).getD n.mode } false) := by
  have HS := hide H
  have HN := hide hn
  have HM := hide hm
  have f1 := H.frz 1
  have c1 := (dg_of H.blk).c1
  rw [hn.1, hm] at c1
  clear H hn
  rw [hm]
  clear hm
  by_cases k46 : c = 46
  · subst k46
    have E : dGo 9 46 = some 11 := rfl
    rw [E]; clear E
    go_enter Tryz.func48, Tryz.ntmps48
    go_wp2
    go_ret2
    exact ⟨tv, es, _, rfl, HS.out.mode 11, (Fr.refl _ _ _).setP _, ⟨rfl, HN.out.2.1, HN.out.2.2.1, HN.out.2.2.2⟩, rfl, rfl, rfl, nofun⟩
  by_cases k101 : c = 101
  · subst k101
    have E : dGo 9 101 = some 13 := rfl
    rw [E]; clear E
    clear k46
    go_enter Tryz.func48, Tryz.ntmps48
    go_wp2
    go_ret2
    exact ⟨tv, es, _, rfl, HS.out.mode 13, (Fr.refl _ _ _).setP _, ⟨rfl, HN.out.2.1, HN.out.2.2.1, HN.out.2.2.2⟩, rfl, rfl, rfl, nofun⟩
  by_cases k69 : c = 69
  · subst k69
    have E : dGo 9 69 = some 13 := rfl
    rw [E]; clear E
    clear k46
    clear k101
    go_enter Tryz.func48, Tryz.ntmps48
    go_wp2
    go_ret2
    exact ⟨tv, es, _, rfl, HS.out.mode 13, (Fr.refl _ _ _).setP _, ⟨rfl, HN.out.2.1, HN.out.2.2.1, HN.out.2.2.2⟩, rfl, rfl, rfl, nofun⟩
  have E : dGo 9 c = none := by simp [dGo, k46, k101, k69]
  rw [E]; clear E
  have bk46 : (c == 46) = false := beq_eq_false_iff_ne.2 k46
  have bk101 : (c == 101) = false := beq_eq_false_iff_ne.2 k101
  have bk69 : (c == 69) = false := beq_eq_false_iff_ne.2 k69
  clear k46 k101 k69
  by_cases g1 : 48 ≤ c
  · by_cases g2 : c ≤ 57
    · go_enter Tryz.func48, Tryz.ntmps48
      go_wp2
      go_ret2
      exact ⟨tv, es, _, rfl, HS.out, Fr.refl _ _ _, ⟨by rw [HN.out.1, HM.out] <;> rfl, HN.out.2.1, HN.out.2.2.1, HN.out.2.2.2⟩, rfl, rfl, rfl, nofun⟩
    · go_enter Tryz.func48, Tryz.ntmps48
      go_wp2
      go_ret2
      exact ⟨tv, es, _, rfl, HS.out, Fr.refl _ _ _, ⟨by rw [HN.out.1, HM.out] <;> rfl, HN.out.2.1, HN.out.2.2.1, HN.out.2.2.2⟩, rfl, rfl, rfl, nofun⟩
  · go_enter Tryz.func48, Tryz.ntmps48
    go_wp2
    go_ret2
    exact ⟨tv, es, _, rfl, HS.out, Fr.refl _ _ _, ⟨by rw [HN.out.1, HM.out] <;> rfl, HN.out.2.1, HN.out.2.2.1, HN.out.2.2.2⟩, rfl, rfl, rfl, nofun⟩
set_option maxRecDepth 100000 in
set_option maxHeartbeats 4000000 in
theorem dnum_10 {w : World} {B p : Nat} {tv : Value} {es : List Int} {d : Dc} {n : Dn} {c : Int} (H : DcS w B p tv es d) (hn : dEq d n) (hm : n.mode = 10) : Calls Tryz.prog 48 #[.pointer (some ⟨p, 0, none⟩), .int .u8 c] w (DOut w B p tv d (.tuple #[.bool (dGo n.mode c).isSome, .bool ((dGo n.mode c).isNone && dMay n.mode)]) { n with mode := (dGo n.mode c).getD n.mode } false) := by
  have HS := hide H
  have HN := hide hn
  have HM := hide hm
  have f1 := H.frz 1
  have c1 := (dg_of H.blk).c1
  rw [hn.1, hm] at c1
  clear H hn
  rw [hm]
  clear hm
  by_cases k : 48 ≤ c ∧ c ≤ 57
  · obtain ⟨g1, g2⟩ := k
    have hd : digB c = true := by simp [digB]; omega
    have e46 : (c == 46) = false := by simp; omega
    have e101 : (c == 101) = false := by simp; omega
    have e69 : (c == 69) = false := by simp; omega
    have e43 : (c == 43) = false := by simp; omega
    have e45 : (c == 45) = false := by simp; omega
    have E : dGo 10 c = some 10 := by simp [dGo, hd]
    rw [E]; clear E hd
    go_enter Tryz.func48, Tryz.ntmps48
    go_wp2
    go_ret2
    exact ⟨tv, es, _, rfl, HS.out, Fr.refl _ _ _, ⟨by rw [HN.out.1, HM.out] <;> rfl, HN.out.2.1, HN.out.2.2.1, HN.out.2.2.2⟩, rfl, rfl, rfl, nofun⟩
  by_cases k46 : c = 46
  · subst k46
    have E : dGo 10 46 = some 11 := rfl
    rw [E]; clear E
    clear k
    go_enter Tryz.func48, Tryz.ntmps48
    go_wp2
    go_ret2
    exact ⟨tv, es, _, rfl, HS.out.mode 11, (Fr.refl _ _ _).setP _, ⟨rfl, HN.out.2.1, HN.out.2.2.1, HN.out.2.2.2⟩, rfl, rfl, rfl, nofun⟩
  by_cases k101 : c = 101
  · subst k101
    have E : dGo 10 101 = some 13 := rfl
    rw [E]; clear E
    clear k
    clear k46
    go_enter Tryz.func48, Tryz.ntmps48
    go_wp2
    go_ret2
    exact ⟨tv, es, _, rfl, HS.out.mode 13, (Fr.refl _ _ _).setP _, ⟨rfl, HN.out.2.1, HN.out.2.2.1, HN.out.2.2.2⟩, rfl, rfl, rfl, nofun⟩
  by_cases k69 : c = 69
  · subst k69
    have E : dGo 10 69 = some 13 := rfl
    rw [E]; clear E
    clear k
    clear k46
    clear k101
    go_enter Tryz.func48, Tryz.ntmps48
    go_wp2
    go_ret2
    exact ⟨tv, es, _, rfl, HS.out.mode 13, (Fr.refl _ _ _).setP _, ⟨rfl, HN.out.2.1, HN.out.2.2.1, HN.out.2.2.2⟩, rfl, rfl, rfl, nofun⟩
  have hd : digB c = false := by simp [digB]; omega
  have E : dGo 10 c = none := by simp [dGo, hd, k46, k101, k69]
  rw [E]; clear E hd
  have bk46 : (c == 46) = false := beq_eq_false_iff_ne.2 k46
  have bk101 : (c == 101) = false := beq_eq_false_iff_ne.2 k101
  have bk69 : (c == 69) = false := beq_eq_false_iff_ne.2 k69
  clear k46 k101 k69
  by_cases g1 : 48 ≤ c
  · by_cases g2 : c ≤ 57
    · exact absurd ⟨g1, g2⟩ k
    · clear k
      go_enter Tryz.func48, Tryz.ntmps48
      go_wp2
      go_ret2
      exact ⟨tv, es, _, rfl, HS.out, Fr.refl _ _ _, ⟨by rw [HN.out.1, HM.out] <;> rfl, HN.out.2.1, HN.out.2.2.1, HN.out.2.2.2⟩, rfl, rfl, rfl, nofun⟩
  · clear k
    go_enter Tryz.func48, Tryz.ntmps48
    go_wp2
    go_ret2
    exact ⟨tv, es, _, rfl, HS.out, Fr.refl _ _ _, ⟨by rw [HN.out.1, HM.out] <;> rfl, HN.out.2.1, HN.out.2.2.1, HN.out.2.2.2⟩, rfl, rfl, rfl, nofun⟩
set_option maxRecDepth 100000 in
set_option maxHeartbeats 4000000 in
theorem dnum_11 {w : World} {B p : Nat} {tv : Value} {es : List Int} {d : Dc} {n : Dn} {c : Int} (H : DcS w B p tv es d) (hn : dEq d n) (hm : n.mode = 11) : Calls Tryz.prog 48 #[.pointer (some ⟨p, 0, none⟩), .int .u8 c] w (DOut w B p tv d (.tuple #[.bool (dGo n.mode c).isSome, .bool ((dGo n.mode c).isNone && dMay n.mode)]) { n with mode := (dGo n.mode c).getD n.mode } false) := by
  have HS := hide H
  have HN := hide hn
  have HM := hide hm
  have f1 := H.frz 1
  have c1 := (dg_of H.blk).c1
  rw [hn.1, hm] at c1
  clear H hn
  rw [hm]
  clear hm
  by_cases k : 48 ≤ c ∧ c ≤ 57
  · obtain ⟨g1, g2⟩ := k
    have hd : digB c = true := by simp [digB]; omega
    have e46 : (c == 46) = false := by simp; omega
    have e101 : (c == 101) = false := by simp; omega
    have e69 : (c == 69) = false := by simp; omega
    have e43 : (c == 43) = false := by simp; omega
    have e45 : (c == 45) = false := by simp; omega
    have E : dGo 11 c = some 12 := by simp [dGo, hd]
    rw [E]; clear E hd
    go_enter Tryz.func48, Tryz.ntmps48
    go_wp2
    go_ret2
    exact ⟨tv, es, _, rfl, HS.out.mode 12, (Fr.refl _ _ _).setP _, ⟨rfl, HN.out.2.1, HN.out.2.2.1, HN.out.2.2.2⟩, rfl, rfl, rfl, nofun⟩
  have hd : digB c = false := by simp [digB]; omega
  have E : dGo 11 c = none := by simp [dGo, hd]
  rw [E]; clear E hd
  by_cases g1 : 48 ≤ c
  · by_cases g2 : c ≤ 57
    · exact absurd ⟨g1, g2⟩ k
    · clear k
      go_enter Tryz.func48, Tryz.ntmps48
      go_wp2
      go_ret2
      exact ⟨tv, es, _, rfl, HS.out, Fr.refl _ _ _, ⟨by rw [HN.out.1, HM.out] <;> rfl, HN.out.2.1, HN.out.2.2.1, HN.out.2.2.2⟩, rfl, rfl, rfl, nofun⟩
  · clear k
    go_enter Tryz.func48, Tryz.ntmps48
    go_wp2
    go_ret2
    exact ⟨tv, es, _, rfl, HS.out, Fr.refl _ _ _, ⟨by rw [HN.out.1, HM.out] <;> rfl, HN.out.2.1, HN.out.2.2.1, HN.out.2.2.2⟩, rfl, rfl, rfl, nofun⟩
set_option maxRecDepth 100000 in
set_option maxHeartbeats 4000000 in
theorem dnum_12 {w : World} {B p : Nat} {tv : Value} {es : List Int} {d : Dc} {n : Dn} {c : Int} (H : DcS w B p tv es d) (hn : dEq d n) (hm : n.mode = 12) : Calls Tryz.prog 48 #[.pointer (some ⟨p, 0, none⟩), .int .u8 c] w (DOut w B p tv d (.tuple #[.bool (dGo n.mode c).isSome, .bool ((dGo n.mode c).isNone && dMay n.mode)]) { n with mode := (dGo n.mode c).getD n.mode } false) := by
  have HS := hide H
  have HN := hide hn
  have HM := hide hm
  have f1 := H.frz 1
  have c1 := (dg_of H.blk).c1
  rw [hn.1, hm] at c1
  clear H hn
  rw [hm]
  clear hm
  by_cases k : 48 ≤ c ∧ c ≤ 57
  · obtain ⟨g1, g2⟩ := k
    have hd : digB c = true := by simp [digB]; omega
    have e46 : (c == 46) = false := by simp; omega
    have e101 : (c == 101) = false := by simp; omega
    have e69 : (c == 69) = false := by simp; omega
    have e43 : (c == 43) = false := by simp; omega
    have e45 : (c == 45) = false := by simp; omega
    have E : dGo 12 c = some 12 := by simp [dGo, hd]
    rw [E]; clear E hd
    go_enter Tryz.func48, Tryz.ntmps48
    go_wp2
    go_ret2
    exact ⟨tv, es, _, rfl, HS.out, Fr.refl _ _ _, ⟨by rw [HN.out.1, HM.out] <;> rfl, HN.out.2.1, HN.out.2.2.1, HN.out.2.2.2⟩, rfl, rfl, rfl, nofun⟩
  by_cases k101 : c = 101
  · subst k101
    have E : dGo 12 101 = some 13 := rfl
    rw [E]; clear E
    clear k
    go_enter Tryz.func48, Tryz.ntmps48
    go_wp2
    go_ret2
    exact ⟨tv, es, _, rfl, HS.out.mode 13, (Fr.refl _ _ _).setP _, ⟨rfl, HN.out.2.1, HN.out.2.2.1, HN.out.2.2.2⟩, rfl, rfl, rfl, nofun⟩
  by_cases k69 : c = 69
  · subst k69
    have E : dGo 12 69 = some 13 := rfl
    rw [E]; clear E
    clear k
    clear k101
    go_enter Tryz.func48, Tryz.ntmps48
    go_wp2
    go_ret2
    exact ⟨tv, es, _, rfl, HS.out.mode 13, (Fr.refl _ _ _).setP _, ⟨rfl, HN.out.2.1, HN.out.2.2.1, HN.out.2.2.2⟩, rfl, rfl, rfl, nofun⟩
  have hd : digB c = false := by simp [digB]; omega
  have E : dGo 12 c = none := by simp [dGo, hd, k101, k69]
  rw [E]; clear E hd
  have bk101 : (c == 101) = false := beq_eq_false_iff_ne.2 k101
  have bk69 : (c == 69) = false := beq_eq_false_iff_ne.2 k69
  clear k101 k69
  by_cases g1 : 48 ≤ c
  · by_cases g2 : c ≤ 57
    · exact absurd ⟨g1, g2⟩ k
    · clear k
      go_enter Tryz.func48, Tryz.ntmps48
      go_wp2
      go_ret2
      exact ⟨tv, es, _, rfl, HS.out, Fr.refl _ _ _, ⟨by rw [HN.out.1, HM.out] <;> rfl, HN.out.2.1, HN.out.2.2.1, HN.out.2.2.2⟩, rfl, rfl, rfl, nofun⟩
  · clear k
    go_enter Tryz.func48, Tryz.ntmps48
    go_wp2
    go_ret2
    exact ⟨tv, es, _, rfl, HS.out, Fr.refl _ _ _, ⟨by rw [HN.out.1, HM.out] <;> rfl, HN.out.2.1, HN.out.2.2.1, HN.out.2.2.2⟩, rfl, rfl, rfl, nofun⟩
set_option maxRecDepth 100000 in
set_option maxHeartbeats 4000000 in
theorem dnum_13 {w : World} {B p : Nat} {tv : Value} {es : List Int} {d : Dc} {n : Dn} {c : Int} (H : DcS w B p tv es d) (hn : dEq d n) (hm : n.mode = 13) : Calls Tryz.prog 48 #[.pointer (some ⟨p, 0, none⟩), .int .u8 c] w (DOut w B p tv d (.tuple #[.bool (dGo n.mode c).isSome, .bool ((dGo n.mode c).isNone && dMay n.mode)]) { n with mode := (dGo n.mode c).getD n.mode } false) := by
  have HS := hide H
  have HN := hide hn
  have HM := hide hm
  have f1 := H.frz 1
  have c1 := (dg_of H.blk).c1
  rw [hn.1, hm] at c1
  clear H hn
  rw [hm]
  clear hm
  by_cases k43 : c = 43
  · subst k43
    have E : dGo 13 43 = some 14 := rfl
    rw [E]; clear E
    go_enter Tryz.func48, Tryz.ntmps48
    go_wp2
    go_ret2
    exact ⟨tv, es, _, rfl, HS.out.mode 14, (Fr.refl _ _ _).setP _, ⟨rfl, HN.out.2.1, HN.out.2.2.1, HN.out.2.2.2⟩, rfl, rfl, rfl, nofun⟩
  by_cases k45 : c = 45
  · subst k45
    have E : dGo 13 45 = some 14 := rfl
    rw [E]; clear E
    clear k43
    go_enter Tryz.func48, Tryz.ntmps48
    go_wp2
    go_ret2
    exact ⟨tv, es, _, rfl, HS.out.mode 14, (Fr.refl _ _ _).setP _, ⟨rfl, HN.out.2.1, HN.out.2.2.1, HN.out.2.2.2⟩, rfl, rfl, rfl, nofun⟩
  by_cases k : 48 ≤ c ∧ c ≤ 57
  · obtain ⟨g1, g2⟩ := k
    have hd : digB c = true := by simp [digB]; omega
    have e46 : (c == 46) = false := by simp; omega
    have e101 : (c == 101) = false := by simp; omega
    have e69 : (c == 69) = false := by simp; omega
    have e43 : (c == 43) = false := by simp; omega
    have e45 : (c == 45) = false := by simp; omega
    have E : dGo 13 c = some 15 := by simp [dGo, hd, show ¬ (c = 43 ∨ c = 45) by omega]
    rw [E]; clear E hd
    clear k43
    clear k45
    go_enter Tryz.func48, Tryz.ntmps48
    go_wp2
    go_ret2
    exact ⟨tv, es, _, rfl, HS.out.mode 15, (Fr.refl _ _ _).setP _, ⟨rfl, HN.out.2.1, HN.out.2.2.1, HN.out.2.2.2⟩, rfl, rfl, rfl, nofun⟩
  have hd : digB c = false := by simp [digB]; omega
  have E : dGo 13 c = none := by simp [dGo, hd, k43, k45]
  rw [E]; clear E hd
  have bk43 : (c == 43) = false := beq_eq_false_iff_ne.2 k43
  have bk45 : (c == 45) = false := beq_eq_false_iff_ne.2 k45
  clear k43 k45
  by_cases g1 : 48 ≤ c
  · by_cases g2 : c ≤ 57
    · exact absurd ⟨g1, g2⟩ k
    · clear k
      go_enter Tryz.func48, Tryz.ntmps48
      go_wp2
      go_ret2
      exact ⟨tv, es, _, rfl, HS.out, Fr.refl _ _ _, ⟨by rw [HN.out.1, HM.out] <;> rfl, HN.out.2.1, HN.out.2.2.1, HN.out.2.2.2⟩, rfl, rfl, rfl, nofun⟩
  · clear k
    go_enter Tryz.func48, Tryz.ntmps48
    go_wp2
    go_ret2
    exact ⟨tv, es, _, rfl, HS.out, Fr.refl _ _ _, ⟨by rw [HN.out.1, HM.out] <;> rfl, HN.out.2.1, HN.out.2.2.1, HN.out.2.2.2⟩, rfl, rfl, rfl, nofun⟩
set_option maxRecDepth 100000 in
set_option maxHeartbeats 4000000 in
theorem dnum_14 {w : World} {B p : Nat} {tv : Value} {es : List Int} {d : Dc} {n : Dn} {c : Int} (H : DcS w B p tv es d) (hn : dEq d n) (hm : n.mode = 14) : Calls Tryz.prog 48 #[.pointer (some ⟨p, 0, none⟩), .int .u8 c] w (DOut w B p tv d (.tuple #[.bool (dGo n.mode c).isSome, .bool ((dGo n.mode c).isNone && dMay n.mode)]) { n with mode := (dGo n.mode c).getD n.mode } false) := by
  have HS := hide H
  have HN := hide hn
  have HM := hide hm
  have f1 := H.frz 1
  have c1 := (dg_of H.blk).c1
  rw [hn.1, hm] at c1
  clear H hn
  rw [hm]
  clear hm
  by_cases k : 48 ≤ c ∧ c ≤ 57
  · obtain ⟨g1, g2⟩ := k
    have hd : digB c = true := by simp [digB]; omega
    have e46 : (c == 46) = false := by simp; omega
    have e101 : (c == 101) = false := by simp; omega
    have e69 : (c == 69) = false := by simp; omega
    have e43 : (c == 43) = false := by simp; omega
    have e45 : (c == 45) = false := by simp; omega
    have E : dGo 14 c = some 15 := by simp [dGo, hd]
    rw [E]; clear E hd
    go_enter Tryz.func48, Tryz.ntmps48
    go_wp2
    go_ret2
    exact ⟨tv, es, _, rfl, HS.out.mode 15, (Fr.refl _ _ _).setP _, ⟨rfl, HN.out.2.1, HN.out.2.2.1, HN.out.2.2.2⟩, rfl, rfl, rfl, nofun⟩
  have hd : digB c = false := by simp [digB]; omega
  have E : dGo 14 c = none := by simp [dGo, hd]
  rw [E]; clear E hd
  by_cases g1 : 48 ≤ c
  · by_cases g2 : c ≤ 57
    · exact absurd ⟨g1, g2⟩ k
    · clear k
      go_enter Tryz.func48, Tryz.ntmps48
      go_wp2
      go_ret2
      exact ⟨tv, es, _, rfl, HS.out, Fr.refl _ _ _, ⟨by rw [HN.out.1, HM.out] <;> rfl, HN.out.2.1, HN.out.2.2.1, HN.out.2.2.2⟩, rfl, rfl, rfl, nofun⟩
  · clear k
    go_enter Tryz.func48, Tryz.ntmps48
    go_wp2
    go_ret2
    exact ⟨tv, es, _, rfl, HS.out, Fr.refl _ _ _, ⟨by rw [HN.out.1, HM.out] <;> rfl, HN.out.2.1, HN.out.2.2.1, HN.out.2.2.2⟩, rfl, rfl, rfl, nofun⟩
set_option maxRecDepth 100000 in
set_option maxHeartbeats 4000000 in
theorem dnum_15 {w : World} {B p : Nat} {tv : Value} {es : List Int} {d : Dc} {n : Dn} {c : Int} (H : DcS w B p tv es d) (hn : dEq d n) (hm : n.mode = 15) : Calls Tryz.prog 48 #[.pointer (some ⟨p, 0, none⟩), .int .u8 c] w (DOut w B p tv d (.tuple #[.bool (dGo n.mode c).isSome, .bool ((dGo n.mode c).isNone && dMay n.mode)]) { n with mode := (dGo n.mode c).getD n.mode } false) := by
  have HS := hide H
  have HN := hide hn
  have HM := hide hm
  have f1 := H.frz 1
  have c1 := (dg_of H.blk).c1
  rw [hn.1, hm] at c1
  clear H hn
  rw [hm]
  clear hm
  by_cases k : 48 ≤ c ∧ c ≤ 57
  · obtain ⟨g1, g2⟩ := k
    have hd : digB c = true := by simp [digB]; omega
    have e46 : (c == 46) = false := by simp; omega
    have e101 : (c == 101) = false := by simp; omega
    have e69 : (c == 69) = false := by simp; omega
    have e43 : (c == 43) = false := by simp; omega
    have e45 : (c == 45) = false := by simp; omega
    have E : dGo 15 c = some 15 := by simp [dGo, hd]
    rw [E]; clear E hd
    go_enter Tryz.func48, Tryz.ntmps48
    go_wp2
    go_ret2
    exact ⟨tv, es, _, rfl, HS.out, Fr.refl _ _ _, ⟨by rw [HN.out.1, HM.out] <;> rfl, HN.out.2.1, HN.out.2.2.1, HN.out.2.2.2⟩, rfl, rfl, rfl, nofun⟩
  have hd : digB c = false := by simp [digB]; omega
  have E : dGo 15 c = none := by simp [dGo, hd]
  rw [E]; clear E hd
  by_cases g1 : 48 ≤ c
  · by_cases g2 : c ≤ 57
    · exact absurd ⟨g1, g2⟩ k
    · clear k
      go_enter Tryz.func48, Tryz.ntmps48
      go_wp2
      go_ret2
      exact ⟨tv, es, _, rfl, HS.out, Fr.refl _ _ _, ⟨by rw [HN.out.1, HM.out] <;> rfl, HN.out.2.1, HN.out.2.2.1, HN.out.2.2.2⟩, rfl, rfl, rfl, nofun⟩
  · clear k
    go_enter Tryz.func48, Tryz.ntmps48
    go_wp2
    go_ret2
    exact ⟨tv, es, _, rfl, HS.out, Fr.refl _ _ _, ⟨by rw [HN.out.1, HM.out] <;> rfl, HN.out.2.1, HN.out.2.2.1, HN.out.2.2.2⟩, rfl, rfl, rfl, nofun⟩
theorem dnumber {w : World} {B p : Nat} {tv : Value} {es : List Int} {d : Dc} {n : Dn} {c : Int} (H : DcS w B p tv es d) (hn : dEq d n) (h8 : 8 ≤ n.mode) (h15 : n.mode ≤ 15) : Calls Tryz.prog 48 #[.pointer (some ⟨p, 0, none⟩), .int .u8 c] w (DOut w B p tv d (.tuple #[.bool (dGo n.mode c).isSome, .bool ((dGo n.mode c).isNone && dMay n.mode)]) { n with mode := (dGo n.mode c).getD n.mode } false) := by
  have h : n.mode = 8 ∨ n.mode = 9 ∨ n.mode = 10 ∨ n.mode = 11 ∨ n.mode = 12 ∨ n.mode = 13 ∨ n.mode = 14 ∨ n.mode = 15 := by omega
  rcases h with h | h | h | h | h | h | h | h
  · exact dnum_8 H hn h
  · exact dnum_9 H hn h
  · exact dnum_10 H hn h
  · exact dnum_11 H hn h
  · exact dnum_12 H hn h
  · exact dnum_13 H hn h
  · exact dnum_14 H hn h
  · exact dnum_15 H hn h

end Go.Proofs.YtefmlajndillbaaGreatDoor
