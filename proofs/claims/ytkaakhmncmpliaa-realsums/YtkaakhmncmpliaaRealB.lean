/- real: complex numbers; the document's rank, Cmp -/
import Derived.Test.YtkaakhmncmpliaaReal
namespace Go.Proofs.Ytkaakhmncmpliaa
open Go.RowKit

theorem neg_any (w : World) (b : Int) (h0 : 0 ≤ b) (h1 : b < 18446744073709551616) : Calls Try.prog 55 #[.int .u64 b] w fun e w' => e = .returned (.bool (ngD b.toNat)) ∧ w' = w := by
  by_cases h : b < 9223372036854775808
  · have Hc := hide (show ngD b.toNat = false by unfold ngD; rw [show b.toNat / 9223372036854775808 = 0 by omega]; rfl)
    go_enter Try.func55, Try.ntmps55
    go_wp2
    go_ret
    exact ⟨by rw [Hc.out]; simp; omega, rfl⟩
  · have Hc := hide (show ngD b.toNat = true by unfold ngD; rw [show b.toNat / 9223372036854775808 = 1 by omega]; rfl)
    go_enter Try.func55, Try.ntmps55
    go_wp2
    go_ret
    exact ⟨by rw [Hc.out]; simp, rfl⟩

theorem isinf_any (w : World) (b : Int) (h0 : 0 ≤ b) (h1 : b < 18446744073709551616) : Calls Try.prog 46 #[.int .u64 b] w fun e w' => e = .returned (.bool (decide (szD b.toNat = 9218868437227405312))) ∧ w' = w := by
  have e1 := and_size b h0 h1
  have key : szD b.toNat = 9218868437227405312 ↔ b % 9223372036854775808 = 9218868437227405312 := by unfold szD; omega
  generalize b % 9223372036854775808 = X at *
  by_cases c : X = 9218868437227405312
  · have c' : (X == 9218868437227405312) = true := by simp [c]
    have Hc := hide (show decide (szD b.toNat = 9218868437227405312) = true from decide_eq_true (by rw [key]; exact c))
    clear key c h0 h1
    go_enter Try.func46, Try.ntmps46
    go_wp2
    go_ret
    exact ⟨by rw [Hc.out]; rfl, rfl⟩
  · have c' : (X == 9218868437227405312) = false := by simp [c]
    have Hc := hide (show decide (szD b.toNat = 9218868437227405312) = false from decide_eq_false (by rw [key]; exact c))
    clear key c h0 h1
    go_enter Try.func46, Try.ntmps46
    go_wp2
    go_ret
    exact ⟨by rw [Hc.out]; rfl, rfl⟩

set_option maxHeartbeats 1000000 in
theorem rank_any (w : World) (b : Int) (h0 : 0 ≤ b) (h1 : b < 18446744073709551616) : Calls Try.prog 56 #[.int .u64 b] w fun e w' => e = .returned (.int .i64 (rkD b.toNat)) ∧ w' = w := by
  have e1 := and_size b h0 h1
  have key : (szD b.toNat : Int) = b % 9223372036854775808 := by unfold szD; omega
  have z0 : 0 ≤ b % 9223372036854775808 := by omega
  have z1 : b % 9223372036854775808 < 9223372036854775808 := by omega
  have hr : rkD b.toNat = if ngD b.toNat = true then -(szD b.toNat : Int) else szD b.toNat := rfl
  rw [key] at hr
  generalize b % 9223372036854775808 = X at *
  have HR := hide hr
  clear key hr
  go_enter Try.func56, Try.ntmps56
  go_wp2_with fail
  with_reducible refine (neg_any _ b h0 h1).mono ?_
  rintro e w1 ⟨rfl, rfl⟩
  clear h0 h1
  rcases hn : ngD b.toNat with _ | _
  · have Hn := hide hn
    clear hn
    go_wp2
    go_ret
    exact ⟨by rw [HR.out, Hn.out]; rfl, rfl⟩
  · have Hn := hide hn
    clear hn
    go_wp2
    go_ret
    exact ⟨by rw [HR.out, Hn.out]; rfl, rfl⟩

set_option maxHeartbeats 1000000 in
theorem dcmp_any (w : World) (a b : Int) (h0 : 0 ≤ a) (h1 : a < 18446744073709551616) (g0 : 0 ≤ b) (g1 : b < 18446744073709551616) : Calls Try.prog 26 #[.int .u64 a, .int .u64 b] w fun e w' => e = .returned (.tuple #[.int .i64 (cmpD a.toNat b.toNat), .bool (!decide (nanD a.toNat) && !decide (nanD b.toNat))]) ∧ w' = w := by
  go_enter Try.func26, Try.ntmps26
  go_wp2_with fail
  with_reducible refine (isnan_any _ a h0 h1).mono ?_
  rintro e w1 ⟨rfl, rfl⟩
  by_cases p : nanD a.toNat
  · have Hc := hide (show cmpD a.toNat b.toNat = 0 by unfold cmpD; rw [if_pos (Or.inl p)])
    have Hp := hide (decide_eq_true p)
    rw [decide_eq_true p]
    clear p
    go_wp2
    go_ret2
    exact ⟨by rw [Hc.out, Hp.out]; rfl, rfl⟩
  have Hp := hide (decide_eq_false p)
  rw [decide_eq_false p]
  go_wp2_with fail
  with_reducible refine (isnan_any _ b g0 g1).mono ?_
  rintro e w1 ⟨rfl, rfl⟩
  by_cases q : nanD b.toNat
  · have Hc := hide (show cmpD a.toNat b.toNat = 0 by unfold cmpD; rw [if_pos (Or.inr q)])
    have Hq := hide (decide_eq_true q)
    rw [decide_eq_true q]
    clear p q
    go_wp2
    go_ret2
    exact ⟨by rw [Hc.out, Hp.out, Hq.out]; rfl, rfl⟩
  have Hq := hide (decide_eq_false q)
  rw [decide_eq_false q]
  have Hc := hide (show cmpD a.toNat b.toNat = tri (rkD a.toNat) (rkD b.toNat) by unfold cmpD; rw [if_neg (by rintro (h | h); exact p h; exact q h)])
  clear p q
  go_wp2_with fail
  with_reducible refine (rank_any _ a h0 h1).mono ?_
  rintro e w1 ⟨rfl, rfl⟩
  go_wp2_with fail
  with_reducible refine (rank_any _ b g0 g1).mono ?_
  rintro e w1 ⟨rfl, rfl⟩
  generalize hA : rkD a.toNat = x
  generalize hB : rkD b.toNat = y
  have HA := hide hA
  have HB := hide hB
  clear hA hB h0 h1 g0 g1
  by_cases l : x < y
  · have Ht := hide (show tri x y = -1 by unfold tri; rw [if_pos l])
    go_wp2
    go_ret2
    exact ⟨by rw [Hc.out, Hp.out, Hq.out, HA.out, HB.out, Ht.out]; rfl, rfl⟩
  · by_cases g : y < x
    · have Ht := hide (show tri x y = 1 by unfold tri; rw [if_neg l, if_pos g])
      go_wp2
      go_ret2
      exact ⟨by rw [Hc.out, Hp.out, Hq.out, HA.out, HB.out, Ht.out]; rfl, rfl⟩
    · have Ht := hide (show tri x y = 0 by unfold tri; rw [if_neg l, if_neg g])
      go_wp2
      go_ret2
      exact ⟨by rw [Hc.out, Hp.out, Hq.out, HA.out, HB.out, Ht.out]; rfl, rfl⟩

theorem join_any (w : World) (a b : Nat) : Calls Try.prog 44 #[.float .f64 a, .float .f64 b] w fun e w' => e = .returned (.complex .f64 a b) ∧ w' = w := by
  go_enter Try.func44, Try.ntmps44
  go_wp2
  go_ret
  exact ⟨rfl, rfl⟩

theorem split_any (w : World) (a b : Nat) : Calls Try.prog 57 #[.complex .f64 a b] w fun e w' => e = .returned (.tuple #[.float .f64 a, .float .f64 b]) ∧ w' = w := by
  go_enter Try.func57, Try.ntmps57
  go_wp2
  go_ret2
  exact ⟨rfl, rfl⟩

end Go.Proofs.Ytkaakhmncmpliaa
