/- crucibleref05: Whole, FromWhole; RealWholes: the walk -/
import Derived.Test.YtkaakhmncmpliaaRWhole
import Derived.Test.YtkaakhmncmpliaaRSum
import Derived.Test.YtkaakhmncmpliaaRLives
namespace Go.Proofs.Ytkaakhmncmpliaa
open Go.RowKit
set_option linter.unusedVariables false

theorem half_move {U m e : Int} (he : -1074 ≤ e) (h : U = m * p2 (e + 1074).toNat) (hm : m % 2 = 0) : U = m / 2 * p2 (e + 1 + 1074).toNat := by
  rw [h, show (e + 1 + 1074).toNat = (e + 1074).toNat + 1 by omega, p2, ← Int.mul_assoc, show m / 2 * 2 = m by omega]
theorem twice_move {U m e : Int} (he : -1073 ≤ e) (h : U = m * p2 (e + 1074).toNat) : U = m * 2 * p2 (e - 1 + 1074).toNat := by
  rw [h, show (e + 1074).toNat = (e - 1 + 1074).toNat + 1 by omega, p2, ← Int.mul_assoc]
/-- what the steps come to -/
theorem wh_final {b : Nat} {m e : Int} (fin : szD b < 9218868437227405312) (e0 : -1074 ≤ e) (m0 : 0 ≤ m) (h : uD (szD b) = m * p2 (e + 1074).toNat) (hlow : e < 0 → m % 2 = 1 ∨ m = 0) (hup : 0 < e → m = 0 ∨ 9223372036854775808 ≤ m) :
    (m = 0 → Wh b 0 true) ∧ (m ≠ 0 → e ≠ 0 ∨ 9223372036854775808 < m ∨ (m = 9223372036854775808 ∧ ngD b = false) → Wh b 0 false) ∧
    (e = 0 → ngD b = true → m ≤ 9223372036854775808 → Wh b (-m) true) ∧ (e = 0 → ngD b = false → m < 9223372036854775808 → Wh b m true) := by
  have hp := pL_pos
  have abs : ∀ j, IsV b j → uD (szD b) = (if ngD b = true then -j else j) * pL := by
    intro j hj
    have := hj.2
    rcases hs : ngD b with _ | _
    · rw [hs, if_neg (by decide)] at this; rw [if_neg (by decide)]; exact this
    · rw [hs, if_pos rfl] at this; rw [if_pos rfl, Int.neg_mul, ← this, Int.neg_neg]
  have is : ∀ k : Int, uD (szD b) = k * pL → IsV b (if ngD b = true then -k else k) := by
    intro k hk
    refine ⟨fin, ?_⟩
    rw [hk]
    cases ngD b <;> simp only [Bool.false_eq_true, reduceIte, Int.neg_mul]
  refine ⟨fun g => ?_, fun g0 g => ?_, fun g s l => ?_, fun g s l => ?_⟩
  · have h0 := is 0 (by rw [h, g, Int.zero_mul, Int.zero_mul])
    rw [show (if ngD b = true then -(0 : Int) else 0) = 0 by cases ngD b <;> rfl] at h0
    exact Or.inl ⟨rfl, h0, by decide, by decide⟩
  · refine Or.inr ⟨rfl, rfl, fun j j0 j1 hj => ?_⟩
    have hU := (abs j hj).symm.trans h
    have jb : (if ngD b = true then -j else j) ≤ 9223372036854775808 ∧ (ngD b = false → (if ngD b = true then -j else j) ≤ 9223372036854775807) := by
      cases ngD b <;> simp <;> omega
    generalize (if ngD b = true then -j else j) = i at *
    rcases Int.lt_trichotomy e 0 with c | c | c
    · have hodd : m % 2 = 1 := by rcases hlow c with d | d <;> omega
      obtain ⟨k, hk⟩ : ∃ k : Nat, e = -((k : Int) + 1) := ⟨(-e - 1).toNat, by omega⟩
      rw [show (e + 1074).toNat = 1074 - (k + 1) by omega, pL_split (n := k + 1) (by omega), ← Int.mul_assoc] at hU
      have := Int.eq_of_mul_eq_mul_right (by have := p2_pos (1074 - (k + 1)); omega) hU
      rw [p2] at this
      have h3 : i * (2 * p2 k) = 2 * (i * p2 k) := Int.mul_left_comm _ _ _
      omega
    · subst c
      rw [show ((0 : Int) + 1074).toNat = 1074 from rfl, show p2 1074 = pL from rfl] at hU
      have := Int.eq_of_mul_eq_mul_right (by omega) hU
      rcases g with g | g | ⟨g, s⟩
      · omega
      · omega
      · have := jb.2 s; omega
    · have hm : 9223372036854775808 ≤ m := by rcases hup c with d | d <;> omega
      rw [show (e + 1074).toNat = e.toNat + 1074 by omega, p2_more, ← Int.mul_assoc] at hU
      have hi := Int.eq_of_mul_eq_mul_right (by omega) hU
      obtain ⟨k, hk⟩ : ∃ k : Nat, e.toNat = k + 1 := ⟨e.toNat - 1, by omega⟩
      rw [hk, p2] at hi
      have h1 := p2_pos k
      have h2 : 9223372036854775808 * (2 * p2 k) ≤ m * (2 * p2 k) := Int.mul_le_mul_of_nonneg_right hm (by omega)
      omega
  · subst g
    have h0 := is m h
    rw [s, if_pos rfl] at h0
    exact Or.inl ⟨rfl, h0, by omega, by omega⟩
  · subst g
    have h0 := is m h
    rw [s, if_neg (by decide)] at h0
    exact Or.inl ⟨rfl, h0, by omega, by omega⟩

theorem mst_top5 (s : Nat) : mst 4503599627370496 (s : Int) < 9007199254740992 ∧ 0 ≤ mst 4503599627370496 (s : Int) := by
  unfold mst
  split
  · omega
  · omega
theorem est_top5 (s : Nat) (h : s < 9218868437227405312) : est 4503599627370496 (-1074) (s : Int) ≤ 971 ∧ -1074 ≤ est 4503599627370496 (-1074) (s : Int) := by
  unfold est
  split
  · omega
  · omega
/-- an answer of Whole -/
def WhIs (b : Nat) (x : Ending) : Prop := ∃ k ok, x = .returned (.tuple #[.int .i64 k, .bool ok]) ∧ Wh b k ok
set_option maxRecDepth 100000 in
set_option maxHeartbeats 4000000 in
theorem rwhole_any (w : World) (b : Int) (h0 : 0 ≤ b) (h1 : b < 18446744073709551616) : Calls Try.prog 22 #[.int .u64 b] w fun e w' => WhIs b.toNat e ∧ Below w.heap.size w w' := by
  have qa : ∀ w, Calls Try.prog 15 #[.int .u64 b] w fun e w' => e = .returned (.bool (decide (nanD b.toNat))) ∧ w' = w := fun w => isnan_any w b h0 h1
  have ia : ∀ w, Calls Try.prog 46 #[.int .u64 b] w fun e w' => e = .returned (.bool (decide (szD b.toNat = 9218868437227405312))) ∧ w' = w := fun w => isinf_any w b h0 h1
  have na : ∀ w, Calls Try.prog 55 #[.int .u64 b] w fun e w' => e = .returned (.bool (ngD b.toNat)) ∧ w' = w := fun w => neg_any w b h0 h1
  have hm : ∀ w, Calls Try.prog 47 #[.int .u64 b] w fun e w' => e = .returned (.tuple #[.int .u64 (mst 4503599627370496 (szD b.toNat)), .int .i64 (est 4503599627370496 (-1074) (szD b.toNat))]) ∧ w' = w := fun w => parts_any w b h0 h1
  clear h0 h1
  by_cases p : nanD b.toNat
  · have H := hide (wh_out (Or.inl p))
    rw [decide_eq_true p] at qa
    clear p hm ia na
    go_enter Try.func22, Try.ntmps22
    go_wp2_with (with_reducible refine (qa _).mono ?_; rintro e w3 ⟨rfl, rfl⟩)
    go_ret2
    exact ⟨⟨0, false, rfl, H.out⟩, Below.refl _ _⟩
  rw [decide_eq_false p] at qa
  by_cases z : szD b.toNat = 9218868437227405312
  · have H := hide (show Wh b.toNat 0 false from Or.inr ⟨rfl, rfl, fun j _ _ hj => absurd hj.1 (by omega)⟩)
    rw [decide_eq_true z] at ia
    clear p z hm na
    go_enter Try.func22, Try.ntmps22
    go_wp2_with (first | (with_reducible refine (qa _).mono ?_; rintro e w3 ⟨rfl, rfl⟩) | (with_reducible refine (ia _).mono ?_; rintro e w3 ⟨rfl, rfl⟩))
    go_ret2
    exact ⟨⟨0, false, rfl, H.out⟩, Below.refl _ _⟩
  rw [decide_eq_false z] at ia
  have fin : szD b.toNat < 9218868437227405312 := by unfold nanD at p; omega
  have HF := fun (m e : Int) => @wh_final b.toNat m e fin
  have HF' := hide HF
  have hu := uD_parts (szD b.toNat)
  obtain ⟨e1, e0⟩ := est_top5 _ fin
  obtain ⟨m1, m0⟩ := mst_top5 (szD b.toNat)
  generalize uD (szD b.toNat) = U at *
  generalize mst 4503599627370496 (szD b.toNat) = M at *
  generalize est 4503599627370496 (-1074) (szD b.toNat) = E at *
  generalize ngD b.toNat = sg at *
  have Hu := hide hu
  clear p z fin HF hu
  go_enter Try.func22, Try.ntmps22
  go_wp2_with (first | (with_reducible refine (qa _).mono ?_; rintro e w3 ⟨rfl, rfl⟩) | (with_reducible refine (ia _).mono ?_; rintro e w3 ⟨rfl, rfl⟩) | (with_reducible refine (hm _).mono ?_; rintro e w3 ⟨rfl, rfl⟩))
  go_loopw [4, 5] (fun sm se wr => ∃ m e : Int, sm = .int .u64 m ∧ se = .int .i64 e ∧ 0 ≤ m ∧ m < 9007199254740992 ∧ -1074 ≤ e ∧ e ≤ 971 ∧ Hid (U = m * p2 (e + 1074).toNat) ∧ Below w3.heap.size w3 wr) (fun _ se _ => (-(intOf se)).toNat)
  case atStart => exact ⟨M, E, rfl, rfl, m0, m1, e0, e1, Hu, Below.refl _ _⟩
  case round =>
    obtain ⟨m, e, rfl, rfl, x0, x1, y0, y1, HU, K⟩ := hrel
    by_cases c : e < 0 ∧ m % 2 = 0 ∧ 0 < m
    · obtain ⟨c1, c2, c3⟩ := c
      have c2' : (m % 2 == 0) = true := by simp [c2]
      have HU2 := hide (half_move y0 HU.out c2)
      clear c2
      go_wp2
      go_roundw
      case rel => exact ⟨m / 2, e + 1, rfl, rfl, by omega, by omega, by omega, by omega, HU2, K⟩
      case measure => simp [intOf]; omega
    · by_cases c1 : e < 0
      · have d1 : decide (e < 0) = true := decide_eq_true c1
        by_cases c2 : m % 2 = 0
        · have c2' : (m % 2 == 0) = true := by simp [c2]
          have c3 : ¬ 0 < m := fun h => c ⟨c1, c2, h⟩
          have d3 : decide (0 < m) = false := decide_eq_false c3
          have HLOW : Hid (e < 0 → m % 2 = 1 ∨ m = 0) := hide (fun _ => Or.inr (by omega))
          clear c c2
          go_wp2
          go_loopw [4, 5] (fun sm se wr2 => ∃ m e : Int, sm = .int .u64 m ∧ se = .int .i64 e ∧ 0 ≤ m ∧ m < 18446744073709551616 ∧ -1074 ≤ e ∧ e ≤ 971 ∧ Hid (U = m * p2 (e + 1074).toNat) ∧ Hid (e < 0 → m % 2 = 1 ∨ m = 0) ∧ Below w3.heap.size w3 wr2) (fun _ se _ => (intOf se).toNat)
          case atStart => exact ⟨m, e, rfl, rfl, x0, by omega, y0, y1, HU, HLOW, K⟩
          case round =>
            clear HU K x0 x1 y0 y1 HLOW
            rename_i hrel
            obtain ⟨m, e, rfl, rfl, x0, x1, y0, y1, HU, HLOW, K⟩ := hrel
            by_cases c1 : 0 < e
            · have d1 : decide (0 < e) = true := decide_eq_true c1
              by_cases c2 : 0 < m
              · have d2 : decide (0 < m) = true := decide_eq_true c2
                by_cases c3 : m < 9223372036854775808
                · have HU2 := hide (twice_move (by omega) HU.out)
                  have HL2 : Hid (e - 1 < 0 → m * 2 % 2 = 1 ∨ m * 2 = 0) := hide (fun h => by omega)
                  go_wp2
                  go_roundw
                  case rel => exact ⟨m * 2, e - 1, rfl, rfl, by omega, by omega, by omega, by omega, HU2, HL2, K⟩
                  case measure => simp [intOf]; omega
                · have d3 : decide (m < 9223372036854775808) = false := decide_eq_false c3
                  have hlow := HLOW.out
                  have hup : 0 < e → m = 0 ∨ 9223372036854775808 ≤ m := fun _ => Or.inr (by omega)
                  clear HLOW
                  have z0' : (m == 0) = false := by simp; omega
                  have ze' : (e != 0) = true := by simp; omega
                  have ze2 : (e == 0) = false := by simp; omega
                  have H := hide ((HF'.out m e y0 x0 HU.out hlow hup).2.1 (by omega) (Or.inl (by omega)))
                  clear HU hlow hup
                  go_wp2
                  go_ret2
                  exact ⟨⟨0, false, rfl, H.out⟩, K⟩
              · have d2 : decide (0 < m) = false := decide_eq_false c2
                have hlow := HLOW.out
                have hup : 0 < e → m = 0 ∨ 9223372036854775808 ≤ m := fun _ => Or.inl (by omega)
                clear HLOW
                obtain rfl : m = 0 := by omega
                have H := hide ((HF'.out 0 e y0 x0 HU.out hlow hup).1 rfl)
                clear HU hlow hup
                go_wp2
                go_ret2
                exact ⟨⟨0, true, rfl, H.out⟩, K⟩
            · have d1 : decide (0 < e) = false := decide_eq_false c1
              have hlow := HLOW.out
              have hup : 0 < e → m = 0 ∨ 9223372036854775808 ≤ m := fun h => absurd h c1
              clear HLOW
              have HFX := hide (HF'.out m e y0 x0 HU.out hlow hup)
              clear HU hlow hup
              by_cases z0 : m = 0
              · have z0' : (m == 0) = true := by simp [z0]
                have H := hide (HFX.out.1 z0)
                clear HFX z0
                go_wp2
                go_ret2
                exact ⟨⟨0, true, rfl, H.out⟩, K⟩
              have z0' : (m == 0) = false := by simp [z0]
              have mp : 0 < m := by omega
              by_cases ze : e = 0
              · have ze' : (e != 0) = false := by simp [ze]
                have ze2 : (e == 0) = true := by simp [ze]
                rcases Int.lt_trichotomy m 9223372036854775808 with t | t | t
                · have t' : (m == 9223372036854775808) = false := by simp; omega
                  cases sg
                  · have H := hide (HFX.out.2.2.2 ze rfl t)
                    clear HFX z0 ze
                    go_wp2_with (with_reducible refine (na _).mono ?_; rintro e' w5 ⟨rfl, rfl⟩)
                    go_ret2
                    exact ⟨⟨m, true, rfl, H.out⟩, K⟩
                  · have H := hide (HFX.out.2.2.1 ze rfl (by omega))
                    clear HFX z0 ze
                    go_wp2_with (with_reducible refine (na _).mono ?_; rintro e' w5 ⟨rfl, rfl⟩)
                    go_ret2
                    exact ⟨⟨-m, true, by first | rfl | (rw [show -m = -(m - 1) - 1 by omega]; rfl), H.out⟩, K⟩
                · have t' : (m == 9223372036854775808) = true := by simp [t]
                  have t2 : ¬ 9223372036854775808 < m := by omega
                  have t3 : decide (9223372036854775808 < m) = false := decide_eq_false t2
                  cases sg
                  · have H := hide (HFX.out.2.1 z0 (Or.inr (Or.inr ⟨t, rfl⟩)))
                    clear HFX z0 ze t
                    go_wp2_with (with_reducible refine (na _).mono ?_; rintro e' w5 ⟨rfl, rfl⟩)
                    go_ret2
                    exact ⟨⟨0, false, rfl, H.out⟩, K⟩
                  · have H := hide (HFX.out.2.2.1 ze rfl (by omega))
                    have t0 : m ≤ 9223372036854775808 := by omega
                    clear HFX z0 ze t
                    go_wp2_with (with_reducible refine (na _).mono ?_; rintro e' w5 ⟨rfl, rfl⟩)
                    go_ret2
                    exact ⟨⟨-m, true, by first | rfl | (rw [show -m = -(m - 1) - 1 by omega]; rfl), H.out⟩, K⟩
                · have t' : (m == 9223372036854775808) = false := by simp; omega
                  have H := hide (HFX.out.2.1 z0 (Or.inr (Or.inl t)))
                  clear HFX z0 ze
                  go_wp2_with (with_reducible refine (na _).mono ?_; rintro e' w5 ⟨rfl, rfl⟩)
                  go_ret2
                  exact ⟨⟨0, false, rfl, H.out⟩, K⟩
              · have ze' : (e != 0) = true := by simp [ze]
                have ze2 : (e == 0) = false := by simp [ze]
                have H := hide (HFX.out.2.1 z0 (Or.inl ze))
                clear HFX z0 ze
                go_wp2_with (with_reducible refine (na _).mono ?_; rintro e' w5 ⟨rfl, rfl⟩)
                go_ret2
                exact ⟨⟨0, false, rfl, H.out⟩, K⟩
        · have c2' : (m % 2 == 0) = false := by simp [c2]
          have HLOW : Hid (e < 0 → m % 2 = 1 ∨ m = 0) := hide (fun _ => Or.inl (by omega))
          clear c c2
          go_wp2
          go_loopw [4, 5] (fun sm se wr2 => ∃ m e : Int, sm = .int .u64 m ∧ se = .int .i64 e ∧ 0 ≤ m ∧ m < 18446744073709551616 ∧ -1074 ≤ e ∧ e ≤ 971 ∧ Hid (U = m * p2 (e + 1074).toNat) ∧ Hid (e < 0 → m % 2 = 1 ∨ m = 0) ∧ Below w3.heap.size w3 wr2) (fun _ se _ => (intOf se).toNat)
          case atStart => exact ⟨m, e, rfl, rfl, x0, by omega, y0, y1, HU, HLOW, K⟩
          case round =>
            clear HU K x0 x1 y0 y1 HLOW
            rename_i hrel
            obtain ⟨m, e, rfl, rfl, x0, x1, y0, y1, HU, HLOW, K⟩ := hrel
            by_cases c1 : 0 < e
            · have d1 : decide (0 < e) = true := decide_eq_true c1
              by_cases c2 : 0 < m
              · have d2 : decide (0 < m) = true := decide_eq_true c2
                by_cases c3 : m < 9223372036854775808
                · have HU2 := hide (twice_move (by omega) HU.out)
                  have HL2 : Hid (e - 1 < 0 → m * 2 % 2 = 1 ∨ m * 2 = 0) := hide (fun h => by omega)
                  go_wp2
                  go_roundw
                  case rel => exact ⟨m * 2, e - 1, rfl, rfl, by omega, by omega, by omega, by omega, HU2, HL2, K⟩
                  case measure => simp [intOf]; omega
                · have d3 : decide (m < 9223372036854775808) = false := decide_eq_false c3
                  have hlow := HLOW.out
                  have hup : 0 < e → m = 0 ∨ 9223372036854775808 ≤ m := fun _ => Or.inr (by omega)
                  clear HLOW
                  have z0' : (m == 0) = false := by simp; omega
                  have ze' : (e != 0) = true := by simp; omega
                  have ze2 : (e == 0) = false := by simp; omega
                  have H := hide ((HF'.out m e y0 x0 HU.out hlow hup).2.1 (by omega) (Or.inl (by omega)))
                  clear HU hlow hup
                  go_wp2
                  go_ret2
                  exact ⟨⟨0, false, rfl, H.out⟩, K⟩
              · have d2 : decide (0 < m) = false := decide_eq_false c2
                have hlow := HLOW.out
                have hup : 0 < e → m = 0 ∨ 9223372036854775808 ≤ m := fun _ => Or.inl (by omega)
                clear HLOW
                obtain rfl : m = 0 := by omega
                have H := hide ((HF'.out 0 e y0 x0 HU.out hlow hup).1 rfl)
                clear HU hlow hup
                go_wp2
                go_ret2
                exact ⟨⟨0, true, rfl, H.out⟩, K⟩
            · have d1 : decide (0 < e) = false := decide_eq_false c1
              have hlow := HLOW.out
              have hup : 0 < e → m = 0 ∨ 9223372036854775808 ≤ m := fun h => absurd h c1
              clear HLOW
              have HFX := hide (HF'.out m e y0 x0 HU.out hlow hup)
              clear HU hlow hup
              by_cases z0 : m = 0
              · have z0' : (m == 0) = true := by simp [z0]
                have H := hide (HFX.out.1 z0)
                clear HFX z0
                go_wp2
                go_ret2
                exact ⟨⟨0, true, rfl, H.out⟩, K⟩
              have z0' : (m == 0) = false := by simp [z0]
              have mp : 0 < m := by omega
              by_cases ze : e = 0
              · have ze' : (e != 0) = false := by simp [ze]
                have ze2 : (e == 0) = true := by simp [ze]
                rcases Int.lt_trichotomy m 9223372036854775808 with t | t | t
                · have t' : (m == 9223372036854775808) = false := by simp; omega
                  cases sg
                  · have H := hide (HFX.out.2.2.2 ze rfl t)
                    clear HFX z0 ze
                    go_wp2_with (with_reducible refine (na _).mono ?_; rintro e' w5 ⟨rfl, rfl⟩)
                    go_ret2
                    exact ⟨⟨m, true, rfl, H.out⟩, K⟩
                  · have H := hide (HFX.out.2.2.1 ze rfl (by omega))
                    clear HFX z0 ze
                    go_wp2_with (with_reducible refine (na _).mono ?_; rintro e' w5 ⟨rfl, rfl⟩)
                    go_ret2
                    exact ⟨⟨-m, true, by first | rfl | (rw [show -m = -(m - 1) - 1 by omega]; rfl), H.out⟩, K⟩
                · have t' : (m == 9223372036854775808) = true := by simp [t]
                  have t2 : ¬ 9223372036854775808 < m := by omega
                  have t3 : decide (9223372036854775808 < m) = false := decide_eq_false t2
                  cases sg
                  · have H := hide (HFX.out.2.1 z0 (Or.inr (Or.inr ⟨t, rfl⟩)))
                    clear HFX z0 ze t
                    go_wp2_with (with_reducible refine (na _).mono ?_; rintro e' w5 ⟨rfl, rfl⟩)
                    go_ret2
                    exact ⟨⟨0, false, rfl, H.out⟩, K⟩
                  · have H := hide (HFX.out.2.2.1 ze rfl (by omega))
                    have t0 : m ≤ 9223372036854775808 := by omega
                    clear HFX z0 ze t
                    go_wp2_with (with_reducible refine (na _).mono ?_; rintro e' w5 ⟨rfl, rfl⟩)
                    go_ret2
                    exact ⟨⟨-m, true, by first | rfl | (rw [show -m = -(m - 1) - 1 by omega]; rfl), H.out⟩, K⟩
                · have t' : (m == 9223372036854775808) = false := by simp; omega
                  have H := hide (HFX.out.2.1 z0 (Or.inr (Or.inl t)))
                  clear HFX z0 ze
                  go_wp2_with (with_reducible refine (na _).mono ?_; rintro e' w5 ⟨rfl, rfl⟩)
                  go_ret2
                  exact ⟨⟨0, false, rfl, H.out⟩, K⟩
              · have ze' : (e != 0) = true := by simp [ze]
                have ze2 : (e == 0) = false := by simp [ze]
                have H := hide (HFX.out.2.1 z0 (Or.inl ze))
                clear HFX z0 ze
                go_wp2_with (with_reducible refine (na _).mono ?_; rintro e' w5 ⟨rfl, rfl⟩)
                go_ret2
                exact ⟨⟨0, false, rfl, H.out⟩, K⟩
      · have d1 : decide (e < 0) = false := decide_eq_false c1
        have HLOW : Hid (e < 0 → m % 2 = 1 ∨ m = 0) := hide (fun h => absurd h c1)
        clear c
        go_wp2
        go_loopw [4, 5] (fun sm se wr2 => ∃ m e : Int, sm = .int .u64 m ∧ se = .int .i64 e ∧ 0 ≤ m ∧ m < 18446744073709551616 ∧ -1074 ≤ e ∧ e ≤ 971 ∧ Hid (U = m * p2 (e + 1074).toNat) ∧ Hid (e < 0 → m % 2 = 1 ∨ m = 0) ∧ Below w3.heap.size w3 wr2) (fun _ se _ => (intOf se).toNat)
        case atStart => exact ⟨m, e, rfl, rfl, x0, by omega, y0, y1, HU, HLOW, K⟩
        case round =>
          clear HU K x0 x1 y0 y1 HLOW
          rename_i hrel
          obtain ⟨m, e, rfl, rfl, x0, x1, y0, y1, HU, HLOW, K⟩ := hrel
          by_cases c1 : 0 < e
          · have d1 : decide (0 < e) = true := decide_eq_true c1
            by_cases c2 : 0 < m
            · have d2 : decide (0 < m) = true := decide_eq_true c2
              by_cases c3 : m < 9223372036854775808
              · have HU2 := hide (twice_move (by omega) HU.out)
                have HL2 : Hid (e - 1 < 0 → m * 2 % 2 = 1 ∨ m * 2 = 0) := hide (fun h => by omega)
                go_wp2
                go_roundw
                case rel => exact ⟨m * 2, e - 1, rfl, rfl, by omega, by omega, by omega, by omega, HU2, HL2, K⟩
                case measure => simp [intOf]; omega
              · have d3 : decide (m < 9223372036854775808) = false := decide_eq_false c3
                have hlow := HLOW.out
                have hup : 0 < e → m = 0 ∨ 9223372036854775808 ≤ m := fun _ => Or.inr (by omega)
                clear HLOW
                have z0' : (m == 0) = false := by simp; omega
                have ze' : (e != 0) = true := by simp; omega
                have ze2 : (e == 0) = false := by simp; omega
                have H := hide ((HF'.out m e y0 x0 HU.out hlow hup).2.1 (by omega) (Or.inl (by omega)))
                clear HU hlow hup
                go_wp2
                go_ret2
                exact ⟨⟨0, false, rfl, H.out⟩, K⟩
            · have d2 : decide (0 < m) = false := decide_eq_false c2
              have hlow := HLOW.out
              have hup : 0 < e → m = 0 ∨ 9223372036854775808 ≤ m := fun _ => Or.inl (by omega)
              clear HLOW
              obtain rfl : m = 0 := by omega
              have H := hide ((HF'.out 0 e y0 x0 HU.out hlow hup).1 rfl)
              clear HU hlow hup
              go_wp2
              go_ret2
              exact ⟨⟨0, true, rfl, H.out⟩, K⟩
          · have d1 : decide (0 < e) = false := decide_eq_false c1
            have hlow := HLOW.out
            have hup : 0 < e → m = 0 ∨ 9223372036854775808 ≤ m := fun h => absurd h c1
            clear HLOW
            have HFX := hide (HF'.out m e y0 x0 HU.out hlow hup)
            clear HU hlow hup
            by_cases z0 : m = 0
            · have z0' : (m == 0) = true := by simp [z0]
              have H := hide (HFX.out.1 z0)
              clear HFX z0
              go_wp2
              go_ret2
              exact ⟨⟨0, true, rfl, H.out⟩, K⟩
            have z0' : (m == 0) = false := by simp [z0]
            have mp : 0 < m := by omega
            by_cases ze : e = 0
            · have ze' : (e != 0) = false := by simp [ze]
              have ze2 : (e == 0) = true := by simp [ze]
              rcases Int.lt_trichotomy m 9223372036854775808 with t | t | t
              · have t' : (m == 9223372036854775808) = false := by simp; omega
                cases sg
                · have H := hide (HFX.out.2.2.2 ze rfl t)
                  clear HFX z0 ze
                  go_wp2_with (with_reducible refine (na _).mono ?_; rintro e' w5 ⟨rfl, rfl⟩)
                  go_ret2
                  exact ⟨⟨m, true, rfl, H.out⟩, K⟩
                · have H := hide (HFX.out.2.2.1 ze rfl (by omega))
                  clear HFX z0 ze
                  go_wp2_with (with_reducible refine (na _).mono ?_; rintro e' w5 ⟨rfl, rfl⟩)
                  go_ret2
                  exact ⟨⟨-m, true, by first | rfl | (rw [show -m = -(m - 1) - 1 by omega]; rfl), H.out⟩, K⟩
              · have t' : (m == 9223372036854775808) = true := by simp [t]
                have t2 : ¬ 9223372036854775808 < m := by omega
                have t3 : decide (9223372036854775808 < m) = false := decide_eq_false t2
                cases sg
                · have H := hide (HFX.out.2.1 z0 (Or.inr (Or.inr ⟨t, rfl⟩)))
                  clear HFX z0 ze t
                  go_wp2_with (with_reducible refine (na _).mono ?_; rintro e' w5 ⟨rfl, rfl⟩)
                  go_ret2
                  exact ⟨⟨0, false, rfl, H.out⟩, K⟩
                · have H := hide (HFX.out.2.2.1 ze rfl (by omega))
                  have t0 : m ≤ 9223372036854775808 := by omega
                  clear HFX z0 ze t
                  go_wp2_with (with_reducible refine (na _).mono ?_; rintro e' w5 ⟨rfl, rfl⟩)
                  go_ret2
                  exact ⟨⟨-m, true, by first | rfl | (rw [show -m = -(m - 1) - 1 by omega]; rfl), H.out⟩, K⟩
              · have t' : (m == 9223372036854775808) = false := by simp; omega
                have H := hide (HFX.out.2.1 z0 (Or.inr (Or.inl t)))
                clear HFX z0 ze
                go_wp2_with (with_reducible refine (na _).mono ?_; rintro e' w5 ⟨rfl, rfl⟩)
                go_ret2
                exact ⟨⟨0, false, rfl, H.out⟩, K⟩
            · have ze' : (e != 0) = true := by simp [ze]
              have ze2 : (e == 0) = false := by simp [ze]
              have H := hide (HFX.out.2.1 z0 (Or.inl ze))
              clear HFX z0 ze
              go_wp2_with (with_reducible refine (na _).mono ?_; rintro e' w5 ⟨rfl, rfl⟩)
              go_ret2
              exact ⟨⟨0, false, rfl, H.out⟩, K⟩

end Go.Proofs.Ytkaakhmncmpliaa
