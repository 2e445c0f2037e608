/- layer 19: the table; begins, argument, isSimple, fits, shortest, wrongAt -/
import Derived.Test.YtgblakfcplphjabDoorHdM
import Derived.Test.YtgblakfcplphjabDoorFEr
import Derived.Laws.Strings
import Derived.Laws.BytesString
import Derived.Laws.BitsAllLaws
namespace Go.Proofs.YtgblakfcplphjabDoor
open Go.RowKit
set_option linter.unusedVariables false

/-- the table lies in the world -/
def Beh (w : World) : Prop := ∀ k : Nat, k < 32 → w.cell? ⟨0, k, none⟩ = some (.int .i64 (hN k))
theorem Beh.below {w w' : World} (h : Beh w) (hb : Below w.heap.size w w') : Beh w' := by
  have hl : 0 < w.heap.size := by
    have hc := h 0 (by decide)
    rcases Nat.lt_or_ge 0 w.heap.size with g | g
    · exact g
    · simp [World.cell?, Array.getElem?_eq_none g] at hc
  intro k hk
  rw [(fubcell0 hb).1 _ _ hl]; exact h k hk
theorem Beh.at {w : World} (h : Beh w) {i : Int} (h0 : 0 ≤ i) (h1 : i < 32) : w.cell? ⟨0, i.toNat, none⟩ = some (.int .i64 (hN i)) := by
  have := h i.toNat (by omega)
  rwa [Int.toNat_of_nonneg h0] at this
theorem or64 (n : Nat) {a b P : Int} (hP : P = ((2 ^ n : Nat) : Int)) (h0 : 0 ≤ a) (h1 : a < 18446744073709551616) (hm : a % P = 0) (g0 : 0 ≤ b) (g1 : b < P) (g2 : b < 18446744073709551616) : bits .or .u64 a b = a + b := by
  rw [u64_or a b h0 h1 g0 g2]
  have hd : a = P * (a / P) := by have := Int.mul_ediv_add_emod a P; omega
  have hp : 0 < P := by omega
  have hq : 0 ≤ a / P := Int.ediv_nonneg h0 (by omega)
  have e : a.toNat = 2 ^ n * (a / P).toNat := by
    have : ((2 ^ n * (a / P).toNat : Nat) : Int) = a := by rw [Int.natCast_mul, Int.toNat_of_nonneg hq, ← hP]; exact hd.symm
    omega
  rw [e, ← Nat.two_pow_add_eq_or_of_lt (by omega)]
  omega
theorem or8h (n : Nat) {a b P : Int} (hP : P = ((2 ^ n : Nat) : Int)) (h0 : 0 ≤ a) (h1 : a < 256) (hm : a % P = 0) (g0 : 0 ≤ b) (g1 : b < P) (g2 : b < 256) : bits .or .u8 a b = a + b := by
  rw [u8_or a b h0 h1 g0 g2]
  have hd : a = P * (a / P) := by have := Int.mul_ediv_add_emod a P; omega
  have hp : 0 < P := by omega
  have hq : 0 ≤ a / P := Int.ediv_nonneg h0 (by omega)
  have e : a.toNat = 2 ^ n * (a / P).toNat := by
    have : ((2 ^ n * (a / P).toNat : Nat) : Int) = a := by rw [Int.natCast_mul, Int.toNat_of_nonneg hq, ← hP]; exact hd.symm
    omega
  rw [e, ← Nat.two_pow_add_eq_or_of_lt (by omega)]
  omega
theorem and31 (x : Int) (h0 : 0 ≤ x) (h1 : x < 256) : bits .and .u8 x 31 = x % 32 := by
  rw [u8_and x 31 h0 h1 (by decide) (by decide), show (31 : Int).toNat = 2 ^ 5 - 1 from rfl, Nat.and_two_pow_sub_one_eq_mod]
  omega
theorem str_indexH {al : List Int} {s : ByteArray} (hs : s = strOfNums al) (hb : uByt al) {k : IntKind} {i : Int} (h0 : 0 ≤ i) (h1 : i < al.length) (W : World) :
    (Instr.index 9 (.string s) (.int k i)).run Tryd.prog W = .ok (.int .u8 (Nt.lb al i.toNat)) W := by
  subst hs
  have hsz : (strOfNums al).size = al.length := strOfNums_size al
  rw [run_index_string W 9 _ k i Tryd.underlying9, dif_pos ⟨h0, by omega⟩, utxt_at (by omega) hb]

theorem rtb {a b : Bool} (h : a = b) : Ending.returned (.bool a) = .returned (.bool b) := by rw [h]
theorem rtu {a b : Int} (h : a = b) : Ending.returned (.int .u64 a) = .returned (.int .u64 b) := by rw [h]
theorem begins_any {w : World} {m i : Int} (hB0 : Beh w) (hi0 : 0 ≤ i) (hi : i < 32) :
    Calls Tryd.prog 12 #[.int .u8 m, .int .u8 i] w fun e w' => e = .returned (.bool (hB m i)) ∧ w' = w := by
  have hc := hB0.at hi0 hi
  clear hB0
  by_cases h31 : i = 31
  · subst h31
    obtain ⟨b, hb⟩ : ∃ b, hB m 31 = b := ⟨_, rfl⟩
    have e : hB m 31 = decide (m = 2 ∨ m = 3 ∨ m = 4 ∨ m = 5 ∨ m = 7) := if_pos rfl
    rw [hb] at e ⊢
    clear hb
    go_enter Tryd.func12, Tryd.ntmps12
    go_wp2
    all_goals go_ret
    all_goals exact ⟨rtb (by rw [e]; simp_all), rfl⟩
  · have e : hB m i = decide (0 ≤ hN i) := if_neg h31
    rw [e]
    go_enter Tryd.func12, Tryd.ntmps12
    go_wp2
    go_ret
    exact ⟨rfl, rfl⟩

theorem isSimple_any {w : World} {x : Int} :
    Calls Tryd.prog 14 #[.int .u64 x] w fun e w' => e = .returned (.bool (hSi x)) ∧ w' = w := by
  obtain ⟨b, hb⟩ : ∃ b, hSi x = b := ⟨_, rfl⟩
  rw [hb]
  unfold hSi at hb
  go_enter Tryd.func14, Tryd.ntmps14
  go_wp2
  all_goals go_ret
  all_goals exact ⟨rtb (by rw [← hb]; first | (simp_all; done) | (rw [Bool.eq_iff_iff]; simp only [Bool.or_eq_true, Bool.and_eq_true, decide_eq_true_eq]; omega)), rfl⟩

theorem fits_any {w : World} {x i : Int} (hB0 : Beh w) (hi0 : 0 ≤ i) (hi : i < 28) (hx0 : 0 ≤ x) (hx1 : x < 18446744073709551616) :
    Calls Tryd.prog 9 #[.int .u64 x, .int .u8 i] w fun e w' => e = .returned (.bool (decide (x < p256 (hN i).toNat))) ∧ w' = w := by
  have hc := hB0.at hi0 (by omega)
  clear hB0
  rcases (by have := hN_cases i; omega : hN i = 0 ∨ hN i = 1 ∨ hN i = 2 ∨ hN i = 4 ∨ hN i = 8) with h | h | h | h | h <;> rw [h] at hc ⊢
  · rw [show p256 (Int.toNat 0) = 1 from rfl]
    go_enter Tryd.func9, Tryd.ntmps9
    go_wp2
    go_ret
    exact ⟨rtb (by rw [Bool.eq_iff_iff]; simp; omega), rfl⟩
  · rw [show p256 (Int.toNat 1) = 256 from rfl]
    go_enter Tryd.func9, Tryd.ntmps9
    go_wp2
    go_ret
    exact ⟨rtb (by rw [Bool.eq_iff_iff]; simp; omega), rfl⟩
  · rw [show p256 (Int.toNat 2) = 65536 from rfl]
    go_enter Tryd.func9, Tryd.ntmps9
    go_wp2
    go_ret
    exact ⟨rtb (by rw [Bool.eq_iff_iff]; simp; omega), rfl⟩
  · rw [show p256 (Int.toNat 4) = 4294967296 from rfl]
    go_enter Tryd.func9, Tryd.ntmps9
    go_wp2
    go_ret
    exact ⟨rtb (by rw [Bool.eq_iff_iff]; simp; omega), rfl⟩
  · rw [show p256 (Int.toNat 8) = 18446744073709551616 from rfl]
    go_enter Tryd.func9, Tryd.ntmps9
    go_wp2
    go_ret
    exact ⟨rtb (by rw [Bool.eq_iff_iff]; simp; omega), rfl⟩

theorem argument_any {w : World} {i : Int} {l : List Int} {s : ByteArray} (hs : s = strOfNums l) (hb : uByt l) (hl : l.length ≤ 8) (hi0 : 0 ≤ i) (hi : i < 256) :
    Calls Tryd.prog 13 #[.int .u8 i, .string s] w fun e w' => e = .returned (.int .u64 (if i < 24 then i else beV 0 l)) ∧ w' = w := by
  by_cases h24 : i < 24
  · rw [if_pos h24]
    go_enter Tryd.func13, Tryd.ntmps13
    go_wp2
    go_ret
    exact ⟨rfl, rfl⟩
  · rw [if_neg h24]
    have hsz : s.size = l.length := by rw [hs, strOfNums_size]
    have Hix := hide (show ∀ p (h : p < s.size), (((s[p]'h).toNat : Nat) : Int) = Nt.lb l p from fun p h => by subst hs; exact utxt_at h hb)
    have HB := hide (lb_byt hb)
    have HT := hide (show ∀ j, j < l.length → beV 0 (l.take (j + 1)) = 256 * beV 0 (l.take j) + Nt.lb l j from fun j h => by
      rw [List.take_succ_eq_append_getElem h, beV_snoc]; simp [Nt.lb, h])
    have HV := hide (show ∀ j, j < l.length → 0 ≤ beV 0 (l.take j) ∧ beV 0 (l.take j) < 72057594037927936 from fun j h => by
      have := beV_lt (l.take j) 0 0 (by omega) (by decide) (fun y hy => hb y (List.mem_of_mem_take hy))
      rw [List.length_take, Nat.min_eq_left (by omega), Nat.zero_add] at this
      rcases (by omega : j = 0 ∨ j = 1 ∨ j = 2 ∨ j = 3 ∨ j = 4 ∨ j = 5 ∨ j = 6 ∨ j = 7) with rfl | rfl | rfl | rfl | rfl | rfl | rfl | rfl <;> simp only [p256] at this <;> omega)
    have HE := hide (show beV 0 (l.take l.length) = beV 0 l by rw [List.take_length])
    obtain ⟨n, hn⟩ : ∃ n, l.length = n := ⟨_, rfl⟩
    rw [hn] at hsz hl HT HV HE
    obtain ⟨r, hr⟩ : ∃ r, beV 0 l = r := ⟨_, rfl⟩
    rw [hr] at HE ⊢
    clear hr hs hb hn
    go_enter Tryd.func13, Tryd.ntmps13
    go_wp2
    go_loopg [5, 6, 13] 8 (fun c x y k wr => ∃ j : Nat, j ≤ n ∧ k = .int .i64 j ∧ c = 8 - j ∧ x = .int .u64 (beV 0 (l.take j)) ∧ wr = w)
    case atStart => exact ⟨0, by omega, rfl, by omega, rfl, rfl⟩
    case round =>
      obtain ⟨j, hj, rfl, hc, rfl, rfl⟩ := hrel
      by_cases hjn : j < n
      · have q1 : (j : Int) < (n : Int) := by omega
        have hps := Nat.lt_of_lt_of_eq hjn hsz.symm
        have hx := Hix.out j hps
        have hd := HB.out j
        have ht := HT.out j hjn
        have hv := HV.out j hjn
        obtain ⟨d, hd'⟩ : ∃ d, Nt.lb l j = d := ⟨_, rfl⟩
        obtain ⟨x, hx'⟩ : ∃ x, beV 0 (l.take j) = x := ⟨_, rfl⟩
        rw [hd'] at hx hd ht
        rw [hx'] at ht hv ⊢
        have ho := or64 8 (a := x * 256) (b := d) (P := 256) rfl (by omega) (by omega) (by omega) hd.1 hd.2 (by omega)
        have HT2 := hide ht
        clear hd' hx' ht
        go_wp2
        go_roundg (8 - (j + 1))
        case measure => omega
        case rel => exact ⟨j + 1, by omega, by simp, rfl, by rw [HT2.out, Int.mul_comm], rfl⟩
      · have hjn' : j = n := by omega
        subst hjn'
        rw [HE.out]
        go_wp2
        go_ret
        exact ⟨rfl, rfl⟩

/-- the information that takes the fewest bytes -/
theorem shortest_any {w : World} {x : Int} (hB0 : Beh w) (hx0 : 0 ≤ x) (hx1 : x < 18446744073709551616) :
    Calls Tryd.prog 15 #[.int .u64 x] w fun e w' => e = .returned (.int .u8 (hS x)) ∧ w' = w := by
  by_cases h24 : x < 24
  · rw [show hS x = x from if_pos h24]
    go_enter Tryd.func15, Tryd.ntmps15
    go_wp2
    go_ret
    exact ⟨rfl, rfl⟩
  · have HF := hide (show ∀ i : Int, 24 ≤ i → i < 28 → Calls Tryd.prog 9 #[.int .u64 x, .int .u8 i] w fun e w' => e = .returned (.bool (decide (hS x ≤ i))) ∧ w' = w from fun i h0 h1 => by
      refine (fits_any hB0 (by omega) h1 hx0 hx1).mono ?_
      rintro e w' ⟨rfl, rfl⟩
      refine ⟨rtb ?_, rfl⟩
      have e : (x < 24 ∧ hS x = x) ∨ (24 ≤ x ∧ x < 256 ∧ hS x = 24) ∨ (256 ≤ x ∧ x < 65536 ∧ hS x = 25) ∨ (65536 ≤ x ∧ x < 4294967296 ∧ hS x = 26) ∨ (4294967296 ≤ x ∧ hS x = 27) := by
        unfold hS
        (repeat' split) <;> omega
      have hp : p256 (hN 24).toNat = 256 ∧ p256 (hN 25).toNat = 65536 ∧ p256 (hN 26).toNat = 4294967296 ∧ p256 (hN 27).toNat = 18446744073709551616 := ⟨rfl, rfl, rfl, rfl⟩
      rcases (by omega : i = 24 ∨ i = 25 ∨ i = 26 ∨ i = 27) with rfl | rfl | rfl | rfl <;> (rw [Bool.eq_iff_iff]; simp only [decide_eq_true_eq]; omega))
    have hr : 24 ≤ hS x ∧ hS x ≤ 27 := by
      unfold hS
      (repeat' split) <;> omega
    obtain ⟨r, hr'⟩ : ∃ r, hS x = r := ⟨_, rfl⟩
    rw [hr'] at hr HF ⊢
    clear hr' hB0
    go_enter Tryd.func15, Tryd.ntmps15
    go_wp2
    go_loopg [3] 4 (fun c y wr => ∃ i : Int, 24 ≤ i ∧ i ≤ r ∧ y = .int .u8 i ∧ c = (28 - i).toNat ∧ wr = w)
    case atStart => exact ⟨24, by omega, by omega, rfl, rfl, rfl⟩
    case round =>
      obtain ⟨i, h0, h1, rfl, hc, rfl⟩ := hrel
      have HC := hide (HF.out i h0 (by omega))
      by_cases hi : r ≤ i
      · rw [decide_eq_true hi] at HC
        obtain rfl : i = r := by omega
        go_wp2_with (go_at_call 9; refine HC.out.mono ?_; rintro e w' ⟨rfl, rfl⟩)
        go_ret
        exact ⟨rfl, rfl⟩
      · rw [decide_eq_false hi] at HC
        go_wp2_with (go_at_call 9; refine HC.out.mono ?_; rintro e w' ⟨rfl, rfl⟩)
        go_roundg (28 - (i + 1)).toNat
        case measure => omega
        case rel => exact ⟨i + 1, by omega, by omega, by simp, rfl, rfl⟩

theorem wrongAt_any {w : World} {a : Nat → Addr} {k : Int} (hS : Snt w a) :
    Calls Tryd.prog 11 #[.int .i64 k] w fun e w' => ∃ g, w.heap.size ≤ g ∧ e = .returned (.iface 53 (.pointer (some ⟨g, 0, none⟩))) ∧ FltAt w' g (.iface 89 (.pointer (some (a 2)))) k ⟨#[]⟩ ∧ Below w.heap.size w w' := by
  have c2 := hS.cell 2 (by omega)
  simp only [sG, List.getD_cons_zero, List.getD_cons_succ] at c2
  have HC := hide (fcode_any hS (errIs_snt hS (m := 2) (by omega)))
  have HS := hide hS
  clear hS
  go_enter Tryd.func11, Tryd.ntmps11
  go_wp2_with fail
  refine HC.out.mono ?_
  rintro e w1 ⟨rfl, hb1⟩
  rw [show leastB (fun i => decide (i = 2)) 11 = 3 by decide]
  have HN := hide (fnew_some (m := 2) (k := k) (s := ⟨#[]⟩) (HS.out.below hb1) (by omega))
  have HB1 := hide hb1
  clear HC hb1 c2
  go_wp2_with fail
  refine HN.out.mono ?_
  rintro e w2 ⟨g, hg, rfl, hf, hb2⟩
  have HB2 := hide (HB1.out.trans (hb2.mono HB1.out.size))
  have hg' : w.heap.size ≤ g := Nat.le_trans HB1.out.size hg
  clear HN HS hb2 hg
  go_wp2
  go_ret
  exact ⟨g, hg', rfl, hf, HB2.out⟩

end Go.Proofs.YtgblakfcplphjabDoor
