/- UtfTotal: the walk -/
import Derived.Test.YteejbcknikjkjabURunes
import Derived.Test.YteejbcknikjkjabULives
import Derived.Deep.QuietTactic
import Derived.BigQuiet
import Derived.Deep.CutRange
import Derived.Deep.RegionHeld3
namespace Go.Proofs.Yteejbcknikjkjab
open Go.RowKit
set_option linter.unusedVariables false

theorem vbelow_drewN {B : Nat} {a w : World} {n : Nat} (h : Below B a w) : Below B a (w.drewN n) := by
  induction n with
  | zero => exact h
  | succ n ih => exact ih.drew

theorem above_any {w : World} {p q : Int} : Calls Try.prog 17 #[.int .i32 p, .int .i32 q] w fun e w' => e = .returned (.bool (uAbove p q)) ∧ w' = w := by
  unfold uAbove
  by_cases a1 : 65535 < p
  · by_cases a2 : 57344 ≤ q
    · by_cases a3 : q ≤ 65535
      · rw [if_pos ⟨a1, a2, a3⟩]
        go_enter Try.func17, Try.ntmps17
        go_wp2; go_ret; exact ⟨rfl, rfl⟩
      · rw [if_neg (by omega), if_neg (by omega)]
        have b1 : 65535 < q := by omega
        have b2 : ¬ p ≤ 65535 := by omega
        have b3 : 57344 ≤ p := by omega
        go_enter Try.func17, Try.ntmps17
        go_wp2; go_ret; exact ⟨rfl, rfl⟩
    · rw [if_neg (by omega), if_neg (by omega)]
      have b1 : ¬ 65535 < q := by omega
      go_enter Try.func17, Try.ntmps17
      go_wp2; go_ret; exact ⟨rfl, rfl⟩
  · rw [if_neg (by omega)]
    by_cases b1 : 65535 < q
    · by_cases b2 : 57344 ≤ p
      · have b3 : p ≤ 65535 := by omega
        rw [if_pos ⟨b1, b2, b3⟩]
        go_enter Try.func17, Try.ntmps17
        go_wp2; go_ret; exact ⟨rfl, rfl⟩
      · rw [if_neg (by omega)]
        go_enter Try.func17, Try.ntmps17
        go_wp2; go_ret; exact ⟨rfl, rfl⟩
    · rw [if_neg (by omega)]
      go_enter Try.func17, Try.ntmps17
      go_wp2; go_ret; exact ⟨rfl, rfl⟩

/-- a text's steps are its code points -/
theorem steps_text {l ps : List Int} (h : USplit l ps []) : USteps l ps := by
  have := USteps.text h.pts .nil
  rw [List.append_nil] at this
  rw [h.eq]
  simpa using this
/-- of texts: the first code points in which they differ -/
theorem total_diff {xs ys : List Int} {i : Nat} (hx : uPts xs) (hy : uPts ys) (h1 : i < xs.length) (h2 : i < ys.length) (hp : xs.take i = ys.take i) (hn : Nt.lb xs i ≠ Nt.lb ys i) : uCmp (uCodes xs) (uCodes ys) = if uAbove (Nt.lb xs i) (Nt.lb ys i) then 1 else -1 := by
  have e1 : xs = xs.take i ++ Nt.lb xs i :: xs.drop (i + 1) := by rw [← udrop_lb h1, List.take_append_drop]
  have e2 : ys = xs.take i ++ Nt.lb ys i :: ys.drop (i + 1) := by rw [hp, ← udrop_lb h2, List.take_append_drop]
  have k1 : uPt (Nt.lb xs i) = true := by rw [ulb_get h1]; exact hx _ (List.getElem_mem h1)
  have k2 : uPt (Nt.lb ys i) = true := by rw [ulb_get h2]; exact hy _ (List.getElem_mem h2)
  have := uAbove_iff (x := uCodes (xs.drop (i + 1))) (y := uCodes (ys.drop (i + 1))) k1 k2 hn
  rw [← this]
  have f1 : uCodes xs = uCodes (xs.take i) ++ (sU (Nt.lb xs i) ++ uCodes (xs.drop (i + 1))) := by
    conv => lhs; rw [e1]
    rw [uCodes_append, uCodes_cons]
  have f2 : uCodes ys = uCodes (xs.take i) ++ (sU (Nt.lb ys i) ++ uCodes (ys.drop (i + 1))) := by
    conv => lhs; rw [e2]
    rw [uCodes_append, uCodes_cons]
  rw [f1, f2, uCmp_append]
theorem total_end {xs ys : List Int} {i : Nat} (hp : xs.take i = ys.take i) (h1 : i ≤ xs.length) (h2 : i ≤ ys.length) (h : i = xs.length ∨ i = ys.length) : (xs.length < ys.length → uCmp (uCodes xs) (uCodes ys) = -1) ∧ (ys.length < xs.length → uCmp (uCodes xs) (uCodes ys) = 1) ∧ (xs.length = ys.length → uCmp (uCodes xs) (uCodes ys) = 0) := by
  have more : ∀ {a b : List Int}, i = a.length → a.length < b.length → a.take i = b.take i → uCmp (uCodes a) (uCodes b) = -1 := by
    intro a b e1 e2 e3
    have e4 : b = a ++ b.drop i := by
      have : a.take i = a := by rw [e1, List.take_length]
      rw [this] at e3
      conv => lhs; rw [← List.take_append_drop i b, ← e3]
    rw [e4, uCodes_append]
    cases hd : b.drop i with
    | nil => have := congrArg List.length hd; rw [List.length_drop] at this; simp at this; omega
    | cons q r =>
      rw [uCodes_cons]
      have n := sU_ne q
      cases e : sU q with
      | nil => exact absurd e n
      | cons c d => exact uCmp_more
  refine ⟨fun g => more (by omega) g hp, fun g => ?_, fun g => ?_⟩
  · rw [uCmp_neg, more (by omega) g hp.symm]; rfl
  · have : xs = ys := by
      have a : xs.take i = xs := by rw [List.take_of_length_le (by omega)]
      have b : ys.take i = ys := by rw [List.take_of_length_le (by omega)]
      rw [← a, ← b, hp]
    rw [this, uCmp_self]

set_option maxRecDepth 100000 in
set_option maxHeartbeats 8000000 in
theorem utotal_walk {w : World} {s1 s2 s3 : ByteArray} (h1 : s1.size ≤ 1048576) (h2 : s2.size ≤ 1048576) (h3 : s3.size ≤ 1048576) :
    Calls Try.prog 5 #[.string s1, .string s2, .string s3] w fun e w' => e = .returned (.bool true) ∧ Below w.heap.size w w' := by
  obtain ⟨ea, ha, hle1, hs1⟩ := utxt_of s1
  obtain ⟨eb, hb, hle2, hs2⟩ := utxt_of s2
  obtain ⟨ec, hc, hle3, hs3⟩ := utxt_of s3
  rw [← hle1] at h1
  rw [← hle2] at h2
  rw [← hle3] at h3
  obtain ⟨qa, hqa⟩ := USteps.exists ea.length (Nat.le_refl _) ha
  obtain ⟨qb, hqb⟩ := USteps.exists eb.length (Nat.le_refl _) hb
  obtain ⟨qc, hqc⟩ := USteps.exists ec.length (Nat.le_refl _) hc
  have c1 := hide (fun w => ucmp_any (w := w) ha hs1 (by omega) hb hs2 (by omega) hqa hqb)
  have c2 := hide (fun w => ucmp_any (w := w) hb hs2 (by omega) hc hs3 (by omega) hqb hqc)
  have c3 := hide (fun w => ucmp_any (w := w) ha hs1 (by omega) hc hs3 (by omega) hqa hqc)
  have c4 := hide (fun w => ucmp_any (w := w) hb hs2 (by omega) ha hs1 (by omega) hqb hqa)
  rw [uCmp_neg (uCodes qa) (uCodes qb)] at c4
  have hrx := uCmp_range (uCodes qa) (uCodes qb)
  have ht1 := hide (fun h g => uCmp_trans (x := uCodes qa) (y := uCodes qb) (z := uCodes qc) h g)
  have ht2 := hide (fun h g => uCmp_trans (x := uCodes qc) (y := uCodes qb) (z := uCodes qa) h g)
  rw [uCmp_neg (uCodes qa) (uCodes qc), uCmp_neg (uCodes qa) (uCodes qb), uCmp_neg (uCodes qb) (uCodes qc)] at ht2
  have heq := hide (show uCmp (uCodes qa) (uCodes qb) = 0 ↔ s1 = s2 by
    rw [uCmp_eq, hs1, hs2]
    constructor
    · intro e
      have := uCodes_inj (hqa.ok ha).1 (hqb.ok hb).1 e
      rw [(hqa.ok ha).2, (hqb.ok hb).2, this]
    · intro e
      have := utxt_inj ha hb e
      subst this
      rw [hqa.unique hqb])
  obtain ⟨x, hx⟩ : ∃ x, uCmp (uCodes qa) (uCodes qb) = x := ⟨_, rfl⟩
  obtain ⟨y, hy⟩ : ∃ y, uCmp (uCodes qb) (uCodes qc) = y := ⟨_, rfl⟩
  obtain ⟨z, hz⟩ : ∃ z, uCmp (uCodes qa) (uCodes qc) = z := ⟨_, rfl⟩
  rw [hx] at c1 c4 hrx ht1 ht2 heq
  rw [hy] at c2 ht1 ht2
  rw [hz] at c3 ht1 ht2
  have HX := hide hx
  have HT2 := ht2
  clear hx hy hz hqc h3 hle3 hs3 hc
  have f1 : ¬ x < -1 := by omega
  have f2 : ¬ 1 < x := by omega
  have f3 : ((-x) != (-x)) = false := by simp
  have f4 : (s1.toList == s2.toList) = (x == 0) := by
    have := heq.out
    by_cases h : s1 = s2
    · rw [this.2 h, h]; simp
    · have hn : x ≠ 0 := fun e => h (this.1 e)
      rw [beq_eq_false_iff_ne.2 hn, beq_eq_false_iff_ne]
      intro e
      rw [ByteArray.toList_eq, ByteArray.toList_eq] at e
      exact h (Go.WideShapes.bytes_inj e)
  have d1 : decide (x < -1) = false := decide_eq_false f1
  have d2 : decide (1 < x) = false := decide_eq_false f2
  have f5 : IntKind.i64.wrap (-x) = -x := by rw [IntKind.wrap_i64]; omega
  have H1 := hide h1
  have H2 := hide h2
  have HA := hide ha
  have HB := hide hb
  have HS1 := hide hs1
  have HS2 := hide hs2
  have hsz1 : s1.size ≤ 1048576 := by rw [← hle1]; exact h1
  have hsz2 : s2.size ≤ 1048576 := by rw [← hle2]; exact h2
  clear h1 h2 ha hb hs1 hs2 hle1 hle2 heq hrx
  go_enter Try.func5, Try.ntmps5
  go_wp2_with fail
  refine (c1.out _).mono ?_
  rintro e w' ⟨rfl, rfl⟩
  go_wp2_with fail
  refine (c2.out _).mono ?_
  rintro e w1 ⟨rfl, rfl⟩
  go_wp2_with fail
  refine (c3.out _).mono ?_
  rintro e w2 ⟨rfl, rfl⟩
  go_upto_region 2 with fail
  go_cut [69] from 24 to 69 (fun s69 wc => s69 = .bool false ∧ w2 = wc)
  case first =>
    clear ht2
    have g7 : 0 ≤ x → 0 ≤ y → decide (z < 0) = false := fun a b => decide_eq_false (by have := HT2.out (by omega) (by omega); omega)
    have HG := hide g7
    clear g7
    by_cases g1 : x ≤ 0
    · by_cases g2 : y ≤ 0
      · have g3 : decide (0 < z) = false := decide_eq_false (by have := ht1.out g1 g2; omega)
        by_cases g4 : 0 ≤ x
        · by_cases g5 : 0 ≤ y
          · have g6 := HG.out g4 g5
            go_wp2_with (go_at_call 16; refine (c4.out _).mono ?_; rintro e w3 ⟨rfl, rfl⟩)
            go_meet
            case rel => exact ⟨rfl, rfl⟩
          · go_wp2_with (go_at_call 16; refine (c4.out _).mono ?_; rintro e w3 ⟨rfl, rfl⟩)
            go_meet
            case rel => exact ⟨rfl, rfl⟩
        · go_wp2_with (go_at_call 16; refine (c4.out _).mono ?_; rintro e w3 ⟨rfl, rfl⟩)
          go_meet
          case rel => exact ⟨rfl, rfl⟩
      · by_cases g4 : 0 ≤ x
        · have g5 : 0 ≤ y := by omega
          have g6 := HG.out g4 g5
          go_wp2_with (go_at_call 16; refine (c4.out _).mono ?_; rintro e w3 ⟨rfl, rfl⟩)
          go_meet
          case rel => exact ⟨rfl, rfl⟩
        · go_wp2_with (go_at_call 16; refine (c4.out _).mono ?_; rintro e w3 ⟨rfl, rfl⟩)
          go_meet
          case rel => exact ⟨rfl, rfl⟩
    · have g4 : 0 ≤ x := by omega
      by_cases g5 : 0 ≤ y
      · have g6 := HG.out g4 g5
        go_wp2_with (go_at_call 16; refine (c4.out _).mono ?_; rintro e w3 ⟨rfl, rfl⟩)
        go_meet
        case rel => exact ⟨rfl, rfl⟩
      · go_wp2_with (go_at_call 16; refine (c4.out _).mono ?_; rintro e w3 ⟨rfl, rfl⟩)
        go_meet
        case rel => exact ⟨rfl, rfl⟩
  case rest =>
    obtain ⟨rfl, rfl⟩ := hcut
    clear c1 c2 c3 c4 ht1 ht2 f1 f2 f3 f4 f5
    obtain ⟨pa, ta, hSa⟩ := USplit.exists ea.length (Nat.le_refl _) HA.out
    obtain ⟨pb, tb, hSb⟩ := USplit.exists eb.length (Nat.le_refl _) HB.out
    have HNA := hide (fun w h => runes_not (w := w) HA.out HS1.out (by have := H1.out; omega) hSa h)
    have HNB := hide (fun w h => runes_not (w := w) HB.out HS2.out (by have := H2.out; omega) hSb h)
    by_cases hta : ta = []
    · subst hta
      have HRA := hide (fun w => runes_text (w := w) HA.out HS1.out (by have := H1.out; omega) hSa)
      by_cases htb : tb = []
      · subst htb
        have HRB := hide (fun w => runes_text (w := w) HB.out HS2.out (by have := H2.out; omega) hSb)
        have hxa := hqa.unique (steps_text hSa)
        have hxb := hqb.unique (steps_text hSb)
        subst hxa hxb
        have HSA := hide hSa
        have HSB := hide hSb
        clear hqa hqb HNA HNB hSa hSb HT2
        go_wp2_with fail
        refine (HRA.out _).mono ?_
        rintro e w3 ⟨v1, rfl, hrow1, hB1⟩
        go_wp2_with fail
        refine (HRB.out _).mono ?_
        rintro e w4 ⟨v2, rfl, hrow2, hB2⟩
        have r1 := (owns_reads rfl hrow1).below hB2
        have r2 := owns_reads rfl hrow2
        have HBW := hide (hB1.trans (hB2.mono hB1.size))
        clear hrow1 hrow2 hB1 hB2 HRA HRB
        obtain ⟨ao, ca, rfl, hxl, hxm, hxc⟩ := r1
        obtain ⟨bo, cb, rfl, hyl, hym, hyc⟩ := r2
        unfold maxLen at hxm hym
        have k0 := hide (show s1 ++ { data := #[0] } = strOfNums (ea ++ [0]) by rw [HS1.out, ← utxt_join]; rfl)
        have kba := hide (show s2 ++ s1 = strOfNums (eb ++ ea) by rw [HS1.out, HS2.out, utxt_join])
        have kbz := hide (show s2 ++ { data := #[122] } ++ s1 = strOfNums ((eb ++ [122]) ++ ea) by rw [HS1.out, HS2.out, ← utxt_join, ← utxt_join]; rfl)
        have kz := hide (show ({ data := #[122] } : ByteArray) ++ s1 = strOfNums ([122] ++ ea) by rw [HS1.out, ← utxt_join]; rfl)
        have b0 : uByt [0] := by unfold uByt; decide
        have b122 : uByt [122] := by unfold uByt; decide
        have p122 : uPts [122] := by unfold uPts; decide
        have e1 : ea = uFlat qa := by have := HSA.out.eq; rw [List.append_nil] at this; exact this
        have e2 : eb = uFlat qb := by have := HSB.out.eq; rw [List.append_nil] at this; exact this
        have s0 : USteps (ea ++ [0]) (qa ++ [0]) := by rw [e1]; exact USteps.text HSA.out.pts (.good (p := 0) (n := 1) (by decide) (by decide) .nil)
        have sba : USteps (eb ++ ea) (qb ++ qa) := by rw [e2]; exact USteps.text HSB.out.pts (steps_text HSA.out)
        have sz : USteps ([122] ++ ea) ([122] ++ qa) := by
          have := USteps.text p122 (steps_text HSA.out)
          exact this
        have sbz : USteps ((eb ++ [122]) ++ ea) ((qb ++ [122]) ++ qa) := by
          rw [List.append_assoc, List.append_assoc, e2]; exact USteps.text HSB.out.pts sz
        have l0 : (ea ++ [0]).length ≤ 9223372036854775807 := by have := H1.out; simp; omega
        have lba : (eb ++ ea).length ≤ 9223372036854775807 := by have := H1.out; have := H2.out; simp; omega
        have lbz : ((eb ++ [122]) ++ ea).length ≤ 9223372036854775807 := by have := H1.out; have := H2.out; simp; omega
        have lz : ([122] ++ ea).length ≤ 9223372036854775807 := by have := H1.out; simp; omega
        have la : ea.length ≤ 9223372036854775807 := by have := H1.out; omega
        have m1 := hide (fun w => ucmp_any (w := w) HA.out HS1.out la (HA.out.append b0) k0.out l0 (steps_text HSA.out) s0)
        have m2 := hide (fun w => ucmp_any (w := w) (HB.out.append HA.out) kba.out lba ((HB.out.append b122).append HA.out) kbz.out lbz sba sbz)
        have m3 := hide (fun w => ucmp_any (w := w) HA.out HS1.out la (b122.append HA.out) kz.out lz (steps_text HSA.out) sz)
        rw [show uCmp (uCodes qa) (uCodes (qa ++ [0])) = -1 by rw [uCodes_append]; exact uCmp_more] at m1
        rw [show uCmp (uCodes (qb ++ qa)) (uCodes ((qb ++ [122]) ++ qa)) = uCmp (uCodes qa) (uCodes ([122] ++ qa)) by rw [List.append_assoc, uCodes_append qb, uCodes_append qb, uCmp_append]] at m2
        obtain ⟨r, hr⟩ : ∃ r, uCmp (uCodes qa) (uCodes ([122] ++ qa)) = r := ⟨_, rfl⟩
        rw [hr] at m2 m3
        have hrr : (r != r) = false := by simp
        clear k0 kba kbz kz b0 b122 p122 e1 e2 s0 sba sz sbz l0 lba lbz lz la hr
        go_wp2_with fail
        refine (m1.out _).mono ?_
        rintro e w5 ⟨rfl, rfl⟩
        go_wp2_with fail
        refine (m2.out _).mono ?_
        rintro e w6 ⟨rfl, rfl⟩
        go_wp2_with fail
        refine (m3.out _).mono ?_
        rintro e w7 ⟨rfl, rfl⟩
        clear m1 m2 m3
        go_wp2_with fail
        go_loopw [14] (fun i wr => ∃ j : Nat, j ≤ qa.length ∧ j ≤ qb.length ∧ i = .int .i64 j ∧ Hid (qa.take j = qb.take j) ∧ Below w7.heap.size w7 wr) (fun i _ => qa.length - (intOf i).toNat)
        case atStart => exact ⟨0, by omega, by omega, rfl, hide rfl, Below.refl _ _⟩
        case round =>
          obtain ⟨j, hj1, hj2, rfl, hpre, hbr⟩ := hrel
          by_cases h1 : j < qa.length
          · have p1 : (j : Int) < (qa.length : Int) := by omega
            by_cases h2 : j < qb.length
            · have p2 : (j : Int) < (qb.length : Int) := by omega
              obtain ⟨b1, o1, rfl, _, hc1⟩ := (hxc.below hbr) (by omega)
              obtain ⟨b2, o2, rfl, _, hc2⟩ := (hyc.below hbr) (by omega)
              have g1 := hc1 j h1
              have g2 := hc2 j h2
              have hlt1 : b1 < wr.heap.size := by rename_i a b; first | exact a | exact b
              have hlt2 : b2 < wr.heap.size := by rename_i a b; first | exact a | exact b
              have HD := hide (fun h => total_diff (i := j) HSA.out.pts HSB.out.pts h1 h2 hpre.out h)
              have HT := hide (show Nt.lb qa j = Nt.lb qb j → qa.take (j + 1) = qb.take (j + 1) from fun h => by
                rw [List.take_add_one, List.take_add_one, hpre.out, List.getElem?_eq_getElem h1, List.getElem?_eq_getElem h2, ← ulb_get h1, ← ulb_get h2, h])
              rw [HX.out] at HD
              obtain ⟨p, hp⟩ : ∃ p, Nt.lb qa j = p := ⟨_, rfl⟩
              obtain ⟨q, hq⟩ : ∃ q, Nt.lb qb j = q := ⟨_, rfl⟩
              rw [hp] at g1 HD HT
              rw [hq] at g2 HD HT
              clear hc1 hc2 hxc hyc hp hq
              by_cases hpq : p = q
              · have n1 : (p != q) = false := by simp [hpq]
                have HN := hide (HT.out hpq)
                clear hpq HD HT
                go_wp2
                go_quiet (fail)
                go_wp2
                go_roundw
                case rel => exact ⟨j + 1, by omega, by omega, by simp, HN, vbelow_drewN hbr⟩
                case measure => simp [intOf]; omega
              · have n1 : (p != q) = true := by simp [hpq]
                have hx := HD.out hpq
                obtain ⟨bb, hbb⟩ : ∃ bb, uAbove p q = bb := ⟨_, rfl⟩
                have HAb := hide (fun w => above_any (w := w) (p := p) (q := q))
                rw [hbb] at hx HAb
                have n2 : ((x == 1) == bb) = true := by rw [hx]; cases bb <;> rfl
                have n3 : (x != 0) = true := by rw [hx]; cases bb <;> rfl
                clear hpq HD HT hx hbb HX
                go_wp2
                go_quiet (fail)
                obtain ⟨W5, hW5⟩ : ∃ w3, w3 = wr.drewN nq := ⟨_, rfl⟩
                have hB3 : Below w7.heap.size w7 W5 := by rw [hW5]; exact vbelow_drewN hbr
                have k1 : W5.cell? ⟨b1, o1 + j, none⟩ = some (.int .i32 p) := by rw [hW5, World.cell?_drewN]; exact g1
                have k2 : W5.cell? ⟨b2, o2 + j, none⟩ = some (.int .i32 q) := by rw [hW5, World.cell?_drewN]; exact g2
                have l1 : b1 < W5.heap.size := by rw [hW5]; simpa using hlt1
                have l2 : b2 < W5.heap.size := by rw [hW5]; simpa using hlt2
                rw [← hW5]
                clear hW5 g1 g2 hbr hlt1 hlt2
                go_wp2
                have K : Below W5.heap.size W5 W5.drew := (Below.refl _ _).drew
                go_region_held3 (fun u => u.cell? ⟨b1, o1 + j, none⟩ = some (.int .i32 p) ∧ u.cell? ⟨b2, o2 + j, none⟩ = some (.int .i32 q))
                  (first
                    | with_reducible exact ⟨(K.cell (p := ⟨b1, o1 + j, none⟩) l1).trans k1, (K.cell (p := ⟨b2, o2 + j, none⟩) l2).trans k2⟩
                    | go_keep)
                  (first
                    | (go_at_call 17; (with_reducible refine (HAb.out _).mono ?_); rintro e w8 ⟨rfl, rfl⟩)
                    | (go_at_call 14; (with_reducible refine ulives_any.mono ?_); rintro e w9 ⟨rfl, hb⟩; replace K := below_trans K hb; clear hb))
                all_goals go_wp2
                all_goals go_ret
                all_goals exact ⟨rfl, (HBW.out.trans (hB3.mono HBW.out.size)).trans (K.mono (by have := HBW.out.size; have := hB3.size; omega))⟩
            · have p2 : decide ((j : Int) < (qb.length : Int)) = false := decide_eq_false (by omega)
              obtain ⟨_, te, _⟩ := total_end hpre.out hj1 hj2 (.inr (by omega))
              have hx := te (by omega)
              rw [HX.out] at hx
              subst hx
              have n1 : ((qa.length : Int) == (qb.length : Int)) = false := beq_eq_false_iff_ne.2 (by omega)
              have n2 : decide ((qa.length : Int) < (qb.length : Int)) = false := decide_eq_false (by omega)
              have n4 : decide (qa.length < qb.length) = false := decide_eq_false (by omega)
              clear te HX hpre
              go_wp2_with (go_at_call 14; refine ulives_any.mono ?_; rintro e w5 ⟨rfl, hB5⟩)
              go_ret
              have z1 := hbr.size
              exact ⟨rfl, (HBW.out.trans (hbr.mono HBW.out.size)).trans (hB5.mono (by have := HBW.out.size; omega))⟩
          · have p1 : ¬ (j : Int) < (qa.length : Int) := by omega
            by_cases h2 : j < qb.length
            · obtain ⟨te, _, _⟩ := total_end hpre.out hj1 hj2 (.inl (by omega))
              have hx := te (by omega)
              rw [HX.out] at hx
              subst hx
              have n1 : ((qa.length : Int) == (qb.length : Int)) = false := beq_eq_false_iff_ne.2 (by omega)
              have n2 : decide ((qa.length : Int) < (qb.length : Int)) = true := decide_eq_true (by omega)
              clear te HX hpre
              go_wp2_with (go_at_call 14; refine ulives_any.mono ?_; rintro e w5 ⟨rfl, hB5⟩)
              go_ret
              have z1 := hbr.size
              exact ⟨rfl, (HBW.out.trans (hbr.mono HBW.out.size)).trans (hB5.mono (by have := HBW.out.size; omega))⟩
            · obtain ⟨_, _, te⟩ := total_end hpre.out hj1 hj2 (.inl (by omega))
              have hx := te (by omega)
              rw [HX.out] at hx
              subst hx
              have n1 : ((qa.length : Int) == (qb.length : Int)) = true := beq_iff_eq.2 (by omega)
              have n2 : decide ((qa.length : Int) < (qb.length : Int)) = false := decide_eq_false (by omega)
              have n4 : decide (qa.length < qb.length) = false := decide_eq_false (by omega)
              clear te HX hpre
              go_wp2_with (go_at_call 14; refine ulives_any.mono ?_; rintro e w5 ⟨rfl, hB5⟩)
              go_ret
              have z1 := hbr.size
              exact ⟨rfl, (HBW.out.trans (hbr.mono HBW.out.size)).trans (hB5.mono (by have := HBW.out.size; omega))⟩
      · go_wp2_with (first | (go_at_call 6; first | ((with_reducible refine (HRA.out _).mono ?_); rintro e w3 ⟨v1, rfl, hrow1, hB1⟩) | ((with_reducible refine (HNB.out _ htb).mono ?_); rintro e w4 ⟨rfl, hB2⟩)) | (go_at_call 14; refine ulives_any.mono ?_; rintro e w5 ⟨rfl, hB5⟩))
        go_ret
        have z1 := hB1.size
        have z2 := hB2.size
        exact ⟨rfl, (hB1.trans (hB2.mono z1)).trans (hB5.mono (by omega))⟩
    · by_cases htb : tb = []
      · subst htb
        have HRB := hide (fun w => runes_text (w := w) HB.out HS2.out (by have := H2.out; omega) hSb)
        go_wp2_with (first | (go_at_call 6; first | ((with_reducible refine (HNA.out _ hta).mono ?_); rintro e w3 ⟨rfl, hB1⟩) | ((with_reducible refine (HRB.out _).mono ?_); rintro e w4 ⟨v2, rfl, hrow2, hB2⟩)) | (go_at_call 14; refine ulives_any.mono ?_; rintro e w5 ⟨rfl, hB5⟩))
        go_ret
        have z1 := hB1.size
        have z2 := hB2.size
        exact ⟨rfl, (hB1.trans (hB2.mono z1)).trans (hB5.mono (by omega))⟩
      · go_wp2_with (first | (go_at_call 6; first | ((with_reducible refine (HNA.out _ hta).mono ?_); rintro e w3 ⟨rfl, hB1⟩) | ((with_reducible refine (HNB.out _ htb).mono ?_); rintro e w4 ⟨rfl, hB2⟩)) | (go_at_call 14; refine ulives_any.mono ?_; rintro e w5 ⟨rfl, hB5⟩))
        go_ret
        have z1 := hB1.size
        have z2 := hB2.size
        exact ⟨rfl, (hB1.trans (hB2.mono z1)).trans (hB5.mono (by omega))⟩

end Go.Proofs.Yteejbcknikjkjab
