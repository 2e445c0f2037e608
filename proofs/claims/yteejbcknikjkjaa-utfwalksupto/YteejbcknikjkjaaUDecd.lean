/- cruciblelaw09.decoded -/
import Derived.Test.YteejbcknikjkjaaURef
namespace Go.Proofs.Yteejbcknikjkjaa
open Go.RowKit
set_option linter.unusedVariables false

theorem uDec_take {l : List Int} (hb : uByt l) {k : Nat} (hk : 0 < k) (hkl : k ≤ l.length) : ((uDec (l.take k)).2 = k ↔ (uDec l).2 = k) ∧ ((uDec l).2 = k → (uDec (l.take k)).1 = (uDec l).1) := by
  have hbt : uByt (l.take k) := fun x hx => hb x (List.mem_of_mem_take hx)
  have back : (uDec l).2 = k → uDec (l.take k) = uDec l := by
    intro h
    obtain ⟨a1, a2, a3⟩ := uDec_cases hb (by omega)
    have e : l.take k = uEnc (uDec l).1 := by
      have : l.take k = (uEnc (uDec l).1 ++ l.drop (uDec l).2).take k := by rw [← a3]
      rw [this, ← h, ← a2, List.take_left]
    rw [e]
    have := uDec_enc [] a1
    rw [List.append_nil] at this
    rw [this, a2]
  refine ⟨⟨fun h => ?_, fun h => by rw [back h]; exact h⟩, fun h => by rw [back h]⟩
  obtain ⟨a1, a2, a3⟩ := uDec_cases hbt (by omega)
  have e : l = uEnc (uDec (l.take k)).1 ++ l.drop k := by
    have h1 : (l.take k).drop k = [] := by rw [List.drop_eq_nil_iff, List.length_take]; omega
    rw [h, h1, List.append_nil] at a3
    rw [← a3, List.take_append_drop]
  rw [e, uDec_enc _ a1, a2, h]
/-- what a first byte has to be for so many bytes -/
def uOff : Nat → Int
  | 2 => 192
  | 3 => 224
  | 4 => 240
  | _ => 0
def uLst : Nat → Int
  | 2 => 128
  | 3 => 2048
  | 4 => 65536
  | _ => 0
theorem uLead_of {a : Int} {L : Nat} (h0 : 0 ≤ a) (hL : L = 1 ∨ L = 2 ∨ L = 3 ∨ L = 4) (h : 0 ≤ a - uOff L) (g : a - uOff L < uMod L) : uLead a = (a - uOff L, L) := by
  unfold uLead
  rcases hL with rfl | rfl | rfl | rfl <;> simp only [uOff, uMod] at h g ⊢
  · rw [if_pos (by omega)]; simp
  · rw [if_neg (by omega), if_neg (by omega), if_pos (by omega)]
  · rw [if_neg (by omega), if_neg (by omega), if_neg (by omega), if_pos (by omega)]
  · rw [if_neg (by omega), if_neg (by omega), if_neg (by omega), if_neg (by omega), if_pos (by omega)]
theorem uLead_not {a : Int} {L : Nat} (h0 : 0 ≤ a) (hL : L = 1 ∨ L = 2 ∨ L = 3 ∨ L = 4) (h : a - uOff L < 0 ∨ uMod L ≤ a - uOff L) : (uLead a).2 ≠ L := by
  unfold uLead
  rcases hL with rfl | rfl | rfl | rfl <;> simp only [uOff, uMod] at h
  all_goals
    split
    · simp; try omega
    · split
      · simp
      · split
        · simp; try omega
        · split
          · simp; try omega
          · split
            · simp; try omega
            · simp
/-- it is what stands there, if so many bytes do -/
def DecIs (D : Int × Nat) (n : Nat) (x : Int) : Prop := D.2 = n → x = D.1
theorem uDec_size (a : Int) (r : List Int) : (uDec (a :: r)).2 = 0 ∨ (uDec (a :: r)).2 = (uLead a).2 := by
  rw [uDec_go]
  split; exact .inl rfl
  split; exact .inl rfl
  rw [uGo_eq]
  split; exact .inl rfl
  split; exact .inr rfl
  exact .inl rfl
theorem uSz_last {x : Int} {L : Nat} (hL : L = 1 ∨ L = 2 ∨ L = 3 ∨ L = 4) (h0 : 0 ≤ x) (h1 : L = 1 ∧ x < 128 ∨ L = 2 ∧ x < 2048 ∨ L = 3 ∧ x < 65536 ∨ L = 4 ∧ x < 2097152) : uSz x = L ↔ uLst L ≤ x ∧ x ≤ 1114111 ∧ (x < 55296 ∨ 57343 < x) := by
  unfold uSz
  by_cases hp : uPt x = true
  · rw [if_pos hp]
    have := uPt_iff.1 hp
    rcases hL with rfl | rfl | rfl | rfl <;> simp only [uLst]
    all_goals
      split
      · omega
      · split
        · omega
        · split <;> omega
  · rw [if_neg hp]
    have : ¬ (0 ≤ x ∧ x ≤ 1114111 ∧ (x < 55296 ∨ 57343 < x)) := fun h => hp (uPt_iff.2 h)
    constructor
    · intro h; omega
    · intro h; exact absurd ⟨h0, h.2.1, h.2.2⟩ this

set_option maxRecDepth 100000 in
set_option maxHeartbeats 8000000 in
theorem decoded_any {w : World} {s : ByteArray} {es : List Int} (hb : uByt es) (hs : s = strOfNums es) (hL : es.length = 1 ∨ es.length = 2 ∨ es.length = 3 ∨ es.length = 4) :
    Calls Try.prog 17 #[.string s] w fun e w' => ∃ x, e = .returned (.tuple #[.int .i64 x, .bool ((uDec es).2 == es.length)]) ∧ DecIs (uDec es) es.length x ∧ Below w.heap.size w w' := by
  have hsz : s.size = es.length := by rw [hs, strOfNums_size]
  have Hix := hide (show ∀ p (h : p < s.size), (((s[p]'h).toNat : Nat) : Int) = Nt.lb es p from fun p h => by subst hs; exact utxt_at h hb)
  have HB := hide (show ∀ p, p < es.length → 0 ≤ Nt.lb es p ∧ Nt.lb es p < 256 from fun p h => by have := hb _ (List.getElem_mem h); simpa [Nt.lb, h] using this)
  have hpos : 0 < es.length := by omega
  have HD := hide (udrop_lb hpos)
  have HU := hide (uDec_at hpos)
  rw [Nat.zero_add, List.drop_zero] at HD HU
  have Hlt := hide (fun h => uLead_of (HB.out 0 hpos).1 hL h)
  have Hno := hide (fun h => uLead_not (HB.out 0 hpos).1 hL h)
  have hps0 : 0 < s.size := by omega
  have hx0 := Hix.out 0 hps0
  have hc0 := HB.out 0 hpos
  obtain ⟨D, hD⟩ : ∃ D, uDec es = D := ⟨_, rfl⟩
  have HZ2 := hide (show D.2 = 0 ∨ D.2 = (uLead (Nt.lb es 0)).2 by rw [← hD, HD.out]; exact uDec_size _ _)
  rw [hD] at HU ⊢
  clear hD
  obtain ⟨c, hc⟩ : ∃ c, Nt.lb es 0 = c := ⟨_, rfl⟩
  rw [hc] at hx0 hc0 Hlt Hno HZ2 HU
  clear hc hs hb HD
  rcases hL with hL | hL | hL | hL
  · have HL := hide hL
    rw [hL] at hsz hpos HU Hlt Hno ⊢
    have hsI : (s.size : Int) = 1 := by omega
    clear hL hsz
    obtain ⟨B, hB⟩ : ∃ B, (D.2 == 1) = B := ⟨_, rfl⟩
    rw [hB]
    have HBB := hide hB
    clear hB
    have hco : c - uOff 1 = c := by simp only [uOff] <;> omega
    rw [hco] at Hlt Hno
    clear hco
    by_cases hn : 0 ≤ c ∧ c < 128
    · have hle := Hlt.out hn.1 (show c < uMod 1 from hn.2)
      rw [hle] at HU
      have HG := hide (show D = uGo 1 (c) ((es.drop 1).take (1 - 1)) from HU.out)
      clear HU Hlt Hno HZ2 hle
      have f1 : ¬ c < 0 := by omega
      have f2 : ¬ 128 ≤ c := by omega
      go_enter Try.func17, Try.ntmps17
      go_wp2
      go_quiet (fail)
      go_wp2
      obtain ⟨w0, hw0⟩ : ∃ x, x = (((w.alloc (.cells #[.int .i64 0, .int .i64 0, .int .i64 192, .int .i64 224, .int .i64 240] 62)).alloc (.cells #[.int .i64 0, .int .i64 0, .int .i64 128, .int .i64 2048, .int .i64 65536] 62)).drewN nq).alloc (.cells #[.int .i64 0, .int .i64 128, .int .i64 32, .int .i64 16, .int .i64 8] 62) := ⟨_, rfl⟩
      have HBW := hide (show Below w.heap.size w w0 by rw [hw0]; exact Below.alloc (ubelow_drewN (((Below.refl _ _).alloc (Nat.le_refl _) _).alloc (by simp) _)) (by simp; omega) _)
      have k1 : w0.cell? ⟨w.heap.size + 1, 1, none⟩ = some (.int .i64 0) := by subst hw0; go_simp
      rw [← hw0]
      clear hw0
      go_loopg [2, 3, 6, 8] (1 - 1) (fun cc s2 s3 r i wr => ∃ (x : Int) (j : Nat), s2 = .int .i64 0 ∧ s3 = .bool false ∧ r = .int .i64 x ∧ i = .int .i64 j ∧ 1 ≤ j ∧ j ≤ 1 ∧ cc = 1 - j ∧ 0 ≤ x ∧ (j = 1 ∧ x < 128) ∧ Hid (D = uGo 1 x ((es.drop j).take (1 - j))) ∧ w0 = wr)
      case atStart => exact ⟨_, 1, rfl, rfl, rfl, rfl, by omega, by omega, rfl, hn.1, by omega, HG, rfl⟩
      case round =>
        obtain ⟨x, j, rfl, rfl, rfl, rfl, hj1, hj2, hg, hx0', hxx, HJ, hw⟩ := hrel
        subst hw
        by_cases hjn : j < 1
        · omega
        · have q1 : ¬ (j : Int) < 1 := by omega
          have HF := hide (show D = if uSz x = 1 then (x, 1) else (0, 0) by rw [HJ.out, show 1 - j = 0 by omega]; rfl)
          have hlast := hide (uSz_last (x := x) (L := 1) (by omega) hx0' (by omega))
          simp only [uLst] at hlast
          clear HJ HG
          by_cases a1 : 0 ≤ x
          · by_cases a2 : x ≤ 1114111
            · by_cases a3 : x < 55296
              · have hDe : D = (x, 1) := by rw [HF.out, if_pos (hlast.out.2 ⟨a1, a2, .inl a3⟩)]
                have hBB : B = true := by rw [← HBB.out, hDe]; rfl
                have HDI : DecIs D 1 x := fun _ => by rw [hDe]
                subst hBB
                clear HF hlast hDe HBB
                go_wp2
                go_ret2
                exact ⟨x, rfl, HDI, HBW.out⟩
              · by_cases a4 : 57343 < x
                · have hDe : D = (x, 1) := by rw [HF.out, if_pos (hlast.out.2 ⟨a1, a2, .inr a4⟩)]
                  have hBB : B = true := by rw [← HBB.out, hDe]; rfl
                  have HDI : DecIs D 1 x := fun _ => by rw [hDe]
                  subst hBB
                  clear HF hlast hDe HBB
                  go_wp2
                  go_ret2
                  exact ⟨x, rfl, HDI, HBW.out⟩
                · have hDe : D = (0, 0) := by rw [HF.out, if_neg (fun h => by have := hlast.out.1 h; omega)]
                  have hBB : B = false := by rw [← HBB.out, hDe]; rfl
                  have HDI : DecIs D 1 x := fun h => by rw [hDe] at h; exact absurd h (by decide)
                  subst hBB
                  clear HF hlast hDe HBB
                  go_wp2
                  go_ret2
                  exact ⟨x, rfl, HDI, HBW.out⟩
            · have hDe : D = (0, 0) := by rw [HF.out, if_neg (fun h => by have := hlast.out.1 h; omega)]
              have hBB : B = false := by rw [← HBB.out, hDe]; rfl
              have HDI : DecIs D 1 x := fun h => by rw [hDe] at h; exact absurd h (by decide)
              subst hBB
              clear HF hlast hDe HBB
              go_wp2
              go_ret2
              exact ⟨x, rfl, HDI, HBW.out⟩
          · omega
    · have hne : (D.2 == 1) = false := by
        have := Hno.out (show c < 0 ∨ uMod 1 ≤ c by simp only [uMod]; omega)
        rw [beq_eq_false_iff_ne]
        rcases HZ2.out with h | h
        · rw [h]; decide
        · rw [h]; exact this
      have hBB : B = false := by rw [← HBB.out]; exact hne
      have HDI : DecIs D 1 0 := fun h => absurd h (by simpa using hne)
      subst hBB
      clear HU Hlt Hno HZ2 hne HBB
      by_cases f1 : c < 0
      · omega
      · have f2 : 128 ≤ c := by omega
        go_enter Try.func17, Try.ntmps17
        go_wp2
        go_quiet (fail)
        go_wp2
        go_ret2
        exact ⟨0, rfl, HDI, Below.alloc (ubelow_drewN (((Below.refl _ _).alloc (Nat.le_refl _) _).alloc (by simp) _)) (by simp; omega) _⟩
  · have HL := hide hL
    rw [hL] at hsz hpos HU Hlt Hno ⊢
    have hsI : (s.size : Int) = 2 := by omega
    clear hL hsz
    obtain ⟨B, hB⟩ : ∃ B, (D.2 == 2) = B := ⟨_, rfl⟩
    rw [hB]
    have HBB := hide hB
    clear hB
    have hco : c - uOff 2 = c - 192 := by simp only [uOff] <;> omega
    rw [hco] at Hlt Hno
    clear hco
    by_cases hn : 0 ≤ c - 192 ∧ c - 192 < 32
    · have hle := Hlt.out hn.1 (show c - 192 < uMod 2 from hn.2)
      rw [hle] at HU
      have HG := hide (show D = uGo 2 (c - 192) ((es.drop 1).take (2 - 1)) from HU.out)
      clear HU Hlt Hno HZ2 hle
      have f1 : ¬ c - 192 < 0 := by omega
      have f2 : ¬ 32 ≤ c - 192 := by omega
      go_enter Try.func17, Try.ntmps17
      go_wp2
      go_quiet (fail)
      go_wp2
      obtain ⟨w0, hw0⟩ : ∃ x, x = (((w.alloc (.cells #[.int .i64 0, .int .i64 0, .int .i64 192, .int .i64 224, .int .i64 240] 62)).alloc (.cells #[.int .i64 0, .int .i64 0, .int .i64 128, .int .i64 2048, .int .i64 65536] 62)).drewN nq).alloc (.cells #[.int .i64 0, .int .i64 128, .int .i64 32, .int .i64 16, .int .i64 8] 62) := ⟨_, rfl⟩
      have HBW := hide (show Below w.heap.size w w0 by rw [hw0]; exact Below.alloc (ubelow_drewN (((Below.refl _ _).alloc (Nat.le_refl _) _).alloc (by simp) _)) (by simp; omega) _)
      have k1 : w0.cell? ⟨w.heap.size + 1, 2, none⟩ = some (.int .i64 128) := by subst hw0; go_simp
      rw [← hw0]
      clear hw0
      go_loopg [2, 3, 6, 8] (2 - 1) (fun cc s2 s3 r i wr => ∃ (x : Int) (j : Nat), s2 = .int .i64 0 ∧ s3 = .bool false ∧ r = .int .i64 x ∧ i = .int .i64 j ∧ 1 ≤ j ∧ j ≤ 2 ∧ cc = 2 - j ∧ 0 ≤ x ∧ (j = 1 ∧ x < 32 ∨ j = 2 ∧ x < 2048) ∧ Hid (D = uGo 2 x ((es.drop j).take (2 - j))) ∧ w0 = wr)
      case atStart => exact ⟨_, 1, rfl, rfl, rfl, rfl, by omega, by omega, rfl, hn.1, by omega, HG, rfl⟩
      case round =>
        obtain ⟨x, j, rfl, rfl, rfl, rfl, hj1, hj2, hg, hx0', hxx, HJ, hw⟩ := hrel
        subst hw
        by_cases hjn : j < 2
        · have q1 : (j : Int) < 2 := by omega
          have hps2 : j < s.size := by omega
          have hx2 := Hix.out j hps2
          have hkj : j < es.length := by rw [HL.out]; omega
          have hc2 := HB.out j hkj
          have HJ2 := hide (uGo_step (R := D) (n := 2) (x := x) (p := j) (m := 2 - (j + 1)) (by rw [show 2 - (j + 1) + 1 = 2 - j by omega]; exact HJ.out) hkj)
          obtain ⟨d, hd⟩ : ∃ d, Nt.lb es j = d := ⟨_, rfl⟩
          rw [hd] at hx2 hc2 HJ2
          clear hd hkj HJ
          by_cases hct : 128 ≤ d ∧ d < 192
          · have t1 : ¬ d < 128 := by omega
            have t2 : ¬ 192 ≤ d := by omega
            have hcc : uCont d = true := by unfold uCont; simp; omega
            go_wp2
            go_roundg (2 - (j + 1))
            case measure => omega
            case rel => exact ⟨x * 64 + d - 128, j + 1, rfl, rfl, rfl, by simp, by omega, by omega, rfl, by omega, by omega, hide (by rw [HJ2.out, if_pos hcc, show x * 64 + (d - 128) = x * 64 + d - 128 by omega]), rfl⟩
          · have hcc : uCont d = false := by unfold uCont; simp; omega
            have hDe : D = (0, 0) := by rw [HJ2.out, hcc]; rfl
            have hBB : B = false := by rw [← HBB.out, hDe]; rfl
            have HDI : DecIs D 2 0 := fun h => by rw [hDe] at h; exact absurd h (by decide)
            subst hBB
            clear HJ2 HG hDe HBB
            by_cases t1 : d < 128
            · go_wp2
              go_ret2
              exact ⟨0, rfl, HDI, HBW.out⟩
            · have t2 : 192 ≤ d := by omega
              go_wp2
              go_ret2
              exact ⟨0, rfl, HDI, HBW.out⟩
        · have q1 : ¬ (j : Int) < 2 := by omega
          have HF := hide (show D = if uSz x = 2 then (x, 2) else (0, 0) by rw [HJ.out, show 2 - j = 0 by omega]; rfl)
          have hlast := hide (uSz_last (x := x) (L := 2) (by omega) hx0' (by omega))
          simp only [uLst] at hlast
          clear HJ HG
          by_cases a1 : 128 ≤ x
          · by_cases a2 : x ≤ 1114111
            · by_cases a3 : x < 55296
              · have hDe : D = (x, 2) := by rw [HF.out, if_pos (hlast.out.2 ⟨a1, a2, .inl a3⟩)]
                have hBB : B = true := by rw [← HBB.out, hDe]; rfl
                have HDI : DecIs D 2 x := fun _ => by rw [hDe]
                subst hBB
                clear HF hlast hDe HBB
                go_wp2
                go_ret2
                exact ⟨x, rfl, HDI, HBW.out⟩
              · by_cases a4 : 57343 < x
                · have hDe : D = (x, 2) := by rw [HF.out, if_pos (hlast.out.2 ⟨a1, a2, .inr a4⟩)]
                  have hBB : B = true := by rw [← HBB.out, hDe]; rfl
                  have HDI : DecIs D 2 x := fun _ => by rw [hDe]
                  subst hBB
                  clear HF hlast hDe HBB
                  go_wp2
                  go_ret2
                  exact ⟨x, rfl, HDI, HBW.out⟩
                · have hDe : D = (0, 0) := by rw [HF.out, if_neg (fun h => by have := hlast.out.1 h; omega)]
                  have hBB : B = false := by rw [← HBB.out, hDe]; rfl
                  have HDI : DecIs D 2 x := fun h => by rw [hDe] at h; exact absurd h (by decide)
                  subst hBB
                  clear HF hlast hDe HBB
                  go_wp2
                  go_ret2
                  exact ⟨x, rfl, HDI, HBW.out⟩
            · have hDe : D = (0, 0) := by rw [HF.out, if_neg (fun h => by have := hlast.out.1 h; omega)]
              have hBB : B = false := by rw [← HBB.out, hDe]; rfl
              have HDI : DecIs D 2 x := fun h => by rw [hDe] at h; exact absurd h (by decide)
              subst hBB
              clear HF hlast hDe HBB
              go_wp2
              go_ret2
              exact ⟨x, rfl, HDI, HBW.out⟩
          · have hDe : D = (0, 0) := by rw [HF.out, if_neg (fun h => by have := hlast.out.1 h; omega)]
            have hBB : B = false := by rw [← HBB.out, hDe]; rfl
            have HDI : DecIs D 2 x := fun h => by rw [hDe] at h; exact absurd h (by decide)
            subst hBB
            clear HF hlast hDe HBB
            go_wp2
            go_ret2
            exact ⟨x, rfl, HDI, HBW.out⟩
    · have hne : (D.2 == 2) = false := by
        have := Hno.out (show c - 192 < 0 ∨ uMod 2 ≤ c - 192 by simp only [uMod]; omega)
        rw [beq_eq_false_iff_ne]
        rcases HZ2.out with h | h
        · rw [h]; decide
        · rw [h]; exact this
      have hBB : B = false := by rw [← HBB.out]; exact hne
      have HDI : DecIs D 2 0 := fun h => absurd h (by simpa using hne)
      subst hBB
      clear HU Hlt Hno HZ2 hne HBB
      by_cases f1 : c - 192 < 0
      · go_enter Try.func17, Try.ntmps17
        go_wp2
        go_quiet (fail)
        go_wp2
        go_ret2
        exact ⟨0, rfl, HDI, Below.alloc (ubelow_drewN (((Below.refl _ _).alloc (Nat.le_refl _) _).alloc (by simp) _)) (by simp; omega) _⟩
      · have f2 : 32 ≤ c - 192 := by omega
        go_enter Try.func17, Try.ntmps17
        go_wp2
        go_quiet (fail)
        go_wp2
        go_ret2
        exact ⟨0, rfl, HDI, Below.alloc (ubelow_drewN (((Below.refl _ _).alloc (Nat.le_refl _) _).alloc (by simp) _)) (by simp; omega) _⟩
  · have HL := hide hL
    rw [hL] at hsz hpos HU Hlt Hno ⊢
    have hsI : (s.size : Int) = 3 := by omega
    clear hL hsz
    obtain ⟨B, hB⟩ : ∃ B, (D.2 == 3) = B := ⟨_, rfl⟩
    rw [hB]
    have HBB := hide hB
    clear hB
    have hco : c - uOff 3 = c - 224 := by simp only [uOff] <;> omega
    rw [hco] at Hlt Hno
    clear hco
    by_cases hn : 0 ≤ c - 224 ∧ c - 224 < 16
    · have hle := Hlt.out hn.1 (show c - 224 < uMod 3 from hn.2)
      rw [hle] at HU
      have HG := hide (show D = uGo 3 (c - 224) ((es.drop 1).take (3 - 1)) from HU.out)
      clear HU Hlt Hno HZ2 hle
      have f1 : ¬ c - 224 < 0 := by omega
      have f2 : ¬ 16 ≤ c - 224 := by omega
      go_enter Try.func17, Try.ntmps17
      go_wp2
      go_quiet (fail)
      go_wp2
      obtain ⟨w0, hw0⟩ : ∃ x, x = (((w.alloc (.cells #[.int .i64 0, .int .i64 0, .int .i64 192, .int .i64 224, .int .i64 240] 62)).alloc (.cells #[.int .i64 0, .int .i64 0, .int .i64 128, .int .i64 2048, .int .i64 65536] 62)).drewN nq).alloc (.cells #[.int .i64 0, .int .i64 128, .int .i64 32, .int .i64 16, .int .i64 8] 62) := ⟨_, rfl⟩
      have HBW := hide (show Below w.heap.size w w0 by rw [hw0]; exact Below.alloc (ubelow_drewN (((Below.refl _ _).alloc (Nat.le_refl _) _).alloc (by simp) _)) (by simp; omega) _)
      have k1 : w0.cell? ⟨w.heap.size + 1, 3, none⟩ = some (.int .i64 2048) := by subst hw0; go_simp
      rw [← hw0]
      clear hw0
      go_loopg [2, 3, 6, 8] (3 - 1) (fun cc s2 s3 r i wr => ∃ (x : Int) (j : Nat), s2 = .int .i64 0 ∧ s3 = .bool false ∧ r = .int .i64 x ∧ i = .int .i64 j ∧ 1 ≤ j ∧ j ≤ 3 ∧ cc = 3 - j ∧ 0 ≤ x ∧ (j = 1 ∧ x < 16 ∨ j = 2 ∧ x < 1024 ∨ j = 3 ∧ x < 65536) ∧ Hid (D = uGo 3 x ((es.drop j).take (3 - j))) ∧ w0 = wr)
      case atStart => exact ⟨_, 1, rfl, rfl, rfl, rfl, by omega, by omega, rfl, hn.1, by omega, HG, rfl⟩
      case round =>
        obtain ⟨x, j, rfl, rfl, rfl, rfl, hj1, hj2, hg, hx0', hxx, HJ, hw⟩ := hrel
        subst hw
        by_cases hjn : j < 3
        · have q1 : (j : Int) < 3 := by omega
          have hps2 : j < s.size := by omega
          have hx2 := Hix.out j hps2
          have hkj : j < es.length := by rw [HL.out]; omega
          have hc2 := HB.out j hkj
          have HJ2 := hide (uGo_step (R := D) (n := 3) (x := x) (p := j) (m := 3 - (j + 1)) (by rw [show 3 - (j + 1) + 1 = 3 - j by omega]; exact HJ.out) hkj)
          obtain ⟨d, hd⟩ : ∃ d, Nt.lb es j = d := ⟨_, rfl⟩
          rw [hd] at hx2 hc2 HJ2
          clear hd hkj HJ
          by_cases hct : 128 ≤ d ∧ d < 192
          · have t1 : ¬ d < 128 := by omega
            have t2 : ¬ 192 ≤ d := by omega
            have hcc : uCont d = true := by unfold uCont; simp; omega
            go_wp2
            go_roundg (3 - (j + 1))
            case measure => omega
            case rel => exact ⟨x * 64 + d - 128, j + 1, rfl, rfl, rfl, by simp, by omega, by omega, rfl, by omega, by omega, hide (by rw [HJ2.out, if_pos hcc, show x * 64 + (d - 128) = x * 64 + d - 128 by omega]), rfl⟩
          · have hcc : uCont d = false := by unfold uCont; simp; omega
            have hDe : D = (0, 0) := by rw [HJ2.out, hcc]; rfl
            have hBB : B = false := by rw [← HBB.out, hDe]; rfl
            have HDI : DecIs D 3 0 := fun h => by rw [hDe] at h; exact absurd h (by decide)
            subst hBB
            clear HJ2 HG hDe HBB
            by_cases t1 : d < 128
            · go_wp2
              go_ret2
              exact ⟨0, rfl, HDI, HBW.out⟩
            · have t2 : 192 ≤ d := by omega
              go_wp2
              go_ret2
              exact ⟨0, rfl, HDI, HBW.out⟩
        · have q1 : ¬ (j : Int) < 3 := by omega
          have HF := hide (show D = if uSz x = 3 then (x, 3) else (0, 0) by rw [HJ.out, show 3 - j = 0 by omega]; rfl)
          have hlast := hide (uSz_last (x := x) (L := 3) (by omega) hx0' (by omega))
          simp only [uLst] at hlast
          clear HJ HG
          by_cases a1 : 2048 ≤ x
          · by_cases a2 : x ≤ 1114111
            · by_cases a3 : x < 55296
              · have hDe : D = (x, 3) := by rw [HF.out, if_pos (hlast.out.2 ⟨a1, a2, .inl a3⟩)]
                have hBB : B = true := by rw [← HBB.out, hDe]; rfl
                have HDI : DecIs D 3 x := fun _ => by rw [hDe]
                subst hBB
                clear HF hlast hDe HBB
                go_wp2
                go_ret2
                exact ⟨x, rfl, HDI, HBW.out⟩
              · by_cases a4 : 57343 < x
                · have hDe : D = (x, 3) := by rw [HF.out, if_pos (hlast.out.2 ⟨a1, a2, .inr a4⟩)]
                  have hBB : B = true := by rw [← HBB.out, hDe]; rfl
                  have HDI : DecIs D 3 x := fun _ => by rw [hDe]
                  subst hBB
                  clear HF hlast hDe HBB
                  go_wp2
                  go_ret2
                  exact ⟨x, rfl, HDI, HBW.out⟩
                · have hDe : D = (0, 0) := by rw [HF.out, if_neg (fun h => by have := hlast.out.1 h; omega)]
                  have hBB : B = false := by rw [← HBB.out, hDe]; rfl
                  have HDI : DecIs D 3 x := fun h => by rw [hDe] at h; exact absurd h (by decide)
                  subst hBB
                  clear HF hlast hDe HBB
                  go_wp2
                  go_ret2
                  exact ⟨x, rfl, HDI, HBW.out⟩
            · have hDe : D = (0, 0) := by rw [HF.out, if_neg (fun h => by have := hlast.out.1 h; omega)]
              have hBB : B = false := by rw [← HBB.out, hDe]; rfl
              have HDI : DecIs D 3 x := fun h => by rw [hDe] at h; exact absurd h (by decide)
              subst hBB
              clear HF hlast hDe HBB
              go_wp2
              go_ret2
              exact ⟨x, rfl, HDI, HBW.out⟩
          · have hDe : D = (0, 0) := by rw [HF.out, if_neg (fun h => by have := hlast.out.1 h; omega)]
            have hBB : B = false := by rw [← HBB.out, hDe]; rfl
            have HDI : DecIs D 3 x := fun h => by rw [hDe] at h; exact absurd h (by decide)
            subst hBB
            clear HF hlast hDe HBB
            go_wp2
            go_ret2
            exact ⟨x, rfl, HDI, HBW.out⟩
    · have hne : (D.2 == 3) = false := by
        have := Hno.out (show c - 224 < 0 ∨ uMod 3 ≤ c - 224 by simp only [uMod]; omega)
        rw [beq_eq_false_iff_ne]
        rcases HZ2.out with h | h
        · rw [h]; decide
        · rw [h]; exact this
      have hBB : B = false := by rw [← HBB.out]; exact hne
      have HDI : DecIs D 3 0 := fun h => absurd h (by simpa using hne)
      subst hBB
      clear HU Hlt Hno HZ2 hne HBB
      by_cases f1 : c - 224 < 0
      · go_enter Try.func17, Try.ntmps17
        go_wp2
        go_quiet (fail)
        go_wp2
        go_ret2
        exact ⟨0, rfl, HDI, Below.alloc (ubelow_drewN (((Below.refl _ _).alloc (Nat.le_refl _) _).alloc (by simp) _)) (by simp; omega) _⟩
      · have f2 : 16 ≤ c - 224 := by omega
        go_enter Try.func17, Try.ntmps17
        go_wp2
        go_quiet (fail)
        go_wp2
        go_ret2
        exact ⟨0, rfl, HDI, Below.alloc (ubelow_drewN (((Below.refl _ _).alloc (Nat.le_refl _) _).alloc (by simp) _)) (by simp; omega) _⟩
  · have HL := hide hL
    rw [hL] at hsz hpos HU Hlt Hno ⊢
    have hsI : (s.size : Int) = 4 := by omega
    clear hL hsz
    obtain ⟨B, hB⟩ : ∃ B, (D.2 == 4) = B := ⟨_, rfl⟩
    rw [hB]
    have HBB := hide hB
    clear hB
    have hco : c - uOff 4 = c - 240 := by simp only [uOff] <;> omega
    rw [hco] at Hlt Hno
    clear hco
    by_cases hn : 0 ≤ c - 240 ∧ c - 240 < 8
    · have hle := Hlt.out hn.1 (show c - 240 < uMod 4 from hn.2)
      rw [hle] at HU
      have HG := hide (show D = uGo 4 (c - 240) ((es.drop 1).take (4 - 1)) from HU.out)
      clear HU Hlt Hno HZ2 hle
      have f1 : ¬ c - 240 < 0 := by omega
      have f2 : ¬ 8 ≤ c - 240 := by omega
      go_enter Try.func17, Try.ntmps17
      go_wp2
      go_quiet (fail)
      go_wp2
      obtain ⟨w0, hw0⟩ : ∃ x, x = (((w.alloc (.cells #[.int .i64 0, .int .i64 0, .int .i64 192, .int .i64 224, .int .i64 240] 62)).alloc (.cells #[.int .i64 0, .int .i64 0, .int .i64 128, .int .i64 2048, .int .i64 65536] 62)).drewN nq).alloc (.cells #[.int .i64 0, .int .i64 128, .int .i64 32, .int .i64 16, .int .i64 8] 62) := ⟨_, rfl⟩
      have HBW := hide (show Below w.heap.size w w0 by rw [hw0]; exact Below.alloc (ubelow_drewN (((Below.refl _ _).alloc (Nat.le_refl _) _).alloc (by simp) _)) (by simp; omega) _)
      have k1 : w0.cell? ⟨w.heap.size + 1, 4, none⟩ = some (.int .i64 65536) := by subst hw0; go_simp
      rw [← hw0]
      clear hw0
      go_loopg [2, 3, 6, 8] (4 - 1) (fun cc s2 s3 r i wr => ∃ (x : Int) (j : Nat), s2 = .int .i64 0 ∧ s3 = .bool false ∧ r = .int .i64 x ∧ i = .int .i64 j ∧ 1 ≤ j ∧ j ≤ 4 ∧ cc = 4 - j ∧ 0 ≤ x ∧ (j = 1 ∧ x < 8 ∨ j = 2 ∧ x < 512 ∨ j = 3 ∧ x < 32768 ∨ j = 4 ∧ x < 2097152) ∧ Hid (D = uGo 4 x ((es.drop j).take (4 - j))) ∧ w0 = wr)
      case atStart => exact ⟨_, 1, rfl, rfl, rfl, rfl, by omega, by omega, rfl, hn.1, by omega, HG, rfl⟩
      case round =>
        obtain ⟨x, j, rfl, rfl, rfl, rfl, hj1, hj2, hg, hx0', hxx, HJ, hw⟩ := hrel
        subst hw
        by_cases hjn : j < 4
        · have q1 : (j : Int) < 4 := by omega
          have hps2 : j < s.size := by omega
          have hx2 := Hix.out j hps2
          have hkj : j < es.length := by rw [HL.out]; omega
          have hc2 := HB.out j hkj
          have HJ2 := hide (uGo_step (R := D) (n := 4) (x := x) (p := j) (m := 4 - (j + 1)) (by rw [show 4 - (j + 1) + 1 = 4 - j by omega]; exact HJ.out) hkj)
          obtain ⟨d, hd⟩ : ∃ d, Nt.lb es j = d := ⟨_, rfl⟩
          rw [hd] at hx2 hc2 HJ2
          clear hd hkj HJ
          by_cases hct : 128 ≤ d ∧ d < 192
          · have t1 : ¬ d < 128 := by omega
            have t2 : ¬ 192 ≤ d := by omega
            have hcc : uCont d = true := by unfold uCont; simp; omega
            go_wp2
            go_roundg (4 - (j + 1))
            case measure => omega
            case rel => exact ⟨x * 64 + d - 128, j + 1, rfl, rfl, rfl, by simp, by omega, by omega, rfl, by omega, by omega, hide (by rw [HJ2.out, if_pos hcc, show x * 64 + (d - 128) = x * 64 + d - 128 by omega]), rfl⟩
          · have hcc : uCont d = false := by unfold uCont; simp; omega
            have hDe : D = (0, 0) := by rw [HJ2.out, hcc]; rfl
            have hBB : B = false := by rw [← HBB.out, hDe]; rfl
            have HDI : DecIs D 4 0 := fun h => by rw [hDe] at h; exact absurd h (by decide)
            subst hBB
            clear HJ2 HG hDe HBB
            by_cases t1 : d < 128
            · go_wp2
              go_ret2
              exact ⟨0, rfl, HDI, HBW.out⟩
            · have t2 : 192 ≤ d := by omega
              go_wp2
              go_ret2
              exact ⟨0, rfl, HDI, HBW.out⟩
        · have q1 : ¬ (j : Int) < 4 := by omega
          have HF := hide (show D = if uSz x = 4 then (x, 4) else (0, 0) by rw [HJ.out, show 4 - j = 0 by omega]; rfl)
          have hlast := hide (uSz_last (x := x) (L := 4) (by omega) hx0' (by omega))
          simp only [uLst] at hlast
          clear HJ HG
          by_cases a1 : 65536 ≤ x
          · by_cases a2 : x ≤ 1114111
            · by_cases a3 : x < 55296
              · have hDe : D = (x, 4) := by rw [HF.out, if_pos (hlast.out.2 ⟨a1, a2, .inl a3⟩)]
                have hBB : B = true := by rw [← HBB.out, hDe]; rfl
                have HDI : DecIs D 4 x := fun _ => by rw [hDe]
                subst hBB
                clear HF hlast hDe HBB
                go_wp2
                go_ret2
                exact ⟨x, rfl, HDI, HBW.out⟩
              · by_cases a4 : 57343 < x
                · have hDe : D = (x, 4) := by rw [HF.out, if_pos (hlast.out.2 ⟨a1, a2, .inr a4⟩)]
                  have hBB : B = true := by rw [← HBB.out, hDe]; rfl
                  have HDI : DecIs D 4 x := fun _ => by rw [hDe]
                  subst hBB
                  clear HF hlast hDe HBB
                  go_wp2
                  go_ret2
                  exact ⟨x, rfl, HDI, HBW.out⟩
                · have hDe : D = (0, 0) := by rw [HF.out, if_neg (fun h => by have := hlast.out.1 h; omega)]
                  have hBB : B = false := by rw [← HBB.out, hDe]; rfl
                  have HDI : DecIs D 4 x := fun h => by rw [hDe] at h; exact absurd h (by decide)
                  subst hBB
                  clear HF hlast hDe HBB
                  go_wp2
                  go_ret2
                  exact ⟨x, rfl, HDI, HBW.out⟩
            · have hDe : D = (0, 0) := by rw [HF.out, if_neg (fun h => by have := hlast.out.1 h; omega)]
              have hBB : B = false := by rw [← HBB.out, hDe]; rfl
              have HDI : DecIs D 4 x := fun h => by rw [hDe] at h; exact absurd h (by decide)
              subst hBB
              clear HF hlast hDe HBB
              go_wp2
              go_ret2
              exact ⟨x, rfl, HDI, HBW.out⟩
          · have hDe : D = (0, 0) := by rw [HF.out, if_neg (fun h => by have := hlast.out.1 h; omega)]
            have hBB : B = false := by rw [← HBB.out, hDe]; rfl
            have HDI : DecIs D 4 x := fun h => by rw [hDe] at h; exact absurd h (by decide)
            subst hBB
            clear HF hlast hDe HBB
            go_wp2
            go_ret2
            exact ⟨x, rfl, HDI, HBW.out⟩
    · have hne : (D.2 == 4) = false := by
        have := Hno.out (show c - 240 < 0 ∨ uMod 4 ≤ c - 240 by simp only [uMod]; omega)
        rw [beq_eq_false_iff_ne]
        rcases HZ2.out with h | h
        · rw [h]; decide
        · rw [h]; exact this
      have hBB : B = false := by rw [← HBB.out]; exact hne
      have HDI : DecIs D 4 0 := fun h => absurd h (by simpa using hne)
      subst hBB
      clear HU Hlt Hno HZ2 hne HBB
      by_cases f1 : c - 240 < 0
      · go_enter Try.func17, Try.ntmps17
        go_wp2
        go_quiet (fail)
        go_wp2
        go_ret2
        exact ⟨0, rfl, HDI, Below.alloc (ubelow_drewN (((Below.refl _ _).alloc (Nat.le_refl _) _).alloc (by simp) _)) (by simp; omega) _⟩
      · have f2 : 8 ≤ c - 240 := by omega
        go_enter Try.func17, Try.ntmps17
        go_wp2
        go_quiet (fail)
        go_wp2
        go_ret2
        exact ⟨0, rfl, HDI, Below.alloc (ubelow_drewN (((Below.refl _ _).alloc (Nat.le_refl _) _).alloc (by simp) _)) (by simp; omega) _⟩

end Go.Proofs.Yteejbcknikjkjaa
