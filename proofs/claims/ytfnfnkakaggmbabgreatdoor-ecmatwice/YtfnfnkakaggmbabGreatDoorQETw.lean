/- EcmaTwice: the walk -/
import Derived.Test.YtfnfnkakaggmbabGreatDoorQETm
import Derived.Test.YtfnfnkakaggmbabGreatDoorQ27
import Derived.Test.YtfnfnkakaggmbabGreatDoorQ29
namespace Go.Proofs.YtfnfnkakaggmbabGreatDoor
open Go.RowKit
set_option linter.unusedVariables false

theorem Ew.ev {w : World} {a : Nat → Addr} (h : Ew w a) : Ev w :=
  ⟨h.T, h.U, h.P, h.g, ⟨_, _, by have := h.S.cell 2 (by omega); simpa only [sG, List.getD_cons_succ, List.getD_cons_zero] using this⟩, by have := h.S.lt (i := 2) (by omega); simpa only [sG, List.getD_cons_succ, List.getD_cons_zero] using this⟩
theorem flip_num {r : Int} (ng : Bool) (r0 : 0 ≤ r) (r1 : r < 9223372036854775808) : bits .xor .u64 (r + b2i ng * 9223372036854775808) 9223372036854775808 = r + b2i (!ng) * 9223372036854775808 := by
  cases ng
  · rw [xor_top (by simp [b2i]; omega) (by simp [b2i]; omega), if_pos (by simp [b2i]; omega)]; simp [b2i]
  · rw [xor_top (by simp [b2i]; omega) (by simp [b2i]; omega), if_neg (by simp [b2i]; omega)]; simp [b2i]
/-- Read of the text with the other sign -/
theorem read_flip {w : World} {a : Nat → Addr} {es : List Int} {t : ByteArray} {r : Int} (h : Ew w a) (hb : Byt es) (hl : es.length ≤ 1048577) (hok : (scG es 0 0).2 = true) (r1 : r < 9218868437227405312)
    (hv : DV 4503599627370496 (-1074) 9218868437227405312 (dg (voDs es)) (voPt es - (voDs es).length) r) (ht : t = strOfNums (flipE es)) :
    Calls Tryz.prog 7 #[.string t] w fun e w' => e = .returned (.tuple #[.int .u64 (r + b2i (!headB es 45) * 9223372036854775808), .nilIface]) ∧ Below w.heap.size w w' := by
  obtain ⟨h1, h2, h3⟩ := flipE_ok hok
  have hb' : Byt (flipE es) := by
    unfold flipE
    split
    · exact fun x hx => hb x (List.mem_of_mem_drop hx)
    · intro x hx
      rcases List.mem_cons.1 hx with rfl | hx
      · omega
      · exact hb x hx
  have hl' : (flipE es).length ≤ 4294967000 := by
    unfold flipE
    split
    · rw [List.length_drop]; omega
    · rw [List.length_cons]; omega
  refine (read_goodF h.T hb' ht hl' h1 h.S).mono ?_
  rintro e w' ⟨hbw, r', hv', h4⟩
  obtain rfl := voPt_r h3 hok hv hv'
  rw [h2] at h4
  rcases h4 with ⟨_, rfl⟩ | ⟨h4, _⟩
  · exact ⟨rfl, hbw⟩
  · omega
set_option maxHeartbeats 16000000 in
set_option maxRecDepth 100000 in
theorem etwice_walk {w : World} {a : Nat → Addr} (E : Ew w a) {s : ByteArray} {es : List Int} (hb : Byt es) (hs : s = strOfNums es) (hl : es.length ≤ 140737488355328) :
    Calls Tryz.prog 3 #[.string s] w fun e w' => e = .returned (.bool true) ∧ Below w.heap.size w w' := by
  have hsz : s.size = es.length := by rw [hs, strOfNums_size]
  by_cases hbig : 1048576 < s.size
  · have q1 : (1048576 : Int) < (s.size : Int) := by omega
    clear hs hb hsz hl
    go_enter Tryz.func3, Tryz.ntmps3
    go_wp2
    go_ret
    exact ⟨rfl, Below.refl _ _⟩
  · have q1 : decide ((1048576 : Int) < (s.size : Int)) = false := decide_eq_false (by omega)
    have q1' : ¬ (1048576 : Int) < (s.size : Int) := by omega
    have HR := hide (read_f E hb hs (by omega))
    have HE := hide E
    have HB := hide (And.intro hb (And.intro hs hsz))
    have hsl : s.size ≤ 1048576 := by omega
    clear E hb hs hl hsz hbig
    go_enter Tryz.func3, Tryz.ntmps3
    go_wp2_with fail
    refine HR.out.mono ?_
    clear HR
    rintro e w1 ⟨⟨v, k, rfl, hf, -⟩ | ⟨hok, r, r0, r1, hv, rfl⟩, b1⟩
    · have E1 := HE.out.below b1
      have HF := hide hf
      clear hf
      go_wp2_with fail
      refine (code_flt E1.S HF.out).mono ?_
      rintro e w2 ⟨rfl, b2⟩
      have E2 := E1.below b2
      have K := below_trans b1 b2
      clear b1 b2 E1 HF
      go_wp2_with fail
      refine (lives8_any E2).mono ?_
      rintro e w3 ⟨rfl, b3⟩
      replace K := below_trans K b3
      clear b3 E2
      go_wp2
      go_ret
      exact ⟨rfl, K⟩
    · have E1 := HE.out.below b1
      have HV := hide (And.intro hok hv)
      have hxor := flip_num (headB es 45) r0 (by omega)
      have HFL := hide (fun (W : World) (h : Ew W a) (t : ByteArray) (ht : t = strOfNums (flipE es)) => read_flip h HB.out.1 (by have := HB.out.2.2; omega) hok r1 hv ht)
      obtain ⟨hFok, hFh, -⟩ := flipE_ok hok
      have hne : es ≠ [] := fun e => by rw [e] at hok; exact absurd hok (by decide)
      have hlp : 0 < s.size := by rw [HB.out.2.2]; exact List.length_pos_iff.2 hne
      have hx0 : (((s[0]'hlp).toNat : Nat) : Int) = Nt.lb es 0 := by
        have := HB.out.2.1
        subst this
        exact txt_at hlp HB.out.1
      have hh0 : headB es 45 = decide (Nt.lb es 0 = 45) := by
        cases es with
        | nil => exact absurd rfl hne
        | cons c r =>
          have e0 : Nt.lb (c :: r) 0 = c := lb_hd
          rw [e0]
          by_cases e : c = 45 <;> simp [headB, e]
      have hadd : (⟨#[45]⟩ : ByteArray) ++ s = strOfNums (45 :: es) := by rw [HB.out.2.1, show (⟨#[45]⟩ : ByteArray) = strOfNums [45] from rfl, txt_join]; rfl
      have hcut : s.extract 1 s.size = strOfNums (es.drop 1) := cut_str HB.out.2.1
      have hfl : flipE es = if headB es 45 then es.drop 1 else 45 :: es := rfl
      obtain ⟨c0, hc0⟩ : ∃ c0, Nt.lb es 0 = c0 := ⟨_, rfl⟩
      rw [hc0] at hx0 hh0
      obtain ⟨ng, hng⟩ : ∃ ng, headB es 45 = ng := ⟨_, rfl⟩
      rw [hng] at hxor HFL hh0 hfl ⊢
      obtain ⟨tA, htA⟩ : ∃ t, strOfNums (45 :: es) = t := ⟨_, rfl⟩
      obtain ⟨tB, htB⟩ : ∃ t, strOfNums (es.drop 1) = t := ⟨_, rfl⟩
      rw [htA] at hadd
      rw [htB] at hcut
      have HTA := hide htA
      have HTB := hide htB
      have HH := hide (And.intro hh0 hfl)
      have a1 : ¬ 9223372036854775807 < (1 : Nat) + s.size := by omega
      have a2 : (1 : Nat) ≤ s.size := by omega
      have q1'' : 0 ≤ r + b2i ng * 9223372036854775808 ∧ r + b2i ng * 9223372036854775808 < 18446744073709551616 ∧ (r + b2i ng * 9223372036854775808) % 9223372036854775808 = r ∧ ng = decide (9223372036854775808 ≤ r + b2i ng * 9223372036854775808) ∧ (r = 0 → r + b2i ng * 9223372036854775808 = 0 ∨ r + b2i ng * 9223372036854775808 = 9223372036854775808) := by
        cases ng
        · refine ⟨by simp [b2i]; omega, by simp [b2i]; omega, by simp [b2i]; omega, ?_, fun e => Or.inl (by simp [b2i]; omega)⟩
          rw [decide_eq_false (by simp [b2i]; omega)]
        · refine ⟨by simp [b2i]; omega, by simp [b2i]; omega, by simp [b2i]; omega, ?_, fun e => Or.inr (by simp [b2i]; omega)⟩
          rw [decide_eq_true (by simp [b2i]; omega)]
      obtain ⟨y, hy⟩ : ∃ y, r + b2i (!ng) * 9223372036854775808 = y := ⟨_, rfl⟩
      rw [hy] at hxor HFL
      obtain ⟨x, hx⟩ : ∃ x, r + b2i ng * 9223372036854775808 = x := ⟨_, rfl⟩
      have HX := hide hx
      rw [hx] at q1'' hxor ⊢
      obtain ⟨x0, x1, x2, x3, x4⟩ := q1''
      clear hx hy hok hv hFok hFh hne hng hc0 htA htB hfl hh0 HV
      -- what is left, behind b and again
      have fin : ∀ (W : World), Ew W a → Below w.heap.size w W → ∀ (b : Int), (b = x ∨ (x = 9223372036854775808 ∧ b = 0)) → True := fun _ _ _ _ _ => trivial
      clear fin
      go_wp2_with fail
      refine code_nil.mono ?_
      rintro e w2 ⟨rfl, rfl⟩
      have K := b1
      clear b1
      by_cases hr0 : r = 0
      · have hx4 := x4 hr0
        subst hr0
        have HZ := hide x2
        clear x2 x3 x4
        go_wp2_with fail
        refine (show_zero E1.T x0 x1 HZ.out).mono ?_
        rintro e w3 ⟨rfl, b3⟩
        have E3 := E1.below b3
        replace K := below_trans K b3
        clear b3 E1
        go_wp2_with fail
        refine (read_shn E3.ev shn_zero (by omega) (by omega) (t := ⟨#[48]⟩) rfl).mono ?_
        rintro e w4 ⟨rfl, b4⟩
        rw [show (0 : Int) + b2i false * 9223372036854775808 = 0 from rfl]
        have E4 := E3.below b4
        replace K := below_trans K b4
        clear b4 E3
        go_wp2_with fail
        refine code_nil.mono ?_
        rintro e w5 ⟨rfl, rfl⟩
        rcases hx4 with hx4 | hx4
        · subst hx4
          by_cases hc : c0 = 45
          · subst hc
            have hT : tB = strOfNums (flipE es) := by rw [HH.out.2, HH.out.1]; exact HTB.out.symm
            have HT := hide hT
            clear hT
            go_wp2_with fail
            refine (HFL.out _ E4 _ HT.out).mono ?_
            rintro e w6 ⟨rfl, b6⟩
            have E6 := E4.below b6
            replace K := below_trans K b6
            clear b6 E4
            go_wp2_with fail
            refine code_nil.mono ?_
            rintro e w7 ⟨rfl, rfl⟩
            go_wp2_with fail
            refine (lives8_any E6).mono ?_
            rintro e w8 ⟨rfl, b8⟩
            replace K := below_trans K b8
            clear b8 E6
            go_wp2
            go_ret
            exact ⟨rfl, K⟩
          · have e45 : (c0 == 45) = false := beq_eq_false_iff_ne.2 hc
            have hT : tA = strOfNums (flipE es) := by rw [HH.out.2, HH.out.1, decide_eq_false hc]; exact HTA.out.symm
            have HT := hide hT
            clear hT
            go_wp2_with fail
            refine (HFL.out _ E4 _ HT.out).mono ?_
            rintro e w6 ⟨rfl, b6⟩
            have E6 := E4.below b6
            replace K := below_trans K b6
            clear b6 E4
            go_wp2_with fail
            refine code_nil.mono ?_
            rintro e w7 ⟨rfl, rfl⟩
            go_wp2_with fail
            refine (lives8_any E6).mono ?_
            rintro e w8 ⟨rfl, b8⟩
            replace K := below_trans K b8
            clear b8 E6
            go_wp2
            go_ret
            exact ⟨rfl, K⟩
        · subst hx4
          by_cases hc : c0 = 45
          · subst hc
            have hT : tB = strOfNums (flipE es) := by rw [HH.out.2, HH.out.1]; exact HTB.out.symm
            have HT := hide hT
            clear hT
            go_wp2_with fail
            refine (HFL.out _ E4 _ HT.out).mono ?_
            rintro e w6 ⟨rfl, b6⟩
            have E6 := E4.below b6
            replace K := below_trans K b6
            clear b6 E4
            go_wp2_with fail
            refine code_nil.mono ?_
            rintro e w7 ⟨rfl, rfl⟩
            go_wp2_with fail
            refine (lives8_any E6).mono ?_
            rintro e w8 ⟨rfl, b8⟩
            replace K := below_trans K b8
            clear b8 E6
            go_wp2
            go_ret
            exact ⟨rfl, K⟩
          · have e45 : (c0 == 45) = false := beq_eq_false_iff_ne.2 hc
            have hT : tA = strOfNums (flipE es) := by rw [HH.out.2, HH.out.1, decide_eq_false hc]; exact HTA.out.symm
            have HT := hide hT
            clear hT
            go_wp2_with fail
            refine (HFL.out _ E4 _ HT.out).mono ?_
            rintro e w6 ⟨rfl, b6⟩
            have E6 := E4.below b6
            replace K := below_trans K b6
            clear b6 E4
            go_wp2_with fail
            refine code_nil.mono ?_
            rintro e w7 ⟨rfl, rfl⟩
            go_wp2_with fail
            refine (lives8_any E6).mono ?_
            rintro e w8 ⟨rfl, b8⟩
            replace K := below_trans K b8
            clear b8 E6
            go_wp2
            go_ret
            exact ⟨rfl, K⟩
      · have rp : 0 < r := by omega
        have HQ := hide (And.intro x2 x3)
        clear x2 x3 x4
        go_wp2_with fail
        refine (show_sh E1.T E1.U E1.P E1.g x0 x1 HQ.out.1 HQ.out.2 rp r1).mono ?_
        rintro e w3 ⟨p, k, c, sh, h17, rfl, b3⟩
        have E3 := E1.below b3
        replace K := below_trans K b3
        clear b3 E1
        have HS := hide (shn_of ng rp r1 sh h17)
        obtain ⟨t, ht⟩ : ∃ t, strOfNums (layoutT ng (txt k c) (pt k c p)) = t := ⟨_, rfl⟩
        have HT0 := hide ht
        rw [ht]
        clear sh ht h17
        go_wp2_with fail
        refine (read_shn E3.ev HS.out r0 r1 HT0.out.symm).mono ?_
        rintro e w4 ⟨rfl, b4⟩
        rw [HX.out]
        have E4 := E3.below b4
        replace K := below_trans K b4
        clear b4 E3
        go_wp2_with fail
        refine code_nil.mono ?_
        rintro e w5 ⟨rfl, rfl⟩
        by_cases hc : c0 = 45
        · subst hc
          have hT : tB = strOfNums (flipE es) := by rw [HH.out.2, HH.out.1]; exact HTB.out.symm
          have HT := hide hT
          clear hT
          go_wp2_with fail
          refine (HFL.out _ E4 _ HT.out).mono ?_
          rintro e w6 ⟨rfl, b6⟩
          have E6 := E4.below b6
          replace K := below_trans K b6
          clear b6 E4
          go_wp2_with fail
          refine code_nil.mono ?_
          rintro e w7 ⟨rfl, rfl⟩
          go_wp2_with fail
          refine (lives8_any E6).mono ?_
          rintro e w8 ⟨rfl, b8⟩
          replace K := below_trans K b8
          clear b8 E6
          go_wp2
          go_ret
          exact ⟨rfl, K⟩
        · have e45 : (c0 == 45) = false := beq_eq_false_iff_ne.2 hc
          have hT : tA = strOfNums (flipE es) := by rw [HH.out.2, HH.out.1, decide_eq_false hc]; exact HTA.out.symm
          have HT := hide hT
          clear hT
          go_wp2_with fail
          refine (HFL.out _ E4 _ HT.out).mono ?_
          rintro e w6 ⟨rfl, b6⟩
          have E6 := E4.below b6
          replace K := below_trans K b6
          clear b6 E4
          go_wp2_with fail
          refine code_nil.mono ?_
          rintro e w7 ⟨rfl, rfl⟩
          go_wp2_with fail
          refine (lives8_any E6).mono ?_
          rintro e w8 ⟨rfl, b8⟩
          replace K := below_trans K b8
          clear b8 E6
          go_wp2
          go_ret
          exact ⟨rfl, K⟩

end Go.Proofs.YtfnfnkakaggmbabGreatDoor
