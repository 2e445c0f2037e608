/- JsonscanLiterals: the walk -/
import Derived.Test.YtefmlajndillbabGreatDoorJsLn
import Derived.Test.YtefmlajndillbabGreatDoorKScanB
namespace Go.Proofs.YtefmlajndillbabGreatDoor
open Go.RowKit
set_option linter.unusedVariables false

theorem blks_at (r : List Int) : (∀ i, i < blks r → blankB (Nt.lb r i) = true) ∧ (blks r < r.length → blankB (Nt.lb r (blks r)) = false) := by
  induction r with
  | nil => exact ⟨fun i h => by simp [blks] at h, fun h => by simp [blks] at h⟩
  | cons b r ih =>
    rw [blks_cons]
    cases hb : blankB b with
    | true =>
      rw [if_pos rfl]
      refine ⟨fun i h => ?_, fun h => ?_⟩
      · cases i with
        | zero => simpa [Nt.lb] using hb
        | succ i => have := ih.1 i (by omega); simpa [Nt.lb] using this
      · have := ih.2 (by simpa using h); simpa [Nt.lb] using this
    | false =>
      rw [if_neg (by simp)]
      exact ⟨fun i h => by omega, fun _ => by simpa [Nt.lb] using hb⟩
theorem lb_drop (es : List Int) (n i : Nat) : Nt.lb (es.drop n) i = Nt.lb es (n + i) := by simp [Nt.lb]
/-- blanks in turn -/
def wsT : Nat → List Int
  | 0 => []
  | k + 1 => wsT k ++ [[32, 9, 10, 13].getD (k % 4) 32]
theorem wsT_len (k : Nat) : (wsT k).length = k := by
  induction k with
  | zero => rfl
  | succ k ih => simp [wsT, ih]
theorem wsT_blank (k : Nat) : ∀ b ∈ wsT k, blankB b = true := by
  induction k with
  | zero => exact nofun
  | succ k ih =>
    intro b hb
    rcases List.mem_append.1 hb with h | h
    · exact ih b h
    · rw [List.mem_singleton.1 h]
      rcases (by omega : k % 4 = 0 ∨ k % 4 = 1 ∨ k % 4 = 2 ∨ k % 4 = 3) with e | e | e | e <;> rw [e] <;> rfl
theorem blank_byt {b : Int} (h : blankB b = true) : 0 ≤ b ∧ b < 256 := by
  simp [blankB] at h
  omega
theorem wx0 : (⟨#[32, 9, 10, 13]⟩ : ByteArray).extract 0 1 = strOfNums [32] := by kernel_rfl
theorem wx1 : (⟨#[32, 9, 10, 13]⟩ : ByteArray).extract 1 2 = strOfNums [9] := by kernel_rfl
theorem wx2 : (⟨#[32, 9, 10, 13]⟩ : ByteArray).extract 2 3 = strOfNums [10] := by kernel_rfl
theorem wx3 : (⟨#[32, 9, 10, 13]⟩ : ByteArray).extract 3 4 = strOfNums [13] := by kernel_rfl
theorem FltIs.tl {w : World} {a : Nat → Addr} {v : Value} {k : Nat} (h : FltIs w a v k) : Tl w a 0 3 k v := by
  obtain ⟨g, rfl, hg⟩ := h
  exact Or.inr ⟨2, g, rfl, by omega, by omega, rfl, hg⟩
set_option maxRecDepth 100000 in
set_option maxHeartbeats 8000000 in
theorem jliterals {w : World} {a : Nat → Addr} {ls : List Int} {ch : ByteArray} {bl : Int} (hS : Snt w a) (hH : Hnd w) (ht : Tab w) (hb : uByt ls) (hch : ch = strOfNums ls) (hl : ls.length ≤ 140737488355328) (hb0 : 0 ≤ bl) (hb1 : bl < 256) :
    Calls Tryz.prog 3 #[.string ch, .int .u8 bl] w fun e w' => e = .returned (.bool true) ∧ Below w.heap.size w w' := by
  have C0 := hide (jlives hS hH)
  have HS := hide hS
  have HH := hide hH
  have HT := hide ht
  obtain ⟨L, hL⟩ : ∃ L, ls.length = L := ⟨_, rfl⟩
  have hcz : ch.size = L := by rw [hch, strOfNums_size, hL]
  have hub : uByt (34 :: ls) := fun x hx => by
    rcases List.mem_cons.1 hx with e | e
    · omega
    · exact hb x e
  obtain ⟨sc, hsc⟩ : ∃ sc, strOfNums (34 :: ls) = sc := ⟨_, rfl⟩
  have hjn : (⟨#[34]⟩ : ByteArray) ++ ch = sc := by rw [hch, ← hsc]; exact utxt_join [34] ls
  obtain ⟨N, hN⟩ : ∃ N, L + 1 = N := ⟨_, rfl⟩
  have hsz : sc.size = N := by rw [← hsc, strOfNums_size]; simp; omega
  have m0 : 1 + L ≤ 9223372036854775807 := by omega
  have HLA := hide (lit_all hb)
  have HUB := hide hub
  have HSC := hide hsc
  have HN := hide (show (34 :: ls).length = N by simp; omega)
  have HL1 := hide (show ls.length + 1 = N by omega)
  have Hix := hide (show ∀ q (g : q < sc.size), (((sc[q]'g).toNat : Nat) : Int) = Nt.lb (34 :: ls) q from fun q g => by subst hsc; exact utxt_at g hub)
  clear hS hH ht hch hub hsc hb hl
  by_cases big : 1048576 < L
  · have big' : (1048576 : Int) < (L : Int) := by omega
    go_enter Tryz.func3, Tryz.ntmps3
    go_wp2_with fail
    refine C0.out.mono ?_
    rintro e w0 ⟨rfl, hb0⟩
    have B1 := hide hb0
    clear hb0 C0
    go_wp2
    go_ret
    exact ⟨rfl, B1.out⟩
  · have big' : ¬ ((1048576 : Int) < (L : Int)) := by omega
    have hNb : N ≤ 1048577 := by omega
    go_enter Tryz.func3, Tryz.ntmps3
    go_wp2_with fail
    refine C0.out.mono ?_
    rintro e w0 ⟨rfl, hb0'⟩
    have B1 := hide hb0'
    have CS := hide (scan_any (ls := 34 :: ls) (s := sc) (at_ := 0) HUB.out HSC.out.symm (by have := HN.out; omega) (HS.out.below B1.out) (HT.out.below HT.out.1 B1.out))
    clear hb0' C0
    go_wp2_with fail
    refine CS.out.mono ?_
    rintro e wa ⟨hsi, hba⟩
    have B2 := hide (B1.out.trans (hba.mono B1.out.size))
    have CR := hide (jread (es := 34 :: ls) (ch := sc) (HS.out.below B2.out) HUB.out HSC.out.symm (by have := HN.out; omega))
    rcases hsi with ⟨hq, _⟩ | ⟨k, hk0, _, hsi⟩
    · exact absurd ⟨by omega, by omega⟩ hq
    have hk : k = 0 := by omega
    subst hk
    rw [List.drop_zero] at hsi
    clear hba CS B1 hk0
    rcases hsi with ⟨t, n, hx, hnl, rfl⟩ | ⟨n, v, hx, hnl, rfl, hfl⟩
    · have hA := HLA.out
      rw [hx] at hA
      obtain ⟨a1, a2, a3⟩ := hA
      have hle0 := blks_le ((34 :: ls).drop n)
      have hat := blks_at ((34 :: ls).drop n)
      have hdl : ((34 :: ls).drop n).length = N - n := by rw [List.length_drop, HN.out]
      obtain ⟨Bk, hBk⟩ : ∃ Bk, blks ((34 :: ls).drop n) = Bk := ⟨_, rfl⟩
      rw [hBk] at a2 a3 hle0 hat
      have hnN : n ≤ N := by have := HN.out; omega
      have HLE := hide (show n + Bk ≤ N by omega)
      have HAt := hide hat
      have HDl := hide hdl
      rw [HL1.out] at a2 a3
      by_cases hP : n + Bk < N
      · obtain ⟨s1, s2⟩ := a2 hP
        have hcc : codeC (writeB (34 :: ls) sc0) = 3 := by rw [codeC, if_neg (by omega), s1]
        obtain ⟨E, hE⟩ : ∃ E, n + Bk = E := ⟨_, rfl⟩
        rw [hE] at s2
        rw [hcc, s2] at CR
        have HE := hide hE
        clear hE a1 a2 a3 s1 s2 hcc hle0 hat hdl hBk hx
        go_wp2_with fail
        refine CR.out.mono ?_
        rintro e wb ⟨v2, rfl, ht2, hb2⟩
        have B3 := hide (B2.out.trans (hb2.mono B2.out.size))
        have T2 := hide ht2
        clear ht2 hb2 CR B2
        go_wp2
        go_loopg [6] Bk (fun c v wr => ∃ i m : Nat, i ≤ Bk ∧ n + i = m ∧ v = .int .i64 m ∧ c = Bk - i ∧ wb = wr)
        case atStart => exact ⟨0, n, by omega, rfl, rfl, by omega, rfl⟩
        case round =>
          obtain ⟨i, m, hi, hm, rfl, hc, rfl⟩ := hrel
          by_cases hib : i < Bk
          · have hmN : m < N := by have := HLE.out; omega
            have p1 : (m : Int) < (N : Int) := by omega
            have p2 : (0 : Int) ≤ (m : Int) := by omega
            have p3 : (m : Int) + 1 ≤ 9223372036854775807 := by omega
            have hmb : m < sc.size := by omega
            have hix := Hix.out m hmb
            have hbk := HAt.out.1 i hib
            rw [lb_drop, hm] at hbk
            obtain ⟨c9, hc9⟩ : ∃ c9, Nt.lb (34 :: ls) m = c9 := ⟨_, rfl⟩
            rw [hc9] at hix hbk
            have h4 : c9 = 32 ∨ c9 = 9 ∨ c9 = 10 ∨ c9 = 13 := by simp [blankB] at hbk; omega
            have HM := hide hm
            clear hc9 hbk hm
            rcases h4 with rfl | rfl | rfl | rfl
            all_goals
              go_wp2
              go_roundg (Bk - (i + 1))
              case measure => omega
              case rel => exact ⟨i + 1, m + 1, by omega, by have := HM.out; omega, by go_num, rfl, rfl⟩
          · have hib2 : i = Bk := by omega
            subst hib2
            have hmN : m < N := by omega
            have p1 : (m : Int) < (N : Int) := by omega
            have p2 : (0 : Int) ≤ (m : Int) := by omega
            have hmb : m < sc.size := by omega
            have hix := Hix.out m hmb
            have hbk := HAt.out.2 (by have := HDl.out; omega)
            rw [lb_drop, hm] at hbk
            obtain ⟨c9, hc9⟩ : ∃ c9, Nt.lb (34 :: ls) m = c9 := ⟨_, rfl⟩
            rw [hc9] at hix hbk
            have h4 : ¬ (c9 = 32) ∧ ¬ (c9 = 9) ∧ ¬ (c9 = 10) ∧ ¬ (c9 = 13) := by simp [blankB] at hbk; omega
            obtain ⟨n1, n2, n3, n4⟩ := h4
            have e1 : (c9 == 32) = false := beq_eq_false_iff_ne.2 n1
            have e2 : (c9 == 9) = false := beq_eq_false_iff_ne.2 n2
            have e3 : (c9 == 10) = false := beq_eq_false_iff_ne.2 n3
            have e4 : (c9 == 13) = false := beq_eq_false_iff_ne.2 n4
            have hmE : E = m := by have := HE.out; omega
            subst hmE
            have CI := hide (jisat 3 E T2.out (by omega) (by omega) (by omega) (HS.out.below B3.out) (HH.out.below B3.out))
            rw [decide_eq_true (show (3 : Nat) = 3 from rfl), decide_eq_true (show ((E : Nat) : Int) = (E : Nat) from rfl)] at CI
            clear hc9 hbk hm
            go_wp2_with fail
            refine CI.out.mono ?_
            rintro e wd ⟨rfl, hb4⟩
            have B5 := hide (B3.out.trans (hb4.mono B3.out.size))
            clear hb4 CI B3
            go_wp2
            go_ret
            exact ⟨rfl, B5.out⟩
      · have hPe : n + Bk = N := by have := HLE.out; omega
        have HA3 := hide (a3 hPe)
        obtain ⟨s1, s2⟩ := a3 hPe [] [] nofun nofun
        simp only [List.nil_append, List.append_nil, List.length_nil, Nat.zero_add, Nat.add_zero] at s1 s2
        rw [s1, s2] at CR
        clear a1 a2 a3 s1 s2 hle0 hat hdl hBk hx
        go_wp2_with fail
        refine CR.out.mono ?_
        rintro e wb ⟨v2, rfl, ht2, hb2⟩
        have hv2 := ht2.none rfl
        subst hv2
        have B3 := hide (B2.out.trans (hb2.mono B2.out.size))
        clear ht2 hb2 CR B2
        go_wp2
        go_loopg [6] Bk (fun c v wr => ∃ i m : Nat, i ≤ Bk ∧ n + i = m ∧ v = .int .i64 m ∧ c = Bk - i ∧ wb = wr)
        case atStart => exact ⟨0, n, by omega, rfl, rfl, by omega, rfl⟩
        case round =>
          obtain ⟨i, m, hi, hm, rfl, hc, rfl⟩ := hrel
          by_cases hib : i < Bk
          · have hmN : m < N := by have := HLE.out; omega
            have p1 : (m : Int) < (N : Int) := by omega
            have p2 : (0 : Int) ≤ (m : Int) := by omega
            have p3 : (m : Int) + 1 ≤ 9223372036854775807 := by omega
            have hmb : m < sc.size := by omega
            have hix := Hix.out m hmb
            have hbk := HAt.out.1 i hib
            rw [lb_drop, hm] at hbk
            obtain ⟨c9, hc9⟩ : ∃ c9, Nt.lb (34 :: ls) m = c9 := ⟨_, rfl⟩
            rw [hc9] at hix hbk
            have h4 : c9 = 32 ∨ c9 = 9 ∨ c9 = 10 ∨ c9 = 13 := by simp [blankB] at hbk; omega
            have HM := hide hm
            clear hc9 hbk hm
            rcases h4 with rfl | rfl | rfl | rfl
            all_goals
              go_wp2
              go_roundg (Bk - (i + 1))
              case measure => omega
              case rel => exact ⟨i + 1, m + 1, by omega, by have := HM.out; omega, by go_num, rfl, rfl⟩
          · have hib2 : i = Bk := by omega
            subst hib2
            have hmN : m = N := by omega
            have p1 : ¬ ((m : Int) < (N : Int)) := by omega
            obtain ⟨q, hq⟩ : ∃ q : Nat, bl % 8 = (q : Int) := ⟨(bl % 8).toNat, by omega⟩
            have hq7 : q ≤ 7 := by omega
            go_wp2
            go_loopg [13, 14] q (fun c mv iv wr => ∃ k : Nat, k ≤ q ∧ iv = .int .i64 k ∧ mv = .string (strOfNums (wsT k)) ∧ c = q - k ∧ wb = wr)
            case atStart => exact ⟨0, by omega, rfl, rfl, by omega, rfl⟩
            case round =>
              obtain ⟨k, hk, rfl, rfl, hc3, rfl⟩ := hrel
              obtain ⟨sw, hsw⟩ : ∃ sw, strOfNums (wsT k) = sw := ⟨_, rfl⟩
              have zsw : sw.size = k := by rw [← hsw, strOfNums_size, wsT_len]
              have HSw := hide hsw
              rw [hsw]
              clear hsw
              by_cases hkq : k < q
              · rcases (by omega : k = 0 ∨ k = 1 ∨ k = 2 ∨ k = 3 ∨ k = 4 ∨ k = 5 ∨ k = 6) with rfl | rfl | rfl | rfl | rfl | rfl | rfl
                · have hx := wx0
                  have hj : sw ++ strOfNums [32] = strOfNums (wsT 1) := by rw [← HSw.out, utxt_join]; rfl
                  obtain ⟨s1, hs1⟩ : ∃ s1, strOfNums [32] = s1 := ⟨_, rfl⟩
                  obtain ⟨s2, hs2⟩ : ∃ s2, strOfNums (wsT 1) = s2 := ⟨_, rfl⟩
                  rw [hs1] at hx hj
                  rw [hs2] at hj
                  have z1 : s1.size = 1 := by rw [← hs1, strOfNums_size]; rfl
                  have HS2 := hide hs2
                  have qk : (0 : Int) < (q : Int) := by omega
                  clear hs1 hs2
                  go_wp2
                  go_roundg (q - (0 + 1))
                  case measure => omega
                  case rel => exact ⟨1, by omega, by go_num, by rw [HS2.out], rfl, rfl⟩
                · have hx := wx1
                  have hj : sw ++ strOfNums [9] = strOfNums (wsT 2) := by rw [← HSw.out, utxt_join]; rfl
                  obtain ⟨s1, hs1⟩ : ∃ s1, strOfNums [9] = s1 := ⟨_, rfl⟩
                  obtain ⟨s2, hs2⟩ : ∃ s2, strOfNums (wsT 2) = s2 := ⟨_, rfl⟩
                  rw [hs1] at hx hj
                  rw [hs2] at hj
                  have z1 : s1.size = 1 := by rw [← hs1, strOfNums_size]; rfl
                  have HS2 := hide hs2
                  have qk : (1 : Int) < (q : Int) := by omega
                  clear hs1 hs2
                  go_wp2
                  go_roundg (q - (1 + 1))
                  case measure => omega
                  case rel => exact ⟨2, by omega, by go_num, by rw [HS2.out], rfl, rfl⟩
                · have hx := wx2
                  have hj : sw ++ strOfNums [10] = strOfNums (wsT 3) := by rw [← HSw.out, utxt_join]; rfl
                  obtain ⟨s1, hs1⟩ : ∃ s1, strOfNums [10] = s1 := ⟨_, rfl⟩
                  obtain ⟨s2, hs2⟩ : ∃ s2, strOfNums (wsT 3) = s2 := ⟨_, rfl⟩
                  rw [hs1] at hx hj
                  rw [hs2] at hj
                  have z1 : s1.size = 1 := by rw [← hs1, strOfNums_size]; rfl
                  have HS2 := hide hs2
                  have qk : (2 : Int) < (q : Int) := by omega
                  clear hs1 hs2
                  go_wp2
                  go_roundg (q - (2 + 1))
                  case measure => omega
                  case rel => exact ⟨3, by omega, by go_num, by rw [HS2.out], rfl, rfl⟩
                · have hx := wx3
                  have hj : sw ++ strOfNums [13] = strOfNums (wsT 4) := by rw [← HSw.out, utxt_join]; rfl
                  obtain ⟨s1, hs1⟩ : ∃ s1, strOfNums [13] = s1 := ⟨_, rfl⟩
                  obtain ⟨s2, hs2⟩ : ∃ s2, strOfNums (wsT 4) = s2 := ⟨_, rfl⟩
                  rw [hs1] at hx hj
                  rw [hs2] at hj
                  have z1 : s1.size = 1 := by rw [← hs1, strOfNums_size]; rfl
                  have HS2 := hide hs2
                  have qk : (3 : Int) < (q : Int) := by omega
                  clear hs1 hs2
                  go_wp2
                  go_roundg (q - (3 + 1))
                  case measure => omega
                  case rel => exact ⟨4, by omega, by go_num, by rw [HS2.out], rfl, rfl⟩
                · have hx := wx0
                  have hj : sw ++ strOfNums [32] = strOfNums (wsT 5) := by rw [← HSw.out, utxt_join]; rfl
                  obtain ⟨s1, hs1⟩ : ∃ s1, strOfNums [32] = s1 := ⟨_, rfl⟩
                  obtain ⟨s2, hs2⟩ : ∃ s2, strOfNums (wsT 5) = s2 := ⟨_, rfl⟩
                  rw [hs1] at hx hj
                  rw [hs2] at hj
                  have z1 : s1.size = 1 := by rw [← hs1, strOfNums_size]; rfl
                  have HS2 := hide hs2
                  have qk : (4 : Int) < (q : Int) := by omega
                  clear hs1 hs2
                  go_wp2
                  go_roundg (q - (4 + 1))
                  case measure => omega
                  case rel => exact ⟨5, by omega, by go_num, by rw [HS2.out], rfl, rfl⟩
                · have hx := wx1
                  have hj : sw ++ strOfNums [9] = strOfNums (wsT 6) := by rw [← HSw.out, utxt_join]; rfl
                  obtain ⟨s1, hs1⟩ : ∃ s1, strOfNums [9] = s1 := ⟨_, rfl⟩
                  obtain ⟨s2, hs2⟩ : ∃ s2, strOfNums (wsT 6) = s2 := ⟨_, rfl⟩
                  rw [hs1] at hx hj
                  rw [hs2] at hj
                  have z1 : s1.size = 1 := by rw [← hs1, strOfNums_size]; rfl
                  have HS2 := hide hs2
                  have qk : (5 : Int) < (q : Int) := by omega
                  clear hs1 hs2
                  go_wp2
                  go_roundg (q - (5 + 1))
                  case measure => omega
                  case rel => exact ⟨6, by omega, by go_num, by rw [HS2.out], rfl, rfl⟩
                · have hx := wx2
                  have hj : sw ++ strOfNums [10] = strOfNums (wsT 7) := by rw [← HSw.out, utxt_join]; rfl
                  obtain ⟨s1, hs1⟩ : ∃ s1, strOfNums [10] = s1 := ⟨_, rfl⟩
                  obtain ⟨s2, hs2⟩ : ∃ s2, strOfNums (wsT 7) = s2 := ⟨_, rfl⟩
                  rw [hs1] at hx hj
                  rw [hs2] at hj
                  have z1 : s1.size = 1 := by rw [← hs1, strOfNums_size]; rfl
                  have HS2 := hide hs2
                  have qk : (6 : Int) < (q : Int) := by omega
                  clear hs1 hs2
                  go_wp2
                  go_roundg (q - (6 + 1))
                  case measure => omega
                  case rel => exact ⟨7, by omega, by go_num, by rw [HS2.out], rfl, rfl⟩
              · have hkq2 : k = q := by omega
                subst hkq2
                have qk : ¬ ((k : Int) < (k : Int)) := by omega
                have hes : sw ++ sc ++ sw = strOfNums (wsT k ++ (34 :: ls) ++ wsT k) := by rw [← HSw.out, ← HSC.out, utxt_join, utxt_join]
                have hu2 : uByt (wsT k ++ (34 :: ls) ++ wsT k) := fun x hx => by
                  rcases List.mem_append.1 hx with hx | hx
                  · rcases List.mem_append.1 hx with hx | hx
                    · exact blank_byt (wsT_blank k x hx)
                    · exact HUB.out x hx
                  · exact blank_byt (wsT_blank k x hx)
                have CR2 := hide (jread (es := wsT k ++ (34 :: ls) ++ wsT k) (ch := sw ++ sc ++ sw) (HS.out.below B3.out) hu2 hes (by have h1 := wsT_len k; have h2 := HN.out; simp only [List.length_append, h1, h2]; omega))
                obtain ⟨o1, o2⟩ := HA3.out (wsT k) (wsT k) (wsT_blank k) (wsT_blank k)
                rw [wsT_len] at o2
                obtain ⟨Z, hZ⟩ : ∃ Z, k + N + k = Z := ⟨_, rfl⟩
                rw [hZ] at o2
                rw [o1, o2] at CR2
                have hZ2 : (N : Int) + 2 * (k : Int) = (Z : Int) := by omega
                have m2 : k + N ≤ 9223372036854775807 := by omega
                have m3 : k + N + k ≤ 9223372036854775807 := by omega
                clear o1 o2 hes hu2 hZ
                go_wp2_with fail
                refine CR2.out.mono ?_
                rintro e wd ⟨v4, rfl, ht4, hb4⟩
                have hv4 := ht4.none rfl
                subst hv4
                have B5 := hide (B3.out.trans (hb4.mono B3.out.size))
                clear ht4 hb4 CR2
                go_wp2
                go_ret
                exact ⟨rfl, B5.out⟩
    · have hA := HLA.out
      rw [hx] at hA
      obtain ⟨a1, a2⟩ := hA
      rw [a1, a2] at CR
      have TF := hide hfl.tl
      obtain ⟨u, x, hv⟩ := TF.out.some (by omega)
      subst hv
      clear hfl hx a1 a2 HLA
      go_wp2_with fail
      refine CR.out.mono ?_
      rintro e wb ⟨v2, rfl, ht2, hb2⟩
      have B3 := hide (B2.out.trans (hb2.mono B2.out.size))
      have T2 := hide ht2
      have CA := hide (jat (TF.out.below hb2) (by omega) (HS.out.below B3.out) (HH.out.below B3.out))
      simp only [show ((3 : Nat) != 0) = true from rfl, if_neg (show ¬ (3 : Nat) = 0 by omega)] at CA
      clear ht2 hb2 CR B2
      go_wp2_with fail
      refine CA.out.mono ?_
      rintro e wc ⟨rfl, hb3⟩
      have B4 := hide (B3.out.trans (hb3.mono B3.out.size))
      have CI := hide (jisat 3 n (T2.out.below hb3) (by omega) (by omega) (by omega) (HS.out.below B4.out) (HH.out.below B4.out))
      rw [decide_eq_true (show (3 : Nat) = 3 from rfl), decide_eq_true (show ((n : Nat) : Int) = (n : Nat) from rfl)] at CI
      clear hb3 CA B3
      go_wp2_with fail
      refine CI.out.mono ?_
      rintro e wd ⟨rfl, hb4⟩
      have B5 := hide (B4.out.trans (hb4.mono B4.out.size))
      clear hb4 CI B4
      go_wp2
      go_ret
      exact ⟨rfl, B5.out⟩

end Go.Proofs.YtefmlajndillbabGreatDoor
