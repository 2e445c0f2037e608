/- JsonscanMakes: the walk -/
import Derived.Test.YtefmlajndillbabGreatDoorJsMo
import Derived.Test.YtefmlajndillbabGreatDoorXQuo
import Derived.Test.YtefmlajndillbabGreatDoorKScanB
namespace Go.Proofs.YtefmlajndillbabGreatDoor
open Go.RowKit
set_option linter.unusedVariables false

theorem lst_byt {a b : List Int} (ha : uByt a) (hb : uByt b) : uByt (lstT a b) := fun x hx => by
  simp [lstT] at hx
  rcases hx with rfl | h | rfl | h | rfl
  · omega
  · exact ha x h
  · omega
  · exact hb x h
  · omega
theorem map_byt {k a b : List Int} (hk : uByt k) (ha : uByt a) (hb : uByt b) : uByt (mapT k a b) := fun x hx => by
  simp [mapT] at hx
  rcases hx with rfl | h | rfl | h | rfl | h | rfl | rfl | rfl | h | rfl
  all_goals first | omega | exact hk x h | exact ha x h | exact hb x h
theorem code_le {l : List Int} (h : uByt l) : codeC (writeB l sc0) ≤ 11 := by
  have hg := (good_write good0 l h).bd
  unfold codeC
  repeat' split
  all_goals omega
set_option maxRecDepth 100000 in
set_option maxHeartbeats 8000000 in
theorem jmakes {w : World} {a : Nat → Addr} {la lb lk : List Int} {ca cb ck : ByteArray} (hS : Snt w a) (hH : Hnd w) (ht : Tab w) (hba : uByt la) (hca : ca = strOfNums la) (hla : la.length ≤ 140737488351232)
    (hbb : uByt lb) (hcb : cb = strOfNums lb) (hlb : lb.length ≤ 140737488351232) (hbk : uByt lk) (hck : ck = strOfNums lk) (hlk : lk.length ≤ 140737488351232) :
    Calls Tryz.prog 4 #[.string ca, .string cb, .string ck] w fun e w' => e = .returned (.bool true) ∧ Below w.heap.size w w' := by
  have C0 := hide (jlives hS hH)
  have HS := hide hS
  have HH := hide hH
  have HT := hide ht
  obtain ⟨A, hA⟩ : ∃ A, la.length = A := ⟨_, rfl⟩
  obtain ⟨B, hB⟩ : ∃ B, lb.length = B := ⟨_, rfl⟩
  obtain ⟨K, hK⟩ : ∃ K, lk.length = K := ⟨_, rfl⟩
  have hza : ca.size = A := by rw [hca, strOfNums_size, hA]
  have hzb : cb.size = B := by rw [hcb, strOfNums_size, hB]
  have hzk : ck.size = K := by rw [hck, strOfNums_size, hK]
  have HA := hide (And.intro hba (And.intro hca hA))
  have HB := hide (And.intro hbb (And.intro hcb hB))
  have HK := hide (And.intro hbk (And.intro hck hK))
  have s1 : A + B ≤ 9223372036854775807 := by omega
  have s2 : (A : Int) + (B : Int) ≤ 9223372036854775807 := by omega
  have s3 : (A : Int) + (B : Int) + (K : Int) ≤ 9223372036854775807 := by omega
  clear hS hH ht hba hca hbb hcb hbk hck
  by_cases big : 1048576 < A + B + K
  · have big' : (1048576 : Int) < (A : Int) + (B : Int) + (K : Int) := by omega
    go_enter Tryz.func4, Tryz.ntmps4
    go_wp2_with fail
    refine C0.out.mono ?_
    rintro e w0 ⟨rfl, hb0⟩
    have B1 := hide hb0
    clear hb0 C0
    go_wp2
    go_ret
    exact ⟨rfl, B1.out⟩
  · have big' : ¬ ((1048576 : Int) < (A : Int) + (B : Int) + (K : Int)) := by omega
    have q1 : 1 + A ≤ 9223372036854775807 := by omega
    have q2 : 1 + A + 1 ≤ 9223372036854775807 := by omega
    have q3 : 1 + A + 1 + B ≤ 9223372036854775807 := by omega
    have q4 : 1 + A + 1 + B + 1 ≤ 9223372036854775807 := by omega
    obtain ⟨ps, t, hsp⟩ := USplit.exists lk.length (Nat.le_refl _) HK.out.1
    have hql := (xQ_len lk).2
    obtain ⟨KS, hKS⟩ : ∃ KS, (if t.isEmpty then xQ lk else []) = KS := ⟨_, rfl⟩
    obtain ⟨ok, hok⟩ : ∃ ok, t.isEmpty = ok := ⟨_, rfl⟩
    obtain ⟨sk, hsk⟩ : ∃ sk, strOfNums KS = sk := ⟨_, rfl⟩
    have hKl : KS.length ≤ 6 * K + 2 := by
      rw [← hKS]
      split
      · omega
      · simp
    have hKb : uByt KS := by
      rw [← hKS]
      split
      · exact xQ_byt HK.out.1
      · exact nofun
    have hzs : sk.size ≤ 6 * K + 2 := by rw [← hsk, strOfNums_size]; exact hKl
    have QQ := hide (show ∀ w', Tab w' → Calls Tryz.prog 10 #[.string ck] w' fun e w'' => e = .returned (.tuple #[.string sk, .bool ok]) ∧ Below w'.heap.size w' w'' from fun w' h' => by
      have := quote_any (w := w') HK.out.1 HK.out.2.1 (by omega) (by omega) hsp h'
      rw [hKS, hsk, hok] at this
      exact this)
    have HKS := hide (And.intro hKb (And.intro hsk.symm hKl))
    have HSP := hide (And.intro hsp (And.intro hKS hok))
    clear hsp hKS hok hsk hKl hKb hql
    go_enter Tryz.func4, Tryz.ntmps4
    go_wp2_with fail
    refine C0.out.mono ?_
    rintro e w0 ⟨rfl, hb0⟩
    have B1 := hide hb0
    have CA := hide (jread (es := la) (ch := ca) (HS.out.below B1.out) HA.out.1 HA.out.2.1 (by omega))
    obtain ⟨cx, hcx⟩ : ∃ c, codeC (writeB la sc0) = c := ⟨_, rfl⟩
    obtain ⟨nx, hnx⟩ : ∃ c, (writeB la sc0).size = c := ⟨_, rfl⟩
    rw [hcx, hnx] at CA
    clear hb0 C0
    go_wp2_with fail
    refine CA.out.mono ?_
    rintro e w1 ⟨x, rfl, tx, hb1⟩
    have B2 := hide (B1.out.trans (hb1.mono B1.out.size))
    have TX := hide tx
    have CB := hide (jread (es := lb) (ch := cb) (HS.out.below B2.out) HB.out.1 HB.out.2.1 (by omega))
    obtain ⟨cy, hcy⟩ : ∃ c, codeC (writeB lb sc0) = c := ⟨_, rfl⟩
    rw [hcy] at CB
    clear hb1 CA B1 tx
    go_wp2_with fail
    refine CB.out.mono ?_
    rintro e w2 ⟨y, rfl, ty, hb2⟩
    have B3 := hide (B2.out.trans (hb2.mono B2.out.size))
    have TX2 := hide (TX.out.below hb2)
    have TY := hide ty
    have CQ := hide (QQ.out w2 (HT.out.below HT.out.1 B3.out))
    clear hb2 CB B2 ty TX QQ
    go_wp2_with fail
    refine CQ.out.mono ?_
    rintro e w3 ⟨rfl, hb3⟩
    have B4 := hide (B3.out.trans (hb3.mono B3.out.size))
    have TX3 := hide (TX2.out.below hb3)
    have TY3 := hide (TY.out.below hb3)
    clear hb3 CQ B3 TX2 TY
    have HLs := hide (show (⟨#[91]⟩ : ByteArray) ++ ca ++ ⟨#[44]⟩ ++ cb ++ ⟨#[93]⟩ = strOfNums (lstT la lb) by
      rw [HA.out.2.1, HB.out.2.1]
      show strOfNums [91] ++ strOfNums la ++ strOfNums [44] ++ strOfNums lb ++ strOfNums [93] = _
      rw [utxt_join, utxt_join, utxt_join, utxt_join]; rfl)
    have CL := hide (jread (es := lstT la lb) (HS.out.below B4.out) (lst_byt HA.out.1 HB.out.1) HLs.out (by have h1 := HA.out.2.2; have h2 := HB.out.2.2; simp [lstT]; omega))
    obtain ⟨cl, hcl⟩ : ∃ c, codeC (writeB (lstT la lb) sc0) = c := ⟨_, rfl⟩
    rw [hcl] at CL
    go_wp2_with fail
    refine CL.out.mono ?_
    rintro e w4 ⟨l, rfl, tl, hb4⟩
    have B5 := hide (B4.out.trans (hb4.mono B4.out.size))
    have TX4 := hide (TX3.out.below hb4)
    have TY4 := hide (TY3.out.below hb4)
    have TL := hide tl
    clear hb4 CL B4 TX3 TY3 tl
    have hlx : cx ≤ 11 := hcx ▸ code_le HA.out.1
    have hly : cy ≤ 11 := hcy ▸ code_le HB.out.1
    by_cases x0 : cx = 0
    · have hx0 := TX4.out.none x0
      subst hx0
      by_cases y0 : cy = 0
      · have hy0 := TY4.out.none y0
        subst hy0
        subst x0
        subst y0
        by_cases l0 : cl = 0
        · have hl0 := TL.out.none l0
          subst hl0
          subst l0
          have HM := hide (show (⟨#[123]⟩ : ByteArray) ++ sk ++ ⟨#[58]⟩ ++ ca ++ ⟨#[44]⟩ ++ sk ++ ⟨#[32, 58, 32]⟩ ++ cb ++ ⟨#[125]⟩ = strOfNums (mapT KS la lb) by
            rw [HA.out.2.1, HB.out.2.1, HKS.out.2.1]
            show strOfNums [123] ++ strOfNums KS ++ strOfNums [58] ++ strOfNums la ++ strOfNums [44] ++ strOfNums KS ++ strOfNums [32, 58, 32] ++ strOfNums lb ++ strOfNums [125] = _
            rw [utxt_join, utxt_join, utxt_join, utxt_join, utxt_join, utxt_join, utxt_join, utxt_join]; rfl)
          have CM := hide (jread (es := mapT KS la lb) (HS.out.below B5.out) (map_byt HKS.out.1 HA.out.1 HB.out.1) HM.out (by have h1 := HA.out.2.2; have h2 := HB.out.2.2; have h3 := HKS.out.2.2; simp [mapT]; omega))
          obtain ⟨cm, hcm⟩ : ∃ c, codeC (writeB (mapT KS la lb) sc0) = c := ⟨_, rfl⟩
          have hmo : (cm = 0 ∧ ok = true) ∨ (cm = 3 ∧ ok = false) := by
            obtain ⟨sp, e1, e2⟩ := HSP.out
            rw [e2] at e1
            cases ok with
            | true =>
              simp at e1 e2
              subst e1
              subst e2
              have e3 := sp.eq
              rw [List.append_nil] at e3
              left
              refine ⟨?_, rfl⟩
              rw [← hcm, e3]
              exact pair_code HA.out.1 HB.out.1 hcx hcy sp.pts (e3 ▸ HK.out.1) (by rw [hcl]; omega)
            | false =>
              simp at e1
              subst e1
              right
              exact ⟨by rw [← hcm]; exact pair_no la lb, rfl⟩
          rw [hcm] at CM
          obtain ⟨z, hz⟩ : ∃ z, sk.size = z := ⟨_, rfl⟩
          rw [hz] at hzs
          have r1 : 1 + z ≤ 9223372036854775807 := by omega
          have r2 : 1 + z + 1 ≤ 9223372036854775807 := by omega
          have r3 : 1 + z + 1 + A ≤ 9223372036854775807 := by omega
          have r4 : 1 + z + 1 + A + 1 ≤ 9223372036854775807 := by omega
          have r5 : 1 + z + 1 + A + 1 + z ≤ 9223372036854775807 := by omega
          have r6 : 1 + z + 1 + A + 1 + z + 3 ≤ 9223372036854775807 := by omega
          have r7 : 1 + z + 1 + A + 1 + z + 3 + B ≤ 9223372036854775807 := by omega
          have r8 : 1 + z + 1 + A + 1 + z + 3 + B + 1 ≤ 9223372036854775807 := by omega
          go_wp2_with fail
          refine CM.out.mono ?_
          rintro e w5 ⟨m, rfl, tm, hb5⟩
          have B6 := hide (B5.out.trans (hb5.mono B5.out.size))
          clear hb5 CM
          rcases hmo with ⟨rfl, rfl⟩ | ⟨rfl, rfl⟩
          · have hm0 := tm.none rfl
            subst hm0
            clear tm
            go_wp2
            go_ret
            exact ⟨rfl, B6.out⟩
          · obtain ⟨u, xx, hm0⟩ := tm.some (by omega)
            subst hm0
            clear tm
            go_wp2
            go_ret
            exact ⟨rfl, B6.out⟩
        · have hl5 : cl = 5 := by
            rcases list_code HA.out.1 HB.out.1 hcx hcy with h | h
            · rw [← hcl]; exact h
            · exact absurd (hcl ▸ h) l0
          subst hl5
          have CC := hide (jcode TL.out (by omega) (HS.out.below B5.out) (HH.out.below B5.out))
          obtain ⟨u, xx, hl0⟩ := TL.out.some (by omega)
          subst hl0
          go_wp2_with fail
          refine CC.out.mono ?_
          rintro e w5 ⟨rfl, hb5⟩
          have B6 := hide (B5.out.trans (hb5.mono B5.out.size))
          clear hb5 CC
          go_wp2
          go_ret
          exact ⟨rfl, B6.out⟩
      · obtain ⟨u, xx, hy0⟩ := TY4.out.some y0
        subst hy0
        subst x0
        have CT := hide (jat TX4.out (by omega) (HS.out.below B5.out) (HH.out.below B5.out))
        simp only [show ((0 : Nat) != 0) = false from rfl, if_true] at CT
        go_wp2_with fail
        refine CT.out.mono ?_
        rintro e w5 ⟨rfl, hb5⟩
        have B6 := hide (B5.out.trans (hb5.mono B5.out.size))
        clear hb5 CT
        go_wp2
        go_ret
        exact ⟨rfl, B6.out⟩
    · obtain ⟨u, xx, hx0⟩ := TX4.out.some x0
      subst hx0
      have CT := hide (jat TX4.out hlx (HS.out.below B5.out) (HH.out.below B5.out))
      rw [if_neg x0, show (cx != 0) = true by simp [x0]] at CT
      go_wp2_with fail
      refine CT.out.mono ?_
      rintro e w5 ⟨rfl, hb5⟩
      have B6 := hide (B5.out.trans (hb5.mono B5.out.size))
      have TX5 := hide (TX4.out.below hb5)
      clear hb5 CT B5 TX4
      by_cases hat : nx < A
      · have hat' : (nx : Int) < (A : Int) := by omega
        have CC := hide (jcode TX5.out hlx (HS.out.below B6.out) (HH.out.below B6.out))
        go_wp2_with fail
        refine CC.out.mono ?_
        rintro e w6 ⟨rfl, hb6⟩
        have B7 := hide (B6.out.trans (hb6.mono B6.out.size))
        clear hb6 CC B6
        by_cases x3 : cx = 3
        · subst x3
          have HO := hide (show (⟨#[91]⟩ : ByteArray) ++ ca = strOfNums ([91] ++ la) by
            rw [HA.out.2.1]
            show strOfNums [91] ++ strOfNums la = _
            rw [utxt_join])
          have CO := hide (jread (es := [91] ++ la) (HS.out.below B7.out) (fun x hx => by
            rcases List.mem_append.1 hx with h | h
            · simp at h; omega
            · exact HA.out.1 x h) HO.out (by have h1 := HA.out.2.2; simp; omega))
          have h5 := one_code HA.out.1
          rw [hnx] at h5
          have hlo : codeC (writeB ([91] ++ la) sc0) ≤ 11 := code_le (fun x hx => by
            rcases List.mem_append.1 hx with h | h
            · simp at h; omega
            · exact HA.out.1 x h)
          have hno := (write_size ([91] ++ la) sc0).1
          obtain ⟨co, hco⟩ : ∃ c, codeC (writeB ([91] ++ la) sc0) = c := ⟨_, rfl⟩
          obtain ⟨no, hno'⟩ : ∃ c, (writeB ([91] ++ la) sc0).size = c := ⟨_, rfl⟩
          rw [hco, hno'] at CO h5
          rw [hco] at hlo
          go_wp2_with fail
          refine CO.out.mono ?_
          rintro e w7 ⟨one, rfl, to, hb7⟩
          have B8 := hide (B7.out.trans (hb7.mono B7.out.size))
          have CD := hide (jcode to hlo (HS.out.below B8.out) (HH.out.below B8.out))
          clear hb7 CO B7 to
          go_wp2_with fail
          refine CD.out.mono ?_
          rintro e w8 ⟨rfl, hb8⟩
          have B9 := hide (B8.out.trans (hb8.mono B8.out.size))
          clear hb8 CD B8
          by_cases o5 : co = 5
          · subst o5
            go_wp2
            go_ret
            exact ⟨rfl, B9.out⟩
          · have o5' : ((co : Int) == 5) = false := by simp; omega
            have hge : nx + 1 ≤ no := by omega
            have v1 : (nx : Int) + 1 ≤ 9223372036854775807 := by omega
            have v2 : (nx : Int) + 1 ≤ (no : Int) := by omega
            go_wp2
            go_ret
            exact ⟨rfl, B9.out⟩
        · have x3' : ((cx : Int) == 3) = false := by simp; omega
          go_wp2
          go_ret
          exact ⟨rfl, B7.out⟩
      · have hat' : ¬ ((nx : Int) < (A : Int)) := by omega
        go_wp2
        go_ret
        exact ⟨rfl, B6.out⟩

end Go.Proofs.YtefmlajndillbabGreatDoor
