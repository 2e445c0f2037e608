/- FaultSteps' walk -/
import Derived.Test.YtbkgphglojjllaaDoorFSame
namespace Go.Proofs.YtbkgphglojjllaaDoor
open Go.RowKit
set_option linter.unusedVariables false

theorem bs_size (l : List UInt8) : (⟨l.toArray⟩ : ByteArray).size = l.length := by rw [Lib.size_eq]
theorem bs_app (a b : List UInt8) : (⟨a.toArray⟩ : ByteArray) ++ ⟨b.toArray⟩ = ⟨(a ++ b).toArray⟩ := by
  apply ByteArray.ext
  rw [ByteArray.data_append]; simp
theorem tot_drop (l : List (List UInt8)) (k : Nat) : tot (l.drop k) ≤ tot l := by
  have := tot_app (l.take k) (l.drop k)
  rw [List.take_append_drop] at this; omega
theorem tot_take_succ (l : List (List UInt8)) (i : Nat) (h : i < l.length) : tot (l.take (i + 1)) = tot (l.take i) + 1 + l[i].length := by
  rw [List.take_succ_eq_append_getElem h, tot_app]; simp only [tot]; omega
theorem tot_get (l : List (List UInt8)) (i : Nat) (h : i < l.length) : l[i].length + 1 ≤ tot l := by
  have e := tot_take_succ l i h
  have := tot_app (l.take (i + 1)) (l.drop (i + 1))
  rw [List.take_append_drop] at this; omega
theorem owns_bel {w w' : World} {B : Nat} {e : TypeId} {size n : Nat} {v : Value} {xs : List Value} (h : w.ownsRow B e size v n xs) (hb : Below w.heap.size w w') : w'.ownsRow B e size v n xs := by
  refine ⟨h.1, ?_⟩
  rcases h.2 with g | ⟨g, cap, cur, h1, h2, h3, h4⟩
  · exact Or.inl g
  · exact Or.inr ⟨g, cap, cur, h1, h2, (hb.block _ (Array.getElem?_eq_some_iff.1 h3).1).trans h3, h4⟩
set_option maxHeartbeats 8000000 in
set_option maxRecDepth 100000 in
theorem fsteps_walk {w : World} {a : Nat → Addr} {va : Value} {xs : List (List UInt8)} {c : Int} (hS : Snt w a) (hH : Hnd w) (hM : Mx w) (hR : TxRd w va xs) (ht : tot xs ≤ 1048576)
    (c0 : -9223372036854775808 ≤ c) (c1 : c ≤ 9223372036854775807) :
    Calls Tryd.prog 8 #[va, .int .i64 c] w fun e w' => e = .returned (.bool true) ∧ Below w.heap.size w w' := by
  have HR0 := hide hR
  obtain ⟨ao, ca, rfl, hac, ham, hacl⟩ := hR
  have RA := hide hacl
  have HS := hide hS
  have HH := hide hH
  have HM := hide hM
  have hxl := tot_len xs
  have h2 : -11 < c.tmod 11 := by
    have := Int.tmod_lt_of_pos (-c) (b := 11) (by decide)
    rw [Int.neg_tmod] at this
    omega
  have h3 : c.tmod 11 < 11 := Int.tmod_lt_of_pos c (by decide)
  have hcd := cdM_of c
  have hlt := cdM_lt c
  have hn11 : ¬ ((11 : Int) = 0) := by decide
  generalize cdM c = m at *
  obtain ⟨q, hq⟩ : ∃ q, c.tmod 11 = q := ⟨_, rfl⟩
  rw [hq] at h2 h3 hcd
  have wr1 : IntKind.i64.wrap q = q := by simp only [IntKind.wrap_i64]; omega
  clear hS hH hM hacl hac ham
  go_enter Tryd.func8, Tryd.ntmps8
  go_wp2_with fail
  refine (lives13 HS.out HH.out).mono ?_
  rintro e w1 ⟨rfl, hb1⟩
  have K1 := hide hb1
  clear hb1
  go_wp2_with fail
  go_loopw [5, 6] (fun n p wr => ∃ (i : Nat), p = .int .i64 i ∧ i ≤ xs.length ∧ n = .int .i64 (tot (xs.take i) : Nat) ∧ wr = w1) (fun _ p _ => xs.length - (intOf p).toNat)
  case atStart => exact ⟨0, rfl, by omega, by simp [tot], rfl⟩
  case round =>
    obtain ⟨i, rfl, hi, rfl, rfl⟩ := hrel
    by_cases hil : i < xs.length
    · obtain ⟨ga, oa, rfl, hga, hin⟩ := RA.out (by omega)
      have q1 : (i : Int) < (xs.length : Int) := by omega
      have q0 : (0 : Int) ≤ (i : Int) := by omega
      have qz := hin i hil
      obtain ⟨t, ht2⟩ : ∃ t : ByteArray, tV xs[i] = .string t := ⟨_, rfl⟩
      have hsz : t.size = xs[i].length := by
        have : (⟨(xs[i]).toArray⟩ : ByteArray) = t := by
          unfold tV at ht2; injection ht2
        rw [← this, bs_size]
      have hg := tot_get xs i hil
      have hts := tot_take_succ xs i hil
      have htk : tot (xs.take (i + 1)) ≤ tot xs := by
        have := tot_app (xs.take (i + 1)) (xs.drop (i + 1))
        rw [List.take_append_drop] at this; omega
      rw [ht2] at qz
      have q1a := (K1.out.cell (p := ⟨ga, oa + i, none⟩) hga).trans qz
      have w2' : IntKind.i64.wrap ((i : Int) + 1) = (i : Int) + 1 := by rw [IntKind.wrap_i64]; omega
      obtain ⟨n0, hn0⟩ : ∃ n0, tot (xs.take i) = n0 := ⟨_, rfl⟩
      rw [hn0] at hts ⊢
      have w3 : IntKind.i64.wrap ((n0 : Int) + 1) = (n0 : Int) + 1 := by rw [IntKind.wrap_i64]; omega
      have w4 : IntKind.i64.wrap ((n0 : Int) + 1 + (t.size : Int)) = (n0 : Int) + 1 + (t.size : Int) := by rw [IntKind.wrap_i64]; omega
      have HT := hide (show ((n0 : Int) + 1 + (t.size : Int)) = ((tot (xs.take (i + 1)) : Nat) : Int) from by rw [hts, hsz]; push_cast; omega)
      clear hin qz ht2 hg hts htk hsz hn0
      go_wp2
      go_roundw
      case rel => exact ⟨i + 1, by simp, by omega, by rw [HT.out], trivial⟩
      case measure => simp [intOf]; omega
    · obtain rfl : i = xs.length := by omega
      have q1 : ¬ ((xs.length : Int) < (xs.length : Int)) := by omega
      rw [List.take_length]
      obtain ⟨n0, hn0⟩ : ∃ n0, tot xs = n0 := ⟨_, rfl⟩
      rw [hn0] at ht hxl ⊢
      by_cases hbig : 10000 < n0
      · have q2 : (10000 : Int) < (n0 : Int) := by omega
        go_wp2
        go_ret
        exact ⟨rfl, K1.out⟩
      · have q2 : ¬ ((10000 : Int) < (n0 : Int)) := by omega
        rcases hcd with ⟨n1, n2⟩ | ⟨n1, n2⟩
        · have wr2 : IntKind.i64.wrap (1 + q) = (m : Int) + 1 := by simp only [IntKind.wrap_i64]; omega
          have n3 : ¬ ((m : Int) + 1 < 1) := by omega
          clear h2 h3 n1 n2
          go_wp2_with fail
          refine (fnew_some (HS.out.below K1.out) hlt).mono ?_
          rintro e w2 ⟨g2, hg2, rfl, F2, hb2⟩
          have K2 := hide (K1.out.trans (hb2.mono K1.out.size))
          have HF2 := hide F2
          clear hb2 F2 hg2
          have wL : IntKind.i64.wrap ((xs.length : Int) - 1) = (xs.length : Int) - 1 := by rw [IntKind.wrap_i64]; omega
          go_wp2_with fail
          go_loopw [8, 9] (fun er p wr => ∃ (k g : Nat), k ≤ xs.length ∧ p = .int .i64 ((k : Int) - 1) ∧ er = .iface 41 (.pointer (some ⟨g, 0, none⟩)) ∧ Hid (FltAt wr g (.iface 95 (.pointer (some (a m)))) 5 ⟨(pth (xs.drop k)).toArray⟩) ∧ Hid (Below w.heap.size w wr)) (fun _ p _ => (intOf p + 1).toNat)
          case atStart => exact ⟨xs.length, g2, Nat.le_refl _, rfl, rfl, hide (by rw [List.drop_length]; exact HF2.out), K2⟩
          case round =>
            obtain ⟨k, g, hk, rfl, rfl, HF, HB⟩ := hrel
            rcases k with _ | j
            · rw [show (((0 : Nat) : Int) - 1) = -1 from by omega]
              rw [List.drop_zero] at HF
              obtain ⟨P, hP⟩ : ∃ P : ByteArray, ⟨(pth xs).toArray⟩ = P := ⟨_, rfl⟩
              have hPl : P.data.toList = pth xs := by rw [← hP]
              have hPs : P.size ≤ 1000000 := by
                have := pth_len xs
                rw [← hP, bs_size]; omega
              rw [hP] at HF
              have E := hide (er_flt (HS.out.below HB.out) (HH.out.below HB.out) (by omega : m < 12) HF.out)
              obtain ⟨u, x, r, he, h1, h2, h3⟩ := E.out
              have HA := hide (fun (w3 : World) (hb : Below wr.heap.size wr w3) => fat_any (h2.below hb) (h3.below hb))
              have HP := hide (fpath_any h2 h3)
              have HC := hide (fun (w3 : World) (hb : Below wr.heap.size wr w3) => fcode_any ((HS.out.below HB.out).below hb) (h1.below hb))
              simp only [leastB_dec hlt, ← he] at HC
              simp only [atV, ← he] at HA
              simp only [pathV, ← he] at HP
              have hst : stp P.data.toList [] = some (xs ++ [[101, 110, 100]]) := by rw [hPl, stp_pth]; simp
              have HT := hide (fun (w3 : World) => steps_any (w := w3) hPs hst)
              clear he h1 h2 h3 E HF hst hP hPl hPs
              go_wp2_with fail
              refine HP.out.mono ?_
              rintro e w3 ⟨rfl, hb3⟩
              have C3 := hide hb3
              clear hb3 HP
              go_wp2_with fail
              refine (HA.out _ C3.out).mono ?_
              rintro e w4 ⟨rfl, hb4⟩
              have C4 := hide (C3.out.trans (hb4.mono C3.out.size))
              clear hb4 HA C3
              go_wp2_with fail
              refine (HT.out _).mono ?_
              rintro e w5 ⟨v5, rfl, ho5, hb5⟩
              have C5 := hide (C4.out.trans (hb5.mono C4.out.size))
              have hle : (xs ++ [[101, 110, 100]]).length = xs.length + 1 := by simp
              rw [hle] at ho5
              rcases ho5.2 with ⟨_, h0⟩ | ⟨gs, cap, cur, rfl, hgs, _, hcap, hmx, _⟩
              · omega
              have HO5 := hide ho5
              clear ho5 hb5 HT C4 hle
              unfold maxLen at hmx
              have v1 : IntKind.i64.wrap ((xs.length : Int) + 1) = (xs.length : Int) + 1 := by rw [IntKind.wrap_i64]; omega
              have v2 : (0 : Int) ≤ (xs.length : Int) := by omega
              have v3 : (xs.length : Int) < (xs.length : Int) + 1 := by omega
              have v4 : (xs.length : Int) ≤ (cap : Int) := by omega
              have v5 : xs.length ≤ cap := by omega
              go_wp2_with fail
              refine (HC.out _ C5.out).mono ?_
              rintro e w6 ⟨rfl, hb6⟩
              have HO6 := hide (owns_bel HO5.out hb6)
              have C6 := hide (C5.out.trans (hb6.mono C5.out.size))
              have K6 := hide (HB.out.trans (C6.out.mono HB.out.size))
              have ce : w6.cell? ⟨gs, xs.length, none⟩ = some (.string ⟨#[101, 110, 100]⟩) := by
                rw [HO6.out.cellAt xs.length (by omega)]
                simp [tV]
              have HX := hide (show TxRd w6 (.slice (some ⟨gs, 0, none⟩) xs.length cap) xs from ⟨some ⟨gs, 0, none⟩, cap, rfl, by omega, by unfold maxLen; omega, fun _ => ⟨gs, 0, rfl, (HO6.out.lt gs rfl).2, fun i hi => by
                rw [Nat.zero_add, HO6.out.cellAt i (by omega), List.map_append, List.getElem?_append_left (by simpa using hi), List.getElem?_map, List.getElem?_eq_getElem hi]
                rfl⟩⟩)
              have HY := hide (HR0.out.below K6.out)
              clear hb6 HO5 HC C5 HO6
              go_wp2_with fail
              refine (sameTexts_any HX.out HY.out).mono ?_
              rintro e w7 ⟨rfl, hb7⟩
              have K7 := hide (K6.out.trans (hb7.mono K6.out.size))
              clear hb7 HX HY
              go_wp2
              go_ret
              exact ⟨rfl, K7.out⟩
            · rw [show (((j + 1 : Nat) : Int) - 1) = (j : Int) from by omega]
              obtain ⟨ga, oa, rfl, hga, hin⟩ := RA.out (by omega)
              have hjl : j < xs.length := by omega
              have y0 : (0 : Int) ≤ (j : Int) := by omega
              have y1 : (j : Int) < (xs.length : Int) := by omega
              have qz := hin j hjl
              obtain ⟨t, ht2⟩ : ∃ t : ByteArray, ⟨(xs[j]).toArray⟩ = t := ⟨_, rfl⟩
              have htl : t.data.toList = xs[j] := by rw [← ht2]
              have hgt := tot_get xs j hjl
              have hsz : t.size ≤ 1048576 := by rw [← ht2, bs_size]; omega
              rw [show tV xs[j] = .string t from by rw [← ht2]; rfl] at qz
              have q1a := (HB.out.cell (p := ⟨ga, oa + j, none⟩) hga).trans qz
              have w5 : IntKind.i64.wrap ((j : Int) - 1) = (j : Int) - 1 := by rw [IntKind.wrap_i64]; omega
              have E := hide (er_flt (HS.out.below HB.out) (HH.out.below HB.out) (by omega : m < 12) HF.out)
              have HN := hide (show (⟨(wrt t.data.toList).toArray⟩ : ByteArray) ++ oS (some ((5 : Int), (⟨(pth (xs.drop (j + 1))).toArray⟩ : ByteArray))) = ⟨(pth (xs.drop j)).toArray⟩ from by
                rw [htl]
                show (⟨(wrt xs[j]).toArray⟩ : ByteArray) ++ ⟨(pth (xs.drop (j + 1))).toArray⟩ = _
                rw [bs_app, ← pth_cons, List.drop_eq_getElem_cons hjl])
              have HL := hide (show (⟨(wrt t.data.toList).toArray⟩ : ByteArray).size + (oS (some ((5 : Int), (⟨(pth (xs.drop (j + 1))).toArray⟩ : ByteArray)))).size ≤ 9223372036854775807 from by
                show (⟨(wrt t.data.toList).toArray⟩ : ByteArray).size + (⟨(pth (xs.drop (j + 1))).toArray⟩ : ByteArray).size ≤ 9223372036854775807
                rw [bs_size, bs_size, htl]
                have e1 := wrt_len xs[j]
                have e2 := pth_len (xs.drop (j + 1))
                have e3 := tot_drop xs (j + 1)
                omega)
              have HW := hide (wrIs_any (HM.out.below HB.out) (by omega : t.size < 2147483640))
              clear hin qz ht2 htl hgt hsz
              go_wp2_with fail
              refine (fin_any (HS.out.below HB.out) E.out HW.out HL.out).mono ?_
              rintro e w3 ⟨g3, hg3, rfl, F3, hb3⟩
              rw [bareN_dec (by omega), HN.out] at F3
              have HF3 := hide F3
              have K3 := hide (HB.out.trans (hb3.mono HB.out.size))
              clear hb3 F3 hg3 E HW HL HN
              go_wp2
              go_roundw
              case rel => exact ⟨j, g3, by omega, rfl, rfl, HF3, K3⟩
              case measure => simp [intOf]
        · have wr2 : IntKind.i64.wrap (1 + q) = 1 + q := by simp only [IntKind.wrap_i64]; omega
          have wr3 : IntKind.i64.wrap (1 + q + 11) = (m : Int) + 1 := by simp only [IntKind.wrap_i64]; omega
          clear h2 h3 n2
          go_wp2_with fail
          refine (fnew_some (HS.out.below K1.out) hlt).mono ?_
          rintro e w2 ⟨g2, hg2, rfl, F2, hb2⟩
          have K2 := hide (K1.out.trans (hb2.mono K1.out.size))
          have HF2 := hide F2
          clear hb2 F2 hg2
          have wL : IntKind.i64.wrap ((xs.length : Int) - 1) = (xs.length : Int) - 1 := by rw [IntKind.wrap_i64]; omega
          go_wp2_with fail
          go_loopw [8, 9] (fun er p wr => ∃ (k g : Nat), k ≤ xs.length ∧ p = .int .i64 ((k : Int) - 1) ∧ er = .iface 41 (.pointer (some ⟨g, 0, none⟩)) ∧ Hid (FltAt wr g (.iface 95 (.pointer (some (a m)))) 5 ⟨(pth (xs.drop k)).toArray⟩) ∧ Hid (Below w.heap.size w wr)) (fun _ p _ => (intOf p + 1).toNat)
          case atStart => exact ⟨xs.length, g2, Nat.le_refl _, rfl, rfl, hide (by rw [List.drop_length]; exact HF2.out), K2⟩
          case round =>
            obtain ⟨k, g, hk, rfl, rfl, HF, HB⟩ := hrel
            rcases k with _ | j
            · rw [show (((0 : Nat) : Int) - 1) = -1 from by omega]
              rw [List.drop_zero] at HF
              obtain ⟨P, hP⟩ : ∃ P : ByteArray, ⟨(pth xs).toArray⟩ = P := ⟨_, rfl⟩
              have hPl : P.data.toList = pth xs := by rw [← hP]
              have hPs : P.size ≤ 1000000 := by
                have := pth_len xs
                rw [← hP, bs_size]; omega
              rw [hP] at HF
              have E := hide (er_flt (HS.out.below HB.out) (HH.out.below HB.out) (by omega : m < 12) HF.out)
              obtain ⟨u, x, r, he, h1, h2, h3⟩ := E.out
              have HA := hide (fun (w3 : World) (hb : Below wr.heap.size wr w3) => fat_any (h2.below hb) (h3.below hb))
              have HP := hide (fpath_any h2 h3)
              have HC := hide (fun (w3 : World) (hb : Below wr.heap.size wr w3) => fcode_any ((HS.out.below HB.out).below hb) (h1.below hb))
              simp only [leastB_dec hlt, ← he] at HC
              simp only [atV, ← he] at HA
              simp only [pathV, ← he] at HP
              have hst : stp P.data.toList [] = some (xs ++ [[101, 110, 100]]) := by rw [hPl, stp_pth]; simp
              have HT := hide (fun (w3 : World) => steps_any (w := w3) hPs hst)
              clear he h1 h2 h3 E HF hst hP hPl hPs
              go_wp2_with fail
              refine HP.out.mono ?_
              rintro e w3 ⟨rfl, hb3⟩
              have C3 := hide hb3
              clear hb3 HP
              go_wp2_with fail
              refine (HA.out _ C3.out).mono ?_
              rintro e w4 ⟨rfl, hb4⟩
              have C4 := hide (C3.out.trans (hb4.mono C3.out.size))
              clear hb4 HA C3
              go_wp2_with fail
              refine (HT.out _).mono ?_
              rintro e w5 ⟨v5, rfl, ho5, hb5⟩
              have C5 := hide (C4.out.trans (hb5.mono C4.out.size))
              have hle : (xs ++ [[101, 110, 100]]).length = xs.length + 1 := by simp
              rw [hle] at ho5
              rcases ho5.2 with ⟨_, h0⟩ | ⟨gs, cap, cur, rfl, hgs, _, hcap, hmx, _⟩
              · omega
              have HO5 := hide ho5
              clear ho5 hb5 HT C4 hle
              unfold maxLen at hmx
              have v1 : IntKind.i64.wrap ((xs.length : Int) + 1) = (xs.length : Int) + 1 := by rw [IntKind.wrap_i64]; omega
              have v2 : (0 : Int) ≤ (xs.length : Int) := by omega
              have v3 : (xs.length : Int) < (xs.length : Int) + 1 := by omega
              have v4 : (xs.length : Int) ≤ (cap : Int) := by omega
              have v5 : xs.length ≤ cap := by omega
              go_wp2_with fail
              refine (HC.out _ C5.out).mono ?_
              rintro e w6 ⟨rfl, hb6⟩
              have HO6 := hide (owns_bel HO5.out hb6)
              have C6 := hide (C5.out.trans (hb6.mono C5.out.size))
              have K6 := hide (HB.out.trans (C6.out.mono HB.out.size))
              have ce : w6.cell? ⟨gs, xs.length, none⟩ = some (.string ⟨#[101, 110, 100]⟩) := by
                rw [HO6.out.cellAt xs.length (by omega)]
                simp [tV]
              have HX := hide (show TxRd w6 (.slice (some ⟨gs, 0, none⟩) xs.length cap) xs from ⟨some ⟨gs, 0, none⟩, cap, rfl, by omega, by unfold maxLen; omega, fun _ => ⟨gs, 0, rfl, (HO6.out.lt gs rfl).2, fun i hi => by
                rw [Nat.zero_add, HO6.out.cellAt i (by omega), List.map_append, List.getElem?_append_left (by simpa using hi), List.getElem?_map, List.getElem?_eq_getElem hi]
                rfl⟩⟩)
              have HY := hide (HR0.out.below K6.out)
              clear hb6 HO5 HC C5 HO6
              go_wp2_with fail
              refine (sameTexts_any HX.out HY.out).mono ?_
              rintro e w7 ⟨rfl, hb7⟩
              have K7 := hide (K6.out.trans (hb7.mono K6.out.size))
              clear hb7 HX HY
              go_wp2
              go_ret
              exact ⟨rfl, K7.out⟩
            · rw [show (((j + 1 : Nat) : Int) - 1) = (j : Int) from by omega]
              obtain ⟨ga, oa, rfl, hga, hin⟩ := RA.out (by omega)
              have hjl : j < xs.length := by omega
              have y0 : (0 : Int) ≤ (j : Int) := by omega
              have y1 : (j : Int) < (xs.length : Int) := by omega
              have qz := hin j hjl
              obtain ⟨t, ht2⟩ : ∃ t : ByteArray, ⟨(xs[j]).toArray⟩ = t := ⟨_, rfl⟩
              have htl : t.data.toList = xs[j] := by rw [← ht2]
              have hgt := tot_get xs j hjl
              have hsz : t.size ≤ 1048576 := by rw [← ht2, bs_size]; omega
              rw [show tV xs[j] = .string t from by rw [← ht2]; rfl] at qz
              have q1a := (HB.out.cell (p := ⟨ga, oa + j, none⟩) hga).trans qz
              have w5 : IntKind.i64.wrap ((j : Int) - 1) = (j : Int) - 1 := by rw [IntKind.wrap_i64]; omega
              have E := hide (er_flt (HS.out.below HB.out) (HH.out.below HB.out) (by omega : m < 12) HF.out)
              have HN := hide (show (⟨(wrt t.data.toList).toArray⟩ : ByteArray) ++ oS (some ((5 : Int), (⟨(pth (xs.drop (j + 1))).toArray⟩ : ByteArray))) = ⟨(pth (xs.drop j)).toArray⟩ from by
                rw [htl]
                show (⟨(wrt xs[j]).toArray⟩ : ByteArray) ++ ⟨(pth (xs.drop (j + 1))).toArray⟩ = _
                rw [bs_app, ← pth_cons, List.drop_eq_getElem_cons hjl])
              have HL := hide (show (⟨(wrt t.data.toList).toArray⟩ : ByteArray).size + (oS (some ((5 : Int), (⟨(pth (xs.drop (j + 1))).toArray⟩ : ByteArray)))).size ≤ 9223372036854775807 from by
                show (⟨(wrt t.data.toList).toArray⟩ : ByteArray).size + (⟨(pth (xs.drop (j + 1))).toArray⟩ : ByteArray).size ≤ 9223372036854775807
                rw [bs_size, bs_size, htl]
                have e1 := wrt_len xs[j]
                have e2 := pth_len (xs.drop (j + 1))
                have e3 := tot_drop xs (j + 1)
                omega)
              have HW := hide (wrIs_any (HM.out.below HB.out) (by omega : t.size < 2147483640))
              clear hin qz ht2 htl hgt hsz
              go_wp2_with fail
              refine (fin_any (HS.out.below HB.out) E.out HW.out HL.out).mono ?_
              rintro e w3 ⟨g3, hg3, rfl, F3, hb3⟩
              rw [bareN_dec (by omega), HN.out] at F3
              have HF3 := hide F3
              have K3 := hide (HB.out.trans (hb3.mono HB.out.size))
              clear hb3 F3 hg3 E HW HL HN
              go_wp2
              go_roundw
              case rel => exact ⟨j, g3, by omega, rfl, rfl, HF3, K3⟩
              case measure => simp [intOf]

end Go.Proofs.YtbkgphglojjllaaDoor
