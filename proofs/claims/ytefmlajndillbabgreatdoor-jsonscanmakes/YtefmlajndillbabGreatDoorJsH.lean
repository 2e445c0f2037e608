/- layer 16: what the laws ask of an error: Code, At, Path, IsAt, same; read -/
import Derived.Test.YtefmlajndillbabGreatDoorJsY
namespace Go.Proofs.YtefmlajndillbabGreatDoor
open Go.RowKit
set_option linter.unusedVariables false

theorem Tl.er {w : World} {a : Nat → Addr} {L n : Nat} {k : Int} {v : Value} (h : Tl w a L n k v) (hn : n ≠ 0) (hS : Snt w a) (hH : Hnd w) :
    ∃ u x r, v = .iface u x ∧ ErrIs w a u x (fun i => decide (i = n - 1)) ∧ AsIs w u x r ∧ Told w r (some (k, ⟨#[]⟩)) := by
  rcases h with ⟨h, _⟩ | ⟨m, g, h1, h2, h3, h4, h5⟩
  · exact absurd h hn
  · subst h1
    have := er_flt hS hH (m := m) (by omega) h5
    rw [h4]
    exact this
theorem jcode {w : World} {a : Nat → Addr} {L n : Nat} {k : Int} {v : Value} (h : Tl w a L n k v) (hn : n ≤ 11) (hS : Snt w a) (hH : Hnd w) :
    Calls Tryz.prog 11 #[v] w fun e w' => e = .returned (.int .i64 n) ∧ Below w.heap.size w w' := by
  by_cases h0 : n = 0
  · rcases h with ⟨_, rfl⟩ | ⟨m, g, h1, _⟩
    · subst h0
      exact hcode_nil.mono fun e w' ⟨h1, h2⟩ => ⟨h1, h2 ▸ Below.refl _ _⟩
    · omega
  · obtain ⟨u, x, r, rfl, h1, h2, h3⟩ := h.er h0 hS hH
    refine (hcode_any hS h1).mono ?_
    rintro e w' ⟨rfl, hb⟩
    refine ⟨?_, hb⟩
    rw [hcB_dec, if_pos (by omega), show ((n - 1 : Nat) : Int) + 1 = n by omega]
theorem as_nil {w : World} {x : Value} : Calls Tryz.prog 20 #[.nilIface, x] w fun e w' => e = .returned (.bool false) ∧ w' = w := by
  go_enter Tryz.func20, Tryz.ntmps20
  go_wp2
  go_ret
  exact ⟨rfl, rfl⟩
theorem hat_nil {w : World} : Calls Tryz.prog 8 #[.nilIface] w fun e w' => e = .returned (.tuple #[.int .i64 0, .bool false]) ∧ Below w.heap.size w w' := by
  have CA := hide (as_nil (w := w.alloc (.cells #[.pointer none] 50)) (x := .iface 52 (.pointer (some ⟨w.heap.size, 0, none⟩))))
  have HB := hide ((Below.refl w.heap.size w).alloc (Nat.le_refl _) (.cells #[.pointer none] 50))
  go_enter Tryz.func8, Tryz.ntmps8
  go_wp2_with fail
  refine CA.out.mono ?_
  rintro e w1 ⟨rfl, rfl⟩
  go_wp2
  go_ret2
  exact ⟨rfl, HB.out⟩
theorem jat {w : World} {a : Nat → Addr} {L n : Nat} {k : Int} {v : Value} (h : Tl w a L n k v) (hn : n ≤ 11) (hS : Snt w a) (hH : Hnd w) :
    Calls Tryz.prog 8 #[v] w fun e w' => e = .returned (.tuple #[.int .i64 (if n = 0 then 0 else k), .bool (n != 0)]) ∧ Below w.heap.size w w' := by
  by_cases h0 : n = 0
  · rcases h with ⟨_, rfl⟩ | ⟨m, g, h1, _⟩
    · subst h0
      exact hat_nil
    · omega
  · obtain ⟨u, x, r, rfl, h1, h2, h3⟩ := h.er h0 hS hH
    refine (hat_any h2 h3).mono ?_
    rintro e w' ⟨rfl, hb⟩
    refine ⟨?_, hb⟩
    rw [if_neg h0, show (n != 0) = true by simpa using h0]
    rfl
theorem jisat {w : World} {a : Nat → Addr} {L n : Nat} {k : Int} {v : Value} (c : Nat) (z : Int) (h : Tl w a L n k v) (hn : n ≤ 11) (hc : c ≠ 0) (hc2 : c ≤ 11) (hS : Snt w a) (hH : Hnd w) :
    Calls Tryz.prog 9 #[v, .int .i64 c, .int .i64 z] w fun e w' => e = .returned (.bool (decide (n = c) && decide (k = z))) ∧ Below w.heap.size w w' := by
  have CC := hide (jcode h hn hS hH)
  have hc0 : ¬ ((c : Int) = 0) := by omega
  by_cases hnc : n = c
  · subst hnc
    obtain ⟨u, x, r, rfl, h1, h2, h3⟩ := h.er hc hS hH
    have HA := hide h2
    have HT := hide h3
    clear h h1 h2 h3 hS hH
    go_enter Tryz.func9, Tryz.ntmps9
    go_wp2_with fail
    refine CC.out.mono ?_
    rintro e w1 ⟨rfl, hb1⟩
    have HB1 := hide hb1
    have CAt := hide (hat_any (HA.out.below hb1) (HT.out.below hb1))
    clear hb1 CC
    go_wp2_with fail
    refine CAt.out.mono ?_
    rintro e w2 ⟨rfl, hb2⟩
    have HB2 := hide (HB1.out.trans (hb2.mono HB1.out.size))
    have CP := hide (hpath_any (HA.out.below HB2.out) (HT.out.below HB2.out))
    clear hb2 CAt HB1
    simp only [atV]
    go_wp2_with fail
    refine CP.out.mono ?_
    rintro e w3 ⟨rfl, hb3⟩
    have HB3 := hide (HB2.out.trans (hb3.mono HB2.out.size))
    clear hb3 CP HB2
    simp only [pathV]
    by_cases hk : k = z
    · subst hk
      go_wp2
      go_ret
      exact ⟨by simp, HB3.out⟩
    · go_wp2
      go_ret
      exact ⟨by simp [hk], HB3.out⟩
  · have hnc' : ¬ ((n : Int) = (c : Int)) := by omega
    have hnc2 : ((n : Int) != (c : Int)) = true := by simp; omega
    have hnc3 : ((c : Int) == 0) = false := by simpa using hc
    clear h hS hH
    go_enter Tryz.func9, Tryz.ntmps9
    go_wp2_with fail
    refine CC.out.mono ?_
    rintro e w1 ⟨rfl, hb1⟩
    have HB1 := hide hb1
    clear hb1 CC
    go_wp2
    go_ret
    exact ⟨by simp [hnc], HB1.out⟩

theorem codeC_le {s : Sc} (h : GoodS s) : codeC s ≤ 11 := by
  unfold codeC
  rcases h.bd with e | e | e <;> rw [e] <;> (repeat' split) <;> omega
set_option maxRecDepth 100000 in
set_option maxHeartbeats 4000000 in
theorem jread {w : World} {a : Nat → Addr} {es : List Int} {ch : ByteArray} (hS : Snt w a) (hb : uByt es) (hch : ch = strOfNums es) (hl : es.length ≤ 9223372036854775807) :
    Calls Tryz.prog 7 #[.string ch] w fun e w' => ∃ v, e = .returned (.tuple #[v, .int .i64 (writeB es sc0).size, .int .i64 ((writeB es sc0).st.opn.length : Nat)]) ∧ Tl w' a w.heap.size (codeC (writeB es sc0)) (writeB es sc0).size v ∧ Below w.heap.size w w' := by
  have CN := hide (jNew (w := w) (a := a))
  have HS := hide (sntB_of hS)
  have HB := hide hb
  have HC := hide hch
  have HL := hide hl
  clear hS hb hch hl
  go_enter Tryz.func7, Tryz.ntmps7
  go_wp2_with fail
  refine CN.out.mono ?_
  rintro e w1 ⟨rfl, hp, hb1⟩
  have HP := hide hp
  have B1 := hide hb1
  have CW := hide (jWrite hp (HS.out.below hb1) HB.out HC.out (by have := HL.out; simp [sc0]; omega))
  clear hp hb1 CN
  go_wp2_with fail
  refine CW.out.mono ?_
  rintro e w2 ⟨v, ov2, rfl, hp2, ht2, hf2⟩
  have HP2 := hide hp2
  have B2 := hide (B1.out.trans (HP.out.sc.toBelow hf2))
  have S2 := hide (HS.out.below B2.out)
  have hgd := hp2.good
  have HT2 := hide (ht2.lower (L' := w.heap.size) B1.out.size)
  clear hp2 ht2 hf2 CW HP B1
  obtain ⟨X, hX⟩ : ∃ X, writeB es sc0 = X := ⟨_, rfl⟩
  rw [hX] at HP2 HT2 hgd
  have HX := hide hX
  clear hX
  by_cases hbad : X.st.bad = 0
  · have hv : v = .nilIface := by
      rcases HT2.out with ⟨_, e⟩ | ⟨m, g, e, _⟩
      · exact e
      · omega
    subst hv
    have CC := hide (jClose HP2.out S2.out.here)
    clear HT2 hgd
    go_wp2_with fail
    refine CC.out.mono ?_
    rintro e w3 ⟨v3, rfl, ht3, hb3⟩
    have HT3 := hide (ht3.lower (L' := w.heap.size) B2.out.size)
    have HP3 := hide (HP2.out.below hb3)
    have B3 := hide (B2.out.trans (hb3.mono B2.out.size))
    have CL := hide (jLen HP3.out.sc)
    have CD := hide (jDepth HP3.out.sc)
    clear ht3 hb3 CC B2
    go_wp2_with fail
    refine CL.out.mono ?_
    rintro e w4 ⟨rfl, rfl⟩
    go_wp2_with fail
    refine CD.out.mono ?_
    rintro e w4 ⟨rfl, rfl⟩
    go_wp2
    go_ret3
    rw [HX.out]
    exact ⟨v3, rfl, HT3.out, B3.out⟩
  · obtain ⟨u, x, hv⟩ : ∃ u x, v = .iface u x := by
      rcases HT2.out with ⟨e, _⟩ | ⟨m, g, _, _, _, e, _⟩
      · exact absurd e hbad
      · exact ⟨_, _, e⟩
    subst hv
    have hcc : codeC X = X.st.bad := by simp [codeC, hbad]
    have CL := hide (jLen HP2.out.sc)
    have CD := hide (jDepth HP2.out.sc)
    have HCC := hide hcc
    clear hgd hcc
    go_wp2_with fail
    refine CL.out.mono ?_
    rintro e w4 ⟨rfl, rfl⟩
    go_wp2_with fail
    refine CD.out.mono ?_
    rintro e w4 ⟨rfl, rfl⟩
    go_wp2
    go_ret3
    rw [HX.out, HCC.out]
    exact ⟨_, rfl, HT2.out, B2.out⟩

end Go.Proofs.YtefmlajndillbabGreatDoor
