/- JsonscanGoes: the walk -/
import Derived.Test.YtefmlajndillbaaDoorJsGw
namespace Go.Proofs.YtefmlajndillbaaDoor
open Go.RowKit
set_option linter.unusedVariables false

theorem uByt_takeG {es : List Int} (h : uByt es) (t : Nat) : uByt (es.take t) := fun x hx => h x (List.mem_of_mem_take hx)
theorem codeC_zero {s : Sc} (h : codeC s = 0) : s.st.bad = 0 := by
  unfold codeC at h
  split at h
  · assumption
  · exact absurd h (by assumption)
theorem prefix_bad {es : List Int} {s : Sc} (h : (writeB es s).st.bad = 0) (k : Nat) : (writeB (es.take k) s).st.bad = 0 := by
  rcases Nat.eq_zero_or_pos (writeB (es.take k) s).st.bad with g | g
  · exact g
  · have e := writeB_append (es.take k) (es.drop k) s
    rw [List.take_append_drop] at e
    rw [e, writeB_bad (by omega)] at h
    exact h
set_option maxRecDepth 100000 in
set_option maxHeartbeats 8000000 in
theorem jgoes {w : World} {a : Nat → Addr} {es : List Int} {ch : ByteArray} {cut : Int} (hS : Snt w a) (hH : Hnd w) (hb : uByt es) (hch : ch = strOfNums es) (hl : es.length ≤ 140737488355328) (hc0 : 0 ≤ cut) (hc1 : cut < 65536) :
    Calls Tryd.prog 4 #[.string ch, .int .u16 cut] w fun e w' => e = .returned (.bool true) ∧ Below w.heap.size w w' := by
  have C0 := hide (jlives hS hH)
  have HS := hide hS
  have HH := hide hH
  have HBy := hide hb
  have hcz : ch.size = es.length := by rw [hch, strOfNums_size]
  obtain ⟨L, hL⟩ : ∃ L, es.length = L := ⟨_, rfl⟩
  rw [hL] at hcz
  have HC := hide hch
  have HL := hide hL
  obtain ⟨S, hSS⟩ : ∃ S, writeB es sc0 = S := ⟨_, rfl⟩
  have HSS := hide hSS
  have GS := good_write good0 es hb
  rw [hSS] at GS
  have HGS := hide GS
  have hsz := write_size es sc0
  rw [hSS, hL, show sc0.size = 0 from rfl] at hsz
  have HSZ := hide hsz
  have HG := hide (write_good es hb sc0 good0 rfl)
  have hLb : L ≤ 140737488355328 := by omega
  clear hS hH hb hch hL hSS GS hsz hl
  by_cases big : 1000 < L
  · have big' : (1000 : Int) < (L : Int) := by omega
    go_enter Tryd.func4, Tryd.ntmps4
    go_wp2_with fail
    refine C0.out.mono ?_
    rintro e w0 ⟨rfl, hb0⟩
    have B1 := hide hb0
    clear hb0 C0
    go_wp2
    go_ret
    exact ⟨rfl, B1.out⟩
  · have big' : ¬ ((1000 : Int) < (L : Int)) := by omega
    go_enter Tryd.func4, Tryd.ntmps4
    go_wp2_with fail
    refine C0.out.mono ?_
    rintro e w0 ⟨rfl, hb0⟩
    have B1 := hide hb0
    have CR := hide (jread (es := es) (ch := ch) (HS.out.below hb0) HBy.out HC.out (by have := HL.out; omega))
    rw [HSS.out] at CR
    clear hb0 C0
    go_wp2_with fail
    refine CR.out.mono ?_
    rintro e wa ⟨v0, rfl, ht0, hba⟩
    have T0 := hide ht0
    have B2 := hide (B1.out.trans (hba.mono B1.out.size))
    clear ht0 hba CR B1
    by_cases hcc : codeC S = 0
    · have hv := T0.out.none hcc
      subst hv
      have hbad := codeC_zero hcc
      have hSz : S.size = L := by have := HSZ.out.2.2 hbad; omega
      obtain ⟨k, hk⟩ : ∃ k : Nat, cut % ((L : Int) + 1) = (k : Int) := ⟨(cut % ((L : Int) + 1)).toNat, by have := Int.emod_nonneg cut (show (L : Int) + 1 ≠ 0 by omega); omega⟩
      have hkL : k ≤ L := by have := Int.emod_lt_of_pos cut (show (0 : Int) < (L : Int) + 1 by omega); omega
      have hcut : ch.extract 0 k = strOfNums (es.take k) := by rw [HC.out, utxt_cut]; simp
      have hpb := prefix_bad (es := es) (s := sc0) (by rw [HSS.out]; exact hbad) k
      have hps := (write_size (es.take k) sc0).2.2 hpb
      have hln : (es.take k).length = k := by have := HL.out; simp; omega
      rw [hln, show sc0.size = 0 from rfl] at hps
      have CR := hide (jread (es := es.take k) (ch := ch.extract 0 k) (HS.out.below B2.out) (uByt_takeG HBy.out k) hcut (by omega))
      rw [hps, show (0 + k : Nat) = k by omega] at CR
      have HLv := hide (liv_write liv0 (es.take k) (uByt_takeG HBy.out k) hpb)
      have HCt := hide (And.intro hcut hln)
      have p1 : (0 : Int) ≤ (k : Int) := by omega
      have p2 : (k : Int) ≤ (L : Int) := by omega
      have p3 : ¬ ((L : Int) + 1 = 0) := by omega
      rw [hSz]
      clear hpb hps hln hcut hbad hSz T0
      go_wp2_with fail
      refine CR.out.mono ?_
      rintro e wb ⟨v3, rfl, ht3, hb3⟩
      have B3 := hide (B2.out.trans (hb3.mono B2.out.size))
      have CC := hide (jcomplete (es := es.take k) (ch := ch.extract 0 k) (HS.out.below B3.out) (uByt_takeG HBy.out k) HCt.out.1 (by have := HCt.out.2; omega) HLv.out)
      clear ht3 hb3 CR
      go_wp2_with fail
      refine CC.out.mono ?_
      rintro e wc ⟨rfl, hb4⟩
      have B4 := hide (B3.out.trans (hb4.mono B3.out.size))
      clear hb4 CC
      go_wp2
      go_ret
      exact ⟨rfl, B4.out⟩
    · obtain ⟨u, x, hv⟩ := T0.out.some hcc
      subst hv
      have CA := hide (jat T0.out (codeC_le HGS.out) (HS.out.below B2.out) (HH.out.below B2.out))
      rw [if_neg hcc, show (codeC S != 0) = true by simpa using hcc] at CA
      obtain ⟨n, hn⟩ : ∃ n, S.size = n := ⟨_, rfl⟩
      rw [hn] at CA
      have hnL : n ≤ L := by have := HSZ.out.1; omega
      have hcut : ch.extract 0 n = strOfNums (es.take n) := by rw [HC.out, utxt_cut]; simp
      have hpb : (writeB (es.take n) sc0).st.bad = 0 := by
        have := HG.out
        rw [HSS.out, hn, show sc0.size = 0 from rfl] at this
        simpa using this
      have HLv := hide (liv_write liv0 (es.take n) (uByt_takeG HBy.out n) hpb)
      have hln : (es.take n).length ≤ 1000 := by have := HL.out; simp; omega
      have HCt := hide (And.intro hcut hln)
      have p1 : (0 : Int) ≤ (n : Int) := by omega
      have p2 : (n : Int) ≤ (L : Int) := by omega
      rw [hn]
      clear hpb hln hcut T0 hn
      go_wp2_with fail
      refine CA.out.mono ?_
      rintro e wb ⟨rfl, hb3⟩
      have B3 := hide (B2.out.trans (hb3.mono B2.out.size))
      have CC := hide (jcomplete (es := es.take n) (ch := ch.extract 0 n) (HS.out.below B3.out) (uByt_takeG HBy.out n) HCt.out.1 HCt.out.2 HLv.out)
      clear hb3 CA
      go_wp2_with fail
      refine CC.out.mono ?_
      rintro e wc ⟨rfl, hb4⟩
      have B4 := hide (B3.out.trans (hb4.mono B3.out.size))
      clear hb4 CC
      go_wp2
      go_ret
      exact ⟨rfl, B4.out⟩

end Go.Proofs.YtefmlajndillbaaDoor
