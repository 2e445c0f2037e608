/- EscapePlaces' walk -/
import Derived.Test.YtdhoknoemdjemabDoorXLives
import Derived.Test.YtdhoknoemdjemabDoorXEnds
namespace Go.Proofs.YtdhoknoemdjemabDoor
open Go.RowKit
set_option linter.unusedVariables false

set_option maxHeartbeats 4000000 in
set_option maxRecDepth 100000 in
theorem ends_any {w : World} : Calls Tryd.prog 16 #[] w fun e w' => e = .returned (.slice (some ⟨w.heap.size, 0, none⟩) 18 18) ∧ Below w.heap.size w w' ∧ w.heap.size < w'.heap.size ∧ ∀ i, i < 18 → w'.cell? ⟨w.heap.size, i, none⟩ = some (.string (strOfNums (xEnds.getD i []))) := by
  go_enter Tryd.func16, Tryd.ntmps16
  go_wp2
  go_ret
  refine ⟨rfl, (Below.refl _ _).alloc (Nat.le_refl _) _, by simp, fun i hi => ?_⟩
  rw [Lib.cell_of_heap (heap_alloc_new w _)]
  rcases (by omega : i = 0 ∨ i = 1 ∨ i = 2 ∨ i = 3 ∨ i = 4 ∨ i = 5 ∨ i = 6 ∨ i = 7 ∨ i = 8 ∨ i = 9 ∨ i = 10 ∨ i = 11 ∨ i = 12 ∨ i = 13 ∨ i = 14 ∨ i = 15 ∨ i = 16 ∨ i = 17) with rfl | rfl | rfl | rfl | rfl | rfl | rfl | rfl | rfl | rfl | rfl | rfl | rfl | rfl | rfl | rfl | rfl | rfl <;> rfl
theorem ends_mem : ∀ i : Fin 18, xEnds.getD i.val [] ∈ xEnds := by decide
theorem xEnds_byt : ∀ e ∈ xEnds, uByt e ∧ e.length ≤ 9 := by
  intro e he
  simp only [xEnds, List.mem_cons, List.not_mem_nil, or_false] at he
  rcases he with rfl | rfl | rfl | rfl | rfl | rfl | rfl | rfl | rfl | rfl | rfl | rfl | rfl | rfl | rfl | rfl | rfl | rfl <;> exact ⟨fun x hx => by simp at hx; omega, by decide⟩

set_option maxHeartbeats 4000000 in
set_option maxRecDepth 100000 in
theorem goes_any {w : World} {a : Nat → Addr} {s : ByteArray} {ls : List Int} (h : Lvs w a) (hb : uByt ls) (hs : s = strOfNums ls) (hl : ls.length ≤ 2000000) :
    Calls Tryd.prog 7 #[.string s] w fun e w' => e = .returned (.bool (xGoes ls)) ∧ Below w.heap.size w w' := by
  have H := hide h
  have hsz : s.size ≤ 2000000 := by rw [hs, strOfNums_size]; exact hl
  obtain ⟨R, hR⟩ : ∃ R, xGoes ls = R := ⟨_, rfl⟩
  have HR := hide (show (xEnds.drop 0).any (fun e => xWell (ls ++ e)) = R from hR)
  rw [hR]
  have HU := hide (fun (W : World) (hW : Below w.heap.size w W) (i : Nat) (hi : i < 18) => unquote_any (w := W) (a := a) (s := s ++ strOfNums (xEnds.getD i [])) (ls := ls ++ xEnds.getD i [])
    (hb.append (xEnds_byt _ (ends_mem ⟨i, hi⟩)).1) (by rw [hs, utxt_join]) (by have := (xEnds_byt (xEnds.getD i []) (ends_mem ⟨i, hi⟩)).2; rw [List.length_append]; omega) (H.out.below hW).snt (H.out.below hW).tab)
  have HE := hide (show ∀ i, i < 18 → (strOfNums (xEnds.getD i [])).size ≤ 9 from fun i hi => by
    rw [strOfNums_size]
    exact (xEnds_byt _ (ends_mem ⟨i, hi⟩)).2)
  have HD := hide (show ∀ k, k < 18 → (xEnds.drop k).any (fun e => xWell (ls ++ e)) = (xWell (ls ++ xEnds.getD k []) || (xEnds.drop (k + 1)).any (fun e => xWell (ls ++ e))) from fun k hk => by
    rcases (by omega : k = 0 ∨ k = 1 ∨ k = 2 ∨ k = 3 ∨ k = 4 ∨ k = 5 ∨ k = 6 ∨ k = 7 ∨ k = 8 ∨ k = 9 ∨ k = 10 ∨ k = 11 ∨ k = 12 ∨ k = 13 ∨ k = 14 ∨ k = 15 ∨ k = 16 ∨ k = 17) with rfl | rfl | rfl | rfl | rfl | rfl | rfl | rfl | rfl | rfl | rfl | rfl | rfl | rfl | rfl | rfl | rfl | rfl <;> rfl)
  clear h hb hs hl hR
  go_enter Tryd.func7, Tryd.ntmps7
  go_wp2_with fail
  refine ends_any.mono ?_
  rintro e w1 ⟨rfl, b1, z1, hc1⟩
  have K1 := hide b1
  have HC := hide hc1
  clear b1 hc1
  go_wp2
  go_loopg [4, 5, 6] 18 (fun c i s5 s6 wr => ∃ k : Nat, k ≤ 18 ∧ i = .int .i64 k ∧ c = 18 - k ∧ Hid ((xEnds.drop k).any (fun e => xWell (ls ++ e)) = R) ∧ Hid (Below w1.heap.size w1 wr))
  case atStart => exact ⟨0, by omega, rfl, by omega, HR, hide (Below.refl _ _)⟩
  case round =>
    obtain ⟨k, hk, rfl, hc, HJ, HB⟩ := hrel
    by_cases hlt : k < 18
    · have p1 : (k : Int) < 18 := by omega
      have p0 : (0 : Int) ≤ (k : Int) := by omega
      have cc : wr.cell? ⟨w.heap.size, k, none⟩ = some (.string (strOfNums (xEnds.getD k []))) := by
        rw [(ubcell0 HB.out).1 _ _ z1]; exact HC.out k hlt
      have Kr := hide (K1.out.trans (HB.out.mono K1.out.size))
      have HUk := hide (HU.out wr Kr.out k hlt)
      have hek := HE.out k hlt
      have HN := hide (HD.out k hlt)
      obtain ⟨x, hx⟩ : ∃ x, strOfNums (xEnds.getD k []) = x := ⟨_, rfl⟩
      obtain ⟨ee, hee⟩ : ∃ ee, xEnds.getD k [] = ee := ⟨_, rfl⟩
      rw [hx] at cc HUk hek
      rw [hee] at HUk HN
      clear hx hee
      go_wp2_with fail
      refine HUk.out.mono ?_
      rintro e w2 ⟨hI, b2⟩
      have HB2 := hide (HB.out.trans (b2.mono HB.out.size))
      clear b2
      rcases hI with ⟨t, hx, rfl⟩ | ⟨t, n, v, hx, hn, rfl, ⟨g, rfl, _⟩⟩ | ⟨n, v, hx, hn, rfl, ⟨g, rfl, _⟩⟩
      · have hw : xWell (ls ++ ee) = true := by unfold xWell; rw [hx]; simp
        have hRt : R = true := by rw [← HJ.out, HN.out, hw]; rfl
        subst hRt
        clear hx hw
        go_wp2
        go_ret
        exact ⟨rfl, K1.out.trans (HB2.out.mono K1.out.size)⟩
      · have hw : xWell (ls ++ ee) = false := by unfold xWell; rw [hx]; simp only; exact beq_eq_false_iff_ne.2 (by omega)
        have HJ2 := hide (show (xEnds.drop (k + 1)).any (fun e => xWell (ls ++ e)) = R by rw [← HJ.out, HN.out, hw]; rfl)
        clear hx hw hn
        go_wp2
        go_roundg (18 - (k + 1))
        case measure => omega
        case rel => exact ⟨k + 1, by omega, by simp, rfl, HJ2, HB2⟩
      · have hw : xWell (ls ++ ee) = false := by unfold xWell; rw [hx]
        have HJ2 := hide (show (xEnds.drop (k + 1)).any (fun e => xWell (ls ++ e)) = R by rw [← HJ.out, HN.out, hw]; rfl)
        clear hx hw hn
        go_wp2
        go_roundg (18 - (k + 1))
        case measure => omega
        case rel => exact ⟨k + 1, by omega, by simp, rfl, HJ2, HB2⟩
    · have p1 : ¬ (k : Int) < 18 := by omega
      have hk18 : k = 18 := by omega
      have hRf : R = false := by rw [← HJ.out, hk18]; rfl
      subst hRf
      go_wp2
      go_ret
      exact ⟨rfl, K1.out.trans (HB.out.mono K1.out.size)⟩

set_option maxHeartbeats 8000000 in
set_option maxRecDepth 100000 in
theorem eplaces_walk {w : World} {a : Nat → Addr} {s : ByteArray} {c : Int} (h : Lvs w a) (hs0 : s.size ≤ 140737488351232) (c0 : 0 ≤ c) (c1 : c ≤ 65535) : Calls Tryd.prog 3 #[.string s, .int .u16 c] w fun e w' => e = .returned (.bool true) ∧ Below w.heap.size w w' := by
  have H := hide h
  have HV := hide (lives10 h)
  by_cases hbig : 1048576 < s.size
  · have q1 : (1048576 : Int) < (s.size : Int) := by omega
    clear h
    go_enter Tryd.func3, Tryd.ntmps3
    go_wp2_with fail
    refine HV.out.mono ?_
    rintro e w1 ⟨rfl, b1⟩
    replace b1 := hide b1
    go_wp2
    go_ret
    exact ⟨rfl, b1.out⟩
  · obtain ⟨ls, hb, hlen, hs⟩ := utxt_of s
    have HS := hide (fun (W : World) (hW : Below w.heap.size w W) => scan_any (w := W) (a := a) (s := s) (ls := ls) (at_ := 0) hb hs (by omega) (H.out.below hW).snt (H.out.below hW).tab)
    have HSK := hide (fun (W : World) (hW : Below w.heap.size w W) (k : Nat) (hk : k ≤ ls.length) => scan_any (w := W) (a := a) (s := s.extract 0 k) (ls := ls.take k) (at_ := 0) (fun x hx => hb x (List.mem_of_mem_take hx)) (by rw [hs, utxt_cut]; rfl) (by rw [List.length_take]; omega) (H.out.below hW).snt (H.out.below hW).tab)
    have HG := hide (fun (W : World) (hW : Below w.heap.size w W) (k : Nat) (hk : k ≤ ls.length) => goes_any (w := W) (a := a) (s := s.extract 0 k) (ls := ls.take k) (H.out.below hW) (fun x hx => hb x (List.mem_of_mem_take hx)) (by rw [hs, utxt_cut]; rfl) (by rw [List.length_take]; omega))
    have HLn := hide hlen
    obtain ⟨L, hL⟩ : ∃ L, s.size = L := ⟨_, rfl⟩
    rw [hL] at HLn
    have q1 : ¬ (1048576 : Int) < (L : Int) := by omega
    have qL : L ≤ 1048576 := by omega
    clear h hb hlen hs hbig hs0
    go_enter Tryd.func3, Tryd.ntmps3
    go_wp2_with fail
    refine HV.out.mono ?_
    rintro e w1 ⟨rfl, b1⟩
    have K1 := hide b1
    clear b1
    go_wp2_with fail
    refine (HS.out w1 K1.out).mono ?_
    rintro e w2 ⟨hI, b2⟩
    have K2 := hide (K1.out.trans (b2.mono K1.out.size))
    clear b2
    rcases hI with ⟨h0, _⟩ | ⟨k, hk0, hk, ⟨t, n, hx, hn, rfl⟩ | ⟨n, v, hx, hn, rfl, hf⟩⟩
    · exact absurd ⟨Int.le_refl 0, Int.natCast_nonneg _⟩ h0
    · have hk1 : k = 0 := by omega
      subst hk1
      rw [List.drop_zero] at hx
      have h2n := xRun_two hx
      obtain ⟨j, hj⟩ : ∃ j : Nat, c % (n : Int) = j := ⟨(c % (n : Int)).toNat, by have := Int.emod_nonneg c (show (n : Int) ≠ 0 by omega); omega⟩
      have hjn : j < n := by have := Int.emod_lt_of_pos c (show (0 : Int) < (n : Int) by omega); omega
      obtain ⟨τ, u, hgo, hjl⟩ := xGo_ok (j := j) hx (by omega)
      have HX2 := hide (xRun_take hgo)
      have HGo := hide (xGoes_go hgo)
      have HJ := hide (show j ≤ ls.length by omega)
      have HJL := hide hjl
      have hnL : n ≤ L := by have := HLn.out; omega
      have p1 : ¬ (n : Int) < 2 := by omega
      have p2 : ¬ (L : Int) < (n : Int) := by omega
      have p3 : Int.tmod c (n : Int) = (j : Int) := by rw [Int.tmod_eq_emod_of_nonneg c0]; exact hj
      have p4 : ((n : Int) == 0) = false := beq_eq_false_iff_ne.2 (by omega)
      have p5 : (0 : Int) ≤ (j : Int) := by omega
      have p6 : (j : Int) ≤ (L : Int) := by omega
      have p7 : j ≤ L := by omega
      have p8 : IntKind.i64.wrap c = c := by rw [IntKind.wrap_i64]; omega
      clear hx hgo hk0 hk hn hj hjl
      go_wp2_with fail
      refine (HSK.out w2 K2.out j HJ.out).mono ?_
      rintro e w3 ⟨hI, b3⟩
      have K3 := hide (K2.out.trans (b3.mono K2.out.size))
      clear b3
      rcases hI with ⟨h0, _⟩ | ⟨k, hk0, hk, ⟨t', n', hx', hn', rfl⟩ | ⟨n', v', hx', hn', rfl, hf'⟩⟩
      · exact absurd ⟨Int.le_refl 0, Int.natCast_nonneg _⟩ h0
      · have hk1 : k = 0 := by omega
        subst hk1
        rw [List.drop_zero, HX2.out] at hx'
        cases hx'
      · have hk1 : k = 0 := by omega
        subst hk1
        rw [List.drop_zero, HX2.out] at hx'
        have e5 : n' = j := by
          have := XO.bad.inj hx'
          rw [List.length_take] at this
          have := HJ.out
          omega
        subst e5
        have HIA := hide (isAt_flt (j := (n' : Int)) (H.out.below K3.out).snt (H.out.below K3.out).hnd hf')
        rw [decide_eq_true rfl] at HIA
        obtain ⟨g', rfl, _⟩ := hf'
        clear hk0 hk hn' hx'
        go_wp2_with fail
        refine HIA.out.mono ?_
        rintro e w4 ⟨rfl, b4⟩
        have K4 := hide (K3.out.trans (b4.mono K3.out.size))
        clear b4
        have HGG := hide (HG.out w4 K4.out n' HJ.out)
        rw [HGo.out] at HGG
        go_wp2_with fail
        refine HGG.out.mono ?_
        rintro e w5 ⟨rfl, b5⟩
        have K5 := hide (K4.out.trans (b5.mono K4.out.size))
        clear b5
        go_wp2
        go_ret
        exact ⟨rfl, K5.out⟩
    · have hk1 : k = 0 := by omega
      subst hk1
      rw [List.drop_zero] at hx
      obtain ⟨τ, u, hgo, _, _⟩ := xGo_bad hx
      rw [Nat.sub_zero] at hgo
      have HGo := hide (xGoes_go hgo)
      have HGb := hide (fun g => xGoes_bad (r := []) hx g)
      have HF := hide hf
      obtain ⟨g, rfl, _⟩ := hf
      have HA := hide (at_flt (H.out.below K2.out).hnd HF.out)
      have HN := hide hn
      have hnL : n ≤ L := by have := HLn.out; omega
      have p1 : ¬ (n : Int) < 0 := by omega
      have p2 : ¬ (L : Int) < (n : Int) := by omega
      have p5 : (0 : Int) ≤ (n : Int) := by omega
      have p6 : (n : Int) ≤ (L : Int) := by omega
      clear hx hgo hk0 hk hn
      go_wp2_with fail
      refine HA.out.mono ?_
      rintro e w3 ⟨rfl, b3⟩
      have K3 := hide (K2.out.trans (b3.mono K2.out.size))
      clear b3
      have HGG := hide (HG.out w3 K3.out n HN.out)
      rw [HGo.out] at HGG
      go_wp2_with fail
      refine HGG.out.mono ?_
      rintro e w4 ⟨rfl, b4⟩
      have K4 := hide (K3.out.trans (b4.mono K3.out.size))
      clear b4 HGG
      by_cases he : n = L
      · have q5 : ((n : Int) == (L : Int)) = true := by rw [he]; simp
        clear he
        go_wp2
        go_ret
        exact ⟨rfl, K4.out⟩
      · have q5 : ((n : Int) == (L : Int)) = false := beq_eq_false_iff_ne.2 (by omega)
        have hl1 : n < ls.length := by have := HLn.out; omega
        have HG2 := hide (HG.out w4 K4.out (n + 1) hl1)
        rw [HGb.out hl1] at HG2
        have p7 : (0 : Int) ≤ (n : Int) + 1 := by omega
        have p8 : (n : Int) + 1 ≤ (L : Int) := by omega
        have p9 : ((n : Int) + 1).toNat = n + 1 := by omega
        clear he hl1
        go_wp2_with fail
        refine HG2.out.mono ?_
        rintro e w5 ⟨rfl, b5⟩
        have K5 := hide (K4.out.trans (b5.mono K4.out.size))
        clear b5
        go_wp2
        go_ret
        exact ⟨rfl, K5.out⟩

end Go.Proofs.YtdhoknoemdjemabDoor
