/- EscapeForms' walk -/
import Derived.Test.YtdhoknoemdjemaaDoorXLives
import Derived.Test.YtdhoknoemdjemaaDoorXLen
namespace Go.Proofs.YtdhoknoemdjemaaDoor
open Go.RowKit
set_option linter.unusedVariables false

theorem lst_ne {x y : ByteArray} (h : x ≠ y) : (x.toList == y.toList) = false := beq_eq_false_iff_ne.2 (fun e => h (Go.WideShapes.bytes_inj (by rw [ByteArray.toList_eq, ByteArray.toList_eq] at e; exact e)))
/-- what a text that was told gives: it is one, and quoted it is read as itself -/
structure Told (w : World) (a : Nat → Addr) (u : List Int) : Prop where
  byt : uByt u
  quo : ∀ W, Below w.heap.size w W → Calls Tryd.prog 9 #[.string (strOfNums u)] W fun e w' => e = .returned (.tuple #[.string (strOfNums (xQ u)), .bool true]) ∧ Below W.heap.size W w'
  bad : ∀ W, Below w.heap.size w W → Calls Tryd.prog 18 #[.string (strOfNums u)] W fun e w' => e = .returned (.int .i64 u.length) ∧ Below W.heap.size W w'
  unq : ∀ W, Below w.heap.size w W → Calls Tryd.prog 15 #[.string (strOfNums (xQ u))] W fun e w' => e = .returned (.tuple #[.string (strOfNums u), .nilIface]) ∧ Below W.heap.size W w'
  len : u.length ≤ 140737488351232
  run : xRun .start (xQ u) [] 0 = .ok u (xQ u).length
theorem told_of {w : World} {a : Nat → Addr} {l u : List Int} {m : Nat} (h : Lvs w a) (hb : uByt l) (hl : l.length ≤ 140737488351232) (hx : xRun .start l [] 0 = .ok u m) : Told w a u := by
  obtain ⟨ps, hp, rfl⟩ := xLit_text hb hx
  have hq := xQ_least hx
  have hq2 := xQ_len (uFlat ps)
  have hub := uFlat_byt hp
  have hrun := xRun_quoted (r := []) hp
  rw [List.append_nil] at hrun
  refine ⟨hub, fun W hW => ?_, fun W hW => ?_, fun W hW => ?_, by omega, hrun⟩
  · exact quote_any (ps := ps) (t := []) hub rfl (by omega) (by omega) (USplit.text hp) (h.below hW).tab
  · exact bad_any (ps := ps) (t := []) hub rfl (by omega) (USplit.text hp)
  · refine (unquote_any (a := a) (xQ_byt hub) rfl (by omega) (h.below hW).snt (h.below hW).tab).mono ?_
    rintro e w' ⟨hI, hb'⟩
    refine ⟨?_, hb'⟩
    rcases hI with ⟨t, hx', rfl⟩ | ⟨t, n, v, hx', hn, rfl, hf⟩ | ⟨n, v, hx', hn, rfl, hf⟩
    · rw [hrun] at hx'; cases hx'; rfl
    · rw [hrun] at hx'; cases hx'; exact absurd hn (Nat.lt_irrefl _)
    · rw [hrun] at hx'; cases hx'

set_option maxHeartbeats 4000000 in
set_option maxRecDepth 100000 in
theorem eforms_walk {w : World} {a : Nat → Addr} {s t : ByteArray} (h : Lvs w a) (hs0 : s.size ≤ 140737488351232) (ht0 : t.size ≤ 140737488351232) : Calls Tryd.prog 7 #[.string s, .string t] w fun e w' => e = .returned (.bool true) ∧ Below w.heap.size w w' := by
  obtain ⟨ls, hb, hlen, hs⟩ := utxt_of s
  obtain ⟨lt, hb2, hlen2, ht⟩ := utxt_of t
  have H := hide h
  have HV := hide (lives10 h)
  have HU := hide (fun (W : World) (hW : Below w.heap.size w W) => unquote_any (w := W) (a := a) (s := s) (ls := ls) hb hs (by omega) (H.out.below hW).snt (H.out.below hW).tab)
  have HU2 := hide (fun (W : World) (hW : Below w.heap.size w W) => unquote_any (w := W) (a := a) (s := t) (ls := lt) hb2 ht (by omega) (H.out.below hW).snt (H.out.below hW).tab)
  have HT := hide (fun (u : List Int) (m : Nat) (hx : xRun .start ls [] 0 = .ok u m) => told_of h hb (by omega) hx)
  have HT2 := hide (fun (u : List Int) (m : Nat) (hx : xRun .start lt [] 0 = .ok u m) => told_of h hb2 (by omega) hx)
  clear h hb hlen hs hb2 hlen2 ht hs0 ht0
  go_enter Tryd.func7, Tryd.ntmps7
  go_wp2_with fail
  refine HV.out.mono ?_
  rintro e w1 ⟨rfl, b1⟩
  have K1 := hide b1
  clear b1
  go_wp2_with fail
  refine (HU.out w1 K1.out).mono ?_
  rintro e w2 ⟨hI, b2⟩
  have K2 := hide (K1.out.trans (b2.mono K1.out.size))
  clear b2
  have first : (∃ u, Told w a u ∧ e = .returned (.tuple #[.string (strOfNums u), .nilIface])) ∨ (∃ v, ∃ g : Addr, v = .iface 65 (.pointer (some g)) ∧ e = .returned (.tuple #[.string ⟨#[]⟩, v])) := by
    rcases hI with ⟨u, hx, rfl⟩ | ⟨u, n, v, hx, hn, rfl, ⟨g, rfl, _⟩⟩ | ⟨n, v, hx, hn, rfl, ⟨g, rfl, _⟩⟩
    · exact .inl ⟨u, HT.out u _ hx, rfl⟩
    · exact .inr ⟨_, _, rfl, rfl⟩
    · exact .inr ⟨_, _, rfl, rfl⟩
  clear hI
  have second : ∀ {e : Ending} {w3 : World}, UnqIs lt a e w3 → (∃ u, Told w a u ∧ e = .returned (.tuple #[.string (strOfNums u), .nilIface])) ∨ (∃ v, ∃ g : Addr, v = .iface 65 (.pointer (some g)) ∧ e = .returned (.tuple #[.string ⟨#[]⟩, v])) := fun hI => by
    rcases hI with ⟨u, hx, rfl⟩ | ⟨u, n, v, hx, hn, rfl, ⟨g, rfl, _⟩⟩ | ⟨n, v, hx, hn, rfl, ⟨g, rfl, _⟩⟩
    · exact .inl ⟨u, HT2.out u _ hx, rfl⟩
    · exact .inr ⟨_, _, rfl, rfl⟩
    · exact .inr ⟨_, _, rfl, rfl⟩
  rcases first with ⟨u, hu, rfl⟩ | ⟨v, g, rfl, rfl⟩
  rotate_left
  · go_wp2_with fail
    refine (HU2.out w2 K2.out).mono ?_
    rintro e w3 ⟨hI, b3⟩
    have K3 := hide (K2.out.trans (b3.mono K2.out.size))
    clear b3
    rcases second hI with ⟨u2, hu2, rfl⟩ | ⟨v2, g2, rfl, rfl⟩
    · clear second hI hu2
      go_wp2
      go_ret
      exact ⟨rfl, K3.out⟩
    · clear second hI
      go_wp2
      go_ret
      exact ⟨rfl, K3.out⟩
  · have HUu := hide hu
    clear hu
    have hul : (strOfNums u).size = u.length := strOfNums_size u
    have hle := HUu.out.len
    go_wp2_with fail
    refine (HU2.out w2 K2.out).mono ?_
    rintro e w3 ⟨hI, b3⟩
    have K3 := hide (K2.out.trans (b3.mono K2.out.size))
    clear b3
    have hcase := second hI
    clear second hI
    obtain ⟨x, hx⟩ : ∃ x, strOfNums u = x := ⟨_, rfl⟩
    obtain ⟨q, hq⟩ : ∃ q, strOfNums (xQ u) = q := ⟨_, rfl⟩
    have HQ := hide HUu.out.quo
    have HB := hide HUu.out.bad
    have HN := hide HUu.out.unq
    rw [hx] at HQ HB HN hul
    rw [hq] at HQ HN
    obtain ⟨L, hL⟩ : ∃ L, u.length = L := ⟨_, rfl⟩
    rw [hL] at HB hul hle
    rw [hx]
    have HXX := hide hx
    have HQQ := hide hq
    clear hx hq hL
    have go1 : ∀ (w3 : World) (y : ByteArray) (e2 : Value), True := fun _ _ _ => trivial
    rcases hcase with ⟨u2, hu2, rfl⟩ | ⟨v2, g2, rfl, rfl⟩
    · have HU3 := hide hu2
      clear hu2
      have HQ2 := hide HU3.out.quo
      by_cases he : u = u2
      · subst he
        rw [HXX.out] at HQ2
        rw [HQQ.out] at HQ2
        rw [HXX.out]
        go_wp2_with fail
        refine (HQ.out w3 K3.out).mono ?_
        rintro e w4 ⟨rfl, b4⟩
        have K4 := hide (K3.out.trans (b4.mono K3.out.size))
        clear b4
        go_wp2_with fail
        refine (HN.out w4 K4.out).mono ?_
        rintro e w5 ⟨rfl, b5⟩
        have K5 := hide (K4.out.trans (b5.mono K4.out.size))
        clear b5
        go_wp2_with fail
        refine (HB.out w5 K5.out).mono ?_
        rintro e w6 ⟨rfl, b6⟩
        have K6 := hide (K5.out.trans (b6.mono K5.out.size))
        clear b6
        go_wp2_with fail
        refine (HQ2.out w6 K6.out).mono ?_
        rintro e w7 ⟨rfl, b7⟩
        have K7 := hide (K6.out.trans (b7.mono K6.out.size))
        clear b7
        go_wp2
        go_ret
        exact ⟨rfl, K7.out⟩
      · have hy : strOfNums u ≠ strOfNums u2 := fun e => he (utxt_inj HUu.out.byt HU3.out.byt e)
        have hz : strOfNums (xQ u2) ≠ strOfNums (xQ u) := fun e => by
          have e2 := utxt_inj (xQ_byt HU3.out.byt) (xQ_byt HUu.out.byt) e
          have r1 := HU3.out.run
          rw [e2, HUu.out.run] at r1
          exact he (XO.ok.inj r1).1
        rw [HXX.out] at hy
        rw [HQQ.out] at hz
        obtain ⟨y, hyy⟩ : ∃ y, strOfNums u2 = y := ⟨_, rfl⟩
        obtain ⟨p, hpp⟩ : ∃ p, strOfNums (xQ u2) = p := ⟨_, rfl⟩
        rw [hyy] at hy HQ2 ⊢
        rw [hpp] at hz HQ2
        have d1 : (p.toList == q.toList) = false := lst_ne hz
        have d2 : (x.toList == y.toList) = false := lst_ne hy
        clear hyy hpp he
        go_wp2_with fail
        refine (HQ.out w3 K3.out).mono ?_
        rintro e w4 ⟨rfl, b4⟩
        have K4 := hide (K3.out.trans (b4.mono K3.out.size))
        clear b4
        go_wp2_with fail
        refine (HN.out w4 K4.out).mono ?_
        rintro e w5 ⟨rfl, b5⟩
        have K5 := hide (K4.out.trans (b5.mono K4.out.size))
        clear b5
        go_wp2_with fail
        refine (HB.out w5 K5.out).mono ?_
        rintro e w6 ⟨rfl, b6⟩
        have K6 := hide (K5.out.trans (b6.mono K5.out.size))
        clear b6
        go_wp2_with fail
        refine (HQ2.out w6 K6.out).mono ?_
        rintro e w7 ⟨rfl, b7⟩
        have K7 := hide (K6.out.trans (b7.mono K6.out.size))
        clear b7
        go_wp2
        go_ret
        exact ⟨rfl, K7.out⟩
    · clear go1
      go_wp2_with fail
      refine (HQ.out w3 K3.out).mono ?_
      rintro e w4 ⟨rfl, b4⟩
      have K4 := hide (K3.out.trans (b4.mono K3.out.size))
      clear b4
      go_wp2_with fail
      refine (HN.out w4 K4.out).mono ?_
      rintro e w5 ⟨rfl, b5⟩
      have K5 := hide (K4.out.trans (b5.mono K4.out.size))
      clear b5
      go_wp2_with fail
      refine (HB.out w5 K5.out).mono ?_
      rintro e w6 ⟨rfl, b6⟩
      have K6 := hide (K5.out.trans (b6.mono K5.out.size))
      clear b6
      go_wp2
      go_ret
      exact ⟨rfl, K6.out⟩

end Go.Proofs.YtdhoknoemdjemaaDoor
