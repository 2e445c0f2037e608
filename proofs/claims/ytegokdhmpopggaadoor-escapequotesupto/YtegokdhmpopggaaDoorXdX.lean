/- EscapeScans, EscapeUnquotes: the walks -/
import Derived.Test.YtegokdhmpopggaaDoorXdW
namespace Go.Proofs.YtegokdhmpopggaaDoor
open Go.RowKit
set_option linter.unusedVariables false

theorem lst_eq (x : ByteArray) : (x.toList == x.toList) = true := by simp
set_option maxRecDepth 100000 in
set_option maxHeartbeats 4000000 in
theorem escans {w : World} {a : Nat → Addr} {s : ByteArray} {ls : List Int} {at_ : Int} (h : Lvs w a) (hb : uByt ls) (hs : s = strOfNums ls) (hl : ls.length ≤ 140737488351232) :
    Calls Tryd.prog 4 #[.string s, .int .i64 at_] w fun e w' => e = .returned (.bool true) ∧ Below w.heap.size w w' := by
  have C1 := hide (scan_any (a := a) (at_ := at_) hb hs hl h.snt h.tab)
  have HC2 := hide (fun W : World => rscan_any (w := W) (at_ := at_) hb hs hl)
  have H := hide h
  clear h hb hs hl
  go_enter Tryd.func4, Tryd.ntmps4
  go_wp2_with fail
  refine C1.out.mono ?_
  rintro e w1 ⟨hI, b1⟩
  have B1 := hide b1
  have C2 := hide (HC2.out w1)
  clear b1 C1 HC2
  have alt : ∀ (Q : Ending → Ending → World → Prop), (∀ k : Int, Q (.returned (.tuple #[.string ⟨#[]⟩, .int .i64 0, .iface 137 (.pointer (some (a 0)))])) (.returned (.tuple #[.string ⟨#[]⟩, .int .i64 0, fltV 1 0])) w1) →
      (∀ (t : ByteArray) (n : Int), Q (.returned (.tuple #[.string t, .int .i64 n, .nilIface])) (.returned (.tuple #[.string t, .int .i64 n, fltV 0 0])) w1) →
      (∀ (n : Nat) (v : Value), FltIs w1 a v n → Q (.returned (.tuple #[.string ⟨#[]⟩, .int .i64 0, v])) (.returned (.tuple #[.string ⟨#[]⟩, .int .i64 0, fltV 3 n])) w1) →
      ∀ e2, RScan ls at_ e2 → Q e e2 w1 := by
    intro Q q1 q2 q3 e2 hR
    rcases hI with ⟨hn, rfl⟩ | ⟨k, rfl, hkl, ⟨t, n, hx, hnl, rfl⟩ | ⟨n, v, hx, hnl, rfl, hf⟩⟩
    · rcases hR with ⟨_, rfl⟩ | ⟨k', rfl, hk', _⟩
      · exact q1 0
      · exact absurd ⟨by omega, by omega⟩ hn
    · rcases hR with ⟨hn, _⟩ | ⟨k', hkk, hk', ⟨t', n', hx', rfl⟩ | ⟨n', hx', rfl⟩⟩
      · exact absurd ⟨by omega, by omega⟩ hn
      · have : k' = k := by omega
        subst this
        rw [hx] at hx'; cases hx'
        exact q2 _ _
      · have : k' = k := by omega
        subst this
        rw [hx] at hx'; cases hx'
    · rcases hR with ⟨hn, _⟩ | ⟨k', hkk, hk', ⟨t', n', hx', rfl⟩ | ⟨n', hx', rfl⟩⟩
      · exact absurd ⟨by omega, by omega⟩ hn
      · have : k' = k := by omega
        subst this
        rw [hx] at hx'; cases hx'
      · have : k' = k := by omega
        subst this
        rw [hx] at hx'; cases hx'
        exact q3 n v hf
  have hsh : ∃ x y z, e = .returned (.tuple #[.string x, .int .i64 y, z]) := by
    rcases hI with ⟨hn, rfl⟩ | ⟨k, rfl, hkl, ⟨t, n, hx, hnl, rfl⟩ | ⟨n, v, hx, hnl, rfl, hf⟩⟩
    · exact ⟨_, _, _, rfl⟩
    · exact ⟨_, _, _, rfl⟩
    · exact ⟨_, _, _, rfl⟩
  obtain ⟨x, y, z, rfl⟩ := hsh
  have ALT := hide alt
  clear alt hI
  go_wp2_with fail
  refine C2.out.mono ?_
  rintro e2 w2 ⟨hR, b2⟩
  have B2 := hide (B1.out.trans (b2.mono B1.out.size))
  have three : (x = ⟨#[]⟩ ∧ y = 0 ∧ z = .iface 137 (.pointer (some (a 0))) ∧ e2 = .returned (.tuple #[.string ⟨#[]⟩, .int .i64 0, fltV 1 0]))
      ∨ (z = .nilIface ∧ e2 = .returned (.tuple #[.string x, .int .i64 y, fltV 0 0]))
      ∨ (∃ n : Nat, FltIs w1 a z n ∧ x = ⟨#[]⟩ ∧ y = 0 ∧ e2 = .returned (.tuple #[.string ⟨#[]⟩, .int .i64 0, fltV 3 n])) :=
    ALT.out (fun e e2 _ => ∀ x y z, e = .returned (.tuple #[.string x, .int .i64 y, z]) → (x = ⟨#[]⟩ ∧ y = 0 ∧ z = .iface 137 (.pointer (some (a 0))) ∧ e2 = .returned (.tuple #[.string ⟨#[]⟩, .int .i64 0, fltV 1 0]))
      ∨ (z = .nilIface ∧ e2 = .returned (.tuple #[.string x, .int .i64 y, fltV 0 0]))
      ∨ (∃ n : Nat, FltIs w1 a z n ∧ x = ⟨#[]⟩ ∧ y = 0 ∧ e2 = .returned (.tuple #[.string ⟨#[]⟩, .int .i64 0, fltV 3 n])))
      (fun _ x y z e => by simp at e; obtain ⟨rfl, rfl, rfl⟩ := e; exact Or.inl ⟨rfl, rfl, rfl, rfl⟩)
      (fun t n x y z e => by simp at e; obtain ⟨rfl, rfl, rfl⟩ := e; exact Or.inr (Or.inl ⟨rfl, rfl⟩))
      (fun n v hf x y z e => by simp at e; obtain ⟨rfl, rfl, rfl⟩ := e; exact Or.inr (Or.inr ⟨n, hf, rfl, rfl, rfl⟩)) e2 hR x y z rfl
  have hb2s : Below w1.heap.size w1 w2 := b2
  have HB12 := hide hb2s
  clear ALT hR b2 C2 hb2s
  rcases three with ⟨rfl, rfl, rfl, rfl⟩ | ⟨rfl, rfl⟩ | ⟨n, hf, rfl, rfl, rfl⟩
  · have B3 := hide (B2.out.trans ((Below.refl w.heap.size w2).alloc B2.out.size (.cells #[.int .i64 1, .int .i64 0, .string ⟨#[]⟩] 30)))
    have C3 := hide (is_arg (H.out.snt.below B3.out))
    simp only [fltV]
    go_wp2_with fail
    refine C3.out.mono ?_
    rintro e w4 ⟨rfl, b4⟩
    have B4 := hide (B3.out.trans (b4.mono B3.out.size))
    clear b4 C3 B3
    go_wp2
    go_ret
    exact ⟨rfl, B4.out⟩
  · have B3 := hide (B2.out.trans ((Below.refl w.heap.size w2).alloc B2.out.size (.cells #[.int .i64 0, .int .i64 0, .string ⟨#[]⟩] 30)))
    have C3 := hide (isAt_nil (w := w2.alloc (.cells #[.int .i64 0, .int .i64 0, .string ⟨#[]⟩] 30)) (j := 0))
    have hxx := lst_eq x
    simp only [fltV]
    go_wp2_with fail
    refine C3.out.mono ?_
    rintro e w4 ⟨rfl, rfl⟩
    clear C3
    go_wp2
    go_ret
    exact ⟨rfl, B3.out⟩
  · have B3 := hide (B2.out.trans ((Below.refl w.heap.size w2).alloc B2.out.size (.cells #[.int .i64 3, .int .i64 n, .string ⟨#[]⟩] 30)))
    have b3 : Below w2.heap.size w2 (w2.alloc (.cells #[.int .i64 3, .int .i64 n, .string ⟨#[]⟩] 30)) := (Below.refl _ _).alloc (Nat.le_refl _) _
    have C3 := hide (isAt_flt (j := (n : Int)) (H.out.snt.below B3.out) (H.out.hnd.below B3.out) ((hf.below HB12.out).below b3))
    simp only [decide_true] at C3
    obtain ⟨g, rfl, hg⟩ := hf
    obtain ⟨N, hN⟩ : ∃ N : Int, (n : Int) = N := ⟨_, rfl⟩
    rw [hN] at C3 B3 ⊢
    clear hg b3 hN
    simp only [fltV]
    go_wp2_with fail
    refine C3.out.mono ?_
    rintro e w4 ⟨rfl, b4⟩
    have B4 := hide (B3.out.trans (b4.mono B3.out.size))
    clear b4 C3 B3
    go_wp2
    go_ret
    exact ⟨rfl, B4.out⟩
set_option maxRecDepth 100000 in
set_option maxHeartbeats 4000000 in
theorem eunquotes {w : World} {a : Nat → Addr} {s : ByteArray} {ls : List Int} (h : Lvs w a) (hb : uByt ls) (hs : s = strOfNums ls) (hl : ls.length ≤ 140737488351232) :
    Calls Tryd.prog 5 #[.string s] w fun e w' => e = .returned (.bool true) ∧ Below w.heap.size w w' := by
  have C1 := hide (unquote_any (a := a) hb hs hl h.snt h.tab)
  have HC2 := hide (fun W : World => runquote (w := W) hb hs hl)
  have H := hide h
  clear h hb hs hl
  go_enter Tryd.func5, Tryd.ntmps5
  go_wp2_with fail
  refine C1.out.mono ?_
  rintro e w1 ⟨hI, b1⟩
  have B1 := hide b1
  have C2 := hide (HC2.out w1)
  clear b1 C1 HC2
  have hsh : ∃ x z, e = .returned (.tuple #[.string x, z]) ∧ ∀ e2 w2, RUnq w1 ls e2 w2 → (z = .nilIface ∧ e2 = .returned (.tuple #[.string x, fltV 0 0])) ∨ (∃ n : Nat, FltIs w1 a z n ∧ x = ⟨#[]⟩ ∧ e2 = .returned (.tuple #[.string ⟨#[]⟩, fltV 3 n])) := by
    rcases hI with ⟨t, hx, rfl⟩ | ⟨t, n, v, hx, hnl, rfl, hf⟩ | ⟨n, v, hx, hnl, rfl, hf⟩
    · refine ⟨_, _, rfl, fun e2 w2 hR => ?_⟩
      rcases hR.1 with ⟨t', hx', rfl⟩ | ⟨t', n', hx', hn', rfl⟩ | ⟨n', hx', rfl⟩
      · rw [hx] at hx'; cases hx'; exact Or.inl ⟨rfl, rfl⟩
      · rw [hx] at hx'; cases hx'; omega
      · rw [hx] at hx'; cases hx'
    · refine ⟨_, _, rfl, fun e2 w2 hR => ?_⟩
      rcases hR.1 with ⟨t', hx', rfl⟩ | ⟨t', n', hx', hn', rfl⟩ | ⟨n', hx', rfl⟩
      · rw [hx] at hx'; cases hx'; omega
      · rw [hx] at hx'; cases hx'; exact Or.inr ⟨n, hf, rfl, rfl⟩
      · rw [hx] at hx'; cases hx'
    · refine ⟨_, _, rfl, fun e2 w2 hR => ?_⟩
      rcases hR.1 with ⟨t', hx', rfl⟩ | ⟨t', n', hx', hn', rfl⟩ | ⟨n', hx', rfl⟩
      · rw [hx] at hx'; cases hx'
      · rw [hx] at hx'; cases hx'
      · rw [hx] at hx'; cases hx'; exact Or.inr ⟨n, hf, rfl, rfl⟩
  obtain ⟨x, z, rfl, hz⟩ := hsh
  have HZ := hide hz
  clear hI hz
  go_wp2_with fail
  refine C2.out.mono ?_
  rintro e2 w2 hR
  have two := HZ.out e2 w2 hR
  have b2 := hR.2
  have B2 := hide (B1.out.trans (b2.mono B1.out.size))
  have HB12 := hide b2
  clear HZ hR b2 C2
  rcases two with ⟨rfl, rfl⟩ | ⟨n, hf, rfl, rfl⟩
  · have B3 := hide (B2.out.trans ((Below.refl w.heap.size w2).alloc B2.out.size (.cells #[.int .i64 0, .int .i64 0, .string ⟨#[]⟩] 30)))
    have C3 := hide (isAt_nil (w := w2.alloc (.cells #[.int .i64 0, .int .i64 0, .string ⟨#[]⟩] 30)) (j := 0))
    have hxx := lst_eq x
    simp only [fltV]
    go_wp2_with fail
    refine C3.out.mono ?_
    rintro e w4 ⟨rfl, rfl⟩
    clear C3
    go_wp2
    go_ret
    exact ⟨rfl, B3.out⟩
  · have B3 := hide (B2.out.trans ((Below.refl w.heap.size w2).alloc B2.out.size (.cells #[.int .i64 3, .int .i64 n, .string ⟨#[]⟩] 30)))
    have b3 : Below w2.heap.size w2 (w2.alloc (.cells #[.int .i64 3, .int .i64 n, .string ⟨#[]⟩] 30)) := (Below.refl _ _).alloc (Nat.le_refl _) _
    have C3 := hide (isAt_flt (j := (n : Int)) (H.out.snt.below B3.out) (H.out.hnd.below B3.out) ((hf.below HB12.out).below b3))
    simp only [decide_true] at C3
    obtain ⟨g, rfl, hg⟩ := hf
    obtain ⟨N, hN⟩ : ∃ N : Int, (n : Int) = N := ⟨_, rfl⟩
    rw [hN] at C3 B3 ⊢
    clear hg b3 hN
    simp only [fltV]
    go_wp2_with fail
    refine C3.out.mono ?_
    rintro e w4 ⟨rfl, b4⟩
    have B4 := hide (B3.out.trans (b4.mono B3.out.size))
    clear b4 C3 B3
    go_wp2
    go_ret
    exact ⟨rfl, B4.out⟩

end Go.Proofs.YtegokdhmpopggaaDoor
