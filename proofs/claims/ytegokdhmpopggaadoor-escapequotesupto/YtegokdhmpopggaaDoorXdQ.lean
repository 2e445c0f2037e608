/- EscapeQuotes: the walk -/
import Derived.Test.YtegokdhmpopggaaDoorXdZ
namespace Go.Proofs.YtegokdhmpopggaaDoor
open Go.RowKit
set_option linter.unusedVariables false

set_option maxRecDepth 100000 in
theorem equotes {w : World} {s : ByteArray} {ls : List Int} (ht : Tab w) (hb : uByt ls) (hs : s = strOfNums ls) (hl : ls.length ≤ 1048576) :
    Calls Tryd.prog 3 #[.string s] w fun e w' => e = .returned (.bool true) ∧ Below w.heap.size w w' := by
  obtain ⟨ps, t, hsp⟩ := USplit.exists ls.length (Nat.le_refl _) hb
  have hx := xTxt_split hb hsp
  have hq6 : (xQ ls).length ≤ 6 * ls.length + 2 := by
    have h1 := qs_len ls ls.length
    have h2 : xQ ls = qs ls ls.length ++ [34] := by unfold xQ qs; rw [List.take_length]
    rw [h2, List.length_append]; simp; omega
  have C1 := hide (quote_any hb hs (by omega) (by omega) hsp ht)
  have C2 := hide (show ∀ W, Calls Tryd.prog 10 #[.string s] W (RQ W ls) from fun W => rquote hb hs hl)
  rw [← hx] at C1
  obtain ⟨b, hbv⟩ : ∃ b, xTxt .inn ls = b := ⟨_, rfl⟩
  obtain ⟨q, hqv⟩ : ∃ q, strOfNums (if xTxt .inn ls then xQ ls else []) = q := ⟨_, rfl⟩
  unfold RQ at C2
  rw [hqv, hbv] at C1
  simp only [hqv] at C2
  simp only [hbv] at C2
  have hqq := lst_eq q
  clear hb hs hl hsp hx hq6 hbv hqv ht
  go_enter Tryd.func3, Tryd.ntmps3
  go_wp2_with fail
  refine C1.out.mono ?_
  rintro e w1 ⟨rfl, b1⟩
  have B1 := hide b1
  clear b1 C1
  go_wp2_with fail
  refine (C2.out w1).mono ?_
  rintro e w2 ⟨rfl, b2⟩
  have B2 := hide (B1.out.trans (b2.mono B1.out.size))
  clear b2 C2 B1
  cases b
  all_goals go_wp2
  all_goals go_ret
  all_goals exact ⟨rfl, B2.out⟩

end Go.Proofs.YtegokdhmpopggaaDoor
