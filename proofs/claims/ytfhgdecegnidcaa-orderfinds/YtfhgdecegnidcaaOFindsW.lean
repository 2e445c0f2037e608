/- OrderFinds: the walk -/
import Derived.Test.YtfhgdecegnidcaaOFi1
import Derived.Test.YtfhgdecegnidcaaOFi2
import Derived.Test.YtfhgdecegnidcaaOFi3
namespace Go.Proofs.Ytfhgdecegnidcaa
open Go.RowKit
set_option linter.unusedVariables false

theorem finds_any {w : World} {va : Value} {l : List It} {x : It} {o : Int} (ha : ItRd (fun _ => True) w va l) (hno : ∀ c, va = .slice none 0 c → c = 0) (hl : l.length ≤ 8796093022200) :
    Calls Try.prog 5 #[va, itV x, .int .i64 o] w fun e w' => e = .returned (.bool true) ∧ Below w.heap.size w w' := by
  by_cases h1 : bsr (byF o) l x 0 l.length < l.length
  · by_cases h2 : ocmp o (l[bsr (byF o) l x 0 l.length]?.getD (0, 0)) x = 0
    · exact finds_1 ha hno hl h1 h2
    · exact finds_2 ha hno hl h1 h2
  · exact finds_3 ha hno hl h1

end Go.Proofs.Ytfhgdecegnidcaa
