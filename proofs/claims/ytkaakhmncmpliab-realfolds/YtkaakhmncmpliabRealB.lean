/- real: complex numbers; the document's rank, Cmp -/
import Derived.Test.YtkaakhmncmpliabReal
namespace Go.Proofs.Ytkaakhmncmpliab
open Go.RowKit

theorem join_any (w : World) (a b : Nat) : Calls Try.prog 27 #[.float .f64 a, .float .f64 b] w fun e w' => e = .returned (.complex .f64 a b) ∧ w' = w := by
  go_enter Try.func27, Try.ntmps27
  go_wp2
  go_ret
  exact ⟨rfl, rfl⟩

theorem split_any (w : World) (a b : Nat) : Calls Try.prog 22 #[.complex .f64 a b] w fun e w' => e = .returned (.tuple #[.float .f64 a, .float .f64 b]) ∧ w' = w := by
  go_enter Try.func22, Try.ntmps22
  go_wp2
  go_ret2
  exact ⟨rfl, rfl⟩

end Go.Proofs.Ytkaakhmncmpliab
