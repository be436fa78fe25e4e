/-
Vectors compared.
-/
import Derived.Test.YtkigaclcmodjaaaGreatFill
namespace Go.Proofs.YtkigaclcmodjaaaGreat
open Go.RowKit

theorem eqB_self (f : Nat → Nat) : eqB f f = true := (eqB_iff f f).2 fun _ _ => rfl
theorem eqv (f g : Nat → Nat) {b : Bool} (h : eqB f g = b) : ∀ w, (Op.equalIn 10000 25 (.agg (vl f).toArray) (.agg (vl g).toArray)).run Tryz.prog w = .ok b w := fun w => by
  have := run_equalIn_vec 9998 f g w
  rwa [h] at this
end Go.Proofs.YtkigaclcmodjaaaGreat
