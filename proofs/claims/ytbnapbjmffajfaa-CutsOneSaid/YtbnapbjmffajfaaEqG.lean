/-
Structs compared, part by part. It speaks of any program.
-/
import Derived.Test.YtbnapbjmffajfaaEqv
import Derived.Laws.StructEq
namespace Go.Proofs.Ytbnapbjmffajfaa
open Go.RowKit

/-- Fields compared: those of name, type and place. -/
def eqTr (d : Nat) (xs ys : Array Value) : List (Bool × TypeId × Nat) → Sem Bool
  | [] => pure true
  | f :: fs =>
    if f.1 = true then do
      let a ← part f.2.1 xs f.2.2
      let b ← part f.2.1 ys f.2.2
      let r ← Op.equalIn d f.2.1 a b
      if (!r) = true then pure false else eqTr d xs ys fs
    else eqTr d xs ys fs
theorem eq_tr {P : Program} (d : Nat) (xs ys : Array Value) : ∀ (fs : List Field) (gs : List (Bool × TypeId × Nat)) (w : World), fs.map (fun f => (f.name != "_", f.type, f.offset)) = gs → (Op.eqFields d xs ys fs).run P w = (eqTr d xs ys gs).run P w
  | [], _, w, h => by subst h; rfl
  | f :: fs, _, w, h => by
    subst h
    have ih := fun w => eq_tr (P := P) d xs ys fs _ w rfl
    simp only [Op.eqFields, List.map_cons, eqTr, Sem.run_bind, Sem.run_ite, ih, bne_iff_ne]
theorem run_eqTr {P : Program} {d : Nat} {xs ys : Array Value} {t : TypeId} {o : Nat} {a b : Value} {c : Bool} {gs : List (Bool × TypeId × Nat)} (w : World) (ha : ∀ w, (part t xs o).run P w = .ok a w) (hb : ∀ w, (part t ys o).run P w = .ok b w)
    (he : ∀ w, (Op.equalIn d t a b).run P w = .ok c w) : (eqTr d xs ys ((true, t, o) :: gs)).run P w = if c then (eqTr d xs ys gs).run P w else .ok false w := by
  simp only [eqTr, if_true, Sem.run_bind, ha, hb, he, Result.andThen_ok]
  cases c <;> simp

end Go.Proofs.Ytbnapbjmffajfaa
