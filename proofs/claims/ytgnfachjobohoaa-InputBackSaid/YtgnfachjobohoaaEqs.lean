/-
Structs compared: dots, labels.
-/
import Derived.Test.YtgnfachjobohoaaLab
import Derived.Test.YtgnfachjobohoaaFill
import Derived.Laws.StructEq
namespace Go.Proofs.Ytgnfachjobohoaa
open Go.RowKit

/-- Fields compared: those of name, type and place. -/
def eqTr (d : Nat) (xs ys : Array Value) : List (Bool × TypeId × Nat) → Sem Bool
  | [] => pure true
  | f :: fs =>
    if f.1 = true then do
      let a ← part f.2.1 xs f.2.2
      let b ← part f.2.1 ys f.2.2
      let r ← Op.equalIn d f.2.1 a b
      if (!r) = true then pure false else eqTr d xs ys fs
    else eqTr d xs ys fs
theorem eq_tr {P : Program} (d : Nat) (xs ys : Array Value) : ∀ (fs : List Field) (gs : List (Bool × TypeId × Nat)) (w : World), fs.map (fun f => (f.name != "_", f.type, f.offset)) = gs → (Op.eqFields d xs ys fs).run P w = (eqTr d xs ys gs).run P w
  | [], _, w, h => by subst h; rfl
  | f :: fs, _, w, h => by
    subst h
    have ih := fun w => eq_tr (P := P) d xs ys fs _ w rfl
    simp only [Op.eqFields, List.map_cons, eqTr, Sem.run_bind, Sem.run_ite, ih, bne_iff_ne]
theorem run_eqTr {P : Program} {d : Nat} {xs ys : Array Value} {t : TypeId} {o : Nat} {a b : Value} {c : Bool} {gs : List (Bool × TypeId × Nat)} (w : World) (ha : ∀ w, (part t xs o).run P w = .ok a w) (hb : ∀ w, (part t ys o).run P w = .ok b w)
    (he : ∀ w, (Op.equalIn d t a b).run P w = .ok c w) : (eqTr d xs ys ((true, t, o) :: gs)).run P w = if c then (eqTr d xs ys gs).run P w else .ok false w := by
  simp only [eqTr, if_true, Sem.run_bind, ha, hb, he, Result.andThen_ok]
  cases c <;> simp

set_option maxRecDepth 20000 in
theorem labFields : (Try.prog.fieldsOf 59).toList.map (fun f => (f.name != "_", f.type, f.offset)) = [(true, 25, 0), (true, 3, 1), (true, 22, 2), (true, 3, 3), (true, 3, 4), (true, 24, 5)] := by kernel_rfl
theorem part_u32 {xs : Array Value} {o : Nat} {v : Value} (h : xs[o]? = some v) (w : World) : (part 22 xs o).run Try.prog w = .ok v w := by
  simp [part, isAgg, run_underlying Try.underlying22, h]
theorem part_u64 {xs : Array Value} {o : Nat} {v : Value} (h : xs[o]? = some v) (w : World) : (part 25 xs o).run Try.prog w = .ok v w := by
  simp [part, isAgg, run_underlying Try.underlying25, h]
theorem part_int {xs : Array Value} {o : Nat} {v : Value} (h : xs[o]? = some v) (w : World) : (part 3 xs o).run Try.prog w = .ok v w := by
  simp [part, isAgg, run_underlying Try.underlying3, h]

def eqL (a b : Lab) : Bool := ((a.t : Int) == (b.t : Int)) && (a.nd == b.nd) && ((a.n : Int) == (b.n : Int)) && (a.ca == b.ca) && (a.se == b.se) && eqB a.f b.f
set_option maxRecDepth 20000 in
theorem eq_lab (a b : Lab) (w : World) : (Op.equalIn 10000 59 (.agg a.cells.toArray) (.agg b.cells.toArray)).run Try.prog w = .ok (eqL a b) w := by
  have g0 : ∀ l : Lab, l.cells.toArray[0]? = some (.int .u64 (l.t : Nat)) := fun l => by rw [List.getElem?_toArray]; exact lab_0
  have g1 : ∀ l : Lab, l.cells.toArray[1]? = some (.int .i64 l.nd) := fun l => by rw [List.getElem?_toArray]; exact lab_1
  have g2 : ∀ l : Lab, l.cells.toArray[2]? = some (.int .u32 (l.n : Nat)) := fun l => by rw [List.getElem?_toArray]; exact lab_2
  have g3 : ∀ l : Lab, l.cells.toArray[3]? = some (.int .i64 l.ca) := fun l => by rw [List.getElem?_toArray]; exact lab_3
  have g4 : ∀ l : Lab, l.cells.toArray[4]? = some (.int .i64 l.se) := fun l => by rw [List.getElem?_toArray]; exact lab_4
  have g5 : ∀ l : Lab, ∀ w, (part 24 l.cells.toArray 5).run Try.prog w = .ok (.agg (vl l.f).toArray) w := fun l w => by
    have hx : l.cells.toArray.extract 5 17 = (vl l.f).toArray := by
      apply Array.ext_getElem?
      intro i
      rw [Array.getElem?_extract, List.getElem?_toArray, List.getElem?_toArray, List.size_toArray, lab_len, lab_5]
      by_cases hi : i < 12
      · simp [hi]
      · have : (vl l.f)[i]? = none := List.getElem?_eq_none (by rw [vl_len]; omega)
        simp [this]
    have hx' : List.take 12 (List.drop 5 l.cells) = vl l.f := by simpa using congrArg Array.toList hx
    simp [part, isAgg, run_underlying Try.underlying24, run_sizeOf vsize, hx']
  rw [run_equalIn_struct w 9999 _ _ _ (by kernel_rfl) (by kernel_rfl), eq_tr 9999 _ _ _ _ w labFields]
  rw [run_eqTr w (part_u64 (g0 a)) (part_u64 (g0 b)) (fun w => run_equalIn_int w 9998 _ _ _ _ _ Try.underlying25), run_eqTr w (part_int (g1 a)) (part_int (g1 b)) (fun w => run_equalIn_int w 9998 _ _ _ _ _ Try.underlying3),
    run_eqTr w (part_u32 (g2 a)) (part_u32 (g2 b)) (fun w => run_equalIn_int w 9998 _ _ _ _ _ Try.underlying22), run_eqTr w (part_int (g3 a)) (part_int (g3 b)) (fun w => run_equalIn_int w 9998 _ _ _ _ _ Try.underlying3),
    run_eqTr w (part_int (g4 a)) (part_int (g4 b)) (fun w => run_equalIn_int w 9998 _ _ _ _ _ Try.underlying3), run_eqTr w (g5 a) (g5 b) (fun w => run_equalIn_vec 9997 a.f b.f w)]
  unfold eqL
  cases ((a.t : Int) == (b.t : Int)) <;> cases (a.nd == b.nd) <;> cases ((a.n : Int) == (b.n : Int)) <;> cases (a.ca == b.ca) <;> cases (a.se == b.se) <;> cases eqB a.f b.f <;> simp [eqTr]
end Go.Proofs.Ytgnfachjobohoaa
