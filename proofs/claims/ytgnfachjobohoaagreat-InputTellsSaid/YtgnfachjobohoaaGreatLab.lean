/-
Labels: their cells; Dot, Past, Before, isNext.
cmp.Compare, cmp.Or; Less.
label.Less.
Structs compared: dots, labels.
label.isNext, Past, Before.
label.Before.
label.Right.
-/
import Derived.Test.YtgnfachjobohoaaGreatOpens
import Derived.Test.YtgnfachjobohoaaGreatCalls4
import Derived.Test.YtgnfachjobohoaaGreatFill
import Derived.Laws.StructEq
namespace Go.Proofs.YtgnfachjobohoaaGreat
open Go.RowKit

/-- A label. -/
structure Lab where
  (t : Nat)
  (nd : Int)
  (n : Nat)
  (ca se : Int)
  (f : Nat → Nat)
def Lab.cells (l : Lab) : List Value := [.int .u64 (l.t : Nat), .int .i64 l.nd, .int .u32 (l.n : Nat), .int .i64 l.ca, .int .i64 l.se] ++ vl l.f
section
variable {l : Lab}
theorem lab_0 : l.cells[0]? = some (.int .u64 (l.t : Nat)) := rfl
theorem lab_1 : l.cells[1]? = some (.int .i64 l.nd) := rfl
theorem lab_2 : l.cells[2]? = some (.int .u32 (l.n : Nat)) := rfl
theorem lab_3 : l.cells[3]? = some (.int .i64 l.ca) := rfl
theorem lab_4 : l.cells[4]? = some (.int .i64 l.se) := rfl
theorem lab_5 (j : Nat) : l.cells[5 + j]? = (vl l.f)[j]? := by
  unfold Lab.cells; rw [List.getElem?_append_right (by simp)]; simp
theorem lab_len : l.cells.length = 17 := by unfold Lab.cells; rw [List.length_append, vl_len]; rfl
end
attribute [irreducible] Lab.cells
theorem linfo (l : Lab) : (Tryz.prog.info? 87).map (·.size) = some l.cells.length := by rw [lab_len]; kernel_rfl
theorem linfoA (l : Lab) : (Tryz.prog.info? 87).map (·.size) = some l.cells.toArray.size := by rw [List.size_toArray, lab_len]; kernel_rfl
/-- A box that holds a label. -/
theorem lab_all {W : World} {b : Nat} {t : TypeId} {l : Lab} (h : Blk W b t l.cells.toArray) : W.rangeAt b 0 ((l).cells) ∧ W.rangeAt b 5 (vl (l).f) ∧ W.cell? ⟨b, 0, none⟩ = some (.int .u64 ((l).t : Nat)) ∧ W.cell? ⟨b, 1, none⟩ = some (.int .i64 (l).nd) ∧ W.cell? ⟨b, 2, none⟩ = some (.int .u32 ((l).n : Nat)) ∧ W.cell? ⟨b, 3, none⟩ = some (.int .i64 (l).ca) ∧ W.cell? ⟨b, 4, none⟩ = some (.int .i64 (l).se) := by
  have hc : ∀ i, W.cell? ⟨b, i, none⟩ = l.cells[i]? := fun i => by rw [h.cell, List.getElem?_toArray]
  refine ⟨h.range, fun j v hv => ?_, (hc 0).trans lab_0, (hc 1).trans lab_1, (hc 2).trans lab_2, (hc 3).trans lab_3, (hc 4).trans lab_4⟩
  rw [hc, lab_5, hv]

/-- May a label's dot be the next one? -/
def nextB (l : Lab) : Bool := nodeB l.nd && decide (getN l.f l.nd < 1048576) && decide (l.n = getN l.f l.nd + 1)
attribute [irreducible] nextB

/-- The greatest number of a vector. -/
def maxK (f : Nat → Nat) : Nat → Nat
  | 0 => f 0
  | k + 1 => max (maxK f k) (f (k + 1))
theorem maxK_le (f : Nat → Nat) (M : Nat) : ∀ k, maxK f k ≤ M ↔ ∀ i, i ≤ k → f i ≤ M
  | 0 => ⟨fun h i hi => by obtain rfl : i = 0 := by omega
                           exact h, fun h => h 0 (Nat.le_refl _)⟩
  | k + 1 => by
    unfold maxK
    have ih := maxK_le f M k
    constructor
    · intro h i hi
      by_cases h1 : i = k + 1
      · subst h1; omega
      · exact ih.1 (by omega) i (by omega)
    · intro h
      have h1 := h (k + 1) (Nat.le_refl _)
      have h2 := ih.2 fun i hi => h i (by omega)
      omega
def MaxFar (f : Nat → Nat) (k : Nat) (x : Value) : Prop := x = .int .u32 (maxK f k : Nat)
set_option maxRecDepth 20000 in
set_option maxHeartbeats 1000000 in
theorem max_any (f : Nat → Nat) (b o : Nat) (W : World) (h : W.rangeAt b o (vl f)) :
    Calls Tryz.prog 32 #[.slice (some ⟨b, o, none⟩) 12 12] W fun e W' => e = .returned (.int .u32 (maxK f 11 : Nat)) ∧ W = W' := by
  have H := Lib.hid h
  have c0 := h 0 _ (vl_get (f := f) (k := 0) (by omega))
  rw [Nat.add_zero] at c0
  clear h
  go_enter Tryz.func32, Tryz.ntmps32
  go_wp2_with fail
  go_loop [3, 4] (fun x i => ∃ k : Nat, k ≤ 11 ∧ i = .int .i64 ((k : Int) + 1) ∧ MaxFar f k x) (fun _ i => 12 - (intOf i).toNat)
  case atStart => exact ⟨0, Nat.zero_le _, rfl, rfl⟩
  case round =>
    obtain ⟨k, hk, rfl, hx⟩ := hrel
    unfold MaxFar at hx
    subst hx
    by_cases hlt : k < 11
    · have h1 : (k : Int) + 1 < 12 := by omega
      have h2 : ((k : Int) + 1).toNat = k + 1 := by omega
      have ck := H.out (k + 1) _ (vl_get (f := f) (k := k + 1) (by omega))
      have hm : max (maxK f k : Int) (f (k + 1) : Int) = (maxK f (k + 1) : Nat) := by show _ = ((max (maxK f k) (f (k + 1)) : Nat) : Int); omega
      have HM := Lib.hid hm
      clear hm c0
      go_wp2_with fail
      go_round
      case rel => exact ⟨k + 1, by omega, by go_num, by unfold MaxFar; rw [← HM.out]⟩
      case measure => simp [intOf]; omega
    · obtain rfl : k = 11 := by omega
      clear c0 hlt
      go_wp2_with fail
      go_ret
      exact ⟨rfl, rfl⟩
end Go.Proofs.YtgnfachjobohoaaGreat
namespace Go.Proofs.YtgnfachjobohoaaGreat
open Go.RowKit

/-- How two numbers stand. -/
def cmpI (a b : Int) : Int := if a < b then -1 else if b < a then 1 else 0
/-- The first of four numbers that is no nought. -/
def orK (v : Nat → Int) : Nat → Nat → Int
  | 0, _ => 0
  | n + 1, k => if v k = 0 then orK v n (k + 1) else v k
theorem vs_get {v : Nat → Int} : ∀ {k : Nat}, k < 4 → [Value.int .i64 (v 0), .int .i64 (v 1), .int .i64 (v 2), .int .i64 (v 3)][k]? = some (.int .i64 (v k))
  | 0, _ => rfl
  | 1, _ => rfl
  | 2, _ => rfl
  | 3, _ => rfl
end Go.Proofs.YtgnfachjobohoaaGreat
namespace Go.Proofs.YtgnfachjobohoaaGreat
open Go.RowKit

/-- How two labels stand, by one part after the other. -/
def cmpV (a b : Lab) : Nat → Int
  | 0 => cmpI (a.t : Nat) (b.t : Nat)
  | 1 => cmpI a.nd b.nd
  | 2 => cmpI a.ca b.ca
  | _ => cmpI (a.n : Nat) (b.n : Nat)
def lessB (a b : Lab) : Bool := decide (orK (cmpV a b) 4 0 < 0)

end Go.Proofs.YtgnfachjobohoaaGreat
namespace Go.Proofs.YtgnfachjobohoaaGreat
open Go.RowKit

/-- Fields compared: those of name, type and place. -/
def eqTr (d : Nat) (xs ys : Array Value) : List (Bool × TypeId × Nat) → Sem Bool
  | [] => pure true
  | f :: fs =>
    if f.1 = true then do
      let a ← part f.2.1 xs f.2.2
      let b ← part f.2.1 ys f.2.2
      let r ← Op.equalIn d f.2.1 a b
      if (!r) = true then pure false else eqTr d xs ys fs
    else eqTr d xs ys fs
theorem eq_tr {P : Program} (d : Nat) (xs ys : Array Value) : ∀ (fs : List Field) (gs : List (Bool × TypeId × Nat)) (w : World), fs.map (fun f => (f.name != "_", f.type, f.offset)) = gs → (Op.eqFields d xs ys fs).run P w = (eqTr d xs ys gs).run P w
  | [], _, w, h => by subst h; rfl
  | f :: fs, _, w, h => by
    subst h
    have ih := fun w => eq_tr (P := P) d xs ys fs _ w rfl
    simp only [Op.eqFields, List.map_cons, eqTr, Sem.run_bind, Sem.run_ite, ih, bne_iff_ne]
theorem run_eqTr {P : Program} {d : Nat} {xs ys : Array Value} {t : TypeId} {o : Nat} {a b : Value} {c : Bool} {gs : List (Bool × TypeId × Nat)} (w : World) (ha : ∀ w, (part t xs o).run P w = .ok a w) (hb : ∀ w, (part t ys o).run P w = .ok b w)
    (he : ∀ w, (Op.equalIn d t a b).run P w = .ok c w) : (eqTr d xs ys ((true, t, o) :: gs)).run P w = if c then (eqTr d xs ys gs).run P w else .ok false w := by
  simp only [eqTr, if_true, Sem.run_bind, ha, hb, he, Result.andThen_ok]
  cases c <;> simp

set_option maxRecDepth 20000 in
theorem labFields : (Tryz.prog.fieldsOf 87).toList.map (fun f => (f.name != "_", f.type, f.offset)) = [(true, 25, 0), (true, 3, 1), (true, 22, 2), (true, 3, 3), (true, 3, 4), (true, 24, 5)] := by kernel_rfl
theorem part_u32 {xs : Array Value} {o : Nat} {v : Value} (h : xs[o]? = some v) (w : World) : (part 22 xs o).run Tryz.prog w = .ok v w := by
  simp [part, isAgg, run_underlying Tryz.underlying22, h]
theorem part_u64 {xs : Array Value} {o : Nat} {v : Value} (h : xs[o]? = some v) (w : World) : (part 25 xs o).run Tryz.prog w = .ok v w := by
  simp [part, isAgg, run_underlying Tryz.underlying25, h]
theorem part_int {xs : Array Value} {o : Nat} {v : Value} (h : xs[o]? = some v) (w : World) : (part 3 xs o).run Tryz.prog w = .ok v w := by
  simp [part, isAgg, run_underlying Tryz.underlying3, h]

def eqL (a b : Lab) : Bool := ((a.t : Int) == (b.t : Int)) && (a.nd == b.nd) && ((a.n : Int) == (b.n : Int)) && (a.ca == b.ca) && (a.se == b.se) && eqB a.f b.f
set_option maxRecDepth 20000 in
theorem eq_lab (a b : Lab) (w : World) : (Op.equalIn 10000 87 (.agg a.cells.toArray) (.agg b.cells.toArray)).run Tryz.prog w = .ok (eqL a b) w := by
  have g0 : ∀ l : Lab, l.cells.toArray[0]? = some (.int .u64 (l.t : Nat)) := fun l => by rw [List.getElem?_toArray]; exact lab_0
  have g1 : ∀ l : Lab, l.cells.toArray[1]? = some (.int .i64 l.nd) := fun l => by rw [List.getElem?_toArray]; exact lab_1
  have g2 : ∀ l : Lab, l.cells.toArray[2]? = some (.int .u32 (l.n : Nat)) := fun l => by rw [List.getElem?_toArray]; exact lab_2
  have g3 : ∀ l : Lab, l.cells.toArray[3]? = some (.int .i64 l.ca) := fun l => by rw [List.getElem?_toArray]; exact lab_3
  have g4 : ∀ l : Lab, l.cells.toArray[4]? = some (.int .i64 l.se) := fun l => by rw [List.getElem?_toArray]; exact lab_4
  have g5 : ∀ l : Lab, ∀ w, (part 24 l.cells.toArray 5).run Tryz.prog w = .ok (.agg (vl l.f).toArray) w := fun l w => by
    have hx : l.cells.toArray.extract 5 17 = (vl l.f).toArray := by
      apply Array.ext_getElem?
      intro i
      rw [Array.getElem?_extract, List.getElem?_toArray, List.getElem?_toArray, List.size_toArray, lab_len, lab_5]
      by_cases hi : i < 12
      · simp [hi]
      · have : (vl l.f)[i]? = none := List.getElem?_eq_none (by rw [vl_len]; omega)
        simp [this]
    have hx' : List.take 12 (List.drop 5 l.cells) = vl l.f := by simpa using congrArg Array.toList hx
    simp [part, isAgg, run_underlying Tryz.underlying24, run_sizeOf vsize, hx']
  rw [run_equalIn_struct w 9999 _ _ _ (by kernel_rfl) (by kernel_rfl), eq_tr 9999 _ _ _ _ w labFields]
  rw [run_eqTr w (part_u64 (g0 a)) (part_u64 (g0 b)) (fun w => run_equalIn_int w 9998 _ _ _ _ _ Tryz.underlying25), run_eqTr w (part_int (g1 a)) (part_int (g1 b)) (fun w => run_equalIn_int w 9998 _ _ _ _ _ Tryz.underlying3),
    run_eqTr w (part_u32 (g2 a)) (part_u32 (g2 b)) (fun w => run_equalIn_int w 9998 _ _ _ _ _ Tryz.underlying22), run_eqTr w (part_int (g3 a)) (part_int (g3 b)) (fun w => run_equalIn_int w 9998 _ _ _ _ _ Tryz.underlying3),
    run_eqTr w (part_int (g4 a)) (part_int (g4 b)) (fun w => run_equalIn_int w 9998 _ _ _ _ _ Tryz.underlying3), run_eqTr w (g5 a) (g5 b) (fun w => run_equalIn_vec 9997 a.f b.f w)]
  unfold eqL
  cases ((a.t : Int) == (b.t : Int)) <;> cases (a.nd == b.nd) <;> cases ((a.n : Int) == (b.n : Int)) <;> cases (a.ca == b.ca) <;> cases (a.se == b.se) <;> cases eqB a.f b.f <;> simp [eqTr]
end Go.Proofs.YtgnfachjobohoaaGreat
namespace Go.Proofs.YtgnfachjobohoaaGreat
open Go.RowKit

theorem range_next {W W' : World} {b o : Nat} {cs : List Value} (hb : Below W.heap.size W W') (h : W.rangeAt b o cs) : W'.rangeAt b o cs := fun j v hv => by
  have h1 := h j v hv
  exact (hb.cell (World.block_lt_of_cell? _ _ h1)).trans h1
theorem next_yes {l : Lab} (h : nextB l = true) : nextD l.f l.nd = (l.nd, l.n, 0) := by
  unfold nextB at h
  simp only [Bool.and_eq_true, decide_eq_true_eq] at h
  unfold nextD
  rw [if_pos h.1.1, if_pos h.1.2, h.2]
theorem next_no {l : Lab} (h : nextB l = false) : (nextD l.f l.nd).2.2 = 5 ∨ (nextD l.f l.nd).2.2 = 11 ∨ ∃ k : Nat, nextD l.f l.nd = (l.nd, k, 0) ∧ k ≠ l.n := by
  unfold nextD
  by_cases h1 : nodeB l.nd = true
  · rw [if_pos h1]
    by_cases h2 : getN l.f l.nd < 1048576
    · rw [if_pos h2]
      refine Or.inr (Or.inr ⟨_, rfl, fun e => ?_⟩)
      unfold nextB at h
      rw [h1, decide_eq_true h2, decide_eq_true e.symm] at h
      cases h
    · rw [if_neg h2]; exact Or.inl rfl
  · rw [if_neg h1]; exact Or.inr (Or.inl rfl)

/-- A label's past. -/
def pastF (l : Lab) : Nat → Nat := withF l.f l.nd l.n
end Go.Proofs.YtgnfachjobohoaaGreat
namespace Go.Proofs.YtgnfachjobohoaaGreat
open Go.RowKit

/-- Does b's event depend on a's? -/
def befB (a b : Lab) : Bool := decide (a.ca = b.ca) && hasB b.f a.nd a.n

end Go.Proofs.YtgnfachjobohoaaGreat
namespace Go.Proofs.YtgnfachjobohoaaGreat
open Go.RowKit

def timeB (t : Nat) : Bool := decide (1 ≤ t) && decide (t ≤ 1099511627776)
def placeB (ca se : Int) : Bool := decide (1 ≤ ca) && decide (ca ≤ 12) && decide (0 ≤ se) && decide (se ≤ 12)
/-- May a label be? -/
def rightL (l : Lab) : Bool := timeB l.t && placeB l.ca l.se && nextB l && decide (maxK l.f 11 ≤ 1048576)
theorem time_cases (t : Nat) : (timeB t = true ∧ decide (1 ≤ (t : Int)) = true ∧ decide ((t : Int) ≤ 1099511627776) = true) ∨ (timeB t = false ∧ decide (1 ≤ (t : Int)) = true ∧ decide ((t : Int) ≤ 1099511627776) = false) ∨ (timeB t = false ∧ decide (1 ≤ (t : Int)) = false) := by
  unfold timeB
  by_cases h1 : 1 ≤ t
  · by_cases h2 : t ≤ 1099511627776
    · exact Or.inl ⟨by simp [h1, h2], by simp; omega, by simp; omega⟩
    · exact Or.inr (Or.inl ⟨by simp [h2], by simp; omega, by simp; omega⟩)
  · exact Or.inr (Or.inr ⟨by simp [h1], by simp; omega⟩)
theorem place_cases (ca se : Int) : (placeB ca se = true ∧ decide (1 ≤ ca) = true ∧ decide (ca ≤ 12) = true ∧ decide (0 ≤ se) = true ∧ decide (se ≤ 12) = true) ∨ (placeB ca se = false ∧ decide (1 ≤ ca) = false)
    ∨ (placeB ca se = false ∧ decide (1 ≤ ca) = true ∧ decide (ca ≤ 12) = false) ∨ (placeB ca se = false ∧ decide (1 ≤ ca) = true ∧ decide (ca ≤ 12) = true ∧ decide (0 ≤ se) = false)
    ∨ (placeB ca se = false ∧ decide (1 ≤ ca) = true ∧ decide (ca ≤ 12) = true ∧ decide (0 ≤ se) = true ∧ decide (se ≤ 12) = false) := by
  unfold placeB
  cases h1 : decide (1 ≤ ca)
  · simp
  · cases h2 : decide (ca ≤ 12)
    · simp
    · cases h3 : decide (0 ≤ se)
      · simp
      · cases h4 : decide (se ≤ 12) <;> simp

theorem wpList_load_midg {P : Program} {ops : Array Oper} {rest : List Oper} {op : Oper} {a : Act} {w : World} {Q : Exit → Act → World → Prop} (hw : Region.wanted op (yielded ops a.tmps) = true) (ty : TypeId) (x : Operand) (ho : op.op = .load ty x)
    (b o : Nat) (hx : a.eval x = .pointer (some ⟨b, o, none⟩)) (cs : List Value) (d : TypeDesc) (hc : w.rangeAt b o cs)
    (hu : P.underlying ty = some d) (hd : d.isRow = true) (hi : (P.info? ty).map (·.size) = some cs.length)
    (h : wpList P ops Q rest (a.put op.dst (.agg cs.toArray)) w) : wpList P ops Q (op :: rest) a w :=
  wpList_step fun _ hK => by
    rw [if_pos hw]
    exact wp_load_mid ty x ho b o hx cs d hc hu hd hi (hK _ _ h)

section
variable (l : Lab) (W : World)
end
end Go.Proofs.YtgnfachjobohoaaGreat
