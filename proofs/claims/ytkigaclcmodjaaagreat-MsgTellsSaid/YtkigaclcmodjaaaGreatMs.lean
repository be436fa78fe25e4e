/-
Messages: their cells; stances; messages compared.
-/
import Derived.Test.YtkigaclcmodjaaaGreatOOpen
import Derived.Test.YtkigaclcmodjaaaGreatRows2
namespace Go.Proofs.YtkigaclcmodjaaaGreat
open Go.RowKit
set_option linter.unusedSimpArgs false
set_option linter.unusedVariables false

/-- A stance. -/
structure St where
  h : Bool
  t : Nat
  f : Nat → Nat
def St.cells (s : St) : List Value := [.bool s.h, .int .u64 (s.t : Nat)] ++ vl s.f
def St.zero : St := ⟨false, 0, fun _ => 0⟩
theorem st_len (s : St) : s.cells.length = 14 := by unfold St.cells; rw [List.length_append, vl_len]; rfl
theorem st_0 (s : St) : s.cells[0]? = some (.bool s.h) := rfl
theorem st_1 (s : St) : s.cells[1]? = some (.int .u64 (s.t : Nat)) := rfl
theorem st_2 (s : St) (j : Nat) : s.cells[2 + j]? = (vl s.f)[j]? := by unfold St.cells; rw [List.getElem?_append_right (by simp)]; simp
theorem st_ones (s : St) : ∀ v ∈ s.cells, v.oneCell' = true := by
  intro v hv
  unfold St.cells at hv
  simp only [List.mem_append, List.mem_cons, List.not_mem_nil, or_false] at hv
  rcases hv with (rfl | rfl) | hv
  · rfl
  · rfl
  · exact vl_one _ v hv
theorem st_one (s : St) : s.cells.toArray.all (·.oneCell') = true := all_oneCell_toArray (st_ones s)
theorem st_def (s : St) : s.cells = [.bool s.h, .int .u64 (s.t : Nat)] ++ vl s.f := by unfold St.cells; rfl
def zStL : List Value := [.bool false, .int .u64 0, .int .u32 0, .int .u32 0, .int .u32 0, .int .u32 0, .int .u32 0, .int .u32 0, .int .u32 0, .int .u32 0, .int .u32 0, .int .u32 0, .int .u32 0, .int .u32 0]
theorem st_zeroL : St.zero.cells = zStL := by
  unfold St.cells St.zero zStL
  dsimp only
  rw [show vl (fun _ => 0) = [.int .u32 0, .int .u32 0, .int .u32 0, .int .u32 0, .int .u32 0, .int .u32 0, .int .u32 0, .int .u32 0, .int .u32 0, .int .u32 0, .int .u32 0, .int .u32 0] from congrArg Array.toList vl_zero]
  rfl
attribute [irreducible] St.cells
theorem stinfo (s : St) : (Tryz.prog.info? 33).map (·.size) = some s.cells.length := by rw [st_len]; kernel_rfl
theorem stinfoA (s : St) : (Tryz.prog.info? 33).map (·.size) = some s.cells.toArray.size := by rw [List.size_toArray, st_len]; kernel_rfl
theorem stsize : (Tryz.prog.info? 33).map (·.size) = some 14 := by kernel_rfl
theorem lsize : (Tryz.prog.info? 27).map (·.size) = some 17 := by kernel_rfl
theorem evsize : (Tryz.prog.info? 53).map (·.size) = some 21 := by kernel_rfl
/-- A box that holds a stance. -/
theorem st_all {W : World} {b : Nat} {t : TypeId} {s : St} (h : Blk W b t s.cells.toArray) : W.rangeAt b 0 s.cells ∧ W.rangeAt b 2 (vl s.f) ∧ W.cell? ⟨b, 0, none⟩ = some (.bool s.h) ∧ W.cell? ⟨b, 1, none⟩ = some (.int .u64 (s.t : Nat)) := by
  have hc : ∀ i, W.cell? ⟨b, i, none⟩ = s.cells[i]? := fun i => by rw [h.cell, List.getElem?_toArray]
  exact ⟨h.range, fun j v hv => by rw [hc, st_2, hv], (hc 0).trans (st_0 s), (hc 1).trans (st_1 s)⟩

/-- A message. -/
structure Ms where
  (k se co ca ro : Int)
  (l : Lab)
  (x : Ev)
  (s : St)
def Ms.hd (m : Ms) : List Value := [.int .i64 m.k, .int .i64 m.se, .int .i64 m.co, .int .i64 m.ca, .int .i64 m.ro]
def Ms.cells (m : Ms) : List Value := m.hd ++ m.l.cells ++ m.x.cells ++ m.s.cells
theorem hd_len (m : Ms) : m.hd.length = 5 := rfl
theorem ms_len (m : Ms) : m.cells.length = 57 := by unfold Ms.cells; simp only [List.length_append, hd_len, lab_len, ev_len, st_len]
theorem ms_0 (m : Ms) (j : Nat) (h : j < 5) : m.cells[j]? = m.hd[j]? := by
  unfold Ms.cells
  rw [List.append_assoc, List.append_assoc, List.getElem?_append_left (by rw [hd_len]; exact h)]
theorem ms_l (m : Ms) (j : Nat) (h : j < 17) : m.cells[5 + j]? = m.l.cells[j]? := by
  unfold Ms.cells
  rw [List.append_assoc, List.append_assoc, List.getElem?_append_right (by rw [hd_len]; omega), hd_len, Nat.add_sub_cancel_left, List.getElem?_append_left (by rw [lab_len]; exact h)]
theorem ms_x (m : Ms) (j : Nat) (h : j < 21) : m.cells[22 + j]? = m.x.cells[j]? := by
  unfold Ms.cells
  rw [List.append_assoc, List.getElem?_append_right (by rw [List.length_append, hd_len, lab_len]; omega), List.length_append, hd_len, lab_len, Nat.add_sub_cancel_left, List.getElem?_append_left (by rw [ev_len]; exact h)]
theorem ms_s (m : Ms) (j : Nat) : m.cells[43 + j]? = m.s.cells[j]? := by
  unfold Ms.cells
  rw [List.getElem?_append_right (by simp only [List.length_append, hd_len, lab_len, ev_len]; omega)]
  simp only [List.length_append, hd_len, lab_len, ev_len]
  rw [show 43 + j - (5 + 17 + 21) = j from by omega]
theorem ms_def (m : Ms) : m.cells = m.hd ++ m.l.cells ++ m.x.cells ++ m.s.cells := by unfold Ms.cells; rfl
theorem ms_ones (m : Ms) : ∀ v ∈ m.cells, v.oneCell' = true := by
  intro v hv
  unfold Ms.cells Ms.hd at hv
  simp only [List.mem_append, List.mem_cons, List.not_mem_nil, or_false] at hv
  rcases hv with (((rfl | rfl | rfl | rfl | rfl) | hv) | hv) | hv
  · rfl
  · rfl
  · rfl
  · rfl
  · rfl
  · exact Array.all_eq_true'.1 (lab_one m.l) v (by simpa using hv)
  · exact Array.all_eq_true'.1 (ev_one m.x) v (by simpa using hv)
  · exact st_ones _ v hv
theorem ms_one (m : Ms) : m.cells.toArray.all (·.oneCell') = true := all_oneCell_toArray (ms_ones m)
attribute [irreducible] Ms.cells
theorem msinfo (m : Ms) : (Tryz.prog.info? 55).map (·.size) = some m.cells.length := by rw [ms_len]; kernel_rfl
theorem msinfoA (m : Ms) : (Tryz.prog.info? 55).map (·.size) = some m.cells.toArray.size := by rw [List.size_toArray, ms_len]; kernel_rfl
theorem ms_siz (m : Ms) : (57 : Nat) = m.cells.toArray.size := by rw [List.size_toArray, ms_len]
theorem ms_all {W : World} {b : Nat} {t : TypeId} {m : Ms} (h : Blk W b t m.cells.toArray) :
    W.rangeAt b 0 m.cells ∧ W.rangeAt b 5 m.l.cells ∧ W.rangeAt b 22 m.x.cells ∧ W.rangeAt b 43 m.s.cells ∧ W.cell? ⟨b, 0, none⟩ = some (.int .i64 m.k) ∧ W.cell? ⟨b, 1, none⟩ = some (.int .i64 m.se) ∧ W.cell? ⟨b, 2, none⟩ = some (.int .i64 m.co) ∧ W.cell? ⟨b, 3, none⟩ = some (.int .i64 m.ca) ∧ W.cell? ⟨b, 4, none⟩ = some (.int .i64 m.ro) := by
  have hc : ∀ i, W.cell? ⟨b, i, none⟩ = m.cells[i]? := fun i => by rw [h.cell, List.getElem?_toArray]
  refine ⟨h.range, fun j v hv => ?_, fun j v hv => ?_, fun j v hv => by rw [hc, ms_s, hv], (hc 0).trans (ms_0 m 0 (by omega)), (hc 1).trans (ms_0 m 1 (by omega)), (hc 2).trans (ms_0 m 2 (by omega)), (hc 3).trans (ms_0 m 3 (by omega)), (hc 4).trans (ms_0 m 4 (by omega))⟩
  · have hj : j < 17 := by have := (List.getElem?_eq_some_iff.1 hv).1; rwa [lab_len] at this
    rw [hc, ms_l m j hj, hv]
  · have hj : j < 21 := by have := (List.getElem?_eq_some_iff.1 hv).1; rwa [ev_len] at this
    rw [hc, ms_x m j hj, hv]

/-- Parts of a struct. -/
theorem part_struct {ty : TypeId} {fs : _} {cs xs : List Value} {o n : Nat} (hu : Tryz.prog.underlying ty = some (.struct fs)) (hi : (Tryz.prog.info? ty).map (·.size) = some n) (hn : xs.length = n) (h : ∀ j, j < n → cs[o + j]? = xs[j]?) (w : World) :
    (part ty cs.toArray o).run Tryz.prog w = .ok (.agg xs.toArray) w := by
  have hx : cs.toArray.extract o (o + n) = xs.toArray := by
    apply Array.ext_getElem?
    intro i
    rw [Array.getElem?_extract, List.getElem?_toArray, List.getElem?_toArray, List.size_toArray]
    by_cases hi : i < n
    · have h1 := h i hi
      have h2 : xs[i]? ≠ none := by rw [Ne, List.getElem?_eq_none_iff]; omega
      have h3 : o + i < cs.length := by
        rcases Nat.lt_or_ge (o + i) cs.length with h4 | h4
        · exact h4
        · rw [List.getElem?_eq_none h4] at h1; exact absurd h1.symm h2
      rw [if_pos (by omega), h1]
    · have : xs[i]? = none := List.getElem?_eq_none (by omega)
      rw [if_neg (by omega), this]
  have hx' : List.take n (List.drop o cs) = xs := by simpa using congrArg Array.toList hx
  simp [part, isAgg, run_underlying hu, run_sizeOf hi, hx']
theorem part_boolM {xs : Array Value} {o : Nat} {v : Value} (h : xs[o]? = some v) (w : World) : (part 4 xs o).run Tryz.prog w = .ok v w := by
  simp [part, isAgg, run_underlying Tryz.underlying4, h]
theorem part_vecM {cs : List Value} {f : Nat → Nat} {o : Nat} (h : ∀ j, j < 12 → cs[o + j]? = (vl f)[j]?) (w : World) : (part 25 cs.toArray o).run Tryz.prog w = .ok (.agg (vl f).toArray) w := by
  have hx : cs.toArray.extract o (o + 12) = (vl f).toArray := by
    apply Array.ext_getElem?
    intro i
    rw [Array.getElem?_extract, List.getElem?_toArray, List.getElem?_toArray, List.size_toArray]
    by_cases hi : i < 12
    · have h1 := h i hi
      have h2 : (vl f)[i]? ≠ none := by rw [Ne, List.getElem?_eq_none_iff, vl_len]; omega
      have h3 : o + i < cs.length := by
        rcases Nat.lt_or_ge (o + i) cs.length with h4 | h4
        · exact h4
        · rw [List.getElem?_eq_none h4] at h1; exact absurd h1.symm h2
      rw [if_pos (by omega), h1]
    · have : (vl f)[i]? = none := List.getElem?_eq_none (by rw [vl_len]; omega)
      rw [if_neg (by omega), this]
  have hx' : List.take 12 (List.drop o cs) = vl f := by simpa using congrArg Array.toList hx
  simp [part, isAgg, run_underlying Tryz.underlying25, run_sizeOf vsize, hx']
set_option maxRecDepth 20000 in
theorem eq_labD (d : Nat) (a b : Lab) (w : World) : (Op.equalIn (d + 3) 27 (.agg a.cells.toArray) (.agg b.cells.toArray)).run Tryz.prog w = .ok (eqL a b) w := by
  have g0 : ∀ l : Lab, l.cells.toArray[0]? = some (.int .u64 (l.t : Nat)) := fun l => by rw [List.getElem?_toArray]; exact lab_0
  have g1 : ∀ l : Lab, l.cells.toArray[1]? = some (.int .i64 l.nd) := fun l => by rw [List.getElem?_toArray]; exact lab_1
  have g2 : ∀ l : Lab, l.cells.toArray[2]? = some (.int .u32 (l.n : Nat)) := fun l => by rw [List.getElem?_toArray]; exact lab_2
  have g3 : ∀ l : Lab, l.cells.toArray[3]? = some (.int .i64 l.ca) := fun l => by rw [List.getElem?_toArray]; exact lab_3
  have g4 : ∀ l : Lab, l.cells.toArray[4]? = some (.int .i64 l.se) := fun l => by rw [List.getElem?_toArray]; exact lab_4
  have g5 : ∀ l : Lab, ∀ w, (part 25 l.cells.toArray 5).run Tryz.prog w = .ok (.agg (vl l.f).toArray) w := fun l w => part_vecM (fun j _ => lab_5 (l := l) (j := j)) w
  rw [run_equalIn_struct w (d + 2) _ _ _ (by kernel_rfl) (by kernel_rfl), eq_tr (d + 2) _ _ _ _ w labFields]
  rw [run_eqTr w (part_u64 (g0 a)) (part_u64 (g0 b)) (fun w => run_equalIn_int w (d + 1) _ _ _ _ _ Tryz.underlying22), run_eqTr w (part_int (g1 a)) (part_int (g1 b)) (fun w => run_equalIn_int w (d + 1) _ _ _ _ _ Tryz.underlying3),
    run_eqTr w (part_u32 (g2 a)) (part_u32 (g2 b)) (fun w => run_equalIn_int w (d + 1) _ _ _ _ _ Tryz.underlying23), run_eqTr w (part_int (g3 a)) (part_int (g3 b)) (fun w => run_equalIn_int w (d + 1) _ _ _ _ _ Tryz.underlying3),
    run_eqTr w (part_int (g4 a)) (part_int (g4 b)) (fun w => run_equalIn_int w (d + 1) _ _ _ _ _ Tryz.underlying3), run_eqTr w (g5 a) (g5 b) (fun w => run_equalIn_vec d a.f b.f w)]
  unfold eqL
  cases ((a.t : Int) == (b.t : Int)) <;> cases (a.nd == b.nd) <;> cases ((a.n : Int) == (b.n : Int)) <;> cases (a.ca == b.ca) <;> cases (a.se == b.se) <;> cases eqB a.f b.f <;> simp [eqTr]
set_option maxRecDepth 20000 in
theorem stFields : (Tryz.prog.fieldsOf 33).toList.map (fun f => (f.name != "_", f.type, f.offset)) = [(true, 4, 0), (true, 22, 1), (true, 25, 2)] := by kernel_rfl
def eqSt (a b : St) : Bool := (a.h == b.h) && ((a.t : Int) == (b.t : Int)) && eqB a.f b.f
set_option maxRecDepth 20000 in
theorem eq_stD (d : Nat) (a b : St) (w : World) : (Op.equalIn (d + 3) 33 (.agg a.cells.toArray) (.agg b.cells.toArray)).run Tryz.prog w = .ok (eqSt a b) w := by
  have g0 : ∀ l : St, l.cells.toArray[0]? = some (.bool l.h) := fun l => by rw [List.getElem?_toArray]; exact st_0 l
  have g1 : ∀ l : St, l.cells.toArray[1]? = some (.int .u64 (l.t : Nat)) := fun l => by rw [List.getElem?_toArray]; exact st_1 l
  rw [run_equalIn_struct w (d + 2) _ _ _ (by kernel_rfl) (by kernel_rfl), eq_tr (d + 2) _ _ _ _ w stFields]
  rw [run_eqTr w (part_boolM (g0 a)) (part_boolM (g0 b)) (fun w => run_equalIn_bool w (d + 1) _ _ _ Tryz.underlying4), run_eqTr w (part_u64 (g1 a)) (part_u64 (g1 b)) (fun w => run_equalIn_int w (d + 1) _ _ _ _ _ Tryz.underlying22), run_eqTr w (part_vecM (fun j _ => st_2 a j)) (part_vecM (fun j _ => st_2 b j)) (fun w => run_equalIn_vec d a.f b.f w)]
  unfold eqSt
  cases (a.h == b.h) <;> cases ((a.t : Int) == (b.t : Int)) <;> cases eqB a.f b.f <;> simp [eqTr]
/-- Nothing. -/
def Lab.zero : Lab := ⟨0, 0, 0, 0, 0, fun _ => 0⟩
def OpR.zero : OpR := ⟨0, 0, 0, 0⟩
def Ev.zero : Ev := ⟨Lab.zero, OpR.zero⟩
theorem lab_zeroL : Lab.zero.cells = zLabL := by
  rw [show Lab.zero.cells = [.int .u64 0, .int .i64 0, .int .u32 0, .int .i64 0, .int .i64 0] ++ vl (fun _ => 0) from by unfold Lab.cells Lab.zero; rfl]
  rw [show vl (fun _ => 0) = [.int .u32 0, .int .u32 0, .int .u32 0, .int .u32 0, .int .u32 0, .int .u32 0, .int .u32 0, .int .u32 0, .int .u32 0, .int .u32 0, .int .u32 0, .int .u32 0] from congrArg Array.toList vl_zero]
  rfl
theorem ev_zeroA : Ev.zero.cells.toArray = #[.int .u64 0, .int .i64 0, .int .u32 0, .int .i64 0, .int .i64 0, .int .u32 0, .int .u32 0, .int .u32 0, .int .u32 0, .int .u32 0, .int .u32 0, .int .u32 0, .int .u32 0, .int .u32 0, .int .u32 0, .int .u32 0, .int .u32 0, .int .i64 0, .int .i64 0, .int .i64 0, .float .f64 0] := by
  rw [ev_def, show Ev.zero.l = Lab.zero from rfl, show Ev.zero.o = OpR.zero from rfl, lab_zeroL, op_cells]
  rfl
theorem built_ez : Tryz.prog.built 53 [] = some Ev.zero.cells.toArray := by rw [ev_zeroA]; kernel_rfl
set_option maxRecDepth 20000 in
theorem evFields : (Tryz.prog.fieldsOf 53).toList.map (fun f => (f.name != "_", f.type, f.offset)) = [(true, 27, 0), (true, 51, 17)] := by kernel_rfl
set_option maxRecDepth 20000 in
theorem eq_opz (d : Nat) (w : World) : (Op.equalIn (d + 2) 51 (.agg OpR.zero.cells.toArray) (.agg OpR.zero.cells.toArray)).run Tryz.prog w = .ok true w := by
  rw [op_arr]
  rw [run_equalIn_struct w (d + 1) _ _ _ (by kernel_rfl) (by kernel_rfl), eq_tr (d + 1) _ _ _ _ w opFields]
  rw [run_eqTr w (part_int rfl) (part_int rfl) (fun w => run_equalIn_int w d _ _ _ _ _ Tryz.underlying3), run_eqTr w (part_int rfl) (part_int rfl) (fun w => run_equalIn_int w d _ _ _ _ _ Tryz.underlying3), run_eqTr w (part_int rfl) (part_int rfl) (fun w => run_equalIn_int w d _ _ _ _ _ Tryz.underlying3), run_eqTr w (part_f64 rfl) (part_f64 rfl) (eq_float0' d)]
  simp [eqTr, OpR.zero]
set_option maxRecDepth 20000 in
theorem eq_evz (d : Nat) (w : World) : (Op.equalIn (d + 4) 53 (.agg Ev.zero.cells.toArray) (.agg Ev.zero.cells.toArray)).run Tryz.prog w = .ok true w := by
  have g0 : ∀ w, (part 27 Ev.zero.cells.toArray 0).run Tryz.prog w = .ok (.agg Lab.zero.cells.toArray) w := fun w => part_struct Tryz.underlying27 lsize lab_len (fun j hj => by rw [Nat.zero_add]; exact ev_lab Ev.zero hj) w
  have g1 : ∀ w, (part 51 Ev.zero.cells.toArray 17).run Tryz.prog w = .ok (.agg OpR.zero.cells.toArray) w := fun w => part_struct Tryz.underlying51 (n := 4) (by kernel_rfl) op_len (fun j hj => ev_op Ev.zero j) w
  rw [run_equalIn_struct w (d + 3) _ _ _ (by kernel_rfl) (by kernel_rfl), eq_tr (d + 3) _ _ _ _ w evFields]
  rw [run_eqTr w g0 g0 (fun w => eq_labD d Lab.zero Lab.zero w), run_eqTr w g1 g1 (fun w => eq_opz (d + 1) w), eqL_self]
  simp [eqTr]
set_option maxRecDepth 20000 in
theorem msFields : (Tryz.prog.fieldsOf 55).toList.map (fun f => (f.name != "_", f.type, f.offset)) = [(true, 3, 0), (true, 3, 1), (true, 3, 2), (true, 3, 3), (true, 3, 4), (true, 27, 5), (true, 53, 22), (true, 33, 43)] := by kernel_rfl
def eqM (a b : Ms) : Bool := (a.k == b.k) && (a.se == b.se) && (a.co == b.co) && (a.ca == b.ca) && (a.ro == b.ro) && eqL a.l b.l && eqSt a.s b.s
set_option maxRecDepth 20000 in
theorem eq_ms (a b : Ms) (ha : a.x = Ev.zero) (hb : b.x = Ev.zero) (w : World) : (Op.equalIn 10000 55 (.agg a.cells.toArray) (.agg b.cells.toArray)).run Tryz.prog w = .ok (eqM a b) w := by
  have g0 : ∀ m : Ms, m.cells.toArray[0]? = some (.int .i64 m.k) := fun l => by rw [List.getElem?_toArray]; exact ms_0 l 0 (by omega)
  have g1 : ∀ m : Ms, m.cells.toArray[1]? = some (.int .i64 m.se) := fun l => by rw [List.getElem?_toArray]; exact ms_0 l 1 (by omega)
  have g2 : ∀ m : Ms, m.cells.toArray[2]? = some (.int .i64 m.co) := fun l => by rw [List.getElem?_toArray]; exact ms_0 l 2 (by omega)
  have g3 : ∀ m : Ms, m.cells.toArray[3]? = some (.int .i64 m.ca) := fun l => by rw [List.getElem?_toArray]; exact ms_0 l 3 (by omega)
  have g4 : ∀ m : Ms, m.cells.toArray[4]? = some (.int .i64 m.ro) := fun l => by rw [List.getElem?_toArray]; exact ms_0 l 4 (by omega)
  have g5 : ∀ m : Ms, ∀ w, (part 27 m.cells.toArray 5).run Tryz.prog w = .ok (.agg m.l.cells.toArray) w := fun m w => part_struct Tryz.underlying27 lsize lab_len (fun j hj => ms_l m j hj) w
  have g6 : ∀ m : Ms, m.x = Ev.zero → ∀ w, (part 53 m.cells.toArray 22).run Tryz.prog w = .ok (.agg Ev.zero.cells.toArray) w := fun m h w => by rw [← h]; exact part_struct Tryz.underlying53 evsize ev_len (fun j hj => ms_x m j hj) w
  have g7 : ∀ m : Ms, ∀ w, (part 33 m.cells.toArray 43).run Tryz.prog w = .ok (.agg m.s.cells.toArray) w := fun m w => part_struct Tryz.underlying33 stsize (st_len _) (fun j hj => ms_s m j) w
  rw [run_equalIn_struct w 9999 _ _ _ (by kernel_rfl) (by kernel_rfl), eq_tr 9999 _ _ _ _ w msFields]
  rw [run_eqTr w (part_int (g0 a)) (part_int (g0 b)) (fun w => run_equalIn_int w 9998 _ _ _ _ _ Tryz.underlying3), run_eqTr w (part_int (g1 a)) (part_int (g1 b)) (fun w => run_equalIn_int w 9998 _ _ _ _ _ Tryz.underlying3),
    run_eqTr w (part_int (g2 a)) (part_int (g2 b)) (fun w => run_equalIn_int w 9998 _ _ _ _ _ Tryz.underlying3), run_eqTr w (part_int (g3 a)) (part_int (g3 b)) (fun w => run_equalIn_int w 9998 _ _ _ _ _ Tryz.underlying3),
    run_eqTr w (part_int (g4 a)) (part_int (g4 b)) (fun w => run_equalIn_int w 9998 _ _ _ _ _ Tryz.underlying3), run_eqTr w (g5 a) (g5 b) (fun w => eq_labD 9996 a.l b.l w), run_eqTr w (g6 a ha) (g6 b hb) (fun w => eq_evz 9995 w), run_eqTr w (g7 a) (g7 b) (fun w => eq_stD 9996 a.s b.s w)]
  unfold eqM
  cases (a.k == b.k) <;> cases (a.se == b.se) <;> cases (a.co == b.co) <;> cases (a.ca == b.ca) <;> cases (a.ro == b.ro) <;> cases eqL a.l b.l <;> cases eqSt a.s b.s <;> simp [eqTr]
end Go.Proofs.YtkigaclcmodjaaaGreat
