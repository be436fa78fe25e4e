/-
peers: what a shard's peers are; made, Node, at, State, has, isOther.
-/
import Derived.Test.YtlceljcplmcjgaaNds
namespace Go.Proofs.Ytlceljcplmcjgaa
open Go.RowKit
set_option linter.unusedSimpArgs false
set_option linter.unusedVariables false
namespace Pe
/-- A shard's peers: of the seller k + 1 a state, and whether the node j + 1 is a peer. -/
structure PS where
  n : Int
  st : Nat → Int
  pe : Nat → Nat → Bool
def bl (p : Nat → Bool) : List Value := (List.range 12).map fun i => .bool (p i)
theorem bl_len (p : Nat → Bool) : (bl p).length = 12 := by simp [bl]
theorem bl_get (p : Nat → Bool) {i : Nat} (h : i < 12) : (bl p)[i]? = some (.bool (p i)) := by
  unfold bl
  rw [List.getElem?_map, List.getElem?_range h]; rfl
theorem bl_one (p : Nat → Bool) : ∀ v ∈ bl p, v.oneCell' = true := by
  intro v hv
  unfold bl at hv
  obtain ⟨i, _, rfl⟩ := List.mem_map.1 hv
  rfl
theorem bl_ext {p q : Nat → Bool} (h : ∀ i, i < 12 → p i = q i) : bl p = bl q := by
  unfold bl
  refine List.map_congr_left fun i hi => ?_
  rw [h i (List.mem_range.1 hi)]
theorem bl_zero : bl (fun _ => false) = [.bool false, .bool false, .bool false, .bool false, .bool false, .bool false, .bool false, .bool false, .bool false, .bool false, .bool false, .bool false] := rfl
attribute [irreducible] bl
def sl (s : Int) (p : Nat → Bool) : List Value := [.int .i64 s] ++ bl p
theorem sl_len (s : Int) (p : Nat → Bool) : (sl s p).length = 13 := by unfold sl; rw [List.length_append, bl_len]; rfl
theorem sl_0 (s : Int) (p : Nat → Bool) : (sl s p)[0]? = some (.int .i64 s) := rfl
theorem sl_1 (s : Int) (p : Nat → Bool) (j : Nat) : (sl s p)[1 + j]? = (bl p)[j]? := by unfold sl; rw [List.getElem?_append_right (by simp)]; simp
theorem sl_at (s : Int) (p : Nat → Bool) {j : Nat} (h : j < 13) : (sl s p)[j]? = some (if j = 0 then .int .i64 s else .bool (p (j - 1))) := by
  cases j with
  | zero => rfl
  | succ j => rw [show j + 1 = 1 + j by omega, sl_1, bl_get p (by omega), if_neg (by omega), show 1 + j - 1 = j by omega]
theorem sl_one (s : Int) (p : Nat → Bool) : ∀ v ∈ sl s p, v.oneCell' = true := by
  intro v hv
  unfold sl at hv
  rcases List.mem_append.1 hv with h | h
  · simp at h; subst h; rfl
  · exact bl_one _ v h
theorem sl_all (s : Int) (p : Nat → Bool) : (sl s p).toArray.all (·.oneCell') = true := all_oneCell_toArray (sl_one s p)
theorem sl_zero : (sl 0 (fun _ => false)).toArray = #[.int .i64 0, .bool false, .bool false, .bool false, .bool false, .bool false, .bool false, .bool false, .bool false, .bool false, .bool false, .bool false, .bool false] := by unfold sl; rw [bl_zero]; rfl
theorem sl_ext1 (s : Int) (p : Nat → Bool) : (sl s p).toArray.extract 1 13 = (bl p).toArray := by
  unfold sl
  simp
  rw [List.take_of_length_le (by rw [bl_len]; omega)]
attribute [irreducible] sl
def sls (st : Nat → Int) (pe : Nat → Nat → Bool) (n : Nat) : List Value := (List.range n).flatMap fun k => sl (st k) (pe k)
theorem sls_succ (st : Nat → Int) (pe : Nat → Nat → Bool) (n : Nat) : sls st pe (n + 1) = sls st pe n ++ sl (st n) (pe n) := by unfold sls; rw [List.range_succ]; simp
theorem sls_len (st : Nat → Int) (pe : Nat → Nat → Bool) : ∀ n, (sls st pe n).length = 13 * n
  | 0 => rfl
  | n + 1 => by rw [sls_succ, List.length_append, sls_len st pe n, sl_len]; omega
theorem sls_get (st : Nat → Int) (pe : Nat → Nat → Bool) (k j : Nat) (hj : j < 13) : ∀ n, k < n → (sls st pe n)[13 * k + j]? = (sl (st k) (pe k))[j]?
  | 0, h => by omega
  | n + 1, h => by
    rw [sls_succ]
    by_cases hk : k < n
    · rw [List.getElem?_append_left (by rw [sls_len]; omega)]
      exact sls_get st pe k j hj n hk
    · have hkn : k = n := by omega
      subst hkn
      rw [List.getElem?_append_right (by rw [sls_len]; omega), sls_len, show 13 * k + j - 13 * k = j by omega]
def PS.cells (x : PS) : List Value := [.int .i64 x.n] ++ sls x.st x.pe 12
theorem ps_len (x : PS) : x.cells.length = 157 := by unfold PS.cells; rw [List.length_append, sls_len]; rfl
theorem ps_0 (x : PS) : x.cells[0]? = some (.int .i64 x.n) := rfl
theorem ps_k (x : PS) {k j : Nat} (hk : k < 12) (hj : j < 13) : x.cells[1 + k * 13 + j]? = (sl (x.st k) (x.pe k))[j]? := by
  unfold PS.cells
  rw [List.getElem?_append_right (by simp; omega), show 1 + k * 13 + j - ([Value.int .i64 x.n].length) = 13 * k + j by simp; omega]
  exact sls_get _ _ k j hj 12 hk
theorem ps_one (x : PS) : ∀ v ∈ x.cells, v.oneCell' = true := by
  intro v hv
  unfold PS.cells sls at hv
  rcases List.mem_append.1 hv with h | h
  · simp at h; subst h; rfl
  · obtain ⟨i, _, h⟩ := List.mem_flatMap.1 h
    exact sl_one _ _ v h
theorem ps_all (x : PS) : x.cells.toArray.all (·.oneCell') = true := all_oneCell_toArray (ps_one x)
def PS.setSt (x : PS) (k : Nat) (s : Int) : PS := { x with st := fun i => if i = k then s else x.st i }
def PS.setPe (x : PS) (k j : Nat) (b : Bool) : PS := { x with pe := fun i l => if i = k ∧ l = j then b else x.pe i l }
def PS.clear (x : PS) (k : Nat) : PS := { x with st := fun i => if i = k then 0 else x.st i, pe := fun i l => if i = k then false else x.pe i l }
/-- Where a cell lies. -/
theorem ps_at (x : PS) (i : Nat) (h : i < 157) : x.cells[i]? = some (if i = 0 then .int .i64 x.n else if (i - 1) % 13 = 0 then .int .i64 (x.st ((i - 1) / 13)) else .bool (x.pe ((i - 1) / 13) ((i - 1) % 13 - 1))) := by
  by_cases h0 : i = 0
  · subst h0; rfl
  · have := ps_k x (k := (i - 1) / 13) (j := (i - 1) % 13) (by omega) (by omega)
    rw [show 1 + (i - 1) / 13 * 13 + (i - 1) % 13 = i by omega, sl_at _ _ (by omega)] at this
    rw [this, if_neg h0]
theorem ps_out (x : PS) (i : Nat) (h : ¬ i < 157) : x.cells[i]? = none := List.getElem?_eq_none (by rw [ps_len]; omega)
theorem ps_setSt (x : PS) {k : Nat} (hk : k < 12) (s : Int) : x.cells.set (1 + k * 13) (.int .i64 s) = (x.setSt k s).cells := by
  apply List.ext_getElem?
  intro i
  rw [List.getElem?_set, ps_len]
  by_cases hi : i < 157
  · rw [ps_at _ i hi, ps_at _ i hi]
    by_cases h : 1 + k * 13 = i
    · rw [if_pos h, if_pos (by omega), if_neg (by omega), if_pos (by omega)]
      show _ = some (Value.int .i64 (if (i - 1) / 13 = k then s else _))
      rw [if_pos (by omega)]
    · rw [if_neg h]
      by_cases h0 : i = 0
      · rw [if_pos h0, if_pos h0]; rfl
      · rw [if_neg h0, if_neg h0]
        by_cases h1 : (i - 1) % 13 = 0
        · rw [if_pos h1, if_pos h1]
          show _ = some (Value.int .i64 (if (i - 1) / 13 = k then s else _))
          rw [if_neg (by omega)]
        · rw [if_neg h1, if_neg h1]; rfl
  · rw [ps_out _ i hi, ps_out _ i hi, if_neg (by omega)]
theorem ps_setPe (x : PS) {k j : Nat} (hk : k < 12) (hj : j < 12) (b : Bool) : x.cells.set (1 + k * 13 + 1 + j) (.bool b) = (x.setPe k j b).cells := by
  apply List.ext_getElem?
  intro i
  rw [List.getElem?_set, ps_len]
  by_cases hi : i < 157
  · rw [ps_at _ i hi, ps_at _ i hi]
    by_cases h : 1 + k * 13 + 1 + j = i
    · rw [if_pos h, if_pos (by omega), if_neg (by omega), if_neg (by omega)]
      show _ = some (Value.bool (if (i - 1) / 13 = k ∧ (i - 1) % 13 - 1 = j then b else _))
      rw [if_pos (by omega)]
    · rw [if_neg h]
      by_cases h0 : i = 0
      · rw [if_pos h0, if_pos h0]; rfl
      · rw [if_neg h0, if_neg h0]
        by_cases h1 : (i - 1) % 13 = 0
        · rw [if_pos h1, if_pos h1]; rfl
        · rw [if_neg h1, if_neg h1]
          show _ = some (Value.bool (if (i - 1) / 13 = k ∧ (i - 1) % 13 - 1 = j then b else _))
          rw [if_neg (by omega)]
  · rw [ps_out _ i hi, ps_out _ i hi, if_neg (by omega)]
theorem ps_clear (x : PS) {k : Nat} (hk : k < 12) : x.cells.take (1 + k * 13) ++ sl 0 (fun _ => false) ++ x.cells.drop (1 + k * 13 + 13) = (x.clear k).cells := by
  apply List.ext_getElem?
  intro i
  rw [List.append_assoc]
  by_cases h1 : i < 1 + k * 13
  · rw [List.getElem?_append_left (by rw [List.length_take, ps_len]; omega), List.getElem?_take_of_lt h1, ps_at _ i (by omega), ps_at _ i (by omega)]
    by_cases h0 : i = 0
    · rw [if_pos h0, if_pos h0]; rfl
    · rw [if_neg h0, if_neg h0]
      have hne : ¬ (i - 1) / 13 = k := by omega
      unfold PS.clear
      dsimp only
      rw [if_neg hne, if_neg hne]
  · rw [List.getElem?_append_right (by rw [List.length_take, ps_len]; omega), List.length_take, ps_len, show min (1 + k * 13) 157 = 1 + k * 13 by omega]
    by_cases h2 : i < 1 + k * 13 + 13
    · rw [List.getElem?_append_left (by rw [sl_len]; omega), sl_at _ _ (by omega), ps_at _ i (by omega), if_neg (show ¬ i = 0 by omega)]
      have he : (i - 1) / 13 = k := by omega
      unfold PS.clear
      dsimp only
      rw [if_pos he, if_pos he]
      by_cases h3 : i - (1 + k * 13) = 0
      · rw [if_pos h3, if_pos (by omega)]
      · rw [if_neg h3, if_neg (by omega)]
    · rw [List.getElem?_append_right (by rw [sl_len]; omega), sl_len, List.getElem?_drop, show 1 + k * 13 + 13 + (i - (1 + k * 13) - 13) = i by omega]
      by_cases hi : i < 157
      · rw [ps_at _ i hi, ps_at _ i hi, if_neg (show ¬ i = 0 by omega), if_neg (show ¬ i = 0 by omega)]
        have hne : ¬ (i - 1) / 13 = k := by omega
        unfold PS.clear
        dsimp only
        rw [if_neg hne, if_neg hne]
      · rw [ps_out _ i hi, ps_out _ i hi]
attribute [irreducible] PS.cells
theorem psinfo (x : PS) : (Try.prog.info? 50).map (·.size) = some x.cells.length := by rw [ps_len]; kernel_rfl
theorem psinfoA (x : PS) : (Try.prog.info? 50).map (·.size) = some x.cells.toArray.size := by rw [List.size_toArray, ps_len]; kernel_rfl
theorem slinfo (s : Int) (p : Nat → Bool) : (Try.prog.info? 47).map (·.size) = some (sl s p).length := by rw [sl_len]; kernel_rfl
theorem slinfoA (s : Int) (p : Nat → Bool) : (Try.prog.info? 47).map (·.size) = some (sl s p).toArray.size := by rw [List.size_toArray, sl_len]; kernel_rfl
/-- Block d is a shard's peers, laid at B or behind it. -/
def PP (W : World) (B d : Nat) (x : PS) : Prop := Blk W d 50 x.cells.toArray ∧ B ≤ d
section
variable {W W' : World} {B d : Nat} {x : PS}
theorem PP.lt (h : PP W B d x) : d < W.heap.size := h.1.lt
theorem PP.next (h : PP W B d x) (hb : Below W.heap.size W W') : PP W' B d x := ⟨h.1.next hb, h.2⟩
theorem PP.keep (h : PP W B d x) (hk : W'.heap[d]? = W.heap[d]?) : PP W' B d x := ⟨hk.trans h.1, h.2⟩
theorem PP.cell (h : PP W B d x) (i : Nat) : W.cell? ⟨d, i, none⟩ = x.cells[i]? := by rw [h.1.cell, List.getElem?_toArray]
theorem PP.c0 (h : PP W B d x) : W.cell? ⟨d, 0, none⟩ = some (.int .i64 x.n) := (h.cell 0).trans (ps_0 x)
theorem PP.cs (h : PP W B d x) {k : Nat} (hk : k < 12) : W.cell? ⟨d, 1 + k * 13, none⟩ = some (.int .i64 (x.st k)) := (h.cell _).trans ((ps_k x (j := 0) hk (by omega)).trans (sl_0 _ _))
theorem PP.cp (h : PP W B d x) {k j : Nat} (hk : k < 12) (hj : j < 12) : W.cell? ⟨d, 1 + k * 13 + 1 + j, none⟩ = some (.bool (x.pe k j)) := by
  rw [h.cell, show 1 + k * 13 + 1 + j = 1 + k * 13 + (1 + j) by omega, ps_k x hk (by omega), sl_1, bl_get _ hj]
theorem PP.rs (h : PP W B d x) {k : Nat} (hk : k < 12) : W.rangeAt d (1 + k * 13) (sl (x.st k) (x.pe k)) := fun j u hj => by
  have hj2 : j < 13 := by have := (List.getElem?_eq_some_iff.1 hj).1; rwa [sl_len] at this
  rw [h.cell, ps_k x hk hj2, hj]
end
def numB (n : Int) : Bool := decide (1 ≤ n) && decide (n ≤ 12)
theorem numB_yes {n : Int} (h1 : 1 ≤ n) (h2 : n ≤ 12) : numB n = true := by simp [numB, h1, h2]
theorem numB_no {n : Int} (h : ¬ (1 ≤ n ∧ n ≤ 12)) : numB n = false := by simp [numB]; omega
theorem num_of {n : Int} (h : numB n = true) : ∃ k : Nat, k < 12 ∧ n = (k : Int) + 1 := by
  unfold numB at h
  simp at h
  exact ⟨(n - 1).toNat, by omega, by omega⟩
theorem num_in {n : Int} : numB n = true ↔ 1 ≤ n ∧ n ≤ 12 := by unfold numB; simp
attribute [irreducible] numB
def PS.stV (x : PS) (n : Int) : Int := if x.n ≠ 0 ∧ numB n = true then x.st (n - 1).toNat else 0
def PS.peV (x : PS) (n : Int) : Nat → Bool := if x.n ≠ 0 ∧ numB n = true then x.pe (n - 1).toNat else fun _ => false
def PS.hasV (x : PS) (n m : Int) : Bool := numB m && x.peV n (m - 1).toNat
section
variable (W : World)
theorem isnode_any (n : Int) : Calls Try.prog 28 #[.int .i64 n] W fun e W' => e = .returned (.bool (numB n)) ∧ W = W' := by
  by_cases h : 1 ≤ n
  · by_cases h2 : n ≤ 12
    · have H := Lib.hid (numB_yes h h2)
      go_enter Try.func28, Try.ntmps28
      go_wp2
      go_ret
      exact ⟨by rw [H.out]; rfl, rfl⟩
    · have H := Lib.hid (numB_no (n := n) (by omega))
      go_enter Try.func28, Try.ntmps28
      go_wp2
      go_ret
      exact ⟨by rw [H.out]; rfl, rfl⟩
  · have H := Lib.hid (numB_no (n := n) (by omega))
    go_enter Try.func28, Try.ntmps28
    go_wp2
    go_ret
    exact ⟨by rw [H.out]; rfl, rfl⟩
theorem isseller_any (n : Int) : Calls Try.prog 42 #[.int .i64 n] W fun e W' => e = .returned (.bool (numB n)) ∧ W = W' := by
  by_cases h : 1 ≤ n
  · by_cases h2 : n ≤ 12
    · have H := Lib.hid (numB_yes h h2)
      go_enter Try.func42, Try.ntmps42
      go_wp2
      go_ret
      exact ⟨by rw [H.out]; rfl, rfl⟩
    · have H := Lib.hid (numB_no (n := n) (by omega))
      go_enter Try.func42, Try.ntmps42
      go_wp2
      go_ret
      exact ⟨by rw [H.out]; rfl, rfl⟩
  · have H := Lib.hid (numB_no (n := n) (by omega))
    go_enter Try.func42, Try.ntmps42
    go_wp2
    go_ret
    exact ⟨by rw [H.out]; rfl, rfl⟩
theorem made_nil : Calls Try.prog 41 #[.pointer none] W fun e W' => e = .returned (.bool false) ∧ W = W' := by
  go_enter Try.func41, Try.ntmps41
  go_wp2_with fail
  go_ret
  exact ⟨rfl, rfl⟩
variable {B d : Nat} {x : PS}
theorem made_any (h : PP W B d x) : Calls Try.prog 41 #[.pointer (some ⟨d, 0, none⟩)] W fun e W' => e = .returned (.bool (decide (x.n ≠ 0))) ∧ W = W' := by
  have c0 := h.c0
  obtain ⟨n, hn⟩ : ∃ n, n = x.n := ⟨_, rfl⟩
  rw [← hn] at c0
  rw [← hn]
  clear h hn
  by_cases h0 : n = 0
  · subst h0
    go_enter Try.func41, Try.ntmps41
    go_wp2_with fail
    go_ret
    exact ⟨rfl, rfl⟩
  · have e0 : (n != 0) = true := by simp [h0]
    have H0 := Lib.hid h0
    clear h0
    go_enter Try.func41, Try.ntmps41
    go_wp2_with fail
    go_ret
    exact ⟨by rw [decide_eq_true (show n ≠ 0 from H0.out)]; rfl, rfl⟩
theorem node_nil : Calls Try.prog 20 #[.pointer none] W fun e W' => e = .returned (.int .i64 0) ∧ W = W' := by
  go_enter Try.func20, Try.ntmps20
  go_wp2_with fail
  go_ret
  exact ⟨rfl, rfl⟩
theorem node_any (h : PP W B d x) : Calls Try.prog 20 #[.pointer (some ⟨d, 0, none⟩)] W fun e W' => e = .returned (.int .i64 x.n) ∧ W = W' := by
  have c0 := h.c0
  clear h
  go_enter Try.func20, Try.ntmps20
  go_wp2_with fail
  go_ret
  exact ⟨rfl, rfl⟩
end
end Pe
end Go.Proofs.Ytlceljcplmcjgaa
