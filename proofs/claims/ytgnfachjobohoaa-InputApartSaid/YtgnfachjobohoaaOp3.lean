/-
op.Customers; events: Right, Same; PutOp, Put.
-/
import Derived.Test.YtgnfachjobohoaaOp2
namespace Go.Proofs.Ytgnfachjobohoaa
open Go.RowKit

/-- A box's cells of an op. -/
theorem op_all {W : World} {b : Nat} {t : TypeId} {o : OpR} (h : Blk W b t o.cells.toArray) : W.rangeAt b 0 o.cells ∧ W.cell? ⟨b, 0, none⟩ = some (.int .i64 o.k) ∧ W.cell? ⟨b, 1, none⟩ = some (.int .i64 o.s) ∧ W.cell? ⟨b, 2, none⟩ = some (.int .i64 o.q) ∧ W.cell? ⟨b, 3, none⟩ = some (.float .f64 o.p) := by
  have hc : ∀ i, W.cell? ⟨b, i, none⟩ = o.cells[i]? := fun i => by rw [h.cell, List.getElem?_toArray]
  exact ⟨h.range, (hc 0).trans op_0, (hc 1).trans op_1, (hc 2).trans op_2, (hc 3).trans op_3⟩
def custO (o : OpR) : Bool := mayO o && withinB o.k 1 4
/-- An event. -/
structure Ev where
  (l : Lab)
  (o : OpR)
def Ev.cells (x : Ev) : List Value := x.l.cells ++ x.o.cells
theorem ev_len {x : Ev} : x.cells.length = 21 := by unfold Ev.cells; rw [List.length_append, lab_len, op_len]
theorem ev_lab (x : Ev) {j : Nat} (h : j < 17) : x.cells[j]? = x.l.cells[j]? := by unfold Ev.cells; rw [List.getElem?_append_left (by rw [lab_len]; exact h)]
theorem ev_op (x : Ev) (j : Nat) : x.cells[17 + j]? = x.o.cells[j]? := by
  unfold Ev.cells; rw [List.getElem?_append_right (by rw [lab_len]; omega), lab_len]; simp
theorem ev_one (x : Ev) : x.cells.toArray.all (·.oneCell') = true := by
  refine all_oneCell_toArray fun v hv => ?_
  unfold Ev.cells at hv
  rcases List.mem_append.1 hv with h | h
  · have := lab_one x.l
    exact Array.all_eq_true'.1 this v (by simpa using h)
  · have := op_one x.o
    exact Array.all_eq_true'.1 this v (by simpa using h)
theorem ev_def (x : Ev) : x.cells = x.l.cells ++ x.o.cells := by unfold Ev.cells; rfl
attribute [irreducible] Ev.cells
theorem einfo (x : Ev) : (Try.prog.info? 61).map (·.size) = some x.cells.length := by rw [ev_len]; kernel_rfl
theorem einfoA (x : Ev) : (Try.prog.info? 61).map (·.size) = some x.cells.toArray.size := by rw [List.size_toArray, ev_len]; kernel_rfl
theorem ev_all {W : World} {b : Nat} {t : TypeId} {x : Ev} (h : Blk W b t x.cells.toArray) : W.rangeAt b 0 x.cells ∧ W.rangeAt b 0 x.l.cells ∧ W.rangeAt b 17 x.o.cells ∧ W.cell? ⟨b, 4, none⟩ = some (.int .i64 x.l.se) := by
  have hc : ∀ i, W.cell? ⟨b, i, none⟩ = x.cells[i]? := fun i => by rw [h.cell, List.getElem?_toArray]
  refine ⟨h.range, fun j v hv => ?_, fun j v hv => ?_, ?_⟩
  · have hj : j < 17 := by have := (List.getElem?_eq_some_iff.1 hv).1; rwa [lab_len] at this
    rw [Nat.zero_add, hc, ev_lab x hj, hv]
  · rw [hc, ev_op, hv]
  · rw [hc, ev_lab x (by omega)]; exact lab_4
/-- May an event be? -/
def rightE (x : Ev) : Bool := rightL x.l && ((x.l.se != 0) && mayO x.o)
def sameE (x y : Ev) : Bool := eqL x.l y.l && sameO x.o y.o

section
variable (x : Ev) (W : World)
set_option maxRecDepth 20000 in
set_option maxHeartbeats 4000000 in
theorem esame_any (y : Ev) : Calls Try.prog 18 #[.agg x.cells.toArray, .agg y.cells.toArray] W fun e W' => e = .returned (.bool (sameE x y)) ∧ Below W.heap.size W W' := by
  have hsz : (W.alloc (.cells x.cells.toArray 61)).heap.size = W.heap.size + 1 := by simp
  have bA := (Blk.new W 61 x.cells.toArray).alloc (.cells y.cells.toArray 61)
  have bB := Blk.new (W.alloc (.cells x.cells.toArray 61)) 61 y.cells.toArray
  rw [hsz] at bB
  have hB0 := Lib.hid (((Below.refl W.heap.size W).alloc (Nat.le_refl _) (.cells x.cells.toArray 61)).alloc (by rw [hsz]; omega) (.cells y.cells.toArray 61))
  obtain ⟨_, rla, roa, _⟩ := ev_all bA
  obtain ⟨_, rlb, rob, _⟩ := ev_all bB
  have q := fun w => eq_lab x.l y.l w
  clear bA bB
  unfold sameE
  cases hr : eqL x.l y.l with
  | false =>
    rw [hr] at q
    rw [Bool.false_and]
    clear hr
    go_enter Try.func18, Try.ntmps18
    go_wp2_with (first | (refine wpList_load_midg (by rfl) 59 _ rfl _ _ rfl (Lab.cells ?_) _ ?_ Try.underlying59 rfl (linfo _) ?_; rotate_left; (focus assumption)) | (refine wpList_load_midg (by rfl) 40 _ rfl _ _ rfl (OpR.cells ?_) _ ?_ Try.underlying40 rfl (oinfo _) ?_; rotate_left; (focus assumption)))
    go_ret
    exact ⟨rfl, hB0.out⟩
  | true =>
    rw [hr] at q
    rw [Bool.true_and]
    clear hr
    go_enter Try.func18, Try.ntmps18
    go_wp2_with (first | (refine wpList_load_midg (by rfl) 59 _ rfl _ _ rfl (Lab.cells ?_) _ ?_ Try.underlying59 rfl (linfo _) ?_; rotate_left; (focus assumption)) | (refine wpList_load_midg (by rfl) 40 _ rfl _ _ rfl (OpR.cells ?_) _ ?_ Try.underlying40 rfl (oinfo _) ?_; rotate_left; (focus assumption)))
    refine (sameop_any x.o y.o _).mono ?_
    rintro e W1 ⟨rfl, hb⟩
    have HF := Lib.hid (hB0.out.trans (hb.mono hB0.out.size))
    clear hb
    go_wp2_with fail
    go_ret
    exact ⟨rfl, HF.out⟩
end

theorem kind_cases (k : Int) : (hasS k = false ∧ hasQ k = false ∧ hasP k = false) ∨ (hasS k = true ∧ hasQ k = true ∧ hasP k = false) ∨ (hasS k = true ∧ hasQ k = false ∧ hasP k = true) ∨ (hasS k = true ∧ hasQ k = false ∧ hasP k = false) := by
  unfold hasS hasQ hasP
  by_cases h4 : k = 4
  · subst h4; left; decide
  by_cases h1 : k = 1
  · subst h1; right; left; decide
  by_cases h2 : k = 2
  · subst h2; right; left; decide
  by_cases h5 : k = 5
  · subst h5; right; left; decide
  by_cases h6 : k = 6
  · subst h6; right; right; left; decide
  right; right; right
  simp [h4, h1, h2, h5, h6]
/-- A number as a word. -/
def wordN (n : Int) : Nat := (n % 18446744073709551616).toNat
theorem wordN_lt (n : Int) : wordN n < 18446744073709551616 := by unfold wordN; omega
theorem wordN_nat (n : Nat) (h : n < 18446744073709551616) : wordN (n : Int) = n := by unfold wordN; omega
theorem wrap_word (n : Int) : IntKind.u64.wrap n = (wordN n : Nat) := by rw [IntKind.wrap_u64]; unfold wordN; omega
/-- An op's bytes. -/
def encO (o : OpR) : List Nat := enc (wordN o.k) ++ ((if hasS o.k then enc (wordN o.s) else []) ++ ((if hasQ o.k then enc (zig o.q) else []) ++ (if hasP o.k then encF o.p else [])))
structure OpR.Ok (o : OpR) : Prop where
  k1 : -9223372036854775808 ≤ o.k
  k2 : o.k ≤ 9223372036854775807
  s1 : -9223372036854775808 ≤ o.s
  s2 : o.s ≤ 9223372036854775807
  q1 : -9223372036854775808 ≤ o.q
  q2 : o.q ≤ 9223372036854775807
  p : o.p < 18446744073709551616

/-- A box that no write touches. -/
def BoxT (t : TypeId) (W : World) (bx g : Nat) (cs : Array Value) : Prop := Blk W bx t cs ∧ bx ≠ g ∧ some bx ≠ rowOf W g
theorem BoxT.wrote {t : TypeId} {W W' : World} {B bx g : Nat} {cs : Array Value} (h : BoxT t W bx g cs) (k : Wrote B g W W') : BoxT t W' bx g cs :=
  ⟨(k.2.1 bx h.1.lt h.2.1 h.2.2).trans h.1, h.2.1, fun e => (k.2.2 bx e.symm).elim (fun e' => h.2.2 e'.symm) (fun e' => by have := h.1.lt; omega)⟩
theorem BoxT.new {t : TypeId} {W : World} {B g : Nat} {bs : List Nat} (h : Wtr W B g bs) (cs : Array Value) : BoxT t (W.alloc (.cells cs t)) W.heap.size g cs := by
  have hb0 := (Below.refl W.heap.size W).alloc (Nat.le_refl _) (.cells cs t)
  exact ⟨Blk.new _ _ _, by have := h.lt; omega, fun e => by have := h.lt; have := rowOf_lt h (k := W.heap.size) (by rw [e]; unfold rowOf; rw [hb0.cell (p := ⟨g, 0, none⟩) h.lt]); omega⟩

set_option maxRecDepth 20000 in
set_option maxHeartbeats 8000000 in
theorem putop_any (B g : Nat) (o : OpR) (bs : List Nat) (W : World) (h : Wtr W B g bs) (hok : o.Ok) (hlen : bs.length + 50 ≤ 140737488355328) :
    Calls Try.prog 33 #[.pointer (some ⟨g, 0, none⟩), .agg o.cells.toArray] W fun e W' => e = .returned (.tuple #[]) ∧ Wtr W' B g (bs ++ encO o) ∧ Wrote B g W W' := by
  have hb0 := (Below.refl W.heap.size W).alloc (Nat.le_refl _) (.cells o.cells.toArray 40)
  have HX0 := Lib.hid (BoxT.new (t := 40) h o.cells.toArray)
  have HW0 := Lib.hid (h.next hb0)
  have HR0 := Lib.hid (Wrote.ofBelow hb0 (Nat.le_trans h.1 (Nat.le_of_lt h.lt)) h.lt)
  have HLE := Lib.hid (show (enc (wordN o.k)).length ≤ 10 ∧ (enc (wordN o.s)).length ≤ 10 ∧ (enc (zig o.q)).length ≤ 10 ∧ (encF o.p).length ≤ 10 from ⟨enc_len _ (wordN_lt _), enc_len _ (wordN_lt _), enc_len _ (zig_lt hok.q1 hok.q2), by unfold encF; rw [be8_len]; omega⟩)
  have HLEN := Lib.hid hlen
  have HOK := Lib.hid hok
  have w1 := wrap_word o.k
  have w2 := wrap_word o.s
  clear hb0 h hlen hok
  rcases kind_cases o.k with ⟨h1, h2, h3⟩ | ⟨h1, h2, h3⟩ | ⟨h1, h2, h3⟩ | ⟨h1, h2, h3⟩
  · go_enter Try.func33, Try.ntmps33
    obtain ⟨_, c0, c1, c2, c3⟩ := op_all HX0.out.1
    go_wp2_with (first | (go_at_call 52; refine (hassku_any _ _).mono ?_; rintro e wh ⟨rfl, rfl⟩; rw [h1]) | (go_at_call 53; refine (hasqty_any _ _).mono ?_; rintro e wh ⟨rfl, rfl⟩; rw [h2]) | (go_at_call 55; refine (hasprice_any _ _).mono ?_; rintro e wh ⟨rfl, rfl⟩; rw [h3]))
    clear c0 c1 c2 c3
    refine (wnum_any B g (wordN o.k) bs _ HW0.out (wordN_lt _) (by (try simp only [List.length_append]); have := HLEN.out; obtain ⟨_, _, _, _⟩ := HLE.out; omega)).mono ?_
    rintro e W1 ⟨rfl, hw, hr⟩
    have HW1 := Lib.hid hw
    have HR1 := Lib.hid (HR0.out.trans hr)
    have HX1 := Lib.hid (HX0.out.wrote hr)
    obtain ⟨_, c0, c1, c2, c3⟩ := op_all HX1.out.1
    clear hw hr HX0 HR0 HW0
    go_wp2_with (first | (go_at_call 52; refine (hassku_any _ _).mono ?_; rintro e wh ⟨rfl, rfl⟩; rw [h1]) | (go_at_call 53; refine (hasqty_any _ _).mono ?_; rintro e wh ⟨rfl, rfl⟩; rw [h2]) | (go_at_call 55; refine (hasprice_any _ _).mono ?_; rintro e wh ⟨rfl, rfl⟩; rw [h3]))
    have HE := Lib.hid (show encO o = enc (wordN o.k) by unfold encO; rw [h1, h2, h3]; simp)
    exact ⟨rfl, .tuple #[], by simp [results, Try.results33, go_sem], rfl, by rw [HE.out]; simpa only [List.append_assoc] using HW1.out, HR1.out⟩
  · go_enter Try.func33, Try.ntmps33
    obtain ⟨_, c0, c1, c2, c3⟩ := op_all HX0.out.1
    go_wp2_with (first | (go_at_call 52; refine (hassku_any _ _).mono ?_; rintro e wh ⟨rfl, rfl⟩; rw [h1]) | (go_at_call 53; refine (hasqty_any _ _).mono ?_; rintro e wh ⟨rfl, rfl⟩; rw [h2]) | (go_at_call 55; refine (hasprice_any _ _).mono ?_; rintro e wh ⟨rfl, rfl⟩; rw [h3]))
    clear c0 c1 c2 c3
    refine (wnum_any B g (wordN o.k) bs _ HW0.out (wordN_lt _) (by (try simp only [List.length_append]); have := HLEN.out; obtain ⟨_, _, _, _⟩ := HLE.out; omega)).mono ?_
    rintro e W1 ⟨rfl, hw, hr⟩
    have HW1 := Lib.hid hw
    have HR1 := Lib.hid (HR0.out.trans hr)
    have HX1 := Lib.hid (HX0.out.wrote hr)
    obtain ⟨_, c0, c1, c2, c3⟩ := op_all HX1.out.1
    clear hw hr HX0 HR0 HW0
    go_wp2_with (first | (go_at_call 52; refine (hassku_any _ _).mono ?_; rintro e wh ⟨rfl, rfl⟩; rw [h1]) | (go_at_call 53; refine (hasqty_any _ _).mono ?_; rintro e wh ⟨rfl, rfl⟩; rw [h2]) | (go_at_call 55; refine (hasprice_any _ _).mono ?_; rintro e wh ⟨rfl, rfl⟩; rw [h3]))
    clear c0 c1 c2 c3
    refine (wnum_any B g (wordN o.s) (bs ++ enc (wordN o.k)) _ HW1.out (wordN_lt _) (by (try simp only [List.length_append]); have := HLEN.out; obtain ⟨_, _, _, _⟩ := HLE.out; omega)).mono ?_
    rintro e W2 ⟨rfl, hw, hr⟩
    have HW2 := Lib.hid hw
    have HR2 := Lib.hid (HR1.out.trans hr)
    have HX2 := Lib.hid (HX1.out.wrote hr)
    obtain ⟨_, c0, c1, c2, c3⟩ := op_all HX2.out.1
    clear hw hr HX1 HR1 HW1
    go_wp2_with (first | (go_at_call 52; refine (hassku_any _ _).mono ?_; rintro e wh ⟨rfl, rfl⟩; rw [h1]) | (go_at_call 53; refine (hasqty_any _ _).mono ?_; rintro e wh ⟨rfl, rfl⟩; rw [h2]) | (go_at_call 55; refine (hasprice_any _ _).mono ?_; rintro e wh ⟨rfl, rfl⟩; rw [h3]))
    clear c0 c1 c2 c3
    refine (wint_any B g o.q ((bs ++ enc (wordN o.k)) ++ enc (wordN o.s)) _ HW2.out HOK.out.q1 HOK.out.q2 (by (try simp only [List.length_append]); have := HLEN.out; obtain ⟨_, _, _, _⟩ := HLE.out; omega)).mono ?_
    rintro e W3 ⟨rfl, hw, hr⟩
    have HW3 := Lib.hid hw
    have HR3 := Lib.hid (HR2.out.trans hr)
    have HX3 := Lib.hid (HX2.out.wrote hr)
    obtain ⟨_, c0, c1, c2, c3⟩ := op_all HX3.out.1
    clear hw hr HX2 HR2 HW2
    go_wp2_with (first | (go_at_call 52; refine (hassku_any _ _).mono ?_; rintro e wh ⟨rfl, rfl⟩; rw [h1]) | (go_at_call 53; refine (hasqty_any _ _).mono ?_; rintro e wh ⟨rfl, rfl⟩; rw [h2]) | (go_at_call 55; refine (hasprice_any _ _).mono ?_; rintro e wh ⟨rfl, rfl⟩; rw [h3]))
    have HE := Lib.hid (show encO o = enc (wordN o.k) ++ enc (wordN o.s) ++ enc (zig o.q) by unfold encO; rw [h1, h2, h3]; simp)
    exact ⟨rfl, .tuple #[], by simp [results, Try.results33, go_sem], rfl, by rw [HE.out]; simpa only [List.append_assoc] using HW3.out, HR3.out⟩
  · go_enter Try.func33, Try.ntmps33
    obtain ⟨_, c0, c1, c2, c3⟩ := op_all HX0.out.1
    go_wp2_with (first | (go_at_call 52; refine (hassku_any _ _).mono ?_; rintro e wh ⟨rfl, rfl⟩; rw [h1]) | (go_at_call 53; refine (hasqty_any _ _).mono ?_; rintro e wh ⟨rfl, rfl⟩; rw [h2]) | (go_at_call 55; refine (hasprice_any _ _).mono ?_; rintro e wh ⟨rfl, rfl⟩; rw [h3]))
    clear c0 c1 c2 c3
    refine (wnum_any B g (wordN o.k) bs _ HW0.out (wordN_lt _) (by (try simp only [List.length_append]); have := HLEN.out; obtain ⟨_, _, _, _⟩ := HLE.out; omega)).mono ?_
    rintro e W1 ⟨rfl, hw, hr⟩
    have HW1 := Lib.hid hw
    have HR1 := Lib.hid (HR0.out.trans hr)
    have HX1 := Lib.hid (HX0.out.wrote hr)
    obtain ⟨_, c0, c1, c2, c3⟩ := op_all HX1.out.1
    clear hw hr HX0 HR0 HW0
    go_wp2_with (first | (go_at_call 52; refine (hassku_any _ _).mono ?_; rintro e wh ⟨rfl, rfl⟩; rw [h1]) | (go_at_call 53; refine (hasqty_any _ _).mono ?_; rintro e wh ⟨rfl, rfl⟩; rw [h2]) | (go_at_call 55; refine (hasprice_any _ _).mono ?_; rintro e wh ⟨rfl, rfl⟩; rw [h3]))
    clear c0 c1 c2 c3
    refine (wnum_any B g (wordN o.s) (bs ++ enc (wordN o.k)) _ HW1.out (wordN_lt _) (by (try simp only [List.length_append]); have := HLEN.out; obtain ⟨_, _, _, _⟩ := HLE.out; omega)).mono ?_
    rintro e W2 ⟨rfl, hw, hr⟩
    have HW2 := Lib.hid hw
    have HR2 := Lib.hid (HR1.out.trans hr)
    have HX2 := Lib.hid (HX1.out.wrote hr)
    obtain ⟨_, c0, c1, c2, c3⟩ := op_all HX2.out.1
    clear hw hr HX1 HR1 HW1
    go_wp2_with (first | (go_at_call 52; refine (hassku_any _ _).mono ?_; rintro e wh ⟨rfl, rfl⟩; rw [h1]) | (go_at_call 53; refine (hasqty_any _ _).mono ?_; rintro e wh ⟨rfl, rfl⟩; rw [h2]) | (go_at_call 55; refine (hasprice_any _ _).mono ?_; rintro e wh ⟨rfl, rfl⟩; rw [h3]))
    clear c0 c1 c2 c3
    refine (wfloat_any B g o.p ((bs ++ enc (wordN o.k)) ++ enc (wordN o.s)) _ HW2.out HOK.out.p (by (try simp only [List.length_append]); have := HLEN.out; obtain ⟨_, _, _, _⟩ := HLE.out; omega)).mono ?_
    rintro e W3 ⟨rfl, hw, hr⟩
    have HW3 := Lib.hid hw
    have HR3 := Lib.hid (HR2.out.trans hr)
    have HX3 := Lib.hid (HX2.out.wrote hr)
    obtain ⟨_, c0, c1, c2, c3⟩ := op_all HX3.out.1
    clear hw hr HX2 HR2 HW2
    go_wp2_with (first | (go_at_call 52; refine (hassku_any _ _).mono ?_; rintro e wh ⟨rfl, rfl⟩; rw [h1]) | (go_at_call 53; refine (hasqty_any _ _).mono ?_; rintro e wh ⟨rfl, rfl⟩; rw [h2]) | (go_at_call 55; refine (hasprice_any _ _).mono ?_; rintro e wh ⟨rfl, rfl⟩; rw [h3]))
    have HE := Lib.hid (show encO o = enc (wordN o.k) ++ enc (wordN o.s) ++ encF o.p by unfold encO; rw [h1, h2, h3]; simp)
    exact ⟨rfl, .tuple #[], by simp [results, Try.results33, go_sem], rfl, by rw [HE.out]; simpa only [List.append_assoc] using HW3.out, HR3.out⟩
  · go_enter Try.func33, Try.ntmps33
    obtain ⟨_, c0, c1, c2, c3⟩ := op_all HX0.out.1
    go_wp2_with (first | (go_at_call 52; refine (hassku_any _ _).mono ?_; rintro e wh ⟨rfl, rfl⟩; rw [h1]) | (go_at_call 53; refine (hasqty_any _ _).mono ?_; rintro e wh ⟨rfl, rfl⟩; rw [h2]) | (go_at_call 55; refine (hasprice_any _ _).mono ?_; rintro e wh ⟨rfl, rfl⟩; rw [h3]))
    clear c0 c1 c2 c3
    refine (wnum_any B g (wordN o.k) bs _ HW0.out (wordN_lt _) (by (try simp only [List.length_append]); have := HLEN.out; obtain ⟨_, _, _, _⟩ := HLE.out; omega)).mono ?_
    rintro e W1 ⟨rfl, hw, hr⟩
    have HW1 := Lib.hid hw
    have HR1 := Lib.hid (HR0.out.trans hr)
    have HX1 := Lib.hid (HX0.out.wrote hr)
    obtain ⟨_, c0, c1, c2, c3⟩ := op_all HX1.out.1
    clear hw hr HX0 HR0 HW0
    go_wp2_with (first | (go_at_call 52; refine (hassku_any _ _).mono ?_; rintro e wh ⟨rfl, rfl⟩; rw [h1]) | (go_at_call 53; refine (hasqty_any _ _).mono ?_; rintro e wh ⟨rfl, rfl⟩; rw [h2]) | (go_at_call 55; refine (hasprice_any _ _).mono ?_; rintro e wh ⟨rfl, rfl⟩; rw [h3]))
    clear c0 c1 c2 c3
    refine (wnum_any B g (wordN o.s) (bs ++ enc (wordN o.k)) _ HW1.out (wordN_lt _) (by (try simp only [List.length_append]); have := HLEN.out; obtain ⟨_, _, _, _⟩ := HLE.out; omega)).mono ?_
    rintro e W2 ⟨rfl, hw, hr⟩
    have HW2 := Lib.hid hw
    have HR2 := Lib.hid (HR1.out.trans hr)
    have HX2 := Lib.hid (HX1.out.wrote hr)
    obtain ⟨_, c0, c1, c2, c3⟩ := op_all HX2.out.1
    clear hw hr HX1 HR1 HW1
    go_wp2_with (first | (go_at_call 52; refine (hassku_any _ _).mono ?_; rintro e wh ⟨rfl, rfl⟩; rw [h1]) | (go_at_call 53; refine (hasqty_any _ _).mono ?_; rintro e wh ⟨rfl, rfl⟩; rw [h2]) | (go_at_call 55; refine (hasprice_any _ _).mono ?_; rintro e wh ⟨rfl, rfl⟩; rw [h3]))
    have HE := Lib.hid (show encO o = enc (wordN o.k) ++ enc (wordN o.s) by unfold encO; rw [h1, h2, h3]; simp)
    exact ⟨rfl, .tuple #[], by simp [results, Try.results33, go_sem], rfl, by rw [HE.out]; simpa only [List.append_assoc] using HW2.out, HR2.out⟩
end Go.Proofs.Ytgnfachjobohoaa
