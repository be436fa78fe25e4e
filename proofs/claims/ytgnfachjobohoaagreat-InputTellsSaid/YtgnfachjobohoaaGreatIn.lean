/-
Inputs: their cells; what kinds have.
input: parts.
-/
import Derived.Test.YtgnfachjobohoaaGreatOp6
import Derived.Test.YtgnfachjobohoaaGreatRows2
import Derived.Test.YtgnfachjobohoaaGreatPk8
import Derived.Deep.MidRow
import Derived.Deep.CutRange
namespace Go.Proofs.YtgnfachjobohoaaGreat
open Go.RowKit
set_option linter.unusedSimpArgs false
set_option linter.unusedVariables false
namespace In
theorem pc_ones (x : Pk.Pc) : ∀ v ∈ x.cells, v.oneCell' = true := fun v hv => Array.all_eq_true'.1 (Pk.pc_one x) v (by simpa using hv)
/-- An input. -/
structure Iv where
  (k ca se no : Int)
  f : Nat → Nat
  t : Nat
  o : OpR
  x : Pk.Pc
def Iv.hd (m : Iv) : List Value := [.int .i64 m.k, .int .i64 m.ca, .int .i64 m.se, .int .i64 m.no]
def Iv.cells (m : Iv) : List Value := m.hd ++ (vl m.f ++ ([.int .u64 (m.t : Nat)] ++ (m.o.cells ++ m.x.cells)))
theorem hd_len (m : Iv) : m.hd.length = 4 := rfl
theorem iv_len (m : Iv) : m.cells.length = 26 := by unfold Iv.cells; simp only [List.length_append, hd_len, vl_len, op_len, Pk.pc_len, List.length_cons, List.length_nil]
theorem iv_def (m : Iv) : m.cells = m.hd ++ (vl m.f ++ ([.int .u64 (m.t : Nat)] ++ (m.o.cells ++ m.x.cells))) := by unfold Iv.cells; rfl
theorem mid_get {pre mid post : List Value} {o n : Nat} (ho : pre.length = o) (hn : mid.length = n) (j : Nat) (h : j < n) : (pre ++ (mid ++ post))[o + j]? = mid[j]? := by
  rw [List.getElem?_append_right (by omega), ho, Nat.add_sub_cancel_left, List.getElem?_append_left (by omega)]
theorem iv_0 (m : Iv) (j : Nat) (h : j < 4) : m.cells[j]? = m.hd[j]? := by
  unfold Iv.cells
  rw [List.getElem?_append_left (by rw [hd_len]; exact h)]
theorem iv_f (m : Iv) (j : Nat) (h : j < 12) : m.cells[4 + j]? = (vl m.f)[j]? := by
  unfold Iv.cells
  exact mid_get (hd_len m) (vl_len m.f) j h
theorem iv_t (m : Iv) : m.cells[16]? = some (.int .u64 (m.t : Nat)) := by
  unfold Iv.cells
  rw [← List.append_assoc]
  exact mid_get (o := 16) (by rw [List.length_append, hd_len, vl_len]) (show [Value.int .u64 (m.t : Nat)].length = 1 from rfl) 0 (by omega)
theorem iv_o (m : Iv) (j : Nat) (h : j < 4) : m.cells[17 + j]? = m.o.cells[j]? := by
  unfold Iv.cells
  rw [← List.append_assoc, ← List.append_assoc]
  exact mid_get (by simp only [List.length_append, hd_len, vl_len]; rfl) op_len j h
theorem iv_x (m : Iv) (j : Nat) : m.cells[21 + j]? = m.x.cells[j]? := by
  unfold Iv.cells
  rw [← List.append_assoc, ← List.append_assoc, ← List.append_assoc, List.getElem?_append_right (by simp only [List.length_append, hd_len, vl_len, op_len]; simp)]
  simp only [List.length_append, hd_len, vl_len, op_len, List.length_cons, List.length_nil]
  rw [show 21 + j - (4 + 12 + (0 + 1) + 4) = j from by omega]
theorem iv_ones (m : Iv) : ∀ v ∈ m.cells, v.oneCell' = true := by
  intro v hv
  unfold Iv.cells Iv.hd at hv
  simp only [List.mem_append, List.mem_cons, List.not_mem_nil, or_false] at hv
  rcases hv with (rfl | rfl | rfl | rfl) | hv | rfl | hv | hv
  · rfl
  · rfl
  · rfl
  · rfl
  · exact vl_one _ v hv
  · rfl
  · exact Array.all_eq_true'.1 (op_one m.o) v (by simpa using hv)
  · exact pc_ones _ v hv
theorem iv_one (m : Iv) : m.cells.toArray.all (·.oneCell') = true := all_oneCell_toArray (iv_ones m)
attribute [irreducible] Iv.cells
theorem ivinfo (m : Iv) : (Tryz.prog.info? 48).map (·.size) = some m.cells.length := by rw [iv_len]; kernel_rfl
theorem ivinfoA (m : Iv) : (Tryz.prog.info? 48).map (·.size) = some m.cells.toArray.size := by rw [List.size_toArray, iv_len]; kernel_rfl
theorem iv_siz (m n : Iv) : m.cells.toArray.size = n.cells.toArray.size := by rw [List.size_toArray, List.size_toArray, iv_len, iv_len]
theorem iv_all {W : World} {b : Nat} {t : TypeId} {m : Iv} (h : Blk W b t m.cells.toArray) :
    W.rangeAt b 0 m.cells ∧ W.rangeAt b 4 (vl m.f) ∧ W.rangeAt b 17 m.o.cells ∧ W.rangeAt b 21 m.x.cells ∧ W.cell? ⟨b, 0, none⟩ = some (.int .i64 m.k) ∧ W.cell? ⟨b, 1, none⟩ = some (.int .i64 m.ca) ∧ W.cell? ⟨b, 2, none⟩ = some (.int .i64 m.se) ∧ W.cell? ⟨b, 3, none⟩ = some (.int .i64 m.no) ∧ W.cell? ⟨b, 16, none⟩ = some (.int .u64 (m.t : Nat)) := by
  have hc : ∀ i, W.cell? ⟨b, i, none⟩ = m.cells[i]? := fun i => by rw [h.cell, List.getElem?_toArray]
  refine ⟨h.range, fun j v hv => ?_, fun j v hv => ?_, fun j v hv => by rw [hc, iv_x, hv], (hc 0).trans (iv_0 m 0 (by omega)), (hc 1).trans (iv_0 m 1 (by omega)), (hc 2).trans (iv_0 m 2 (by omega)), (hc 3).trans (iv_0 m 3 (by omega)), (hc 16).trans (iv_t m)⟩
  · have hj : j < 12 := by have := (List.getElem?_eq_some_iff.1 hv).1; rwa [vl_len] at this
    rw [hc, iv_f m j hj, hv]
  · have hj : j < 4 := by have := (List.getElem?_eq_some_iff.1 hv).1; rwa [op_len] at this
    rw [hc, iv_o m j hj, hv]
theorem blk_below {B k : Nat} {t : TypeId} {W W' : World} {cs : Array Value} (h : Blk W k t cs) (hb : Below B W W') (hk : k < B) : Blk W' k t cs := (hb.block k hk).trans h
theorem iv_setF {w : World} {g : Nat} {t : TypeId} {m : Iv} (h : Blk w g t m.cells.toArray) (f : Nat → Nat) : Blk (w.setCells g 4 (vl f)) g t ({ m with f := f } : Iv).cells.toArray := by
  rw [iv_def] at h ⊢
  have := Blk.setMid (vl f) m.hd (vl m.f) ([.int .u64 (m.t : Nat)] ++ (m.o.cells ++ m.x.cells)) w (by rw [List.append_assoc]; exact h) (by rw [vl_len, vl_len])
  rw [List.append_assoc] at this
  exact this
theorem iv_setO {w : World} {g : Nat} {t : TypeId} {m : Iv} (h : Blk w g t m.cells.toArray) (o : OpR) : Blk (w.setCells g 17 o.cells) g t ({ m with o := o } : Iv).cells.toArray := by
  rw [iv_def] at h ⊢
  have := Blk.setMid o.cells (m.hd ++ (vl m.f ++ [.int .u64 (m.t : Nat)])) m.o.cells m.x.cells w (by simpa only [List.append_assoc] using h) (by rw [op_len, op_len])
  rw [show (m.hd ++ (vl m.f ++ ([.int .u64 (m.t : Nat)] : List Value)) : List Value).length = 17 from by simp only [List.length_append, hd_len, vl_len]; rfl] at this
  simp only [List.append_assoc] at this
  exact this
theorem iv_setX {w : World} {g : Nat} {t : TypeId} {m : Iv} (h : Blk w g t m.cells.toArray) (x : Pk.Pc) : Blk (w.setCells g 21 x.cells) g t ({ m with x := x } : Iv).cells.toArray := by
  rw [iv_def] at h ⊢
  have := Blk.setMid x.cells (m.hd ++ (vl m.f ++ ([.int .u64 (m.t : Nat)] ++ m.o.cells))) m.x.cells [] w (by simpa only [List.append_assoc, List.append_nil] using h) (by rw [Pk.pc_len, Pk.pc_len])
  rw [show (m.hd ++ (vl m.f ++ (([.int .u64 (m.t : Nat)] : List Value) ++ m.o.cells)) : List Value).length = 21 from by simp only [List.length_append, hd_len, vl_len, op_len]; rfl] at this
  simp only [List.append_assoc, List.append_nil] at this
  exact this
theorem iv_setH {w : World} {g : Nat} {t : TypeId} {m n : Iv} {i : Nat} {v : Value} (h : Blk w g t m.cells.toArray) (hi : i < 4) (hn : n.hd = m.hd.set i v) (hf : n.f = m.f) (ht : n.t = m.t) (ho : n.o = m.o) (hx : n.x = m.x) : Blk (w.setCell ⟨g, i, none⟩ v) g t n.cells.toArray := by
  have h1 := h.setCell i v
  rw [iv_def] at h1 ⊢
  rw [hn, hf, ht, ho, hx]
  rw [List.setIfInBounds_toArray, List.set_append_left _ _ (by rw [hd_len]; exact hi)] at h1
  exact h1
theorem iv_setT {w : World} {g : Nat} {t : TypeId} {m : Iv} (h : Blk w g t m.cells.toArray) (n : Nat) : Blk (w.setCell ⟨g, 16, none⟩ (.int .u64 (n : Nat))) g t ({ m with t := n } : Iv).cells.toArray := by
  have h1 := h.setCell 16 (.int .u64 (n : Nat))
  rw [iv_def] at h1 ⊢
  rw [List.setIfInBounds_toArray, List.set_append_right _ _ (by rw [hd_len]; omega), List.set_append_right _ _ (by rw [hd_len, vl_len]; omega), hd_len, vl_len, List.set_append_left _ _ (by simp)] at h1
  exact h1
/-- Nothing. -/
def zo : OpR := ⟨0, 0, 0, 0⟩
def zp : Pk.Pt := ⟨false, 0, 0, 0, []⟩
def zx : Pk.Pc := ⟨zp, none, 0⟩
def zI (k : Int) : Iv := ⟨k, 0, 0, 0, fun _ => 0, 0, zo, zx⟩
theorem zx_cells : zx.cells = [.bool false, .int .i64 0, .int .i64 0, .int .u64 0, .slice none 0 0] := by unfold Pk.Pc.cells; rfl
theorem zI_list (k : Int) : (zI k).cells = [.int .i64 k, .int .i64 0, .int .i64 0, .int .i64 0, .int .u32 0, .int .u32 0, .int .u32 0, .int .u32 0, .int .u32 0, .int .u32 0, .int .u32 0, .int .u32 0, .int .u32 0, .int .u32 0, .int .u32 0, .int .u32 0, .int .u64 0, .int .i64 0, .int .i64 0, .int .i64 0, .float .f64 0, .bool false, .int .i64 0, .int .i64 0, .int .u64 0, .slice none 0 0] := by
  rw [iv_def]
  show ([.int .i64 k, .int .i64 0, .int .i64 0, .int .i64 0] : List Value) ++ (vl (fun _ => 0) ++ ([.int .u64 0] ++ (zo.cells ++ zx.cells))) = _
  rw [show vl (fun _ => 0) = [.int .u32 0, .int .u32 0, .int .u32 0, .int .u32 0, .int .u32 0, .int .u32 0, .int .u32 0, .int .u32 0, .int .u32 0, .int .u32 0, .int .u32 0, .int .u32 0] from congrArg Array.toList vl_zero, op_cells, zx_cells]
  rfl
theorem zI_cells (k : Int) : (zI k).cells.toArray = #[.int .i64 k, .int .i64 0, .int .i64 0, .int .i64 0, .int .u32 0, .int .u32 0, .int .u32 0, .int .u32 0, .int .u32 0, .int .u32 0, .int .u32 0, .int .u32 0, .int .u32 0, .int .u32 0, .int .u32 0, .int .u32 0, .int .u64 0, .int .i64 0, .int .i64 0, .int .i64 0, .float .f64 0, .bool false, .int .i64 0, .int .i64 0, .int .u64 0, .slice none 0 0] := by rw [zI_list]
theorem built_zI (k : Int) : Tryz.prog.built 48 [(0, .int .i64 k)] = some (zI k).cells.toArray := by rw [zI_cells]; kernel_rfl
theorem within_any (n a b : Int) (W : World) : Calls Tryz.prog 30 #[.int .i64 n, .int .i64 a, .int .i64 b] W fun e W' => e = .returned (.bool (withinB n a b)) ∧ W = W' := by
  unfold withinB
  cases h1 : decide (a ≤ n) with
  | true =>
    rw [Bool.true_and]
    go_enter Tryz.func30, Tryz.ntmps30
    go_wp2_with fail
    go_ret
    exact ⟨rfl, rfl⟩
  | false =>
    rw [Bool.false_and]
    go_enter Tryz.func30, Tryz.ntmps30
    go_wp2_with fail
    go_ret
    exact ⟨rfl, rfl⟩
def hC (k : Int) : Bool := (k == 1) || (k == 5)
def hS (k : Int) : Bool := withinB k 1 4
def hN (k : Int) : Bool := k == 3
def hO (k : Int) : Bool := k == 1
def hP (k : Int) : Bool := k == 6
theorem hasnode_any (k : Int) (W : World) : Calls Tryz.prog 34 #[.int .i64 k] W fun e W' => e = .returned (.bool (hN k)) ∧ W = W' := by
  go_enter Tryz.func34, Tryz.ntmps34
  go_wp2_with fail
  go_ret
  exact ⟨rfl, rfl⟩
theorem hasop_any (k : Int) (W : World) : Calls Tryz.prog 35 #[.int .i64 k] W fun e W' => e = .returned (.bool (hO k)) ∧ W = W' := by
  go_enter Tryz.func35, Tryz.ntmps35
  go_wp2_with fail
  go_ret
  exact ⟨rfl, rfl⟩
theorem haspacket_any (k : Int) (W : World) : Calls Tryz.prog 37 #[.int .i64 k] W fun e W' => e = .returned (.bool (hP k)) ∧ W = W' := by
  go_enter Tryz.func37, Tryz.ntmps37
  go_wp2_with fail
  go_ret
  exact ⟨rfl, rfl⟩
theorem hascart_any (k : Int) (W : World) : Calls Tryz.prog 31 #[.int .i64 k] W fun e W' => e = .returned (.bool (hC k)) ∧ W = W' := by
  unfold hC
  cases h1 : (k == 1) with
  | true =>
    go_enter Tryz.func31, Tryz.ntmps31
    go_wp2_with fail
    go_ret
    exact ⟨rfl, rfl⟩
  | false =>
    go_enter Tryz.func31, Tryz.ntmps31
    go_wp2_with fail
    go_ret
    exact ⟨rfl, rfl⟩
theorem hasseller_any (k : Int) (W : World) : Calls Tryz.prog 33 #[.int .i64 k] W fun e W' => e = .returned (.bool (hS k)) ∧ W = W' := by
  have HB := Lib.hid (within_any k 1 4)
  go_enter Tryz.func33, Tryz.ntmps33
  go_wp2_with (go_at_call 30; refine (HB.out _).mono ?_; rintro e w1 ⟨rfl, rfl⟩)
  go_ret
  exact ⟨rfl, rfl⟩
/-- The kinds. -/
inductive Kd (k : Int) : Prop
  | ord (h : k = 1) (h1 : hC k = true) (h2 : hS k = true) (h3 : hN k = false) (h4 : hO k = true) (h5 : hP k = false)
  | sel (h : k = 2 ∨ k = 4) (h1 : hC k = false) (h2 : hS k = true) (h3 : hN k = false) (h4 : hO k = false) (h5 : hP k = false)
  | joi (h : k = 3) (h1 : hC k = false) (h2 : hS k = true) (h3 : hN k = true) (h4 : hO k = false) (h5 : hP k = false)
  | chk (h : k = 5) (h1 : hC k = true) (h2 : hS k = false) (h3 : hN k = false) (h4 : hO k = false) (h5 : hP k = false)
  | pac (h : k = 6) (h1 : hC k = false) (h2 : hS k = false) (h3 : hN k = false) (h4 : hO k = false) (h5 : hP k = true)
  | no (h : k < 1 ∨ 6 < k) (h1 : hC k = false) (h2 : hS k = false) (h3 : hN k = false) (h4 : hO k = false) (h5 : hP k = false)
theorem kd_any (k : Int) : Kd k := by
  by_cases h0 : k < 1 ∨ 6 < k
  · exact .no h0 (by unfold hC; simp; omega) (by unfold hS withinB; simp; omega) (by unfold hN; simp; omega) (by unfold hO; simp; omega) (by unfold hP; simp; omega)
  by_cases h1 : k = 1
  · subst h1; exact .ord rfl (by decide) (by decide) (by decide) (by decide) (by decide)
  by_cases h2 : k = 2
  · subst h2; exact .sel (Or.inl rfl) (by decide) (by decide) (by decide) (by decide) (by decide)
  by_cases h3 : k = 3
  · subst h3; exact .joi rfl (by decide) (by decide) (by decide) (by decide) (by decide)
  by_cases h4 : k = 4
  · subst h4; exact .sel (Or.inr rfl) (by decide) (by decide) (by decide) (by decide) (by decide)
  by_cases h5 : k = 5
  · subst h5; exact .chk rfl (by decide) (by decide) (by decide) (by decide) (by decide)
  · obtain rfl : k = 6 := by omega
    exact .pac rfl (by decide) (by decide) (by decide) (by decide) (by decide)
/-- An input with those parts alone that its kind has. -/
def partsI (m : Iv) : Iv := ⟨m.k, if hC m.k then m.ca else 0, if hS m.k then m.se else 0, if hN m.k then m.no else 0, if hC m.k then m.f else fun _ => 0, if hC m.k then m.t else 0, if hO m.k then m.o else zo, if hP m.k then m.x else zx⟩
/-- Are packets equal? -/
def sameP (p q : Pk.Pt) : Bool := (p.k == q.k) && ((p.f == q.f) && ((p.t == q.t) && (((p.q : Int) == (q.q : Int)) && decide (p.bs = q.bs))))
set_option maxRecDepth 20000 in
set_option maxHeartbeats 4000000 in
theorem psame_any (x y : Pk.Pc) (W : World) (h1 : x.Ok W) (h2 : y.Ok W) : Calls Tryz.prog 43 #[.agg x.cells.toArray, .agg y.cells.toArray] W fun e W' => e = .returned (.bool (sameP x.p y.p)) ∧ Below W.heap.size W W' := by
  have bA := (Blk.new W 30 x.cells.toArray).alloc (.cells y.cells.toArray 30)
  have bB : Blk ((W.alloc (.cells x.cells.toArray 30)).alloc (.cells y.cells.toArray 30)) (W.heap.size + 1) 30 y.cells.toArray := Blk.new' (by simp)
  have hB0 := ((Below.refl W.heap.size W).alloc (Nat.le_refl _) (.cells x.cells.toArray 30)).alloc (by simp) (.cells y.cells.toArray 30)
  have he := Pk.equal_any _ x.A y.A x.p.bs.length y.p.bs.length x.c y.c x.p.bs y.p.bs rfl rfl (h1.next hB0).rd h1.hA (h2.next hB0).rd h2.hA h1.h256 h2.h256
  obtain ⟨w1, hw1⟩ : ∃ w1, w1 = (W.alloc (.cells x.cells.toArray 30)).alloc (.cells y.cells.toArray 30) := ⟨_, rfl⟩
  rw [← hw1] at bA bB hB0 he
  have HW := Lib.hid hw1
  have HB := Lib.hid hB0
  have HE := Lib.hid he
  obtain ⟨⟨k, f, t, q, bs⟩, A, c⟩ := x
  obtain ⟨⟨k2, f2, t2, q2, bs2⟩, A2, cc2⟩ := y
  dsimp only at HE
  have e0 : ∀ (p : Pk.Pt) (A : Option Addr) (c : Nat), (Pk.Pc.mk p A c).cells = [.bool p.k, .int .i64 p.f, .int .i64 p.t, .int .u64 (p.q : Nat), .slice A p.bs.length c] := fun p A c => by unfold Pk.Pc.cells; rfl
  have a0 : w1.cell? ⟨W.heap.size, 0, none⟩ = some (.bool k) := by rw [bA.cell, List.getElem?_toArray, e0]; rfl
  have a1 : w1.cell? ⟨W.heap.size, 1, none⟩ = some (.int .i64 f) := by rw [bA.cell, List.getElem?_toArray, e0]; rfl
  have a2 : w1.cell? ⟨W.heap.size, 2, none⟩ = some (.int .i64 t) := by rw [bA.cell, List.getElem?_toArray, e0]; rfl
  have a3 : w1.cell? ⟨W.heap.size, 3, none⟩ = some (.int .u64 (q : Nat)) := by rw [bA.cell, List.getElem?_toArray, e0]; rfl
  have a4 : w1.cell? ⟨W.heap.size, 4, none⟩ = some (.slice A bs.length c) := by rw [bA.cell, List.getElem?_toArray, e0]; rfl
  have b0 : w1.cell? ⟨W.heap.size + 1, 0, none⟩ = some (.bool k2) := by rw [bB.cell, List.getElem?_toArray, e0]; rfl
  have b1 : w1.cell? ⟨W.heap.size + 1, 1, none⟩ = some (.int .i64 f2) := by rw [bB.cell, List.getElem?_toArray, e0]; rfl
  have b2 : w1.cell? ⟨W.heap.size + 1, 2, none⟩ = some (.int .i64 t2) := by rw [bB.cell, List.getElem?_toArray, e0]; rfl
  have b3 : w1.cell? ⟨W.heap.size + 1, 3, none⟩ = some (.int .u64 (q2 : Nat)) := by rw [bB.cell, List.getElem?_toArray, e0]; rfl
  have b4 : w1.cell? ⟨W.heap.size + 1, 4, none⟩ = some (.slice A2 bs2.length cc2) := by rw [bB.cell, List.getElem?_toArray, e0]; rfl
  obtain ⟨z1, h1⟩ : ∃ z, (k == k2) = z := ⟨_, rfl⟩
  obtain ⟨z2, h2⟩ : ∃ z, (f == f2) = z := ⟨_, rfl⟩
  obtain ⟨z3, h3⟩ : ∃ z, (t == t2) = z := ⟨_, rfl⟩
  obtain ⟨z4, h4⟩ : ∃ z, ((q : Int) == (q2 : Int)) = z := ⟨_, rfl⟩
  obtain ⟨z5, h5⟩ : ∃ z, decide (bs = bs2) = z := ⟨_, rfl⟩
  obtain ⟨nn, hnn⟩ : ∃ k, k = bs.length := ⟨_, rfl⟩
  obtain ⟨nn2, hnn2⟩ : ∃ k, k = bs2.length := ⟨_, rfl⟩
  rw [h5] at HE
  rw [← hnn] at a4 HE
  rw [← hnn2] at b4 HE
  have HS := Lib.hid (show sameP ⟨k, f, t, q, bs⟩ ⟨k2, f2, t2, q2, bs2⟩ = (z1 && (z2 && (z3 && (z4 && z5)))) by unfold sameP; rw [h1, h2, h3, h4, h5])
  dsimp only
  rw [HS.out]
  clear hw1 hB0 he bA bB e0 h5 hnn hnn2 HS
  go_enter Tryz.func43, Tryz.ntmps43
  go_upto_region 1 with fail
  rw [← HW.out]
  cases z1 with
  | false =>
    go_wp2_with fail
    go_ret
    exact ⟨rfl, HB.out⟩
  | true =>
    cases z2 with
    | false =>
      go_wp2_with fail
      go_ret
      exact ⟨rfl, HB.out⟩
    | true =>
      cases z3 with
      | false =>
        go_wp2_with fail
        go_ret
        exact ⟨rfl, HB.out⟩
      | true =>
        cases z4 with
        | false =>
          go_wp2_with fail
          go_ret
          exact ⟨rfl, HB.out⟩
        | true =>
          go_wp2_with (first | (go_at_call 74; refine HE.out.mono ?_; rintro e w2 ⟨rfl, rfl⟩))
          go_ret
          exact ⟨by cases z5 <;> rfl, HB.out⟩
end In
end Go.Proofs.YtgnfachjobohoaaGreat
namespace Go.Proofs.YtgnfachjobohoaaGreat
open Go.RowKit
set_option linter.unusedSimpArgs false
set_option linter.unusedVariables false
namespace In
set_option maxRecDepth 20000 in
set_option maxHeartbeats 4000000 in
theorem parts_no (m : Iv) (W : World) (h1 : hC m.k = false) (h2 : hS m.k = false) (h3 : hN m.k = false) (h4 : hO m.k = false) (h5 : hP m.k = false) : Calls Tryz.prog 29 #[.agg m.cells.toArray] W fun e W' => e = .returned (.agg (partsI m).cells.toArray) ∧ Below W.heap.size W W' := by
  have bz := zI_cells 0
  have bA := (Blk.new W 48 m.cells.toArray).alloc (.cells (zI 0).cells.toArray 48)
  have bR : Blk ((W.alloc (.cells m.cells.toArray 48)).alloc (.cells (zI 0).cells.toArray 48)) (W.heap.size + 1) 48 (zI 0).cells.toArray := Blk.new' (by simp)
  have hB0 := ((Below.refl W.heap.size W).alloc (Nat.le_refl _) (.cells m.cells.toArray 48)).alloc (by simp) (.cells (zI 0).cells.toArray 48)
  obtain ⟨w1, hw1⟩ : ∃ w1, w1 = (W.alloc (.cells m.cells.toArray 48)).alloc (.cells (zI 0).cells.toArray 48) := ⟨_, rfl⟩
  have hs1 : w1.heap.size = W.heap.size + 2 := by rw [hw1]; simp
  rw [← hw1] at bA bR hB0
  rw [bz] at hw1
  have HW1 := Lib.hid hw1
  have HA := Lib.hid bA
  have HR := Lib.hid bR
  have HB := Lib.hid hB0
  have HS1 := Lib.hid hs1
  obtain ⟨-, -, -, -, c0, -⟩ := iv_all bA
  have HP := Lib.hid (show partsI m = zI m.k by unfold partsI zI; rw [h1, h2, h3, h4, h5]; rfl)
  clear bz bA bR hB0 hw1 hs1
  go_enter Tryz.func29, Tryz.ntmps29
  go_upto_region 1 with fail
  rw [← HW1.out]
  clear HW1
  go_upto_region 2 with (first | (refine wpList_build_lit (zI m.k).cells.toArray rfl 48 _ rfl (built_zI m.k) ?_) | (refine wpList_store_blk rfl 48 _ _ rfl w1.heap.size 48 (zI 0).cells.toArray (zI m.k).cells.toArray rfl rfl (by rw [zI_cells]; exact Blk.new' rfl) (ivinfoA _) (iv_siz _ _) (iv_one _) ?_; intro hy))
  have hbn := below_setRow ((Below.refl w1.heap.size w1).alloc (Nat.le_refl _) (.cells (zI 0).cells.toArray 48)) (Nat.le_refl _) (zI m.k).cells.toArray
  rw [zI_cells 0] at hbn
  obtain ⟨w2, hw2⟩ : ∃ w2, w2 = (w1.alloc (.cells #[.int .i64 0, .int .i64 0, .int .i64 0, .int .i64 0, .int .u32 0, .int .u32 0, .int .u32 0, .int .u32 0, .int .u32 0, .int .u32 0, .int .u32 0, .int .u32 0, .int .u32 0, .int .u32 0, .int .u32 0, .int .u32 0, .int .u64 0, .int .i64 0, .int .i64 0, .int .i64 0, .float .f64 0, .bool false, .int .i64 0, .int .i64 0, .int .u64 0, .slice none 0 0] 48)).setRow w1.heap.size (zI m.k).cells.toArray := ⟨_, rfl⟩
  rw [← hw2] at hbn hy ⊢
  obtain ⟨p, hp⟩ : ∃ p, p = w1.heap.size := ⟨_, rfl⟩
  rw [← hp] at hy ⊢
  have hpS : p = W.heap.size + 2 := hp.trans HS1.out
  have HA2 := Lib.hid (HA.out.next hbn)
  have HR2 := Lib.hid (HR.out.next hbn)
  have HB2 := Lib.hid (HB.out.trans (hbn.mono HB.out.size))
  have hyw2 : Blk w2 p 48 (zI m.k).cells.toArray := hy
  have HY := Lib.hid hyw2
  have HPS := Lib.hid hpS
  have hbw2 : Below p w2 w2 := Below.refl _ _
  have HBw2 := Lib.hid hbw2
  have HYw2 := Lib.hid hyw2
  clear hw2 hp hbn hy HA HR HB HS1 hpS c0 hyw2 hbw2
  have HZ := Lib.hid (show Blk w2 p 48 (partsI m).cells.toArray by rw [HP.out]; exact HYw2.out)
  have hpS := HPS.out
  have HRF := Lib.hid (show Blk w2 (W.heap.size + 1) 48 (zI 0).cells.toArray from (HBw2.out.block (W.heap.size + 1) (by omega)).trans HR2.out)
  have HBF := Lib.hid (HB2.out.trans (HBw2.out.mono (show W.heap.size ≤ p by omega)))
  have c0 := (iv_all (blk_below HA2.out HBw2.out (by omega))).2.2.2.2.1
  have rz := HZ.out.range
  clear hpS HA2 HR2 HB2 HY HPS
  go_wp2_with (first | (go_at_call 31; refine (hascart_any _ _).mono ?_; rintro e wh ⟨rfl, rfl⟩; rw [h1]) | (go_at_call 33; refine (hasseller_any _ _).mono ?_; rintro e wh ⟨rfl, rfl⟩; rw [h2]) | (go_at_call 34; refine (hasnode_any _ _).mono ?_; rintro e wh ⟨rfl, rfl⟩; rw [h3]) | (go_at_call 35; refine (hasop_any _ _).mono ?_; rintro e wh ⟨rfl, rfl⟩; rw [h4]) | (go_at_call 37; refine (haspacket_any _ _).mono ?_; rintro e wh ⟨rfl, rfl⟩; rw [h5]) | (refine wpList_load_midg (by rfl) 48 _ rfl _ _ rfl (Iv.cells ?_) _ ?_ Tryz.underlying48 rfl (ivinfo _) ?_; rotate_left; (focus assumption)) | (refine wpList_store_blk rfl 48 _ _ rfl (W.heap.size + 1) 48 (zI 0).cells.toArray (partsI m).cells.toArray rfl rfl HRF.out (ivinfoA _) (iv_siz _ _) (iv_one _) ?_; intro hrow))
  exact bodyPost_row (t := 48) (partsI m).cells.toArray rfl rfl rfl Tryz.underlying48 rfl (ivinfoA _) hrow ⟨rfl, below_setRow HBF.out (by omega) _⟩
set_option maxRecDepth 20000 in
set_option maxHeartbeats 4000000 in
theorem parts_sel (m : Iv) (W : World) (h1 : hC m.k = false) (h2 : hS m.k = true) (h3 : hN m.k = false) (h4 : hO m.k = false) (h5 : hP m.k = false) : Calls Tryz.prog 29 #[.agg m.cells.toArray] W fun e W' => e = .returned (.agg (partsI m).cells.toArray) ∧ Below W.heap.size W W' := by
  have bz := zI_cells 0
  have bA := (Blk.new W 48 m.cells.toArray).alloc (.cells (zI 0).cells.toArray 48)
  have bR : Blk ((W.alloc (.cells m.cells.toArray 48)).alloc (.cells (zI 0).cells.toArray 48)) (W.heap.size + 1) 48 (zI 0).cells.toArray := Blk.new' (by simp)
  have hB0 := ((Below.refl W.heap.size W).alloc (Nat.le_refl _) (.cells m.cells.toArray 48)).alloc (by simp) (.cells (zI 0).cells.toArray 48)
  obtain ⟨w1, hw1⟩ : ∃ w1, w1 = (W.alloc (.cells m.cells.toArray 48)).alloc (.cells (zI 0).cells.toArray 48) := ⟨_, rfl⟩
  have hs1 : w1.heap.size = W.heap.size + 2 := by rw [hw1]; simp
  rw [← hw1] at bA bR hB0
  rw [bz] at hw1
  have HW1 := Lib.hid hw1
  have HA := Lib.hid bA
  have HR := Lib.hid bR
  have HB := Lib.hid hB0
  have HS1 := Lib.hid hs1
  obtain ⟨-, -, -, -, c0, -⟩ := iv_all bA
  have HP := Lib.hid (show partsI m = { zI m.k with se := m.se } by unfold partsI zI; rw [h1, h2, h3, h4, h5]; rfl)
  clear bz bA bR hB0 hw1 hs1
  go_enter Tryz.func29, Tryz.ntmps29
  go_upto_region 1 with fail
  rw [← HW1.out]
  clear HW1
  go_upto_region 2 with (first | (refine wpList_build_lit (zI m.k).cells.toArray rfl 48 _ rfl (built_zI m.k) ?_) | (refine wpList_store_blk rfl 48 _ _ rfl w1.heap.size 48 (zI 0).cells.toArray (zI m.k).cells.toArray rfl rfl (by rw [zI_cells]; exact Blk.new' rfl) (ivinfoA _) (iv_siz _ _) (iv_one _) ?_; intro hy))
  have hbn := below_setRow ((Below.refl w1.heap.size w1).alloc (Nat.le_refl _) (.cells (zI 0).cells.toArray 48)) (Nat.le_refl _) (zI m.k).cells.toArray
  rw [zI_cells 0] at hbn
  obtain ⟨w2, hw2⟩ : ∃ w2, w2 = (w1.alloc (.cells #[.int .i64 0, .int .i64 0, .int .i64 0, .int .i64 0, .int .u32 0, .int .u32 0, .int .u32 0, .int .u32 0, .int .u32 0, .int .u32 0, .int .u32 0, .int .u32 0, .int .u32 0, .int .u32 0, .int .u32 0, .int .u32 0, .int .u64 0, .int .i64 0, .int .i64 0, .int .i64 0, .float .f64 0, .bool false, .int .i64 0, .int .i64 0, .int .u64 0, .slice none 0 0] 48)).setRow w1.heap.size (zI m.k).cells.toArray := ⟨_, rfl⟩
  rw [← hw2] at hbn hy ⊢
  obtain ⟨p, hp⟩ : ∃ p, p = w1.heap.size := ⟨_, rfl⟩
  rw [← hp] at hy ⊢
  have hpS : p = W.heap.size + 2 := hp.trans HS1.out
  have HA2 := Lib.hid (HA.out.next hbn)
  have HR2 := Lib.hid (HR.out.next hbn)
  have HB2 := Lib.hid (HB.out.trans (hbn.mono HB.out.size))
  have hyw2 : Blk w2 p 48 (zI m.k).cells.toArray := hy
  have HY := Lib.hid hyw2
  have HPS := Lib.hid hpS
  have hbw2 : Below p w2 w2 := Below.refl _ _
  have HBw2 := Lib.hid hbw2
  have HYw2 := Lib.hid hyw2
  clear hw2 hp hbn hy HA HR HB HS1 hpS c0 hyw2 hbw2
  obtain ⟨-, rf, ro, rx, c0, c1, c2, c3, ct⟩ := iv_all (blk_below HA2.out HBw2.out (by have := HPS.out; omega))
  clear rf ro rx c1 c3 ct
  have hk := (iv_all HYw2.out).2.2.2.2.2.2.1
  have hf := HYw2.out.frozen 2
  go_upto_region 6 with (first | (go_at_call 31; refine (hascart_any _ _).mono ?_; rintro e wh ⟨rfl, rfl⟩; rw [h1]) | (go_at_call 33; refine (hasseller_any _ _).mono ?_; rintro e wh ⟨rfl, rfl⟩; rw [h2]) | (go_at_call 34; refine (hasnode_any _ _).mono ?_; rintro e wh ⟨rfl, rfl⟩; rw [h3]) | (go_at_call 35; refine (hasop_any _ _).mono ?_; rintro e wh ⟨rfl, rfl⟩; rw [h4]) | (go_at_call 37; refine (haspacket_any _ _).mono ?_; rintro e wh ⟨rfl, rfl⟩; rw [h5]))
  clear hk hf c0 c2
  obtain ⟨w3, hww3⟩ : ∃ w3, w3 = w2.setCell ⟨p, 2, none⟩ (.int .i64 m.se) := ⟨_, rfl⟩
  have HBw3 := Lib.hid (show Below p w2 w3 by rw [hww3]; exact Below.setCell (p := ⟨p, 2, none⟩) HBw2.out (Nat.le_refl _) _)
  have HYw3 := Lib.hid (show Blk w3 p 48 ({ zI m.k with se := m.se } : Iv).cells.toArray by rw [hww3]; exact iv_setH HYw2.out (by omega) rfl rfl rfl rfl rfl)
  rw [← hww3]
  clear hww3
  have HZ := Lib.hid (show Blk w3 p 48 (partsI m).cells.toArray by rw [HP.out]; exact HYw3.out)
  have hpS := HPS.out
  have HRF := Lib.hid (show Blk w3 (W.heap.size + 1) 48 (zI 0).cells.toArray from (HBw3.out.block (W.heap.size + 1) (by omega)).trans HR2.out)
  have HBF := Lib.hid (HB2.out.trans (HBw3.out.mono (show W.heap.size ≤ p by omega)))
  have c0 := (iv_all (blk_below HA2.out HBw3.out (by omega))).2.2.2.2.1
  have rz := HZ.out.range
  clear hpS HA2 HR2 HB2 HY HPS
  go_wp2_with (first | (go_at_call 31; refine (hascart_any _ _).mono ?_; rintro e wh ⟨rfl, rfl⟩; rw [h1]) | (go_at_call 33; refine (hasseller_any _ _).mono ?_; rintro e wh ⟨rfl, rfl⟩; rw [h2]) | (go_at_call 34; refine (hasnode_any _ _).mono ?_; rintro e wh ⟨rfl, rfl⟩; rw [h3]) | (go_at_call 35; refine (hasop_any _ _).mono ?_; rintro e wh ⟨rfl, rfl⟩; rw [h4]) | (go_at_call 37; refine (haspacket_any _ _).mono ?_; rintro e wh ⟨rfl, rfl⟩; rw [h5]) | (refine wpList_load_midg (by rfl) 48 _ rfl _ _ rfl (Iv.cells ?_) _ ?_ Tryz.underlying48 rfl (ivinfo _) ?_; rotate_left; (focus assumption)) | (refine wpList_store_blk rfl 48 _ _ rfl (W.heap.size + 1) 48 (zI 0).cells.toArray (partsI m).cells.toArray rfl rfl HRF.out (ivinfoA _) (iv_siz _ _) (iv_one _) ?_; intro hrow))
  exact bodyPost_row (t := 48) (partsI m).cells.toArray rfl rfl rfl Tryz.underlying48 rfl (ivinfoA _) hrow ⟨rfl, below_setRow HBF.out (by omega) _⟩
set_option maxRecDepth 20000 in
set_option maxHeartbeats 4000000 in
theorem parts_joi (m : Iv) (W : World) (h1 : hC m.k = false) (h2 : hS m.k = true) (h3 : hN m.k = true) (h4 : hO m.k = false) (h5 : hP m.k = false) : Calls Tryz.prog 29 #[.agg m.cells.toArray] W fun e W' => e = .returned (.agg (partsI m).cells.toArray) ∧ Below W.heap.size W W' := by
  have bz := zI_cells 0
  have bA := (Blk.new W 48 m.cells.toArray).alloc (.cells (zI 0).cells.toArray 48)
  have bR : Blk ((W.alloc (.cells m.cells.toArray 48)).alloc (.cells (zI 0).cells.toArray 48)) (W.heap.size + 1) 48 (zI 0).cells.toArray := Blk.new' (by simp)
  have hB0 := ((Below.refl W.heap.size W).alloc (Nat.le_refl _) (.cells m.cells.toArray 48)).alloc (by simp) (.cells (zI 0).cells.toArray 48)
  obtain ⟨w1, hw1⟩ : ∃ w1, w1 = (W.alloc (.cells m.cells.toArray 48)).alloc (.cells (zI 0).cells.toArray 48) := ⟨_, rfl⟩
  have hs1 : w1.heap.size = W.heap.size + 2 := by rw [hw1]; simp
  rw [← hw1] at bA bR hB0
  rw [bz] at hw1
  have HW1 := Lib.hid hw1
  have HA := Lib.hid bA
  have HR := Lib.hid bR
  have HB := Lib.hid hB0
  have HS1 := Lib.hid hs1
  obtain ⟨-, -, -, -, c0, -⟩ := iv_all bA
  have HP := Lib.hid (show partsI m = { zI m.k with se := m.se, no := m.no } by unfold partsI zI; rw [h1, h2, h3, h4, h5]; rfl)
  clear bz bA bR hB0 hw1 hs1
  go_enter Tryz.func29, Tryz.ntmps29
  go_upto_region 1 with fail
  rw [← HW1.out]
  clear HW1
  go_upto_region 2 with (first | (refine wpList_build_lit (zI m.k).cells.toArray rfl 48 _ rfl (built_zI m.k) ?_) | (refine wpList_store_blk rfl 48 _ _ rfl w1.heap.size 48 (zI 0).cells.toArray (zI m.k).cells.toArray rfl rfl (by rw [zI_cells]; exact Blk.new' rfl) (ivinfoA _) (iv_siz _ _) (iv_one _) ?_; intro hy))
  have hbn := below_setRow ((Below.refl w1.heap.size w1).alloc (Nat.le_refl _) (.cells (zI 0).cells.toArray 48)) (Nat.le_refl _) (zI m.k).cells.toArray
  rw [zI_cells 0] at hbn
  obtain ⟨w2, hw2⟩ : ∃ w2, w2 = (w1.alloc (.cells #[.int .i64 0, .int .i64 0, .int .i64 0, .int .i64 0, .int .u32 0, .int .u32 0, .int .u32 0, .int .u32 0, .int .u32 0, .int .u32 0, .int .u32 0, .int .u32 0, .int .u32 0, .int .u32 0, .int .u32 0, .int .u32 0, .int .u64 0, .int .i64 0, .int .i64 0, .int .i64 0, .float .f64 0, .bool false, .int .i64 0, .int .i64 0, .int .u64 0, .slice none 0 0] 48)).setRow w1.heap.size (zI m.k).cells.toArray := ⟨_, rfl⟩
  rw [← hw2] at hbn hy ⊢
  obtain ⟨p, hp⟩ : ∃ p, p = w1.heap.size := ⟨_, rfl⟩
  rw [← hp] at hy ⊢
  have hpS : p = W.heap.size + 2 := hp.trans HS1.out
  have HA2 := Lib.hid (HA.out.next hbn)
  have HR2 := Lib.hid (HR.out.next hbn)
  have HB2 := Lib.hid (HB.out.trans (hbn.mono HB.out.size))
  have hyw2 : Blk w2 p 48 (zI m.k).cells.toArray := hy
  have HY := Lib.hid hyw2
  have HPS := Lib.hid hpS
  have hbw2 : Below p w2 w2 := Below.refl _ _
  have HBw2 := Lib.hid hbw2
  have HYw2 := Lib.hid hyw2
  clear hw2 hp hbn hy HA HR HB HS1 hpS c0 hyw2 hbw2
  obtain ⟨-, rf, ro, rx, c0, c1, c2, c3, ct⟩ := iv_all (blk_below HA2.out HBw2.out (by have := HPS.out; omega))
  clear rf ro rx c1 c3 ct
  have hk := (iv_all HYw2.out).2.2.2.2.2.2.1
  have hf := HYw2.out.frozen 2
  go_upto_region 6 with (first | (go_at_call 31; refine (hascart_any _ _).mono ?_; rintro e wh ⟨rfl, rfl⟩; rw [h1]) | (go_at_call 33; refine (hasseller_any _ _).mono ?_; rintro e wh ⟨rfl, rfl⟩; rw [h2]) | (go_at_call 34; refine (hasnode_any _ _).mono ?_; rintro e wh ⟨rfl, rfl⟩; rw [h3]) | (go_at_call 35; refine (hasop_any _ _).mono ?_; rintro e wh ⟨rfl, rfl⟩; rw [h4]) | (go_at_call 37; refine (haspacket_any _ _).mono ?_; rintro e wh ⟨rfl, rfl⟩; rw [h5]))
  clear hk hf c0 c2
  obtain ⟨w3, hww3⟩ : ∃ w3, w3 = w2.setCell ⟨p, 2, none⟩ (.int .i64 m.se) := ⟨_, rfl⟩
  have HBw3 := Lib.hid (show Below p w2 w3 by rw [hww3]; exact Below.setCell (p := ⟨p, 2, none⟩) HBw2.out (Nat.le_refl _) _)
  have HYw3 := Lib.hid (show Blk w3 p 48 ({ zI m.k with se := m.se } : Iv).cells.toArray by rw [hww3]; exact iv_setH HYw2.out (by omega) rfl rfl rfl rfl rfl)
  rw [← hww3]
  clear hww3
  obtain ⟨-, rf, ro, rx, c0, c1, c2, c3, ct⟩ := iv_all (blk_below HA2.out HBw3.out (by have := HPS.out; omega))
  clear rf ro rx c1 c2 ct
  have hk := (iv_all HYw3.out).2.2.2.2.2.2.2.1
  have hf := HYw3.out.frozen 3
  go_upto_region 8 with (first | (go_at_call 31; refine (hascart_any _ _).mono ?_; rintro e wh ⟨rfl, rfl⟩; rw [h1]) | (go_at_call 33; refine (hasseller_any _ _).mono ?_; rintro e wh ⟨rfl, rfl⟩; rw [h2]) | (go_at_call 34; refine (hasnode_any _ _).mono ?_; rintro e wh ⟨rfl, rfl⟩; rw [h3]) | (go_at_call 35; refine (hasop_any _ _).mono ?_; rintro e wh ⟨rfl, rfl⟩; rw [h4]) | (go_at_call 37; refine (haspacket_any _ _).mono ?_; rintro e wh ⟨rfl, rfl⟩; rw [h5]))
  clear hk hf c0 c3
  obtain ⟨w4, hww4⟩ : ∃ w4, w4 = w3.setCell ⟨p, 3, none⟩ (.int .i64 m.no) := ⟨_, rfl⟩
  have HBw4 := Lib.hid (show Below p w2 w4 by rw [hww4]; exact Below.setCell (p := ⟨p, 3, none⟩) HBw3.out (Nat.le_refl _) _)
  have HYw4 := Lib.hid (show Blk w4 p 48 ({ zI m.k with se := m.se, no := m.no } : Iv).cells.toArray by rw [hww4]; exact iv_setH HYw3.out (by omega) rfl rfl rfl rfl rfl)
  rw [← hww4]
  clear hww4
  have HZ := Lib.hid (show Blk w4 p 48 (partsI m).cells.toArray by rw [HP.out]; exact HYw4.out)
  have hpS := HPS.out
  have HRF := Lib.hid (show Blk w4 (W.heap.size + 1) 48 (zI 0).cells.toArray from (HBw4.out.block (W.heap.size + 1) (by omega)).trans HR2.out)
  have HBF := Lib.hid (HB2.out.trans (HBw4.out.mono (show W.heap.size ≤ p by omega)))
  have c0 := (iv_all (blk_below HA2.out HBw4.out (by omega))).2.2.2.2.1
  have rz := HZ.out.range
  clear hpS HA2 HR2 HB2 HY HPS
  go_wp2_with (first | (go_at_call 31; refine (hascart_any _ _).mono ?_; rintro e wh ⟨rfl, rfl⟩; rw [h1]) | (go_at_call 33; refine (hasseller_any _ _).mono ?_; rintro e wh ⟨rfl, rfl⟩; rw [h2]) | (go_at_call 34; refine (hasnode_any _ _).mono ?_; rintro e wh ⟨rfl, rfl⟩; rw [h3]) | (go_at_call 35; refine (hasop_any _ _).mono ?_; rintro e wh ⟨rfl, rfl⟩; rw [h4]) | (go_at_call 37; refine (haspacket_any _ _).mono ?_; rintro e wh ⟨rfl, rfl⟩; rw [h5]) | (refine wpList_load_midg (by rfl) 48 _ rfl _ _ rfl (Iv.cells ?_) _ ?_ Tryz.underlying48 rfl (ivinfo _) ?_; rotate_left; (focus assumption)) | (refine wpList_store_blk rfl 48 _ _ rfl (W.heap.size + 1) 48 (zI 0).cells.toArray (partsI m).cells.toArray rfl rfl HRF.out (ivinfoA _) (iv_siz _ _) (iv_one _) ?_; intro hrow))
  exact bodyPost_row (t := 48) (partsI m).cells.toArray rfl rfl rfl Tryz.underlying48 rfl (ivinfoA _) hrow ⟨rfl, below_setRow HBF.out (by omega) _⟩
set_option maxRecDepth 20000 in
set_option maxHeartbeats 4000000 in
theorem parts_chk (m : Iv) (W : World) (h1 : hC m.k = true) (h2 : hS m.k = false) (h3 : hN m.k = false) (h4 : hO m.k = false) (h5 : hP m.k = false) : Calls Tryz.prog 29 #[.agg m.cells.toArray] W fun e W' => e = .returned (.agg (partsI m).cells.toArray) ∧ Below W.heap.size W W' := by
  have bz := zI_cells 0
  have bA := (Blk.new W 48 m.cells.toArray).alloc (.cells (zI 0).cells.toArray 48)
  have bR : Blk ((W.alloc (.cells m.cells.toArray 48)).alloc (.cells (zI 0).cells.toArray 48)) (W.heap.size + 1) 48 (zI 0).cells.toArray := Blk.new' (by simp)
  have hB0 := ((Below.refl W.heap.size W).alloc (Nat.le_refl _) (.cells m.cells.toArray 48)).alloc (by simp) (.cells (zI 0).cells.toArray 48)
  obtain ⟨w1, hw1⟩ : ∃ w1, w1 = (W.alloc (.cells m.cells.toArray 48)).alloc (.cells (zI 0).cells.toArray 48) := ⟨_, rfl⟩
  have hs1 : w1.heap.size = W.heap.size + 2 := by rw [hw1]; simp
  rw [← hw1] at bA bR hB0
  rw [bz] at hw1
  have HW1 := Lib.hid hw1
  have HA := Lib.hid bA
  have HR := Lib.hid bR
  have HB := Lib.hid hB0
  have HS1 := Lib.hid hs1
  obtain ⟨-, -, -, -, c0, -⟩ := iv_all bA
  have HP := Lib.hid (show partsI m = { zI m.k with ca := m.ca, f := m.f, t := m.t } by unfold partsI zI; rw [h1, h2, h3, h4, h5]; rfl)
  clear bz bA bR hB0 hw1 hs1
  go_enter Tryz.func29, Tryz.ntmps29
  go_upto_region 1 with fail
  rw [← HW1.out]
  clear HW1
  go_upto_region 2 with (first | (refine wpList_build_lit (zI m.k).cells.toArray rfl 48 _ rfl (built_zI m.k) ?_) | (refine wpList_store_blk rfl 48 _ _ rfl w1.heap.size 48 (zI 0).cells.toArray (zI m.k).cells.toArray rfl rfl (by rw [zI_cells]; exact Blk.new' rfl) (ivinfoA _) (iv_siz _ _) (iv_one _) ?_; intro hy))
  have hbn := below_setRow ((Below.refl w1.heap.size w1).alloc (Nat.le_refl _) (.cells (zI 0).cells.toArray 48)) (Nat.le_refl _) (zI m.k).cells.toArray
  rw [zI_cells 0] at hbn
  obtain ⟨w2, hw2⟩ : ∃ w2, w2 = (w1.alloc (.cells #[.int .i64 0, .int .i64 0, .int .i64 0, .int .i64 0, .int .u32 0, .int .u32 0, .int .u32 0, .int .u32 0, .int .u32 0, .int .u32 0, .int .u32 0, .int .u32 0, .int .u32 0, .int .u32 0, .int .u32 0, .int .u32 0, .int .u64 0, .int .i64 0, .int .i64 0, .int .i64 0, .float .f64 0, .bool false, .int .i64 0, .int .i64 0, .int .u64 0, .slice none 0 0] 48)).setRow w1.heap.size (zI m.k).cells.toArray := ⟨_, rfl⟩
  rw [← hw2] at hbn hy ⊢
  obtain ⟨p, hp⟩ : ∃ p, p = w1.heap.size := ⟨_, rfl⟩
  rw [← hp] at hy ⊢
  have hpS : p = W.heap.size + 2 := hp.trans HS1.out
  have HA2 := Lib.hid (HA.out.next hbn)
  have HR2 := Lib.hid (HR.out.next hbn)
  have HB2 := Lib.hid (HB.out.trans (hbn.mono HB.out.size))
  have hyw2 : Blk w2 p 48 (zI m.k).cells.toArray := hy
  have HY := Lib.hid hyw2
  have HPS := Lib.hid hpS
  have hbw2 : Below p w2 w2 := Below.refl _ _
  have HBw2 := Lib.hid hbw2
  have HYw2 := Lib.hid hyw2
  clear hw2 hp hbn hy HA HR HB HS1 hpS c0 hyw2 hbw2
  obtain ⟨-, rf, ro, rx, c0, c1, c2, c3, ct⟩ := iv_all (blk_below HA2.out HBw2.out (by have := HPS.out; omega))
  clear ro rx c2 c3
  go_upto_region 3 with (first | (go_at_call 31; refine (hascart_any _ _).mono ?_; rintro e wh ⟨rfl, rfl⟩; rw [h1]) | (go_at_call 33; refine (hasseller_any _ _).mono ?_; rintro e wh ⟨rfl, rfl⟩; rw [h2]) | (go_at_call 34; refine (hasnode_any _ _).mono ?_; rintro e wh ⟨rfl, rfl⟩; rw [h3]) | (go_at_call 35; refine (hasop_any _ _).mono ?_; rintro e wh ⟨rfl, rfl⟩; rw [h4]) | (go_at_call 37; refine (haspacket_any _ _).mono ?_; rintro e wh ⟨rfl, rfl⟩; rw [h5]))
  have hp1 : W.heap.size < p := by have := HPS.out; omega
  obtain ⟨-, k3, -, -, -, k1, -, -, k2⟩ := iv_all HA2.out
  refine wp_region_tree (S := (fun w' => w'.cell? ⟨W.heap.size, 1, none⟩ = some (.int .i64 m.ca) ∧ w'.cell? ⟨W.heap.size, 16, none⟩ = some (.int .u64 (m.t : Nat)) ∧ w'.rangeAt W.heap.size 4 (vl m.f))) (.take 0 (.take 1 (.take 2 (.take 3 (.take 4 (.take 5 (.take 6 (.one 7 (.take 8 (.one 9 (.take 10 (.one 11 .nil)))))))))))) 9999 (by kernel_rfl) (by kernel_rfl) (by kernel_rfl) (by kernel_rfl) (by kernel_rfl) (fun _ _ d _ _ h => by cases d <;> exact h) ⟨c1, ct, rf⟩ (fun hHeld => ?_); simp only [Tree.map, List.getElem?_toArray, List.getElem?_cons_zero, List.getElem?_cons_succ]
  (repeat (first | (refine wpTree.take (v := undef) (Or.inr ⟨by rfl, rfl⟩) ?_; simp only [Act.put, List.setIfInBounds_toArray, List.set_cons_zero, List.set_cons_succ]) | (refine wpTree.take (v := .agg (vl ?_).toArray) (yieldsIf_load_mid rfl 24 _ rfl _ _ rfl (vl _) _ ?_ Tryz.underlying24 rfl (vinfoL _)) ?_; rotate_left; (focus (intro _ hS; (try dsimp only at hS); go_split_ands; (first | assumption | exact Blk.range (by assumption)))); simp only [Act.put, List.setIfInBounds_toArray, List.set_cons_zero, List.set_cons_succ]) | (refine wpTree.take (v := ?_) (Or.inl ⟨by rfl, ?_⟩) ?_; rotate_left; (focus (intro _ hS; (try dsimp only at hS); go_split_ands; (try subst hS); go_simp; (try (with_reducible rfl)); done)); simp only [Act.put, List.setIfInBounds_toArray, List.set_cons_zero, List.set_cons_succ])))
  obtain ⟨wd, hwd⟩ : ∃ wd, wd = w2.drew := ⟨_, rfl⟩
  have HBwd := Lib.hid (show Below p w2 wd by rw [hwd]; exact HBw2.out.drew)
  have hyd : Blk wd p 48 (zI m.k : Iv).cells.toArray := by rw [hwd]; exact HYw2.out.drew
  rw [← hwd]
  clear hwd
  have hkA := (iv_all hyd).2.2.2.2.2.1
  have hfA := hyd.frozen 1
  refine wpTree.one (fun K hK => ?_)
  go_simp
  obtain ⟨wa, hwwa⟩ : ∃ wa, wa = wd.setCell ⟨p, 1, none⟩ (.int .i64 m.ca) := ⟨_, rfl⟩
  have HBwa := Lib.hid (show Below p w2 wa by rw [hwwa]; exact Below.setCell (p := ⟨p, 1, none⟩) HBwd.out (Nat.le_refl _) _)
  have HYwa := Lib.hid (show Blk wa p 48 ({ zI m.k with ca := m.ca } : Iv).cells.toArray by rw [hwwa]; exact iv_setH hyd (by omega) rfl rfl rfl rfl rfl)
  rw [← hwwa]
  clear hwwa
  clear hkA hfA
  refine hK.out _ _ ⟨(HBwa.out.cell (p := ⟨W.heap.size, 1, none⟩) hp1).trans k1, (HBwa.out.cell (p := ⟨W.heap.size, 16, none⟩) hp1).trans k2, fun j v hj => (HBwa.out.cell (p := ⟨W.heap.size, 4 + j, none⟩) hp1).trans (k3 j v hj)⟩ (fun _ => ?_)
  clear hK K
  (try simp only [Act.put, List.setIfInBounds_toArray, List.set_cons_zero, List.set_cons_succ])
  (repeat (first | (refine wpTree.take (v := undef) (Or.inr ⟨by rfl, rfl⟩) ?_; simp only [Act.put, List.setIfInBounds_toArray, List.set_cons_zero, List.set_cons_succ]) | (refine wpTree.take (v := .agg (vl ?_).toArray) (yieldsIf_load_mid rfl 24 _ rfl _ _ rfl (vl _) _ ?_ Tryz.underlying24 rfl (vinfoL _)) ?_; rotate_left; (focus (intro _ hS; (try dsimp only at hS); go_split_ands; (first | assumption | exact Blk.range (by assumption)))); simp only [Act.put, List.setIfInBounds_toArray, List.set_cons_zero, List.set_cons_succ]) | (refine wpTree.take (v := ?_) (Or.inl ⟨by rfl, ?_⟩) ?_; rotate_left; (focus (intro _ hS; (try dsimp only at hS); go_split_ands; (try subst hS); go_simp; (try (with_reducible rfl)); done)); simp only [Act.put, List.setIfInBounds_toArray, List.set_cons_zero, List.set_cons_succ])))
  have hth := HYwa.out.thereT (o := 4) (n := (vl m.f).toArray.size) (by rw [List.size_toArray, List.size_toArray, iv_len, vl_len]; omega)
  refine wpTree.one (fun K hK => ?_)
  rw [if_pos (by rfl)]
  refine wp_store_mid 24 _ _ rfl p 4 (vl m.f).toArray rfl rfl hth (vinfo _) (vl_all _) ?_
  show K _ (wa.setCells p 4 (vl m.f))
  obtain ⟨wb, hwwb⟩ : ∃ wb, wb = wa.setCells p 4 (vl m.f) := ⟨_, rfl⟩
  have HBwb := Lib.hid (show Below p w2 wb by rw [hwwb]; exact setCells_below (Nat.le_refl _) _ _ _ HBwa.out)
  have HYwb := Lib.hid (show Blk wb p 48 ({ zI m.k with ca := m.ca, f := m.f } : Iv).cells.toArray by rw [hwwb]; exact iv_setF HYwa.out m.f)
  rw [← hwwb]
  clear hwwb
  clear hth
  refine hK.out _ _ ⟨(HBwb.out.cell (p := ⟨W.heap.size, 1, none⟩) hp1).trans k1, (HBwb.out.cell (p := ⟨W.heap.size, 16, none⟩) hp1).trans k2, fun j v hj => (HBwb.out.cell (p := ⟨W.heap.size, 4 + j, none⟩) hp1).trans (k3 j v hj)⟩ (fun _ => ?_)
  clear hK K
  (try simp only [Act.put, List.setIfInBounds_toArray, List.set_cons_zero, List.set_cons_succ])
  (repeat (first | (refine wpTree.take (v := undef) (Or.inr ⟨by rfl, rfl⟩) ?_; simp only [Act.put, List.setIfInBounds_toArray, List.set_cons_zero, List.set_cons_succ]) | (refine wpTree.take (v := .agg (vl ?_).toArray) (yieldsIf_load_mid rfl 24 _ rfl _ _ rfl (vl _) _ ?_ Tryz.underlying24 rfl (vinfoL _)) ?_; rotate_left; (focus (intro _ hS; (try dsimp only at hS); go_split_ands; (first | assumption | exact Blk.range (by assumption)))); simp only [Act.put, List.setIfInBounds_toArray, List.set_cons_zero, List.set_cons_succ]) | (refine wpTree.take (v := ?_) (Or.inl ⟨by rfl, ?_⟩) ?_; rotate_left; (focus (intro _ hS; (try dsimp only at hS); go_split_ands; (try subst hS); go_simp; (try (with_reducible rfl)); done)); simp only [Act.put, List.setIfInBounds_toArray, List.set_cons_zero, List.set_cons_succ])))
  have hkA := (iv_all HYwb.out).2.2.2.2.2.2.2.2
  have hfA := HYwb.out.frozen 16
  refine wpTree.one (fun K hK => ?_)
  go_simp
  obtain ⟨wt, hwwt⟩ : ∃ wt, wt = wb.setCell ⟨p, 16, none⟩ (.int .u64 (m.t : Nat)) := ⟨_, rfl⟩
  have HBwt := Lib.hid (show Below p w2 wt by rw [hwwt]; exact Below.setCell (p := ⟨p, 16, none⟩) HBwb.out (Nat.le_refl _) _)
  have HYwt := Lib.hid (show Blk wt p 48 ({ zI m.k with ca := m.ca, f := m.f, t := m.t } : Iv).cells.toArray by rw [hwwt]; exact iv_setT HYwb.out m.t)
  rw [← hwwt]
  clear hwwt
  clear hkA hfA
  refine hK.out _ _ ⟨(HBwt.out.cell (p := ⟨W.heap.size, 1, none⟩) hp1).trans k1, (HBwt.out.cell (p := ⟨W.heap.size, 16, none⟩) hp1).trans k2, fun j v hj => (HBwt.out.cell (p := ⟨W.heap.size, 4 + j, none⟩) hp1).trans (k3 j v hj)⟩ (fun _ => ?_)
  clear hK K
  (try simp only [Act.put, List.setIfInBounds_toArray, List.set_cons_zero, List.set_cons_succ])
  refine wpTree.done ?_
  clear c0 c1 ct rf hHeld hp1 hyd HBwd HYwa HBwa HYwb HBwb k1 k2 k3
  have HZ := Lib.hid (show Blk wt p 48 (partsI m).cells.toArray by rw [HP.out]; exact HYwt.out)
  have hpS := HPS.out
  have HRF := Lib.hid (show Blk wt (W.heap.size + 1) 48 (zI 0).cells.toArray from (HBwt.out.block (W.heap.size + 1) (by omega)).trans HR2.out)
  have HBF := Lib.hid (HB2.out.trans (HBwt.out.mono (show W.heap.size ≤ p by omega)))
  have c0 := (iv_all (blk_below HA2.out HBwt.out (by omega))).2.2.2.2.1
  have rz := HZ.out.range
  clear hpS HA2 HR2 HB2 HY HPS
  go_wp2_with (first | (go_at_call 31; refine (hascart_any _ _).mono ?_; rintro e wh ⟨rfl, rfl⟩; rw [h1]) | (go_at_call 33; refine (hasseller_any _ _).mono ?_; rintro e wh ⟨rfl, rfl⟩; rw [h2]) | (go_at_call 34; refine (hasnode_any _ _).mono ?_; rintro e wh ⟨rfl, rfl⟩; rw [h3]) | (go_at_call 35; refine (hasop_any _ _).mono ?_; rintro e wh ⟨rfl, rfl⟩; rw [h4]) | (go_at_call 37; refine (haspacket_any _ _).mono ?_; rintro e wh ⟨rfl, rfl⟩; rw [h5]) | (refine wpList_load_midg (by rfl) 48 _ rfl _ _ rfl (Iv.cells ?_) _ ?_ Tryz.underlying48 rfl (ivinfo _) ?_; rotate_left; (focus assumption)) | (refine wpList_store_blk rfl 48 _ _ rfl (W.heap.size + 1) 48 (zI 0).cells.toArray (partsI m).cells.toArray rfl rfl HRF.out (ivinfoA _) (iv_siz _ _) (iv_one _) ?_; intro hrow))
  exact bodyPost_row (t := 48) (partsI m).cells.toArray rfl rfl rfl Tryz.underlying48 rfl (ivinfoA _) hrow ⟨rfl, below_setRow HBF.out (by omega) _⟩
set_option maxRecDepth 20000 in
set_option maxHeartbeats 4000000 in
theorem parts_pac (m : Iv) (W : World) (h1 : hC m.k = false) (h2 : hS m.k = false) (h3 : hN m.k = false) (h4 : hO m.k = false) (h5 : hP m.k = true) : Calls Tryz.prog 29 #[.agg m.cells.toArray] W fun e W' => e = .returned (.agg (partsI m).cells.toArray) ∧ Below W.heap.size W W' := by
  have bz := zI_cells 0
  have bA := (Blk.new W 48 m.cells.toArray).alloc (.cells (zI 0).cells.toArray 48)
  have bR : Blk ((W.alloc (.cells m.cells.toArray 48)).alloc (.cells (zI 0).cells.toArray 48)) (W.heap.size + 1) 48 (zI 0).cells.toArray := Blk.new' (by simp)
  have hB0 := ((Below.refl W.heap.size W).alloc (Nat.le_refl _) (.cells m.cells.toArray 48)).alloc (by simp) (.cells (zI 0).cells.toArray 48)
  obtain ⟨w1, hw1⟩ : ∃ w1, w1 = (W.alloc (.cells m.cells.toArray 48)).alloc (.cells (zI 0).cells.toArray 48) := ⟨_, rfl⟩
  have hs1 : w1.heap.size = W.heap.size + 2 := by rw [hw1]; simp
  rw [← hw1] at bA bR hB0
  rw [bz] at hw1
  have HW1 := Lib.hid hw1
  have HA := Lib.hid bA
  have HR := Lib.hid bR
  have HB := Lib.hid hB0
  have HS1 := Lib.hid hs1
  obtain ⟨-, -, -, -, c0, -⟩ := iv_all bA
  have HP := Lib.hid (show partsI m = { zI m.k with x := m.x } by unfold partsI zI; rw [h1, h2, h3, h4, h5]; rfl)
  clear bz bA bR hB0 hw1 hs1
  go_enter Tryz.func29, Tryz.ntmps29
  go_upto_region 1 with fail
  rw [← HW1.out]
  clear HW1
  go_upto_region 2 with (first | (refine wpList_build_lit (zI m.k).cells.toArray rfl 48 _ rfl (built_zI m.k) ?_) | (refine wpList_store_blk rfl 48 _ _ rfl w1.heap.size 48 (zI 0).cells.toArray (zI m.k).cells.toArray rfl rfl (by rw [zI_cells]; exact Blk.new' rfl) (ivinfoA _) (iv_siz _ _) (iv_one _) ?_; intro hy))
  have hbn := below_setRow ((Below.refl w1.heap.size w1).alloc (Nat.le_refl _) (.cells (zI 0).cells.toArray 48)) (Nat.le_refl _) (zI m.k).cells.toArray
  rw [zI_cells 0] at hbn
  obtain ⟨w2, hw2⟩ : ∃ w2, w2 = (w1.alloc (.cells #[.int .i64 0, .int .i64 0, .int .i64 0, .int .i64 0, .int .u32 0, .int .u32 0, .int .u32 0, .int .u32 0, .int .u32 0, .int .u32 0, .int .u32 0, .int .u32 0, .int .u32 0, .int .u32 0, .int .u32 0, .int .u32 0, .int .u64 0, .int .i64 0, .int .i64 0, .int .i64 0, .float .f64 0, .bool false, .int .i64 0, .int .i64 0, .int .u64 0, .slice none 0 0] 48)).setRow w1.heap.size (zI m.k).cells.toArray := ⟨_, rfl⟩
  rw [← hw2] at hbn hy ⊢
  obtain ⟨p, hp⟩ : ∃ p, p = w1.heap.size := ⟨_, rfl⟩
  rw [← hp] at hy ⊢
  have hpS : p = W.heap.size + 2 := hp.trans HS1.out
  have HA2 := Lib.hid (HA.out.next hbn)
  have HR2 := Lib.hid (HR.out.next hbn)
  have HB2 := Lib.hid (HB.out.trans (hbn.mono HB.out.size))
  have hyw2 : Blk w2 p 48 (zI m.k).cells.toArray := hy
  have HY := Lib.hid hyw2
  have HPS := Lib.hid hpS
  have hbw2 : Below p w2 w2 := Below.refl _ _
  have HBw2 := Lib.hid hbw2
  have HYw2 := Lib.hid hyw2
  clear hw2 hp hbn hy HA HR HB HS1 hpS c0 hyw2 hbw2
  obtain ⟨-, rf, ro, rx, c0, c1, c2, c3, ct⟩ := iv_all (blk_below HA2.out HBw2.out (by have := HPS.out; omega))
  clear rf ro c1 c2 c3 ct
  have hth := HYw2.out.thereT (o := 21) (n := m.x.cells.toArray.size) (by rw [List.size_toArray, List.size_toArray, iv_len, Pk.pc_len]; omega)
  go_upto_region 12 with (first | (go_at_call 31; refine (hascart_any _ _).mono ?_; rintro e wh ⟨rfl, rfl⟩; rw [h1]) | (go_at_call 33; refine (hasseller_any _ _).mono ?_; rintro e wh ⟨rfl, rfl⟩; rw [h2]) | (go_at_call 34; refine (hasnode_any _ _).mono ?_; rintro e wh ⟨rfl, rfl⟩; rw [h3]) | (go_at_call 35; refine (hasop_any _ _).mono ?_; rintro e wh ⟨rfl, rfl⟩; rw [h4]) | (go_at_call 37; refine (haspacket_any _ _).mono ?_; rintro e wh ⟨rfl, rfl⟩; rw [h5]) | (refine wpList_load_midg (by rfl) 30 _ rfl _ _ rfl (Pk.Pc.cells ?_) _ ?_ Tryz.underlying30 rfl (Pk.pcinfo _) ?_; rotate_left; (focus assumption)) | (refine wpList_store_mid rfl 30 _ _ rfl p 21 m.x.cells.toArray rfl rfl hth (Pk.pcinfoA _) (Pk.pc_one _) ?_; show wpList _ _ _ _ _ (w2.setCells p 21 m.x.cells)))
  clear hth c0 rx
  obtain ⟨w3, hww3⟩ : ∃ w3, w3 = w2.setCells p 21 m.x.cells := ⟨_, rfl⟩
  have HBw3 := Lib.hid (show Below p w2 w3 by rw [hww3]; exact setCells_below (Nat.le_refl _) _ _ _ HBw2.out)
  have HYw3 := Lib.hid (show Blk w3 p 48 ({ zI m.k with x := m.x } : Iv).cells.toArray by rw [hww3]; exact iv_setX HYw2.out m.x)
  rw [← hww3]
  clear hww3
  have HZ := Lib.hid (show Blk w3 p 48 (partsI m).cells.toArray by rw [HP.out]; exact HYw3.out)
  have hpS := HPS.out
  have HRF := Lib.hid (show Blk w3 (W.heap.size + 1) 48 (zI 0).cells.toArray from (HBw3.out.block (W.heap.size + 1) (by omega)).trans HR2.out)
  have HBF := Lib.hid (HB2.out.trans (HBw3.out.mono (show W.heap.size ≤ p by omega)))
  have c0 := (iv_all (blk_below HA2.out HBw3.out (by omega))).2.2.2.2.1
  have rz := HZ.out.range
  clear hpS HA2 HR2 HB2 HY HPS
  go_wp2_with (first | (go_at_call 31; refine (hascart_any _ _).mono ?_; rintro e wh ⟨rfl, rfl⟩; rw [h1]) | (go_at_call 33; refine (hasseller_any _ _).mono ?_; rintro e wh ⟨rfl, rfl⟩; rw [h2]) | (go_at_call 34; refine (hasnode_any _ _).mono ?_; rintro e wh ⟨rfl, rfl⟩; rw [h3]) | (go_at_call 35; refine (hasop_any _ _).mono ?_; rintro e wh ⟨rfl, rfl⟩; rw [h4]) | (go_at_call 37; refine (haspacket_any _ _).mono ?_; rintro e wh ⟨rfl, rfl⟩; rw [h5]) | (refine wpList_load_midg (by rfl) 48 _ rfl _ _ rfl (Iv.cells ?_) _ ?_ Tryz.underlying48 rfl (ivinfo _) ?_; rotate_left; (focus assumption)) | (refine wpList_store_blk rfl 48 _ _ rfl (W.heap.size + 1) 48 (zI 0).cells.toArray (partsI m).cells.toArray rfl rfl HRF.out (ivinfoA _) (iv_siz _ _) (iv_one _) ?_; intro hrow))
  exact bodyPost_row (t := 48) (partsI m).cells.toArray rfl rfl rfl Tryz.underlying48 rfl (ivinfoA _) hrow ⟨rfl, below_setRow HBF.out (by omega) _⟩
set_option maxRecDepth 20000 in
set_option maxHeartbeats 4000000 in
theorem parts_ord (m : Iv) (W : World) (h1 : hC m.k = true) (h2 : hS m.k = true) (h3 : hN m.k = false) (h4 : hO m.k = true) (h5 : hP m.k = false) : Calls Tryz.prog 29 #[.agg m.cells.toArray] W fun e W' => e = .returned (.agg (partsI m).cells.toArray) ∧ Below W.heap.size W W' := by
  have bz := zI_cells 0
  have bA := (Blk.new W 48 m.cells.toArray).alloc (.cells (zI 0).cells.toArray 48)
  have bR : Blk ((W.alloc (.cells m.cells.toArray 48)).alloc (.cells (zI 0).cells.toArray 48)) (W.heap.size + 1) 48 (zI 0).cells.toArray := Blk.new' (by simp)
  have hB0 := ((Below.refl W.heap.size W).alloc (Nat.le_refl _) (.cells m.cells.toArray 48)).alloc (by simp) (.cells (zI 0).cells.toArray 48)
  obtain ⟨w1, hw1⟩ : ∃ w1, w1 = (W.alloc (.cells m.cells.toArray 48)).alloc (.cells (zI 0).cells.toArray 48) := ⟨_, rfl⟩
  have hs1 : w1.heap.size = W.heap.size + 2 := by rw [hw1]; simp
  rw [← hw1] at bA bR hB0
  rw [bz] at hw1
  have HW1 := Lib.hid hw1
  have HA := Lib.hid bA
  have HR := Lib.hid bR
  have HB := Lib.hid hB0
  have HS1 := Lib.hid hs1
  obtain ⟨-, -, -, -, c0, -⟩ := iv_all bA
  have HP := Lib.hid (show partsI m = { zI m.k with ca := m.ca, f := m.f, t := m.t, se := m.se, o := m.o } by unfold partsI zI; rw [h1, h2, h3, h4, h5]; rfl)
  clear bz bA bR hB0 hw1 hs1
  go_enter Tryz.func29, Tryz.ntmps29
  go_upto_region 1 with fail
  rw [← HW1.out]
  clear HW1
  go_upto_region 2 with (first | (refine wpList_build_lit (zI m.k).cells.toArray rfl 48 _ rfl (built_zI m.k) ?_) | (refine wpList_store_blk rfl 48 _ _ rfl w1.heap.size 48 (zI 0).cells.toArray (zI m.k).cells.toArray rfl rfl (by rw [zI_cells]; exact Blk.new' rfl) (ivinfoA _) (iv_siz _ _) (iv_one _) ?_; intro hy))
  have hbn := below_setRow ((Below.refl w1.heap.size w1).alloc (Nat.le_refl _) (.cells (zI 0).cells.toArray 48)) (Nat.le_refl _) (zI m.k).cells.toArray
  rw [zI_cells 0] at hbn
  obtain ⟨w2, hw2⟩ : ∃ w2, w2 = (w1.alloc (.cells #[.int .i64 0, .int .i64 0, .int .i64 0, .int .i64 0, .int .u32 0, .int .u32 0, .int .u32 0, .int .u32 0, .int .u32 0, .int .u32 0, .int .u32 0, .int .u32 0, .int .u32 0, .int .u32 0, .int .u32 0, .int .u32 0, .int .u64 0, .int .i64 0, .int .i64 0, .int .i64 0, .float .f64 0, .bool false, .int .i64 0, .int .i64 0, .int .u64 0, .slice none 0 0] 48)).setRow w1.heap.size (zI m.k).cells.toArray := ⟨_, rfl⟩
  rw [← hw2] at hbn hy ⊢
  obtain ⟨p, hp⟩ : ∃ p, p = w1.heap.size := ⟨_, rfl⟩
  rw [← hp] at hy ⊢
  have hpS : p = W.heap.size + 2 := hp.trans HS1.out
  have HA2 := Lib.hid (HA.out.next hbn)
  have HR2 := Lib.hid (HR.out.next hbn)
  have HB2 := Lib.hid (HB.out.trans (hbn.mono HB.out.size))
  have hyw2 : Blk w2 p 48 (zI m.k).cells.toArray := hy
  have HY := Lib.hid hyw2
  have HPS := Lib.hid hpS
  have hbw2 : Below p w2 w2 := Below.refl _ _
  have HBw2 := Lib.hid hbw2
  have HYw2 := Lib.hid hyw2
  clear hw2 hp hbn hy HA HR HB HS1 hpS c0 hyw2 hbw2
  obtain ⟨-, rf, ro, rx, c0, c1, c2, c3, ct⟩ := iv_all (blk_below HA2.out HBw2.out (by have := HPS.out; omega))
  clear ro rx c2 c3
  go_upto_region 3 with (first | (go_at_call 31; refine (hascart_any _ _).mono ?_; rintro e wh ⟨rfl, rfl⟩; rw [h1]) | (go_at_call 33; refine (hasseller_any _ _).mono ?_; rintro e wh ⟨rfl, rfl⟩; rw [h2]) | (go_at_call 34; refine (hasnode_any _ _).mono ?_; rintro e wh ⟨rfl, rfl⟩; rw [h3]) | (go_at_call 35; refine (hasop_any _ _).mono ?_; rintro e wh ⟨rfl, rfl⟩; rw [h4]) | (go_at_call 37; refine (haspacket_any _ _).mono ?_; rintro e wh ⟨rfl, rfl⟩; rw [h5]))
  have hp1 : W.heap.size < p := by have := HPS.out; omega
  obtain ⟨-, k3, -, -, -, k1, -, -, k2⟩ := iv_all HA2.out
  refine wp_region_tree (S := (fun w' => w'.cell? ⟨W.heap.size, 1, none⟩ = some (.int .i64 m.ca) ∧ w'.cell? ⟨W.heap.size, 16, none⟩ = some (.int .u64 (m.t : Nat)) ∧ w'.rangeAt W.heap.size 4 (vl m.f))) (.take 0 (.take 1 (.take 2 (.take 3 (.take 4 (.take 5 (.take 6 (.one 7 (.take 8 (.one 9 (.take 10 (.one 11 .nil)))))))))))) 9999 (by kernel_rfl) (by kernel_rfl) (by kernel_rfl) (by kernel_rfl) (by kernel_rfl) (fun _ _ d _ _ h => by cases d <;> exact h) ⟨c1, ct, rf⟩ (fun hHeld => ?_); simp only [Tree.map, List.getElem?_toArray, List.getElem?_cons_zero, List.getElem?_cons_succ]
  (repeat (first | (refine wpTree.take (v := undef) (Or.inr ⟨by rfl, rfl⟩) ?_; simp only [Act.put, List.setIfInBounds_toArray, List.set_cons_zero, List.set_cons_succ]) | (refine wpTree.take (v := .agg (vl ?_).toArray) (yieldsIf_load_mid rfl 24 _ rfl _ _ rfl (vl _) _ ?_ Tryz.underlying24 rfl (vinfoL _)) ?_; rotate_left; (focus (intro _ hS; (try dsimp only at hS); go_split_ands; (first | assumption | exact Blk.range (by assumption)))); simp only [Act.put, List.setIfInBounds_toArray, List.set_cons_zero, List.set_cons_succ]) | (refine wpTree.take (v := ?_) (Or.inl ⟨by rfl, ?_⟩) ?_; rotate_left; (focus (intro _ hS; (try dsimp only at hS); go_split_ands; (try subst hS); go_simp; (try (with_reducible rfl)); done)); simp only [Act.put, List.setIfInBounds_toArray, List.set_cons_zero, List.set_cons_succ])))
  obtain ⟨wd, hwd⟩ : ∃ wd, wd = w2.drew := ⟨_, rfl⟩
  have HBwd := Lib.hid (show Below p w2 wd by rw [hwd]; exact HBw2.out.drew)
  have hyd : Blk wd p 48 (zI m.k : Iv).cells.toArray := by rw [hwd]; exact HYw2.out.drew
  rw [← hwd]
  clear hwd
  have hkA := (iv_all hyd).2.2.2.2.2.1
  have hfA := hyd.frozen 1
  refine wpTree.one (fun K hK => ?_)
  go_simp
  obtain ⟨wa, hwwa⟩ : ∃ wa, wa = wd.setCell ⟨p, 1, none⟩ (.int .i64 m.ca) := ⟨_, rfl⟩
  have HBwa := Lib.hid (show Below p w2 wa by rw [hwwa]; exact Below.setCell (p := ⟨p, 1, none⟩) HBwd.out (Nat.le_refl _) _)
  have HYwa := Lib.hid (show Blk wa p 48 ({ zI m.k with ca := m.ca } : Iv).cells.toArray by rw [hwwa]; exact iv_setH hyd (by omega) rfl rfl rfl rfl rfl)
  rw [← hwwa]
  clear hwwa
  clear hkA hfA
  refine hK.out _ _ ⟨(HBwa.out.cell (p := ⟨W.heap.size, 1, none⟩) hp1).trans k1, (HBwa.out.cell (p := ⟨W.heap.size, 16, none⟩) hp1).trans k2, fun j v hj => (HBwa.out.cell (p := ⟨W.heap.size, 4 + j, none⟩) hp1).trans (k3 j v hj)⟩ (fun _ => ?_)
  clear hK K
  (try simp only [Act.put, List.setIfInBounds_toArray, List.set_cons_zero, List.set_cons_succ])
  (repeat (first | (refine wpTree.take (v := undef) (Or.inr ⟨by rfl, rfl⟩) ?_; simp only [Act.put, List.setIfInBounds_toArray, List.set_cons_zero, List.set_cons_succ]) | (refine wpTree.take (v := .agg (vl ?_).toArray) (yieldsIf_load_mid rfl 24 _ rfl _ _ rfl (vl _) _ ?_ Tryz.underlying24 rfl (vinfoL _)) ?_; rotate_left; (focus (intro _ hS; (try dsimp only at hS); go_split_ands; (first | assumption | exact Blk.range (by assumption)))); simp only [Act.put, List.setIfInBounds_toArray, List.set_cons_zero, List.set_cons_succ]) | (refine wpTree.take (v := ?_) (Or.inl ⟨by rfl, ?_⟩) ?_; rotate_left; (focus (intro _ hS; (try dsimp only at hS); go_split_ands; (try subst hS); go_simp; (try (with_reducible rfl)); done)); simp only [Act.put, List.setIfInBounds_toArray, List.set_cons_zero, List.set_cons_succ])))
  have hth := HYwa.out.thereT (o := 4) (n := (vl m.f).toArray.size) (by rw [List.size_toArray, List.size_toArray, iv_len, vl_len]; omega)
  refine wpTree.one (fun K hK => ?_)
  rw [if_pos (by rfl)]
  refine wp_store_mid 24 _ _ rfl p 4 (vl m.f).toArray rfl rfl hth (vinfo _) (vl_all _) ?_
  show K _ (wa.setCells p 4 (vl m.f))
  obtain ⟨wb, hwwb⟩ : ∃ wb, wb = wa.setCells p 4 (vl m.f) := ⟨_, rfl⟩
  have HBwb := Lib.hid (show Below p w2 wb by rw [hwwb]; exact setCells_below (Nat.le_refl _) _ _ _ HBwa.out)
  have HYwb := Lib.hid (show Blk wb p 48 ({ zI m.k with ca := m.ca, f := m.f } : Iv).cells.toArray by rw [hwwb]; exact iv_setF HYwa.out m.f)
  rw [← hwwb]
  clear hwwb
  clear hth
  refine hK.out _ _ ⟨(HBwb.out.cell (p := ⟨W.heap.size, 1, none⟩) hp1).trans k1, (HBwb.out.cell (p := ⟨W.heap.size, 16, none⟩) hp1).trans k2, fun j v hj => (HBwb.out.cell (p := ⟨W.heap.size, 4 + j, none⟩) hp1).trans (k3 j v hj)⟩ (fun _ => ?_)
  clear hK K
  (try simp only [Act.put, List.setIfInBounds_toArray, List.set_cons_zero, List.set_cons_succ])
  (repeat (first | (refine wpTree.take (v := undef) (Or.inr ⟨by rfl, rfl⟩) ?_; simp only [Act.put, List.setIfInBounds_toArray, List.set_cons_zero, List.set_cons_succ]) | (refine wpTree.take (v := .agg (vl ?_).toArray) (yieldsIf_load_mid rfl 24 _ rfl _ _ rfl (vl _) _ ?_ Tryz.underlying24 rfl (vinfoL _)) ?_; rotate_left; (focus (intro _ hS; (try dsimp only at hS); go_split_ands; (first | assumption | exact Blk.range (by assumption)))); simp only [Act.put, List.setIfInBounds_toArray, List.set_cons_zero, List.set_cons_succ]) | (refine wpTree.take (v := ?_) (Or.inl ⟨by rfl, ?_⟩) ?_; rotate_left; (focus (intro _ hS; (try dsimp only at hS); go_split_ands; (try subst hS); go_simp; (try (with_reducible rfl)); done)); simp only [Act.put, List.setIfInBounds_toArray, List.set_cons_zero, List.set_cons_succ])))
  have hkA := (iv_all HYwb.out).2.2.2.2.2.2.2.2
  have hfA := HYwb.out.frozen 16
  refine wpTree.one (fun K hK => ?_)
  go_simp
  obtain ⟨wt, hwwt⟩ : ∃ wt, wt = wb.setCell ⟨p, 16, none⟩ (.int .u64 (m.t : Nat)) := ⟨_, rfl⟩
  have HBwt := Lib.hid (show Below p w2 wt by rw [hwwt]; exact Below.setCell (p := ⟨p, 16, none⟩) HBwb.out (Nat.le_refl _) _)
  have HYwt := Lib.hid (show Blk wt p 48 ({ zI m.k with ca := m.ca, f := m.f, t := m.t } : Iv).cells.toArray by rw [hwwt]; exact iv_setT HYwb.out m.t)
  rw [← hwwt]
  clear hwwt
  clear hkA hfA
  refine hK.out _ _ ⟨(HBwt.out.cell (p := ⟨W.heap.size, 1, none⟩) hp1).trans k1, (HBwt.out.cell (p := ⟨W.heap.size, 16, none⟩) hp1).trans k2, fun j v hj => (HBwt.out.cell (p := ⟨W.heap.size, 4 + j, none⟩) hp1).trans (k3 j v hj)⟩ (fun _ => ?_)
  clear hK K
  (try simp only [Act.put, List.setIfInBounds_toArray, List.set_cons_zero, List.set_cons_succ])
  refine wpTree.done ?_
  clear c0 c1 ct rf hHeld hp1 hyd HBwd HYwa HBwa HYwb HBwb k1 k2 k3
  obtain ⟨-, rf, ro, rx, c0, c1, c2, c3, ct⟩ := iv_all (blk_below HA2.out HBwt.out (by have := HPS.out; omega))
  clear rf ro rx c1 c3 ct
  have hk := (iv_all HYwt.out).2.2.2.2.2.2.1
  have hf := HYwt.out.frozen 2
  go_upto_region 6 with (first | (go_at_call 31; refine (hascart_any _ _).mono ?_; rintro e wh ⟨rfl, rfl⟩; rw [h1]) | (go_at_call 33; refine (hasseller_any _ _).mono ?_; rintro e wh ⟨rfl, rfl⟩; rw [h2]) | (go_at_call 34; refine (hasnode_any _ _).mono ?_; rintro e wh ⟨rfl, rfl⟩; rw [h3]) | (go_at_call 35; refine (hasop_any _ _).mono ?_; rintro e wh ⟨rfl, rfl⟩; rw [h4]) | (go_at_call 37; refine (haspacket_any _ _).mono ?_; rintro e wh ⟨rfl, rfl⟩; rw [h5]))
  clear hk hf c0 c2
  obtain ⟨w3, hww3⟩ : ∃ w3, w3 = wt.setCell ⟨p, 2, none⟩ (.int .i64 m.se) := ⟨_, rfl⟩
  have HBw3 := Lib.hid (show Below p w2 w3 by rw [hww3]; exact Below.setCell (p := ⟨p, 2, none⟩) HBwt.out (Nat.le_refl _) _)
  have HYw3 := Lib.hid (show Blk w3 p 48 ({ zI m.k with ca := m.ca, f := m.f, t := m.t, se := m.se } : Iv).cells.toArray by rw [hww3]; exact iv_setH HYwt.out (by omega) rfl rfl rfl rfl rfl)
  rw [← hww3]
  clear hww3
  obtain ⟨-, rf, ro, rx, c0, c1, c2, c3, ct⟩ := iv_all (blk_below HA2.out HBw3.out (by have := HPS.out; omega))
  clear rf rx c1 c2 c3 ct
  have hth := HYw3.out.thereT (o := 17) (n := m.o.cells.toArray.size) (by rw [List.size_toArray, List.size_toArray, iv_len, op_len]; omega)
  go_upto_region 10 with (first | (go_at_call 31; refine (hascart_any _ _).mono ?_; rintro e wh ⟨rfl, rfl⟩; rw [h1]) | (go_at_call 33; refine (hasseller_any _ _).mono ?_; rintro e wh ⟨rfl, rfl⟩; rw [h2]) | (go_at_call 34; refine (hasnode_any _ _).mono ?_; rintro e wh ⟨rfl, rfl⟩; rw [h3]) | (go_at_call 35; refine (hasop_any _ _).mono ?_; rintro e wh ⟨rfl, rfl⟩; rw [h4]) | (go_at_call 37; refine (haspacket_any _ _).mono ?_; rintro e wh ⟨rfl, rfl⟩; rw [h5]) | (refine wpList_load_midg (by rfl) 46 _ rfl _ _ rfl (OpR.cells ?_) _ ?_ Tryz.underlying46 rfl (oinfo _) ?_; rotate_left; (focus assumption)) | (refine wpList_store_mid rfl 46 _ _ rfl p 17 m.o.cells.toArray rfl rfl hth (oinfoA _) (op_one _) ?_; show wpList _ _ _ _ _ (w3.setCells p 17 m.o.cells)))
  clear hth c0 ro
  obtain ⟨w4, hww4⟩ : ∃ w4, w4 = w3.setCells p 17 m.o.cells := ⟨_, rfl⟩
  have HBw4 := Lib.hid (show Below p w2 w4 by rw [hww4]; exact setCells_below (Nat.le_refl _) _ _ _ HBw3.out)
  have HYw4 := Lib.hid (show Blk w4 p 48 ({ zI m.k with ca := m.ca, f := m.f, t := m.t, se := m.se, o := m.o } : Iv).cells.toArray by rw [hww4]; exact iv_setO HYw3.out m.o)
  rw [← hww4]
  clear hww4
  have HZ := Lib.hid (show Blk w4 p 48 (partsI m).cells.toArray by rw [HP.out]; exact HYw4.out)
  have hpS := HPS.out
  have HRF := Lib.hid (show Blk w4 (W.heap.size + 1) 48 (zI 0).cells.toArray from (HBw4.out.block (W.heap.size + 1) (by omega)).trans HR2.out)
  have HBF := Lib.hid (HB2.out.trans (HBw4.out.mono (show W.heap.size ≤ p by omega)))
  have c0 := (iv_all (blk_below HA2.out HBw4.out (by omega))).2.2.2.2.1
  have rz := HZ.out.range
  clear hpS HA2 HR2 HB2 HY HPS
  go_wp2_with (first | (go_at_call 31; refine (hascart_any _ _).mono ?_; rintro e wh ⟨rfl, rfl⟩; rw [h1]) | (go_at_call 33; refine (hasseller_any _ _).mono ?_; rintro e wh ⟨rfl, rfl⟩; rw [h2]) | (go_at_call 34; refine (hasnode_any _ _).mono ?_; rintro e wh ⟨rfl, rfl⟩; rw [h3]) | (go_at_call 35; refine (hasop_any _ _).mono ?_; rintro e wh ⟨rfl, rfl⟩; rw [h4]) | (go_at_call 37; refine (haspacket_any _ _).mono ?_; rintro e wh ⟨rfl, rfl⟩; rw [h5]) | (refine wpList_load_midg (by rfl) 48 _ rfl _ _ rfl (Iv.cells ?_) _ ?_ Tryz.underlying48 rfl (ivinfo _) ?_; rotate_left; (focus assumption)) | (refine wpList_store_blk rfl 48 _ _ rfl (W.heap.size + 1) 48 (zI 0).cells.toArray (partsI m).cells.toArray rfl rfl HRF.out (ivinfoA _) (iv_siz _ _) (iv_one _) ?_; intro hrow))
  exact bodyPost_row (t := 48) (partsI m).cells.toArray rfl rfl rfl Tryz.underlying48 rfl (ivinfoA _) hrow ⟨rfl, below_setRow HBF.out (by omega) _⟩
theorem parts_any (m : Iv) (W : World) : Calls Tryz.prog 29 #[.agg m.cells.toArray] W fun e W' => e = .returned (.agg (partsI m).cells.toArray) ∧ Below W.heap.size W W' := by
  rcases kd_any m.k with ⟨_, h1, h2, h3, h4, h5⟩ | ⟨_, h1, h2, h3, h4, h5⟩ | ⟨_, h1, h2, h3, h4, h5⟩ | ⟨_, h1, h2, h3, h4, h5⟩ | ⟨_, h1, h2, h3, h4, h5⟩ | ⟨_, h1, h2, h3, h4, h5⟩
  · exact parts_ord m W h1 h2 h3 h4 h5
  · exact parts_sel m W h1 h2 h3 h4 h5
  · exact parts_joi m W h1 h2 h3 h4 h5
  · exact parts_chk m W h1 h2 h3 h4 h5
  · exact parts_pac m W h1 h2 h3 h4 h5
  · exact parts_no m W h1 h2 h3 h4 h5
end In
end Go.Proofs.YtgnfachjobohoaaGreat
