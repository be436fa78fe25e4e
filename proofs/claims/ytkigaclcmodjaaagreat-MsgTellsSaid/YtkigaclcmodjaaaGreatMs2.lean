/-
msg: within, what kinds have, parts.
msg: rightStance, Same, Right.
msg: putStance, Write; the makers.
msg: getStance, get, Read.
msg: bytes there and back; Read.
msg: the makers; plain data as messages; what came in.
msg: what must come of fixed calls.
-/
import Derived.Test.YtkigaclcmodjaaaGreatMs
import Derived.Deep.MidRow
import Derived.Deep.CutRange
namespace Go.Proofs.YtkigaclcmodjaaaGreat
open Go.RowKit
set_option linter.unusedSimpArgs false
set_option linter.unusedVariables false
namespace Mg
theorem within_any (n a b : Int) (W : World) : Calls Tryz.prog 48 #[.int .i64 n, .int .i64 a, .int .i64 b] W fun e W' => e = .returned (.bool (withinB n a b)) ∧ W = W' := by
  unfold withinB
  cases h1 : decide (a ≤ n) with
  | true =>
    rw [Bool.true_and]
    go_enter Tryz.func48, Tryz.ntmps48
    go_wp2_with fail
    go_ret
    exact ⟨rfl, rfl⟩
  | false =>
    rw [Bool.false_and]
    go_enter Tryz.func48, Tryz.ntmps48
    go_wp2_with fail
    go_ret
    exact ⟨rfl, rfl⟩
def hl (k : Int) : Bool := k == 1
def hev (k : Int) : Bool := (k == 2) || (k == 3)
def hse (k : Int) : Bool := withinB k 4 9
def hco (k : Int) : Bool := k == 5
def hst (k : Int) : Bool := k == 10
theorem haslabel_any (k : Int) (W : World) : Calls Tryz.prog 26 #[.int .i64 k] W fun e W' => e = .returned (.bool (hl k)) ∧ W = W' := by
  go_enter Tryz.func26, Tryz.ntmps26
  go_wp2_with fail
  go_ret
  exact ⟨rfl, rfl⟩
theorem hascount_any (k : Int) (W : World) : Calls Tryz.prog 33 #[.int .i64 k] W fun e W' => e = .returned (.bool (hco k)) ∧ W = W' := by
  go_enter Tryz.func33, Tryz.ntmps33
  go_wp2_with fail
  go_ret
  exact ⟨rfl, rfl⟩
theorem hasstance_any (k : Int) (W : World) : Calls Tryz.prog 31 #[.int .i64 k] W fun e W' => e = .returned (.bool (hst k)) ∧ W = W' := by
  go_enter Tryz.func31, Tryz.ntmps31
  go_wp2_with fail
  go_ret
  exact ⟨rfl, rfl⟩
theorem hasevent_any (k : Int) (W : World) : Calls Tryz.prog 28 #[.int .i64 k] W fun e W' => e = .returned (.bool (hev k)) ∧ W = W' := by
  unfold hev
  cases h1 : (k == 2) with
  | true =>
    go_enter Tryz.func28, Tryz.ntmps28
    go_wp2_with fail
    go_ret
    exact ⟨rfl, rfl⟩
  | false =>
    go_enter Tryz.func28, Tryz.ntmps28
    go_wp2_with fail
    go_ret
    exact ⟨rfl, rfl⟩
theorem hasseller_any (k : Int) (W : World) : Calls Tryz.prog 30 #[.int .i64 k] W fun e W' => e = .returned (.bool (hse k)) ∧ W = W' := by
  have HB := Lib.hid (within_any k 4 9)
  go_enter Tryz.func30, Tryz.ntmps30
  go_wp2_with (go_at_call 48; refine (HB.out _).mono ?_; rintro e w1 ⟨rfl, rfl⟩)
  go_ret
  exact ⟨rfl, rfl⟩
/-- The kinds. -/
inductive Kd (k : Int) : Prop
  | lab (h : k = 1) (h1 : hl k = true) (h2 : hev k = false) (h3 : hse k = false) (h4 : hst k = false) (h5 : hco k = false)
  | ev (h : k = 2 ∨ k = 3) (h1 : hl k = false) (h2 : hev k = true) (h3 : hse k = false) (h4 : hst k = false) (h5 : hco k = false)
  | sel (h : k = 4 ∨ k = 6 ∨ k = 7 ∨ k = 8 ∨ k = 9) (h1 : hl k = false) (h2 : hev k = false) (h3 : hse k = true) (h4 : hst k = false) (h5 : hco k = false)
  | en (h : k = 5) (h1 : hl k = false) (h2 : hev k = false) (h3 : hse k = true) (h4 : hst k = false) (h5 : hco k = true)
  | st (h : k = 10) (h1 : hl k = false) (h2 : hev k = false) (h3 : hse k = false) (h4 : hst k = true) (h5 : hco k = false)
  | no (h : k < 1 ∨ 10 < k) (h1 : hl k = false) (h2 : hev k = false) (h3 : hse k = false) (h4 : hst k = false) (h5 : hco k = false)
theorem kd_any (k : Int) : Kd k := by
  by_cases h0 : k < 1 ∨ 10 < k
  · exact .no h0 (by unfold hl; simp; omega) (by unfold hev; simp; omega) (by unfold hse withinB; simp; omega) (by unfold hst; simp; omega) (by unfold hco; simp; omega)
  by_cases h1 : k = 1
  · subst h1; exact .lab rfl (by decide) (by decide) (by decide) (by decide) (by decide)
  by_cases h2 : k = 2
  · subst h2; exact .ev (Or.inl rfl) (by decide) (by decide) (by decide) (by decide) (by decide)
  by_cases h3 : k = 3
  · subst h3; exact .ev (Or.inr rfl) (by decide) (by decide) (by decide) (by decide) (by decide)
  by_cases h5 : k = 5
  · subst h5; exact .en rfl (by decide) (by decide) (by decide) (by decide) (by decide)
  by_cases h10 : k = 10
  · subst h10; exact .st rfl (by decide) (by decide) (by decide) (by decide) (by decide)
  · exact .sel (by omega) (by unfold hl; simp; omega) (by unfold hev; simp; omega) (by unfold hse withinB; simp; omega) (by unfold hst; simp; omega) (by unfold hco; simp; omega)
/-- A message of a kind alone. -/
def zM (k : Int) : Ms := ⟨k, 0, 0, 0, 0, Lab.zero, Ev.zero, St.zero⟩
def zEvL : List Value := [.int .u64 0, .int .i64 0, .int .u32 0, .int .i64 0, .int .i64 0, .int .u32 0, .int .u32 0, .int .u32 0, .int .u32 0, .int .u32 0, .int .u32 0, .int .u32 0, .int .u32 0, .int .u32 0, .int .u32 0, .int .u32 0, .int .u32 0, .int .i64 0, .int .i64 0, .int .i64 0, .float .f64 0]
theorem ev_zeroL : Ev.zero.cells = zEvL := congrArg Array.toList ev_zeroA
theorem zM_cells (k : Int) : (zM k).cells.toArray = #[.int .i64 k, .int .i64 0, .int .i64 0, .int .i64 0, .int .i64 0, .int .u64 0, .int .i64 0, .int .u32 0, .int .i64 0, .int .i64 0, .int .u32 0, .int .u32 0, .int .u32 0, .int .u32 0, .int .u32 0, .int .u32 0, .int .u32 0, .int .u32 0, .int .u32 0, .int .u32 0, .int .u32 0, .int .u32 0, .int .u64 0, .int .i64 0, .int .u32 0, .int .i64 0, .int .i64 0, .int .u32 0, .int .u32 0, .int .u32 0, .int .u32 0, .int .u32 0, .int .u32 0, .int .u32 0, .int .u32 0, .int .u32 0, .int .u32 0, .int .u32 0, .int .u32 0, .int .i64 0, .int .i64 0, .int .i64 0, .float .f64 0, .bool false, .int .u64 0, .int .u32 0, .int .u32 0, .int .u32 0, .int .u32 0, .int .u32 0, .int .u32 0, .int .u32 0, .int .u32 0, .int .u32 0, .int .u32 0, .int .u32 0, .int .u32 0] := by
  rw [ms_def]
  show (([.int .i64 k, .int .i64 0, .int .i64 0, .int .i64 0, .int .i64 0] : List Value) ++ Lab.zero.cells ++ Ev.zero.cells ++ St.zero.cells).toArray = _
  rw [lab_zeroL, ev_zeroL, st_zeroL]
  rfl
theorem built_zM (k : Int) : Tryz.prog.built 55 [(0, .int .i64 k)] = some (zM k).cells.toArray := by rw [zM_cells]; kernel_rfl
theorem ms_setL {w : World} {g : Nat} {t : TypeId} {m : Ms} (h : Blk w g t m.cells.toArray) (l : Lab) : Blk (w.setCells g 5 l.cells) g t ({ m with l := l } : Ms).cells.toArray := by
  rw [ms_def] at h ⊢
  rw [List.append_assoc] at h ⊢
  exact Blk.setMid l.cells m.hd m.l.cells _ w h (by rw [lab_len, lab_len])
theorem ms_setX {w : World} {g : Nat} {t : TypeId} {m : Ms} (h : Blk w g t m.cells.toArray) (x : Ev) : Blk (w.setCells g 22 x.cells) g t ({ m with x := x } : Ms).cells.toArray := by
  rw [ms_def] at h ⊢
  have := Blk.setMid x.cells (m.hd ++ m.l.cells) m.x.cells _ w h (by rw [ev_len, ev_len])
  rwa [show (m.hd ++ m.l.cells).length = 22 from by rw [List.length_append, hd_len, lab_len]] at this
theorem ms_setS {w : World} {g : Nat} {t : TypeId} {m : Ms} (h : Blk w g t m.cells.toArray) (s : St) : Blk (w.setCells g 43 s.cells) g t ({ m with s := s } : Ms).cells.toArray := by
  rw [ms_def] at h ⊢
  have := Blk.setMid (q := []) s.cells (m.hd ++ m.l.cells ++ m.x.cells) m.s.cells w (by rw [List.append_nil]; exact h) (by rw [st_len, st_len])
  rw [show (m.hd ++ m.l.cells ++ m.x.cells).length = 43 from by simp only [List.length_append, hd_len, lab_len, ev_len], List.append_nil] at this
  exact this
theorem ms_setH {w : World} {g : Nat} {t : TypeId} {m n : Ms} {i : Nat} {v : Value} (h : Blk w g t m.cells.toArray) (hi : i < 5) (hn : n.hd = m.hd.set i v) (hl : n.l = m.l) (hx : n.x = m.x) (hs : n.s = m.s) : Blk (w.setCell ⟨g, i, none⟩ v) g t n.cells.toArray := by
  have h1 := h.setCell i v
  rw [ms_def] at h1 ⊢
  rw [hn, hl, hx, hs]
  have e : (m.hd ++ m.l.cells ++ m.x.cells ++ m.s.cells).toArray.setIfInBounds i v = (m.hd.set i v ++ m.l.cells ++ m.x.cells ++ m.s.cells).toArray := by
    rw [List.setIfInBounds_toArray, List.append_assoc, List.append_assoc, List.set_append_left _ _ (by rw [hd_len]; exact hi)]
    simp only [List.append_assoc]
  rw [e] at h1
  exact h1
/-- A message with those parts alone that its kind has. -/
def partsM (m : Ms) : Ms := ⟨m.k, if hse m.k then m.se else 0, if hco m.k then m.co else 0, if hst m.k then m.ca else 0, if hst m.k then m.ro else 0, if hl m.k then m.l else Lab.zero, if hev m.k then m.x else Ev.zero, if hst m.k then m.s else St.zero⟩
set_option maxRecDepth 20000 in
set_option maxHeartbeats 4000000 in
theorem parts_no (m : Ms) (W : World) (h1 : hl m.k = false) (h2 : hev m.k = false) (h3 : hse m.k = false) (h4 : hst m.k = false) (h5 : hco m.k = false) : Calls Tryz.prog 45 #[.agg m.cells.toArray] W fun e W' => e = .returned (.agg (partsM m).cells.toArray) ∧ Below W.heap.size W W' := by
  have bz := zM_cells 0
  have bA := (Blk.new W 55 m.cells.toArray).alloc (.cells (zM 0).cells.toArray 55)
  have bR : Blk ((W.alloc (.cells m.cells.toArray 55)).alloc (.cells (zM 0).cells.toArray 55)) (W.heap.size + 1) 55 (zM 0).cells.toArray := Blk.new' (by simp)
  have hB0 := ((Below.refl W.heap.size W).alloc (Nat.le_refl _) (.cells m.cells.toArray 55)).alloc (by simp) (.cells (zM 0).cells.toArray 55)
  obtain ⟨w1, hw1⟩ : ∃ w1, w1 = (W.alloc (.cells m.cells.toArray 55)).alloc (.cells (zM 0).cells.toArray 55) := ⟨_, rfl⟩
  have hs1 : w1.heap.size = W.heap.size + 2 := by rw [hw1]; simp
  rw [← hw1] at bA bR hB0
  rw [bz] at hw1
  have HW1 := Lib.hid hw1
  have HA := Lib.hid bA
  have HR := Lib.hid bR
  have HB := Lib.hid hB0
  have HS1 := Lib.hid hs1
  obtain ⟨_, rl, rx, rs, c0, c1, c2, c3, c4⟩ := ms_all bA
  have HP := Lib.hid (show partsM m = zM m.k by unfold partsM zM; rw [h1, h2, h3, h4, h5]; rfl)
  clear bz bA bR hB0 hw1 hs1
  go_enter Tryz.func45, Tryz.ntmps45
  go_upto_region 1 with fail
  rw [← HW1.out]
  clear HW1
  go_upto_region 2 with (first | (refine wpList_build_lit (zM m.k).cells.toArray rfl 55 _ rfl (built_zM m.k) ?_) | (refine wpList_store_blk rfl 55 _ _ rfl w1.heap.size 55 (zM 0).cells.toArray (zM m.k).cells.toArray rfl rfl (by rw [zM_cells]; exact Blk.new' rfl) (msinfoA _) (by rw [List.size_toArray, List.size_toArray, ms_len, ms_len]) (ms_one _) ?_; intro hy))
  have hbn := below_setRow ((Below.refl w1.heap.size w1).alloc (Nat.le_refl _) (.cells (zM 0).cells.toArray 55)) (Nat.le_refl _) (zM m.k).cells.toArray
  rw [zM_cells 0] at hbn
  obtain ⟨w2, hw2⟩ : ∃ w2, w2 = (w1.alloc (.cells #[.int .i64 0, .int .i64 0, .int .i64 0, .int .i64 0, .int .i64 0, .int .u64 0, .int .i64 0, .int .u32 0, .int .i64 0, .int .i64 0, .int .u32 0, .int .u32 0, .int .u32 0, .int .u32 0, .int .u32 0, .int .u32 0, .int .u32 0, .int .u32 0, .int .u32 0, .int .u32 0, .int .u32 0, .int .u32 0, .int .u64 0, .int .i64 0, .int .u32 0, .int .i64 0, .int .i64 0, .int .u32 0, .int .u32 0, .int .u32 0, .int .u32 0, .int .u32 0, .int .u32 0, .int .u32 0, .int .u32 0, .int .u32 0, .int .u32 0, .int .u32 0, .int .u32 0, .int .i64 0, .int .i64 0, .int .i64 0, .float .f64 0, .bool false, .int .u64 0, .int .u32 0, .int .u32 0, .int .u32 0, .int .u32 0, .int .u32 0, .int .u32 0, .int .u32 0, .int .u32 0, .int .u32 0, .int .u32 0, .int .u32 0, .int .u32 0] 55)).setRow w1.heap.size (zM m.k).cells.toArray := ⟨_, rfl⟩
  rw [← hw2] at hbn hy ⊢
  obtain ⟨p, hp⟩ : ∃ p, p = w1.heap.size := ⟨_, rfl⟩
  rw [← hp] at hy ⊢
  have hpS : p = W.heap.size + 2 := hp.trans HS1.out
  have HA2 := Lib.hid (HA.out.next hbn)
  have HR2 := Lib.hid (HR.out.next hbn)
  have HB2 := Lib.hid (HB.out.trans (hbn.mono HB.out.size))
  have HY := Lib.hid hy
  have HPS := Lib.hid hpS
  obtain ⟨_, rl, rx, rs, c0, c1, c2, c3, c4⟩ := ms_all HA2.out
  clear hw2 hp hbn hy HA HR HB HS1 hpS
  clear rl rx rs c1 c2 c3 c4
  clear c0
  have hbp : Below p w2 w2 := Below.refl _ _
  have HZ := Lib.hid (show Blk w2 p 55 (partsM m).cells.toArray by rw [HP.out]; exact HY.out)
  have hpS := HPS.out
  have HRF := Lib.hid (show Blk w2 (W.heap.size + 1) 55 (zM 0).cells.toArray from (hbp.block (W.heap.size + 1) (by omega)).trans HR2.out)
  have HBF := Lib.hid (HB2.out.trans (hbp.mono (show W.heap.size ≤ p by omega)))
  have c0 := (hbp.cell (p := ⟨W.heap.size, 0, none⟩) (show W.heap.size < p by omega)).trans (ms_all HA2.out).2.2.2.2.1
  have rz := HZ.out.range
  clear hbp hpS HA2 HR2 HB2 HY HPS
  go_wp2_with (first | (go_at_call 26; refine (haslabel_any _ _).mono ?_; rintro e wh ⟨rfl, rfl⟩; rw [h1]) | (go_at_call 28; refine (hasevent_any _ _).mono ?_; rintro e wh ⟨rfl, rfl⟩; rw [h2]) | (go_at_call 30; refine (hasseller_any _ _).mono ?_; rintro e wh ⟨rfl, rfl⟩; rw [h3]) | (go_at_call 31; refine (hasstance_any _ _).mono ?_; rintro e wh ⟨rfl, rfl⟩; rw [h4]) | (go_at_call 33; refine (hascount_any _ _).mono ?_; rintro e wh ⟨rfl, rfl⟩; rw [h5]) | (refine wpList_load_midg (by rfl) 55 _ rfl _ _ rfl (Ms.cells ?_) _ ?_ Tryz.underlying55 rfl (msinfo _) ?_; rotate_left; (focus assumption)) | (refine wpList_store_blk rfl 55 _ _ rfl (W.heap.size + 1) 55 (zM 0).cells.toArray (partsM m).cells.toArray rfl rfl HRF.out (msinfoA _) (by rw [List.size_toArray, List.size_toArray, ms_len, ms_len]) (ms_one _) ?_; intro hrow))
  exact bodyPost_row (t := 55) (partsM m).cells.toArray rfl rfl rfl Tryz.underlying55 rfl (msinfoA _) hrow ⟨rfl, below_setRow HBF.out (by omega) _⟩
set_option maxRecDepth 20000 in
set_option maxHeartbeats 4000000 in
theorem parts_lab (m : Ms) (W : World) (h1 : hl m.k = true) (h2 : hev m.k = false) (h3 : hse m.k = false) (h4 : hst m.k = false) (h5 : hco m.k = false) : Calls Tryz.prog 45 #[.agg m.cells.toArray] W fun e W' => e = .returned (.agg (partsM m).cells.toArray) ∧ Below W.heap.size W W' := by
  have bz := zM_cells 0
  have bA := (Blk.new W 55 m.cells.toArray).alloc (.cells (zM 0).cells.toArray 55)
  have bR : Blk ((W.alloc (.cells m.cells.toArray 55)).alloc (.cells (zM 0).cells.toArray 55)) (W.heap.size + 1) 55 (zM 0).cells.toArray := Blk.new' (by simp)
  have hB0 := ((Below.refl W.heap.size W).alloc (Nat.le_refl _) (.cells m.cells.toArray 55)).alloc (by simp) (.cells (zM 0).cells.toArray 55)
  obtain ⟨w1, hw1⟩ : ∃ w1, w1 = (W.alloc (.cells m.cells.toArray 55)).alloc (.cells (zM 0).cells.toArray 55) := ⟨_, rfl⟩
  have hs1 : w1.heap.size = W.heap.size + 2 := by rw [hw1]; simp
  rw [← hw1] at bA bR hB0
  rw [bz] at hw1
  have HW1 := Lib.hid hw1
  have HA := Lib.hid bA
  have HR := Lib.hid bR
  have HB := Lib.hid hB0
  have HS1 := Lib.hid hs1
  obtain ⟨_, rl, rx, rs, c0, c1, c2, c3, c4⟩ := ms_all bA
  have HP := Lib.hid (show partsM m = { zM m.k with l := m.l } by unfold partsM zM; rw [h1, h2, h3, h4, h5]; rfl)
  clear bz bA bR hB0 hw1 hs1
  go_enter Tryz.func45, Tryz.ntmps45
  go_upto_region 1 with fail
  rw [← HW1.out]
  clear HW1
  go_upto_region 2 with (first | (refine wpList_build_lit (zM m.k).cells.toArray rfl 55 _ rfl (built_zM m.k) ?_) | (refine wpList_store_blk rfl 55 _ _ rfl w1.heap.size 55 (zM 0).cells.toArray (zM m.k).cells.toArray rfl rfl (by rw [zM_cells]; exact Blk.new' rfl) (msinfoA _) (by rw [List.size_toArray, List.size_toArray, ms_len, ms_len]) (ms_one _) ?_; intro hy))
  have hbn := below_setRow ((Below.refl w1.heap.size w1).alloc (Nat.le_refl _) (.cells (zM 0).cells.toArray 55)) (Nat.le_refl _) (zM m.k).cells.toArray
  rw [zM_cells 0] at hbn
  obtain ⟨w2, hw2⟩ : ∃ w2, w2 = (w1.alloc (.cells #[.int .i64 0, .int .i64 0, .int .i64 0, .int .i64 0, .int .i64 0, .int .u64 0, .int .i64 0, .int .u32 0, .int .i64 0, .int .i64 0, .int .u32 0, .int .u32 0, .int .u32 0, .int .u32 0, .int .u32 0, .int .u32 0, .int .u32 0, .int .u32 0, .int .u32 0, .int .u32 0, .int .u32 0, .int .u32 0, .int .u64 0, .int .i64 0, .int .u32 0, .int .i64 0, .int .i64 0, .int .u32 0, .int .u32 0, .int .u32 0, .int .u32 0, .int .u32 0, .int .u32 0, .int .u32 0, .int .u32 0, .int .u32 0, .int .u32 0, .int .u32 0, .int .u32 0, .int .i64 0, .int .i64 0, .int .i64 0, .float .f64 0, .bool false, .int .u64 0, .int .u32 0, .int .u32 0, .int .u32 0, .int .u32 0, .int .u32 0, .int .u32 0, .int .u32 0, .int .u32 0, .int .u32 0, .int .u32 0, .int .u32 0, .int .u32 0] 55)).setRow w1.heap.size (zM m.k).cells.toArray := ⟨_, rfl⟩
  rw [← hw2] at hbn hy ⊢
  obtain ⟨p, hp⟩ : ∃ p, p = w1.heap.size := ⟨_, rfl⟩
  rw [← hp] at hy ⊢
  have hpS : p = W.heap.size + 2 := hp.trans HS1.out
  have HA2 := Lib.hid (HA.out.next hbn)
  have HR2 := Lib.hid (HR.out.next hbn)
  have HB2 := Lib.hid (HB.out.trans (hbn.mono HB.out.size))
  have HY := Lib.hid hy
  have HPS := Lib.hid hpS
  obtain ⟨_, rl, rx, rs, c0, c1, c2, c3, c4⟩ := ms_all HA2.out
  clear hw2 hp hbn hy HA HR HB HS1 hpS
  clear rx rs c1 c2 c3 c4
  have hth := HY.out.thereT (o := 5) (n := m.l.cells.toArray.size) (by rw [List.size_toArray, List.size_toArray, ms_len, lab_len]; omega)
  go_upto_region 10 with (first | (go_at_call 26; refine (haslabel_any _ _).mono ?_; rintro e wh ⟨rfl, rfl⟩; rw [h1]) | (go_at_call 28; refine (hasevent_any _ _).mono ?_; rintro e wh ⟨rfl, rfl⟩; rw [h2]) | (go_at_call 30; refine (hasseller_any _ _).mono ?_; rintro e wh ⟨rfl, rfl⟩; rw [h3]) | (go_at_call 31; refine (hasstance_any _ _).mono ?_; rintro e wh ⟨rfl, rfl⟩; rw [h4]) | (go_at_call 33; refine (hascount_any _ _).mono ?_; rintro e wh ⟨rfl, rfl⟩; rw [h5]) | (refine wpList_load_midg (by rfl) 27 _ rfl _ _ rfl (Lab.cells ?_) _ ?_ Tryz.underlying27 rfl (linfo _) ?_; rotate_left; (focus assumption)) | (refine wpList_store_mid rfl 27 _ _ rfl p 5 m.l.cells.toArray rfl rfl hth (linfoA _) (lab_one _) ?_; show wpList _ _ _ _ _ (w2.setCells p 5 m.l.cells)))
  clear hth
  obtain ⟨w3, hw3⟩ : ∃ w3, w3 = w2.setCells p 5 m.l.cells := ⟨_, rfl⟩
  have hb3 : Below p w2 w3 := by rw [hw3]; exact setCells_below (Nat.le_refl _) _ _ _ (Below.refl _ _)
  have hy3 := ms_setL HY.out m.l
  rw [← hw3] at hy3 ⊢
  clear hw3
  clear c0 rl
  have hbp : Below p w2 w3 := hb3
  have HZ := Lib.hid (show Blk w3 p 55 (partsM m).cells.toArray by rw [HP.out]; exact hy3)
  have hpS := HPS.out
  have HRF := Lib.hid (show Blk w3 (W.heap.size + 1) 55 (zM 0).cells.toArray from (hbp.block (W.heap.size + 1) (by omega)).trans HR2.out)
  have HBF := Lib.hid (HB2.out.trans (hbp.mono (show W.heap.size ≤ p by omega)))
  have c0 := (hbp.cell (p := ⟨W.heap.size, 0, none⟩) (show W.heap.size < p by omega)).trans (ms_all HA2.out).2.2.2.2.1
  have rz := HZ.out.range
  clear hbp hpS HA2 HR2 HB2 HY HPS
  go_wp2_with (first | (go_at_call 26; refine (haslabel_any _ _).mono ?_; rintro e wh ⟨rfl, rfl⟩; rw [h1]) | (go_at_call 28; refine (hasevent_any _ _).mono ?_; rintro e wh ⟨rfl, rfl⟩; rw [h2]) | (go_at_call 30; refine (hasseller_any _ _).mono ?_; rintro e wh ⟨rfl, rfl⟩; rw [h3]) | (go_at_call 31; refine (hasstance_any _ _).mono ?_; rintro e wh ⟨rfl, rfl⟩; rw [h4]) | (go_at_call 33; refine (hascount_any _ _).mono ?_; rintro e wh ⟨rfl, rfl⟩; rw [h5]) | (refine wpList_load_midg (by rfl) 55 _ rfl _ _ rfl (Ms.cells ?_) _ ?_ Tryz.underlying55 rfl (msinfo _) ?_; rotate_left; (focus assumption)) | (refine wpList_store_blk rfl 55 _ _ rfl (W.heap.size + 1) 55 (zM 0).cells.toArray (partsM m).cells.toArray rfl rfl HRF.out (msinfoA _) (by rw [List.size_toArray, List.size_toArray, ms_len, ms_len]) (ms_one _) ?_; intro hrow))
  exact bodyPost_row (t := 55) (partsM m).cells.toArray rfl rfl rfl Tryz.underlying55 rfl (msinfoA _) hrow ⟨rfl, below_setRow HBF.out (by omega) _⟩
set_option maxRecDepth 20000 in
set_option maxHeartbeats 4000000 in
theorem parts_ev (m : Ms) (W : World) (h1 : hl m.k = false) (h2 : hev m.k = true) (h3 : hse m.k = false) (h4 : hst m.k = false) (h5 : hco m.k = false) : Calls Tryz.prog 45 #[.agg m.cells.toArray] W fun e W' => e = .returned (.agg (partsM m).cells.toArray) ∧ Below W.heap.size W W' := by
  have bz := zM_cells 0
  have bA := (Blk.new W 55 m.cells.toArray).alloc (.cells (zM 0).cells.toArray 55)
  have bR : Blk ((W.alloc (.cells m.cells.toArray 55)).alloc (.cells (zM 0).cells.toArray 55)) (W.heap.size + 1) 55 (zM 0).cells.toArray := Blk.new' (by simp)
  have hB0 := ((Below.refl W.heap.size W).alloc (Nat.le_refl _) (.cells m.cells.toArray 55)).alloc (by simp) (.cells (zM 0).cells.toArray 55)
  obtain ⟨w1, hw1⟩ : ∃ w1, w1 = (W.alloc (.cells m.cells.toArray 55)).alloc (.cells (zM 0).cells.toArray 55) := ⟨_, rfl⟩
  have hs1 : w1.heap.size = W.heap.size + 2 := by rw [hw1]; simp
  rw [← hw1] at bA bR hB0
  rw [bz] at hw1
  have HW1 := Lib.hid hw1
  have HA := Lib.hid bA
  have HR := Lib.hid bR
  have HB := Lib.hid hB0
  have HS1 := Lib.hid hs1
  obtain ⟨_, rl, rx, rs, c0, c1, c2, c3, c4⟩ := ms_all bA
  have HP := Lib.hid (show partsM m = { zM m.k with x := m.x } by unfold partsM zM; rw [h1, h2, h3, h4, h5]; rfl)
  clear bz bA bR hB0 hw1 hs1
  go_enter Tryz.func45, Tryz.ntmps45
  go_upto_region 1 with fail
  rw [← HW1.out]
  clear HW1
  go_upto_region 2 with (first | (refine wpList_build_lit (zM m.k).cells.toArray rfl 55 _ rfl (built_zM m.k) ?_) | (refine wpList_store_blk rfl 55 _ _ rfl w1.heap.size 55 (zM 0).cells.toArray (zM m.k).cells.toArray rfl rfl (by rw [zM_cells]; exact Blk.new' rfl) (msinfoA _) (by rw [List.size_toArray, List.size_toArray, ms_len, ms_len]) (ms_one _) ?_; intro hy))
  have hbn := below_setRow ((Below.refl w1.heap.size w1).alloc (Nat.le_refl _) (.cells (zM 0).cells.toArray 55)) (Nat.le_refl _) (zM m.k).cells.toArray
  rw [zM_cells 0] at hbn
  obtain ⟨w2, hw2⟩ : ∃ w2, w2 = (w1.alloc (.cells #[.int .i64 0, .int .i64 0, .int .i64 0, .int .i64 0, .int .i64 0, .int .u64 0, .int .i64 0, .int .u32 0, .int .i64 0, .int .i64 0, .int .u32 0, .int .u32 0, .int .u32 0, .int .u32 0, .int .u32 0, .int .u32 0, .int .u32 0, .int .u32 0, .int .u32 0, .int .u32 0, .int .u32 0, .int .u32 0, .int .u64 0, .int .i64 0, .int .u32 0, .int .i64 0, .int .i64 0, .int .u32 0, .int .u32 0, .int .u32 0, .int .u32 0, .int .u32 0, .int .u32 0, .int .u32 0, .int .u32 0, .int .u32 0, .int .u32 0, .int .u32 0, .int .u32 0, .int .i64 0, .int .i64 0, .int .i64 0, .float .f64 0, .bool false, .int .u64 0, .int .u32 0, .int .u32 0, .int .u32 0, .int .u32 0, .int .u32 0, .int .u32 0, .int .u32 0, .int .u32 0, .int .u32 0, .int .u32 0, .int .u32 0, .int .u32 0] 55)).setRow w1.heap.size (zM m.k).cells.toArray := ⟨_, rfl⟩
  rw [← hw2] at hbn hy ⊢
  obtain ⟨p, hp⟩ : ∃ p, p = w1.heap.size := ⟨_, rfl⟩
  rw [← hp] at hy ⊢
  have hpS : p = W.heap.size + 2 := hp.trans HS1.out
  have HA2 := Lib.hid (HA.out.next hbn)
  have HR2 := Lib.hid (HR.out.next hbn)
  have HB2 := Lib.hid (HB.out.trans (hbn.mono HB.out.size))
  have HY := Lib.hid hy
  have HPS := Lib.hid hpS
  obtain ⟨_, rl, rx, rs, c0, c1, c2, c3, c4⟩ := ms_all HA2.out
  clear hw2 hp hbn hy HA HR HB HS1 hpS
  clear rl rs c1 c2 c3 c4
  have hth := HY.out.thereT (o := 22) (n := m.x.cells.toArray.size) (by rw [List.size_toArray, List.size_toArray, ms_len, ev_len]; omega)
  go_upto_region 10 with (first | (go_at_call 26; refine (haslabel_any _ _).mono ?_; rintro e wh ⟨rfl, rfl⟩; rw [h1]) | (go_at_call 28; refine (hasevent_any _ _).mono ?_; rintro e wh ⟨rfl, rfl⟩; rw [h2]) | (go_at_call 30; refine (hasseller_any _ _).mono ?_; rintro e wh ⟨rfl, rfl⟩; rw [h3]) | (go_at_call 31; refine (hasstance_any _ _).mono ?_; rintro e wh ⟨rfl, rfl⟩; rw [h4]) | (go_at_call 33; refine (hascount_any _ _).mono ?_; rintro e wh ⟨rfl, rfl⟩; rw [h5]) | (refine wpList_load_midg (by rfl) 53 _ rfl _ _ rfl (Ev.cells ?_) _ ?_ Tryz.underlying53 rfl (einfo _) ?_; rotate_left; (focus assumption)) | (refine wpList_store_mid rfl 53 _ _ rfl p 22 m.x.cells.toArray rfl rfl hth (einfoA _) (ev_one _) ?_; show wpList _ _ _ _ _ (w2.setCells p 22 m.x.cells)))
  clear hth
  obtain ⟨w3, hw3⟩ : ∃ w3, w3 = w2.setCells p 22 m.x.cells := ⟨_, rfl⟩
  have hb3 : Below p w2 w3 := by rw [hw3]; exact setCells_below (Nat.le_refl _) _ _ _ (Below.refl _ _)
  have hy3 := ms_setX HY.out m.x
  rw [← hw3] at hy3 ⊢
  clear hw3
  clear c0 rx
  have hbp : Below p w2 w3 := hb3
  have HZ := Lib.hid (show Blk w3 p 55 (partsM m).cells.toArray by rw [HP.out]; exact hy3)
  have hpS := HPS.out
  have HRF := Lib.hid (show Blk w3 (W.heap.size + 1) 55 (zM 0).cells.toArray from (hbp.block (W.heap.size + 1) (by omega)).trans HR2.out)
  have HBF := Lib.hid (HB2.out.trans (hbp.mono (show W.heap.size ≤ p by omega)))
  have c0 := (hbp.cell (p := ⟨W.heap.size, 0, none⟩) (show W.heap.size < p by omega)).trans (ms_all HA2.out).2.2.2.2.1
  have rz := HZ.out.range
  clear hbp hpS HA2 HR2 HB2 HY HPS
  go_wp2_with (first | (go_at_call 26; refine (haslabel_any _ _).mono ?_; rintro e wh ⟨rfl, rfl⟩; rw [h1]) | (go_at_call 28; refine (hasevent_any _ _).mono ?_; rintro e wh ⟨rfl, rfl⟩; rw [h2]) | (go_at_call 30; refine (hasseller_any _ _).mono ?_; rintro e wh ⟨rfl, rfl⟩; rw [h3]) | (go_at_call 31; refine (hasstance_any _ _).mono ?_; rintro e wh ⟨rfl, rfl⟩; rw [h4]) | (go_at_call 33; refine (hascount_any _ _).mono ?_; rintro e wh ⟨rfl, rfl⟩; rw [h5]) | (refine wpList_load_midg (by rfl) 55 _ rfl _ _ rfl (Ms.cells ?_) _ ?_ Tryz.underlying55 rfl (msinfo _) ?_; rotate_left; (focus assumption)) | (refine wpList_store_blk rfl 55 _ _ rfl (W.heap.size + 1) 55 (zM 0).cells.toArray (partsM m).cells.toArray rfl rfl HRF.out (msinfoA _) (by rw [List.size_toArray, List.size_toArray, ms_len, ms_len]) (ms_one _) ?_; intro hrow))
  exact bodyPost_row (t := 55) (partsM m).cells.toArray rfl rfl rfl Tryz.underlying55 rfl (msinfoA _) hrow ⟨rfl, below_setRow HBF.out (by omega) _⟩
set_option maxRecDepth 20000 in
set_option maxHeartbeats 4000000 in
theorem parts_sel (m : Ms) (W : World) (h1 : hl m.k = false) (h2 : hev m.k = false) (h3 : hse m.k = true) (h4 : hst m.k = false) (h5 : hco m.k = false) : Calls Tryz.prog 45 #[.agg m.cells.toArray] W fun e W' => e = .returned (.agg (partsM m).cells.toArray) ∧ Below W.heap.size W W' := by
  have bz := zM_cells 0
  have bA := (Blk.new W 55 m.cells.toArray).alloc (.cells (zM 0).cells.toArray 55)
  have bR : Blk ((W.alloc (.cells m.cells.toArray 55)).alloc (.cells (zM 0).cells.toArray 55)) (W.heap.size + 1) 55 (zM 0).cells.toArray := Blk.new' (by simp)
  have hB0 := ((Below.refl W.heap.size W).alloc (Nat.le_refl _) (.cells m.cells.toArray 55)).alloc (by simp) (.cells (zM 0).cells.toArray 55)
  obtain ⟨w1, hw1⟩ : ∃ w1, w1 = (W.alloc (.cells m.cells.toArray 55)).alloc (.cells (zM 0).cells.toArray 55) := ⟨_, rfl⟩
  have hs1 : w1.heap.size = W.heap.size + 2 := by rw [hw1]; simp
  rw [← hw1] at bA bR hB0
  rw [bz] at hw1
  have HW1 := Lib.hid hw1
  have HA := Lib.hid bA
  have HR := Lib.hid bR
  have HB := Lib.hid hB0
  have HS1 := Lib.hid hs1
  obtain ⟨_, rl, rx, rs, c0, c1, c2, c3, c4⟩ := ms_all bA
  have HP := Lib.hid (show partsM m = { zM m.k with se := m.se } by unfold partsM zM; rw [h1, h2, h3, h4, h5]; rfl)
  clear bz bA bR hB0 hw1 hs1
  go_enter Tryz.func45, Tryz.ntmps45
  go_upto_region 1 with fail
  rw [← HW1.out]
  clear HW1
  go_upto_region 2 with (first | (refine wpList_build_lit (zM m.k).cells.toArray rfl 55 _ rfl (built_zM m.k) ?_) | (refine wpList_store_blk rfl 55 _ _ rfl w1.heap.size 55 (zM 0).cells.toArray (zM m.k).cells.toArray rfl rfl (by rw [zM_cells]; exact Blk.new' rfl) (msinfoA _) (by rw [List.size_toArray, List.size_toArray, ms_len, ms_len]) (ms_one _) ?_; intro hy))
  have hbn := below_setRow ((Below.refl w1.heap.size w1).alloc (Nat.le_refl _) (.cells (zM 0).cells.toArray 55)) (Nat.le_refl _) (zM m.k).cells.toArray
  rw [zM_cells 0] at hbn
  obtain ⟨w2, hw2⟩ : ∃ w2, w2 = (w1.alloc (.cells #[.int .i64 0, .int .i64 0, .int .i64 0, .int .i64 0, .int .i64 0, .int .u64 0, .int .i64 0, .int .u32 0, .int .i64 0, .int .i64 0, .int .u32 0, .int .u32 0, .int .u32 0, .int .u32 0, .int .u32 0, .int .u32 0, .int .u32 0, .int .u32 0, .int .u32 0, .int .u32 0, .int .u32 0, .int .u32 0, .int .u64 0, .int .i64 0, .int .u32 0, .int .i64 0, .int .i64 0, .int .u32 0, .int .u32 0, .int .u32 0, .int .u32 0, .int .u32 0, .int .u32 0, .int .u32 0, .int .u32 0, .int .u32 0, .int .u32 0, .int .u32 0, .int .u32 0, .int .i64 0, .int .i64 0, .int .i64 0, .float .f64 0, .bool false, .int .u64 0, .int .u32 0, .int .u32 0, .int .u32 0, .int .u32 0, .int .u32 0, .int .u32 0, .int .u32 0, .int .u32 0, .int .u32 0, .int .u32 0, .int .u32 0, .int .u32 0] 55)).setRow w1.heap.size (zM m.k).cells.toArray := ⟨_, rfl⟩
  rw [← hw2] at hbn hy ⊢
  obtain ⟨p, hp⟩ : ∃ p, p = w1.heap.size := ⟨_, rfl⟩
  rw [← hp] at hy ⊢
  have hpS : p = W.heap.size + 2 := hp.trans HS1.out
  have HA2 := Lib.hid (HA.out.next hbn)
  have HR2 := Lib.hid (HR.out.next hbn)
  have HB2 := Lib.hid (HB.out.trans (hbn.mono HB.out.size))
  have HY := Lib.hid hy
  have HPS := Lib.hid hpS
  obtain ⟨_, rl, rx, rs, c0, c1, c2, c3, c4⟩ := ms_all HA2.out
  clear hw2 hp hbn hy HA HR HB HS1 hpS
  clear rl rx rs c2 c3 c4
  have hk1 := (ms_all HY.out).2.2.2.2.2.1
  have hf1 := (HY.out).frozen 1
  go_upto_region 10 with (first | (go_at_call 26; refine (haslabel_any _ _).mono ?_; rintro e wh ⟨rfl, rfl⟩; rw [h1]) | (go_at_call 28; refine (hasevent_any _ _).mono ?_; rintro e wh ⟨rfl, rfl⟩; rw [h2]) | (go_at_call 30; refine (hasseller_any _ _).mono ?_; rintro e wh ⟨rfl, rfl⟩; rw [h3]) | (go_at_call 31; refine (hasstance_any _ _).mono ?_; rintro e wh ⟨rfl, rfl⟩; rw [h4]) | (go_at_call 33; refine (hascount_any _ _).mono ?_; rintro e wh ⟨rfl, rfl⟩; rw [h5]))
  clear hk1 hf1
  obtain ⟨w3, hww3⟩ : ∃ w3, w3 = w2.setCell ⟨p, 1, none⟩ (.int .i64 m.se) := ⟨_, rfl⟩
  have hbw3 : Below p w2 w3 := by rw [hww3]; exact Below.setCell (p := ⟨p, 1, none⟩) (Below.refl _ _) (Nat.le_refl _) _
  have hyw3 : Blk w3 p 55 ({ zM m.k with se := m.se } : Ms).cells.toArray := by rw [hww3]; exact ms_setH (HY.out) (by omega) rfl rfl rfl rfl
  rw [← hww3]
  clear hww3
  clear c0 c1
  have hbp : Below p w2 w3 := hbw3
  have HZ := Lib.hid (show Blk w3 p 55 (partsM m).cells.toArray by rw [HP.out]; exact hyw3)
  have hpS := HPS.out
  have HRF := Lib.hid (show Blk w3 (W.heap.size + 1) 55 (zM 0).cells.toArray from (hbp.block (W.heap.size + 1) (by omega)).trans HR2.out)
  have HBF := Lib.hid (HB2.out.trans (hbp.mono (show W.heap.size ≤ p by omega)))
  have c0 := (hbp.cell (p := ⟨W.heap.size, 0, none⟩) (show W.heap.size < p by omega)).trans (ms_all HA2.out).2.2.2.2.1
  have rz := HZ.out.range
  clear hbp hpS HA2 HR2 HB2 HY HPS
  go_wp2_with (first | (go_at_call 26; refine (haslabel_any _ _).mono ?_; rintro e wh ⟨rfl, rfl⟩; rw [h1]) | (go_at_call 28; refine (hasevent_any _ _).mono ?_; rintro e wh ⟨rfl, rfl⟩; rw [h2]) | (go_at_call 30; refine (hasseller_any _ _).mono ?_; rintro e wh ⟨rfl, rfl⟩; rw [h3]) | (go_at_call 31; refine (hasstance_any _ _).mono ?_; rintro e wh ⟨rfl, rfl⟩; rw [h4]) | (go_at_call 33; refine (hascount_any _ _).mono ?_; rintro e wh ⟨rfl, rfl⟩; rw [h5]) | (refine wpList_load_midg (by rfl) 55 _ rfl _ _ rfl (Ms.cells ?_) _ ?_ Tryz.underlying55 rfl (msinfo _) ?_; rotate_left; (focus assumption)) | (refine wpList_store_blk rfl 55 _ _ rfl (W.heap.size + 1) 55 (zM 0).cells.toArray (partsM m).cells.toArray rfl rfl HRF.out (msinfoA _) (by rw [List.size_toArray, List.size_toArray, ms_len, ms_len]) (ms_one _) ?_; intro hrow))
  exact bodyPost_row (t := 55) (partsM m).cells.toArray rfl rfl rfl Tryz.underlying55 rfl (msinfoA _) hrow ⟨rfl, below_setRow HBF.out (by omega) _⟩
set_option maxRecDepth 20000 in
set_option maxHeartbeats 4000000 in
theorem parts_en (m : Ms) (W : World) (h1 : hl m.k = false) (h2 : hev m.k = false) (h3 : hse m.k = true) (h4 : hst m.k = false) (h5 : hco m.k = true) : Calls Tryz.prog 45 #[.agg m.cells.toArray] W fun e W' => e = .returned (.agg (partsM m).cells.toArray) ∧ Below W.heap.size W W' := by
  have bz := zM_cells 0
  have bA := (Blk.new W 55 m.cells.toArray).alloc (.cells (zM 0).cells.toArray 55)
  have bR : Blk ((W.alloc (.cells m.cells.toArray 55)).alloc (.cells (zM 0).cells.toArray 55)) (W.heap.size + 1) 55 (zM 0).cells.toArray := Blk.new' (by simp)
  have hB0 := ((Below.refl W.heap.size W).alloc (Nat.le_refl _) (.cells m.cells.toArray 55)).alloc (by simp) (.cells (zM 0).cells.toArray 55)
  obtain ⟨w1, hw1⟩ : ∃ w1, w1 = (W.alloc (.cells m.cells.toArray 55)).alloc (.cells (zM 0).cells.toArray 55) := ⟨_, rfl⟩
  have hs1 : w1.heap.size = W.heap.size + 2 := by rw [hw1]; simp
  rw [← hw1] at bA bR hB0
  rw [bz] at hw1
  have HW1 := Lib.hid hw1
  have HA := Lib.hid bA
  have HR := Lib.hid bR
  have HB := Lib.hid hB0
  have HS1 := Lib.hid hs1
  obtain ⟨_, rl, rx, rs, c0, c1, c2, c3, c4⟩ := ms_all bA
  have HP := Lib.hid (show partsM m = { zM m.k with se := m.se, co := m.co } by unfold partsM zM; rw [h1, h2, h3, h4, h5]; rfl)
  clear bz bA bR hB0 hw1 hs1
  go_enter Tryz.func45, Tryz.ntmps45
  go_upto_region 1 with fail
  rw [← HW1.out]
  clear HW1
  go_upto_region 2 with (first | (refine wpList_build_lit (zM m.k).cells.toArray rfl 55 _ rfl (built_zM m.k) ?_) | (refine wpList_store_blk rfl 55 _ _ rfl w1.heap.size 55 (zM 0).cells.toArray (zM m.k).cells.toArray rfl rfl (by rw [zM_cells]; exact Blk.new' rfl) (msinfoA _) (by rw [List.size_toArray, List.size_toArray, ms_len, ms_len]) (ms_one _) ?_; intro hy))
  have hbn := below_setRow ((Below.refl w1.heap.size w1).alloc (Nat.le_refl _) (.cells (zM 0).cells.toArray 55)) (Nat.le_refl _) (zM m.k).cells.toArray
  rw [zM_cells 0] at hbn
  obtain ⟨w2, hw2⟩ : ∃ w2, w2 = (w1.alloc (.cells #[.int .i64 0, .int .i64 0, .int .i64 0, .int .i64 0, .int .i64 0, .int .u64 0, .int .i64 0, .int .u32 0, .int .i64 0, .int .i64 0, .int .u32 0, .int .u32 0, .int .u32 0, .int .u32 0, .int .u32 0, .int .u32 0, .int .u32 0, .int .u32 0, .int .u32 0, .int .u32 0, .int .u32 0, .int .u32 0, .int .u64 0, .int .i64 0, .int .u32 0, .int .i64 0, .int .i64 0, .int .u32 0, .int .u32 0, .int .u32 0, .int .u32 0, .int .u32 0, .int .u32 0, .int .u32 0, .int .u32 0, .int .u32 0, .int .u32 0, .int .u32 0, .int .u32 0, .int .i64 0, .int .i64 0, .int .i64 0, .float .f64 0, .bool false, .int .u64 0, .int .u32 0, .int .u32 0, .int .u32 0, .int .u32 0, .int .u32 0, .int .u32 0, .int .u32 0, .int .u32 0, .int .u32 0, .int .u32 0, .int .u32 0, .int .u32 0] 55)).setRow w1.heap.size (zM m.k).cells.toArray := ⟨_, rfl⟩
  rw [← hw2] at hbn hy ⊢
  obtain ⟨p, hp⟩ : ∃ p, p = w1.heap.size := ⟨_, rfl⟩
  rw [← hp] at hy ⊢
  have hpS : p = W.heap.size + 2 := hp.trans HS1.out
  have HA2 := Lib.hid (HA.out.next hbn)
  have HR2 := Lib.hid (HR.out.next hbn)
  have HB2 := Lib.hid (HB.out.trans (hbn.mono HB.out.size))
  have HY := Lib.hid hy
  have HPS := Lib.hid hpS
  obtain ⟨_, rl, rx, rs, c0, c1, c2, c3, c4⟩ := ms_all HA2.out
  clear hw2 hp hbn hy HA HR HB HS1 hpS
  clear rl rx rs c3 c4
  have hk1 := (ms_all HY.out).2.2.2.2.2.1
  have hf1 := (HY.out).frozen 1
  go_upto_region 10 with (first | (go_at_call 26; refine (haslabel_any _ _).mono ?_; rintro e wh ⟨rfl, rfl⟩; rw [h1]) | (go_at_call 28; refine (hasevent_any _ _).mono ?_; rintro e wh ⟨rfl, rfl⟩; rw [h2]) | (go_at_call 30; refine (hasseller_any _ _).mono ?_; rintro e wh ⟨rfl, rfl⟩; rw [h3]) | (go_at_call 31; refine (hasstance_any _ _).mono ?_; rintro e wh ⟨rfl, rfl⟩; rw [h4]) | (go_at_call 33; refine (hascount_any _ _).mono ?_; rintro e wh ⟨rfl, rfl⟩; rw [h5]))
  clear hk1 hf1
  obtain ⟨w3, hww3⟩ : ∃ w3, w3 = w2.setCell ⟨p, 1, none⟩ (.int .i64 m.se) := ⟨_, rfl⟩
  have hbw3 : Below p w2 w3 := by rw [hww3]; exact Below.setCell (p := ⟨p, 1, none⟩) (Below.refl _ _) (Nat.le_refl _) _
  have hyw3 : Blk w3 p 55 ({ zM m.k with se := m.se } : Ms).cells.toArray := by rw [hww3]; exact ms_setH (HY.out) (by omega) rfl rfl rfl rfl
  rw [← hww3]
  clear hww3
  clear c0 c1 c2
  have c0 := (hbw3.cell (p := ⟨W.heap.size, 0, none⟩) (show W.heap.size < p by have := HPS.out; omega)).trans (ms_all HA2.out).2.2.2.2.1
  have c2 := (hbw3.cell (p := ⟨W.heap.size, 2, none⟩) (show W.heap.size < p by have := HPS.out; omega)).trans (ms_all HA2.out).2.2.2.2.2.2.1
  have hk2 := (ms_all hyw3).2.2.2.2.2.2.1
  have hf2 := (hyw3).frozen 2
  go_upto_region 12 with (first | (go_at_call 26; refine (haslabel_any _ _).mono ?_; rintro e wh ⟨rfl, rfl⟩; rw [h1]) | (go_at_call 28; refine (hasevent_any _ _).mono ?_; rintro e wh ⟨rfl, rfl⟩; rw [h2]) | (go_at_call 30; refine (hasseller_any _ _).mono ?_; rintro e wh ⟨rfl, rfl⟩; rw [h3]) | (go_at_call 31; refine (hasstance_any _ _).mono ?_; rintro e wh ⟨rfl, rfl⟩; rw [h4]) | (go_at_call 33; refine (hascount_any _ _).mono ?_; rintro e wh ⟨rfl, rfl⟩; rw [h5]))
  clear hk2 hf2
  obtain ⟨w4, hww4⟩ : ∃ w4, w4 = w3.setCell ⟨p, 2, none⟩ (.int .i64 m.co) := ⟨_, rfl⟩
  have hbw4 : Below p w2 w4 := by rw [hww4]; exact Below.setCell (p := ⟨p, 2, none⟩) hbw3 (Nat.le_refl _) _
  have hyw4 : Blk w4 p 55 ({ zM m.k with se := m.se, co := m.co } : Ms).cells.toArray := by rw [hww4]; exact ms_setH (hyw3) (by omega) rfl rfl rfl rfl
  rw [← hww4]
  clear hww4
  clear c0 c2
  have hbp : Below p w2 w4 := hbw4
  have HZ := Lib.hid (show Blk w4 p 55 (partsM m).cells.toArray by rw [HP.out]; exact hyw4)
  have hpS := HPS.out
  have HRF := Lib.hid (show Blk w4 (W.heap.size + 1) 55 (zM 0).cells.toArray from (hbp.block (W.heap.size + 1) (by omega)).trans HR2.out)
  have HBF := Lib.hid (HB2.out.trans (hbp.mono (show W.heap.size ≤ p by omega)))
  have c0 := (hbp.cell (p := ⟨W.heap.size, 0, none⟩) (show W.heap.size < p by omega)).trans (ms_all HA2.out).2.2.2.2.1
  have rz := HZ.out.range
  clear hbp hpS HA2 HR2 HB2 HY HPS
  go_wp2_with (first | (go_at_call 26; refine (haslabel_any _ _).mono ?_; rintro e wh ⟨rfl, rfl⟩; rw [h1]) | (go_at_call 28; refine (hasevent_any _ _).mono ?_; rintro e wh ⟨rfl, rfl⟩; rw [h2]) | (go_at_call 30; refine (hasseller_any _ _).mono ?_; rintro e wh ⟨rfl, rfl⟩; rw [h3]) | (go_at_call 31; refine (hasstance_any _ _).mono ?_; rintro e wh ⟨rfl, rfl⟩; rw [h4]) | (go_at_call 33; refine (hascount_any _ _).mono ?_; rintro e wh ⟨rfl, rfl⟩; rw [h5]) | (refine wpList_load_midg (by rfl) 55 _ rfl _ _ rfl (Ms.cells ?_) _ ?_ Tryz.underlying55 rfl (msinfo _) ?_; rotate_left; (focus assumption)) | (refine wpList_store_blk rfl 55 _ _ rfl (W.heap.size + 1) 55 (zM 0).cells.toArray (partsM m).cells.toArray rfl rfl HRF.out (msinfoA _) (by rw [List.size_toArray, List.size_toArray, ms_len, ms_len]) (ms_one _) ?_; intro hrow))
  exact bodyPost_row (t := 55) (partsM m).cells.toArray rfl rfl rfl Tryz.underlying55 rfl (msinfoA _) hrow ⟨rfl, below_setRow HBF.out (by omega) _⟩
set_option maxRecDepth 20000 in
set_option maxHeartbeats 4000000 in
theorem parts_st (m : Ms) (W : World) (h1 : hl m.k = false) (h2 : hev m.k = false) (h3 : hse m.k = false) (h4 : hst m.k = true) (h5 : hco m.k = false) : Calls Tryz.prog 45 #[.agg m.cells.toArray] W fun e W' => e = .returned (.agg (partsM m).cells.toArray) ∧ Below W.heap.size W W' := by
  have bz := zM_cells 0
  have bA := (Blk.new W 55 m.cells.toArray).alloc (.cells (zM 0).cells.toArray 55)
  have bR : Blk ((W.alloc (.cells m.cells.toArray 55)).alloc (.cells (zM 0).cells.toArray 55)) (W.heap.size + 1) 55 (zM 0).cells.toArray := Blk.new' (by simp)
  have hB0 := ((Below.refl W.heap.size W).alloc (Nat.le_refl _) (.cells m.cells.toArray 55)).alloc (by simp) (.cells (zM 0).cells.toArray 55)
  obtain ⟨w1, hw1⟩ : ∃ w1, w1 = (W.alloc (.cells m.cells.toArray 55)).alloc (.cells (zM 0).cells.toArray 55) := ⟨_, rfl⟩
  have hs1 : w1.heap.size = W.heap.size + 2 := by rw [hw1]; simp
  rw [← hw1] at bA bR hB0
  rw [bz] at hw1
  have HW1 := Lib.hid hw1
  have HA := Lib.hid bA
  have HR := Lib.hid bR
  have HB := Lib.hid hB0
  have HS1 := Lib.hid hs1
  obtain ⟨_, rl, rx, rs, c0, c1, c2, c3, c4⟩ := ms_all bA
  have HP := Lib.hid (show partsM m = { zM m.k with ca := m.ca, ro := m.ro, s := m.s } by unfold partsM zM; rw [h1, h2, h3, h4, h5]; rfl)
  clear bz bA bR hB0 hw1 hs1
  go_enter Tryz.func45, Tryz.ntmps45
  go_upto_region 1 with fail
  rw [← HW1.out]
  clear HW1
  go_upto_region 2 with (first | (refine wpList_build_lit (zM m.k).cells.toArray rfl 55 _ rfl (built_zM m.k) ?_) | (refine wpList_store_blk rfl 55 _ _ rfl w1.heap.size 55 (zM 0).cells.toArray (zM m.k).cells.toArray rfl rfl (by rw [zM_cells]; exact Blk.new' rfl) (msinfoA _) (by rw [List.size_toArray, List.size_toArray, ms_len, ms_len]) (ms_one _) ?_; intro hy))
  have hbn := below_setRow ((Below.refl w1.heap.size w1).alloc (Nat.le_refl _) (.cells (zM 0).cells.toArray 55)) (Nat.le_refl _) (zM m.k).cells.toArray
  rw [zM_cells 0] at hbn
  obtain ⟨w2, hw2⟩ : ∃ w2, w2 = (w1.alloc (.cells #[.int .i64 0, .int .i64 0, .int .i64 0, .int .i64 0, .int .i64 0, .int .u64 0, .int .i64 0, .int .u32 0, .int .i64 0, .int .i64 0, .int .u32 0, .int .u32 0, .int .u32 0, .int .u32 0, .int .u32 0, .int .u32 0, .int .u32 0, .int .u32 0, .int .u32 0, .int .u32 0, .int .u32 0, .int .u32 0, .int .u64 0, .int .i64 0, .int .u32 0, .int .i64 0, .int .i64 0, .int .u32 0, .int .u32 0, .int .u32 0, .int .u32 0, .int .u32 0, .int .u32 0, .int .u32 0, .int .u32 0, .int .u32 0, .int .u32 0, .int .u32 0, .int .u32 0, .int .i64 0, .int .i64 0, .int .i64 0, .float .f64 0, .bool false, .int .u64 0, .int .u32 0, .int .u32 0, .int .u32 0, .int .u32 0, .int .u32 0, .int .u32 0, .int .u32 0, .int .u32 0, .int .u32 0, .int .u32 0, .int .u32 0, .int .u32 0] 55)).setRow w1.heap.size (zM m.k).cells.toArray := ⟨_, rfl⟩
  rw [← hw2] at hbn hy ⊢
  obtain ⟨p, hp⟩ : ∃ p, p = w1.heap.size := ⟨_, rfl⟩
  rw [← hp] at hy ⊢
  have hpS : p = W.heap.size + 2 := hp.trans HS1.out
  have HA2 := Lib.hid (HA.out.next hbn)
  have HR2 := Lib.hid (HR.out.next hbn)
  have HB2 := Lib.hid (HB.out.trans (hbn.mono HB.out.size))
  have HY := Lib.hid hy
  have HPS := Lib.hid hpS
  obtain ⟨_, rl, rx, rs, c0, c1, c2, c3, c4⟩ := ms_all HA2.out
  clear hw2 hp hbn hy HA HR HB HS1 hpS
  clear rl rx c1 c2
  go_upto_region 9 with (first | (go_at_call 26; refine (haslabel_any _ _).mono ?_; rintro e wh ⟨rfl, rfl⟩; rw [h1]) | (go_at_call 28; refine (hasevent_any _ _).mono ?_; rintro e wh ⟨rfl, rfl⟩; rw [h2]) | (go_at_call 30; refine (hasseller_any _ _).mono ?_; rintro e wh ⟨rfl, rfl⟩; rw [h3]) | (go_at_call 31; refine (hasstance_any _ _).mono ?_; rintro e wh ⟨rfl, rfl⟩; rw [h4]) | (go_at_call 33; refine (hascount_any _ _).mono ?_; rintro e wh ⟨rfl, rfl⟩; rw [h5]))
  have hp1 : W.heap.size < p := by have := HPS.out; omega
  refine wp_region_tree (S := (fun w' => w'.cell? ⟨W.heap.size, 3, none⟩ = some (.int .i64 m.ca) ∧ w'.cell? ⟨W.heap.size, 4, none⟩ = some (.int .i64 m.ro) ∧ w'.rangeAt W.heap.size 43 m.s.cells)) (.take 0 (.take 1 (.take 2 (.take 3 (.take 4 (.take 5 (.take 6 (.one 7 (.take 8 (.one 9 (.take 10 (.one 11 .nil)))))))))))) 9999 (by kernel_rfl) (by kernel_rfl) (by kernel_rfl) (by kernel_rfl) (by kernel_rfl) (fun _ _ d _ _ h => by cases d <;> exact h) ⟨c3, c4, rs⟩ (fun hHeld => ?_); simp only [Tree.map, List.getElem?_toArray, List.getElem?_cons_zero, List.getElem?_cons_succ]
  (repeat (first | (refine wpTree.take (v := undef) (Or.inr ⟨by rfl, rfl⟩) ?_; simp only [Act.put, List.setIfInBounds_toArray, List.set_cons_zero, List.set_cons_succ]) | (refine wpTree.take (v := .agg (St.cells ?_).toArray) (yieldsIf_load_mid rfl 33 _ rfl _ _ rfl (St.cells _) _ ?_ Tryz.underlying33 rfl (stinfo _)) ?_; rotate_left; (focus (intro _ hS; exact hS.2.2)); simp only [Act.put, List.setIfInBounds_toArray, List.set_cons_zero, List.set_cons_succ]) | (refine wpTree.take (v := ?_) (Or.inl ⟨by rfl, ?_⟩) ?_; rotate_left; (focus (intro _ hS; (try dsimp only at hS); go_split_ands; (try subst hS); go_simp; (try (with_reducible rfl)); done)); simp only [Act.put, List.setIfInBounds_toArray, List.set_cons_zero, List.set_cons_succ])))
  obtain ⟨wd, hwd⟩ : ∃ wd, wd = w2.drew := ⟨_, rfl⟩
  have hbd : Below p w2 wd := by rw [hwd]; exact (Below.refl _ _).drew
  have hyd : Blk wd p 55 (zM m.k).cells.toArray := by rw [hwd]; exact HY.out.drew
  rw [← hwd]
  clear hwd
  have hkA := (ms_all hyd).2.2.2.2.2.2.2.1
  have hfA := hyd.frozen 3
  refine wpTree.one (fun K hK => ?_)
  go_simp
  obtain ⟨w3, hw3⟩ : ∃ w3, w3 = wd.setCell ⟨p, 3, none⟩ (.int .i64 m.ca) := ⟨_, rfl⟩
  have hb3 : Below p w2 w3 := by rw [hw3]; exact Below.setCell (p := ⟨p, 3, none⟩) hbd (Nat.le_refl _) _
  have hy3 : Blk w3 p 55 ({ zM m.k with ca := m.ca } : Ms).cells.toArray := by rw [hw3]; exact ms_setH hyd (by omega) rfl rfl rfl rfl
  rw [← hw3]
  clear hw3 hkA hfA
  refine hK.out _ _ ⟨(hb3.cell (p := ⟨W.heap.size, 3, none⟩) hp1).trans c3, (hb3.cell (p := ⟨W.heap.size, 4, none⟩) hp1).trans c4, fun j v hj => (hb3.cell (p := ⟨W.heap.size, 43 + j, none⟩) hp1).trans (rs j v hj)⟩ (fun _ => ?_)
  clear hK K
  (try simp only [Act.put, List.setIfInBounds_toArray, List.set_cons_zero, List.set_cons_succ])
  (repeat (first | (refine wpTree.take (v := undef) (Or.inr ⟨by rfl, rfl⟩) ?_; simp only [Act.put, List.setIfInBounds_toArray, List.set_cons_zero, List.set_cons_succ]) | (refine wpTree.take (v := ?_) (Or.inl ⟨by rfl, ?_⟩) ?_; rotate_left; (focus (intro _ hS; (try dsimp only at hS); go_split_ands; (try subst hS); go_simp; (try (with_reducible rfl)); done)); simp only [Act.put, List.setIfInBounds_toArray, List.set_cons_zero, List.set_cons_succ])))
  have hkA := (ms_all hy3).2.2.2.2.2.2.2.2
  have hfA := hy3.frozen 4
  refine wpTree.one (fun K hK => ?_)
  go_simp
  obtain ⟨w4, hw4⟩ : ∃ w4, w4 = w3.setCell ⟨p, 4, none⟩ (.int .i64 m.ro) := ⟨_, rfl⟩
  have hb4 : Below p w2 w4 := by rw [hw4]; exact Below.setCell (p := ⟨p, 4, none⟩) hb3 (Nat.le_refl _) _
  have hy4 : Blk w4 p 55 ({ zM m.k with ca := m.ca, ro := m.ro } : Ms).cells.toArray := by rw [hw4]; exact ms_setH hy3 (by omega) rfl rfl rfl rfl
  rw [← hw4]
  clear hw4 hkA hfA
  refine hK.out _ _ ⟨(hb4.cell (p := ⟨W.heap.size, 3, none⟩) hp1).trans c3, (hb4.cell (p := ⟨W.heap.size, 4, none⟩) hp1).trans c4, fun j v hj => (hb4.cell (p := ⟨W.heap.size, 43 + j, none⟩) hp1).trans (rs j v hj)⟩ (fun _ => ?_)
  clear hK K
  (try simp only [Act.put, List.setIfInBounds_toArray, List.set_cons_zero, List.set_cons_succ])
  (repeat (first | (refine wpTree.take (v := undef) (Or.inr ⟨by rfl, rfl⟩) ?_; simp only [Act.put, List.setIfInBounds_toArray, List.set_cons_zero, List.set_cons_succ]) | (refine wpTree.take (v := ?_) (Or.inl ⟨by rfl, ?_⟩) ?_; rotate_left; (focus (intro _ hS; (try dsimp only at hS); go_split_ands; (try subst hS); go_simp; (try (with_reducible rfl)); done)); simp only [Act.put, List.setIfInBounds_toArray, List.set_cons_zero, List.set_cons_succ])))
  have hth := hy4.thereT (o := 43) (n := m.s.cells.toArray.size) (by rw [List.size_toArray, List.size_toArray, ms_len, st_len]; omega)
  refine wpTree.one (fun K hK => ?_)
  rw [if_pos (by rfl)]
  refine wp_store_mid 33 _ _ rfl p 43 m.s.cells.toArray rfl rfl hth (stinfoA _) (st_one _) ?_
  show K _ (w4.setCells p 43 m.s.cells)
  obtain ⟨w5, hw5⟩ : ∃ w5, w5 = w4.setCells p 43 m.s.cells := ⟨_, rfl⟩
  have hb5 : Below p w2 w5 := by rw [hw5]; exact setCells_below (Nat.le_refl _) _ _ _ hb4
  have hy5 := ms_setS hy4 m.s
  rw [← hw5] at hy5 ⊢
  clear hw5
  refine hK.out _ _ ⟨(hb5.cell (p := ⟨W.heap.size, 3, none⟩) hp1).trans c3, (hb5.cell (p := ⟨W.heap.size, 4, none⟩) hp1).trans c4, fun j v hj => (hb5.cell (p := ⟨W.heap.size, 43 + j, none⟩) hp1).trans (rs j v hj)⟩ (fun _ => ?_)
  clear hK K
  (try simp only [Act.put, List.setIfInBounds_toArray, List.set_cons_zero, List.set_cons_succ])
  refine wpTree.done ?_
  clear c0 c3 c4 rs hHeld hp1 hyd hy3 hy4 hbd hb3 hb4 hth
  have hbp : Below p w2 w5 := hb5
  have HZ := Lib.hid (show Blk w5 p 55 (partsM m).cells.toArray by rw [HP.out]; exact hy5)
  have hpS := HPS.out
  have HRF := Lib.hid (show Blk w5 (W.heap.size + 1) 55 (zM 0).cells.toArray from (hbp.block (W.heap.size + 1) (by omega)).trans HR2.out)
  have HBF := Lib.hid (HB2.out.trans (hbp.mono (show W.heap.size ≤ p by omega)))
  have c0 := (hbp.cell (p := ⟨W.heap.size, 0, none⟩) (show W.heap.size < p by omega)).trans (ms_all HA2.out).2.2.2.2.1
  have rz := HZ.out.range
  clear hbp hpS HA2 HR2 HB2 HY HPS
  go_wp2_with (first | (go_at_call 26; refine (haslabel_any _ _).mono ?_; rintro e wh ⟨rfl, rfl⟩; rw [h1]) | (go_at_call 28; refine (hasevent_any _ _).mono ?_; rintro e wh ⟨rfl, rfl⟩; rw [h2]) | (go_at_call 30; refine (hasseller_any _ _).mono ?_; rintro e wh ⟨rfl, rfl⟩; rw [h3]) | (go_at_call 31; refine (hasstance_any _ _).mono ?_; rintro e wh ⟨rfl, rfl⟩; rw [h4]) | (go_at_call 33; refine (hascount_any _ _).mono ?_; rintro e wh ⟨rfl, rfl⟩; rw [h5]) | (refine wpList_load_midg (by rfl) 55 _ rfl _ _ rfl (Ms.cells ?_) _ ?_ Tryz.underlying55 rfl (msinfo _) ?_; rotate_left; (focus assumption)) | (refine wpList_store_blk rfl 55 _ _ rfl (W.heap.size + 1) 55 (zM 0).cells.toArray (partsM m).cells.toArray rfl rfl HRF.out (msinfoA _) (by rw [List.size_toArray, List.size_toArray, ms_len, ms_len]) (ms_one _) ?_; intro hrow))
  exact bodyPost_row (t := 55) (partsM m).cells.toArray rfl rfl rfl Tryz.underlying55 rfl (msinfoA _) hrow ⟨rfl, below_setRow HBF.out (by omega) _⟩
theorem parts_any (m : Ms) (W : World) : Calls Tryz.prog 45 #[.agg m.cells.toArray] W fun e W' => e = .returned (.agg (partsM m).cells.toArray) ∧ Below W.heap.size W W' := by
  rcases kd_any m.k with ⟨_, h1, h2, h3, h4, h5⟩ | ⟨_, h1, h2, h3, h4, h5⟩ | ⟨_, h1, h2, h3, h4, h5⟩ | ⟨_, h1, h2, h3, h4, h5⟩ | ⟨_, h1, h2, h3, h4, h5⟩ | ⟨_, h1, h2, h3, h4, h5⟩
  · exact parts_lab m W h1 h2 h3 h4 h5
  · exact parts_ev m W h1 h2 h3 h4 h5
  · exact parts_sel m W h1 h2 h3 h4 h5
  · exact parts_en m W h1 h2 h3 h4 h5
  · exact parts_st m W h1 h2 h3 h4 h5
  · exact parts_no m W h1 h2 h3 h4 h5
end Mg
end Go.Proofs.YtkigaclcmodjaaaGreat
namespace Go.Proofs.YtkigaclcmodjaaaGreat
open Go.RowKit
set_option linter.unusedSimpArgs false
set_option linter.unusedVariables false
namespace Mg
def rightS (s : St) : Bool := if s.h then decide (1 ≤ s.t) && decide (s.t ≤ 1099511627776) && decide (maxK s.f 11 ≤ 1048576) else decide (s.t = 0) && eqB s.f (fun _ => 0)
theorem built_st : Tryz.prog.built 33 [] = some St.zero.cells.toArray := by rw [show St.zero.cells.toArray = zStL.toArray from by rw [st_zeroL]]; kernel_rfl
set_option maxRecDepth 20000 in
set_option maxHeartbeats 1000000 in
theorem rightstance_any (s : St) (W : World) : Calls Tryz.prog 49 #[.agg s.cells.toArray] W fun e W' => e = .returned (.bool (rightS s)) ∧ Below W.heap.size W W' := by
  have bA := Blk.new W 33 s.cells.toArray
  have h2 : Below W.heap.size W (W.alloc (.cells s.cells.toArray 33)) := (Below.refl _ _).alloc (Nat.le_refl _) _
  obtain ⟨r0, r2, a0, a1⟩ := st_all bA
  have HB2 := Lib.hid h2
  clear bA h2
  unfold rightS
  cases hh : s.h with
  | false =>
    rw [hh] at a0
    have hq : ∀ w, (Op.equalIn 10000 33 (.agg s.cells.toArray) (.agg St.zero.cells.toArray)).run Tryz.prog w = .ok (eqSt s St.zero) w := fun w => eq_stD 9997 s St.zero w
    have HQ := Lib.hid (show eqSt s St.zero = (decide (s.t = 0) && eqB s.f fun _ => 0) by
      unfold eqSt St.zero
      rw [hh]
      have : ((s.t : Int) == ((0 : Nat) : Int)) = decide (s.t = 0) := by
        by_cases h : s.t = 0
        · simp [h]
        · rw [decide_eq_false h]; simpa using h
      rw [this]
      rfl)
    rw [HQ.out] at hq
    obtain ⟨z, hz⟩ : ∃ z, z = (decide (s.t = 0) && eqB s.f fun _ => 0) := ⟨_, rfl⟩
    have HZ := Lib.hid hz
    rw [← hz] at hq
    clear hz HQ
    go_enter Tryz.func49, Tryz.ntmps49
    go_wp2_with (first | (refine wpList_load_mid rfl 33 _ rfl _ _ rfl s.cells _ r0 Tryz.underlying33 rfl (stinfo s) ?_) | (refine wpList_build_lit St.zero.cells.toArray rfl 33 _ rfl built_st ?_))
    go_ret
    exact ⟨by rw [HZ.out]; rfl, HB2.out⟩
  | true =>
    rw [hh] at a0
    clear r0
    obtain ⟨M, hM⟩ : ∃ M, M = maxK s.f 11 := ⟨_, rfl⟩
    have HM := Lib.hid (fun w h => max_any s.f W.heap.size 2 w h)
    rw [← hM] at HM ⊢
    obtain ⟨t, ht⟩ : ∃ t, t = s.t := ⟨_, rfl⟩
    rw [← ht] at a1 ⊢
    have HR2 := Lib.hid r2
    clear hM ht r2
    by_cases p1 : (1 : Int) ≤ (t : Nat)
    · by_cases p2 : (t : Int) ≤ 1099511627776
      · have d1 : decide ((1 : Int) ≤ (t : Nat)) = true := decide_eq_true p1
        have d2 : decide ((t : Int) ≤ 1099511627776) = true := decide_eq_true p2
        have HA := Lib.hid (show (decide (1 ≤ t) && decide (t ≤ 1099511627776)) = true by simp; omega)
        clear p1 p2
        by_cases p3 : (M : Int) ≤ 1048576
        · have d3 : decide ((M : Int) ≤ 1048576) = true := decide_eq_true p3
          have HC := Lib.hid (show decide (M ≤ 1048576) = true by simp; omega)
          clear p3
          go_enter Tryz.func49, Tryz.ntmps49
          go_wp2_with (go_at_call 73; refine (HM.out _ HR2.out).mono ?_; rintro e w3 ⟨rfl, rfl⟩)
          go_ret
          exact ⟨by simp only [if_true]; rw [HA.out, HC.out]; rfl, HB2.out⟩
        · have d3 : decide ((M : Int) ≤ 1048576) = false := decide_eq_false p3
          have HC := Lib.hid (show decide (M ≤ 1048576) = false by simp; omega)
          clear p3
          go_enter Tryz.func49, Tryz.ntmps49
          go_wp2_with (go_at_call 73; refine (HM.out _ HR2.out).mono ?_; rintro e w3 ⟨rfl, rfl⟩)
          go_ret
          exact ⟨by simp only [if_true]; rw [HA.out, HC.out]; rfl, HB2.out⟩
      · have d1 : decide ((1 : Int) ≤ (t : Nat)) = true := decide_eq_true p1
        have d2 : decide ((t : Int) ≤ 1099511627776) = false := decide_eq_false p2
        have HZ := Lib.hid (show (decide (1 ≤ t) && decide (t ≤ 1099511627776) && decide (M ≤ 1048576)) = false by simp; omega)
        clear p1 p2
        go_enter Tryz.func49, Tryz.ntmps49
        go_wp2_with fail
        go_ret
        exact ⟨by simp only [if_true]; rw [HZ.out]; rfl, HB2.out⟩
    · have d1 : decide ((1 : Int) ≤ (t : Nat)) = false := decide_eq_false p1
      have HZ := Lib.hid (show (decide (1 ≤ t) && decide (t ≤ 1099511627776) && decide (M ≤ 1048576)) = false by simp; omega)
      clear p1
      go_enter Tryz.func49, Tryz.ntmps49
      go_wp2_with fail
      go_ret
      exact ⟨by simp only [if_true]; rw [HZ.out]; rfl, HB2.out⟩
/-- Are messages equal? -/
def sameM (a b : Ms) : Bool := sameE a.x b.x && eqM a b
def noX (m : Ms) : Ms := { m with x := Ev.zero }
theorem ez_info : (Tryz.prog.info? 53).map (·.size) = some Ev.zero.cells.toArray.size := einfoA _
theorem eqM_noX (a b : Ms) : eqM (noX a) (noX b) = eqM a b := rfl
set_option maxRecDepth 20000 in
set_option maxHeartbeats 4000000 in
theorem same_no (a b : Ms) (W : World) (hs : sameE a.x b.x = false) : Calls Tryz.prog 12 #[.agg a.cells.toArray, .agg b.cells.toArray] W fun e W' => e = .returned (.bool (false)) ∧ Below W.heap.size W W' := by
  have bA := (Blk.new W 55 a.cells.toArray).alloc (.cells b.cells.toArray 55)
  have bB : Blk ((W.alloc (.cells a.cells.toArray 55)).alloc (.cells b.cells.toArray 55)) (W.heap.size + 1) 55 b.cells.toArray := Blk.new' (by simp)
  have hB0 := ((Below.refl W.heap.size W).alloc (Nat.le_refl _) (.cells a.cells.toArray 55)).alloc (by simp) (.cells b.cells.toArray 55)
  obtain ⟨w1, hw1⟩ : ∃ w1, w1 = (W.alloc (.cells a.cells.toArray 55)).alloc (.cells b.cells.toArray 55) := ⟨_, rfl⟩
  rw [← hw1] at bA bB hB0
  have HW1 := Lib.hid hw1
  have HA := Lib.hid bA
  have HBb := Lib.hid bB
  have HB := Lib.hid hB0
  obtain ⟨_, _, ra, _⟩ := ms_all bA
  obtain ⟨_, _, rb, _⟩ := ms_all bB
  have HS := Lib.hid (esame_any a.x w1 b.x)
  rw [hs] at HS
  clear bA bB hB0 hw1 hs
  go_enter Tryz.func12, Tryz.ntmps12
  go_upto_region 1 with fail
  rw [← HW1.out]
  clear HW1
  go_upto_region 2 with (first | (refine wpList_load_midg (by rfl) 53 _ rfl _ _ rfl (Ev.cells ?_) _ ?_ Tryz.underlying53 rfl (einfo _) ?_; rotate_left; (focus assumption)) | (go_at_call 53; refine HS.out.mono ?_; rintro e w2 ⟨rfl, hb⟩; have HA2 := Lib.hid (HA.out.next hb); have HBb2 := Lib.hid (HBb.out.next hb); have HB2 := Lib.hid (HB.out.trans (hb.mono HB.out.size)); clear hb ra rb))
  clear HA HBb HB HS
  have ht1 := HA2.out.thereT (o := 22) (n := Ev.zero.cells.toArray.size) (by rw [List.size_toArray, List.size_toArray, ms_len, ev_len]; omega)
  have hyA := ms_setX HA2.out Ev.zero
  have hb1 : Below W.heap.size w2 (w2.setCells W.heap.size 22 Ev.zero.cells) := setCells_below (Nat.le_refl _) _ _ _ (Below.refl _ _)
  have hyB : Blk (w2.setCells W.heap.size 22 Ev.zero.cells) (W.heap.size + 1) 55 b.cells.toArray := (setCells_other W.heap.size _ 22 w2 (W.heap.size + 1) (by omega)).trans HBb2.out
  obtain ⟨w3, hw3⟩ : ∃ w3, w3 = w2.setCells W.heap.size 22 Ev.zero.cells := ⟨_, rfl⟩
  rw [← hw3] at hyA hb1 hyB
  have ht2 := hyB.thereT (o := 22) (n := Ev.zero.cells.toArray.size) (by rw [List.size_toArray, List.size_toArray, ms_len, ev_len]; omega)
  have hyA2 : Blk (w3.setCells (W.heap.size + 1) 22 Ev.zero.cells) W.heap.size 55 (noX a).cells.toArray := (setCells_other (W.heap.size + 1) _ 22 w3 W.heap.size (by omega)).trans hyA
  have hyB2 : Blk (w3.setCells (W.heap.size + 1) 22 Ev.zero.cells) (W.heap.size + 1) 55 (noX b).cells.toArray := ms_setX hyB Ev.zero
  have hb2 : Below W.heap.size w2 (w3.setCells (W.heap.size + 1) 22 Ev.zero.cells) := setCells_below (Nat.le_succ _) _ _ _ hb1
  obtain ⟨w4, hw4⟩ : ∃ w4, w4 = w3.setCells (W.heap.size + 1) 22 Ev.zero.cells := ⟨_, rfl⟩
  rw [← hw4] at hyA2 hyB2 hb2
  have HW3 := Lib.hid hw3
  have HW4 := Lib.hid hw4
  clear hw3 hw4 hyA hyB hb1
  go_upto_region 3 with (first | (refine wpList_build_lit Ev.zero.cells.toArray rfl 53 _ rfl built_ez ?_) | (refine wpList_store_mid rfl 53 _ _ rfl W.heap.size 22 Ev.zero.cells.toArray rfl rfl ht1 ez_info (ev_one _) ?_; show wpList _ _ _ _ _ (w2.setCells W.heap.size 22 Ev.zero.cells); rw [← HW3.out]) | (refine wpList_store_mid rfl 53 _ _ rfl (W.heap.size + 1) 22 Ev.zero.cells.toArray rfl rfl ht2 ez_info (ev_one _) ?_; show wpList _ _ _ _ _ (w3.setCells (W.heap.size + 1) 22 Ev.zero.cells); rw [← HW4.out]))
  clear ht1 ht2
  have HF := Lib.hid (HB2.out.trans hb2)
  have rA := hyA2.range
  have rB := hyB2.range
  have hq := fun w => eq_ms (noX a) (noX b) rfl rfl w
  rw [eqM_noX] at hq
  clear hb2 hyA2 hyB2 HW3 HW4 HA2 HBb2 HB2
  obtain ⟨a', ha'⟩ : ∃ a', a' = noX a := ⟨_, rfl⟩
  obtain ⟨b', hb'⟩ : ∃ b', b' = noX b := ⟨_, rfl⟩
  obtain ⟨r, hr⟩ : ∃ r, r = eqM a b := ⟨_, rfl⟩
  rw [← ha'] at rA hq
  rw [← hb'] at rB hq
  rw [← hr] at hq
  have HRR := Lib.hid hr
  clear ha' hb' hr
  go_wp2_with (first | (refine wpList_load_midg (by rfl) 55 _ rfl _ _ rfl (Ms.cells ?_) _ ?_ Tryz.underlying55 rfl (msinfo _) ?_; rotate_left; (focus assumption)))
  go_ret
  exact ⟨by first | rfl | (rw [HRR.out]; rfl) | (rw [← HRR.out]; rfl), HF.out⟩
set_option maxRecDepth 20000 in
set_option maxHeartbeats 4000000 in
theorem same_yes (a b : Ms) (W : World) (hs : sameE a.x b.x = true) : Calls Tryz.prog 12 #[.agg a.cells.toArray, .agg b.cells.toArray] W fun e W' => e = .returned (.bool (eqM a b)) ∧ Below W.heap.size W W' := by
  have bA := (Blk.new W 55 a.cells.toArray).alloc (.cells b.cells.toArray 55)
  have bB : Blk ((W.alloc (.cells a.cells.toArray 55)).alloc (.cells b.cells.toArray 55)) (W.heap.size + 1) 55 b.cells.toArray := Blk.new' (by simp)
  have hB0 := ((Below.refl W.heap.size W).alloc (Nat.le_refl _) (.cells a.cells.toArray 55)).alloc (by simp) (.cells b.cells.toArray 55)
  obtain ⟨w1, hw1⟩ : ∃ w1, w1 = (W.alloc (.cells a.cells.toArray 55)).alloc (.cells b.cells.toArray 55) := ⟨_, rfl⟩
  rw [← hw1] at bA bB hB0
  have HW1 := Lib.hid hw1
  have HA := Lib.hid bA
  have HBb := Lib.hid bB
  have HB := Lib.hid hB0
  obtain ⟨_, _, ra, _⟩ := ms_all bA
  obtain ⟨_, _, rb, _⟩ := ms_all bB
  have HS := Lib.hid (esame_any a.x w1 b.x)
  rw [hs] at HS
  clear bA bB hB0 hw1 hs
  go_enter Tryz.func12, Tryz.ntmps12
  go_upto_region 1 with fail
  rw [← HW1.out]
  clear HW1
  go_upto_region 2 with (first | (refine wpList_load_midg (by rfl) 53 _ rfl _ _ rfl (Ev.cells ?_) _ ?_ Tryz.underlying53 rfl (einfo _) ?_; rotate_left; (focus assumption)) | (go_at_call 53; refine HS.out.mono ?_; rintro e w2 ⟨rfl, hb⟩; have HA2 := Lib.hid (HA.out.next hb); have HBb2 := Lib.hid (HBb.out.next hb); have HB2 := Lib.hid (HB.out.trans (hb.mono HB.out.size)); clear hb ra rb))
  clear HA HBb HB HS
  have ht1 := HA2.out.thereT (o := 22) (n := Ev.zero.cells.toArray.size) (by rw [List.size_toArray, List.size_toArray, ms_len, ev_len]; omega)
  have hyA := ms_setX HA2.out Ev.zero
  have hb1 : Below W.heap.size w2 (w2.setCells W.heap.size 22 Ev.zero.cells) := setCells_below (Nat.le_refl _) _ _ _ (Below.refl _ _)
  have hyB : Blk (w2.setCells W.heap.size 22 Ev.zero.cells) (W.heap.size + 1) 55 b.cells.toArray := (setCells_other W.heap.size _ 22 w2 (W.heap.size + 1) (by omega)).trans HBb2.out
  obtain ⟨w3, hw3⟩ : ∃ w3, w3 = w2.setCells W.heap.size 22 Ev.zero.cells := ⟨_, rfl⟩
  rw [← hw3] at hyA hb1 hyB
  have ht2 := hyB.thereT (o := 22) (n := Ev.zero.cells.toArray.size) (by rw [List.size_toArray, List.size_toArray, ms_len, ev_len]; omega)
  have hyA2 : Blk (w3.setCells (W.heap.size + 1) 22 Ev.zero.cells) W.heap.size 55 (noX a).cells.toArray := (setCells_other (W.heap.size + 1) _ 22 w3 W.heap.size (by omega)).trans hyA
  have hyB2 : Blk (w3.setCells (W.heap.size + 1) 22 Ev.zero.cells) (W.heap.size + 1) 55 (noX b).cells.toArray := ms_setX hyB Ev.zero
  have hb2 : Below W.heap.size w2 (w3.setCells (W.heap.size + 1) 22 Ev.zero.cells) := setCells_below (Nat.le_succ _) _ _ _ hb1
  obtain ⟨w4, hw4⟩ : ∃ w4, w4 = w3.setCells (W.heap.size + 1) 22 Ev.zero.cells := ⟨_, rfl⟩
  rw [← hw4] at hyA2 hyB2 hb2
  have HW3 := Lib.hid hw3
  have HW4 := Lib.hid hw4
  clear hw3 hw4 hyA hyB hb1
  go_upto_region 3 with (first | (refine wpList_build_lit Ev.zero.cells.toArray rfl 53 _ rfl built_ez ?_) | (refine wpList_store_mid rfl 53 _ _ rfl W.heap.size 22 Ev.zero.cells.toArray rfl rfl ht1 ez_info (ev_one _) ?_; show wpList _ _ _ _ _ (w2.setCells W.heap.size 22 Ev.zero.cells); rw [← HW3.out]) | (refine wpList_store_mid rfl 53 _ _ rfl (W.heap.size + 1) 22 Ev.zero.cells.toArray rfl rfl ht2 ez_info (ev_one _) ?_; show wpList _ _ _ _ _ (w3.setCells (W.heap.size + 1) 22 Ev.zero.cells); rw [← HW4.out]))
  clear ht1 ht2
  have HF := Lib.hid (HB2.out.trans hb2)
  have rA := hyA2.range
  have rB := hyB2.range
  have hq := fun w => eq_ms (noX a) (noX b) rfl rfl w
  rw [eqM_noX] at hq
  clear hb2 hyA2 hyB2 HW3 HW4 HA2 HBb2 HB2
  obtain ⟨a', ha'⟩ : ∃ a', a' = noX a := ⟨_, rfl⟩
  obtain ⟨b', hb'⟩ : ∃ b', b' = noX b := ⟨_, rfl⟩
  obtain ⟨r, hr⟩ : ∃ r, r = eqM a b := ⟨_, rfl⟩
  rw [← ha'] at rA hq
  rw [← hb'] at rB hq
  rw [← hr] at hq
  have HRR := Lib.hid hr
  clear ha' hb' hr
  go_wp2_with (first | (refine wpList_load_midg (by rfl) 55 _ rfl _ _ rfl (Ms.cells ?_) _ ?_ Tryz.underlying55 rfl (msinfo _) ?_; rotate_left; (focus assumption)))
  go_ret
  exact ⟨by first | rfl | (rw [HRR.out]; rfl) | (rw [← HRR.out]; rfl), HF.out⟩
theorem same_any (a b : Ms) (W : World) : Calls Tryz.prog 12 #[.agg a.cells.toArray, .agg b.cells.toArray] W fun e W' => e = .returned (.bool (sameM a b)) ∧ Below W.heap.size W W' := by
  unfold sameM
  cases h : sameE a.x b.x with
  | false => rw [Bool.false_and]; exact same_no a b W h
  | true => rw [Bool.true_and]; exact same_yes a b W h
def bodyM (m : Ms) : Bool := if hl m.k then rightL m.l else if hev m.k then rightE m.x else if hse m.k then withinB m.se 1 12 && withinB m.co 0 200 else if hst m.k then withinB m.ca 1 12 && withinB m.ro 1 21 && rightS m.s else false
/-- May a message be? -/
def rightM (m : Ms) : Bool := sameM m (partsM m) && bodyM m
set_option maxRecDepth 20000 in
set_option maxHeartbeats 4000000 in
theorem right_off (m : Ms) (W : World) (h : sameM m (partsM m) = false) : Calls Tryz.prog 10 #[.agg m.cells.toArray] W fun e W' => e = .returned (.bool (false)) ∧ Below W.heap.size W W' := by
  have bA := Blk.new W 55 m.cells.toArray
  have hB0 := (Below.refl W.heap.size W).alloc (Nat.le_refl _) (.cells m.cells.toArray 55)
  have ro := bA.range
  have HS := Lib.hid (same_any m (partsM m))
  rw [h] at HS
  clear h
  go_enter Tryz.func10, Tryz.ntmps10
  go_upto_region 1 with fail
  obtain ⟨W1, hw⟩ : ∃ W1, W1 = W.alloc (.cells m.cells.toArray 55) := ⟨_, rfl⟩
  rw [← hw] at hB0 ro bA ⊢
  clear hw
  refine wp_region_tree (S := (fun W' => Below W1.heap.size W1 W' ∧ W'.rangeAt W.heap.size 0 m.cells)) (.take 0 (.take 1 (.one 2 (.one 3 (.take 4 .nil))))) 9999 (by kernel_rfl) (by kernel_rfl) (by kernel_rfl) (by kernel_rfl) (by kernel_rfl) (fun _ _ d _ _ h => by cases d <;> exact h) ⟨(Below.refl _ _).drew, ro⟩ (fun hHeld => ?_); simp only [Tree.map, List.getElem?_toArray, List.getElem?_cons_zero, List.getElem?_cons_succ]
  (repeat (first | (refine wpTree.take (v := undef) (Or.inr ⟨by rfl, rfl⟩) ?_; simp only [Act.put, List.setIfInBounds_toArray, List.set_cons_zero, List.set_cons_succ]) | (refine wpTree.take (v := .agg (Ms.cells ?_).toArray) (yieldsIf_load_mid rfl 55 _ rfl _ _ rfl (Ms.cells _) _ ?_ Tryz.underlying55 rfl (msinfo _)) ?_; rotate_left; (focus (intro _ hS; exact hS.2)); simp only [Act.put, List.setIfInBounds_toArray, List.set_cons_zero, List.set_cons_succ]) | (refine wpTree.take (v := ?_) (Or.inl ⟨by rfl, ?_⟩) ?_; rotate_left; (focus (intro _ hS; (try dsimp only at hS); go_split_ands; (try subst hS); go_simp; (try (with_reducible rfl)); done)); simp only [Act.put, List.setIfInBounds_toArray, List.set_cons_zero, List.set_cons_succ])))
  refine wpTree.one (fun K hK => ?_)
  go_simp
  go_at_call 45
  refine (parts_any m _).mono ?_
  rintro e W2 ⟨rfl, hb⟩
  have h2 : Below W1.heap.size W1 W2 := hHeld.1.trans (hb.mono hHeld.1.size)
  have r2 := range_next hb hHeld.2
  refine hK.out _ _ ⟨h2, r2⟩ (fun _ => ?_)
  clear hK K hb hHeld
  (try simp only [Act.put, List.setIfInBounds_toArray, List.set_cons_zero, List.set_cons_succ])
  refine wpTree.one (fun K hK => ?_)
  go_simp
  go_at_call 12
  refine (HS.out _).mono ?_
  rintro e W3 ⟨rfl, hb⟩
  have h3 : Below W1.heap.size W1 W3 := h2.trans (hb.mono h2.size)
  have r3 := range_next hb r2
  refine hK.out _ _ ⟨h3, r3⟩ (fun _ => ?_)
  clear hK K hb r2
  (try simp only [Act.put, List.setIfInBounds_toArray, List.set_cons_zero, List.set_cons_succ])
  (repeat (first | (refine wpTree.take (v := undef) (Or.inr ⟨by rfl, rfl⟩) ?_; simp only [Act.put, List.setIfInBounds_toArray, List.set_cons_zero, List.set_cons_succ]) | (refine wpTree.take (v := ?_) (Or.inl ⟨by rfl, ?_⟩) ?_; rotate_left; (focus (intro _ hS; (try dsimp only at hS); go_split_ands; (try subst hS); go_simp; (try (with_reducible rfl)); done)); simp only [Act.put, List.setIfInBounds_toArray, List.set_cons_zero, List.set_cons_succ])))
  refine wpTree.done ?_
  have HF := Lib.hid (hB0.trans (h3.mono hB0.size))
  obtain ⟨_, rl, rx, rs, c0, c1, c2, c3, c4⟩ := ms_all (bA.next h3)
  clear hB0 h2 h3 bA ro r3 HS
  clear rl rx rs c0 c1 c2 c3 c4
  go_wp2_with fail
  go_ret
  exact ⟨rfl, HF.out⟩
set_option maxRecDepth 20000 in
set_option maxHeartbeats 4000000 in
theorem right_no (m : Ms) (W : World) (h : sameM m (partsM m) = true) (h1 : hl m.k = false) (h2 : hev m.k = false) (h3 : hse m.k = false) (h4 : hst m.k = false) : Calls Tryz.prog 10 #[.agg m.cells.toArray] W fun e W' => e = .returned (.bool (bodyM m)) ∧ Below W.heap.size W W' := by
  have bA := Blk.new W 55 m.cells.toArray
  have hB0 := (Below.refl W.heap.size W).alloc (Nat.le_refl _) (.cells m.cells.toArray 55)
  have ro := bA.range
  have HS := Lib.hid (same_any m (partsM m))
  rw [h] at HS
  clear h
  go_enter Tryz.func10, Tryz.ntmps10
  go_upto_region 1 with fail
  obtain ⟨W1, hw⟩ : ∃ W1, W1 = W.alloc (.cells m.cells.toArray 55) := ⟨_, rfl⟩
  rw [← hw] at hB0 ro bA ⊢
  clear hw
  refine wp_region_tree (S := (fun W' => Below W1.heap.size W1 W' ∧ W'.rangeAt W.heap.size 0 m.cells)) (.take 0 (.take 1 (.one 2 (.one 3 (.take 4 .nil))))) 9999 (by kernel_rfl) (by kernel_rfl) (by kernel_rfl) (by kernel_rfl) (by kernel_rfl) (fun _ _ d _ _ h => by cases d <;> exact h) ⟨(Below.refl _ _).drew, ro⟩ (fun hHeld => ?_); simp only [Tree.map, List.getElem?_toArray, List.getElem?_cons_zero, List.getElem?_cons_succ]
  (repeat (first | (refine wpTree.take (v := undef) (Or.inr ⟨by rfl, rfl⟩) ?_; simp only [Act.put, List.setIfInBounds_toArray, List.set_cons_zero, List.set_cons_succ]) | (refine wpTree.take (v := .agg (Ms.cells ?_).toArray) (yieldsIf_load_mid rfl 55 _ rfl _ _ rfl (Ms.cells _) _ ?_ Tryz.underlying55 rfl (msinfo _)) ?_; rotate_left; (focus (intro _ hS; exact hS.2)); simp only [Act.put, List.setIfInBounds_toArray, List.set_cons_zero, List.set_cons_succ]) | (refine wpTree.take (v := ?_) (Or.inl ⟨by rfl, ?_⟩) ?_; rotate_left; (focus (intro _ hS; (try dsimp only at hS); go_split_ands; (try subst hS); go_simp; (try (with_reducible rfl)); done)); simp only [Act.put, List.setIfInBounds_toArray, List.set_cons_zero, List.set_cons_succ])))
  refine wpTree.one (fun K hK => ?_)
  go_simp
  go_at_call 45
  refine (parts_any m _).mono ?_
  rintro e W2 ⟨rfl, hb⟩
  have h2 : Below W1.heap.size W1 W2 := hHeld.1.trans (hb.mono hHeld.1.size)
  have r2 := range_next hb hHeld.2
  refine hK.out _ _ ⟨h2, r2⟩ (fun _ => ?_)
  clear hK K hb hHeld
  (try simp only [Act.put, List.setIfInBounds_toArray, List.set_cons_zero, List.set_cons_succ])
  refine wpTree.one (fun K hK => ?_)
  go_simp
  go_at_call 12
  refine (HS.out _).mono ?_
  rintro e W3 ⟨rfl, hb⟩
  have h3 : Below W1.heap.size W1 W3 := h2.trans (hb.mono h2.size)
  have r3 := range_next hb r2
  refine hK.out _ _ ⟨h3, r3⟩ (fun _ => ?_)
  clear hK K hb r2
  (try simp only [Act.put, List.setIfInBounds_toArray, List.set_cons_zero, List.set_cons_succ])
  (repeat (first | (refine wpTree.take (v := undef) (Or.inr ⟨by rfl, rfl⟩) ?_; simp only [Act.put, List.setIfInBounds_toArray, List.set_cons_zero, List.set_cons_succ]) | (refine wpTree.take (v := ?_) (Or.inl ⟨by rfl, ?_⟩) ?_; rotate_left; (focus (intro _ hS; (try dsimp only at hS); go_split_ands; (try subst hS); go_simp; (try (with_reducible rfl)); done)); simp only [Act.put, List.setIfInBounds_toArray, List.set_cons_zero, List.set_cons_succ])))
  refine wpTree.done ?_
  have HF := Lib.hid (hB0.trans (h3.mono hB0.size))
  obtain ⟨_, rl, rx, rs, c0, c1, c2, c3, c4⟩ := ms_all (bA.next h3)
  clear hB0 h2 h3 bA ro r3 HS
  have HBD := Lib.hid (show bodyM m = false by unfold bodyM; rw [h1, h2, h3, h4]; rfl)
  clear rl rx rs c1 c2 c3 c4
  go_wp2_with (first | (go_at_call 26; refine (haslabel_any _ _).mono ?_; rintro e wh ⟨rfl, rfl⟩; rw [h1]) | (go_at_call 28; refine (hasevent_any _ _).mono ?_; rintro e wh ⟨rfl, rfl⟩; rw [h2]) | (go_at_call 30; refine (hasseller_any _ _).mono ?_; rintro e wh ⟨rfl, rfl⟩; rw [h3]) | (go_at_call 31; refine (hasstance_any _ _).mono ?_; rintro e wh ⟨rfl, rfl⟩; rw [h4]))
  go_ret
  exact ⟨by first | (rw [HBD.out]; done) | (rw [HBD.out]; rfl), HF.out⟩
set_option maxRecDepth 20000 in
set_option maxHeartbeats 4000000 in
theorem right_lab (m : Ms) (W : World) (h : sameM m (partsM m) = true) (h1 : hl m.k = true) (h2 : hev m.k = false) (h3 : hse m.k = false) (h4 : hst m.k = false) : Calls Tryz.prog 10 #[.agg m.cells.toArray] W fun e W' => e = .returned (.bool (bodyM m)) ∧ Below W.heap.size W W' := by
  have bA := Blk.new W 55 m.cells.toArray
  have hB0 := (Below.refl W.heap.size W).alloc (Nat.le_refl _) (.cells m.cells.toArray 55)
  have ro := bA.range
  have HS := Lib.hid (same_any m (partsM m))
  rw [h] at HS
  clear h
  go_enter Tryz.func10, Tryz.ntmps10
  go_upto_region 1 with fail
  obtain ⟨W1, hw⟩ : ∃ W1, W1 = W.alloc (.cells m.cells.toArray 55) := ⟨_, rfl⟩
  rw [← hw] at hB0 ro bA ⊢
  clear hw
  refine wp_region_tree (S := (fun W' => Below W1.heap.size W1 W' ∧ W'.rangeAt W.heap.size 0 m.cells)) (.take 0 (.take 1 (.one 2 (.one 3 (.take 4 .nil))))) 9999 (by kernel_rfl) (by kernel_rfl) (by kernel_rfl) (by kernel_rfl) (by kernel_rfl) (fun _ _ d _ _ h => by cases d <;> exact h) ⟨(Below.refl _ _).drew, ro⟩ (fun hHeld => ?_); simp only [Tree.map, List.getElem?_toArray, List.getElem?_cons_zero, List.getElem?_cons_succ]
  (repeat (first | (refine wpTree.take (v := undef) (Or.inr ⟨by rfl, rfl⟩) ?_; simp only [Act.put, List.setIfInBounds_toArray, List.set_cons_zero, List.set_cons_succ]) | (refine wpTree.take (v := .agg (Ms.cells ?_).toArray) (yieldsIf_load_mid rfl 55 _ rfl _ _ rfl (Ms.cells _) _ ?_ Tryz.underlying55 rfl (msinfo _)) ?_; rotate_left; (focus (intro _ hS; exact hS.2)); simp only [Act.put, List.setIfInBounds_toArray, List.set_cons_zero, List.set_cons_succ]) | (refine wpTree.take (v := ?_) (Or.inl ⟨by rfl, ?_⟩) ?_; rotate_left; (focus (intro _ hS; (try dsimp only at hS); go_split_ands; (try subst hS); go_simp; (try (with_reducible rfl)); done)); simp only [Act.put, List.setIfInBounds_toArray, List.set_cons_zero, List.set_cons_succ])))
  refine wpTree.one (fun K hK => ?_)
  go_simp
  go_at_call 45
  refine (parts_any m _).mono ?_
  rintro e W2 ⟨rfl, hb⟩
  have h2 : Below W1.heap.size W1 W2 := hHeld.1.trans (hb.mono hHeld.1.size)
  have r2 := range_next hb hHeld.2
  refine hK.out _ _ ⟨h2, r2⟩ (fun _ => ?_)
  clear hK K hb hHeld
  (try simp only [Act.put, List.setIfInBounds_toArray, List.set_cons_zero, List.set_cons_succ])
  refine wpTree.one (fun K hK => ?_)
  go_simp
  go_at_call 12
  refine (HS.out _).mono ?_
  rintro e W3 ⟨rfl, hb⟩
  have h3 : Below W1.heap.size W1 W3 := h2.trans (hb.mono h2.size)
  have r3 := range_next hb r2
  refine hK.out _ _ ⟨h3, r3⟩ (fun _ => ?_)
  clear hK K hb r2
  (try simp only [Act.put, List.setIfInBounds_toArray, List.set_cons_zero, List.set_cons_succ])
  (repeat (first | (refine wpTree.take (v := undef) (Or.inr ⟨by rfl, rfl⟩) ?_; simp only [Act.put, List.setIfInBounds_toArray, List.set_cons_zero, List.set_cons_succ]) | (refine wpTree.take (v := ?_) (Or.inl ⟨by rfl, ?_⟩) ?_; rotate_left; (focus (intro _ hS; (try dsimp only at hS); go_split_ands; (try subst hS); go_simp; (try (with_reducible rfl)); done)); simp only [Act.put, List.setIfInBounds_toArray, List.set_cons_zero, List.set_cons_succ])))
  refine wpTree.done ?_
  have HF := Lib.hid (hB0.trans (h3.mono hB0.size))
  obtain ⟨_, rl, rx, rs, c0, c1, c2, c3, c4⟩ := ms_all (bA.next h3)
  clear hB0 h2 h3 bA ro r3 HS
  have HBD := Lib.hid (show bodyM m = rightL m.l by unfold bodyM; rw [h1]; rfl)
  clear rx rs c1 c2 c3 c4
  go_wp2_with (first | (go_at_call 26; refine (haslabel_any _ _).mono ?_; rintro e wh ⟨rfl, rfl⟩; rw [h1]) | (go_at_call 28; refine (hasevent_any _ _).mono ?_; rintro e wh ⟨rfl, rfl⟩; rw [h2]) | (go_at_call 30; refine (hasseller_any _ _).mono ?_; rintro e wh ⟨rfl, rfl⟩; rw [h3]) | (go_at_call 31; refine (hasstance_any _ _).mono ?_; rintro e wh ⟨rfl, rfl⟩; rw [h4]) | (refine wpList_load_midg (by rfl) 27 _ rfl _ _ rfl (Lab.cells ?_) _ ?_ Tryz.underlying27 rfl (linfo _) ?_; rotate_left; (focus assumption)) | (go_at_call 46; refine (lright_any m.l _).mono ?_; rintro e w4 ⟨rfl, hb⟩; have HF4 := Lib.hid (HF.out.trans (hb.mono HF.out.size)); clear hb rl c0 HF))
  go_ret
  exact ⟨by first | (rw [HBD.out]; done) | (rw [HBD.out]; rfl), HF4.out⟩
set_option maxRecDepth 20000 in
set_option maxHeartbeats 4000000 in
theorem right_ev (m : Ms) (W : World) (h : sameM m (partsM m) = true) (h1 : hl m.k = false) (h2 : hev m.k = true) (h3 : hse m.k = false) (h4 : hst m.k = false) : Calls Tryz.prog 10 #[.agg m.cells.toArray] W fun e W' => e = .returned (.bool (bodyM m)) ∧ Below W.heap.size W W' := by
  have bA := Blk.new W 55 m.cells.toArray
  have hB0 := (Below.refl W.heap.size W).alloc (Nat.le_refl _) (.cells m.cells.toArray 55)
  have ro := bA.range
  have HS := Lib.hid (same_any m (partsM m))
  rw [h] at HS
  clear h
  go_enter Tryz.func10, Tryz.ntmps10
  go_upto_region 1 with fail
  obtain ⟨W1, hw⟩ : ∃ W1, W1 = W.alloc (.cells m.cells.toArray 55) := ⟨_, rfl⟩
  rw [← hw] at hB0 ro bA ⊢
  clear hw
  refine wp_region_tree (S := (fun W' => Below W1.heap.size W1 W' ∧ W'.rangeAt W.heap.size 0 m.cells)) (.take 0 (.take 1 (.one 2 (.one 3 (.take 4 .nil))))) 9999 (by kernel_rfl) (by kernel_rfl) (by kernel_rfl) (by kernel_rfl) (by kernel_rfl) (fun _ _ d _ _ h => by cases d <;> exact h) ⟨(Below.refl _ _).drew, ro⟩ (fun hHeld => ?_); simp only [Tree.map, List.getElem?_toArray, List.getElem?_cons_zero, List.getElem?_cons_succ]
  (repeat (first | (refine wpTree.take (v := undef) (Or.inr ⟨by rfl, rfl⟩) ?_; simp only [Act.put, List.setIfInBounds_toArray, List.set_cons_zero, List.set_cons_succ]) | (refine wpTree.take (v := .agg (Ms.cells ?_).toArray) (yieldsIf_load_mid rfl 55 _ rfl _ _ rfl (Ms.cells _) _ ?_ Tryz.underlying55 rfl (msinfo _)) ?_; rotate_left; (focus (intro _ hS; exact hS.2)); simp only [Act.put, List.setIfInBounds_toArray, List.set_cons_zero, List.set_cons_succ]) | (refine wpTree.take (v := ?_) (Or.inl ⟨by rfl, ?_⟩) ?_; rotate_left; (focus (intro _ hS; (try dsimp only at hS); go_split_ands; (try subst hS); go_simp; (try (with_reducible rfl)); done)); simp only [Act.put, List.setIfInBounds_toArray, List.set_cons_zero, List.set_cons_succ])))
  refine wpTree.one (fun K hK => ?_)
  go_simp
  go_at_call 45
  refine (parts_any m _).mono ?_
  rintro e W2 ⟨rfl, hb⟩
  have h2 : Below W1.heap.size W1 W2 := hHeld.1.trans (hb.mono hHeld.1.size)
  have r2 := range_next hb hHeld.2
  refine hK.out _ _ ⟨h2, r2⟩ (fun _ => ?_)
  clear hK K hb hHeld
  (try simp only [Act.put, List.setIfInBounds_toArray, List.set_cons_zero, List.set_cons_succ])
  refine wpTree.one (fun K hK => ?_)
  go_simp
  go_at_call 12
  refine (HS.out _).mono ?_
  rintro e W3 ⟨rfl, hb⟩
  have h3 : Below W1.heap.size W1 W3 := h2.trans (hb.mono h2.size)
  have r3 := range_next hb r2
  refine hK.out _ _ ⟨h3, r3⟩ (fun _ => ?_)
  clear hK K hb r2
  (try simp only [Act.put, List.setIfInBounds_toArray, List.set_cons_zero, List.set_cons_succ])
  (repeat (first | (refine wpTree.take (v := undef) (Or.inr ⟨by rfl, rfl⟩) ?_; simp only [Act.put, List.setIfInBounds_toArray, List.set_cons_zero, List.set_cons_succ]) | (refine wpTree.take (v := ?_) (Or.inl ⟨by rfl, ?_⟩) ?_; rotate_left; (focus (intro _ hS; (try dsimp only at hS); go_split_ands; (try subst hS); go_simp; (try (with_reducible rfl)); done)); simp only [Act.put, List.setIfInBounds_toArray, List.set_cons_zero, List.set_cons_succ])))
  refine wpTree.done ?_
  have HF := Lib.hid (hB0.trans (h3.mono hB0.size))
  obtain ⟨_, rl, rx, rs, c0, c1, c2, c3, c4⟩ := ms_all (bA.next h3)
  clear hB0 h2 h3 bA ro r3 HS
  have HBD := Lib.hid (show bodyM m = rightE m.x by unfold bodyM; rw [h1, h2]; rfl)
  clear rl rs c1 c2 c3 c4
  go_wp2_with (first | (go_at_call 26; refine (haslabel_any _ _).mono ?_; rintro e wh ⟨rfl, rfl⟩; rw [h1]) | (go_at_call 28; refine (hasevent_any _ _).mono ?_; rintro e wh ⟨rfl, rfl⟩; rw [h2]) | (go_at_call 30; refine (hasseller_any _ _).mono ?_; rintro e wh ⟨rfl, rfl⟩; rw [h3]) | (go_at_call 31; refine (hasstance_any _ _).mono ?_; rintro e wh ⟨rfl, rfl⟩; rw [h4]) | (refine wpList_load_midg (by rfl) 53 _ rfl _ _ rfl (Ev.cells ?_) _ ?_ Tryz.underlying53 rfl (einfo _) ?_; rotate_left; (focus assumption)) | (go_at_call 47; refine (eright_any m.x _).mono ?_; rintro e w4 ⟨rfl, hb⟩; have HF4 := Lib.hid (HF.out.trans (hb.mono HF.out.size)); clear hb rx c0 HF))
  go_ret
  exact ⟨by first | (rw [HBD.out]; done) | (rw [HBD.out]; rfl), HF4.out⟩
set_option maxRecDepth 20000 in
set_option maxHeartbeats 4000000 in
theorem right_sel (m : Ms) (W : World) (h : sameM m (partsM m) = true) (h1 : hl m.k = false) (h2 : hev m.k = false) (h3 : hse m.k = true) (h4 : hst m.k = false) : Calls Tryz.prog 10 #[.agg m.cells.toArray] W fun e W' => e = .returned (.bool (bodyM m)) ∧ Below W.heap.size W W' := by
  have bA := Blk.new W 55 m.cells.toArray
  have hB0 := (Below.refl W.heap.size W).alloc (Nat.le_refl _) (.cells m.cells.toArray 55)
  have ro := bA.range
  have HS := Lib.hid (same_any m (partsM m))
  rw [h] at HS
  clear h
  go_enter Tryz.func10, Tryz.ntmps10
  go_upto_region 1 with fail
  obtain ⟨W1, hw⟩ : ∃ W1, W1 = W.alloc (.cells m.cells.toArray 55) := ⟨_, rfl⟩
  rw [← hw] at hB0 ro bA ⊢
  clear hw
  refine wp_region_tree (S := (fun W' => Below W1.heap.size W1 W' ∧ W'.rangeAt W.heap.size 0 m.cells)) (.take 0 (.take 1 (.one 2 (.one 3 (.take 4 .nil))))) 9999 (by kernel_rfl) (by kernel_rfl) (by kernel_rfl) (by kernel_rfl) (by kernel_rfl) (fun _ _ d _ _ h => by cases d <;> exact h) ⟨(Below.refl _ _).drew, ro⟩ (fun hHeld => ?_); simp only [Tree.map, List.getElem?_toArray, List.getElem?_cons_zero, List.getElem?_cons_succ]
  (repeat (first | (refine wpTree.take (v := undef) (Or.inr ⟨by rfl, rfl⟩) ?_; simp only [Act.put, List.setIfInBounds_toArray, List.set_cons_zero, List.set_cons_succ]) | (refine wpTree.take (v := .agg (Ms.cells ?_).toArray) (yieldsIf_load_mid rfl 55 _ rfl _ _ rfl (Ms.cells _) _ ?_ Tryz.underlying55 rfl (msinfo _)) ?_; rotate_left; (focus (intro _ hS; exact hS.2)); simp only [Act.put, List.setIfInBounds_toArray, List.set_cons_zero, List.set_cons_succ]) | (refine wpTree.take (v := ?_) (Or.inl ⟨by rfl, ?_⟩) ?_; rotate_left; (focus (intro _ hS; (try dsimp only at hS); go_split_ands; (try subst hS); go_simp; (try (with_reducible rfl)); done)); simp only [Act.put, List.setIfInBounds_toArray, List.set_cons_zero, List.set_cons_succ])))
  refine wpTree.one (fun K hK => ?_)
  go_simp
  go_at_call 45
  refine (parts_any m _).mono ?_
  rintro e W2 ⟨rfl, hb⟩
  have h2 : Below W1.heap.size W1 W2 := hHeld.1.trans (hb.mono hHeld.1.size)
  have r2 := range_next hb hHeld.2
  refine hK.out _ _ ⟨h2, r2⟩ (fun _ => ?_)
  clear hK K hb hHeld
  (try simp only [Act.put, List.setIfInBounds_toArray, List.set_cons_zero, List.set_cons_succ])
  refine wpTree.one (fun K hK => ?_)
  go_simp
  go_at_call 12
  refine (HS.out _).mono ?_
  rintro e W3 ⟨rfl, hb⟩
  have h3 : Below W1.heap.size W1 W3 := h2.trans (hb.mono h2.size)
  have r3 := range_next hb r2
  refine hK.out _ _ ⟨h3, r3⟩ (fun _ => ?_)
  clear hK K hb r2
  (try simp only [Act.put, List.setIfInBounds_toArray, List.set_cons_zero, List.set_cons_succ])
  (repeat (first | (refine wpTree.take (v := undef) (Or.inr ⟨by rfl, rfl⟩) ?_; simp only [Act.put, List.setIfInBounds_toArray, List.set_cons_zero, List.set_cons_succ]) | (refine wpTree.take (v := ?_) (Or.inl ⟨by rfl, ?_⟩) ?_; rotate_left; (focus (intro _ hS; (try dsimp only at hS); go_split_ands; (try subst hS); go_simp; (try (with_reducible rfl)); done)); simp only [Act.put, List.setIfInBounds_toArray, List.set_cons_zero, List.set_cons_succ])))
  refine wpTree.done ?_
  have HF := Lib.hid (hB0.trans (h3.mono hB0.size))
  obtain ⟨_, rl, rx, rs, c0, c1, c2, c3, c4⟩ := ms_all (bA.next h3)
  clear hB0 h2 h3 bA ro r3 HS
  have HBD := Lib.hid (show bodyM m = (withinB m.se 1 12 && withinB m.co 0 200) by unfold bodyM; rw [h1, h2, h3]; rfl)
  clear rl rx rs c3 c4
  cases hs : withinB m.se 1 12 with
  | false =>
    go_wp2_with (first | (go_at_call 26; refine (haslabel_any _ _).mono ?_; rintro e wh ⟨rfl, rfl⟩; rw [h1]) | (go_at_call 28; refine (hasevent_any _ _).mono ?_; rintro e wh ⟨rfl, rfl⟩; rw [h2]) | (go_at_call 30; refine (hasseller_any _ _).mono ?_; rintro e wh ⟨rfl, rfl⟩; rw [h3]) | (go_at_call 31; refine (hasstance_any _ _).mono ?_; rintro e wh ⟨rfl, rfl⟩; rw [h4]) | (go_at_call 48; refine (within_any _ _ _ _).mono ?_; rintro e wv ⟨rfl, rfl⟩; (try rw [hs]); (try rw [hq])))
    go_ret
    exact ⟨by rw [HBD.out, hs]; rfl, HF.out⟩
  | true =>
    go_wp2_with (first | (go_at_call 26; refine (haslabel_any _ _).mono ?_; rintro e wh ⟨rfl, rfl⟩; rw [h1]) | (go_at_call 28; refine (hasevent_any _ _).mono ?_; rintro e wh ⟨rfl, rfl⟩; rw [h2]) | (go_at_call 30; refine (hasseller_any _ _).mono ?_; rintro e wh ⟨rfl, rfl⟩; rw [h3]) | (go_at_call 31; refine (hasstance_any _ _).mono ?_; rintro e wh ⟨rfl, rfl⟩; rw [h4]) | (go_at_call 48; refine (within_any _ _ _ _).mono ?_; rintro e wv ⟨rfl, rfl⟩; (try rw [hs]); (try rw [hq])))
    go_ret
    exact ⟨by rw [HBD.out, hs]; rfl, HF.out⟩
set_option maxRecDepth 20000 in
set_option maxHeartbeats 4000000 in
theorem right_st (m : Ms) (W : World) (h : sameM m (partsM m) = true) (h1 : hl m.k = false) (h2 : hev m.k = false) (h3 : hse m.k = false) (h4 : hst m.k = true) : Calls Tryz.prog 10 #[.agg m.cells.toArray] W fun e W' => e = .returned (.bool (bodyM m)) ∧ Below W.heap.size W W' := by
  have bA := Blk.new W 55 m.cells.toArray
  have hB0 := (Below.refl W.heap.size W).alloc (Nat.le_refl _) (.cells m.cells.toArray 55)
  have ro := bA.range
  have HS := Lib.hid (same_any m (partsM m))
  rw [h] at HS
  clear h
  go_enter Tryz.func10, Tryz.ntmps10
  go_upto_region 1 with fail
  obtain ⟨W1, hw⟩ : ∃ W1, W1 = W.alloc (.cells m.cells.toArray 55) := ⟨_, rfl⟩
  rw [← hw] at hB0 ro bA ⊢
  clear hw
  refine wp_region_tree (S := (fun W' => Below W1.heap.size W1 W' ∧ W'.rangeAt W.heap.size 0 m.cells)) (.take 0 (.take 1 (.one 2 (.one 3 (.take 4 .nil))))) 9999 (by kernel_rfl) (by kernel_rfl) (by kernel_rfl) (by kernel_rfl) (by kernel_rfl) (fun _ _ d _ _ h => by cases d <;> exact h) ⟨(Below.refl _ _).drew, ro⟩ (fun hHeld => ?_); simp only [Tree.map, List.getElem?_toArray, List.getElem?_cons_zero, List.getElem?_cons_succ]
  (repeat (first | (refine wpTree.take (v := undef) (Or.inr ⟨by rfl, rfl⟩) ?_; simp only [Act.put, List.setIfInBounds_toArray, List.set_cons_zero, List.set_cons_succ]) | (refine wpTree.take (v := .agg (Ms.cells ?_).toArray) (yieldsIf_load_mid rfl 55 _ rfl _ _ rfl (Ms.cells _) _ ?_ Tryz.underlying55 rfl (msinfo _)) ?_; rotate_left; (focus (intro _ hS; exact hS.2)); simp only [Act.put, List.setIfInBounds_toArray, List.set_cons_zero, List.set_cons_succ]) | (refine wpTree.take (v := ?_) (Or.inl ⟨by rfl, ?_⟩) ?_; rotate_left; (focus (intro _ hS; (try dsimp only at hS); go_split_ands; (try subst hS); go_simp; (try (with_reducible rfl)); done)); simp only [Act.put, List.setIfInBounds_toArray, List.set_cons_zero, List.set_cons_succ])))
  refine wpTree.one (fun K hK => ?_)
  go_simp
  go_at_call 45
  refine (parts_any m _).mono ?_
  rintro e W2 ⟨rfl, hb⟩
  have h2 : Below W1.heap.size W1 W2 := hHeld.1.trans (hb.mono hHeld.1.size)
  have r2 := range_next hb hHeld.2
  refine hK.out _ _ ⟨h2, r2⟩ (fun _ => ?_)
  clear hK K hb hHeld
  (try simp only [Act.put, List.setIfInBounds_toArray, List.set_cons_zero, List.set_cons_succ])
  refine wpTree.one (fun K hK => ?_)
  go_simp
  go_at_call 12
  refine (HS.out _).mono ?_
  rintro e W3 ⟨rfl, hb⟩
  have h3 : Below W1.heap.size W1 W3 := h2.trans (hb.mono h2.size)
  have r3 := range_next hb r2
  refine hK.out _ _ ⟨h3, r3⟩ (fun _ => ?_)
  clear hK K hb r2
  (try simp only [Act.put, List.setIfInBounds_toArray, List.set_cons_zero, List.set_cons_succ])
  (repeat (first | (refine wpTree.take (v := undef) (Or.inr ⟨by rfl, rfl⟩) ?_; simp only [Act.put, List.setIfInBounds_toArray, List.set_cons_zero, List.set_cons_succ]) | (refine wpTree.take (v := ?_) (Or.inl ⟨by rfl, ?_⟩) ?_; rotate_left; (focus (intro _ hS; (try dsimp only at hS); go_split_ands; (try subst hS); go_simp; (try (with_reducible rfl)); done)); simp only [Act.put, List.setIfInBounds_toArray, List.set_cons_zero, List.set_cons_succ])))
  refine wpTree.done ?_
  have HF := Lib.hid (hB0.trans (h3.mono hB0.size))
  obtain ⟨_, rl, rx, rs, c0, c1, c2, c3, c4⟩ := ms_all (bA.next h3)
  clear hB0 h2 h3 bA ro r3 HS
  have HBD := Lib.hid (show bodyM m = (withinB m.ca 1 12 && withinB m.ro 1 21 && rightS m.s) by unfold bodyM; rw [h1, h2, h3, h4]; rfl)
  clear rl rx c1 c2
  cases hs : withinB m.ca 1 12 with
  | false =>
    go_wp2_with (first | (go_at_call 26; refine (haslabel_any _ _).mono ?_; rintro e wh ⟨rfl, rfl⟩; rw [h1]) | (go_at_call 28; refine (hasevent_any _ _).mono ?_; rintro e wh ⟨rfl, rfl⟩; rw [h2]) | (go_at_call 30; refine (hasseller_any _ _).mono ?_; rintro e wh ⟨rfl, rfl⟩; rw [h3]) | (go_at_call 31; refine (hasstance_any _ _).mono ?_; rintro e wh ⟨rfl, rfl⟩; rw [h4]) | (go_at_call 48; refine (within_any _ _ _ _).mono ?_; rintro e wv ⟨rfl, rfl⟩; (try rw [hs]); (try rw [hq])))
    go_ret
    exact ⟨by rw [HBD.out, hs]; rfl, HF.out⟩
  | true =>
    cases hq : withinB m.ro 1 21 with
    | false =>
      go_wp2_with (first | (go_at_call 26; refine (haslabel_any _ _).mono ?_; rintro e wh ⟨rfl, rfl⟩; rw [h1]) | (go_at_call 28; refine (hasevent_any _ _).mono ?_; rintro e wh ⟨rfl, rfl⟩; rw [h2]) | (go_at_call 30; refine (hasseller_any _ _).mono ?_; rintro e wh ⟨rfl, rfl⟩; rw [h3]) | (go_at_call 31; refine (hasstance_any _ _).mono ?_; rintro e wh ⟨rfl, rfl⟩; rw [h4]) | (go_at_call 48; refine (within_any _ _ _ _).mono ?_; rintro e wv ⟨rfl, rfl⟩; (try rw [hs]); (try rw [hq])))
      go_ret
      exact ⟨by rw [HBD.out, hs, hq]; rfl, HF.out⟩
    | true =>
      go_wp2_with (first | (go_at_call 26; refine (haslabel_any _ _).mono ?_; rintro e wh ⟨rfl, rfl⟩; rw [h1]) | (go_at_call 28; refine (hasevent_any _ _).mono ?_; rintro e wh ⟨rfl, rfl⟩; rw [h2]) | (go_at_call 30; refine (hasseller_any _ _).mono ?_; rintro e wh ⟨rfl, rfl⟩; rw [h3]) | (go_at_call 31; refine (hasstance_any _ _).mono ?_; rintro e wh ⟨rfl, rfl⟩; rw [h4]) | (go_at_call 48; refine (within_any _ _ _ _).mono ?_; rintro e wv ⟨rfl, rfl⟩; (try rw [hs]); (try rw [hq])) | (refine wpList_load_midg (by rfl) 33 _ rfl _ _ rfl (St.cells ?_) _ ?_ Tryz.underlying33 rfl (stinfo _) ?_; rotate_left; (focus assumption)) | (go_at_call 49; refine (rightstance_any m.s _).mono ?_; rintro e w4 ⟨rfl, hb⟩; have HF4 := Lib.hid (HF.out.trans (hb.mono HF.out.size)); clear hb rs c0 HF))
      go_ret
      exact ⟨by rw [HBD.out, hs, hq]; rfl, HF4.out⟩
theorem right_any (m : Ms) (W : World) : Calls Tryz.prog 10 #[.agg m.cells.toArray] W fun e W' => e = .returned (.bool (rightM m)) ∧ Below W.heap.size W W' := by
  unfold rightM
  cases h : sameM m (partsM m) with
  | false => rw [Bool.false_and]; exact right_off m W h
  | true =>
    rw [Bool.true_and]
    rcases kd_any m.k with ⟨_, h1, h2, h3, h4, h5⟩ | ⟨_, h1, h2, h3, h4, h5⟩ | ⟨_, h1, h2, h3, h4, h5⟩ | ⟨_, h1, h2, h3, h4, h5⟩ | ⟨_, h1, h2, h3, h4, h5⟩ | ⟨_, h1, h2, h3, h4, h5⟩
    · exact right_lab m W h h1 h2 h3 h4
    · exact right_ev m W h h1 h2 h3 h4
    · exact right_sel m W h h1 h2 h3 h4
    · exact right_sel m W h h1 h2 h3 h4
    · exact right_st m W h h1 h2 h3 h4
    · exact right_no m W h h1 h2 h3 h4
end Mg
end Go.Proofs.YtkigaclcmodjaaaGreat
namespace Go.Proofs.YtkigaclcmodjaaaGreat
open Go.RowKit
set_option linter.unusedSimpArgs false
set_option linter.unusedVariables false
namespace Mg
/-- A stance's bytes. -/
def encSt (s : St) : List Nat := if s.h then enc 1 ++ enc s.t ++ encV s.f else enc 0
structure St.Ok (s : St) : Prop where
  t : s.t < 18446744073709551616
  f : ∀ i, s.f i < 4294967296
theorem blk_below {B k : Nat} {t : TypeId} {W W' : World} {cs : Array Value} (h : Blk W k t cs) (hb : Below B W W') (hk : k < B) : Blk W' k t cs := (hb.block k hk).trans h
set_option maxHeartbeats 4000000 in
set_option maxRecDepth 20000 in
theorem putstance_any (B g : Nat) (s : St) (bs : List Nat) (W : World) (h : Wtr W B g bs) (hx : St.Ok s) (hlen : bs.length + 300 ≤ 140737488355328) :
    Calls Tryz.prog 32 #[.pointer (some ⟨g, 0, none⟩), .agg s.cells.toArray] W fun e W' => e = .returned (.tuple #[]) ∧ Wtr W' B g (bs ++ encSt s) ∧ Wrote B g W W' := by
  have hb := (Below.refl W.heap.size W).alloc (Nat.le_refl _) (.cells s.cells.toArray 33)
  have HX0 := Lib.hid (BoxT.new (t := 33) h s.cells.toArray)
  have b0 := HX0.out.1
  obtain ⟨-, rv, q0, q1⟩ := st_all b0
  have HW0 := Lib.hid (h.next hb)
  have HR0 := Lib.hid (Wrote.ofBelow hb (Nat.le_trans h.1 (Nat.le_of_lt h.lt)) h.lt)
  have HX := Lib.hid hx
  have HL := Lib.hid hlen
  unfold encSt
  clear h hb b0 hx hlen
  cases hh : s.h with
  | false =>
    rw [hh] at q0
    clear hh rv q1
    go_enter Tryz.func32, Tryz.ntmps32
    go_wp2_with (go_at_call 25; refine (wnum_any B g 0 bs _ HW0.out (by decide) (by have := HL.out; omega)).mono ?_; rintro e W1 ⟨rfl, hw, hr⟩; have HW1 := Lib.hid hw; have HR1 := Lib.hid (HR0.out.trans hr); clear hw hr)
    exact ⟨rfl, .tuple #[], by simp [results, Tryz.results32, go_sem], rfl, HW1.out, HR1.out⟩
  | true =>
    rw [hh] at q0
    clear hh
    go_enter Tryz.func32, Tryz.ntmps32
    go_upto_region 1 with fail
    obtain ⟨w1, hw1⟩ : ∃ w1, w1 = W.alloc (.cells s.cells.toArray 33) := ⟨_, rfl⟩
    rw [← hw1] at HW0 HR0 HX0 rv q0 q1 ⊢
    clear hw1
    go_upto_region 3 with fail
    clear q0
    refine wp_region_tree (S := (fun w' => w'.cell? ⟨W.heap.size, 1, none⟩ = some (.int .u64 (s.t : Nat)) ∧ w'.rangeAt W.heap.size 2 (vl s.f))) (.take 0 (.take 2 (.take 3 (.take 5 (.take 6 (.one 1 (.one 4 (.one 7 .nil)))))))) 9999 (by kernel_rfl) (by kernel_rfl) (by kernel_rfl) (by kernel_rfl) (by kernel_rfl) (fun _ _ d _ _ h => by cases d <;> exact h) ⟨q1, rv⟩ (fun hHeld => ?_); simp only [Tree.map, List.getElem?_toArray, List.getElem?_cons_zero, List.getElem?_cons_succ]
    (repeat (first | (refine wpTree.take (v := undef) (Or.inr ⟨by rfl, rfl⟩) ?_; simp only [Act.put, List.setIfInBounds_toArray, List.set_cons_zero, List.set_cons_succ]) | (refine wpTree.take (v := .agg (vl ?_).toArray) (yieldsIf_load_mid rfl 25 _ rfl _ _ rfl (vl _) _ ?_ Tryz.underlying25 rfl (vinfoL _)) ?_; rotate_left; (focus (intro _ hS; (try dsimp only at hS); go_split_ands; (first | assumption | exact Blk.range (by assumption)))); simp only [Act.put, List.setIfInBounds_toArray, List.set_cons_zero, List.set_cons_succ]) | (refine wpTree.take (v := ?_) (Or.inl ⟨by rfl, ?_⟩) ?_; rotate_left; (focus (intro _ hS; (try dsimp only at hS); go_split_ands; (try subst hS); go_simp; (try (with_reducible rfl)); done)); simp only [Act.put, List.setIfInBounds_toArray, List.set_cons_zero, List.set_cons_succ])))
    refine wpTree.one (fun K hK => ?_)
    go_simp
    go_at_call 25
    refine (wnum_any B g 1 bs _ (show Wtr w1.drew B g bs from HW0.out) (by decide) (by have := HL.out; omega)).mono ?_
    rintro e W2 ⟨rfl, hw, hr⟩
    have HW2 := Lib.hid hw
    have HR2 := Lib.hid ((show Wrote B g W w1.drew from ⟨HR0.out.1.drew, HR0.out.2.1, HR0.out.2.2⟩).trans hr)
    have HX2 := Lib.hid ((show BoxT 33 w1.drew W.heap.size g s.cells.toArray from HX0.out).wrote hr)
    obtain ⟨-, rv2, -, q22⟩ := st_all HX2.out.1
    refine hK.out _ _ ⟨q22, rv2⟩ (fun _ => ?_)
    clear hK K hw hr rv2 q22 hHeld
    (try simp only [Act.put, List.setIfInBounds_toArray, List.set_cons_zero, List.set_cons_succ])
    refine wpTree.one (fun K hK => ?_)
    go_simp
    go_at_call 25
    refine (wnum_any B g s.t (bs ++ enc 1) _ HW2.out HX.out.t (by have := HL.out; have := enc_len 1 (by decide); simp only [List.length_append]; omega)).mono ?_
    rintro e W3 ⟨rfl, hw, hr⟩
    have HW3 := Lib.hid hw
    have HR3 := Lib.hid (HR2.out.trans hr)
    have HX3 := Lib.hid (HX2.out.wrote hr)
    obtain ⟨-, rv2, -, q22⟩ := st_all HX3.out.1
    refine hK.out _ _ ⟨q22, rv2⟩ (fun _ => ?_)
    clear hK K hw hr rv2 q22
    (try simp only [Act.put, List.setIfInBounds_toArray, List.set_cons_zero, List.set_cons_succ])
    refine wpTree.one (fun K hK => ?_)
    go_simp
    go_at_call 60
    refine (wvector_any B g s.f (bs ++ enc 1 ++ enc s.t) _ HW3.out HX.out.f (by have := HL.out; have := enc_len 1 (by decide); have := enc_len s.t HX.out.t; simp only [List.length_append]; omega)).mono ?_
    rintro e W4 ⟨rfl, hw, hr⟩
    have HW4 := Lib.hid hw
    have HR4 := Lib.hid (HR3.out.trans hr)
    have HX4 := Lib.hid (HX3.out.wrote hr)
    obtain ⟨-, rv2, -, q22⟩ := st_all HX4.out.1
    refine hK.out _ _ ⟨q22, rv2⟩ (fun _ => ?_)
    clear hK K hw hr rv2 q22
    (try simp only [Act.put, List.setIfInBounds_toArray, List.set_cons_zero, List.set_cons_succ])
    refine wpTree.done ?_
    go_wp2_with fail
    exact ⟨rfl, .tuple #[], by simp [results, Tryz.results32, go_sem], rfl, by simpa only [if_true, List.append_assoc] using HW4.out, HR4.out⟩
structure Ms.Ok (m : Ms) : Prop where
  l : ∀ i, m.l.f i < 4294967296
  x : ∀ i, m.x.l.f i < 4294967296
  p : m.x.o.p < 18446744073709551616
  s : St.Ok m.s
/-- A message's bytes. -/
def encM (m : Ms) : List Nat := enc (wordN m.k) ++ ((if hl m.k then encL m.l else []) ++ ((if hev m.k then encE m.x else []) ++ ((if hse m.k then enc (wordN m.se) else []) ++ ((if hst m.k then enc (wordN m.ca) ++ (enc (wordN m.ro) ++ encSt m.s) else []) ++ (if hco m.k then enc (wordN m.co) else [])))))
theorem body_of {m : Ms} (h : rightM m = true) : bodyM m = true := by unfold rightM at h; simp only [Bool.and_eq_true] at h; exact h.2
set_option maxRecDepth 20000 in
set_option maxHeartbeats 4000000 in
theorem ms_write_no (m : Ms) (W : World) (hr : rightM m = false) : Calls Tryz.prog 6 #[.agg m.cells.toArray] W fun e W' => e = .returned (.tuple #[.slice none 0 0, .int .i64 3]) ∧ Below W.heap.size W W' := by
  have bA := Blk.new W 55 m.cells.toArray
  have hB0 := Lib.hid ((Below.refl W.heap.size W).alloc (Nat.le_refl _) (.cells m.cells.toArray 55))
  have rx := bA.range
  clear bA
  go_enter Tryz.func6, Tryz.ntmps6
  go_wp2_with (first | (refine wpList_load_midg (by rfl) 55 _ rfl _ _ rfl (Ms.cells ?_) _ ?_ Tryz.underlying55 rfl (msinfo _) ?_; rotate_left; (focus assumption)) | (go_at_call 10; refine (right_any _ _).mono ?_; rintro e W1 ⟨rfl, hb⟩; rw [hr]; have HF := Lib.hid (hB0.out.trans (hb.mono hB0.out.size)); clear hb))
  refine bodyPost_ret (v := .tuple #[.slice none 0 0, .int .i64 3]) (by simp [results, Tryz.results6, go_sem]) rfl ⟨rfl, HF.out⟩
set_option maxRecDepth 20000 in
set_option maxHeartbeats 8000000 in
theorem write_lab (m : Ms) (W : World) (hr : rightM m = true) (ho : Ms.Ok m) (h1 : hl m.k = true) (h2 : hev m.k = false) (h3 : hse m.k = false) (h4 : hst m.k = false) (h5 : hco m.k = false) : Calls Tryz.prog 6 #[.agg m.cells.toArray] W fun e W' => ∃ v, e = .returned (.tuple #[v, .int .i64 0]) ∧ W'.ownsRow W.heap.size 5 1 v (encM m).length (u8s (encM m)) ∧ Below W.heap.size W W' := by
  have bA := Blk.new W 55 m.cells.toArray
  have hB0 := Lib.hid ((Below.refl W.heap.size W).alloc (Nat.le_refl _) (.cells m.cells.toArray 55))
  have rx := bA.range
  have HX := Lib.hid bA
  have HO := Lib.hid ho
  have HBO := Lib.hid (body_of hr)
  have HEN := Lib.hid (show encM m = enc (wordN m.k) ++ encL m.l by unfold encM; rw [h1, h2, h3, h4, h5]; simp)
  have HLE := Lib.hid (And.intro (enc_len _ (wordN_lt m.k)) (And.intro (enc_len _ (wordN_lt m.se)) (And.intro (enc_len _ (wordN_lt m.co)) (And.intro (enc_len _ (wordN_lt m.ca)) (enc_len _ (wordN_lt m.ro))))))
  have wk := wrap_word m.k
  clear bA ho
  go_enter Tryz.func6, Tryz.ntmps6
  go_upto_region 3 with (first | (refine wpList_load_midg (by rfl) 55 _ rfl _ _ rfl (Ms.cells ?_) _ ?_ Tryz.underlying55 rfl (msinfo _) ?_; rotate_left; (focus assumption)) | (go_at_call 10; refine (right_any _ _).mono ?_; rintro e W1 ⟨rfl, hb⟩; rw [hr]; have HB1 := Lib.hid (hB0.out.trans (hb.mono hB0.out.size)); have HX1 := Lib.hid (HX.out.next hb); clear hb rx))
  have hlt1 := HX1.out.lt
  obtain ⟨_, _, _, _, c0, _, _, _, _⟩ := ms_all HX1.out
  clear hr hB0 HX
  refine wp_region_tree (S := (fun w' => w'.cell? ⟨W.heap.size, 0, none⟩ = some (.int .i64 m.k))) (.take 1 (.take 2 (.take 3 (.one 0 (.one 4 (.take 5 .nil)))))) 9999 (by kernel_rfl) (by kernel_rfl) (by kernel_rfl) (by kernel_rfl) (by kernel_rfl) (fun _ _ d _ _ h => by cases d <;> exact h) c0 (fun hHeld => ?_); simp only [Tree.map, List.getElem?_toArray, List.getElem?_cons_zero, List.getElem?_cons_succ]
  (repeat (first | (refine wpTree.take (v := undef) (Or.inr ⟨by rfl, rfl⟩) ?_; simp only [Act.put, List.setIfInBounds_toArray, List.set_cons_zero, List.set_cons_succ]) | (refine wpTree.take (v := ?_) (Or.inl ⟨by rfl, ?_⟩) ?_; rotate_left; (focus (intro _ hS; (try dsimp only at hS); go_split_ands; (try subst hS); go_simp; (try (with_reducible rfl)); done)); simp only [Act.put, List.setIfInBounds_toArray, List.set_cons_zero, List.set_cons_succ])))
  refine wpTree.one (fun K hK => ?_)
  go_simp
  go_at_call 24
  refine (new_any W1.drew).mono ?_
  rintro e w2 ⟨rfl, hw, hb⟩
  obtain ⟨B, hBe⟩ : ∃ B, B = W1.drew.heap.size := ⟨_, rfl⟩
  have hBl : W.heap.size < B := by rw [hBe]; exact hlt1
  have hb2 : Below W1.heap.size W1 w2 := (Below.refl _ _).drew.trans hb
  have HB2 := Lib.hid (HB1.out.trans (hb2.mono HB1.out.size))
  have HX2 := Lib.hid (HX1.out.next hb2)
  rw [← hBe] at hw ⊢
  have HW2 := Lib.hid hw
  have HBL := Lib.hid hBl
  have c02 := (ms_all HX2.out).2.2.2.2.1
  refine hK.out _ _ c02 (fun _ => ?_)
  clear hK K hHeld hw hb hb2 hBe hlt1 c0 hBl HX1 HB1
  (try simp only [Act.put, List.setIfInBounds_toArray, List.set_cons_zero, List.set_cons_succ])
  refine wpTree.one (fun K hK => ?_)
  go_simp
  go_at_call 25
  refine (wnum_any B B (wordN m.k) [] w2 HW2.out (wordN_lt _) (by decide)).mono ?_
  rintro e w3 ⟨rfl, hw, hr⟩
  have HB3 := Lib.hid (HB2.out.trans (hr.1.mono (Nat.le_of_lt HBL.out)))
  have HX3 := Lib.hid (blk_below HX2.out hr.1 HBL.out)
  have HW3 := Lib.hid (show Wtr w3 B B (enc (wordN m.k)) by simpa using hw)
  obtain ⟨_, rl, rx, rs, c0, c1, c2, c3, c4⟩ := ms_all HX3.out
  refine hK.out _ _ c0 (fun _ => ?_)
  clear hK K hw hr c02 HB2 HX2 HW2 wk
  (try simp only [Act.put, List.setIfInBounds_toArray, List.set_cons_zero, List.set_cons_succ])
  (repeat (first | (refine wpTree.take (v := undef) (Or.inr ⟨by rfl, rfl⟩) ?_; simp only [Act.put, List.setIfInBounds_toArray, List.set_cons_zero, List.set_cons_succ]) | (refine wpTree.take (v := ?_) (Or.inl ⟨by rfl, ?_⟩) ?_; rotate_left; (focus (intro _ hS; (try dsimp only at hS); go_split_ands; (try subst hS); go_simp; (try (with_reducible rfl)); done)); simp only [Act.put, List.setIfInBounds_toArray, List.set_cons_zero, List.set_cons_succ])))
  refine wpTree.done ?_
  clear rx rs c1 c2 c3 c4
  have hR : rightL m.l = true := by have := HBO.out; unfold bodyM at this; rw [h1] at this; exact this
  have HLL := Lib.hid (encL_len hR HO.out.l)
  go_wp2_with (first | (go_at_call 26; refine (haslabel_any _ _).mono ?_; rintro e wh ⟨rfl, rfl⟩; rw [h1]) | (go_at_call 28; refine (hasevent_any _ _).mono ?_; rintro e wh ⟨rfl, rfl⟩; rw [h2]) | (go_at_call 30; refine (hasseller_any _ _).mono ?_; rintro e wh ⟨rfl, rfl⟩; rw [h3]) | (go_at_call 31; refine (hasstance_any _ _).mono ?_; rintro e wh ⟨rfl, rfl⟩; rw [h4]) | (go_at_call 33; refine (hascount_any _ _).mono ?_; rintro e wh ⟨rfl, rfl⟩; rw [h5]) | (refine wpList_load_midg (by rfl) 27 _ rfl _ _ rfl (Lab.cells ?_) _ ?_ Tryz.underlying27 rfl (linfo _) ?_; rotate_left; (focus assumption)))
  refine (lput_lab B B m.l (enc (wordN m.k)) w3 HW3.out hR HO.out.l (by (try simp only [List.length_append]); have := HLE.out; omega)).mono ?_
  rintro e w4 ⟨rfl, hw, hr⟩
  have HB4 := Lib.hid (HB3.out.trans (hr.1.mono (Nat.le_of_lt HBL.out)))
  have HX4 := Lib.hid (blk_below HX3.out hr.1 HBL.out)
  have HW4 := Lib.hid hw
  clear hw hr rl c0 HX3 HB3 HW3
  obtain ⟨_, rl, rx, rs, c0, c1, c2, c3, c4⟩ := ms_all HX4.out
  clear rl rx rs c1 c2 c3 c4
  go_wp2_with (first | (go_at_call 26; refine (haslabel_any _ _).mono ?_; rintro e wh ⟨rfl, rfl⟩; rw [h1]) | (go_at_call 28; refine (hasevent_any _ _).mono ?_; rintro e wh ⟨rfl, rfl⟩; rw [h2]) | (go_at_call 30; refine (hasseller_any _ _).mono ?_; rintro e wh ⟨rfl, rfl⟩; rw [h3]) | (go_at_call 31; refine (hasstance_any _ _).mono ?_; rintro e wh ⟨rfl, rfl⟩; rw [h4]) | (go_at_call 33; refine (hascount_any _ _).mono ?_; rintro e wh ⟨rfl, rfl⟩; rw [h5]))
  have hlen : (encM m).length + 16 ≤ 140737488355328 := by rw [HEN.out]; simp only [List.length_append]; have := HLE.out; have := HLL.out; omega
  refine (bytes_any B B (encM m) _ (by rw [HEN.out]; first | exact HW4.out | simpa only [List.append_assoc] using HW4.out) (by omega)).mono ?_
  rintro e w9 ⟨v9, rfl, hown, hb⟩
  have HB9 := Lib.hid (HB4.out.trans (hb.mono HB4.out.size))
  have HO9 := Lib.hid hown
  clear hown hb hlen
  go_wp2_with fail
  refine bodyPost_ret (v := .tuple #[v9, .int .i64 0]) (by simp [results, Tryz.results6, go_sem]) rfl ⟨v9, rfl, own_le HO9.out HB4.out.size, HB9.out⟩
set_option maxRecDepth 20000 in
set_option maxHeartbeats 8000000 in
theorem write_ev (m : Ms) (W : World) (hr : rightM m = true) (ho : Ms.Ok m) (h1 : hl m.k = false) (h2 : hev m.k = true) (h3 : hse m.k = false) (h4 : hst m.k = false) (h5 : hco m.k = false) : Calls Tryz.prog 6 #[.agg m.cells.toArray] W fun e W' => ∃ v, e = .returned (.tuple #[v, .int .i64 0]) ∧ W'.ownsRow W.heap.size 5 1 v (encM m).length (u8s (encM m)) ∧ Below W.heap.size W W' := by
  have bA := Blk.new W 55 m.cells.toArray
  have hB0 := Lib.hid ((Below.refl W.heap.size W).alloc (Nat.le_refl _) (.cells m.cells.toArray 55))
  have rx := bA.range
  have HX := Lib.hid bA
  have HO := Lib.hid ho
  have HBO := Lib.hid (body_of hr)
  have HEN := Lib.hid (show encM m = enc (wordN m.k) ++ encE m.x by unfold encM; rw [h1, h2, h3, h4, h5]; simp)
  have HLE := Lib.hid (And.intro (enc_len _ (wordN_lt m.k)) (And.intro (enc_len _ (wordN_lt m.se)) (And.intro (enc_len _ (wordN_lt m.co)) (And.intro (enc_len _ (wordN_lt m.ca)) (enc_len _ (wordN_lt m.ro))))))
  have wk := wrap_word m.k
  clear bA ho
  go_enter Tryz.func6, Tryz.ntmps6
  go_upto_region 3 with (first | (refine wpList_load_midg (by rfl) 55 _ rfl _ _ rfl (Ms.cells ?_) _ ?_ Tryz.underlying55 rfl (msinfo _) ?_; rotate_left; (focus assumption)) | (go_at_call 10; refine (right_any _ _).mono ?_; rintro e W1 ⟨rfl, hb⟩; rw [hr]; have HB1 := Lib.hid (hB0.out.trans (hb.mono hB0.out.size)); have HX1 := Lib.hid (HX.out.next hb); clear hb rx))
  have hlt1 := HX1.out.lt
  obtain ⟨_, _, _, _, c0, _, _, _, _⟩ := ms_all HX1.out
  clear hr hB0 HX
  refine wp_region_tree (S := (fun w' => w'.cell? ⟨W.heap.size, 0, none⟩ = some (.int .i64 m.k))) (.take 1 (.take 2 (.take 3 (.one 0 (.one 4 (.take 5 .nil)))))) 9999 (by kernel_rfl) (by kernel_rfl) (by kernel_rfl) (by kernel_rfl) (by kernel_rfl) (fun _ _ d _ _ h => by cases d <;> exact h) c0 (fun hHeld => ?_); simp only [Tree.map, List.getElem?_toArray, List.getElem?_cons_zero, List.getElem?_cons_succ]
  (repeat (first | (refine wpTree.take (v := undef) (Or.inr ⟨by rfl, rfl⟩) ?_; simp only [Act.put, List.setIfInBounds_toArray, List.set_cons_zero, List.set_cons_succ]) | (refine wpTree.take (v := ?_) (Or.inl ⟨by rfl, ?_⟩) ?_; rotate_left; (focus (intro _ hS; (try dsimp only at hS); go_split_ands; (try subst hS); go_simp; (try (with_reducible rfl)); done)); simp only [Act.put, List.setIfInBounds_toArray, List.set_cons_zero, List.set_cons_succ])))
  refine wpTree.one (fun K hK => ?_)
  go_simp
  go_at_call 24
  refine (new_any W1.drew).mono ?_
  rintro e w2 ⟨rfl, hw, hb⟩
  obtain ⟨B, hBe⟩ : ∃ B, B = W1.drew.heap.size := ⟨_, rfl⟩
  have hBl : W.heap.size < B := by rw [hBe]; exact hlt1
  have hb2 : Below W1.heap.size W1 w2 := (Below.refl _ _).drew.trans hb
  have HB2 := Lib.hid (HB1.out.trans (hb2.mono HB1.out.size))
  have HX2 := Lib.hid (HX1.out.next hb2)
  rw [← hBe] at hw ⊢
  have HW2 := Lib.hid hw
  have HBL := Lib.hid hBl
  have c02 := (ms_all HX2.out).2.2.2.2.1
  refine hK.out _ _ c02 (fun _ => ?_)
  clear hK K hHeld hw hb hb2 hBe hlt1 c0 hBl HX1 HB1
  (try simp only [Act.put, List.setIfInBounds_toArray, List.set_cons_zero, List.set_cons_succ])
  refine wpTree.one (fun K hK => ?_)
  go_simp
  go_at_call 25
  refine (wnum_any B B (wordN m.k) [] w2 HW2.out (wordN_lt _) (by decide)).mono ?_
  rintro e w3 ⟨rfl, hw, hr⟩
  have HB3 := Lib.hid (HB2.out.trans (hr.1.mono (Nat.le_of_lt HBL.out)))
  have HX3 := Lib.hid (blk_below HX2.out hr.1 HBL.out)
  have HW3 := Lib.hid (show Wtr w3 B B (enc (wordN m.k)) by simpa using hw)
  obtain ⟨_, rl, rx, rs, c0, c1, c2, c3, c4⟩ := ms_all HX3.out
  refine hK.out _ _ c0 (fun _ => ?_)
  clear hK K hw hr c02 HB2 HX2 HW2 wk
  (try simp only [Act.put, List.setIfInBounds_toArray, List.set_cons_zero, List.set_cons_succ])
  (repeat (first | (refine wpTree.take (v := undef) (Or.inr ⟨by rfl, rfl⟩) ?_; simp only [Act.put, List.setIfInBounds_toArray, List.set_cons_zero, List.set_cons_succ]) | (refine wpTree.take (v := ?_) (Or.inl ⟨by rfl, ?_⟩) ?_; rotate_left; (focus (intro _ hS; (try dsimp only at hS); go_split_ands; (try subst hS); go_simp; (try (with_reducible rfl)); done)); simp only [Act.put, List.setIfInBounds_toArray, List.set_cons_zero, List.set_cons_succ])))
  refine wpTree.done ?_
  clear rl rs c1 c2 c3 c4
  have hR : rightE m.x = true := by have := HBO.out; unfold bodyM at this; rw [h1, h2] at this; exact this
  have HLL := Lib.hid (show (encE m.x).length ≤ 300 by unfold encE; rw [List.length_append]; have := encL_len (rightE_parts hR).1 HO.out.x; have := encO_len (may_ok (rightE_parts hR).2 HO.out.p); omega)
  go_wp2_with (first | (go_at_call 26; refine (haslabel_any _ _).mono ?_; rintro e wh ⟨rfl, rfl⟩; rw [h1]) | (go_at_call 28; refine (hasevent_any _ _).mono ?_; rintro e wh ⟨rfl, rfl⟩; rw [h2]) | (go_at_call 30; refine (hasseller_any _ _).mono ?_; rintro e wh ⟨rfl, rfl⟩; rw [h3]) | (go_at_call 31; refine (hasstance_any _ _).mono ?_; rintro e wh ⟨rfl, rfl⟩; rw [h4]) | (go_at_call 33; refine (hascount_any _ _).mono ?_; rintro e wh ⟨rfl, rfl⟩; rw [h5]) | (refine wpList_load_midg (by rfl) 53 _ rfl _ _ rfl (Ev.cells ?_) _ ?_ Tryz.underlying53 rfl (einfo _) ?_; rotate_left; (focus assumption)))
  refine (evput_any B B m.x (enc (wordN m.k)) w3 HW3.out hR HO.out.x HO.out.p (by (try simp only [List.length_append]); have := HLE.out; omega)).mono ?_
  rintro e w4 ⟨rfl, hw, hr⟩
  have HB4 := Lib.hid (HB3.out.trans (hr.1.mono (Nat.le_of_lt HBL.out)))
  have HX4 := Lib.hid (blk_below HX3.out hr.1 HBL.out)
  have HW4 := Lib.hid hw
  clear hw hr rx c0 HX3 HB3 HW3
  obtain ⟨_, rl, rx, rs, c0, c1, c2, c3, c4⟩ := ms_all HX4.out
  clear rl rx rs c1 c2 c3 c4
  go_wp2_with (first | (go_at_call 26; refine (haslabel_any _ _).mono ?_; rintro e wh ⟨rfl, rfl⟩; rw [h1]) | (go_at_call 28; refine (hasevent_any _ _).mono ?_; rintro e wh ⟨rfl, rfl⟩; rw [h2]) | (go_at_call 30; refine (hasseller_any _ _).mono ?_; rintro e wh ⟨rfl, rfl⟩; rw [h3]) | (go_at_call 31; refine (hasstance_any _ _).mono ?_; rintro e wh ⟨rfl, rfl⟩; rw [h4]) | (go_at_call 33; refine (hascount_any _ _).mono ?_; rintro e wh ⟨rfl, rfl⟩; rw [h5]))
  have hlen : (encM m).length + 16 ≤ 140737488355328 := by rw [HEN.out]; simp only [List.length_append]; have := HLE.out; have := HLL.out; omega
  refine (bytes_any B B (encM m) _ (by rw [HEN.out]; first | exact HW4.out | simpa only [List.append_assoc] using HW4.out) (by omega)).mono ?_
  rintro e w9 ⟨v9, rfl, hown, hb⟩
  have HB9 := Lib.hid (HB4.out.trans (hb.mono HB4.out.size))
  have HO9 := Lib.hid hown
  clear hown hb hlen
  go_wp2_with fail
  refine bodyPost_ret (v := .tuple #[v9, .int .i64 0]) (by simp [results, Tryz.results6, go_sem]) rfl ⟨v9, rfl, own_le HO9.out HB4.out.size, HB9.out⟩
set_option maxRecDepth 20000 in
set_option maxHeartbeats 8000000 in
theorem write_sel (m : Ms) (W : World) (hr : rightM m = true) (ho : Ms.Ok m) (h1 : hl m.k = false) (h2 : hev m.k = false) (h3 : hse m.k = true) (h4 : hst m.k = false) (h5 : hco m.k = false) : Calls Tryz.prog 6 #[.agg m.cells.toArray] W fun e W' => ∃ v, e = .returned (.tuple #[v, .int .i64 0]) ∧ W'.ownsRow W.heap.size 5 1 v (encM m).length (u8s (encM m)) ∧ Below W.heap.size W W' := by
  have bA := Blk.new W 55 m.cells.toArray
  have hB0 := Lib.hid ((Below.refl W.heap.size W).alloc (Nat.le_refl _) (.cells m.cells.toArray 55))
  have rx := bA.range
  have HX := Lib.hid bA
  have HO := Lib.hid ho
  have HBO := Lib.hid (body_of hr)
  have HEN := Lib.hid (show encM m = enc (wordN m.k) ++ enc (wordN m.se) by unfold encM; rw [h1, h2, h3, h4, h5]; simp)
  have HLE := Lib.hid (And.intro (enc_len _ (wordN_lt m.k)) (And.intro (enc_len _ (wordN_lt m.se)) (And.intro (enc_len _ (wordN_lt m.co)) (And.intro (enc_len _ (wordN_lt m.ca)) (enc_len _ (wordN_lt m.ro))))))
  have wk := wrap_word m.k
  clear bA ho
  go_enter Tryz.func6, Tryz.ntmps6
  go_upto_region 3 with (first | (refine wpList_load_midg (by rfl) 55 _ rfl _ _ rfl (Ms.cells ?_) _ ?_ Tryz.underlying55 rfl (msinfo _) ?_; rotate_left; (focus assumption)) | (go_at_call 10; refine (right_any _ _).mono ?_; rintro e W1 ⟨rfl, hb⟩; rw [hr]; have HB1 := Lib.hid (hB0.out.trans (hb.mono hB0.out.size)); have HX1 := Lib.hid (HX.out.next hb); clear hb rx))
  have hlt1 := HX1.out.lt
  obtain ⟨_, _, _, _, c0, _, _, _, _⟩ := ms_all HX1.out
  clear hr hB0 HX
  refine wp_region_tree (S := (fun w' => w'.cell? ⟨W.heap.size, 0, none⟩ = some (.int .i64 m.k))) (.take 1 (.take 2 (.take 3 (.one 0 (.one 4 (.take 5 .nil)))))) 9999 (by kernel_rfl) (by kernel_rfl) (by kernel_rfl) (by kernel_rfl) (by kernel_rfl) (fun _ _ d _ _ h => by cases d <;> exact h) c0 (fun hHeld => ?_); simp only [Tree.map, List.getElem?_toArray, List.getElem?_cons_zero, List.getElem?_cons_succ]
  (repeat (first | (refine wpTree.take (v := undef) (Or.inr ⟨by rfl, rfl⟩) ?_; simp only [Act.put, List.setIfInBounds_toArray, List.set_cons_zero, List.set_cons_succ]) | (refine wpTree.take (v := ?_) (Or.inl ⟨by rfl, ?_⟩) ?_; rotate_left; (focus (intro _ hS; (try dsimp only at hS); go_split_ands; (try subst hS); go_simp; (try (with_reducible rfl)); done)); simp only [Act.put, List.setIfInBounds_toArray, List.set_cons_zero, List.set_cons_succ])))
  refine wpTree.one (fun K hK => ?_)
  go_simp
  go_at_call 24
  refine (new_any W1.drew).mono ?_
  rintro e w2 ⟨rfl, hw, hb⟩
  obtain ⟨B, hBe⟩ : ∃ B, B = W1.drew.heap.size := ⟨_, rfl⟩
  have hBl : W.heap.size < B := by rw [hBe]; exact hlt1
  have hb2 : Below W1.heap.size W1 w2 := (Below.refl _ _).drew.trans hb
  have HB2 := Lib.hid (HB1.out.trans (hb2.mono HB1.out.size))
  have HX2 := Lib.hid (HX1.out.next hb2)
  rw [← hBe] at hw ⊢
  have HW2 := Lib.hid hw
  have HBL := Lib.hid hBl
  have c02 := (ms_all HX2.out).2.2.2.2.1
  refine hK.out _ _ c02 (fun _ => ?_)
  clear hK K hHeld hw hb hb2 hBe hlt1 c0 hBl HX1 HB1
  (try simp only [Act.put, List.setIfInBounds_toArray, List.set_cons_zero, List.set_cons_succ])
  refine wpTree.one (fun K hK => ?_)
  go_simp
  go_at_call 25
  refine (wnum_any B B (wordN m.k) [] w2 HW2.out (wordN_lt _) (by decide)).mono ?_
  rintro e w3 ⟨rfl, hw, hr⟩
  have HB3 := Lib.hid (HB2.out.trans (hr.1.mono (Nat.le_of_lt HBL.out)))
  have HX3 := Lib.hid (blk_below HX2.out hr.1 HBL.out)
  have HW3 := Lib.hid (show Wtr w3 B B (enc (wordN m.k)) by simpa using hw)
  obtain ⟨_, rl, rx, rs, c0, c1, c2, c3, c4⟩ := ms_all HX3.out
  refine hK.out _ _ c0 (fun _ => ?_)
  clear hK K hw hr c02 HB2 HX2 HW2 wk
  (try simp only [Act.put, List.setIfInBounds_toArray, List.set_cons_zero, List.set_cons_succ])
  (repeat (first | (refine wpTree.take (v := undef) (Or.inr ⟨by rfl, rfl⟩) ?_; simp only [Act.put, List.setIfInBounds_toArray, List.set_cons_zero, List.set_cons_succ]) | (refine wpTree.take (v := ?_) (Or.inl ⟨by rfl, ?_⟩) ?_; rotate_left; (focus (intro _ hS; (try dsimp only at hS); go_split_ands; (try subst hS); go_simp; (try (with_reducible rfl)); done)); simp only [Act.put, List.setIfInBounds_toArray, List.set_cons_zero, List.set_cons_succ])))
  refine wpTree.done ?_
  clear rl rx rs c2 c3 c4
  have ws := wrap_word m.se
  go_wp2_with (first | (go_at_call 26; refine (haslabel_any _ _).mono ?_; rintro e wh ⟨rfl, rfl⟩; rw [h1]) | (go_at_call 28; refine (hasevent_any _ _).mono ?_; rintro e wh ⟨rfl, rfl⟩; rw [h2]) | (go_at_call 30; refine (hasseller_any _ _).mono ?_; rintro e wh ⟨rfl, rfl⟩; rw [h3]) | (go_at_call 31; refine (hasstance_any _ _).mono ?_; rintro e wh ⟨rfl, rfl⟩; rw [h4]) | (go_at_call 33; refine (hascount_any _ _).mono ?_; rintro e wh ⟨rfl, rfl⟩; rw [h5]))
  refine (wnum_any B B (wordN m.se) (enc (wordN m.k)) w3 HW3.out (wordN_lt _) (by (try simp only [List.length_append]); have := HLE.out; omega)).mono ?_
  rintro e w4 ⟨rfl, hw, hr⟩
  have HB4 := Lib.hid (HB3.out.trans (hr.1.mono (Nat.le_of_lt HBL.out)))
  have HX4 := Lib.hid (blk_below HX3.out hr.1 HBL.out)
  have HW4 := Lib.hid hw
  clear hw hr c1 c0 ws HX3 HB3 HW3
  obtain ⟨_, rl, rx, rs, c0, c1, c2, c3, c4⟩ := ms_all HX4.out
  clear rl rx rs c1 c2 c3 c4
  go_wp2_with (first | (go_at_call 26; refine (haslabel_any _ _).mono ?_; rintro e wh ⟨rfl, rfl⟩; rw [h1]) | (go_at_call 28; refine (hasevent_any _ _).mono ?_; rintro e wh ⟨rfl, rfl⟩; rw [h2]) | (go_at_call 30; refine (hasseller_any _ _).mono ?_; rintro e wh ⟨rfl, rfl⟩; rw [h3]) | (go_at_call 31; refine (hasstance_any _ _).mono ?_; rintro e wh ⟨rfl, rfl⟩; rw [h4]) | (go_at_call 33; refine (hascount_any _ _).mono ?_; rintro e wh ⟨rfl, rfl⟩; rw [h5]))
  have hlen : (encM m).length + 16 ≤ 140737488355328 := by rw [HEN.out]; simp only [List.length_append]; have := HLE.out; omega
  refine (bytes_any B B (encM m) _ (by rw [HEN.out]; first | exact HW4.out | simpa only [List.append_assoc] using HW4.out) (by omega)).mono ?_
  rintro e w9 ⟨v9, rfl, hown, hb⟩
  have HB9 := Lib.hid (HB4.out.trans (hb.mono HB4.out.size))
  have HO9 := Lib.hid hown
  clear hown hb hlen
  go_wp2_with fail
  refine bodyPost_ret (v := .tuple #[v9, .int .i64 0]) (by simp [results, Tryz.results6, go_sem]) rfl ⟨v9, rfl, own_le HO9.out HB4.out.size, HB9.out⟩
set_option maxRecDepth 20000 in
set_option maxHeartbeats 8000000 in
theorem write_en (m : Ms) (W : World) (hr : rightM m = true) (ho : Ms.Ok m) (h1 : hl m.k = false) (h2 : hev m.k = false) (h3 : hse m.k = true) (h4 : hst m.k = false) (h5 : hco m.k = true) : Calls Tryz.prog 6 #[.agg m.cells.toArray] W fun e W' => ∃ v, e = .returned (.tuple #[v, .int .i64 0]) ∧ W'.ownsRow W.heap.size 5 1 v (encM m).length (u8s (encM m)) ∧ Below W.heap.size W W' := by
  have bA := Blk.new W 55 m.cells.toArray
  have hB0 := Lib.hid ((Below.refl W.heap.size W).alloc (Nat.le_refl _) (.cells m.cells.toArray 55))
  have rx := bA.range
  have HX := Lib.hid bA
  have HO := Lib.hid ho
  have HBO := Lib.hid (body_of hr)
  have HEN := Lib.hid (show encM m = enc (wordN m.k) ++ (enc (wordN m.se) ++ enc (wordN m.co)) by unfold encM; rw [h1, h2, h3, h4, h5]; simp)
  have HLE := Lib.hid (And.intro (enc_len _ (wordN_lt m.k)) (And.intro (enc_len _ (wordN_lt m.se)) (And.intro (enc_len _ (wordN_lt m.co)) (And.intro (enc_len _ (wordN_lt m.ca)) (enc_len _ (wordN_lt m.ro))))))
  have wk := wrap_word m.k
  clear bA ho
  go_enter Tryz.func6, Tryz.ntmps6
  go_upto_region 3 with (first | (refine wpList_load_midg (by rfl) 55 _ rfl _ _ rfl (Ms.cells ?_) _ ?_ Tryz.underlying55 rfl (msinfo _) ?_; rotate_left; (focus assumption)) | (go_at_call 10; refine (right_any _ _).mono ?_; rintro e W1 ⟨rfl, hb⟩; rw [hr]; have HB1 := Lib.hid (hB0.out.trans (hb.mono hB0.out.size)); have HX1 := Lib.hid (HX.out.next hb); clear hb rx))
  have hlt1 := HX1.out.lt
  obtain ⟨_, _, _, _, c0, _, _, _, _⟩ := ms_all HX1.out
  clear hr hB0 HX
  refine wp_region_tree (S := (fun w' => w'.cell? ⟨W.heap.size, 0, none⟩ = some (.int .i64 m.k))) (.take 1 (.take 2 (.take 3 (.one 0 (.one 4 (.take 5 .nil)))))) 9999 (by kernel_rfl) (by kernel_rfl) (by kernel_rfl) (by kernel_rfl) (by kernel_rfl) (fun _ _ d _ _ h => by cases d <;> exact h) c0 (fun hHeld => ?_); simp only [Tree.map, List.getElem?_toArray, List.getElem?_cons_zero, List.getElem?_cons_succ]
  (repeat (first | (refine wpTree.take (v := undef) (Or.inr ⟨by rfl, rfl⟩) ?_; simp only [Act.put, List.setIfInBounds_toArray, List.set_cons_zero, List.set_cons_succ]) | (refine wpTree.take (v := ?_) (Or.inl ⟨by rfl, ?_⟩) ?_; rotate_left; (focus (intro _ hS; (try dsimp only at hS); go_split_ands; (try subst hS); go_simp; (try (with_reducible rfl)); done)); simp only [Act.put, List.setIfInBounds_toArray, List.set_cons_zero, List.set_cons_succ])))
  refine wpTree.one (fun K hK => ?_)
  go_simp
  go_at_call 24
  refine (new_any W1.drew).mono ?_
  rintro e w2 ⟨rfl, hw, hb⟩
  obtain ⟨B, hBe⟩ : ∃ B, B = W1.drew.heap.size := ⟨_, rfl⟩
  have hBl : W.heap.size < B := by rw [hBe]; exact hlt1
  have hb2 : Below W1.heap.size W1 w2 := (Below.refl _ _).drew.trans hb
  have HB2 := Lib.hid (HB1.out.trans (hb2.mono HB1.out.size))
  have HX2 := Lib.hid (HX1.out.next hb2)
  rw [← hBe] at hw ⊢
  have HW2 := Lib.hid hw
  have HBL := Lib.hid hBl
  have c02 := (ms_all HX2.out).2.2.2.2.1
  refine hK.out _ _ c02 (fun _ => ?_)
  clear hK K hHeld hw hb hb2 hBe hlt1 c0 hBl HX1 HB1
  (try simp only [Act.put, List.setIfInBounds_toArray, List.set_cons_zero, List.set_cons_succ])
  refine wpTree.one (fun K hK => ?_)
  go_simp
  go_at_call 25
  refine (wnum_any B B (wordN m.k) [] w2 HW2.out (wordN_lt _) (by decide)).mono ?_
  rintro e w3 ⟨rfl, hw, hr⟩
  have HB3 := Lib.hid (HB2.out.trans (hr.1.mono (Nat.le_of_lt HBL.out)))
  have HX3 := Lib.hid (blk_below HX2.out hr.1 HBL.out)
  have HW3 := Lib.hid (show Wtr w3 B B (enc (wordN m.k)) by simpa using hw)
  obtain ⟨_, rl, rx, rs, c0, c1, c2, c3, c4⟩ := ms_all HX3.out
  refine hK.out _ _ c0 (fun _ => ?_)
  clear hK K hw hr c02 HB2 HX2 HW2 wk
  (try simp only [Act.put, List.setIfInBounds_toArray, List.set_cons_zero, List.set_cons_succ])
  (repeat (first | (refine wpTree.take (v := undef) (Or.inr ⟨by rfl, rfl⟩) ?_; simp only [Act.put, List.setIfInBounds_toArray, List.set_cons_zero, List.set_cons_succ]) | (refine wpTree.take (v := ?_) (Or.inl ⟨by rfl, ?_⟩) ?_; rotate_left; (focus (intro _ hS; (try dsimp only at hS); go_split_ands; (try subst hS); go_simp; (try (with_reducible rfl)); done)); simp only [Act.put, List.setIfInBounds_toArray, List.set_cons_zero, List.set_cons_succ])))
  refine wpTree.done ?_
  clear rl rx rs c2 c3 c4
  have ws := wrap_word m.se
  go_wp2_with (first | (go_at_call 26; refine (haslabel_any _ _).mono ?_; rintro e wh ⟨rfl, rfl⟩; rw [h1]) | (go_at_call 28; refine (hasevent_any _ _).mono ?_; rintro e wh ⟨rfl, rfl⟩; rw [h2]) | (go_at_call 30; refine (hasseller_any _ _).mono ?_; rintro e wh ⟨rfl, rfl⟩; rw [h3]) | (go_at_call 31; refine (hasstance_any _ _).mono ?_; rintro e wh ⟨rfl, rfl⟩; rw [h4]) | (go_at_call 33; refine (hascount_any _ _).mono ?_; rintro e wh ⟨rfl, rfl⟩; rw [h5]))
  refine (wnum_any B B (wordN m.se) (enc (wordN m.k)) w3 HW3.out (wordN_lt _) (by (try simp only [List.length_append]); have := HLE.out; omega)).mono ?_
  rintro e w4 ⟨rfl, hw, hr⟩
  have HB4 := Lib.hid (HB3.out.trans (hr.1.mono (Nat.le_of_lt HBL.out)))
  have HX4 := Lib.hid (blk_below HX3.out hr.1 HBL.out)
  have HW4 := Lib.hid hw
  clear hw hr c1 c0 ws HX3 HB3 HW3
  obtain ⟨_, rl, rx, rs, c0, c1, c2, c3, c4⟩ := ms_all HX4.out
  clear rl rx rs c1 c3 c4
  have ws := wrap_word m.co
  go_wp2_with (first | (go_at_call 26; refine (haslabel_any _ _).mono ?_; rintro e wh ⟨rfl, rfl⟩; rw [h1]) | (go_at_call 28; refine (hasevent_any _ _).mono ?_; rintro e wh ⟨rfl, rfl⟩; rw [h2]) | (go_at_call 30; refine (hasseller_any _ _).mono ?_; rintro e wh ⟨rfl, rfl⟩; rw [h3]) | (go_at_call 31; refine (hasstance_any _ _).mono ?_; rintro e wh ⟨rfl, rfl⟩; rw [h4]) | (go_at_call 33; refine (hascount_any _ _).mono ?_; rintro e wh ⟨rfl, rfl⟩; rw [h5]))
  refine (wnum_any B B (wordN m.co) (enc (wordN m.k) ++ enc (wordN m.se)) w4 HW4.out (wordN_lt _) (by (try simp only [List.length_append]); have := HLE.out; omega)).mono ?_
  rintro e w5 ⟨rfl, hw, hr⟩
  have HB5 := Lib.hid (HB4.out.trans (hr.1.mono (Nat.le_of_lt HBL.out)))
  have HX5 := Lib.hid (blk_below HX4.out hr.1 HBL.out)
  have HW5 := Lib.hid hw
  clear hw hr c2 c0 ws HX4 HB4 HW4
  obtain ⟨_, rl, rx, rs, c0, c1, c2, c3, c4⟩ := ms_all HX5.out
  clear rl rx rs c1 c2 c3 c4
  go_wp2_with (first | (go_at_call 26; refine (haslabel_any _ _).mono ?_; rintro e wh ⟨rfl, rfl⟩; rw [h1]) | (go_at_call 28; refine (hasevent_any _ _).mono ?_; rintro e wh ⟨rfl, rfl⟩; rw [h2]) | (go_at_call 30; refine (hasseller_any _ _).mono ?_; rintro e wh ⟨rfl, rfl⟩; rw [h3]) | (go_at_call 31; refine (hasstance_any _ _).mono ?_; rintro e wh ⟨rfl, rfl⟩; rw [h4]) | (go_at_call 33; refine (hascount_any _ _).mono ?_; rintro e wh ⟨rfl, rfl⟩; rw [h5]))
  have hlen : (encM m).length + 16 ≤ 140737488355328 := by rw [HEN.out]; simp only [List.length_append]; have := HLE.out; omega
  refine (bytes_any B B (encM m) _ (by rw [HEN.out]; first | exact HW5.out | simpa only [List.append_assoc] using HW5.out) (by omega)).mono ?_
  rintro e w9 ⟨v9, rfl, hown, hb⟩
  have HB9 := Lib.hid (HB5.out.trans (hb.mono HB5.out.size))
  have HO9 := Lib.hid hown
  clear hown hb hlen
  go_wp2_with fail
  refine bodyPost_ret (v := .tuple #[v9, .int .i64 0]) (by simp [results, Tryz.results6, go_sem]) rfl ⟨v9, rfl, own_le HO9.out HB5.out.size, HB9.out⟩
set_option maxRecDepth 20000 in
set_option maxHeartbeats 8000000 in
theorem write_st (m : Ms) (W : World) (hr : rightM m = true) (ho : Ms.Ok m) (h1 : hl m.k = false) (h2 : hev m.k = false) (h3 : hse m.k = false) (h4 : hst m.k = true) (h5 : hco m.k = false) : Calls Tryz.prog 6 #[.agg m.cells.toArray] W fun e W' => ∃ v, e = .returned (.tuple #[v, .int .i64 0]) ∧ W'.ownsRow W.heap.size 5 1 v (encM m).length (u8s (encM m)) ∧ Below W.heap.size W W' := by
  have bA := Blk.new W 55 m.cells.toArray
  have hB0 := Lib.hid ((Below.refl W.heap.size W).alloc (Nat.le_refl _) (.cells m.cells.toArray 55))
  have rx := bA.range
  have HX := Lib.hid bA
  have HO := Lib.hid ho
  have HBO := Lib.hid (body_of hr)
  have HEN := Lib.hid (show encM m = enc (wordN m.k) ++ (enc (wordN m.ca) ++ (enc (wordN m.ro) ++ encSt m.s)) by unfold encM; rw [h1, h2, h3, h4, h5]; simp)
  have HLE := Lib.hid (And.intro (enc_len _ (wordN_lt m.k)) (And.intro (enc_len _ (wordN_lt m.se)) (And.intro (enc_len _ (wordN_lt m.co)) (And.intro (enc_len _ (wordN_lt m.ca)) (enc_len _ (wordN_lt m.ro))))))
  have wk := wrap_word m.k
  clear bA ho
  go_enter Tryz.func6, Tryz.ntmps6
  go_upto_region 3 with (first | (refine wpList_load_midg (by rfl) 55 _ rfl _ _ rfl (Ms.cells ?_) _ ?_ Tryz.underlying55 rfl (msinfo _) ?_; rotate_left; (focus assumption)) | (go_at_call 10; refine (right_any _ _).mono ?_; rintro e W1 ⟨rfl, hb⟩; rw [hr]; have HB1 := Lib.hid (hB0.out.trans (hb.mono hB0.out.size)); have HX1 := Lib.hid (HX.out.next hb); clear hb rx))
  have hlt1 := HX1.out.lt
  obtain ⟨_, _, _, _, c0, _, _, _, _⟩ := ms_all HX1.out
  clear hr hB0 HX
  refine wp_region_tree (S := (fun w' => w'.cell? ⟨W.heap.size, 0, none⟩ = some (.int .i64 m.k))) (.take 1 (.take 2 (.take 3 (.one 0 (.one 4 (.take 5 .nil)))))) 9999 (by kernel_rfl) (by kernel_rfl) (by kernel_rfl) (by kernel_rfl) (by kernel_rfl) (fun _ _ d _ _ h => by cases d <;> exact h) c0 (fun hHeld => ?_); simp only [Tree.map, List.getElem?_toArray, List.getElem?_cons_zero, List.getElem?_cons_succ]
  (repeat (first | (refine wpTree.take (v := undef) (Or.inr ⟨by rfl, rfl⟩) ?_; simp only [Act.put, List.setIfInBounds_toArray, List.set_cons_zero, List.set_cons_succ]) | (refine wpTree.take (v := ?_) (Or.inl ⟨by rfl, ?_⟩) ?_; rotate_left; (focus (intro _ hS; (try dsimp only at hS); go_split_ands; (try subst hS); go_simp; (try (with_reducible rfl)); done)); simp only [Act.put, List.setIfInBounds_toArray, List.set_cons_zero, List.set_cons_succ])))
  refine wpTree.one (fun K hK => ?_)
  go_simp
  go_at_call 24
  refine (new_any W1.drew).mono ?_
  rintro e w2 ⟨rfl, hw, hb⟩
  obtain ⟨B, hBe⟩ : ∃ B, B = W1.drew.heap.size := ⟨_, rfl⟩
  have hBl : W.heap.size < B := by rw [hBe]; exact hlt1
  have hb2 : Below W1.heap.size W1 w2 := (Below.refl _ _).drew.trans hb
  have HB2 := Lib.hid (HB1.out.trans (hb2.mono HB1.out.size))
  have HX2 := Lib.hid (HX1.out.next hb2)
  rw [← hBe] at hw ⊢
  have HW2 := Lib.hid hw
  have HBL := Lib.hid hBl
  have c02 := (ms_all HX2.out).2.2.2.2.1
  refine hK.out _ _ c02 (fun _ => ?_)
  clear hK K hHeld hw hb hb2 hBe hlt1 c0 hBl HX1 HB1
  (try simp only [Act.put, List.setIfInBounds_toArray, List.set_cons_zero, List.set_cons_succ])
  refine wpTree.one (fun K hK => ?_)
  go_simp
  go_at_call 25
  refine (wnum_any B B (wordN m.k) [] w2 HW2.out (wordN_lt _) (by decide)).mono ?_
  rintro e w3 ⟨rfl, hw, hr⟩
  have HB3 := Lib.hid (HB2.out.trans (hr.1.mono (Nat.le_of_lt HBL.out)))
  have HX3 := Lib.hid (blk_below HX2.out hr.1 HBL.out)
  have HW3 := Lib.hid (show Wtr w3 B B (enc (wordN m.k)) by simpa using hw)
  obtain ⟨_, rl, rx, rs, c0, c1, c2, c3, c4⟩ := ms_all HX3.out
  refine hK.out _ _ c0 (fun _ => ?_)
  clear hK K hw hr c02 HB2 HX2 HW2 wk
  (try simp only [Act.put, List.setIfInBounds_toArray, List.set_cons_zero, List.set_cons_succ])
  (repeat (first | (refine wpTree.take (v := undef) (Or.inr ⟨by rfl, rfl⟩) ?_; simp only [Act.put, List.setIfInBounds_toArray, List.set_cons_zero, List.set_cons_succ]) | (refine wpTree.take (v := ?_) (Or.inl ⟨by rfl, ?_⟩) ?_; rotate_left; (focus (intro _ hS; (try dsimp only at hS); go_split_ands; (try subst hS); go_simp; (try (with_reducible rfl)); done)); simp only [Act.put, List.setIfInBounds_toArray, List.set_cons_zero, List.set_cons_succ])))
  refine wpTree.done ?_
  clear rl rx c1 c2
  have wc := wrap_word m.ca
  have wr := wrap_word m.ro
  go_upto_region 11 with (first | (go_at_call 26; refine (haslabel_any _ _).mono ?_; rintro e wh ⟨rfl, rfl⟩; rw [h1]) | (go_at_call 28; refine (hasevent_any _ _).mono ?_; rintro e wh ⟨rfl, rfl⟩; rw [h2]) | (go_at_call 30; refine (hasseller_any _ _).mono ?_; rintro e wh ⟨rfl, rfl⟩; rw [h3]) | (go_at_call 31; refine (hasstance_any _ _).mono ?_; rintro e wh ⟨rfl, rfl⟩; rw [h4]) | (go_at_call 33; refine (hascount_any _ _).mono ?_; rintro e wh ⟨rfl, rfl⟩; rw [h5]))
  clear c0
  refine wp_region_tree (S := (fun w' => w'.cell? ⟨W.heap.size, 3, none⟩ = some (.int .i64 m.ca) ∧ w'.cell? ⟨W.heap.size, 4, none⟩ = some (.int .i64 m.ro) ∧ w'.rangeAt W.heap.size 43 m.s.cells)) (.take 0 (.take 1 (.take 2 (.take 3 (.take 5 (.take 6 (.take 7 (.take 9 (.take 10 (.one 4 (.one 8 (.one 11 .nil)))))))))))) 9999 (by kernel_rfl) (by kernel_rfl) (by kernel_rfl) (by kernel_rfl) (by kernel_rfl) (fun _ _ d _ _ h => by cases d <;> exact h) ⟨c3, c4, rs⟩ (fun hHeld => ?_); simp only [Tree.map, List.getElem?_toArray, List.getElem?_cons_zero, List.getElem?_cons_succ]
  (repeat (first | (refine wpTree.take (v := undef) (Or.inr ⟨by rfl, rfl⟩) ?_; simp only [Act.put, List.setIfInBounds_toArray, List.set_cons_zero, List.set_cons_succ]) | (refine wpTree.take (v := .agg (St.cells ?_).toArray) (yieldsIf_load_mid rfl 33 _ rfl _ _ rfl (St.cells _) _ ?_ Tryz.underlying33 rfl (stinfo _)) ?_; rotate_left; (focus (intro _ hS; exact hS.2.2)); simp only [Act.put, List.setIfInBounds_toArray, List.set_cons_zero, List.set_cons_succ]) | (refine wpTree.take (v := ?_) (Or.inl ⟨by rfl, ?_⟩) ?_; rotate_left; (focus (intro _ hS; (try dsimp only at hS); go_split_ands; (try subst hS); go_simp; (try (with_reducible rfl)); done)); simp only [Act.put, List.setIfInBounds_toArray, List.set_cons_zero, List.set_cons_succ])))
  clear hHeld c3 c4 rs wc wr
  have HB3 := Lib.hid HB3.out.drew
  refine wpTree.one (fun K hK => ?_)
  go_simp
  go_at_call 25
  refine (wnum_any B B (wordN m.ca) (enc (wordN m.k)) w3.drew HW3.out (wordN_lt _) (by (try simp only [List.length_append]); have := HLE.out; omega)).mono ?_
  rintro e w4 ⟨rfl, hw, hr⟩
  have HB4 := Lib.hid ((show Below W.heap.size W w3.drew from HB3.out).trans (hr.1.mono (Nat.le_of_lt HBL.out)))
  have HX4 := Lib.hid (blk_below (show Blk w3.drew W.heap.size 55 m.cells.toArray from HX3.out) hr.1 HBL.out)
  have HW4 := Lib.hid hw
  clear hw hr HX3 HB3 HW3
  obtain ⟨_, rl, rx, rs, c0, c1, c2, c3, c4⟩ := ms_all HX4.out
  refine hK.out _ _ ⟨c3, c4, rs⟩ (fun _ => ?_)
  clear hK K rl rx rs c0 c1 c2 c3 c4
  (try simp only [Act.put, List.setIfInBounds_toArray, List.set_cons_zero, List.set_cons_succ])
  refine wpTree.one (fun K hK => ?_)
  go_simp
  go_at_call 25
  refine (wnum_any B B (wordN m.ro) (enc (wordN m.k) ++ enc (wordN m.ca)) w4 HW4.out (wordN_lt _) (by (try simp only [List.length_append]); have := HLE.out; omega)).mono ?_
  rintro e w5 ⟨rfl, hw, hr⟩
  have HB5 := Lib.hid ((show Below W.heap.size W w4 from HB4.out).trans (hr.1.mono (Nat.le_of_lt HBL.out)))
  have HX5 := Lib.hid (blk_below (show Blk w4 W.heap.size 55 m.cells.toArray from HX4.out) hr.1 HBL.out)
  have HW5 := Lib.hid hw
  clear hw hr HX4 HB4 HW4
  obtain ⟨_, rl, rx, rs, c0, c1, c2, c3, c4⟩ := ms_all HX5.out
  refine hK.out _ _ ⟨c3, c4, rs⟩ (fun _ => ?_)
  clear hK K rl rx rs c0 c1 c2 c3 c4
  (try simp only [Act.put, List.setIfInBounds_toArray, List.set_cons_zero, List.set_cons_succ])
  have HEL := Lib.hid (show (encSt m.s).length ≤ 200 by unfold encSt; split <;> (have := enc_len 1 (by decide); have := enc_len 0 (by decide); have := enc_len m.s.t HO.out.s.t; have := encV_len m.s.f HO.out.s.f; (try simp only [List.length_append]); omega))
  refine wpTree.one (fun K hK => ?_)
  go_simp
  go_at_call 32
  refine (putstance_any B B m.s (enc (wordN m.k) ++ enc (wordN m.ca) ++ enc (wordN m.ro)) w5 HW5.out HO.out.s (by (try simp only [List.length_append]); have := HLE.out; omega)).mono ?_
  rintro e w6 ⟨rfl, hw, hr⟩
  have HB6 := Lib.hid ((show Below W.heap.size W w5 from HB5.out).trans (hr.1.mono (Nat.le_of_lt HBL.out)))
  have HX6 := Lib.hid (blk_below (show Blk w5 W.heap.size 55 m.cells.toArray from HX5.out) hr.1 HBL.out)
  have HW6 := Lib.hid hw
  clear hw hr HX5 HB5 HW5
  obtain ⟨_, rl, rx, rs, c0, c1, c2, c3, c4⟩ := ms_all HX6.out
  refine hK.out _ _ ⟨c3, c4, rs⟩ (fun _ => ?_)
  clear hK K rl rx rs c0 c1 c2 c3 c4
  (try simp only [Act.put, List.setIfInBounds_toArray, List.set_cons_zero, List.set_cons_succ])
  refine wpTree.done ?_
  obtain ⟨_, rl, rx, rs, c0, c1, c2, c3, c4⟩ := ms_all HX6.out
  clear rl rx rs c1 c2 c3 c4
  go_wp2_with (first | (go_at_call 26; refine (haslabel_any _ _).mono ?_; rintro e wh ⟨rfl, rfl⟩; rw [h1]) | (go_at_call 28; refine (hasevent_any _ _).mono ?_; rintro e wh ⟨rfl, rfl⟩; rw [h2]) | (go_at_call 30; refine (hasseller_any _ _).mono ?_; rintro e wh ⟨rfl, rfl⟩; rw [h3]) | (go_at_call 31; refine (hasstance_any _ _).mono ?_; rintro e wh ⟨rfl, rfl⟩; rw [h4]) | (go_at_call 33; refine (hascount_any _ _).mono ?_; rintro e wh ⟨rfl, rfl⟩; rw [h5]))
  have hlen : (encM m).length + 16 ≤ 140737488355328 := by rw [HEN.out]; simp only [List.length_append]; have := HLE.out; have := HEL.out; omega
  refine (bytes_any B B (encM m) _ (by rw [HEN.out]; first | exact HW6.out | simpa only [List.append_assoc] using HW6.out) (by omega)).mono ?_
  rintro e w9 ⟨v9, rfl, hown, hb⟩
  have HB9 := Lib.hid (HB6.out.trans (hb.mono HB6.out.size))
  have HO9 := Lib.hid hown
  clear hown hb hlen
  go_wp2_with fail
  refine bodyPost_ret (v := .tuple #[v9, .int .i64 0]) (by simp [results, Tryz.results6, go_sem]) rfl ⟨v9, rfl, own_le HO9.out HB6.out.size, HB9.out⟩
theorem ms_write_yes (m : Ms) (W : World) (hr : rightM m = true) (ho : Ms.Ok m) : Calls Tryz.prog 6 #[.agg m.cells.toArray] W fun e W' => ∃ v, e = .returned (.tuple #[v, .int .i64 0]) ∧ W'.ownsRow W.heap.size 5 1 v (encM m).length (u8s (encM m)) ∧ Below W.heap.size W W' := by
  rcases kd_any m.k with ⟨_, h1, h2, h3, h4, h5⟩ | ⟨_, h1, h2, h3, h4, h5⟩ | ⟨_, h1, h2, h3, h4, h5⟩ | ⟨_, h1, h2, h3, h4, h5⟩ | ⟨_, h1, h2, h3, h4, h5⟩ | ⟨_, h1, h2, h3, h4, h5⟩
  · exact write_lab m W hr ho h1 h2 h3 h4 h5
  · exact write_ev m W hr ho h1 h2 h3 h4 h5
  · exact write_sel m W hr ho h1 h2 h3 h4 h5
  · exact write_en m W hr ho h1 h2 h3 h4 h5
  · exact write_st m W hr ho h1 h2 h3 h4 h5
  · have := body_of hr
    unfold bodyM at this
    rw [h1, h2, h3, h4] at this
    exact absurd this (by simp)
end Mg
end Go.Proofs.YtkigaclcmodjaaaGreat
namespace Go.Proofs.YtkigaclcmodjaaaGreat
open Go.RowKit
set_option linter.unusedSimpArgs false
set_option linter.unusedVariables false
namespace Mg
variable {L : Nat}
/-- In the middle of a read, with a result's box. -/
def AtG (T : TypeId) (L s k g : Nat) (W W' : World) (t : List Nat) (cs : Array Value) : Prop := RdB L W' s t ∧ Rdr W' k s ∧ Blk W' g T cs ∧ Off s W W'
theorem AtG.step {T : TypeId} {s k g : Nat} {W W' W'' : World} {t t' : List Nat} {cs : Array Value} (hg : g ≠ s) (h : AtG T L s k g W W' t cs) (hO : Off s W' W'') (hB : RdB L W'' s t') : AtG T L s k g W W'' t' cs := ⟨hB, h.2.1.off hO, hO.blk h.2.2.1 hg, h.2.2.2.trans hO⟩
/-- The stance that bytes begin with. -/
def stP : List Nat → Except Int (St × List Nat) := bindP (smallP 1) fun h => if h = 0 then pureP St.zero else bindP (numP true 0) fun t => bindP vectorP fun l => pureP ⟨true, t, lv l⟩
attribute [irreducible] stP
theorem stP_def : stP = bindP (smallP 1) fun h => if h = 0 then pureP St.zero else bindP (numP true 0) fun t => bindP vectorP fun l => pureP ⟨true, t, lv l⟩ := by unfold stP; rfl
def z12M : List Value := [.int .u32 0, .int .u32 0, .int .u32 0, .int .u32 0, .int .u32 0, .int .u32 0, .int .u32 0, .int .u32 0, .int .u32 0, .int .u32 0, .int .u32 0, .int .u32 0]
theorem fill_scM {place : Nat → Option (Nat × Nat)} {i off : Nat} {v m : Value} {pre post : List Value} {rest : List (Nat × Value)} (h : place i = some (off, 1)) (hv : v.cells = #[v]) (hp : pre.length = off) :
    Instr.fill place (pre ++ (m :: post)).toArray ((i, v) :: rest) = Instr.fill place (pre ++ (v :: post)).toArray rest := by
  have h1 := fill_one (place := place) (i := i) (off := off) (cs := [v]) (pre := pre) (mid := [m]) (post := post) (rest := rest) h hp rfl
  have h2 : Instr.fill place (pre ++ (m :: post)).toArray ((i, v) :: rest) = Instr.fill place (pre ++ (m :: post)).toArray ((i, .agg [v].toArray) :: rest) := by
    have hv2 : (Value.agg [v].toArray).cells = v.cells := by rw [hv]; rfl
    rw [Instr.fill, Instr.fill, h]
    dsimp only
    rw [hv2]
  exact h2.trans h1
theorem st_zeroA : St.zero.cells.toArray = #[.bool false, .int .u64 0, .int .u32 0, .int .u32 0, .int .u32 0, .int .u32 0, .int .u32 0, .int .u32 0, .int .u32 0, .int .u32 0, .int .u32 0, .int .u32 0, .int .u32 0, .int .u32 0] := by rw [st_zeroL]; rfl
theorem st_siz (x : St) : St.zero.cells.toArray.size = x.cells.toArray.size := by rw [List.size_toArray, List.size_toArray, st_len, st_len]
theorem st_fill (parts : List (Nat × Value)) : Tryz.prog.built 33 parts = Instr.fill (#[(0, 1), (1, 1), (2, 12)][·]?) #[.bool false, .int .u64 0, .int .u32 0, .int .u32 0, .int .u32 0, .int .u32 0, .int .u32 0, .int .u32 0, .int .u32 0, .int .u32 0, .int .u32 0, .int .u32 0, .int .u32 0, .int .u32 0] parts := by kernel_rfl
theorem built_stv (t : Nat) (f : Nat → Nat) : Tryz.prog.built 33 [(0, .bool true), (1, .int .u64 (t : Nat)), (2, .agg (vl f).toArray)] = some (St.mk true t f).cells.toArray := by
  rw [st_fill]
  have e : (St.mk true t f).cells.toArray = #[.bool true, .int .u64 (t : Nat)] ++ (vl f).toArray := by rw [st_def]; simp
  rw [e]
  obtain ⟨place, hpl⟩ : ∃ place : Nat → Option (Nat × Nat), place = (#[(0, 1), (1, 1), (2, 12)][·]?) := ⟨_, rfl⟩
  have p0 : place 0 = some (0, 1) := by rw [hpl]; rfl
  have p1 : place 1 = some (1, 1) := by rw [hpl]; rfl
  have p2 : place 2 = some (2, (vl f).length) := by rw [hpl, vl_len]; rfl
  rw [← hpl]
  refine (fill_scM (pre := []) (post := .int .u64 0 :: z12M) p0 rfl rfl).trans ?_
  refine (fill_scM (pre := [_]) (post := z12M) p1 rfl rfl).trans ?_
  refine (fill_one (pre := [_, _]) (mid := z12M) (post := []) p2 rfl (by rw [vl_len]; rfl)).trans ?_
  rw [Instr.fill, List.append_nil]
  simp
set_option maxHeartbeats 4000000 in
set_option maxRecDepth 20000 in
theorem getstance_any (k s : Nat) (bs : List Nat) (W : World) (hL : L ≤ W.heap.size) (hr : Rdr W k s) (h : RdB L W s bs) :
    Calls Tryz.prog 69 #[.pointer (some ⟨k, 0, none⟩)] W fun e W' => EndsV L s W (fun x : St => .agg x.cells.toArray) (stP bs) e W' := by
  obtain ⟨R, hR⟩ : ∃ R, R = stP bs := ⟨_, rfl⟩
  rw [← hR]
  have HR0 := Lib.hid (hR.trans (by rw [stP_def]))
  clear hR
  have hgs : W.heap.size ≠ s := by have := h.lt; omega
  have b1 := (Below.refl W.heap.size W).alloc (Nat.le_refl _) (.cells St.zero.cells.toArray 33)
  obtain ⟨w0, hw0⟩ : ∃ w0, w0 = W.alloc (.cells St.zero.cells.toArray 33) := ⟨_, rfl⟩
  have A0 : AtG 33 L s k W.heap.size W w0 bs St.zero.cells.toArray := by rw [hw0]; exact ⟨h.below b1, hr.below b1, Blk.new _ _ _, Off.ofBelow b1⟩
  rw [st_zeroA] at hw0
  have HW0 := Lib.hid hw0
  have HA0 := Lib.hid A0
  have HL := Lib.hid hL
  have HG := Lib.hid hgs
  clear b1 h hr hL hgs hw0 A0
  go_enter Tryz.func69, Tryz.ntmps69
  go_upto_region 1 with fail
  rw [← HW0.out]
  go_wp2_with fail
  refine (rsmall_any k s bs 1 w0 HA0.out.2.1 HA0.out.1 (by decide)).mono ?_
  rintro e w1 ⟨hO, he⟩
  rcases hq : smallP 1 bs with x | ⟨n, b1⟩
  · rw [hq] at he
    have HE := Lib.hid (HR0.out.trans (bindP_err hq))
    have HO := Lib.hid (HA0.out.2.2.2.trans hO)
    obtain ⟨rfl, hM⟩ := he
    have HM := Lib.hid hM
    clear hq hO hM HA0 HW0
    go_wp2_with fail
    exact ⟨rfl, HO.out, by rw [HE.out]; exact ⟨rfl, HM.out⟩⟩
  rw [hq] at he
  obtain ⟨rfl, hB⟩ := he
  have HR1 := Lib.hid (HR0.out.trans (bindP_ok hq))
  have HA1 := Lib.hid (HA0.out.step HG.out hO hB)
  clear hq hO hB HA0 HR0 HW0
  by_cases hn : n = 0
  · subst hn
    have HE := Lib.hid (HR1.out.trans (show _ = Except.ok (St.zero, b1) from by rw [if_pos rfl]; rfl))
    have bg := HA1.out.2.2.1
    go_wp2_with (first | (refine wpList_build_lit St.zero.cells.toArray rfl 33 _ rfl built_st ?_) | (refine wpList_store_blk rfl 33 _ _ rfl W.heap.size 33 _ St.zero.cells.toArray rfl rfl bg (stinfoA _) (st_siz _) (st_one _) ?_; intro hrow))
    refine bodyPost_row (t := 33) St.zero.cells.toArray rfl rfl rfl Tryz.underlying33 rfl (stinfoA _) hrow ?_
    have hf : ∀ j, j ≠ W.heap.size → (w1.setRow W.heap.size St.zero.cells.toArray).heap[j]? = w1.heap[j]? := fun j hj => setRow_other w1 W.heap.size j _ hj
    have hz : (w1.setRow W.heap.size St.zero.cells.toArray).heap.size = w1.heap.size := by simp
    exact ⟨HA1.out.2.2.2.turn (Nat.le_refl _) rfl rfl rfl (Nat.le_of_eq hz.symm) hf, by rw [HE.out]; exact ⟨rfl, HA1.out.1.turn (Nat.le_of_eq hz.symm) hf HG.out HL.out⟩⟩
  · have HR1 := Lib.hid (HR1.out.trans (by rw [if_neg hn]))
    have hn0 : ((n : Int) == 0) = false := by simp; omega
    clear hn
    go_wp2_with fail
    clear hn0
    refine (rnum_any k s b1 w1 HA1.out.2.1 HA1.out.1).mono ?_
    rintro e w2 ⟨hO, he⟩
    rcases hq : numP true 0 b1 with x | ⟨t, b2⟩
    · rw [hq] at he
      have HE := Lib.hid (HR1.out.trans (bindP_err hq))
      have HO := Lib.hid (HA1.out.2.2.2.trans hO)
      obtain ⟨rfl, hM⟩ := he
      have HM := Lib.hid hM
      clear hq hO hM HA1
      go_wp2_with fail
      exact ⟨rfl, HO.out, by rw [HE.out]; exact ⟨rfl, HM.out⟩⟩
    rw [hq] at he
    obtain ⟨rfl, hB⟩ := he
    have HR2 := Lib.hid (HR1.out.trans (bindP_ok hq))
    have HA2 := Lib.hid (HA1.out.step HG.out hO hB)
    clear hq hO hB HA1 HR1
    go_wp2_with fail
    refine (rvector_any k s b2 w2 (by have := HA2.out.2.2.2.size; have := HL.out; omega) HA2.out.2.1 HA2.out.1).mono ?_
    rintro e w3 ⟨hO, he⟩
    rcases hq : vectorP b2 with x | ⟨l, b3⟩
    · rw [hq] at he
      have HE := Lib.hid (HR2.out.trans (bindP_err hq))
      have HO := Lib.hid (HA2.out.2.2.2.trans hO)
      obtain ⟨rfl, hM⟩ := he
      have HM := Lib.hid hM
      clear hq hO hM HA2
      go_wp2_with fail
      exact ⟨rfl, HO.out, by rw [HE.out]; exact ⟨rfl, HM.out⟩⟩
    rw [hq] at he
    obtain ⟨rfl, hB⟩ := he
    have HE := Lib.hid (HR2.out.trans (bindP_ok hq))
    have HA3 := Lib.hid (HA2.out.step HG.out hO hB)
    have bg := HA3.out.2.2.1
    have hbv := built_stv t (lv l)
    obtain ⟨x, hx⟩ : ∃ x, x = St.mk true t (lv l) := ⟨_, rfl⟩
    rw [← hx] at HE hbv
    clear hq hO hB HA2 HR2 hx
    go_wp2_with (first | (refine wpList_build_lit x.cells.toArray rfl 33 _ rfl hbv ?_) | (refine wpList_store_blk rfl 33 _ _ rfl W.heap.size 33 _ x.cells.toArray rfl rfl bg (stinfoA _) (st_siz _) (st_one _) ?_; intro hrow))
    refine bodyPost_row (t := 33) x.cells.toArray rfl rfl rfl Tryz.underlying33 rfl (stinfoA _) hrow ?_
    have hf : ∀ j, j ≠ W.heap.size → (w3.setRow W.heap.size x.cells.toArray).heap[j]? = w3.heap[j]? := fun j hj => setRow_other w3 W.heap.size j _ hj
    have hz : (w3.setRow W.heap.size x.cells.toArray).heap.size = w3.heap.size := by simp
    exact ⟨HA3.out.2.2.2.turn (Nat.le_refl _) rfl rfl rfl (Nat.le_of_eq hz.symm) hf, by rw [HE.out]; exact ⟨rfl, HA3.out.1.turn (Nat.le_of_eq hz.symm) hf HG.out HL.out⟩⟩
def mkM (m : Ms) : List Nat → Except Int (Ms × List Nat) := fun t => if rightM m then .ok (m, t) else .error 3
def kindP (k : Int) : List Nat → Except Int (Ms × List Nat) :=
  if hl k then bindP labP fun l => mkM { zM k with l := l }
  else if hev k then bindP evP fun x => mkM { zM k with x := x }
  else if hse k then bindP (smallP 12) fun se => if hco k then bindP (smallP 200) fun co => mkM { zM k with se := (se : Nat), co := (co : Nat) } else mkM { zM k with se := (se : Nat) }
  else if hst k then bindP (smallP 12) fun ca => bindP (smallP 21) fun ro => bindP stP fun s => mkM { zM k with ca := (ca : Nat), ro := (ro : Nat), s := s }
  else mkM (zM k)
/-- The message that bytes begin with. -/
def msgP : List Nat → Except Int (Ms × List Nat) := bindP (smallP 10) fun k => kindP (k : Nat)
attribute [irreducible] msgP
theorem msgP_def : msgP = bindP (smallP 10) fun k => kindP (k : Nat) := by unfold msgP; rfl
section
variable {s k c g : Nat} {W W' : World} {t : List Nat} {m n : Ms} {Z : Array Value}
theorem at_setL (p : Pl L s k c g W.heap.size) (h : AtT 55 Z L s k c g W W' t m.cells.toArray) (l : Lab) : AtT 55 Z L s k c g W (W'.setCells c 5 l.cells) t ({ m with l := l } : Ms).cells.toArray :=
  let h2 := AtT.sets p l.cells 5 W' _ h; ⟨h2.1, h2.2.1, ms_setL h.2.2.1 l, h2.2.2.2⟩
theorem at_setX (p : Pl L s k c g W.heap.size) (h : AtT 55 Z L s k c g W W' t m.cells.toArray) (x : Ev) : AtT 55 Z L s k c g W (W'.setCells c 22 x.cells) t ({ m with x := x } : Ms).cells.toArray :=
  let h2 := AtT.sets p x.cells 22 W' _ h; ⟨h2.1, h2.2.1, ms_setX h.2.2.1 x, h2.2.2.2⟩
theorem at_setS (p : Pl L s k c g W.heap.size) (h : AtT 55 Z L s k c g W W' t m.cells.toArray) (x : St) : AtT 55 Z L s k c g W (W'.setCells c 43 x.cells) t ({ m with s := x } : Ms).cells.toArray :=
  let h2 := AtT.sets p x.cells 43 W' _ h; ⟨h2.1, h2.2.1, ms_setS h.2.2.1 x, h2.2.2.2⟩
theorem at_setH (p : Pl L s k c g W.heap.size) (h : AtT 55 Z L s k c g W W' t m.cells.toArray) {i : Nat} {v : Value} (hi : i < 5) (hn : n.hd = m.hd.set i v) (hl : n.l = m.l) (hx : n.x = m.x) (hs : n.s = m.s) : AtT 55 Z L s k c g W (W'.setCell ⟨c, i, none⟩ v) t n.cells.toArray :=
  let h2 := AtT.set p h i v; ⟨h2.1, h2.2.1, ms_setH h.2.2.1 hi hn hl hx hs, h2.2.2.2⟩
end
set_option maxHeartbeats 8000000 in
set_option maxRecDepth 20000 in
theorem get_no (k s : Nat) (bs : List Nat) (W : World) (hL : L ≤ W.heap.size) (hr : Rdr W k s) (h : RdB L W s bs) (hby : ∀ x ∈ bs, x < 256) (n : Nat) (b1 : List Nat) (hq : smallP 10 bs = .ok (n, b1)) (h1 : hl (n : Nat) = false) (h2 : hev (n : Nat) = false) (h3 : hse (n : Nat) = false) (h4 : hst (n : Nat) = false) (h5 : hco (n : Nat) = false) :
    Calls Tryz.prog 38 #[.pointer (some ⟨k, 0, none⟩)] W fun e W' => EndsV L s W (fun x : Ms => .agg x.cells.toArray) (msgP bs) e W' := by
  obtain ⟨R, hR⟩ : ∃ R, R = msgP bs := ⟨_, rfl⟩
  rw [← hR]
  have HR0 := Lib.hid ((hR.trans (by rw [msgP_def])).trans ((bindP_ok hq).trans (show kindP (n : Nat) b1 = mkM (zM (n : Nat)) b1 by unfold kindP; rw [h1, h2, h3, h4]; rfl)))
  have HBY := Lib.hid (lt_tail (small_one hby hq) hby)
  clear hR hby
  have hgs : W.heap.size ≠ s := by have := h.lt; omega
  have b1' := (Below.refl W.heap.size W).alloc (Nat.le_refl _) (.cells (zM 0).cells.toArray 55)
  obtain ⟨w0, hw0⟩ : ∃ w0, w0 = W.alloc (.cells (zM 0).cells.toArray 55) := ⟨_, rfl⟩
  have A0 : AtG 55 L s k W.heap.size W w0 bs (zM 0).cells.toArray := by rw [hw0]; exact ⟨h.below b1', hr.below b1', Blk.new _ _ _, Off.ofBelow b1'⟩
  have hk : k < W.heap.size := hr.lt
  rw [zM_cells] at hw0
  have HW0 := Lib.hid hw0
  have HA0 := Lib.hid A0
  have HL := Lib.hid hL
  have HG := Lib.hid hgs
  have HK := Lib.hid hk
  clear b1' h hr hL hgs hw0 A0 hk
  go_enter Tryz.func38, Tryz.ntmps38
  go_upto_region 1 with fail
  rw [← HW0.out]
  go_wp2_with fail
  refine (rsmall_any k s bs 10 w0 HA0.out.2.1 HA0.out.1 (by decide)).mono ?_
  rintro e w1 ⟨hO, he⟩
  rw [hq] at he
  obtain ⟨rfl, hB⟩ := he
  have HA1 := Lib.hid (HA0.out.step HG.out hO hB)
  clear hq hO hB HA0 HW0
  go_upto_region 2 with (first | (refine wpList_build_lit (zM (n : Nat)).cells.toArray rfl 55 _ rfl (built_zM (n : Nat)) ?_) | (refine wpList_store_blk rfl 55 _ _ rfl w1.heap.size 55 (zM 0).cells.toArray (zM (n : Nat)).cells.toArray rfl rfl (by rw [zM_cells]; exact Blk.new' rfl) (msinfoA _) (by rw [List.size_toArray, List.size_toArray, ms_len, ms_len]) (ms_one _) ?_; intro hy))
  have hbn := below_setRow ((Below.refl w1.heap.size w1).alloc (Nat.le_refl _) (.cells (zM 0).cells.toArray 55)) (Nat.le_refl _) (zM (n : Nat)).cells.toArray
  rw [zM_cells 0] at hbn
  obtain ⟨w2, hw2⟩ : ∃ w2, w2 = (w1.alloc (.cells #[.int .i64 0, .int .i64 0, .int .i64 0, .int .i64 0, .int .i64 0, .int .u64 0, .int .i64 0, .int .u32 0, .int .i64 0, .int .i64 0, .int .u32 0, .int .u32 0, .int .u32 0, .int .u32 0, .int .u32 0, .int .u32 0, .int .u32 0, .int .u32 0, .int .u32 0, .int .u32 0, .int .u32 0, .int .u32 0, .int .u64 0, .int .i64 0, .int .u32 0, .int .i64 0, .int .i64 0, .int .u32 0, .int .u32 0, .int .u32 0, .int .u32 0, .int .u32 0, .int .u32 0, .int .u32 0, .int .u32 0, .int .u32 0, .int .u32 0, .int .u32 0, .int .u32 0, .int .i64 0, .int .i64 0, .int .i64 0, .float .f64 0, .bool false, .int .u64 0, .int .u32 0, .int .u32 0, .int .u32 0, .int .u32 0, .int .u32 0, .int .u32 0, .int .u32 0, .int .u32 0, .int .u32 0, .int .u32 0, .int .u32 0, .int .u32 0] 55)).setRow w1.heap.size (zM (n : Nat)).cells.toArray := ⟨_, rfl⟩
  rw [← hw2] at hbn hy ⊢
  obtain ⟨c, hc⟩ : ∃ c, c = w1.heap.size := ⟨_, rfl⟩
  rw [← hc] at hy ⊢
  have hsz := HA1.out.2.2.2.size
  have hgl := HA1.out.2.2.1.lt
  have A2 := Lib.hid (show AtT 55 (zM 0).cells.toArray L s k c W.heap.size W w2 b1 (zM (n : Nat)).cells.toArray from ⟨HA1.out.1.below hbn, HA1.out.2.1.below hbn, hy, HA1.out.2.2.1.next hbn, HA1.out.2.2.2.trans (Off.ofBelow hbn)⟩)
  have HP := Lib.hid (show Pl L s k c W.heap.size W.heap.size from ⟨by have := HA1.out.1.lt; omega, by have := HK.out; omega, by have := HL.out; omega, by omega, HG.out, by omega⟩)
  have c0 : World.cell? _ ⟨c, 0, none⟩ = some (.int .i64 ((n : Nat) : Int)) := (ms_all A2.out.2.2.1).2.2.2.2.1
  clear hw2 hbn hy hc hsz hgl HA1
  obtain ⟨m, hm⟩ : ∃ m : Ms, m = zM (n : Nat) := ⟨_, rfl⟩
  rw [← hm] at A2 HR0
  have rgl := A2.out.2.2.1.range
  clear hm
  go_wp2_with (first | (go_at_call 26; refine (haslabel_any _ _).mono ?_; rintro e wh ⟨rfl, rfl⟩; rw [h1]) | (go_at_call 28; refine (hasevent_any _ _).mono ?_; rintro e wh ⟨rfl, rfl⟩; rw [h2]) | (go_at_call 30; refine (hasseller_any _ _).mono ?_; rintro e wh ⟨rfl, rfl⟩; rw [h3]) | (go_at_call 31; refine (hasstance_any _ _).mono ?_; rintro e wh ⟨rfl, rfl⟩; rw [h4]) | (go_at_call 33; refine (hascount_any _ _).mono ?_; rintro e wh ⟨rfl, rfl⟩; rw [h5]) | (refine wpList_load_midg (by rfl) 55 _ rfl _ _ rfl (Ms.cells ?_) _ ?_ Tryz.underlying55 rfl (msinfo _) ?_; rotate_left; (focus assumption)))
  refine (right_any m w2).mono ?_
  rintro e w16 ⟨rfl, hb⟩
  have A17 := Lib.hid (A2.out.next HP.out hb)
  clear hb A2 rgl
  rcases hq : rightM m with _ | _
  · have HE := Lib.hid (HR0.out.trans (show mkM m b1 = .error 3 by unfold mkM; rw [hq]; rfl))
    clear hq
    go_wp2_with fail
    refine (rmust_not k s b1 w16 A17.out.2.1 A17.out.1).mono ?_
    rintro e w17 ⟨rfl, hM, hO⟩
    have HO := Lib.hid (A17.out.2.2.2.2.trans hO)
    have HM := Lib.hid hM
    clear hM hO A17
    go_wp2_with fail
    exact ⟨rfl, HO.out, by rw [HE.out]; exact ⟨rfl, HM.out⟩⟩
  · have HE := Lib.hid (HR0.out.trans (show mkM m b1 = .ok (m, b1) by unfold mkM; rw [hq]; rfl))
    clear hq
    go_wp2_with fail
    refine (rmust_yes k s b1 w16 A17.out.2.1 A17.out.1).mono ?_
    rintro e w17 ⟨rfl, rfl⟩
    have rgl := A17.out.2.2.1.range
    have bg := A17.out.2.2.2.1
    go_wp2_with (first | (refine wpList_load_midg (by rfl) 55 _ rfl _ _ rfl (Ms.cells ?_) _ ?_ Tryz.underlying55 rfl (msinfo _) ?_; rotate_left; (focus assumption)) | (refine wpList_store_blk rfl 55 _ _ rfl W.heap.size 55 _ m.cells.toArray rfl rfl bg (msinfoA _) (by rw [List.size_toArray, List.size_toArray, ms_len, ms_len]) (ms_one m) ?_; intro hrow))
    refine bodyPost_row (t := 55) m.cells.toArray rfl rfl rfl Tryz.underlying55 rfl (msinfoA _) hrow ?_
    have hf : ∀ j, j ≠ W.heap.size → (w16.setRow W.heap.size m.cells.toArray).heap[j]? = w16.heap[j]? := fun j hj => setRow_other w16 W.heap.size j _ hj
    have hz : (w16.setRow W.heap.size m.cells.toArray).heap.size = w16.heap.size := by simp
    exact ⟨A17.out.2.2.2.2.turn (Nat.le_refl _) rfl rfl rfl (Nat.le_of_eq hz.symm) hf, by rw [HE.out]; exact ⟨rfl, A17.out.1.turn (Nat.le_of_eq hz.symm) hf HP.out.gs HL.out⟩⟩
set_option maxHeartbeats 8000000 in
set_option maxRecDepth 20000 in
theorem get_lab (k s : Nat) (bs : List Nat) (W : World) (hL : L ≤ W.heap.size) (hr : Rdr W k s) (h : RdB L W s bs) (hby : ∀ x ∈ bs, x < 256) (n : Nat) (b1 : List Nat) (hq : smallP 10 bs = .ok (n, b1)) (h1 : hl (n : Nat) = true) (h2 : hev (n : Nat) = false) (h3 : hse (n : Nat) = false) (h4 : hst (n : Nat) = false) (h5 : hco (n : Nat) = false) :
    Calls Tryz.prog 38 #[.pointer (some ⟨k, 0, none⟩)] W fun e W' => EndsV L s W (fun x : Ms => .agg x.cells.toArray) (msgP bs) e W' := by
  obtain ⟨R, hR⟩ : ∃ R, R = msgP bs := ⟨_, rfl⟩
  rw [← hR]
  have HR0 := Lib.hid ((hR.trans (by rw [msgP_def])).trans ((bindP_ok hq).trans (show kindP (n : Nat) b1 = (bindP labP fun l => mkM { zM (n : Nat) with l := l }) b1 by unfold kindP; rw [h1]; rfl)))
  have HBY := Lib.hid (lt_tail (small_one hby hq) hby)
  clear hR hby
  have hgs : W.heap.size ≠ s := by have := h.lt; omega
  have b1' := (Below.refl W.heap.size W).alloc (Nat.le_refl _) (.cells (zM 0).cells.toArray 55)
  obtain ⟨w0, hw0⟩ : ∃ w0, w0 = W.alloc (.cells (zM 0).cells.toArray 55) := ⟨_, rfl⟩
  have A0 : AtG 55 L s k W.heap.size W w0 bs (zM 0).cells.toArray := by rw [hw0]; exact ⟨h.below b1', hr.below b1', Blk.new _ _ _, Off.ofBelow b1'⟩
  have hk : k < W.heap.size := hr.lt
  rw [zM_cells] at hw0
  have HW0 := Lib.hid hw0
  have HA0 := Lib.hid A0
  have HL := Lib.hid hL
  have HG := Lib.hid hgs
  have HK := Lib.hid hk
  clear b1' h hr hL hgs hw0 A0 hk
  go_enter Tryz.func38, Tryz.ntmps38
  go_upto_region 1 with fail
  rw [← HW0.out]
  go_wp2_with fail
  refine (rsmall_any k s bs 10 w0 HA0.out.2.1 HA0.out.1 (by decide)).mono ?_
  rintro e w1 ⟨hO, he⟩
  rw [hq] at he
  obtain ⟨rfl, hB⟩ := he
  have HA1 := Lib.hid (HA0.out.step HG.out hO hB)
  clear hq hO hB HA0 HW0
  go_upto_region 2 with (first | (refine wpList_build_lit (zM (n : Nat)).cells.toArray rfl 55 _ rfl (built_zM (n : Nat)) ?_) | (refine wpList_store_blk rfl 55 _ _ rfl w1.heap.size 55 (zM 0).cells.toArray (zM (n : Nat)).cells.toArray rfl rfl (by rw [zM_cells]; exact Blk.new' rfl) (msinfoA _) (by rw [List.size_toArray, List.size_toArray, ms_len, ms_len]) (ms_one _) ?_; intro hy))
  have hbn := below_setRow ((Below.refl w1.heap.size w1).alloc (Nat.le_refl _) (.cells (zM 0).cells.toArray 55)) (Nat.le_refl _) (zM (n : Nat)).cells.toArray
  rw [zM_cells 0] at hbn
  obtain ⟨w2, hw2⟩ : ∃ w2, w2 = (w1.alloc (.cells #[.int .i64 0, .int .i64 0, .int .i64 0, .int .i64 0, .int .i64 0, .int .u64 0, .int .i64 0, .int .u32 0, .int .i64 0, .int .i64 0, .int .u32 0, .int .u32 0, .int .u32 0, .int .u32 0, .int .u32 0, .int .u32 0, .int .u32 0, .int .u32 0, .int .u32 0, .int .u32 0, .int .u32 0, .int .u32 0, .int .u64 0, .int .i64 0, .int .u32 0, .int .i64 0, .int .i64 0, .int .u32 0, .int .u32 0, .int .u32 0, .int .u32 0, .int .u32 0, .int .u32 0, .int .u32 0, .int .u32 0, .int .u32 0, .int .u32 0, .int .u32 0, .int .u32 0, .int .i64 0, .int .i64 0, .int .i64 0, .float .f64 0, .bool false, .int .u64 0, .int .u32 0, .int .u32 0, .int .u32 0, .int .u32 0, .int .u32 0, .int .u32 0, .int .u32 0, .int .u32 0, .int .u32 0, .int .u32 0, .int .u32 0, .int .u32 0] 55)).setRow w1.heap.size (zM (n : Nat)).cells.toArray := ⟨_, rfl⟩
  rw [← hw2] at hbn hy ⊢
  obtain ⟨c, hc⟩ : ∃ c, c = w1.heap.size := ⟨_, rfl⟩
  rw [← hc] at hy ⊢
  have hsz := HA1.out.2.2.2.size
  have hgl := HA1.out.2.2.1.lt
  have A2 := Lib.hid (show AtT 55 (zM 0).cells.toArray L s k c W.heap.size W w2 b1 (zM (n : Nat)).cells.toArray from ⟨HA1.out.1.below hbn, HA1.out.2.1.below hbn, hy, HA1.out.2.2.1.next hbn, HA1.out.2.2.2.trans (Off.ofBelow hbn)⟩)
  have HP := Lib.hid (show Pl L s k c W.heap.size W.heap.size from ⟨by have := HA1.out.1.lt; omega, by have := HK.out; omega, by have := HL.out; omega, by omega, HG.out, by omega⟩)
  have c0 : World.cell? _ ⟨c, 0, none⟩ = some (.int .i64 ((n : Nat) : Int)) := (ms_all A2.out.2.2.1).2.2.2.2.1
  clear hw2 hbn hy hc hsz hgl HA1
  go_wp2_with (first | (go_at_call 26; refine (haslabel_any _ _).mono ?_; rintro e wh ⟨rfl, rfl⟩; rw [h1]) | (go_at_call 28; refine (hasevent_any _ _).mono ?_; rintro e wh ⟨rfl, rfl⟩; rw [h2]) | (go_at_call 30; refine (hasseller_any _ _).mono ?_; rintro e wh ⟨rfl, rfl⟩; rw [h3]) | (go_at_call 31; refine (hasstance_any _ _).mono ?_; rintro e wh ⟨rfl, rfl⟩; rw [h4]) | (go_at_call 33; refine (hascount_any _ _).mono ?_; rintro e wh ⟨rfl, rfl⟩; rw [h5]))
  clear c0
  refine (lget_any k s b1 w2 (by have := A2.out.2.2.1.lt; have := HP.out.cl; omega) A2.out.2.1 A2.out.1).mono ?_
  rintro e w3 ⟨hO, he⟩
  rcases hq : labP b1 with x | ⟨l, b2⟩
  · rw [hq] at he
    have HE := Lib.hid (HR0.out.trans (bindP_err hq))
    have HO := Lib.hid (A2.out.2.2.2.2.trans hO)
    obtain ⟨rfl, hM⟩ := he
    have HM := Lib.hid hM
    clear hq hO hM A2
    go_wp2_with fail
    exact ⟨rfl, HO.out, by rw [HE.out]; exact ⟨rfl, HM.out⟩⟩
  rw [hq] at he
  obtain ⟨rfl, hB⟩ := he
  have HR1 := Lib.hid (HR0.out.trans (bindP_ok hq))
  have BA3 := Lib.hid (AtT.step HP.out A2.out hO hB)
  clear hq hO hB A2 HR0
  have hth := BA3.out.2.2.1.thereT (o := 5) (n := l.cells.toArray.size) (by rw [List.size_toArray, List.size_toArray, ms_len, lab_len]; omega)
  have A3 := Lib.hid (at_setL HP.out BA3.out l)
  go_upto_region 12 with (first | (go_at_call 26; refine (haslabel_any _ _).mono ?_; rintro e wh ⟨rfl, rfl⟩; rw [h1]) | (go_at_call 28; refine (hasevent_any _ _).mono ?_; rintro e wh ⟨rfl, rfl⟩; rw [h2]) | (go_at_call 30; refine (hasseller_any _ _).mono ?_; rintro e wh ⟨rfl, rfl⟩; rw [h3]) | (go_at_call 31; refine (hasstance_any _ _).mono ?_; rintro e wh ⟨rfl, rfl⟩; rw [h4]) | (go_at_call 33; refine (hascount_any _ _).mono ?_; rintro e wh ⟨rfl, rfl⟩; rw [h5]) | (refine wpList_store_mid rfl 27 _ _ rfl c 5 l.cells.toArray rfl rfl hth (linfoA _) (lab_one _) ?_; show wpList _ _ _ _ _ (w3.setCells c 5 l.cells)))
  clear hth BA3
  obtain ⟨w4, hw⟩ : ∃ w4, w4 = w3.setCells c 5 l.cells := ⟨_, rfl⟩
  rw [← hw] at A3 ⊢
  clear hw
  have c0 : World.cell? _ ⟨c, 0, none⟩ = some (.int .i64 ((n : Nat) : Int)) := (ms_all A3.out.2.2.1).2.2.2.2.1
  obtain ⟨m, hm⟩ : ∃ m : Ms, m = { zM (n : Nat) with l := l } := ⟨_, rfl⟩
  rw [← hm] at A3 HR1
  have rgl := A3.out.2.2.1.range
  clear hm
  go_wp2_with (first | (go_at_call 26; refine (haslabel_any _ _).mono ?_; rintro e wh ⟨rfl, rfl⟩; rw [h1]) | (go_at_call 28; refine (hasevent_any _ _).mono ?_; rintro e wh ⟨rfl, rfl⟩; rw [h2]) | (go_at_call 30; refine (hasseller_any _ _).mono ?_; rintro e wh ⟨rfl, rfl⟩; rw [h3]) | (go_at_call 31; refine (hasstance_any _ _).mono ?_; rintro e wh ⟨rfl, rfl⟩; rw [h4]) | (go_at_call 33; refine (hascount_any _ _).mono ?_; rintro e wh ⟨rfl, rfl⟩; rw [h5]) | (refine wpList_load_midg (by rfl) 55 _ rfl _ _ rfl (Ms.cells ?_) _ ?_ Tryz.underlying55 rfl (msinfo _) ?_; rotate_left; (focus assumption)))
  refine (right_any m w4).mono ?_
  rintro e w16 ⟨rfl, hb⟩
  have A17 := Lib.hid (A3.out.next HP.out hb)
  clear hb A3 rgl
  rcases hq : rightM m with _ | _
  · have HE := Lib.hid (HR1.out.trans (show mkM m b2 = .error 3 by unfold mkM; rw [hq]; rfl))
    clear hq
    go_wp2_with fail
    refine (rmust_not k s b2 w16 A17.out.2.1 A17.out.1).mono ?_
    rintro e w17 ⟨rfl, hM, hO⟩
    have HO := Lib.hid (A17.out.2.2.2.2.trans hO)
    have HM := Lib.hid hM
    clear hM hO A17
    go_wp2_with fail
    exact ⟨rfl, HO.out, by rw [HE.out]; exact ⟨rfl, HM.out⟩⟩
  · have HE := Lib.hid (HR1.out.trans (show mkM m b2 = .ok (m, b2) by unfold mkM; rw [hq]; rfl))
    clear hq
    go_wp2_with fail
    refine (rmust_yes k s b2 w16 A17.out.2.1 A17.out.1).mono ?_
    rintro e w17 ⟨rfl, rfl⟩
    have rgl := A17.out.2.2.1.range
    have bg := A17.out.2.2.2.1
    go_wp2_with (first | (refine wpList_load_midg (by rfl) 55 _ rfl _ _ rfl (Ms.cells ?_) _ ?_ Tryz.underlying55 rfl (msinfo _) ?_; rotate_left; (focus assumption)) | (refine wpList_store_blk rfl 55 _ _ rfl W.heap.size 55 _ m.cells.toArray rfl rfl bg (msinfoA _) (by rw [List.size_toArray, List.size_toArray, ms_len, ms_len]) (ms_one m) ?_; intro hrow))
    refine bodyPost_row (t := 55) m.cells.toArray rfl rfl rfl Tryz.underlying55 rfl (msinfoA _) hrow ?_
    have hf : ∀ j, j ≠ W.heap.size → (w16.setRow W.heap.size m.cells.toArray).heap[j]? = w16.heap[j]? := fun j hj => setRow_other w16 W.heap.size j _ hj
    have hz : (w16.setRow W.heap.size m.cells.toArray).heap.size = w16.heap.size := by simp
    exact ⟨A17.out.2.2.2.2.turn (Nat.le_refl _) rfl rfl rfl (Nat.le_of_eq hz.symm) hf, by rw [HE.out]; exact ⟨rfl, A17.out.1.turn (Nat.le_of_eq hz.symm) hf HP.out.gs HL.out⟩⟩
set_option maxHeartbeats 8000000 in
set_option maxRecDepth 20000 in
theorem get_ev (k s : Nat) (bs : List Nat) (W : World) (hL : L ≤ W.heap.size) (hr : Rdr W k s) (h : RdB L W s bs) (hby : ∀ x ∈ bs, x < 256) (n : Nat) (b1 : List Nat) (hq : smallP 10 bs = .ok (n, b1)) (h1 : hl (n : Nat) = false) (h2 : hev (n : Nat) = true) (h3 : hse (n : Nat) = false) (h4 : hst (n : Nat) = false) (h5 : hco (n : Nat) = false) :
    Calls Tryz.prog 38 #[.pointer (some ⟨k, 0, none⟩)] W fun e W' => EndsV L s W (fun x : Ms => .agg x.cells.toArray) (msgP bs) e W' := by
  obtain ⟨R, hR⟩ : ∃ R, R = msgP bs := ⟨_, rfl⟩
  rw [← hR]
  have HR0 := Lib.hid ((hR.trans (by rw [msgP_def])).trans ((bindP_ok hq).trans (show kindP (n : Nat) b1 = (bindP evP fun x => mkM { zM (n : Nat) with x := x }) b1 by unfold kindP; rw [h1, h2]; rfl)))
  have HBY := Lib.hid (lt_tail (small_one hby hq) hby)
  clear hR hby
  have hgs : W.heap.size ≠ s := by have := h.lt; omega
  have b1' := (Below.refl W.heap.size W).alloc (Nat.le_refl _) (.cells (zM 0).cells.toArray 55)
  obtain ⟨w0, hw0⟩ : ∃ w0, w0 = W.alloc (.cells (zM 0).cells.toArray 55) := ⟨_, rfl⟩
  have A0 : AtG 55 L s k W.heap.size W w0 bs (zM 0).cells.toArray := by rw [hw0]; exact ⟨h.below b1', hr.below b1', Blk.new _ _ _, Off.ofBelow b1'⟩
  have hk : k < W.heap.size := hr.lt
  rw [zM_cells] at hw0
  have HW0 := Lib.hid hw0
  have HA0 := Lib.hid A0
  have HL := Lib.hid hL
  have HG := Lib.hid hgs
  have HK := Lib.hid hk
  clear b1' h hr hL hgs hw0 A0 hk
  go_enter Tryz.func38, Tryz.ntmps38
  go_upto_region 1 with fail
  rw [← HW0.out]
  go_wp2_with fail
  refine (rsmall_any k s bs 10 w0 HA0.out.2.1 HA0.out.1 (by decide)).mono ?_
  rintro e w1 ⟨hO, he⟩
  rw [hq] at he
  obtain ⟨rfl, hB⟩ := he
  have HA1 := Lib.hid (HA0.out.step HG.out hO hB)
  clear hq hO hB HA0 HW0
  go_upto_region 2 with (first | (refine wpList_build_lit (zM (n : Nat)).cells.toArray rfl 55 _ rfl (built_zM (n : Nat)) ?_) | (refine wpList_store_blk rfl 55 _ _ rfl w1.heap.size 55 (zM 0).cells.toArray (zM (n : Nat)).cells.toArray rfl rfl (by rw [zM_cells]; exact Blk.new' rfl) (msinfoA _) (by rw [List.size_toArray, List.size_toArray, ms_len, ms_len]) (ms_one _) ?_; intro hy))
  have hbn := below_setRow ((Below.refl w1.heap.size w1).alloc (Nat.le_refl _) (.cells (zM 0).cells.toArray 55)) (Nat.le_refl _) (zM (n : Nat)).cells.toArray
  rw [zM_cells 0] at hbn
  obtain ⟨w2, hw2⟩ : ∃ w2, w2 = (w1.alloc (.cells #[.int .i64 0, .int .i64 0, .int .i64 0, .int .i64 0, .int .i64 0, .int .u64 0, .int .i64 0, .int .u32 0, .int .i64 0, .int .i64 0, .int .u32 0, .int .u32 0, .int .u32 0, .int .u32 0, .int .u32 0, .int .u32 0, .int .u32 0, .int .u32 0, .int .u32 0, .int .u32 0, .int .u32 0, .int .u32 0, .int .u64 0, .int .i64 0, .int .u32 0, .int .i64 0, .int .i64 0, .int .u32 0, .int .u32 0, .int .u32 0, .int .u32 0, .int .u32 0, .int .u32 0, .int .u32 0, .int .u32 0, .int .u32 0, .int .u32 0, .int .u32 0, .int .u32 0, .int .i64 0, .int .i64 0, .int .i64 0, .float .f64 0, .bool false, .int .u64 0, .int .u32 0, .int .u32 0, .int .u32 0, .int .u32 0, .int .u32 0, .int .u32 0, .int .u32 0, .int .u32 0, .int .u32 0, .int .u32 0, .int .u32 0, .int .u32 0] 55)).setRow w1.heap.size (zM (n : Nat)).cells.toArray := ⟨_, rfl⟩
  rw [← hw2] at hbn hy ⊢
  obtain ⟨c, hc⟩ : ∃ c, c = w1.heap.size := ⟨_, rfl⟩
  rw [← hc] at hy ⊢
  have hsz := HA1.out.2.2.2.size
  have hgl := HA1.out.2.2.1.lt
  have A2 := Lib.hid (show AtT 55 (zM 0).cells.toArray L s k c W.heap.size W w2 b1 (zM (n : Nat)).cells.toArray from ⟨HA1.out.1.below hbn, HA1.out.2.1.below hbn, hy, HA1.out.2.2.1.next hbn, HA1.out.2.2.2.trans (Off.ofBelow hbn)⟩)
  have HP := Lib.hid (show Pl L s k c W.heap.size W.heap.size from ⟨by have := HA1.out.1.lt; omega, by have := HK.out; omega, by have := HL.out; omega, by omega, HG.out, by omega⟩)
  have c0 : World.cell? _ ⟨c, 0, none⟩ = some (.int .i64 ((n : Nat) : Int)) := (ms_all A2.out.2.2.1).2.2.2.2.1
  clear hw2 hbn hy hc hsz hgl HA1
  go_wp2_with (first | (go_at_call 26; refine (haslabel_any _ _).mono ?_; rintro e wh ⟨rfl, rfl⟩; rw [h1]) | (go_at_call 28; refine (hasevent_any _ _).mono ?_; rintro e wh ⟨rfl, rfl⟩; rw [h2]) | (go_at_call 30; refine (hasseller_any _ _).mono ?_; rintro e wh ⟨rfl, rfl⟩; rw [h3]) | (go_at_call 31; refine (hasstance_any _ _).mono ?_; rintro e wh ⟨rfl, rfl⟩; rw [h4]) | (go_at_call 33; refine (hascount_any _ _).mono ?_; rintro e wh ⟨rfl, rfl⟩; rw [h5]))
  clear c0
  refine (evget_any k s b1 w2 (by have := A2.out.2.2.1.lt; have := HP.out.cl; omega) A2.out.2.1 A2.out.1 HBY.out).mono ?_
  rintro e w3 ⟨hO, he⟩
  rcases hq : evP b1 with x | ⟨y, b2⟩
  · rw [hq] at he
    have HE := Lib.hid (HR0.out.trans (bindP_err hq))
    have HO := Lib.hid (A2.out.2.2.2.2.trans hO)
    obtain ⟨rfl, hM⟩ := he
    have HM := Lib.hid hM
    clear hq hO hM A2
    go_wp2_with fail
    exact ⟨rfl, HO.out, by rw [HE.out]; exact ⟨rfl, HM.out⟩⟩
  rw [hq] at he
  obtain ⟨rfl, hB⟩ := he
  have HR1 := Lib.hid (HR0.out.trans (bindP_ok hq))
  have BA3 := Lib.hid (AtT.step HP.out A2.out hO hB)
  clear hq hO hB A2 HR0
  have hth := BA3.out.2.2.1.thereT (o := 22) (n := y.cells.toArray.size) (by rw [List.size_toArray, List.size_toArray, ms_len, ev_len]; omega)
  have A3 := Lib.hid (at_setX HP.out BA3.out y)
  go_upto_region 12 with (first | (go_at_call 26; refine (haslabel_any _ _).mono ?_; rintro e wh ⟨rfl, rfl⟩; rw [h1]) | (go_at_call 28; refine (hasevent_any _ _).mono ?_; rintro e wh ⟨rfl, rfl⟩; rw [h2]) | (go_at_call 30; refine (hasseller_any _ _).mono ?_; rintro e wh ⟨rfl, rfl⟩; rw [h3]) | (go_at_call 31; refine (hasstance_any _ _).mono ?_; rintro e wh ⟨rfl, rfl⟩; rw [h4]) | (go_at_call 33; refine (hascount_any _ _).mono ?_; rintro e wh ⟨rfl, rfl⟩; rw [h5]) | (refine wpList_store_mid rfl 53 _ _ rfl c 22 y.cells.toArray rfl rfl hth (einfoA _) (ev_one _) ?_; show wpList _ _ _ _ _ (w3.setCells c 22 y.cells)))
  clear hth BA3
  obtain ⟨w4, hw⟩ : ∃ w4, w4 = w3.setCells c 22 y.cells := ⟨_, rfl⟩
  rw [← hw] at A3 ⊢
  clear hw
  have c0 : World.cell? _ ⟨c, 0, none⟩ = some (.int .i64 ((n : Nat) : Int)) := (ms_all A3.out.2.2.1).2.2.2.2.1
  obtain ⟨m, hm⟩ : ∃ m : Ms, m = { zM (n : Nat) with x := y } := ⟨_, rfl⟩
  rw [← hm] at A3 HR1
  have rgl := A3.out.2.2.1.range
  clear hm
  go_wp2_with (first | (go_at_call 26; refine (haslabel_any _ _).mono ?_; rintro e wh ⟨rfl, rfl⟩; rw [h1]) | (go_at_call 28; refine (hasevent_any _ _).mono ?_; rintro e wh ⟨rfl, rfl⟩; rw [h2]) | (go_at_call 30; refine (hasseller_any _ _).mono ?_; rintro e wh ⟨rfl, rfl⟩; rw [h3]) | (go_at_call 31; refine (hasstance_any _ _).mono ?_; rintro e wh ⟨rfl, rfl⟩; rw [h4]) | (go_at_call 33; refine (hascount_any _ _).mono ?_; rintro e wh ⟨rfl, rfl⟩; rw [h5]) | (refine wpList_load_midg (by rfl) 55 _ rfl _ _ rfl (Ms.cells ?_) _ ?_ Tryz.underlying55 rfl (msinfo _) ?_; rotate_left; (focus assumption)))
  refine (right_any m w4).mono ?_
  rintro e w16 ⟨rfl, hb⟩
  have A17 := Lib.hid (A3.out.next HP.out hb)
  clear hb A3 rgl
  rcases hq : rightM m with _ | _
  · have HE := Lib.hid (HR1.out.trans (show mkM m b2 = .error 3 by unfold mkM; rw [hq]; rfl))
    clear hq
    go_wp2_with fail
    refine (rmust_not k s b2 w16 A17.out.2.1 A17.out.1).mono ?_
    rintro e w17 ⟨rfl, hM, hO⟩
    have HO := Lib.hid (A17.out.2.2.2.2.trans hO)
    have HM := Lib.hid hM
    clear hM hO A17
    go_wp2_with fail
    exact ⟨rfl, HO.out, by rw [HE.out]; exact ⟨rfl, HM.out⟩⟩
  · have HE := Lib.hid (HR1.out.trans (show mkM m b2 = .ok (m, b2) by unfold mkM; rw [hq]; rfl))
    clear hq
    go_wp2_with fail
    refine (rmust_yes k s b2 w16 A17.out.2.1 A17.out.1).mono ?_
    rintro e w17 ⟨rfl, rfl⟩
    have rgl := A17.out.2.2.1.range
    have bg := A17.out.2.2.2.1
    go_wp2_with (first | (refine wpList_load_midg (by rfl) 55 _ rfl _ _ rfl (Ms.cells ?_) _ ?_ Tryz.underlying55 rfl (msinfo _) ?_; rotate_left; (focus assumption)) | (refine wpList_store_blk rfl 55 _ _ rfl W.heap.size 55 _ m.cells.toArray rfl rfl bg (msinfoA _) (by rw [List.size_toArray, List.size_toArray, ms_len, ms_len]) (ms_one m) ?_; intro hrow))
    refine bodyPost_row (t := 55) m.cells.toArray rfl rfl rfl Tryz.underlying55 rfl (msinfoA _) hrow ?_
    have hf : ∀ j, j ≠ W.heap.size → (w16.setRow W.heap.size m.cells.toArray).heap[j]? = w16.heap[j]? := fun j hj => setRow_other w16 W.heap.size j _ hj
    have hz : (w16.setRow W.heap.size m.cells.toArray).heap.size = w16.heap.size := by simp
    exact ⟨A17.out.2.2.2.2.turn (Nat.le_refl _) rfl rfl rfl (Nat.le_of_eq hz.symm) hf, by rw [HE.out]; exact ⟨rfl, A17.out.1.turn (Nat.le_of_eq hz.symm) hf HP.out.gs HL.out⟩⟩
set_option maxHeartbeats 8000000 in
set_option maxRecDepth 20000 in
theorem get_sel (k s : Nat) (bs : List Nat) (W : World) (hL : L ≤ W.heap.size) (hr : Rdr W k s) (h : RdB L W s bs) (hby : ∀ x ∈ bs, x < 256) (n : Nat) (b1 : List Nat) (hq : smallP 10 bs = .ok (n, b1)) (h1 : hl (n : Nat) = false) (h2 : hev (n : Nat) = false) (h3 : hse (n : Nat) = true) (h4 : hst (n : Nat) = false) (h5 : hco (n : Nat) = false) :
    Calls Tryz.prog 38 #[.pointer (some ⟨k, 0, none⟩)] W fun e W' => EndsV L s W (fun x : Ms => .agg x.cells.toArray) (msgP bs) e W' := by
  obtain ⟨R, hR⟩ : ∃ R, R = msgP bs := ⟨_, rfl⟩
  rw [← hR]
  have HR0 := Lib.hid ((hR.trans (by rw [msgP_def])).trans ((bindP_ok hq).trans (show kindP (n : Nat) b1 = (bindP (smallP 12) fun se => mkM { zM (n : Nat) with se := (se : Nat) }) b1 by unfold kindP; rw [h1, h2, h3, h5]; rfl)))
  have HBY := Lib.hid (lt_tail (small_one hby hq) hby)
  clear hR hby
  have hgs : W.heap.size ≠ s := by have := h.lt; omega
  have b1' := (Below.refl W.heap.size W).alloc (Nat.le_refl _) (.cells (zM 0).cells.toArray 55)
  obtain ⟨w0, hw0⟩ : ∃ w0, w0 = W.alloc (.cells (zM 0).cells.toArray 55) := ⟨_, rfl⟩
  have A0 : AtG 55 L s k W.heap.size W w0 bs (zM 0).cells.toArray := by rw [hw0]; exact ⟨h.below b1', hr.below b1', Blk.new _ _ _, Off.ofBelow b1'⟩
  have hk : k < W.heap.size := hr.lt
  rw [zM_cells] at hw0
  have HW0 := Lib.hid hw0
  have HA0 := Lib.hid A0
  have HL := Lib.hid hL
  have HG := Lib.hid hgs
  have HK := Lib.hid hk
  clear b1' h hr hL hgs hw0 A0 hk
  go_enter Tryz.func38, Tryz.ntmps38
  go_upto_region 1 with fail
  rw [← HW0.out]
  go_wp2_with fail
  refine (rsmall_any k s bs 10 w0 HA0.out.2.1 HA0.out.1 (by decide)).mono ?_
  rintro e w1 ⟨hO, he⟩
  rw [hq] at he
  obtain ⟨rfl, hB⟩ := he
  have HA1 := Lib.hid (HA0.out.step HG.out hO hB)
  clear hq hO hB HA0 HW0
  go_upto_region 2 with (first | (refine wpList_build_lit (zM (n : Nat)).cells.toArray rfl 55 _ rfl (built_zM (n : Nat)) ?_) | (refine wpList_store_blk rfl 55 _ _ rfl w1.heap.size 55 (zM 0).cells.toArray (zM (n : Nat)).cells.toArray rfl rfl (by rw [zM_cells]; exact Blk.new' rfl) (msinfoA _) (by rw [List.size_toArray, List.size_toArray, ms_len, ms_len]) (ms_one _) ?_; intro hy))
  have hbn := below_setRow ((Below.refl w1.heap.size w1).alloc (Nat.le_refl _) (.cells (zM 0).cells.toArray 55)) (Nat.le_refl _) (zM (n : Nat)).cells.toArray
  rw [zM_cells 0] at hbn
  obtain ⟨w2, hw2⟩ : ∃ w2, w2 = (w1.alloc (.cells #[.int .i64 0, .int .i64 0, .int .i64 0, .int .i64 0, .int .i64 0, .int .u64 0, .int .i64 0, .int .u32 0, .int .i64 0, .int .i64 0, .int .u32 0, .int .u32 0, .int .u32 0, .int .u32 0, .int .u32 0, .int .u32 0, .int .u32 0, .int .u32 0, .int .u32 0, .int .u32 0, .int .u32 0, .int .u32 0, .int .u64 0, .int .i64 0, .int .u32 0, .int .i64 0, .int .i64 0, .int .u32 0, .int .u32 0, .int .u32 0, .int .u32 0, .int .u32 0, .int .u32 0, .int .u32 0, .int .u32 0, .int .u32 0, .int .u32 0, .int .u32 0, .int .u32 0, .int .i64 0, .int .i64 0, .int .i64 0, .float .f64 0, .bool false, .int .u64 0, .int .u32 0, .int .u32 0, .int .u32 0, .int .u32 0, .int .u32 0, .int .u32 0, .int .u32 0, .int .u32 0, .int .u32 0, .int .u32 0, .int .u32 0, .int .u32 0] 55)).setRow w1.heap.size (zM (n : Nat)).cells.toArray := ⟨_, rfl⟩
  rw [← hw2] at hbn hy ⊢
  obtain ⟨c, hc⟩ : ∃ c, c = w1.heap.size := ⟨_, rfl⟩
  rw [← hc] at hy ⊢
  have hsz := HA1.out.2.2.2.size
  have hgl := HA1.out.2.2.1.lt
  have A2 := Lib.hid (show AtT 55 (zM 0).cells.toArray L s k c W.heap.size W w2 b1 (zM (n : Nat)).cells.toArray from ⟨HA1.out.1.below hbn, HA1.out.2.1.below hbn, hy, HA1.out.2.2.1.next hbn, HA1.out.2.2.2.trans (Off.ofBelow hbn)⟩)
  have HP := Lib.hid (show Pl L s k c W.heap.size W.heap.size from ⟨by have := HA1.out.1.lt; omega, by have := HK.out; omega, by have := HL.out; omega, by omega, HG.out, by omega⟩)
  have c0 : World.cell? _ ⟨c, 0, none⟩ = some (.int .i64 ((n : Nat) : Int)) := (ms_all A2.out.2.2.1).2.2.2.2.1
  clear hw2 hbn hy hc hsz hgl HA1
  go_wp2_with (first | (go_at_call 26; refine (haslabel_any _ _).mono ?_; rintro e wh ⟨rfl, rfl⟩; rw [h1]) | (go_at_call 28; refine (hasevent_any _ _).mono ?_; rintro e wh ⟨rfl, rfl⟩; rw [h2]) | (go_at_call 30; refine (hasseller_any _ _).mono ?_; rintro e wh ⟨rfl, rfl⟩; rw [h3]) | (go_at_call 31; refine (hasstance_any _ _).mono ?_; rintro e wh ⟨rfl, rfl⟩; rw [h4]) | (go_at_call 33; refine (hascount_any _ _).mono ?_; rintro e wh ⟨rfl, rfl⟩; rw [h5]))
  clear c0
  refine (rsmall_any k s b1 12 w2 A2.out.2.1 A2.out.1 (by decide)).mono ?_
  rintro e w3 ⟨hO, he⟩
  rcases hq : smallP 12 b1 with x | ⟨se, b2⟩
  · rw [hq] at he
    have HE := Lib.hid (HR0.out.trans (bindP_err hq))
    have HO := Lib.hid (A2.out.2.2.2.2.trans hO)
    obtain ⟨rfl, hM⟩ := he
    have HM := Lib.hid hM
    clear hq hO hM A2
    go_wp2_with fail
    exact ⟨rfl, HO.out, by rw [HE.out]; exact ⟨rfl, HM.out⟩⟩
  rw [hq] at he
  obtain ⟨rfl, hB⟩ := he
  have HR1 := Lib.hid (HR0.out.trans (bindP_ok hq))
  have BA3 := Lib.hid (AtT.step HP.out A2.out hO hB)
  clear hq hO hB A2 HR0
  have hk1 := (ms_all BA3.out.2.2.1).2.2.2.2.2.1
  have hf1 := BA3.out.2.2.1.frozen 1
  have A3 := Lib.hid (show AtT 55 (zM 0).cells.toArray L s k c W.heap.size W (w3.setCell ⟨c, 1, none⟩ (.int .i64 (se : Nat))) _ ({ zM (n : Nat) with se := (se : Nat) } : Ms).cells.toArray from at_setH HP.out BA3.out (by omega) rfl rfl rfl rfl)
  go_upto_region 12 with (first | (go_at_call 26; refine (haslabel_any _ _).mono ?_; rintro e wh ⟨rfl, rfl⟩; rw [h1]) | (go_at_call 28; refine (hasevent_any _ _).mono ?_; rintro e wh ⟨rfl, rfl⟩; rw [h2]) | (go_at_call 30; refine (hasseller_any _ _).mono ?_; rintro e wh ⟨rfl, rfl⟩; rw [h3]) | (go_at_call 31; refine (hasstance_any _ _).mono ?_; rintro e wh ⟨rfl, rfl⟩; rw [h4]) | (go_at_call 33; refine (hascount_any _ _).mono ?_; rintro e wh ⟨rfl, rfl⟩; rw [h5]))
  clear hk1 hf1 BA3
  obtain ⟨w4, hw⟩ : ∃ w4, w4 = w3.setCell ⟨c, 1, none⟩ (.int .i64 (se : Nat)) := ⟨_, rfl⟩
  rw [← hw] at A3 ⊢
  clear hw
  have c0 : World.cell? _ ⟨c, 0, none⟩ = some (.int .i64 ((n : Nat) : Int)) := (ms_all A3.out.2.2.1).2.2.2.2.1
  obtain ⟨m, hm⟩ : ∃ m : Ms, m = { zM (n : Nat) with se := (se : Nat) } := ⟨_, rfl⟩
  rw [← hm] at A3 HR1
  have rgl := A3.out.2.2.1.range
  clear hm
  go_wp2_with (first | (go_at_call 26; refine (haslabel_any _ _).mono ?_; rintro e wh ⟨rfl, rfl⟩; rw [h1]) | (go_at_call 28; refine (hasevent_any _ _).mono ?_; rintro e wh ⟨rfl, rfl⟩; rw [h2]) | (go_at_call 30; refine (hasseller_any _ _).mono ?_; rintro e wh ⟨rfl, rfl⟩; rw [h3]) | (go_at_call 31; refine (hasstance_any _ _).mono ?_; rintro e wh ⟨rfl, rfl⟩; rw [h4]) | (go_at_call 33; refine (hascount_any _ _).mono ?_; rintro e wh ⟨rfl, rfl⟩; rw [h5]) | (refine wpList_load_midg (by rfl) 55 _ rfl _ _ rfl (Ms.cells ?_) _ ?_ Tryz.underlying55 rfl (msinfo _) ?_; rotate_left; (focus assumption)))
  refine (right_any m w4).mono ?_
  rintro e w16 ⟨rfl, hb⟩
  have A17 := Lib.hid (A3.out.next HP.out hb)
  clear hb A3 rgl
  rcases hq : rightM m with _ | _
  · have HE := Lib.hid (HR1.out.trans (show mkM m b2 = .error 3 by unfold mkM; rw [hq]; rfl))
    clear hq
    go_wp2_with fail
    refine (rmust_not k s b2 w16 A17.out.2.1 A17.out.1).mono ?_
    rintro e w17 ⟨rfl, hM, hO⟩
    have HO := Lib.hid (A17.out.2.2.2.2.trans hO)
    have HM := Lib.hid hM
    clear hM hO A17
    go_wp2_with fail
    exact ⟨rfl, HO.out, by rw [HE.out]; exact ⟨rfl, HM.out⟩⟩
  · have HE := Lib.hid (HR1.out.trans (show mkM m b2 = .ok (m, b2) by unfold mkM; rw [hq]; rfl))
    clear hq
    go_wp2_with fail
    refine (rmust_yes k s b2 w16 A17.out.2.1 A17.out.1).mono ?_
    rintro e w17 ⟨rfl, rfl⟩
    have rgl := A17.out.2.2.1.range
    have bg := A17.out.2.2.2.1
    go_wp2_with (first | (refine wpList_load_midg (by rfl) 55 _ rfl _ _ rfl (Ms.cells ?_) _ ?_ Tryz.underlying55 rfl (msinfo _) ?_; rotate_left; (focus assumption)) | (refine wpList_store_blk rfl 55 _ _ rfl W.heap.size 55 _ m.cells.toArray rfl rfl bg (msinfoA _) (by rw [List.size_toArray, List.size_toArray, ms_len, ms_len]) (ms_one m) ?_; intro hrow))
    refine bodyPost_row (t := 55) m.cells.toArray rfl rfl rfl Tryz.underlying55 rfl (msinfoA _) hrow ?_
    have hf : ∀ j, j ≠ W.heap.size → (w16.setRow W.heap.size m.cells.toArray).heap[j]? = w16.heap[j]? := fun j hj => setRow_other w16 W.heap.size j _ hj
    have hz : (w16.setRow W.heap.size m.cells.toArray).heap.size = w16.heap.size := by simp
    exact ⟨A17.out.2.2.2.2.turn (Nat.le_refl _) rfl rfl rfl (Nat.le_of_eq hz.symm) hf, by rw [HE.out]; exact ⟨rfl, A17.out.1.turn (Nat.le_of_eq hz.symm) hf HP.out.gs HL.out⟩⟩
set_option maxHeartbeats 8000000 in
set_option maxRecDepth 20000 in
theorem get_en (k s : Nat) (bs : List Nat) (W : World) (hL : L ≤ W.heap.size) (hr : Rdr W k s) (h : RdB L W s bs) (hby : ∀ x ∈ bs, x < 256) (n : Nat) (b1 : List Nat) (hq : smallP 10 bs = .ok (n, b1)) (h1 : hl (n : Nat) = false) (h2 : hev (n : Nat) = false) (h3 : hse (n : Nat) = true) (h4 : hst (n : Nat) = false) (h5 : hco (n : Nat) = true) :
    Calls Tryz.prog 38 #[.pointer (some ⟨k, 0, none⟩)] W fun e W' => EndsV L s W (fun x : Ms => .agg x.cells.toArray) (msgP bs) e W' := by
  obtain ⟨R, hR⟩ : ∃ R, R = msgP bs := ⟨_, rfl⟩
  rw [← hR]
  have HR0 := Lib.hid ((hR.trans (by rw [msgP_def])).trans ((bindP_ok hq).trans (show kindP (n : Nat) b1 = (bindP (smallP 12) fun se => bindP (smallP 200) fun co => mkM { zM (n : Nat) with se := (se : Nat), co := (co : Nat) }) b1 by unfold kindP; rw [h1, h2, h3, h5]; rfl)))
  have HBY := Lib.hid (lt_tail (small_one hby hq) hby)
  clear hR hby
  have hgs : W.heap.size ≠ s := by have := h.lt; omega
  have b1' := (Below.refl W.heap.size W).alloc (Nat.le_refl _) (.cells (zM 0).cells.toArray 55)
  obtain ⟨w0, hw0⟩ : ∃ w0, w0 = W.alloc (.cells (zM 0).cells.toArray 55) := ⟨_, rfl⟩
  have A0 : AtG 55 L s k W.heap.size W w0 bs (zM 0).cells.toArray := by rw [hw0]; exact ⟨h.below b1', hr.below b1', Blk.new _ _ _, Off.ofBelow b1'⟩
  have hk : k < W.heap.size := hr.lt
  rw [zM_cells] at hw0
  have HW0 := Lib.hid hw0
  have HA0 := Lib.hid A0
  have HL := Lib.hid hL
  have HG := Lib.hid hgs
  have HK := Lib.hid hk
  clear b1' h hr hL hgs hw0 A0 hk
  go_enter Tryz.func38, Tryz.ntmps38
  go_upto_region 1 with fail
  rw [← HW0.out]
  go_wp2_with fail
  refine (rsmall_any k s bs 10 w0 HA0.out.2.1 HA0.out.1 (by decide)).mono ?_
  rintro e w1 ⟨hO, he⟩
  rw [hq] at he
  obtain ⟨rfl, hB⟩ := he
  have HA1 := Lib.hid (HA0.out.step HG.out hO hB)
  clear hq hO hB HA0 HW0
  go_upto_region 2 with (first | (refine wpList_build_lit (zM (n : Nat)).cells.toArray rfl 55 _ rfl (built_zM (n : Nat)) ?_) | (refine wpList_store_blk rfl 55 _ _ rfl w1.heap.size 55 (zM 0).cells.toArray (zM (n : Nat)).cells.toArray rfl rfl (by rw [zM_cells]; exact Blk.new' rfl) (msinfoA _) (by rw [List.size_toArray, List.size_toArray, ms_len, ms_len]) (ms_one _) ?_; intro hy))
  have hbn := below_setRow ((Below.refl w1.heap.size w1).alloc (Nat.le_refl _) (.cells (zM 0).cells.toArray 55)) (Nat.le_refl _) (zM (n : Nat)).cells.toArray
  rw [zM_cells 0] at hbn
  obtain ⟨w2, hw2⟩ : ∃ w2, w2 = (w1.alloc (.cells #[.int .i64 0, .int .i64 0, .int .i64 0, .int .i64 0, .int .i64 0, .int .u64 0, .int .i64 0, .int .u32 0, .int .i64 0, .int .i64 0, .int .u32 0, .int .u32 0, .int .u32 0, .int .u32 0, .int .u32 0, .int .u32 0, .int .u32 0, .int .u32 0, .int .u32 0, .int .u32 0, .int .u32 0, .int .u32 0, .int .u64 0, .int .i64 0, .int .u32 0, .int .i64 0, .int .i64 0, .int .u32 0, .int .u32 0, .int .u32 0, .int .u32 0, .int .u32 0, .int .u32 0, .int .u32 0, .int .u32 0, .int .u32 0, .int .u32 0, .int .u32 0, .int .u32 0, .int .i64 0, .int .i64 0, .int .i64 0, .float .f64 0, .bool false, .int .u64 0, .int .u32 0, .int .u32 0, .int .u32 0, .int .u32 0, .int .u32 0, .int .u32 0, .int .u32 0, .int .u32 0, .int .u32 0, .int .u32 0, .int .u32 0, .int .u32 0] 55)).setRow w1.heap.size (zM (n : Nat)).cells.toArray := ⟨_, rfl⟩
  rw [← hw2] at hbn hy ⊢
  obtain ⟨c, hc⟩ : ∃ c, c = w1.heap.size := ⟨_, rfl⟩
  rw [← hc] at hy ⊢
  have hsz := HA1.out.2.2.2.size
  have hgl := HA1.out.2.2.1.lt
  have A2 := Lib.hid (show AtT 55 (zM 0).cells.toArray L s k c W.heap.size W w2 b1 (zM (n : Nat)).cells.toArray from ⟨HA1.out.1.below hbn, HA1.out.2.1.below hbn, hy, HA1.out.2.2.1.next hbn, HA1.out.2.2.2.trans (Off.ofBelow hbn)⟩)
  have HP := Lib.hid (show Pl L s k c W.heap.size W.heap.size from ⟨by have := HA1.out.1.lt; omega, by have := HK.out; omega, by have := HL.out; omega, by omega, HG.out, by omega⟩)
  have c0 : World.cell? _ ⟨c, 0, none⟩ = some (.int .i64 ((n : Nat) : Int)) := (ms_all A2.out.2.2.1).2.2.2.2.1
  clear hw2 hbn hy hc hsz hgl HA1
  go_wp2_with (first | (go_at_call 26; refine (haslabel_any _ _).mono ?_; rintro e wh ⟨rfl, rfl⟩; rw [h1]) | (go_at_call 28; refine (hasevent_any _ _).mono ?_; rintro e wh ⟨rfl, rfl⟩; rw [h2]) | (go_at_call 30; refine (hasseller_any _ _).mono ?_; rintro e wh ⟨rfl, rfl⟩; rw [h3]) | (go_at_call 31; refine (hasstance_any _ _).mono ?_; rintro e wh ⟨rfl, rfl⟩; rw [h4]) | (go_at_call 33; refine (hascount_any _ _).mono ?_; rintro e wh ⟨rfl, rfl⟩; rw [h5]))
  clear c0
  refine (rsmall_any k s b1 12 w2 A2.out.2.1 A2.out.1 (by decide)).mono ?_
  rintro e w3 ⟨hO, he⟩
  rcases hq : smallP 12 b1 with x | ⟨se, b2⟩
  · rw [hq] at he
    have HE := Lib.hid (HR0.out.trans (bindP_err hq))
    have HO := Lib.hid (A2.out.2.2.2.2.trans hO)
    obtain ⟨rfl, hM⟩ := he
    have HM := Lib.hid hM
    clear hq hO hM A2
    go_wp2_with fail
    exact ⟨rfl, HO.out, by rw [HE.out]; exact ⟨rfl, HM.out⟩⟩
  rw [hq] at he
  obtain ⟨rfl, hB⟩ := he
  have HR1 := Lib.hid (HR0.out.trans (bindP_ok hq))
  have BA3 := Lib.hid (AtT.step HP.out A2.out hO hB)
  clear hq hO hB A2 HR0
  have hk1 := (ms_all BA3.out.2.2.1).2.2.2.2.2.1
  have hf1 := BA3.out.2.2.1.frozen 1
  have A3 := Lib.hid (show AtT 55 (zM 0).cells.toArray L s k c W.heap.size W (w3.setCell ⟨c, 1, none⟩ (.int .i64 (se : Nat))) _ ({ zM (n : Nat) with se := (se : Nat) } : Ms).cells.toArray from at_setH HP.out BA3.out (by omega) rfl rfl rfl rfl)
  go_upto_region 12 with (first | (go_at_call 26; refine (haslabel_any _ _).mono ?_; rintro e wh ⟨rfl, rfl⟩; rw [h1]) | (go_at_call 28; refine (hasevent_any _ _).mono ?_; rintro e wh ⟨rfl, rfl⟩; rw [h2]) | (go_at_call 30; refine (hasseller_any _ _).mono ?_; rintro e wh ⟨rfl, rfl⟩; rw [h3]) | (go_at_call 31; refine (hasstance_any _ _).mono ?_; rintro e wh ⟨rfl, rfl⟩; rw [h4]) | (go_at_call 33; refine (hascount_any _ _).mono ?_; rintro e wh ⟨rfl, rfl⟩; rw [h5]))
  clear hk1 hf1 BA3
  obtain ⟨w4, hw⟩ : ∃ w4, w4 = w3.setCell ⟨c, 1, none⟩ (.int .i64 (se : Nat)) := ⟨_, rfl⟩
  rw [← hw] at A3 ⊢
  clear hw
  have c0 : World.cell? _ ⟨c, 0, none⟩ = some (.int .i64 ((n : Nat) : Int)) := (ms_all A3.out.2.2.1).2.2.2.2.1
  go_wp2_with (first | (go_at_call 26; refine (haslabel_any _ _).mono ?_; rintro e wh ⟨rfl, rfl⟩; rw [h1]) | (go_at_call 28; refine (hasevent_any _ _).mono ?_; rintro e wh ⟨rfl, rfl⟩; rw [h2]) | (go_at_call 30; refine (hasseller_any _ _).mono ?_; rintro e wh ⟨rfl, rfl⟩; rw [h3]) | (go_at_call 31; refine (hasstance_any _ _).mono ?_; rintro e wh ⟨rfl, rfl⟩; rw [h4]) | (go_at_call 33; refine (hascount_any _ _).mono ?_; rintro e wh ⟨rfl, rfl⟩; rw [h5]))
  clear c0
  refine (rsmall_any k s b2 200 w4 A3.out.2.1 A3.out.1 (by decide)).mono ?_
  rintro e w5 ⟨hO, he⟩
  rcases hq : smallP 200 b2 with x | ⟨co, b3⟩
  · rw [hq] at he
    have HE := Lib.hid (HR1.out.trans (bindP_err hq))
    have HO := Lib.hid (A3.out.2.2.2.2.trans hO)
    obtain ⟨rfl, hM⟩ := he
    have HM := Lib.hid hM
    clear hq hO hM A3
    go_wp2_with fail
    exact ⟨rfl, HO.out, by rw [HE.out]; exact ⟨rfl, HM.out⟩⟩
  rw [hq] at he
  obtain ⟨rfl, hB⟩ := he
  have HR2 := Lib.hid (HR1.out.trans (bindP_ok hq))
  have BA4 := Lib.hid (AtT.step HP.out A3.out hO hB)
  clear hq hO hB A3 HR1
  have hk2 := (ms_all BA4.out.2.2.1).2.2.2.2.2.2.1
  have hf2 := BA4.out.2.2.1.frozen 2
  have A4 := Lib.hid (show AtT 55 (zM 0).cells.toArray L s k c W.heap.size W (w5.setCell ⟨c, 2, none⟩ (.int .i64 (co : Nat))) _ ({ zM (n : Nat) with se := (se : Nat), co := (co : Nat) } : Ms).cells.toArray from at_setH HP.out BA4.out (by omega) rfl rfl rfl rfl)
  go_upto_region 14 with (first | (go_at_call 26; refine (haslabel_any _ _).mono ?_; rintro e wh ⟨rfl, rfl⟩; rw [h1]) | (go_at_call 28; refine (hasevent_any _ _).mono ?_; rintro e wh ⟨rfl, rfl⟩; rw [h2]) | (go_at_call 30; refine (hasseller_any _ _).mono ?_; rintro e wh ⟨rfl, rfl⟩; rw [h3]) | (go_at_call 31; refine (hasstance_any _ _).mono ?_; rintro e wh ⟨rfl, rfl⟩; rw [h4]) | (go_at_call 33; refine (hascount_any _ _).mono ?_; rintro e wh ⟨rfl, rfl⟩; rw [h5]))
  clear hk2 hf2 BA4
  obtain ⟨w6, hw⟩ : ∃ w6, w6 = w5.setCell ⟨c, 2, none⟩ (.int .i64 (co : Nat)) := ⟨_, rfl⟩
  rw [← hw] at A4 ⊢
  clear hw
  obtain ⟨m, hm⟩ : ∃ m : Ms, m = { zM (n : Nat) with se := (se : Nat), co := (co : Nat) } := ⟨_, rfl⟩
  rw [← hm] at A4 HR2
  have rgl := A4.out.2.2.1.range
  clear hm
  go_wp2_with (first | (go_at_call 26; refine (haslabel_any _ _).mono ?_; rintro e wh ⟨rfl, rfl⟩; rw [h1]) | (go_at_call 28; refine (hasevent_any _ _).mono ?_; rintro e wh ⟨rfl, rfl⟩; rw [h2]) | (go_at_call 30; refine (hasseller_any _ _).mono ?_; rintro e wh ⟨rfl, rfl⟩; rw [h3]) | (go_at_call 31; refine (hasstance_any _ _).mono ?_; rintro e wh ⟨rfl, rfl⟩; rw [h4]) | (go_at_call 33; refine (hascount_any _ _).mono ?_; rintro e wh ⟨rfl, rfl⟩; rw [h5]) | (refine wpList_load_midg (by rfl) 55 _ rfl _ _ rfl (Ms.cells ?_) _ ?_ Tryz.underlying55 rfl (msinfo _) ?_; rotate_left; (focus assumption)))
  refine (right_any m w6).mono ?_
  rintro e w16 ⟨rfl, hb⟩
  have A17 := Lib.hid (A4.out.next HP.out hb)
  clear hb A4 rgl
  rcases hq : rightM m with _ | _
  · have HE := Lib.hid (HR2.out.trans (show mkM m b3 = .error 3 by unfold mkM; rw [hq]; rfl))
    clear hq
    go_wp2_with fail
    refine (rmust_not k s b3 w16 A17.out.2.1 A17.out.1).mono ?_
    rintro e w17 ⟨rfl, hM, hO⟩
    have HO := Lib.hid (A17.out.2.2.2.2.trans hO)
    have HM := Lib.hid hM
    clear hM hO A17
    go_wp2_with fail
    exact ⟨rfl, HO.out, by rw [HE.out]; exact ⟨rfl, HM.out⟩⟩
  · have HE := Lib.hid (HR2.out.trans (show mkM m b3 = .ok (m, b3) by unfold mkM; rw [hq]; rfl))
    clear hq
    go_wp2_with fail
    refine (rmust_yes k s b3 w16 A17.out.2.1 A17.out.1).mono ?_
    rintro e w17 ⟨rfl, rfl⟩
    have rgl := A17.out.2.2.1.range
    have bg := A17.out.2.2.2.1
    go_wp2_with (first | (refine wpList_load_midg (by rfl) 55 _ rfl _ _ rfl (Ms.cells ?_) _ ?_ Tryz.underlying55 rfl (msinfo _) ?_; rotate_left; (focus assumption)) | (refine wpList_store_blk rfl 55 _ _ rfl W.heap.size 55 _ m.cells.toArray rfl rfl bg (msinfoA _) (by rw [List.size_toArray, List.size_toArray, ms_len, ms_len]) (ms_one m) ?_; intro hrow))
    refine bodyPost_row (t := 55) m.cells.toArray rfl rfl rfl Tryz.underlying55 rfl (msinfoA _) hrow ?_
    have hf : ∀ j, j ≠ W.heap.size → (w16.setRow W.heap.size m.cells.toArray).heap[j]? = w16.heap[j]? := fun j hj => setRow_other w16 W.heap.size j _ hj
    have hz : (w16.setRow W.heap.size m.cells.toArray).heap.size = w16.heap.size := by simp
    exact ⟨A17.out.2.2.2.2.turn (Nat.le_refl _) rfl rfl rfl (Nat.le_of_eq hz.symm) hf, by rw [HE.out]; exact ⟨rfl, A17.out.1.turn (Nat.le_of_eq hz.symm) hf HP.out.gs HL.out⟩⟩
set_option maxHeartbeats 8000000 in
set_option maxRecDepth 20000 in
theorem get_st (k s : Nat) (bs : List Nat) (W : World) (hL : L ≤ W.heap.size) (hr : Rdr W k s) (h : RdB L W s bs) (hby : ∀ x ∈ bs, x < 256) (n : Nat) (b1 : List Nat) (hq : smallP 10 bs = .ok (n, b1)) (h1 : hl (n : Nat) = false) (h2 : hev (n : Nat) = false) (h3 : hse (n : Nat) = false) (h4 : hst (n : Nat) = true) (h5 : hco (n : Nat) = false) :
    Calls Tryz.prog 38 #[.pointer (some ⟨k, 0, none⟩)] W fun e W' => EndsV L s W (fun x : Ms => .agg x.cells.toArray) (msgP bs) e W' := by
  obtain ⟨R, hR⟩ : ∃ R, R = msgP bs := ⟨_, rfl⟩
  rw [← hR]
  have HR0 := Lib.hid ((hR.trans (by rw [msgP_def])).trans ((bindP_ok hq).trans (show kindP (n : Nat) b1 = (bindP (smallP 12) fun ca => bindP (smallP 21) fun ro => bindP stP fun s => mkM { zM (n : Nat) with ca := (ca : Nat), ro := (ro : Nat), s := s }) b1 by unfold kindP; rw [h1, h2, h3, h4]; rfl)))
  have HBY := Lib.hid (lt_tail (small_one hby hq) hby)
  clear hR hby
  have hgs : W.heap.size ≠ s := by have := h.lt; omega
  have b1' := (Below.refl W.heap.size W).alloc (Nat.le_refl _) (.cells (zM 0).cells.toArray 55)
  obtain ⟨w0, hw0⟩ : ∃ w0, w0 = W.alloc (.cells (zM 0).cells.toArray 55) := ⟨_, rfl⟩
  have A0 : AtG 55 L s k W.heap.size W w0 bs (zM 0).cells.toArray := by rw [hw0]; exact ⟨h.below b1', hr.below b1', Blk.new _ _ _, Off.ofBelow b1'⟩
  have hk : k < W.heap.size := hr.lt
  rw [zM_cells] at hw0
  have HW0 := Lib.hid hw0
  have HA0 := Lib.hid A0
  have HL := Lib.hid hL
  have HG := Lib.hid hgs
  have HK := Lib.hid hk
  clear b1' h hr hL hgs hw0 A0 hk
  go_enter Tryz.func38, Tryz.ntmps38
  go_upto_region 1 with fail
  rw [← HW0.out]
  go_wp2_with fail
  refine (rsmall_any k s bs 10 w0 HA0.out.2.1 HA0.out.1 (by decide)).mono ?_
  rintro e w1 ⟨hO, he⟩
  rw [hq] at he
  obtain ⟨rfl, hB⟩ := he
  have HA1 := Lib.hid (HA0.out.step HG.out hO hB)
  clear hq hO hB HA0 HW0
  go_upto_region 2 with (first | (refine wpList_build_lit (zM (n : Nat)).cells.toArray rfl 55 _ rfl (built_zM (n : Nat)) ?_) | (refine wpList_store_blk rfl 55 _ _ rfl w1.heap.size 55 (zM 0).cells.toArray (zM (n : Nat)).cells.toArray rfl rfl (by rw [zM_cells]; exact Blk.new' rfl) (msinfoA _) (by rw [List.size_toArray, List.size_toArray, ms_len, ms_len]) (ms_one _) ?_; intro hy))
  have hbn := below_setRow ((Below.refl w1.heap.size w1).alloc (Nat.le_refl _) (.cells (zM 0).cells.toArray 55)) (Nat.le_refl _) (zM (n : Nat)).cells.toArray
  rw [zM_cells 0] at hbn
  obtain ⟨w2, hw2⟩ : ∃ w2, w2 = (w1.alloc (.cells #[.int .i64 0, .int .i64 0, .int .i64 0, .int .i64 0, .int .i64 0, .int .u64 0, .int .i64 0, .int .u32 0, .int .i64 0, .int .i64 0, .int .u32 0, .int .u32 0, .int .u32 0, .int .u32 0, .int .u32 0, .int .u32 0, .int .u32 0, .int .u32 0, .int .u32 0, .int .u32 0, .int .u32 0, .int .u32 0, .int .u64 0, .int .i64 0, .int .u32 0, .int .i64 0, .int .i64 0, .int .u32 0, .int .u32 0, .int .u32 0, .int .u32 0, .int .u32 0, .int .u32 0, .int .u32 0, .int .u32 0, .int .u32 0, .int .u32 0, .int .u32 0, .int .u32 0, .int .i64 0, .int .i64 0, .int .i64 0, .float .f64 0, .bool false, .int .u64 0, .int .u32 0, .int .u32 0, .int .u32 0, .int .u32 0, .int .u32 0, .int .u32 0, .int .u32 0, .int .u32 0, .int .u32 0, .int .u32 0, .int .u32 0, .int .u32 0] 55)).setRow w1.heap.size (zM (n : Nat)).cells.toArray := ⟨_, rfl⟩
  rw [← hw2] at hbn hy ⊢
  obtain ⟨c, hc⟩ : ∃ c, c = w1.heap.size := ⟨_, rfl⟩
  rw [← hc] at hy ⊢
  have hsz := HA1.out.2.2.2.size
  have hgl := HA1.out.2.2.1.lt
  have A2 := Lib.hid (show AtT 55 (zM 0).cells.toArray L s k c W.heap.size W w2 b1 (zM (n : Nat)).cells.toArray from ⟨HA1.out.1.below hbn, HA1.out.2.1.below hbn, hy, HA1.out.2.2.1.next hbn, HA1.out.2.2.2.trans (Off.ofBelow hbn)⟩)
  have HP := Lib.hid (show Pl L s k c W.heap.size W.heap.size from ⟨by have := HA1.out.1.lt; omega, by have := HK.out; omega, by have := HL.out; omega, by omega, HG.out, by omega⟩)
  have c0 : World.cell? _ ⟨c, 0, none⟩ = some (.int .i64 ((n : Nat) : Int)) := (ms_all A2.out.2.2.1).2.2.2.2.1
  clear hw2 hbn hy hc hsz hgl HA1
  go_wp2_with (first | (go_at_call 26; refine (haslabel_any _ _).mono ?_; rintro e wh ⟨rfl, rfl⟩; rw [h1]) | (go_at_call 28; refine (hasevent_any _ _).mono ?_; rintro e wh ⟨rfl, rfl⟩; rw [h2]) | (go_at_call 30; refine (hasseller_any _ _).mono ?_; rintro e wh ⟨rfl, rfl⟩; rw [h3]) | (go_at_call 31; refine (hasstance_any _ _).mono ?_; rintro e wh ⟨rfl, rfl⟩; rw [h4]) | (go_at_call 33; refine (hascount_any _ _).mono ?_; rintro e wh ⟨rfl, rfl⟩; rw [h5]))
  clear c0
  refine (rsmall_any k s b1 12 w2 A2.out.2.1 A2.out.1 (by decide)).mono ?_
  rintro e w3 ⟨hO, he⟩
  rcases hq : smallP 12 b1 with x | ⟨ca, b2⟩
  · rw [hq] at he
    have HE := Lib.hid (HR0.out.trans (bindP_err hq))
    have HO := Lib.hid (A2.out.2.2.2.2.trans hO)
    obtain ⟨rfl, hM⟩ := he
    have HM := Lib.hid hM
    clear hq hO hM A2
    go_wp2_with fail
    exact ⟨rfl, HO.out, by rw [HE.out]; exact ⟨rfl, HM.out⟩⟩
  rw [hq] at he
  obtain ⟨rfl, hB⟩ := he
  have HR1 := Lib.hid (HR0.out.trans (bindP_ok hq))
  have BA3 := Lib.hid (AtT.step HP.out A2.out hO hB)
  clear hq hO hB A2 HR0
  have hk3 := (ms_all BA3.out.2.2.1).2.2.2.2.2.2.2.1
  have hf3 := BA3.out.2.2.1.frozen 3
  have A3 := Lib.hid (show AtT 55 (zM 0).cells.toArray L s k c W.heap.size W (w3.setCell ⟨c, 3, none⟩ (.int .i64 (ca : Nat))) _ ({ zM (n : Nat) with ca := (ca : Nat) } : Ms).cells.toArray from at_setH HP.out BA3.out (by omega) rfl rfl rfl rfl)
  go_upto_region 10 with (first | (go_at_call 26; refine (haslabel_any _ _).mono ?_; rintro e wh ⟨rfl, rfl⟩; rw [h1]) | (go_at_call 28; refine (hasevent_any _ _).mono ?_; rintro e wh ⟨rfl, rfl⟩; rw [h2]) | (go_at_call 30; refine (hasseller_any _ _).mono ?_; rintro e wh ⟨rfl, rfl⟩; rw [h3]) | (go_at_call 31; refine (hasstance_any _ _).mono ?_; rintro e wh ⟨rfl, rfl⟩; rw [h4]) | (go_at_call 33; refine (hascount_any _ _).mono ?_; rintro e wh ⟨rfl, rfl⟩; rw [h5]))
  clear hk3 hf3 BA3
  obtain ⟨w4, hw⟩ : ∃ w4, w4 = w3.setCell ⟨c, 3, none⟩ (.int .i64 (ca : Nat)) := ⟨_, rfl⟩
  rw [← hw] at A3 ⊢
  clear hw
  go_wp2_with (first | (go_at_call 26; refine (haslabel_any _ _).mono ?_; rintro e wh ⟨rfl, rfl⟩; rw [h1]) | (go_at_call 28; refine (hasevent_any _ _).mono ?_; rintro e wh ⟨rfl, rfl⟩; rw [h2]) | (go_at_call 30; refine (hasseller_any _ _).mono ?_; rintro e wh ⟨rfl, rfl⟩; rw [h3]) | (go_at_call 31; refine (hasstance_any _ _).mono ?_; rintro e wh ⟨rfl, rfl⟩; rw [h4]) | (go_at_call 33; refine (hascount_any _ _).mono ?_; rintro e wh ⟨rfl, rfl⟩; rw [h5]))
  refine (rsmall_any k s b2 21 w4 A3.out.2.1 A3.out.1 (by decide)).mono ?_
  rintro e w5 ⟨hO, he⟩
  rcases hq : smallP 21 b2 with x | ⟨ro, b3⟩
  · rw [hq] at he
    have HE := Lib.hid (HR1.out.trans (bindP_err hq))
    have HO := Lib.hid (A3.out.2.2.2.2.trans hO)
    obtain ⟨rfl, hM⟩ := he
    have HM := Lib.hid hM
    clear hq hO hM A3
    go_wp2_with fail
    exact ⟨rfl, HO.out, by rw [HE.out]; exact ⟨rfl, HM.out⟩⟩
  rw [hq] at he
  obtain ⟨rfl, hB⟩ := he
  have HR2 := Lib.hid (HR1.out.trans (bindP_ok hq))
  have BA4 := Lib.hid (AtT.step HP.out A3.out hO hB)
  clear hq hO hB A3 HR1
  have hk4 := (ms_all BA4.out.2.2.1).2.2.2.2.2.2.2.2
  have hf4 := BA4.out.2.2.1.frozen 4
  have A4 := Lib.hid (show AtT 55 (zM 0).cells.toArray L s k c W.heap.size W (w5.setCell ⟨c, 4, none⟩ (.int .i64 (ro : Nat))) _ ({ zM (n : Nat) with ca := (ca : Nat), ro := (ro : Nat) } : Ms).cells.toArray from at_setH HP.out BA4.out (by omega) rfl rfl rfl rfl)
  go_upto_region 11 with (first | (go_at_call 26; refine (haslabel_any _ _).mono ?_; rintro e wh ⟨rfl, rfl⟩; rw [h1]) | (go_at_call 28; refine (hasevent_any _ _).mono ?_; rintro e wh ⟨rfl, rfl⟩; rw [h2]) | (go_at_call 30; refine (hasseller_any _ _).mono ?_; rintro e wh ⟨rfl, rfl⟩; rw [h3]) | (go_at_call 31; refine (hasstance_any _ _).mono ?_; rintro e wh ⟨rfl, rfl⟩; rw [h4]) | (go_at_call 33; refine (hascount_any _ _).mono ?_; rintro e wh ⟨rfl, rfl⟩; rw [h5]))
  clear hk4 hf4 BA4
  obtain ⟨w6, hw⟩ : ∃ w6, w6 = w5.setCell ⟨c, 4, none⟩ (.int .i64 (ro : Nat)) := ⟨_, rfl⟩
  rw [← hw] at A4 ⊢
  clear hw
  go_wp2_with (first | (go_at_call 26; refine (haslabel_any _ _).mono ?_; rintro e wh ⟨rfl, rfl⟩; rw [h1]) | (go_at_call 28; refine (hasevent_any _ _).mono ?_; rintro e wh ⟨rfl, rfl⟩; rw [h2]) | (go_at_call 30; refine (hasseller_any _ _).mono ?_; rintro e wh ⟨rfl, rfl⟩; rw [h3]) | (go_at_call 31; refine (hasstance_any _ _).mono ?_; rintro e wh ⟨rfl, rfl⟩; rw [h4]) | (go_at_call 33; refine (hascount_any _ _).mono ?_; rintro e wh ⟨rfl, rfl⟩; rw [h5]))
  refine (getstance_any k s b3 w6 (by have := A4.out.2.2.1.lt; have := HP.out.cl; omega) A4.out.2.1 A4.out.1).mono ?_
  rintro e w7 ⟨hO, he⟩
  rcases hq : stP b3 with x | ⟨y, b4⟩
  · rw [hq] at he
    have HE := Lib.hid (HR2.out.trans (bindP_err hq))
    have HO := Lib.hid (A4.out.2.2.2.2.trans hO)
    obtain ⟨rfl, hM⟩ := he
    have HM := Lib.hid hM
    clear hq hO hM A4
    go_wp2_with fail
    exact ⟨rfl, HO.out, by rw [HE.out]; exact ⟨rfl, HM.out⟩⟩
  rw [hq] at he
  obtain ⟨rfl, hB⟩ := he
  have HR3 := Lib.hid (HR2.out.trans (bindP_ok hq))
  have BA5 := Lib.hid (AtT.step HP.out A4.out hO hB)
  clear hq hO hB A4 HR2
  have hth := BA5.out.2.2.1.thereT (o := 43) (n := y.cells.toArray.size) (by rw [List.size_toArray, List.size_toArray, ms_len, st_len]; omega)
  have A5 := Lib.hid (at_setS HP.out BA5.out y)
  go_upto_region 12 with (first | (go_at_call 26; refine (haslabel_any _ _).mono ?_; rintro e wh ⟨rfl, rfl⟩; rw [h1]) | (go_at_call 28; refine (hasevent_any _ _).mono ?_; rintro e wh ⟨rfl, rfl⟩; rw [h2]) | (go_at_call 30; refine (hasseller_any _ _).mono ?_; rintro e wh ⟨rfl, rfl⟩; rw [h3]) | (go_at_call 31; refine (hasstance_any _ _).mono ?_; rintro e wh ⟨rfl, rfl⟩; rw [h4]) | (go_at_call 33; refine (hascount_any _ _).mono ?_; rintro e wh ⟨rfl, rfl⟩; rw [h5]) | (refine wpList_store_mid rfl 33 _ _ rfl c 43 y.cells.toArray rfl rfl hth (stinfoA _) (st_one _) ?_; show wpList _ _ _ _ _ (w7.setCells c 43 y.cells)))
  clear hth BA5
  obtain ⟨w8, hw⟩ : ∃ w8, w8 = w7.setCells c 43 y.cells := ⟨_, rfl⟩
  rw [← hw] at A5 ⊢
  clear hw
  have c0 : World.cell? _ ⟨c, 0, none⟩ = some (.int .i64 ((n : Nat) : Int)) := (ms_all A5.out.2.2.1).2.2.2.2.1
  obtain ⟨m, hm⟩ : ∃ m : Ms, m = { zM (n : Nat) with ca := (ca : Nat), ro := (ro : Nat), s := y } := ⟨_, rfl⟩
  rw [← hm] at A5 HR3
  have rgl := A5.out.2.2.1.range
  clear hm
  go_wp2_with (first | (go_at_call 26; refine (haslabel_any _ _).mono ?_; rintro e wh ⟨rfl, rfl⟩; rw [h1]) | (go_at_call 28; refine (hasevent_any _ _).mono ?_; rintro e wh ⟨rfl, rfl⟩; rw [h2]) | (go_at_call 30; refine (hasseller_any _ _).mono ?_; rintro e wh ⟨rfl, rfl⟩; rw [h3]) | (go_at_call 31; refine (hasstance_any _ _).mono ?_; rintro e wh ⟨rfl, rfl⟩; rw [h4]) | (go_at_call 33; refine (hascount_any _ _).mono ?_; rintro e wh ⟨rfl, rfl⟩; rw [h5]) | (refine wpList_load_midg (by rfl) 55 _ rfl _ _ rfl (Ms.cells ?_) _ ?_ Tryz.underlying55 rfl (msinfo _) ?_; rotate_left; (focus assumption)))
  refine (right_any m w8).mono ?_
  rintro e w16 ⟨rfl, hb⟩
  have A17 := Lib.hid (A5.out.next HP.out hb)
  clear hb A5 rgl
  rcases hq : rightM m with _ | _
  · have HE := Lib.hid (HR3.out.trans (show mkM m b4 = .error 3 by unfold mkM; rw [hq]; rfl))
    clear hq
    go_wp2_with fail
    refine (rmust_not k s b4 w16 A17.out.2.1 A17.out.1).mono ?_
    rintro e w17 ⟨rfl, hM, hO⟩
    have HO := Lib.hid (A17.out.2.2.2.2.trans hO)
    have HM := Lib.hid hM
    clear hM hO A17
    go_wp2_with fail
    exact ⟨rfl, HO.out, by rw [HE.out]; exact ⟨rfl, HM.out⟩⟩
  · have HE := Lib.hid (HR3.out.trans (show mkM m b4 = .ok (m, b4) by unfold mkM; rw [hq]; rfl))
    clear hq
    go_wp2_with fail
    refine (rmust_yes k s b4 w16 A17.out.2.1 A17.out.1).mono ?_
    rintro e w17 ⟨rfl, rfl⟩
    have rgl := A17.out.2.2.1.range
    have bg := A17.out.2.2.2.1
    go_wp2_with (first | (refine wpList_load_midg (by rfl) 55 _ rfl _ _ rfl (Ms.cells ?_) _ ?_ Tryz.underlying55 rfl (msinfo _) ?_; rotate_left; (focus assumption)) | (refine wpList_store_blk rfl 55 _ _ rfl W.heap.size 55 _ m.cells.toArray rfl rfl bg (msinfoA _) (by rw [List.size_toArray, List.size_toArray, ms_len, ms_len]) (ms_one m) ?_; intro hrow))
    refine bodyPost_row (t := 55) m.cells.toArray rfl rfl rfl Tryz.underlying55 rfl (msinfoA _) hrow ?_
    have hf : ∀ j, j ≠ W.heap.size → (w16.setRow W.heap.size m.cells.toArray).heap[j]? = w16.heap[j]? := fun j hj => setRow_other w16 W.heap.size j _ hj
    have hz : (w16.setRow W.heap.size m.cells.toArray).heap.size = w16.heap.size := by simp
    exact ⟨A17.out.2.2.2.2.turn (Nat.le_refl _) rfl rfl rfl (Nat.le_of_eq hz.symm) hf, by rw [HE.out]; exact ⟨rfl, A17.out.1.turn (Nat.le_of_eq hz.symm) hf HP.out.gs HL.out⟩⟩
set_option maxHeartbeats 4000000 in
set_option maxRecDepth 20000 in
theorem msget_any (k s : Nat) (bs : List Nat) (W : World) (hL : L ≤ W.heap.size) (hr : Rdr W k s) (h : RdB L W s bs) (hby : ∀ x ∈ bs, x < 256) :
    Calls Tryz.prog 38 #[.pointer (some ⟨k, 0, none⟩)] W fun e W' => EndsV L s W (fun x : Ms => .agg x.cells.toArray) (msgP bs) e W' := by
  rcases hq : smallP 10 bs with x | ⟨n, b1⟩
  · obtain ⟨R, hR⟩ : ∃ R, R = msgP bs := ⟨_, rfl⟩
    rw [← hR]
    have HE := Lib.hid ((hR.trans (by rw [msgP_def])).trans (bindP_err hq))
    have b1' := (Below.refl W.heap.size W).alloc (Nat.le_refl _) (.cells (zM 0).cells.toArray 55)
    rw [zM_cells] at b1'
    have H0 := Lib.hid (And.intro (h.below b1') (And.intro (hr.below b1') (Off.ofBelow (s := s) b1')))
    clear hR b1' h hr hL hby
    go_enter Tryz.func38, Tryz.ntmps38
    go_wp2_with fail
    refine (rsmall_any k s bs 10 _ H0.out.2.1 H0.out.1 (by decide)).mono ?_
    rintro e w1 ⟨hO, he⟩
    rw [hq] at he
    have HO := Lib.hid (H0.out.2.2.trans hO)
    obtain ⟨rfl, hM⟩ := he
    have HM := Lib.hid hM
    clear hq hO hM H0
    go_wp2_with fail
    exact ⟨rfl, HO.out, by rw [HE.out]; exact ⟨rfl, HM.out⟩⟩
  · rcases kd_any (n : Nat) with ⟨_, h1, h2, h3, h4, h5⟩ | ⟨_, h1, h2, h3, h4, h5⟩ | ⟨_, h1, h2, h3, h4, h5⟩ | ⟨_, h1, h2, h3, h4, h5⟩ | ⟨_, h1, h2, h3, h4, h5⟩ | ⟨_, h1, h2, h3, h4, h5⟩
    · exact get_lab k s bs W hL hr h hby n b1 hq h1 h2 h3 h4 h5
    · exact get_ev k s bs W hL hr h hby n b1 hq h1 h2 h3 h4 h5
    · exact get_sel k s bs W hL hr h hby n b1 hq h1 h2 h3 h4 h5
    · exact get_en k s bs W hL hr h hby n b1 hq h1 h2 h3 h4 h5
    · exact get_st k s bs W hL hr h hby n b1 hq h1 h2 h3 h4 h5
    · exact get_no k s bs W hL hr h hby n b1 hq h1 h2 h3 h4 h5
end Mg
end Go.Proofs.YtkigaclcmodjaaaGreat
namespace Go.Proofs.YtkigaclcmodjaaaGreat
open Go.RowKit
set_option linter.unusedSimpArgs false
set_option linter.unusedVariables false
namespace Mg
theorem eqB_vl {f g : Nat → Nat} (h : eqB f g = true) : vl f = vl g := vl_ext ((eqB_iff f g).1 h)
theorem vl_eqB {f g : Nat → Nat} (h : vl f = vl g) : eqB f g = true := (eqB_iff f g).2 (vl_inj h)
theorem lab_cellsD (l : Lab) : l.cells = [.int .u64 (l.t : Nat), .int .i64 l.nd, .int .u32 (l.n : Nat), .int .i64 l.ca, .int .i64 l.se] ++ vl l.f := by unfold Lab.cells; rfl
theorem eqL_iff (a b : Lab) : eqL a b = true ↔ a.cells = b.cells := by
  rw [lab_cellsD, lab_cellsD]
  unfold eqL
  simp only [Bool.and_eq_true, beq_iff_eq, List.cons_append, List.nil_append, List.cons.injEq, Value.int.injEq, true_and]
  constructor
  · rintro ⟨⟨⟨⟨⟨h1, h2⟩, h3⟩, h4⟩, h5⟩, h6⟩
    exact ⟨h1, h2, h3, h4, h5, eqB_vl h6⟩
  · rintro ⟨h1, h2, h3, h4, h5, h6⟩
    exact ⟨⟨⟨⟨⟨h1, h2⟩, h3⟩, h4⟩, h5⟩, vl_eqB h6⟩
theorem eqSt_iff (a b : St) : eqSt a b = true ↔ a.cells = b.cells := by
  rw [st_def, st_def]
  unfold eqSt
  simp only [Bool.and_eq_true, beq_iff_eq, List.cons_append, List.nil_append, List.cons.injEq, Value.int.injEq, Value.bool.injEq, true_and]
  constructor
  · rintro ⟨⟨h1, h2⟩, h3⟩
    exact ⟨h1, h2, eqB_vl h3⟩
  · rintro ⟨h1, h2, h3⟩
    exact ⟨⟨h1, h2⟩, vl_eqB h3⟩
theorem sameO_iff (a b : OpR) : sameO a b = true ↔ a.cells = b.cells := by
  constructor
  · intro h; rw [sameO_eq h]
  · intro h
    rw [op_cells, op_cells] at h
    simp only [List.cons.injEq, Value.int.injEq, Value.float.injEq, true_and, and_true] at h
    obtain ⟨h1, h2, h3, h4⟩ := h
    have : a = b := by cases a; cases b; simp only [OpR.mk.injEq] at *; exact ⟨h1, h2, h3, h4⟩
    rw [this, sameO_self]
theorem sameE_iff (a b : Ev) : sameE a b = true ↔ a.cells = b.cells := by
  rw [ev_def, ev_def]
  unfold sameE
  rw [Bool.and_eq_true, eqL_iff, sameO_iff]
  constructor
  · rintro ⟨h1, h2⟩; rw [h1, h2]
  · intro h; exact List.append_inj h (by rw [lab_len, lab_len])
theorem sameM_iff (a b : Ms) : sameM a b = true ↔ a.cells = b.cells := by
  rw [ms_def, ms_def]
  unfold sameM eqM
  simp only [Bool.and_eq_true, beq_iff_eq, eqL_iff, eqSt_iff, sameE_iff]
  constructor
  · rintro ⟨hx, ⟨⟨⟨⟨⟨h1, h2⟩, h3⟩, h4⟩, h5⟩, h6⟩, h7⟩
    unfold Ms.hd
    rw [hx, h1, h2, h3, h4, h5, h6, h7]
  · intro h
    obtain ⟨h, hs⟩ := List.append_inj h (by simp only [List.length_append, hd_len, lab_len, ev_len])
    obtain ⟨h, hx⟩ := List.append_inj h (by simp only [List.length_append, hd_len, lab_len])
    obtain ⟨h, hl⟩ := List.append_inj h (by simp only [hd_len])
    unfold Ms.hd at h
    simp only [List.cons.injEq, Value.int.injEq, true_and, and_true] at h
    obtain ⟨h1, h2, h3, h4, h5⟩ := h
    exact ⟨hx, ⟨⟨⟨⟨⟨h1, h2⟩, h3⟩, h4⟩, h5⟩, hl⟩, hs⟩
theorem ms_cells_of {m n : Ms} (h1 : m.hd = n.hd) (h2 : m.l.cells = n.l.cells) (h3 : m.x.cells = n.x.cells) (h4 : m.s.cells = n.s.cells) : m.cells = n.cells := by rw [ms_def, ms_def, h1, h2, h3, h4]
/-- A stance, a message as they are read. -/
def asSt (s : St) : St := if s.h then ⟨true, s.t, lv (trimV s.f)⟩ else St.zero
def asM (m : Ms) : Ms := ⟨m.k, if hse m.k then m.se else 0, if hco m.k then m.co else 0, if hst m.k then m.ca else 0, if hst m.k then m.ro else 0, if hl m.k then asRead m.l else Lab.zero, if hev m.k then asReadE m.x else Ev.zero, if hst m.k then asSt m.s else St.zero⟩
theorem eqB_zero {f : Nat → Nat} (h : eqB f (fun _ => 0) = true) : vl f = vl (fun _ => 0) := eqB_vl h
theorem asSt_cells {s : St} (h : rightS s = true) : (asSt s).cells = s.cells := by
  unfold asSt
  cases hh : s.h with
  | true => rw [if_pos rfl, st_def, st_def, hh, vl_ext (lv_trim s.f)]
  | false =>
    unfold rightS at h
    rw [hh] at h
    simp only [Bool.false_eq_true, if_false, Bool.and_eq_true, decide_eq_true_eq] at h
    rw [if_neg (by simp), st_def, st_def, hh, h.1, eqB_vl h.2]
    rfl
theorem rightS_cells {a b : St} (h : a.cells = b.cells) : rightS a = rightS b := by
  have h2 := (eqSt_iff a b).2 h
  unfold eqSt at h2
  simp only [Bool.and_eq_true, beq_iff_eq] at h2
  obtain ⟨⟨h3, h4⟩, h5⟩ := h2
  have h6 := (eqB_iff _ _).1 h5
  have h7 : maxK a.f 11 = maxK b.f 11 := by
    have : ∀ k, k < 12 → maxK a.f k = maxK b.f k := by
      intro k
      induction k with
      | zero => intro _; exact h6 0 (by omega)
      | succ k ih => intro hk; unfold maxK; rw [ih (by omega), h6 (k + 1) hk]
    exact this 11 (by omega)
  have h8 : eqB a.f (fun _ => 0) = eqB b.f (fun _ => 0) := by
    rw [Bool.eq_iff_iff, eqB_iff, eqB_iff]
    exact ⟨fun h i hi => (h6 i hi).symm.trans (h i hi), fun h i hi => (h6 i hi).trans (h i hi)⟩
  have h9 : a.t = b.t := by omega
  unfold rightS
  rw [h3, h9, h7, h8]
theorem asM_parts (m : Ms) (hr : bodyM m = true) : (asM m).cells = (partsM m).cells := by
  unfold asM partsM
  refine ms_cells_of rfl ?_ ?_ ?_
  · dsimp only
    split
    · exact (asRead_same m.l).2.2
    · rfl
  · dsimp only
    split
    · exact (asReadE_same m.x).2.2
    · rfl
  · dsimp only
    split
    · rename_i h
      refine asSt_cells ?_
      unfold bodyM at hr
      rcases kd_any m.k with ⟨_, h1, h2, h3, h4, h5⟩ | ⟨_, h1, h2, h3, h4, h5⟩ | ⟨_, h1, h2, h3, h4, h5⟩ | ⟨_, h1, h2, h3, h4, h5⟩ | ⟨_, h1, h2, h3, h4, h5⟩ | ⟨_, h1, h2, h3, h4, h5⟩
      all_goals rw [h4] at h
      all_goals first | (cases h; done) | skip
      rw [h1, h2, h3, h4] at hr
      simp only [Bool.false_eq_true, if_false, if_true, Bool.and_eq_true] at hr
      exact hr.2
    · rfl
theorem sameM_parts {m : Ms} (hr : rightM m = true) : m.cells = (partsM m).cells := by
  unfold rightM at hr
  rw [Bool.and_eq_true] at hr
  exact (sameM_iff _ _).1 hr.1
theorem asM_cells {m : Ms} (hr : rightM m = true) : (asM m).cells = m.cells := (asM_parts m (body_of hr)).trans (sameM_parts hr).symm
theorem partsM_asM (m : Ms) : partsM (asM m) = asM m := by
  unfold partsM asM
  dsimp only
  cases hl m.k <;> cases hev m.k <;> cases hse m.k <;> cases hst m.k <;> cases hco m.k <;> rfl
theorem bodyM_asM {m : Ms} (hr : bodyM m = true) : bodyM (asM m) = true := by
  unfold bodyM at hr ⊢
  have hk : (asM m).k = m.k := rfl
  rw [hk]
  rcases kd_any m.k with ⟨_, h1, h2, h3, h4, h5⟩ | ⟨_, h1, h2, h3, h4, h5⟩ | ⟨h0, h1, h2, h3, h4, h5⟩ | ⟨h0, h1, h2, h3, h4, h5⟩ | ⟨_, h1, h2, h3, h4, h5⟩ | ⟨_, h1, h2, h3, h4, h5⟩
  all_goals rw [h1, h2, h3, h4] at hr ⊢
  all_goals simp only [Bool.false_eq_true, if_false, if_true, Bool.and_eq_true] at hr ⊢
  · show rightL (asM m).l = true
    unfold asM
    dsimp only
    rw [h1, if_pos rfl, (asRead_same m.l).1]
    exact hr
  · show rightE (asM m).x = true
    unfold asM
    dsimp only
    rw [h2, if_pos rfl, (asReadE_same m.x).1]
    exact hr
  · unfold asM
    dsimp only
    rw [h3, h5, if_pos rfl, if_neg (by simp)]
    exact ⟨hr.1, by decide⟩
  · unfold asM
    dsimp only
    rw [h3, h5, if_pos rfl, if_pos rfl]
    exact hr
  · unfold asM
    dsimp only
    rw [h4, if_pos rfl, if_pos rfl, if_pos rfl]
    exact ⟨hr.1, by rw [rightS_cells (asSt_cells hr.2)]; exact hr.2⟩
theorem rightM_asM {m : Ms} (hr : rightM m = true) : rightM (asM m) = true := by
  unfold rightM
  rw [partsM_asM, (sameM_iff _ _).2 rfl, bodyM_asM (body_of hr)]
  rfl
theorem back_mk {m : Ms} (hr : rightM m = true) : Back (mkM m) [] m := ⟨fun t => by unfold mkM; rw [if_pos hr]; rfl, fun k hk => by simp at hk⟩
theorem pure_back {α : Type} (x : α) : Back (pureP x) [] x := ⟨fun t => rfl, fun k hk => by simp at hk⟩
theorem back_nil {α : Type} {P : List Nat → Except Int (α × List Nat)} {E : List Nat} {x : α} (h : Back P (E ++ []) x) : Back P E x := by rwa [List.append_nil] at h
theorem st_back {s : St} (hr : rightS s = true) (ho : St.Ok s) : Back stP (encSt s) (asSt s) := by
  rw [stP_def]
  unfold encSt asSt
  cases hh : s.h with
  | false =>
    rw [if_neg (by simp), if_neg (by simp)]
    refine back_nil ((small_back 1 0 (by decide) (by decide)).bind ?_)
    rw [if_pos rfl]
    exact pure_back _
  | true =>
    rw [if_pos rfl, if_pos rfl, List.append_assoc]
    refine (small_back 1 1 (by decide) (by decide)).bind ?_
    rw [if_neg (by decide)]
    refine (num_back s.t ho.t).bind ?_
    exact back_nil ((vector_back s.f ho.f).bind (pure_back _))
theorem withinN {n a b : Int} (h : withinB n a b = true) : a ≤ n ∧ n ≤ b := withinB_iff.1 h
theorem kind_nat {m : Ms} (hr : rightM m = true) : ∃ n : Nat, m.k = (n : Nat) ∧ 1 ≤ n ∧ n ≤ 10 := by
  have hb := body_of hr
  refine ⟨m.k.toNat, ?_⟩
  rcases kd_any m.k with ⟨h0, _⟩ | ⟨h0, _⟩ | ⟨h0, _⟩ | ⟨h0, _⟩ | ⟨h0, _⟩ | ⟨h0, h1, h2, h3, h4, h5⟩
  · omega
  · omega
  · omega
  · omega
  · omega
  · unfold bodyM at hb
    rw [h1, h2, h3, h4] at hb
    exact absurd hb (by simp)
theorem kind_back {m : Ms} (hr : rightM m = true) (ho : Ms.Ok m) : Back (kindP m.k) ((if hl m.k then encL m.l else []) ++ ((if hev m.k then encE m.x else []) ++ ((if hse m.k then enc (wordN m.se) else []) ++ ((if hst m.k then enc (wordN m.ca) ++ (enc (wordN m.ro) ++ encSt m.s) else []) ++ (if hco m.k then enc (wordN m.co) else []))))) (asM m) := by
  have hb := body_of hr
  have hm := back_mk (rightM_asM hr)
  unfold asM at hm ⊢
  unfold bodyM at hb
  unfold kindP
  rcases kd_any m.k with ⟨h0, h1, h2, h3, h4, h5⟩ | ⟨h0, h1, h2, h3, h4, h5⟩ | ⟨h0, h1, h2, h3, h4, h5⟩ | ⟨h0, h1, h2, h3, h4, h5⟩ | ⟨h0, h1, h2, h3, h4, h5⟩ | ⟨h0, h1, h2, h3, h4, h5⟩
  all_goals rw [h1, h2, h3, h4] at hb
  all_goals simp only [Bool.false_eq_true, if_false, if_true, Bool.and_eq_true] at hb
  all_goals rw [h1, h2, h3, h4, h5] at hm ⊢
  all_goals simp only [Bool.false_eq_true, if_false, if_true, List.append_nil, List.nil_append] at hm ⊢
  · exact back_nil ((lab_back hb ho.l).bind hm)
  · exact back_nil ((ev_back hb ho.x ho.p).bind hm)
  · obtain ⟨q1, q2⟩ := withinN hb.1
    obtain ⟨a, ha⟩ : ∃ a : Nat, m.se = (a : Nat) := ⟨m.se.toNat, by omega⟩
    rw [ha] at hm q1 q2 ⊢
    rw [wordN_nat a (by omega)]
    exact back_nil ((small_back 12 a (by omega) (by omega)).bind hm)
  · obtain ⟨q1, q2⟩ := withinN hb.1
    obtain ⟨q3, q4⟩ := withinN hb.2
    obtain ⟨a, ha⟩ : ∃ a : Nat, m.se = (a : Nat) := ⟨m.se.toNat, by omega⟩
    obtain ⟨c, hc⟩ : ∃ c : Nat, m.co = (c : Nat) := ⟨m.co.toNat, by omega⟩
    rw [ha, hc] at hm ⊢
    rw [ha] at q1 q2
    rw [hc] at q3 q4
    rw [wordN_nat a (by omega), wordN_nat c (by omega)]
    exact (small_back 12 a (by omega) (by omega)).bind (back_nil ((small_back 200 c (by omega) (by omega)).bind hm))
  · obtain ⟨⟨q1, q2⟩, q5⟩ := hb
    obtain ⟨q1, q2'⟩ := withinN q1
    obtain ⟨q3, q4⟩ := withinN q2
    obtain ⟨a, ha⟩ : ∃ a : Nat, m.ca = (a : Nat) := ⟨m.ca.toNat, by omega⟩
    obtain ⟨c, hc⟩ : ∃ c : Nat, m.ro = (c : Nat) := ⟨m.ro.toNat, by omega⟩
    rw [ha, hc] at hm ⊢
    rw [ha] at q1 q2'
    rw [hc] at q3 q4
    rw [wordN_nat a (by omega), wordN_nat c (by omega)]
    exact (small_back 12 a (by omega) (by omega)).bind ((small_back 21 c (by omega) (by omega)).bind (back_nil ((st_back q5 ho.s).bind hm)))
theorem msg_back {m : Ms} (hr : rightM m = true) (ho : Ms.Ok m) : Back msgP (encM m) (asM m) := by
  obtain ⟨n, hn, h1, h2⟩ := kind_nat hr
  have hk := kind_back hr ho
  have e := hn
  rw [msgP_def]
  unfold encM
  rw [hn] at hk ⊢
  rw [wordN_nat n (by omega)]
  exact (small_back 10 n (by omega) (by omega)).bind hk
theorem msg_yes {m : Ms} (hr : rightM m = true) (ho : Ms.Ok m) : msgP (encM m) = .ok (asM m, []) := by
  have := (msg_back hr ho).1 []
  rwa [List.append_nil] at this
theorem msg_cut {m : Ms} (hr : rightM m = true) (ho : Ms.Ok m) {k : Nat} (hk : k < (encM m).length) : ∀ x, msgP ((encM m).take k) ≠ .ok (x, []) := fun x e => by
  rw [(msg_back hr ho).2 k hk] at e; cases e
theorem st_ok {bs t : List Nat} {s : St} (hb : ∀ x ∈ bs, x < 256) (h : stP bs = .ok (s, t)) : bs = encSt s ++ t ∧ St.Ok s := by
  rw [stP_def] at h
  obtain ⟨n, b1, q1, h⟩ := bindP_inv h
  have e1 := small_one hb q1
  have l1 := (small_ok q1).2
  split at h
  · rename_i h0
    subst h0
    unfold pureP at h
    cases h
    refine ⟨?_, ⟨by decide, fun i => by show (0 : Nat) < _; decide⟩⟩
    show bs = enc 0 ++ t
    exact e1
  · rename_i h0
    have hb1 := lt_tail e1 hb
    obtain ⟨v, b2, q2, h⟩ := bindP_inv h
    obtain ⟨l, b3, q3, h⟩ := bindP_inv h
    unfold pureP at h
    cases h
    have e2 := num_one hb1 q2
    have hb2 := lt_tail e2 hb1
    obtain ⟨e3, e4, e5, e6⟩ := vector_one hb2 q3
    refine ⟨?_, ⟨numP_lt _ _ _ _ _ q2, e5⟩⟩
    show bs = (enc 1 ++ enc v ++ encV (lv l)) ++ t
    obtain rfl : n = 1 := by omega
    rw [e1, e2, e3]
    simp [List.append_assoc]
theorem ok_zero (k : Int) : Ms.Ok (zM k) := ⟨fun i => by show (0 : Nat) < _; decide, fun i => by show (0 : Nat) < _; decide, by show (0 : Nat) < _; decide, ⟨by show (0 : Nat) < _; decide, fun i => by show (0 : Nat) < _; decide⟩⟩
theorem mkM_ok {n m : Ms} {b t : List Nat} (h : mkM n b = .ok (m, t)) : m = n ∧ t = b ∧ rightM n = true := by
  unfold mkM at h
  split at h
  · rename_i hr; cases h; exact ⟨rfl, rfl, hr⟩
  · cases h
theorem kind_ok {n : Nat} {bs t : List Nat} {m : Ms} (hb : ∀ x ∈ bs, x < 256) (hn : n ≤ 10) (h : kindP (n : Nat) bs = .ok (m, t)) : enc n ++ bs = encM m ++ t ∧ rightM m = true ∧ Ms.Ok m := by
  unfold kindP at h
  have hw := wordN_nat n (by omega)
  rcases kd_any (n : Nat) with ⟨h0, h1, h2, h3, h4, h5⟩ | ⟨h0, h1, h2, h3, h4, h5⟩ | ⟨h0, h1, h2, h3, h4, h5⟩ | ⟨h0, h1, h2, h3, h4, h5⟩ | ⟨h0, h1, h2, h3, h4, h5⟩ | ⟨h0, h1, h2, h3, h4, h5⟩
  all_goals rw [h1] at h
  all_goals (try rw [h2] at h)
  all_goals (try rw [h3] at h)
  all_goals (try rw [h4] at h)
  all_goals (try rw [h5] at h)
  all_goals simp only [Bool.false_eq_true, if_false, if_true] at h
  · obtain ⟨l, b1, q1, h⟩ := bindP_inv h
    obtain ⟨rfl, rfl, hr⟩ := mkM_ok h
    obtain ⟨e1, _, e3, _⟩ := lab_ok hb q1
    refine ⟨?_, hr, { ok_zero (n : Nat) with l := e3 }⟩
    unfold encM zM
    dsimp only
    rw [h1, h2, h3, h4, h5, hw, e1]
    simp [List.append_assoc]
  · obtain ⟨x, b1, q1, h⟩ := bindP_inv h
    obtain ⟨rfl, rfl, hr⟩ := mkM_ok h
    obtain ⟨e1, _, e3, e4⟩ := ev_ok hb q1
    refine ⟨?_, hr, { ok_zero (n : Nat) with x := e3, p := e4 }⟩
    unfold encM zM
    dsimp only
    rw [h1, h2, h3, h4, h5, hw, e1]
    simp [List.append_assoc]
  · obtain ⟨x, b1, q1, h⟩ := bindP_inv h
    obtain ⟨rfl, rfl, hr⟩ := mkM_ok h
    have e1 := small_one hb q1
    have l1 := (small_ok q1).2
    refine ⟨?_, hr, { ok_zero (n : Nat) with }⟩
    unfold encM zM
    dsimp only
    rw [h1, h2, h3, h4, h5, hw, wordN_nat x (by omega), e1]
    simp [List.append_assoc]
  · obtain ⟨x, b1, q1, h⟩ := bindP_inv h
    obtain ⟨y, b2, q2, h⟩ := bindP_inv h
    obtain ⟨rfl, rfl, hr⟩ := mkM_ok h
    have e1 := small_one hb q1
    have l1 := (small_ok q1).2
    have e2 := small_one (lt_tail e1 hb) q2
    have l2 := (small_ok q2).2
    refine ⟨?_, hr, { ok_zero (n : Nat) with }⟩
    unfold encM zM
    dsimp only
    rw [h1, h2, h3, h4, h5, hw, wordN_nat x (by omega), wordN_nat y (by omega), e1, e2]
    simp [List.append_assoc]
  · obtain ⟨x, b1, q1, h⟩ := bindP_inv h
    obtain ⟨y, b2, q2, h⟩ := bindP_inv h
    obtain ⟨z, b3, q3, h⟩ := bindP_inv h
    obtain ⟨rfl, rfl, hr⟩ := mkM_ok h
    have e1 := small_one hb q1
    have l1 := (small_ok q1).2
    have hb1 := lt_tail e1 hb
    have e2 := small_one hb1 q2
    have l2 := (small_ok q2).2
    obtain ⟨e3, e4⟩ := st_ok (lt_tail e2 hb1) q3
    refine ⟨?_, hr, { ok_zero (n : Nat) with s := e4 }⟩
    unfold encM zM
    dsimp only
    rw [h1, h2, h3, h4, h5, hw, wordN_nat x (by omega), wordN_nat y (by omega), e1, e2, e3]
    simp [List.append_assoc]
  · obtain ⟨rfl, rfl, hr⟩ := mkM_ok h
    refine ⟨?_, hr, ok_zero (n : Nat)⟩
    unfold encM zM
    dsimp only
    rw [h1, h2, h3, h4, h5, hw]
    simp [List.append_assoc]
theorem msg_ok {bs t : List Nat} {m : Ms} (hb : ∀ x ∈ bs, x < 256) (h : msgP bs = .ok (m, t)) : bs = encM m ++ t ∧ rightM m = true ∧ Ms.Ok m := by
  rw [msgP_def] at h
  obtain ⟨n, b1, q1, h⟩ := bindP_inv h
  have e1 := small_one hb q1
  have l1 := (small_ok q1).2
  obtain ⟨h1, h2, h3⟩ := kind_ok (lt_tail e1 hb) (by omega) h
  exact ⟨e1.trans h1, h2, h3⟩
theorem stP_ne (bs : List Nat) (x : Int) (h : stP bs = .error x) : x ≠ 0 := by
  rw [stP_def] at h
  refine bindP_ne (fun _ _ => smallP_ne) (fun n b y hy => ?_) bs x h
  split at hy
  · cases hy
  · exact bindP_ne (fun b y => numP_err b true 0 y) (fun _ b y hy => bindP_ne vectorP_ne (fun _ _ _ e => by cases e) b y hy) b y hy
theorem mkM_ne (m : Ms) (b : List Nat) (x : Int) (h : mkM m b = .error x) : x ≠ 0 := by
  unfold mkM at h
  split at h
  · cases h
  · cases h; decide
theorem kindP_ne (k : Int) (b : List Nat) (x : Int) (h : kindP k b = .error x) : x ≠ 0 := by
  unfold kindP at h
  split at h
  · exact bindP_ne labP_ne (fun _ b y hy => mkM_ne _ b y hy) b x h
  · split at h
    · exact bindP_ne evP_ne (fun _ b y hy => mkM_ne _ b y hy) b x h
    · split at h
      · refine bindP_ne (fun _ _ => smallP_ne) (fun _ b y hy => ?_) b x h
        split at hy
        · exact bindP_ne (fun _ _ => smallP_ne) (fun _ b y hy => mkM_ne _ b y hy) b y hy
        · exact mkM_ne _ b y hy
      · split at h
        · exact bindP_ne (fun _ _ => smallP_ne) (fun _ b y hy => bindP_ne (fun _ _ => smallP_ne) (fun _ b y hy => bindP_ne stP_ne (fun _ b y hy => mkM_ne _ b y hy) b y hy) b y hy) b x h
        · exact mkM_ne _ b x h
theorem msgP_ne (bs : List Nat) (x : Int) (h : msgP bs = .error x) : x ≠ 0 := by
  rw [msgP_def] at h
  exact bindP_ne (fun _ _ => smallP_ne) (fun n b y hy => kindP_ne _ b y hy) bs x h
abbrev zmsL : List Value := [.int .i64 0, .int .i64 0, .int .i64 0, .int .i64 0, .int .i64 0, .int .u64 0, .int .i64 0, .int .u32 0, .int .i64 0, .int .i64 0, .int .u32 0, .int .u32 0, .int .u32 0, .int .u32 0, .int .u32 0, .int .u32 0, .int .u32 0, .int .u32 0, .int .u32 0, .int .u32 0, .int .u32 0, .int .u32 0, .int .u64 0, .int .i64 0, .int .u32 0, .int .i64 0, .int .i64 0, .int .u32 0, .int .u32 0, .int .u32 0, .int .u32 0, .int .u32 0, .int .u32 0, .int .u32 0, .int .u32 0, .int .u32 0, .int .u32 0, .int .u32 0, .int .u32 0, .int .i64 0, .int .i64 0, .int .i64 0, .float .f64 0, .bool false, .int .u64 0, .int .u32 0, .int .u32 0, .int .u32 0, .int .u32 0, .int .u32 0, .int .u32 0, .int .u32 0, .int .u32 0, .int .u32 0, .int .u32 0, .int .u32 0, .int .u32 0]
abbrev zmsA : Array Value := zmsL.toArray
theorem zms_siz (x : Ms) : (zmsA : Array Value).size = x.cells.toArray.size := show 57 = x.cells.toArray.size by rw [List.size_toArray, ms_len]
variable {L : Nat}
set_option maxRecDepth 20000 in
set_option maxHeartbeats 8000000 in
theorem msread1_any (k s c : Nat) (bs : List Nat) (W : World) (hL : L ≤ W.heap.size) (hr : Rdr W k s) (h : RdB L W s bs) (hby : ∀ x ∈ bs, x < 256) (hc : Blk W c 55 zmsA) (hcs : c ≠ s) (hLc : L ≤ c) :
    Calls Tryz.prog 37 #[.pointer (some ⟨k, 0, none⟩), .pointer (some ⟨c, 0, none⟩)] W fun e W2 => match msgP bs with
      | .ok (x, t) => e = .returned (.tuple #[]) ∧ RdB L W2 s t ∧ ∃ W1, Off s W W1 ∧ W2 = W1.setRow c x.cells.toArray ∧ Blk W2 c 55 x.cells.toArray
      | .error x => e = .panicked [{ v := flt s, recovered := false }] ∧ Met' W2 s x ∧ Off s W W2 := by
  have HG := Lib.hid (msget_any k s bs W hL hr h hby)
  obtain ⟨R, hR⟩ : ∃ R, R = msgP bs := ⟨_, rfl⟩
  rw [← hR] at HG ⊢
  clear hR h hr hby
  match R with
  | .error x =>
    go_enter Tryz.func37, Tryz.ntmps37
    go_wp2_with (go_at_call 38; refine HG.out.mono ?_; rintro e w1 ⟨hO, rfl, hM⟩)
    exact ⟨rfl, rfl, hM, hO⟩
  | .ok (x, t) =>
    go_enter Tryz.func37, Tryz.ntmps37
    go_wp2_with (first | (go_at_call 38; refine HG.out.mono ?_; rintro e w1 ⟨hO, rfl, hB⟩; have HO := Lib.hid hO; have HB := Lib.hid hB; have bc := hO.blk hc hcs; clear hO hB) | (refine wpList_store_blk rfl 55 _ _ rfl c 55 _ x.cells.toArray rfl rfl bc (msinfoA _) (zms_siz x) (ms_one x) ?_; intro hrow))
    have hf : ∀ j, j ≠ c → (w1.setRow c x.cells.toArray).heap[j]? = w1.heap[j]? := fun j hj => setRow_other w1 c j _ hj
    have hz : (w1.setRow c x.cells.toArray).heap.size = w1.heap.size := by simp
    exact ⟨rfl, .tuple #[], by simp [results, Tryz.results37, go_sem], rfl, HB.out.turn (Nat.le_of_eq hz.symm) hf hcs hLc, w1, HO.out, rfl, hrow⟩

/-- Two boxes of noughts. -/
def twoM (W : World) : World := (W.alloc (.cells zmsA 55)).alloc (.cells zmsA 55)
theorem twoM_size (W : World) : (twoM W).heap.size = W.heap.size + 2 := by simp [twoM]
theorem twoM_below (W : World) : Below W.heap.size W (twoM W) := ((Below.refl _ W).alloc (Nat.le_refl _) _).alloc (by simp) _
/-- What an event's read leaves. -/
def MsRead (bs : List Nat) (W : World) (r : Except Int (List Nat)) (W' : World) : Prop :=
  (match msgP bs with | .ok (l, t) => r = .ok t ∧ Blk W' (W.heap.size + 1) 55 l.cells.toArray | .error x => r = .error x) ∧ Blk W' W.heap.size 55 zmsA ∧ Below W.heap.size W W'

set_option maxRecDepth 20000 in
theorem msread_call (A : Option Addr) (n cp : Nat) (W : World) (bs : List Nat) (hn : bs.length = n) (hnc : n ≤ cp) (hby : ∀ x ∈ bs, x < 256) (hbs : ByR W A bs) :
    Calls Tryz.prog 36 #[.slice A n cp, .func (.func 37) #[] #[.pointer (some ⟨W.heap.size + 1, 0, none⟩)]] (twoM W) fun e W' => ∃ r, e = .returned (.int .i64 (readE r)) ∧ MsRead bs W r W' := by
  have hb0 := twoM_below W
  have hsz := twoM_size W
  have hg0 : Blk (twoM W) W.heap.size 55 zmsA := (Blk.new W 55 zmsA).alloc _
  have hc0 : Blk (twoM W) (W.heap.size + 1) 55 zmsA := Blk.new' (by simp)
  refine (read_any4 (L := W.heap.size) A n cp 37 #[.pointer (some ⟨W.heap.size + 1, 0, none⟩)] (twoM W) bs (fun r W2 => MsRead bs W r W2)
    (fun args w => run_enter Tryz.func37 (by kernel_rfl) (by kernel_rfl) args w) hn hnc (by omega) ?_ ?_).mono ?_
  · refine hbs.imp id ?_
    rintro ⟨b, p, h1, h2, h3⟩
    exact ⟨b, p, h1, h2, fun i x hx => (hb0.cell (p := ⟨b, p + i, none⟩) h2).trans (h3 i x hx)⟩
  · intro W1 k s hb hs hk hs1 h4 _ hR hB
    have hg1 := hg0.next hb
    have hc1 := hc0.next hb
    refine (msread1_any k s (W.heap.size + 1) bs W1 (by omega) hR hB hby hc1 (by omega) (by omega)).mono ?_
    intro e W2 h
    have hne := msgP_ne bs
    unfold Fine MsRead
    cases hq : msgP bs with
    | error x =>
      rw [hq] at h
      obtain ⟨rfl, hM, hO⟩ := h
      refine ⟨fun b _ h6 h7 => hO.block b h6 h7, Or.inr ⟨x, hne x hq, rfl, hM, rfl, hO.blk hg1 (by omega), ?_⟩⟩
      exact hb0.trans ((hb.mono (by omega)).trans (hO.belowB (by omega) (by omega)))
    | ok q =>
      obtain ⟨l, t⟩ := q
      rw [hq] at h
      obtain ⟨rfl, hB2, w1, hO, rfl, hcb⟩ := h
      have hf : ∀ j, j ≠ W.heap.size + 1 → (w1.setRow (W.heap.size + 1) l.cells.toArray).heap[j]? = w1.heap[j]? := fun j hj => setRow_other w1 _ j _ hj
      refine ⟨fun b h5 h6 h7 => (hf b (by omega)).trans (hO.block b h6 h7), Or.inl ⟨t, rfl, hB2, ⟨rfl, hcb⟩, (hO.blk hg1 (by omega)).farRow (by omega) _, ?_⟩⟩
      exact below_setRow (hb0.trans ((hb.mono (by omega)).trans (hO.belowB (by omega) (by omega)))) (by omega) _
  · rintro e W' ⟨r, W2, hY, he, hb3, _⟩
    refine ⟨r, he, ?_⟩
    unfold MsRead at hY ⊢
    refine ⟨?_, hY.2.1.below hb3 (by omega), hY.2.2.trans (hb3.mono (by omega))⟩
    have h1 := hY.1
    cases hq : msgP bs with
    | error x => rw [hq] at h1; exact h1
    | ok q => obtain ⟨l, t⟩ := q; rw [hq] at h1; exact ⟨h1.1, h1.2.below hb3 (by omega)⟩

theorem zms_sz : (Tryz.prog.info? 55).map (·.size) = some (zmsA : Array Value).size := by kernel_rfl
theorem zms_one : (zmsA : Array Value).all (·.oneCell') = true := by simp [Value.oneCell']
theorem zms_info : (Tryz.prog.info? 55).map (·.size) = some (List.length (zmsL : List Value)) := by kernel_rfl

section
variable (A : Option Addr) (n cp : Nat) (W : World) (bs : List Nat) (hn : bs.length = n) (hnc : n ≤ cp) (hby : ∀ x ∈ bs, x < 256) (hbs : ByR W A bs)
include hn hnc hby hbs
set_option maxRecDepth 20000 in
set_option maxHeartbeats 4000000 in
theorem msread_yes (l : Ms) (h : msgP bs = .ok (l, [])) :
    Calls Tryz.prog 8 #[.slice A n cp] W fun e W' => e = .returned (.tuple #[.agg l.cells.toArray, .int .i64 0]) ∧ Below W.heap.size W W' := by
  have HC := Lib.hid (msread_call A n cp W bs hn hnc hby hbs)
  have hmf : ∀ (fn : Fn) (first cap : Array Value) (w : World), (Instr.makeFunc fn first cap).run Tryz.prog w = .ok (.func fn first cap) w := fun _ _ _ _ => rfl
  have HP := Lib.hid h
  clear hn hnc hbs h hby
  go_enter Tryz.func8, Tryz.ntmps8
  go_wp2_with (first | (refine wpList_load_midg (by rfl) 55 _ rfl _ _ rfl (Ms.cells ?_) _ ?_ Tryz.underlying55 rfl (msinfo _) ?_; rotate_left; (focus assumption)) | (refine wpList_store_blk rfl 55 _ _ rfl W.heap.size 55 _ l.cells.toArray rfl rfl hg (msinfoA _) (zms_siz l) (ms_one l) ?_; intro hrow) | (go_at_call 36; refine HC.out.mono ?_; rintro e W1 ⟨r, rfl, hR⟩; unfold MsRead at hR; rw [HP.out] at hR; obtain ⟨⟨rfl, hc⟩, hg, hb⟩ := hR; have rgl := hc.range; have HB := Lib.hid hb; clear hb; rw [show readE (.ok []) = 0 from rfl]))
  refine bodyPost_row2 (t := 55) l.cells (.int .i64 0) rfl rfl rfl rfl Tryz.underlying55 rfl (msinfo l) hrow ⟨rfl, below_setRow HB.out (Nat.le_refl _) _⟩
set_option maxRecDepth 20000 in
set_option maxHeartbeats 4000000 in
theorem msread_no (h : ∀ l, msgP bs ≠ .ok (l, [])) :
    Calls Tryz.prog 8 #[.slice A n cp] W fun e W' => e = .returned (.tuple #[.agg zmsA, .int .i64 3]) ∧ Below W.heap.size W W' := by
  have HC := Lib.hid (msread_call A n cp W bs hn hnc hby hbs)
  have hmf : ∀ (fn : Fn) (first cap : Array Value) (w : World), (Instr.makeFunc fn first cap).run Tryz.prog w = .ok (.func fn first cap) w := fun _ _ _ _ => rfl
  have HP := Lib.hid (show ∀ r W', MsRead bs W r W' → ∃ z : Int, readE r = z ∧ decide (z = 0) = false from fun r W' hR => by
    have h1 := hR.1
    refine ⟨readE r, rfl, decide_eq_false ?_⟩
    cases hq : msgP bs with
    | error x => rw [hq] at h1; subst h1; exact msgP_ne bs x hq
    | ok q =>
      obtain ⟨l, t⟩ := q
      rw [hq] at h1
      obtain ⟨rfl, _⟩ := h1
      cases t with
      | nil => exact absurd hq (h l)
      | cons a t => unfold readE; simp)
  clear hn hnc hbs h hby
  go_enter Tryz.func8, Tryz.ntmps8
  go_wp2_with fail
  refine HC.out.mono ?_
  rintro e W1 ⟨r, rfl, hR⟩
  obtain ⟨z, hz, hz0⟩ := HP.out r W1 hR
  obtain ⟨_, hg, hb⟩ := hR
  have HB := Lib.hid hb
  have hz2 : z ≠ 0 := by simpa using hz0
  have hz1 : (z != 0) = true := by simpa using hz2
  have hz3 : (z == 0) = false := by simpa using hz2
  rw [hz]
  clear hb hz hz0 HP HC
  go_wp2_with (refine wpList_store_blk rfl 55 _ _ rfl W.heap.size 55 _ zmsA rfl rfl hg zms_sz rfl zms_one ?_; intro hrow)
  refine bodyPost_row2 (t := 55) zmsL (.int .i64 3) rfl rfl rfl rfl Tryz.underlying55 rfl zms_info hrow ⟨rfl, below_setRow HB.out (Nat.le_refl _) _⟩
end

end Mg
end Go.Proofs.YtkigaclcmodjaaaGreat
namespace Go.Proofs.YtkigaclcmodjaaaGreat
open Go.RowKit Go.ChangeShapes Go.WideShapes Go.ChangeAt
set_option linter.unusedSimpArgs false
set_option linter.unusedVariables false
namespace Mg
def pM : Nat → Option (Nat × Nat) := (#[(0, 1), (1, 1), (2, 1), (3, 1), (4, 1), (5, 17), (22, 21), (43, 14)][·]?)
theorem built_fillM (parts : List (Nat × Value)) : Tryz.prog.built 55 parts = Instr.fill pM (zM 0).cells.toArray parts := by rw [zM_cells]; kernel_rfl
theorem p0M : pM 0 = some (0, 1) := rfl
theorem p1M : pM 1 = some (1, 1) := rfl
theorem p2M : pM 2 = some (2, 1) := rfl
theorem p3M : pM 3 = some (3, 1) := rfl
theorem p4M : pM 4 = some (4, 1) := rfl
theorem p5M : pM 5 = some (5, 17) := rfl
theorem p6M : pM 6 = some (22, 21) := rfl
theorem p7M : pM 7 = some (43, 14) := rfl
attribute [irreducible] pM
section
variable (m : Ms) (rest : List (Nat × Value))
theorem ms_arr : m.cells.toArray = (.int .i64 m.k :: .int .i64 m.se :: .int .i64 m.co :: .int .i64 m.ca :: .int .i64 m.ro :: (m.l.cells ++ m.x.cells ++ m.s.cells)).toArray := by
  rw [ms_def]; unfold Ms.hd; simp [List.append_assoc]
theorem fill_k (v : Int) : Instr.fill pM m.cells.toArray ((0, .int .i64 v) :: rest) = Instr.fill pM ({ m with k := v } : Ms).cells.toArray rest := by
  rw [ms_arr, ms_arr]; exact fill_scM (pre := []) p0M rfl rfl
theorem fill_se (v : Int) : Instr.fill pM m.cells.toArray ((1, .int .i64 v) :: rest) = Instr.fill pM ({ m with se := v } : Ms).cells.toArray rest := by
  rw [ms_arr, ms_arr]; exact fill_scM (pre := [_]) p1M rfl rfl
theorem fill_co (v : Int) : Instr.fill pM m.cells.toArray ((2, .int .i64 v) :: rest) = Instr.fill pM ({ m with co := v } : Ms).cells.toArray rest := by
  rw [ms_arr, ms_arr]; exact fill_scM (pre := [_, _]) p2M rfl rfl
theorem fill_ca (v : Int) : Instr.fill pM m.cells.toArray ((3, .int .i64 v) :: rest) = Instr.fill pM ({ m with ca := v } : Ms).cells.toArray rest := by
  rw [ms_arr, ms_arr]; exact fill_scM (pre := [_, _, _]) p3M rfl rfl
theorem fill_ro (v : Int) : Instr.fill pM m.cells.toArray ((4, .int .i64 v) :: rest) = Instr.fill pM ({ m with ro := v } : Ms).cells.toArray rest := by
  rw [ms_arr, ms_arr]; exact fill_scM (pre := [_, _, _, _]) p4M rfl rfl
theorem fill_l (l : Lab) : Instr.fill pM m.cells.toArray ((5, .agg l.cells.toArray) :: rest) = Instr.fill pM ({ m with l := l } : Ms).cells.toArray rest := by
  rw [ms_def, ms_def, List.append_assoc, List.append_assoc, List.append_assoc]
  exact fill_one (pre := m.hd) (mid := m.l.cells) (post := m.x.cells ++ m.s.cells) (by rw [p5M, lab_len]; rfl) rfl (by rw [lab_len, lab_len])
theorem fill_x (x : Ev) : Instr.fill pM m.cells.toArray ((6, .agg x.cells.toArray) :: rest) = Instr.fill pM ({ m with x := x } : Ms).cells.toArray rest := by
  rw [ms_def, ms_def, List.append_assoc, List.append_assoc _ _ ({ m with x := x } : Ms).s.cells]
  exact fill_one (pre := m.hd ++ m.l.cells) (mid := m.x.cells) (post := m.s.cells) (by rw [p6M, ev_len]) (by rw [List.length_append, hd_len, lab_len]) (by rw [ev_len, ev_len])
theorem fill_s (s : St) : Instr.fill pM m.cells.toArray ((7, .agg s.cells.toArray) :: rest) = Instr.fill pM ({ m with s := s } : Ms).cells.toArray rest := by
  have := fill_one (place := pM) (i := 7) (off := 43) (cs := s.cells) (pre := m.hd ++ m.l.cells ++ m.x.cells) (mid := m.s.cells) (post := []) (rest := rest) (by rw [p7M, st_len]) (by simp only [List.length_append, hd_len, lab_len, ev_len]) (by rw [st_len, st_len])
  rw [List.append_nil, List.append_nil] at this
  rw [ms_def, ms_def]
  exact this
end
theorem built_of (l : Lab) : Tryz.prog.built 55 [(0, .int .i64 1), (5, .agg l.cells.toArray)] = some ({ zM 1 with l := l } : Ms).cells.toArray := by
  rw [built_fillM, fill_k, fill_l, Instr.fill]; rfl
theorem built_ev (k : Int) (x : Ev) : Tryz.prog.built 55 [(0, .int .i64 k), (6, .agg x.cells.toArray)] = some ({ zM k with x := x } : Ms).cells.toArray := by
  rw [built_fillM, fill_k, fill_x, Instr.fill]; rfl
theorem built_ask (k s : Int) : Tryz.prog.built 55 [(0, .int .i64 k), (1, .int .i64 s)] = some ({ zM k with se := s } : Ms).cells.toArray := by
  rw [built_fillM, fill_k, fill_se, Instr.fill]; rfl
theorem built_end (s c : Int) : Tryz.prog.built 55 [(0, .int .i64 5), (1, .int .i64 s), (2, .int .i64 c)] = some ({ zM 5 with se := s, co := c } : Ms).cells.toArray := by
  rw [built_fillM, fill_k, fill_se, fill_co, Instr.fill]; rfl
theorem built_say (c r : Int) (s : St) : Tryz.prog.built 55 [(0, .int .i64 10), (3, .int .i64 c), (4, .int .i64 r), (7, .agg s.cells.toArray)] = some ({ zM 10 with ca := c, ro := r, s := s } : Ms).cells.toArray := by
  rw [built_fillM, fill_k, fill_ca, fill_ro, fill_s, Instr.fill]; rfl
theorem built_all (m : Ms) : Tryz.prog.built 55 [(0, .int .i64 m.k), (1, .int .i64 m.se), (2, .int .i64 m.co), (3, .int .i64 m.ca), (4, .int .i64 m.ro), (5, .agg m.l.cells.toArray), (6, .agg m.x.cells.toArray), (7, .agg m.s.cells.toArray)] = some m.cells.toArray := by
  rw [built_fillM, fill_k, fill_se, fill_co, fill_ca, fill_ro, fill_l, fill_x, fill_s, Instr.fill]
set_option maxRecDepth 20000 in
set_option maxHeartbeats 4000000 in
theorem of_any (l : Lab) (W : World) : Calls Tryz.prog 19 #[.agg l.cells.toArray] W fun e W' => e = .returned (.agg ({ zM 1 with l := l } : Ms).cells.toArray) ∧ Below W.heap.size W W' := by
  have bA := (Blk.new W 27 l.cells.toArray).alloc (.cells zmsA 55)
  have bR : Blk ((W.alloc (.cells l.cells.toArray 27)).alloc (.cells zmsA 55)) (W.heap.size + 1) 55 zmsA := Blk.new' (by simp)
  have hB := Lib.hid (((Below.refl W.heap.size W).alloc (Nat.le_refl _) (.cells l.cells.toArray 27)).alloc (by simp) (.cells zmsA 55))
  have r0 := bA.range
  clear bA
  have hbl := built_of l
  obtain ⟨m, hm⟩ : ∃ m : Ms, m = { zM 1 with l := l } := ⟨_, rfl⟩
  rw [← hm] at hbl ⊢
  clear hm
  go_enter Tryz.func19, Tryz.ntmps19
  go_wp2_with (first | (refine wpList_load_midg (by rfl) 27 _ rfl _ _ rfl (Lab.cells ?_) _ ?_ Tryz.underlying27 rfl (linfo _) ?_; rotate_left; (focus assumption)) | (refine wpList_build_lit m.cells.toArray rfl 55 _ rfl hbl ?_) | (refine wpList_store_blk rfl 55 _ _ rfl (W.heap.size + 1) 55 _ m.cells.toArray rfl rfl bR (msinfoA _) (zms_siz _) (ms_one _) ?_; intro hrow))
  exact bodyPost_row (t := 55) m.cells.toArray rfl rfl rfl Tryz.underlying55 rfl (msinfoA _) hrow ⟨rfl, below_setRow hB.out (by omega) _⟩
set_option maxRecDepth 20000 in
set_option maxHeartbeats 4000000 in
theorem hand_any (x : Ev) (W : World) : Calls Tryz.prog 17 #[.agg x.cells.toArray] W fun e W' => e = .returned (.agg ({ zM 2 with x := x } : Ms).cells.toArray) ∧ Below W.heap.size W W' := by
  have bA := (Blk.new W 53 x.cells.toArray).alloc (.cells zmsA 55)
  have bR : Blk ((W.alloc (.cells x.cells.toArray 53)).alloc (.cells zmsA 55)) (W.heap.size + 1) 55 zmsA := Blk.new' (by simp)
  have hB := Lib.hid (((Below.refl W.heap.size W).alloc (Nat.le_refl _) (.cells x.cells.toArray 53)).alloc (by simp) (.cells zmsA 55))
  have r0 := bA.range
  clear bA
  have hbl := built_ev 2 x
  obtain ⟨m, hm⟩ : ∃ m : Ms, m = { zM 2 with x := x } := ⟨_, rfl⟩
  rw [← hm] at hbl ⊢
  clear hm
  go_enter Tryz.func17, Tryz.ntmps17
  go_wp2_with (first | (refine wpList_load_midg (by rfl) 53 _ rfl _ _ rfl (Ev.cells ?_) _ ?_ Tryz.underlying53 rfl (einfo _) ?_; rotate_left; (focus assumption)) | (refine wpList_build_lit m.cells.toArray rfl 55 _ rfl hbl ?_) | (refine wpList_store_blk rfl 55 _ _ rfl (W.heap.size + 1) 55 _ m.cells.toArray rfl rfl bR (msinfoA _) (zms_siz _) (ms_one _) ?_; intro hrow))
  exact bodyPost_row (t := 55) m.cells.toArray rfl rfl rfl Tryz.underlying55 rfl (msinfoA _) hrow ⟨rfl, below_setRow hB.out (by omega) _⟩
set_option maxRecDepth 20000 in
set_option maxHeartbeats 4000000 in
theorem part_any (x : Ev) (W : World) : Calls Tryz.prog 20 #[.agg x.cells.toArray] W fun e W' => e = .returned (.agg ({ zM 3 with x := x } : Ms).cells.toArray) ∧ Below W.heap.size W W' := by
  have bA := (Blk.new W 53 x.cells.toArray).alloc (.cells zmsA 55)
  have bR : Blk ((W.alloc (.cells x.cells.toArray 53)).alloc (.cells zmsA 55)) (W.heap.size + 1) 55 zmsA := Blk.new' (by simp)
  have hB := Lib.hid (((Below.refl W.heap.size W).alloc (Nat.le_refl _) (.cells x.cells.toArray 53)).alloc (by simp) (.cells zmsA 55))
  have r0 := bA.range
  clear bA
  have hbl := built_ev 3 x
  obtain ⟨m, hm⟩ : ∃ m : Ms, m = { zM 3 with x := x } := ⟨_, rfl⟩
  rw [← hm] at hbl ⊢
  clear hm
  go_enter Tryz.func20, Tryz.ntmps20
  go_wp2_with (first | (refine wpList_load_midg (by rfl) 53 _ rfl _ _ rfl (Ev.cells ?_) _ ?_ Tryz.underlying53 rfl (einfo _) ?_; rotate_left; (focus assumption)) | (refine wpList_build_lit m.cells.toArray rfl 55 _ rfl hbl ?_) | (refine wpList_store_blk rfl 55 _ _ rfl (W.heap.size + 1) 55 _ m.cells.toArray rfl rfl bR (msinfoA _) (zms_siz _) (ms_one _) ?_; intro hrow))
  exact bodyPost_row (t := 55) m.cells.toArray rfl rfl rfl Tryz.underlying55 rfl (msinfoA _) hrow ⟨rfl, below_setRow hB.out (by omega) _⟩
set_option maxRecDepth 20000 in
set_option maxHeartbeats 4000000 in
theorem ask_any (k s : Int) (W : World) : Calls Tryz.prog 15 #[.int .i64 k, .int .i64 s] W fun e W' => e = .returned (.agg ({ zM k with se := s } : Ms).cells.toArray) ∧ Below W.heap.size W W' := by
  have bR := Blk.new W 55 zmsA
  have hB := Lib.hid ((Below.refl W.heap.size W).alloc (Nat.le_refl _) (.cells zmsA 55))
  have hbl := built_ask k s
  obtain ⟨m, hm⟩ : ∃ m : Ms, m = { zM k with se := s } := ⟨_, rfl⟩
  rw [← hm] at hbl ⊢
  clear hm
  go_enter Tryz.func15, Tryz.ntmps15
  go_wp2_with (first | (refine wpList_build_lit m.cells.toArray rfl 55 _ rfl hbl ?_) | (refine wpList_store_blk rfl 55 _ _ rfl W.heap.size 55 _ m.cells.toArray rfl rfl bR (msinfoA _) (zms_siz _) (ms_one _) ?_; intro hrow))
  exact bodyPost_row (t := 55) m.cells.toArray rfl rfl rfl Tryz.underlying55 rfl (msinfoA _) hrow ⟨rfl, below_setRow hB.out (Nat.le_refl _) _⟩
set_option maxRecDepth 20000 in
set_option maxHeartbeats 4000000 in
theorem end_any (s c : Int) (W : World) : Calls Tryz.prog 18 #[.int .i64 s, .int .i64 c] W fun e W' => e = .returned (.agg ({ zM 5 with se := s, co := c } : Ms).cells.toArray) ∧ Below W.heap.size W W' := by
  have bR := Blk.new W 55 zmsA
  have hB := Lib.hid ((Below.refl W.heap.size W).alloc (Nat.le_refl _) (.cells zmsA 55))
  have hbl := built_end s c
  obtain ⟨m, hm⟩ : ∃ m : Ms, m = { zM 5 with se := s, co := c } := ⟨_, rfl⟩
  rw [← hm] at hbl ⊢
  clear hm
  go_enter Tryz.func18, Tryz.ntmps18
  go_wp2_with (first | (refine wpList_build_lit m.cells.toArray rfl 55 _ rfl hbl ?_) | (refine wpList_store_blk rfl 55 _ _ rfl W.heap.size 55 _ m.cells.toArray rfl rfl bR (msinfoA _) (zms_siz _) (ms_one _) ?_; intro hrow))
  exact bodyPost_row (t := 55) m.cells.toArray rfl rfl rfl Tryz.underlying55 rfl (msinfoA _) hrow ⟨rfl, below_setRow hB.out (Nat.le_refl _) _⟩
set_option maxRecDepth 20000 in
set_option maxHeartbeats 4000000 in
theorem say_any (c r : Int) (s : St) (W : World) : Calls Tryz.prog 16 #[.int .i64 c, .int .i64 r, .agg s.cells.toArray] W fun e W' => e = .returned (.agg ({ zM 10 with ca := c, ro := r, s := s } : Ms).cells.toArray) ∧ Below W.heap.size W W' := by
  have bA := (Blk.new W 33 s.cells.toArray).alloc (.cells zmsA 55)
  have bR : Blk ((W.alloc (.cells s.cells.toArray 33)).alloc (.cells zmsA 55)) (W.heap.size + 1) 55 zmsA := Blk.new' (by simp)
  have hB := Lib.hid (((Below.refl W.heap.size W).alloc (Nat.le_refl _) (.cells s.cells.toArray 33)).alloc (by simp) (.cells zmsA 55))
  have r0 := bA.range
  clear bA
  have hbl := built_say c r s
  obtain ⟨m, hm⟩ : ∃ m : Ms, m = { zM 10 with ca := c, ro := r, s := s } := ⟨_, rfl⟩
  rw [← hm] at hbl ⊢
  clear hm
  go_enter Tryz.func16, Tryz.ntmps16
  go_wp2_with (first | (refine wpList_load_midg (by rfl) 33 _ rfl _ _ rfl (St.cells ?_) _ ?_ Tryz.underlying33 rfl (stinfo _) ?_; rotate_left; (focus assumption)) | (refine wpList_build_lit m.cells.toArray rfl 55 _ rfl hbl ?_) | (refine wpList_store_blk rfl 55 _ _ rfl (W.heap.size + 1) 55 _ m.cells.toArray rfl rfl bR (msinfoA _) (zms_siz _) (ms_one _) ?_; intro hrow))
  exact bodyPost_row (t := 55) m.cells.toArray rfl rfl rfl Tryz.underlying55 rfl (msinfoA _) hrow ⟨rfl, below_setRow hB.out (by omega) _⟩
/-- A message as plain data. -/
def Ms.plain (m : Ms) : List Value := m.hd ++ m.l.cells ++ m.x.item ++ m.s.cells
theorem pm_len (m : Ms) : (Ms.plain m).length = 57 := by unfold Ms.plain; simp only [List.length_append, hd_len, lab_len, item_len, st_len]
theorem pm_def (m : Ms) : Ms.plain m = m.hd ++ m.l.cells ++ m.x.item ++ m.s.cells := by unfold Ms.plain; rfl
theorem pm_0 (m : Ms) (j : Nat) (h : j < 5) : (Ms.plain m)[j]? = m.hd[j]? := by
  unfold Ms.plain
  rw [List.append_assoc, List.append_assoc, List.getElem?_append_left (by rw [hd_len]; exact h)]
theorem pm_l (m : Ms) (j : Nat) (h : j < 17) : (Ms.plain m)[5 + j]? = m.l.cells[j]? := by
  unfold Ms.plain
  rw [List.append_assoc, List.append_assoc, List.getElem?_append_right (by rw [hd_len]; omega), hd_len, Nat.add_sub_cancel_left, List.getElem?_append_left (by rw [lab_len]; exact h)]
theorem pm_x (m : Ms) (j : Nat) (h : j < 21) : (Ms.plain m)[22 + j]? = m.x.item[j]? := by
  unfold Ms.plain
  rw [List.append_assoc, List.getElem?_append_right (by rw [List.length_append, hd_len, lab_len]; omega), List.length_append, hd_len, lab_len, Nat.add_sub_cancel_left, List.getElem?_append_left (by rw [item_len]; exact h)]
theorem pm_s (m : Ms) (j : Nat) : (Ms.plain m)[43 + j]? = m.s.cells[j]? := by
  unfold Ms.plain
  rw [List.getElem?_append_right (by simp only [List.length_append, hd_len, lab_len, item_len]; omega)]
  simp only [List.length_append, hd_len, lab_len, item_len]
  rw [show 43 + j - (5 + 17 + 21) = j from by omega]
attribute [irreducible] Ms.plain
theorem pminfo (m : Ms) : (Tryz.prog.info? 35).map (·.size) = some (Ms.plain m).length := by rw [pm_len]; kernel_rfl
theorem pm_all {W : World} {b : Nat} {t : TypeId} {m : Ms} (h : Blk W b t (Ms.plain m).toArray) :
    W.rangeAt b 0 (Ms.plain m) ∧ W.rangeAt b 5 m.l.cells ∧ W.rangeAt b 22 m.x.item ∧ W.rangeAt b 43 m.s.cells ∧ W.cell? ⟨b, 0, none⟩ = some (.int .i64 m.k) ∧ W.cell? ⟨b, 1, none⟩ = some (.int .i64 m.se) ∧ W.cell? ⟨b, 2, none⟩ = some (.int .i64 m.co) ∧ W.cell? ⟨b, 3, none⟩ = some (.int .i64 m.ca) ∧ W.cell? ⟨b, 4, none⟩ = some (.int .i64 m.ro) := by
  have hc : ∀ i, W.cell? ⟨b, i, none⟩ = (Ms.plain m)[i]? := fun i => by rw [h.cell, List.getElem?_toArray]
  refine ⟨h.range, fun j v hv => ?_, fun j v hv => ?_, fun j v hv => by rw [hc, pm_s, hv], (hc 0).trans (pm_0 m 0 (by omega)), (hc 1).trans (pm_0 m 1 (by omega)), (hc 2).trans (pm_0 m 2 (by omega)), (hc 3).trans (pm_0 m 3 (by omega)), (hc 4).trans (pm_0 m 4 (by omega))⟩
  · have hj : j < 17 := by have := (List.getElem?_eq_some_iff.1 hv).1; rwa [lab_len] at this
    rw [hc, pm_l m j hj, hv]
  · have hj : j < 21 := by have := (List.getElem?_eq_some_iff.1 hv).1; rwa [item_len] at this
    rw [hc, pm_x m j hj, hv]
set_option maxRecDepth 20000 in
set_option maxHeartbeats 8000000 in
theorem plainmsg_any (m : Ms) (W : World) : Calls Tryz.prog 7 #[.agg (Ms.plain m).toArray] W fun e W' => e = .returned (.agg m.cells.toArray) ∧ Below W.heap.size W W' := by
  have bA := (Blk.new W 35 (Ms.plain m).toArray).alloc (.cells zmsA 55)
  have bR : Blk ((W.alloc (.cells (Ms.plain m).toArray 35)).alloc (.cells zmsA 55)) (W.heap.size + 1) 55 zmsA := Blk.new' (by simp)
  have hB := ((Below.refl W.heap.size W).alloc (Nat.le_refl _) (.cells (Ms.plain m).toArray 35)).alloc (by simp) (.cells zmsA 55)
  have hbl := built_all m
  go_enter Tryz.func7, Tryz.ntmps7
  go_upto_region 1 with fail
  obtain ⟨w1, hw1⟩ : ∃ w1, w1 = (W.alloc (.cells (Ms.plain m).toArray 35)).alloc (.cells zmsA 55) := ⟨_, rfl⟩
  rw [← hw1] at bA bR hB ⊢
  clear hw1
  obtain ⟨_, rl, rx, rs, c0, c1, c2, c3, c4⟩ := pm_all bA
  refine wp_region_tree (S := (fun w' => w'.cell? ⟨W.heap.size, 0, none⟩ = some (.int .i64 m.k) ∧ w'.cell? ⟨W.heap.size, 1, none⟩ = some (.int .i64 m.se) ∧ w'.cell? ⟨W.heap.size, 2, none⟩ = some (.int .i64 m.co) ∧ w'.cell? ⟨W.heap.size, 3, none⟩ = some (.int .i64 m.ca) ∧ w'.cell? ⟨W.heap.size, 4, none⟩ = some (.int .i64 m.ro) ∧ w'.rangeAt W.heap.size 5 m.l.cells ∧ w'.rangeAt W.heap.size 22 m.x.item ∧ w'.rangeAt W.heap.size 43 m.s.cells)) (.take 0 (.take 1 (.take 2 (.take 3 (.take 4 (.take 5 (.take 6 (.take 7 (.take 8 (.take 9 (.take 10 (.take 11 (.take 12 (.take 13 (.take 15 (.take 16 (.one 14 (.take 17 (.one 18 .nil))))))))))))))))))) 9999 (by kernel_rfl) (by kernel_rfl) (by kernel_rfl) (by kernel_rfl) (by kernel_rfl) (fun _ _ d _ _ h => by cases d <;> exact h) ⟨c0, c1, c2, c3, c4, rl, rx, rs⟩ (fun hHeld => ?_); simp only [Tree.map, List.getElem?_toArray, List.getElem?_cons_zero, List.getElem?_cons_succ]
  (repeat (first | (refine wpTree.take (v := undef) (Or.inr ⟨by rfl, rfl⟩) ?_; simp only [Act.put, List.setIfInBounds_toArray, List.set_cons_zero, List.set_cons_succ]) | (refine wpTree.take (v := .agg (Lab.cells ?_).toArray) (yieldsIf_load_mid rfl 27 _ rfl _ _ rfl (Lab.cells _) _ ?_ Tryz.underlying27 rfl (linfo _)) ?_; rotate_left; (focus (intro _ hS; exact hS.2.2.2.2.2.1)); simp only [Act.put, List.setIfInBounds_toArray, List.set_cons_zero, List.set_cons_succ]) | (refine wpTree.take (v := .agg (Ev.item ?_).toArray) (yieldsIf_load_mid rfl 31 _ rfl _ _ rfl (Ev.item _) _ ?_ Tryz.underlying31 rfl (iinfo _)) ?_; rotate_left; (focus (intro _ hS; exact hS.2.2.2.2.2.2.1)); simp only [Act.put, List.setIfInBounds_toArray, List.set_cons_zero, List.set_cons_succ]) | (refine wpTree.take (v := .agg (St.cells ?_).toArray) (yieldsIf_load_mid rfl 33 _ rfl _ _ rfl (St.cells _) _ ?_ Tryz.underlying33 rfl (stinfo _)) ?_; rotate_left; (focus (intro _ hS; exact hS.2.2.2.2.2.2.2)); simp only [Act.put, List.setIfInBounds_toArray, List.set_cons_zero, List.set_cons_succ]) | (refine wpTree.take (v := ?_) (Or.inl ⟨by rfl, ?_⟩) ?_; rotate_left; (focus (intro _ hS; (try dsimp only at hS); go_split_ands; (try subst hS); go_simp; (try (with_reducible rfl)); done)); simp only [Act.put, List.setIfInBounds_toArray, List.set_cons_zero, List.set_cons_succ])))
  refine wpTree.one (fun K hK => ?_)
  go_simp
  go_at_call 35
  refine (itemevent_any m.x _).mono ?_
  rintro e w2 ⟨rfl, hb⟩
  have hb2 : Below w1.heap.size w1 w2 := (Below.refl _ _).drew.trans hb
  obtain ⟨_, rl, rx, rs, c0, c1, c2, c3, c4⟩ := pm_all (bA.next hb2)
  have bR2 := bR.next hb2
  have hB2 := hB.trans (hb2.mono hB.size)
  refine hK.out _ _ ⟨c0, c1, c2, c3, c4, rl, rx, rs⟩ (fun _ => ?_)
  clear hK K hb hb2 hHeld
  (try simp only [Act.put, List.setIfInBounds_toArray, List.set_cons_zero, List.set_cons_succ])
  refine wpTree.take (yields_build' m.cells.toArray (by rfl) 55 [(0, _), (1, _), (2, _), (3, _), (4, _), (5, _), (6, _), (7, _)] rfl hbl) ?_
  simp only [Act.put, List.setIfInBounds_toArray, List.set_cons_zero, List.set_cons_succ]
  refine wpTree.one (fun K hK => ?_)
  refine step_store_blk (by rfl) 55 _ _ rfl (W.heap.size + 1) 55 zmsA m.cells.toArray rfl rfl bR2 (msinfoA _) (zms_siz _) (ms_one _) ?_
  have hS3 := below_setRow (Below.refl (W.heap.size + 1) w2) (Nat.le_refl _) m.cells.toArray
  have hc := fun i => hS3.cell (p := ⟨W.heap.size, i, none⟩) (Nat.lt_succ_self _)
  refine hK.out _ _ ⟨(hc 0).trans c0, (hc 1).trans c1, (hc 2).trans c2, (hc 3).trans c3, (hc 4).trans c4, fun j v hj => (hc (5 + j)).trans (rl j v hj), fun j v hj => (hc (22 + j)).trans (rx j v hj), fun j v hj => (hc (43 + j)).trans (rs j v hj)⟩ (fun _ => ?_)
  clear hK K
  refine wpTree.done ?_
  have hrow := bR2.setRow m.cells.toArray
  have hb3 := below_setRow hB2 (show W.heap.size ≤ W.heap.size + 1 by omega) m.cells.toArray
  clear hS3 hc c0 c1 c2 c3 c4 rl rx rs bA bR hB bR2 hB2
  go_wp2_with fail
  exact bodyPost_row (t := 55) m.cells.toArray rfl rfl rfl Tryz.underlying55 rfl (msinfoA _) hrow ⟨rfl, hb3⟩
section
variable {H : Type} {enc : TypeId × Value → H} {w : World}
theorem cells_st : Tryz.prog.cellsOf 33 = 14 := by kernel_rfl
theorem cells_pm : Tryz.prog.cellsOf 35 = 57 := by kernel_rfl
theorem cells_boolM : Tryz.prog.cellsOf 4 = 1 := by kernel_rfl
set_option maxRecDepth 100000 in
theorem open_stM {base fuel : Nat} {sp : Nat → Bool} {hd : Bool} {cs : List Value} {x : DataW H × List MemPlace} (h : DataW.trod enc Tryz.prog w base sp hd fuel 33 cs = some x) : ∃ s : St, cs = s.cells ∧ St.Ok s := by
  obtain ⟨xs, m, _, hx, hcl, hlen, hg⟩ := DataW.trod_struct Tryz.underlying33 h
  rw [cells_st] at hcl
  have g0 : DataW.trod enc Tryz.prog w base sp hd m 4 ((cs.drop 0).take (Tryz.prog.cellsOf 4)) = xs[0]? := hg 0 _ rfl
  have g1 : DataW.trod enc Tryz.prog w base sp hd m 22 ((cs.drop 1).take (Tryz.prog.cellsOf 22)) = xs[1]? := hg 1 _ rfl
  have g2 : DataW.trod enc Tryz.prog w base sp hd m 25 ((cs.drop 2).take (Tryz.prog.cellsOf 25)) = xs[2]? := hg 2 _ rfl
  have hlen3 : xs.length = 3 := hlen
  clear hg hlen
  rw [cells_boolM] at g0
  rw [cells_u64] at g1
  rw [cells_vec] at g2
  rw [List.getElem?_eq_getElem (by omega)] at g0 g1 g2
  obtain ⟨k, e0, _⟩ := DataW.trod_bool Tryz.underlying4 g0
  obtain ⟨t, e1, _, w1⟩ := DataW.trod_int Tryz.underlying22 g1
  obtain ⟨f, e2, hf⟩ := vec_trod g2
  obtain ⟨t', rfl, b1⟩ := bound_u64 w1
  refine ⟨⟨k, t', f⟩, ?_, ⟨b1, hf⟩⟩
  rw [st_def]
  have s0 : cs = cs.take 2 ++ cs.drop 2 := (List.take_append_drop 2 cs).symm
  rw [List.take_of_length_le (by rw [List.length_drop]; omega)] at e2
  rw [s0, e2]
  congr 1
  match cs, hcl, e0, e1 with
  | a :: b :: r, _, e0, e1 =>
    simp only [List.drop_zero, List.take_succ_cons, List.take_zero, List.drop_succ_cons] at e0 e1 ⊢
    rw [(List.cons.inj e0).1, (List.cons.inj e1).1]
structure Ms.Bd (m : Ms) : Prop where
  k : -9223372036854775808 ≤ m.k ∧ m.k ≤ 9223372036854775807
  se : -9223372036854775808 ≤ m.se ∧ m.se ≤ 9223372036854775807
  co : -9223372036854775808 ≤ m.co ∧ m.co ≤ 9223372036854775807
  ca : -9223372036854775808 ≤ m.ca ∧ m.ca ≤ 9223372036854775807
  ro : -9223372036854775808 ≤ m.ro ∧ m.ro ≤ 9223372036854775807
  l : m.l.Ok
  x : m.x.Ok
  s : St.Ok m.s
set_option maxRecDepth 100000 in
theorem open_pm_cells {base fuel : Nat} {sp : Nat → Bool} {hd : Bool} {cs : List Value} {x : DataW H × List MemPlace} (h : DataW.trod enc Tryz.prog w base sp hd fuel 35 cs = some x) : ∃ m : Ms, cs = Ms.plain m ∧ Ms.Bd m := by
  obtain ⟨xs, m, _, hx, hcl, hlen, hg⟩ := DataW.trod_struct Tryz.underlying35 h
  rw [cells_pm] at hcl
  have g0 : DataW.trod enc Tryz.prog w base sp hd m 3 ((cs.drop 0).take (Tryz.prog.cellsOf 3)) = xs[0]? := hg 0 _ rfl
  have g1 : DataW.trod enc Tryz.prog w base sp hd m 3 ((cs.drop 1).take (Tryz.prog.cellsOf 3)) = xs[1]? := hg 1 _ rfl
  have g2 : DataW.trod enc Tryz.prog w base sp hd m 3 ((cs.drop 2).take (Tryz.prog.cellsOf 3)) = xs[2]? := hg 2 _ rfl
  have g3 : DataW.trod enc Tryz.prog w base sp hd m 3 ((cs.drop 3).take (Tryz.prog.cellsOf 3)) = xs[3]? := hg 3 _ rfl
  have g4 : DataW.trod enc Tryz.prog w base sp hd m 3 ((cs.drop 4).take (Tryz.prog.cellsOf 3)) = xs[4]? := hg 4 _ rfl
  have g5 : DataW.trod enc Tryz.prog w base sp hd m 27 ((cs.drop 5).take (Tryz.prog.cellsOf 27)) = xs[5]? := hg 5 _ rfl
  have g6 : DataW.trod enc Tryz.prog w base sp hd m 31 ((cs.drop 22).take (Tryz.prog.cellsOf 31)) = xs[6]? := hg 6 _ rfl
  have g7 : DataW.trod enc Tryz.prog w base sp hd m 33 ((cs.drop 43).take (Tryz.prog.cellsOf 33)) = xs[7]? := hg 7 _ rfl
  have hlen8 : xs.length = 8 := hlen
  clear hg hlen
  rw [cells_int] at g0 g1 g2 g3 g4
  rw [cells_lab] at g5
  rw [cells_item] at g6
  rw [cells_st] at g7
  rw [List.getElem?_eq_getElem (by omega)] at g0 g1 g2 g3 g4 g5 g6 g7
  obtain ⟨k, e0, _, w0⟩ := DataW.trod_int Tryz.underlying3 g0
  obtain ⟨se, e1, _, w1⟩ := DataW.trod_int Tryz.underlying3 g1
  obtain ⟨co, e2, _, w2⟩ := DataW.trod_int Tryz.underlying3 g2
  obtain ⟨ca, e3, _, w3⟩ := DataW.trod_int Tryz.underlying3 g3
  obtain ⟨ro, e4, _, w4⟩ := DataW.trod_int Tryz.underlying3 g4
  obtain ⟨l, e5, hl⟩ := open_lab_cells g5
  obtain ⟨x, e6, hx6⟩ := open_item_cells g6
  obtain ⟨s, e7, hs⟩ := open_stM g7
  refine ⟨⟨k, se, co, ca, ro, l, x, s⟩, ?_, ⟨bounds_i64 w0, bounds_i64 w1, bounds_i64 w2, bounds_i64 w3, bounds_i64 w4, hl, hx6, hs⟩⟩
  rw [pm_def]
  rw [List.take_of_length_le (by rw [List.length_drop]; omega)] at e7
  have s0 : cs = cs.take 5 ++ cs.drop 5 := (List.take_append_drop 5 cs).symm
  have s1 : cs.drop 5 = (cs.drop 5).take 17 ++ cs.drop 22 := by have := (List.take_append_drop 17 (cs.drop 5)).symm; rwa [List.drop_drop] at this
  have s2 : cs.drop 22 = (cs.drop 22).take 21 ++ cs.drop 43 := by have := (List.take_append_drop 21 (cs.drop 22)).symm; rwa [List.drop_drop] at this
  have s3 : cs.take 5 = [.int .i64 k, .int .i64 se, .int .i64 co, .int .i64 ca, .int .i64 ro] := by
    match cs, hcl, e0, e1, e2, e3, e4 with
    | a :: b :: c :: d :: e :: r, _, e0, e1, e2, e3, e4 =>
      simp only [List.drop_zero, List.take_succ_cons, List.take_zero, List.drop_succ_cons] at e0 e1 e2 e3 e4 ⊢
      rw [(List.cons.inj e0).1, (List.cons.inj e1).1, (List.cons.inj e2).1, (List.cons.inj e3).1, (List.cons.inj e4).1]
  rw [s0, s1, s2, s3, e5, e6, e7]
  simp only [Ms.hd, List.append_assoc]
set_option maxRecDepth 100000 in
theorem open_pm {r : Reach} {b0 base : Nat} {sp : Nat → Bool} {hd : Bool} {v : Value} {d : DataW H} {p : List MemPlace} (hv : Value.okWide Tryz.prog w r b0 35 v) (h : DataW.Trod enc Tryz.prog w base sp hd 35 v d p) :
    ∃ m : Ms, v = .agg (Ms.plain m).toArray ∧ Ms.Bd m := by
  obtain ⟨cs, rfl, _⟩ := okWide_struct Tryz.underlying35 hv
  obtain ⟨fuel, hf⟩ := h
  obtain ⟨l, e, hok⟩ := open_pm_cells hf
  exact ⟨l, by rw [← e]; rfl, hok⟩
end
end Mg
end Go.Proofs.YtkigaclcmodjaaaGreat
namespace Go.Proofs.YtkigaclcmodjaaaGreat
open Go.RowKit
set_option linter.unusedSimpArgs false
set_option linter.unusedVariables false
namespace Mg
def l1 : Lab := Lab.mk 1 1 1 1 1 (fun _ => 0)
def s5 : St := ⟨true, 5, lv [7]⟩
def x1 : Ev := ⟨l1, ⟨4, 0, 0, 0⟩⟩
def mA : Ms := { zM 4 with se := 3 }
def mB : Ms := { zM 10 with ca := 1, ro := 2, s := s5 }
def mC : Ms := { zM 10 with se := 3 }
def mD : Ms := { zM 2 with x := x1 }
def mE : Ms := { zM 5 with se := 2, co := 9 }
def mF : Ms := { zM 1 with l := l1 }
theorem l1_right : rightL l1 = true := by unfold rightL timeB placeB nextB getN nodeB l1; decide
theorem l1_enc : encL l1 = [1, 1, 1, 1, 1, 0] := by
  have h1 : topV (fun _ => 0) 12 = 0 := by decide
  have h2 : trimV (fun _ => 0) = [] := by unfold trimV; rw [h1]; rfl
  show enc 1 ++ enc 1 ++ enc 1 ++ enc 1 ++ enc 1 ++ (enc (topV (fun _ => 0) 12) ++ encs (trimV (fun _ => 0))) = _
  rw [h1, h2, enc_lo (by decide), enc_lo (by decide)]
  rfl
theorem x1_right : rightE x1 = true := by
  unfold rightE x1
  dsimp only
  rw [l1_right]
  decide
theorem rightM_self {m : Ms} (h : partsM m = m) (hb : bodyM m = true) : rightM m = true := by unfold rightM; rw [h, (sameM_iff _ _).2 rfl, hb]; rfl
theorem mA_right : rightM mA = true := rightM_self rfl rfl
theorem mB_right : rightM mB = true := rightM_self rfl (by decide)
theorem mD_right : rightM mD = true := rightM_self rfl x1_right
theorem mE_right : rightM mE = true := rightM_self rfl rfl
theorem mF_right : rightM mF = true := rightM_self rfl l1_right
theorem mC_right : rightM mC = false := by
  unfold rightM
  rw [show bodyM mC = false from rfl, Bool.and_false]
theorem s5_enc : encSt s5 = [1, 5, 1, 7] := by
  have h1 : topV (lv [7]) 12 = 1 := by decide
  have h2 : trimV (lv [7]) = [7] := by unfold trimV; rw [h1]; rfl
  show enc 1 ++ enc 5 ++ (enc (topV (lv [7]) 12) ++ encs (trimV (lv [7]))) = _
  rw [h1, h2]
  show enc 1 ++ enc 5 ++ (enc 1 ++ (enc 7 ++ [])) = _
  rw [enc_lo (by decide), enc_lo (by decide), enc_lo (by decide)]
  rfl
theorem mA_enc : encM mA = [4, 3] := by
  show enc 4 ++ ([] ++ ([] ++ (enc 3 ++ ([] ++ [])))) = _
  rw [enc_lo (by decide), enc_lo (by decide)]
  rfl
theorem mB_enc : encM mB = [10, 1, 2, 1, 5, 1, 7] := by
  show enc 10 ++ ([] ++ ([] ++ ([] ++ ((enc 1 ++ (enc 2 ++ encSt s5)) ++ [])))) = _
  rw [s5_enc, enc_lo (by decide), enc_lo (by decide), enc_lo (by decide)]
  rfl
theorem mD_enc : encM mD = [2, 1, 1, 1, 1, 1, 0, 4] := by
  show enc 2 ++ ([] ++ ((encL l1 ++ (enc 4 ++ ([] ++ ([] ++ [])))) ++ ([] ++ ([] ++ [])))) = _
  rw [l1_enc, enc_lo (by decide), enc_lo (by decide)]
  rfl
theorem mE_enc : encM mE = [5, 2, 9] := by
  show enc 5 ++ ([] ++ ([] ++ (enc 2 ++ ([] ++ enc 9)))) = _
  rw [enc_lo (by decide), enc_lo (by decide), enc_lo (by decide)]
  rfl
theorem mF_enc : encM mF = [1, 1, 1, 1, 1, 1, 0] := by
  show enc 1 ++ (encL l1 ++ ([] ++ ([] ++ ([] ++ [])))) = _
  rw [l1_enc, enc_lo (by decide)]
  rfl
theorem l1_lt : ∀ i, l1.f i < 4294967296 := by intro i; show (0 : Nat) < _; decide
theorem s5_ok : St.Ok s5 := ⟨by decide, fun i => by
  show lv [7] i < _
  by_cases h : i < 1
  · obtain rfl : i = 0 := by omega
    decide
  · rw [lv_over (by simp; omega)]; decide⟩
theorem mA_ok : Ms.Ok mA := { ok_zero 4 with }
theorem mB_ok : Ms.Ok mB := { ok_zero 10 with s := s5_ok }
theorem mD_ok : Ms.Ok mD := { ok_zero 2 with x := l1_lt, p := by show (0 : Nat) < _; decide }
theorem mE_ok : Ms.Ok mE := { ok_zero 5 with }
theorem mF_ok : Ms.Ok mF := { ok_zero 1 with l := l1_lt }
theorem mB_read : msgP [10, 1, 2, 1, 5, 1, 7] = .ok (asM mB, []) := by rw [← mB_enc]; exact msg_yes mB_right mB_ok
theorem s5_cells : s5.cells.toArray = #[.bool true, .int .u64 5, .int .u32 7, .int .u32 0, .int .u32 0, .int .u32 0, .int .u32 0, .int .u32 0, .int .u32 0, .int .u32 0, .int .u32 0, .int .u32 0, .int .u32 0, .int .u32 0] := by
  rw [st_def]
  show ([.bool true, .int .u64 ((5 : Nat) : Int)] ++ vl (lv [7]) : List Value).toArray = _
  unfold vl
  rfl
theorem l1_cells : l1.cells.toArray = #[.int .u64 1, .int .i64 1, .int .u32 1, .int .i64 1, .int .i64 1, .int .u32 0, .int .u32 0, .int .u32 0, .int .u32 0, .int .u32 0, .int .u32 0, .int .u32 0, .int .u32 0, .int .u32 0, .int .u32 0, .int .u32 0, .int .u32 0] := by
  rw [lab_cellsD]
  show ([.int .u64 ((1 : Nat) : Int), .int .i64 1, .int .u32 ((1 : Nat) : Int), .int .i64 1, .int .i64 1] ++ vl (fun _ => 0) : List Value).toArray = _
  unfold vl
  rfl
theorem built_x1 : Tryz.prog.built 53 [(0, .agg l1.cells.toArray), (1, .agg #[.int .i64 4, .int .i64 0, .int .i64 0, .float .f64 0])] = some x1.cells.toArray := by
  rw [← show OpR.cells ⟨4, 0, 0, 0⟩ = [.int .i64 4, .int .i64 0, .int .i64 0, .float .f64 0] from op_cells _]
  exact Go.Proofs.YtkigaclcmodjaaaGreat.built_ev l1 ⟨4, 0, 0, 0⟩
theorem field_zM (w : World) : (Instr.field 55 (.agg (zM 3).cells.toArray) 0).run Tryz.prog w = .ok (.int .i64 3) w := by rw [zM_cells]; kernel_rfl
def BytesAt (W : World) (v : Value) (bs : List Nat) : Prop := ∃ A c, v = .slice A bs.length c ∧ bs.length ≤ c ∧ ByR W A bs ∧ (A = none → bs = [])
theorem BytesAt.next {W W' : World} {v : Value} {bs : List Nat} (h : BytesAt W v bs) (hb : Below W.heap.size W W') : BytesAt W' v bs := by
  obtain ⟨A, c, rfl, h1, h2, h3⟩ := h; exact ⟨A, c, rfl, h1, h2.next hb, h3⟩
theorem BytesAt.of {W : World} {B : Nat} {v : Value} {bs : List Nat} (h : W.ownsRow B 5 1 v bs.length (u8s bs)) : BytesAt W v bs := by
  obtain ⟨A, c, rfl, h1, h2, h3⟩ := own_byr h; exact ⟨A, c, rfl, h1, h2, h3⟩
set_option maxRecDepth 20000 in
theorem BytesAt.conv {W : World} {v : Value} {bs : List Nat} (h : BytesAt W v bs) (hb : ∀ x ∈ bs, x < 256) : (convert 36 9 v).run Tryz.prog W = .ok (.string (bstr bs)) W := by
  obtain ⟨A, c, rfl, h1, h2, h3⟩ := h
  exact conv_src W A bs.length c bs (h2.src h3) rfl hb
set_option maxRecDepth 100000 in
set_option maxHeartbeats 16000000 in
theorem alive23_any (W : World) : Calls Tryz.prog 4 #[] W fun e W' => e = .returned (.bool true) ∧ Below W.heap.size W W' := by
  go_enter Tryz.func4, Tryz.ntmps4
  go_wp2_with fail
  refine (ask_any 4 3 W).mono ?_
  rintro e w1 ⟨rfl, hb⟩
  have HB1 := Lib.hid hb
  clear hb
  go_wp2_with fail
  refine (ms_write_yes mA w1 mA_right mA_ok).mono ?_
  rintro e w2 ⟨va, rfl, hown, hb⟩
  have HB2 := Lib.hid (HB1.out.trans (hb.mono HB1.out.size))
  rw [mA_enc] at hown
  have HVA2 := Lib.hid (BytesAt.of hown)
  clear hown
  clear hb HB1
  have hbs : Tryz.prog.built 33 [(0, .bool true), (1, .int .u64 5), (2, .agg #[.int .u32 7, .int .u32 0, .int .u32 0, .int .u32 0, .int .u32 0, .int .u32 0, .int .u32 0, .int .u32 0, .int .u32 0, .int .u32 0, .int .u32 0, .int .u32 0])] = some s5.cells.toArray := by rw [s5_cells]; kernel_rfl
  go_wp2_with (first | (refine wpList_build_lit s5.cells.toArray rfl 33 _ rfl hbs ?_))
  clear hbs
  refine (say_any 1 2 s5 w2).mono ?_
  rintro e w3 ⟨rfl, hb⟩
  have HB3 := Lib.hid (HB2.out.trans (hb.mono HB2.out.size))
  have HVA3 := Lib.hid (HVA2.out.next hb)
  clear hb HB2 HVA2
  go_wp2_with fail
  refine (ms_write_yes mB w3 mB_right mB_ok).mono ?_
  rintro e w4 ⟨vb, rfl, hown, hb⟩
  have HB4 := Lib.hid (HB3.out.trans (hb.mono HB3.out.size))
  have HVA4 := Lib.hid (HVA3.out.next hb)
  rw [mB_enc] at hown
  have HVB4 := Lib.hid (BytesAt.of hown)
  clear hown
  clear hb HB3 HVA3
  obtain ⟨PB, cb, hvb, hcb, hPB, hPB0⟩ := HVB4.out
  have HRD := Lib.hid (msread_yes PB 7 cb w4 [10, 1, 2, 1, 5, 1, 7] rfl hcb (by decide) hPB (asM mB) mB_read)
  have hvb7 : vb = .slice PB 7 cb := hvb
  rw [asM_cells mB_right, ← hvb7] at HRD
  clear hvb hcb hPB hPB0 hvb7
  go_wp2_with fail
  refine (HRD.out).mono ?_
  rintro e w5 ⟨rfl, hb⟩
  have HB5 := Lib.hid (HB4.out.trans (hb.mono HB4.out.size))
  have HVA5 := Lib.hid (HVA4.out.next hb)
  have HVB5 := Lib.hid (HVB4.out.next hb)
  clear HRD
  clear hb HB4 HVA4 HVB4
  go_upto_region 4 with (refine wpList_store_blk rfl 55 _ _ rfl w5.heap.size 55 zmsA mB.cells.toArray rfl rfl (Blk.new' rfl) (msinfoA _) (zms_siz _) (ms_one _) ?_; intro hy)
  have hb : Below w5.heap.size w5 ((w5.alloc (.cells zmsA 55)).setRow w5.heap.size mB.cells.toArray) := below_setRow ((Below.refl _ _).alloc (Nat.le_refl _) _) (Nat.le_refl _) _
  obtain ⟨w6, hw6⟩ : ∃ w6, w6 = (w5.alloc (.cells zmsA 55)).setRow w5.heap.size mB.cells.toArray := ⟨_, rfl⟩
  have hy6 : Blk w6 w5.heap.size 55 mB.cells.toArray := by rw [hw6]; exact hy
  rw [← hw6] at hb
  obtain ⟨g5, hg5⟩ : ∃ g5, g5 = w5.heap.size := ⟨_, rfl⟩
  have HM6 := Lib.hid (show Blk w6 g5 55 mB.cells.toArray by rw [hg5]; exact hy6)
  have HB6 := Lib.hid (HB5.out.trans (hb.mono HB5.out.size))
  have HVA6 := Lib.hid (HVA5.out.next hb)
  have HVB6 := Lib.hid (HVB5.out.next hb)
  rw [← hw6, ← hg5]
  clear hw6 hy hy6 hb hg5 HB5 HVA5 HVB5
  go_wp2_with fail
  refine (ask_any 10 3 w6).mono ?_
  rintro e w7 ⟨rfl, hb⟩
  have HB7 := Lib.hid (HB6.out.trans (hb.mono HB6.out.size))
  have HVA7 := Lib.hid (HVA6.out.next hb)
  have HVB7 := Lib.hid (HVB6.out.next hb)
  have HM7 := Lib.hid (HM6.out.next hb)
  clear hb HB6 HVA6 HVB6 HM6
  go_wp2_with fail
  refine (ms_write_no mC w7 mC_right).mono ?_
  rintro e w8 ⟨rfl, hb⟩
  have HB8 := Lib.hid (HB7.out.trans (hb.mono HB7.out.size))
  have HVA8 := Lib.hid (HVA7.out.next hb)
  have HVB8 := Lib.hid (HVB7.out.next hb)
  have HM8 := Lib.hid (HM7.out.next hb)
  clear hb HB7 HVA7 HVB7 HM7
  have hbl1 : Tryz.prog.built 27 [(0, .int .u64 1), (1, .int .i64 1), (2, .int .u32 1), (3, .int .i64 1), (4, .int .i64 1)] = some l1.cells.toArray := by rw [l1_cells]; kernel_rfl
  go_upto_region 6 with (first | (refine wpList_build_lit l1.cells.toArray rfl 27 _ rfl hbl1 ?_) | (refine wpList_store_blk rfl 27 _ _ rfl w8.heap.size 27 #[.int .u64 0, .int .i64 0, .int .u32 0, .int .i64 0, .int .i64 0, .int .u32 0, .int .u32 0, .int .u32 0, .int .u32 0, .int .u32 0, .int .u32 0, .int .u32 0, .int .u32 0, .int .u32 0, .int .u32 0, .int .u32 0, .int .u32 0] l1.cells.toArray rfl rfl (Blk.new' rfl) (linfoA _) (lab_siz _) (lab_one _) ?_; intro hy))
  have hb : Below w8.heap.size w8 ((w8.alloc (.cells #[.int .u64 0, .int .i64 0, .int .u32 0, .int .i64 0, .int .i64 0, .int .u32 0, .int .u32 0, .int .u32 0, .int .u32 0, .int .u32 0, .int .u32 0, .int .u32 0, .int .u32 0, .int .u32 0, .int .u32 0, .int .u32 0, .int .u32 0] 27)).setRow w8.heap.size l1.cells.toArray) := below_setRow ((Below.refl _ _).alloc (Nat.le_refl _) _) (Nat.le_refl _) _
  obtain ⟨w9, hw9⟩ : ∃ w9, w9 = (w8.alloc (.cells #[.int .u64 0, .int .i64 0, .int .u32 0, .int .i64 0, .int .i64 0, .int .u32 0, .int .u32 0, .int .u32 0, .int .u32 0, .int .u32 0, .int .u32 0, .int .u32 0, .int .u32 0, .int .u32 0, .int .u32 0, .int .u32 0, .int .u32 0] 27)).setRow w8.heap.size l1.cells.toArray := ⟨_, rfl⟩
  rw [← hw9] at hb hy ⊢
  obtain ⟨g8, hg8⟩ : ∃ g8, g8 = w8.heap.size := ⟨_, rfl⟩
  rw [← hg8] at hy ⊢
  have HL9 := Lib.hid hy
  have HB9 := Lib.hid (HB8.out.trans (hb.mono HB8.out.size))
  have HVA9 := Lib.hid (HVA8.out.next hb)
  have HVB9 := Lib.hid (HVB8.out.next hb)
  have HM9 := Lib.hid (HM8.out.next hb)
  have rl := HL9.out.range
  clear hw9 hy hb hg8 HB8 HVA8 HVB8 HM8 hbl1
  go_wp2_with (first | (refine wpList_load_midg (by rfl) 27 _ rfl _ _ rfl (Lab.cells ?_) _ ?_ Tryz.underlying27 rfl (linfo _) ?_; rotate_left; (focus assumption)) | (refine wpList_build_lit x1.cells.toArray (by rfl) 53 [(0, _), (1, _)] rfl built_x1 ?_))
  clear rl
  refine (hand_any x1 w9).mono ?_
  rintro e w10 ⟨rfl, hb⟩
  have HB10 := Lib.hid (HB9.out.trans (hb.mono HB9.out.size))
  have HVA10 := Lib.hid (HVA9.out.next hb)
  have HVB10 := Lib.hid (HVB9.out.next hb)
  have HM10 := Lib.hid (HM9.out.next hb)
  have HL10 := Lib.hid (HL9.out.next hb)
  clear hb HB9 HVA9 HVB9 HM9 HL9
  go_wp2_with fail
  refine (ms_write_yes mD w10 mD_right mD_ok).mono ?_
  rintro e w11 ⟨vc, rfl, hown, hb⟩
  have HB11 := Lib.hid (HB10.out.trans (hb.mono HB10.out.size))
  have HVA11 := Lib.hid (HVA10.out.next hb)
  have HVB11 := Lib.hid (HVB10.out.next hb)
  have HM11 := Lib.hid (HM10.out.next hb)
  have HL11 := Lib.hid (HL10.out.next hb)
  rw [mD_enc] at hown
  have HVC11 := Lib.hid (BytesAt.of hown)
  clear hown
  clear hb HB10 HVA10 HVB10 HM10 HL10
  go_wp2_with fail
  refine (end_any 2 9 w11).mono ?_
  rintro e w12 ⟨rfl, hb⟩
  have HB12 := Lib.hid (HB11.out.trans (hb.mono HB11.out.size))
  have HVA12 := Lib.hid (HVA11.out.next hb)
  have HVB12 := Lib.hid (HVB11.out.next hb)
  have HVC12 := Lib.hid (HVC11.out.next hb)
  have HM12 := Lib.hid (HM11.out.next hb)
  have HL12 := Lib.hid (HL11.out.next hb)
  clear hb HB11 HVA11 HVB11 HVC11 HM11 HL11
  go_wp2_with fail
  refine (ms_write_yes mE w12 mE_right mE_ok).mono ?_
  rintro e w13 ⟨vd, rfl, hown, hb⟩
  have HB13 := Lib.hid (HB12.out.trans (hb.mono HB12.out.size))
  have HVA13 := Lib.hid (HVA12.out.next hb)
  have HVB13 := Lib.hid (HVB12.out.next hb)
  have HVC13 := Lib.hid (HVC12.out.next hb)
  have HM13 := Lib.hid (HM12.out.next hb)
  have HL13 := Lib.hid (HL12.out.next hb)
  rw [mE_enc] at hown
  have HVD13 := Lib.hid (BytesAt.of hown)
  clear hown
  clear hb HB12 HVA12 HVB12 HVC12 HM12 HL12
  have rl := HL13.out.range
  go_wp2_with (first | (refine wpList_load_midg (by rfl) 27 _ rfl _ _ rfl (Lab.cells ?_) _ ?_ Tryz.underlying27 rfl (linfo _) ?_; rotate_left; (focus assumption)))
  clear rl
  refine (of_any l1 w13).mono ?_
  rintro e w14 ⟨rfl, hb⟩
  have HB14 := Lib.hid (HB13.out.trans (hb.mono HB13.out.size))
  have HVA14 := Lib.hid (HVA13.out.next hb)
  have HVB14 := Lib.hid (HVB13.out.next hb)
  have HVC14 := Lib.hid (HVC13.out.next hb)
  have HVD14 := Lib.hid (HVD13.out.next hb)
  have HM14 := Lib.hid (HM13.out.next hb)
  clear hb HB13 HVA13 HVB13 HVC13 HVD13 HM13
  go_wp2_with fail
  refine (ms_write_yes mF w14 mF_right mF_ok).mono ?_
  rintro e w15 ⟨ve, rfl, hown, hb⟩
  have HB15 := Lib.hid (HB14.out.trans (hb.mono HB14.out.size))
  have HVA15 := Lib.hid (HVA14.out.next hb)
  have HVB15 := Lib.hid (HVB14.out.next hb)
  have HVC15 := Lib.hid (HVC14.out.next hb)
  have HVD15 := Lib.hid (HVD14.out.next hb)
  have HM15 := Lib.hid (HM14.out.next hb)
  rw [mF_enc] at hown
  have HVE15 := Lib.hid (BytesAt.of hown)
  clear hown
  clear hb HB14 HVA14 HVB14 HVC14 HVD14 HM14
  go_upto_region 9 with fail
  have ca := HVA15.out.conv (by decide)
  have cb := HVB15.out.conv (by decide)
  have cc := HVC15.out.conv (by decide)
  have cd := HVD15.out.conv (by decide)
  have ce := HVE15.out.conv (by decide)
  rw [show bstr [4, 3] = ⟨#[4, 3]⟩ by rw [bstr_lit]; rfl] at ca
  rw [show bstr [10, 1, 2, 1, 5, 1, 7] = ⟨#[10, 1, 2, 1, 5, 1, 7]⟩ by rw [bstr_lit]; rfl] at cb
  rw [show bstr [2, 1, 1, 1, 1, 1, 0, 4] = ⟨#[2, 1, 1, 1, 1, 1, 0, 4]⟩ by rw [bstr_lit]; rfl] at cc
  rw [show bstr [5, 2, 9] = ⟨#[5, 2, 9]⟩ by rw [bstr_lit]; rfl] at cd
  rw [show bstr [1, 1, 1, 1, 1, 1, 0] = ⟨#[1, 1, 1, 1, 1, 1, 0]⟩ by rw [bstr_lit]; rfl] at ce
  obtain ⟨_, _, _, rs, _, _, _, _, k4⟩ := ms_all HM15.out
  have k44 := rs 1 _ (st_1 s5)
  clear rs HVA15 HVB15 HVC15 HVD15 HVE15 HM15
  have k4' : w15.cell? ⟨g5, 4, none⟩ = some (.int .i64 2) := k4
  have k44' : w15.cell? ⟨g5, 44, none⟩ = some (.int .u64 5) := k44
  clear k4 k44
  have HPT := Lib.hid (part_any Ev.zero w15)
  rw [show ({ zM 3 with x := Ev.zero } : Ms) = zM 3 from rfl] at HPT
  have hfd := field_zM
  simp only [List.append_eq, List.cons_append, List.nil_append]
  go_wp2_with (first | (refine wpList_build_lit Ev.zero.cells.toArray rfl 53 _ rfl built_ez ?_) | (go_at_call 20; refine HPT.out.mono ?_; rintro e w16 ⟨rfl, hb⟩; have HB16 := Lib.hid (HB15.out.trans (hb.mono HB15.out.size)); clear hb HPT))
  go_ret
  exact ⟨rfl, HB16.out⟩
end Mg
end Go.Proofs.YtkigaclcmodjaaaGreat
