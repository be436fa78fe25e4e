/-
msg: within, what kinds have, parts.
-/
import Derived.Test.YtkigaclcmodjaaaMs
import Derived.Deep.MidRow
import Derived.Deep.CutRange
namespace Go.Proofs.Ytkigaclcmodjaaa
open Go.RowKit
set_option linter.unusedSimpArgs false
set_option linter.unusedVariables false
namespace Mg
theorem within_any (n a b : Int) (W : World) : Calls Try.prog 45 #[.int .i64 n, .int .i64 a, .int .i64 b] W fun e W' => e = .returned (.bool (withinB n a b)) ∧ W = W' := by
  unfold withinB
  cases h1 : decide (a ≤ n) with
  | true =>
    rw [Bool.true_and]
    go_enter Try.func45, Try.ntmps45
    go_wp2_with fail
    go_ret
    exact ⟨rfl, rfl⟩
  | false =>
    rw [Bool.false_and]
    go_enter Try.func45, Try.ntmps45
    go_wp2_with fail
    go_ret
    exact ⟨rfl, rfl⟩
def hl (k : Int) : Bool := k == 1
def hev (k : Int) : Bool := (k == 2) || (k == 3)
def hse (k : Int) : Bool := withinB k 4 9
def hco (k : Int) : Bool := k == 5
def hst (k : Int) : Bool := k == 10
theorem haslabel_any (k : Int) (W : World) : Calls Try.prog 27 #[.int .i64 k] W fun e W' => e = .returned (.bool (hl k)) ∧ W = W' := by
  go_enter Try.func27, Try.ntmps27
  go_wp2_with fail
  go_ret
  exact ⟨rfl, rfl⟩
theorem hascount_any (k : Int) (W : World) : Calls Try.prog 34 #[.int .i64 k] W fun e W' => e = .returned (.bool (hco k)) ∧ W = W' := by
  go_enter Try.func34, Try.ntmps34
  go_wp2_with fail
  go_ret
  exact ⟨rfl, rfl⟩
theorem hasstance_any (k : Int) (W : World) : Calls Try.prog 32 #[.int .i64 k] W fun e W' => e = .returned (.bool (hst k)) ∧ W = W' := by
  go_enter Try.func32, Try.ntmps32
  go_wp2_with fail
  go_ret
  exact ⟨rfl, rfl⟩
theorem hasevent_any (k : Int) (W : World) : Calls Try.prog 29 #[.int .i64 k] W fun e W' => e = .returned (.bool (hev k)) ∧ W = W' := by
  unfold hev
  cases h1 : (k == 2) with
  | true =>
    go_enter Try.func29, Try.ntmps29
    go_wp2_with fail
    go_ret
    exact ⟨rfl, rfl⟩
  | false =>
    go_enter Try.func29, Try.ntmps29
    go_wp2_with fail
    go_ret
    exact ⟨rfl, rfl⟩
theorem hasseller_any (k : Int) (W : World) : Calls Try.prog 31 #[.int .i64 k] W fun e W' => e = .returned (.bool (hse k)) ∧ W = W' := by
  have HB := Lib.hid (within_any k 4 9)
  go_enter Try.func31, Try.ntmps31
  go_wp2_with (go_at_call 45; refine (HB.out _).mono ?_; rintro e w1 ⟨rfl, rfl⟩)
  go_ret
  exact ⟨rfl, rfl⟩
/-- The kinds. -/
inductive Kd (k : Int) : Prop
  | lab (h : k = 1) (h1 : hl k = true) (h2 : hev k = false) (h3 : hse k = false) (h4 : hst k = false) (h5 : hco k = false)
  | ev (h : k = 2 ∨ k = 3) (h1 : hl k = false) (h2 : hev k = true) (h3 : hse k = false) (h4 : hst k = false) (h5 : hco k = false)
  | sel (h : k = 4 ∨ k = 6 ∨ k = 7 ∨ k = 8 ∨ k = 9) (h1 : hl k = false) (h2 : hev k = false) (h3 : hse k = true) (h4 : hst k = false) (h5 : hco k = false)
  | en (h : k = 5) (h1 : hl k = false) (h2 : hev k = false) (h3 : hse k = true) (h4 : hst k = false) (h5 : hco k = true)
  | st (h : k = 10) (h1 : hl k = false) (h2 : hev k = false) (h3 : hse k = false) (h4 : hst k = true) (h5 : hco k = false)
  | no (h : k < 1 ∨ 10 < k) (h1 : hl k = false) (h2 : hev k = false) (h3 : hse k = false) (h4 : hst k = false) (h5 : hco k = false)
theorem kd_any (k : Int) : Kd k := by
  by_cases h0 : k < 1 ∨ 10 < k
  · exact .no h0 (by unfold hl; simp; omega) (by unfold hev; simp; omega) (by unfold hse withinB; simp; omega) (by unfold hst; simp; omega) (by unfold hco; simp; omega)
  by_cases h1 : k = 1
  · subst h1; exact .lab rfl (by decide) (by decide) (by decide) (by decide) (by decide)
  by_cases h2 : k = 2
  · subst h2; exact .ev (Or.inl rfl) (by decide) (by decide) (by decide) (by decide) (by decide)
  by_cases h3 : k = 3
  · subst h3; exact .ev (Or.inr rfl) (by decide) (by decide) (by decide) (by decide) (by decide)
  by_cases h5 : k = 5
  · subst h5; exact .en rfl (by decide) (by decide) (by decide) (by decide) (by decide)
  by_cases h10 : k = 10
  · subst h10; exact .st rfl (by decide) (by decide) (by decide) (by decide) (by decide)
  · exact .sel (by omega) (by unfold hl; simp; omega) (by unfold hev; simp; omega) (by unfold hse withinB; simp; omega) (by unfold hst; simp; omega) (by unfold hco; simp; omega)
/-- A message of a kind alone. -/
def zM (k : Int) : Ms := ⟨k, 0, 0, 0, 0, Lab.zero, Ev.zero, St.zero⟩
def zEvL : List Value := [.int .u64 0, .int .i64 0, .int .u32 0, .int .i64 0, .int .i64 0, .int .u32 0, .int .u32 0, .int .u32 0, .int .u32 0, .int .u32 0, .int .u32 0, .int .u32 0, .int .u32 0, .int .u32 0, .int .u32 0, .int .u32 0, .int .u32 0, .int .i64 0, .int .i64 0, .int .i64 0, .float .f64 0]
theorem ev_zeroL : Ev.zero.cells = zEvL := congrArg Array.toList ev_zeroA
theorem zM_cells (k : Int) : (zM k).cells.toArray = #[.int .i64 k, .int .i64 0, .int .i64 0, .int .i64 0, .int .i64 0, .int .u64 0, .int .i64 0, .int .u32 0, .int .i64 0, .int .i64 0, .int .u32 0, .int .u32 0, .int .u32 0, .int .u32 0, .int .u32 0, .int .u32 0, .int .u32 0, .int .u32 0, .int .u32 0, .int .u32 0, .int .u32 0, .int .u32 0, .int .u64 0, .int .i64 0, .int .u32 0, .int .i64 0, .int .i64 0, .int .u32 0, .int .u32 0, .int .u32 0, .int .u32 0, .int .u32 0, .int .u32 0, .int .u32 0, .int .u32 0, .int .u32 0, .int .u32 0, .int .u32 0, .int .u32 0, .int .i64 0, .int .i64 0, .int .i64 0, .float .f64 0, .bool false, .int .u64 0, .int .u32 0, .int .u32 0, .int .u32 0, .int .u32 0, .int .u32 0, .int .u32 0, .int .u32 0, .int .u32 0, .int .u32 0, .int .u32 0, .int .u32 0, .int .u32 0] := by
  rw [ms_def]
  show (([.int .i64 k, .int .i64 0, .int .i64 0, .int .i64 0, .int .i64 0] : List Value) ++ Lab.zero.cells ++ Ev.zero.cells ++ St.zero.cells).toArray = _
  rw [lab_zeroL, ev_zeroL, st_zeroL]
  rfl
theorem built_zM (k : Int) : Try.prog.built 50 [(0, .int .i64 k)] = some (zM k).cells.toArray := by rw [zM_cells]; kernel_rfl
theorem ms_setL {w : World} {g : Nat} {t : TypeId} {m : Ms} (h : Blk w g t m.cells.toArray) (l : Lab) : Blk (w.setCells g 5 l.cells) g t ({ m with l := l } : Ms).cells.toArray := by
  rw [ms_def] at h ⊢
  rw [List.append_assoc] at h ⊢
  exact Blk.setMid l.cells m.hd m.l.cells _ w h (by rw [lab_len, lab_len])
theorem ms_setX {w : World} {g : Nat} {t : TypeId} {m : Ms} (h : Blk w g t m.cells.toArray) (x : Ev) : Blk (w.setCells g 22 x.cells) g t ({ m with x := x } : Ms).cells.toArray := by
  rw [ms_def] at h ⊢
  have := Blk.setMid x.cells (m.hd ++ m.l.cells) m.x.cells _ w h (by rw [ev_len, ev_len])
  rwa [show (m.hd ++ m.l.cells).length = 22 from by rw [List.length_append, hd_len, lab_len]] at this
theorem ms_setS {w : World} {g : Nat} {t : TypeId} {m : Ms} (h : Blk w g t m.cells.toArray) (s : St) : Blk (w.setCells g 43 s.cells) g t ({ m with s := s } : Ms).cells.toArray := by
  rw [ms_def] at h ⊢
  have := Blk.setMid (q := []) s.cells (m.hd ++ m.l.cells ++ m.x.cells) m.s.cells w (by rw [List.append_nil]; exact h) (by rw [st_len, st_len])
  rw [show (m.hd ++ m.l.cells ++ m.x.cells).length = 43 from by simp only [List.length_append, hd_len, lab_len, ev_len], List.append_nil] at this
  exact this
theorem ms_setH {w : World} {g : Nat} {t : TypeId} {m n : Ms} {i : Nat} {v : Value} (h : Blk w g t m.cells.toArray) (hi : i < 5) (hn : n.hd = m.hd.set i v) (hl : n.l = m.l) (hx : n.x = m.x) (hs : n.s = m.s) : Blk (w.setCell ⟨g, i, none⟩ v) g t n.cells.toArray := by
  have h1 := h.setCell i v
  rw [ms_def] at h1 ⊢
  rw [hn, hl, hx, hs]
  have e : (m.hd ++ m.l.cells ++ m.x.cells ++ m.s.cells).toArray.setIfInBounds i v = (m.hd.set i v ++ m.l.cells ++ m.x.cells ++ m.s.cells).toArray := by
    rw [List.setIfInBounds_toArray, List.append_assoc, List.append_assoc, List.set_append_left _ _ (by rw [hd_len]; exact hi)]
    simp only [List.append_assoc]
  rw [e] at h1
  exact h1
/-- A message with those parts alone that its kind has. -/
def partsM (m : Ms) : Ms := ⟨m.k, if hse m.k then m.se else 0, if hco m.k then m.co else 0, if hst m.k then m.ca else 0, if hst m.k then m.ro else 0, if hl m.k then m.l else Lab.zero, if hev m.k then m.x else Ev.zero, if hst m.k then m.s else St.zero⟩
set_option maxRecDepth 20000 in
set_option maxHeartbeats 4000000 in
theorem parts_no (m : Ms) (W : World) (h1 : hl m.k = false) (h2 : hev m.k = false) (h3 : hse m.k = false) (h4 : hst m.k = false) (h5 : hco m.k = false) : Calls Try.prog 42 #[.agg m.cells.toArray] W fun e W' => e = .returned (.agg (partsM m).cells.toArray) ∧ Below W.heap.size W W' := by
  have bz := zM_cells 0
  have bA := (Blk.new W 50 m.cells.toArray).alloc (.cells (zM 0).cells.toArray 50)
  have bR : Blk ((W.alloc (.cells m.cells.toArray 50)).alloc (.cells (zM 0).cells.toArray 50)) (W.heap.size + 1) 50 (zM 0).cells.toArray := Blk.new' (by simp)
  have hB0 := ((Below.refl W.heap.size W).alloc (Nat.le_refl _) (.cells m.cells.toArray 50)).alloc (by simp) (.cells (zM 0).cells.toArray 50)
  obtain ⟨w1, hw1⟩ : ∃ w1, w1 = (W.alloc (.cells m.cells.toArray 50)).alloc (.cells (zM 0).cells.toArray 50) := ⟨_, rfl⟩
  have hs1 : w1.heap.size = W.heap.size + 2 := by rw [hw1]; simp
  rw [← hw1] at bA bR hB0
  rw [bz] at hw1
  have HW1 := Lib.hid hw1
  have HA := Lib.hid bA
  have HR := Lib.hid bR
  have HB := Lib.hid hB0
  have HS1 := Lib.hid hs1
  obtain ⟨_, rl, rx, rs, c0, c1, c2, c3, c4⟩ := ms_all bA
  have HP := Lib.hid (show partsM m = zM m.k by unfold partsM zM; rw [h1, h2, h3, h4, h5]; rfl)
  clear bz bA bR hB0 hw1 hs1
  go_enter Try.func42, Try.ntmps42
  go_upto_region 1 with fail
  rw [← HW1.out]
  clear HW1
  go_upto_region 2 with (first | (refine wpList_build_lit (zM m.k).cells.toArray rfl 50 _ rfl (built_zM m.k) ?_) | (refine wpList_store_blk rfl 50 _ _ rfl w1.heap.size 50 (zM 0).cells.toArray (zM m.k).cells.toArray rfl rfl (by rw [zM_cells]; exact Blk.new' rfl) (msinfoA _) (by rw [List.size_toArray, List.size_toArray, ms_len, ms_len]) (ms_one _) ?_; intro hy))
  have hbn := below_setRow ((Below.refl w1.heap.size w1).alloc (Nat.le_refl _) (.cells (zM 0).cells.toArray 50)) (Nat.le_refl _) (zM m.k).cells.toArray
  rw [zM_cells 0] at hbn
  obtain ⟨w2, hw2⟩ : ∃ w2, w2 = (w1.alloc (.cells #[.int .i64 0, .int .i64 0, .int .i64 0, .int .i64 0, .int .i64 0, .int .u64 0, .int .i64 0, .int .u32 0, .int .i64 0, .int .i64 0, .int .u32 0, .int .u32 0, .int .u32 0, .int .u32 0, .int .u32 0, .int .u32 0, .int .u32 0, .int .u32 0, .int .u32 0, .int .u32 0, .int .u32 0, .int .u32 0, .int .u64 0, .int .i64 0, .int .u32 0, .int .i64 0, .int .i64 0, .int .u32 0, .int .u32 0, .int .u32 0, .int .u32 0, .int .u32 0, .int .u32 0, .int .u32 0, .int .u32 0, .int .u32 0, .int .u32 0, .int .u32 0, .int .u32 0, .int .i64 0, .int .i64 0, .int .i64 0, .float .f64 0, .bool false, .int .u64 0, .int .u32 0, .int .u32 0, .int .u32 0, .int .u32 0, .int .u32 0, .int .u32 0, .int .u32 0, .int .u32 0, .int .u32 0, .int .u32 0, .int .u32 0, .int .u32 0] 50)).setRow w1.heap.size (zM m.k).cells.toArray := ⟨_, rfl⟩
  rw [← hw2] at hbn hy ⊢
  obtain ⟨p, hp⟩ : ∃ p, p = w1.heap.size := ⟨_, rfl⟩
  rw [← hp] at hy ⊢
  have hpS : p = W.heap.size + 2 := hp.trans HS1.out
  have HA2 := Lib.hid (HA.out.next hbn)
  have HR2 := Lib.hid (HR.out.next hbn)
  have HB2 := Lib.hid (HB.out.trans (hbn.mono HB.out.size))
  have HY := Lib.hid hy
  have HPS := Lib.hid hpS
  obtain ⟨_, rl, rx, rs, c0, c1, c2, c3, c4⟩ := ms_all HA2.out
  clear hw2 hp hbn hy HA HR HB HS1 hpS
  clear rl rx rs c1 c2 c3 c4
  clear c0
  have hbp : Below p w2 w2 := Below.refl _ _
  have HZ := Lib.hid (show Blk w2 p 50 (partsM m).cells.toArray by rw [HP.out]; exact HY.out)
  have hpS := HPS.out
  have HRF := Lib.hid (show Blk w2 (W.heap.size + 1) 50 (zM 0).cells.toArray from (hbp.block (W.heap.size + 1) (by omega)).trans HR2.out)
  have HBF := Lib.hid (HB2.out.trans (hbp.mono (show W.heap.size ≤ p by omega)))
  have c0 := (hbp.cell (p := ⟨W.heap.size, 0, none⟩) (show W.heap.size < p by omega)).trans (ms_all HA2.out).2.2.2.2.1
  have rz := HZ.out.range
  clear hbp hpS HA2 HR2 HB2 HY HPS
  go_wp2_with (first | (go_at_call 27; refine (haslabel_any _ _).mono ?_; rintro e wh ⟨rfl, rfl⟩; rw [h1]) | (go_at_call 29; refine (hasevent_any _ _).mono ?_; rintro e wh ⟨rfl, rfl⟩; rw [h2]) | (go_at_call 31; refine (hasseller_any _ _).mono ?_; rintro e wh ⟨rfl, rfl⟩; rw [h3]) | (go_at_call 32; refine (hasstance_any _ _).mono ?_; rintro e wh ⟨rfl, rfl⟩; rw [h4]) | (go_at_call 34; refine (hascount_any _ _).mono ?_; rintro e wh ⟨rfl, rfl⟩; rw [h5]) | (refine wpList_load_midg (by rfl) 50 _ rfl _ _ rfl (Ms.cells ?_) _ ?_ Try.underlying50 rfl (msinfo _) ?_; rotate_left; (focus assumption)) | (refine wpList_store_blk rfl 50 _ _ rfl (W.heap.size + 1) 50 (zM 0).cells.toArray (partsM m).cells.toArray rfl rfl HRF.out (msinfoA _) (by rw [List.size_toArray, List.size_toArray, ms_len, ms_len]) (ms_one _) ?_; intro hrow))
  exact bodyPost_row (t := 50) (partsM m).cells.toArray rfl rfl rfl Try.underlying50 rfl (msinfoA _) hrow ⟨rfl, below_setRow HBF.out (by omega) _⟩
set_option maxRecDepth 20000 in
set_option maxHeartbeats 4000000 in
theorem parts_lab (m : Ms) (W : World) (h1 : hl m.k = true) (h2 : hev m.k = false) (h3 : hse m.k = false) (h4 : hst m.k = false) (h5 : hco m.k = false) : Calls Try.prog 42 #[.agg m.cells.toArray] W fun e W' => e = .returned (.agg (partsM m).cells.toArray) ∧ Below W.heap.size W W' := by
  have bz := zM_cells 0
  have bA := (Blk.new W 50 m.cells.toArray).alloc (.cells (zM 0).cells.toArray 50)
  have bR : Blk ((W.alloc (.cells m.cells.toArray 50)).alloc (.cells (zM 0).cells.toArray 50)) (W.heap.size + 1) 50 (zM 0).cells.toArray := Blk.new' (by simp)
  have hB0 := ((Below.refl W.heap.size W).alloc (Nat.le_refl _) (.cells m.cells.toArray 50)).alloc (by simp) (.cells (zM 0).cells.toArray 50)
  obtain ⟨w1, hw1⟩ : ∃ w1, w1 = (W.alloc (.cells m.cells.toArray 50)).alloc (.cells (zM 0).cells.toArray 50) := ⟨_, rfl⟩
  have hs1 : w1.heap.size = W.heap.size + 2 := by rw [hw1]; simp
  rw [← hw1] at bA bR hB0
  rw [bz] at hw1
  have HW1 := Lib.hid hw1
  have HA := Lib.hid bA
  have HR := Lib.hid bR
  have HB := Lib.hid hB0
  have HS1 := Lib.hid hs1
  obtain ⟨_, rl, rx, rs, c0, c1, c2, c3, c4⟩ := ms_all bA
  have HP := Lib.hid (show partsM m = { zM m.k with l := m.l } by unfold partsM zM; rw [h1, h2, h3, h4, h5]; rfl)
  clear bz bA bR hB0 hw1 hs1
  go_enter Try.func42, Try.ntmps42
  go_upto_region 1 with fail
  rw [← HW1.out]
  clear HW1
  go_upto_region 2 with (first | (refine wpList_build_lit (zM m.k).cells.toArray rfl 50 _ rfl (built_zM m.k) ?_) | (refine wpList_store_blk rfl 50 _ _ rfl w1.heap.size 50 (zM 0).cells.toArray (zM m.k).cells.toArray rfl rfl (by rw [zM_cells]; exact Blk.new' rfl) (msinfoA _) (by rw [List.size_toArray, List.size_toArray, ms_len, ms_len]) (ms_one _) ?_; intro hy))
  have hbn := below_setRow ((Below.refl w1.heap.size w1).alloc (Nat.le_refl _) (.cells (zM 0).cells.toArray 50)) (Nat.le_refl _) (zM m.k).cells.toArray
  rw [zM_cells 0] at hbn
  obtain ⟨w2, hw2⟩ : ∃ w2, w2 = (w1.alloc (.cells #[.int .i64 0, .int .i64 0, .int .i64 0, .int .i64 0, .int .i64 0, .int .u64 0, .int .i64 0, .int .u32 0, .int .i64 0, .int .i64 0, .int .u32 0, .int .u32 0, .int .u32 0, .int .u32 0, .int .u32 0, .int .u32 0, .int .u32 0, .int .u32 0, .int .u32 0, .int .u32 0, .int .u32 0, .int .u32 0, .int .u64 0, .int .i64 0, .int .u32 0, .int .i64 0, .int .i64 0, .int .u32 0, .int .u32 0, .int .u32 0, .int .u32 0, .int .u32 0, .int .u32 0, .int .u32 0, .int .u32 0, .int .u32 0, .int .u32 0, .int .u32 0, .int .u32 0, .int .i64 0, .int .i64 0, .int .i64 0, .float .f64 0, .bool false, .int .u64 0, .int .u32 0, .int .u32 0, .int .u32 0, .int .u32 0, .int .u32 0, .int .u32 0, .int .u32 0, .int .u32 0, .int .u32 0, .int .u32 0, .int .u32 0, .int .u32 0] 50)).setRow w1.heap.size (zM m.k).cells.toArray := ⟨_, rfl⟩
  rw [← hw2] at hbn hy ⊢
  obtain ⟨p, hp⟩ : ∃ p, p = w1.heap.size := ⟨_, rfl⟩
  rw [← hp] at hy ⊢
  have hpS : p = W.heap.size + 2 := hp.trans HS1.out
  have HA2 := Lib.hid (HA.out.next hbn)
  have HR2 := Lib.hid (HR.out.next hbn)
  have HB2 := Lib.hid (HB.out.trans (hbn.mono HB.out.size))
  have HY := Lib.hid hy
  have HPS := Lib.hid hpS
  obtain ⟨_, rl, rx, rs, c0, c1, c2, c3, c4⟩ := ms_all HA2.out
  clear hw2 hp hbn hy HA HR HB HS1 hpS
  clear rx rs c1 c2 c3 c4
  have hth := HY.out.thereT (o := 5) (n := m.l.cells.toArray.size) (by rw [List.size_toArray, List.size_toArray, ms_len, lab_len]; omega)
  go_upto_region 10 with (first | (go_at_call 27; refine (haslabel_any _ _).mono ?_; rintro e wh ⟨rfl, rfl⟩; rw [h1]) | (go_at_call 29; refine (hasevent_any _ _).mono ?_; rintro e wh ⟨rfl, rfl⟩; rw [h2]) | (go_at_call 31; refine (hasseller_any _ _).mono ?_; rintro e wh ⟨rfl, rfl⟩; rw [h3]) | (go_at_call 32; refine (hasstance_any _ _).mono ?_; rintro e wh ⟨rfl, rfl⟩; rw [h4]) | (go_at_call 34; refine (hascount_any _ _).mono ?_; rintro e wh ⟨rfl, rfl⟩; rw [h5]) | (refine wpList_load_midg (by rfl) 27 _ rfl _ _ rfl (Lab.cells ?_) _ ?_ Try.underlying27 rfl (linfo _) ?_; rotate_left; (focus assumption)) | (refine wpList_store_mid rfl 27 _ _ rfl p 5 m.l.cells.toArray rfl rfl hth (linfoA _) (lab_one _) ?_; show wpList _ _ _ _ _ (w2.setCells p 5 m.l.cells)))
  clear hth
  obtain ⟨w3, hw3⟩ : ∃ w3, w3 = w2.setCells p 5 m.l.cells := ⟨_, rfl⟩
  have hb3 : Below p w2 w3 := by rw [hw3]; exact setCells_below (Nat.le_refl _) _ _ _ (Below.refl _ _)
  have hy3 := ms_setL HY.out m.l
  rw [← hw3] at hy3 ⊢
  clear hw3
  clear c0 rl
  have hbp : Below p w2 w3 := hb3
  have HZ := Lib.hid (show Blk w3 p 50 (partsM m).cells.toArray by rw [HP.out]; exact hy3)
  have hpS := HPS.out
  have HRF := Lib.hid (show Blk w3 (W.heap.size + 1) 50 (zM 0).cells.toArray from (hbp.block (W.heap.size + 1) (by omega)).trans HR2.out)
  have HBF := Lib.hid (HB2.out.trans (hbp.mono (show W.heap.size ≤ p by omega)))
  have c0 := (hbp.cell (p := ⟨W.heap.size, 0, none⟩) (show W.heap.size < p by omega)).trans (ms_all HA2.out).2.2.2.2.1
  have rz := HZ.out.range
  clear hbp hpS HA2 HR2 HB2 HY HPS
  go_wp2_with (first | (go_at_call 27; refine (haslabel_any _ _).mono ?_; rintro e wh ⟨rfl, rfl⟩; rw [h1]) | (go_at_call 29; refine (hasevent_any _ _).mono ?_; rintro e wh ⟨rfl, rfl⟩; rw [h2]) | (go_at_call 31; refine (hasseller_any _ _).mono ?_; rintro e wh ⟨rfl, rfl⟩; rw [h3]) | (go_at_call 32; refine (hasstance_any _ _).mono ?_; rintro e wh ⟨rfl, rfl⟩; rw [h4]) | (go_at_call 34; refine (hascount_any _ _).mono ?_; rintro e wh ⟨rfl, rfl⟩; rw [h5]) | (refine wpList_load_midg (by rfl) 50 _ rfl _ _ rfl (Ms.cells ?_) _ ?_ Try.underlying50 rfl (msinfo _) ?_; rotate_left; (focus assumption)) | (refine wpList_store_blk rfl 50 _ _ rfl (W.heap.size + 1) 50 (zM 0).cells.toArray (partsM m).cells.toArray rfl rfl HRF.out (msinfoA _) (by rw [List.size_toArray, List.size_toArray, ms_len, ms_len]) (ms_one _) ?_; intro hrow))
  exact bodyPost_row (t := 50) (partsM m).cells.toArray rfl rfl rfl Try.underlying50 rfl (msinfoA _) hrow ⟨rfl, below_setRow HBF.out (by omega) _⟩
set_option maxRecDepth 20000 in
set_option maxHeartbeats 4000000 in
theorem parts_ev (m : Ms) (W : World) (h1 : hl m.k = false) (h2 : hev m.k = true) (h3 : hse m.k = false) (h4 : hst m.k = false) (h5 : hco m.k = false) : Calls Try.prog 42 #[.agg m.cells.toArray] W fun e W' => e = .returned (.agg (partsM m).cells.toArray) ∧ Below W.heap.size W W' := by
  have bz := zM_cells 0
  have bA := (Blk.new W 50 m.cells.toArray).alloc (.cells (zM 0).cells.toArray 50)
  have bR : Blk ((W.alloc (.cells m.cells.toArray 50)).alloc (.cells (zM 0).cells.toArray 50)) (W.heap.size + 1) 50 (zM 0).cells.toArray := Blk.new' (by simp)
  have hB0 := ((Below.refl W.heap.size W).alloc (Nat.le_refl _) (.cells m.cells.toArray 50)).alloc (by simp) (.cells (zM 0).cells.toArray 50)
  obtain ⟨w1, hw1⟩ : ∃ w1, w1 = (W.alloc (.cells m.cells.toArray 50)).alloc (.cells (zM 0).cells.toArray 50) := ⟨_, rfl⟩
  have hs1 : w1.heap.size = W.heap.size + 2 := by rw [hw1]; simp
  rw [← hw1] at bA bR hB0
  rw [bz] at hw1
  have HW1 := Lib.hid hw1
  have HA := Lib.hid bA
  have HR := Lib.hid bR
  have HB := Lib.hid hB0
  have HS1 := Lib.hid hs1
  obtain ⟨_, rl, rx, rs, c0, c1, c2, c3, c4⟩ := ms_all bA
  have HP := Lib.hid (show partsM m = { zM m.k with x := m.x } by unfold partsM zM; rw [h1, h2, h3, h4, h5]; rfl)
  clear bz bA bR hB0 hw1 hs1
  go_enter Try.func42, Try.ntmps42
  go_upto_region 1 with fail
  rw [← HW1.out]
  clear HW1
  go_upto_region 2 with (first | (refine wpList_build_lit (zM m.k).cells.toArray rfl 50 _ rfl (built_zM m.k) ?_) | (refine wpList_store_blk rfl 50 _ _ rfl w1.heap.size 50 (zM 0).cells.toArray (zM m.k).cells.toArray rfl rfl (by rw [zM_cells]; exact Blk.new' rfl) (msinfoA _) (by rw [List.size_toArray, List.size_toArray, ms_len, ms_len]) (ms_one _) ?_; intro hy))
  have hbn := below_setRow ((Below.refl w1.heap.size w1).alloc (Nat.le_refl _) (.cells (zM 0).cells.toArray 50)) (Nat.le_refl _) (zM m.k).cells.toArray
  rw [zM_cells 0] at hbn
  obtain ⟨w2, hw2⟩ : ∃ w2, w2 = (w1.alloc (.cells #[.int .i64 0, .int .i64 0, .int .i64 0, .int .i64 0, .int .i64 0, .int .u64 0, .int .i64 0, .int .u32 0, .int .i64 0, .int .i64 0, .int .u32 0, .int .u32 0, .int .u32 0, .int .u32 0, .int .u32 0, .int .u32 0, .int .u32 0, .int .u32 0, .int .u32 0, .int .u32 0, .int .u32 0, .int .u32 0, .int .u64 0, .int .i64 0, .int .u32 0, .int .i64 0, .int .i64 0, .int .u32 0, .int .u32 0, .int .u32 0, .int .u32 0, .int .u32 0, .int .u32 0, .int .u32 0, .int .u32 0, .int .u32 0, .int .u32 0, .int .u32 0, .int .u32 0, .int .i64 0, .int .i64 0, .int .i64 0, .float .f64 0, .bool false, .int .u64 0, .int .u32 0, .int .u32 0, .int .u32 0, .int .u32 0, .int .u32 0, .int .u32 0, .int .u32 0, .int .u32 0, .int .u32 0, .int .u32 0, .int .u32 0, .int .u32 0] 50)).setRow w1.heap.size (zM m.k).cells.toArray := ⟨_, rfl⟩
  rw [← hw2] at hbn hy ⊢
  obtain ⟨p, hp⟩ : ∃ p, p = w1.heap.size := ⟨_, rfl⟩
  rw [← hp] at hy ⊢
  have hpS : p = W.heap.size + 2 := hp.trans HS1.out
  have HA2 := Lib.hid (HA.out.next hbn)
  have HR2 := Lib.hid (HR.out.next hbn)
  have HB2 := Lib.hid (HB.out.trans (hbn.mono HB.out.size))
  have HY := Lib.hid hy
  have HPS := Lib.hid hpS
  obtain ⟨_, rl, rx, rs, c0, c1, c2, c3, c4⟩ := ms_all HA2.out
  clear hw2 hp hbn hy HA HR HB HS1 hpS
  clear rl rs c1 c2 c3 c4
  have hth := HY.out.thereT (o := 22) (n := m.x.cells.toArray.size) (by rw [List.size_toArray, List.size_toArray, ms_len, ev_len]; omega)
  go_upto_region 10 with (first | (go_at_call 27; refine (haslabel_any _ _).mono ?_; rintro e wh ⟨rfl, rfl⟩; rw [h1]) | (go_at_call 29; refine (hasevent_any _ _).mono ?_; rintro e wh ⟨rfl, rfl⟩; rw [h2]) | (go_at_call 31; refine (hasseller_any _ _).mono ?_; rintro e wh ⟨rfl, rfl⟩; rw [h3]) | (go_at_call 32; refine (hasstance_any _ _).mono ?_; rintro e wh ⟨rfl, rfl⟩; rw [h4]) | (go_at_call 34; refine (hascount_any _ _).mono ?_; rintro e wh ⟨rfl, rfl⟩; rw [h5]) | (refine wpList_load_midg (by rfl) 48 _ rfl _ _ rfl (Ev.cells ?_) _ ?_ Try.underlying48 rfl (einfo _) ?_; rotate_left; (focus assumption)) | (refine wpList_store_mid rfl 48 _ _ rfl p 22 m.x.cells.toArray rfl rfl hth (einfoA _) (ev_one _) ?_; show wpList _ _ _ _ _ (w2.setCells p 22 m.x.cells)))
  clear hth
  obtain ⟨w3, hw3⟩ : ∃ w3, w3 = w2.setCells p 22 m.x.cells := ⟨_, rfl⟩
  have hb3 : Below p w2 w3 := by rw [hw3]; exact setCells_below (Nat.le_refl _) _ _ _ (Below.refl _ _)
  have hy3 := ms_setX HY.out m.x
  rw [← hw3] at hy3 ⊢
  clear hw3
  clear c0 rx
  have hbp : Below p w2 w3 := hb3
  have HZ := Lib.hid (show Blk w3 p 50 (partsM m).cells.toArray by rw [HP.out]; exact hy3)
  have hpS := HPS.out
  have HRF := Lib.hid (show Blk w3 (W.heap.size + 1) 50 (zM 0).cells.toArray from (hbp.block (W.heap.size + 1) (by omega)).trans HR2.out)
  have HBF := Lib.hid (HB2.out.trans (hbp.mono (show W.heap.size ≤ p by omega)))
  have c0 := (hbp.cell (p := ⟨W.heap.size, 0, none⟩) (show W.heap.size < p by omega)).trans (ms_all HA2.out).2.2.2.2.1
  have rz := HZ.out.range
  clear hbp hpS HA2 HR2 HB2 HY HPS
  go_wp2_with (first | (go_at_call 27; refine (haslabel_any _ _).mono ?_; rintro e wh ⟨rfl, rfl⟩; rw [h1]) | (go_at_call 29; refine (hasevent_any _ _).mono ?_; rintro e wh ⟨rfl, rfl⟩; rw [h2]) | (go_at_call 31; refine (hasseller_any _ _).mono ?_; rintro e wh ⟨rfl, rfl⟩; rw [h3]) | (go_at_call 32; refine (hasstance_any _ _).mono ?_; rintro e wh ⟨rfl, rfl⟩; rw [h4]) | (go_at_call 34; refine (hascount_any _ _).mono ?_; rintro e wh ⟨rfl, rfl⟩; rw [h5]) | (refine wpList_load_midg (by rfl) 50 _ rfl _ _ rfl (Ms.cells ?_) _ ?_ Try.underlying50 rfl (msinfo _) ?_; rotate_left; (focus assumption)) | (refine wpList_store_blk rfl 50 _ _ rfl (W.heap.size + 1) 50 (zM 0).cells.toArray (partsM m).cells.toArray rfl rfl HRF.out (msinfoA _) (by rw [List.size_toArray, List.size_toArray, ms_len, ms_len]) (ms_one _) ?_; intro hrow))
  exact bodyPost_row (t := 50) (partsM m).cells.toArray rfl rfl rfl Try.underlying50 rfl (msinfoA _) hrow ⟨rfl, below_setRow HBF.out (by omega) _⟩
set_option maxRecDepth 20000 in
set_option maxHeartbeats 4000000 in
theorem parts_sel (m : Ms) (W : World) (h1 : hl m.k = false) (h2 : hev m.k = false) (h3 : hse m.k = true) (h4 : hst m.k = false) (h5 : hco m.k = false) : Calls Try.prog 42 #[.agg m.cells.toArray] W fun e W' => e = .returned (.agg (partsM m).cells.toArray) ∧ Below W.heap.size W W' := by
  have bz := zM_cells 0
  have bA := (Blk.new W 50 m.cells.toArray).alloc (.cells (zM 0).cells.toArray 50)
  have bR : Blk ((W.alloc (.cells m.cells.toArray 50)).alloc (.cells (zM 0).cells.toArray 50)) (W.heap.size + 1) 50 (zM 0).cells.toArray := Blk.new' (by simp)
  have hB0 := ((Below.refl W.heap.size W).alloc (Nat.le_refl _) (.cells m.cells.toArray 50)).alloc (by simp) (.cells (zM 0).cells.toArray 50)
  obtain ⟨w1, hw1⟩ : ∃ w1, w1 = (W.alloc (.cells m.cells.toArray 50)).alloc (.cells (zM 0).cells.toArray 50) := ⟨_, rfl⟩
  have hs1 : w1.heap.size = W.heap.size + 2 := by rw [hw1]; simp
  rw [← hw1] at bA bR hB0
  rw [bz] at hw1
  have HW1 := Lib.hid hw1
  have HA := Lib.hid bA
  have HR := Lib.hid bR
  have HB := Lib.hid hB0
  have HS1 := Lib.hid hs1
  obtain ⟨_, rl, rx, rs, c0, c1, c2, c3, c4⟩ := ms_all bA
  have HP := Lib.hid (show partsM m = { zM m.k with se := m.se } by unfold partsM zM; rw [h1, h2, h3, h4, h5]; rfl)
  clear bz bA bR hB0 hw1 hs1
  go_enter Try.func42, Try.ntmps42
  go_upto_region 1 with fail
  rw [← HW1.out]
  clear HW1
  go_upto_region 2 with (first | (refine wpList_build_lit (zM m.k).cells.toArray rfl 50 _ rfl (built_zM m.k) ?_) | (refine wpList_store_blk rfl 50 _ _ rfl w1.heap.size 50 (zM 0).cells.toArray (zM m.k).cells.toArray rfl rfl (by rw [zM_cells]; exact Blk.new' rfl) (msinfoA _) (by rw [List.size_toArray, List.size_toArray, ms_len, ms_len]) (ms_one _) ?_; intro hy))
  have hbn := below_setRow ((Below.refl w1.heap.size w1).alloc (Nat.le_refl _) (.cells (zM 0).cells.toArray 50)) (Nat.le_refl _) (zM m.k).cells.toArray
  rw [zM_cells 0] at hbn
  obtain ⟨w2, hw2⟩ : ∃ w2, w2 = (w1.alloc (.cells #[.int .i64 0, .int .i64 0, .int .i64 0, .int .i64 0, .int .i64 0, .int .u64 0, .int .i64 0, .int .u32 0, .int .i64 0, .int .i64 0, .int .u32 0, .int .u32 0, .int .u32 0, .int .u32 0, .int .u32 0, .int .u32 0, .int .u32 0, .int .u32 0, .int .u32 0, .int .u32 0, .int .u32 0, .int .u32 0, .int .u64 0, .int .i64 0, .int .u32 0, .int .i64 0, .int .i64 0, .int .u32 0, .int .u32 0, .int .u32 0, .int .u32 0, .int .u32 0, .int .u32 0, .int .u32 0, .int .u32 0, .int .u32 0, .int .u32 0, .int .u32 0, .int .u32 0, .int .i64 0, .int .i64 0, .int .i64 0, .float .f64 0, .bool false, .int .u64 0, .int .u32 0, .int .u32 0, .int .u32 0, .int .u32 0, .int .u32 0, .int .u32 0, .int .u32 0, .int .u32 0, .int .u32 0, .int .u32 0, .int .u32 0, .int .u32 0] 50)).setRow w1.heap.size (zM m.k).cells.toArray := ⟨_, rfl⟩
  rw [← hw2] at hbn hy ⊢
  obtain ⟨p, hp⟩ : ∃ p, p = w1.heap.size := ⟨_, rfl⟩
  rw [← hp] at hy ⊢
  have hpS : p = W.heap.size + 2 := hp.trans HS1.out
  have HA2 := Lib.hid (HA.out.next hbn)
  have HR2 := Lib.hid (HR.out.next hbn)
  have HB2 := Lib.hid (HB.out.trans (hbn.mono HB.out.size))
  have HY := Lib.hid hy
  have HPS := Lib.hid hpS
  obtain ⟨_, rl, rx, rs, c0, c1, c2, c3, c4⟩ := ms_all HA2.out
  clear hw2 hp hbn hy HA HR HB HS1 hpS
  clear rl rx rs c2 c3 c4
  have hk1 := (ms_all HY.out).2.2.2.2.2.1
  have hf1 := (HY.out).frozen 1
  go_upto_region 10 with (first | (go_at_call 27; refine (haslabel_any _ _).mono ?_; rintro e wh ⟨rfl, rfl⟩; rw [h1]) | (go_at_call 29; refine (hasevent_any _ _).mono ?_; rintro e wh ⟨rfl, rfl⟩; rw [h2]) | (go_at_call 31; refine (hasseller_any _ _).mono ?_; rintro e wh ⟨rfl, rfl⟩; rw [h3]) | (go_at_call 32; refine (hasstance_any _ _).mono ?_; rintro e wh ⟨rfl, rfl⟩; rw [h4]) | (go_at_call 34; refine (hascount_any _ _).mono ?_; rintro e wh ⟨rfl, rfl⟩; rw [h5]))
  clear hk1 hf1
  obtain ⟨w3, hww3⟩ : ∃ w3, w3 = w2.setCell ⟨p, 1, none⟩ (.int .i64 m.se) := ⟨_, rfl⟩
  have hbw3 : Below p w2 w3 := by rw [hww3]; exact Below.setCell (p := ⟨p, 1, none⟩) (Below.refl _ _) (Nat.le_refl _) _
  have hyw3 : Blk w3 p 50 ({ zM m.k with se := m.se } : Ms).cells.toArray := by rw [hww3]; exact ms_setH (HY.out) (by omega) rfl rfl rfl rfl
  rw [← hww3]
  clear hww3
  clear c0 c1
  have hbp : Below p w2 w3 := hbw3
  have HZ := Lib.hid (show Blk w3 p 50 (partsM m).cells.toArray by rw [HP.out]; exact hyw3)
  have hpS := HPS.out
  have HRF := Lib.hid (show Blk w3 (W.heap.size + 1) 50 (zM 0).cells.toArray from (hbp.block (W.heap.size + 1) (by omega)).trans HR2.out)
  have HBF := Lib.hid (HB2.out.trans (hbp.mono (show W.heap.size ≤ p by omega)))
  have c0 := (hbp.cell (p := ⟨W.heap.size, 0, none⟩) (show W.heap.size < p by omega)).trans (ms_all HA2.out).2.2.2.2.1
  have rz := HZ.out.range
  clear hbp hpS HA2 HR2 HB2 HY HPS
  go_wp2_with (first | (go_at_call 27; refine (haslabel_any _ _).mono ?_; rintro e wh ⟨rfl, rfl⟩; rw [h1]) | (go_at_call 29; refine (hasevent_any _ _).mono ?_; rintro e wh ⟨rfl, rfl⟩; rw [h2]) | (go_at_call 31; refine (hasseller_any _ _).mono ?_; rintro e wh ⟨rfl, rfl⟩; rw [h3]) | (go_at_call 32; refine (hasstance_any _ _).mono ?_; rintro e wh ⟨rfl, rfl⟩; rw [h4]) | (go_at_call 34; refine (hascount_any _ _).mono ?_; rintro e wh ⟨rfl, rfl⟩; rw [h5]) | (refine wpList_load_midg (by rfl) 50 _ rfl _ _ rfl (Ms.cells ?_) _ ?_ Try.underlying50 rfl (msinfo _) ?_; rotate_left; (focus assumption)) | (refine wpList_store_blk rfl 50 _ _ rfl (W.heap.size + 1) 50 (zM 0).cells.toArray (partsM m).cells.toArray rfl rfl HRF.out (msinfoA _) (by rw [List.size_toArray, List.size_toArray, ms_len, ms_len]) (ms_one _) ?_; intro hrow))
  exact bodyPost_row (t := 50) (partsM m).cells.toArray rfl rfl rfl Try.underlying50 rfl (msinfoA _) hrow ⟨rfl, below_setRow HBF.out (by omega) _⟩
set_option maxRecDepth 20000 in
set_option maxHeartbeats 4000000 in
theorem parts_en (m : Ms) (W : World) (h1 : hl m.k = false) (h2 : hev m.k = false) (h3 : hse m.k = true) (h4 : hst m.k = false) (h5 : hco m.k = true) : Calls Try.prog 42 #[.agg m.cells.toArray] W fun e W' => e = .returned (.agg (partsM m).cells.toArray) ∧ Below W.heap.size W W' := by
  have bz := zM_cells 0
  have bA := (Blk.new W 50 m.cells.toArray).alloc (.cells (zM 0).cells.toArray 50)
  have bR : Blk ((W.alloc (.cells m.cells.toArray 50)).alloc (.cells (zM 0).cells.toArray 50)) (W.heap.size + 1) 50 (zM 0).cells.toArray := Blk.new' (by simp)
  have hB0 := ((Below.refl W.heap.size W).alloc (Nat.le_refl _) (.cells m.cells.toArray 50)).alloc (by simp) (.cells (zM 0).cells.toArray 50)
  obtain ⟨w1, hw1⟩ : ∃ w1, w1 = (W.alloc (.cells m.cells.toArray 50)).alloc (.cells (zM 0).cells.toArray 50) := ⟨_, rfl⟩
  have hs1 : w1.heap.size = W.heap.size + 2 := by rw [hw1]; simp
  rw [← hw1] at bA bR hB0
  rw [bz] at hw1
  have HW1 := Lib.hid hw1
  have HA := Lib.hid bA
  have HR := Lib.hid bR
  have HB := Lib.hid hB0
  have HS1 := Lib.hid hs1
  obtain ⟨_, rl, rx, rs, c0, c1, c2, c3, c4⟩ := ms_all bA
  have HP := Lib.hid (show partsM m = { zM m.k with se := m.se, co := m.co } by unfold partsM zM; rw [h1, h2, h3, h4, h5]; rfl)
  clear bz bA bR hB0 hw1 hs1
  go_enter Try.func42, Try.ntmps42
  go_upto_region 1 with fail
  rw [← HW1.out]
  clear HW1
  go_upto_region 2 with (first | (refine wpList_build_lit (zM m.k).cells.toArray rfl 50 _ rfl (built_zM m.k) ?_) | (refine wpList_store_blk rfl 50 _ _ rfl w1.heap.size 50 (zM 0).cells.toArray (zM m.k).cells.toArray rfl rfl (by rw [zM_cells]; exact Blk.new' rfl) (msinfoA _) (by rw [List.size_toArray, List.size_toArray, ms_len, ms_len]) (ms_one _) ?_; intro hy))
  have hbn := below_setRow ((Below.refl w1.heap.size w1).alloc (Nat.le_refl _) (.cells (zM 0).cells.toArray 50)) (Nat.le_refl _) (zM m.k).cells.toArray
  rw [zM_cells 0] at hbn
  obtain ⟨w2, hw2⟩ : ∃ w2, w2 = (w1.alloc (.cells #[.int .i64 0, .int .i64 0, .int .i64 0, .int .i64 0, .int .i64 0, .int .u64 0, .int .i64 0, .int .u32 0, .int .i64 0, .int .i64 0, .int .u32 0, .int .u32 0, .int .u32 0, .int .u32 0, .int .u32 0, .int .u32 0, .int .u32 0, .int .u32 0, .int .u32 0, .int .u32 0, .int .u32 0, .int .u32 0, .int .u64 0, .int .i64 0, .int .u32 0, .int .i64 0, .int .i64 0, .int .u32 0, .int .u32 0, .int .u32 0, .int .u32 0, .int .u32 0, .int .u32 0, .int .u32 0, .int .u32 0, .int .u32 0, .int .u32 0, .int .u32 0, .int .u32 0, .int .i64 0, .int .i64 0, .int .i64 0, .float .f64 0, .bool false, .int .u64 0, .int .u32 0, .int .u32 0, .int .u32 0, .int .u32 0, .int .u32 0, .int .u32 0, .int .u32 0, .int .u32 0, .int .u32 0, .int .u32 0, .int .u32 0, .int .u32 0] 50)).setRow w1.heap.size (zM m.k).cells.toArray := ⟨_, rfl⟩
  rw [← hw2] at hbn hy ⊢
  obtain ⟨p, hp⟩ : ∃ p, p = w1.heap.size := ⟨_, rfl⟩
  rw [← hp] at hy ⊢
  have hpS : p = W.heap.size + 2 := hp.trans HS1.out
  have HA2 := Lib.hid (HA.out.next hbn)
  have HR2 := Lib.hid (HR.out.next hbn)
  have HB2 := Lib.hid (HB.out.trans (hbn.mono HB.out.size))
  have HY := Lib.hid hy
  have HPS := Lib.hid hpS
  obtain ⟨_, rl, rx, rs, c0, c1, c2, c3, c4⟩ := ms_all HA2.out
  clear hw2 hp hbn hy HA HR HB HS1 hpS
  clear rl rx rs c3 c4
  have hk1 := (ms_all HY.out).2.2.2.2.2.1
  have hf1 := (HY.out).frozen 1
  go_upto_region 10 with (first | (go_at_call 27; refine (haslabel_any _ _).mono ?_; rintro e wh ⟨rfl, rfl⟩; rw [h1]) | (go_at_call 29; refine (hasevent_any _ _).mono ?_; rintro e wh ⟨rfl, rfl⟩; rw [h2]) | (go_at_call 31; refine (hasseller_any _ _).mono ?_; rintro e wh ⟨rfl, rfl⟩; rw [h3]) | (go_at_call 32; refine (hasstance_any _ _).mono ?_; rintro e wh ⟨rfl, rfl⟩; rw [h4]) | (go_at_call 34; refine (hascount_any _ _).mono ?_; rintro e wh ⟨rfl, rfl⟩; rw [h5]))
  clear hk1 hf1
  obtain ⟨w3, hww3⟩ : ∃ w3, w3 = w2.setCell ⟨p, 1, none⟩ (.int .i64 m.se) := ⟨_, rfl⟩
  have hbw3 : Below p w2 w3 := by rw [hww3]; exact Below.setCell (p := ⟨p, 1, none⟩) (Below.refl _ _) (Nat.le_refl _) _
  have hyw3 : Blk w3 p 50 ({ zM m.k with se := m.se } : Ms).cells.toArray := by rw [hww3]; exact ms_setH (HY.out) (by omega) rfl rfl rfl rfl
  rw [← hww3]
  clear hww3
  clear c0 c1 c2
  have c0 := (hbw3.cell (p := ⟨W.heap.size, 0, none⟩) (show W.heap.size < p by have := HPS.out; omega)).trans (ms_all HA2.out).2.2.2.2.1
  have c2 := (hbw3.cell (p := ⟨W.heap.size, 2, none⟩) (show W.heap.size < p by have := HPS.out; omega)).trans (ms_all HA2.out).2.2.2.2.2.2.1
  have hk2 := (ms_all hyw3).2.2.2.2.2.2.1
  have hf2 := (hyw3).frozen 2
  go_upto_region 12 with (first | (go_at_call 27; refine (haslabel_any _ _).mono ?_; rintro e wh ⟨rfl, rfl⟩; rw [h1]) | (go_at_call 29; refine (hasevent_any _ _).mono ?_; rintro e wh ⟨rfl, rfl⟩; rw [h2]) | (go_at_call 31; refine (hasseller_any _ _).mono ?_; rintro e wh ⟨rfl, rfl⟩; rw [h3]) | (go_at_call 32; refine (hasstance_any _ _).mono ?_; rintro e wh ⟨rfl, rfl⟩; rw [h4]) | (go_at_call 34; refine (hascount_any _ _).mono ?_; rintro e wh ⟨rfl, rfl⟩; rw [h5]))
  clear hk2 hf2
  obtain ⟨w4, hww4⟩ : ∃ w4, w4 = w3.setCell ⟨p, 2, none⟩ (.int .i64 m.co) := ⟨_, rfl⟩
  have hbw4 : Below p w2 w4 := by rw [hww4]; exact Below.setCell (p := ⟨p, 2, none⟩) hbw3 (Nat.le_refl _) _
  have hyw4 : Blk w4 p 50 ({ zM m.k with se := m.se, co := m.co } : Ms).cells.toArray := by rw [hww4]; exact ms_setH (hyw3) (by omega) rfl rfl rfl rfl
  rw [← hww4]
  clear hww4
  clear c0 c2
  have hbp : Below p w2 w4 := hbw4
  have HZ := Lib.hid (show Blk w4 p 50 (partsM m).cells.toArray by rw [HP.out]; exact hyw4)
  have hpS := HPS.out
  have HRF := Lib.hid (show Blk w4 (W.heap.size + 1) 50 (zM 0).cells.toArray from (hbp.block (W.heap.size + 1) (by omega)).trans HR2.out)
  have HBF := Lib.hid (HB2.out.trans (hbp.mono (show W.heap.size ≤ p by omega)))
  have c0 := (hbp.cell (p := ⟨W.heap.size, 0, none⟩) (show W.heap.size < p by omega)).trans (ms_all HA2.out).2.2.2.2.1
  have rz := HZ.out.range
  clear hbp hpS HA2 HR2 HB2 HY HPS
  go_wp2_with (first | (go_at_call 27; refine (haslabel_any _ _).mono ?_; rintro e wh ⟨rfl, rfl⟩; rw [h1]) | (go_at_call 29; refine (hasevent_any _ _).mono ?_; rintro e wh ⟨rfl, rfl⟩; rw [h2]) | (go_at_call 31; refine (hasseller_any _ _).mono ?_; rintro e wh ⟨rfl, rfl⟩; rw [h3]) | (go_at_call 32; refine (hasstance_any _ _).mono ?_; rintro e wh ⟨rfl, rfl⟩; rw [h4]) | (go_at_call 34; refine (hascount_any _ _).mono ?_; rintro e wh ⟨rfl, rfl⟩; rw [h5]) | (refine wpList_load_midg (by rfl) 50 _ rfl _ _ rfl (Ms.cells ?_) _ ?_ Try.underlying50 rfl (msinfo _) ?_; rotate_left; (focus assumption)) | (refine wpList_store_blk rfl 50 _ _ rfl (W.heap.size + 1) 50 (zM 0).cells.toArray (partsM m).cells.toArray rfl rfl HRF.out (msinfoA _) (by rw [List.size_toArray, List.size_toArray, ms_len, ms_len]) (ms_one _) ?_; intro hrow))
  exact bodyPost_row (t := 50) (partsM m).cells.toArray rfl rfl rfl Try.underlying50 rfl (msinfoA _) hrow ⟨rfl, below_setRow HBF.out (by omega) _⟩
set_option maxRecDepth 20000 in
set_option maxHeartbeats 4000000 in
theorem parts_st (m : Ms) (W : World) (h1 : hl m.k = false) (h2 : hev m.k = false) (h3 : hse m.k = false) (h4 : hst m.k = true) (h5 : hco m.k = false) : Calls Try.prog 42 #[.agg m.cells.toArray] W fun e W' => e = .returned (.agg (partsM m).cells.toArray) ∧ Below W.heap.size W W' := by
  have bz := zM_cells 0
  have bA := (Blk.new W 50 m.cells.toArray).alloc (.cells (zM 0).cells.toArray 50)
  have bR : Blk ((W.alloc (.cells m.cells.toArray 50)).alloc (.cells (zM 0).cells.toArray 50)) (W.heap.size + 1) 50 (zM 0).cells.toArray := Blk.new' (by simp)
  have hB0 := ((Below.refl W.heap.size W).alloc (Nat.le_refl _) (.cells m.cells.toArray 50)).alloc (by simp) (.cells (zM 0).cells.toArray 50)
  obtain ⟨w1, hw1⟩ : ∃ w1, w1 = (W.alloc (.cells m.cells.toArray 50)).alloc (.cells (zM 0).cells.toArray 50) := ⟨_, rfl⟩
  have hs1 : w1.heap.size = W.heap.size + 2 := by rw [hw1]; simp
  rw [← hw1] at bA bR hB0
  rw [bz] at hw1
  have HW1 := Lib.hid hw1
  have HA := Lib.hid bA
  have HR := Lib.hid bR
  have HB := Lib.hid hB0
  have HS1 := Lib.hid hs1
  obtain ⟨_, rl, rx, rs, c0, c1, c2, c3, c4⟩ := ms_all bA
  have HP := Lib.hid (show partsM m = { zM m.k with ca := m.ca, ro := m.ro, s := m.s } by unfold partsM zM; rw [h1, h2, h3, h4, h5]; rfl)
  clear bz bA bR hB0 hw1 hs1
  go_enter Try.func42, Try.ntmps42
  go_upto_region 1 with fail
  rw [← HW1.out]
  clear HW1
  go_upto_region 2 with (first | (refine wpList_build_lit (zM m.k).cells.toArray rfl 50 _ rfl (built_zM m.k) ?_) | (refine wpList_store_blk rfl 50 _ _ rfl w1.heap.size 50 (zM 0).cells.toArray (zM m.k).cells.toArray rfl rfl (by rw [zM_cells]; exact Blk.new' rfl) (msinfoA _) (by rw [List.size_toArray, List.size_toArray, ms_len, ms_len]) (ms_one _) ?_; intro hy))
  have hbn := below_setRow ((Below.refl w1.heap.size w1).alloc (Nat.le_refl _) (.cells (zM 0).cells.toArray 50)) (Nat.le_refl _) (zM m.k).cells.toArray
  rw [zM_cells 0] at hbn
  obtain ⟨w2, hw2⟩ : ∃ w2, w2 = (w1.alloc (.cells #[.int .i64 0, .int .i64 0, .int .i64 0, .int .i64 0, .int .i64 0, .int .u64 0, .int .i64 0, .int .u32 0, .int .i64 0, .int .i64 0, .int .u32 0, .int .u32 0, .int .u32 0, .int .u32 0, .int .u32 0, .int .u32 0, .int .u32 0, .int .u32 0, .int .u32 0, .int .u32 0, .int .u32 0, .int .u32 0, .int .u64 0, .int .i64 0, .int .u32 0, .int .i64 0, .int .i64 0, .int .u32 0, .int .u32 0, .int .u32 0, .int .u32 0, .int .u32 0, .int .u32 0, .int .u32 0, .int .u32 0, .int .u32 0, .int .u32 0, .int .u32 0, .int .u32 0, .int .i64 0, .int .i64 0, .int .i64 0, .float .f64 0, .bool false, .int .u64 0, .int .u32 0, .int .u32 0, .int .u32 0, .int .u32 0, .int .u32 0, .int .u32 0, .int .u32 0, .int .u32 0, .int .u32 0, .int .u32 0, .int .u32 0, .int .u32 0] 50)).setRow w1.heap.size (zM m.k).cells.toArray := ⟨_, rfl⟩
  rw [← hw2] at hbn hy ⊢
  obtain ⟨p, hp⟩ : ∃ p, p = w1.heap.size := ⟨_, rfl⟩
  rw [← hp] at hy ⊢
  have hpS : p = W.heap.size + 2 := hp.trans HS1.out
  have HA2 := Lib.hid (HA.out.next hbn)
  have HR2 := Lib.hid (HR.out.next hbn)
  have HB2 := Lib.hid (HB.out.trans (hbn.mono HB.out.size))
  have HY := Lib.hid hy
  have HPS := Lib.hid hpS
  obtain ⟨_, rl, rx, rs, c0, c1, c2, c3, c4⟩ := ms_all HA2.out
  clear hw2 hp hbn hy HA HR HB HS1 hpS
  clear rl rx c1 c2
  go_upto_region 9 with (first | (go_at_call 27; refine (haslabel_any _ _).mono ?_; rintro e wh ⟨rfl, rfl⟩; rw [h1]) | (go_at_call 29; refine (hasevent_any _ _).mono ?_; rintro e wh ⟨rfl, rfl⟩; rw [h2]) | (go_at_call 31; refine (hasseller_any _ _).mono ?_; rintro e wh ⟨rfl, rfl⟩; rw [h3]) | (go_at_call 32; refine (hasstance_any _ _).mono ?_; rintro e wh ⟨rfl, rfl⟩; rw [h4]) | (go_at_call 34; refine (hascount_any _ _).mono ?_; rintro e wh ⟨rfl, rfl⟩; rw [h5]))
  have hp1 : W.heap.size < p := by have := HPS.out; omega
  refine wp_region_tree (S := (fun w' => w'.cell? ⟨W.heap.size, 3, none⟩ = some (.int .i64 m.ca) ∧ w'.cell? ⟨W.heap.size, 4, none⟩ = some (.int .i64 m.ro) ∧ w'.rangeAt W.heap.size 43 m.s.cells)) (.take 0 (.take 1 (.take 2 (.take 3 (.take 4 (.take 5 (.take 6 (.one 7 (.take 8 (.one 9 (.take 10 (.one 11 .nil)))))))))))) 9999 (by kernel_rfl) (by kernel_rfl) (by kernel_rfl) (by kernel_rfl) (by kernel_rfl) (fun _ _ d _ _ h => by cases d <;> exact h) ⟨c3, c4, rs⟩ (fun hHeld => ?_); simp only [Tree.map, List.getElem?_toArray, List.getElem?_cons_zero, List.getElem?_cons_succ]
  (repeat (first | (refine wpTree.take (v := undef) (Or.inr ⟨by rfl, rfl⟩) ?_; simp only [Act.put, List.setIfInBounds_toArray, List.set_cons_zero, List.set_cons_succ]) | (refine wpTree.take (v := .agg (St.cells ?_).toArray) (yieldsIf_load_mid rfl 33 _ rfl _ _ rfl (St.cells _) _ ?_ Try.underlying33 rfl (stinfo _)) ?_; rotate_left; (focus (intro _ hS; exact hS.2.2)); simp only [Act.put, List.setIfInBounds_toArray, List.set_cons_zero, List.set_cons_succ]) | (refine wpTree.take (v := ?_) (Or.inl ⟨by rfl, ?_⟩) ?_; rotate_left; (focus (intro _ hS; (try dsimp only at hS); go_split_ands; (try subst hS); go_simp; (try (with_reducible rfl)); done)); simp only [Act.put, List.setIfInBounds_toArray, List.set_cons_zero, List.set_cons_succ])))
  obtain ⟨wd, hwd⟩ : ∃ wd, wd = w2.drew := ⟨_, rfl⟩
  have hbd : Below p w2 wd := by rw [hwd]; exact (Below.refl _ _).drew
  have hyd : Blk wd p 50 (zM m.k).cells.toArray := by rw [hwd]; exact HY.out.drew
  rw [← hwd]
  clear hwd
  have hkA := (ms_all hyd).2.2.2.2.2.2.2.1
  have hfA := hyd.frozen 3
  refine wpTree.one (fun K hK => ?_)
  go_simp
  obtain ⟨w3, hw3⟩ : ∃ w3, w3 = wd.setCell ⟨p, 3, none⟩ (.int .i64 m.ca) := ⟨_, rfl⟩
  have hb3 : Below p w2 w3 := by rw [hw3]; exact Below.setCell (p := ⟨p, 3, none⟩) hbd (Nat.le_refl _) _
  have hy3 : Blk w3 p 50 ({ zM m.k with ca := m.ca } : Ms).cells.toArray := by rw [hw3]; exact ms_setH hyd (by omega) rfl rfl rfl rfl
  rw [← hw3]
  clear hw3 hkA hfA
  refine hK.out _ _ ⟨(hb3.cell (p := ⟨W.heap.size, 3, none⟩) hp1).trans c3, (hb3.cell (p := ⟨W.heap.size, 4, none⟩) hp1).trans c4, fun j v hj => (hb3.cell (p := ⟨W.heap.size, 43 + j, none⟩) hp1).trans (rs j v hj)⟩ (fun _ => ?_)
  clear hK K
  (try simp only [Act.put, List.setIfInBounds_toArray, List.set_cons_zero, List.set_cons_succ])
  (repeat (first | (refine wpTree.take (v := undef) (Or.inr ⟨by rfl, rfl⟩) ?_; simp only [Act.put, List.setIfInBounds_toArray, List.set_cons_zero, List.set_cons_succ]) | (refine wpTree.take (v := ?_) (Or.inl ⟨by rfl, ?_⟩) ?_; rotate_left; (focus (intro _ hS; (try dsimp only at hS); go_split_ands; (try subst hS); go_simp; (try (with_reducible rfl)); done)); simp only [Act.put, List.setIfInBounds_toArray, List.set_cons_zero, List.set_cons_succ])))
  have hkA := (ms_all hy3).2.2.2.2.2.2.2.2
  have hfA := hy3.frozen 4
  refine wpTree.one (fun K hK => ?_)
  go_simp
  obtain ⟨w4, hw4⟩ : ∃ w4, w4 = w3.setCell ⟨p, 4, none⟩ (.int .i64 m.ro) := ⟨_, rfl⟩
  have hb4 : Below p w2 w4 := by rw [hw4]; exact Below.setCell (p := ⟨p, 4, none⟩) hb3 (Nat.le_refl _) _
  have hy4 : Blk w4 p 50 ({ zM m.k with ca := m.ca, ro := m.ro } : Ms).cells.toArray := by rw [hw4]; exact ms_setH hy3 (by omega) rfl rfl rfl rfl
  rw [← hw4]
  clear hw4 hkA hfA
  refine hK.out _ _ ⟨(hb4.cell (p := ⟨W.heap.size, 3, none⟩) hp1).trans c3, (hb4.cell (p := ⟨W.heap.size, 4, none⟩) hp1).trans c4, fun j v hj => (hb4.cell (p := ⟨W.heap.size, 43 + j, none⟩) hp1).trans (rs j v hj)⟩ (fun _ => ?_)
  clear hK K
  (try simp only [Act.put, List.setIfInBounds_toArray, List.set_cons_zero, List.set_cons_succ])
  (repeat (first | (refine wpTree.take (v := undef) (Or.inr ⟨by rfl, rfl⟩) ?_; simp only [Act.put, List.setIfInBounds_toArray, List.set_cons_zero, List.set_cons_succ]) | (refine wpTree.take (v := ?_) (Or.inl ⟨by rfl, ?_⟩) ?_; rotate_left; (focus (intro _ hS; (try dsimp only at hS); go_split_ands; (try subst hS); go_simp; (try (with_reducible rfl)); done)); simp only [Act.put, List.setIfInBounds_toArray, List.set_cons_zero, List.set_cons_succ])))
  have hth := hy4.thereT (o := 43) (n := m.s.cells.toArray.size) (by rw [List.size_toArray, List.size_toArray, ms_len, st_len]; omega)
  refine wpTree.one (fun K hK => ?_)
  rw [if_pos (by rfl)]
  refine wp_store_mid 33 _ _ rfl p 43 m.s.cells.toArray rfl rfl hth (stinfoA _) (st_one _) ?_
  show K _ (w4.setCells p 43 m.s.cells)
  obtain ⟨w5, hw5⟩ : ∃ w5, w5 = w4.setCells p 43 m.s.cells := ⟨_, rfl⟩
  have hb5 : Below p w2 w5 := by rw [hw5]; exact setCells_below (Nat.le_refl _) _ _ _ hb4
  have hy5 := ms_setS hy4 m.s
  rw [← hw5] at hy5 ⊢
  clear hw5
  refine hK.out _ _ ⟨(hb5.cell (p := ⟨W.heap.size, 3, none⟩) hp1).trans c3, (hb5.cell (p := ⟨W.heap.size, 4, none⟩) hp1).trans c4, fun j v hj => (hb5.cell (p := ⟨W.heap.size, 43 + j, none⟩) hp1).trans (rs j v hj)⟩ (fun _ => ?_)
  clear hK K
  (try simp only [Act.put, List.setIfInBounds_toArray, List.set_cons_zero, List.set_cons_succ])
  refine wpTree.done ?_
  clear c0 c3 c4 rs hHeld hp1 hyd hy3 hy4 hbd hb3 hb4 hth
  have hbp : Below p w2 w5 := hb5
  have HZ := Lib.hid (show Blk w5 p 50 (partsM m).cells.toArray by rw [HP.out]; exact hy5)
  have hpS := HPS.out
  have HRF := Lib.hid (show Blk w5 (W.heap.size + 1) 50 (zM 0).cells.toArray from (hbp.block (W.heap.size + 1) (by omega)).trans HR2.out)
  have HBF := Lib.hid (HB2.out.trans (hbp.mono (show W.heap.size ≤ p by omega)))
  have c0 := (hbp.cell (p := ⟨W.heap.size, 0, none⟩) (show W.heap.size < p by omega)).trans (ms_all HA2.out).2.2.2.2.1
  have rz := HZ.out.range
  clear hbp hpS HA2 HR2 HB2 HY HPS
  go_wp2_with (first | (go_at_call 27; refine (haslabel_any _ _).mono ?_; rintro e wh ⟨rfl, rfl⟩; rw [h1]) | (go_at_call 29; refine (hasevent_any _ _).mono ?_; rintro e wh ⟨rfl, rfl⟩; rw [h2]) | (go_at_call 31; refine (hasseller_any _ _).mono ?_; rintro e wh ⟨rfl, rfl⟩; rw [h3]) | (go_at_call 32; refine (hasstance_any _ _).mono ?_; rintro e wh ⟨rfl, rfl⟩; rw [h4]) | (go_at_call 34; refine (hascount_any _ _).mono ?_; rintro e wh ⟨rfl, rfl⟩; rw [h5]) | (refine wpList_load_midg (by rfl) 50 _ rfl _ _ rfl (Ms.cells ?_) _ ?_ Try.underlying50 rfl (msinfo _) ?_; rotate_left; (focus assumption)) | (refine wpList_store_blk rfl 50 _ _ rfl (W.heap.size + 1) 50 (zM 0).cells.toArray (partsM m).cells.toArray rfl rfl HRF.out (msinfoA _) (by rw [List.size_toArray, List.size_toArray, ms_len, ms_len]) (ms_one _) ?_; intro hrow))
  exact bodyPost_row (t := 50) (partsM m).cells.toArray rfl rfl rfl Try.underlying50 rfl (msinfoA _) hrow ⟨rfl, below_setRow HBF.out (by omega) _⟩
theorem parts_any (m : Ms) (W : World) : Calls Try.prog 42 #[.agg m.cells.toArray] W fun e W' => e = .returned (.agg (partsM m).cells.toArray) ∧ Below W.heap.size W W' := by
  rcases kd_any m.k with ⟨_, h1, h2, h3, h4, h5⟩ | ⟨_, h1, h2, h3, h4, h5⟩ | ⟨_, h1, h2, h3, h4, h5⟩ | ⟨_, h1, h2, h3, h4, h5⟩ | ⟨_, h1, h2, h3, h4, h5⟩ | ⟨_, h1, h2, h3, h4, h5⟩
  · exact parts_lab m W h1 h2 h3 h4 h5
  · exact parts_ev m W h1 h2 h3 h4 h5
  · exact parts_sel m W h1 h2 h3 h4 h5
  · exact parts_en m W h1 h2 h3 h4 h5
  · exact parts_st m W h1 h2 h3 h4 h5
  · exact parts_no m W h1 h2 h3 h4 h5
end Mg
end Go.Proofs.Ytkigaclcmodjaaa
