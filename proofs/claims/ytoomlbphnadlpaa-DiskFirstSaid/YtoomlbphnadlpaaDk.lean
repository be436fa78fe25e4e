/-
disk: what a disk is; Size, made, fits, Counts, Clone, Waits, New, waiting.
-/
import Derived.Test.YtoomlbphnadlpaaBytes
import Derived.Test.YtoomlbphnadlpaaRows2
import Derived.Test.YtoomlbphnadlpaaStore
import Derived.Laws.MakeOwn
import Derived.Deep.OwnRows
import Derived.Deep.CutRange
import Derived.Lib.SliceRun
namespace Go.Proofs.Ytoomlbphnadlpaa
open Go.RowKit
open Byt
set_option linter.unusedSimpArgs false
set_option linter.unusedVariables false

/-- A write that waits. -/
structure Wt where
  a : Nat
  A : Option Addr
  c : Nat
  bs : List Nat
def Wt.cells (x : Wt) : List Value := [.int .i64 (x.a : Nat), .slice x.A x.bs.length x.c]
theorem wt_len {x : Wt} : x.cells.length = 2 := rfl
theorem wt_arr (x : Wt) : x.cells.toArray = #[.int .i64 (x.a : Nat), .slice x.A x.bs.length x.c] := rfl
theorem wt_0 {x : Wt} : x.cells[0]? = some (.int .i64 (x.a : Nat)) := rfl
theorem wt_1 {x : Wt} : x.cells[1]? = some (.slice x.A x.bs.length x.c) := rfl
theorem wt_one (x : Wt) : x.cells.toArray.all (·.oneCell') = true := by unfold Wt.cells; simp [Value.oneCell']
theorem wt_ones (x : Wt) : ∀ v ∈ x.cells, v.oneCell' = true := by
  intro v hv
  unfold Wt.cells at hv
  simp at hv
  rcases hv with rfl | rfl <;> rfl
def wts (l : List Wt) : List Value := l.flatMap Wt.cells
theorem wts_len (l : List Wt) : (wts l).length = 2 * l.length := by
  induction l with
  | nil => rfl
  | cons x l ih => simp only [wts, List.flatMap_cons, List.length_append, List.length_cons] at ih ⊢; rw [ih, wt_len]; omega
theorem wts_get : ∀ (l : List Wt) (i : Nat) (x : Wt) (j : Nat), l[i]? = some x → j < 2 → (wts l)[2 * i + j]? = x.cells[j]?
  | [], i, x, j, h, _ => by simp at h
  | y :: l, 0, x, j, h, hj => by
    simp at h
    subst h
    simp only [wts, List.flatMap_cons, Nat.mul_zero, Nat.zero_add]
    rw [List.getElem?_append_left (by rw [wt_len]; exact hj)]
  | y :: l, i + 1, x, j, h, hj => by
    have := wts_get l i x j (by simpa using h) hj
    simp only [wts, List.flatMap_cons] at this ⊢
    rw [List.getElem?_append_right (by rw [wt_len]; omega), wt_len, show 2 * (i + 1) + j - 2 = 2 * i + j by omega]
    exact this
/-- A write's bytes lie in F, and not where h is. -/
def Wt.At (x : Wt) (W : World) (F : Nat → Prop) (h n : Nat) : Prop :=
  x.a + x.bs.length ≤ n ∧ (∀ y ∈ x.bs, y < 256) ∧ (x.bs = [] ∨ ∃ b p, x.A = some ⟨b, p, none⟩ ∧ F b ∧ b ≠ h ∧ (∃ cs z, W.heap[b]? = some (.cells cs 5 z)) ∧ ∀ (i y : Nat), x.bs[i]? = some y → W.cell? ⟨b, p + i, none⟩ = some (.int .u8 (y : Nat)))
/-- Block d is a disk: what it has, what waits, and its counts. F: its blocks. -/
structure Dk (W : World) (B d : Nat) (F : Nat → Prop) (h n : Nat) (v : Value) (has : List Nat) (ws : List Wt) (fl wr : Int) : Prop where
  fd : F d
  fh : F h
  fv : ∀ k, v.ownBlock = some k → F k
  blk : Blk W d 41 #[.slice (some ⟨h, 0, none⟩) n n, v, .int .i64 fl, .int .i64 wr]
  row : Blk W h 5 (u8s has).toArray
  len : has.length = n
  h256 : ∀ y ∈ has, y < 256
  own : W.ownsRow B 45 2 v ws.length (wts ws)
  at_ : ∀ x ∈ ws, x.At W F h n
  low : ∀ k, F k → B ≤ k ∧ k < W.heap.size
  pos : 0 < n
  big : n ≤ 262144
theorem Wt.At.keep {x : Wt} {W W' : World} {F : Nat → Prop} {h n : Nat} (ha : x.At W F h n) {G : Nat → Prop} (hk : ∀ k cs z, F k → k ≠ h → W.heap[k]? = some (.cells cs 5 z) → G k ∧ W'.heap[k]? = W.heap[k]?) : x.At W' G h n := by
  obtain ⟨h1, h2, h3⟩ := ha
  refine ⟨h1, h2, h3.imp id ?_⟩
  rintro ⟨b, p, e, hF, hne, ⟨cs, z, hz⟩, hc⟩
  obtain ⟨hG, hh⟩ := hk b cs z hF hne hz
  exact ⟨b, p, e, hG, hne, ⟨cs, z, hh.trans hz⟩, fun i y hy => (World.cell?_of_block hh).trans (hc i y hy)⟩
theorem ownG_keep {w w' : World} {B : Nat} {e : TypeId} {size n : Nat} {v : Value} {xs : List Value} (h : w.ownsRow B e size v n xs) (hk : ∀ k, v.ownBlock = some k → w'.heap[k]? = w.heap[k]?) : w'.ownsRow B e size v n xs := by
  obtain ⟨hl, h⟩ := h
  refine ⟨hl, h.imp id ?_⟩
  rintro ⟨g, cap, cur, e, hg, hh, r⟩
  exact ⟨g, cap, cur, e, hg, (hk g (by rw [e]; rfl)).trans hh, r⟩
section
variable {W W' : World} {B d : Nat} {F : Nat → Prop} {h n : Nat} {v : Value} {has : List Nat} {ws : List Wt} {fl wr : Int}
theorem Dk.keep (D : Dk W B d F h n v has ws fl wr) (hk : ∀ k, F k → W'.heap[k]? = W.heap[k]?) (hs : W.heap.size ≤ W'.heap.size) : Dk W' B d F h n v has ws fl wr :=
  ⟨D.fd, D.fh, D.fv, (hk d D.fd).trans D.blk, (hk h D.fh).trans D.row, D.len, D.h256, ownG_keep D.own fun k e => hk k (D.fv k e), fun x hx => (D.at_ x hx).keep fun k _ _ hF _ _ => ⟨hF, hk k hF⟩, fun k hF => ⟨(D.low k hF).1, Nat.lt_of_lt_of_le (D.low k hF).2 hs⟩, D.pos, D.big⟩
theorem Dk.next (D : Dk W B d F h n v has ws fl wr) (hb : Below W.heap.size W W') : Dk W' B d F h n v has ws fl wr := D.keep (fun k hF => hb.block k (D.low k hF).2) hb.size
theorem Dk.c0 (D : Dk W B d F h n v has ws fl wr) : W.cell? ⟨d, 0, none⟩ = some (.slice (some ⟨h, 0, none⟩) n n) := D.blk.cell 0
theorem Dk.c1 (D : Dk W B d F h n v has ws fl wr) : W.cell? ⟨d, 1, none⟩ = some v := D.blk.cell 1
theorem Dk.c2 (D : Dk W B d F h n v has ws fl wr) : W.cell? ⟨d, 2, none⟩ = some (.int .i64 fl) := D.blk.cell 2
theorem Dk.c3 (D : Dk W B d F h n v has ws fl wr) : W.cell? ⟨d, 3, none⟩ = some (.int .i64 wr) := D.blk.cell 3
end
section
variable {B d : Nat} {F : Nat → Prop} {h n : Nat} {v : Value} {has : List Nat} {ws : List Wt} {fl wr : Int} (W : World)
theorem size_nil : Calls Try.prog 18 #[.pointer none] W fun e W' => e = .returned (.int .i64 0) ∧ W = W' := by
  go_enter Try.func18, Try.ntmps18
  go_wp2_with fail
  go_ret
  exact ⟨rfl, rfl⟩
theorem size_of {A : Option Addr} {n c : Nat} (hc : W.cell? ⟨d, 0, none⟩ = some (.slice A n c)) : Calls Try.prog 18 #[.pointer (some ⟨d, 0, none⟩)] W fun e W' => e = .returned (.int .i64 (n : Nat)) ∧ W = W' := by
  go_enter Try.func18, Try.ntmps18
  go_wp2_with fail
  go_ret
  exact ⟨rfl, rfl⟩
theorem made_any (D : Dk W B d F h n v has ws fl wr) : Calls Try.prog 12 #[.pointer (some ⟨d, 0, none⟩)] W fun e W' => e = .returned (.bool true) ∧ W = W' := by
  have HP := Lib.hid D.pos
  have HS := Lib.hid (size_of W D.c0)
  clear D
  go_enter Try.func12, Try.ntmps12
  go_wp2_with (go_at_call 18; refine HS.out.mono ?_; rintro e w1 ⟨rfl, rfl⟩)
  go_ret
  exact ⟨by show Ending.returned (.bool (decide (0 < n))) = _; rw [decide_eq_true HP.out], rfl⟩
def fitsB (n : Nat) (a m : Int) : Bool := decide (0 ≤ a) && (decide (0 ≤ m) && decide (m ≤ n - a))
theorem fits_iff {n : Nat} {a m : Int} : fitsB n a m = true ↔ 0 ≤ a ∧ 0 ≤ m ∧ a + m ≤ n := by
  unfold fitsB
  simp only [Bool.and_eq_true, decide_eq_true_eq]
  omega
theorem fits_any (D : Dk W B d F h n v has ws fl wr) (a m : Int) (ha : -9223372036854775808 ≤ a ∧ a ≤ 9223372036854775807) : Calls Try.prog 13 #[.pointer (some ⟨d, 0, none⟩), .int .i64 a, .int .i64 m] W fun e W' => e = .returned (.bool (fitsB n a m)) ∧ W = W' := by
  have c0 := D.c0
  have hbig := D.big
  clear D
  unfold fitsB
  by_cases h1 : 0 ≤ a
  · rw [decide_eq_true h1, Bool.true_and]
    have ew : IntKind.i64.wrap ((n : Int) - a) = (n : Int) - a := by rw [IntKind.wrap_i64]; omega
    have h1' : decide (0 ≤ a) = true := decide_eq_true h1
    clear hbig ha h1
    by_cases h2 : 0 ≤ m
    · rw [decide_eq_true h2, Bool.true_and]
      have h2' : decide (0 ≤ m) = true := decide_eq_true h2
      clear h2
      go_enter Try.func13, Try.ntmps13
      go_wp2_with fail
      go_ret
      exact ⟨rfl, rfl⟩
    · rw [decide_eq_false h2, Bool.false_and]
      have h2' : decide (0 ≤ m) = false := decide_eq_false h2
      clear h2
      go_enter Try.func13, Try.ntmps13
      go_wp2_with fail
      go_ret
      exact ⟨rfl, rfl⟩
  · rw [decide_eq_false h1, Bool.false_and]
    have h1' : decide (0 ≤ a) = false := decide_eq_false h1
    clear hbig ha h1
    go_enter Try.func13, Try.ntmps13
    go_wp2_with fail
    go_ret
    exact ⟨rfl, rfl⟩
theorem counts_any (D : Dk W B d F h n v has ws fl wr) : Calls Try.prog 17 #[.pointer (some ⟨d, 0, none⟩)] W fun e W' => e = .returned (.tuple #[.int .i64 fl, .int .i64 wr]) ∧ Below W.heap.size W W' := by
  have c2 := D.c2
  have c3 := D.c3
  clear D
  go_enter Try.func17, Try.ntmps17
  go_wp2_with fail
  refine wp_region_plan (S := fun w' => w' = World.drew W) [(0, true), (1, true), (2, true), (3, true), (4, true), (5, true), (6, true), (7, true), (8, true), (9, true)] 9999 (by kernel_rfl) (by kernel_rfl) (by kernel_rfl) (by kernel_rfl) (by kernel_rfl) (fun _ _ d _ _ h => by cases d <;> exact h) rfl (fun hHeld => ?_); simp only [List.map_cons, List.map_nil, List.getElem?_toArray, List.getElem?_cons_zero, List.getElem?_cons_succ]
  (repeat (first | (refine wpPlan.take (v := undef) (Or.inr ⟨by rfl, rfl⟩) ?_; simp only [Act.put, List.setIfInBounds_toArray, List.set_cons_zero, List.set_cons_succ]) | (refine wpPlan.take (v := ?_) (Or.inl ⟨by rfl, ?_⟩) ?_; rotate_left; (focus (intro _ hS; (try dsimp only at hS); go_split_ands; (try subst hS); go_simp; (try (with_reducible rfl)); done)); simp only [Act.put, List.setIfInBounds_toArray, List.set_cons_zero, List.set_cons_succ]))); refine wpPlan.done ?_; clear hHeld
  go_wp2_with fail
  go_ret2
  exact ⟨rfl, (Below.refl _ _).drew⟩
theorem clone_any (A : Option Addr) (m c : Nat) (bs : List Nat) (hn : bs.length = m) (hs : Src W A m (u8s bs)) (hm : m ≤ 140737488355328) : Calls Try.prog 14 #[.slice A m c] W fun e W' => ∃ v, e = .returned v ∧ W'.ownsRow W.heap.size 5 1 v bs.length (u8s bs) ∧ Below W.heap.size W W' ∧ (A ≠ none → v.ownBlock ≠ none) := by
  subst hn
  cases A with
  | none =>
    have hb : bs = [] := by
      rcases hs with ⟨ad, e, _⟩ | ⟨_, _, h⟩
      · cases e
      · simpa [u8s] using h
    subst hb
    have hnil : ∀ w, (binOp .eql 27 (.slice none 0 c) (.slice none 0 0)).run Try.prog w = .ok (.bool true) w := fun w => Lib.run_eql_slice_nil (P := Try.prog) w 27 5 none 0 c 0 0 Try.underlying27
    go_enter Try.func14, Try.ntmps14
    go_wp2_with fail
    go_ret
    exact ⟨_, rfl, World.ownsRow_nil _ _ _ _, Below.refl _ _, fun h => absurd rfl h⟩
  | some ad =>
    have HS := Lib.hid hs
    have hlit : (W.alloc (.cells #[] 5)).ownsRow W.heap.size 5 1 (.slice (some ⟨W.heap.size, 0, none⟩) 0 0) 0 (u8s []) := World.ownsRow_lit (base := W.heap.size) (size := 1) (e := 5) W #[] 0 (Nat.le_refl _) (by unfold maxLen; omega) rfl
    have hb1 := (Below.refl W.heap.size W).alloc (Nat.le_refl _) (.cells #[] 5)
    have hs1 := hs.below hb1
    have HM := Lib.hid hm
    have hnil : ∀ w, (binOp .eql 27 (.slice (some ad) bs.length c) (.slice none 0 0)).run Try.prog w = .ok (.bool false) w := fun w => Lib.run_eql_slice_nil (P := Try.prog) w 27 5 (some ad) bs.length c 0 0 Try.underlying27
    clear hs hm
    go_enter Try.func14, Try.ntmps14
    go_wp2_with (first | (at_builtin; refine wpList_append_u8 _ rfl _ _ rfl W.heap.size _ 0 (u8s []) rfl hlit (some ad) bs.length c (u8s bs) rfl (u8s_len _) hs1 (u8s_one _) (by have := HM.out; omega) (by simp) ?_; intro v' W1 hown hgrow hloc; have HNB := Lib.hid (show v'.ownBlock ≠ none from by intro h0; rcases hloc with e | e <;> rw [e] at h0 <;> first | exact absurd (show some W.heap.size = none from h0) (by simp) | (simp at h0)); have HB := Lib.hid (ownG_below hgrow hlit (Nat.le_refl _) (by simp) hb1); rw [Nat.zero_add] at hown; have HO := Lib.hid hown; obtain ⟨A', c', rfl⟩ := slice_of hown; clear hown hgrow hloc))
    go_ret
    exact ⟨_, rfl, HO.out, HB.out, fun _ => HNB.out⟩
end
end Go.Proofs.Ytoomlbphnadlpaa
