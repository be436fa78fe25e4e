/-
peers: set, let, told, New, Found, Join, Asked, Joined, Leaving, Left.
-/
import Derived.Test.YtlceljcplmcjgaaPe2
namespace Go.Proofs.Ytlceljcplmcjgaa
open Go.RowKit
set_option linter.unusedSimpArgs false
set_option linter.unusedVariables false
namespace Pe
/-- What a call on the block d leaves as it was. -/
def Tn (B d : Nat) (W W' : World) : Prop := Turn B (fun k => k = d) W W'
section
variable {W W1 W2 : World} {B d : Nat}
theorem Tn.size (h : Tn B d W W1) : W.heap.size ≤ W1.heap.size := h.1.size
theorem Tn.trans (h : Tn B d W W1) (h2 : Tn B d W1 W2) : Tn B d W W2 := ⟨h.1.trans h2.1, fun k hk hd => (h2.2 k (Nat.lt_of_lt_of_le hk h.1.size) hd).trans (h.2 k hk hd)⟩
theorem Tn.ofBelow (hB : B ≤ W.heap.size) (h : Below W.heap.size W W1) : Tn B d W W1 := ⟨h.mono hB, fun k hk _ => h.block k hk⟩
theorem Tn.refl (W : World) (B d : Nat) : Tn B d W W := ⟨Below.refl _ _, fun _ _ _ => rfl⟩
theorem Tn.cell (hB : B ≤ d) (i : Nat) (v : Value) : Tn B d W (W.setCell ⟨d, i, none⟩ v) := ⟨(Below.refl B W).setCell (p := ⟨d, i, none⟩) hB v, fun k _ hk => Below.heap_setCell W ⟨d, i, none⟩ v k hk⟩
theorem Tn.cells (hB : B ≤ d) (i : Nat) (vs : List Value) : Tn B d W (W.setCells d i vs) := ⟨setCells_below hB vs i W (Below.refl B W), fun k _ hk => setCells_other d vs i W k hk⟩
theorem Tn.next {x : PS} (hp : PP W B d x) (h : Below W.heap.size W W1) : Tn B d W W1 := .ofBelow (by have := hp.lt; have := hp.2; omega) h
theorem Tn.blk {g : Nat} {t : TypeId} {cs : Array Value} (h : Tn B d W W1) (hg : Blk W g t cs) (hd : g ≠ d) : Blk W1 g t cs := (h.2 g hg.lt hd).trans hg
theorem Tn.pp {g B2 : Nat} {x : PS} (h : Tn B d W W1) (hg : PP W B2 g x) (hd : g ≠ d) : PP W1 B2 g x := ⟨h.blk hg.1 hd, hg.2⟩
end
def PS.set (x : PS) (k : Nat) (s : Int) : PS := if s = 0 then x.clear k else x.setSt k s
theorem pp_setSt {W : World} {B d : Nat} {x : PS} (h : PP W B d x) {k : Nat} (hk : k < 12) (s : Int) : PP (W.setCell ⟨d, 1 + k * 13, none⟩ (.int .i64 s)) B d (x.setSt k s) := by
  have h1 := h.1.setCell (1 + k * 13) (.int .i64 s)
  rw [List.setIfInBounds_toArray, ps_setSt x hk] at h1
  exact ⟨h1, h.2⟩
theorem pp_setPe {W : World} {B d : Nat} {x : PS} (h : PP W B d x) {k j : Nat} (hk : k < 12) (hj : j < 12) (b : Bool) : PP (W.setCell ⟨d, 1 + k * 13 + 1 + j, none⟩ (.bool b)) B d (x.setPe k j b) := by
  have h1 := h.1.setCell (1 + k * 13 + 1 + j) (.bool b)
  rw [List.setIfInBounds_toArray, ps_setPe x hk hj] at h1
  exact ⟨h1, h.2⟩
theorem pp_split (x : PS) {k : Nat} (hk : k < 12) : x.cells = x.cells.take (1 + k * 13) ++ (x.cells.drop (1 + k * 13)).take 13 ++ x.cells.drop (1 + k * 13 + 13) := by
  rw [List.append_assoc, show x.cells.drop (1 + k * 13 + 13) = (x.cells.drop (1 + k * 13)).drop 13 by rw [List.drop_drop], List.take_append_drop, List.take_append_drop]
theorem pp_clear {W : World} {B d : Nat} {x : PS} (h : PP W B d x) {k : Nat} (hk : k < 12) : PP (W.setCells d (1 + k * 13) (sl 0 (fun _ => false))) B d (x.clear k) := by
  have h0 := h.1
  rw [pp_split x hk] at h0
  have h1 := Blk.setMid (sl 0 (fun _ => false)) (x.cells.take (1 + k * 13)) ((x.cells.drop (1 + k * 13)).take 13) (x.cells.drop (1 + k * 13 + 13)) W h0 (by rw [sl_len, List.length_take, List.length_drop, ps_len]; omega)
  rw [ps_clear x hk, List.length_take, ps_len, show min (1 + k * 13) 157 = 1 + k * 13 by omega] at h1
  exact ⟨h1, h.2⟩
theorem clear_set (x : PS) (k : Nat) : (x.clear k).setSt k 0 = x.clear k := by
  unfold PS.clear PS.setSt
  congr 1
  funext i
  dsimp only
  split
  · rfl
  · rfl
section
variable (W : World) {B d : Nat} {x : PS}
set_option maxRecDepth 20000 in
theorem set_any (h : PP W B d x) {k : Nat} (hk : k < 12) (s : Int) : Calls Try.prog 43 #[.pointer (some ⟨d, 0, none⟩), .int .i64 ((k : Int) + 1), .int .i64 s] W fun e W' => e = .returned (.tuple #[]) ∧ PP W' B d (x.set k s) ∧ Tn B d W W' ∧ W'.heap.size = W.heap.size := by
  have e1 : wrap64 ((k : Int) + 1 - 1) = (k : Nat) := by unfold wrap64; omega
  have e2 : (k : Int) < 12 := by omega
  have e3 : ¬ (k : Int) < 0 := by omega
  by_cases h0 : s = 0
  · subst h0
    have HP := Lib.hid h
    have hth : W.there d (1 + k * 13) (sl 0 (fun _ => false)).toArray.size := h.1.there (by rw [sl_size, List.size_toArray, ps_len]; omega)
    have hP2 := pp_clear h hk
    have hc := hP2.cs hk
    have hz := hP2.1.frozen (1 + k * 13)
    have HP2 := Lib.hid hP2
    have HK := Lib.hid hk
    clear h hk hP2
    go_enter Try.func43, Try.ntmps43
    go_upto_region 1 with fail
    go_upto_region 2 with (first | (refine Nd.wpList_build_lit (sl 0 (fun _ => false)).toArray rfl 47 _ rfl (by rw [sl_zero]; exact built_zero) ?_) | (refine wpList_store_mid rfl 47 _ _ rfl d (1 + k * 13) (sl 0 (fun _ => false)).toArray rfl rfl hth (slinfoA _ _) (sl_all _ _) ?_))
    show Code.wp _ _ _ _ (W.setCells d (1 + k * 13) (sl 0 (fun _ => false)))
    obtain ⟨w1, hw1⟩ : ∃ w1, w1 = W.setCells d (1 + k * 13) (sl 0 (fun _ => false)) := ⟨_, rfl⟩
    rw [← hw1] at hc hz HP2 ⊢
    have HT := Lib.hid (show Tn B d W w1 ∧ w1.heap.size = W.heap.size by rw [hw1]; exact ⟨Tn.cells HP.out.2 _ _, setCells_size _ _ _ _⟩)
    clear hw1 hth
    go_wp2_with fail
    refine ⟨rfl, .tuple #[], by simp [results, Try.results43, go_sem], rfl, ?_, HT.out.1.trans (Tn.cell HP.out.2 _ _), by simpa [World.setCell] using HT.out.2⟩
    unfold PS.set
    rw [if_pos rfl]
    have h1 := pp_setSt HP2.out HK.out 0
    rw [clear_set] at h1
    exact h1
  · have hc := h.cs hk
    have hz := h.1.frozen (1 + k * 13)
    have i1 : (s == 0) = false := by simp [h0]
    have HP2 := Lib.hid (show PP (W.setCell ⟨d, 1 + k * 13, none⟩ (.int .i64 s)) B d (x.set k s) by unfold PS.set; rw [if_neg h0]; exact pp_setSt h hk s)
    have HB := Lib.hid h.2
    clear h h0 hk
    go_enter Try.func43, Try.ntmps43
    go_upto_region 2 with fail
    clear i1
    go_wp2_with fail
    exact ⟨rfl, .tuple #[], by simp [results, Try.results43, go_sem], rfl, HP2.out, Tn.cell HB.out _ _, by simp [World.setCell]⟩
set_option maxRecDepth 20000 in
theorem let_any (h : PP W B d x) {k j : Nat} (hk : k < 12) (hj : j < 12) (b : Bool) : Calls Try.prog 45 #[.pointer (some ⟨d, 0, none⟩), .int .i64 ((k : Int) + 1), .int .i64 ((j : Int) + 1), .bool b] W fun e W' => e = .returned (.tuple #[]) ∧ PP W' B d (x.setPe k j b) ∧ Tn B d W W' ∧ W'.heap.size = W.heap.size := by
  have e1 : wrap64 ((k : Int) + 1 - 1) = (k : Nat) := by unfold wrap64; omega
  have e2 : (k : Int) < 12 := by omega
  have e3 : ¬ (k : Int) < 0 := by omega
  have e4 : wrap64 ((j : Int) + 1 - 1) = (j : Nat) := by unfold wrap64; omega
  have e5 : (j : Int) < 12 := by omega
  have e6 : ¬ (j : Int) < 0 := by omega
  have hc := h.cp hk hj
  have hz := h.1.frozen (1 + k * 13 + 1 + j)
  have HP2 := Lib.hid (pp_setPe h hk hj b)
  have HB := Lib.hid h.2
  clear h hk hj
  go_enter Try.func45, Try.ntmps45
  go_wp2_with fail
  exact ⟨rfl, .tuple #[], by simp [results, Try.results45, go_sem], rfl, HP2.out, Tn.cell HB.out _ _, by simp [World.setCell]⟩
end
end Pe
end Go.Proofs.Ytlceljcplmcjgaa
