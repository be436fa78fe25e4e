/-
packet: Same of equal packets; Great; Read in two cases.
-/
import Derived.Test.YtifoheodcbjapaaPk2
namespace Go.Proofs.Ytifoheodcbjapaa
open Go.RowKit
set_option linter.unusedSimpArgs false
set_option linter.unusedVariables false
namespace Pk
section
variable (W : World)
set_option maxRecDepth 20000 in
set_option maxHeartbeats 4000000 in
theorem same_yes (p : Pt) (A B : Option Addr) (c d : Nat) (h1 : (Pc.mk p A c).Ok W) (h2 : (Pc.mk p B d).Ok W) : Calls Try.prog 24 #[.agg (Pc.mk p A c).cells.toArray, .agg (Pc.mk p B d).cells.toArray] W fun e W' => e = .returned (.bool true) ∧ Below W.heap.size W W' := by
  obtain ⟨w1, hw1⟩ : ∃ w1, w1 = (W.alloc (.cells (Pc.mk p A c).cells.toArray 40)).alloc (.cells (Pc.mk p B d).cells.toArray 40) := ⟨_, rfl⟩
  have hb0 : Below W.heap.size W (W.alloc (.cells (Pc.mk p A c).cells.toArray 40)) := (Below.refl _ _).alloc (Nat.le_refl _) _
  have hb1 : Below W.heap.size W w1 := by rw [hw1]; exact hb0.alloc hb0.size _
  have hx : Blk w1 W.heap.size 40 (Pc.mk p A c).cells.toArray := by rw [hw1]; exact (Blk.new W _ _).next ((Below.refl _ _).alloc (Nat.le_refl _) _)
  have hy : Blk w1 (W.heap.size + 1) 40 (Pc.mk p B d).cells.toArray := by
    rw [hw1]
    have := Blk.new (W.alloc (.cells (Pc.mk p A c).cells.toArray 40)) 40 (Pc.mk p B d).cells.toArray
    rwa [show (W.alloc (.cells (Pc.mk p A c).cells.toArray 40)).heap.size = W.heap.size + 1 by simp] at this
  have c0 : w1.cell? ⟨W.heap.size, 0, none⟩ = some (.bool p.k) := hx.cell 0
  have c1 : w1.cell? ⟨W.heap.size, 1, none⟩ = some (.int .i64 p.f) := hx.cell 1
  have c2 : w1.cell? ⟨W.heap.size, 2, none⟩ = some (.int .i64 p.t) := hx.cell 2
  have c3 : w1.cell? ⟨W.heap.size, 3, none⟩ = some (.int .u64 (p.q : Nat)) := hx.cell 3
  have c4 : w1.cell? ⟨W.heap.size, 4, none⟩ = some (.slice A p.bs.length c) := hx.cell 4
  have d0 : w1.cell? ⟨W.heap.size + 1, 0, none⟩ = some (.bool p.k) := hy.cell 0
  have d1 : w1.cell? ⟨W.heap.size + 1, 1, none⟩ = some (.int .i64 p.f) := hy.cell 1
  have d2 : w1.cell? ⟨W.heap.size + 1, 2, none⟩ = some (.int .i64 p.t) := hy.cell 2
  have d3 : w1.cell? ⟨W.heap.size + 1, 3, none⟩ = some (.int .u64 (p.q : Nat)) := hy.cell 3
  have d4 : w1.cell? ⟨W.heap.size + 1, 4, none⟩ = some (.slice B p.bs.length d) := hy.cell 4
  have he := equal_any w1 A B p.bs.length p.bs.length c d p.bs p.bs rfl rfl (h1.next hb1).rd h1.hA (h2.next hb1).rd h2.hA h1.h256 h2.h256
  rw [decide_eq_true rfl] at he
  have HE := Lib.hid he
  have HB := Lib.hid hb1
  unfold Pc.cells at hw1 ⊢
  dsimp only at hw1 ⊢
  obtain ⟨k, hk⟩ : ∃ k, k = p.k := ⟨_, rfl⟩
  obtain ⟨f, hf⟩ : ∃ k, k = p.f := ⟨_, rfl⟩
  obtain ⟨t, ht⟩ : ∃ k, k = p.t := ⟨_, rfl⟩
  obtain ⟨q, hq⟩ : ∃ k, k = p.q := ⟨_, rfl⟩
  obtain ⟨n, hn⟩ : ∃ k, k = p.bs.length := ⟨_, rfl⟩
  rw [← hk] at c0 d0 hw1 ⊢
  rw [← hf] at c1 d1 hw1 ⊢
  rw [← ht] at c2 d2 hw1 ⊢
  rw [← hq] at c3 d3 hw1 ⊢
  rw [← hn] at c4 d4 hw1 HE ⊢
  have HW := Lib.hid hw1
  clear hw1 hb0 hb1 hx hy h1 h2 hk hf ht hq hn he
  go_enter Try.func24, Try.ntmps24
  go_upto_region 1 with fail
  rw [← HW.out]
  have kk : (k == k) = true := by cases k <;> rfl
  go_wp2_with (first | (go_at_call 54; refine HE.out.mono ?_; rintro e w2 ⟨rfl, rfl⟩))
  go_ret
  exact ⟨rfl, HB.out⟩
end
theorem great_any (W : World) (x : Pc) : Calls Try.prog 25 #[.agg x.cells.toArray] W fun e W' => e = .returned (.bool (decide ((1810 : Int) < (x.p.bs.length : Nat)))) ∧ Below W.heap.size W W' := by
  unfold Pc.cells
  obtain ⟨n, hn⟩ : ∃ k, k = x.p.bs.length := ⟨_, rfl⟩
  rw [← hn]
  clear hn
  go_enter Try.func25, Try.ntmps25
  go_wp2_with fail
  go_ret
  exact ⟨rfl, (Below.refl _ _).alloc (Nat.le_refl _) _⟩
end Pk
end Go.Proofs.Ytifoheodcbjapaa
