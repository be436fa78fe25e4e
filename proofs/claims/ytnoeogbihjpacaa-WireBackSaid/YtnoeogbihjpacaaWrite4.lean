/-
wire: the writer's Bytes.
-/
import Derived.Test.YtnoeogbihjpacaaWrite3
namespace Go.Proofs.Ytnoeogbihjpacaa
open Go.RowKit

theorem slice_nil (d : Nat) (A : Option Addr) (n c : Nat) (w : World) : (Op.equalIn (d + 1) 25 (.slice A n c) (.slice none 0 0)).run Try.prog w = .ok A.isNone w := by
  cases A <;> simp [Op.equalIn, run_underlying Try.underlying25]
theorem slice_eq (A : Option Addr) (n c : Nat) (w : World) : (binOp .eql 25 (.slice A n c) (.slice none 0 0)).run Try.prog w = .ok (.bool A.isNone) w := by
  have h : (Op.equal 25 (.slice A n c) (.slice none 0 0)).run Try.prog w = .ok A.isNone w := slice_nil 9999 A n c w
  simp only [binOp]
  simp [h]

theorem clone_nil (W : World) : Calls Try.prog 68 #[.slice none 0 0] W fun e W' => e = .returned (.slice none 0 0) ∧ W = W' := by
  have hq := slice_eq
  go_enter Try.func68, Try.ntmps68
  go_wp2
  go_ret
  exact ⟨rfl, rfl⟩
theorem clone_some (W : World) (a : Addr) (n c : Nat) (bs : List Nat) (hs : Src W (some a) n (u8s bs)) (hn : bs.length = n) (hlen : n ≤ 140737488355328) :
    Calls Try.prog 68 #[.slice (some a) n c] W fun e W' => ∃ v', e = .returned v' ∧ W'.ownsRow W.heap.size 5 1 v' n (u8s bs) ∧ Below W.heap.size W W' := by
  have hq := slice_eq
  have HS1 := Lib.hid (show Src (W.alloc (.cells #[] 5)) (some a) n (u8s bs) from hs.below ((Below.refl _ W).alloc (Nat.le_refl _) _))
  have HO1 := Lib.hid (World.ownsRow_made (base := W.heap.size) (e := 5) (size := 1) W #[] 0 (Nat.le_refl _) (by simp [maxLen]) rfl)
  go_enter Try.func68, Try.ntmps68
  go_wp2_with (first | (refine wpList_append_u8 _ rfl _ _ rfl W.heap.size (.slice (some ⟨W.heap.size, 0, none⟩) 0 0) 0 [] rfl HO1.out (some a) n c (u8s bs) rfl (by rw [u8s_len, hn]) HS1.out (u8s_one bs) (by omega) (by simp) ?_; intro v' W1 hown1 hgrow _hloc))
  go_ret
  refine ⟨v', rfl, ?_, ?_⟩
  · rw [Nat.zero_add, List.nil_append] at hown1
    exact hown1
  · have b1 : Below W.heap.size W (W.alloc (.cells #[] 5)) := (Below.refl _ W).alloc (Nat.le_refl _) _
    exact b1.trans ⟨hgrow.os, hgrow.tape, hgrow.output, hgrow.size, fun k hk => hgrow.block k (by simp; omega) (by simp [Value.ownBlock]; omega)⟩

/-- The writer's Bytes: a copy, in a row of its own. -/
theorem bytes_any (B g : Nat) (bs : List Nat) (W : World) (h : Wtr W B g bs) (hlen : bs.length ≤ 140737488355328) :
    Calls Try.prog 16 #[.pointer (some ⟨g, 0, none⟩)] W fun e W' => ∃ v', e = .returned v' ∧ W'.ownsRow W.heap.size 5 1 v' bs.length (u8s bs) ∧ Below W.heap.size W W' := by
  obtain ⟨hB, v, hv, hown⟩ := h
  have c0 := row_cell hv 0
  have z0 := row_frozen hv 0
  have HC := Lib.hid (show Calls Try.prog 68 #[v] W fun e W' => ∃ v', e = .returned v' ∧ W'.ownsRow W.heap.size 5 1 v' bs.length (u8s bs) ∧ Below W.heap.size W W' by
    obtain ⟨hl, ⟨rfl, h0⟩ | ⟨k, cap, cur, rfl, hk, hh, hnc, hm, hsz, hcs⟩⟩ := id hown
    · have hb0 : bs = [] := List.length_eq_zero_iff.1 h0
      subst hb0
      refine (clone_nil W).mono ?_
      rintro e W' ⟨rfl, rfl⟩
      exact ⟨_, rfl, World.ownsRow_nil _ _ _ _, Below.refl _ _⟩
    · exact clone_some W ⟨k, 0, none⟩ bs.length cap bs (Or.inl ⟨_, rfl, hown.cells rfl⟩) rfl hlen)
  clear hv hown
  go_enter Try.func16, Try.ntmps16
  go_wp2_with (go_at_call 68; refine HC.out.mono ?_; rintro e W1 ⟨v', rfl, ho, hb⟩)
  go_ret
  exact ⟨v', rfl, ho, hb⟩
end Go.Proofs.Ytnoeogbihjpacaa
