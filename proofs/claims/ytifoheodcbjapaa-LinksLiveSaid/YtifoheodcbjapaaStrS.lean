/-
Strings of bytes, for seats that lack frames. It speaks of any program.
-/
import Derived.Test.YtifoheodcbjapaaBytes
import Derived.Laws.Strings
import Derived.Laws.Strings2
import Derived.Laws.Concat
import Derived.Laws.IdiomStrings
namespace Go.Proofs.Ytifoheodcbjapaa
namespace Sx
open Go.RowKit
open Byt
set_option linter.unusedSimpArgs false
set_option linter.unusedVariables false

theorem bstr_app (a b : List Nat) : bstr a ++ bstr b = bstr (a ++ b) := by
  rw [bstr_lit, bstr_lit, bstr_lit, List.map_append]
  exact ByteArray.mk_append_mk _ _
theorem str_slice (w : World) (bs : List Nat) (i j : Nat) (hi : i ≤ j) (hj : j ≤ bs.length) : (Instr.slice 9 (.string (bstr bs)) (some (.int .i64 (i : Int))) (some (.int .i64 (j : Int))) none).run Try.prog w = .ok (.string (bstr ((bs.take j).drop i))) w := by
  rw [run_slice_string (P := Try.prog) w 9 _ .i64 .i64 i j Try.underlying9 (by omega) (by omega) (by rw [bstr_size]; omega)]
  congr 2
  rw [bstr_lit, bstr_lit, Int.toNat_natCast, Int.toNat_natCast, ByteArray.extract_mk]
  congr 2
  rw [List.map_drop, List.map_take, List.drop_take]
theorem str_add (w : World) (a b : List Nat) (ha : a.length ≤ 8000000) (hb : b.length ≤ 8000000) : (Op.stringOp .add (bstr a) (bstr b)).run Try.prog w = .ok (.string (bstr (a ++ b))) w := by
  rw [run_string_add_sum (P := Try.prog) w _ _ (by rw [bstr_size, bstr_size]; omega), bstr_app]
theorem toList_beq (a b : List Nat) (ha : ∀ x ∈ a, x < 256) (hb : ∀ x ∈ b, x < 256) : ((bstr a).toList == (bstr b).toList) = decide (a = b) := by
  by_cases h : a = b
  · subst h; rw [decide_eq_true rfl]; exact beq_self_eq_true _
  · rw [decide_eq_false h, beq_eq_false_iff_ne]
    intro e
    rw [bstr_lit, bstr_lit, ByteArray.toList_mk, ByteArray.toList_mk] at e
    exact h (bstr_inj ha hb (by rw [bstr_lit, bstr_lit, e]))
theorem str_neq (w : World) (a b : List Nat) (ha : ∀ x ∈ a, x < 256) (hb : ∀ x ∈ b, x < 256) : (binOp .neq 9 (.string (bstr a)) (.string (bstr b))).run Try.prog w = .ok (.bool (!decide (a = b))) w := by
  rw [binOp_string_neq, toList_beq a b ha hb]
  rfl
theorem str_eql (w : World) (a b : List Nat) (ha : ∀ x ∈ a, x < 256) (hb : ∀ x ∈ b, x < 256) : (binOp .eql 9 (.string (bstr a)) (.string (bstr b))).run Try.prog w = .ok (.bool (decide (a = b))) w := by
  rw [binOp_string_eql, toList_beq a b ha hb]
  rfl
/-- What a string's bytes are laid in. -/
def capS (bs : List Nat) (w : World) : Nat := grownCap w (bstr bs).size 0 5
def objS (bs : List Nat) (w : World) : Obj := .cells (bytesRow (bstr bs) (capS bs w)) 5 ((bytesRow (bstr bs) (capS bs w)).size, (bytesRow (bstr bs) (capS bs w)).size + 1)
theorem str_bytes (w : World) (bs : List Nat) (n : Nat) (hn : bs.length = n) : (convert 9 38 (.string (bstr bs))).run Try.prog w = .ok (.slice (some ⟨w.heap.size, 0, none⟩) n (capS bs w)) (w.drew.alloc (objS bs w)) := by
  rw [run_bytes_of_string (P := Try.prog) w 9 38 5 (bstr bs) Try.underlying9 Try.underlying38 Try.underlying5]
  rw [← hn, ← bstr_size bs]
  rfl
theorem objS_byr (w : World) (bs : List Nat) (h256 : ∀ x ∈ bs, x < 256) : ByR (w.drew.alloc (objS bs w)) (some ⟨w.heap.size, 0, none⟩) bs := by
  refine Or.inr ⟨w.heap.size, 0, rfl, by simp, fun i x hx => ?_⟩
  unfold objS
  have hh := heap_alloc_new w.drew (Obj.cells (bytesRow (bstr bs) (capS bs w)) 5 ((bytesRow (bstr bs) (capS bs w)).size, (bytesRow (bstr bs) (capS bs w)).size + 1))
  rw [Nat.zero_add, cell_of_row _ w.heap.size _ _ _ _ hh]
  unfold bytesRow
  have hi := (List.getElem?_eq_some_iff.1 hx).1
  have h2 := h256 x (List.mem_of_getElem? hx)
  rw [bstr_lit, Array.getElem?_append_left (by simpa using hi)]
  simp [hx]
  omega
end Sx
end Go.Proofs.Ytifoheodcbjapaa
