/-
tree: what a tree is; Kind, isThere.
-/
import Derived.Test.YtohnhokddbeheaaVec
import Derived.Test.YtohnhokddbeheaaRead6
import Derived.Test.YtohnhokddbeheaaAppNew
import Derived.Test.YtohnhokddbeheaaTurn
import Derived.Test.YtohnhokddbeheaaStore
import Derived.Test.YtohnhokddbeheaaTreeL
import Derived.Test.YtohnhokddbeheaaRows2
import Derived.Test.YtohnhokddbeheaaOff
import Derived.Deep.CutRange
namespace Go.Proofs.Ytohnhokddbeheaa
open Go.RowKit
set_option linter.unusedSimpArgs false
set_option linter.unusedVariables false
namespace Tr
/-- Twelve kinds. -/
def kl (k : Nat → Int) : List Value := (List.range 12).map fun i => .int .i64 (k i)
theorem kl_len (k : Nat → Int) : (kl k).length = 12 := by simp [kl]
theorem kl_get (k : Nat → Int) {i : Nat} (h : i < 12) : (kl k)[i]? = some (.int .i64 (k i)) := by
  unfold kl
  rw [List.getElem?_map, List.getElem?_range h]; rfl
theorem kl_one (k : Nat → Int) : ∀ v ∈ kl k, v.oneCell' = true := by
  intro v hv
  unfold kl at hv
  obtain ⟨i, _, rfl⟩ := List.mem_map.1 hv
  rfl
attribute [irreducible] kl
/-- A tree, as it came in. -/
structure Tv where
  k : Nat → Int
  es : List (Int × Int)
  A : Option Addr
  c : Nat
def Tv.cells (t : Tv) : List Value := kl t.k ++ [.slice t.A t.es.length t.c]
theorem tv_len (t : Tv) : t.cells.length = 13 := by unfold Tv.cells; rw [List.length_append, kl_len]; rfl
theorem tv_get (t : Tv) {i : Nat} (h : i < 12) : t.cells[i]? = some (.int .i64 (t.k i)) := by
  unfold Tv.cells
  rw [List.getElem?_append_left (by rw [kl_len]; exact h), kl_get _ h]
theorem tv_12 (t : Tv) : t.cells[12]? = some (.slice t.A t.es.length t.c) := by
  unfold Tv.cells
  rw [List.getElem?_append_right (by rw [kl_len]; exact Nat.le_refl _), kl_len]; rfl
theorem tv_ones (t : Tv) : ∀ v ∈ t.cells, v.oneCell' = true := by
  intro v hv
  unfold Tv.cells at hv
  rcases List.mem_append.1 hv with h | h
  · exact kl_one _ v h
  · simp at h; subst h; rfl
theorem tvinfo (t : Tv) : (Try.prog.info? 25).map (·.size) = some t.cells.length := by rw [tv_len]; kernel_rfl
theorem tvinfoA (t : Tv) : (Try.prog.info? 25).map (·.size) = some t.cells.toArray.size := by rw [List.size_toArray, tv_len]; kernel_rfl
attribute [irreducible] Tv.cells
def kindV (k : Nat → Int) (n : Int) : Int := if 1 ≤ n ∧ n ≤ 12 then k (n - 1).toNat else 0
def noKindB (x : Int) : Bool := decide (x < 0) || decide (3 < x)
def thereB (k : Nat → Int) (n : Int) : Bool := decide (kindV k n ≠ 0) && !noKindB (kindV k n)
theorem there_in {k : Nat → Int} {n : Int} (h : thereB k n = true) : 1 ≤ n ∧ n ≤ 12 := by
  by_cases h1 : 1 ≤ n ∧ n ≤ 12
  · exact h1
  · exfalso
    unfold thereB at h
    rw [show kindV k n = 0 by unfold kindV; rw [if_neg h1]] at h
    simp at h
section
variable (W : World)
set_option maxRecDepth 20000 in
theorem kind_any (t : Tv) (n : Int) : Calls Try.prog 25 #[.agg t.cells.toArray, .int .i64 n] W fun e W' => e = .returned (.int .i64 (kindV t.k n)) ∧ Below W.heap.size W W' := by
  obtain ⟨w1, hw1⟩ : ∃ w1, w1 = W.alloc (.cells t.cells.toArray 25) := ⟨_, rfl⟩
  have hb1 : Below W.heap.size W w1 := by rw [hw1]; exact (Below.refl _ _).alloc (Nat.le_refl _) _
  have hx : Blk w1 W.heap.size 25 t.cells.toArray := by rw [hw1]; exact Blk.new _ _ _
  have HB := Lib.hid hb1
  by_cases h1 : 1 ≤ n
  · by_cases h2 : n ≤ 12
    · obtain ⟨m, hm⟩ : ∃ m : Nat, m = (n - 1).toNat := ⟨_, rfl⟩
      have e1 : wrap64 (n - 1) = (m : Nat) := by unfold wrap64; omega
      have e2 : ¬ ((m : Nat) : Int) < 0 := by omega
      have e3 : ((m : Nat) : Int) < 12 := by omega
      have e4 : m < 12 := by omega
      have c0 : w1.cell? ⟨W.heap.size, m, none⟩ = some (.int .i64 (t.k m)) := by rw [hx.cell, List.getElem?_toArray]; exact tv_get t e4
      have HK := Lib.hid (show kindV t.k n = t.k m by unfold kindV; rw [if_pos ⟨h1, h2⟩, ← hm])
      have i1 : ¬ n < 1 := by omega
      have i2 : ¬ 12 < n := by omega
      clear h1 h2 hm hx hb1
      go_enter Try.func25, Try.ntmps25
      go_upto_region 1 with fail
      rw [← hw1]
      clear hw1
      go_upto_region 3 with fail
      clear i1 i2
      go_wp2_with fail
      go_ret
      exact ⟨by (rw [HK.out]; try rfl), HB.out⟩
    · have HK := Lib.hid (show kindV t.k n = 0 by unfold kindV; rw [if_neg (fun h => h2 h.2)])
      have i1 : ¬ n < 1 := by omega
      have i2 : 12 < n := by omega
      clear h1 h2 hx hb1
      go_enter Try.func25, Try.ntmps25
      go_upto_region 1 with fail
      rw [← hw1]
      clear hw1
      go_wp2_with fail
      go_ret
      exact ⟨by (rw [HK.out]; try rfl), HB.out⟩
  · have HK := Lib.hid (show kindV t.k n = 0 by unfold kindV; rw [if_neg (fun h => h1 h.1)])
    have i1 : n < 1 := by omega
    clear h1 hx hb1
    go_enter Try.func25, Try.ntmps25
    go_upto_region 1 with fail
    rw [← hw1]
    clear hw1
    go_wp2_with fail
    go_ret
    exact ⟨by (rw [HK.out]; try rfl), HB.out⟩
theorem nokind_any (x : Int) : Calls Try.prog 54 #[.int .i64 x] W fun e W' => e = .returned (.bool (noKindB x)) ∧ W = W' := by
  unfold noKindB
  by_cases h1 : x < 0
  · rw [decide_eq_true h1]
    go_enter Try.func54, Try.ntmps54
    go_wp2_with fail
    go_ret
    exact ⟨rfl, rfl⟩
  · by_cases h2 : 3 < x
    · rw [decide_eq_false h1, decide_eq_true h2]
      go_enter Try.func54, Try.ntmps54
      go_wp2_with fail
      go_ret
      exact ⟨rfl, rfl⟩
    · rw [decide_eq_false h1, decide_eq_false h2]
      go_enter Try.func54, Try.ntmps54
      go_wp2_with fail
      go_ret
      exact ⟨rfl, rfl⟩
set_option maxRecDepth 20000 in
theorem there_any (t : Tv) (n : Int) : Calls Try.prog 52 #[.agg t.cells.toArray, .int .i64 n] W fun e W' => e = .returned (.bool (thereB t.k n)) ∧ Below W.heap.size W W' := by
  obtain ⟨w1, hw1⟩ : ∃ w1, w1 = W.alloc (.cells t.cells.toArray 25) := ⟨_, rfl⟩
  have hb1 : Below W.heap.size W w1 := by rw [hw1]; exact (Below.refl _ _).alloc (Nat.le_refl _) _
  have hx : Blk w1 W.heap.size 25 t.cells.toArray := by rw [hw1]; exact Blk.new _ _ _
  have HB := Lib.hid hb1
  have HKK := Lib.hid (kind_any w1 t n)
  obtain ⟨x, hxk⟩ : ∃ x, x = kindV t.k n := ⟨_, rfl⟩
  rw [← hxk] at HKK
  have hT : thereB t.k n = (decide (x ≠ 0) && !noKindB x) := by unfold thereB; rw [← hxk]
  have HX := Lib.hid hx
  rw [hT]
  clear hxk hb1 hT hx
  go_enter Try.func52, Try.ntmps52
  go_upto_region 1 with fail
  rw [← hw1]
  clear hw1
  go_upto_region 2 with (first | (refine wpList_load_blk rfl 25 _ rfl _ rfl 25 t.cells.toArray _ HX.out Try.underlying25 rfl (tvinfoA t) ?_) | (go_at_call 25; refine HKK.out.mono ?_; rintro e w2 ⟨rfl, hb⟩; have HB2 := Lib.hid (HB.out.trans (hb.mono HB.out.size)); clear hb HKK))
  by_cases h0 : x = 0
  · subst h0
    go_wp2_with (go_at_call 54; refine (nokind_any _ _).mono ?_; rintro e w3 ⟨rfl, rfl⟩)
    go_ret
    exact ⟨by simp, HB2.out⟩
  · have i1 : (x == 0) = false := by simpa using h0
    go_wp2_with (go_at_call 54; refine (nokind_any _ _).mono ?_; rintro e w3 ⟨rfl, rfl⟩)
    go_ret
    exact ⟨by simp [h0], HB2.out⟩
end
end Tr
end Go.Proofs.Ytohnhokddbeheaa
