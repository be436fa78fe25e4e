/-
Labels: their cells; Dot, Past, Before, isNext.
cmp.Compare, cmp.Or; Less.
label.Less.
-/
import Derived.Test.YtgnfachjobohoaaOpens
import Derived.Test.YtgnfachjobohoaaCalls4
namespace Go.Proofs.Ytgnfachjobohoaa
open Go.RowKit

/-- A label. -/
structure Lab where
  (t : Nat)
  (nd : Int)
  (n : Nat)
  (ca se : Int)
  (f : Nat → Nat)
def Lab.cells (l : Lab) : List Value := [.int .u64 (l.t : Nat), .int .i64 l.nd, .int .u32 (l.n : Nat), .int .i64 l.ca, .int .i64 l.se] ++ vl l.f
section
variable {l : Lab}
theorem lab_0 : l.cells[0]? = some (.int .u64 (l.t : Nat)) := rfl
theorem lab_1 : l.cells[1]? = some (.int .i64 l.nd) := rfl
theorem lab_2 : l.cells[2]? = some (.int .u32 (l.n : Nat)) := rfl
theorem lab_3 : l.cells[3]? = some (.int .i64 l.ca) := rfl
theorem lab_4 : l.cells[4]? = some (.int .i64 l.se) := rfl
theorem lab_5 (j : Nat) : l.cells[5 + j]? = (vl l.f)[j]? := by
  unfold Lab.cells; rw [List.getElem?_append_right (by simp)]; simp
theorem lab_len : l.cells.length = 17 := by unfold Lab.cells; rw [List.length_append, vl_len]; rfl
end
attribute [irreducible] Lab.cells
theorem linfo (l : Lab) : (Try.prog.info? 59).map (·.size) = some l.cells.length := by rw [lab_len]; kernel_rfl
theorem linfoA (l : Lab) : (Try.prog.info? 59).map (·.size) = some l.cells.toArray.size := by rw [List.size_toArray, lab_len]; kernel_rfl
/-- A box that holds a label. -/
theorem lab_all {W : World} {b : Nat} {t : TypeId} {l : Lab} (h : Blk W b t l.cells.toArray) : W.rangeAt b 0 ((l).cells) ∧ W.rangeAt b 5 (vl (l).f) ∧ W.cell? ⟨b, 0, none⟩ = some (.int .u64 ((l).t : Nat)) ∧ W.cell? ⟨b, 1, none⟩ = some (.int .i64 (l).nd) ∧ W.cell? ⟨b, 2, none⟩ = some (.int .u32 ((l).n : Nat)) ∧ W.cell? ⟨b, 3, none⟩ = some (.int .i64 (l).ca) ∧ W.cell? ⟨b, 4, none⟩ = some (.int .i64 (l).se) := by
  have hc : ∀ i, W.cell? ⟨b, i, none⟩ = l.cells[i]? := fun i => by rw [h.cell, List.getElem?_toArray]
  refine ⟨h.range, fun j v hv => ?_, (hc 0).trans lab_0, (hc 1).trans lab_1, (hc 2).trans lab_2, (hc 3).trans lab_3, (hc 4).trans lab_4⟩
  rw [hc, lab_5, hv]

/-- May a label's dot be the next one? -/
def nextB (l : Lab) : Bool := nodeB l.nd && decide (getN l.f l.nd < 1048576) && decide (l.n = getN l.f l.nd + 1)
attribute [irreducible] nextB

/-- The greatest number of a vector. -/
def maxK (f : Nat → Nat) : Nat → Nat
  | 0 => f 0
  | k + 1 => max (maxK f k) (f (k + 1))
theorem maxK_le (f : Nat → Nat) (M : Nat) : ∀ k, maxK f k ≤ M ↔ ∀ i, i ≤ k → f i ≤ M
  | 0 => ⟨fun h i hi => by obtain rfl : i = 0 := by omega
                           exact h, fun h => h 0 (Nat.le_refl _)⟩
  | k + 1 => by
    unfold maxK
    have ih := maxK_le f M k
    constructor
    · intro h i hi
      by_cases h1 : i = k + 1
      · subst h1; omega
      · exact ih.1 (by omega) i (by omega)
    · intro h
      have h1 := h (k + 1) (Nat.le_refl _)
      have h2 := ih.2 fun i hi => h i (by omega)
      omega
def MaxFar (f : Nat → Nat) (k : Nat) (x : Value) : Prop := x = .int .u32 (maxK f k : Nat)
set_option maxRecDepth 20000 in
set_option maxHeartbeats 1000000 in
theorem max_any (f : Nat → Nat) (b o : Nat) (W : World) (h : W.rangeAt b o (vl f)) :
    Calls Try.prog 23 #[.slice (some ⟨b, o, none⟩) 12 12] W fun e W' => e = .returned (.int .u32 (maxK f 11 : Nat)) ∧ W = W' := by
  have H := Lib.hid h
  have c0 := h 0 _ (vl_get (f := f) (k := 0) (by omega))
  rw [Nat.add_zero] at c0
  clear h
  go_enter Try.func23, Try.ntmps23
  go_wp2_with fail
  go_loop [3, 4] (fun x i => ∃ k : Nat, k ≤ 11 ∧ i = .int .i64 ((k : Int) + 1) ∧ MaxFar f k x) (fun _ i => 12 - (intOf i).toNat)
  case atStart => exact ⟨0, Nat.zero_le _, rfl, rfl⟩
  case round =>
    obtain ⟨k, hk, rfl, hx⟩ := hrel
    unfold MaxFar at hx
    subst hx
    by_cases hlt : k < 11
    · have h1 : (k : Int) + 1 < 12 := by omega
      have h2 : ((k : Int) + 1).toNat = k + 1 := by omega
      have ck := H.out (k + 1) _ (vl_get (f := f) (k := k + 1) (by omega))
      have hm : max (maxK f k : Int) (f (k + 1) : Int) = (maxK f (k + 1) : Nat) := by show _ = ((max (maxK f k) (f (k + 1)) : Nat) : Int); omega
      have HM := Lib.hid hm
      clear hm c0
      go_wp2_with fail
      go_round
      case rel => exact ⟨k + 1, by omega, by go_num, by unfold MaxFar; rw [← HM.out]⟩
      case measure => simp [intOf]; omega
    · obtain rfl : k = 11 := by omega
      clear c0 hlt
      go_wp2_with fail
      go_ret
      exact ⟨rfl, rfl⟩
end Go.Proofs.Ytgnfachjobohoaa
namespace Go.Proofs.Ytgnfachjobohoaa
open Go.RowKit

/-- How two numbers stand. -/
def cmpI (a b : Int) : Int := if a < b then -1 else if b < a then 1 else 0
/-- The first of four numbers that is no nought. -/
def orK (v : Nat → Int) : Nat → Nat → Int
  | 0, _ => 0
  | n + 1, k => if v k = 0 then orK v n (k + 1) else v k
theorem vs_get {v : Nat → Int} : ∀ {k : Nat}, k < 4 → [Value.int .i64 (v 0), .int .i64 (v 1), .int .i64 (v 2), .int .i64 (v 3)][k]? = some (.int .i64 (v k))
  | 0, _ => rfl
  | 1, _ => rfl
  | 2, _ => rfl
  | 3, _ => rfl
end Go.Proofs.Ytgnfachjobohoaa
namespace Go.Proofs.Ytgnfachjobohoaa
open Go.RowKit

/-- How two labels stand, by one part after the other. -/
def cmpV (a b : Lab) : Nat → Int
  | 0 => cmpI (a.t : Nat) (b.t : Nat)
  | 1 => cmpI a.nd b.nd
  | 2 => cmpI a.ca b.ca
  | _ => cmpI (a.n : Nat) (b.n : Nat)
def lessB (a b : Lab) : Bool := decide (orK (cmpV a b) 4 0 < 0)

end Go.Proofs.Ytgnfachjobohoaa
