/-
slices.Max of twelve numbers, cmp.Compare, cmp.Or.
-/
import Derived.Test.YtbnapbjmffajfaaCalls4
import Derived.Deep.MidRow
namespace Go.Proofs.Ytbnapbjmffajfaa
open Go.RowKit
set_option linter.unusedSimpArgs false
set_option linter.unusedVariables false

/-- The greatest number of a vector. -/
def maxK (f : Nat → Nat) : Nat → Nat
  | 0 => f 0
  | k + 1 => max (maxK f k) (f (k + 1))
theorem maxK_le (f : Nat → Nat) (M : Nat) : ∀ k, maxK f k ≤ M ↔ ∀ i, i ≤ k → f i ≤ M
  | 0 => ⟨fun h i hi => by obtain rfl : i = 0 := by omega
                           exact h, fun h => h 0 (Nat.le_refl _)⟩
  | k + 1 => by
    unfold maxK
    have ih := maxK_le f M k
    constructor
    · intro h i hi
      by_cases h1 : i = k + 1
      · subst h1; omega
      · exact ih.1 (by omega) i (by omega)
    · intro h
      have h1 := h (k + 1) (Nat.le_refl _)
      have h2 := ih.2 fun i hi => h i (by omega)
      omega
def MaxFar (f : Nat → Nat) (k : Nat) (x : Value) : Prop := x = .int .u32 (maxK f k : Nat)
set_option maxRecDepth 20000 in
set_option maxHeartbeats 1000000 in
theorem max_any (f : Nat → Nat) (b o : Nat) (W : World) (h : W.rangeAt b o (vl f)) :
    Calls Try.prog 33 #[.slice (some ⟨b, o, none⟩) 12 12] W fun e W' => e = .returned (.int .u32 (maxK f 11 : Nat)) ∧ W = W' := by
  have H := Lib.hid h
  have c0 := h 0 _ (vl_get (f := f) (k := 0) (by omega))
  rw [Nat.add_zero] at c0
  clear h
  go_enter Try.func33, Try.ntmps33
  go_wp2_with fail
  go_loop [3, 4] (fun x i => ∃ k : Nat, k ≤ 11 ∧ i = .int .i64 ((k : Int) + 1) ∧ MaxFar f k x) (fun _ i => 12 - (intOf i).toNat)
  case atStart => exact ⟨0, Nat.zero_le _, rfl, rfl⟩
  case round =>
    obtain ⟨k, hk, rfl, hx⟩ := hrel
    unfold MaxFar at hx
    subst hx
    by_cases hlt : k < 11
    · have h1 : (k : Int) + 1 < 12 := by omega
      have h2 : ((k : Int) + 1).toNat = k + 1 := by omega
      have ck := H.out (k + 1) _ (vl_get (f := f) (k := k + 1) (by omega))
      have hm : max (maxK f k : Int) (f (k + 1) : Int) = (maxK f (k + 1) : Nat) := by show _ = ((max (maxK f k) (f (k + 1)) : Nat) : Int); omega
      have HM := Lib.hid hm
      clear hm c0
      go_wp2_with fail
      go_round
      case rel => exact ⟨k + 1, by omega, by go_num, by unfold MaxFar; rw [← HM.out]⟩
      case measure => simp [intOf]; omega
    · obtain rfl : k = 11 := by omega
      clear c0 hlt
      go_wp2_with fail
      go_ret
      exact ⟨rfl, rfl⟩
/-- How two numbers stand. -/
def cmpI (a b : Int) : Int := if a < b then -1 else if b < a then 1 else 0
theorem nan64_any (x : Int) (W : World) : Calls Try.prog 54 #[.int .u64 x] W fun e W' => e = .returned (.bool false) ∧ W = W' := by
  go_enter Try.func54, Try.ntmps54
  go_wp2_with fail
  go_ret
  exact ⟨by simp, rfl⟩
theorem nani_any (x : Int) (W : World) : Calls Try.prog 55 #[.int .i64 x] W fun e W' => e = .returned (.bool false) ∧ W = W' := by
  go_enter Try.func55, Try.ntmps55
  go_wp2_with fail
  go_ret
  exact ⟨by simp, rfl⟩
theorem cmp64_any (x y : Int) (W : World) : Calls Try.prog 45 #[.int .u64 x, .int .u64 y] W fun e W' => e = .returned (.int .i64 (cmpI x y)) ∧ W = W' := by
  by_cases h1 : x < y
  · have H := Lib.hid (show cmpI x y = -1 from if_pos h1)
    have h2 : ¬ y < x := by omega
    have e1 : decide (x < y) = true := by simp; omega
    have e2 : decide (y < x) = false := by simp; omega
    have e3 : decide (x > y) = false := e2
    clear h1 h2
    go_enter Try.func45, Try.ntmps45
    go_wp2_with (go_at_call 54; refine (nan64_any _ _).mono ?_; rintro e W1 ⟨rfl, rfl⟩)
    go_ret
    exact ⟨by rw [H.out]; rfl, rfl⟩
  · by_cases h2 : y < x
    · have H := Lib.hid (show cmpI x y = 1 from (if_neg h1).trans (if_pos h2))
      have e1 : decide (x < y) = false := by simp; omega
      have e2 : decide (y < x) = true := by simp; omega
      have e3 : decide (x > y) = true := e2
      clear h1 h2
      go_enter Try.func45, Try.ntmps45
      go_wp2_with (go_at_call 54; refine (nan64_any _ _).mono ?_; rintro e W1 ⟨rfl, rfl⟩)
      go_ret
      exact ⟨by rw [H.out]; rfl, rfl⟩
    · have H := Lib.hid (show cmpI x y = 0 from (if_neg h1).trans (if_neg h2))
      have e1 : decide (x < y) = false := by simp; omega
      have e2 : decide (y < x) = false := by simp; omega
      have e3 : decide (x > y) = false := e2
      clear h1 h2
      go_enter Try.func45, Try.ntmps45
      go_wp2_with (go_at_call 54; refine (nan64_any _ _).mono ?_; rintro e W1 ⟨rfl, rfl⟩)
      go_ret
      exact ⟨by rw [H.out]; rfl, rfl⟩
theorem cmpi_any (x y : Int) (W : World) : Calls Try.prog 46 #[.int .i64 x, .int .i64 y] W fun e W' => e = .returned (.int .i64 (cmpI x y)) ∧ W = W' := by
  by_cases h1 : x < y
  · have H := Lib.hid (show cmpI x y = -1 from if_pos h1)
    have h2 : ¬ y < x := by omega
    have e1 : decide (x < y) = true := by simp; omega
    have e2 : decide (y < x) = false := by simp; omega
    have e3 : decide (x > y) = false := e2
    clear h1 h2
    go_enter Try.func46, Try.ntmps46
    go_wp2_with (go_at_call 55; refine (nani_any _ _).mono ?_; rintro e W1 ⟨rfl, rfl⟩)
    go_ret
    exact ⟨by rw [H.out]; rfl, rfl⟩
  · by_cases h2 : y < x
    · have H := Lib.hid (show cmpI x y = 1 from (if_neg h1).trans (if_pos h2))
      have e1 : decide (x < y) = false := by simp; omega
      have e2 : decide (y < x) = true := by simp; omega
      have e3 : decide (x > y) = true := e2
      clear h1 h2
      go_enter Try.func46, Try.ntmps46
      go_wp2_with (go_at_call 55; refine (nani_any _ _).mono ?_; rintro e W1 ⟨rfl, rfl⟩)
      go_ret
      exact ⟨by rw [H.out]; rfl, rfl⟩
    · have H := Lib.hid (show cmpI x y = 0 from (if_neg h1).trans (if_neg h2))
      have e1 : decide (x < y) = false := by simp; omega
      have e2 : decide (y < x) = false := by simp; omega
      have e3 : decide (x > y) = false := e2
      clear h1 h2
      go_enter Try.func46, Try.ntmps46
      go_wp2_with (go_at_call 55; refine (nani_any _ _).mono ?_; rintro e W1 ⟨rfl, rfl⟩)
      go_ret
      exact ⟨by rw [H.out]; rfl, rfl⟩
/-- The first of some numbers that is no nought. -/
def orK (v : Nat → Int) : Nat → Nat → Int
  | 0, _ => 0
  | n + 1, k => if v k = 0 then orK v n (k + 1) else v k
set_option maxRecDepth 20000 in
set_option maxHeartbeats 1000000 in
theorem or_any (v : Nat → Int) (N b o c : Nat) (W : World) (h : ∀ i, i < N → W.cell? ⟨b, o + i, none⟩ = some (.int .i64 (v i))) (hN : N ≤ 100) :
    Calls Try.prog 44 #[.slice (some ⟨b, o, none⟩) N c] W fun e W' => e = .returned (.int .i64 (orK v N 0)) ∧ W = W' := by
  have H := Lib.hid h
  clear h
  go_enter Try.func44, Try.ntmps44
  go_wp2_with fail
  go_loop [8] (fun i => ∃ k : Nat, k ≤ N ∧ i = .int .i64 (k : Int) ∧ Hid (orK v N 0 = orK v (N - k) k)) (fun i => N - (intOf i).toNat)
  case atStart => exact ⟨0, Nat.zero_le _, rfl, Lib.hid rfl⟩
  case round =>
    obtain ⟨k, hk, rfl, hx⟩ := hrel
    by_cases hlt : k < N
    · have h2 : (k : Int).toNat = k := by omega
      have ck := H.out k hlt
      have h3 : orK v (N - k) k = if v k = 0 then orK v (N - (k + 1)) (k + 1) else v k := by
        rw [show N - k = (N - (k + 1)) + 1 by omega]; rfl
      by_cases hz : v k = 0
      · have hy := Lib.hid (hx.out.trans (h3.trans (if_pos hz)))
        rw [hz] at ck
        clear hx h3 hz
        go_wp2_with fail
        go_round
        case rel => exact ⟨k + 1, by omega, by go_num, hy⟩
        case measure => simp [intOf]; omega
      · have hy := Lib.hid (hx.out.trans (h3.trans (if_neg hz)))
        obtain ⟨z, hvz⟩ : ∃ z, z = v k := ⟨_, rfl⟩
        rw [← hvz] at ck hz hy
        have n1 : (z != 0) = true := by simpa using hz
        have n2 : (z == 0) = false := by simpa using hz
        clear hx h3 hvz
        go_wp2_with fail
        go_ret
        exact ⟨by rw [hy.out]; rfl, rfl⟩
    · obtain rfl : k = N := by omega
      clear hlt
      go_wp2_with fail
      go_ret
      exact ⟨by rw [hx.out, Nat.sub_self]; rfl, rfl⟩
end Go.Proofs.Ytbnapbjmffajfaa
