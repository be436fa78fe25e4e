/-
The fixed calls of layer 2: what 'alive' hands back.
-/
import Derived.Test.YtokoeopokhnloaaSums
namespace Go.Proofs.Ytokoeopokhnloaa
open Go.RowKit
attribute [local go_sem] run_store_float

theorem less_fix {a b : Nat} (w : World) (r : Bool) (h : Num.lessB a b = r) (ha : a < 18446744073709551616) (hb : b < 18446744073709551616) :
    Calls Try.prog 15 #[.float .f64 a, .float .f64 b] w fun e w' => e = .returned (.bool r) ∧ w = w' := by
  subst h; exact less_any a b w ha hb
theorem kind_fix {a : Nat} (w : World) (r : Nat) (h : Num.kindN a = r) (ha : a < 18446744073709551616) :
    Calls Try.prog 19 #[.float .f64 a] w fun e w' => e = .returned (.int .i64 (r : Nat)) ∧ w = w' := by
  subst h; exact kind_any a w ha

theorem join_fix {a b : Nat} (w : World) (r : Nat) (h : Num.joinN a b = r) (ha : a < 18446744073709551616) (hb : b < 18446744073709551616) :
    Calls Try.prog 17 #[.float .f64 a, .float .f64 b] w fun e w' => e = .returned (.float .f64 r) ∧ w = w' := by
  subst h; exact join_any a b w ha hb
theorem same_fix {a b : Nat} (w : World) (r : Bool) (h : Num.sameB a b = r) :
    Calls Try.prog 16 #[.float .f64 a, .float .f64 b] w fun e w' => e = .returned (.bool r) ∧ w = w' := by
  subst h; exact same_any a b w
theorem sum_fix {v : Value} (l : List Nat) (w : World) (r : Nat) (h : Num.sumN l = r) (hl : l.length ≤ 2147483648) (hv : Floats w v l) :
    Calls Try.prog 21 #[v] w fun e w' => e = .returned (.float .f64 r) ∧ Below w.heap.size w w' := by
  subst h; exact sum_any v l w hl hv
theorem floats_two (w : World) (x y : Nat) : Floats (w.alloc (.cells #[.float .f64 x, .float .f64 y] 23)) (.slice (some ⟨w.heap.size, 0, none⟩) 2 2) [x, y] := by
  refine ⟨_, 2, rfl, Or.inr ⟨w.heap.size, 0, rfl, by simp, ?_⟩⟩
  intro i hi
  have h2 : i = 0 ∨ i = 1 := by simp at hi; omega
  rcases h2 with rfl | rfl <;> go_simp
theorem neg_inf (w : World) : (Op.unary .neg (.float .f64 9218868437227405312)).run Try.prog w = .ok (.float .f64 18442240474082181120) w := by
  have e : Op.negFloat .f64 9218868437227405312 = 18442240474082181120 := by decide
  simp only [Op.unary, e]; rfl
theorem neg_nan (w : World) : (Op.unary .neg (.float .f64 9221120237041090561)).run Try.prog w = .ok (.float .f64 18444492273895866369) w := by
  have e : Op.negFloat .f64 9221120237041090561 = 18444492273895866369 := by decide
  simp only [Op.unary, e]; rfl

set_option maxHeartbeats 1000000 in
theorem alive_any (w : World) :
    Calls Try.prog 10 #[] w fun e w' => e = .returned (.bool true) ∧ Below w.heap.size w w' := by
  have cf := call_frombits
  have n1 := neg_inf
  have n2 := neg_nan
  have oq : (FloatKind.f64.format.order 4613937818241073152 4613937818241073152 == some .eq) = true := by decide +kernel
  go_enter Try.func10, Try.ntmps10
  go_wp2_with fail
  refine (less_fix _ true (by decide) (by decide) (by decide)).mono ?_; rintro e w' ⟨rfl, rfl⟩
  go_wp2_with fail
  refine (less_fix _ false (by decide) (by decide) (by decide)).mono ?_; rintro e w' ⟨rfl, rfl⟩
  go_wp2_with fail
  refine (less_fix _ true (by decide) (by decide) (by decide)).mono ?_; rintro e w' ⟨rfl, rfl⟩
  go_wp2_with fail
  refine (less_fix _ true (by decide) (by decide) (by decide)).mono ?_; rintro e w' ⟨rfl, rfl⟩
  go_wp2_with fail
  refine (less_fix _ true (by decide) (by decide) (by decide)).mono ?_; rintro e w' ⟨rfl, rfl⟩
  go_wp2_with fail
  refine (join_fix _ 9221120237041090561 (by decide) (by decide) (by decide)).mono ?_; rintro e w' ⟨rfl, rfl⟩
  go_wp2_with fail
  refine (same_fix _ true (by decide)).mono ?_; rintro e w' ⟨rfl, rfl⟩
  go_wp2_with fail
  refine (kind_fix _ 2 (by decide) (by decide)).mono ?_; rintro e w' ⟨rfl, rfl⟩
  go_wp2_with fail
  refine (sum_fix _ _ 4613937818241073152 (by decide +kernel) (by decide) (floats_two _ _ _)).mono ?_; rintro e w1 ⟨rfl, hb1⟩
  have HB1 := Lib.hid (((Below.refl _ _).alloc (Nat.le_refl _) _).trans (hb1.mono (by simp)))
  clear hb1
  go_wp2_with fail
  refine (sum_fix _ _ 9221120237041090561 (by decide +kernel) (by decide) (floats_two _ _ _)).mono ?_; rintro e w2 ⟨rfl, hb2⟩
  have HB2 := Lib.hid (HB1.out.trans ((((Below.refl _ _).alloc (Nat.le_refl _) _).trans (hb2.mono (by simp))).mono HB1.out.size))
  clear hb2
  go_wp2_with fail
  refine (kind_fix _ 0 (by decide) (by decide)).mono ?_; rintro e w' ⟨rfl, rfl⟩
  go_wp2_with fail
  refine (kind_fix _ 3 (by decide) (by decide)).mono ?_; rintro e w' ⟨rfl, rfl⟩
  go_wp2_with fail
  refine (kind_fix _ 1 (by decide) (by decide)).mono ?_; rintro e w' ⟨rfl, rfl⟩
  go_wp2_with fail
  go_ret
  exact ⟨rfl, HB2.out⟩
end Go.Proofs.Ytokoeopokhnloaa
