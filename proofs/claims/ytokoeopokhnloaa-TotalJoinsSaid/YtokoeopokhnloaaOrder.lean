/-
TotalOrder holds: for every three words, of any two floats that are not the same just one is less, the order goes on, a float comes back from its key, and where both are neither NaN nor nought the order is Go's own. No condition.
-/
import Derived.Test.YtokoeopokhnloaaAlive
import Derived.Test.YtokoeopokhnloaaLaw
namespace Go.Proofs.Ytokoeopokhnloaa
open Go.ChangeShapes Go.WideShapes Go.ChangeAt Go.RowKit

theorem laid_out : laidOutB Try.prog = true := by kernel_rfl
theorem own_knob : ownKnob Try.prog.godebug = none := by kernel_rfl

namespace Num
theorem tri {a b : Nat} (ha : a < 18446744073709551616) (hb : b < 18446744073709551616) :
    (lessB a b = true ∧ lessB b a = false ∧ sameB a b = false) ∨ (lessB a b = false ∧ lessB b a = true ∧ sameB a b = false) ∨ (lessB a b = false ∧ lessB b a = false ∧ sameB a b = true) := by
  have h := key_inj ha hb
  have h' : a = b → key a = key b := fun e => by rw [e]
  unfold lessB sameB
  simp only [decide_eq_true_eq, decide_eq_false_iff_not]
  rcases Nat.lt_trichotomy (key a) (key b) with h1 | h1 | h1
  · exact Or.inl ⟨h1, by omega, fun e => by have := h' e; omega⟩
  · exact Or.inr (Or.inr ⟨by omega, by omega, h h1⟩)
  · exact Or.inr (Or.inl ⟨by omega, h1, fun e => by have := h' e; omega⟩)
theorem irr (a : Nat) : lessB a a = false := by unfold lessB; simp
theorem trans {a b c : Nat} (h1 : lessB a b = true) (h2 : lessB b c = true) : lessB a c = true := by
  unfold lessB at *; simp only [decide_eq_true_eq] at *; omega
theorem back {a : Nat} (ha : a < 18446744073709551616) : sameB (unkey (key a)) a = true := by
  unfold sameB; rw [unkey_key ha]; simp
end Num

theorem fb_any (b : Nat) (w : World) : (callFunc 8 #[.int .u64 (b : Nat)]).run Try.prog w = .ok (.value (.float .f64 b)) w := by
  rw [call_frombits, Int.toNat_natCast]

set_option maxHeartbeats 1000000 in
theorem order_walk (a b c : Nat) (ha : a < 18446744073709551616) (hb : b < 18446744073709551616) (hc : c < 18446744073709551616) (w : World) :
    Calls Try.prog 5 #[.int .u64 a, .int .u64 b, .int .u64 c] w fun e w' => e = .returned (.bool true) ∧ Below w.heap.size w w' := by
  have cf := fb_any
  have aa := Num.irr a
  have bk := Num.back ha
  have hka := Num.key_lt ha
  have hord := fun h1 h2 => Num.order_key ha hb h1 h2
  have hkinds : ((((Num.kindN a : Nat) : Int) % 2 == 1) = true ∧ (((Num.kindN b : Nat) : Int) % 2 == 1) = true ∧ (FloatKind.f64.format.order a b == some .lt) = Num.lessB a b) ∨
      ((((Num.kindN a : Nat) : Int) % 2 == 1) = true ∧ (((Num.kindN b : Nat) : Int) % 2 == 1) = false ∧ True) ∨ ((((Num.kindN a : Nat) : Int) % 2 == 1) = false ∧ True ∧ True) := by
    by_cases ka : Num.kindN a % 2 = 1
    · by_cases kb : Num.kindN b % 2 = 1
      · exact Or.inl ⟨by rw [beq_iff_eq]; omega, by rw [beq_iff_eq]; omega, hord ka kb⟩
      · exact Or.inr (Or.inl ⟨by rw [beq_iff_eq]; omega, by rw [beq_eq_false_iff_ne]; omega, trivial⟩)
    · exact Or.inr (Or.inr ⟨by rw [beq_eq_false_iff_ne]; omega, trivial, trivial⟩)
  clear hord
  have htr : Num.lessB a b = true → (Num.lessB b c = true ∧ Num.lessB a c = true) ∨ (Num.lessB b c = false ∧ True) := by
    intro h
    cases h' : Num.lessB b c
    · exact Or.inr ⟨rfl, trivial⟩
    · exact Or.inl ⟨rfl, Num.trans h h'⟩
  have htri := Num.tri ha hb
  rcases htri with ⟨f1, f2, f3⟩ | ⟨f1, f2, f3⟩ | ⟨f1, f2, f3⟩
  · rw [f1] at hkinds
    rcases htr f1 with ⟨f4, f5⟩ | ⟨f4, f5⟩
    all_goals
      clear htr
      rcases hkinds with ⟨k1, k2, k3⟩ | ⟨k1, k2, k3⟩ | ⟨k1, k2, k3⟩
    all_goals
      go_enter Try.func5, Try.ntmps5
      go_wp2_with (first | (go_at_call 15; refine (less_any _ _ _ (by assumption) (by assumption)).mono ?_; rintro e w' ⟨rfl, rfl⟩) | (go_at_call 16; refine (same_any _ _ _).mono ?_; rintro e w' ⟨rfl, rfl⟩) | (go_at_call 11; refine (key_any _ _ (by assumption)).mono ?_; rintro e w' ⟨rfl, rfl⟩) | (go_at_call 13; refine (of_any _ _ (by assumption)).mono ?_; rintro e w' ⟨rfl, rfl⟩) | (go_at_call 12; refine (eqbits_any _ _ _).mono ?_; rintro e w' ⟨rfl, rfl⟩) | (go_at_call 19; refine (kind_any _ _ (by assumption)).mono ?_; rintro e w' ⟨rfl, rfl⟩) | (go_at_call 10; refine (alive_any _).mono ?_; rintro e w' ⟨rfl, hbel⟩))
      go_ret
      exact ⟨rfl, hbel⟩
  all_goals
    rw [f1] at hkinds
    clear htr
    rcases hkinds with ⟨k1, k2, k3⟩ | ⟨k1, k2, k3⟩ | ⟨k1, k2, k3⟩
  all_goals
    go_enter Try.func5, Try.ntmps5
    go_wp2_with (first | (go_at_call 15; refine (less_any _ _ _ (by assumption) (by assumption)).mono ?_; rintro e w' ⟨rfl, rfl⟩) | (go_at_call 16; refine (same_any _ _ _).mono ?_; rintro e w' ⟨rfl, rfl⟩) | (go_at_call 11; refine (key_any _ _ (by assumption)).mono ?_; rintro e w' ⟨rfl, rfl⟩) | (go_at_call 13; refine (of_any _ _ (by assumption)).mono ?_; rintro e w' ⟨rfl, rfl⟩) | (go_at_call 12; refine (eqbits_any _ _ _).mono ?_; rintro e w' ⟨rfl, rfl⟩) | (go_at_call 19; refine (kind_any _ _ (by assumption)).mono ?_; rintro e w' ⟨rfl, rfl⟩) | (go_at_call 10; refine (alive_any _).mono ?_; rintro e w' ⟨rfl, hbel⟩))
    go_ret
    exact ⟨rfl, hbel⟩

theorem bound_u64 {a : Int} (h : (Lit.int .u64 a).wf = true) : ∃ n : Nat, a = (n : Nat) ∧ n < 18446744073709551616 := by
  have := bounds_u64 h
  exact ⟨a.toNat, by omega, by omega⟩

set_option maxRecDepth 100000 in
theorem order_lifted (os : Os) (started : os.Started) (H : Type) (enc : TypeId × Value → H) :
    ReturnsInHanded {} Try.checked os 5 .any (Rows.totalOrderSpec.pre6 enc Try.prog Try.f5 Rows.totalOrderRow.domain false) (Rows.totalOrderSpec.post enc Try.prog Try.f5 false true false false) := by
  refine law_lift (C := Try.checked) own_knob started (by kernel_rfl) Try.func5 rfl Try.underlying4 laid_out (by kernel_rfl) rfl ?_
    (ChangeSpec.witness6 (enc := enc) (C := Try.checked) false ⟨#[], #[.int .u64 0, .int .u64 0, .int .u64 0], []⟩ 8 (by kernel_rfl) (by kernel_rfl) (by kernel_rfl) (by kernel_rfl)) ?_
  · intro ds hds
    match ds, hds with
    | [_, _, _], _ => rfl
  intro W base args ds ps hval hA hlt hsz
  rw [Try.params5] at hA hval
  obtain ⟨v0, vs0, d0, ds0, p0, q0, hargs, rfl, rfl, h0, r0⟩ := trodAll_cons hA
  obtain ⟨v1, vs1, d1, ds1, p1, q1, rfl, rfl, rfl, h1, r1⟩ := trodAll_cons r0
  obtain ⟨v2, vs2, d2, ds2, p2, q2, rfl, rfl, rfl, h2, r2⟩ := trodAll_cons r1
  obtain ⟨rfl, rfl, rfl⟩ := trodAll_nil r2
  obtain rfl : args = #[v0, v1, v2] := by cases args; simp_all
  obtain ⟨a0, rfl, rfl, rfl, w0⟩ := open_int Try.underlying22 (hval 0 22 v0 rfl rfl) h0
  obtain ⟨a1, rfl, rfl, rfl, w1⟩ := open_int Try.underlying22 (hval 1 22 v1 rfl rfl) h1
  obtain ⟨a2, rfl, rfl, rfl, w2⟩ := open_int Try.underlying22 (hval 2 22 v2 rfl rfl) h2
  obtain ⟨n0, rfl, b0⟩ := bound_u64 w0
  obtain ⟨n1, rfl, b1⟩ := bound_u64 w1
  obtain ⟨n2, rfl, b2⟩ := bound_u64 w2
  exact order_walk n0 n1 n2 b0 b1 b2 W

theorem order_holds : Rows.TotalOrderSaid :=
  OpenClaim.holds_of_wide 5 Try.f5 rfl rfl rfl rfl rfl rfl rfl ⟨rfl, rfl, rfl, rfl, rfl⟩ rfl rfl rfl rfl rfl (by kernel_rfl) Try.func5 (by kernel_rfl)
    (of_decide_eq_true (by kernel_rfl)) (by unfold Func.isWrapper; first | (rw [if_pos (by decide +kernel)]; kernel_rfl) | (rw [if_neg (by decide +kernel)]; exact ⟨rfl, rfl⟩))
    (fun os started H enc _ => order_lifted os started H enc)
end Go.Proofs.Ytokoeopokhnloaa
