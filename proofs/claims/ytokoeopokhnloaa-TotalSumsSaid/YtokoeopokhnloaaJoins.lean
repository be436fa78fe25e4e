/-
TotalJoins holds: for every three words, the join of two floats is one of both, not less than either, the same whichever comes first, and however three are joined; of a float and itself it is that. No condition.
-/
import Derived.Test.YtokoeopokhnloaaOrder
namespace Go.Proofs.Ytokoeopokhnloaa
open Go.ChangeShapes Go.WideShapes Go.ChangeAt Go.RowKit
namespace Num
theorem join_lt {a b : Nat} (ha : a < 18446744073709551616) (hb : b < 18446744073709551616) : joinN a b < 18446744073709551616 := by unfold joinN; split <;> assumption
theorem join_key (a b : Nat) : key (joinN a b) = max (key a) (key b) := by unfold joinN; split <;> omega
theorem join_left (a b : Nat) : lessB (joinN a b) a = false := by unfold lessB; rw [join_key]; simp; omega
theorem join_right (a b : Nat) : lessB (joinN a b) b = false := by unfold lessB; rw [join_key]; simp; omega
theorem same_of_key {a b : Nat} (ha : a < 18446744073709551616) (hb : b < 18446744073709551616) (h : key a = key b) : sameB a b = true := by
  unfold sameB; rw [key_inj ha hb h]; simp
theorem join_one (a b : Nat) : (sameB (joinN a b) a = true ∧ True) ∨ (sameB (joinN a b) a = false ∧ sameB (joinN a b) b = true) := by
  by_cases h : joinN a b = a
  · exact Or.inl ⟨by unfold sameB; simpa using h, trivial⟩
  · refine Or.inr ⟨by unfold sameB; simpa using h, ?_⟩
    have : joinN a b = b := by unfold joinN at *; split at h <;> simp_all
    unfold sameB; simpa using this
end Num
set_option maxHeartbeats 1000000 in
theorem joins_walk (a b c : Nat) (ha : a < 18446744073709551616) (hb : b < 18446744073709551616) (hc : c < 18446744073709551616) (w : World) :
    Calls Try.prog 6 #[.int .u64 a, .int .u64 b, .int .u64 c] w fun e w' => e = .returned (.bool true) ∧ Below w.heap.size w w' := by
  have cf := fb_any
  have j1 := Num.join_lt ha hb
  have j2 := Num.join_lt hb ha
  have j3 := Num.join_lt hb hc
  have j4 := Num.join_lt ha ha
  have j5 := Num.join_lt j1 hc
  have j6 := Num.join_lt ha j3
  have l1 := Num.join_left a b
  have l2 := Num.join_right a b
  have s1 : Num.sameB (Num.joinN a b) (Num.joinN b a) = true := Num.same_of_key j1 j2 (by rw [Num.join_key, Num.join_key]; omega)
  have s2 : Num.sameB (Num.joinN a a) a = true := Num.same_of_key j4 ha (by rw [Num.join_key]; omega)
  have s3 : Num.sameB (Num.joinN (Num.joinN a b) c) (Num.joinN a (Num.joinN b c)) = true := Num.same_of_key j5 j6 (by simp only [Num.join_key]; omega)
  rcases Num.join_one a b with ⟨f1, f2⟩ | ⟨f1, f2⟩
  all_goals
    go_enter Try.func6, Try.ntmps6
    go_wp2_with (first | (go_at_call 15; refine (less_any _ _ _ (by assumption) (by assumption)).mono ?_; rintro e w' ⟨rfl, rfl⟩) | (go_at_call 17; refine (join_any _ _ _ (by assumption) (by assumption)).mono ?_; rintro e w' ⟨rfl, rfl⟩) | (go_at_call 12; refine (eqbits_any _ _ _).mono ?_; rintro e w' ⟨rfl, rfl⟩) | (go_at_call 10; refine (alive_any _).mono ?_; rintro e w' ⟨rfl, hbel⟩))
    go_ret
    exact ⟨rfl, hbel⟩

set_option maxRecDepth 100000 in
theorem joins_lifted (os : Os) (started : os.Started) (H : Type) (enc : TypeId × Value → H) :
    ReturnsInHanded {} Try.checked os 6 .any (Rows.totalJoinsSpec.pre6 enc Try.prog Try.f6 Rows.totalJoinsRow.domain false) (Rows.totalJoinsSpec.post enc Try.prog Try.f6 false true false false) := by
  refine law_lift (C := Try.checked) own_knob started (by kernel_rfl) Try.func6 rfl Try.underlying4 laid_out (by kernel_rfl) rfl ?_
    (ChangeSpec.witness6 (enc := enc) (C := Try.checked) false ⟨#[], #[.int .u64 0, .int .u64 0, .int .u64 0], []⟩ 8 (by kernel_rfl) (by kernel_rfl) (by kernel_rfl) (by kernel_rfl)) ?_
  · intro ds hds
    match ds, hds with
    | [_, _, _], _ => rfl
  intro W base args ds ps hval hA hlt hsz
  rw [Try.params6] at hA hval
  obtain ⟨v0, vs0, d0, ds0, p0, q0, hargs, rfl, rfl, h0, r0⟩ := trodAll_cons hA
  obtain ⟨v1, vs1, d1, ds1, p1, q1, rfl, rfl, rfl, h1, r1⟩ := trodAll_cons r0
  obtain ⟨v2, vs2, d2, ds2, p2, q2, rfl, rfl, rfl, h2, r2⟩ := trodAll_cons r1
  obtain ⟨rfl, rfl, rfl⟩ := trodAll_nil r2
  obtain rfl : args = #[v0, v1, v2] := by cases args; simp_all
  obtain ⟨a0, rfl, rfl, rfl, w0⟩ := open_int Try.underlying22 (hval 0 22 v0 rfl rfl) h0
  obtain ⟨a1, rfl, rfl, rfl, w1⟩ := open_int Try.underlying22 (hval 1 22 v1 rfl rfl) h1
  obtain ⟨a2, rfl, rfl, rfl, w2⟩ := open_int Try.underlying22 (hval 2 22 v2 rfl rfl) h2
  obtain ⟨n0, rfl, b0⟩ := bound_u64 w0
  obtain ⟨n1, rfl, b1⟩ := bound_u64 w1
  obtain ⟨n2, rfl, b2⟩ := bound_u64 w2
  exact joins_walk n0 n1 n2 b0 b1 b2 W

theorem joins_holds : Rows.TotalJoinsSaid :=
  OpenClaim.holds_of_wide 6 Try.f6 rfl rfl rfl rfl rfl rfl rfl ⟨rfl, rfl, rfl, rfl, rfl⟩ rfl rfl rfl rfl rfl (by kernel_rfl) Try.func6 (by kernel_rfl)
    (of_decide_eq_true (by kernel_rfl)) (by unfold Func.isWrapper; first | (rw [if_pos (by decide +kernel)]; kernel_rfl) | (rw [if_neg (by decide +kernel)]; exact ⟨rfl, rfl⟩))
    (fun os started H enc _ => joins_lifted os started H enc)
end Go.Proofs.Ytokoeopokhnloaa
