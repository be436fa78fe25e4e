/-
cuts: the fixed test of each law: what its calls are.
-/
import Derived.Test.YtbnapbjmffajfaaCu21
namespace Go.Proofs.Ytbnapbjmffajfaa
open Go.RowKit
set_option linter.unusedSimpArgs false
set_option linter.unusedVariables false
namespace Cu
def f1 : Nat → Nat := fun i => if i = 0 then 1 else 0
def f2 : Nat → Nat := fun i => if i = 1 then 1 else 0
theorem vl_f1 : (vl f1).toArray = #[.int .u32 1, .int .u32 0, .int .u32 0, .int .u32 0, .int .u32 0, .int .u32 0, .int .u32 0, .int .u32 0, .int .u32 0, .int .u32 0, .int .u32 0, .int .u32 0] := by unfold vl; rfl
theorem vl_f2 : (vl f2).toArray = #[.int .u32 0, .int .u32 1, .int .u32 0, .int .u32 0, .int .u32 0, .int .u32 0, .int .u32 0, .int .u32 0, .int .u32 0, .int .u32 0, .int .u32 0, .int .u32 0] := by unfold vl; rfl
theorem built_f1 : Try.prog.built 33 [(0, .int .u32 1)] = some (vl f1).toArray := by rw [vl_f1]; kernel_rfl
theorem built_f2 : Try.prog.built 33 [(0, .int .u32 0), (1, .int .u32 1)] = some (vl f2).toArray := by rw [vl_f2]; kernel_rfl
theorem prop1 : propE [] Sd.zero ⟨true, 5, f1⟩ = 0 := by decide +kernel
theorem prop2 : propE [⟨1, 5, f1⟩] Sd.zero ⟨true, 6, f1⟩ = 4 := by decide +kernel
theorem won1 : won 1 0 ⟨true, true, 5, f1⟩ Sd.zero = some ⟨1, 5, f1⟩ := rfl
theorem won2 : won 1 2 ⟨true, true, 5, f1⟩ Sd.zero = none := rfl
theorem hear1 : hearE 2 [] Sd.zero 1 ⟨true, 4, f2⟩ = 0 := by decide +kernel
theorem prom1 : promP ⟨true, true, 5, f1⟩ ⟨true, 4, f2⟩ = false := rfl
theorem beats1 : beatsB ⟨2, 4, f2⟩ ⟨1, 5, f1⟩ = true := by decide +kernel
theorem won3 : won 1 2 ⟨true, true, 5, f1⟩ ⟨true, true, 4, f2⟩ = some ⟨2, 4, f2⟩ := by
  have h : winB 1 2 ⟨true, true, 5, f1⟩ ⟨true, true, 4, f2⟩ = ⟨2, 4, f2⟩ := by
    unfold winB
    rw [show winA 1 ⟨true, true, 5, f1⟩ = ⟨1, 5, f1⟩ from rfl]
    rw [beats1]
    rfl
  unfold won
  rw [h]
  rfl
theorem last1 : lastF [⟨2, 4, f2⟩] = f2 := rfl
/-- The bytes of u. -/
theorem enc_u : encT 1 2 [⟨2, 4, f2⟩] Sd.zero Sd.zero = [1, 2, 1, 2, 4, 2, 0, 1, 0, 0] := by
  unfold encT encCt encSd
  decide +kernel
def isTab (o p : Int) : Except Int (Int × Int × List Nat × List Ct × Sd × Sd) → Bool
  | .ok (a, b, [], _) => a == o && b == p
  | _ => false
theorem isTab_out {o p : Int} {P : Except Int (Int × Int × List Nat × List Ct × Sd × Sd)} (h : isTab o p P = true) : ∃ cs a b, P = .ok (o, p, [], cs, a, b) := by
  match P, h with
  | .ok (a, b, [], cs, x, y), h =>
    unfold isTab at h
    simp only [Bool.and_eq_true, beq_iff_eq] at h
    obtain ⟨rfl, rfl⟩ := h
    exact ⟨cs, x, y, rfl⟩
  | .ok (a, b, _ :: _, cs, x, y), h => unfold isTab at h; cases h
  | .error _, h => unfold isTab at h; cases h
theorem tab_u : ∃ cs a b, tableT [1, 2, 1, 2, 4, 2, 0, 1, 0, 0] = .ok (1, 2, [], cs, a, b) := isTab_out (by decide +kernel)
theorem ok_u : (⟨2, 4, f2⟩ : Ct).Ok := by
  refine ⟨by decide, by decide, by decide, fun i => ?_⟩
  show f2 i < 4294967296
  unfold f2
  split <;> decide
theorem ok_zero : Sd.zero.Ok := ⟨by decide, fun i => by show (0 : Nat) < 4294967296; decide⟩
end Cu
end Go.Proofs.Ytbnapbjmffajfaa
