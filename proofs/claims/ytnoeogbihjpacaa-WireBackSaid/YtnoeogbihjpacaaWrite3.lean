/-
wire: the writer's Int, Text.
-/
import Derived.Test.YtnoeogbihjpacaaWrite2
namespace Go.Proofs.Ytnoeogbihjpacaa
open Go.RowKit

/-- A whole number as the number that is written. -/
def zig (i : Int) : Nat := if i < 0 then (2 * (-(i + 1)) + 1).toNat else (2 * i).toNat

theorem wint_any (B g : Nat) (i : Int) (bs : List Nat) (W : World) (h : Wtr W B g bs) (h1 : -9223372036854775808 ≤ i) (h2 : i ≤ 9223372036854775807) (hlen : bs.length + 10 ≤ 140737488355328) :
    Calls Try.prog 21 #[.pointer (some ⟨g, 0, none⟩), .int .i64 i] W fun e W' => e = .returned (.pointer (some ⟨g, 0, none⟩)) ∧ Wtr W' B g (bs ++ enc (zig i)) ∧ Wrote B g W W' := by
  by_cases hi : i < 0
  · obtain ⟨z, hz⟩ : ∃ z : Nat, (z : Int) = 2 * (-(i + 1)) + 1 := ⟨(2 * (-(i + 1)) + 1).toNat, by omega⟩
    have hz' : zig i = z := by unfold zig; rw [if_pos hi]; omega
    have hlt : z < 18446744073709551616 := by omega
    have HN := Lib.hid (wnum_any B g z bs W h hlt hlen)
    rw [hz']
    have e1 : IntKind.i64.wrap (i + 1) = i + 1 := by rw [IntKind.wrap_i64]; omega
    have e2 : IntKind.i64.wrap (-(i + 1)) = -(i + 1) := by rw [IntKind.wrap_i64]; omega
    have e3 : IntKind.u64.wrap (-(i + 1)) = -(i + 1) := by rw [IntKind.wrap_u64]; omega
    have e4 : IntKind.u64.wrap (2 * (-(i + 1))) = 2 * (-(i + 1)) := by rw [IntKind.wrap_u64]; omega
    have e5 : IntKind.u64.wrap (2 * (-(i + 1)) + 1) = (z : Int) := by rw [IntKind.wrap_u64]; omega
    clear h h1 h2 hz hz' hlt hlen
    go_enter Try.func21, Try.ntmps21
    go_wp2_with (go_at_call 19; refine HN.out.mono ?_; rintro e w2 ⟨rfl, hW2, hO2⟩)
    go_ret
    exact ⟨rfl, hW2, hO2⟩
  · obtain ⟨z, hz⟩ : ∃ z : Nat, (z : Int) = 2 * i := ⟨(2 * i).toNat, by omega⟩
    have hz' : zig i = z := by unfold zig; rw [if_neg hi]; omega
    have hlt : z < 18446744073709551616 := by omega
    have HN := Lib.hid (wnum_any B g z bs W h hlt hlen)
    rw [hz']
    have e3 : IntKind.u64.wrap i = i := by rw [IntKind.wrap_u64]; omega
    have e4 : IntKind.u64.wrap (2 * i) = (z : Int) := by rw [IntKind.wrap_u64]; omega
    clear h h1 h2 hz hz' hlt hlen
    go_enter Try.func21, Try.ntmps21
    go_wp2_with (go_at_call 19; refine HN.out.mono ?_; rintro e w2 ⟨rfl, hW2, hO2⟩)
    go_ret
    exact ⟨rfl, hW2, hO2⟩

theorem enc_len (n : Nat) (hn : n < 18446744073709551616) : (enc n).length ≤ 10 := by
  have h : ∀ (k m : Nat), m < 128 ^ k → (encHi m).length ≤ k := by
    intro k
    induction k with
    | zero => intro m hm; obtain rfl : m = 0 := by simpa using hm
              rw [encHi_zero]; simp
    | succ k ih =>
      intro m hm
      by_cases h0 : m = 0
      · subst h0; rw [encHi_zero]; simp
      · rw [encHi_step (by omega), List.length_append]
        have := ih (m / 128) (Nat.div_lt_of_lt_mul (by rw [Nat.mul_comm, ← Nat.pow_succ]; exact hm))
        simp; omega
  have := h 9 (n / 128) (by omega)
  unfold enc
  simp; omega

theorem wtext_any (B g m c : Nat) (A : Option Addr) (bs cs : List Nat) (W : World) (h : Wtr W B g bs) (hm : cs.length = m) (hlen : bs.length + m + 10 ≤ 140737488355328)
    (hkeep : ∀ W', Wrote B g W W' → Src W' A m (u8s cs)) :
    Calls Try.prog 23 #[.pointer (some ⟨g, 0, none⟩), .slice A m c] W fun e W' => e = .returned (.pointer (some ⟨g, 0, none⟩)) ∧ Wtr W' B g (bs ++ enc m ++ cs) ∧ Wrote B g W W' := by
  have hmlt : m < 18446744073709551616 := by omega
  have hel := enc_len m hmlt
  have HN := Lib.hid (wnum_any B g m bs W h hmlt (by omega))
  have e3 : IntKind.u64.wrap (m : Int) = (m : Int) := by rw [IntKind.wrap_u64]; omega
  have HP := Lib.hid (fun (W1 : World) (hW : Wtr W1 B g (bs ++ enc m)) (hO : Wrote B g W W1) => put_any B g m c A (bs ++ enc m) cs W1 hW (hkeep W1 hO) hm (by rw [List.length_append]; omega))
  clear h hm hlen hmlt hel hkeep
  go_enter Try.func23, Try.ntmps23
  go_wp2_with (first | (go_at_call 19; refine HN.out.mono ?_; rintro e w2 ⟨rfl, hW2, hO2⟩; have HP2 := Lib.hid (HP.out w2 hW2 hO2); clear HP hW2) | (go_at_call 71; refine HP2.out.mono ?_; rintro e w3 ⟨rfl, hW3, hO3⟩))
  go_ret
  exact ⟨rfl, hW3, hO2.trans hO3⟩
end Go.Proofs.Ytnoeogbihjpacaa
