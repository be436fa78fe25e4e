/-
wire: the writer's calls on nil: nothing is written, nil comes back.
-/
import Derived.Test.YtnoeogbihjpacaaWrite4
namespace Go.Proofs.Ytnoeogbihjpacaa
open Go.RowKit

set_option maxHeartbeats 1000000 in
theorem wnum_nil (n : Nat) (W : World) (hn : n < 18446744073709551616) :
    Calls Try.prog 19 #[.pointer none, .int .u64 (n : Nat)] W fun e W' => e = .returned (.pointer none) ∧ Below W.heap.size W W' := by
  have e1 : IntKind.u8.wrap ((n : Int) % 128) = (n : Int) % 128 := by rw [IntKind.wrap_u8]; omega
  have e2 : IntKind.u64.wrap ((n : Int) / 128) = (n : Int) / 128 := by rw [IntKind.wrap_u64]; omega
  have HN := Lib.hid hn
  clear hn
  go_enter Try.func19, Try.ntmps19
  go_wp2_with fail
  go_loopw [1, 6] (fun nv av wr => ∃ (cur a : Nat) (ds : List Nat), nv = .int .u64 (cur : Nat) ∧ av = .int .i64 (a : Nat) ∧ Hid (a ≤ 9 ∧ cur < 128 ^ a ∧ encHi cur ++ ds = enc n) ∧ Dig wr W.heap.size a ds ∧ Below W.heap.size W wr) (fun nv _ _ => (intOf nv).toNat)
  case atStart =>
    refine ⟨n / 128, 9, [n % 128], by go_num, rfl, Lib.hid ⟨Nat.le_refl _, ?_, ?_⟩, ⟨_, heap_alloc_new W _, rfl, rfl, ?_⟩, (Below.refl _ W).alloc (Nat.le_refl _) _⟩
    · have := HN.out; omega
    · unfold enc; rfl
    · intro i x hi
      cases i with
      | zero => simp at hi; subst hi; rfl
      | succ i => simp at hi
  case round =>
    obtain ⟨cur, a, ds, rfl, rfl, HP, HD, HB⟩ := hrel
    by_cases hc : 0 < cur
    · have hc' : (0 : Int) < (cur : Int) := by omega
      obtain ⟨b, rfl⟩ : ∃ b, a = b + 1 := by
        have h1 := HP.out.2.1
        cases a with
        | zero => simp at h1; omega
        | succ b => exact ⟨b, rfl⟩
      have hb9 := HP.out.1
      have hb10 : b < 10 := by omega
      have hbi : (b : Int) < 10 := by omega
      obtain ⟨u, hu⟩ := HD.cell hb10
      have hz := HD.frozen b
      have e3 : IntKind.i64.wrap ((b : Int) + 1 - 1) = (b : Int) := by rw [IntKind.wrap_i64]; omega
      have e4 : IntKind.u8.wrap ((cur : Int) % 128) = (cur : Int) % 128 := by rw [IntKind.wrap_u8]; omega
      have hcur : cur < 18446744073709551616 := by
        have h1 := HP.out.2.1
        have h2 : 128 ^ (b + 1) ≤ 128 ^ 9 := Nat.pow_le_pow_right (by omega) (by omega)
        omega
      have e5 : IntKind.u64.wrap ((cur : Int) / 128) = ((cur / 128 : Nat) : Int) := by rw [IntKind.wrap_u64]; omega
      have e6 : bits .or .u8 ((cur : Int) % 128) 128 = ((cur % 128 + 128 : Nat) : Int) := by rw [u8_or128_right _ (by omega) (by omega)]; omega
      have HC := Lib.hid hc
      have H5 := Lib.hid e5
      have H6 := Lib.hid e6
      have HB10 := Lib.hid hb10
      clear hc hb9 e1 e2 hcur e5 e6
      go_wp2_with fail
      rw [H5.out, H6.out]
      have hpow : cur / 128 < 128 ^ b := by
        have h1 := HP.out.2.1
        rw [Nat.pow_succ] at h1
        exact Nat.div_lt_of_lt_mul (by rw [Nat.mul_comm]; exact h1)
      refine ⟨⟨cur / 128, b, (cur % 128 + 128) :: ds, rfl, rfl, Lib.hid ⟨by omega, hpow, ?_⟩, HD.put HB10.out _, HB.setCell (Nat.le_refl _) _⟩, ?_⟩
      · rw [← HP.out.2.2, encHi_step HC.out, List.append_assoc]; rfl
      · have := HC.out
        simp [intOf]; omega
    · obtain rfl : cur = 0 := by omega
      have ha := HP.out.1
      have ha2 : (a : Int) ≤ 10 := by omega
      have ha3 : ¬ 10 = a := by omega
      have HBelow := Lib.hid HB
      clear HD ha hc e1 e2 HB
      go_wp2_with (go_at_call 71; refine (put_nil _ _).mono ?_; rintro e w2 ⟨rfl, rfl⟩)
      go_ret
      exact ⟨rfl, HBelow.out⟩

theorem wint_nil (i : Int) (W : World) (h1 : -9223372036854775808 ≤ i) (h2 : i ≤ 9223372036854775807) :
    Calls Try.prog 21 #[.pointer none, .int .i64 i] W fun e W' => e = .returned (.pointer none) ∧ Below W.heap.size W W' := by
  by_cases hi : i < 0
  · obtain ⟨z, hz⟩ : ∃ z : Nat, (z : Int) = 2 * (-(i + 1)) + 1 := ⟨(2 * (-(i + 1)) + 1).toNat, by omega⟩
    have HN := Lib.hid (wnum_nil z W (by omega))
    have e1 : IntKind.i64.wrap (i + 1) = i + 1 := by rw [IntKind.wrap_i64]; omega
    have e2 : IntKind.i64.wrap (-(i + 1)) = -(i + 1) := by rw [IntKind.wrap_i64]; omega
    have e3 : IntKind.u64.wrap (-(i + 1)) = -(i + 1) := by rw [IntKind.wrap_u64]; omega
    have e4 : IntKind.u64.wrap (2 * (-(i + 1))) = 2 * (-(i + 1)) := by rw [IntKind.wrap_u64]; omega
    have e5 : IntKind.u64.wrap (2 * (-(i + 1)) + 1) = (z : Int) := by rw [IntKind.wrap_u64]; omega
    clear h1 h2 hz
    go_enter Try.func21, Try.ntmps21
    go_wp2_with (go_at_call 19; refine HN.out.mono ?_; rintro e w2 ⟨rfl, hO2⟩)
    go_ret
    exact ⟨rfl, hO2⟩
  · obtain ⟨z, hz⟩ : ∃ z : Nat, (z : Int) = 2 * i := ⟨(2 * i).toNat, by omega⟩
    have HN := Lib.hid (wnum_nil z W (by omega))
    have e3 : IntKind.u64.wrap i = i := by rw [IntKind.wrap_u64]; omega
    have e4 : IntKind.u64.wrap (2 * i) = (z : Int) := by rw [IntKind.wrap_u64]; omega
    clear h1 h2 hz
    go_enter Try.func21, Try.ntmps21
    go_wp2_with (go_at_call 19; refine HN.out.mono ?_; rintro e w2 ⟨rfl, hO2⟩)
    go_ret
    exact ⟨rfl, hO2⟩
theorem wtext_nil (m c : Nat) (A : Option Addr) (W : World) (hm : m < 9223372036854775808) :
    Calls Try.prog 23 #[.pointer none, .slice A m c] W fun e W' => e = .returned (.pointer none) ∧ Below W.heap.size W W' := by
  have HN := Lib.hid (wnum_nil m W (by omega))
  have e3 : IntKind.u64.wrap (m : Int) = (m : Int) := by rw [IntKind.wrap_u64]; omega
  clear hm
  go_enter Try.func23, Try.ntmps23
  go_wp2_with (first | (go_at_call 19; refine HN.out.mono ?_; rintro e w2 ⟨rfl, hO2⟩) | (go_at_call 71; refine (put_nil _ _).mono ?_; rintro e w3 ⟨rfl, rfl⟩))
  go_ret
  exact ⟨rfl, hO2⟩
theorem bytes_nil (W : World) : Calls Try.prog 16 #[.pointer none] W fun e W' => e = .returned (.slice none 0 0) ∧ W = W' := by
  go_enter Try.func16, Try.ntmps16
  go_wp2
  go_ret
  exact ⟨rfl, rfl⟩
end Go.Proofs.Ytnoeogbihjpacaa
