/-
tree: is something so of one of a row; mayHang.
-/
import Derived.Test.YtohnhokddbeheaaTr11
namespace Go.Proofs.Ytohnhokddbeheaa
open Go.RowKit
set_option linter.unusedSimpArgs false
set_option linter.unusedVariables false
namespace Tr
def anyB (n : Nat) (k : Nat → Int) (q : Int → Bool) : Bool := (List.range n).any fun i => q (k i)
theorem any_yes {n : Nat} {k : Nat → Int} {q : Int → Bool} {i : Nat} (h : i < n) (hq : q (k i) = true) : anyB n k q = true := by
  unfold anyB
  exact List.any_eq_true.2 ⟨i, List.mem_range.2 h, hq⟩
theorem any_no {n : Nat} {k : Nat → Int} {q : Int → Bool} (h : ∀ i, i < n → q (k i) = false) : anyB n k q = false := by
  unfold anyB
  cases h2 : (List.range n).any fun i => q (k i) with
  | false => rfl
  | true =>
    obtain ⟨i, hi, hq⟩ := List.any_eq_true.1 h2
    rw [h i (List.mem_range.1 hi)] at hq
    cases hq
section
variable (W : World)
set_option maxRecDepth 20000 in
set_option maxHeartbeats 4000000 in
theorem index_any (g : FuncId) (cb : Array Value) (A : Option Addr) (n cp : Nat) (k : Nat → Int) (q : Int → Bool) (hn : n ≤ 1000000) (eg : ∀ args w, (callFunc g args).run Try.prog w = .ok (.enter g args) w)
    (hc : ∀ i, i < n → ∃ b o, A = some ⟨b, o, none⟩ ∧ W.cell? ⟨b, o + i, none⟩ = some (.int .i64 (k i)))
    (hf : ∀ w, Below W.heap.size W w → ∀ i : Nat, i < n → Calls Try.prog g (#[.int .i64 (k i)] ++ cb) w fun e w' => e = .returned (.bool (q (k i))) ∧ Below w.heap.size w w') :
    Calls Try.prog 71 #[.slice A n cp, .func (.func g) #[] cb] W fun e W' => ∃ r : Int, e = .returned (.int .i64 r) ∧ ((r = -1 ∧ anyB n k q = false) ∨ (0 ≤ r ∧ anyB n k q = true)) ∧ Below W.heap.size W W' := by
  have HF := Lib.hid hf
  have HC := Lib.hid hc
  have HN := Lib.hid hn
  clear hf hc hn
  go_enter Try.func71, Try.ntmps71
  go_upto_region 2 with fail
  go_loopw [8] (fun i wr => ∃ j : Nat, j ≤ n ∧ i = .int .i64 j ∧ (∀ m, m < j → q (k m) = false) ∧ Below W.heap.size W wr) (fun i _ => n - (intOf i).toNat)
  case atStart => exact ⟨0, Nat.zero_le _, rfl, fun m h => absurd h (by omega), Below.refl _ _⟩
  case round =>
    obtain ⟨j, hj, rfl, hq, hb⟩ := hrel
    have HQ := Lib.hid hq
    have HB := Lib.hid hb
    by_cases hlt : j < n
    · have i1 : (j : Int) < (n : Nat) := by omega
      have i2 : ¬ (j : Int) < 0 := by omega
      obtain ⟨jj, hjj⟩ : ∃ jj, jj = j + 1 := ⟨_, rfl⟩
      have HW := Lib.hid (wrap_n j jj hjj (by have := HN.out; omega))
      have HJ := Lib.hid (And.intro hjj hlt)
      obtain ⟨b, o, rfl, c0⟩ := HC.out j hlt
      have c1 := cell_next hb c0
      have hcall := HF.out wr hb j hlt
      clear hj hq hb hlt hjj c0
      cases hp : q (k j) with
      | true =>
        rw [hp] at hcall
        have HP := Lib.hid hp
        clear hp
        go_wp2_with (refine hcall.mono ?_; rintro e w2 ⟨rfl, hb2⟩; have HB2 := Lib.hid (HB.out.trans (hb2.mono HB.out.size)); clear hb2 hcall)
        go_ret
        exact ⟨_, rfl, Or.inr ⟨by omega, any_yes HJ.out.2 HP.out⟩, HB2.out⟩
      | false =>
        rw [hp] at hcall
        have HP := Lib.hid hp
        clear hp
        go_wp2_with (refine hcall.mono ?_; rintro e w2 ⟨rfl, hb2⟩; have HB2 := Lib.hid (HB.out.trans (hb2.mono HB.out.size)); clear hb2 hcall)
        rw [HW.out]
        go_roundw
        case rel => exact ⟨jj, by have := HJ.out; omega, rfl, fun m hm => by
          by_cases h : m = j
          · rw [h]; exact HP.out
          · exact HQ.out m (by have := HJ.out; omega), HB2.out⟩
        case measure => have := HJ.out; simp [intOf]; omega
    · have i1 : ¬ (j : Int) < (n : Nat) := by omega
      have hjn : j = n := by omega
      clear hj hq hb hlt
      go_wp2_with fail
      go_ret
      exact ⟨_, rfl, Or.inl ⟨rfl, any_no fun i hi => HQ.out i (by omega)⟩, HB.out⟩
theorem contains_any (g : FuncId) (cb : Array Value) (A : Option Addr) (n cp : Nat) (k : Nat → Int) (q : Int → Bool) (hn : n ≤ 1000000) (eg : ∀ args w, (callFunc g args).run Try.prog w = .ok (.enter g args) w)
    (hc : ∀ i, i < n → ∃ b o, A = some ⟨b, o, none⟩ ∧ W.cell? ⟨b, o + i, none⟩ = some (.int .i64 (k i)))
    (hf : ∀ w, Below W.heap.size W w → ∀ i : Nat, i < n → Calls Try.prog g (#[.int .i64 (k i)] ++ cb) w fun e w' => e = .returned (.bool (q (k i))) ∧ Below w.heap.size w w') :
    Calls Try.prog 53 #[.slice A n cp, .func (.func g) #[] cb] W fun e W' => e = .returned (.bool (anyB n k q)) ∧ Below W.heap.size W W' := by
  have HI := Lib.hid (index_any W g cb A n cp k q hn eg hc hf)
  obtain ⟨ab, hab⟩ : ∃ ab, ab = anyB n k q := ⟨_, rfl⟩
  rw [← hab] at HI ⊢
  clear hab hn eg hc hf
  go_enter Try.func53, Try.ntmps53
  go_wp2_with (go_at_call 71; refine HI.out.mono ?_; rintro e w2 ⟨r, rfl, hr, hb⟩; have HB := Lib.hid hb; have HR := Lib.hid hr; clear hb hr HI)
  go_ret
  refine ⟨?_, HB.out⟩
  rcases HR.out with ⟨rfl, rfl⟩ | ⟨h, rfl⟩
  · rfl
  · simp [h]
end
end Tr
end Go.Proofs.Ytohnhokddbeheaa
