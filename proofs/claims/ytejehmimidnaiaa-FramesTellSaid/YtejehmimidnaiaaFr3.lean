/-
frames: whole, open.
-/
import Derived.Test.YtejehmimidnaiaaFr2
namespace Go.Proofs.Ytejehmimidnaiaa
open Go.RowKit
open Byt
set_option linter.unusedSimpArgs false
set_option linter.unusedVariables false

theorem at_cell {W : World} {b p : Nat} {bs : List Nat} (h : ∀ (i x : Nat), bs[i]? = some x → W.cell? ⟨b, p + i, none⟩ = some (.int .u8 (x : Nat))) (i : Nat) (hi : i < bs.length) : W.cell? ⟨b, p + i, none⟩ = some (.int .u8 (Fr.at' bs i : Nat)) := by
  apply h
  unfold Fr.at'
  rw [List.getD_eq_getElem?_getD, List.getElem?_eq_getElem hi]; rfl
theorem at_lt {bs : List Nat} (h256 : ∀ x ∈ bs, x < 256) (i : Nat) : Fr.at' bs i < 256 := by
  unfold Fr.at'
  rw [List.getD_eq_getElem?_getD]
  cases h : bs[i]? with
  | none => simp
  | some x => exact h256 x (List.mem_of_getElem? h)
theorem wrap_nine (m : Nat) (h : m ≤ 1000000) : wrap64 (wrap64 (4 + (m : Int)) + 5) = ((9 + m : Nat) : Int) := by
  have h1 : wrap64 (4 + (m : Int)) = ((4 + m : Nat) : Int) := by unfold wrap64; omega
  rw [h1]
  unfold wrap64
  omega
theorem or8 (x2 x3 M : Nat) (l2 : x2 < 256) (l3 : x3 < 256) (hM : M = x2 * 256 + x3) : bits .or .i64 ((x2 : Int) * 256) (x3 : Int) = (M : Nat) := by
  subst hM
  have h3 : x2 * 256 + x3 < 9223372036854775808 := by omega
  have h2 : x3 < 2 ^ 8 := l3
  have h := i64_or_plus x2 x3 (x2 * 256) 8 (Nat.mul_comm _ _) h2 h3
  rw [show ((x2 : Int) * 256) = ((x2 * 256 : Nat) : Int) from by simp]
  exact h
theorem or8w (x2 x3 M N : Nat) (l2 : x2 < 256) (l3 : x3 < 256) (hM : M = x2 * 256 + x3) (hN : N = 9 + M) : IntKind.i64.wrap (IntKind.i64.wrap (4 + bits .or .i64 (IntKind.i64.wrap (IntKind.i64.wrap (x2 : Int) * 256)) (IntKind.i64.wrap (x3 : Int))) + 5) = (N : Nat) := by
  have h2 : IntKind.i64.wrap (x2 : Int) = (x2 : Int) := by rw [IntKind.wrap_i64]; omega
  have h2b : IntKind.i64.wrap ((x2 : Int) * 256) = (x2 : Int) * 256 := by rw [IntKind.wrap_i64]; omega
  have h3 : IntKind.i64.wrap (x3 : Int) = (x3 : Int) := by rw [IntKind.wrap_i64]; omega
  have hml : M ≤ 1000000 := by omega
  rw [h2, h2b, h3, or8 x2 x3 M l2 l3 hM]
  rw [hN, IntKind.wrap_i64, IntKind.wrap_i64]
  omega
theorem less_one (N K : Nat) (h : N = K + 1) (hk : K ≤ 100000000) : IntKind.i64.wrap ((N : Int) - 1) = (K : Nat) ∧ wrap64 ((N : Int) - 1) = (K : Nat) := by
  subst h
  refine ⟨by rw [IntKind.wrap_i64]; omega, by unfold wrap64; omega⟩
section
variable (W : World)
set_option maxHeartbeats 2000000 in
set_option maxRecDepth 20000 in
theorem whole_any (A : Option Addr) (n c : Nat) (bs : List Nat) (hn : bs.length = n) (hm : n ≤ 100000000) (hc : n ≤ c) (h : ByR W A bs) (h256 : ∀ x ∈ bs, x < 256) :
    Calls Try.prog 16 #[.slice A n c] W fun e W' => e = .returned (.int .i64 (Fr.whole bs : Nat)) ∧ Below W.heap.size W W' := by
  by_cases h4 : n < 4
  · have hw : Fr.whole bs = 0 := Fr.whole_not (by omega)
    rw [hw]
    have q4 : (n : Int) < 4 := by omega
    clear h h256 hn
    go_enter Try.func16, Try.ntmps16
    go_wp2_with fail
    go_ret
    exact ⟨rfl, Below.refl _ _⟩
  obtain ⟨b, p, rfl, hb, hcell⟩ := h.resolve_left (by rintro rfl; simp at hn; omega)
  have q4 : ¬ (n : Int) < 4 := by omega
  have c0 := at_cell hcell 0 (by omega)
  have c2 := at_cell hcell 2 (by omega)
  have c3 := at_cell hcell 3 (by omega)
  rw [Nat.add_zero] at c0
  have l2 := at_lt h256 2
  have l3 := at_lt h256 3
  by_cases h0 : Fr.at' bs 0 = 90
  case neg =>
    have hw : Fr.whole bs = 0 := by unfold Fr.whole; rw [if_pos (Or.inr h0)]
    rw [hw]
    obtain ⟨x0, hx0⟩ : ∃ x, x = Fr.at' bs 0 := ⟨_, rfl⟩
    rw [← hx0] at c0 h0
    have q0 : ((x0 : Int) == 90) = false := by simpa using by omega
    have q0' : ((x0 : Int) != 90) = true := by simpa using by omega
    clear hw hx0 h0 hcell c2 c3 l2 l3 hn h256
    go_enter Try.func16, Try.ntmps16
    go_wp2_with fail
    go_ret
    exact ⟨rfl, Below.refl _ _⟩
  rw [h0] at c0
  obtain ⟨x2, hx2⟩ : ∃ x, x = Fr.at' bs 2 := ⟨_, rfl⟩
  obtain ⟨x3, hx3⟩ : ∃ x, x = Fr.at' bs 3 := ⟨_, rfl⟩
  rw [← hx2] at c2 l2
  rw [← hx3] at c3 l3
  obtain ⟨M, hM⟩ : ∃ M, M = x2 * 256 + x3 := ⟨_, rfl⟩
  have hML : M ≤ 100000 := by omega
  obtain ⟨N, hN⟩ : ∃ N, N = 9 + M := ⟨_, rfl⟩
  have hwh : Fr.whole bs = if n < N ∨ Fr.at' bs (N - 1) ≠ 165 then 0 else N := by
    unfold Fr.whole
    rw [if_neg (by omega), ← hx2, ← hx3, ← hM, hn, ← hN, show 8 + M = N - 1 by omega]
  have HW := Lib.hid hwh
  have HE := Lib.hid (or8w x2 x3 M N l2 l3 hM hN)
  have HC := Lib.hid hcell
  have HN := Lib.hid hN
  have HL := Lib.hid hn
  clear hwh hcell hN hM hx2 hx3 h0 hn h256
  go_enter Try.func16, Try.ntmps16
  go_upto_region 3 with fail
  have i2 : 2 < n := by omega
  have i3 : 3 < n := by omega
  have i2' : (2 : Int) < (n : Nat) := by omega
  have i3' : (3 : Int) < (n : Nat) := by omega
  refine wp_region_tree (S := (fun w' => w'.cell? ⟨b, p + 2, none⟩ = some (.int .u8 (x2 : Nat)) ∧ w'.cell? ⟨b, p + 3, none⟩ = some (.int .u8 (x3 : Nat)))) (.take 0 (.take 1 (.take 2 (.take 3 (.take 4 (.take 5 (.take 6 (.take 7 (.take 8 (.take 9 (.take 10 (.take 11 (.take 12 .nil))))))))))))) 9999 (by kernel_rfl) (by kernel_rfl) (by kernel_rfl) (by kernel_rfl) (by kernel_rfl) (fun _ _ d _ _ h => by cases d <;> exact h) ⟨c2, c3⟩ (fun hHeld => ?_); simp only [Tree.map, List.getElem?_toArray, List.getElem?_cons_zero, List.getElem?_cons_succ]
  (repeat (first | (refine wpTree.take (v := undef) (Or.inr ⟨by rfl, rfl⟩) ?_; simp only [Act.put, List.setIfInBounds_toArray, List.set_cons_zero, List.set_cons_succ]) | (refine wpTree.take (v := ?_) (Or.inl ⟨by rfl, ?_⟩) ?_; rotate_left; (focus (intro _ hS; (try dsimp only at hS); go_split_ands; (try subst hS); go_simp; (try (with_reducible rfl)); done)); simp only [Act.put, List.setIfInBounds_toArray, List.set_cons_zero, List.set_cons_succ])))
  refine wpTree.done ?_
  rw [HE.out]
  clear hHeld HE c0 c2 c3 i2 i3 i2' i3' l2 l3
  by_cases h5 : n < N
  · have q5 : (n : Int) < (N : Nat) := by omega
    have hw : Fr.whole bs = 0 := by rw [HW.out, if_pos (Or.inl h5)]
    have HW0 := Lib.hid hw
    clear h5 hw
    go_wp2_with fail
    go_ret
    exact ⟨by rw [HW0.out]; rfl, (Below.refl _ _).drew⟩
  have q5 : ¬ (n : Int) < (N : Nat) := by omega
  obtain ⟨K, hK⟩ : ∃ K, N = K + 1 := ⟨N - 1, by have := HN.out; omega⟩
  have hKn : K < n := by omega
  have hKn' : (K : Int) < (n : Nat) := by omega
  have cK := at_cell HC.out K (by have := HL.out; omega)
  have hN1 : N - 1 = K := by rw [hK]; rfl
  have hw := HW.out
  rw [hN1] at hw
  by_cases h6 : Fr.at' bs K = 165
  · rw [if_neg (by rw [not_or]; exact ⟨h5, fun h => h h6⟩)] at hw
    rw [h6] at cK
    have HW0 := Lib.hid hw
    clear hw h6 hN1
    obtain ⟨lK1, lK2⟩ := less_one N K hK (by omega)
    clear hK h5 h4
    go_wp2_with fail
    go_ret
    exact ⟨by rw [HW0.out]; rfl, (Below.refl _ _).drew⟩
  · rw [if_pos (Or.inr h6)] at hw
    have HW0 := Lib.hid hw
    obtain ⟨x, hx⟩ : ∃ x, x = Fr.at' bs K := ⟨_, rfl⟩
    rw [← hx] at cK h6
    have q0 : ((x : Int) == 165) = false := by simpa using by omega
    have q0' : ((x : Int) != 165) = true := by simpa using by omega
    clear hw hx h6 hN1
    obtain ⟨lK1, lK2⟩ := less_one N K hK (by omega)
    clear hK h5 h4
    go_wp2_with fail
    go_ret
    exact ⟨by rw [HW0.out]; rfl, (Below.refl _ _).drew⟩
end
end Go.Proofs.Ytejehmimidnaiaa
