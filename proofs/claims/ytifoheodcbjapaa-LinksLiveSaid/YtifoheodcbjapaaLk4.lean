/-
link: a search; what Acked asks of each text.
-/
import Derived.Test.YtifoheodcbjapaaLk3
import Derived.Deep.LoopGhost
namespace Go.Proofs.Ytifoheodcbjapaa
open Go.RowKit
set_option linter.unusedSimpArgs false
set_option linter.unusedVariables false
namespace Lk
theorem srch_wraps {T H lo hi : Nat} (hT : T = lo + hi) (hH : H = (lo + hi) / 2) (h : T ≤ 2000000) : IntKind.i64.wrap ((lo : Int) + (hi : Nat)) = (T : Nat) ∧ wrap64 ((lo : Int) + (hi : Nat)) = (T : Nat) ∧ IntKind.u64.wrap (T : Int) = (T : Nat) ∧ wrap64 ((T : Int) / 2) = (H : Nat) ∧
    IntKind.i64.wrap ((H : Int) + 1) = ((H + 1 : Nat) : Int) ∧ wrap64 ((H : Int) + 1) = ((H + 1 : Nat) : Int) := by
  rw [IntKind.wrap_i64, IntKind.wrap_u64, IntKind.wrap_i64]
  unfold wrap64
  refine ⟨?_, ?_, ?_, ?_, ?_, ?_⟩ <;> omega
set_option maxHeartbeats 4000000 in
set_option maxRecDepth 20000 in
theorem search_any (g : FuncId) (cb : Array Value) (n m : Nat) (hm : m ≤ n) (W : World) (eg : ∀ args w, (callFunc g args).run Try.prog w = .ok (.enter g args) w) (hsz : n ≤ 1000000)
    (hf : ∀ w, Below W.heap.size W w → ∀ i : Nat, i < n → Calls Try.prog g (#[.int .i64 (i : Nat)] ++ cb) w fun e w' => e = .returned (.bool (decide (m ≤ i))) ∧ Below w.heap.size w w') :
    Calls Try.prog 66 #[.int .i64 (n : Nat), .func (.func g) #[] cb] W fun e W' => e = .returned (.int .i64 (m : Nat)) ∧ Below W.heap.size W W' := by
  have HF := Lib.hid hf
  have HN := Lib.hid hsz
  clear hf
  go_enter Try.func66, Try.ntmps66
  go_wp2_with fail
  go_loopw [5, 6] (fun s5 s6 wr => ∃ (lo hi : Nat), s5 = .int .i64 lo ∧ s6 = .int .i64 hi ∧ lo ≤ m ∧ m ≤ hi ∧ hi ≤ n ∧ Below W.heap.size W wr) (fun s5 s6 _ => (intOf s6).toNat - (intOf s5).toNat)
  case atStart => exact ⟨0, n, rfl, rfl, Nat.zero_le _, hm, Nat.le_refl _, Below.refl _ _⟩
  case round =>
    obtain ⟨lo, hi, rfl, rfl, h1, h2, h3, hb⟩ := hrel
    by_cases hlt : lo < hi
    · have hlt' : (lo : Int) < (hi : Nat) := by omega
      obtain ⟨T, hT⟩ : ∃ T : Nat, T = lo + hi := ⟨_, rfl⟩
      obtain ⟨H, hH⟩ : ∃ H : Nat, H = (lo + hi) / 2 := ⟨_, rfl⟩
      have hc := HF.out wr hb H (by omega)
      have HX := Lib.hid (And.intro h1 (And.intro h2 (And.intro h3 (And.intro hlt hH))))
      have HB := Lib.hid hb
      have HN2 := Lib.hid hm
      have E03 := Lib.hid (srch_wraps hT hH (show T ≤ 2000000 by omega))
      clear h1 h2 h3 hb hlt hsz hm hT hH
      obtain ⟨e0, e1, e2, e3, e4, e5⟩ := E03.out
      have E45 := Lib.hid (And.intro e4 e5)
      clear e4 e5 E03
      go_upto_region 4 with fail
      clear e0 e1 e2
      rw [e3]
      clear e3
      by_cases hp : m ≤ H
      · rw [decide_eq_true hp] at hc
        have HP := Lib.hid hp
        clear hp E45
        go_wp2_with (refine hc.mono ?_; rintro e w' ⟨rfl, hb2⟩)
        go_roundw
        case rel => exact ⟨lo, H, rfl, rfl, HX.out.1, HP.out, by have := HX.out; omega, HB.out.trans (hb2.mono HB.out.size)⟩
        case measure => have := HX.out; simp [intOf]; omega
      · rw [decide_eq_false hp] at hc
        have HP := Lib.hid hp
        obtain ⟨e4, e5⟩ := E45.out
        clear hp E45
        go_wp2_with (refine hc.mono ?_; rintro e w' ⟨rfl, hb2⟩)
        go_roundw
        case rel =>
          (try rw [e4]); (try rw [e5])
          clear e4 e5
          exact ⟨H + 1, hi, rfl, rfl, by have := HP.out; omega, HX.out.2.1, HX.out.2.2.1, HB.out.trans (hb2.mono HB.out.size)⟩
        case measure =>
          (try rw [e4]); (try rw [e5])
          clear e4 e5
          have := HX.out; simp [intOf]; omega
    · obtain rfl : lo = m := by omega
      have hlt' : ¬ (lo : Int) < (hi : Nat) := by omega
      have HB := Lib.hid hb
      clear hb hsz hlt h1 h2 h3
      go_wp2_with fail
      go_ret
      exact ⟨rfl, HB.out⟩
theorem acked1_any (W : World) {b1 b2 d od g o n c : Nat} {q sq : Nat} {i : Nat} (h1 : W.cell? ⟨b1, 0, none⟩ = some (.pointer (some ⟨d, od, none⟩))) (h2 : W.cell? ⟨b2, 0, none⟩ = some (.int .u64 (sq : Nat)))
    (c1 : W.cell? ⟨d, od + 1, none⟩ = some (.slice (some ⟨g, o, none⟩) n c)) (hi : i < n) (hq : W.cell? ⟨g, o + i * 2, none⟩ = some (.int .u64 (q : Nat))) :
    Calls Try.prog 67 #[.int .i64 (i : Nat), .pointer (some ⟨b1, 0, none⟩), .pointer (some ⟨b2, 0, none⟩)] W fun e W' => e = .returned (.bool (decide (sq < q))) ∧ Below W.heap.size W W' := by
  have hlt : (i : Int) < (n : Nat) := by omega
  have h0 : (0 : Int) ≤ (i : Nat) := by omega
  clear hi
  go_enter Try.func67, Try.ntmps67
  go_wp2_with fail
  refine wp_region_plan (S := fun w' => w' = World.drew W) [(0, true), (1, true), (2, true), (3, true), (4, true), (5, true), (6, true), (7, true), (8, true), (9, true), (10, true)] 9999 (by kernel_rfl) (by kernel_rfl) (by kernel_rfl) (by kernel_rfl) (by kernel_rfl) (fun _ _ d _ _ h => by cases d <;> exact h) rfl (fun hHeld => ?_); simp only [List.map_cons, List.map_nil, List.getElem?_toArray, List.getElem?_cons_zero, List.getElem?_cons_succ]
  (repeat (first | (refine wpPlan.take (v := undef) (Or.inr ⟨by rfl, rfl⟩) ?_; simp only [Act.put, List.setIfInBounds_toArray, List.set_cons_zero, List.set_cons_succ]) | (refine wpPlan.take (v := ?_) (Or.inl ⟨by rfl, ?_⟩) ?_; rotate_left; (focus (intro _ hS; (try dsimp only at hS); go_split_ands; (try subst hS); go_simp; (try (with_reducible rfl)); done)); simp only [Act.put, List.setIfInBounds_toArray, List.set_cons_zero, List.set_cons_succ]))); refine wpPlan.done ?_; clear hHeld
  go_wp2_with fail
  go_ret
  refine ⟨?_, (Below.refl _ _).drew⟩
  by_cases hh : sq < q
  · have : (sq : Int) < (q : Nat) := by omega
    simp [hh, this]
  · have : ¬ (sq : Int) < (q : Nat) := by omega
    simp [hh, this]
end Lk
end Go.Proofs.Ytifoheodcbjapaa
