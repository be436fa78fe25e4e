/-
peers: of nil, and of peers that no call made.
-/
import Derived.Test.YtlceljcplmcjgaaPe20
namespace Go.Proofs.Ytlceljcplmcjgaa
open Go.RowKit
set_option linter.unusedSimpArgs false
set_option linter.unusedVariables false
namespace Pe
theorem wr12 (j : Nat) (h : j < 12) : wrap64 ((j : Int) + 1) = (j : Int) + 1 := by unfold wrap64; omega
theorem bstr_nil : Byt.bstr [] = ⟨#[]⟩ := by unfold Byt.bstr; rfl
section
variable (W : World)
set_option maxRecDepth 20000 in
set_option maxHeartbeats 1000000 in
theorem of_nil (n : Int) : Calls Try.prog 11 #[.pointer none, .int .i64 n] W fun e W' => e = .returned (.slice none 0 0) ∧ Below W.heap.size W W' := by
  have HA := Lib.hid (at_nil W n)
  have c1 := run_field_1 0 (fun _ => false)
  go_enter Try.func11, Try.ntmps11
  go_upto_region 3 with (go_at_call 36; refine HA.out.mono ?_; rintro e w1 ⟨rfl, hb⟩; have HB1 := Lib.hid hb; clear hb HA)
  clear c1
  go_loopw [5, 12] (fun v i wr => ∃ j : Nat, j ≤ 12 ∧ i = .int .i64 j ∧ v = .slice none 0 0 ∧ Below W.heap.size W wr) (fun _ i _ => 12 - (intOf i).toNat)
  case atStart => exact ⟨0, Nat.zero_le _, rfl, rfl, HB1.out⟩
  case round =>
    obtain ⟨j, hj, rfl, rfl, hb⟩ := hrel
    have HB := Lib.hid hb
    by_cases hlt : j < 12
    · have i1 : (j : Int) < 12 := by omega
      have hc := run_index_bl (fun _ => false) hlt
      have HJ := Lib.hid hlt
      have HW := Lib.hid (wr12 j hlt)
      clear hb hj hlt
      go_upto_region 4 with fail
      clear i1
      go_wp2_with fail
      (try rw [HW.out])
      go_roundw
      case rel => exact ⟨j + 1, by have := HJ.out; omega, by first | rfl | simp, rfl, HB.out⟩
      case measure => have := HJ.out; simp [intOf]; omega
    · have i1 : ¬ (j : Int) < 12 := by omega
      clear hb hj hlt
      go_wp2_with fail
      go_ret
      exact ⟨rfl, HB.out⟩
set_option maxRecDepth 20000 in
set_option maxHeartbeats 1000000 in
theorem sellers_nil : Calls Try.prog 19 #[.pointer none] W fun e W' => e = .returned (.slice none 0 0) ∧ Below W.heap.size W W' := by
  go_enter Try.func19, Try.ntmps19
  go_upto_region 3 with fail
  go_loopw [3, 5] (fun v i wr => ∃ j : Nat, j ≤ 12 ∧ i = .int .i64 j ∧ v = .slice none 0 0 ∧ Below W.heap.size W wr) (fun _ i _ => 12 - (intOf i).toNat)
  case atStart => exact ⟨0, Nat.zero_le _, rfl, rfl, Below.refl _ _⟩
  case round =>
    obtain ⟨j, hj, rfl, rfl, hb⟩ := hrel
    have HB := Lib.hid hb
    by_cases hlt : j < 12
    · have i1 : (j : Int) < 12 := by omega
      have HJ := Lib.hid hlt
      have HC := Lib.hid (fun n => state_nil wr n)
      have HW := Lib.hid (wr12 j hlt)
      clear hb hj hlt
      go_upto_region 4 with fail
      clear i1
      go_wp2_with (go_at_call 13; (try rw [HW.out]); refine (HC.out _).mono ?_; rintro e w2 ⟨rfl, hb2⟩; have HB2 := Lib.hid (HB.out.trans (hb2.mono HB.out.size)); clear hb2 HC)
      (try rw [HW.out])
      go_roundw
      case rel => exact ⟨j + 1, by have := HJ.out; omega, by first | rfl | simp, rfl, HB2.out⟩
      case measure => have := HJ.out; simp [intOf]; omega
    · have i1 : ¬ (j : Int) < 12 := by omega
      clear hb hj hlt
      go_wp2_with fail
      go_ret
      exact ⟨rfl, HB.out⟩
theorem leave_nil (n : Int) : Calls Try.prog 18 #[.pointer none, .int .i64 n] W fun e W' => e = .returned (.tuple #[.int .i64 0, .int .i64 6]) ∧ Below W.heap.size W W' := by
  go_enter Try.func18, Try.ntmps18
  go_upto_region 2 with (go_at_call 11; refine (of_nil W n).mono ?_; rintro e w1 ⟨rfl, hb⟩; have HB := Lib.hid hb; clear hb)
  go_wp2_with (go_at_call 41; refine (made_nil _).mono ?_; rintro e w2 ⟨rfl, rfl⟩)
  go_ret2
  exact ⟨rfl, HB.out⟩
theorem join_nil (n m : Int) : Calls Try.prog 22 #[.pointer none, .int .i64 n, .int .i64 m] W fun e W' => e = .returned (.int .i64 6) ∧ W = W' := by
  go_enter Try.func22, Try.ntmps22
  go_wp2_with (go_at_call 41; refine (made_nil _).mono ?_; rintro e w2 ⟨rfl, rfl⟩)
  go_ret
  exact ⟨rfl, rfl⟩
theorem told_nil (n m s t : Int) : Calls Try.prog 46 #[.pointer none, .int .i64 n, .int .i64 m, .int .i64 s, .int .i64 t] W fun e W' => e = .returned (.int .i64 6) ∧ W = W' := by
  go_enter Try.func46, Try.ntmps46
  go_wp2_with (go_at_call 41; refine (made_nil _).mono ?_; rintro e w2 ⟨rfl, rfl⟩)
  go_ret
  exact ⟨rfl, rfl⟩
theorem left_nil (n m : Int) : Calls Try.prog 24 #[.pointer none, .int .i64 n, .int .i64 m, .bool true] W fun e W' => e = .returned (.int .i64 6) ∧ W = W' := by
  go_enter Try.func24, Try.ntmps24
  go_wp2_with (go_at_call 46; refine (told_nil _ _ _ _ _).mono ?_; rintro e w2 ⟨rfl, rfl⟩)
  go_ret
  exact ⟨rfl, rfl⟩
theorem asked_nil (n m : Int) : Calls Try.prog 25 #[.pointer none, .int .i64 n, .int .i64 m] W fun e W' => e = .returned (.bool false) ∧ Below W.heap.size W W' := by
  go_enter Try.func25, Try.ntmps25
  go_wp2_with (go_at_call 13; refine (state_nil W n).mono ?_; rintro e w1 ⟨rfl, hb⟩; have HB := Lib.hid hb; clear hb)
  go_ret
  exact ⟨rfl, HB.out⟩
theorem put_nil (g : Nat) : Calls Try.prog 38 #[.pointer none, .pointer (some ⟨g, 0, none⟩)] W fun e W' => e = .returned (.tuple #[]) ∧ W = W' := by
  go_enter Try.func38, Try.ntmps38
  go_wp2_with (go_at_call 41; refine (made_nil _).mono ?_; rintro e w2 ⟨rfl, rfl⟩)
  exact ⟨rfl, .tuple #[], by simp [results, Try.results38, go_sem], rfl, rfl⟩
set_option maxRecDepth 20000 in
theorem save_not (v : Value) (hp : ∀ w g, Below W.heap.size W w → Calls Try.prog 38 #[v, .pointer (some ⟨g, 0, none⟩)] w fun e w' => e = .returned (.tuple #[]) ∧ w = w') : Calls Try.prog 15 #[v] W fun e W' => e = .returned (.string ⟨#[]⟩) ∧ Below W.heap.size W W' := by
  have HN := Lib.hid (Proofs.Ytlceljcplmcjgaa.new_any W)
  have HP := Lib.hid hp
  clear hp
  go_enter Try.func15, Try.ntmps15
  have hcv : ∀ (w : World) (v : Value) (B : Nat), w.ownsRow B 5 1 v ([] : List Nat).length (u8s []) → (convert 42 9 v).run Try.prog w = .ok (.string ⟨#[]⟩) w := fun w v B ho => by
    obtain ⟨A, c, rfl, _, hby, hA⟩ := Byt.own_byr ho
    have h := Byt.conv_src w A _ c [] (hby.src hA) rfl (by simp)
    rw [bstr_nil] at h
    exact h
  have HCV := Lib.hid hcv
  clear hcv
  go_upto_region 3 with (first | (go_at_call 37; refine HN.out.mono ?_; rintro e w1 ⟨rfl, hw, hb⟩; have HW1 := Lib.hid hw; have HB1 := Lib.hid hb; clear hw hb) | (go_at_call 38; refine (HP.out w1 _ HB1.out).mono ?_; rintro e w2 ⟨rfl, rfl⟩))
  have HY := Lib.hid (bytes_any W.heap.size W.heap.size [] w1 HW1.out (by decide))
  go_wp2_with (first | (go_at_call 39; refine HY.out.mono ?_; rintro e w3 ⟨v, rfl, ho, hb⟩; have hcv := HCV.out w3 v _ ho; have HB3 := Lib.hid (HB1.out.trans (hb.mono HB1.out.size)); clear ho hb))
  go_ret
  exact ⟨rfl, HB3.out⟩
theorem save_nil : Calls Try.prog 15 #[.pointer none] W fun e W' => e = .returned (.string ⟨#[]⟩) ∧ Below W.heap.size W W' :=
  save_not W (.pointer none) fun w g _ => put_nil w g
variable {B d : Nat} {x : PS}
theorem save_zero (h : PP W B d x) (h0 : x.n = 0) : Calls Try.prog 15 #[.pointer (some ⟨d, 0, none⟩)] W fun e W' => e = .returned (.string ⟨#[]⟩) ∧ Below W.heap.size W W' := by
  refine save_not W (.pointer (some ⟨d, 0, none⟩)) fun w g hb => ?_
  have HM := Lib.hid (made_any w (h.next hb))
  rw [decide_eq_false (fun hn : x.n ≠ 0 => hn h0)] at HM
  clear h hb h0
  go_enter Try.func38, Try.ntmps38
  go_wp2_with (go_at_call 41; refine HM.out.mono ?_; rintro e w2 ⟨rfl, rfl⟩)
  exact ⟨rfl, .tuple #[], by simp [results, Try.results38, go_sem], rfl, rfl⟩
theorem found_zero (h : PP W B d x) (h0 : x.n = 0) (n : Int) : Calls Try.prog 21 #[.pointer (some ⟨d, 0, none⟩), .int .i64 n] W fun e W' => e = .returned (.int .i64 6) ∧ W = W' := by
  have HM := Lib.hid (made_any W h)
  rw [decide_eq_false (fun hn : x.n ≠ 0 => hn h0)] at HM
  clear h h0
  go_enter Try.func21, Try.ntmps21
  go_wp2_with (go_at_call 41; refine HM.out.mono ?_; rintro e w2 ⟨rfl, rfl⟩)
  go_ret
  exact ⟨rfl, rfl⟩
theorem joined_zero (h : PP W B d x) (h0 : x.n = 0) (n m : Int) : Calls Try.prog 23 #[.pointer (some ⟨d, 0, none⟩), .int .i64 n, .int .i64 m, .bool true] W fun e W' => e = .returned (.int .i64 6) ∧ W = W' := by
  have HM := Lib.hid (made_any W h)
  rw [decide_eq_false (fun hn : x.n ≠ 0 => hn h0)] at HM
  have HT := Lib.hid (show Calls Try.prog 46 #[.pointer (some ⟨d, 0, none⟩), .int .i64 n, .int .i64 m, .int .i64 1, .int .i64 2] W fun e W' => e = .returned (.int .i64 6) ∧ W = W' by
    clear h h0
    go_enter Try.func46, Try.ntmps46
    go_wp2_with (go_at_call 41; refine HM.out.mono ?_; rintro e w2 ⟨rfl, rfl⟩)
    go_ret
    exact ⟨rfl, rfl⟩)
  clear h h0 HM
  go_enter Try.func23, Try.ntmps23
  go_wp2_with (go_at_call 46; refine HT.out.mono ?_; rintro e w2 ⟨rfl, rfl⟩)
  go_ret
  exact ⟨rfl, rfl⟩
theorem leaving_zero (h : PP W B d x) (h0 : x.n = 0) (n m : Int) : Calls Try.prog 26 #[.pointer (some ⟨d, 0, none⟩), .int .i64 n, .int .i64 m] W fun e W' => e = .returned (.bool false) ∧ Below W.heap.size W W' := by
  have HS := Lib.hid (state_any W h n)
  rw [show x.stV n = 0 by unfold PS.stV; rw [if_neg (fun hc => hc.1 h0)]] at HS
  clear h h0
  go_enter Try.func26, Try.ntmps26
  go_wp2_with (go_at_call 13; refine HS.out.mono ?_; rintro e w1 ⟨rfl, hb⟩; have HB := Lib.hid hb; clear hb)
  go_ret
  exact ⟨rfl, HB.out⟩
end
theorem z157 : (PS.new 0).cells.toArray = #[.int .i64 0, .int .i64 0, .bool false, .bool false, .bool false, .bool false, .bool false, .bool false, .bool false, .bool false, .bool false, .bool false, .bool false, .bool false, .int .i64 0, .bool false, .bool false, .bool false, .bool false, .bool false, .bool false, .bool false, .bool false, .bool false, .bool false, .bool false, .bool false, .int .i64 0, .bool false, .bool false, .bool false, .bool false, .bool false, .bool false, .bool false, .bool false, .bool false, .bool false, .bool false, .bool false, .int .i64 0, .bool false, .bool false, .bool false, .bool false, .bool false, .bool false, .bool false, .bool false, .bool false, .bool false, .bool false, .bool false, .int .i64 0, .bool false, .bool false, .bool false, .bool false, .bool false, .bool false, .bool false, .bool false, .bool false, .bool false, .bool false, .bool false, .int .i64 0, .bool false, .bool false, .bool false, .bool false, .bool false, .bool false, .bool false, .bool false, .bool false, .bool false, .bool false, .bool false, .int .i64 0, .bool false, .bool false, .bool false, .bool false, .bool false, .bool false, .bool false, .bool false, .bool false, .bool false, .bool false, .bool false, .int .i64 0, .bool false, .bool false, .bool false, .bool false, .bool false, .bool false, .bool false, .bool false, .bool false, .bool false, .bool false, .bool false, .int .i64 0, .bool false, .bool false, .bool false, .bool false, .bool false, .bool false, .bool false, .bool false, .bool false, .bool false, .bool false, .bool false, .int .i64 0, .bool false, .bool false, .bool false, .bool false, .bool false, .bool false, .bool false, .bool false, .bool false, .bool false, .bool false, .bool false, .int .i64 0, .bool false, .bool false, .bool false, .bool false, .bool false, .bool false, .bool false, .bool false, .bool false, .bool false, .bool false, .bool false, .int .i64 0, .bool false, .bool false, .bool false, .bool false, .bool false, .bool false, .bool false, .bool false, .bool false, .bool false, .bool false, .bool false] := by
  unfold PS.new PS.cells sls
  simp only [List.range, List.range.loop, List.flatMap_cons, List.flatMap_nil, sl_zeroL, List.append_nil, List.cons_append, List.nil_append]
end Pe
end Go.Proofs.Ytlceljcplmcjgaa
