/-
peers: at, State, has, isOther.
-/
import Derived.Test.YtlceljcplmcjgaaPe
namespace Go.Proofs.Ytlceljcplmcjgaa
open Go.RowKit
set_option linter.unusedSimpArgs false
set_option linter.unusedVariables false
namespace Pe
theorem sl_size (s : Int) (p : Nat → Bool) : (sl s p).toArray.size = 13 := by rw [List.size_toArray, sl_len]
theorem built_zero : Try.prog.built 47 [] = some #[.int .i64 0, .bool false, .bool false, .bool false, .bool false, .bool false, .bool false, .bool false, .bool false, .bool false, .bool false, .bool false, .bool false] := by kernel_rfl
theorem run_field_0 (s : Int) (p : Nat → Bool) (w : World) : (Instr.field 47 (.agg (sl s p).toArray) 0).run Try.prog w = .ok (.int .i64 s) w := by
  have h2 : (sl s p).toArray[0]? = some (.int .i64 s) := by rw [List.getElem?_toArray]; exact sl_0 s p
  simp [Instr.field, asAgg, run_underlying Try.underlying47, part, isAgg, run_underlying Try.underlying3, sl_0]
theorem blsize : (Try.prog.info? 45).map (·.size) = some 12 := by kernel_rfl
theorem run_field_1 (s : Int) (p : Nat → Bool) (w : World) : (Instr.field 47 (.agg (sl s p).toArray) 1).run Try.prog w = .ok (.agg (bl p).toArray) w := by
  have hs : ∀ w, (sizeOf 45).run Try.prog w = .ok 12 w := by
    intro w
    have := blsize
    cases hq : Try.prog.info? 45 with
    | none => simp [hq] at this
    | some i => simp [hq] at this; simp [sizeOf, typeInfo, hq, this]
  have h3 := sl_ext1 s p
  simp only [List.extract_toArray] at h3
  simp [Instr.field, asAgg, run_underlying Try.underlying47, part, isAgg, run_underlying Try.underlying45, hs]
  simpa using h3
theorem bosize : (Try.prog.info? 4).map (·.size) = some 1 := by kernel_rfl
theorem run_index_bl (p : Nat → Bool) {k : Nat} (h : k < 12) (w : World) : (Instr.index 45 (.agg (bl p).toArray) (.int .i64 (k : Nat))).run Try.prog w = .ok (.bool (p k)) w := by
  have hs : ∀ w, (sizeOf 4).run Try.prog w = .ok 1 w := by
    intro w
    have := bosize
    cases hq : Try.prog.info? 4 with
    | none => simp [hq] at this
    | some i => simp [hq] at this; simp [sizeOf, typeInfo, hq, this]
  have hc := bl_get p h
  simp [Instr.index, asIntOf, run_underlying Try.underlying45, hs, part, isAgg, run_underlying Try.underlying4, hc]
  omega
section
variable (W : World)
set_option maxRecDepth 20000 in
theorem at_nil (n : Int) : Calls Try.prog 36 #[.pointer none, .int .i64 n] W fun e W' => e = .returned (.agg (sl 0 (fun _ => false)).toArray) ∧ Below W.heap.size W W' := by
  rw [sl_zero]
  go_enter Try.func36, Try.ntmps36
  go_upto_region 1 with fail
  go_wp2_with (first | (go_at_call 41; refine (made_nil _).mono ?_; rintro e w2 ⟨rfl, rfl⟩) | (refine Nd.wpList_build_lit #[.int .i64 0, .bool false, .bool false, .bool false, .bool false, .bool false, .bool false, .bool false, .bool false, .bool false, .bool false, .bool false, .bool false] rfl 47 _ rfl built_zero ?_) | (refine wpList_store_blk rfl 47 _ _ rfl W.heap.size 47 _ #[.int .i64 0, .bool false, .bool false, .bool false, .bool false, .bool false, .bool false, .bool false, .bool false, .bool false, .bool false, .bool false, .bool false] rfl rfl (Blk.new' rfl) (by kernel_rfl) rfl (by simp [Value.oneCell']) ?_; intro hY))
  refine bodyPost_row (t := 47) _ rfl rfl rfl Try.underlying47 rfl (by kernel_rfl) hY ⟨rfl, below_setRow ((Below.refl _ W).alloc (Nat.le_refl _) _) (Nat.le_refl _) _⟩
variable {B d : Nat} {x : PS}
set_option maxRecDepth 20000 in
set_option maxHeartbeats 4000000 in
theorem at_any (h : PP W B d x) (n : Int) : Calls Try.prog 36 #[.pointer (some ⟨d, 0, none⟩), .int .i64 n] W fun e W' => e = .returned (.agg (sl (x.stV n) (x.peV n)).toArray) ∧ Below W.heap.size W W' := by
  obtain ⟨w1, hw1⟩ : ∃ w1, w1 = W.alloc (.cells #[.int .i64 0, .bool false, .bool false, .bool false, .bool false, .bool false, .bool false, .bool false, .bool false, .bool false, .bool false, .bool false, .bool false] 47) := ⟨_, rfl⟩
  have hb1 : Below W.heap.size W w1 := by rw [hw1]; exact (Below.refl _ _).alloc (Nat.le_refl _) _
  have hx1 : Blk w1 W.heap.size 47 #[.int .i64 0, .bool false, .bool false, .bool false, .bool false, .bool false, .bool false, .bool false, .bool false, .bool false, .bool false, .bool false, .bool false] := by rw [hw1]; exact Blk.new _ _ _
  have HP := Lib.hid (h.next hb1)
  have HM := Lib.hid (made_any w1 (h.next hb1))
  have HB := Lib.hid hb1
  have HX := Lib.hid hx1
  clear h hb1 hx1
  by_cases h0 : x.n = 0
  · have HV := Lib.hid (show x.stV n = 0 ∧ x.peV n = fun _ => false by unfold PS.stV PS.peV; rw [if_neg (fun h => h.1 h0), if_neg (fun h => h.1 h0)]; exact ⟨rfl, rfl⟩)
    rw [decide_eq_false (show ¬ x.n ≠ 0 from fun h => h h0)] at HM
    clear h0
    go_enter Try.func36, Try.ntmps36
    go_upto_region 1 with fail
    rw [← hw1]
    clear hw1
    go_wp2_with (first | (go_at_call 41; refine HM.out.mono ?_; rintro e w2 ⟨rfl, rfl⟩; clear HM) | (refine Nd.wpList_build_lit #[.int .i64 0, .bool false, .bool false, .bool false, .bool false, .bool false, .bool false, .bool false, .bool false, .bool false, .bool false, .bool false, .bool false] rfl 47 _ rfl built_zero ?_) | (refine wpList_store_blk rfl 47 _ _ rfl W.heap.size 47 _ #[.int .i64 0, .bool false, .bool false, .bool false, .bool false, .bool false, .bool false, .bool false, .bool false, .bool false, .bool false, .bool false, .bool false] rfl rfl HX.out (by kernel_rfl) rfl (by simp [Value.oneCell']) ?_; intro hY))

    refine bodyPost_row (t := 47) _ rfl rfl rfl Try.underlying47 rfl (by kernel_rfl) hY ⟨?_, below_setRow HB.out (Nat.le_refl _) _⟩
    rw [HV.out.1, HV.out.2, sl_zero]
  · have h1 : decide (x.n ≠ 0) = true := decide_eq_true h0
    rw [h1] at HM
    cases hn : numB n with
    | false =>
      have HV := Lib.hid (show x.stV n = 0 ∧ x.peV n = fun _ => false by unfold PS.stV PS.peV; rw [hn, if_neg (fun h => absurd h.2 (by decide)), if_neg (fun h => absurd h.2 (by decide))]; exact ⟨rfl, rfl⟩)
      have HS := Lib.hid (isseller_any w1 n)
      rw [hn] at HS
      clear h0 h1 hn
      go_enter Try.func36, Try.ntmps36
      go_upto_region 1 with fail
      rw [← hw1]
      clear hw1
      go_wp2_with (first | (go_at_call 41; refine HM.out.mono ?_; rintro e w2 ⟨rfl, rfl⟩; clear HM) | (go_at_call 42; refine HS.out.mono ?_; rintro e w2 ⟨rfl, rfl⟩; clear HS) | (refine Nd.wpList_build_lit #[.int .i64 0, .bool false, .bool false, .bool false, .bool false, .bool false, .bool false, .bool false, .bool false, .bool false, .bool false, .bool false, .bool false] rfl 47 _ rfl built_zero ?_) | (refine wpList_store_blk rfl 47 _ _ rfl W.heap.size 47 _ #[.int .i64 0, .bool false, .bool false, .bool false, .bool false, .bool false, .bool false, .bool false, .bool false, .bool false, .bool false, .bool false, .bool false] rfl rfl HX.out (by kernel_rfl) rfl (by simp [Value.oneCell']) ?_; intro hY))
      refine bodyPost_row (t := 47) _ rfl rfl rfl Try.underlying47 rfl (by kernel_rfl) hY ⟨?_, below_setRow HB.out (Nat.le_refl _) _⟩
      rw [HV.out.1, HV.out.2, sl_zero]
    | true =>
      obtain ⟨k, hk, rfl⟩ := num_of hn
      have HV := Lib.hid (show x.stV ((k : Int) + 1) = x.st k ∧ x.peV ((k : Int) + 1) = x.pe k by
        unfold PS.stV PS.peV
        rw [hn, if_pos ⟨h0, rfl⟩, if_pos ⟨h0, rfl⟩, show ((k : Int) + 1 - 1).toNat = k by omega]
        exact ⟨rfl, rfl⟩)
      have HS := Lib.hid (isseller_any w1 ((k : Int) + 1))
      rw [hn] at HS
      have hr := HP.out.rs hk
      have e1 : wrap64 ((k : Int) + 1 - 1) = (k : Nat) := by unfold wrap64; omega
      have e2 : (k : Int) < 12 := by omega
      have e3 : ¬ (k : Int) < 0 := by omega
      clear h0 h1 hn
      go_enter Try.func36, Try.ntmps36
      go_upto_region 1 with fail
      rw [← hw1]
      clear hw1
      go_upto_region 3 with (first | (go_at_call 41; refine HM.out.mono ?_; rintro e w2 ⟨rfl, rfl⟩; clear HM) | (go_at_call 42; refine HS.out.mono ?_; rintro e w2 ⟨rfl, rfl⟩; clear HS))
      go_wp2_with (first | (refine wpList_load_mid rfl 47 _ rfl _ _ rfl (sl (x.st k) (x.pe k)) _ hr Try.underlying47 rfl (slinfo _ _) ?_) | (refine wpList_store_blk rfl 47 _ _ rfl W.heap.size 47 _ (sl (x.st k) (x.pe k)).toArray rfl rfl HX.out (slinfoA _ _) (sl_size _ _).symm (sl_all _ _) ?_; intro hY))
      refine bodyPost_row (t := 47) _ rfl rfl rfl Try.underlying47 rfl (slinfoA _ _) hY ⟨?_, below_setRow HB.out (Nat.le_refl _) _⟩
      rw [HV.out.1, HV.out.2]
theorem state_nil (n : Int) : Calls Try.prog 13 #[.pointer none, .int .i64 n] W fun e W' => e = .returned (.int .i64 0) ∧ Below W.heap.size W W' := by
  have c1 := run_field_0 0 (fun _ => false)
  go_enter Try.func13, Try.ntmps13
  go_wp2_with (go_at_call 36; refine (at_nil _ _).mono ?_; rintro e w2 ⟨rfl, hb⟩)
  go_ret
  exact ⟨rfl, hb⟩
theorem state_any (h : PP W B d x) (n : Int) : Calls Try.prog 13 #[.pointer (some ⟨d, 0, none⟩), .int .i64 n] W fun e W' => e = .returned (.int .i64 (x.stV n)) ∧ Below W.heap.size W W' := by
  have c1 := run_field_0 (x.stV n) (x.peV n)
  have HA := Lib.hid (at_any W h n)
  clear h
  go_enter Try.func13, Try.ntmps13
  go_wp2_with (go_at_call 36; refine HA.out.mono ?_; rintro e w2 ⟨rfl, hb⟩)
  go_ret
  exact ⟨rfl, hb⟩
set_option maxRecDepth 20000 in
theorem has_any (h : PP W B d x) (n m : Int) : Calls Try.prog 47 #[.pointer (some ⟨d, 0, none⟩), .int .i64 n, .int .i64 m] W fun e W' => e = .returned (.bool (x.hasV n m)) ∧ Below W.heap.size W W' := by
  have HA := Lib.hid (at_any W h n)
  have HN := Lib.hid (isnode_any W m)
  cases hm : numB m with
  | false =>
    have HV := Lib.hid (show x.hasV n m = false by unfold PS.hasV; rw [hm]; rfl)
    rw [hm] at HN
    clear h hm
    go_enter Try.func47, Try.ntmps47
    go_wp2_with (go_at_call 28; refine HN.out.mono ?_; rintro e w2 ⟨rfl, rfl⟩)
    go_ret
    exact ⟨by rw [HV.out]; rfl, Below.refl _ _⟩
  | true =>
    obtain ⟨k, hk, rfl⟩ := num_of hm
    have HV := Lib.hid (show x.hasV n ((k : Int) + 1) = x.peV n k by unfold PS.hasV; rw [hm, Bool.true_and, show ((k : Int) + 1 - 1).toNat = k by omega])
    rw [hm] at HN
    have c1 := run_field_1 (x.stV n) (x.peV n)
    have c2 := run_index_bl (x.peV n) hk
    have e1 : wrap64 ((k : Int) + 1 - 1) = (k : Nat) := by unfold wrap64; omega
    clear h hm
    go_enter Try.func47, Try.ntmps47
    go_wp2_with (first | (go_at_call 28; refine HN.out.mono ?_; rintro e w2 ⟨rfl, rfl⟩; clear HN) | (go_at_call 36; refine HA.out.mono ?_; rintro e w2 ⟨rfl, hb⟩; clear HA))
    go_ret
    exact ⟨by rw [HV.out]; rfl, hb⟩
def PS.otherV (x : PS) (m : Int) : Bool := numB m && decide (m ≠ x.n)
theorem other_any (h : PP W B d x) (m : Int) : Calls Try.prog 44 #[.pointer (some ⟨d, 0, none⟩), .int .i64 m] W fun e W' => e = .returned (.bool (x.otherV m)) ∧ W = W' := by
  have HA := Lib.hid (node_any W h)
  have HN := Lib.hid (isnode_any W m)
  obtain ⟨n, hn⟩ : ∃ n, n = x.n := ⟨_, rfl⟩
  unfold PS.otherV
  rw [← hn] at HA ⊢
  clear hn h
  cases hm : numB m with
  | false =>
    rw [hm] at HN
    clear hm
    go_enter Try.func44, Try.ntmps44
    go_wp2_with (go_at_call 28; refine HN.out.mono ?_; rintro e w2 ⟨rfl, rfl⟩)
    go_ret
    exact ⟨rfl, rfl⟩
  | true =>
    rw [hm] at HN
    clear hm
    have HD := Lib.hid (show (m != n) = decide (m ≠ n) by by_cases h : m = n <;> simp [h])
    go_enter Try.func44, Try.ntmps44
    go_wp2_with (first | (go_at_call 28; refine HN.out.mono ?_; rintro e w2 ⟨rfl, rfl⟩; clear HN) | (go_at_call 20; refine HA.out.mono ?_; rintro e w2 ⟨rfl, rfl⟩; clear HA))
    go_ret
    exact ⟨by rw [← HD.out]; rfl, rfl⟩
end
end Pe
end Go.Proofs.Ytlceljcplmcjgaa
