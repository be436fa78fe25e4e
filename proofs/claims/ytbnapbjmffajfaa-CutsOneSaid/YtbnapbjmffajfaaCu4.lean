/-
cuts: stances and cuts compared; right.
-/
import Derived.Test.YtbnapbjmffajfaaCu3
import Derived.Test.YtbnapbjmffajfaaEqG
namespace Go.Proofs.Ytbnapbjmffajfaa
open Go.RowKit
set_option linter.unusedSimpArgs false
set_option linter.unusedVariables false

set_option maxRecDepth 20000 in
theorem stFields : (Try.prog.fieldsOf 39).toList.map (fun f => (f.name != "_", f.type, f.offset)) = [(true, 4, 0), (true, 30, 1), (true, 33, 2)] := by kernel_rfl
set_option maxRecDepth 20000 in
theorem ctFields : (Try.prog.fieldsOf 47).toList.map (fun f => (f.name != "_", f.type, f.offset)) = [(true, 3, 0), (true, 30, 1), (true, 33, 2)] := by kernel_rfl
theorem part_u64 {xs : Array Value} {o : Nat} {v : Value} (h : xs[o]? = some v) (w : World) : (part 30 xs o).run Try.prog w = .ok v w := by
  simp [part, isAgg, run_underlying Try.underlying30, h]
theorem part_int {xs : Array Value} {o : Nat} {v : Value} (h : xs[o]? = some v) (w : World) : (part 3 xs o).run Try.prog w = .ok v w := by
  simp [part, isAgg, run_underlying Try.underlying3, h]
theorem part_bool {xs : Array Value} {o : Nat} {v : Value} (h : xs[o]? = some v) (w : World) : (part 4 xs o).run Try.prog w = .ok v w := by
  simp [part, isAgg, run_underlying Try.underlying4, h]
theorem part_vec {cs : List Value} {f : Nat → Nat} (hl : cs.length = 14) (h : ∀ j, cs[2 + j]? = (vl f)[j]?) (w : World) : (part 33 cs.toArray 2).run Try.prog w = .ok (.agg (vl f).toArray) w := by
  have hx : cs.toArray.extract 2 14 = (vl f).toArray := by
    apply Array.ext_getElem?
    intro i
    rw [Array.getElem?_extract, List.getElem?_toArray, List.getElem?_toArray, List.size_toArray, hl, h]
    by_cases hi : i < 12
    · simp [hi]
    · have : (vl f)[i]? = none := List.getElem?_eq_none (by rw [vl_len]; omega)
      simp [this]
  have hx' : List.take 12 (List.drop 2 cs) = vl f := by simpa using congrArg Array.toList hx
  simp [part, isAgg, run_underlying Try.underlying33, run_sizeOf vsize, hx']
def eqSt (a b : St) : Bool := (a.h == b.h) && ((a.t : Int) == (b.t : Int)) && eqB a.f b.f
def eqCt (a b : Ct) : Bool := (a.o == b.o) && ((a.t : Int) == (b.t : Int)) && eqB a.f b.f
set_option maxRecDepth 20000 in
theorem eq_st (a b : St) (w : World) : (Op.equalIn 10000 39 (.agg a.cells.toArray) (.agg b.cells.toArray)).run Try.prog w = .ok (eqSt a b) w := by
  have g0 : ∀ l : St, l.cells.toArray[0]? = some (.bool l.h) := fun l => by rw [List.getElem?_toArray]; exact st_0 l
  have g1 : ∀ l : St, l.cells.toArray[1]? = some (.int .u64 (l.t : Nat)) := fun l => by rw [List.getElem?_toArray]; exact st_1 l
  rw [run_equalIn_struct w 9999 _ _ _ (by kernel_rfl) (by kernel_rfl), eq_tr 9999 _ _ _ _ w stFields]
  rw [run_eqTr w (part_bool (g0 a)) (part_bool (g0 b)) (fun w => run_equalIn_bool w 9998 _ _ _ Try.underlying4), run_eqTr w (part_u64 (g1 a)) (part_u64 (g1 b)) (fun w => run_equalIn_int w 9998 _ _ _ _ _ Try.underlying30), run_eqTr w (part_vec (st_len a) (st_2 a)) (part_vec (st_len b) (st_2 b)) (fun w => run_equalIn_vec 9997 a.f b.f w)]
  unfold eqSt
  cases (a.h == b.h) <;> cases ((a.t : Int) == (b.t : Int)) <;> cases eqB a.f b.f <;> simp [eqTr]
set_option maxRecDepth 20000 in
theorem eq_ct (a b : Ct) (w : World) : (Op.equalIn 10000 47 (.agg a.cells.toArray) (.agg b.cells.toArray)).run Try.prog w = .ok (eqCt a b) w := by
  have g0 : ∀ l : Ct, l.cells.toArray[0]? = some (.int .i64 l.o) := fun l => by rw [List.getElem?_toArray]; exact ct_0 l
  have g1 : ∀ l : Ct, l.cells.toArray[1]? = some (.int .u64 (l.t : Nat)) := fun l => by rw [List.getElem?_toArray]; exact ct_1 l
  rw [run_equalIn_struct w 9999 _ _ _ (by kernel_rfl) (by kernel_rfl), eq_tr 9999 _ _ _ _ w ctFields]
  rw [run_eqTr w (part_int (g0 a)) (part_int (g0 b)) (fun w => run_equalIn_int w 9998 _ _ _ _ _ Try.underlying3), run_eqTr w (part_u64 (g1 a)) (part_u64 (g1 b)) (fun w => run_equalIn_int w 9998 _ _ _ _ _ Try.underlying30), run_eqTr w (part_vec (ct_len a) (ct_2 a)) (part_vec (ct_len b) (ct_2 b)) (fun w => run_equalIn_vec 9997 a.f b.f w)]
  unfold eqCt
  cases (a.o == b.o) <;> cases ((a.t : Int) == (b.t : Int)) <;> cases eqB a.f b.f <;> simp [eqTr]
theorem built_st : Try.prog.built 39 [] = some St.zero.cells.toArray := by rw [st_zero]; kernel_rfl
set_option maxRecDepth 20000 in
set_option maxHeartbeats 1000000 in
theorem right_any (s : St) (W : World) : Calls Try.prog 17 #[.agg s.cells.toArray] W fun e W' => e = .returned (.bool (rightS s)) ∧ Below W.heap.size W W' := by
  have bA := Blk.new W 39 s.cells.toArray
  have h2 : Below W.heap.size W (W.alloc (.cells s.cells.toArray 39)) := (Below.refl _ _).alloc (Nat.le_refl _) _
  obtain ⟨r0, r2, a0, a1⟩ := st_all bA
  have HB2 := Lib.hid h2
  clear bA h2
  unfold rightS
  cases hh : s.h with
  | false =>
    rw [hh] at a0
    have hq := eq_st s St.zero
    have HQ := Lib.hid (show eqSt s St.zero = (decide (s.t = 0) && eqB s.f fun _ => 0) by
      unfold eqSt St.zero
      rw [hh]
      have : ((s.t : Int) == ((0 : Nat) : Int)) = decide (s.t = 0) := by
        by_cases h : s.t = 0
        · simp [h]
        · rw [decide_eq_false h]; simpa using h
      rw [this]
      rfl)
    rw [HQ.out] at hq
    obtain ⟨z, hz⟩ : ∃ z, z = (decide (s.t = 0) && eqB s.f fun _ => 0) := ⟨_, rfl⟩
    have HZ := Lib.hid hz
    rw [← hz] at hq
    clear hz HQ
    go_enter Try.func17, Try.ntmps17
    go_wp2_with (first | (refine wpList_load_mid rfl 39 _ rfl _ _ rfl s.cells _ r0 Try.underlying39 rfl (stinfo s) ?_) | (refine wpList_build_lit St.zero.cells.toArray rfl 39 _ rfl built_st ?_))
    go_ret
    exact ⟨by rw [HZ.out]; rfl, HB2.out⟩
  | true =>
    rw [hh] at a0
    clear r0
    obtain ⟨M, hM⟩ : ∃ M, M = maxK s.f 11 := ⟨_, rfl⟩
    have HM := Lib.hid (fun w h => max_any s.f W.heap.size 2 w h)
    rw [← hM] at HM ⊢
    obtain ⟨t, ht⟩ : ∃ t, t = s.t := ⟨_, rfl⟩
    rw [← ht] at a1 ⊢
    have HR2 := Lib.hid r2
    clear hM ht r2
    by_cases p1 : (1 : Int) ≤ (t : Nat)
    · by_cases p2 : (t : Int) ≤ 1099511627776
      · have d1 : decide ((1 : Int) ≤ (t : Nat)) = true := decide_eq_true p1
        have d2 : decide ((t : Int) ≤ 1099511627776) = true := decide_eq_true p2
        have HA := Lib.hid (show (decide (1 ≤ t) && decide (t ≤ 1099511627776)) = true by simp; omega)
        clear p1 p2
        by_cases p3 : (M : Int) ≤ 1048576
        · have d3 : decide ((M : Int) ≤ 1048576) = true := decide_eq_true p3
          have HC := Lib.hid (show decide (M ≤ 1048576) = true by simp; omega)
          clear p3
          go_enter Try.func17, Try.ntmps17
          go_wp2_with (go_at_call 33; refine (HM.out _ HR2.out).mono ?_; rintro e w3 ⟨rfl, rfl⟩)
          go_ret
          exact ⟨by simp only [if_true]; rw [HA.out, HC.out]; rfl, HB2.out⟩
        · have d3 : decide ((M : Int) ≤ 1048576) = false := decide_eq_false p3
          have HC := Lib.hid (show decide (M ≤ 1048576) = false by simp; omega)
          clear p3
          go_enter Try.func17, Try.ntmps17
          go_wp2_with (go_at_call 33; refine (HM.out _ HR2.out).mono ?_; rintro e w3 ⟨rfl, rfl⟩)
          go_ret
          exact ⟨by simp only [if_true]; rw [HA.out, HC.out]; rfl, HB2.out⟩
      · have d1 : decide ((1 : Int) ≤ (t : Nat)) = true := decide_eq_true p1
        have d2 : decide ((t : Int) ≤ 1099511627776) = false := decide_eq_false p2
        have HZ := Lib.hid (show (decide (1 ≤ t) && decide (t ≤ 1099511627776) && decide (M ≤ 1048576)) = false by simp; omega)
        clear p1 p2
        go_enter Try.func17, Try.ntmps17
        go_wp2_with fail
        go_ret
        exact ⟨by simp only [if_true]; rw [HZ.out]; rfl, HB2.out⟩
    · have d1 : decide ((1 : Int) ≤ (t : Nat)) = false := decide_eq_false p1
      have HZ := Lib.hid (show (decide (1 ≤ t) && decide (t ≤ 1099511627776) && decide (M ≤ 1048576)) = false by simp; omega)
      clear p1
      go_enter Try.func17, Try.ntmps17
      go_wp2_with fail
      go_ret
      exact ⟨by simp only [if_true]; rw [HZ.out]; rfl, HB2.out⟩
end Go.Proofs.Ytbnapbjmffajfaa
