/-
cuts: New, made, full, next, Other, Last, Own, Cuts.
-/
import Derived.Test.YtbnapbjmffajfaaCu
namespace Go.Proofs.Ytbnapbjmffajfaa
open Go.RowKit
set_option linter.unusedSimpArgs false
set_option linter.unusedVariables false

def mayT (own other : Int) : Bool := decide (1 ≤ own) && decide (own ≤ 12) && decide (0 ≤ other) && decide (other ≤ 12) && decide (own ≠ other)
theorem tc_zero (own other : Int) : (tcells own other (.slice none 0 0) Sd.zero Sd.zero).toArray = #[.int .i64 own, .int .i64 other, .slice none 0 0, .bool false, .bool false, .int .u64 0, .int .u32 0, .int .u32 0, .int .u32 0, .int .u32 0, .int .u32 0, .int .u32 0, .int .u32 0, .int .u32 0, .int .u32 0, .int .u32 0, .int .u32 0, .int .u32 0, .bool false, .bool false, .int .u64 0, .int .u32 0, .int .u32 0, .int .u32 0, .int .u32 0, .int .u32 0, .int .u32 0, .int .u32 0, .int .u32 0, .int .u32 0, .int .u32 0, .int .u32 0, .int .u32 0] := by
  unfold tcells Sd.cells Sd.zero St.cells St.zero vl
  rfl
theorem st_zero : St.zero.cells.toArray = #[.bool false, .int .u64 0, .int .u32 0, .int .u32 0, .int .u32 0, .int .u32 0, .int .u32 0, .int .u32 0, .int .u32 0, .int .u32 0, .int .u32 0, .int .u32 0, .int .u32 0, .int .u32 0] := by
  unfold St.cells St.zero vl
  rfl
set_option maxRecDepth 20000 in
theorem new_ok (W : World) (own other : Int) (h : mayT own other = true) : Calls Try.prog 6 #[.int .i64 own, .int .i64 other] W fun e W' => e = .returned (.tuple #[.pointer (some ⟨W.heap.size, 0, none⟩), .int .i64 0]) ∧
    Tb W' W.heap.size W.heap.size (fun k => k = W.heap.size) own other (.slice none 0 0) [] Sd.zero Sd.zero ∧ Below W.heap.size W W' ∧ W'.heap.size = W.heap.size + 1 := by
  unfold mayT at h
  simp only [Bool.and_eq_true, decide_eq_true_eq] at h
  obtain ⟨⟨⟨⟨h1, h2⟩, h3⟩, h4⟩, h5⟩ := h
  have g1 : ¬ own < 1 := by omega
  have g2 : ¬ 12 < own := by omega
  have g3 : ¬ other < 0 := by omega
  have g4 : ¬ 12 < other := by omega
  have g5 : (own == other) = false := by simpa using h5
  clear h1 h2 h3 h4
  go_enter Try.func6, Try.ntmps6
  go_wp2_with fail
  go_ret2
  have e := tc_zero own other
  exact ⟨rfl, ⟨rfl, fun k hk => by simp [Value.ownBlock] at hk, by rw [e]; exact Blk.new W 64 _, World.ownsRow_nil _ _ _ _, fun k hk => by subst hk; simp⟩, (Below.refl _ _).alloc (Nat.le_refl _) _, by simp⟩
section
variable {B t : Nat} {F : Nat → Prop} {own other : Int} {v : Value} {cs : List Ct} {a b : Sd} (W : World)
theorem made_any (T : Tb W B t F own other v cs a b) (h : own ≠ 0) : Calls Try.prog 16 #[.pointer (some ⟨t, 0, none⟩)] W fun e W' => e = .returned (.bool true) ∧ W = W' := by
  have c0 := T.c0
  have q : (own != 0) = true := by simpa using h
  clear T
  go_enter Try.func16, Try.ntmps16
  go_wp2_with fail
  go_ret
  exact ⟨rfl, rfl⟩
theorem full_any (T : Tb W B t F own other v cs a b) : Calls Try.prog 18 #[.pointer (some ⟨t, 0, none⟩)] W fun e W' => e = .returned (.bool (decide (20 ≤ cs.length))) ∧ W = W' := by
  have c2 := T.c2
  obtain ⟨A, c, rfl, -⟩ := ownG_slice T.row
  clear T
  by_cases h : (20 : Int) ≤ (cs.length : Nat)
  · rw [decide_eq_true (show 20 ≤ cs.length by omega)]
    go_enter Try.func18, Try.ntmps18
    go_wp2_with fail
    go_ret
    exact ⟨by simp, rfl⟩
  · rw [decide_eq_false (show ¬ 20 ≤ cs.length by omega)]
    go_enter Try.func18, Try.ntmps18
    go_wp2_with fail
    go_ret
    exact ⟨by simp, rfl⟩
theorem next_any (T : Tb W B t F own other v cs a b) (hl : cs.length ≤ 100000) : Calls Try.prog 22 #[.pointer (some ⟨t, 0, none⟩)] W fun e W' => e = .returned (.int .i64 ((cs.length + 1 : Nat) : Int)) ∧ W = W' := by
  have c2 := T.c2
  obtain ⟨A, c, rfl, -⟩ := ownG_slice T.row
  clear T
  have e1 : wrap64 ((cs.length : Int) + 1) = ((cs.length + 1 : Nat) : Int) := by unfold wrap64; omega
  have e2 : IntKind.i64.wrap ((cs.length : Int) + 1) = ((cs.length + 1 : Nat) : Int) := by rw [IntKind.wrap_i64]; omega
  clear hl
  go_enter Try.func22, Try.ntmps22
  go_wp2_with fail
  go_ret
  exact ⟨by first | rfl | (rw [e2]) | (rw [e1]), rfl⟩
theorem other_any (T : Tb W B t F own other v cs a b) : Calls Try.prog 24 #[.pointer (some ⟨t, 0, none⟩)] W fun e W' => e = .returned (.int .i64 other) ∧ W = W' := by
  have c1 := T.c1
  clear T
  go_enter Try.func24, Try.ntmps24
  go_wp2_with fail
  go_ret
  exact ⟨rfl, rfl⟩
end
theorem info_ct : ∃ i z, Try.prog.info? 47 = some i ∧ i.zero = some z ∧ i.size = 14 ∧ i.bytes = 64 ∧ z.cells.size = 14 := by
  have h : ((Try.prog.info? 47).bind fun i => i.zero.map fun z => (i.size, i.bytes, z.cells.size)) = some (14, 64, 14) := by kernel_rfl
  cases hi : Try.prog.info? 47 with
  | none => rw [hi] at h; cases h
  | some i =>
    rw [hi] at h
    simp only [Option.bind_some, Option.map_eq_some_iff, Prod.mk.injEq] at h
    obtain ⟨z, hz, h1, h2, h3⟩ := h
    exact ⟨i, z, rfl, hz, h1, h2, h3⟩
set_option maxRecDepth 20000 in
theorem clonec_any (W : World) (B : Nat) (v : Value) (l : List Ct) (h : W.ownsRow B 47 14 v l.length (cts l)) (hm : l.length ≤ 100000) : Calls Try.prog 15 #[v] W fun e W' => ∃ v', e = .returned v' ∧ W'.ownsRow W.heap.size 47 14 v' l.length (cts l) ∧ Below W.heap.size W W' := by
  obtain ⟨A, c, rfl, hc, hs, -⟩ := ownG_slice h
  obtain ⟨n, hn⟩ : ∃ n, n = l.length := ⟨_, rfl⟩
  rw [← hn] at hs hm ⊢
  have HN := Lib.hid hn
  clear h hn hc
  cases A with
  | none =>
    have hl : cts l = [] := by
      rcases hs with ⟨ad, e, _⟩ | ⟨_, _, h⟩
      · cases e
      · exact h
    have hn : n = 0 := by
      have h1 := cts_len l
      rw [hl] at h1
      have := HN.out
      simp at h1
      omega
    subst hn
    rw [hl]
    have hnil : ∀ w, (binOp .eql 36 (.slice none 0 c) (.slice none 0 0)).run Try.prog w = .ok (.bool true) w := fun w => Lib.run_eql_slice_nil (P := Try.prog) w 36 47 none 0 c 0 0 Try.underlying36
    clear hs hl
    go_enter Try.func15, Try.ntmps15
    go_wp2_with fail
    go_ret
    exact ⟨_, rfl, World.ownsRow_nil _ _ _ _, Below.refl _ _⟩
  | some ad =>
    have HS := Lib.hid hs
    have hlit : (W.alloc (.cells #[] 47)).ownsRow W.heap.size 47 14 (.slice (some ⟨W.heap.size, 0, none⟩) 0 0) 0 [] := ownG_empty W _ _
    have hb1 := (Below.refl W.heap.size W).alloc (Nat.le_refl _) (.cells #[] 47)
    have hs1 := hs.below hb1
    have HM := Lib.hid hm
    obtain ⟨i0, z0, hi, hz, hsz, hby, hzs⟩ := info_ct
    have hnil : ∀ w, (binOp .eql 36 (.slice (some ad) n c) (.slice none 0 0)).run Try.prog w = .ok (.bool false) w := fun w => Lib.run_eql_slice_nil (P := Try.prog) w 36 47 (some ad) n c 0 0 Try.underlying36
    clear hs hm
    go_enter Try.func15, Try.ntmps15
    go_wp2_with (first | (at_builtin; refine wpList_append_g (by rfl) _ _ 36 rfl W.heap.size 47 i0 z0 Try.underlying36 hi hz (by rw [hsz]; exact hzs) (by rw [hsz]; decide) _ 0 [] rfl (by rw [hsz]; exact hlit) (some ad) n c (cts l) rfl (by rw [hsz, cts_len, HN.out]) hs1 (cts_ones _) (by unfold maxLen; have := HM.out; omega) (by rw [hby]; have := HM.out; omega) (by simp) ?_; intro v' W1 hown hgrow hloc; rw [hsz, Nat.zero_add, List.nil_append] at hown; have HB := Lib.hid (ownG_below hgrow hlit (Nat.le_refl _) (by simp) hb1); have HO := Lib.hid hown; obtain ⟨A', c', rfl, -⟩ := ownG_slice hown; clear hown hgrow hloc))
    go_ret
    exact ⟨_, rfl, HO.out, HB.out⟩
section
variable {B t : Nat} {F : Nat → Prop} {own other : Int} {v : Value} {cs : List Ct} {a b : Sd} (W : World)
theorem cuts_any (T : Tb W B t F own other v cs a b) (hl : cs.length ≤ 100000) : Calls Try.prog 7 #[.pointer (some ⟨t, 0, none⟩)] W fun e W' => ∃ v', e = .returned v' ∧ W'.ownsRow W.heap.size 47 14 v' cs.length (cts cs) ∧ Below W.heap.size W W' := by
  have c2 := T.c2
  have HC := Lib.hid (clonec_any W B v cs T.row hl)
  clear T hl
  go_enter Try.func7, Try.ntmps7
  go_wp2_with (go_at_call 15; refine HC.out.mono ?_; rintro e w1 ⟨v', rfl, hO, hB⟩; have HO := Lib.hid hO; have HB := Lib.hid hB; clear hO hB)
  go_ret
  exact ⟨_, rfl, HO.out, HB.out⟩
end
end Go.Proofs.Ytbnapbjmffajfaa
