/-
cuts: stances, said ones and cuts built.
-/
import Derived.Test.YtbnapbjmffajfaaCu4
namespace Go.Proofs.Ytbnapbjmffajfaa
open Go.RowKit
set_option linter.unusedSimpArgs false
set_option linter.unusedVariables false

theorem fill_sc {place : Nat → Option (Nat × Nat)} {i off : Nat} {v m : Value} {pre post : List Value} {rest : List (Nat × Value)} (h : place i = some (off, 1)) (hv : v.cells = #[v]) (hp : pre.length = off) :
    Instr.fill place (pre ++ (m :: post)).toArray ((i, v) :: rest) = Instr.fill place (pre ++ (v :: post)).toArray rest := by
  have h1 := fill_one (place := place) (i := i) (off := off) (cs := [v]) (pre := pre) (mid := [m]) (post := post) (rest := rest) h hp rfl
  have h2 : Instr.fill place (pre ++ (m :: post)).toArray ((i, v) :: rest) = Instr.fill place (pre ++ (m :: post)).toArray ((i, .agg [v].toArray) :: rest) := by
    have hv2 : (Value.agg [v].toArray).cells = v.cells := by rw [hv]; rfl
    rw [Instr.fill, Instr.fill, h]
    dsimp only
    rw [hv2]
  exact h2.trans h1
theorem ct_zero : Ct.zero.cells.toArray = #[.int .i64 0, .int .u64 0, .int .u32 0, .int .u32 0, .int .u32 0, .int .u32 0, .int .u32 0, .int .u32 0, .int .u32 0, .int .u32 0, .int .u32 0, .int .u32 0, .int .u32 0, .int .u32 0] := by
  unfold Ct.cells Ct.zero vl
  rfl
theorem built_ct_fill (parts : List (Nat × Value)) : Try.prog.built 47 parts = Instr.fill (#[(0, 1), (1, 1), (2, 12)][·]?) #[.int .i64 0, .int .u64 0, .int .u32 0, .int .u32 0, .int .u32 0, .int .u32 0, .int .u32 0, .int .u32 0, .int .u32 0, .int .u32 0, .int .u32 0, .int .u32 0, .int .u32 0, .int .u32 0] parts := by kernel_rfl
theorem built_st_fill (parts : List (Nat × Value)) : Try.prog.built 39 parts = Instr.fill (#[(0, 1), (1, 1), (2, 12)][·]?) #[.bool false, .int .u64 0, .int .u32 0, .int .u32 0, .int .u32 0, .int .u32 0, .int .u32 0, .int .u32 0, .int .u32 0, .int .u32 0, .int .u32 0, .int .u32 0, .int .u32 0, .int .u32 0] parts := by kernel_rfl
theorem built_sd_fill (parts : List (Nat × Value)) : Try.prog.built 61 parts = Instr.fill (#[(0, 1), (1, 14)][·]?) #[.bool false, .bool false, .int .u64 0, .int .u32 0, .int .u32 0, .int .u32 0, .int .u32 0, .int .u32 0, .int .u32 0, .int .u32 0, .int .u32 0, .int .u32 0, .int .u32 0, .int .u32 0, .int .u32 0] parts := by kernel_rfl
def z12 : List Value := [.int .u32 0, .int .u32 0, .int .u32 0, .int .u32 0, .int .u32 0, .int .u32 0, .int .u32 0, .int .u32 0, .int .u32 0, .int .u32 0, .int .u32 0, .int .u32 0]
def z14 : List Value := .bool false :: .int .u64 0 :: z12
theorem ct_list (c : Ct) : c.cells = [.int .i64 c.o, .int .u64 (c.t : Nat)] ++ vl c.f := by unfold Ct.cells; rfl
theorem st_list (c : St) : c.cells = [.bool c.h, .int .u64 (c.t : Nat)] ++ vl c.f := by unfold St.cells; rfl
theorem sd_list (c : Sd) : c.cells = [.bool c.is] ++ c.s.cells := by unfold Sd.cells; rfl
theorem built_ct (c : Ct) : Try.prog.built 47 [(0, .int .i64 c.o), (1, .int .u64 (c.t : Nat)), (2, .agg (vl c.f).toArray)] = some c.cells.toArray := by
  rw [built_ct_fill, ct_list]
  obtain ⟨place, hpl⟩ : ∃ place : Nat → Option (Nat × Nat), place = (#[(0, 1), (1, 1), (2, 12)][·]?) := ⟨_, rfl⟩
  have p0 : place 0 = some (0, 1) := by rw [hpl]; rfl
  have p1 : place 1 = some (1, 1) := by rw [hpl]; rfl
  have p2 : place 2 = some (2, (vl c.f).length) := by rw [hpl, vl_len]; rfl
  rw [← hpl]
  refine (fill_sc (pre := []) (post := .int .u64 0 :: z12) p0 rfl rfl).trans ?_
  refine (fill_sc (pre := [_]) (post := z12) p1 rfl rfl).trans ?_
  refine (fill_one (pre := [_, _]) (mid := z12) (post := []) p2 rfl (by rw [vl_len]; rfl)).trans ?_
  rw [Instr.fill, List.append_nil]
theorem built_st3 (c : St) : Try.prog.built 39 [(0, .bool c.h), (1, .int .u64 (c.t : Nat)), (2, .agg (vl c.f).toArray)] = some c.cells.toArray := by
  rw [built_st_fill, st_list]
  obtain ⟨place, hpl⟩ : ∃ place : Nat → Option (Nat × Nat), place = (#[(0, 1), (1, 1), (2, 12)][·]?) := ⟨_, rfl⟩
  have p0 : place 0 = some (0, 1) := by rw [hpl]; rfl
  have p1 : place 1 = some (1, 1) := by rw [hpl]; rfl
  have p2 : place 2 = some (2, (vl c.f).length) := by rw [hpl, vl_len]; rfl
  rw [← hpl]
  refine (fill_sc (pre := []) (post := .int .u64 0 :: z12) p0 rfl rfl).trans ?_
  refine (fill_sc (pre := [_]) (post := z12) p1 rfl rfl).trans ?_
  refine (fill_one (pre := [_, _]) (mid := z12) (post := []) p2 rfl (by rw [vl_len]; rfl)).trans ?_
  rw [Instr.fill, List.append_nil]
theorem built_sd (c : Sd) : Try.prog.built 61 [(0, .bool c.is), (1, .agg c.s.cells.toArray)] = some c.cells.toArray := by
  rw [built_sd_fill, sd_list]
  obtain ⟨place, hpl⟩ : ∃ place : Nat → Option (Nat × Nat), place = (#[(0, 1), (1, 14)][·]?) := ⟨_, rfl⟩
  have p0 : place 0 = some (0, 1) := by rw [hpl]; rfl
  have p1 : place 1 = some (1, c.s.cells.length) := by rw [hpl, st_len]; rfl
  rw [← hpl]
  refine (fill_sc (pre := []) (post := z14) p0 rfl rfl).trans ?_
  refine (fill_one (pre := [_]) (mid := z14) (post := []) p1 rfl (by rw [st_len]; rfl)).trans ?_
  rw [Instr.fill, List.append_nil]
theorem sd_zero : Sd.zero.cells.toArray = #[.bool false, .bool false, .int .u64 0, .int .u32 0, .int .u32 0, .int .u32 0, .int .u32 0, .int .u32 0, .int .u32 0, .int .u32 0, .int .u32 0, .int .u32 0, .int .u32 0, .int .u32 0, .int .u32 0] := by
  unfold Sd.cells Sd.zero St.cells St.zero vl
  rfl
theorem built_sd1 : Try.prog.built 61 [(0, .bool true)] = some (Sd.mk true St.zero).cells.toArray := by
  rw [built_sd_fill]
  unfold Sd.cells St.cells St.zero vl
  rfl
/-- Who won a round. -/
def winA (own : Int) (a : Sd) : Ct := if a.s.h then ⟨own, a.s.t, a.s.f⟩ else Ct.zero
def winB (own other : Int) (a b : Sd) : Ct := if b.s.h && (decide ((winA own a).o = 0) || beatsB ⟨other, b.s.t, b.s.f⟩ (winA own a)) then ⟨other, b.s.t, b.s.f⟩ else winA own a
def won (own other : Int) (a b : Sd) : Option Ct :=
  if decide (own ≠ 0) && !a.is then none
  else if decide (other ≠ 0) && !b.is then none
  else if (winB own other a b).o = 0 then none else some (winB own other a b)
theorem sd_all {W : World} {b : Nat} {t : TypeId} {x : Sd} (h : Blk W b t x.cells.toArray) : W.rangeAt b 0 x.cells ∧ W.rangeAt b 3 (vl x.s.f) ∧ W.rangeAt b 1 x.s.cells ∧ W.cell? ⟨b, 0, none⟩ = some (.bool x.is) ∧ W.cell? ⟨b, 1, none⟩ = some (.bool x.s.h) ∧ W.cell? ⟨b, 2, none⟩ = some (.int .u64 (x.s.t : Nat)) := by
  have hc : ∀ i, W.cell? ⟨b, i, none⟩ = x.cells[i]? := fun i => by rw [h.cell, List.getElem?_toArray]
  exact ⟨h.range, fun j v hv => by rw [hc, show 3 + j = 1 + (2 + j) by omega, sd_1, st_2, hv], fun j v hv => by rw [hc, sd_1, hv], (hc 0).trans (sd_0 x), (hc 1).trans ((sd_1 x 0).trans (st_0 _)), (hc 2).trans ((sd_1 x 1).trans (st_1 _))⟩
end Go.Proofs.Ytbnapbjmffajfaa
