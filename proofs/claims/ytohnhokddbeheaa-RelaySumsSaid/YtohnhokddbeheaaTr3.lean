/-
tree: which edges count; edges.
-/
import Derived.Test.YtohnhokddbeheaaTr2
namespace Go.Proofs.Ytohnhokddbeheaa
open Go.RowKit
set_option linter.unusedSimpArgs false
set_option linter.unusedVariables false
namespace Tr
theorem load_midg {P : Program} {ops : Array Oper} {rest : List Oper} {op : Oper} {a : Act} {w : World} {Q : Exit → Act → World → Prop} (hw : Region.wanted op (yielded ops a.tmps) = true) (ty : TypeId) (x : Operand) (ho : op.op = .load ty x)
    (b o : Nat) (hx : a.eval x = .pointer (some ⟨b, o, none⟩)) (cs : List Value) (d : TypeDesc) (hc : w.rangeAt b o cs)
    (hu : P.underlying ty = some d) (hd : d.isRow = true) (hi : (P.info? ty).map (·.size) = some cs.length)
    (h : wpList P ops Q rest (a.put op.dst (.agg cs.toArray)) w) : wpList P ops Q (op :: rest) a w :=
  wpList_step fun _ hK => by
    rw [if_pos hw]
    exact wp_load_mid ty x ho b o hx cs d hc hu hd hi (hK _ _ h)
/-- Thirteen times thirteen bools. -/
def fl (f : Nat → Bool) : List Value := (List.range 169).map fun i => .bool (f i)
theorem fl_len (f : Nat → Bool) : (fl f).length = 169 := by simp [fl]
theorem fl_get (f : Nat → Bool) {i : Nat} (h : i < 169) : (fl f)[i]? = some (.bool (f i)) := by
  unfold fl
  rw [List.getElem?_map, List.getElem?_range h]; rfl
theorem fl_set (f : Nat → Bool) (i : Nat) : (fl f).toArray.setIfInBounds i (.bool true) = (fl fun j => f j || decide (j = i)).toArray := by
  rw [List.setIfInBounds_toArray]
  congr 1
  apply List.ext_getElem?
  intro j
  rw [List.getElem?_set]
  by_cases hj : j < 169
  · rw [fl_get _ hj, fl_get _ hj, fl_len]
    by_cases h : i = j
    · subst h; simp [hj]
    · rw [if_neg h]; simp [Ne.symm h]
  · have h1 : ∀ g, (fl g)[j]? = none := fun g => List.getElem?_eq_none (by rw [fl_len]; omega)
    rw [h1, h1, fl_len]
    by_cases h : i = j
    · subst h; simp [hj]
    · simp [h]
attribute [irreducible] fl
theorem there_nat {k : Nat → Int} {n : Int} (h : thereB k n = true) : ∃ m : Nat, n = (m : Nat) ∧ 1 ≤ m ∧ m ≤ 12 := by
  have := there_in h
  exact ⟨n.toNat, by omega, by omega, by omega⟩
section
variable (W : World) {gt gf : Nat} {f : Nat → Bool}
set_option maxRecDepth 20000 in
set_option maxHeartbeats 4000000 in
theorem edged1_any (t : Tv) (hT : Blk W gt 25 t.cells.toArray) (hF : Blk W gf 83 (fl f).toArray) (a b : Int) :
    Calls Try.prog 70 #[.int .i64 a, .int .i64 b, .pointer (some ⟨gt, 0, none⟩), .pointer (some ⟨gf, 0, none⟩)] W fun e W' => e = .returned (.bool (thereB t.k a && thereB t.k b && f (a.toNat * 13 + b.toNat))) ∧ Below W.heap.size W W' := by
  have HT := Lib.hid hT
  have HFF := Lib.hid hF
  have HA := Lib.hid (there_any W t a)
  have hr0 : W.rangeAt gt 0 t.cells := hT.range
  clear hT hF
  cases ha : thereB t.k a with
  | false =>
    rw [ha] at HA
    clear ha
    go_enter Try.func70, Try.ntmps70
    go_wp2_with (first | (refine wpList_load_mid rfl 25 _ rfl _ _ rfl t.cells _ hr0 Try.underlying25 rfl (tvinfo t) ?_) | (go_at_call 52; refine HA.out.mono ?_; rintro e w2 ⟨rfl, hb⟩; have HB2 := Lib.hid hb; clear hb HA))
    go_ret
    exact ⟨rfl, HB2.out⟩
  | true =>
    rw [ha] at HA
    obtain ⟨na, ea, ha1, ha2⟩ := there_nat ha
    clear ha
    cases hb : thereB t.k b with
    | false =>
      have HBB := Lib.hid hb
      clear hb ea ha1 ha2
      go_enter Try.func70, Try.ntmps70
      go_wp2_with (first | (refine load_midg rfl 25 _ rfl _ _ rfl t.cells _ hr0 Try.underlying25 rfl (tvinfo t) ?_; (try simp only [Act.put, List.setIfInBounds_toArray, List.set_cons_zero, List.set_cons_succ])) | (go_at_call 52; first | (refine HA.out.mono ?_; rintro e w2 ⟨rfl, hb⟩; have HB2 := Lib.hid hb; have hr0 := (HT.out.next hb).range; have HA2 := Lib.hid (there_any w2 t b); rw [HBB.out] at HA2; clear hb HA) | (refine HA2.out.mono ?_; rintro e w3 ⟨rfl, hb⟩; have HB3 := Lib.hid (HB2.out.trans (hb.mono HB2.out.size)); clear hb HA2)))
      go_ret
      exact ⟨rfl, HB3.out⟩
    | true =>
      have HBB := Lib.hid hb
      obtain ⟨nb, eb, hb1, hb2⟩ := there_nat hb
      clear hb
      subst ea eb
      have e1 : ¬ ((na : Nat) : Int) < 0 := by omega
      have e2 : ((na : Nat) : Int) < 13 := by omega
      have e3 : na < 13 := by omega
      have e4 : ¬ ((nb : Nat) : Int) < 0 := by omega
      have e5 : ((nb : Nat) : Int) < 13 := by omega
      have e6 : nb < 13 := by omega
      have HC := Lib.hid (show ∀ w, Below W.heap.size W w → w.cell? ⟨gf, na * 13 + nb, none⟩ = some (.bool (f (na * 13 + nb))) from fun w hb => by
        rw [(HFF.out.next hb).cell, List.getElem?_toArray]; exact fl_get f (by omega))
      clear ha1 ha2 hb1 hb2
      go_enter Try.func70, Try.ntmps70
      go_wp2_with (first | (refine load_midg rfl 25 _ rfl _ _ rfl t.cells _ hr0 Try.underlying25 rfl (tvinfo t) ?_; (try simp only [Act.put, List.setIfInBounds_toArray, List.set_cons_zero, List.set_cons_succ])) | (go_at_call 52; first | (refine HA.out.mono ?_; rintro e w2 ⟨rfl, hb⟩; have HB2 := Lib.hid hb; have hr0 := (HT.out.next hb).range; have HA2 := Lib.hid (there_any w2 t (nb : Nat)); rw [HBB.out] at HA2; clear hb HA) | (refine HA2.out.mono ?_; rintro e w3 ⟨rfl, hb⟩; have HB3 := Lib.hid (HB2.out.trans (hb.mono HB2.out.size)); have c3 := HC.out w3 HB3.out; clear hb HA2)))
      go_ret
      exact ⟨by simp, HB3.out⟩
end
end Tr
end Go.Proofs.Ytohnhokddbeheaa
