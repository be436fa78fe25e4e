/-
relay: what went to a neighbour came from the others: the sums.
-/
import Derived.Test.YtohnhokddbeheaaTOpen
import Derived.Test.YtohnhokddbeheaaOpenG
import Derived.Test.YtohnhokddbeheaaLaw
import Derived.Test.YtohnhokddbeheaaRl6
namespace Go.Proofs.Ytohnhokddbeheaa
open Go.RowKit
set_option linter.unusedSimpArgs false
set_option linter.unusedVariables false
namespace Rl
open Tr
/-- How many came of all. -/
def camS (x : R) (D : List Nat) : Nat := (D.map fun n => x.c ((n - 1) * 2)).sum
theorem came_c (x : R) (f n : Nat) (hn : 1 ≤ n) : (x.came f).c ((n - 1) * 2) = (if n = f + 1 then x.c ((n - 1) * 2) + 1 else x.c ((n - 1) * 2)) ∧ (x.came f).c ((n - 1) * 2 + 1) = x.c ((n - 1) * 2 + 1) := by
  constructor
  · show (if (n - 1) * 2 = f * 2 then x.c (f * 2) + 1 else x.c ((n - 1) * 2)) = _
    by_cases h : n = f + 1
    · subst h
      rw [if_pos (by omega), if_pos rfl]
      rw [show (f + 1 - 1) * 2 = f * 2 by omega]
    · rw [if_neg (by omega), if_neg h]
  · show (if (n - 1) * 2 + 1 = f * 2 then _ else x.c ((n - 1) * 2 + 1)) = _
    rw [if_neg (by omega)]
theorem cam_no (x : R) (f : Nat) : ∀ D : List Nat, (∀ n ∈ D, 1 ≤ n) → f + 1 ∉ D → camS (x.came f) D = camS x D
  | [], _, _ => rfl
  | n :: D, h1, hf => by
    have ih := cam_no x f D (fun k hk => h1 k (List.mem_cons_of_mem _ hk)) (fun h => hf (List.mem_cons_of_mem _ h))
    unfold camS at ih ⊢
    rw [List.map_cons, List.map_cons, List.sum_cons, List.sum_cons, ih, (came_c x f n (h1 n (by simp))).1, if_neg (fun e => hf (by rw [e]; simp))]
theorem cam_yes (x : R) (f : Nat) : ∀ D : List Nat, D.Nodup → (∀ n ∈ D, 1 ≤ n) → f + 1 ∈ D → camS (x.came f) D = camS x D + 1
  | [], _, _, h => by simp at h
  | n :: D, hd, h1, hf => by
    have h2 := fun k hk => h1 k (List.mem_cons_of_mem n hk)
    by_cases hn : n = f + 1
    · have ih := cam_no x f D h2 (by rw [← hn]; exact (List.nodup_cons.1 hd).1)
      unfold camS at ih ⊢
      rw [List.map_cons, List.map_cons, List.sum_cons, List.sum_cons, ih, (came_c x f n (h1 n (by simp))).1, if_pos hn]
      omega
    · have ih := cam_yes x f D (List.nodup_cons.1 hd).2 h2 (by rcases List.mem_cons.1 hf with e | e; exact absurd e.symm hn; exact e)
      unfold camS at ih ⊢
      rw [List.map_cons, List.map_cons, List.sum_cons, List.sum_cons, ih, (came_c x f n (h1 n (by simp))).1, if_neg hn]
      omega
theorem cam_went (x : R) {L : List Nat} (hd : L.Nodup) (h1 : ∀ n ∈ L, 1 ≤ n) : ∀ D : List Nat, (∀ n ∈ D, 1 ≤ n) → camS (x.went L) D = camS x D
  | [], _ => rfl
  | n :: D, h2 => by
    have ih := cam_went x hd h1 D (fun k hk => h2 k (List.mem_cons_of_mem _ hk))
    unfold camS at ih ⊢
    rw [List.map_cons, List.map_cons, List.sum_cons, List.sum_cons, ih, (went_c L x hd h1 n (h2 n (by simp))).1]
/-- What holds after k labels: what came and went of a neighbour is not more than what came of all. -/
structure Inv (x : R) (D : List Nat) (k : Nat) : Prop where
  sum : ∀ n ∈ D, x.c ((n - 1) * 2 + 1) + x.c ((n - 1) * 2) ≤ camS x D
  le : ∀ i, x.c i ≤ 13 * k
theorem inv_zero (nd : Int) (t : Tv) (D : List Nat) : Inv ⟨nd, t, fun _ => 0⟩ D 0 := ⟨fun n _ => Nat.zero_le _, fun _ => Nat.le_refl _⟩
theorem next_D (t : Tv) (nd : Int) : (nextL t nd).Nodup ∧ (nextL t nd).length ≤ 12 ∧ ∀ n ∈ nextL t nd, 1 ≤ n ∧ n ≤ 12 := by
  refine ⟨?_, ?_, fun n hn => ?_⟩
  · unfold nextL thoseL; exact those_nodup _ 12
  · unfold nextL thoseL; exact those_le _ 12
  · exact ⟨(those_mem.1 hn).1, (those_mem.1 hn).2.1⟩
theorem inv_step {x y : R} {fr er : Int} {l : Lab} {L : List Nat} {k : Nat} (h : Inv x (nextL x.t x.nd) k) (hh : HearP x fr l L er y) : Inv y (nextL x.t x.nd) (k + 1) ∧ y.t = x.t ∧ y.nd = x.nd ∧ L.Pairwise (· < ·) ∧ L.length ≤ 12 ∧ ∀ n ∈ L, ((n : Nat) : Int) ≠ fr ∧ 1 ≤ n ∧ n ≤ 12 := by
  have hmono : Inv x (nextL x.t x.nd) (k + 1) := ⟨h.sum, fun i => by have := h.le i; omega⟩
  rcases hh with ⟨-, -, rfl, rfl⟩ | ⟨-, -, -, rfl, rfl⟩ | ⟨hj, -, -, hT, rfl⟩
  · exact ⟨hmono, rfl, rfl, by simp, by simp, by simp⟩
  · exact ⟨hmono, rfl, rfl, by simp, by simp, by simp⟩
  · obtain ⟨m, hm, hmf⟩ := (next_mem x.t x.nd fr).2 hj
    obtain ⟨hD, -, hDm⟩ := next_D x.t x.nd
    have hm1 := hDm m hm
    obtain ⟨f, hf⟩ : ∃ f, m = f + 1 := ⟨m - 1, by omega⟩
    have hfr : (fr - 1).toNat = f := by omega
    have hLm : ∀ n ∈ L, ((n : Nat) : Int) ≠ fr ∧ 1 ≤ n ∧ n ≤ 12 := fun n hn => by
      have h5 := (hT.2 n).1 hn
      have := there_in (jn_there h5.2.1).2
      exact ⟨h5.1, by omega, by omega⟩
    have hLd : L.Nodup := hT.1.imp fun h => Nat.ne_of_lt h
    have hL12 : L.length ≤ 12 := Nat.le_trans (nodup_len (m := thoseL fun _ => true) hLd (fun n hn => those_mem.2 ⟨(hLm n hn).2.1, (hLm n hn).2.2, rfl⟩)) (those_le _ 12)
    rw [hfr]
    refine ⟨⟨fun n hn => ?_, fun i => ?_⟩, (went_t L _).1, (went_t L _).2, hT.1, hL12, hLm⟩
    · have hn1 := (hDm n hn).1
      rw [cam_went _ hLd (fun n hn => (hLm n hn).2.1) _ (fun n hn => (hDm n hn).1), cam_yes x f _ hD (fun n hn => (hDm n hn).1) (by rw [← hf]; exact hm)]
      rw [(went_c L (x.came f) hLd (fun n hn => (hLm n hn).2.1) n hn1).1, (went_c L (x.came f) hLd (fun n hn => (hLm n hn).2.1) n hn1).2, (came_c x f n hn1).1, (came_c x f n hn1).2]
      have h6 := h.sum n hn
      by_cases hnf : n = f + 1
      · rw [if_pos hnf, if_neg (fun hnL => (hLm n hnL).1 (by rw [← hmf, hf, hnf]))]
        omega
      · rw [if_neg hnf]
        split <;> omega
    · have h7 := went_le L (x.came f) (13 * k + 1) (put_le h.le (by have := h.le (f * 2); omega)) i
      omega
theorem cam_le {x : R} {M : Nat} (h : ∀ i, x.c i ≤ M) : ∀ D : List Nat, camS x D ≤ M * D.length
  | [] => by simp [camS]
  | n :: D => by
    have ih := cam_le h D
    have := h ((n - 1) * 2)
    unfold camS at ih ⊢
    have e : M * (D.length + 1) = M + M * D.length := by rw [Nat.mul_add, Nat.mul_one, Nat.add_comm]
    rw [List.map_cons, List.sum_cons, List.length_cons, e]
    exact Nat.add_le_add this ih
theorem cam_take {x : R} {D : List Nat} {j n : Nat} (h : D[j]? = some n) : camS x (D.take (j + 1)) = camS x (D.take j) + x.c ((n - 1) * 2) := by
  unfold camS
  rw [List.take_add_one, h]
  simp
end Rl
end Go.Proofs.Ytohnhokddbeheaa
namespace Go.Proofs.Ytohnhokddbeheaa
open Go.RowKit Go.ChangeShapes Go.WideShapes Go.ChangeAt Go.WideElems
set_option linter.unusedSimpArgs false
set_option linter.unusedVariables false
namespace Rl
theorem six_cells {cs v : List Value} {a b c d e : Value} (hl : cs.length = 17) (h0 : (cs.drop 0).take 1 = [a]) (h1 : (cs.drop 1).take 1 = [b]) (h2 : (cs.drop 2).take 1 = [c]) (h3 : (cs.drop 3).take 1 = [d]) (h4 : (cs.drop 4).take 1 = [e]) (h5 : (cs.drop 5).take 12 = v) : cs = [a, b, c, d, e] ++ v := by
  match cs, hl with
  | x0 :: x1 :: x2 :: x3 :: x4 :: r, hl =>
    simp only [List.drop_zero, List.drop_succ_cons, List.take_succ_cons, List.take_zero, List.cons.injEq, and_true] at h0 h1 h2 h3 h4 h5
    rw [List.take_of_length_le (by simp at hl; omega)] at h5
    rw [h0, h1, h2, h3, h4, h5]; rfl
theorem cells_u32 : Try.prog.cellsOf 51 = 1 := by kernel_rfl
theorem cells_vec : Try.prog.cellsOf 53 = 12 := by kernel_rfl

theorem bound_u64 {a : Int} (h : (Lit.int .u64 a).wf = true) : ∃ n : Nat, a = (n : Nat) ∧ n < 18446744073709551616 := by
  have := bounds_u64 h
  exact ⟨a.toNat, by omega, by omega⟩
section
variable {H : Type} {enc : TypeId × Value → H} {w : World}

def cellNat : Option Value → Nat
  | some (.int .u32 n) => n.toNat % 4294967296
  | _ => 0
theorem cellNat_lt (o : Option Value) : cellNat o < 4294967296 := by
  unfold cellNat; split <;> omega

theorem vec_of {cs : List Value} (hl : cs.length = 12) (h : ∀ i, i < 12 → ∃ n : Int, cs[i]? = some (.int .u32 n) ∧ 0 ≤ n ∧ n < 4294967296) : ∃ f : Nat → Nat, cs = vl f ∧ ∀ i, f i < 4294967296 := by
  refine ⟨fun i => cellNat cs[i]?, ?_, fun i => cellNat_lt _⟩
  apply List.ext_getElem?
  intro i
  by_cases hi : i < 12
  · obtain ⟨n, e, h0, h1⟩ := h i hi
    rw [vl_get hi, e]
    have : ((cellNat (some (.int .u32 n)) : Nat) : Int) = n := by
      show ((n.toNat % 4294967296 : Nat) : Int) = n
      omega
    rw [this]
  · rw [List.getElem?_eq_none (by omega), List.getElem?_eq_none (by rw [vl_len]; omega)]

set_option maxRecDepth 100000 in
theorem vec_trod {base fuel : Nat} {sp : Nat → Bool} {hd : Bool} {cs : List Value} {x : DataW H × List MemPlace} (h : DataW.trod enc Try.prog w base sp hd fuel 53 cs = some x) : ∃ f : Nat → Nat, cs = vl f ∧ ∀ i, f i < 4294967296 := by
  obtain ⟨xs, m, _, _, hlen, hx, hg⟩ := DataW.trod_array Try.underlying53 h
  rw [cells_vec] at hlen
  refine vec_of hlen fun i hi => ?_
  have h1 := hg i hi
  rw [cells_u32, Nat.mul_one, List.drop_eq_getElem_cons (by omega), List.take_succ_cons, List.take_zero] at h1
  have h2 : xs[i]? = some (xs[i]'(by omega)) := List.getElem?_eq_getElem (by omega)
  rw [h2] at h1
  obtain ⟨n, e, _, hw⟩ := DataW.trod_int Try.underlying51 h1
  have hb := bounds_u32 hw
  refine ⟨n, ?_, by omega, by omega⟩
  rw [List.getElem?_eq_getElem (by omega)]
  rw [(List.cons.inj e).1]

theorem okWide_array {P : Program} {w : World} {r : Reach} {base : Nat} {t e : TypeId} {n : Nat} {v : Value} (ht : P.underlying t = some (.array n e)) (h : Value.okWide P w r base t v) : ∃ cs, v = .agg cs ∧ cs.size = P.cellsOf t := by
  simp only [Value.okWide, ht] at h
  obtain ⟨cs, h1, h2, _⟩ := h
  exact ⟨cs, h1, h2⟩
structure LabOk (l : Lab) : Prop where
  t : l.t < 18446744073709551616
  n : l.n < 4294967296
  nd1 : -9223372036854775808 ≤ l.nd
  nd2 : l.nd ≤ 9223372036854775807
  ca1 : -9223372036854775808 ≤ l.ca
  ca2 : l.ca ≤ 9223372036854775807
  se1 : -9223372036854775808 ≤ l.se
  se2 : l.se ≤ 9223372036854775807
  f : ∀ i, l.f i < 4294967296

theorem cells_lab : Try.prog.cellsOf 55 = 17 := by kernel_rfl
theorem cells_u64 : Try.prog.cellsOf 50 = 1 := by kernel_rfl
theorem cells_int : Try.prog.cellsOf 3 = 1 := by kernel_rfl
theorem bound_u32 {n : Int} (h : (Lit.int .u32 n).wf = true) : ∃ m : Nat, n = (m : Nat) ∧ m < 4294967296 := by
  have hb := bounds_u32 h
  exact ⟨n.toNat, by omega, by omega⟩

set_option maxRecDepth 100000 in
theorem open_lab_cells {base fuel : Nat} {sp : Nat → Bool} {hd : Bool} {cs : List Value} {x : DataW H × List MemPlace} (h : DataW.trod enc Try.prog w base sp hd fuel 55 cs = some x) : ∃ l : Lab, cs = l.cells ∧ LabOk l := by
  obtain ⟨xs, m, _, hx, hcl, hlen, hg⟩ := DataW.trod_struct Try.underlying55 h
  rw [cells_lab] at hcl
  have g0 : DataW.trod enc Try.prog w base sp hd m 50 ((cs.drop 0).take (Try.prog.cellsOf 50)) = xs[0]? := hg 0 _ rfl
  have g1 : DataW.trod enc Try.prog w base sp hd m 3 ((cs.drop 1).take (Try.prog.cellsOf 3)) = xs[1]? := hg 1 _ rfl
  have g2 : DataW.trod enc Try.prog w base sp hd m 51 ((cs.drop 2).take (Try.prog.cellsOf 51)) = xs[2]? := hg 2 _ rfl
  have g3 : DataW.trod enc Try.prog w base sp hd m 3 ((cs.drop 3).take (Try.prog.cellsOf 3)) = xs[3]? := hg 3 _ rfl
  have g4 : DataW.trod enc Try.prog w base sp hd m 3 ((cs.drop 4).take (Try.prog.cellsOf 3)) = xs[4]? := hg 4 _ rfl
  have g5 : DataW.trod enc Try.prog w base sp hd m 53 ((cs.drop 5).take (Try.prog.cellsOf 53)) = xs[5]? := hg 5 _ rfl
  have hlen6 : xs.length = 6 := hlen
  clear hg hlen
  rw [cells_int] at g1 g3 g4
  rw [cells_u64] at g0
  rw [cells_u32] at g2
  rw [cells_vec] at g5
  rw [List.getElem?_eq_getElem (by omega)] at g0 g1 g2 g3 g4 g5
  obtain ⟨t, e0, _, w0⟩ := DataW.trod_int Try.underlying50 g0
  obtain ⟨nd, e1, _, w1⟩ := DataW.trod_int Try.underlying3 g1
  obtain ⟨n, e2, _, w2⟩ := DataW.trod_int Try.underlying51 g2
  obtain ⟨ca, e3, _, w3⟩ := DataW.trod_int Try.underlying3 g3
  obtain ⟨se, e4, _, w4⟩ := DataW.trod_int Try.underlying3 g4
  obtain ⟨f, e5, hf⟩ := vec_trod g5
  have b1 := bounds_i64 w1
  have b3 := bounds_i64 w3
  have b4 := bounds_i64 w4
  obtain ⟨t', rfl, b0⟩ := bound_u64 w0
  obtain ⟨n', rfl, b2⟩ := bound_u32 w2
  refine ⟨⟨t', nd, n', ca, se, f⟩, ?_, ⟨b0, b2, b1.1, b1.2, b3.1, b3.2, b4.1, b4.2, hf⟩⟩
  rw [six_cells hcl e0 e1 e2 e3 e4 e5]
  unfold Lab.cells; rfl
/-- A label that comes from a node. -/
structure Cm where
  fr : Int
  l : Lab
def Cm.cells (o : Cm) : List Value := .int .i64 o.fr :: o.l.cells
theorem cm_len (o : Cm) : o.cells.length = 18 := by unfold Cm.cells; rw [List.length_cons, lab_len]
theorem cells_cm : Try.prog.cellsOf 57 = 18 := by kernel_rfl
set_option maxRecDepth 100000 in
theorem open_cm {base fuel : Nat} {sp : Nat → Bool} {hd : Bool} {cs : List Value} {x : DataW H × List MemPlace} (h : DataW.trod enc Try.prog w base sp hd fuel 57 cs = some x) : ∃ o : Cm, cs = o.cells ∧ LabOk o.l := by
  obtain ⟨xs, m, _, hx, hcl, hlen, hg⟩ := DataW.trod_struct Try.underlying57 h
  rw [cells_cm] at hcl
  have g0 : DataW.trod enc Try.prog w base sp hd m 3 ((cs.drop 0).take (Try.prog.cellsOf 3)) = xs[0]? := hg 0 _ rfl
  have g1 : DataW.trod enc Try.prog w base sp hd m 55 ((cs.drop 1).take (Try.prog.cellsOf 55)) = xs[1]? := hg 1 _ rfl
  have hlen2 : xs.length = 2 := hlen
  clear hg hlen
  rw [cells_int] at g0
  rw [cells_lab] at g1
  rw [List.getElem?_eq_getElem (by omega)] at g0 g1
  obtain ⟨fr, e0, _, _⟩ := DataW.trod_int Try.underlying3 g0
  obtain ⟨l, e1, hl⟩ := open_lab_cells g1
  refine ⟨⟨fr, l⟩, ?_, hl⟩
  match cs, hcl with
  | x0 :: cs, hcl =>
    simp only [List.drop_zero, List.drop_succ_cons, List.take_succ_cons, List.take_zero, List.cons.injEq, and_true] at e0 e1
    rw [List.take_of_length_le (by simp at hcl; omega)] at e1
    rw [e0, e1]
    rfl
end
end Rl
end Go.Proofs.Ytohnhokddbeheaa
