/-
Labels that came in.
Labels: their order, their pasts.
-/
import Derived.Test.YtgnfachjobohoaaLFix
import Derived.Test.YtgnfachjobohoaaOpens
import Derived.Test.YtgnfachjobohoaaCalls4
namespace Go.Proofs.Ytgnfachjobohoaa
open Go.ChangeShapes Go.WideShapes Go.ChangeAt Go.RowKit

structure Lab.Ok (l : Lab) : Prop where
  t : l.t < 18446744073709551616
  n : l.n < 4294967296
  nd1 : -9223372036854775808 ≤ l.nd
  nd2 : l.nd ≤ 9223372036854775807
  ca1 : -9223372036854775808 ≤ l.ca
  ca2 : l.ca ≤ 9223372036854775807
  se1 : -9223372036854775808 ≤ l.se
  se2 : l.se ≤ 9223372036854775807
  f : ∀ i, l.f i < 4294967296

section
variable {H : Type} {enc : TypeId × Value → H} {w : World}
theorem cells_lab : Try.prog.cellsOf 59 = 17 := by kernel_rfl
theorem cells_u64 : Try.prog.cellsOf 25 = 1 := by kernel_rfl
theorem cells_int : Try.prog.cellsOf 3 = 1 := by kernel_rfl
theorem bound_u32 {n : Int} (h : (Lit.int .u32 n).wf = true) : ∃ m : Nat, n = (m : Nat) ∧ m < 4294967296 := by
  have hb := bounds_u32 h
  exact ⟨n.toNat, by omega, by omega⟩

set_option maxRecDepth 100000 in
theorem open_lab_cells {base fuel : Nat} {sp : Nat → Bool} {hd : Bool} {cs : List Value} {x : DataW H × List MemPlace} (h : DataW.trod enc Try.prog w base sp hd fuel 59 cs = some x) : ∃ l : Lab, cs = l.cells ∧ l.Ok := by
  obtain ⟨xs, m, _, hx, hcl, hlen, hg⟩ := DataW.trod_struct Try.underlying59 h
  rw [cells_lab] at hcl
  have g0 : DataW.trod enc Try.prog w base sp hd m 25 ((cs.drop 0).take (Try.prog.cellsOf 25)) = xs[0]? := hg 0 _ rfl
  have g1 : DataW.trod enc Try.prog w base sp hd m 3 ((cs.drop 1).take (Try.prog.cellsOf 3)) = xs[1]? := hg 1 _ rfl
  have g2 : DataW.trod enc Try.prog w base sp hd m 22 ((cs.drop 2).take (Try.prog.cellsOf 22)) = xs[2]? := hg 2 _ rfl
  have g3 : DataW.trod enc Try.prog w base sp hd m 3 ((cs.drop 3).take (Try.prog.cellsOf 3)) = xs[3]? := hg 3 _ rfl
  have g4 : DataW.trod enc Try.prog w base sp hd m 3 ((cs.drop 4).take (Try.prog.cellsOf 3)) = xs[4]? := hg 4 _ rfl
  have g5 : DataW.trod enc Try.prog w base sp hd m 24 ((cs.drop 5).take (Try.prog.cellsOf 24)) = xs[5]? := hg 5 _ rfl
  have hlen6 : xs.length = 6 := hlen
  clear hg hlen
  rw [cells_int] at g1 g3 g4
  rw [cells_u64] at g0
  rw [cells_u32] at g2
  rw [cells_vec] at g5
  rw [List.getElem?_eq_getElem (by omega)] at g0 g1 g2 g3 g4 g5
  obtain ⟨t, e0, _, w0⟩ := DataW.trod_int Try.underlying25 g0
  obtain ⟨nd, e1, _, w1⟩ := DataW.trod_int Try.underlying3 g1
  obtain ⟨n, e2, _, w2⟩ := DataW.trod_int Try.underlying22 g2
  obtain ⟨ca, e3, _, w3⟩ := DataW.trod_int Try.underlying3 g3
  obtain ⟨se, e4, _, w4⟩ := DataW.trod_int Try.underlying3 g4
  obtain ⟨f, e5, hf⟩ := vec_trod g5
  have b1 := bounds_i64 w1
  have b3 := bounds_i64 w3
  have b4 := bounds_i64 w4
  obtain ⟨t', rfl, b0⟩ := bound_u64 w0
  obtain ⟨n', rfl, b2⟩ := bound_u32 w2
  refine ⟨⟨t', nd, n', ca, se, f⟩, ?_, ⟨b0, b2, b1.1, b1.2, b3.1, b3.2, b4.1, b4.2, hf⟩⟩
  rw [six_cells hcl e0 e1 e2 e3 e4 e5]
  unfold Lab.cells; rfl
theorem okWide_struct {P : Program} {w : World} {r : Reach} {base : Nat} {t : TypeId} {fs : Array Field} {v : Value} (ht : P.underlying t = some (.struct fs)) (h : Value.okWide P w r base t v) : ∃ cs, v = .agg cs ∧ cs.size = P.cellsOf t := by
  simp only [Value.okWide, ht] at h
  obtain ⟨cs, h1, h2, _⟩ := h
  exact ⟨cs, h1, h2⟩
set_option maxRecDepth 100000 in
theorem open_lab {r : Reach} {b0 base : Nat} {sp : Nat → Bool} {hd : Bool} {v : Value} {d : DataW H} {p : List MemPlace} (hv : Value.okWide Try.prog w r b0 59 v) (h : DataW.Trod enc Try.prog w base sp hd 59 v d p) :
    ∃ l : Lab, v = .agg l.cells.toArray ∧ l.Ok := by
  obtain ⟨cs, rfl, _⟩ := okWide_struct Try.underlying59 hv
  obtain ⟨fuel, hf⟩ := h
  obtain ⟨l, e, hok⟩ := open_lab_cells hf
  exact ⟨l, by rw [← e]; rfl, hok⟩
end
end Go.Proofs.Ytgnfachjobohoaa
namespace Go.Proofs.Ytgnfachjobohoaa

/-- A label that may be: its node, and what its Deps tell of it. -/
theorem right_node {l : Lab} (h : rightL l = true) : ∃ k : Nat, k < 12 ∧ l.nd = (k : Int) + 1 ∧ l.f k < 1048576 ∧ l.n = l.f k + 1 := by
  unfold rightL nextB at h
  simp only [Bool.and_eq_true, decide_eq_true_eq] at h
  obtain ⟨⟨_, ⟨h1, h2⟩, h3⟩, _⟩ := h
  obtain ⟨k, hk, hn⟩ := node_of h1
  have hg : getN l.f l.nd = l.f k := by unfold getN; rw [if_pos h1, hn]; congr 1; omega
  rw [hg] at h2 h3
  exact ⟨k, hk, hn, h2, h3⟩
theorem past_at {l : Lab} (h : rightL l = true) : ∃ k : Nat, k < 12 ∧ l.nd = (k : Int) + 1 ∧ l.f k < 1048576 ∧ l.n = l.f k + 1 ∧ ∀ i, pastF l i = if i = k then l.n else l.f i := by
  obtain ⟨k, hk, h1, h2, h3⟩ := right_node h
  refine ⟨k, hk, h1, h2, h3, fun i => ?_⟩
  unfold pastF
  rw [h1, h3]
  exact withF_at hk h2 i
theorem past_order {l : Lab} (h : rightL l = true) : ordI (pastF l) l.f = 1 := by
  obtain ⟨k, hk, h1, h2, h3⟩ := right_node h
  unfold pastF
  rw [h1, h3]
  exact ordI_next hk h2
theorem past_sum {l : Lab} (h : rightL l = true) : sumK (pastF l) 12 = sumK l.f 12 + 1 := by
  obtain ⟨k, hk, h1, h2, h3⟩ := right_node h
  unfold pastF
  rw [h1, h3]
  exact sumK_next hk h2
theorem past_lt {l : Lab} (h : rightL l = true) (hf : ∀ i, l.f i < 4294967296) : ∀ i, pastF l i < 4294967296 := fun i => by
  obtain ⟨k, hk, h1, h2, h3, h4⟩ := past_at h
  rw [h4 i]
  split
  · omega
  · exact hf i
theorem past_covers {l : Lab} (h : rightL l = true) : covB (pastF l) l.f = true := (covB_iff _ _).2 fun i _ => by
  obtain ⟨k, hk, h1, h2, h3, h4⟩ := past_at h
  rw [h4 i]
  split
  · rename_i e; subst e; omega
  · exact Nat.le_refl _
theorem past_has {l : Lab} (h : rightL l = true) : hasB (pastF l) l.nd l.n = true := by
  obtain ⟨k, hk, h1, h2, h3, h4⟩ := past_at h
  rw [h1, hasB_at hk (by omega) (by omega), h4 k, if_pos rfl]; simp
theorem bef_self {l : Lab} (h : rightL l = true) : befB l l = false := by
  obtain ⟨k, hk, h1, h2, h3⟩ := right_node h
  unfold befB
  rw [h1, hasB_at hk (by omega) (by omega), h3]; simp
theorem past_closed {a b : Lab} (ha : rightL a = true) (hb : rightL b = true) (hc : covB b.f (pastF a) = true) (he : a.ca = b.ca) : befB a b = true ∧ befB b a = false := by
  obtain ⟨k, hk, h1, h2, h3, h4⟩ := past_at ha
  obtain ⟨j, hj, g1, g2, g3⟩ := right_node hb
  have c := (covB_iff _ _).1 hc
  constructor
  · unfold befB
    have := c k hk
    rw [h4 k, if_pos rfl] at this
    rw [h1, hasB_at hk (by omega) (by omega), decide_eq_true he, decide_eq_true this]; rfl
  · unfold befB
    have := c j hj
    rw [h4 j] at this
    rw [g1, hasB_at hj (by omega) (by omega)]
    have : ¬ b.n ≤ a.f j := by split at this <;> (try subst_vars) <;> omega
    simp [this]
theorem closed_trans {a b c : Lab} (ha : rightL a = true) (hb : rightL b = true) (hcov : covB c.f (pastF b) = true) (h1 : befB a b = true) (h2 : befB b c = true) : befB a c = true := by
  obtain ⟨k, hk, e1, e2, e3⟩ := right_node ha
  obtain ⟨j, hj, g1, g2, g3, g4⟩ := past_at hb
  unfold befB at h1 h2 ⊢
  rw [e1, hasB_at hk (by omega) (by omega)] at h1
  rw [e1, hasB_at hk (by omega) (by omega)]
  simp only [Bool.and_eq_true, decide_eq_true_eq] at h1 h2 ⊢
  refine ⟨h1.1.trans h2.1, ?_⟩
  have := (covB_iff _ _).1 hcov k hk
  rw [g4 k] at this
  have h3 := h1.2
  split at this <;> (try subst_vars) <;> omega

theorem orK_less (v : Nat → Int) : orK v 4 0 < 0 ↔ v 0 < 0 ∨ (v 0 = 0 ∧ (v 1 < 0 ∨ (v 1 = 0 ∧ (v 2 < 0 ∨ (v 2 = 0 ∧ v 3 < 0))))) := by
  simp only [orK]
  by_cases h0 : v 0 = 0
  · by_cases h1 : v 1 = 0
    · by_cases h2 : v 2 = 0
      · by_cases h3 : v 3 = 0
        · simp [h0, h1, h2, h3]
        · simp [h0, h1, h2, h3]
      · simp [h0, h1, h2]
    · simp [h0, h1]
  · simp [h0]
theorem cmpI_neg (a b : Int) : cmpI a b < 0 ↔ a < b := by unfold cmpI; split <;> (try split) <;> omega
theorem cmpI_zero (a b : Int) : cmpI a b = 0 ↔ a = b := by unfold cmpI; split <;> (try split) <;> omega
theorem less_iff (a b : Lab) : lessB a b = true ↔ a.t < b.t ∨ (a.t = b.t ∧ (a.nd < b.nd ∨ (a.nd = b.nd ∧ (a.ca < b.ca ∨ (a.ca = b.ca ∧ a.n < b.n))))) := by
  unfold lessB
  rw [decide_eq_true_eq, orK_less]
  simp only [cmpV, cmpI_neg, cmpI_zero]
  omega
/-- Are they equal in what puts them in order? -/
def sameB (a b : Lab) : Bool := decide (a.t = b.t) && decide (a.nd = b.nd) && decide (a.ca = b.ca) && decide (a.n = b.n)
theorem sameB_iff (a b : Lab) : sameB a b = true ↔ a.t = b.t ∧ a.nd = b.nd ∧ a.ca = b.ca ∧ a.n = b.n := by
  unfold sameB; simp [and_assoc]
theorem less_cases (a b : Lab) : (lessB a b = true ∧ lessB b a = false ∧ sameB a b = false) ∨ (lessB a b = false ∧ lessB b a = true ∧ sameB a b = false) ∨ (lessB a b = false ∧ lessB b a = false ∧ sameB a b = true) := by
  have h1 := less_iff a b
  have h2 := less_iff b a
  have h3 := sameB_iff a b
  cases e1 : lessB a b <;> cases e2 : lessB b a <;> cases e3 : sameB a b <;> rw [e1] at h1 <;> rw [e2] at h2 <;> rw [e3] at h3 <;> simp at h1 h2 h3 ⊢ <;> omega
theorem less_trans {a b c : Lab} (h1 : lessB a b = true) (h2 : lessB b c = true) : lessB a c = true := by
  rw [less_iff] at *
  omega
end Go.Proofs.Ytgnfachjobohoaa
