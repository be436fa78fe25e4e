/-
A region that draws its order, walked in one order that is planned ahead: what only reads is taken first, what is left stands alone; the last operation, if it waits for all others, may turn what was held. It speaks of any program.
-/
import Derived.Deep.RegionHeld3
import Derived.WalkKit
import Derived.Lib.Hide
namespace Go.Proofs.Ytifoheodcbjapaa
open Go.RowKit

/-- Does number l wait for all others? (No number l: yes.) -/
def lastOk (md : Region.Mode) (ops : Array Oper) (l : Nat) : Bool :=
  match ops[l]? with
  | none => true
  | some o => (List.range ops.size).all fun k => k == l || o.after.any fun e => Region.binds md e && e.on == k

/-- Does this order serve? 'true': taken first; 'false': the one that may come up. -/
def planOk (md : Region.Mode) (ops : Array Oper) (l : Nat) : Array Bool → List (Nat × Bool) → Bool
  | listed, [] => (Region.ready md ops listed).isEmpty
  | listed, (i, true) :: r => Region.free md ops listed i && (Region.ready md ops listed).contains i && planOk md ops l (listed.setIfInBounds i true) r
  | listed, (i, false) :: r => (Region.ready md ops listed == [i]) && (if r.isEmpty then i == l else i != l) && planOk md ops l (listed.setIfInBounds i true) r

section
variable {P : Program} {ops : Array Oper} {Q : Exit → Act → World → Prop} {md : Region.Mode} {S : World → Prop} {l : Nat}

/-- Whatever order is picked from here on, and S holds behind every operation that is carried out, but number l. -/
def wpAnyL (P : Program) (md : Region.Mode) (ops : Array Oper) (Q : Exit → Act → World → Prop) (S : World → Prop) (l : Nat) : Nat → Array Bool → Act → World → Prop
  | 0, listed, a, w => Region.ready md ops listed = [] ∧ Q .normal a w
  | fuel + 1, listed, a, w =>
    (Region.ready md ops listed = [] → Q .normal a w) ∧
    ∀ i ∈ Region.ready md ops listed, wpOp P ops Q i (fun a' w' => (i ≠ l → S w') ∧ wpAnyL P md ops Q S l fuel (listed.setIfInBounds i true) a' w') a w

theorem wpAny_of_l : ∀ (fuel : Nat) (listed : Array Bool) (a : Act) (w : World), wpAnyL P md ops Q S l fuel listed a w → wpAny P md ops Q fuel listed a w
  | 0, _, _, _, h => h
  | fuel + 1, _, _, _, h => ⟨h.1, fun i hi => wpOp_mono (fun a' w' h' => wpAny_of_l fuel _ a' w' h'.2) (h.2 i hi)⟩

theorem wpAnyL_first {i : Nat} {oi : Oper} {v : Value} (hi : ops[i]? = some oi) (hsel : ∀ (j : Nat) (o : Oper) cs b, ops[j]? = some o → o.op ≠ .select cs b)
    (hl : ∀ o, ops[l]? = some o → l ≠ i → ∃ e ∈ o.after, Region.binds md e = true ∧ e.on = i)
    (hQ : ∀ c a w, Q (.panic c) (a.put oi.dst v) w → Q (.panic c) a w) :
    ∀ (fuel : Nat) (listed : Array Bool) (a : Act) (w : World),
      (∀ j oj, ops[j]? = some oj → j ≠ i → listed.getD j true = false → (∀ e ∈ oj.after, Region.binds md e = true → e.on ≠ i) → oi.apart ops oj = true) →
      i ∈ Region.ready md ops listed → YieldsIf P ops S oi v a → S w →
      wpAnyL P md ops Q S l fuel (listed.setIfInBounds i true) (a.put oi.dst v) w → wpAnyL P md ops Q S l (fuel + 1) listed a w := by
  intro fuel
  induction fuel with
  | zero =>
    intro listed a w _ hr hy hS H
    refine ⟨fun h => (by rw [h] at hr; cases hr), fun j hj => ?_⟩
    by_cases hji : j = i
    · subst hji; exact hy.wpOp hi hS ⟨fun _ => hS, H⟩
    · have := ready_mono hj hji
      rw [H.1] at this
      cases this
  | succ fuel ih =>
    intro listed a w hfree hr hy hS H
    refine ⟨fun h => (by rw [h] at hr; cases hr), fun j hj => ?_⟩
    by_cases hji : j = i
    · subst hji; exact hy.wpOp hi hS ⟨fun _ => hS, H⟩
    · have h1 := H.2 j (ready_mono hj hji)
      obtain ⟨hjun, oj, hoj, hall⟩ := mem_ready.1 hj
      have hnot : ∀ e ∈ oj.after, Region.binds md e = true → e.on ≠ i := fun e he hb heq => by
        have h1 := hall e he hb
        have h0 := (mem_ready.1 hr).1
        rw [heq] at h1
        rcases Nat.lt_or_ge i listed.size with h' | h'
        · simp [h'] at h0 h1; rw [h0] at h1; cases h1
        · simp [Array.getElem?_eq_none h'] at h1
      have hjl : j ≠ l := by
        rintro rfl
        obtain ⟨e, he, hb, ho⟩ := hl oj hoj hji
        exact hnot e he hb ho
      have h2 := wpOp_putIf hoj (hfree j oj hoj hji hjun hnot) (fun cs b => hsel i oi cs b hi) (fun cs b => hsel j oj cs b hoj) hQ hy h1
      have hfree' : ∀ k ok, ops[k]? = some ok → k ≠ i → (listed.setIfInBounds j true).getD k true = false →
          (∀ e ∈ ok.after, Region.binds md e = true → e.on ≠ i) → oi.apart ops ok = true := fun k ok hk hki hun hno => by
        refine hfree k ok hk hki ?_ hno
        by_cases hjk : j = k
        · subst hjk; exact hjun
        · rw [getD_set_ne true hjk] at hun; exact hun
      refine wpOp_mono (fun a' w' h3 => ⟨h3.2.1, ih (listed.setIfInBounds j true) a' w' hfree' (ready_mono hr (Ne.symm hji)) h3.1 (h3.2.1 hjl) ?_⟩) h2
      rw [Array.setIfInBounds_comm _ _ hji]
      exact h3.2.2

/-- The walk in that order. -/
def wpPlan (P : Program) (ops : Array Oper) (Q : Exit → Act → World → Prop) (S : World → Prop) : List (Option Oper × Bool) → Act → World → Prop
  | [], a, w => Q .normal a w
  | (none, _) :: _, _, _ => False
  | (some o, true) :: r, a, w => ∃ v, YieldsIf P ops S o v a ∧ wpPlan P ops Q S r (a.put o.dst v) w
  | (some o, false) :: [], a, w => ∀ K' : Act → World → Prop, Shut (∀ a w, Q .normal a w → K' a w) → if Region.wanted o (yielded ops a.tmps) = true then Oper.wp P o a w K' Q else K' (a.put o.dst undef) w
  | (some o, false) :: x :: r, a, w => ∀ K' : Act → World → Prop, Shut (∀ a w, S w → (S w → wpPlan P ops Q S (x :: r) a w) → K' a w) → if Region.wanted o (yielded ops a.tmps) = true then Oper.wp P o a w K' Q else K' (a.put o.dst undef) w

theorem wpPlan.take {o : Oper} {r : List (Option Oper × Bool)} {a : Act} {w : World} {v : Value} (hy : YieldsIf P ops S o v a) (h : wpPlan P ops Q S r (a.put o.dst v) w) : wpPlan P ops Q S ((some o, true) :: r) a w := by
  unfold wpPlan; exact ⟨v, hy, h⟩
theorem wpPlan.carry {o : Oper} {x : Option Oper × Bool} {r : List (Option Oper × Bool)} {a : Act} {w : World}
    (h : ∀ K' : Act → World → Prop, Shut (∀ a w, S w → (S w → wpPlan P ops Q S (x :: r) a w) → K' a w) → if Region.wanted o (yielded ops a.tmps) = true then Oper.wp P o a w K' Q else K' (a.put o.dst undef) w) : wpPlan P ops Q S ((some o, false) :: x :: r) a w := by
  unfold wpPlan; exact h
theorem wpPlan.last {o : Oper} {a : Act} {w : World}
    (h : ∀ K' : Act → World → Prop, Shut (∀ a w, Q .normal a w → K' a w) → if Region.wanted o (yielded ops a.tmps) = true then Oper.wp P o a w K' Q else K' (a.put o.dst undef) w) : wpPlan P ops Q S [(some o, false)] a w := by
  unfold wpPlan; exact h
theorem wpPlan.done {a : Act} {w : World} (h : Q .normal a w) : wpPlan P ops Q S [] a w := by
  unfold wpPlan; exact h

theorem lastOk_spec (h : lastOk md ops l = true) {i : Nat} (hi : i < ops.size) : ∀ o, ops[l]? = some o → l ≠ i → ∃ e ∈ o.after, Region.binds md e = true ∧ e.on = i := by
  intro o ho hne
  unfold lastOk at h
  rw [ho] at h
  simp only [List.all_eq_true, List.mem_range] at h
  have h1 := h i hi
  simp only [Bool.or_eq_true, beq_iff_eq, Array.any_eq_true'] at h1
  rcases h1 with h1 | ⟨e, he, hb⟩
  · exact absurd h1.symm hne
  · simp only [Bool.and_eq_true, beq_iff_eq] at hb
    exact ⟨e, he, hb.1, hb.2⟩

theorem plan_sound (hs : Region.noSelect ops = true) (hl : lastOk md ops l = true) (hQ : ∀ c (a : Act) d v w, Q (.panic c) (a.put d v) w → Q (.panic c) a w) :
    ∀ (pl : List (Nat × Bool)) (listed : Array Bool) (a : Act) (w : World), planOk md ops l listed pl = true → S w → wpPlan P ops Q S (pl.map fun x => (ops[x.1]?, x.2)) a w → wpAnyL P md ops Q S l pl.length listed a w := by
  intro pl
  induction pl with
  | nil =>
    intro listed a w hp _ h
    rw [List.map_nil] at h
    unfold wpPlan at h
    exact ⟨by simpa [planOk] using hp, h⟩
  | cons x pl ih =>
    intro listed a w hp hS h
    obtain ⟨i, b⟩ := x
    rw [List.map_cons] at h
    cases ho : ops[i]? with
    | none => simp only [ho] at h; unfold wpPlan at h; exact h.elim
    | some o =>
      have hi : i < ops.size := (Array.getElem?_eq_some_iff.1 ho).1
      simp only [ho] at h
      cases b with
      | true =>
        simp only [planOk, Bool.and_eq_true] at hp
        obtain ⟨⟨h1, h2⟩, h3⟩ := hp
        unfold wpPlan at h
        obtain ⟨v, hy, h⟩ := h
        exact wpAnyL_first ho (Region.noSelect_spec hs) (lastOk_spec hl hi) (fun c a w => hQ c a _ _ w) pl.length listed a w (Region.free_spec ho h1) (by simpa using h2) hy hS (ih _ _ _ h3 hS h)
      | false =>
        simp only [planOk, Bool.and_eq_true, beq_iff_eq] at hp
        obtain ⟨⟨h1, h2⟩, h3⟩ := hp
        refine ⟨fun h0 => (by rw [h1] at h0; cases h0), fun j hj => ?_⟩
        rw [h1] at hj
        obtain rfl : j = i := by simpa using hj
        refine wpOp_step ho fun K' hK => ?_
        cases pl with
        | nil =>
          rw [List.map_nil] at h
          unfold wpPlan at h
          refine h K' (fun a w hq => hK a w ⟨fun hne => ?_, ?_⟩)
          · exact absurd (by simpa using h2) hne
          · exact ⟨by simpa [planOk] using h3, hq⟩
        | cons y pl =>
          rw [List.map_cons] at h
          unfold wpPlan at h
          exact h K' (fun a w hS hW => hK a w ⟨fun _ => hS, ih _ _ _ h3 hS (hW hS)⟩)

/-- The beginning. -/
theorem wp_region_plan {id : Nat} {a : Act} {w : World} (pl : List (Nat × Bool)) (l : Nat) (hm : P.follows .mixedOrders = true) (hs : Region.noSelect ops = true) (hlk : lastOk .any ops l = true) (hp : planOk .any ops l (Array.replicate ops.size false) pl = true) (hl : pl.length = ops.size)
    (hQ : ∀ c (a : Act) d v w, Q (.panic c) (a.put d v) w → Q (.panic c) a w) (hS : S w.drew)
    (h : S w.drew → wpPlan P ops Q S (pl.map fun x => (ops[x.1]?, x.2)) a w.drew) : (Code.region id ops true).wp P Q a w :=
  wp_region_any hm (wpAny_of_l _ _ _ _ (by
    have := plan_sound hs hlk hQ pl (Array.replicate ops.size false) a w.drew hp hS (h hS)
    rw [hl] at this
    exact this))
end
end Go.Proofs.Ytifoheodcbjapaa
