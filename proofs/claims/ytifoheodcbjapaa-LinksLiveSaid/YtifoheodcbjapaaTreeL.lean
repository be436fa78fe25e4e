/-
A region that draws its order, walked by a plan that branches, whose last operation waits for all others, if only through others: it may turn what was held. It speaks of any program.
-/
import Derived.Test.YtifoheodcbjapaaTree
namespace Go.Proofs.Ytifoheodcbjapaa
open Go.RowKit
/-- Does operation l wait for operation k, if only through others? -/
def waits (md : Region.Mode) (ops : Array Oper) : Nat → Nat → Nat → Bool
  | 0, _, _ => false
  | n + 1, l, k => match ops[l]? with
    | none => false
    | some o => o.after.any fun e => Region.binds md e && (e.on == k || waits md ops n e.on k)
def lastOkL (md : Region.Mode) (ops : Array Oper) (l : Nat) : Bool :=
  (List.range ops.size).all fun k => k == l || waits md ops ops.size l k
/-- What listed operations wait for is listed. -/
def Closed (md : Region.Mode) (ops : Array Oper) (listed : Array Bool) : Prop :=
  ∀ k o, ops[k]? = some o → listed.getD k false = true → ∀ e ∈ o.after, Region.binds md e = true → listed.getD e.on false = true
section
variable {P : Program} {ops : Array Oper} {Q : Exit → Act → World → Prop} {md : Region.Mode} {S : World → Prop} {l : Nat}
theorem listed_not {listed : Array Bool} {i : Nat} (h : listed.getD i true = false) (h' : listed.getD i false = true) : False := by
  rcases Nat.lt_or_ge i listed.size with hi | hi
  · simp [hi] at h h'; rw [h] at h'; cases h'
  · simp [Array.getElem?_eq_none hi] at h
theorem Closed.put {listed : Array Bool} {j : Nat} (h : Closed md ops listed) (hj : j ∈ Region.ready md ops listed) : Closed md ops (listed.setIfInBounds j true) := by
  intro k o hk hl e he hb
  refine getD_set_true ?_
  by_cases hjk : j = k
  · subst hjk
    obtain ⟨_, o', ho', hall⟩ := mem_ready.1 hj
    rw [hk] at ho'
    cases ho'
    exact hall e he hb
  · rw [getD_set_ne false hjk] at hl
    exact h k o hk hl e he hb
theorem Closed.waits {listed : Array Bool} (h : Closed md ops listed) : ∀ n m k, waits md ops n m k = true → listed.getD m false = true → listed.getD k false = true
  | 0, _, _, hw, _ => by cases hw
  | n + 1, m, k, hw, hm => by
    unfold Proofs.Ytifoheodcbjapaa.waits at hw
    cases ho : ops[m]? with
    | none => rw [ho] at hw; cases hw
    | some o =>
      rw [ho] at hw
      simp only [Array.any_eq_true', Bool.and_eq_true, Bool.or_eq_true, beq_iff_eq] at hw
      obtain ⟨e, he, hb, h1⟩ := hw
      have h2 := h m o ho hm e he hb
      rcases h1 with rfl | h1
      · exact h2
      · exact Closed.waits h n e.on k h1 h2
theorem Closed.waits_ready {listed : Array Bool} (h : Closed md ops listed) {j : Nat} (hj : j ∈ Region.ready md ops listed) (n k : Nat) (hw : Proofs.Ytifoheodcbjapaa.waits md ops n j k = true) (_hne : k ≠ j) : listed.getD k false = true := by
  obtain ⟨_, o, ho, hall⟩ := mem_ready.1 hj
  cases n with
  | zero => cases hw
  | succ n =>
    unfold Proofs.Ytifoheodcbjapaa.waits at hw
    rw [ho] at hw
    simp only [Array.any_eq_true', Bool.and_eq_true, Bool.or_eq_true, beq_iff_eq] at hw
    obtain ⟨e, he, hb, h1⟩ := hw
    have h2 := hall e he hb
    rcases h1 with rfl | h1
    · exact h2
    · exact h.waits n e.on k h1 h2
theorem lastOkL_spec (h : lastOkL md ops l = true) {i : Nat} (hi : i < ops.size) (hne : l ≠ i) (_hl : ops[l]? ≠ none) : ∃ n, Proofs.Ytifoheodcbjapaa.waits md ops n l i = true := by
  unfold lastOkL at h
  simp only [List.all_eq_true, List.mem_range, Bool.or_eq_true, beq_iff_eq] at h
  exact ⟨_, (h i hi).resolve_left fun e => hne e.symm⟩
theorem wpAnyL_firstL {i : Nat} {oi : Oper} {v : Value} (hi : ops[i]? = some oi) (hsel : ∀ (j : Nat) (o : Oper) cs b, ops[j]? = some o → o.op ≠ .select cs b)
    (hl : l ≠ i → ops[l]? ≠ none → ∃ n, waits md ops n l i = true)
    (hQ : ∀ c a w, Q (.panic c) (a.put oi.dst v) w → Q (.panic c) a w) :
    ∀ (fuel : Nat) (listed : Array Bool) (a : Act) (w : World), Closed md ops listed →
      (∀ j oj, ops[j]? = some oj → j ≠ i → listed.getD j true = false → (∀ e ∈ oj.after, Region.binds md e = true → e.on ≠ i) → oi.apart ops oj = true) →
      i ∈ Region.ready md ops listed → YieldsIf P ops S oi v a → S w →
      wpAnyL P md ops Q S l fuel (listed.setIfInBounds i true) (a.put oi.dst v) w → wpAnyL P md ops Q S l (fuel + 1) listed a w := by
  intro fuel
  induction fuel with
  | zero =>
    intro listed a w _ _ hr hy hS H
    refine ⟨fun h => (by rw [h] at hr; cases hr), fun j hj => ?_⟩
    by_cases hji : j = i
    · subst hji; exact hy.wpOp hi hS ⟨fun _ => hS, H⟩
    · have := ready_mono hj hji
      rw [H.1] at this
      cases this
  | succ fuel ih =>
    intro listed a w hcl hfree hr hy hS H
    refine ⟨fun h => (by rw [h] at hr; cases hr), fun j hj => ?_⟩
    by_cases hji : j = i
    · subst hji; exact hy.wpOp hi hS ⟨fun _ => hS, H⟩
    · have h1 := H.2 j (ready_mono hj hji)
      obtain ⟨hjun, oj, hoj, hall⟩ := mem_ready.1 hj
      have hnot : ∀ e ∈ oj.after, Region.binds md e = true → e.on ≠ i := fun e he hb heq => by
        have h1 := hall e he hb
        have h0 := (mem_ready.1 hr).1
        rw [heq] at h1
        rcases Nat.lt_or_ge i listed.size with h' | h'
        · simp [h'] at h0 h1; rw [h0] at h1; cases h1
        · simp [Array.getElem?_eq_none h'] at h1
      have hjl : j ≠ l := by
        rintro rfl
        obtain ⟨n, hn⟩ := hl hji (by rw [hoj]; simp)
        have := hcl.waits_ready hj n i hn (Ne.symm hji)
        have h0 := (mem_ready.1 hr).1
        exact listed_not h0 this
      have h2 := wpOp_putIf hoj (hfree j oj hoj hji hjun hnot) (fun cs b => hsel i oi cs b hi) (fun cs b => hsel j oj cs b hoj) hQ hy h1
      have hfree' : ∀ k ok, ops[k]? = some ok → k ≠ i → (listed.setIfInBounds j true).getD k true = false →
          (∀ e ∈ ok.after, Region.binds md e = true → e.on ≠ i) → oi.apart ops ok = true := fun k ok hk hki hun hno => by
        refine hfree k ok hk hki ?_ hno
        by_cases hjk : j = k
        · subst hjk; exact hjun
        · rw [getD_set_ne true hjk] at hun; exact hun
      refine wpOp_mono (fun a' w' h3 => ⟨h3.2.1, ih (listed.setIfInBounds j true) a' w' (hcl.put hj) hfree' (ready_mono hr (Ne.symm hji)) h3.1 (h3.2.1 hjl) ?_⟩) h2
      rw [Array.setIfInBounds_comm _ _ hji]
      exact h3.2.2

theorem tree_soundL (hs : Region.noSelect ops = true) (hl : lastOkL md ops l = true) (hQ : ∀ c (a : Act) d v w, Q (.panic c) (a.put d v) w → Q (.panic c) a w) :
    ∀ (t : Tree Nat) (fuel : Nat) (listed : Array Bool) (a : Act) (w : World), t.size ≤ fuel → Closed md ops listed → treeOk md ops l listed t = true → S w → wpTree P ops Q S (t.map fun i => ops[i]?) a w → wpAnyL P md ops Q S l fuel listed a w := by
  intro t
  induction t with
  | nil =>
    intro fuel listed a w _ _ hp _ h
    have h0 : Region.ready md ops listed = [] := by simpa [treeOk] using hp
    cases fuel with
    | zero => exact ⟨h0, h⟩
    | succ n => exact ⟨fun _ => h, by rw [h0]; simp⟩
  | take i r ih =>
    intro fuel listed a w hf hcl hp hS h
    obtain ⟨n, rfl⟩ : ∃ n, fuel = n + 1 := ⟨fuel - 1, by simp [Tree.size] at hf; omega⟩
    simp only [treeOk, Bool.and_eq_true] at hp
    obtain ⟨⟨h1, h2⟩, h3⟩ := hp
    simp only [Tree.map] at h
    cases ho : ops[i]? with
    | none => rw [ho] at h; exact h.elim
    | some o =>
      rw [ho] at h
      have hi : i < ops.size := (Array.getElem?_eq_some_iff.1 ho).1
      obtain ⟨v, hy, h⟩ := h
      exact wpAnyL_firstL ho (Region.noSelect_spec hs) (fun hne => lastOkL_spec hl hi hne) (fun c a w => hQ c a _ _ w) n listed a w hcl (Region.free_spec ho h1) (by simpa using h2) hy hS (ih n _ _ _ (by simp [Tree.size] at hf; omega) (hcl.put (by simpa using h2)) h3 hS h)
  | one i r ih =>
    intro fuel listed a w hf hcl hp hS h
    obtain ⟨n, rfl⟩ : ∃ n, fuel = n + 1 := ⟨fuel - 1, by simp [Tree.size] at hf; omega⟩
    simp only [treeOk, Bool.and_eq_true, beq_iff_eq, bne_iff_ne] at hp
    obtain ⟨⟨h1, h2⟩, h3⟩ := hp
    refine ⟨fun h0 => (by rw [h1] at h0; cases h0), fun j hj => ?_⟩
    rw [h1] at hj
    obtain rfl : j = i := by simpa using hj
    exact carried_op h2 (fun a w hS hW => ih n _ a w (by simp [Tree.size] at hf; omega) (hcl.put (by rw [h1]; simp)) h3 hS hW) h
  | two i r i' r' ih ih' =>
    intro fuel listed a w hf hcl hp hS h
    obtain ⟨n, rfl⟩ : ∃ n, fuel = n + 1 := ⟨fuel - 1, by simp [Tree.size] at hf; omega⟩
    simp only [treeOk, Bool.and_eq_true, beq_iff_eq, bne_iff_ne] at hp
    obtain ⟨⟨⟨⟨h1, h2⟩, h2'⟩, h3⟩, h3'⟩ := hp
    refine ⟨fun h0 => (by rw [h1] at h0; cases h0), fun j hj => ?_⟩
    rw [h1] at hj
    have hj : j = i ∨ j = i' := by simpa using hj
    rcases hj with rfl | rfl
    · exact carried_op h2 (fun a w hS hW => ih n _ a w (by simp [Tree.size] at hf; omega) (hcl.put (by rw [h1]; simp)) h3 hS hW) h.1
    · exact carried_op h2' (fun a w hS hW => ih' n _ a w (by simp [Tree.size] at hf; omega) (hcl.put (by rw [h1]; simp)) h3' hS hW) h.2
  | three i r i' r' i'' r'' ih ih' ih'' =>
    intro fuel listed a w hf hcl hp hS h
    obtain ⟨n, rfl⟩ : ∃ n, fuel = n + 1 := ⟨fuel - 1, by simp [Tree.size] at hf; omega⟩
    simp only [treeOk, Bool.and_eq_true, beq_iff_eq, bne_iff_ne] at hp
    obtain ⟨⟨⟨⟨⟨⟨h1, h2⟩, h2'⟩, h2''⟩, h3⟩, h3'⟩, h3''⟩ := hp
    refine ⟨fun h0 => (by rw [h1] at h0; cases h0), fun j hj => ?_⟩
    rw [h1] at hj
    have hj : j = i ∨ j = i' ∨ j = i'' := by simpa using hj
    rcases hj with rfl | rfl | rfl
    · exact carried_op h2 (fun a w hS hW => ih n _ a w (by simp [Tree.size] at hf; omega) (hcl.put (by rw [h1]; simp)) h3 hS hW) h.1
    · exact carried_op h2' (fun a w hS hW => ih' n _ a w (by simp [Tree.size] at hf; omega) (hcl.put (by rw [h1]; simp)) h3' hS hW) h.2.1
    · exact carried_op h2'' (fun a w hS hW => ih'' n _ a w (by simp [Tree.size] at hf; omega) (hcl.put (by rw [h1]; simp)) h3'' hS hW) h.2.2
  | last i =>
    intro fuel listed a w hf hcl hp hS h
    obtain ⟨n, rfl⟩ : ∃ n, fuel = n + 1 := ⟨fuel - 1, by simp [Tree.size] at hf; omega⟩
    simp only [treeOk, Bool.and_eq_true, beq_iff_eq] at hp
    obtain ⟨⟨h1, h2⟩, h3⟩ := hp
    have h0 : Region.ready md ops (listed.setIfInBounds i true) = [] := by simpa using h3
    refine ⟨fun h0 => (by rw [h1] at h0; cases h0), fun j hj => ?_⟩
    rw [h1] at hj
    obtain rfl : j = i := by simpa using hj
    simp only [Tree.map] at h
    cases ho : ops[j]? with
    | none => rw [ho] at h; exact h.elim
    | some o =>
      rw [ho] at h
      refine wpOp_step ho fun K' hK => h K' (fun a w hq => hK a w ⟨fun hne => absurd h2 hne, ?_⟩)
      cases n with
      | zero => exact ⟨h0, hq⟩
      | succ n => exact ⟨fun _ => hq, by rw [h0]; simp⟩


theorem closed_none (n : Nat) : Closed md ops (Array.replicate n false) := by
  intro k o _ h
  rcases Nat.lt_or_ge k n with hk | hk
  · simp [hk] at h
  · simp [hk] at h
theorem wp_region_treeL {id : Nat} {a : Act} {w : World} (t : Tree Nat) (l : Nat) (hm : P.follows .mixedOrders = true) (hs : Region.noSelect ops = true) (hlk : lastOkL .any ops l = true) (hp : treeOk .any ops l (Array.replicate ops.size false) t = true) (hl : decide (t.size ≤ ops.size) = true)
    (hQ : ∀ c (a : Act) d v w, Q (.panic c) (a.put d v) w → Q (.panic c) a w) (hS : S w.drew)
    (h : S w.drew → wpTree P ops Q S (t.map fun i => ops[i]?) a w.drew) : (Code.region id ops true).wp P Q a w :=
  wp_region_any hm (wpAny_of_l _ _ _ _ (tree_soundL hs hlk hQ t ops.size (Array.replicate ops.size false) a w.drew (of_decide_eq_true hl) (closed_none _) hp hS (h hS)))
end
end Go.Proofs.Ytifoheodcbjapaa
