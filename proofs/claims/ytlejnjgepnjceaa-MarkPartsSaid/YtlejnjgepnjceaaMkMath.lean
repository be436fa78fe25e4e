/-
The join of marks is a join: order, repetition, parts.
-/
import Derived.Test.YtlejnjgepnjceaaMk2
namespace Go.Proofs.Ytlejnjgepnjceaa

def RM (m : Mk) : Prop := rightM m = true ∧ m.p < 18446744073709551616
theorem RM.all {m : Mk} (h : RM m) : (m.h = true ∨ m.p = 0) ∧ 0 ≤ m.f ∧ m.f ≤ 3 ∧ m.p < 18446744073709551616 := by
  obtain ⟨h, hp⟩ := h
  unfold rightM Num.sameB at h
  simp only [Bool.and_eq_true, Bool.or_eq_true, decide_eq_true_eq] at h
  exact ⟨h.1, h.2.1, h.2.2, hp⟩
theorem RM.of {m : Mk} (h : m.h = true ∨ m.p = 0) (h0 : 0 ≤ m.f) (h3 : m.f ≤ 3) (hp : m.p < 18446744073709551616) : RM m := by
  refine ⟨?_, hp⟩
  unfold rightM Num.sameB
  simp only [Bool.and_eq_true, Bool.or_eq_true, decide_eq_true_eq]
  exact ⟨h, h0, h3⟩
theorem joinN_key (a b : Nat) : Num.key (Num.joinN a b) = max (Num.key a) (Num.key b) := by unfold Num.joinN; split <;> omega
theorem joinN_comm {a b : Nat} (ha : a < 18446744073709551616) (hb : b < 18446744073709551616) : Num.joinN a b = Num.joinN b a :=
  Num.key_inj (joinN_lt ha hb) (joinN_lt hb ha) (by rw [joinN_key, joinN_key]; omega)
theorem joinN_assoc {a b c : Nat} (ha : a < 18446744073709551616) (hb : b < 18446744073709551616) (hc : c < 18446744073709551616) : Num.joinN (Num.joinN a b) c = Num.joinN a (Num.joinN b c) :=
  Num.key_inj (joinN_lt (joinN_lt ha hb) hc) (joinN_lt ha (joinN_lt hb hc)) (by simp only [joinN_key]; omega)
theorem joinN_self (a : Nat) : Num.joinN a a = a := by unfold Num.joinN; split <;> rfl
theorem mk_ext {a b : Mk} (h1 : a.f = b.f) (h2 : a.h = b.h) (h3 : a.p = b.p) : a = b := by cases a; cases b; simp_all
theorem bothM_R {a b : Mk} (ha : RM a) (hb : RM b) : RM (bothM a b) := by
  obtain ⟨a1, a2, a3, a4⟩ := ha.all
  obtain ⟨b1, b2, b3, b4⟩ := hb.all
  refine RM.of ?_ (by show (0 : Int) ≤ max a.f b.f; omega) (by show max a.f b.f ≤ 3; omega) ?_
  · unfold bothM
    dsimp only
    cases hb' : b.h <;> cases ha' : a.h <;> simp_all
  · unfold bothM
    dsimp only
    split
    · split
      · exact joinN_lt a4 b4
      · exact b4
    · exact a4
theorem bothM_comm {a b : Mk} (ha : RM a) (hb : RM b) : bothM a b = bothM b a := by
  obtain ⟨a1, a2, a3, a4⟩ := ha.all
  obtain ⟨b1, b2, b3, b4⟩ := hb.all
  unfold bothM
  refine mk_ext (by show max a.f b.f = max b.f a.f; omega) (Bool.or_comm _ _) ?_
  dsimp only
  cases hb' : b.h <;> cases ha' : a.h <;> simp_all
  exact joinN_comm a4 b4
theorem bothM_assoc {a b c : Mk} (ha : RM a) (hb : RM b) (hc : RM c) : bothM (bothM a b) c = bothM a (bothM b c) := by
  obtain ⟨a1, a2, a3, a4⟩ := ha.all
  obtain ⟨b1, b2, b3, b4⟩ := hb.all
  obtain ⟨c1, c2, c3, c4⟩ := hc.all
  unfold bothM
  refine mk_ext (by show max (max a.f b.f) c.f = max a.f (max b.f c.f); omega) (Bool.or_assoc _ _ _) ?_
  dsimp only
  cases hb' : b.h <;> cases ha' : a.h <;> cases hc' : c.h <;> simp_all
  exact joinN_assoc a4 b4 c4
theorem bothM_self {a : Mk} : bothM a a = a := by
  unfold bothM
  refine mk_ext (by show max a.f a.f = a.f; omega) (Bool.or_self _) ?_
  dsimp only
  cases h : a.h <;> simp [joinN_self]
theorem zM_R : RM zM := RM.of (Or.inr rfl) (by decide) (by decide) (by decide)
theorem bothM_z {a : Mk} (ha : RM a) : bothM zM a = a := by
  obtain ⟨a1, a2, a3, a4⟩ := ha.all
  unfold bothM
  refine mk_ext (by show max (0 : Int) a.f = a.f; omega) (Bool.false_or _) ?_
  show (if a.h then (if false = true then _ else a.p) else (0 : Nat)) = a.p
  cases h : a.h <;> simp_all
theorem foldM_R : ∀ (l : List Mk) (a : Mk), RM a → (∀ m ∈ l, m.p < 18446744073709551616) → RM (l.foldl stepM a)
  | [], _, ha, _ => ha
  | m :: l, a, ha, h => by
    rw [List.foldl_cons]
    refine foldM_R l _ ?_ (fun x hx => h x (List.mem_cons_of_mem _ hx))
    unfold stepM
    split
    · rename_i hr
      exact bothM_R ha ⟨hr, h m List.mem_cons_self⟩
    · exact ha
theorem joinM_R {l : List Mk} (h : ∀ m ∈ l, m.p < 18446744073709551616) : RM (joinM l) := foldM_R l zM zM_R h
theorem foldM_both : ∀ (l : List Mk) (a : Mk), RM a → (∀ m ∈ l, m.p < 18446744073709551616) → l.foldl stepM a = bothM a (joinM l)
  | [], a, ha, _ => by
    show a = bothM a zM
    rw [bothM_comm ha zM_R, bothM_z ha]
  | m :: l, a, ha, h => by
    have hl : ∀ x ∈ l, x.p < 18446744073709551616 := fun x hx => h x (List.mem_cons_of_mem _ hx)
    show l.foldl stepM (stepM a m) = bothM a (l.foldl stepM (stepM zM m))
    by_cases hr : rightM m = true
    · have hm : RM m := ⟨hr, h m List.mem_cons_self⟩
      have e1 : stepM a m = bothM a m := by unfold stepM; rw [if_pos hr]
      have e2 : stepM zM m = m := by unfold stepM; rw [if_pos hr, bothM_z hm]
      rw [e1, e2, foldM_both l _ (bothM_R ha hm) hl, foldM_both l m hm hl, bothM_assoc ha hm (joinM_R hl)]
    · have e1 : stepM a m = a := by unfold stepM; rw [if_neg hr]
      have e2 : stepM zM m = zM := by unfold stepM; rw [if_neg hr]
      rw [e1, e2, foldM_both l a ha hl]
      rfl
theorem joinM_app {l r : List Mk} (hl : ∀ m ∈ l, m.p < 18446744073709551616) (hr : ∀ m ∈ r, m.p < 18446744073709551616) : joinM (l ++ r) = bothM (joinM l) (joinM r) := by
  unfold joinM
  rw [List.foldl_append]
  exact foldM_both r _ (joinM_R hl) hr
theorem joinM_one {m : Mk} (h : RM m) : joinM [m] = m := by
  show stepM zM m = m
  unfold stepM
  rw [if_pos h.1, bothM_z h]
theorem joinM_no {m : Mk} (h : rightM m = false) : joinM [m] = zM := by
  show stepM zM m = zM
  unfold stepM
  rw [h]
  rfl
theorem joinM_swap (l : List Mk) (t : Nat) (h : ∀ m ∈ l, m.p < 18446744073709551616) : joinM (l.drop t ++ l.take t) = joinM l := by
  have h1 : ∀ m ∈ l.take t, m.p < 18446744073709551616 := fun m hm => h m (List.mem_of_mem_take hm)
  have h2 : ∀ m ∈ l.drop t, m.p < 18446744073709551616 := fun m hm => h m (List.mem_of_mem_drop hm)
  rw [joinM_app h2 h1, bothM_comm (joinM_R h2) (joinM_R h1), ← joinM_app h1 h2, List.take_append_drop]
theorem joinM_two {a b : Mk} (ha : RM a) (hb : RM b) : joinM [a, b] = bothM a b := by
  have := joinM_app (l := [a]) (r := [b]) (by simp; exact ha.2) (by simp; exact hb.2)
  rw [joinM_one ha, joinM_one hb] at this
  exact this
theorem joinM_parts (l : List Mk) (t : Nat) (h : ∀ m ∈ l, m.p < 18446744073709551616) : joinM [joinM (l.take t), joinM (l.drop t)] = joinM l := by
  have h1 : ∀ m ∈ l.take t, m.p < 18446744073709551616 := fun m hm => h m (List.mem_of_mem_take hm)
  have h2 : ∀ m ∈ l.drop t, m.p < 18446744073709551616 := fun m hm => h m (List.mem_of_mem_drop hm)
  rw [joinM_two (joinM_R h1) (joinM_R h2), ← joinM_app h1 h2, List.take_append_drop]
theorem bothM_mem {l : List Mk} {m : Mk} (h : ∀ m ∈ l, m.p < 18446744073709551616) (hm : m ∈ l) (hr : RM m) : bothM (joinM l) m = joinM l := by
  obtain ⟨s, t, rfl⟩ := List.append_of_mem hm
  have h1 : ∀ m ∈ s, m.p < 18446744073709551616 := fun x hx => h x (by simp [hx])
  have h2 : ∀ m ∈ t, m.p < 18446744073709551616 := fun x hx => h x (by simp [hx])
  have h3 : ∀ x ∈ [m], x.p < 18446744073709551616 := by simp; exact hr.2
  have h4 : ∀ x ∈ m :: t, x.p < 18446744073709551616 := fun x hx => h x (by simp at hx ⊢; exact Or.inr hx)
  have e : joinM (m :: t) = bothM m (joinM t) := by
    have := joinM_app h3 h2
    rwa [joinM_one hr] at this
  have rS := joinM_R h1
  have rT := joinM_R h2
  rw [joinM_app h1 h4, e, bothM_assoc rS (bothM_R hr rT) hr, bothM_comm (bothM_R hr rT) hr, ← bothM_assoc hr hr rT, bothM_self]
theorem joinM_twice {l : List Mk} {m : Mk} (h : ∀ m ∈ l, m.p < 18446744073709551616) (hm : m ∈ l) : joinM (l ++ [m]) = joinM l := by
  have h3 : ∀ x ∈ [m], x.p < 18446744073709551616 := by simp; exact h m hm
  rw [joinM_app h h3]
  cases hr : rightM m with
  | true => rw [joinM_one ⟨hr, h m hm⟩, bothM_mem h hm ⟨hr, h m hm⟩]
  | false => rw [joinM_no hr, bothM_comm (joinM_R h) zM_R, bothM_z (joinM_R h)]
theorem sameM_self (m : Mk) : sameM m m = true := by unfold sameM Num.sameB; simp
theorem covers_mem {l : List Mk} {m : Mk} (h : ∀ m ∈ l, m.p < 18446744073709551616) (hm : m ∈ l) (hr : rightM m = true) : coversM (joinM l) m = true := by
  have hR : RM m := ⟨hr, h m hm⟩
  unfold coversM
  rw [joinM_two (joinM_R h) hR, bothM_mem h hm hR, sameM_self, hr, (joinM_R h).1]
  rfl
end Go.Proofs.Ytlejnjgepnjceaa
