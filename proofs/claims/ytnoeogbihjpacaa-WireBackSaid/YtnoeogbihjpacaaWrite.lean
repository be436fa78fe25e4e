/-
wire: what a writer is; New, put.
-/
import Derived.Test.YtnoeogbihjpacaaRead5
import Derived.Test.YtnoeogbihjpacaaAppend
import Derived.OneCell
namespace Go.Proofs.Ytnoeogbihjpacaa
open Go.RowKit

def u8s (bs : List Nat) : List Value := bs.map fun (x : Nat) => Value.int .u8 (x : Int)
theorem u8s_app (a b : List Nat) : u8s (a ++ b) = u8s a ++ u8s b := by simp [u8s]
theorem u8s_len (a : List Nat) : (u8s a).length = a.length := by simp [u8s]
theorem u8s_one (a : List Nat) : ∀ u ∈ u8s a, u.oneCell' = true := by
  intro u hu
  obtain ⟨x, _, rfl⟩ := List.mem_map.1 hu
  rfl

/-- Block g is a writer, whose bytes these are. -/
def Wtr (W : World) (B g : Nat) (bs : List Nat) : Prop :=
  B ≤ g ∧ ∃ v, W.heap[g]? = some (.cells #[v] 106 (0, 0)) ∧ W.ownsRow B 5 1 v bs.length (u8s bs)
/-- The block of a writer's row. -/
def rowOf (W : World) (g : Nat) : Option Nat := (W.cell? ⟨g, 0, none⟩).bind Value.ownBlock
theorem rowOf_of {W : World} {g : Nat} {v : Value} {t : TypeId} (h : W.heap[g]? = some (.cells #[v] t (0, 0))) : rowOf W g = v.ownBlock := by unfold rowOf; rw [row_cell h 0]; rfl
theorem rowOf_lt {W : World} {B g : Nat} {bs : List Nat} (h : Wtr W B g bs) {k : Nat} (hk : rowOf W g = some k) : k < W.heap.size := by
  obtain ⟨_, v, hv, hown⟩ := h
  rw [rowOf_of hv] at hk
  exact (hown.lt k hk).2
/-- What a write leaves as it was: all but the writer and its row, which lies where it lay, or in a new block. -/
def Wrote (B g : Nat) (W W' : World) : Prop := Below B W W' ∧ (∀ k, k < W.heap.size → k ≠ g → some k ≠ rowOf W g → W'.heap[k]? = W.heap[k]?) ∧ (∀ k, rowOf W' g = some k → rowOf W g = some k ∨ W.heap.size ≤ k)
theorem Wrote.refl (B g : Nat) (W : World) : Wrote B g W W := ⟨Below.refl _ _, fun _ _ _ _ => rfl, fun _ h => Or.inl h⟩
theorem Wrote.trans {B g : Nat} {a b c : World} (h : Wrote B g a b) (k : Wrote B g b c) : Wrote B g a c :=
  ⟨h.1.trans k.1, fun i hi hg hn => (k.2.1 i (Nat.lt_of_lt_of_le hi h.1.size) hg (fun e => (h.2.2 i e.symm).elim (fun e' => hn e'.symm) (fun e' => by omega))).trans (h.2.1 i hi hg hn),
    fun i hi => (k.2.2 i hi).elim (h.2.2 i) (fun e => Or.inr (Nat.le_trans h.1.size e))⟩
theorem Wrote.ofBelow {B g : Nat} {W W' : World} (h : Below W.heap.size W W') (hB : B ≤ W.heap.size) (hg : g < W.heap.size) : Wrote B g W W' :=
  ⟨h.mono hB, fun k hk _ _ => h.block k hk, fun k hk => Or.inl (by unfold rowOf at hk ⊢; rwa [h.cell (p := ⟨g, 0, none⟩) hg] at hk)⟩
theorem Wtr.lt {W : World} {B g : Nat} {bs : List Nat} (h : Wtr W B g bs) : g < W.heap.size := by
  obtain ⟨_, v, hv, _⟩ := h
  rcases Nat.lt_or_ge g W.heap.size with hlt | hge
  · exact hlt
  · rw [Array.getElem?_eq_none hge] at hv; cases hv

theorem new_any (W : World) : Calls Try.prog 12 #[] W fun e W' => e = .returned (.pointer (some ⟨W.heap.size, 0, none⟩)) ∧ Wtr W' W.heap.size W.heap.size [] ∧ Below W.heap.size W W' := by
  go_enter Try.func12, Try.ntmps12
  go_wp2
  go_ret
  exact ⟨rfl, ⟨Nat.le_refl _, _, heap_alloc_new W _, World.ownsRow_nil _ _ _ _⟩, (Below.refl _ W).alloc (Nat.le_refl _) _⟩

theorem put_nil (v : Value) (W : World) : Calls Try.prog 71 #[.pointer none, v] W fun e W' => e = .returned (.pointer none) ∧ W = W' := by
  go_enter Try.func71, Try.ntmps71
  go_wp2
  go_ret
  exact ⟨rfl, rfl⟩

theorem slice_of {W : World} {B n : Nat} {v : Value} {xs : List Value} (h : W.ownsRow B 5 1 v n xs) : ∃ A c, v = .slice A n c := by
  obtain ⟨_, ⟨rfl, rfl⟩ | ⟨g, cap, cur, rfl, _⟩⟩ := h
  · exact ⟨none, 0, rfl⟩
  · exact ⟨_, cap, rfl⟩
theorem row_ne {W : World} {B n g : Nat} {v : Value} {xs : List Value} {cs : Array Value} {t : TypeId} (h : W.ownsRow B 5 1 v n xs) (hg : W.heap[g]? = some (.cells cs t (0, 0))) (ht : t ≠ 5) : some g ≠ v.ownBlock := by
  obtain ⟨_, ⟨rfl, rfl⟩ | ⟨k, cap, cur, rfl, _, hk, _⟩⟩ := h
  · simp [Value.ownBlock]
  · intro e
    simp only [Value.ownBlock, Option.some.injEq] at e
    subst e
    rw [hk] at hg
    simp only [Option.some.injEq, Obj.cells.injEq] at hg
    exact ht hg.2.1.symm
theorem row_of {W : World} {B n : Nat} {v : Value} {xs : List Value} (h : W.ownsRow B 5 1 v n xs) {k : Nat} (hn : NoRow W k) : some k ≠ v.ownBlock := by
  obtain ⟨_, ⟨rfl, rfl⟩ | ⟨g, cap, cur, rfl, _, hk, _⟩⟩ := h
  · simp [Value.ownBlock]
  · intro e
    simp only [Value.ownBlock, Option.some.injEq] at e
    subst e
    exact hn _ _ hk
theorem row_low {W : World} {B n : Nat} {v : Value} {xs : List Value} (h : W.ownsRow B 5 1 v n xs) {k : Nat} (hk : k < B) : some k ≠ v.ownBlock := by
  intro e
  have := (h.lt k e.symm).1
  omega

theorem info_u8 : ∃ i z, Try.prog.info? 5 = some i ∧ i.zero = some z ∧ i.size = 1 ∧ i.bytes = 1 ∧ z.cells.size = 1 := by
  have h : ((Try.prog.info? 5).bind fun i => i.zero.map fun z => (i.size, i.bytes, z.cells.size)) = some (1, 1, 1) := by kernel_rfl
  cases hi : Try.prog.info? 5 with
  | none => rw [hi] at h; cases h
  | some i =>
    rw [hi] at h
    simp only [Option.bind_some, Option.map_eq_some_iff, Prod.mk.injEq] at h
    obtain ⟨z, hz, h1, h2, h3⟩ := h
    exact ⟨i, z, rfl, hz, h1, h2, h3⟩
/-- An append of bytes onto a row of bytes that a call made. -/
theorem wp_append_u8 {o : Oper} {a : Act} {K : Act → World → Prop} {Q : Exit → Act → World → Prop} (w : World) (s x : Operand)
    (ho : o.op = .call { callee := .builtin .append, args := #[s, x], argTypes := #[25, 25] }) (base : Nat)
    (v : Value) (n : Nat) (xs : List Value) (hs : a.eval s = v) (hown : w.ownsRow base 5 1 v n xs)
    (A : Option Addr) (m c : Nat) (news : List Value) (hx : a.eval x = .slice A m c) (hl : news.length = m) (hsrc : Src w A m news) (h1 : ∀ u ∈ news, u.oneCell' = true)
    (hbytes : n + m ≤ 140737488355328) (hbase : base ≤ w.heap.size)
    (h : ∀ v' w', w'.ownsRow base 5 1 v' (n + m) (xs ++ news) → w.grownBy w' v.ownBlock → (v'.ownBlock = v.ownBlock ∨ v'.ownBlock = some w.heap.size) → K (a.put o.dst v') w') : Oper.wp Try.prog o a w K Q := by
  obtain ⟨i, z, hi, hz, h2, h3, h4⟩ := info_u8
  exact wp_append_src w s x 25 ho base 5 i z Try.underlying25 hi hz (by rw [h4, h2]) (by omega) v n xs hs (by rw [h2]; exact hown) A m c news hx (by rw [hl, h2, Nat.mul_one]) hsrc h1 (by unfold maxLen; omega) (by rw [h3]; omega) hbase (by rw [h2]; exact h)
theorem wpList_append_u8 {ops : Array Oper} {rest : List Oper} {o : Oper} {a : Act} {Q : Exit → Act → World → Prop} (w : World) (hgd : o.guard = none) (s x : Operand)
    (ho : o.op = .call { callee := .builtin .append, args := #[s, x], argTypes := #[25, 25] }) (base : Nat)
    (v : Value) (n : Nat) (xs : List Value) (hs : a.eval s = v) (hown : w.ownsRow base 5 1 v n xs)
    (A : Option Addr) (m c : Nat) (news : List Value) (hx : a.eval x = .slice A m c) (hl : news.length = m) (hsrc : Src w A m news) (h1 : ∀ u ∈ news, u.oneCell' = true)
    (hbytes : n + m ≤ 140737488355328) (hbase : base ≤ w.heap.size)
    (h : ∀ v' w', w'.ownsRow base 5 1 v' (n + m) (xs ++ news) → w.grownBy w' v.ownBlock → (v'.ownBlock = v.ownBlock ∨ v'.ownBlock = some w.heap.size) → wpList Try.prog ops Q rest (a.put o.dst v') w') : wpList Try.prog ops Q (o :: rest) a w :=
  wpList_plain hgd fun _ hK => wp_append_u8 w s x ho base v n xs hs hown A m c news hx hl hsrc h1 hbytes hbase fun v' w' h2 h3 h4 => hK _ _ (h v' w' h2 h3 h4)

theorem put_any (B g m c : Nat) (A : Option Addr) (bs cs : List Nat) (W : World) (h : Wtr W B g bs) (hs : Src W A m (u8s cs)) (hm : cs.length = m) (hlen : bs.length + m ≤ 140737488355328) :
    Calls Try.prog 71 #[.pointer (some ⟨g, 0, none⟩), .slice A m c] W fun e W' => e = .returned (.pointer (some ⟨g, 0, none⟩)) ∧ Wtr W' B g (bs ++ cs) ∧ Wrote B g W W' := by
  have hlt := h.lt
  obtain ⟨hB, v, hv, hown⟩ := h
  have c0 := row_cell hv 0
  have z0 := row_frozen hv 0
  go_enter Try.func71, Try.ntmps71
  go_wp2_with (first | (refine wpList_append_u8 _ rfl _ _ rfl B v bs.length (u8s bs) rfl hown A m c (u8s cs) rfl (by rw [u8s_len, hm]) hs (u8s_one cs) (by omega) (by omega) ?_; intro v' W1 hown1 hgrow hloc; have HLOC := Lib.hid hloc; clear hloc; obtain ⟨A', c', rfl⟩ := slice_of hown1; have hv1 := (hgrow.block g hlt (row_ne hown hv (by decide))).trans hv; have c1 := row_cell hv1 0; have z1 := row_frozen hv1 0))
  go_ret
  have hg2 : (W1.setCell ⟨g, 0, none⟩ (.slice A' (bs.length + m) c')).heap[g]? = some (.cells #[.slice A' (bs.length + m) c'] 106 (0, 0)) := by
    simp [World.setCell, Array.getElem?_modify, hv1]
  refine ⟨rfl, ⟨hB, _, hg2, ?_⟩, ?_, ?_, ?_⟩
  · rw [u8s_app, List.length_append, hm]
    exact ownsRow_setCell_other hown1 (a := ⟨g, 0, none⟩) (fun e => row_ne hown1 hv1 (by decide) e.symm) _
  · have b1 : Below B W W1 := ⟨hgrow.os, hgrow.tape, hgrow.output, hgrow.size, fun k hk => hgrow.block k (by omega) (row_low hown hk)⟩
    exact b1.setCell hB _
  · intro k hk hkg hn
    rw [rowOf_of hv] at hn
    rw [Below.heap_setCell W1 ⟨g, 0, none⟩ _ k hkg]
    exact hgrow.block k hk hn
  · intro k hk
    rw [rowOf_of hg2] at hk
    rw [rowOf_of hv]
    rcases HLOC.out with h1 | h1
    · exact Or.inl (h1.symm.trans hk)
    · rw [h1] at hk
      simp only [Option.some.injEq] at hk
      exact Or.inr (by omega)
end Go.Proofs.Ytnoeogbihjpacaa
