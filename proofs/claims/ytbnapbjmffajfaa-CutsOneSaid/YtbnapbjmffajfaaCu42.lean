/-
cuts: two homes, and what is on its way to each, as memory.
cuts: CutsOne: what comes in, what the homes begin with, how long something can be on its way.
-/
import Derived.Test.YtbnapbjmffajfaaCu41
import Derived.Test.YtbnapbjmffajfaaOff
import Derived.Laws.Bits128
namespace Go.Proofs.Ytbnapbjmffajfaa
open Go.RowKit
set_option linter.unusedSimpArgs false
set_option linter.unusedVariables false
namespace Co
open Cb
/-- A table with whatever homes. -/
def TG (W : World) (B t : Nat) (F : Nat → Prop) (o p : Int) (s : TS) : Prop := ∃ v, Tb W B t F o p v s.cs s.a s.b
section
variable {W w w' : World} {B t : Nat} {F : Nat → Prop} {o p : Int} {s : TS}
theorem TG.next (h : TG W B t F o p s) (hb : Below W.heap.size W w') : TG w' B t F o p s := by
  obtain ⟨v, T⟩ := h; exact ⟨v, T.next hb⟩
theorem TG.keep (h : TG W B t F o p s) (hk : ∀ k, F k → w'.heap[k]? = W.heap[k]?) (hs : W.heap.size ≤ w'.heap.size) : TG w' B t F o p s := by
  obtain ⟨v, T⟩ := h; exact ⟨v, T.keep hk hs⟩
theorem TG.low (h : TG W B t F o p s) : ∀ k, F k → B ≤ k ∧ k < W.heap.size := by obtain ⟨v, T⟩ := h; exact T.low
theorem TG.base (h : TG W B t F o p s) : B ≤ W.heap.size := by
  obtain ⟨v, T⟩ := h; have := T.low t T.ft; omega
theorem TG.less {B' : Nat} (h : TG W B t F o p s) (hB : B' ≤ B) : TG W B' t F o p s := by
  obtain ⟨v, T⟩ := h
  exact ⟨v, T.ft, T.fv, T.blk, ownG_le T.row hB, fun k hk => ⟨Nat.le_trans hB (T.low k hk).1, (T.low k hk).2⟩⟩
theorem TG.still (h : TG W B t F o p s) (hb : Below W.heap.size W w) : TG w B t (Grow F W w) o p s ∧ Turn B F W w := by
  have hB := h.base
  obtain ⟨v, T⟩ := h
  have hz := hb.size
  refine ⟨⟨v, (T.next hb).wider (fun k hk => Or.inl hk) ?_⟩, hb.mono hB, fun k hk _ => hb.block k hk⟩
  rintro k (hk | ⟨k1, k2⟩)
  · have := T.low k hk; exact ⟨this.1, by omega⟩
  · exact ⟨by omega, k2⟩
end
section
variable (W : World) {B t : Nat} {F : Nat → Prop} {o p : Int} {s : TS}
theorem prop_tg (ho : o ≠ 0) (h : TG W B t F o p s) (hl : s.cs.length ≤ 100000) (tm : Nat) (f : Nat → Nat) :
    Calls Try.prog 8 #[.pointer (some ⟨t, 0, none⟩), .int .u64 (tm : Nat), .agg (vl f).toArray] W fun e W' => (∃ z : St, e = .returned (.tuple #[.agg z.cells.toArray, .int .i64 (propE s.cs s.a ⟨true, tm, f⟩)]) ∧ (propE s.cs s.a ⟨true, tm, f⟩ = 0 → z = ⟨true, tm, f⟩)) ∧ TG W' B t (Grow F W W') o p (TS.propG o p s tm f) ∧ Turn B F W W' := by
  have h0 := h
  obtain ⟨v, T⟩ := h
  refine (propose_any W T ho hl tm f).mono ?_
  intro e W' hp
  rcases hp with ⟨hn, rfl, hb⟩ | ⟨hz, rfl, hD⟩
  · have e1 : TS.propG o p s tm f = s := by unfold TS.propG; rw [if_neg hn]
    rw [e1]
    exact ⟨⟨_, rfl, fun h => absurd h hn⟩, h0.still hb⟩
  · obtain ⟨v', T', tn⟩ := hD
    have e1 : TS.propG o p s tm f = TS.of (decT o p s.cs ⟨true, true, tm, f⟩ s.b) := by unfold TS.propG; rw [if_pos hz]
    rw [e1, hz]
    exact ⟨⟨_, rfl, fun _ => rfl⟩, ⟨v', T'⟩, tn⟩
theorem hear_tg (ho : o ≠ 0) (h : TG W B t F o p s) (hl : s.cs.length ≤ 100000) (r : Int) (x : St) (h0 : hearE p s.cs s.b r x = 0) :
    Calls Try.prog 9 #[.pointer (some ⟨t, 0, none⟩), .int .i64 r, .agg x.cells.toArray] W fun e W' => e = .returned (.tuple #[.bool (promP s.a x), .int .i64 0]) ∧ TG W' B t (Grow F W W') o p (TS.hearG o p s r x) ∧ Turn B F W W' := by
  obtain ⟨v, T⟩ := h
  refine (hear_any W T ho hl r x).mono ?_
  intro e W' hp
  unfold HearP at hp
  rcases hp with ⟨hn, -⟩ | ⟨hz, rfl, hD⟩
  · exact absurd h0 hn
  · obtain ⟨v', T', tn⟩ := hD
    have e1 : TS.hearG o p s r x = TS.of (decT o p s.cs (if promP s.a x then ⟨true, St.zero⟩ else s.a) ⟨true, x⟩) := by unfold TS.hearG; rw [if_pos hz]
    rw [e1]
    exact ⟨rfl, ⟨v', T'⟩, tn⟩
theorem cuts_tg (h : TG W B t F o p s) (hl : s.cs.length ≤ 100000) : Calls Try.prog 7 #[.pointer (some ⟨t, 0, none⟩)] W fun e W' => ∃ A c, e = .returned (.slice A s.cs.length c) ∧ Below W.heap.size W W' ∧ (∀ (k : Nat) (x : Ct), s.cs[k]? = some x → ∃ g, A = some ⟨g, 0, none⟩ ∧ g < W'.heap.size ∧ W'.rangeAt g (k * 14) x.cells) := by
  obtain ⟨v, T⟩ := h
  refine (cuts_any W T hl).mono ?_
  rintro e W' ⟨v', rfl, ho, hb⟩
  have ho2 := ho
  obtain ⟨_, ⟨rfl, h0⟩ | ⟨q, cap, cur, rfl, _⟩⟩ := ho
  · exact ⟨none, 0, by rw [h0], hb, fun k x hx => by have := (List.getElem?_eq_some_iff.1 hx).1; omega⟩
  · refine ⟨_, cap, rfl, hb, fun k x hx => ?_⟩
    obtain ⟨g, c, e1, h1, h2⟩ := ct_row ho2 (by have := (List.getElem?_eq_some_iff.1 hx).1; omega)
    simp only [Value.slice.injEq] at e1
    exact ⟨g, e1.1, h1, h2 k x hx⟩
end
/-- Two tables that stand apart, and P's blocks apart from both. -/
def TDG (W : World) (P : Nat → Prop) (w : World) (o p : Int) (t u : Nat) (s1 s2 : TS) : Prop :=
  ∃ F G, TG w W.heap.size t F o p s1 ∧ TG w W.heap.size u G p o s2 ∧ (∀ k, F k → ¬ G k) ∧ Below W.heap.size W w ∧ Prot P F w ∧ Prot P G w
section
variable {W w w' : World} {P : Nat → Prop} {o p : Int} {t u : Nat} {s1 s2 s1' : TS}
theorem TDG.b (h : TDG W P w o p t u s1 s2) : Below W.heap.size W w := by
  obtain ⟨F, G, h1, h2, h3, h4, h5, h6⟩ := h; exact h4
theorem TDG.next (h : TDG W P w o p t u s1 s2) (hb : Below w.heap.size w w') : TDG W P w' o p t u s1 s2 := by
  obtain ⟨F, G, h1, h2, h3, h4, h5, h6⟩ := h
  exact ⟨F, G, h1.next hb, h2.next hb, h3, h4.trans (hb.mono h4.size), h5.next hb, h6.next hb⟩
theorem TDG.symm (h : TDG W P w o p t u s1 s2) : TDG W P w p o u t s2 s1 := by
  obtain ⟨F, G, h1, h2, h3, h4, h5, h6⟩ := h
  exact ⟨G, F, h2, h1, apart_symm h3, h4, h6, h5⟩
theorem TDG.one (h : TDG W P w o p t u s1 s2) : ∃ F, TG w W.heap.size t F o p s1 := by
  obtain ⟨F, G, h1, h2, h3, h4, h5, h6⟩ := h; exact ⟨F, h1⟩
theorem tdg_turn {F G : Nat → Prop} (h2 : TG w W.heap.size u G p o s2) (h3 : ∀ k, F k → ¬ G k) (h4 : Below W.heap.size W w) (h5 : Prot P F w) (h6 : Prot P G w) (k1 : TG w' W.heap.size t (Grow F w w') o p s1') (k2 : Turn W.heap.size F w w') : TDG W P w' o p t u s1' s2 ∧ Kept P w w' ∧ w.heap.size ≤ w'.heap.size :=
  ⟨⟨_, G, k1, h2.keep (fun k hk => k2.2 k (h2.low k hk).2 (apart_symm h3 k hk)) k2.1.size, apart_grow h3 (fun k hk => (h2.low k hk).2), h4.trans k2.1, k2.prot h5, h6.size k2.1.size⟩, k2.kept h5, k2.1.size⟩
/-- A call on the first of two tables, behind a box gx that was laid. -/
theorem TDG.prop (ho : o ≠ 0) (h : TDG W P w o p t u s1 s2) (hl : s1.cs.length ≤ 100000) {w1 : World} (hb : Below w.heap.size w w1) (tm : Nat) (f : Nat → Nat) :
    Calls Try.prog 8 #[.pointer (some ⟨t, 0, none⟩), .int .u64 (tm : Nat), .agg (vl f).toArray] w1 fun e w' => (∃ z : St, e = .returned (.tuple #[.agg z.cells.toArray, .int .i64 (propE s1.cs s1.a ⟨true, tm, f⟩)]) ∧ (propE s1.cs s1.a ⟨true, tm, f⟩ = 0 → z = ⟨true, tm, f⟩)) ∧ TDG W P w' o p t u (TS.propG o p s1 tm f) s2 ∧ Kept P w1 w' ∧ w1.heap.size ≤ w'.heap.size ∧ (∀ k, w.heap.size ≤ k → k < w1.heap.size → w'.heap[k]? = w1.heap[k]?) := by
  obtain ⟨F, G, h1, h2, h3, h4, h5, h6⟩ := h
  refine (prop_tg w1 ho (h1.next hb) hl tm f).mono ?_
  rintro e w' ⟨he, k1, k2⟩
  have := tdg_turn (h2.next hb) h3 (h4.trans (hb.mono h4.size)) (h5.next hb) (h6.next hb) k1 k2
  exact ⟨he, this.1, this.2.1, this.2.2, fun k g1 g2 => k2.2 k g2 (fun hF => by have := (h1.low k hF).2; omega)⟩
theorem TDG.hear (ho : o ≠ 0) (h : TDG W P w o p t u s1 s2) (hl : s1.cs.length ≤ 100000) {w1 : World} (hb : Below w.heap.size w w1) (r : Int) (x : St) (h0 : hearE p s1.cs s1.b r x = 0) :
    Calls Try.prog 9 #[.pointer (some ⟨t, 0, none⟩), .int .i64 r, .agg x.cells.toArray] w1 fun e w' => e = .returned (.tuple #[.bool (promP s1.a x), .int .i64 0]) ∧ TDG W P w' o p t u (TS.hearG o p s1 r x) s2 ∧ Kept P w1 w' ∧ w1.heap.size ≤ w'.heap.size := by
  obtain ⟨F, G, h1, h2, h3, h4, h5, h6⟩ := h
  refine (hear_tg w1 ho (h1.next hb) hl r x h0).mono ?_
  rintro e w' ⟨he, k1, k2⟩
  have := tdg_turn (h2.next hb) h3 (h4.trans (hb.mono h4.size)) (h5.next hb) (h6.next hb) k1 k2
  exact ⟨he, this.1, this.2.1, this.2.2⟩
end
/-- Something on its way. -/
def wyc (m : Nat × St) : List Value := [.int .i64 ((m.1 : Nat) : Int)] ++ m.2.cells
theorem wyc_len (m : Nat × St) : (wyc m).length = 15 := by unfold wyc; rw [List.length_append, st_len]; rfl
theorem wyc_0 (m : Nat × St) : (wyc m)[0]? = some (.int .i64 ((m.1 : Nat) : Int)) := rfl
theorem wyc_1 (m : Nat × St) (j : Nat) : (wyc m)[1 + j]? = m.2.cells[j]? := by unfold wyc; rw [List.getElem?_append_right (by simp)]; simp
theorem wyc_ones (m : Nat × St) : ∀ v ∈ wyc m, v.oneCell' = true := by
  intro v hv
  unfold wyc at hv
  rcases List.mem_append.1 hv with h | h
  · simp at h; subst h; rfl
  · exact st_ones _ v h
def wys (l : List (Nat × St)) : List Value := l.flatMap wyc
theorem wys_cons (m : Nat × St) (l : List (Nat × St)) : wys (m :: l) = wyc m ++ wys l := rfl
theorem wys_app (l l' : List (Nat × St)) : wys (l ++ l') = wys l ++ wys l' := by simp [wys]
attribute [irreducible] wyc
/-- The blocks of two homes that are no table's. -/
def WP (gt gw : Nat) (v0 v1 : Value) (k : Nat) : Prop := k = gt ∨ k = gw ∨ v0.ownBlock = some k ∨ v1.ownBlock = some k
structure Wm (W w : World) (gt gw d1 d2 : Nat) (a b : TS) (v0 v1 : Value) (m0 m1 : List (Nat × St)) : Prop where
  gl : W.heap.size ≤ gt ∧ W.heap.size ≤ gw
  bt : Blk w gt 27 #[.pointer (some ⟨d1, 0, none⟩), .pointer (some ⟨d2, 0, none⟩)]
  bw : Blk w gw 29 #[v0, v1]
  o0 : OffR w W.heap.size 43 15 v0 m0.length (wys m0)
  o1 : OffR w W.heap.size 43 15 v1 m1.length (wys m1)
  ne : ∀ k, v0.ownBlock = some k → v1.ownBlock ≠ some k
  td : TDG W (WP gt gw v0 v1) w 1 2 d1 d2 a b
section
variable {W w w' w9 : World} {gt gw d1 d2 : Nat} {a b a' b' : TS} {v0 v1 v' : Value} {m0 m1 m' : List (Nat × St)}
theorem Wm.next (h : Wm W w gt gw d1 d2 a b v0 v1 m0 m1) (hb : Below w.heap.size w w') : Wm W w' gt gw d1 d2 a b v0 v1 m0 m1 :=
  ⟨h.gl, h.bt.next hb, h.bw.next hb, h.o0.next hb, h.o1.next hb, h.ne, h.td.next hb⟩
theorem Wm.bel (h : Wm W w gt gw d1 d2 a b v0 v1 m0 m1) : Below W.heap.size W w := h.td.b
theorem Wm.turn (h : Wm W w gt gw d1 d2 a b v0 v1 m0 m1) (hd : TDG W (WP gt gw v0 v1) w' 1 2 d1 d2 a' b') (hk : Kept (WP gt gw v0 v1) w w') : Wm W w' gt gw d1 d2 a' b' v0 v1 m0 m1 :=
  ⟨h.gl, (hk gt (Or.inl rfl)).trans h.bt, (hk gw (Or.inr (Or.inl rfl))).trans h.bw, h.o0.keep fun k e => hk k (Or.inr (Or.inr (Or.inl e))), h.o1.keep fun k e => hk k (Or.inr (Or.inr (Or.inr e))), h.ne, hd⟩
theorem off_ne {B n size g : Nat} {e t : TypeId} {v : Value} {xs : List Value} {cs : Array Value} (h : OffR w B e size v n xs) (hg : Blk w g t cs) (ht : t ≠ e) : some g ≠ v.ownBlock := by
  rcases h.2 with ⟨rfl, _⟩ | ⟨k, o, cap, cur, rfl, _, hk, _⟩
  · simp [Value.ownBlock]
  · intro e1
    simp only [Value.ownBlock, Option.some.injEq] at e1
    subst e1
    unfold Blk at hg
    rw [hk] at hg
    simp only [Option.some.injEq, Obj.cells.injEq] at hg
    exact ht hg.2.1.symm
theorem Wm.low (h : Wm W w gt gw d1 d2 a b v0 v1 m0 m1) : ∀ k, WP gt gw v0 v1 k → W.heap.size ≤ k ∧ k < w.heap.size := by
  rintro k (rfl | rfl | e | e)
  · exact ⟨h.gl.1, h.bt.lt⟩
  · exact ⟨h.gl.2, h.bw.lt⟩
  · exact h.o0.lt k e
  · exact h.o1.lt k e
/-- What is on its way to a home changes. -/
theorem Wm.set0 (h : Wm W w gt gw d1 d2 a b v0 v1 m0 m1) (hown : OffR w9 W.heap.size 43 15 v' m'.length (wys m')) (hg : w.grownBy w9 v0.ownBlock) (hloc : v'.ownBlock = v0.ownBlock ∨ v'.ownBlock = some w.heap.size) :
    Wm W (w9.setCell ⟨gw, 0, none⟩ v') gt gw d1 d2 a b v' v1 m' m1 := by
  have htl := h.bt.lt
  have hwl := h.bw.lt
  have htw : gt ≠ gw := by
    intro e
    have h1 := h.bt
    have h2 := h.bw
    rw [e] at h1
    unfold Blk at h1 h2
    rw [h1] at h2
    simp only [Option.some.injEq, Obj.cells.injEq] at h2
    exact absurd h2.2.1 (by decide)
  have ht0 : some gt ≠ v0.ownBlock := off_ne h.o0 h.bt (by decide)
  have hw0 : some gw ≠ v0.ownBlock := off_ne h.o0 h.bw (by decide)
  have hwJ : some gw ≠ v1.ownBlock := off_ne h.o1 h.bw (by decide)
  have hz := hg.size
  have hlt : ∀ k, v'.ownBlock = some k → k < w9.heap.size := fun k e => (hown.lt k e).2
  have hsz : (w9.setCell ⟨gw, 0, none⟩ v').heap.size = w9.heap.size := by simp [World.setCell]
  have far9 : ∀ k, k ≠ gw → (w9.setCell ⟨gw, 0, none⟩ v').heap[k]? = w9.heap[k]? := fun k hk => Below.heap_setCell w9 ⟨gw, 0, none⟩ _ k hk
  have far : ∀ k, k < w.heap.size → k ≠ gw → some k ≠ v0.ownBlock → (w9.setCell ⟨gw, 0, none⟩ v').heap[k]? = w.heap[k]? := fun k hk h1 h2 => (far9 k h1).trans (hg.block k hk h2)
  have hb9 : Blk w9 gw 29 #[v0, v1] := (hg.block gw hwl hw0).trans h.bw
  have hneI : ∀ k, v'.ownBlock = some k → k ≠ gw := fun k e hk => by
    rcases hloc with h1 | h1
    · exact hw0 (by rw [← hk, ← h1]; exact e.symm)
    · rw [h1] at e; simp only [Option.some.injEq] at e; omega
  have hnew : ∀ k, v'.ownBlock = some k → v0.ownBlock = some k ∨ w.heap.size ≤ k := fun k e => by
    rcases hloc with h1 | h1
    · exact Or.inl (by rw [← h1]; exact e)
    · rw [h1] at e; simp only [Option.some.injEq] at e; exact Or.inr (by omega)
  refine ⟨h.gl, (far gt htl htw ht0).trans h.bt, hb9.setCell 0 v', hown.keep fun k e => far9 k (hneI k e), h.o1.keep fun k e => far k (h.o1.lt k e).2 (fun q => hwJ (by rw [← q]; exact e.symm)) (fun q => h.ne k q.symm e), ?_, ?_⟩
  · intro k e1 e2
    rcases hnew k e1 with q | q
    · exact h.ne k q e2
    · have := (h.o1.lt k e2).2; omega
  · have hP : ∀ k, WP gt gw v' v1 k → k < w9.heap.size ∧ (WP gt gw v0 v1 k ∨ w.heap.size ≤ k) := by
      rintro k (e | e | e | e)
      · exact ⟨by omega, Or.inl (Or.inl e)⟩
      · exact ⟨by omega, Or.inl (Or.inr (Or.inl e))⟩
      · rcases hnew k e with q | q
        · exact ⟨hlt k e, Or.inl (Or.inr (Or.inr (Or.inl q)))⟩
        · exact ⟨hlt k e, Or.inr q⟩
      · exact ⟨by have := (h.o1.lt k e).2; omega, Or.inl (Or.inr (Or.inr (Or.inr e)))⟩
    have hlow := h.low
    obtain ⟨F, G, h1, h2, h3, h4, h5, h6⟩ := h.td
    have kF : ∀ k, F k → (w9.setCell ⟨gw, 0, none⟩ v').heap[k]? = w.heap[k]? := fun k hF => far k (h1.low k hF).2 (fun e => (h5 gw (Or.inr (Or.inl rfl))).2 (e ▸ hF)) (fun e => (h5 k (Or.inr (Or.inr (Or.inl e.symm)))).2 hF)
    have kG : ∀ k, G k → (w9.setCell ⟨gw, 0, none⟩ v').heap[k]? = w.heap[k]? := fun k hG => far k (h2.low k hG).2 (fun e => (h6 gw (Or.inr (Or.inl rfl))).2 (e ▸ hG)) (fun e => (h6 k (Or.inr (Or.inr (Or.inl e.symm)))).2 hG)
    refine ⟨F, G, h1.keep kF (by omega), h2.keep kG (by omega), h3, ?_, fun k hp => ?_, fun k hp => ?_⟩
    · exact ⟨hg.os.trans h4.os, hg.tape.trans h4.tape, hg.output.trans h4.output, Nat.le_trans h4.size (by omega), fun k hk => (far k (Nat.lt_of_lt_of_le hk h4.size) (fun e => by have := (hlow gw (Or.inr (Or.inl rfl))).1; omega) (fun e => by have := (hlow k (Or.inr (Or.inr (Or.inl e.symm)))).1; omega)).trans (h4.block k hk)⟩
    · refine ⟨by rw [hsz]; exact (hP k hp).1, fun hF => ?_⟩
      rcases (hP k hp).2 with q | q
      · exact (h5 k q).2 hF
      · have := (h1.low k hF).2; omega
    · refine ⟨by rw [hsz]; exact (hP k hp).1, fun hG => ?_⟩
      rcases (hP k hp).2 with q | q
      · exact (h6 k q).2 hG
      · have := (h2.low k hG).2; omega
/-- What is on its way to a home changes. -/
theorem Wm.set1 (h : Wm W w gt gw d1 d2 a b v0 v1 m0 m1) (hown : OffR w9 W.heap.size 43 15 v' m'.length (wys m')) (hg : w.grownBy w9 v1.ownBlock) (hloc : v'.ownBlock = v1.ownBlock ∨ v'.ownBlock = some w.heap.size) :
    Wm W (w9.setCell ⟨gw, 1, none⟩ v') gt gw d1 d2 a b v0 v' m0 m' := by
  have htl := h.bt.lt
  have hwl := h.bw.lt
  have htw : gt ≠ gw := by
    intro e
    have h1 := h.bt
    have h2 := h.bw
    rw [e] at h1
    unfold Blk at h1 h2
    rw [h1] at h2
    simp only [Option.some.injEq, Obj.cells.injEq] at h2
    exact absurd h2.2.1 (by decide)
  have ht0 : some gt ≠ v1.ownBlock := off_ne h.o1 h.bt (by decide)
  have hw0 : some gw ≠ v1.ownBlock := off_ne h.o1 h.bw (by decide)
  have hwJ : some gw ≠ v0.ownBlock := off_ne h.o0 h.bw (by decide)
  have hz := hg.size
  have hlt : ∀ k, v'.ownBlock = some k → k < w9.heap.size := fun k e => (hown.lt k e).2
  have hsz : (w9.setCell ⟨gw, 1, none⟩ v').heap.size = w9.heap.size := by simp [World.setCell]
  have far9 : ∀ k, k ≠ gw → (w9.setCell ⟨gw, 1, none⟩ v').heap[k]? = w9.heap[k]? := fun k hk => Below.heap_setCell w9 ⟨gw, 1, none⟩ _ k hk
  have far : ∀ k, k < w.heap.size → k ≠ gw → some k ≠ v1.ownBlock → (w9.setCell ⟨gw, 1, none⟩ v').heap[k]? = w.heap[k]? := fun k hk h1 h2 => (far9 k h1).trans (hg.block k hk h2)
  have hb9 : Blk w9 gw 29 #[v0, v1] := (hg.block gw hwl hw0).trans h.bw
  have hneI : ∀ k, v'.ownBlock = some k → k ≠ gw := fun k e hk => by
    rcases hloc with h1 | h1
    · exact hw0 (by rw [← hk, ← h1]; exact e.symm)
    · rw [h1] at e; simp only [Option.some.injEq] at e; omega
  have hnew : ∀ k, v'.ownBlock = some k → v1.ownBlock = some k ∨ w.heap.size ≤ k := fun k e => by
    rcases hloc with h1 | h1
    · exact Or.inl (by rw [← h1]; exact e)
    · rw [h1] at e; simp only [Option.some.injEq] at e; exact Or.inr (by omega)
  refine ⟨h.gl, (far gt htl htw ht0).trans h.bt, hb9.setCell 1 v', h.o0.keep fun k e => far k (h.o0.lt k e).2 (fun q => hwJ (by rw [← q]; exact e.symm)) (fun q => h.ne k e q.symm), hown.keep fun k e => far9 k (hneI k e), ?_, ?_⟩
  · intro k e1 e2
    rcases hnew k e2 with q | q
    · exact h.ne k e1 q
    · have := (h.o0.lt k e1).2; omega
  · have hP : ∀ k, WP gt gw v0 v' k → k < w9.heap.size ∧ (WP gt gw v0 v1 k ∨ w.heap.size ≤ k) := by
      rintro k (e | e | e | e)
      · exact ⟨by omega, Or.inl (Or.inl e)⟩
      · exact ⟨by omega, Or.inl (Or.inr (Or.inl e))⟩
      · exact ⟨by have := (h.o0.lt k e).2; omega, Or.inl (Or.inr (Or.inr (Or.inl e)))⟩
      · rcases hnew k e with q | q
        · exact ⟨hlt k e, Or.inl (Or.inr (Or.inr (Or.inr q)))⟩
        · exact ⟨hlt k e, Or.inr q⟩
    have hlow := h.low
    obtain ⟨F, G, h1, h2, h3, h4, h5, h6⟩ := h.td
    have kF : ∀ k, F k → (w9.setCell ⟨gw, 1, none⟩ v').heap[k]? = w.heap[k]? := fun k hF => far k (h1.low k hF).2 (fun e => (h5 gw (Or.inr (Or.inl rfl))).2 (e ▸ hF)) (fun e => (h5 k (Or.inr (Or.inr (Or.inr e.symm)))).2 hF)
    have kG : ∀ k, G k → (w9.setCell ⟨gw, 1, none⟩ v').heap[k]? = w.heap[k]? := fun k hG => far k (h2.low k hG).2 (fun e => (h6 gw (Or.inr (Or.inl rfl))).2 (e ▸ hG)) (fun e => (h6 k (Or.inr (Or.inr (Or.inr e.symm)))).2 hG)
    refine ⟨F, G, h1.keep kF (by omega), h2.keep kG (by omega), h3, ?_, fun k hp => ?_, fun k hp => ?_⟩
    · exact ⟨hg.os.trans h4.os, hg.tape.trans h4.tape, hg.output.trans h4.output, Nat.le_trans h4.size (by omega), fun k hk => (far k (Nat.lt_of_lt_of_le hk h4.size) (fun e => by have := (hlow gw (Or.inr (Or.inl rfl))).1; omega) (fun e => by have := (hlow k (Or.inr (Or.inr (Or.inr e.symm)))).1; omega)).trans (h4.block k hk)⟩
    · refine ⟨by rw [hsz]; exact (hP k hp).1, fun hF => ?_⟩
      rcases (hP k hp).2 with q | q
      · exact (h5 k q).2 hF
      · have := (h1.low k hF).2; omega
    · refine ⟨by rw [hsz]; exact (hP k hp).1, fun hG => ?_⟩
      rcases (hP k hp).2 with q | q
      · exact (h6 k q).2 hG
      · have := (h2.low k hG).2; omega
end
end Co
end Go.Proofs.Ytbnapbjmffajfaa
namespace Go.Proofs.Ytbnapbjmffajfaa
open Go.RowKit Go.ChangeShapes Go.WideShapes Go.ChangeAt Go.WideElems
set_option linter.unusedSimpArgs false
set_option linter.unusedVariables false
namespace Co
open Cb
section
variable {H : Type} {enc : TypeId × Value → H} {w : World}
set_option maxRecDepth 100000 in
theorem open_sy2 {base fuel : Nat} {hd : Bool} {cs : List Value} {x : DataW H × List MemPlace} (h : DataW.trod enc Try.prog w base (fun _ => true) hd fuel 35 cs = some x) : ∃ p : Cu.Sy, cs = p.cells ∧ p.Ok ∧ Flat p.f := by
  obtain ⟨xs, m, _, hx, hcl, hlen, hg⟩ := DataW.trod_struct Try.underlying35 h
  rw [Cu.cells_sy] at hcl
  have g0 : DataW.trod enc Try.prog w base (fun _ => true) hd m 3 ((cs.drop 0).take (Try.prog.cellsOf 3)) = xs[0]? := hg 0 _ rfl
  have g1 : DataW.trod enc Try.prog w base (fun _ => true) hd m 4 ((cs.drop 1).take (Try.prog.cellsOf 4)) = xs[1]? := hg 1 _ rfl
  have g2 : DataW.trod enc Try.prog w base (fun _ => true) hd m 30 ((cs.drop 2).take (Try.prog.cellsOf 30)) = xs[2]? := hg 2 _ rfl
  have g3 : DataW.trod enc Try.prog w base (fun _ => true) hd m 33 ((cs.drop 3).take (Try.prog.cellsOf 33)) = xs[3]? := hg 3 _ rfl
  have hlen4 : xs.length = 4 := hlen
  clear hg hlen
  rw [Cu.cells_one.1] at g0
  rw [Cu.cells_one.2.1] at g1
  rw [Cu.cells_one.2.2] at g2
  rw [Cu.cells_vec] at g3
  rw [List.getElem?_eq_getElem (by omega)] at g0 g1 g2 g3
  obtain ⟨k, e0, _, w0⟩ := DataW.trod_int Try.underlying3 g0
  obtain ⟨s, e1, _⟩ := DataW.trod_bool Try.underlying4 g1
  obtain ⟨p, e2, _, w2⟩ := DataW.trod_int Try.underlying30 g2
  obtain ⟨f, e3, hf⟩ := vec_trodF g3
  have b0 := bounds_i64 w0
  have b2 := bounds_u64 w2
  obtain ⟨p', rfl⟩ : ∃ p' : Nat, p = p' := ⟨p.toNat, by omega⟩
  exact ⟨⟨k, s, p', f⟩, Cu.four_cells hcl e0 e1 e2 e3, ⟨by show p' < _; omega, hf.u32, by show _ ≤ k; omega, by show k ≤ _; omega⟩, hf⟩
end
theorem i64_and1 (n : Int) : bits .and .i64 n 1 = n % 2 := by
  have h1 : (BitVec.ofInt 64 1).toNat = 2 ^ 1 - 1 := by decide
  have key : (BitVec.ofInt 64 n &&& BitVec.ofInt 64 1).toNat = (n % ((2 ^ 64 : Nat) : Int)).toNat % 2 ^ 1 := by
    rw [BitVec.toNat_and, BitVec.toNat_ofInt, h1, Nat.and_two_pow_sub_one_eq_mod]
  show IntKind.i64.wrap ((BitVec.ofInt 64 n &&& BitVec.ofInt 64 1).toNat : Nat) = n % 2
  rw [key, IntKind.wrap_i64]
  omega
theorem sy_ones (x : Cu.Sy) : ∀ v ∈ x.cells, v.oneCell' = true := by
  intro v hv
  unfold Cu.Sy.cells at hv
  rcases List.mem_append.1 hv with h | h
  · simp at h; rcases h with rfl | rfl | rfl <;> rfl
  · exact vl_one _ v h
theorem syinfo (x : Cu.Sy) : (Try.prog.info? 35).map (·.size) = some x.cells.length := by rw [Cu.sy_len]; kernel_rfl
theorem syinfoA (x : Cu.Sy) : (Try.prog.info? 35).map (·.size) = some x.cells.toArray.size := by rw [List.size_toArray, Cu.sy_len]; kernel_rfl
theorem sy_zero (k : Int) : (Cu.Sy.cells ⟨k, true, 0, fun _ => 0⟩).toArray = #[.int .i64 k, .bool true, .int .u64 0, .int .u32 0, .int .u32 0, .int .u32 0, .int .u32 0, .int .u32 0, .int .u32 0, .int .u32 0, .int .u32 0, .int .u32 0, .int .u32 0, .int .u32 0, .int .u32 0] := by
  unfold Cu.Sy.cells vl
  rfl
theorem built_sy (k : Int) : Try.prog.built 35 [(0, .int .i64 k), (1, .bool true)] = some (Cu.Sy.cells ⟨k, true, 0, fun _ => 0⟩).toArray := by rw [sy_zero]; kernel_rfl
theorem wyinfo (m : Nat × St) : (Try.prog.info? 43).map (·.size) = some (wyc m).length := by rw [wyc_len]; kernel_rfl
theorem wyinfoA (m : Nat × St) : (Try.prog.info? 43).map (·.size) = some (wyc m).toArray.size := by rw [List.size_toArray, wyc_len]; kernel_rfl
/-- How long something can be on its way: behind n rounds the weights fall. -/
def Pot (n k : Nat) (m0 m1 : List (Nat × St)) : Prop := (60 < n → wt m0 + wt m1 = 0) ∧ (n ≤ 60 → n ≤ k → wt m0 + wt m1 = 0 ∨ (2 * (wt m0 + wt m1) + (k - n) ≤ 17 ∧ (wt (if k % 2 = 0 then m0 else m1) = 0 → 2 * (wt m0 + wt m1) + (k - n) ≤ 16)))
section
variable {a b : TS} {m0 m1 m0' m1' : List (Nat × St)} {n k : Nat}
theorem pot_new : Pot n 0 [] [] := ⟨fun _ => rfl, fun _ _ => Or.inl rfl⟩
theorem pot_list (h1 : k < n) (h2 : n ≤ 60) (h : Two 1 2 a b m0 m1) : Pot n (k + 1) m0 m1 := by
  have := two_few h
  exact ⟨fun h => by omega, fun _ h3 => Or.inr ⟨by omega, fun _ => by omega⟩⟩
theorem pot_skip (h : Pot n k m0 m1) (h1 : ¬ (k < n ∧ n ≤ 60)) (h0 : (if k % 2 = 0 then m0 else m1) = []) : Pot n (k + 1) m0 m1 := by
  refine ⟨h.1, fun h2 h3 => ?_⟩
  have hw : wt (if k % 2 = 0 then m0 else m1) = 0 := by rw [h0]; rfl
  rcases h.2 h2 (by omega) with q | ⟨q1, q2⟩
  · exact Or.inl q
  · have q3 := q2 hw
    by_cases hp : k % 2 = 0
    · rw [if_pos hp] at hw
      rw [if_neg (by omega)]
      by_cases hz : wt m1 = 0
      · left; omega
      · exact Or.inr ⟨by omega, fun h => absurd h hz⟩
    · rw [if_neg hp] at hw
      rw [if_pos (by omega)]
      by_cases hz : wt m0 = 0
      · left; omega
      · exact Or.inr ⟨by omega, fun h => absurd h hz⟩
theorem pot_hear (h : Pot n k m0 m1) (h1 : ¬ (k < n ∧ n ≤ 60)) (h0 : wt m0' + wt m1' < wt m0 + wt m1) : Pot n (k + 1) m0' m1' := by
  refine ⟨fun h2 => by have := h.1 h2; omega, fun h2 h3 => ?_⟩
  rcases h.2 h2 (by omega) with q | ⟨q1, q2⟩
  · omega
  · exact Or.inr ⟨by omega, fun _ => by omega⟩
theorem pot_end (h : Pot n k m0 m1) (h1 : 60 < n ∨ k = n + 200) : m0 = [] ∧ m1 = [] := by
  have : wt m0 + wt m1 = 0 := by
    by_cases h60 : 60 < n
    · exact h.1 h60
    · rcases h.2 (by omega) (by omega) with q | ⟨q1, -⟩
      · exact q
      · omega
  exact ⟨wt_zero (by omega), wt_zero (by omega)⟩
end
theorem wm_start {W w1 w2 : World} (h1 : Tb w1 W.heap.size W.heap.size (fun k => k = W.heap.size) 1 2 (.slice none 0 0) [] Sd.zero Sd.zero) (b1 : Below W.heap.size W w1) (z1 : w1.heap.size = W.heap.size + 1) (h2 : Tb w2 w1.heap.size w1.heap.size (fun k => k = w1.heap.size) 2 1 (.slice none 0 0) [] Sd.zero Sd.zero) (b2 : Below w1.heap.size w1 w2) (z2 : w2.heap.size = w1.heap.size + 1) :
    Wm W ((w2.alloc (.cells #[.pointer (some ⟨W.heap.size, 0, none⟩), .pointer (some ⟨w1.heap.size, 0, none⟩)] 27)).alloc (.cells #[.slice none 0 0, .slice none 0 0] 29)) w2.heap.size (w2.heap.size + 1) W.heap.size w1.heap.size ⟨[], Sd.zero, Sd.zero⟩ ⟨[], Sd.zero, Sd.zero⟩ (.slice none 0 0) (.slice none 0 0) [] [] := by
  have ba := (Below.refl w2.heap.size w2).alloc (Nat.le_refl _) (.cells #[.pointer (some ⟨W.heap.size, 0, none⟩), .pointer (some ⟨w1.heap.size, 0, none⟩)] 27)
  have bb := ba.alloc ba.size (.cells #[.slice none 0 0, .slice none 0 0] 29)
  have hP : ∀ k, WP w2.heap.size (w2.heap.size + 1) (.slice none 0 0) (.slice none 0 0) k → k = w2.heap.size ∨ k = w2.heap.size + 1 := by
    rintro k (e | e | e | e)
    · exact Or.inl e
    · exact Or.inr e
    · simp [Value.ownBlock] at e
    · simp [Value.ownBlock] at e
  have t1 : TG w1 W.heap.size W.heap.size (fun k => k = W.heap.size) 1 2 ⟨[], Sd.zero, Sd.zero⟩ := ⟨_, h1⟩
  have t2 : TG w2 w1.heap.size w1.heap.size (fun k => k = w1.heap.size) 2 1 ⟨[], Sd.zero, Sd.zero⟩ := ⟨_, h2⟩
  refine ⟨⟨by omega, by omega⟩, (Blk.new _ _ _).alloc _, Blk.new' (by simp), OffR.nil _ _ _ _, OffR.nil _ _ _ _, fun k e => by simp [Value.ownBlock] at e, fun k => k = W.heap.size, fun k => k = w1.heap.size, (t1.next b2).next bb, (t2.less (by omega)).next bb, fun k e1 e2 => by omega, (b1.trans (b2.mono (by omega))).trans (bb.mono (by omega)), fun k hp => ?_, fun k hp => ?_⟩
  · have := hP k hp; simp; omega
  · have := hP k hp; simp; omega
theorem info_wy : ∃ i z, Try.prog.info? 43 = some i ∧ i.zero = some z ∧ i.size = 15 ∧ i.bytes ≤ 1000 ∧ z.cells.size = 15 := by
  have h : ((Try.prog.info? 43).bind fun i => i.zero.map fun z => (i.size, decide (i.bytes ≤ 1000), z.cells.size)) = some (15, true, 15) := by kernel_rfl
  cases hi : Try.prog.info? 43 with
  | none => rw [hi] at h; cases h
  | some i =>
    rw [hi] at h
    simp only [Option.bind_some, Option.map_eq_some_iff, Prod.mk.injEq] at h
    obtain ⟨z, hz, h1, h2, h3⟩ := h
    exact ⟨i, z, rfl, hz, h1, of_decide_eq_true h2, h3⟩
theorem wp_app_wy {o : Oper} {a : Act} {K : Act → World → Prop} {Q : Exit → Act → World → Prop} (w : World) (s x : Operand)
    (ho : o.op = .call { callee := .builtin .append, args := #[s, x], argTypes := #[28, 28] }) (base : Nat)
    (v : Value) (l : List (Nat × St)) (hs : a.eval s = v) (hown : OffR w base 43 15 v l.length (wys l))
    (ad : Addr) (c : Nat) (m : Nat × St) (hx : a.eval x = .slice (some ad) 1 c) (hc : ∀ j u, (wyc m)[j]? = some u → w.cell? (ad.add j) = some u) (hl : l.length ≤ 1000) (hbase : base ≤ w.heap.size)
    (h : ∀ v' w', OffR w' base 43 15 v' (l ++ [m]).length (wys (l ++ [m])) → w.grownBy w' v.ownBlock → (v'.ownBlock = v.ownBlock ∨ v'.ownBlock = some w.heap.size) → K (a.put o.dst v') w') : Oper.wp Try.prog o a w K Q := by
  obtain ⟨i, z, hi, hz, h2, h3, h4⟩ := info_wy
  have h5 : (l.length + 1) * i.bytes ≤ 1001 * 1000 := Nat.mul_le_mul (by omega) h3
  refine wp_append_off w s x 28 ho base 43 i z Try.underlying28 hi hz (by rw [h4, h2]) (by omega) v l.length (wys l) hs (by rw [h2]; exact hown) ad 1 c (wyc m) hx (by rw [wyc_len, h2]) hc (wyc_ones m) (by unfold maxLen; omega) (by omega) hbase ?_
  intro v' w' k1 k2 k3
  refine h v' w' ?_ k2 k3
  rw [h2] at k1
  rw [List.length_append, wys_app, show wys [m] = wyc m by simp [wys]]
  exact k1
end Co
end Go.Proofs.Ytbnapbjmffajfaa
