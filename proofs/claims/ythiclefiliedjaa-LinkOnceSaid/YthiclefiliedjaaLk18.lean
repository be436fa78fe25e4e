/-
link: two links side by side.
-/
import Derived.Test.YthiclefiliedjaaLk17
namespace Go.Proofs.Ythiclefiliedjaa
open Go.RowKit
set_option linter.unusedSimpArgs false
set_option linter.unusedVariables false
namespace Lk
theorem Alv.doing {W w : World} {P : Nat → Prop} {d : Nat} {s : LS} (h : Alv W P w d s) (o : Do) (ho : o.Ok w) :
    Calls Try.prog 24 #[.pointer (some ⟨d, 0, none⟩), .agg o.cells.toArray] w fun e w' => e = .returned (.int .i64 (doE s o)) ∧ Alv W P w' d (doS s o) ∧ Kept P w w' := by
  obtain ⟨F, hK, hB, hP⟩ := h
  refine (do_any w hK o ho).mono ?_
  rintro e w' ⟨rfl, h1, h2⟩
  exact ⟨rfl, ⟨_, h1, hB.trans h2.1, h2.prot hP⟩, h2.kept hP⟩
theorem LK.less {W : World} {B C d : Nat} {F : Nat → Prop} {s : LS} (h : LK W C d F s) (hB : B ≤ C) : LK W B d F s := by
  obtain ⟨A, c, l, D⟩ := h
  exact ⟨A, c, l, { D with low := fun k hk => ⟨Nat.le_trans hB (D.low k hk).1, (D.low k hk).2⟩ }⟩
/-- Two links that stand apart, and Q's blocks apart from both. -/
def Duo (W : World) (Q : Nat → Prop) (w : World) (d1 d2 : Nat) (s1 s2 : LS) : Prop :=
  ∃ F G, LK w W.heap.size d1 F s1 ∧ LK w W.heap.size d2 G s2 ∧ (∀ k, F k → ¬ G k) ∧ Below W.heap.size W w ∧ Prot Q F w ∧ Prot Q G w
section
variable {W w w' : World} {Q : Nat → Prop} {d1 d2 : Nat} {s1 s2 : LS}
theorem Duo.next (h : Duo W Q w d1 d2 s1 s2) (hb : Below w.heap.size w w') : Duo W Q w' d1 d2 s1 s2 := by
  obtain ⟨F, G, h1, h2, h3, h4, h5, h6⟩ := h
  exact ⟨F, G, h1.next hb, h2.next hb, h3, h4.trans (hb.mono h4.size), h5.next hb, h6.next hb⟩
theorem Duo.symm (h : Duo W Q w d1 d2 s1 s2) : Duo W Q w d2 d1 s2 s1 := by
  obtain ⟨F, G, h1, h2, h3, h4, h5, h6⟩ := h
  exact ⟨G, F, h2, h1, apart_symm h3, h4, h6, h5⟩
theorem Duo.b (h : Duo W Q w d1 d2 s1 s2) : Below W.heap.size W w := by
  obtain ⟨F, G, h1, h2, h3, h4, h5, h6⟩ := h; exact h4
theorem Duo.one (h : Duo W Q w d1 d2 s1 s2) : ∃ F, LK w W.heap.size d1 F s1 := by
  obtain ⟨F, G, h1, h2, h3, h4, h5, h6⟩ := h; exact ⟨F, h1⟩
theorem Duo.two (h : Duo W Q w d1 d2 s1 s2) : ∃ F, LK w W.heap.size d2 F s2 := h.symm.one
theorem Duo.kept (h : Duo W Q w d1 d2 s1 s2) (hb : Below w.heap.size w w') : Kept Q w w' := by
  obtain ⟨F, G, h1, h2, h3, h4, h5, h6⟩ := h
  exact fun k hk => hb.block k (h5 k hk).1
theorem duo_turn {F' : Nat → Prop} {s' : LS} {F G : Nat → Prop} (h2 : LK w W.heap.size d2 G s2) (h3 : ∀ k, F k → ¬ G k) (h4 : Below W.heap.size W w) (h5 : Prot Q F w) (h6 : Prot Q G w) (h1 : LK w' W.heap.size d1 (Grow F w w') s') (t : Turn W.heap.size F w w') : Duo W Q w' d1 d2 s' s2 ∧ Kept Q w w' :=
  ⟨⟨_, G, h1, h2.keep (fun k hk => t.2 k (h2.low k hk).2 (apart_symm h3 k hk)) t.1.size, apart_grow h3 (fun k hk => (h2.low k hk).2), h4.trans t.1, t.prot h5, h6.size t.1.size⟩, t.kept h5⟩
theorem Duo.do1 (h : Duo W Q w d1 d2 s1 s2) (o : Do) (ho : o.Ok w) :
    Calls Try.prog 24 #[.pointer (some ⟨d1, 0, none⟩), .agg o.cells.toArray] w fun e w' => e = .returned (.int .i64 (doE s1 o)) ∧ Duo W Q w' d1 d2 (doS s1 o) s2 ∧ Kept Q w w' := by
  obtain ⟨F, G, h1, h2, h3, h4, h5, h6⟩ := h
  refine (do_any w h1 o ho).mono ?_
  rintro e w' ⟨rfl, k1, k2⟩
  exact ⟨rfl, duo_turn (F' := F) h2 h3 h4 h5 h6 k1 k2⟩
theorem Duo.do2 (h : Duo W Q w d1 d2 s1 s2) (o : Do) (ho : o.Ok w) :
    Calls Try.prog 24 #[.pointer (some ⟨d2, 0, none⟩), .agg o.cells.toArray] w fun e w' => e = .returned (.int .i64 (doE s2 o)) ∧ Duo W Q w' d1 d2 s1 (doS s2 o) ∧ Kept Q w w' := by
  refine (h.symm.do1 o ho).mono ?_
  rintro e w' ⟨rfl, k1, k2⟩
  exact ⟨rfl, k1.symm, k2⟩
end
theorem byr_take {W : World} {A : Option Addr} {bs : List Nat} (h : Byt.ByR W A bs) (k : Nat) : Byt.ByR W A (bs.take k) := by
  rcases h with rfl | ⟨b, p, e, h1, h2⟩
  · exact Or.inl (by simp)
  · refine Or.inr ⟨b, p, e, h1, fun i x hx => h2 i x ?_⟩
    have hi := (List.getElem?_eq_some_iff.1 hx).1
    rw [List.getElem?_take] at hx
    split at hx
    · exact hx
    · cases hx
theorem byr_kept {w w' : World} {g : Nat} {bs : List Nat} (h : Byt.ByR w (some ⟨g, 0, none⟩) bs) (hk : Kept (fun k => k = g) w w') : Byt.ByR w' (some ⟨g, 0, none⟩) bs := by
  rcases h with rfl | ⟨b, p, e, h1, h2⟩
  · exact Or.inl rfl
  · simp only [Option.some.injEq, Addr.mk.injEq, and_true] at e
    obtain ⟨rfl, rfl⟩ := e
    exact Or.inr ⟨g, 0, rfl, Kept.lt hk rfl h1, fun i x hx => (World.cell?_of_block (hk g rfl)).trans (h2 i x hx)⟩
/-- The bytes of a string that a law takes: where they lie. -/
theorem str_row (w : World) (bs : List Nat) (h256 : ∀ x ∈ bs, x < 256) : ∃ g c w', (convert 9 30 (.string (Byt.bstr bs))).run Try.prog w = .ok (.slice (some ⟨g, 0, none⟩) bs.length c) w' ∧ bs.length ≤ c ∧ w.heap.size ≤ g ∧ g < w'.heap.size ∧ Below w.heap.size w w' ∧ Byt.ByR w' (some ⟨g, 0, none⟩) bs :=
  ⟨w.heap.size, Sx.capS bs w, _, Sx.str_bytes w bs bs.length rfl, by unfold Sx.capS; rw [Byt.bstr_size]; exact grownCap_ge _ _ _ _, Nat.le_refl _, by simp, (Below.refl _ _).drew.alloc (Nat.le_refl _) _, Sx.objS_byr w bs h256⟩
/-- Rows of ops. -/
theorem do_row {W w : World} {A : Option Addr} {l : List Do} (h : RowsOf Do.cells 3 W A l) (hb : Below W.heap.size W w) {i : Nat} {x : Do} (hx : l[i]? = some x) : ∃ b o, A = some ⟨b, o, none⟩ ∧ b < W.heap.size ∧ w.rangeAt b (o + i * 3) x.cells := by
  rcases h with rfl | ⟨b, o, e, h1, h2⟩
  · simp at hx
  · have hi := (List.getElem?_eq_some_iff.1 hx)
    refine ⟨b, o, e, h1, fun j v hv => (hb.cell (p := ⟨b, o + i * 3 + j, none⟩) h1).trans (h2 i hi.1 j v ?_)⟩
    rw [hi.2]; exact hv
theorem doinfo (x : Do) : (Try.prog.info? 32).map (·.size) = some x.cells.length := by rw [do_len]; kernel_rfl
theorem append_u8g {ops : Array Oper} {rest : List Oper} {o : Oper} {a : Act} {Q : Exit → Act → World → Prop} (w : World) (hw : Region.wanted o (yielded ops a.tmps) = true) (s x : Operand)
    (ho : o.op = .call { callee := .builtin .append, args := #[s, x], argTypes := #[30, 30] }) (base : Nat)
    (v : Value) (n : Nat) (xs : List Value) (hs : a.eval s = v) (hown : w.ownsRow base 5 1 v n xs)
    (A : Option Addr) (m c : Nat) (news : List Value) (hx : a.eval x = .slice A m c) (hl : news.length = m) (hsrc : Src w A m news) (h1 : ∀ u ∈ news, u.oneCell' = true)
    (hbytes : n + m ≤ 140737488355328) (hbase : base ≤ w.heap.size)
    (h : ∀ v' w', w'.ownsRow base 5 1 v' (n + m) (xs ++ news) → w.grownBy w' v.ownBlock → (v'.ownBlock = v.ownBlock ∨ v'.ownBlock = some w.heap.size) → wpList Try.prog ops Q rest (a.put o.dst v') w') : wpList Try.prog ops Q (o :: rest) a w :=
  wpList_step fun _ hK => by
    rw [if_pos hw]
    exact wp_append_u8 w s x ho base v n xs hs hown A m c news hx hl hsrc h1 hbytes hbase fun v' w' h2 h3 h4 => hK _ _ (h v' w' h2 h3 h4)
end Lk
end Go.Proofs.Ythiclefiliedjaa
