/-
cuts: two tables side by side; a table saved and loaded.
-/
import Derived.Test.YtbnapbjmffajfaaCu30
import Derived.Test.YtbnapbjmffajfaaBytes
namespace Go.Proofs.Ytbnapbjmffajfaa
open Go.RowKit
set_option linter.unusedSimpArgs false
set_option linter.unusedVariables false
namespace Cb
/-- A table that a law made, P's blocks beside it. -/
def TA (W : World) (P : Nat → Prop) (w : World) (t : Nat) (s : TS) : Prop := ∃ F, TT w W.heap.size t F s ∧ Below W.heap.size W w ∧ Prot P F w
theorem TA.b {W w : World} {P : Nat → Prop} {t : Nat} {s : TS} (h : TA W P w t s) : Below W.heap.size W w := by obtain ⟨F, h1, h2, h3⟩ := h; exact h2
theorem TA.next {W w w' : World} {P : Nat → Prop} {t : Nat} {s : TS} (h : TA W P w t s) (hb : Below w.heap.size w w') : TA W P w' t s := by
  obtain ⟨F, h1, h2, h3⟩ := h
  exact ⟨F, h1.next hb, h2.trans (hb.mono h2.size), h3.next hb⟩
theorem TA.doing {W w : World} {P : Nat → Prop} {t : Nat} {s : TS} (h : TA W P w t s) (hl : s.cs.length ≤ 100000) (o : Oc) :
    Calls Try.prog 12 #[.pointer (some ⟨t, 0, none⟩), .agg o.cells.toArray] w fun e w' => e = .returned (.int .i64 (doE s o)) ∧ TA W P w' t (doS s o) := by
  obtain ⟨F, h1, h2, h3⟩ := h
  refine (do_any w h1 hl o).mono ?_
  rintro e w' ⟨rfl, k1, k2⟩
  exact ⟨rfl, _, k1, h2.trans k2.1, k2.prot h3⟩
/-- Two tables that stand apart, and P's blocks apart from both. -/
def TD (W : World) (P : Nat → Prop) (w : World) (t u : Nat) (s1 s2 : TS) : Prop :=
  ∃ F G, TT w W.heap.size t F s1 ∧ TT w W.heap.size u G s2 ∧ (∀ k, F k → ¬ G k) ∧ Below W.heap.size W w ∧ Prot P F w ∧ Prot P G w
section
variable {W w w' : World} {P : Nat → Prop} {t u : Nat} {s1 s2 : TS}
theorem TD.b (h : TD W P w t u s1 s2) : Below W.heap.size W w := by
  obtain ⟨F, G, h1, h2, h3, h4, h5, h6⟩ := h; exact h4
theorem TD.next (h : TD W P w t u s1 s2) (hb : Below w.heap.size w w') : TD W P w' t u s1 s2 := by
  obtain ⟨F, G, h1, h2, h3, h4, h5, h6⟩ := h
  exact ⟨F, G, h1.next hb, h2.next hb, h3, h4.trans (hb.mono h4.size), h5.next hb, h6.next hb⟩
theorem TD.symm (h : TD W P w t u s1 s2) : TD W P w u t s2 s1 := by
  obtain ⟨F, G, h1, h2, h3, h4, h5, h6⟩ := h
  exact ⟨G, F, h2, h1, apart_symm h3, h4, h6, h5⟩
theorem TD.one (h : TD W P w t u s1 s2) : ∃ F, TT w W.heap.size t F s1 := by
  obtain ⟨F, G, h1, h2, h3, h4, h5, h6⟩ := h; exact ⟨F, h1⟩
theorem TD.do1 (h : TD W P w t u s1 s2) (hl : s1.cs.length ≤ 100000) (o : Oc) :
    Calls Try.prog 12 #[.pointer (some ⟨t, 0, none⟩), .agg o.cells.toArray] w fun e w' => e = .returned (.int .i64 (doE s1 o)) ∧ TD W P w' t u (doS s1 o) s2 ∧ Kept P w w' ∧ w.heap.size ≤ w'.heap.size := by
  obtain ⟨F, G, h1, h2, h3, h4, h5, h6⟩ := h
  refine (do_any w h1 hl o).mono ?_
  rintro e w' ⟨rfl, k1, k2⟩
  exact ⟨rfl, ⟨_, G, k1, h2.keep (fun k hk => k2.2 k (h2.low k hk).2 (apart_symm h3 k hk)) k2.1.size, apart_grow h3 (fun k hk => (h2.low k hk).2), h4.trans k2.1, k2.prot h5, h6.size k2.1.size⟩, k2.kept h5, k2.1.size⟩
theorem TD.do2 (h : TD W P w t u s1 s2) (hl : s2.cs.length ≤ 100000) (o : Oc) :
    Calls Try.prog 12 #[.pointer (some ⟨u, 0, none⟩), .agg o.cells.toArray] w fun e w' => e = .returned (.int .i64 (doE s2 o)) ∧ TD W P w' t u s1 (doS s2 o) ∧ Kept P w w' ∧ w.heap.size ≤ w'.heap.size := by
  refine (h.symm.do1 hl o).mono ?_
  rintro e w' ⟨rfl, k1, k2⟩
  exact ⟨rfl, k1.symm, k2⟩
end
/-- Bytes in a block. -/
def ByB (w : World) (g : Nat) (bs : List Nat) : Prop := g < w.heap.size ∧ ∀ (i x : Nat), bs[i]? = some x → w.cell? ⟨g, 0 + i, none⟩ = some (.int .u8 (x : Nat))
theorem ByB.next {w w' : World} {g : Nat} {bs : List Nat} (h : ByB w g bs) (hb : Below w.heap.size w w') : ByB w' g bs := ⟨Nat.lt_of_lt_of_le h.1 hb.size, fun i x hx => (hb.cell (p := ⟨g, 0 + i, none⟩) h.1).trans (h.2 i x hx)⟩
theorem ByB.kept {w w' : World} {g : Nat} {bs : List Nat} (h : ByB w g bs) (hk : Kept (fun k => k = g) w w') (hs : w.heap.size ≤ w'.heap.size) : ByB w' g bs := ⟨Nat.lt_of_lt_of_le h.1 hs, fun i x hx => (World.cell?_of_block (hk g rfl)).trans (h.2 i x hx)⟩
theorem ByB.src {w : World} {g : Nat} {bs : List Nat} (h : ByB w g bs) : Src w (some ⟨g, 0, none⟩) bs.length (Byt.u8s bs) := by
  refine Or.inl ⟨_, rfl, fun j u hj => ?_⟩
  unfold Byt.u8s at hj
  rw [List.getElem?_map] at hj
  cases hx : bs[j]? with
  | none => rw [hx] at hj; cases hj
  | some x =>
    rw [hx] at hj
    simp only [Option.map_some, Option.some.injEq] at hj
    subst hj
    rw [Opn.add_plain]
    exact h.2 j x hx
theorem ByB.take {w : World} {g : Nat} {bs : List Nat} (h : ByB w g bs) (k : Nat) : ByB w g (bs.take k) := ⟨h.1, fun i x hx => h.2 i x (by
  rw [List.getElem?_take] at hx
  split at hx
  · exact hx
  · cases hx)⟩
theorem enc_256 (n : Nat) : ∀ x ∈ enc n, x < 256 := by
  have h : ∀ m, ∀ x ∈ encHi m, x < 256 := by
    intro m
    induction m using Nat.strongRecOn with
    | _ m ih =>
      intro x hx
      by_cases h0 : m = 0
      · subst h0; rw [encHi_zero] at hx; cases hx
      · rw [encHi_step (by omega)] at hx
        rcases List.mem_append.1 hx with h1 | h1
        · exact ih (m / 128) (by omega) x h1
        · rw [List.mem_singleton.1 h1]; omega
  intro x hx
  unfold enc at hx
  rcases List.mem_append.1 hx with h1 | h1
  · exact h _ x h1
  · rw [List.mem_singleton.1 h1]; omega
theorem encV_256 (f : Nat → Nat) : ∀ x ∈ encV f, x < 256 := by
  intro x hx
  unfold encV at hx
  rcases List.mem_append.1 hx with h | h
  · exact enc_256 _ x h
  · unfold encs at h
    obtain ⟨n, _, h⟩ := List.mem_flatMap.1 h
    exact enc_256 n x h
theorem encSd_256 (x : Sd) : ∀ y ∈ encSd x, y < 256 := by
  intro y hy
  unfold encSd at hy
  split at hy
  · split at hy
    · simp only [List.mem_append] at hy
      rcases hy with (h | h) | h
      · exact enc_256 _ y h
      · exact enc_256 _ y h
      · exact encV_256 _ y h
    · exact enc_256 _ y hy
  · exact enc_256 _ y hy
/-- A table's bytes. -/
def encS (s : TS) : List Nat := encT 1 2 s.cs s.a s.b
theorem encS_256 (s : TS) : ∀ y ∈ encS s, y < 256 := by
  intro y hy
  unfold encS encT at hy
  simp only [List.mem_append] at hy
  rcases hy with ((((h | h) | h) | h) | h) | h
  · exact enc_256 _ y h
  · exact enc_256 _ y h
  · exact enc_256 _ y h
  · obtain ⟨c, _, h⟩ := List.mem_flatMap.1 h
    unfold encCt at h
    simp only [List.mem_append] at h
    rcases h with (h | h) | h
    · exact enc_256 _ y h
    · exact enc_256 _ y h
    · exact encV_256 _ y h
  · exact encSd_256 _ y h
  · exact encSd_256 _ y h
theorem TS.Ok.sds {s : TS} (h : s.Ok) : s.a.Ok ∧ s.b.Ok := by
  have hz : Sd.zero.Ok := ⟨by decide, fun i => by show 0 < 4294967296; decide⟩
  have hv : Sd.Ok ⟨true, St.zero⟩ := ⟨by decide, fun i => by show 0 < 4294967296; decide⟩
  rcases h.st with ⟨h1, h2⟩ | ⟨h2, t, f, h1, hf, ht, -⟩ | ⟨h1, h2, -⟩
  · rw [h1, h2]; exact ⟨hz, hz⟩
  · rw [h1, h2]; exact ⟨⟨ht, hf.u32⟩, hz⟩
  · rw [h1, h2]; exact ⟨hz, hv⟩
theorem TS.Ok.cts {s : TS} (h : s.Ok) : ∀ c ∈ s.cs, c.Ok := by
  intro c hc
  obtain ⟨i, hi⟩ := List.mem_iff_getElem?.1 hc
  have := h.cuts i c hi
  refine ⟨?_, ?_, this.t, this.f.u32⟩
  · rcases this.who with ⟨h, -⟩ | ⟨h, -⟩ <;> omega
  · rcases this.who with ⟨h, -⟩ | ⟨h, -⟩ <;> omega
theorem TS.Ok.len {s : TS} (h : s.Ok) : 1 ≤ (encS s).length ∧ (encS s).length ≤ 10000 := by
  have h1 := encCts_len s.cs h.cts
  have h2 := h.cuts.len
  have h3 := encSd_len h.sds.1
  have h4 := encSd_len h.sds.2
  have h5 := enc_small (n := 1) (by decide)
  have h6 := enc_small (n := 2) (by decide)
  have h7 := enc_small (n := s.cs.length) (by omega)
  have h8 : 1 ≤ (enc 1).length := by unfold enc; simp
  unfold encS encT
  simp only [List.length_append]
  omega
section
variable (W : World) {B t : Nat} {F : Nat → Prop} {s : TS}
theorem save_tt (h : TT W B t F s) (hs : s.Ok) : Calls Try.prog 13 #[.pointer (some ⟨t, 0, none⟩)] W fun e W' => ∃ g c, e = .returned (.slice (some ⟨g, 0, none⟩) (encS s).length c) ∧ (encS s).length ≤ c ∧ W.heap.size ≤ g ∧ ByB W' g (encS s) ∧ Below W.heap.size W W' := by
  obtain ⟨v, T⟩ := h
  refine (save_any W (o := 1) (p := 2) T (by decide) (by decide) (by decide) (by have := hs.cuts.len; omega) hs.cts hs.sds.1 hs.sds.2).mono ?_
  rintro e W' ⟨v', rfl, ho, hb⟩
  have hl := hs.len
  have hg := ho.lt
  obtain ⟨g, c, rfl, hc, hlt, hcell⟩ := u8_row ho (by show (encS s).length ≠ 0; omega)
  exact ⟨g, c, rfl, hc, (hg g rfl).1, ⟨hlt, hcell⟩, hb⟩
end
theorem load_ok {w : World} {s : TS} (hs : s.Ok) {g c : Nat} (hc : (encS s).length ≤ c) (hb : ByB w g (encS s)) :
    Calls Try.prog 14 #[.slice (some ⟨g, 0, none⟩) (encS s).length c] w fun e w' => ∃ u F, e = .returned (.tuple #[.pointer (some ⟨u, 0, none⟩), .int .i64 0]) ∧ TT w' w.heap.size u F s ∧ Below w.heap.size w w' := by
  have ht := table_yes hs []
  rw [List.append_nil] at ht
  refine (load_yes (some ⟨g, 0, none⟩) _ c w (encS s) rfl hc (Or.inr ⟨g, 0, rfl, hb.1, hb.2⟩) ht).mono ?_
  rintro e w' ⟨B, t, F, v, rfl, hB, T, -, -, hb⟩
  exact ⟨t, F, rfl, (show TT w' B t F s from ⟨v, T⟩).less hB, hb⟩
theorem load_less {w : World} {s : TS} (hs : s.Ok) {g c n : Nat} (hc : n ≤ c) (hn : n < (encS s).length) (hb : ByB w g (encS s)) :
    Calls Try.prog 14 #[.slice (some ⟨g, 0, none⟩) n c] w fun e w' => e = .returned (.tuple #[.pointer none, .int .i64 3]) ∧ Below w.heap.size w w' := by
  obtain ⟨x, hx⟩ := table_cut hs hn
  refine load_no (some ⟨g, 0, none⟩) n c w ((encS s).take n) (by rw [List.length_take]; omega) hc (Or.inr ⟨g, 0, rfl, (hb.take n).1, (hb.take n).2⟩) ?_
  intro o p cs a b e
  unfold encS at e
  rw [hx] at e
  cases e
theorem load_more {w : World} {B n : Nat} {v : Value} {s : TS} (hs : s.Ok) (hl : (encS s).length = n + 1) (h : w.ownsRow B 5 1 v (n + 1 + 1) (Byt.u8s [] ++ Byt.u8s (encS s) ++ Byt.u8s [0])) :
    Calls Try.prog 14 #[v] w fun e w' => e = .returned (.tuple #[.pointer none, .int .i64 3]) ∧ Below w.heap.size w w' := by
  have hu : Byt.u8s [] ++ Byt.u8s (encS s) ++ Byt.u8s [0] = u8s (encS s ++ [0]) := by simp [u8s, Byt.u8s]
  rw [hu] at h
  obtain ⟨g, c, rfl, hc, hlt, hcell⟩ := u8_row h (by omega)
  refine load_no (some ⟨g, 0, none⟩) (n + 1 + 1) c w (encS s ++ [0]) (by rw [List.length_append, hl]; rfl) hc (Or.inr ⟨g, 0, rfl, hlt, hcell⟩) ?_
  intro o p cs a b e
  have := table_yes hs [0]
  unfold encS at e
  rw [this] at e
  cases e
/-- An op in its row. -/
theorem oc_row {W w : World} {A : Option Addr} {l : List Oc} (h : RowsOf Oc.cells 17 W A l) (hb : Below W.heap.size W w) {i : Nat} {x : Oc} (hx : l[i]? = some x) : ∃ b o, A = some ⟨b, o, none⟩ ∧ b < W.heap.size ∧ w.rangeAt b (o + i * 17) x.cells := by
  rcases h with rfl | ⟨b, o, e, h1, h2⟩
  · simp at hx
  · have hi := (List.getElem?_eq_some_iff.1 hx)
    refine ⟨b, o, e, h1, fun j v hv => (hb.cell (p := ⟨b, o + i * 17 + j, none⟩) h1).trans (h2 i hi.1 j v ?_)⟩
    rw [hi.2]; exact hv
theorem td_start {W w w' : World} {t u g : Nat} {s : TS} {F G : Nat → Prop} (hT : TT w W.heap.size t F s) (hB : Below W.heap.size W w) (hP : Prot (fun k => k = g) F w) (hg : g < w.heap.size) (hb : Below w.heap.size w w') (hU : TT w' w.heap.size u G s) : TD W (fun k => k = g) w' t u s s := by
  have hz := hB.size
  refine ⟨F, G, hT.next hb, hU.less hz, fun k h1 h2 => ?_, hB.trans (hb.mono hz), hP.next hb, fun k hk => ?_⟩
  · have := hT.low k h1; have := hU.low k h2; omega
  · subst hk
    exact ⟨Nat.lt_of_lt_of_le hg hb.size, fun h => by have := hU.low k h; omega⟩
theorem wr_id (n : Nat) (h : n ≤ 500000) : wrap64 (n : Int) = (n : Nat) := by unfold wrap64; omega
theorem append_u8g {ops : Array Oper} {rest : List Oper} {o : Oper} {a : Act} {Q : Exit → Act → World → Prop} (w : World) (hw : Region.wanted o (yielded ops a.tmps) = true) (s x : Operand)
    (ho : o.op = .call { callee := .builtin .append, args := #[s, x], argTypes := #[55, 55] }) (base : Nat)
    (v : Value) (n : Nat) (xs : List Value) (hs : a.eval s = v) (hown : w.ownsRow base 5 1 v n xs)
    (A : Option Addr) (m c : Nat) (news : List Value) (hx : a.eval x = .slice A m c) (hl : news.length = m) (hsrc : Src w A m news) (h1 : ∀ u ∈ news, u.oneCell' = true)
    (hbytes : n + m ≤ 140737488355328) (hbase : base ≤ w.heap.size)
    (h : ∀ v' w', w'.ownsRow base 5 1 v' (n + m) (xs ++ news) → w.grownBy w' v.ownBlock → (v'.ownBlock = v.ownBlock ∨ v'.ownBlock = some w.heap.size) → wpList Try.prog ops Q rest (a.put o.dst v') w') : wpList Try.prog ops Q (o :: rest) a w :=
  wpList_step fun _ hK => by
    rw [if_pos hw]
    exact wp_append_u8 w s x ho base v n xs hs hown A m c news hx hl hsrc h1 hbytes hbase fun v' w' h2 h3 h4 => hK _ _ (h v' w' h2 h3 h4)
end Cb
end Go.Proofs.Ytbnapbjmffajfaa
