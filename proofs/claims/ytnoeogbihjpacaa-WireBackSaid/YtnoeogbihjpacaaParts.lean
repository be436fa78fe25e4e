/-
Parts that came in.
-/
import Derived.Test.YtnoeogbihjpacaaPut
import Derived.Deep.Fields
import Derived.ChangeSame
namespace Go.Proofs.Ytnoeogbihjpacaa
open Go.ChangeShapes Go.WideShapes Go.ChangeAt Go.RowKit

/-- A part of a statement's input. -/
structure PartR where
  (k i mo : Int)
  (n : Nat)
  (A : Option Addr)
  (m c : Nat)
  (bs : List Nat)
  (f : Nat → Nat)
def PartR.cells (p : PartR) : List Value := partC p.k p.i p.mo p.n (.slice p.A p.m p.c) p.f
/-- The bytes that are written of it. -/
def PartR.bytes (p : PartR) : List Nat :=
  if p.k = 0 ∨ p.k = 5 then enc p.n else if p.k = 1 then enc (zig p.i) else if p.k = 2 then enc p.m ++ p.bs else if p.k = 3 then encF p.n else if p.k = 4 then encV p.f else []
structure PartR.Ok (W : World) (L : Nat) (p : PartR) : Prop where
  k1 : -9223372036854775808 ≤ p.k
  k2 : p.k ≤ 9223372036854775807
  i1 : -9223372036854775808 ≤ p.i
  i2 : p.i ≤ 9223372036854775807
  mo1 : -9223372036854775808 ≤ p.mo
  mo2 : p.mo ≤ 9223372036854775807
  n1 : p.n < 18446744073709551616
  f1 : ∀ i, p.f i < 4294967296
  len : p.bs.length = p.m
  cap : p.m ≤ p.c
  cap2 : p.c ≤ 9223372036854775807
  byte : ∀ x ∈ p.bs, x < 256
  cell : p.bs = [] ∨ ∃ b o, p.A = some ⟨b, o, none⟩ ∧ b < L ∧ ∀ (i x : Nat), p.bs[i]? = some x → W.cell? ⟨b, o + i, none⟩ = some (.int .u8 (x : Nat))
  none : p.A = Option.none → p.bs = []
theorem PartR.Ok.next {W W' : World} {L : Nat} {p : PartR} (h : p.Ok W L) (hb : Below L W W') : p.Ok W' L :=
  { h with cell := h.cell.imp id fun ⟨b, o, e, h1, h2⟩ => ⟨b, o, e, h1, fun i x hx => (hb.cell (p := ⟨b, o + i, Option.none⟩) h1).trans (h2 i x hx)⟩ }
theorem PartR.Ok.src {W : World} {L : Nat} {p : PartR} (h : p.Ok W L) : Src W p.A p.m (u8s p.bs) := by
  rcases h.cell with h0 | ⟨b, o, e, h1, h2⟩
  · cases hA : p.A with
    | none => exact Or.inr ⟨rfl, by have := h.len; rw [h0] at this; simpa using this.symm, by rw [h0]; rfl⟩
    | some a => exact Or.inl ⟨a, rfl, fun j u hj => by rw [h0] at hj; simp [u8s] at hj⟩
  · refine Or.inl ⟨_, e, fun j u hj => ?_⟩
    obtain ⟨x, h3, rfl⟩ := u8s_get hj
    rw [add_plain]
    exact h2 j x h3

section
variable {H : Type} {enc : TypeId × Value → H} {w : World}

theorem open_bytes_cells {base fuel : Nat} {sp : Nat → Bool} {hd : Bool} {cs : List Value} {x : DataW H × List MemPlace} (h : DataW.trod enc Try.prog w base sp hd fuel 25 cs = some x) (hlt : ∀ y ∈ x.2, y.block < w.heap.size) (hsp : ∀ b, sp b = true) :
    ∃ (A : Option Addr) (m c : Nat) (bs : List Nat), cs = [.slice A m c] ∧ bs.length = m ∧ m ≤ c ∧ c ≤ 9223372036854775807 ∧ (∀ x ∈ bs, x < 256) ∧ ByR w A bs ∧ (A = none → bs = []) := by
  rcases open_ints Try.underlying25 Try.underlying5 (by kernel_rfl) h with ⟨hcs, _⟩ | ⟨a, len, cap, zs, hcs, _, hl, hm, hz, hx, hcell, hwz⟩
  · exact ⟨none, 0, 0, [], hcs, rfl, Nat.le_refl _, by omega, by simp, Or.inl rfl, fun _ => rfl⟩
  · rw [hsp, if_pos rfl] at hz
    obtain ⟨ns, hns⟩ := nats_of (zs := zs) (fun n hn => (bounds_u8 (hwz n hn)).1)
    have h256 : ∀ x ∈ ns, x < 256 := by
      intro x hx
      have := bounds_u8 (hwz x (by rw [hns]; exact List.mem_map.2 ⟨x, hx, rfl⟩))
      omega
    have hnl : ns.length = cap := by rw [← hz, hns, List.length_map]
    unfold maxLen at hm
    refine ⟨some a, len, cap, ns.take len, hcs, by rw [List.length_take]; omega, hl, by omega, fun x hx => h256 x (List.mem_of_mem_take hx), ?_, fun e => by cases e⟩
    by_cases h0 : len = 0
    · left; rw [h0]; rfl
    · right
      obtain ⟨b, off, rfl, hc'⟩ := ints_at hcell (by omega)
      have hin : MemPlace.cell b off ∈ x.2 := by
        rw [hx]
        obtain ⟨n, hn⟩ : ∃ n, zs.length = n + 1 := ⟨zs.length - 1, by omega⟩
        simp only [hn]
        simp [MemPlace.row, List.range_succ_eq_map]
      refine ⟨b, off, rfl, hlt _ hin, fun i x hx1 => ?_⟩
      rw [List.getElem?_take] at hx1
      by_cases hil : i < len
      · rw [if_pos hil] at hx1
        have hi : i < zs.length := by
          have := (List.getElem?_eq_some_iff.1 hx1).1
          omega
        have := hc' i hi
        rw [this]
        subst hns
        have hg : (List.map (fun n : Nat => (n : Int)) ns).getD i 0 = (x : Int) := by rw [List.getD_eq_getElem?_getD, List.getElem?_map, hx1]; rfl
        rw [hg]
      · rw [if_neg hil] at hx1; cases hx1
theorem six_cells {cs v : List Value} {a b c d e : Value} (hl : cs.length = 17) (h0 : (cs.drop 0).take 1 = [a]) (h1 : (cs.drop 1).take 1 = [b]) (h2 : (cs.drop 2).take 1 = [c]) (h3 : (cs.drop 3).take 1 = [d]) (h4 : (cs.drop 4).take 1 = [e]) (h5 : (cs.drop 5).take 12 = v) : cs = [a, b, c, d, e] ++ v := by
  match cs, hl with
  | x0 :: x1 :: x2 :: x3 :: x4 :: r, hl =>
    simp only [List.drop_zero, List.drop_succ_cons, List.take_succ_cons, List.take_zero, List.cons.injEq, and_true] at h0 h1 h2 h3 h4 h5
    rw [List.take_of_length_le (by simp at hl; omega)] at h5
    rw [h0, h1, h2, h3, h4, h5]; rfl

theorem cells_part : Try.prog.cellsOf 32 = 17 := by kernel_rfl
theorem cells_one : Try.prog.cellsOf 3 = 1 ∧ Try.prog.cellsOf 27 = 1 ∧ Try.prog.cellsOf 25 = 1 := ⟨by kernel_rfl, by kernel_rfl, by kernel_rfl⟩

set_option maxRecDepth 100000 in
theorem open_part_cells {base fuel : Nat} {sp : Nat → Bool} {hd : Bool} {cs : List Value} {x : DataW H × List MemPlace} (h : DataW.trod enc Try.prog w base sp hd fuel 32 cs = some x) (hlt : ∀ y ∈ x.2, y.block < w.heap.size) (hsp : ∀ b, sp b = true) :
    ∃ p : PartR, cs = p.cells ∧ p.Ok w w.heap.size := by
  obtain ⟨xs, m, _, hx, hcl, hlen, hg⟩ := DataW.trod_struct Try.underlying32 h
  rw [cells_part] at hcl
  have g0 : DataW.trod enc Try.prog w base sp hd m 3 ((cs.drop 0).take (Try.prog.cellsOf 3)) = xs[0]? := hg 0 _ rfl
  have g1 : DataW.trod enc Try.prog w base sp hd m 3 ((cs.drop 1).take (Try.prog.cellsOf 3)) = xs[1]? := hg 1 _ rfl
  have g2 : DataW.trod enc Try.prog w base sp hd m 3 ((cs.drop 2).take (Try.prog.cellsOf 3)) = xs[2]? := hg 2 _ rfl
  have g3 : DataW.trod enc Try.prog w base sp hd m 27 ((cs.drop 3).take (Try.prog.cellsOf 27)) = xs[3]? := hg 3 _ rfl
  have g4 : DataW.trod enc Try.prog w base sp hd m 25 ((cs.drop 4).take (Try.prog.cellsOf 25)) = xs[4]? := hg 4 _ rfl
  have g5 : DataW.trod enc Try.prog w base sp hd m 30 ((cs.drop 5).take (Try.prog.cellsOf 30)) = xs[5]? := hg 5 _ rfl
  have hlen6 : xs.length = 6 := hlen
  clear hg hlen
  rw [cells_one.1] at g0 g1 g2
  rw [cells_one.2.1] at g3
  rw [cells_one.2.2] at g4
  rw [cells_vec] at g5
  rw [List.getElem?_eq_getElem (by omega)] at g0 g1 g2 g3 g4 g5
  obtain ⟨k, e0, _, w0⟩ := DataW.trod_int Try.underlying3 g0
  obtain ⟨i, e1, _, w1⟩ := DataW.trod_int Try.underlying3 g1
  obtain ⟨mo, e2, _, w2⟩ := DataW.trod_int Try.underlying3 g2
  obtain ⟨n, e3, _, w3⟩ := DataW.trod_int Try.underlying27 g3
  obtain ⟨A, ml, c, bs, e4, hm, hc, hc2, hby, hcell, hA⟩ := open_bytes_cells g4 (fun y hy => hlt y (by rw [hx]; exact List.mem_flatMap.2 ⟨xs[4], List.getElem_mem (by omega), hy⟩)) hsp
  obtain ⟨f, e5, hf⟩ := vec_trod g5
  have b0 := bounds_i64 w0
  have b1 := bounds_i64 w1
  have b2 := bounds_i64 w2
  obtain ⟨n', rfl, b3⟩ := bound_u64 w3
  refine ⟨⟨k, i, mo, n', A, ml, c, bs, f⟩, ?_, ⟨b0.1, b0.2, b1.1, b1.2, b2.1, b2.2, b3, hf, hm, hc, hc2, hby, hcell, hA⟩⟩
  unfold PartR.cells partC
  exact six_cells hcl e0 e1 e2 e3 e4 e5

/-- Parts in a row. -/
def Parts (w : World) (A : Option Addr) (ps : List PartR) : Prop :=
  ps = [] ∨ ∃ b o, A = some ⟨b, o, none⟩ ∧ b < w.heap.size ∧ ∀ i, (hi : i < ps.length) → w.rangeAt b (o + i * 17) (ps[i].cells)
theorem Parts.next {w w' : World} {A : Option Addr} {ps : List PartR} (h : Parts w A ps) (hb : Below w.heap.size w w') : Parts w' A ps := by
  refine h.imp id ?_
  rintro ⟨b, o, e, h1, h2⟩
  exact ⟨b, o, e, Nat.lt_of_lt_of_le h1 hb.size, fun i hi => range_below (h2 i hi) hb h1⟩

set_option maxRecDepth 100000 in
theorem open_parts {b0 : Nat} {r : Reach} {v : Value} {d : DataW H} {ps : List MemPlace} (hv : Value.okWide Try.prog w r b0 22 v) (h : DataW.Trod enc Try.prog w 0 (fun _ => true) true 22 v d ps) (hlt : ∀ x ∈ ps, x.block < w.heap.size) :
    ∃ (A : Option Addr) (c : Nat) (l : List PartR), v = .slice A l.length c ∧ l.length ≤ 9223372036854775807 ∧ Parts w A l ∧ ∀ p ∈ l, p.Ok w w.heap.size := by
  obtain ⟨a0, len0, cap0, rfl⟩ := okWide_slice Try.underlying22 hv
  obtain ⟨fuel, hf⟩ := h
  rcases Go.Deep.open_slice Try.underlying22 hf with ⟨hcs, _⟩ | ⟨a, len, cap, m, n, D, Pl, hcs, _, hl, hm, hmm, hx, hi⟩
  · simp [Value.cells] at hcs
    obtain ⟨rfl, rfl, rfl⟩ := hcs
    exact ⟨none, 0, [], rfl, by simp, Or.inl rfl, by simp⟩
  · simp [Value.cells] at hcs
    obtain ⟨rfl, rfl, rfl⟩ := hcs
    rw [if_pos rfl] at hmm
    subst hmm
    unfold maxLen at hm
    rw [cells_part] at hi hx
    simp only [Prod.mk.injEq] at hx
    obtain ⟨V, hV⟩ : ∃ V : Nat → PartR, ∀ i, i < m → ∃ cs', w.cells? 0 (a.add (i * 17)) 17 = some cs' ∧ cs' = (V i).cells ∧ (V i).Ok w w.heap.size := by
      have : ∀ i, ∃ p : PartR, i < m → ∃ cs', w.cells? 0 (a.add (i * 17)) 17 = some cs' ∧ cs' = p.cells ∧ p.Ok w w.heap.size := by
        intro i
        by_cases h : i < m
        · obtain ⟨cs', h1, h2⟩ := hi i h
          obtain ⟨p, e, hp⟩ := open_part_cells h2 (fun y hy => hlt y (by rw [hx.2]; exact List.mem_append_right _ (List.mem_flatMap.2 ⟨i, List.mem_range.2 h, hy⟩))) (fun _ => rfl)
          exact ⟨p, fun _ => ⟨cs', h1, e, hp⟩⟩
        · exact ⟨⟨0, 0, 0, 0, none, 0, 0, [], fun _ => 0⟩, fun h' => absurd h' h⟩
      exact ⟨fun i => (this i).choose, fun i => (this i).choose_spec⟩
    refine ⟨some a, m, (List.range len0).map V, by simp, by simp; omega, ?_, ?_⟩
    · by_cases h0 : len0 = 0
      · left; simp [h0]
      · right
        obtain ⟨cs', h1, e, _⟩ := hV 0 (by omega)
        obtain ⟨_, hlen, hc⟩ := World.cells?_some h1
        have h00 := hc 0 (by omega)
        rw [e, Nat.zero_mul] at h00
        unfold PartR.cells at h00
        rw [partC_0] at h00
        obtain ⟨b, off, spot⟩ := a
        have hspot : spot = none := by simpa [Addr.add] using World.cell?_spot h00
        subst hspot
        have hb : b < w.heap.size := by
          have := World.block_lt_of_cell? w _ h00
          simpa [Addr.add] using this
        refine ⟨b, off, rfl, hb, fun i hi' => ?_⟩
        have hi2 : i < len0 := by simpa using hi'
        obtain ⟨cs', h1, e, _⟩ := hV i (by omega)
        obtain ⟨_, hlen, hc⟩ := World.cells?_some h1
        intro j u hu
        rw [List.getElem_map, List.getElem_range] at hu
        have hj : j < 17 := by have := (List.getElem?_eq_some_iff.1 hu).1; unfold PartR.cells at this; rwa [partC_len] at this
        have := hc j hj
        rw [e, add_plain, add_plain] at this
        rw [this]; exact hu
    · intro p hp
      obtain ⟨i, hi', rfl⟩ := List.mem_map.1 hp
      obtain ⟨_, _, _, hok⟩ := hV i (by have := List.mem_range.1 hi'; omega)
      exact hok
end
end Go.Proofs.Ytnoeogbihjpacaa
