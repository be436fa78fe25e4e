/-
link: moves that came in; another net for a meeting; a send beside a box.
-/
import Derived.Test.YthiclefiliedjaaLk36
namespace Go.Proofs.Ythiclefiliedjaa
open Go.RowKit Go.ChangeShapes Go.WideShapes Go.ChangeAt Go.WideElems
set_option linter.unusedSimpArgs false
set_option linter.unusedVariables false
namespace Lk
/-- A move that came in. -/
structure Mv where
  k : Int
  n : Nat
  A : Option Addr
  c : Nat
  bs : List Nat
def Mv.cells (x : Mv) : List Value := [.int .i64 x.k, .int .u8 (x.n : Nat), .slice x.A x.bs.length x.c]
theorem mv_len (x : Mv) : x.cells.length = 3 := rfl
theorem mv_ones (x : Mv) : x.cells.toArray.all (·.oneCell') = true := by unfold Mv.cells; simp [Value.oneCell']
structure Mv.Ok (W : World) (x : Mv) : Prop where
  hc : x.bs.length ≤ x.c
  h256 : ∀ y ∈ x.bs, y < 256
  rd : Byt.ByR W x.A x.bs
  hA : x.A = none → x.bs = []
  n256 : x.n < 256
theorem Mv.Ok.next {W w : World} {x : Mv} (h : x.Ok W) (hb : Below W.heap.size W w) : x.Ok w := { h with rd := h.rd.next hb }
theorem Mv.Ok.src {W : World} {x : Mv} (h : x.Ok W) : Src W x.A x.bs.length (u8s x.bs) := h.rd.src h.hA
section
variable {H : Type} {enc : TypeId × Value → H} {w : World}
theorem cells_mv : Try.prog.cellsOf 58 = 3 := by kernel_rfl
theorem cells_one3m : Try.prog.cellsOf 3 = 1 ∧ Try.prog.cellsOf 5 = 1 ∧ Try.prog.cellsOf 30 = 1 := ⟨by kernel_rfl, by kernel_rfl, by kernel_rfl⟩
set_option maxRecDepth 100000 in
theorem open_mv {base fuel : Nat} {hd : Bool} {cs : List Value} {x : DataW H × List MemPlace} (h : DataW.trod enc Try.prog w base (fun _ => true) hd fuel 58 cs = some x) (hlt : ∀ y ∈ x.2, y.block < w.heap.size) :
    ∃ p : Mv, cs = p.cells ∧ p.Ok w := by
  obtain ⟨xs, m, _, hx, hcl, hlen, hg⟩ := DataW.trod_struct Try.underlying58 h
  rw [cells_mv] at hcl
  have g0 : DataW.trod enc Try.prog w base (fun _ => true) hd m 3 ((cs.drop 0).take (Try.prog.cellsOf 3)) = xs[0]? := hg 0 _ rfl
  have g1 : DataW.trod enc Try.prog w base (fun _ => true) hd m 5 ((cs.drop 1).take (Try.prog.cellsOf 5)) = xs[1]? := hg 1 _ rfl
  have g2 : DataW.trod enc Try.prog w base (fun _ => true) hd m 30 ((cs.drop 2).take (Try.prog.cellsOf 30)) = xs[2]? := hg 2 _ rfl
  have hlen3 : xs.length = 3 := hlen
  clear hg hlen
  rw [cells_one3m.1] at g0
  rw [cells_one3m.2.1] at g1
  rw [cells_one3m.2.2] at g2
  rw [List.getElem?_eq_getElem (by omega)] at g0 g1 g2
  obtain ⟨k, e0, _, w0⟩ := DataW.trod_int Try.underlying3 g0
  obtain ⟨q, e1, _, w1⟩ := DataW.trod_int Try.underlying5 g1
  obtain ⟨A, ml, c, bs, e2, hm, hc, hc2, hby, hcell, hA⟩ := Byt.open_bytes_cells g2 (fun y hy => hlt y (by rw [hx]; exact List.mem_flatMap.2 ⟨xs[2], List.getElem_mem (by omega), hy⟩)) (fun _ => rfl)
  subst hm
  have hq := bounds_u8 w1
  obtain ⟨n, rfl⟩ : ∃ n : Nat, q = (n : Nat) := ⟨q.toNat, by omega⟩
  exact ⟨⟨k, n, A, c, bs⟩, three_cells hcl e0 e1 e2, ⟨hc, hby, hcell, hA, by show n < 256; omega⟩⟩
end
/-- A move in its row. -/
theorem mv_row {W w : World} {A : Option Addr} {l : List Mv} (h : RowsOf Mv.cells 3 W A l) (hb : Below W.heap.size W w) {i : Nat} {x : Mv} (hx : l[i]? = some x) : ∃ b o, A = some ⟨b, o, none⟩ ∧ b < W.heap.size ∧ w.rangeAt b (o + i * 3) x.cells := by
  rcases h with rfl | ⟨b, o, e, h1, h2⟩
  · simp at hx
  · have hi := (List.getElem?_eq_some_iff.1 hx)
    refine ⟨b, o, e, h1, fun j v hv => (hb.cell (p := ⟨b, o + i * 3 + j, none⟩) h1).trans (h2 i hi.1 j v ?_)⟩
    rw [hi.2]; exact hv
theorem mvinfo (x : Mv) : (Try.prog.info? 58).map (·.size) = some x.cells.length := by rw [mv_len]; kernel_rfl
theorem mvinfoA (x : Mv) : (Try.prog.info? 58).map (·.size) = some x.cells.toArray.size := by kernel_rfl
theorem thinfo (x : Th) : (Try.prog.info? 60).map (·.size) = some x.cells.length := by kernel_rfl
theorem thinfoA (x : Th) : (Try.prog.info? 60).map (·.size) = some x.cells.toArray.size := by kernel_rfl
theorem th_all (x : Th) : x.cells.toArray.all (·.oneCell') = true := by unfold Th.cells; simp [Value.oneCell']
theorem ths_get : ∀ (l : List Th) (i : Nat) (x : Th) (j : Nat), l[i]? = some x → j < 3 → (ths l)[3 * i + j]? = x.cells[j]?
  | [], i, x, j, h, _ => by simp at h
  | y :: l, 0, x, j, h, hj => by
    simp at h
    subst h
    simp only [ths, List.flatMap_cons, Nat.mul_zero, Nat.zero_add]
    rw [List.getElem?_append_left (by show j < 3; exact hj)]
  | y :: l, i + 1, x, j, h, hj => by
    have := ths_get l i x j (by simpa using h) hj
    simp only [ths, List.flatMap_cons] at this ⊢
    rw [List.getElem?_append_right (by show 3 ≤ _; omega), show 3 * (i + 1) + j - y.cells.length = 3 * i + j by show 3 * (i + 1) + j - 3 = _; omega]
    exact this
theorem ths_len (l : List Th) : (ths l).length = l.length * 3 := by
  induction l with
  | nil => rfl
  | cons x l ih => simp only [ths, List.flatMap_cons, List.length_append, List.length_cons] at ih ⊢; rw [ih, show x.cells.length = 3 from rfl]; omega
theorem ths_take : ∀ (n : Nat) (l : List Th), ths (l.take n) = (ths l).take (3 * n)
  | 0, l => by simp [ths]
  | n + 1, [] => by simp [ths]
  | n + 1, x :: l => by
    have := ths_take n l
    simp only [ths, List.take_succ_cons, List.flatMap_cons] at this ⊢
    rw [this, show 3 * (n + 1) = x.cells.length + 3 * n by show _ = 3 + _; omega, List.take_length_add_append]
theorem ths_drop : ∀ (n : Nat) (l : List Th), ths (l.drop n) = (ths l).drop (3 * n)
  | 0, l => by simp
  | n + 1, [] => by simp [ths]
  | n + 1, x :: l => by
    have := ths_drop n l
    simp only [ths, List.drop_succ_cons, List.flatMap_cons] at this ⊢
    rw [this, show 3 * (n + 1) = x.cells.length + 3 * n by show _ = 3 + _; omega, List.drop_length_add_append]
/-- The net's row: its blocks and its things. -/
theorem th_own {w : World} {B n c : Nat} {A : Option Addr} {l : List Th} (h : w.ownsRow B 60 3 (.slice A n c) n (ths l)) (h0 : 0 < n) : ∃ q, A = some ⟨q, 0, none⟩ ∧ n ≤ c ∧ B ≤ q ∧ q < w.heap.size ∧ ∀ (j : Nat) (u : Value), (ths l)[j]? = some u → w.cell? ⟨q, j, none⟩ = some u := by
  have h1 := h
  have hlt := h.lt
  obtain ⟨_, ⟨e, hz⟩ | ⟨q, cap, cur, e, hB, hh, hnc, _⟩⟩ := h
  · omega
  · simp only [Value.slice.injEq] at e
    obtain ⟨rfl, _, rfl⟩ := e
    refine ⟨q, rfl, hnc, hB, (hlt q rfl).2, fun j u hj => ?_⟩
    have := h1.cells rfl j u hj
    rwa [add_plain, Nat.zero_add] at this
section
variable {W w w1 w9 : World} {g d1 d2 : Nat} {l1 l2 : LS} {net net' : List Th} {sent tk : List (List Nat)} {vn vs vt v' : Value}
theorem Mt.sendK (h : Mt W w g d1 d2 l1 l2 net sent tk vn vs vt) (hb : Below w.heap.size w w1) {gx : Nat} (hx : w.heap.size ≤ gx ∧ gx < w1.heap.size) (Ab : Option Addr) (m cb : Nat) (bs : List Nat) (hm : bs.length = m) (hs : Src w1 Ab m (u8s bs)) (h256 : ∀ y ∈ bs, y < 256) :
    Calls Try.prog 10 #[.pointer (some ⟨d1, 0, none⟩), .slice Ab m cb] w1 fun e w' => e = .returned (.tuple #[.int .u64 (sendN l1 m : Nat), .int .i64 (sendE l1 m)]) ∧ Mt W w' g d1 d2 (l1.send bs) l2 net sent tk vn vs vt ∧ w'.heap[gx]? = w1.heap[gx]? := by
  obtain ⟨F, G, h1, h2, h3, h4, h5, h6⟩ := h.duo
  refine (send_any w1 (h1.next hb) Ab m cb bs hm hs h256).mono ?_
  rintro e w' ⟨rfl, k1, k2⟩
  have hd := duo_turn (F' := F) (h2.next hb) h3 (h4.trans (hb.mono h4.size)) (h5.next hb) (h6.next hb) k1 k2
  exact ⟨rfl, (h.next hb).turn hd.1 hd.2, k2.2 gx hx.2 (fun hF => by have := (h1.low gx hF).2; omega)⟩
/-- A meeting gets another net, in a new block. -/
theorem Mt.setN (h : Mt W w g d1 d2 l1 l2 net sent tk vn vs vt) (hb : Below w.heap.size w w9) (hown : w9.ownsRow W.heap.size 60 3 v' net'.length (ths net')) (hloc : ∀ k, v'.ownBlock = some k → w.heap.size ≤ k) :
    Mt W (w9.setCell ⟨g, 2, none⟩ v') g d1 d2 l1 l2 net' sent tk v' vs vt := by
  have h9 := h.next hb
  have hgl := h.blk.lt
  have hgs : some g ≠ vs.ownBlock := own_ne h.os h.blk (by decide)
  have hgt : some g ≠ vt.ownBlock := own_ne h.ot h.blk (by decide)
  have hne_s : ∀ k, vs.ownBlock = some k → k ≠ g := fun k e hk => hgs (by rw [← hk]; exact e.symm)
  have hne_t : ∀ k, vt.ownBlock = some k → k ≠ g := fun k e hk => hgt (by rw [← hk]; exact e.symm)
  have hsz : (w9.setCell ⟨g, 2, none⟩ v').heap.size = w9.heap.size := by simp [World.setCell]
  have far9 : ∀ k, k ≠ g → (w9.setCell ⟨g, 2, none⟩ v').heap[k]? = w9.heap[k]? := fun k hk => Below.heap_setCell w9 ⟨g, 2, none⟩ _ k hk
  have hne' : ∀ k, v'.ownBlock = some k → k ≠ g := fun k e hk => by have := hloc k e; omega
  have hlt : ∀ k, v'.ownBlock = some k → k < w9.heap.size := fun k e => (hown.lt k e).2
  refine ⟨h.gl, h9.blk.setCell 2 v', ?_, ownG_keep hown fun k e => far9 k (hne' k e), ownG_keep h9.os fun k e => far9 k (hne_s k e), ownG_keep h9.ot fun k e => far9 k (hne_t k e), h.ne⟩
  obtain ⟨F, G, h1, h2, h3, h4, h5, h6⟩ := h.duo
  have hz := hb.size
  have kF : ∀ k, F k → (w9.setCell ⟨g, 2, none⟩ v').heap[k]? = w.heap[k]? := fun k hF => (far9 k (fun e => (h5 g (Or.inl rfl)).2 (e ▸ hF))).trans (hb.block k (h1.low k hF).2)
  have kG : ∀ k, G k → (w9.setCell ⟨g, 2, none⟩ v').heap[k]? = w.heap[k]? := fun k hG => (far9 k (fun e => (h6 g (Or.inl rfl)).2 (e ▸ hG))).trans (hb.block k (h2.low k hG).2)
  have hP : ∀ k, MP g v' vs vt k → k < w9.heap.size ∧ (MP g vn vs vt k ∨ w.heap.size ≤ k) := by
    rintro k (e | e | e | e)
    · exact ⟨by omega, Or.inl (Or.inl e)⟩
    · exact ⟨hlt k e, Or.inr (hloc k e)⟩
    · exact ⟨by have := (h.low k (Or.inr (Or.inr (Or.inl e)))).2; omega, Or.inl (Or.inr (Or.inr (Or.inl e)))⟩
    · exact ⟨by have := (h.low k (Or.inr (Or.inr (Or.inr e)))).2; omega, Or.inl (Or.inr (Or.inr (Or.inr e)))⟩
  refine ⟨F, G, h1.keep kF (by rw [hsz]; exact hz), h2.keep kG (by rw [hsz]; exact hz), h3, ?_, fun k hp => ?_, fun k hp => ?_⟩
  · exact (h4.trans (hb.mono h4.size)).setCell (p := ⟨g, 2, none⟩) h.gl v'
  · refine ⟨by rw [hsz]; exact (hP k hp).1, fun hF => ?_⟩
    rcases (hP k hp).2 with h | h
    · exact (h5 k h).2 hF
    · have := (h1.low k hF).2; omega
  · refine ⟨by rw [hsz]; exact (hP k hp).1, fun hG => ?_⟩
    rcases (hP k hp).2 with h | h
    · exact (h6 k h).2 hG
    · have := (h2.low k hG).2; omega
end
theorem step_app_ths {ops : Array Oper} {o : Oper} {a : Act} {K : Act → World → Prop} {Q : Exit → Act → World → Prop} {E : Prop} (w : World) (hw : Region.wanted o (yielded ops a.tmps) = true) (s x : Operand)
    (ho : o.op = .call { callee := .builtin .append, args := #[s, x], argTypes := #[54, 54] }) (base : Nat)
    (v : Value) (n : Nat) (xs : List Value) (hs : a.eval s = v) (hown : w.ownsRow base 60 3 v n xs)
    (A : Option Addr) (m c : Nat) (news : List Value) (hx : a.eval x = .slice A m c) (hl : news.length = m * 3) (hsrc : Src w A m news) (h1 : ∀ u ∈ news, u.oneCell' = true)
    (hbytes : n + m ≤ 100000) (hbase : base ≤ w.heap.size)
    (h : ∀ v' w', w'.ownsRow base 60 3 v' (n + m) (xs ++ news) → w.grownBy w' v.ownBlock → (v'.ownBlock = v.ownBlock ∨ v'.ownBlock = some w.heap.size) → K (a.put o.dst v') w') : if Region.wanted o (yielded ops a.tmps) = true then Oper.wp Try.prog o a w K Q else E := by
  rw [if_pos hw]
  obtain ⟨i, z, hi, hz, h2, h3, h4⟩ := info_th
  exact wp_append_src w s x 54 ho base 60 i z Try.underlying54 hi hz (by rw [h4, h2]) (by omega) v n xs hs (by rw [h2]; exact hown) A m c news hx (by rw [hl, h2]) hsrc h1 (by unfold maxLen; omega) (by rw [h3]; omega) hbase (by rw [h2]; exact h)
theorem ths_ones (l : List Th) : ∀ u ∈ ths l, u.oneCell' = true := by
  intro u hu
  obtain ⟨x, _, hx⟩ := List.mem_flatMap.1 hu
  exact th_ones x u hx
end Lk
end Go.Proofs.Ythiclefiliedjaa
