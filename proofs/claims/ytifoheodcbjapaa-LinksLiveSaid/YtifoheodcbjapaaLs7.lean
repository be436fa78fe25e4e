/-
links: Packets.
-/
import Derived.Test.YtifoheodcbjapaaLs6
namespace Go.Proofs.Ytifoheodcbjapaa
open Go.RowKit
set_option linter.unusedSimpArgs false
set_option linter.unusedVariables false
namespace Ls
open Lk
/-- An item as a packet to a node. -/
def pcO (own : Nat) (y : Nat × It) : Pk.Pc := ⟨⟨false, (own : Nat), (y.1 : Nat), y.2.q, y.2.bs⟩, y.2.A, y.2.c⟩
def pcs (l : List Pk.Pc) : List Value := l.flatMap Pk.Pc.cells
theorem pcs_len (l : List Pk.Pc) : (pcs l).length = l.length * 5 := by
  induction l with
  | nil => rfl
  | cons x l ih => simp only [pcs, List.flatMap_cons, List.length_append, List.length_cons] at ih ⊢; rw [ih, Pk.pc_len]; omega
theorem pcs_app (l m : List Pk.Pc) : pcs (l ++ m) = pcs l ++ pcs m := by simp [pcs]
theorem pcs_get : ∀ (l : List Pk.Pc) (i : Nat) (x : Pk.Pc) (j : Nat), l[i]? = some x → j < 5 → (pcs l)[i * 5 + j]? = x.cells[j]?
  | [], i, x, j, h, _ => by simp at h
  | y :: l, 0, x, j, h, hj => by
    simp at h
    subst h
    simp only [pcs, List.flatMap_cons, Nat.zero_mul, Nat.zero_add]
    rw [List.getElem?_append_left (by rw [Pk.pc_len]; exact hj)]
  | y :: l, i + 1, x, j, h, hj => by
    have := pcs_get l i x j (by simpa using h) hj
    simp only [pcs, List.flatMap_cons] at this ⊢
    rw [List.getElem?_append_right (by rw [Pk.pc_len]; omega), Pk.pc_len, show (i + 1) * 5 + j - 5 = i * 5 + j by omega]
    exact this
/-- The packets to a node that were not acknowledged. -/
def pktsTo (own : Nat) (S : Nat → LS) (tn : Nat) : List Pk.Pt :=
  (qS own S (tn : Nat)).ts.zipIdx.map fun y => ⟨false, (own : Nat), (tn : Nat), (qS own S (tn : Nat)).nx + y.2 - (qS own S (tn : Nat)).ts.length, y.1⟩
def pkts (own : Nat) (S : Nat → LS) : List Pk.Pt := (peersL own S).flatMap (pktsTo own S)
theorem pkts_to {own tn : Nat} {S : Nat → LS} {M : List It} (h : M.map It.bs = (qS own S (tn : Nat)).ts) (hs : ∀ (i : Nat) (x : It), M[i]? = some x → x.q + M.length = (qS own S (tn : Nat)).nx + i) :
    (M.map fun x => (pcO own (tn, x)).p) = pktsTo own S tn := by
  unfold pktsTo
  apply List.ext_getElem?
  intro i
  rw [List.getElem?_map, List.getElem?_map, List.getElem?_zipIdx, ← h, List.getElem?_map, List.length_map]
  cases hx : M[i]? with
  | none => rfl
  | some x =>
    have := hs i x hx
    simp only [Option.map_some, Nat.zero_add]
    unfold pcO
    simp only [Option.some.injEq, Pk.Pt.mk.injEq, true_and, and_true]
    omega
theorem grown_own {W w w' : World} {B n size : Nat} {e t : TypeId} {v : Value} {xs cs : List Value} {b : Nat} {c : Array Value} {z : Nat × Nat} (h : w.ownsRow B e size v n xs) (hg : w.grownBy w' v.ownBlock) (hh : w.heap[b]? = some (.cells c t z)) (ht : t ≠ e) : w'.heap[b]? = w.heap[b]? := by
  have hlt : b < w.heap.size := (Array.getElem?_eq_some_iff.1 hh).1
  refine hg.block b hlt ?_
  intro e2
  obtain ⟨_, ⟨rfl, rfl⟩ | ⟨k, cap, cur, rfl, _, hk, _⟩⟩ := h
  · simp [Value.ownBlock] at e2
  · simp only [Value.ownBlock, Option.some.injEq] at e2
    subst e2
    rw [hk] at hh
    simp only [Option.some.injEq, Obj.cells.injEq] at hh
    exact ht hh.2.1.symm
/-- The packets so far. -/
structure PkA (W w : World) (v : Value) (own : Nat) (l : List (Nat × It)) : Prop where
  b : Below W.heap.size W w
  row : w.ownsRow W.heap.size 40 5 v l.length (pcs (l.map (pcO own)))
  at_ : ∀ y ∈ l, y.2.At w (fun k => W.heap.size ≤ k ∧ k < w.heap.size)
theorem PkA.next {W w w' : World} {v : Value} {own : Nat} {l : List (Nat × It)} (h : PkA W w v own l) (hb : Below w.heap.size w w') : PkA W w' v own l :=
  ⟨h.b.trans (hb.mono h.b.size), ownG_next h.row hb, fun y hy => at_next (h.at_ y hy) hb.size fun j _ _ hj _ => hb.block j hj⟩
theorem At.grown {w w' : World} {x : It} {F G : Nat → Prop} {B n size : Nat} {e : TypeId} {v : Value} {xs : List Value} (h : x.At w F) (hrow : w.ownsRow B e size v n xs) (hg : w.grownBy w' v.ownBlock) (he : 5 ≠ e) (hG : ∀ k, F k → G k) : x.At w' G := by
  obtain ⟨h1, h2, h3, h4, b, p, cs, z, e1, hF, hh, hc⟩ := h
  have hk := grown_own (W := w) (cs := []) hrow hg hh he
  exact ⟨h1, h2, h3, h4, b, p, cs, z, e1, hG b hF, hk.trans hh, fun i y hy => (World.cell?_of_block hk).trans (hc i y hy)⟩
theorem RowI.grown {w w' : World} {F G : Nat → Prop} {A : Option Addr} {l : List It} {B n size : Nat} {e : TypeId} {v : Value} {xs : List Value} (h : RowI w F A l) (hrow : w.ownsRow B e size v n xs) (hg : w.grownBy w' v.ownBlock) (he : 70 ≠ e) (hG : ∀ k, F k → G k) : RowI w' G A l := by
  refine h.imp id ?_
  rintro ⟨g, o, cs, z, e1, hF, hh, hc⟩
  have hk := grown_own (W := w) (cs := []) hrow hg hh he
  exact ⟨g, o, cs, z, e1, hG g hF, hk.trans hh, fun i x hx j v hj => (World.cell?_of_block hk).trans (hc i x hx j v hj)⟩
theorem Nds.grown {w w' : World} {b0 : Nat} {u : Value} {L : List Nat} {B n size : Nat} {e : TypeId} {v : Value} {xs : List Value} (h : Nd.Nds w b0 u L) (hrow : w.ownsRow B e size v n xs) (hg : w.grownBy w' v.ownBlock) (he : 3 ≠ e) : Nd.Nds w' b0 u L := by
  refine h.keep fun k hk => ?_
  rcases h.2 with ⟨rfl, _⟩ | ⟨g, o, cap, cur, rfl, hb, hh, _⟩
  · simp [Value.ownBlock] at hk
  · simp [Value.ownBlock] at hk
    subst hk
    exact grown_own (W := w) (cs := []) hrow hg hh he
/-- A packet more. -/
theorem PkA.more {W w w' : World} {v v' : Value} {own tn : Nat} {l : List (Nat × It)} {x : It} (h : PkA W w v own l) (hx : x.At w (fun k => W.heap.size ≤ k ∧ k < w.heap.size)) (hrow : w'.ownsRow W.heap.size 40 5 v' (l.length + 1) (pcs (l.map (pcO own)) ++ (pcO own (tn, x)).cells)) (hg : w.grownBy w' v.ownBlock) : PkA W w' v' own (l ++ [(tn, x)]) := by
  have hG : ∀ k, (W.heap.size ≤ k ∧ k < w.heap.size) → (W.heap.size ≤ k ∧ k < w'.heap.size) := fun k hk => ⟨hk.1, Nat.lt_of_lt_of_le hk.2 hg.size⟩
  refine ⟨Nd.below_grown h.b hg (fun k hk => (h.row.lt k hk).1), ?_, fun y hy => ?_⟩
  · rw [List.length_append, List.map_append, pcs_app]
    have : pcs (List.map (pcO own) [(tn, x)]) = (pcO own (tn, x)).cells := by simp [pcs]
    rw [this]
    exact hrow
  · rcases List.mem_append.1 hy with hy | hy
    · exact At.grown (h.at_ y hy) h.row hg (by decide) hG
    · simp only [List.mem_singleton] at hy
      subst hy
      exact At.grown hx h.row hg (by decide) hG
theorem info_pk : ∃ i z, Try.prog.info? 40 = some i ∧ i.zero = some z ∧ i.size = 5 ∧ i.bytes = 56 ∧ z.cells.size = 5 := by
  have h : ((Try.prog.info? 40).bind fun i => i.zero.map fun z => (i.size, i.bytes, z.cells.size)) = some (5, 56, 5) := by kernel_rfl
  cases hi : Try.prog.info? 40 with
  | none => rw [hi] at h; cases h
  | some i =>
    rw [hi] at h
    simp only [Option.bind_some, Option.map_eq_some_iff, Prod.mk.injEq] at h
    obtain ⟨z, hz, h1, h2, h3⟩ := h
    exact ⟨i, z, rfl, hz, h1, h2, h3⟩
theorem row_item {W : World} {F : Nat → Prop} {A : Option Addr} {l : List It} (h : RowI W F A l) {k : Nat} {x : It} (hx : l[k]? = some x) : ∃ g o, A = some ⟨g, o, none⟩ ∧ W.rangeAt g (o + k * 2) x.cells := by
  rcases h with ⟨_, h0⟩ | ⟨g, o, cs, z, hA, _, _, hc⟩
  · rw [h0] at hx; simp at hx
  · exact ⟨g, o, hA, fun j v hj => by rw [show o + k * 2 + j = o + 2 * k + j by omega]; exact hc k x hx j v hj⟩
/-- What Packets gives. -/
def PacketsP (own : Nat) (S : Nat → LS) (W : World) (e : Ending) (W' : World) : Prop :=
  ∃ v l, e = .returned v ∧ PkA W W' v own l ∧ l.map (fun y => (pcO own y).p) = pkts own S ∧ l.length ≤ 3000
section
variable (W : World) {B d own : Nat} {F : Nat → Prop} {K : Nat → Kn} {S : Nat → LS}
theorem row_none {w : World} {v : Value} {n : Nat} {xs : List Value} {B : Nat} {e : TypeId} {size : Nat} (h : w.ownsRow B e size v n xs) : ∃ A c, v = .slice A n c := by
  obtain ⟨A, c, e, _⟩ := ownG_slice h
  exact ⟨A, c, e⟩
set_option maxRecDepth 20000 in
theorem packets_nb {v : Value} (h : NB W v) : Calls Try.prog 17 #[v] W fun e W' => e = .returned (.slice none 0 0) ∧ Below W.heap.size W W' := by
  have HM := Lib.hid (peers_nb W h)
  clear h
  go_enter Try.func17, Try.ntmps17
  go_upto_region 3 with (go_at_call 16; refine HM.out.mono ?_; rintro e w1 ⟨v1, rfl, hN, hb⟩; obtain ⟨A1, c1, hv⟩ := hN.shape; subst hv; have HB := Lib.hid hb; clear hN hb HM)
  go_loopw [3, 11] (fun v i wr => v = .slice none 0 0 ∧ i = .int .i64 0 ∧ wr = w1) (fun _ i _ => 0)
  case atStart => exact ⟨rfl, rfl, rfl⟩
  case round =>
    obtain ⟨rfl, rfl, rfl⟩ := hrel
    go_wp2_with fail
    go_ret
    exact ⟨rfl, HB.out⟩
set_option maxRecDepth 20000 in
set_option maxHeartbeats 8000000 in
theorem packets_any (h : LN W B d F own S) : Calls Try.prog 17 #[.pointer (some ⟨d, 0, none⟩)] W fun e W' => PacketsP own S W e W' := by
  have HP := Lib.hid (peers_any W h)
  have HL := Lib.hid h
  have HQ := Lib.hid (fun w (hb : Below W.heap.size W w) (n : Int) => queue_any w (h.next hb) n)
  have HC0 := Lib.hid (fun w (hb : Below W.heap.size W w) => (by obtain ⟨K, D, -⟩ := h.next hb; exact D.c0 : w.cell? ⟨d, 0, none⟩ = some (.int .i64 (own : Nat))))
  obtain ⟨L, hLL⟩ : ∃ L, L = peersL own S := ⟨_, rfl⟩
  have HLL := Lib.hid (show L = peersL own S ∧ L.length ≤ 12 from ⟨hLL, by rw [hLL]; exact Nd.those_le _ _⟩)
  rw [← hLL] at HP
  obtain ⟨ln, hln⟩ : ∃ ln, ln = L.length := ⟨_, rfl⟩
  have HLN := Lib.hid (show ln = L.length ∧ ln ≤ 12 from ⟨hln, by rw [hln]; exact HLL.out.2⟩)
  have HLN0 := Lib.hid hln
  clear h hLL hln
  go_enter Try.func17, Try.ntmps17
  go_upto_region 3 with (go_at_call 16; refine HP.out.mono ?_; rintro e w1 ⟨v1, rfl, hN, hb⟩; obtain ⟨A1, c1, hv⟩ := hN.shape; rw [← HLN0.out] at hv; subst hv; have HB := Lib.hid hb; have HN := Lib.hid hN; clear hN hb HP)
  obtain ⟨b0, hb0⟩ : ∃ b0, b0 = W.heap.size := ⟨_, rfl⟩
  rw [← hb0] at HN
  clear hb0
  go_loopw [3, 11] (fun v i wr => ∃ j : Nat, j ≤ ln ∧ i = .int .i64 j ∧ ∃ l, PkA W wr v own l ∧ l.map (fun y => (pcO own y).p) = (L.take j).flatMap (pktsTo own S) ∧ l.length ≤ 250 * j ∧ Nd.Nds wr b0 (.slice A1 ln c1) L) (fun _ i _ => ln - (intOf i).toNat)
  case atStart => exact ⟨0, Nat.zero_le _, rfl, [], ⟨HB.out, World.ownsRow_nil _ _ _ _, fun y hy => (by cases hy)⟩, rfl, Nat.zero_le _, HN.out⟩
  case round =>
    clear HB HN
    obtain ⟨j, hj, rfl, l, hP, hl, hll, hN⟩ := hrel
    have HL1 := Lib.hid hl
    have HLE := Lib.hid hll
    have HN1 := Lib.hid hN
    obtain ⟨A0, c0', hv⟩ := row_none hP.row
    obtain ⟨l0, hl0⟩ : ∃ l0, l0 = l.length := ⟨_, rfl⟩
    rw [← hl0] at hv
    subst hv
    have HPA := Lib.hid hP
    have HL0 := Lib.hid hl0
    clear hP hl hll hN hl0
    by_cases hlt : j < ln
    · have i1 : (j : Int) < (ln : Nat) := by omega
      have i2 : ¬ (j : Int) < 0 := by omega
      obtain ⟨jj, hjj⟩ : ∃ jj, jj = j + 1 := ⟨_, rfl⟩
      have HWJ := Lib.hid (Nd.wrap_n j jj hjj (by have := HLN.out.2; omega))
      have HJ := Lib.hid (And.intro hjj hlt)
      obtain ⟨m, hm⟩ : ∃ m, L[j]? = some m := ⟨_, List.getElem?_eq_getElem (by have := HLN.out.1; omega)⟩
      have HM := Lib.hid hm
      obtain ⟨q, qo, qc, ev, hq, hcc⟩ := HN1.out.at_ hm
      simp only [Value.slice.injEq] at ev
      obtain ⟨rfl, -, -⟩ := ev
      have HQ1 := Lib.hid (HQ.out wr HPA.out.b ((m : Nat) : Int))
      clear hj hlt hjj hm hq
      go_upto_region 6 with (go_at_call 18; refine HQ1.out.mono ?_; rintro e w2 ⟨hb2, A2, c2, M, rfl, hMc, hMr, hMa, hMt, hMl, hMn, hMb, hMs⟩; have HPA2 := Lib.hid (HPA.out.next hb2); have HN2 := Lib.hid (HN1.out.next hb2); obtain ⟨ml, hml⟩ : ∃ ml, ml = M.length := ⟨_, rfl⟩; have HML0 := Lib.hid hml; have HML := Lib.hid (show ml = M.length ∧ ml ≤ 250 from ⟨hml, by rw [hml]; exact hMl⟩); rw [← hml]; have HMT := Lib.hid (pkts_to hMt hMs); have HMR := Lib.hid (RowI.keep hMr (G := fun k => wr.heap.size ≤ k ∧ k < w2.heap.size) fun k hk => ⟨hk, rfl⟩); have HMA := Lib.hid hMa; have HWR := Lib.hid (HPA.out.b.size); clear hb2 hMc hMr hMa hMt hMl hMn hMb hMs hml HQ1 hcc)
      clear i1 i2 HPA HN1
      obtain ⟨bq, hbq⟩ : ∃ bq, bq = wr.heap.size := ⟨_, rfl⟩
      rw [← hbq] at HMR HMA HWR
      clear hbq
      go_loopw [3, 19] (fun v i wy => ∃ k : Nat, k ≤ ml ∧ i = .int .i64 k ∧ PkA W wy v own (l ++ (M.take k).map fun x => (m, x)) ∧ RowI wy (fun k => bq ≤ k ∧ k < wy.heap.size) A2 M ∧ (∀ x ∈ M, x.At wy (fun k => bq ≤ k ∧ k < wy.heap.size)) ∧ Nd.Nds wy b0 (.slice (some ⟨q, qo, none⟩) ln c1) L) (fun _ i _ => ml - (intOf i).toNat)
      case atStart => exact ⟨0, Nat.zero_le _, rfl, by rw [List.take_zero, List.map_nil, List.append_nil]; exact HPA2.out, HMR.out, HMA.out, HN2.out⟩
      case round =>
        clear HPA2 HMR HMA HN2
        obtain ⟨k, hk, rfl, hP, hR, hA, hNN⟩ := hrel
        have HP3 := Lib.hid hP
        have HR3 := Lib.hid hR
        have HA3 := Lib.hid hA
        have HN3 := Lib.hid hNN
        obtain ⟨A3, c3, hv⟩ := row_none hP.row
        obtain ⟨l3, hl3⟩ : ∃ l3, l3 = (l ++ (M.take k).map fun x => (m, x)).length := ⟨_, rfl⟩
        rw [← hl3] at hv
        subst hv
        have HL3 := Lib.hid (show l3 = (l ++ (M.take k).map fun x => (m, x)).length ∧ l3 ≤ 3000 from ⟨hl3, by
          rw [hl3, List.length_append, List.length_map, List.length_take]
          have := HLE.out; have := HML.out; have := HLN.out.2; have := HJ.out
          omega⟩)
        clear hP hR hA hNN hl3
        by_cases hlt : k < ml
        · have i1 : (k : Int) < (ml : Nat) := by omega
          have i2 : ¬ (k : Int) < 0 := by omega
          obtain ⟨kk, hkk⟩ : ∃ kk, kk = k + 1 := ⟨_, rfl⟩
          have HWK := Lib.hid (Nd.wrap_n k kk hkk (by have := HML.out.2; omega))
          have HK := Lib.hid (And.intro hkk hlt)
          obtain ⟨x, hx⟩ : ∃ x, M[k]? = some x := ⟨_, List.getElem?_eq_getElem (by have := HML.out.1; omega)⟩
          obtain ⟨rg, ro, rfl, hr⟩ := row_item HR3.out hx
          have HX := Lib.hid hx
          clear hk hlt hkk hx
          go_upto_region 8 with (first | (refine wpList_load_mid rfl 70 _ rfl _ _ rfl x.cells _ hr Try.underlying70 rfl (itinfo x) ?_) | (refine wpList_store_blk rfl 70 _ _ rfl wr.heap.size 70 #[.int .u64 0, .slice none 0 0] x.cells.toArray rfl rfl (Blk.new' rfl) (itinfoA x) (it_siz x) (it_one x) ?_; intro _; rw [Wr.alloc_setRow]))
          obtain ⟨w4, hw4⟩ : ∃ w4, w4 = wr.alloc (.cells x.cells.toArray 70) := ⟨_, rfl⟩
          obtain ⟨bx, hbx⟩ : ∃ bx, bx = wr.heap.size := ⟨_, rfl⟩
          have hb4 : Below wr.heap.size wr w4 := by rw [hw4]; exact (Below.refl _ _).alloc (Nat.le_refl _) _
          have hx4 : Blk w4 bx 70 x.cells.toArray := by rw [hw4, hbx]; exact Blk.new _ _ _
          rw [← hw4, ← hbx]
          have q0 : w4.cell? ⟨bx, 0, none⟩ = some (.int .u64 (x.q : Nat)) := hx4.cell 0
          have q1 : w4.cell? ⟨bx, 1, none⟩ = some (.slice x.A x.bs.length x.c) := hx4.cell 1
          have qd := HC0.out w4 (HP3.out.next hb4).b
          have HP4 := Lib.hid (HP3.out.next hb4)
          have HX4 := Lib.hid hx4
          have HR4 := Lib.hid (RowI.keep HR3.out (W' := w4) (G := fun k => bq ≤ k ∧ k < w4.heap.size) fun k hk => ⟨⟨hk.1, Nat.lt_of_lt_of_le hk.2 hb4.size⟩, hb4.block k hk.2⟩)
          have HA4 := Lib.hid (show ∀ x ∈ M, x.At w4 (fun k => bq ≤ k ∧ k < w4.heap.size) from fun x hx => (HA3.out x hx).keep fun k hk => ⟨⟨hk.1, Nat.lt_of_lt_of_le hk.2 hb4.size⟩, hb4.block k hk.2⟩)
          have HN4 := Lib.hid (HN3.out.next hb4)
          clear hw4 hbx hb4 hx4 HP3 HR3 HA3 HN3 hr i1 i2
          (try simp only [Act.put, List.setIfInBounds_toArray, List.set_cons_zero, List.set_cons_succ])
          obtain ⟨bn, hbn⟩ : ∃ bn, bn = x.bs.length := ⟨_, rfl⟩
          rw [← hbn] at q1
          have HBN := Lib.hid hbn
          clear hbn
          refine wp_region_tree (S := (fun w' => w'.cell? ⟨d, 0, none⟩ = some (.int .i64 (own : Nat)) ∧ w'.cell? ⟨bx, 0, none⟩ = some (.int .u64 (x.q : Nat)) ∧ w'.cell? ⟨bx, 1, none⟩ = some (.slice x.A bn x.c))) (.take 0 (.take 1 (.take 2 (.take 3 (.take 4 (.take 5 (.take 6 (.take 7 (.take 8 (.take 9 (.take 10 (.one 11 (.one 12 (.take 13 .nil)))))))))))))) 9999 (by kernel_rfl) (by kernel_rfl) (by kernel_rfl) (by kernel_rfl) (by kernel_rfl) (fun _ _ d _ _ h => by cases d <;> exact h) ⟨qd, q0, q1⟩ (fun hHeld => ?_); simp only [Tree.map, List.getElem?_toArray, List.getElem?_cons_zero, List.getElem?_cons_succ]
          (repeat (first | (refine wpTree.take (v := undef) (Or.inr ⟨by rfl, rfl⟩) ?_; simp only [Act.put, List.setIfInBounds_toArray, List.set_cons_zero, List.set_cons_succ]) | (refine wpTree.take (v := .agg #[.bool false, .int .i64 (own : Nat), .int .i64 (m : Nat), .int .u64 (x.q : Nat), .slice x.A bn x.c]) (Or.inl ⟨by rfl, fun _ _ => by go_simp; rfl⟩) ?_; simp only [Act.put, List.setIfInBounds_toArray, List.set_cons_zero, List.set_cons_succ]) | (refine wpTree.take (v := ?_) (Or.inl ⟨by rfl, ?_⟩) ?_; rotate_left; (focus (intro _ hS; (try dsimp only at hS); go_split_ands; (try subst hS); go_simp; (try (with_reducible rfl)); done)); simp only [Act.put, List.setIfInBounds_toArray, List.set_cons_zero, List.set_cons_succ])))
          refine wpTree.one (fun K hK => ?_)
          go_simp
          obtain ⟨lm, hlm⟩ : ∃ lm, lm = l ++ (M.take k).map fun x => (m, x) := ⟨_, rfl⟩
          have HLM := Lib.hid (show l ++ (M.take kk).map (fun x => (m, x)) = lm ++ [(m, x)] by
            rw [hlm, HK.out.1, List.take_add_one, HX.out, List.map_append, List.append_assoc]; rfl)
          rw [← hlm] at HP4 HL3
          clear hlm
          have hpc : (pcO own (m, x)).cells.toArray = #[.bool false, .int .i64 (own : Nat), .int .i64 (m : Nat), .int .u64 (x.q : Nat), .slice x.A bn x.c] := by rw [HBN.out]; rfl
          obtain ⟨w5, hw5⟩ : ∃ w5, w5 = (w4.alloc (.cells #[.bool false, .int .i64 (own : Nat), .int .i64 (m : Nat), .int .u64 (x.q : Nat), .slice x.A bn x.c] 40)).drew := ⟨_, rfl⟩
          obtain ⟨b4, hb4e⟩ : ∃ b4, b4 = w4.heap.size := ⟨_, rfl⟩
          have hb5 : Below w4.heap.size w4 w5 := by rw [hw5]; exact ((Below.refl _ _).alloc (Nat.le_refl _) _).drew
          have hn5 : Blk w5 b4 40 (pcO own (m, x)).cells.toArray := by rw [hw5, hpc, hb4e]; exact (Blk.new _ _ _).drew
          rw [← hw5, ← hb4e]
          refine hK.out _ _ ⟨cell_next hb5 hHeld.1, cell_next hb5 hHeld.2.1, cell_next hb5 hHeld.2.2⟩ (fun hHeld' => ?_)
          clear hK K hHeld hw5 hpc hb4e q0 q1 qd
          have hHeld := hHeld'
          clear hHeld'
          (try simp only [Act.put, List.setIfInBounds_toArray, List.set_cons_zero, List.set_cons_succ])
          have hP5 := HP4.out.next hb5
          have HR5 := Lib.hid (RowI.keep HR4.out (W' := w5) (G := fun k => bq ≤ k ∧ k < w5.heap.size) fun k hk => ⟨⟨hk.1, Nat.lt_of_lt_of_le hk.2 hb5.size⟩, hb5.block k hk.2⟩)
          have HA5 := Lib.hid (show ∀ x ∈ M, x.At w5 (fun k => bq ≤ k ∧ k < w5.heap.size) from fun x hx => (HA4.out x hx).keep fun k hk => ⟨⟨hk.1, Nat.lt_of_lt_of_le hk.2 hb5.size⟩, hb5.block k hk.2⟩)
          have HN5 := Lib.hid (HN4.out.next hb5)
          have hrow5 := hP5.row
          rw [← HL3.out.1] at hrow5
          have HP5 := Lib.hid hP5
          obtain ⟨i0, z0, hi, hz, hsz, hby, hzs⟩ := info_pk
          refine wpTree.one (fun K hK => ?_)
          refine step_append_g (w := w5) (by rfl) _ _ 62 rfl W.heap.size 40 i0 z0 Try.underlying62 hi hz (by rw [hsz]; exact hzs) (by rw [hsz]; decide) (.slice A3 l3 c3) l3 (pcs (lm.map (pcO own))) rfl (by rw [hsz]; exact hrow5) (some ⟨b4, 0, none⟩) 1 1 (pcO own (m, x)).cells rfl (by rw [hsz]; rfl) (Or.inl ⟨_, rfl, fun j u hj => by rw [add_plain, Nat.zero_add, hn5.cell, List.getElem?_toArray]; exact hj⟩) (fun u hu => Array.all_eq_true'.1 (Pk.pc_one (pcO own (m, x))) u (by simpa using hu)) (by unfold maxLen; have := HL3.out.2; omega) (by rw [hby]; have := HL3.out.2; omega) HP5.out.b.size ?_
          intro v6 w6 hown hgrow hloc
          rw [hsz] at hown
          have hx5 : x.At w5 (fun k => W.heap.size ≤ k ∧ k < w5.heap.size) := (HA5.out x (List.mem_of_getElem? HX.out)).keep fun k hk => ⟨⟨Nat.le_trans HWR.out hk.1, hk.2⟩, rfl⟩
          have HP6 := Lib.hid (HP5.out.more (tn := m) (x := x) (v' := v6) hx5 (by rw [← HL3.out.1]; exact hown) hgrow)
          have hG : ∀ k, (bq ≤ k ∧ k < w5.heap.size) → (bq ≤ k ∧ k < w6.heap.size) := fun k hk => ⟨hk.1, Nat.lt_of_lt_of_le hk.2 hgrow.size⟩
          have HR6 := Lib.hid (RowI.grown HR5.out hrow5 hgrow (by decide) hG)
          have HA6 := Lib.hid (show ∀ x ∈ M, x.At w6 (fun k => bq ≤ k ∧ k < w6.heap.size) from fun x hx => At.grown (HA5.out x hx) hrow5 hgrow (by decide) hG)
          have HN6 := Lib.hid (Nds.grown HN5.out hrow5 hgrow (by decide))
          have keep6 : ∀ {b cs t z} {n : Nat} {u : Value}, w5.heap[b]? = some (.cells cs t z) → t ≠ 40 → w5.cell? ⟨b, n, none⟩ = some u → w6.cell? ⟨b, n, none⟩ = some u := fun hh ht hc => (World.cell?_of_block (a := ⟨_, _, none⟩) (grown_own (W := w5) (cs := []) hrow5 hgrow hh ht)).trans hc
          refine hK.out _ _ ?_ (fun hHeld' => ?_)
          · obtain ⟨K', D', -⟩ := HL.out.next HP5.out.b
            have hbx5 := HX4.out.next hb5
            exact ⟨keep6 D'.blk (by decide) hHeld.1, keep6 hbx5 (by decide) hHeld.2.1, keep6 hbx5 (by decide) hHeld.2.2⟩
          clear hK K hHeld hown hgrow hloc hi hz hsz hby hzs hrow5 hP5 hb5 hn5 hx5 hG keep6
          (try simp only [Act.put, List.setIfInBounds_toArray, List.set_cons_zero, List.set_cons_succ])
          (repeat (first | (refine wpTree.take (v := undef) (Or.inr ⟨by rfl, rfl⟩) ?_; simp only [Act.put, List.setIfInBounds_toArray, List.set_cons_zero, List.set_cons_succ]) | (refine wpTree.take (v := ?_) (Or.inl ⟨by rfl, ?_⟩) ?_; rotate_left; (focus (intro _ hS; (try dsimp only at hS); go_split_ands; (try subst hS); go_simp; (try (with_reducible rfl)); done)); simp only [Act.put, List.setIfInBounds_toArray, List.set_cons_zero, List.set_cons_succ])))
          refine wpTree.done ?_
          go_wp2_with fail
          rw [HWK.out]
          go_roundw
          case rel => exact ⟨kk, by have := HK.out; omega, rfl, by rw [HLM.out]; exact HP6.out, HR6.out, HA6.out, HN6.out⟩
          case measure => have := HK.out; simp [intOf]; omega
        · have i1 : ¬ (k : Int) < (ml : Nat) := by omega
          have HKE := Lib.hid (show k = M.length by have := HML.out.1; omega)
          clear hk hlt
          go_wp2_with fail
          rw [HWJ.out]
          go_roundw
          case rel =>
            have hP := HP3.out
            rw [HKE.out, List.take_length] at hP
            refine ⟨jj, by have := HJ.out; omega, rfl, _, hP, ?_, ?_, HN3.out⟩
            · rw [List.map_append, HL1.out, List.map_map, HJ.out.1, List.take_add_one, HM.out, List.flatMap_append]
              congr 1
              simp only [Option.toList_some, List.flatMap_cons, List.flatMap_nil, List.append_nil]
              exact HMT.out
            · rw [List.length_append, List.length_map]
              have := HLE.out; have := HML.out; have := HJ.out
              omega
          case measure => have := HJ.out; simp [intOf]; omega
    · have i1 : ¬ (j : Int) < (ln : Nat) := by omega
      have HJE := Lib.hid (show j = L.length by have := HLN.out.1; omega)
      clear hj hlt
      go_wp2_with fail
      go_ret
      refine ⟨_, l, rfl, HPA.out, ?_, by have := HLE.out; have := HLL.out.2; have := HJE.out; omega⟩
      rw [HL1.out, HJE.out, List.take_length, HLL.out.1]
      rfl
end
end Ls
end Go.Proofs.Ytifoheodcbjapaa
