/-
links: ops that came in; Great, play; several links at once.
-/
import Derived.Test.YtifoheodcbjapaaLs12
import Derived.Test.YtifoheodcbjapaaOpenG
import Derived.Test.YtifoheodcbjapaaEndT
namespace Go.Proofs.Ytifoheodcbjapaa
open Go.RowKit Go.ChangeShapes Go.WideShapes Go.ChangeAt Go.WideElems
set_option linter.unusedSimpArgs false
set_option linter.unusedVariables false
namespace Pk
theorem cells_pk : Try.prog.cellsOf 40 = 5 := by kernel_rfl
theorem five_cells {cs : List Value} {a b c d e : Value} (hl : cs.length = 5) (h0 : (cs.drop 0).take 1 = [a]) (h1 : (cs.drop 1).take 1 = [b]) (h2 : (cs.drop 2).take 1 = [c]) (h3 : (cs.drop 3).take 1 = [d]) (h4 : (cs.drop 4).take 1 = [e]) : cs = [a, b, c, d, e] := by
  match cs, hl with
  | [x0, x1, x2, x3, x4], _ =>
    simp only [List.drop_zero, List.drop_succ_cons, List.take_succ_cons, List.take_zero, List.cons.injEq, and_true] at h0 h1 h2 h3 h4
    rw [h0, h1, h2, h3, h4]
theorem cells_one5 : Try.prog.cellsOf 4 = 1 ∧ Try.prog.cellsOf 3 = 1 ∧ Try.prog.cellsOf 37 = 1 ∧ Try.prog.cellsOf 38 = 1 := ⟨by kernel_rfl, by kernel_rfl, by kernel_rfl, by kernel_rfl⟩
section
variable {H : Type} {enc : TypeId × Value → H} {w : World}
set_option maxRecDepth 100000 in
theorem open_pk {base fuel : Nat} {hd : Bool} {cs : List Value} {x : DataW H × List MemPlace} (h : DataW.trod enc Try.prog w base (fun _ => true) hd fuel 40 cs = some x) (hlt : ∀ y ∈ x.2, y.block < w.heap.size) :
    ∃ p : Pc, cs = p.cells ∧ p.Ok w := by
  obtain ⟨xs, m, _, hx, hcl, hlen, hg⟩ := DataW.trod_struct Try.underlying40 h
  rw [cells_pk] at hcl
  have g0 : DataW.trod enc Try.prog w base (fun _ => true) hd m 4 ((cs.drop 0).take (Try.prog.cellsOf 4)) = xs[0]? := hg 0 _ rfl
  have g1 : DataW.trod enc Try.prog w base (fun _ => true) hd m 3 ((cs.drop 1).take (Try.prog.cellsOf 3)) = xs[1]? := hg 1 _ rfl
  have g2 : DataW.trod enc Try.prog w base (fun _ => true) hd m 3 ((cs.drop 2).take (Try.prog.cellsOf 3)) = xs[2]? := hg 2 _ rfl
  have g3 : DataW.trod enc Try.prog w base (fun _ => true) hd m 37 ((cs.drop 3).take (Try.prog.cellsOf 37)) = xs[3]? := hg 3 _ rfl
  have g4 : DataW.trod enc Try.prog w base (fun _ => true) hd m 38 ((cs.drop 4).take (Try.prog.cellsOf 38)) = xs[4]? := hg 4 _ rfl
  have hlen5 : xs.length = 5 := hlen
  clear hg hlen
  rw [cells_one5.1] at g0
  rw [cells_one5.2.1] at g1 g2
  rw [cells_one5.2.2.1] at g3
  rw [cells_one5.2.2.2] at g4
  rw [List.getElem?_eq_getElem (by omega)] at g0 g1 g2 g3 g4
  obtain ⟨k, e0, _⟩ := DataW.trod_bool Try.underlying4 g0
  obtain ⟨f, e1, _, _⟩ := DataW.trod_int Try.underlying3 g1
  obtain ⟨t, e2, _, _⟩ := DataW.trod_int Try.underlying3 g2
  obtain ⟨q, e3, _, w3⟩ := DataW.trod_int Try.underlying37 g3
  obtain ⟨A, ml, c, bs, e4, hm, hc, hc2, hby, hcell, hA⟩ := Byt.open_bytes_cells g4 (fun y hy => hlt y (by rw [hx]; exact List.mem_flatMap.2 ⟨xs[4], List.getElem_mem (by omega), hy⟩)) (fun _ => rfl)
  subst hm
  have hq := bounds_u64 w3
  obtain ⟨n, rfl⟩ : ∃ n : Nat, q = (n : Nat) := ⟨q.toNat, by omega⟩
  exact ⟨⟨⟨k, f, t, n, bs⟩, A, c⟩, five_cells hcl e0 e1 e2 e3 e4, ⟨hc, hby, hcell, hA⟩⟩
end
end Pk
namespace Ls
open Lk
/-- An op. -/
structure Do where
  k : Int
  n : Int
  q : Nat
  A : Option Addr
  c : Nat
  bs : List Nat
  x : Pk.Pc
def Do.cells (o : Do) : List Value := [.int .i64 o.k, .int .i64 o.n, .int .u64 (o.q : Nat), .slice o.A o.bs.length o.c] ++ o.x.cells
theorem do_len (o : Do) : o.cells.length = 9 := rfl
structure Do.Ok (W : World) (o : Do) : Prop where
  hc : o.bs.length ≤ o.c
  h256 : ∀ y ∈ o.bs, y < 256
  rd : Byt.ByR W o.A o.bs
  hA : o.A = none → o.bs = []
  px : o.x.Ok W
theorem Do.Ok.next {W w : World} {x : Do} (h : x.Ok W) (hb : Below W.heap.size W w) : x.Ok w := { h with rd := h.rd.next hb, px := h.px.next hb }
theorem Do.Ok.src {W : World} {x : Do} (h : x.Ok W) : Src W x.A x.bs.length (u8s x.bs) := h.rd.src h.hA
theorem doinfo (x : Do) : (Try.prog.info? 42).map (·.size) = some x.cells.length := by rw [do_len]; kernel_rfl
theorem do_row {W w : World} {A : Option Addr} {l : List Do} (h : RowsOf Do.cells 9 W A l) (hb : Below W.heap.size W w) {i : Nat} {x : Do} (hx : l[i]? = some x) : ∃ b o, A = some ⟨b, o, none⟩ ∧ b < W.heap.size ∧ w.rangeAt b (o + i * 9) x.cells := by
  rcases h with rfl | ⟨b, o, e, h1, h2⟩
  · simp at hx
  · have hi := (List.getElem?_eq_some_iff.1 hx)
    refine ⟨b, o, e, h1, fun j v hv => (hb.cell (p := ⟨b, o + i * 9 + j, none⟩) h1).trans (h2 i hi.1 j v ?_)⟩
    rw [hi.2]; exact hv
section
variable {H : Type} {enc : TypeId × Value → H} {w : World}
theorem cells_do : Try.prog.cellsOf 42 = 9 := by kernel_rfl
set_option maxRecDepth 100000 in
theorem open_do {base fuel : Nat} {hd : Bool} {cs : List Value} {x : DataW H × List MemPlace} (h : DataW.trod enc Try.prog w base (fun _ => true) hd fuel 42 cs = some x) (hlt : ∀ y ∈ x.2, y.block < w.heap.size) :
    ∃ p : Do, cs = p.cells ∧ p.Ok w := by
  obtain ⟨xs, m, _, hx, hcl, hlen, hg⟩ := DataW.trod_struct Try.underlying42 h
  rw [cells_do] at hcl
  have g0 : DataW.trod enc Try.prog w base (fun _ => true) hd m 3 ((cs.drop 0).take (Try.prog.cellsOf 3)) = xs[0]? := hg 0 _ rfl
  have g1 : DataW.trod enc Try.prog w base (fun _ => true) hd m 3 ((cs.drop 1).take (Try.prog.cellsOf 3)) = xs[1]? := hg 1 _ rfl
  have g2 : DataW.trod enc Try.prog w base (fun _ => true) hd m 37 ((cs.drop 2).take (Try.prog.cellsOf 37)) = xs[2]? := hg 2 _ rfl
  have g3 : DataW.trod enc Try.prog w base (fun _ => true) hd m 38 ((cs.drop 3).take (Try.prog.cellsOf 38)) = xs[3]? := hg 3 _ rfl
  have g4 : DataW.trod enc Try.prog w base (fun _ => true) hd m 40 ((cs.drop 4).take (Try.prog.cellsOf 40)) = xs[4]? := hg 4 _ rfl
  have hlen5 : xs.length = 5 := hlen
  clear hg hlen
  rw [Pk.cells_one5.2.1] at g0 g1
  rw [Pk.cells_one5.2.2.1] at g2
  rw [Pk.cells_one5.2.2.2] at g3
  rw [Pk.cells_pk] at g4
  rw [List.getElem?_eq_getElem (by omega)] at g0 g1 g2 g3 g4
  obtain ⟨k, e0, _, w0⟩ := DataW.trod_int Try.underlying3 g0
  obtain ⟨nd, e1, _, w1⟩ := DataW.trod_int Try.underlying3 g1
  obtain ⟨q, e2, _, w2⟩ := DataW.trod_int Try.underlying37 g2
  obtain ⟨A, ml, c, bs, e3, hm, hc, hc2, hby, hcell, hA⟩ := Byt.open_bytes_cells g3 (fun y hy => hlt y (by rw [hx]; exact List.mem_flatMap.2 ⟨xs[3], List.getElem_mem (by omega), hy⟩)) (fun _ => rfl)
  obtain ⟨p, e4, hp⟩ := Pk.open_pk g4 (fun y hy => hlt y (by rw [hx]; exact List.mem_flatMap.2 ⟨xs[4], List.getElem_mem (by omega), hy⟩))
  subst hm
  have hq := bounds_u64 w2
  obtain ⟨n, rfl⟩ : ∃ n : Nat, q = (n : Nat) := ⟨q.toNat, by omega⟩
  refine ⟨⟨k, nd, n, A, c, bs, p⟩, ?_, ⟨hc, hby, hcell, hA, hp⟩⟩
  rw [List.take_of_length_le (by rw [List.length_drop]; omega)] at e4
  have s0 : cs = cs.take 4 ++ cs.drop 4 := (List.take_append_drop 4 cs).symm
  rw [s0, e4]
  match cs, hcl, e0, e1, e2, e3 with
  | a :: b :: c :: d :: r, _, e0, e1, e2, e3 =>
    simp only [List.drop_zero, List.take_succ_cons, List.take_zero, List.drop_succ_cons] at e0 e1 e2 e3 ⊢
    rw [(List.cons.inj e0).1, (List.cons.inj e1).1, (List.cons.inj e2).1, (List.cons.inj e3).1]
    rfl
end
def greatB (o : Do) : Bool := decide (1810 < o.bs.length) || decide (1810 < o.x.p.bs.length)
set_option maxRecDepth 20000 in
theorem great_any (W : World) (o : Do) : Calls Try.prog 8 #[.agg o.cells.toArray] W fun e W' => e = .returned (.bool (greatB o)) ∧ Below W.heap.size W W' := by
  obtain ⟨w1, hw1⟩ : ∃ w1, w1 = W.alloc (.cells o.cells.toArray 42) := ⟨_, rfl⟩
  have hb1 : Below W.heap.size W w1 := by rw [hw1]; exact (Below.refl _ _).alloc (Nat.le_refl _) _
  have hx : Blk w1 W.heap.size 42 o.cells.toArray := by rw [hw1]; exact Blk.new _ _ _
  have c3 : w1.cell? ⟨W.heap.size, 3, none⟩ = some (.slice o.A o.bs.length o.c) := hx.cell 3
  have hr : w1.rangeAt W.heap.size 4 o.x.cells := fun j v hj => by
    have h2 := hx.cell (4 + j)
    rw [h2, List.getElem?_toArray]
    unfold Do.cells
    rw [List.getElem?_append_right (by simp), ← hj]
    congr 1
    simp
  have HG := Lib.hid (Pk.great_any w1 o.x)
  have HB := Lib.hid hb1
  have HE := Lib.hid (show greatB o = (decide (1810 < o.bs.length) || decide (1810 < o.x.p.bs.length)) from rfl)
  obtain ⟨cs, hcs⟩ : ∃ cs, cs = o.cells.toArray := ⟨_, rfl⟩
  obtain ⟨m, hm⟩ : ∃ m, m = o.bs.length := ⟨_, rfl⟩
  obtain ⟨m2, hm2⟩ : ∃ m2, m2 = o.x.p.bs.length := ⟨_, rfl⟩
  rw [← hcs] at hw1 ⊢
  rw [← hm] at c3 HE
  rw [← hm2] at HG HE
  clear hb1 hx hcs hm hm2
  by_cases h : (1810 : Int) < (m : Nat)
  · rw [HE.out, decide_eq_true (show 1810 < m by omega)]
    go_enter Try.func8, Try.ntmps8
    go_upto_region 1 with fail
    rw [← hw1]
    clear hw1
    go_wp2_with fail
    go_ret
    exact ⟨rfl, HB.out⟩
  · rw [HE.out, decide_eq_false (show ¬ 1810 < m by omega), Bool.false_or]
    have e2 : decide (1810 < m2) = decide ((1810 : Int) < (m2 : Nat)) := decide_eq_decide.2 (by omega)
    rw [← e2] at HG
    clear e2
    go_enter Try.func8, Try.ntmps8
    go_upto_region 1 with fail
    rw [← hw1]
    clear hw1
    go_wp2_with (first | (refine load_midg rfl 40 _ rfl _ _ rfl o.x.cells _ hr Try.underlying40 rfl (Pk.pcinfo _) ?_; (try simp only [Act.put, List.setIfInBounds_toArray, List.set_cons_zero, List.set_cons_succ])) | (go_at_call 25; refine HG.out.mono ?_; rintro e w2 ⟨rfl, hb2⟩; have HB2 := Lib.hid (HB.out.trans (hb2.mono HB.out.size)); clear hb2))
    go_ret
    exact ⟨rfl, HB2.out⟩
/-- What an op says, and leaves. -/
def playE (own : Nat) (S : Nat → LS) (o : Do) : Int := if o.k = 0 then sendE own S o.n o.bs.length else if o.k = 1 then ackE own S o.n o.q else if o.k = 2 then hearE own S o.x.p else 0
def playS (own : Nat) (S : Nat → LS) (o : Do) : Nat → LS := if o.k = 0 then send own S o.n o.bs else if o.k = 1 then ack own S o.n o.q else if o.k = 2 then hear own S o.x.p else S
theorem any_play {own : Nat} {S : Nat → LS} (hN : NOk own S) (h : Any S) (o : Do) : Any (playS own S o) := by
  unfold playS
  split
  · exact any_send h _ _
  · split
    · exact any_ack h _ _
    · split
      · exact any_hear hN h _
      · exact h
theorem ln_pre {W w w' : World} {B d own : Nat} {F G : Nat → Prop} {S : Nat → LS} (hs : W.heap.size ≤ w.heap.size) (hs2 : w.heap.size ≤ w'.heap.size) (hB : B ≤ W.heap.size) (hF : ∀ k, F k → B ≤ k ∧ k < W.heap.size) (h : LN w' B d G own S) (hG : ∀ k, G k → Grow F w w' k) : LN w' B d (Grow F W w') own S := by
  refine h.re (fun k hk => ?_) (fun k hk => ?_)
  · rcases hG k hk with hk | ⟨h1, h2⟩
    · exact Or.inl hk
    · exact Or.inr ⟨by omega, h2⟩
  · rcases hk with hk | ⟨h1, h2⟩
    · have := hF k hk; omega
    · omega
theorem turn_pre {W w w' : World} {F : Nat → Prop} {B : Nat} (hb : Below W.heap.size W w) (hB : B ≤ W.heap.size) (h : Turn B F w w') : Turn B F W w' :=
  ⟨(hb.mono hB).trans h.1, fun k hk hF => (h.2 k (Nat.lt_of_lt_of_le hk hb.size) hF).trans (hb.block k hk)⟩
section
variable (W : World) {B d own : Nat} {F : Nat → Prop} {S : Nat → LS}
set_option maxRecDepth 20000 in
set_option maxHeartbeats 4000000 in
theorem play_any (h : LN W B d F own S) (o : Do) (ho : o.Ok W) : Calls Try.prog 21 #[.pointer (some ⟨d, 0, none⟩), .agg o.cells.toArray] W fun e W' =>
    e = .returned (.int .i64 (playE own S o)) ∧ LN W' B d (Grow F W W') own (playS own S o) ∧ Turn B F W W' := by
  obtain ⟨w1, hw1⟩ : ∃ w1, w1 = W.alloc (.cells o.cells.toArray 42) := ⟨_, rfl⟩
  have hb1 : Below W.heap.size W w1 := by rw [hw1]; exact (Below.refl _ _).alloc (Nat.le_refl _) _
  have hx : Blk w1 W.heap.size 42 o.cells.toArray := by rw [hw1]; exact Blk.new _ _ _
  have c0 : w1.cell? ⟨W.heap.size, 0, none⟩ = some (.int .i64 o.k) := hx.cell 0
  have c1 : w1.cell? ⟨W.heap.size, 1, none⟩ = some (.int .i64 o.n) := hx.cell 1
  have c2 : w1.cell? ⟨W.heap.size, 2, none⟩ = some (.int .u64 (o.q : Nat)) := hx.cell 2
  have c3 : w1.cell? ⟨W.heap.size, 3, none⟩ = some (.slice o.A o.bs.length o.c) := hx.cell 3
  have hr : w1.rangeAt W.heap.size 4 o.x.cells := fun j v hj => by
    have h2 := hx.cell (4 + j)
    rw [h2, List.getElem?_toArray]
    unfold Do.cells
    rw [List.getElem?_append_right (by simp), ← hj]
    congr 1
    simp
  have HB := Lib.hid hb1
  have HS := Lib.hid (send_any w1 (h.next hb1) o.n o.A o.bs.length o.c o.bs rfl (ho.next hb1).src ho.h256)
  have HA := Lib.hid (acked_any w1 (h.next hb1) o.n o.q)
  have HT := Lib.hid (hear_any w1 (h.next hb1) o.x (ho.next hb1).px)
  have HBW := Lib.hid h.base
  have HH := Lib.hid h
  obtain ⟨cs, hcs⟩ : ∃ cs, cs = o.cells.toArray := ⟨_, rfl⟩
  rw [← hcs] at hw1 ⊢
  obtain ⟨k, hk⟩ : ∃ k, k = o.k := ⟨_, rfl⟩
  rw [← hk] at c0
  have HKK := Lib.hid hk
  clear h ho hx hcs hb1 hk
  by_cases h0 : k = 0
  · have HE := Lib.hid (show playE own S o = sendE own S o.n o.bs.length ∧ playS own S o = send own S o.n o.bs by unfold playE playS; rw [← HKK.out, if_pos h0, if_pos h0]; exact ⟨rfl, rfl⟩)
    subst h0
    go_enter Try.func21, Try.ntmps21
    go_upto_region 1 with fail
    rw [← hw1]
    clear hw1
    go_wp2_with (go_at_call 11; refine HS.out.mono ?_; rintro e w2 ⟨rfl, h1, h2⟩; have H1 := Lib.hid h1; have H2 := Lib.hid h2; clear h1 h2)
    go_ret
    exact ⟨by (rw [HE.out.1]; try rfl), by rw [HE.out.2]; exact ln_pre HB.out.size H2.out.1.size HBW.out HH.out.low H1.out (fun _ h => h), turn_pre HB.out HBW.out H2.out⟩
  by_cases h1 : k = 1
  · have HE := Lib.hid (show playE own S o = ackE own S o.n o.q ∧ playS own S o = ack own S o.n o.q by unfold playE playS; rw [← HKK.out, if_neg h0, if_neg h0, if_pos h1, if_pos h1]; exact ⟨rfl, rfl⟩)
    subst h1
    go_enter Try.func21, Try.ntmps21
    go_upto_region 1 with fail
    rw [← hw1]
    clear hw1
    go_wp2_with (go_at_call 13; refine HA.out.mono ?_; rintro e w2 ⟨rfl, h1, h2⟩; have H1 := Lib.hid h1; have H2 := Lib.hid h2; clear h1 h2)
    go_ret
    exact ⟨by (rw [HE.out.1]; try rfl), by rw [HE.out.2]; exact ln_pre HB.out.size H2.out.1.size HBW.out HH.out.low H1.out (fun _ h => h), turn_pre HB.out HBW.out H2.out⟩
  by_cases h2 : k = 2
  · have HE := Lib.hid (show playE own S o = hearE own S o.x.p ∧ playS own S o = hear own S o.x.p by unfold playE playS; rw [← HKK.out, if_neg h0, if_neg h0, if_neg h1, if_neg h1, if_pos h2, if_pos h2]; exact ⟨rfl, rfl⟩)
    subst h2
    go_enter Try.func21, Try.ntmps21
    go_upto_region 1 with fail
    rw [← hw1]
    clear hw1
    go_wp2_with (first | (refine wpList_load_mid rfl 40 _ rfl _ _ rfl o.x.cells _ hr Try.underlying40 rfl (Pk.pcinfo _) ?_) | (go_at_call 12; refine HT.out.mono ?_; rintro e w2 ⟨v, G, rfl, -, -, hG, -, h1, h2⟩; have H1 := Lib.hid h1; have H2 := Lib.hid h2; have HG := Lib.hid hG; clear h1 h2 hG))
    go_ret
    exact ⟨by (rw [HE.out.1]; try rfl), by rw [HE.out.2]; exact ln_pre HB.out.size H2.out.1.size HBW.out HH.out.low H1.out HG.out, turn_pre HB.out HBW.out H2.out⟩
  · have HE := Lib.hid (show playE own S o = 0 ∧ playS own S o = S by unfold playE playS; rw [← HKK.out, if_neg h0, if_neg h0, if_neg h1, if_neg h1, if_neg h2, if_neg h2]; exact ⟨rfl, rfl⟩)
    have g0 : (k == 0) = false := by simpa using h0
    have g1 : (k == 1) = false := by simpa using h1
    have g2 : (k == 2) = false := by simpa using h2
    clear h0 h1 h2
    go_enter Try.func21, Try.ntmps21
    go_upto_region 1 with fail
    rw [← hw1]
    clear hw1
    go_wp2_with fail
    go_ret
    exact ⟨by (rw [HE.out.1]; try rfl), by rw [HE.out.2]; exact HH.out.grow HB.out, ln_turn HH.out HB.out⟩
end
/-- Several links of one node that stand apart from each other, and Q's blocks apart from all. -/
def Many (n : Nat) (W : World) (Q : Nat → Prop) (w : World) (own : Nat) (d : Nat → Nat) (S : Nat → Nat → LS) : Prop :=
  ∃ F : Nat → Nat → Prop, (∀ i, i < n → LN w W.heap.size (d i) (F i) own (S i) ∧ Any (S i) ∧ Prot Q (F i) w) ∧ (∀ i j, i < n → j < n → i ≠ j → ∀ k, F i k → ¬ F j k) ∧ Below W.heap.size W w
def updM (S : Nat → Nat → LS) (i : Nat) (s : Nat → LS) : Nat → Nat → LS := fun j => if j = i then s else S j
def updD (d : Nat → Nat) (i x : Nat) : Nat → Nat := fun j => if j = i then x else d j
section
variable {n : Nat} {W w w' : World} {Q Q' : Nat → Prop} {own : Nat} {d : Nat → Nat} {S : Nat → Nat → LS}
theorem Many.b (h : Many n W Q w own d S) : Below W.heap.size W w := by obtain ⟨F, _, _, hb⟩ := h; exact hb
theorem Many.zero (W : World) (Q : Nat → Prop) (own : Nat) (d : Nat → Nat) (S : Nat → Nat → LS) : Many 0 W Q W own d S := ⟨fun _ _ => False, fun i hi => absurd hi (Nat.not_lt_zero i), fun i _ hi => absurd hi (Nat.not_lt_zero i), Below.refl _ _⟩
theorem Many.next (h : Many n W Q w own d S) (hb : Below w.heap.size w w') : Many n W Q w' own d S := by
  obtain ⟨F, h1, h2, h3⟩ := h
  exact ⟨F, fun i hi => ⟨(h1 i hi).1.next hb, (h1 i hi).2.1, (h1 i hi).2.2.next hb⟩, h2, h3.trans (hb.mono h3.size)⟩
theorem Many.turnQ (h : Many n W Q w own d S) (hb : Below w.heap.size w w') (hQ : ∀ k, Q' k → w.heap.size ≤ k ∧ k < w'.heap.size) : Many n W Q' w' own d S := by
  obtain ⟨F, h1, h2, h3⟩ := h
  exact ⟨F, fun i hi => ⟨(h1 i hi).1.next hb, (h1 i hi).2.1, fun k hk => ⟨(hQ k hk).2, fun hF => by have := (h1 i hi).1.low k hF; have := hQ k hk; omega⟩⟩, h2, h3.trans (hb.mono h3.size)⟩
theorem Many.one (h : Many n W Q w own d S) {i : Nat} (hi : i < n) : ∃ F, LN w W.heap.size (d i) F own (S i) ∧ Any (S i) ∧
    ∀ w' s, LN w' W.heap.size (d i) (Grow F w w') own s → Turn W.heap.size F w w' → Any s → Many n W Q w' own d (updM S i s) ∧ Kept Q w w' := by
  obtain ⟨F, h1, h2, h3⟩ := h
  refine ⟨F i, (h1 i hi).1, (h1 i hi).2.1, fun w' s hL ht ha => ⟨⟨fun j k => if j = i then Grow (F i) w w' k else F j k, fun j hj => ?_, fun j l hj hl hne k => ?_, h3.trans ht.1⟩, ht.kept (h1 i hi).2.2⟩⟩
  · by_cases e : j = i
    · subst e
      simp only [if_true]
      unfold updM
      rw [if_pos rfl]
      exact ⟨hL, ha, ht.prot (h1 j hj).2.2⟩
    · simp only [if_neg e]
      unfold updM
      rw [if_neg e]
      exact ⟨(h1 j hj).1.keep (fun k hk => ht.2 k ((h1 j hj).1.low k hk).2 (h2 j i hj hi e k hk)) ht.1.size, (h1 j hj).2.1, (h1 j hj).2.2.size ht.1.size⟩
  · by_cases e : j = i
    · subst e
      have e2 : ¬ l = j := fun e => hne e.symm
      simp only [if_true, if_neg e2]
      rintro (hk | ⟨hk, _⟩) hF
      · exact h2 j l hj hl hne k hk hF
      · have := (h1 l hl).1.low k hF; omega
    · simp only [if_neg e]
      by_cases e2 : l = i
      · subst e2
        simp only [if_true]
        rintro hk (hF | ⟨hF, _⟩)
        · exact h2 j l hj hl hne k hk hF
        · have := (h1 j hj).1.low k hk; omega
      · simp only [if_neg e2]
        exact h2 j l hj hl hne k
theorem Many.add (h : Many n W Q w own d S) (hb : Below w.heap.size w w') {dm : Nat} {G : Nat → Prop} {T : Nat → LS} (hL : LN w' w.heap.size dm G own T) (hA : Any T) (hQ : ∀ k, Q k → k < w.heap.size) : Many (n + 1) W Q w' own (updD d n dm) (updM S n T) := by
  obtain ⟨F, h1, h2, h3⟩ := h
  refine ⟨fun j k => if j = n then G k else F j k, fun j hj => ?_, fun j l hj hl hne k => ?_, h3.trans (hb.mono h3.size)⟩
  · by_cases e : j = n
    · subst e
      simp only [if_true]
      unfold updM updD
      rw [if_pos rfl, if_pos rfl]
      exact ⟨hL.re (fun k hk => hk) (fun k hk => by have := hL.low k hk; have := h3.size; omega), hA, fun k hk => ⟨Nat.lt_of_lt_of_le (hQ k hk) hb.size, fun hg => by have := hL.low k hg; have := hQ k hk; omega⟩⟩
    · simp only [if_neg e]
      unfold updM updD
      rw [if_neg e, if_neg e]
      have hj : j < n := by omega
      exact ⟨(h1 j hj).1.next hb, (h1 j hj).2.1, (h1 j hj).2.2.next hb⟩
  · by_cases e : j = n
    · subst e
      have e2 : ¬ l = j := fun e => hne e.symm
      simp only [if_true, if_neg e2]
      intro hk hF
      have := hL.low k hk; have := (h1 l (by omega)).1.low k hF; omega
    · simp only [if_neg e]
      by_cases e2 : l = n
      · subst e2
        simp only [if_true]
        intro hk hF
        have := hL.low k hF; have := (h1 j (by omega)).1.low k hk; omega
      · simp only [if_neg e2]
        exact h2 j l (by omega) (by omega) hne k
theorem Many.ok (h : Many n W Q w own d S) {i : Nat} (hi : i < n) : NOk own (S i) ∧ Any (S i) := by
  obtain ⟨F, hL, hA, _⟩ := h.one hi
  exact ⟨hL.ok, hA⟩
theorem Many.send (h : Many n W Q w own d S) {i : Nat} (hi : i < n) (nd : Int) (Ab : Option Addr) (m cb : Nat) (bs : List Nat) (hm : bs.length = m) (hs : Src w Ab m (u8s bs)) (h256 : ∀ y ∈ bs, y < 256) :
    Calls Try.prog 11 #[.pointer (some ⟨d i, 0, none⟩), .int .i64 nd, .slice Ab m cb] w fun e w' => e = .returned (.tuple #[.int .u64 (sendN own (S i) nd m : Nat), .int .i64 (sendE own (S i) nd m)]) ∧ Many n W Q w' own d (updM S i (send own (S i) nd bs)) ∧ Kept Q w w' := by
  obtain ⟨F, hL, hA, hc⟩ := h.one hi
  refine (send_any w hL nd Ab m cb bs hm hs h256).mono ?_
  rintro e w' ⟨rfl, h1, h2⟩
  exact ⟨rfl, hc _ _ h1 h2 (any_send hA _ _)⟩
theorem Many.acked (h : Many n W Q w own d S) {i : Nat} (hi : i < n) (nd : Int) (q : Nat) :
    Calls Try.prog 13 #[.pointer (some ⟨d i, 0, none⟩), .int .i64 nd, .int .u64 (q : Nat)] w fun e w' => e = .returned (.tuple #[.int .i64 ((ackR own (S i) nd q : Nat) : Int), .int .i64 (ackE own (S i) nd q)]) ∧ Many n W Q w' own d (updM S i (ack own (S i) nd q)) ∧ Kept Q w w' := by
  obtain ⟨F, hL, hA, hc⟩ := h.one hi
  refine (acked_any w hL nd q).mono ?_
  rintro e w' ⟨rfl, h1, h2⟩
  exact ⟨rfl, hc _ _ h1 h2 (any_ack hA _ _)⟩
theorem Many.play (h : Many n W Q w own d S) {i : Nat} (hi : i < n) (o : Do) (ho : o.Ok w) :
    Calls Try.prog 21 #[.pointer (some ⟨d i, 0, none⟩), .agg o.cells.toArray] w fun e w' => e = .returned (.int .i64 (playE own (S i) o)) ∧ Many n W Q w' own d (updM S i (playS own (S i) o)) ∧ Kept Q w w' := by
  obtain ⟨F, hL, hA, hc⟩ := h.one hi
  refine (play_any w hL o ho).mono ?_
  rintro e w' ⟨rfl, h1, h2⟩
  exact ⟨rfl, hc _ _ h1 h2 (any_play hL.ok hA _)⟩
theorem Many.save (h : Many n W Q w own d S) {i : Nat} (hi : i < n) : Calls Try.prog 20 #[.pointer (some ⟨d i, 0, none⟩)] w fun e w' => e = .returned (.string (Byt.bstr (encLS own (S i)))) ∧ Below w.heap.size w w' := by
  obtain ⟨F, hL, hA, hc⟩ := h.one hi; exact save_any w hL
theorem Many.queue (h : Many n W Q w own d S) {i : Nat} (hi : i < n) (nd : Int) : Calls Try.prog 18 #[.pointer (some ⟨d i, 0, none⟩), .int .i64 nd] w fun e w' => QueueP (qS own (S i) nd) w e w' := by
  obtain ⟨F, hL, hA, hc⟩ := h.one hi; exact queue_any w hL nd
theorem Many.packets (h : Many n W Q w own d S) {i : Nat} (hi : i < n) : Calls Try.prog 17 #[.pointer (some ⟨d i, 0, none⟩)] w fun e w' => PacketsP own (S i) w e w' := by
  obtain ⟨F, hL, hA, hc⟩ := h.one hi; exact packets_any w hL
end
end Ls
end Go.Proofs.Ytifoheodcbjapaa
