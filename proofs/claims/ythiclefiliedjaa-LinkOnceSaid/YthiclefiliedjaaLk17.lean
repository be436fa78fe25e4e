/-
link: ops that came in; an op done.
-/
import Derived.Test.YthiclefiliedjaaLk15
import Derived.Test.YthiclefiliedjaaOpenG
namespace Go.Proofs.Ythiclefiliedjaa
open Go.RowKit Go.ChangeShapes Go.WideShapes Go.ChangeAt Go.WideElems
set_option linter.unusedSimpArgs false
set_option linter.unusedVariables false
namespace Lk
/-- An op that came in. -/
structure Do where
  k : Int
  q : Nat
  A : Option Addr
  c : Nat
  bs : List Nat
def Do.cells (x : Do) : List Value := [.int .i64 x.k, .int .u64 (x.q : Nat), .slice x.A x.bs.length x.c]
theorem do_len (x : Do) : x.cells.length = 3 := rfl
structure Do.Ok (W : World) (x : Do) : Prop where
  hc : x.bs.length ≤ x.c
  h256 : ∀ y ∈ x.bs, y < 256
  rd : Byt.ByR W x.A x.bs
  hA : x.A = none → x.bs = []
theorem Do.Ok.next {W w : World} {x : Do} (h : x.Ok W) (hb : Below W.heap.size W w) : x.Ok w := { h with rd := h.rd.next hb }
theorem Do.Ok.src {W : World} {x : Do} (h : x.Ok W) : Src W x.A x.bs.length (u8s x.bs) := h.rd.src h.hA
section
variable {H : Type} {enc : TypeId × Value → H} {w : World}
theorem cells_do : Try.prog.cellsOf 32 = 3 := by kernel_rfl
theorem three_cells {cs : List Value} {a b c : Value} (hl : cs.length = 3) (h0 : (cs.drop 0).take 1 = [a]) (h1 : (cs.drop 1).take 1 = [b]) (h2 : (cs.drop 2).take 1 = [c]) : cs = [a, b, c] := by
  match cs, hl with
  | [x0, x1, x2], _ =>
    simp only [List.drop_zero, List.drop_succ_cons, List.take_succ_cons, List.take_zero, List.cons.injEq, and_true] at h0 h1 h2
    rw [h0, h1, h2]
theorem cells_one3 : Try.prog.cellsOf 3 = 1 ∧ Try.prog.cellsOf 29 = 1 ∧ Try.prog.cellsOf 30 = 1 := ⟨by kernel_rfl, by kernel_rfl, by kernel_rfl⟩
set_option maxRecDepth 100000 in
theorem open_do {base fuel : Nat} {hd : Bool} {cs : List Value} {x : DataW H × List MemPlace} (h : DataW.trod enc Try.prog w base (fun _ => true) hd fuel 32 cs = some x) (hlt : ∀ y ∈ x.2, y.block < w.heap.size) :
    ∃ p : Do, cs = p.cells ∧ p.Ok w := by
  obtain ⟨xs, m, _, hx, hcl, hlen, hg⟩ := DataW.trod_struct Try.underlying32 h
  rw [cells_do] at hcl
  have g0 : DataW.trod enc Try.prog w base (fun _ => true) hd m 3 ((cs.drop 0).take (Try.prog.cellsOf 3)) = xs[0]? := hg 0 _ rfl
  have g1 : DataW.trod enc Try.prog w base (fun _ => true) hd m 29 ((cs.drop 1).take (Try.prog.cellsOf 29)) = xs[1]? := hg 1 _ rfl
  have g2 : DataW.trod enc Try.prog w base (fun _ => true) hd m 30 ((cs.drop 2).take (Try.prog.cellsOf 30)) = xs[2]? := hg 2 _ rfl
  have hlen3 : xs.length = 3 := hlen
  clear hg hlen
  rw [cells_one3.1] at g0
  rw [cells_one3.2.1] at g1
  rw [cells_one3.2.2] at g2
  rw [List.getElem?_eq_getElem (by omega)] at g0 g1 g2
  obtain ⟨k, e0, _, w0⟩ := DataW.trod_int Try.underlying3 g0
  obtain ⟨q, e1, _, w1⟩ := DataW.trod_int Try.underlying29 g1
  obtain ⟨A, ml, c, bs, e2, hm, hc, hc2, hby, hcell, hA⟩ := Byt.open_bytes_cells g2 (fun y hy => hlt y (by rw [hx]; exact List.mem_flatMap.2 ⟨xs[2], List.getElem_mem (by omega), hy⟩)) (fun _ => rfl)
  subst hm
  have hq := bounds_u64 w1
  obtain ⟨n, rfl⟩ : ∃ n : Nat, q = (n : Nat) := ⟨q.toNat, by omega⟩
  exact ⟨⟨k, n, A, c, bs⟩, three_cells hcl e0 e1 e2, ⟨hc, hby, hcell, hA⟩⟩
end
/-- What an op says, and leaves. -/
def doE (s : LS) (o : Do) : Int := if o.k = 0 then sendE s o.bs.length else if o.k = 1 then ackE s o.q else if o.k = 2 then (takeE s o.q).2 else 0
def doS (s : LS) (o : Do) : LS := if o.k = 0 then s.send o.bs else if o.k = 1 then s.ack o.q else if o.k = 2 then s.take o.q else s
theorem LK.wider {W w : World} {B d : Nat} {F : Nat → Prop} {s : LS} (h : LK w B d F s) (hlt : ∀ k, F k → k < W.heap.size) (hB : B ≤ W.heap.size) : LK w B d (Grow F W w) s := by
  obtain ⟨A, c, l, D⟩ := h
  refine ⟨A, c, l, D.wider (fun k h => Or.inl h) ?_⟩
  rintro k (hk | ⟨h1, h2⟩)
  · exact D.low k hk
  · exact ⟨by omega, h2⟩
theorem grow_grow {W w w' : World} {F : Nat → Prop} {B d : Nat} {s : LS} (hs : W.heap.size ≤ w.heap.size) (h : LK w' B d (Grow F w w') s) (hB : B ≤ W.heap.size) : LK w' B d (Grow F W w') s := by
  obtain ⟨A, c, l, D⟩ := h
  refine ⟨A, c, l, D.wider ?_ ?_⟩
  · rintro k (hk | ⟨h1, h2⟩)
    · exact Or.inl hk
    · exact Or.inr ⟨by omega, h2⟩
  · rintro k (hk | ⟨h1, h2⟩)
    · exact D.low k (Or.inl hk)
    · exact ⟨by omega, h2⟩
theorem turn_pre {W w w' : World} {F : Nat → Prop} {B : Nat} (hb : Below W.heap.size W w) (hB : B ≤ W.heap.size) (h : Turn B F w w') : Turn B F W w' :=
  ⟨(hb.mono hB).trans h.1, fun k hk hF => (h.2 k (Nat.lt_of_lt_of_le hk hb.size) hF).trans (hb.block k hk)⟩
section
variable (W : World) {B d : Nat} {F : Nat → Prop} {s : LS}
set_option maxRecDepth 20000 in
theorem do_any (h : LK W B d F s) (o : Do) (ho : o.Ok W) : Calls Try.prog 24 #[.pointer (some ⟨d, 0, none⟩), .agg o.cells.toArray] W fun e W' =>
    e = .returned (.int .i64 (doE s o)) ∧ LK W' B d (Grow F W W') (doS s o) ∧ Turn B F W W' := by
  obtain ⟨w1, hw1⟩ : ∃ w1, w1 = W.alloc (.cells o.cells.toArray 32) := ⟨_, rfl⟩
  have hb1 : Below W.heap.size W w1 := by rw [hw1]; exact (Below.refl _ _).alloc (Nat.le_refl _) _
  have hx : Blk w1 W.heap.size 32 o.cells.toArray := by rw [hw1]; exact Blk.new _ _ _
  have c0 : w1.cell? ⟨W.heap.size, 0, none⟩ = some (.int .i64 o.k) := hx.cell 0
  have c1 : w1.cell? ⟨W.heap.size, 1, none⟩ = some (.int .u64 (o.q : Nat)) := hx.cell 1
  have c2 : w1.cell? ⟨W.heap.size, 2, none⟩ = some (.slice o.A o.bs.length o.c) := hx.cell 2
  have HB := Lib.hid hb1
  have HS := Lib.hid (send_any w1 (h.next hb1) o.A o.bs.length o.c o.bs rfl (ho.next hb1).src ho.h256)
  have HA := Lib.hid (acked_any w1 (h.next hb1) o.q)
  have HT := Lib.hid (take_any w1 (h.next hb1) o.q)
  have HBW := Lib.hid h.base
  have HH := Lib.hid h
  have HW := Lib.hid hw1
  have hcells : o.cells.toArray = #[.int .i64 o.k, .int .u64 (o.q : Nat), .slice o.A o.bs.length o.c] := rfl
  rw [hcells] at hw1 ⊢
  obtain ⟨k, hk⟩ : ∃ k, k = o.k := ⟨_, rfl⟩
  rw [← hk] at c0
  have HKK := Lib.hid hk
  clear h ho hx hcells hw1 hb1 hk
  by_cases h0 : k = 0
  · have HE := Lib.hid (show doE s o = sendE s o.bs.length ∧ doS s o = s.send o.bs by unfold doE doS; rw [← HKK.out, if_pos h0, if_pos h0]; exact ⟨rfl, rfl⟩)
    subst h0
    go_enter Try.func24, Try.ntmps24
    go_upto_region 1 with fail
    rw [← HKK.out, show W.alloc (.cells #[.int .i64 0, .int .u64 (o.q : Nat), .slice o.A o.bs.length o.c] 32) = w1 from by rw [HW.out, show o.cells.toArray = #[.int .i64 o.k, .int .u64 (o.q : Nat), .slice o.A o.bs.length o.c] from rfl, ← HKK.out]]
    go_wp2_with (go_at_call 10; refine HS.out.mono ?_; rintro e w2 ⟨rfl, h1, h2⟩; have H1 := Lib.hid h1; have H2 := Lib.hid h2; clear h1 h2)
    go_ret
    exact ⟨by rw [HE.out.1]; rfl, by rw [HE.out.2]; exact grow_grow HB.out.size H1.out HBW.out, turn_pre HB.out HBW.out H2.out⟩
  by_cases h1 : k = 1
  · have HE := Lib.hid (show doE s o = ackE s o.q ∧ doS s o = s.ack o.q by unfold doE doS; rw [← HKK.out, if_neg h0, if_neg h0, if_pos h1, if_pos h1]; exact ⟨rfl, rfl⟩)
    subst h1
    go_enter Try.func24, Try.ntmps24
    go_upto_region 1 with fail
    rw [← HKK.out, show W.alloc (.cells #[.int .i64 1, .int .u64 (o.q : Nat), .slice o.A o.bs.length o.c] 32) = w1 from by rw [HW.out, show o.cells.toArray = #[.int .i64 o.k, .int .u64 (o.q : Nat), .slice o.A o.bs.length o.c] from rfl, ← HKK.out]]
    go_wp2_with (go_at_call 12; refine HA.out.mono ?_; rintro e w2 ⟨rfl, h1, h2⟩; have H1 := Lib.hid h1; have H2 := Lib.hid h2; clear h1 h2)
    go_ret
    exact ⟨by rw [HE.out.1]; rfl, by rw [HE.out.2]; exact grow_grow HB.out.size H1.out HBW.out, turn_pre HB.out HBW.out H2.out⟩
  by_cases h2 : k = 2
  · have HE := Lib.hid (show doE s o = (takeE s o.q).2 ∧ doS s o = s.take o.q by unfold doE doS; rw [← HKK.out, if_neg h0, if_neg h0, if_neg h1, if_neg h1, if_pos h2, if_pos h2]; exact ⟨rfl, rfl⟩)
    subst h2
    go_enter Try.func24, Try.ntmps24
    go_upto_region 1 with fail
    rw [← HKK.out, show W.alloc (.cells #[.int .i64 2, .int .u64 (o.q : Nat), .slice o.A o.bs.length o.c] 32) = w1 from by rw [HW.out, show o.cells.toArray = #[.int .i64 o.k, .int .u64 (o.q : Nat), .slice o.A o.bs.length o.c] from rfl, ← HKK.out]]
    go_wp2_with (go_at_call 14; refine HT.out.mono ?_; rintro e w2 ⟨rfl, h1, h2, -⟩; have H1 := Lib.hid h1; have H2 := Lib.hid h2; clear h1 h2)
    go_ret
    exact ⟨by rw [HE.out.1]; rfl, by rw [HE.out.2]; exact grow_grow HB.out.size (LK.wider H1.out (fun k hk => (HH.out.next HB.out).low k hk |>.2) (Nat.le_trans HBW.out HB.out.size)) HBW.out, turn_pre HB.out HBW.out H2.out⟩
  · have HE := Lib.hid (show doE s o = 0 ∧ doS s o = s by unfold doE doS; rw [← HKK.out, if_neg h0, if_neg h0, if_neg h1, if_neg h1, if_neg h2, if_neg h2]; exact ⟨rfl, rfl⟩)
    have g0 : (k == 0) = false := by simpa using h0
    have g1 : (k == 1) = false := by simpa using h1
    have g2 : (k == 2) = false := by simpa using h2
    clear h0 h1 h2
    go_enter Try.func24, Try.ntmps24
    go_upto_region 1 with fail
    rw [show W.alloc (.cells #[.int .i64 o.k, .int .u64 (o.q : Nat), .slice o.A o.bs.length o.c] 32) = w1 from HW.out.symm]
    go_wp2_with fail
    go_ret
    exact ⟨by rw [HE.out.1]; rfl, by rw [HE.out.2]; exact LK.grow _ HH.out HB.out, turn_below HH.out HB.out⟩
end
end Lk
end Go.Proofs.Ythiclefiliedjaa
