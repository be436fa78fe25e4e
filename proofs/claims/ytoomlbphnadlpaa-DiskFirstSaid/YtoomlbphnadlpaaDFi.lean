/-
DiskFirst: two disks side by side; calls that came in.
-/
import Derived.Test.YtoomlbphnadlpaaDGo
import Derived.Test.YtoomlbphnadlpaaOpenG
namespace Go.Proofs.Ytoomlbphnadlpaa
open Go.RowKit Go.Shelf Go.ChangeShapes Go.WideShapes Go.ChangeAt Go.WideElems
open Byt
set_option linter.unusedSimpArgs false
set_option linter.unusedVariables false

/-- A call that came in. -/
structure Dop where
  k : Int
  p : Int
  n : Int
  A : Option Addr
  c : Nat
  bs : List Nat
def Dop.cells (x : Dop) : List Value := [.int .i64 x.k, .int .i64 x.p, .int .i64 x.n, .slice x.A x.bs.length x.c]
theorem dop_len (x : Dop) : x.cells.length = 4 := rfl
theorem dop_arr (x : Dop) : x.cells.toArray = #[.int .i64 x.k, .int .i64 x.p, .int .i64 x.n, .slice x.A x.bs.length x.c] := rfl
theorem dop_0 (x : Dop) : x.cells[0]? = some (.int .i64 x.k) := rfl
theorem dop_1 (x : Dop) : x.cells[1]? = some (.int .i64 x.p) := rfl
theorem dop_3 (x : Dop) : x.cells[3]? = some (.slice x.A x.bs.length x.c) := rfl
theorem dop_one (x : Dop) : x.cells.toArray.all (·.oneCell') = true := by unfold Dop.cells; simp [Value.oneCell']
theorem dopinfo (x : Dop) : (Try.prog.info? 29).map (·.size) = some x.cells.length := by rw [dop_len]; kernel_rfl
theorem dopinfoA (x : Dop) : (Try.prog.info? 29).map (·.size) = some x.cells.toArray.size := by rw [List.size_toArray, dop_len]; kernel_rfl
structure Dop.Ok (W : World) (x : Dop) : Prop where
  p1 : -9223372036854775808 ≤ x.p
  p2 : x.p ≤ 9223372036854775807
  hc : x.bs.length ≤ x.c
  h256 : ∀ y ∈ x.bs, y < 256
  rd : ByR W x.A x.bs
  hA : x.A = none → x.bs = []
attribute [irreducible] Dop.cells
section
variable {H : Type} {enc : TypeId × Value → H} {w : World}
theorem cells_dop : Try.prog.cellsOf 29 = 4 := by kernel_rfl
theorem four_cells {cs : List Value} {a b c d : Value} (hl : cs.length = 4) (h0 : (cs.drop 0).take 1 = [a]) (h1 : (cs.drop 1).take 1 = [b]) (h2 : (cs.drop 2).take 1 = [c]) (h3 : (cs.drop 3).take 1 = [d]) : cs = [a, b, c, d] := by
  match cs, hl with
  | [x0, x1, x2, x3], _ =>
    simp only [List.drop_zero, List.drop_succ_cons, List.take_succ_cons, List.take_zero, List.cons.injEq, and_true] at h0 h1 h2 h3
    rw [h0, h1, h2, h3]
theorem cells_one : Try.prog.cellsOf 3 = 1 ∧ Try.prog.cellsOf 27 = 1 := ⟨by kernel_rfl, by kernel_rfl⟩
set_option maxRecDepth 100000 in
theorem open_dop {base fuel : Nat} {hd : Bool} {cs : List Value} {x : DataW H × List MemPlace} (h : DataW.trod enc Try.prog w base (fun _ => true) hd fuel 29 cs = some x) (hlt : ∀ y ∈ x.2, y.block < w.heap.size) :
    ∃ p : Dop, cs = p.cells ∧ p.Ok w := by
  obtain ⟨xs, m, _, hx, hcl, hlen, hg⟩ := DataW.trod_struct Try.underlying29 h
  rw [cells_dop] at hcl
  have g0 : DataW.trod enc Try.prog w base (fun _ => true) hd m 3 ((cs.drop 0).take (Try.prog.cellsOf 3)) = xs[0]? := hg 0 _ rfl
  have g1 : DataW.trod enc Try.prog w base (fun _ => true) hd m 3 ((cs.drop 1).take (Try.prog.cellsOf 3)) = xs[1]? := hg 1 _ rfl
  have g2 : DataW.trod enc Try.prog w base (fun _ => true) hd m 3 ((cs.drop 2).take (Try.prog.cellsOf 3)) = xs[2]? := hg 2 _ rfl
  have g3 : DataW.trod enc Try.prog w base (fun _ => true) hd m 27 ((cs.drop 3).take (Try.prog.cellsOf 27)) = xs[3]? := hg 3 _ rfl
  have hlen4 : xs.length = 4 := hlen
  clear hg hlen
  rw [cells_one.1] at g0 g1 g2
  rw [cells_one.2] at g3
  rw [List.getElem?_eq_getElem (by omega)] at g0 g1 g2 g3
  obtain ⟨k, e0, _, w0⟩ := DataW.trod_int Try.underlying3 g0
  obtain ⟨p, e1, _, w1⟩ := DataW.trod_int Try.underlying3 g1
  obtain ⟨n, e2, _, w2⟩ := DataW.trod_int Try.underlying3 g2
  obtain ⟨A, ml, c, bs, e3, hm, hc, hc2, hby, hcell, hA⟩ := open_bytes_cells g3 (fun y hy => hlt y (by rw [hx]; exact List.mem_flatMap.2 ⟨xs[3], List.getElem_mem (by omega), hy⟩)) (fun _ => rfl)
  subst hm
  have b1 := bounds_i64 w1
  refine ⟨⟨k, p, n, A, c, bs⟩, ?_, ⟨b1.1, b1.2, hc, hby, hcell, hA⟩⟩
  unfold Dop.cells
  exact four_cells hcl e0 e1 e2 e3
end
/-- A disk that has fw waiting, and one that has the first ones of fa. -/
def Two (W : World) (B Bb da ha db hb : Nat) (has0 : List Nat) (last : Int) (P : Nat → Prop) (fw fa : List (Nat × Nat)) (k kb nb : Nat) (w : World) : Prop :=
  ∃ (Fa Fb : Nat → Prop) (va vb : Value) (wsa wsb : List Wt) (wra wrb : Int), Dk w B da Fa ha 300 va has0 wsa 0 wra ∧ Dk w Bb db Fb hb 300 vb has0 wsb 0 wrb ∧ (∀ k, Fa k → ¬ Fb k) ∧ Below W.heap.size W w ∧ Prot P Fa w ∧ Prot P Fb w ∧ flat wsa = fw ∧ flat wsb = fa.take last.toNat ∧ wsa.length ≤ k ∧ wsb.length ≤ kb ∧ (flat wsb).length = nb ∧ W.heap.size ≤ B ∧ W.heap.size ≤ Bb
section
variable {W : World} {B Bb da ha db hb : Nat} {has0 : List Nat} {last : Int} {P : Nat → Prop} {fw fa : List (Nat × Nat)} {k kb nb : Nat} {w w' : World}
theorem Two.below (T : Two W B Bb da ha db hb has0 last P fw fa k kb nb w) : Below W.heap.size W w := by
  obtain ⟨_, _, _, _, _, _, _, _, _, _, _, h, _⟩ := T; exact h
theorem Two.nb_eq (T : Two W B Bb da ha db hb has0 last P fw fa k kb nb w) : nb = (fa.take last.toNat).length := by
  obtain ⟨_, _, _, _, _, _, _, _, _, _, _, _, _, _, _, h1, _, _, h2, _⟩ := T; rw [← h2, h1]
theorem Two.fresh (T : Two W B Bb da ha db hb has0 last P fw fa k kb nb w) (hw : Below w.heap.size w w') {g : Nat} (hg : w.heap.size ≤ g ∧ g < w'.heap.size) : Two W B Bb da ha db hb has0 last (fun j => j = g) fw fa k kb nb w' := by
  obtain ⟨Fa, Fb, va, vb, wsa, wsb, wra, wrb, Da, Db, hab, hB, hPa, hPb, h1, h2, h3, h4, h5, h6, h7⟩ := T
  refine ⟨Fa, Fb, va, vb, wsa, wsb, wra, wrb, Da.next hw, Db.next hw, hab, hB.trans (hw.mono hB.size), fun j hj => ?_, fun j hj => ?_, h1, h2, h3, h4, h5, h6, h7⟩
  · subst hj; exact ⟨hg.2, fun h => by have := (Da.low _ h).2; omega⟩
  · subst hj; exact ⟨hg.2, fun h => by have := (Db.low _ h).2; omega⟩
theorem Two.next (T : Two W B Bb da ha db hb has0 last P fw fa k kb nb w) (hw : Below w.heap.size w w') : Two W B Bb da ha db hb has0 last P fw fa k kb nb w' := by
  obtain ⟨Fa, Fb, va, vb, wsa, wsb, wra, wrb, Da, Db, hab, hB, hPa, hPb, h1⟩ := T
  exact ⟨Fa, Fb, va, vb, wsa, wsb, wra, wrb, Da.next hw, Db.next hw, hab, hB.trans (hw.mono hB.size), hPa.next hw, hPb.next hw, h1⟩
theorem Two.refa {fa' : List (Nat × Nat)} (T : Two W B Bb da ha db hb has0 last P fw fa k kb nb w) (h : fa.take last.toNat = fa'.take last.toNat) : Two W B Bb da ha db hb has0 last P fw fa' k kb nb w := by
  obtain ⟨Fa, Fb, va, vb, wsa, wsb, wra, wrb, Da, Db, hab, hB, hPa, hPb, h1, h2, h3⟩ := T
  exact ⟨Fa, Fb, va, vb, wsa, wsb, wra, wrb, Da, Db, hab, hB, hPa, hPb, h1, h2.trans h, h3⟩
theorem Two.free (T : Two W B Bb da ha db hb has0 last P fw fa k kb nb w) : Two W B Bb da ha db hb has0 last (fun _ => False) fw fa k kb nb w := by
  obtain ⟨Fa, Fb, va, vb, wsa, wsb, wra, wrb, Da, Db, hab, hB, hPa, hPb, h1, h2, h3, h4, h5⟩ := T
  exact ⟨Fa, Fb, va, vb, wsa, wsb, wra, wrb, Da, Db, hab, hB, Prot.none _ _, Prot.none _ _, h1, h2, h3, h4, h5⟩
theorem Two.more (T : Two W B Bb da ha db hb has0 last P fw fa k kb nb w) {k' kb' : Nat} (h : k ≤ k') (h' : kb ≤ kb') : Two W B Bb da ha db hb has0 last P fw fa k' kb' nb w := by
  obtain ⟨Fa, Fb, va, vb, wsa, wsb, wra, wrb, Da, Db, hab, hB, hPa, hPb, h1, h2, h3, h4, h5⟩ := T
  exact ⟨Fa, Fb, va, vb, wsa, wsb, wra, wrb, Da, Db, hab, hB, hPa, hPb, h1, h2, Nat.le_trans h3 h, Nat.le_trans h4 h', h5⟩
theorem Two.writeA (T : Two W B Bb da ha db hb has0 last P fw fa k kb nb w) (p c : Nat) (A : Option Addr) (bs : List Nat) (hs : Src w A bs.length (u8s bs)) (h256 : ∀ y ∈ bs, y < 256) (hf : p + bs.length ≤ 300) (hk : k ≤ 100000) :
    Calls Try.prog 6 #[.pointer (some ⟨da, 0, none⟩), .int .i64 (p : Nat), .slice A bs.length c] w fun e w' => e = .returned (.int .i64 0) ∧ Two W B Bb da ha db hb has0 last P (fw ++ puts p bs) fa (k + 1) kb nb w' ∧ Kept P w w' := by
  obtain ⟨Fa, Fb, va, vb, wsa, wsb, wra, wrb, Da, Db, hab, hB, hPa, hPb, h1, h2, h3, h4, h5, h6, h7⟩ := T
  refine (write_any w Da p c A bs hs h256 hf (by omega)).mono ?_
  rintro e w' ⟨v', x, rfl, hxa, hxb, hD, hT⟩
  exact ⟨rfl, ⟨Grow Fa w w', Fb, v', vb, wsa ++ [x], wsb, _, wrb, hD, hT.other Db (fun j hj hj' => hab j hj' hj), apart_grow hab (fun j hj => (Db.low j hj).2), hB.trans (hT.1.mono h6), hT.prot hPa, hPb.size hT.1.size, by rw [flat_app, flat_one, h1, hxa, hxb], h2, by simp; omega, h4, h5, h6, h7⟩, hT.kept hPa⟩
theorem Two.badA (T : Two W B Bb da ha db hb has0 last P fw fa k kb nb w) (p : Int) (hp : -9223372036854775808 ≤ p ∧ p ≤ 9223372036854775807) (A : Option Addr) (m c : Nat) (hf : ¬ (0 ≤ p ∧ p + (m : Int) ≤ 300)) :
    Calls Try.prog 6 #[.pointer (some ⟨da, 0, none⟩), .int .i64 p, .slice A m c] w fun e w' => e = .returned (.int .i64 1) ∧ w = w' := by
  obtain ⟨Fa, Fb, va, vb, wsa, wsb, wra, wrb, Da, Db, _⟩ := T
  exact write_bad w Da p A m c hp (by rw [Bool.eq_false_iff, ne_eq, fits_iff]; omega)
theorem take_one {fa : List (Nat × Nat)} {last : Int} {x : Nat × Nat} (h : 0 < last - ((fa.take last.toNat).length : Nat)) : (fa ++ [x]).take last.toNat = fa.take last.toNat ++ [x] := by
  rw [List.length_take] at h
  have hl : fa.length < last.toNat := by omega
  rw [List.take_of_length_le (l := fa) (by omega), List.take_of_length_le (by simp; omega)]
theorem take_all {fa r : List (Nat × Nat)} {last : Int} (h : ¬ 0 < last - ((fa.take last.toNat).length : Nat)) : (fa ++ r).take last.toNat = fa.take last.toNat := by
  rw [List.length_take] at h
  rw [List.take_append_of_le_length (by omega)]
theorem Two.writeB (T : Two W B Bb da ha db hb has0 last P fw fa k kb nb w) (p y c : Nat) (A : Option Addr) (hs : Src w A 1 (u8s [y])) (h256 : y < 256) (hf : p < 300) (hk : kb ≤ 100000) (hl : 0 < last - (nb : Int)) :
    Calls Try.prog 6 #[.pointer (some ⟨db, 0, none⟩), .int .i64 (p : Nat), .slice A 1 c] w fun e w' => e = .returned (.int .i64 0) ∧ Two W B Bb da ha db hb has0 last P fw (fa ++ [(p, y)]) k (kb + 1) (nb + 1) w' ∧ Kept P w w' := by
  obtain ⟨Fa, Fb, va, vb, wsa, wsb, wra, wrb, Da, Db, hab, hB, hPa, hPb, h1, h2, h3, h4, h5, h6, h7⟩ := T
  refine (write_len Db p c 1 A [y] rfl hs (by simpa using h256) (by omega) (by omega)).mono ?_
  rintro e w' ⟨v', x, rfl, hxa, hxb, hD, hT⟩
  have hf : flat (wsb ++ [x]) = (fa ++ [(p, y)]).take last.toNat := by
    rw [take_one (by rw [← h2, h5]; exact hl), flat_app, flat_one, h2, hxa, hxb]
    rfl
  exact ⟨rfl, ⟨Fa, Grow Fb w w', va, v', wsa, wsb ++ [x], wra, _, hT.other Da hab, hD, apart_symm (apart_grow (apart_symm hab) (fun j hj => (Da.low j hj).2)), hB.trans (hT.1.mono h7), hPa.size hT.1.size, hT.prot hPb, h1, hf, h3, by simp; omega, by rw [flat_app, List.length_append, h5, flat_one, puts_len, hxb]; rfl, h6, h7⟩, hT.kept hPb⟩
end
end Go.Proofs.Ytoomlbphnadlpaa
