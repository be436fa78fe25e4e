/-
Marks: their cells; Right, Same, both, Price, Join, Flag, Covers.
-/
import Derived.Test.YtlejnjgepnjceaaTots
import Derived.Test.YtlejnjgepnjceaaVec
import Derived.Test.YtlejnjgepnjceaaTree
import Derived.Lib.MinMax
namespace Go.Proofs.Ytlejnjgepnjceaa
open Go.RowKit
attribute [local go_sem] Tot.run_store_float

/-- A mark: of its price the bits. -/
structure Mk where
  (f : Int)
  (h : Bool)
  (p : Nat)
def Mk.cells (m : Mk) : List Value := [.int .i64 m.f, .bool m.h, .float .f64 m.p]
theorem mk_len {m : Mk} : m.cells.length = 3 := rfl
theorem mk_arr (m : Mk) : m.cells.toArray = #[.int .i64 m.f, .bool m.h, .float .f64 m.p] := rfl
theorem mk_0 {m : Mk} : m.cells[0]? = some (.int .i64 m.f) := rfl
theorem mk_1 {m : Mk} : m.cells[1]? = some (.bool m.h) := rfl
theorem mk_2 {m : Mk} : m.cells[2]? = some (.float .f64 m.p) := rfl
theorem mk_one (m : Mk) : m.cells.toArray.all (·.oneCell') = true := by unfold Mk.cells; simp [Value.oneCell']
theorem mk_def (m : Mk) : m.cells = [.int .i64 m.f, .bool m.h, .float .f64 m.p] := rfl
attribute [irreducible] Mk.cells
theorem mkinfo (m : Mk) : (Try.prog.info? 65).map (·.size) = some m.cells.length := by rw [mk_len]; kernel_rfl
theorem mkinfoA (m : Mk) : (Try.prog.info? 65).map (·.size) = some m.cells.toArray.size := by rw [List.size_toArray, mk_len]; kernel_rfl
theorem mk_siz (m : Mk) : (#[.int .i64 0, .bool false, .float .f64 0] : Array Value).size = m.cells.toArray.size := show 3 = m.cells.toArray.size by rw [List.size_toArray, mk_len]
theorem mk_siz2 (m n : Mk) : m.cells.toArray.size = n.cells.toArray.size := by rw [List.size_toArray, List.size_toArray, mk_len, mk_len]
theorem mk_all {W : World} {b : Nat} {t : TypeId} {m : Mk} (h : Blk W b t m.cells.toArray) : W.rangeAt b 0 m.cells ∧ W.cell? ⟨b, 0, none⟩ = some (.int .i64 m.f) ∧ W.cell? ⟨b, 1, none⟩ = some (.bool m.h) ∧ W.cell? ⟨b, 2, none⟩ = some (.float .f64 m.p) := by
  have hc : ∀ i, W.cell? ⟨b, i, none⟩ = m.cells[i]? := fun i => by rw [h.cell, List.getElem?_toArray]
  exact ⟨h.range, (hc 0).trans mk_0, (hc 1).trans mk_1, (hc 2).trans mk_2⟩
theorem mrange_next {W W' : World} {b o : Nat} {cs : List Value} (hb : Below W.heap.size W W') (h : W.rangeAt b o cs) : W'.rangeAt b o cs := fun j v hv => by
  have h1 := h j v hv
  exact (hb.cell (World.block_lt_of_cell? _ _ h1)).trans h1
theorem wpList_load_midm {P : Program} {ops : Array Oper} {rest : List Oper} {op : Oper} {a : Act} {w : World} {Q : Exit → Act → World → Prop} (hw : Region.wanted op (yielded ops a.tmps) = true) (ty : TypeId) (x : Operand) (ho : op.op = .load ty x)
    (b o : Nat) (hx : a.eval x = .pointer (some ⟨b, o, none⟩)) (cs : List Value) (d : TypeDesc) (hc : w.rangeAt b o cs)
    (hu : P.underlying ty = some d) (hd : d.isRow = true) (hi : (P.info? ty).map (·.size) = some cs.length)
    (h : wpList P ops Q rest (a.put op.dst (.agg cs.toArray)) w) : wpList P ops Q (op :: rest) a w :=
  wpList_step fun _ hK => by
    rw [if_pos hw]
    exact wp_load_mid ty x ho b o hx cs d hc hu hd hi (hK _ _ h)

def zM : Mk := ⟨0, false, 0⟩
theorem zM_arr : zM.cells.toArray = #[.int .i64 0, .bool false, .float .f64 0] := mk_arr zM
/-- May a mark be? -/
def rightM (m : Mk) : Bool := (m.h || Num.sameB m.p 0) && (decide (0 ≤ m.f) && decide (m.f ≤ 3))
def sameM (a b : Mk) : Bool := (a.f == b.f) && ((a.h == b.h) && Num.sameB a.p b.p)
def bothM (a b : Mk) : Mk := ⟨max a.f b.f, a.h || b.h, if b.h then (if a.h then Num.joinN a.p b.p else b.p) else a.p⟩
def stepM (a m : Mk) : Mk := if rightM m then bothM a m else a
/-- The join of marks. -/
def joinM (l : List Mk) : Mk := l.foldl stepM zM

section
variable (m : Mk) (W : World)
set_option maxRecDepth 20000 in
set_option maxHeartbeats 4000000 in
theorem mright_any : Calls Try.prog 35 #[.agg m.cells.toArray] W fun e W' => e = .returned (.bool (rightM m)) ∧ Below W.heap.size W W' := by
  have hB0 := Lib.hid ((Below.refl W.heap.size W).alloc (Nat.le_refl _) (.cells m.cells.toArray 65))
  obtain ⟨_, c0, c1, c2⟩ := mk_all (Blk.new W 65 m.cells.toArray)
  have H : Hid (rightM m = ((m.h || Num.sameB m.p 0) && (decide (0 ≤ m.f) && decide (m.f ≤ 3)))) := Lib.hid rfl
  cases hh : m.h <;> cases hs : Num.sameB m.p 0 <;> cases h0 : decide (0 ≤ m.f)
  all_goals
    rw [hh, hs, h0] at H
    rw [hh] at c1
    go_enter Try.func35, Try.ntmps35
    go_wp2_with (go_at_call 82; refine (Tot.same_any _ _ _).mono ?_; rintro e w1 ⟨rfl, rfl⟩; rw [hs])
    go_ret
    exact ⟨by first | (rw [H.out]; done) | (rw [H.out]; rfl), hB0.out⟩
set_option maxRecDepth 20000 in
set_option maxHeartbeats 4000000 in
theorem msame_any (n : Mk) : Calls Try.prog 36 #[.agg m.cells.toArray, .agg n.cells.toArray] W fun e W' => e = .returned (.bool (sameM m n)) ∧ Below W.heap.size W W' := by
  have hsz : (W.alloc (.cells m.cells.toArray 65)).heap.size = W.heap.size + 1 := by simp
  have bA := (Blk.new W 65 m.cells.toArray).alloc (.cells n.cells.toArray 65)
  have bB := Blk.new (W.alloc (.cells m.cells.toArray 65)) 65 n.cells.toArray
  rw [hsz] at bB
  have hB0 := Lib.hid (((Below.refl W.heap.size W).alloc (Nat.le_refl _) (.cells m.cells.toArray 65)).alloc (by rw [hsz]; omega) (.cells n.cells.toArray 65))
  obtain ⟨_, a0, a1, a2⟩ := mk_all bA
  obtain ⟨_, b0, b1, b2⟩ := mk_all bB
  clear bA bB hsz
  have H : Hid (sameM m n = ((m.f == n.f) && ((m.h == n.h) && Num.sameB m.p n.p))) := Lib.hid rfl
  cases hf : (m.f == n.f) <;> cases hh : (m.h == n.h)
  all_goals
    rw [hf, hh] at H
    go_enter Try.func36, Try.ntmps36
    go_wp2_with (go_at_call 82; refine (Tot.same_any _ _ _).mono ?_; rintro e w1 ⟨rfl, rfl⟩)
    go_ret
    exact ⟨by first | (rw [H.out]; done) | (rw [H.out]; rfl), hB0.out⟩
set_option maxRecDepth 20000 in
set_option maxHeartbeats 4000000 in
theorem both_any (n : Mk) (hm : m.p < 18446744073709551616) (hn : n.p < 18446744073709551616) : Calls Try.prog 81 #[.agg m.cells.toArray, .agg n.cells.toArray] W fun e W' => e = .returned (.agg (bothM m n).cells.toArray) ∧ Below W.heap.size W W' := by
  have hi : (Try.prog.info? 65).map (·.size) = some 3 := by kernel_rfl
  have HM := Lib.hid hm
  have HN := Lib.hid hn
  clear hm hn
  have H : Hid ((bothM m n).cells.toArray = #[.int .i64 (max m.f n.f), .bool (m.h || n.h), .float .f64 (if n.h then (if m.h then Num.joinN m.p n.p else n.p) else m.p)]) := Lib.hid (by rw [mk_arr]; rfl)
  rw [mk_arr, mk_arr]
  cases hh : m.h <;> cases hk : n.h
  all_goals
    rw [hh, hk] at H
    go_enter Try.func81, Try.ntmps81
    go_wp2_with (go_at_call 125; refine (Tot.join_any _ _ _ HM.out HN.out).mono ?_; rintro e w1 ⟨rfl, rfl⟩)
    refine bodyPost_row (t := 65) #[.int .i64 _, .bool _, .float .f64 _] rfl rfl rfl Try.underlying65 rfl hi (by (first | assumption | ((repeat' (first | assumption | ((with_reducible refine Blk.new' ?_); (first | rfl | (simp; done))) | ((with_reducible refine Blk.newRow ?_); (first | rfl | (simp; done))) | ((with_reducible refine Blk.farRow ?_ ?_ _); rotate_left; (first | (simp; done) | (simp; omega) | omega)) | (with_reducible refine Blk.alloc ?_ _) | (with_reducible refine Blk.drew ?_) | ((with_reducible refine Blk.far ?_ ?_ _); rotate_left; (first | (simp; done) | (simp; omega) | omega)) | (with_reducible refine Blk.next' (by assumption) ?_))); done))) ⟨by rw [H.out]; rfl, by (repeat' (first | exact Below.refl _ _ | assumption | (with_reducible refine below_alloc' ?_) | (with_reducible refine Below.drew ?_) | (with_reducible refine below_next' (by assumption) ?_) | (with_reducible refine below_setRow ?_ ?_ _) | (with_reducible refine Below.setCell ?_ ?_ _) | (with_reducible refine below_next (by assumption) ?_ ?_) | (with_reducible refine Below.alloc ?_ ?_ _) | exact Nat.le_refl _ | (exact below_size (by assumption)) | (with_reducible refine size_alloc ?_) | (with_reducible refine size_setRow' ?_) | (with_reducible refine size_setCell' ?_) | (with_reducible refine size_next (by assumption) ?_) | omega | (simp; done) | (simp; omega)))⟩
set_option maxRecDepth 20000 in
theorem price_any (f : Nat) : Calls Try.prog 38 #[.float .f64 f] W fun e W' => e = .returned (.agg (Mk.mk 0 true f).cells.toArray) ∧ Below W.heap.size W W' := by
  have hi : (Try.prog.info? 65).map (·.size) = some 3 := by kernel_rfl
  rw [mk_arr]
  go_enter Try.func38, Try.ntmps38
  go_wp2_with fail
  refine bodyPost_row (t := 65) #[.int .i64 _, .bool _, .float .f64 _] rfl rfl rfl Try.underlying65 rfl hi (by (first | assumption | ((repeat' (first | assumption | ((with_reducible refine Blk.new' ?_); (first | rfl | (simp; done))) | ((with_reducible refine Blk.newRow ?_); (first | rfl | (simp; done))) | ((with_reducible refine Blk.farRow ?_ ?_ _); rotate_left; (first | (simp; done) | (simp; omega) | omega)) | (with_reducible refine Blk.alloc ?_ _) | (with_reducible refine Blk.drew ?_) | ((with_reducible refine Blk.far ?_ ?_ _); rotate_left; (first | (simp; done) | (simp; omega) | omega)) | (with_reducible refine Blk.next' (by assumption) ?_))); done))) ⟨rfl, by (repeat' (first | exact Below.refl _ _ | assumption | (with_reducible refine below_alloc' ?_) | (with_reducible refine Below.drew ?_) | (with_reducible refine below_next' (by assumption) ?_) | (with_reducible refine below_setRow ?_ ?_ _) | (with_reducible refine Below.setCell ?_ ?_ _) | (with_reducible refine below_next (by assumption) ?_ ?_) | (with_reducible refine Below.alloc ?_ ?_ _) | exact Nat.le_refl _ | (exact below_size (by assumption)) | (with_reducible refine size_alloc ?_) | (with_reducible refine size_setRow' ?_) | (with_reducible refine size_setCell' ?_) | (with_reducible refine size_next (by assumption) ?_) | omega | (simp; done) | (simp; omega)))⟩
end

/-- Marks in a row. -/
def Mks (w : World) (A : Option Addr) (l : List Mk) : Prop :=
  l = [] ∨ ∃ b o, A = some ⟨b, o, none⟩ ∧ b < w.heap.size ∧ ∀ i, (hi : i < l.length) → w.rangeAt b (o + i * 3) (l[i].cells)
theorem Mks.next {w w' : World} {A : Option Addr} {l : List Mk} (h : Mks w A l) (hb : Below w.heap.size w w') : Mks w' A l := by
  refine h.imp id ?_
  rintro ⟨b, o, e, h1, h2⟩
  exact ⟨b, o, e, Nat.lt_of_lt_of_le h1 hb.size, fun i hi => mrange_next hb (h2 i hi)⟩
theorem joinM_take (l : List Mk) (k : Nat) (h : k < l.length) : joinM (l.take (k + 1)) = stepM (joinM (l.take k)) l[k] := by
  unfold joinM
  rw [List.take_add_one, List.getElem?_eq_getElem h, List.foldl_append]
  rfl
theorem joinN_lt {a b : Nat} (ha : a < 18446744073709551616) (hb : b < 18446744073709551616) : Num.joinN a b < 18446744073709551616 := by unfold Num.joinN; split <;> assumption
theorem stepM_lt {a m : Mk} (ha : a.p < 18446744073709551616) (hm : m.p < 18446744073709551616) : (stepM a m).p < 18446744073709551616 := by
  unfold stepM bothM
  split
  · dsimp only
    split
    · split
      · exact joinN_lt ha hm
      · exact hm
    · exact ha
  · exact ha
theorem joinM_lt : ∀ (l : List Mk), (∀ m ∈ l, m.p < 18446744073709551616) → ∀ (a : Mk), a.p < 18446744073709551616 → (l.foldl stepM a).p < 18446744073709551616
  | [], _, _, ha => ha
  | m :: l, h, a, ha => joinM_lt l (fun n hn => h n (by simp [hn])) _ (stepM_lt ha (h m (by simp)))

set_option maxRecDepth 20000 in
set_option maxHeartbeats 8000000 in
theorem mjoin_any (A : Option Addr) (n c : Nat) (l : List Mk) (W : World) (hn : l.length = n) (hlen : n ≤ 9223372036854775807) (h : Mks W A l) (hp : ∀ m ∈ l, m.p < 18446744073709551616) :
    Calls Try.prog 33 #[.slice A n c] W fun e W' => e = .returned (.agg (joinM l).cells.toArray) ∧ Below W.heap.size W W' := by
  have HV := Lib.hid h
  have HN := Lib.hid hn
  have HP := Lib.hid hp
  have hb0 : Below W.heap.size W ((W.alloc (.cells #[.int .i64 0, .bool false, .float .f64 0] 65)).alloc (.cells #[.int .i64 0, .bool false, .float .f64 0] 65)) := ((Below.refl W.heap.size W).alloc (Nat.le_refl _) _).alloc (by simp) _
  clear h hn hp
  go_enter Try.func33, Try.ntmps33
  go_wp2_with fail
  go_loopw [8] (fun i wr => ∃ k : Nat, k ≤ n ∧ i = .int .i64 k ∧ Blk wr W.heap.size 65 #[.int .i64 0, .bool false, .float .f64 0] ∧ Blk wr (W.heap.size + 1) 65 (joinM (l.take k)).cells.toArray ∧ Below W.heap.size W wr) (fun i _ => n - (intOf i).toNat)
  case atStart => exact ⟨0, Nat.zero_le _, rfl, by (first | assumption | ((repeat' (first | assumption | ((with_reducible refine Blk.new' ?_); (first | rfl | (simp; done))) | ((with_reducible refine Blk.newRow ?_); (first | rfl | (simp; done))) | ((with_reducible refine Blk.farRow ?_ ?_ _); rotate_left; (first | (simp; done) | (simp; omega) | omega)) | (with_reducible refine Blk.alloc ?_ _) | (with_reducible refine Blk.drew ?_) | ((with_reducible refine Blk.far ?_ ?_ _); rotate_left; (first | (simp; done) | (simp; omega) | omega)) | (with_reducible refine Blk.next' (by assumption) ?_))); done)), by rw [List.take_zero]; show Blk _ _ _ zM.cells.toArray; rw [zM_arr]; (first | assumption | ((repeat' (first | assumption | ((with_reducible refine Blk.new' ?_); (first | rfl | (simp; done))) | ((with_reducible refine Blk.newRow ?_); (first | rfl | (simp; done))) | ((with_reducible refine Blk.farRow ?_ ?_ _); rotate_left; (first | (simp; done) | (simp; omega) | omega)) | (with_reducible refine Blk.alloc ?_ _) | (with_reducible refine Blk.drew ?_) | ((with_reducible refine Blk.far ?_ ?_ _); rotate_left; (first | (simp; done) | (simp; omega) | omega)) | (with_reducible refine Blk.next' (by assumption) ?_))); done)), hb0⟩
  case round =>
    obtain ⟨k, hk, rfl, hg, hacc, hbl⟩ := hrel
    have HG := Lib.hid hg
    have HACC := Lib.hid hacc
    have HBL := Lib.hid hbl
    clear hg hacc hbl hb0
    by_cases hlt : k < n
    · have h1 : (k : Int) < (n : Nat) := by omega
      have hkl : k < l.length := by have := HN.out; omega
      obtain ⟨b, o, rfl, hbs, hcell⟩ := HV.out.resolve_left (by rintro rfl; simp at hkl)
      have hr := mrange_next (show Below W.heap.size W wr from HBL.out) (hcell k hkl)
      obtain ⟨m, hm⟩ : ∃ m, m = l[k] := ⟨_, rfl⟩
      rw [← hm] at hr
      have HJ := Lib.hid (joinM_take l k hkl)
      rw [← hm] at HJ
      have HM := Lib.hid (show m.p < 18446744073709551616 by rw [hm]; exact HP.out _ (List.getElem_mem hkl))
      have HA := Lib.hid (show (joinM (l.take k)).p < 18446744073709551616 from joinM_lt _ (fun x hx => HP.out x (List.mem_of_mem_take hx)) _ (by decide))
      obtain ⟨acc, ha⟩ : ∃ acc, acc = joinM (l.take k) := ⟨_, rfl⟩
      rw [← ha] at HJ HA HACC
      clear ha hm hcell hbs
      go_wp2_with (first | (refine wpList_load_midm (by rfl) 65 _ rfl _ _ rfl (Mk.cells ?_) _ ?_ Try.underlying65 rfl (mkinfo _) ?_; rotate_left; (focus assumption)) | (refine wpList_store_blk rfl 65 _ _ rfl (wr).heap.size 65 #[.int .i64 0, .bool false, .float .f64 0] m.cells.toArray rfl rfl (Blk.new' rfl) (mkinfoA _) (mk_siz _) (mk_one _) ?_; intro hy; have hbn : Below (wr).heap.size wr (((wr).alloc (.cells #[.int .i64 0, .bool false, .float .f64 0] 65)).setRow (wr).heap.size m.cells.toArray) := below_setRow ((Below.refl _ _).alloc (Nat.le_refl _) _) (Nat.le_refl _) _; obtain ⟨w1, hnw⟩ : ∃ w1, w1 = (((wr).alloc (.cells #[.int .i64 0, .bool false, .float .f64 0] 65)).setRow (wr).heap.size m.cells.toArray) := ⟨_, rfl⟩; rw [← hnw] at hbn hy ⊢; clear hnw; have rm := hy.range))
      have HG1 := Lib.hid (HG.out.next hbn)
      have HA1 := Lib.hid (HACC.out.next hbn)
      have HB1 := Lib.hid (HBL.out.trans (hbn.mono HBL.out.size))
      have HY1 := Lib.hid hy
      clear hbn hy hr HG HACC HBL
      refine (mright_any m w1).mono ?_
      rintro e w2 ⟨rfl, hb⟩
      have HG2 := Lib.hid (HG1.out.next hb)
      have HA2 := Lib.hid (HA1.out.next hb)
      have HB2 := Lib.hid (HB1.out.trans (hb.mono HB1.out.size))
      have HY2 := Lib.hid (HY1.out.next hb)
      clear hb rm HG1 HA1 HB1 HY1
      cases hq : rightM m with
      | false =>
        have HE := Lib.hid (show stepM acc m = acc by unfold stepM; rw [hq]; rfl)
        clear hq
        go_wp2_with fail
        go_roundw
        case rel => exact ⟨k + 1, by omega, by go_num, HG2.out, by rw [HJ.out, HE.out]; exact HA2.out, HB2.out⟩
        case measure => simp [intOf]; omega
      | true =>
        have HE := Lib.hid (show stepM acc m = bothM acc m by unfold stepM; rw [hq]; rfl)
        clear hq
        have racc := HA2.out.range
        have rm := HY2.out.range
        go_wp2_with (first | (refine wpList_load_midm (by rfl) 65 _ rfl _ _ rfl (Mk.cells ?_) _ ?_ Try.underlying65 rfl (mkinfo _) ?_; rotate_left; (focus assumption)))
        refine (both_any acc w2 m HA.out HM.out).mono ?_
        rintro e w3 ⟨rfl, hb⟩
        have HG3 := Lib.hid (HG2.out.next hb)
        have HA3 := HA2.out.next hb
        have HB3 := Lib.hid (HB2.out.trans (hb.mono HB2.out.size))
        clear hb racc rm HG2 HA2 HB2 HY2
        go_wp2_with (first | (refine wpList_store_blk rfl 65 _ _ rfl (W.heap.size + 1) 65 _ (bothM acc m).cells.toArray rfl rfl HA3 (mkinfoA _) (mk_siz2 _ _) (mk_one _) ?_; intro hrow))
        go_roundw
        case rel => exact ⟨k + 1, by omega, by go_num, HG3.out.farRow (by omega) _, by rw [HJ.out, HE.out]; exact hrow, below_setRow HB3.out (by omega) _⟩
        case measure => simp [intOf]; omega
    · obtain rfl : k = n := by omega
      have hq : joinM (l.take k) = joinM l := by rw [← HN.out, List.take_length]
      rw [hq] at HACC
      have racc := HACC.out.range
      have bg := HG.out
      clear hlt hq
      go_wp2_with (first | (refine wpList_load_midm (by rfl) 65 _ rfl _ _ rfl (Mk.cells _) _ racc Try.underlying65 rfl (mkinfo _) ?_) | (refine wpList_store_blk rfl 65 _ _ rfl W.heap.size 65 _ (joinM l).cells.toArray rfl rfl bg (mkinfoA _) (mk_siz _) (mk_one _) ?_; intro hrow))
      exact bodyPost_row (t := 65) (joinM l).cells.toArray rfl rfl rfl Try.underlying65 rfl (mkinfoA _) hrow ⟨rfl, below_setRow HBL.out (Nat.le_refl _) _⟩
end Go.Proofs.Ytlejnjgepnjceaa
