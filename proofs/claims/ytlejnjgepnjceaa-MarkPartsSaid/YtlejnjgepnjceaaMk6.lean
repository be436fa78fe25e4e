/-
The document's marks as marks: Of, marks.
-/
import Derived.Test.YtlejnjgepnjceaaMk5
import Derived.Test.YtlejnjgepnjceaaStore
namespace Go.Proofs.Ytlejnjgepnjceaa
open Go.RowKit
attribute [local go_sem] Tot.run_store_float

/-- A mark as the document's. -/
def Mk.rcells (m : Mk) : List Value := [.int .i64 m.f, .bool m.h, .int .u64 (m.p : Nat)]
theorem rmk_len {m : Mk} : m.rcells.length = 3 := rfl
theorem rmk_arr (m : Mk) : m.rcells.toArray = #[.int .i64 m.f, .bool m.h, .int .u64 (m.p : Nat)] := rfl
theorem rmk_def (m : Mk) : m.rcells = [.int .i64 m.f, .bool m.h, .int .u64 (m.p : Nat)] := rfl
theorem rmk_0 {m : Mk} : m.rcells[0]? = some (.int .i64 m.f) := rfl
theorem rmk_1 {m : Mk} : m.rcells[1]? = some (.bool m.h) := rfl
theorem rmk_2 {m : Mk} : m.rcells[2]? = some (.int .u64 (m.p : Nat)) := rfl
attribute [irreducible] Mk.rcells
theorem rmkinfo (m : Mk) : (Try.prog.info? 63).map (·.size) = some m.rcells.length := by rw [rmk_len]; kernel_rfl
theorem rmk_all {W : World} {b : Nat} {t : TypeId} {m : Mk} (h : Blk W b t m.rcells.toArray) : W.rangeAt b 0 m.rcells ∧ W.cell? ⟨b, 0, none⟩ = some (.int .i64 m.f) ∧ W.cell? ⟨b, 1, none⟩ = some (.bool m.h) ∧ W.cell? ⟨b, 2, none⟩ = some (.int .u64 (m.p : Nat)) := by
  have hc : ∀ i, W.cell? ⟨b, i, none⟩ = m.rcells[i]? := fun i => by rw [h.cell, List.getElem?_toArray]
  exact ⟨h.range, (hc 0).trans rmk_0, (hc 1).trans rmk_1, (hc 2).trans rmk_2⟩
theorem built_mk_fill (parts : List (Nat × Value)) : Try.prog.built 65 parts = Instr.fill (#[(0, 1), (1, 1), (2, 1)][·]?) #[.int .i64 0, .bool false, .float .f64 0] parts := by kernel_rfl
theorem built_mk (m : Mk) : Try.prog.built 65 [(0, .int .i64 m.f), (1, .bool m.h), (2, .float .f64 m.p)] = some m.cells.toArray := by
  rw [built_mk_fill, mk_arr]
  rfl
theorem yields_buildM {P : Program} {ops : Array Oper} {S : World → Prop} {o : Oper} {a : Act} (cells : Array Value) (hw : Region.wanted o (yielded ops a.tmps) = true) (t : TypeId) (parts : List (Nat × Operand))
    (ho : o.op = .build t parts.toArray) (hp : P.built t (parts.map fun x => (x.1, a.eval x.2)) = some cells) : YieldsIf P ops S o (.agg cells) a := by
  refine .inl ⟨hw, fun w _ => ?_⟩
  have e : (parts.toArray.map fun x => (x.1, a.eval x.2)).toList = parts.map fun x => (x.1, a.eval x.2) := by simp
  unfold execOp
  simp only [ho]
  have := run_build (P := P) w t (parts.toArray.map fun x => (x.1, a.eval x.2)) cells (by rw [e]; exact hp)
  simp only [Sem.run_bind]
  show ((Instr.build t (parts.toArray.map fun x => (x.1, a.eval x.2))).run P w).andThen _ = _
  rw [this]; rfl
set_option maxRecDepth 20000 in
set_option maxHeartbeats 4000000 in
theorem mof_any (o : Mk) (W : World) : Calls Try.prog 29 #[.agg o.rcells.toArray] W fun e W' => e = .returned (.agg o.cells.toArray) ∧ Below W.heap.size W W' := by
  have hsz : (W.alloc (.cells o.rcells.toArray 63)).heap.size = W.heap.size + 1 := by simp
  have bA := (Blk.new W 63 o.rcells.toArray).alloc (.cells #[.int .i64 0, .bool false, .float .f64 0] 65)
  have bB := Blk.new (W.alloc (.cells o.rcells.toArray 63)) 65 #[.int .i64 0, .bool false, .float .f64 0]
  rw [hsz] at bB
  have hB0 := ((Below.refl W.heap.size W).alloc (Nat.le_refl _) (.cells o.rcells.toArray 63)).alloc (by rw [hsz]; omega) (.cells #[.int .i64 0, .bool false, .float .f64 0] 65)
  obtain ⟨_, c0, c1, c2⟩ := rmk_all bA
  have cb := Tot.call_frombits
  clear bA
  go_enter Try.func29, Try.ntmps29
  go_wp2_with fail
  obtain ⟨W1, hw⟩ : ∃ W1, W1 = (W.alloc (.cells o.rcells.toArray 63)).alloc (.cells #[.int .i64 0, .bool false, .float .f64 0] 65) := ⟨_, rfl⟩
  rw [← hw] at c0 c1 c2 bB hB0 ⊢
  clear hw hsz
  refine wp_region_tree (S := (fun W' => W'.cell? ⟨W.heap.size, 0, none⟩ = some (.int .i64 o.f) ∧ W'.cell? ⟨W.heap.size, 1, none⟩ = some (.bool o.h) ∧ W'.cell? ⟨W.heap.size, 2, none⟩ = some (.int .u64 (o.p : Nat)) ∧ Below W.heap.size W W' ∧ ∃ cs, Blk W' (W.heap.size + 1) 65 cs ∧ cs.size = 3)) (.take 0 (.take 1 (.take 2 (.take 3 (.take 4 (.take 5 (.one 6 (.take 7 (.one 8 .nil))))))))) 9999 (by kernel_rfl) (by kernel_rfl) (by kernel_rfl) (by kernel_rfl) (by kernel_rfl) (fun _ _ d _ _ h => by cases d <;> exact h) ?_ (fun hHeld => ?_); (focus (exact ⟨c0, c1, c2, hB0.drew, _, bB.drew, rfl⟩)); simp only [Tree.map, List.getElem?_toArray, List.getElem?_cons_zero, List.getElem?_cons_succ]
  (repeat (first | (refine wpTree.take (v := undef) (Or.inr ⟨by rfl, rfl⟩) ?_; simp only [Act.put, List.setIfInBounds_toArray, List.set_cons_zero, List.set_cons_succ]) | (refine wpTree.take (v := ?_) (Or.inl ⟨by rfl, ?_⟩) ?_; rotate_left; (focus (intro _ hS; (try dsimp only at hS); go_split_ands; (try subst hS); go_simp; (try (with_reducible rfl)); done)); simp only [Act.put, List.setIfInBounds_toArray, List.set_cons_zero, List.set_cons_succ])))
  refine wpTree.one (fun K hK => ?_)
  go_simp
  refine hK.out _ _ hHeld (fun _ => ?_)
  clear hK K
  refine wpTree.take (yields_buildM o.cells.toArray (by rfl) 65 [(0, _), (1, _), (2, _)] rfl (built_mk o)) ?_
  simp only [Act.put, List.setIfInBounds_toArray, List.set_cons_zero, List.set_cons_succ]
  obtain ⟨_, _, _, hbl, cs, bc, hcs⟩ := hHeld
  refine wpTree.one (fun K hK => ?_)
  refine step_store_blk (by rfl) 65 _ _ rfl (W.heap.size + 1) 65 cs o.cells.toArray rfl rfl bc (mkinfoA _) (hcs.trans (by rw [List.size_toArray, mk_len])) (mk_one _) ?_
  have hb2 := below_setRow hbl (show W.heap.size ≤ W.heap.size + 1 by omega) o.cells.toArray
  have hS3 := below_setRow (Below.refl (W.heap.size + 1) W1.drew) (Nat.le_refl _) o.cells.toArray
  have hc := fun i => hS3.cell (p := ⟨W.heap.size, i, none⟩) (Nat.lt_succ_self _)
  refine hK.out _ _ ⟨(hc 0).trans c0, (hc 1).trans c1, (hc 2).trans c2, hb2, _, bc.setRow _, by rw [List.size_toArray, mk_len]⟩ (fun _ => ?_)
  clear hK K
  refine wpTree.done ?_
  have hrow := bc.setRow o.cells.toArray
  clear hS3 hc c0 c1 c2 bB hB0 bc
  go_wp2_with fail
  exact bodyPost_row (t := 65) o.cells.toArray rfl rfl rfl Try.underlying65 rfl (mkinfoA _) hrow ⟨rfl, hb2⟩

/-- The document's marks in a row. -/
def RMks (w : World) (A : Option Addr) (l : List Mk) : Prop :=
  l = [] ∨ ∃ b o, A = some ⟨b, o, none⟩ ∧ b < w.heap.size ∧ ∀ i, (hi : i < l.length) → w.rangeAt b (o + i * 3) (l[i].rcells)
theorem RMks.next {w w' : World} {A : Option Addr} {l : List Mk} (h : RMks w A l) (hb : Below w.heap.size w w') : RMks w' A l := by
  refine h.imp id ?_
  rintro ⟨b, o, e, h1, h2⟩
  exact ⟨b, o, e, Nat.lt_of_lt_of_le h1 hb.size, fun i hi => mrange_next hb (h2 i hi)⟩
theorem Try.minfo65 : (Try.prog.info? 65).map (fun i => (i.zero, i.size, i.bytes)) = some (some (.agg #[.int .i64 0, .bool false, .float .f64 0]), 3, 24) := by kernel_rfl
/-- A row of marks that a call made. -/
def OwnM (w : World) (B : Nat) (v : Value) (n : Nat) (l : List Mk) : Prop := w.ownsRow B 65 3 v n (l.flatMap Mk.cells)
theorem OwnM.next {W W' : World} {B : Nat} {v : Value} {n : Nat} {l : List Mk} (h : OwnM W B v n l) (hb : Below W.heap.size W W') : OwnM W' B v n l := by
  obtain ⟨hl, h⟩ := h
  refine ⟨hl, h.imp id ?_⟩
  rintro ⟨g, cap, cur, e, hg, hh, r⟩
  refine ⟨g, cap, cur, e, hg, (hb.block g ?_).trans hh, r⟩
  rcases Nat.lt_or_ge g W.heap.size with h1 | h1
  · exact h1
  · rw [Array.getElem?_eq_none h1] at hh; cases hh
theorem flat_get : ∀ (l : List Mk) (i j : Nat) (v : Value) (hi : i < l.length), (l[i].cells)[j]? = some v → (l.flatMap Mk.cells)[i * 3 + j]? = some v
  | [], i, _, _, hi, _ => by simp at hi
  | m :: l, 0, j, v, _, h => by
    have hj : j < 3 := by have := (List.getElem?_eq_some_iff.1 h).1; rwa [List.getElem_cons_zero, mk_len] at this
    rw [List.flatMap_cons, List.getElem?_append_left (by rw [mk_len]; omega)]
    simpa using h
  | m :: l, i + 1, j, v, hi, h => by
    rw [List.flatMap_cons, List.getElem?_append_right (by rw [mk_len]; omega), mk_len]
    have := flat_get l i j v (by simpa using hi) (by simpa using h)
    rw [← this]
    congr 1
    omega
theorem OwnM.mks {w : World} {B n : Nat} {v : Value} {l : List Mk} (h : OwnM w B v n l) : ∃ A c, v = .slice A n c ∧ n ≤ c ∧ l.length = n ∧ Mks w A l := by
  have hl3 : l.length * 3 = n * 3 := by have := h.1; rwa [flat_len] at this
  have hln : l.length = n := by omega
  have hc := @World.ownsRow.cells w B 65 3 v n _ h
  obtain ⟨_, ⟨rfl, h0⟩ | ⟨k, cap, cur, rfl, hk, hh, hnc, _⟩⟩ := id h
  · exact ⟨none, 0, by rw [h0], by omega, hln, Or.inl (List.length_eq_zero_iff.1 (by omega))⟩
  · refine ⟨_, _, rfl, hnc, hln, Or.inr ⟨k, 0, rfl, ?_, fun i hi j u hu => ?_⟩⟩
    · rcases Nat.lt_or_ge k w.heap.size with h1 | h1
      · exact h1
      · rw [Array.getElem?_eq_none h1] at hh; cases hh
    · have := hc rfl (i * 3 + j) u (flat_get l i j u hi hu)
      have e : (⟨k, 0, none⟩ : Addr).add (i * 3 + j) = ⟨k, 0 + i * 3 + j, none⟩ := by unfold Addr.add; split <;> simp_all <;> omega
      rwa [e] at this
theorem flat_take (l : List Mk) (k : Nat) (h : k < l.length) : (l.take (k + 1)).flatMap Mk.cells = (l.take k).flatMap Mk.cells ++ l[k].cells := by
  rw [List.take_add_one, List.getElem?_eq_getElem h, List.flatMap_append]
  simp

set_option maxRecDepth 20000 in
set_option maxHeartbeats 8000000 in
theorem marks_any (A : Option Addr) (n c : Nat) (l : List Mk) (W : World) (hn : l.length = n) (hlen : n ≤ 1000) (h : RMks W A l) :
    Calls Try.prog 34 #[.slice A n c] W fun e W' => ∃ v, e = .returned v ∧ OwnM W' W.heap.size v n l ∧ Below W.heap.size W W' := by
  have HV := Lib.hid h
  have HN := Lib.hid hn
  obtain ⟨i0, hi, hz0, hz1, hz2⟩ := info_parts Try.minfo65
  clear h hn
  go_enter Try.func34, Try.ntmps34
  go_wp2_with fail
  go_loopw [3, 4] (fun v i wr => ∃ k : Nat, k ≤ n ∧ i = .int .i64 k ∧ OwnM wr W.heap.size v k (l.take k) ∧ Below W.heap.size W wr) (fun _ i _ => n - (intOf i).toNat)
  case atStart => exact ⟨0, Nat.zero_le _, rfl, by rw [List.take_zero]; exact World.ownsRow_nil _ _ _ _, Below.refl _ _⟩
  case round =>
    obtain ⟨k, hk, rfl, hown, hbl⟩ := hrel
    have HO := Lib.hid hown
    have HBL := Lib.hid hbl
    clear hown hbl
    by_cases hlt : k < n
    · have h1 : (k : Int) < (n : Nat) := by omega
      have hkl : k < l.length := by have := HN.out; omega
      obtain ⟨b, o, rfl, hbs, hcell⟩ := HV.out.resolve_left (by rintro rfl; simp at hkl)
      have hr := mrange_next (show Below W.heap.size W wr from HBL.out) (hcell k hkl)
      obtain ⟨m, hm⟩ : ∃ m, m = l[k] := ⟨_, rfl⟩
      rw [← hm] at hr
      have HJ := Lib.hid (flat_take l k hkl)
      rw [← hm] at HJ
      clear hm hcell hbs
      go_wp2_with (first | (refine wpList_load_midm (by rfl) 63 _ rfl _ _ rfl m.rcells _ hr Try.underlying63 rfl (rmkinfo _) ?_))
      refine (mof_any m wr).mono ?_
      rintro e w1 ⟨rfl, hb⟩
      have HO1 := Lib.hid (HO.out.next hb)
      have HB1 := Lib.hid (HBL.out.trans (hb.mono HBL.out.size))
      clear hb hr HO HBL
      go_wp2_with (first | (refine wpList_buildMks [m] 1 _ (by rfl) rfl rfl (by decide) (by decide) zmks_1 (by simp [mkParts]; rfl) ?_; rw [List.flatMap_cons, List.flatMap_nil, List.append_nil]) | (at_builtin; refine wpList_append_own _ rfl _ _ 71 rfl W.heap.size 65 i0 (.agg #[.int .i64 0, .bool false, .float .f64 0]) 3 24 Try.underlying71 hi hz0 hz1 hz2 rfl (by decide) _ _ _ rfl (HO1.out.alloc _) ⟨w1.heap.size, 0, none⟩ 1 1 m.cells rfl (by rw [mk_len]) ?c1 ?c2 ?c3 ?c4 ?c5 ?_))
      case c1 =>
        intro j u hj
        have e : (⟨w1.heap.size, 0, none⟩ : Addr).add j = ⟨w1.heap.size, j, none⟩ := by unfold Addr.add; split <;> simp_all
        rw [e, Blk.cell (Blk.new w1 65 m.cells.toArray)]
        simpa using hj
      case c2 => intro u hu; unfold Mk.cells at hu; simp at hu; rcases hu with rfl | rfl | rfl <;> rfl
      case c3 => unfold maxLen; omega
      case c4 => omega
      case c5 => have := HB1.out.size; simp; omega
      intro v5 w5 hown5 hgrow5 _
      have HO5 := Lib.hid (show OwnM w5 W.heap.size v5 (k + 1) (l.take (k + 1)) from by unfold OwnM; rw [HJ.out]; exact hown5)
      have HB5 := Lib.hid (show Below W.heap.size W w5 from (Below.alloc HB1.out HB1.out.size _).grown hgrow5 (by have := HB1.out.size; simp; omega) (fun b hb => by have := (HO1.out.lt b hb).1; omega))
      clear hown5 hgrow5 HO1 HB1
      go_wp2_with fail
      go_roundw
      case rel => exact ⟨k + 1, by omega, by go_num, HO5.out, HB5.out⟩
      case measure => simp [intOf]; omega
    · obtain rfl : k = n := by omega
      have hq : l.take k = l := by rw [← HN.out, List.take_length]
      rw [hq] at HO
      clear hlt hq
      go_wp2_with fail
      go_ret
      exact ⟨_, rfl, HO.out, HBL.out⟩
end Go.Proofs.Ytlejnjgepnjceaa
