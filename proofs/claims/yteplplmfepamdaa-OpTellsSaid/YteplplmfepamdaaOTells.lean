/-
OpTells holds: which ops and events may be, their bytes, which two are equal, and the event of any bytes, is told. No condition.
-/
import Derived.Test.YteplplmfepamdaaORef6
import Derived.Test.YteplplmfepamdaaOBack
import Derived.Test.YteplplmfepamdaaInv
import Derived.Deep.CutRange
namespace Go.Proofs.Yteplplmfepamdaa
open Go.ChangeShapes Go.WideShapes Go.ChangeAt Go.RowKit
set_option linter.unusedSimpArgs false
set_option linter.unusedVariables false
attribute [local go_sem] Tot.run_store_float
theorem zE_item : zE.item.toArray = #[.int .u64 0, .int .i64 0, .int .u32 0, .int .i64 0, .int .i64 0, .int .u32 0, .int .u32 0, .int .u32 0, .int .u32 0, .int .u32 0, .int .u32 0, .int .u32 0, .int .u32 0, .int .u32 0, .int .u32 0, .int .u32 0, .int .u32 0, .int .i64 0, .int .i64 0, .int .i64 0, .int .u64 0] := by
  have h : zL.cells = zLabL := by
    have := congrArg Array.toList zL_cells
    simpa [zLabL] using this
  rw [item_def]
  unfold zE
  dsimp only
  rw [h, show OpR.mk 0 0 0 0 = zOpR from rfl, zOpR_plain]
  rfl
theorem read6_one (A : Option Addr) (cp : Nat) (bs : List Nat) (hlen : bs.length ≤ 140737488355328) (hnc : bs.length ≤ cp) (hby : ∀ x ∈ bs, x < 256) :
    ∃ (z : Ev) (ok : Bool) (f : Int), (∀ W, ByR W A bs → Calls Try.prog 8 #[.slice A bs.length cp] W fun e W' => e = .returned (.tuple #[.agg z.cells.toArray, .int .i64 f]) ∧ Below W.heap.size W W') ∧
      (∀ W, ByR W A bs → Calls Try.prog 9 #[.slice A bs.length cp] W fun e W' => e = .returned (.tuple #[.agg z.item.toArray, .bool ok]) ∧ Below W.heap.size W W') ∧ ((ok = true ∧ f = 0) ∨ (ok = false ∧ f = 3)) := by
  by_cases h : ∃ m, evP bs = .ok (m, [])
  · obtain ⟨m, hm⟩ := h
    refine ⟨m, true, 0, fun W hW => evread_yes A bs.length cp W bs rfl hnc hby hW m hm, fun W hW => (refread6_any A cp bs hlen hnc hby W hW).mono ?_, Or.inl ⟨rfl, rfl⟩⟩
    rintro e W' ⟨v, ok, rfl, hb, h | h⟩
    · obtain ⟨rfl, x, hx, rfl⟩ := h
      rw [hm] at hx
      cases hx
      exact ⟨rfl, hb⟩
    · exact absurd hm (h.2.1 m)
  · have hn : ∀ m, evP bs ≠ .ok (m, []) := fun m hm => h ⟨m, hm⟩
    refine ⟨zE, false, 3, fun W hW => ?_, fun W hW => (refread6_any A cp bs hlen hnc hby W hW).mono ?_, Or.inr ⟨rfl, rfl⟩⟩
    · rw [zE_cells]
      exact evread_no A bs.length cp W bs rfl hnc hby hW hn
    · rintro e W' ⟨v, ok, rfl, hb, h | h⟩
      · obtain ⟨rfl, x, hx, rfl⟩ := h
        exact absurd hx (hn x)
      · obtain ⟨rfl, _, rfl⟩ := h
        exact ⟨by rw [zE_item], hb⟩
/-- What was written of an event. -/
def WrE (x : Ev) (w : World) (A : Option Addr) (c m : Nat) (f : Int) : Prop :=
  (rightE x = true ∧ f = 0 ∧ m = (encE x).length ∧ m ≤ c ∧ ByR w A (encE x) ∧ (A = none → encE x = [])) ∨ (rightE x = false ∧ f = 3 ∧ m = 0)
theorem WrE.next {x : Ev} {w w' : World} {A : Option Addr} {c m : Nat} {f : Int} (h : WrE x w A c m f) (hb : Below w.heap.size w w') : WrE x w' A c m f := by
  rcases h with ⟨h1, h2, h3, h4, h5, h6⟩ | h
  · exact Or.inl ⟨h1, h2, h3, h4, h5.next hb, h6⟩
  · exact Or.inr h
theorem write6_one (x : Ev) (hx : x.Ok) (W : World) : Calls Try.prog 6 #[.agg x.cells.toArray] W fun e W' => ∃ A m c f, e = .returned (.tuple #[.slice A m c, .int .i64 f]) ∧ Below W.heap.size W W' ∧ WrE x W' A c m f := by
  cases hr : rightE x with
  | true =>
    refine (evwrite_yes x W hr hx.l.f hx.o.p).mono ?_
    rintro e W' ⟨v, rfl, hown, hb⟩
    obtain ⟨A, c, rfl, hc, hA, hA0⟩ := own_byr hown
    exact ⟨A, _, c, 0, rfl, hb, Or.inl ⟨hr, rfl, rfl, hc, hA, hA0⟩⟩
  | false =>
    refine (evwrite_no x W hr).mono ?_
    rintro e W' ⟨rfl, hb⟩
    exact ⟨none, 0, 0, 3, rfl, hb, Or.inr ⟨hr, rfl, rfl⟩⟩
theorem event_new {t : TypeId} {w : World} (cs old : Array Value) : Below w.heap.size w ((w.alloc (.cells old t)).setRow w.heap.size cs) := below_setRow ((Below.refl _ _).alloc (Nat.le_refl _) _) (Nat.le_refl _) _
set_option maxRecDepth 20000 in
set_option maxHeartbeats 32000000 in
theorem optells_walk (x y : Ev) (hx : x.Ok) (hy : y.Ok) (As : Option Addr) (cs : Nat) (sb : List Nat) (W : World) (hnc : sb.length ≤ cs) (hb256 : ∀ z ∈ sb, z < 256) (hby : ByR W As sb) :
    Calls Try.prog 3 #[.agg x.item.toArray, .agg y.item.toArray, .slice As sb.length cs] W fun e W' => e = .returned (.bool true) ∧ Below W.heap.size W W' := by
  have HC := Lib.hid hnc
  have HBY := Lib.hid hb256
  have HXO := Lib.hid hx
  have HYO := Lib.hid hy
  have hsz : (W.alloc (.cells x.item.toArray 31)).heap.size = W.heap.size + 1 := by simp
  have bA := (Blk.new W 31 x.item.toArray).alloc (.cells y.item.toArray 31)
  have bB := Blk.new (W.alloc (.cells x.item.toArray 31)) 31 y.item.toArray
  rw [hsz] at bB
  have hB0 := ((Below.refl W.heap.size W).alloc (Nat.le_refl _) (.cells x.item.toArray 31)).alloc (by rw [hsz]; omega) (.cells y.item.toArray 31)
  have hS0 := hby.next hB0
  clear hnc hb256 hx hy hsz hby
  go_enter Try.func3, Try.ntmps3
  go_upto_region 1 with fail
  obtain ⟨w0, hw0⟩ : ∃ w0, w0 = (W.alloc (.cells x.item.toArray 31)).alloc (.cells y.item.toArray 31) := ⟨_, rfl⟩
  rw [← hw0] at bA bB hB0 hS0 ⊢
  have HB := Lib.hid hB0
  have HA1 := Lib.hid bA
  have HA2 := Lib.hid bB
  have HSB := Lib.hid hS0
  clear hw0 bA bB hB0 hS0
  by_cases hbig : 300 < sb.length
  · have h1 : (300 : Int) < (sb.length : Nat) := by omega
    clear hbig
    go_wp2_with fail
    refine (alive6_any w0).mono ?_
    rintro e w1 ⟨rfl, hb⟩
    have HB1 := Lib.hid (HB.out.trans (hb.mono HB.out.size))
    clear hb
    go_wp2_with fail
    go_ret
    exact ⟨rfl, HB1.out⟩
  have h1 : ¬ (300 : Int) < (sb.length : Nat) := by omega
  obtain ⟨z, ok, f, hrd, hrr, hok⟩ := read6_one As cs sb (by omega) HC.out HBY.out
  have HRD := Lib.hid hrd
  have HRR := Lib.hid hrr
  have HOK := Lib.hid hok
  clear hrd hrr hok hbig
  go_upto_region 3 with fail
  clear h1
  have rx0 := HA1.out.range
  have ry0 := HA2.out.range
  go_cut [7, 8] from 20 to 23 (fun p1 p2 wx => ∃ g1 g2 : Nat, p1 = .pointer (some ⟨g1, 0, none⟩) ∧ p2 = .pointer (some ⟨g2, 0, none⟩) ∧ Blk wx g1 37 x.item.toArray ∧ Blk wx g2 37 y.item.toArray ∧ Below w0.heap.size w0 wx)
  case first =>
    refine wp_region_inv (S := (fun w => Below w0.heap.size w0 w)) [0, 2] [1, 3, 4, 5, 6, 7] (by kernel_rfl) (by kernel_rfl) (by kernel_rfl) (by kernel_rfl) (by kernel_rfl) (fun _ _ d _ _ h => by cases d <;> exact h) ?_ (fun hHeld => ?_); (focus (exact (Below.refl _ _).drew)); simp only [takeTree, Tree.map, List.getElem?_toArray, List.getElem?_cons_zero, List.getElem?_cons_succ]
    refine wpTree.take (v := .agg (Ev.item x).toArray) (yieldsIf_load_mid rfl 31 _ rfl _ _ rfl (Ev.item _) _ (fun _ hS => range_next hS rx0) Try.underlying31 rfl (iinfo _)) ?_
    simp only [Act.put, List.setIfInBounds_toArray, List.set_cons_zero, List.set_cons_succ]
    refine wpTree.take (v := .agg (Ev.item y).toArray) (yieldsIf_load_mid rfl 31 _ rfl _ _ rfl (Ev.item _) _ (fun _ hS => range_next hS ry0) Try.underlying31 rfl (iinfo _)) ?_
    simp only [Act.put, List.setIfInBounds_toArray, List.set_cons_zero, List.set_cons_succ]
    refine wpTree.done ?_
    refine InvRest.of [(some 21, 1), (some 23, 3), (some 7, 4), (some 8, 5), (none, 6), (none, 7)] (fun d v w => Below w0.heap.size w0 w ∧ (d 1 = true → v 1 = .agg x.item.toArray) ∧ (d 3 = true → v 3 = .agg y.item.toArray) ∧ (d 4 = true → Box w0.heap.size w (v 4) 37 (if d 6 then x.item.toArray else #[.int .u64 0, .int .i64 0, .int .u32 0, .int .i64 0, .int .i64 0, .int .u32 0, .int .u32 0, .int .u32 0, .int .u32 0, .int .u32 0, .int .u32 0, .int .u32 0, .int .u32 0, .int .u32 0, .int .u32 0, .int .u32 0, .int .u32 0, .int .i64 0, .int .i64 0, .int .i64 0, .int .u64 0])) ∧ (d 5 = true → Box w0.heap.size w (v 5) 37 (if d 7 then y.item.toArray else #[.int .u64 0, .int .i64 0, .int .u32 0, .int .i64 0, .int .i64 0, .int .u32 0, .int .u32 0, .int .u32 0, .int .u32 0, .int .u32 0, .int .u32 0, .int .u32 0, .int .u32 0, .int .u32 0, .int .u32 0, .int .u32 0, .int .u32 0, .int .i64 0, .int .i64 0, .int .i64 0, .int .u64 0])) ∧ (d 4 = true → d 5 = true → v 4 ≠ v 5) ∧ (d 6 = true → d 4 = true) ∧ (d 7 = true → d 5 = true)) (by rfl) (by rfl) ?_ ?_ ?_ ?_
    · rintro d v w ⟨h, _⟩; exact h
    · intro v; exact ⟨(Below.refl _ _).drew, fun h => (by cases h), fun h => (by cases h), fun h => (by cases h), fun h => (by cases h), fun h => (by cases h), fun h => (by cases h), fun h => (by cases h)⟩
    · simp only [FKeepsAll, FKeeps1, List.getElem?_toArray, List.getElem?_cons_zero, List.getElem?_cons_succ]
      refine ⟨?op1, ?op3, ?op4, ?op5, ?op6, ?op7, trivial⟩
      case op4 =>
        rintro d v w hd hdep hF0 K hK; simp only [List.all_toArray, Array.all_toList, List.all_cons, List.all_nil, Region.binds, Bool.not_true, Bool.false_or, Bool.and_true, Bool.and_eq_true] at hdep; simp only [fillT, look, Nat.reduceEqDiff, Nat.reduceAdd, ite_true, ite_false] at hK ⊢; have HD := Lib.hid hdep; have HF := Lib.hid hF0; clear hdep hF0
        go_simp
        obtain ⟨hB, f1, f3, f4, f5, f45, f6, f7⟩ := HF.out
        have h6 := off_of f6 (nt hd)
        refine hK.out _ _ ?_
        simp only [upd, Nat.reduceEqDiff, ite_true, ite_false, Nat.reduceBEq, Bool.or_false, beq_self_eq_true, Bool.or_true, true_implies, forall_const]
        exact ⟨hB.alloc hB.size _, f1, f3, by rw [h6]; exact Box.new hB.size _ _, fun h => (f5 h).alloc _, fun h5 => (f5 h5).ne.symm, fun _ => trivial, f7⟩
      case op5 =>
        rintro d v w hd hdep hF0 K hK; simp only [List.all_toArray, Array.all_toList, List.all_cons, List.all_nil, Region.binds, Bool.not_true, Bool.false_or, Bool.and_true, Bool.and_eq_true] at hdep; simp only [fillT, look, Nat.reduceEqDiff, Nat.reduceAdd, ite_true, ite_false] at hK ⊢; have HD := Lib.hid hdep; have HF := Lib.hid hF0; clear hdep hF0
        go_simp
        obtain ⟨hB, f1, f3, f4, f5, f45, f6, f7⟩ := HF.out
        have h7 := off_of f7 (nt hd)
        refine hK.out _ _ ?_
        simp only [upd, Nat.reduceEqDiff, ite_true, ite_false, Nat.reduceBEq, Bool.or_false, beq_self_eq_true, Bool.or_true, true_implies, forall_const]
        exact ⟨hB.alloc hB.size _, f1, f3, fun h => (f4 h).alloc _, by rw [h7]; exact Box.new hB.size _ _, fun h4 => (f4 h4).ne, f6, fun _ => trivial⟩
      case op1 =>
        rintro d v w hd hdep hF0 K hK; simp only [List.all_toArray, Array.all_toList, List.all_cons, List.all_nil, Region.binds, Bool.not_true, Bool.false_or, Bool.and_true, Bool.and_eq_true] at hdep; simp only [fillT, look, Nat.reduceEqDiff, Nat.reduceAdd, ite_true, ite_false] at hK ⊢; have HD := Lib.hid hdep; have HF := Lib.hid hF0; clear hdep hF0
        go_simp
        go_at_call 5
        refine (as6_any x _).mono ?_
        rintro e w' ⟨rfl, hb⟩
        obtain ⟨hB, f1, f3, f4, f5, f45, f6, f7⟩ := HF.out
        refine hK.out _ _ ?_
        simp only [upd, Nat.reduceEqDiff, ite_true, ite_false, Nat.reduceBEq, Bool.or_false, beq_self_eq_true, Bool.or_true, true_implies, forall_const]
        exact ⟨hB.trans (hb.mono hB.size), trivial, f3, fun h => (f4 h).next hb, fun h => (f5 h).next hb, f45, f6, f7⟩
      case op3 =>
        rintro d v w hd hdep hF0 K hK; simp only [List.all_toArray, Array.all_toList, List.all_cons, List.all_nil, Region.binds, Bool.not_true, Bool.false_or, Bool.and_true, Bool.and_eq_true] at hdep; simp only [fillT, look, Nat.reduceEqDiff, Nat.reduceAdd, ite_true, ite_false] at hK ⊢; have HD := Lib.hid hdep; have HF := Lib.hid hF0; clear hdep hF0
        go_simp
        go_at_call 5
        refine (as6_any y _).mono ?_
        rintro e w' ⟨rfl, hb⟩
        obtain ⟨hB, f1, f3, f4, f5, f45, f6, f7⟩ := HF.out
        refine hK.out _ _ ?_
        simp only [upd, Nat.reduceEqDiff, ite_true, ite_false, Nat.reduceBEq, Bool.or_false, beq_self_eq_true, Bool.or_true, true_implies, forall_const]
        exact ⟨hB.trans (hb.mono hB.size), f1, trivial, fun h => (f4 h).next hb, fun h => (f5 h).next hb, f45, f6, f7⟩
      case op6 =>
        rintro d v w hd hdep hF0 K hK; simp only [List.all_toArray, Array.all_toList, List.all_cons, List.all_nil, Region.binds, Bool.not_true, Bool.false_or, Bool.and_true, Bool.and_eq_true] at hdep; simp only [fillT, look, Nat.reduceEqDiff, Nat.reduceAdd, ite_true, ite_false] at hK ⊢; have HD := Lib.hid hdep; have HF := Lib.hid hF0; clear hdep hF0
        obtain ⟨hB, f1, f3, f4, f5, f45, f6, f7⟩ := HF.out
        have d1 := HD.out.2.1
        have d4 := HD.out.1
        obtain ⟨g, e4, hl, hg⟩ := f4 d4
        rw [hd] at hg
        refine step_store_blk (a := ⟨_, _⟩) (by rfl) 37 _ _ rfl g 37 _ x.item.toArray (by exact e4) (by exact f1 d1) hg (einfoA6 _) (item_siz _) (item_one _) ?_
        refine hK.out undef _ ?_
        simp only [upd, Nat.reduceEqDiff, ite_true, ite_false, Nat.reduceBEq, Bool.or_false, beq_self_eq_true, Bool.or_true, true_implies, forall_const]
        exact ⟨below_setRow hB hl _, f1, f3, fun h => ⟨g, e4, hl, hg.setRow _⟩, fun h => (f5 h).other (fun e => f45 d4 h (e4.trans e.symm)) _, f45, d4, f7⟩
      case op7 =>
        rintro d v w hd hdep hF0 K hK; simp only [List.all_toArray, Array.all_toList, List.all_cons, List.all_nil, Region.binds, Bool.not_true, Bool.false_or, Bool.and_true, Bool.and_eq_true] at hdep; simp only [fillT, look, Nat.reduceEqDiff, Nat.reduceAdd, ite_true, ite_false] at hK ⊢; have HD := Lib.hid hdep; have HF := Lib.hid hF0; clear hdep hF0
        obtain ⟨hB, f1, f3, f4, f5, f45, f6, f7⟩ := HF.out
        have d3 := HD.out.2.1
        have d5 := HD.out.1
        obtain ⟨g, e5, hl, hg⟩ := f5 d5
        rw [hd] at hg
        refine step_store_blk (a := ⟨_, _⟩) (by rfl) 37 _ _ rfl g 37 _ y.item.toArray (by exact e5) (by exact f3 d3) hg (einfoA6 _) (item_siz _) (item_one _) ?_
        refine hK.out undef _ ?_
        simp only [upd, Nat.reduceEqDiff, ite_true, ite_false, Nat.reduceBEq, Bool.or_false, beq_self_eq_true, Bool.or_true, true_implies, forall_const]
        exact ⟨below_setRow hB hl _, f1, f3, fun h => (f4 h).other (fun e => f45 h d5 (e.trans e5.symm)) _, fun h => ⟨g, e5, hl, hg.setRow _⟩, f45, f6, d5⟩
    · skip
      rintro d v w hd ⟨hB, f1, f3, f4, f5, f45, f6, f7⟩
      obtain ⟨g1, e4, hl1, hg1⟩ := f4 (hd 4)
      obtain ⟨g2, e5, hl2, hg2⟩ := f5 (hd 5)
      rw [hd 6] at hg1
      rw [hd 7] at hg2
      simp only [fillT, look, Nat.reduceEqDiff, Nat.reduceAdd, ite_true, ite_false, e4, e5, f1 (hd 1), f3 (hd 3)]
      go_wp2_with fail
      go_meet
      exact ⟨g1, g2, rfl, rfl, hg1, hg2, hB⟩
  case rest =>
    obtain ⟨g1, g2, rfl, rfl, j1, j2, j3⟩ := hcut
    rename World => w1
    have HX1 := Lib.hid j1
    have HY1 := Lib.hid j2
    clear j1 j2 rx0 ry0
    replace HA1 := Lib.hid (HA1.out.next j3)
    replace HA2 := Lib.hid (HA2.out.next j3)
    replace HSB := Lib.hid (HSB.out.next j3)
    replace HB := Lib.hid (HB.out.trans (j3.mono HB.out.size))
    clear j3
    have rx := HA1.out.range
    go_wp2_with (first | (refine wpList_load_midg (by rfl) 31 _ rfl _ _ rfl (Ev.item x) _ rx Try.underlying31 rfl (iinfo _) ?_))
    refine (itemevent_any x _).mono ?_
    rintro e w2 ⟨rfl, hb⟩
    clear rx
    replace HA1 := Lib.hid (HA1.out.next hb)
    replace HA2 := Lib.hid (HA2.out.next hb)
    replace HSB := Lib.hid (HSB.out.next hb)
    replace HX1 := Lib.hid (HX1.out.next hb)
    replace HY1 := Lib.hid (HY1.out.next hb)
    replace HB := Lib.hid (HB.out.trans (hb.mono HB.out.size))
    clear hb
    go_wp2_with fail
    refine (write6_one x HXO.out w2).mono ?_
    rintro e w3 ⟨A3, m3, c3, f3, rfl, hb, hw⟩
    replace HA1 := Lib.hid (HA1.out.next hb)
    replace HA2 := Lib.hid (HA2.out.next hb)
    replace HSB := Lib.hid (HSB.out.next hb)
    replace HX1 := Lib.hid (HX1.out.next hb)
    replace HY1 := Lib.hid (HY1.out.next hb)
    replace HB := Lib.hid (HB.out.trans (hb.mono HB.out.size))
    clear hb
    have HW := Lib.hid hw
    clear hw
    go_wp2_with fail
    refine (HRD.out _ HSB.out).mono ?_
    rintro e w4 ⟨rfl, hb⟩
    replace HA1 := Lib.hid (HA1.out.next hb)
    replace HA2 := Lib.hid (HA2.out.next hb)
    replace HSB := Lib.hid (HSB.out.next hb)
    replace HX1 := Lib.hid (HX1.out.next hb)
    replace HY1 := Lib.hid (HY1.out.next hb)
    replace HW := Lib.hid (HW.out.next hb)
    replace HB := Lib.hid (HB.out.trans (hb.mono HB.out.size))
    clear hb
    go_wp2_with (first | (refine wpList_store_blk rfl 46 _ _ rfl (w4).heap.size 46 #[.int .u64 0, .int .i64 0, .int .u32 0, .int .i64 0, .int .i64 0, .int .u32 0, .int .u32 0, .int .u32 0, .int .u32 0, .int .u32 0, .int .u32 0, .int .u32 0, .int .u32 0, .int .u32 0, .int .u32 0, .int .u32 0, .int .u32 0, .int .i64 0, .int .i64 0, .int .i64 0, .float .f64 0] z.cells.toArray rfl rfl (Blk.new' rfl) (einfoA _) (ev_siz _) (ev_one _) ?_; intro hy; have hbn : Below (w4).heap.size w4 (((w4).alloc (.cells #[.int .u64 0, .int .i64 0, .int .u32 0, .int .i64 0, .int .i64 0, .int .u32 0, .int .u32 0, .int .u32 0, .int .u32 0, .int .u32 0, .int .u32 0, .int .u32 0, .int .u32 0, .int .u32 0, .int .u32 0, .int .u32 0, .int .u32 0, .int .i64 0, .int .i64 0, .int .i64 0, .float .f64 0] 46)).setRow (w4).heap.size z.cells.toArray) := event_new _ _; obtain ⟨w5, hnw⟩ : ∃ w5, w5 = (((w4).alloc (.cells #[.int .u64 0, .int .i64 0, .int .u32 0, .int .i64 0, .int .i64 0, .int .u32 0, .int .u32 0, .int .u32 0, .int .u32 0, .int .u32 0, .int .u32 0, .int .u32 0, .int .u32 0, .int .u32 0, .int .u32 0, .int .u32 0, .int .u32 0, .int .i64 0, .int .i64 0, .int .i64 0, .float .f64 0] 46)).setRow (w4).heap.size z.cells.toArray) := ⟨_, rfl⟩; rw [← hnw] at hbn hy ⊢; clear hnw))
    have HZ := Lib.hid hy
    clear hy
    replace HA1 := Lib.hid (HA1.out.next hbn)
    replace HA2 := Lib.hid (HA2.out.next hbn)
    replace HSB := Lib.hid (HSB.out.next hbn)
    replace HX1 := Lib.hid (HX1.out.next hbn)
    replace HY1 := Lib.hid (HY1.out.next hbn)
    replace HW := Lib.hid (HW.out.next hbn)
    replace HB := Lib.hid (HB.out.trans (hbn.mono HB.out.size))
    clear hbn
    refine (HRR.out _ HSB.out).mono ?_
    rintro e w6 ⟨rfl, hb⟩
    replace HA1 := Lib.hid (HA1.out.next hb)
    replace HA2 := Lib.hid (HA2.out.next hb)
    replace HSB := Lib.hid (HSB.out.next hb)
    replace HX1 := Lib.hid (HX1.out.next hb)
    replace HY1 := Lib.hid (HY1.out.next hb)
    replace HW := Lib.hid (HW.out.next hb)
    replace HZ := Lib.hid (HZ.out.next hb)
    replace HB := Lib.hid (HB.out.trans (hb.mono HB.out.size))
    clear hb
    have rp := (item_all HA1.out).2.2
    go_wp2_with (first | (refine wpList_store_blk rfl 37 _ _ rfl (w6).heap.size 37 #[.int .u64 0, .int .i64 0, .int .u32 0, .int .i64 0, .int .i64 0, .int .u32 0, .int .u32 0, .int .u32 0, .int .u32 0, .int .u32 0, .int .u32 0, .int .u32 0, .int .u32 0, .int .u32 0, .int .u32 0, .int .u32 0, .int .u32 0, .int .i64 0, .int .i64 0, .int .i64 0, .int .u64 0] z.item.toArray rfl rfl (Blk.new' rfl) (einfoA6 _) (item_siz _) (item_one _) ?_; intro hy; have hbn : Below (w6).heap.size w6 (((w6).alloc (.cells #[.int .u64 0, .int .i64 0, .int .u32 0, .int .i64 0, .int .i64 0, .int .u32 0, .int .u32 0, .int .u32 0, .int .u32 0, .int .u32 0, .int .u32 0, .int .u32 0, .int .u32 0, .int .u32 0, .int .u32 0, .int .u32 0, .int .u32 0, .int .i64 0, .int .i64 0, .int .i64 0, .int .u64 0] 37)).setRow (w6).heap.size z.item.toArray) := event_new _ _; obtain ⟨w7, hnw⟩ : ∃ w7, w7 = (((w6).alloc (.cells #[.int .u64 0, .int .i64 0, .int .u32 0, .int .i64 0, .int .i64 0, .int .u32 0, .int .u32 0, .int .u32 0, .int .u32 0, .int .u32 0, .int .u32 0, .int .u32 0, .int .u32 0, .int .u32 0, .int .u32 0, .int .u32 0, .int .u32 0, .int .i64 0, .int .i64 0, .int .i64 0, .int .u64 0] 37)).setRow (w6).heap.size z.item.toArray) := ⟨_, rfl⟩; rw [← hnw] at hbn hy ⊢; clear hnw; replace rp := range_next hbn rp) | (refine wpList_load_midg (by rfl) 29 _ rfl _ _ rfl (OpR.plain x.o) _ rp Try.underlying29 rfl (pinfoL _) ?_))
    have HZR := Lib.hid hy
    clear hy rp
    replace HA1 := Lib.hid (HA1.out.next hbn)
    replace HA2 := Lib.hid (HA2.out.next hbn)
    replace HSB := Lib.hid (HSB.out.next hbn)
    replace HX1 := Lib.hid (HX1.out.next hbn)
    replace HY1 := Lib.hid (HY1.out.next hbn)
    replace HW := Lib.hid (HW.out.next hbn)
    replace HZ := Lib.hid (HZ.out.next hbn)
    replace HB := Lib.hid (HB.out.trans (hbn.mono HB.out.size))
    clear hbn
    refine (plainop_any x.o _).mono ?_
    rintro e w7b ⟨rfl, hb⟩
    replace HA1 := Lib.hid (HA1.out.next hb)
    replace HA2 := Lib.hid (HA2.out.next hb)
    replace HSB := Lib.hid (HSB.out.next hb)
    replace HX1 := Lib.hid (HX1.out.next hb)
    replace HY1 := Lib.hid (HY1.out.next hb)
    replace HW := Lib.hid (HW.out.next hb)
    replace HZ := Lib.hid (HZ.out.next hb)
    replace HZR := Lib.hid (HZR.out.next hb)
    replace HB := Lib.hid (HB.out.trans (hb.mono HB.out.size))
    clear hb
    go_upto_region 8 with (first | (refine wpList_store_blk rfl 44 _ _ rfl (w7b).heap.size 44 #[.int .i64 0, .int .i64 0, .int .i64 0, .float .f64 0] x.o.cells.toArray rfl rfl (Blk.new' rfl) (oinfoA _) (op_siz _) (op_one _) ?_; intro hy; have hbn : Below (w7b).heap.size w7b (((w7b).alloc (.cells #[.int .i64 0, .int .i64 0, .int .i64 0, .float .f64 0] 44)).setRow (w7b).heap.size x.o.cells.toArray) := event_new _ _; obtain ⟨w8, hnw⟩ : ∃ w8, w8 = (((w7b).alloc (.cells #[.int .i64 0, .int .i64 0, .int .i64 0, .float .f64 0] 44)).setRow (w7b).heap.size x.o.cells.toArray) := ⟨_, rfl⟩; rw [← hnw] at hbn hy ⊢; clear hnw))
    have HO := Lib.hid hy
    clear hy
    replace HA1 := Lib.hid (HA1.out.next hbn)
    replace HA2 := Lib.hid (HA2.out.next hbn)
    replace HSB := Lib.hid (HSB.out.next hbn)
    replace HX1 := Lib.hid (HX1.out.next hbn)
    replace HY1 := Lib.hid (HY1.out.next hbn)
    replace HW := Lib.hid (HW.out.next hbn)
    replace HZ := Lib.hid (HZ.out.next hbn)
    replace HZR := Lib.hid (HZR.out.next hbn)
    replace HB := Lib.hid (HB.out.trans (hbn.mono HB.out.size))
    clear hbn
    (try simp only [Act.put, List.setIfInBounds_toArray, List.set_cons_zero, List.set_cons_succ])
    go_cut [101] from 43 to 101 (fun v wx => v = .bool false ∧ Below w8.heap.size w8 wx)
    case first =>
      have ro := HO.out.range
      have rx := HA1.out.range
      have ry := HA2.out.range
      obtain ⟨rxr, _, rp, _⟩ := item_cells HX1.out
      have ryr := HY1.out.range
      have rz := HZ.out.range
      have rzr := HZR.out.range
      have ck : w8.drew.cell? ⟨g1, 17, none⟩ = some (.int .i64 x.o.k) := rp 0 _ plain_0
      have HSAM := Lib.hid (fun w => esame_any x w y)
      have heq := fun w => eq_rev x y w
      have heq2 := fun w => eq_rev z z w
      rw [sameE_self] at heq2
      obtain ⟨SE, hSE⟩ : ∃ SE, SE = sameE x y := ⟨_, rfl⟩
      simp only [← hSE] at HSAM heq
      have HERI := Lib.hid (fun w => eright_any x w)
      have HRRI := Lib.hid (fun w => rright6_any x HXO.out.l.f HXO.out.l.n w)
      obtain ⟨RE, hRE⟩ : ∃ RE, RE = rightE x := ⟨_, rfl⟩
      simp only [← hRE] at HERI HRRI
      have HMAY := Lib.hid (fun w => may_any x.o w)
      have HRMAY := Lib.hid (fun w => rmay6_any x.o w)
      have HCUS := Lib.hid (fun w => customers_any x.o w)
      simp only [rmayB_eq] at HRMAY
      have HKR := Lib.hid (show mayO x.o = true → custO x.o = decide (x.o.k < 5) from fun hm => by
        obtain ⟨k, _, e, h1, h2, _⟩ := may_facts hm
        unfold custO withinB
        rw [hm, Bool.true_and, e]
        rw [Bool.eq_iff_iff]
        simp only [Bool.and_eq_true, decide_eq_true_eq]
        omega)
      have HKF := Lib.hid (show mayO x.o = false → custO x.o = false from fun hm => by unfold custO; rw [hm, Bool.false_and])
      clear hSE hRE
      cases hmm : mayO x.o with
      | true =>
        have hcu := HKR.out hmm
        simp only [hmm] at HMAY HRMAY
        simp only [hcu] at HCUS
        clear hmm hcu HKR HKF
        obtain ⟨KB, hKB⟩ : ∃ KB, KB = decide (x.o.k < 5) := ⟨_, rfl⟩
        simp only [← hKB] at HCUS
        have hk5 : decide (x.o.k < 5) = KB := hKB.symm
        clear hKB
        rcases HOK.out with ⟨rfl, rfl⟩ | ⟨rfl, rfl⟩
        · skip
          refine wp_region_tree (S := (fun w => Below w8.heap.size w8 w ∧ w.cell? ⟨g1, 17, none⟩ = some (.int .i64 x.o.k))) (.take 0 (.take 2 (.take 3 (.one 1 (.one 4 (.take 5 (.take 6 (.take 7 (.take 9 (.take 10 (.one 8 (.one 11 (.take 12 (.take 13 (.take 14 (.take 15 (.take 16 (.take 17 (.take 18 (.take 19 (.take 20 (.take 21 (.take 24 (.one 22 (.one 23 (.one 25 (.take 26 (.take 27 (.take 28 (.take 29 (.take 31 (.take 34 (.take 35 (.take 36 (.one 30 (.one 32 (.one 33 (.take 37 (.take 38 (.take 39 (.take 40 (.take 42 (.one 41 (.take 43 (.take 44 (.take 45 (.take 46 (.take 47 (.take 48 (.take 49 (.take 50 (.take 51 (.take 52 (.take 53 (.take 54 (.take 55 (.take 56 (.take 57 (.take 58 .nil))))))))))))))))))))))))))))))))))))))))))))))))))))))))))) 9999 (by kernel_rfl) (by kernel_rfl) (by kernel_rfl) (by kernel_rfl) (by kernel_rfl) (fun _ _ d _ _ h => by cases d <;> exact h) ?_ (fun hHeld => ?_); (focus (exact ⟨(Below.refl _ _).drew, ck⟩)); simp only [Tree.map, List.getElem?_toArray, List.getElem?_cons_zero, List.getElem?_cons_succ]
          (repeat (first | (refine wpTree.take (v := undef) (Or.inr ⟨by rfl, rfl⟩) ?_; simp only [Act.put, List.setIfInBounds_toArray, List.set_cons_zero, List.set_cons_succ]) | (refine wpTree.take (v := .agg (OpR.cells x.o).toArray) (yieldsIf_load_mid rfl 44 _ rfl _ _ rfl (OpR.cells x.o) _ ?_ Try.underlying44 rfl (oinfo _)) ?_; (focus (intro _ hS; refine range_next hS.1 ?_; assumption)); simp only [Act.put, List.setIfInBounds_toArray, List.set_cons_zero, List.set_cons_succ]) | (refine wpTree.take (v := .agg (OpR.plain x.o).toArray) (yieldsIf_load_mid rfl 35 _ rfl _ _ rfl (OpR.plain x.o) _ ?_ Try.underlying35 rfl (rpinfoL _)) ?_; (focus (intro _ hS; refine range_next hS.1 ?_; assumption)); simp only [Act.put, List.setIfInBounds_toArray, List.set_cons_zero, List.set_cons_succ]) | (refine wpTree.take (v := .agg (Ev.item x).toArray) (yieldsIf_load_mid rfl 31 _ rfl _ _ rfl (Ev.item x) _ ?_ Try.underlying31 rfl (iinfo _)) ?_; (focus (intro _ hS; refine range_next hS.1 ?_; assumption)); simp only [Act.put, List.setIfInBounds_toArray, List.set_cons_zero, List.set_cons_succ]) | (refine wpTree.take (v := .agg (Ev.item y).toArray) (yieldsIf_load_mid rfl 31 _ rfl _ _ rfl (Ev.item y) _ ?_ Try.underlying31 rfl (iinfo _)) ?_; (focus (intro _ hS; refine range_next hS.1 ?_; assumption)); simp only [Act.put, List.setIfInBounds_toArray, List.set_cons_zero, List.set_cons_succ]) | (refine wpTree.take (v := .agg (Ev.item x).toArray) (yieldsIf_load_mid rfl 37 _ rfl _ _ rfl (Ev.item x) _ ?_ Try.underlying37 rfl (einfoL6 _)) ?_; (focus (intro _ hS; refine range_next hS.1 ?_; assumption)); simp only [Act.put, List.setIfInBounds_toArray, List.set_cons_zero, List.set_cons_succ]) | (refine wpTree.take (v := .agg (Ev.item y).toArray) (yieldsIf_load_mid rfl 37 _ rfl _ _ rfl (Ev.item y) _ ?_ Try.underlying37 rfl (einfoL6 _)) ?_; (focus (intro _ hS; refine range_next hS.1 ?_; assumption)); simp only [Act.put, List.setIfInBounds_toArray, List.set_cons_zero, List.set_cons_succ]) | (refine wpTree.take (v := .agg (Ev.item z).toArray) (yieldsIf_load_mid rfl 37 _ rfl _ _ rfl (Ev.item z) _ ?_ Try.underlying37 rfl (einfoL6 _)) ?_; (focus (intro _ hS; refine range_next hS.1 ?_; assumption)); simp only [Act.put, List.setIfInBounds_toArray, List.set_cons_zero, List.set_cons_succ]) | (refine wpTree.take (v := .agg (Ev.cells z).toArray) (yieldsIf_load_mid rfl 46 _ rfl _ _ rfl (Ev.cells z) _ ?_ Try.underlying46 rfl (einfo _)) ?_; (focus (intro _ hS; refine range_next hS.1 ?_; assumption)); simp only [Act.put, List.setIfInBounds_toArray, List.set_cons_zero, List.set_cons_succ]) | (refine wpTree.take (v := ?_) (Or.inl ⟨by rfl, ?_⟩) ?_; rotate_left; (focus (intro _ hS; (try dsimp only at hS); go_split_ands; (try subst hS); go_simp; (try (with_reducible rfl)); done)); simp only [Act.put, List.setIfInBounds_toArray, List.set_cons_zero, List.set_cons_succ])))
          refine wpTree.one (fun K hK => ?_)
          go_simp
          go_at_call 11
          refine (HMAY.out _).mono ?_
          rintro e z1 ⟨rfl, hb⟩
          have hBelow := And.intro (Below.trans hHeld.1 (hb.mono (Below.size hHeld.1))) (cell_next hb hHeld.2)
          refine hK.out _ _ hBelow (fun hHeld' => ?_)
          clear hK K hHeld hBelow hb
          have hHeld := hHeld'
          clear hHeld'
          (try simp only [Act.put, List.setIfInBounds_toArray, List.set_cons_zero, List.set_cons_succ])
          (repeat (first | (refine wpTree.take (v := undef) (Or.inr ⟨by rfl, rfl⟩) ?_; simp only [Act.put, List.setIfInBounds_toArray, List.set_cons_zero, List.set_cons_succ]) | (refine wpTree.take (v := .agg (OpR.cells x.o).toArray) (yieldsIf_load_mid rfl 44 _ rfl _ _ rfl (OpR.cells x.o) _ ?_ Try.underlying44 rfl (oinfo _)) ?_; (focus (intro _ hS; refine range_next hS.1 ?_; assumption)); simp only [Act.put, List.setIfInBounds_toArray, List.set_cons_zero, List.set_cons_succ]) | (refine wpTree.take (v := .agg (OpR.plain x.o).toArray) (yieldsIf_load_mid rfl 35 _ rfl _ _ rfl (OpR.plain x.o) _ ?_ Try.underlying35 rfl (rpinfoL _)) ?_; (focus (intro _ hS; refine range_next hS.1 ?_; assumption)); simp only [Act.put, List.setIfInBounds_toArray, List.set_cons_zero, List.set_cons_succ]) | (refine wpTree.take (v := .agg (Ev.item x).toArray) (yieldsIf_load_mid rfl 31 _ rfl _ _ rfl (Ev.item x) _ ?_ Try.underlying31 rfl (iinfo _)) ?_; (focus (intro _ hS; refine range_next hS.1 ?_; assumption)); simp only [Act.put, List.setIfInBounds_toArray, List.set_cons_zero, List.set_cons_succ]) | (refine wpTree.take (v := .agg (Ev.item y).toArray) (yieldsIf_load_mid rfl 31 _ rfl _ _ rfl (Ev.item y) _ ?_ Try.underlying31 rfl (iinfo _)) ?_; (focus (intro _ hS; refine range_next hS.1 ?_; assumption)); simp only [Act.put, List.setIfInBounds_toArray, List.set_cons_zero, List.set_cons_succ]) | (refine wpTree.take (v := .agg (Ev.item x).toArray) (yieldsIf_load_mid rfl 37 _ rfl _ _ rfl (Ev.item x) _ ?_ Try.underlying37 rfl (einfoL6 _)) ?_; (focus (intro _ hS; refine range_next hS.1 ?_; assumption)); simp only [Act.put, List.setIfInBounds_toArray, List.set_cons_zero, List.set_cons_succ]) | (refine wpTree.take (v := .agg (Ev.item y).toArray) (yieldsIf_load_mid rfl 37 _ rfl _ _ rfl (Ev.item y) _ ?_ Try.underlying37 rfl (einfoL6 _)) ?_; (focus (intro _ hS; refine range_next hS.1 ?_; assumption)); simp only [Act.put, List.setIfInBounds_toArray, List.set_cons_zero, List.set_cons_succ]) | (refine wpTree.take (v := .agg (Ev.item z).toArray) (yieldsIf_load_mid rfl 37 _ rfl _ _ rfl (Ev.item z) _ ?_ Try.underlying37 rfl (einfoL6 _)) ?_; (focus (intro _ hS; refine range_next hS.1 ?_; assumption)); simp only [Act.put, List.setIfInBounds_toArray, List.set_cons_zero, List.set_cons_succ]) | (refine wpTree.take (v := .agg (Ev.cells z).toArray) (yieldsIf_load_mid rfl 46 _ rfl _ _ rfl (Ev.cells z) _ ?_ Try.underlying46 rfl (einfo _)) ?_; (focus (intro _ hS; refine range_next hS.1 ?_; assumption)); simp only [Act.put, List.setIfInBounds_toArray, List.set_cons_zero, List.set_cons_succ]) | (refine wpTree.take (v := ?_) (Or.inl ⟨by rfl, ?_⟩) ?_; rotate_left; (focus (intro _ hS; (try dsimp only at hS); go_split_ands; (try subst hS); go_simp; (try (with_reducible rfl)); done)); simp only [Act.put, List.setIfInBounds_toArray, List.set_cons_zero, List.set_cons_succ])))
          refine wpTree.one (fun K hK => ?_)
          go_simp
          go_at_call 12
          refine (HRMAY.out _).mono ?_
          rintro e z2 ⟨rfl, hb⟩
          have hBelow := And.intro (Below.trans hHeld.1 (hb.mono (Below.size hHeld.1))) (cell_next hb hHeld.2)
          refine hK.out _ _ hBelow (fun hHeld' => ?_)
          clear hK K hHeld hBelow hb
          have hHeld := hHeld'
          clear hHeld'
          (try simp only [Act.put, List.setIfInBounds_toArray, List.set_cons_zero, List.set_cons_succ])
          (repeat (first | (refine wpTree.take (v := undef) (Or.inr ⟨by rfl, rfl⟩) ?_; simp only [Act.put, List.setIfInBounds_toArray, List.set_cons_zero, List.set_cons_succ]) | (refine wpTree.take (v := .agg (OpR.cells x.o).toArray) (yieldsIf_load_mid rfl 44 _ rfl _ _ rfl (OpR.cells x.o) _ ?_ Try.underlying44 rfl (oinfo _)) ?_; (focus (intro _ hS; refine range_next hS.1 ?_; assumption)); simp only [Act.put, List.setIfInBounds_toArray, List.set_cons_zero, List.set_cons_succ]) | (refine wpTree.take (v := .agg (OpR.plain x.o).toArray) (yieldsIf_load_mid rfl 35 _ rfl _ _ rfl (OpR.plain x.o) _ ?_ Try.underlying35 rfl (rpinfoL _)) ?_; (focus (intro _ hS; refine range_next hS.1 ?_; assumption)); simp only [Act.put, List.setIfInBounds_toArray, List.set_cons_zero, List.set_cons_succ]) | (refine wpTree.take (v := .agg (Ev.item x).toArray) (yieldsIf_load_mid rfl 31 _ rfl _ _ rfl (Ev.item x) _ ?_ Try.underlying31 rfl (iinfo _)) ?_; (focus (intro _ hS; refine range_next hS.1 ?_; assumption)); simp only [Act.put, List.setIfInBounds_toArray, List.set_cons_zero, List.set_cons_succ]) | (refine wpTree.take (v := .agg (Ev.item y).toArray) (yieldsIf_load_mid rfl 31 _ rfl _ _ rfl (Ev.item y) _ ?_ Try.underlying31 rfl (iinfo _)) ?_; (focus (intro _ hS; refine range_next hS.1 ?_; assumption)); simp only [Act.put, List.setIfInBounds_toArray, List.set_cons_zero, List.set_cons_succ]) | (refine wpTree.take (v := .agg (Ev.item x).toArray) (yieldsIf_load_mid rfl 37 _ rfl _ _ rfl (Ev.item x) _ ?_ Try.underlying37 rfl (einfoL6 _)) ?_; (focus (intro _ hS; refine range_next hS.1 ?_; assumption)); simp only [Act.put, List.setIfInBounds_toArray, List.set_cons_zero, List.set_cons_succ]) | (refine wpTree.take (v := .agg (Ev.item y).toArray) (yieldsIf_load_mid rfl 37 _ rfl _ _ rfl (Ev.item y) _ ?_ Try.underlying37 rfl (einfoL6 _)) ?_; (focus (intro _ hS; refine range_next hS.1 ?_; assumption)); simp only [Act.put, List.setIfInBounds_toArray, List.set_cons_zero, List.set_cons_succ]) | (refine wpTree.take (v := .agg (Ev.item z).toArray) (yieldsIf_load_mid rfl 37 _ rfl _ _ rfl (Ev.item z) _ ?_ Try.underlying37 rfl (einfoL6 _)) ?_; (focus (intro _ hS; refine range_next hS.1 ?_; assumption)); simp only [Act.put, List.setIfInBounds_toArray, List.set_cons_zero, List.set_cons_succ]) | (refine wpTree.take (v := .agg (Ev.cells z).toArray) (yieldsIf_load_mid rfl 46 _ rfl _ _ rfl (Ev.cells z) _ ?_ Try.underlying46 rfl (einfo _)) ?_; (focus (intro _ hS; refine range_next hS.1 ?_; assumption)); simp only [Act.put, List.setIfInBounds_toArray, List.set_cons_zero, List.set_cons_succ]) | (refine wpTree.take (v := ?_) (Or.inl ⟨by rfl, ?_⟩) ?_; rotate_left; (focus (intro _ hS; (try dsimp only at hS); go_split_ands; (try subst hS); go_simp; (try (with_reducible rfl)); done)); simp only [Act.put, List.setIfInBounds_toArray, List.set_cons_zero, List.set_cons_succ])))
          refine wpTree.one (fun K hK => ?_)
          go_simp
          go_at_call 13
          refine (HCUS.out _).mono ?_
          rintro e z3 ⟨rfl, hb⟩
          have hBelow := And.intro (Below.trans hHeld.1 (hb.mono (Below.size hHeld.1))) (cell_next hb hHeld.2)
          refine hK.out _ _ hBelow (fun hHeld' => ?_)
          clear hK K hHeld hBelow hb
          have hHeld := hHeld'
          clear hHeld'
          (try simp only [Act.put, List.setIfInBounds_toArray, List.set_cons_zero, List.set_cons_succ])
          (repeat (first | (refine wpTree.take (v := undef) (Or.inr ⟨by rfl, rfl⟩) ?_; simp only [Act.put, List.setIfInBounds_toArray, List.set_cons_zero, List.set_cons_succ]) | (refine wpTree.take (v := .agg (OpR.cells x.o).toArray) (yieldsIf_load_mid rfl 44 _ rfl _ _ rfl (OpR.cells x.o) _ ?_ Try.underlying44 rfl (oinfo _)) ?_; (focus (intro _ hS; refine range_next hS.1 ?_; assumption)); simp only [Act.put, List.setIfInBounds_toArray, List.set_cons_zero, List.set_cons_succ]) | (refine wpTree.take (v := .agg (OpR.plain x.o).toArray) (yieldsIf_load_mid rfl 35 _ rfl _ _ rfl (OpR.plain x.o) _ ?_ Try.underlying35 rfl (rpinfoL _)) ?_; (focus (intro _ hS; refine range_next hS.1 ?_; assumption)); simp only [Act.put, List.setIfInBounds_toArray, List.set_cons_zero, List.set_cons_succ]) | (refine wpTree.take (v := .agg (Ev.item x).toArray) (yieldsIf_load_mid rfl 31 _ rfl _ _ rfl (Ev.item x) _ ?_ Try.underlying31 rfl (iinfo _)) ?_; (focus (intro _ hS; refine range_next hS.1 ?_; assumption)); simp only [Act.put, List.setIfInBounds_toArray, List.set_cons_zero, List.set_cons_succ]) | (refine wpTree.take (v := .agg (Ev.item y).toArray) (yieldsIf_load_mid rfl 31 _ rfl _ _ rfl (Ev.item y) _ ?_ Try.underlying31 rfl (iinfo _)) ?_; (focus (intro _ hS; refine range_next hS.1 ?_; assumption)); simp only [Act.put, List.setIfInBounds_toArray, List.set_cons_zero, List.set_cons_succ]) | (refine wpTree.take (v := .agg (Ev.item x).toArray) (yieldsIf_load_mid rfl 37 _ rfl _ _ rfl (Ev.item x) _ ?_ Try.underlying37 rfl (einfoL6 _)) ?_; (focus (intro _ hS; refine range_next hS.1 ?_; assumption)); simp only [Act.put, List.setIfInBounds_toArray, List.set_cons_zero, List.set_cons_succ]) | (refine wpTree.take (v := .agg (Ev.item y).toArray) (yieldsIf_load_mid rfl 37 _ rfl _ _ rfl (Ev.item y) _ ?_ Try.underlying37 rfl (einfoL6 _)) ?_; (focus (intro _ hS; refine range_next hS.1 ?_; assumption)); simp only [Act.put, List.setIfInBounds_toArray, List.set_cons_zero, List.set_cons_succ]) | (refine wpTree.take (v := .agg (Ev.item z).toArray) (yieldsIf_load_mid rfl 37 _ rfl _ _ rfl (Ev.item z) _ ?_ Try.underlying37 rfl (einfoL6 _)) ?_; (focus (intro _ hS; refine range_next hS.1 ?_; assumption)); simp only [Act.put, List.setIfInBounds_toArray, List.set_cons_zero, List.set_cons_succ]) | (refine wpTree.take (v := .agg (Ev.cells z).toArray) (yieldsIf_load_mid rfl 46 _ rfl _ _ rfl (Ev.cells z) _ ?_ Try.underlying46 rfl (einfo _)) ?_; (focus (intro _ hS; refine range_next hS.1 ?_; assumption)); simp only [Act.put, List.setIfInBounds_toArray, List.set_cons_zero, List.set_cons_succ]) | (refine wpTree.take (v := ?_) (Or.inl ⟨by rfl, ?_⟩) ?_; rotate_left; (focus (intro _ hS; (try dsimp only at hS); go_split_ands; (try subst hS); go_simp; (try (with_reducible rfl)); done)); simp only [Act.put, List.setIfInBounds_toArray, List.set_cons_zero, List.set_cons_succ])))
          refine wpTree.one (fun K hK => ?_)
          go_simp
          go_at_call 12
          refine (HRMAY.out _).mono ?_
          rintro e z4 ⟨rfl, hb⟩
          have hBelow := And.intro (Below.trans hHeld.1 (hb.mono (Below.size hHeld.1))) (cell_next hb hHeld.2)
          refine hK.out _ _ hBelow (fun hHeld' => ?_)
          clear hK K hHeld hBelow hb
          have hHeld := hHeld'
          clear hHeld'
          (try simp only [Act.put, List.setIfInBounds_toArray, List.set_cons_zero, List.set_cons_succ])
          (repeat (first | (refine wpTree.take (v := undef) (Or.inr ⟨by rfl, rfl⟩) ?_; simp only [Act.put, List.setIfInBounds_toArray, List.set_cons_zero, List.set_cons_succ]) | (refine wpTree.take (v := .agg (OpR.cells x.o).toArray) (yieldsIf_load_mid rfl 44 _ rfl _ _ rfl (OpR.cells x.o) _ ?_ Try.underlying44 rfl (oinfo _)) ?_; (focus (intro _ hS; refine range_next hS.1 ?_; assumption)); simp only [Act.put, List.setIfInBounds_toArray, List.set_cons_zero, List.set_cons_succ]) | (refine wpTree.take (v := .agg (OpR.plain x.o).toArray) (yieldsIf_load_mid rfl 35 _ rfl _ _ rfl (OpR.plain x.o) _ ?_ Try.underlying35 rfl (rpinfoL _)) ?_; (focus (intro _ hS; refine range_next hS.1 ?_; assumption)); simp only [Act.put, List.setIfInBounds_toArray, List.set_cons_zero, List.set_cons_succ]) | (refine wpTree.take (v := .agg (Ev.item x).toArray) (yieldsIf_load_mid rfl 31 _ rfl _ _ rfl (Ev.item x) _ ?_ Try.underlying31 rfl (iinfo _)) ?_; (focus (intro _ hS; refine range_next hS.1 ?_; assumption)); simp only [Act.put, List.setIfInBounds_toArray, List.set_cons_zero, List.set_cons_succ]) | (refine wpTree.take (v := .agg (Ev.item y).toArray) (yieldsIf_load_mid rfl 31 _ rfl _ _ rfl (Ev.item y) _ ?_ Try.underlying31 rfl (iinfo _)) ?_; (focus (intro _ hS; refine range_next hS.1 ?_; assumption)); simp only [Act.put, List.setIfInBounds_toArray, List.set_cons_zero, List.set_cons_succ]) | (refine wpTree.take (v := .agg (Ev.item x).toArray) (yieldsIf_load_mid rfl 37 _ rfl _ _ rfl (Ev.item x) _ ?_ Try.underlying37 rfl (einfoL6 _)) ?_; (focus (intro _ hS; refine range_next hS.1 ?_; assumption)); simp only [Act.put, List.setIfInBounds_toArray, List.set_cons_zero, List.set_cons_succ]) | (refine wpTree.take (v := .agg (Ev.item y).toArray) (yieldsIf_load_mid rfl 37 _ rfl _ _ rfl (Ev.item y) _ ?_ Try.underlying37 rfl (einfoL6 _)) ?_; (focus (intro _ hS; refine range_next hS.1 ?_; assumption)); simp only [Act.put, List.setIfInBounds_toArray, List.set_cons_zero, List.set_cons_succ]) | (refine wpTree.take (v := .agg (Ev.item z).toArray) (yieldsIf_load_mid rfl 37 _ rfl _ _ rfl (Ev.item z) _ ?_ Try.underlying37 rfl (einfoL6 _)) ?_; (focus (intro _ hS; refine range_next hS.1 ?_; assumption)); simp only [Act.put, List.setIfInBounds_toArray, List.set_cons_zero, List.set_cons_succ]) | (refine wpTree.take (v := .agg (Ev.cells z).toArray) (yieldsIf_load_mid rfl 46 _ rfl _ _ rfl (Ev.cells z) _ ?_ Try.underlying46 rfl (einfo _)) ?_; (focus (intro _ hS; refine range_next hS.1 ?_; assumption)); simp only [Act.put, List.setIfInBounds_toArray, List.set_cons_zero, List.set_cons_succ]) | (refine wpTree.take (v := ?_) (Or.inl ⟨by rfl, ?_⟩) ?_; rotate_left; (focus (intro _ hS; (try dsimp only at hS); go_split_ands; (try subst hS); go_simp; (try (with_reducible rfl)); done)); simp only [Act.put, List.setIfInBounds_toArray, List.set_cons_zero, List.set_cons_succ])))
          refine wpTree.one (fun K hK => ?_)
          go_simp
          go_at_call 7
          refine (itemevent_any x _).mono ?_
          rintro e z5 ⟨rfl, hb⟩
          have hBelow := And.intro (Below.trans hHeld.1 (hb.mono (Below.size hHeld.1))) (cell_next hb hHeld.2)
          refine hK.out _ _ hBelow (fun hHeld' => ?_)
          clear hK K hHeld hBelow hb
          have hHeld := hHeld'
          clear hHeld'
          (try simp only [Act.put, List.setIfInBounds_toArray, List.set_cons_zero, List.set_cons_succ])
          (repeat (first | (refine wpTree.take (v := undef) (Or.inr ⟨by rfl, rfl⟩) ?_; simp only [Act.put, List.setIfInBounds_toArray, List.set_cons_zero, List.set_cons_succ]) | (refine wpTree.take (v := .agg (OpR.cells x.o).toArray) (yieldsIf_load_mid rfl 44 _ rfl _ _ rfl (OpR.cells x.o) _ ?_ Try.underlying44 rfl (oinfo _)) ?_; (focus (intro _ hS; refine range_next hS.1 ?_; assumption)); simp only [Act.put, List.setIfInBounds_toArray, List.set_cons_zero, List.set_cons_succ]) | (refine wpTree.take (v := .agg (OpR.plain x.o).toArray) (yieldsIf_load_mid rfl 35 _ rfl _ _ rfl (OpR.plain x.o) _ ?_ Try.underlying35 rfl (rpinfoL _)) ?_; (focus (intro _ hS; refine range_next hS.1 ?_; assumption)); simp only [Act.put, List.setIfInBounds_toArray, List.set_cons_zero, List.set_cons_succ]) | (refine wpTree.take (v := .agg (Ev.item x).toArray) (yieldsIf_load_mid rfl 31 _ rfl _ _ rfl (Ev.item x) _ ?_ Try.underlying31 rfl (iinfo _)) ?_; (focus (intro _ hS; refine range_next hS.1 ?_; assumption)); simp only [Act.put, List.setIfInBounds_toArray, List.set_cons_zero, List.set_cons_succ]) | (refine wpTree.take (v := .agg (Ev.item y).toArray) (yieldsIf_load_mid rfl 31 _ rfl _ _ rfl (Ev.item y) _ ?_ Try.underlying31 rfl (iinfo _)) ?_; (focus (intro _ hS; refine range_next hS.1 ?_; assumption)); simp only [Act.put, List.setIfInBounds_toArray, List.set_cons_zero, List.set_cons_succ]) | (refine wpTree.take (v := .agg (Ev.item x).toArray) (yieldsIf_load_mid rfl 37 _ rfl _ _ rfl (Ev.item x) _ ?_ Try.underlying37 rfl (einfoL6 _)) ?_; (focus (intro _ hS; refine range_next hS.1 ?_; assumption)); simp only [Act.put, List.setIfInBounds_toArray, List.set_cons_zero, List.set_cons_succ]) | (refine wpTree.take (v := .agg (Ev.item y).toArray) (yieldsIf_load_mid rfl 37 _ rfl _ _ rfl (Ev.item y) _ ?_ Try.underlying37 rfl (einfoL6 _)) ?_; (focus (intro _ hS; refine range_next hS.1 ?_; assumption)); simp only [Act.put, List.setIfInBounds_toArray, List.set_cons_zero, List.set_cons_succ]) | (refine wpTree.take (v := .agg (Ev.item z).toArray) (yieldsIf_load_mid rfl 37 _ rfl _ _ rfl (Ev.item z) _ ?_ Try.underlying37 rfl (einfoL6 _)) ?_; (focus (intro _ hS; refine range_next hS.1 ?_; assumption)); simp only [Act.put, List.setIfInBounds_toArray, List.set_cons_zero, List.set_cons_succ]) | (refine wpTree.take (v := .agg (Ev.cells z).toArray) (yieldsIf_load_mid rfl 46 _ rfl _ _ rfl (Ev.cells z) _ ?_ Try.underlying46 rfl (einfo _)) ?_; (focus (intro _ hS; refine range_next hS.1 ?_; assumption)); simp only [Act.put, List.setIfInBounds_toArray, List.set_cons_zero, List.set_cons_succ]) | (refine wpTree.take (v := ?_) (Or.inl ⟨by rfl, ?_⟩) ?_; rotate_left; (focus (intro _ hS; (try dsimp only at hS); go_split_ands; (try subst hS); go_simp; (try (with_reducible rfl)); done)); simp only [Act.put, List.setIfInBounds_toArray, List.set_cons_zero, List.set_cons_succ])))
          refine wpTree.one (fun K hK => ?_)
          go_simp
          go_at_call 14
          refine (HERI.out _).mono ?_
          rintro e z6 ⟨rfl, hb⟩
          have hBelow := And.intro (Below.trans hHeld.1 (hb.mono (Below.size hHeld.1))) (cell_next hb hHeld.2)
          refine hK.out _ _ hBelow (fun hHeld' => ?_)
          clear hK K hHeld hBelow hb
          have hHeld := hHeld'
          clear hHeld'
          (try simp only [Act.put, List.setIfInBounds_toArray, List.set_cons_zero, List.set_cons_succ])
          (repeat (first | (refine wpTree.take (v := undef) (Or.inr ⟨by rfl, rfl⟩) ?_; simp only [Act.put, List.setIfInBounds_toArray, List.set_cons_zero, List.set_cons_succ]) | (refine wpTree.take (v := .agg (OpR.cells x.o).toArray) (yieldsIf_load_mid rfl 44 _ rfl _ _ rfl (OpR.cells x.o) _ ?_ Try.underlying44 rfl (oinfo _)) ?_; (focus (intro _ hS; refine range_next hS.1 ?_; assumption)); simp only [Act.put, List.setIfInBounds_toArray, List.set_cons_zero, List.set_cons_succ]) | (refine wpTree.take (v := .agg (OpR.plain x.o).toArray) (yieldsIf_load_mid rfl 35 _ rfl _ _ rfl (OpR.plain x.o) _ ?_ Try.underlying35 rfl (rpinfoL _)) ?_; (focus (intro _ hS; refine range_next hS.1 ?_; assumption)); simp only [Act.put, List.setIfInBounds_toArray, List.set_cons_zero, List.set_cons_succ]) | (refine wpTree.take (v := .agg (Ev.item x).toArray) (yieldsIf_load_mid rfl 31 _ rfl _ _ rfl (Ev.item x) _ ?_ Try.underlying31 rfl (iinfo _)) ?_; (focus (intro _ hS; refine range_next hS.1 ?_; assumption)); simp only [Act.put, List.setIfInBounds_toArray, List.set_cons_zero, List.set_cons_succ]) | (refine wpTree.take (v := .agg (Ev.item y).toArray) (yieldsIf_load_mid rfl 31 _ rfl _ _ rfl (Ev.item y) _ ?_ Try.underlying31 rfl (iinfo _)) ?_; (focus (intro _ hS; refine range_next hS.1 ?_; assumption)); simp only [Act.put, List.setIfInBounds_toArray, List.set_cons_zero, List.set_cons_succ]) | (refine wpTree.take (v := .agg (Ev.item x).toArray) (yieldsIf_load_mid rfl 37 _ rfl _ _ rfl (Ev.item x) _ ?_ Try.underlying37 rfl (einfoL6 _)) ?_; (focus (intro _ hS; refine range_next hS.1 ?_; assumption)); simp only [Act.put, List.setIfInBounds_toArray, List.set_cons_zero, List.set_cons_succ]) | (refine wpTree.take (v := .agg (Ev.item y).toArray) (yieldsIf_load_mid rfl 37 _ rfl _ _ rfl (Ev.item y) _ ?_ Try.underlying37 rfl (einfoL6 _)) ?_; (focus (intro _ hS; refine range_next hS.1 ?_; assumption)); simp only [Act.put, List.setIfInBounds_toArray, List.set_cons_zero, List.set_cons_succ]) | (refine wpTree.take (v := .agg (Ev.item z).toArray) (yieldsIf_load_mid rfl 37 _ rfl _ _ rfl (Ev.item z) _ ?_ Try.underlying37 rfl (einfoL6 _)) ?_; (focus (intro _ hS; refine range_next hS.1 ?_; assumption)); simp only [Act.put, List.setIfInBounds_toArray, List.set_cons_zero, List.set_cons_succ]) | (refine wpTree.take (v := .agg (Ev.cells z).toArray) (yieldsIf_load_mid rfl 46 _ rfl _ _ rfl (Ev.cells z) _ ?_ Try.underlying46 rfl (einfo _)) ?_; (focus (intro _ hS; refine range_next hS.1 ?_; assumption)); simp only [Act.put, List.setIfInBounds_toArray, List.set_cons_zero, List.set_cons_succ]) | (refine wpTree.take (v := ?_) (Or.inl ⟨by rfl, ?_⟩) ?_; rotate_left; (focus (intro _ hS; (try dsimp only at hS); go_split_ands; (try subst hS); go_simp; (try (with_reducible rfl)); done)); simp only [Act.put, List.setIfInBounds_toArray, List.set_cons_zero, List.set_cons_succ])))
          refine wpTree.one (fun K hK => ?_)
          go_simp
          go_at_call 15
          refine (HRRI.out _).mono ?_
          rintro e z7 ⟨rfl, hb⟩
          have hBelow := And.intro (Below.trans hHeld.1 (hb.mono (Below.size hHeld.1))) (cell_next hb hHeld.2)
          refine hK.out _ _ hBelow (fun hHeld' => ?_)
          clear hK K hHeld hBelow hb
          have hHeld := hHeld'
          clear hHeld'
          (try simp only [Act.put, List.setIfInBounds_toArray, List.set_cons_zero, List.set_cons_succ])
          (repeat (first | (refine wpTree.take (v := undef) (Or.inr ⟨by rfl, rfl⟩) ?_; simp only [Act.put, List.setIfInBounds_toArray, List.set_cons_zero, List.set_cons_succ]) | (refine wpTree.take (v := .agg (OpR.cells x.o).toArray) (yieldsIf_load_mid rfl 44 _ rfl _ _ rfl (OpR.cells x.o) _ ?_ Try.underlying44 rfl (oinfo _)) ?_; (focus (intro _ hS; refine range_next hS.1 ?_; assumption)); simp only [Act.put, List.setIfInBounds_toArray, List.set_cons_zero, List.set_cons_succ]) | (refine wpTree.take (v := .agg (OpR.plain x.o).toArray) (yieldsIf_load_mid rfl 35 _ rfl _ _ rfl (OpR.plain x.o) _ ?_ Try.underlying35 rfl (rpinfoL _)) ?_; (focus (intro _ hS; refine range_next hS.1 ?_; assumption)); simp only [Act.put, List.setIfInBounds_toArray, List.set_cons_zero, List.set_cons_succ]) | (refine wpTree.take (v := .agg (Ev.item x).toArray) (yieldsIf_load_mid rfl 31 _ rfl _ _ rfl (Ev.item x) _ ?_ Try.underlying31 rfl (iinfo _)) ?_; (focus (intro _ hS; refine range_next hS.1 ?_; assumption)); simp only [Act.put, List.setIfInBounds_toArray, List.set_cons_zero, List.set_cons_succ]) | (refine wpTree.take (v := .agg (Ev.item y).toArray) (yieldsIf_load_mid rfl 31 _ rfl _ _ rfl (Ev.item y) _ ?_ Try.underlying31 rfl (iinfo _)) ?_; (focus (intro _ hS; refine range_next hS.1 ?_; assumption)); simp only [Act.put, List.setIfInBounds_toArray, List.set_cons_zero, List.set_cons_succ]) | (refine wpTree.take (v := .agg (Ev.item x).toArray) (yieldsIf_load_mid rfl 37 _ rfl _ _ rfl (Ev.item x) _ ?_ Try.underlying37 rfl (einfoL6 _)) ?_; (focus (intro _ hS; refine range_next hS.1 ?_; assumption)); simp only [Act.put, List.setIfInBounds_toArray, List.set_cons_zero, List.set_cons_succ]) | (refine wpTree.take (v := .agg (Ev.item y).toArray) (yieldsIf_load_mid rfl 37 _ rfl _ _ rfl (Ev.item y) _ ?_ Try.underlying37 rfl (einfoL6 _)) ?_; (focus (intro _ hS; refine range_next hS.1 ?_; assumption)); simp only [Act.put, List.setIfInBounds_toArray, List.set_cons_zero, List.set_cons_succ]) | (refine wpTree.take (v := .agg (Ev.item z).toArray) (yieldsIf_load_mid rfl 37 _ rfl _ _ rfl (Ev.item z) _ ?_ Try.underlying37 rfl (einfoL6 _)) ?_; (focus (intro _ hS; refine range_next hS.1 ?_; assumption)); simp only [Act.put, List.setIfInBounds_toArray, List.set_cons_zero, List.set_cons_succ]) | (refine wpTree.take (v := .agg (Ev.cells z).toArray) (yieldsIf_load_mid rfl 46 _ rfl _ _ rfl (Ev.cells z) _ ?_ Try.underlying46 rfl (einfo _)) ?_; (focus (intro _ hS; refine range_next hS.1 ?_; assumption)); simp only [Act.put, List.setIfInBounds_toArray, List.set_cons_zero, List.set_cons_succ]) | (refine wpTree.take (v := ?_) (Or.inl ⟨by rfl, ?_⟩) ?_; rotate_left; (focus (intro _ hS; (try dsimp only at hS); go_split_ands; (try subst hS); go_simp; (try (with_reducible rfl)); done)); simp only [Act.put, List.setIfInBounds_toArray, List.set_cons_zero, List.set_cons_succ])))
          refine wpTree.one (fun K hK => ?_)
          go_simp
          go_at_call 7
          refine (itemevent_any x _).mono ?_
          rintro e z8 ⟨rfl, hb⟩
          have hBelow := And.intro (Below.trans hHeld.1 (hb.mono (Below.size hHeld.1))) (cell_next hb hHeld.2)
          refine hK.out _ _ hBelow (fun hHeld' => ?_)
          clear hK K hHeld hBelow hb
          have hHeld := hHeld'
          clear hHeld'
          (try simp only [Act.put, List.setIfInBounds_toArray, List.set_cons_zero, List.set_cons_succ])
          (repeat (first | (refine wpTree.take (v := undef) (Or.inr ⟨by rfl, rfl⟩) ?_; simp only [Act.put, List.setIfInBounds_toArray, List.set_cons_zero, List.set_cons_succ]) | (refine wpTree.take (v := .agg (OpR.cells x.o).toArray) (yieldsIf_load_mid rfl 44 _ rfl _ _ rfl (OpR.cells x.o) _ ?_ Try.underlying44 rfl (oinfo _)) ?_; (focus (intro _ hS; refine range_next hS.1 ?_; assumption)); simp only [Act.put, List.setIfInBounds_toArray, List.set_cons_zero, List.set_cons_succ]) | (refine wpTree.take (v := .agg (OpR.plain x.o).toArray) (yieldsIf_load_mid rfl 35 _ rfl _ _ rfl (OpR.plain x.o) _ ?_ Try.underlying35 rfl (rpinfoL _)) ?_; (focus (intro _ hS; refine range_next hS.1 ?_; assumption)); simp only [Act.put, List.setIfInBounds_toArray, List.set_cons_zero, List.set_cons_succ]) | (refine wpTree.take (v := .agg (Ev.item x).toArray) (yieldsIf_load_mid rfl 31 _ rfl _ _ rfl (Ev.item x) _ ?_ Try.underlying31 rfl (iinfo _)) ?_; (focus (intro _ hS; refine range_next hS.1 ?_; assumption)); simp only [Act.put, List.setIfInBounds_toArray, List.set_cons_zero, List.set_cons_succ]) | (refine wpTree.take (v := .agg (Ev.item y).toArray) (yieldsIf_load_mid rfl 31 _ rfl _ _ rfl (Ev.item y) _ ?_ Try.underlying31 rfl (iinfo _)) ?_; (focus (intro _ hS; refine range_next hS.1 ?_; assumption)); simp only [Act.put, List.setIfInBounds_toArray, List.set_cons_zero, List.set_cons_succ]) | (refine wpTree.take (v := .agg (Ev.item x).toArray) (yieldsIf_load_mid rfl 37 _ rfl _ _ rfl (Ev.item x) _ ?_ Try.underlying37 rfl (einfoL6 _)) ?_; (focus (intro _ hS; refine range_next hS.1 ?_; assumption)); simp only [Act.put, List.setIfInBounds_toArray, List.set_cons_zero, List.set_cons_succ]) | (refine wpTree.take (v := .agg (Ev.item y).toArray) (yieldsIf_load_mid rfl 37 _ rfl _ _ rfl (Ev.item y) _ ?_ Try.underlying37 rfl (einfoL6 _)) ?_; (focus (intro _ hS; refine range_next hS.1 ?_; assumption)); simp only [Act.put, List.setIfInBounds_toArray, List.set_cons_zero, List.set_cons_succ]) | (refine wpTree.take (v := .agg (Ev.item z).toArray) (yieldsIf_load_mid rfl 37 _ rfl _ _ rfl (Ev.item z) _ ?_ Try.underlying37 rfl (einfoL6 _)) ?_; (focus (intro _ hS; refine range_next hS.1 ?_; assumption)); simp only [Act.put, List.setIfInBounds_toArray, List.set_cons_zero, List.set_cons_succ]) | (refine wpTree.take (v := .agg (Ev.cells z).toArray) (yieldsIf_load_mid rfl 46 _ rfl _ _ rfl (Ev.cells z) _ ?_ Try.underlying46 rfl (einfo _)) ?_; (focus (intro _ hS; refine range_next hS.1 ?_; assumption)); simp only [Act.put, List.setIfInBounds_toArray, List.set_cons_zero, List.set_cons_succ]) | (refine wpTree.take (v := ?_) (Or.inl ⟨by rfl, ?_⟩) ?_; rotate_left; (focus (intro _ hS; (try dsimp only at hS); go_split_ands; (try subst hS); go_simp; (try (with_reducible rfl)); done)); simp only [Act.put, List.setIfInBounds_toArray, List.set_cons_zero, List.set_cons_succ])))
          refine wpTree.one (fun K hK => ?_)
          go_simp
          go_at_call 7
          refine (itemevent_any y _).mono ?_
          rintro e z9 ⟨rfl, hb⟩
          have hBelow := And.intro (Below.trans hHeld.1 (hb.mono (Below.size hHeld.1))) (cell_next hb hHeld.2)
          refine hK.out _ _ hBelow (fun hHeld' => ?_)
          clear hK K hHeld hBelow hb
          have hHeld := hHeld'
          clear hHeld'
          (try simp only [Act.put, List.setIfInBounds_toArray, List.set_cons_zero, List.set_cons_succ])
          (repeat (first | (refine wpTree.take (v := undef) (Or.inr ⟨by rfl, rfl⟩) ?_; simp only [Act.put, List.setIfInBounds_toArray, List.set_cons_zero, List.set_cons_succ]) | (refine wpTree.take (v := .agg (OpR.cells x.o).toArray) (yieldsIf_load_mid rfl 44 _ rfl _ _ rfl (OpR.cells x.o) _ ?_ Try.underlying44 rfl (oinfo _)) ?_; (focus (intro _ hS; refine range_next hS.1 ?_; assumption)); simp only [Act.put, List.setIfInBounds_toArray, List.set_cons_zero, List.set_cons_succ]) | (refine wpTree.take (v := .agg (OpR.plain x.o).toArray) (yieldsIf_load_mid rfl 35 _ rfl _ _ rfl (OpR.plain x.o) _ ?_ Try.underlying35 rfl (rpinfoL _)) ?_; (focus (intro _ hS; refine range_next hS.1 ?_; assumption)); simp only [Act.put, List.setIfInBounds_toArray, List.set_cons_zero, List.set_cons_succ]) | (refine wpTree.take (v := .agg (Ev.item x).toArray) (yieldsIf_load_mid rfl 31 _ rfl _ _ rfl (Ev.item x) _ ?_ Try.underlying31 rfl (iinfo _)) ?_; (focus (intro _ hS; refine range_next hS.1 ?_; assumption)); simp only [Act.put, List.setIfInBounds_toArray, List.set_cons_zero, List.set_cons_succ]) | (refine wpTree.take (v := .agg (Ev.item y).toArray) (yieldsIf_load_mid rfl 31 _ rfl _ _ rfl (Ev.item y) _ ?_ Try.underlying31 rfl (iinfo _)) ?_; (focus (intro _ hS; refine range_next hS.1 ?_; assumption)); simp only [Act.put, List.setIfInBounds_toArray, List.set_cons_zero, List.set_cons_succ]) | (refine wpTree.take (v := .agg (Ev.item x).toArray) (yieldsIf_load_mid rfl 37 _ rfl _ _ rfl (Ev.item x) _ ?_ Try.underlying37 rfl (einfoL6 _)) ?_; (focus (intro _ hS; refine range_next hS.1 ?_; assumption)); simp only [Act.put, List.setIfInBounds_toArray, List.set_cons_zero, List.set_cons_succ]) | (refine wpTree.take (v := .agg (Ev.item y).toArray) (yieldsIf_load_mid rfl 37 _ rfl _ _ rfl (Ev.item y) _ ?_ Try.underlying37 rfl (einfoL6 _)) ?_; (focus (intro _ hS; refine range_next hS.1 ?_; assumption)); simp only [Act.put, List.setIfInBounds_toArray, List.set_cons_zero, List.set_cons_succ]) | (refine wpTree.take (v := .agg (Ev.item z).toArray) (yieldsIf_load_mid rfl 37 _ rfl _ _ rfl (Ev.item z) _ ?_ Try.underlying37 rfl (einfoL6 _)) ?_; (focus (intro _ hS; refine range_next hS.1 ?_; assumption)); simp only [Act.put, List.setIfInBounds_toArray, List.set_cons_zero, List.set_cons_succ]) | (refine wpTree.take (v := .agg (Ev.cells z).toArray) (yieldsIf_load_mid rfl 46 _ rfl _ _ rfl (Ev.cells z) _ ?_ Try.underlying46 rfl (einfo _)) ?_; (focus (intro _ hS; refine range_next hS.1 ?_; assumption)); simp only [Act.put, List.setIfInBounds_toArray, List.set_cons_zero, List.set_cons_succ]) | (refine wpTree.take (v := ?_) (Or.inl ⟨by rfl, ?_⟩) ?_; rotate_left; (focus (intro _ hS; (try dsimp only at hS); go_split_ands; (try subst hS); go_simp; (try (with_reducible rfl)); done)); simp only [Act.put, List.setIfInBounds_toArray, List.set_cons_zero, List.set_cons_succ])))
          refine wpTree.one (fun K hK => ?_)
          go_simp
          go_at_call 16
          refine (HSAM.out _).mono ?_
          rintro e z10 ⟨rfl, hb⟩
          have hBelow := And.intro (Below.trans hHeld.1 (hb.mono (Below.size hHeld.1))) (cell_next hb hHeld.2)
          refine hK.out _ _ hBelow (fun hHeld' => ?_)
          clear hK K hHeld hBelow hb
          have hHeld := hHeld'
          clear hHeld'
          (try simp only [Act.put, List.setIfInBounds_toArray, List.set_cons_zero, List.set_cons_succ])
          (repeat (first | (refine wpTree.take (v := undef) (Or.inr ⟨by rfl, rfl⟩) ?_; simp only [Act.put, List.setIfInBounds_toArray, List.set_cons_zero, List.set_cons_succ]) | (refine wpTree.take (v := .agg (OpR.cells x.o).toArray) (yieldsIf_load_mid rfl 44 _ rfl _ _ rfl (OpR.cells x.o) _ ?_ Try.underlying44 rfl (oinfo _)) ?_; (focus (intro _ hS; refine range_next hS.1 ?_; assumption)); simp only [Act.put, List.setIfInBounds_toArray, List.set_cons_zero, List.set_cons_succ]) | (refine wpTree.take (v := .agg (OpR.plain x.o).toArray) (yieldsIf_load_mid rfl 35 _ rfl _ _ rfl (OpR.plain x.o) _ ?_ Try.underlying35 rfl (rpinfoL _)) ?_; (focus (intro _ hS; refine range_next hS.1 ?_; assumption)); simp only [Act.put, List.setIfInBounds_toArray, List.set_cons_zero, List.set_cons_succ]) | (refine wpTree.take (v := .agg (Ev.item x).toArray) (yieldsIf_load_mid rfl 31 _ rfl _ _ rfl (Ev.item x) _ ?_ Try.underlying31 rfl (iinfo _)) ?_; (focus (intro _ hS; refine range_next hS.1 ?_; assumption)); simp only [Act.put, List.setIfInBounds_toArray, List.set_cons_zero, List.set_cons_succ]) | (refine wpTree.take (v := .agg (Ev.item y).toArray) (yieldsIf_load_mid rfl 31 _ rfl _ _ rfl (Ev.item y) _ ?_ Try.underlying31 rfl (iinfo _)) ?_; (focus (intro _ hS; refine range_next hS.1 ?_; assumption)); simp only [Act.put, List.setIfInBounds_toArray, List.set_cons_zero, List.set_cons_succ]) | (refine wpTree.take (v := .agg (Ev.item x).toArray) (yieldsIf_load_mid rfl 37 _ rfl _ _ rfl (Ev.item x) _ ?_ Try.underlying37 rfl (einfoL6 _)) ?_; (focus (intro _ hS; refine range_next hS.1 ?_; assumption)); simp only [Act.put, List.setIfInBounds_toArray, List.set_cons_zero, List.set_cons_succ]) | (refine wpTree.take (v := .agg (Ev.item y).toArray) (yieldsIf_load_mid rfl 37 _ rfl _ _ rfl (Ev.item y) _ ?_ Try.underlying37 rfl (einfoL6 _)) ?_; (focus (intro _ hS; refine range_next hS.1 ?_; assumption)); simp only [Act.put, List.setIfInBounds_toArray, List.set_cons_zero, List.set_cons_succ]) | (refine wpTree.take (v := .agg (Ev.item z).toArray) (yieldsIf_load_mid rfl 37 _ rfl _ _ rfl (Ev.item z) _ ?_ Try.underlying37 rfl (einfoL6 _)) ?_; (focus (intro _ hS; refine range_next hS.1 ?_; assumption)); simp only [Act.put, List.setIfInBounds_toArray, List.set_cons_zero, List.set_cons_succ]) | (refine wpTree.take (v := .agg (Ev.cells z).toArray) (yieldsIf_load_mid rfl 46 _ rfl _ _ rfl (Ev.cells z) _ ?_ Try.underlying46 rfl (einfo _)) ?_; (focus (intro _ hS; refine range_next hS.1 ?_; assumption)); simp only [Act.put, List.setIfInBounds_toArray, List.set_cons_zero, List.set_cons_succ]) | (refine wpTree.take (v := ?_) (Or.inl ⟨by rfl, ?_⟩) ?_; rotate_left; (focus (intro _ hS; (try dsimp only at hS); go_split_ands; (try subst hS); go_simp; (try (with_reducible rfl)); done)); simp only [Act.put, List.setIfInBounds_toArray, List.set_cons_zero, List.set_cons_succ])))
          refine wpTree.one (fun K hK => ?_)
          go_simp
          go_at_call 17
          refine (of6_any z _).mono ?_
          rintro e z11 ⟨rfl, hb⟩
          have hBelow := And.intro (Below.trans hHeld.1 (hb.mono (Below.size hHeld.1))) (cell_next hb hHeld.2)
          refine hK.out _ _ hBelow (fun hHeld' => ?_)
          clear hK K hHeld hBelow hb
          have hHeld := hHeld'
          clear hHeld'
          (try simp only [Act.put, List.setIfInBounds_toArray, List.set_cons_zero, List.set_cons_succ])
          (repeat (first | (refine wpTree.take (v := undef) (Or.inr ⟨by rfl, rfl⟩) ?_; simp only [Act.put, List.setIfInBounds_toArray, List.set_cons_zero, List.set_cons_succ]) | (refine wpTree.take (v := .agg (OpR.cells x.o).toArray) (yieldsIf_load_mid rfl 44 _ rfl _ _ rfl (OpR.cells x.o) _ ?_ Try.underlying44 rfl (oinfo _)) ?_; (focus (intro _ hS; refine range_next hS.1 ?_; assumption)); simp only [Act.put, List.setIfInBounds_toArray, List.set_cons_zero, List.set_cons_succ]) | (refine wpTree.take (v := .agg (OpR.plain x.o).toArray) (yieldsIf_load_mid rfl 35 _ rfl _ _ rfl (OpR.plain x.o) _ ?_ Try.underlying35 rfl (rpinfoL _)) ?_; (focus (intro _ hS; refine range_next hS.1 ?_; assumption)); simp only [Act.put, List.setIfInBounds_toArray, List.set_cons_zero, List.set_cons_succ]) | (refine wpTree.take (v := .agg (Ev.item x).toArray) (yieldsIf_load_mid rfl 31 _ rfl _ _ rfl (Ev.item x) _ ?_ Try.underlying31 rfl (iinfo _)) ?_; (focus (intro _ hS; refine range_next hS.1 ?_; assumption)); simp only [Act.put, List.setIfInBounds_toArray, List.set_cons_zero, List.set_cons_succ]) | (refine wpTree.take (v := .agg (Ev.item y).toArray) (yieldsIf_load_mid rfl 31 _ rfl _ _ rfl (Ev.item y) _ ?_ Try.underlying31 rfl (iinfo _)) ?_; (focus (intro _ hS; refine range_next hS.1 ?_; assumption)); simp only [Act.put, List.setIfInBounds_toArray, List.set_cons_zero, List.set_cons_succ]) | (refine wpTree.take (v := .agg (Ev.item x).toArray) (yieldsIf_load_mid rfl 37 _ rfl _ _ rfl (Ev.item x) _ ?_ Try.underlying37 rfl (einfoL6 _)) ?_; (focus (intro _ hS; refine range_next hS.1 ?_; assumption)); simp only [Act.put, List.setIfInBounds_toArray, List.set_cons_zero, List.set_cons_succ]) | (refine wpTree.take (v := .agg (Ev.item y).toArray) (yieldsIf_load_mid rfl 37 _ rfl _ _ rfl (Ev.item y) _ ?_ Try.underlying37 rfl (einfoL6 _)) ?_; (focus (intro _ hS; refine range_next hS.1 ?_; assumption)); simp only [Act.put, List.setIfInBounds_toArray, List.set_cons_zero, List.set_cons_succ]) | (refine wpTree.take (v := .agg (Ev.item z).toArray) (yieldsIf_load_mid rfl 37 _ rfl _ _ rfl (Ev.item z) _ ?_ Try.underlying37 rfl (einfoL6 _)) ?_; (focus (intro _ hS; refine range_next hS.1 ?_; assumption)); simp only [Act.put, List.setIfInBounds_toArray, List.set_cons_zero, List.set_cons_succ]) | (refine wpTree.take (v := .agg (Ev.cells z).toArray) (yieldsIf_load_mid rfl 46 _ rfl _ _ rfl (Ev.cells z) _ ?_ Try.underlying46 rfl (einfo _)) ?_; (focus (intro _ hS; refine range_next hS.1 ?_; assumption)); simp only [Act.put, List.setIfInBounds_toArray, List.set_cons_zero, List.set_cons_succ]) | (refine wpTree.take (v := ?_) (Or.inl ⟨by rfl, ?_⟩) ?_; rotate_left; (focus (intro _ hS; (try dsimp only at hS); go_split_ands; (try subst hS); go_simp; (try (with_reducible rfl)); done)); simp only [Act.put, List.setIfInBounds_toArray, List.set_cons_zero, List.set_cons_succ])))
          refine wpTree.done ?_
          clear ro rp rx ry rxr ryr rzr rz
          go_wp2_with fail
          go_meet
          exact ⟨rfl, hHeld.1⟩
        · skip
          refine wp_region_tree (S := (fun w => Below w8.heap.size w8 w ∧ w.cell? ⟨g1, 17, none⟩ = some (.int .i64 x.o.k))) (.take 0 (.take 2 (.take 3 (.one 1 (.one 4 (.take 5 (.take 6 (.take 7 (.take 9 (.take 10 (.one 8 (.one 11 (.take 12 (.take 13 (.take 14 (.take 15 (.take 16 (.take 17 (.take 18 (.take 19 (.take 20 (.take 21 (.take 24 (.one 22 (.one 23 (.one 25 (.take 26 (.take 27 (.take 28 (.take 29 (.take 31 (.take 34 (.take 35 (.take 36 (.one 30 (.one 32 (.one 33 (.take 37 (.take 38 (.take 39 (.take 40 (.take 42 (.one 41 (.take 43 (.take 44 (.take 45 (.take 46 (.take 47 (.take 48 (.take 49 (.take 50 (.take 51 (.take 52 (.take 53 (.take 54 (.take 55 (.take 56 (.take 57 (.take 58 .nil))))))))))))))))))))))))))))))))))))))))))))))))))))))))))) 9999 (by kernel_rfl) (by kernel_rfl) (by kernel_rfl) (by kernel_rfl) (by kernel_rfl) (fun _ _ d _ _ h => by cases d <;> exact h) ?_ (fun hHeld => ?_); (focus (exact ⟨(Below.refl _ _).drew, ck⟩)); simp only [Tree.map, List.getElem?_toArray, List.getElem?_cons_zero, List.getElem?_cons_succ]
          (repeat (first | (refine wpTree.take (v := undef) (Or.inr ⟨by rfl, rfl⟩) ?_; simp only [Act.put, List.setIfInBounds_toArray, List.set_cons_zero, List.set_cons_succ]) | (refine wpTree.take (v := .agg (OpR.cells x.o).toArray) (yieldsIf_load_mid rfl 44 _ rfl _ _ rfl (OpR.cells x.o) _ ?_ Try.underlying44 rfl (oinfo _)) ?_; (focus (intro _ hS; refine range_next hS.1 ?_; assumption)); simp only [Act.put, List.setIfInBounds_toArray, List.set_cons_zero, List.set_cons_succ]) | (refine wpTree.take (v := .agg (OpR.plain x.o).toArray) (yieldsIf_load_mid rfl 35 _ rfl _ _ rfl (OpR.plain x.o) _ ?_ Try.underlying35 rfl (rpinfoL _)) ?_; (focus (intro _ hS; refine range_next hS.1 ?_; assumption)); simp only [Act.put, List.setIfInBounds_toArray, List.set_cons_zero, List.set_cons_succ]) | (refine wpTree.take (v := .agg (Ev.item x).toArray) (yieldsIf_load_mid rfl 31 _ rfl _ _ rfl (Ev.item x) _ ?_ Try.underlying31 rfl (iinfo _)) ?_; (focus (intro _ hS; refine range_next hS.1 ?_; assumption)); simp only [Act.put, List.setIfInBounds_toArray, List.set_cons_zero, List.set_cons_succ]) | (refine wpTree.take (v := .agg (Ev.item y).toArray) (yieldsIf_load_mid rfl 31 _ rfl _ _ rfl (Ev.item y) _ ?_ Try.underlying31 rfl (iinfo _)) ?_; (focus (intro _ hS; refine range_next hS.1 ?_; assumption)); simp only [Act.put, List.setIfInBounds_toArray, List.set_cons_zero, List.set_cons_succ]) | (refine wpTree.take (v := .agg (Ev.item x).toArray) (yieldsIf_load_mid rfl 37 _ rfl _ _ rfl (Ev.item x) _ ?_ Try.underlying37 rfl (einfoL6 _)) ?_; (focus (intro _ hS; refine range_next hS.1 ?_; assumption)); simp only [Act.put, List.setIfInBounds_toArray, List.set_cons_zero, List.set_cons_succ]) | (refine wpTree.take (v := .agg (Ev.item y).toArray) (yieldsIf_load_mid rfl 37 _ rfl _ _ rfl (Ev.item y) _ ?_ Try.underlying37 rfl (einfoL6 _)) ?_; (focus (intro _ hS; refine range_next hS.1 ?_; assumption)); simp only [Act.put, List.setIfInBounds_toArray, List.set_cons_zero, List.set_cons_succ]) | (refine wpTree.take (v := .agg (Ev.item z).toArray) (yieldsIf_load_mid rfl 37 _ rfl _ _ rfl (Ev.item z) _ ?_ Try.underlying37 rfl (einfoL6 _)) ?_; (focus (intro _ hS; refine range_next hS.1 ?_; assumption)); simp only [Act.put, List.setIfInBounds_toArray, List.set_cons_zero, List.set_cons_succ]) | (refine wpTree.take (v := .agg (Ev.cells z).toArray) (yieldsIf_load_mid rfl 46 _ rfl _ _ rfl (Ev.cells z) _ ?_ Try.underlying46 rfl (einfo _)) ?_; (focus (intro _ hS; refine range_next hS.1 ?_; assumption)); simp only [Act.put, List.setIfInBounds_toArray, List.set_cons_zero, List.set_cons_succ]) | (refine wpTree.take (v := ?_) (Or.inl ⟨by rfl, ?_⟩) ?_; rotate_left; (focus (intro _ hS; (try dsimp only at hS); go_split_ands; (try subst hS); go_simp; (try (with_reducible rfl)); done)); simp only [Act.put, List.setIfInBounds_toArray, List.set_cons_zero, List.set_cons_succ])))
          refine wpTree.one (fun K hK => ?_)
          go_simp
          go_at_call 11
          refine (HMAY.out _).mono ?_
          rintro e z1 ⟨rfl, hb⟩
          have hBelow := And.intro (Below.trans hHeld.1 (hb.mono (Below.size hHeld.1))) (cell_next hb hHeld.2)
          refine hK.out _ _ hBelow (fun hHeld' => ?_)
          clear hK K hHeld hBelow hb
          have hHeld := hHeld'
          clear hHeld'
          (try simp only [Act.put, List.setIfInBounds_toArray, List.set_cons_zero, List.set_cons_succ])
          (repeat (first | (refine wpTree.take (v := undef) (Or.inr ⟨by rfl, rfl⟩) ?_; simp only [Act.put, List.setIfInBounds_toArray, List.set_cons_zero, List.set_cons_succ]) | (refine wpTree.take (v := .agg (OpR.cells x.o).toArray) (yieldsIf_load_mid rfl 44 _ rfl _ _ rfl (OpR.cells x.o) _ ?_ Try.underlying44 rfl (oinfo _)) ?_; (focus (intro _ hS; refine range_next hS.1 ?_; assumption)); simp only [Act.put, List.setIfInBounds_toArray, List.set_cons_zero, List.set_cons_succ]) | (refine wpTree.take (v := .agg (OpR.plain x.o).toArray) (yieldsIf_load_mid rfl 35 _ rfl _ _ rfl (OpR.plain x.o) _ ?_ Try.underlying35 rfl (rpinfoL _)) ?_; (focus (intro _ hS; refine range_next hS.1 ?_; assumption)); simp only [Act.put, List.setIfInBounds_toArray, List.set_cons_zero, List.set_cons_succ]) | (refine wpTree.take (v := .agg (Ev.item x).toArray) (yieldsIf_load_mid rfl 31 _ rfl _ _ rfl (Ev.item x) _ ?_ Try.underlying31 rfl (iinfo _)) ?_; (focus (intro _ hS; refine range_next hS.1 ?_; assumption)); simp only [Act.put, List.setIfInBounds_toArray, List.set_cons_zero, List.set_cons_succ]) | (refine wpTree.take (v := .agg (Ev.item y).toArray) (yieldsIf_load_mid rfl 31 _ rfl _ _ rfl (Ev.item y) _ ?_ Try.underlying31 rfl (iinfo _)) ?_; (focus (intro _ hS; refine range_next hS.1 ?_; assumption)); simp only [Act.put, List.setIfInBounds_toArray, List.set_cons_zero, List.set_cons_succ]) | (refine wpTree.take (v := .agg (Ev.item x).toArray) (yieldsIf_load_mid rfl 37 _ rfl _ _ rfl (Ev.item x) _ ?_ Try.underlying37 rfl (einfoL6 _)) ?_; (focus (intro _ hS; refine range_next hS.1 ?_; assumption)); simp only [Act.put, List.setIfInBounds_toArray, List.set_cons_zero, List.set_cons_succ]) | (refine wpTree.take (v := .agg (Ev.item y).toArray) (yieldsIf_load_mid rfl 37 _ rfl _ _ rfl (Ev.item y) _ ?_ Try.underlying37 rfl (einfoL6 _)) ?_; (focus (intro _ hS; refine range_next hS.1 ?_; assumption)); simp only [Act.put, List.setIfInBounds_toArray, List.set_cons_zero, List.set_cons_succ]) | (refine wpTree.take (v := .agg (Ev.item z).toArray) (yieldsIf_load_mid rfl 37 _ rfl _ _ rfl (Ev.item z) _ ?_ Try.underlying37 rfl (einfoL6 _)) ?_; (focus (intro _ hS; refine range_next hS.1 ?_; assumption)); simp only [Act.put, List.setIfInBounds_toArray, List.set_cons_zero, List.set_cons_succ]) | (refine wpTree.take (v := .agg (Ev.cells z).toArray) (yieldsIf_load_mid rfl 46 _ rfl _ _ rfl (Ev.cells z) _ ?_ Try.underlying46 rfl (einfo _)) ?_; (focus (intro _ hS; refine range_next hS.1 ?_; assumption)); simp only [Act.put, List.setIfInBounds_toArray, List.set_cons_zero, List.set_cons_succ]) | (refine wpTree.take (v := ?_) (Or.inl ⟨by rfl, ?_⟩) ?_; rotate_left; (focus (intro _ hS; (try dsimp only at hS); go_split_ands; (try subst hS); go_simp; (try (with_reducible rfl)); done)); simp only [Act.put, List.setIfInBounds_toArray, List.set_cons_zero, List.set_cons_succ])))
          refine wpTree.one (fun K hK => ?_)
          go_simp
          go_at_call 12
          refine (HRMAY.out _).mono ?_
          rintro e z2 ⟨rfl, hb⟩
          have hBelow := And.intro (Below.trans hHeld.1 (hb.mono (Below.size hHeld.1))) (cell_next hb hHeld.2)
          refine hK.out _ _ hBelow (fun hHeld' => ?_)
          clear hK K hHeld hBelow hb
          have hHeld := hHeld'
          clear hHeld'
          (try simp only [Act.put, List.setIfInBounds_toArray, List.set_cons_zero, List.set_cons_succ])
          (repeat (first | (refine wpTree.take (v := undef) (Or.inr ⟨by rfl, rfl⟩) ?_; simp only [Act.put, List.setIfInBounds_toArray, List.set_cons_zero, List.set_cons_succ]) | (refine wpTree.take (v := .agg (OpR.cells x.o).toArray) (yieldsIf_load_mid rfl 44 _ rfl _ _ rfl (OpR.cells x.o) _ ?_ Try.underlying44 rfl (oinfo _)) ?_; (focus (intro _ hS; refine range_next hS.1 ?_; assumption)); simp only [Act.put, List.setIfInBounds_toArray, List.set_cons_zero, List.set_cons_succ]) | (refine wpTree.take (v := .agg (OpR.plain x.o).toArray) (yieldsIf_load_mid rfl 35 _ rfl _ _ rfl (OpR.plain x.o) _ ?_ Try.underlying35 rfl (rpinfoL _)) ?_; (focus (intro _ hS; refine range_next hS.1 ?_; assumption)); simp only [Act.put, List.setIfInBounds_toArray, List.set_cons_zero, List.set_cons_succ]) | (refine wpTree.take (v := .agg (Ev.item x).toArray) (yieldsIf_load_mid rfl 31 _ rfl _ _ rfl (Ev.item x) _ ?_ Try.underlying31 rfl (iinfo _)) ?_; (focus (intro _ hS; refine range_next hS.1 ?_; assumption)); simp only [Act.put, List.setIfInBounds_toArray, List.set_cons_zero, List.set_cons_succ]) | (refine wpTree.take (v := .agg (Ev.item y).toArray) (yieldsIf_load_mid rfl 31 _ rfl _ _ rfl (Ev.item y) _ ?_ Try.underlying31 rfl (iinfo _)) ?_; (focus (intro _ hS; refine range_next hS.1 ?_; assumption)); simp only [Act.put, List.setIfInBounds_toArray, List.set_cons_zero, List.set_cons_succ]) | (refine wpTree.take (v := .agg (Ev.item x).toArray) (yieldsIf_load_mid rfl 37 _ rfl _ _ rfl (Ev.item x) _ ?_ Try.underlying37 rfl (einfoL6 _)) ?_; (focus (intro _ hS; refine range_next hS.1 ?_; assumption)); simp only [Act.put, List.setIfInBounds_toArray, List.set_cons_zero, List.set_cons_succ]) | (refine wpTree.take (v := .agg (Ev.item y).toArray) (yieldsIf_load_mid rfl 37 _ rfl _ _ rfl (Ev.item y) _ ?_ Try.underlying37 rfl (einfoL6 _)) ?_; (focus (intro _ hS; refine range_next hS.1 ?_; assumption)); simp only [Act.put, List.setIfInBounds_toArray, List.set_cons_zero, List.set_cons_succ]) | (refine wpTree.take (v := .agg (Ev.item z).toArray) (yieldsIf_load_mid rfl 37 _ rfl _ _ rfl (Ev.item z) _ ?_ Try.underlying37 rfl (einfoL6 _)) ?_; (focus (intro _ hS; refine range_next hS.1 ?_; assumption)); simp only [Act.put, List.setIfInBounds_toArray, List.set_cons_zero, List.set_cons_succ]) | (refine wpTree.take (v := .agg (Ev.cells z).toArray) (yieldsIf_load_mid rfl 46 _ rfl _ _ rfl (Ev.cells z) _ ?_ Try.underlying46 rfl (einfo _)) ?_; (focus (intro _ hS; refine range_next hS.1 ?_; assumption)); simp only [Act.put, List.setIfInBounds_toArray, List.set_cons_zero, List.set_cons_succ]) | (refine wpTree.take (v := ?_) (Or.inl ⟨by rfl, ?_⟩) ?_; rotate_left; (focus (intro _ hS; (try dsimp only at hS); go_split_ands; (try subst hS); go_simp; (try (with_reducible rfl)); done)); simp only [Act.put, List.setIfInBounds_toArray, List.set_cons_zero, List.set_cons_succ])))
          refine wpTree.one (fun K hK => ?_)
          go_simp
          go_at_call 13
          refine (HCUS.out _).mono ?_
          rintro e z3 ⟨rfl, hb⟩
          have hBelow := And.intro (Below.trans hHeld.1 (hb.mono (Below.size hHeld.1))) (cell_next hb hHeld.2)
          refine hK.out _ _ hBelow (fun hHeld' => ?_)
          clear hK K hHeld hBelow hb
          have hHeld := hHeld'
          clear hHeld'
          (try simp only [Act.put, List.setIfInBounds_toArray, List.set_cons_zero, List.set_cons_succ])
          (repeat (first | (refine wpTree.take (v := undef) (Or.inr ⟨by rfl, rfl⟩) ?_; simp only [Act.put, List.setIfInBounds_toArray, List.set_cons_zero, List.set_cons_succ]) | (refine wpTree.take (v := .agg (OpR.cells x.o).toArray) (yieldsIf_load_mid rfl 44 _ rfl _ _ rfl (OpR.cells x.o) _ ?_ Try.underlying44 rfl (oinfo _)) ?_; (focus (intro _ hS; refine range_next hS.1 ?_; assumption)); simp only [Act.put, List.setIfInBounds_toArray, List.set_cons_zero, List.set_cons_succ]) | (refine wpTree.take (v := .agg (OpR.plain x.o).toArray) (yieldsIf_load_mid rfl 35 _ rfl _ _ rfl (OpR.plain x.o) _ ?_ Try.underlying35 rfl (rpinfoL _)) ?_; (focus (intro _ hS; refine range_next hS.1 ?_; assumption)); simp only [Act.put, List.setIfInBounds_toArray, List.set_cons_zero, List.set_cons_succ]) | (refine wpTree.take (v := .agg (Ev.item x).toArray) (yieldsIf_load_mid rfl 31 _ rfl _ _ rfl (Ev.item x) _ ?_ Try.underlying31 rfl (iinfo _)) ?_; (focus (intro _ hS; refine range_next hS.1 ?_; assumption)); simp only [Act.put, List.setIfInBounds_toArray, List.set_cons_zero, List.set_cons_succ]) | (refine wpTree.take (v := .agg (Ev.item y).toArray) (yieldsIf_load_mid rfl 31 _ rfl _ _ rfl (Ev.item y) _ ?_ Try.underlying31 rfl (iinfo _)) ?_; (focus (intro _ hS; refine range_next hS.1 ?_; assumption)); simp only [Act.put, List.setIfInBounds_toArray, List.set_cons_zero, List.set_cons_succ]) | (refine wpTree.take (v := .agg (Ev.item x).toArray) (yieldsIf_load_mid rfl 37 _ rfl _ _ rfl (Ev.item x) _ ?_ Try.underlying37 rfl (einfoL6 _)) ?_; (focus (intro _ hS; refine range_next hS.1 ?_; assumption)); simp only [Act.put, List.setIfInBounds_toArray, List.set_cons_zero, List.set_cons_succ]) | (refine wpTree.take (v := .agg (Ev.item y).toArray) (yieldsIf_load_mid rfl 37 _ rfl _ _ rfl (Ev.item y) _ ?_ Try.underlying37 rfl (einfoL6 _)) ?_; (focus (intro _ hS; refine range_next hS.1 ?_; assumption)); simp only [Act.put, List.setIfInBounds_toArray, List.set_cons_zero, List.set_cons_succ]) | (refine wpTree.take (v := .agg (Ev.item z).toArray) (yieldsIf_load_mid rfl 37 _ rfl _ _ rfl (Ev.item z) _ ?_ Try.underlying37 rfl (einfoL6 _)) ?_; (focus (intro _ hS; refine range_next hS.1 ?_; assumption)); simp only [Act.put, List.setIfInBounds_toArray, List.set_cons_zero, List.set_cons_succ]) | (refine wpTree.take (v := .agg (Ev.cells z).toArray) (yieldsIf_load_mid rfl 46 _ rfl _ _ rfl (Ev.cells z) _ ?_ Try.underlying46 rfl (einfo _)) ?_; (focus (intro _ hS; refine range_next hS.1 ?_; assumption)); simp only [Act.put, List.setIfInBounds_toArray, List.set_cons_zero, List.set_cons_succ]) | (refine wpTree.take (v := ?_) (Or.inl ⟨by rfl, ?_⟩) ?_; rotate_left; (focus (intro _ hS; (try dsimp only at hS); go_split_ands; (try subst hS); go_simp; (try (with_reducible rfl)); done)); simp only [Act.put, List.setIfInBounds_toArray, List.set_cons_zero, List.set_cons_succ])))
          refine wpTree.one (fun K hK => ?_)
          go_simp
          go_at_call 12
          refine (HRMAY.out _).mono ?_
          rintro e z4 ⟨rfl, hb⟩
          have hBelow := And.intro (Below.trans hHeld.1 (hb.mono (Below.size hHeld.1))) (cell_next hb hHeld.2)
          refine hK.out _ _ hBelow (fun hHeld' => ?_)
          clear hK K hHeld hBelow hb
          have hHeld := hHeld'
          clear hHeld'
          (try simp only [Act.put, List.setIfInBounds_toArray, List.set_cons_zero, List.set_cons_succ])
          (repeat (first | (refine wpTree.take (v := undef) (Or.inr ⟨by rfl, rfl⟩) ?_; simp only [Act.put, List.setIfInBounds_toArray, List.set_cons_zero, List.set_cons_succ]) | (refine wpTree.take (v := .agg (OpR.cells x.o).toArray) (yieldsIf_load_mid rfl 44 _ rfl _ _ rfl (OpR.cells x.o) _ ?_ Try.underlying44 rfl (oinfo _)) ?_; (focus (intro _ hS; refine range_next hS.1 ?_; assumption)); simp only [Act.put, List.setIfInBounds_toArray, List.set_cons_zero, List.set_cons_succ]) | (refine wpTree.take (v := .agg (OpR.plain x.o).toArray) (yieldsIf_load_mid rfl 35 _ rfl _ _ rfl (OpR.plain x.o) _ ?_ Try.underlying35 rfl (rpinfoL _)) ?_; (focus (intro _ hS; refine range_next hS.1 ?_; assumption)); simp only [Act.put, List.setIfInBounds_toArray, List.set_cons_zero, List.set_cons_succ]) | (refine wpTree.take (v := .agg (Ev.item x).toArray) (yieldsIf_load_mid rfl 31 _ rfl _ _ rfl (Ev.item x) _ ?_ Try.underlying31 rfl (iinfo _)) ?_; (focus (intro _ hS; refine range_next hS.1 ?_; assumption)); simp only [Act.put, List.setIfInBounds_toArray, List.set_cons_zero, List.set_cons_succ]) | (refine wpTree.take (v := .agg (Ev.item y).toArray) (yieldsIf_load_mid rfl 31 _ rfl _ _ rfl (Ev.item y) _ ?_ Try.underlying31 rfl (iinfo _)) ?_; (focus (intro _ hS; refine range_next hS.1 ?_; assumption)); simp only [Act.put, List.setIfInBounds_toArray, List.set_cons_zero, List.set_cons_succ]) | (refine wpTree.take (v := .agg (Ev.item x).toArray) (yieldsIf_load_mid rfl 37 _ rfl _ _ rfl (Ev.item x) _ ?_ Try.underlying37 rfl (einfoL6 _)) ?_; (focus (intro _ hS; refine range_next hS.1 ?_; assumption)); simp only [Act.put, List.setIfInBounds_toArray, List.set_cons_zero, List.set_cons_succ]) | (refine wpTree.take (v := .agg (Ev.item y).toArray) (yieldsIf_load_mid rfl 37 _ rfl _ _ rfl (Ev.item y) _ ?_ Try.underlying37 rfl (einfoL6 _)) ?_; (focus (intro _ hS; refine range_next hS.1 ?_; assumption)); simp only [Act.put, List.setIfInBounds_toArray, List.set_cons_zero, List.set_cons_succ]) | (refine wpTree.take (v := .agg (Ev.item z).toArray) (yieldsIf_load_mid rfl 37 _ rfl _ _ rfl (Ev.item z) _ ?_ Try.underlying37 rfl (einfoL6 _)) ?_; (focus (intro _ hS; refine range_next hS.1 ?_; assumption)); simp only [Act.put, List.setIfInBounds_toArray, List.set_cons_zero, List.set_cons_succ]) | (refine wpTree.take (v := .agg (Ev.cells z).toArray) (yieldsIf_load_mid rfl 46 _ rfl _ _ rfl (Ev.cells z) _ ?_ Try.underlying46 rfl (einfo _)) ?_; (focus (intro _ hS; refine range_next hS.1 ?_; assumption)); simp only [Act.put, List.setIfInBounds_toArray, List.set_cons_zero, List.set_cons_succ]) | (refine wpTree.take (v := ?_) (Or.inl ⟨by rfl, ?_⟩) ?_; rotate_left; (focus (intro _ hS; (try dsimp only at hS); go_split_ands; (try subst hS); go_simp; (try (with_reducible rfl)); done)); simp only [Act.put, List.setIfInBounds_toArray, List.set_cons_zero, List.set_cons_succ])))
          refine wpTree.one (fun K hK => ?_)
          go_simp
          go_at_call 7
          refine (itemevent_any x _).mono ?_
          rintro e z5 ⟨rfl, hb⟩
          have hBelow := And.intro (Below.trans hHeld.1 (hb.mono (Below.size hHeld.1))) (cell_next hb hHeld.2)
          refine hK.out _ _ hBelow (fun hHeld' => ?_)
          clear hK K hHeld hBelow hb
          have hHeld := hHeld'
          clear hHeld'
          (try simp only [Act.put, List.setIfInBounds_toArray, List.set_cons_zero, List.set_cons_succ])
          (repeat (first | (refine wpTree.take (v := undef) (Or.inr ⟨by rfl, rfl⟩) ?_; simp only [Act.put, List.setIfInBounds_toArray, List.set_cons_zero, List.set_cons_succ]) | (refine wpTree.take (v := .agg (OpR.cells x.o).toArray) (yieldsIf_load_mid rfl 44 _ rfl _ _ rfl (OpR.cells x.o) _ ?_ Try.underlying44 rfl (oinfo _)) ?_; (focus (intro _ hS; refine range_next hS.1 ?_; assumption)); simp only [Act.put, List.setIfInBounds_toArray, List.set_cons_zero, List.set_cons_succ]) | (refine wpTree.take (v := .agg (OpR.plain x.o).toArray) (yieldsIf_load_mid rfl 35 _ rfl _ _ rfl (OpR.plain x.o) _ ?_ Try.underlying35 rfl (rpinfoL _)) ?_; (focus (intro _ hS; refine range_next hS.1 ?_; assumption)); simp only [Act.put, List.setIfInBounds_toArray, List.set_cons_zero, List.set_cons_succ]) | (refine wpTree.take (v := .agg (Ev.item x).toArray) (yieldsIf_load_mid rfl 31 _ rfl _ _ rfl (Ev.item x) _ ?_ Try.underlying31 rfl (iinfo _)) ?_; (focus (intro _ hS; refine range_next hS.1 ?_; assumption)); simp only [Act.put, List.setIfInBounds_toArray, List.set_cons_zero, List.set_cons_succ]) | (refine wpTree.take (v := .agg (Ev.item y).toArray) (yieldsIf_load_mid rfl 31 _ rfl _ _ rfl (Ev.item y) _ ?_ Try.underlying31 rfl (iinfo _)) ?_; (focus (intro _ hS; refine range_next hS.1 ?_; assumption)); simp only [Act.put, List.setIfInBounds_toArray, List.set_cons_zero, List.set_cons_succ]) | (refine wpTree.take (v := .agg (Ev.item x).toArray) (yieldsIf_load_mid rfl 37 _ rfl _ _ rfl (Ev.item x) _ ?_ Try.underlying37 rfl (einfoL6 _)) ?_; (focus (intro _ hS; refine range_next hS.1 ?_; assumption)); simp only [Act.put, List.setIfInBounds_toArray, List.set_cons_zero, List.set_cons_succ]) | (refine wpTree.take (v := .agg (Ev.item y).toArray) (yieldsIf_load_mid rfl 37 _ rfl _ _ rfl (Ev.item y) _ ?_ Try.underlying37 rfl (einfoL6 _)) ?_; (focus (intro _ hS; refine range_next hS.1 ?_; assumption)); simp only [Act.put, List.setIfInBounds_toArray, List.set_cons_zero, List.set_cons_succ]) | (refine wpTree.take (v := .agg (Ev.item z).toArray) (yieldsIf_load_mid rfl 37 _ rfl _ _ rfl (Ev.item z) _ ?_ Try.underlying37 rfl (einfoL6 _)) ?_; (focus (intro _ hS; refine range_next hS.1 ?_; assumption)); simp only [Act.put, List.setIfInBounds_toArray, List.set_cons_zero, List.set_cons_succ]) | (refine wpTree.take (v := .agg (Ev.cells z).toArray) (yieldsIf_load_mid rfl 46 _ rfl _ _ rfl (Ev.cells z) _ ?_ Try.underlying46 rfl (einfo _)) ?_; (focus (intro _ hS; refine range_next hS.1 ?_; assumption)); simp only [Act.put, List.setIfInBounds_toArray, List.set_cons_zero, List.set_cons_succ]) | (refine wpTree.take (v := ?_) (Or.inl ⟨by rfl, ?_⟩) ?_; rotate_left; (focus (intro _ hS; (try dsimp only at hS); go_split_ands; (try subst hS); go_simp; (try (with_reducible rfl)); done)); simp only [Act.put, List.setIfInBounds_toArray, List.set_cons_zero, List.set_cons_succ])))
          refine wpTree.one (fun K hK => ?_)
          go_simp
          go_at_call 14
          refine (HERI.out _).mono ?_
          rintro e z6 ⟨rfl, hb⟩
          have hBelow := And.intro (Below.trans hHeld.1 (hb.mono (Below.size hHeld.1))) (cell_next hb hHeld.2)
          refine hK.out _ _ hBelow (fun hHeld' => ?_)
          clear hK K hHeld hBelow hb
          have hHeld := hHeld'
          clear hHeld'
          (try simp only [Act.put, List.setIfInBounds_toArray, List.set_cons_zero, List.set_cons_succ])
          (repeat (first | (refine wpTree.take (v := undef) (Or.inr ⟨by rfl, rfl⟩) ?_; simp only [Act.put, List.setIfInBounds_toArray, List.set_cons_zero, List.set_cons_succ]) | (refine wpTree.take (v := .agg (OpR.cells x.o).toArray) (yieldsIf_load_mid rfl 44 _ rfl _ _ rfl (OpR.cells x.o) _ ?_ Try.underlying44 rfl (oinfo _)) ?_; (focus (intro _ hS; refine range_next hS.1 ?_; assumption)); simp only [Act.put, List.setIfInBounds_toArray, List.set_cons_zero, List.set_cons_succ]) | (refine wpTree.take (v := .agg (OpR.plain x.o).toArray) (yieldsIf_load_mid rfl 35 _ rfl _ _ rfl (OpR.plain x.o) _ ?_ Try.underlying35 rfl (rpinfoL _)) ?_; (focus (intro _ hS; refine range_next hS.1 ?_; assumption)); simp only [Act.put, List.setIfInBounds_toArray, List.set_cons_zero, List.set_cons_succ]) | (refine wpTree.take (v := .agg (Ev.item x).toArray) (yieldsIf_load_mid rfl 31 _ rfl _ _ rfl (Ev.item x) _ ?_ Try.underlying31 rfl (iinfo _)) ?_; (focus (intro _ hS; refine range_next hS.1 ?_; assumption)); simp only [Act.put, List.setIfInBounds_toArray, List.set_cons_zero, List.set_cons_succ]) | (refine wpTree.take (v := .agg (Ev.item y).toArray) (yieldsIf_load_mid rfl 31 _ rfl _ _ rfl (Ev.item y) _ ?_ Try.underlying31 rfl (iinfo _)) ?_; (focus (intro _ hS; refine range_next hS.1 ?_; assumption)); simp only [Act.put, List.setIfInBounds_toArray, List.set_cons_zero, List.set_cons_succ]) | (refine wpTree.take (v := .agg (Ev.item x).toArray) (yieldsIf_load_mid rfl 37 _ rfl _ _ rfl (Ev.item x) _ ?_ Try.underlying37 rfl (einfoL6 _)) ?_; (focus (intro _ hS; refine range_next hS.1 ?_; assumption)); simp only [Act.put, List.setIfInBounds_toArray, List.set_cons_zero, List.set_cons_succ]) | (refine wpTree.take (v := .agg (Ev.item y).toArray) (yieldsIf_load_mid rfl 37 _ rfl _ _ rfl (Ev.item y) _ ?_ Try.underlying37 rfl (einfoL6 _)) ?_; (focus (intro _ hS; refine range_next hS.1 ?_; assumption)); simp only [Act.put, List.setIfInBounds_toArray, List.set_cons_zero, List.set_cons_succ]) | (refine wpTree.take (v := .agg (Ev.item z).toArray) (yieldsIf_load_mid rfl 37 _ rfl _ _ rfl (Ev.item z) _ ?_ Try.underlying37 rfl (einfoL6 _)) ?_; (focus (intro _ hS; refine range_next hS.1 ?_; assumption)); simp only [Act.put, List.setIfInBounds_toArray, List.set_cons_zero, List.set_cons_succ]) | (refine wpTree.take (v := .agg (Ev.cells z).toArray) (yieldsIf_load_mid rfl 46 _ rfl _ _ rfl (Ev.cells z) _ ?_ Try.underlying46 rfl (einfo _)) ?_; (focus (intro _ hS; refine range_next hS.1 ?_; assumption)); simp only [Act.put, List.setIfInBounds_toArray, List.set_cons_zero, List.set_cons_succ]) | (refine wpTree.take (v := ?_) (Or.inl ⟨by rfl, ?_⟩) ?_; rotate_left; (focus (intro _ hS; (try dsimp only at hS); go_split_ands; (try subst hS); go_simp; (try (with_reducible rfl)); done)); simp only [Act.put, List.setIfInBounds_toArray, List.set_cons_zero, List.set_cons_succ])))
          refine wpTree.one (fun K hK => ?_)
          go_simp
          go_at_call 15
          refine (HRRI.out _).mono ?_
          rintro e z7 ⟨rfl, hb⟩
          have hBelow := And.intro (Below.trans hHeld.1 (hb.mono (Below.size hHeld.1))) (cell_next hb hHeld.2)
          refine hK.out _ _ hBelow (fun hHeld' => ?_)
          clear hK K hHeld hBelow hb
          have hHeld := hHeld'
          clear hHeld'
          (try simp only [Act.put, List.setIfInBounds_toArray, List.set_cons_zero, List.set_cons_succ])
          (repeat (first | (refine wpTree.take (v := undef) (Or.inr ⟨by rfl, rfl⟩) ?_; simp only [Act.put, List.setIfInBounds_toArray, List.set_cons_zero, List.set_cons_succ]) | (refine wpTree.take (v := .agg (OpR.cells x.o).toArray) (yieldsIf_load_mid rfl 44 _ rfl _ _ rfl (OpR.cells x.o) _ ?_ Try.underlying44 rfl (oinfo _)) ?_; (focus (intro _ hS; refine range_next hS.1 ?_; assumption)); simp only [Act.put, List.setIfInBounds_toArray, List.set_cons_zero, List.set_cons_succ]) | (refine wpTree.take (v := .agg (OpR.plain x.o).toArray) (yieldsIf_load_mid rfl 35 _ rfl _ _ rfl (OpR.plain x.o) _ ?_ Try.underlying35 rfl (rpinfoL _)) ?_; (focus (intro _ hS; refine range_next hS.1 ?_; assumption)); simp only [Act.put, List.setIfInBounds_toArray, List.set_cons_zero, List.set_cons_succ]) | (refine wpTree.take (v := .agg (Ev.item x).toArray) (yieldsIf_load_mid rfl 31 _ rfl _ _ rfl (Ev.item x) _ ?_ Try.underlying31 rfl (iinfo _)) ?_; (focus (intro _ hS; refine range_next hS.1 ?_; assumption)); simp only [Act.put, List.setIfInBounds_toArray, List.set_cons_zero, List.set_cons_succ]) | (refine wpTree.take (v := .agg (Ev.item y).toArray) (yieldsIf_load_mid rfl 31 _ rfl _ _ rfl (Ev.item y) _ ?_ Try.underlying31 rfl (iinfo _)) ?_; (focus (intro _ hS; refine range_next hS.1 ?_; assumption)); simp only [Act.put, List.setIfInBounds_toArray, List.set_cons_zero, List.set_cons_succ]) | (refine wpTree.take (v := .agg (Ev.item x).toArray) (yieldsIf_load_mid rfl 37 _ rfl _ _ rfl (Ev.item x) _ ?_ Try.underlying37 rfl (einfoL6 _)) ?_; (focus (intro _ hS; refine range_next hS.1 ?_; assumption)); simp only [Act.put, List.setIfInBounds_toArray, List.set_cons_zero, List.set_cons_succ]) | (refine wpTree.take (v := .agg (Ev.item y).toArray) (yieldsIf_load_mid rfl 37 _ rfl _ _ rfl (Ev.item y) _ ?_ Try.underlying37 rfl (einfoL6 _)) ?_; (focus (intro _ hS; refine range_next hS.1 ?_; assumption)); simp only [Act.put, List.setIfInBounds_toArray, List.set_cons_zero, List.set_cons_succ]) | (refine wpTree.take (v := .agg (Ev.item z).toArray) (yieldsIf_load_mid rfl 37 _ rfl _ _ rfl (Ev.item z) _ ?_ Try.underlying37 rfl (einfoL6 _)) ?_; (focus (intro _ hS; refine range_next hS.1 ?_; assumption)); simp only [Act.put, List.setIfInBounds_toArray, List.set_cons_zero, List.set_cons_succ]) | (refine wpTree.take (v := .agg (Ev.cells z).toArray) (yieldsIf_load_mid rfl 46 _ rfl _ _ rfl (Ev.cells z) _ ?_ Try.underlying46 rfl (einfo _)) ?_; (focus (intro _ hS; refine range_next hS.1 ?_; assumption)); simp only [Act.put, List.setIfInBounds_toArray, List.set_cons_zero, List.set_cons_succ]) | (refine wpTree.take (v := ?_) (Or.inl ⟨by rfl, ?_⟩) ?_; rotate_left; (focus (intro _ hS; (try dsimp only at hS); go_split_ands; (try subst hS); go_simp; (try (with_reducible rfl)); done)); simp only [Act.put, List.setIfInBounds_toArray, List.set_cons_zero, List.set_cons_succ])))
          refine wpTree.one (fun K hK => ?_)
          go_simp
          go_at_call 7
          refine (itemevent_any x _).mono ?_
          rintro e z8 ⟨rfl, hb⟩
          have hBelow := And.intro (Below.trans hHeld.1 (hb.mono (Below.size hHeld.1))) (cell_next hb hHeld.2)
          refine hK.out _ _ hBelow (fun hHeld' => ?_)
          clear hK K hHeld hBelow hb
          have hHeld := hHeld'
          clear hHeld'
          (try simp only [Act.put, List.setIfInBounds_toArray, List.set_cons_zero, List.set_cons_succ])
          (repeat (first | (refine wpTree.take (v := undef) (Or.inr ⟨by rfl, rfl⟩) ?_; simp only [Act.put, List.setIfInBounds_toArray, List.set_cons_zero, List.set_cons_succ]) | (refine wpTree.take (v := .agg (OpR.cells x.o).toArray) (yieldsIf_load_mid rfl 44 _ rfl _ _ rfl (OpR.cells x.o) _ ?_ Try.underlying44 rfl (oinfo _)) ?_; (focus (intro _ hS; refine range_next hS.1 ?_; assumption)); simp only [Act.put, List.setIfInBounds_toArray, List.set_cons_zero, List.set_cons_succ]) | (refine wpTree.take (v := .agg (OpR.plain x.o).toArray) (yieldsIf_load_mid rfl 35 _ rfl _ _ rfl (OpR.plain x.o) _ ?_ Try.underlying35 rfl (rpinfoL _)) ?_; (focus (intro _ hS; refine range_next hS.1 ?_; assumption)); simp only [Act.put, List.setIfInBounds_toArray, List.set_cons_zero, List.set_cons_succ]) | (refine wpTree.take (v := .agg (Ev.item x).toArray) (yieldsIf_load_mid rfl 31 _ rfl _ _ rfl (Ev.item x) _ ?_ Try.underlying31 rfl (iinfo _)) ?_; (focus (intro _ hS; refine range_next hS.1 ?_; assumption)); simp only [Act.put, List.setIfInBounds_toArray, List.set_cons_zero, List.set_cons_succ]) | (refine wpTree.take (v := .agg (Ev.item y).toArray) (yieldsIf_load_mid rfl 31 _ rfl _ _ rfl (Ev.item y) _ ?_ Try.underlying31 rfl (iinfo _)) ?_; (focus (intro _ hS; refine range_next hS.1 ?_; assumption)); simp only [Act.put, List.setIfInBounds_toArray, List.set_cons_zero, List.set_cons_succ]) | (refine wpTree.take (v := .agg (Ev.item x).toArray) (yieldsIf_load_mid rfl 37 _ rfl _ _ rfl (Ev.item x) _ ?_ Try.underlying37 rfl (einfoL6 _)) ?_; (focus (intro _ hS; refine range_next hS.1 ?_; assumption)); simp only [Act.put, List.setIfInBounds_toArray, List.set_cons_zero, List.set_cons_succ]) | (refine wpTree.take (v := .agg (Ev.item y).toArray) (yieldsIf_load_mid rfl 37 _ rfl _ _ rfl (Ev.item y) _ ?_ Try.underlying37 rfl (einfoL6 _)) ?_; (focus (intro _ hS; refine range_next hS.1 ?_; assumption)); simp only [Act.put, List.setIfInBounds_toArray, List.set_cons_zero, List.set_cons_succ]) | (refine wpTree.take (v := .agg (Ev.item z).toArray) (yieldsIf_load_mid rfl 37 _ rfl _ _ rfl (Ev.item z) _ ?_ Try.underlying37 rfl (einfoL6 _)) ?_; (focus (intro _ hS; refine range_next hS.1 ?_; assumption)); simp only [Act.put, List.setIfInBounds_toArray, List.set_cons_zero, List.set_cons_succ]) | (refine wpTree.take (v := .agg (Ev.cells z).toArray) (yieldsIf_load_mid rfl 46 _ rfl _ _ rfl (Ev.cells z) _ ?_ Try.underlying46 rfl (einfo _)) ?_; (focus (intro _ hS; refine range_next hS.1 ?_; assumption)); simp only [Act.put, List.setIfInBounds_toArray, List.set_cons_zero, List.set_cons_succ]) | (refine wpTree.take (v := ?_) (Or.inl ⟨by rfl, ?_⟩) ?_; rotate_left; (focus (intro _ hS; (try dsimp only at hS); go_split_ands; (try subst hS); go_simp; (try (with_reducible rfl)); done)); simp only [Act.put, List.setIfInBounds_toArray, List.set_cons_zero, List.set_cons_succ])))
          refine wpTree.one (fun K hK => ?_)
          go_simp
          go_at_call 7
          refine (itemevent_any y _).mono ?_
          rintro e z9 ⟨rfl, hb⟩
          have hBelow := And.intro (Below.trans hHeld.1 (hb.mono (Below.size hHeld.1))) (cell_next hb hHeld.2)
          refine hK.out _ _ hBelow (fun hHeld' => ?_)
          clear hK K hHeld hBelow hb
          have hHeld := hHeld'
          clear hHeld'
          (try simp only [Act.put, List.setIfInBounds_toArray, List.set_cons_zero, List.set_cons_succ])
          (repeat (first | (refine wpTree.take (v := undef) (Or.inr ⟨by rfl, rfl⟩) ?_; simp only [Act.put, List.setIfInBounds_toArray, List.set_cons_zero, List.set_cons_succ]) | (refine wpTree.take (v := .agg (OpR.cells x.o).toArray) (yieldsIf_load_mid rfl 44 _ rfl _ _ rfl (OpR.cells x.o) _ ?_ Try.underlying44 rfl (oinfo _)) ?_; (focus (intro _ hS; refine range_next hS.1 ?_; assumption)); simp only [Act.put, List.setIfInBounds_toArray, List.set_cons_zero, List.set_cons_succ]) | (refine wpTree.take (v := .agg (OpR.plain x.o).toArray) (yieldsIf_load_mid rfl 35 _ rfl _ _ rfl (OpR.plain x.o) _ ?_ Try.underlying35 rfl (rpinfoL _)) ?_; (focus (intro _ hS; refine range_next hS.1 ?_; assumption)); simp only [Act.put, List.setIfInBounds_toArray, List.set_cons_zero, List.set_cons_succ]) | (refine wpTree.take (v := .agg (Ev.item x).toArray) (yieldsIf_load_mid rfl 31 _ rfl _ _ rfl (Ev.item x) _ ?_ Try.underlying31 rfl (iinfo _)) ?_; (focus (intro _ hS; refine range_next hS.1 ?_; assumption)); simp only [Act.put, List.setIfInBounds_toArray, List.set_cons_zero, List.set_cons_succ]) | (refine wpTree.take (v := .agg (Ev.item y).toArray) (yieldsIf_load_mid rfl 31 _ rfl _ _ rfl (Ev.item y) _ ?_ Try.underlying31 rfl (iinfo _)) ?_; (focus (intro _ hS; refine range_next hS.1 ?_; assumption)); simp only [Act.put, List.setIfInBounds_toArray, List.set_cons_zero, List.set_cons_succ]) | (refine wpTree.take (v := .agg (Ev.item x).toArray) (yieldsIf_load_mid rfl 37 _ rfl _ _ rfl (Ev.item x) _ ?_ Try.underlying37 rfl (einfoL6 _)) ?_; (focus (intro _ hS; refine range_next hS.1 ?_; assumption)); simp only [Act.put, List.setIfInBounds_toArray, List.set_cons_zero, List.set_cons_succ]) | (refine wpTree.take (v := .agg (Ev.item y).toArray) (yieldsIf_load_mid rfl 37 _ rfl _ _ rfl (Ev.item y) _ ?_ Try.underlying37 rfl (einfoL6 _)) ?_; (focus (intro _ hS; refine range_next hS.1 ?_; assumption)); simp only [Act.put, List.setIfInBounds_toArray, List.set_cons_zero, List.set_cons_succ]) | (refine wpTree.take (v := .agg (Ev.item z).toArray) (yieldsIf_load_mid rfl 37 _ rfl _ _ rfl (Ev.item z) _ ?_ Try.underlying37 rfl (einfoL6 _)) ?_; (focus (intro _ hS; refine range_next hS.1 ?_; assumption)); simp only [Act.put, List.setIfInBounds_toArray, List.set_cons_zero, List.set_cons_succ]) | (refine wpTree.take (v := .agg (Ev.cells z).toArray) (yieldsIf_load_mid rfl 46 _ rfl _ _ rfl (Ev.cells z) _ ?_ Try.underlying46 rfl (einfo _)) ?_; (focus (intro _ hS; refine range_next hS.1 ?_; assumption)); simp only [Act.put, List.setIfInBounds_toArray, List.set_cons_zero, List.set_cons_succ]) | (refine wpTree.take (v := ?_) (Or.inl ⟨by rfl, ?_⟩) ?_; rotate_left; (focus (intro _ hS; (try dsimp only at hS); go_split_ands; (try subst hS); go_simp; (try (with_reducible rfl)); done)); simp only [Act.put, List.setIfInBounds_toArray, List.set_cons_zero, List.set_cons_succ])))
          refine wpTree.one (fun K hK => ?_)
          go_simp
          go_at_call 16
          refine (HSAM.out _).mono ?_
          rintro e z10 ⟨rfl, hb⟩
          have hBelow := And.intro (Below.trans hHeld.1 (hb.mono (Below.size hHeld.1))) (cell_next hb hHeld.2)
          refine hK.out _ _ hBelow (fun hHeld' => ?_)
          clear hK K hHeld hBelow hb
          have hHeld := hHeld'
          clear hHeld'
          (try simp only [Act.put, List.setIfInBounds_toArray, List.set_cons_zero, List.set_cons_succ])
          (repeat (first | (refine wpTree.take (v := undef) (Or.inr ⟨by rfl, rfl⟩) ?_; simp only [Act.put, List.setIfInBounds_toArray, List.set_cons_zero, List.set_cons_succ]) | (refine wpTree.take (v := .agg (OpR.cells x.o).toArray) (yieldsIf_load_mid rfl 44 _ rfl _ _ rfl (OpR.cells x.o) _ ?_ Try.underlying44 rfl (oinfo _)) ?_; (focus (intro _ hS; refine range_next hS.1 ?_; assumption)); simp only [Act.put, List.setIfInBounds_toArray, List.set_cons_zero, List.set_cons_succ]) | (refine wpTree.take (v := .agg (OpR.plain x.o).toArray) (yieldsIf_load_mid rfl 35 _ rfl _ _ rfl (OpR.plain x.o) _ ?_ Try.underlying35 rfl (rpinfoL _)) ?_; (focus (intro _ hS; refine range_next hS.1 ?_; assumption)); simp only [Act.put, List.setIfInBounds_toArray, List.set_cons_zero, List.set_cons_succ]) | (refine wpTree.take (v := .agg (Ev.item x).toArray) (yieldsIf_load_mid rfl 31 _ rfl _ _ rfl (Ev.item x) _ ?_ Try.underlying31 rfl (iinfo _)) ?_; (focus (intro _ hS; refine range_next hS.1 ?_; assumption)); simp only [Act.put, List.setIfInBounds_toArray, List.set_cons_zero, List.set_cons_succ]) | (refine wpTree.take (v := .agg (Ev.item y).toArray) (yieldsIf_load_mid rfl 31 _ rfl _ _ rfl (Ev.item y) _ ?_ Try.underlying31 rfl (iinfo _)) ?_; (focus (intro _ hS; refine range_next hS.1 ?_; assumption)); simp only [Act.put, List.setIfInBounds_toArray, List.set_cons_zero, List.set_cons_succ]) | (refine wpTree.take (v := .agg (Ev.item x).toArray) (yieldsIf_load_mid rfl 37 _ rfl _ _ rfl (Ev.item x) _ ?_ Try.underlying37 rfl (einfoL6 _)) ?_; (focus (intro _ hS; refine range_next hS.1 ?_; assumption)); simp only [Act.put, List.setIfInBounds_toArray, List.set_cons_zero, List.set_cons_succ]) | (refine wpTree.take (v := .agg (Ev.item y).toArray) (yieldsIf_load_mid rfl 37 _ rfl _ _ rfl (Ev.item y) _ ?_ Try.underlying37 rfl (einfoL6 _)) ?_; (focus (intro _ hS; refine range_next hS.1 ?_; assumption)); simp only [Act.put, List.setIfInBounds_toArray, List.set_cons_zero, List.set_cons_succ]) | (refine wpTree.take (v := .agg (Ev.item z).toArray) (yieldsIf_load_mid rfl 37 _ rfl _ _ rfl (Ev.item z) _ ?_ Try.underlying37 rfl (einfoL6 _)) ?_; (focus (intro _ hS; refine range_next hS.1 ?_; assumption)); simp only [Act.put, List.setIfInBounds_toArray, List.set_cons_zero, List.set_cons_succ]) | (refine wpTree.take (v := .agg (Ev.cells z).toArray) (yieldsIf_load_mid rfl 46 _ rfl _ _ rfl (Ev.cells z) _ ?_ Try.underlying46 rfl (einfo _)) ?_; (focus (intro _ hS; refine range_next hS.1 ?_; assumption)); simp only [Act.put, List.setIfInBounds_toArray, List.set_cons_zero, List.set_cons_succ]) | (refine wpTree.take (v := ?_) (Or.inl ⟨by rfl, ?_⟩) ?_; rotate_left; (focus (intro _ hS; (try dsimp only at hS); go_split_ands; (try subst hS); go_simp; (try (with_reducible rfl)); done)); simp only [Act.put, List.setIfInBounds_toArray, List.set_cons_zero, List.set_cons_succ])))
          refine wpTree.one (fun K hK => ?_)
          go_simp
          go_at_call 17
          refine (of6_any z _).mono ?_
          rintro e z11 ⟨rfl, hb⟩
          have hBelow := And.intro (Below.trans hHeld.1 (hb.mono (Below.size hHeld.1))) (cell_next hb hHeld.2)
          refine hK.out _ _ hBelow (fun hHeld' => ?_)
          clear hK K hHeld hBelow hb
          have hHeld := hHeld'
          clear hHeld'
          (try simp only [Act.put, List.setIfInBounds_toArray, List.set_cons_zero, List.set_cons_succ])
          (repeat (first | (refine wpTree.take (v := undef) (Or.inr ⟨by rfl, rfl⟩) ?_; simp only [Act.put, List.setIfInBounds_toArray, List.set_cons_zero, List.set_cons_succ]) | (refine wpTree.take (v := .agg (OpR.cells x.o).toArray) (yieldsIf_load_mid rfl 44 _ rfl _ _ rfl (OpR.cells x.o) _ ?_ Try.underlying44 rfl (oinfo _)) ?_; (focus (intro _ hS; refine range_next hS.1 ?_; assumption)); simp only [Act.put, List.setIfInBounds_toArray, List.set_cons_zero, List.set_cons_succ]) | (refine wpTree.take (v := .agg (OpR.plain x.o).toArray) (yieldsIf_load_mid rfl 35 _ rfl _ _ rfl (OpR.plain x.o) _ ?_ Try.underlying35 rfl (rpinfoL _)) ?_; (focus (intro _ hS; refine range_next hS.1 ?_; assumption)); simp only [Act.put, List.setIfInBounds_toArray, List.set_cons_zero, List.set_cons_succ]) | (refine wpTree.take (v := .agg (Ev.item x).toArray) (yieldsIf_load_mid rfl 31 _ rfl _ _ rfl (Ev.item x) _ ?_ Try.underlying31 rfl (iinfo _)) ?_; (focus (intro _ hS; refine range_next hS.1 ?_; assumption)); simp only [Act.put, List.setIfInBounds_toArray, List.set_cons_zero, List.set_cons_succ]) | (refine wpTree.take (v := .agg (Ev.item y).toArray) (yieldsIf_load_mid rfl 31 _ rfl _ _ rfl (Ev.item y) _ ?_ Try.underlying31 rfl (iinfo _)) ?_; (focus (intro _ hS; refine range_next hS.1 ?_; assumption)); simp only [Act.put, List.setIfInBounds_toArray, List.set_cons_zero, List.set_cons_succ]) | (refine wpTree.take (v := .agg (Ev.item x).toArray) (yieldsIf_load_mid rfl 37 _ rfl _ _ rfl (Ev.item x) _ ?_ Try.underlying37 rfl (einfoL6 _)) ?_; (focus (intro _ hS; refine range_next hS.1 ?_; assumption)); simp only [Act.put, List.setIfInBounds_toArray, List.set_cons_zero, List.set_cons_succ]) | (refine wpTree.take (v := .agg (Ev.item y).toArray) (yieldsIf_load_mid rfl 37 _ rfl _ _ rfl (Ev.item y) _ ?_ Try.underlying37 rfl (einfoL6 _)) ?_; (focus (intro _ hS; refine range_next hS.1 ?_; assumption)); simp only [Act.put, List.setIfInBounds_toArray, List.set_cons_zero, List.set_cons_succ]) | (refine wpTree.take (v := .agg (Ev.item z).toArray) (yieldsIf_load_mid rfl 37 _ rfl _ _ rfl (Ev.item z) _ ?_ Try.underlying37 rfl (einfoL6 _)) ?_; (focus (intro _ hS; refine range_next hS.1 ?_; assumption)); simp only [Act.put, List.setIfInBounds_toArray, List.set_cons_zero, List.set_cons_succ]) | (refine wpTree.take (v := .agg (Ev.cells z).toArray) (yieldsIf_load_mid rfl 46 _ rfl _ _ rfl (Ev.cells z) _ ?_ Try.underlying46 rfl (einfo _)) ?_; (focus (intro _ hS; refine range_next hS.1 ?_; assumption)); simp only [Act.put, List.setIfInBounds_toArray, List.set_cons_zero, List.set_cons_succ]) | (refine wpTree.take (v := ?_) (Or.inl ⟨by rfl, ?_⟩) ?_; rotate_left; (focus (intro _ hS; (try dsimp only at hS); go_split_ands; (try subst hS); go_simp; (try (with_reducible rfl)); done)); simp only [Act.put, List.setIfInBounds_toArray, List.set_cons_zero, List.set_cons_succ])))
          refine wpTree.done ?_
          clear ro rp rx ry rxr ryr rzr rz
          go_wp2_with fail
          go_meet
          exact ⟨rfl, hHeld.1⟩
      | false =>
        have hcu := HKF.out hmm
        simp only [hmm] at HMAY HRMAY
        simp only [hcu] at HCUS
        clear hmm hcu HKR HKF
        rcases HOK.out with ⟨rfl, rfl⟩ | ⟨rfl, rfl⟩
        · skip
          refine wp_region_tree (S := (fun w => Below w8.heap.size w8 w ∧ w.cell? ⟨g1, 17, none⟩ = some (.int .i64 x.o.k))) (.take 0 (.take 2 (.take 3 (.one 1 (.one 4 (.take 5 (.take 6 (.take 7 (.take 9 (.take 10 (.one 8 (.one 11 (.take 12 (.take 13 (.take 14 (.take 15 (.take 16 (.take 17 (.take 18 (.take 19 (.take 20 (.take 21 (.take 24 (.one 22 (.one 23 (.one 25 (.take 26 (.take 27 (.take 28 (.take 29 (.take 31 (.take 34 (.take 35 (.take 36 (.one 30 (.one 32 (.one 33 (.take 37 (.take 38 (.take 39 (.take 40 (.take 42 (.one 41 (.take 43 (.take 44 (.take 45 (.take 46 (.take 47 (.take 48 (.take 49 (.take 50 (.take 51 (.take 52 (.take 53 (.take 54 (.take 55 (.take 56 (.take 57 (.take 58 .nil))))))))))))))))))))))))))))))))))))))))))))))))))))))))))) 9999 (by kernel_rfl) (by kernel_rfl) (by kernel_rfl) (by kernel_rfl) (by kernel_rfl) (fun _ _ d _ _ h => by cases d <;> exact h) ?_ (fun hHeld => ?_); (focus (exact ⟨(Below.refl _ _).drew, ck⟩)); simp only [Tree.map, List.getElem?_toArray, List.getElem?_cons_zero, List.getElem?_cons_succ]
          (repeat (first | (refine wpTree.take (v := undef) (Or.inr ⟨by rfl, rfl⟩) ?_; simp only [Act.put, List.setIfInBounds_toArray, List.set_cons_zero, List.set_cons_succ]) | (refine wpTree.take (v := .agg (OpR.cells x.o).toArray) (yieldsIf_load_mid rfl 44 _ rfl _ _ rfl (OpR.cells x.o) _ ?_ Try.underlying44 rfl (oinfo _)) ?_; (focus (intro _ hS; refine range_next hS.1 ?_; assumption)); simp only [Act.put, List.setIfInBounds_toArray, List.set_cons_zero, List.set_cons_succ]) | (refine wpTree.take (v := .agg (OpR.plain x.o).toArray) (yieldsIf_load_mid rfl 35 _ rfl _ _ rfl (OpR.plain x.o) _ ?_ Try.underlying35 rfl (rpinfoL _)) ?_; (focus (intro _ hS; refine range_next hS.1 ?_; assumption)); simp only [Act.put, List.setIfInBounds_toArray, List.set_cons_zero, List.set_cons_succ]) | (refine wpTree.take (v := .agg (Ev.item x).toArray) (yieldsIf_load_mid rfl 31 _ rfl _ _ rfl (Ev.item x) _ ?_ Try.underlying31 rfl (iinfo _)) ?_; (focus (intro _ hS; refine range_next hS.1 ?_; assumption)); simp only [Act.put, List.setIfInBounds_toArray, List.set_cons_zero, List.set_cons_succ]) | (refine wpTree.take (v := .agg (Ev.item y).toArray) (yieldsIf_load_mid rfl 31 _ rfl _ _ rfl (Ev.item y) _ ?_ Try.underlying31 rfl (iinfo _)) ?_; (focus (intro _ hS; refine range_next hS.1 ?_; assumption)); simp only [Act.put, List.setIfInBounds_toArray, List.set_cons_zero, List.set_cons_succ]) | (refine wpTree.take (v := .agg (Ev.item x).toArray) (yieldsIf_load_mid rfl 37 _ rfl _ _ rfl (Ev.item x) _ ?_ Try.underlying37 rfl (einfoL6 _)) ?_; (focus (intro _ hS; refine range_next hS.1 ?_; assumption)); simp only [Act.put, List.setIfInBounds_toArray, List.set_cons_zero, List.set_cons_succ]) | (refine wpTree.take (v := .agg (Ev.item y).toArray) (yieldsIf_load_mid rfl 37 _ rfl _ _ rfl (Ev.item y) _ ?_ Try.underlying37 rfl (einfoL6 _)) ?_; (focus (intro _ hS; refine range_next hS.1 ?_; assumption)); simp only [Act.put, List.setIfInBounds_toArray, List.set_cons_zero, List.set_cons_succ]) | (refine wpTree.take (v := .agg (Ev.item z).toArray) (yieldsIf_load_mid rfl 37 _ rfl _ _ rfl (Ev.item z) _ ?_ Try.underlying37 rfl (einfoL6 _)) ?_; (focus (intro _ hS; refine range_next hS.1 ?_; assumption)); simp only [Act.put, List.setIfInBounds_toArray, List.set_cons_zero, List.set_cons_succ]) | (refine wpTree.take (v := .agg (Ev.cells z).toArray) (yieldsIf_load_mid rfl 46 _ rfl _ _ rfl (Ev.cells z) _ ?_ Try.underlying46 rfl (einfo _)) ?_; (focus (intro _ hS; refine range_next hS.1 ?_; assumption)); simp only [Act.put, List.setIfInBounds_toArray, List.set_cons_zero, List.set_cons_succ]) | (refine wpTree.take (v := ?_) (Or.inl ⟨by rfl, ?_⟩) ?_; rotate_left; (focus (intro _ hS; (try dsimp only at hS); go_split_ands; (try subst hS); go_simp; (try (with_reducible rfl)); done)); simp only [Act.put, List.setIfInBounds_toArray, List.set_cons_zero, List.set_cons_succ])))
          refine wpTree.one (fun K hK => ?_)
          go_simp
          go_at_call 11
          refine (HMAY.out _).mono ?_
          rintro e z1 ⟨rfl, hb⟩
          have hBelow := And.intro (Below.trans hHeld.1 (hb.mono (Below.size hHeld.1))) (cell_next hb hHeld.2)
          refine hK.out _ _ hBelow (fun hHeld' => ?_)
          clear hK K hHeld hBelow hb
          have hHeld := hHeld'
          clear hHeld'
          (try simp only [Act.put, List.setIfInBounds_toArray, List.set_cons_zero, List.set_cons_succ])
          (repeat (first | (refine wpTree.take (v := undef) (Or.inr ⟨by rfl, rfl⟩) ?_; simp only [Act.put, List.setIfInBounds_toArray, List.set_cons_zero, List.set_cons_succ]) | (refine wpTree.take (v := .agg (OpR.cells x.o).toArray) (yieldsIf_load_mid rfl 44 _ rfl _ _ rfl (OpR.cells x.o) _ ?_ Try.underlying44 rfl (oinfo _)) ?_; (focus (intro _ hS; refine range_next hS.1 ?_; assumption)); simp only [Act.put, List.setIfInBounds_toArray, List.set_cons_zero, List.set_cons_succ]) | (refine wpTree.take (v := .agg (OpR.plain x.o).toArray) (yieldsIf_load_mid rfl 35 _ rfl _ _ rfl (OpR.plain x.o) _ ?_ Try.underlying35 rfl (rpinfoL _)) ?_; (focus (intro _ hS; refine range_next hS.1 ?_; assumption)); simp only [Act.put, List.setIfInBounds_toArray, List.set_cons_zero, List.set_cons_succ]) | (refine wpTree.take (v := .agg (Ev.item x).toArray) (yieldsIf_load_mid rfl 31 _ rfl _ _ rfl (Ev.item x) _ ?_ Try.underlying31 rfl (iinfo _)) ?_; (focus (intro _ hS; refine range_next hS.1 ?_; assumption)); simp only [Act.put, List.setIfInBounds_toArray, List.set_cons_zero, List.set_cons_succ]) | (refine wpTree.take (v := .agg (Ev.item y).toArray) (yieldsIf_load_mid rfl 31 _ rfl _ _ rfl (Ev.item y) _ ?_ Try.underlying31 rfl (iinfo _)) ?_; (focus (intro _ hS; refine range_next hS.1 ?_; assumption)); simp only [Act.put, List.setIfInBounds_toArray, List.set_cons_zero, List.set_cons_succ]) | (refine wpTree.take (v := .agg (Ev.item x).toArray) (yieldsIf_load_mid rfl 37 _ rfl _ _ rfl (Ev.item x) _ ?_ Try.underlying37 rfl (einfoL6 _)) ?_; (focus (intro _ hS; refine range_next hS.1 ?_; assumption)); simp only [Act.put, List.setIfInBounds_toArray, List.set_cons_zero, List.set_cons_succ]) | (refine wpTree.take (v := .agg (Ev.item y).toArray) (yieldsIf_load_mid rfl 37 _ rfl _ _ rfl (Ev.item y) _ ?_ Try.underlying37 rfl (einfoL6 _)) ?_; (focus (intro _ hS; refine range_next hS.1 ?_; assumption)); simp only [Act.put, List.setIfInBounds_toArray, List.set_cons_zero, List.set_cons_succ]) | (refine wpTree.take (v := .agg (Ev.item z).toArray) (yieldsIf_load_mid rfl 37 _ rfl _ _ rfl (Ev.item z) _ ?_ Try.underlying37 rfl (einfoL6 _)) ?_; (focus (intro _ hS; refine range_next hS.1 ?_; assumption)); simp only [Act.put, List.setIfInBounds_toArray, List.set_cons_zero, List.set_cons_succ]) | (refine wpTree.take (v := .agg (Ev.cells z).toArray) (yieldsIf_load_mid rfl 46 _ rfl _ _ rfl (Ev.cells z) _ ?_ Try.underlying46 rfl (einfo _)) ?_; (focus (intro _ hS; refine range_next hS.1 ?_; assumption)); simp only [Act.put, List.setIfInBounds_toArray, List.set_cons_zero, List.set_cons_succ]) | (refine wpTree.take (v := ?_) (Or.inl ⟨by rfl, ?_⟩) ?_; rotate_left; (focus (intro _ hS; (try dsimp only at hS); go_split_ands; (try subst hS); go_simp; (try (with_reducible rfl)); done)); simp only [Act.put, List.setIfInBounds_toArray, List.set_cons_zero, List.set_cons_succ])))
          refine wpTree.one (fun K hK => ?_)
          go_simp
          go_at_call 12
          refine (HRMAY.out _).mono ?_
          rintro e z2 ⟨rfl, hb⟩
          have hBelow := And.intro (Below.trans hHeld.1 (hb.mono (Below.size hHeld.1))) (cell_next hb hHeld.2)
          refine hK.out _ _ hBelow (fun hHeld' => ?_)
          clear hK K hHeld hBelow hb
          have hHeld := hHeld'
          clear hHeld'
          (try simp only [Act.put, List.setIfInBounds_toArray, List.set_cons_zero, List.set_cons_succ])
          (repeat (first | (refine wpTree.take (v := undef) (Or.inr ⟨by rfl, rfl⟩) ?_; simp only [Act.put, List.setIfInBounds_toArray, List.set_cons_zero, List.set_cons_succ]) | (refine wpTree.take (v := .agg (OpR.cells x.o).toArray) (yieldsIf_load_mid rfl 44 _ rfl _ _ rfl (OpR.cells x.o) _ ?_ Try.underlying44 rfl (oinfo _)) ?_; (focus (intro _ hS; refine range_next hS.1 ?_; assumption)); simp only [Act.put, List.setIfInBounds_toArray, List.set_cons_zero, List.set_cons_succ]) | (refine wpTree.take (v := .agg (OpR.plain x.o).toArray) (yieldsIf_load_mid rfl 35 _ rfl _ _ rfl (OpR.plain x.o) _ ?_ Try.underlying35 rfl (rpinfoL _)) ?_; (focus (intro _ hS; refine range_next hS.1 ?_; assumption)); simp only [Act.put, List.setIfInBounds_toArray, List.set_cons_zero, List.set_cons_succ]) | (refine wpTree.take (v := .agg (Ev.item x).toArray) (yieldsIf_load_mid rfl 31 _ rfl _ _ rfl (Ev.item x) _ ?_ Try.underlying31 rfl (iinfo _)) ?_; (focus (intro _ hS; refine range_next hS.1 ?_; assumption)); simp only [Act.put, List.setIfInBounds_toArray, List.set_cons_zero, List.set_cons_succ]) | (refine wpTree.take (v := .agg (Ev.item y).toArray) (yieldsIf_load_mid rfl 31 _ rfl _ _ rfl (Ev.item y) _ ?_ Try.underlying31 rfl (iinfo _)) ?_; (focus (intro _ hS; refine range_next hS.1 ?_; assumption)); simp only [Act.put, List.setIfInBounds_toArray, List.set_cons_zero, List.set_cons_succ]) | (refine wpTree.take (v := .agg (Ev.item x).toArray) (yieldsIf_load_mid rfl 37 _ rfl _ _ rfl (Ev.item x) _ ?_ Try.underlying37 rfl (einfoL6 _)) ?_; (focus (intro _ hS; refine range_next hS.1 ?_; assumption)); simp only [Act.put, List.setIfInBounds_toArray, List.set_cons_zero, List.set_cons_succ]) | (refine wpTree.take (v := .agg (Ev.item y).toArray) (yieldsIf_load_mid rfl 37 _ rfl _ _ rfl (Ev.item y) _ ?_ Try.underlying37 rfl (einfoL6 _)) ?_; (focus (intro _ hS; refine range_next hS.1 ?_; assumption)); simp only [Act.put, List.setIfInBounds_toArray, List.set_cons_zero, List.set_cons_succ]) | (refine wpTree.take (v := .agg (Ev.item z).toArray) (yieldsIf_load_mid rfl 37 _ rfl _ _ rfl (Ev.item z) _ ?_ Try.underlying37 rfl (einfoL6 _)) ?_; (focus (intro _ hS; refine range_next hS.1 ?_; assumption)); simp only [Act.put, List.setIfInBounds_toArray, List.set_cons_zero, List.set_cons_succ]) | (refine wpTree.take (v := .agg (Ev.cells z).toArray) (yieldsIf_load_mid rfl 46 _ rfl _ _ rfl (Ev.cells z) _ ?_ Try.underlying46 rfl (einfo _)) ?_; (focus (intro _ hS; refine range_next hS.1 ?_; assumption)); simp only [Act.put, List.setIfInBounds_toArray, List.set_cons_zero, List.set_cons_succ]) | (refine wpTree.take (v := ?_) (Or.inl ⟨by rfl, ?_⟩) ?_; rotate_left; (focus (intro _ hS; (try dsimp only at hS); go_split_ands; (try subst hS); go_simp; (try (with_reducible rfl)); done)); simp only [Act.put, List.setIfInBounds_toArray, List.set_cons_zero, List.set_cons_succ])))
          refine wpTree.one (fun K hK => ?_)
          go_simp
          go_at_call 13
          refine (HCUS.out _).mono ?_
          rintro e z3 ⟨rfl, hb⟩
          have hBelow := And.intro (Below.trans hHeld.1 (hb.mono (Below.size hHeld.1))) (cell_next hb hHeld.2)
          refine hK.out _ _ hBelow (fun hHeld' => ?_)
          clear hK K hHeld hBelow hb
          have hHeld := hHeld'
          clear hHeld'
          (try simp only [Act.put, List.setIfInBounds_toArray, List.set_cons_zero, List.set_cons_succ])
          (repeat (first | (refine wpTree.take (v := undef) (Or.inr ⟨by rfl, rfl⟩) ?_; simp only [Act.put, List.setIfInBounds_toArray, List.set_cons_zero, List.set_cons_succ]) | (refine wpTree.take (v := .agg (OpR.cells x.o).toArray) (yieldsIf_load_mid rfl 44 _ rfl _ _ rfl (OpR.cells x.o) _ ?_ Try.underlying44 rfl (oinfo _)) ?_; (focus (intro _ hS; refine range_next hS.1 ?_; assumption)); simp only [Act.put, List.setIfInBounds_toArray, List.set_cons_zero, List.set_cons_succ]) | (refine wpTree.take (v := .agg (OpR.plain x.o).toArray) (yieldsIf_load_mid rfl 35 _ rfl _ _ rfl (OpR.plain x.o) _ ?_ Try.underlying35 rfl (rpinfoL _)) ?_; (focus (intro _ hS; refine range_next hS.1 ?_; assumption)); simp only [Act.put, List.setIfInBounds_toArray, List.set_cons_zero, List.set_cons_succ]) | (refine wpTree.take (v := .agg (Ev.item x).toArray) (yieldsIf_load_mid rfl 31 _ rfl _ _ rfl (Ev.item x) _ ?_ Try.underlying31 rfl (iinfo _)) ?_; (focus (intro _ hS; refine range_next hS.1 ?_; assumption)); simp only [Act.put, List.setIfInBounds_toArray, List.set_cons_zero, List.set_cons_succ]) | (refine wpTree.take (v := .agg (Ev.item y).toArray) (yieldsIf_load_mid rfl 31 _ rfl _ _ rfl (Ev.item y) _ ?_ Try.underlying31 rfl (iinfo _)) ?_; (focus (intro _ hS; refine range_next hS.1 ?_; assumption)); simp only [Act.put, List.setIfInBounds_toArray, List.set_cons_zero, List.set_cons_succ]) | (refine wpTree.take (v := .agg (Ev.item x).toArray) (yieldsIf_load_mid rfl 37 _ rfl _ _ rfl (Ev.item x) _ ?_ Try.underlying37 rfl (einfoL6 _)) ?_; (focus (intro _ hS; refine range_next hS.1 ?_; assumption)); simp only [Act.put, List.setIfInBounds_toArray, List.set_cons_zero, List.set_cons_succ]) | (refine wpTree.take (v := .agg (Ev.item y).toArray) (yieldsIf_load_mid rfl 37 _ rfl _ _ rfl (Ev.item y) _ ?_ Try.underlying37 rfl (einfoL6 _)) ?_; (focus (intro _ hS; refine range_next hS.1 ?_; assumption)); simp only [Act.put, List.setIfInBounds_toArray, List.set_cons_zero, List.set_cons_succ]) | (refine wpTree.take (v := .agg (Ev.item z).toArray) (yieldsIf_load_mid rfl 37 _ rfl _ _ rfl (Ev.item z) _ ?_ Try.underlying37 rfl (einfoL6 _)) ?_; (focus (intro _ hS; refine range_next hS.1 ?_; assumption)); simp only [Act.put, List.setIfInBounds_toArray, List.set_cons_zero, List.set_cons_succ]) | (refine wpTree.take (v := .agg (Ev.cells z).toArray) (yieldsIf_load_mid rfl 46 _ rfl _ _ rfl (Ev.cells z) _ ?_ Try.underlying46 rfl (einfo _)) ?_; (focus (intro _ hS; refine range_next hS.1 ?_; assumption)); simp only [Act.put, List.setIfInBounds_toArray, List.set_cons_zero, List.set_cons_succ]) | (refine wpTree.take (v := ?_) (Or.inl ⟨by rfl, ?_⟩) ?_; rotate_left; (focus (intro _ hS; (try dsimp only at hS); go_split_ands; (try subst hS); go_simp; (try (with_reducible rfl)); done)); simp only [Act.put, List.setIfInBounds_toArray, List.set_cons_zero, List.set_cons_succ])))
          refine wpTree.one (fun K hK => ?_)
          go_simp
          go_at_call 12
          refine (HRMAY.out _).mono ?_
          rintro e z4 ⟨rfl, hb⟩
          have hBelow := And.intro (Below.trans hHeld.1 (hb.mono (Below.size hHeld.1))) (cell_next hb hHeld.2)
          refine hK.out _ _ hBelow (fun hHeld' => ?_)
          clear hK K hHeld hBelow hb
          have hHeld := hHeld'
          clear hHeld'
          (try simp only [Act.put, List.setIfInBounds_toArray, List.set_cons_zero, List.set_cons_succ])
          (repeat (first | (refine wpTree.take (v := undef) (Or.inr ⟨by rfl, rfl⟩) ?_; simp only [Act.put, List.setIfInBounds_toArray, List.set_cons_zero, List.set_cons_succ]) | (refine wpTree.take (v := .agg (OpR.cells x.o).toArray) (yieldsIf_load_mid rfl 44 _ rfl _ _ rfl (OpR.cells x.o) _ ?_ Try.underlying44 rfl (oinfo _)) ?_; (focus (intro _ hS; refine range_next hS.1 ?_; assumption)); simp only [Act.put, List.setIfInBounds_toArray, List.set_cons_zero, List.set_cons_succ]) | (refine wpTree.take (v := .agg (OpR.plain x.o).toArray) (yieldsIf_load_mid rfl 35 _ rfl _ _ rfl (OpR.plain x.o) _ ?_ Try.underlying35 rfl (rpinfoL _)) ?_; (focus (intro _ hS; refine range_next hS.1 ?_; assumption)); simp only [Act.put, List.setIfInBounds_toArray, List.set_cons_zero, List.set_cons_succ]) | (refine wpTree.take (v := .agg (Ev.item x).toArray) (yieldsIf_load_mid rfl 31 _ rfl _ _ rfl (Ev.item x) _ ?_ Try.underlying31 rfl (iinfo _)) ?_; (focus (intro _ hS; refine range_next hS.1 ?_; assumption)); simp only [Act.put, List.setIfInBounds_toArray, List.set_cons_zero, List.set_cons_succ]) | (refine wpTree.take (v := .agg (Ev.item y).toArray) (yieldsIf_load_mid rfl 31 _ rfl _ _ rfl (Ev.item y) _ ?_ Try.underlying31 rfl (iinfo _)) ?_; (focus (intro _ hS; refine range_next hS.1 ?_; assumption)); simp only [Act.put, List.setIfInBounds_toArray, List.set_cons_zero, List.set_cons_succ]) | (refine wpTree.take (v := .agg (Ev.item x).toArray) (yieldsIf_load_mid rfl 37 _ rfl _ _ rfl (Ev.item x) _ ?_ Try.underlying37 rfl (einfoL6 _)) ?_; (focus (intro _ hS; refine range_next hS.1 ?_; assumption)); simp only [Act.put, List.setIfInBounds_toArray, List.set_cons_zero, List.set_cons_succ]) | (refine wpTree.take (v := .agg (Ev.item y).toArray) (yieldsIf_load_mid rfl 37 _ rfl _ _ rfl (Ev.item y) _ ?_ Try.underlying37 rfl (einfoL6 _)) ?_; (focus (intro _ hS; refine range_next hS.1 ?_; assumption)); simp only [Act.put, List.setIfInBounds_toArray, List.set_cons_zero, List.set_cons_succ]) | (refine wpTree.take (v := .agg (Ev.item z).toArray) (yieldsIf_load_mid rfl 37 _ rfl _ _ rfl (Ev.item z) _ ?_ Try.underlying37 rfl (einfoL6 _)) ?_; (focus (intro _ hS; refine range_next hS.1 ?_; assumption)); simp only [Act.put, List.setIfInBounds_toArray, List.set_cons_zero, List.set_cons_succ]) | (refine wpTree.take (v := .agg (Ev.cells z).toArray) (yieldsIf_load_mid rfl 46 _ rfl _ _ rfl (Ev.cells z) _ ?_ Try.underlying46 rfl (einfo _)) ?_; (focus (intro _ hS; refine range_next hS.1 ?_; assumption)); simp only [Act.put, List.setIfInBounds_toArray, List.set_cons_zero, List.set_cons_succ]) | (refine wpTree.take (v := ?_) (Or.inl ⟨by rfl, ?_⟩) ?_; rotate_left; (focus (intro _ hS; (try dsimp only at hS); go_split_ands; (try subst hS); go_simp; (try (with_reducible rfl)); done)); simp only [Act.put, List.setIfInBounds_toArray, List.set_cons_zero, List.set_cons_succ])))
          refine wpTree.one (fun K hK => ?_)
          go_simp
          go_at_call 7
          refine (itemevent_any x _).mono ?_
          rintro e z5 ⟨rfl, hb⟩
          have hBelow := And.intro (Below.trans hHeld.1 (hb.mono (Below.size hHeld.1))) (cell_next hb hHeld.2)
          refine hK.out _ _ hBelow (fun hHeld' => ?_)
          clear hK K hHeld hBelow hb
          have hHeld := hHeld'
          clear hHeld'
          (try simp only [Act.put, List.setIfInBounds_toArray, List.set_cons_zero, List.set_cons_succ])
          (repeat (first | (refine wpTree.take (v := undef) (Or.inr ⟨by rfl, rfl⟩) ?_; simp only [Act.put, List.setIfInBounds_toArray, List.set_cons_zero, List.set_cons_succ]) | (refine wpTree.take (v := .agg (OpR.cells x.o).toArray) (yieldsIf_load_mid rfl 44 _ rfl _ _ rfl (OpR.cells x.o) _ ?_ Try.underlying44 rfl (oinfo _)) ?_; (focus (intro _ hS; refine range_next hS.1 ?_; assumption)); simp only [Act.put, List.setIfInBounds_toArray, List.set_cons_zero, List.set_cons_succ]) | (refine wpTree.take (v := .agg (OpR.plain x.o).toArray) (yieldsIf_load_mid rfl 35 _ rfl _ _ rfl (OpR.plain x.o) _ ?_ Try.underlying35 rfl (rpinfoL _)) ?_; (focus (intro _ hS; refine range_next hS.1 ?_; assumption)); simp only [Act.put, List.setIfInBounds_toArray, List.set_cons_zero, List.set_cons_succ]) | (refine wpTree.take (v := .agg (Ev.item x).toArray) (yieldsIf_load_mid rfl 31 _ rfl _ _ rfl (Ev.item x) _ ?_ Try.underlying31 rfl (iinfo _)) ?_; (focus (intro _ hS; refine range_next hS.1 ?_; assumption)); simp only [Act.put, List.setIfInBounds_toArray, List.set_cons_zero, List.set_cons_succ]) | (refine wpTree.take (v := .agg (Ev.item y).toArray) (yieldsIf_load_mid rfl 31 _ rfl _ _ rfl (Ev.item y) _ ?_ Try.underlying31 rfl (iinfo _)) ?_; (focus (intro _ hS; refine range_next hS.1 ?_; assumption)); simp only [Act.put, List.setIfInBounds_toArray, List.set_cons_zero, List.set_cons_succ]) | (refine wpTree.take (v := .agg (Ev.item x).toArray) (yieldsIf_load_mid rfl 37 _ rfl _ _ rfl (Ev.item x) _ ?_ Try.underlying37 rfl (einfoL6 _)) ?_; (focus (intro _ hS; refine range_next hS.1 ?_; assumption)); simp only [Act.put, List.setIfInBounds_toArray, List.set_cons_zero, List.set_cons_succ]) | (refine wpTree.take (v := .agg (Ev.item y).toArray) (yieldsIf_load_mid rfl 37 _ rfl _ _ rfl (Ev.item y) _ ?_ Try.underlying37 rfl (einfoL6 _)) ?_; (focus (intro _ hS; refine range_next hS.1 ?_; assumption)); simp only [Act.put, List.setIfInBounds_toArray, List.set_cons_zero, List.set_cons_succ]) | (refine wpTree.take (v := .agg (Ev.item z).toArray) (yieldsIf_load_mid rfl 37 _ rfl _ _ rfl (Ev.item z) _ ?_ Try.underlying37 rfl (einfoL6 _)) ?_; (focus (intro _ hS; refine range_next hS.1 ?_; assumption)); simp only [Act.put, List.setIfInBounds_toArray, List.set_cons_zero, List.set_cons_succ]) | (refine wpTree.take (v := .agg (Ev.cells z).toArray) (yieldsIf_load_mid rfl 46 _ rfl _ _ rfl (Ev.cells z) _ ?_ Try.underlying46 rfl (einfo _)) ?_; (focus (intro _ hS; refine range_next hS.1 ?_; assumption)); simp only [Act.put, List.setIfInBounds_toArray, List.set_cons_zero, List.set_cons_succ]) | (refine wpTree.take (v := ?_) (Or.inl ⟨by rfl, ?_⟩) ?_; rotate_left; (focus (intro _ hS; (try dsimp only at hS); go_split_ands; (try subst hS); go_simp; (try (with_reducible rfl)); done)); simp only [Act.put, List.setIfInBounds_toArray, List.set_cons_zero, List.set_cons_succ])))
          refine wpTree.one (fun K hK => ?_)
          go_simp
          go_at_call 14
          refine (HERI.out _).mono ?_
          rintro e z6 ⟨rfl, hb⟩
          have hBelow := And.intro (Below.trans hHeld.1 (hb.mono (Below.size hHeld.1))) (cell_next hb hHeld.2)
          refine hK.out _ _ hBelow (fun hHeld' => ?_)
          clear hK K hHeld hBelow hb
          have hHeld := hHeld'
          clear hHeld'
          (try simp only [Act.put, List.setIfInBounds_toArray, List.set_cons_zero, List.set_cons_succ])
          (repeat (first | (refine wpTree.take (v := undef) (Or.inr ⟨by rfl, rfl⟩) ?_; simp only [Act.put, List.setIfInBounds_toArray, List.set_cons_zero, List.set_cons_succ]) | (refine wpTree.take (v := .agg (OpR.cells x.o).toArray) (yieldsIf_load_mid rfl 44 _ rfl _ _ rfl (OpR.cells x.o) _ ?_ Try.underlying44 rfl (oinfo _)) ?_; (focus (intro _ hS; refine range_next hS.1 ?_; assumption)); simp only [Act.put, List.setIfInBounds_toArray, List.set_cons_zero, List.set_cons_succ]) | (refine wpTree.take (v := .agg (OpR.plain x.o).toArray) (yieldsIf_load_mid rfl 35 _ rfl _ _ rfl (OpR.plain x.o) _ ?_ Try.underlying35 rfl (rpinfoL _)) ?_; (focus (intro _ hS; refine range_next hS.1 ?_; assumption)); simp only [Act.put, List.setIfInBounds_toArray, List.set_cons_zero, List.set_cons_succ]) | (refine wpTree.take (v := .agg (Ev.item x).toArray) (yieldsIf_load_mid rfl 31 _ rfl _ _ rfl (Ev.item x) _ ?_ Try.underlying31 rfl (iinfo _)) ?_; (focus (intro _ hS; refine range_next hS.1 ?_; assumption)); simp only [Act.put, List.setIfInBounds_toArray, List.set_cons_zero, List.set_cons_succ]) | (refine wpTree.take (v := .agg (Ev.item y).toArray) (yieldsIf_load_mid rfl 31 _ rfl _ _ rfl (Ev.item y) _ ?_ Try.underlying31 rfl (iinfo _)) ?_; (focus (intro _ hS; refine range_next hS.1 ?_; assumption)); simp only [Act.put, List.setIfInBounds_toArray, List.set_cons_zero, List.set_cons_succ]) | (refine wpTree.take (v := .agg (Ev.item x).toArray) (yieldsIf_load_mid rfl 37 _ rfl _ _ rfl (Ev.item x) _ ?_ Try.underlying37 rfl (einfoL6 _)) ?_; (focus (intro _ hS; refine range_next hS.1 ?_; assumption)); simp only [Act.put, List.setIfInBounds_toArray, List.set_cons_zero, List.set_cons_succ]) | (refine wpTree.take (v := .agg (Ev.item y).toArray) (yieldsIf_load_mid rfl 37 _ rfl _ _ rfl (Ev.item y) _ ?_ Try.underlying37 rfl (einfoL6 _)) ?_; (focus (intro _ hS; refine range_next hS.1 ?_; assumption)); simp only [Act.put, List.setIfInBounds_toArray, List.set_cons_zero, List.set_cons_succ]) | (refine wpTree.take (v := .agg (Ev.item z).toArray) (yieldsIf_load_mid rfl 37 _ rfl _ _ rfl (Ev.item z) _ ?_ Try.underlying37 rfl (einfoL6 _)) ?_; (focus (intro _ hS; refine range_next hS.1 ?_; assumption)); simp only [Act.put, List.setIfInBounds_toArray, List.set_cons_zero, List.set_cons_succ]) | (refine wpTree.take (v := .agg (Ev.cells z).toArray) (yieldsIf_load_mid rfl 46 _ rfl _ _ rfl (Ev.cells z) _ ?_ Try.underlying46 rfl (einfo _)) ?_; (focus (intro _ hS; refine range_next hS.1 ?_; assumption)); simp only [Act.put, List.setIfInBounds_toArray, List.set_cons_zero, List.set_cons_succ]) | (refine wpTree.take (v := ?_) (Or.inl ⟨by rfl, ?_⟩) ?_; rotate_left; (focus (intro _ hS; (try dsimp only at hS); go_split_ands; (try subst hS); go_simp; (try (with_reducible rfl)); done)); simp only [Act.put, List.setIfInBounds_toArray, List.set_cons_zero, List.set_cons_succ])))
          refine wpTree.one (fun K hK => ?_)
          go_simp
          go_at_call 15
          refine (HRRI.out _).mono ?_
          rintro e z7 ⟨rfl, hb⟩
          have hBelow := And.intro (Below.trans hHeld.1 (hb.mono (Below.size hHeld.1))) (cell_next hb hHeld.2)
          refine hK.out _ _ hBelow (fun hHeld' => ?_)
          clear hK K hHeld hBelow hb
          have hHeld := hHeld'
          clear hHeld'
          (try simp only [Act.put, List.setIfInBounds_toArray, List.set_cons_zero, List.set_cons_succ])
          (repeat (first | (refine wpTree.take (v := undef) (Or.inr ⟨by rfl, rfl⟩) ?_; simp only [Act.put, List.setIfInBounds_toArray, List.set_cons_zero, List.set_cons_succ]) | (refine wpTree.take (v := .agg (OpR.cells x.o).toArray) (yieldsIf_load_mid rfl 44 _ rfl _ _ rfl (OpR.cells x.o) _ ?_ Try.underlying44 rfl (oinfo _)) ?_; (focus (intro _ hS; refine range_next hS.1 ?_; assumption)); simp only [Act.put, List.setIfInBounds_toArray, List.set_cons_zero, List.set_cons_succ]) | (refine wpTree.take (v := .agg (OpR.plain x.o).toArray) (yieldsIf_load_mid rfl 35 _ rfl _ _ rfl (OpR.plain x.o) _ ?_ Try.underlying35 rfl (rpinfoL _)) ?_; (focus (intro _ hS; refine range_next hS.1 ?_; assumption)); simp only [Act.put, List.setIfInBounds_toArray, List.set_cons_zero, List.set_cons_succ]) | (refine wpTree.take (v := .agg (Ev.item x).toArray) (yieldsIf_load_mid rfl 31 _ rfl _ _ rfl (Ev.item x) _ ?_ Try.underlying31 rfl (iinfo _)) ?_; (focus (intro _ hS; refine range_next hS.1 ?_; assumption)); simp only [Act.put, List.setIfInBounds_toArray, List.set_cons_zero, List.set_cons_succ]) | (refine wpTree.take (v := .agg (Ev.item y).toArray) (yieldsIf_load_mid rfl 31 _ rfl _ _ rfl (Ev.item y) _ ?_ Try.underlying31 rfl (iinfo _)) ?_; (focus (intro _ hS; refine range_next hS.1 ?_; assumption)); simp only [Act.put, List.setIfInBounds_toArray, List.set_cons_zero, List.set_cons_succ]) | (refine wpTree.take (v := .agg (Ev.item x).toArray) (yieldsIf_load_mid rfl 37 _ rfl _ _ rfl (Ev.item x) _ ?_ Try.underlying37 rfl (einfoL6 _)) ?_; (focus (intro _ hS; refine range_next hS.1 ?_; assumption)); simp only [Act.put, List.setIfInBounds_toArray, List.set_cons_zero, List.set_cons_succ]) | (refine wpTree.take (v := .agg (Ev.item y).toArray) (yieldsIf_load_mid rfl 37 _ rfl _ _ rfl (Ev.item y) _ ?_ Try.underlying37 rfl (einfoL6 _)) ?_; (focus (intro _ hS; refine range_next hS.1 ?_; assumption)); simp only [Act.put, List.setIfInBounds_toArray, List.set_cons_zero, List.set_cons_succ]) | (refine wpTree.take (v := .agg (Ev.item z).toArray) (yieldsIf_load_mid rfl 37 _ rfl _ _ rfl (Ev.item z) _ ?_ Try.underlying37 rfl (einfoL6 _)) ?_; (focus (intro _ hS; refine range_next hS.1 ?_; assumption)); simp only [Act.put, List.setIfInBounds_toArray, List.set_cons_zero, List.set_cons_succ]) | (refine wpTree.take (v := .agg (Ev.cells z).toArray) (yieldsIf_load_mid rfl 46 _ rfl _ _ rfl (Ev.cells z) _ ?_ Try.underlying46 rfl (einfo _)) ?_; (focus (intro _ hS; refine range_next hS.1 ?_; assumption)); simp only [Act.put, List.setIfInBounds_toArray, List.set_cons_zero, List.set_cons_succ]) | (refine wpTree.take (v := ?_) (Or.inl ⟨by rfl, ?_⟩) ?_; rotate_left; (focus (intro _ hS; (try dsimp only at hS); go_split_ands; (try subst hS); go_simp; (try (with_reducible rfl)); done)); simp only [Act.put, List.setIfInBounds_toArray, List.set_cons_zero, List.set_cons_succ])))
          refine wpTree.one (fun K hK => ?_)
          go_simp
          go_at_call 7
          refine (itemevent_any x _).mono ?_
          rintro e z8 ⟨rfl, hb⟩
          have hBelow := And.intro (Below.trans hHeld.1 (hb.mono (Below.size hHeld.1))) (cell_next hb hHeld.2)
          refine hK.out _ _ hBelow (fun hHeld' => ?_)
          clear hK K hHeld hBelow hb
          have hHeld := hHeld'
          clear hHeld'
          (try simp only [Act.put, List.setIfInBounds_toArray, List.set_cons_zero, List.set_cons_succ])
          (repeat (first | (refine wpTree.take (v := undef) (Or.inr ⟨by rfl, rfl⟩) ?_; simp only [Act.put, List.setIfInBounds_toArray, List.set_cons_zero, List.set_cons_succ]) | (refine wpTree.take (v := .agg (OpR.cells x.o).toArray) (yieldsIf_load_mid rfl 44 _ rfl _ _ rfl (OpR.cells x.o) _ ?_ Try.underlying44 rfl (oinfo _)) ?_; (focus (intro _ hS; refine range_next hS.1 ?_; assumption)); simp only [Act.put, List.setIfInBounds_toArray, List.set_cons_zero, List.set_cons_succ]) | (refine wpTree.take (v := .agg (OpR.plain x.o).toArray) (yieldsIf_load_mid rfl 35 _ rfl _ _ rfl (OpR.plain x.o) _ ?_ Try.underlying35 rfl (rpinfoL _)) ?_; (focus (intro _ hS; refine range_next hS.1 ?_; assumption)); simp only [Act.put, List.setIfInBounds_toArray, List.set_cons_zero, List.set_cons_succ]) | (refine wpTree.take (v := .agg (Ev.item x).toArray) (yieldsIf_load_mid rfl 31 _ rfl _ _ rfl (Ev.item x) _ ?_ Try.underlying31 rfl (iinfo _)) ?_; (focus (intro _ hS; refine range_next hS.1 ?_; assumption)); simp only [Act.put, List.setIfInBounds_toArray, List.set_cons_zero, List.set_cons_succ]) | (refine wpTree.take (v := .agg (Ev.item y).toArray) (yieldsIf_load_mid rfl 31 _ rfl _ _ rfl (Ev.item y) _ ?_ Try.underlying31 rfl (iinfo _)) ?_; (focus (intro _ hS; refine range_next hS.1 ?_; assumption)); simp only [Act.put, List.setIfInBounds_toArray, List.set_cons_zero, List.set_cons_succ]) | (refine wpTree.take (v := .agg (Ev.item x).toArray) (yieldsIf_load_mid rfl 37 _ rfl _ _ rfl (Ev.item x) _ ?_ Try.underlying37 rfl (einfoL6 _)) ?_; (focus (intro _ hS; refine range_next hS.1 ?_; assumption)); simp only [Act.put, List.setIfInBounds_toArray, List.set_cons_zero, List.set_cons_succ]) | (refine wpTree.take (v := .agg (Ev.item y).toArray) (yieldsIf_load_mid rfl 37 _ rfl _ _ rfl (Ev.item y) _ ?_ Try.underlying37 rfl (einfoL6 _)) ?_; (focus (intro _ hS; refine range_next hS.1 ?_; assumption)); simp only [Act.put, List.setIfInBounds_toArray, List.set_cons_zero, List.set_cons_succ]) | (refine wpTree.take (v := .agg (Ev.item z).toArray) (yieldsIf_load_mid rfl 37 _ rfl _ _ rfl (Ev.item z) _ ?_ Try.underlying37 rfl (einfoL6 _)) ?_; (focus (intro _ hS; refine range_next hS.1 ?_; assumption)); simp only [Act.put, List.setIfInBounds_toArray, List.set_cons_zero, List.set_cons_succ]) | (refine wpTree.take (v := .agg (Ev.cells z).toArray) (yieldsIf_load_mid rfl 46 _ rfl _ _ rfl (Ev.cells z) _ ?_ Try.underlying46 rfl (einfo _)) ?_; (focus (intro _ hS; refine range_next hS.1 ?_; assumption)); simp only [Act.put, List.setIfInBounds_toArray, List.set_cons_zero, List.set_cons_succ]) | (refine wpTree.take (v := ?_) (Or.inl ⟨by rfl, ?_⟩) ?_; rotate_left; (focus (intro _ hS; (try dsimp only at hS); go_split_ands; (try subst hS); go_simp; (try (with_reducible rfl)); done)); simp only [Act.put, List.setIfInBounds_toArray, List.set_cons_zero, List.set_cons_succ])))
          refine wpTree.one (fun K hK => ?_)
          go_simp
          go_at_call 7
          refine (itemevent_any y _).mono ?_
          rintro e z9 ⟨rfl, hb⟩
          have hBelow := And.intro (Below.trans hHeld.1 (hb.mono (Below.size hHeld.1))) (cell_next hb hHeld.2)
          refine hK.out _ _ hBelow (fun hHeld' => ?_)
          clear hK K hHeld hBelow hb
          have hHeld := hHeld'
          clear hHeld'
          (try simp only [Act.put, List.setIfInBounds_toArray, List.set_cons_zero, List.set_cons_succ])
          (repeat (first | (refine wpTree.take (v := undef) (Or.inr ⟨by rfl, rfl⟩) ?_; simp only [Act.put, List.setIfInBounds_toArray, List.set_cons_zero, List.set_cons_succ]) | (refine wpTree.take (v := .agg (OpR.cells x.o).toArray) (yieldsIf_load_mid rfl 44 _ rfl _ _ rfl (OpR.cells x.o) _ ?_ Try.underlying44 rfl (oinfo _)) ?_; (focus (intro _ hS; refine range_next hS.1 ?_; assumption)); simp only [Act.put, List.setIfInBounds_toArray, List.set_cons_zero, List.set_cons_succ]) | (refine wpTree.take (v := .agg (OpR.plain x.o).toArray) (yieldsIf_load_mid rfl 35 _ rfl _ _ rfl (OpR.plain x.o) _ ?_ Try.underlying35 rfl (rpinfoL _)) ?_; (focus (intro _ hS; refine range_next hS.1 ?_; assumption)); simp only [Act.put, List.setIfInBounds_toArray, List.set_cons_zero, List.set_cons_succ]) | (refine wpTree.take (v := .agg (Ev.item x).toArray) (yieldsIf_load_mid rfl 31 _ rfl _ _ rfl (Ev.item x) _ ?_ Try.underlying31 rfl (iinfo _)) ?_; (focus (intro _ hS; refine range_next hS.1 ?_; assumption)); simp only [Act.put, List.setIfInBounds_toArray, List.set_cons_zero, List.set_cons_succ]) | (refine wpTree.take (v := .agg (Ev.item y).toArray) (yieldsIf_load_mid rfl 31 _ rfl _ _ rfl (Ev.item y) _ ?_ Try.underlying31 rfl (iinfo _)) ?_; (focus (intro _ hS; refine range_next hS.1 ?_; assumption)); simp only [Act.put, List.setIfInBounds_toArray, List.set_cons_zero, List.set_cons_succ]) | (refine wpTree.take (v := .agg (Ev.item x).toArray) (yieldsIf_load_mid rfl 37 _ rfl _ _ rfl (Ev.item x) _ ?_ Try.underlying37 rfl (einfoL6 _)) ?_; (focus (intro _ hS; refine range_next hS.1 ?_; assumption)); simp only [Act.put, List.setIfInBounds_toArray, List.set_cons_zero, List.set_cons_succ]) | (refine wpTree.take (v := .agg (Ev.item y).toArray) (yieldsIf_load_mid rfl 37 _ rfl _ _ rfl (Ev.item y) _ ?_ Try.underlying37 rfl (einfoL6 _)) ?_; (focus (intro _ hS; refine range_next hS.1 ?_; assumption)); simp only [Act.put, List.setIfInBounds_toArray, List.set_cons_zero, List.set_cons_succ]) | (refine wpTree.take (v := .agg (Ev.item z).toArray) (yieldsIf_load_mid rfl 37 _ rfl _ _ rfl (Ev.item z) _ ?_ Try.underlying37 rfl (einfoL6 _)) ?_; (focus (intro _ hS; refine range_next hS.1 ?_; assumption)); simp only [Act.put, List.setIfInBounds_toArray, List.set_cons_zero, List.set_cons_succ]) | (refine wpTree.take (v := .agg (Ev.cells z).toArray) (yieldsIf_load_mid rfl 46 _ rfl _ _ rfl (Ev.cells z) _ ?_ Try.underlying46 rfl (einfo _)) ?_; (focus (intro _ hS; refine range_next hS.1 ?_; assumption)); simp only [Act.put, List.setIfInBounds_toArray, List.set_cons_zero, List.set_cons_succ]) | (refine wpTree.take (v := ?_) (Or.inl ⟨by rfl, ?_⟩) ?_; rotate_left; (focus (intro _ hS; (try dsimp only at hS); go_split_ands; (try subst hS); go_simp; (try (with_reducible rfl)); done)); simp only [Act.put, List.setIfInBounds_toArray, List.set_cons_zero, List.set_cons_succ])))
          refine wpTree.one (fun K hK => ?_)
          go_simp
          go_at_call 16
          refine (HSAM.out _).mono ?_
          rintro e z10 ⟨rfl, hb⟩
          have hBelow := And.intro (Below.trans hHeld.1 (hb.mono (Below.size hHeld.1))) (cell_next hb hHeld.2)
          refine hK.out _ _ hBelow (fun hHeld' => ?_)
          clear hK K hHeld hBelow hb
          have hHeld := hHeld'
          clear hHeld'
          (try simp only [Act.put, List.setIfInBounds_toArray, List.set_cons_zero, List.set_cons_succ])
          (repeat (first | (refine wpTree.take (v := undef) (Or.inr ⟨by rfl, rfl⟩) ?_; simp only [Act.put, List.setIfInBounds_toArray, List.set_cons_zero, List.set_cons_succ]) | (refine wpTree.take (v := .agg (OpR.cells x.o).toArray) (yieldsIf_load_mid rfl 44 _ rfl _ _ rfl (OpR.cells x.o) _ ?_ Try.underlying44 rfl (oinfo _)) ?_; (focus (intro _ hS; refine range_next hS.1 ?_; assumption)); simp only [Act.put, List.setIfInBounds_toArray, List.set_cons_zero, List.set_cons_succ]) | (refine wpTree.take (v := .agg (OpR.plain x.o).toArray) (yieldsIf_load_mid rfl 35 _ rfl _ _ rfl (OpR.plain x.o) _ ?_ Try.underlying35 rfl (rpinfoL _)) ?_; (focus (intro _ hS; refine range_next hS.1 ?_; assumption)); simp only [Act.put, List.setIfInBounds_toArray, List.set_cons_zero, List.set_cons_succ]) | (refine wpTree.take (v := .agg (Ev.item x).toArray) (yieldsIf_load_mid rfl 31 _ rfl _ _ rfl (Ev.item x) _ ?_ Try.underlying31 rfl (iinfo _)) ?_; (focus (intro _ hS; refine range_next hS.1 ?_; assumption)); simp only [Act.put, List.setIfInBounds_toArray, List.set_cons_zero, List.set_cons_succ]) | (refine wpTree.take (v := .agg (Ev.item y).toArray) (yieldsIf_load_mid rfl 31 _ rfl _ _ rfl (Ev.item y) _ ?_ Try.underlying31 rfl (iinfo _)) ?_; (focus (intro _ hS; refine range_next hS.1 ?_; assumption)); simp only [Act.put, List.setIfInBounds_toArray, List.set_cons_zero, List.set_cons_succ]) | (refine wpTree.take (v := .agg (Ev.item x).toArray) (yieldsIf_load_mid rfl 37 _ rfl _ _ rfl (Ev.item x) _ ?_ Try.underlying37 rfl (einfoL6 _)) ?_; (focus (intro _ hS; refine range_next hS.1 ?_; assumption)); simp only [Act.put, List.setIfInBounds_toArray, List.set_cons_zero, List.set_cons_succ]) | (refine wpTree.take (v := .agg (Ev.item y).toArray) (yieldsIf_load_mid rfl 37 _ rfl _ _ rfl (Ev.item y) _ ?_ Try.underlying37 rfl (einfoL6 _)) ?_; (focus (intro _ hS; refine range_next hS.1 ?_; assumption)); simp only [Act.put, List.setIfInBounds_toArray, List.set_cons_zero, List.set_cons_succ]) | (refine wpTree.take (v := .agg (Ev.item z).toArray) (yieldsIf_load_mid rfl 37 _ rfl _ _ rfl (Ev.item z) _ ?_ Try.underlying37 rfl (einfoL6 _)) ?_; (focus (intro _ hS; refine range_next hS.1 ?_; assumption)); simp only [Act.put, List.setIfInBounds_toArray, List.set_cons_zero, List.set_cons_succ]) | (refine wpTree.take (v := .agg (Ev.cells z).toArray) (yieldsIf_load_mid rfl 46 _ rfl _ _ rfl (Ev.cells z) _ ?_ Try.underlying46 rfl (einfo _)) ?_; (focus (intro _ hS; refine range_next hS.1 ?_; assumption)); simp only [Act.put, List.setIfInBounds_toArray, List.set_cons_zero, List.set_cons_succ]) | (refine wpTree.take (v := ?_) (Or.inl ⟨by rfl, ?_⟩) ?_; rotate_left; (focus (intro _ hS; (try dsimp only at hS); go_split_ands; (try subst hS); go_simp; (try (with_reducible rfl)); done)); simp only [Act.put, List.setIfInBounds_toArray, List.set_cons_zero, List.set_cons_succ])))
          refine wpTree.one (fun K hK => ?_)
          go_simp
          go_at_call 17
          refine (of6_any z _).mono ?_
          rintro e z11 ⟨rfl, hb⟩
          have hBelow := And.intro (Below.trans hHeld.1 (hb.mono (Below.size hHeld.1))) (cell_next hb hHeld.2)
          refine hK.out _ _ hBelow (fun hHeld' => ?_)
          clear hK K hHeld hBelow hb
          have hHeld := hHeld'
          clear hHeld'
          (try simp only [Act.put, List.setIfInBounds_toArray, List.set_cons_zero, List.set_cons_succ])
          (repeat (first | (refine wpTree.take (v := undef) (Or.inr ⟨by rfl, rfl⟩) ?_; simp only [Act.put, List.setIfInBounds_toArray, List.set_cons_zero, List.set_cons_succ]) | (refine wpTree.take (v := .agg (OpR.cells x.o).toArray) (yieldsIf_load_mid rfl 44 _ rfl _ _ rfl (OpR.cells x.o) _ ?_ Try.underlying44 rfl (oinfo _)) ?_; (focus (intro _ hS; refine range_next hS.1 ?_; assumption)); simp only [Act.put, List.setIfInBounds_toArray, List.set_cons_zero, List.set_cons_succ]) | (refine wpTree.take (v := .agg (OpR.plain x.o).toArray) (yieldsIf_load_mid rfl 35 _ rfl _ _ rfl (OpR.plain x.o) _ ?_ Try.underlying35 rfl (rpinfoL _)) ?_; (focus (intro _ hS; refine range_next hS.1 ?_; assumption)); simp only [Act.put, List.setIfInBounds_toArray, List.set_cons_zero, List.set_cons_succ]) | (refine wpTree.take (v := .agg (Ev.item x).toArray) (yieldsIf_load_mid rfl 31 _ rfl _ _ rfl (Ev.item x) _ ?_ Try.underlying31 rfl (iinfo _)) ?_; (focus (intro _ hS; refine range_next hS.1 ?_; assumption)); simp only [Act.put, List.setIfInBounds_toArray, List.set_cons_zero, List.set_cons_succ]) | (refine wpTree.take (v := .agg (Ev.item y).toArray) (yieldsIf_load_mid rfl 31 _ rfl _ _ rfl (Ev.item y) _ ?_ Try.underlying31 rfl (iinfo _)) ?_; (focus (intro _ hS; refine range_next hS.1 ?_; assumption)); simp only [Act.put, List.setIfInBounds_toArray, List.set_cons_zero, List.set_cons_succ]) | (refine wpTree.take (v := .agg (Ev.item x).toArray) (yieldsIf_load_mid rfl 37 _ rfl _ _ rfl (Ev.item x) _ ?_ Try.underlying37 rfl (einfoL6 _)) ?_; (focus (intro _ hS; refine range_next hS.1 ?_; assumption)); simp only [Act.put, List.setIfInBounds_toArray, List.set_cons_zero, List.set_cons_succ]) | (refine wpTree.take (v := .agg (Ev.item y).toArray) (yieldsIf_load_mid rfl 37 _ rfl _ _ rfl (Ev.item y) _ ?_ Try.underlying37 rfl (einfoL6 _)) ?_; (focus (intro _ hS; refine range_next hS.1 ?_; assumption)); simp only [Act.put, List.setIfInBounds_toArray, List.set_cons_zero, List.set_cons_succ]) | (refine wpTree.take (v := .agg (Ev.item z).toArray) (yieldsIf_load_mid rfl 37 _ rfl _ _ rfl (Ev.item z) _ ?_ Try.underlying37 rfl (einfoL6 _)) ?_; (focus (intro _ hS; refine range_next hS.1 ?_; assumption)); simp only [Act.put, List.setIfInBounds_toArray, List.set_cons_zero, List.set_cons_succ]) | (refine wpTree.take (v := .agg (Ev.cells z).toArray) (yieldsIf_load_mid rfl 46 _ rfl _ _ rfl (Ev.cells z) _ ?_ Try.underlying46 rfl (einfo _)) ?_; (focus (intro _ hS; refine range_next hS.1 ?_; assumption)); simp only [Act.put, List.setIfInBounds_toArray, List.set_cons_zero, List.set_cons_succ]) | (refine wpTree.take (v := ?_) (Or.inl ⟨by rfl, ?_⟩) ?_; rotate_left; (focus (intro _ hS; (try dsimp only at hS); go_split_ands; (try subst hS); go_simp; (try (with_reducible rfl)); done)); simp only [Act.put, List.setIfInBounds_toArray, List.set_cons_zero, List.set_cons_succ])))
          refine wpTree.done ?_
          clear ro rp rx ry rxr ryr rzr rz
          go_wp2_with fail
          go_meet
          exact ⟨rfl, hHeld.1⟩
        · skip
          refine wp_region_tree (S := (fun w => Below w8.heap.size w8 w ∧ w.cell? ⟨g1, 17, none⟩ = some (.int .i64 x.o.k))) (.take 0 (.take 2 (.take 3 (.one 1 (.one 4 (.take 5 (.take 6 (.take 7 (.take 9 (.take 10 (.one 8 (.one 11 (.take 12 (.take 13 (.take 14 (.take 15 (.take 16 (.take 17 (.take 18 (.take 19 (.take 20 (.take 21 (.take 24 (.one 22 (.one 23 (.one 25 (.take 26 (.take 27 (.take 28 (.take 29 (.take 31 (.take 34 (.take 35 (.take 36 (.one 30 (.one 32 (.one 33 (.take 37 (.take 38 (.take 39 (.take 40 (.take 42 (.one 41 (.take 43 (.take 44 (.take 45 (.take 46 (.take 47 (.take 48 (.take 49 (.take 50 (.take 51 (.take 52 (.take 53 (.take 54 (.take 55 (.take 56 (.take 57 (.take 58 .nil))))))))))))))))))))))))))))))))))))))))))))))))))))))))))) 9999 (by kernel_rfl) (by kernel_rfl) (by kernel_rfl) (by kernel_rfl) (by kernel_rfl) (fun _ _ d _ _ h => by cases d <;> exact h) ?_ (fun hHeld => ?_); (focus (exact ⟨(Below.refl _ _).drew, ck⟩)); simp only [Tree.map, List.getElem?_toArray, List.getElem?_cons_zero, List.getElem?_cons_succ]
          (repeat (first | (refine wpTree.take (v := undef) (Or.inr ⟨by rfl, rfl⟩) ?_; simp only [Act.put, List.setIfInBounds_toArray, List.set_cons_zero, List.set_cons_succ]) | (refine wpTree.take (v := .agg (OpR.cells x.o).toArray) (yieldsIf_load_mid rfl 44 _ rfl _ _ rfl (OpR.cells x.o) _ ?_ Try.underlying44 rfl (oinfo _)) ?_; (focus (intro _ hS; refine range_next hS.1 ?_; assumption)); simp only [Act.put, List.setIfInBounds_toArray, List.set_cons_zero, List.set_cons_succ]) | (refine wpTree.take (v := .agg (OpR.plain x.o).toArray) (yieldsIf_load_mid rfl 35 _ rfl _ _ rfl (OpR.plain x.o) _ ?_ Try.underlying35 rfl (rpinfoL _)) ?_; (focus (intro _ hS; refine range_next hS.1 ?_; assumption)); simp only [Act.put, List.setIfInBounds_toArray, List.set_cons_zero, List.set_cons_succ]) | (refine wpTree.take (v := .agg (Ev.item x).toArray) (yieldsIf_load_mid rfl 31 _ rfl _ _ rfl (Ev.item x) _ ?_ Try.underlying31 rfl (iinfo _)) ?_; (focus (intro _ hS; refine range_next hS.1 ?_; assumption)); simp only [Act.put, List.setIfInBounds_toArray, List.set_cons_zero, List.set_cons_succ]) | (refine wpTree.take (v := .agg (Ev.item y).toArray) (yieldsIf_load_mid rfl 31 _ rfl _ _ rfl (Ev.item y) _ ?_ Try.underlying31 rfl (iinfo _)) ?_; (focus (intro _ hS; refine range_next hS.1 ?_; assumption)); simp only [Act.put, List.setIfInBounds_toArray, List.set_cons_zero, List.set_cons_succ]) | (refine wpTree.take (v := .agg (Ev.item x).toArray) (yieldsIf_load_mid rfl 37 _ rfl _ _ rfl (Ev.item x) _ ?_ Try.underlying37 rfl (einfoL6 _)) ?_; (focus (intro _ hS; refine range_next hS.1 ?_; assumption)); simp only [Act.put, List.setIfInBounds_toArray, List.set_cons_zero, List.set_cons_succ]) | (refine wpTree.take (v := .agg (Ev.item y).toArray) (yieldsIf_load_mid rfl 37 _ rfl _ _ rfl (Ev.item y) _ ?_ Try.underlying37 rfl (einfoL6 _)) ?_; (focus (intro _ hS; refine range_next hS.1 ?_; assumption)); simp only [Act.put, List.setIfInBounds_toArray, List.set_cons_zero, List.set_cons_succ]) | (refine wpTree.take (v := .agg (Ev.item z).toArray) (yieldsIf_load_mid rfl 37 _ rfl _ _ rfl (Ev.item z) _ ?_ Try.underlying37 rfl (einfoL6 _)) ?_; (focus (intro _ hS; refine range_next hS.1 ?_; assumption)); simp only [Act.put, List.setIfInBounds_toArray, List.set_cons_zero, List.set_cons_succ]) | (refine wpTree.take (v := .agg (Ev.cells z).toArray) (yieldsIf_load_mid rfl 46 _ rfl _ _ rfl (Ev.cells z) _ ?_ Try.underlying46 rfl (einfo _)) ?_; (focus (intro _ hS; refine range_next hS.1 ?_; assumption)); simp only [Act.put, List.setIfInBounds_toArray, List.set_cons_zero, List.set_cons_succ]) | (refine wpTree.take (v := ?_) (Or.inl ⟨by rfl, ?_⟩) ?_; rotate_left; (focus (intro _ hS; (try dsimp only at hS); go_split_ands; (try subst hS); go_simp; (try (with_reducible rfl)); done)); simp only [Act.put, List.setIfInBounds_toArray, List.set_cons_zero, List.set_cons_succ])))
          refine wpTree.one (fun K hK => ?_)
          go_simp
          go_at_call 11
          refine (HMAY.out _).mono ?_
          rintro e z1 ⟨rfl, hb⟩
          have hBelow := And.intro (Below.trans hHeld.1 (hb.mono (Below.size hHeld.1))) (cell_next hb hHeld.2)
          refine hK.out _ _ hBelow (fun hHeld' => ?_)
          clear hK K hHeld hBelow hb
          have hHeld := hHeld'
          clear hHeld'
          (try simp only [Act.put, List.setIfInBounds_toArray, List.set_cons_zero, List.set_cons_succ])
          (repeat (first | (refine wpTree.take (v := undef) (Or.inr ⟨by rfl, rfl⟩) ?_; simp only [Act.put, List.setIfInBounds_toArray, List.set_cons_zero, List.set_cons_succ]) | (refine wpTree.take (v := .agg (OpR.cells x.o).toArray) (yieldsIf_load_mid rfl 44 _ rfl _ _ rfl (OpR.cells x.o) _ ?_ Try.underlying44 rfl (oinfo _)) ?_; (focus (intro _ hS; refine range_next hS.1 ?_; assumption)); simp only [Act.put, List.setIfInBounds_toArray, List.set_cons_zero, List.set_cons_succ]) | (refine wpTree.take (v := .agg (OpR.plain x.o).toArray) (yieldsIf_load_mid rfl 35 _ rfl _ _ rfl (OpR.plain x.o) _ ?_ Try.underlying35 rfl (rpinfoL _)) ?_; (focus (intro _ hS; refine range_next hS.1 ?_; assumption)); simp only [Act.put, List.setIfInBounds_toArray, List.set_cons_zero, List.set_cons_succ]) | (refine wpTree.take (v := .agg (Ev.item x).toArray) (yieldsIf_load_mid rfl 31 _ rfl _ _ rfl (Ev.item x) _ ?_ Try.underlying31 rfl (iinfo _)) ?_; (focus (intro _ hS; refine range_next hS.1 ?_; assumption)); simp only [Act.put, List.setIfInBounds_toArray, List.set_cons_zero, List.set_cons_succ]) | (refine wpTree.take (v := .agg (Ev.item y).toArray) (yieldsIf_load_mid rfl 31 _ rfl _ _ rfl (Ev.item y) _ ?_ Try.underlying31 rfl (iinfo _)) ?_; (focus (intro _ hS; refine range_next hS.1 ?_; assumption)); simp only [Act.put, List.setIfInBounds_toArray, List.set_cons_zero, List.set_cons_succ]) | (refine wpTree.take (v := .agg (Ev.item x).toArray) (yieldsIf_load_mid rfl 37 _ rfl _ _ rfl (Ev.item x) _ ?_ Try.underlying37 rfl (einfoL6 _)) ?_; (focus (intro _ hS; refine range_next hS.1 ?_; assumption)); simp only [Act.put, List.setIfInBounds_toArray, List.set_cons_zero, List.set_cons_succ]) | (refine wpTree.take (v := .agg (Ev.item y).toArray) (yieldsIf_load_mid rfl 37 _ rfl _ _ rfl (Ev.item y) _ ?_ Try.underlying37 rfl (einfoL6 _)) ?_; (focus (intro _ hS; refine range_next hS.1 ?_; assumption)); simp only [Act.put, List.setIfInBounds_toArray, List.set_cons_zero, List.set_cons_succ]) | (refine wpTree.take (v := .agg (Ev.item z).toArray) (yieldsIf_load_mid rfl 37 _ rfl _ _ rfl (Ev.item z) _ ?_ Try.underlying37 rfl (einfoL6 _)) ?_; (focus (intro _ hS; refine range_next hS.1 ?_; assumption)); simp only [Act.put, List.setIfInBounds_toArray, List.set_cons_zero, List.set_cons_succ]) | (refine wpTree.take (v := .agg (Ev.cells z).toArray) (yieldsIf_load_mid rfl 46 _ rfl _ _ rfl (Ev.cells z) _ ?_ Try.underlying46 rfl (einfo _)) ?_; (focus (intro _ hS; refine range_next hS.1 ?_; assumption)); simp only [Act.put, List.setIfInBounds_toArray, List.set_cons_zero, List.set_cons_succ]) | (refine wpTree.take (v := ?_) (Or.inl ⟨by rfl, ?_⟩) ?_; rotate_left; (focus (intro _ hS; (try dsimp only at hS); go_split_ands; (try subst hS); go_simp; (try (with_reducible rfl)); done)); simp only [Act.put, List.setIfInBounds_toArray, List.set_cons_zero, List.set_cons_succ])))
          refine wpTree.one (fun K hK => ?_)
          go_simp
          go_at_call 12
          refine (HRMAY.out _).mono ?_
          rintro e z2 ⟨rfl, hb⟩
          have hBelow := And.intro (Below.trans hHeld.1 (hb.mono (Below.size hHeld.1))) (cell_next hb hHeld.2)
          refine hK.out _ _ hBelow (fun hHeld' => ?_)
          clear hK K hHeld hBelow hb
          have hHeld := hHeld'
          clear hHeld'
          (try simp only [Act.put, List.setIfInBounds_toArray, List.set_cons_zero, List.set_cons_succ])
          (repeat (first | (refine wpTree.take (v := undef) (Or.inr ⟨by rfl, rfl⟩) ?_; simp only [Act.put, List.setIfInBounds_toArray, List.set_cons_zero, List.set_cons_succ]) | (refine wpTree.take (v := .agg (OpR.cells x.o).toArray) (yieldsIf_load_mid rfl 44 _ rfl _ _ rfl (OpR.cells x.o) _ ?_ Try.underlying44 rfl (oinfo _)) ?_; (focus (intro _ hS; refine range_next hS.1 ?_; assumption)); simp only [Act.put, List.setIfInBounds_toArray, List.set_cons_zero, List.set_cons_succ]) | (refine wpTree.take (v := .agg (OpR.plain x.o).toArray) (yieldsIf_load_mid rfl 35 _ rfl _ _ rfl (OpR.plain x.o) _ ?_ Try.underlying35 rfl (rpinfoL _)) ?_; (focus (intro _ hS; refine range_next hS.1 ?_; assumption)); simp only [Act.put, List.setIfInBounds_toArray, List.set_cons_zero, List.set_cons_succ]) | (refine wpTree.take (v := .agg (Ev.item x).toArray) (yieldsIf_load_mid rfl 31 _ rfl _ _ rfl (Ev.item x) _ ?_ Try.underlying31 rfl (iinfo _)) ?_; (focus (intro _ hS; refine range_next hS.1 ?_; assumption)); simp only [Act.put, List.setIfInBounds_toArray, List.set_cons_zero, List.set_cons_succ]) | (refine wpTree.take (v := .agg (Ev.item y).toArray) (yieldsIf_load_mid rfl 31 _ rfl _ _ rfl (Ev.item y) _ ?_ Try.underlying31 rfl (iinfo _)) ?_; (focus (intro _ hS; refine range_next hS.1 ?_; assumption)); simp only [Act.put, List.setIfInBounds_toArray, List.set_cons_zero, List.set_cons_succ]) | (refine wpTree.take (v := .agg (Ev.item x).toArray) (yieldsIf_load_mid rfl 37 _ rfl _ _ rfl (Ev.item x) _ ?_ Try.underlying37 rfl (einfoL6 _)) ?_; (focus (intro _ hS; refine range_next hS.1 ?_; assumption)); simp only [Act.put, List.setIfInBounds_toArray, List.set_cons_zero, List.set_cons_succ]) | (refine wpTree.take (v := .agg (Ev.item y).toArray) (yieldsIf_load_mid rfl 37 _ rfl _ _ rfl (Ev.item y) _ ?_ Try.underlying37 rfl (einfoL6 _)) ?_; (focus (intro _ hS; refine range_next hS.1 ?_; assumption)); simp only [Act.put, List.setIfInBounds_toArray, List.set_cons_zero, List.set_cons_succ]) | (refine wpTree.take (v := .agg (Ev.item z).toArray) (yieldsIf_load_mid rfl 37 _ rfl _ _ rfl (Ev.item z) _ ?_ Try.underlying37 rfl (einfoL6 _)) ?_; (focus (intro _ hS; refine range_next hS.1 ?_; assumption)); simp only [Act.put, List.setIfInBounds_toArray, List.set_cons_zero, List.set_cons_succ]) | (refine wpTree.take (v := .agg (Ev.cells z).toArray) (yieldsIf_load_mid rfl 46 _ rfl _ _ rfl (Ev.cells z) _ ?_ Try.underlying46 rfl (einfo _)) ?_; (focus (intro _ hS; refine range_next hS.1 ?_; assumption)); simp only [Act.put, List.setIfInBounds_toArray, List.set_cons_zero, List.set_cons_succ]) | (refine wpTree.take (v := ?_) (Or.inl ⟨by rfl, ?_⟩) ?_; rotate_left; (focus (intro _ hS; (try dsimp only at hS); go_split_ands; (try subst hS); go_simp; (try (with_reducible rfl)); done)); simp only [Act.put, List.setIfInBounds_toArray, List.set_cons_zero, List.set_cons_succ])))
          refine wpTree.one (fun K hK => ?_)
          go_simp
          go_at_call 13
          refine (HCUS.out _).mono ?_
          rintro e z3 ⟨rfl, hb⟩
          have hBelow := And.intro (Below.trans hHeld.1 (hb.mono (Below.size hHeld.1))) (cell_next hb hHeld.2)
          refine hK.out _ _ hBelow (fun hHeld' => ?_)
          clear hK K hHeld hBelow hb
          have hHeld := hHeld'
          clear hHeld'
          (try simp only [Act.put, List.setIfInBounds_toArray, List.set_cons_zero, List.set_cons_succ])
          (repeat (first | (refine wpTree.take (v := undef) (Or.inr ⟨by rfl, rfl⟩) ?_; simp only [Act.put, List.setIfInBounds_toArray, List.set_cons_zero, List.set_cons_succ]) | (refine wpTree.take (v := .agg (OpR.cells x.o).toArray) (yieldsIf_load_mid rfl 44 _ rfl _ _ rfl (OpR.cells x.o) _ ?_ Try.underlying44 rfl (oinfo _)) ?_; (focus (intro _ hS; refine range_next hS.1 ?_; assumption)); simp only [Act.put, List.setIfInBounds_toArray, List.set_cons_zero, List.set_cons_succ]) | (refine wpTree.take (v := .agg (OpR.plain x.o).toArray) (yieldsIf_load_mid rfl 35 _ rfl _ _ rfl (OpR.plain x.o) _ ?_ Try.underlying35 rfl (rpinfoL _)) ?_; (focus (intro _ hS; refine range_next hS.1 ?_; assumption)); simp only [Act.put, List.setIfInBounds_toArray, List.set_cons_zero, List.set_cons_succ]) | (refine wpTree.take (v := .agg (Ev.item x).toArray) (yieldsIf_load_mid rfl 31 _ rfl _ _ rfl (Ev.item x) _ ?_ Try.underlying31 rfl (iinfo _)) ?_; (focus (intro _ hS; refine range_next hS.1 ?_; assumption)); simp only [Act.put, List.setIfInBounds_toArray, List.set_cons_zero, List.set_cons_succ]) | (refine wpTree.take (v := .agg (Ev.item y).toArray) (yieldsIf_load_mid rfl 31 _ rfl _ _ rfl (Ev.item y) _ ?_ Try.underlying31 rfl (iinfo _)) ?_; (focus (intro _ hS; refine range_next hS.1 ?_; assumption)); simp only [Act.put, List.setIfInBounds_toArray, List.set_cons_zero, List.set_cons_succ]) | (refine wpTree.take (v := .agg (Ev.item x).toArray) (yieldsIf_load_mid rfl 37 _ rfl _ _ rfl (Ev.item x) _ ?_ Try.underlying37 rfl (einfoL6 _)) ?_; (focus (intro _ hS; refine range_next hS.1 ?_; assumption)); simp only [Act.put, List.setIfInBounds_toArray, List.set_cons_zero, List.set_cons_succ]) | (refine wpTree.take (v := .agg (Ev.item y).toArray) (yieldsIf_load_mid rfl 37 _ rfl _ _ rfl (Ev.item y) _ ?_ Try.underlying37 rfl (einfoL6 _)) ?_; (focus (intro _ hS; refine range_next hS.1 ?_; assumption)); simp only [Act.put, List.setIfInBounds_toArray, List.set_cons_zero, List.set_cons_succ]) | (refine wpTree.take (v := .agg (Ev.item z).toArray) (yieldsIf_load_mid rfl 37 _ rfl _ _ rfl (Ev.item z) _ ?_ Try.underlying37 rfl (einfoL6 _)) ?_; (focus (intro _ hS; refine range_next hS.1 ?_; assumption)); simp only [Act.put, List.setIfInBounds_toArray, List.set_cons_zero, List.set_cons_succ]) | (refine wpTree.take (v := .agg (Ev.cells z).toArray) (yieldsIf_load_mid rfl 46 _ rfl _ _ rfl (Ev.cells z) _ ?_ Try.underlying46 rfl (einfo _)) ?_; (focus (intro _ hS; refine range_next hS.1 ?_; assumption)); simp only [Act.put, List.setIfInBounds_toArray, List.set_cons_zero, List.set_cons_succ]) | (refine wpTree.take (v := ?_) (Or.inl ⟨by rfl, ?_⟩) ?_; rotate_left; (focus (intro _ hS; (try dsimp only at hS); go_split_ands; (try subst hS); go_simp; (try (with_reducible rfl)); done)); simp only [Act.put, List.setIfInBounds_toArray, List.set_cons_zero, List.set_cons_succ])))
          refine wpTree.one (fun K hK => ?_)
          go_simp
          go_at_call 12
          refine (HRMAY.out _).mono ?_
          rintro e z4 ⟨rfl, hb⟩
          have hBelow := And.intro (Below.trans hHeld.1 (hb.mono (Below.size hHeld.1))) (cell_next hb hHeld.2)
          refine hK.out _ _ hBelow (fun hHeld' => ?_)
          clear hK K hHeld hBelow hb
          have hHeld := hHeld'
          clear hHeld'
          (try simp only [Act.put, List.setIfInBounds_toArray, List.set_cons_zero, List.set_cons_succ])
          (repeat (first | (refine wpTree.take (v := undef) (Or.inr ⟨by rfl, rfl⟩) ?_; simp only [Act.put, List.setIfInBounds_toArray, List.set_cons_zero, List.set_cons_succ]) | (refine wpTree.take (v := .agg (OpR.cells x.o).toArray) (yieldsIf_load_mid rfl 44 _ rfl _ _ rfl (OpR.cells x.o) _ ?_ Try.underlying44 rfl (oinfo _)) ?_; (focus (intro _ hS; refine range_next hS.1 ?_; assumption)); simp only [Act.put, List.setIfInBounds_toArray, List.set_cons_zero, List.set_cons_succ]) | (refine wpTree.take (v := .agg (OpR.plain x.o).toArray) (yieldsIf_load_mid rfl 35 _ rfl _ _ rfl (OpR.plain x.o) _ ?_ Try.underlying35 rfl (rpinfoL _)) ?_; (focus (intro _ hS; refine range_next hS.1 ?_; assumption)); simp only [Act.put, List.setIfInBounds_toArray, List.set_cons_zero, List.set_cons_succ]) | (refine wpTree.take (v := .agg (Ev.item x).toArray) (yieldsIf_load_mid rfl 31 _ rfl _ _ rfl (Ev.item x) _ ?_ Try.underlying31 rfl (iinfo _)) ?_; (focus (intro _ hS; refine range_next hS.1 ?_; assumption)); simp only [Act.put, List.setIfInBounds_toArray, List.set_cons_zero, List.set_cons_succ]) | (refine wpTree.take (v := .agg (Ev.item y).toArray) (yieldsIf_load_mid rfl 31 _ rfl _ _ rfl (Ev.item y) _ ?_ Try.underlying31 rfl (iinfo _)) ?_; (focus (intro _ hS; refine range_next hS.1 ?_; assumption)); simp only [Act.put, List.setIfInBounds_toArray, List.set_cons_zero, List.set_cons_succ]) | (refine wpTree.take (v := .agg (Ev.item x).toArray) (yieldsIf_load_mid rfl 37 _ rfl _ _ rfl (Ev.item x) _ ?_ Try.underlying37 rfl (einfoL6 _)) ?_; (focus (intro _ hS; refine range_next hS.1 ?_; assumption)); simp only [Act.put, List.setIfInBounds_toArray, List.set_cons_zero, List.set_cons_succ]) | (refine wpTree.take (v := .agg (Ev.item y).toArray) (yieldsIf_load_mid rfl 37 _ rfl _ _ rfl (Ev.item y) _ ?_ Try.underlying37 rfl (einfoL6 _)) ?_; (focus (intro _ hS; refine range_next hS.1 ?_; assumption)); simp only [Act.put, List.setIfInBounds_toArray, List.set_cons_zero, List.set_cons_succ]) | (refine wpTree.take (v := .agg (Ev.item z).toArray) (yieldsIf_load_mid rfl 37 _ rfl _ _ rfl (Ev.item z) _ ?_ Try.underlying37 rfl (einfoL6 _)) ?_; (focus (intro _ hS; refine range_next hS.1 ?_; assumption)); simp only [Act.put, List.setIfInBounds_toArray, List.set_cons_zero, List.set_cons_succ]) | (refine wpTree.take (v := .agg (Ev.cells z).toArray) (yieldsIf_load_mid rfl 46 _ rfl _ _ rfl (Ev.cells z) _ ?_ Try.underlying46 rfl (einfo _)) ?_; (focus (intro _ hS; refine range_next hS.1 ?_; assumption)); simp only [Act.put, List.setIfInBounds_toArray, List.set_cons_zero, List.set_cons_succ]) | (refine wpTree.take (v := ?_) (Or.inl ⟨by rfl, ?_⟩) ?_; rotate_left; (focus (intro _ hS; (try dsimp only at hS); go_split_ands; (try subst hS); go_simp; (try (with_reducible rfl)); done)); simp only [Act.put, List.setIfInBounds_toArray, List.set_cons_zero, List.set_cons_succ])))
          refine wpTree.one (fun K hK => ?_)
          go_simp
          go_at_call 7
          refine (itemevent_any x _).mono ?_
          rintro e z5 ⟨rfl, hb⟩
          have hBelow := And.intro (Below.trans hHeld.1 (hb.mono (Below.size hHeld.1))) (cell_next hb hHeld.2)
          refine hK.out _ _ hBelow (fun hHeld' => ?_)
          clear hK K hHeld hBelow hb
          have hHeld := hHeld'
          clear hHeld'
          (try simp only [Act.put, List.setIfInBounds_toArray, List.set_cons_zero, List.set_cons_succ])
          (repeat (first | (refine wpTree.take (v := undef) (Or.inr ⟨by rfl, rfl⟩) ?_; simp only [Act.put, List.setIfInBounds_toArray, List.set_cons_zero, List.set_cons_succ]) | (refine wpTree.take (v := .agg (OpR.cells x.o).toArray) (yieldsIf_load_mid rfl 44 _ rfl _ _ rfl (OpR.cells x.o) _ ?_ Try.underlying44 rfl (oinfo _)) ?_; (focus (intro _ hS; refine range_next hS.1 ?_; assumption)); simp only [Act.put, List.setIfInBounds_toArray, List.set_cons_zero, List.set_cons_succ]) | (refine wpTree.take (v := .agg (OpR.plain x.o).toArray) (yieldsIf_load_mid rfl 35 _ rfl _ _ rfl (OpR.plain x.o) _ ?_ Try.underlying35 rfl (rpinfoL _)) ?_; (focus (intro _ hS; refine range_next hS.1 ?_; assumption)); simp only [Act.put, List.setIfInBounds_toArray, List.set_cons_zero, List.set_cons_succ]) | (refine wpTree.take (v := .agg (Ev.item x).toArray) (yieldsIf_load_mid rfl 31 _ rfl _ _ rfl (Ev.item x) _ ?_ Try.underlying31 rfl (iinfo _)) ?_; (focus (intro _ hS; refine range_next hS.1 ?_; assumption)); simp only [Act.put, List.setIfInBounds_toArray, List.set_cons_zero, List.set_cons_succ]) | (refine wpTree.take (v := .agg (Ev.item y).toArray) (yieldsIf_load_mid rfl 31 _ rfl _ _ rfl (Ev.item y) _ ?_ Try.underlying31 rfl (iinfo _)) ?_; (focus (intro _ hS; refine range_next hS.1 ?_; assumption)); simp only [Act.put, List.setIfInBounds_toArray, List.set_cons_zero, List.set_cons_succ]) | (refine wpTree.take (v := .agg (Ev.item x).toArray) (yieldsIf_load_mid rfl 37 _ rfl _ _ rfl (Ev.item x) _ ?_ Try.underlying37 rfl (einfoL6 _)) ?_; (focus (intro _ hS; refine range_next hS.1 ?_; assumption)); simp only [Act.put, List.setIfInBounds_toArray, List.set_cons_zero, List.set_cons_succ]) | (refine wpTree.take (v := .agg (Ev.item y).toArray) (yieldsIf_load_mid rfl 37 _ rfl _ _ rfl (Ev.item y) _ ?_ Try.underlying37 rfl (einfoL6 _)) ?_; (focus (intro _ hS; refine range_next hS.1 ?_; assumption)); simp only [Act.put, List.setIfInBounds_toArray, List.set_cons_zero, List.set_cons_succ]) | (refine wpTree.take (v := .agg (Ev.item z).toArray) (yieldsIf_load_mid rfl 37 _ rfl _ _ rfl (Ev.item z) _ ?_ Try.underlying37 rfl (einfoL6 _)) ?_; (focus (intro _ hS; refine range_next hS.1 ?_; assumption)); simp only [Act.put, List.setIfInBounds_toArray, List.set_cons_zero, List.set_cons_succ]) | (refine wpTree.take (v := .agg (Ev.cells z).toArray) (yieldsIf_load_mid rfl 46 _ rfl _ _ rfl (Ev.cells z) _ ?_ Try.underlying46 rfl (einfo _)) ?_; (focus (intro _ hS; refine range_next hS.1 ?_; assumption)); simp only [Act.put, List.setIfInBounds_toArray, List.set_cons_zero, List.set_cons_succ]) | (refine wpTree.take (v := ?_) (Or.inl ⟨by rfl, ?_⟩) ?_; rotate_left; (focus (intro _ hS; (try dsimp only at hS); go_split_ands; (try subst hS); go_simp; (try (with_reducible rfl)); done)); simp only [Act.put, List.setIfInBounds_toArray, List.set_cons_zero, List.set_cons_succ])))
          refine wpTree.one (fun K hK => ?_)
          go_simp
          go_at_call 14
          refine (HERI.out _).mono ?_
          rintro e z6 ⟨rfl, hb⟩
          have hBelow := And.intro (Below.trans hHeld.1 (hb.mono (Below.size hHeld.1))) (cell_next hb hHeld.2)
          refine hK.out _ _ hBelow (fun hHeld' => ?_)
          clear hK K hHeld hBelow hb
          have hHeld := hHeld'
          clear hHeld'
          (try simp only [Act.put, List.setIfInBounds_toArray, List.set_cons_zero, List.set_cons_succ])
          (repeat (first | (refine wpTree.take (v := undef) (Or.inr ⟨by rfl, rfl⟩) ?_; simp only [Act.put, List.setIfInBounds_toArray, List.set_cons_zero, List.set_cons_succ]) | (refine wpTree.take (v := .agg (OpR.cells x.o).toArray) (yieldsIf_load_mid rfl 44 _ rfl _ _ rfl (OpR.cells x.o) _ ?_ Try.underlying44 rfl (oinfo _)) ?_; (focus (intro _ hS; refine range_next hS.1 ?_; assumption)); simp only [Act.put, List.setIfInBounds_toArray, List.set_cons_zero, List.set_cons_succ]) | (refine wpTree.take (v := .agg (OpR.plain x.o).toArray) (yieldsIf_load_mid rfl 35 _ rfl _ _ rfl (OpR.plain x.o) _ ?_ Try.underlying35 rfl (rpinfoL _)) ?_; (focus (intro _ hS; refine range_next hS.1 ?_; assumption)); simp only [Act.put, List.setIfInBounds_toArray, List.set_cons_zero, List.set_cons_succ]) | (refine wpTree.take (v := .agg (Ev.item x).toArray) (yieldsIf_load_mid rfl 31 _ rfl _ _ rfl (Ev.item x) _ ?_ Try.underlying31 rfl (iinfo _)) ?_; (focus (intro _ hS; refine range_next hS.1 ?_; assumption)); simp only [Act.put, List.setIfInBounds_toArray, List.set_cons_zero, List.set_cons_succ]) | (refine wpTree.take (v := .agg (Ev.item y).toArray) (yieldsIf_load_mid rfl 31 _ rfl _ _ rfl (Ev.item y) _ ?_ Try.underlying31 rfl (iinfo _)) ?_; (focus (intro _ hS; refine range_next hS.1 ?_; assumption)); simp only [Act.put, List.setIfInBounds_toArray, List.set_cons_zero, List.set_cons_succ]) | (refine wpTree.take (v := .agg (Ev.item x).toArray) (yieldsIf_load_mid rfl 37 _ rfl _ _ rfl (Ev.item x) _ ?_ Try.underlying37 rfl (einfoL6 _)) ?_; (focus (intro _ hS; refine range_next hS.1 ?_; assumption)); simp only [Act.put, List.setIfInBounds_toArray, List.set_cons_zero, List.set_cons_succ]) | (refine wpTree.take (v := .agg (Ev.item y).toArray) (yieldsIf_load_mid rfl 37 _ rfl _ _ rfl (Ev.item y) _ ?_ Try.underlying37 rfl (einfoL6 _)) ?_; (focus (intro _ hS; refine range_next hS.1 ?_; assumption)); simp only [Act.put, List.setIfInBounds_toArray, List.set_cons_zero, List.set_cons_succ]) | (refine wpTree.take (v := .agg (Ev.item z).toArray) (yieldsIf_load_mid rfl 37 _ rfl _ _ rfl (Ev.item z) _ ?_ Try.underlying37 rfl (einfoL6 _)) ?_; (focus (intro _ hS; refine range_next hS.1 ?_; assumption)); simp only [Act.put, List.setIfInBounds_toArray, List.set_cons_zero, List.set_cons_succ]) | (refine wpTree.take (v := .agg (Ev.cells z).toArray) (yieldsIf_load_mid rfl 46 _ rfl _ _ rfl (Ev.cells z) _ ?_ Try.underlying46 rfl (einfo _)) ?_; (focus (intro _ hS; refine range_next hS.1 ?_; assumption)); simp only [Act.put, List.setIfInBounds_toArray, List.set_cons_zero, List.set_cons_succ]) | (refine wpTree.take (v := ?_) (Or.inl ⟨by rfl, ?_⟩) ?_; rotate_left; (focus (intro _ hS; (try dsimp only at hS); go_split_ands; (try subst hS); go_simp; (try (with_reducible rfl)); done)); simp only [Act.put, List.setIfInBounds_toArray, List.set_cons_zero, List.set_cons_succ])))
          refine wpTree.one (fun K hK => ?_)
          go_simp
          go_at_call 15
          refine (HRRI.out _).mono ?_
          rintro e z7 ⟨rfl, hb⟩
          have hBelow := And.intro (Below.trans hHeld.1 (hb.mono (Below.size hHeld.1))) (cell_next hb hHeld.2)
          refine hK.out _ _ hBelow (fun hHeld' => ?_)
          clear hK K hHeld hBelow hb
          have hHeld := hHeld'
          clear hHeld'
          (try simp only [Act.put, List.setIfInBounds_toArray, List.set_cons_zero, List.set_cons_succ])
          (repeat (first | (refine wpTree.take (v := undef) (Or.inr ⟨by rfl, rfl⟩) ?_; simp only [Act.put, List.setIfInBounds_toArray, List.set_cons_zero, List.set_cons_succ]) | (refine wpTree.take (v := .agg (OpR.cells x.o).toArray) (yieldsIf_load_mid rfl 44 _ rfl _ _ rfl (OpR.cells x.o) _ ?_ Try.underlying44 rfl (oinfo _)) ?_; (focus (intro _ hS; refine range_next hS.1 ?_; assumption)); simp only [Act.put, List.setIfInBounds_toArray, List.set_cons_zero, List.set_cons_succ]) | (refine wpTree.take (v := .agg (OpR.plain x.o).toArray) (yieldsIf_load_mid rfl 35 _ rfl _ _ rfl (OpR.plain x.o) _ ?_ Try.underlying35 rfl (rpinfoL _)) ?_; (focus (intro _ hS; refine range_next hS.1 ?_; assumption)); simp only [Act.put, List.setIfInBounds_toArray, List.set_cons_zero, List.set_cons_succ]) | (refine wpTree.take (v := .agg (Ev.item x).toArray) (yieldsIf_load_mid rfl 31 _ rfl _ _ rfl (Ev.item x) _ ?_ Try.underlying31 rfl (iinfo _)) ?_; (focus (intro _ hS; refine range_next hS.1 ?_; assumption)); simp only [Act.put, List.setIfInBounds_toArray, List.set_cons_zero, List.set_cons_succ]) | (refine wpTree.take (v := .agg (Ev.item y).toArray) (yieldsIf_load_mid rfl 31 _ rfl _ _ rfl (Ev.item y) _ ?_ Try.underlying31 rfl (iinfo _)) ?_; (focus (intro _ hS; refine range_next hS.1 ?_; assumption)); simp only [Act.put, List.setIfInBounds_toArray, List.set_cons_zero, List.set_cons_succ]) | (refine wpTree.take (v := .agg (Ev.item x).toArray) (yieldsIf_load_mid rfl 37 _ rfl _ _ rfl (Ev.item x) _ ?_ Try.underlying37 rfl (einfoL6 _)) ?_; (focus (intro _ hS; refine range_next hS.1 ?_; assumption)); simp only [Act.put, List.setIfInBounds_toArray, List.set_cons_zero, List.set_cons_succ]) | (refine wpTree.take (v := .agg (Ev.item y).toArray) (yieldsIf_load_mid rfl 37 _ rfl _ _ rfl (Ev.item y) _ ?_ Try.underlying37 rfl (einfoL6 _)) ?_; (focus (intro _ hS; refine range_next hS.1 ?_; assumption)); simp only [Act.put, List.setIfInBounds_toArray, List.set_cons_zero, List.set_cons_succ]) | (refine wpTree.take (v := .agg (Ev.item z).toArray) (yieldsIf_load_mid rfl 37 _ rfl _ _ rfl (Ev.item z) _ ?_ Try.underlying37 rfl (einfoL6 _)) ?_; (focus (intro _ hS; refine range_next hS.1 ?_; assumption)); simp only [Act.put, List.setIfInBounds_toArray, List.set_cons_zero, List.set_cons_succ]) | (refine wpTree.take (v := .agg (Ev.cells z).toArray) (yieldsIf_load_mid rfl 46 _ rfl _ _ rfl (Ev.cells z) _ ?_ Try.underlying46 rfl (einfo _)) ?_; (focus (intro _ hS; refine range_next hS.1 ?_; assumption)); simp only [Act.put, List.setIfInBounds_toArray, List.set_cons_zero, List.set_cons_succ]) | (refine wpTree.take (v := ?_) (Or.inl ⟨by rfl, ?_⟩) ?_; rotate_left; (focus (intro _ hS; (try dsimp only at hS); go_split_ands; (try subst hS); go_simp; (try (with_reducible rfl)); done)); simp only [Act.put, List.setIfInBounds_toArray, List.set_cons_zero, List.set_cons_succ])))
          refine wpTree.one (fun K hK => ?_)
          go_simp
          go_at_call 7
          refine (itemevent_any x _).mono ?_
          rintro e z8 ⟨rfl, hb⟩
          have hBelow := And.intro (Below.trans hHeld.1 (hb.mono (Below.size hHeld.1))) (cell_next hb hHeld.2)
          refine hK.out _ _ hBelow (fun hHeld' => ?_)
          clear hK K hHeld hBelow hb
          have hHeld := hHeld'
          clear hHeld'
          (try simp only [Act.put, List.setIfInBounds_toArray, List.set_cons_zero, List.set_cons_succ])
          (repeat (first | (refine wpTree.take (v := undef) (Or.inr ⟨by rfl, rfl⟩) ?_; simp only [Act.put, List.setIfInBounds_toArray, List.set_cons_zero, List.set_cons_succ]) | (refine wpTree.take (v := .agg (OpR.cells x.o).toArray) (yieldsIf_load_mid rfl 44 _ rfl _ _ rfl (OpR.cells x.o) _ ?_ Try.underlying44 rfl (oinfo _)) ?_; (focus (intro _ hS; refine range_next hS.1 ?_; assumption)); simp only [Act.put, List.setIfInBounds_toArray, List.set_cons_zero, List.set_cons_succ]) | (refine wpTree.take (v := .agg (OpR.plain x.o).toArray) (yieldsIf_load_mid rfl 35 _ rfl _ _ rfl (OpR.plain x.o) _ ?_ Try.underlying35 rfl (rpinfoL _)) ?_; (focus (intro _ hS; refine range_next hS.1 ?_; assumption)); simp only [Act.put, List.setIfInBounds_toArray, List.set_cons_zero, List.set_cons_succ]) | (refine wpTree.take (v := .agg (Ev.item x).toArray) (yieldsIf_load_mid rfl 31 _ rfl _ _ rfl (Ev.item x) _ ?_ Try.underlying31 rfl (iinfo _)) ?_; (focus (intro _ hS; refine range_next hS.1 ?_; assumption)); simp only [Act.put, List.setIfInBounds_toArray, List.set_cons_zero, List.set_cons_succ]) | (refine wpTree.take (v := .agg (Ev.item y).toArray) (yieldsIf_load_mid rfl 31 _ rfl _ _ rfl (Ev.item y) _ ?_ Try.underlying31 rfl (iinfo _)) ?_; (focus (intro _ hS; refine range_next hS.1 ?_; assumption)); simp only [Act.put, List.setIfInBounds_toArray, List.set_cons_zero, List.set_cons_succ]) | (refine wpTree.take (v := .agg (Ev.item x).toArray) (yieldsIf_load_mid rfl 37 _ rfl _ _ rfl (Ev.item x) _ ?_ Try.underlying37 rfl (einfoL6 _)) ?_; (focus (intro _ hS; refine range_next hS.1 ?_; assumption)); simp only [Act.put, List.setIfInBounds_toArray, List.set_cons_zero, List.set_cons_succ]) | (refine wpTree.take (v := .agg (Ev.item y).toArray) (yieldsIf_load_mid rfl 37 _ rfl _ _ rfl (Ev.item y) _ ?_ Try.underlying37 rfl (einfoL6 _)) ?_; (focus (intro _ hS; refine range_next hS.1 ?_; assumption)); simp only [Act.put, List.setIfInBounds_toArray, List.set_cons_zero, List.set_cons_succ]) | (refine wpTree.take (v := .agg (Ev.item z).toArray) (yieldsIf_load_mid rfl 37 _ rfl _ _ rfl (Ev.item z) _ ?_ Try.underlying37 rfl (einfoL6 _)) ?_; (focus (intro _ hS; refine range_next hS.1 ?_; assumption)); simp only [Act.put, List.setIfInBounds_toArray, List.set_cons_zero, List.set_cons_succ]) | (refine wpTree.take (v := .agg (Ev.cells z).toArray) (yieldsIf_load_mid rfl 46 _ rfl _ _ rfl (Ev.cells z) _ ?_ Try.underlying46 rfl (einfo _)) ?_; (focus (intro _ hS; refine range_next hS.1 ?_; assumption)); simp only [Act.put, List.setIfInBounds_toArray, List.set_cons_zero, List.set_cons_succ]) | (refine wpTree.take (v := ?_) (Or.inl ⟨by rfl, ?_⟩) ?_; rotate_left; (focus (intro _ hS; (try dsimp only at hS); go_split_ands; (try subst hS); go_simp; (try (with_reducible rfl)); done)); simp only [Act.put, List.setIfInBounds_toArray, List.set_cons_zero, List.set_cons_succ])))
          refine wpTree.one (fun K hK => ?_)
          go_simp
          go_at_call 7
          refine (itemevent_any y _).mono ?_
          rintro e z9 ⟨rfl, hb⟩
          have hBelow := And.intro (Below.trans hHeld.1 (hb.mono (Below.size hHeld.1))) (cell_next hb hHeld.2)
          refine hK.out _ _ hBelow (fun hHeld' => ?_)
          clear hK K hHeld hBelow hb
          have hHeld := hHeld'
          clear hHeld'
          (try simp only [Act.put, List.setIfInBounds_toArray, List.set_cons_zero, List.set_cons_succ])
          (repeat (first | (refine wpTree.take (v := undef) (Or.inr ⟨by rfl, rfl⟩) ?_; simp only [Act.put, List.setIfInBounds_toArray, List.set_cons_zero, List.set_cons_succ]) | (refine wpTree.take (v := .agg (OpR.cells x.o).toArray) (yieldsIf_load_mid rfl 44 _ rfl _ _ rfl (OpR.cells x.o) _ ?_ Try.underlying44 rfl (oinfo _)) ?_; (focus (intro _ hS; refine range_next hS.1 ?_; assumption)); simp only [Act.put, List.setIfInBounds_toArray, List.set_cons_zero, List.set_cons_succ]) | (refine wpTree.take (v := .agg (OpR.plain x.o).toArray) (yieldsIf_load_mid rfl 35 _ rfl _ _ rfl (OpR.plain x.o) _ ?_ Try.underlying35 rfl (rpinfoL _)) ?_; (focus (intro _ hS; refine range_next hS.1 ?_; assumption)); simp only [Act.put, List.setIfInBounds_toArray, List.set_cons_zero, List.set_cons_succ]) | (refine wpTree.take (v := .agg (Ev.item x).toArray) (yieldsIf_load_mid rfl 31 _ rfl _ _ rfl (Ev.item x) _ ?_ Try.underlying31 rfl (iinfo _)) ?_; (focus (intro _ hS; refine range_next hS.1 ?_; assumption)); simp only [Act.put, List.setIfInBounds_toArray, List.set_cons_zero, List.set_cons_succ]) | (refine wpTree.take (v := .agg (Ev.item y).toArray) (yieldsIf_load_mid rfl 31 _ rfl _ _ rfl (Ev.item y) _ ?_ Try.underlying31 rfl (iinfo _)) ?_; (focus (intro _ hS; refine range_next hS.1 ?_; assumption)); simp only [Act.put, List.setIfInBounds_toArray, List.set_cons_zero, List.set_cons_succ]) | (refine wpTree.take (v := .agg (Ev.item x).toArray) (yieldsIf_load_mid rfl 37 _ rfl _ _ rfl (Ev.item x) _ ?_ Try.underlying37 rfl (einfoL6 _)) ?_; (focus (intro _ hS; refine range_next hS.1 ?_; assumption)); simp only [Act.put, List.setIfInBounds_toArray, List.set_cons_zero, List.set_cons_succ]) | (refine wpTree.take (v := .agg (Ev.item y).toArray) (yieldsIf_load_mid rfl 37 _ rfl _ _ rfl (Ev.item y) _ ?_ Try.underlying37 rfl (einfoL6 _)) ?_; (focus (intro _ hS; refine range_next hS.1 ?_; assumption)); simp only [Act.put, List.setIfInBounds_toArray, List.set_cons_zero, List.set_cons_succ]) | (refine wpTree.take (v := .agg (Ev.item z).toArray) (yieldsIf_load_mid rfl 37 _ rfl _ _ rfl (Ev.item z) _ ?_ Try.underlying37 rfl (einfoL6 _)) ?_; (focus (intro _ hS; refine range_next hS.1 ?_; assumption)); simp only [Act.put, List.setIfInBounds_toArray, List.set_cons_zero, List.set_cons_succ]) | (refine wpTree.take (v := .agg (Ev.cells z).toArray) (yieldsIf_load_mid rfl 46 _ rfl _ _ rfl (Ev.cells z) _ ?_ Try.underlying46 rfl (einfo _)) ?_; (focus (intro _ hS; refine range_next hS.1 ?_; assumption)); simp only [Act.put, List.setIfInBounds_toArray, List.set_cons_zero, List.set_cons_succ]) | (refine wpTree.take (v := ?_) (Or.inl ⟨by rfl, ?_⟩) ?_; rotate_left; (focus (intro _ hS; (try dsimp only at hS); go_split_ands; (try subst hS); go_simp; (try (with_reducible rfl)); done)); simp only [Act.put, List.setIfInBounds_toArray, List.set_cons_zero, List.set_cons_succ])))
          refine wpTree.one (fun K hK => ?_)
          go_simp
          go_at_call 16
          refine (HSAM.out _).mono ?_
          rintro e z10 ⟨rfl, hb⟩
          have hBelow := And.intro (Below.trans hHeld.1 (hb.mono (Below.size hHeld.1))) (cell_next hb hHeld.2)
          refine hK.out _ _ hBelow (fun hHeld' => ?_)
          clear hK K hHeld hBelow hb
          have hHeld := hHeld'
          clear hHeld'
          (try simp only [Act.put, List.setIfInBounds_toArray, List.set_cons_zero, List.set_cons_succ])
          (repeat (first | (refine wpTree.take (v := undef) (Or.inr ⟨by rfl, rfl⟩) ?_; simp only [Act.put, List.setIfInBounds_toArray, List.set_cons_zero, List.set_cons_succ]) | (refine wpTree.take (v := .agg (OpR.cells x.o).toArray) (yieldsIf_load_mid rfl 44 _ rfl _ _ rfl (OpR.cells x.o) _ ?_ Try.underlying44 rfl (oinfo _)) ?_; (focus (intro _ hS; refine range_next hS.1 ?_; assumption)); simp only [Act.put, List.setIfInBounds_toArray, List.set_cons_zero, List.set_cons_succ]) | (refine wpTree.take (v := .agg (OpR.plain x.o).toArray) (yieldsIf_load_mid rfl 35 _ rfl _ _ rfl (OpR.plain x.o) _ ?_ Try.underlying35 rfl (rpinfoL _)) ?_; (focus (intro _ hS; refine range_next hS.1 ?_; assumption)); simp only [Act.put, List.setIfInBounds_toArray, List.set_cons_zero, List.set_cons_succ]) | (refine wpTree.take (v := .agg (Ev.item x).toArray) (yieldsIf_load_mid rfl 31 _ rfl _ _ rfl (Ev.item x) _ ?_ Try.underlying31 rfl (iinfo _)) ?_; (focus (intro _ hS; refine range_next hS.1 ?_; assumption)); simp only [Act.put, List.setIfInBounds_toArray, List.set_cons_zero, List.set_cons_succ]) | (refine wpTree.take (v := .agg (Ev.item y).toArray) (yieldsIf_load_mid rfl 31 _ rfl _ _ rfl (Ev.item y) _ ?_ Try.underlying31 rfl (iinfo _)) ?_; (focus (intro _ hS; refine range_next hS.1 ?_; assumption)); simp only [Act.put, List.setIfInBounds_toArray, List.set_cons_zero, List.set_cons_succ]) | (refine wpTree.take (v := .agg (Ev.item x).toArray) (yieldsIf_load_mid rfl 37 _ rfl _ _ rfl (Ev.item x) _ ?_ Try.underlying37 rfl (einfoL6 _)) ?_; (focus (intro _ hS; refine range_next hS.1 ?_; assumption)); simp only [Act.put, List.setIfInBounds_toArray, List.set_cons_zero, List.set_cons_succ]) | (refine wpTree.take (v := .agg (Ev.item y).toArray) (yieldsIf_load_mid rfl 37 _ rfl _ _ rfl (Ev.item y) _ ?_ Try.underlying37 rfl (einfoL6 _)) ?_; (focus (intro _ hS; refine range_next hS.1 ?_; assumption)); simp only [Act.put, List.setIfInBounds_toArray, List.set_cons_zero, List.set_cons_succ]) | (refine wpTree.take (v := .agg (Ev.item z).toArray) (yieldsIf_load_mid rfl 37 _ rfl _ _ rfl (Ev.item z) _ ?_ Try.underlying37 rfl (einfoL6 _)) ?_; (focus (intro _ hS; refine range_next hS.1 ?_; assumption)); simp only [Act.put, List.setIfInBounds_toArray, List.set_cons_zero, List.set_cons_succ]) | (refine wpTree.take (v := .agg (Ev.cells z).toArray) (yieldsIf_load_mid rfl 46 _ rfl _ _ rfl (Ev.cells z) _ ?_ Try.underlying46 rfl (einfo _)) ?_; (focus (intro _ hS; refine range_next hS.1 ?_; assumption)); simp only [Act.put, List.setIfInBounds_toArray, List.set_cons_zero, List.set_cons_succ]) | (refine wpTree.take (v := ?_) (Or.inl ⟨by rfl, ?_⟩) ?_; rotate_left; (focus (intro _ hS; (try dsimp only at hS); go_split_ands; (try subst hS); go_simp; (try (with_reducible rfl)); done)); simp only [Act.put, List.setIfInBounds_toArray, List.set_cons_zero, List.set_cons_succ])))
          refine wpTree.one (fun K hK => ?_)
          go_simp
          go_at_call 17
          refine (of6_any z _).mono ?_
          rintro e z11 ⟨rfl, hb⟩
          have hBelow := And.intro (Below.trans hHeld.1 (hb.mono (Below.size hHeld.1))) (cell_next hb hHeld.2)
          refine hK.out _ _ hBelow (fun hHeld' => ?_)
          clear hK K hHeld hBelow hb
          have hHeld := hHeld'
          clear hHeld'
          (try simp only [Act.put, List.setIfInBounds_toArray, List.set_cons_zero, List.set_cons_succ])
          (repeat (first | (refine wpTree.take (v := undef) (Or.inr ⟨by rfl, rfl⟩) ?_; simp only [Act.put, List.setIfInBounds_toArray, List.set_cons_zero, List.set_cons_succ]) | (refine wpTree.take (v := .agg (OpR.cells x.o).toArray) (yieldsIf_load_mid rfl 44 _ rfl _ _ rfl (OpR.cells x.o) _ ?_ Try.underlying44 rfl (oinfo _)) ?_; (focus (intro _ hS; refine range_next hS.1 ?_; assumption)); simp only [Act.put, List.setIfInBounds_toArray, List.set_cons_zero, List.set_cons_succ]) | (refine wpTree.take (v := .agg (OpR.plain x.o).toArray) (yieldsIf_load_mid rfl 35 _ rfl _ _ rfl (OpR.plain x.o) _ ?_ Try.underlying35 rfl (rpinfoL _)) ?_; (focus (intro _ hS; refine range_next hS.1 ?_; assumption)); simp only [Act.put, List.setIfInBounds_toArray, List.set_cons_zero, List.set_cons_succ]) | (refine wpTree.take (v := .agg (Ev.item x).toArray) (yieldsIf_load_mid rfl 31 _ rfl _ _ rfl (Ev.item x) _ ?_ Try.underlying31 rfl (iinfo _)) ?_; (focus (intro _ hS; refine range_next hS.1 ?_; assumption)); simp only [Act.put, List.setIfInBounds_toArray, List.set_cons_zero, List.set_cons_succ]) | (refine wpTree.take (v := .agg (Ev.item y).toArray) (yieldsIf_load_mid rfl 31 _ rfl _ _ rfl (Ev.item y) _ ?_ Try.underlying31 rfl (iinfo _)) ?_; (focus (intro _ hS; refine range_next hS.1 ?_; assumption)); simp only [Act.put, List.setIfInBounds_toArray, List.set_cons_zero, List.set_cons_succ]) | (refine wpTree.take (v := .agg (Ev.item x).toArray) (yieldsIf_load_mid rfl 37 _ rfl _ _ rfl (Ev.item x) _ ?_ Try.underlying37 rfl (einfoL6 _)) ?_; (focus (intro _ hS; refine range_next hS.1 ?_; assumption)); simp only [Act.put, List.setIfInBounds_toArray, List.set_cons_zero, List.set_cons_succ]) | (refine wpTree.take (v := .agg (Ev.item y).toArray) (yieldsIf_load_mid rfl 37 _ rfl _ _ rfl (Ev.item y) _ ?_ Try.underlying37 rfl (einfoL6 _)) ?_; (focus (intro _ hS; refine range_next hS.1 ?_; assumption)); simp only [Act.put, List.setIfInBounds_toArray, List.set_cons_zero, List.set_cons_succ]) | (refine wpTree.take (v := .agg (Ev.item z).toArray) (yieldsIf_load_mid rfl 37 _ rfl _ _ rfl (Ev.item z) _ ?_ Try.underlying37 rfl (einfoL6 _)) ?_; (focus (intro _ hS; refine range_next hS.1 ?_; assumption)); simp only [Act.put, List.setIfInBounds_toArray, List.set_cons_zero, List.set_cons_succ]) | (refine wpTree.take (v := .agg (Ev.cells z).toArray) (yieldsIf_load_mid rfl 46 _ rfl _ _ rfl (Ev.cells z) _ ?_ Try.underlying46 rfl (einfo _)) ?_; (focus (intro _ hS; refine range_next hS.1 ?_; assumption)); simp only [Act.put, List.setIfInBounds_toArray, List.set_cons_zero, List.set_cons_succ]) | (refine wpTree.take (v := ?_) (Or.inl ⟨by rfl, ?_⟩) ?_; rotate_left; (focus (intro _ hS; (try dsimp only at hS); go_split_ands; (try subst hS); go_simp; (try (with_reducible rfl)); done)); simp only [Act.put, List.setIfInBounds_toArray, List.set_cons_zero, List.set_cons_succ])))
          refine wpTree.done ?_
          clear ro rp rx ry rxr ryr rzr rz
          go_wp2_with fail
          go_meet
          exact ⟨rfl, hHeld.1⟩
    case rest =>
      obtain ⟨rfl, j1⟩ := hcut
      rename World => w9
      replace HA1 := Lib.hid (HA1.out.next j1)
      replace HA2 := Lib.hid (HA2.out.next j1)
      replace HSB := Lib.hid (HSB.out.next j1)
      replace HX1 := Lib.hid (HX1.out.next j1)
      replace HY1 := Lib.hid (HY1.out.next j1)
      replace HW := Lib.hid (HW.out.next j1)
      replace HZ := Lib.hid (HZ.out.next j1)
      replace HZR := Lib.hid (HZR.out.next j1)
      replace HO := Lib.hid (HO.out.next j1)
      replace HB := Lib.hid (HB.out.trans (j1.mono HB.out.size))
      clear j1
      have rxr := HX1.out.range
      go_wp2_with (first | (refine wpList_load_midg (by rfl) 37 _ rfl _ _ rfl (Ev.item x) _ rxr Try.underlying37 rfl (einfoL6 _) ?_))
      have HRRI := Lib.hid (fun w => rright6_any x HXO.out.l.f HXO.out.l.n w)
      rcases HW.out with ⟨q1, rfl, rfl, q4, q5, q6⟩ | ⟨q1, rfl, rfl⟩
      · simp only [q1] at HRRI
        refine (HRRI.out _).mono ?_
        rintro e w10 ⟨rfl, hb⟩
        clear rxr HRRI
        have HA := Lib.hid (q5.next hb)
        have HA0 := Lib.hid q6
        have HQ := Lib.hid q1
        clear q1 q4 q5 q6
        replace HA1 := Lib.hid (HA1.out.next hb)
        replace HA2 := Lib.hid (HA2.out.next hb)
        replace HSB := Lib.hid (HSB.out.next hb)
        replace HX1 := Lib.hid (HX1.out.next hb)
        replace HY1 := Lib.hid (HY1.out.next hb)
        replace HW := Lib.hid (HW.out.next hb)
        replace HZ := Lib.hid (HZ.out.next hb)
        replace HZR := Lib.hid (HZR.out.next hb)
        replace HO := Lib.hid (HO.out.next hb)
        replace HB := Lib.hid (HB.out.trans (hb.mono HB.out.size))
        clear hb
        have HLT := Lib.hid (encE_lt x)
        have HWR := Lib.hid (fun w => rwrite6_any x HXO.out HQ.out w)
        obtain ⟨E, hE⟩ : ∃ E, E = encE x := ⟨_, rfl⟩
        simp only [← hE] at HA HA0 HLT HWR ⊢
        clear hE
        obtain ⟨nE, hnE⟩ : ∃ nE, nE = E.length := ⟨_, rfl⟩
        have HNE := Lib.hid hnE
        rw [← hnE]
        clear hnE
        go_upto_region 12 with fail
        have rxr := HX1.out.range
        refine wp_region_tree (S := (fun w => Below w10.heap.size w10 w)) (.one 0 (.take 1 (.take 2 (.take 3 (.take 4 (.take 5 (.take 6 (.take 7 (.take 8 (.one 9 (.one 10 (.take 11 (.take 12 (.take 13 .nil)))))))))))))) 9999 (by kernel_rfl) (by kernel_rfl) (by kernel_rfl) (by kernel_rfl) (by kernel_rfl) (fun _ _ d _ _ h => by cases d <;> exact h) ?_ (fun hHeld => ?_); (focus (exact (Below.refl _ _).drew)); simp only [Tree.map, List.getElem?_toArray, List.getElem?_cons_zero, List.getElem?_cons_succ]
        refine wpTree.one (fun K hK => ?_)
        go_simp
        go_at_call 4
        refine (alive6_any _).mono ?_
        rintro e y1 ⟨rfl, hb⟩
        have hBelow := Below.trans hHeld (hb.mono (Below.size hHeld))
        refine hK.out _ _ hBelow (fun hHeld' => ?_)
        clear hK K hHeld hBelow hb
        have hHeld := hHeld'
        clear hHeld'
        (try simp only [Act.put, List.setIfInBounds_toArray, List.set_cons_zero, List.set_cons_succ])
        (repeat (first | (refine wpTree.take (v := undef) (Or.inr ⟨by rfl, rfl⟩) ?_; simp only [Act.put, List.setIfInBounds_toArray, List.set_cons_zero, List.set_cons_succ]) | (refine wpTree.take (v := .string (bstr E)) (Or.inl ⟨by rfl, ?_⟩) ?_; (focus (intro wq hS; have cvq := conv_src wq A3 nE c3 E (by rw [HNE.out]; exact (HA.out.next hS).src HA0.out) HNE.out.symm HLT.out; go_simp; done)); simp only [Act.put, List.setIfInBounds_toArray, List.set_cons_zero, List.set_cons_succ]) | (refine wpTree.take (v := .agg (Ev.item x).toArray) (yieldsIf_load_mid rfl 37 _ rfl _ _ rfl (Ev.item x) _ ?_ Try.underlying37 rfl (einfoL6 _)) ?_; (focus (intro _ hS; refine range_next hS ?_; assumption)); simp only [Act.put, List.setIfInBounds_toArray, List.set_cons_zero, List.set_cons_succ]) | (refine wpTree.take (v := ?_) (Or.inl ⟨by rfl, ?_⟩) ?_; rotate_left; (focus (intro _ hS; (try dsimp only at hS); go_split_ands; (try subst hS); go_simp; (try (with_reducible rfl)); done)); simp only [Act.put, List.setIfInBounds_toArray, List.set_cons_zero, List.set_cons_succ])))
        refine wpTree.one (fun K hK => ?_)
        go_simp
        go_at_call 18
        refine (HWR.out _).mono ?_
        rintro e y2 ⟨v2, rfl, hM⟩
        obtain ⟨A2, c2, rfl, hS2⟩ := src_own hM.1
        have cv2 := conv_src y2 A2 E.length c2 E hS2 rfl HLT.out
        have hBelow := Below.trans hHeld (hM.2.mono (Below.size hHeld))
        refine hK.out _ _ hBelow (fun hHeld' => ?_)
        clear hK K hHeld hBelow hM hS2
        have hHeld := hHeld'
        clear hHeld'
        (try simp only [Act.put, List.setIfInBounds_toArray, List.set_cons_zero, List.set_cons_succ])
        refine wpTree.one (fun K hK => ?_)
        go_simp
        refine hK.out _ _ hHeld (fun _ => ?_)
        clear hK K
        (try simp only [Act.put, List.setIfInBounds_toArray, List.set_cons_zero, List.set_cons_succ])
        (repeat (first | (refine wpTree.take (v := undef) (Or.inr ⟨by rfl, rfl⟩) ?_; simp only [Act.put, List.setIfInBounds_toArray, List.set_cons_zero, List.set_cons_succ]) | (refine wpTree.take (v := ?_) (Or.inl ⟨by rfl, ?_⟩) ?_; rotate_left; (focus (intro _ hS; (try dsimp only at hS); go_split_ands; (try subst hS); go_simp; (try (with_reducible rfl)); done)); simp only [Act.put, List.setIfInBounds_toArray, List.set_cons_zero, List.set_cons_succ])))
        refine wpTree.done ?_
        clear rxr cv2
        have HF := Lib.hid (HB.out.trans (hHeld.mono HB.out.size))
        clear hHeld
        go_wp2_with fail
        go_ret
        exact ⟨rfl, HF.out⟩
      · simp only [q1] at HRRI
        refine (HRRI.out _).mono ?_
        rintro e w10 ⟨rfl, hb⟩
        clear rxr HRRI q1
        replace HA1 := Lib.hid (HA1.out.next hb)
        replace HA2 := Lib.hid (HA2.out.next hb)
        replace HSB := Lib.hid (HSB.out.next hb)
        replace HX1 := Lib.hid (HX1.out.next hb)
        replace HY1 := Lib.hid (HY1.out.next hb)
        replace HW := Lib.hid (HW.out.next hb)
        replace HZ := Lib.hid (HZ.out.next hb)
        replace HZR := Lib.hid (HZR.out.next hb)
        replace HO := Lib.hid (HO.out.next hb)
        replace HB := Lib.hid (HB.out.trans (hb.mono HB.out.size))
        clear hb
        go_wp2_with fail
        refine (alive6_any _).mono ?_
        rintro e w11 ⟨rfl, hb⟩
        replace HA1 := Lib.hid (HA1.out.next hb)
        replace HA2 := Lib.hid (HA2.out.next hb)
        replace HSB := Lib.hid (HSB.out.next hb)
        replace HX1 := Lib.hid (HX1.out.next hb)
        replace HY1 := Lib.hid (HY1.out.next hb)
        replace HW := Lib.hid (HW.out.next hb)
        replace HZ := Lib.hid (HZ.out.next hb)
        replace HZR := Lib.hid (HZR.out.next hb)
        replace HO := Lib.hid (HO.out.next hb)
        replace HB := Lib.hid (HB.out.trans (hb.mono HB.out.size))
        clear hb
        go_wp2_with fail
        go_ret
        exact ⟨rfl, HB.out⟩

set_option maxRecDepth 100000 in
theorem optells_lifted (os : Os) (started : os.Started) (H : Type) (enc : TypeId × Value → H) :
    ReturnsInHanded {} Try.checked os 3 .any (Rows.opTellsSpec.pre6 enc Try.prog Try.f3 Rows.opTellsRow.domain false) (Rows.opTellsSpec.post enc Try.prog Try.f3 false true false false) := by
  refine law_lift (C := Try.checked) own_knob started (by kernel_rfl) Try.func3 rfl Try.underlying4 laid_out (by kernel_rfl) rfl ?_
    (ChangeSpec.witness6 (enc := enc) (C := Try.checked) false ⟨#[], #[.agg #[.int .u64 0, .int .i64 0, .int .u32 0, .int .i64 0, .int .i64 0, .int .u32 0, .int .u32 0, .int .u32 0, .int .u32 0, .int .u32 0, .int .u32 0, .int .u32 0, .int .u32 0, .int .u32 0, .int .u32 0, .int .u32 0, .int .u32 0, .int .i64 0, .int .i64 0, .int .i64 0, .int .u64 0], .agg #[.int .u64 0, .int .i64 0, .int .u32 0, .int .i64 0, .int .i64 0, .int .u32 0, .int .u32 0, .int .u32 0, .int .u32 0, .int .u32 0, .int .u32 0, .int .u32 0, .int .u32 0, .int .u32 0, .int .u32 0, .int .u32 0, .int .u32 0, .int .i64 0, .int .i64 0, .int .i64 0, .int .u64 0], .slice none 0 0], []⟩ 8 (by kernel_rfl) (by kernel_rfl) (by kernel_rfl) (by kernel_rfl)) ?_
  · intro ds hds
    match ds, hds with
    | [_, _, _], _ => rfl
  intro W base args ds ps hval hA hlt hsz
  rw [Try.params3] at hA hval
  obtain ⟨v0, vs0, d0, ds0, p0, q0, hargs, rfl, rfl, h0, r0⟩ := trodAll_cons hA
  obtain ⟨v1, vs1, d1, ds1, p1, q1, rfl, rfl, rfl, h1, r1⟩ := trodAll_cons r0
  obtain ⟨v2, vs2, d2, ds2, p2, q2, rfl, rfl, rfl, h2, r2⟩ := trodAll_cons r1
  obtain ⟨rfl, rfl, rfl⟩ := trodAll_nil r2
  obtain rfl : args = #[v0, v1, v2] := by cases args; simp_all
  obtain ⟨x, rfl, hx⟩ := open_item (hval 0 31 v0 rfl rfl) h0
  obtain ⟨y, rfl, hy⟩ := open_item (hval 1 31 v1 rfl rfl) h1
  obtain ⟨As, n, cs, sb, rfl, rfl, hnc, _, hb256, hby, hnone⟩ := open_bytes (hval 2 32 v2 rfl rfl) h2 (fun x hx => hlt x (by simp [hx]))
  exact optells_walk x y hx hy As cs sb W hnc hb256 hby

theorem optells_holds : Rows.OpTellsSaid :=
  OpenClaim.holds_of_wide 3 Try.f3 rfl rfl rfl rfl rfl rfl rfl ⟨rfl, rfl, rfl, rfl, rfl⟩ rfl rfl rfl rfl rfl (by kernel_rfl) Try.func3 (by kernel_rfl)
    (of_decide_eq_true (by kernel_rfl)) (by unfold Func.isWrapper; first | (rw [if_pos (by decide +kernel)]; kernel_rfl) | (rw [if_neg (by decide +kernel)]; exact ⟨rfl, rfl⟩))
    (fun os started H enc _ => optells_lifted os started H enc)

end Go.Proofs.Yteplplmfepamdaa
