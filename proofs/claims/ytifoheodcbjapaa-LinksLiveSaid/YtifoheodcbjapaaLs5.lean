/-
links: Ack.
-/
import Derived.Test.YtifoheodcbjapaaLs4
import Derived.Test.YtifoheodcbjapaaPk10
namespace Go.Proofs.Ytifoheodcbjapaa
open Go.RowKit
set_option linter.unusedSimpArgs false
set_option linter.unusedVariables false
namespace Ls
open Lk
theorem load_midg {P : Program} {ops : Array Oper} {rest : List Oper} {op : Oper} {a : Act} {w : World} {Q : Exit → Act → World → Prop} (hw : Region.wanted op (yielded ops a.tmps) = true) (ty : TypeId) (x : Operand) (ho : op.op = .load ty x)
    (b o : Nat) (hx : a.eval x = .pointer (some ⟨b, o, none⟩)) (cs : List Value) (d : TypeDesc) (hc : w.rangeAt b o cs)
    (hu : P.underlying ty = some d) (hd : d.isRow = true) (hi : (P.info? ty).map (·.size) = some cs.length)
    (h : wpList P ops Q rest (a.put op.dst (.agg cs.toArray)) w) : wpList P ops Q (op :: rest) a w :=
  wpList_step fun _ hK => by rw [if_pos hw]; exact wp_load_mid ty x ho b o hx cs d hc hu hd hi (hK _ _ h)
theorem bodyPost_row_tmp {P : Program} {fn : Func} {R : Ending → World → Prop} {a : Act} {p u : Tmp} {ty : TypeId} {w : World} {g : Nat} {t : TypeId} (cs : Array Value) (x : Value) {d : TypeDesc} (h : fn.results = #[.cell p ty, .tmp u]) (ha : a.defers = [])
    (hp : a.tmps.getD p undef = .pointer (some ⟨g, 0, none⟩)) (hx : a.tmps.getD u undef = x)
    (hu : P.underlying ty = some d) (hd : (match d with | .struct _ | .array _ _ => true | _ => false) = true) (hi : (P.info? ty).map (·.size) = some cs.size) (hg : Blk w g t cs)
    (hR : R (.returned (.tuple #[.agg cs, x])) w) : bodyPost P fn R .ret a w := by
  refine bodyPost_ret (v := .tuple #[.agg cs, x]) ?_ ha hR
  rw [results_cell_tmp h, hp, hx]
  simp [asAddr, run_loadVar_row w g t ty cs (0, 0) d hg hu hd hi]
def ackB (own : Nat) (S : Nat → LS) (n : Int) : Bool := hasB own S n && decide (1 < (S (n.toNat - 1)).ex)
def zp : Pk.Pt := ⟨false, 0, 0, 0, []⟩
def ackP (own : Nat) (S : Nat → LS) (n : Int) : Pk.Pt := if ackB own S n then ⟨true, (own : Nat), n, (S (n.toNat - 1)).ex - 1, []⟩ else zp
def zpc : Array Value := #[.bool false, .int .i64 0, .int .i64 0, .int .u64 0, .slice none 0 0]
theorem zp_cells : (Pk.Pc.mk zp none 0).cells.toArray = zpc := rfl
theorem zpc_one : zpc.all (·.oneCell') = true := by unfold zpc; simp [Value.oneCell']
theorem zpcinfo : (Try.prog.info? 40).map (·.size) = some zpc.size := by kernel_rfl
theorem built_zp : Try.prog.built 40 [] = some zpc := by kernel_rfl
section
variable (W : World) {B d own : Nat} {F : Nat → Prop} {K : Nat → Kn} {S : Nat → LS}
set_option maxRecDepth 20000 in
theorem ack_nb {v : Value} (h : NB W v) (n : Int) : Calls Try.prog 14 #[v, .int .i64 n] W fun e W' => e = .returned (.tuple #[.agg zpc, .bool false]) ∧ Below W.heap.size W W' := by
  obtain ⟨w1, hw1⟩ : ∃ w1, w1 = W.alloc (.cells zpc 40) := ⟨_, rfl⟩
  have hb1 : Below W.heap.size W w1 := by rw [hw1]; exact (Below.refl _ _).alloc (Nat.le_refl _) _
  have hx1 : Blk w1 W.heap.size 40 zpc := by rw [hw1]; exact Blk.new _ _ _
  have HM := Lib.hid (has_nb w1 (h.next hb1) n)
  have HB := Lib.hid hb1
  have HX := Lib.hid hx1
  clear h hb1 hx1
  go_enter Try.func14, Try.ntmps14
  go_upto_region 1 with fail
  rw [show (#[Value.bool false, .int .i64 0, .int .i64 0, .int .u64 0, .slice none 0 0] : Array Value) = zpc from rfl, ← hw1]
  clear hw1
  go_wp2_with (first | (go_at_call 43; refine HM.out.mono ?_; rintro e w2 ⟨rfl, rfl⟩) | (refine Nd.wpList_build_lit zpc rfl 40 _ rfl built_zp ?_) | (refine wpList_store_blk rfl 40 _ _ rfl W.heap.size 40 _ zpc rfl rfl HX.out zpcinfo rfl zpc_one ?_; intro hY))
  refine bodyPost_row_tmp zpc (.bool false) rfl rfl rfl rfl Try.underlying40 rfl zpcinfo hY ?_
  exact ⟨rfl, below_setRow HB.out (Nat.le_refl _) _⟩
set_option maxRecDepth 20000 in
set_option maxHeartbeats 4000000 in
theorem ack_any (h : LN W B d F own S) (n : Int) : Calls Try.prog 14 #[.pointer (some ⟨d, 0, none⟩), .int .i64 n] W fun e W' => e = .returned (.tuple #[.agg (Pk.Pc.mk (ackP own S n) none 0).cells.toArray, .bool (ackB own S n)]) ∧ Below W.heap.size W W' := by
  obtain ⟨K, D, rfl⟩ := h
  obtain ⟨w1, hw1⟩ : ∃ w1, w1 = W.alloc (.cells zpc 40) := ⟨_, rfl⟩
  have hb1 : Below W.heap.size W w1 := by rw [hw1]; exact (Below.refl _ _).alloc (Nat.le_refl _) _
  have hx1 : Blk w1 W.heap.size 40 zpc := by rw [hw1]; exact Blk.new _ _ _
  have HH := Lib.hid (has_any w1 (D.next hb1) n)
  have HB := Lib.hid hb1
  have HX := Lib.hid hx1
  cases hb : hasB own (fun i => (K i).s) n with
  | false =>
    rw [hb] at HH
    have e1 : ackB own (fun i => (K i).s) n = false := by unfold ackB; rw [hb]; rfl
    have e2 : ackP own (fun i => (K i).s) n = zp := by unfold ackP; rw [e1]; rfl
    rw [e1, e2, zp_cells]
    clear hb D e1 e2 hb1 hx1
    go_enter Try.func14, Try.ntmps14
    go_upto_region 1 with fail
    rw [show (#[Value.bool false, .int .i64 0, .int .i64 0, .int .u64 0, .slice none 0 0] : Array Value) = zpc from rfl, ← hw1]
    clear hw1
    go_wp2_with (first | (go_at_call 43; refine HH.out.mono ?_; rintro e w2 ⟨rfl, rfl⟩) | (refine Nd.wpList_build_lit zpc rfl 40 _ rfl built_zp ?_) | (refine wpList_store_blk rfl 40 _ _ rfl W.heap.size 40 _ zpc rfl rfl HX.out zpcinfo rfl zpc_one ?_; intro hY))
    refine bodyPost_row_tmp zpc (.bool false) rfl rfl rfl rfl Try.underlying40 rfl zpcinfo hY ?_
    exact ⟨rfl, below_setRow HB.out (Nat.le_refl _) _⟩
  | true =>
    rw [hb] at HH
    have hb2 := hb
    unfold hasB at hb2
    rw [Bool.and_eq_true] at hb2
    obtain ⟨i, hi, hti, hn, hw, hw2, hi1, hi0⟩ := isN_of (isO_of hb2.1).1
    have hr := (D.next hb1).rng hi
    by_cases hx : 1 < (K i).s.ex
    · have e1 : ackB own (fun i => (K i).s) n = true := by unfold ackB; rw [hb, hti, decide_eq_true hx]; rfl
      obtain ⟨x, hxx⟩ : ∃ x, x = (K i).s.ex := ⟨_, rfl⟩
      obtain ⟨x1, hx1e⟩ : ∃ x1, x1 = x - 1 := ⟨_, rfl⟩
      have e2 : ackP own (fun i => (K i).s) n = ⟨true, (own : Nat), n, x1, []⟩ := by unfold ackP; rw [e1, hti, hx1e, hxx]; rfl
      rw [e1, e2]
      have HT := Lib.hid (fun w => took_any w (K i))
      rw [decide_eq_true hx] at HT
      have c0 := (D.next hb1).c0
      have he2 : x ≤ 1099511627777 := by
        rcases D.ok i with h | h
        · rw [h] at hx; exact absurd hx (by decide)
        · rw [hxx]; exact h.e2
      have ew : IntKind.u64.wrap ((x : Int) - 1) = (x1 : Nat) := by rw [IntKind.wrap_u64]; omega
      have HEX := Lib.hid (fun w (hq : Below w1.heap.size w1 w) => expect_o w (o := 1 + i * 3) (((D.next hb1).next hq).ex hi))
      rw [← hxx] at HEX
      clear hb hb2 D e1 e2 hb1 hx1 hn hti hi hx hxx he2 hx1e
      go_enter Try.func14, Try.ntmps14
      go_upto_region 1 with fail
      rw [show (#[Value.bool false, .int .i64 0, .int .i64 0, .int .u64 0, .slice none 0 0] : Array Value) = zpc from rfl, ← hw1]
      clear hw1
      go_upto_region 3 with (first | (go_at_call 43; refine HH.out.mono ?_; rintro e w2 ⟨rfl, rfl⟩) | (refine load_midg rfl 47 _ rfl _ _ rfl (K i).cells _ hr Try.underlying47 rfl (lkinfo _) ?_; (try simp only [Act.put, List.setIfInBounds_toArray, List.set_cons_zero, List.set_cons_succ])) | (go_at_call 45; refine (HT.out _).mono ?_; rintro e w2 ⟨rfl, hb2⟩))
      clear HT HH hr
      have HB2 := Lib.hid (HB.out.trans (hb2.mono HB.out.size))
      have hx2 := HX.out.next hb2
      have c2 : w2.cell? ⟨d, 0, none⟩ = some (.int .i64 (own : Nat)) := (hb2.cell (p := ⟨d, 0, none⟩) (World.block_lt_of_cell? _ ⟨d, 0, none⟩ c0)).trans c0
      have HE2 := Lib.hid (HEX.out w2.drew hb2.drew)
      clear c0 HEX hb2
      (try simp only [Act.put, List.setIfInBounds_toArray, List.set_cons_zero, List.set_cons_succ])
      refine wp_region_tree (S := (fun w' => w'.cell? ⟨d, 0, none⟩ = some (.int .i64 (own : Nat)))) (.take 0 (.take 1 (.take 2 (.take 3 (.take 4 (.take 5 (.take 6 (.take 7 (.take 8 (.take 9 (.take 10 (.one 11 (.take 12 (.take 13 (.one 14 (.take 15 .nil)))))))))))))))) 9999 (by kernel_rfl) (by kernel_rfl) (by kernel_rfl) (by kernel_rfl) (by kernel_rfl) (fun _ _ d _ _ h => by cases d <;> exact h) c2 (fun hHeld => ?_); simp only [Tree.map, List.getElem?_toArray, List.getElem?_cons_zero, List.getElem?_cons_succ]
      (repeat (first | (refine wpTree.take (v := undef) (Or.inr ⟨by rfl, rfl⟩) ?_; simp only [Act.put, List.setIfInBounds_toArray, List.set_cons_zero, List.set_cons_succ]) | (refine wpTree.take (v := ?_) (Or.inl ⟨by rfl, ?_⟩) ?_; rotate_left; (focus (intro _ hS; (try dsimp only at hS); go_split_ands; (try subst hS); go_simp; (try (with_reducible rfl)); done)); simp only [Act.put, List.setIfInBounds_toArray, List.set_cons_zero, List.set_cons_succ])))
      refine wpTree.one (fun K hK => ?_)
      go_simp
      go_at_call 46
      refine HE2.out.mono ?_
      rintro e w3 ⟨rfl, rfl⟩
      refine hK.out _ _ c2 (fun _ => ?_)
      clear hK K
      (try simp only [Act.put, List.setIfInBounds_toArray, List.set_cons_zero, List.set_cons_succ])
      (repeat (first | (refine wpTree.take (v := undef) (Or.inr ⟨by rfl, rfl⟩) ?_; simp only [Act.put, List.setIfInBounds_toArray, List.set_cons_zero, List.set_cons_succ]) | (refine wpTree.take (v := .agg (Pk.Pc.mk ⟨true, (own : Nat), n, x1, []⟩ none 0).cells.toArray) (Or.inl ⟨by rfl, fun _ _ => by go_simp; rfl⟩) ?_; simp only [Act.put, List.setIfInBounds_toArray, List.set_cons_zero, List.set_cons_succ]) | (refine wpTree.take (v := ?_) (Or.inl ⟨by rfl, ?_⟩) ?_; rotate_left; (focus (intro _ hS; (try dsimp only at hS); go_split_ands; (try subst hS); go_simp; (try (with_reducible rfl)); done)); simp only [Act.put, List.setIfInBounds_toArray, List.set_cons_zero, List.set_cons_succ])))
      refine wpTree.one (fun K hK => ?_)
      refine step_store_blk (by rfl) 40 _ _ rfl W.heap.size 40 zpc (Pk.Pc.mk ⟨true, (own : Nat), n, x1, []⟩ none 0).cells.toArray rfl rfl hx2.drew (Pk.pcinfoA _) rfl (Pk.pc_one _) ?_
      refine hK.out _ _ ?_ (fun _ => ?_)
      · have hne : d ≠ W.heap.size := fun e => by
          rw [e] at c2
          have h0 := (hx2.cell 0).symm.trans c2
          simp [zpc] at h0
        exact (World.cell?_of_block (setRow_other _ W.heap.size d _ hne)).trans c2
      clear hK K
      (try simp only [Act.put, List.setIfInBounds_toArray, List.set_cons_zero, List.set_cons_succ])
      (repeat (first | (refine wpTree.take (v := undef) (Or.inr ⟨by rfl, rfl⟩) ?_; simp only [Act.put, List.setIfInBounds_toArray, List.set_cons_zero, List.set_cons_succ]) | (refine wpTree.take (v := ?_) (Or.inl ⟨by rfl, ?_⟩) ?_; rotate_left; (focus (intro _ hS; (try dsimp only at hS); go_split_ands; (try subst hS); go_simp; (try (with_reducible rfl)); done)); simp only [Act.put, List.setIfInBounds_toArray, List.set_cons_zero, List.set_cons_succ])))
      refine wpTree.done ?_
      go_wp2_with fail
      refine bodyPost_row_tmp (Pk.Pc.mk ⟨true, (own : Nat), n, x1, []⟩ none 0).cells.toArray (.bool true) rfl rfl rfl rfl Try.underlying40 rfl (Pk.pcinfoA _) (hx2.drew.setRow _) ?_
      exact ⟨rfl, below_setRow HB2.out.drew (Nat.le_refl _) _⟩
    · have e1 : ackB own (fun i => (K i).s) n = false := by unfold ackB; rw [hb, hti, decide_eq_false hx]; rfl
      have e2 : ackP own (fun i => (K i).s) n = zp := by unfold ackP; rw [e1]; rfl
      rw [e1, e2, zp_cells]
      have HT := Lib.hid (fun w => took_any w (K i))
      rw [decide_eq_false hx] at HT
      clear hb hb2 D e1 e2 hb1 hx1 hn hti hi hx
      go_enter Try.func14, Try.ntmps14
      go_upto_region 1 with fail
      rw [show (#[Value.bool false, .int .i64 0, .int .i64 0, .int .u64 0, .slice none 0 0] : Array Value) = zpc from rfl, ← hw1]
      clear hw1
      go_wp2_with (first | (go_at_call 43; refine HH.out.mono ?_; rintro e w2 ⟨rfl, rfl⟩) | (refine load_midg rfl 47 _ rfl _ _ rfl (K i).cells _ hr Try.underlying47 rfl (lkinfo _) ?_; (try simp only [Act.put, List.setIfInBounds_toArray, List.set_cons_zero, List.set_cons_succ])) | (go_at_call 45; refine (HT.out _).mono ?_; rintro e w2 ⟨rfl, hb2⟩; have HB2 := Lib.hid (HB.out.trans (hb2.mono HB.out.size)); have HX2 := Lib.hid (HX.out.next hb2); clear hb2) | (refine Nd.wpList_build_lit zpc rfl 40 _ rfl built_zp ?_) | (refine wpList_store_blk rfl 40 _ _ rfl W.heap.size 40 _ zpc rfl rfl HX2.out zpcinfo rfl zpc_one ?_; intro hY))
      refine bodyPost_row_tmp zpc (.bool false) rfl rfl rfl rfl Try.underlying40 rfl zpcinfo hY ?_
      exact ⟨rfl, below_setRow HB2.out (Nat.le_refl _) _⟩
end
end Ls
end Go.Proofs.Ytifoheodcbjapaa
