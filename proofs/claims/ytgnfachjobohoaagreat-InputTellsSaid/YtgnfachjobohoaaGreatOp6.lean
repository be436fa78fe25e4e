/-
op.Read, Put, Write; plain data as ops and events.
Plain data as ops and events; the fixed calls of layer 6.
The fixed calls of layer 6: all hold.
Plain ops and items that came in.
-/
import Derived.Test.YtgnfachjobohoaaGreatOp
namespace Go.Proofs.YtgnfachjobohoaaGreat
open Go.RowKit

variable {L : Nat}
/-- Two boxes of noughts. -/
def twoE (W : World) : World := (W.alloc (.cells #[.int .u64 0, .int .i64 0, .int .u32 0, .int .i64 0, .int .i64 0, .int .u32 0, .int .u32 0, .int .u32 0, .int .u32 0, .int .u32 0, .int .u32 0, .int .u32 0, .int .u32 0, .int .u32 0, .int .u32 0, .int .u32 0, .int .u32 0, .int .i64 0, .int .i64 0, .int .i64 0, .float .f64 0] 89)).alloc (.cells #[.int .u64 0, .int .i64 0, .int .u32 0, .int .i64 0, .int .i64 0, .int .u32 0, .int .u32 0, .int .u32 0, .int .u32 0, .int .u32 0, .int .u32 0, .int .u32 0, .int .u32 0, .int .u32 0, .int .u32 0, .int .u32 0, .int .u32 0, .int .i64 0, .int .i64 0, .int .i64 0, .float .f64 0] 89)
theorem twoE_size (W : World) : (twoE W).heap.size = W.heap.size + 2 := by simp [twoE]
theorem twoE_below (W : World) : Below W.heap.size W (twoE W) := ((Below.refl _ W).alloc (Nat.le_refl _) _).alloc (by simp) _
/-- What an event's read leaves. -/
def EvRead (bs : List Nat) (W : World) (r : Except Int (List Nat)) (W' : World) : Prop :=
  (match evP bs with | .ok (l, t) => r = .ok t ∧ Blk W' (W.heap.size + 1) 89 l.cells.toArray | .error x => r = .error x) ∧ Blk W' W.heap.size 89 #[.int .u64 0, .int .i64 0, .int .u32 0, .int .i64 0, .int .i64 0, .int .u32 0, .int .u32 0, .int .u32 0, .int .u32 0, .int .u32 0, .int .u32 0, .int .u32 0, .int .u32 0, .int .u32 0, .int .u32 0, .int .u32 0, .int .u32 0, .int .i64 0, .int .i64 0, .int .i64 0, .float .f64 0] ∧ Below W.heap.size W W'

theorem zev_sz : (Tryz.prog.info? 89).map (·.size) = some (#[.int .u64 0, .int .i64 0, .int .u32 0, .int .i64 0, .int .i64 0, .int .u32 0, .int .u32 0, .int .u32 0, .int .u32 0, .int .u32 0, .int .u32 0, .int .u32 0, .int .u32 0, .int .u32 0, .int .u32 0, .int .u32 0, .int .u32 0, .int .i64 0, .int .i64 0, .int .i64 0, .float .f64 0] : Array Value).size := by kernel_rfl
theorem zev_one : (#[.int .u64 0, .int .i64 0, .int .u32 0, .int .i64 0, .int .i64 0, .int .u32 0, .int .u32 0, .int .u32 0, .int .u32 0, .int .u32 0, .int .u32 0, .int .u32 0, .int .u32 0, .int .u32 0, .int .u32 0, .int .u32 0, .int .u32 0, .int .i64 0, .int .i64 0, .int .i64 0, .float .f64 0] : Array Value).all (·.oneCell') = true := by simp [Value.oneCell']
theorem zev_info : (Tryz.prog.info? 89).map (·.size) = some (List.length ([.int .u64 0, .int .i64 0, .int .u32 0, .int .i64 0, .int .i64 0, .int .u32 0, .int .u32 0, .int .u32 0, .int .u32 0, .int .u32 0, .int .u32 0, .int .u32 0, .int .u32 0, .int .u32 0, .int .u32 0, .int .u32 0, .int .u32 0, .int .i64 0, .int .i64 0, .int .i64 0, .float .f64 0] : List Value)) := by kernel_rfl

section
variable (A : Option Addr) (n cp : Nat) (W : World) (bs : List Nat) (hn : bs.length = n) (hnc : n ≤ cp) (hby : ∀ x ∈ bs, x < 256) (hbs : ByR W A bs)
include hn hnc hby hbs
end

theorem encO_len {o : OpR} (h : o.Ok) : (encO o).length ≤ 40 := by
  unfold encO
  have h1 := enc_len _ (wordN_lt o.k)
  have h2 := enc_len _ (wordN_lt o.s)
  have h3 := enc_len _ (zig_lt h.q1 h.q2)
  have h4 : (encF o.p).length = 8 := by unfold encF; exact be8_len _
  simp only [List.length_append]
  split <;> split <;> split <;> simp <;> omega
section
variable (x : Ev) (W : World)
end
end Go.Proofs.YtgnfachjobohoaaGreat
namespace Go.Proofs.YtgnfachjobohoaaGreat
open Go.RowKit

theorem yields_build' {P : Program} {ops : Array Oper} {S : World → Prop} {o : Oper} {a : Act} (cells : Array Value) (hw : Region.wanted o (yielded ops a.tmps) = true) (t : TypeId) (parts : List (Nat × Operand))
    (ho : o.op = .build t parts.toArray) (hp : P.built t (parts.map fun x => (x.1, a.eval x.2)) = some cells) : YieldsIf P ops S o (.agg cells) a := by
  refine .inl ⟨hw, fun w _ => ?_⟩
  have e : (parts.toArray.map fun x => (x.1, a.eval x.2)).toList = parts.map fun x => (x.1, a.eval x.2) := by simp
  unfold execOp
  simp only [ho]
  have := run_build (P := P) w t (parts.toArray.map fun x => (x.1, a.eval x.2)) cells (by rw [e]; exact hp)
  simp only [Sem.run_bind]
  show ((Instr.build t (parts.toArray.map fun x => (x.1, a.eval x.2))).run P w).andThen _ = _
  rw [this]; rfl
theorem built_ev_fill (parts : List (Nat × Value)) : Tryz.prog.built 89 parts = Instr.fill (#[(0, 17), (17, 4)][·]?) #[.int .u64 0, .int .i64 0, .int .u32 0, .int .i64 0, .int .i64 0, .int .u32 0, .int .u32 0, .int .u32 0, .int .u32 0, .int .u32 0, .int .u32 0, .int .u32 0, .int .u32 0, .int .u32 0, .int .u32 0, .int .u32 0, .int .u32 0, .int .i64 0, .int .i64 0, .int .i64 0, .float .f64 0] parts := by kernel_rfl
def zLabL : List Value := [.int .u64 0, .int .i64 0, .int .u32 0, .int .i64 0, .int .i64 0, .int .u32 0, .int .u32 0, .int .u32 0, .int .u32 0, .int .u32 0, .int .u32 0, .int .u32 0, .int .u32 0, .int .u32 0, .int .u32 0, .int .u32 0, .int .u32 0]
theorem built_ev (l : Lab) (o : OpR) : Tryz.prog.built 89 [(0, .agg l.cells.toArray), (1, .agg o.cells.toArray)] = some (Ev.mk l o).cells.toArray := by
  rw [built_ev_fill]
  have h1 := fill_one (place := (#[(0, 17), (17, 4)][·]?)) (i := 0) (off := 0) (cs := l.cells) (pre := []) (mid := zLabL) (post := zOpL) (rest := [(1, .agg o.cells.toArray)]) (by rw [lab_len]; rfl) rfl (by rw [lab_len]; rfl)
  have h2 := fill_one (place := (#[(0, 17), (17, 4)][·]?)) (i := 1) (off := 17) (cs := o.cells) (pre := l.cells) (mid := zOpL) (post := []) (rest := []) (by rw [op_len]; rfl) lab_len (by rw [op_len]; rfl)
  have e : (#[.int .u64 0, .int .i64 0, .int .u32 0, .int .i64 0, .int .i64 0, .int .u32 0, .int .u32 0, .int .u32 0, .int .u32 0, .int .u32 0, .int .u32 0, .int .u32 0, .int .u32 0, .int .u32 0, .int .u32 0, .int .u32 0, .int .u32 0, .int .i64 0, .int .i64 0, .int .i64 0, .float .f64 0] : Array Value) = ([] ++ (zLabL ++ zOpL)).toArray := rfl
  rw [e, h1, List.nil_append]
  rw [List.append_nil] at h2
  rw [h2, Instr.fill, List.append_nil, ev_def]

/-- An op as plain data. -/
def OpR.plain (o : OpR) : List Value := [.int .i64 o.k, .int .i64 o.s, .int .i64 o.q, .int .u64 (o.p : Nat)]
theorem plain_len {o : OpR} : o.plain.length = 4 := rfl
theorem plain_arr (o : OpR) : o.plain.toArray = #[.int .i64 o.k, .int .i64 o.s, .int .i64 o.q, .int .u64 (o.p : Nat)] := rfl
theorem plain_one (o : OpR) : o.plain.toArray.all (·.oneCell') = true := by unfold OpR.plain; simp [Value.oneCell']
theorem plain_0 {o : OpR} : o.plain[0]? = some (.int .i64 o.k) := rfl
theorem plain_1 {o : OpR} : o.plain[1]? = some (.int .i64 o.s) := rfl
theorem plain_2 {o : OpR} : o.plain[2]? = some (.int .i64 o.q) := rfl
theorem plain_3 {o : OpR} : o.plain[3]? = some (.int .u64 (o.p : Nat)) := rfl
attribute [irreducible] OpR.plain
theorem pinfoL (o : OpR) : (Tryz.prog.info? 27).map (·.size) = some o.plain.length := by rw [plain_len]; kernel_rfl
theorem plain_all {W : World} {b : Nat} {t : TypeId} {o : OpR} (h : Blk W b t o.plain.toArray) : W.cell? ⟨b, 0, none⟩ = some (.int .i64 o.k) ∧ W.cell? ⟨b, 1, none⟩ = some (.int .i64 o.s) ∧ W.cell? ⟨b, 2, none⟩ = some (.int .i64 o.q) ∧ W.cell? ⟨b, 3, none⟩ = some (.int .u64 (o.p : Nat)) := by
  have hc : ∀ i, W.cell? ⟨b, i, none⟩ = o.plain[i]? := fun i => by rw [h.cell, List.getElem?_toArray]
  exact ⟨(hc 0).trans plain_0, (hc 1).trans plain_1, (hc 2).trans plain_2, (hc 3).trans plain_3⟩
theorem built_op_fill (parts : List (Nat × Value)) : Tryz.prog.built 46 parts = Instr.fill (#[(0, 1), (1, 1), (2, 1), (3, 1)][·]?) #[.int .i64 0, .int .i64 0, .int .i64 0, .float .f64 0] parts := by kernel_rfl
theorem built_op (o : OpR) : Tryz.prog.built 46 [(0, .int .i64 o.k), (1, .int .i64 o.s), (2, .int .i64 o.q), (3, .float .f64 o.p)] = some o.cells.toArray := by
  rw [built_op_fill, op_arr]
  rfl
set_option maxRecDepth 20000 in
set_option maxHeartbeats 4000000 in
theorem plainop_any (o : OpR) (W : World) : Calls Tryz.prog 19 #[.agg o.plain.toArray] W fun e W' => e = .returned (.agg o.cells.toArray) ∧ Below W.heap.size W W' := by
  have hsz : (W.alloc (.cells o.plain.toArray 27)).heap.size = W.heap.size + 1 := by simp
  have bA := (Blk.new W 27 o.plain.toArray).alloc (.cells #[.int .i64 0, .int .i64 0, .int .i64 0, .float .f64 0] 46)
  have bB := Blk.new (W.alloc (.cells o.plain.toArray 27)) 46 #[.int .i64 0, .int .i64 0, .int .i64 0, .float .f64 0]
  rw [hsz] at bB
  have hB0 := ((Below.refl W.heap.size W).alloc (Nat.le_refl _) (.cells o.plain.toArray 27)).alloc (by rw [hsz]; omega) (.cells #[.int .i64 0, .int .i64 0, .int .i64 0, .float .f64 0] 46)
  obtain ⟨c0, c1, c2, c3⟩ := plain_all bA
  have cb := call_frombits
  clear bA
  go_enter Tryz.func19, Tryz.ntmps19
  go_wp2_with fail
  obtain ⟨W1, hw⟩ : ∃ W1, W1 = (W.alloc (.cells o.plain.toArray 27)).alloc (.cells #[.int .i64 0, .int .i64 0, .int .i64 0, .float .f64 0] 46) := ⟨_, rfl⟩
  rw [← hw] at c0 c1 c2 c3 bB hB0 ⊢
  clear hw hsz
  refine wp_region_tree (S := (fun W' => W'.cell? ⟨W.heap.size, 0, none⟩ = some (.int .i64 o.k) ∧ W'.cell? ⟨W.heap.size, 1, none⟩ = some (.int .i64 o.s) ∧ W'.cell? ⟨W.heap.size, 2, none⟩ = some (.int .i64 o.q) ∧ W'.cell? ⟨W.heap.size, 3, none⟩ = some (.int .u64 (o.p : Nat)) ∧ Below W.heap.size W W' ∧ ∃ cs, Blk W' (W.heap.size + 1) 46 cs ∧ cs.size = 4)) (.take 0 (.take 1 (.take 2 (.take 3 (.take 4 (.take 5 (.take 6 (.take 7 (.one 8 (.take 9 (.one 10 .nil))))))))))) 9999 (by kernel_rfl) (by kernel_rfl) (by kernel_rfl) (by kernel_rfl) (by kernel_rfl) (fun _ _ d _ _ h => by cases d <;> exact h) ?_ (fun hHeld => ?_); (focus (exact ⟨c0, c1, c2, c3, hB0.drew, _, bB.drew, rfl⟩)); simp only [Tree.map, List.getElem?_toArray, List.getElem?_cons_zero, List.getElem?_cons_succ]
  (repeat (first | (refine wpTree.take (v := undef) (Or.inr ⟨by rfl, rfl⟩) ?_; simp only [Act.put, List.setIfInBounds_toArray, List.set_cons_zero, List.set_cons_succ]) | (refine wpTree.take (v := ?_) (Or.inl ⟨by rfl, ?_⟩) ?_; rotate_left; (focus (intro _ hS; (try dsimp only at hS); go_split_ands; (try subst hS); go_simp; (try (with_reducible rfl)); done)); simp only [Act.put, List.setIfInBounds_toArray, List.set_cons_zero, List.set_cons_succ])))
  refine wpTree.one (fun K hK => ?_)
  go_simp
  refine hK.out _ _ hHeld (fun _ => ?_)
  clear hK K
  refine wpTree.take (yields_build' o.cells.toArray (by rfl) 46 [(0, _), (1, _), (2, _), (3, _)] rfl (built_op o)) ?_
  simp only [Act.put, List.setIfInBounds_toArray, List.set_cons_zero, List.set_cons_succ]
  obtain ⟨_, _, _, _, hbl, cs, bc, hcs⟩ := hHeld
  refine wpTree.one (fun K hK => ?_)
  refine step_store_blk (by rfl) 46 _ _ rfl (W.heap.size + 1) 46 cs o.cells.toArray rfl rfl bc (oinfoA _) (hcs.trans (by rw [List.size_toArray, op_len])) (op_one _) ?_
  have hb2 := below_setRow hbl (show W.heap.size ≤ W.heap.size + 1 by omega) o.cells.toArray
  have hS3 := below_setRow (Below.refl (W.heap.size + 1) W1.drew) (Nat.le_refl _) o.cells.toArray
  have hc := fun i => hS3.cell (p := ⟨W.heap.size, i, none⟩) (Nat.lt_succ_self _)
  refine hK.out _ _ ⟨(hc 0).trans c0, (hc 1).trans c1, (hc 2).trans c2, (hc 3).trans c3, hb2, _, bc.setRow _, by rw [List.size_toArray, op_len]⟩ (fun _ => ?_)
  clear hK K
  refine wpTree.done ?_
  have hrow := bc.setRow o.cells.toArray
  clear hS3 hc c0 c1 c2 c3 bB hB0 bc
  go_wp2_with fail
  exact bodyPost_row (t := 46) o.cells.toArray rfl rfl rfl Tryz.underlying46 rfl (oinfoA _) hrow ⟨rfl, hb2⟩

/-- An event as plain data. -/
def Ev.item (x : Ev) : List Value := x.l.cells ++ x.o.plain
theorem item_len {x : Ev} : x.item.length = 21 := by unfold Ev.item; rw [List.length_append, lab_len, plain_len]
theorem item_lab (x : Ev) {j : Nat} (h : j < 17) : x.item[j]? = x.l.cells[j]? := by unfold Ev.item; rw [List.getElem?_append_left (by rw [lab_len]; exact h)]
theorem item_op (x : Ev) (j : Nat) : x.item[17 + j]? = x.o.plain[j]? := by
  unfold Ev.item; rw [List.getElem?_append_right (by rw [lab_len]; omega), lab_len]; simp
theorem item_def (x : Ev) : x.item = x.l.cells ++ x.o.plain := by unfold Ev.item; rfl
theorem item_one (x : Ev) : x.item.toArray.all (·.oneCell') = true := by
  refine all_oneCell_toArray fun v hv => ?_
  unfold Ev.item at hv
  rcases List.mem_append.1 hv with h | h
  · have := lab_one x.l
    exact Array.all_eq_true'.1 this v (by simpa using h)
  · have := plain_one x.o
    exact Array.all_eq_true'.1 this v (by simpa using h)
attribute [irreducible] Ev.item
theorem item_all {W : World} {b : Nat} {t : TypeId} {x : Ev} (h : Blk W b t x.item.toArray) : W.rangeAt b 0 x.item ∧ W.rangeAt b 0 x.l.cells ∧ W.rangeAt b 17 x.o.plain := by
  have hc : ∀ i, W.cell? ⟨b, i, none⟩ = x.item[i]? := fun i => by rw [h.cell, List.getElem?_toArray]
  refine ⟨h.range, fun j v hv => ?_, fun j v hv => ?_⟩
  · have hj : j < 17 := by have := (List.getElem?_eq_some_iff.1 hv).1; rwa [lab_len] at this
    rw [Nat.zero_add, hc, item_lab x hj, hv]
  · rw [hc, item_op, hv]
end Go.Proofs.YtgnfachjobohoaaGreat
namespace Go.Proofs.YtgnfachjobohoaaGreat
open Go.RowKit

def fO : OpR := OpR.mk 1 5 2 0
def gO : OpR := OpR.mk 4 1 0 0
def hO4 : OpR := OpR.mk 4 0 0 0
def iO : OpR := OpR.mk 6 1 0 0
def fE : Ev := ⟨aL, fO⟩
def gE : Ev := ⟨aL, gO⟩
theorem fO_may : mayO fO = true := by decide
theorem gO_may : mayO gO = false := by decide
theorem fO_cust : custO fO = true := by decide
theorem iO_cust : custO iO = false := by decide
theorem fE_right : rightE fE = true := by
  unfold rightE fE
  dsimp only
  rw [aL_right, fO_may, show aL.se = 4 by unfold aL; rfl]
  decide
theorem gE_right : rightE gE = false := by
  unfold rightE gE
  dsimp only
  rw [gO_may, Bool.and_false, Bool.and_false]
theorem aL_lt : ∀ i, aL.f i < 4294967296 := by intro i; unfold aL; dsimp only; omega
theorem aL_enc : encL aL = [3, 2, 1, 1, 4, 0] := by
  have h1 : topV (fun _ => 0) 12 = 0 := by decide
  have h2 : trimV (fun _ => 0) = [] := by unfold trimV; rw [h1]; rfl
  have e : aL = Lab.mk 3 2 1 1 4 (fun _ => 0) := by unfold aL; rfl
  rw [e]
  show enc 3 ++ enc 2 ++ enc 1 ++ enc 1 ++ enc 4 ++ (enc (topV (fun _ => 0) 12) ++ encs (trimV (fun _ => 0))) = _
  rw [h1, h2, enc_lo (by decide), enc_lo (by decide), enc_lo (by decide), enc_lo (by decide), enc_lo (by decide)]
  rfl
theorem fE_enc : encE fE = [3, 2, 1, 1, 4, 0, 1, 5, 4] := by
  unfold encE fE
  dsimp only
  rw [aL_enc]
  show [3, 2, 1, 1, 4, 0] ++ (enc 1 ++ (enc 5 ++ (enc 4 ++ []))) = _
  rw [enc_lo (by decide), enc_lo (by decide), enc_lo (by decide)]
  rfl
theorem hO4_enc : encO hO4 = [4] := by
  show enc 4 ++ ([] ++ ([] ++ [])) = _
  rw [enc_lo (by decide)]
  rfl
theorem fO_lit : fO.cells.toArray = #[.int .i64 1, .int .i64 5, .int .i64 2, .float .f64 0] := op_arr fO
theorem gO_lit : gO.cells.toArray = #[.int .i64 4, .int .i64 1, .int .i64 0, .float .f64 0] := op_arr gO
theorem hO4_lit : hO4.cells.toArray = #[.int .i64 4, .int .i64 0, .int .i64 0, .float .f64 0] := op_arr hO4
theorem iO_lit : iO.cells.toArray = #[.int .i64 6, .int .i64 1, .int .i64 0, .float .f64 0] := op_arr iO
theorem built_fE : Tryz.prog.built 89 [(0, .agg aL.cells.toArray), (1, .agg #[.int .i64 1, .int .i64 5, .int .i64 2, .float .f64 0])] = some fE.cells.toArray := by rw [← fO_lit]; exact built_ev aL fO
theorem built_gE : Tryz.prog.built 89 [(0, .agg aL.cells.toArray), (1, .agg #[.int .i64 4, .int .i64 1, .int .i64 0, .float .f64 0])] = some gE.cells.toArray := by rw [← gO_lit]; exact built_ev aL gO
theorem hO4_ok : hO4.Ok := ⟨by decide, by decide, by decide, by decide, by decide, by decide, by decide⟩
theorem fE_read : evP [3, 2, 1, 1, 4, 0, 1, 5, 4] = .ok (asReadE fE, []) := by
  rw [← fE_enc]
  exact ev_yes fE_right aL_lt (by decide)
theorem eqL_self' (l : Lab) : eqL l l = true := eqL_self l
theorem sameE_self (x : Ev) : sameE x x = true := by unfold sameE; rw [eqL_self, sameO_self]; rfl
/-- A box of a fixed label. -/
def fixA (W : World) : World := (W.alloc (.cells #[.int .u64 0, .int .i64 0, .int .u32 0, .int .i64 0, .int .i64 0, .int .u32 0, .int .u32 0, .int .u32 0, .int .u32 0, .int .u32 0, .int .u32 0, .int .u32 0, .int .u32 0, .int .u32 0, .int .u32 0, .int .u32 0, .int .u32 0] 87)).setRow W.heap.size aL.cells.toArray
theorem fixA_size (W : World) : (fixA W).heap.size = W.heap.size + 1 := by simp [fixA]
theorem fixA_below (W : World) : Below W.heap.size W (fixA W) := below_setRow ((Below.refl _ W).alloc (Nat.le_refl _) _) (Nat.le_refl _) _
theorem fixA_a (W : World) : Blk (fixA W) W.heap.size 87 aL.cells.toArray := (Blk.new W _ _).setRow _
attribute [irreducible] fixA fO gO hO4 iO fE gE

end Go.Proofs.YtgnfachjobohoaaGreat
namespace Go.Proofs.YtgnfachjobohoaaGreat
open Go.ChangeShapes Go.WideShapes Go.ChangeAt Go.RowKit
section
variable {H : Type} {enc : TypeId × Value → H} {w : World}
theorem cells_plain : Tryz.prog.cellsOf 27 = 4 := by kernel_rfl
theorem four_cells {cs : List Value} {a b c d : Value} (hl : cs.length = 4) (h0 : (cs.drop 0).take 1 = [a]) (h1 : (cs.drop 1).take 1 = [b]) (h2 : (cs.drop 2).take 1 = [c]) (h3 : (cs.drop 3).take 1 = [d]) : cs = [a, b, c, d] := by
  match cs, hl with
  | [x0, x1, x2, x3], _ =>
    simp only [List.drop_zero, List.drop_succ_cons, List.take_succ_cons, List.take_zero, List.cons.injEq, and_true] at h0 h1 h2 h3
    rw [h0, h1, h2, h3]
theorem plain_def (o : OpR) : o.plain = [.int .i64 o.k, .int .i64 o.s, .int .i64 o.q, .int .u64 (o.p : Nat)] := by
  have := congrArg Array.toList (plain_arr o)
  simpa using this
set_option maxRecDepth 100000 in
theorem open_plain_cells {base fuel : Nat} {sp : Nat → Bool} {hd : Bool} {cs : List Value} {x : DataW H × List MemPlace} (h : DataW.trod enc Tryz.prog w base sp hd fuel 27 cs = some x) : ∃ o : OpR, cs = o.plain ∧ o.Ok := by
  obtain ⟨xs, m, _, hx, hcl, hlen, hg⟩ := DataW.trod_struct Tryz.underlying27 h
  rw [cells_plain] at hcl
  have g0 : DataW.trod enc Tryz.prog w base sp hd m 3 ((cs.drop 0).take (Tryz.prog.cellsOf 3)) = xs[0]? := hg 0 _ rfl
  have g1 : DataW.trod enc Tryz.prog w base sp hd m 3 ((cs.drop 1).take (Tryz.prog.cellsOf 3)) = xs[1]? := hg 1 _ rfl
  have g2 : DataW.trod enc Tryz.prog w base sp hd m 3 ((cs.drop 2).take (Tryz.prog.cellsOf 3)) = xs[2]? := hg 2 _ rfl
  have g3 : DataW.trod enc Tryz.prog w base sp hd m 25 ((cs.drop 3).take (Tryz.prog.cellsOf 25)) = xs[3]? := hg 3 _ rfl
  have hlen4 : xs.length = 4 := hlen
  clear hg hlen
  rw [cells_int] at g0 g1 g2
  rw [cells_u64] at g3
  rw [List.getElem?_eq_getElem (by omega)] at g0 g1 g2 g3
  obtain ⟨k, e0, _, w0⟩ := DataW.trod_int Tryz.underlying3 g0
  obtain ⟨s, e1, _, w1⟩ := DataW.trod_int Tryz.underlying3 g1
  obtain ⟨q, e2, _, w2⟩ := DataW.trod_int Tryz.underlying3 g2
  obtain ⟨p, e3, _, w3⟩ := DataW.trod_int Tryz.underlying25 g3
  have b0 := bounds_i64 w0
  have b1 := bounds_i64 w1
  have b2 := bounds_i64 w2
  obtain ⟨p', rfl, b3⟩ := bound_u64 w3
  refine ⟨⟨k, s, q, p'⟩, ?_, ⟨b0.1, b0.2, b1.1, b1.2, b2.1, b2.2, b3⟩⟩
  rw [plain_def]
  exact four_cells hcl e0 e1 e2 e3
set_option maxRecDepth 100000 in
theorem open_plain {r : Reach} {b0 base : Nat} {sp : Nat → Bool} {hd : Bool} {v : Value} {d : DataW H} {p : List MemPlace} (hv : Value.okWide Tryz.prog w r b0 27 v) (h : DataW.Trod enc Tryz.prog w base sp hd 27 v d p) :
    ∃ o : OpR, v = .agg o.plain.toArray ∧ o.Ok := by
  obtain ⟨cs, rfl, _⟩ := okWide_struct Tryz.underlying27 hv
  obtain ⟨fuel, hf⟩ := h
  obtain ⟨l, e, hok⟩ := open_plain_cells hf
  exact ⟨l, by rw [← e]; rfl, hok⟩
theorem two_parts {cs a b : List Value} (hl : cs.length = 21) (h0 : (cs.drop 0).take 17 = a) (h1 : (cs.drop 17).take 4 = b) : cs = a ++ b := by
  rw [List.drop_zero] at h0
  rw [List.take_of_length_le (by rw [List.length_drop]; omega)] at h1
  rw [← h0, ← h1, List.take_append_drop]
end
end Go.Proofs.YtgnfachjobohoaaGreat
