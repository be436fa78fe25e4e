/-
The document's packets: cells; As; Right.
-/
import Derived.Test.YtgnfachjobohoaaGreatInR1
import Derived.Test.YtgnfachjobohoaaGreatIn10
import Derived.Test.YtgnfachjobohoaaGreatLRef
import Derived.Test.YtgnfachjobohoaaGreatStrS
namespace Go.Proofs.YtgnfachjobohoaaGreat
open Go.RowKit
set_option linter.unusedSimpArgs false
set_option linter.unusedVariables false
namespace In
/-- A packet as the document's. -/
def rpc (p : Pk.Pt) : List Value := [.bool p.k, .int .i64 p.f, .int .i64 p.t, .int .u64 (p.q : Nat), .string (Byt.bstr p.bs)]
theorem rpc_len (p : Pk.Pt) : (rpc p).length = 5 := rfl
theorem rpc_def (p : Pk.Pt) : rpc p = [.bool p.k, .int .i64 p.f, .int .i64 p.t, .int .u64 (p.q : Nat), .string (Byt.bstr p.bs)] := by unfold rpc; rfl
theorem rpc_ones (p : Pk.Pt) : ∀ v ∈ rpc p, v.oneCell' = true := by
  intro v hv
  unfold rpc at hv
  simp only [List.mem_cons, List.not_mem_nil, or_false] at hv
  rcases hv with rfl | rfl | rfl | rfl | rfl <;> rfl
theorem rpc_one (p : Pk.Pt) : (rpc p).toArray.all (·.oneCell') = true := all_oneCell_toArray (rpc_ones p)
theorem zrp_cells : rpc zp = [.bool false, .int .i64 0, .int .i64 0, .int .u64 0, .string ⟨#[]⟩] := by rw [rpc_def, Byt.bstr_lit]; rfl
attribute [irreducible] rpc
theorem rpinfo (p : Pk.Pt) : (Tryz.prog.info? 37).map (·.size) = some (rpc p).length := by rw [rpc_len]; kernel_rfl
theorem rpinfoA (p : Pk.Pt) : (Tryz.prog.info? 37).map (·.size) = some (rpc p).toArray.size := by rw [List.size_toArray, rpc_len]; kernel_rfl
theorem rp_siz (p q : Pk.Pt) : (rpc p).toArray.size = (rpc q).toArray.size := by rw [List.size_toArray, List.size_toArray, rpc_len, rpc_len]
abbrev zrpA : Array Value := #[.bool false, .int .i64 0, .int .i64 0, .int .u64 0, .string ⟨#[]⟩]
theorem zrp_arr : (rpc zp).toArray = zrpA := by rw [zrp_cells]
theorem zrp_siz (p : Pk.Pt) : (zrpA : Array Value).size = (rpc p).toArray.size := by
  show 5 = (rpc p).toArray.size
  rw [List.size_toArray, rpc_len]
theorem built_rpc (k : Bool) (f t : Int) (q : Nat) (bs : List Nat) : Tryz.prog.built 37 [(0, .bool k), (1, .int .i64 f), (2, .int .i64 t), (3, .int .u64 (q : Nat)), (4, .string (Byt.bstr bs))] = some (rpc ⟨k, f, t, q, bs⟩).toArray := by rw [rpc_def]; kernel_rfl
theorem rp_all {W : World} {b : Nat} {t : TypeId} {p : Pk.Pt} (h : Blk W b t (rpc p).toArray) : W.rangeAt b 0 (rpc p) ∧ W.cell? ⟨b, 0, none⟩ = some (.bool p.k) ∧ W.cell? ⟨b, 1, none⟩ = some (.int .i64 p.f) ∧ W.cell? ⟨b, 2, none⟩ = some (.int .i64 p.t) ∧ W.cell? ⟨b, 3, none⟩ = some (.int .u64 (p.q : Nat)) ∧ W.cell? ⟨b, 4, none⟩ = some (.string (Byt.bstr p.bs)) := by
  have hc : ∀ i, W.cell? ⟨b, i, none⟩ = (rpc p)[i]? := fun i => by rw [h.cell, List.getElem?_toArray]
  refine ⟨h.range, ?_, ?_, ?_, ?_, ?_⟩ <;> (rw [hc, rpc_def]; rfl)
theorem pc_all {W : World} {b : Nat} {t : TypeId} {x : Pk.Pc} (h : Blk W b t x.cells.toArray) : W.cell? ⟨b, 0, none⟩ = some (.bool x.p.k) ∧ W.cell? ⟨b, 1, none⟩ = some (.int .i64 x.p.f) ∧ W.cell? ⟨b, 2, none⟩ = some (.int .i64 x.p.t) ∧ W.cell? ⟨b, 3, none⟩ = some (.int .u64 (x.p.q : Nat)) ∧ W.cell? ⟨b, 4, none⟩ = some (.slice x.A x.p.bs.length x.c) := by
  have hc : ∀ i, W.cell? ⟨b, i, none⟩ = x.cells[i]? := fun i => by rw [h.cell, List.getElem?_toArray]
  refine ⟨?_, ?_, ?_, ?_, ?_⟩ <;> (rw [hc]; unfold Pk.Pc.cells; rfl)
set_option maxRecDepth 20000 in
set_option maxHeartbeats 4000000 in
theorem as15_any (x : Pk.Pc) (W : World) (ho : x.Ok W) : Calls Tryz.prog 17 #[.agg x.cells.toArray] W fun e W' => e = .returned (.agg (rpc x.p).toArray) ∧ Below W.heap.size W W' := by
  have bA := (Blk.new W 30 x.cells.toArray).alloc (.cells zrpA 37)
  have bR : Blk ((W.alloc (.cells x.cells.toArray 30)).alloc (.cells zrpA 37)) (W.heap.size + 1) 37 zrpA := Blk.new' (by simp)
  have hB := ((Below.refl W.heap.size W).alloc (Nat.le_refl _) (.cells x.cells.toArray 30)).alloc (by simp) (.cells zrpA 37)
  obtain ⟨w1, hw1⟩ : ∃ w1, w1 = (W.alloc (.cells x.cells.toArray 30)).alloc (.cells zrpA 37) := ⟨_, rfl⟩
  rw [← hw1] at bA bR hB
  have HW1 := Lib.hid hw1
  have HB := Lib.hid hB
  obtain ⟨c0, c1, c2, c3, c4⟩ := pc_all bA
  have cv := conv_byr (c := x.c) (ho.next hB).rd ho.hA ho.h256 rfl
  obtain ⟨⟨k, f, t, q, bs⟩, A, c⟩ := x
  dsimp only at c0 c1 c2 c3 c4 cv
  have hbl := built_rpc k f t q bs
  obtain ⟨n, hn⟩ : ∃ n, n = bs.length := ⟨_, rfl⟩
  rw [← hn] at c4 cv
  clear bA hB hw1 ho hn
  go_enter Tryz.func17, Tryz.ntmps17
  go_upto_region 1 with fail
  rw [← HW1.out]
  clear HW1
  go_wp2_with (first | (refine wpList_build_lit (rpc ⟨k, f, t, q, bs⟩).toArray rfl 37 _ rfl hbl ?_) | (refine wpList_store_blk rfl 37 _ _ rfl (W.heap.size + 1) 37 zrpA (rpc ⟨k, f, t, q, bs⟩).toArray rfl rfl bR (rpinfoA _) (zrp_siz _) (rpc_one _) ?_; intro hrow))
  exact bodyPost_row (t := 37) (rpc ⟨k, f, t, q, bs⟩).toArray rfl rfl rfl Tryz.underlying37 rfl (rpinfoA _) hrow ⟨rfl, below_setRow HB.out (by omega) _⟩
end In
end Go.Proofs.YtgnfachjobohoaaGreat
