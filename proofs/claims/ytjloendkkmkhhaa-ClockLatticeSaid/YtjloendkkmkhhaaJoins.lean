/-
ClockJoins holds: the join of any many vectors, up to fifty, is the document's, one joined to the next; of none it is a vector of noughts. No condition.
-/
import Derived.Test.YtjloendkkmkhhaaTells
namespace Go.Proofs.Ytjloendkkmkhhaa
open Go.ChangeShapes Go.WideShapes Go.ChangeAt Go.RowKit

theorem add_plain' (b o j : Nat) : (⟨b, o, none⟩ : Addr).add j = ⟨b, o + j, none⟩ := by unfold Addr.add; split <;> simp_all

section
variable {H : Type} {enc : TypeId × Value → H} {w : World}
theorem open_vecs {b0 : Nat} {r : Reach} {v : Value} {d : DataW H} {ps : List MemPlace} (hv : Value.okWide Try.prog w r b0 49 v) (h : DataW.Trod enc Try.prog w 0 (fun _ => true) true 49 v d ps) (_hlt : ∀ x ∈ ps, x.block < w.heap.size) :
    ∃ fs, Vecs w v fs ∧ fs.length ≤ 9223372036854775807 := by
  obtain ⟨a0, len0, cap0, rfl⟩ := okWide_slice Try.underlying49 hv
  obtain ⟨fuel, hf⟩ := h
  rcases Go.Deep.open_slice Try.underlying49 hf with ⟨hcs, _⟩ | ⟨a, len, cap, m, n, D, Pl, hcs, _, hl, hm, hmm, hx, hi⟩
  · simp [Value.cells] at hcs
    obtain ⟨rfl, rfl, rfl⟩ := hcs
    exact ⟨[], ⟨none, 0, rfl, Or.inl rfl⟩, by simp⟩
  · simp [Value.cells] at hcs
    obtain ⟨rfl, rfl, rfl⟩ := hcs
    rw [if_pos rfl] at hmm
    subst hmm
    unfold maxLen at hm
    rw [cells_vec] at hi hx
    obtain ⟨V, hV⟩ : ∃ V : Nat → Nat → Nat, ∀ i, i < m → ∃ cs', w.cells? 0 (a.add (i * 12)) 12 = some cs' ∧ cs' = vl (V i) := by
      have : ∀ i, ∃ f : Nat → Nat, i < m → ∃ cs', w.cells? 0 (a.add (i * 12)) 12 = some cs' ∧ cs' = vl f := by
        intro i
        by_cases h : i < m
        · obtain ⟨cs', h1, h2⟩ := hi i h
          obtain ⟨f, e, _⟩ := vec_trod h2
          exact ⟨f, fun _ => ⟨cs', h1, e⟩⟩
        · exact ⟨fun _ => 0, fun h' => absurd h' h⟩
      exact ⟨fun i => (this i).choose, fun i => (this i).choose_spec⟩
    refine ⟨(List.range len0).map V, ⟨some a, m, by simp, ?_⟩, by simp; omega⟩
    by_cases h0 : len0 = 0
    · left; simp [h0]
    · right
      obtain ⟨cs', h1, e⟩ := hV 0 (by omega)
      obtain ⟨_, hlen, hc⟩ := World.cells?_some h1
      have h00 := hc 0 (by omega)
      rw [e, vl_get (by omega), Nat.zero_mul] at h00
      obtain ⟨b, off, spot⟩ := a
      have hspot : spot = none := by simpa [Addr.add] using World.cell?_spot h00
      subst hspot
      have hb : b < w.heap.size := by
        have := World.block_lt_of_cell? w _ h00
        simpa [Addr.add] using this
      refine ⟨b, off, rfl, hb, fun i hi' => ?_⟩
      have hi2 : i < len0 := by simpa using hi'
      obtain ⟨cs', h1, e⟩ := hV i (by omega)
      obtain ⟨_, hlen, hc⟩ := World.cells?_some h1
      intro j u hu
      rw [List.getElem_map, List.getElem_range] at hu
      have hj : j < 12 := by have := (List.getElem?_eq_some_iff.1 hu).1; rwa [vl_len] at this
      have := hc j hj
      rw [e, add_plain', add_plain'] at this
      rw [this]; exact hu
end

theorem Vecs.below {w w' : World} {v : Value} {fs : List (Nat → Nat)} (h : Vecs w v fs) (hb : Below w.heap.size w w') : Vecs w' v fs := by
  obtain ⟨a, c, hv, h⟩ := h
  refine ⟨a, c, hv, h.imp id ?_⟩
  rintro ⟨b, off, ha, hlt, hr⟩
  exact ⟨b, off, ha, Nat.lt_of_lt_of_le hlt hb.size, fun i hi => range_below (hr i hi) hb hlt⟩
theorem vecs_nil (w : World) : Vecs w (.slice none 0 0) [] := ⟨none, 0, rfl, Or.inl rfl⟩

theorem step_store_blk {P : Program} {ops : Array Oper} {o : Oper} {a : Act} {w : World} {K : Act → World → Prop} {Q : Exit → Act → World → Prop} {E : Prop} (hw : Region.wanted o (yielded ops a.tmps) = true) (ty : TypeId) (x y : Operand) (ho : o.op = .store ty x y)
    (g : Nat) (t : TypeId) (old cs : Array Value) (hx : a.eval x = .pointer (some ⟨g, 0, none⟩)) (hy : a.eval y = .agg cs) (hg : Blk w g t old)
    (hi : (P.info? ty).map (·.size) = some cs.size) (hs : old.size = cs.size) (h1 : cs.all (·.oneCell') = true)
    (h : K (a.put o.dst undef) (w.setRow g cs)) : if Region.wanted o (yielded ops a.tmps) = true then Oper.wp P o a w K Q else E := by
  rw [if_pos hw]
  unfold Oper.wp execOp
  simp only [ho, hx, hy, Instr.storeAt, Instr.sureAddr, Sem.run_bind, Sem.run_pure, Result.andThen_ok, run_storeVar_row w g t ty old cs hg hi hs h1]
  exact h
theorem yields_build {P : Program} {ops : Array Oper} {S : World → Prop} {o : Oper} {a : Act} (cells : Array Value) (hw : Region.wanted o (yielded ops a.tmps) = true) (t : TypeId) (parts : List (Nat × Operand))
    (ho : o.op = .build t parts.toArray) (hp : P.built t (parts.map fun x => (x.1, a.eval x.2)) = some cells) : YieldsIf P ops S o (.agg cells) a := by
  refine .inl ⟨hw, fun w _ => ?_⟩
  have e : (parts.toArray.map fun x => (x.1, a.eval x.2)).toList = parts.map fun x => (x.1, a.eval x.2) := by simp
  unfold execOp
  simp only [ho]
  have := run_build (P := P) w t (parts.toArray.map fun x => (x.1, a.eval x.2)) cells (by rw [e]; exact hp)
  simp only [Sem.run_bind]
  show ((Instr.build t (parts.toArray.map fun x => (x.1, a.eval x.2))).run P w).andThen _ = _
  rw [this]; rfl
theorem built_none : Try.prog.built 24 [] = some (vl (fun _ => 0)).toArray := by rw [vl_zero]; kernel_rfl

set_option maxHeartbeats 4000000 in
theorem joins_walk (v : Value) (fs : List (Nat → Nat)) (hlen : fs.length ≤ 9223372036854775807) (w : World) (hv : Vecs w v fs) :
    Calls Try.prog 4 #[v] w fun e w' => e = .returned (.bool true) ∧ Below w.heap.size w w' := by
  have HV := Lib.hid hv
  obtain ⟨a, c, rfl, hrow⟩ := hv
  have HR := Lib.hid hrow
  clear hrow
  by_cases hbig : 50 < fs.length
  · have hb' : (50 : Int) < (fs.length : Nat) := by omega
    go_enter Try.func4, Try.ntmps4
    go_wp2_with (go_at_call 17; refine (alive_any _).mono ?_; rintro e w' ⟨rfl, hb⟩)
    go_ret
    exact ⟨rfl, hb⟩
  · have hb' : ¬ (50 : Int) < (fs.length : Nat) := by omega
    go_enter Try.func4, Try.ntmps4
    go_wp2_with (first | (first | (refine wpList_load_blk rfl 24 _ rfl _ rfl 24 (vl ?_).toArray _ ?_ Try.underlying24 rfl (vinfo _) ?_; rotate_left; (focus ((first | assumption | ((repeat' (first | assumption | ((with_reducible refine Blk.new' ?_); (first | rfl | (simp; done))) | ((with_reducible refine Blk.newRow ?_); (first | rfl | (simp; done))) | ((with_reducible refine Blk.farRow ?_ ?_ _); rotate_left; (first | (simp; done) | (simp; omega) | omega)) | (with_reducible refine Blk.alloc ?_ _) | (with_reducible refine Blk.drew ?_) | ((with_reducible refine Blk.far ?_ ?_ _); rotate_left; (first | (simp; done) | (simp; omega) | omega)) | (with_reducible refine Blk.next' (by assumption) ?_))); done))))) | (refine wpList_store_blk rfl 24 _ _ rfl _ 24 ?_ (vl _).toArray rfl rfl ?_ (vinfo _) ?_ (vl_all _) ?_; rotate_left; (focus ((first | assumption | ((repeat' (first | assumption | ((with_reducible refine Blk.new' ?_); (first | rfl | (simp; done))) | ((with_reducible refine Blk.newRow ?_); (first | rfl | (simp; done))) | ((with_reducible refine Blk.farRow ?_ ?_ _); rotate_left; (first | (simp; done) | (simp; omega) | omega)) | (with_reducible refine Blk.alloc ?_ _) | (with_reducible refine Blk.drew ?_) | ((with_reducible refine Blk.far ?_ ?_ _); rotate_left; (first | (simp; done) | (simp; omega) | omega)) | (with_reducible refine Blk.next' (by assumption) ?_))); done)))); (focus (first | exact (vl_size _).trans (vl_size _).symm | exact (vl_size _).symm)); intro _hrow)))
    go_loopw [4] (fun i wr => ∃ k : Nat, k ≤ fs.length ∧ i = .int .i64 k ∧ Blk wr w.heap.size 24 (vl (joinL (fs.take k))).toArray ∧ Below w.heap.size w wr) (fun i _ => fs.length - (intOf i).toNat)
    case atStart => exact ⟨0, Nat.zero_le _, rfl, by rw [List.take_zero, joinL_nil, vl_zero]; (first | assumption | ((repeat' (first | assumption | ((with_reducible refine Blk.new' ?_); (first | rfl | (simp; done))) | ((with_reducible refine Blk.newRow ?_); (first | rfl | (simp; done))) | ((with_reducible refine Blk.farRow ?_ ?_ _); rotate_left; (first | (simp; done) | (simp; omega) | omega)) | (with_reducible refine Blk.alloc ?_ _) | (with_reducible refine Blk.drew ?_) | ((with_reducible refine Blk.far ?_ ?_ _); rotate_left; (first | (simp; done) | (simp; omega) | omega)) | (with_reducible refine Blk.next' (by assumption) ?_))); done)), by (repeat' (first | exact Below.refl _ _ | assumption | (with_reducible refine below_alloc' ?_) | (with_reducible refine Below.drew ?_) | (with_reducible refine below_next' (by assumption) ?_) | (with_reducible refine below_setRow ?_ ?_ _) | (with_reducible refine Below.setCell ?_ ?_ _) | (with_reducible refine below_next (by assumption) ?_ ?_) | (with_reducible refine Below.alloc ?_ ?_ _) | exact Nat.le_refl _ | (exact below_size (by assumption)) | (with_reducible refine size_alloc ?_) | (with_reducible refine size_setRow' ?_) | (with_reducible refine size_setCell' ?_) | (with_reducible refine size_next (by assumption) ?_) | omega | (simp; done) | (simp; omega)))⟩
    case round =>
      obtain ⟨k, hk, rfl, B0, BW⟩ := hrel
      by_cases hlt : k < fs.length
      · have h0 : (0 : Int) ≤ (k : Int) := by omega
        have h1 : (k : Int) < ((fs.length : Nat) : Int) := by omega
        obtain ⟨b, off, rfl, hb, hr⟩ := HR.out.resolve_left (by intro e; rw [e] at hlt; simp at hlt)
        have hrk := range_below (hr k hlt) BW hb
        have hT := Lib.hid (joinL_take fs k hlt)
        clear hr
        obtain ⟨f, hf⟩ : ∃ f, f = fs[k] := ⟨_, rfl⟩
        obtain ⟨acc, hacc⟩ : ∃ acc, acc = joinL (fs.take k) := ⟨_, rfl⟩
        rw [← hf] at hrk hT
        rw [← hacc] at B0 hT
        clear hf hacc
        have hx := B0.range
        go_wp2_with fail
        refine wp_region_plan (S := (fun W => W.rangeAt w.heap.size 0 (vl acc) ∧ W.rangeAt b (off + k * 12) (vl f) ∧ Below wr.heap.size wr W)) [(0, true), (1, true), (2, true), (3, true), (4, true), (5, false), (6, false)] 6 (by kernel_rfl) (by kernel_rfl) (by kernel_rfl) (by kernel_rfl) (by kernel_rfl) (fun _ _ d _ _ h => by cases d <;> exact h) ?_ (fun hHeld => ?_); (focus ((go_split_ands; (repeat' (refine And.intro ?_ ?_)); all_goals (first | assumption | ((repeat' (first | assumption | (with_reducible refine cell_drew ?_) | (with_reducible refine cell_next (by assumption) ?_) | ((with_reducible refine cell_new ?_ ?_); (focus (first | rfl | (simp; done))); (focus rfl)) | (with_reducible refine cell_alloc ?_))); done) | ((repeat' (first | assumption | (with_reducible refine (World.rangeAt_drew _ _ _ _).2 ?_) | (with_reducible refine vrange_next (by assumption) ?_) | (refine Blk.range (t := 24) ?_; (first | assumption | ((repeat' (first | assumption | ((with_reducible refine Blk.new' ?_); (first | rfl | (simp; done))) | ((with_reducible refine Blk.newRow ?_); (first | rfl | (simp; done))) | ((with_reducible refine Blk.farRow ?_ ?_ _); rotate_left; (first | (simp; done) | (simp; omega) | omega)) | (with_reducible refine Blk.alloc ?_ _) | (with_reducible refine Blk.drew ?_) | ((with_reducible refine Blk.far ?_ ?_ _); rotate_left; (first | (simp; done) | (simp; omega) | omega)) | (with_reducible refine Blk.next' (by assumption) ?_))); done))) | (with_reducible refine World.rangeAt_alloc ?_ _))); done) | ((repeat' (first | exact Below.refl _ _ | assumption | (with_reducible refine below_alloc' ?_) | (with_reducible refine Below.drew ?_) | (with_reducible refine below_next' (by assumption) ?_) | (with_reducible refine below_setRow ?_ ?_ _) | (with_reducible refine Below.setCell ?_ ?_ _) | (with_reducible refine below_next (by assumption) ?_ ?_) | (with_reducible refine Below.alloc ?_ ?_ _) | exact Nat.le_refl _ | (exact below_size (by assumption)) | (with_reducible refine size_alloc ?_) | (with_reducible refine size_setRow' ?_) | (with_reducible refine size_setCell' ?_) | (with_reducible refine size_next (by assumption) ?_) | omega | (simp; done) | (simp; omega))); done))))); simp only [List.map_cons, List.map_nil, List.getElem?_toArray, List.getElem?_cons_zero, List.getElem?_cons_succ]
        clear hrk hx
        (repeat (first | (refine wpPlan.take (v := undef) (Or.inr ⟨by rfl, rfl⟩) ?_; simp only [Act.put, List.setIfInBounds_toArray, List.set_cons_zero, List.set_cons_succ]) | (refine wpPlan.take (v := .agg (vl ?_).toArray) (yieldsIf_load_mid rfl 24 _ rfl _ _ rfl (vl _) _ ?_ Try.underlying24 rfl (vinfoL _)) ?_; rotate_left; (focus (intro _ hS; (try dsimp only at hS); go_split_ands; assumption)); simp only [Act.put, List.setIfInBounds_toArray, List.set_cons_zero, List.set_cons_succ]) | (refine wpPlan.take (v := ?_) (Or.inl ⟨by rfl, ?_⟩) ?_; rotate_left; (focus (intro _ hS; (try dsimp only at hS); go_split_ands; (try subst hS); go_simp; (try (with_reducible rfl)); done)); simp only [Act.put, List.setIfInBounds_toArray, List.set_cons_zero, List.set_cons_succ]) | (refine wpPlan.carry (fun K hK => ?_); (first | (refine step_buildSlice2 (by rfl) _ _ rfl rfl rfl ?_) | go_simp); (try (first  | (go_at_call 19; refine (rjoin_any _ _ _).mono ?_; rintro e w' ⟨rfl, hb⟩))); (try (go_wp2_with fail)); refine hK.out _ _ ?_ (fun hHeld' => ?_); (focus ((go_split_ands; (repeat' (refine And.intro ?_ ?_)); all_goals (first | assumption | ((repeat' (first | assumption | (with_reducible refine cell_drew ?_) | (with_reducible refine cell_next (by assumption) ?_) | ((with_reducible refine cell_new ?_ ?_); (focus (first | rfl | (simp; done))); (focus rfl)) | (with_reducible refine cell_alloc ?_))); done) | ((repeat' (first | assumption | (with_reducible refine (World.rangeAt_drew _ _ _ _).2 ?_) | (with_reducible refine vrange_next (by assumption) ?_) | (refine Blk.range (t := 24) ?_; (first | assumption | ((repeat' (first | assumption | ((with_reducible refine Blk.new' ?_); (first | rfl | (simp; done))) | ((with_reducible refine Blk.newRow ?_); (first | rfl | (simp; done))) | ((with_reducible refine Blk.farRow ?_ ?_ _); rotate_left; (first | (simp; done) | (simp; omega) | omega)) | (with_reducible refine Blk.alloc ?_ _) | (with_reducible refine Blk.drew ?_) | ((with_reducible refine Blk.far ?_ ?_ _); rotate_left; (first | (simp; done) | (simp; omega) | omega)) | (with_reducible refine Blk.next' (by assumption) ?_))); done))) | (with_reducible refine World.rangeAt_alloc ?_ _))); done) | ((repeat' (first | exact Below.refl _ _ | assumption | (with_reducible refine below_alloc' ?_) | (with_reducible refine Below.drew ?_) | (with_reducible refine below_next' (by assumption) ?_) | (with_reducible refine below_setRow ?_ ?_ _) | (with_reducible refine Below.setCell ?_ ?_ _) | (with_reducible refine below_next (by assumption) ?_ ?_) | (with_reducible refine Below.alloc ?_ ?_ _) | exact Nat.le_refl _ | (exact below_size (by assumption)) | (with_reducible refine size_alloc ?_) | (with_reducible refine size_setRow' ?_) | (with_reducible refine size_setCell' ?_) | (with_reducible refine size_next (by assumption) ?_) | omega | (simp; done) | (simp; omega))); done))))); clear hK K hHeld; have hHeld := hHeld'; clear hHeld'; (try clear hb); (try simp only [Act.put, List.setIfInBounds_toArray, List.set_cons_zero, List.set_cons_succ]))))
        have hb4 := hHeld.2.2
        have B1 := B0.next hb4
        have BW1 := below_next hb4 BW.size BW
        clear hHeld hb4 B0 BW
        refine wpPlan.last (fun K hK => ?_)
        refine step_store_blk (by rfl) 24 _ _ rfl _ 24 (vl acc).toArray (vl (maxF acc f)).toArray rfl rfl B1 (vinfo _) ((vl_size _).trans (vl_size _).symm) (vl_all _) ?_
        refine hK.out _ _ ?_
        clear hK K
        have N0 := Lib.hid (B1.setRow (vl (maxF acc f)).toArray)
        have N1 := Lib.hid (below_setRow BW1 (Nat.le_refl _) (vl (maxF acc f)).toArray)
        clear B1 BW1
        go_wp2_with fail
        go_roundw
        case rel => exact ⟨k + 1, by omega, by go_num, by rw [hT.out]; exact N0.out, N1.out⟩
        case measure => simp [intOf]; omega
      · obtain rfl : k = fs.length := by omega
        rw [List.take_length] at B0
        have q1 := eqv (joinL fs) (joinL fs) (eqB_self _)
        have q2 := eqv (joinL []) (fun _ => 0) (eqB_self _)
        have hx := B0.range
        have hv2 := Lib.hid (HV.out.below BW)
        go_wp2_with fail
        refine wp_region_plan (S := (fun W => W.rangeAt w.heap.size 0 (vl (joinL fs)) ∧ Below wr.heap.size wr W)) [(0, false), (1, true), (2, true), (4, true), (3, false), (5, true), (6, true), (7, true), (9, true), (8, false), (10, true), (11, true), (12, true)] 9999 (by kernel_rfl) (by kernel_rfl) (by kernel_rfl) (by kernel_rfl) (by kernel_rfl) (fun _ _ d _ _ h => by cases d <;> exact h) ?_ (fun hHeld => ?_); (focus ((go_split_ands; (repeat' (refine And.intro ?_ ?_)); all_goals (first | assumption | ((repeat' (first | assumption | (with_reducible refine cell_drew ?_) | (with_reducible refine cell_next (by assumption) ?_) | ((with_reducible refine cell_new ?_ ?_); (focus (first | rfl | (simp; done))); (focus rfl)) | (with_reducible refine cell_alloc ?_))); done) | ((repeat' (first | assumption | (with_reducible refine (World.rangeAt_drew _ _ _ _).2 ?_) | (with_reducible refine vrange_next (by assumption) ?_) | (refine Blk.range (t := 24) ?_; (first | assumption | ((repeat' (first | assumption | ((with_reducible refine Blk.new' ?_); (first | rfl | (simp; done))) | ((with_reducible refine Blk.newRow ?_); (first | rfl | (simp; done))) | ((with_reducible refine Blk.farRow ?_ ?_ _); rotate_left; (first | (simp; done) | (simp; omega) | omega)) | (with_reducible refine Blk.alloc ?_ _) | (with_reducible refine Blk.drew ?_) | ((with_reducible refine Blk.far ?_ ?_ _); rotate_left; (first | (simp; done) | (simp; omega) | omega)) | (with_reducible refine Blk.next' (by assumption) ?_))); done))) | (with_reducible refine World.rangeAt_alloc ?_ _))); done) | ((repeat' (first | exact Below.refl _ _ | assumption | (with_reducible refine below_alloc' ?_) | (with_reducible refine Below.drew ?_) | (with_reducible refine below_next' (by assumption) ?_) | (with_reducible refine below_setRow ?_ ?_ _) | (with_reducible refine Below.setCell ?_ ?_ _) | (with_reducible refine below_next (by assumption) ?_ ?_) | (with_reducible refine Below.alloc ?_ ?_ _) | exact Nat.le_refl _ | (exact below_size (by assumption)) | (with_reducible refine size_alloc ?_) | (with_reducible refine size_setRow' ?_) | (with_reducible refine size_setCell' ?_) | (with_reducible refine size_next (by assumption) ?_) | omega | (simp; done) | (simp; omega))); done))))); simp only [List.map_cons, List.map_nil, List.getElem?_toArray, List.getElem?_cons_zero, List.getElem?_cons_succ]
        clear hx
        (repeat (first | (refine wpPlan.take (v := undef) (Or.inr ⟨by rfl, rfl⟩) ?_; simp only [Act.put, List.setIfInBounds_toArray, List.set_cons_zero, List.set_cons_succ]) | (refine wpPlan.take (v := .agg (vl ?_).toArray) (yieldsIf_load_mid rfl 24 _ rfl _ _ rfl (vl _) _ ?_ Try.underlying24 rfl (vinfoL _)) ?_; rotate_left; (focus (intro _ hS; (try dsimp only at hS); go_split_ands; assumption)); simp only [Act.put, List.setIfInBounds_toArray, List.set_cons_zero, List.set_cons_succ]) | (refine wpPlan.take (yields_build (vl (fun _ => 0)).toArray rfl 24 _ rfl built_none) ?_; simp only [Act.put, List.setIfInBounds_toArray, List.set_cons_zero, List.set_cons_succ]) | (refine wpPlan.take (v := ?_) (Or.inl ⟨by rfl, ?_⟩) ?_; rotate_left; (focus (intro _ hS; (try dsimp only at hS); go_split_ands; (try subst hS); go_simp; (try (with_reducible rfl)); done)); simp only [Act.put, List.setIfInBounds_toArray, List.set_cons_zero, List.set_cons_succ]) | (refine wpPlan.carry (fun K hK => ?_); (first | (refine step_buildSlice2 (by rfl) _ _ rfl rfl rfl ?_) | go_simp); (try (first  | (go_at_call 17; refine (alive_any _).mono ?_; rintro e w' ⟨rfl, hb⟩) | (go_at_call_of 18 (Value.slice none 0 0); refine (join_any _ [] _ (vecs_nil _) (by simp)).mono ?_; rintro e w' ⟨rfl, hb⟩) | (go_at_call 18; refine (join_any _ fs _ (hv2.out.below hHeld.2) hlen).mono ?_; rintro e w' ⟨rfl, hb⟩))); (try (go_wp2_with fail)); refine hK.out _ _ ?_ (fun hHeld' => ?_); (focus ((go_split_ands; (repeat' (refine And.intro ?_ ?_)); all_goals (first | assumption | ((repeat' (first | assumption | (with_reducible refine cell_drew ?_) | (with_reducible refine cell_next (by assumption) ?_) | ((with_reducible refine cell_new ?_ ?_); (focus (first | rfl | (simp; done))); (focus rfl)) | (with_reducible refine cell_alloc ?_))); done) | ((repeat' (first | assumption | (with_reducible refine (World.rangeAt_drew _ _ _ _).2 ?_) | (with_reducible refine vrange_next (by assumption) ?_) | (refine Blk.range (t := 24) ?_; (first | assumption | ((repeat' (first | assumption | ((with_reducible refine Blk.new' ?_); (first | rfl | (simp; done))) | ((with_reducible refine Blk.newRow ?_); (first | rfl | (simp; done))) | ((with_reducible refine Blk.farRow ?_ ?_ _); rotate_left; (first | (simp; done) | (simp; omega) | omega)) | (with_reducible refine Blk.alloc ?_ _) | (with_reducible refine Blk.drew ?_) | ((with_reducible refine Blk.far ?_ ?_ _); rotate_left; (first | (simp; done) | (simp; omega) | omega)) | (with_reducible refine Blk.next' (by assumption) ?_))); done))) | (with_reducible refine World.rangeAt_alloc ?_ _))); done) | ((repeat' (first | exact Below.refl _ _ | assumption | (with_reducible refine below_alloc' ?_) | (with_reducible refine Below.drew ?_) | (with_reducible refine below_next' (by assumption) ?_) | (with_reducible refine below_setRow ?_ ?_ _) | (with_reducible refine Below.setCell ?_ ?_ _) | (with_reducible refine below_next (by assumption) ?_ ?_) | (with_reducible refine Below.alloc ?_ ?_ _) | exact Nat.le_refl _ | (exact below_size (by assumption)) | (with_reducible refine size_alloc ?_) | (with_reducible refine size_setRow' ?_) | (with_reducible refine size_setCell' ?_) | (with_reducible refine size_next (by assumption) ?_) | omega | (simp; done) | (simp; omega))); done))))); clear hK K hHeld; have hHeld := hHeld'; clear hHeld'; (try clear hb); (try simp only [Act.put, List.setIfInBounds_toArray, List.set_cons_zero, List.set_cons_succ]))))
        refine wpPlan.done ?_
        have hE := below_next hHeld.2 BW.size BW
        go_wp2_with fail
        go_ret
        exact ⟨rfl, hE⟩

set_option maxRecDepth 100000 in
theorem joins_lifted (os : Os) (started : os.Started) (H : Type) (enc : TypeId × Value → H) :
    ReturnsInHanded {} Try.checked os 4 .any (Rows.clockJoinsSpec.pre6 enc Try.prog Try.f4 Rows.clockJoinsRow.domain false) (Rows.clockJoinsSpec.post enc Try.prog Try.f4 false true false false) := by
  refine law_lift (C := Try.checked) own_knob started (by kernel_rfl) Try.func4 rfl Try.underlying4 laid_out (by kernel_rfl) rfl ?_
    (ChangeSpec.witness6 (enc := enc) (C := Try.checked) false ⟨#[], #[.slice none 0 0], []⟩ 8 (by kernel_rfl) (by kernel_rfl) (by kernel_rfl) (by kernel_rfl)) ?_
  · intro ds hds
    match ds, hds with
    | [_], _ => rfl
  intro W base args ds ps hval hA hlt hsz
  rw [Try.params4] at hA hval
  obtain ⟨v0, vs0, d0, ds0, p0, q0, hargs, rfl, rfl, h0, r0⟩ := trodAll_cons hA
  obtain ⟨rfl, rfl, rfl⟩ := trodAll_nil r0
  obtain rfl : args = #[v0] := by cases args; simp_all
  obtain ⟨fs, hv0, hl0⟩ := open_vecs (hval 0 49 v0 rfl rfl) h0 (fun x hx => hlt x (by simp [hx]))
  exact joins_walk v0 fs hl0 W hv0

theorem joins_holds : Rows.ClockJoinsSaid :=
  OpenClaim.holds_of_wide 4 Try.f4 rfl rfl rfl rfl rfl rfl rfl ⟨rfl, rfl, rfl, rfl, rfl⟩ rfl rfl rfl rfl rfl (by kernel_rfl) Try.func4 (by kernel_rfl)
    (of_decide_eq_true (by kernel_rfl)) (by unfold Func.isWrapper; first | (rw [if_pos (by decide +kernel)]; kernel_rfl) | (rw [if_neg (by decide +kernel)]; exact ⟨rfl, rfl⟩))
    (fun os started H enc _ => joins_lifted os started H enc)

end Go.Proofs.Ytjloendkkmkhhaa
