/-
link: again: all that was not acknowledged goes into the net.
-/
import Derived.Test.YthiclefiliedjaaLk35
namespace Go.Proofs.Ythiclefiliedjaa
open Go.RowKit
set_option linter.unusedSimpArgs false
set_option linter.unusedVariables false
namespace Lk
theorem wait_len (m : Mx) : m.wait.length = m.sent.length - m.a := by unfold Mx.wait; rw [List.length_map, List.length_range]
/-- A queue's texts are those that wait. -/
theorem wait_of {m : Mx} {M : List It} (hbs : M.map It.bs = m.sent.drop m.a) (ha : m.a ≤ m.sent.length) (hq : ∀ (i : Nat) (x : It), M[i]? = some x → x.q + M.length = m.sent.length + 1 + i) : M.length = m.wait.length ∧ ∀ (i : Nat) (x : It), M[i]? = some x → m.wait[i]? = some ⟨false, x.q, x.bs⟩ := by
  have hl : M.length = m.sent.length - m.a := by rw [← List.length_map (f := It.bs), hbs, List.length_drop]
  refine ⟨by rw [wait_len]; exact hl, fun i x hx => ?_⟩
  have hi := (List.getElem?_eq_some_iff.1 hx).1
  have h1 : (M.map It.bs)[i]? = some x.bs := by rw [List.getElem?_map, hx]; rfl
  rw [hbs, List.getElem?_drop] at h1
  unfold Mx.wait
  rw [List.getElem?_map, List.getElem?_range (by omega)]
  simp only [Option.map_some, Option.some.injEq, Th.mk.injEq, true_and]
  refine ⟨by have := hq i x hx; omega, ?_⟩
  rw [List.getD_eq_getElem?_getD, h1]
  rfl
/-- What again leaves in the net. -/
def Mx.again (m : Mx) (net : List Th) : List Th := net ++ m.wait.take (400 - net.length)
theorem again_ok {m : Mx} {net : List Th} (h : m.Ok net) : m.Ok (m.again net) := by
  refine ⟨h.at_, h.ts, fun x hx => ?_⟩
  rcases List.mem_append.1 hx with hx | hx
  · exact h.on x hx
  · exact wait_on m (Nat.le_trans h.at_ h.ts) x (List.mem_of_mem_take hx)
theorem again_len {m : Mx} {net : List Th} (h : net.length ≤ 400) : (m.again net).length ≤ 400 := by
  unfold Mx.again
  rw [List.length_append, List.length_take]
  omega
theorem row_at {w : World} {F : Nat → Prop} {A : Option Addr} {M : List It} (h : RowI w F A M) {k : Nat} {x : It} (hx : M[k]? = some x) : ∃ g o, A = some ⟨g, o, none⟩ ∧ F g ∧ w.cell? ⟨g, o + k * 2, none⟩ = some (.int .u64 (x.q : Nat)) ∧ w.cell? ⟨g, o + k * 2 + 1, none⟩ = some (.slice x.A x.bs.length x.c) := by
  rcases h with ⟨_, h0⟩ | ⟨g, o, cs, z, e, hF, _, hc⟩
  · rw [h0] at hx; simp at hx
  · refine ⟨g, o, e, hF, ?_, ?_⟩
    · have := hc k x hx 0 _ it_0; rwa [Nat.add_zero, Nat.mul_comm] at this
    · have := hc k x hx 1 _ it_1; rwa [Nat.mul_comm] at this
/-- Behind k texts of the queue. -/
structure Agn (W w w1 wr : World) (g d1 d2 : Nat) (m : Mx) (net : List Th) (tk : List (List Nat)) (vs vt : Value) (k : Nat) (vn : Value) : Prop where
  mt : Mt W wr g d1 d2 m.l1 m.l2 (net ++ m.wait.take k) m.sent tk vn vs vt
  size : w1.heap.size ≤ wr.heap.size
  far : ∀ j, w.heap.size ≤ j → j < w1.heap.size → wr.heap[j]? = w1.heap[j]?
  own : ∀ j, vn.ownBlock = some j → j < w.heap.size ∨ w1.heap.size ≤ j
set_option maxRecDepth 20000 in
set_option maxHeartbeats 4000000 in
theorem again_any {W w : World} {g d1 d2 : Nat} {m : Mx} {net : List Th} {tk : List (List Nat)} {vn vs vt : Value} (h : Mt W w g d1 d2 m.l1 m.l2 net m.sent tk vn vs vt) (ha : m.a ≤ m.sent.length) (hn : net.length ≤ 400) :
    Calls Try.prog 21 #[.pointer (some ⟨g, 0, none⟩)] w fun e w' => e = .returned (.tuple #[]) ∧ ∃ vn', Mt W w' g d1 d2 m.l1 m.l2 (m.again net) m.sent tk vn' vs vt := by
  have HQ := Lib.hid (show Calls Try.prog 16 #[.pointer (some ⟨d1, 0, none⟩)] w fun e w' => QueueP m.l1 w e w' from by
    obtain ⟨F, hF⟩ := h.duo.one
    exact queue_any w hF)
  have c0 : w.cell? ⟨g, 0, none⟩ = some (.pointer (some ⟨d1, 0, none⟩)) := h.blk.cell 0
  have HM := Lib.hid h
  have HN := Lib.hid hn
  have HA := Lib.hid ha
  clear h hn ha
  go_enter Try.func21, Try.ntmps21
  go_upto_region 1 with (first | (go_at_call 16; refine HQ.out.mono ?_; rintro e w1 hq; obtain ⟨hb, A, c, M, rfl, hq⟩ := hq; clear HQ c0))
  obtain ⟨N, hNe⟩ : ∃ N, N = M.length := ⟨_, rfl⟩
  rw [← hNe]
  have HNE := Lib.hid hNe
  have HB := Lib.hid hb
  have HW := Lib.hid (wait_of hq.2.2.2.1 HA.out (fun i x hx => hq.2.2.2.2.2.2.2 i x hx))
  have HQ2 := Lib.hid hq
  clear hNe hb hq
  go_upto_region 2 with fail
  go_loopw [3] (fun i wr => ∃ k : Nat, k ≤ N ∧ net.length + k ≤ 400 ∧ i = .int .i64 k ∧ ∃ vk, Agn W w w1 wr g d1 d2 m net tk vs vt k vk) (fun i _ => N - (intOf i).toNat)
  case atStart => exact ⟨0, Nat.zero_le _, HN.out, rfl, vn, by rw [List.take_zero, List.append_nil]; exact HM.out.next HB.out, Nat.le_refl _, fun _ _ _ => rfl, fun j e => Or.inl (HM.out.on.lt j e).2⟩
  case round =>
    obtain ⟨k, hk, h400, rfl, vk, hG⟩ := hrel
    have hlen : (net ++ m.wait.take k).length = net.length + k := by rw [List.length_append, List.length_take, ← HW.out.1, ← HNE.out]; omega
    obtain ⟨An, kn, rfl⟩ := own_shape hG.mt.on
    obtain ⟨nl, hnl⟩ : ∃ nl, nl = (net ++ m.wait.take k).length := ⟨_, rfl⟩
    have HNL := Lib.hid (And.intro hnl (hnl.trans hlen))
    have c2 : wr.cell? ⟨g, 2, none⟩ = some (.slice An nl kn) := by rw [hnl]; exact hG.mt.blk.cell 2
    have HG := Lib.hid hG
    have hnlk : nl = net.length + k := hnl.trans hlen
    clear hlen hnl hG
    by_cases hlt : k < N
    · have i1 : (k : Int) < (N : Nat) := by omega
      by_cases h4 : nl < 400
      · have i2 : (nl : Int) < 400 := by omega
        have HLT := Lib.hid (And.intro hlt h4)
        clear hlt h4 hk hnlk
        obtain ⟨x, hx⟩ : ∃ x, M[k]? = some x := ⟨_, List.getElem?_eq_getElem (by rw [← HNE.out]; exact HLT.out.1)⟩
        have HX := Lib.hid hx
        have hat : ∀ w' : World, (∀ j, w.heap.size ≤ j → j < w1.heap.size → w'.heap[j]? = w1.heap[j]?) → Src w' x.A x.bs.length (u8s x.bs) := fun w' hk => ((HQ2.out.2.2.1 x (List.mem_of_getElem? HX.out)).keep (G := fun _ => True) fun j hj => ⟨trivial, hk j hj.1 hj.2⟩).src
        have HAT := Lib.hid hat
        have H256 := Lib.hid (HQ2.out.2.2.1 x (List.mem_of_getElem? HX.out)).1
        obtain ⟨gq, oq, hA, hgq, hit⟩ := row_at HQ2.out.2.1 HX.out
        subst hA
        have HIT := Lib.hid (And.intro hgq hit)
        have HS := Lib.hid (show ∀ w' : World, (∀ j, w.heap.size ≤ j → j < w1.heap.size → w'.heap[j]? = w1.heap[j]?) → w'.cell? ⟨g, 2, none⟩ = some (.slice An nl kn) → w'.cell? ⟨g, 2, none⟩ = some (.slice An nl kn) ∧ w'.cell? ⟨gq, oq + k * 2, none⟩ = some (.int .u64 (x.q : Nat)) ∧ w'.cell? ⟨gq, oq + k * 2 + 1, none⟩ = some (.slice x.A x.bs.length x.c) ∧ Src w' x.A x.bs.length (u8s x.bs) from fun w' hk hc => ⟨hc, (World.cell?_of_block (hk gq HIT.out.1.1 HIT.out.1.2)).trans HIT.out.2.1, (World.cell?_of_block (hk gq HIT.out.1.1 HIT.out.1.2)).trans HIT.out.2.2, HAT.out w' hk⟩)
        have hcc := HS.out wr HG.out.far c2
        have i3 : ¬ (k : Int) < 0 := by omega
        have i4 : (0 : Int) ≤ (k : Nat) := by omega
        have hk9 : k ≤ 100000 := by have := HLT.out; have := HNL.out.2; omega
        clear hx hat hit hgq
        go_upto_region 4 with fail
        refine wp_region_treeL (S := (fun w' => w'.cell? ⟨g, 2, none⟩ = some (.slice An nl kn) ∧ w'.cell? ⟨gq, oq + k * 2, none⟩ = some (.int .u64 (x.q : Nat)) ∧ w'.cell? ⟨gq, oq + k * 2 + 1, none⟩ = some (.slice x.A x.bs.length x.c) ∧ Src w' x.A x.bs.length (u8s x.bs))) (.take 0 (.take 1 (.take 2 (.take 3 (.take 4 (.take 5 (.take 6 (.take 7 (.take 8 (.take 9 (.take 10 (.take 11 (.take 12 (.take 13 (.take 14 (.take 15 (.take 16 (.one 17 (.one 18 (.take 19 (.take 20 (.last 21)))))))))))))))))))))) 21 (by kernel_rfl) (by kernel_rfl) (by kernel_rfl) (by kernel_rfl) (by kernel_rfl) (fun _ _ d _ _ h => by cases d <;> exact h) hcc (fun hHeld => ?_); simp only [Tree.map, List.getElem?_toArray, List.getElem?_cons_zero, List.getElem?_cons_succ]
        (repeat (first | (refine wpTree.take (v := undef) (Or.inr ⟨by rfl, rfl⟩) ?_; simp only [Act.put, List.setIfInBounds_toArray, List.set_cons_zero, List.set_cons_succ]) | (refine wpTree.take (v := ?_) (Or.inl ⟨by rfl, ?_⟩) ?_; rotate_left; (focus (intro _ hS; (try dsimp only at hS); go_split_ands; (try subst hS); go_simp; (try (with_reducible rfl)); done)); simp only [Act.put, List.setIfInBounds_toArray, List.set_cons_zero, List.set_cons_succ])))
        refine wpTree.take (v := .string (Byt.bstr x.bs)) (Or.inl ⟨by rfl, ?_⟩) ?_
        focus
          intro wq hS
          have cvq := Byt.conv_src wq x.A x.bs.length x.c x.bs hS.2.2.2 rfl H256.out
          go_simp
          done
        simp only [Act.put, List.setIfInBounds_toArray, List.set_cons_zero, List.set_cons_succ]
        (repeat (first | (refine wpTree.take (v := undef) (Or.inr ⟨by rfl, rfl⟩) ?_; simp only [Act.put, List.setIfInBounds_toArray, List.set_cons_zero, List.set_cons_succ]) | (refine wpTree.take (v := ?_) (Or.inl ⟨by rfl, ?_⟩) ?_; rotate_left; (focus (intro _ hS; (try dsimp only at hS); go_split_ands; (try subst hS); go_simp; (try (with_reducible rfl)); done)); simp only [Act.put, List.setIfInBounds_toArray, List.set_cons_zero, List.set_cons_succ])))
        have hb5 := ((Below.refl wr.heap.size wr).alloc (Nat.le_refl _) (.cells (Th.cells ⟨false, x.q, x.bs⟩).toArray 60)).drew
        have H5 := Lib.hid (HG.out.mt.next hb5)
        have hs5 : Src (wr.alloc (.cells (Th.cells ⟨false, x.q, x.bs⟩).toArray 60)).drew (some ⟨wr.heap.size, 0, none⟩) 1 (Th.cells ⟨false, x.q, x.bs⟩) := Or.inl ⟨_, rfl, fun j u hj => by
          rw [add_plain, Nat.zero_add, (Blk.new wr 60 (Th.cells ⟨false, x.q, x.bs⟩).toArray).drew.cell, List.getElem?_toArray]; exact hj⟩
        have hcl : (Th.cells ⟨false, x.q, x.bs⟩).toArray = #[.bool false, .int .u64 (x.q : Nat), .string (Byt.bstr x.bs)] := rfl
        have hf5 : ∀ j, w.heap.size ≤ j → j < w1.heap.size → (wr.alloc (.cells (Th.cells ⟨false, x.q, x.bs⟩).toArray 60)).drew.heap[j]? = w1.heap[j]? := fun j h1 h2 => (hb5.block j (by have := HG.out.size; omega)).trans (HG.out.far j h1 h2)
        have hz5 : w1.heap.size ≤ (wr.alloc (.cells (Th.cells ⟨false, x.q, x.bs⟩).toArray 60)).drew.heap.size := Nat.le_trans HG.out.size hb5.size
        have hc5 := HS.out _ hf5 (by rw [HNL.out.1]; exact H5.out.blk.cell 2)
        obtain ⟨w5, hw5⟩ : ∃ w5, w5 = (wr.alloc (.cells (Th.cells ⟨false, x.q, x.bs⟩).toArray 60)).drew := ⟨_, rfl⟩
        rw [← hw5] at hs5 hc5 H5 hf5 hz5
        rw [hcl] at hw5
        have HF5 := Lib.hid (And.intro hf5 hz5)
        refine wpTree.one (fun K hK => ?_)
        go_simp
        rw [← hw5]
        refine hK.out _ _ hc5 (fun _ => ?_)
        clear hK K hHeld hcl hw5 hc5 hb5 hf5 hz5
        (try simp only [Act.put, List.setIfInBounds_toArray, List.set_cons_zero, List.set_cons_succ])
        have hon : w5.ownsRow W.heap.size 60 3 (.slice An nl kn) nl (ths (net ++ m.wait.take k)) := by rw [HNL.out.1]; exact H5.out.on
        refine wpTree.one (fun K hK => ?_)
        refine step_app_th w5 (by rfl) _ _ rfl W.heap.size (.slice An nl kn) nl (ths (net ++ m.wait.take k)) rfl hon _ _ (Th.cells ⟨false, x.q, x.bs⟩) rfl rfl hs5 (th_ones _) (by have := HLT.out; omega) H5.out.b.size ?_
        intro v9 w9 hown hg hloc
        obtain ⟨A9, k9, rfl⟩ := slc_of hown
        have hb9 : Blk w9 g 56 #[.pointer (some ⟨d1, 0, none⟩), .pointer (some ⟨d2, 0, none⟩), .slice An nl kn, vs, vt] := by
          have hb0 := H5.out.blk
          have hgn := own_ne H5.out.on hb0 (by decide)
          rw [← HNL.out.1] at hb0 hgn
          exact (hg.block g H5.out.blk.lt hgn).trans hb0
        have hf9 : ∀ j, w.heap.size ≤ j → j < w1.heap.size → w9.heap[j]? = w1.heap[j]? := fun j h1 h2 => (hg.block j (by have := HF5.out.2; omega) (fun e => by have := HG.out.own j (by rw [← HNL.out.1]; exact e.symm); omega)).trans (HF5.out.1 j h1 h2)
        have hc9 := HS.out _ hf9 (hb9.cell 2)
        have c29 := hb9.cell 2
        have z29 := hb9.frozen 2
        refine hK.out _ _ hc9 (fun _ => ?_)
        clear hK K hs5 hon c2 hcc hc9
        (try simp only [Act.put, List.setIfInBounds_toArray, List.set_cons_zero, List.set_cons_succ])
        (repeat (first | (refine wpTree.take (v := undef) (Or.inr ⟨by rfl, rfl⟩) ?_; simp only [Act.put, List.setIfInBounds_toArray, List.set_cons_zero, List.set_cons_succ]) | (refine wpTree.take (v := ?_) (Or.inl ⟨by rfl, ?_⟩) ?_; rotate_left; (focus (intro _ hS; (try dsimp only at hS); go_split_ands; (try subst hS); go_simp; (try (with_reducible rfl)); done)); simp only [Act.put, List.setIfInBounds_toArray, List.set_cons_zero, List.set_cons_succ])))
        have HEND := Lib.hid (H5.out.pushN ⟨false, x.q, x.bs⟩ (by rw [← HNL.out.1]; exact hown) (by rw [← HNL.out.1]; exact hg) (by rw [← HNL.out.1]; exact hloc))
        have HF9 := Lib.hid (And.intro hf9 (And.intro hg.size (show ∀ j, (Value.slice A9 (nl + 1) k9).ownBlock = some j → j < w.heap.size ∨ w1.heap.size ≤ j from fun j e => by
          rcases hloc with h1 | h1
          · exact HG.out.own j (by rw [← HNL.out.1, ← h1]; exact e)
          · rw [h1] at e; simp only [Option.some.injEq] at e; have := HF5.out.2; omega)))
        have hgw := HM.out.blk.lt
        clear hown hg hloc hb9 hf9
        refine wpTree.last (fun K hK => ?_)
        go_simp
        refine hK.out _ _ ?_
        clear hK K
        (try simp only [Act.put, List.setIfInBounds_toArray, List.set_cons_zero, List.set_cons_succ])
        go_wp2_with fail
        go_roundw
        case rel =>
          refine ⟨k + 1, by have := HLT.out; omega, by have := HLT.out; have := HNL.out.2; omega, by go_num, _, ?_, ?_, fun j h1 h2 => ?_, HF9.out.2.2⟩
          · have e : net ++ m.wait.take (k + 1) = net ++ m.wait.take k ++ [⟨false, x.q, x.bs⟩] := by
              rw [List.take_add_one, HW.out.2 k x HX.out, List.append_assoc]; rfl
            rw [e]
            exact HEND.out
          · have := HF9.out.2.1; have := HF5.out.2; simp [World.setCell]; omega
          · exact (Below.heap_setCell w9 ⟨g, 2, none⟩ _ j (by show j ≠ g; omega)).trans (HF9.out.1 j h1 h2)
        case measure => have := HLT.out; simp [intOf]; omega
      · have i2 : ¬ (nl : Int) < 400 := by omega
        have HLT := Lib.hid (And.intro hlt h4)
        clear hlt h4 hk hnlk
        go_wp2_with fail
        refine ⟨rfl, .tuple #[], by simp [results, Try.results21, go_sem], rfl, .slice An nl kn, ?_⟩
        have e : m.again net = net ++ m.wait.take k := by
          unfold Mx.again
          have := HNL.out.2
          have := HLT.out.2
          rw [show 400 - net.length = k by omega]
        rw [e]
        have := HG.out.mt
        rwa [← HNL.out.1] at this
    · have i1 : ¬ (k : Int) < (N : Nat) := by omega
      have HLT := Lib.hid (show k = N by omega)
      clear hlt hk hnlk
      go_wp2_with fail
      refine ⟨rfl, .tuple #[], by simp [results, Try.results21, go_sem], rfl, .slice An nl kn, ?_⟩
      have e : m.again net = net ++ m.wait.take k := by
        unfold Mx.again
        rw [List.take_of_length_le (by rw [← HW.out.1, ← HNE.out]; omega), List.take_of_length_le (by rw [← HW.out.1, ← HNE.out, HLT.out]; exact Nat.le_refl _)]
      rw [e]
      have := HG.out.mt
      rwa [← HNL.out.1] at this
end Lk
end Go.Proofs.Ythiclefiliedjaa
