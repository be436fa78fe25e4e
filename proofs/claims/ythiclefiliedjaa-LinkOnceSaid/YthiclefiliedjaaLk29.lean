/-
link: two links and the net between them; begins.
-/
import Derived.Test.YthiclefiliedjaaLk28
namespace Go.Proofs.Ythiclefiliedjaa
open Go.RowKit
set_option linter.unusedSimpArgs false
set_option linter.unusedVariables false
namespace Lk
def Th.cells (x : Th) : List Value := [.bool x.k, .int .u64 (x.q : Nat), .string (Byt.bstr x.bs)]
def ths (l : List Th) : List Value := l.flatMap Th.cells
/-- The blocks of a meeting that are no link's. -/
def MP (g : Nat) (vn vs vt : Value) (k : Nat) : Prop := k = g ∨ vn.ownBlock = some k ∨ vs.ownBlock = some k ∨ vt.ownBlock = some k
/-- Memory of a meeting: its links, the net's things, what was sent, what was taken. -/
structure Mt (W w : World) (g d1 d2 : Nat) (l1 l2 : LS) (net : List Th) (sent tk : List (List Nat)) (vn vs vt : Value) : Prop where
  gl : W.heap.size ≤ g
  blk : Blk w g 56 #[.pointer (some ⟨d1, 0, none⟩), .pointer (some ⟨d2, 0, none⟩), vn, vs, vt]
  duo : Duo W (MP g vn vs vt) w d1 d2 l1 l2
  on : w.ownsRow W.heap.size 60 3 vn net.length (ths net)
  os : w.ownsRow W.heap.size 9 1 vs sent.length (strs sent)
  ot : w.ownsRow W.heap.size 9 1 vt tk.length (strs tk)
  ne : ∀ k, vs.ownBlock = some k → vt.ownBlock ≠ some k
section
variable {W w w' : World} {g d1 d2 : Nat} {l1 l2 l1' l2' : LS} {net : List Th} {sent tk : List (List Nat)} {vn vs vt : Value}
theorem Mt.next (h : Mt W w g d1 d2 l1 l2 net sent tk vn vs vt) (hb : Below w.heap.size w w') : Mt W w' g d1 d2 l1 l2 net sent tk vn vs vt :=
  ⟨h.gl, h.blk.next hb, h.duo.next hb, ownG_next h.on hb, ownG_next h.os hb, ownG_next h.ot hb, h.ne⟩
theorem Mt.b (h : Mt W w g d1 d2 l1 l2 net sent tk vn vs vt) : Below W.heap.size W w := h.duo.b
theorem Mt.turn (h : Mt W w g d1 d2 l1 l2 net sent tk vn vs vt) (hd : Duo W (MP g vn vs vt) w' d1 d2 l1' l2') (hk : Kept (MP g vn vs vt) w w') : Mt W w' g d1 d2 l1' l2' net sent tk vn vs vt :=
  ⟨h.gl, (hk g (Or.inl rfl)).trans h.blk, hd, ownG_keep h.on fun k e => hk k (Or.inr (Or.inl e)), ownG_keep h.os fun k e => hk k (Or.inr (Or.inr (Or.inl e))), ownG_keep h.ot fun k e => hk k (Or.inr (Or.inr (Or.inr e))), h.ne⟩
theorem own_shape {B n size : Nat} {e : TypeId} {v : Value} {xs : List Value} (h : w.ownsRow B e size v n xs) : ∃ A c, v = .slice A n c := by
  obtain ⟨_, ⟨rfl, h0⟩ | ⟨q, cap, cur, rfl, _⟩⟩ := h
  · exact ⟨none, 0, by rw [h0]⟩
  · exact ⟨_, cap, rfl⟩
theorem str_at {B n c i : Nat} {A : Option Addr} {l : List (List Nat)} {b : List Nat} (h : w.ownsRow B 9 1 (.slice A n c) n (strs l)) (hi : l[i]? = some b) (hn : i < n) : ∃ q, A = some ⟨q, 0, none⟩ ∧ w.cell? ⟨q, i, none⟩ = some (.string (Byt.bstr b)) := by
  have h0 := h
  obtain ⟨_, ⟨e, hz⟩ | ⟨q, cap, cur, e, _⟩⟩ := h
  · omega
  · simp only [Value.slice.injEq] at e
    obtain ⟨rfl, _⟩ := e
    refine ⟨q, rfl, ?_⟩
    have := h0.cells rfl i (.string (Byt.bstr b)) (by unfold strs; rw [List.getElem?_map, hi]; rfl)
    rwa [add_plain, Nat.zero_add] at this
end
set_option maxRecDepth 20000 in
set_option maxHeartbeats 4000000 in
theorem begins_any {W w : World} {g d1 d2 : Nat} {l1 l2 : LS} {m : Mx} {net : List Th} {vn vs vt : Value} (h : Mt W w g d1 d2 l1 l2 net m.sent (m.sent.take m.t) vn vs vt) (ho : m.Ok net) (hle : m.sent.length ≤ 80) :
    Calls Try.prog 23 #[.pointer (some ⟨g, 0, none⟩)] w fun e w' => e = .returned (.bool true) ∧ Below w.heap.size w w' := by
  have HM := Lib.hid h
  have HO := Lib.hid ho
  have htl : (m.sent.take m.t).length = m.t := by rw [List.length_take]; have := ho.ts; omega
  have hot := h.ot
  rw [htl] at hot
  obtain ⟨As, ks, rfl⟩ := own_shape h.os
  obtain ⟨At, kt, rfl⟩ := own_shape hot
  obtain ⟨n, hn⟩ : ∃ n, n = m.sent.length := ⟨_, rfl⟩
  have HN := Lib.hid (And.intro hn (show m.t ≤ n ∧ n ≤ 80 by rw [hn]; exact ⟨ho.ts, hle⟩))
  obtain ⟨t, ht⟩ : ∃ t, t = m.t := ⟨_, rfl⟩
  have HT := Lib.hid ht
  have c3 : w.cell? ⟨g, 3, none⟩ = some (.slice As n ks) := by rw [hn]; exact h.blk.cell 3
  have c4 : w.cell? ⟨g, 4, none⟩ = some (.slice At t kt) := by rw [ht]; exact h.blk.cell 4
  rw [← ht] at hot
  have HOT := Lib.hid hot
  have i1 : ¬ (n : Int) < (t : Nat) := by have := ho.ts; omega
  clear h hn ht hot ho hle
  go_enter Try.func23, Try.ntmps23
  go_upto_region 1 with fail
  refine wp_region_tree (S := (fun w' => w' = w.drew)) (.take 0 (.take 1 (.take 2 (.take 3 (.take 4 (.take 5 (.take 6 (.take 7 (.take 8 (.take 9 (.take 10 .nil))))))))))) 9999 (by kernel_rfl) (by kernel_rfl) (by kernel_rfl) (by kernel_rfl) (by kernel_rfl) (fun _ _ d _ _ h => by cases d <;> exact h) rfl (fun hHeld => ?_); simp only [Tree.map, List.getElem?_toArray, List.getElem?_cons_zero, List.getElem?_cons_succ]
  (repeat (first | (refine wpTree.take (v := undef) (Or.inr ⟨by rfl, rfl⟩) ?_; simp only [Act.put, List.setIfInBounds_toArray, List.set_cons_zero, List.set_cons_succ]) | (refine wpTree.take (v := ?_) (Or.inl ⟨by rfl, ?_⟩) ?_; rotate_left; (focus (intro _ hS; (try dsimp only at hS); go_split_ands; (try subst hS); go_simp; (try (with_reducible rfl)); done)); simp only [Act.put, List.setIfInBounds_toArray, List.set_cons_zero, List.set_cons_succ])))
  refine wpTree.done ?_
  go_upto_region 4 with fail
  clear i1 c3 c4
  have HK := Lib.hid (fun w' (hb : Below w.heap.size w w') => (show w'.cell? ⟨g, 3, none⟩ = some (.slice As n ks) ∧ w'.cell? ⟨g, 4, none⟩ = some (.slice At t kt) from ⟨by rw [HN.out.1]; exact (HM.out.next hb).blk.cell 3, by rw [HT.out]; exact (HM.out.next hb).blk.cell 4⟩))
  go_loopw [3] (fun i wr => ∃ k : Nat, k ≤ t ∧ i = .int .i64 k ∧ Below w.heap.size w wr) (fun i _ => t - (intOf i).toNat)
  case atStart => exact ⟨0, Nat.zero_le _, rfl, (Below.refl _ _).drew⟩
  case round =>
    obtain ⟨k, hk, rfl, hb⟩ := hrel
    have HB := Lib.hid hb
    obtain ⟨c3, c4⟩ := HK.out wr hb
    clear hb
    by_cases hlt : k < t
    · obtain ⟨b, hb1, hb2, hb3⟩ := once_begins HO.out (show k < m.t by rw [← HT.out]; exact hlt)
      obtain ⟨qs, hqs, cs⟩ := str_at (HM.out.next HB.out).os hb1 (by rw [← HN.out.1]; have := HN.out; have := HT.out; omega)
      obtain ⟨qt, hqt, ct⟩ := str_at (ownG_next HOT.out HB.out) (show (m.sent.take t)[k]? = some b by rw [HT.out]; exact hb2) hlt
      subst hqs hqt
      have i1 : (k : Int) < (t : Nat) := by omega
      have i2 : (k : Int) < (n : Nat) := by have := HN.out; have := HT.out; omega
      have i3 : ¬ (k : Int) < 0 := by omega
      have i4 : (0 : Int) ≤ (k : Nat) := by omega
      have ht80 : t ≤ 80 := by have := HN.out; have := HT.out; omega
      have HLT := Lib.hid hlt
      clear hb1 hb2 hb3 hlt hk
      go_upto_region 6 with fail
      refine wp_region_tree (S := (fun w' => w' = wr.drew)) (.take 0 (.take 1 (.take 2 (.take 3 (.take 4 (.take 5 (.take 6 (.take 7 (.take 8 (.take 9 (.take 10 (.take 11 (.take 12 (.take 13 (.take 14 .nil))))))))))))))) 9999 (by kernel_rfl) (by kernel_rfl) (by kernel_rfl) (by kernel_rfl) (by kernel_rfl) (fun _ _ d _ _ h => by cases d <;> exact h) rfl (fun hHeld => ?_); simp only [Tree.map, List.getElem?_toArray, List.getElem?_cons_zero, List.getElem?_cons_succ]
      (repeat (first | (refine wpTree.take (v := undef) (Or.inr ⟨by rfl, rfl⟩) ?_; simp only [Act.put, List.setIfInBounds_toArray, List.set_cons_zero, List.set_cons_succ]) | (refine wpTree.take (v := ?_) (Or.inl ⟨by rfl, ?_⟩) ?_; rotate_left; (focus (intro _ hS; (try dsimp only at hS); go_split_ands; (try subst hS); go_simp; (try (with_reducible rfl)); done)); simp only [Act.put, List.setIfInBounds_toArray, List.set_cons_zero, List.set_cons_succ])))
      refine wpTree.done ?_
      clear cs ct i2 i3 c3 c4
      go_wp2_with fail
      go_roundw
      case rel => exact ⟨k + 1, by have := HLT.out; omega, by go_num, HB.out.drew⟩
      case measure => have := HLT.out; simp [intOf]; omega
    · have i1 : ¬ (k : Int) < (t : Nat) := by omega
      clear hlt hk
      go_wp2_with fail
      go_ret
      exact ⟨rfl, HB.out⟩
end Lk
end Go.Proofs.Ythiclefiliedjaa
