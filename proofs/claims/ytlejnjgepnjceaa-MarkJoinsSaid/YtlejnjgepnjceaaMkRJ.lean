/-
The document's Join.
-/
import Derived.Test.YtlejnjgepnjceaaMkRef2
namespace Go.Proofs.Ytlejnjgepnjceaa
open Go.RowKit

set_option maxRecDepth 20000 in
set_option maxHeartbeats 8000000 in
theorem rjoin7_any (A : Option Addr) (n c : Nat) (l : List Mk) (W : World) (hn : l.length = n) (hlen : n ≤ 9223372036854775807) (h : RMks W A l) (hp : ∀ m ∈ l, m.p < 18446744073709551616) :
    Calls Try.prog 31 #[.slice A n c] W fun e W' => e = .returned (.agg (joinM l).rcells.toArray) ∧ Below W.heap.size W W' := by
  have HV := Lib.hid h
  have HN := Lib.hid hn
  have HP := Lib.hid hp
  have hb0 : Below W.heap.size W ((W.alloc (.cells #[.int .i64 0, .bool false, .int .u64 0] 63)).alloc (.cells #[.int .i64 0, .bool false, .int .u64 0] 63)) := ((Below.refl W.heap.size W).alloc (Nat.le_refl _) _).alloc (by simp) _
  have bA := (Blk.new W 63 #[.int .i64 0, .bool false, .int .u64 0]).alloc (.cells #[.int .i64 0, .bool false, .int .u64 0] 63)
  have bB := Blk.new (W.alloc (.cells #[.int .i64 0, .bool false, .int .u64 0] 63)) 63 #[.int .i64 0, .bool false, .int .u64 0]
  have hsz : (W.alloc (.cells #[.int .i64 0, .bool false, .int .u64 0] 63)).heap.size = W.heap.size + 1 := by simp
  rw [hsz] at bB
  have HB0 := Lib.hid hb0
  have HG0 := Lib.hid bA
  have HY0 := Lib.hid bB
  clear h hn hp hb0 hsz bA bB
  go_enter Try.func31, Try.ntmps31
  go_wp2_with fail
  go_loopw [4] (fun i wr => ∃ k : Nat, k ≤ n ∧ i = .int .i64 k ∧ Blk wr W.heap.size 63 #[.int .i64 0, .bool false, .int .u64 0] ∧ Blk wr (W.heap.size + 1) 63 (joinM (l.take k)).rcells.toArray ∧ Below W.heap.size W wr) (fun i _ => n - (intOf i).toNat)
  case atStart => exact ⟨0, Nat.zero_le _, rfl, HG0.out, by rw [List.take_zero, rmk_arr]; exact HY0.out, HB0.out⟩
  case round =>
    obtain ⟨k, hk, rfl, hg, hacc, hbl⟩ := hrel
    have HG := Lib.hid hg
    have HACC := Lib.hid hacc
    have HBL := Lib.hid hbl
    clear hg hacc hbl HG0 HY0 HB0
    by_cases hlt : k < n
    · have h1 : (k : Int) < (n : Nat) := by omega
      have hkl : k < l.length := by have := HN.out; omega
      obtain ⟨b, o, rfl, hbs, hcell⟩ := HV.out.resolve_left (by rintro rfl; simp at hkl)
      have hr := mrange_next (show Below W.heap.size W wr from HBL.out) (hcell k hkl)
      have HBS := Lib.hid hbs
      obtain ⟨m, hm⟩ : ∃ m, m = l[k] := ⟨_, rfl⟩
      rw [← hm] at hr
      have HEL := Lib.hid (show ∀ W', Below W.heap.size W W' → W'.cell? ⟨b, o + k * 3, none⟩ = some (.int .i64 m.f) ∧ W'.cell? ⟨b, o + k * 3 + 1, none⟩ = some (.bool m.h) ∧ W'.cell? ⟨b, o + k * 3 + 2, none⟩ = some (.int .u64 (m.p : Nat)) from fun W' hb => by
        have h := mrange_next hb (hcell k hkl)
        rw [← hm] at h
        exact ⟨h 0 _ rmk_0, h 1 _ rmk_1, h 2 _ rmk_2⟩)
      have HJ := Lib.hid (joinM_take l k hkl)
      rw [← hm] at HJ
      have HM := Lib.hid (show m.p < 18446744073709551616 by rw [hm]; exact HP.out _ (List.getElem_mem hkl))
      have HA := Lib.hid (show (joinM (l.take k)).p < 18446744073709551616 from joinM_lt _ (fun x hx => HP.out x (List.mem_of_mem_take hx)) _ (by decide))
      obtain ⟨acc, ha⟩ : ∃ acc, acc = joinM (l.take k) := ⟨_, rfl⟩
      rw [← ha] at HJ HA HACC
      clear ha hm hcell hbs
      go_wp2_with (first | (refine wpList_load_midm (by rfl) 63 _ rfl _ _ rfl m.rcells _ hr Try.underlying63 rfl (rmkinfo _) ?_))
      refine (rright_any m wr).mono ?_
      rintro e w2 ⟨rfl, hb⟩
      have HG2 := Lib.hid (HG.out.next hb)
      have HA2 := Lib.hid (HACC.out.next hb)
      have HB2 := Lib.hid (HBL.out.trans (hb.mono HBL.out.size))
      clear hb hr HG HACC HBL
      cases hq : rightM m with
      | false =>
        have HE := Lib.hid (show stepM acc m = acc by unfold stepM; rw [hq]; rfl)
        clear hq
        go_wp2_with fail
        go_roundw
        case rel => exact ⟨k + 1, by omega, by go_num, HG2.out, by rw [HJ.out, HE.out]; exact HA2.out, HB2.out⟩
        case measure => simp [intOf]; omega
      | true =>
        have HE := Lib.hid (show stepM acc m = bothM acc m by unfold stepM; rw [hq]; rfl)
        clear hq
        obtain ⟨e0, _, _⟩ := HEL.out _ HB2.out
        obtain ⟨_, o0, _, _⟩ := rmk_all HA2.out
        rw [rmk_arr] at HA2
        cases hfd : decide (acc.f < m.f) with
        | false =>
          go_wp2_with fail
          refine wp_region_tree (S := (fun W' => W'.cell? ⟨b, o + k * 3, none⟩ = some (.int .i64 m.f) ∧ W'.cell? ⟨W.heap.size + 1, 0, none⟩ = some (.int .i64 acc.f))) (.take 0 (.take 1 (.take 2 (.take 3 (.take 4 (.take 5 (.take 6 (.take 7 .nil)))))))) 9999 (by kernel_rfl) (by kernel_rfl) (by kernel_rfl) (by kernel_rfl) (by kernel_rfl) (fun _ _ d _ _ h => by cases d <;> exact h) ?_ (fun hHeld => ?_); (focus (exact ⟨e0, o0⟩)); simp only [Tree.map, List.getElem?_toArray, List.getElem?_cons_zero, List.getElem?_cons_succ]
          (repeat (first | (refine wpTree.take (v := undef) (Or.inr ⟨by rfl, rfl⟩) ?_; simp only [Act.put, List.setIfInBounds_toArray, List.set_cons_zero, List.set_cons_succ]) | (refine wpTree.take (v := ?_) (Or.inl ⟨by rfl, ?_⟩) ?_; rotate_left; (focus (intro _ hS; (try dsimp only at hS); go_split_ands; (try subst hS); go_simp; (try (with_reducible rfl)); done)); simp only [Act.put, List.setIfInBounds_toArray, List.set_cons_zero, List.set_cons_succ])))
          refine wpTree.done ?_
          clear hHeld e0 o0
          obtain ⟨F, hF⟩ : ∃ F, F = acc.f := ⟨_, rfl⟩
          have HF := Lib.hid (show F = (bothM acc m).f from by rw [bothM_f, if_neg (of_decide_eq_false hfd), hF])
          obtain ⟨w3, hw3⟩ : ∃ w3, w3 = w2.drew := ⟨_, rfl⟩
          have HG3 := Lib.hid (show Blk w3 W.heap.size 63 #[.int .i64 0, .bool false, .int .u64 0] from by rw [hw3]; exact HG2.out.drew)
          have HO3 := Lib.hid (show Blk w3 (W.heap.size + 1) 63 #[.int .i64 F, .bool acc.h, .int .u64 (acc.p : Nat)] from by rw [hw3, hF]; exact HA2.out.drew)
          have HB3 := Lib.hid (show Below W.heap.size W w3 from by rw [hw3]; exact HB2.out.drew)
          rw [← hw3]
          clear hw3 hF hfd HG2 HA2 HB2
          go_wp2_with fail
          obtain ⟨_, e1, e2⟩ := HEL.out _ HB3.out
          have o1 := HO3.out.cell 1
          have o2 := HO3.out.cell 2
          simp only [List.getElem?_toArray, List.getElem?_cons_succ, List.getElem?_cons_zero] at o1 o2
          have HPR := Lib.hid (bothM_pr (a := acc) (m := m))
          cases hmh : m.h with
          | false =>
            rw [hmh] at HPR e1
            refine wp_region_tree (S := (fun W' => W'.cell? ⟨b, o + k * 3 + 1, none⟩ = some (.bool false) ∧ W'.cell? ⟨b, o + k * 3 + 2, none⟩ = some (.int .u64 (m.p : Nat)) ∧ W'.cell? ⟨W.heap.size + 1, 1, none⟩ = some (.bool acc.h) ∧ W'.cell? ⟨W.heap.size + 1, 2, none⟩ = some (.int .u64 (acc.p : Nat)))) (.take 0 (.take 1 (.take 2 (.take 3 (.take 4 (.take 5 (.take 6 (.take 7 (.take 8 (.take 9 (.take 10 (.take 11 (.take 12 (.take 13 (.take 14 (.take 16 (.take 17 (.one 15 (.one 18 (.take 19 (.take 20 (.take 21 .nil)))))))))))))))))))))) 9999 (by kernel_rfl) (by kernel_rfl) (by kernel_rfl) (by kernel_rfl) (by kernel_rfl) (fun _ _ d _ _ h => by cases d <;> exact h) ?_ (fun hHeld => ?_); (focus (exact ⟨e1, e2, o1, o2⟩)); simp only [Tree.map, List.getElem?_toArray, List.getElem?_cons_zero, List.getElem?_cons_succ]
            (repeat (first | (refine wpTree.take (v := undef) (Or.inr ⟨by rfl, rfl⟩) ?_; simp only [Act.put, List.setIfInBounds_toArray, List.set_cons_zero, List.set_cons_succ]) | (refine wpTree.take (v := ?_) (Or.inl ⟨by rfl, ?_⟩) ?_; rotate_left; (focus (intro _ hS; (try dsimp only at hS); go_split_ands; (try subst hS); go_simp; (try (with_reducible rfl)); done)); simp only [Act.put, List.setIfInBounds_toArray, List.set_cons_zero, List.set_cons_succ])))
            refine wpTree.one (fun K hK => ?_)
            go_simp
            refine hK.out _ _ hHeld (fun _ => ?_)
            clear hK K
            (try simp only [Act.put, List.setIfInBounds_toArray, List.set_cons_zero, List.set_cons_succ])
            (repeat (first | (refine wpTree.take (v := undef) (Or.inr ⟨by rfl, rfl⟩) ?_; simp only [Act.put, List.setIfInBounds_toArray, List.set_cons_zero, List.set_cons_succ]) | (refine wpTree.take (v := ?_) (Or.inl ⟨by rfl, ?_⟩) ?_; rotate_left; (focus (intro _ hS; (try dsimp only at hS); go_split_ands; (try subst hS); go_simp; (try (with_reducible rfl)); done)); simp only [Act.put, List.setIfInBounds_toArray, List.set_cons_zero, List.set_cons_succ])))
            refine wpTree.one (fun K hK => ?_)
            go_simp
            refine hK.out _ _ hHeld (fun _ => ?_)
            clear hK K
            (try simp only [Act.put, List.setIfInBounds_toArray, List.set_cons_zero, List.set_cons_succ])
            (repeat (first | (refine wpTree.take (v := undef) (Or.inr ⟨by rfl, rfl⟩) ?_; simp only [Act.put, List.setIfInBounds_toArray, List.set_cons_zero, List.set_cons_succ]) | (refine wpTree.take (v := ?_) (Or.inl ⟨by rfl, ?_⟩) ?_; rotate_left; (focus (intro _ hS; (try dsimp only at hS); go_split_ands; (try subst hS); go_simp; (try (with_reducible rfl)); done)); simp only [Act.put, List.setIfInBounds_toArray, List.set_cons_zero, List.set_cons_succ])))
            refine wpTree.done ?_
            clear hHeld e1 e2 o1 o2
            have HE2 := Lib.hid (show bothM acc m = ⟨F, acc.h, acc.p⟩ from by have h := HPR.out; simp at h; exact mk_ext HF.out.symm h.1 h.2)
            clear hmh
            go_wp2_with fail
            go_roundw
            case rel => exact ⟨k + 1, by omega, by go_num, HG3.out.drew, by rw [HJ.out, HE.out, HE2.out, rmk_arr]; exact HO3.out.drew, by first | exact HB3.out.drew | exact HB3.out.drew.drew | exact HB3.out.drew.drew.drew⟩
            case measure => simp [intOf]; omega
          | true =>
            rw [hmh] at HPR e1
            cases hah : acc.h with
            | false =>
              rw [hah] at HPR o1 HO3
              refine wp_region_tree (S := (fun W' => W'.cell? ⟨b, o + k * 3 + 1, none⟩ = some (.bool true) ∧ W'.cell? ⟨b, o + k * 3 + 2, none⟩ = some (.int .u64 (m.p : Nat)) ∧ W'.cell? ⟨W.heap.size + 1, 1, none⟩ = some (.bool false) ∧ W'.cell? ⟨W.heap.size + 1, 2, none⟩ = some (.int .u64 (acc.p : Nat)))) (.take 0 (.take 1 (.take 2 (.take 3 (.take 4 (.take 5 (.take 6 (.take 7 (.take 8 (.take 9 (.take 10 (.take 11 (.take 12 (.take 13 (.take 14 (.take 16 (.take 17 (.one 15 (.one 18 (.take 19 (.take 20 (.take 21 .nil)))))))))))))))))))))) 9999 (by kernel_rfl) (by kernel_rfl) (by kernel_rfl) (by kernel_rfl) (by kernel_rfl) (fun _ _ d _ _ h => by cases d <;> exact h) ?_ (fun hHeld => ?_); (focus (exact ⟨e1, e2, o1, o2⟩)); simp only [Tree.map, List.getElem?_toArray, List.getElem?_cons_zero, List.getElem?_cons_succ]
              (repeat (first | (refine wpTree.take (v := undef) (Or.inr ⟨by rfl, rfl⟩) ?_; simp only [Act.put, List.setIfInBounds_toArray, List.set_cons_zero, List.set_cons_succ]) | (refine wpTree.take (v := ?_) (Or.inl ⟨by rfl, ?_⟩) ?_; rotate_left; (focus (intro _ hS; (try dsimp only at hS); go_split_ands; (try subst hS); go_simp; (try (with_reducible rfl)); done)); simp only [Act.put, List.setIfInBounds_toArray, List.set_cons_zero, List.set_cons_succ])))
              refine wpTree.one (fun K hK => ?_)
              go_simp
              refine hK.out _ _ hHeld (fun _ => ?_)
              clear hK K
              (try simp only [Act.put, List.setIfInBounds_toArray, List.set_cons_zero, List.set_cons_succ])
              (repeat (first | (refine wpTree.take (v := undef) (Or.inr ⟨by rfl, rfl⟩) ?_; simp only [Act.put, List.setIfInBounds_toArray, List.set_cons_zero, List.set_cons_succ]) | (refine wpTree.take (v := ?_) (Or.inl ⟨by rfl, ?_⟩) ?_; rotate_left; (focus (intro _ hS; (try dsimp only at hS); go_split_ands; (try subst hS); go_simp; (try (with_reducible rfl)); done)); simp only [Act.put, List.setIfInBounds_toArray, List.set_cons_zero, List.set_cons_succ])))
              refine wpTree.one (fun K hK => ?_)
              go_simp
              refine hK.out _ _ hHeld (fun _ => ?_)
              clear hK K
              (try simp only [Act.put, List.setIfInBounds_toArray, List.set_cons_zero, List.set_cons_succ])
              (repeat (first | (refine wpTree.take (v := undef) (Or.inr ⟨by rfl, rfl⟩) ?_; simp only [Act.put, List.setIfInBounds_toArray, List.set_cons_zero, List.set_cons_succ]) | (refine wpTree.take (v := ?_) (Or.inl ⟨by rfl, ?_⟩) ?_; rotate_left; (focus (intro _ hS; (try dsimp only at hS); go_split_ands; (try subst hS); go_simp; (try (with_reducible rfl)); done)); simp only [Act.put, List.setIfInBounds_toArray, List.set_cons_zero, List.set_cons_succ])))
              refine wpTree.done ?_
              clear hHeld e1 o1 o2
              have HE2 := Lib.hid (show bothM acc m = ⟨F, true, m.p⟩ from by have h := HPR.out; simp at h; exact mk_ext HF.out.symm h.1 h.2)
              clear hmh hah
              go_wp2_with fail
              have hd1 := (HEL.out _ HB3.out.drew.drew).2.2
              have HB4 := Lib.hid HB3.out.drew.drew
              have hne : b ≠ W.heap.size + 1 := by have := HBS.out; omega
              refine wp_region_tree (S := (fun W' => W'.cell? ⟨b, o + k * 3 + 2, none⟩ = some (.int .u64 (m.p : Nat)))) (.take 0 (.take 1 (.take 2 (.take 3 (.take 4 (.take 5 (.one 6 (.take 7 (.one 8 .nil))))))))) 9999 (by kernel_rfl) (by kernel_rfl) (by kernel_rfl) (by kernel_rfl) (by kernel_rfl) (fun _ _ d _ _ h => by cases d <;> exact h) ?_ (fun hHeld => ?_); (focus (exact hd1)); simp only [Tree.map, List.getElem?_toArray, List.getElem?_cons_zero, List.getElem?_cons_succ]
              (repeat (first | (refine wpTree.take (v := undef) (Or.inr ⟨by rfl, rfl⟩) ?_; simp only [Act.put, List.setIfInBounds_toArray, List.set_cons_zero, List.set_cons_succ]) | (refine wpTree.take (v := ?_) (Or.inl ⟨by rfl, ?_⟩) ?_; rotate_left; (focus (intro _ hS; (try dsimp only at hS); go_split_ands; (try subst hS); go_simp; (try (with_reducible rfl)); done)); simp only [Act.put, List.setIfInBounds_toArray, List.set_cons_zero, List.set_cons_succ])))
              refine wpTree.one (fun K hK => ?_)
              have z1 := HO3.out.drew.drew.cell 1
              have z2 := HO3.out.drew.drew.frozen 1
              simp only [List.getElem?_toArray, List.getElem?_cons_succ, List.getElem?_cons_zero] at z1
              go_simp
              have q1 := HO3.out.setCell 1 (.bool true)
              have q2 : Below W.heap.size W (w3.setCell ⟨W.heap.size + 1, 1, none⟩ (.bool true)) := HB3.out.setCell (by show W.heap.size ≤ W.heap.size + 1; omega) _
              have q3 : Blk (w3.setCell ⟨W.heap.size + 1, 1, none⟩ (.bool true)) W.heap.size 63 #[.int .i64 0, .bool false, .int .u64 0] := HG3.out.far (by show W.heap.size ≠ W.heap.size + 1; omega) _
              have q4 := (HEL.out _ q2).2.2
              obtain ⟨w5, hw5⟩ : ∃ w5, w5 = w3.setCell ⟨W.heap.size + 1, 1, none⟩ (.bool true) := ⟨_, rfl⟩
              rw [← hw5] at q1 q2 q3 q4 ⊢
              clear hw5 z1 z2
              have HO5 := Lib.hid (show Blk w5 (W.heap.size + 1) 63 #[.int .i64 F, .bool true, .int .u64 (acc.p : Nat)] from q1)
              have HB5 := Lib.hid q2
              have HG5 := Lib.hid q3
              refine hK.out _ _ q4 (fun hHeld' => ?_)
              clear hK K hHeld q1 q2 q3 hHeld'
              have hHeld := q4
              (try simp only [Act.put, List.setIfInBounds_toArray, List.set_cons_zero, List.set_cons_succ])
              (repeat (first | (refine wpTree.take (v := undef) (Or.inr ⟨by rfl, rfl⟩) ?_; simp only [Act.put, List.setIfInBounds_toArray, List.set_cons_zero, List.set_cons_succ]) | (refine wpTree.take (v := ?_) (Or.inl ⟨by rfl, ?_⟩) ?_; rotate_left; (focus (intro _ hS; (try dsimp only at hS); go_split_ands; (try subst hS); go_simp; (try (with_reducible rfl)); done)); simp only [Act.put, List.setIfInBounds_toArray, List.set_cons_zero, List.set_cons_succ])))
              refine wpTree.one (fun K hK => ?_)
              have z1 := HO5.out.cell 2
              have z2 := HO5.out.frozen 2
              simp only [List.getElem?_toArray, List.getElem?_cons_succ, List.getElem?_cons_zero] at z1
              go_simp
              have q1 := HO5.out.setCell 2 (.int .u64 (m.p : Nat))
              have q2 : Below W.heap.size W (w5.setCell ⟨W.heap.size + 1, 2, none⟩ (.int .u64 (m.p : Nat))) := HB5.out.setCell (by show W.heap.size ≤ W.heap.size + 1; omega) _
              have q3 : Blk (w5.setCell ⟨W.heap.size + 1, 2, none⟩ (.int .u64 (m.p : Nat))) W.heap.size 63 #[.int .i64 0, .bool false, .int .u64 0] := HG5.out.far (by show W.heap.size ≠ W.heap.size + 1; omega) _
              have q5 := (HEL.out _ q2).2.2
              obtain ⟨w6, hw6⟩ : ∃ w6, w6 = w5.setCell ⟨W.heap.size + 1, 2, none⟩ (.int .u64 (m.p : Nat)) := ⟨_, rfl⟩
              rw [← hw6] at q1 q2 q3 q5 ⊢
              clear hw6 z1 z2 q4
              have HO6 := Lib.hid (show Blk w6 (W.heap.size + 1) 63 #[.int .i64 F, .bool true, .int .u64 (m.p : Nat)] from q1)
              have HB6 := Lib.hid q2
              have HG6 := Lib.hid q3
              refine hK.out _ _ q5 (fun _ => ?_)
              clear hK K hHeld q1 q2 q3 q5
              refine wpTree.done ?_
              go_wp2_with fail
              go_roundw
              case rel => exact ⟨k + 1, by omega, by go_num, HG6.out, by rw [HJ.out, HE.out, HE2.out, rmk_arr]; exact HO6.out, by first | exact HB6.out | exact HB6.out.drew | exact HB6.out.drew.drew | exact HB6.out.drew.drew.drew⟩
              case measure => simp [intOf]; omega
            | true =>
              rw [hah] at HPR o1 HO3
              cases hkd : decide (Num.key acc.p < Num.key m.p) with
              | false =>
                rw [hkd] at HPR
                have hki : decide (((Num.key acc.p : Nat) : Int) < (Num.key m.p : Nat)) = false := (Tot.cast_lt _ _).trans hkd
                refine wp_region_tree (S := (fun W' => W'.cell? ⟨b, o + k * 3 + 1, none⟩ = some (.bool true) ∧ W'.cell? ⟨b, o + k * 3 + 2, none⟩ = some (.int .u64 (m.p : Nat)) ∧ W'.cell? ⟨W.heap.size + 1, 1, none⟩ = some (.bool true) ∧ W'.cell? ⟨W.heap.size + 1, 2, none⟩ = some (.int .u64 (acc.p : Nat)))) (.take 0 (.take 1 (.take 2 (.take 3 (.take 4 (.take 5 (.take 6 (.take 7 (.take 8 (.take 9 (.take 10 (.take 11 (.take 12 (.take 13 (.take 14 (.take 16 (.take 17 (.one 15 (.one 18 (.take 19 (.take 20 (.take 21 .nil)))))))))))))))))))))) 9999 (by kernel_rfl) (by kernel_rfl) (by kernel_rfl) (by kernel_rfl) (by kernel_rfl) (fun _ _ d _ _ h => by cases d <;> exact h) ?_ (fun hHeld => ?_); (focus (exact ⟨e1, e2, o1, o2⟩)); simp only [Tree.map, List.getElem?_toArray, List.getElem?_cons_zero, List.getElem?_cons_succ]
                (repeat (first | (refine wpTree.take (v := undef) (Or.inr ⟨by rfl, rfl⟩) ?_; simp only [Act.put, List.setIfInBounds_toArray, List.set_cons_zero, List.set_cons_succ]) | (refine wpTree.take (v := ?_) (Or.inl ⟨by rfl, ?_⟩) ?_; rotate_left; (focus (intro _ hS; (try dsimp only at hS); go_split_ands; (try subst hS); go_simp; (try (with_reducible rfl)); done)); simp only [Act.put, List.setIfInBounds_toArray, List.set_cons_zero, List.set_cons_succ])))
                refine wpTree.one (fun K hK => ?_)
                go_simp
                go_at_call 80
                refine (rkey7_any _ _ HM.out).mono ?_
                rintro e w' ⟨rfl, rfl⟩
                refine hK.out _ _ hHeld (fun _ => ?_)
                clear hK K
                (try simp only [Act.put, List.setIfInBounds_toArray, List.set_cons_zero, List.set_cons_succ])
                (repeat (first | (refine wpTree.take (v := undef) (Or.inr ⟨by rfl, rfl⟩) ?_; simp only [Act.put, List.setIfInBounds_toArray, List.set_cons_zero, List.set_cons_succ]) | (refine wpTree.take (v := ?_) (Or.inl ⟨by rfl, ?_⟩) ?_; rotate_left; (focus (intro _ hS; (try dsimp only at hS); go_split_ands; (try subst hS); go_simp; (try (with_reducible rfl)); done)); simp only [Act.put, List.setIfInBounds_toArray, List.set_cons_zero, List.set_cons_succ])))
                refine wpTree.one (fun K hK => ?_)
                go_simp
                go_at_call 80
                refine (rkey7_any _ _ HA.out).mono ?_
                rintro e w' ⟨rfl, rfl⟩
                refine hK.out _ _ hHeld (fun _ => ?_)
                clear hK K
                (try simp only [Act.put, List.setIfInBounds_toArray, List.set_cons_zero, List.set_cons_succ])
                (repeat (first | (refine wpTree.take (v := undef) (Or.inr ⟨by rfl, rfl⟩) ?_; simp only [Act.put, List.setIfInBounds_toArray, List.set_cons_zero, List.set_cons_succ]) | (refine wpTree.take (v := ?_) (Or.inl ⟨by rfl, ?_⟩) ?_; rotate_left; (focus (intro _ hS; (try dsimp only at hS); go_split_ands; (try subst hS); go_simp; (try (with_reducible rfl)); done)); simp only [Act.put, List.setIfInBounds_toArray, List.set_cons_zero, List.set_cons_succ])))
                refine wpTree.done ?_
                clear hHeld e1 e2 o1 o2
                have HE2 := Lib.hid (show bothM acc m = ⟨F, true, acc.p⟩ from by have h := HPR.out; simp at h; exact mk_ext HF.out.symm h.1 h.2)
                clear hmh hah hkd
                go_wp2_with fail
                go_roundw
                case rel => exact ⟨k + 1, by omega, by go_num, HG3.out.drew, by rw [HJ.out, HE.out, HE2.out, rmk_arr]; exact HO3.out.drew, by first | exact HB3.out.drew | exact HB3.out.drew.drew | exact HB3.out.drew.drew.drew⟩
                case measure => simp [intOf]; omega
              | true =>
                rw [hkd] at HPR
                have hki : decide (((Num.key acc.p : Nat) : Int) < (Num.key m.p : Nat)) = true := (Tot.cast_lt _ _).trans hkd
                refine wp_region_tree (S := (fun W' => W'.cell? ⟨b, o + k * 3 + 1, none⟩ = some (.bool true) ∧ W'.cell? ⟨b, o + k * 3 + 2, none⟩ = some (.int .u64 (m.p : Nat)) ∧ W'.cell? ⟨W.heap.size + 1, 1, none⟩ = some (.bool true) ∧ W'.cell? ⟨W.heap.size + 1, 2, none⟩ = some (.int .u64 (acc.p : Nat)))) (.take 0 (.take 1 (.take 2 (.take 3 (.take 4 (.take 5 (.take 6 (.take 7 (.take 8 (.take 9 (.take 10 (.take 11 (.take 12 (.take 13 (.take 14 (.take 16 (.take 17 (.one 15 (.one 18 (.take 19 (.take 20 (.take 21 .nil)))))))))))))))))))))) 9999 (by kernel_rfl) (by kernel_rfl) (by kernel_rfl) (by kernel_rfl) (by kernel_rfl) (fun _ _ d _ _ h => by cases d <;> exact h) ?_ (fun hHeld => ?_); (focus (exact ⟨e1, e2, o1, o2⟩)); simp only [Tree.map, List.getElem?_toArray, List.getElem?_cons_zero, List.getElem?_cons_succ]
                (repeat (first | (refine wpTree.take (v := undef) (Or.inr ⟨by rfl, rfl⟩) ?_; simp only [Act.put, List.setIfInBounds_toArray, List.set_cons_zero, List.set_cons_succ]) | (refine wpTree.take (v := ?_) (Or.inl ⟨by rfl, ?_⟩) ?_; rotate_left; (focus (intro _ hS; (try dsimp only at hS); go_split_ands; (try subst hS); go_simp; (try (with_reducible rfl)); done)); simp only [Act.put, List.setIfInBounds_toArray, List.set_cons_zero, List.set_cons_succ])))
                refine wpTree.one (fun K hK => ?_)
                go_simp
                go_at_call 80
                refine (rkey7_any _ _ HM.out).mono ?_
                rintro e w' ⟨rfl, rfl⟩
                refine hK.out _ _ hHeld (fun _ => ?_)
                clear hK K
                (try simp only [Act.put, List.setIfInBounds_toArray, List.set_cons_zero, List.set_cons_succ])
                (repeat (first | (refine wpTree.take (v := undef) (Or.inr ⟨by rfl, rfl⟩) ?_; simp only [Act.put, List.setIfInBounds_toArray, List.set_cons_zero, List.set_cons_succ]) | (refine wpTree.take (v := ?_) (Or.inl ⟨by rfl, ?_⟩) ?_; rotate_left; (focus (intro _ hS; (try dsimp only at hS); go_split_ands; (try subst hS); go_simp; (try (with_reducible rfl)); done)); simp only [Act.put, List.setIfInBounds_toArray, List.set_cons_zero, List.set_cons_succ])))
                refine wpTree.one (fun K hK => ?_)
                go_simp
                go_at_call 80
                refine (rkey7_any _ _ HA.out).mono ?_
                rintro e w' ⟨rfl, rfl⟩
                refine hK.out _ _ hHeld (fun _ => ?_)
                clear hK K
                (try simp only [Act.put, List.setIfInBounds_toArray, List.set_cons_zero, List.set_cons_succ])
                (repeat (first | (refine wpTree.take (v := undef) (Or.inr ⟨by rfl, rfl⟩) ?_; simp only [Act.put, List.setIfInBounds_toArray, List.set_cons_zero, List.set_cons_succ]) | (refine wpTree.take (v := ?_) (Or.inl ⟨by rfl, ?_⟩) ?_; rotate_left; (focus (intro _ hS; (try dsimp only at hS); go_split_ands; (try subst hS); go_simp; (try (with_reducible rfl)); done)); simp only [Act.put, List.setIfInBounds_toArray, List.set_cons_zero, List.set_cons_succ])))
                refine wpTree.done ?_
                clear hHeld e1 o1 o2
                have HE2 := Lib.hid (show bothM acc m = ⟨F, true, m.p⟩ from by have h := HPR.out; simp at h; exact mk_ext HF.out.symm h.1 h.2)
                clear hmh hah hkd hki
                go_wp2_with fail
                have hd1 := (HEL.out _ HB3.out.drew.drew).2.2
                have HB4 := Lib.hid HB3.out.drew.drew
                have hne : b ≠ W.heap.size + 1 := by have := HBS.out; omega
                refine wp_region_tree (S := (fun W' => W'.cell? ⟨b, o + k * 3 + 2, none⟩ = some (.int .u64 (m.p : Nat)))) (.take 0 (.take 1 (.take 2 (.take 3 (.take 4 (.take 5 (.one 6 (.take 7 (.one 8 .nil))))))))) 9999 (by kernel_rfl) (by kernel_rfl) (by kernel_rfl) (by kernel_rfl) (by kernel_rfl) (fun _ _ d _ _ h => by cases d <;> exact h) ?_ (fun hHeld => ?_); (focus (exact hd1)); simp only [Tree.map, List.getElem?_toArray, List.getElem?_cons_zero, List.getElem?_cons_succ]
                (repeat (first | (refine wpTree.take (v := undef) (Or.inr ⟨by rfl, rfl⟩) ?_; simp only [Act.put, List.setIfInBounds_toArray, List.set_cons_zero, List.set_cons_succ]) | (refine wpTree.take (v := ?_) (Or.inl ⟨by rfl, ?_⟩) ?_; rotate_left; (focus (intro _ hS; (try dsimp only at hS); go_split_ands; (try subst hS); go_simp; (try (with_reducible rfl)); done)); simp only [Act.put, List.setIfInBounds_toArray, List.set_cons_zero, List.set_cons_succ])))
                refine wpTree.one (fun K hK => ?_)
                have z1 := HO3.out.drew.drew.cell 1
                have z2 := HO3.out.drew.drew.frozen 1
                simp only [List.getElem?_toArray, List.getElem?_cons_succ, List.getElem?_cons_zero] at z1
                go_simp
                have q1 := HO3.out.setCell 1 (.bool true)
                have q2 : Below W.heap.size W (w3.setCell ⟨W.heap.size + 1, 1, none⟩ (.bool true)) := HB3.out.setCell (by show W.heap.size ≤ W.heap.size + 1; omega) _
                have q3 : Blk (w3.setCell ⟨W.heap.size + 1, 1, none⟩ (.bool true)) W.heap.size 63 #[.int .i64 0, .bool false, .int .u64 0] := HG3.out.far (by show W.heap.size ≠ W.heap.size + 1; omega) _
                have q4 := (HEL.out _ q2).2.2
                obtain ⟨w5, hw5⟩ : ∃ w5, w5 = w3.setCell ⟨W.heap.size + 1, 1, none⟩ (.bool true) := ⟨_, rfl⟩
                rw [← hw5] at q1 q2 q3 q4 ⊢
                clear hw5 z1 z2
                have HO5 := Lib.hid (show Blk w5 (W.heap.size + 1) 63 #[.int .i64 F, .bool true, .int .u64 (acc.p : Nat)] from q1)
                have HB5 := Lib.hid q2
                have HG5 := Lib.hid q3
                refine hK.out _ _ q4 (fun hHeld' => ?_)
                clear hK K hHeld q1 q2 q3 hHeld'
                have hHeld := q4
                (try simp only [Act.put, List.setIfInBounds_toArray, List.set_cons_zero, List.set_cons_succ])
                (repeat (first | (refine wpTree.take (v := undef) (Or.inr ⟨by rfl, rfl⟩) ?_; simp only [Act.put, List.setIfInBounds_toArray, List.set_cons_zero, List.set_cons_succ]) | (refine wpTree.take (v := ?_) (Or.inl ⟨by rfl, ?_⟩) ?_; rotate_left; (focus (intro _ hS; (try dsimp only at hS); go_split_ands; (try subst hS); go_simp; (try (with_reducible rfl)); done)); simp only [Act.put, List.setIfInBounds_toArray, List.set_cons_zero, List.set_cons_succ])))
                refine wpTree.one (fun K hK => ?_)
                have z1 := HO5.out.cell 2
                have z2 := HO5.out.frozen 2
                simp only [List.getElem?_toArray, List.getElem?_cons_succ, List.getElem?_cons_zero] at z1
                go_simp
                have q1 := HO5.out.setCell 2 (.int .u64 (m.p : Nat))
                have q2 : Below W.heap.size W (w5.setCell ⟨W.heap.size + 1, 2, none⟩ (.int .u64 (m.p : Nat))) := HB5.out.setCell (by show W.heap.size ≤ W.heap.size + 1; omega) _
                have q3 : Blk (w5.setCell ⟨W.heap.size + 1, 2, none⟩ (.int .u64 (m.p : Nat))) W.heap.size 63 #[.int .i64 0, .bool false, .int .u64 0] := HG5.out.far (by show W.heap.size ≠ W.heap.size + 1; omega) _
                have q5 := (HEL.out _ q2).2.2
                obtain ⟨w6, hw6⟩ : ∃ w6, w6 = w5.setCell ⟨W.heap.size + 1, 2, none⟩ (.int .u64 (m.p : Nat)) := ⟨_, rfl⟩
                rw [← hw6] at q1 q2 q3 q5 ⊢
                clear hw6 z1 z2 q4
                have HO6 := Lib.hid (show Blk w6 (W.heap.size + 1) 63 #[.int .i64 F, .bool true, .int .u64 (m.p : Nat)] from q1)
                have HB6 := Lib.hid q2
                have HG6 := Lib.hid q3
                refine hK.out _ _ q5 (fun _ => ?_)
                clear hK K hHeld q1 q2 q3 q5
                refine wpTree.done ?_
                go_wp2_with fail
                go_roundw
                case rel => exact ⟨k + 1, by omega, by go_num, HG6.out, by rw [HJ.out, HE.out, HE2.out, rmk_arr]; exact HO6.out, by first | exact HB6.out | exact HB6.out.drew | exact HB6.out.drew.drew | exact HB6.out.drew.drew.drew⟩
                case measure => simp [intOf]; omega
        | true =>
          go_wp2_with fail
          refine wp_region_tree (S := (fun W' => W'.cell? ⟨b, o + k * 3, none⟩ = some (.int .i64 m.f) ∧ W'.cell? ⟨W.heap.size + 1, 0, none⟩ = some (.int .i64 acc.f))) (.take 0 (.take 1 (.take 2 (.take 3 (.take 4 (.take 5 (.take 6 (.take 7 .nil)))))))) 9999 (by kernel_rfl) (by kernel_rfl) (by kernel_rfl) (by kernel_rfl) (by kernel_rfl) (fun _ _ d _ _ h => by cases d <;> exact h) ?_ (fun hHeld => ?_); (focus (exact ⟨e0, o0⟩)); simp only [Tree.map, List.getElem?_toArray, List.getElem?_cons_zero, List.getElem?_cons_succ]
          (repeat (first | (refine wpTree.take (v := undef) (Or.inr ⟨by rfl, rfl⟩) ?_; simp only [Act.put, List.setIfInBounds_toArray, List.set_cons_zero, List.set_cons_succ]) | (refine wpTree.take (v := ?_) (Or.inl ⟨by rfl, ?_⟩) ?_; rotate_left; (focus (intro _ hS; (try dsimp only at hS); go_split_ands; (try subst hS); go_simp; (try (with_reducible rfl)); done)); simp only [Act.put, List.setIfInBounds_toArray, List.set_cons_zero, List.set_cons_succ])))
          refine wpTree.done ?_
          clear hHeld
          have z1 := HA2.out.frozen 0
          go_wp2_with fail
          have q1 := HA2.out.setCell 0 (.int .i64 m.f)
          have q2 : Below W.heap.size W (w2.setCell ⟨W.heap.size + 1, 0, none⟩ (.int .i64 m.f)) := HB2.out.setCell (by show W.heap.size ≤ W.heap.size + 1; omega) _
          have q3 : Blk (w2.setCell ⟨W.heap.size + 1, 0, none⟩ (.int .i64 m.f)) W.heap.size 63 #[.int .i64 0, .bool false, .int .u64 0] := HG2.out.far (by show W.heap.size ≠ W.heap.size + 1; omega) _
          obtain ⟨F, hF⟩ : ∃ F, F = m.f := ⟨_, rfl⟩
          have HF := Lib.hid (show F = (bothM acc m).f from by rw [bothM_f, if_pos (of_decide_eq_true hfd), hF])
          obtain ⟨w3, hw3⟩ : ∃ w3, w3 = w2.setCell ⟨W.heap.size + 1, 0, none⟩ (.int .i64 m.f) := ⟨_, rfl⟩
          rw [← hw3] at q1 q2 q3 ⊢
          have HG3 := Lib.hid q3
          have HO3 := Lib.hid (show Blk w3 (W.heap.size + 1) 63 #[.int .i64 F, .bool acc.h, .int .u64 (acc.p : Nat)] from by rw [hF]; exact q1)
          have HB3 := Lib.hid q2
          clear hw3 hF hfd HG2 HA2 HB2 q1 q2 q3 z1 e0 o0
          obtain ⟨_, e1, e2⟩ := HEL.out _ HB3.out
          have o1 := HO3.out.cell 1
          have o2 := HO3.out.cell 2
          simp only [List.getElem?_toArray, List.getElem?_cons_succ, List.getElem?_cons_zero] at o1 o2
          have HPR := Lib.hid (bothM_pr (a := acc) (m := m))
          cases hmh : m.h with
          | false =>
            rw [hmh] at HPR e1
            refine wp_region_tree (S := (fun W' => W'.cell? ⟨b, o + k * 3 + 1, none⟩ = some (.bool false) ∧ W'.cell? ⟨b, o + k * 3 + 2, none⟩ = some (.int .u64 (m.p : Nat)) ∧ W'.cell? ⟨W.heap.size + 1, 1, none⟩ = some (.bool acc.h) ∧ W'.cell? ⟨W.heap.size + 1, 2, none⟩ = some (.int .u64 (acc.p : Nat)))) (.take 0 (.take 1 (.take 2 (.take 3 (.take 4 (.take 5 (.take 6 (.take 7 (.take 8 (.take 9 (.take 10 (.take 11 (.take 12 (.take 13 (.take 14 (.take 16 (.take 17 (.one 15 (.one 18 (.take 19 (.take 20 (.take 21 .nil)))))))))))))))))))))) 9999 (by kernel_rfl) (by kernel_rfl) (by kernel_rfl) (by kernel_rfl) (by kernel_rfl) (fun _ _ d _ _ h => by cases d <;> exact h) ?_ (fun hHeld => ?_); (focus (exact ⟨e1, e2, o1, o2⟩)); simp only [Tree.map, List.getElem?_toArray, List.getElem?_cons_zero, List.getElem?_cons_succ]
            (repeat (first | (refine wpTree.take (v := undef) (Or.inr ⟨by rfl, rfl⟩) ?_; simp only [Act.put, List.setIfInBounds_toArray, List.set_cons_zero, List.set_cons_succ]) | (refine wpTree.take (v := ?_) (Or.inl ⟨by rfl, ?_⟩) ?_; rotate_left; (focus (intro _ hS; (try dsimp only at hS); go_split_ands; (try subst hS); go_simp; (try (with_reducible rfl)); done)); simp only [Act.put, List.setIfInBounds_toArray, List.set_cons_zero, List.set_cons_succ])))
            refine wpTree.one (fun K hK => ?_)
            go_simp
            refine hK.out _ _ hHeld (fun _ => ?_)
            clear hK K
            (try simp only [Act.put, List.setIfInBounds_toArray, List.set_cons_zero, List.set_cons_succ])
            (repeat (first | (refine wpTree.take (v := undef) (Or.inr ⟨by rfl, rfl⟩) ?_; simp only [Act.put, List.setIfInBounds_toArray, List.set_cons_zero, List.set_cons_succ]) | (refine wpTree.take (v := ?_) (Or.inl ⟨by rfl, ?_⟩) ?_; rotate_left; (focus (intro _ hS; (try dsimp only at hS); go_split_ands; (try subst hS); go_simp; (try (with_reducible rfl)); done)); simp only [Act.put, List.setIfInBounds_toArray, List.set_cons_zero, List.set_cons_succ])))
            refine wpTree.one (fun K hK => ?_)
            go_simp
            refine hK.out _ _ hHeld (fun _ => ?_)
            clear hK K
            (try simp only [Act.put, List.setIfInBounds_toArray, List.set_cons_zero, List.set_cons_succ])
            (repeat (first | (refine wpTree.take (v := undef) (Or.inr ⟨by rfl, rfl⟩) ?_; simp only [Act.put, List.setIfInBounds_toArray, List.set_cons_zero, List.set_cons_succ]) | (refine wpTree.take (v := ?_) (Or.inl ⟨by rfl, ?_⟩) ?_; rotate_left; (focus (intro _ hS; (try dsimp only at hS); go_split_ands; (try subst hS); go_simp; (try (with_reducible rfl)); done)); simp only [Act.put, List.setIfInBounds_toArray, List.set_cons_zero, List.set_cons_succ])))
            refine wpTree.done ?_
            clear hHeld e1 e2 o1 o2
            have HE2 := Lib.hid (show bothM acc m = ⟨F, acc.h, acc.p⟩ from by have h := HPR.out; simp at h; exact mk_ext HF.out.symm h.1 h.2)
            clear hmh
            go_wp2_with fail
            go_roundw
            case rel => exact ⟨k + 1, by omega, by go_num, HG3.out.drew, by rw [HJ.out, HE.out, HE2.out, rmk_arr]; exact HO3.out.drew, by first | exact HB3.out.drew | exact HB3.out.drew.drew | exact HB3.out.drew.drew.drew⟩
            case measure => simp [intOf]; omega
          | true =>
            rw [hmh] at HPR e1
            cases hah : acc.h with
            | false =>
              rw [hah] at HPR o1 HO3
              refine wp_region_tree (S := (fun W' => W'.cell? ⟨b, o + k * 3 + 1, none⟩ = some (.bool true) ∧ W'.cell? ⟨b, o + k * 3 + 2, none⟩ = some (.int .u64 (m.p : Nat)) ∧ W'.cell? ⟨W.heap.size + 1, 1, none⟩ = some (.bool false) ∧ W'.cell? ⟨W.heap.size + 1, 2, none⟩ = some (.int .u64 (acc.p : Nat)))) (.take 0 (.take 1 (.take 2 (.take 3 (.take 4 (.take 5 (.take 6 (.take 7 (.take 8 (.take 9 (.take 10 (.take 11 (.take 12 (.take 13 (.take 14 (.take 16 (.take 17 (.one 15 (.one 18 (.take 19 (.take 20 (.take 21 .nil)))))))))))))))))))))) 9999 (by kernel_rfl) (by kernel_rfl) (by kernel_rfl) (by kernel_rfl) (by kernel_rfl) (fun _ _ d _ _ h => by cases d <;> exact h) ?_ (fun hHeld => ?_); (focus (exact ⟨e1, e2, o1, o2⟩)); simp only [Tree.map, List.getElem?_toArray, List.getElem?_cons_zero, List.getElem?_cons_succ]
              (repeat (first | (refine wpTree.take (v := undef) (Or.inr ⟨by rfl, rfl⟩) ?_; simp only [Act.put, List.setIfInBounds_toArray, List.set_cons_zero, List.set_cons_succ]) | (refine wpTree.take (v := ?_) (Or.inl ⟨by rfl, ?_⟩) ?_; rotate_left; (focus (intro _ hS; (try dsimp only at hS); go_split_ands; (try subst hS); go_simp; (try (with_reducible rfl)); done)); simp only [Act.put, List.setIfInBounds_toArray, List.set_cons_zero, List.set_cons_succ])))
              refine wpTree.one (fun K hK => ?_)
              go_simp
              refine hK.out _ _ hHeld (fun _ => ?_)
              clear hK K
              (try simp only [Act.put, List.setIfInBounds_toArray, List.set_cons_zero, List.set_cons_succ])
              (repeat (first | (refine wpTree.take (v := undef) (Or.inr ⟨by rfl, rfl⟩) ?_; simp only [Act.put, List.setIfInBounds_toArray, List.set_cons_zero, List.set_cons_succ]) | (refine wpTree.take (v := ?_) (Or.inl ⟨by rfl, ?_⟩) ?_; rotate_left; (focus (intro _ hS; (try dsimp only at hS); go_split_ands; (try subst hS); go_simp; (try (with_reducible rfl)); done)); simp only [Act.put, List.setIfInBounds_toArray, List.set_cons_zero, List.set_cons_succ])))
              refine wpTree.one (fun K hK => ?_)
              go_simp
              refine hK.out _ _ hHeld (fun _ => ?_)
              clear hK K
              (try simp only [Act.put, List.setIfInBounds_toArray, List.set_cons_zero, List.set_cons_succ])
              (repeat (first | (refine wpTree.take (v := undef) (Or.inr ⟨by rfl, rfl⟩) ?_; simp only [Act.put, List.setIfInBounds_toArray, List.set_cons_zero, List.set_cons_succ]) | (refine wpTree.take (v := ?_) (Or.inl ⟨by rfl, ?_⟩) ?_; rotate_left; (focus (intro _ hS; (try dsimp only at hS); go_split_ands; (try subst hS); go_simp; (try (with_reducible rfl)); done)); simp only [Act.put, List.setIfInBounds_toArray, List.set_cons_zero, List.set_cons_succ])))
              refine wpTree.done ?_
              clear hHeld e1 o1 o2
              have HE2 := Lib.hid (show bothM acc m = ⟨F, true, m.p⟩ from by have h := HPR.out; simp at h; exact mk_ext HF.out.symm h.1 h.2)
              clear hmh hah
              go_wp2_with fail
              have hd1 := (HEL.out _ HB3.out.drew.drew).2.2
              have HB4 := Lib.hid HB3.out.drew.drew
              have hne : b ≠ W.heap.size + 1 := by have := HBS.out; omega
              refine wp_region_tree (S := (fun W' => W'.cell? ⟨b, o + k * 3 + 2, none⟩ = some (.int .u64 (m.p : Nat)))) (.take 0 (.take 1 (.take 2 (.take 3 (.take 4 (.take 5 (.one 6 (.take 7 (.one 8 .nil))))))))) 9999 (by kernel_rfl) (by kernel_rfl) (by kernel_rfl) (by kernel_rfl) (by kernel_rfl) (fun _ _ d _ _ h => by cases d <;> exact h) ?_ (fun hHeld => ?_); (focus (exact hd1)); simp only [Tree.map, List.getElem?_toArray, List.getElem?_cons_zero, List.getElem?_cons_succ]
              (repeat (first | (refine wpTree.take (v := undef) (Or.inr ⟨by rfl, rfl⟩) ?_; simp only [Act.put, List.setIfInBounds_toArray, List.set_cons_zero, List.set_cons_succ]) | (refine wpTree.take (v := ?_) (Or.inl ⟨by rfl, ?_⟩) ?_; rotate_left; (focus (intro _ hS; (try dsimp only at hS); go_split_ands; (try subst hS); go_simp; (try (with_reducible rfl)); done)); simp only [Act.put, List.setIfInBounds_toArray, List.set_cons_zero, List.set_cons_succ])))
              refine wpTree.one (fun K hK => ?_)
              have z1 := HO3.out.drew.drew.cell 1
              have z2 := HO3.out.drew.drew.frozen 1
              simp only [List.getElem?_toArray, List.getElem?_cons_succ, List.getElem?_cons_zero] at z1
              go_simp
              have q1 := HO3.out.setCell 1 (.bool true)
              have q2 : Below W.heap.size W (w3.setCell ⟨W.heap.size + 1, 1, none⟩ (.bool true)) := HB3.out.setCell (by show W.heap.size ≤ W.heap.size + 1; omega) _
              have q3 : Blk (w3.setCell ⟨W.heap.size + 1, 1, none⟩ (.bool true)) W.heap.size 63 #[.int .i64 0, .bool false, .int .u64 0] := HG3.out.far (by show W.heap.size ≠ W.heap.size + 1; omega) _
              have q4 := (HEL.out _ q2).2.2
              obtain ⟨w5, hw5⟩ : ∃ w5, w5 = w3.setCell ⟨W.heap.size + 1, 1, none⟩ (.bool true) := ⟨_, rfl⟩
              rw [← hw5] at q1 q2 q3 q4 ⊢
              clear hw5 z1 z2
              have HO5 := Lib.hid (show Blk w5 (W.heap.size + 1) 63 #[.int .i64 F, .bool true, .int .u64 (acc.p : Nat)] from q1)
              have HB5 := Lib.hid q2
              have HG5 := Lib.hid q3
              refine hK.out _ _ q4 (fun hHeld' => ?_)
              clear hK K hHeld q1 q2 q3 hHeld'
              have hHeld := q4
              (try simp only [Act.put, List.setIfInBounds_toArray, List.set_cons_zero, List.set_cons_succ])
              (repeat (first | (refine wpTree.take (v := undef) (Or.inr ⟨by rfl, rfl⟩) ?_; simp only [Act.put, List.setIfInBounds_toArray, List.set_cons_zero, List.set_cons_succ]) | (refine wpTree.take (v := ?_) (Or.inl ⟨by rfl, ?_⟩) ?_; rotate_left; (focus (intro _ hS; (try dsimp only at hS); go_split_ands; (try subst hS); go_simp; (try (with_reducible rfl)); done)); simp only [Act.put, List.setIfInBounds_toArray, List.set_cons_zero, List.set_cons_succ])))
              refine wpTree.one (fun K hK => ?_)
              have z1 := HO5.out.cell 2
              have z2 := HO5.out.frozen 2
              simp only [List.getElem?_toArray, List.getElem?_cons_succ, List.getElem?_cons_zero] at z1
              go_simp
              have q1 := HO5.out.setCell 2 (.int .u64 (m.p : Nat))
              have q2 : Below W.heap.size W (w5.setCell ⟨W.heap.size + 1, 2, none⟩ (.int .u64 (m.p : Nat))) := HB5.out.setCell (by show W.heap.size ≤ W.heap.size + 1; omega) _
              have q3 : Blk (w5.setCell ⟨W.heap.size + 1, 2, none⟩ (.int .u64 (m.p : Nat))) W.heap.size 63 #[.int .i64 0, .bool false, .int .u64 0] := HG5.out.far (by show W.heap.size ≠ W.heap.size + 1; omega) _
              have q5 := (HEL.out _ q2).2.2
              obtain ⟨w6, hw6⟩ : ∃ w6, w6 = w5.setCell ⟨W.heap.size + 1, 2, none⟩ (.int .u64 (m.p : Nat)) := ⟨_, rfl⟩
              rw [← hw6] at q1 q2 q3 q5 ⊢
              clear hw6 z1 z2 q4
              have HO6 := Lib.hid (show Blk w6 (W.heap.size + 1) 63 #[.int .i64 F, .bool true, .int .u64 (m.p : Nat)] from q1)
              have HB6 := Lib.hid q2
              have HG6 := Lib.hid q3
              refine hK.out _ _ q5 (fun _ => ?_)
              clear hK K hHeld q1 q2 q3 q5
              refine wpTree.done ?_
              go_wp2_with fail
              go_roundw
              case rel => exact ⟨k + 1, by omega, by go_num, HG6.out, by rw [HJ.out, HE.out, HE2.out, rmk_arr]; exact HO6.out, by first | exact HB6.out | exact HB6.out.drew | exact HB6.out.drew.drew | exact HB6.out.drew.drew.drew⟩
              case measure => simp [intOf]; omega
            | true =>
              rw [hah] at HPR o1 HO3
              cases hkd : decide (Num.key acc.p < Num.key m.p) with
              | false =>
                rw [hkd] at HPR
                have hki : decide (((Num.key acc.p : Nat) : Int) < (Num.key m.p : Nat)) = false := (Tot.cast_lt _ _).trans hkd
                refine wp_region_tree (S := (fun W' => W'.cell? ⟨b, o + k * 3 + 1, none⟩ = some (.bool true) ∧ W'.cell? ⟨b, o + k * 3 + 2, none⟩ = some (.int .u64 (m.p : Nat)) ∧ W'.cell? ⟨W.heap.size + 1, 1, none⟩ = some (.bool true) ∧ W'.cell? ⟨W.heap.size + 1, 2, none⟩ = some (.int .u64 (acc.p : Nat)))) (.take 0 (.take 1 (.take 2 (.take 3 (.take 4 (.take 5 (.take 6 (.take 7 (.take 8 (.take 9 (.take 10 (.take 11 (.take 12 (.take 13 (.take 14 (.take 16 (.take 17 (.one 15 (.one 18 (.take 19 (.take 20 (.take 21 .nil)))))))))))))))))))))) 9999 (by kernel_rfl) (by kernel_rfl) (by kernel_rfl) (by kernel_rfl) (by kernel_rfl) (fun _ _ d _ _ h => by cases d <;> exact h) ?_ (fun hHeld => ?_); (focus (exact ⟨e1, e2, o1, o2⟩)); simp only [Tree.map, List.getElem?_toArray, List.getElem?_cons_zero, List.getElem?_cons_succ]
                (repeat (first | (refine wpTree.take (v := undef) (Or.inr ⟨by rfl, rfl⟩) ?_; simp only [Act.put, List.setIfInBounds_toArray, List.set_cons_zero, List.set_cons_succ]) | (refine wpTree.take (v := ?_) (Or.inl ⟨by rfl, ?_⟩) ?_; rotate_left; (focus (intro _ hS; (try dsimp only at hS); go_split_ands; (try subst hS); go_simp; (try (with_reducible rfl)); done)); simp only [Act.put, List.setIfInBounds_toArray, List.set_cons_zero, List.set_cons_succ])))
                refine wpTree.one (fun K hK => ?_)
                go_simp
                go_at_call 80
                refine (rkey7_any _ _ HM.out).mono ?_
                rintro e w' ⟨rfl, rfl⟩
                refine hK.out _ _ hHeld (fun _ => ?_)
                clear hK K
                (try simp only [Act.put, List.setIfInBounds_toArray, List.set_cons_zero, List.set_cons_succ])
                (repeat (first | (refine wpTree.take (v := undef) (Or.inr ⟨by rfl, rfl⟩) ?_; simp only [Act.put, List.setIfInBounds_toArray, List.set_cons_zero, List.set_cons_succ]) | (refine wpTree.take (v := ?_) (Or.inl ⟨by rfl, ?_⟩) ?_; rotate_left; (focus (intro _ hS; (try dsimp only at hS); go_split_ands; (try subst hS); go_simp; (try (with_reducible rfl)); done)); simp only [Act.put, List.setIfInBounds_toArray, List.set_cons_zero, List.set_cons_succ])))
                refine wpTree.one (fun K hK => ?_)
                go_simp
                go_at_call 80
                refine (rkey7_any _ _ HA.out).mono ?_
                rintro e w' ⟨rfl, rfl⟩
                refine hK.out _ _ hHeld (fun _ => ?_)
                clear hK K
                (try simp only [Act.put, List.setIfInBounds_toArray, List.set_cons_zero, List.set_cons_succ])
                (repeat (first | (refine wpTree.take (v := undef) (Or.inr ⟨by rfl, rfl⟩) ?_; simp only [Act.put, List.setIfInBounds_toArray, List.set_cons_zero, List.set_cons_succ]) | (refine wpTree.take (v := ?_) (Or.inl ⟨by rfl, ?_⟩) ?_; rotate_left; (focus (intro _ hS; (try dsimp only at hS); go_split_ands; (try subst hS); go_simp; (try (with_reducible rfl)); done)); simp only [Act.put, List.setIfInBounds_toArray, List.set_cons_zero, List.set_cons_succ])))
                refine wpTree.done ?_
                clear hHeld e1 e2 o1 o2
                have HE2 := Lib.hid (show bothM acc m = ⟨F, true, acc.p⟩ from by have h := HPR.out; simp at h; exact mk_ext HF.out.symm h.1 h.2)
                clear hmh hah hkd
                go_wp2_with fail
                go_roundw
                case rel => exact ⟨k + 1, by omega, by go_num, HG3.out.drew, by rw [HJ.out, HE.out, HE2.out, rmk_arr]; exact HO3.out.drew, by first | exact HB3.out.drew | exact HB3.out.drew.drew | exact HB3.out.drew.drew.drew⟩
                case measure => simp [intOf]; omega
              | true =>
                rw [hkd] at HPR
                have hki : decide (((Num.key acc.p : Nat) : Int) < (Num.key m.p : Nat)) = true := (Tot.cast_lt _ _).trans hkd
                refine wp_region_tree (S := (fun W' => W'.cell? ⟨b, o + k * 3 + 1, none⟩ = some (.bool true) ∧ W'.cell? ⟨b, o + k * 3 + 2, none⟩ = some (.int .u64 (m.p : Nat)) ∧ W'.cell? ⟨W.heap.size + 1, 1, none⟩ = some (.bool true) ∧ W'.cell? ⟨W.heap.size + 1, 2, none⟩ = some (.int .u64 (acc.p : Nat)))) (.take 0 (.take 1 (.take 2 (.take 3 (.take 4 (.take 5 (.take 6 (.take 7 (.take 8 (.take 9 (.take 10 (.take 11 (.take 12 (.take 13 (.take 14 (.take 16 (.take 17 (.one 15 (.one 18 (.take 19 (.take 20 (.take 21 .nil)))))))))))))))))))))) 9999 (by kernel_rfl) (by kernel_rfl) (by kernel_rfl) (by kernel_rfl) (by kernel_rfl) (fun _ _ d _ _ h => by cases d <;> exact h) ?_ (fun hHeld => ?_); (focus (exact ⟨e1, e2, o1, o2⟩)); simp only [Tree.map, List.getElem?_toArray, List.getElem?_cons_zero, List.getElem?_cons_succ]
                (repeat (first | (refine wpTree.take (v := undef) (Or.inr ⟨by rfl, rfl⟩) ?_; simp only [Act.put, List.setIfInBounds_toArray, List.set_cons_zero, List.set_cons_succ]) | (refine wpTree.take (v := ?_) (Or.inl ⟨by rfl, ?_⟩) ?_; rotate_left; (focus (intro _ hS; (try dsimp only at hS); go_split_ands; (try subst hS); go_simp; (try (with_reducible rfl)); done)); simp only [Act.put, List.setIfInBounds_toArray, List.set_cons_zero, List.set_cons_succ])))
                refine wpTree.one (fun K hK => ?_)
                go_simp
                go_at_call 80
                refine (rkey7_any _ _ HM.out).mono ?_
                rintro e w' ⟨rfl, rfl⟩
                refine hK.out _ _ hHeld (fun _ => ?_)
                clear hK K
                (try simp only [Act.put, List.setIfInBounds_toArray, List.set_cons_zero, List.set_cons_succ])
                (repeat (first | (refine wpTree.take (v := undef) (Or.inr ⟨by rfl, rfl⟩) ?_; simp only [Act.put, List.setIfInBounds_toArray, List.set_cons_zero, List.set_cons_succ]) | (refine wpTree.take (v := ?_) (Or.inl ⟨by rfl, ?_⟩) ?_; rotate_left; (focus (intro _ hS; (try dsimp only at hS); go_split_ands; (try subst hS); go_simp; (try (with_reducible rfl)); done)); simp only [Act.put, List.setIfInBounds_toArray, List.set_cons_zero, List.set_cons_succ])))
                refine wpTree.one (fun K hK => ?_)
                go_simp
                go_at_call 80
                refine (rkey7_any _ _ HA.out).mono ?_
                rintro e w' ⟨rfl, rfl⟩
                refine hK.out _ _ hHeld (fun _ => ?_)
                clear hK K
                (try simp only [Act.put, List.setIfInBounds_toArray, List.set_cons_zero, List.set_cons_succ])
                (repeat (first | (refine wpTree.take (v := undef) (Or.inr ⟨by rfl, rfl⟩) ?_; simp only [Act.put, List.setIfInBounds_toArray, List.set_cons_zero, List.set_cons_succ]) | (refine wpTree.take (v := ?_) (Or.inl ⟨by rfl, ?_⟩) ?_; rotate_left; (focus (intro _ hS; (try dsimp only at hS); go_split_ands; (try subst hS); go_simp; (try (with_reducible rfl)); done)); simp only [Act.put, List.setIfInBounds_toArray, List.set_cons_zero, List.set_cons_succ])))
                refine wpTree.done ?_
                clear hHeld e1 o1 o2
                have HE2 := Lib.hid (show bothM acc m = ⟨F, true, m.p⟩ from by have h := HPR.out; simp at h; exact mk_ext HF.out.symm h.1 h.2)
                clear hmh hah hkd hki
                go_wp2_with fail
                have hd1 := (HEL.out _ HB3.out.drew.drew).2.2
                have HB4 := Lib.hid HB3.out.drew.drew
                have hne : b ≠ W.heap.size + 1 := by have := HBS.out; omega
                refine wp_region_tree (S := (fun W' => W'.cell? ⟨b, o + k * 3 + 2, none⟩ = some (.int .u64 (m.p : Nat)))) (.take 0 (.take 1 (.take 2 (.take 3 (.take 4 (.take 5 (.one 6 (.take 7 (.one 8 .nil))))))))) 9999 (by kernel_rfl) (by kernel_rfl) (by kernel_rfl) (by kernel_rfl) (by kernel_rfl) (fun _ _ d _ _ h => by cases d <;> exact h) ?_ (fun hHeld => ?_); (focus (exact hd1)); simp only [Tree.map, List.getElem?_toArray, List.getElem?_cons_zero, List.getElem?_cons_succ]
                (repeat (first | (refine wpTree.take (v := undef) (Or.inr ⟨by rfl, rfl⟩) ?_; simp only [Act.put, List.setIfInBounds_toArray, List.set_cons_zero, List.set_cons_succ]) | (refine wpTree.take (v := ?_) (Or.inl ⟨by rfl, ?_⟩) ?_; rotate_left; (focus (intro _ hS; (try dsimp only at hS); go_split_ands; (try subst hS); go_simp; (try (with_reducible rfl)); done)); simp only [Act.put, List.setIfInBounds_toArray, List.set_cons_zero, List.set_cons_succ])))
                refine wpTree.one (fun K hK => ?_)
                have z1 := HO3.out.drew.drew.cell 1
                have z2 := HO3.out.drew.drew.frozen 1
                simp only [List.getElem?_toArray, List.getElem?_cons_succ, List.getElem?_cons_zero] at z1
                go_simp
                have q1 := HO3.out.setCell 1 (.bool true)
                have q2 : Below W.heap.size W (w3.setCell ⟨W.heap.size + 1, 1, none⟩ (.bool true)) := HB3.out.setCell (by show W.heap.size ≤ W.heap.size + 1; omega) _
                have q3 : Blk (w3.setCell ⟨W.heap.size + 1, 1, none⟩ (.bool true)) W.heap.size 63 #[.int .i64 0, .bool false, .int .u64 0] := HG3.out.far (by show W.heap.size ≠ W.heap.size + 1; omega) _
                have q4 := (HEL.out _ q2).2.2
                obtain ⟨w5, hw5⟩ : ∃ w5, w5 = w3.setCell ⟨W.heap.size + 1, 1, none⟩ (.bool true) := ⟨_, rfl⟩
                rw [← hw5] at q1 q2 q3 q4 ⊢
                clear hw5 z1 z2
                have HO5 := Lib.hid (show Blk w5 (W.heap.size + 1) 63 #[.int .i64 F, .bool true, .int .u64 (acc.p : Nat)] from q1)
                have HB5 := Lib.hid q2
                have HG5 := Lib.hid q3
                refine hK.out _ _ q4 (fun hHeld' => ?_)
                clear hK K hHeld q1 q2 q3 hHeld'
                have hHeld := q4
                (try simp only [Act.put, List.setIfInBounds_toArray, List.set_cons_zero, List.set_cons_succ])
                (repeat (first | (refine wpTree.take (v := undef) (Or.inr ⟨by rfl, rfl⟩) ?_; simp only [Act.put, List.setIfInBounds_toArray, List.set_cons_zero, List.set_cons_succ]) | (refine wpTree.take (v := ?_) (Or.inl ⟨by rfl, ?_⟩) ?_; rotate_left; (focus (intro _ hS; (try dsimp only at hS); go_split_ands; (try subst hS); go_simp; (try (with_reducible rfl)); done)); simp only [Act.put, List.setIfInBounds_toArray, List.set_cons_zero, List.set_cons_succ])))
                refine wpTree.one (fun K hK => ?_)
                have z1 := HO5.out.cell 2
                have z2 := HO5.out.frozen 2
                simp only [List.getElem?_toArray, List.getElem?_cons_succ, List.getElem?_cons_zero] at z1
                go_simp
                have q1 := HO5.out.setCell 2 (.int .u64 (m.p : Nat))
                have q2 : Below W.heap.size W (w5.setCell ⟨W.heap.size + 1, 2, none⟩ (.int .u64 (m.p : Nat))) := HB5.out.setCell (by show W.heap.size ≤ W.heap.size + 1; omega) _
                have q3 : Blk (w5.setCell ⟨W.heap.size + 1, 2, none⟩ (.int .u64 (m.p : Nat))) W.heap.size 63 #[.int .i64 0, .bool false, .int .u64 0] := HG5.out.far (by show W.heap.size ≠ W.heap.size + 1; omega) _
                have q5 := (HEL.out _ q2).2.2
                obtain ⟨w6, hw6⟩ : ∃ w6, w6 = w5.setCell ⟨W.heap.size + 1, 2, none⟩ (.int .u64 (m.p : Nat)) := ⟨_, rfl⟩
                rw [← hw6] at q1 q2 q3 q5 ⊢
                clear hw6 z1 z2 q4
                have HO6 := Lib.hid (show Blk w6 (W.heap.size + 1) 63 #[.int .i64 F, .bool true, .int .u64 (m.p : Nat)] from q1)
                have HB6 := Lib.hid q2
                have HG6 := Lib.hid q3
                refine hK.out _ _ q5 (fun _ => ?_)
                clear hK K hHeld q1 q2 q3 q5
                refine wpTree.done ?_
                go_wp2_with fail
                go_roundw
                case rel => exact ⟨k + 1, by omega, by go_num, HG6.out, by rw [HJ.out, HE.out, HE2.out, rmk_arr]; exact HO6.out, by first | exact HB6.out | exact HB6.out.drew | exact HB6.out.drew.drew | exact HB6.out.drew.drew.drew⟩
                case measure => simp [intOf]; omega
    · obtain rfl : k = n := by omega
      have hq : joinM (l.take k) = joinM l := by rw [← HN.out, List.take_length]
      rw [hq] at HACC
      have racc := HACC.out.range
      have bg := HG.out
      clear hlt hq
      go_wp2_with (first | (refine wpList_load_midm (by rfl) 63 _ rfl _ _ rfl (Mk.rcells _) _ racc Try.underlying63 rfl (rmkinfo _) ?_) | (refine wpList_store_blk rfl 63 _ _ rfl W.heap.size 63 _ (joinM l).rcells.toArray rfl rfl bg (rmkinfoA _) (show 3 = (joinM l).rcells.toArray.size by rw [List.size_toArray, rmk_len]) (rmk_one _) ?_; intro hrow))
      exact bodyPost_row (t := 63) (joinM l).rcells.toArray rfl rfl rfl Try.underlying63 rfl (rmkinfoA _) hrow ⟨rfl, below_setRow HBL.out (Nat.le_refl _) _⟩
end Go.Proofs.Ytlejnjgepnjceaa
