/-
link: the document's link: Send.
-/
import Derived.Test.YthiclefiliedjaaLk22
namespace Go.Proofs.Ythiclefiliedjaa
open Go.RowKit
set_option linter.unusedSimpArgs false
set_option linter.unusedVariables false
namespace Lk
theorem info_str : ∃ i z, Try.prog.info? 9 = some i ∧ i.zero = some z ∧ i.size = 1 ∧ i.bytes = 16 ∧ z.cells.size = 1 := by
  have h : ((Try.prog.info? 9).bind fun i => i.zero.map fun z => (i.size, i.bytes, z.cells.size)) = some (1, 16, 1) := by kernel_rfl
  cases hi : Try.prog.info? 9 with
  | none => rw [hi] at h; cases h
  | some i =>
    rw [hi] at h
    simp only [Option.bind_some, Option.map_eq_some_iff, Prod.mk.injEq] at h
    obtain ⟨z, hz, h1, h2, h3⟩ := h
    exact ⟨i, z, rfl, hz, h1, h2, h3⟩
/-- An append of strings onto a row that a call made. -/
theorem wpList_append_str {ops : Array Oper} {rest : List Oper} {o : Oper} {a : Act} {Q : Exit → Act → World → Prop} (w : World) (hgd : o.guard = none) (s x : Operand)
    (ho : o.op = .call { callee := .builtin .append, args := #[s, x], argTypes := #[26, 26] }) (base : Nat)
    (v : Value) (n : Nat) (xs : List Value) (hs : a.eval s = v) (hown : w.ownsRow base 9 1 v n xs)
    (A : Option Addr) (m c : Nat) (news : List Value) (hx : a.eval x = .slice A m c) (hl : news.length = m) (hsrc : Src w A m news) (h1 : ∀ u ∈ news, u.oneCell' = true)
    (hbytes : n + m ≤ 100000) (hbase : base ≤ w.heap.size)
    (h : ∀ v' w', w'.ownsRow base 9 1 v' (n + m) (xs ++ news) → w.grownBy w' v.ownBlock → (v'.ownBlock = v.ownBlock ∨ v'.ownBlock = some w.heap.size) → wpList Try.prog ops Q rest (a.put o.dst v') w') : wpList Try.prog ops Q (o :: rest) a w :=
  wpList_plain hgd fun _ hK => by
    obtain ⟨i, z, hi, hz, h2, h3, h4⟩ := info_str
    exact wp_append_src w s x 26 ho base 9 i z Try.underlying26 hi hz (by rw [h4, h2]) (by omega) v n xs hs (by rw [h2]; exact hown) A m c news hx (by rw [hl, h2, Nat.mul_one]) hsrc h1 (by unfold maxLen; omega) (by rw [h3]; omega) hbase (by rw [h2]; intro v' w' k1 k2 k3; exact hK _ _ (h v' w' k1 k2 k3))
def RsP (s : RS) (bs : List Nat) (B r : Nat) (v : Value) (w w' : World) : Prop := ∃ s' v', s'.ls = s.ls.send bs ∧ s'.all.length ≤ s.all.length + 1 ∧ s'.t ≤ s.t + 1 ∧ Rf w' B r s' v' ∧ RTurn B r v v' w w'
section
variable (w : World) {B r : Nat} {s : RS} {v : Value}
set_option maxRecDepth 20000 in
set_option maxHeartbeats 4000000 in
theorem rsend_any (h : Rf w B r s v) (bs : List Nat) (h256 : ∀ y ∈ bs, y < 256) (hn : s.all.length < 300) : Calls Try.prog 11 #[.pointer (some ⟨r, 0, none⟩), .string (Byt.bstr bs)] w fun e w' =>
    e = .returned (.tuple #[.int .u64 (sendN s.ls bs.length : Nat), .int .i64 (sendE s.ls bs.length)]) ∧ RsP s bs B r v w w' := by
  have HR := Lib.hid h
  have H256 := Lib.hid h256
  obtain ⟨A, c, rfl⟩ := h.vs
  have c0 : w.cell? ⟨r, 0, none⟩ = some (.slice A s.all.length c) := h.blk.cell 0
  have c1 : w.cell? ⟨r, 1, none⟩ = some (.int .i64 (s.a : Nat)) := h.blk.cell 1
  have z0 := h.blk.frozen 0
  obtain ⟨n, hnn⟩ : ∃ n, n = s.all.length := ⟨_, rfl⟩
  have HN := Lib.hid hnn
  have HA := Lib.hid (show s.a ≤ n ∧ n < 300 by rw [hnn]; exact ⟨h.al, hn⟩)
  have HX := Lib.hid (show s.ls.nx = n + 1 ∧ s.ls.ts.length = n - s.a by rw [hnn]; exact ⟨rfl, List.length_drop⟩)
  rw [← hnn] at c0
  obtain ⟨m, hm⟩ : ∃ m, m = bs.length := ⟨_, rfl⟩
  have hsz : (Byt.bstr bs).size = m := by rw [hm]; exact Byt.bstr_size bs
  rw [← hm]
  have HM := Lib.hid hm
  clear h h256 hn hnn hm
  by_cases h1 : m < 1
  · have HE := Lib.hid (show sendE s.ls m = 3 by unfold sendE; rw [if_neg (by simp; omega)])
    have HS := Lib.hid (show sendN s.ls m = 0 ∧ s.ls.send bs = s.ls by unfold sendN LS.send; rw [← HM.out, HE.out, if_neg (by decide), if_neg (by decide)]; exact ⟨rfl, rfl⟩)
    have g1 : (m : Int) < 1 := by omega
    clear h1 z0 c0 c1
    go_enter Try.func11, Try.ntmps11
    go_wp2_with fail
    go_ret2
    exact ⟨by (rw [HE.out, HS.out.1]; try rfl), ⟨s, .slice A s.all.length c, HS.out.2.symm, Nat.le_succ _, Nat.le_succ _, HR.out, RTurn.same HR.out⟩⟩
  by_cases h2 : 1800 < m
  · have HE := Lib.hid (show sendE s.ls m = 3 by unfold sendE; rw [if_neg (by simp; omega)])
    have HS := Lib.hid (show sendN s.ls m = 0 ∧ s.ls.send bs = s.ls by unfold sendN LS.send; rw [← HM.out, HE.out, if_neg (by decide), if_neg (by decide)]; exact ⟨rfl, rfl⟩)
    have g1 : ¬ (m : Int) < 1 := by omega
    have g2 : (1800 : Int) < (m : Nat) := by omega
    clear h1 h2 z0 c0 c1
    go_enter Try.func11, Try.ntmps11
    go_wp2_with fail
    go_ret2
    exact ⟨by (rw [HE.out, HS.out.1]; try rfl), ⟨s, .slice A s.all.length c, HS.out.2.symm, Nat.le_succ _, Nat.le_succ _, HR.out, RTurn.same HR.out⟩⟩
  have g1 : ¬ (m : Int) < 1 := by omega
  have g2 : ¬ (1800 : Int) < (m : Nat) := by omega
  have hd : (decide (1 ≤ m) && decide (m ≤ 1800)) = true := by simp; omega
  have HDD := Lib.hid (And.intro (show 1 ≤ m by omega) (show m ≤ 1800 by omega))
  obtain ⟨z, hz⟩ : ∃ z : Nat, z = n - s.a := ⟨_, rfl⟩
  have e3 : IntKind.i64.wrap ((n : Int) - (s.a : Int)) = (z : Nat) := by have := HA.out; rw [IntKind.wrap_i64]; omega
  have e4 : wrap64 ((n : Int) - (s.a : Int)) = (z : Nat) := by clear e3; have := HA.out; unfold wrap64; omega
  have E3 := Lib.hid (And.intro e3 e4)
  have HZ := Lib.hid hz
  clear e3 e4 h1 h2 hz
  by_cases h3 : 250 ≤ z
  · have HE := Lib.hid (show sendE s.ls m = 5 by unfold sendE; rw [hd, if_pos rfl, HX.out.2, if_pos (by have := HZ.out; omega)])
    have HS := Lib.hid (show sendN s.ls m = 0 ∧ s.ls.send bs = s.ls by unfold sendN LS.send; rw [← HM.out, HE.out, if_neg (by decide), if_neg (by decide)]; exact ⟨rfl, rfl⟩)
    have g3 : (250 : Int) ≤ (z : Nat) := by omega
    clear h3 z0 hd
    go_enter Try.func11, Try.ntmps11
    go_upto_region 3 with fail
    have e3 := E3.out.1
    have e4 := E3.out.2
    refine wp_region_tree (S := (fun w' => w' = w.drew)) (.take 0 (.take 1 (.take 2 (.take 3 (.take 4 (.take 5 (.take 6 (.take 7 (.take 8 (.take 9 (.take 10 .nil))))))))))) 9999 (by kernel_rfl) (by kernel_rfl) (by kernel_rfl) (by kernel_rfl) (by kernel_rfl) (fun _ _ d _ _ h => by cases d <;> exact h) rfl (fun hHeld => ?_); simp only [Tree.map, List.getElem?_toArray, List.getElem?_cons_zero, List.getElem?_cons_succ]
    (repeat (first | (refine wpTree.take (v := undef) (Or.inr ⟨by rfl, rfl⟩) ?_; simp only [Act.put, List.setIfInBounds_toArray, List.set_cons_zero, List.set_cons_succ]) | (refine wpTree.take (v := ?_) (Or.inl ⟨by rfl, ?_⟩) ?_; rotate_left; (focus (intro _ hS; (try dsimp only at hS); go_split_ands; (try subst hS); go_simp; (try (with_reducible rfl)); done)); simp only [Act.put, List.setIfInBounds_toArray, List.set_cons_zero, List.set_cons_succ])))
    refine wpTree.done ?_
    clear e3 e4
    go_wp2_with fail
    go_ret2
    exact ⟨by (rw [HE.out, HS.out.1]; try rfl), ⟨s, .slice A s.all.length c, HS.out.2.symm, Nat.le_succ _, Nat.le_succ _, HR.out.next (Below.refl _ _).drew, (Below.refl _ _).drew, fun k hk _ _ => rfl, Or.inl rfl⟩⟩
  · have HE := Lib.hid (show sendE s.ls m = 0 by unfold sendE; rw [hd, if_pos rfl, HX.out.2, HX.out.1, if_neg (by have := HZ.out; have := HA.out; omega)])
    have HS := Lib.hid (show sendN s.ls m = n + 1 ∧ s.ls.send bs = ⟨s.all.length + 2, s.t + 1, (s.all ++ [bs]).drop s.a⟩ by
      unfold sendN LS.send
      rw [← HM.out, HE.out, if_pos rfl, if_pos rfl, HX.out.1]
      refine ⟨rfl, ?_⟩
      rw [List.drop_append_of_le_length (by rw [← HN.out]; exact HA.out.1), HN.out]
      rfl)
    have g3 : ¬ (250 : Int) ≤ (z : Nat) := by omega
    have e5 : IntKind.u64.wrap ((n : Int) + 1) = ((n + 1 : Nat) : Int) := by have := HA.out; rw [IntKind.wrap_u64]; omega
    have E5 := Lib.hid e5
    clear h3 hd e5
    go_enter Try.func11, Try.ntmps11
    go_upto_region 3 with fail
    have e3 := E3.out.1
    have e4 := E3.out.2
    refine wp_region_tree (S := (fun w' => w' = w.drew)) (.take 0 (.take 1 (.take 2 (.take 3 (.take 4 (.take 5 (.take 6 (.take 7 (.take 8 (.take 9 (.take 10 .nil))))))))))) 9999 (by kernel_rfl) (by kernel_rfl) (by kernel_rfl) (by kernel_rfl) (by kernel_rfl) (fun _ _ d _ _ h => by cases d <;> exact h) rfl (fun hHeld => ?_); simp only [Tree.map, List.getElem?_toArray, List.getElem?_cons_zero, List.getElem?_cons_succ]
    (repeat (first | (refine wpTree.take (v := undef) (Or.inr ⟨by rfl, rfl⟩) ?_; simp only [Act.put, List.setIfInBounds_toArray, List.set_cons_zero, List.set_cons_succ]) | (refine wpTree.take (v := ?_) (Or.inl ⟨by rfl, ?_⟩) ?_; rotate_left; (focus (intro _ hS; (try dsimp only at hS); go_split_ands; (try subst hS); go_simp; (try (with_reducible rfl)); done)); simp only [Act.put, List.setIfInBounds_toArray, List.set_cons_zero, List.set_cons_succ])))
    refine wpTree.done ?_
    clear e3 e4
    have HR1 := Lib.hid (HR.out.next (Below.refl w.heap.size w).drew)
    have hb1 := (Below.refl w.heap.size w).drew.trans ((Below.refl w.drew.heap.size w.drew).alloc (Nat.le_refl _) (.cells #[.string (Byt.bstr bs)] 9))
    have HB1 := Lib.hid hb1
    have HR2 := Lib.hid (HR.out.next hb1)
    have hsrc : Src (w.drew.alloc (.cells #[.string (Byt.bstr bs)] 9)) (some ⟨w.drew.heap.size, 0, none⟩) 1 (strs [bs]) := Or.inl ⟨_, rfl, fun j u hj => by
      have hh := heap_alloc_new w.drew (Obj.cells #[.string (Byt.bstr bs)] 9)
      rw [add_plain, Nat.zero_add, cell_of_row _ w.drew.heap.size _ _ _ _ hh, List.getElem?_toArray]
      exact hj⟩
    have HSR := Lib.hid hsrc
    clear hb1 hsrc z0
    go_upto_region 5 with fail
    have hown0 : (w.drew.alloc (.cells #[.string (Byt.bstr bs)] 9)).ownsRow B 9 1 (.slice A n c) n (strs s.all) := by rw [HN.out]; exact HR2.out.own
    have hvr : some r ≠ (Value.slice A n c).ownBlock := by rw [HN.out]; exact HR.out.vr
    have HO := Lib.hid (And.intro hown0 hvr)
    have HBB := Lib.hid (show B ≤ (w.drew.alloc (.cells #[.string (Byt.bstr bs)] 9)).heap.size from Nat.le_trans HR.out.base HB1.out.size)
    clear hown0 hvr
    go_upto_region 6 with (first | (at_builtin; refine wpList_append_str _ rfl _ _ rfl B (.slice A n c) n (strs s.all) rfl HO.out.1 (some ⟨w.drew.heap.size, 0, none⟩) 1 1 (strs [bs]) rfl rfl HSR.out (strs_one _) (by have := HA.out; omega) HBB.out ?_; intro v9 w9 hown hg hloc; obtain ⟨A9, c9, rfl⟩ := slc_of hown; have hb9 : Blk w9 r 28 #[.slice A s.all.length c, .int .i64 (s.a : Nat), .int .i64 (s.t : Nat)] := (hg.block r HR2.out.rl.2 HO.out.2).trans HR2.out.blk; have c90 := hb9.cell 0; have z90 := hb9.frozen 0; have H9 := Lib.hid (And.intro hown (And.intro hg (And.intro hloc hb9))); clear hown hg hloc hb9))
    clear c90 z90
    obtain ⟨w10, hw10⟩ : ∃ w10, w10 = w9.setCell ⟨r, 0, none⟩ (.slice A9 (n + 1) c9) := ⟨_, rfl⟩
    have hb10 : Blk w10 r 28 #[.slice A9 (n + 1) c9, .int .i64 (s.a : Nat), .int .i64 (s.t : Nat)] := by rw [hw10]; exact H9.out.2.2.2.setCell 0 _
    have far : ∀ k, k ≠ r → w10.heap[k]? = w9.heap[k]? := fun k hk => by rw [hw10]; exact Below.heap_setCell w9 ⟨r, 0, none⟩ _ k hk
    have hz10 : w10.heap.size = w9.heap.size := by rw [hw10]; simp [World.setCell]
    have hos : w10.os = w9.os ∧ w10.tape = w9.tape ∧ w10.output = w9.output := by rw [hw10]; exact ⟨rfl, rfl, rfl⟩
    rw [← hw10]
    clear hw10
    have c100 : w10.cell? ⟨r, 0, none⟩ = some (.slice A9 (n + 1) c9) := hb10.cell 0
    have hgz : w.heap.size + 1 ≤ w9.heap.size := by have := H9.out.2.1.size; simpa using this
    have hz1 : (w.drew.alloc (.cells #[.string (Byt.bstr bs)] 9)).heap.size = w.heap.size + 1 := by simp
    have hrr : ∀ k, (Value.slice A9 (n + 1) c9).ownBlock = some k → k ≠ r := fun k hk e => by
      subst e
      obtain ⟨hl, ⟨e1, h0⟩ | ⟨g, cap, cur, e1, hg, hh, _⟩⟩ := H9.out.1
      · omega
      · simp only [Value.slice.injEq] at e1
        obtain ⟨rfl, _⟩ := e1
        simp [Value.ownBlock] at hk
        subst hk
        have := H9.out.2.2.2
        unfold Blk at this
        rw [this] at hh
        simp only [Option.some.injEq, Obj.cells.injEq] at hh
        exact absurd hh.2.1 (by decide)
    have HEND := Lib.hid (show RsP s bs B r (.slice A s.all.length c) w w10 from by
      refine ⟨⟨s.all ++ [bs], s.a, s.t⟩, .slice A9 (n + 1) c9, ?_, by rw [List.length_append]; exact Nat.le_refl _, Nat.le_succ _, ⟨⟨HR.out.rl.1, by have := HR.out.rl.2; omega⟩, hb10, ?_, ?_, ?_, ?_⟩, ⟨?_, ?_, ?_⟩⟩
      · rw [HS.out.2]
        show (⟨(s.all ++ [bs]).length + 1, s.t + 1, (s.all ++ [bs]).drop s.a⟩ : LS) = _
        rw [List.length_append]; rfl
      · have h1 := H9.out.1
        rw [← strs_app] at h1
        have h2 : (s.all ++ [bs]).length = n + 1 := by rw [List.length_append, ← HN.out]; rfl
        rw [h2]
        exact ownG_keep h1 (fun k hk => far k (hrr k hk))
      · rw [List.length_append]; have := HR.out.al; show s.a ≤ _; omega
      · intro b hb
        rcases List.mem_append.1 hb with hb | hb
        · exact HR.out.ok b hb
        · simp only [List.mem_singleton] at hb
          subst hb
          exact ⟨H256.out, by rw [← HM.out]; exact HDD.out.1, by rw [← HM.out]; exact HDD.out.2⟩
      · rw [List.length_append, ← HN.out]; exact ⟨by have := HA.out; show n + 1 ≤ 300; omega, HR.out.le.2⟩
      · have h1 : Below B (w.drew.alloc (.cells #[.string (Byt.bstr bs)] 9)) w9 := ⟨H9.out.2.1.os, H9.out.2.1.tape, H9.out.2.1.output, H9.out.2.1.size, fun k hk => H9.out.2.1.block k (Nat.lt_of_lt_of_le hk HBB.out) (fun e => by
          obtain ⟨hl, ⟨e1, h0⟩ | ⟨g, cap, cur, e1, hg, hh, _⟩⟩ := HO.out.1
          · simp only [Value.slice.injEq] at e1
            obtain ⟨rfl, _⟩ := e1
            simp [Value.ownBlock] at e
          · simp only [Value.slice.injEq] at e1
            obtain ⟨rfl, _⟩ := e1
            simp [Value.ownBlock] at e
            omega)⟩
        have h2 := (HB1.out.mono HR.out.base).trans h1
        exact ⟨hos.1.trans h2.os, hos.2.1.trans h2.tape, hos.2.2.trans h2.output, by rw [hz10]; exact h2.size, fun k hk => (far k (by have := HR.out.rl.1; omega)).trans (h2.block k hk)⟩
      · intro k hk hkr hkv
        rw [← HN.out] at hkv
        exact (far k hkr).trans ((H9.out.2.1.block k (Nat.lt_of_lt_of_le hk HB1.out.size) hkv).trans (HB1.out.block k hk))
      · rcases H9.out.2.2.1 with h | h
        · left; rw [h, HN.out]
        · right; exact ⟨_, h, by simp⟩)
    clear hb10 far hz10 hos hgz hz1 hrr H9 HR1 HR2 HSR HO HBB HB1
    have e5 := E5.out
    go_wp2_with fail
    clear e5
    go_ret2
    exact ⟨by (rw [HE.out, HS.out.1]; try rfl), HEND.out⟩
end
end Lk
end Go.Proofs.Ythiclefiliedjaa
