/-
frames: the document's Read, walked.
-/
import Derived.Test.YtejehmimidnaiaaFrR
namespace Go.Proofs.Ytejehmimidnaiaa
open Go.RowKit
open Byt
set_option linter.unusedSimpArgs false
set_option linter.unusedVariables false

/-- Records of the document, in a row. -/
def rr (x : Nat × List Nat) : List Value := [.int .i64 (x.1 : Nat), .string (bstr x.2)]
def rrs (l : List (Nat × List Nat)) : List Value := l.flatMap rr
theorem rr_len (x : Nat × List Nat) : (rr x).length = 2 := rfl
theorem rrs_len (l : List (Nat × List Nat)) : (rrs l).length = l.length * 2 := by
  induction l with
  | nil => rfl
  | cons x l ih => simp only [rrs, List.flatMap_cons, List.length_append, List.length_cons] at ih ⊢; rw [ih, rr_len]; omega
theorem rr_ones (x : Nat × List Nat) : ∀ v ∈ rr x, v.oneCell' = true := by
  intro v hv
  unfold rr at hv
  simp at hv
  rcases hv with rfl | rfl <;> rfl
theorem rrs_get : ∀ (l : List (Nat × List Nat)) (i : Nat) (x : Nat × List Nat) (j : Nat), l[i]? = some x → j < 2 → (rrs l)[2 * i + j]? = (rr x)[j]?
  | [], i, x, j, h, _ => by simp at h
  | y :: l, 0, x, j, h, hj => by
    simp at h
    subst h
    simp only [rrs, List.flatMap_cons, Nat.mul_zero, Nat.zero_add]
    rw [List.getElem?_append_left (by rw [rr_len]; exact hj)]
  | y :: l, i + 1, x, j, h, hj => by
    have := rrs_get l i x j (by simpa using h) hj
    simp only [rrs, List.flatMap_cons] at this ⊢
    rw [List.getElem?_append_right (by rw [rr_len]; omega), rr_len, show 2 * (i + 1) + j - 2 = 2 * i + j by omega]
    exact this
theorem info_rr : ∃ i z, Try.prog.info? 27 = some i ∧ i.zero = some z ∧ i.size = 2 ∧ i.bytes = 24 ∧ z.cells.size = 2 := by
  have h : ((Try.prog.info? 27).bind fun i => i.zero.map fun z => (i.size, i.bytes, z.cells.size)) = some (2, 24, 2) := by kernel_rfl
  cases hi : Try.prog.info? 27 with
  | none => rw [hi] at h; cases h
  | some i =>
    rw [hi] at h
    simp only [Option.bind_some, Option.map_eq_some_iff, Prod.mk.injEq] at h
    obtain ⟨z, hz, h1, h2, h3⟩ := h
    exact ⟨i, z, rfl, hz, h1, h2, h3⟩
def RI (W : World) (bs : List Nat) (t : Nat) (v : Value) (m : List (Nat × List Nat)) (w : World) : Prop :=
  w.ownsRow W.heap.size 27 2 v m.length (rrs m) ∧ Fr.Part 3 9 bs t m ∧ Below W.heap.size W w ∧ m.length ≤ t
theorem RI.next {W w w' : World} {bs : List Nat} {t : Nat} {v : Value} {m : List (Nat × List Nat)} (h : RI W bs t v m w) (hb : Below w.heap.size w w') : RI W bs t v m w' := ⟨ownG_next h.1 hb, h.2.1, h.2.2.1.trans (hb.mono h.2.2.1.size), h.2.2.2⟩
theorem drop_data (bs : List Nat) (t M t4 t4M : Nat) (h4 : t4 = t + 4) (hM : t4M = t + 4 + M) : (bs.take t4M).drop t4 = Fr.dataOf (bs.drop t) (9 + M) := by
  subst h4 hM
  unfold Fr.dataOf
  rw [show 9 + M - 5 = 4 + M by omega, List.take_drop, List.drop_drop, show t + (4 + M) = t + 4 + M by omega]
theorem down_any (N j j1 : Nat) (x : Int) (e : x = (j1 : Nat)) (h : j < j1) (hl : j < N) : N - (intOf (.int .i64 x)).toNat < N - (intOf (.int .i64 (j : Nat))).toNat := by
  subst e
  simp only [intOf, Int.toNat_natCast]
  omega
theorem mul256 (x2 x3 M : Nat) (h2 : x2 < 256) (h3 : x3 < 256) (hM : M = x2 * 256 + x3) : IntKind.i64.wrap (IntKind.i64.wrap (256 * IntKind.i64.wrap (x2 : Int)) + IntKind.i64.wrap (x3 : Int)) = (M : Nat) := by
  have a1 : IntKind.i64.wrap (x2 : Int) = (x2 : Nat) := by rw [IntKind.wrap_i64]; omega
  have a2 : IntKind.i64.wrap (x3 : Int) = (x3 : Nat) := by clear a1; rw [IntKind.wrap_i64]; omega
  have a3 : IntKind.i64.wrap (256 * (x2 : Int)) = ((256 * x2 : Nat) : Int) := by clear a1 a2; rw [IntKind.wrap_i64]; omega
  rw [a1, a2, a3]
  clear a1 a2 a3
  rw [IntKind.wrap_i64]
  omega
theorem sub_nat (n t R : Nat) (h : t ≤ n) (hn : n ≤ 1000000) (hR : R = n - t) : wrap64 ((n : Int) - (t : Int)) = (R : Nat) := by unfold wrap64; omega
theorem add_nat (n t R : Nat) (hn : n + t ≤ 1000000) (hR : R = n + t) : wrap64 ((n : Int) + (t : Int)) = (R : Nat) := by unfold wrap64; omega
theorem addi_nat (n t R : Nat) (hn : n + t ≤ 1000000) (hR : R = n + t) : IntKind.i64.wrap ((n : Int) + (t : Int)) = (R : Nat) := by rw [IntKind.wrap_i64]; omega
section
variable (W : World)
set_option maxHeartbeats 4000000 in
set_option maxRecDepth 20000 in
theorem rread_any (n : Nat) (bs : List Nat) (hn : bs.length = n) (hm : n ≤ 100000) (h256 : ∀ x ∈ bs, x < 256) :
    Calls Try.prog 10 #[.string (bstr bs)] W fun e W' => ∃ v, e = .returned (.tuple #[v, .int .i64 ((Fr.readB 3 9 bs).2.1 : Nat), .int .i64 ((Fr.readB 3 9 bs).2.2 : Nat)]) ∧
      W'.ownsRow W.heap.size 27 2 v (Fr.readB 3 9 bs).1.length (rrs (Fr.readB 3 9 bs).1) ∧ Below W.heap.size W W' := by
  obtain ⟨rb, hrb⟩ : ∃ rb, rb = Fr.readB 3 9 bs := ⟨_, rfl⟩
  rw [← hrb]
  obtain ⟨rl, rt, re⟩ := rb
  have HRB := Lib.hid hrb
  have HN := Lib.hid hn
  have HM := Lib.hid hm
  have H256 := Lib.hid h256
  have HIX := Lib.hid (fun (i : Nat) (hi : i < n) (w : World) => str_index w bs i (by omega) h256)
  have hsz : (bstr bs).size = n := by rw [bstr_size]; exact hn
  have HSZ := Lib.hid hsz
  clear hrb hn hm h256 hsz
  go_enter Try.func10, Try.ntmps10
  go_upto_region 3 with fail
  go_loopw [5, 6] (fun ov av wr => ∃ t m, t ≤ n ∧ av = .int .i64 (t : Nat) ∧ RI W bs t ov m wr) (fun _ a _ => n - (intOf a).toNat)
  case atStart => exact ⟨0, [], Nat.zero_le _, rfl, World.ownsRow_nil _ _ _ _, Fr.part_zero, Below.refl _ _, Nat.le_refl _⟩
  case round =>
    obtain ⟨t, m, ht, rfl, hI⟩ := hrel
    have HI := Lib.hid hI
    clear hI
    obtain ⟨r, hr⟩ : ∃ r, r = bs.drop t := ⟨_, rfl⟩
    have HRD := Lib.hid hr
    have HRL := Lib.hid (show r.length = n - t by rw [hr, List.length_drop, HN.out])
    have HRA := Lib.hid (show ∀ i, Fr.at' r i = Fr.at' bs (t + i) from fun i => by rw [hr, Fr.at_drop])
    have HR256 := Lib.hid (show ∀ i, Fr.at' r i < 256 from fun i => by rw [hr, Fr.at_drop]; exact at_lt H256.out _)
    obtain ⟨R, hR⟩ : ∃ R, R = n - t := ⟨_, rfl⟩
    have HRR := Lib.hid hR
    have eR : wrap64 ((n : Int) - (t : Int)) = (R : Nat) := by have := HM.out; unfold wrap64; omega
    have HSZ2 := HSZ.out
    have HTN := Lib.hid ht
    clear hr hR ht
    by_cases h9 : (9 : Int) ≤ (R : Nat)
    case neg =>
      have HE := Lib.hid (show (rl, rt, re) = (m, t, 0) from HRB.out.trans (Fr.part_end HI.out.2.1 (by rw [← HRD.out]; exact Fr.whole_no1 (Or.inl (by rw [HRL.out, ← HRR.out]; omega)))))
      go_wp2_with fail
      go_ret3
      have e := HE.out
      simp only [Prod.mk.injEq] at e
      obtain ⟨rfl, rfl, rfl⟩ := e
      exact ⟨_, rfl, HI.out.1, HI.out.2.2.1⟩
    have HR9 := Lib.hid (show 9 ≤ R by omega)
    have k0 := HIX.out t (by have := HRR.out; omega)
    obtain ⟨x0, hx0⟩ : ∃ x, x = Fr.at' bs t := ⟨_, rfl⟩
    rw [← hx0] at k0
    by_cases h90 : x0 = 90
    case neg =>
      have HE := Lib.hid (show (rl, rt, re) = (m, t, 0) from HRB.out.trans (Fr.part_end HI.out.2.1 (by rw [← HRD.out]; exact Fr.whole_no1 (Or.inr (by rw [HRA.out, Nat.add_zero, ← hx0]; exact h90)))))
      have q0 : ((x0 : Int) == 90) = false := by simpa using by omega
      clear h90 hx0
      go_wp2_with fail
      go_ret3
      have e := HE.out
      simp only [Prod.mk.injEq] at e
      obtain ⟨rfl, rfl, rfl⟩ := e
      exact ⟨_, rfl, HI.out.1, HI.out.2.2.1⟩
    have HX0 := Lib.hid (show Fr.at' r 0 = 90 by rw [HRA.out, Nat.add_zero, ← hx0]; exact h90)
    subst h90
    clear hx0
    obtain ⟨t2, ht2⟩ : ∃ t2, t2 = t + 2 := ⟨_, rfl⟩
    obtain ⟨t3, ht3⟩ : ∃ t3, t3 = t + 3 := ⟨_, rfl⟩
    have k2 := HIX.out t2 (by have := HRR.out; have := HR9.out; omega)
    have k3 := HIX.out t3 (by have := HRR.out; have := HR9.out; omega)
    obtain ⟨x2, hx2⟩ : ∃ x, x = Fr.at' bs t2 := ⟨_, rfl⟩
    obtain ⟨x3, hx3⟩ : ∃ x, x = Fr.at' bs t3 := ⟨_, rfl⟩
    rw [← hx2] at k2
    rw [← hx3] at k3
    have HX2 := Lib.hid (show Fr.at' r 2 = x2 by rw [HRA.out, ← ht2, hx2])
    have HX3 := Lib.hid (show Fr.at' r 3 = x3 by rw [HRA.out, ← ht3, hx3])
    obtain ⟨M, hM⟩ : ∃ M, M = x2 * 256 + x3 := ⟨_, rfl⟩
    have HMM := Lib.hid hM
    have HL2 := Lib.hid (show x2 < 256 by rw [hx2]; exact at_lt H256.out _)
    have HL3 := Lib.hid (show x3 < 256 by rw [hx3]; exact at_lt H256.out _)
    have HT2 := Lib.hid (show IntKind.i64.wrap ((t : Int) + 2) = (t2 : Nat) by have := HM.out; have := HTN.out; rw [IntKind.wrap_i64]; omega)
    have HT3 := Lib.hid (show IntKind.i64.wrap ((t : Int) + 3) = (t3 : Nat) by have := HM.out; have := HTN.out; rw [IntKind.wrap_i64]; omega)
    clear ht2 ht3 hx2 hx3 hM
    have e2 := HT2.out
    have e3 := HT3.out
    go_upto_region 4 with fail
    clear eR
    refine wp_region_tree (S := (fun w' => w' = wr.drew)) (.take 0 (.take 1 (.take 2 (.take 3 (.take 4 (.take 5 (.take 6 (.take 7 (.take 8 (.take 9 (.take 10 (.take 11 (.take 12 .nil))))))))))))) 9999 (by kernel_rfl) (by kernel_rfl) (by kernel_rfl) (by kernel_rfl) (by kernel_rfl) (fun _ _ d _ _ h => by cases d <;> exact h) rfl (fun hHeld => ?_); simp only [Tree.map, List.getElem?_toArray, List.getElem?_cons_zero, List.getElem?_cons_succ]
    (repeat (first | (refine wpTree.take (v := undef) (Or.inr ⟨by rfl, rfl⟩) ?_; simp only [Act.put, List.setIfInBounds_toArray, List.set_cons_zero, List.set_cons_succ]) | (refine wpTree.take (v := ?_) (Or.inl ⟨by rfl, ?_⟩) ?_; rotate_left; (focus (intro _ hS; (try dsimp only at hS); go_split_ands; (try subst hS); go_simp; (try (with_reducible rfl)); done)); simp only [Act.put, List.setIfInBounds_toArray, List.set_cons_zero, List.set_cons_succ])))
    refine wpTree.done ?_
    have HMW := Lib.hid (show IntKind.i64.wrap (IntKind.i64.wrap (256 * IntKind.i64.wrap (x2 : Int)) + IntKind.i64.wrap (x3 : Int)) = (M : Nat) from mul256 x2 x3 M HL2.out HL3.out HMM.out)
    rw [HMW.out]
    clear hHeld HMW k0 k2 k3 e2 e3 HT2 HT3 h9
    have HI2 := Lib.hid (HI.out.next (Below.refl _ _).drew)
    obtain ⟨R9, hR9⟩ : ∃ R9, R9 = R - 9 := ⟨_, rfl⟩
    have HR9E := Lib.hid hR9
    have eR := show wrap64 ((n : Int) - (t : Int)) = (R : Nat) from sub_nat n t R HTN.out (by have := HM.out; omega) HRR.out
    have e9 := show wrap64 ((R : Int) - 9) = (R9 : Nat) from sub_nat R 9 R9 HR9.out (by have := HM.out; have := HRR.out; clear eR; omega) hR9
    have HM16 := Lib.hid (show M ≤ 70000 by have := HMM.out; have := HL2.out; have := HL3.out; clear eR e9; omega)
    clear hR9
    by_cases p5 : (R9 : Int) < (M : Nat)
    · have HE := Lib.hid (show (rl, rt, re) = (m, t, 0) from HRB.out.trans (Fr.part_end HI.out.2.1 (by rw [← HRD.out]; exact Fr.whole_no2 (M := M) (by rw [HRL.out, ← HRR.out]; exact HR9.out) HX0.out (by rw [HX2.out, HX3.out]; exact HMM.out) (Or.inl (by rw [HRL.out, ← HRR.out]; have := HR9E.out; clear eR e9; omega)))))
      go_wp2_with fail
      go_ret3
      have e := HE.out
      simp only [Prod.mk.injEq] at e
      obtain ⟨rfl, rfl, rfl⟩ := e
      exact ⟨_, rfl, HI2.out.1, HI2.out.2.2.1⟩
    have HMR := Lib.hid (show M + 9 ≤ R by have := HR9E.out; have := HR9.out; clear eR e9; omega)
    have HTR := Lib.hid (show t + R = n by have := HRR.out; have := HTN.out; clear eR e9; omega)
    obtain ⟨tM, htM⟩ : ∃ tM, tM = t + M := ⟨_, rfl⟩
    obtain ⟨t8, ht8⟩ : ∃ t8, t8 = tM + 8 := ⟨_, rfl⟩
    have HTM := Lib.hid htM
    have HT8 := Lib.hid ht8
    have aM := add_nat t M tM (by have := HM.out; have := HTN.out; have := HM16.out; clear eR e9; omega) htM
    have a8 := show wrap64 ((tM : Int) + 8) = (t8 : Nat) from add_nat tM 8 t8 (by have := HM.out; have := HTN.out; have := HM16.out; clear eR e9 aM; omega) ht8
    have k8 := HIX.out t8 (by have := HTR.out; have := HMR.out; clear eR e9 aM a8; omega)
    obtain ⟨x8, hx8⟩ : ∃ x, x = Fr.at' bs t8 := ⟨_, rfl⟩
    rw [← hx8] at k8
    have HX8 := Lib.hid (show Fr.at' r (8 + M) = x8 by rw [HRA.out, hx8, ht8, htM]; congr 1; omega)
    clear htM ht8 hx8
    by_cases h165 : x8 = 165
    case neg =>
      have q8 : ((x8 : Int) != 165) = true := (by simpa using (show ¬ (x8 : Int) = 165 by omega))
      have HE := Lib.hid (show (rl, rt, re) = (m, t, 0) from HRB.out.trans (Fr.part_end HI.out.2.1 (by rw [← HRD.out]; exact Fr.whole_no2 (M := M) (by rw [HRL.out, ← HRR.out]; exact HR9.out) HX0.out (by rw [HX2.out, HX3.out]; exact HMM.out) (Or.inr (by rw [HX8.out]; exact h165)))))
      clear h165
      go_wp2_with fail
      go_ret3
      have e := HE.out
      simp only [Prod.mk.injEq] at e
      obtain ⟨rfl, rfl, rfl⟩ := e
      exact ⟨_, rfl, HI2.out.1, HI2.out.2.2.1⟩
    subst h165
    have HWH := Lib.hid (show Fr.whole r = 9 + M from Fr.whole_yes (by rw [HRL.out, ← HRR.out]; exact HR9.out) HX0.out (by rw [HX2.out, HX3.out]; exact HMM.out) (by rw [HRL.out, ← HRR.out]; have := HMR.out; clear eR e9 aM a8; omega) HX8.out)
    go_upto_region 7 with fail
    clear eR e9 aM a8 k8 p5
    obtain ⟨t1, ht1⟩ : ∃ t1, t1 = t + 1 := ⟨_, rfl⟩
    obtain ⟨t4, ht4⟩ : ∃ t4, t4 = t + 4 := ⟨_, rfl⟩
    obtain ⟨t4M, ht4M⟩ : ∃ t4M, t4M = t4 + M := ⟨_, rfl⟩
    have hsm := HM.out
    have htr := HTR.out
    have hmr := HMR.out
    have b1 := show IntKind.i64.wrap ((t : Int) + 1) = (t1 : Nat) from addi_nat t 1 t1 (by omega) ht1
    have b4 := show IntKind.i64.wrap ((t : Int) + 4) = (t4 : Nat) from addi_nat t 4 t4 (by clear b1; omega) ht4
    have b4M := addi_nat t4 M t4M (by clear b1 b4; omega) ht4M
    have HB := Lib.hid (And.intro b1 (And.intro b4 b4M))
    clear b1 b4 b4M
    have k1 := HIX.out t1 (by omega)
    obtain ⟨x1, hx1⟩ : ∃ x, x = Fr.at' bs t1 := ⟨_, rfl⟩
    rw [← hx1] at k1
    have HX1 := Lib.hid (show Fr.kindOf r = x1 by unfold Fr.kindOf; rw [HRA.out, ← ht1, hx1])
    have HL1 := Lib.hid (show x1 < 256 by rw [hx1]; exact at_lt H256.out _)
    obtain ⟨dt, hdt⟩ : ∃ dt, dt = Fr.dataOf r (9 + M) := ⟨_, rfl⟩
    have hsl : ∀ w : World, (Instr.slice 9 (.string (bstr bs)) (some (.int .i64 (t4 : Int))) (some (.int .i64 (t4M : Int))) none).run Try.prog w = .ok (.string (bstr dt)) w := fun w => by
      rw [str_slice w bs t4 t4M (by omega) (by rw [HN.out]; omega), hdt, HRD.out, drop_data bs t M t4 t4M ht4 (by omega)]
    have HDT := Lib.hid hdt
    have HDL := Lib.hid (show dt.length = M by rw [hdt]; unfold Fr.dataOf; rw [List.length_drop, List.length_take, HRL.out, ← HRR.out]; omega)
    have HD256 := Lib.hid (show ∀ x ∈ dt, x < 256 by rw [hdt, HRD.out]; exact data_256 (fun x hx => H256.out x (List.mem_of_mem_drop hx)))
    have wk := i64_small x1 (by have := HL1.out; omega)
    obtain ⟨b1, b4, b4M⟩ := HB.out
    clear ht1 ht4 ht4M hsm htr hmr hx1 hdt
    refine wp_region_tree (S := fun _ => True) (.take 0 (.take 1 (.take 2 (.take 3 (.take 4 (.take 5 (.take 6 (.take 7 (.take 8 (.take 9 (.take 10 (.take 11 (.take 12 (.take 13 (.one 14 (.one 15 .nil)))))))))))))))) 9999 (by kernel_rfl) (by kernel_rfl) (by kernel_rfl) (by kernel_rfl) (by kernel_rfl) (fun _ _ d _ _ h => by cases d <;> exact h) trivial (fun _ => ?_); simp only [Tree.map, List.getElem?_toArray, List.getElem?_cons_zero, List.getElem?_cons_succ]
    (repeat (first | (refine wpTree.take (v := undef) (Or.inr ⟨by rfl, rfl⟩) ?_; simp only [Act.put, List.setIfInBounds_toArray, List.set_cons_zero, List.set_cons_succ]) | (refine wpTree.take (v := ?_) (Or.inl ⟨by rfl, ?_⟩) ?_; rotate_left; (focus (intro _ _; go_simp; (try (with_reducible rfl)); done)); simp only [Act.put, List.setIfInBounds_toArray, List.set_cons_zero, List.set_cons_succ])))
    refine wpTree.one (fun K hK => ?_)
    go_simp
    refine hK.out _ _ trivial (fun _ => ?_)
    clear hK K
    (try simp only [Act.put, List.setIfInBounds_toArray, List.set_cons_zero, List.set_cons_succ])
    refine wpTree.one (fun K hK => ?_)
    have hb0 := (((Below.refl wr.heap.size wr).alloc (Nat.le_refl _) (.cells #[.int .i64 0, .string ⟨#[]⟩] 27)).drew).drew
    have hX0 := ((Blk.new wr 27 #[.int .i64 0, .string ⟨#[]⟩]).drew).drew
    obtain ⟨y0, hy0⟩ : ∃ y0, y0 = (wr.alloc (.cells #[.int .i64 0, .string ⟨#[]⟩] 27)).drew.drew := ⟨_, rfl⟩
    rw [← hy0] at hb0 hX0 ⊢
    clear hy0
    refine step_store_blk (by rfl) 27 _ _ rfl wr.heap.size 27 #[.int .i64 0, .string ⟨#[]⟩] #[.int .i64 (x1 : Nat), .string (bstr dt)] rfl rfl hX0 (by kernel_rfl) rfl (by simp [Value.oneCell']) ?_
    have hX1 := hX0.setRow #[.int .i64 (x1 : Nat), .string (bstr dt)]
    have hb1 := below_setRow hb0 (Nat.le_refl _) #[.int .i64 (x1 : Nat), .string (bstr dt)]
    obtain ⟨y1, hy1⟩ : ∃ y1, y1 = y0.setRow wr.heap.size #[.int .i64 (x1 : Nat), .string (bstr dt)] := ⟨_, rfl⟩
    rw [← hy1] at hX1 hb1 ⊢
    refine hK.out _ _ trivial (fun _ => ?_)
    clear hK K hy1 hX0 hb0
    (try simp only [Act.put, List.setIfInBounds_toArray, List.set_cons_zero, List.set_cons_succ])
    refine wpTree.done ?_
    have HX3 := Lib.hid hX1
    have HI3 := Lib.hid (HI.out.next hb1)
    obtain ⟨g, hg⟩ : ∃ g, g = wr.heap.size := ⟨_, rfl⟩
    rw [← hg] at HX3 ⊢
    have HRT := Lib.hid (rright_any y1 (x1 : Nat) (bstr dt) M (by rw [bstr_size, HDL.out]))
    obtain ⟨rb, hrb⟩ : ∃ rb, rb = Fr.rightB (x1 : Nat) M := ⟨_, rfl⟩
    rw [← hrb] at HRT
    have HRB2 := Lib.hid hrb
    clear b1 b4 b4M k1 wk hsl hX1 hb1 hg hrb HI2 HB HIX
    have g0 : y1.cell? ⟨g, 0, none⟩ = some (.int .i64 (x1 : Nat)) := HX3.out.cell 0
    have g1 : y1.cell? ⟨g, 1, none⟩ = some (.string (bstr dt)) := HX3.out.cell 1
    have hwne : Fr.whole (bs.drop t) ≠ 0 := by rw [← HRD.out, HWH.out]; omega
    have HWN := Lib.hid hwne
    clear hwne
    have HPB := Lib.hid (show ∀ er : Nat, Fr.errOf 3 9 r (9 + M) = er → er ≠ 0 → (rl, rt, re) = (m, t, er) from fun er he h0 => by
      have := Fr.part_bad HI3.out.2.1 HWN.out (by rw [← HRD.out, HWH.out, he]; exact h0)
      rw [← HRD.out, HWH.out, he] at this
      exact HRB.out.trans this)
    cases rb with
    | false =>
      have HE := Lib.hid (HPB.out 3 (by unfold Fr.errOf; rw [HX1.out, ← HDT.out, HDL.out, ← HRB2.out, if_pos rfl]) (by decide))
      go_wp2_with (go_at_call 12; refine HRT.out.mono ?_; rintro e w2 ⟨rfl, hb⟩; have HI4 := Lib.hid (HI3.out.next hb); clear hb)
      go_ret3
      have e := HE.out
      simp only [Prod.mk.injEq] at e
      obtain ⟨rfl, rfl, rfl⟩ := e
      exact ⟨_, rfl, HI4.out.1, HI4.out.2.2.1⟩
    | true =>
      go_upto_region 10 with (go_at_call 12; refine HRT.out.mono ?_; rintro e w2 ⟨rfl, hb⟩; have HI4 := Lib.hid (HI3.out.next hb); have HX4 := Lib.hid (HX3.out.next hb); clear hb g0 g1 HX3 HRT)
      have g0 : w2.cell? ⟨g, 0, none⟩ = some (.int .i64 (x1 : Nat)) := HX4.out.cell 0
      have g1 : w2.cell? ⟨g, 1, none⟩ = some (.string (bstr dt)) := HX4.out.cell 1
      have hRB := HRB2.out
      have HM6 := Lib.hid (rightB_len hRB)
      have HFI := Lib.hid (show Fr.Fine (x1, dt) from by
        unfold Fr.rightB at hRB
        have h2 := hRB.symm
        simp only [Bool.and_eq_true, decide_eq_true_eq] at h2
        exact ⟨by show 1 ≤ x1; omega, HL1.out, by show dt.length ≤ 60000; rw [HDL.out]; exact h2.2.2, HD256.out⟩)
      obtain ⟨t9, ht9⟩ : ∃ t9, t9 = t + 9 := ⟨_, rfl⟩
      obtain ⟨t9M, ht9M⟩ : ∃ t9M, t9M = t9 + M := ⟨_, rfl⟩
      have hsm := HM.out
      have htr := HTR.out
      have hmr := HMR.out
      have HB9 := Lib.hid (show IntKind.i64.wrap ((t : Int) + 9) = (t9 : Nat) from addi_nat t 9 t9 (by omega) ht9)
      have HB9M := Lib.hid (addi_nat t9 M t9M (by omega) ht9M)
      have HC9 := Lib.hid (show wrap64 ((t : Int) + 9) = (t9 : Nat) from add_nat t 9 t9 (by omega) ht9)
      have HC9M := Lib.hid (add_nat t9 M t9M (by omega) ht9M)
      obtain ⟨rk, hrk⟩ : ∃ rk, rk = r.take (9 + M) := ⟨_, rfl⟩
      obtain ⟨fk, hfk⟩ : ∃ fk, fk = Fr.frame x1 dt := ⟨_, rfl⟩
      have hsl2 : ∀ w : World, (Instr.slice 9 (.string (bstr bs)) (some (.int .i64 (t : Int))) (some (.int .i64 (t9M : Int))) none).run Try.prog w = .ok (.string (bstr rk)) w := fun w => by
        rw [str_slice w bs t t9M (by omega) (by rw [HN.out]; omega), hrk, HRD.out, List.take_drop, show t + (9 + M) = t9M by omega]
      have hrk256 : ∀ x ∈ rk, x < 256 := fun x hx => by rw [hrk, HRD.out] at hx; exact H256.out x (List.mem_of_mem_drop (List.mem_of_mem_take hx))
      have hfk256 : ∀ x ∈ fk, x < 256 := by
        have := frames_256 [(x1, dt)] (fun y hy => by simp only [List.mem_singleton] at hy; subst hy; exact HFI.out)
        simpa [Fr.frames, hfk] using this
      have hbeq := toList_beq fk rk hfk256 hrk256
      have hw := rwrite_any w2.drew x1 HL1.out dt (by rw [HDL.out]; exact HM6.out) HD256.out
      rw [← hfk] at hw
      have HW := Lib.hid hw
      have HT9 := Lib.hid (show t9M = t + (9 + M) by omega)
      have HIFF := Lib.hid (show fk = rk ↔ Fr.errOf 3 9 r (9 + M) = 0 from by
        have h := Fr.frame_take (r := r) (M := M) (by rw [HRL.out, ← HRR.out]; omega) HX0.out (by rw [HX2.out, HX3.out]; exact HMM.out) HX8.out HR256.out
        rw [HX1.out, ← HDT.out] at h
        rw [hfk, hrk, h]
        unfold Fr.errOf
        rw [HX1.out, ← HDT.out, HDL.out, ← HRB2.out, if_neg (by decide)]
        constructor
        · intro h; rw [if_pos h]
        · intro h; by_cases h2 : Fr.sumAt r (9 + M) = Crc.sum (x1 :: dt)
          · exact h2
          · rw [if_neg h2] at h; cases h)
      have HERR := Lib.hid (show Fr.errOf 3 9 r (9 + M) ≠ 0 → Fr.errOf 3 9 r (9 + M) = 9 from by
        unfold Fr.errOf
        rw [HX1.out, ← HDT.out, HDL.out, ← HRB2.out, if_neg (by decide)]
        split
        · intro h; exact absurd rfl h
        · intro _; rfl)
      clear hsm htr hmr ht9 ht9M hrk hfk hrk256 hfk256 hw hRB
      obtain ⟨bq, hbq⟩ : ∃ bq, bq = decide (fk = rk) := ⟨_, rfl⟩
      rw [← hbq] at hbeq
      have HBQ := Lib.hid hbq
      clear hbq
      have e9 := HB9.out
      have e9M := HB9M.out
      refine wp_region_tree (S := (fun w' => w'.cell? ⟨g, 0, none⟩ = some (.int .i64 (x1 : Nat)) ∧ w'.cell? ⟨g, 1, none⟩ = some (.string (bstr dt)))) (.take 0 (.take 2 (.take 3 (.take 4 (.take 5 (.take 6 (.take 7 (.take 8 (.one 1 (.take 9 .nil)))))))))) 9999 (by kernel_rfl) (by kernel_rfl) (by kernel_rfl) (by kernel_rfl) (by kernel_rfl) (fun _ _ d _ _ h => by cases d <;> exact h) ⟨g0, g1⟩ (fun hHeld => ?_); simp only [Tree.map, List.getElem?_toArray, List.getElem?_cons_zero, List.getElem?_cons_succ]
      (repeat (first | (refine wpTree.take (v := undef) (Or.inr ⟨by rfl, rfl⟩) ?_; simp only [Act.put, List.setIfInBounds_toArray, List.set_cons_zero, List.set_cons_succ]) | (refine wpTree.take (v := ?_) (Or.inl ⟨by rfl, ?_⟩) ?_; rotate_left; (focus (intro _ hS; (try dsimp only at hS); go_split_ands; (try subst hS); go_simp; (try (with_reducible rfl)); done)); simp only [Act.put, List.setIfInBounds_toArray, List.set_cons_zero, List.set_cons_succ])))
      refine wpTree.one (fun K hK => ?_)
      go_simp
      go_at_call 14
      refine HW.out.mono ?_
      rintro e w3 ⟨rfl, hb⟩
      have hb' : Below w2.heap.size w2 w3 := ⟨hb.os, hb.tape, hb.output, hb.size, hb.block⟩
      have HI5 := Lib.hid (HI4.out.next hb')
      have HX5 := Lib.hid (HX4.out.next hb')
      refine hK.out _ _ ⟨HX5.out.cell 0, HX5.out.cell 1⟩ (fun _ => ?_)
      clear hK K hHeld hb hb' HW g0 g1
      (try simp only [Act.put, List.setIfInBounds_toArray, List.set_cons_zero, List.set_cons_succ])
      (repeat (first | (refine wpTree.take (v := undef) (Or.inr ⟨by rfl, rfl⟩) ?_; simp only [Act.put, List.setIfInBounds_toArray, List.set_cons_zero, List.set_cons_succ]) | (refine wpTree.take (v := ?_) (Or.inl ⟨by rfl, ?_⟩) ?_; rotate_left; (focus (intro _ hS; (try dsimp only at hS); go_split_ands; (try subst hS); go_simp; (try (with_reducible rfl)); done)); simp only [Act.put, List.setIfInBounds_toArray, List.set_cons_zero, List.set_cons_succ])))
      refine wpTree.done ?_
      clear e9 e9M hsl2 hbeq
      cases bq with
      | false =>
        have HNE := Lib.hid (show Fr.errOf 3 9 r (9 + M) ≠ 0 from fun h => absurd (HIFF.out.2 h) (of_decide_eq_false HBQ.out.symm))
        have HE := Lib.hid (HPB.out 9 (HERR.out HNE.out) (by decide))
        go_wp2_with fail
        go_ret3
        have e := HE.out
        simp only [Prod.mk.injEq] at e
        obtain ⟨rfl, rfl, rfl⟩ := e
        exact ⟨_, rfl, HI5.out.1, HI5.out.2.2.1⟩
      | true =>
        have HE0 := Lib.hid (HIFF.out.1 (of_decide_eq_true HBQ.out.symm))
        have g0 : w3.cell? ⟨g, 0, none⟩ = some (.int .i64 (x1 : Nat)) := HX5.out.cell 0
        have g1 : w3.cell? ⟨g, 1, none⟩ = some (.string (bstr dt)) := HX5.out.cell 1
        have hb6 := (Below.refl w3.heap.size w3).alloc (Nat.le_refl _) (.cells #[.int .i64 (x1 : Nat), .string (bstr dt)] 27)
        have HO6 := Lib.hid (ownG_next HI5.out.1 hb6)
        have hS6 : Src (w3.alloc (.cells #[.int .i64 (x1 : Nat), .string (bstr dt)] 27)) (some ⟨w3.heap.size, 0, none⟩) 1 (rr (x1, dt)) := Or.inl ⟨_, rfl, fun j u hj => by
          rw [Byt.add_plain, Nat.zero_add, (Blk.new w3 27 #[.int .i64 (x1 : Nat), .string (bstr dt)]).cell]
          show (rr (x1, dt)).toArray[j]? = some u
          rw [List.getElem?_toArray]
          exact hj⟩
        have HS6 := Lib.hid hS6
        have HZ6 := Lib.hid (show W.heap.size ≤ (w3.alloc (.cells #[.int .i64 (x1 : Nat), .string (bstr dt)] 27)).heap.size from Nat.le_trans HI5.out.2.2.1.size hb6.size)
        have HB6 := Lib.hid (HI5.out.2.2.1.trans (hb6.mono HI5.out.2.2.1.size))
        have HLL := Lib.hid (show m.length ≤ 100000 by have := HI5.out.2.2.2; have := HTN.out; have := HM.out; omega)
        obtain ⟨i0, z0, hi, hz, hsz, hby, hzs⟩ := info_rr
        clear hb6 hS6
        have c9 := HC9.out
        have c9M := HC9M.out
        go_wp2_with (at_builtin; refine wpList_append_g (by rfl) _ _ 35 rfl W.heap.size 27 i0 z0 Try.underlying35 hi hz (by rw [hsz]; exact hzs) (by rw [hsz]; decide) _ m.length (rrs m) rfl (by rw [hsz]; exact HO6.out) (some ⟨w3.heap.size, 0, none⟩) 1 1 (rr (x1, dt)) rfl (by rw [hsz, rr_len]) HS6.out (rr_ones _) (by unfold maxLen; have := HLL.out; omega) (by rw [hby]; have := HLL.out; clear c9 c9M; omega) HZ6.out ?_; rw [hsz]; intro v7 w7 hown hgrow hloc; have HB7 := Lib.hid (ownG_below hgrow HO6.out (Nat.le_refl _) HZ6.out HB6.out); have HO7 := Lib.hid hown; clear hown hgrow hloc)
        go_roundw
        case rel =>
          refine ⟨t9M, m ++ [(x1, dt)], by rw [HT9.out]; have := HTR.out; have := HMR.out; clear c9 c9M; omega, by rw [HC9M.out], ?_, ?_, HB7.out, ?_⟩
          · have := HO7.out
            rw [List.length_append]
            rwa [show rrs (m ++ [(x1, dt)]) = rrs m ++ rr (x1, dt) by simp [rrs]]
          · have := Fr.part_next HI5.out.2.1 HWN.out (by rw [← HRD.out, HWH.out]; exact HE0.out)
            rw [← HRD.out, HWH.out, HX1.out, ← HDT.out, ← HT9.out] at this
            exact this
          · rw [List.length_append, HT9.out]; have := HI5.out.2.2.2; simp; clear c9 c9M; omega
        case measure => exact down_any n t t9M _ HC9M.out (by rw [HT9.out]; clear c9 c9M; omega) (by have := HTR.out; have := HMR.out; clear c9 c9M; omega)
end
end Go.Proofs.Ytejehmimidnaiaa
