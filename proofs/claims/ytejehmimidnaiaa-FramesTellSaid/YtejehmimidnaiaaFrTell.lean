/-
FramesTell holds: for every record and all bytes, whether the record may be, its frame, and the records of the bytes, are the document's. No condition.
-/
import Derived.Test.YtejehmimidnaiaaFrRd
namespace Go.Proofs.Ytejehmimidnaiaa
open Go.RowKit Go.ChangeShapes Go.WideShapes Go.ChangeAt Go.WideElems
open Byt
set_option linter.unusedSimpArgs false
set_option linter.unusedVariables false

theorem okWide_struct {P : Program} {w : World} {r : Reach} {base : Nat} {t : TypeId} {fs : Array Field} {v : Value} (ht : P.underlying t = some (.struct fs)) (h : Value.okWide P w r base t v) : ∃ cs, v = .agg cs ∧ cs.size = P.cellsOf t := by
  simp only [Value.okWide, ht] at h
  obtain ⟨cs, h1, h2, _⟩ := h
  exact ⟨cs, h1, h2⟩
set_option maxRecDepth 100000 in
theorem right_fine2 {x : Rc} (h : Fr.rightB x.k x.bs.length = true) (h256 : ∀ y ∈ x.bs, y < 256) : ∃ k : Nat, x.k = (k : Nat) ∧ Fr.Fine (k, x.bs) := by
  unfold Fr.rightB at h
  simp only [Bool.and_eq_true, decide_eq_true_eq] at h
  exact ⟨x.k.toNat, by omega, by show 1 ≤ x.k.toNat; omega, by show x.k.toNat < 256; omega, h.2.2, h256⟩
theorem recs_at {W : World} {l : List Rc} {m : List (Nat × List Nat)} (h : Recs W l m) {j : Nat} (hj : j < m.length) : ∃ x y, l[j]? = some x ∧ m[j]? = some y ∧ x.k = (y.1 : Nat) ∧ x.bs = y.2 := by
  have hl := recs_len1 h
  have e1 := congrArg (fun l => l[j]?) h.1
  simp only [List.getElem?_map] at e1
  rw [List.getElem?_eq_getElem (by omega), List.getElem?_eq_getElem hj] at e1
  simp only [Option.map_some, Option.some.injEq, Prod.mk.injEq] at e1
  exact ⟨_, _, List.getElem?_eq_getElem (by omega), List.getElem?_eq_getElem hj, e1.1, e1.2⟩
/-- A row of the document's records at its places. -/
theorem rr_row {W : World} {B n c : Nat} {A : Option Addr} {l : List (Nat × List Nat)} {i : Nat} {x : Nat × List Nat} (h : W.ownsRow B 27 2 (.slice A n c) l.length (rrs l)) (hx : l[i]? = some x) : ∃ g, A = some ⟨g, 0, none⟩ ∧ W.cell? ⟨g, i * 2, none⟩ = some (.int .i64 (x.1 : Nat)) ∧ W.cell? ⟨g, i * 2 + 1, none⟩ = some (.string (bstr x.2)) := by
  have h1 := h
  obtain ⟨hl, ⟨e, hz⟩ | ⟨g, cap, cur, e, hg, hh, hnc, r⟩⟩ := h
  · rw [List.length_eq_zero_iff.1 hz] at hx
    cases hx
  · simp only [Value.slice.injEq] at e
    obtain ⟨rfl, -, rfl⟩ := e
    refine ⟨g, rfl, ?_, ?_⟩
    · have := h1.cells rfl (2 * i + 0) (.int .i64 (x.1 : Nat)) (by rw [rrs_get l i x 0 hx (by decide)]; rfl)
      rwa [Byt.add_plain, Nat.zero_add, Nat.add_zero, Nat.mul_comm] at this
    · have := h1.cells rfl (2 * i + 1) (.string (bstr x.2)) (by rw [rrs_get l i x 1 hx (by decide)]; rfl)
      rwa [Byt.add_plain, Nat.zero_add, Nat.mul_comm] at this
set_option maxHeartbeats 8000000 in
set_option maxRecDepth 20000 in
theorem tell_walk (W : World) (k : Int) (A B : Option Addr) (n c m c2 : Nat) (bs cs : List Nat) (hn : bs.length = n) (hok : Rc.Ok W ⟨k, A, c, bs⟩) (hm : cs.length = m) (hc2 : m ≤ c2) (hb : ByR W B cs) (hB : B = none → cs = []) (h256 : ∀ x ∈ cs, x < 256) :
    Calls Try.prog 3 #[.agg #[.int .i64 k, .slice A n c], .slice B m c2] W fun e W' => e = .returned (.bool true) ∧ Below W.heap.size W W' := by
  have HN := Lib.hid hn
  have HM := Lib.hid hm
  have HC := Lib.hid hc2
  have HOK := Lib.hid hok
  have HBS := Lib.hid (And.intro hb (And.intro hB h256))
  have HB1 := Lib.hid ((Below.refl W.heap.size W).alloc (Nat.le_refl _) (.cells #[.int .i64 k, .slice A n c] 24))
  have HX1 := Lib.hid (Blk.new W 24 #[.int .i64 k, .slice A n c])
  clear hn hm hc2 hok hb hB h256
  go_enter Try.func3, Try.ntmps3
  go_upto_region 1 with fail
  obtain ⟨W1, hW1⟩ : ∃ W1, W1 = W.alloc (.cells #[.int .i64 k, .slice A n c] 24) := ⟨_, rfl⟩
  rw [← hW1] at HB1 HX1 ⊢
  clear hW1
  obtain ⟨gb, hgb⟩ : ∃ gb, gb = W.heap.size := ⟨_, rfl⟩
  have HGB := Lib.hid hgb
  rw [← hgb] at HX1 ⊢
  have g0 : W1.cell? ⟨gb, 0, none⟩ = some (.int .i64 k) := HX1.out.cell 0
  have g1 : W1.cell? ⟨gb, 1, none⟩ = some (.slice A n c) := HX1.out.cell 1
  clear hgb
  by_cases hbig : ((2000 : Int) < (n : Nat) ∧ (n : Int) ≤ 60000) ∨ (60010 : Int) < (n : Nat) ∨ (3000 : Int) < (m : Nat)
  · have hs : ((2000 : Int) < (n : Nat) ∧ (n : Int) ≤ 60000) ∨ ((2000 : Int) < (n : Nat) ∧ ¬ (n : Int) ≤ 60000 ∧ (60010 : Int) < (n : Nat)) ∨ ((2000 : Int) < (n : Nat) ∧ ¬ (n : Int) ≤ 60000 ∧ ¬ (60010 : Int) < (n : Nat) ∧ (3000 : Int) < (m : Nat)) ∨ (¬ (2000 : Int) < (n : Nat) ∧ ¬ (60010 : Int) < (n : Nat) ∧ (3000 : Int) < (m : Nat)) := by omega
    clear hbig
    rcases hs with ⟨q1, q2⟩ | ⟨q1, q2, q3⟩ | ⟨q1, q2, q3, q4⟩ | ⟨q1, q3, q4⟩
    all_goals
      go_wp2_with (go_at_call 6; refine (alive_any _).mono ?_; rintro e w3 ⟨rfl, hb⟩; have HB3 := Lib.hid (HB1.out.trans (hb.mono HB1.out.size)); clear hb)
      go_ret
      exact ⟨rfl, HB3.out⟩
  have HNS := Lib.hid (show n ≤ 60010 ∧ m ≤ 3000 ∧ (n ≤ 2000 ∨ 60000 < n) by omega)
  go_cut [35] from 15 to 35 (fun t1 wx => t1 = .bool false ∧ wx = W1)
  case first =>
    have hs : (¬ (2000 : Int) < (n : Nat) ∧ ¬ (60010 : Int) < (n : Nat) ∧ ¬ (3000 : Int) < (m : Nat)) ∨ ((2000 : Int) < (n : Nat) ∧ ¬ (n : Int) ≤ 60000 ∧ ¬ (60010 : Int) < (n : Nat) ∧ ¬ (3000 : Int) < (m : Nat)) := by omega
    clear hbig
    rcases hs with ⟨q1, q3, q4⟩ | ⟨q1, q2, q3, q4⟩
    all_goals
      go_wp2_with fail
      go_meet
      exact ⟨rfl, rfl⟩
  case rest =>
    obtain ⟨rfl, rfl⟩ := hcut
    rename World => W2
    clear hbig
    have HAS := Lib.hid (as_any W2 k A n c bs HN.out (by have h := HOK.out.next HB1.out; have h2 := h.rd.src h.hA; simp only at h2; rwa [HN.out] at h2) HOK.out.h256)
    have HS2 := Lib.hid (show (bstr bs).size = n by rw [bstr_size]; exact HN.out)
    go_upto_region 4 with (go_at_call 7; refine HAS.out.mono ?_; rintro e w3 ⟨rfl, hb⟩; have HB3 := Lib.hid (HB1.out.trans (hb.mono HB1.out.size)); have HX3 := Lib.hid (HX1.out.next hb); clear hb HAS g0 g1)
    have hB4 := (Below.refl w3.heap.size w3).alloc (Nat.le_refl _) (.cells #[.int .i64 k, .string (bstr bs)] 27)
    have hY4 := Blk.new w3 27 #[.int .i64 k, .string (bstr bs)]
    obtain ⟨w4, hw4⟩ : ∃ w4, w4 = w3.alloc (.cells #[.int .i64 k, .string (bstr bs)] 27) := ⟨_, rfl⟩
    rw [← hw4] at hB4 hY4 ⊢
    have HX4 := Lib.hid (HX3.out.next hB4)
    have HB4 := Lib.hid (HB3.out.trans (hB4.mono HB3.out.size))
    obtain ⟨gr, hgr⟩ : ∃ gr, gr = w3.heap.size := ⟨_, rfl⟩
    rw [← hgr] at hY4 ⊢
    have HY4 := Lib.hid hY4
    clear hw4 hB4 hY4 hgr HX3
    have g0 : w4.cell? ⟨gb, 0, none⟩ = some (.int .i64 k) := HX4.out.cell 0
    have g1 : w4.cell? ⟨gb, 1, none⟩ = some (.slice A n c) := HX4.out.cell 1
    obtain ⟨rb, hrb⟩ : ∃ rb, rb = Fr.rightB k n := ⟨_, rfl⟩
    have HRB := Lib.hid hrb
    clear hrb
    obtain ⟨tb, htb⟩ : ∃ tb, tb = Fr.readB 3 9 cs := ⟨_, rfl⟩
    obtain ⟨rl, rt, re⟩ := tb
    have HTB := Lib.hid htb
    have HC256 := Lib.hid (show ∀ y ∈ rl, ∀ z ∈ y.2, z < 256 by have := Fr.readB_256 3 9 cs HBS.out.2.2; rw [← htb] at this; exact this)
    have HRL := Lib.hid (show rl.length ≤ 3000 by have := Fr.readB_many 3 9 cs; rw [← htb, HM.out] at this; have h2 := HNS.out.2.1; exact Nat.le_trans this h2)
    clear htb
    cases rb with
    | false =>
      have HW := Lib.hid (write_no w4 k A n c HRB.out.symm)
      go_upto_region 5 with (go_at_call 8; refine HW.out.mono ?_; rintro e w5 ⟨rfl, hb⟩; have HB5 := Lib.hid (HB4.out.trans (hb.mono HB4.out.size)); have HX5 := Lib.hid (HX4.out.next hb); have HY5 := Lib.hid (HY4.out.next hb); clear hb HW g0 g1 HX4 HY4)
      have hR := read_any w5 B m c2 cs HM.out (by have := HNS.out.2.1; omega) HC.out (HBS.out.1.next HB5.out) HBS.out.2.2
      rw [← HTB.out] at hR
      have HRR := Lib.hid hR
      clear hR
      go_upto_region 6 with (go_at_call 9; refine HRR.out.mono ?_; rintro e w6 ⟨v6, l1, rfl, hown, hrec, hb⟩; have HO6 := Lib.hid hown; have HL6 := Lib.hid hrec; have HB6 := Lib.hid (HB5.out.trans (hb.mono HB5.out.size)); have HX6 := Lib.hid (HX5.out.next hb); have HY6 := Lib.hid (HY5.out.next hb); clear hown hrec hb HRR HX5 HY5)
      obtain ⟨A6, c6, rfl, -⟩ := ownG_slice HO6.out
      obtain ⟨L1, hL1⟩ : ∃ L, L = l1.length := ⟨_, rfl⟩
      have HL1 := Lib.hid hL1
      have HO6' := Lib.hid (show w6.ownsRow w5.heap.size 24 2 (.slice A6 L1 c6) l1.length (rcs l1) from by rw [hL1]; exact HO6.out)
      have HLL := Lib.hid (show L1 = rl.length by rw [hL1]; exact recs_len1 HL6.out)
      rw [← hL1]
      clear hL1 HO6
      have kcv := conv_src w6 B m c2 cs (by have := (HBS.out.1.next HB6.out).src HBS.out.2.1; rwa [HM.out] at this) HM.out HBS.out.2.2
      have hR := rread_any w6 m cs HM.out (by have := HNS.out.2.1; omega) HBS.out.2.2
      rw [← HTB.out] at hR
      have HRR := Lib.hid hR
      clear hR
      go_upto_region 7 with (go_at_call 10; refine HRR.out.mono ?_; rintro e w7 ⟨v7, rfl, hown, hb⟩; have HO7 := Lib.hid hown; have HO67 := Lib.hid (ownG_next HO6'.out hb); have HL7 := Lib.hid (HL6.out.next hb); have HB7 := Lib.hid (HB6.out.trans (hb.mono HB6.out.size)); have HX7 := Lib.hid (HX6.out.next hb); have HY7 := Lib.hid (HY6.out.next hb); clear hown hb HRR HX6 HY6 HL6 HO6')
      have hO7 : w7.ownsRow w6.heap.size 27 2 v7 L1 (rrs rl) := by have := HO7.out; rw [HLL.out]; exact this
      obtain ⟨A7, c7, rfl, -⟩ := ownG_slice hO7
      have HO7' := Lib.hid (show w7.ownsRow w6.heap.size 27 2 (.slice A7 L1 c7) rl.length (rrs rl) from HO7.out)
      clear hO7 HO7 kcv
      have g0 : w7.cell? ⟨gb, 0, none⟩ = some (.int .i64 k) := HX7.out.cell 0
      have g1 : w7.cell? ⟨gb, 1, none⟩ = some (.slice A n c) := HX7.out.cell 1
      have r0 : w7.cell? ⟨gr, 0, none⟩ = some (.int .i64 k) := HY7.out.cell 0
      have r1 : w7.cell? ⟨gr, 1, none⟩ = some (.string (bstr bs)) := HY7.out.cell 1
      have hq1 := right_any w7.drew k A n c
      rw [← HRB.out] at hq1
      have HQ1 := Lib.hid hq1
      clear hq1
      refine wp_region_tree (S := (fun w' => w'.cell? ⟨gb, 0, none⟩ = some (.int .i64 k) ∧ w'.cell? ⟨gb, 1, none⟩ = some (.slice A n c) ∧ w'.cell? ⟨gr, 0, none⟩ = some (.int .i64 k) ∧ w'.cell? ⟨gr, 1, none⟩ = some (.string (bstr bs)))) (.take 0 (.take 2 (.one 1 (.one 3 (.take 4 (.take 5 (.take 6 (.take 7 (.take 8 (.take 9 (.take 10 (.take 11 (.take 12 (.take 13 (.take 14 (.take 15 (.take 16 (.take 17 (.take 18 (.take 19 (.take 20 (.take 21 .nil)))))))))))))))))))))) 9999 (by kernel_rfl) (by kernel_rfl) (by kernel_rfl) (by kernel_rfl) (by kernel_rfl) (fun _ _ d _ _ h => by cases d <;> exact h) ⟨g0, g1, r0, r1⟩ (fun hHeld => ?_); simp only [Tree.map, List.getElem?_toArray, List.getElem?_cons_zero, List.getElem?_cons_succ]
      (repeat (first | (refine wpTree.take (v := undef) (Or.inr ⟨by rfl, rfl⟩) ?_; simp only [Act.put, List.setIfInBounds_toArray, List.set_cons_zero, List.set_cons_succ]) | (refine wpTree.take (v := ?_) (Or.inl ⟨by rfl, ?_⟩) ?_; rotate_left; (focus (intro _ hS; (try dsimp only at hS); go_split_ands; (try subst hS); go_simp; (try (with_reducible rfl)); done)); simp only [Act.put, List.setIfInBounds_toArray, List.set_cons_zero, List.set_cons_succ])))
      refine wpTree.one (fun K hK => ?_)
      go_simp
      go_at_call 11
      refine HQ1.out.mono ?_
      rintro e w8 ⟨rfl, hb⟩
      have hb8 : Below w7.heap.size w7 w8 := ⟨hb.os, hb.tape, hb.output, hb.size, hb.block⟩
      refine hK.out _ _ ⟨(HX7.out.next hb8).cell 0, (HX7.out.next hb8).cell 1, (HY7.out.next hb8).cell 0, (HY7.out.next hb8).cell 1⟩ (fun _ => ?_)
      clear hK K hHeld hb HQ1 g0 g1 r0 r1
      (try simp only [Act.put, List.setIfInBounds_toArray, List.set_cons_zero, List.set_cons_succ])
      have hq2 := rright_any w8 k (bstr bs) n HS2.out
      rw [← HRB.out] at hq2
      refine wpTree.one (fun K hK => ?_)
      go_simp
      go_at_call 12
      refine hq2.mono ?_
      rintro e w9 ⟨rfl, hb⟩
      have hb9 := hb8.trans (hb.mono hb8.size)
      have HX9 := Lib.hid (HX7.out.next hb9)
      have HY9 := Lib.hid (HY7.out.next hb9)
      refine hK.out _ _ ⟨HX9.out.cell 0, HX9.out.cell 1, HY9.out.cell 0, HY9.out.cell 1⟩ (fun _ => ?_)
      clear hK K hb hq2
      have HB9 := Lib.hid (HB7.out.trans (hb9.mono HB7.out.size))
      have HL9 := Lib.hid (HL7.out.next hb9)
      have HO9 := Lib.hid (ownG_next HO67.out hb9)
      have HR9 := Lib.hid (ownG_next HO7'.out hb9)
      clear hb8 hb9 HX7 HY7 HL7 HO67 HO7'
      (try simp only [Act.put, List.setIfInBounds_toArray, List.set_cons_zero, List.set_cons_succ])
      (repeat (first | (refine wpTree.take (v := undef) (Or.inr ⟨by rfl, rfl⟩) ?_; simp only [Act.put, List.setIfInBounds_toArray, List.set_cons_zero, List.set_cons_succ]) | (refine wpTree.take (v := ?_) (Or.inl ⟨by rfl, ?_⟩) ?_; rotate_left; (focus (intro _ hS; (try dsimp only at hS); go_split_ands; (try subst hS); go_simp; (try (with_reducible rfl)); done)); simp only [Act.put, List.setIfInBounds_toArray, List.set_cons_zero, List.set_cons_succ])))
      refine wpTree.done ?_
      go_upto_region 9 with fail
      go_upto_region 10 with fail
      go_loopw [14] (fun jv wx => ∃ j : Nat, j ≤ L1 ∧ jv = .int .i64 j ∧ Below w9.heap.size w9 wx) (fun j _ => 4000 - (intOf j).toNat)
      case atStart => exact ⟨0, Nat.zero_le _, rfl, Below.refl _ _⟩
      case round =>
        obtain ⟨j, hj, rfl, hb⟩ := hrel
        have HBJ := Lib.hid hb
        clear hb
        have HBA := Lib.hid (HB9.out.trans (HBJ.out.mono HB9.out.size))
        by_cases hjl : j < L1
        · obtain ⟨x1, y1, hx1, hy1, hxk, hxb⟩ := recs_at HL9.out (j := j) (by rw [← HLL.out]; exact hjl)
          obtain ⟨g1, rfl, hr1⟩ := rec_src (ownG_next HO9.out HBJ.out) hx1
          obtain ⟨g2, rfl, p3, p4⟩ := rr_row (ownG_next HR9.out HBJ.out) hy1
          obtain ⟨r1a, r1b⟩ := recs_mem (HL9.out.next HBJ.out) hx1
          have HX1a := Lib.hid (And.intro r1a r1b)
          have H256x := Lib.hid (show ∀ z ∈ x1.bs, z < 256 by rw [hxb]; exact HC256.out y1 (List.mem_of_getElem? hy1))
          have HXK := Lib.hid hxk
          have HXB := Lib.hid hxb
          have i1 : (j : Int) < (L1 : Nat) := by omega
          obtain ⟨j1, hj1⟩ : ∃ j1, j1 = j + 1 := ⟨_, rfl⟩
          have HJ1 := Lib.hid hj1
          have HJL := Lib.hid hjl
          have HLK := Lib.hid (show L1 ≤ 3000 by rw [HLL.out]; exact HRL.out)
          have HEV := Lib.hid (w_one j j1 hj1 (by have := HLK.out; omega))
          clear hx1 hy1 hxk hxb r1a r1b hj1 hj
          go_upto_region 12 with fail
          refine wp_region_tree (S := (fun w' => w'.rangeAt g1 (j * 2) x1.cells ∧ w'.cell? ⟨g2, j * 2, none⟩ = some (.int .i64 (y1.1 : Nat)) ∧ w'.cell? ⟨g2, j * 2 + 1, none⟩ = some (.string (bstr y1.2)))) (.take 0 (.take 1 (.take 2 (.take 3 (.take 5 (.take 6 (.take 7 (.take 8 (.one 4 (.take 9 .nil)))))))))) 9999 (by kernel_rfl) (by kernel_rfl) (by kernel_rfl) (by kernel_rfl) (by kernel_rfl) (fun _ _ d _ _ h => by cases d <;> exact h) ⟨hr1, p3, p4⟩ (fun hHeld => ?_); simp only [Tree.map, List.getElem?_toArray, List.getElem?_cons_zero, List.getElem?_cons_succ]
          (repeat (first | (refine wpTree.take (v := undef) (Or.inr ⟨by rfl, rfl⟩) ?_; simp only [Act.put, List.setIfInBounds_toArray, List.set_cons_zero, List.set_cons_succ]) | (refine wpTree.take (v := .agg (Rc.cells ?_).toArray) (yieldsIf_load_mid rfl 24 _ rfl _ _ rfl (Rc.cells _) _ ?_ Try.underlying24 rfl (rcinfo _)) ?_; rotate_left; (focus (intro _ hS; (try dsimp only at hS); go_split_ands; assumption)); simp only [Act.put, List.setIfInBounds_toArray, List.set_cons_zero, List.set_cons_succ]) | (refine wpTree.take (v := ?_) (Or.inl ⟨by rfl, ?_⟩) ?_; rotate_left; (focus (intro _ hS; (try dsimp only at hS); go_split_ands; (try subst hS); go_simp; (try (with_reducible rfl)); done)); simp only [Act.put, List.setIfInBounds_toArray, List.set_cons_zero, List.set_cons_succ])))
          refine wpTree.one (fun K hK => ?_)
          go_simp
          go_at_call 7
          refine (as_any _ x1.k x1.A x1.bs.length x1.c x1.bs rfl ((HX1a.out.1.next (Below.refl _ _).drew).byr.src HX1a.out.2) H256x.out).mono ?_
          rintro e w11 ⟨rfl, hb⟩
          have hb' : Below wr.heap.size wr w11 := ⟨hb.os, hb.tape, hb.output, hb.size, hb.block⟩
          refine hK.out _ _ ⟨rng_next hr1 hb', (hb'.cell (p := ⟨g2, j * 2, none⟩) (World.block_lt_of_cell? _ _ p3)).trans p3, (hb'.cell (p := ⟨g2, j * 2 + 1, none⟩) (World.block_lt_of_cell? _ _ p4)).trans p4⟩ (fun _ => ?_)
          clear hK K hb
          have HB12 := Lib.hid (HBJ.out.trans (hb'.mono HBJ.out.size))
          clear hb' hr1 p3 p4
          rw [HXK.out, HXB.out]
          have hneq := fun w => neq_same w (y1.1 : Int) (bstr y1.2)
          (try simp only [Act.put, List.setIfInBounds_toArray, List.set_cons_zero, List.set_cons_succ])
          (repeat (first | (refine wpTree.take (v := undef) (Or.inr ⟨by rfl, rfl⟩) ?_; simp only [Act.put, List.setIfInBounds_toArray, List.set_cons_zero, List.set_cons_succ]) | (refine wpTree.take (v := ?_) (Or.inl ⟨by rfl, ?_⟩) ?_; rotate_left; (focus (intro _ hS; (try dsimp only at hS); go_split_ands; (try subst hS); go_simp; (try (with_reducible rfl)); done)); simp only [Act.put, List.setIfInBounds_toArray, List.set_cons_zero, List.set_cons_succ])))
          refine wpTree.done ?_
          clear hneq hHeld i1 hjl
          go_wp2_with fail
          go_roundw
          case rel => exact ⟨j1, by rw [HJ1.out]; exact HJL.out, by rw [HEV.out], HB12.out⟩
          case measure => exact down_one 4000 j j1 _ HEV.out HJ1.out (by have h1 := HLK.out; have h3 := HJL.out; omega)
        · have i3 : ¬ (j : Int) < (L1 : Nat) := by omega
          have HXw := Lib.hid (HX9.out.next HBJ.out)
          have HYw := Lib.hid (HY9.out.next HBJ.out)
          have r0 : wr.cell? ⟨gr, 0, none⟩ = some (.int .i64 k) := HYw.out.cell 0
          have r1 : wr.cell? ⟨gr, 1, none⟩ = some (.string (bstr bs)) := HYw.out.cell 1
          have hq3 := rright_any wr k (bstr bs) n HS2.out
          rw [← HRB.out] at hq3
          have HQ3 := Lib.hid hq3
          clear hq3 hjl hj
          go_upto_region 15 with (go_at_call 12; refine HQ3.out.mono ?_; rintro e w12 ⟨rfl, hb⟩; have HB12 := Lib.hid (HBA.out.trans (hb.mono HBA.out.size)); have HX12 := Lib.hid (HXw.out.next hb); clear hb HQ3 r0 r1)
          go_wp2_with (first | (go_at_call 6; refine (alive_any _).mono ?_; rintro e w13 ⟨rfl, hb⟩; have HB13 := Lib.hid (HB12.out.trans (hb.mono HB12.out.size)); have g0 : w13.cell? ⟨gb, 0, none⟩ = some (.int .i64 k) := (HX12.out.next hb).cell 0; have g1 : w13.cell? ⟨gb, 1, none⟩ = some (.slice A n c) := (HX12.out.next hb).cell 1; clear hb) | (go_at_call 13; refine (size_no _ k A n c HRB.out.symm).mono ?_; rintro e w14 ⟨rfl, hb⟩; have HB14 := Lib.hid (HB13.out.trans (hb.mono HB13.out.size)); clear hb))
          go_ret
          exact ⟨rfl, HB14.out⟩
    | true =>
      obtain ⟨z, hz, hF⟩ := right_fine2 (x := ⟨k, A, c, bs⟩) (by show Fr.rightB k bs.length = true; rw [HN.out]; exact HRB.out.symm) HOK.out.h256
      have hz' : k = (z : Nat) := hz
      subst hz'
      have HF := Lib.hid hF
      have hw := write_yes w4 z hF.1 hF.2.1 A n c bs HN.out (rightB_len HRB.out) (HOK.out.next HB4.out).rd HOK.out.hA HOK.out.h256
      obtain ⟨N5, hN5⟩ : ∃ N5, N5 = 9 + n := ⟨_, rfl⟩
      rw [← hN5] at hw
      have HW := Lib.hid hw
      have HN5 := Lib.hid hN5
      clear hz hF hw hN5
      go_upto_region 5 with (go_at_call 8; refine HW.out.mono ?_; rintro e w5 ⟨v5, rfl, hown, hb⟩; have HV5 := Lib.hid hown; have HB5 := Lib.hid (HB4.out.trans (hb.mono HB4.out.size)); have HX5 := Lib.hid (HX4.out.next hb); have HY5 := Lib.hid (HY4.out.next hb); clear hown hb HW g0 g1 HX4 HY4)
      obtain ⟨A5, c5, rfl, -⟩ := ownG_slice HV5.out
      have hR := read_any w5 B m c2 cs HM.out (by have := HNS.out.2.1; omega) HC.out (HBS.out.1.next HB5.out) HBS.out.2.2
      rw [← HTB.out] at hR
      have HRR := Lib.hid hR
      clear hR
      go_upto_region 6 with (go_at_call 9; refine HRR.out.mono ?_; rintro e w6 ⟨v6, l1, rfl, hown, hrec, hb⟩; have HO6 := Lib.hid hown; have HL6 := Lib.hid hrec; have HV6 := Lib.hid (ownG_next HV5.out hb); have HB6 := Lib.hid (HB5.out.trans (hb.mono HB5.out.size)); have HX6 := Lib.hid (HX5.out.next hb); have HY6 := Lib.hid (HY5.out.next hb); clear hown hrec hb HRR HX5 HY5)
      obtain ⟨A6, c6, rfl, -⟩ := ownG_slice HO6.out
      obtain ⟨L1, hL1⟩ : ∃ L, L = l1.length := ⟨_, rfl⟩
      have HL1 := Lib.hid hL1
      have HO6' := Lib.hid (show w6.ownsRow w5.heap.size 24 2 (.slice A6 L1 c6) l1.length (rcs l1) from by rw [hL1]; exact HO6.out)
      have HLL := Lib.hid (show L1 = rl.length by rw [hL1]; exact recs_len1 HL6.out)
      rw [← hL1]
      clear hL1 HO6
      have kcv := conv_src w6 B m c2 cs (by have := (HBS.out.1.next HB6.out).src HBS.out.2.1; rwa [HM.out] at this) HM.out HBS.out.2.2
      have hR := rread_any w6 m cs HM.out (by have := HNS.out.2.1; omega) HBS.out.2.2
      rw [← HTB.out] at hR
      have HRR := Lib.hid hR
      clear hR
      go_upto_region 7 with (go_at_call 10; refine HRR.out.mono ?_; rintro e w7 ⟨v7, rfl, hown, hb⟩; have HO7 := Lib.hid hown; have HO67 := Lib.hid (ownG_next HO6'.out hb); have HL7 := Lib.hid (HL6.out.next hb); have HV7 := Lib.hid (ownG_next HV6.out hb); have HB7 := Lib.hid (HB6.out.trans (hb.mono HB6.out.size)); have HX7 := Lib.hid (HX6.out.next hb); have HY7 := Lib.hid (HY6.out.next hb); clear hown hb HRR HX6 HY6 HL6 HO6')
      have hO7 : w7.ownsRow w6.heap.size 27 2 v7 L1 (rrs rl) := by have := HO7.out; rw [HLL.out]; exact this
      obtain ⟨A7, c7, rfl, -⟩ := ownG_slice hO7
      have HO7' := Lib.hid (show w7.ownsRow w6.heap.size 27 2 (.slice A7 L1 c7) rl.length (rrs rl) from HO7.out)
      clear hO7 HO7 kcv
      have g0 : w7.cell? ⟨gb, 0, none⟩ = some (.int .i64 (z : Int)) := HX7.out.cell 0
      have g1 : w7.cell? ⟨gb, 1, none⟩ = some (.slice A n c) := HX7.out.cell 1
      have r0 : w7.cell? ⟨gr, 0, none⟩ = some (.int .i64 (z : Int)) := HY7.out.cell 0
      have r1 : w7.cell? ⟨gr, 1, none⟩ = some (.string (bstr bs)) := HY7.out.cell 1
      have hq1 := right_any w7.drew (z : Int) A n c
      rw [← HRB.out] at hq1
      have HQ1 := Lib.hid hq1
      clear hq1
      refine wp_region_tree (S := (fun w' => w'.cell? ⟨gb, 0, none⟩ = some (.int .i64 (z : Int)) ∧ w'.cell? ⟨gb, 1, none⟩ = some (.slice A n c) ∧ w'.cell? ⟨gr, 0, none⟩ = some (.int .i64 (z : Int)) ∧ w'.cell? ⟨gr, 1, none⟩ = some (.string (bstr bs)))) (.take 0 (.take 2 (.one 1 (.one 3 (.take 4 (.take 5 (.take 6 (.take 7 (.take 8 (.take 9 (.take 10 (.take 11 (.take 12 (.take 13 (.take 14 (.take 15 (.take 16 (.take 17 (.take 18 (.take 19 (.take 20 (.take 21 .nil)))))))))))))))))))))) 9999 (by kernel_rfl) (by kernel_rfl) (by kernel_rfl) (by kernel_rfl) (by kernel_rfl) (fun _ _ d _ _ h => by cases d <;> exact h) ⟨g0, g1, r0, r1⟩ (fun hHeld => ?_); simp only [Tree.map, List.getElem?_toArray, List.getElem?_cons_zero, List.getElem?_cons_succ]
      (repeat (first | (refine wpTree.take (v := undef) (Or.inr ⟨by rfl, rfl⟩) ?_; simp only [Act.put, List.setIfInBounds_toArray, List.set_cons_zero, List.set_cons_succ]) | (refine wpTree.take (v := ?_) (Or.inl ⟨by rfl, ?_⟩) ?_; rotate_left; (focus (intro _ hS; (try dsimp only at hS); go_split_ands; (try subst hS); go_simp; (try (with_reducible rfl)); done)); simp only [Act.put, List.setIfInBounds_toArray, List.set_cons_zero, List.set_cons_succ])))
      refine wpTree.one (fun K hK => ?_)
      go_simp
      go_at_call 11
      refine HQ1.out.mono ?_
      rintro e w8 ⟨rfl, hb⟩
      have hb8 : Below w7.heap.size w7 w8 := ⟨hb.os, hb.tape, hb.output, hb.size, hb.block⟩
      refine hK.out _ _ ⟨(HX7.out.next hb8).cell 0, (HX7.out.next hb8).cell 1, (HY7.out.next hb8).cell 0, (HY7.out.next hb8).cell 1⟩ (fun _ => ?_)
      clear hK K hHeld hb HQ1 g0 g1 r0 r1
      (try simp only [Act.put, List.setIfInBounds_toArray, List.set_cons_zero, List.set_cons_succ])
      have hq2 := rright_any w8 (z : Int) (bstr bs) n HS2.out
      rw [← HRB.out] at hq2
      refine wpTree.one (fun K hK => ?_)
      go_simp
      go_at_call 12
      refine hq2.mono ?_
      rintro e w9 ⟨rfl, hb⟩
      have hb9 := hb8.trans (hb.mono hb8.size)
      have HX9 := Lib.hid (HX7.out.next hb9)
      have HY9 := Lib.hid (HY7.out.next hb9)
      refine hK.out _ _ ⟨HX9.out.cell 0, HX9.out.cell 1, HY9.out.cell 0, HY9.out.cell 1⟩ (fun _ => ?_)
      clear hK K hb hq2
      have HB9 := Lib.hid (HB7.out.trans (hb9.mono HB7.out.size))
      have HL9 := Lib.hid (HL7.out.next hb9)
      have HO9 := Lib.hid (ownG_next HO67.out hb9)
      have HR9 := Lib.hid (ownG_next HO7'.out hb9)
      have HV9 := Lib.hid (ownG_next HV7.out hb9)
      clear hb8 hb9 HX7 HY7 HL7 HO67 HO7'
      (try simp only [Act.put, List.setIfInBounds_toArray, List.set_cons_zero, List.set_cons_succ])
      (repeat (first | (refine wpTree.take (v := undef) (Or.inr ⟨by rfl, rfl⟩) ?_; simp only [Act.put, List.setIfInBounds_toArray, List.set_cons_zero, List.set_cons_succ]) | (refine wpTree.take (v := ?_) (Or.inl ⟨by rfl, ?_⟩) ?_; rotate_left; (focus (intro _ hS; (try dsimp only at hS); go_split_ands; (try subst hS); go_simp; (try (with_reducible rfl)); done)); simp only [Act.put, List.setIfInBounds_toArray, List.set_cons_zero, List.set_cons_succ])))
      refine wpTree.done ?_
      go_upto_region 9 with fail
      go_upto_region 10 with fail
      go_loopw [14] (fun jv wx => ∃ j : Nat, j ≤ L1 ∧ jv = .int .i64 j ∧ Below w9.heap.size w9 wx) (fun j _ => 4000 - (intOf j).toNat)
      case atStart => exact ⟨0, Nat.zero_le _, rfl, Below.refl _ _⟩
      case round =>
        obtain ⟨j, hj, rfl, hb⟩ := hrel
        have HBJ := Lib.hid hb
        clear hb
        have HBA := Lib.hid (HB9.out.trans (HBJ.out.mono HB9.out.size))
        by_cases hjl : j < L1
        · obtain ⟨x1, y1, hx1, hy1, hxk, hxb⟩ := recs_at HL9.out (j := j) (by rw [← HLL.out]; exact hjl)
          obtain ⟨g1, rfl, hr1⟩ := rec_src (ownG_next HO9.out HBJ.out) hx1
          obtain ⟨g2, rfl, p3, p4⟩ := rr_row (ownG_next HR9.out HBJ.out) hy1
          obtain ⟨r1a, r1b⟩ := recs_mem (HL9.out.next HBJ.out) hx1
          have HX1a := Lib.hid (And.intro r1a r1b)
          have H256x := Lib.hid (show ∀ z ∈ x1.bs, z < 256 by rw [hxb]; exact HC256.out y1 (List.mem_of_getElem? hy1))
          have HXK := Lib.hid hxk
          have HXB := Lib.hid hxb
          have i1 : (j : Int) < (L1 : Nat) := by omega
          obtain ⟨j1, hj1⟩ : ∃ j1, j1 = j + 1 := ⟨_, rfl⟩
          have HJ1 := Lib.hid hj1
          have HJL := Lib.hid hjl
          have HLK := Lib.hid (show L1 ≤ 3000 by rw [HLL.out]; exact HRL.out)
          have HEV := Lib.hid (w_one j j1 hj1 (by have := HLK.out; omega))
          clear hx1 hy1 hxk hxb r1a r1b hj1 hj
          go_upto_region 12 with fail
          refine wp_region_tree (S := (fun w' => w'.rangeAt g1 (j * 2) x1.cells ∧ w'.cell? ⟨g2, j * 2, none⟩ = some (.int .i64 (y1.1 : Nat)) ∧ w'.cell? ⟨g2, j * 2 + 1, none⟩ = some (.string (bstr y1.2)))) (.take 0 (.take 1 (.take 2 (.take 3 (.take 5 (.take 6 (.take 7 (.take 8 (.one 4 (.take 9 .nil)))))))))) 9999 (by kernel_rfl) (by kernel_rfl) (by kernel_rfl) (by kernel_rfl) (by kernel_rfl) (fun _ _ d _ _ h => by cases d <;> exact h) ⟨hr1, p3, p4⟩ (fun hHeld => ?_); simp only [Tree.map, List.getElem?_toArray, List.getElem?_cons_zero, List.getElem?_cons_succ]
          (repeat (first | (refine wpTree.take (v := undef) (Or.inr ⟨by rfl, rfl⟩) ?_; simp only [Act.put, List.setIfInBounds_toArray, List.set_cons_zero, List.set_cons_succ]) | (refine wpTree.take (v := .agg (Rc.cells ?_).toArray) (yieldsIf_load_mid rfl 24 _ rfl _ _ rfl (Rc.cells _) _ ?_ Try.underlying24 rfl (rcinfo _)) ?_; rotate_left; (focus (intro _ hS; (try dsimp only at hS); go_split_ands; assumption)); simp only [Act.put, List.setIfInBounds_toArray, List.set_cons_zero, List.set_cons_succ]) | (refine wpTree.take (v := ?_) (Or.inl ⟨by rfl, ?_⟩) ?_; rotate_left; (focus (intro _ hS; (try dsimp only at hS); go_split_ands; (try subst hS); go_simp; (try (with_reducible rfl)); done)); simp only [Act.put, List.setIfInBounds_toArray, List.set_cons_zero, List.set_cons_succ])))
          refine wpTree.one (fun K hK => ?_)
          go_simp
          go_at_call 7
          refine (as_any _ x1.k x1.A x1.bs.length x1.c x1.bs rfl ((HX1a.out.1.next (Below.refl _ _).drew).byr.src HX1a.out.2) H256x.out).mono ?_
          rintro e w11 ⟨rfl, hb⟩
          have hb' : Below wr.heap.size wr w11 := ⟨hb.os, hb.tape, hb.output, hb.size, hb.block⟩
          refine hK.out _ _ ⟨rng_next hr1 hb', (hb'.cell (p := ⟨g2, j * 2, none⟩) (World.block_lt_of_cell? _ _ p3)).trans p3, (hb'.cell (p := ⟨g2, j * 2 + 1, none⟩) (World.block_lt_of_cell? _ _ p4)).trans p4⟩ (fun _ => ?_)
          clear hK K hb
          have HB12 := Lib.hid (HBJ.out.trans (hb'.mono HBJ.out.size))
          clear hb' hr1 p3 p4
          rw [HXK.out, HXB.out]
          have hneq := fun w => neq_same w (y1.1 : Int) (bstr y1.2)
          (try simp only [Act.put, List.setIfInBounds_toArray, List.set_cons_zero, List.set_cons_succ])
          (repeat (first | (refine wpTree.take (v := undef) (Or.inr ⟨by rfl, rfl⟩) ?_; simp only [Act.put, List.setIfInBounds_toArray, List.set_cons_zero, List.set_cons_succ]) | (refine wpTree.take (v := ?_) (Or.inl ⟨by rfl, ?_⟩) ?_; rotate_left; (focus (intro _ hS; (try dsimp only at hS); go_split_ands; (try subst hS); go_simp; (try (with_reducible rfl)); done)); simp only [Act.put, List.setIfInBounds_toArray, List.set_cons_zero, List.set_cons_succ])))
          refine wpTree.done ?_
          clear hneq hHeld i1 hjl
          go_wp2_with fail
          go_roundw
          case rel => exact ⟨j1, by rw [HJ1.out]; exact HJL.out, by rw [HEV.out], HB12.out⟩
          case measure => exact down_one 4000 j j1 _ HEV.out HJ1.out (by have h1 := HLK.out; have h3 := HJL.out; omega)
        · have i3 : ¬ (j : Int) < (L1 : Nat) := by omega
          have HXw := Lib.hid (HX9.out.next HBJ.out)
          have HYw := Lib.hid (HY9.out.next HBJ.out)
          have HVw := Lib.hid (ownG_next HV9.out HBJ.out)
          have r0 : wr.cell? ⟨gr, 0, none⟩ = some (.int .i64 (z : Int)) := HYw.out.cell 0
          have r1 : wr.cell? ⟨gr, 1, none⟩ = some (.string (bstr bs)) := HYw.out.cell 1
          have hq3 := rright_any wr (z : Int) (bstr bs) n HS2.out
          rw [← HRB.out] at hq3
          have HQ3 := Lib.hid hq3
          clear hq3 hjl hj
          go_upto_region 16 with (go_at_call 12; refine HQ3.out.mono ?_; rintro e w12 ⟨rfl, hb⟩; have HB12 := Lib.hid (HBA.out.trans (hb.mono HBA.out.size)); have HX12 := Lib.hid (HXw.out.next hb); have HY12 := Lib.hid (HYw.out.next hb); have HV12 := Lib.hid (ownG_next HVw.out hb); clear hb HQ3 r0 r1)
          obtain ⟨fr, hfr⟩ : ∃ fr, fr = Fr.frame z bs := ⟨_, rfl⟩
          have HFL := Lib.hid (show fr.length = N5 by rw [hfr, Fr.frame_len, HN5.out, HN.out])
          have HF256 := Lib.hid (show ∀ x ∈ fr, x < 256 by
            have := frames_256 [(z, bs)] (fun y hy => by simp only [List.mem_singleton] at hy; subst hy; exact HF.out)
            simpa [Fr.frames, hfr] using this)
          have hv12 := HV12.out
          rw [← hfr, ← HFL.out] at hv12
          obtain ⟨A5', c5', e5, -, hr5, hA5⟩ := own_byr hv12
          simp only [Value.slice.injEq, true_and] at e5
          obtain ⟨rfl, rfl⟩ := e5
          have HSRC := Lib.hid (show ∀ wq, Below w12.heap.size w12 wq → Src wq A5 N5 (u8s fr) from fun wq hb => by have := (hr5.next hb).src hA5; rwa [HFL.out] at this)
          have HFRE := Lib.hid hfr
          have g0 : w12.cell? ⟨gb, 0, none⟩ = some (.int .i64 (z : Int)) := HX12.out.cell 0
          have g1 : w12.cell? ⟨gb, 1, none⟩ = some (.slice A n c) := HX12.out.cell 1
          have r0 : w12.cell? ⟨gr, 0, none⟩ = some (.int .i64 (z : Int)) := HY12.out.cell 0
          have r1 : w12.cell? ⟨gr, 1, none⟩ = some (.string (bstr bs)) := HY12.out.cell 1
          clear hv12 hr5 hA5 hfr
          refine wp_region_tree (S := (fun w' => w'.cell? ⟨gb, 0, none⟩ = some (.int .i64 (z : Int)) ∧ w'.cell? ⟨gb, 1, none⟩ = some (.slice A n c) ∧ w'.cell? ⟨gr, 0, none⟩ = some (.int .i64 (z : Int)) ∧ w'.cell? ⟨gr, 1, none⟩ = some (.string (bstr bs)) ∧ Below w12.heap.size w12 w')) (.one 0 (.take 1 (.take 2 (.take 3 (.take 4 (.take 5 (.take 6 (.take 7 (.take 8 (.one 9 (.take 10 (.take 11 (.take 12 (.take 13 (.take 15 (.take 16 (.one 14 (.take 17 (.take 18 (.take 19 .nil)))))))))))))))))))) 9999 (by kernel_rfl) (by kernel_rfl) (by kernel_rfl) (by kernel_rfl) (by kernel_rfl) (fun _ _ d _ _ h => by cases d <;> exact h) ⟨g0, g1, r0, r1, (Below.refl _ _).drew⟩ (fun hHeld => ?_); simp only [Tree.map, List.getElem?_toArray, List.getElem?_cons_zero, List.getElem?_cons_succ]
          refine wpTree.one (fun K hK => ?_)
          go_simp
          go_at_call 6
          refine (alive_any _).mono ?_
          rintro e w13 ⟨rfl, hb⟩
          have hb13 : Below w12.heap.size w12 w13 := ⟨hb.os, hb.tape, hb.output, hb.size, hb.block⟩
          refine hK.out _ _ ⟨(HX12.out.next hb13).cell 0, (HX12.out.next hb13).cell 1, (HY12.out.next hb13).cell 0, (HY12.out.next hb13).cell 1, hb13⟩ (fun _ => ?_)
          clear hK K hHeld hb g0 g1 r0 r1
          (try simp only [Act.put, List.setIfInBounds_toArray, List.set_cons_zero, List.set_cons_succ])
          (repeat (first | (refine wpTree.take (v := undef) (Or.inr ⟨by rfl, rfl⟩) ?_; simp only [Act.put, List.setIfInBounds_toArray, List.set_cons_zero, List.set_cons_succ]) | (refine wpTree.take (v := ?_) (Or.inl ⟨by rfl, ?_⟩) ?_; rotate_left; (focus (intro _ hS; (try dsimp only at hS); go_split_ands; (try subst hS); go_simp; (try (with_reducible rfl)); done)); simp only [Act.put, List.setIfInBounds_toArray, List.set_cons_zero, List.set_cons_succ]) | (refine wpTree.take (v := .string (bstr fr)) (Or.inl ⟨by rfl, ?_⟩) ?_; (focus (intro wq hS; have cvq := conv_src wq A5 N5 c5 fr (HSRC.out wq hS.2.2.2.2) HFL.out HF256.out; go_simp; done)); simp only [Act.put, List.setIfInBounds_toArray, List.set_cons_zero, List.set_cons_succ])))
          refine wpTree.one (fun K hK => ?_)
          go_simp
          go_at_call 14
          refine (rwrite_any w13 z HF.out.2.1 bs HF.out.2.2.1 HF.out.2.2.2).mono ?_
          rintro e w14 ⟨rfl, hb⟩
          have hb14 := hb13.trans (hb.mono hb13.size)
          refine hK.out _ _ ⟨(HX12.out.next hb14).cell 0, (HX12.out.next hb14).cell 1, (HY12.out.next hb14).cell 0, (HY12.out.next hb14).cell 1, hb14⟩ (fun _ => ?_)
          clear hK K hb
          rw [← HFRE.out]
          have htl : ((bstr fr).toList == (bstr fr).toList) = true := beq_self_eq_true _
          (try simp only [Act.put, List.setIfInBounds_toArray, List.set_cons_zero, List.set_cons_succ])
          (repeat (first | (refine wpTree.take (v := undef) (Or.inr ⟨by rfl, rfl⟩) ?_; simp only [Act.put, List.setIfInBounds_toArray, List.set_cons_zero, List.set_cons_succ]) | (refine wpTree.take (v := ?_) (Or.inl ⟨by rfl, ?_⟩) ?_; rotate_left; (focus (intro _ hS; (try dsimp only at hS); go_split_ands; (try subst hS); go_simp; (try (with_reducible rfl)); done)); simp only [Act.put, List.setIfInBounds_toArray, List.set_cons_zero, List.set_cons_succ])))
          have hsz := size_yes w14 (z : Int) A n c HRB.out.symm
          rw [← HN5.out] at hsz
          refine wpTree.one (fun K hK => ?_)
          go_simp
          go_at_call 13
          refine hsz.mono ?_
          rintro e w15 ⟨rfl, hb⟩
          have hb15 := hb14.trans (hb.mono hb14.size)
          refine hK.out _ _ ⟨(HX12.out.next hb15).cell 0, (HX12.out.next hb15).cell 1, (HY12.out.next hb15).cell 0, (HY12.out.next hb15).cell 1, hb15⟩ (fun _ => ?_)
          clear hK K hb hsz
          (try simp only [Act.put, List.setIfInBounds_toArray, List.set_cons_zero, List.set_cons_succ])
          (repeat (first | (refine wpTree.take (v := undef) (Or.inr ⟨by rfl, rfl⟩) ?_; simp only [Act.put, List.setIfInBounds_toArray, List.set_cons_zero, List.set_cons_succ]) | (refine wpTree.take (v := ?_) (Or.inl ⟨by rfl, ?_⟩) ?_; rotate_left; (focus (intro _ hS; (try dsimp only at hS); go_split_ands; (try subst hS); go_simp; (try (with_reducible rfl)); done)); simp only [Act.put, List.setIfInBounds_toArray, List.set_cons_zero, List.set_cons_succ])))
          refine wpTree.done ?_
          have HB15 := Lib.hid (HB12.out.trans (hb15.mono HB12.out.size))
          clear hb13 hb14 hb15 htl
          go_wp2_with fail
          go_ret
          exact ⟨rfl, HB15.out⟩
set_option maxRecDepth 100000 in
theorem tell_lifted (os : Os) (started : os.Started) (H : Type) (enc : TypeId × Value → H) :
    ReturnsInHanded {} Try.checked os 3 .any (Rows.framesTellSpec.pre6 enc Try.prog Try.f3 Rows.framesTellRow.domain false) (Rows.framesTellSpec.post enc Try.prog Try.f3 false true false false) := by
  refine law_lift (C := Try.checked) own_knob started (by kernel_rfl) Try.func3 rfl Try.underlying4 laid_out (by kernel_rfl) rfl ?_
    (ChangeSpec.witness6 (enc := enc) (C := Try.checked) false ⟨#[], #[.agg #[.int .i64 0, .slice none 0 0], .slice none 0 0], []⟩ 8 (by kernel_rfl) (by kernel_rfl) (by kernel_rfl) (by kernel_rfl)) ?_
  · intro ds hds
    match ds, hds with
    | [_, _], _ => rfl
  intro W base args ds ps hval hA hlt hsz
  rw [Try.params3] at hA hval
  obtain ⟨v0, vs0, d0, ds0, p0, q0, hargs, rfl, rfl, h0, r0⟩ := trodAll_cons hA
  obtain ⟨v1, vs1, d1, ds1, p1, q1, rfl, rfl, rfl, h1, r1⟩ := trodAll_cons r0
  obtain ⟨rfl, rfl, rfl⟩ := trodAll_nil r1
  obtain rfl : args = #[v0, v1] := by cases args; simp_all
  obtain ⟨vs, rfl, _⟩ := okWide_struct Try.underlying24 (hval 0 24 v0 rfl rfl)
  obtain ⟨fuel, hf⟩ := h0
  obtain ⟨x, ex, hok⟩ := open_rc hf (fun y hy => hlt y (by simp [hy]))
  have ev : vs = x.cells.toArray := by
    have : vs.toList = x.cells := ex
    rw [← this]
  subst ev
  obtain ⟨B, m, c2, cs, rfl, hm, hc2, _, h256, hb, hB⟩ := open_bytes (hval 1 22 v1 rfl rfl) h1 (fun x hx => hlt x (by simp [hx]))
  exact tell_walk W x.k x.A B x.bs.length x.c m c2 x.bs cs rfl hok hm hc2 hb hB h256

theorem tell_holds : Rows.FramesTellSaid :=
  OpenClaim.holds_of_wide 3 Try.f3 rfl rfl rfl rfl rfl rfl rfl ⟨rfl, rfl, rfl, rfl, rfl⟩ rfl rfl rfl rfl rfl (by kernel_rfl) Try.func3 (by kernel_rfl)
    (of_decide_eq_true (by kernel_rfl)) (by unfold Func.isWrapper; first | (rw [if_pos (by decide +kernel)]; kernel_rfl) | (rw [if_neg (by decide +kernel)]; exact ⟨rfl, rfl⟩))
    (fun os started H enc _ => tell_lifted os started H enc)

end Go.Proofs.Ytejehmimidnaiaa
