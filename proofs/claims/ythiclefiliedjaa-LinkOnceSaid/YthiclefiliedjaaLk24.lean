/-
link: the document's link: Put.
-/
import Derived.Test.YthiclefiliedjaaLk23
namespace Go.Proofs.Ythiclefiliedjaa
open Go.RowKit
set_option linter.unusedSimpArgs false
set_option linter.unusedVariables false
namespace Lk
theorem made_app {w w1 w2 : World} {v v' : Value} {a b : List Nat} (hM : Made w w1 v a) (hown : w2.ownsRow w.heap.size 5 1 v' (a.length + b.length) (u8s a ++ u8s b)) (hg : w1.grownBy w2 v.ownBlock) : Made w w2 v' (a ++ b) := by
  refine ⟨?_, hM.2.trans (grown_below hM.1 hg hM.2.size)⟩
  rw [u8s_app, List.length_append]; exact hown
theorem made_next {w w1 w2 : World} {v : Value} {a : List Nat} (hM : Made w w1 v a) (hb : Below w1.heap.size w1 w2) : Made w w2 v a := ⟨ownG_next hM.1 hb, hM.2.trans (hb.mono hM.2.size)⟩
theorem made_src {w w1 : World} {v : Value} {a : List Nat} (hM : Made w w1 v a) : ∃ A c, v = .slice A a.length c ∧ Src w1 A a.length (u8s a) := src_own hM.1
theorem Rf.at_ {w : World} {B r n c : Nat} {A : Option Addr} {s : RS} (h : Rf w B r s (.slice A n c)) {i : Nat} {b : List Nat} (hi : s.all[i]? = some b) : ∃ g, A = some ⟨g, 0, none⟩ ∧ w.cell? ⟨g, i, none⟩ = some (.string (Byt.bstr b)) := by
  have h0 := h.own
  have hl := (List.getElem?_eq_some_iff.1 hi).1
  obtain ⟨_, ⟨e, hz⟩ | ⟨g, cap, cur, e, _⟩⟩ := id h0
  · omega
  · simp only [Value.slice.injEq] at e
    obtain ⟨rfl, _⟩ := e
    refine ⟨g, rfl, ?_⟩
    have := h0.cells rfl i (.string (Byt.bstr b)) (by unfold strs; rw [List.getElem?_map, hi]; rfl)
    rwa [add_plain, Nat.zero_add] at this
theorem encTs_snoc {ts : List (List Nat)} {j : Nat} {b : List Nat} (h : ts[j]? = some b) (pre : List Nat) : pre ++ encTs (ts.take (j + 1)) = pre ++ encTs (ts.take j) ++ (enc b.length ++ b) := by
  rw [encTs_take h, List.append_assoc]
theorem wr_i64 (a : Nat) (h : a ≤ 1000) : wrap64 ((a : Int) + 1) = ((a + 1 : Nat) : Int) ∧ IntKind.i64.wrap ((a : Int) + 1) = ((a + 1 : Nat) : Int) ∧ IntKind.u64.wrap ((a + 1 : Nat) : Int) = ((a + 1 : Nat) : Int) ∧ IntKind.u64.wrap ((a : Int) + 1) = ((a + 1 : Nat) : Int) := by
  refine ⟨by unfold wrap64; omega, by rw [IntKind.wrap_i64]; omega, by rw [IntKind.wrap_u64]; omega, by rw [IntKind.wrap_u64]; omega⟩
set_option maxRecDepth 20000 in
set_option maxHeartbeats 4000000 in
theorem rput_any (w : World) {B r : Nat} {s : RS} {v : Value} (h : Rf w B r s v) : Calls Try.prog 20 #[.pointer (some ⟨r, 0, none⟩)] w fun e w' => ∃ v', e = .returned v' ∧ Made w w' v' (encL s.ls) := by
  have HR := Lib.hid h
  obtain ⟨A, c, rfl⟩ := h.vs
  have c0 : w.cell? ⟨r, 0, none⟩ = some (.slice A s.all.length c) := h.blk.cell 0
  have c1 : w.cell? ⟨r, 1, none⟩ = some (.int .i64 (s.a : Nat)) := h.blk.cell 1
  obtain ⟨n, hnn⟩ : ∃ n, n = s.all.length := ⟨_, rfl⟩
  have HN := Lib.hid hnn
  have HA := Lib.hid (show s.a ≤ n ∧ n ≤ 300 ∧ s.t ≤ 300 by rw [hnn]; exact ⟨h.al, h.le.1, h.le.2⟩)
  rw [← hnn] at c0
  obtain ⟨z, hz⟩ : ∃ z : Nat, z = n - s.a := ⟨_, rfl⟩
  have HZ := Lib.hid hz
  have e1 : IntKind.u64.wrap ((n : Int) + 1) = ((n + 1 : Nat) : Int) := by have := HA.out; rw [IntKind.wrap_u64]; omega
  have e2 : IntKind.i64.wrap ((n : Int) + 1) = ((n + 1 : Nat) : Int) := by clear e1; have := HA.out; rw [IntKind.wrap_i64]; omega
  have e3 : IntKind.i64.wrap ((n : Int) - (s.a : Int)) = (z : Nat) := by clear e1 e2; have := HA.out; rw [IntKind.wrap_i64]; omega
  have e4 : IntKind.u64.wrap (z : Int) = (z : Nat) := by clear e1 e2 e3; have := HA.out; rw [IntKind.wrap_u64]; omega
  have e5 : wrap64 ((n : Int) - (s.a : Int)) = (z : Nat) := by clear e1 e2 e3 e4; have := HA.out; unfold wrap64; omega
  have e6 : wrap64 ((n : Int) + 1) = ((n + 1 : Nat) : Int) := by clear e1 e2 e3 e4 e5; have := HA.out; unfold wrap64; omega
  have e7 : IntKind.u64.wrap ((n + 1 : Nat) : Int) = ((n + 1 : Nat) : Int) := by clear e1 e2 e3 e4 e5 e6; have := HA.out; rw [IntKind.wrap_u64]; omega
  have HF1 := Lib.hid (fun w' => rfnum_any (n + 1) w' (by clear e1 e2 e3 e4 e5 e6 e7; have := HA.out; omega))
  have HF2 := Lib.hid (fun w' => rfnum_any z w' (by clear e1 e2 e3 e4 e5 e6 e7; have := HA.out; omega))
  have HF3 := Lib.hid (fun w' => rfnum_any (s.t + 1) w' (by clear e1 e2 e3 e4 e5 e6 e7; have := HA.out; omega))
  have HL := Lib.hid (show (enc (n + 1)).length ≤ 10 ∧ (enc z).length ≤ 10 by clear e1 e2 e3 e4 e5 e6 e7; have := HA.out; exact ⟨enc_len _ (by omega), enc_len _ (by omega)⟩)
  clear h hnn hz
  go_enter Try.func20, Try.ntmps20
  go_upto_region 1 with fail
  have hcc : w.cell? ⟨r, 0, none⟩ = some (.slice A n c) ∧ w.cell? ⟨r, 1, none⟩ = some (.int .i64 (s.a : Nat)) := ⟨c0, c1⟩
  refine wp_region_tree (S := (fun w' => w'.cell? ⟨r, 0, none⟩ = some (.slice A n c) ∧ w'.cell? ⟨r, 1, none⟩ = some (.int .i64 (s.a : Nat)))) (.take 0 (.take 1 (.take 2 (.take 3 (.take 4 (.take 5 (.take 6 (.take 8 (.take 9 (.take 10 (.take 11 (.take 12 (.take 13 (.take 14 (.take 15 (.take 16 (.take 17 (.take 18 (.one 7 (.one 19 (.one 20 (.take 21 .nil)))))))))))))))))))))) 9999 (by kernel_rfl) (by kernel_rfl) (by kernel_rfl) (by kernel_rfl) (by kernel_rfl) (fun _ _ d _ _ h => by cases d <;> exact h) hcc (fun hHeld => ?_); simp only [Tree.map, List.getElem?_toArray, List.getElem?_cons_zero, List.getElem?_cons_succ]
  (repeat (first | (refine wpTree.take (v := undef) (Or.inr ⟨by rfl, rfl⟩) ?_; simp only [Act.put, List.setIfInBounds_toArray, List.set_cons_zero, List.set_cons_succ]) | (refine wpTree.take (v := ?_) (Or.inl ⟨by rfl, ?_⟩) ?_; rotate_left; (focus (intro _ hS; (try dsimp only at hS); go_split_ands; (try subst hS); go_simp; (try (with_reducible rfl)); done)); simp only [Act.put, List.setIfInBounds_toArray, List.set_cons_zero, List.set_cons_succ])))
  clear e1 e2 e3 e4 e5 e6 e7
  have HK := Lib.hid (fun w' (hb : Below w.heap.size w w') => (show w'.cell? ⟨r, 0, none⟩ = some (.slice A n c) ∧ w'.cell? ⟨r, 1, none⟩ = some (.int .i64 (s.a : Nat)) from ⟨by rw [HN.out]; exact (HR.out.next hb).blk.cell 0, (HR.out.next hb).blk.cell 1⟩))
  refine wpTree.one (fun K hK => ?_)
  go_simp
  go_at_call 40
  refine (HF1.out w.drew).mono ?_
  rintro e w1 ⟨v1, rfl, hM⟩
  have H1 := Lib.hid (show Made w w1 v1 (enc (n + 1)) from ⟨hM.1, (Below.refl w.heap.size w).drew.trans hM.2⟩)
  refine hK.out _ _ (HK.out _ H1.out.2) (fun _ => ?_)
  clear hK K hHeld hM hcc c0 c1
  (try simp only [Act.put, List.setIfInBounds_toArray, List.set_cons_zero, List.set_cons_succ])
  refine wpTree.one (fun K hK => ?_)
  go_simp
  go_at_call 40
  refine (HF2.out w1).mono ?_
  rintro e w2 ⟨v2, rfl, hM⟩
  have H2 := Lib.hid (And.intro (made_next H1.out hM.2) hM)
  obtain ⟨A2, k2, rfl, hs2⟩ := made_src hM
  refine hK.out _ _ (HK.out _ H2.out.1.2) (fun _ => ?_)
  clear hK K hM
  (try simp only [Act.put, List.setIfInBounds_toArray, List.set_cons_zero, List.set_cons_succ])
  refine wpTree.one (fun K hK => ?_)
  refine Byt.step_append_u8 w2 (by rfl) _ _ rfl w.heap.size v1 (enc (n + 1)).length (u8s (enc (n + 1))) rfl H2.out.1.1 A2 (enc z).length k2 (u8s (enc z)) rfl (u8s_len _) hs2 (u8s_one _) (by have := HL.out; omega) H2.out.1.2.size ?_
  intro v3 w3 hown hg
  have H3 := Lib.hid (made_app H2.out.1 hown hg)
  refine hK.out _ _ (HK.out _ H3.out.2) (fun _ => ?_)
  clear hK K hown hg hs2 H1 H2
  (try simp only [Act.put, List.setIfInBounds_toArray, List.set_cons_zero, List.set_cons_succ])
  (repeat (first | (refine wpTree.take (v := undef) (Or.inr ⟨by rfl, rfl⟩) ?_; simp only [Act.put, List.setIfInBounds_toArray, List.set_cons_zero, List.set_cons_succ]) | (refine wpTree.take (v := ?_) (Or.inl ⟨by rfl, ?_⟩) ?_; rotate_left; (focus (intro _ hS; (try dsimp only at hS); go_split_ands; (try subst hS); go_simp; (try (with_reducible rfl)); done)); simp only [Act.put, List.setIfInBounds_toArray, List.set_cons_zero, List.set_cons_succ])))
  refine wpTree.done ?_
  have hc3 := HK.out _ H3.out.2
  obtain ⟨c0, c1⟩ := hc3
  go_upto_region 3 with fail
  obtain ⟨pre, hpre⟩ : ∃ pre, pre = enc (n + 1) ++ enc z := ⟨_, rfl⟩
  rw [← hpre] at H3
  have HPRE := Lib.hid hpre
  have HPL := Lib.hid (show pre.length ≤ 20 by rw [hpre, List.length_append]; have := HL.out; omega)
  clear hpre c0 c1
  go_loopw [3, 4] (fun ov iv wr => ∃ j p : Nat, j ≤ z ∧ p = s.a + j ∧ iv = .int .i64 (p : Nat) ∧ Made w wr ov (pre ++ encTs (s.ls.ts.take j))) (fun _ iv _ => n - (intOf iv).toNat)
  case atStart => exact ⟨0, s.a, by omega, rfl, rfl, by rw [List.take_zero, show encTs [] = [] from rfl, List.append_nil]; exact H3.out⟩
  case round =>
    clear H3
    obtain ⟨j, p, hj, hp, rfl, hM⟩ := hrel
    have HM := Lib.hid hM
    have HP := Lib.hid (And.intro hp (show p ≤ n by have := HA.out; have := HZ.out; omega))
    obtain ⟨ps, hps⟩ : ∃ ps, ps = pre ++ encTs (s.ls.ts.take j) := ⟨_, rfl⟩
    have HPS := Lib.hid hps
    have HTL := Lib.hid (show ps.length ≤ 600000 by
      have h1 := encTs_len (ts := s.ls.ts.take j) (fun b hb => (HR.out.ok b (List.mem_of_mem_drop (List.mem_of_mem_take hb))).2.2)
      have h2 : (s.ls.ts.take j).length ≤ 300 := by rw [List.length_take]; have := HA.out; have := HZ.out; omega
      have h3 := HPL.out
      rw [hps, List.length_append]; omega)
    rw [← hps] at hM HM
    clear hps
    obtain ⟨A5, k5, hv5, -⟩ := made_src hM
    obtain ⟨pl, hpl⟩ : ∃ pl, pl = ps.length := ⟨_, rfl⟩
    have HPN := Lib.hid hpl
    rw [← hpl] at hv5 HTL
    subst hv5
    clear hpl
    obtain ⟨c0, c1⟩ := HK.out _ hM.2
    clear hM hp
    by_cases hlt : j < z
    · have hpn : p < n := by have := HP.out.1; have := HZ.out; omega
      obtain ⟨b, hb⟩ : ∃ b, s.all[p]? = some b := ⟨_, List.getElem?_eq_getElem (by rw [← HN.out]; exact hpn)⟩
      have hts : s.ls.ts[j]? = some b := by
        show (s.all.drop s.a)[j]? = some b
        rw [List.getElem?_drop, ← HP.out.1]; exact hb
      obtain ⟨g, hA, hcb⟩ := (HR.out.next HM.out.2).at_ hb
      have hok := HR.out.ok b (List.mem_of_getElem? hb)
      subst hA
      obtain ⟨g6, k6, w6, hcv, hk6, _, hg6, hb6, hy6⟩ := str_row wr b hok.1
      obtain ⟨tb, htb⟩ : ∃ tb, tb = enc b.length ++ b := ⟨_, rfl⟩
      have HTB := Lib.hid htb
      have HTX := Lib.hid (rftext_any (some ⟨g6, 0, none⟩) b.length k6 b w6 rfl (hy6.src (fun e => by cases e)) (by omega))
      rw [← htb] at HTX
      obtain ⟨tl, htl⟩ : ∃ tl, tl = tb.length := ⟨_, rfl⟩
      have HTN := Lib.hid htl
      have HEB := Lib.hid (show tl ≤ 1900 by rw [htl, htb, List.length_append]; have := hok.2.2; have := enc_len b.length (by omega); omega)
      clear htb htl
      have H6 := Lib.hid (And.intro (made_next HM.out hb6) hb6)
      have HTS := Lib.hid (And.intro hts (And.intro hok.2.2 hlt))
      have i1 : (p : Int) < (n : Nat) := by omega
      have i2 : (0 : Int) ≤ (p : Nat) := by omega
      have hn300 : n ≤ 300 := HA.out.2.1
      clear hk6 hg6 hb6 hy6 hok hts hb hlt hj hpn
      go_wp2_with (first | (go_at_call 41; refine HTX.out.mono ?_; rintro e w7 ⟨v7, rfl, hM⟩; obtain ⟨A7, k7, hv7, hs7⟩ := made_src hM; rw [← HTN.out] at hv7 hs7; subst hv7; have H7 := Lib.hid (And.intro (made_next H6.out.1 hM.2) hs7); clear hM hs7 HTX) | (refine wpList_append_u8 _ rfl _ _ rfl w.heap.size (.slice A5 pl k5) pl (u8s ps) rfl (by have := H7.out.1.1; rwa [← HPN.out] at this) A7 tl k7 (u8s tb) rfl (by rw [u8s_len, HTN.out]) H7.out.2 (u8s_one _) (by have := HTL.out; have := HEB.out; omega) H7.out.1.2.size ?_; intro v8 w8 hown hg _; have H8 := Lib.hid (made_app (a := ps) (b := tb) H7.out.1 (by rw [← HPN.out, ← HTN.out]; exact hown) hg); clear hown hg H7))
      go_roundw
      case rel => exact ⟨j + 1, p + 1, by have := HTS.out.2.2; omega, by have := HP.out.1; omega, by go_num, by rw [encTs_snoc HTS.out.1, ← HPS.out, ← HTB.out]; exact H8.out⟩
      case measure => simp [intOf]; have := HTS.out.2.2; have := HP.out; have := HZ.out; omega
    · have hpe : p = n := by have := HP.out; have := HZ.out; have := HA.out; omega
      have hjz : j = z := by omega
      have i1 : ¬ (p : Int) < (n : Nat) := by omega
      have c2 : wr.cell? ⟨r, 2, none⟩ = some (.int .i64 (s.t : Nat)) := (HR.out.next HM.out.2).blk.cell 2
      obtain ⟨f1, f2, f3, f4⟩ := wr_i64 s.t (by have := HA.out; omega)
      have HEN := Lib.hid (show ps ++ enc (s.t + 1) = encL s.ls by
        rw [HPS.out]
        have hl : s.ls.ts.length = z := by rw [HZ.out, HN.out]; exact List.length_drop
        rw [List.take_of_length_le (by rw [hl, hjz]; exact Nat.le_refl _), HPRE.out]
        unfold encL
        rw [hl]
        show _ = enc (s.all.length + 1) ++ enc z ++ encTs s.ls.ts ++ enc (s.t + 1)
        rw [← HN.out])
      obtain ⟨tb, htb⟩ : ∃ tb, tb = enc (s.t + 1) := ⟨_, rfl⟩
      obtain ⟨tl, htl⟩ : ∃ tl, tl = tb.length := ⟨_, rfl⟩
      have HTN := Lib.hid htl
      have HET := Lib.hid (show tl ≤ 10 by rw [htl, htb]; exact enc_len _ (by clear f1 f2 f3 f4; have := HA.out; omega))
      have HTX := Lib.hid (HF3.out wr)
      rw [← htb] at HTX HEN
      clear hpe hjz hlt hj htb htl
      go_wp2_with (first | (go_at_call 40; refine HTX.out.mono ?_; rintro e w7 ⟨v7, rfl, hM⟩; obtain ⟨A7, k7, hv7, hs7⟩ := made_src hM; rw [← HTN.out] at hv7 hs7; subst hv7; have H7 := Lib.hid (And.intro (made_next HM.out hM.2) hs7); clear hM hs7) | (refine wpList_append_u8 _ rfl _ _ rfl w.heap.size (.slice A5 pl k5) pl (u8s ps) rfl (by have := H7.out.1.1; rwa [← HPN.out] at this) A7 tl k7 (u8s tb) rfl (by rw [u8s_len, HTN.out]) H7.out.2 (u8s_one _) (by clear f1 f2 f3 f4; have := HTL.out; have := HET.out; omega) H7.out.1.2.size ?_; intro v8 w8 hown hg _; have H8 := Lib.hid (made_app (a := ps) (b := tb) H7.out.1 (by rw [← HPN.out, ← HTN.out]; exact hown) hg); clear hown hg H7))
      clear f1 f2 f3 f4
      go_ret
      refine ⟨v8, rfl, ?_⟩
      rw [← HEN.out]
      exact H8.out
end Lk
end Go.Proofs.Ythiclefiliedjaa
