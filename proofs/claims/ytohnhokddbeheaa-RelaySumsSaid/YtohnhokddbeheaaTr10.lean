/-
tree: reach.
-/
import Derived.Test.YtohnhokddbeheaaTr9
namespace Go.Proofs.Ytohnhokddbeheaa
open Go.RowKit
set_option linter.unusedSimpArgs false
set_option linter.unusedVariables false
namespace Tr
theorem cl_zero : (cl fun _ => false).toArray = #[.bool false, .bool false, .bool false, .bool false, .bool false, .bool false, .bool false, .bool false, .bool false, .bool false, .bool false, .bool false, .bool false] := by
  unfold cl
  rfl
theorem rm_start (W : World) (jv : Value) (s : Nat) {w3 : World} (hw3 : w3 = ((W.alloc (.cells #[jv] 105)).alloc (.cells (cl fun _ => false).toArray 82)).setCell ⟨W.heap.size + 1, s, none⟩ (.bool true)) :
    w3.heap.size = W.heap.size + 2 ∧ RM W ((w3.alloc (.cells #[.int .i64 (s : Nat)] 3)).alloc (.cells #[.slice (some ⟨w3.heap.size, 0, none⟩) 1 1] 40)) (W.heap.size + 1) W.heap.size (w3.heap.size + 1) jv (fun n => decide (n = s)) (.slice (some ⟨w3.heap.size, 0, none⟩) 1 1) [s] := by
  have hz : w3.heap.size = W.heap.size + 2 := by rw [hw3]; simp [World.setCell]
  have b1 := (Below.refl W.heap.size W).alloc (Nat.le_refl _) (.cells #[jv] 105)
  have b2 := b1.alloc b1.size (.cells (cl fun _ => false).toArray 82)
  have b3 : Below W.heap.size W w3 := by rw [hw3]; exact Below.setCell b2 (by show W.heap.size ≤ W.heap.size + 1; omega) _
  have b4 := (Below.refl w3.heap.size w3).alloc (Nat.le_refl _) (.cells #[.int .i64 (s : Nat)] 3)
  have b5 := b4.alloc b4.size (.cells #[.slice (some ⟨w3.heap.size, 0, none⟩) 1 1] 40)
  have hj : Blk w3 W.heap.size 105 #[jv] := by rw [hw3]; exact ((Blk.new W _ _).alloc _).far (by show W.heap.size ≠ W.heap.size + 1; omega) _
  have hc : Blk w3 (W.heap.size + 1) 82 (cl fun n => decide (n = s)).toArray := by
    have h : Blk ((W.alloc (.cells #[jv] 105)).alloc (.cells (cl fun _ => false).toArray 82)) (W.heap.size + 1) 82 (cl fun _ => false).toArray := Blk.new' (by simp)
    have := h.setCell s (.bool true)
    rw [cl_set] at this
    rw [hw3]
    simpa using this
  refine ⟨hz, by omega, by omega, hc.next b5, hj.next b5, Blk.new' (by simp), ⟨rfl, .inr ⟨w3.heap.size, 0, 1, _, rfl, by omega, (heap_alloc_old (w3.alloc (.cells #[.int .i64 (s : Nat)] 3)) _ (by simp)).trans (heap_alloc_new w3 _), Nat.le_refl _, by decide, Nat.le_refl _, rfl⟩⟩, b3.trans (b5.mono (by omega))⟩
theorem mu_start (s : Nat) : mu (fun n => decide (n = s)) [s] ≤ 100 := by
  unfold mu
  have := those_le (fun n => !decide (n = s)) 12
  unfold thoseL
  simp only [List.length_cons, List.length_nil]
  omega
theorem came_take {c : Nat → Bool} {R : List Nat} {j n : Nat} (h : R[j]? = some n) : (fun i => cameR c (R.take j) i || decide (i = n)) = cameR c (R.take (j + 1)) := by
  funext i
  unfold cameR
  rw [List.take_add_one, h, Bool.or_assoc]
  congr 1
  simp [Bool.decide_or, List.contains_eq_mem]
set_option maxRecDepth 20000 in
set_option maxHeartbeats 16000000 in
theorem reach_any (W : World) (g : FuncId) (cb : Array Value) (p : Nat → Nat → Bool) (s : Nat) (h1 : 1 ≤ s) (h2 : s ≤ 12) (eg : ∀ args w, (callFunc g args).run Try.prog w = .ok (.enter g args) w)
    (hf : ∀ w, Below W.heap.size W w → ∀ a b : Nat, 1 ≤ a → a ≤ 12 → 1 ≤ b → b ≤ 12 → Calls Try.prog g (#[.int .i64 (a : Nat), .int .i64 (b : Nat)] ++ cb) w fun e w' => e = .returned (.bool (p a b)) ∧ Below w.heap.size w w') :
    Calls Try.prog 55 #[.int .i64 (s : Nat), .func (.func g) #[] cb] W fun e W' => ∃ v c, e = .returned v ∧ Nds W' W.heap.size v (thoseL c) ∧ (∀ n, c n = true ↔ Rch p s n) ∧ Below W.heap.size W W' := by
  have HF := Lib.hid hf
  have HEG := Lib.hid eg
  have HS := Lib.hid (And.intro h1 h2)
  have hmf : ∀ (fn : Fn) (first cap : Array Value) (w : World), (Instr.makeFunc fn first cap).run Try.prog w = .ok (.func fn first cap) w := fun _ _ _ _ => rfl
  have HMF := Lib.hid hmf
  obtain ⟨jv, hjv⟩ : ∃ jv : Value, jv = .func (.func g) #[] cb := ⟨_, rfl⟩
  have HJV := Lib.hid hjv
  have k1 : ¬ ((s : Nat) : Int) < 0 := by omega
  have k2 : ((s : Nat) : Int) < 13 := by omega
  have k3 : s < 13 := by omega
  have c1 : ((W.alloc (.cells #[jv] 105)).alloc (.cells (cl fun _ => false).toArray 82)).cell? ⟨W.heap.size + 1, s, none⟩ = some (.bool false) := by
    rw [(Blk.new' (by simp) : Blk _ (W.heap.size + 1) 82 (cl fun _ => false).toArray).cell, List.getElem?_toArray]; exact cl_get _ k3
  have z1 : ((W.alloc (.cells #[jv] 105)).alloc (.cells (cl fun _ => false).toArray 82)).frozen? ⟨W.heap.size + 1, s, none⟩ = false := (Blk.new' (by simp) : Blk _ (W.heap.size + 1) 82 (cl fun _ => false).toArray).frozen s
  have HCZ := Lib.hid (And.intro c1 z1)
  clear hf hmf c1 z1 h1 h2
  go_enter Try.func55, Try.ntmps55
  go_upto_region 2 with fail
  rw [← cl_zero, ← hjv]
  obtain ⟨w2, hw2⟩ : ∃ w2, w2 = (W.alloc (.cells #[jv] 105)).alloc (.cells (cl fun _ => false).toArray 82) := ⟨_, rfl⟩
  rw [← hw2] at HCZ ⊢
  have HW2 := Lib.hid hw2
  clear hw2
  obtain ⟨c1, z1⟩ := HCZ.out
  go_upto_region 3 with fail
  clear c1 z1 k1 k2 k3
  obtain ⟨w3, hw3⟩ : ∃ w3, w3 = w2.setCell ⟨W.heap.size + 1, s, none⟩ (.bool true) := ⟨_, rfl⟩
  rw [← hw3]
  have HST := Lib.hid (rm_start W jv s (w3 := w3) (by rw [hw3, HW2.out]))
  clear hw3 HW2 HCZ
  go_upto_region 4 with fail
  obtain ⟨w4, hw4⟩ : ∃ w4, w4 = (w3.alloc (.cells #[.int .i64 (s : Nat)] 3)).alloc (.cells #[.slice (some ⟨w3.heap.size, 0, none⟩) 1 1] 40) := ⟨_, rfl⟩
  have hz3 := HST.out.1
  have hrm := HST.out.2
  rw [← hw4] at hrm
  (try rw [← hw4])
  obtain ⟨gc, hgc⟩ : ∃ g, g = W.heap.size + 1 := ⟨_, rfl⟩
  rw [← hgc] at hrm
  (try rw [← hgc])
  obtain ⟨gl0, hgl⟩ : ∃ g, g = w3.heap.size + 1 := ⟨_, rfl⟩
  rw [← hgl] at hrm
  (try rw [← hgl])
  obtain ⟨gj, hgj⟩ : ∃ g, g = W.heap.size := ⟨_, rfl⟩
  have HGJ := Lib.hid hgj
  have HRM := Lib.hid (show RM W w4 gc gj gl0 jv (fun n => decide (n = s)) (.slice (some ⟨w3.heap.size, 0, none⟩) 1 1) [s] by rw [hgj]; exact hrm)
  (try rw [← hgj])
  clear hw4 hz3 hrm hgc hgl HST hgj eg hjv
  go_loopg [6] (mu (fun n => decide (n = s)) [s]) (fun k l6 wr => ∃ c v L gl, l6 = .pointer (some ⟨gl, 0, none⟩) ∧ k = mu c L ∧ mu c L ≤ 100 ∧ RI p s c L ∧ RM W wr gc gj gl jv c v L)
  case atStart => exact ⟨_, _, _, _, rfl, rfl, mu_start s, ri_start HS.out.1 HS.out.2, HRM.out⟩
  case round =>
    clear HRM
    obtain ⟨c, v, L, gl, rfl, hk, hL, hRI, hM⟩ := hrel
    have HK := Lib.hid hk
    have HRI := Lib.hid hRI
    have HM := Lib.hid hM
    have HMU := Lib.hid hL
    have HLL := Lib.hid (show L.length ≤ 100 by unfold mu at hL; omega)
    clear hk hRI hM hL
    rcases hLL : L with _ | ⟨x, T⟩
    · subst hLL
      obtain ⟨A, cp, hv⟩ := HM.out.row.shape
      subst hv
      have c3 : wr.cell? ⟨gl, 0, none⟩ = some (.slice A 0 cp) := HM.out.bl.cell 0
      have HTH := Lib.hid (those_any 73 #[.pointer (some ⟨gc, 0, none⟩)] c wr (fun args w => run_enter Try.func73 (by kernel_rfl) (by kernel_rfl) args w) (fun w hb i _ h2 => reach2_any (HM.out.bc.next hb) i h2))
      have hmf := HMF.out
      go_wp2_with (go_at_call 49; refine HTH.out.mono ?_; rintro e w5 ⟨v5, rfl, hN, hb5⟩; have HN5 := Lib.hid hN; have HB5 := Lib.hid hb5; clear hN hb5 HTH)
      go_ret
      exact ⟨_, c, rfl, HN5.out.le HM.out.bel.size, ri_end HRI.out, HM.out.bel.trans (HB5.out.mono HM.out.bel.size)⟩
    · subst hLL
      obtain ⟨A, cp, hv⟩ := HM.out.row.shape
      subst hv
      obtain ⟨len, hlen⟩ : ∃ len, len = (x :: T).length := ⟨_, rfl⟩
      have c3 : wr.cell? ⟨gl, 0, none⟩ = some (.slice A len cp) := by rw [hlen]; exact HM.out.bl.cell 0
      have n1 : 0 < len := by rw [hlen]; simp
      have n2 : (0 : Int) < ((len : Nat) : Int) := by omega
      have hx := HRI.out.so x (HRI.out.mem x List.mem_cons_self)
      obtain ⟨R, hR⟩ : ∃ R, R = newR p c x := ⟨_, rfl⟩
      have HR := Lib.hid hR
      have HTH := Lib.hid (those_any 72 #[.pointer (some ⟨gc, 0, none⟩), .pointer (some ⟨gj, 0, none⟩), .pointer (some ⟨gl, 0, none⟩)] (fun n => !c n && p x n) wr (fun args w => run_enter Try.func72 (by kernel_rfl) (by kernel_rfl) args w) (fun w hb i h1 h2 => reach1_any (by rw [← HJV.out]; exact HM.out.next hb) i h2 HEG.out (fun w' hb' => HF.out w' ((HM.out.bel.trans (hb.mono HM.out.bel.size)).trans (hb'.mono (HM.out.bel.trans (hb.mono HM.out.bel.size)).size)) x i hx.2.1 hx.2.2 h1 h2)))
      have hmf := HMF.out
      clear hlen hx hR
      go_upto_region 6 with fail
      clear c3 n1 n2
      go_upto_region 7 with (go_at_call 49; refine HTH.out.mono ?_; rintro e w5 ⟨v5, rfl, hN, hb5⟩; have HN5 := Lib.hid hN; have HB5 := Lib.hid hb5; clear hN hb5 HTH; obtain ⟨A5, c5, hv5⟩ := HN5.out.shape; subst hv5)
      clear hmf
      have HM5 := Lib.hid (HM.out.next HB5.out)
      have hN5 : Nds w5 wr.heap.size (.slice A5 (thoseL fun n => !c n && p x n).length c5) R := by rw [HR.out]; exact HN5.out
      obtain ⟨nr, hnr⟩ : ∃ nr, nr = (thoseL fun n => !c n && p x n).length := ⟨_, rfl⟩
      rw [← hnr] at hN5 ⊢
      have HNR := Lib.hid (show nr = R.length ∧ nr ≤ 12 by rw [HR.out]; exact ⟨hnr, by rw [hnr]; exact those_le _ 12⟩)
      have HN6 := Lib.hid hN5
      have hne : ∀ k, (Value.slice A (x :: T).length cp).ownBlock = some k → (Value.slice A5 nr c5).ownBlock ≠ some k := fun k e1 e2 => by
        have h1 := (HM.out.row.lt k e1).2
        have h2 := (hN5.lt k e2).1
        omega
      have HNE := Lib.hid hne
      clear hN5 hnr hne HN5
      go_loopw [21] (fun i wy => ∃ j : Nat, j ≤ nr ∧ i = .int .i64 j ∧ ∃ v', RM W wy gc gj gl jv (cameR c (R.take j)) v' (x :: T ++ R.take j) ∧ Nds wy W.heap.size (.slice A5 nr c5) R ∧ ∀ k, v'.ownBlock = some k → (Value.slice A5 nr c5).ownBlock ≠ some k) (fun i _ => nr - (intOf i).toNat)
      case atStart => exact ⟨0, Nat.zero_le _, rfl, _, by rw [List.take_zero, List.append_nil, show cameR c [] = c by funext n; simp [cameR]]; exact HM5.out, HN6.out.le HM.out.bel.size, HNE.out⟩
      case round =>
        clear HM5 HN6 HNE
        obtain ⟨j, hj, rfl, v', hM, hN, hne⟩ := hrel
        have HMj := Lib.hid hM
        have HNj := Lib.hid hN
        have HNEj := Lib.hid hne
        clear hM hN hne
        by_cases hlt : j < nr
        · have i1 : (j : Int) < (nr : Nat) := by omega
          have i2 : ¬ (j : Int) < 0 := by omega
          obtain ⟨jj, hjj⟩ : ∃ jj, jj = j + 1 := ⟨_, rfl⟩
          have HW := Lib.hid (wrap_n j jj hjj (by have := HNR.out; omega))
          have HJ := Lib.hid (And.intro hjj hlt)
          obtain ⟨n, hn⟩ : ∃ n, R[j]? = some n := ⟨_, List.getElem?_eq_getElem (by rw [← HNR.out.1]; exact hlt)⟩
          have HN := Lib.hid hn
          have hn12 := mem_new.1 (by have := List.mem_of_getElem? hn; rw [HR.out] at this; exact this)
          obtain ⟨q, qo, qc, ev, hq, cq⟩ := HNj.out.at_ hn
          simp only [Value.slice.injEq] at ev
          obtain ⟨rfl, -, rfl⟩ := ev
          have k1 : ¬ ((n : Nat) : Int) < 0 := by omega
          have k2 : ((n : Nat) : Int) < 13 := by omega
          have k3 : n < 13 := by omega
          have c1 : wr.cell? ⟨gc, n, none⟩ = some (.bool (cameR c (R.take j) n)) := by rw [HMj.out.bc.cell, List.getElem?_toArray]; exact cl_get _ k3
          have z1 := HMj.out.bc.frozen n
          clear hj hlt hjj hn hn12 hq
          go_upto_region 9 with fail
          clear i1 i2 cq
          go_upto_region 10 with fail
          clear c1 z1 k1 k2 k3
          have HM1 := Lib.hid (HMj.out.came n)
          have HN1 := Lib.hid (HNj.out.keep fun k e => Below.heap_setCell wr ⟨gc, n, none⟩ (.bool true) k (fun hk => nds_ne HNj.out HMj.out.bc (by decide) (by subst hk; exact e.symm)))
          obtain ⟨x1, hx1⟩ : ∃ x1, x1 = wr.setCell ⟨gc, n, none⟩ (.bool true) := ⟨_, rfl⟩
          rw [← hx1] at HM1 HN1 ⊢
          clear hx1
          rw [came_take HN.out] at HM1
          obtain ⟨Av, cv, hvs⟩ := HM1.out.row.shape
          subst hvs
          obtain ⟨lv, hlv⟩ : ∃ lv, lv = (x :: T ++ R.take j).length := ⟨_, rfl⟩
          have HLV := Lib.hid (show lv = (x :: T ++ R.take j).length ∧ (x :: T ++ R.take j).length ≤ 200 from ⟨hlv, by rw [List.length_append, List.length_take]; have := HLL.out; have := HNR.out; omega⟩)
          have c2 : x1.cell? ⟨gl, 0, none⟩ = some (.slice Av lv cv) := by rw [hlv]; exact HM1.out.bl.cell 0
          clear hlv
          have hb2 : Below x1.heap.size x1 (x1.alloc (.cells #[.int .i64 (n : Nat)] 3)) := (Below.refl x1.heap.size x1).alloc (Nat.le_refl _) _
          have HM2 := Lib.hid (HM1.out.next hb2)
          have HN2 := Lib.hid (HN1.out.next hb2)
          have HX2 := Lib.hid (show (x1.alloc (.cells #[.int .i64 (n : Nat)] 3)).cell? ⟨x1.heap.size, 0, none⟩ = some (.int .i64 (n : Nat)) from (Blk.new x1 3 #[.int .i64 (n : Nat)]).cell 0)
          have hrow : Nds (x1.alloc (.cells #[.int .i64 (n : Nat)] 3)) W.heap.size (.slice Av lv cv) (x :: T ++ R.take j) := by rw [HLV.out.1]; exact HM2.out.row
          have HROW := Lib.hid hrow
          clear hb2 hrow
          go_upto_region 11 with (refine wpList_plain rfl fun K hK => ?_; refine wp_app_int _ _ _ rfl W.heap.size (.slice Av lv cv) (x :: T ++ R.take j) rfl HROW.out x1.heap.size 1 n rfl HX2.out (by have := HLV.out; omega) HM2.out.bel.size ?_; intro v9 w9 hN9 hg9 hloc9; obtain ⟨A9, c9, hv9⟩ := hN9.shape; obtain ⟨l9, hl9⟩ : ∃ l9, l9 = (x :: T ++ R.take j ++ [n]).length := ⟨_, rfl⟩; rw [← hl9] at hv9; clear hl9; subst hv9; have hbl9 : Blk w9 gl 40 #[.slice Av (x :: T ++ R.take j).length cv] := (hg9.block gl HM2.out.bl.lt (nds_ne HROW.out HM2.out.bl (by decide))).trans HM2.out.bl; have c9l := hbl9.cell 0; have z9l := hbl9.frozen 0; have HG9 := Lib.hid (And.intro hN9 (And.intro hg9 hbl9)); have HLO9 := Lib.hid hloc9; refine hK _ _ ?_; clear hK K hN9 hg9 hbl9 hloc9 c2; (try simp only [Act.put, List.setIfInBounds_toArray, List.set_cons_zero, List.set_cons_succ]))
          clear c9l z9l
          have hset := HM2.out.set HG9.out.1 (by rw [← HLV.out.1]; exact HG9.out.2.1)
          rw [List.append_assoc, show R.take j ++ [n] = R.take (j + 1) by rw [List.take_add_one, HN.out]; rfl, ← HJ.out.1] at hset
          have HSET := Lib.hid hset
          have hR9 : Nds (w9.setCell ⟨gl, 0, none⟩ (.slice A9 l9 c9)) W.heap.size (.slice (some ⟨q, qo, none⟩) nr c5) R := by
            refine Nds.keep (w := w9) (Nds.keep HN2.out fun k e => HG9.out.2.1.block k (HN2.out.lt k e).2 (fun e2 => HNEj.out k (by rw [← HLV.out.1]; exact e2.symm) e)) fun k e => Below.heap_setCell w9 _ _ k (fun hk => ?_)
            have h9 : Nds w9 W.heap.size (.slice (some ⟨q, qo, none⟩) nr c5) R := Nds.keep HN2.out fun k e => HG9.out.2.1.block k (HN2.out.lt k e).2 (fun e2 => HNEj.out k (by rw [← HLV.out.1]; exact e2.symm) e)
            exact nds_ne h9 HG9.out.2.2 (by decide) (by subst hk; exact e.symm)
          have HR9 := Lib.hid hR9
          clear hset hR9
          go_wp2_with fail
          rw [HW.out]
          go_roundw
          case rel => exact ⟨jj, by have := HJ.out; omega, rfl, _, by rw [HJ.out.1]; rw [HJ.out.1] at HSET; exact HSET.out, HR9.out, fun k e1 e2 => by
            rcases HLO9.out with h | h
            · rw [h] at e1
              exact HNEj.out k (by rw [← HLV.out.1]; exact e1) e2
            · rw [h] at e1
              simp only [Option.some.injEq] at e1
              have := (HN2.out.lt k e2).2
              omega⟩
          case measure => have := HJ.out; simp [intOf]; omega
        · have hjn : j = nr := by omega
          have i1 : ¬ (j : Int) < (nr : Nat) := by omega
          clear hj hlt
          have hM : RM W wr gc gj gl jv (cameR c R) v' (x :: (T ++ R)) := by
            have h := HMj.out
            rw [hjn, HNR.out.1, List.take_length] at h
            exact h
          obtain ⟨q, qo, qc, ev, hqc, -, -⟩ := hM.row.lies (by simp)
          subst ev
          obtain ⟨lh, hlh⟩ : ∃ lh, lh = (x :: (T ++ R)).length := ⟨_, rfl⟩
          have c2 : wr.cell? ⟨gl, 0, none⟩ = some (.slice (some ⟨q, qo, none⟩) lh qc) := by rw [hlh]; exact hM.bl.cell 0
          have s1 : 1 ≤ lh := by rw [hlh]; simp
          have s2 : lh ≤ qc := by rw [hlh]; exact hqc
          have HM8 := Lib.hid hM.box
          have HLH := Lib.hid (show lh = (T ++ R).length + 1 by rw [hlh]; rfl)
          rw [← hlh] at HM8
          clear hM hqc hlh hjn
          go_upto_region 13 with fail
          clear i1 c2
          go_upto_region 5 with fail
          obtain ⟨w8, hw8⟩ : ∃ w8, w8 = wr.alloc (.cells #[.slice (some ⟨q, qo, none⟩) lh qc] 40) := ⟨_, rfl⟩
          rw [← hw8] at HM8 ⊢
          clear hw8
          obtain ⟨gm, hgm⟩ : ∃ g, g = wr.heap.size := ⟨_, rfl⟩
          rw [← hgm] at HM8
          (try rw [← hgm])
          clear hgm
          have c8 : w8.cell? ⟨gm, 0, none⟩ = some (.slice (some ⟨q, qo, none⟩) lh qc) := HM8.out.bl.cell 0
          have z8 := HM8.out.bl.frozen 0
          obtain ⟨v9, hv9⟩ : ∃ v9, v9 = Value.slice (if qc = 1 then some ⟨q, qo, none⟩ else some ⟨q, qo + 1, none⟩) (lh - 1) (qc - 1) := ⟨_, rfl⟩
          have ht : Nds w8 W.heap.size v9 (T ++ R) := by
            have h1 := HM8.out.row
            have e := HLH.out
            rw [e] at h1
            have h2 := OffR.tail (xs := [.int .i64 (x : Nat)]) (ys := ints (T ++ R)) h1 rfl
            rw [hv9, e, Nat.add_sub_cancel]
            exact h2
          have ho9 : v9.ownBlock = (Value.slice (some ⟨q, qo, none⟩) lh qc).ownBlock := by
            rw [hv9]
            split <;> rfl
          have HSET := Lib.hid (HM8.out.set (w9 := w8) ht ⟨rfl, rfl, rfl, Nat.le_refl _, fun k _ _ => rfl⟩)
          clear ht ho9
          by_cases hq1 : qc = 1
          · subst hq1
            have hv : v9 = Value.slice (some ⟨q, qo, none⟩) 0 0 := by rw [hv9, if_pos rfl, show lh - 1 = 0 by omega]
            clear hv9
            go_wp2_with fail
            rw [← hv]
            go_roundg (mu (cameR c R) (T ++ R))
            case measure => rw [HK.out, HR.out]; exact mu_next
            case rel => exact ⟨_, _, _, _, rfl, rfl, by have h := mu_next (p := p) (c := c) (x := x) (T := T); rw [← HR.out] at h; have := HMU.out; omega, by rw [HR.out]; exact ri_next HRI.out, HSET.out⟩
          · have hv : v9 = Value.slice (some ⟨q, qo + 1, none⟩) (lh - 1) (qc - 1) := by rw [hv9, if_neg hq1]
            clear hv9
            go_wp2_with fail
            rw [← hv]
            go_roundg (mu (cameR c R) (T ++ R))
            case measure => rw [HK.out, HR.out]; exact mu_next
            case rel => exact ⟨_, _, _, _, rfl, rfl, by have h := mu_next (p := p) (c := c) (x := x) (T := T); rw [← HR.out] at h; have := HMU.out; omega, by rw [HR.out]; exact ri_next HRI.out, HSET.out⟩
end Tr
end Go.Proofs.Ytohnhokddbeheaa
