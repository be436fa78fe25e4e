/-
interest: Toward.
-/
import Derived.Test.YtohnhokddbeheaaTh
namespace Go.Proofs.Ytohnhokddbeheaa
open Go.RowKit
set_option linter.unusedSimpArgs false
set_option linter.unusedVariables false
namespace Tr
/-- Two rows of nodes, apart; a tree's box. -/
structure TM (W w : World) (gx : Nat) (t : Tv) (v : Value) (O : List Nat) (vL : Value) (L : List Nat) : Prop where
  bx : Blk w gx 25 t.cells.toArray
  ro : Nds w W.heap.size v O
  rl : Nds w W.heap.size vL L
  ne : ∀ k, v.ownBlock = some k → vL.ownBlock ≠ some k
  bel : Below W.heap.size W w
section
variable {W w w' w9 : World} {gx : Nat} {t : Tv} {v v' vL : Value} {O O' L : List Nat}
theorem TM.next (h : TM W w gx t v O vL L) (hb : Below w.heap.size w w') : TM W w' gx t v O vL L :=
  ⟨h.bx.next hb, h.ro.next hb, h.rl.next hb, h.ne, h.bel.trans (hb.mono h.bel.size)⟩
theorem TM.app (h : TM W w gx t v O vL L) (hown : Nds w9 W.heap.size v' O') (hg : w.grownBy w9 v.ownBlock) (hl : v'.ownBlock = v.ownBlock ∨ v'.ownBlock = some w.heap.size) : TM W w9 gx t v' O' vL L := by
  have a1 := nds_ne h.ro h.bx (by decide)
  refine ⟨(hg.block gx h.bx.lt a1).trans h.bx, hown, h.rl.keep fun k e => hg.block k (h.rl.lt k e).2 (fun e2 => h.ne k e2.symm e), fun k e1 e2 => ?_, below_grown h.bel hg (fun k e => (h.ro.lt k e).1)⟩
  rcases hl with h1 | h1
  · rw [h1] at e1; exact h.ne k e1 e2
  · rw [h1] at e1
    simp only [Option.some.injEq] at e1
    have := (h.rl.lt k e2).2
    omega
end
def TwL (t : Tv) (node frm cart : Int) (l : List Nat) : Prop := l.Pairwise (· < ·) ∧ ∀ n : Nat, n ∈ l ↔ ((n : Nat) : Int) ≠ frm ∧ Wn t node (n : Nat) cart
theorem those_rise (p : Nat → Bool) : ∀ j, (thoseN p j).Pairwise (· < ·)
  | 0 => by rw [those_zero]; exact .nil
  | j + 1 => by
    rw [those_succ]
    split
    · refine List.pairwise_append.2 ⟨those_rise p j, by simp, fun a ha b hb => ?_⟩
      simp at hb
      have := thoseN_lt p j a ha
      omega
    · exact those_rise p j
/-- As far as neighbours were gone through. -/
def TwJ (t : Tv) (node frm cart : Int) (L : List Nat) (j : Nat) (l : List Nat) : Prop := l.Sublist (L.take j) ∧ ∀ n : Nat, n ∈ l ↔ n ∈ L.take j ∧ ((n : Nat) : Int) ≠ frm ∧ Wn t node (n : Nat) cart
theorem twj_zero {t : Tv} {node frm cart : Int} {L : List Nat} : TwJ t node frm cart L 0 [] := ⟨by simp, by simp⟩
theorem twj_no {t : Tv} {node frm cart : Int} {L l : List Nat} {j m : Nat} (h : TwJ t node frm cart L j l) (hm : L[j]? = some m) (hn : ((m : Nat) : Int) = frm ∨ ¬ Wn t node (m : Nat) cart) : TwJ t node frm cart L (j + 1) l := by
  have e : L.take (j + 1) = L.take j ++ [m] := by rw [List.take_add_one, hm]; rfl
  refine ⟨h.1.trans (by rw [e]; exact List.sublist_append_left _ _), fun n => ?_⟩
  rw [h.2 n, e, List.mem_append, List.mem_singleton]
  constructor
  · exact fun h => ⟨.inl h.1, h.2⟩
  · rintro ⟨h1 | rfl, h2, h3⟩
    · exact ⟨h1, h2, h3⟩
    · rcases hn with hn | hn
      · exact absurd hn h2
      · exact absurd h3 hn
theorem twj_yes {t : Tv} {node frm cart : Int} {L l : List Nat} {j m : Nat} (h : TwJ t node frm cart L j l) (hm : L[j]? = some m) (h1 : ((m : Nat) : Int) ≠ frm) (h2 : Wn t node (m : Nat) cart) : TwJ t node frm cart L (j + 1) (l ++ [m]) := by
  have e : L.take (j + 1) = L.take j ++ [m] := by rw [List.take_add_one, hm]; rfl
  refine ⟨by rw [e]; exact h.1.append (.refl _), fun n => ?_⟩
  rw [List.mem_append, List.mem_singleton, h.2 n, e, List.mem_append, List.mem_singleton]
  constructor
  · rintro (⟨h1, h2⟩ | rfl)
    · exact ⟨.inl h1, h2⟩
    · exact ⟨.inr rfl, h1, h2⟩
  · rintro ⟨h1 | rfl, h2⟩
    · exact .inl ⟨h1, h2⟩
    · exact .inr rfl
theorem twj_end {t : Tv} {node frm cart : Int} {l : List Nat} (h : TwJ t node frm cart (nextL t node) (nextL t node).length l) : TwL t node frm cart l := by
  unfold TwJ at h
  rw [List.take_length] at h
  refine ⟨List.Pairwise.sublist h.1 (by unfold nextL thoseL; exact those_rise _ 12), fun n => ?_⟩
  rw [h.2 n]
  constructor
  · exact fun h => h.2
  · intro h
    refine ⟨?_, h⟩
    obtain ⟨m, hm, e⟩ := (next_mem t node (n : Nat)).2 h.2.1
    rw [show n = m by omega]
    exact hm
set_option maxRecDepth 20000 in
set_option maxHeartbeats 16000000 in
theorem toward_any (W : World) (t : Tv) (hr : RowsOf ec 2 W t.A t.es) (hlen : t.es.length ≤ 1000000) (node frm cart : Int) (hc9 : cart ≤ 9223372036854775807) :
    Calls Try.prog 42 #[.agg t.cells.toArray, .int .i64 node, .int .i64 frm, .int .i64 cart] W fun e W' => ∃ v l, e = .returned v ∧ Nds W' W.heap.size v l ∧ TwL t node frm cart l ∧ Below W.heap.size W W' := by
  have HR := Lib.hid hr
  have HLE := Lib.hid hlen
  have HC9 := Lib.hid hc9
  have bb := (Below.refl W.heap.size W).alloc (Nat.le_refl _) (.cells t.cells.toArray 25)
  have hx : Blk (W.alloc (.cells t.cells.toArray 25)) W.heap.size 25 t.cells.toArray := Blk.new W _ _
  obtain ⟨w2, hw2⟩ : ∃ w2, w2 = W.alloc (.cells t.cells.toArray 25) := ⟨_, rfl⟩
  rw [← hw2] at bb hx
  have HB2 := Lib.hid bb
  have HX2 := Lib.hid hx
  clear bb hx hr hlen hc9
  obtain ⟨L, hL⟩ : ∃ L, L = nextL t node := ⟨_, rfl⟩
  have HL := Lib.hid hL
  have HNX := Lib.hid (show Calls Try.prog 22 #[.agg t.cells.toArray, .int .i64 node] w2 fun e W' => ∃ v, e = .returned v ∧ Nds W' w2.heap.size v L ∧ Below w2.heap.size w2 W' by rw [hL]; exact next_any w2 t (HR.out.next HB2.out) HLE.out node)
  have HL12 := Lib.hid (show L.length ≤ 12 by rw [hL]; unfold nextL thoseL; exact those_le _ 12)
  clear hL
  go_enter Try.func42, Try.ntmps42
  go_upto_region 1 with fail
  rw [← hw2]
  clear hw2
  have hr0 : w2.rangeAt W.heap.size 0 t.cells := HX2.out.range
  go_upto_region 3 with (first | (refine wpList_load_mid rfl 25 _ rfl _ _ rfl t.cells _ hr0 Try.underlying25 rfl (tvinfo t) ?_) | (go_at_call 22; refine HNX.out.mono ?_; rintro e w3 ⟨v3, rfl, hN, hb⟩; have HN3 := Lib.hid hN; have HB3 := Lib.hid hb; clear hN hb HNX; obtain ⟨A3, cp3, hv3⟩ := HN3.out.shape; subst hv3))
  clear hr0
  obtain ⟨n, hn⟩ : ∃ n, n = L.length := ⟨_, rfl⟩
  rw [← hn] at HN3 ⊢
  have HN := Lib.hid hn
  clear hn
  have HM3 := Lib.hid (show TM W w3 W.heap.size t (.slice none 0 0) [] (.slice A3 n cp3) L from ⟨HX2.out.next HB3.out, Nds.nil _ _, HN3.out.le HB2.out.size, fun k e => by simp [Value.ownBlock] at e, HB2.out.trans (HB3.out.mono HB2.out.size)⟩)
  clear HN3 HB3 HB2 HX2
  obtain ⟨gx, hgx⟩ : ∃ gx, gx = W.heap.size := ⟨_, rfl⟩
  rw [← hgx] at HM3
  (try rw [← hgx])
  clear hgx
  go_loopw [9, 16] (fun v i wr => ∃ j : Nat, j ≤ n ∧ i = .int .i64 j ∧ ∃ O, TM W wr gx t v O (.slice A3 n cp3) L ∧ TwJ t node frm cart L j O) (fun _ i _ => n - (intOf i).toNat)
  case atStart => exact ⟨0, Nat.zero_le _, rfl, [], HM3.out, twj_zero⟩
  case round =>
    clear HM3
    obtain ⟨j, hj, rfl, O, hM, hO⟩ := hrel
    have HM := Lib.hid hM
    have HO := Lib.hid hO
    clear hM hO
    obtain ⟨Av, cv, hv⟩ := HM.out.ro.shape
    subst hv
    by_cases hlt : j < n
    · have i1 : (j : Int) < (n : Nat) := by omega
      have i2 : ¬ (j : Int) < 0 := by omega
      obtain ⟨jj, hjj⟩ : ∃ jj, jj = j + 1 := ⟨_, rfl⟩
      have HW := Lib.hid (wrap_n j jj hjj (by have := HN.out; have := HL12.out; omega))
      have HJ := Lib.hid (And.intro hjj hlt)
      obtain ⟨m, hm⟩ : ∃ m, L[j]? = some m := ⟨_, List.getElem?_eq_getElem (by rw [← HN.out]; exact hlt)⟩
      have HMM := Lib.hid hm
      obtain ⟨q, qo, qc, ev, _, cm⟩ := HM.out.rl.at_ hm
      simp only [Value.slice.injEq] at ev
      obtain ⟨rfl, -, rfl⟩ := ev
      have hr0 : wr.rangeAt gx 0 t.cells := HM.out.bx.range
      have HWA := Lib.hid (wants_any wr t (HR.out.next HM.out.bel) HLE.out node (m : Nat) cart HC9.out)
      obtain ⟨lo, hlo⟩ : ∃ lo, lo = O.length := ⟨_, rfl⟩
      (try rw [← hlo])
      have HLO := Lib.hid (show lo = O.length ∧ O.length ≤ 12 from ⟨hlo, by have := HO.out.1.length_le; rw [List.length_take] at this; have := HN.out; have := HL12.out; omega⟩)
      clear hlo hj hlt hjj hm
      by_cases hf : ((m : Nat) : Int) = frm
      · have t1 : (((m : Nat) : Int) != frm) = false := by simpa using hf
        have HF := Lib.hid hf
        clear hf
        go_wp2_with fail
        rw [HW.out]
        go_roundw
        case rel => exact ⟨jj, by have := HJ.out; omega, rfl, O, by rw [HLO.out.1]; exact HM.out, by rw [HJ.out.1]; exact twj_no HO.out HMM.out (.inl HF.out)⟩
        case measure => have := HJ.out; simp [intOf]; omega
      · have t1 : (((m : Nat) : Int) != frm) = true := by simpa using hf
        have t2 : (((m : Nat) : Int) == frm) = false := by simpa using hf
        have HF := Lib.hid hf
        clear hf
        by_cases hw : Wn t node (m : Nat) cart
        · have HWN := Lib.hid hw
          have HWB := Lib.hid (HWA.out.mono (R' := fun e w' => e = .returned (.bool true) ∧ Below wr.heap.size wr w') (by
            rintro e w' ⟨b, rfl, hb, hbl⟩
            cases b with
            | true => exact ⟨rfl, hbl⟩
            | false => exact absurd (hb.2 hw) (by decide)))
          clear hw HWA
          go_upto_region 6 with (first | (refine load_midg rfl 25 _ rfl _ _ rfl t.cells _ hr0 Try.underlying25 rfl (tvinfo t) ?_; (try simp only [Act.put, List.setIfInBounds_toArray, List.set_cons_zero, List.set_cons_succ])) | (go_at_call 65; refine HWB.out.mono ?_; rintro e w5 ⟨rfl, hb⟩; have HM5 := Lib.hid (HM.out.next hb); clear hb HWB))
          clear hr0 cm t1 t2
          have hb6 : Below w5.heap.size w5 (w5.alloc (.cells #[.int .i64 (m : Nat)] 3)) := (Below.refl w5.heap.size w5).alloc (Nat.le_refl _) _
          have HM6 := Lib.hid (HM5.out.next hb6)
          have HX6 := Lib.hid (show (w5.alloc (.cells #[.int .i64 (m : Nat)] 3)).cell? ⟨w5.heap.size, 0, none⟩ = some (.int .i64 (m : Nat)) from (Blk.new w5 3 #[.int .i64 (m : Nat)]).cell 0)
          have HROW := Lib.hid (show Nds (w5.alloc (.cells #[.int .i64 (m : Nat)] 3)) W.heap.size (.slice Av lo cv) O by rw [HLO.out.1]; exact HM6.out.ro)
          clear hb6
          go_upto_region 7 with (refine wpList_plain rfl fun K hK => ?_; refine wp_app_int _ _ _ rfl W.heap.size (.slice Av lo cv) O rfl HROW.out w5.heap.size 1 m rfl HX6.out (by have := HLO.out; omega) HM6.out.bel.size ?_; intro v9 w9 hN9 hg9 hloc9; obtain ⟨A9, c9, hv9⟩ := hN9.shape; obtain ⟨l9, hl9⟩ : ∃ l9, l9 = (O ++ [m]).length := ⟨_, rfl⟩; rw [← hl9] at hv9; clear hl9; subst hv9; have HM9 := Lib.hid (TM.app (v := .slice Av lo cv) (by rw [HLO.out.1]; exact HM6.out) hN9 hg9 hloc9); refine hK _ _ ?_; clear hK K hN9 hg9 hloc9; (try simp only [Act.put, List.setIfInBounds_toArray, List.set_cons_zero, List.set_cons_succ]))
          go_wp2_with fail
          rw [HW.out]
          go_roundw
          case rel => exact ⟨jj, by have := HJ.out; omega, rfl, _, HM9.out, by rw [HJ.out.1]; exact twj_yes HO.out HMM.out HF.out HWN.out⟩
          case measure => have := HJ.out; simp [intOf]; omega
        · have HWN := Lib.hid hw
          have HWB := Lib.hid (HWA.out.mono (R' := fun e w' => e = .returned (.bool false) ∧ Below wr.heap.size wr w') (by
            rintro e w' ⟨b, rfl, hb, hbl⟩
            cases b with
            | true => exact absurd (hb.1 rfl) hw
            | false => exact ⟨rfl, hbl⟩))
          clear hw HWA
          go_wp2_with (first | (refine load_midg rfl 25 _ rfl _ _ rfl t.cells _ hr0 Try.underlying25 rfl (tvinfo t) ?_; (try simp only [Act.put, List.setIfInBounds_toArray, List.set_cons_zero, List.set_cons_succ])) | (go_at_call 65; refine HWB.out.mono ?_; rintro e w5 ⟨rfl, hb⟩; have HM5 := Lib.hid (HM.out.next hb); clear hb HWB))
          rw [HW.out]
          go_roundw
          case rel => exact ⟨jj, by have := HJ.out; omega, rfl, O, by rw [HLO.out.1]; exact HM5.out, by rw [HJ.out.1]; exact twj_no HO.out HMM.out (.inr HWN.out)⟩
          case measure => have := HJ.out; simp [intOf]; omega
    · have i1 : ¬ (j : Int) < (n : Nat) := by omega
      have HE := Lib.hid (show j = (nextL t node).length by rw [← HL.out, ← HN.out]; omega)
      clear hj hlt
      go_wp2_with fail
      go_ret
      refine ⟨_, rfl, O, HM.out.ro, twj_end ?_, HM.out.bel⟩
      have h := HO.out
      rw [HL.out, HE.out] at h
      exact h
end Tr
end Go.Proofs.Ytohnhokddbeheaa
