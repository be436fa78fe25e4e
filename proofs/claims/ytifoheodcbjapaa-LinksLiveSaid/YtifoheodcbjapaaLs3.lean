/-
links: Send.
-/
import Derived.Test.YtifoheodcbjapaaLs2
import Derived.Test.YtifoheodcbjapaaLk3
namespace Go.Proofs.Ytifoheodcbjapaa
open Go.RowKit
set_option linter.unusedSimpArgs false
set_option linter.unusedVariables false
namespace Ls
open Lk
/-- A copy of a link in a box of its own. -/
theorem Lks.box {W w1 w2 : World} {B d own b : Nat} {F : Nat → Prop} {K : Nat → Kn} (D : Lks W B d F own K) (i : Nat) (hb : Below W.heap.size W w2) (hB : Blk w2 b 47 (atK K i).cells.toArray) (hbl : W.heap.size ≤ b) : LK w2 B b (fun k => F k ∨ k = b) (atS (fun j => (K j).s) i) := by
  rw [← atK_s]
  have hd := D.low d D.fd
  refine ⟨_, _, _, LkO.lnk ((D.at_ok i).keep fun k hk => ⟨Or.inl hk, hb.block k (D.low k hk).2⟩) (Or.inr rfl) hB ?_⟩
  rintro k (hk | rfl)
  · have := D.low k hk; exact ⟨this.1, Nat.lt_of_lt_of_le this.2 hb.size⟩
  · exact ⟨by omega, hB.lt⟩
/-- A box's link, changed, as it goes to its place. -/
theorem box_back {W w2 w3 : World} {B b : Nat} {F : Nat → Prop} {s : LS} (h : LK w3 B b (Grow (fun k => F k ∨ k = b) w2 w3) s) (hb : W.heap.size ≤ w2.heap.size) (hbl : W.heap.size ≤ b) (hbw : b < w2.heap.size) (hs : w2.heap.size ≤ w3.heap.size) :
    ∃ k : Kn, k.s = s ∧ Blk w3 b 47 k.cells.toArray ∧ LkO w3 (Grow F W w3) k.A k.c k.l k.s := by
  obtain ⟨A, c, l, D⟩ := h
  refine ⟨⟨s, A, c, l⟩, rfl, D.blk, D.lko.keep fun k hk => ⟨?_, rfl⟩⟩
  rcases hk with (hk | rfl) | ⟨h1, h2⟩
  · exact Or.inl hk
  · exact Or.inr ⟨hbl, by omega⟩
  · exact Or.inr ⟨by omega, h2⟩
section
variable (W : World) {B d own : Nat} {F : Nat → Prop} {K : Nat → Kn} {S : Nat → LS}
set_option maxHeartbeats 4000000 in
set_option maxRecDepth 20000 in
theorem send_any (h : LN W B d F own S) (n : Int) (Ab : Option Addr) (m cb : Nat) (bs : List Nat) (hm : bs.length = m) (hs : Src W Ab m (u8s bs)) (h256 : ∀ y ∈ bs, y < 256) : Calls Try.prog 11 #[.pointer (some ⟨d, 0, none⟩), .int .i64 n, .slice Ab m cb] W fun e W' =>
    e = .returned (.tuple #[.int .u64 (sendN own S n m : Nat), .int .i64 (sendE own S n m)]) ∧ LN W' B d (Grow F W W') own (send own S n bs) ∧ Turn B F W W' := by
  obtain ⟨K, D, rfl⟩ := h
  have HM := Lib.hid (lmade_any W D)
  have HH := Lib.hid (other_any W D n)
  have HD := Lib.hid D
  cases hb : isO own n with
  | false =>
    rw [hb] at HH
    have HE := Lib.hid (show sendE own (fun i => (K i).s) n m = 11 ∧ sendN own (fun i => (K i).s) n m = 0 ∧ send own (fun i => (K i).s) n bs = fun i => (K i).s by unfold send sendE sendN; rw [hb]; exact ⟨rfl, rfl, rfl⟩)
    clear hb D hm hs h256
    go_enter Try.func11, Try.ntmps11
    go_wp2_with (first | (go_at_call 36; refine HM.out.mono ?_; rintro e w1 ⟨rfl, rfl⟩) | (go_at_call 37; refine HH.out.mono ?_; rintro e w1 ⟨rfl, rfl⟩))
    go_ret2
    exact ⟨by (rw [HE.out.1, HE.out.2.1]; try rfl), ⟨K, HD.out.grow (Below.refl _ _), HE.out.2.2⟩, ln_turn ⟨K, HD.out, rfl⟩ (Below.refl _ _)⟩
  | true =>
    rw [hb] at HH
    obtain ⟨i, hi, hti, hn, hw, hw2, hi1, hi0⟩ := isN_of (isO_of hb).1
    have hio : i ≠ own - 1 := fun e => by have := (isO_of hb).2; have := D.o1; omega
    have HI := Lib.hid (And.intro hi hio)
    have HA := Lib.hid (at_any W D n hb hti)
    obtain ⟨z, hz⟩ : ∃ z, z = Lk.sendE (atS (fun j => (K j).s) i) m := ⟨_, rfl⟩
    obtain ⟨sn, hsn⟩ : ∃ sn, sn = Lk.sendN (atS (fun j => (K j).s) i) m := ⟨_, rfl⟩
    have HE := Lib.hid (show sendE own (fun i => (K i).s) n m = z ∧ sendN own (fun i => (K i).s) n m = sn by unfold sendE sendN; rw [hb, hti, hz, hsn]; exact ⟨rfl, rfl⟩)
    have HSD := Lib.hid (show send own (fun i => (K i).s) n bs = if z = 0 then updS (fun i => (K i).s) i ((atS (fun j => (K j).s) i).send bs) else fun i => (K i).s by unfold send; rw [hm, HE.out.1, hti])
    have HS := Lib.hid (fun (w : World) (b : Nat) (hw : Below W.heap.size W w) (hB : Blk w b 47 (atK K i).cells.toArray) (hbl : W.heap.size ≤ b) => Lk.send_any w (D.box (w1 := w) i hw hB hbl) Ab m cb bs hm (hs.below hw) h256)
    rw [← hz, ← hsn] at HS
    clear hb hn hti hi hio D hz hsn hm hs h256
    go_enter Try.func11, Try.ntmps11
    go_upto_region 6 with (first | (go_at_call 36; refine HM.out.mono ?_; rintro e w1 ⟨rfl, rfl⟩) | (go_at_call 37; refine HH.out.mono ?_; rintro e w1 ⟨rfl, rfl⟩) | (go_at_call 38; refine HA.out.mono ?_; rintro e w1 ⟨rfl, hb1⟩) | (refine wpList_store_blk rfl 47 _ _ rfl w1.heap.size 47 _ (atK K i).cells.toArray rfl rfl (Blk.new w1 _ _) (lkinfoA _) (kn_siz _) (kn_one _) ?_; intro hY; rw [Wr.alloc_setRow]))
    clear hY
    obtain ⟨w2, hw2'⟩ : ∃ w2, w2 = w1.alloc (.cells (atK K i).cells.toArray 47) := ⟨_, rfl⟩
    obtain ⟨b, hbb⟩ : ∃ b, b = w1.heap.size := ⟨_, rfl⟩
    have hB2 : Blk w2 b 47 (atK K i).cells.toArray := by rw [hw2', hbb]; exact Blk.new _ _ _
    have hb2 : Below W.heap.size W w2 := by rw [hw2']; exact hb1.alloc hb1.size _
    have hbl : W.heap.size ≤ b := by rw [hbb]; exact hb1.size
    rw [← hw2', ← hbb]
    have HS2 := Lib.hid (HS.out w2 b hb2 hB2 hbl)
    have HB2 := Lib.hid (And.intro hb2 (And.intro hB2 hbl))
    clear hw2' hbb hB2 hb2 hbl HS hb1 HM HH HA
    by_cases hz0 : z = 0
    · subst hz0
      have HSD := Lib.hid (HSD.out.trans (if_pos rfl))
      go_upto_region 8 with (go_at_call 39; refine HS2.out.mono ?_; rintro e w3 ⟨rfl, hK, ht⟩)
      have hbw := HB2.out.2.1.lt
      obtain ⟨k, hks, hkb, hko⟩ := box_back (W := W) hK HB2.out.1.size HB2.out.2.2 hbw ht.1.size
      have hb3 := turn_one ht HB2.out.1 HB2.out.2.2
      have hkr : w3.rangeAt b 0 k.cells := hkb.range
      have hdb : d ≠ b := fun e => by have := (HD.out.low d HD.out.fd).2; have := HB2.out.2.2; omega
      have hth : w3.drew.there d (1 + i * 3) k.cells.toArray.size := ((HD.out.next hb3).blk.drew).thereT (by rw [List.size_toArray, List.size_toArray, kn_len, ls_len]; have := HI.out.1; omega)
      have HKS := Lib.hid hks
      have HK := Lib.hid (put_done HD.out (hb3.drew) HI.out.1 HI.out.2 (hko.keep fun j hj => ⟨hj, rfl⟩))
      clear hK ht hbw hks hkb hko hb3 HS2
      (try simp only [Act.put, List.setIfInBounds_toArray, List.set_cons_zero, List.set_cons_succ])
      refine wp_region_tree (S := (fun w' => w'.rangeAt b 0 k.cells)) (.take 0 (.take 1 (.take 2 (.take 3 (.take 4 (.take 5 (.take 6 (.one 7 .nil)))))))) 9999 (by kernel_rfl) (by kernel_rfl) (by kernel_rfl) (by kernel_rfl) (by kernel_rfl) (fun _ _ d _ _ h => by cases d <;> exact h) hkr (fun hHeld => ?_); simp only [Tree.map, List.getElem?_toArray, List.getElem?_cons_zero, List.getElem?_cons_succ]
      (repeat (first | (refine wpTree.take (v := undef) (Or.inr ⟨by rfl, rfl⟩) ?_; simp only [Act.put, List.setIfInBounds_toArray, List.set_cons_zero, List.set_cons_succ]) | (refine wpTree.take (v := .agg k.cells.toArray) (yieldsIf_load_mid rfl 47 _ rfl _ _ rfl k.cells _ (fun _ hS => hS) Try.underlying47 rfl (lkinfo _)) ?_; simp only [Act.put, List.setIfInBounds_toArray, List.set_cons_zero, List.set_cons_succ]) | (refine wpTree.take (v := ?_) (Or.inl ⟨by rfl, ?_⟩) ?_; rotate_left; (focus (intro _ hS; (try dsimp only at hS); go_split_ands; (try subst hS); go_simp; (try (with_reducible rfl)); done)); simp only [Act.put, List.setIfInBounds_toArray, List.set_cons_zero, List.set_cons_succ])))
      refine wpTree.one (fun K hK => ?_)
      (try rw [if_pos (by rfl)])
      refine wp_store_mid 47 _ _ rfl d (1 + i * 3) k.cells.toArray rfl rfl hth (lkinfoA _) (kn_one _) ?_
      refine hK.out _ _ (World.rangeAt_setCells_apart hHeld d (1 + i * 3) _ (Or.inl (Ne.symm hdb))) (fun _ => ?_)
      clear hK K
      (try simp only [Act.put, List.setIfInBounds_toArray, List.set_cons_zero, List.set_cons_succ])
      refine wpTree.done ?_
      go_wp2_with fail
      go_ret2
      refine ⟨by (rw [HE.out.1, HE.out.2]; try rfl), ⟨_, HK.out.1, ?_⟩, HK.out.2⟩
      rw [HSD.out, upd_s, HKS.out, if_pos trivial]
    · have e0 : (z == 0) = false := by simp [hz0]
      have HSD := Lib.hid (HSD.out.trans (if_neg hz0))
      clear hz0
      go_wp2_with (go_at_call 39; refine HS2.out.mono ?_; rintro e w3 ⟨rfl, hK, ht⟩; have HT := Lib.hid ht; clear hK ht)
      go_ret2
      have hb3 := turn_one HT.out HB2.out.1 HB2.out.2.2
      exact ⟨by (rw [HE.out.1, HE.out.2]; try rfl), ⟨_, HD.out.grow hb3, HSD.out⟩, ln_turn ⟨_, HD.out, rfl⟩ hb3⟩
end
end Ls
end Go.Proofs.Ytifoheodcbjapaa
