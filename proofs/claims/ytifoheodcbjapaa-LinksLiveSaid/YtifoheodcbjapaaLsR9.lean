/-
links: LinksLive: whatever is sent and heard, a node's links do what the document says, and are saved so; such that are nil, or that no call made, say so. It holds for every input, without a condition.
(links beside the document's; do; Same; the law's walk.)
-/
import Derived.Test.YtifoheodcbjapaaLsP
import Derived.Test.YtifoheodcbjapaaLs13
import Derived.Test.YtifoheodcbjapaaLaw
import Derived.Test.YtifoheodcbjapaaOpenG
namespace Go.Proofs.Ytifoheodcbjapaa
open Go.RowKit
set_option linter.unusedSimpArgs false
set_option linter.unusedVariables false
namespace Ls
open Lk
theorem RO.keep {w w' : World} {B r own m : Nat} {F : Nat → Prop} {S : Nat → LS} (h : RO w B r F own S m) (hk : ∀ k, F k → w'.heap[k]? = w.heap[k]?) (hs : w.heap.size ≤ w'.heap.size) : RO w' B r F own S m := by
  obtain ⟨th, X, V, D, C⟩ := h
  exact ⟨th, X, V, D.keep hk hs, C⟩
/-- Links beside the document's; Q's blocks are neither's. -/
def PX (W : World) (Q : Nat → Prop) (w : World) (d r own : Nat) (S T : Nat → LS) (m : Nat) : Prop :=
  ∃ F G, LN w W.heap.size d F own S ∧ RO w W.heap.size r G own T m ∧ (∀ k, F k → ¬ G k) ∧ Prot Q F w ∧ Prot Q G w ∧ Below W.heap.size W w
section
variable {W w w' : World} {Q Q' : Nat → Prop} {d r own m : Nat} {S T : Nat → LS}
theorem PX.b (h : PX W Q w d r own S T m) : Below W.heap.size W w := by obtain ⟨F, G, _, _, _, _, _, hb⟩ := h; exact hb
theorem PX.next (h : PX W Q w d r own S T m) (hb : Below w.heap.size w w') : PX W Q w' d r own S T m := by
  obtain ⟨F, G, h1, h2, h3, h4, h5, h6⟩ := h
  exact ⟨F, G, h1.next hb, h2.keep (fun k hk => hb.block k (h2.low k hk).2) hb.size, h3, h4.next hb, h5.next hb, h6.trans (hb.mono h6.size)⟩
theorem PX.box (h : PX W Q w d r own S T m) (hb : Below w.heap.size w w') (hQ : ∀ k, Q' k → w.heap.size ≤ k ∧ k < w'.heap.size) : PX W Q' w' d r own S T m := by
  obtain ⟨F, G, h1, h2, h3, h4, h5, h6⟩ := h
  exact ⟨F, G, h1.next hb, h2.keep (fun k hk => hb.block k (h2.low k hk).2) hb.size, h3, fun k hk => ⟨(hQ k hk).2, fun hf => by have := (h1.low k hf).2; have := (hQ k hk).1; omega⟩, fun k hk => ⟨(hQ k hk).2, fun hf => by have := (h2.low k hf).2; have := (hQ k hk).1; omega⟩, h6.trans (hb.mono h6.size)⟩
theorem PX.sub (h : PX W Q w d r own S T m) (hq : ∀ k, Q' k → Q k) : PX W Q' w d r own S T m := by
  obtain ⟨F, G, h1, h2, h3, h4, h5, h6⟩ := h
  exact ⟨F, G, h1, h2, h3, fun k hk => h4 k (hq k hk), fun k hk => h5 k (hq k hk), h6⟩
theorem PX.kept (h : PX W Q w d r own S T m) (hb : Below w.heap.size w w') : Kept Q w w' := by
  obtain ⟨F, G, h1, h2, h3, h4, h5, h6⟩ := h
  exact fun k hk => hb.block k (h4 k hk).1
theorem PX.ours (h : PX W Q w d r own S T m) : ∃ F, LN w W.heap.size d F own S ∧ ∀ (w' : World) (s : Nat → LS) (G' Q' : Nat → Prop), LN w' W.heap.size d G' own s → (∀ k, G' k → Grow F w w' k) → (∀ k, Q' k → Q k ∨ (w.heap.size ≤ k ∧ k < w'.heap.size ∧ ¬ G' k)) → Turn W.heap.size F w w' → PX W Q' w' d r own s T m ∧ Kept Q w w' := by
  obtain ⟨F, G, h1, h2, h3, h4, h5, h6⟩ := h
  refine ⟨F, h1, fun w' s G' Q' hL hG hQ ht => ⟨⟨G', G, hL, h2.keep (fun k hk => ht.2 k (h2.low k hk).2 (fun hf => h3 k hf hk)) ht.1.size, fun k hk hg => ?_, fun k hk => ?_, fun k hk => ?_, h6.trans ht.1⟩, ht.kept h4⟩⟩
  · rcases hG k hk with hf | ⟨h, _⟩
    · exact h3 k hf hg
    · have := (h2.low k hg).2; omega
  · rcases hQ k hk with hq | ⟨a, b, c⟩
    · have := h4 k hq
      refine ⟨Nat.lt_of_lt_of_le this.1 ht.1.size, fun hg => ?_⟩
      rcases hG k hg with hf | ⟨h, _⟩
      · exact this.2 hf
      · have := this.1; omega
    · exact ⟨b, c⟩
  · rcases hQ k hk with hq | ⟨a, b, c⟩
    · have := h5 k hq
      exact ⟨Nat.lt_of_lt_of_le this.1 ht.1.size, this.2⟩
    · exact ⟨b, fun hg => by have := (h2.low k hg).2; omega⟩
theorem PX.docs (h : PX W Q w d r own S T m) : ∃ G, RO w W.heap.size r G own T m ∧ ∀ (w' : World) (T' : Nat → LS) (m' : Nat), ROP W.heap.size r G own T' m' w w' → PX W Q w' d r own S T' m' ∧ Kept Q w w' := by
  obtain ⟨F, G, h1, h2, h3, h4, h5, h6⟩ := h
  refine ⟨G, h2, fun w' T' m' hP => ⟨⟨F, Grow G w w', h1.keep (fun k hk => hP.2.2 k (h1.low k hk).2 (fun hg => h3 k hk hg)) hP.2.1.size, hP.1, fun k hk hg => ?_, fun k hk => ⟨Nat.lt_of_lt_of_le (h4 k hk).1 hP.2.1.size, (h4 k hk).2⟩, hP.2.prot h5, h6.trans hP.2.1⟩, hP.2.kept h5⟩⟩
  rcases hg with hg | ⟨hg, _⟩
  · exact h3 k hk hg
  · have := (h1.low k hk).2; omega
theorem px_send (h : PX W Q w d r own S T m) (n : Int) (Ab : Option Addr) (l cb : Nat) (bs : List Nat) (hm : bs.length = l) (hs : Src w Ab l (u8s bs)) (h256 : ∀ y ∈ bs, y < 256) :
    Calls Try.prog 11 #[.pointer (some ⟨d, 0, none⟩), .int .i64 n, .slice Ab l cb] w fun e w' => e = .returned (.tuple #[.int .u64 (sendN own S n l : Nat), .int .i64 (sendE own S n l)]) ∧ PX W Q w' d r own (send own S n bs) T m ∧ Kept Q w w' := by
  obtain ⟨F, hL, hc⟩ := h.ours
  refine (send_any w hL n Ab l cb bs hm hs h256).mono ?_
  rintro e w' ⟨rfl, h1, h2⟩
  exact ⟨rfl, hc _ _ _ Q h1 (fun _ h => h) (fun _ h => Or.inl h) h2⟩
theorem px_acked (h : PX W Q w d r own S T m) (n : Int) (q : Nat) :
    Calls Try.prog 13 #[.pointer (some ⟨d, 0, none⟩), .int .i64 n, .int .u64 (q : Nat)] w fun e w' => e = .returned (.tuple #[.int .i64 ((ackR own S n q : Nat) : Int), .int .i64 (ackE own S n q)]) ∧ PX W Q w' d r own (ack own S n q) T m ∧ Kept Q w w' := by
  obtain ⟨F, hL, hc⟩ := h.ours
  refine (acked_any w hL n q).mono ?_
  rintro e w' ⟨rfl, h1, h2⟩
  exact ⟨rfl, hc _ _ _ Q h1 (fun _ h => h) (fun _ h => Or.inl h) h2⟩
/-- What Hear gives of links beside the document's. -/
def PHear (W w w' : World) (Q : Nat → Prop) (d r own : Nat) (S T : Nat → LS) (m : Nat) (p : Pk.Pt) (e : Ending) : Prop :=
  ∃ v, e = .returned (.tuple #[v, .bool (hearB own S p), .int .i64 (hearE own S p)]) ∧ (hearB own S p = true → w'.ownsRow w.heap.size 5 1 v p.bs.length (u8s p.bs)) ∧ (hearB own S p = false → v = .slice none 0 0) ∧
    PX W (fun k => Q k ∨ v.ownBlock = some k) w' d r own (hear own S p) T m ∧ Kept Q w w'
theorem px_hear (h : PX W Q w d r own S T m) (x : Pk.Pc) (ho : x.Ok w) :
    Calls Try.prog 12 #[.pointer (some ⟨d, 0, none⟩), .agg x.cells.toArray] w fun e w' => PHear W w w' Q d r own S T m x.p e := by
  obtain ⟨F, hL, hc⟩ := h.ours
  refine (hear_any w hL x ho).mono ?_
  rintro e w' ⟨v, G, rfl, h1, h2, hG, hv, hL', ht⟩
  refine ⟨v, rfl, h1, h2, hc _ _ _ _ hL' hG (fun k hk => ?_) ht⟩
  rcases hk with hk | hk
  · exact Or.inl hk
  · cases hb : hearB own S x.p with
    | true => exact Or.inr ⟨((h1 hb).lt k hk).1, ((h1 hb).lt k hk).2, hv k hk⟩
    | false => rw [h2 hb] at hk; simp [Value.ownBlock] at hk
theorem px_rsend (h : PX W Q w d r own S T m) (hm : m < 300) (n : Int) (bs : List Nat) (h256 : ∀ y ∈ bs, y < 256) :
    Calls Try.prog 26 #[.pointer (some ⟨r, 0, none⟩), .int .i64 n, .string (Byt.bstr bs)] w fun e w' => e = .returned (.tuple #[.int .u64 (sendN own T n bs.length : Nat), .int .i64 (sendE own T n bs.length)]) ∧ PX W Q w' d r own S (send own T n bs) (m + 1) ∧ Kept Q w w' := by
  obtain ⟨G, hR, hc⟩ := h.docs
  refine (rsend_any w hR hm n bs h256).mono ?_
  rintro e w' ⟨rfl, h1⟩
  exact ⟨rfl, hc _ _ _ h1⟩
theorem px_racked (h : PX W Q w d r own S T m) (hm : m < 300) (n : Int) (q : Nat) :
    Calls Try.prog 27 #[.pointer (some ⟨r, 0, none⟩), .int .i64 n, .int .u64 (q : Nat)] w fun e w' => e = .returned (.tuple #[.int .i64 ((ackR own T n q : Nat) : Int), .int .i64 (ackE own T n q)]) ∧ PX W Q w' d r own S (ack own T n q) (m + 1) ∧ Kept Q w w' := by
  obtain ⟨G, hR, hc⟩ := h.docs
  refine (racked_any w hR hm n q).mono ?_
  rintro e w' ⟨rfl, h1⟩
  exact ⟨rfl, hc _ _ _ h1⟩
theorem px_rhear (h : PX W Q w d r own S T m) (hm : m < 300) (p : Pk.Pt) (h256 : ∀ y ∈ p.bs, y < 256) :
    Calls Try.prog 28 #[.pointer (some ⟨r, 0, none⟩), .agg (rpc p).toArray] w fun e w' => e = .returned (.tuple #[.string (Byt.bstr (hearD own T p)), .bool (hearB own T p), .int .i64 (hearE own T p)]) ∧ PX W Q w' d r own S (hear own T p) (m + 1) ∧ Kept Q w w' := by
  obtain ⟨G, hR, hc⟩ := h.docs
  refine (rhear17_any w hR hm p h256).mono ?_
  rintro e w' ⟨rfl, h1⟩
  exact ⟨rfl, hc _ _ _ h1⟩
theorem hear_conv {w w' : World} {v : Value} {p : Pk.Pt} (h1 : hearB own S p = true → w'.ownsRow w.heap.size 5 1 v p.bs.length (u8s p.bs)) (h2 : hearB own S p = false → v = .slice none 0 0) (h256 : ∀ y ∈ p.bs, y < 256) : ∃ A n c, v = .slice A n c ∧ ∀ w4 : World, (∀ k, v.ownBlock = some k → w4.heap[k]? = w'.heap[k]?) → (convert 38 9 (.slice A n c)).run Try.prog w4 = .ok (.string (Byt.bstr (hearD own S p))) w4 := by
  unfold hearD
  cases hb : hearB own S p with
  | true =>
    obtain ⟨A, c, rfl, -⟩ := src_own (h1 hb)
    refine ⟨A, p.bs.length, c, rfl, fun w4 hk => ?_⟩
    obtain ⟨A', c', e, hs⟩ := src_own (ownG_keep (h1 hb) (w' := w4) (fun k h => hk k h))
    simp only [Value.slice.injEq, true_and] at e
    obtain ⟨rfl, rfl⟩ := e
    rw [if_pos rfl]
    exact Byt.conv_src w4 A p.bs.length c p.bs hs rfl h256
  | false =>
    rw [h2 hb]
    refine ⟨none, 0, 0, rfl, fun w4 hk => ?_⟩
    obtain ⟨A', c', e, hs⟩ := src_own (bs := []) (World.ownsRow_nil w4 w4.heap.size 5 1)
    simp only [Value.slice.injEq] at e
    obtain ⟨rfl, -, rfl⟩ := e
    rw [if_neg (by decide)]
    exact Byt.conv_src w4 none 0 0 [] hs rfl (by simp)
end
end Ls
end Go.Proofs.Ytifoheodcbjapaa
namespace Go.Proofs.Ytifoheodcbjapaa
open Go.RowKit
set_option linter.unusedSimpArgs false
set_option linter.unusedVariables false
namespace Ls
open Lk
abbrev PX0 (W w : World) (d r own : Nat) (S T : Nat → LS) (m : Nat) : Prop := PX W (fun _ => False) w d r own S T m
theorem kept_cell {Q : Nat → Prop} {w w' : World} (h : Kept Q w w') {b i : Nat} (hq : Q b) {v : Value} (hc : w.cell? ⟨b, i, none⟩ = some v) : w'.cell? ⟨b, i, none⟩ = some v := (World.cell?_of_block (a := ⟨b, i, none⟩) (h b hq)).trans hc
theorem kept_range {Q : Nat → Prop} {w w' : World} (h : Kept Q w w') {b o : Nat} (hq : Q b) {cs : List Value} (hc : w.rangeAt b o cs) : w'.rangeAt b o cs := fun j v hj => kept_cell h hq (hc j v hj)
section
variable {W w : World} {d r own m : Nat} {S : Nat → LS}
set_option maxRecDepth 20000 in
set_option maxHeartbeats 8000000 in
theorem do_any (h : PX0 W w d r own S S m) (hm : m < 300) (o : Do) (ho : o.Ok W) : Calls Try.prog 9 #[.pointer (some ⟨d, 0, none⟩), .pointer (some ⟨r, 0, none⟩), .agg o.cells.toArray] w fun e w' =>
    e = .returned (.bool true) ∧ PX0 W w' d r own (playS own S o) (playS own S o) (m + 1) := by
  obtain ⟨w1, hw1⟩ : ∃ w1, w1 = w.alloc (.cells o.cells.toArray 42) := ⟨_, rfl⟩
  have hb1 : Below w.heap.size w w1 := by rw [hw1]; exact (Below.refl _ _).alloc (Nat.le_refl _) _
  have hx : Blk w1 w.heap.size 42 o.cells.toArray := by rw [hw1]; exact Blk.new _ _ _
  have hz1 : w1.heap.size = w.heap.size + 1 := by rw [hw1]; simp
  obtain ⟨bx, hbx⟩ : ∃ bx, bx = w.heap.size := ⟨_, rfl⟩
  have c0 : w1.cell? ⟨bx, 0, none⟩ = some (.int .i64 o.k) := by rw [hbx]; exact hx.cell 0
  have c1 : w1.cell? ⟨bx, 1, none⟩ = some (.int .i64 o.n) := by rw [hbx]; exact hx.cell 1
  have c2 : w1.cell? ⟨bx, 2, none⟩ = some (.int .u64 (o.q : Nat)) := by rw [hbx]; exact hx.cell 2
  have c3 : w1.cell? ⟨bx, 3, none⟩ = some (.slice o.A o.bs.length o.c) := by rw [hbx]; exact hx.cell 3
  have hr : w1.rangeAt bx 4 o.x.cells := fun j v hj => by
    have h2 := hx.cell (4 + j)
    rw [hbx, h2, List.getElem?_toArray]
    unfold Do.cells
    rw [List.getElem?_append_right (by simp), ← hj]
    congr 1
    simp
  have HP1 := Lib.hid (h.box (Q' := fun k => k = bx) hb1 (fun k hk => by rw [hk, hbx, hz1]; omega))
  have HO := Lib.hid ho
  have HM := Lib.hid hm
  have HW := Lib.hid hw1
  have HBX := Lib.hid hbx
  have HKD := Lib.hid (h.next hb1)
  obtain ⟨k, hk⟩ : ∃ k, k = o.k := ⟨_, rfl⟩
  rw [← hk] at c0
  have HKK := Lib.hid hk
  have hlen : o.bs.length = o.bs.length := rfl
  obtain ⟨cs, hcs⟩ : ∃ cs, cs = o.cells.toArray := ⟨_, rfl⟩
  rw [← hcs] at HW ⊢
  clear h ho hx hb1 hk hm hw1 hbx hz1 hlen hcs
  by_cases h0 : k = 0
  · have HE := Lib.hid (show playS own S o = send own S o.n o.bs by unfold playS; rw [← HKK.out, if_pos h0])
    have HS := Lib.hid (px_send HP1.out o.n o.A o.bs.length o.c o.bs rfl ((HO.out.next HP1.out.b).src) HO.out.h256)
    obtain ⟨ln, hln⟩ : ∃ ln, ln = o.bs.length := ⟨_, rfl⟩
    rw [← hln] at HS c3
    obtain ⟨z, hz⟩ : ∃ z, z = sendE own S o.n ln := ⟨_, rfl⟩
    obtain ⟨sn, hsn⟩ : ∃ sn, sn = sendN own S o.n ln := ⟨_, rfl⟩
    have HRS := Lib.hid (fun (w2 : World) (hP : PX W (fun k => k = bx) w2 d r own (send own S o.n o.bs) S m) => px_rsend hP HM.out o.n o.bs HO.out.h256)
    rw [← hln, ← hz, ← hsn] at HRS
    rw [← hz, ← hsn] at HS
    have HL := Lib.hid hln
    subst h0
    clear hln hz hsn hr c2
    go_enter Try.func9, Try.ntmps9
    go_upto_region 1 with fail
    rw [← HW.out, ← HBX.out]
    clear HW
    go_upto_region 4 with (go_at_call 11; refine HS.out.mono ?_; rintro e w2 ⟨rfl, hP, hK⟩; have HP2 := Lib.hid hP; have d1 := kept_cell hK rfl c1; have d3 := kept_cell hK rfl c3; clear hP hK HS c0 c1 c3)
    have cv := conv_byr (c := o.c) (HO.out.next HP2.out.b).rd HO.out.hA HO.out.h256 HL.out.symm
    go_wp2_with (go_at_call 26; refine (HRS.out _ HP2.out).mono ?_; rintro e w3 ⟨rfl, hP, hK⟩; have HP3 := Lib.hid hP; clear hP hK HRS cv)
    go_ret
    exact ⟨by first | rfl | simp, by rw [HE.out]; exact HP3.out.sub (fun _ h => h.elim)⟩
  by_cases h1 : k = 1
  · have HE := Lib.hid (show playS own S o = ack own S o.n o.q by unfold playS; rw [← HKK.out, if_neg h0, if_pos h1])
    have HS := Lib.hid (px_acked HP1.out o.n o.q)
    have HRS := Lib.hid (fun (w2 : World) (hP : PX W (fun k => k = bx) w2 d r own (ack own S o.n o.q) S m) => px_racked hP HM.out o.n o.q)
    obtain ⟨z, hz⟩ : ∃ z, z = ackE own S o.n o.q := ⟨_, rfl⟩
    obtain ⟨sn, hsn⟩ : ∃ sn, sn = ackR own S o.n o.q := ⟨_, rfl⟩
    rw [← hz, ← hsn] at HRS HS
    subst h1
    clear h0 hz hsn hr c3
    go_enter Try.func9, Try.ntmps9
    go_upto_region 1 with fail
    rw [← HW.out, ← HBX.out]
    clear HW
    go_wp2_with (first | (go_at_call 13; refine HS.out.mono ?_; rintro e w2 ⟨rfl, hP, hK⟩; have HP2 := Lib.hid hP; have d1 := kept_cell hK rfl c1; have d2 := kept_cell hK rfl c2; clear hP hK HS c0 c1 c2) | (go_at_call 27; refine (HRS.out _ HP2.out).mono ?_; rintro e w3 ⟨rfl, hP, hK⟩; have HP3 := Lib.hid hP; clear hP hK HRS))
    go_ret
    exact ⟨by first | rfl | simp, by rw [HE.out]; exact HP3.out.sub (fun _ h => h.elim)⟩
  by_cases h2 : k = 2
  · have HE := Lib.hid (show playS own S o = hear own S o.x.p by unfold playS; rw [← HKK.out, if_neg h0, if_neg h1, if_pos h2])
    have HS := Lib.hid (px_hear HP1.out o.x (HO.out.next HP1.out.b).px)
    have HRS := Lib.hid (fun (w2 : World) (Q : Nat → Prop) (hP : PX W Q w2 d r own (hear own S o.x.p) S m) => px_rhear hP HM.out o.x.p HO.out.px.h256)
    subst h2
    clear h0 h1 c1 c2 c3
    go_enter Try.func9, Try.ntmps9
    go_upto_region 1 with fail
    rw [← HW.out, ← HBX.out]
    clear HW
    go_upto_region 12 with (first | (refine wpList_load_mid rfl 40 _ rfl _ _ rfl o.x.cells _ hr Try.underlying40 rfl (Pk.pcinfo _) ?_) | (go_at_call 12; refine HS.out.mono ?_; rintro e w2 ⟨v, rfl, h1, h2, hP, hK⟩; have HP2 := Lib.hid hP; have hr2 := kept_range hK rfl hr; have HC := Lib.hid (And.intro h1 h2); clear hP hK HS h1 h2))
    obtain ⟨z, hz⟩ : ∃ z, z = hearE own S o.x.p := ⟨_, rfl⟩
    obtain ⟨zb, hzb⟩ : ∃ zb, zb = hearB own S o.x.p := ⟨_, rfl⟩
    obtain ⟨sb, hsb⟩ : ∃ sb, sb = Byt.bstr (hearD own S o.x.p) := ⟨_, rfl⟩
    obtain ⟨A, n, c, rfl, hcv⟩ := hear_conv HC.out.1 HC.out.2 HO.out.px.h256
    rw [← hz, ← hzb, ← hsb] at HRS
    rw [← hsb] at hcv
    rw [← hz, ← hzb]
    have HCV := Lib.hid hcv
    have HAS := Lib.hid (as15_any o.x w2 (HO.out.next HP2.out.b).px)
    clear hz hzb hsb hcv hr c0
    (try simp only [Act.put, List.setIfInBounds_toArray, List.set_cons_zero, List.set_cons_succ])
    go_upto_region 13 with (first | (refine wpList_load_mid rfl 40 _ rfl _ _ rfl o.x.cells _ hr2 Try.underlying40 rfl (Pk.pcinfo _) ?_) | (go_at_call 29; refine HAS.out.mono ?_; rintro e w3 ⟨rfl, hb3⟩; have HP3 := Lib.hid (HP2.out.next hb3); have HK3 := Lib.hid (HP2.out.kept hb3); clear hb3 HAS) | (go_at_call 28; refine (HRS.out _ _ HP3.out).mono ?_; rintro e w4 ⟨rfl, hP, hK⟩; have HP4 := Lib.hid hP; have HK4 := Lib.hid hK; clear hP hK HRS))
    have cv := HCV.out w4 (fun k hk => (HK4.out k (Or.inr hk)).trans (HK3.out k (Or.inr hk)))
    go_wp2_with fail
    go_ret
    exact ⟨by first | rfl | simp, by rw [HE.out]; exact HP4.out.sub (fun _ h => h.elim)⟩
  · have HE := Lib.hid (show playS own S o = S by unfold playS; rw [← HKK.out, if_neg h0, if_neg h1, if_neg h2])
    have g0 : (k == 0) = false := by simpa using h0
    have g1 : (k == 1) = false := by simpa using h1
    have g2 : (k == 2) = false := by simpa using h2
    clear h0 h1 h2
    go_enter Try.func9, Try.ntmps9
    go_upto_region 1 with fail
    rw [← HW.out, ← HBX.out]
    clear HW
    go_wp2_with fail
    go_ret
    refine ⟨rfl, ?_⟩
    rw [HE.out]
    obtain ⟨F, G, a1, ⟨th, X, V, D, C⟩, a3, a4, a5, a6⟩ := HKD.out
    exact ⟨F, G, a1, ⟨th, X, V, D.more (Nat.le_succ _), C⟩, a3, a4, a5, a6⟩
end
end Ls
end Go.Proofs.Ytifoheodcbjapaa
namespace Go.Proofs.Ytifoheodcbjapaa
open Go.RowKit
set_option linter.unusedSimpArgs false
set_option linter.unusedVariables false
namespace Ls
open Lk
theorem rp_neq (p : Pk.Pt) (w : World) : (binOp .neq 82 (.agg (rpc p).toArray) (.agg (rpc p).toArray)).run Try.prog w = .ok (.bool false) w := by
  rw [rpc_def, run_neq_struct]
  simp [go_sem]
theorem item_ok {W w : World} {v : Value} {own : Nat} {l : List (Nat × It)} (h : PkA W w v own l) {i : Nat} {y : Nat × It} (hi : l[i]? = some y) :
    ∃ g c, v = .slice (some ⟨g, 0, none⟩) l.length c ∧ w.rangeAt g (i * 5) (pcO own y).cells ∧ (pcO own y).Ok w := by
  have hl := (List.getElem?_eq_some_iff.1 hi).1
  have hrow := h.row
  have hrow2 := h.row
  obtain ⟨_, hr⟩ := hrow
  rcases hr with ⟨_, h0⟩ | ⟨g, cap, cur, e, hg, hh, _⟩
  · omega
  · subst e
    obtain ⟨h256, h1, h2, h3, b, p, cs, z, e2, hF, hh2, hc2⟩ := h.at_ y (List.mem_of_getElem? hi)
    refine ⟨g, _, rfl, fun j u hj => ?_, ⟨h3, h256, Or.inr ⟨b, p, e2, hF.2, hc2⟩, fun e => by unfold pcO at e; dsimp only at e; rw [e2] at e; cases e⟩⟩
    have hj5 : j < 5 := by have := (List.getElem?_eq_some_iff.1 hj).1; rwa [Pk.pc_len] at this
    have := hrow2.cells rfl (i * 5 + j) u (by rw [pcs_get _ i (pcO own y) j (by rw [List.getElem?_map, hi]; rfl) hj5]; exact hj)
    rwa [add_plain, Nat.zero_add] at this
theorem rpk_at {w0 w : World} {v : Value} {l : List Pk.Pt} (h : RPk w0 w v l) {i : Nat} {p : Pk.Pt} (hi : l[i]? = some p) : ∃ g c, v = .slice (some ⟨g, 0, none⟩) l.length c ∧ w.rangeAt g (i * 5) (rpc p) := by
  have hl := (List.getElem?_eq_some_iff.1 hi).1
  have hrow := h.row
  have hrow2 := h.row
  obtain ⟨_, hr⟩ := hrow
  rcases hr with ⟨_, h0⟩ | ⟨g, cap, cur, e, hg, hh, _⟩
  · omega
  · subst e
    refine ⟨g, _, rfl, fun j u hj => ?_⟩
    have hj5 : j < 5 := by have := (List.getElem?_eq_some_iff.1 hj).1; rwa [rpc_len] at this
    have := hrow2.cells rfl (i * 5 + j) u (by rw [rpcs_get _ i p j hi hj5]; exact hj)
    rwa [add_plain, Nat.zero_add] at this
theorem zpc_siz (p : Pk.Pt) : (zrpA : Array Value).size = (rpc p).toArray.size := zrp_siz p
section
variable {W w : World} {d r own m : Nat} {S : Nat → LS}
theorem ackp_ok (own : Nat) (S : Nat → LS) (n : Int) (w : World) : (Pk.Pc.mk (ackP own S n) none 0).Ok w := by
  have h : (ackP own S n).bs = [] := by unfold ackP zp; split <;> rfl
  exact ⟨by rw [h]; exact Nat.le_refl _, by rw [h]; simp, Or.inl h, fun _ => h⟩
set_option maxRecDepth 20000 in
set_option maxHeartbeats 16000000 in
theorem same_any (h : PX0 W w d r own S S m) (hm : m ≤ 300) (ask : Int) : Calls Try.prog 10 #[.pointer (some ⟨d, 0, none⟩), .pointer (some ⟨r, 0, none⟩), .int .i64 ask] w fun e w' => e = .returned (.bool true) ∧ Below w.heap.size w w' := by
  obtain ⟨F, G, hL, ⟨th, X, V, D, C⟩, -, -, -, -⟩ := h
  have HPk := Lib.hid (packets_any w hL)
  have HPe := Lib.hid (fun w1 (hb : Below w.heap.size w w1) => peers_any w1 (hL.next hb))
  have HQu := Lib.hid (fun w1 (hb : Below w.heap.size w w1) => queue_any w1 (hL.next hb) ask)
  have HAc := Lib.hid (fun w1 (hb : Below w.heap.size w w1) => ack_any w1 (hL.next hb) ask)
  have HRo := Lib.hid (fun w1 (hb : Below w.heap.size w w1) => room_any w1 (hL.next hb) ask)
  have HOw := Lib.hid (fun w1 (hb : Below w.heap.size w w1) => own_any w1 (hL.next hb))
  have HSv := Lib.hid (fun w1 (hb : Below w.heap.size w w1) => save_any w1 (hL.next hb))
  have HRPk := Lib.hid (fun w1 (hb : Below w.heap.size w w1) => rpackets_any w1 (D.next hb) C hm)
  have HRPe := Lib.hid (fun w1 (hb : Below w.heap.size w w1) => rpeers_any w1 (D.next hb))
  rw [those_peers C] at HRPe
  have HRQu := Lib.hid (fun w1 (hb : Below w.heap.size w w1) => rqueue_any w1 (D.next hb) C hm ask)
  have HRAc := Lib.hid (fun w1 (hb : Below w.heap.size w w1) => rack17_any w1 (D.next hb) C hm ask)
  have HMa := Lib.hid (fun w1 (hb : Below w.heap.size w w1) => rmay_any w1 (D.next hb) ask)
  have HRPu := Lib.hid (fun w1 (hb : Below w.heap.size w w1) => rput17_any w1 (D.next hb) C hm hL.ok)
  have HC0 := Lib.hid (fun w1 (hb : Below w.heap.size w w1) => (D.next hb).c0)
  have HOK := Lib.hid hL.ok
  obtain ⟨pn, hpn⟩ : ∃ pn, pn = (pkts own S).length := ⟨_, rfl⟩
  obtain ⟨kn, hkn⟩ : ∃ kn, kn = (peersL own S).length := ⟨_, rfl⟩
  obtain ⟨qn, hqn⟩ : ∃ qn, qn = (qS own S ask).ts.length := ⟨_, rfl⟩
  rw [← hqn] at HRQu
  have HN := Lib.hid (And.intro hpn (And.intro hkn hqn))
  clear hL D C hm hpn hkn hqn
  go_enter Try.func10, Try.ntmps10
  go_upto_region 2 with (first | (go_at_call 17; refine HPk.out.mono ?_; rintro e w1 ⟨v1, l, rfl, hA, hmp, hll⟩; obtain ⟨A1, c1, hv⟩ := row_none hA.row; have hln : l.length = pn := (by have := congrArg List.length hmp; rw [List.length_map, ← HN.out.1] at this; exact this); rw [hln] at hv; subst hv; have HA1 := Lib.hid (And.intro hA (And.intro hmp (And.intro hll hln))); have HB1 := Lib.hid hA.b; clear hA hmp hll hln HPk) | (go_at_call 16; refine (HPe.out w1 HB1.out).mono ?_; rintro e w2 ⟨v2, rfl, hN, hb⟩; obtain ⟨A2, c2, hv⟩ := hN.shape; rw [← HN.out.2.1] at hv; subst hv; have HN2 := Lib.hid hN; have HBb := Lib.hid hb; have HB2 := Lib.hid (HB1.out.trans (hb.mono HB1.out.size)); clear hN hb HPe) | (go_at_call 18; refine (HQu.out w2 HB2.out).mono ?_; rintro e w3 ⟨hb, A3, c3, M, rfl, -, -, -, hMt, hMl, -, -, -⟩; have hql : M.length = qn := (by have := congrArg List.length hMt; rw [List.length_map, ← HN.out.2.2] at this; exact this); rw [hql]; have HQ3 := Lib.hid (show qn ≤ 250 by rw [← hql]; exact hMl); have HBc := Lib.hid hb; have HB3 := Lib.hid (HB2.out.trans (hb.mono HB2.out.size)); clear hb hMt hMl hql HQu))
  go_upto_region 3 with (first | (go_at_call 30; refine (HRPk.out w3 HB3.out).mono ?_; rintro e w4 ⟨v4, rfl, hR⟩; obtain ⟨A4, c4, hv⟩ := row_none hR.row; rw [← HN.out.1] at hv; subst hv; have HR4 := Lib.hid hR; have HB4 := Lib.hid (HB3.out.trans (hR.b.mono HB3.out.size)); clear hR HRPk) | (go_at_call 31; refine (HRPe.out w4 HB4.out).mono ?_; rintro e w5 ⟨v5, rfl, hN, hb⟩; obtain ⟨A5, c5, hv⟩ := hN.shape; rw [← HN.out.2.1] at hv; subst hv; have HN5 := Lib.hid hN; have HBe := Lib.hid hb; have HB5 := Lib.hid (HB4.out.trans (hb.mono HB4.out.size)); clear hN hb HRPe) | (go_at_call 32; refine (HRQu.out w5 HB5.out).mono ?_; rintro e w6 ⟨A6, c6, rfl, -, hb⟩; have HBf := Lib.hid hb; have HB6 := Lib.hid (HB5.out.trans (hb.mono HB5.out.size)); clear hb HRQu))
  have HAc6 := Lib.hid (HAc.out w6 HB6.out)
  clear HAc
  go_upto_region 4 with (first | (go_at_call 14; refine HAc6.out.mono ?_; rintro e w7 ⟨rfl, hb⟩; have HBg := Lib.hid hb; have HB7 := Lib.hid (HB6.out.trans (hb.mono HB6.out.size)); clear hb HAc6) | (refine wpList_store_blk rfl 40 _ _ rfl w7.heap.size 40 _ (Pk.Pc.mk (ackP own S ask) none 0).cells.toArray rfl rfl (Blk.new w7 _ _) (Pk.pcinfoA _) rfl (Pk.pc_one _) ?_; intro hY; rw [Wr.alloc_setRow]))
  clear hY
  obtain ⟨w8, hw8⟩ : ∃ w8, w8 = w7.alloc (.cells (Pk.Pc.mk (ackP own S ask) none 0).cells.toArray 40) := ⟨_, rfl⟩
  obtain ⟨ga, hga⟩ : ∃ ga, ga = w7.heap.size := ⟨_, rfl⟩
  have hb8 : Below w7.heap.size w7 w8 := by rw [hw8]; exact (Below.refl _ _).alloc (Nat.le_refl _) _
  have hB8 : Blk w8 ga 40 (Pk.Pc.mk (ackP own S ask) none 0).cells.toArray := by rw [hw8, hga]; exact Blk.new _ _ _
  rw [← hw8, ← hga]
  have HB8 := Lib.hid (HB7.out.trans (hb8.mono HB7.out.size))
  have HBh := Lib.hid hb8
  have HX8 := Lib.hid hB8
  have HAc8 := Lib.hid (HRAc.out w8 HB8.out)
  clear hw8 hga hb8 hB8 HRAc
  (try simp only [Act.put, List.setIfInBounds_toArray, List.set_cons_zero, List.set_cons_succ])
  go_upto_region 6 with (first | (go_at_call 33; refine HAc8.out.mono ?_; rintro e w9 ⟨rfl, hb⟩; have HBi := Lib.hid hb; have HB9 := Lib.hid (HB8.out.trans (hb.mono HB8.out.size)); clear hb HAc8) | (refine wpList_store_blk rfl 82 _ _ rfl w9.heap.size 82 zrpA (rpc (ackP own S ask)).toArray rfl rfl (Blk.new w9 _ _) (rpinfoA _) (zrp_siz _) (rpc_one _) ?_; intro hY; rw [Wr.alloc_setRow]))
  clear hY
  obtain ⟨w10, hw10⟩ : ∃ w10, w10 = w9.alloc (.cells (rpc (ackP own S ask)).toArray 82) := ⟨_, rfl⟩
  obtain ⟨gb, hgb⟩ : ∃ gb, gb = w9.heap.size := ⟨_, rfl⟩
  have hb10 : Below w9.heap.size w9 w10 := by rw [hw10]; exact (Below.refl _ _).alloc (Nat.le_refl _) _
  have hB10 : Blk w10 gb 82 (rpc (ackP own S ask)).toArray := by rw [hw10, hgb]; exact Blk.new _ _ _
  rw [← hw10, ← hgb]
  have HB10 := Lib.hid (HB9.out.trans (hb10.mono HB9.out.size))
  have HX10 := Lib.hid (And.intro ((HX8.out.next HBi.out).next hb10) hB10)
  have HBj := Lib.hid hb10
  clear hw10 hgb hb10 hB10 HX8
  (try simp only [Act.put, List.setIfInBounds_toArray, List.set_cons_zero, List.set_cons_succ])
  have HMa10 := Lib.hid (HMa.out w10 HB10.out)
  obtain ⟨rm, hrm⟩ : ∃ rm, rm = roomE own S ask := ⟨_, rfl⟩
  rw [← hrm] at HRo
  have HRM := Lib.hid (show rm = if isO own ask then 250 - qn else 0 by rw [hrm, HN.out.2.2]; rfl)
  clear hrm HMa
  obtain ⟨zo, hzo⟩ : ∃ zo, zo = isO own ask := ⟨_, rfl⟩
  rw [← hzo] at HMa10 HRM
  clear hzo
  go_upto_if 48 with (go_at_call 34; refine HMa10.out.mono ?_; rintro e w11 ⟨rfl, rfl⟩)
  clear HMa10
  go_cut [17] from 49 to 51 (fun vx wx => vx = .int .i64 (rm : Nat) ∧ wx = w10)
  case first =>
    cases zo with
    | true =>
      have e1 : wrap64 (250 - (qn : Int)) = (rm : Nat) := by have := HQ3.out; rw [HRM.out, if_pos rfl]; unfold wrap64; omega
      clear HRM
      go_wp2_with fail
      go_meet
      exact ⟨by first | rfl | rw [e1], rfl⟩
    | false =>
      have e1 : rm = 0 := by rw [HRM.out]; rfl
      clear HRM
      subst e1
      go_wp2_with fail
      go_meet
      exact ⟨rfl, rfl⟩
  case rest =>
    obtain ⟨rfl, rfl⟩ := hcut
    clear HRM
    obtain ⟨zb, hzb⟩ : ∃ zb, zb = ackB own S ask := ⟨_, rfl⟩
    rw [← hzb]
    clear hzb
    have HH := Lib.hid (fun w1 (hb : Below wc.heap.size wc w1) => (⟨HC0.out w1 (HB10.out.trans (hb.mono HB10.out.size)), (HX10.out.1.next hb).range, (HX10.out.2.next hb).range⟩ : w1.cell? ⟨r, 0, none⟩ = some (.int .i64 (own : Nat)) ∧ w1.rangeAt ga 0 (Pk.Pc.mk (ackP own S ask) none 0).cells ∧ w1.rangeAt gb 0 (rpc (ackP own S ask))))
    have HAS := Lib.hid (fun w1 => (as15_any (Pk.Pc.mk (ackP own S ask) none 0) w1 (ackp_ok own S ask w1) : Calls Try.prog 29 #[.agg (Pk.Pc.mk (ackP own S ask) none 0).cells.toArray] w1 fun e W' => e = .returned (.agg (rpc (ackP own S ask)).toArray) ∧ Below w1.heap.size w1 W'))
    have HAc := Lib.hid (((((((((HA1.out.1.next HBb.out).next HBc.out).next HR4.out.b).next HBe.out).next HBf.out).next HBg.out).next HBh.out).next HBi.out).next HBj.out)
    have HRc := Lib.hid ((((((HR4.out.next HBe.out).next HBf.out).next HBg.out).next HBh.out).next HBi.out).next HBj.out)
    have HKc := Lib.hid ((((((((HN2.out.next HBc.out).next HR4.out.b).next HBe.out).next HBf.out).next HBg.out).next HBh.out).next HBi.out).next HBj.out)
    have HZc := Lib.hid (((((HN5.out.next HBf.out).next HBg.out).next HBh.out).next HBi.out).next HBj.out)
    have HLL := Lib.hid HA1.out.2
    clear HA1 HR4 HN2 HN5 HBb HBc HBe HBf HBg HBh HBi HBj HB1 HB2 HB3 HB4 HB5 HB6 HB7 HB8 HB9
    obtain ⟨sb, hsb⟩ : ∃ sb, sb = Byt.bstr (encLS own S) := ⟨_, rfl⟩
    rw [← hsb] at HSv
    have HSB := Lib.hid hsb
    clear hsb
    have hneq := fun w => rp_neq (ackP own S ask) w
    go_upto_region 8 with fail
    have hS0 := HH.out wc (Below.refl _ _)
    refine wp_region_tree (S := (fun w1 => w1.cell? ⟨r, 0, none⟩ = some (.int .i64 (own : Nat)) ∧ w1.rangeAt ga 0 (Pk.Pc.mk (ackP own S ask) none 0).cells ∧ w1.rangeAt gb 0 (rpc (ackP own S ask)))) (.take 0 (.take 1 (.take 2 (.take 3 (.take 4 (.take 5 (.take 6 (.take 7 (.take 8 (.take 9 (.take 10 (.take 11 (.take 12 (.take 13 (.take 14 (.take 15 (.take 16 (.take 17 (.take 18 (.take 19 (.take 20 (.take 22 (.one 21 (.take 23 (.take 24 (.take 25 (.take 26 (.take 27 (.take 28 (.take 29 (.take 30 (.take 31 (.take 32 (.take 34 (.one 33 (.take 35 (.take 36 (.take 37 (.take 38 (.take 40 (.take 41 (.take 42 (.take 43 (.one 39 (.take 44 (.take 45 (.take 46 (.take 47 (.take 49 (.one 48 (.one 50 (.one 51 (.take 52 (.take 53 .nil)))))))))))))))))))))))))))))))))))))))))))))))))))))) 9999 (by kernel_rfl) (by kernel_rfl) (by kernel_rfl) (by kernel_rfl) (by kernel_rfl) (fun _ _ d _ _ h => by cases d <;> exact h) hS0 (fun hHeld => ?_); simp only [Tree.map, List.getElem?_toArray, List.getElem?_cons_zero, List.getElem?_cons_succ]
    (repeat (first | (refine wpTree.take (v := undef) (Or.inr ⟨by rfl, rfl⟩) ?_; simp only [Act.put, List.setIfInBounds_toArray, List.set_cons_zero, List.set_cons_succ]) | (refine wpTree.take (v := .agg (Pk.Pc.mk (ackP own S ask) none 0).cells.toArray) (yieldsIf_load_mid rfl 40 _ rfl _ _ rfl (Pk.Pc.mk (ackP own S ask) none 0).cells _ (fun _ hS => hS.2.1) Try.underlying40 rfl (Pk.pcinfo _)) ?_; simp only [Act.put, List.setIfInBounds_toArray, List.set_cons_zero, List.set_cons_succ]) | (refine wpTree.take (v := .agg (rpc (ackP own S ask)).toArray) (yieldsIf_load_mid rfl 82 _ rfl _ _ rfl (rpc (ackP own S ask)) _ (fun _ hS => hS.2.2) Try.underlying82 rfl (rpinfo _)) ?_; simp only [Act.put, List.setIfInBounds_toArray, List.set_cons_zero, List.set_cons_succ]) | (refine wpTree.take (v := ?_) (Or.inl ⟨by rfl, ?_⟩) ?_; rotate_left; (focus (intro _ hS; (try dsimp only at hS); go_split_ands; (try subst hS); go_simp; (try (with_reducible rfl)); done)); simp only [Act.put, List.setIfInBounds_toArray, List.set_cons_zero, List.set_cons_succ])))
    refine wpTree.one (fun K hK => ?_)
    go_simp
    go_at_call 29
    refine (HAS.out wc.drew).mono ?_
    rintro e wa ⟨rfl, hb⟩
    have HBa := Lib.hid ((Below.refl wc.heap.size wc).drew.trans hb)
    clear hb hS0
    refine hK.out _ _ (HH.out wa HBa.out) (fun hHeld' => ?_)
    clear hK K hHeld
    have hHeld := hHeld'
    clear hHeld'
    (try simp only [Act.put, List.setIfInBounds_toArray, List.set_cons_zero, List.set_cons_succ])
    (repeat (first | (refine wpTree.take (v := undef) (Or.inr ⟨by rfl, rfl⟩) ?_; simp only [Act.put, List.setIfInBounds_toArray, List.set_cons_zero, List.set_cons_succ]) | (refine wpTree.take (v := .agg (Pk.Pc.mk (ackP own S ask) none 0).cells.toArray) (yieldsIf_load_mid rfl 40 _ rfl _ _ rfl (Pk.Pc.mk (ackP own S ask) none 0).cells _ (fun _ hS => hS.2.1) Try.underlying40 rfl (Pk.pcinfo _)) ?_; simp only [Act.put, List.setIfInBounds_toArray, List.set_cons_zero, List.set_cons_succ]) | (refine wpTree.take (v := .agg (rpc (ackP own S ask)).toArray) (yieldsIf_load_mid rfl 82 _ rfl _ _ rfl (rpc (ackP own S ask)) _ (fun _ hS => hS.2.2) Try.underlying82 rfl (rpinfo _)) ?_; simp only [Act.put, List.setIfInBounds_toArray, List.set_cons_zero, List.set_cons_succ]) | (refine wpTree.take (v := ?_) (Or.inl ⟨by rfl, ?_⟩) ?_; rotate_left; (focus (intro _ hS; (try dsimp only at hS); go_split_ands; (try subst hS); go_simp; (try (with_reducible rfl)); done)); simp only [Act.put, List.setIfInBounds_toArray, List.set_cons_zero, List.set_cons_succ])))
    refine wpTree.one (fun K hK => ?_)
    go_simp
    go_at_call 19
    refine (HRo.out wa (HB10.out.trans (HBa.out.mono HB10.out.size))).mono ?_
    rintro e wb ⟨rfl, hb⟩
    have HBb := Lib.hid (HBa.out.trans (hb.mono HBa.out.size))
    clear hb
    refine hK.out _ _ (HH.out wb HBb.out) (fun hHeld' => ?_)
    clear hK K hHeld
    have hHeld := hHeld'
    clear hHeld'
    (try simp only [Act.put, List.setIfInBounds_toArray, List.set_cons_zero, List.set_cons_succ])
    (repeat (first | (refine wpTree.take (v := undef) (Or.inr ⟨by rfl, rfl⟩) ?_; simp only [Act.put, List.setIfInBounds_toArray, List.set_cons_zero, List.set_cons_succ]) | (refine wpTree.take (v := .agg (Pk.Pc.mk (ackP own S ask) none 0).cells.toArray) (yieldsIf_load_mid rfl 40 _ rfl _ _ rfl (Pk.Pc.mk (ackP own S ask) none 0).cells _ (fun _ hS => hS.2.1) Try.underlying40 rfl (Pk.pcinfo _)) ?_; simp only [Act.put, List.setIfInBounds_toArray, List.set_cons_zero, List.set_cons_succ]) | (refine wpTree.take (v := .agg (rpc (ackP own S ask)).toArray) (yieldsIf_load_mid rfl 82 _ rfl _ _ rfl (rpc (ackP own S ask)) _ (fun _ hS => hS.2.2) Try.underlying82 rfl (rpinfo _)) ?_; simp only [Act.put, List.setIfInBounds_toArray, List.set_cons_zero, List.set_cons_succ]) | (refine wpTree.take (v := ?_) (Or.inl ⟨by rfl, ?_⟩) ?_; rotate_left; (focus (intro _ hS; (try dsimp only at hS); go_split_ands; (try subst hS); go_simp; (try (with_reducible rfl)); done)); simp only [Act.put, List.setIfInBounds_toArray, List.set_cons_zero, List.set_cons_succ])))
    refine wpTree.one (fun K hK => ?_)
    go_simp
    go_at_call 15
    refine (HOw.out wb (HB10.out.trans (HBb.out.mono HB10.out.size))).mono ?_
    rintro e wb' ⟨rfl, rfl⟩
    refine hK.out _ _ (HH.out wb HBb.out) (fun hHeld' => ?_)
    clear hK K hHeld
    have hHeld := hHeld'
    clear hHeld'
    (try simp only [Act.put, List.setIfInBounds_toArray, List.set_cons_zero, List.set_cons_succ])
    (repeat (first | (refine wpTree.take (v := undef) (Or.inr ⟨by rfl, rfl⟩) ?_; simp only [Act.put, List.setIfInBounds_toArray, List.set_cons_zero, List.set_cons_succ]) | (refine wpTree.take (v := .agg (Pk.Pc.mk (ackP own S ask) none 0).cells.toArray) (yieldsIf_load_mid rfl 40 _ rfl _ _ rfl (Pk.Pc.mk (ackP own S ask) none 0).cells _ (fun _ hS => hS.2.1) Try.underlying40 rfl (Pk.pcinfo _)) ?_; simp only [Act.put, List.setIfInBounds_toArray, List.set_cons_zero, List.set_cons_succ]) | (refine wpTree.take (v := .agg (rpc (ackP own S ask)).toArray) (yieldsIf_load_mid rfl 82 _ rfl _ _ rfl (rpc (ackP own S ask)) _ (fun _ hS => hS.2.2) Try.underlying82 rfl (rpinfo _)) ?_; simp only [Act.put, List.setIfInBounds_toArray, List.set_cons_zero, List.set_cons_succ]) | (refine wpTree.take (v := ?_) (Or.inl ⟨by rfl, ?_⟩) ?_; rotate_left; (focus (intro _ hS; (try dsimp only at hS); go_split_ands; (try subst hS); go_simp; (try (with_reducible rfl)); done)); simp only [Act.put, List.setIfInBounds_toArray, List.set_cons_zero, List.set_cons_succ])))
    refine wpTree.one (fun K hK => ?_)
    go_simp
    go_at_call 20
    refine (HSv.out wb (HB10.out.trans (HBb.out.mono HB10.out.size))).mono ?_
    rintro e wd ⟨rfl, hb⟩
    have HBd := Lib.hid (HBb.out.trans (hb.mono HBb.out.size))
    clear hb
    refine hK.out _ _ (HH.out wd HBd.out) (fun hHeld' => ?_)
    clear hK K hHeld
    have hHeld := hHeld'
    clear hHeld'
    (try simp only [Act.put, List.setIfInBounds_toArray, List.set_cons_zero, List.set_cons_succ])
    (repeat (first | (refine wpTree.take (v := undef) (Or.inr ⟨by rfl, rfl⟩) ?_; simp only [Act.put, List.setIfInBounds_toArray, List.set_cons_zero, List.set_cons_succ]) | (refine wpTree.take (v := .agg (Pk.Pc.mk (ackP own S ask) none 0).cells.toArray) (yieldsIf_load_mid rfl 40 _ rfl _ _ rfl (Pk.Pc.mk (ackP own S ask) none 0).cells _ (fun _ hS => hS.2.1) Try.underlying40 rfl (Pk.pcinfo _)) ?_; simp only [Act.put, List.setIfInBounds_toArray, List.set_cons_zero, List.set_cons_succ]) | (refine wpTree.take (v := .agg (rpc (ackP own S ask)).toArray) (yieldsIf_load_mid rfl 82 _ rfl _ _ rfl (rpc (ackP own S ask)) _ (fun _ hS => hS.2.2) Try.underlying82 rfl (rpinfo _)) ?_; simp only [Act.put, List.setIfInBounds_toArray, List.set_cons_zero, List.set_cons_succ]) | (refine wpTree.take (v := ?_) (Or.inl ⟨by rfl, ?_⟩) ?_; rotate_left; (focus (intro _ hS; (try dsimp only at hS); go_split_ands; (try subst hS); go_simp; (try (with_reducible rfl)); done)); simp only [Act.put, List.setIfInBounds_toArray, List.set_cons_zero, List.set_cons_succ])))
    refine wpTree.one (fun K hK => ?_)
    go_simp
    go_at_call 35
    refine (HRPu.out wd (HB10.out.trans (HBd.out.mono HB10.out.size))).mono ?_
    rintro e we ⟨vp, rfl, hM⟩
    have HBe := Lib.hid (HBd.out.trans (hM.2.mono HBd.out.size))
    obtain ⟨Ap, cp, hvp, hsp⟩ := made_src hM
    have hcv := Byt.conv_src we Ap (encLS own S).length cp (encLS own S) hsp rfl HOK.out.h256
    rw [← HSB.out] at hcv
    obtain ⟨en, hen⟩ : ∃ en, en = (encLS own S).length := ⟨_, rfl⟩
    rw [← hen] at hcv hvp
    subst hvp
    clear hM hsp hen
    refine hK.out _ _ (HH.out we HBe.out) (fun hHeld' => ?_)
    clear hK K hHeld
    have hHeld := hHeld'
    clear hHeld'
    (try simp only [Act.put, List.setIfInBounds_toArray, List.set_cons_zero, List.set_cons_succ])
    refine wpTree.one (fun K hK => ?_)
    go_simp
    refine hK.out _ _ (HH.out we HBe.out) (fun hHeld' => ?_)
    clear hK K hHeld
    have hHeld := hHeld'
    clear hHeld'
    (try simp only [Act.put, List.setIfInBounds_toArray, List.set_cons_zero, List.set_cons_succ])
    clear hcv
    (repeat (first | (refine wpTree.take (v := undef) (Or.inr ⟨by rfl, rfl⟩) ?_; simp only [Act.put, List.setIfInBounds_toArray, List.set_cons_zero, List.set_cons_succ]) | (refine wpTree.take (v := .agg (Pk.Pc.mk (ackP own S ask) none 0).cells.toArray) (yieldsIf_load_mid rfl 40 _ rfl _ _ rfl (Pk.Pc.mk (ackP own S ask) none 0).cells _ (fun _ hS => hS.2.1) Try.underlying40 rfl (Pk.pcinfo _)) ?_; simp only [Act.put, List.setIfInBounds_toArray, List.set_cons_zero, List.set_cons_succ]) | (refine wpTree.take (v := .agg (rpc (ackP own S ask)).toArray) (yieldsIf_load_mid rfl 82 _ rfl _ _ rfl (rpc (ackP own S ask)) _ (fun _ hS => hS.2.2) Try.underlying82 rfl (rpinfo _)) ?_; simp only [Act.put, List.setIfInBounds_toArray, List.set_cons_zero, List.set_cons_succ]) | (refine wpTree.take (v := ?_) (Or.inl ⟨by rfl, ?_⟩) ?_; rotate_left; (focus (intro _ hS; (try dsimp only at hS); go_split_ands; (try subst hS); go_simp; (try (with_reducible rfl)); done)); simp only [Act.put, List.setIfInBounds_toArray, List.set_cons_zero, List.set_cons_succ])))
    refine wpTree.done ?_
    clear hneq hHeld
    have HE := Lib.hid (HB10.out.trans (HBe.out.mono HB10.out.size))
    go_upto_region 11 with fail
    clear HOw HRPu HC0 HOK HQ3 HH HAS
    go_loopw [18] (fun v wr => ∃ i : Nat, i ≤ pn ∧ v = .int .i64 (i : Nat) ∧ Below wc.heap.size wc wr) (fun v _ => pn - (intOf v).toNat)
    case atStart => exact ⟨0, Nat.zero_le _, rfl, HBe.out⟩
    case round =>
      clear HBe HE
      obtain ⟨i, hi, rfl, hb⟩ := hrel
      have HB := Lib.hid hb
      by_cases hlt : i < pn
      · have i1 : (i : Int) < (pn : Nat) := by omega
        have i2 : ¬ (i : Int) < 0 := by omega
        obtain ⟨ii, hii⟩ : ∃ ii, ii = i + 1 := ⟨_, rfl⟩
        have hp3 : pn ≤ 3000 := by have h1 := HLL.out.2.1; have h2 := HLL.out.2.2; omega
        have HWI := Lib.hid (Nd.wrap_n i ii hii (by omega))
        have HI := Lib.hid (And.intro hii hlt)
        obtain ⟨y, hy⟩ : ∃ y, l[i]? = some y := ⟨_, List.getElem?_eq_getElem (by have h2 := HLL.out.2.2; omega)⟩
        have hp : (pkts own S)[i]? = some (pcO own y).p := by
          rw [← HLL.out.1, List.getElem?_map, hy]; rfl
        obtain ⟨g, c, e, hrg, hok⟩ := item_ok (HAc.out.next hb) hy
        simp only [Value.slice.injEq] at e
        obtain ⟨rfl, -, -⟩ := e
        obtain ⟨g4, c', e, hr4⟩ := rpk_at (HRc.out.next hb) hp
        simp only [Value.slice.injEq] at e
        obtain ⟨rfl, -, -⟩ := e
        obtain ⟨pc, hpc⟩ : ∃ pc, pc = pcO own y := ⟨_, rfl⟩
        rw [← hpc] at hrg hok hr4
        have HAS := Lib.hid (as15_any pc wr.drew (hok.next (Below.refl _ _).drew))
        have HR4 := Lib.hid (fun w1 (hb1 : Below wr.heap.size wr w1) => (⟨fun j v hj => cell_next hb1 (hrg j v hj), fun j v hj => cell_next hb1 (hr4 j v hj)⟩ : w1.rangeAt g (i * 5) pc.cells ∧ w1.rangeAt g4 (i * 5) (rpc pc.p)))
        have hneq := fun w => rp_neq pc.p w
        clear hi hlt hii hy hp hpc hok hp3 hb
        go_upto_region 13 with fail
        refine wp_region_tree (S := (fun w1 => w1.rangeAt g (i * 5) pc.cells ∧ w1.rangeAt g4 (i * 5) (rpc pc.p))) (.take 0 (.take 1 (.take 2 (.take 3 (.take 5 (.take 6 (.take 7 (.take 8 (.one 4 (.take 9 .nil)))))))))) 9999 (by kernel_rfl) (by kernel_rfl) (by kernel_rfl) (by kernel_rfl) (by kernel_rfl) (fun _ _ d _ _ h => by cases d <;> exact h) ⟨hrg, hr4⟩ (fun hHeld => ?_); simp only [Tree.map, List.getElem?_toArray, List.getElem?_cons_zero, List.getElem?_cons_succ]
        (repeat (first | (refine wpTree.take (v := undef) (Or.inr ⟨by rfl, rfl⟩) ?_; simp only [Act.put, List.setIfInBounds_toArray, List.set_cons_zero, List.set_cons_succ]) | (refine wpTree.take (v := .agg pc.cells.toArray) (yieldsIf_load_mid rfl 40 _ rfl _ _ rfl pc.cells _ (fun _ hS => hS.1) Try.underlying40 rfl (Pk.pcinfo _)) ?_; simp only [Act.put, List.setIfInBounds_toArray, List.set_cons_zero, List.set_cons_succ]) | (refine wpTree.take (v := .agg (rpc pc.p).toArray) (yieldsIf_load_mid rfl 82 _ rfl _ _ rfl (rpc pc.p) _ (fun _ hS => hS.2) Try.underlying82 rfl (rpinfo _)) ?_; simp only [Act.put, List.setIfInBounds_toArray, List.set_cons_zero, List.set_cons_succ]) | (refine wpTree.take (v := ?_) (Or.inl ⟨by rfl, ?_⟩) ?_; rotate_left; (focus (intro _ hS; (try dsimp only at hS); go_split_ands; (try subst hS); go_simp; (try (with_reducible rfl)); done)); simp only [Act.put, List.setIfInBounds_toArray, List.set_cons_zero, List.set_cons_succ])))
        refine wpTree.one (fun K hK => ?_)
        go_simp
        go_at_call 29
        refine HAS.out.mono ?_
        rintro e w5 ⟨rfl, hb5⟩
        have hb6 := (Below.refl wr.heap.size wr).drew.trans hb5
        have HB5 := Lib.hid (HB.out.trans (hb6.mono HB.out.size))
        refine hK.out _ _ (HR4.out w5 hb6) (fun hHeld' => ?_)
        clear hK K hHeld hHeld' hb5 hb6 HAS
        (try simp only [Act.put, List.setIfInBounds_toArray, List.set_cons_zero, List.set_cons_succ])
        (repeat (first | (refine wpTree.take (v := undef) (Or.inr ⟨by rfl, rfl⟩) ?_; simp only [Act.put, List.setIfInBounds_toArray, List.set_cons_zero, List.set_cons_succ]) | (refine wpTree.take (v := ?_) (Or.inl ⟨by rfl, ?_⟩) ?_; rotate_left; (focus (intro _ hS; (try dsimp only at hS); go_split_ands; (try subst hS); go_simp; (try (with_reducible rfl)); done)); simp only [Act.put, List.setIfInBounds_toArray, List.set_cons_zero, List.set_cons_succ])))
        refine wpTree.done ?_
        clear hneq hrg hr4
        go_wp2_with fail
        (try rw [HWI.out])
        go_roundw
        case rel => exact ⟨ii, by have := HI.out; omega, by first | rfl | rw [HWI.out], HB5.out⟩
        case measure => have := HI.out; simp [intOf]; omega
      · have i1 : ¬ (i : Int) < (pn : Nat) := by omega
        clear hi hlt hb
        go_upto_region 16 with fail
        clear i1
        go_loopw [19] (fun v wy => ∃ k : Nat, k ≤ kn ∧ v = .int .i64 (k : Nat) ∧ Below wc.heap.size wc wy) (fun v _ => kn - (intOf v).toNat)
        case atStart => exact ⟨0, Nat.zero_le _, rfl, HB.out⟩
        case round =>
          obtain ⟨k, hk, rfl, hb⟩ := hrel
          have HBy := Lib.hid hb
          by_cases hlt : k < kn
          · have i1 : (k : Int) < (kn : Nat) := by omega
            have i2 : ¬ (k : Int) < 0 := by omega
            obtain ⟨kk, hkk⟩ : ∃ kk, kk = k + 1 := ⟨_, rfl⟩
            have hk12 : kn ≤ 12 := by have h1 := HN.out.2.1; have h2 := Nd.those_le (fun m => hasB own S ((m : Nat) : Int)) 12; rw [h1]; exact h2
            have HWI := Lib.hid (Nd.wrap_n k kk hkk (by omega))
            have HI := Lib.hid (And.intro hkk hlt)
            obtain ⟨n, hn⟩ : ∃ n, (peersL own S)[k]? = some n := ⟨_, List.getElem?_eq_getElem (by have := HN.out.2.1; omega)⟩
            obtain ⟨g, o, c, e, -, hc1⟩ := (HKc.out.next hb).at_ hn
            simp only [Value.slice.injEq] at e
            obtain ⟨rfl, -, -⟩ := e
            obtain ⟨g4, o4, c', e, -, hc2⟩ := (HZc.out.next hb).at_ hn
            simp only [Value.slice.injEq] at e
            obtain ⟨rfl, -, -⟩ := e
            clear hk hlt hkk hn hb hk12
            go_upto_region 18 with fail
            refine wp_region_tree (S := (fun w1 => w1.cell? ⟨g, o + k, none⟩ = some (.int .i64 (n : Nat)) ∧ w1.cell? ⟨g4, o4 + k, none⟩ = some (.int .i64 (n : Nat)))) (.take 0 (.take 1 (.take 2 (.take 3 (.take 4 (.take 5 (.take 6 (.take 7 (.take 8 .nil))))))))) 9999 (by kernel_rfl) (by kernel_rfl) (by kernel_rfl) (by kernel_rfl) (by kernel_rfl) (fun _ _ d _ _ h => by cases d <;> exact h) ⟨hc1, hc2⟩ (fun hHeld => ?_); simp only [Tree.map, List.getElem?_toArray, List.getElem?_cons_zero, List.getElem?_cons_succ]
            (repeat (first | (refine wpTree.take (v := undef) (Or.inr ⟨by rfl, rfl⟩) ?_; simp only [Act.put, List.setIfInBounds_toArray, List.set_cons_zero, List.set_cons_succ]) | (refine wpTree.take (v := ?_) (Or.inl ⟨by rfl, ?_⟩) ?_; rotate_left; (focus (intro _ hS; (try dsimp only at hS); go_split_ands; (try subst hS); go_simp; (try (with_reducible rfl)); done)); simp only [Act.put, List.setIfInBounds_toArray, List.set_cons_zero, List.set_cons_succ])))
            refine wpTree.done ?_
            clear hc1 hc2
            go_wp2_with fail
            (try rw [HWI.out])
            go_roundw
            case rel => exact ⟨kk, by have := HI.out; omega, by first | rfl | rw [HWI.out], HBy.out.drew⟩
            case measure => have := HI.out; simp [intOf]; omega
          · have i1 : ¬ (k : Int) < (kn : Nat) := by omega
            clear hk hlt hb
            go_wp2_with fail
            go_ret
            exact ⟨rfl, HB10.out.trans (HBy.out.mono HB10.out.size)⟩
end
end Ls
end Go.Proofs.Ytifoheodcbjapaa
namespace Go.Proofs.Ytifoheodcbjapaa
open Go.RowKit
set_option linter.unusedSimpArgs false
set_option linter.unusedVariables false
namespace Ls
open Lk
def X0 : Nat → RS := fun _ => RS.z
def V0 : Nat → Value := fun _ => .slice none 0 0
def T0 : Nat → Bool := fun _ => false
theorem built_rx (n : Nat) : Try.prog.built 35 [(0, .int .i64 (n : Nat))] = some (rxc n T0 X0 V0).toArray := by
  unfold rxc; kernel_rfl
theorem zero_ls : (#[.int .i64 0, .int .u64 0, .slice none 0 0, .int .u64 0, .int .u64 0, .slice none 0 0, .int .u64 0, .int .u64 0, .slice none 0 0, .int .u64 0, .int .u64 0, .slice none 0 0, .int .u64 0, .int .u64 0, .slice none 0 0, .int .u64 0, .int .u64 0, .slice none 0 0, .int .u64 0, .int .u64 0, .slice none 0 0, .int .u64 0, .int .u64 0, .slice none 0 0, .int .u64 0, .int .u64 0, .slice none 0 0, .int .u64 0, .int .u64 0, .slice none 0 0, .int .u64 0, .int .u64 0, .slice none 0 0, .int .u64 0, .int .u64 0, .slice none 0 0, .int .u64 0] : Array Value) = (lsc 0 fun _ => Kn.z).toArray := by unfold lsc; kernel_rfl
theorem nb_nil (w : World) : NB w (.pointer none) := Or.inl rfl
theorem nb_zero {w : World} {g : Nat} (h : Blk w g 50 (lsc 0 fun _ => Kn.z).toArray) : NB w (.pointer (some ⟨g, 0, none⟩)) := Or.inr ⟨g, rfl, h⟩
theorem px_zero {W w1 w2 : World} {own : Nat} (h1 : 1 ≤ own) (h2 : own ≤ 12) (hL : LN w1 W.heap.size W.heap.size (fun k => k = W.heap.size) own S0) (hb : Below W.heap.size W w1) (hz : w1.heap.size = W.heap.size + 1) (hw : w2 = w1.alloc (.cells (rxc own T0 X0 V0).toArray 35)) : PX0 W w2 W.heap.size w1.heap.size own S0 S0 0 := by
  have hb2 : Below w1.heap.size w1 w2 := by rw [hw]; exact (Below.refl _ _).alloc (Nat.le_refl _) _
  have hB : Blk w2 w1.heap.size 35 (rxc own T0 X0 V0).toArray := by rw [hw]; exact Blk.new _ _ _
  refine ⟨fun k => k = W.heap.size, fun k => k = w1.heap.size, hL.next hb2, ⟨T0, X0, V0, ⟨rfl, fun i k hk => by simp [V0, Value.ownBlock] at hk, fun k hk => by subst hk; exact ⟨hb.size, hB.lt⟩, hB, h1, h2, fun i => World.ownsRow_nil _ _ _ _, fun i => Nat.le_refl _, fun i b hb => by simp [X0, RS.z] at hb, fun i => ⟨Nat.le_refl _, Nat.le_refl _⟩, fun i j _ k hk => by simp [V0, Value.ownBlock] at hk⟩, ⟨fun n hn => by simp [T0] at hn, fun n _ => ⟨rfl, fun _ => rfl⟩⟩⟩, fun k h1 h2 => by omega, fun _ h => h.elim, fun _ h => h.elim, hb.trans (hb2.mono hb.size)⟩
set_option maxHeartbeats 16000000 in
set_option maxRecDepth 20000 in
theorem live_walk (W : World) (own : Int) (A1 : Option Addr) (n1 c1 : Nat) (ask : Int) (l1 : List Do) (hl1 : l1.length = n1) (hr1 : RowsOf Do.cells 9 W A1 l1) (ho1 : ∀ x ∈ l1, x.Ok W) :
    Calls Try.prog 3 #[.int .i64 own, .slice A1 n1 c1, .int .i64 ask] W fun e W' => e = .returned (.bool true) ∧ Below W.heap.size W W' := by
  have HAL := Lib.hid alive_any
  by_cases hn : isN own = true
  · obtain ⟨no, rfl⟩ : ∃ no : Nat, own = (no : Nat) := ⟨own.toNat, by have := of_decide_eq_true hn; omega⟩
    have hno := of_decide_eq_true hn
    have HN := Lib.hid (new_yes W no (by omega) (by omega))
    have HNO := Lib.hid (show 1 ≤ no ∧ no ≤ 12 by omega)
    have t1 : ¬ (no : Int) < 1 := by omega
    have t2 : ¬ (12 : Int) < (no : Nat) := by omega
    have HL1 := Lib.hid hl1
    have HR1 := Lib.hid hr1
    have HO1 := Lib.hid ho1
    clear hl1 hr1 ho1 hno hn
    go_enter Try.func3, Try.ntmps3
    go_upto_region 6 with (first | (go_at_call 6; refine HN.out.mono ?_; rintro e w1 ⟨rfl, h, hb, hz⟩; have H1 := Lib.hid (And.intro h (And.intro hb hz)); clear h hb hz HN))
    have hbl := built_rx no
    go_upto_region 8 with (first | (refine Nd.wpList_build_lit (rxc no T0 X0 V0).toArray rfl 35 _ rfl hbl ?_))
    clear hbl t1 t2
    obtain ⟨w2, hw2⟩ : ∃ w2, w2 = w1.alloc (.cells (rxc no T0 X0 V0).toArray 35) := ⟨_, rfl⟩
    have H2 := Lib.hid (px_zero HNO.out.1 HNO.out.2 H1.out.1 H1.out.2.1 H1.out.2.2 hw2)
    obtain ⟨r, hr⟩ : ∃ r, r = w1.heap.size := ⟨_, rfl⟩
    rw [← hr] at H2
    rw [← hw2, ← hr]
    clear hw2 hr H1
    obtain ⟨d, hd⟩ : ∃ d, d = W.heap.size := ⟨_, rfl⟩
    rw [← hd] at H2
    rw [← hd]
    clear hd
    go_loopw [10] (fun i wr => ∃ j : Nat, j ≤ 60 ∧ i = .int .i64 j ∧ ∃ s, PX0 W wr d r no s s j) (fun i _ => 60 - (intOf i).toNat)
    case atStart => exact ⟨0, by omega, rfl, _, H2.out⟩
    case round =>
      clear H2
      obtain ⟨j, hj, rfl, s, hA⟩ := hrel
      have HA := Lib.hid hA
      clear hA
      by_cases hjl : j < n1 ∧ j < 60
      · obtain ⟨x, hx⟩ : ∃ x, l1[j]? = some x := ⟨_, List.getElem?_eq_getElem (by rw [HL1.out]; exact hjl.1)⟩
        have i1 : (j : Int) < (n1 : Nat) := by omega
        have i2 : (j : Int) < 60 := by omega
        have i3 : ¬ (j : Int) < 0 := by omega
        obtain ⟨b, o, rfl, hbl, hrx⟩ := do_row HR1.out HA.out.b hx
        have HX := Lib.hid (HO1.out x (List.mem_of_getElem? hx))
        have HJL := Lib.hid hjl
        have HGR := Lib.hid (great_any wr x)
        have HRX := Lib.hid (fun w (hb : Below wr.heap.size wr w) (hbl : b < wr.heap.size) => (show w.rangeAt b (o + j * 9) x.cells from fun i v hv => (hb.cell (p := ⟨b, o + j * 9 + i, none⟩) hbl).trans (hrx i v hv)))
        have HBL := Lib.hid (show b < wr.heap.size from Nat.lt_of_lt_of_le hbl HA.out.b.size)
        clear hx hjl hj hbl
        cases hg : greatB x with
        | true =>
          rw [hg] at HGR
          clear hg
          go_wp2_with (first | (refine wpList_load_mid rfl 42 _ rfl _ _ rfl x.cells _ hrx Try.underlying42 rfl (doinfo x) ?_) | (go_at_call 8; refine HGR.out.mono ?_; rintro e w2 ⟨rfl, hb⟩; have HB2 := Lib.hid hb; clear hb) | (go_at_call 7; refine (HAL.out _).mono ?_; rintro e w3 ⟨rfl, hb⟩; have HB3 := Lib.hid (HB2.out.trans (hb.mono HB2.out.size)); clear hb))
          go_ret
          exact ⟨rfl, HA.out.b.trans (HB3.out.mono HA.out.b.size)⟩
        | false =>
          rw [hg] at HGR
          clear hg
          go_upto_region 12 with (first | (refine wpList_load_mid rfl 42 _ rfl _ _ rfl x.cells _ hrx Try.underlying42 rfl (doinfo x) ?_) | (go_at_call 8; refine HGR.out.mono ?_; rintro e w2 ⟨rfl, hb⟩; have HD := Lib.hid (do_any (HA.out.next hb) (by have := HJL.out.2; omega) x HX.out); have hrx2 := HRX.out w2 hb HBL.out; clear hb hrx HRX HGR))
          go_wp2_with (first | (refine wpList_load_mid rfl 42 _ rfl _ _ rfl x.cells _ hrx2 Try.underlying42 rfl (doinfo x) ?_) | (go_at_call 9; refine HD.out.mono ?_; rintro e w3 ⟨rfl, h⟩; have H3 := Lib.hid h; have HSM := Lib.hid (same_any h (by have := HJL.out.2; omega) ask); clear h HD HA hrx2) | (go_at_call 10; refine HSM.out.mono ?_; rintro e w4 ⟨rfl, hb⟩; have H4 := Lib.hid (H3.out.next hb); clear hb HSM H3))
          go_roundw
          case rel => exact ⟨j + 1, by have := HJL.out; omega, by go_num, _, H4.out⟩
          case measure => have := HJL.out; simp [intOf]; omega
      · have hor : ¬ (j : Int) < (n1 : Nat) ∨ ((j : Int) < (n1 : Nat) ∧ ¬ (j : Int) < 60) := by omega
        have HB0 := Lib.hid HA.out.b
        clear hjl hj HA
        rcases hor with i1 | ⟨i1, i2⟩
        all_goals
          go_upto_region 16 with fail
          obtain ⟨w5, hw5⟩ : ∃ w5, w5 = wr.alloc (.cells (lsc 0 fun _ => Kn.z).toArray 50) := ⟨_, rfl⟩
          obtain ⟨gz, hgz⟩ : ∃ gz, gz = wr.heap.size := ⟨_, rfl⟩
          have hb5 : Below wr.heap.size wr w5 := by rw [hw5]; exact (Below.refl _ _).alloc (Nat.le_refl _) _
          have hB5 : Blk w5 gz 50 (lsc 0 fun _ => Kn.z).toArray := by rw [hw5, hgz]; exact Blk.new _ _ _
          rw [show (#[.int .i64 0, .int .u64 0, .slice none 0 0, .int .u64 0, .int .u64 0, .slice none 0 0, .int .u64 0, .int .u64 0, .slice none 0 0, .int .u64 0, .int .u64 0, .slice none 0 0, .int .u64 0, .int .u64 0, .slice none 0 0, .int .u64 0, .int .u64 0, .slice none 0 0, .int .u64 0, .int .u64 0, .slice none 0 0, .int .u64 0, .int .u64 0, .slice none 0 0, .int .u64 0, .int .u64 0, .slice none 0 0, .int .u64 0, .int .u64 0, .slice none 0 0, .int .u64 0, .int .u64 0, .slice none 0 0, .int .u64 0, .int .u64 0, .slice none 0 0, .int .u64 0] : Array Value) = (lsc 0 fun _ => Kn.z).toArray from zero_ls, ← hw5, ← hgz]
          have HB5 := Lib.hid (HB0.out.trans (hb5.mono HB0.out.size))
          have HZ := Lib.hid (fun w (hb : Below w5.heap.size w5 w) => nb_zero (hB5.next hb))
          have HNL := Lib.hid (fun w => nb_nil w)
          clear hw5 hgz hb5 hB5 HB0 i1
          go_upto_region 17 with (go_at_call 11; refine (send_nb _ (HNL.out _) 1 _).mono ?_; rintro e w6 ⟨rfl, hw⟩; have HB6 := Lib.hid (by (rw [← hw]; exact (Below.refl w5.heap.size w5).alloc (Nat.le_refl _) _) : Below w5.heap.size w5 w6); clear hw)
          have HHR := Lib.hid ((hear_nb w6 (HZ.out w6 HB6.out) (Pk.Pc.mk zp none 0)) : Calls Try.prog 12 #[.pointer (some ⟨gz, 0, none⟩), .agg zpc] w6 fun e W' => e = .returned (.tuple #[.slice none 0 0, .bool false, .int .i64 6]) ∧ Below w6.heap.size w6 W')
          go_upto_region 18 with (first | (refine Nd.wpList_build_lit zpc rfl 40 _ rfl built_zp ?_) | (go_at_call 12; refine HHR.out.mono ?_; rintro e w7 ⟨rfl, hb⟩; have HB7 := Lib.hid (HB6.out.trans (hb.mono HB6.out.size)); clear hb HHR))
          have HAD := Lib.hid (acked_nb w7 (HNL.out w7) 1 (.int .u64 1))
          have HAK := Lib.hid (ack_nb w7 (HZ.out w7 HB7.out) 1)
          go_upto_region 19 with (go_at_call 13; refine HAD.out.mono ?_; rintro e w7' ⟨rfl, rfl⟩)
          go_upto_region 20 with (first | (go_at_call 14; refine HAK.out.mono ?_; rintro e w8 ⟨rfl, hb⟩; have HB8 := Lib.hid (HB7.out.trans (hb.mono HB7.out.size)); clear hb HAK) | (refine wpList_store_blk rfl 40 _ _ rfl w8.heap.size 40 _ zpc rfl rfl (Blk.new w8 _ _) zpcinfo rfl zpc_one ?_; intro hY; rw [Wr.alloc_setRow]))
          clear hY
          obtain ⟨w9, hw9⟩ : ∃ w9, w9 = w8.alloc (.cells zpc 40) := ⟨_, rfl⟩
          have hb9 : Below w8.heap.size w8 w9 := by rw [hw9]; exact (Below.refl _ _).alloc (Nat.le_refl _) _
          rw [← hw9]
          have HB9 := Lib.hid (HB8.out.trans (hb9.mono HB8.out.size))
          clear hw9 hb9
          (try simp only [List.append_eq, List.cons_append, List.nil_append])
          have HOW := Lib.hid (fun w => own_nil w)
          have HPE := Lib.hid (fun w => peers_nb w (nb_nil w))
          have HPK := Lib.hid (fun w (hb : Below w5.heap.size w5 w) => packets_nb w (HZ.out w hb))
          have HQU := Lib.hid (fun w => queue_nb w (nb_nil w) 1)
          have HRM := Lib.hid (fun w (hb : Below w5.heap.size w5 w) => room_nb w (HZ.out w hb) 1)
          have HS1 := Lib.hid (fun w => save_nb w (nb_nil w))
          have HS2 := Lib.hid (fun w (hb : Below w5.heap.size w5 w) => save_nb w (HZ.out w hb))
          rw [bnil] at HS1 HS2
          go_wp2_with (first | (go_at_call 7; refine (HAL.out w9).mono ?_; rintro e w10 ⟨rfl, hb⟩; have HB10 := Lib.hid (HB9.out.trans (hb.mono HB9.out.size)); clear hb) | (go_at_call 15; refine (HOW.out w10).mono ?_; rintro e w11 ⟨rfl, rfl⟩) | (go_at_call 16; refine (HPE.out w10).mono ?_; rintro e w12 ⟨v12, rfl, hN, hb⟩; obtain ⟨A12, c12, hv⟩ := hN.shape; rw [List.length_nil] at hv; subst hv; have HB12 := Lib.hid (HB10.out.trans (hb.mono HB10.out.size)); clear hN hb) | (go_at_call 17; refine (HPK.out w12 HB12.out).mono ?_; rintro e w13 ⟨rfl, hb⟩; have HB13 := Lib.hid (HB12.out.trans (hb.mono HB12.out.size)); clear hb) | (go_at_call 18; refine (HQU.out w13).mono ?_; rintro e w14 ⟨rfl, rfl⟩) | (go_at_call 19; refine (HRM.out w13 HB13.out).mono ?_; rintro e w15 ⟨rfl, rfl⟩) | (go_at_call 20; refine (HS1.out w13).mono ?_; rintro e w16 ⟨rfl, hb⟩; have HB16 := Lib.hid (HB13.out.trans (hb.mono HB13.out.size)); clear hb HS1) | (go_at_call 20; refine (HS2.out w16 HB16.out).mono ?_; rintro e w17 ⟨rfl, hb⟩; have HB17 := Lib.hid (HB16.out.trans (hb.mono HB16.out.size)); clear hb))
          go_ret
          exact ⟨rfl, HB5.out.trans (HB17.out.mono HB5.out.size)⟩
  · have hn' : isN own = false := by simpa using hn
    have HN := Lib.hid (new_not W own hn')
    have hor : own < 1 ∨ (¬ own < 1 ∧ 12 < own) := by
      by_cases h1 : own < 1
      · exact Or.inl h1
      · refine Or.inr ⟨h1, ?_⟩
        by_cases h2 : (12 : Int) < own
        · exact h2
        · exact absurd (decide_eq_true (show 1 ≤ own ∧ own ≤ 12 by omega)) hn
    clear hn hn'
    rcases hor with t1 | ⟨t1, t2⟩
    all_goals
      go_enter Try.func3, Try.ntmps3
      go_wp2_with (first | (go_at_call 6; refine HN.out.mono ?_; rintro e w1 ⟨rfl, rfl⟩) | (go_at_call 7; refine (HAL.out W).mono ?_; rintro e w10 ⟨rfl, hb⟩; have HB10 := Lib.hid hb; clear hb))
      go_ret
      exact ⟨rfl, HB10.out⟩
end Ls
end Go.Proofs.Ytifoheodcbjapaa
namespace Go.Proofs.Ytifoheodcbjapaa
open Go.RowKit Go.ChangeShapes Go.WideShapes Go.ChangeAt Go.WideElems
set_option linter.unusedSimpArgs false
set_option linter.unusedVariables false
namespace Ls
open Lk
theorem own_knob : ownKnob Try.prog.godebug = none := by kernel_rfl
theorem laid_out : laidOutB Try.prog = true := by kernel_rfl

set_option maxRecDepth 100000 in
theorem live_lifted (os : Os) (started : os.Started) (H : Type) (enc : TypeId × Value → H) :
    ReturnsInHanded {} Try.checked os 3 .any (Rows.linksLiveSpec.pre6 enc Try.prog Try.f3 Rows.linksLiveRow.domain false) (Rows.linksLiveSpec.post enc Try.prog Try.f3 false true false false) := by
  refine law_lift (C := Try.checked) own_knob started (by kernel_rfl) Try.func3 rfl Try.underlying4 laid_out (by kernel_rfl) rfl ?_
    (ChangeSpec.witness6 (enc := enc) (C := Try.checked) false ⟨#[], #[.int .i64 0, .slice none 0 0, .int .i64 0], []⟩ 8 (by kernel_rfl) (by kernel_rfl) (by kernel_rfl) (by kernel_rfl)) ?_
  · intro ds hds
    match ds, hds with
    | [_, _, _], _ => rfl
  intro W base args ds ps hval hA hlt hsz
  rw [Try.params3] at hA hval
  obtain ⟨v0, vs0, d0, ds0, p0, q0, hargs, rfl, rfl, h0, r0⟩ := trodAll_cons hA
  obtain ⟨v1, vs1, d1, ds1, p1, q1, rfl, rfl, rfl, h1, r1⟩ := trodAll_cons r0
  obtain ⟨v2, vs2, d2, ds2, p2, q2, rfl, rfl, rfl, h2, r2⟩ := trodAll_cons r1
  obtain ⟨rfl, rfl, rfl⟩ := trodAll_nil r2
  obtain rfl : args = #[v0, v1, v2] := by cases args; simp_all
  obtain ⟨a0, rfl, rfl, rfl, w0⟩ := open_int Try.underlying3 (hval 0 3 v0 rfl rfl) h0
  obtain ⟨A1, c1, l1, rfl, hl1, hc1, hr1, hok1⟩ := open_rows Try.underlying22 9 cells_do (by omega) Do.cells (Do.Ok W) ⟨0, 0, 0, none, 0, [], ⟨⟨false, 0, 0, 0, []⟩, none, 0⟩⟩ do_len (hval 1 22 v1 rfl rfl) h1 (fun x hx => hlt x (by simp [hx])) (fun _ _ _ _ h hlt => open_do h hlt)
  obtain ⟨a2, rfl, rfl, rfl, w2⟩ := open_int Try.underlying3 (hval 2 3 v2 rfl rfl) h2
  exact live_walk W a0 A1 l1.length c1 a2 l1 rfl hr1 hok1

theorem live_holds : Rows.LinksLiveSaid :=
  OpenClaim.holds_of_wide 3 Try.f3 rfl rfl rfl rfl rfl rfl rfl ⟨rfl, rfl, rfl, rfl, rfl⟩ rfl rfl rfl rfl rfl (by kernel_rfl) Try.func3 (by kernel_rfl)
    (of_decide_eq_true (by kernel_rfl)) (by unfold Func.isWrapper; first | (rw [if_pos (by decide +kernel)]; kernel_rfl) | (rw [if_neg (by decide +kernel)]; exact ⟨rfl, rfl⟩))
    (fun os started H enc _ => live_lifted os started H enc)

end Ls
end Go.Proofs.Ytifoheodcbjapaa
