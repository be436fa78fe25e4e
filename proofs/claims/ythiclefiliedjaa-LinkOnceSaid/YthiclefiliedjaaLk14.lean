/-
link: the fixed test of each law.
-/
import Derived.Test.YthiclefiliedjaaLk13
namespace Go.Proofs.Ythiclefiliedjaa
open Go.RowKit
set_option linter.unusedSimpArgs false
set_option linter.unusedVariables false
namespace Lk
theorem lit_src {w : World} {bs : List Nat} {C : Array Value} {z : Nat × Nat} (h : C = (u8s bs).toArray) : Src (w.alloc (.cells C 5 z)) (some ⟨w.heap.size, 0, none⟩) bs.length (u8s bs) := by
  refine Or.inl ⟨_, rfl, fun j u hj => ?_⟩
  have hh := heap_alloc_new w (Obj.cells C 5 z)
  rw [add_plain, Nat.zero_add, cell_of_row _ w.heap.size _ _ _ _ hh, h, List.getElem?_toArray]
  exact hj
/-- A link that a law made; all below is as it was; P's blocks are not its own. -/
def Alv (W : World) (P : Nat → Prop) (w : World) (d : Nat) (s : LS) : Prop := ∃ F, LK w W.heap.size d F s ∧ Below W.heap.size W w ∧ Prot P F w
section
variable {W w w' : World} {P : Nat → Prop} {d : Nat} {s : LS}
theorem Alv.next (h : Alv W P w d s) (hb : Below w.heap.size w w') : Alv W P w' d s := by
  obtain ⟨F, hK, hB, hP⟩ := h
  exact ⟨F, hK.next hb, hB.trans (hb.mono hB.size), hP.next hb⟩
theorem Alv.b (h : Alv W P w d s) : Below W.heap.size W w := by obtain ⟨F, hK, hB, hP⟩ := h; exact hB
theorem Alv.fresh (h : Alv W P w d s) (hb : Below w.heap.size w w') : Alv W (fun k => w.heap.size ≤ k ∧ k < w'.heap.size) w' d s := by
  obtain ⟨F, hK, hB, hP⟩ := h
  exact ⟨F, hK.next hb, hB.trans (hb.mono hB.size), fun k hk => ⟨hk.2, fun hF => by have := hK.low k hF; omega⟩⟩
theorem Alv.kept (h : Alv W P w d s) (hb : Below w.heap.size w w') : Kept P w w' := by
  obtain ⟨F, hK, hB, hP⟩ := h
  exact fun k hk => hb.block k (hP k hk).1
theorem av_new (W : World) : Calls Try.prog 8 #[] W fun e w' => e = .returned (.pointer (some ⟨W.heap.size, 0, none⟩)) ∧ Alv W (fun _ => False) w' W.heap.size ⟨1, 1, []⟩ := by
  refine (new_any W).mono ?_
  rintro e w' ⟨rfl, h, hb, -⟩
  exact ⟨rfl, _, h, hb, Prot.none _ _⟩
theorem av_send (h : Alv W P w d s) (Ab : Option Addr) (m cb : Nat) (bs : List Nat) (hm : bs.length = m) (hs : Src w Ab m (u8s bs)) (h256 : ∀ y ∈ bs, y < 256) (n : Nat) (e0 : Int) (s' : LS) (hn : sendN s m = n) (he : sendE s m = e0) (hs' : s.send bs = s') :
    Calls Try.prog 10 #[.pointer (some ⟨d, 0, none⟩), .slice Ab m cb] w fun e w' => e = .returned (.tuple #[.int .u64 (n : Nat), .int .i64 e0]) ∧ Alv W P w' d s' ∧ Kept P w w' := by
  subst hn he hs'
  obtain ⟨F, hK, hB, hP⟩ := h
  refine (send_any w hK Ab m cb bs hm hs h256).mono ?_
  rintro e w' ⟨rfl, h1, h2⟩
  exact ⟨rfl, ⟨_, h1, hB.trans h2.1, h2.prot hP⟩, h2.kept hP⟩
theorem av_ack (h : Alv W P w d s) (q : Nat) (n : Nat) (e0 : Int) (s' : LS) (hn : ackR s q = n) (he : ackE s q = e0) (hs' : s.ack q = s') :
    Calls Try.prog 12 #[.pointer (some ⟨d, 0, none⟩), .int .u64 (q : Nat)] w fun e w' => e = .returned (.tuple #[.int .i64 (n : Nat), .int .i64 e0]) ∧ Alv W P w' d s' ∧ Kept P w w' := by
  subst hn he hs'
  obtain ⟨F, hK, hB, hP⟩ := h
  refine (acked_any w hK q).mono ?_
  rintro e w' ⟨rfl, h1, h2⟩
  exact ⟨rfl, ⟨_, h1, hB.trans h2.1, h2.prot hP⟩, h2.kept hP⟩
theorem av_take (h : Alv W P w d s) (q : Nat) (b : Bool) (e0 : Int) (s' : LS) (hn : takeE s q = (b, e0)) (hs' : s.take q = s') :
    Calls Try.prog 14 #[.pointer (some ⟨d, 0, none⟩), .int .u64 (q : Nat)] w fun e w' => e = .returned (.tuple #[.bool b, .int .i64 e0]) ∧ Alv W P w' d s' ∧ Kept P w w' := by
  subst hs'
  obtain ⟨F, hK, hB, hP⟩ := h
  refine (take_any w hK q).mono ?_
  rintro e w' ⟨rfl, h1, h2, h3⟩
  rw [hn]
  exact ⟨rfl, ⟨_, h1, hB.trans h2.1, hP.size (Nat.le_of_eq h3.symm)⟩, h2.kept hP⟩
theorem av_queue (h : Alv W P w d s) : Calls Try.prog 16 #[.pointer (some ⟨d, 0, none⟩)] w fun e w' => QueueP s w e w' := by
  obtain ⟨F, hK, hB, hP⟩ := h
  exact queue_any w hK
theorem av_save (h : Alv W P w d s) : Calls Try.prog 19 #[.pointer (some ⟨d, 0, none⟩)] w fun e w' => e = .returned (.string (Byt.bstr (encL s))) ∧ Below w.heap.size w w' := by
  obtain ⟨F, hK, hB, hP⟩ := h
  exact save_any w hK
theorem Alv.ok (h : Alv W P w d s) : s.Ok := by obtain ⟨F, hK, hB, hP⟩ := h; exact hK.ok
theorem Kept.trans {a b c : World} (h : Kept P a b) (k : Kept P b c) : Kept P a c := fun i hi => (k i hi).trans (h i hi)
theorem Kept.lt {a b : World} (h : Kept P a b) {k : Nat} (hk : P k) (hl : k < a.heap.size) : k < b.heap.size := by
  have h1 := h k hk
  rw [Array.getElem?_eq_getElem hl] at h1
  exact (Array.getElem?_eq_some_iff.1 h1).1
/-- The bytes of a link, as a law reads them. -/
theorem str_load (w : World) (s : LS) (h : s.Ok) (v : Value) (w' : World) (hc : (convert 9 30 (.string (Byt.bstr (encL s)))).run Try.prog w = .ok v w') :
    Below w.heap.size w w' ∧ Calls Try.prog 25 #[v] w' fun e w2 => ∃ d F, e = .returned (.pointer (some ⟨d, 0, none⟩)) ∧ LK w2 w'.heap.size d F s ∧ Below w'.heap.size w' w2 := by
  rw [Sx.str_bytes w (encL s) (encL s).length rfl] at hc
  injection hc with h1 h2
  subst h1 h2
  refine ⟨(Below.refl _ _).drew.alloc (Nat.le_refl _) _, ?_⟩
  exact load_yes (some ⟨w.heap.size, 0, none⟩) (encL s).length (Sx.capS (encL s) w) _ (encL s) rfl (by unfold Sx.capS; rw [Byt.bstr_size]; exact grownCap_ge _ _ _ _) (by have := h.elen; omega) h.h256 (Sx.objS_byr w (encL s) h.h256) (link_yes h)
end
theorem fin_s1 : (⟨1, 1, []⟩ : LS).send [120] = ⟨2, 1, [[120]]⟩ := rfl
theorem fin_s2 : (⟨2, 1, [[120]]⟩ : LS).send [121] = ⟨3, 1, [[120], [121]]⟩ := rfl
theorem fin_s3 : (⟨3, 1, [[120], [121]]⟩ : LS).ack 1 = ⟨3, 1, [[121]]⟩ := rfl
theorem fin_s4 : (⟨3, 1, [[121]]⟩ : LS).take 1 = ⟨3, 2, [[121]]⟩ := rfl
theorem fin_s5 : (⟨3, 2, [[121]]⟩ : LS).take 1 = ⟨3, 2, [[121]]⟩ := rfl
theorem fin_s6 : (⟨3, 2, [[121]]⟩ : LS).take 3 = ⟨3, 2, [[121]]⟩ := rfl
theorem fin_s7 : (⟨3, 2, [[121]]⟩ : LS).ack 3 = ⟨3, 2, [[121]]⟩ := rfl
section
set_option maxHeartbeats 8000000 in
set_option maxRecDepth 20000 in
theorem alive_any (W : World) : Calls Try.prog 9 #[] W fun e W' => e = .returned (.bool true) ∧ Below W.heap.size W W' := by
  have HN := Lib.hid (av_new W)
  have kc := fun (w : World) (C : Array Value) (n c : Nat) => Lib.run_convert_bytes_const (P := Try.prog) w 30 5 C n c Try.underlying30 Try.underlying5
  go_enter Try.func9, Try.ntmps9
  go_upto_region 2 with (first | (go_at_call 8; refine HN.out.mono ?_; rintro e w1 ⟨rfl, h⟩; have H1 := Lib.hid h; clear h HN))
  have hb1 := (Below.refl w1.heap.size w1).alloc (Nat.le_refl _) (.cells #[.int .u8 120] 5 (1, 2))
  have HS1 := Lib.hid (av_send (H1.out.next hb1) (some ⟨w1.heap.size, 0, none⟩) 1 1 [120] rfl (lit_src rfl) (by decide) 1 0 _ rfl rfl fin_s1)
  clear hb1
  go_upto_region 3 with (first | (go_at_call 10; refine HS1.out.mono ?_; rintro e w2 ⟨rfl, h, -⟩; have H2 := Lib.hid h; clear h HS1 H1))
  have hb2 := (Below.refl w2.heap.size w2).alloc (Nat.le_refl _) (.cells #[.int .u8 121] 5 (1, 2))
  have HS2 := Lib.hid (av_send (H2.out.next hb2) (some ⟨w2.heap.size, 0, none⟩) 1 1 [121] rfl (lit_src rfl) (by decide) 2 0 _ rfl rfl fin_s2)
  clear hb2
  go_upto_region 4 with (first | (go_at_call 10; refine HS2.out.mono ?_; rintro e w3 ⟨rfl, h, -⟩; have H3 := Lib.hid h; clear h HS2 H2))
  have HA := Lib.hid (av_ack H3.out 1 1 0 _ rfl rfl fin_s3)
  go_upto_region 5 with (first | (go_at_call 12; refine HA.out.mono ?_; rintro e w4 ⟨rfl, h, -⟩; have H4 := Lib.hid h; clear h HA H3))
  have HQ := Lib.hid (av_queue H4.out)
  go_upto_region 6 with (first | (go_at_call 16; refine HQ.out.mono ?_; rintro e w5 ⟨hb, A, c, M, rfl, hc, hrow, hat, hts, -, -, -, hsq⟩; have H5 := Lib.hid (H4.out.fresh hb); have HM := Lib.hid (And.intro hts (And.intro hrow (And.intro hat hsq))); clear hb hc hrow hat hts hsq HQ H4))
  obtain ⟨x, hM, hxb, hxq⟩ : ∃ x, M = [x] ∧ x.bs = [121] ∧ x.q = 2 := by
    have hl := congrArg List.length HM.out.1
    simp at hl
    obtain ⟨x, rfl⟩ := List.length_eq_one_iff.1 hl
    have h1 := HM.out.1
    simp at h1
    have h2 := HM.out.2.2.2 0 x rfl
    simp at h2
    exact ⟨x, rfl, h1, h2⟩
  subst hM
  have HX := Lib.hid (And.intro hxb hxq)
  clear hxb hxq
  obtain ⟨g, o, cs, z, rfl, hF, hh, hc⟩ : ∃ g o cs z, A = some ⟨g, o, none⟩ ∧ (w4.heap.size ≤ g ∧ g < w5.heap.size) ∧ w5.heap[g]? = some (.cells cs 48 z) ∧ ∀ (i : Nat) (y : It), [x][i]? = some y → ∀ j v, y.cells[j]? = some v → w5.cell? ⟨g, o + 2 * i + j, none⟩ = some v := by
    rcases HM.out.2.1 with ⟨_, h0⟩ | ⟨g, o, cs, z, e, hF, hh, hc⟩
    · cases h0
    · exact ⟨g, o, cs, z, e, hF, hh, hc⟩
  have HR := Lib.hid (And.intro hF (show w5.rangeAt g o x.cells from fun j u hj => by have := hc 0 x rfl j u hj; rwa [Nat.mul_zero, Nat.add_zero] at this))
  have HXA := Lib.hid (HM.out.2.2.1 x (by simp))
  clear hF hh hc HM
  have HT := Lib.hid (av_take H5.out 1 true 0 _ rfl fin_s4)
  go_upto_region 7 with (first | (go_at_call 14; refine HT.out.mono ?_; rintro e w6 ⟨rfl, h, hk⟩; have H6 := Lib.hid h; have K6 := Lib.hid hk; clear h hk HT))
  have HT := Lib.hid (av_take H6.out 1 false 0 _ rfl fin_s5)
  go_upto_region 8 with (first | (go_at_call 14; refine HT.out.mono ?_; rintro e w7 ⟨rfl, h, hk⟩; have H7 := Lib.hid h; have K7 := Lib.hid (Kept.trans K6.out hk); clear h hk HT))
  have HT := Lib.hid (av_take H7.out 3 false 14 _ rfl fin_s6)
  go_upto_region 9 with (first | (go_at_call 14; refine HT.out.mono ?_; rintro e w8 ⟨rfl, h, hk⟩; have H8 := Lib.hid h; have K8 := Lib.hid (Kept.trans K7.out hk); clear h hk HT))
  have HT := Lib.hid (av_ack H8.out 3 0 14 _ rfl rfl fin_s7)
  go_upto_region 10 with (first | (go_at_call 12; refine HT.out.mono ?_; rintro e w9 ⟨rfl, h, hk⟩; have H9 := Lib.hid h; have K9 := Lib.hid (Kept.trans K8.out hk); clear h hk HT))
  have HSV := Lib.hid (av_save H9.out)
  have HCV := Lib.hid (fun w => Sx.str_bytes w (encL ⟨3, 2, [[121]]⟩) (encL ⟨3, 2, [[121]]⟩).length rfl)
  have HLD := Lib.hid (fun w => str_load w _ H9.out.ok _ _ (HCV.out w))
  obtain ⟨en, hen⟩ : ∃ en, en = encL ⟨3, 2, [[121]]⟩ := ⟨_, rfl⟩
  rw [← hen] at HSV HCV HLD
  clear hen
  go_upto_region 10 with fail
  go_upto_region 11 with (first | (go_at_call 19; refine HSV.out.mono ?_; rintro e w10 ⟨rfl, hb⟩; have hcv := HCV.out w10; have HB10 := Lib.hid hb; have HLD2 := Lib.hid (HLD.out w10); clear hb HSV HCV HLD) | (go_at_call 25; refine HLD2.out.2.mono ?_; rintro e w11 ⟨dm, F, rfl, hK, hb⟩; have HM := Lib.hid hK; have HB11 := Lib.hid (HB10.out.trans ((HLD2.out.1.trans (hb.mono HLD2.out.1.size)).mono HB10.out.size)); clear hK hb))
  have hkp : ∀ k, (w4.heap.size ≤ k ∧ k < w5.heap.size) → w11.heap[k]? = w5.heap[k]? := fun k hk => (HB11.out.block k (Kept.lt K9.out hk hk.2)).trans (K9.out k hk)
  have hx11 : x.At w11 (fun k => w4.heap.size ≤ k ∧ k < w5.heap.size) := HXA.out.keep (fun k hk => ⟨hk, hkp k hk⟩)
  have hsrc := hx11.src
  rw [HX.out.1] at hsrc
  have hc0 : w11.cell? ⟨g, o, none⟩ = some (.int .u64 2) := by
    rw [World.cell?_of_block (hkp g HR.out.1)]
    have := HR.out.2 0 _ (it_0 (x := x))
    rwa [HX.out.2, Nat.add_zero] at this
  have hc1 : w11.cell? ⟨g, o + 1, none⟩ = some (.slice x.A 1 x.c) := by
    rw [World.cell?_of_block (hkp g HR.out.1)]
    have := HR.out.2 1 _ (it_1 (x := x))
    rwa [HX.out.1] at this
  have hcv : (convert 30 9 (.slice x.A 1 x.c)).run Try.prog w11 = .ok (.string ⟨#[121]⟩) w11 := by
    have := Byt.conv_src w11 x.A 1 x.c [121] hsrc rfl (by decide)
    rw [Byt.bstr_lit] at this
    exact this
  have HB := Lib.hid (show Below W.heap.size W w11 from H9.out.b.trans (HB11.out.mono H9.out.b.size))
  have HEX := Lib.hid (expect_any w11 HM.out)
  have HNX := Lib.hid (next_any w11 HM.out)
  have HL0 := Lib.hid (load_no none 0 0 w11 [] rfl (by decide) (by decide) (by simp) (Or.inl rfl) link_nil)
  clear hkp hx11 hsrc HR HXA K9 HB11 H9 HM H5 HX
  go_wp2_with (first | (go_at_call 18; refine HEX.out.mono ?_; rintro e w12 ⟨rfl, rfl⟩) | (go_at_call 17; refine HNX.out.mono ?_; rintro e w12 ⟨rfl, rfl⟩) | (go_at_call 25; refine HL0.out.mono ?_; rintro e w13 ⟨rfl, hb⟩; have HB13 := Lib.hid hb; clear hb))
  go_ret
  exact ⟨rfl, HB.out.trans (HB13.out.mono HB.out.size)⟩
end
end Lk
end Go.Proofs.Ythiclefiliedjaa
