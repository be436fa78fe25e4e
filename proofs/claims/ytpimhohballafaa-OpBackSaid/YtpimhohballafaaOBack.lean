/-
OpBack holds: events go there and back, in one way alone, with all bits of a Price; cut anywhere, or with one byte more, their bytes are none. No condition.
-/
import Derived.Test.YtpimhohballafaaOOpen
import Derived.Test.YtpimhohballafaaLBack
namespace Go.Proofs.Ytpimhohballafaa
open Go.ChangeShapes Go.WideShapes Go.ChangeAt Go.RowKit

theorem src_u8_one (W : World) (x : Nat) : Src (W.alloc (.cells #[.int .u8 (x : Nat)] 5)) (some ⟨W.heap.size, 0, none⟩) 1 (u8s [x]) := Or.inl ⟨_, rfl, fun j u hj => by
  have hj0 : j = 0 := by
    rcases Nat.lt_or_ge j 1 with h | h
    · omega
    · rw [List.getElem?_eq_none (by simpa [u8s] using h)] at hj; cases hj
  subst hj0
  rw [add_plain, cell_of_row _ W.heap.size 0 _ _ _ (heap_alloc_new W _)]
  exact hj⟩
theorem encO_lt (o : OpR) : ∀ y ∈ encO o, y < 256 := by
  intro y hy
  unfold encO at hy
  simp only [List.mem_append] at hy
  rcases hy with h | h | h | h
  · exact enc_lt _ y h
  · split at h
    · exact enc_lt _ y h
    · cases h
  · split at h
    · exact enc_lt _ y h
    · cases h
  · split at h
    · unfold encF at h; exact be8_lt _ y h
    · cases h
theorem encL_lt (l : Lab) : ∀ y ∈ encL l, y < 256 := by
  intro y hy
  unfold encL at hy
  simp only [List.mem_append] at hy
  rcases hy with ((((h | h) | h) | h) | h) | h
  · exact enc_lt _ y h
  · exact enc_lt _ y h
  · exact enc_lt _ y h
  · exact enc_lt _ y h
  · exact enc_lt _ y h
  · exact encV_lt _ y h
theorem encE_lt (x : Ev) : ∀ y ∈ encE x, y < 256 := by
  intro y hy
  unfold encE at hy
  rcases List.mem_append.1 hy with h | h
  · exact encL_lt _ y h
  · exact encO_lt _ y h
def zE : Ev := Ev.mk zL (OpR.mk 0 0 0 0)
theorem zE_right : rightE zE = false := by unfold rightE zE; dsimp only; rw [zL_right, Bool.false_and]
theorem zE_cells : zE.cells.toArray = #[.int .u64 0, .int .i64 0, .int .u32 0, .int .i64 0, .int .i64 0, .int .u32 0, .int .u32 0, .int .u32 0, .int .u32 0, .int .u32 0, .int .u32 0, .int .u32 0, .int .u32 0, .int .u32 0, .int .u32 0, .int .u32 0, .int .u32 0, .int .i64 0, .int .i64 0, .int .i64 0, .float .f64 0] := by
  have h : zL.cells = zLabL := by
    have := congrArg Array.toList zL_cells
    simpa [zLabL] using this
  rw [ev_def]
  unfold zE
  dsimp only
  rw [h, op_cells]
  rfl
theorem zE_range {W : World} {g : Nat} {t : TypeId} (h : Blk W g t #[.int .u64 0, .int .i64 0, .int .u32 0, .int .i64 0, .int .i64 0, .int .u32 0, .int .u32 0, .int .u32 0, .int .u32 0, .int .u32 0, .int .u32 0, .int .u32 0, .int .u32 0, .int .u32 0, .int .u32 0, .int .u32 0, .int .u32 0, .int .i64 0, .int .i64 0, .int .i64 0, .float .f64 0]) : W.rangeAt g 0 zE.cells := by
  rw [← zE_cells] at h
  exact h.range
attribute [irreducible] zE

set_option maxRecDepth 20000 in
set_option maxHeartbeats 16000000 in
theorem opback_walk (x : Ev) (hx : x.Ok) (As : Option Addr) (n cs : Nat) (sb : List Nat) (cut : Int) (W : World) (hn : sb.length = n) (hnc : n ≤ cs) (hb256 : ∀ x ∈ sb, x < 256) (hby : ByR W As sb) (hnone : As = none → sb = []) :
    Calls Try.prog 7 #[.agg x.item.toArray, .slice As n cs, .int .i64 cut] W fun e W' => e = .returned (.bool true) ∧ Below W.heap.size W W' := by
  have HL := Lib.hid hn
  have HLC := Lib.hid hnc
  have HB := Lib.hid hb256
  have HN := Lib.hid hnone
  have bA := Blk.new W 50 x.item.toArray
  have hB0 := (Below.refl W.heap.size W).alloc (Nat.le_refl _) (.cells x.item.toArray 50)
  have H0 := Lib.hid (show Below W.heap.size W (W.alloc (.cells x.item.toArray 50)) ∧ ByR (W.alloc (.cells x.item.toArray 50)) As sb from ⟨hB0, hby.next hB0⟩)
  have HBL := Lib.hid bA
  have ri := bA.range
  have HF := Lib.hid hx.l.f
  have HFP := Lib.hid hx.o.p
  clear hn hnc hb256 hby hnone bA hB0 hx
  by_cases hbig : 300 < n
  · have hbig' : (300 : Int) < (n : Int) := by omega
    clear hbig
    go_enter Try.func7, Try.ntmps7
    go_wp2_with (go_at_call 21; refine (alive6_any _).mono ?_; rintro e x4 ⟨rfl, hb⟩; have H4 := Lib.hid (H0.out.1.trans (hb.mono H0.out.1.size)); clear hb)
    go_ret
    exact ⟨rfl, H4.out⟩
  have hbig' : ¬ (300 : Int) < (n : Int) := by omega
  go_enter Try.func7, Try.ntmps7
  go_wp2_with (first | (refine wpList_load_midg (by rfl) 50 _ rfl _ _ rfl (Ev.item ?_) _ ?_ Try.underlying50 rfl (iinfo _) ?_; rotate_left; (focus assumption)))
  refine (itemevent_any x _).mono ?_
  rintro e W0 ⟨rfl, hb⟩
  have HW0 := Lib.hid (show Below W.heap.size W W0 ∧ ByR W0 As sb from ⟨H0.out.1.trans (hb.mono H0.out.1.size), H0.out.2.next hb⟩)
  have HBL0 := Lib.hid (HBL.out.next hb)
  clear hb ri H0 HBL hbig hbig'
  cases hr : rightE x with
  | false =>
    clear HF HFP HBL0
    go_wp2_with fail
    refine (evwrite_no x _ hr).mono ?_
    rintro e W1 ⟨rfl, hb⟩
    have HW1 := Lib.hid (show Below W.heap.size W W1 ∧ ByR W1 As sb from ⟨HW0.out.1.trans (hb.mono HW0.out.1.size), HW0.out.2.next hb⟩)
    clear hb HW0 hr
    go_wp2_with fail
    by_cases hP : ∃ m, evP sb = .ok (m, [])
    · obtain ⟨mm, hm⟩ := hP
      obtain ⟨e1, e2, e3, e4⟩ := ev_ok HB.out hm
      rw [List.append_nil] at e1
      have HE := Lib.hid e1.symm
      have HR2 := Lib.hid e2
      have HF2 := Lib.hid e3
      have HP2 := Lib.hid e4
      have HX := Lib.hid (evread_yes As n cs W1 sb HL.out HLC.out HB.out (HW1).out.2 mm hm)
      clear hm e1 e2 e3 e4
      refine HX.out.mono ?_
      rintro e y1 ⟨rfl, hb⟩
      have H1 := Lib.hid (show Below W.heap.size W y1 ∧ ByR y1 As sb from ⟨(HW1).out.1.trans (hb.mono (HW1).out.1.size), (HW1).out.2.next hb⟩)
      clear hb HX
      go_wp2_with (first | (refine wpList_store_blk rfl 61 _ _ rfl (y1).heap.size 61 #[.int .u64 0, .int .i64 0, .int .u32 0, .int .i64 0, .int .i64 0, .int .u32 0, .int .u32 0, .int .u32 0, .int .u32 0, .int .u32 0, .int .u32 0, .int .u32 0, .int .u32 0, .int .u32 0, .int .u32 0, .int .u32 0, .int .u32 0, .int .i64 0, .int .i64 0, .int .i64 0, .float .f64 0] mm.cells.toArray rfl rfl (Blk.new' rfl) (einfoA _) (ev_siz _) (ev_one _) ?_; intro hy; have hbn : Below (y1).heap.size y1 (((y1).alloc (.cells #[.int .u64 0, .int .i64 0, .int .u32 0, .int .i64 0, .int .i64 0, .int .u32 0, .int .u32 0, .int .u32 0, .int .u32 0, .int .u32 0, .int .u32 0, .int .u32 0, .int .u32 0, .int .u32 0, .int .u32 0, .int .u32 0, .int .u32 0, .int .i64 0, .int .i64 0, .int .i64 0, .float .f64 0] 61)).setRow (y1).heap.size mm.cells.toArray) := below_setRow ((Below.refl _ _).alloc (Nat.le_refl _) _) (Nat.le_refl _) _; obtain ⟨y2, hnw⟩ : ∃ y2, y2 = (((y1).alloc (.cells #[.int .u64 0, .int .i64 0, .int .u32 0, .int .i64 0, .int .i64 0, .int .u32 0, .int .u32 0, .int .u32 0, .int .u32 0, .int .u32 0, .int .u32 0, .int .u32 0, .int .u32 0, .int .u32 0, .int .u32 0, .int .u32 0, .int .u32 0, .int .i64 0, .int .i64 0, .int .i64 0, .float .f64 0] 61)).setRow (y1).heap.size mm.cells.toArray) := ⟨_, rfl⟩; rw [← hnw] at hbn hy ⊢; clear hnw; have rm := hy.range) | (refine wpList_load_midg (by rfl) 61 _ rfl _ _ rfl (Ev.cells ?_) _ ?_ Try.underlying61 rfl (einfo _) ?_; rotate_left; (focus assumption)))
      have H2 := Lib.hid (show Below W.heap.size W y2 ∧ ByR y2 As sb from ⟨H1.out.1.trans (hbn.mono H1.out.1.size), H1.out.2.next hbn⟩)
      have HY2 := Lib.hid hy
      clear hbn H1 hy
      refine (evwrite_yes mm y2 HR2.out HF2.out HP2.out).mono ?_
      rintro e y3 ⟨v3, rfl, hown, hb⟩
      obtain ⟨A3, c3, rfl, hc3, hA3, hA30⟩ := own_byr hown
      rw [HE.out] at hA3 hA30
      have hE2 : (encE mm).length = n := by rw [HE.out]; exact HL.out
      rw [hE2]
      have H3 := Lib.hid (show Below W.heap.size W y3 ∧ ByR y3 As sb from ⟨H2.out.1.trans (hb.mono H2.out.1.size), H2.out.2.next hb⟩)
      have HA3 := Lib.hid hA3
      have HA30 := Lib.hid hA30
      have HY3 := Lib.hid (HY2.out.next hb)
      clear hown hb rm hc3 hA3 hA30 H2 hE2 HY2
      go_wp2_with fail
      refine (alive6_any y3).mono ?_
      rintro e y4 ⟨rfl, hb⟩
      have H4 := Lib.hid (H3.out.1.trans (hb.mono H3.out.1.size))
      have cv1 := conv_src y4 A3 n c3 sb (by have := (HA3.out.next hb).src HA30.out; rwa [HL.out] at this) HL.out HB.out
      have cv2 := conv_src y4 As n cs sb (by have := (H3.out.2.next hb).src HN.out; rwa [HL.out] at this) HL.out HB.out
      have rm := (HY3.out.next hb).range
      clear hb H3 HY3
      go_wp2_with (first | (refine wpList_load_midg (by rfl) 61 _ rfl _ _ rfl (Ev.cells ?_) _ ?_ Try.underlying61 rfl (einfo _) ?_; rotate_left; (focus assumption)))
      have HRR := Lib.hid (eright_any mm y4)
      rw [HR2.out] at HRR
      refine HRR.out.mono ?_
      rintro e y5 ⟨rfl, hb⟩
      have H5 := Lib.hid (H4.out.trans (hb.mono H4.out.size))
      clear hb H4 HRR rm cv1 cv2
      go_wp2_with fail
      go_ret
      exact ⟨rfl, H5.out⟩
    · refine (evread_no As n cs W1 sb HL.out HLC.out HB.out (HW1).out.2 (fun m hm => hP ⟨m, hm⟩)).mono ?_
      rintro e y1 ⟨rfl, hb⟩
      have H1 := Lib.hid ((HW1).out.1.trans (hb.mono (HW1).out.1.size))
      clear hb hP
      go_wp2_with (first | (refine wpList_store_blk rfl 61 _ _ rfl (y1).heap.size 61 #[.int .u64 0, .int .i64 0, .int .u32 0, .int .i64 0, .int .i64 0, .int .u32 0, .int .u32 0, .int .u32 0, .int .u32 0, .int .u32 0, .int .u32 0, .int .u32 0, .int .u32 0, .int .u32 0, .int .u32 0, .int .u32 0, .int .u32 0, .int .i64 0, .int .i64 0, .int .i64 0, .float .f64 0] #[.int .u64 0, .int .i64 0, .int .u32 0, .int .i64 0, .int .i64 0, .int .u32 0, .int .u32 0, .int .u32 0, .int .u32 0, .int .u32 0, .int .u32 0, .int .u32 0, .int .u32 0, .int .u32 0, .int .u32 0, .int .u32 0, .int .u32 0, .int .i64 0, .int .i64 0, .int .i64 0, .float .f64 0] rfl rfl (Blk.new' rfl) zev_sz rfl zev_one ?_; intro hy; have hbn : Below (y1).heap.size y1 (((y1).alloc (.cells #[.int .u64 0, .int .i64 0, .int .u32 0, .int .i64 0, .int .i64 0, .int .u32 0, .int .u32 0, .int .u32 0, .int .u32 0, .int .u32 0, .int .u32 0, .int .u32 0, .int .u32 0, .int .u32 0, .int .u32 0, .int .u32 0, .int .u32 0, .int .i64 0, .int .i64 0, .int .i64 0, .float .f64 0] 61)).setRow (y1).heap.size #[.int .u64 0, .int .i64 0, .int .u32 0, .int .i64 0, .int .i64 0, .int .u32 0, .int .u32 0, .int .u32 0, .int .u32 0, .int .u32 0, .int .u32 0, .int .u32 0, .int .u32 0, .int .u32 0, .int .u32 0, .int .u32 0, .int .u32 0, .int .i64 0, .int .i64 0, .int .i64 0, .float .f64 0]) := below_setRow ((Below.refl _ _).alloc (Nat.le_refl _) _) (Nat.le_refl _) _; obtain ⟨y2, hnw⟩ : ∃ y2, y2 = (((y1).alloc (.cells #[.int .u64 0, .int .i64 0, .int .u32 0, .int .i64 0, .int .i64 0, .int .u32 0, .int .u32 0, .int .u32 0, .int .u32 0, .int .u32 0, .int .u32 0, .int .u32 0, .int .u32 0, .int .u32 0, .int .u32 0, .int .u32 0, .int .u32 0, .int .i64 0, .int .i64 0, .int .i64 0, .float .f64 0] 61)).setRow (y1).heap.size #[.int .u64 0, .int .i64 0, .int .u32 0, .int .i64 0, .int .i64 0, .int .u32 0, .int .u32 0, .int .u32 0, .int .u32 0, .int .u32 0, .int .u32 0, .int .u32 0, .int .u32 0, .int .u32 0, .int .u32 0, .int .u32 0, .int .u32 0, .int .i64 0, .int .i64 0, .int .i64 0, .float .f64 0]) := ⟨_, rfl⟩; rw [← hnw] at hbn hy ⊢; clear hnw; have rm := zE_range hy) | (refine wpList_load_midg (by rfl) 61 _ rfl _ _ rfl zE.cells _ rm Try.underlying61 rfl (einfo _) ?_))
      have H2 := Lib.hid (H1.out.trans (hbn.mono H1.out.size))
      clear hbn H1
      refine (evwrite_no zE y2 zE_right).mono ?_
      rintro e y3 ⟨rfl, hb⟩
      have H3 := Lib.hid (H2.out.trans (hb.mono H2.out.size))
      clear hb hy rm H2
      go_wp2_with (go_at_call 21; refine (alive6_any y3).mono ?_; rintro e y4 ⟨rfl, hb⟩; have H4 := Lib.hid (H3.out.trans (hb.mono H3.out.size)); clear hb)
      go_ret
      exact ⟨rfl, H4.out⟩
  | true =>
    have HCUT := Lib.hid (fun k (hk : k < (encE x).length) => ev_cut hr HF.out HFP.out hk)
    have HMORE := Lib.hid (ev_more hr HF.out HFP.out [0] (by simp))
    have hy0 := ev_yes hr HF.out HFP.out
    have HSM := Lib.hid (show (asReadE x).cells.toArray = x.cells.toArray by rw [(asReadE_same x).2.2])
    have HWY := Lib.hid (fun w => evwrite_yes x w hr HF.out HFP.out)
    obtain ⟨r1, r2⟩ := rightE_parts hr
    have hlen : (encE x).length ≤ 300 := by unfold encE; rw [List.length_append]; have := encL_len r1 HF.out; have := encO_len (may_ok r2 HFP.out); omega
    have hlt : ∀ y ∈ encE x, y < 256 := encE_lt x
    obtain ⟨m, hm⟩ : ∃ m, m = asReadE x := ⟨_, rfl⟩
    obtain ⟨E, hE⟩ : ∃ E, E = encE x := ⟨_, rfl⟩
    rw [← hE] at HCUT HWY hy0 HMORE hlen hlt
    rw [← hm] at hy0 HSM
    have HY := Lib.hid hy0
    have HLEN := Lib.hid hlen
    have HLT := Lib.hid hlt
    clear hy0 hm hE HF HFP hr r1 r2 hlen hlt
    obtain ⟨N, hN⟩ : ∃ N, N = E.length := ⟨_, rfl⟩
    rw [← hN] at HCUT HWY HLEN
    have HNE := Lib.hid hN
    clear hN
    go_wp2_with fail
    refine (HWY.out _).mono ?_
    rintro e W1 ⟨v1, rfl, hown, hb⟩
    rw [HNE.out] at hown
    obtain ⟨A1, c1, rfl, hc1, hA1, hA10⟩ := own_byr hown
    rw [← HNE.out] at hc1 ⊢
    have HC1 := Lib.hid hc1
    have HA1 := Lib.hid hA1
    have HAN := Lib.hid hA10
    have HWW1 := Lib.hid (show Below W.heap.size W W1 ∧ ByR W1 As sb from ⟨HW0.out.1.trans (hb.mono HW0.out.1.size), HW0.out.2.next hb⟩)
    have HBL1 := Lib.hid (HBL0.out.next hb)
    clear hown hb HBL0 HW0 HWY hc1 hA1 hA10
    go_wp2_with fail
    refine (evread_yes A1 N c1 W1 E HNE.out.symm HC1.out HLT.out HA1.out m HY.out).mono ?_
    rintro e x1 ⟨rfl, hb⟩
    rw [HSM.out]
    have HW2 := Lib.hid (show Below W.heap.size W x1 ∧ ByR x1 As sb from ⟨HWW1.out.1.trans (hb.mono HWW1.out.1.size), HWW1.out.2.next hb⟩)
    have HA2 := Lib.hid (HA1.out.next hb)
    have HBL2 := Lib.hid (HBL1.out.next hb)
    clear hb HWW1 HA1 HBL1
    go_wp2_with (first | (refine wpList_store_blk rfl 61 _ _ rfl (x1).heap.size 61 #[.int .u64 0, .int .i64 0, .int .u32 0, .int .i64 0, .int .i64 0, .int .u32 0, .int .u32 0, .int .u32 0, .int .u32 0, .int .u32 0, .int .u32 0, .int .u32 0, .int .u32 0, .int .u32 0, .int .u32 0, .int .u32 0, .int .u32 0, .int .i64 0, .int .i64 0, .int .i64 0, .float .f64 0] x.cells.toArray rfl rfl (Blk.new' rfl) (einfoA _) (ev_siz _) (ev_one _) ?_; intro hy; have hbn : Below (x1).heap.size x1 (((x1).alloc (.cells #[.int .u64 0, .int .i64 0, .int .u32 0, .int .i64 0, .int .i64 0, .int .u32 0, .int .u32 0, .int .u32 0, .int .u32 0, .int .u32 0, .int .u32 0, .int .u32 0, .int .u32 0, .int .u32 0, .int .u32 0, .int .u32 0, .int .u32 0, .int .i64 0, .int .i64 0, .int .i64 0, .float .f64 0] 61)).setRow (x1).heap.size x.cells.toArray) := below_setRow ((Below.refl _ _).alloc (Nat.le_refl _) _) (Nat.le_refl _) _; obtain ⟨x2, hnw⟩ : ∃ x2, x2 = (((x1).alloc (.cells #[.int .u64 0, .int .i64 0, .int .u32 0, .int .i64 0, .int .i64 0, .int .u32 0, .int .u32 0, .int .u32 0, .int .u32 0, .int .u32 0, .int .u32 0, .int .u32 0, .int .u32 0, .int .u32 0, .int .u32 0, .int .u32 0, .int .u32 0, .int .i64 0, .int .i64 0, .int .i64 0, .float .f64 0] 61)).setRow (x1).heap.size x.cells.toArray) := ⟨_, rfl⟩; rw [← hnw] at hbn hy ⊢; clear hnw; have hs1 : Src (x2.alloc (.cells #[] 5)) A1 N (u8s E) := (by have := ((HA2.out.next hbn).next ((Below.refl x2.heap.size x2).alloc (Nat.le_refl _) (.cells #[] 5))).src HAN.out; rwa [← HNE.out] at this); have hlit : (x2.alloc (.cells #[] 5)).ownsRow x2.heap.size 5 1 (.slice (some ⟨x2.heap.size, 0, none⟩) 0 0) 0 (u8s []) := World.ownsRow_lit (base := x2.heap.size) (size := 1) (e := 5) x2 #[] 0 (Nat.le_refl _) (by unfold maxLen; omega) rfl; have hbl := (Below.refl x2.heap.size x2).alloc (Nat.le_refl _) (.cells #[] 5); have HW3 := Lib.hid (show Below W.heap.size W x2 ∧ ByR x2 As sb from ⟨HW2.out.1.trans (hbn.mono HW2.out.1.size), HW2.out.2.next hbn⟩); have HA3 := Lib.hid (HA2.out.next hbn); have HBL3 := Lib.hid (HBL2.out.next hbn); have HY3 := Lib.hid hy; clear hbn hy HW2 HA2 HBL2) | (at_builtin; refine wpList_append_u8 _ rfl (.tmp 37) (.tmp 38) rfl x2.heap.size _ 0 (u8s []) rfl hlit A1 N c1 (u8s E) rfl (by rw [u8s_len]; exact HNE.out.symm) hs1 (u8s_one _) (by have := HLEN.out; omega) (by simp) ?_; intro v3 x3 hown3 hgrow3 _; rw [Nat.zero_add] at hown3; obtain ⟨A3, c3, rfl⟩ := slice_of hown3; have HB3 := Lib.hid (hbl.trans (grown_below hlit hgrow3 (by simp))); have hb4 := (Below.refl x3.heap.size x3).alloc (Nat.le_refl _) (.cells #[.int .u8 0] 5); have hlit4 := own_next hown3 hb4 HB3.out.size; have hs4 : Src (x3.alloc (.cells #[.int .u8 0] 5)) (some ⟨x3.heap.size, 0, none⟩) 1 (u8s [0]) := src_u8_one x3 0; have HB4 := Lib.hid (HB3.out.trans (hb4.mono HB3.out.size)); clear hown3 hgrow3 hlit hs1 hbl hb4) | (at_builtin; refine wpList_append_u8 _ rfl (.tmp 39) (.tmp 40) rfl x2.heap.size _ N (u8s [] ++ u8s E) rfl hlit4 (some ⟨x3.heap.size, 0, none⟩) 1 1 (u8s [0]) rfl rfl hs4 (u8s_one _) (by have := HLEN.out; omega) HB4.out.size ?_; intro v5 x5 hown5 hgrow5 _; obtain ⟨A5, c5, rfl⟩ := slice_of hown5; have HB5 := Lib.hid (HB4.out.trans (grown_below hlit4 hgrow5 HB4.out.size)); have HO5 := Lib.hid hown5; clear hown5 hgrow5 hlit4 hs4 HB4 HB3))
    have h5 := HO5.out
    have e1 : N + 1 = (E ++ [0]).length := by rw [List.length_append, ← HNE.out]; rfl
    have e2 : u8s [] ++ u8s E ++ u8s [0] = u8s (E ++ [0]) := by rw [u8s_app]; rfl
    rw [e2, e1] at h5
    obtain ⟨A6, c6, he6, hc6, hA6, _⟩ := own_byr h5
    simp only [Value.slice.injEq] at he6
    obtain ⟨rfl, _, rfl⟩ := he6
    refine (evread_no A5 (N + 1) c5 x5 (E ++ [0]) e1.symm (by omega) (fun y hy => by
      rcases List.mem_append.1 hy with h | h
      · exact HLT.out y h
      · simp at h; omega) hA6 HMORE.out).mono ?_
    rintro e x6 ⟨rfl, hb⟩
    have hb26 := HB5.out.trans (hb.mono HB5.out.size)
    have HW6 := Lib.hid (show Below W.heap.size W x6 ∧ ByR x6 As sb from ⟨HW3.out.1.trans (hb26.mono HW3.out.1.size), HW3.out.2.next hb26⟩)
    have HA6 := Lib.hid (HA3.out.next hb26)
    have HBL6 := Lib.hid (HBL3.out.next hb26)
    have HY6 := Lib.hid (HY3.out.next hb26)
    clear h5 e1 e2 hc6 hA6 hb hb26 HO5 HB5 HW3 HA3 HBL3 HY3 HMORE
    go_wp2_with (first | (refine wpList_store_blk rfl 61 _ _ rfl (x6).heap.size 61 #[.int .u64 0, .int .i64 0, .int .u32 0, .int .i64 0, .int .i64 0, .int .u32 0, .int .u32 0, .int .u32 0, .int .u32 0, .int .u32 0, .int .u32 0, .int .u32 0, .int .u32 0, .int .u32 0, .int .u32 0, .int .u32 0, .int .u32 0, .int .i64 0, .int .i64 0, .int .i64 0, .float .f64 0] #[.int .u64 0, .int .i64 0, .int .u32 0, .int .i64 0, .int .i64 0, .int .u32 0, .int .u32 0, .int .u32 0, .int .u32 0, .int .u32 0, .int .u32 0, .int .u32 0, .int .u32 0, .int .u32 0, .int .u32 0, .int .u32 0, .int .u32 0, .int .i64 0, .int .i64 0, .int .i64 0, .float .f64 0] rfl rfl (Blk.new' rfl) zev_sz rfl zev_one ?_; intro hy; have hbn : Below (x6).heap.size x6 (((x6).alloc (.cells #[.int .u64 0, .int .i64 0, .int .u32 0, .int .i64 0, .int .i64 0, .int .u32 0, .int .u32 0, .int .u32 0, .int .u32 0, .int .u32 0, .int .u32 0, .int .u32 0, .int .u32 0, .int .u32 0, .int .u32 0, .int .u32 0, .int .u32 0, .int .i64 0, .int .i64 0, .int .i64 0, .float .f64 0] 61)).setRow (x6).heap.size #[.int .u64 0, .int .i64 0, .int .u32 0, .int .i64 0, .int .i64 0, .int .u32 0, .int .u32 0, .int .u32 0, .int .u32 0, .int .u32 0, .int .u32 0, .int .u32 0, .int .u32 0, .int .u32 0, .int .u32 0, .int .u32 0, .int .u32 0, .int .i64 0, .int .i64 0, .int .i64 0, .float .f64 0]) := below_setRow ((Below.refl _ _).alloc (Nat.le_refl _) _) (Nat.le_refl _) _; obtain ⟨x7, hnw⟩ : ∃ x7, x7 = (((x6).alloc (.cells #[.int .u64 0, .int .i64 0, .int .u32 0, .int .i64 0, .int .i64 0, .int .u32 0, .int .u32 0, .int .u32 0, .int .u32 0, .int .u32 0, .int .u32 0, .int .u32 0, .int .u32 0, .int .u32 0, .int .u32 0, .int .u32 0, .int .u32 0, .int .i64 0, .int .i64 0, .int .i64 0, .float .f64 0] 61)).setRow (x6).heap.size #[.int .u64 0, .int .i64 0, .int .u32 0, .int .i64 0, .int .i64 0, .int .u32 0, .int .u32 0, .int .u32 0, .int .u32 0, .int .u32 0, .int .u32 0, .int .u32 0, .int .u32 0, .int .u32 0, .int .u32 0, .int .u32 0, .int .u32 0, .int .i64 0, .int .i64 0, .int .i64 0, .float .f64 0]) := ⟨_, rfl⟩; rw [← hnw] at hbn hy ⊢; clear hnw; skip))
    have HW7 := Lib.hid (show Below W.heap.size W x7 ∧ ByR x7 As sb from ⟨HW6.out.1.trans (hbn.mono HW6.out.1.size), HW6.out.2.next hbn⟩)
    have HA7 := Lib.hid (HA6.out.next hbn)
    have ri := (HBL6.out.next hbn).range
    have ry := (HY6.out.next hbn).range
    clear hbn hy HW6 HA6 HBL6 HY6
    have HSA := Lib.hid (esame_any x)
    refine wp_region_tree (S := (fun W' => Below (x7).heap.size x7 W')) (.take 0 (.take 1 (.take 2 (.take 3 (.take 4 (.one 5 (.one 6 (.take 7 (.take 8 (.take 9 (.take 10 (.take 11 (.take 12 .nil))))))))))))) 9999 (by kernel_rfl) (by kernel_rfl) (by kernel_rfl) (by kernel_rfl) (by kernel_rfl) (fun _ _ d _ _ h => by cases d <;> exact h) ?_ (fun hHeld => ?_); (focus (exact (Below.refl _ _).drew)); simp only [Tree.map, List.getElem?_toArray, List.getElem?_cons_zero, List.getElem?_cons_succ]
    (repeat (first | (refine wpTree.take (v := undef) (Or.inr ⟨by rfl, rfl⟩) ?_; simp only [Act.put, List.setIfInBounds_toArray, List.set_cons_zero, List.set_cons_succ]) | (refine wpTree.take (v := .agg (Ev.cells ?_).toArray) (yieldsIf_load_mid rfl 61 _ rfl _ _ rfl (Ev.cells _) _ ?_ Try.underlying61 rfl (einfo _)) ?_; rotate_left; (focus (intro _ hS; refine range_next hS ?_; assumption)); simp only [Act.put, List.setIfInBounds_toArray, List.set_cons_zero, List.set_cons_succ]) | (refine wpTree.take (v := .agg (Ev.item ?_).toArray) (yieldsIf_load_mid rfl 50 _ rfl _ _ rfl (Ev.item _) _ ?_ Try.underlying50 rfl (iinfo _)) ?_; rotate_left; (focus (intro _ hS; refine range_next hS ?_; assumption)); simp only [Act.put, List.setIfInBounds_toArray, List.set_cons_zero, List.set_cons_succ]) | (refine wpTree.take (v := ?_) (Or.inl ⟨by rfl, ?_⟩) ?_; rotate_left; (focus (intro _ hS; (try dsimp only at hS); go_split_ands; (try subst hS); go_simp; (try (with_reducible rfl)); done)); simp only [Act.put, List.setIfInBounds_toArray, List.set_cons_zero, List.set_cons_succ])))
    refine wpTree.one (fun K hK => ?_)
    go_simp
    go_at_call 24
    refine (itemevent_any x _).mono ?_
    rintro e x8 ⟨rfl, hbx8⟩
    have hBelow := Below.trans hHeld (hbx8.mono (Below.size hHeld))
    refine hK.out _ _ hBelow (fun hHeld' => ?_)
    clear hK K hHeld hbx8 hBelow
    have hHeld := hHeld'
    clear hHeld'
    (repeat (first | (refine wpTree.take (v := undef) (Or.inr ⟨by rfl, rfl⟩) ?_; simp only [Act.put, List.setIfInBounds_toArray, List.set_cons_zero, List.set_cons_succ]) | (refine wpTree.take (v := .agg (Ev.cells ?_).toArray) (yieldsIf_load_mid rfl 61 _ rfl _ _ rfl (Ev.cells _) _ ?_ Try.underlying61 rfl (einfo _)) ?_; rotate_left; (focus (intro _ hS; refine range_next hS ?_; assumption)); simp only [Act.put, List.setIfInBounds_toArray, List.set_cons_zero, List.set_cons_succ]) | (refine wpTree.take (v := .agg (Ev.item ?_).toArray) (yieldsIf_load_mid rfl 50 _ rfl _ _ rfl (Ev.item _) _ ?_ Try.underlying50 rfl (iinfo _)) ?_; rotate_left; (focus (intro _ hS; refine range_next hS ?_; assumption)); simp only [Act.put, List.setIfInBounds_toArray, List.set_cons_zero, List.set_cons_succ]) | (refine wpTree.take (v := ?_) (Or.inl ⟨by rfl, ?_⟩) ?_; rotate_left; (focus (intro _ hS; (try dsimp only at hS); go_split_ands; (try subst hS); go_simp; (try (with_reducible rfl)); done)); simp only [Act.put, List.setIfInBounds_toArray, List.set_cons_zero, List.set_cons_succ])))
    have hsx := fun w => HSA.out w x
    rw [sameE_self] at hsx
    have HSX := Lib.hid hsx
    clear hsx HSA
    refine wpTree.one (fun K hK => ?_)
    go_simp
    go_at_call 33
    refine (HSX.out _).mono ?_
    rintro e x9 ⟨rfl, hbx9⟩
    have hBelow := Below.trans hHeld (hbx9.mono (Below.size hHeld))
    refine hK.out _ _ hBelow (fun hHeld' => ?_)
    clear hK K hHeld hbx9 hBelow
    have hHeld := hHeld'
    clear hHeld'
    (repeat (first | (refine wpTree.take (v := undef) (Or.inr ⟨by rfl, rfl⟩) ?_; simp only [Act.put, List.setIfInBounds_toArray, List.set_cons_zero, List.set_cons_succ]) | (refine wpTree.take (v := .agg (Ev.cells ?_).toArray) (yieldsIf_load_mid rfl 61 _ rfl _ _ rfl (Ev.cells _) _ ?_ Try.underlying61 rfl (einfo _)) ?_; rotate_left; (focus (intro _ hS; refine range_next hS ?_; assumption)); simp only [Act.put, List.setIfInBounds_toArray, List.set_cons_zero, List.set_cons_succ]) | (refine wpTree.take (v := .agg (Ev.item ?_).toArray) (yieldsIf_load_mid rfl 50 _ rfl _ _ rfl (Ev.item _) _ ?_ Try.underlying50 rfl (iinfo _)) ?_; rotate_left; (focus (intro _ hS; refine range_next hS ?_; assumption)); simp only [Act.put, List.setIfInBounds_toArray, List.set_cons_zero, List.set_cons_succ]) | (refine wpTree.take (v := ?_) (Or.inl ⟨by rfl, ?_⟩) ?_; rotate_left; (focus (intro _ hS; (try dsimp only at hS); go_split_ands; (try subst hS); go_simp; (try (with_reducible rfl)); done)); simp only [Act.put, List.setIfInBounds_toArray, List.set_cons_zero, List.set_cons_succ])))
    refine wpTree.done ?_
    obtain ⟨x10, hx10⟩ : ∃ x10, x10 = x9 := ⟨_, rfl⟩
    rw [← hx10] at hHeld ⊢
    have Hx10 := Lib.hid (show Below W.heap.size W x10 ∧ ByR x10 As sb from ⟨HW7.out.1.trans (hHeld.mono HW7.out.1.size), HW7.out.2.next hHeld⟩)
    have HA10 := Lib.hid (HA7.out.next hHeld)
    clear hx10 hHeld ri ry HSX HW7 HA7
    by_cases hc0 : 0 ≤ cut
    · obtain ⟨k, rfl⟩ := Int.eq_ofNat_of_zero_le hc0
      have g0 : decide (0 ≤ (k : Int)) = true := decide_eq_true hc0
      clear hc0
      by_cases hkN : k < N
      · have g1 : decide ((k : Int) < (N : Int)) = true := by simp; omega
        have hkc : k ≤ c1 := by have := HC1.out; omega
        have HNO := Lib.hid (fun w h => evread_no A1 k c1 w (E.take k) (by rw [List.length_take]; have := HNE.out; omega) hkc (fun y hy => HLT.out y (List.mem_of_mem_take hy)) h (HCUT.out k hkN))
        go_wp2_with fail
        refine (HNO.out _ (HA10.out.take k)).mono ?_
        rintro e x11 ⟨rfl, hb⟩
        have Hx11 := Lib.hid (show Below W.heap.size W x11 ∧ ByR x11 As sb from ⟨Hx10.out.1.trans (hb.mono Hx10.out.1.size), Hx10.out.2.next hb⟩)
        clear hb Hx10 HA10
        go_wp2_with (first | (refine wpList_store_blk rfl 61 _ _ rfl (x11).heap.size 61 #[.int .u64 0, .int .i64 0, .int .u32 0, .int .i64 0, .int .i64 0, .int .u32 0, .int .u32 0, .int .u32 0, .int .u32 0, .int .u32 0, .int .u32 0, .int .u32 0, .int .u32 0, .int .u32 0, .int .u32 0, .int .u32 0, .int .u32 0, .int .i64 0, .int .i64 0, .int .i64 0, .float .f64 0] #[.int .u64 0, .int .i64 0, .int .u32 0, .int .i64 0, .int .i64 0, .int .u32 0, .int .u32 0, .int .u32 0, .int .u32 0, .int .u32 0, .int .u32 0, .int .u32 0, .int .u32 0, .int .u32 0, .int .u32 0, .int .u32 0, .int .u32 0, .int .i64 0, .int .i64 0, .int .i64 0, .float .f64 0] rfl rfl (Blk.new' rfl) zev_sz rfl zev_one ?_; intro hy; have hbn : Below (x11).heap.size x11 (((x11).alloc (.cells #[.int .u64 0, .int .i64 0, .int .u32 0, .int .i64 0, .int .i64 0, .int .u32 0, .int .u32 0, .int .u32 0, .int .u32 0, .int .u32 0, .int .u32 0, .int .u32 0, .int .u32 0, .int .u32 0, .int .u32 0, .int .u32 0, .int .u32 0, .int .i64 0, .int .i64 0, .int .i64 0, .float .f64 0] 61)).setRow (x11).heap.size #[.int .u64 0, .int .i64 0, .int .u32 0, .int .i64 0, .int .i64 0, .int .u32 0, .int .u32 0, .int .u32 0, .int .u32 0, .int .u32 0, .int .u32 0, .int .u32 0, .int .u32 0, .int .u32 0, .int .u32 0, .int .u32 0, .int .u32 0, .int .i64 0, .int .i64 0, .int .i64 0, .float .f64 0]) := below_setRow ((Below.refl _ _).alloc (Nat.le_refl _) _) (Nat.le_refl _) _; obtain ⟨x12, hnw⟩ : ∃ x12, x12 = (((x11).alloc (.cells #[.int .u64 0, .int .i64 0, .int .u32 0, .int .i64 0, .int .i64 0, .int .u32 0, .int .u32 0, .int .u32 0, .int .u32 0, .int .u32 0, .int .u32 0, .int .u32 0, .int .u32 0, .int .u32 0, .int .u32 0, .int .u32 0, .int .u32 0, .int .i64 0, .int .i64 0, .int .i64 0, .float .f64 0] 61)).setRow (x11).heap.size #[.int .u64 0, .int .i64 0, .int .u32 0, .int .i64 0, .int .i64 0, .int .u32 0, .int .u32 0, .int .u32 0, .int .u32 0, .int .u32 0, .int .u32 0, .int .u32 0, .int .u32 0, .int .u32 0, .int .u32 0, .int .u32 0, .int .u32 0, .int .i64 0, .int .i64 0, .int .i64 0, .float .f64 0]) := ⟨_, rfl⟩; rw [← hnw] at hbn hy ⊢; clear hnw; skip))
        have Hx12 := Lib.hid (show Below W.heap.size W x12 ∧ ByR x12 As sb from ⟨Hx11.out.1.trans (hbn.mono Hx11.out.1.size), Hx11.out.2.next hbn⟩)
        clear hbn hy Hx11
        by_cases hP : ∃ m, evP sb = .ok (m, [])
        · obtain ⟨mm, hm⟩ := hP
          obtain ⟨e1, e2, e3, e4⟩ := ev_ok HB.out hm
          rw [List.append_nil] at e1
          have HE := Lib.hid e1.symm
          have HR2 := Lib.hid e2
          have HF2 := Lib.hid e3
          have HP2 := Lib.hid e4
          have HX := Lib.hid (evread_yes As n cs x12 sb HL.out HLC.out HB.out (Hx12).out.2 mm hm)
          clear hm e1 e2 e3 e4
          refine HX.out.mono ?_
          rintro e y1 ⟨rfl, hb⟩
          have H1 := Lib.hid (show Below W.heap.size W y1 ∧ ByR y1 As sb from ⟨(Hx12).out.1.trans (hb.mono (Hx12).out.1.size), (Hx12).out.2.next hb⟩)
          clear hb HX
          go_wp2_with (first | (refine wpList_store_blk rfl 61 _ _ rfl (y1).heap.size 61 #[.int .u64 0, .int .i64 0, .int .u32 0, .int .i64 0, .int .i64 0, .int .u32 0, .int .u32 0, .int .u32 0, .int .u32 0, .int .u32 0, .int .u32 0, .int .u32 0, .int .u32 0, .int .u32 0, .int .u32 0, .int .u32 0, .int .u32 0, .int .i64 0, .int .i64 0, .int .i64 0, .float .f64 0] mm.cells.toArray rfl rfl (Blk.new' rfl) (einfoA _) (ev_siz _) (ev_one _) ?_; intro hy; have hbn : Below (y1).heap.size y1 (((y1).alloc (.cells #[.int .u64 0, .int .i64 0, .int .u32 0, .int .i64 0, .int .i64 0, .int .u32 0, .int .u32 0, .int .u32 0, .int .u32 0, .int .u32 0, .int .u32 0, .int .u32 0, .int .u32 0, .int .u32 0, .int .u32 0, .int .u32 0, .int .u32 0, .int .i64 0, .int .i64 0, .int .i64 0, .float .f64 0] 61)).setRow (y1).heap.size mm.cells.toArray) := below_setRow ((Below.refl _ _).alloc (Nat.le_refl _) _) (Nat.le_refl _) _; obtain ⟨y2, hnw⟩ : ∃ y2, y2 = (((y1).alloc (.cells #[.int .u64 0, .int .i64 0, .int .u32 0, .int .i64 0, .int .i64 0, .int .u32 0, .int .u32 0, .int .u32 0, .int .u32 0, .int .u32 0, .int .u32 0, .int .u32 0, .int .u32 0, .int .u32 0, .int .u32 0, .int .u32 0, .int .u32 0, .int .i64 0, .int .i64 0, .int .i64 0, .float .f64 0] 61)).setRow (y1).heap.size mm.cells.toArray) := ⟨_, rfl⟩; rw [← hnw] at hbn hy ⊢; clear hnw; have rm := hy.range) | (refine wpList_load_midg (by rfl) 61 _ rfl _ _ rfl (Ev.cells ?_) _ ?_ Try.underlying61 rfl (einfo _) ?_; rotate_left; (focus assumption)))
          have H2 := Lib.hid (show Below W.heap.size W y2 ∧ ByR y2 As sb from ⟨H1.out.1.trans (hbn.mono H1.out.1.size), H1.out.2.next hbn⟩)
          have HY2 := Lib.hid hy
          clear hbn H1 hy
          refine (evwrite_yes mm y2 HR2.out HF2.out HP2.out).mono ?_
          rintro e y3 ⟨v3, rfl, hown, hb⟩
          obtain ⟨A3, c3, rfl, hc3, hA3, hA30⟩ := own_byr hown
          rw [HE.out] at hA3 hA30
          have hE2 : (encE mm).length = n := by rw [HE.out]; exact HL.out
          rw [hE2]
          have H3 := Lib.hid (show Below W.heap.size W y3 ∧ ByR y3 As sb from ⟨H2.out.1.trans (hb.mono H2.out.1.size), H2.out.2.next hb⟩)
          have HA3 := Lib.hid hA3
          have HA30 := Lib.hid hA30
          have HY3 := Lib.hid (HY2.out.next hb)
          clear hown hb rm hc3 hA3 hA30 H2 hE2 HY2
          go_wp2_with fail
          refine (alive6_any y3).mono ?_
          rintro e y4 ⟨rfl, hb⟩
          have H4 := Lib.hid (H3.out.1.trans (hb.mono H3.out.1.size))
          have cv1 := conv_src y4 A3 n c3 sb (by have := (HA3.out.next hb).src HA30.out; rwa [HL.out] at this) HL.out HB.out
          have cv2 := conv_src y4 As n cs sb (by have := (H3.out.2.next hb).src HN.out; rwa [HL.out] at this) HL.out HB.out
          have rm := (HY3.out.next hb).range
          clear hb H3 HY3
          go_wp2_with (first | (refine wpList_load_midg (by rfl) 61 _ rfl _ _ rfl (Ev.cells ?_) _ ?_ Try.underlying61 rfl (einfo _) ?_; rotate_left; (focus assumption)))
          have HRR := Lib.hid (eright_any mm y4)
          rw [HR2.out] at HRR
          refine HRR.out.mono ?_
          rintro e y5 ⟨rfl, hb⟩
          have H5 := Lib.hid (H4.out.trans (hb.mono H4.out.size))
          clear hb H4 HRR rm cv1 cv2
          go_wp2_with fail
          go_ret
          exact ⟨rfl, H5.out⟩
        · refine (evread_no As n cs x12 sb HL.out HLC.out HB.out (Hx12).out.2 (fun m hm => hP ⟨m, hm⟩)).mono ?_
          rintro e y1 ⟨rfl, hb⟩
          have H1 := Lib.hid ((Hx12).out.1.trans (hb.mono (Hx12).out.1.size))
          clear hb hP
          go_wp2_with (first | (refine wpList_store_blk rfl 61 _ _ rfl (y1).heap.size 61 #[.int .u64 0, .int .i64 0, .int .u32 0, .int .i64 0, .int .i64 0, .int .u32 0, .int .u32 0, .int .u32 0, .int .u32 0, .int .u32 0, .int .u32 0, .int .u32 0, .int .u32 0, .int .u32 0, .int .u32 0, .int .u32 0, .int .u32 0, .int .i64 0, .int .i64 0, .int .i64 0, .float .f64 0] #[.int .u64 0, .int .i64 0, .int .u32 0, .int .i64 0, .int .i64 0, .int .u32 0, .int .u32 0, .int .u32 0, .int .u32 0, .int .u32 0, .int .u32 0, .int .u32 0, .int .u32 0, .int .u32 0, .int .u32 0, .int .u32 0, .int .u32 0, .int .i64 0, .int .i64 0, .int .i64 0, .float .f64 0] rfl rfl (Blk.new' rfl) zev_sz rfl zev_one ?_; intro hy; have hbn : Below (y1).heap.size y1 (((y1).alloc (.cells #[.int .u64 0, .int .i64 0, .int .u32 0, .int .i64 0, .int .i64 0, .int .u32 0, .int .u32 0, .int .u32 0, .int .u32 0, .int .u32 0, .int .u32 0, .int .u32 0, .int .u32 0, .int .u32 0, .int .u32 0, .int .u32 0, .int .u32 0, .int .i64 0, .int .i64 0, .int .i64 0, .float .f64 0] 61)).setRow (y1).heap.size #[.int .u64 0, .int .i64 0, .int .u32 0, .int .i64 0, .int .i64 0, .int .u32 0, .int .u32 0, .int .u32 0, .int .u32 0, .int .u32 0, .int .u32 0, .int .u32 0, .int .u32 0, .int .u32 0, .int .u32 0, .int .u32 0, .int .u32 0, .int .i64 0, .int .i64 0, .int .i64 0, .float .f64 0]) := below_setRow ((Below.refl _ _).alloc (Nat.le_refl _) _) (Nat.le_refl _) _; obtain ⟨y2, hnw⟩ : ∃ y2, y2 = (((y1).alloc (.cells #[.int .u64 0, .int .i64 0, .int .u32 0, .int .i64 0, .int .i64 0, .int .u32 0, .int .u32 0, .int .u32 0, .int .u32 0, .int .u32 0, .int .u32 0, .int .u32 0, .int .u32 0, .int .u32 0, .int .u32 0, .int .u32 0, .int .u32 0, .int .i64 0, .int .i64 0, .int .i64 0, .float .f64 0] 61)).setRow (y1).heap.size #[.int .u64 0, .int .i64 0, .int .u32 0, .int .i64 0, .int .i64 0, .int .u32 0, .int .u32 0, .int .u32 0, .int .u32 0, .int .u32 0, .int .u32 0, .int .u32 0, .int .u32 0, .int .u32 0, .int .u32 0, .int .u32 0, .int .u32 0, .int .i64 0, .int .i64 0, .int .i64 0, .float .f64 0]) := ⟨_, rfl⟩; rw [← hnw] at hbn hy ⊢; clear hnw; have rm := zE_range hy) | (refine wpList_load_midg (by rfl) 61 _ rfl _ _ rfl zE.cells _ rm Try.underlying61 rfl (einfo _) ?_))
          have H2 := Lib.hid (H1.out.trans (hbn.mono H1.out.size))
          clear hbn H1
          refine (evwrite_no zE y2 zE_right).mono ?_
          rintro e y3 ⟨rfl, hb⟩
          have H3 := Lib.hid (H2.out.trans (hb.mono H2.out.size))
          clear hb hy rm H2
          go_wp2_with (go_at_call 21; refine (alive6_any y3).mono ?_; rintro e y4 ⟨rfl, hb⟩; have H4 := Lib.hid (H3.out.trans (hb.mono H3.out.size)); clear hb)
          go_ret
          exact ⟨rfl, H4.out⟩
      · have g1 : decide ((k : Int) < (N : Int)) = false := by simp; omega
        go_wp2_with fail
        by_cases hP : ∃ m, evP sb = .ok (m, [])
        · obtain ⟨mm, hm⟩ := hP
          obtain ⟨e1, e2, e3, e4⟩ := ev_ok HB.out hm
          rw [List.append_nil] at e1
          have HE := Lib.hid e1.symm
          have HR2 := Lib.hid e2
          have HF2 := Lib.hid e3
          have HP2 := Lib.hid e4
          have HX := Lib.hid (evread_yes As n cs x10 sb HL.out HLC.out HB.out (Hx10).out.2 mm hm)
          clear hm e1 e2 e3 e4
          refine HX.out.mono ?_
          rintro e y1 ⟨rfl, hb⟩
          have H1 := Lib.hid (show Below W.heap.size W y1 ∧ ByR y1 As sb from ⟨(Hx10).out.1.trans (hb.mono (Hx10).out.1.size), (Hx10).out.2.next hb⟩)
          clear hb HX
          go_wp2_with (first | (refine wpList_store_blk rfl 61 _ _ rfl (y1).heap.size 61 #[.int .u64 0, .int .i64 0, .int .u32 0, .int .i64 0, .int .i64 0, .int .u32 0, .int .u32 0, .int .u32 0, .int .u32 0, .int .u32 0, .int .u32 0, .int .u32 0, .int .u32 0, .int .u32 0, .int .u32 0, .int .u32 0, .int .u32 0, .int .i64 0, .int .i64 0, .int .i64 0, .float .f64 0] mm.cells.toArray rfl rfl (Blk.new' rfl) (einfoA _) (ev_siz _) (ev_one _) ?_; intro hy; have hbn : Below (y1).heap.size y1 (((y1).alloc (.cells #[.int .u64 0, .int .i64 0, .int .u32 0, .int .i64 0, .int .i64 0, .int .u32 0, .int .u32 0, .int .u32 0, .int .u32 0, .int .u32 0, .int .u32 0, .int .u32 0, .int .u32 0, .int .u32 0, .int .u32 0, .int .u32 0, .int .u32 0, .int .i64 0, .int .i64 0, .int .i64 0, .float .f64 0] 61)).setRow (y1).heap.size mm.cells.toArray) := below_setRow ((Below.refl _ _).alloc (Nat.le_refl _) _) (Nat.le_refl _) _; obtain ⟨y2, hnw⟩ : ∃ y2, y2 = (((y1).alloc (.cells #[.int .u64 0, .int .i64 0, .int .u32 0, .int .i64 0, .int .i64 0, .int .u32 0, .int .u32 0, .int .u32 0, .int .u32 0, .int .u32 0, .int .u32 0, .int .u32 0, .int .u32 0, .int .u32 0, .int .u32 0, .int .u32 0, .int .u32 0, .int .i64 0, .int .i64 0, .int .i64 0, .float .f64 0] 61)).setRow (y1).heap.size mm.cells.toArray) := ⟨_, rfl⟩; rw [← hnw] at hbn hy ⊢; clear hnw; have rm := hy.range) | (refine wpList_load_midg (by rfl) 61 _ rfl _ _ rfl (Ev.cells ?_) _ ?_ Try.underlying61 rfl (einfo _) ?_; rotate_left; (focus assumption)))
          have H2 := Lib.hid (show Below W.heap.size W y2 ∧ ByR y2 As sb from ⟨H1.out.1.trans (hbn.mono H1.out.1.size), H1.out.2.next hbn⟩)
          have HY2 := Lib.hid hy
          clear hbn H1 hy
          refine (evwrite_yes mm y2 HR2.out HF2.out HP2.out).mono ?_
          rintro e y3 ⟨v3, rfl, hown, hb⟩
          obtain ⟨A3, c3, rfl, hc3, hA3, hA30⟩ := own_byr hown
          rw [HE.out] at hA3 hA30
          have hE2 : (encE mm).length = n := by rw [HE.out]; exact HL.out
          rw [hE2]
          have H3 := Lib.hid (show Below W.heap.size W y3 ∧ ByR y3 As sb from ⟨H2.out.1.trans (hb.mono H2.out.1.size), H2.out.2.next hb⟩)
          have HA3 := Lib.hid hA3
          have HA30 := Lib.hid hA30
          have HY3 := Lib.hid (HY2.out.next hb)
          clear hown hb rm hc3 hA3 hA30 H2 hE2 HY2
          go_wp2_with fail
          refine (alive6_any y3).mono ?_
          rintro e y4 ⟨rfl, hb⟩
          have H4 := Lib.hid (H3.out.1.trans (hb.mono H3.out.1.size))
          have cv1 := conv_src y4 A3 n c3 sb (by have := (HA3.out.next hb).src HA30.out; rwa [HL.out] at this) HL.out HB.out
          have cv2 := conv_src y4 As n cs sb (by have := (H3.out.2.next hb).src HN.out; rwa [HL.out] at this) HL.out HB.out
          have rm := (HY3.out.next hb).range
          clear hb H3 HY3
          go_wp2_with (first | (refine wpList_load_midg (by rfl) 61 _ rfl _ _ rfl (Ev.cells ?_) _ ?_ Try.underlying61 rfl (einfo _) ?_; rotate_left; (focus assumption)))
          have HRR := Lib.hid (eright_any mm y4)
          rw [HR2.out] at HRR
          refine HRR.out.mono ?_
          rintro e y5 ⟨rfl, hb⟩
          have H5 := Lib.hid (H4.out.trans (hb.mono H4.out.size))
          clear hb H4 HRR rm cv1 cv2
          go_wp2_with fail
          go_ret
          exact ⟨rfl, H5.out⟩
        · refine (evread_no As n cs x10 sb HL.out HLC.out HB.out (Hx10).out.2 (fun m hm => hP ⟨m, hm⟩)).mono ?_
          rintro e y1 ⟨rfl, hb⟩
          have H1 := Lib.hid ((Hx10).out.1.trans (hb.mono (Hx10).out.1.size))
          clear hb hP
          go_wp2_with (first | (refine wpList_store_blk rfl 61 _ _ rfl (y1).heap.size 61 #[.int .u64 0, .int .i64 0, .int .u32 0, .int .i64 0, .int .i64 0, .int .u32 0, .int .u32 0, .int .u32 0, .int .u32 0, .int .u32 0, .int .u32 0, .int .u32 0, .int .u32 0, .int .u32 0, .int .u32 0, .int .u32 0, .int .u32 0, .int .i64 0, .int .i64 0, .int .i64 0, .float .f64 0] #[.int .u64 0, .int .i64 0, .int .u32 0, .int .i64 0, .int .i64 0, .int .u32 0, .int .u32 0, .int .u32 0, .int .u32 0, .int .u32 0, .int .u32 0, .int .u32 0, .int .u32 0, .int .u32 0, .int .u32 0, .int .u32 0, .int .u32 0, .int .i64 0, .int .i64 0, .int .i64 0, .float .f64 0] rfl rfl (Blk.new' rfl) zev_sz rfl zev_one ?_; intro hy; have hbn : Below (y1).heap.size y1 (((y1).alloc (.cells #[.int .u64 0, .int .i64 0, .int .u32 0, .int .i64 0, .int .i64 0, .int .u32 0, .int .u32 0, .int .u32 0, .int .u32 0, .int .u32 0, .int .u32 0, .int .u32 0, .int .u32 0, .int .u32 0, .int .u32 0, .int .u32 0, .int .u32 0, .int .i64 0, .int .i64 0, .int .i64 0, .float .f64 0] 61)).setRow (y1).heap.size #[.int .u64 0, .int .i64 0, .int .u32 0, .int .i64 0, .int .i64 0, .int .u32 0, .int .u32 0, .int .u32 0, .int .u32 0, .int .u32 0, .int .u32 0, .int .u32 0, .int .u32 0, .int .u32 0, .int .u32 0, .int .u32 0, .int .u32 0, .int .i64 0, .int .i64 0, .int .i64 0, .float .f64 0]) := below_setRow ((Below.refl _ _).alloc (Nat.le_refl _) _) (Nat.le_refl _) _; obtain ⟨y2, hnw⟩ : ∃ y2, y2 = (((y1).alloc (.cells #[.int .u64 0, .int .i64 0, .int .u32 0, .int .i64 0, .int .i64 0, .int .u32 0, .int .u32 0, .int .u32 0, .int .u32 0, .int .u32 0, .int .u32 0, .int .u32 0, .int .u32 0, .int .u32 0, .int .u32 0, .int .u32 0, .int .u32 0, .int .i64 0, .int .i64 0, .int .i64 0, .float .f64 0] 61)).setRow (y1).heap.size #[.int .u64 0, .int .i64 0, .int .u32 0, .int .i64 0, .int .i64 0, .int .u32 0, .int .u32 0, .int .u32 0, .int .u32 0, .int .u32 0, .int .u32 0, .int .u32 0, .int .u32 0, .int .u32 0, .int .u32 0, .int .u32 0, .int .u32 0, .int .i64 0, .int .i64 0, .int .i64 0, .float .f64 0]) := ⟨_, rfl⟩; rw [← hnw] at hbn hy ⊢; clear hnw; have rm := zE_range hy) | (refine wpList_load_midg (by rfl) 61 _ rfl _ _ rfl zE.cells _ rm Try.underlying61 rfl (einfo _) ?_))
          have H2 := Lib.hid (H1.out.trans (hbn.mono H1.out.size))
          clear hbn H1
          refine (evwrite_no zE y2 zE_right).mono ?_
          rintro e y3 ⟨rfl, hb⟩
          have H3 := Lib.hid (H2.out.trans (hb.mono H2.out.size))
          clear hb hy rm H2
          go_wp2_with (go_at_call 21; refine (alive6_any y3).mono ?_; rintro e y4 ⟨rfl, hb⟩; have H4 := Lib.hid (H3.out.trans (hb.mono H3.out.size)); clear hb)
          go_ret
          exact ⟨rfl, H4.out⟩
    · have g0 : decide (0 ≤ cut) = false := by simpa using hc0
      clear hc0
      go_wp2_with fail
      by_cases hP : ∃ m, evP sb = .ok (m, [])
      · obtain ⟨mm, hm⟩ := hP
        obtain ⟨e1, e2, e3, e4⟩ := ev_ok HB.out hm
        rw [List.append_nil] at e1
        have HE := Lib.hid e1.symm
        have HR2 := Lib.hid e2
        have HF2 := Lib.hid e3
        have HP2 := Lib.hid e4
        have HX := Lib.hid (evread_yes As n cs x10 sb HL.out HLC.out HB.out (Hx10).out.2 mm hm)
        clear hm e1 e2 e3 e4
        refine HX.out.mono ?_
        rintro e y1 ⟨rfl, hb⟩
        have H1 := Lib.hid (show Below W.heap.size W y1 ∧ ByR y1 As sb from ⟨(Hx10).out.1.trans (hb.mono (Hx10).out.1.size), (Hx10).out.2.next hb⟩)
        clear hb HX
        go_wp2_with (first | (refine wpList_store_blk rfl 61 _ _ rfl (y1).heap.size 61 #[.int .u64 0, .int .i64 0, .int .u32 0, .int .i64 0, .int .i64 0, .int .u32 0, .int .u32 0, .int .u32 0, .int .u32 0, .int .u32 0, .int .u32 0, .int .u32 0, .int .u32 0, .int .u32 0, .int .u32 0, .int .u32 0, .int .u32 0, .int .i64 0, .int .i64 0, .int .i64 0, .float .f64 0] mm.cells.toArray rfl rfl (Blk.new' rfl) (einfoA _) (ev_siz _) (ev_one _) ?_; intro hy; have hbn : Below (y1).heap.size y1 (((y1).alloc (.cells #[.int .u64 0, .int .i64 0, .int .u32 0, .int .i64 0, .int .i64 0, .int .u32 0, .int .u32 0, .int .u32 0, .int .u32 0, .int .u32 0, .int .u32 0, .int .u32 0, .int .u32 0, .int .u32 0, .int .u32 0, .int .u32 0, .int .u32 0, .int .i64 0, .int .i64 0, .int .i64 0, .float .f64 0] 61)).setRow (y1).heap.size mm.cells.toArray) := below_setRow ((Below.refl _ _).alloc (Nat.le_refl _) _) (Nat.le_refl _) _; obtain ⟨y2, hnw⟩ : ∃ y2, y2 = (((y1).alloc (.cells #[.int .u64 0, .int .i64 0, .int .u32 0, .int .i64 0, .int .i64 0, .int .u32 0, .int .u32 0, .int .u32 0, .int .u32 0, .int .u32 0, .int .u32 0, .int .u32 0, .int .u32 0, .int .u32 0, .int .u32 0, .int .u32 0, .int .u32 0, .int .i64 0, .int .i64 0, .int .i64 0, .float .f64 0] 61)).setRow (y1).heap.size mm.cells.toArray) := ⟨_, rfl⟩; rw [← hnw] at hbn hy ⊢; clear hnw; have rm := hy.range) | (refine wpList_load_midg (by rfl) 61 _ rfl _ _ rfl (Ev.cells ?_) _ ?_ Try.underlying61 rfl (einfo _) ?_; rotate_left; (focus assumption)))
        have H2 := Lib.hid (show Below W.heap.size W y2 ∧ ByR y2 As sb from ⟨H1.out.1.trans (hbn.mono H1.out.1.size), H1.out.2.next hbn⟩)
        have HY2 := Lib.hid hy
        clear hbn H1 hy
        refine (evwrite_yes mm y2 HR2.out HF2.out HP2.out).mono ?_
        rintro e y3 ⟨v3, rfl, hown, hb⟩
        obtain ⟨A3, c3, rfl, hc3, hA3, hA30⟩ := own_byr hown
        rw [HE.out] at hA3 hA30
        have hE2 : (encE mm).length = n := by rw [HE.out]; exact HL.out
        rw [hE2]
        have H3 := Lib.hid (show Below W.heap.size W y3 ∧ ByR y3 As sb from ⟨H2.out.1.trans (hb.mono H2.out.1.size), H2.out.2.next hb⟩)
        have HA3 := Lib.hid hA3
        have HA30 := Lib.hid hA30
        have HY3 := Lib.hid (HY2.out.next hb)
        clear hown hb rm hc3 hA3 hA30 H2 hE2 HY2
        go_wp2_with fail
        refine (alive6_any y3).mono ?_
        rintro e y4 ⟨rfl, hb⟩
        have H4 := Lib.hid (H3.out.1.trans (hb.mono H3.out.1.size))
        have cv1 := conv_src y4 A3 n c3 sb (by have := (HA3.out.next hb).src HA30.out; rwa [HL.out] at this) HL.out HB.out
        have cv2 := conv_src y4 As n cs sb (by have := (H3.out.2.next hb).src HN.out; rwa [HL.out] at this) HL.out HB.out
        have rm := (HY3.out.next hb).range
        clear hb H3 HY3
        go_wp2_with (first | (refine wpList_load_midg (by rfl) 61 _ rfl _ _ rfl (Ev.cells ?_) _ ?_ Try.underlying61 rfl (einfo _) ?_; rotate_left; (focus assumption)))
        have HRR := Lib.hid (eright_any mm y4)
        rw [HR2.out] at HRR
        refine HRR.out.mono ?_
        rintro e y5 ⟨rfl, hb⟩
        have H5 := Lib.hid (H4.out.trans (hb.mono H4.out.size))
        clear hb H4 HRR rm cv1 cv2
        go_wp2_with fail
        go_ret
        exact ⟨rfl, H5.out⟩
      · refine (evread_no As n cs x10 sb HL.out HLC.out HB.out (Hx10).out.2 (fun m hm => hP ⟨m, hm⟩)).mono ?_
        rintro e y1 ⟨rfl, hb⟩
        have H1 := Lib.hid ((Hx10).out.1.trans (hb.mono (Hx10).out.1.size))
        clear hb hP
        go_wp2_with (first | (refine wpList_store_blk rfl 61 _ _ rfl (y1).heap.size 61 #[.int .u64 0, .int .i64 0, .int .u32 0, .int .i64 0, .int .i64 0, .int .u32 0, .int .u32 0, .int .u32 0, .int .u32 0, .int .u32 0, .int .u32 0, .int .u32 0, .int .u32 0, .int .u32 0, .int .u32 0, .int .u32 0, .int .u32 0, .int .i64 0, .int .i64 0, .int .i64 0, .float .f64 0] #[.int .u64 0, .int .i64 0, .int .u32 0, .int .i64 0, .int .i64 0, .int .u32 0, .int .u32 0, .int .u32 0, .int .u32 0, .int .u32 0, .int .u32 0, .int .u32 0, .int .u32 0, .int .u32 0, .int .u32 0, .int .u32 0, .int .u32 0, .int .i64 0, .int .i64 0, .int .i64 0, .float .f64 0] rfl rfl (Blk.new' rfl) zev_sz rfl zev_one ?_; intro hy; have hbn : Below (y1).heap.size y1 (((y1).alloc (.cells #[.int .u64 0, .int .i64 0, .int .u32 0, .int .i64 0, .int .i64 0, .int .u32 0, .int .u32 0, .int .u32 0, .int .u32 0, .int .u32 0, .int .u32 0, .int .u32 0, .int .u32 0, .int .u32 0, .int .u32 0, .int .u32 0, .int .u32 0, .int .i64 0, .int .i64 0, .int .i64 0, .float .f64 0] 61)).setRow (y1).heap.size #[.int .u64 0, .int .i64 0, .int .u32 0, .int .i64 0, .int .i64 0, .int .u32 0, .int .u32 0, .int .u32 0, .int .u32 0, .int .u32 0, .int .u32 0, .int .u32 0, .int .u32 0, .int .u32 0, .int .u32 0, .int .u32 0, .int .u32 0, .int .i64 0, .int .i64 0, .int .i64 0, .float .f64 0]) := below_setRow ((Below.refl _ _).alloc (Nat.le_refl _) _) (Nat.le_refl _) _; obtain ⟨y2, hnw⟩ : ∃ y2, y2 = (((y1).alloc (.cells #[.int .u64 0, .int .i64 0, .int .u32 0, .int .i64 0, .int .i64 0, .int .u32 0, .int .u32 0, .int .u32 0, .int .u32 0, .int .u32 0, .int .u32 0, .int .u32 0, .int .u32 0, .int .u32 0, .int .u32 0, .int .u32 0, .int .u32 0, .int .i64 0, .int .i64 0, .int .i64 0, .float .f64 0] 61)).setRow (y1).heap.size #[.int .u64 0, .int .i64 0, .int .u32 0, .int .i64 0, .int .i64 0, .int .u32 0, .int .u32 0, .int .u32 0, .int .u32 0, .int .u32 0, .int .u32 0, .int .u32 0, .int .u32 0, .int .u32 0, .int .u32 0, .int .u32 0, .int .u32 0, .int .i64 0, .int .i64 0, .int .i64 0, .float .f64 0]) := ⟨_, rfl⟩; rw [← hnw] at hbn hy ⊢; clear hnw; have rm := zE_range hy) | (refine wpList_load_midg (by rfl) 61 _ rfl _ _ rfl zE.cells _ rm Try.underlying61 rfl (einfo _) ?_))
        have H2 := Lib.hid (H1.out.trans (hbn.mono H1.out.size))
        clear hbn H1
        refine (evwrite_no zE y2 zE_right).mono ?_
        rintro e y3 ⟨rfl, hb⟩
        have H3 := Lib.hid (H2.out.trans (hb.mono H2.out.size))
        clear hb hy rm H2
        go_wp2_with (go_at_call 21; refine (alive6_any y3).mono ?_; rintro e y4 ⟨rfl, hb⟩; have H4 := Lib.hid (H3.out.trans (hb.mono H3.out.size)); clear hb)
        go_ret
        exact ⟨rfl, H4.out⟩

set_option maxRecDepth 100000 in
theorem opback_lifted (os : Os) (started : os.Started) (H : Type) (enc : TypeId × Value → H) :
    ReturnsInHanded {} Try.checked os 7 .any (Rows.opBackSpec.pre6 enc Try.prog Try.f7 Rows.opBackRow.domain false) (Rows.opBackSpec.post enc Try.prog Try.f7 false true false false) := by
  refine law_lift (C := Try.checked) own_knob started (by kernel_rfl) Try.func7 rfl Try.underlying4 laid_out (by kernel_rfl) rfl ?_
    (ChangeSpec.witness6 (enc := enc) (C := Try.checked) false ⟨#[], #[.agg #[.int .u64 0, .int .i64 0, .int .u32 0, .int .i64 0, .int .i64 0, .int .u32 0, .int .u32 0, .int .u32 0, .int .u32 0, .int .u32 0, .int .u32 0, .int .u32 0, .int .u32 0, .int .u32 0, .int .u32 0, .int .u32 0, .int .u32 0, .int .i64 0, .int .i64 0, .int .i64 0, .int .u64 0], .slice none 0 0, .int .i64 0], []⟩ 8 (by kernel_rfl) (by kernel_rfl) (by kernel_rfl) (by kernel_rfl)) ?_
  · intro ds hds
    match ds, hds with
    | [_, _, _], _ => rfl
  intro W base args ds ps hval hA hlt hsz
  rw [Try.params7] at hA hval
  obtain ⟨v0, vs0, d0, ds0, p0, q0, hargs, rfl, rfl, h0, r0⟩ := trodAll_cons hA
  obtain ⟨v1, vs1, d1, ds1, p1, q1, rfl, rfl, rfl, h1, r1⟩ := trodAll_cons r0
  obtain ⟨v2, vs2, d2, ds2, p2, q2, rfl, rfl, rfl, h2, r2⟩ := trodAll_cons r1
  obtain ⟨rfl, rfl, rfl⟩ := trodAll_nil r2
  obtain rfl : args = #[v0, v1, v2] := by cases args; simp_all
  obtain ⟨x, rfl, hx⟩ := open_item (hval 0 50 v0 rfl rfl) h0
  obtain ⟨As, n, cs, sb, rfl, hn, hnc, _, hb256, hby, hnone⟩ := open_bytes (hval 1 28 v1 rfl rfl) h1 (fun x hx => hlt x (by simp [hx]))
  obtain ⟨a2, rfl, rfl, rfl, w2⟩ := open_int Try.underlying3 (hval 2 3 v2 rfl rfl) h2
  exact opback_walk x hx As n cs sb a2 W hn hnc hb256 hby hnone

theorem opback_holds : Rows.OpBackSaid :=
  OpenClaim.holds_of_wide 7 Try.f7 rfl rfl rfl rfl rfl rfl rfl ⟨rfl, rfl, rfl, rfl, rfl⟩ rfl rfl rfl rfl rfl (by kernel_rfl) Try.func7 (by kernel_rfl)
    (of_decide_eq_true (by kernel_rfl)) (by unfold Func.isWrapper; first | (rw [if_pos (by decide +kernel)]; kernel_rfl) | (rw [if_neg (by decide +kernel)]; exact ⟨rfl, rfl⟩))
    (fun os started H enc _ => opback_lifted os started H enc)


end Go.Proofs.Ytpimhohballafaa
