/-
LabelBack holds: labels go there and back, in one way alone; cut anywhere, their bytes are none. No condition.
-/
import Derived.Test.YtpimhohballafaaLOpen
namespace Go.Proofs.Ytpimhohballafaa
open Go.ChangeShapes Go.WideShapes Go.ChangeAt Go.RowKit

def zL : Lab := Lab.mk 0 0 0 0 0 (fun _ => 0)
theorem zL_right : rightL zL = false := by unfold rightL timeB zL; simp
theorem zL_cells : zL.cells.toArray = #[.int .u64 0, .int .i64 0, .int .u32 0, .int .i64 0, .int .i64 0, .int .u32 0, .int .u32 0, .int .u32 0, .int .u32 0, .int .u32 0, .int .u32 0, .int .u32 0, .int .u32 0, .int .u32 0, .int .u32 0, .int .u32 0, .int .u32 0] := by unfold Lab.cells vl zL; rfl
theorem zL_range {W : World} {g : Nat} {t : TypeId} (h : Blk W g t #[.int .u64 0, .int .i64 0, .int .u32 0, .int .i64 0, .int .i64 0, .int .u32 0, .int .u32 0, .int .u32 0, .int .u32 0, .int .u32 0, .int .u32 0, .int .u32 0, .int .u32 0, .int .u32 0, .int .u32 0, .int .u32 0, .int .u32 0]) : W.rangeAt g 0 zL.cells := by
  rw [← zL_cells] at h
  exact h.range
attribute [irreducible] zL
theorem ByR.take {W : World} {A : Option Addr} {bs : List Nat} (h : ByR W A bs) (k : Nat) : ByR W A (bs.take k) := by
  rcases h with rfl | ⟨b, p, e, h1, h2⟩
  · left; simp
  · refine Or.inr ⟨b, p, e, h1, fun i x hx => ?_⟩
    rw [List.getElem?_take] at hx
    split at hx
    · exact h2 i x hx
    · cases hx
section
variable {H : Type} {enc : TypeId × Value → H} {w : World}
set_option maxRecDepth 100000 in
/-- Bytes that came in. -/
theorem open_bytes {b0 : Nat} {r : Reach} {v : Value} {d : DataW H} {ps : List MemPlace} (hv : Value.okWide Try.prog w r b0 28 v) (h : DataW.Trod enc Try.prog w 0 (fun _ => true) true 28 v d ps) (hlt : ∀ x ∈ ps, x.block < w.heap.size) :
    ∃ (A : Option Addr) (m c : Nat) (bs : List Nat), v = .slice A m c ∧ bs.length = m ∧ m ≤ c ∧ c ≤ 9223372036854775807 ∧ (∀ x ∈ bs, x < 256) ∧ ByR w A bs ∧ (A = none → bs = []) := by
  obtain ⟨a0, len0, cap0, rfl⟩ := okWide_slice Try.underlying28 hv
  obtain ⟨fuel, hf⟩ := h
  obtain ⟨A, m, c, bs, e, h⟩ := open_bytes_cells hf hlt (fun _ => rfl)
  simp [Value.cells] at e
  obtain ⟨rfl, rfl, rfl⟩ := e
  exact ⟨_, _, _, bs, rfl, h⟩
end

set_option maxRecDepth 20000 in
set_option maxHeartbeats 16000000 in
theorem labelback_walk (l : Lab) (hl : l.Ok) (As : Option Addr) (n cs : Nat) (sb : List Nat) (cut : Int) (W : World) (hn : sb.length = n) (hnc : n ≤ cs) (hb256 : ∀ x ∈ sb, x < 256) (hby : ByR W As sb) (hnone : As = none → sb = []) :
    Calls Try.prog 3 #[.agg l.cells.toArray, .slice As n cs, .int .i64 cut] W fun e W' => e = .returned (.bool true) ∧ Below W.heap.size W W' := by
  have HL := Lib.hid hn
  have HLC := Lib.hid hnc
  have HB := Lib.hid hb256
  have HN := Lib.hid hnone
  have bA := Blk.new W 27 l.cells.toArray
  have hB0 := (Below.refl W.heap.size W).alloc (Nat.le_refl _) (.cells l.cells.toArray 27)
  have H0 := Lib.hid (show Below W.heap.size W (W.alloc (.cells l.cells.toArray 27)) ∧ ByR (W.alloc (.cells l.cells.toArray 27)) As sb from ⟨hB0, hby.next hB0⟩)
  have HBL := Lib.hid bA
  have rl := bA.range
  have HF := Lib.hid hl.f
  clear hn hnc hb256 hby hnone bA hB0 hl
  by_cases hbig : 300 < n
  · have hbig' : (300 : Int) < (n : Int) := by omega
    clear hbig
    go_enter Try.func3, Try.ntmps3
    go_wp2_with (go_at_call 9; refine (alive5_any _).mono ?_; rintro e x4 ⟨rfl, hb⟩; have H4 := Lib.hid (H0.out.1.trans (hb.mono H0.out.1.size)); clear hb)
    go_ret
    exact ⟨rfl, H4.out⟩
  have hbig' : ¬ (300 : Int) < (n : Int) := by omega
  cases hr : rightL l with
  | false =>
    clear HF
    go_enter Try.func3, Try.ntmps3
    go_wp2_with (first | (refine wpList_load_mid rfl 27 _ rfl _ _ rfl (Lab.cells ?_) _ ?_ Try.underlying27 rfl (linfo _) ?_; rotate_left; (focus assumption)))
    refine (lwrite_no l _ hr).mono ?_
    rintro e W1 ⟨rfl, hb⟩
    have HW1 := Lib.hid (show Below W.heap.size W W1 ∧ ByR W1 As sb from ⟨H0.out.1.trans (hb.mono H0.out.1.size), H0.out.2.next hb⟩)
    clear hb rl H0 HBL hr hbig hbig'
    go_wp2_with fail
    have HZ := Lib.hid (fun w => lwrite_no zL w zL_right)
    rw [zL_cells] at HZ
    by_cases hP : ∃ m, labP sb = .ok (m, [])
    · obtain ⟨mm, hm⟩ := hP
      obtain ⟨e1, e2, e3, _⟩ := lab_ok HB.out hm
      rw [List.append_nil] at e1
      have HE := Lib.hid e1.symm
      have HR2 := Lib.hid e2
      have HF2 := Lib.hid e3
      have HX := Lib.hid (lread_yes As n cs W1 sb HL.out HLC.out (HW1).out.2 mm hm)
      clear hm e1 e2 e3
      refine HX.out.mono ?_
      rintro e y1 ⟨rfl, hb⟩
      have H1 := Lib.hid (show Below W.heap.size W y1 ∧ ByR y1 As sb from ⟨(HW1).out.1.trans (hb.mono (HW1).out.1.size), (HW1).out.2.next hb⟩)
      clear hb HX
      go_wp2_with (first | (refine wpList_store_blk rfl 27 _ _ rfl (y1).heap.size 27 #[.int .u64 0, .int .i64 0, .int .u32 0, .int .i64 0, .int .i64 0, .int .u32 0, .int .u32 0, .int .u32 0, .int .u32 0, .int .u32 0, .int .u32 0, .int .u32 0, .int .u32 0, .int .u32 0, .int .u32 0, .int .u32 0, .int .u32 0] mm.cells.toArray rfl rfl (Blk.new' rfl) (linfoA _) (lab_siz _) (lab_one _) ?_; intro hy; have hbn : Below (y1).heap.size y1 (((y1).alloc (.cells #[.int .u64 0, .int .i64 0, .int .u32 0, .int .i64 0, .int .i64 0, .int .u32 0, .int .u32 0, .int .u32 0, .int .u32 0, .int .u32 0, .int .u32 0, .int .u32 0, .int .u32 0, .int .u32 0, .int .u32 0, .int .u32 0, .int .u32 0] 27)).setRow (y1).heap.size mm.cells.toArray) := below_setRow ((Below.refl _ _).alloc (Nat.le_refl _) _) (Nat.le_refl _) _; obtain ⟨y2, hnw⟩ : ∃ y2, y2 = (((y1).alloc (.cells #[.int .u64 0, .int .i64 0, .int .u32 0, .int .i64 0, .int .i64 0, .int .u32 0, .int .u32 0, .int .u32 0, .int .u32 0, .int .u32 0, .int .u32 0, .int .u32 0, .int .u32 0, .int .u32 0, .int .u32 0, .int .u32 0, .int .u32 0] 27)).setRow (y1).heap.size mm.cells.toArray) := ⟨_, rfl⟩; rw [← hnw] at hbn hy ⊢; clear hnw; have rm := hy.range) | (refine wpList_load_mid rfl 27 _ rfl _ _ rfl (Lab.cells ?_) _ ?_ Try.underlying27 rfl (linfo _) ?_; rotate_left; (focus assumption)))
      have H2 := Lib.hid (show Below W.heap.size W y2 ∧ ByR y2 As sb from ⟨H1.out.1.trans (hbn.mono H1.out.1.size), H1.out.2.next hbn⟩)
      clear hbn H1
      refine (lwrite_yes mm y2 HR2.out HF2.out).mono ?_
      rintro e y3 ⟨v3, rfl, hown, hb⟩
      obtain ⟨A3, c3, rfl, hc3, hA3, hA30⟩ := own_byr hown
      rw [HE.out] at hA3 hA30
      have hE2 : (encL mm).length = n := by rw [HE.out]; exact HL.out
      rw [hE2]
      have H3 := Lib.hid (show Below W.heap.size W y3 ∧ ByR y3 As sb from ⟨H2.out.1.trans (hb.mono H2.out.1.size), H2.out.2.next hb⟩)
      have HA3 := Lib.hid hA3
      have HA30 := Lib.hid hA30
      clear hown hb hy rm hc3 hA3 hA30 H2 hE2
      go_wp2_with fail
      refine (alive5_any y3).mono ?_
      rintro e y4 ⟨rfl, hb⟩
      have H4 := Lib.hid (H3.out.1.trans (hb.mono H3.out.1.size))
      have cv1 := conv_src y4 A3 n c3 sb (by have := (HA3.out.next hb).src HA30.out; rwa [HL.out] at this) HL.out HB.out
      have cv2 := conv_src y4 As n cs sb (by have := (H3.out.2.next hb).src HN.out; rwa [HL.out] at this) HL.out HB.out
      clear hb H3
      go_wp2_with fail
      go_ret
      exact ⟨rfl, H4.out⟩
    · refine (lread_no As n cs W1 sb HL.out HLC.out (HW1).out.2 (fun m hm => hP ⟨m, hm⟩)).mono ?_
      rintro e y1 ⟨rfl, hb⟩
      have H1 := Lib.hid ((HW1).out.1.trans (hb.mono (HW1).out.1.size))
      clear hb hP
      go_wp2_with (first | (refine wpList_store_blk rfl 27 _ _ rfl (y1).heap.size 27 #[.int .u64 0, .int .i64 0, .int .u32 0, .int .i64 0, .int .i64 0, .int .u32 0, .int .u32 0, .int .u32 0, .int .u32 0, .int .u32 0, .int .u32 0, .int .u32 0, .int .u32 0, .int .u32 0, .int .u32 0, .int .u32 0, .int .u32 0] #[.int .u64 0, .int .i64 0, .int .u32 0, .int .i64 0, .int .i64 0, .int .u32 0, .int .u32 0, .int .u32 0, .int .u32 0, .int .u32 0, .int .u32 0, .int .u32 0, .int .u32 0, .int .u32 0, .int .u32 0, .int .u32 0, .int .u32 0] rfl rfl (Blk.new' rfl) zlab_sz rfl zlab_one ?_; intro hy; have hbn : Below (y1).heap.size y1 (((y1).alloc (.cells #[.int .u64 0, .int .i64 0, .int .u32 0, .int .i64 0, .int .i64 0, .int .u32 0, .int .u32 0, .int .u32 0, .int .u32 0, .int .u32 0, .int .u32 0, .int .u32 0, .int .u32 0, .int .u32 0, .int .u32 0, .int .u32 0, .int .u32 0] 27)).setRow (y1).heap.size #[.int .u64 0, .int .i64 0, .int .u32 0, .int .i64 0, .int .i64 0, .int .u32 0, .int .u32 0, .int .u32 0, .int .u32 0, .int .u32 0, .int .u32 0, .int .u32 0, .int .u32 0, .int .u32 0, .int .u32 0, .int .u32 0, .int .u32 0]) := below_setRow ((Below.refl _ _).alloc (Nat.le_refl _) _) (Nat.le_refl _) _; obtain ⟨y2, hnw⟩ : ∃ y2, y2 = (((y1).alloc (.cells #[.int .u64 0, .int .i64 0, .int .u32 0, .int .i64 0, .int .i64 0, .int .u32 0, .int .u32 0, .int .u32 0, .int .u32 0, .int .u32 0, .int .u32 0, .int .u32 0, .int .u32 0, .int .u32 0, .int .u32 0, .int .u32 0, .int .u32 0] 27)).setRow (y1).heap.size #[.int .u64 0, .int .i64 0, .int .u32 0, .int .i64 0, .int .i64 0, .int .u32 0, .int .u32 0, .int .u32 0, .int .u32 0, .int .u32 0, .int .u32 0, .int .u32 0, .int .u32 0, .int .u32 0, .int .u32 0, .int .u32 0, .int .u32 0]) := ⟨_, rfl⟩; rw [← hnw] at hbn hy ⊢; clear hnw; have rm := zL_range hy) | (refine wpList_load_mid rfl 27 _ rfl _ _ rfl zL.cells _ rm Try.underlying27 rfl (linfo _) ?_))
      have H2 := Lib.hid (H1.out.trans (hbn.mono H1.out.size))
      clear hbn H1
      refine (lwrite_no zL y2 zL_right).mono ?_
      rintro e y3 ⟨rfl, hb⟩
      have H3 := Lib.hid (H2.out.trans (hb.mono H2.out.size))
      clear hb hy rm H2
      go_wp2_with (go_at_call 9; refine (alive5_any y3).mono ?_; rintro e y4 ⟨rfl, hb⟩; have H4 := Lib.hid (H3.out.trans (hb.mono H3.out.size)); clear hb)
      go_ret
      exact ⟨rfl, H4.out⟩
  | true =>
    have HCUT := Lib.hid (fun k (hk : k < (encL l).length) => lab_cut hr HF.out hk)
    have hy0 := lab_yes hr HF.out
    have HSM := Lib.hid (show (asRead l).cells.toArray = l.cells.toArray by rw [(asRead_same l).2.2])
    have HWY := Lib.hid (fun w => lwrite_yes l w hr HF.out)
    obtain ⟨m, hm⟩ : ∃ m, m = asRead l := ⟨_, rfl⟩
    obtain ⟨E, hE⟩ : ∃ E, E = encL l := ⟨_, rfl⟩
    rw [← hE] at HCUT HWY hy0
    rw [← hm] at hy0 HSM
    have HY := Lib.hid hy0
    clear hy0 hm hE HF hr hbig
    obtain ⟨N, hN⟩ : ∃ N, N = E.length := ⟨_, rfl⟩
    rw [← hN] at HCUT HWY
    have HNE := Lib.hid hN
    clear hN
    have q1 := fun w => eq_lab l l w
    rw [eqL_self] at q1
    go_enter Try.func3, Try.ntmps3
    go_wp2_with (first | (refine wpList_load_mid rfl 27 _ rfl _ _ rfl (Lab.cells ?_) _ ?_ Try.underlying27 rfl (linfo _) ?_; rotate_left; (focus assumption)))
    refine (HWY.out _).mono ?_
    rintro e W1 ⟨v1, rfl, hown, hb⟩
    rw [HNE.out] at hown
    obtain ⟨A1, c1, rfl, hc1, hA1, hA10⟩ := own_byr hown
    rw [← HNE.out] at hc1 ⊢
    have HC1 := Lib.hid hc1
    have HA1 := Lib.hid hA1
    have HWW1 := Lib.hid (show Below W.heap.size W W1 ∧ ByR W1 As sb from ⟨H0.out.1.trans (hb.mono H0.out.1.size), H0.out.2.next hb⟩)
    have HBL1 := Lib.hid (HBL.out.next hb)
    clear hown hb rl HBL H0 HWY hc1 hA1 hA10
    go_wp2_with fail
    refine (lread_yes A1 N c1 W1 E HNE.out.symm HC1.out HA1.out m HY.out).mono ?_
    rintro e x1 ⟨rfl, hb⟩
    rw [HSM.out]
    have HW2 := Lib.hid (show Below W.heap.size W x1 ∧ ByR x1 As sb from ⟨HWW1.out.1.trans (hb.mono HWW1.out.1.size), HWW1.out.2.next hb⟩)
    have HA2 := Lib.hid (HA1.out.next hb)
    have HBL2 := Lib.hid (HBL1.out.next hb)
    clear hb HWW1 HA1 HBL1
    by_cases hc0 : 0 ≤ cut
    · obtain ⟨k, rfl⟩ := Int.eq_ofNat_of_zero_le hc0
      have g0 : decide (0 ≤ (k : Int)) = true := decide_eq_true hc0
      clear hc0
      by_cases hkN : k < N
      · have g1 : decide ((k : Int) < (N : Int)) = true := by simp; omega
        have HKN := Lib.hid hkN
        have hkc : k ≤ c1 := by have := HC1.out; omega
        have HNO := Lib.hid (fun w h => lread_no A1 k c1 w (E.take k) (by rw [List.length_take]; have := HNE.out; omega) hkc h (HCUT.out k hkN))
        go_wp2_with (first | (refine wpList_store_blk rfl 27 _ _ rfl (x1).heap.size 27 #[.int .u64 0, .int .i64 0, .int .u32 0, .int .i64 0, .int .i64 0, .int .u32 0, .int .u32 0, .int .u32 0, .int .u32 0, .int .u32 0, .int .u32 0, .int .u32 0, .int .u32 0, .int .u32 0, .int .u32 0, .int .u32 0, .int .u32 0] l.cells.toArray rfl rfl (Blk.new' rfl) (linfoA _) (lab_siz _) (lab_one _) ?_; intro hy; have hbn : Below (x1).heap.size x1 (((x1).alloc (.cells #[.int .u64 0, .int .i64 0, .int .u32 0, .int .i64 0, .int .i64 0, .int .u32 0, .int .u32 0, .int .u32 0, .int .u32 0, .int .u32 0, .int .u32 0, .int .u32 0, .int .u32 0, .int .u32 0, .int .u32 0, .int .u32 0, .int .u32 0] 27)).setRow (x1).heap.size l.cells.toArray) := below_setRow ((Below.refl _ _).alloc (Nat.le_refl _) _) (Nat.le_refl _) _; obtain ⟨x2, hnw⟩ : ∃ x2, x2 = (((x1).alloc (.cells #[.int .u64 0, .int .i64 0, .int .u32 0, .int .i64 0, .int .i64 0, .int .u32 0, .int .u32 0, .int .u32 0, .int .u32 0, .int .u32 0, .int .u32 0, .int .u32 0, .int .u32 0, .int .u32 0, .int .u32 0, .int .u32 0, .int .u32 0] 27)).setRow (x1).heap.size l.cells.toArray) := ⟨_, rfl⟩; rw [← hnw] at hbn hy ⊢; clear hnw; have rm := hy.range; have rl := (HBL2.out.next hbn).range) | (refine wpList_load_midg (by rfl) 27 _ rfl _ _ rfl (Lab.cells ?_) _ ?_ Try.underlying27 rfl (linfo _) ?_; rotate_left; (focus assumption)))
        have Hx2 := Lib.hid (show Below W.heap.size W x2 ∧ ByR x2 As sb from ⟨HW2.out.1.trans (hbn.mono HW2.out.1.size), HW2.out.2.next hbn⟩)
        have HA3 := Lib.hid (HA2.out.next hbn)
        clear hbn hy rm rl HW2 HA2 HBL2
        refine (HNO.out _ (HA3.out.take k)).mono ?_
        rintro e x3 ⟨rfl, hb⟩
        have Hx3 := Lib.hid (show Below W.heap.size W x3 ∧ ByR x3 As sb from ⟨Hx2.out.1.trans (hb.mono Hx2.out.1.size), Hx2.out.2.next hb⟩)
        clear hb Hx2 HA3
        go_wp2_with (first | (refine wpList_store_blk rfl 27 _ _ rfl (x3).heap.size 27 #[.int .u64 0, .int .i64 0, .int .u32 0, .int .i64 0, .int .i64 0, .int .u32 0, .int .u32 0, .int .u32 0, .int .u32 0, .int .u32 0, .int .u32 0, .int .u32 0, .int .u32 0, .int .u32 0, .int .u32 0, .int .u32 0, .int .u32 0] #[.int .u64 0, .int .i64 0, .int .u32 0, .int .i64 0, .int .i64 0, .int .u32 0, .int .u32 0, .int .u32 0, .int .u32 0, .int .u32 0, .int .u32 0, .int .u32 0, .int .u32 0, .int .u32 0, .int .u32 0, .int .u32 0, .int .u32 0] rfl rfl (Blk.new' rfl) zlab_sz rfl zlab_one ?_; intro hy; have hbn : Below (x3).heap.size x3 (((x3).alloc (.cells #[.int .u64 0, .int .i64 0, .int .u32 0, .int .i64 0, .int .i64 0, .int .u32 0, .int .u32 0, .int .u32 0, .int .u32 0, .int .u32 0, .int .u32 0, .int .u32 0, .int .u32 0, .int .u32 0, .int .u32 0, .int .u32 0, .int .u32 0] 27)).setRow (x3).heap.size #[.int .u64 0, .int .i64 0, .int .u32 0, .int .i64 0, .int .i64 0, .int .u32 0, .int .u32 0, .int .u32 0, .int .u32 0, .int .u32 0, .int .u32 0, .int .u32 0, .int .u32 0, .int .u32 0, .int .u32 0, .int .u32 0, .int .u32 0]) := below_setRow ((Below.refl _ _).alloc (Nat.le_refl _) _) (Nat.le_refl _) _; obtain ⟨x4, hnw⟩ : ∃ x4, x4 = (((x3).alloc (.cells #[.int .u64 0, .int .i64 0, .int .u32 0, .int .i64 0, .int .i64 0, .int .u32 0, .int .u32 0, .int .u32 0, .int .u32 0, .int .u32 0, .int .u32 0, .int .u32 0, .int .u32 0, .int .u32 0, .int .u32 0, .int .u32 0, .int .u32 0] 27)).setRow (x3).heap.size #[.int .u64 0, .int .i64 0, .int .u32 0, .int .i64 0, .int .i64 0, .int .u32 0, .int .u32 0, .int .u32 0, .int .u32 0, .int .u32 0, .int .u32 0, .int .u32 0, .int .u32 0, .int .u32 0, .int .u32 0, .int .u32 0, .int .u32 0]) := ⟨_, rfl⟩; rw [← hnw] at hbn hy ⊢; clear hnw; skip) | fail)
        have Hx4 := Lib.hid (show Below W.heap.size W x4 ∧ ByR x4 As sb from ⟨Hx3.out.1.trans (hbn.mono Hx3.out.1.size), Hx3.out.2.next hbn⟩)
        clear hbn hy Hx3
        have HZ := Lib.hid (fun w => lwrite_no zL w zL_right)
        rw [zL_cells] at HZ
        by_cases hP : ∃ m, labP sb = .ok (m, [])
        · obtain ⟨mm, hm⟩ := hP
          obtain ⟨e1, e2, e3, _⟩ := lab_ok HB.out hm
          rw [List.append_nil] at e1
          have HE := Lib.hid e1.symm
          have HR2 := Lib.hid e2
          have HF2 := Lib.hid e3
          have HX := Lib.hid (lread_yes As n cs x4 sb HL.out HLC.out (Hx4).out.2 mm hm)
          clear hm e1 e2 e3
          refine HX.out.mono ?_
          rintro e y1 ⟨rfl, hb⟩
          have H1 := Lib.hid (show Below W.heap.size W y1 ∧ ByR y1 As sb from ⟨(Hx4).out.1.trans (hb.mono (Hx4).out.1.size), (Hx4).out.2.next hb⟩)
          clear hb HX
          go_wp2_with (first | (refine wpList_store_blk rfl 27 _ _ rfl (y1).heap.size 27 #[.int .u64 0, .int .i64 0, .int .u32 0, .int .i64 0, .int .i64 0, .int .u32 0, .int .u32 0, .int .u32 0, .int .u32 0, .int .u32 0, .int .u32 0, .int .u32 0, .int .u32 0, .int .u32 0, .int .u32 0, .int .u32 0, .int .u32 0] mm.cells.toArray rfl rfl (Blk.new' rfl) (linfoA _) (lab_siz _) (lab_one _) ?_; intro hy; have hbn : Below (y1).heap.size y1 (((y1).alloc (.cells #[.int .u64 0, .int .i64 0, .int .u32 0, .int .i64 0, .int .i64 0, .int .u32 0, .int .u32 0, .int .u32 0, .int .u32 0, .int .u32 0, .int .u32 0, .int .u32 0, .int .u32 0, .int .u32 0, .int .u32 0, .int .u32 0, .int .u32 0] 27)).setRow (y1).heap.size mm.cells.toArray) := below_setRow ((Below.refl _ _).alloc (Nat.le_refl _) _) (Nat.le_refl _) _; obtain ⟨y2, hnw⟩ : ∃ y2, y2 = (((y1).alloc (.cells #[.int .u64 0, .int .i64 0, .int .u32 0, .int .i64 0, .int .i64 0, .int .u32 0, .int .u32 0, .int .u32 0, .int .u32 0, .int .u32 0, .int .u32 0, .int .u32 0, .int .u32 0, .int .u32 0, .int .u32 0, .int .u32 0, .int .u32 0] 27)).setRow (y1).heap.size mm.cells.toArray) := ⟨_, rfl⟩; rw [← hnw] at hbn hy ⊢; clear hnw; have rm := hy.range) | (refine wpList_load_mid rfl 27 _ rfl _ _ rfl (Lab.cells ?_) _ ?_ Try.underlying27 rfl (linfo _) ?_; rotate_left; (focus assumption)))
          have H2 := Lib.hid (show Below W.heap.size W y2 ∧ ByR y2 As sb from ⟨H1.out.1.trans (hbn.mono H1.out.1.size), H1.out.2.next hbn⟩)
          clear hbn H1
          refine (lwrite_yes mm y2 HR2.out HF2.out).mono ?_
          rintro e y3 ⟨v3, rfl, hown, hb⟩
          obtain ⟨A3, c3, rfl, hc3, hA3, hA30⟩ := own_byr hown
          rw [HE.out] at hA3 hA30
          have hE2 : (encL mm).length = n := by rw [HE.out]; exact HL.out
          rw [hE2]
          have H3 := Lib.hid (show Below W.heap.size W y3 ∧ ByR y3 As sb from ⟨H2.out.1.trans (hb.mono H2.out.1.size), H2.out.2.next hb⟩)
          have HA3 := Lib.hid hA3
          have HA30 := Lib.hid hA30
          clear hown hb hy rm hc3 hA3 hA30 H2 hE2
          go_wp2_with fail
          refine (alive5_any y3).mono ?_
          rintro e y4 ⟨rfl, hb⟩
          have H4 := Lib.hid (H3.out.1.trans (hb.mono H3.out.1.size))
          have cv1 := conv_src y4 A3 n c3 sb (by have := (HA3.out.next hb).src HA30.out; rwa [HL.out] at this) HL.out HB.out
          have cv2 := conv_src y4 As n cs sb (by have := (H3.out.2.next hb).src HN.out; rwa [HL.out] at this) HL.out HB.out
          clear hb H3
          go_wp2_with fail
          go_ret
          exact ⟨rfl, H4.out⟩
        · refine (lread_no As n cs x4 sb HL.out HLC.out (Hx4).out.2 (fun m hm => hP ⟨m, hm⟩)).mono ?_
          rintro e y1 ⟨rfl, hb⟩
          have H1 := Lib.hid ((Hx4).out.1.trans (hb.mono (Hx4).out.1.size))
          clear hb hP
          go_wp2_with (first | (refine wpList_store_blk rfl 27 _ _ rfl (y1).heap.size 27 #[.int .u64 0, .int .i64 0, .int .u32 0, .int .i64 0, .int .i64 0, .int .u32 0, .int .u32 0, .int .u32 0, .int .u32 0, .int .u32 0, .int .u32 0, .int .u32 0, .int .u32 0, .int .u32 0, .int .u32 0, .int .u32 0, .int .u32 0] #[.int .u64 0, .int .i64 0, .int .u32 0, .int .i64 0, .int .i64 0, .int .u32 0, .int .u32 0, .int .u32 0, .int .u32 0, .int .u32 0, .int .u32 0, .int .u32 0, .int .u32 0, .int .u32 0, .int .u32 0, .int .u32 0, .int .u32 0] rfl rfl (Blk.new' rfl) zlab_sz rfl zlab_one ?_; intro hy; have hbn : Below (y1).heap.size y1 (((y1).alloc (.cells #[.int .u64 0, .int .i64 0, .int .u32 0, .int .i64 0, .int .i64 0, .int .u32 0, .int .u32 0, .int .u32 0, .int .u32 0, .int .u32 0, .int .u32 0, .int .u32 0, .int .u32 0, .int .u32 0, .int .u32 0, .int .u32 0, .int .u32 0] 27)).setRow (y1).heap.size #[.int .u64 0, .int .i64 0, .int .u32 0, .int .i64 0, .int .i64 0, .int .u32 0, .int .u32 0, .int .u32 0, .int .u32 0, .int .u32 0, .int .u32 0, .int .u32 0, .int .u32 0, .int .u32 0, .int .u32 0, .int .u32 0, .int .u32 0]) := below_setRow ((Below.refl _ _).alloc (Nat.le_refl _) _) (Nat.le_refl _) _; obtain ⟨y2, hnw⟩ : ∃ y2, y2 = (((y1).alloc (.cells #[.int .u64 0, .int .i64 0, .int .u32 0, .int .i64 0, .int .i64 0, .int .u32 0, .int .u32 0, .int .u32 0, .int .u32 0, .int .u32 0, .int .u32 0, .int .u32 0, .int .u32 0, .int .u32 0, .int .u32 0, .int .u32 0, .int .u32 0] 27)).setRow (y1).heap.size #[.int .u64 0, .int .i64 0, .int .u32 0, .int .i64 0, .int .i64 0, .int .u32 0, .int .u32 0, .int .u32 0, .int .u32 0, .int .u32 0, .int .u32 0, .int .u32 0, .int .u32 0, .int .u32 0, .int .u32 0, .int .u32 0, .int .u32 0]) := ⟨_, rfl⟩; rw [← hnw] at hbn hy ⊢; clear hnw; have rm := zL_range hy) | (refine wpList_load_mid rfl 27 _ rfl _ _ rfl zL.cells _ rm Try.underlying27 rfl (linfo _) ?_))
          have H2 := Lib.hid (H1.out.trans (hbn.mono H1.out.size))
          clear hbn H1
          refine (lwrite_no zL y2 zL_right).mono ?_
          rintro e y3 ⟨rfl, hb⟩
          have H3 := Lib.hid (H2.out.trans (hb.mono H2.out.size))
          clear hb hy rm H2
          go_wp2_with (go_at_call 9; refine (alive5_any y3).mono ?_; rintro e y4 ⟨rfl, hb⟩; have H4 := Lib.hid (H3.out.trans (hb.mono H3.out.size)); clear hb)
          go_ret
          exact ⟨rfl, H4.out⟩
      · have g1 : decide ((k : Int) < (N : Int)) = false := by simp; omega
        go_wp2_with (first | (refine wpList_store_blk rfl 27 _ _ rfl (x1).heap.size 27 #[.int .u64 0, .int .i64 0, .int .u32 0, .int .i64 0, .int .i64 0, .int .u32 0, .int .u32 0, .int .u32 0, .int .u32 0, .int .u32 0, .int .u32 0, .int .u32 0, .int .u32 0, .int .u32 0, .int .u32 0, .int .u32 0, .int .u32 0] l.cells.toArray rfl rfl (Blk.new' rfl) (linfoA _) (lab_siz _) (lab_one _) ?_; intro hy; have hbn : Below (x1).heap.size x1 (((x1).alloc (.cells #[.int .u64 0, .int .i64 0, .int .u32 0, .int .i64 0, .int .i64 0, .int .u32 0, .int .u32 0, .int .u32 0, .int .u32 0, .int .u32 0, .int .u32 0, .int .u32 0, .int .u32 0, .int .u32 0, .int .u32 0, .int .u32 0, .int .u32 0] 27)).setRow (x1).heap.size l.cells.toArray) := below_setRow ((Below.refl _ _).alloc (Nat.le_refl _) _) (Nat.le_refl _) _; obtain ⟨x2, hnw⟩ : ∃ x2, x2 = (((x1).alloc (.cells #[.int .u64 0, .int .i64 0, .int .u32 0, .int .i64 0, .int .i64 0, .int .u32 0, .int .u32 0, .int .u32 0, .int .u32 0, .int .u32 0, .int .u32 0, .int .u32 0, .int .u32 0, .int .u32 0, .int .u32 0, .int .u32 0, .int .u32 0] 27)).setRow (x1).heap.size l.cells.toArray) := ⟨_, rfl⟩; rw [← hnw] at hbn hy ⊢; clear hnw; have rm := hy.range; have rl := (HBL2.out.next hbn).range) | (refine wpList_load_midg (by rfl) 27 _ rfl _ _ rfl (Lab.cells ?_) _ ?_ Try.underlying27 rfl (linfo _) ?_; rotate_left; (focus assumption)))
        have Hx2 := Lib.hid (show Below W.heap.size W x2 ∧ ByR x2 As sb from ⟨HW2.out.1.trans (hbn.mono HW2.out.1.size), HW2.out.2.next hbn⟩)
        have HA3 := Lib.hid (HA2.out.next hbn)
        clear hbn hy rm rl HW2 HA2 HBL2
        have hq1 := q1
        have HZ := Lib.hid (fun w => lwrite_no zL w zL_right)
        rw [zL_cells] at HZ
        by_cases hP : ∃ m, labP sb = .ok (m, [])
        · obtain ⟨mm, hm⟩ := hP
          obtain ⟨e1, e2, e3, _⟩ := lab_ok HB.out hm
          rw [List.append_nil] at e1
          have HE := Lib.hid e1.symm
          have HR2 := Lib.hid e2
          have HF2 := Lib.hid e3
          have HX := Lib.hid (lread_yes As n cs x2 sb HL.out HLC.out (Hx2).out.2 mm hm)
          clear hm e1 e2 e3
          refine HX.out.mono ?_
          rintro e y1 ⟨rfl, hb⟩
          have H1 := Lib.hid (show Below W.heap.size W y1 ∧ ByR y1 As sb from ⟨(Hx2).out.1.trans (hb.mono (Hx2).out.1.size), (Hx2).out.2.next hb⟩)
          clear hb HX
          go_wp2_with (first | (refine wpList_store_blk rfl 27 _ _ rfl (y1).heap.size 27 #[.int .u64 0, .int .i64 0, .int .u32 0, .int .i64 0, .int .i64 0, .int .u32 0, .int .u32 0, .int .u32 0, .int .u32 0, .int .u32 0, .int .u32 0, .int .u32 0, .int .u32 0, .int .u32 0, .int .u32 0, .int .u32 0, .int .u32 0] mm.cells.toArray rfl rfl (Blk.new' rfl) (linfoA _) (lab_siz _) (lab_one _) ?_; intro hy; have hbn : Below (y1).heap.size y1 (((y1).alloc (.cells #[.int .u64 0, .int .i64 0, .int .u32 0, .int .i64 0, .int .i64 0, .int .u32 0, .int .u32 0, .int .u32 0, .int .u32 0, .int .u32 0, .int .u32 0, .int .u32 0, .int .u32 0, .int .u32 0, .int .u32 0, .int .u32 0, .int .u32 0] 27)).setRow (y1).heap.size mm.cells.toArray) := below_setRow ((Below.refl _ _).alloc (Nat.le_refl _) _) (Nat.le_refl _) _; obtain ⟨y2, hnw⟩ : ∃ y2, y2 = (((y1).alloc (.cells #[.int .u64 0, .int .i64 0, .int .u32 0, .int .i64 0, .int .i64 0, .int .u32 0, .int .u32 0, .int .u32 0, .int .u32 0, .int .u32 0, .int .u32 0, .int .u32 0, .int .u32 0, .int .u32 0, .int .u32 0, .int .u32 0, .int .u32 0] 27)).setRow (y1).heap.size mm.cells.toArray) := ⟨_, rfl⟩; rw [← hnw] at hbn hy ⊢; clear hnw; have rm := hy.range) | (refine wpList_load_mid rfl 27 _ rfl _ _ rfl (Lab.cells ?_) _ ?_ Try.underlying27 rfl (linfo _) ?_; rotate_left; (focus assumption)))
          have H2 := Lib.hid (show Below W.heap.size W y2 ∧ ByR y2 As sb from ⟨H1.out.1.trans (hbn.mono H1.out.1.size), H1.out.2.next hbn⟩)
          clear hbn H1
          refine (lwrite_yes mm y2 HR2.out HF2.out).mono ?_
          rintro e y3 ⟨v3, rfl, hown, hb⟩
          obtain ⟨A3, c3, rfl, hc3, hA3, hA30⟩ := own_byr hown
          rw [HE.out] at hA3 hA30
          have hE2 : (encL mm).length = n := by rw [HE.out]; exact HL.out
          rw [hE2]
          have H3 := Lib.hid (show Below W.heap.size W y3 ∧ ByR y3 As sb from ⟨H2.out.1.trans (hb.mono H2.out.1.size), H2.out.2.next hb⟩)
          have HA3 := Lib.hid hA3
          have HA30 := Lib.hid hA30
          clear hown hb hy rm hc3 hA3 hA30 H2 hE2
          go_wp2_with fail
          refine (alive5_any y3).mono ?_
          rintro e y4 ⟨rfl, hb⟩
          have H4 := Lib.hid (H3.out.1.trans (hb.mono H3.out.1.size))
          have cv1 := conv_src y4 A3 n c3 sb (by have := (HA3.out.next hb).src HA30.out; rwa [HL.out] at this) HL.out HB.out
          have cv2 := conv_src y4 As n cs sb (by have := (H3.out.2.next hb).src HN.out; rwa [HL.out] at this) HL.out HB.out
          clear hb H3
          go_wp2_with fail
          go_ret
          exact ⟨rfl, H4.out⟩
        · refine (lread_no As n cs x2 sb HL.out HLC.out (Hx2).out.2 (fun m hm => hP ⟨m, hm⟩)).mono ?_
          rintro e y1 ⟨rfl, hb⟩
          have H1 := Lib.hid ((Hx2).out.1.trans (hb.mono (Hx2).out.1.size))
          clear hb hP
          go_wp2_with (first | (refine wpList_store_blk rfl 27 _ _ rfl (y1).heap.size 27 #[.int .u64 0, .int .i64 0, .int .u32 0, .int .i64 0, .int .i64 0, .int .u32 0, .int .u32 0, .int .u32 0, .int .u32 0, .int .u32 0, .int .u32 0, .int .u32 0, .int .u32 0, .int .u32 0, .int .u32 0, .int .u32 0, .int .u32 0] #[.int .u64 0, .int .i64 0, .int .u32 0, .int .i64 0, .int .i64 0, .int .u32 0, .int .u32 0, .int .u32 0, .int .u32 0, .int .u32 0, .int .u32 0, .int .u32 0, .int .u32 0, .int .u32 0, .int .u32 0, .int .u32 0, .int .u32 0] rfl rfl (Blk.new' rfl) zlab_sz rfl zlab_one ?_; intro hy; have hbn : Below (y1).heap.size y1 (((y1).alloc (.cells #[.int .u64 0, .int .i64 0, .int .u32 0, .int .i64 0, .int .i64 0, .int .u32 0, .int .u32 0, .int .u32 0, .int .u32 0, .int .u32 0, .int .u32 0, .int .u32 0, .int .u32 0, .int .u32 0, .int .u32 0, .int .u32 0, .int .u32 0] 27)).setRow (y1).heap.size #[.int .u64 0, .int .i64 0, .int .u32 0, .int .i64 0, .int .i64 0, .int .u32 0, .int .u32 0, .int .u32 0, .int .u32 0, .int .u32 0, .int .u32 0, .int .u32 0, .int .u32 0, .int .u32 0, .int .u32 0, .int .u32 0, .int .u32 0]) := below_setRow ((Below.refl _ _).alloc (Nat.le_refl _) _) (Nat.le_refl _) _; obtain ⟨y2, hnw⟩ : ∃ y2, y2 = (((y1).alloc (.cells #[.int .u64 0, .int .i64 0, .int .u32 0, .int .i64 0, .int .i64 0, .int .u32 0, .int .u32 0, .int .u32 0, .int .u32 0, .int .u32 0, .int .u32 0, .int .u32 0, .int .u32 0, .int .u32 0, .int .u32 0, .int .u32 0, .int .u32 0] 27)).setRow (y1).heap.size #[.int .u64 0, .int .i64 0, .int .u32 0, .int .i64 0, .int .i64 0, .int .u32 0, .int .u32 0, .int .u32 0, .int .u32 0, .int .u32 0, .int .u32 0, .int .u32 0, .int .u32 0, .int .u32 0, .int .u32 0, .int .u32 0, .int .u32 0]) := ⟨_, rfl⟩; rw [← hnw] at hbn hy ⊢; clear hnw; have rm := zL_range hy) | (refine wpList_load_mid rfl 27 _ rfl _ _ rfl zL.cells _ rm Try.underlying27 rfl (linfo _) ?_))
          have H2 := Lib.hid (H1.out.trans (hbn.mono H1.out.size))
          clear hbn H1
          refine (lwrite_no zL y2 zL_right).mono ?_
          rintro e y3 ⟨rfl, hb⟩
          have H3 := Lib.hid (H2.out.trans (hb.mono H2.out.size))
          clear hb hy rm H2
          go_wp2_with (go_at_call 9; refine (alive5_any y3).mono ?_; rintro e y4 ⟨rfl, hb⟩; have H4 := Lib.hid (H3.out.trans (hb.mono H3.out.size)); clear hb)
          go_ret
          exact ⟨rfl, H4.out⟩
    · have g0 : decide (0 ≤ cut) = false := by simpa using hc0
      clear hc0
      go_wp2_with (first | (refine wpList_store_blk rfl 27 _ _ rfl (x1).heap.size 27 #[.int .u64 0, .int .i64 0, .int .u32 0, .int .i64 0, .int .i64 0, .int .u32 0, .int .u32 0, .int .u32 0, .int .u32 0, .int .u32 0, .int .u32 0, .int .u32 0, .int .u32 0, .int .u32 0, .int .u32 0, .int .u32 0, .int .u32 0] l.cells.toArray rfl rfl (Blk.new' rfl) (linfoA _) (lab_siz _) (lab_one _) ?_; intro hy; have hbn : Below (x1).heap.size x1 (((x1).alloc (.cells #[.int .u64 0, .int .i64 0, .int .u32 0, .int .i64 0, .int .i64 0, .int .u32 0, .int .u32 0, .int .u32 0, .int .u32 0, .int .u32 0, .int .u32 0, .int .u32 0, .int .u32 0, .int .u32 0, .int .u32 0, .int .u32 0, .int .u32 0] 27)).setRow (x1).heap.size l.cells.toArray) := below_setRow ((Below.refl _ _).alloc (Nat.le_refl _) _) (Nat.le_refl _) _; obtain ⟨x2, hnw⟩ : ∃ x2, x2 = (((x1).alloc (.cells #[.int .u64 0, .int .i64 0, .int .u32 0, .int .i64 0, .int .i64 0, .int .u32 0, .int .u32 0, .int .u32 0, .int .u32 0, .int .u32 0, .int .u32 0, .int .u32 0, .int .u32 0, .int .u32 0, .int .u32 0, .int .u32 0, .int .u32 0] 27)).setRow (x1).heap.size l.cells.toArray) := ⟨_, rfl⟩; rw [← hnw] at hbn hy ⊢; clear hnw; have rm := hy.range; have rl := (HBL2.out.next hbn).range) | (refine wpList_load_midg (by rfl) 27 _ rfl _ _ rfl (Lab.cells ?_) _ ?_ Try.underlying27 rfl (linfo _) ?_; rotate_left; (focus assumption)))
      have Hx2 := Lib.hid (show Below W.heap.size W x2 ∧ ByR x2 As sb from ⟨HW2.out.1.trans (hbn.mono HW2.out.1.size), HW2.out.2.next hbn⟩)
      have HA3 := Lib.hid (HA2.out.next hbn)
      clear hbn hy rm rl HW2 HA2 HBL2
      have hq1 := q1
      have HZ := Lib.hid (fun w => lwrite_no zL w zL_right)
      rw [zL_cells] at HZ
      by_cases hP : ∃ m, labP sb = .ok (m, [])
      · obtain ⟨mm, hm⟩ := hP
        obtain ⟨e1, e2, e3, _⟩ := lab_ok HB.out hm
        rw [List.append_nil] at e1
        have HE := Lib.hid e1.symm
        have HR2 := Lib.hid e2
        have HF2 := Lib.hid e3
        have HX := Lib.hid (lread_yes As n cs x2 sb HL.out HLC.out (Hx2).out.2 mm hm)
        clear hm e1 e2 e3
        refine HX.out.mono ?_
        rintro e y1 ⟨rfl, hb⟩
        have H1 := Lib.hid (show Below W.heap.size W y1 ∧ ByR y1 As sb from ⟨(Hx2).out.1.trans (hb.mono (Hx2).out.1.size), (Hx2).out.2.next hb⟩)
        clear hb HX
        go_wp2_with (first | (refine wpList_store_blk rfl 27 _ _ rfl (y1).heap.size 27 #[.int .u64 0, .int .i64 0, .int .u32 0, .int .i64 0, .int .i64 0, .int .u32 0, .int .u32 0, .int .u32 0, .int .u32 0, .int .u32 0, .int .u32 0, .int .u32 0, .int .u32 0, .int .u32 0, .int .u32 0, .int .u32 0, .int .u32 0] mm.cells.toArray rfl rfl (Blk.new' rfl) (linfoA _) (lab_siz _) (lab_one _) ?_; intro hy; have hbn : Below (y1).heap.size y1 (((y1).alloc (.cells #[.int .u64 0, .int .i64 0, .int .u32 0, .int .i64 0, .int .i64 0, .int .u32 0, .int .u32 0, .int .u32 0, .int .u32 0, .int .u32 0, .int .u32 0, .int .u32 0, .int .u32 0, .int .u32 0, .int .u32 0, .int .u32 0, .int .u32 0] 27)).setRow (y1).heap.size mm.cells.toArray) := below_setRow ((Below.refl _ _).alloc (Nat.le_refl _) _) (Nat.le_refl _) _; obtain ⟨y2, hnw⟩ : ∃ y2, y2 = (((y1).alloc (.cells #[.int .u64 0, .int .i64 0, .int .u32 0, .int .i64 0, .int .i64 0, .int .u32 0, .int .u32 0, .int .u32 0, .int .u32 0, .int .u32 0, .int .u32 0, .int .u32 0, .int .u32 0, .int .u32 0, .int .u32 0, .int .u32 0, .int .u32 0] 27)).setRow (y1).heap.size mm.cells.toArray) := ⟨_, rfl⟩; rw [← hnw] at hbn hy ⊢; clear hnw; have rm := hy.range) | (refine wpList_load_mid rfl 27 _ rfl _ _ rfl (Lab.cells ?_) _ ?_ Try.underlying27 rfl (linfo _) ?_; rotate_left; (focus assumption)))
        have H2 := Lib.hid (show Below W.heap.size W y2 ∧ ByR y2 As sb from ⟨H1.out.1.trans (hbn.mono H1.out.1.size), H1.out.2.next hbn⟩)
        clear hbn H1
        refine (lwrite_yes mm y2 HR2.out HF2.out).mono ?_
        rintro e y3 ⟨v3, rfl, hown, hb⟩
        obtain ⟨A3, c3, rfl, hc3, hA3, hA30⟩ := own_byr hown
        rw [HE.out] at hA3 hA30
        have hE2 : (encL mm).length = n := by rw [HE.out]; exact HL.out
        rw [hE2]
        have H3 := Lib.hid (show Below W.heap.size W y3 ∧ ByR y3 As sb from ⟨H2.out.1.trans (hb.mono H2.out.1.size), H2.out.2.next hb⟩)
        have HA3 := Lib.hid hA3
        have HA30 := Lib.hid hA30
        clear hown hb hy rm hc3 hA3 hA30 H2 hE2
        go_wp2_with fail
        refine (alive5_any y3).mono ?_
        rintro e y4 ⟨rfl, hb⟩
        have H4 := Lib.hid (H3.out.1.trans (hb.mono H3.out.1.size))
        have cv1 := conv_src y4 A3 n c3 sb (by have := (HA3.out.next hb).src HA30.out; rwa [HL.out] at this) HL.out HB.out
        have cv2 := conv_src y4 As n cs sb (by have := (H3.out.2.next hb).src HN.out; rwa [HL.out] at this) HL.out HB.out
        clear hb H3
        go_wp2_with fail
        go_ret
        exact ⟨rfl, H4.out⟩
      · refine (lread_no As n cs x2 sb HL.out HLC.out (Hx2).out.2 (fun m hm => hP ⟨m, hm⟩)).mono ?_
        rintro e y1 ⟨rfl, hb⟩
        have H1 := Lib.hid ((Hx2).out.1.trans (hb.mono (Hx2).out.1.size))
        clear hb hP
        go_wp2_with (first | (refine wpList_store_blk rfl 27 _ _ rfl (y1).heap.size 27 #[.int .u64 0, .int .i64 0, .int .u32 0, .int .i64 0, .int .i64 0, .int .u32 0, .int .u32 0, .int .u32 0, .int .u32 0, .int .u32 0, .int .u32 0, .int .u32 0, .int .u32 0, .int .u32 0, .int .u32 0, .int .u32 0, .int .u32 0] #[.int .u64 0, .int .i64 0, .int .u32 0, .int .i64 0, .int .i64 0, .int .u32 0, .int .u32 0, .int .u32 0, .int .u32 0, .int .u32 0, .int .u32 0, .int .u32 0, .int .u32 0, .int .u32 0, .int .u32 0, .int .u32 0, .int .u32 0] rfl rfl (Blk.new' rfl) zlab_sz rfl zlab_one ?_; intro hy; have hbn : Below (y1).heap.size y1 (((y1).alloc (.cells #[.int .u64 0, .int .i64 0, .int .u32 0, .int .i64 0, .int .i64 0, .int .u32 0, .int .u32 0, .int .u32 0, .int .u32 0, .int .u32 0, .int .u32 0, .int .u32 0, .int .u32 0, .int .u32 0, .int .u32 0, .int .u32 0, .int .u32 0] 27)).setRow (y1).heap.size #[.int .u64 0, .int .i64 0, .int .u32 0, .int .i64 0, .int .i64 0, .int .u32 0, .int .u32 0, .int .u32 0, .int .u32 0, .int .u32 0, .int .u32 0, .int .u32 0, .int .u32 0, .int .u32 0, .int .u32 0, .int .u32 0, .int .u32 0]) := below_setRow ((Below.refl _ _).alloc (Nat.le_refl _) _) (Nat.le_refl _) _; obtain ⟨y2, hnw⟩ : ∃ y2, y2 = (((y1).alloc (.cells #[.int .u64 0, .int .i64 0, .int .u32 0, .int .i64 0, .int .i64 0, .int .u32 0, .int .u32 0, .int .u32 0, .int .u32 0, .int .u32 0, .int .u32 0, .int .u32 0, .int .u32 0, .int .u32 0, .int .u32 0, .int .u32 0, .int .u32 0] 27)).setRow (y1).heap.size #[.int .u64 0, .int .i64 0, .int .u32 0, .int .i64 0, .int .i64 0, .int .u32 0, .int .u32 0, .int .u32 0, .int .u32 0, .int .u32 0, .int .u32 0, .int .u32 0, .int .u32 0, .int .u32 0, .int .u32 0, .int .u32 0, .int .u32 0]) := ⟨_, rfl⟩; rw [← hnw] at hbn hy ⊢; clear hnw; have rm := zL_range hy) | (refine wpList_load_mid rfl 27 _ rfl _ _ rfl zL.cells _ rm Try.underlying27 rfl (linfo _) ?_))
        have H2 := Lib.hid (H1.out.trans (hbn.mono H1.out.size))
        clear hbn H1
        refine (lwrite_no zL y2 zL_right).mono ?_
        rintro e y3 ⟨rfl, hb⟩
        have H3 := Lib.hid (H2.out.trans (hb.mono H2.out.size))
        clear hb hy rm H2
        go_wp2_with (go_at_call 9; refine (alive5_any y3).mono ?_; rintro e y4 ⟨rfl, hb⟩; have H4 := Lib.hid (H3.out.trans (hb.mono H3.out.size)); clear hb)
        go_ret
        exact ⟨rfl, H4.out⟩
set_option maxRecDepth 100000 in
theorem labelback_lifted (os : Os) (started : os.Started) (H : Type) (enc : TypeId × Value → H) :
    ReturnsInHanded {} Try.checked os 3 .any (Rows.labelBackSpec.pre6 enc Try.prog Try.f3 Rows.labelBackRow.domain false) (Rows.labelBackSpec.post enc Try.prog Try.f3 false true false false) := by
  refine law_lift (C := Try.checked) own_knob started (by kernel_rfl) Try.func3 rfl Try.underlying4 laid_out (by kernel_rfl) rfl ?_
    (ChangeSpec.witness6 (enc := enc) (C := Try.checked) false ⟨#[], #[.agg #[.int .u64 0, .int .i64 0, .int .u32 0, .int .i64 0, .int .i64 0, .int .u32 0, .int .u32 0, .int .u32 0, .int .u32 0, .int .u32 0, .int .u32 0, .int .u32 0, .int .u32 0, .int .u32 0, .int .u32 0, .int .u32 0, .int .u32 0], .slice none 0 0, .int .i64 0], []⟩ 8 (by kernel_rfl) (by kernel_rfl) (by kernel_rfl) (by kernel_rfl)) ?_
  · intro ds hds
    match ds, hds with
    | [_, _, _], _ => rfl
  intro W base args ds ps hval hA hlt hsz
  rw [Try.params3] at hA hval
  obtain ⟨v0, vs0, d0, ds0, p0, q0, hargs, rfl, rfl, h0, r0⟩ := trodAll_cons hA
  obtain ⟨v1, vs1, d1, ds1, p1, q1, rfl, rfl, rfl, h1, r1⟩ := trodAll_cons r0
  obtain ⟨v2, vs2, d2, ds2, p2, q2, rfl, rfl, rfl, h2, r2⟩ := trodAll_cons r1
  obtain ⟨rfl, rfl, rfl⟩ := trodAll_nil r2
  obtain rfl : args = #[v0, v1, v2] := by cases args; simp_all
  obtain ⟨l, rfl, hl⟩ := open_lab (hval 0 27 v0 rfl rfl) h0
  obtain ⟨As, n, cs, sb, rfl, hn, hnc, _, hb256, hby, hnone⟩ := open_bytes (hval 1 28 v1 rfl rfl) h1 (fun x hx => hlt x (by simp [hx]))
  obtain ⟨a2, rfl, rfl, rfl, w2⟩ := open_int Try.underlying3 (hval 2 3 v2 rfl rfl) h2
  exact labelback_walk l hl As n cs sb a2 W hn hnc hb256 hby hnone

theorem labelback_holds : Rows.LabelBackSaid :=
  OpenClaim.holds_of_wide 3 Try.f3 rfl rfl rfl rfl rfl rfl rfl ⟨rfl, rfl, rfl, rfl, rfl⟩ rfl rfl rfl rfl rfl (by kernel_rfl) Try.func3 (by kernel_rfl)
    (of_decide_eq_true (by kernel_rfl)) (by unfold Func.isWrapper; first | (rw [if_pos (by decide +kernel)]; kernel_rfl) | (rw [if_neg (by decide +kernel)]; exact ⟨rfl, rfl⟩))
    (fun os started H enc _ => labelback_lifted os started H enc)


end Go.Proofs.Ytpimhohballafaa
