/-
The fixed calls of layer 6: all hold.
-/
import Derived.Test.YtpimhohballafaaOp7
namespace Go.Proofs.Ytpimhohballafaa
open Go.RowKit

def fO : OpR := OpR.mk 1 5 2 0
def gO : OpR := OpR.mk 4 1 0 0
def hO4 : OpR := OpR.mk 4 0 0 0
def iO : OpR := OpR.mk 6 1 0 0
def fE : Ev := ⟨aL, fO⟩
def gE : Ev := ⟨aL, gO⟩
theorem fO_may : mayO fO = true := by decide
theorem gO_may : mayO gO = false := by decide
theorem fO_cust : custO fO = true := by decide
theorem iO_cust : custO iO = false := by decide
theorem fE_right : rightE fE = true := by
  unfold rightE fE
  dsimp only
  rw [aL_right, fO_may, show aL.se = 4 by unfold aL; rfl]
  decide
theorem gE_right : rightE gE = false := by
  unfold rightE gE
  dsimp only
  rw [gO_may, Bool.and_false, Bool.and_false]
theorem aL_lt : ∀ i, aL.f i < 4294967296 := by intro i; unfold aL; dsimp only; omega
theorem aL_enc : encL aL = [3, 2, 1, 1, 4, 0] := by
  have h1 : topV (fun _ => 0) 12 = 0 := by decide
  have h2 : trimV (fun _ => 0) = [] := by unfold trimV; rw [h1]; rfl
  have e : aL = Lab.mk 3 2 1 1 4 (fun _ => 0) := by unfold aL; rfl
  rw [e]
  show enc 3 ++ enc 2 ++ enc 1 ++ enc 1 ++ enc 4 ++ (enc (topV (fun _ => 0) 12) ++ encs (trimV (fun _ => 0))) = _
  rw [h1, h2, enc_lo (by decide), enc_lo (by decide), enc_lo (by decide), enc_lo (by decide), enc_lo (by decide)]
  rfl
theorem fE_enc : encE fE = [3, 2, 1, 1, 4, 0, 1, 5, 4] := by
  unfold encE fE
  dsimp only
  rw [aL_enc]
  show [3, 2, 1, 1, 4, 0] ++ (enc 1 ++ (enc 5 ++ (enc 4 ++ []))) = _
  rw [enc_lo (by decide), enc_lo (by decide), enc_lo (by decide)]
  rfl
theorem hO4_enc : encO hO4 = [4] := by
  show enc 4 ++ ([] ++ ([] ++ [])) = _
  rw [enc_lo (by decide)]
  rfl
theorem fO_lit : fO.cells.toArray = #[.int .i64 1, .int .i64 5, .int .i64 2, .float .f64 0] := op_arr fO
theorem gO_lit : gO.cells.toArray = #[.int .i64 4, .int .i64 1, .int .i64 0, .float .f64 0] := op_arr gO
theorem hO4_lit : hO4.cells.toArray = #[.int .i64 4, .int .i64 0, .int .i64 0, .float .f64 0] := op_arr hO4
theorem iO_lit : iO.cells.toArray = #[.int .i64 6, .int .i64 1, .int .i64 0, .float .f64 0] := op_arr iO
theorem built_fE : Try.prog.built 61 [(0, .agg aL.cells.toArray), (1, .agg #[.int .i64 1, .int .i64 5, .int .i64 2, .float .f64 0])] = some fE.cells.toArray := by rw [← fO_lit]; exact built_ev aL fO
theorem built_gE : Try.prog.built 61 [(0, .agg aL.cells.toArray), (1, .agg #[.int .i64 4, .int .i64 1, .int .i64 0, .float .f64 0])] = some gE.cells.toArray := by rw [← gO_lit]; exact built_ev aL gO
theorem hO4_ok : hO4.Ok := ⟨by decide, by decide, by decide, by decide, by decide, by decide, by decide⟩
theorem fE_read : evP [3, 2, 1, 1, 4, 0, 1, 5, 4] = .ok (asReadE fE, []) := by
  rw [← fE_enc]
  exact ev_yes fE_right aL_lt (by decide)
theorem eqL_self' (l : Lab) : eqL l l = true := eqL_self l
theorem sameE_self (x : Ev) : sameE x x = true := by unfold sameE; rw [eqL_self, sameO_self]; rfl
/-- A box of a fixed label. -/
def fixA (W : World) : World := (W.alloc (.cells #[.int .u64 0, .int .i64 0, .int .u32 0, .int .i64 0, .int .i64 0, .int .u32 0, .int .u32 0, .int .u32 0, .int .u32 0, .int .u32 0, .int .u32 0, .int .u32 0, .int .u32 0, .int .u32 0, .int .u32 0, .int .u32 0, .int .u32 0] 27)).setRow W.heap.size aL.cells.toArray
theorem fixA_size (W : World) : (fixA W).heap.size = W.heap.size + 1 := by simp [fixA]
theorem fixA_below (W : World) : Below W.heap.size W (fixA W) := below_setRow ((Below.refl _ W).alloc (Nat.le_refl _) _) (Nat.le_refl _) _
theorem fixA_a (W : World) : Blk (fixA W) W.heap.size 27 aL.cells.toArray := (Blk.new W _ _).setRow _
attribute [irreducible] fixA fO gO hO4 iO fE gE

set_option maxRecDepth 100000 in
set_option maxHeartbeats 8000000 in
theorem alive6_any (W : World) : Calls Try.prog 21 #[] W fun e W' => e = .returned (.bool true) ∧ Below W.heap.size W W' := by
  have hz0 := Blk.new W 27 #[.int .u64 0, .int .i64 0, .int .u32 0, .int .i64 0, .int .i64 0, .int .u32 0, .int .u32 0, .int .u32 0, .int .u32 0, .int .u32 0, .int .u32 0, .int .u32 0, .int .u32 0, .int .u32 0, .int .u32 0, .int .u32 0, .int .u32 0]
  have HFX := Lib.hid (show ∀ P : World → Prop, P (fixA W) → P ((W.alloc (.cells #[.int .u64 0, .int .i64 0, .int .u32 0, .int .i64 0, .int .i64 0, .int .u32 0, .int .u32 0, .int .u32 0, .int .u32 0, .int .u32 0, .int .u32 0, .int .u32 0, .int .u32 0, .int .u32 0, .int .u32 0, .int .u32 0, .int .u32 0] 27)).setRow W.heap.size aL.cells.toArray) from fun P h => by unfold fixA at h; exact h)
  go_enter Try.func21, Try.ntmps21
  go_wp2_with (first | (refine wpList_store_blk rfl 27 _ _ rfl W.heap.size 27 _ aL.cells.toArray rfl (by rw [aL_cells]; rfl) hz0 (linfoA _) (lab_siz _) (lab_one _) ?_; intro ha; refine HFX.out (fun w => wpList _ _ _ _ _ w) ?_; obtain ⟨w0, hw0⟩ : ∃ w0, w0 = fixA W := ⟨_, rfl⟩; have HA0 := Lib.hid (fixA_a W); have HW0 := Lib.hid (fixA_below W); rw [← hw0] at HA0 HW0 ⊢; have ra := HA0.out.range; clear hw0 ha hz0 HFX) | (refine wpList_load_midg (by rfl) 27 _ rfl _ _ rfl (Lab.cells ?_) _ ?_ Try.underlying27 rfl (linfo _) ?_; rotate_left; (focus assumption)) | (refine wpList_build_lit fE.cells.toArray (by rfl) 61 [(0, _), (1, _)] rfl built_fE ?_) | (refine wpList_store_blk rfl 61 _ _ rfl (w0).heap.size 61 #[.int .u64 0, .int .i64 0, .int .u32 0, .int .i64 0, .int .i64 0, .int .u32 0, .int .u32 0, .int .u32 0, .int .u32 0, .int .u32 0, .int .u32 0, .int .u32 0, .int .u32 0, .int .u32 0, .int .u32 0, .int .u32 0, .int .u32 0, .int .i64 0, .int .i64 0, .int .i64 0, .float .f64 0] fE.cells.toArray rfl rfl (Blk.new' rfl) (einfoA _) (ev_siz _) (ev_one _) ?_; intro hy; have hbn : Below (w0).heap.size w0 (((w0).alloc (.cells #[.int .u64 0, .int .i64 0, .int .u32 0, .int .i64 0, .int .i64 0, .int .u32 0, .int .u32 0, .int .u32 0, .int .u32 0, .int .u32 0, .int .u32 0, .int .u32 0, .int .u32 0, .int .u32 0, .int .u32 0, .int .u32 0, .int .u32 0, .int .i64 0, .int .i64 0, .int .i64 0, .float .f64 0] 61)).setRow (w0).heap.size fE.cells.toArray) := below_setRow ((Below.refl _ _).alloc (Nat.le_refl _) _) (Nat.le_refl _) _; obtain ⟨w1, hnw⟩ : ∃ w1, w1 = (((w0).alloc (.cells #[.int .u64 0, .int .i64 0, .int .u32 0, .int .i64 0, .int .i64 0, .int .u32 0, .int .u32 0, .int .u32 0, .int .u32 0, .int .u32 0, .int .u32 0, .int .u32 0, .int .u32 0, .int .u32 0, .int .u32 0, .int .u32 0, .int .u32 0, .int .i64 0, .int .i64 0, .int .i64 0, .float .f64 0] 61)).setRow (w0).heap.size fE.cells.toArray) := ⟨_, rfl⟩; rw [← hnw] at hbn hy ⊢; clear hnw; have re := hy.range) | (refine wpList_load_midg (by rfl) 61 _ rfl _ _ rfl (Ev.cells ?_) _ ?_ Try.underlying61 rfl (einfo _) ?_; rotate_left; (focus assumption)))
  have HA1 := Lib.hid (HA0.out.next hbn)
  have HE1 := Lib.hid hy
  have HW1 := Lib.hid (HW0.out.trans (hbn.mono HW0.out.size))
  clear hbn hy HA0 HW0 ra re
  refine (evwrite_yes fE w1 fE_right (by unfold fE; exact aL_lt) (by unfold fE fO; decide)).mono ?_
  rintro e w2 ⟨v1, rfl, hown, hb⟩
  rw [fE_enc] at hown
  obtain ⟨A, c, rfl, hc, hA, hA0⟩ := own_byr hown
  have HC := Lib.hid (show 9 ≤ c from hc)
  have HBY2 := Lib.hid hA
  have HN := Lib.hid hA0
  have HW2 := Lib.hid (HW1.out.trans (hb.mono HW1.out.size))
  have HA2 := Lib.hid (HA1.out.next hb)
  have HE2 := Lib.hid (HE1.out.next hb)
  clear hown hc hA hA0 hb HA1 HE1 HW1
  rw [show List.length [3, 2, 1, 1, 4, 0, 1, 5, 4] = 9 from rfl]
  go_wp2_with fail
  refine (evread_yes A 9 c w2 [3, 2, 1, 1, 4, 0, 1, 5, 4] rfl HC.out (by decide) HBY2.out (asReadE fE) fE_read).mono ?_
  rintro e w3 ⟨rfl, hb⟩
  rw [(asReadE_same fE).2.2]
  have HW3 := Lib.hid (HW2.out.trans (hb.mono HW2.out.size))
  have HA3 := Lib.hid (HA2.out.next hb)
  have HE3 := Lib.hid (HE2.out.next hb)
  have HBY3 := Lib.hid (HBY2.out.next hb)
  clear hb HW2 HA2 HE2 HBY2
  go_wp2_with (first | (refine wpList_store_blk rfl 61 _ _ rfl (w3).heap.size 61 #[.int .u64 0, .int .i64 0, .int .u32 0, .int .i64 0, .int .i64 0, .int .u32 0, .int .u32 0, .int .u32 0, .int .u32 0, .int .u32 0, .int .u32 0, .int .u32 0, .int .u32 0, .int .u32 0, .int .u32 0, .int .u32 0, .int .u32 0, .int .i64 0, .int .i64 0, .int .i64 0, .float .f64 0] fE.cells.toArray rfl rfl (Blk.new' rfl) (einfoA _) (ev_siz _) (ev_one _) ?_; intro hy; have hbn : Below (w3).heap.size w3 (((w3).alloc (.cells #[.int .u64 0, .int .i64 0, .int .u32 0, .int .i64 0, .int .i64 0, .int .u32 0, .int .u32 0, .int .u32 0, .int .u32 0, .int .u32 0, .int .u32 0, .int .u32 0, .int .u32 0, .int .u32 0, .int .u32 0, .int .u32 0, .int .u32 0, .int .i64 0, .int .i64 0, .int .i64 0, .float .f64 0] 61)).setRow (w3).heap.size fE.cells.toArray) := below_setRow ((Below.refl _ _).alloc (Nat.le_refl _) _) (Nat.le_refl _) _; obtain ⟨w4, hnw⟩ : ∃ w4, w4 = (((w3).alloc (.cells #[.int .u64 0, .int .i64 0, .int .u32 0, .int .i64 0, .int .i64 0, .int .u32 0, .int .u32 0, .int .u32 0, .int .u32 0, .int .u32 0, .int .u32 0, .int .u32 0, .int .u32 0, .int .u32 0, .int .u32 0, .int .u32 0, .int .u32 0, .int .i64 0, .int .i64 0, .int .i64 0, .float .f64 0] 61)).setRow (w3).heap.size fE.cells.toArray) := ⟨_, rfl⟩; rw [← hnw] at hbn hy ⊢; clear hnw; have ra := (HA3.out.next hbn).range) | (refine wpList_load_midg (by rfl) 27 _ rfl _ _ rfl (Lab.cells ?_) _ ?_ Try.underlying27 rfl (linfo _) ?_; rotate_left; (focus assumption)) | (refine wpList_build_lit gE.cells.toArray (by rfl) 61 [(0, _), (1, _)] rfl built_gE ?_))
  have HW4 := Lib.hid (HW3.out.trans (hbn.mono HW3.out.size))
  have HE4 := Lib.hid (HE3.out.next hbn)
  have HBY4 := Lib.hid (HBY3.out.next hbn)
  have HY4 := Lib.hid hy
  clear hbn hy ra HW3 HE3 HBY3 HA3
  refine (evwrite_no gE w4 gE_right).mono ?_
  rintro e w5 ⟨rfl, hb⟩
  have HW5 := Lib.hid (HW4.out.trans (hb.mono HW4.out.size))
  have HE5 := Lib.hid (HE4.out.next hb)
  have HBY5 := Lib.hid (HBY4.out.next hb)
  have HY5 := Lib.hid (HY4.out.next hb)
  clear hb HW4 HE4 HBY4 HY4
  go_wp2_with fail
  refine (new_any w5).mono ?_
  rintro e w6 ⟨rfl, hwt, hb⟩
  have HB6 := Lib.hid hb
  have HT6 := Lib.hid hwt
  clear hb hwt
  have HPO := Lib.hid (putop_any w5.heap.size w5.heap.size hO4 [] w6 HT6.out hO4_ok (by decide))
  rw [hO4_lit, hO4_enc, List.nil_append] at HPO
  go_wp2_with fail
  refine HPO.out.mono ?_
  rintro e w7 ⟨rfl, hwt, hwr⟩
  have hb57 := HB6.out.trans hwr.1
  have HW7 := Lib.hid (HW5.out.trans (hb57.mono HW5.out.size))
  have HE7 := Lib.hid (HE5.out.next hb57)
  have HY7 := Lib.hid (HY5.out.next hb57)
  have re7 := HE7.out.range
  have ry7 := HY7.out.range
  have HT7 := Lib.hid hwt
  have cv := conv_src w7 A 9 c [3, 2, 1, 1, 4, 0, 1, 5, 4] ((HBY5.out.next hb57).src HN.out) rfl (by decide)
  rw [show bstr [3, 2, 1, 1, 4, 0, 1, 5, 4] = ⟨#[3, 2, 1, 1, 4, 0, 1, 5, 4]⟩ by rw [bstr_lit]; rfl] at cv
  clear hwt hwr hb57 HB6 HT6 HPO HW5 HE5 HBY5 HY5
  go_wp2_with (first | (refine wpList_load_midg (by rfl) 61 _ rfl _ _ rfl (Ev.cells ?_) _ ?_ Try.underlying61 rfl (einfo _) ?_; rotate_left; (focus assumption)))
  have HSA := Lib.hid (esame_any fE w7 fE)
  rw [sameE_self] at HSA
  refine HSA.out.mono ?_
  rintro e w8 ⟨rfl, hb⟩
  have HW8 := Lib.hid (HW7.out.trans (hb.mono HW7.out.size))
  have HE8 := Lib.hid (HE7.out.next hb)
  have HT8 := Lib.hid (HT7.out.next hb)
  clear hb re7 ry7 cv HSA HW7 HE7 HY7 HT7
  go_wp2_with fail
  refine (bytes_any w5.heap.size w5.heap.size [4] w8 HT8.out (by decide)).mono ?_
  rintro e w9 ⟨v9, rfl, hown, hb⟩
  obtain ⟨A9, c9, rfl, hc9, hA9, hA90⟩ := own_byr hown
  have HW9 := Lib.hid (HW8.out.trans (hb.mono HW8.out.size))
  have HE9 := Lib.hid (HE8.out.next hb)
  have cv := conv_src w9 A9 1 c9 [4] (hA9.src hA90) rfl (by decide)
  rw [show bstr [4] = ⟨#[4]⟩ by rw [bstr_lit]; rfl] at cv
  obtain ⟨_, _, ro9, _⟩ := ev_all HE9.out
  rw [show fE.o = fO by unfold fE; rfl] at ro9
  rw [show List.length [4] = 1 from rfl]
  clear hb hown hc9 hA9 hA90 HW8 HE8 HT8
  go_wp2_with (first | (refine wpList_load_midg (by rfl) 59 _ rfl _ _ rfl (OpR.cells ?_) _ ?_ Try.underlying59 rfl (oinfo _) ?_; rotate_left; (focus assumption)))
  have HCU := Lib.hid (customers_any fO w9)
  rw [fO_cust] at HCU
  refine HCU.out.mono ?_
  rintro e w10 ⟨rfl, hb⟩
  have HW10 := Lib.hid (HW9.out.trans (hb.mono HW9.out.size))
  clear hb HCU HW9 HE9 ro9 cv
  have HCV := Lib.hid (customers_any iO w10)
  rw [iO_cust, iO_lit] at HCV
  go_wp2_with fail
  refine HCV.out.mono ?_
  rintro e w11 ⟨rfl, hb⟩
  have HW11 := Lib.hid (HW10.out.trans (hb.mono HW10.out.size))
  clear hb HCV HW10
  go_wp2_with fail
  go_ret
  exact ⟨rfl, HW11.out⟩
end Go.Proofs.Ytpimhohballafaa
