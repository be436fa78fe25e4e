/-
msg: what must come of fixed calls.
-/
import Derived.Test.YtkigaclcmodjaaaMs7
namespace Go.Proofs.Ytkigaclcmodjaaa
open Go.RowKit
set_option linter.unusedSimpArgs false
set_option linter.unusedVariables false
namespace Mg
def l1 : Lab := Lab.mk 1 1 1 1 1 (fun _ => 0)
def s5 : St := ⟨true, 5, lv [7]⟩
def x1 : Ev := ⟨l1, ⟨4, 0, 0, 0⟩⟩
def mA : Ms := { zM 4 with se := 3 }
def mB : Ms := { zM 10 with ca := 1, ro := 2, s := s5 }
def mC : Ms := { zM 10 with se := 3 }
def mD : Ms := { zM 2 with x := x1 }
def mE : Ms := { zM 5 with se := 2, co := 9 }
def mF : Ms := { zM 1 with l := l1 }
theorem l1_right : rightL l1 = true := by unfold rightL timeB placeB nextB getN nodeB l1; decide
theorem l1_enc : encL l1 = [1, 1, 1, 1, 1, 0] := by
  have h1 : topV (fun _ => 0) 12 = 0 := by decide
  have h2 : trimV (fun _ => 0) = [] := by unfold trimV; rw [h1]; rfl
  show enc 1 ++ enc 1 ++ enc 1 ++ enc 1 ++ enc 1 ++ (enc (topV (fun _ => 0) 12) ++ encs (trimV (fun _ => 0))) = _
  rw [h1, h2, enc_lo (by decide), enc_lo (by decide)]
  rfl
theorem x1_right : rightE x1 = true := by
  unfold rightE x1
  dsimp only
  rw [l1_right]
  decide
theorem rightM_self {m : Ms} (h : partsM m = m) (hb : bodyM m = true) : rightM m = true := by unfold rightM; rw [h, (sameM_iff _ _).2 rfl, hb]; rfl
theorem mA_right : rightM mA = true := rightM_self rfl rfl
theorem mB_right : rightM mB = true := rightM_self rfl (by decide)
theorem mD_right : rightM mD = true := rightM_self rfl x1_right
theorem mE_right : rightM mE = true := rightM_self rfl rfl
theorem mF_right : rightM mF = true := rightM_self rfl l1_right
theorem mC_right : rightM mC = false := by
  unfold rightM
  rw [show bodyM mC = false from rfl, Bool.and_false]
theorem s5_enc : encSt s5 = [1, 5, 1, 7] := by
  have h1 : topV (lv [7]) 12 = 1 := by decide
  have h2 : trimV (lv [7]) = [7] := by unfold trimV; rw [h1]; rfl
  show enc 1 ++ enc 5 ++ (enc (topV (lv [7]) 12) ++ encs (trimV (lv [7]))) = _
  rw [h1, h2]
  show enc 1 ++ enc 5 ++ (enc 1 ++ (enc 7 ++ [])) = _
  rw [enc_lo (by decide), enc_lo (by decide), enc_lo (by decide)]
  rfl
theorem mA_enc : encM mA = [4, 3] := by
  show enc 4 ++ ([] ++ ([] ++ (enc 3 ++ ([] ++ [])))) = _
  rw [enc_lo (by decide), enc_lo (by decide)]
  rfl
theorem mB_enc : encM mB = [10, 1, 2, 1, 5, 1, 7] := by
  show enc 10 ++ ([] ++ ([] ++ ([] ++ ((enc 1 ++ (enc 2 ++ encSt s5)) ++ [])))) = _
  rw [s5_enc, enc_lo (by decide), enc_lo (by decide), enc_lo (by decide)]
  rfl
theorem mD_enc : encM mD = [2, 1, 1, 1, 1, 1, 0, 4] := by
  show enc 2 ++ ([] ++ ((encL l1 ++ (enc 4 ++ ([] ++ ([] ++ [])))) ++ ([] ++ ([] ++ [])))) = _
  rw [l1_enc, enc_lo (by decide), enc_lo (by decide)]
  rfl
theorem mE_enc : encM mE = [5, 2, 9] := by
  show enc 5 ++ ([] ++ ([] ++ (enc 2 ++ ([] ++ enc 9)))) = _
  rw [enc_lo (by decide), enc_lo (by decide), enc_lo (by decide)]
  rfl
theorem mF_enc : encM mF = [1, 1, 1, 1, 1, 1, 0] := by
  show enc 1 ++ (encL l1 ++ ([] ++ ([] ++ ([] ++ [])))) = _
  rw [l1_enc, enc_lo (by decide)]
  rfl
theorem l1_lt : ∀ i, l1.f i < 4294967296 := by intro i; show (0 : Nat) < _; decide
theorem s5_ok : St.Ok s5 := ⟨by decide, fun i => by
  show lv [7] i < _
  by_cases h : i < 1
  · obtain rfl : i = 0 := by omega
    decide
  · rw [lv_over (by simp; omega)]; decide⟩
theorem mA_ok : Ms.Ok mA := { ok_zero 4 with }
theorem mB_ok : Ms.Ok mB := { ok_zero 10 with s := s5_ok }
theorem mD_ok : Ms.Ok mD := { ok_zero 2 with x := l1_lt, p := by show (0 : Nat) < _; decide }
theorem mE_ok : Ms.Ok mE := { ok_zero 5 with }
theorem mF_ok : Ms.Ok mF := { ok_zero 1 with l := l1_lt }
theorem mB_read : msgP [10, 1, 2, 1, 5, 1, 7] = .ok (asM mB, []) := by rw [← mB_enc]; exact msg_yes mB_right mB_ok
theorem s5_cells : s5.cells.toArray = #[.bool true, .int .u64 5, .int .u32 7, .int .u32 0, .int .u32 0, .int .u32 0, .int .u32 0, .int .u32 0, .int .u32 0, .int .u32 0, .int .u32 0, .int .u32 0, .int .u32 0, .int .u32 0] := by
  rw [st_def]
  show ([.bool true, .int .u64 ((5 : Nat) : Int)] ++ vl (lv [7]) : List Value).toArray = _
  unfold vl
  rfl
theorem l1_cells : l1.cells.toArray = #[.int .u64 1, .int .i64 1, .int .u32 1, .int .i64 1, .int .i64 1, .int .u32 0, .int .u32 0, .int .u32 0, .int .u32 0, .int .u32 0, .int .u32 0, .int .u32 0, .int .u32 0, .int .u32 0, .int .u32 0, .int .u32 0, .int .u32 0] := by
  rw [lab_cellsD]
  show ([.int .u64 ((1 : Nat) : Int), .int .i64 1, .int .u32 ((1 : Nat) : Int), .int .i64 1, .int .i64 1] ++ vl (fun _ => 0) : List Value).toArray = _
  unfold vl
  rfl
theorem built_x1 : Try.prog.built 48 [(0, .agg l1.cells.toArray), (1, .agg #[.int .i64 4, .int .i64 0, .int .i64 0, .float .f64 0])] = some x1.cells.toArray := by
  rw [← show OpR.cells ⟨4, 0, 0, 0⟩ = [.int .i64 4, .int .i64 0, .int .i64 0, .float .f64 0] from op_cells _]
  exact Go.Proofs.Ytkigaclcmodjaaa.built_ev l1 ⟨4, 0, 0, 0⟩
theorem field_zM (w : World) : (Instr.field 50 (.agg (zM 3).cells.toArray) 0).run Try.prog w = .ok (.int .i64 3) w := by rw [zM_cells]; kernel_rfl
def BytesAt (W : World) (v : Value) (bs : List Nat) : Prop := ∃ A c, v = .slice A bs.length c ∧ bs.length ≤ c ∧ ByR W A bs ∧ (A = none → bs = [])
theorem BytesAt.next {W W' : World} {v : Value} {bs : List Nat} (h : BytesAt W v bs) (hb : Below W.heap.size W W') : BytesAt W' v bs := by
  obtain ⟨A, c, rfl, h1, h2, h3⟩ := h; exact ⟨A, c, rfl, h1, h2.next hb, h3⟩
theorem BytesAt.of {W : World} {B : Nat} {v : Value} {bs : List Nat} (h : W.ownsRow B 5 1 v bs.length (u8s bs)) : BytesAt W v bs := by
  obtain ⟨A, c, rfl, h1, h2, h3⟩ := own_byr h; exact ⟨A, c, rfl, h1, h2, h3⟩
set_option maxRecDepth 20000 in
theorem BytesAt.conv {W : World} {v : Value} {bs : List Nat} (h : BytesAt W v bs) (hb : ∀ x ∈ bs, x < 256) : (convert 61 9 v).run Try.prog W = .ok (.string (bstr bs)) W := by
  obtain ⟨A, c, rfl, h1, h2, h3⟩ := h
  exact conv_src W A bs.length c bs (h2.src h3) rfl hb
set_option maxRecDepth 100000 in
set_option maxHeartbeats 16000000 in
theorem alive23_any (W : World) : Calls Try.prog 7 #[] W fun e W' => e = .returned (.bool true) ∧ Below W.heap.size W W' := by
  go_enter Try.func7, Try.ntmps7
  go_wp2_with fail
  refine (ask_any 4 3 W).mono ?_
  rintro e w1 ⟨rfl, hb⟩
  have HB1 := Lib.hid hb
  clear hb
  go_wp2_with fail
  refine (ms_write_yes mA w1 mA_right mA_ok).mono ?_
  rintro e w2 ⟨va, rfl, hown, hb⟩
  have HB2 := Lib.hid (HB1.out.trans (hb.mono HB1.out.size))
  rw [mA_enc] at hown
  have HVA2 := Lib.hid (BytesAt.of hown)
  clear hown
  clear hb HB1
  have hbs : Try.prog.built 33 [(0, .bool true), (1, .int .u64 5), (2, .agg #[.int .u32 7, .int .u32 0, .int .u32 0, .int .u32 0, .int .u32 0, .int .u32 0, .int .u32 0, .int .u32 0, .int .u32 0, .int .u32 0, .int .u32 0, .int .u32 0])] = some s5.cells.toArray := by rw [s5_cells]; kernel_rfl
  go_wp2_with (first | (refine wpList_build_lit s5.cells.toArray rfl 33 _ rfl hbs ?_))
  clear hbs
  refine (say_any 1 2 s5 w2).mono ?_
  rintro e w3 ⟨rfl, hb⟩
  have HB3 := Lib.hid (HB2.out.trans (hb.mono HB2.out.size))
  have HVA3 := Lib.hid (HVA2.out.next hb)
  clear hb HB2 HVA2
  go_wp2_with fail
  refine (ms_write_yes mB w3 mB_right mB_ok).mono ?_
  rintro e w4 ⟨vb, rfl, hown, hb⟩
  have HB4 := Lib.hid (HB3.out.trans (hb.mono HB3.out.size))
  have HVA4 := Lib.hid (HVA3.out.next hb)
  rw [mB_enc] at hown
  have HVB4 := Lib.hid (BytesAt.of hown)
  clear hown
  clear hb HB3 HVA3
  obtain ⟨PB, cb, hvb, hcb, hPB, hPB0⟩ := HVB4.out
  have HRD := Lib.hid (msread_yes PB 7 cb w4 [10, 1, 2, 1, 5, 1, 7] rfl hcb (by decide) hPB (asM mB) mB_read)
  have hvb7 : vb = .slice PB 7 cb := hvb
  rw [asM_cells mB_right, ← hvb7] at HRD
  clear hvb hcb hPB hPB0 hvb7
  go_wp2_with fail
  refine (HRD.out).mono ?_
  rintro e w5 ⟨rfl, hb⟩
  have HB5 := Lib.hid (HB4.out.trans (hb.mono HB4.out.size))
  have HVA5 := Lib.hid (HVA4.out.next hb)
  have HVB5 := Lib.hid (HVB4.out.next hb)
  clear HRD
  clear hb HB4 HVA4 HVB4
  go_upto_region 4 with (refine wpList_store_blk rfl 50 _ _ rfl w5.heap.size 50 zmsA mB.cells.toArray rfl rfl (Blk.new' rfl) (msinfoA _) (zms_siz _) (ms_one _) ?_; intro hy)
  have hb : Below w5.heap.size w5 ((w5.alloc (.cells zmsA 50)).setRow w5.heap.size mB.cells.toArray) := below_setRow ((Below.refl _ _).alloc (Nat.le_refl _) _) (Nat.le_refl _) _
  obtain ⟨w6, hw6⟩ : ∃ w6, w6 = (w5.alloc (.cells zmsA 50)).setRow w5.heap.size mB.cells.toArray := ⟨_, rfl⟩
  have hy6 : Blk w6 w5.heap.size 50 mB.cells.toArray := by rw [hw6]; exact hy
  rw [← hw6] at hb
  obtain ⟨g5, hg5⟩ : ∃ g5, g5 = w5.heap.size := ⟨_, rfl⟩
  have HM6 := Lib.hid (show Blk w6 g5 50 mB.cells.toArray by rw [hg5]; exact hy6)
  have HB6 := Lib.hid (HB5.out.trans (hb.mono HB5.out.size))
  have HVA6 := Lib.hid (HVA5.out.next hb)
  have HVB6 := Lib.hid (HVB5.out.next hb)
  rw [← hw6, ← hg5]
  clear hw6 hy hy6 hb hg5 HB5 HVA5 HVB5
  go_wp2_with fail
  refine (ask_any 10 3 w6).mono ?_
  rintro e w7 ⟨rfl, hb⟩
  have HB7 := Lib.hid (HB6.out.trans (hb.mono HB6.out.size))
  have HVA7 := Lib.hid (HVA6.out.next hb)
  have HVB7 := Lib.hid (HVB6.out.next hb)
  have HM7 := Lib.hid (HM6.out.next hb)
  clear hb HB6 HVA6 HVB6 HM6
  go_wp2_with fail
  refine (ms_write_no mC w7 mC_right).mono ?_
  rintro e w8 ⟨rfl, hb⟩
  have HB8 := Lib.hid (HB7.out.trans (hb.mono HB7.out.size))
  have HVA8 := Lib.hid (HVA7.out.next hb)
  have HVB8 := Lib.hid (HVB7.out.next hb)
  have HM8 := Lib.hid (HM7.out.next hb)
  clear hb HB7 HVA7 HVB7 HM7
  have hbl1 : Try.prog.built 27 [(0, .int .u64 1), (1, .int .i64 1), (2, .int .u32 1), (3, .int .i64 1), (4, .int .i64 1)] = some l1.cells.toArray := by rw [l1_cells]; kernel_rfl
  go_upto_region 6 with (first | (refine wpList_build_lit l1.cells.toArray rfl 27 _ rfl hbl1 ?_) | (refine wpList_store_blk rfl 27 _ _ rfl w8.heap.size 27 #[.int .u64 0, .int .i64 0, .int .u32 0, .int .i64 0, .int .i64 0, .int .u32 0, .int .u32 0, .int .u32 0, .int .u32 0, .int .u32 0, .int .u32 0, .int .u32 0, .int .u32 0, .int .u32 0, .int .u32 0, .int .u32 0, .int .u32 0] l1.cells.toArray rfl rfl (Blk.new' rfl) (linfoA _) (lab_siz _) (lab_one _) ?_; intro hy))
  have hb : Below w8.heap.size w8 ((w8.alloc (.cells #[.int .u64 0, .int .i64 0, .int .u32 0, .int .i64 0, .int .i64 0, .int .u32 0, .int .u32 0, .int .u32 0, .int .u32 0, .int .u32 0, .int .u32 0, .int .u32 0, .int .u32 0, .int .u32 0, .int .u32 0, .int .u32 0, .int .u32 0] 27)).setRow w8.heap.size l1.cells.toArray) := below_setRow ((Below.refl _ _).alloc (Nat.le_refl _) _) (Nat.le_refl _) _
  obtain ⟨w9, hw9⟩ : ∃ w9, w9 = (w8.alloc (.cells #[.int .u64 0, .int .i64 0, .int .u32 0, .int .i64 0, .int .i64 0, .int .u32 0, .int .u32 0, .int .u32 0, .int .u32 0, .int .u32 0, .int .u32 0, .int .u32 0, .int .u32 0, .int .u32 0, .int .u32 0, .int .u32 0, .int .u32 0] 27)).setRow w8.heap.size l1.cells.toArray := ⟨_, rfl⟩
  rw [← hw9] at hb hy ⊢
  obtain ⟨g8, hg8⟩ : ∃ g8, g8 = w8.heap.size := ⟨_, rfl⟩
  rw [← hg8] at hy ⊢
  have HL9 := Lib.hid hy
  have HB9 := Lib.hid (HB8.out.trans (hb.mono HB8.out.size))
  have HVA9 := Lib.hid (HVA8.out.next hb)
  have HVB9 := Lib.hid (HVB8.out.next hb)
  have HM9 := Lib.hid (HM8.out.next hb)
  have rl := HL9.out.range
  clear hw9 hy hb hg8 HB8 HVA8 HVB8 HM8 hbl1
  go_wp2_with (first | (refine wpList_load_midg (by rfl) 27 _ rfl _ _ rfl (Lab.cells ?_) _ ?_ Try.underlying27 rfl (linfo _) ?_; rotate_left; (focus assumption)) | (refine wpList_build_lit x1.cells.toArray (by rfl) 48 [(0, _), (1, _)] rfl built_x1 ?_))
  clear rl
  refine (hand_any x1 w9).mono ?_
  rintro e w10 ⟨rfl, hb⟩
  have HB10 := Lib.hid (HB9.out.trans (hb.mono HB9.out.size))
  have HVA10 := Lib.hid (HVA9.out.next hb)
  have HVB10 := Lib.hid (HVB9.out.next hb)
  have HM10 := Lib.hid (HM9.out.next hb)
  have HL10 := Lib.hid (HL9.out.next hb)
  clear hb HB9 HVA9 HVB9 HM9 HL9
  go_wp2_with fail
  refine (ms_write_yes mD w10 mD_right mD_ok).mono ?_
  rintro e w11 ⟨vc, rfl, hown, hb⟩
  have HB11 := Lib.hid (HB10.out.trans (hb.mono HB10.out.size))
  have HVA11 := Lib.hid (HVA10.out.next hb)
  have HVB11 := Lib.hid (HVB10.out.next hb)
  have HM11 := Lib.hid (HM10.out.next hb)
  have HL11 := Lib.hid (HL10.out.next hb)
  rw [mD_enc] at hown
  have HVC11 := Lib.hid (BytesAt.of hown)
  clear hown
  clear hb HB10 HVA10 HVB10 HM10 HL10
  go_wp2_with fail
  refine (end_any 2 9 w11).mono ?_
  rintro e w12 ⟨rfl, hb⟩
  have HB12 := Lib.hid (HB11.out.trans (hb.mono HB11.out.size))
  have HVA12 := Lib.hid (HVA11.out.next hb)
  have HVB12 := Lib.hid (HVB11.out.next hb)
  have HVC12 := Lib.hid (HVC11.out.next hb)
  have HM12 := Lib.hid (HM11.out.next hb)
  have HL12 := Lib.hid (HL11.out.next hb)
  clear hb HB11 HVA11 HVB11 HVC11 HM11 HL11
  go_wp2_with fail
  refine (ms_write_yes mE w12 mE_right mE_ok).mono ?_
  rintro e w13 ⟨vd, rfl, hown, hb⟩
  have HB13 := Lib.hid (HB12.out.trans (hb.mono HB12.out.size))
  have HVA13 := Lib.hid (HVA12.out.next hb)
  have HVB13 := Lib.hid (HVB12.out.next hb)
  have HVC13 := Lib.hid (HVC12.out.next hb)
  have HM13 := Lib.hid (HM12.out.next hb)
  have HL13 := Lib.hid (HL12.out.next hb)
  rw [mE_enc] at hown
  have HVD13 := Lib.hid (BytesAt.of hown)
  clear hown
  clear hb HB12 HVA12 HVB12 HVC12 HM12 HL12
  have rl := HL13.out.range
  go_wp2_with (first | (refine wpList_load_midg (by rfl) 27 _ rfl _ _ rfl (Lab.cells ?_) _ ?_ Try.underlying27 rfl (linfo _) ?_; rotate_left; (focus assumption)))
  clear rl
  refine (of_any l1 w13).mono ?_
  rintro e w14 ⟨rfl, hb⟩
  have HB14 := Lib.hid (HB13.out.trans (hb.mono HB13.out.size))
  have HVA14 := Lib.hid (HVA13.out.next hb)
  have HVB14 := Lib.hid (HVB13.out.next hb)
  have HVC14 := Lib.hid (HVC13.out.next hb)
  have HVD14 := Lib.hid (HVD13.out.next hb)
  have HM14 := Lib.hid (HM13.out.next hb)
  clear hb HB13 HVA13 HVB13 HVC13 HVD13 HM13
  go_wp2_with fail
  refine (ms_write_yes mF w14 mF_right mF_ok).mono ?_
  rintro e w15 ⟨ve, rfl, hown, hb⟩
  have HB15 := Lib.hid (HB14.out.trans (hb.mono HB14.out.size))
  have HVA15 := Lib.hid (HVA14.out.next hb)
  have HVB15 := Lib.hid (HVB14.out.next hb)
  have HVC15 := Lib.hid (HVC14.out.next hb)
  have HVD15 := Lib.hid (HVD14.out.next hb)
  have HM15 := Lib.hid (HM14.out.next hb)
  rw [mF_enc] at hown
  have HVE15 := Lib.hid (BytesAt.of hown)
  clear hown
  clear hb HB14 HVA14 HVB14 HVC14 HVD14 HM14
  go_upto_region 9 with fail
  have ca := HVA15.out.conv (by decide)
  have cb := HVB15.out.conv (by decide)
  have cc := HVC15.out.conv (by decide)
  have cd := HVD15.out.conv (by decide)
  have ce := HVE15.out.conv (by decide)
  rw [show bstr [4, 3] = ⟨#[4, 3]⟩ by rw [bstr_lit]; rfl] at ca
  rw [show bstr [10, 1, 2, 1, 5, 1, 7] = ⟨#[10, 1, 2, 1, 5, 1, 7]⟩ by rw [bstr_lit]; rfl] at cb
  rw [show bstr [2, 1, 1, 1, 1, 1, 0, 4] = ⟨#[2, 1, 1, 1, 1, 1, 0, 4]⟩ by rw [bstr_lit]; rfl] at cc
  rw [show bstr [5, 2, 9] = ⟨#[5, 2, 9]⟩ by rw [bstr_lit]; rfl] at cd
  rw [show bstr [1, 1, 1, 1, 1, 1, 0] = ⟨#[1, 1, 1, 1, 1, 1, 0]⟩ by rw [bstr_lit]; rfl] at ce
  obtain ⟨_, _, _, rs, _, _, _, _, k4⟩ := ms_all HM15.out
  have k44 := rs 1 _ (st_1 s5)
  clear rs HVA15 HVB15 HVC15 HVD15 HVE15 HM15
  have k4' : w15.cell? ⟨g5, 4, none⟩ = some (.int .i64 2) := k4
  have k44' : w15.cell? ⟨g5, 44, none⟩ = some (.int .u64 5) := k44
  clear k4 k44
  have HPT := Lib.hid (part_any Ev.zero w15)
  rw [show ({ zM 3 with x := Ev.zero } : Ms) = zM 3 from rfl] at HPT
  have hfd := field_zM
  simp only [List.append_eq, List.cons_append, List.nil_append]
  go_wp2_with (first | (refine wpList_build_lit Ev.zero.cells.toArray rfl 48 _ rfl built_ez ?_) | (go_at_call 13; refine HPT.out.mono ?_; rintro e w16 ⟨rfl, hb⟩; have HB16 := Lib.hid (HB15.out.trans (hb.mono HB15.out.size)); clear hb HPT))
  go_ret
  exact ⟨rfl, HB16.out⟩
end Mg
end Go.Proofs.Ytkigaclcmodjaaa
