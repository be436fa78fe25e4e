/-
input: the fixed test of each law.
-/
import Derived.Test.YtgnfachjobohoaaGreatIn7
namespace Go.Proofs.YtgnfachjobohoaaGreat
open Go.RowKit Go.ChangeShapes Go.WideShapes Go.ChangeAt
set_option linter.unusedSimpArgs false
set_option linter.unusedVariables false
namespace In
theorem write_byr (m : Iv) (W : World) (hxo : m.x.Ok W) (ho : m.Ok) (hr : rightI m = true) (hlen : (encI m).length ≤ 1800) : Calls Tryz.prog 7 #[.agg m.cells.toArray] W fun e W' => ∃ A c, e = .returned (.tuple #[.slice A (encI m).length c, .int .i64 0]) ∧ (encI m).length ≤ c ∧ Byt.ByR W' A (encI m) ∧ (A = none → encI m = []) ∧ Below W.heap.size W W' := by
  refine (write_yes m W hxo ho hr hlen).mono ?_
  rintro e W' ⟨v, rfl, hown, hb⟩
  obtain ⟨A, c, rfl, h1, h2, h3⟩ := Byt.own_byr hown
  exact ⟨A, c, rfl, h1, h2, h3, hb⟩
def aI : Iv := { zI 2 with se := 3 }
def bO : OpR := ⟨4, 0, 0, 0⟩
def bI : Iv := { zI 1 with ca := 2, se := 3, t := 4, o := bO }
def cI : Iv := { zI 2 with se := 3, ca := 1 }
theorem aI_right : rightI aI = true := by decide +kernel
theorem bI_right : rightI bI = true := by decide +kernel
theorem cI_right : rightI cI = false := by decide +kernel
theorem aI_enc : encI aI = [2, 3] := by decide +kernel
theorem bI_enc : encI bI = [1, 2, 3, 0, 4, 4] := by decide +kernel
theorem aI_ok : aI.Ok := { ok_zero 2 with }
theorem bI_ok : bI.Ok := ⟨fun i => by show (0 : Nat) < _; decide, by show (4 : Nat) < _; decide, by show (0 : Nat) < _; decide⟩
theorem bI_read : inP [1, 2, 3, 0, 4, 4] = .ok (asI bI, []) := by rw [← bI_enc]; exact in_yes bI_right bI_ok (fun y hy => by cases hy) (by rw [bI_enc]; decide)
theorem nil_read : ∀ l, inP [] ≠ .ok (l, []) := by
  intro l e
  rw [inP_def] at e
  have : smallP 6 [] = .error 8 := rfl
  rw [bindP_err this] at e
  cases e
theorem built_aI : Tryz.prog.built 48 [(0, .int .i64 2), (2, .int .i64 3)] = some aI.cells.toArray := by
  rw [built_fillI, fill_k, fill_se, Instr.fill]; rfl
theorem built_cI : Tryz.prog.built 48 [(0, .int .i64 2), (2, .int .i64 3), (1, .int .i64 1)] = some cI.cells.toArray := by
  rw [built_fillI, fill_k, fill_se, fill_ca, Instr.fill]; rfl
theorem built_bO : Tryz.prog.built 46 [(0, .int .i64 4)] = some bO.cells.toArray := by rw [op_arr]; kernel_rfl
theorem built_bI : Tryz.prog.built 48 [(0, .int .i64 1), (1, .int .i64 2), (2, .int .i64 3), (5, .int .u64 4), (6, .agg bO.cells.toArray)] = some bI.cells.toArray := by
  rw [built_fillI, fill_k, fill_ca, fill_se, show (Value.int .u64 4) = .int .u64 ((4 : Nat) : Int) from rfl, fill_t, fill_o, Instr.fill]; rfl
theorem conv_byr {w : World} {A : Option Addr} {c n : Nat} {bs : List Nat} (h : Byt.ByR w A bs) (hA : A = none → bs = []) (hb : ∀ y ∈ bs, y < 256) (hn : bs.length = n) : (convert 28 9 (.slice A n c)).run Tryz.prog w = .ok (.string (Byt.bstr bs)) w :=
  Byt.conv_src w A n c bs (hn ▸ h.src hA) hn hb
def newI (w : World) (m : Iv) : World := (w.alloc (.cells zinA 48)).setRow w.heap.size m.cells.toArray
theorem newI_below (w : World) (m : Iv) : Below w.heap.size w (newI w m) := below_setRow ((Below.refl _ w).alloc (Nat.le_refl _) _) (Nat.le_refl _) _
theorem newI_blk (w : World) (m : Iv) : Blk (newI w m) w.heap.size 48 m.cells.toArray := (Blk.new w _ _).setRow _
set_option maxRecDepth 20000 in
set_option maxHeartbeats 8000000 in
theorem alive26_any (W : World) : Calls Tryz.prog 5 #[] W fun e W' => e = .returned (.bool true) ∧ Below W.heap.size W W' := by
  have HWA := Lib.hid (write_byr aI W (zx_ok W) aI_ok aI_right (by rw [aI_enc]; decide))
  rw [aI_enc] at HWA
  go_enter Tryz.func5, Tryz.ntmps5
  go_upto_region 2 with (first | (refine wpList_build_lit aI.cells.toArray rfl 48 _ rfl built_aI ?_) | (go_at_call 7; refine HWA.out.mono ?_; rintro e w1 ⟨A1, c1, rfl, hc, hy, hn, hb⟩; have H1 := Lib.hid (And.intro hb (And.intro hc (And.intro hy hn))); clear hb hc hy hn HWA))
  go_upto_region 3 with (first | (refine wpList_build_lit bO.cells.toArray rfl 46 _ rfl built_bO ?_) | (refine wpList_build_lit bI.cells.toArray rfl 48 _ rfl built_bI ?_) | (refine wpList_store_blk rfl 48 _ _ rfl w1.heap.size 48 zinA bI.cells.toArray rfl rfl (Blk.new' rfl) (ivinfoA _) (zin_siz _) (iv_one _) ?_; intro hy))
  obtain ⟨w2, hw2⟩ : ∃ w2, w2 = newI w1 bI := ⟨_, rfl⟩
  have hb2 := newI_below w1 bI
  have hx2 := newI_blk w1 bI
  rw [show ((w1.alloc (.cells zinA 48)).setRow w1.heap.size bI.cells.toArray) = w2 from hw2.symm]
  rw [← hw2] at hb2 hx2
  have H2 := Lib.hid (And.intro hb2 hx2)
  clear hw2 hb2 hx2 hy
  have HWB := Lib.hid (write_byr bI w2 (zx_ok w2) bI_ok bI_right (by rw [bI_enc]; decide))
  rw [bI_enc] at HWB
  obtain ⟨p, hp⟩ : ∃ p, p = w1.heap.size := ⟨_, rfl⟩
  rw [← hp] at H2 ⊢
  have HPE := Lib.hid hp
  clear hp
  have rgl := H2.out.2.range
  go_upto_region 4 with (first | (refine wpList_load_midg (by rfl) 48 _ rfl _ _ rfl (Iv.cells ?_) _ ?_ Tryz.underlying48 rfl (ivinfo _) ?_; rotate_left; (focus assumption)) | (go_at_call 7; refine HWB.out.mono ?_; rintro e w3 ⟨A3, c3, rfl, hc, hy, hn, hb⟩; have H3 := Lib.hid (And.intro hb (And.intro hc (And.intro hy hn))); clear hb hc hy hn HWB rgl))
  have HRD := Lib.hid (inread_yes A3 6 c3 w3 [1, 2, 3, 0, 4, 4] rfl H3.out.2.1 (by decide) H3.out.2.2.1 (by decide) (asI bI) bI_read)
  go_upto_region 5 with (first | (go_at_call 9; refine HRD.out.mono ?_; rintro e w4 ⟨A4, c4, rfl, hok, hb⟩; have H4 := Lib.hid (And.intro hb hok); clear hb hok HRD) | (refine wpList_store_blk rfl 48 _ _ rfl w4.heap.size 48 zinA ((asI bI).at A4 c4).cells.toArray rfl rfl (Blk.new' rfl) (ivinfoA _) (zin_siz _) (iv_one _) ?_; intro hy))
  obtain ⟨yI, hyI⟩ : ∃ y, y = (asI bI).at A4 c4 := ⟨_, rfl⟩
  rw [← hyI] at hy H4 ⊢
  have HS8 := Lib.hid (show sameI bI yI = true by rw [hyI, sameI_iff]; exact ((at_8 _ _ _).trans (asI_8 bI_right)).symm)
  obtain ⟨w5, hw5⟩ : ∃ w5, w5 = newI w4 yI := ⟨_, rfl⟩
  have hb5 := newI_below w4 yI
  have hx5 := newI_blk w4 yI
  rw [show ((w4.alloc (.cells zinA 48)).setRow w4.heap.size yI.cells.toArray) = w5 from hw5.symm]
  rw [← hw5] at hb5 hx5
  have hb25 : Below w2.heap.size w2 w5 := H3.out.1.trans ((H4.out.1.trans (hb5.mono H4.out.1.size)).mono H3.out.1.size)
  have hb35 : Below w3.heap.size w3 w5 := H4.out.1.trans (hb5.mono H4.out.1.size)
  have H5 := Lib.hid (And.intro hb25 (And.intro hb35 (And.intro hx5 (H4.out.2.next hb5))))
  obtain ⟨q, hq⟩ : ∃ q, q = w4.heap.size := ⟨_, rfl⟩
  rw [← hq] at H5 ⊢
  clear hw5 hb5 hx5 hy hyI hb25 hb35 hq H4
  have HWC := Lib.hid (write_no cI w5 (zx_ok w5) cI_right)
  go_upto_region 6 with (first | (refine wpList_build_lit cI.cells.toArray rfl 48 _ rfl built_cI ?_) | (go_at_call 7; refine HWC.out.mono ?_; rintro e w6 ⟨rfl, hb⟩; have H6 := Lib.hid hb; clear hb HWC))
  have HRN := Lib.hid (inread_no none 0 0 w6 [] rfl (by decide) (by simp) (Or.inl rfl) (by decide) nil_read)
  go_upto_region 7 with (first | (go_at_call 9; refine HRN.out.mono ?_; rintro e w7 ⟨rfl, hb⟩; have H7 := Lib.hid (H6.out.trans (hb.mono H6.out.size)); clear hb HRN) | (refine wpList_store_blk rfl 48 _ _ rfl w7.heap.size 48 zinA zinA rfl rfl (Blk.new' rfl) zin_sz rfl zin_one ?_; intro hy))
  have hb8 : Below w7.heap.size w7 ((w7.alloc (.cells zinA 48)).setRow w7.heap.size zinA) := below_setRow ((Below.refl _ w7).alloc (Nat.le_refl _) _) (Nat.le_refl _) _
  obtain ⟨w8, hw8⟩ : ∃ w8, w8 = ((w7.alloc (.cells zinA 48)).setRow w7.heap.size zinA) := ⟨_, rfl⟩
  rw [← hw8] at hb8 ⊢
  have H8 := Lib.hid (show Below w5.heap.size w5 w8 from H7.out.trans (hb8.mono H7.out.size))
  clear hw8 hb8 hy H6 H7
  have hb38 := H5.out.2.1.trans (H8.out.mono H5.out.2.1.size)
  have hb28 := H5.out.1.trans (H8.out.mono H5.out.1.size)
  have h21 : Below w1.heap.size w1 w2 := by rw [← HPE.out]; exact H2.out.1
  have hb18 : Below w1.heap.size w1 w8 := h21.trans (hb28.mono h21.size)
  have cv1 := conv_byr (c := c1) (n := 2) (H1.out.2.2.1.next hb18) H1.out.2.2.2 (by decide) rfl
  have cv3 := conv_byr (c := c3) (n := 6) (H3.out.2.2.1.next hb38) H3.out.2.2.2 (by decide) rfl
  rw [Byt.bstr_lit] at cv1 cv3
  have rp := (H2.out.2.next hb28).range
  have rq := (H5.out.2.2.1.next H8.out).range
  have HSM := Lib.hid (same_any bI yI w8 (zx_ok w8) (H5.out.2.2.2.next H8.out))
  rw [HS8.out] at HSM
  have HF := Lib.hid (H1.out.1.trans (hb18.mono H1.out.1.size))
  clear hb38 hb28 hb18 h21 H1 H2 H3 H5 H8
  go_wp2_with (first | (refine wpList_load_midg (by rfl) 48 _ rfl p 0 rfl bI.cells _ rp Tryz.underlying48 rfl (ivinfo _) ?_) | (refine wpList_load_midg (by rfl) 48 _ rfl q 0 rfl yI.cells _ rq Tryz.underlying48 rfl (ivinfo _) ?_) | (go_at_call 13; refine HSM.out.mono ?_; rintro e w9 ⟨rfl, hb⟩; have HF9 := Lib.hid (HF.out.trans (hb.mono HF.out.size)); clear hb HSM))
  go_ret
  exact ⟨rfl, HF9.out⟩
end In
end Go.Proofs.YtgnfachjobohoaaGreat
