/-
input: the fixed test of each law.
InputApart holds: of two inputs that may be, and whose bytes are not too many, the bytes begin with the kind, and are the same just if the inputs are equal. No condition.
InputBack holds: inputs go there and back, in one way alone; cut anywhere, or with one byte more, their bytes are none. No condition.
-/
import Derived.Test.YtgnfachjobohoaaIn7
namespace Go.Proofs.Ytgnfachjobohoaa
open Go.RowKit Go.ChangeShapes Go.WideShapes Go.ChangeAt
set_option linter.unusedSimpArgs false
set_option linter.unusedVariables false
namespace In
theorem write_byr (m : Iv) (W : World) (hxo : m.x.Ok W) (ho : m.Ok) (hr : rightI m = true) (hlen : (encI m).length ≤ 1800) : Calls Try.prog 7 #[.agg m.cells.toArray] W fun e W' => ∃ A c, e = .returned (.tuple #[.slice A (encI m).length c, .int .i64 0]) ∧ (encI m).length ≤ c ∧ Byt.ByR W' A (encI m) ∧ (A = none → encI m = []) ∧ Below W.heap.size W W' := by
  refine (write_yes m W hxo ho hr hlen).mono ?_
  rintro e W' ⟨v, rfl, hown, hb⟩
  obtain ⟨A, c, rfl, h1, h2, h3⟩ := Byt.own_byr hown
  exact ⟨A, c, rfl, h1, h2, h3, hb⟩
def aI : Iv := { zI 2 with se := 3 }
def bO : OpR := ⟨4, 0, 0, 0⟩
def bI : Iv := { zI 1 with ca := 2, se := 3, t := 4, o := bO }
def cI : Iv := { zI 2 with se := 3, ca := 1 }
theorem aI_right : rightI aI = true := by decide +kernel
theorem bI_right : rightI bI = true := by decide +kernel
theorem cI_right : rightI cI = false := by decide +kernel
theorem aI_enc : encI aI = [2, 3] := by decide +kernel
theorem bI_enc : encI bI = [1, 2, 3, 0, 4, 4] := by decide +kernel
theorem aI_ok : aI.Ok := { ok_zero 2 with }
theorem bI_ok : bI.Ok := ⟨fun i => by show (0 : Nat) < _; decide, by show (4 : Nat) < _; decide, by show (0 : Nat) < _; decide⟩
theorem bI_read : inP [1, 2, 3, 0, 4, 4] = .ok (asI bI, []) := by rw [← bI_enc]; exact in_yes bI_right bI_ok (fun y hy => by cases hy) (by rw [bI_enc]; decide)
theorem nil_read : ∀ l, inP [] ≠ .ok (l, []) := by
  intro l e
  rw [inP_def] at e
  have : smallP 6 [] = .error 8 := rfl
  rw [bindP_err this] at e
  cases e
theorem built_aI : Try.prog.built 42 [(0, .int .i64 2), (2, .int .i64 3)] = some aI.cells.toArray := by
  rw [built_fillI, fill_k, fill_se, Instr.fill]; rfl
theorem built_cI : Try.prog.built 42 [(0, .int .i64 2), (2, .int .i64 3), (1, .int .i64 1)] = some cI.cells.toArray := by
  rw [built_fillI, fill_k, fill_se, fill_ca, Instr.fill]; rfl
theorem built_bO : Try.prog.built 40 [(0, .int .i64 4)] = some bO.cells.toArray := by rw [op_arr]; kernel_rfl
theorem built_bI : Try.prog.built 42 [(0, .int .i64 1), (1, .int .i64 2), (2, .int .i64 3), (5, .int .u64 4), (6, .agg bO.cells.toArray)] = some bI.cells.toArray := by
  rw [built_fillI, fill_k, fill_ca, fill_se, show (Value.int .u64 4) = .int .u64 ((4 : Nat) : Int) from rfl, fill_t, fill_o, Instr.fill]; rfl
theorem conv_byr {w : World} {A : Option Addr} {c n : Nat} {bs : List Nat} (h : Byt.ByR w A bs) (hA : A = none → bs = []) (hb : ∀ y ∈ bs, y < 256) (hn : bs.length = n) : (convert 28 9 (.slice A n c)).run Try.prog w = .ok (.string (Byt.bstr bs)) w :=
  Byt.conv_src w A n c bs (hn ▸ h.src hA) hn hb
def newI (w : World) (m : Iv) : World := (w.alloc (.cells zinA 42)).setRow w.heap.size m.cells.toArray
theorem newI_below (w : World) (m : Iv) : Below w.heap.size w (newI w m) := below_setRow ((Below.refl _ w).alloc (Nat.le_refl _) _) (Nat.le_refl _) _
theorem newI_blk (w : World) (m : Iv) : Blk (newI w m) w.heap.size 42 m.cells.toArray := (Blk.new w _ _).setRow _
set_option maxRecDepth 20000 in
set_option maxHeartbeats 8000000 in
theorem alive26_any (W : World) : Calls Try.prog 6 #[] W fun e W' => e = .returned (.bool true) ∧ Below W.heap.size W W' := by
  have HWA := Lib.hid (write_byr aI W (zx_ok W) aI_ok aI_right (by rw [aI_enc]; decide))
  rw [aI_enc] at HWA
  go_enter Try.func6, Try.ntmps6
  go_upto_region 2 with (first | (refine wpList_build_lit aI.cells.toArray rfl 42 _ rfl built_aI ?_) | (go_at_call 7; refine HWA.out.mono ?_; rintro e w1 ⟨A1, c1, rfl, hc, hy, hn, hb⟩; have H1 := Lib.hid (And.intro hb (And.intro hc (And.intro hy hn))); clear hb hc hy hn HWA))
  go_upto_region 3 with (first | (refine wpList_build_lit bO.cells.toArray rfl 40 _ rfl built_bO ?_) | (refine wpList_build_lit bI.cells.toArray rfl 42 _ rfl built_bI ?_) | (refine wpList_store_blk rfl 42 _ _ rfl w1.heap.size 42 zinA bI.cells.toArray rfl rfl (Blk.new' rfl) (ivinfoA _) (zin_siz _) (iv_one _) ?_; intro hy))
  obtain ⟨w2, hw2⟩ : ∃ w2, w2 = newI w1 bI := ⟨_, rfl⟩
  have hb2 := newI_below w1 bI
  have hx2 := newI_blk w1 bI
  rw [show ((w1.alloc (.cells zinA 42)).setRow w1.heap.size bI.cells.toArray) = w2 from hw2.symm]
  rw [← hw2] at hb2 hx2
  have H2 := Lib.hid (And.intro hb2 hx2)
  clear hw2 hb2 hx2 hy
  have HWB := Lib.hid (write_byr bI w2 (zx_ok w2) bI_ok bI_right (by rw [bI_enc]; decide))
  rw [bI_enc] at HWB
  obtain ⟨p, hp⟩ : ∃ p, p = w1.heap.size := ⟨_, rfl⟩
  rw [← hp] at H2 ⊢
  have HPE := Lib.hid hp
  clear hp
  have rgl := H2.out.2.range
  go_upto_region 4 with (first | (refine wpList_load_midg (by rfl) 42 _ rfl _ _ rfl (Iv.cells ?_) _ ?_ Try.underlying42 rfl (ivinfo _) ?_; rotate_left; (focus assumption)) | (go_at_call 7; refine HWB.out.mono ?_; rintro e w3 ⟨A3, c3, rfl, hc, hy, hn, hb⟩; have H3 := Lib.hid (And.intro hb (And.intro hc (And.intro hy hn))); clear hb hc hy hn HWB rgl))
  have HRD := Lib.hid (inread_yes A3 6 c3 w3 [1, 2, 3, 0, 4, 4] rfl H3.out.2.1 (by decide) H3.out.2.2.1 (by decide) (asI bI) bI_read)
  go_upto_region 5 with (first | (go_at_call 9; refine HRD.out.mono ?_; rintro e w4 ⟨A4, c4, rfl, hok, hb⟩; have H4 := Lib.hid (And.intro hb hok); clear hb hok HRD) | (refine wpList_store_blk rfl 42 _ _ rfl w4.heap.size 42 zinA ((asI bI).at A4 c4).cells.toArray rfl rfl (Blk.new' rfl) (ivinfoA _) (zin_siz _) (iv_one _) ?_; intro hy))
  obtain ⟨yI, hyI⟩ : ∃ y, y = (asI bI).at A4 c4 := ⟨_, rfl⟩
  rw [← hyI] at hy H4 ⊢
  have HS8 := Lib.hid (show sameI bI yI = true by rw [hyI, sameI_iff]; exact ((at_8 _ _ _).trans (asI_8 bI_right)).symm)
  obtain ⟨w5, hw5⟩ : ∃ w5, w5 = newI w4 yI := ⟨_, rfl⟩
  have hb5 := newI_below w4 yI
  have hx5 := newI_blk w4 yI
  rw [show ((w4.alloc (.cells zinA 42)).setRow w4.heap.size yI.cells.toArray) = w5 from hw5.symm]
  rw [← hw5] at hb5 hx5
  have hb25 : Below w2.heap.size w2 w5 := H3.out.1.trans ((H4.out.1.trans (hb5.mono H4.out.1.size)).mono H3.out.1.size)
  have hb35 : Below w3.heap.size w3 w5 := H4.out.1.trans (hb5.mono H4.out.1.size)
  have H5 := Lib.hid (And.intro hb25 (And.intro hb35 (And.intro hx5 (H4.out.2.next hb5))))
  obtain ⟨q, hq⟩ : ∃ q, q = w4.heap.size := ⟨_, rfl⟩
  rw [← hq] at H5 ⊢
  clear hw5 hb5 hx5 hy hyI hb25 hb35 hq H4
  have HWC := Lib.hid (write_no cI w5 (zx_ok w5) cI_right)
  go_upto_region 6 with (first | (refine wpList_build_lit cI.cells.toArray rfl 42 _ rfl built_cI ?_) | (go_at_call 7; refine HWC.out.mono ?_; rintro e w6 ⟨rfl, hb⟩; have H6 := Lib.hid hb; clear hb HWC))
  have HRN := Lib.hid (inread_no none 0 0 w6 [] rfl (by decide) (by simp) (Or.inl rfl) (by decide) nil_read)
  go_upto_region 7 with (first | (go_at_call 9; refine HRN.out.mono ?_; rintro e w7 ⟨rfl, hb⟩; have H7 := Lib.hid (H6.out.trans (hb.mono H6.out.size)); clear hb HRN) | (refine wpList_store_blk rfl 42 _ _ rfl w7.heap.size 42 zinA zinA rfl rfl (Blk.new' rfl) zin_sz rfl zin_one ?_; intro hy))
  have hb8 : Below w7.heap.size w7 ((w7.alloc (.cells zinA 42)).setRow w7.heap.size zinA) := below_setRow ((Below.refl _ w7).alloc (Nat.le_refl _) _) (Nat.le_refl _) _
  obtain ⟨w8, hw8⟩ : ∃ w8, w8 = ((w7.alloc (.cells zinA 42)).setRow w7.heap.size zinA) := ⟨_, rfl⟩
  rw [← hw8] at hb8 ⊢
  have H8 := Lib.hid (show Below w5.heap.size w5 w8 from H7.out.trans (hb8.mono H7.out.size))
  clear hw8 hb8 hy H6 H7
  have hb38 := H5.out.2.1.trans (H8.out.mono H5.out.2.1.size)
  have hb28 := H5.out.1.trans (H8.out.mono H5.out.1.size)
  have h21 : Below w1.heap.size w1 w2 := by rw [← HPE.out]; exact H2.out.1
  have hb18 : Below w1.heap.size w1 w8 := h21.trans (hb28.mono h21.size)
  have cv1 := conv_byr (c := c1) (n := 2) (H1.out.2.2.1.next hb18) H1.out.2.2.2 (by decide) rfl
  have cv3 := conv_byr (c := c3) (n := 6) (H3.out.2.2.1.next hb38) H3.out.2.2.2 (by decide) rfl
  rw [Byt.bstr_lit] at cv1 cv3
  have rp := (H2.out.2.next hb28).range
  have rq := (H5.out.2.2.1.next H8.out).range
  have HSM := Lib.hid (same_any bI yI w8 (zx_ok w8) (H5.out.2.2.2.next H8.out))
  rw [HS8.out] at HSM
  have HF := Lib.hid (H1.out.1.trans (hb18.mono H1.out.1.size))
  clear hb38 hb28 hb18 h21 H1 H2 H3 H5 H8
  go_wp2_with (first | (refine wpList_load_midg (by rfl) 42 _ rfl p 0 rfl bI.cells _ rp Try.underlying42 rfl (ivinfo _) ?_) | (refine wpList_load_midg (by rfl) 42 _ rfl q 0 rfl yI.cells _ rq Try.underlying42 rfl (ivinfo _) ?_) | (go_at_call 10; refine HSM.out.mono ?_; rintro e w9 ⟨rfl, hb⟩; have HF9 := Lib.hid (HF.out.trans (hb.mono HF.out.size)); clear hb HSM))
  go_ret
  exact ⟨rfl, HF9.out⟩
end In
end Go.Proofs.Ytgnfachjobohoaa
namespace Go.Proofs.Ytgnfachjobohoaa
open Go.RowKit Go.ChangeShapes Go.WideShapes Go.ChangeAt
set_option linter.unusedSimpArgs false
set_option linter.unusedVariables false
namespace In
theorem app_lt {a b : List Nat} (ha : ∀ x ∈ a, x < 256) (hb : ∀ x ∈ b, x < 256) : ∀ x ∈ a ++ b, x < 256 := fun x hx => (List.mem_append.1 hx).elim (ha x) (hb x)
theorem nil_lt : ∀ x ∈ ([] : List Nat), x < 256 := fun x hx => by simp at hx
theorem if_lt {c : Bool} {a b : List Nat} (ha : ∀ x ∈ a, x < 256) (hb : ∀ x ∈ b, x < 256) : ∀ x ∈ (if c then a else b), x < 256 := by split <;> assumption
theorem encO_lt (o : OpR) : ∀ x ∈ encO o, x < 256 := by unfold encO; exact app_lt (enc_lt _) (app_lt (if_lt (enc_lt _) nil_lt) (app_lt (if_lt (enc_lt _) nil_lt) (if_lt (by unfold encF; exact be8_lt _) nil_lt)))
theorem encI_lt {m : Iv} (h : ∀ y ∈ m.x.p.bs, y < 256) : ∀ x ∈ encI m, x < 256 := by
  unfold encI
  exact app_lt (enc_lt _) (app_lt (if_lt (enc_lt _) nil_lt) (app_lt (if_lt (enc_lt _) nil_lt) (app_lt (if_lt (enc_lt _) nil_lt) (app_lt (if_lt (app_lt (encV_lt _) (enc_lt _)) nil_lt) (app_lt (if_lt (encO_lt _) nil_lt) (if_lt (app_lt (enc_lt _) (Pk.encP_256 h)) nil_lt))))))
/-- May an input be, and are its bytes not too many? -/
def goodI (m : Iv) : Bool := rightI m && decide ((encI m).length ≤ 1800)
/-- What is written: bytes, or an error. -/
def WrI (m : Iv) (v : Value) (c : Int) (W : World) : Prop := if goodI m then c = 0 ∧ ∃ A cp, v = .slice A (encI m).length cp ∧ (encI m).length ≤ cp ∧ Byt.ByR W A (encI m) ∧ (A = none → encI m = []) else c = 3 ∧ v = .slice none 0 0
theorem WrI.yes {m : Iv} {v : Value} {c : Int} {W : World} (h : WrI m v c W) (hr : goodI m = true) : c = 0 ∧ ∃ A cp, v = .slice A (encI m).length cp ∧ (encI m).length ≤ cp ∧ Byt.ByR W A (encI m) ∧ (A = none → encI m = []) := by unfold WrI at h; rwa [if_pos hr] at h
theorem WrI.no {m : Iv} {v : Value} {c : Int} {W : World} (h : WrI m v c W) (hr : goodI m = false) : c = 3 ∧ v = .slice none 0 0 := by unfold WrI at h; rwa [if_neg (by simp [hr])] at h
theorem write_any (m : Iv) (W : World) (ho : m.Ok) (hxo : m.x.Ok W) : Calls Try.prog 7 #[.agg m.cells.toArray] W fun e W' => ∃ v c, e = .returned (.tuple #[v, .int .i64 c]) ∧ WrI m v c W' ∧ Below W.heap.size W W' := by
  cases hr : rightI m with
  | false =>
    refine (write_no m W hxo hr).mono ?_
    rintro e W' ⟨rfl, hb⟩
    exact ⟨_, _, rfl, by unfold WrI goodI; rw [hr]; exact ⟨rfl, rfl⟩, hb⟩
  | true =>
    by_cases hl : (encI m).length ≤ 1800
    · refine (write_byr m W hxo ho hr hl).mono ?_
      rintro e W' ⟨A, c, rfl, h1, h2, h3, hb⟩
      exact ⟨_, _, rfl, by unfold WrI goodI; rw [hr, decide_eq_true hl]; exact ⟨rfl, A, c, rfl, h1, h2, h3⟩, hb⟩
    · refine (write_long m W hxo ho hr (by omega)).mono ?_
      rintro e W' ⟨rfl, hb⟩
      exact ⟨_, _, rfl, by unfold WrI goodI; rw [hr, decide_eq_false hl]; exact ⟨rfl, rfl⟩, hb⟩
theorem good_parts {m : Iv} (h : goodI m = true) : rightI m = true ∧ (encI m).length ≤ 1800 := by
  unfold goodI at h
  simpa using h
theorem encI_first {m : Iv} {n : Nat} (hk : m.k = (n : Nat)) (hn : n ≤ 6) : (encI m)[0]? = some n := by
  unfold encI
  rw [hk, wordN_nat n (by omega), enc_lo (by omega)]
  simp
theorem same_enc {p q : Iv} (hp : goodI p = true) (hq : goodI q = true) (op : p.Ok) (oq : q.Ok) (xp : ∀ y ∈ p.x.p.bs, y < 256) (xq : ∀ y ∈ q.x.p.bs, y < 256) : sameI p q = decide (encI p = encI q) := by
  obtain ⟨rp, lp⟩ := good_parts hp
  obtain ⟨rq, lq⟩ := good_parts hq
  rw [Bool.eq_iff_iff, sameI_iff, decide_eq_true_eq]
  constructor
  · exact enc8
  · intro h
    have h2 := in_yes rp op xp lp
    have h3 := in_yes rq oq xq lq
    rw [h, h3] at h2
    have : asI q = asI p := by simpa using h2
    exact (asI_8 rp).symm.trans (this ▸ asI_8 rq)
set_option maxRecDepth 20000 in
set_option maxHeartbeats 16000000 in
theorem apart_walk (p q : Iv) (hp : p.Bd) (hq : q.Bd) (W : World) (xp : p.x.Ok W) (xq : q.x.Ok W) :
    Calls Try.prog 4 #[.agg (Iv.plain p).toArray, .agg (Iv.plain q).toArray] W fun e W' => e = .returned (.bool true) ∧ Below W.heap.size W W' := by
  have bA := (Blk.new W 32 (Iv.plain p).toArray).alloc (.cells (Iv.plain q).toArray 32)
  have bB : Blk ((W.alloc (.cells (Iv.plain p).toArray 32)).alloc (.cells (Iv.plain q).toArray 32)) (W.heap.size + 1) 32 (Iv.plain q).toArray := Blk.new' (by simp)
  have hB := ((Below.refl W.heap.size W).alloc (Nat.le_refl _) (.cells (Iv.plain p).toArray 32)).alloc (by simp) (.cells (Iv.plain q).toArray 32)
  go_enter Try.func4, Try.ntmps4
  go_upto_region 1 with fail
  obtain ⟨w0, hw0⟩ : ∃ w0, w0 = (W.alloc (.cells (Iv.plain p).toArray 32)).alloc (.cells (Iv.plain q).toArray 32) := ⟨_, rfl⟩
  rw [← hw0] at bA bB hB ⊢
  have HB0 := Lib.hid hB
  have HP0 := Lib.hid bA
  have HQ0 := Lib.hid bB
  have HXP0 := Lib.hid (xp.next hB)
  have HXQ0 := Lib.hid (xq.next hB)
  have HOP := Lib.hid hp.ok
  have HOQ := Lib.hid hq.ok
  have H2P := Lib.hid xp.h256
  have H2Q := Lib.hid xq.h256
  have rp := bA.range
  clear hw0 bA bB hB hp hq xp xq
  have HG1 := Lib.hid (fun w => great26_any p w)
  obtain ⟨z1, hz1⟩ : ∃ z, z = decide ((1810 : Int) < (p.x.p.bs.length : Nat)) := ⟨_, rfl⟩
  rw [← hz1] at HG1
  have HG2 := Lib.hid (fun w => great26_any q w)
  obtain ⟨z2, hz2⟩ : ∃ z, z = decide ((1810 : Int) < (q.x.p.bs.length : Nat)) := ⟨_, rfl⟩
  rw [← hz2] at HG2
  clear hz1 hz2
  cases z1 with
  | true =>
    go_wp2_with (first | (refine wpList_load_midg (by rfl) 32 _ rfl _ _ rfl (Iv.plain ?_) _ ?_ Try.underlying32 rfl (plinfo _) ?_; rotate_left; (focus assumption)) | ((with_reducible refine (HG1.out _).mono ?_); rintro e w1 ⟨rfl, hb⟩; have HB1 := Lib.hid (HB0.out.trans (hb.mono HB0.out.size)); clear hb rp) | (go_at_call 6; refine (alive26_any _).mono ?_; rintro e w2 ⟨rfl, hb⟩; have HB2 := Lib.hid (HB1.out.trans (hb.mono HB1.out.size)); clear hb))
    go_ret
    exact ⟨rfl, HB2.out⟩
  | false =>
  have rq := HQ0.out.range
  cases z2 with
  | true =>
    go_wp2_with (first | (refine wpList_load_midg (by rfl) 32 _ rfl _ _ rfl (Iv.plain ?_) _ ?_ Try.underlying32 rfl (plinfo _) ?_; rotate_left; (focus assumption)) | ((with_reducible refine (HG1.out _).mono ?_); rintro e w1 ⟨rfl, hb⟩; have HB1 := Lib.hid (HB0.out.trans (hb.mono HB0.out.size)); have rq := (HQ0.out.next hb).range; clear hb rp) | ((with_reducible refine (HG2.out _).mono ?_); rintro e w1 ⟨rfl, hb⟩; have HB2 := Lib.hid (HB1.out.trans (hb.mono HB1.out.size)); clear hb) | (go_at_call 6; refine (alive26_any _).mono ?_; rintro e w2 ⟨rfl, hb⟩; have HB3 := Lib.hid (HB2.out.trans (hb.mono HB2.out.size)); clear hb))
    go_ret
    exact ⟨rfl, HB3.out⟩
  | false =>
  go_upto_region 3 with (first | (refine wpList_load_midg (by rfl) 32 _ rfl _ _ rfl (Iv.plain ?_) _ ?_ Try.underlying32 rfl (plinfo _) ?_; rotate_left; (focus assumption)) | ((with_reducible refine (HG1.out _).mono ?_); rintro e wg ⟨rfl, hb⟩; have HBg := Lib.hid hb; have rq := (HQ0.out.next hb).range; clear hb rp) | ((with_reducible refine (HG2.out _).mono ?_); rintro e w1 ⟨rfl, hb⟩; have HN := Lib.hid (HBg.out.trans (hb.mono HBg.out.size)); clear hb rq HBg))
  have HB1 := Lib.hid (HB0.out.trans (HN.out.mono HB0.out.size))
  have HP1 := Lib.hid (HP0.out.next HN.out)
  have HQ1 := Lib.hid (HQ0.out.next HN.out)
  have HXP1 := Lib.hid (HXP0.out.next HN.out)
  have HXQ1 := Lib.hid (HXQ0.out.next HN.out)
  clear HN HB0 HP0 HQ0 HXP0 HXQ0 HG1 HG2
  have rp := HP1.out.range
  go_wp2_with (first | (refine wpList_load_midg (by rfl) 32 _ rfl _ _ rfl (Iv.plain ?_) _ ?_ Try.underlying32 rfl (plinfo _) ?_; rotate_left; (focus assumption)))
  clear rp
  refine (plaininput_any p w1).mono ?_
  rintro e w2 ⟨rfl, hb⟩
  have HB2 := Lib.hid (HB1.out.trans (hb.mono HB1.out.size))
  have HP2 := Lib.hid (HP1.out.next hb)
  have HQ2 := Lib.hid (HQ1.out.next hb)
  have HXP2 := Lib.hid (HXP1.out.next hb)
  have HXQ2 := Lib.hid (HXQ1.out.next hb)
  clear hb HB1 HP1 HQ1 HXP1 HXQ1
  go_wp2_with fail
  refine (write_any p w2 HOP.out HXP2.out).mono ?_
  rintro e w3 ⟨va, ca, rfl, hwa, hb⟩
  have HB3 := Lib.hid (HB2.out.trans (hb.mono HB2.out.size))
  have HP3 := Lib.hid (HP2.out.next hb)
  have HQ3 := Lib.hid (HQ2.out.next hb)
  have HXP3 := Lib.hid (HXP2.out.next hb)
  have HXQ3 := Lib.hid (HXQ2.out.next hb)
  have HWA := Lib.hid hwa
  clear hwa
  clear hb HB2 HP2 HQ2 HXP2 HXQ2
  have rq := HQ3.out.range
  go_wp2_with (first | (refine wpList_load_midg (by rfl) 32 _ rfl _ _ rfl (Iv.plain ?_) _ ?_ Try.underlying32 rfl (plinfo _) ?_; rotate_left; (focus assumption)))
  clear rq
  refine (plaininput_any q w3).mono ?_
  rintro e w4 ⟨rfl, hb⟩
  have HB4 := Lib.hid (HB3.out.trans (hb.mono HB3.out.size))
  have HP4 := Lib.hid (HP3.out.next hb)
  have HQ4 := Lib.hid (HQ3.out.next hb)
  have HXP4 := Lib.hid (HXP3.out.next hb)
  have HXQ4 := Lib.hid (HXQ3.out.next hb)
  have HN34 := Lib.hid hb
  clear hb HB3 HP3 HQ3 HXP3 HXQ3
  go_wp2_with fail
  refine (write_any q w4 HOQ.out HXQ4.out).mono ?_
  rintro e w5 ⟨vb, cb, rfl, hwb, hb⟩
  have HB5 := Lib.hid (HB4.out.trans (hb.mono HB4.out.size))
  have HP5 := Lib.hid (HP4.out.next hb)
  have HQ5 := Lib.hid (HQ4.out.next hb)
  have HXP5 := Lib.hid (HXP4.out.next hb)
  have HXQ5 := Lib.hid (HXQ4.out.next hb)
  have HWB := Lib.hid hwb
  have HN35 := Lib.hid (HN34.out.trans (hb.mono HN34.out.size))
  clear hwb HN34
  clear hb HB4 HP4 HQ4 HXP4 HXQ4
  cases hrp : goodI p with
  | false =>
    obtain ⟨rfl, rfl⟩ := HWA.out.no hrp
    clear hrp HWA
    go_wp2_with (go_at_call 6; refine (alive26_any _).mono ?_; rintro e w6 ⟨rfl, hb⟩; have HB6 := Lib.hid (HB5.out.trans (hb.mono HB5.out.size)); clear hb)
    go_ret
    exact ⟨rfl, HB6.out⟩
  | true =>
    cases hrq : goodI q with
    | false =>
      obtain ⟨rfl, rfl⟩ := HWB.out.no hrq
      obtain ⟨rfl, hva⟩ := HWA.out.yes hrp
      clear hva hrp hrq HWA HWB
      go_wp2_with (go_at_call 6; refine (alive26_any _).mono ?_; rintro e w6 ⟨rfl, hb⟩; have HB6 := Lib.hid (HB5.out.trans (hb.mono HB5.out.size)); clear hb)
      go_ret
      exact ⟨rfl, HB6.out⟩
    | true =>
      obtain ⟨rfl, A, cA, hav, hac, hab, han⟩ := HWA.out.yes hrp
      obtain ⟨rfl, B, cB, hbv, hbc, hbb, hbn⟩ := HWB.out.yes hrq
      have HVA := Lib.hid (And.intro (hab.next HN35.out) han)
      have HVB := Lib.hid (And.intro hbb hbn)
      have HSE := Lib.hid (same_enc hrp hrq HOP.out HOQ.out H2P.out H2Q.out)
      obtain ⟨n, hn, hn1, hn2⟩ := kind_nat (good_parts hrp).1
      have HF0 := Lib.hid (encI_first hn (by omega))
      have HEL := Lib.hid (encI_lt H2P.out)
      have HFL := Lib.hid (encI_lt H2Q.out)
      have HS := Lib.hid (same_any p q)
      obtain ⟨E, hE⟩ : ∃ E, E = encI p := ⟨_, rfl⟩
      obtain ⟨F, hF⟩ : ∃ F, F = encI q := ⟨_, rfl⟩
      rw [← hE] at HVA HSE HF0 HEL hav
      rw [← hF] at HVB HSE HFL hbv
      obtain ⟨r, hr⟩ : ∃ r, r = decide (E = F) := ⟨_, rfl⟩
      have hTB := Sx.toList_beq E F HEL.out HFL.out
      rw [← hr] at HSE hTB
      have HTB := Lib.hid hTB
      clear hTB
      rw [HSE.out] at HS
      have hE0 : 0 < E.length := by
        rcases E with _ | ⟨a, t⟩
        · have := HF0.out; simp at this
        · simp
      obtain ⟨q1, o1, rfl, hc1⟩ : ∃ q o, A = some ⟨q, o, none⟩ ∧ ∀ x, E[0]? = some x → w5.cell? ⟨q, o, none⟩ = some (.int .u8 (x : Nat)) := by
        rcases HVA.out.1 with rfl | ⟨q, o, e, _, hc⟩
        · simp at hE0
        · exact ⟨q, o, e, fun x hx => by have := hc 0 x hx; rwa [Nat.add_zero] at this⟩
      have cx := hc1 n HF0.out
      have hEL1 : (0 : Int) < (E.length : Nat) := by omega
      have ew : IntKind.i64.wrap ((n : Nat) : Int) = (n : Nat) := by rw [IntKind.wrap_i64]; omega
      obtain ⟨-, -, -, -, ck, -⟩ := pl_all HP5.out
      rw [hn] at ck
      have rp := HP5.out.range
      have rq := HQ5.out.range
      have HCA := Lib.hid (fun w (hb : Below w5.heap.size w5 w) => conv_byr (c := cA) (HVA.out.1.next hb) HVA.out.2 HEL.out rfl)
      have HCB := Lib.hid (fun w (hb : Below w5.heap.size w5 w) => conv_byr (c := cB) (HVB.out.1.next hb) HVB.out.2 HFL.out rfl)
      have HXX := Lib.hid (And.intro HXP5.out HXQ5.out)
      rw [hav, hbv]
      clear hrp hrq HWA HWB HSE HF0 HVA HVB hE hF hr hab han hc1 hav hac hn hn1 hn2 HN35 hbv hbc hbb hbn
      go_upto_region 7 with fail
      refine wp_region_tree (S := (fun w' => Below w5.heap.size w5 w' ∧ w'.rangeAt W.heap.size 0 (Iv.plain p) ∧ w'.rangeAt (W.heap.size + 1) 0 (Iv.plain q) ∧ w'.cell? ⟨W.heap.size, 0, none⟩ = some (.int .i64 (n : Nat)) ∧ w'.cell? ⟨q1, o1, none⟩ = some (.int .u8 (n : Nat)))) (.one 0 (.take 1 (.take 2 (.take 3 (.take 4 (.take 5 (.take 6 (.take 7 (.take 8 (.take 9 (.take 10 (.take 11 (.take 12 (.take 13 (.take 14 (.take 15 (.take 16 (.take 17 (.take 18 (.take 19 (.take 20 (.take 21 (.take 23 (.one 22 (.one 24 (.one 25 (.take 26 (.take 27 (.take 28 .nil))))))))))))))))))))))))))))) 9999 (by kernel_rfl) (by kernel_rfl) (by kernel_rfl) (by kernel_rfl) (by kernel_rfl) (fun _ _ d _ _ h => by cases d <;> exact h) ⟨(Below.refl _ _).drew, rp, rq, ck, cx⟩ (fun hHeld => ?_); simp only [Tree.map, List.getElem?_toArray, List.getElem?_cons_zero, List.getElem?_cons_succ]
      refine wpTree.one (fun K hK => ?_)
      go_simp
      go_at_call 6
      refine (alive26_any _).mono ?_
      rintro e w6 ⟨rfl, hb⟩
      refine hK.out _ _ ⟨hHeld.1.trans (hb.mono hHeld.1.size), range_next hb hHeld.2.1, range_next hb hHeld.2.2.1, cell_next hb hHeld.2.2.2.1, cell_next hb hHeld.2.2.2.2⟩ (fun hHeld => ?_)
      clear hK K hb
      (try simp only [Act.put, List.setIfInBounds_toArray, List.set_cons_zero, List.set_cons_succ])
      (repeat (first | (refine wpTree.take (v := undef) (Or.inr ⟨by rfl, rfl⟩) ?_; simp only [Act.put, List.setIfInBounds_toArray, List.set_cons_zero, List.set_cons_succ]) | (refine wpTree.take (v := .agg (Iv.plain ?_).toArray) (yieldsIf_load_mid rfl 32 _ rfl _ _ rfl (Iv.plain _) _ ?_ Try.underlying32 rfl (plinfo _)) ?_; rotate_left; (focus (intro _ hS; first | exact hS.2.1 | exact hS.2.2.1)); simp only [Act.put, List.setIfInBounds_toArray, List.set_cons_zero, List.set_cons_succ]) | (refine wpTree.take (v := .string (Byt.bstr E)) (Or.inl ⟨by rfl, ?_⟩) ?_; (focus (intro wq hS; have cvq := HCA.out wq hS.1; go_simp; done)); simp only [Act.put, List.setIfInBounds_toArray, List.set_cons_zero, List.set_cons_succ]) | (refine wpTree.take (v := .string (Byt.bstr F)) (Or.inl ⟨by rfl, ?_⟩) ?_; (focus (intro wq hS; have cvq := HCB.out wq hS.1; go_simp; done)); simp only [Act.put, List.setIfInBounds_toArray, List.set_cons_zero, List.set_cons_succ]) | (refine wpTree.take (v := ?_) (Or.inl ⟨by rfl, ?_⟩) ?_; rotate_left; (focus (intro _ hS; (try dsimp only at hS); go_split_ands; (try subst hS); go_simp; (try (with_reducible rfl)); done)); simp only [Act.put, List.setIfInBounds_toArray, List.set_cons_zero, List.set_cons_succ])))
      refine wpTree.one (fun K hK => ?_)
      go_simp
      go_at_call 8
      refine (plaininput_any p _).mono ?_
      rintro e w7 ⟨rfl, hb⟩
      refine hK.out _ _ ⟨hHeld.1.trans (hb.mono hHeld.1.size), range_next hb hHeld.2.1, range_next hb hHeld.2.2.1, cell_next hb hHeld.2.2.2.1, cell_next hb hHeld.2.2.2.2⟩ (fun hHeld => ?_)
      clear hK K hb
      (try simp only [Act.put, List.setIfInBounds_toArray, List.set_cons_zero, List.set_cons_succ])
      refine wpTree.one (fun K hK => ?_)
      go_simp
      go_at_call 8
      refine (plaininput_any q _).mono ?_
      rintro e w8 ⟨rfl, hb⟩
      refine hK.out _ _ ⟨hHeld.1.trans (hb.mono hHeld.1.size), range_next hb hHeld.2.1, range_next hb hHeld.2.2.1, cell_next hb hHeld.2.2.2.1, cell_next hb hHeld.2.2.2.2⟩ (fun hHeld => ?_)
      clear hK K hb
      (try simp only [Act.put, List.setIfInBounds_toArray, List.set_cons_zero, List.set_cons_succ])
      refine wpTree.one (fun K hK => ?_)
      go_simp
      go_at_call 10
      refine (HS.out _ (HXX.out.1.next hHeld.1) (HXX.out.2.next hHeld.1)).mono ?_
      rintro e w9 ⟨rfl, hb⟩
      refine hK.out _ _ ⟨hHeld.1.trans (hb.mono hHeld.1.size), range_next hb hHeld.2.1, range_next hb hHeld.2.2.1, cell_next hb hHeld.2.2.2.1, cell_next hb hHeld.2.2.2.2⟩ (fun hHeld => ?_)
      clear hK K hb
      (try simp only [Act.put, List.setIfInBounds_toArray, List.set_cons_zero, List.set_cons_succ])
      (repeat (first | (refine wpTree.take (v := undef) (Or.inr ⟨by rfl, rfl⟩) ?_; simp only [Act.put, List.setIfInBounds_toArray, List.set_cons_zero, List.set_cons_succ]) | (refine wpTree.take (v := .agg (Iv.plain ?_).toArray) (yieldsIf_load_mid rfl 32 _ rfl _ _ rfl (Iv.plain _) _ ?_ Try.underlying32 rfl (plinfo _)) ?_; rotate_left; (focus (intro _ hS; first | exact hS.2.1 | exact hS.2.2.1)); simp only [Act.put, List.setIfInBounds_toArray, List.set_cons_zero, List.set_cons_succ]) | (refine wpTree.take (v := .string (Byt.bstr E)) (Or.inl ⟨by rfl, ?_⟩) ?_; (focus (intro wq hS; have cvq := HCA.out wq hS.1; go_simp; done)); simp only [Act.put, List.setIfInBounds_toArray, List.set_cons_zero, List.set_cons_succ]) | (refine wpTree.take (v := .string (Byt.bstr F)) (Or.inl ⟨by rfl, ?_⟩) ?_; (focus (intro wq hS; have cvq := HCB.out wq hS.1; go_simp; done)); simp only [Act.put, List.setIfInBounds_toArray, List.set_cons_zero, List.set_cons_succ]) | (refine wpTree.take (v := ?_) (Or.inl ⟨by rfl, ?_⟩) ?_; rotate_left; (focus (intro _ hS; (try dsimp only at hS); go_split_ands; (try subst hS); go_simp; (try (with_reducible rfl)); done)); simp only [Act.put, List.setIfInBounds_toArray, List.set_cons_zero, List.set_cons_succ])))
      refine wpTree.done ?_
      have HF := Lib.hid (HB5.out.trans (hHeld.1.mono HB5.out.size))
      clear hHeld cx ck rp rq hEL1 ew
      go_wp2_with fail
      go_ret
      exact ⟨by simp [HTB.out], HF.out⟩
end In
open In

set_option maxRecDepth 100000 in
theorem inputapart_lifted (os : Os) (started : os.Started) (H : Type) (enc : TypeId × Value → H) :
    ReturnsInHanded {} Try.checked os 4 .any (Rows.inputApartSpec.pre6 enc Try.prog Try.f4 Rows.inputApartRow.domain false) (Rows.inputApartSpec.post enc Try.prog Try.f4 false true false false) := by
  refine law_lift (C := Try.checked) own_knob started (by kernel_rfl) Try.func4 rfl Try.underlying4 laid_out (by kernel_rfl) rfl ?_
    (ChangeSpec.witness6 (enc := enc) (C := Try.checked) false ⟨#[], #[.agg #[.int .i64 0, .int .i64 0, .int .i64 0, .int .i64 0, .int .u32 0, .int .u32 0, .int .u32 0, .int .u32 0, .int .u32 0, .int .u32 0, .int .u32 0, .int .u32 0, .int .u32 0, .int .u32 0, .int .u32 0, .int .u32 0, .int .u64 0, .int .i64 0, .int .i64 0, .int .i64 0, .int .u64 0, .bool false, .int .i64 0, .int .i64 0, .int .u64 0, .slice none 0 0], .agg #[.int .i64 0, .int .i64 0, .int .i64 0, .int .i64 0, .int .u32 0, .int .u32 0, .int .u32 0, .int .u32 0, .int .u32 0, .int .u32 0, .int .u32 0, .int .u32 0, .int .u32 0, .int .u32 0, .int .u32 0, .int .u32 0, .int .u64 0, .int .i64 0, .int .i64 0, .int .i64 0, .int .u64 0, .bool false, .int .i64 0, .int .i64 0, .int .u64 0, .slice none 0 0]], []⟩ 8 (by kernel_rfl) (by kernel_rfl) (by kernel_rfl) (by kernel_rfl)) ?_
  · intro ds hds
    match ds, hds with
    | [_, _], _ => rfl
  intro W base args ds ps hval hA hlt hsz
  rw [Try.params4] at hA hval
  obtain ⟨v0, vs0, d0, ds0, p0, q0, hargs, rfl, rfl, h0, r0⟩ := trodAll_cons hA
  obtain ⟨v1, vs1, d1, ds1, p1, q1, rfl, rfl, rfl, h1, r1⟩ := trodAll_cons r0
  obtain ⟨rfl, rfl, rfl⟩ := trodAll_nil r1
  obtain rfl : args = #[v0, v1] := by cases args; simp_all
  obtain ⟨p, rfl, hp, xp⟩ := open_pl (hval 0 32 v0 rfl rfl) h0 (fun x hx => hlt x (by simp [hx]))
  obtain ⟨q, rfl, hq, xq⟩ := open_pl (hval 1 32 v1 rfl rfl) h1 (fun x hx => hlt x (by simp [hx]))
  exact apart_walk p q hp hq W xp xq

theorem inputapart_holds : Rows.InputApartSaid :=
  OpenClaim.holds_of_wide 4 Try.f4 rfl rfl rfl rfl rfl rfl rfl ⟨rfl, rfl, rfl, rfl, rfl⟩ rfl rfl rfl rfl rfl (by kernel_rfl) Try.func4 (by kernel_rfl)
    (of_decide_eq_true (by kernel_rfl)) (by unfold Func.isWrapper; first | (rw [if_pos (by decide +kernel)]; kernel_rfl) | (rw [if_neg (by decide +kernel)]; exact ⟨rfl, rfl⟩))
    (fun os started H enc _ => inputapart_lifted os started H enc)


end Go.Proofs.Ytgnfachjobohoaa
namespace Go.Proofs.Ytgnfachjobohoaa
open Go.RowKit Go.ChangeShapes Go.WideShapes Go.ChangeAt
set_option linter.unusedSimpArgs false
set_option linter.unusedVariables false
namespace In
theorem zI0_right : rightI (zI 0) = false := by decide +kernel
theorem inread_no' (A : Option Addr) (n cp : Nat) (W : World) (bs : List Nat) (hn : bs.length = n) (hnc : n ≤ cp) (hby : ∀ x ∈ bs, x < 256) (hbs : Byt.ByR W A bs) (h : 1800 < n ∨ ∀ l, inP bs ≠ .ok (l, [])) :
    Calls Try.prog 9 #[.slice A n cp] W fun e W' => e = .returned (.tuple #[.agg (zI 0).cells.toArray, .int .i64 3]) ∧ Below W.heap.size W W' := by
  rw [zin_eq]
  by_cases hl : 1800 < n
  · exact inread_long A n cp W hl
  · exact inread_no A n cp W bs hn hnc hby hbs (by omega) (h.resolve_left hl)
theorem take_byr {W : World} {A : Option Addr} {bs : List Nat} (h : Byt.ByR W A bs) (k : Nat) : Byt.ByR W A (bs.take k) := Pk.byr_take h k
theorem slice_ofI {W : World} {B : Nat} {e : TypeId} {n : Nat} {v : Value} {xs : List Value} (h : W.ownsRow B e 1 v n xs) : ∃ A c, v = .slice A n c := by
  obtain ⟨hl, ⟨rfl, rfl⟩ | ⟨k, cap, cur, rfl, _⟩⟩ := h
  · exact ⟨none, 0, rfl⟩
  · exact ⟨_, _, rfl⟩
theorem src_u8_one (W : World) (x : Nat) : Src (W.alloc (.cells #[.int .u8 (x : Nat)] 5)) (some ⟨W.heap.size, 0, none⟩) 1 (u8s [x]) := Or.inl ⟨_, rfl, fun j u hj => by
  have hj0 : j = 0 := by
    rcases Nat.lt_or_ge j 1 with h | h
    · omega
    · rw [List.getElem?_eq_none (by simpa [u8s] using h)] at hj; cases hj
  subst hj0
  rw [Byt.add_plain, cell_of_row _ W.heap.size 0 _ _ _ (heap_alloc_new W _)]
  exact hj⟩
theorem enc_pos (m : Iv) : 0 < (encI m).length := by
  unfold encI enc
  simp only [List.length_append, List.length_cons, List.length_nil]
  omega
set_option maxRecDepth 20000 in
set_option maxHeartbeats 16000000 in
theorem back_walk (p : Iv) (hp : p.Bd) (As : Option Addr) (n cs : Nat) (sb : List Nat) (cut : Int) (W : World) (xp : p.x.Ok W) (hn : sb.length = n) (hnc : n ≤ cs) (hb256 : ∀ x ∈ sb, x < 256) (hby : Byt.ByR W As sb) (hnone : As = none → sb = []) :
    Calls Try.prog 3 #[.agg (Iv.plain p).toArray, .slice As n cs, .int .i64 cut] W fun e W' => e = .returned (.bool true) ∧ Below W.heap.size W W' := by
  have bA := Blk.new W 32 (Iv.plain p).toArray
  have hB := (Below.refl W.heap.size W).alloc (Nat.le_refl _) (.cells (Iv.plain p).toArray 32)
  obtain ⟨w0, hw0⟩ : ∃ w0, w0 = W.alloc (.cells (Iv.plain p).toArray 32) := ⟨_, rfl⟩
  rw [← hw0] at bA hB
  have Hw0 := Lib.hid (show Below W.heap.size W w0 ∧ Byt.ByR w0 As sb from ⟨hB, hby.next hB⟩)
  have HP0 := Lib.hid bA
  have HXP0 := Lib.hid (xp.next hB)
  have HOP := Lib.hid hp.ok
  have H2P := Lib.hid xp.h256
  have HL := Lib.hid hn
  have HLC := Lib.hid hnc
  have HB := Lib.hid hb256
  have HSN := Lib.hid hnone
  have HW0 := Lib.hid hw0
  have rp := bA.range
  have HG1 := Lib.hid (fun w => great26_any p w)
  obtain ⟨z1, hz1⟩ : ∃ z, z = decide ((1810 : Int) < (p.x.p.bs.length : Nat)) := ⟨_, rfl⟩
  rw [← hz1] at HG1
  clear hp hn hnc hb256 hby hnone bA hB hw0 xp hz1
  go_enter Try.func3, Try.ntmps3
  go_upto_region 1 with fail
  rw [← HW0.out]
  clear HW0
  cases z1 with
  | true =>
    go_wp2_with (first | (refine wpList_load_midg (by rfl) 32 _ rfl _ _ rfl (Iv.plain ?_) _ ?_ Try.underlying32 rfl (plinfo _) ?_; rotate_left; (focus assumption)) | ((with_reducible refine (HG1.out _).mono ?_); rintro e w1 ⟨rfl, hb⟩; have HB1 := Lib.hid (Hw0.out.1.trans (hb.mono Hw0.out.1.size)); clear hb rp) | (go_at_call 6; refine (alive26_any _).mono ?_; rintro e w2 ⟨rfl, hb⟩; have HB2 := Lib.hid (HB1.out.trans (hb.mono HB1.out.size)); clear hb))
    go_ret
    exact ⟨rfl, HB2.out⟩
  | false =>
  by_cases hbig : (2000 : Int) < (n : Nat)
  · go_wp2_with (first | (refine wpList_load_midg (by rfl) 32 _ rfl _ _ rfl (Iv.plain ?_) _ ?_ Try.underlying32 rfl (plinfo _) ?_; rotate_left; (focus assumption)) | ((with_reducible refine (HG1.out _).mono ?_); rintro e w1 ⟨rfl, hb⟩; have HB1 := Lib.hid (Hw0.out.1.trans (hb.mono Hw0.out.1.size)); clear hb rp) | (go_at_call 6; refine (alive26_any _).mono ?_; rintro e w2 ⟨rfl, hb⟩; have HB2 := Lib.hid (HB1.out.trans (hb.mono HB1.out.size)); clear hb))
    go_ret
    exact ⟨rfl, HB2.out⟩
  go_upto_region 3 with (first | (refine wpList_load_midg (by rfl) 32 _ rfl _ _ rfl (Iv.plain ?_) _ ?_ Try.underlying32 rfl (plinfo _) ?_; rotate_left; (focus assumption)) | ((with_reducible refine (HG1.out _).mono ?_); rintro e w1 ⟨rfl, hb⟩; have Hw1 := Lib.hid (show Below W.heap.size W w1 ∧ Byt.ByR w1 As sb from ⟨Hw0.out.1.trans (hb.mono Hw0.out.1.size), Hw0.out.2.next hb⟩); have HP1 := Lib.hid (HP0.out.next hb); have HXP1 := Lib.hid (HXP0.out.next hb); clear hb rp Hw0 HP0 HXP0))
  clear hbig HG1
  have rp := HP1.out.range
  go_wp2_with (first | (refine wpList_load_midg (by rfl) 32 _ rfl _ _ rfl (Iv.plain ?_) _ ?_ Try.underlying32 rfl (plinfo _) ?_; rotate_left; (focus assumption)))
  clear rp
  refine (plaininput_any p w1).mono ?_
  rintro e w2 ⟨rfl, hb⟩
  have Hw2 := Lib.hid (show Below W.heap.size W w2 ∧ Byt.ByR w2 As sb from ⟨Hw1.out.1.trans (hb.mono Hw1.out.1.size), Hw1.out.2.next hb⟩)
  have HP2 := Lib.hid (HP1.out.next hb)
  have HXP2 := Lib.hid (HXP1.out.next hb)
  clear hb Hw1 HP1 HXP1
  go_wp2_with fail
  refine (write_any p w2 HOP.out HXP2.out).mono ?_
  rintro e w3 ⟨va, ca, rfl, hwa, hb⟩
  have Hw3 := Lib.hid (show Below W.heap.size W w3 ∧ Byt.ByR w3 As sb from ⟨Hw2.out.1.trans (hb.mono Hw2.out.1.size), Hw2.out.2.next hb⟩)
  have HP3 := Lib.hid (HP2.out.next hb)
  have HXP3 := Lib.hid (HXP2.out.next hb)
  have HWA := Lib.hid hwa
  clear hwa
  clear hb Hw2 HP2 HXP2
  cases hrp : goodI p with
  | false =>
    obtain ⟨rfl, rfl⟩ := HWA.out.no hrp
    clear hrp HWA HP3 HXP3
    by_cases hP : n ≤ 1800 ∧ ∃ m, inP sb = .ok (m, [])
    · obtain ⟨hn18, mm, hm⟩ := hP
      obtain ⟨e1, e2, e3, e4, -⟩ := in_ok HB.out hm
      rw [List.append_nil] at e1
      have HE := Lib.hid e1.symm
      have HR2 := Lib.hid e2
      have HO2 := Lib.hid e3
      have HX := Lib.hid (inread_yes As n cs w3 sb HL.out HLC.out HB.out (Hw3).out.2 hn18 mm hm)
      have HN18 := Lib.hid hn18
      clear hm e1 e2 e3 e4 hn18
      go_wp2_with fail
      refine HX.out.mono ?_
      rintro e y1 ⟨Ay, cy, rfl, hok, hb⟩
      have HY1 := Lib.hid hok
      have H1 := Lib.hid (show Below W.heap.size W y1 ∧ Byt.ByR y1 As sb from ⟨(Hw3).out.1.trans (hb.mono (Hw3).out.1.size), (Hw3).out.2.next hb⟩)
      clear hb HX hok
      go_wp2_with (first | (refine wpList_store_blk rfl 42 _ _ rfl (y1).heap.size 42 zinA (mm.at Ay cy).cells.toArray rfl rfl (Blk.new' rfl) (ivinfoA _) (zin_siz _) (iv_one _) ?_; intro hy; have hbn : Below (y1).heap.size y1 (((y1).alloc (.cells zinA 42)).setRow (y1).heap.size (mm.at Ay cy).cells.toArray) := below_setRow ((Below.refl _ _).alloc (Nat.le_refl _) _) (Nat.le_refl _) _; obtain ⟨y2, hnw⟩ : ∃ y2, y2 = (((y1).alloc (.cells zinA 42)).setRow (y1).heap.size (mm.at Ay cy).cells.toArray) := ⟨_, rfl⟩; rw [← hnw] at hbn hy ⊢; clear hnw; have rm := hy.range; have HY2 := Lib.hid (HY1.out.next hbn)) | (refine wpList_load_midg (by rfl) 42 _ rfl _ _ rfl (Iv.cells ?_) _ ?_ Try.underlying42 rfl (ivinfo _) ?_; rotate_left; (focus assumption)))
      have H2 := Lib.hid (show Below W.heap.size W y2 ∧ Byt.ByR y2 As sb from ⟨H1.out.1.trans (hbn.mono H1.out.1.size), H1.out.2.next hbn⟩)
      clear hbn H1 hy rm
      refine (write_byr (mm.at Ay cy) y2 HY2.out ⟨HO2.out.f, HO2.out.t, HO2.out.p⟩ ((rightI_at _ _ _).trans HR2.out) (by rw [encI_at, HE.out, HL.out]; exact HN18.out)).mono ?_
      rw [encI_at, HE.out, HL.out]
      rintro e y3 ⟨A3, c3, rfl, -, hb3, hn3, hb⟩
      have HV3 := Lib.hid (And.intro hb3 hn3)
      have H3 := Lib.hid (show Below W.heap.size W y3 ∧ Byt.ByR y3 As sb from ⟨H2.out.1.trans (hb.mono H2.out.1.size), H2.out.2.next hb⟩)
      clear hb3 hn3 hb H2 HE
      go_wp2_with fail
      refine (alive26_any y3).mono ?_
      rintro e y4 ⟨rfl, hb⟩
      have cv1 := conv_byr (c := c3) (n := n) (HV3.out.1.next hb) HV3.out.2 HB.out HL.out
      have cv2 := conv_byr (c := cs) (n := n) (H3.out.2.next hb) HSN.out HB.out HL.out
      have H4 := Lib.hid (H3.out.1.trans (hb.mono H3.out.1.size))
      clear hb H3 HV3
      go_wp2_with fail
      go_ret
      exact ⟨by first | rfl | simp, H4.out⟩
    · have HX := Lib.hid (inread_no' As n cs w3 sb HL.out HLC.out HB.out (Hw3).out.2 (by
        by_cases h18 : 1800 < n
        · exact Or.inl h18
        · exact Or.inr (fun m hm => hP ⟨by omega, m, hm⟩)))
      clear hP
      go_wp2_with fail
      refine HX.out.mono ?_
      rintro e y1 ⟨rfl, hb⟩
      have H1 := Lib.hid ((Hw3).out.1.trans (hb.mono (Hw3).out.1.size))
      clear hb HX
      go_wp2_with (first | (refine wpList_store_blk rfl 42 _ _ rfl (y1).heap.size 42 zinA (zI 0).cells.toArray rfl rfl (Blk.new' rfl) (ivinfoA _) (zin_siz _) (iv_one _) ?_; intro hy; have hbn : Below (y1).heap.size y1 (((y1).alloc (.cells zinA 42)).setRow (y1).heap.size (zI 0).cells.toArray) := below_setRow ((Below.refl _ _).alloc (Nat.le_refl _) _) (Nat.le_refl _) _; obtain ⟨y2, hnw⟩ : ∃ y2, y2 = (((y1).alloc (.cells zinA 42)).setRow (y1).heap.size (zI 0).cells.toArray) := ⟨_, rfl⟩; rw [← hnw] at hbn hy ⊢; clear hnw; have rm := hy.range) | (refine wpList_load_midg (by rfl) 42 _ rfl _ _ rfl (Iv.cells ?_) _ ?_ Try.underlying42 rfl (ivinfo _) ?_; rotate_left; (focus assumption)))
      have H2 := Lib.hid (H1.out.trans (hbn.mono H1.out.size))
      clear hbn H1 hy rm
      refine (write_no (zI 0) y2 (zx_ok y2) zI0_right).mono ?_
      rintro e y3 ⟨rfl, hb⟩
      have H3 := Lib.hid (H2.out.trans (hb.mono H2.out.size))
      clear hb H2
      go_wp2_with fail
      refine (alive26_any y3).mono ?_
      rintro e y4 ⟨rfl, hb⟩
      have H4 := Lib.hid (H3.out.trans (hb.mono H3.out.size))
      clear hb H3
      go_wp2_with fail
      go_ret
      exact ⟨rfl, H4.out⟩
  | true =>
    obtain ⟨rfl, A1, c1, rfl, hc1, hA1, hA10⟩ := HWA.out.yes hrp
    obtain ⟨hrr, hrl⟩ := good_parts hrp
    have HYE := Lib.hid (in_yes hrr HOP.out H2P.out hrl)
    have HSM := Lib.hid (fun A c => show sameI ((asI p).at A c) p = true from (sameI_iff _ _).2 ((at_8 _ _ _).trans (asI_8 hrr)))
    have HCT := Lib.hid (fun k hk => in_cut hrr HOP.out H2P.out hrl (k := k) hk)
    have HMORE := Lib.hid (in_more hrr HOP.out H2P.out hrl [0] (by simp))
    have HPOS := Lib.hid (enc_pos p)
    have HLT := Lib.hid (encI_lt H2P.out)
    obtain ⟨E, hE⟩ : ∃ E, E = encI p := ⟨_, rfl⟩
    rw [← hE] at hc1 hA1 hA10 hrl HYE HCT HMORE HPOS HLT ⊢
    obtain ⟨N, hN⟩ : ∃ N, N = E.length := ⟨_, rfl⟩
    rw [← hN] at hc1 hrl ⊢
    have HNE := Lib.hid hN
    have HLEN := Lib.hid hrl
    have HC1 := Lib.hid hc1
    have HA3 := Lib.hid hA1
    have HAN := Lib.hid hA10
    clear hE hN hrp hc1 hA1 hA10 hrr hrl HWA
    go_wp2_with fail
    refine (inread_yes A1 N c1 w3 E HNE.out.symm HC1.out HLT.out HA3.out HLEN.out (asI p) HYE.out).mono ?_
    rintro e w4 ⟨Ay, cy, rfl, hok, hb⟩
    have Hw4 := Lib.hid (show Below W.heap.size W w4 ∧ Byt.ByR w4 As sb from ⟨Hw3.out.1.trans (hb.mono Hw3.out.1.size), Hw3.out.2.next hb⟩)
    have HP4 := Lib.hid (HP3.out.next hb)
    have HXP4 := Lib.hid (HXP3.out.next hb)
    have HA4 := Lib.hid (HA3.out.next hb)
    have HYO4 := Lib.hid hok
    clear hok
    clear hb Hw3 HP3 HXP3 HA3
    obtain ⟨yI, hyI⟩ : ∃ y, y = (asI p).at Ay cy := ⟨_, rfl⟩
    have HSM2 := Lib.hid (HSM.out Ay cy)
    rw [← hyI] at HYO4 HSM2 ⊢
    clear hyI HSM
    go_upto_region 6 with (refine wpList_store_blk rfl 42 _ _ rfl (w4).heap.size 42 zinA yI.cells.toArray rfl rfl (Blk.new' rfl) (ivinfoA _) (zin_siz _) (iv_one _) ?_; intro hy; have hbn : Below (w4).heap.size w4 (((w4).alloc (.cells zinA 42)).setRow (w4).heap.size yI.cells.toArray) := below_setRow ((Below.refl _ _).alloc (Nat.le_refl _) _) (Nat.le_refl _) _; obtain ⟨w5, hnw⟩ : ∃ w5, w5 = (((w4).alloc (.cells zinA 42)).setRow (w4).heap.size yI.cells.toArray) := ⟨_, rfl⟩; rw [← hnw] at hbn hy ⊢; clear hnw; skip)
    have Hw5 := Lib.hid (show Below W.heap.size W w5 ∧ Byt.ByR w5 As sb from ⟨Hw4.out.1.trans (hbn.mono Hw4.out.1.size), Hw4.out.2.next hbn⟩)
    have HP5 := Lib.hid (HP4.out.next hbn)
    have HXP5 := Lib.hid (HXP4.out.next hbn)
    have HA5 := Lib.hid (HA4.out.next hbn)
    have HYO5 := Lib.hid (HYO4.out.next hbn)
    have HY5 := Lib.hid hy
    obtain ⟨g4, hg4⟩ : ∃ g4, g4 = w4.heap.size := ⟨_, rfl⟩
    rw [← hg4] at HY5 ⊢
    clear hbn hy hg4 Hw4 HP4 HXP4 HA4 HYO4 HYE
    have hs1 : Src (w5.alloc (.cells #[] 5)) A1 N (u8s E) := by have := (HA5.out.next ((Below.refl w5.heap.size w5).alloc (Nat.le_refl _) (.cells #[] 5))).src HAN.out; rwa [← HNE.out] at this
    have hlit : (w5.alloc (.cells #[] 5)).ownsRow w5.heap.size 5 1 (.slice (some ⟨w5.heap.size, 0, none⟩) 0 0) 0 (u8s []) := World.ownsRow_lit (base := w5.heap.size) (size := 1) (e := 5) w5 #[] 0 (Nat.le_refl _) (by unfold maxLen; omega) rfl
    have hbl := (Below.refl w5.heap.size w5).alloc (Nat.le_refl _) (.cells #[] 5)
    go_wp2_with (first | (at_builtin; refine wpList_append_u8 _ rfl (.tmp 41) (.tmp 42) rfl w5.heap.size _ 0 (u8s []) rfl hlit A1 N c1 (u8s E) rfl (by rw [u8s_len]; exact HNE.out.symm) hs1 (u8s_one _) (by have := HLEN.out; omega) (by simp) ?_; intro v3 x3 hown3 hgrow3 _; rw [Nat.zero_add] at hown3; obtain ⟨A3, c3, rfl⟩ := slice_ofI hown3; have HB3 := Lib.hid (hbl.trans (grown_below hlit hgrow3 (by simp))); have hb4 := (Below.refl x3.heap.size x3).alloc (Nat.le_refl _) (.cells #[.int .u8 0] 5); have hlit4 := own_next hown3 hb4 HB3.out.size; have hs4 : Src (x3.alloc (.cells #[.int .u8 0] 5)) (some ⟨x3.heap.size, 0, none⟩) 1 (u8s [0]) := src_u8_one x3 0; have HB4 := Lib.hid (HB3.out.trans (hb4.mono HB3.out.size)); clear hown3 hgrow3 hlit hs1 hbl hb4) | (at_builtin; refine wpList_append_u8 _ rfl (.tmp 43) (.tmp 44) rfl w5.heap.size _ N (u8s [] ++ u8s E) rfl hlit4 (some ⟨x3.heap.size, 0, none⟩) 1 1 (u8s [0]) rfl rfl hs4 (u8s_one _) (by have := HLEN.out; omega) HB4.out.size ?_; intro v5 x5 hown5 hgrow5 _; obtain ⟨A5, c5, rfl⟩ := slice_ofI hown5; have HB5 := Lib.hid (HB4.out.trans (grown_below hlit4 hgrow5 HB4.out.size)); have HO5 := Lib.hid hown5; clear hown5 hgrow5 hlit4 hs4 HB4 HB3))
    have h5 := HO5.out
    have e1 : N + 1 = (E ++ [0]).length := by rw [List.length_append, ← HNE.out]; rfl
    have e2 : u8s [] ++ u8s E ++ u8s [0] = u8s (E ++ [0]) := by rw [u8s_app]; rfl
    rw [e2, e1] at h5
    obtain ⟨A6, c6, he6, hc6, hA6, -⟩ := Byt.own_byr h5
    simp only [Value.slice.injEq] at he6
    obtain ⟨rfl, -, rfl⟩ := he6
    refine (inread_no' A5 (N + 1) c5 x5 (E ++ [0]) e1.symm (by omega) (fun y hy => by
      rcases List.mem_append.1 hy with h | h
      · exact HLT.out y h
      · simp at h; omega) hA6 (Or.inr HMORE.out)).mono ?_
    rintro e x6 ⟨rfl, hb⟩
    have hb26 := HB5.out.trans (hb.mono HB5.out.size)
    have Hw6 := Lib.hid (show Below W.heap.size W x6 ∧ Byt.ByR x6 As sb from ⟨Hw5.out.1.trans (hb26.mono Hw5.out.1.size), Hw5.out.2.next hb26⟩)
    have HP6 := Lib.hid (HP5.out.next hb26)
    have HXP6 := Lib.hid (HXP5.out.next hb26)
    have HA6 := Lib.hid (HA5.out.next hb26)
    have HYO6 := Lib.hid (HYO5.out.next hb26)
    have HY6 := Lib.hid (HY5.out.next hb26)
    clear h5 e1 e2 hc6 hA6 hb hb26 HO5 HB5 Hw5 HP5 HXP5 HA5 HYO5 HY5 HMORE
    go_upto_region 7 with (refine wpList_store_blk rfl 42 _ _ rfl (x6).heap.size 42 zinA (zI 0).cells.toArray rfl rfl (Blk.new' rfl) (ivinfoA _) (zin_siz _) (iv_one _) ?_; intro hy; have hbn : Below (x6).heap.size x6 (((x6).alloc (.cells zinA 42)).setRow (x6).heap.size (zI 0).cells.toArray) := below_setRow ((Below.refl _ _).alloc (Nat.le_refl _) _) (Nat.le_refl _) _; obtain ⟨w7, hnw⟩ : ∃ w7, w7 = (((x6).alloc (.cells zinA 42)).setRow (x6).heap.size (zI 0).cells.toArray) := ⟨_, rfl⟩; rw [← hnw] at hbn hy ⊢; clear hnw; skip)
    have Hw7 := Lib.hid (show Below W.heap.size W w7 ∧ Byt.ByR w7 As sb from ⟨Hw6.out.1.trans (hbn.mono Hw6.out.1.size), Hw6.out.2.next hbn⟩)
    have rp := (HP6.out.next hbn).range
    have rm := (HY6.out.next hbn).range
    have HA7 := Lib.hid (HA6.out.next hbn)
    have HXS := Lib.hid (And.intro (HYO6.out.next hbn) (HXP6.out.next hbn))
    have n2 : ¬ (1800 : Int) < (N : Nat) := by have := HLEN.out; omega
    have HS := Lib.hid (same_any yI p)
    rw [HSM2.out] at HS
    clear hbn hy Hw6 HP6 HXP6 HA6 HYO6 HY6 HSM2
    refine wp_region_tree (S := (fun w' => Below w7.heap.size w7 w' ∧ w'.rangeAt g4 0 yI.cells ∧ w'.rangeAt W.heap.size 0 (Iv.plain p))) (.take 0 (.take 1 (.take 2 (.take 3 (.take 4 (.one 5 (.one 6 (.take 7 (.take 8 (.take 9 (.take 10 (.take 11 (.take 12 (.take 13 (.take 14 (.take 15 (.take 16 (.take 17 .nil)))))))))))))))))) 9999 (by kernel_rfl) (by kernel_rfl) (by kernel_rfl) (by kernel_rfl) (by kernel_rfl) (fun _ _ d _ _ h => by cases d <;> exact h) ⟨(Below.refl _ _).drew, rm, rp⟩ (fun hHeld => ?_); simp only [Tree.map, List.getElem?_toArray, List.getElem?_cons_zero, List.getElem?_cons_succ]
    (repeat (first | (refine wpTree.take (v := undef) (Or.inr ⟨by rfl, rfl⟩) ?_; simp only [Act.put, List.setIfInBounds_toArray, List.set_cons_zero, List.set_cons_succ]) | (refine wpTree.take (v := .agg (Iv.plain ?_).toArray) (yieldsIf_load_mid rfl 32 _ rfl _ _ rfl (Iv.plain _) _ ?_ Try.underlying32 rfl (plinfo _)) ?_; rotate_left; (focus (intro _ hS; exact hS.2.2)); simp only [Act.put, List.setIfInBounds_toArray, List.set_cons_zero, List.set_cons_succ]) | (refine wpTree.take (v := .agg (Iv.cells ?_).toArray) (yieldsIf_load_mid rfl 42 _ rfl _ _ rfl (Iv.cells _) _ ?_ Try.underlying42 rfl (ivinfo _)) ?_; rotate_left; (focus (intro _ hS; exact hS.2.1)); simp only [Act.put, List.setIfInBounds_toArray, List.set_cons_zero, List.set_cons_succ]) | (refine wpTree.take (v := ?_) (Or.inl ⟨by rfl, ?_⟩) ?_; rotate_left; (focus (intro _ hS; (try dsimp only at hS); go_split_ands; (try subst hS); go_simp; (try (with_reducible rfl)); done)); simp only [Act.put, List.setIfInBounds_toArray, List.set_cons_zero, List.set_cons_succ])))
    refine wpTree.one (fun K hK => ?_)
    go_simp
    go_at_call 8
    refine (plaininput_any p _).mono ?_
    rintro e w8 ⟨rfl, hb⟩
    refine hK.out _ _ ⟨hHeld.1.trans (hb.mono hHeld.1.size), range_next hb hHeld.2.1, range_next hb hHeld.2.2⟩ (fun hHeld => ?_)
    clear hK K hb
    (try simp only [Act.put, List.setIfInBounds_toArray, List.set_cons_zero, List.set_cons_succ])
    refine wpTree.one (fun K hK => ?_)
    go_simp
    go_at_call 10
    refine (HS.out _ (HXS.out.1.next hHeld.1) (HXS.out.2.next hHeld.1)).mono ?_
    rintro e w9 ⟨rfl, hb⟩
    refine hK.out _ _ ⟨hHeld.1.trans (hb.mono hHeld.1.size), range_next hb hHeld.2.1, range_next hb hHeld.2.2⟩ (fun hHeld => ?_)
    clear hK K hb
    (try simp only [Act.put, List.setIfInBounds_toArray, List.set_cons_zero, List.set_cons_succ])
    (repeat (first | (refine wpTree.take (v := undef) (Or.inr ⟨by rfl, rfl⟩) ?_; simp only [Act.put, List.setIfInBounds_toArray, List.set_cons_zero, List.set_cons_succ]) | (refine wpTree.take (v := .agg (Iv.plain ?_).toArray) (yieldsIf_load_mid rfl 32 _ rfl _ _ rfl (Iv.plain _) _ ?_ Try.underlying32 rfl (plinfo _)) ?_; rotate_left; (focus (intro _ hS; exact hS.2.2)); simp only [Act.put, List.setIfInBounds_toArray, List.set_cons_zero, List.set_cons_succ]) | (refine wpTree.take (v := .agg (Iv.cells ?_).toArray) (yieldsIf_load_mid rfl 42 _ rfl _ _ rfl (Iv.cells _) _ ?_ Try.underlying42 rfl (ivinfo _)) ?_; rotate_left; (focus (intro _ hS; exact hS.2.1)); simp only [Act.put, List.setIfInBounds_toArray, List.set_cons_zero, List.set_cons_succ]) | (refine wpTree.take (v := ?_) (Or.inl ⟨by rfl, ?_⟩) ?_; rotate_left; (focus (intro _ hS; (try dsimp only at hS); go_split_ands; (try subst hS); go_simp; (try (with_reducible rfl)); done)); simp only [Act.put, List.setIfInBounds_toArray, List.set_cons_zero, List.set_cons_succ])))
    refine wpTree.done ?_
    have Hw9 := Lib.hid (show Below W.heap.size W w9 ∧ Byt.ByR w9 As sb from ⟨Hw7.out.1.trans (hHeld.1.mono Hw7.out.1.size), Hw7.out.2.next hHeld.1⟩)
    have HA9 := Lib.hid (HA7.out.next hHeld.1)
    clear hHeld rm rp HS Hw7 HA7 n2 HXS
    by_cases hc0 : 0 ≤ cut
    · obtain ⟨k, rfl⟩ := Int.eq_ofNat_of_zero_le hc0
      have g0 : decide (0 ≤ (k : Int)) = true := decide_eq_true hc0
      clear hc0
      by_cases hkN : k < N
      · have g1 : decide ((k : Int) < (N : Int)) = true := by simp; omega
        have hkc : k ≤ c1 := by have := HC1.out; omega
        have HNO := Lib.hid (fun w h => inread_no' A1 k c1 w (E.take k) (by rw [List.length_take]; have := HNE.out; omega) hkc (fun y hy => HLT.out y (List.mem_of_mem_take hy)) h (Or.inr (HCT.out k (by have := HNE.out; omega))))
        go_wp2_with fail
        clear hkN hkc
        refine (HNO.out _ (take_byr HA9.out k)).mono ?_
        rintro e w10 ⟨rfl, hb⟩
        have Hw10 := Lib.hid (show Below W.heap.size W w10 ∧ Byt.ByR w10 As sb from ⟨Hw9.out.1.trans (hb.mono Hw9.out.1.size), Hw9.out.2.next hb⟩)
        clear hb Hw9 HA9 HNO
        go_upto_region 13 with (refine wpList_store_blk rfl 42 _ _ rfl (w10).heap.size 42 zinA (zI 0).cells.toArray rfl rfl (Blk.new' rfl) (ivinfoA _) (zin_siz _) (iv_one _) ?_; intro hy; have hbn : Below (w10).heap.size w10 (((w10).alloc (.cells zinA 42)).setRow (w10).heap.size (zI 0).cells.toArray) := below_setRow ((Below.refl _ _).alloc (Nat.le_refl _) _) (Nat.le_refl _) _; obtain ⟨w11, hnw⟩ : ∃ w11, w11 = (((w10).alloc (.cells zinA 42)).setRow (w10).heap.size (zI 0).cells.toArray) := ⟨_, rfl⟩; rw [← hnw] at hbn hy ⊢; clear hnw; skip)
        have Hw11 := Lib.hid (show Below W.heap.size W w11 ∧ Byt.ByR w11 As sb from ⟨Hw10.out.1.trans (hbn.mono Hw10.out.1.size), Hw10.out.2.next hbn⟩)
        clear hbn hy Hw10
        by_cases hP : n ≤ 1800 ∧ ∃ m, inP sb = .ok (m, [])
        · obtain ⟨hn18, mm, hm⟩ := hP
          obtain ⟨e1, e2, e3, e4, -⟩ := in_ok HB.out hm
          rw [List.append_nil] at e1
          have HE := Lib.hid e1.symm
          have HR2 := Lib.hid e2
          have HO2 := Lib.hid e3
          have HX := Lib.hid (inread_yes As n cs w11 sb HL.out HLC.out HB.out (Hw11).out.2 hn18 mm hm)
          have HN18 := Lib.hid hn18
          clear hm e1 e2 e3 e4 hn18
          go_wp2_with fail
          refine HX.out.mono ?_
          rintro e y1 ⟨Ay, cy, rfl, hok, hb⟩
          have HY1 := Lib.hid hok
          have H1 := Lib.hid (show Below W.heap.size W y1 ∧ Byt.ByR y1 As sb from ⟨(Hw11).out.1.trans (hb.mono (Hw11).out.1.size), (Hw11).out.2.next hb⟩)
          clear hb HX hok
          go_wp2_with (first | (refine wpList_store_blk rfl 42 _ _ rfl (y1).heap.size 42 zinA (mm.at Ay cy).cells.toArray rfl rfl (Blk.new' rfl) (ivinfoA _) (zin_siz _) (iv_one _) ?_; intro hy; have hbn : Below (y1).heap.size y1 (((y1).alloc (.cells zinA 42)).setRow (y1).heap.size (mm.at Ay cy).cells.toArray) := below_setRow ((Below.refl _ _).alloc (Nat.le_refl _) _) (Nat.le_refl _) _; obtain ⟨y2, hnw⟩ : ∃ y2, y2 = (((y1).alloc (.cells zinA 42)).setRow (y1).heap.size (mm.at Ay cy).cells.toArray) := ⟨_, rfl⟩; rw [← hnw] at hbn hy ⊢; clear hnw; have rm := hy.range; have HY2 := Lib.hid (HY1.out.next hbn)) | (refine wpList_load_midg (by rfl) 42 _ rfl _ _ rfl (Iv.cells ?_) _ ?_ Try.underlying42 rfl (ivinfo _) ?_; rotate_left; (focus assumption)))
          have H2 := Lib.hid (show Below W.heap.size W y2 ∧ Byt.ByR y2 As sb from ⟨H1.out.1.trans (hbn.mono H1.out.1.size), H1.out.2.next hbn⟩)
          clear hbn H1 hy rm
          refine (write_byr (mm.at Ay cy) y2 HY2.out ⟨HO2.out.f, HO2.out.t, HO2.out.p⟩ ((rightI_at _ _ _).trans HR2.out) (by rw [encI_at, HE.out, HL.out]; exact HN18.out)).mono ?_
          rw [encI_at, HE.out, HL.out]
          rintro e y3 ⟨A3, c3, rfl, -, hb3, hn3, hb⟩
          have HV3 := Lib.hid (And.intro hb3 hn3)
          have H3 := Lib.hid (show Below W.heap.size W y3 ∧ Byt.ByR y3 As sb from ⟨H2.out.1.trans (hb.mono H2.out.1.size), H2.out.2.next hb⟩)
          clear hb3 hn3 hb H2 HE
          go_wp2_with fail
          refine (alive26_any y3).mono ?_
          rintro e y4 ⟨rfl, hb⟩
          have cv1 := conv_byr (c := c3) (n := n) (HV3.out.1.next hb) HV3.out.2 HB.out HL.out
          have cv2 := conv_byr (c := cs) (n := n) (H3.out.2.next hb) HSN.out HB.out HL.out
          have H4 := Lib.hid (H3.out.1.trans (hb.mono H3.out.1.size))
          clear hb H3 HV3
          go_wp2_with fail
          go_ret
          exact ⟨by first | rfl | simp, H4.out⟩
        · have HX := Lib.hid (inread_no' As n cs w11 sb HL.out HLC.out HB.out (Hw11).out.2 (by
            by_cases h18 : 1800 < n
            · exact Or.inl h18
            · exact Or.inr (fun m hm => hP ⟨by omega, m, hm⟩)))
          clear hP
          go_wp2_with fail
          refine HX.out.mono ?_
          rintro e y1 ⟨rfl, hb⟩
          have H1 := Lib.hid ((Hw11).out.1.trans (hb.mono (Hw11).out.1.size))
          clear hb HX
          go_wp2_with (first | (refine wpList_store_blk rfl 42 _ _ rfl (y1).heap.size 42 zinA (zI 0).cells.toArray rfl rfl (Blk.new' rfl) (ivinfoA _) (zin_siz _) (iv_one _) ?_; intro hy; have hbn : Below (y1).heap.size y1 (((y1).alloc (.cells zinA 42)).setRow (y1).heap.size (zI 0).cells.toArray) := below_setRow ((Below.refl _ _).alloc (Nat.le_refl _) _) (Nat.le_refl _) _; obtain ⟨y2, hnw⟩ : ∃ y2, y2 = (((y1).alloc (.cells zinA 42)).setRow (y1).heap.size (zI 0).cells.toArray) := ⟨_, rfl⟩; rw [← hnw] at hbn hy ⊢; clear hnw; have rm := hy.range) | (refine wpList_load_midg (by rfl) 42 _ rfl _ _ rfl (Iv.cells ?_) _ ?_ Try.underlying42 rfl (ivinfo _) ?_; rotate_left; (focus assumption)))
          have H2 := Lib.hid (H1.out.trans (hbn.mono H1.out.size))
          clear hbn H1 hy rm
          refine (write_no (zI 0) y2 (zx_ok y2) zI0_right).mono ?_
          rintro e y3 ⟨rfl, hb⟩
          have H3 := Lib.hid (H2.out.trans (hb.mono H2.out.size))
          clear hb H2
          go_wp2_with fail
          refine (alive26_any y3).mono ?_
          rintro e y4 ⟨rfl, hb⟩
          have H4 := Lib.hid (H3.out.trans (hb.mono H3.out.size))
          clear hb H3
          go_wp2_with fail
          go_ret
          exact ⟨rfl, H4.out⟩
      · have g1 : decide ((k : Int) < (N : Int)) = false := by simp; omega
        by_cases hP : n ≤ 1800 ∧ ∃ m, inP sb = .ok (m, [])
        · obtain ⟨hn18, mm, hm⟩ := hP
          obtain ⟨e1, e2, e3, e4, -⟩ := in_ok HB.out hm
          rw [List.append_nil] at e1
          have HE := Lib.hid e1.symm
          have HR2 := Lib.hid e2
          have HO2 := Lib.hid e3
          have HX := Lib.hid (inread_yes As n cs w9 sb HL.out HLC.out HB.out (Hw9).out.2 hn18 mm hm)
          have HN18 := Lib.hid hn18
          clear hm e1 e2 e3 e4 hn18
          go_wp2_with fail
          refine HX.out.mono ?_
          rintro e y1 ⟨Ay, cy, rfl, hok, hb⟩
          have HY1 := Lib.hid hok
          have H1 := Lib.hid (show Below W.heap.size W y1 ∧ Byt.ByR y1 As sb from ⟨(Hw9).out.1.trans (hb.mono (Hw9).out.1.size), (Hw9).out.2.next hb⟩)
          clear hb HX hok
          go_wp2_with (first | (refine wpList_store_blk rfl 42 _ _ rfl (y1).heap.size 42 zinA (mm.at Ay cy).cells.toArray rfl rfl (Blk.new' rfl) (ivinfoA _) (zin_siz _) (iv_one _) ?_; intro hy; have hbn : Below (y1).heap.size y1 (((y1).alloc (.cells zinA 42)).setRow (y1).heap.size (mm.at Ay cy).cells.toArray) := below_setRow ((Below.refl _ _).alloc (Nat.le_refl _) _) (Nat.le_refl _) _; obtain ⟨y2, hnw⟩ : ∃ y2, y2 = (((y1).alloc (.cells zinA 42)).setRow (y1).heap.size (mm.at Ay cy).cells.toArray) := ⟨_, rfl⟩; rw [← hnw] at hbn hy ⊢; clear hnw; have rm := hy.range; have HY2 := Lib.hid (HY1.out.next hbn)) | (refine wpList_load_midg (by rfl) 42 _ rfl _ _ rfl (Iv.cells ?_) _ ?_ Try.underlying42 rfl (ivinfo _) ?_; rotate_left; (focus assumption)))
          have H2 := Lib.hid (show Below W.heap.size W y2 ∧ Byt.ByR y2 As sb from ⟨H1.out.1.trans (hbn.mono H1.out.1.size), H1.out.2.next hbn⟩)
          clear hbn H1 hy rm
          refine (write_byr (mm.at Ay cy) y2 HY2.out ⟨HO2.out.f, HO2.out.t, HO2.out.p⟩ ((rightI_at _ _ _).trans HR2.out) (by rw [encI_at, HE.out, HL.out]; exact HN18.out)).mono ?_
          rw [encI_at, HE.out, HL.out]
          rintro e y3 ⟨A3, c3, rfl, -, hb3, hn3, hb⟩
          have HV3 := Lib.hid (And.intro hb3 hn3)
          have H3 := Lib.hid (show Below W.heap.size W y3 ∧ Byt.ByR y3 As sb from ⟨H2.out.1.trans (hb.mono H2.out.1.size), H2.out.2.next hb⟩)
          clear hb3 hn3 hb H2 HE
          go_wp2_with fail
          refine (alive26_any y3).mono ?_
          rintro e y4 ⟨rfl, hb⟩
          have cv1 := conv_byr (c := c3) (n := n) (HV3.out.1.next hb) HV3.out.2 HB.out HL.out
          have cv2 := conv_byr (c := cs) (n := n) (H3.out.2.next hb) HSN.out HB.out HL.out
          have H4 := Lib.hid (H3.out.1.trans (hb.mono H3.out.1.size))
          clear hb H3 HV3
          go_wp2_with fail
          go_ret
          exact ⟨by first | rfl | simp, H4.out⟩
        · have HX := Lib.hid (inread_no' As n cs w9 sb HL.out HLC.out HB.out (Hw9).out.2 (by
            by_cases h18 : 1800 < n
            · exact Or.inl h18
            · exact Or.inr (fun m hm => hP ⟨by omega, m, hm⟩)))
          clear hP
          go_wp2_with fail
          refine HX.out.mono ?_
          rintro e y1 ⟨rfl, hb⟩
          have H1 := Lib.hid ((Hw9).out.1.trans (hb.mono (Hw9).out.1.size))
          clear hb HX
          go_wp2_with (first | (refine wpList_store_blk rfl 42 _ _ rfl (y1).heap.size 42 zinA (zI 0).cells.toArray rfl rfl (Blk.new' rfl) (ivinfoA _) (zin_siz _) (iv_one _) ?_; intro hy; have hbn : Below (y1).heap.size y1 (((y1).alloc (.cells zinA 42)).setRow (y1).heap.size (zI 0).cells.toArray) := below_setRow ((Below.refl _ _).alloc (Nat.le_refl _) _) (Nat.le_refl _) _; obtain ⟨y2, hnw⟩ : ∃ y2, y2 = (((y1).alloc (.cells zinA 42)).setRow (y1).heap.size (zI 0).cells.toArray) := ⟨_, rfl⟩; rw [← hnw] at hbn hy ⊢; clear hnw; have rm := hy.range) | (refine wpList_load_midg (by rfl) 42 _ rfl _ _ rfl (Iv.cells ?_) _ ?_ Try.underlying42 rfl (ivinfo _) ?_; rotate_left; (focus assumption)))
          have H2 := Lib.hid (H1.out.trans (hbn.mono H1.out.size))
          clear hbn H1 hy rm
          refine (write_no (zI 0) y2 (zx_ok y2) zI0_right).mono ?_
          rintro e y3 ⟨rfl, hb⟩
          have H3 := Lib.hid (H2.out.trans (hb.mono H2.out.size))
          clear hb H2
          go_wp2_with fail
          refine (alive26_any y3).mono ?_
          rintro e y4 ⟨rfl, hb⟩
          have H4 := Lib.hid (H3.out.trans (hb.mono H3.out.size))
          clear hb H3
          go_wp2_with fail
          go_ret
          exact ⟨rfl, H4.out⟩
    · have g0 : decide (0 ≤ cut) = false := by simpa using hc0
      clear hc0
      by_cases hP : n ≤ 1800 ∧ ∃ m, inP sb = .ok (m, [])
      · obtain ⟨hn18, mm, hm⟩ := hP
        obtain ⟨e1, e2, e3, e4, -⟩ := in_ok HB.out hm
        rw [List.append_nil] at e1
        have HE := Lib.hid e1.symm
        have HR2 := Lib.hid e2
        have HO2 := Lib.hid e3
        have HX := Lib.hid (inread_yes As n cs w9 sb HL.out HLC.out HB.out (Hw9).out.2 hn18 mm hm)
        have HN18 := Lib.hid hn18
        clear hm e1 e2 e3 e4 hn18
        go_wp2_with fail
        refine HX.out.mono ?_
        rintro e y1 ⟨Ay, cy, rfl, hok, hb⟩
        have HY1 := Lib.hid hok
        have H1 := Lib.hid (show Below W.heap.size W y1 ∧ Byt.ByR y1 As sb from ⟨(Hw9).out.1.trans (hb.mono (Hw9).out.1.size), (Hw9).out.2.next hb⟩)
        clear hb HX hok
        go_wp2_with (first | (refine wpList_store_blk rfl 42 _ _ rfl (y1).heap.size 42 zinA (mm.at Ay cy).cells.toArray rfl rfl (Blk.new' rfl) (ivinfoA _) (zin_siz _) (iv_one _) ?_; intro hy; have hbn : Below (y1).heap.size y1 (((y1).alloc (.cells zinA 42)).setRow (y1).heap.size (mm.at Ay cy).cells.toArray) := below_setRow ((Below.refl _ _).alloc (Nat.le_refl _) _) (Nat.le_refl _) _; obtain ⟨y2, hnw⟩ : ∃ y2, y2 = (((y1).alloc (.cells zinA 42)).setRow (y1).heap.size (mm.at Ay cy).cells.toArray) := ⟨_, rfl⟩; rw [← hnw] at hbn hy ⊢; clear hnw; have rm := hy.range; have HY2 := Lib.hid (HY1.out.next hbn)) | (refine wpList_load_midg (by rfl) 42 _ rfl _ _ rfl (Iv.cells ?_) _ ?_ Try.underlying42 rfl (ivinfo _) ?_; rotate_left; (focus assumption)))
        have H2 := Lib.hid (show Below W.heap.size W y2 ∧ Byt.ByR y2 As sb from ⟨H1.out.1.trans (hbn.mono H1.out.1.size), H1.out.2.next hbn⟩)
        clear hbn H1 hy rm
        refine (write_byr (mm.at Ay cy) y2 HY2.out ⟨HO2.out.f, HO2.out.t, HO2.out.p⟩ ((rightI_at _ _ _).trans HR2.out) (by rw [encI_at, HE.out, HL.out]; exact HN18.out)).mono ?_
        rw [encI_at, HE.out, HL.out]
        rintro e y3 ⟨A3, c3, rfl, -, hb3, hn3, hb⟩
        have HV3 := Lib.hid (And.intro hb3 hn3)
        have H3 := Lib.hid (show Below W.heap.size W y3 ∧ Byt.ByR y3 As sb from ⟨H2.out.1.trans (hb.mono H2.out.1.size), H2.out.2.next hb⟩)
        clear hb3 hn3 hb H2 HE
        go_wp2_with fail
        refine (alive26_any y3).mono ?_
        rintro e y4 ⟨rfl, hb⟩
        have cv1 := conv_byr (c := c3) (n := n) (HV3.out.1.next hb) HV3.out.2 HB.out HL.out
        have cv2 := conv_byr (c := cs) (n := n) (H3.out.2.next hb) HSN.out HB.out HL.out
        have H4 := Lib.hid (H3.out.1.trans (hb.mono H3.out.1.size))
        clear hb H3 HV3
        go_wp2_with fail
        go_ret
        exact ⟨by first | rfl | simp, H4.out⟩
      · have HX := Lib.hid (inread_no' As n cs w9 sb HL.out HLC.out HB.out (Hw9).out.2 (by
          by_cases h18 : 1800 < n
          · exact Or.inl h18
          · exact Or.inr (fun m hm => hP ⟨by omega, m, hm⟩)))
        clear hP
        go_wp2_with fail
        refine HX.out.mono ?_
        rintro e y1 ⟨rfl, hb⟩
        have H1 := Lib.hid ((Hw9).out.1.trans (hb.mono (Hw9).out.1.size))
        clear hb HX
        go_wp2_with (first | (refine wpList_store_blk rfl 42 _ _ rfl (y1).heap.size 42 zinA (zI 0).cells.toArray rfl rfl (Blk.new' rfl) (ivinfoA _) (zin_siz _) (iv_one _) ?_; intro hy; have hbn : Below (y1).heap.size y1 (((y1).alloc (.cells zinA 42)).setRow (y1).heap.size (zI 0).cells.toArray) := below_setRow ((Below.refl _ _).alloc (Nat.le_refl _) _) (Nat.le_refl _) _; obtain ⟨y2, hnw⟩ : ∃ y2, y2 = (((y1).alloc (.cells zinA 42)).setRow (y1).heap.size (zI 0).cells.toArray) := ⟨_, rfl⟩; rw [← hnw] at hbn hy ⊢; clear hnw; have rm := hy.range) | (refine wpList_load_midg (by rfl) 42 _ rfl _ _ rfl (Iv.cells ?_) _ ?_ Try.underlying42 rfl (ivinfo _) ?_; rotate_left; (focus assumption)))
        have H2 := Lib.hid (H1.out.trans (hbn.mono H1.out.size))
        clear hbn H1 hy rm
        refine (write_no (zI 0) y2 (zx_ok y2) zI0_right).mono ?_
        rintro e y3 ⟨rfl, hb⟩
        have H3 := Lib.hid (H2.out.trans (hb.mono H2.out.size))
        clear hb H2
        go_wp2_with fail
        refine (alive26_any y3).mono ?_
        rintro e y4 ⟨rfl, hb⟩
        have H4 := Lib.hid (H3.out.trans (hb.mono H3.out.size))
        clear hb H3
        go_wp2_with fail
        go_ret
        exact ⟨rfl, H4.out⟩
end In
open In

set_option maxRecDepth 100000 in
theorem inputback_lifted (os : Os) (started : os.Started) (H : Type) (enc : TypeId × Value → H) :
    ReturnsInHanded {} Try.checked os 3 .any (Rows.inputBackSpec.pre6 enc Try.prog Try.f3 Rows.inputBackRow.domain false) (Rows.inputBackSpec.post enc Try.prog Try.f3 false true false false) := by
  refine law_lift (C := Try.checked) own_knob started (by kernel_rfl) Try.func3 rfl Try.underlying4 laid_out (by kernel_rfl) rfl ?_
    (ChangeSpec.witness6 (enc := enc) (C := Try.checked) false ⟨#[], #[.agg #[.int .i64 0, .int .i64 0, .int .i64 0, .int .i64 0, .int .u32 0, .int .u32 0, .int .u32 0, .int .u32 0, .int .u32 0, .int .u32 0, .int .u32 0, .int .u32 0, .int .u32 0, .int .u32 0, .int .u32 0, .int .u32 0, .int .u64 0, .int .i64 0, .int .i64 0, .int .i64 0, .int .u64 0, .bool false, .int .i64 0, .int .i64 0, .int .u64 0, .slice none 0 0], .slice none 0 0, .int .i64 0], []⟩ 8 (by kernel_rfl) (by kernel_rfl) (by kernel_rfl) (by kernel_rfl)) ?_
  · intro ds hds
    match ds, hds with
    | [_, _, _], _ => rfl
  intro W base args ds ps hval hA hlt hsz
  rw [Try.params3] at hA hval
  obtain ⟨v0, vs0, d0, ds0, p0, q0, hargs, rfl, rfl, h0, r0⟩ := trodAll_cons hA
  obtain ⟨v1, vs1, d1, ds1, p1, q1, rfl, rfl, rfl, h1, r1⟩ := trodAll_cons r0
  obtain ⟨v2, vs2, d2, ds2, p2, q2, rfl, rfl, rfl, h2, r2⟩ := trodAll_cons r1
  obtain ⟨rfl, rfl, rfl⟩ := trodAll_nil r2
  obtain rfl : args = #[v0, v1, v2] := by cases args; simp_all
  obtain ⟨p, rfl, hp, xp⟩ := open_pl (hval 0 32 v0 rfl rfl) h0 (fun x hx => hlt x (by simp [hx]))
  obtain ⟨As, n, cs, sb, rfl, hn, hnc, _, hb256, hby, hnone⟩ := Byt.open_bytes (hval 1 28 v1 rfl rfl) h1 (fun x hx => hlt x (by simp [hx]))
  obtain ⟨a2, rfl, rfl, rfl, w2⟩ := open_int Try.underlying3 (hval 2 3 v2 rfl rfl) h2
  exact back_walk p hp As n cs sb a2 W xp hn hnc hb256 hby hnone

theorem inputback_holds : Rows.InputBackSaid :=
  OpenClaim.holds_of_wide 3 Try.f3 rfl rfl rfl rfl rfl rfl rfl ⟨rfl, rfl, rfl, rfl, rfl⟩ rfl rfl rfl rfl rfl (by kernel_rfl) Try.func3 (by kernel_rfl)
    (of_decide_eq_true (by kernel_rfl)) (by unfold Func.isWrapper; first | (rw [if_pos (by decide +kernel)]; kernel_rfl) | (rw [if_neg (by decide +kernel)]; exact ⟨rfl, rfl⟩))
    (fun os started H enc _ => inputback_lifted os started H enc)


end Go.Proofs.Ytgnfachjobohoaa
