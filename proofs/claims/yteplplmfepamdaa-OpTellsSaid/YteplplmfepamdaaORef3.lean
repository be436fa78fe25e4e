/-
The document's event of bytes: Right, Get, Read.
-/
import Derived.Test.YteplplmfepamdaaORef2
namespace Go.Proofs.Yteplplmfepamdaa
open Go.RowKit
set_option linter.unusedSimpArgs false
set_option linter.unusedVariables false
attribute [local go_sem] Tot.run_store_float
theorem einfoL6 (x : Ev) : (Try.prog.info? 37).map (·.size) = some x.item.length := by rw [item_len]; kernel_rfl
theorem einfoA6 (x : Ev) : (Try.prog.info? 37).map (·.size) = some x.item.toArray.size := by rw [List.size_toArray, item_len]; kernel_rfl
theorem item_siz (x : Ev) : (#[.int .u64 0, .int .i64 0, .int .u32 0, .int .i64 0, .int .i64 0, .int .u32 0, .int .u32 0, .int .u32 0, .int .u32 0, .int .u32 0, .int .u32 0, .int .u32 0, .int .u32 0, .int .u32 0, .int .u32 0, .int .u32 0, .int .u32 0, .int .i64 0, .int .i64 0, .int .i64 0, .int .u64 0] : Array Value).size = x.item.toArray.size := show 21 = x.item.toArray.size by rw [List.size_toArray, item_len]
def zOpR : OpR := ⟨0, 0, 0, 0⟩
def zOpRL : List Value := [.int .i64 0, .int .i64 0, .int .i64 0, .int .u64 0]
theorem zOpR_plain : zOpR.plain = zOpRL := congrArg Array.toList (plain_arr zOpR)
theorem built_rev_fill (parts : List (Nat × Value)) : Try.prog.built 37 parts = Instr.fill (#[(0, 17), (17, 4)][·]?) #[.int .u64 0, .int .i64 0, .int .u32 0, .int .i64 0, .int .i64 0, .int .u32 0, .int .u32 0, .int .u32 0, .int .u32 0, .int .u32 0, .int .u32 0, .int .u32 0, .int .u32 0, .int .u32 0, .int .u32 0, .int .u32 0, .int .u32 0, .int .i64 0, .int .i64 0, .int .i64 0, .int .u64 0] parts := by kernel_rfl
theorem built_rev (l : Lab) : Try.prog.built 37 [(0, .agg l.cells.toArray)] = some (Ev.mk l zOpR).item.toArray := by
  rw [built_rev_fill]
  have h1 := fill_one (place := (#[(0, 17), (17, 4)][·]?)) (i := 0) (off := 0) (cs := l.cells) (pre := []) (mid := zLabL) (post := zOpRL) (rest := []) (by rw [lab_len]; rfl) rfl (by rw [lab_len]; rfl)
  have e : (#[.int .u64 0, .int .i64 0, .int .u32 0, .int .i64 0, .int .i64 0, .int .u32 0, .int .u32 0, .int .u32 0, .int .u32 0, .int .u32 0, .int .u32 0, .int .u32 0, .int .u32 0, .int .u32 0, .int .u32 0, .int .u32 0, .int .u32 0, .int .i64 0, .int .i64 0, .int .i64 0, .int .u64 0] : Array Value) = ([] ++ (zLabL ++ zOpRL)).toArray := rfl
  rw [e, h1, List.nil_append, Instr.fill, item_def, zOpR_plain]
theorem rev_op (l : Lab) (o : OpR) : setL (Ev.mk l zOpR).item.toArray 17 o.plain = (Ev.mk l o).item.toArray := by
  have := setL_app o.plain zOpRL l.cells (by rw [plain_len]; rfl)
  rw [lab_len] at this
  rw [item_def, zOpR_plain, this, item_def]
/-- What lies where in an event's box. -/
theorem item_cells {W : World} {b : Nat} {t : TypeId} {x : Ev} (h : Blk W b t x.item.toArray) : W.rangeAt b 0 x.item ∧ W.rangeAt b 0 x.l.cells ∧ W.rangeAt b 17 x.o.plain ∧ W.cell? ⟨b, 4, none⟩ = some (.int .i64 x.l.se) := by
  obtain ⟨h1, h2, h3⟩ := item_all h
  exact ⟨h1, h2, h3, by have := h2 4 _ lab_4; rwa [Nat.zero_add] at this⟩
set_option maxRecDepth 20000 in
set_option maxHeartbeats 8000000 in
theorem rright6_any (x : Ev) (hf : ∀ i, x.l.f i < 4294967296) (hn : x.l.n < 4294967296) (W : World) : Calls Try.prog 15 #[.agg x.item.toArray] W fun e W' => e = .returned (.bool (rightE x)) ∧ Below W.heap.size W W' := by
  have bA := Blk.new W 37 x.item.toArray
  have hB0 := (Below.refl W.heap.size W).alloc (Nat.le_refl _) (.cells x.item.toArray 37)
  have HB := Lib.hid hB0
  have HBK := Lib.hid bA
  obtain ⟨_, rl, _, _⟩ := item_cells bA
  have HR := Lib.hid (rright5_any x.l hf hn)
  clear bA hB0
  cases hr : rightL x.l with
  | false =>
    have HE := Lib.hid (show rightE x = false from by unfold rightE; rw [hr]; rfl)
    rw [hr] at HR
    clear hr
    go_enter Try.func15, Try.ntmps15
    go_wp2_with (first | (refine wpList_load_midg (by rfl) 34 _ rfl _ _ rfl (Lab.cells x.l) _ rl Try.underlying34 rfl (rlinfo _) ?_))
    refine (HR.out _).mono ?_
    rintro e w2 ⟨rfl, hb⟩
    have HB2 := Lib.hid (HB.out.trans (hb.mono HB.out.size))
    clear hb rl
    go_wp2_with fail
    go_ret
    exact ⟨by rw [HE.out] <;> rfl, HB2.out⟩
  | true =>
    have hse : 0 ≤ x.l.se := by
      unfold rightL placeB at hr
      simp only [Bool.and_eq_true, decide_eq_true_eq] at hr
      exact hr.1.1.2.1.2
    rw [hr] at HR
    cases hs : decide (0 < x.l.se) with
    | false =>
      have HE := Lib.hid (show rightE x = false from by
        have : x.l.se = 0 := by have := of_decide_eq_false hs; omega
        unfold rightE; rw [hr, this]; rfl)
      clear hr hse
      go_enter Try.func15, Try.ntmps15
      go_wp2_with (first | (refine wpList_load_midg (by rfl) 34 _ rfl _ _ rfl (Lab.cells x.l) _ rl Try.underlying34 rfl (rlinfo _) ?_))
      refine (HR.out _).mono ?_
      rintro e w2 ⟨rfl, hb⟩
      have HB2 := Lib.hid (HB.out.trans (hb.mono HB.out.size))
      obtain ⟨_, _, _, c4⟩ := item_cells (HBK.out.next hb)
      clear hb rl
      go_wp2_with fail
      go_ret
      exact ⟨by rw [HE.out] <;> rfl, HB2.out⟩
    | true =>
      have HE := Lib.hid (show rightE x = mayO x.o from by
        have h1 : (x.l.se != 0) = true := by have := of_decide_eq_true hs; simp; omega
        unfold rightE; rw [hr, h1]; rfl)
      clear hr hse
      go_enter Try.func15, Try.ntmps15
      go_wp2_with (first | (refine wpList_load_midg (by rfl) 34 _ rfl _ _ rfl (Lab.cells x.l) _ rl Try.underlying34 rfl (rlinfo _) ?_))
      refine (HR.out _).mono ?_
      rintro e w2 ⟨rfl, hb⟩
      have HB2 := Lib.hid (HB.out.trans (hb.mono HB.out.size))
      obtain ⟨_, _, rp, c4⟩ := item_cells (HBK.out.next hb)
      clear hb rl
      go_wp2_with (first | (refine wpList_load_midg (by rfl) 35 _ rfl _ _ rfl (OpR.plain x.o) _ rp Try.underlying35 rfl (pinfoL6 _) ?_))
      refine (rmay6_any x.o w2).mono ?_
      rintro e w3 ⟨rfl, hb⟩
      have HB3 := Lib.hid (HB2.out.trans (hb.mono HB2.out.size))
      clear hb rp c4
      go_wp2_with fail
      go_ret
      exact ⟨by rw [HE.out, rmayB_eq] <;> rfl, HB3.out⟩
theorem ev_post {bs : List Nat} {p p1 p2 : Nat} {e e1 e2 : Int} {l : Lab} {o : OpR} (P1 : PostP labP bs p p1 e e1 (fun x => l = x)) (P2 : PostP opP bs p1 p2 e1 e2 (fun x => o = x)) :
    (e2 = 0 → e = 0 ∧ evP (bs.drop p) = if rightE ⟨l, o⟩ then .ok (⟨l, o⟩, bs.drop p2) else .error 3) ∧ (e2 ≠ 0 → e = 0 → ∃ y, evP (bs.drop p) = .error y) := by
  constructor
  · intro h2
    obtain ⟨h1, o', r2, rfl⟩ := P2.ok h2
    obtain ⟨h0, l', r1, rfl⟩ := P1.ok h1
    refine ⟨h0, ?_⟩
    rw [evP_def]
    refine (bindP_ok r1).trans ?_
    exact bindP_ok r2
  · intro h2 h0
    rw [evP_def]
    by_cases h1 : e1 = 0
    · obtain ⟨_, l', r1, rfl⟩ := P1.ok h1
      obtain ⟨y, hy⟩ := P2.no h1 h2
      exact ⟨y, (bindP_ok r1).trans (bindP_err hy)⟩
    · obtain ⟨y, hy⟩ := P1.no h0 h1
      exact ⟨y, bindP_err hy⟩
set_option maxRecDepth 20000 in
set_option maxHeartbeats 16000000 in
theorem refget6_any (k c : Nat) (A : Option Addr) (bs : List Nat) (hlen : bs.length ≤ 140737488355328) (hc : bs.length ≤ c) (hby : ∀ x ∈ bs, x < 256) (p : Nat) (e : Int) (W : World) (h : RS W k A c bs p e) :
    Calls Try.prog 27 #[.pointer (some ⟨k, 0, none⟩)] W fun r W' => ∃ (o : Ev) (p' : Nat) (e' : Int), r = .returned (.agg o.item.toArray) ∧ RS W' k A c bs p' e' ∧ Off k W W' ∧ PostP evP bs p p' e e' (fun x => o = x) := by
  have hk := h.1.lt
  have hlow := h.low
  have b1 := (Below.refl W.heap.size W).alloc (Nat.le_refl _) (.cells #[.int .u64 0, .int .i64 0, .int .u32 0, .int .i64 0, .int .i64 0, .int .u32 0, .int .u32 0, .int .u32 0, .int .u32 0, .int .u32 0, .int .u32 0, .int .u32 0, .int .u32 0, .int .u32 0, .int .u32 0, .int .u32 0, .int .u32 0, .int .i64 0, .int .i64 0, .int .i64 0, .int .u64 0] 37)
  have hg := Blk.new W 37 #[.int .u64 0, .int .i64 0, .int .u32 0, .int .i64 0, .int .i64 0, .int .u32 0, .int .u32 0, .int .u32 0, .int .u32 0, .int .u32 0, .int .u32 0, .int .u32 0, .int .u32 0, .int .u32 0, .int .u32 0, .int .u32 0, .int .u32 0, .int .i64 0, .int .i64 0, .int .i64 0, .int .u64 0]
  have hsz : (W.alloc (.cells #[.int .u64 0, .int .i64 0, .int .u32 0, .int .i64 0, .int .i64 0, .int .u32 0, .int .u32 0, .int .u32 0, .int .u32 0, .int .u32 0, .int .u32 0, .int .u32 0, .int .u32 0, .int .u32 0, .int .u32 0, .int .u32 0, .int .u32 0, .int .i64 0, .int .i64 0, .int .i64 0, .int .u64 0] 37)).heap.size = W.heap.size + 1 := by simp
  obtain ⟨w0, hw0⟩ : ∃ w0, w0 = W.alloc (.cells #[.int .u64 0, .int .i64 0, .int .u32 0, .int .i64 0, .int .i64 0, .int .u32 0, .int .u32 0, .int .u32 0, .int .u32 0, .int .u32 0, .int .u32 0, .int .u32 0, .int .u32 0, .int .u32 0, .int .u32 0, .int .u32 0, .int .u32 0, .int .i64 0, .int .i64 0, .int .i64 0, .int .u64 0] 37) := ⟨_, rfl⟩
  have HS0 := Lib.hid (h.next b1)
  rw [← hw0] at b1 hg hsz HS0
  have HG0 := Lib.hid hg
  have HB0 := Lib.hid b1
  have HSZ := Lib.hid hsz
  have HK := Lib.hid hk
  have HLOW := Lib.hid hlow
  go_enter Try.func27, Try.ntmps27
  go_upto_region 1 with fail
  rw [← hw0]
  clear hw0 h b1 hg hsz hk hlow
  go_wp2_with fail
  refine (refget5_any k c A bs hlen hby p e w0 HS0.out).mono ?_
  rintro r w1 ⟨l, p1, e1, rfl, hS, hO, hlb, hP⟩
  have HP1 := Lib.hid hP
  have HLB := Lib.hid hlb
  have bb := (Below.refl w1.heap.size w1).alloc (Nat.le_refl _) (.cells #[.int .u64 0, .int .i64 0, .int .u32 0, .int .i64 0, .int .i64 0, .int .u32 0, .int .u32 0, .int .u32 0, .int .u32 0, .int .u32 0, .int .u32 0, .int .u32 0, .int .u32 0, .int .u32 0, .int .u32 0, .int .u32 0, .int .u32 0, .int .i64 0, .int .i64 0, .int .i64 0, .int .u64 0] 37)
  have hgl : W.heap.size < w1.heap.size := by have := hO.size; have := HSZ.out; omega
  have P := Lib.hid (show PlR k w1.heap.size A bs W.heap.size from ⟨HK.out, hgl, HLOW.out⟩)
  have hn0 := Blk.new w1 37 #[.int .u64 0, .int .i64 0, .int .u32 0, .int .i64 0, .int .i64 0, .int .u32 0, .int .u32 0, .int .u32 0, .int .u32 0, .int .u32 0, .int .u32 0, .int .u32 0, .int .u32 0, .int .u32 0, .int .u32 0, .int .u32 0, .int .u32 0, .int .i64 0, .int .i64 0, .int .i64 0, .int .u64 0]
  have A0 := Lib.hid (show AtG 37 #[.int .u64 0, .int .i64 0, .int .u32 0, .int .i64 0, .int .i64 0, .int .u32 0, .int .u32 0, .int .u32 0, .int .u32 0, .int .u32 0, .int .u32 0, .int .u32 0, .int .u32 0, .int .u32 0, .int .u32 0, .int .u32 0, .int .u32 0, .int .i64 0, .int .i64 0, .int .i64 0, .int .u64 0] k w1.heap.size c A bs W (w1.alloc (.cells #[.int .u64 0, .int .i64 0, .int .u32 0, .int .i64 0, .int .i64 0, .int .u32 0, .int .u32 0, .int .u32 0, .int .u32 0, .int .u32 0, .int .u32 0, .int .u32 0, .int .u32 0, .int .u32 0, .int .u32 0, .int .u32 0, .int .u32 0, .int .i64 0, .int .i64 0, .int .i64 0, .int .u64 0] 37)) p1 e1 #[.int .u64 0, .int .i64 0, .int .u32 0, .int .i64 0, .int .i64 0, .int .u32 0, .int .u32 0, .int .u32 0, .int .u32 0, .int .u32 0, .int .u32 0, .int .u32 0, .int .u32 0, .int .u32 0, .int .u32 0, .int .u32 0, .int .u32 0, .int .i64 0, .int .i64 0, .int .i64 0, .int .u64 0] from ⟨hS.next bb, hn0, (hO.blk HG0.out (by have := HK.out; omega)).next bb, ((Off.ofBelow HB0.out).trans hO).trans (Off.ofBelow bb)⟩)
  clear hS hO hP bb hgl HG0 HB0 HS0 HSZ hlb
  go_upto_region 2 with (first | (refine wpList_build_lit (Ev.mk l zOpR).item.toArray (by rfl) 37 [(0, _)] rfl (built_rev l) ?_) | (refine wpList_store_blk rfl 37 _ _ rfl w1.heap.size 37 #[.int .u64 0, .int .i64 0, .int .u32 0, .int .i64 0, .int .i64 0, .int .u32 0, .int .u32 0, .int .u32 0, .int .u32 0, .int .u32 0, .int .u32 0, .int .u32 0, .int .u32 0, .int .u32 0, .int .u32 0, .int .u32 0, .int .u32 0, .int .i64 0, .int .i64 0, .int .i64 0, .int .u64 0] (Ev.mk l zOpR).item.toArray rfl rfl hn0 (einfoA6 _) (item_siz _) (item_one _) ?_; intro hrow))
  have A1 := Lib.hid (A0.out.row P.out (Ev.mk l zOpR).item.toArray)
  obtain ⟨x1, hx1⟩ : ∃ x1, x1 = (w1.alloc (.cells #[.int .u64 0, .int .i64 0, .int .u32 0, .int .i64 0, .int .i64 0, .int .u32 0, .int .u32 0, .int .u32 0, .int .u32 0, .int .u32 0, .int .u32 0, .int .u32 0, .int .u32 0, .int .u32 0, .int .u32 0, .int .u32 0, .int .u32 0, .int .i64 0, .int .i64 0, .int .i64 0, .int .u64 0] 37)).setRow w1.heap.size (Ev.mk l zOpR).item.toArray := ⟨_, rfl⟩
  rw [← hx1] at A1 hrow ⊢
  clear hx1 hrow hn0 A0
  obtain ⟨g, hgg⟩ : ∃ g, g = w1.heap.size := ⟨_, rfl⟩
  rw [← hgg] at A1 P ⊢
  clear hgg
  go_wp2_with fail
  refine (refgetop_any k c A bs hlen hc hby p1 e1 x1 A1.out.1).mono ?_
  rintro r w2 ⟨o, p2, e2, rfl, hS, hO, hP⟩
  have HP2 := Lib.hid hP
  have B2 := Lib.hid (A1.out.step P.out hO hS)
  clear hS hO hP A1
  have ht := B2.out.2.1.there (o := 17) (n := o.plain.toArray.size) (by rw [List.size_toArray, List.size_toArray, plain_len, item_len]; exact Nat.le_refl 21)
  have A2 := Lib.hid (AtG.sets P.out o.plain 17 _ _ B2.out)
  rw [rev_op] at A2
  obtain ⟨x, hx⟩ : ∃ x, x = Ev.mk l o := ⟨_, rfl⟩
  have HPOST := Lib.hid (ev_post HP1.out HP2.out)
  have HXB := Lib.hid (show (∀ i, x.l.f i < 4294967296) ∧ x.l.n < 4294967296 from by rw [hx]; exact HLB.out)
  rw [← hx] at A2 HPOST
  clear hx
  go_upto_region 3 with (first | (refine wpList_store_mid rfl 35 _ _ rfl g 17 o.plain.toArray rfl rfl ht (pinfoA6 _) (plain_one _) ?_))
  obtain ⟨x2, hx2⟩ : ∃ x2, x2 = w2.setCells g 17 o.plain := ⟨_, rfl⟩
  rw [← hx2] at A2 ⊢
  clear hx2 ht B2
  obtain ⟨_, _, c2, cz⟩ := A2.out.1.cells
  have z2 := cz 2
  have rgl := A2.out.2.1.range
  clear cz
  by_cases he6 : e2 = 0
  · have HE6 := Lib.hid he6
    rw [he6] at c2
    clear he6
    go_wp2_with (first | (refine wpList_load_midg (by rfl) 37 _ rfl _ _ rfl (Ev.item x) _ rgl Try.underlying37 rfl (einfoL6 _) ?_))
    refine (rright6_any x HXB.out.1 HXB.out.2 x2).mono ?_
    rintro r x7 ⟨rfl, hb⟩
    have A7 := Lib.hid (A2.out.next P.out hb)
    clear hb c2 z2 rgl A2
    cases hr : rightE x with
    | true =>
      have HL := Lib.hid (show e = 0 ∧ evP (bs.drop p) = .ok (x, bs.drop p2) from by have := HPOST.out.1 HE6.out; rwa [hr, if_pos rfl] at this)
      have rgl := A7.out.2.1.range
      have bg := A7.out.2.2.1
      clear hr
      go_wp2_with (first | (refine wpList_load_midg (by rfl) 37 _ rfl _ _ rfl (Ev.item x) _ rgl Try.underlying37 rfl (einfoL6 _) ?_) | (refine wpList_store_blk rfl 37 _ _ rfl W.heap.size 37 _ x.item.toArray rfl rfl bg (einfoA6 _) (item_siz x) (item_one x) ?_; intro hrow))
      refine bodyPost_row (t := 37) x.item.toArray rfl rfl rfl Try.underlying37 rfl (einfoA6 _) hrow ?_
      exact ⟨x, p2, e2, rfl, (A7.out.res P.out _).1, (A7.out.res P.out _).2, by rw [HL.out.1, HE6.out]; exact PostP.good HL.out.2 rfl rfl⟩
    | false =>
      have HL := Lib.hid (show e = 0 ∧ evP (bs.drop p) = .error 3 from by have := HPOST.out.1 HE6.out; rw [hr] at this; exact this)
      obtain ⟨_, _, c2, cz⟩ := A7.out.1.cells
      have z2 := cz 2
      have A8 := Lib.hid (show AtG 37 #[.int .u64 0, .int .i64 0, .int .u32 0, .int .i64 0, .int .i64 0, .int .u32 0, .int .u32 0, .int .u32 0, .int .u32 0, .int .u32 0, .int .u32 0, .int .u32 0, .int .u32 0, .int .u32 0, .int .u32 0, .int .u32 0, .int .u32 0, .int .i64 0, .int .i64 0, .int .i64 0, .int .u64 0] k g c A bs W (x7.setCell ⟨k, 2, none⟩ (.int .i64 3)) p2 3 x.item.toArray from A7.out.step P.out ((Off.refl k x7).set 2 _) (A7.out.1.setE 3))
      have rgl := A8.out.2.1.range
      have bg := A8.out.2.2.1
      clear hr cz
      go_wp2_with (first | (refine wpList_load_midg (by rfl) 37 _ rfl _ _ rfl (Ev.item x) _ rgl Try.underlying37 rfl (einfoL6 _) ?_) | (refine wpList_store_blk rfl 37 _ _ rfl W.heap.size 37 _ x.item.toArray rfl rfl bg (einfoA6 _) (item_siz x) (item_one x) ?_; intro hrow))
      refine bodyPost_row (t := 37) x.item.toArray rfl rfl rfl Try.underlying37 rfl (einfoA6 _) hrow ?_
      exact ⟨x, p2, 3, rfl, (A8.out.res P.out _).1, (A8.out.res P.out _).2, by rw [HL.out.1]; exact PostP.err HL.out.2 (by decide)⟩
  · have f1 : (e2 == 0) = false := by simpa using he6
    have HE6 := Lib.hid he6
    have bg := A2.out.2.2.1
    clear he6
    go_wp2_with (first | (refine wpList_load_midg (by rfl) 37 _ rfl _ _ rfl (Ev.item x) _ rgl Try.underlying37 rfl (einfoL6 _) ?_) | (refine wpList_store_blk rfl 37 _ _ rfl W.heap.size 37 _ x.item.toArray rfl rfl bg (einfoA6 _) (item_siz x) (item_one x) ?_; intro hrow))
    refine bodyPost_row (t := 37) x.item.toArray rfl rfl rfl Try.underlying37 rfl (einfoA6 _) hrow ?_
    refine ⟨x, p2, e2, rfl, (A2.out.res P.out _).1, (A2.out.res P.out _).2, fun _ => HE6.out, fun h0 => ?_⟩
    obtain ⟨y, hy⟩ := HPOST.out.2 HE6.out h0
    rw [hy]
    exact HE6.out
end Go.Proofs.Yteplplmfepamdaa
