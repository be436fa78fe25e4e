/-
InputTells holds: which inputs may be, are equal, their bytes, and the input of any bytes, is told. No condition.
-/
import Derived.Test.YtgnfachjobohoaaGreatInR10
import Derived.Test.YtgnfachjobohoaaGreatInR8
import Derived.Test.YtgnfachjobohoaaGreatInR12
import Derived.Test.YtgnfachjobohoaaGreatInR13
namespace Go.Proofs.YtgnfachjobohoaaGreat
open Go.RowKit Go.ChangeShapes Go.WideShapes Go.ChangeAt
set_option linter.unusedSimpArgs false
set_option linter.unusedVariables false
namespace In
theorem WrI.next {m : Iv} {v : Value} {c : Int} {W W' : World} (h : WrI m v c W) (hb : Below W.heap.size W W') : WrI m v c W' := by
  cases hr : goodI m with
  | true =>
    obtain ⟨h0, A, cp, h1, h2, h3, h4⟩ := h.yes hr
    unfold WrI; rw [if_pos hr]; exact ⟨h0, A, cp, h1, h2, h3.next hb, h4⟩
  | false => have := h.no hr; unfold WrI; rw [if_neg (by simp [hr])]; exact this
theorem rc_at (m : Iv) (A : Option Addr) (c : Nat) : (m.at A c).rc = m.rc := rc_ext rfl rfl rfl rfl rfl rfl rfl rfl
theorem as26_at (m : Iv) (A : Option Addr) (c : Nat) (W : World) (hx : (m.at A c).x.Ok W) : Calls Tryz.prog 6 #[.agg (Iv.plain (m.at A c)).toArray] W fun e W' => e = .returned (.agg m.rc.toArray) ∧ Below W.heap.size W W' := by
  have := as26_any (m.at A c) W hx
  rwa [rc_at] at this
/-- Both reads of bytes. -/
def RB (As : Option Addr) (n cs : Nat) (sb : List Nat) (mm : Iv) (ec : Int) (ok : Bool) : Prop := ∀ w, Byt.ByR w As sb →
  (Calls Tryz.prog 9 #[.slice As n cs] w fun e W' => ∃ A c, e = .returned (.tuple #[.agg (mm.at A c).cells.toArray, .int .i64 ec]) ∧ (mm.at A c).x.Ok W' ∧ Below w.heap.size w W') ∧
  (Calls Tryz.prog 10 #[.slice As n cs] w fun e W' => e = .returned (.tuple #[.agg mm.rc.toArray, .bool ok]) ∧ Below w.heap.size w W')
theorem zinA_at : (.agg zinA : Value) = .agg ((zI 0).at none 0).cells.toArray := by
  rw [show (zI 0).at none 0 = zI 0 from rfl, zI_cells]
theorem read_both (As : Option Addr) (n cs : Nat) (sb : List Nat) (hn : sb.length = n) (hnc : n ≤ cs) (hb256 : ∀ x ∈ sb, x < 256) (hl : n ≤ 2000) : ∃ mm : Iv, (∀ y ∈ mm.x.p.bs, y < 256) ∧ (RB As n cs sb mm 0 true ∨ RB As n cs sb mm 3 false) := by
  have hr : ∀ w, Byt.ByR w As sb → Calls Tryz.prog 10 #[.slice As n cs] w fun r W' => ∃ v ok, r = .returned (.tuple #[v, .bool ok]) ∧ Below w.heap.size w W' ∧ RdP sb v ok := fun w h => by
    have := rread26_any As cs sb (by omega) (by omega) hb256 w h
    rwa [hn] at this
  by_cases hP : n ≤ 1800 ∧ ∃ m, inP sb = .ok (m, [])
  · obtain ⟨hl2, m, hm⟩ := hP
    refine ⟨m, (in_ok hb256 hm).2.2.2.1, Or.inl fun w h => ⟨(inread_yes As n cs w sb hn hnc hb256 h hl2 m hm).mono ?_, (hr w h).mono ?_⟩⟩
    · rintro e W' ⟨A, c, rfl, ho, hb⟩
      exact ⟨A, c, rfl, ho, hb⟩
    · rintro e W' ⟨v, ok, rfl, hb, ⟨rfl, m', hm', _, rfl, _⟩ | ⟨rfl, h2, _⟩⟩
      · rw [hm] at hm'
        simp only [Except.ok.injEq, Prod.mk.injEq, and_true] at hm'
        subst hm'
        exact ⟨rfl, hb⟩
      · rcases h2 with h2 | h2
        · exact absurd hm (h2 m)
        · omega
  · refine ⟨zI 0, z256, Or.inr fun w h => ⟨?_, (hr w h).mono ?_⟩⟩
    · have h1 : Calls Tryz.prog 9 #[.slice As n cs] w fun e W' => e = .returned (.tuple #[.agg zinA, .int .i64 3]) ∧ Below w.heap.size w W' := by
        by_cases hl2 : n ≤ 1800
        · exact inread_no As n cs w sb hn hnc hb256 h hl2 (fun m hm => hP ⟨hl2, m, hm⟩)
        · exact inread_long As n cs w (by omega)
      refine h1.mono ?_
      rintro e W' ⟨rfl, hb⟩
      exact ⟨none, 0, by rw [zinA_at], zx_ok _, hb⟩
    · rintro e W' ⟨v, ok, rfl, hb, ⟨rfl, m', hm', h18, rfl, _⟩ | ⟨rfl, h2, rfl⟩⟩
      · exact absurd ⟨by omega, m', hm'⟩ hP
      · exact ⟨rfl, hb⟩
set_option maxRecDepth 100000 in
set_option maxHeartbeats 32000000 in
theorem tells_walk (p q : Iv) (hp : p.Bd) (hq : q.Bd) (As : Option Addr) (n cs : Nat) (sb : List Nat) (W : World) (xp : p.x.Ok W) (xq : q.x.Ok W) (hn : sb.length = n) (hnc : n ≤ cs) (hb256 : ∀ x ∈ sb, x < 256) (hby : Byt.ByR W As sb) :
    Calls Tryz.prog 3 #[.agg (Iv.plain p).toArray, .agg (Iv.plain q).toArray, .slice As n cs] W fun e W' => e = .returned (.bool true) ∧ Below W.heap.size W W' := by
  have bA := (Blk.new W 32 (Iv.plain p).toArray).alloc (.cells (Iv.plain q).toArray 32)
  have bB : Blk ((W.alloc (.cells (Iv.plain p).toArray 32)).alloc (.cells (Iv.plain q).toArray 32)) (W.heap.size + 1) 32 (Iv.plain q).toArray := Blk.new' (by simp)
  have hB := ((Below.refl W.heap.size W).alloc (Nat.le_refl _) (.cells (Iv.plain p).toArray 32)).alloc (by simp) (.cells (Iv.plain q).toArray 32)
  have HBY := Lib.hid hby
  have HXX := Lib.hid (And.intro xp xq)
  have HOP := Lib.hid hp.ok
  have HOQ := Lib.hid hq.ok
  have H2P := Lib.hid xp.h256
  have H2Q := Lib.hid xq.h256
  have HNN := Lib.hid (And.intro hn (And.intro hnc hb256))
  clear hby hp hq xp xq hn hnc hb256
  go_enter Tryz.func3, Tryz.ntmps3
  go_upto_region 1 with fail
  obtain ⟨w0, hw0⟩ : ∃ w0, w0 = (W.alloc (.cells (Iv.plain p).toArray 32)).alloc (.cells (Iv.plain q).toArray 32) := ⟨_, rfl⟩
  rw [← hw0] at bA bB hB ⊢
  have Hw0 := Lib.hid (show Below W.heap.size W w0 ∧ Byt.ByR w0 As sb from ⟨hB, HBY.out.next hB⟩)
  have HP0 := Lib.hid bA
  have HQ0 := Lib.hid bB
  have HXP0 := Lib.hid (HXX.out.1.next hB)
  have HXQ0 := Lib.hid (HXX.out.2.next hB)
  clear hw0 hB bA bB HBY HXX
  have rp := HP0.out.range
  have HG1 := Lib.hid (fun w => great26_any p w)
  obtain ⟨z1, hz1⟩ : ∃ z, z = decide ((1810 : Int) < (p.x.p.bs.length : Nat)) := ⟨_, rfl⟩
  rw [← hz1] at HG1
  have HG2 := Lib.hid (fun w => great26_any q w)
  obtain ⟨z2, hz2⟩ : ∃ z, z = decide ((1810 : Int) < (q.x.p.bs.length : Nat)) := ⟨_, rfl⟩
  rw [← hz2] at HG2
  clear hz1 hz2
  cases z1 with
  | true =>
    go_wp2_with (first | (refine wpList_load_midg (by rfl) 32 _ rfl _ _ rfl (Iv.plain ?_) _ ?_ Tryz.underlying32 rfl (plinfo _) ?_; rotate_left; (focus assumption)) | ((with_reducible refine (HG1.out _).mono ?_); rintro e w1 ⟨rfl, hb⟩; have HB1 := Lib.hid (Hw0.out.1.trans (hb.mono Hw0.out.1.size)); clear hb rp) | (go_at_call 5; refine (alive26_any _).mono ?_; rintro e w2 ⟨rfl, hb⟩; have HB2 := Lib.hid (HB1.out.trans (hb.mono HB1.out.size)); clear hb))
    go_ret
    exact ⟨rfl, HB2.out⟩
  | false =>
  have rq := HQ0.out.range
  cases z2 with
  | true =>
    go_wp2_with (first | (refine wpList_load_midg (by rfl) 32 _ rfl _ _ rfl (Iv.plain ?_) _ ?_ Tryz.underlying32 rfl (plinfo _) ?_; rotate_left; (focus assumption)) | ((with_reducible refine (HG1.out _).mono ?_); rintro e w1 ⟨rfl, hb⟩; have HB1 := Lib.hid (Hw0.out.1.trans (hb.mono Hw0.out.1.size)); have rq := (HQ0.out.next hb).range; clear hb rp) | ((with_reducible refine (HG2.out _).mono ?_); rintro e w1 ⟨rfl, hb⟩; have HB2 := Lib.hid (HB1.out.trans (hb.mono HB1.out.size)); clear hb) | (go_at_call 5; refine (alive26_any _).mono ?_; rintro e w2 ⟨rfl, hb⟩; have HB3 := Lib.hid (HB2.out.trans (hb.mono HB2.out.size)); clear hb))
    go_ret
    exact ⟨rfl, HB3.out⟩
  | false =>
  by_cases hbig : (2000 : Int) < (n : Nat)
  · go_wp2_with (first | (refine wpList_load_midg (by rfl) 32 _ rfl _ _ rfl (Iv.plain ?_) _ ?_ Tryz.underlying32 rfl (plinfo _) ?_; rotate_left; (focus assumption)) | ((with_reducible refine (HG1.out _).mono ?_); rintro e w1 ⟨rfl, hb⟩; have HB1 := Lib.hid (Hw0.out.1.trans (hb.mono Hw0.out.1.size)); have rq := (HQ0.out.next hb).range; clear hb rp) | ((with_reducible refine (HG2.out _).mono ?_); rintro e w1 ⟨rfl, hb⟩; have HB2 := Lib.hid (HB1.out.trans (hb.mono HB1.out.size)); clear hb) | (go_at_call 5; refine (alive26_any _).mono ?_; rintro e w2 ⟨rfl, hb⟩; have HB3 := Lib.hid (HB2.out.trans (hb.mono HB2.out.size)); clear hb))
    go_ret
    exact ⟨rfl, HB3.out⟩
  obtain ⟨mm, hm256, hrb⟩ := read_both As n cs sb HNN.out.1 HNN.out.2.1 HNN.out.2.2 (by omega)
  have HRB := Lib.hid hrb
  have HM256 := Lib.hid hm256
  clear hrb hm256
  go_upto_region 3 with (first | (refine wpList_load_midg (by rfl) 32 _ rfl _ _ rfl (Iv.plain ?_) _ ?_ Tryz.underlying32 rfl (plinfo _) ?_; rotate_left; (focus assumption)) | ((with_reducible refine (HG1.out _).mono ?_); rintro e wg ⟨rfl, hb⟩; have HBg := Lib.hid hb; have rq := (HQ0.out.next hb).range; clear hb rp) | ((with_reducible refine (HG2.out _).mono ?_); rintro e w1 ⟨rfl, hb⟩; have HN := Lib.hid (HBg.out.trans (hb.mono HBg.out.size)); clear hb rq HBg))
  have hb := HN.out
  have Hw1 := Lib.hid (show Below W.heap.size W w1 ∧ Byt.ByR w1 As sb from ⟨Hw0.out.1.trans (hb.mono Hw0.out.1.size), Hw0.out.2.next hb⟩)
  have HP1 := Lib.hid (HP0.out.next hb)
  have HQ1 := Lib.hid (HQ0.out.next hb)
  have HXP1 := Lib.hid (HXP0.out.next hb)
  have HXQ1 := Lib.hid (HXQ0.out.next hb)
  clear hb Hw0 HP0 HQ0 HXP0 HXQ0
  clear HN HG1 HG2 hbig
  have rp := HP1.out.range
  go_wp2_with (first | (refine wpList_load_midg (by rfl) 32 _ rfl _ _ rfl (Iv.plain ?_) _ ?_ Tryz.underlying32 rfl (plinfo _) ?_; rotate_left; (focus assumption)))
  clear rp
  refine (as26_any p w1 HXP1.out).mono ?_
  rintro e w2 ⟨rfl, hb⟩
  have Hw2 := Lib.hid (show Below W.heap.size W w2 ∧ Byt.ByR w2 As sb from ⟨Hw1.out.1.trans (hb.mono Hw1.out.1.size), Hw1.out.2.next hb⟩)
  have HP2 := Lib.hid (HP1.out.next hb)
  have HQ2 := Lib.hid (HQ1.out.next hb)
  have HXP2 := Lib.hid (HXP1.out.next hb)
  have HXQ2 := Lib.hid (HXQ1.out.next hb)
  clear hb Hw1 HP1 HQ1 HXP1 HXQ1
  go_upto_region 4 with (refine wpList_store_blk rfl 39 _ _ rfl (w2).heap.size 39 zrinA p.rc.toArray rfl rfl (Blk.new' rfl) (rivinfoA _) (zrin_siz _) (riv_one _) ?_; intro hy; have hbn : Below (w2).heap.size w2 (((w2).alloc (.cells zrinA 39)).setRow (w2).heap.size p.rc.toArray) := below_setRow ((Below.refl _ _).alloc (Nat.le_refl _) _) (Nat.le_refl _) _; obtain ⟨w3, hnw⟩ : ∃ w3, w3 = (((w2).alloc (.cells zrinA 39)).setRow (w2).heap.size p.rc.toArray) := ⟨_, rfl⟩; rw [← hnw] at hbn hy ⊢; clear hnw)
  obtain ⟨g7, hg7⟩ : ∃ g7, g7 = w2.heap.size := ⟨_, rfl⟩
  rw [← hg7] at hy ⊢
  have HX3 := Lib.hid hy
  clear hg7 hy
  have Hw3 := Lib.hid (show Below W.heap.size W w3 ∧ Byt.ByR w3 As sb from ⟨Hw2.out.1.trans (hbn.mono Hw2.out.1.size), Hw2.out.2.next hbn⟩)
  have HP3 := Lib.hid (HP2.out.next hbn)
  have HQ3 := Lib.hid (HQ2.out.next hbn)
  have HXP3 := Lib.hid (HXP2.out.next hbn)
  have HXQ3 := Lib.hid (HXQ2.out.next hbn)
  clear hbn Hw2 HP2 HQ2 HXP2 HXQ2
  have rp := HP3.out.range
  go_wp2_with (first | (refine wpList_load_midg (by rfl) 32 _ rfl _ _ rfl (Iv.plain ?_) _ ?_ Tryz.underlying32 rfl (plinfo _) ?_; rotate_left; (focus assumption)))
  clear rp
  refine (plaininput_any p w3).mono ?_
  rintro e w4 ⟨rfl, hb⟩
  have Hw4 := Lib.hid (show Below W.heap.size W w4 ∧ Byt.ByR w4 As sb from ⟨Hw3.out.1.trans (hb.mono Hw3.out.1.size), Hw3.out.2.next hb⟩)
  have HP4 := Lib.hid (HP3.out.next hb)
  have HQ4 := Lib.hid (HQ3.out.next hb)
  have HXP4 := Lib.hid (HXP3.out.next hb)
  have HXQ4 := Lib.hid (HXQ3.out.next hb)
  have HX4 := Lib.hid (HX3.out.next hb)
  clear hb Hw3 HP3 HQ3 HXP3 HXQ3 HX3
  go_wp2_with fail
  refine (write_any p w4 HOP.out HXP4.out).mono ?_
  rintro e w5 ⟨va, ca, rfl, hwa, hb⟩
  have HWA5 := Lib.hid hwa
  clear hwa
  have Hw5 := Lib.hid (show Below W.heap.size W w5 ∧ Byt.ByR w5 As sb from ⟨Hw4.out.1.trans (hb.mono Hw4.out.1.size), Hw4.out.2.next hb⟩)
  have HP5 := Lib.hid (HP4.out.next hb)
  have HQ5 := Lib.hid (HQ4.out.next hb)
  have HXP5 := Lib.hid (HXP4.out.next hb)
  have HXQ5 := Lib.hid (HXQ4.out.next hb)
  have HX5 := Lib.hid (HX4.out.next hb)
  clear hb Hw4 HP4 HQ4 HXP4 HXQ4 HX4
  rcases HRB.out with hrb | hrb
  · have HRB := Lib.hid hrb
    clear hrb
    go_wp2_with fail
    refine ((HRB.out _ Hw5.out.2).1).mono ?_
    rintro e w6 ⟨Ar, cr, rfl, hor, hb⟩
    have HXR6 := Lib.hid hor
    clear hor
    have Hw6 := Lib.hid (show Below W.heap.size W w6 ∧ Byt.ByR w6 As sb from ⟨Hw5.out.1.trans (hb.mono Hw5.out.1.size), Hw5.out.2.next hb⟩)
    have HP6 := Lib.hid (HP5.out.next hb)
    have HQ6 := Lib.hid (HQ5.out.next hb)
    have HXP6 := Lib.hid (HXP5.out.next hb)
    have HXQ6 := Lib.hid (HXQ5.out.next hb)
    have HX6 := Lib.hid (HX5.out.next hb)
    have HWA6 := Lib.hid (HWA5.out.next hb)
    clear hb Hw5 HP5 HQ5 HXP5 HXQ5 HX5 HWA5
    go_upto_region 6 with (refine wpList_store_blk rfl 48 _ _ rfl (w6).heap.size 48 zinA (mm.at Ar cr).cells.toArray rfl rfl (Blk.new' rfl) (ivinfoA _) (zin_siz _) (iv_one _) ?_; intro hy; have hbn : Below (w6).heap.size w6 (((w6).alloc (.cells zinA 48)).setRow (w6).heap.size (mm.at Ar cr).cells.toArray) := below_setRow ((Below.refl _ _).alloc (Nat.le_refl _) _) (Nat.le_refl _) _; obtain ⟨w7, hnw⟩ : ∃ w7, w7 = (((w6).alloc (.cells zinA 48)).setRow (w6).heap.size (mm.at Ar cr).cells.toArray) := ⟨_, rfl⟩; rw [← hnw] at hbn hy ⊢; clear hnw; skip)
    obtain ⟨g10, hg10⟩ : ∃ g10, g10 = w6.heap.size := ⟨_, rfl⟩
    rw [← hg10] at hy ⊢
    have HM7 := Lib.hid hy
    clear hg10 hy
    have Hw7 := Lib.hid (show Below W.heap.size W w7 ∧ Byt.ByR w7 As sb from ⟨Hw6.out.1.trans (hbn.mono Hw6.out.1.size), Hw6.out.2.next hbn⟩)
    have HP7 := Lib.hid (HP6.out.next hbn)
    have HQ7 := Lib.hid (HQ6.out.next hbn)
    have HXP7 := Lib.hid (HXP6.out.next hbn)
    have HXQ7 := Lib.hid (HXQ6.out.next hbn)
    have HX7 := Lib.hid (HX6.out.next hbn)
    have HWA7 := Lib.hid (HWA6.out.next hbn)
    have HXR7 := Lib.hid (HXR6.out.next hbn)
    clear hbn Hw6 HP6 HQ6 HXP6 HXQ6 HX6 HWA6 HXR6
    go_wp2_with fail
    refine ((HRB.out _ Hw7.out.2).2).mono ?_
    rintro e w8 ⟨rfl, hb⟩
    have Hw8 := Lib.hid (show Below W.heap.size W w8 ∧ Byt.ByR w8 As sb from ⟨Hw7.out.1.trans (hb.mono Hw7.out.1.size), Hw7.out.2.next hb⟩)
    have HP8 := Lib.hid (HP7.out.next hb)
    have HQ8 := Lib.hid (HQ7.out.next hb)
    have HXP8 := Lib.hid (HXP7.out.next hb)
    have HXQ8 := Lib.hid (HXQ7.out.next hb)
    have HX8 := Lib.hid (HX7.out.next hb)
    have HWA8 := Lib.hid (HWA7.out.next hb)
    have HXR8 := Lib.hid (HXR7.out.next hb)
    have HM8 := Lib.hid (HM7.out.next hb)
    clear hb Hw7 HP7 HQ7 HXP7 HXQ7 HX7 HWA7 HXR7 HM7
    go_upto_region 7 with (refine wpList_store_blk rfl 39 _ _ rfl (w8).heap.size 39 zrinA mm.rc.toArray rfl rfl (Blk.new' rfl) (rivinfoA _) (zrin_siz _) (riv_one _) ?_; intro hy; have hbn : Below (w8).heap.size w8 (((w8).alloc (.cells zrinA 39)).setRow (w8).heap.size mm.rc.toArray) := below_setRow ((Below.refl _ _).alloc (Nat.le_refl _) _) (Nat.le_refl _) _; obtain ⟨w9, hnw⟩ : ∃ w9, w9 = (((w8).alloc (.cells zrinA 39)).setRow (w8).heap.size mm.rc.toArray) := ⟨_, rfl⟩; rw [← hnw] at hbn hy ⊢; clear hnw)
    obtain ⟨g12, hg12⟩ : ∃ g12, g12 = w8.heap.size := ⟨_, rfl⟩
    rw [← hg12] at hy ⊢
    have HY9 := Lib.hid hy
    clear hg12 hy
    have Hw9 := Lib.hid (show Below W.heap.size W w9 ∧ Byt.ByR w9 As sb from ⟨Hw8.out.1.trans (hbn.mono Hw8.out.1.size), Hw8.out.2.next hbn⟩)
    have HP9 := Lib.hid (HP8.out.next hbn)
    have HQ9 := Lib.hid (HQ8.out.next hbn)
    have HXP9 := Lib.hid (HXP8.out.next hbn)
    have HXQ9 := Lib.hid (HXQ8.out.next hbn)
    have HX9 := Lib.hid (HX8.out.next hbn)
    have HWA9 := Lib.hid (HWA8.out.next hbn)
    have HXR9 := Lib.hid (HXR8.out.next hbn)
    have HM9 := Lib.hid (HM8.out.next hbn)
    clear hbn Hw8 HP8 HQ8 HXP8 HXQ8 HX8 HWA8 HXR8 HM8
    have HR1 := Lib.hid (fun w h => right_any p w h)
    have HR2 := Lib.hid (fun w => rright26_any p H2P.out w)
    have HS := Lib.hid (fun w h1 h2 => same_any p q w h1 h2)
    have eq1 := fun w => eq_rin p q H2P.out H2Q.out w
    have eq2 := fun w => eq_rin mm mm HM256.out HM256.out w
    rw [show sameI mm mm = true from (sameI_iff _ _).2 ⟨rfl, rfl, rfl, rfl, rfl, rfl, rfl, rfl⟩] at eq2
    obtain ⟨rm, hrm⟩ : ∃ rm, rm = rightI p := ⟨_, rfl⟩
    obtain ⟨sm, hsm⟩ : ∃ sm, sm = sameI p q := ⟨_, rfl⟩
    simp only [← hrm] at HR1 HR2
    simp only [← hsm] at HS eq1
    have HRM := Lib.hid hrm
    clear hrm hsm
    have r1 := HP9.out.range
    have r2 := HQ9.out.range
    have r3 := HX9.out.range
    have r4 := HM9.out.range
    have r5 := HY9.out.range
    refine wp_region_tree (S := (fun W' => Below (w9).heap.size w9 W')) (.take 0 (.take 3 (.one 1 (.one 2 (.one 4 (.take 5 (.take 6 (.take 7 (.take 9 (.take 12 (.take 13 (.one 8 (.one 10 (.one 11 (.one 14 (.take 15 (.take 16 (.take 17 (.take 18 (.take 19 (.take 22 (.one 20 (.one 21 (.take 23 (.take 24 (.take 25 (.take 26 (.take 27 (.take 28 (.take 29 (.take 30 (.take 31 (.take 32 (.take 33 (.take 34 (.take 35 (.take 36 (.take 37 (.take 38 .nil))))))))))))))))))))))))))))))))))))))) 9999 (by kernel_rfl) (by kernel_rfl) (by kernel_rfl) (by kernel_rfl) (by kernel_rfl) (fun _ _ d _ _ h => by cases d <;> exact h) ?_ (fun hHeld => ?_); (focus (exact (Below.refl _ _).drew)); simp only [Tree.map, List.getElem?_toArray, List.getElem?_cons_zero, List.getElem?_cons_succ]
    (repeat (first | (refine wpTree.take (v := undef) (Or.inr ⟨by rfl, rfl⟩) ?_; simp only [Act.put, List.setIfInBounds_toArray, List.set_cons_zero, List.set_cons_succ]) | (refine wpTree.take (v := .agg (Iv.plain ?_).toArray) (yieldsIf_load_mid rfl 32 _ rfl _ _ rfl (Iv.plain _) _ ?_ Tryz.underlying32 rfl (plinfo _)) ?_; rotate_left; (focus (intro _ hS; refine range_next hS ?_; assumption)); simp only [Act.put, List.setIfInBounds_toArray, List.set_cons_zero, List.set_cons_succ]) | (refine wpTree.take (v := .agg (Iv.rc ?_).toArray) (yieldsIf_load_mid rfl 39 _ rfl _ _ rfl (Iv.rc _) _ ?_ Tryz.underlying39 rfl (rivinfo _)) ?_; rotate_left; (focus (intro _ hS; refine range_next hS ?_; assumption)); simp only [Act.put, List.setIfInBounds_toArray, List.set_cons_zero, List.set_cons_succ]) | (refine wpTree.take (v := .agg (Iv.cells ?_).toArray) (yieldsIf_load_mid rfl 48 _ rfl _ _ rfl (Iv.cells _) _ ?_ Tryz.underlying48 rfl (ivinfo _)) ?_; rotate_left; (focus (intro _ hS; refine range_next hS ?_; assumption)); simp only [Act.put, List.setIfInBounds_toArray, List.set_cons_zero, List.set_cons_succ]) | (refine wpTree.take (v := ?_) (Or.inl ⟨by rfl, ?_⟩) ?_; rotate_left; (focus (intro _ hS; (try dsimp only at hS); go_split_ands; (try subst hS); go_simp; (try (with_reducible rfl)); done)); simp only [Act.put, List.setIfInBounds_toArray, List.set_cons_zero, List.set_cons_succ])))
    refine wpTree.one (fun K hK => ?_)
    go_simp
    go_at_call 8
    refine (plaininput_any p _).mono ?_
    rintro e u1 ⟨rfl, hbu1⟩
    have hBelow := Below.trans hHeld (hbu1.mono (Below.size hHeld))
    refine hK.out _ _ hBelow (fun hHeld' => ?_)
    clear hK K hHeld hbu1 hBelow
    have hHeld := hHeld'
    clear hHeld'
    refine wpTree.one (fun K hK => ?_)
    go_simp
    go_at_call 11
    refine (HR1.out _ (HXP9.out.next hHeld)).mono ?_
    rintro e u2 ⟨rfl, hbu2⟩
    have hBelow := Below.trans hHeld (hbu2.mono (Below.size hHeld))
    refine hK.out _ _ hBelow (fun hHeld' => ?_)
    clear hK K hHeld hbu2 hBelow
    have hHeld := hHeld'
    clear hHeld'
    (repeat (first | (refine wpTree.take (v := undef) (Or.inr ⟨by rfl, rfl⟩) ?_; simp only [Act.put, List.setIfInBounds_toArray, List.set_cons_zero, List.set_cons_succ]) | (refine wpTree.take (v := .agg (Iv.plain ?_).toArray) (yieldsIf_load_mid rfl 32 _ rfl _ _ rfl (Iv.plain _) _ ?_ Tryz.underlying32 rfl (plinfo _)) ?_; rotate_left; (focus (intro _ hS; refine range_next hS ?_; assumption)); simp only [Act.put, List.setIfInBounds_toArray, List.set_cons_zero, List.set_cons_succ]) | (refine wpTree.take (v := .agg (Iv.rc ?_).toArray) (yieldsIf_load_mid rfl 39 _ rfl _ _ rfl (Iv.rc _) _ ?_ Tryz.underlying39 rfl (rivinfo _)) ?_; rotate_left; (focus (intro _ hS; refine range_next hS ?_; assumption)); simp only [Act.put, List.setIfInBounds_toArray, List.set_cons_zero, List.set_cons_succ]) | (refine wpTree.take (v := .agg (Iv.cells ?_).toArray) (yieldsIf_load_mid rfl 48 _ rfl _ _ rfl (Iv.cells _) _ ?_ Tryz.underlying48 rfl (ivinfo _)) ?_; rotate_left; (focus (intro _ hS; refine range_next hS ?_; assumption)); simp only [Act.put, List.setIfInBounds_toArray, List.set_cons_zero, List.set_cons_succ]) | (refine wpTree.take (v := ?_) (Or.inl ⟨by rfl, ?_⟩) ?_; rotate_left; (focus (intro _ hS; (try dsimp only at hS); go_split_ands; (try subst hS); go_simp; (try (with_reducible rfl)); done)); simp only [Act.put, List.setIfInBounds_toArray, List.set_cons_zero, List.set_cons_succ])))
    refine wpTree.one (fun K hK => ?_)
    go_simp
    go_at_call 12
    refine (HR2.out _).mono ?_
    rintro e u3 ⟨rfl, hbu3⟩
    have hBelow := Below.trans hHeld (hbu3.mono (Below.size hHeld))
    refine hK.out _ _ hBelow (fun hHeld' => ?_)
    clear hK K hHeld hbu3 hBelow
    have hHeld := hHeld'
    clear hHeld'
    (repeat (first | (refine wpTree.take (v := undef) (Or.inr ⟨by rfl, rfl⟩) ?_; simp only [Act.put, List.setIfInBounds_toArray, List.set_cons_zero, List.set_cons_succ]) | (refine wpTree.take (v := .agg (Iv.plain ?_).toArray) (yieldsIf_load_mid rfl 32 _ rfl _ _ rfl (Iv.plain _) _ ?_ Tryz.underlying32 rfl (plinfo _)) ?_; rotate_left; (focus (intro _ hS; refine range_next hS ?_; assumption)); simp only [Act.put, List.setIfInBounds_toArray, List.set_cons_zero, List.set_cons_succ]) | (refine wpTree.take (v := .agg (Iv.rc ?_).toArray) (yieldsIf_load_mid rfl 39 _ rfl _ _ rfl (Iv.rc _) _ ?_ Tryz.underlying39 rfl (rivinfo _)) ?_; rotate_left; (focus (intro _ hS; refine range_next hS ?_; assumption)); simp only [Act.put, List.setIfInBounds_toArray, List.set_cons_zero, List.set_cons_succ]) | (refine wpTree.take (v := .agg (Iv.cells ?_).toArray) (yieldsIf_load_mid rfl 48 _ rfl _ _ rfl (Iv.cells _) _ ?_ Tryz.underlying48 rfl (ivinfo _)) ?_; rotate_left; (focus (intro _ hS; refine range_next hS ?_; assumption)); simp only [Act.put, List.setIfInBounds_toArray, List.set_cons_zero, List.set_cons_succ]) | (refine wpTree.take (v := ?_) (Or.inl ⟨by rfl, ?_⟩) ?_; rotate_left; (focus (intro _ hS; (try dsimp only at hS); go_split_ands; (try subst hS); go_simp; (try (with_reducible rfl)); done)); simp only [Act.put, List.setIfInBounds_toArray, List.set_cons_zero, List.set_cons_succ])))
    refine wpTree.one (fun K hK => ?_)
    go_simp
    go_at_call 8
    refine (plaininput_any p _).mono ?_
    rintro e u4 ⟨rfl, hbu4⟩
    have hBelow := Below.trans hHeld (hbu4.mono (Below.size hHeld))
    refine hK.out _ _ hBelow (fun hHeld' => ?_)
    clear hK K hHeld hbu4 hBelow
    have hHeld := hHeld'
    clear hHeld'
    (repeat (first | (refine wpTree.take (v := undef) (Or.inr ⟨by rfl, rfl⟩) ?_; simp only [Act.put, List.setIfInBounds_toArray, List.set_cons_zero, List.set_cons_succ]) | (refine wpTree.take (v := .agg (Iv.plain ?_).toArray) (yieldsIf_load_mid rfl 32 _ rfl _ _ rfl (Iv.plain _) _ ?_ Tryz.underlying32 rfl (plinfo _)) ?_; rotate_left; (focus (intro _ hS; refine range_next hS ?_; assumption)); simp only [Act.put, List.setIfInBounds_toArray, List.set_cons_zero, List.set_cons_succ]) | (refine wpTree.take (v := .agg (Iv.rc ?_).toArray) (yieldsIf_load_mid rfl 39 _ rfl _ _ rfl (Iv.rc _) _ ?_ Tryz.underlying39 rfl (rivinfo _)) ?_; rotate_left; (focus (intro _ hS; refine range_next hS ?_; assumption)); simp only [Act.put, List.setIfInBounds_toArray, List.set_cons_zero, List.set_cons_succ]) | (refine wpTree.take (v := .agg (Iv.cells ?_).toArray) (yieldsIf_load_mid rfl 48 _ rfl _ _ rfl (Iv.cells _) _ ?_ Tryz.underlying48 rfl (ivinfo _)) ?_; rotate_left; (focus (intro _ hS; refine range_next hS ?_; assumption)); simp only [Act.put, List.setIfInBounds_toArray, List.set_cons_zero, List.set_cons_succ]) | (refine wpTree.take (v := ?_) (Or.inl ⟨by rfl, ?_⟩) ?_; rotate_left; (focus (intro _ hS; (try dsimp only at hS); go_split_ands; (try subst hS); go_simp; (try (with_reducible rfl)); done)); simp only [Act.put, List.setIfInBounds_toArray, List.set_cons_zero, List.set_cons_succ])))
    refine wpTree.one (fun K hK => ?_)
    go_simp
    go_at_call 8
    refine (plaininput_any q _).mono ?_
    rintro e u5 ⟨rfl, hbu5⟩
    have hBelow := Below.trans hHeld (hbu5.mono (Below.size hHeld))
    refine hK.out _ _ hBelow (fun hHeld' => ?_)
    clear hK K hHeld hbu5 hBelow
    have hHeld := hHeld'
    clear hHeld'
    refine wpTree.one (fun K hK => ?_)
    go_simp
    go_at_call 13
    refine (HS.out _ (HXP9.out.next hHeld) (HXQ9.out.next hHeld)).mono ?_
    rintro e u6 ⟨rfl, hbu6⟩
    have hBelow := Below.trans hHeld (hbu6.mono (Below.size hHeld))
    refine hK.out _ _ hBelow (fun hHeld' => ?_)
    clear hK K hHeld hbu6 hBelow
    have hHeld := hHeld'
    clear hHeld'
    refine wpTree.one (fun K hK => ?_)
    go_simp
    go_at_call 6
    refine (as26_any q _ (HXQ9.out.next hHeld)).mono ?_
    rintro e u7 ⟨rfl, hbu7⟩
    have hBelow := Below.trans hHeld (hbu7.mono (Below.size hHeld))
    refine hK.out _ _ hBelow (fun hHeld' => ?_)
    clear hK K hHeld hbu7 hBelow
    have hHeld := hHeld'
    clear hHeld'
    (repeat (first | (refine wpTree.take (v := undef) (Or.inr ⟨by rfl, rfl⟩) ?_; simp only [Act.put, List.setIfInBounds_toArray, List.set_cons_zero, List.set_cons_succ]) | (refine wpTree.take (v := .agg (Iv.plain ?_).toArray) (yieldsIf_load_mid rfl 32 _ rfl _ _ rfl (Iv.plain _) _ ?_ Tryz.underlying32 rfl (plinfo _)) ?_; rotate_left; (focus (intro _ hS; refine range_next hS ?_; assumption)); simp only [Act.put, List.setIfInBounds_toArray, List.set_cons_zero, List.set_cons_succ]) | (refine wpTree.take (v := .agg (Iv.rc ?_).toArray) (yieldsIf_load_mid rfl 39 _ rfl _ _ rfl (Iv.rc _) _ ?_ Tryz.underlying39 rfl (rivinfo _)) ?_; rotate_left; (focus (intro _ hS; refine range_next hS ?_; assumption)); simp only [Act.put, List.setIfInBounds_toArray, List.set_cons_zero, List.set_cons_succ]) | (refine wpTree.take (v := .agg (Iv.cells ?_).toArray) (yieldsIf_load_mid rfl 48 _ rfl _ _ rfl (Iv.cells _) _ ?_ Tryz.underlying48 rfl (ivinfo _)) ?_; rotate_left; (focus (intro _ hS; refine range_next hS ?_; assumption)); simp only [Act.put, List.setIfInBounds_toArray, List.set_cons_zero, List.set_cons_succ]) | (refine wpTree.take (v := ?_) (Or.inl ⟨by rfl, ?_⟩) ?_; rotate_left; (focus (intro _ hS; (try dsimp only at hS); go_split_ands; (try subst hS); go_simp; (try (with_reducible rfl)); done)); simp only [Act.put, List.setIfInBounds_toArray, List.set_cons_zero, List.set_cons_succ])))
    refine wpTree.one (fun K hK => ?_)
    go_simp
    go_at_call 14
    refine (of26_any (mm.at Ar cr) _).mono ?_
    rintro e u8 ⟨rfl, hbu8⟩
    have hBelow := Below.trans hHeld (hbu8.mono (Below.size hHeld))
    refine hK.out _ _ hBelow (fun hHeld' => ?_)
    clear hK K hHeld hbu8 hBelow
    have hHeld := hHeld'
    clear hHeld'
    refine wpTree.one (fun K hK => ?_)
    go_simp
    go_at_call 6
    refine (as26_at mm Ar cr _ (HXR9.out.next hHeld)).mono ?_
    rintro e u9 ⟨rfl, hbu9⟩
    have hBelow := Below.trans hHeld (hbu9.mono (Below.size hHeld))
    refine hK.out _ _ hBelow (fun hHeld' => ?_)
    clear hK K hHeld hbu9 hBelow
    have hHeld := hHeld'
    clear hHeld'
    (repeat (first | (refine wpTree.take (v := undef) (Or.inr ⟨by rfl, rfl⟩) ?_; simp only [Act.put, List.setIfInBounds_toArray, List.set_cons_zero, List.set_cons_succ]) | (refine wpTree.take (v := .agg (Iv.plain ?_).toArray) (yieldsIf_load_mid rfl 32 _ rfl _ _ rfl (Iv.plain _) _ ?_ Tryz.underlying32 rfl (plinfo _)) ?_; rotate_left; (focus (intro _ hS; refine range_next hS ?_; assumption)); simp only [Act.put, List.setIfInBounds_toArray, List.set_cons_zero, List.set_cons_succ]) | (refine wpTree.take (v := .agg (Iv.rc ?_).toArray) (yieldsIf_load_mid rfl 39 _ rfl _ _ rfl (Iv.rc _) _ ?_ Tryz.underlying39 rfl (rivinfo _)) ?_; rotate_left; (focus (intro _ hS; refine range_next hS ?_; assumption)); simp only [Act.put, List.setIfInBounds_toArray, List.set_cons_zero, List.set_cons_succ]) | (refine wpTree.take (v := .agg (Iv.cells ?_).toArray) (yieldsIf_load_mid rfl 48 _ rfl _ _ rfl (Iv.cells _) _ ?_ Tryz.underlying48 rfl (ivinfo _)) ?_; rotate_left; (focus (intro _ hS; refine range_next hS ?_; assumption)); simp only [Act.put, List.setIfInBounds_toArray, List.set_cons_zero, List.set_cons_succ]) | (refine wpTree.take (v := ?_) (Or.inl ⟨by rfl, ?_⟩) ?_; rotate_left; (focus (intro _ hS; (try dsimp only at hS); go_split_ands; (try subst hS); go_simp; (try (with_reducible rfl)); done)); simp only [Act.put, List.setIfInBounds_toArray, List.set_cons_zero, List.set_cons_succ])))
    refine wpTree.done ?_
    have Hu := Lib.hid (show Below W.heap.size W u9 from Hw9.out.1.trans (hHeld.mono Hw9.out.1.size))
    have HXu := Lib.hid (HX9.out.next hHeld)
    have HWAu := Lib.hid (HWA9.out.next hHeld)
    clear hHeld r1 r2 r3 r4 r5 eq1 eq2 HP9 HQ9 HX9 HM9 HY9 HWA9 HS HR1 Hw9 HRB HXP9 HXQ9 HXR9
    have rx := HXu.out.range
    go_wp2_with (first | (refine wpList_load_midg (by rfl) 39 _ rfl _ _ rfl (Iv.rc ?_) _ ?_ Tryz.underlying39 rfl (rivinfo _) ?_; rotate_left; (focus assumption)))
    clear rx
    cases rm with
    | false =>
      obtain ⟨rfl, rfl⟩ := HWAu.out.no (by unfold goodI; rw [← HRM.out]; rfl)
      clear HWAu
      refine (HR2.out _).mono ?_
      rintro e w10 ⟨rfl, hb⟩
      have H10 := Lib.hid (Hu.out.trans (hb.mono Hu.out.size))
      clear hb HR2 Hu HXu
      go_wp2_with fail
      refine (alive26_any _).mono ?_
      rintro e w11 ⟨rfl, hb⟩
      have H11 := Lib.hid (H10.out.trans (hb.mono H10.out.size))
      clear hb
      go_wp2_with fail
      go_ret
      exact ⟨rfl, H11.out⟩
    | true =>
      refine (HR2.out _).mono ?_
      rintro e w10 ⟨rfl, hb⟩
      have H10 := Lib.hid (Hu.out.trans (hb.mono Hu.out.size))
      have HX10 := Lib.hid (HXu.out.next hb)
      have HWA10 := Lib.hid (HWAu.out.next hb)
      have HWR := Lib.hid (fun w => rwrite26_any p HOP.out H2P.out HRM.out.symm w)
      have HLT := Lib.hid (encI_lt H2P.out)
      have HGD := Lib.hid (show goodI p = decide ((encI p).length ≤ 1800) by unfold goodI; rw [← HRM.out]; rfl)
      clear hb HR2 Hu HXu HWAu
      have rx := HX10.out.range
      go_wp2_with (first | (refine wpList_load_midg (by rfl) 39 _ rfl _ _ rfl (Iv.rc ?_) _ ?_ Tryz.underlying39 rfl (rivinfo _) ?_; rotate_left; (focus assumption)))
      clear rx
      refine (HWR.out _).mono ?_
      rintro e w11 ⟨v2, rfl, hM⟩
      obtain ⟨A2, c2, rfl, _⟩ := src_own hM.1
      have H11 := Lib.hid (H10.out.trans (hM.2.mono H10.out.size))
      have HX11 := Lib.hid (HX10.out.next hM.2)
      have HWA11 := Lib.hid (HWA10.out.next hM.2)
      clear hM HX10 HWA10 H10
      by_cases hN : (encI p).length ≤ 1800
      · obtain ⟨rfl, A, cp, rfl, hac, hab, han⟩ := HWA11.out.yes (by rw [HGD.out, decide_eq_true hN])
        have HA := Lib.hid (And.intro hab han)
        obtain ⟨E, hE⟩ : ∃ E, E = encI p := ⟨_, rfl⟩
        rw [← hE] at hN ⊢
        simp only [← hE] at HA HWR HLT
        obtain ⟨N, hNE⟩ : ∃ N, E.length = N := ⟨_, rfl⟩
        rw [hNE] at hN ⊢
        have HNE := Lib.hid hNE
        have g1 : decide ((1800 : Int) < (N : Nat)) = false := by simp; omega
        have g2 : ¬ (1800 : Int) < (N : Nat) := by omega
        clear hab han hac HWA11 hE hNE HGD hN
        go_upto_region 11 with fail
        clear g1 g2
        have rx := HX11.out.range
        refine wp_region_tree (S := (fun w => Below w11.heap.size w11 w)) (.one 0 (.take 1 (.take 2 (.take 3 (.take 4 (.take 5 (.take 6 (.take 7 (.take 8 (.one 9 (.one 10 (.take 11 (.take 12 (.take 13 .nil)))))))))))))) 9999 (by kernel_rfl) (by kernel_rfl) (by kernel_rfl) (by kernel_rfl) (by kernel_rfl) (fun _ _ d _ _ h => by cases d <;> exact h) ?_ (fun hHeld => ?_); (focus (exact (Below.refl _ _).drew)); simp only [Tree.map, List.getElem?_toArray, List.getElem?_cons_zero, List.getElem?_cons_succ]
        refine wpTree.one (fun K hK => ?_)
        go_simp
        go_at_call 5
        refine (alive26_any _).mono ?_
        rintro e y1 ⟨rfl, hby1⟩
        have hBelow := Below.trans hHeld (hby1.mono (Below.size hHeld))
        refine hK.out _ _ hBelow (fun hHeld' => ?_)
        clear hK K hHeld hby1 hBelow
        have hHeld := hHeld'
        clear hHeld'
        (try simp only [Act.put, List.setIfInBounds_toArray, List.set_cons_zero, List.set_cons_succ])
        (repeat (first | (refine wpTree.take (v := undef) (Or.inr ⟨by rfl, rfl⟩) ?_; simp only [Act.put, List.setIfInBounds_toArray, List.set_cons_zero, List.set_cons_succ]) | (refine wpTree.take (v := .string (Byt.bstr E)) (Or.inl ⟨by rfl, ?_⟩) ?_; (focus (intro wq hS; have cvq := conv_byr (c := cp) (HA.out.1.next hS) HA.out.2 HLT.out HNE.out; go_simp; done)); simp only [Act.put, List.setIfInBounds_toArray, List.set_cons_zero, List.set_cons_succ]) | (refine wpTree.take (v := .agg (Iv.rc ?_).toArray) (yieldsIf_load_mid rfl 39 _ rfl _ _ rfl (Iv.rc _) _ ?_ Tryz.underlying39 rfl (rivinfo _)) ?_; rotate_left; (focus (intro _ hS; refine range_next hS ?_; assumption)); simp only [Act.put, List.setIfInBounds_toArray, List.set_cons_zero, List.set_cons_succ]) | (refine wpTree.take (v := ?_) (Or.inl ⟨by rfl, ?_⟩) ?_; rotate_left; (focus (intro _ hS; (try dsimp only at hS); go_split_ands; (try subst hS); go_simp; (try (with_reducible rfl)); done)); simp only [Act.put, List.setIfInBounds_toArray, List.set_cons_zero, List.set_cons_succ])))
        refine wpTree.one (fun K hK => ?_)
        go_simp
        go_at_call 15
        refine (HWR.out _).mono ?_
        rintro e y2 ⟨v2, rfl, hM⟩
        obtain ⟨A3, c3, rfl, hS3⟩ := src_own hM.1
        rw [HNE.out] at hS3 ⊢
        have cv2 := Byt.conv_src y2 A3 N c3 E hS3 HNE.out HLT.out
        have hBelow := Below.trans hHeld (hM.2.mono (Below.size hHeld))
        refine hK.out _ _ hBelow (fun hHeld' => ?_)
        clear hK K hHeld hBelow hM hS3
        have hHeld := hHeld'
        clear hHeld'
        (try simp only [Act.put, List.setIfInBounds_toArray, List.set_cons_zero, List.set_cons_succ])
        refine wpTree.one (fun K hK => ?_)
        go_simp
        refine hK.out _ _ hHeld (fun _ => ?_)
        clear hK K
        (try simp only [Act.put, List.setIfInBounds_toArray, List.set_cons_zero, List.set_cons_succ])
        (repeat (first | (refine wpTree.take (v := undef) (Or.inr ⟨by rfl, rfl⟩) ?_; simp only [Act.put, List.setIfInBounds_toArray, List.set_cons_zero, List.set_cons_succ]) | (refine wpTree.take (v := ?_) (Or.inl ⟨by rfl, ?_⟩) ?_; rotate_left; (focus (intro _ hS; (try dsimp only at hS); go_split_ands; (try subst hS); go_simp; (try (with_reducible rfl)); done)); simp only [Act.put, List.setIfInBounds_toArray, List.set_cons_zero, List.set_cons_succ])))
        refine wpTree.done ?_
        clear rx cv2
        have HF := Lib.hid (H11.out.trans (hHeld.mono H11.out.size))
        clear hHeld
        go_wp2_with fail
        go_ret
        exact ⟨rfl, HF.out⟩
      · obtain ⟨rfl, rfl⟩ := HWA11.out.no (by rw [HGD.out, decide_eq_false hN])
        obtain ⟨N, hNE⟩ : ∃ N, (encI p).length = N := ⟨_, rfl⟩
        rw [hNE] at hN ⊢
        have g1 : decide ((1800 : Int) < (N : Nat)) = true := by simp; omega
        have g2 : (1800 : Int) < (N : Nat) := by omega
        clear HWA11 hNE HGD hN HWR HLT HX11
        go_wp2_with fail
        refine (alive26_any _).mono ?_
        rintro e w12 ⟨rfl, hb⟩
        have H12 := Lib.hid (H11.out.trans (hb.mono H11.out.size))
        clear hb
        go_wp2_with fail
        go_ret
        exact ⟨rfl, H12.out⟩
  · have HRB := Lib.hid hrb
    clear hrb
    go_wp2_with fail
    refine ((HRB.out _ Hw5.out.2).1).mono ?_
    rintro e w6 ⟨Ar, cr, rfl, hor, hb⟩
    have HXR6 := Lib.hid hor
    clear hor
    have Hw6 := Lib.hid (show Below W.heap.size W w6 ∧ Byt.ByR w6 As sb from ⟨Hw5.out.1.trans (hb.mono Hw5.out.1.size), Hw5.out.2.next hb⟩)
    have HP6 := Lib.hid (HP5.out.next hb)
    have HQ6 := Lib.hid (HQ5.out.next hb)
    have HXP6 := Lib.hid (HXP5.out.next hb)
    have HXQ6 := Lib.hid (HXQ5.out.next hb)
    have HX6 := Lib.hid (HX5.out.next hb)
    have HWA6 := Lib.hid (HWA5.out.next hb)
    clear hb Hw5 HP5 HQ5 HXP5 HXQ5 HX5 HWA5
    go_upto_region 6 with (refine wpList_store_blk rfl 48 _ _ rfl (w6).heap.size 48 zinA (mm.at Ar cr).cells.toArray rfl rfl (Blk.new' rfl) (ivinfoA _) (zin_siz _) (iv_one _) ?_; intro hy; have hbn : Below (w6).heap.size w6 (((w6).alloc (.cells zinA 48)).setRow (w6).heap.size (mm.at Ar cr).cells.toArray) := below_setRow ((Below.refl _ _).alloc (Nat.le_refl _) _) (Nat.le_refl _) _; obtain ⟨w7, hnw⟩ : ∃ w7, w7 = (((w6).alloc (.cells zinA 48)).setRow (w6).heap.size (mm.at Ar cr).cells.toArray) := ⟨_, rfl⟩; rw [← hnw] at hbn hy ⊢; clear hnw; skip)
    obtain ⟨g10, hg10⟩ : ∃ g10, g10 = w6.heap.size := ⟨_, rfl⟩
    rw [← hg10] at hy ⊢
    have HM7 := Lib.hid hy
    clear hg10 hy
    have Hw7 := Lib.hid (show Below W.heap.size W w7 ∧ Byt.ByR w7 As sb from ⟨Hw6.out.1.trans (hbn.mono Hw6.out.1.size), Hw6.out.2.next hbn⟩)
    have HP7 := Lib.hid (HP6.out.next hbn)
    have HQ7 := Lib.hid (HQ6.out.next hbn)
    have HXP7 := Lib.hid (HXP6.out.next hbn)
    have HXQ7 := Lib.hid (HXQ6.out.next hbn)
    have HX7 := Lib.hid (HX6.out.next hbn)
    have HWA7 := Lib.hid (HWA6.out.next hbn)
    have HXR7 := Lib.hid (HXR6.out.next hbn)
    clear hbn Hw6 HP6 HQ6 HXP6 HXQ6 HX6 HWA6 HXR6
    go_wp2_with fail
    refine ((HRB.out _ Hw7.out.2).2).mono ?_
    rintro e w8 ⟨rfl, hb⟩
    have Hw8 := Lib.hid (show Below W.heap.size W w8 ∧ Byt.ByR w8 As sb from ⟨Hw7.out.1.trans (hb.mono Hw7.out.1.size), Hw7.out.2.next hb⟩)
    have HP8 := Lib.hid (HP7.out.next hb)
    have HQ8 := Lib.hid (HQ7.out.next hb)
    have HXP8 := Lib.hid (HXP7.out.next hb)
    have HXQ8 := Lib.hid (HXQ7.out.next hb)
    have HX8 := Lib.hid (HX7.out.next hb)
    have HWA8 := Lib.hid (HWA7.out.next hb)
    have HXR8 := Lib.hid (HXR7.out.next hb)
    have HM8 := Lib.hid (HM7.out.next hb)
    clear hb Hw7 HP7 HQ7 HXP7 HXQ7 HX7 HWA7 HXR7 HM7
    go_upto_region 7 with (refine wpList_store_blk rfl 39 _ _ rfl (w8).heap.size 39 zrinA mm.rc.toArray rfl rfl (Blk.new' rfl) (rivinfoA _) (zrin_siz _) (riv_one _) ?_; intro hy; have hbn : Below (w8).heap.size w8 (((w8).alloc (.cells zrinA 39)).setRow (w8).heap.size mm.rc.toArray) := below_setRow ((Below.refl _ _).alloc (Nat.le_refl _) _) (Nat.le_refl _) _; obtain ⟨w9, hnw⟩ : ∃ w9, w9 = (((w8).alloc (.cells zrinA 39)).setRow (w8).heap.size mm.rc.toArray) := ⟨_, rfl⟩; rw [← hnw] at hbn hy ⊢; clear hnw)
    obtain ⟨g12, hg12⟩ : ∃ g12, g12 = w8.heap.size := ⟨_, rfl⟩
    rw [← hg12] at hy ⊢
    have HY9 := Lib.hid hy
    clear hg12 hy
    have Hw9 := Lib.hid (show Below W.heap.size W w9 ∧ Byt.ByR w9 As sb from ⟨Hw8.out.1.trans (hbn.mono Hw8.out.1.size), Hw8.out.2.next hbn⟩)
    have HP9 := Lib.hid (HP8.out.next hbn)
    have HQ9 := Lib.hid (HQ8.out.next hbn)
    have HXP9 := Lib.hid (HXP8.out.next hbn)
    have HXQ9 := Lib.hid (HXQ8.out.next hbn)
    have HX9 := Lib.hid (HX8.out.next hbn)
    have HWA9 := Lib.hid (HWA8.out.next hbn)
    have HXR9 := Lib.hid (HXR8.out.next hbn)
    have HM9 := Lib.hid (HM8.out.next hbn)
    clear hbn Hw8 HP8 HQ8 HXP8 HXQ8 HX8 HWA8 HXR8 HM8
    have HR1 := Lib.hid (fun w h => right_any p w h)
    have HR2 := Lib.hid (fun w => rright26_any p H2P.out w)
    have HS := Lib.hid (fun w h1 h2 => same_any p q w h1 h2)
    have eq1 := fun w => eq_rin p q H2P.out H2Q.out w
    have eq2 := fun w => eq_rin mm mm HM256.out HM256.out w
    rw [show sameI mm mm = true from (sameI_iff _ _).2 ⟨rfl, rfl, rfl, rfl, rfl, rfl, rfl, rfl⟩] at eq2
    obtain ⟨rm, hrm⟩ : ∃ rm, rm = rightI p := ⟨_, rfl⟩
    obtain ⟨sm, hsm⟩ : ∃ sm, sm = sameI p q := ⟨_, rfl⟩
    simp only [← hrm] at HR1 HR2
    simp only [← hsm] at HS eq1
    have HRM := Lib.hid hrm
    clear hrm hsm
    have r1 := HP9.out.range
    have r2 := HQ9.out.range
    have r3 := HX9.out.range
    have r4 := HM9.out.range
    have r5 := HY9.out.range
    refine wp_region_tree (S := (fun W' => Below (w9).heap.size w9 W')) (.take 0 (.take 3 (.one 1 (.one 2 (.one 4 (.take 5 (.take 6 (.take 7 (.take 9 (.take 12 (.take 13 (.one 8 (.one 10 (.one 11 (.one 14 (.take 15 (.take 16 (.take 17 (.take 18 (.take 19 (.take 22 (.one 20 (.one 21 (.take 23 (.take 24 (.take 25 (.take 26 (.take 27 (.take 28 (.take 29 (.take 30 (.take 31 (.take 32 (.take 33 (.take 34 (.take 35 (.take 36 (.take 37 (.take 38 .nil))))))))))))))))))))))))))))))))))))))) 9999 (by kernel_rfl) (by kernel_rfl) (by kernel_rfl) (by kernel_rfl) (by kernel_rfl) (fun _ _ d _ _ h => by cases d <;> exact h) ?_ (fun hHeld => ?_); (focus (exact (Below.refl _ _).drew)); simp only [Tree.map, List.getElem?_toArray, List.getElem?_cons_zero, List.getElem?_cons_succ]
    (repeat (first | (refine wpTree.take (v := undef) (Or.inr ⟨by rfl, rfl⟩) ?_; simp only [Act.put, List.setIfInBounds_toArray, List.set_cons_zero, List.set_cons_succ]) | (refine wpTree.take (v := .agg (Iv.plain ?_).toArray) (yieldsIf_load_mid rfl 32 _ rfl _ _ rfl (Iv.plain _) _ ?_ Tryz.underlying32 rfl (plinfo _)) ?_; rotate_left; (focus (intro _ hS; refine range_next hS ?_; assumption)); simp only [Act.put, List.setIfInBounds_toArray, List.set_cons_zero, List.set_cons_succ]) | (refine wpTree.take (v := .agg (Iv.rc ?_).toArray) (yieldsIf_load_mid rfl 39 _ rfl _ _ rfl (Iv.rc _) _ ?_ Tryz.underlying39 rfl (rivinfo _)) ?_; rotate_left; (focus (intro _ hS; refine range_next hS ?_; assumption)); simp only [Act.put, List.setIfInBounds_toArray, List.set_cons_zero, List.set_cons_succ]) | (refine wpTree.take (v := .agg (Iv.cells ?_).toArray) (yieldsIf_load_mid rfl 48 _ rfl _ _ rfl (Iv.cells _) _ ?_ Tryz.underlying48 rfl (ivinfo _)) ?_; rotate_left; (focus (intro _ hS; refine range_next hS ?_; assumption)); simp only [Act.put, List.setIfInBounds_toArray, List.set_cons_zero, List.set_cons_succ]) | (refine wpTree.take (v := ?_) (Or.inl ⟨by rfl, ?_⟩) ?_; rotate_left; (focus (intro _ hS; (try dsimp only at hS); go_split_ands; (try subst hS); go_simp; (try (with_reducible rfl)); done)); simp only [Act.put, List.setIfInBounds_toArray, List.set_cons_zero, List.set_cons_succ])))
    refine wpTree.one (fun K hK => ?_)
    go_simp
    go_at_call 8
    refine (plaininput_any p _).mono ?_
    rintro e u1 ⟨rfl, hbu1⟩
    have hBelow := Below.trans hHeld (hbu1.mono (Below.size hHeld))
    refine hK.out _ _ hBelow (fun hHeld' => ?_)
    clear hK K hHeld hbu1 hBelow
    have hHeld := hHeld'
    clear hHeld'
    refine wpTree.one (fun K hK => ?_)
    go_simp
    go_at_call 11
    refine (HR1.out _ (HXP9.out.next hHeld)).mono ?_
    rintro e u2 ⟨rfl, hbu2⟩
    have hBelow := Below.trans hHeld (hbu2.mono (Below.size hHeld))
    refine hK.out _ _ hBelow (fun hHeld' => ?_)
    clear hK K hHeld hbu2 hBelow
    have hHeld := hHeld'
    clear hHeld'
    (repeat (first | (refine wpTree.take (v := undef) (Or.inr ⟨by rfl, rfl⟩) ?_; simp only [Act.put, List.setIfInBounds_toArray, List.set_cons_zero, List.set_cons_succ]) | (refine wpTree.take (v := .agg (Iv.plain ?_).toArray) (yieldsIf_load_mid rfl 32 _ rfl _ _ rfl (Iv.plain _) _ ?_ Tryz.underlying32 rfl (plinfo _)) ?_; rotate_left; (focus (intro _ hS; refine range_next hS ?_; assumption)); simp only [Act.put, List.setIfInBounds_toArray, List.set_cons_zero, List.set_cons_succ]) | (refine wpTree.take (v := .agg (Iv.rc ?_).toArray) (yieldsIf_load_mid rfl 39 _ rfl _ _ rfl (Iv.rc _) _ ?_ Tryz.underlying39 rfl (rivinfo _)) ?_; rotate_left; (focus (intro _ hS; refine range_next hS ?_; assumption)); simp only [Act.put, List.setIfInBounds_toArray, List.set_cons_zero, List.set_cons_succ]) | (refine wpTree.take (v := .agg (Iv.cells ?_).toArray) (yieldsIf_load_mid rfl 48 _ rfl _ _ rfl (Iv.cells _) _ ?_ Tryz.underlying48 rfl (ivinfo _)) ?_; rotate_left; (focus (intro _ hS; refine range_next hS ?_; assumption)); simp only [Act.put, List.setIfInBounds_toArray, List.set_cons_zero, List.set_cons_succ]) | (refine wpTree.take (v := ?_) (Or.inl ⟨by rfl, ?_⟩) ?_; rotate_left; (focus (intro _ hS; (try dsimp only at hS); go_split_ands; (try subst hS); go_simp; (try (with_reducible rfl)); done)); simp only [Act.put, List.setIfInBounds_toArray, List.set_cons_zero, List.set_cons_succ])))
    refine wpTree.one (fun K hK => ?_)
    go_simp
    go_at_call 12
    refine (HR2.out _).mono ?_
    rintro e u3 ⟨rfl, hbu3⟩
    have hBelow := Below.trans hHeld (hbu3.mono (Below.size hHeld))
    refine hK.out _ _ hBelow (fun hHeld' => ?_)
    clear hK K hHeld hbu3 hBelow
    have hHeld := hHeld'
    clear hHeld'
    (repeat (first | (refine wpTree.take (v := undef) (Or.inr ⟨by rfl, rfl⟩) ?_; simp only [Act.put, List.setIfInBounds_toArray, List.set_cons_zero, List.set_cons_succ]) | (refine wpTree.take (v := .agg (Iv.plain ?_).toArray) (yieldsIf_load_mid rfl 32 _ rfl _ _ rfl (Iv.plain _) _ ?_ Tryz.underlying32 rfl (plinfo _)) ?_; rotate_left; (focus (intro _ hS; refine range_next hS ?_; assumption)); simp only [Act.put, List.setIfInBounds_toArray, List.set_cons_zero, List.set_cons_succ]) | (refine wpTree.take (v := .agg (Iv.rc ?_).toArray) (yieldsIf_load_mid rfl 39 _ rfl _ _ rfl (Iv.rc _) _ ?_ Tryz.underlying39 rfl (rivinfo _)) ?_; rotate_left; (focus (intro _ hS; refine range_next hS ?_; assumption)); simp only [Act.put, List.setIfInBounds_toArray, List.set_cons_zero, List.set_cons_succ]) | (refine wpTree.take (v := .agg (Iv.cells ?_).toArray) (yieldsIf_load_mid rfl 48 _ rfl _ _ rfl (Iv.cells _) _ ?_ Tryz.underlying48 rfl (ivinfo _)) ?_; rotate_left; (focus (intro _ hS; refine range_next hS ?_; assumption)); simp only [Act.put, List.setIfInBounds_toArray, List.set_cons_zero, List.set_cons_succ]) | (refine wpTree.take (v := ?_) (Or.inl ⟨by rfl, ?_⟩) ?_; rotate_left; (focus (intro _ hS; (try dsimp only at hS); go_split_ands; (try subst hS); go_simp; (try (with_reducible rfl)); done)); simp only [Act.put, List.setIfInBounds_toArray, List.set_cons_zero, List.set_cons_succ])))
    refine wpTree.one (fun K hK => ?_)
    go_simp
    go_at_call 8
    refine (plaininput_any p _).mono ?_
    rintro e u4 ⟨rfl, hbu4⟩
    have hBelow := Below.trans hHeld (hbu4.mono (Below.size hHeld))
    refine hK.out _ _ hBelow (fun hHeld' => ?_)
    clear hK K hHeld hbu4 hBelow
    have hHeld := hHeld'
    clear hHeld'
    (repeat (first | (refine wpTree.take (v := undef) (Or.inr ⟨by rfl, rfl⟩) ?_; simp only [Act.put, List.setIfInBounds_toArray, List.set_cons_zero, List.set_cons_succ]) | (refine wpTree.take (v := .agg (Iv.plain ?_).toArray) (yieldsIf_load_mid rfl 32 _ rfl _ _ rfl (Iv.plain _) _ ?_ Tryz.underlying32 rfl (plinfo _)) ?_; rotate_left; (focus (intro _ hS; refine range_next hS ?_; assumption)); simp only [Act.put, List.setIfInBounds_toArray, List.set_cons_zero, List.set_cons_succ]) | (refine wpTree.take (v := .agg (Iv.rc ?_).toArray) (yieldsIf_load_mid rfl 39 _ rfl _ _ rfl (Iv.rc _) _ ?_ Tryz.underlying39 rfl (rivinfo _)) ?_; rotate_left; (focus (intro _ hS; refine range_next hS ?_; assumption)); simp only [Act.put, List.setIfInBounds_toArray, List.set_cons_zero, List.set_cons_succ]) | (refine wpTree.take (v := .agg (Iv.cells ?_).toArray) (yieldsIf_load_mid rfl 48 _ rfl _ _ rfl (Iv.cells _) _ ?_ Tryz.underlying48 rfl (ivinfo _)) ?_; rotate_left; (focus (intro _ hS; refine range_next hS ?_; assumption)); simp only [Act.put, List.setIfInBounds_toArray, List.set_cons_zero, List.set_cons_succ]) | (refine wpTree.take (v := ?_) (Or.inl ⟨by rfl, ?_⟩) ?_; rotate_left; (focus (intro _ hS; (try dsimp only at hS); go_split_ands; (try subst hS); go_simp; (try (with_reducible rfl)); done)); simp only [Act.put, List.setIfInBounds_toArray, List.set_cons_zero, List.set_cons_succ])))
    refine wpTree.one (fun K hK => ?_)
    go_simp
    go_at_call 8
    refine (plaininput_any q _).mono ?_
    rintro e u5 ⟨rfl, hbu5⟩
    have hBelow := Below.trans hHeld (hbu5.mono (Below.size hHeld))
    refine hK.out _ _ hBelow (fun hHeld' => ?_)
    clear hK K hHeld hbu5 hBelow
    have hHeld := hHeld'
    clear hHeld'
    refine wpTree.one (fun K hK => ?_)
    go_simp
    go_at_call 13
    refine (HS.out _ (HXP9.out.next hHeld) (HXQ9.out.next hHeld)).mono ?_
    rintro e u6 ⟨rfl, hbu6⟩
    have hBelow := Below.trans hHeld (hbu6.mono (Below.size hHeld))
    refine hK.out _ _ hBelow (fun hHeld' => ?_)
    clear hK K hHeld hbu6 hBelow
    have hHeld := hHeld'
    clear hHeld'
    refine wpTree.one (fun K hK => ?_)
    go_simp
    go_at_call 6
    refine (as26_any q _ (HXQ9.out.next hHeld)).mono ?_
    rintro e u7 ⟨rfl, hbu7⟩
    have hBelow := Below.trans hHeld (hbu7.mono (Below.size hHeld))
    refine hK.out _ _ hBelow (fun hHeld' => ?_)
    clear hK K hHeld hbu7 hBelow
    have hHeld := hHeld'
    clear hHeld'
    (repeat (first | (refine wpTree.take (v := undef) (Or.inr ⟨by rfl, rfl⟩) ?_; simp only [Act.put, List.setIfInBounds_toArray, List.set_cons_zero, List.set_cons_succ]) | (refine wpTree.take (v := .agg (Iv.plain ?_).toArray) (yieldsIf_load_mid rfl 32 _ rfl _ _ rfl (Iv.plain _) _ ?_ Tryz.underlying32 rfl (plinfo _)) ?_; rotate_left; (focus (intro _ hS; refine range_next hS ?_; assumption)); simp only [Act.put, List.setIfInBounds_toArray, List.set_cons_zero, List.set_cons_succ]) | (refine wpTree.take (v := .agg (Iv.rc ?_).toArray) (yieldsIf_load_mid rfl 39 _ rfl _ _ rfl (Iv.rc _) _ ?_ Tryz.underlying39 rfl (rivinfo _)) ?_; rotate_left; (focus (intro _ hS; refine range_next hS ?_; assumption)); simp only [Act.put, List.setIfInBounds_toArray, List.set_cons_zero, List.set_cons_succ]) | (refine wpTree.take (v := .agg (Iv.cells ?_).toArray) (yieldsIf_load_mid rfl 48 _ rfl _ _ rfl (Iv.cells _) _ ?_ Tryz.underlying48 rfl (ivinfo _)) ?_; rotate_left; (focus (intro _ hS; refine range_next hS ?_; assumption)); simp only [Act.put, List.setIfInBounds_toArray, List.set_cons_zero, List.set_cons_succ]) | (refine wpTree.take (v := ?_) (Or.inl ⟨by rfl, ?_⟩) ?_; rotate_left; (focus (intro _ hS; (try dsimp only at hS); go_split_ands; (try subst hS); go_simp; (try (with_reducible rfl)); done)); simp only [Act.put, List.setIfInBounds_toArray, List.set_cons_zero, List.set_cons_succ])))
    refine wpTree.one (fun K hK => ?_)
    go_simp
    go_at_call 14
    refine (of26_any (mm.at Ar cr) _).mono ?_
    rintro e u8 ⟨rfl, hbu8⟩
    have hBelow := Below.trans hHeld (hbu8.mono (Below.size hHeld))
    refine hK.out _ _ hBelow (fun hHeld' => ?_)
    clear hK K hHeld hbu8 hBelow
    have hHeld := hHeld'
    clear hHeld'
    refine wpTree.one (fun K hK => ?_)
    go_simp
    go_at_call 6
    refine (as26_at mm Ar cr _ (HXR9.out.next hHeld)).mono ?_
    rintro e u9 ⟨rfl, hbu9⟩
    have hBelow := Below.trans hHeld (hbu9.mono (Below.size hHeld))
    refine hK.out _ _ hBelow (fun hHeld' => ?_)
    clear hK K hHeld hbu9 hBelow
    have hHeld := hHeld'
    clear hHeld'
    (repeat (first | (refine wpTree.take (v := undef) (Or.inr ⟨by rfl, rfl⟩) ?_; simp only [Act.put, List.setIfInBounds_toArray, List.set_cons_zero, List.set_cons_succ]) | (refine wpTree.take (v := .agg (Iv.plain ?_).toArray) (yieldsIf_load_mid rfl 32 _ rfl _ _ rfl (Iv.plain _) _ ?_ Tryz.underlying32 rfl (plinfo _)) ?_; rotate_left; (focus (intro _ hS; refine range_next hS ?_; assumption)); simp only [Act.put, List.setIfInBounds_toArray, List.set_cons_zero, List.set_cons_succ]) | (refine wpTree.take (v := .agg (Iv.rc ?_).toArray) (yieldsIf_load_mid rfl 39 _ rfl _ _ rfl (Iv.rc _) _ ?_ Tryz.underlying39 rfl (rivinfo _)) ?_; rotate_left; (focus (intro _ hS; refine range_next hS ?_; assumption)); simp only [Act.put, List.setIfInBounds_toArray, List.set_cons_zero, List.set_cons_succ]) | (refine wpTree.take (v := .agg (Iv.cells ?_).toArray) (yieldsIf_load_mid rfl 48 _ rfl _ _ rfl (Iv.cells _) _ ?_ Tryz.underlying48 rfl (ivinfo _)) ?_; rotate_left; (focus (intro _ hS; refine range_next hS ?_; assumption)); simp only [Act.put, List.setIfInBounds_toArray, List.set_cons_zero, List.set_cons_succ]) | (refine wpTree.take (v := ?_) (Or.inl ⟨by rfl, ?_⟩) ?_; rotate_left; (focus (intro _ hS; (try dsimp only at hS); go_split_ands; (try subst hS); go_simp; (try (with_reducible rfl)); done)); simp only [Act.put, List.setIfInBounds_toArray, List.set_cons_zero, List.set_cons_succ])))
    refine wpTree.done ?_
    have Hu := Lib.hid (show Below W.heap.size W u9 from Hw9.out.1.trans (hHeld.mono Hw9.out.1.size))
    have HXu := Lib.hid (HX9.out.next hHeld)
    have HWAu := Lib.hid (HWA9.out.next hHeld)
    clear hHeld r1 r2 r3 r4 r5 eq1 eq2 HP9 HQ9 HX9 HM9 HY9 HWA9 HS HR1 Hw9 HRB HXP9 HXQ9 HXR9
    have rx := HXu.out.range
    go_wp2_with (first | (refine wpList_load_midg (by rfl) 39 _ rfl _ _ rfl (Iv.rc ?_) _ ?_ Tryz.underlying39 rfl (rivinfo _) ?_; rotate_left; (focus assumption)))
    clear rx
    cases rm with
    | false =>
      obtain ⟨rfl, rfl⟩ := HWAu.out.no (by unfold goodI; rw [← HRM.out]; rfl)
      clear HWAu
      refine (HR2.out _).mono ?_
      rintro e w10 ⟨rfl, hb⟩
      have H10 := Lib.hid (Hu.out.trans (hb.mono Hu.out.size))
      clear hb HR2 Hu HXu
      go_wp2_with fail
      refine (alive26_any _).mono ?_
      rintro e w11 ⟨rfl, hb⟩
      have H11 := Lib.hid (H10.out.trans (hb.mono H10.out.size))
      clear hb
      go_wp2_with fail
      go_ret
      exact ⟨rfl, H11.out⟩
    | true =>
      refine (HR2.out _).mono ?_
      rintro e w10 ⟨rfl, hb⟩
      have H10 := Lib.hid (Hu.out.trans (hb.mono Hu.out.size))
      have HX10 := Lib.hid (HXu.out.next hb)
      have HWA10 := Lib.hid (HWAu.out.next hb)
      have HWR := Lib.hid (fun w => rwrite26_any p HOP.out H2P.out HRM.out.symm w)
      have HLT := Lib.hid (encI_lt H2P.out)
      have HGD := Lib.hid (show goodI p = decide ((encI p).length ≤ 1800) by unfold goodI; rw [← HRM.out]; rfl)
      clear hb HR2 Hu HXu HWAu
      have rx := HX10.out.range
      go_wp2_with (first | (refine wpList_load_midg (by rfl) 39 _ rfl _ _ rfl (Iv.rc ?_) _ ?_ Tryz.underlying39 rfl (rivinfo _) ?_; rotate_left; (focus assumption)))
      clear rx
      refine (HWR.out _).mono ?_
      rintro e w11 ⟨v2, rfl, hM⟩
      obtain ⟨A2, c2, rfl, _⟩ := src_own hM.1
      have H11 := Lib.hid (H10.out.trans (hM.2.mono H10.out.size))
      have HX11 := Lib.hid (HX10.out.next hM.2)
      have HWA11 := Lib.hid (HWA10.out.next hM.2)
      clear hM HX10 HWA10 H10
      by_cases hN : (encI p).length ≤ 1800
      · obtain ⟨rfl, A, cp, rfl, hac, hab, han⟩ := HWA11.out.yes (by rw [HGD.out, decide_eq_true hN])
        have HA := Lib.hid (And.intro hab han)
        obtain ⟨E, hE⟩ : ∃ E, E = encI p := ⟨_, rfl⟩
        rw [← hE] at hN ⊢
        simp only [← hE] at HA HWR HLT
        obtain ⟨N, hNE⟩ : ∃ N, E.length = N := ⟨_, rfl⟩
        rw [hNE] at hN ⊢
        have HNE := Lib.hid hNE
        have g1 : decide ((1800 : Int) < (N : Nat)) = false := by simp; omega
        have g2 : ¬ (1800 : Int) < (N : Nat) := by omega
        clear hab han hac HWA11 hE hNE HGD hN
        go_upto_region 11 with fail
        clear g1 g2
        have rx := HX11.out.range
        refine wp_region_tree (S := (fun w => Below w11.heap.size w11 w)) (.one 0 (.take 1 (.take 2 (.take 3 (.take 4 (.take 5 (.take 6 (.take 7 (.take 8 (.one 9 (.one 10 (.take 11 (.take 12 (.take 13 .nil)))))))))))))) 9999 (by kernel_rfl) (by kernel_rfl) (by kernel_rfl) (by kernel_rfl) (by kernel_rfl) (fun _ _ d _ _ h => by cases d <;> exact h) ?_ (fun hHeld => ?_); (focus (exact (Below.refl _ _).drew)); simp only [Tree.map, List.getElem?_toArray, List.getElem?_cons_zero, List.getElem?_cons_succ]
        refine wpTree.one (fun K hK => ?_)
        go_simp
        go_at_call 5
        refine (alive26_any _).mono ?_
        rintro e y1 ⟨rfl, hby1⟩
        have hBelow := Below.trans hHeld (hby1.mono (Below.size hHeld))
        refine hK.out _ _ hBelow (fun hHeld' => ?_)
        clear hK K hHeld hby1 hBelow
        have hHeld := hHeld'
        clear hHeld'
        (try simp only [Act.put, List.setIfInBounds_toArray, List.set_cons_zero, List.set_cons_succ])
        (repeat (first | (refine wpTree.take (v := undef) (Or.inr ⟨by rfl, rfl⟩) ?_; simp only [Act.put, List.setIfInBounds_toArray, List.set_cons_zero, List.set_cons_succ]) | (refine wpTree.take (v := .string (Byt.bstr E)) (Or.inl ⟨by rfl, ?_⟩) ?_; (focus (intro wq hS; have cvq := conv_byr (c := cp) (HA.out.1.next hS) HA.out.2 HLT.out HNE.out; go_simp; done)); simp only [Act.put, List.setIfInBounds_toArray, List.set_cons_zero, List.set_cons_succ]) | (refine wpTree.take (v := .agg (Iv.rc ?_).toArray) (yieldsIf_load_mid rfl 39 _ rfl _ _ rfl (Iv.rc _) _ ?_ Tryz.underlying39 rfl (rivinfo _)) ?_; rotate_left; (focus (intro _ hS; refine range_next hS ?_; assumption)); simp only [Act.put, List.setIfInBounds_toArray, List.set_cons_zero, List.set_cons_succ]) | (refine wpTree.take (v := ?_) (Or.inl ⟨by rfl, ?_⟩) ?_; rotate_left; (focus (intro _ hS; (try dsimp only at hS); go_split_ands; (try subst hS); go_simp; (try (with_reducible rfl)); done)); simp only [Act.put, List.setIfInBounds_toArray, List.set_cons_zero, List.set_cons_succ])))
        refine wpTree.one (fun K hK => ?_)
        go_simp
        go_at_call 15
        refine (HWR.out _).mono ?_
        rintro e y2 ⟨v2, rfl, hM⟩
        obtain ⟨A3, c3, rfl, hS3⟩ := src_own hM.1
        rw [HNE.out] at hS3 ⊢
        have cv2 := Byt.conv_src y2 A3 N c3 E hS3 HNE.out HLT.out
        have hBelow := Below.trans hHeld (hM.2.mono (Below.size hHeld))
        refine hK.out _ _ hBelow (fun hHeld' => ?_)
        clear hK K hHeld hBelow hM hS3
        have hHeld := hHeld'
        clear hHeld'
        (try simp only [Act.put, List.setIfInBounds_toArray, List.set_cons_zero, List.set_cons_succ])
        refine wpTree.one (fun K hK => ?_)
        go_simp
        refine hK.out _ _ hHeld (fun _ => ?_)
        clear hK K
        (try simp only [Act.put, List.setIfInBounds_toArray, List.set_cons_zero, List.set_cons_succ])
        (repeat (first | (refine wpTree.take (v := undef) (Or.inr ⟨by rfl, rfl⟩) ?_; simp only [Act.put, List.setIfInBounds_toArray, List.set_cons_zero, List.set_cons_succ]) | (refine wpTree.take (v := ?_) (Or.inl ⟨by rfl, ?_⟩) ?_; rotate_left; (focus (intro _ hS; (try dsimp only at hS); go_split_ands; (try subst hS); go_simp; (try (with_reducible rfl)); done)); simp only [Act.put, List.setIfInBounds_toArray, List.set_cons_zero, List.set_cons_succ])))
        refine wpTree.done ?_
        clear rx cv2
        have HF := Lib.hid (H11.out.trans (hHeld.mono H11.out.size))
        clear hHeld
        go_wp2_with fail
        go_ret
        exact ⟨rfl, HF.out⟩
      · obtain ⟨rfl, rfl⟩ := HWA11.out.no (by rw [HGD.out, decide_eq_false hN])
        obtain ⟨N, hNE⟩ : ∃ N, (encI p).length = N := ⟨_, rfl⟩
        rw [hNE] at hN ⊢
        have g1 : decide ((1800 : Int) < (N : Nat)) = true := by simp; omega
        have g2 : (1800 : Int) < (N : Nat) := by omega
        clear HWA11 hNE HGD hN HWR HLT HX11
        go_wp2_with fail
        refine (alive26_any _).mono ?_
        rintro e w12 ⟨rfl, hb⟩
        have H12 := Lib.hid (H11.out.trans (hb.mono H11.out.size))
        clear hb
        go_wp2_with fail
        go_ret
        exact ⟨rfl, H12.out⟩
end In
open In

set_option maxRecDepth 100000 in
theorem inputtells_lifted (os : Os) (started : os.Started) (H : Type) (enc : TypeId × Value → H) :
    ReturnsInHanded {} Tryz.checked os 3 .any (Rows.inputTellsSpec.pre6 enc Tryz.prog Tryz.f3 Rows.inputTellsRow.domain false) (Rows.inputTellsSpec.post enc Tryz.prog Tryz.f3 false true false false) := by
  refine law_lift (C := Tryz.checked) own_knob started (by kernel_rfl) Tryz.func3 rfl Tryz.underlying4 laid_out (by kernel_rfl) rfl ?_
    (ChangeSpec.witness6 (enc := enc) (C := Tryz.checked) false ⟨#[], #[.agg #[.int .i64 0, .int .i64 0, .int .i64 0, .int .i64 0, .int .u32 0, .int .u32 0, .int .u32 0, .int .u32 0, .int .u32 0, .int .u32 0, .int .u32 0, .int .u32 0, .int .u32 0, .int .u32 0, .int .u32 0, .int .u32 0, .int .u64 0, .int .i64 0, .int .i64 0, .int .i64 0, .int .u64 0, .bool false, .int .i64 0, .int .i64 0, .int .u64 0, .slice none 0 0], .agg #[.int .i64 0, .int .i64 0, .int .i64 0, .int .i64 0, .int .u32 0, .int .u32 0, .int .u32 0, .int .u32 0, .int .u32 0, .int .u32 0, .int .u32 0, .int .u32 0, .int .u32 0, .int .u32 0, .int .u32 0, .int .u32 0, .int .u64 0, .int .i64 0, .int .i64 0, .int .i64 0, .int .u64 0, .bool false, .int .i64 0, .int .i64 0, .int .u64 0, .slice none 0 0], .slice none 0 0], []⟩ 8 (by kernel_rfl) (by kernel_rfl) (by kernel_rfl) (by kernel_rfl)) ?_
  · intro ds hds
    match ds, hds with
    | [_, _, _], _ => rfl
  intro W base args ds ps hval hA hlt hsz
  rw [Tryz.params3] at hA hval
  obtain ⟨v0, vs0, d0, ds0, p0, q0, hargs, rfl, rfl, h0, r0⟩ := trodAll_cons hA
  obtain ⟨v1, vs1, d1, ds1, p1, q1, rfl, rfl, rfl, h1, r1⟩ := trodAll_cons r0
  obtain ⟨v2, vs2, d2, ds2, p2, q2, rfl, rfl, rfl, h2, r2⟩ := trodAll_cons r1
  obtain ⟨rfl, rfl, rfl⟩ := trodAll_nil r2
  obtain rfl : args = #[v0, v1, v2] := by cases args; simp_all
  obtain ⟨p, rfl, hp, xp⟩ := open_pl (hval 0 32 v0 rfl rfl) h0 (fun x hx => hlt x (by simp [hx]))
  obtain ⟨q, rfl, hq, xq⟩ := open_pl (hval 1 32 v1 rfl rfl) h1 (fun x hx => hlt x (by simp [hx]))
  obtain ⟨As, n, cs, sb, rfl, hn, hnc, _, hb256, hby, hnone⟩ := Byt.open_bytes (hval 2 28 v2 rfl rfl) h2 (fun x hx => hlt x (by simp [hx]))
  exact tells_walk p q hp hq As n cs sb W xp xq hn hnc hb256 hby

theorem inputtells_holds : Rows.InputTellsSaid :=
  OpenClaim.holds_of_wide 3 Tryz.f3 rfl rfl rfl rfl rfl rfl rfl ⟨rfl, rfl, rfl, rfl, rfl⟩ rfl rfl rfl rfl rfl (by kernel_rfl) Tryz.func3 (by kernel_rfl)
    (of_decide_eq_true (by kernel_rfl)) (by unfold Func.isWrapper; first | (rw [if_pos (by decide +kernel)]; kernel_rfl) | (rw [if_neg (by decide +kernel)]; exact ⟨rfl, rfl⟩))
    (fun os started H enc _ => inputtells_lifted os started H enc)


end Go.Proofs.YtgnfachjobohoaaGreat
