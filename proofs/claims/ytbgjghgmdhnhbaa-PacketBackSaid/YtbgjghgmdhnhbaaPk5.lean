/-
packet: get's walk.
-/
import Derived.Test.YtbgjghgmdhnhbaaPk4
namespace Go.Proofs.Ytbgjghgmdhnhbaa
open Go.RowKit
set_option linter.unusedSimpArgs false
set_option linter.unusedVariables false
namespace Pk
theorem textP_left {most : Int} {bs x t : List Nat} (h : textP most bs = .ok (x, t)) : t.length ≤ bs.length ∧ (x.length : Int) ≤ most := by
  unfold textP at h
  cases h1 : smallP most bs with
  | error y => rw [h1] at h; cases h
  | ok z =>
    obtain ⟨v, r⟩ := z
    rw [h1] at h
    dsimp only at h
    have h4 := (small_ok h1).2
    by_cases h2 : v ≤ r.length
    · rw [if_pos h2] at h
      simp only [Except.ok.injEq, Prod.mk.injEq] at h
      obtain ⟨rfl, rfl⟩ := h
      have h3 := smallP_left h1
      exact ⟨by rw [List.length_drop]; omega, by rw [List.length_take]; omega⟩
    · rw [if_neg h2] at h; cases h
theorem get_end {L : Nat} {W w : World} {k s d : Nat} {t : List Nat} {cs : List Value} {p : Pt} {A : Option Addr} {c : Nat} (h : Gt L W w k s W.heap.size d t cs) (ho : (Pc.mk p A c).Ok w) (hlow : ∀ b o, A = some ⟨b, o, none⟩ → W.heap.size ≤ b) (hk : k < W.heap.size) (hs : s < W.heap.size) (hL : L ≤ W.heap.size) :
    EndP L s W (.ok (p, t)) (.returned (.agg (Pc.mk p A c).cells.toArray)) (w.setRow W.heap.size (Pc.mk p A c).cells.toArray) := by
  have far : ∀ b, b ≠ W.heap.size → (w.setRow W.heap.size (Pc.mk p A c).cells.toArray).heap[b]? = w.heap[b]? := fun b hb => setRow_other w W.heap.size b _ hb
  have hsz : (w.setRow W.heap.size (Pc.mk p A c).cells.toArray).heap.size = w.heap.size := by simp [World.setRow]
  have hz := h.off.size
  refine ⟨A, c, rfl, ⟨h.off.os, h.off.tape, h.off.output, by rw [hsz]; exact hz, fun b hb hbs => (far b (by omega)).trans (h.off.block b hb hbs)⟩, ⟨ho.hc, ho.h256, ?_, ho.hA⟩, hlow, rdb_keep h.rdb (far s (by omega)) (fun b hb _ _ => far b (by omega)) (by omega)⟩
  by_cases h0 : p.bs = []
  · exact Or.inl h0
  rcases ho.rd with h1 | ⟨b, o, e, h1, h2⟩
  · exact Or.inl h1
  have hb : b ≠ W.heap.size := by
    rintro rfl
    obtain ⟨y, l, hy⟩ := List.exists_cons_of_ne_nil h0
    have hy0 : p.bs[0]? = some y := by rw [hy]; rfl
    have hc := h2 0 y hy0
    rw [Nat.add_zero, h.res.cell] at hc
    match o, hc with
    | 0, hc => simp at hc
    | 1, hc => simp at hc
    | 2, hc => simp at hc
    | 3, hc => simp at hc
    | 4, hc => simp at hc
    | o + 5, hc => simp at hc
  exact Or.inr ⟨b, o, e, by rw [hsz]; exact h1, fun i x hi => (World.cell?_of_block (far b hb)).trans (h2 i x hi)⟩
theorem numP_in {bs t : List Nat} {v : Nat} (hb : ∀ y ∈ bs, y < 256) (h : numP true 0 bs = .ok (v, t)) : ∀ y ∈ t, y < 256 := by
  have h1 := num_one hb h
  rw [h1] at hb
  exact fun y hy => hb y (by simp [hy])
theorem small_in {most : Int} {bs t : List Nat} {v : Nat} (hb : ∀ y ∈ bs, y < 256) (h : smallP most bs = .ok (v, t)) : ∀ y ∈ t, y < 256 := numP_in hb (small_ok h).1
theorem textP_in {most : Int} {bs x t : List Nat} (hb : ∀ y ∈ bs, y < 256) (h : textP most bs = .ok (x, t)) : (∀ y ∈ x, y < 256) ∧ ∀ y ∈ t, y < 256 := by
  have h1 := text_one hb h
  rw [h1] at hb
  exact ⟨fun y hy => hb y (by simp [hy]), fun y hy => hb y (by simp [hy])⟩
theorem text_own {W w : World} {B d c : Nat} {p : Pt} {x : List Nat} {A : Option Addr} {cs : Array Value} {v : Value} (hw : w.ownsRow B 5 1 (.slice A x.length c) x.length (u8s x)) (hB : W.heap.size ≤ B) (h256 : ∀ y ∈ x, y < 256) (hd : Blk w d 25 cs) :
    (Pc.mk ⟨false, p.f, p.t, p.q, x⟩ A c).Ok (w.setCell ⟨d, 4, none⟩ v) ∧ (∀ b o, A = some ⟨b, o, none⟩ → W.heap.size ≤ b) := by
  have h1 := hw
  obtain ⟨hl, ⟨e, hz⟩ | ⟨g, cap, cur, e, hg, hh, hnc, _⟩⟩ := hw
  · simp only [Value.slice.injEq] at e
    obtain ⟨rfl, _, rfl⟩ := e
    have hx : x = [] := List.length_eq_zero_iff.1 hz
    subst hx
    exact ⟨⟨Nat.le_refl _, by simp, Or.inl rfl, fun _ => rfl⟩, fun b o h => by cases h⟩
  · simp only [Value.slice.injEq] at e
    obtain ⟨rfl, _, rfl⟩ := e
    have hgd : g ≠ d := by
      rintro rfl
      unfold Blk at hd
      rw [hd] at hh
      simp only [Option.some.injEq, Obj.cells.injEq] at hh
      exact absurd hh.2.1 (by decide)
    refine ⟨⟨hnc, h256, Or.inr ⟨g, 0, rfl, ?_, fun i y hy => ?_⟩, fun h => by cases h⟩, fun b o h => ?_⟩
    · have := (h1.lt g rfl).2; simpa [World.setCell] using this
    · have := h1.cells rfl i (.int .u8 (y : Nat)) (by unfold u8s; rw [List.getElem?_map, hy]; rfl)
      rw [Byt.add_plain] at this
      exact (World.cell?_of_block (Below.heap_setCell w ⟨d, 4, none⟩ v g hgd)).trans this
    · simp only [Option.some.injEq, Addr.mk.injEq] at h
      omega
set_option maxHeartbeats 8000000 in
set_option maxRecDepth 20000 in
theorem get_any {L k s : Nat} {W : World} {bs : List Nat} (hr : Rdr W k s) (h : RdB L W s bs) (hk : k < W.heap.size) (hL : L ≤ W.heap.size) (hlen : bs.length ≤ 140737488355328) (h256 : ∀ y ∈ bs, y < 256) :
    Calls Try.prog 38 #[.pointer (some ⟨k, 0, none⟩)] W fun e W' => EndP L s W (getP bs) e W' := by
  have hs : s < W.heap.size := by obtain ⟨A, c, hR, _⟩ := h; exact World.block_lt_of_cell? W ⟨s, 0, none⟩ hR.1
  have HK := Lib.hid (And.intro hk (And.intro hs hL))
  obtain ⟨R, hR⟩ : ∃ R, R = getP bs := ⟨_, rfl⟩
  rw [← hR]
  have hE := hR
  unfold getP at hE
  obtain ⟨w0, hw0⟩ : ∃ w0, w0 = W.alloc (.cells #[.bool false, .int .i64 0, .int .i64 0, .int .u64 0, .slice none 0 0] 25) := ⟨_, rfl⟩
  have hb0 : Below W.heap.size W w0 := by rw [hw0]; exact (Below.refl _ _).alloc (Nat.le_refl _) _
  have hx0 : Blk w0 W.heap.size 25 #[.bool false, .int .i64 0, .int .i64 0, .int .u64 0, .slice none 0 0] := by rw [hw0]; exact Blk.new _ _ _
  have hr0 := hr.off (off_below hb0)
  have hd0 := rdb_keep h (hb0.block s hs) (fun b _ _ h2 => hb0.block b h2) hb0.size
  have H0 := Lib.hid (And.intro hb0 (And.intro hx0 (And.intro hr0 hd0)))
  have HW := Lib.hid hw0
  have HLEN := Lib.hid (And.intro hlen h256)
  have HD := Lib.hid (rsmall_any k s bs 1 w0 hr0 hd0 (by omega))
  clear hR hr h hk hs hL hlen h256 hw0 hb0 hx0 hr0 hd0
  go_enter Try.func38, Try.ntmps38
  go_upto_region 1 with fail
  rw [← HW.out]
  cases hv : smallP 1 bs with
  | error x =>
    rw [hv] at hE HD
    have HE2 := Lib.hid hE
    clear hE hv
    go_wp2_with (first | (go_at_call 61; refine HD.out.mono ?_; rintro e w9 ⟨hO, rfl, hM⟩; have HO := Lib.hid ((off_below H0.out.1).trans hO); have HM := Lib.hid hM; clear hM hO))
    exact ⟨rfl, by rw [HE2.out]; exact ⟨rfl, HM.out, HO.out⟩⟩
  | ok z =>
    obtain ⟨a, t1⟩ := z
    rw [hv] at hE HD
    dsimp only at hE
    obtain ⟨kb, hkb⟩ : ∃ kb, ((a : Int) == 1) = kb := ⟨_, rfl⟩
    have HKB := Lib.hid hkb
    have HT1 := Lib.hid (And.intro (smallP_left hv) (And.intro (small_ok hv).2 (small_ok hv).1))
    have HEH := Lib.hid hE
    clear hE hv
    go_upto_region 2 with (first | (go_at_call 61; refine HD.out.mono ?_; rintro e w1 ⟨hO, rfl, hM⟩; have H1 := Lib.hid (And.intro hO hM); clear hM hO) | (refine wpList_store_blk rfl 25 _ _ rfl w1.heap.size 25 #[.bool false, .int .i64 0, .int .i64 0, .int .u64 0, .slice none 0 0] #[.bool kb, .int .i64 0, .int .i64 0, .int .u64 0, .slice none 0 0] rfl rfl (Blk.new w1 _ _) (by kernel_rfl) rfl (by simp [Value.oneCell']) ?_; intro b5; clear b5))
    rw [Wr.alloc_setRow]
    clear hkb HD
    obtain ⟨w2, hw2⟩ : ∃ w2, w2 = w1.alloc (.cells #[.bool kb, .int .i64 0, .int .i64 0, .int .u64 0, .slice none 0 0] 25) := ⟨_, rfl⟩
    have hb2 : Below w1.heap.size w1 w2 := by rw [hw2]; exact (Below.refl _ _).alloc (Nat.le_refl _) _
    have hx2 : Blk w2 w1.heap.size 25 #[.bool kb, .int .i64 0, .int .i64 0, .int .u64 0, .slice none 0 0] := by rw [hw2]; exact Blk.new _ _ _
    have hz2 : w2.heap.size = w1.heap.size + 1 := by rw [hw2]; simp
    rw [← hw2]
    have HG := Lib.hid (show Gt L W w2 k s W.heap.size w1.heap.size t1 [.bool kb, .int .i64 0, .int .i64 0, .int .u64 0, .slice none 0 0] from by
      have hz0 := H0.out.2.1.lt
      have hz1 := H1.out.1.size
      have hs := HK.out.2.1
      refine ⟨(off_below H0.out.1).trans (H1.out.1.trans (off_below hb2)), (H0.out.2.2.1.off H1.out.1).off (off_below hb2), rdb_keep H1.out.2 (hb2.block s (by omega)) (fun b _ _ h2 => hb2.block b h2) hb2.size, ⟨Nat.le_refl _, by omega, by omega⟩, ((hb2.block _ (by omega)).trans (H1.out.1.block _ hz0 (by omega))).trans H0.out.2.1, hx2, Nat.le_trans HT1.out.1 HLEN.out.1⟩)
    obtain ⟨d, hd⟩ : ∃ d, d = w1.heap.size := ⟨_, rfl⟩
    rw [← hd] at HG ⊢
    clear hw2 hb2 hx2 hz2 H1 H0 hd
    have hE := HEH.out
    clear HEH
    unfold getP1 at hE
    have HD := Lib.hid (rsmall_any k s t1 12 w2 HG.out.rdr HG.out.rdb (by omega))
    cases hv : smallP 12 t1 with
    | error x =>
      rw [hv] at hE HD
      have HE2 := Lib.hid hE
      clear hE hv
      go_wp2_with (first | (go_at_call 61; refine HD.out.mono ?_; rintro e w9 ⟨hO, rfl, hM⟩; have HO := Lib.hid (HG.out.off.trans hO); have HM := Lib.hid hM; clear hM hO))
      exact ⟨rfl, by rw [HE2.out]; exact ⟨rfl, HM.out, HO.out⟩⟩
    | ok z =>
      obtain ⟨f, t2⟩ := z
      rw [hv] at hE HD
      dsimp only at hE
      have HL1 := Lib.hid (smallP_left hv)
      have HV1 := Lib.hid hv
      have HEH := Lib.hid hE
      clear hE hv
      go_upto_region 3 with (first | (go_at_call 61; refine HD.out.mono ?_; rintro e w9 ⟨hO, rfl, hM⟩; have HG9 := Lib.hid (HG.out.step HK.out.2.1 hO hM HL1.out); have c9 := HG9.out.blk.cell 1; have z9 := HG9.out.blk.frozen 1; clear hM hO))
      clear c9 z9 HD HG
      have hg := HG9.out.set HK.out.1 HK.out.2.1 HK.out.2.2 1 (.int .i64 (f : Nat))
      obtain ⟨w3, hwa⟩ : ∃ w3, w3 = w9.setCell ⟨d, 1, none⟩ (.int .i64 (f : Nat)) := ⟨_, rfl⟩
      rw [← hwa] at hg ⊢
      have HG := Lib.hid (show Gt L W w3 k s W.heap.size d t2 [.bool kb, .int .i64 (f : Nat), .int .i64 0, .int .u64 0, .slice none 0 0] from hg)
      clear hg hwa HG9
      have hE := HEH.out
      clear HEH
      unfold getP2 at hE
      have HD := Lib.hid (rsmall_any k s t2 12 w3 HG.out.rdr HG.out.rdb (by omega))
      cases hv : smallP 12 t2 with
      | error x =>
        rw [hv] at hE HD
        have HE2 := Lib.hid hE
        clear hE hv
        go_wp2_with (first | (go_at_call 61; refine HD.out.mono ?_; rintro e w9 ⟨hO, rfl, hM⟩; have HO := Lib.hid (HG.out.off.trans hO); have HM := Lib.hid hM; clear hM hO))
        exact ⟨rfl, by rw [HE2.out]; exact ⟨rfl, HM.out, HO.out⟩⟩
      | ok z =>
        obtain ⟨t, t3⟩ := z
        rw [hv] at hE HD
        dsimp only at hE
        have HL2 := Lib.hid (smallP_left hv)
        have HV2 := Lib.hid hv
        have HEH := Lib.hid hE
        clear hE hv
        go_upto_region 4 with (first | (go_at_call 61; refine HD.out.mono ?_; rintro e w9 ⟨hO, rfl, hM⟩; have HG9 := Lib.hid (HG.out.step HK.out.2.1 hO hM HL2.out); have c9 := HG9.out.blk.cell 2; have z9 := HG9.out.blk.frozen 2; clear hM hO))
        clear c9 z9 HD HG
        have hg := HG9.out.set HK.out.1 HK.out.2.1 HK.out.2.2 2 (.int .i64 (t : Nat))
        obtain ⟨w4, hwa⟩ : ∃ w4, w4 = w9.setCell ⟨d, 2, none⟩ (.int .i64 (t : Nat)) := ⟨_, rfl⟩
        rw [← hwa] at hg ⊢
        have HG := Lib.hid (show Gt L W w4 k s W.heap.size d t3 [.bool kb, .int .i64 (f : Nat), .int .i64 (t : Nat), .int .u64 0, .slice none 0 0] from hg)
        clear hg hwa HG9
        have hE := HEH.out
        clear HEH
        unfold getP3 at hE
        have HD := Lib.hid (rnum_any k s t3 w4 HG.out.rdr HG.out.rdb)
        cases hv : numP true 0 t3 with
        | error x =>
          rw [hv] at hE HD
          have HE2 := Lib.hid hE
          clear hE hv
          go_wp2_with (first | (go_at_call 39; refine HD.out.mono ?_; rintro e w9 ⟨hO, rfl, hM⟩; have HO := Lib.hid (HG.out.off.trans hO); have HM := Lib.hid hM; clear hM hO))
          exact ⟨rfl, by rw [HE2.out]; exact ⟨rfl, HM.out, HO.out⟩⟩
        | ok z =>
          obtain ⟨q, t4⟩ := z
          rw [hv] at hE HD
          dsimp only at hE
          have HL3 := Lib.hid (numP_left _ _ _ _ _ hv)
          have HV3 := Lib.hid hv
          have HEH := Lib.hid hE
          clear hE hv
          go_upto_region 5 with (first | (go_at_call 39; refine HD.out.mono ?_; rintro e w9 ⟨hO, rfl, hM⟩; have HG9 := Lib.hid (HG.out.step HK.out.2.1 hO hM HL3.out); have c9 := HG9.out.blk.cell 3; have z9 := HG9.out.blk.frozen 3; clear hM hO))
          clear c9 z9 HD HG
          have hg := HG9.out.set HK.out.1 HK.out.2.1 HK.out.2.2 3 (.int .u64 (q : Nat))
          obtain ⟨w5, hwa⟩ : ∃ w5, w5 = w9.setCell ⟨d, 3, none⟩ (.int .u64 (q : Nat)) := ⟨_, rfl⟩
          rw [← hwa] at hg ⊢
          have HG := Lib.hid (show Gt L W w5 k s W.heap.size d t4 [.bool kb, .int .i64 (f : Nat), .int .i64 (t : Nat), .int .u64 (q : Nat), .slice none 0 0] from hg)
          clear hg hwa HG9
          have hE := HEH.out
          clear HEH
          unfold getP4 at hE
          have c0 := HG.out.blk.cell 0
          rw [List.getElem?_toArray] at c0
          cases kb with
          | true =>
            have ha : a = 1 := by have := HKB.out; simp at this; omega
            rw [if_pos ha] at hE
            have HEH := Lib.hid hE
            clear hE ha
            have HOK := Lib.hid (show (Pc.mk ⟨true, f, t, q, []⟩ none 0).Ok w5 from ⟨Nat.le_refl _, by simp, Or.inl rfl, fun _ => rfl⟩)
            have HLOW := Lib.hid (show ∀ b o, (none : Option Addr) = some ⟨b, o, none⟩ → W.heap.size ≤ b from fun b o h => by cases h)
            go_upto_region 7 with fail
            clear c0
            have HRT := Lib.hid (right_any w5 (Pc.mk ⟨true, f, t, q, []⟩ none 0))
            have hrx := HG.out.blk.range
            have hrd := HG.out.blk
            obtain ⟨rb, hrb⟩ : ∃ rb, rb = rightB (Pc.mk ⟨true, f, t, q, []⟩ none 0).p := ⟨_, rfl⟩
            have HRB := Lib.hid hrb
            rw [← hrb] at HRT
            clear hrb
            cases rb with
            | false =>
              have HE2 := Lib.hid (show R = .error 3 from by rw [HEH.out]; unfold finP; rw [if_neg (by have := HRB.out; rw [show rightB _ = false from this.symm]; decide)])
              clear HEH
              go_wp2_with (first | (refine wpList_load_mid rfl 25 _ rfl _ _ rfl (Pc.mk ⟨true, f, t, q, []⟩ none 0).cells _ hrx Try.underlying25 rfl (pcinfo _) ?_) | (go_at_call 31; refine HRT.out.mono ?_; rintro e w8 ⟨rfl, hb⟩; have HG8 := Lib.hid (HG.out.below HK.out.2.1 hb); clear hb) | (go_at_call 40; refine (rmust_not k s t4 _ HG8.out.rdr HG8.out.rdb).mono ?_; rintro e w9 ⟨rfl, hM, hO⟩; have HO := Lib.hid (HG8.out.off.trans hO); have HM := Lib.hid hM; clear hM hO))
              exact ⟨rfl, by rw [HE2.out]; exact ⟨rfl, HM.out, HO.out⟩⟩
            | true =>
              have HE2 := Lib.hid (show R = .ok ((Pc.mk ⟨true, f, t, q, []⟩ none 0).p, t4) from by rw [HEH.out]; unfold finP; rw [if_pos (by have := HRB.out; exact this.symm)])
              clear HEH
              go_upto_region 8 with (first | (refine wpList_load_mid rfl 25 _ rfl _ _ rfl (Pc.mk ⟨true, f, t, q, []⟩ none 0).cells _ hrx Try.underlying25 rfl (pcinfo _) ?_) | (go_at_call 31; refine HRT.out.mono ?_; rintro e w8 ⟨rfl, hb⟩; have HG8 := Lib.hid (HG.out.below HK.out.2.1 hb); have HOK8 := Lib.hid (HOK.out.next hb); clear hb) | (go_at_call 40; refine (rmust_yes k s t4 _ HG8.out.rdr HG8.out.rdb).mono ?_; rintro e w9 ⟨rfl, rfl⟩))
              clear hrx hrd HRT
              have hrx8 := HG8.out.blk.range
              have hres := HG8.out.res
              go_wp2_with (first | (refine wpList_load_mid rfl 25 _ rfl _ _ rfl (Pc.mk ⟨true, f, t, q, []⟩ none 0).cells _ hrx8 Try.underlying25 rfl (pcinfo _) ?_) | (refine wpList_store_blk rfl 25 _ _ rfl W.heap.size 25 #[.bool false, .int .i64 0, .int .i64 0, .int .u64 0, .slice none 0 0] (Pc.mk ⟨true, f, t, q, []⟩ none 0).cells.toArray rfl rfl hres (pcinfoA _) (pc_siz _) (pc_one _) ?_; intro b5; clear b5))
              have hset := hres.setRow (Pc.mk ⟨true, f, t, q, []⟩ none 0).cells.toArray
              refine bodyPost_row (t := 25) (Pc.mk ⟨true, f, t, q, []⟩ none 0).cells.toArray rfl rfl rfl Try.underlying25 rfl (pcinfoA _) hset ?_
              rw [HE2.out]
              exact get_end HG8.out HOK8.out HLOW.out HK.out.1 HK.out.2.1 HK.out.2.2
          | false =>
            have ha : a ≠ 1 := by intro h; have := HKB.out; rw [h] at this; simp at this
            rw [if_neg ha] at hE
            clear ha
            have HD := Lib.hid (rtext_any k s t4 1800 w5 HG.out.rdr HG.out.rdb (by omega) HG.out.tl)
            cases hv : textP 1800 t4 with
            | error x =>
              rw [hv] at hE HD
              have HE2 := Lib.hid hE
              clear hE hv
              go_wp2_with (first | (go_at_call 62; refine HD.out.mono ?_; rintro e w9 hE9; simp only [EndsT] at hE9; obtain ⟨hO, rfl, hM⟩ := hE9; have HO := Lib.hid (HG.out.off.trans hO); have HM := Lib.hid hM; clear hM hO))
              exact ⟨rfl, by rw [HE2.out]; exact ⟨rfl, HM.out, HO.out⟩⟩
            | ok z =>
              obtain ⟨x, t5⟩ := z
              rw [hv] at hE HD
              dsimp only at hE
              have HV4 := Lib.hid hv
              have HEH := Lib.hid hE
              clear hE hv
              go_upto_region 7 with (first | (go_at_call 62; refine HD.out.mono ?_; rintro e w9 hE9; simp only [EndsT] at hE9; obtain ⟨hO, ⟨v, rfl, hw⟩, hB⟩ := hE9; obtain ⟨A, c, rfl⟩ := slice_of hw; have HG9 := Lib.hid (HG.out.step HK.out.2.1 hO hB (textP_left HV4.out).1); have c9 := HG9.out.blk.cell 4; have z9 := HG9.out.blk.frozen 4; have HW9 := Lib.hid (And.intro hw HG.out.off.size); clear hB hO hw))
              clear c9 z9 HD HG c0
              have hg := HG9.out.set HK.out.1 HK.out.2.1 HK.out.2.2 4 (.slice A x.length c)
              have HOK := Lib.hid (show (Pc.mk ⟨false, f, t, q, x⟩ A c).Ok (w9.setCell ⟨d, 4, none⟩ (.slice A x.length c)) ∧ (∀ b o, A = some ⟨b, o, none⟩ → W.heap.size ≤ b) from text_own (p := ⟨false, f, t, q, x⟩) HW9.out.1 HW9.out.2 (textP_in (numP_in (small_in (small_in (numP_in HLEN.out.2 HT1.out.2.2) HV1.out) HV2.out) HV3.out) HV4.out).1 HG9.out.blk)
              have HLOW := Lib.hid HOK.out.2
              have HOK := Lib.hid HOK.out.1
              obtain ⟨w6, hwa⟩ : ∃ w6, w6 = w9.setCell ⟨d, 4, none⟩ (.slice A x.length c) := ⟨_, rfl⟩
              rw [← hwa] at hg HOK ⊢
              have HG := Lib.hid (show Gt L W w6 k s W.heap.size d t5 [.bool false, .int .i64 (f : Nat), .int .i64 (t : Nat), .int .u64 (q : Nat), .slice A x.length c] from hg)
              clear hg hwa HG9
              have HRT := Lib.hid (right_any w6 (Pc.mk ⟨false, f, t, q, x⟩ A c))
              have hrx := HG.out.blk.range
              have hrd := HG.out.blk
              obtain ⟨rb, hrb⟩ : ∃ rb, rb = rightB (Pc.mk ⟨false, f, t, q, x⟩ A c).p := ⟨_, rfl⟩
              have HRB := Lib.hid hrb
              rw [← hrb] at HRT
              clear hrb
              cases rb with
              | false =>
                have HE2 := Lib.hid (show R = .error 3 from by rw [HEH.out]; unfold finP; rw [if_neg (by have := HRB.out; rw [show rightB _ = false from this.symm]; decide)])
                clear HEH
                go_wp2_with (first | (refine wpList_load_mid rfl 25 _ rfl _ _ rfl (Pc.mk ⟨false, f, t, q, x⟩ A c).cells _ hrx Try.underlying25 rfl (pcinfo _) ?_) | (go_at_call 31; refine HRT.out.mono ?_; rintro e w8 ⟨rfl, hb⟩; have HG8 := Lib.hid (HG.out.below HK.out.2.1 hb); clear hb) | (go_at_call 40; refine (rmust_not k s t5 _ HG8.out.rdr HG8.out.rdb).mono ?_; rintro e w9 ⟨rfl, hM, hO⟩; have HO := Lib.hid (HG8.out.off.trans hO); have HM := Lib.hid hM; clear hM hO))
                exact ⟨rfl, by rw [HE2.out]; exact ⟨rfl, HM.out, HO.out⟩⟩
              | true =>
                have HE2 := Lib.hid (show R = .ok ((Pc.mk ⟨false, f, t, q, x⟩ A c).p, t5) from by rw [HEH.out]; unfold finP; rw [if_pos (by have := HRB.out; exact this.symm)])
                clear HEH
                go_upto_region 8 with (first | (refine wpList_load_mid rfl 25 _ rfl _ _ rfl (Pc.mk ⟨false, f, t, q, x⟩ A c).cells _ hrx Try.underlying25 rfl (pcinfo _) ?_) | (go_at_call 31; refine HRT.out.mono ?_; rintro e w8 ⟨rfl, hb⟩; have HG8 := Lib.hid (HG.out.below HK.out.2.1 hb); have HOK8 := Lib.hid (HOK.out.next hb); clear hb) | (go_at_call 40; refine (rmust_yes k s t5 _ HG8.out.rdr HG8.out.rdb).mono ?_; rintro e w9 ⟨rfl, rfl⟩))
                clear hrx hrd HRT
                have hrx8 := HG8.out.blk.range
                have hres := HG8.out.res
                go_wp2_with (first | (refine wpList_load_mid rfl 25 _ rfl _ _ rfl (Pc.mk ⟨false, f, t, q, x⟩ A c).cells _ hrx8 Try.underlying25 rfl (pcinfo _) ?_) | (refine wpList_store_blk rfl 25 _ _ rfl W.heap.size 25 #[.bool false, .int .i64 0, .int .i64 0, .int .u64 0, .slice none 0 0] (Pc.mk ⟨false, f, t, q, x⟩ A c).cells.toArray rfl rfl hres (pcinfoA _) (pc_siz _) (pc_one _) ?_; intro b5; clear b5))
                have hset := hres.setRow (Pc.mk ⟨false, f, t, q, x⟩ A c).cells.toArray
                refine bodyPost_row (t := 25) (Pc.mk ⟨false, f, t, q, x⟩ A c).cells.toArray rfl rfl rfl Try.underlying25 rfl (pcinfoA _) hset ?_
                rw [HE2.out]
                exact get_end HG8.out HOK8.out HLOW.out HK.out.1 HK.out.2.1 HK.out.2.2
end Pk
end Go.Proofs.Ytbgjghgmdhnhbaa
