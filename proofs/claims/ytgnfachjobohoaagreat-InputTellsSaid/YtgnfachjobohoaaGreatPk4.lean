/-
packet: get.
packet: get's walk.
packet: what Read's reader does.
packet: Read.
-/
import Derived.Test.YtgnfachjobohoaaGreatPk
import Derived.Test.YtgnfachjobohoaaGreatEndT
namespace Go.Proofs.YtgnfachjobohoaaGreat
open Go.RowKit
set_option linter.unusedSimpArgs false
set_option linter.unusedVariables false
namespace Pk
def finP (p : Pt) (t : List Nat) : Except Int (Pt × List Nat) := if rightB p then .ok (p, t) else .error 3
def getP4 (a f t q : Nat) (bs : List Nat) : Except Int (Pt × List Nat) :=
  if a = 1 then finP ⟨true, f, t, q, []⟩ bs else match textP 1800 bs with
    | .ok (x, t5) => finP ⟨false, f, t, q, x⟩ t5
    | .error e => .error e
def getP3 (a f t : Nat) (bs : List Nat) : Except Int (Pt × List Nat) := match numP true 0 bs with
    | .ok (q, t4) => getP4 a f t q t4
    | .error e => .error e
def getP2 (a f : Nat) (bs : List Nat) : Except Int (Pt × List Nat) := match smallP 12 bs with
    | .ok (t, t3) => getP3 a f t t3
    | .error e => .error e
def getP1 (a : Nat) (bs : List Nat) : Except Int (Pt × List Nat) := match smallP 12 bs with
    | .ok (f, t2) => getP2 a f t2
    | .error e => .error e
def getP (bs : List Nat) : Except Int (Pt × List Nat) := match smallP 1 bs with
    | .ok (a, t1) => getP1 a t1
    | .error e => .error e
theorem off_below {s : Nat} {w w' : World} (hb : Below w.heap.size w w') : Off s w w' := ⟨hb.os, hb.tape, hb.output, hb.size, fun b h _ => hb.block b h⟩
theorem rdb_keep {L s : Nat} {W W' : World} {bs : List Nat} (h : RdB L W s bs) (hs : W'.heap[s]? = W.heap[s]?) (hL : ∀ k, k < L → k ≠ s → k < W.heap.size → W'.heap[k]? = W.heap[k]?) (hz : W.heap.size ≤ W'.heap.size) : RdB L W' s bs := by
  obtain ⟨A, c, hR, hc, h⟩ := h
  have cs : ∀ i, W'.cell? ⟨s, i, none⟩ = W.cell? ⟨s, i, none⟩ := fun i => World.cell?_of_block hs
  refine ⟨A, c, ⟨(cs 0).trans hR.1, (cs 1).trans hR.2.1, (cs 2).trans hR.2.2.1, fun i => ?_⟩, hc, h.imp id ?_⟩
  · have := hR.2.2.2 i
    simp only [World.frozen?] at this ⊢
    rw [hs]; exact this
  rintro ⟨b, p, e, h1, ⟨h0, h2⟩, h3⟩
  exact ⟨b, p, e, h1, ⟨h0, Nat.lt_of_lt_of_le h2 hz⟩, fun i x hi => (World.cell?_of_block (hL b h0 h1 h2)).trans (h3 i x hi)⟩
/-- A packet that is being read, in block d; its place for the answer is block r. -/
structure Gt (L : Nat) (W wr : World) (k s r d : Nat) (t : List Nat) (cs : List Value) : Prop where
  off : Off s W wr
  rdr : Rdr wr k s
  rdb : RdB L wr s t
  rl : W.heap.size ≤ r ∧ r < d ∧ d < wr.heap.size
  res : Blk wr r 30 #[.bool false, .int .i64 0, .int .i64 0, .int .u64 0, .slice none 0 0]
  blk : Blk wr d 30 cs.toArray
  tl : t.length ≤ 140737488355328
section
variable {L : Nat} {W wr w' : World} {k s r d : Nat} {t : List Nat} {cs : List Value}
theorem Gt.step (h : Gt L W wr k s r d t cs) {t' : List Nat} (hs : s < W.heap.size) (hO : Off s wr w') (hB : RdB L w' s t') (hl : t'.length ≤ t.length) : Gt L W w' k s r d t' cs := by
  have hz := h.off.size
  have h1 := h.rl
  exact ⟨h.off.trans hO, h.rdr.off hO, hB, ⟨h1.1, h1.2.1, Nat.lt_of_lt_of_le h1.2.2 hO.size⟩, (hO.block r (by omega) (by omega)).trans h.res, (hO.block d h1.2.2 (by omega)).trans h.blk, Nat.le_trans hl h.tl⟩
theorem Gt.below (h : Gt L W wr k s r d t cs) (hs : s < W.heap.size) (hb : Below wr.heap.size wr w') : Gt L W w' k s r d t cs :=
  h.step hs (off_below hb) (rdb_keep h.rdb (hb.block s (Nat.lt_of_lt_of_le hs h.off.size)) (fun b _ _ h2 => hb.block b h2) hb.size) (Nat.le_refl _)
theorem Gt.set (h : Gt L W wr k s r d t cs) (hk : k < W.heap.size) (hs : s < W.heap.size) (hL : L ≤ W.heap.size) (i : Nat) (v : Value) : Gt L W (wr.setCell ⟨d, i, none⟩ v) k s r d t (cs.set i v) := by
  have hz := h.off.size
  have h1 := h.rl
  have far : ∀ b, b ≠ d → (wr.setCell ⟨d, i, none⟩ v).heap[b]? = wr.heap[b]? := fun b hb => Below.heap_setCell wr ⟨d, i, none⟩ _ b hb
  have hsz : (wr.setCell ⟨d, i, none⟩ v).heap.size = wr.heap.size := by simp [World.setCell]
  have hb := h.blk.setCell i v
  refine ⟨⟨h.off.os, h.off.tape, h.off.output, by rw [hsz]; exact hz, fun b hb hbs => (far b (by omega)).trans (h.off.block b hb hbs)⟩, ⟨h.rdr.1, (World.cell?_of_block (far k (by omega))).trans h.rdr.2⟩, rdb_keep h.rdb (far s (by omega)) (fun b hb _ _ => far b (by omega)) (by omega), ⟨h1.1, h1.2.1, by omega⟩, (far r (by omega)).trans h.res, ?_, h.tl⟩
  have e : (cs.set i v).toArray = cs.toArray.setIfInBounds i v := by simp
  rw [e]; exact hb
end
/-- What get gives. -/
def EndP (L s : Nat) (W : World) (P : Except Int (Pt × List Nat)) (e : Ending) (W' : World) : Prop :=
  match P with
  | .ok (p, q) => ∃ A c, e = .returned (.agg (Pc.mk p A c).cells.toArray) ∧ Off s W W' ∧ (Pc.mk p A c).Ok W' ∧ (∀ b o, A = some ⟨b, o, none⟩ → W.heap.size ≤ b) ∧ RdB L W' s q
  | .error x => e = .panicked [{ v := flt s, recovered := false }] ∧ Met' W' s x ∧ Off s W W'
end Pk
end Go.Proofs.YtgnfachjobohoaaGreat
namespace Go.Proofs.YtgnfachjobohoaaGreat
open Go.RowKit
set_option linter.unusedSimpArgs false
set_option linter.unusedVariables false
namespace Pk
theorem textP_left {most : Int} {bs x t : List Nat} (h : textP most bs = .ok (x, t)) : t.length ≤ bs.length ∧ (x.length : Int) ≤ most := by
  unfold textP at h
  cases h1 : smallP most bs with
  | error y => rw [h1] at h; cases h
  | ok z =>
    obtain ⟨v, r⟩ := z
    rw [h1] at h
    dsimp only at h
    have h4 := (small_ok h1).2
    by_cases h2 : v ≤ r.length
    · rw [if_pos h2] at h
      simp only [Except.ok.injEq, Prod.mk.injEq] at h
      obtain ⟨rfl, rfl⟩ := h
      have h3 := smallP_left h1
      exact ⟨by rw [List.length_drop]; omega, by rw [List.length_take]; omega⟩
    · rw [if_neg h2] at h; cases h
theorem get_end {L : Nat} {W w : World} {k s d : Nat} {t : List Nat} {cs : List Value} {p : Pt} {A : Option Addr} {c : Nat} (h : Gt L W w k s W.heap.size d t cs) (ho : (Pc.mk p A c).Ok w) (hlow : ∀ b o, A = some ⟨b, o, none⟩ → W.heap.size ≤ b) (hk : k < W.heap.size) (hs : s < W.heap.size) (hL : L ≤ W.heap.size) :
    EndP L s W (.ok (p, t)) (.returned (.agg (Pc.mk p A c).cells.toArray)) (w.setRow W.heap.size (Pc.mk p A c).cells.toArray) := by
  have far : ∀ b, b ≠ W.heap.size → (w.setRow W.heap.size (Pc.mk p A c).cells.toArray).heap[b]? = w.heap[b]? := fun b hb => setRow_other w W.heap.size b _ hb
  have hsz : (w.setRow W.heap.size (Pc.mk p A c).cells.toArray).heap.size = w.heap.size := by simp [World.setRow]
  have hz := h.off.size
  refine ⟨A, c, rfl, ⟨h.off.os, h.off.tape, h.off.output, by rw [hsz]; exact hz, fun b hb hbs => (far b (by omega)).trans (h.off.block b hb hbs)⟩, ⟨ho.hc, ho.h256, ?_, ho.hA⟩, hlow, rdb_keep h.rdb (far s (by omega)) (fun b hb _ _ => far b (by omega)) (by omega)⟩
  by_cases h0 : p.bs = []
  · exact Or.inl h0
  rcases ho.rd with h1 | ⟨b, o, e, h1, h2⟩
  · exact Or.inl h1
  have hb : b ≠ W.heap.size := by
    rintro rfl
    obtain ⟨y, l, hy⟩ := List.exists_cons_of_ne_nil h0
    have hy0 : p.bs[0]? = some y := by rw [hy]; rfl
    have hc := h2 0 y hy0
    rw [Nat.add_zero, h.res.cell] at hc
    match o, hc with
    | 0, hc => simp at hc
    | 1, hc => simp at hc
    | 2, hc => simp at hc
    | 3, hc => simp at hc
    | 4, hc => simp at hc
    | o + 5, hc => simp at hc
  exact Or.inr ⟨b, o, e, by rw [hsz]; exact h1, fun i x hi => (World.cell?_of_block (far b hb)).trans (h2 i x hi)⟩
theorem numP_in {bs t : List Nat} {v : Nat} (hb : ∀ y ∈ bs, y < 256) (h : numP true 0 bs = .ok (v, t)) : ∀ y ∈ t, y < 256 := by
  have h1 := num_one hb h
  rw [h1] at hb
  exact fun y hy => hb y (by simp [hy])
theorem small_in {most : Int} {bs t : List Nat} {v : Nat} (hb : ∀ y ∈ bs, y < 256) (h : smallP most bs = .ok (v, t)) : ∀ y ∈ t, y < 256 := numP_in hb (small_ok h).1
theorem textP_in {most : Int} {bs x t : List Nat} (hb : ∀ y ∈ bs, y < 256) (h : textP most bs = .ok (x, t)) : (∀ y ∈ x, y < 256) ∧ ∀ y ∈ t, y < 256 := by
  have h1 := text_one hb h
  rw [h1] at hb
  exact ⟨fun y hy => hb y (by simp [hy]), fun y hy => hb y (by simp [hy])⟩
theorem text_own {W w : World} {B d c : Nat} {p : Pt} {x : List Nat} {A : Option Addr} {cs : Array Value} {v : Value} (hw : w.ownsRow B 5 1 (.slice A x.length c) x.length (u8s x)) (hB : W.heap.size ≤ B) (h256 : ∀ y ∈ x, y < 256) (hd : Blk w d 30 cs) :
    (Pc.mk ⟨false, p.f, p.t, p.q, x⟩ A c).Ok (w.setCell ⟨d, 4, none⟩ v) ∧ (∀ b o, A = some ⟨b, o, none⟩ → W.heap.size ≤ b) := by
  have h1 := hw
  obtain ⟨hl, ⟨e, hz⟩ | ⟨g, cap, cur, e, hg, hh, hnc, _⟩⟩ := hw
  · simp only [Value.slice.injEq] at e
    obtain ⟨rfl, _, rfl⟩ := e
    have hx : x = [] := List.length_eq_zero_iff.1 hz
    subst hx
    exact ⟨⟨Nat.le_refl _, by simp, Or.inl rfl, fun _ => rfl⟩, fun b o h => by cases h⟩
  · simp only [Value.slice.injEq] at e
    obtain ⟨rfl, _, rfl⟩ := e
    have hgd : g ≠ d := by
      rintro rfl
      unfold Blk at hd
      rw [hd] at hh
      simp only [Option.some.injEq, Obj.cells.injEq] at hh
      exact absurd hh.2.1 (by decide)
    refine ⟨⟨hnc, h256, Or.inr ⟨g, 0, rfl, ?_, fun i y hy => ?_⟩, fun h => by cases h⟩, fun b o h => ?_⟩
    · have := (h1.lt g rfl).2; simpa [World.setCell] using this
    · have := h1.cells rfl i (.int .u8 (y : Nat)) (by unfold u8s; rw [List.getElem?_map, hy]; rfl)
      rw [Byt.add_plain] at this
      exact (World.cell?_of_block (Below.heap_setCell w ⟨d, 4, none⟩ v g hgd)).trans this
    · simp only [Option.some.injEq, Addr.mk.injEq] at h
      omega
set_option maxHeartbeats 8000000 in
set_option maxRecDepth 20000 in
theorem get_any {L k s : Nat} {W : World} {bs : List Nat} (hr : Rdr W k s) (h : RdB L W s bs) (hk : k < W.heap.size) (hL : L ≤ W.heap.size) (hlen : bs.length ≤ 140737488355328) (h256 : ∀ y ∈ bs, y < 256) :
    Calls Tryz.prog 106 #[.pointer (some ⟨k, 0, none⟩)] W fun e W' => EndP L s W (getP bs) e W' := by
  have hs : s < W.heap.size := by obtain ⟨A, c, hR, _⟩ := h; exact World.block_lt_of_cell? W ⟨s, 0, none⟩ hR.1
  have HK := Lib.hid (And.intro hk (And.intro hs hL))
  obtain ⟨R, hR⟩ : ∃ R, R = getP bs := ⟨_, rfl⟩
  rw [← hR]
  have hE := hR
  unfold getP at hE
  obtain ⟨w0, hw0⟩ : ∃ w0, w0 = W.alloc (.cells #[.bool false, .int .i64 0, .int .i64 0, .int .u64 0, .slice none 0 0] 30) := ⟨_, rfl⟩
  have hb0 : Below W.heap.size W w0 := by rw [hw0]; exact (Below.refl _ _).alloc (Nat.le_refl _) _
  have hx0 : Blk w0 W.heap.size 30 #[.bool false, .int .i64 0, .int .i64 0, .int .u64 0, .slice none 0 0] := by rw [hw0]; exact Blk.new _ _ _
  have hr0 := hr.off (off_below hb0)
  have hd0 := rdb_keep h (hb0.block s hs) (fun b _ _ h2 => hb0.block b h2) hb0.size
  have H0 := Lib.hid (And.intro hb0 (And.intro hx0 (And.intro hr0 hd0)))
  have HW := Lib.hid hw0
  have HLEN := Lib.hid (And.intro hlen h256)
  have HD := Lib.hid (rsmall_any k s bs 1 w0 hr0 hd0 (by omega))
  clear hR hr h hk hs hL hlen h256 hw0 hb0 hx0 hr0 hd0
  go_enter Tryz.func106, Tryz.ntmps106
  go_upto_region 1 with fail
  rw [← HW.out]
  cases hv : smallP 1 bs with
  | error x =>
    rw [hv] at hE HD
    have HE2 := Lib.hid hE
    clear hE hv
    go_wp2_with (first | (go_at_call 60; refine HD.out.mono ?_; rintro e w9 ⟨hO, rfl, hM⟩; have HO := Lib.hid ((off_below H0.out.1).trans hO); have HM := Lib.hid hM; clear hM hO))
    exact ⟨rfl, by rw [HE2.out]; exact ⟨rfl, HM.out, HO.out⟩⟩
  | ok z =>
    obtain ⟨a, t1⟩ := z
    rw [hv] at hE HD
    dsimp only at hE
    obtain ⟨kb, hkb⟩ : ∃ kb, ((a : Int) == 1) = kb := ⟨_, rfl⟩
    have HKB := Lib.hid hkb
    have HT1 := Lib.hid (And.intro (smallP_left hv) (And.intro (small_ok hv).2 (small_ok hv).1))
    have HEH := Lib.hid hE
    clear hE hv
    go_upto_region 2 with (first | (go_at_call 60; refine HD.out.mono ?_; rintro e w1 ⟨hO, rfl, hM⟩; have H1 := Lib.hid (And.intro hO hM); clear hM hO) | (refine wpList_store_blk rfl 30 _ _ rfl w1.heap.size 30 #[.bool false, .int .i64 0, .int .i64 0, .int .u64 0, .slice none 0 0] #[.bool kb, .int .i64 0, .int .i64 0, .int .u64 0, .slice none 0 0] rfl rfl (Blk.new w1 _ _) (by kernel_rfl) rfl (by simp [Value.oneCell']) ?_; intro b5; clear b5))
    rw [Wr.alloc_setRow]
    clear hkb HD
    obtain ⟨w2, hw2⟩ : ∃ w2, w2 = w1.alloc (.cells #[.bool kb, .int .i64 0, .int .i64 0, .int .u64 0, .slice none 0 0] 30) := ⟨_, rfl⟩
    have hb2 : Below w1.heap.size w1 w2 := by rw [hw2]; exact (Below.refl _ _).alloc (Nat.le_refl _) _
    have hx2 : Blk w2 w1.heap.size 30 #[.bool kb, .int .i64 0, .int .i64 0, .int .u64 0, .slice none 0 0] := by rw [hw2]; exact Blk.new _ _ _
    have hz2 : w2.heap.size = w1.heap.size + 1 := by rw [hw2]; simp
    rw [← hw2]
    have HG := Lib.hid (show Gt L W w2 k s W.heap.size w1.heap.size t1 [.bool kb, .int .i64 0, .int .i64 0, .int .u64 0, .slice none 0 0] from by
      have hz0 := H0.out.2.1.lt
      have hz1 := H1.out.1.size
      have hs := HK.out.2.1
      refine ⟨(off_below H0.out.1).trans (H1.out.1.trans (off_below hb2)), (H0.out.2.2.1.off H1.out.1).off (off_below hb2), rdb_keep H1.out.2 (hb2.block s (by omega)) (fun b _ _ h2 => hb2.block b h2) hb2.size, ⟨Nat.le_refl _, by omega, by omega⟩, ((hb2.block _ (by omega)).trans (H1.out.1.block _ hz0 (by omega))).trans H0.out.2.1, hx2, Nat.le_trans HT1.out.1 HLEN.out.1⟩)
    obtain ⟨d, hd⟩ : ∃ d, d = w1.heap.size := ⟨_, rfl⟩
    rw [← hd] at HG ⊢
    clear hw2 hb2 hx2 hz2 H1 H0 hd
    have hE := HEH.out
    clear HEH
    unfold getP1 at hE
    have HD := Lib.hid (rsmall_any k s t1 12 w2 HG.out.rdr HG.out.rdb (by omega))
    cases hv : smallP 12 t1 with
    | error x =>
      rw [hv] at hE HD
      have HE2 := Lib.hid hE
      clear hE hv
      go_wp2_with (first | (go_at_call 60; refine HD.out.mono ?_; rintro e w9 ⟨hO, rfl, hM⟩; have HO := Lib.hid (HG.out.off.trans hO); have HM := Lib.hid hM; clear hM hO))
      exact ⟨rfl, by rw [HE2.out]; exact ⟨rfl, HM.out, HO.out⟩⟩
    | ok z =>
      obtain ⟨f, t2⟩ := z
      rw [hv] at hE HD
      dsimp only at hE
      have HL1 := Lib.hid (smallP_left hv)
      have HV1 := Lib.hid hv
      have HEH := Lib.hid hE
      clear hE hv
      go_upto_region 3 with (first | (go_at_call 60; refine HD.out.mono ?_; rintro e w9 ⟨hO, rfl, hM⟩; have HG9 := Lib.hid (HG.out.step HK.out.2.1 hO hM HL1.out); have c9 := HG9.out.blk.cell 1; have z9 := HG9.out.blk.frozen 1; clear hM hO))
      clear c9 z9 HD HG
      have hg := HG9.out.set HK.out.1 HK.out.2.1 HK.out.2.2 1 (.int .i64 (f : Nat))
      obtain ⟨w3, hwa⟩ : ∃ w3, w3 = w9.setCell ⟨d, 1, none⟩ (.int .i64 (f : Nat)) := ⟨_, rfl⟩
      rw [← hwa] at hg ⊢
      have HG := Lib.hid (show Gt L W w3 k s W.heap.size d t2 [.bool kb, .int .i64 (f : Nat), .int .i64 0, .int .u64 0, .slice none 0 0] from hg)
      clear hg hwa HG9
      have hE := HEH.out
      clear HEH
      unfold getP2 at hE
      have HD := Lib.hid (rsmall_any k s t2 12 w3 HG.out.rdr HG.out.rdb (by omega))
      cases hv : smallP 12 t2 with
      | error x =>
        rw [hv] at hE HD
        have HE2 := Lib.hid hE
        clear hE hv
        go_wp2_with (first | (go_at_call 60; refine HD.out.mono ?_; rintro e w9 ⟨hO, rfl, hM⟩; have HO := Lib.hid (HG.out.off.trans hO); have HM := Lib.hid hM; clear hM hO))
        exact ⟨rfl, by rw [HE2.out]; exact ⟨rfl, HM.out, HO.out⟩⟩
      | ok z =>
        obtain ⟨t, t3⟩ := z
        rw [hv] at hE HD
        dsimp only at hE
        have HL2 := Lib.hid (smallP_left hv)
        have HV2 := Lib.hid hv
        have HEH := Lib.hid hE
        clear hE hv
        go_upto_region 4 with (first | (go_at_call 60; refine HD.out.mono ?_; rintro e w9 ⟨hO, rfl, hM⟩; have HG9 := Lib.hid (HG.out.step HK.out.2.1 hO hM HL2.out); have c9 := HG9.out.blk.cell 2; have z9 := HG9.out.blk.frozen 2; clear hM hO))
        clear c9 z9 HD HG
        have hg := HG9.out.set HK.out.1 HK.out.2.1 HK.out.2.2 2 (.int .i64 (t : Nat))
        obtain ⟨w4, hwa⟩ : ∃ w4, w4 = w9.setCell ⟨d, 2, none⟩ (.int .i64 (t : Nat)) := ⟨_, rfl⟩
        rw [← hwa] at hg ⊢
        have HG := Lib.hid (show Gt L W w4 k s W.heap.size d t3 [.bool kb, .int .i64 (f : Nat), .int .i64 (t : Nat), .int .u64 0, .slice none 0 0] from hg)
        clear hg hwa HG9
        have hE := HEH.out
        clear HEH
        unfold getP3 at hE
        have HD := Lib.hid (rnum_any k s t3 w4 HG.out.rdr HG.out.rdb)
        cases hv : numP true 0 t3 with
        | error x =>
          rw [hv] at hE HD
          have HE2 := Lib.hid hE
          clear hE hv
          go_wp2_with (first | (go_at_call 62; refine HD.out.mono ?_; rintro e w9 ⟨hO, rfl, hM⟩; have HO := Lib.hid (HG.out.off.trans hO); have HM := Lib.hid hM; clear hM hO))
          exact ⟨rfl, by rw [HE2.out]; exact ⟨rfl, HM.out, HO.out⟩⟩
        | ok z =>
          obtain ⟨q, t4⟩ := z
          rw [hv] at hE HD
          dsimp only at hE
          have HL3 := Lib.hid (numP_left _ _ _ _ _ hv)
          have HV3 := Lib.hid hv
          have HEH := Lib.hid hE
          clear hE hv
          go_upto_region 5 with (first | (go_at_call 62; refine HD.out.mono ?_; rintro e w9 ⟨hO, rfl, hM⟩; have HG9 := Lib.hid (HG.out.step HK.out.2.1 hO hM HL3.out); have c9 := HG9.out.blk.cell 3; have z9 := HG9.out.blk.frozen 3; clear hM hO))
          clear c9 z9 HD HG
          have hg := HG9.out.set HK.out.1 HK.out.2.1 HK.out.2.2 3 (.int .u64 (q : Nat))
          obtain ⟨w5, hwa⟩ : ∃ w5, w5 = w9.setCell ⟨d, 3, none⟩ (.int .u64 (q : Nat)) := ⟨_, rfl⟩
          rw [← hwa] at hg ⊢
          have HG := Lib.hid (show Gt L W w5 k s W.heap.size d t4 [.bool kb, .int .i64 (f : Nat), .int .i64 (t : Nat), .int .u64 (q : Nat), .slice none 0 0] from hg)
          clear hg hwa HG9
          have hE := HEH.out
          clear HEH
          unfold getP4 at hE
          have c0 := HG.out.blk.cell 0
          rw [List.getElem?_toArray] at c0
          cases kb with
          | true =>
            have ha : a = 1 := by have := HKB.out; simp at this; omega
            rw [if_pos ha] at hE
            have HEH := Lib.hid hE
            clear hE ha
            have HOK := Lib.hid (show (Pc.mk ⟨true, f, t, q, []⟩ none 0).Ok w5 from ⟨Nat.le_refl _, by simp, Or.inl rfl, fun _ => rfl⟩)
            have HLOW := Lib.hid (show ∀ b o, (none : Option Addr) = some ⟨b, o, none⟩ → W.heap.size ≤ b from fun b o h => by cases h)
            go_upto_region 7 with fail
            clear c0
            have HRT := Lib.hid (right_any w5 (Pc.mk ⟨true, f, t, q, []⟩ none 0))
            have hrx := HG.out.blk.range
            have hrd := HG.out.blk
            obtain ⟨rb, hrb⟩ : ∃ rb, rb = rightB (Pc.mk ⟨true, f, t, q, []⟩ none 0).p := ⟨_, rfl⟩
            have HRB := Lib.hid hrb
            rw [← hrb] at HRT
            clear hrb
            cases rb with
            | false =>
              have HE2 := Lib.hid (show R = .error 3 from by rw [HEH.out]; unfold finP; rw [if_neg (by have := HRB.out; rw [show rightB _ = false from this.symm]; decide)])
              clear HEH
              go_wp2_with (first | (refine wpList_load_mid rfl 30 _ rfl _ _ rfl (Pc.mk ⟨true, f, t, q, []⟩ none 0).cells _ hrx Tryz.underlying30 rfl (pcinfo _) ?_) | (go_at_call 38; refine HRT.out.mono ?_; rintro e w8 ⟨rfl, hb⟩; have HG8 := Lib.hid (HG.out.below HK.out.2.1 hb); clear hb) | (go_at_call 65; refine (rmust_not k s t4 _ HG8.out.rdr HG8.out.rdb).mono ?_; rintro e w9 ⟨rfl, hM, hO⟩; have HO := Lib.hid (HG8.out.off.trans hO); have HM := Lib.hid hM; clear hM hO))
              exact ⟨rfl, by rw [HE2.out]; exact ⟨rfl, HM.out, HO.out⟩⟩
            | true =>
              have HE2 := Lib.hid (show R = .ok ((Pc.mk ⟨true, f, t, q, []⟩ none 0).p, t4) from by rw [HEH.out]; unfold finP; rw [if_pos (by have := HRB.out; exact this.symm)])
              clear HEH
              go_upto_region 8 with (first | (refine wpList_load_mid rfl 30 _ rfl _ _ rfl (Pc.mk ⟨true, f, t, q, []⟩ none 0).cells _ hrx Tryz.underlying30 rfl (pcinfo _) ?_) | (go_at_call 38; refine HRT.out.mono ?_; rintro e w8 ⟨rfl, hb⟩; have HG8 := Lib.hid (HG.out.below HK.out.2.1 hb); have HOK8 := Lib.hid (HOK.out.next hb); clear hb) | (go_at_call 65; refine (rmust_yes k s t4 _ HG8.out.rdr HG8.out.rdb).mono ?_; rintro e w9 ⟨rfl, rfl⟩))
              clear hrx hrd HRT
              have hrx8 := HG8.out.blk.range
              have hres := HG8.out.res
              go_wp2_with (first | (refine wpList_load_mid rfl 30 _ rfl _ _ rfl (Pc.mk ⟨true, f, t, q, []⟩ none 0).cells _ hrx8 Tryz.underlying30 rfl (pcinfo _) ?_) | (refine wpList_store_blk rfl 30 _ _ rfl W.heap.size 30 #[.bool false, .int .i64 0, .int .i64 0, .int .u64 0, .slice none 0 0] (Pc.mk ⟨true, f, t, q, []⟩ none 0).cells.toArray rfl rfl hres (pcinfoA _) (pc_siz _) (pc_one _) ?_; intro b5; clear b5))
              have hset := hres.setRow (Pc.mk ⟨true, f, t, q, []⟩ none 0).cells.toArray
              refine bodyPost_row (t := 30) (Pc.mk ⟨true, f, t, q, []⟩ none 0).cells.toArray rfl rfl rfl Tryz.underlying30 rfl (pcinfoA _) hset ?_
              rw [HE2.out]
              exact get_end HG8.out HOK8.out HLOW.out HK.out.1 HK.out.2.1 HK.out.2.2
          | false =>
            have ha : a ≠ 1 := by intro h; have := HKB.out; rw [h] at this; simp at this
            rw [if_neg ha] at hE
            clear ha
            have HD := Lib.hid (rtext_any k s t4 1800 w5 HG.out.rdr HG.out.rdb (by omega) HG.out.tl)
            cases hv : textP 1800 t4 with
            | error x =>
              rw [hv] at hE HD
              have HE2 := Lib.hid hE
              clear hE hv
              go_wp2_with (first | (go_at_call 95; refine HD.out.mono ?_; rintro e w9 hE9; simp only [EndsT] at hE9; obtain ⟨hO, rfl, hM⟩ := hE9; have HO := Lib.hid (HG.out.off.trans hO); have HM := Lib.hid hM; clear hM hO))
              exact ⟨rfl, by rw [HE2.out]; exact ⟨rfl, HM.out, HO.out⟩⟩
            | ok z =>
              obtain ⟨x, t5⟩ := z
              rw [hv] at hE HD
              dsimp only at hE
              have HV4 := Lib.hid hv
              have HEH := Lib.hid hE
              clear hE hv
              go_upto_region 7 with (first | (go_at_call 95; refine HD.out.mono ?_; rintro e w9 hE9; simp only [EndsT] at hE9; obtain ⟨hO, ⟨v, rfl, hw⟩, hB⟩ := hE9; obtain ⟨A, c, rfl⟩ := slice_of hw; have HG9 := Lib.hid (HG.out.step HK.out.2.1 hO hB (textP_left HV4.out).1); have c9 := HG9.out.blk.cell 4; have z9 := HG9.out.blk.frozen 4; have HW9 := Lib.hid (And.intro hw HG.out.off.size); clear hB hO hw))
              clear c9 z9 HD HG c0
              have hg := HG9.out.set HK.out.1 HK.out.2.1 HK.out.2.2 4 (.slice A x.length c)
              have HOK := Lib.hid (show (Pc.mk ⟨false, f, t, q, x⟩ A c).Ok (w9.setCell ⟨d, 4, none⟩ (.slice A x.length c)) ∧ (∀ b o, A = some ⟨b, o, none⟩ → W.heap.size ≤ b) from text_own (p := ⟨false, f, t, q, x⟩) HW9.out.1 HW9.out.2 (textP_in (numP_in (small_in (small_in (numP_in HLEN.out.2 HT1.out.2.2) HV1.out) HV2.out) HV3.out) HV4.out).1 HG9.out.blk)
              have HLOW := Lib.hid HOK.out.2
              have HOK := Lib.hid HOK.out.1
              obtain ⟨w6, hwa⟩ : ∃ w6, w6 = w9.setCell ⟨d, 4, none⟩ (.slice A x.length c) := ⟨_, rfl⟩
              rw [← hwa] at hg HOK ⊢
              have HG := Lib.hid (show Gt L W w6 k s W.heap.size d t5 [.bool false, .int .i64 (f : Nat), .int .i64 (t : Nat), .int .u64 (q : Nat), .slice A x.length c] from hg)
              clear hg hwa HG9
              have HRT := Lib.hid (right_any w6 (Pc.mk ⟨false, f, t, q, x⟩ A c))
              have hrx := HG.out.blk.range
              have hrd := HG.out.blk
              obtain ⟨rb, hrb⟩ : ∃ rb, rb = rightB (Pc.mk ⟨false, f, t, q, x⟩ A c).p := ⟨_, rfl⟩
              have HRB := Lib.hid hrb
              rw [← hrb] at HRT
              clear hrb
              cases rb with
              | false =>
                have HE2 := Lib.hid (show R = .error 3 from by rw [HEH.out]; unfold finP; rw [if_neg (by have := HRB.out; rw [show rightB _ = false from this.symm]; decide)])
                clear HEH
                go_wp2_with (first | (refine wpList_load_mid rfl 30 _ rfl _ _ rfl (Pc.mk ⟨false, f, t, q, x⟩ A c).cells _ hrx Tryz.underlying30 rfl (pcinfo _) ?_) | (go_at_call 38; refine HRT.out.mono ?_; rintro e w8 ⟨rfl, hb⟩; have HG8 := Lib.hid (HG.out.below HK.out.2.1 hb); clear hb) | (go_at_call 65; refine (rmust_not k s t5 _ HG8.out.rdr HG8.out.rdb).mono ?_; rintro e w9 ⟨rfl, hM, hO⟩; have HO := Lib.hid (HG8.out.off.trans hO); have HM := Lib.hid hM; clear hM hO))
                exact ⟨rfl, by rw [HE2.out]; exact ⟨rfl, HM.out, HO.out⟩⟩
              | true =>
                have HE2 := Lib.hid (show R = .ok ((Pc.mk ⟨false, f, t, q, x⟩ A c).p, t5) from by rw [HEH.out]; unfold finP; rw [if_pos (by have := HRB.out; exact this.symm)])
                clear HEH
                go_upto_region 8 with (first | (refine wpList_load_mid rfl 30 _ rfl _ _ rfl (Pc.mk ⟨false, f, t, q, x⟩ A c).cells _ hrx Tryz.underlying30 rfl (pcinfo _) ?_) | (go_at_call 38; refine HRT.out.mono ?_; rintro e w8 ⟨rfl, hb⟩; have HG8 := Lib.hid (HG.out.below HK.out.2.1 hb); have HOK8 := Lib.hid (HOK.out.next hb); clear hb) | (go_at_call 65; refine (rmust_yes k s t5 _ HG8.out.rdr HG8.out.rdb).mono ?_; rintro e w9 ⟨rfl, rfl⟩))
                clear hrx hrd HRT
                have hrx8 := HG8.out.blk.range
                have hres := HG8.out.res
                go_wp2_with (first | (refine wpList_load_mid rfl 30 _ rfl _ _ rfl (Pc.mk ⟨false, f, t, q, x⟩ A c).cells _ hrx8 Tryz.underlying30 rfl (pcinfo _) ?_) | (refine wpList_store_blk rfl 30 _ _ rfl W.heap.size 30 #[.bool false, .int .i64 0, .int .i64 0, .int .u64 0, .slice none 0 0] (Pc.mk ⟨false, f, t, q, x⟩ A c).cells.toArray rfl rfl hres (pcinfoA _) (pc_siz _) (pc_one _) ?_; intro b5; clear b5))
                have hset := hres.setRow (Pc.mk ⟨false, f, t, q, x⟩ A c).cells.toArray
                refine bodyPost_row (t := 30) (Pc.mk ⟨false, f, t, q, x⟩ A c).cells.toArray rfl rfl rfl Tryz.underlying30 rfl (pcinfoA _) hset ?_
                rw [HE2.out]
                exact get_end HG8.out HOK8.out HLOW.out HK.out.1 HK.out.2.1 HK.out.2.2
end Pk
end Go.Proofs.YtgnfachjobohoaaGreat
namespace Go.Proofs.YtgnfachjobohoaaGreat
open Go.RowKit
set_option linter.unusedSimpArgs false
set_option linter.unusedVariables false
namespace Pk
def kP2 (p : Pt) (bs : List Nat) : Except Int ((Pt × Nat) × List Nat) := match numP true 0 bs with
  | .ok (s, q) => if s ≤ 4294967295 then .ok ((p, s), q) else .error 3
  | .error e => .error e
def kP (bs : List Nat) : Except Int ((Pt × Nat) × List Nat) := match getP bs with
  | .ok (p, t) => kP2 p t
  | .error e => .error e
/-- All is as before, but for three blocks and new blocks. -/
structure OffX (s c1 c2 : Nat) (w w' : World) : Prop where
  os : w'.os = w.os
  tape : w'.tape = w.tape
  output : w'.output = w.output
  size : w.heap.size ≤ w'.heap.size
  block : ∀ k, k < w.heap.size → k ≠ s → k ≠ c1 → k ≠ c2 → w'.heap[k]? = w.heap[k]?
theorem OffX.ofOff {s c1 c2 : Nat} {w w' : World} (h : Off s w w') : OffX s c1 c2 w w' := ⟨h.os, h.tape, h.output, h.size, fun k hk hs _ _ => h.block k hk hs⟩
theorem OffX.trans {s c1 c2 : Nat} {a b c : World} (h : OffX s c1 c2 a b) (k : OffX s c1 c2 b c) : OffX s c1 c2 a c :=
  ⟨k.os.trans h.os, k.tape.trans h.tape, k.output.trans h.output, Nat.le_trans h.size k.size, fun i hi h1 h2 h3 => (k.block i (Nat.lt_of_lt_of_le hi h.size) h1 h2 h3).trans (h.block i hi h1 h2 h3)⟩
theorem OffX.row {s c1 c2 : Nat} {w : World} (cs : Array Value) : OffX s c1 c2 w (w.setRow c1 cs) := ⟨rfl, rfl, rfl, by simp [World.setRow], fun k _ _ h _ => setRow_other w c1 k cs h⟩
theorem OffX.cell {s c1 c2 : Nat} {w : World} (i : Nat) (v : Value) : OffX s c1 c2 w (w.setCell ⟨c2, i, none⟩ v) := ⟨rfl, rfl, rfl, by simp [World.setCell], fun k _ _ _ h => Below.heap_setCell w ⟨c2, i, none⟩ v k h⟩
theorem OffX.belowB {s c1 c2 B : Nat} {w w' : World} (h : OffX s c1 c2 w w') (hs : B ≤ s) (h1 : B ≤ c1) (h2 : B ≤ c2) (hB : B ≤ w.heap.size) : Below B w w' :=
  ⟨h.os, h.tape, h.output, h.size, fun k hk => h.block k (by omega) (by omega) (by omega) (by omega)⟩
/-- What Read's reader gives. -/
def EndQ (L s c1 c2 : Nat) (W : World) (P : Except Int ((Pt × Nat) × List Nat)) (e : Ending) (W' : World) : Prop :=
  OffX s c1 c2 W W' ∧ match P with
  | .ok ((p, n), q) => e = .returned (.tuple #[]) ∧ RdB L W' s q ∧ ∃ A c, Blk W' c1 30 (Pc.mk p A c).cells.toArray ∧ Blk W' c2 25 #[.int .u64 (n : Nat)] ∧ (Pc.mk p A c).Ok W' ∧ (∀ b o, A = some ⟨b, o, none⟩ → W.heap.size ≤ b)
  | .error x => e = .panicked [{ v := flt s, recovered := false }] ∧ Met' W' s x
theorem ok_keep {w w' : World} {x : Pc} {B : Nat} (h : x.Ok w) (hlow : ∀ b o, x.A = some ⟨b, o, none⟩ → B ≤ b) (hk : ∀ b, B ≤ b → b < w.heap.size → w'.heap[b]? = w.heap[b]?) (hs : w.heap.size ≤ w'.heap.size) : x.Ok w' := by
  refine { h with rd := h.rd.imp id ?_ }
  rintro ⟨b, o, e, h1, h2⟩
  exact ⟨b, o, e, Nat.lt_of_lt_of_le h1 hs, fun i y hi => (World.cell?_of_block (hk b (hlow b o e) h1)).trans (h2 i y hi)⟩
set_option maxHeartbeats 8000000 in
set_option maxRecDepth 20000 in
theorem cb_any {L k s c1 c2 : Nat} {W : World} {bs : List Nat} (hr : Rdr W k s) (h : RdB L W s bs) (hk : k < W.heap.size) (hL : L ≤ W.heap.size) (hlen : bs.length ≤ 140737488355328) (h256 : ∀ y ∈ bs, y < 256)
    (hc1 : Blk W c1 30 #[.bool false, .int .i64 0, .int .i64 0, .int .u64 0, .slice none 0 0]) (hc2 : Blk W c2 25 #[.int .u64 0]) (hne : c1 ≠ c2 ∧ c1 ≠ s ∧ c2 ≠ s ∧ k ≠ c1 ∧ k ≠ c2) (hcL : L ≤ c1 ∧ L ≤ c2) :
    Calls Tryz.prog 105 #[.pointer (some ⟨k, 0, none⟩), .pointer (some ⟨c1, 0, none⟩), .pointer (some ⟨c2, 0, none⟩)] W fun e W' => EndQ L s c1 c2 W (kP bs) e W' := by
  have HG := Lib.hid (get_any hr h hk hL hlen h256)
  have hs : s < W.heap.size := by obtain ⟨A, c, hR, _⟩ := h; exact World.block_lt_of_cell? W ⟨s, 0, none⟩ hR.1
  have HK := Lib.hid (And.intro hk (And.intro hs (And.intro hL (And.intro hne hcL))))
  have HC := Lib.hid (And.intro hc1 hc2)
  have HR := Lib.hid hr
  obtain ⟨R, hR⟩ : ∃ R, R = kP bs := ⟨_, rfl⟩
  rw [← hR]
  have hE := hR
  unfold kP at hE
  clear hR h hr hk hL hc1 hc2 hne hcL hlen h256 hs
  go_enter Tryz.func105, Tryz.ntmps105
  cases hv : getP bs with
  | error x =>
    rw [hv] at hE HG
    have HE2 := Lib.hid hE
    clear hE hv
    go_wp2_with (first | (go_at_call 106; refine HG.out.mono ?_; rintro e w9 ⟨rfl, hM, hO⟩; have HO := Lib.hid (OffX.ofOff (c1 := c1) (c2 := c2) hO); have HM := Lib.hid hM; clear hM hO))
    exact ⟨rfl, by rw [HE2.out]; exact ⟨HO.out, rfl, HM.out⟩⟩
  | ok z =>
    obtain ⟨p, t⟩ := z
    rw [hv] at hE HG
    dsimp only at hE
    have HEH := Lib.hid hE
    clear hE hv
    have HG2 := Lib.hid (HG.out.mono (R' := fun e w1 => ∃ A c, e = .returned (.agg (Pc.mk p A c).cells.toArray) ∧ Off s W w1 ∧ (Pc.mk p A c).Ok w1 ∧ (∀ b o, A = some ⟨b, o, none⟩ → W.heap.size ≤ b) ∧ RdB L w1 s t ∧ Blk w1 c1 30 #[.bool false, .int .i64 0, .int .i64 0, .int .u64 0, .slice none 0 0] ∧ Blk w1 c2 25 #[.int .u64 0]) (by
      rintro e w1 ⟨A, c, rfl, hO, ho, hl, hd⟩
      exact ⟨A, c, rfl, hO, ho, hl, hd, (hO.block c1 HC.out.1.lt HK.out.2.2.2.1.2.1).trans HC.out.1, (hO.block c2 HC.out.2.lt HK.out.2.2.2.1.2.2.1).trans HC.out.2⟩))
    clear HG
    go_upto_region 1 with (first | (go_at_call 106; refine HG2.out.mono ?_; rintro e w1 ⟨A, c, rfl, hO, ho, hl, hd, h1, h2⟩; have H1 := Lib.hid (And.intro hO (And.intro ho (And.intro hl (And.intro hd (And.intro h1 h2))))); clear hO ho hl hd h1 h2 HG2) | (refine wpList_store_blk rfl 30 _ _ rfl c1 30 #[.bool false, .int .i64 0, .int .i64 0, .int .u64 0, .slice none 0 0] (Pc.mk p A c).cells.toArray rfl rfl H1.out.2.2.2.2.1 (pcinfoA _) (pc_siz _) (pc_one _) ?_; intro b5; clear b5))
    obtain ⟨w2, hw2⟩ : ∃ w2, w2 = w1.setRow c1 (Pc.mk p A c).cells.toArray := ⟨_, rfl⟩
    have hx2 : Blk w2 c1 30 (Pc.mk p A c).cells.toArray := by rw [hw2]; exact H1.out.2.2.2.2.1.setRow _
    have ho2 : OffX s c1 c2 w1 w2 := by rw [hw2]; exact OffX.row _
    have far : ∀ b, b ≠ c1 → w2.heap[b]? = w1.heap[b]? := fun b hb => by rw [hw2]; exact setRow_other w1 c1 b _ hb
    have hz2 : w2.heap.size = w1.heap.size := by rw [hw2]; simp [World.setRow]
    rw [← hw2]
    have hz1 := H1.out.1.size
    have hc1l := HC.out.1.lt
    have hc2l := HC.out.2.lt
    have hr2 : Rdr w2 k s := ⟨(HR.out.off H1.out.1).1, (World.cell?_of_block (far k HK.out.2.2.2.1.2.2.2.1)).trans (HR.out.off H1.out.1).2⟩
    have hd2 : RdB L w2 s t := rdb_keep H1.out.2.2.2.1 (far s (fun e => HK.out.2.2.2.1.2.1 e.symm)) (fun b hb _ _ => far b (by have := HK.out.2.2.2.2.1; omega)) (by omega)
    have hx22 : Blk w2 c2 25 #[.int .u64 0] := (far c2 (fun e => HK.out.2.2.2.1.1 e.symm)).trans H1.out.2.2.2.2.2
    have hok2 : (Pc.mk p A c).Ok w2 := ok_keep H1.out.2.1 H1.out.2.2.1 (fun b hb hl => far b (by omega)) (by omega)
    have H2 := Lib.hid (And.intro ((OffX.ofOff H1.out.1).trans ho2) (And.intro hr2 (And.intro hd2 (And.intro hx2 (And.intro hx22 (And.intro hok2 (show W.heap.size ≤ w2.heap.size by omega)))))))
    have HLOW := Lib.hid H1.out.2.2.1
    clear hw2 ho2 far hz2 hz1 hc1l hc2l hr2 hd2 hx22 hok2 hx2 H1
    have HD := Lib.hid (rnum_any k s t w2 H2.out.2.1 H2.out.2.2.1)
    have hE := HEH.out
    clear HEH
    unfold kP2 at hE
    cases hv : numP true 0 t with
    | error x =>
      rw [hv] at hE HD
      have HE2 := Lib.hid hE
      clear hE hv
      go_wp2_with (first | (go_at_call 62; refine HD.out.mono ?_; rintro e w9 ⟨hO, rfl, hM⟩; have HO := Lib.hid (H2.out.1.trans (OffX.ofOff hO)); have HM := Lib.hid hM; clear hM hO))
      exact ⟨rfl, by rw [HE2.out]; exact ⟨HO.out, rfl, HM.out⟩⟩
    | ok z =>
      obtain ⟨n, q⟩ := z
      rw [hv] at hE HD
      dsimp only at hE
      have HEH := Lib.hid hE
      clear hE hv
      go_upto_region 1 with fail
      go_upto_region 2 with (first | (go_at_call 62; refine HD.out.mono ?_; rintro e w3 ⟨hO, rfl, hM⟩; have H3 := Lib.hid (And.intro hO (And.intro hM (show Blk w3 c2 25 #[.int .u64 0] from (hO.block c2 H2.out.2.2.2.2.1.lt HK.out.2.2.2.1.2.2.1).trans H2.out.2.2.2.2.1))); have c9 := H3.out.2.2.cell 0; have z9 := H3.out.2.2.frozen 0; clear hM hO))
      clear c9 z9 HD
      obtain ⟨w4, hw4⟩ : ∃ w4, w4 = w3.setCell ⟨c2, 0, none⟩ (.int .u64 (n : Nat)) := ⟨_, rfl⟩
      have far : ∀ b, b ≠ c2 → w4.heap[b]? = w3.heap[b]? := fun b hb => by rw [hw4]; exact Below.heap_setCell w3 ⟨c2, 0, none⟩ _ b hb
      have hz4 : w4.heap.size = w3.heap.size := by rw [hw4]; simp [World.setCell]
      have hx4 : Blk w4 c2 25 #[.int .u64 (n : Nat)] := by rw [hw4]; exact H3.out.2.2.setCell 0 _
      have ho4 : OffX s c1 c2 w3 w4 := by rw [hw4]; exact OffX.cell 0 _
      rw [← hw4]
      have hz3 := H3.out.1.size
      have hc1l := HC.out.1.lt
      have hc2l := HC.out.2.lt
      have hr4 : Rdr w4 k s := ⟨(H2.out.2.1.off H3.out.1).1, (World.cell?_of_block (far k HK.out.2.2.2.1.2.2.2.2)).trans (H2.out.2.1.off H3.out.1).2⟩
      have hd4 : RdB L w4 s q := rdb_keep H3.out.2.1 (far s (fun e => HK.out.2.2.2.1.2.2.1 e.symm)) (fun b hb _ _ => far b (by have := HK.out.2.2.2.2.2; omega)) (by omega)
      have hx14 : Blk w4 c1 30 (Pc.mk p A c).cells.toArray := (far c1 HK.out.2.2.2.1.1).trans ((H3.out.1.block c1 H2.out.2.2.2.1.lt HK.out.2.2.2.1.2.1).trans H2.out.2.2.2.1)
      have hs2 := HK.out.2.1
      have hsz := H2.out.2.2.2.2.2.2
      have hok4 : (Pc.mk p A c).Ok w4 := ok_keep H2.out.2.2.2.2.2.1 HLOW.out (fun b hb hl => (far b (by omega)).trans (H3.out.1.block b hl (by omega))) (by omega)
      have H4 := Lib.hid (And.intro (H2.out.1.trans ((OffX.ofOff H3.out.1).trans ho4)) (And.intro hr4 (And.intro hd4 (And.intro hx14 (And.intro hx4 hok4)))))
      have c20 : w4.cell? ⟨c2, 0, none⟩ = some (.int .u64 (n : Nat)) := hx4.cell 0
      clear hw4 far hz4 ho4 hz3 hc1l hc2l hr4 hd4 hx14 hok4 hx4 hs2 hsz H3 H2
      have hE := HEH.out
      clear HEH
      by_cases hn : n ≤ 4294967295
      · have hn1 : (n : Int) ≤ 4294967295 := by omega
        rw [if_pos hn] at hE
        have HE2 := Lib.hid hE
        clear hE hn
        go_wp2_with (first | (go_at_call 65; refine (rmust_yes k s q _ H4.out.2.1 H4.out.2.2.1).mono ?_; rintro e w9 ⟨rfl, rfl⟩))
        exact ⟨rfl, .tuple #[], by simp [results, Tryz.results105, go_sem], by rw [HE2.out]; exact ⟨H4.out.1, rfl, H4.out.2.2.1, A, c, H4.out.2.2.2.1, H4.out.2.2.2.2.1, H4.out.2.2.2.2.2, HLOW.out⟩⟩
      · have hn1 : ¬ (n : Int) ≤ 4294967295 := by omega
        rw [if_neg hn] at hE
        have HE2 := Lib.hid hE
        clear hE hn
        go_wp2_with (first | (go_at_call 65; refine (rmust_not k s q _ H4.out.2.1 H4.out.2.2.1).mono ?_; rintro e w9 ⟨rfl, hM, hO⟩; have HO := Lib.hid (H4.out.1.trans (OffX.ofOff hO)); have HM := Lib.hid hM; clear hM hO))
        exact ⟨rfl, by rw [HE2.out]; exact ⟨HO.out, rfl, HM.out⟩⟩
end Pk
end Go.Proofs.YtgnfachjobohoaaGreat
namespace Go.Proofs.YtgnfachjobohoaaGreat
open Go.RowKit
set_option linter.unusedSimpArgs false
set_option linter.unusedVariables false
namespace Pk
theorem numP_err : ∀ (bs : List Nat) (b : Bool) (n : Nat) (x : Int), numP b n bs = .error x → x ≠ 0
  | [], b, n, x, h => by unfold numP at h; cases h; decide
  | y :: t, b, n, x, h => by
    unfold numP at h
    split at h
    · cases h; decide
    · split at h
      · cases h; decide
      · split at h
        · cases h
        · exact numP_err t _ _ x h
theorem smallP_ne {most : Int} {bs : List Nat} {x : Int} (h : smallP most bs = .error x) : x ≠ 0 := by
  unfold smallP at h
  split at h
  · split at h
    · cases h
    · cases h; decide
  · rename_i y hy
    cases h
    exact numP_err _ _ _ _ hy
theorem textP_ne {most : Int} {bs : List Nat} {x : Int} (h : textP most bs = .error x) : x ≠ 0 := by
  unfold textP at h
  split at h
  · split at h
    · cases h
    · cases h; decide
  · rename_i z hz
    cases h
    exact smallP_ne hz
theorem finP_ne {p : Pt} {t : List Nat} {x : Int} (h : finP p t = .error x) : x ≠ 0 := by
  unfold finP at h
  split at h
  · cases h
  · cases h; decide
theorem getP_ne {bs : List Nat} {x : Int} (h : getP bs = .error x) : x ≠ 0 := by
  unfold getP at h
  split at h
  · unfold getP1 at h
    split at h
    · unfold getP2 at h
      split at h
      · unfold getP3 at h
        split at h
        · unfold getP4 at h
          split at h
          · exact finP_ne h
          · split at h
            · exact finP_ne h
            · rename_i y hy; cases h; exact textP_ne hy
        · rename_i y hy; cases h; exact numP_err _ _ _ _ hy
      · rename_i y hy; cases h; exact smallP_ne hy
    · rename_i y hy; cases h; exact smallP_ne hy
  · rename_i y hy; cases h; exact smallP_ne hy
theorem kP_ne {bs : List Nat} {x : Int} (h : kP bs = .error x) : x ≠ 0 := by
  unfold kP at h
  split at h
  · unfold kP2 at h
    split at h
    · split at h
      · cases h
      · cases h; decide
    · rename_i y hy; cases h; exact numP_err _ _ _ _ hy
  · rename_i y hy; cases h; exact getP_ne hy
abbrev zc : Array Value := #[.bool false, .int .i64 0, .int .i64 0, .int .u64 0, .slice none 0 0]
/-- What Read's reading leaves. -/
def ReadP (bs : List Nat) (W : World) (r : Except Int (List Nat)) (W' : World) : Prop :=
  (match kP bs with
    | .ok ((p, n), q) => r = .ok q ∧ ∃ A c, Blk W' (W.heap.size + 1) 30 (Pc.mk p A c).cells.toArray ∧ Blk W' (W.heap.size + 2) 25 #[.int .u64 (n : Nat)] ∧ (Pc.mk p A c).Ok W' ∧ (∀ b o, A = some ⟨b, o, none⟩ → W.heap.size + 7 ≤ b)
    | .error x => r = .error x) ∧ Blk W' W.heap.size 30 zc ∧ Below W.heap.size W W'
theorem run_enter {P : Program} {f : FuncId} {fn : Func} (hf : P.funcs[f]? = some fn) (hname : (fn.name == "runtime.NumGoroutine") = false) (hb : fn.body.isSome = true) (args : Array Value) (w : World) :
    (callFunc f args).run P w = .ok (.enter f args) w := by
  have h1 : fn.name ≠ "runtime.NumGoroutine" := by simpa using hname
  obtain ⟨c, hc⟩ := Option.isSome_iff_exists.1 hb
  simp [callFunc, hf, h1, hc]
set_option maxRecDepth 20000 in
theorem read_call (A : Option Addr) (n cp : Nat) (W : World) (bs : List Nat) (hn : bs.length = n) (hnc : n ≤ cp) (hlen : bs.length ≤ 140737488355328) (h256 : ∀ y ∈ bs, y < 256)
    (hbs : Byt.ByR W A bs) :
    Calls Tryz.prog 20 #[.slice A n cp, .func (.func 105) #[] #[.pointer (some ⟨W.heap.size + 1, 0, none⟩), .pointer (some ⟨W.heap.size + 2, 0, none⟩)]] (((W.alloc (.cells zc 30)).alloc (.cells zc 30)).alloc (.cells #[.int .u64 0] 25)) fun e W' => ∃ r, e = .returned (.int .i64 (readE r)) ∧ ReadP bs W r W' := by
  obtain ⟨w1, hw1⟩ : ∃ w1, w1 = W.alloc (.cells zc 30) := ⟨_, rfl⟩
  obtain ⟨w2, hw2⟩ : ∃ w2, w2 = w1.alloc (.cells zc 30) := ⟨_, rfl⟩
  obtain ⟨Wb, hw3⟩ : ∃ w3, w3 = w2.alloc (.cells #[.int .u64 0] 25) := ⟨_, rfl⟩
  have z1 : w1.heap.size = W.heap.size + 1 := by rw [hw1]; simp
  have z2 : w2.heap.size = W.heap.size + 2 := by rw [hw2]; simp [z1]
  have hsz : Wb.heap.size = W.heap.size + 3 := by rw [hw3]; simp [z2]
  have b1 : Below W.heap.size W w1 := by rw [hw1]; exact (Below.refl _ _).alloc (Nat.le_refl _) _
  have b2 : Below w1.heap.size w1 w2 := by rw [hw2]; exact (Below.refl _ _).alloc (Nat.le_refl _) _
  have b3 : Below w2.heap.size w2 Wb := by rw [hw3]; exact (Below.refl _ _).alloc (Nat.le_refl _) _
  have hb0 : Below W.heap.size W Wb := b1.trans ((b2.trans (b3.mono b2.size)).mono b1.size)
  have x1 : Blk w1 W.heap.size 30 zc := by rw [hw1]; exact Blk.new W _ _
  have x2 : Blk w2 (W.heap.size + 1) 30 zc := by rw [hw2, ← z1]; exact Blk.new w1 _ _
  have x3 : Blk Wb (W.heap.size + 2) 25 #[.int .u64 0] := by rw [hw3, ← z2]; exact Blk.new w2 _ _
  have hg1 : Blk Wb W.heap.size 30 zc := (x1.next b2).next b3
  have hg2 : Blk Wb (W.heap.size + 1) 30 zc := x2.next b3
  rw [← hw1, ← hw2, ← hw3]
  clear hw1 hw2 hw3 b1 b2 b3 x1 x2 z1 z2
  refine (read_any4 (L := W.heap.size) A n cp 105 #[.pointer (some ⟨W.heap.size + 1, 0, none⟩), .pointer (some ⟨W.heap.size + 2, 0, none⟩)] Wb bs (fun r W2 => ReadP bs W r W2)
    (fun args w => run_enter Tryz.func105 (by kernel_rfl) (by kernel_rfl) args w) hn hnc (by omega) ?_ ?_).mono ?_
  · refine hbs.imp id ?_
    rintro ⟨b, p, h1, h2, h3⟩
    exact ⟨b, p, h1, h2, fun i x hx => (hb0.cell (p := ⟨b, p + i, none⟩) h2).trans (h3 i x hx)⟩
  · intro W1 k s hb hs hk hs1 h4 _ hR hB
    have hk1 := World.block_lt_of_cell? W1 ⟨k, 0, none⟩ hR.2
    refine (cb_any (c1 := W.heap.size + 1) (c2 := W.heap.size + 2) hR hB hk1 (by omega) hlen h256 (hg2.next hb) (x3.next hb) ⟨by omega, by omega, by omega, by omega, by omega⟩ ⟨by omega, by omega⟩).mono ?_
    intro e W2 h
    unfold Fine ReadP
    unfold EndQ at h
    obtain ⟨hO, h⟩ := h
    have hres : Blk W2 W.heap.size 30 zc := (hO.block _ (by omega) (by omega) (by omega) (by omega)).trans (hg1.next hb)
    have hbel : Below W.heap.size W W2 := hb0.trans ((hb.mono (by omega)).trans (hO.belowB (by omega) (by omega) (by omega) (by omega)))
    cases hq : kP bs with
    | error x =>
      rw [hq] at h
      obtain ⟨rfl, hM⟩ := h
      exact ⟨fun b h5 h6 h7 => hO.block b h6 h7 (by omega) (by omega), Or.inr ⟨x, kP_ne hq, rfl, hM, rfl, hres, hbel⟩⟩
    | ok z =>
      obtain ⟨⟨p, m⟩, q⟩ := z
      rw [hq] at h
      obtain ⟨rfl, hB2, A', c', g1, g2, g3, g4⟩ := h
      exact ⟨fun b h5 h6 h7 => hO.block b h6 h7 (by omega) (by omega), Or.inl ⟨q, rfl, hB2, ⟨rfl, A', c', g1, g2, g3, fun b o e => by have := g4 b o e; omega⟩, hres, hbel⟩⟩
  · rintro e W' ⟨r, W2, hY, he, hb3, hk3⟩
    refine ⟨r, he, ?_⟩
    unfold ReadP at hY ⊢
    obtain ⟨h1, hres, hbel⟩ := hY
    refine ⟨?_, (hb3.block _ (by omega)).trans hres, hbel.trans (hb3.mono (by omega))⟩
    cases hq : kP bs with
    | error x => rw [hq] at h1; exact h1
    | ok z =>
      obtain ⟨⟨p, m⟩, q⟩ := z
      rw [hq] at h1
      obtain ⟨rfl, A', c', g1, g2, g3, g4⟩ := h1
      exact ⟨rfl, A', c', (hb3.block _ (by omega)).trans g1, (hb3.block _ (by omega)).trans g2, ok_keep g3 g4 (fun b hb hl => hk3 b hl (by omega) (by omega)) hb3.size, g4⟩
end Pk
end Go.Proofs.YtgnfachjobohoaaGreat
