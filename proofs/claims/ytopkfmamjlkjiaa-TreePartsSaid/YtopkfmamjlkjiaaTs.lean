/-
tree: a tree's bytes as a string; a tree of bytes (the callbacks of the statements).
-/
import Derived.Test.YtopkfmamjlkjiaaTq2
import Derived.Test.YtopkfmamjlkjiaaTg2
import Derived.Test.YtopkfmamjlkjiaaStrS
namespace Go.Proofs.Ytopkfmamjlkjiaa
open Go.RowKit
set_option linter.unusedSimpArgs false
set_option linter.unusedVariables false
namespace Tr
theorem enc_256 (n : Nat) : ∀ x ∈ enc n, x < 256 := by
  have h : ∀ m, ∀ x ∈ encHi m, x < 256 := by
    intro m
    induction m using Nat.strongRecOn with
    | _ m ih =>
      intro x hx
      by_cases h0 : m = 0
      · subst h0; rw [encHi_zero] at hx; cases hx
      · rw [encHi_step (by omega)] at hx
        rcases List.mem_append.1 hx with h1 | h1
        · exact ih (m / 128) (by omega) x h1
        · rw [List.mem_singleton.1 h1]; omega
  intro x hx
  unfold enc at hx
  rcases List.mem_append.1 hx with h1 | h1
  · exact h _ x h1
  · rw [List.mem_singleton.1 h1]; omega
theorem encTr_256 (k : Nat → Int) (es : List (Int × Int)) : ∀ x ∈ encTr k es, x < 256 := by
  intro x hx
  unfold encTr encK encE at hx
  simp only [List.mem_append, List.mem_flatMap] at hx
  rcases hx with (⟨_, _, h⟩ | h) | ⟨_, _, h | h⟩ <;> exact enc_256 _ x h
theorem encTr_len {t : Tv} (h : Wk t) : (encTr t.k t.es).length ≤ 30000 := by
  have h1 := encK_len h.k 12 (Nat.le_refl _)
  have h2 := enc_len t.es.length (by have := h.l; omega)
  have h3 := encE_len h.e
  have := h.l
  unfold encTr
  rw [List.length_append, List.length_append]
  omega
set_option maxRecDepth 20000 in
theorem save_any (W : World) (t : Tv) (hr : RowsOf ec 2 W t.A t.es) (hk : Wk t) : Calls Try.prog 15 #[.agg t.cells.toArray] W fun e W' => e = .returned (.string (Byt.bstr (encTr t.k t.es))) ∧ Below W.heap.size W W' := by
  have bb := (Below.refl W.heap.size W).alloc (Nat.le_refl _) (.cells t.cells.toArray 25)
  have hx : Blk (W.alloc (.cells t.cells.toArray 25)) W.heap.size 25 t.cells.toArray := Blk.new W _ _
  have hA : ∀ b o, t.A = some ⟨b, o, none⟩ → t.es ≠ [] → b < W.heap.size := by
    intro b o e h0
    obtain ⟨b', o', e', h1, _⟩ := hr.resolve_left h0
    rw [e] at e'
    simp only [Option.some.injEq, Addr.mk.injEq, and_true] at e'
    rw [e'.1]; exact h1
  obtain ⟨w2, hw2⟩ : ∃ w2, w2 = W.alloc (.cells t.cells.toArray 25) := ⟨_, rfl⟩
  rw [← hw2] at bb hx
  have HB2 := Lib.hid bb
  have HX2 := Lib.hid hx
  have HR := Lib.hid hr
  have HK := Lib.hid hk
  have HA := Lib.hid hA
  have HN := Lib.hid (Proofs.Ytopkfmamjlkjiaa.new_any w2)
  have HE := Lib.hid (encTr_len hk)
  have H256 := Lib.hid (encTr_256 t.k t.es)
  clear bb hx hr hk hA
  go_enter Try.func15, Try.ntmps15
  have hcv : ∀ (w : World) (v : Value) (B : Nat), w.ownsRow B 5 1 v (encTr t.k t.es).length (u8s (encTr t.k t.es)) → (convert 26 9 v).run Try.prog w = .ok (.string (Byt.bstr (encTr t.k t.es))) w := fun w v B ho => by
    obtain ⟨A, c, rfl, _, hby, hA⟩ := Byt.own_byr ho
    exact Byt.conv_src w A _ c (encTr t.k t.es) (hby.src hA) rfl H256.out
  have HCV := Lib.hid hcv
  clear hcv
  go_upto_region 1 with fail
  rw [← hw2]
  clear hw2
  obtain ⟨gx, hgx⟩ : ∃ gx, gx = W.heap.size := ⟨_, rfl⟩
  rw [← hgx] at HX2
  (try rw [← hgx])
  have HGX := Lib.hid (show gx < w2.heap.size from HX2.out.lt)
  clear hgx
  go_upto_region 2 with (go_at_call 51; refine HN.out.mono ?_; rintro e w3 ⟨rfl, hw, hb⟩; have HW3 := Lib.hid hw; have HB3 := Lib.hid hb; have hr0 := (HX2.out.next hb).range; clear hw hb HN)
  have HP := Lib.hid (put_any w3 t (HR.out.next (HB2.out.trans (HB3.out.mono HB2.out.size))) HK.out w2.heap.size w2.heap.size [] HW3.out)
  have HPT := Lib.hid (HP.out (fun b o e h0 => Nat.lt_of_lt_of_le (HA.out b o e h0) HB2.out.size) (by simp))
  clear HP
  go_upto_region 3 with (first | (refine wpList_load_mid rfl 25 _ rfl _ _ rfl t.cells _ hr0 Try.underlying25 rfl (tvinfo t) ?_) | (go_at_call 52; refine HPT.out.mono ?_; rintro e w4 ⟨rfl, hw, ho⟩; rw [List.nil_append] at hw; have HW4 := Lib.hid hw; have HB4 := Lib.hid (HB2.out.trans ((HB3.out.trans ho.1).mono HB2.out.size)); clear hw ho HPT))
  have HY := Lib.hid (bytes_any w2.heap.size w2.heap.size (encTr t.k t.es) w4 HW4.out (by have := HE.out; omega))
  go_wp2_with (first | (go_at_call 53; refine HY.out.mono ?_; rintro e w5 ⟨v, rfl, ho, hb⟩; have hcv := HCV.out w5 v _ ho; have HB5 := Lib.hid (HB4.out.trans (hb.mono HB4.out.size)); clear ho hb HY))
  go_ret
  exact ⟨rfl, HB5.out⟩

theorem numP_ne0 : ∀ (bs : List Nat) (b : Bool) (n : Nat) (x : Int), numP b n bs = .error x → x ≠ 0
  | [], b, n, x, h => by
    simp only [numP, Except.error.injEq] at h
    omega
  | y :: l, b, n, x, h => by
    rw [numP] at h
    split at h
    · simp only [Except.error.injEq] at h; omega
    · split at h
      · simp only [Except.error.injEq] at h; omega
      · split at h
        · cases h
        · exact numP_ne0 _ _ _ _ h
theorem smallP_ne0 {m : Int} {bs : List Nat} {x : Int} (h : smallP m bs = .error x) : x ≠ 0 := by
  unfold smallP at h
  split at h
  · split at h
    · cases h
    · cases h; decide
  · rename_i y hy
    cases h
    exact numP_ne0 _ _ _ _ hy
theorem kA_ne0 : ∀ (m : Nat) (k : Nat → Int) (j : Nat) (bs : List Nat) (x : Int), kA k j m bs = .error x → x ≠ 0
  | 0, k, j, bs, x, h => by cases h
  | m + 1, k, j, bs, x, h => by
    cases hv : smallP 3 bs with
    | error y => rw [kA_err hv] at h; cases h; exact smallP_ne0 hv
    | ok z => obtain ⟨v, t⟩ := z; rw [kA_ok hv] at h; exact kA_ne0 m _ _ _ _ h
theorem eA_ne0 : ∀ (m : Nat) (es : List (Int × Int)) (bs : List Nat) (x : Int), eA es m bs = .error x → x ≠ 0
  | 0, es, bs, x, h => by cases h
  | m + 1, es, bs, x, h => by
    cases hv : smallP 12 bs with
    | error y => rw [eA_err hv] at h; cases h; exact smallP_ne0 hv
    | ok z =>
      obtain ⟨v, t⟩ := z
      cases hv2 : smallP 12 t with
      | error y => rw [eA_err2 hv hv2] at h; cases h; exact smallP_ne0 hv2
      | ok z2 => obtain ⟨v2, t2⟩ := z2; rw [eA_ok hv hv2] at h; exact eA_ne0 m _ _ _ h
theorem getP_ne0 {bs : List Nat} {x : Int} (h : getP bs = .error x) : x ≠ 0 := by
  unfold getP at h
  split at h
  · rename_i y hy; cases h; exact kA_ne0 _ _ _ _ _ hy
  · split at h
    · rename_i y hy; cases h; exact smallP_ne0 hy
    · split at h
      · rename_i y hy; cases h; exact eA_ne0 _ _ _ _ hy
      · cases h
/-- Are these bytes a tree's that may be, and what is left? -/
def Good (bs : List Nat) (k : Nat → Int) (es : List (Int × Int)) (q : List Nat) : Prop := getP bs = .ok ((k, es), q) ∧ RightP ⟨k, es, none, 0⟩ true
theorem Good.uniq {bs : List Nat} {k k' : Nat → Int} {es es' : List (Int × Int)} {q q' : List Nat} (h : Good bs k es q) (h' : Good bs k' es' q') : k = k' ∧ es = es' ∧ q = q' := by
  have := h.1.symm.trans h'.1
  simp only [Except.ok.injEq, Prod.mk.injEq] at this
  exact ⟨this.1.1, this.1.2, this.2⟩
theorem get_yes {L k s : Nat} {W : World} {bs : List Nat} (hr : Rdr W k s) (h : RdB L W s bs) (hk : k < W.heap.size) (hL : L ≤ W.heap.size) {kd : Nat → Int} {es : List (Int × Int)} {q : List Nat} (hg : Good bs kd es q) :
    Calls Try.prog 18 #[.pointer (some ⟨k, 0, none⟩)] W fun e W' => ∃ A c, e = .returned (.agg (Tv.cells ⟨kd, es, A, c⟩).toArray) ∧ Off s W W' ∧ RdB L W' s q ∧ RowsOf ec 2 W' A es ∧ ∀ b o, A = some ⟨b, o, none⟩ → W.heap.size ≤ b :=
  (get_any hr h hk hL).mono (by
    intro e W' h
    unfold EndG at h
    rw [hg.1] at h
    rcases h with ⟨hO, ⟨_, hB, A, c, he, hro, hb⟩ | ⟨h, -⟩⟩
    · exact ⟨A, c, he, hO, hB, hro, hb⟩
    · exact absurd (right_uniq h hg.2) (by decide))
theorem get_not {L k s : Nat} {W : World} {bs : List Nat} (hr : Rdr W k s) (h : RdB L W s bs) (hk : k < W.heap.size) (hL : L ≤ W.heap.size) (hg : ¬ ∃ kd es q, Good bs kd es q) :
    Calls Try.prog 18 #[.pointer (some ⟨k, 0, none⟩)] W fun e W' => ∃ x, x ≠ 0 ∧ e = .panicked [{ v := flt s, recovered := false }] ∧ Met' W' s x ∧ Off s W W' :=
  (get_any hr h hk hL).mono (by
    intro e W' h
    unfold EndG at h
    cases hp : getP bs with
    | error x =>
      rw [hp] at h
      exact ⟨x, getP_ne0 hp, h.2.1, h.2.2, h.1⟩
    | ok z =>
      obtain ⟨⟨kd, es⟩, q⟩ := z
      rw [hp] at h
      rcases h with ⟨hO, ⟨h, _⟩ | ⟨_, he, hM⟩⟩
      · exact absurd ⟨kd, es, q, hp, h⟩ hg
      · exact ⟨3, by decide, he, hM, hO⟩)
theorem tv_no8 (t : Tv) (i : Nat) (x : Int) : t.cells[i]? ≠ some (.int .u8 x) := by
  intro h
  by_cases hi : i < 12
  · rw [tv_get t hi] at h; simp at h
  · by_cases h12 : i = 12
    · subst h12; rw [tv_12] at h; simp at h
    · rw [List.getElem?_eq_none (by rw [tv_len]; omega)] at h; cases h
/-- The reader stays, where a tree's box turns. -/
theorem rdb_box {L s c : Nat} {W : World} {bs : List Nat} {t : Tv} (h : RdB L W s bs) (hc : Blk W c 25 t.cells.toArray) (hcs : c ≠ s) (cs : Array Value) : RdB L (W.setRow c cs) s bs := by
  have hf : ∀ b, b ≠ c → (W.setRow c cs).heap[b]? = W.heap[b]? := fun b hb => setRow_other W c b _ hb
  obtain ⟨A, n, hR, hn, h⟩ := h
  have hcell : ∀ i, (W.setRow c cs).cell? ⟨s, i, none⟩ = W.cell? ⟨s, i, none⟩ := fun i => World.cell?_of_block (hf s (Ne.symm hcs))
  refine ⟨A, n, ⟨(hcell 0).trans hR.1, (hcell 1).trans hR.2.1, (hcell 2).trans hR.2.2.1, fun i => ?_⟩, hn, ?_⟩
  · have := hR.2.2.2 i
    simp only [World.frozen?] at this ⊢
    rw [hf s (Ne.symm hcs)]; exact this
  · rcases h with h | ⟨b, p, e, h1, ⟨h0, h2⟩, h3⟩
    · exact .inl h
    · cases bs with
      | nil => exact .inl rfl
      | cons y bs =>
        have hbc : b ≠ c := by
          intro e
          subst e
          have := h3 0 y rfl
          rw [hc.cell, List.getElem?_toArray] at this
          exact tv_no8 t _ _ this
        exact .inr ⟨b, p, e, h1, ⟨h0, by simpa using h2⟩, fun i x hx => (World.cell?_of_block (hf b hbc)).trans (h3 i x hx)⟩
/-- What a callback that reads a tree ends in. -/
def EndC (L c s : Nat) (W : World) (bs : List Nat) (e : Ending) (W' : World) : Prop :=
  ∃ w1, Off s W w1 ∧ ((∃ kd es q A cp, Good bs kd es q ∧ e = .returned (.tuple #[]) ∧ RdB L W' s q ∧ W' = w1.setRow c (Tv.cells ⟨kd, es, A, cp⟩).toArray ∧ Blk W' c 25 (Tv.cells ⟨kd, es, A, cp⟩).toArray ∧ RowsOf ec 2 W' A es ∧ ∀ b o, A = some ⟨b, o, none⟩ → W.heap.size ≤ b) ∨
    ((¬ ∃ kd es q, Good bs kd es q) ∧ W' = w1 ∧ ∃ x, x ≠ 0 ∧ e = .panicked [{ v := flt s, recovered := false }] ∧ Met' W' s x))

section
set_option maxRecDepth 20000 in
set_option maxHeartbeats 4000000 in
theorem cb0_any {L k s c : Nat} {W : World} {bs : List Nat} {tu : Tv} (hr : Rdr W k s) (h : RdB L W s bs) (hk : k < W.heap.size) (hL : L ≤ W.heap.size) (hc : Blk W c 25 tu.cells.toArray) (hcs : c ≠ s) :
    Calls Try.prog 45 #[.pointer (some ⟨k, 0, none⟩), .pointer (some ⟨c, 0, none⟩)] W fun e W' => EndC L c s W bs e W' := by
  by_cases hg : ∃ kd es q, Good bs kd es q
  · obtain ⟨kd, es, q, hg⟩ := hg
    have HG := Lib.hid (get_yes hr h hk hL hg)
    have HGD := Lib.hid hg
    have HC := Lib.hid (And.intro hc hcs)
    clear hg hr h hk hL hc hcs
    go_enter Try.func45, Try.ntmps45
    go_wp2_with (first | (go_at_call 18; refine HG.out.mono ?_; rintro e w1 ⟨A, cp, rfl, hO, hB, hro, hbd⟩; have HX := Lib.hid (hO.block c HC.out.1.lt HC.out.2 |>.trans HC.out.1); have HO := Lib.hid hO; have HB := Lib.hid hB; have HRO := Lib.hid hro; have HBD := Lib.hid hbd; clear hO hB hro hbd HG) | (refine wpList_store_blk rfl 25 _ _ rfl c 25 tu.cells.toArray (Tv.cells ⟨kd, es, A, cp⟩).toArray rfl rfl HX.out (tvinfoA _) (by rw [← tv_siz, ← tv_siz]) (tv_all _) ?_; intro hY; have HY := Lib.hid hY; clear hY))
    refine ⟨rfl, .tuple #[], by simp [results, Try.results45, go_sem], ?_⟩
    have hxb : Blk w1 c 25 tu.cells.toArray := HX.out
    refine ⟨w1, HO.out, .inl ⟨kd, es, q, A, cp, HGD.out, rfl, rdb_box HB.out hxb HC.out.2 _, rfl, HY.out, ?_, HBD.out⟩⟩
    refine HRO.out.imp id ?_
    rintro ⟨b, o, e, h1, h2⟩
    exact ⟨b, o, e, by simpa using h1, fun i hi j v hv => (World.cell?_of_block (setRow_other w1 c b _ (by have := HBD.out b o e; have := HC.out.1.lt; omega))).trans (h2 i hi j v hv)⟩
  · have HG := Lib.hid (get_not hr h hk hL hg)
    have HGD := Lib.hid hg
    clear hg hr h hk hL hc hcs
    go_enter Try.func45, Try.ntmps45
    go_wp2_with (go_at_call 18; refine HG.out.mono ?_; rintro e w1 ⟨x, hx, rfl, hM, hO⟩; have HM := Lib.hid (And.intro hx hM); have HO := Lib.hid hO; clear hx hM hO HG)
    exact ⟨rfl, w1, HO.out, .inr ⟨HGD.out, rfl, x, HM.out.1, rfl, HM.out.2⟩⟩
end

section
set_option maxRecDepth 20000 in
set_option maxHeartbeats 4000000 in
theorem cb1_any {L k s c : Nat} {W : World} {bs : List Nat} {tu : Tv} (hr : Rdr W k s) (h : RdB L W s bs) (hk : k < W.heap.size) (hL : L ≤ W.heap.size) (hc : Blk W c 25 tu.cells.toArray) (hcs : c ≠ s) :
    Calls Try.prog 17 #[.pointer (some ⟨k, 0, none⟩), .pointer (some ⟨c, 0, none⟩)] W fun e W' => EndC L c s W bs e W' := by
  by_cases hg : ∃ kd es q, Good bs kd es q
  · obtain ⟨kd, es, q, hg⟩ := hg
    have HG := Lib.hid (get_yes hr h hk hL hg)
    have HGD := Lib.hid hg
    have HC := Lib.hid (And.intro hc hcs)
    clear hg hr h hk hL hc hcs
    go_enter Try.func17, Try.ntmps17
    go_wp2_with (first | (go_at_call 18; refine HG.out.mono ?_; rintro e w1 ⟨A, cp, rfl, hO, hB, hro, hbd⟩; have HX := Lib.hid (hO.block c HC.out.1.lt HC.out.2 |>.trans HC.out.1); have HO := Lib.hid hO; have HB := Lib.hid hB; have HRO := Lib.hid hro; have HBD := Lib.hid hbd; clear hO hB hro hbd HG) | (refine wpList_store_blk rfl 25 _ _ rfl c 25 tu.cells.toArray (Tv.cells ⟨kd, es, A, cp⟩).toArray rfl rfl HX.out (tvinfoA _) (by rw [← tv_siz, ← tv_siz]) (tv_all _) ?_; intro hY; have HY := Lib.hid hY; clear hY))
    refine ⟨rfl, .tuple #[], by simp [results, Try.results17, go_sem], ?_⟩
    have hxb : Blk w1 c 25 tu.cells.toArray := HX.out
    refine ⟨w1, HO.out, .inl ⟨kd, es, q, A, cp, HGD.out, rfl, rdb_box HB.out hxb HC.out.2 _, rfl, HY.out, ?_, HBD.out⟩⟩
    refine HRO.out.imp id ?_
    rintro ⟨b, o, e, h1, h2⟩
    exact ⟨b, o, e, by simpa using h1, fun i hi j v hv => (World.cell?_of_block (setRow_other w1 c b _ (by have := HBD.out b o e; have := HC.out.1.lt; omega))).trans (h2 i hi j v hv)⟩
  · have HG := Lib.hid (get_not hr h hk hL hg)
    have HGD := Lib.hid hg
    clear hg hr h hk hL hc hcs
    go_enter Try.func17, Try.ntmps17
    go_wp2_with (go_at_call 18; refine HG.out.mono ?_; rintro e w1 ⟨x, hx, rfl, hM, hO⟩; have HM := Lib.hid (And.intro hx hM); have HO := Lib.hid hO; clear hx hM hO HG)
    exact ⟨rfl, w1, HO.out, .inr ⟨HGD.out, rfl, x, HM.out.1, rfl, HM.out.2⟩⟩
end

section
set_option maxRecDepth 20000 in
set_option maxHeartbeats 4000000 in
theorem cb2_any {L k s c : Nat} {W : World} {bs : List Nat} {tu : Tv} (hr : Rdr W k s) (h : RdB L W s bs) (hk : k < W.heap.size) (hL : L ≤ W.heap.size) (hc : Blk W c 25 tu.cells.toArray) (hcs : c ≠ s) :
    Calls Try.prog 20 #[.pointer (some ⟨k, 0, none⟩), .pointer (some ⟨c, 0, none⟩)] W fun e W' => EndC L c s W bs e W' := by
  by_cases hg : ∃ kd es q, Good bs kd es q
  · obtain ⟨kd, es, q, hg⟩ := hg
    have HG := Lib.hid (get_yes hr h hk hL hg)
    have HGD := Lib.hid hg
    have HC := Lib.hid (And.intro hc hcs)
    clear hg hr h hk hL hc hcs
    go_enter Try.func20, Try.ntmps20
    go_wp2_with (first | (go_at_call 18; refine HG.out.mono ?_; rintro e w1 ⟨A, cp, rfl, hO, hB, hro, hbd⟩; have HX := Lib.hid (hO.block c HC.out.1.lt HC.out.2 |>.trans HC.out.1); have HO := Lib.hid hO; have HB := Lib.hid hB; have HRO := Lib.hid hro; have HBD := Lib.hid hbd; clear hO hB hro hbd HG) | (refine wpList_store_blk rfl 25 _ _ rfl c 25 tu.cells.toArray (Tv.cells ⟨kd, es, A, cp⟩).toArray rfl rfl HX.out (tvinfoA _) (by rw [← tv_siz, ← tv_siz]) (tv_all _) ?_; intro hY; have HY := Lib.hid hY; clear hY))
    refine ⟨rfl, .tuple #[], by simp [results, Try.results20, go_sem], ?_⟩
    have hxb : Blk w1 c 25 tu.cells.toArray := HX.out
    refine ⟨w1, HO.out, .inl ⟨kd, es, q, A, cp, HGD.out, rfl, rdb_box HB.out hxb HC.out.2 _, rfl, HY.out, ?_, HBD.out⟩⟩
    refine HRO.out.imp id ?_
    rintro ⟨b, o, e, h1, h2⟩
    exact ⟨b, o, e, by simpa using h1, fun i hi j v hv => (World.cell?_of_block (setRow_other w1 c b _ (by have := HBD.out b o e; have := HC.out.1.lt; omega))).trans (h2 i hi j v hv)⟩
  · have HG := Lib.hid (get_not hr h hk hL hg)
    have HGD := Lib.hid hg
    clear hg hr h hk hL hc hcs
    go_enter Try.func20, Try.ntmps20
    go_wp2_with (go_at_call 18; refine HG.out.mono ?_; rintro e w1 ⟨x, hx, rfl, hM, hO⟩; have HM := Lib.hid (And.intro hx hM); have HO := Lib.hid hO; clear hx hM hO HG)
    exact ⟨rfl, w1, HO.out, .inr ⟨HGD.out, rfl, x, HM.out.1, rfl, HM.out.2⟩⟩
end

/-- What Read of a tree gives: box c holds it then. -/
def EndT (c : Nat) (W : World) (bs : List Nat) (e : Ending) (W' : World) : Prop :=
  Off c W W' ∧ ((∃ kd es A cp, Good bs kd es [] ∧ e = .returned (.int .i64 0) ∧ Blk W' c 25 (Tv.cells ⟨kd, es, A, cp⟩).toArray ∧ RowsOf ec 2 W' A es ∧ ∀ b o, A = some ⟨b, o, none⟩ → W.heap.size ≤ b) ∨
    (¬ (∃ kd es, Good bs kd es []) ∧ ∃ x : Int, x ≠ 0 ∧ e = .returned (.int .i64 x) ∧ ∃ t' : Tv, Blk W' c 25 t'.cells.toArray))

set_option maxRecDepth 20000 in
theorem read0_any (A : Option Addr) (n cp c : Nat) (W : World) (bs : List Nat) (tu : Tv) (hn : bs.length = n) (hnc : n ≤ cp) (hbs : Byt.ByR W A bs) (hc : Blk W c 25 tu.cells.toArray) :
    Calls Try.prog 16 #[.slice A n cp, .func (.func 45) #[] #[.pointer (some ⟨c, 0, none⟩)]] W fun e W' => EndT c W bs e W' := by
  refine (read_any4 (L := W.heap.size) A n cp 45 #[.pointer (some ⟨c, 0, none⟩)] W bs (fun r W2 => Off c W W2 ∧ ((∃ kd es q A cp, Good bs kd es q ∧ r = .ok q ∧ Blk W2 c 25 (Tv.cells ⟨kd, es, A, cp⟩).toArray ∧ RowsOf ec 2 W2 A es ∧ ∀ b o, A = some ⟨b, o, none⟩ → W.heap.size + 4 ≤ b) ∨ ((¬ ∃ kd es q, Good bs kd es q) ∧ (∃ x, x ≠ 0 ∧ r = .error x) ∧ Blk W2 c 25 tu.cells.toArray)))
    (fun args w => run_enter Try.func45 (by kernel_rfl) (by kernel_rfl) args w) hn hnc (Nat.le_refl _) ?_ ?_).mono ?_
  · refine hbs.imp id ?_
    rintro ⟨b, p, h1, h2, h3⟩
    exact ⟨b, p, h1, h2, h3⟩
  · intro W1 k s hb hs hk hs1 h4 _ hR hB
    have hc1 := hc.next hb
    have hcl := hc.lt
    have hk1 := World.block_lt_of_cell? W1 ⟨k, 0, none⟩ hR.2
    refine (cb0_any (c := c) hR hB hk1 hb.size hc1 (by omega)).mono ?_
    rintro e W2 ⟨w1, hO, ⟨kd, es, q, A, cp, hg, rfl, hRB, rfl, hX, hro, hbd⟩ | ⟨hg, rfl, x, hx, rfl, hM⟩⟩
    · refine ⟨fun b h1 h2 h3 => (setRow_other w1 c b _ (by omega)).trans (hO.block b h2 h3), .inl ⟨q, rfl, hRB, ⟨⟨?_, ?_, ?_, ?_, ?_⟩, .inl ⟨kd, es, q, A, cp, hg, rfl, hX, hro, fun b o e => by have := hbd b o e; omega⟩⟩⟩⟩
      · exact hO.os.trans hb.os
      · exact hO.tape.trans hb.tape
      · exact hO.output.trans hb.output
      · have := hb.size; have := hO.size; simp; omega
      · intro b h1 h2
        exact (setRow_other w1 c b _ h2).trans ((hO.block b (Nat.lt_of_lt_of_le h1 hb.size) (by omega)).trans (hb.block b h1))
    · have hO2 : Off c W W2 := ⟨hO.os.trans hb.os, hO.tape.trans hb.tape, hO.output.trans hb.output, Nat.le_trans hb.size hO.size, fun b h1 h2 => (hO.block b (Nat.lt_of_lt_of_le h1 hb.size) (by omega)).trans (hb.block b h1)⟩
      exact ⟨fun b _ h6 h7 => hO.block b h6 h7, .inr ⟨x, hx, rfl, hM, hO2, .inr ⟨hg, ⟨x, hx, rfl⟩, (hO.block c hc1.lt (by omega)).trans hc1⟩⟩⟩
  · rintro e W' ⟨r, W2, ⟨hO, hY⟩, rfl, hb3, hk3⟩
    have hcl := hc.lt
    refine ⟨⟨hb3.os.trans hO.os, hb3.tape.trans hO.tape, hb3.output.trans hO.output, Nat.le_trans hO.size hb3.size, fun b h1 h2 => (hb3.block b h1).trans (hO.block b h1 h2)⟩, ?_⟩
    rcases hY with ⟨kd, es, q, A, cp, hg, rfl, hX, hro, hbd⟩ | ⟨hg, ⟨x, hx, rfl⟩, hX⟩
    · have hX' : Blk W' c 25 (Tv.cells ⟨kd, es, A, cp⟩).toArray := (hb3.block c hcl).trans hX
      cases q with
      | nil =>
        refine .inl ⟨kd, es, A, cp, hg, rfl, hX', ?_, fun b o e => by have := hbd b o e; omega⟩
        refine hro.imp id ?_
        rintro ⟨b, o, e, h1, h2⟩
        have := hbd b o e
        exact ⟨b, o, e, Nat.lt_of_lt_of_le h1 hb3.size, fun i hi j v hv => (World.cell?_of_block (hk3 b h1 (by omega) (by omega))).trans (h2 i hi j v hv)⟩
      | cons y q =>
        refine .inr ⟨?_, 2, by decide, by simp [readE], _, hX'⟩
        rintro ⟨kd', es', hg'⟩
        have := (hg.uniq hg').2.2
        cases this
    · refine .inr ⟨fun ⟨kd, es, h⟩ => hg ⟨kd, es, [], h⟩, x, hx, rfl, tu, (hb3.block c hcl).trans hX⟩

set_option maxRecDepth 20000 in
theorem read1_any (A : Option Addr) (n cp c : Nat) (W : World) (bs : List Nat) (tu : Tv) (hn : bs.length = n) (hnc : n ≤ cp) (hbs : Byt.ByR W A bs) (hc : Blk W c 25 tu.cells.toArray) :
    Calls Try.prog 16 #[.slice A n cp, .func (.func 17) #[] #[.pointer (some ⟨c, 0, none⟩)]] W fun e W' => EndT c W bs e W' := by
  refine (read_any4 (L := W.heap.size) A n cp 17 #[.pointer (some ⟨c, 0, none⟩)] W bs (fun r W2 => Off c W W2 ∧ ((∃ kd es q A cp, Good bs kd es q ∧ r = .ok q ∧ Blk W2 c 25 (Tv.cells ⟨kd, es, A, cp⟩).toArray ∧ RowsOf ec 2 W2 A es ∧ ∀ b o, A = some ⟨b, o, none⟩ → W.heap.size + 4 ≤ b) ∨ ((¬ ∃ kd es q, Good bs kd es q) ∧ (∃ x, x ≠ 0 ∧ r = .error x) ∧ Blk W2 c 25 tu.cells.toArray)))
    (fun args w => run_enter Try.func17 (by kernel_rfl) (by kernel_rfl) args w) hn hnc (Nat.le_refl _) ?_ ?_).mono ?_
  · refine hbs.imp id ?_
    rintro ⟨b, p, h1, h2, h3⟩
    exact ⟨b, p, h1, h2, h3⟩
  · intro W1 k s hb hs hk hs1 h4 _ hR hB
    have hc1 := hc.next hb
    have hcl := hc.lt
    have hk1 := World.block_lt_of_cell? W1 ⟨k, 0, none⟩ hR.2
    refine (cb1_any (c := c) hR hB hk1 hb.size hc1 (by omega)).mono ?_
    rintro e W2 ⟨w1, hO, ⟨kd, es, q, A, cp, hg, rfl, hRB, rfl, hX, hro, hbd⟩ | ⟨hg, rfl, x, hx, rfl, hM⟩⟩
    · refine ⟨fun b h1 h2 h3 => (setRow_other w1 c b _ (by omega)).trans (hO.block b h2 h3), .inl ⟨q, rfl, hRB, ⟨⟨?_, ?_, ?_, ?_, ?_⟩, .inl ⟨kd, es, q, A, cp, hg, rfl, hX, hro, fun b o e => by have := hbd b o e; omega⟩⟩⟩⟩
      · exact hO.os.trans hb.os
      · exact hO.tape.trans hb.tape
      · exact hO.output.trans hb.output
      · have := hb.size; have := hO.size; simp; omega
      · intro b h1 h2
        exact (setRow_other w1 c b _ h2).trans ((hO.block b (Nat.lt_of_lt_of_le h1 hb.size) (by omega)).trans (hb.block b h1))
    · have hO2 : Off c W W2 := ⟨hO.os.trans hb.os, hO.tape.trans hb.tape, hO.output.trans hb.output, Nat.le_trans hb.size hO.size, fun b h1 h2 => (hO.block b (Nat.lt_of_lt_of_le h1 hb.size) (by omega)).trans (hb.block b h1)⟩
      exact ⟨fun b _ h6 h7 => hO.block b h6 h7, .inr ⟨x, hx, rfl, hM, hO2, .inr ⟨hg, ⟨x, hx, rfl⟩, (hO.block c hc1.lt (by omega)).trans hc1⟩⟩⟩
  · rintro e W' ⟨r, W2, ⟨hO, hY⟩, rfl, hb3, hk3⟩
    have hcl := hc.lt
    refine ⟨⟨hb3.os.trans hO.os, hb3.tape.trans hO.tape, hb3.output.trans hO.output, Nat.le_trans hO.size hb3.size, fun b h1 h2 => (hb3.block b h1).trans (hO.block b h1 h2)⟩, ?_⟩
    rcases hY with ⟨kd, es, q, A, cp, hg, rfl, hX, hro, hbd⟩ | ⟨hg, ⟨x, hx, rfl⟩, hX⟩
    · have hX' : Blk W' c 25 (Tv.cells ⟨kd, es, A, cp⟩).toArray := (hb3.block c hcl).trans hX
      cases q with
      | nil =>
        refine .inl ⟨kd, es, A, cp, hg, rfl, hX', ?_, fun b o e => by have := hbd b o e; omega⟩
        refine hro.imp id ?_
        rintro ⟨b, o, e, h1, h2⟩
        have := hbd b o e
        exact ⟨b, o, e, Nat.lt_of_lt_of_le h1 hb3.size, fun i hi j v hv => (World.cell?_of_block (hk3 b h1 (by omega) (by omega))).trans (h2 i hi j v hv)⟩
      | cons y q =>
        refine .inr ⟨?_, 2, by decide, by simp [readE], _, hX'⟩
        rintro ⟨kd', es', hg'⟩
        have := (hg.uniq hg').2.2
        cases this
    · refine .inr ⟨fun ⟨kd, es, h⟩ => hg ⟨kd, es, [], h⟩, x, hx, rfl, tu, (hb3.block c hcl).trans hX⟩

set_option maxRecDepth 20000 in
theorem read2_any (A : Option Addr) (n cp c : Nat) (W : World) (bs : List Nat) (tu : Tv) (hn : bs.length = n) (hnc : n ≤ cp) (hbs : Byt.ByR W A bs) (hc : Blk W c 25 tu.cells.toArray) :
    Calls Try.prog 16 #[.slice A n cp, .func (.func 20) #[] #[.pointer (some ⟨c, 0, none⟩)]] W fun e W' => EndT c W bs e W' := by
  refine (read_any4 (L := W.heap.size) A n cp 20 #[.pointer (some ⟨c, 0, none⟩)] W bs (fun r W2 => Off c W W2 ∧ ((∃ kd es q A cp, Good bs kd es q ∧ r = .ok q ∧ Blk W2 c 25 (Tv.cells ⟨kd, es, A, cp⟩).toArray ∧ RowsOf ec 2 W2 A es ∧ ∀ b o, A = some ⟨b, o, none⟩ → W.heap.size + 4 ≤ b) ∨ ((¬ ∃ kd es q, Good bs kd es q) ∧ (∃ x, x ≠ 0 ∧ r = .error x) ∧ Blk W2 c 25 tu.cells.toArray)))
    (fun args w => run_enter Try.func20 (by kernel_rfl) (by kernel_rfl) args w) hn hnc (Nat.le_refl _) ?_ ?_).mono ?_
  · refine hbs.imp id ?_
    rintro ⟨b, p, h1, h2, h3⟩
    exact ⟨b, p, h1, h2, h3⟩
  · intro W1 k s hb hs hk hs1 h4 _ hR hB
    have hc1 := hc.next hb
    have hcl := hc.lt
    have hk1 := World.block_lt_of_cell? W1 ⟨k, 0, none⟩ hR.2
    refine (cb2_any (c := c) hR hB hk1 hb.size hc1 (by omega)).mono ?_
    rintro e W2 ⟨w1, hO, ⟨kd, es, q, A, cp, hg, rfl, hRB, rfl, hX, hro, hbd⟩ | ⟨hg, rfl, x, hx, rfl, hM⟩⟩
    · refine ⟨fun b h1 h2 h3 => (setRow_other w1 c b _ (by omega)).trans (hO.block b h2 h3), .inl ⟨q, rfl, hRB, ⟨⟨?_, ?_, ?_, ?_, ?_⟩, .inl ⟨kd, es, q, A, cp, hg, rfl, hX, hro, fun b o e => by have := hbd b o e; omega⟩⟩⟩⟩
      · exact hO.os.trans hb.os
      · exact hO.tape.trans hb.tape
      · exact hO.output.trans hb.output
      · have := hb.size; have := hO.size; simp; omega
      · intro b h1 h2
        exact (setRow_other w1 c b _ h2).trans ((hO.block b (Nat.lt_of_lt_of_le h1 hb.size) (by omega)).trans (hb.block b h1))
    · have hO2 : Off c W W2 := ⟨hO.os.trans hb.os, hO.tape.trans hb.tape, hO.output.trans hb.output, Nat.le_trans hb.size hO.size, fun b h1 h2 => (hO.block b (Nat.lt_of_lt_of_le h1 hb.size) (by omega)).trans (hb.block b h1)⟩
      exact ⟨fun b _ h6 h7 => hO.block b h6 h7, .inr ⟨x, hx, rfl, hM, hO2, .inr ⟨hg, ⟨x, hx, rfl⟩, (hO.block c hc1.lt (by omega)).trans hc1⟩⟩⟩
  · rintro e W' ⟨r, W2, ⟨hO, hY⟩, rfl, hb3, hk3⟩
    have hcl := hc.lt
    refine ⟨⟨hb3.os.trans hO.os, hb3.tape.trans hO.tape, hb3.output.trans hO.output, Nat.le_trans hO.size hb3.size, fun b h1 h2 => (hb3.block b h1).trans (hO.block b h1 h2)⟩, ?_⟩
    rcases hY with ⟨kd, es, q, A, cp, hg, rfl, hX, hro, hbd⟩ | ⟨hg, ⟨x, hx, rfl⟩, hX⟩
    · have hX' : Blk W' c 25 (Tv.cells ⟨kd, es, A, cp⟩).toArray := (hb3.block c hcl).trans hX
      cases q with
      | nil =>
        refine .inl ⟨kd, es, A, cp, hg, rfl, hX', ?_, fun b o e => by have := hbd b o e; omega⟩
        refine hro.imp id ?_
        rintro ⟨b, o, e, h1, h2⟩
        have := hbd b o e
        exact ⟨b, o, e, Nat.lt_of_lt_of_le h1 hb3.size, fun i hi j v hv => (World.cell?_of_block (hk3 b h1 (by omega) (by omega))).trans (h2 i hi j v hv)⟩
      | cons y q =>
        refine .inr ⟨?_, 2, by decide, by simp [readE], _, hX'⟩
        rintro ⟨kd', es', hg'⟩
        have := (hg.uniq hg').2.2
        cases this
    · refine .inr ⟨fun ⟨kd, es, h⟩ => hg ⟨kd, es, [], h⟩, x, hx, rfl, tu, (hb3.block c hcl).trans hX⟩
end Tr
end Go.Proofs.Ytopkfmamjlkjiaa
