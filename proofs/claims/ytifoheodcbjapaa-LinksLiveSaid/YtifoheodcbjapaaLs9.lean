/-
links: Get.
-/
import Derived.Test.YtifoheodcbjapaaLs8
namespace Go.Proofs.Ytifoheodcbjapaa
open Go.RowKit
set_option linter.unusedSimpArgs false
set_option linter.unusedVariables false
namespace Ls
open Lk
/-- So many links, to nodes that rise. -/
def restLP (own : Nat) : Nat → Nat → (Nat → LS) → List Nat → Except Int ((Nat → LS) × List Nat)
  | 0, _, S, bs => .ok (S, bs)
  | n + 1, last, S, bs => match smallP 12 bs with
    | .error e => .error e
    | .ok (m, q) => if last < m ∧ m ≠ own then (match linkP q with
      | .error e => .error e
      | .ok (x, q2) => if 1 < x.nx ∨ 1 < x.ex then restLP own n m (updS S (m - 1) x) q2 else .error 3) else .error 3
def linksP (bs : List Nat) : Except Int ((Nat × (Nat → LS)) × List Nat) :=
  match smallP 12 bs with
  | .error e => .error e
  | .ok (own, t) => if 1 ≤ own then (match smallP 11 t with
    | .error e => .error e
    | .ok (n, q) => match restLP own n 0 S0 q with
      | .error e => .error e
      | .ok (S, r) => .ok ((own, S), r)) else .error 3
/-- What Get gives. -/
def EndLs (L s : Nat) (W : World) (P : Except Int ((Nat × (Nat → LS)) × List Nat)) (e : Ending) (W' : World) : Prop :=
  match P with
  | .ok (x, q) => ∃ d, e = .returned (.pointer (some ⟨d, 0, none⟩)) ∧ Off s W W' ∧ LN W' W.heap.size d (fun b => W.heap.size ≤ b ∧ b < W'.heap.size) x.1 x.2 ∧ RdB L W' s q
  | .error x => e = .panicked [{ v := flt s, recovered := false }] ∧ Met' W' s x ∧ Off s W W'
/-- Links that are being read. -/
structure GL (L : Nat) (W wr : World) (k s d own : Nat) (S : Nat → LS) (t : List Nat) : Prop where
  off : Off s W wr
  rdr : Rdr wr k s
  rdb : RdB L wr s t
  ln : LN wr W.heap.size d (fun b => W.heap.size ≤ b ∧ b < wr.heap.size) own S
  tl : t.length ≤ 140737488355328
  tb : ∀ y ∈ t, y < 256
theorem LN.re {W : World} {B B' d own : Nat} {F G : Nat → Prop} {S : Nat → LS} (h : LN W B d F own S) (hG : ∀ k, F k → G k) (hl : ∀ k, G k → B' ≤ k ∧ k < W.heap.size) : LN W B' d G own S := by
  obtain ⟨K, D, e⟩ := h
  exact ⟨K, ⟨hG d D.fd, D.blk, D.o1, D.o2, fun i => (D.ok i).imp id fun k => k.keep fun k hk => ⟨hG k hk, rfl⟩, D.self, D.far, hl⟩, e⟩
section
variable {L : Nat} {W wr w' : World} {k s d own : Nat} {S : Nat → LS} {t t' : List Nat}
theorem GL.off' (h : GL L W wr k s d own S t) (hsW : s < W.heap.size) (hO : Off s wr w') (hB : RdB L w' s t') (htl : t'.length ≤ t.length) (htb : ∀ y ∈ t', y < 256) : GL L W w' k s d own S t' :=
  ⟨h.off.trans hO, h.rdr.off hO, hB, (h.ln.keep (fun b hb => hO.block b hb.2 (by omega)) hO.size).re (fun b hb => ⟨hb.1, Nat.lt_of_lt_of_le hb.2 hO.size⟩) (fun b hb => hb), Nat.le_trans htl h.tl, htb⟩
theorem GL.below (h : GL L W wr k s d own S t) (hsW : s < W.heap.size) (hb : Below wr.heap.size wr w') : GL L W w' k s d own S t :=
  h.off' hsW (off_below hb) (rdb_keep h.rdb (hb.block s (Nat.lt_of_lt_of_le hsW h.off.size)) (fun b _ _ h2 => hb.block b h2) hb.size) (Nat.le_refl _) h.tb
theorem GL.dW (h : GL L W wr k s d own S t) : W.heap.size ≤ d ∧ d < wr.heap.size := h.ln.low d h.ln.fd
/-- A link that was read is put in its place. -/
theorem GL.put (h : GL L W wr k s d own S t) (hkW : k < W.heap.size) (hsW : s < W.heap.size) (hLW : L ≤ W.heap.size) {i : Nat} (hi : i < 12) (hio : i ≠ own - 1) {kn : Kn} (hk : LkO wr (fun b => W.heap.size ≤ b ∧ b < wr.heap.size) kn.A kn.c kn.l kn.s) : GL L W (wr.setCells d (1 + i * 3) kn.cells) k s d own (updS S i kn.s) t := by
  obtain ⟨K, D, e⟩ := h.ln
  obtain ⟨hL, hT⟩ := put_done D (Below.refl _ _) hi hio (k := kn) (hk.keep fun b hb => ⟨Or.inl hb, rfl⟩)
  have hd := h.dW
  have hz : (wr.setCells d (1 + i * 3) kn.cells).heap.size = wr.heap.size := setCells_size d _ _ _
  have far : ∀ j, j ≠ d → (wr.setCells d (1 + i * 3) kn.cells).heap[j]? = wr.heap[j]? := fun j hj => setCells_other d _ _ _ _ hj
  have hO2 : Off s W (wr.setCells d (1 + i * 3) kn.cells) := ⟨hT.1.os.trans h.off.os, hT.1.tape.trans h.off.tape, hT.1.output.trans h.off.output, by rw [hz]; exact h.off.size, fun b hb hbs => (far b (by omega)).trans (h.off.block b hb hbs)⟩
  refine ⟨hO2, ⟨h.rdr.1, (World.cell?_of_block (a := ⟨k, 0, none⟩) (far k (by omega))).trans h.rdr.2⟩, rdb_keep h.rdb (far s (by omega)) (fun b hbL _ _ => far b (by omega)) (by rw [hz]; exact Nat.le_refl _), ?_, h.tl, h.tb⟩
  have h2 : LN (wr.setCells d (1 + i * 3) kn.cells) W.heap.size d (Grow (fun b => W.heap.size ≤ b ∧ b < wr.heap.size) wr (wr.setCells d (1 + i * 3) kn.cells)) own (updS S i kn.s) := ⟨_, hL, by rw [e, upd_s]⟩
  have hw := h.off.size
  refine h2.re ?_ fun b hb => hb
  rintro b (hb | hb)
  · exact ⟨hb.1, by rw [hz]; exact hb.2⟩
  · exact ⟨by omega, hb.2⟩
end
theorem textsP_left : ∀ (n : Nat) (acc ts : List (List Nat)) (bs t : List Nat), (∀ y ∈ bs, y < 256) → textsP n acc bs = .ok (ts, t) → t.length ≤ bs.length ∧ ∀ y ∈ t, y < 256
  | 0, acc, ts, bs, t, hb, h => by
    unfold textsP at h
    simp only [Except.ok.injEq, Prod.mk.injEq] at h
    obtain ⟨rfl, rfl⟩ := h
    exact ⟨Nat.le_refl _, hb⟩
  | n + 1, acc, ts, bs, t, hb, h => by
    unfold textsP at h
    cases hv : textP1 bs with
    | error e => rw [hv] at h; cases h
    | ok z =>
      obtain ⟨x, q⟩ := z
      rw [hv] at h
      have h1 := textP1_ok hv
      have h2 := textsP_left n _ ts q t (textP_in hb h1.1).2 h
      exact ⟨Nat.le_trans h2.1 h1.2.2.2, h2.2⟩
theorem linkP_left {bs t : List Nat} {x : LS} (hb : ∀ y ∈ bs, y < 256) (h : linkP bs = .ok (x, t)) : t.length ≤ bs.length ∧ (∀ y ∈ t, y < 256) := by
  unfold linkP at h
  cases hv : nextP bs with
  | error e => rw [hv] at h; cases h
  | ok z =>
    obtain ⟨nx, q⟩ := z
    rw [hv] at h
    dsimp only at h
    have a1 := numP_in hb (nextP_ok hv).1
    have a2 := nextP_left hv
    cases hv2 : smallP 250 q with
    | error e => rw [hv2] at h; cases h
    | ok z =>
      obtain ⟨n, q2⟩ := z
      rw [hv2] at h
      dsimp only at h
      have b1 := numP_in a1 (small_ok hv2).1
      have b2 := smallP_left hv2
      split at h
      · unfold restP at h
        cases hv3 : textsP n [] q2 with
        | error e => rw [hv3] at h; cases h
        | ok z =>
          obtain ⟨ts, q3⟩ := z
          rw [hv3] at h
          dsimp only at h
          have c1 := textsP_left n _ _ _ _ b1 hv3
          cases hv4 : nextP q3 with
          | error e => rw [hv4] at h; cases h
          | ok z =>
            obtain ⟨ex, q4⟩ := z
            rw [hv4] at h
            simp only [Except.ok.injEq, Prod.mk.injEq] at h
            obtain ⟨_, rfl⟩ := h
            have d1 := numP_in c1.2 (nextP_ok hv4).1
            have d2 := nextP_left hv4
            exact ⟨by omega, d1⟩
      · cases h
set_option maxHeartbeats 8000000 in
set_option maxRecDepth 20000 in
theorem get_any {L k s : Nat} {W : World} {bs : List Nat} (hr : Rdr W k s) (h : RdB L W s bs) (hk : k < W.heap.size) (hL : L ≤ W.heap.size) (hlen : bs.length ≤ 140737488355328) (h256 : ∀ y ∈ bs, y < 256) :
    Calls Try.prog 53 #[.pointer (some ⟨k, 0, none⟩)] W fun e W' => EndLs L s W (linksP bs) e W' := by
  have hs : s < W.heap.size := by obtain ⟨A, c, hR, _⟩ := h; exact World.block_lt_of_cell? W ⟨s, 0, none⟩ hR.1
  have HK := Lib.hid (And.intro hk (And.intro hs hL))
  have HR0 := Lib.hid hr
  have HB0 := Lib.hid h
  have HLEN := Lib.hid (And.intro hlen h256)
  obtain ⟨R, hR⟩ : ∃ R, R = linksP bs := ⟨_, rfl⟩
  rw [← hR]
  have hE := hR
  unfold linksP at hE
  clear hR hr h hk hs hL hlen h256
  have HD := Lib.hid (rsmall_any k s bs 12 W HR0.out HB0.out (by omega))
  go_enter Try.func53, Try.ntmps53
  cases hv : smallP 12 bs with
  | error x =>
    rw [hv] at hE HD
    have HE2 := Lib.hid hE
    clear hE hv
    go_wp2_with (first | (go_at_call 74; refine HD.out.mono ?_; rintro e w9 ⟨hO, rfl, hM⟩; have HO := Lib.hid hO; have HM := Lib.hid hM; clear hM hO))
    exact ⟨rfl, by rw [HE2.out]; exact ⟨rfl, HM.out, HO.out⟩⟩
  | ok z =>
    obtain ⟨own, q⟩ := z
    rw [hv] at hE HD
    dsimp only at hE
    have ho12 : own ≤ 12 := by have := (small_ok hv).2; omega
    have HQ := Lib.hid (And.intro (Nat.le_trans (smallP_left hv) HLEN.out.1) (numP_in HLEN.out.2 (small_ok hv).1))
    by_cases ho1 : 1 ≤ own
    · rw [if_pos ho1] at hE
      have HEH := Lib.hid hE
      have HOW := Lib.hid (And.intro ho1 ho12)
      have HNY := Lib.hid (fun w => new_yes w own ho1 ho12)
      clear hE hv ho1 ho12
      go_upto_region 2 with (first | (go_at_call 74; refine HD.out.mono ?_; rintro e w1 ⟨hO, rfl, hM⟩; have HO1 := Lib.hid hO; have HB1 := Lib.hid hM; have HR1 := Lib.hid (HR0.out.off hO); clear hM hO HD) | (go_at_call 6; refine (HNY.out w1).mono ?_; rintro e w2 ⟨rfl, hLN, hb2, hz2⟩))
      obtain ⟨d, hd⟩ : ∃ d, d = w1.heap.size := ⟨_, rfl⟩
      rw [← hd]
      rw [← hd] at hLN
      have H2 := Lib.hid (show GL L W w2 k s d own S0 q from ⟨HO1.out.trans (off_below hb2), HR1.out.off (off_below hb2), rdb_keep HB1.out (hb2.block s (Nat.lt_of_lt_of_le HK.out.2.1 HO1.out.size)) (fun b _ _ h2 => hb2.block b h2) hb2.size, hLN.re (fun b hb => by subst hb; exact ⟨by rw [hd]; exact HO1.out.size, by omega⟩) (fun b hb => hb), HQ.out.1, HQ.out.2⟩)
      clear hLN hb2 hz2 HO1 HB1 HR1 HR0 HB0 hd HNY
      have hE := HEH.out
      clear HEH
      have HD := Lib.hid (rsmall_any k s q 11 w2 H2.out.rdr H2.out.rdb (by omega))
      go_upto_region 3 with (first | (go_at_call 75; refine (rmust_yes k s q _ H2.out.rdr H2.out.rdb).mono ?_; rintro e w4 ⟨rfl, rfl⟩))
      cases hv : smallP 11 q with
      | error x =>
        rw [hv] at hE HD
        have HE2 := Lib.hid hE
        clear hE hv
        go_wp2_with (first | (go_at_call 74; refine HD.out.mono ?_; rintro e w9 ⟨hO, rfl, hM⟩; have HO := Lib.hid (H2.out.off.trans hO); have HM := Lib.hid hM; clear hM hO))
        exact ⟨rfl, by rw [HE2.out]; exact ⟨rfl, HM.out, HO.out⟩⟩
      | ok z =>
        obtain ⟨n, q2⟩ := z
        rw [hv] at hE HD
        dsimp only at hE
        have hn11 : n ≤ 11 := by have := (small_ok hv).2; omega
        have HN := Lib.hid hn11
        have HQ2 := Lib.hid (And.intro (smallP_left hv) (numP_in HQ.out.2 (small_ok hv).1))
        have HEH := Lib.hid hE
        clear hE hv hn11
        go_upto_region 5 with (first | (go_at_call 74; refine HD.out.mono ?_; rintro e w3 ⟨hO, rfl, hM⟩; have H3 := Lib.hid (H2.out.off' HK.out.2.1 hO hM HQ2.out.1 HQ2.out.2); clear hM hO))
        clear HD H2 HQ HQ2
        obtain ⟨C, hC⟩ : ∃ C, C = restLP own n 0 S0 q2 := ⟨_, rfl⟩
        rw [← hC] at HEH
        go_loopw [5, 20] (fun la i wr => ∃ j : Nat, j ≤ n ∧ i = .int .i64 j ∧ ∃ last : Nat, la = .int .i64 last ∧ last ≤ 12 ∧ ∃ S t, GL L W wr k s d own S t ∧ Hid (C = restLP own (n - j) last S t)) (fun _ i _ => n - (intOf i).toNat)
        case atStart => exact ⟨0, Nat.zero_le _, rfl, 0, rfl, Nat.zero_le _, S0, q2, H3.out, Lib.hid hC⟩
        case round =>
          clear H3 hC
          obtain ⟨j, hj, rfl, last, rfl, hla, S, t, hG, hC⟩ := hrel
          have HG := Lib.hid hG
          have HLA := Lib.hid hla
          clear hG hla
          by_cases hlt : j < n
          · have i1 : (j : Int) < (n : Nat) := by omega
            have hC2 := hC.out
            rw [show n - j = (n - (j + 1)) + 1 by omega] at hC2
            unfold restLP at hC2
            obtain ⟨jj, hjj⟩ : ∃ jj, jj = j + 1 := ⟨_, rfl⟩
            rw [← hjj] at hC2
            have HWJ := Lib.hid (Nd.wrap_n j jj hjj (by have := HN.out; omega))
            have HJ := Lib.hid (And.intro hjj hlt)
            have HD := Lib.hid (rsmall_any k s t 12 wr HG.out.rdr HG.out.rdb (by omega))
            clear hC hlt hj hjj
            cases hv : smallP 12 t with
            | error x =>
              rw [hv] at hC2 HD
              have HE2 := Lib.hid (show R = .error x from by have := HEH.out; rw [hC2] at this; exact this)
              clear hC2 hv
              go_wp2_with (first | (go_at_call 74; refine HD.out.mono ?_; rintro e w9 ⟨hO, rfl, hM⟩; have HO := Lib.hid (HG.out.off.trans hO); have HM := Lib.hid hM; clear hM hO))
              exact ⟨rfl, by rw [HE2.out]; exact ⟨rfl, HM.out, HO.out⟩⟩
            | ok z =>
              obtain ⟨m, q3⟩ := z
              rw [hv] at hC2 HD
              dsimp only at hC2
              have hm12 : m ≤ 12 := by have := (small_ok hv).2; omega
              have HQ3 := Lib.hid (And.intro (smallP_left hv) (numP_in HG.out.tb (small_ok hv).1))
              have HM12 := Lib.hid hm12
              have HC2 := Lib.hid hC2
              clear hC2 hv hm12
              go_upto_region 7 with (first | (go_at_call 74; refine HD.out.mono ?_; rintro e w4 ⟨hO, rfl, hM⟩; have H4 := Lib.hid (HG.out.off' HK.out.2.1 hO hM HQ3.out.1 HQ3.out.2); clear hM hO HD))
              clear HG HQ3 i1
              have c0 : w4.cell? ⟨d, 0, none⟩ = some (.int .i64 (own : Nat)) := by obtain ⟨K, D, -⟩ := H4.out.ln; exact D.c0
              by_cases hok : last < m ∧ m ≠ own
              · have hC2 := HC2.out
                rw [if_pos hok] at hC2
                have t1 : (last : Int) < (m : Nat) := by omega
                have t2 : ((m : Int) != (own : Int)) = true := by simp; omega
                have HOKM := Lib.hid hok
                have HL := Lib.hid (Lk.get_any H4.out.rdr H4.out.rdb (Nat.lt_of_lt_of_le HK.out.1 H4.out.off.size) (Nat.le_trans HK.out.2.2 H4.out.off.size) H4.out.tl H4.out.tb)
                clear hok HC2
                go_upto_region 8 with (first | (go_at_call 75; refine (rmust_yes k s q3 _ H4.out.rdr H4.out.rdb).mono ?_; rintro e w5 ⟨rfl, rfl⟩))
                clear t1 t2 c0
                cases hv : linkP q3 with
                | error x =>
                  rw [hv] at hC2 HL
                  have HE2 := Lib.hid (show R = .error x from by have := HEH.out; rw [hC2] at this; exact this)
                  clear hC2 hv
                  go_wp2_with (first | (go_at_call 76; refine HL.out.mono ?_; rintro e w9 ⟨rfl, hM, hO⟩; have HO := Lib.hid (H4.out.off.trans hO); have HM := Lib.hid hM; clear hM hO))
                  exact ⟨rfl, by rw [HE2.out]; exact ⟨rfl, HM.out, HO.out⟩⟩
                | ok z =>
                  obtain ⟨x, q4⟩ := z
                  rw [hv] at hC2 HL
                  dsimp only at hC2
                  have hleft := linkP_left H4.out.tb hv
                  have HQ4 := Lib.hid hleft
                  have HC2 := Lib.hid hC2
                  clear hC2 hv hleft
                  have hm := HOKM.out
                  obtain ⟨i, hi, hti, hnn, hw, hw2, hi1, hi0⟩ := isN_of (show isN ((m : Nat) : Int) = true from decide_eq_true ⟨by omega, by have := HM12.out; omega⟩)
                  have hio : i ≠ own - 1 := fun e => by have := H4.out.ln.o1; omega
                  have HI := Lib.hid (show i < 12 ∧ i ≠ own - 1 ∧ m - 1 = i from ⟨hi, hio, by omega⟩)
                  clear hm hi hti hnn hio
                  go_upto_region 9 with (first | (go_at_call 76; refine HL.out.mono ?_; rintro e w5 ⟨d5, rfl, hO5, ⟨A5, c5, l5, hD5⟩, hB5⟩; obtain ⟨kn, hkn⟩ : ∃ kn : Kn, kn = ⟨x, A5, c5, l5⟩ := ⟨_, rfl⟩; have hk5 : Blk w5 d5 47 kn.cells.toArray := (by (rw [hkn]; exact hD5.blk)); have HKN := Lib.hid hkn; clear hkn) | (refine wpList_load_blk rfl 47 _ rfl _ rfl 47 kn.cells.toArray _ hk5 Try.underlying47 rfl (lkinfoA _) ?_) | (refine wpList_store_blk rfl 47 _ _ rfl w5.heap.size 47 _ kn.cells.toArray rfl rfl (Blk.new w5 _ _) (lkinfoA _) (kn_siz _) (kn_one _) ?_; intro hY; rw [Wr.alloc_setRow]))
                  clear hY HL
                  obtain ⟨w6, hw6⟩ : ∃ w6, w6 = w5.alloc (.cells kn.cells.toArray 47) := ⟨_, rfl⟩
                  obtain ⟨b, hbb⟩ : ∃ b, b = w5.heap.size := ⟨_, rfl⟩
                  have hB6 : Blk w6 b 47 kn.cells.toArray := by rw [hw6, hbb]; exact Blk.new _ _ _
                  have hb6 : Below w5.heap.size w5 w6 := by rw [hw6]; exact (Below.refl _ _).alloc (Nat.le_refl _) _
                  have h5 := H4.out.off' HK.out.2.1 hO5 hB5 HQ4.out.1 HQ4.out.2
                  have hdb : d ≠ b := fun e => by have := h5.dW; omega
                  have H6 := Lib.hid (h5.below HK.out.2.1 hb6)
                  have hkn := HKN.out
                  have hks : kn.s = x := by rw [hkn]
                  have HKS := Lib.hid hks
                  have hko5 : LkO w5 (fun b => W.heap.size ≤ b ∧ b < w5.heap.size) kn.A kn.c kn.l kn.s := by rw [hkn]; exact hD5.lko.keep fun k hk => ⟨⟨Nat.le_trans H4.out.off.size hk.1, hk.2⟩, rfl⟩
                  have HKO := Lib.hid (hko5.keep (W' := w6) (G := fun b => W.heap.size ≤ b ∧ b < w6.heap.size) fun k hk => ⟨⟨hk.1, Nat.lt_of_lt_of_le hk.2 hb6.size⟩, hb6.block k hk.2⟩)
                  rw [← hw6, ← hbb]
                  have HDB := Lib.hid hdb
                  have HB6 := Lib.hid hB6
                  have HSA := Lib.hid (fun w => sent_any w kn)
                  have HTA := Lib.hid (fun w => took_any w kn)
                  clear hw6 hbb hb6 h5 hdb hks hko5 hO5 hB5 hD5 hk5 hkn HKN hB6
                  by_cases hany : 1 < x.nx ∨ 1 < x.ex
                  · have hC2 := HC2.out
                    rw [if_pos hany] at hC2
                    have HCN := Lib.hid hC2
                    have hor : 1 < kn.s.nx ∨ (¬ 1 < kn.s.nx ∧ 1 < kn.s.ex) := by rw [HKS.out]; omega
                    clear hC2 HC2 hany
                    rcases hor with t1 | ⟨t1, t2⟩
                    all_goals
                      (try rw [decide_eq_true t1] at HSA)
                      (try rw [decide_eq_false t1] at HSA)
                      (try rw [decide_eq_true t2] at HTA)
                      (try clear t2)
                      clear t1
                      go_upto_region 10 with (first | (refine wpList_load_blk rfl 47 _ rfl _ rfl 47 kn.cells.toArray _ HB6.out Try.underlying47 rfl (lkinfoA _) ?_) | (refine load_midg rfl 47 _ rfl _ _ rfl kn.cells _ HB7.out.range Try.underlying47 rfl (lkinfo _) ?_; (try simp only [Act.put, List.setIfInBounds_toArray, List.set_cons_zero, List.set_cons_succ])) | (go_at_call 77; refine (HSA.out _).mono ?_; rintro e w7 ⟨rfl, hb7⟩; have H7 := Lib.hid (H6.out.below HK.out.2.1 hb7); have HB7 := Lib.hid (HB6.out.next hb7); have HKO7 := Lib.hid (HKO.out.keep (W' := w7) (G := fun b => W.heap.size ≤ b ∧ b < w7.heap.size) fun k hk => ⟨⟨hk.1, Nat.lt_of_lt_of_le hk.2 hb7.size⟩, hb7.block k hk.2⟩); clear hb7) | (go_at_call 45; refine (HTA.out _).mono ?_; rintro e w8 ⟨rfl, hb8⟩; have H7 := Lib.hid (H7.out.below HK.out.2.1 hb8); have HB7 := Lib.hid (HB7.out.next hb8); have HKO7 := Lib.hid (HKO7.out.keep (W' := w8) (G := fun b => W.heap.size ≤ b ∧ b < w8.heap.size) fun k hk => ⟨⟨hk.1, Nat.lt_of_lt_of_le hk.2 hb8.size⟩, hb8.block k hk.2⟩); clear hb8) | (go_at_call 75; refine (rmust_yes k s q4 _ H7.out.rdr H7.out.rdb).mono ?_; rintro e w9 ⟨rfl, rfl⟩))
                      obtain ⟨K7, D7, e7⟩ := H7.out.ln
                      have hth := (D7.blk.drew).thereT (o := 1 + i * 3) (n := kn.cells.toArray.size) (by rw [List.size_toArray, List.size_toArray, kn_len, ls_len]; have := HI.out.1; omega)
                      have HP := Lib.hid ((H7.out.below HK.out.2.1 (Below.refl _ _).drew).put HK.out.1 HK.out.2.1 HK.out.2.2 HI.out.1 HI.out.2.1 (HKO7.out.keep fun k hk => ⟨hk, rfl⟩))
                      have hkr := HB7.out.range
                      clear D7 e7
                      (try simp only [Act.put, List.setIfInBounds_toArray, List.set_cons_zero, List.set_cons_succ])
                      refine wp_region_tree (S := (fun w' => w'.rangeAt b 0 kn.cells)) (.take 0 (.take 1 (.take 2 (.take 3 (.take 4 (.take 5 (.take 6 (.take 7 (.one 8 (.take 9 .nil)))))))))) 9999 (by kernel_rfl) (by kernel_rfl) (by kernel_rfl) (by kernel_rfl) (by kernel_rfl) (fun _ _ d _ _ h => by cases d <;> exact h) hkr (fun hHeld => ?_); simp only [Tree.map, List.getElem?_toArray, List.getElem?_cons_zero, List.getElem?_cons_succ]
                      (repeat (first | (refine wpTree.take (v := undef) (Or.inr ⟨by rfl, rfl⟩) ?_; simp only [Act.put, List.setIfInBounds_toArray, List.set_cons_zero, List.set_cons_succ]) | (refine wpTree.take (v := .agg kn.cells.toArray) (yieldsIf_load_mid rfl 47 _ rfl _ _ rfl kn.cells _ (fun _ hS => hS) Try.underlying47 rfl (lkinfo _)) ?_; simp only [Act.put, List.setIfInBounds_toArray, List.set_cons_zero, List.set_cons_succ]) | (refine wpTree.take (v := ?_) (Or.inl ⟨by rfl, ?_⟩) ?_; rotate_left; (focus (intro _ hS; (try dsimp only at hS); go_split_ands; (try subst hS); go_simp; (try (with_reducible rfl)); done)); simp only [Act.put, List.setIfInBounds_toArray, List.set_cons_zero, List.set_cons_succ])))
                      refine wpTree.one (fun K hK => ?_)
                      (try rw [if_pos (by rfl)])
                      refine wp_store_mid 47 _ _ rfl d (1 + i * 3) kn.cells.toArray rfl rfl hth (lkinfoA _) (kn_one _) ?_
                      refine hK.out _ _ (World.rangeAt_setCells_apart hHeld d (1 + i * 3) _ (Or.inl (Ne.symm HDB.out))) (fun _ => ?_)
                      clear hK K
                      (try simp only [Act.put, List.setIfInBounds_toArray, List.set_cons_zero, List.set_cons_succ])
                      (repeat (first | (refine wpTree.take (v := undef) (Or.inr ⟨by rfl, rfl⟩) ?_; simp only [Act.put, List.setIfInBounds_toArray, List.set_cons_zero, List.set_cons_succ]) | (refine wpTree.take (v := ?_) (Or.inl ⟨by rfl, ?_⟩) ?_; rotate_left; (focus (intro _ hS; (try dsimp only at hS); go_split_ands; (try subst hS); go_simp; (try (with_reducible rfl)); done)); simp only [Act.put, List.setIfInBounds_toArray, List.set_cons_zero, List.set_cons_succ])))
                      refine wpTree.done ?_
                      go_wp2_with fail
                      rw [HWJ.out]
                      go_roundw
                      case rel => exact ⟨jj, by have := HJ.out; omega, rfl, m, rfl, HM12.out, _, q4, HP.out, Lib.hid (by rw [HKS.out, ← HI.out.2.2]; exact HCN.out)⟩
                      case measure => have := HJ.out; simp [intOf]; omega
                  · have hC2 := HC2.out
                    rw [if_neg hany] at hC2
                    have HE2 := Lib.hid (show R = .error 3 from by have := HEH.out; rw [hC2] at this; exact this)
                    have t1 : ¬ 1 < kn.s.nx := by rw [HKS.out]; omega
                    have t2 : ¬ 1 < kn.s.ex := by rw [HKS.out]; omega
                    rw [decide_eq_false t1] at HSA
                    rw [decide_eq_false t2] at HTA
                    clear hC2 HC2 hany t1 t2
                    go_wp2_with (first | (refine wpList_load_blk rfl 47 _ rfl _ rfl 47 kn.cells.toArray _ HB6.out Try.underlying47 rfl (lkinfoA _) ?_) | (refine load_midg rfl 47 _ rfl _ _ rfl kn.cells _ HB7.out.range Try.underlying47 rfl (lkinfo _) ?_; (try simp only [Act.put, List.setIfInBounds_toArray, List.set_cons_zero, List.set_cons_succ])) | (go_at_call 77; refine (HSA.out _).mono ?_; rintro e w7 ⟨rfl, hb7⟩; have H7 := Lib.hid (H6.out.below HK.out.2.1 hb7); have HB7 := Lib.hid (HB6.out.next hb7); clear hb7) | (go_at_call 45; refine (HTA.out _).mono ?_; rintro e w8 ⟨rfl, hb8⟩; have H8 := Lib.hid (H7.out.below HK.out.2.1 hb8); clear hb8) | (go_at_call 75; refine (rmust_not k s q4 _ H8.out.rdr H8.out.rdb).mono ?_; rintro e w9 ⟨rfl, hM, hO⟩; have HO := Lib.hid (H8.out.off.trans hO); have HM := Lib.hid hM; clear hM hO))
                    exact ⟨rfl, by rw [HE2.out]; exact ⟨rfl, HM.out, HO.out⟩⟩
              · have hC2 := HC2.out
                rw [if_neg hok] at hC2
                have HE2 := Lib.hid (show R = .error 3 from by have := HEH.out; rw [hC2] at this; exact this)
                have hor : (¬ (last : Int) < (m : Nat)) ∨ ((last : Int) < (m : Nat) ∧ m = own) := by omega
                clear hC2 HC2 hok
                rcases hor with t1 | ⟨t1, rfl⟩
                all_goals
                  go_wp2_with (first | (go_at_call 75; refine (rmust_not k s q3 _ H4.out.rdr H4.out.rdb).mono ?_; rintro e w9 ⟨rfl, hM, hO⟩; have HO := Lib.hid (H4.out.off.trans hO); have HM := Lib.hid hM; clear hM hO))
                  exact ⟨rfl, by rw [HE2.out]; exact ⟨rfl, HM.out, HO.out⟩⟩
          · obtain rfl : j = n := by omega
            have i1 : ¬ (j : Int) < (j : Nat) := by omega
            have hC2 := hC.out
            rw [show j - j = 0 by omega] at hC2
            unfold restLP at hC2
            have HE2 := Lib.hid (show R = .ok ((own, S), t) from by have := HEH.out; rw [hC2] at this; exact this)
            clear hC hC2 hlt hj
            go_wp2_with fail
            exact ⟨rfl, .pointer (some ⟨d, 0, none⟩), by simp [results, Try.results53, go_sem], by rw [HE2.out]; exact ⟨d, rfl, HG.out.off, HG.out.ln, HG.out.rdb⟩⟩
    · rw [if_neg ho1] at hE
      have HE2 := Lib.hid hE
      have HNN := Lib.hid (fun w => new_not w (own : Nat) (decide_eq_false (by omega)))
      clear hE hv ho1 ho12
      go_wp2_with (first | (go_at_call 74; refine HD.out.mono ?_; rintro e w1 ⟨hO, rfl, hM⟩; have HO1 := Lib.hid hO; have HB1 := Lib.hid hM; have HR1 := Lib.hid (HR0.out.off hO); clear hM hO HD) | (go_at_call 6; refine (HNN.out w1).mono ?_; rintro e w2 ⟨rfl, rfl⟩) | (go_at_call 75; refine (rmust_not k s q _ HR1.out HB1.out).mono ?_; rintro e w9 ⟨rfl, hM, hO⟩; have HO := Lib.hid (HO1.out.trans hO); have HM := Lib.hid hM; clear hM hO))
      exact ⟨rfl, by rw [HE2.out]; exact ⟨rfl, HM.out, HO.out⟩⟩
end Ls
end Go.Proofs.Ytifoheodcbjapaa
