/-
packet: what Read's reader does.
-/
import Derived.Test.YtbgjghgmdhnhbaaPk5
namespace Go.Proofs.Ytbgjghgmdhnhbaa
open Go.RowKit
set_option linter.unusedSimpArgs false
set_option linter.unusedVariables false
namespace Pk
def kP2 (p : Pt) (bs : List Nat) : Except Int ((Pt × Nat) × List Nat) := match numP true 0 bs with
  | .ok (s, q) => if s ≤ 4294967295 then .ok ((p, s), q) else .error 3
  | .error e => .error e
def kP (bs : List Nat) : Except Int ((Pt × Nat) × List Nat) := match getP bs with
  | .ok (p, t) => kP2 p t
  | .error e => .error e
/-- All is as before, but for three blocks and new blocks. -/
structure OffX (s c1 c2 : Nat) (w w' : World) : Prop where
  os : w'.os = w.os
  tape : w'.tape = w.tape
  output : w'.output = w.output
  size : w.heap.size ≤ w'.heap.size
  block : ∀ k, k < w.heap.size → k ≠ s → k ≠ c1 → k ≠ c2 → w'.heap[k]? = w.heap[k]?
theorem OffX.ofOff {s c1 c2 : Nat} {w w' : World} (h : Off s w w') : OffX s c1 c2 w w' := ⟨h.os, h.tape, h.output, h.size, fun k hk hs _ _ => h.block k hk hs⟩
theorem OffX.trans {s c1 c2 : Nat} {a b c : World} (h : OffX s c1 c2 a b) (k : OffX s c1 c2 b c) : OffX s c1 c2 a c :=
  ⟨k.os.trans h.os, k.tape.trans h.tape, k.output.trans h.output, Nat.le_trans h.size k.size, fun i hi h1 h2 h3 => (k.block i (Nat.lt_of_lt_of_le hi h.size) h1 h2 h3).trans (h.block i hi h1 h2 h3)⟩
theorem OffX.row {s c1 c2 : Nat} {w : World} (cs : Array Value) : OffX s c1 c2 w (w.setRow c1 cs) := ⟨rfl, rfl, rfl, by simp [World.setRow], fun k _ _ h _ => setRow_other w c1 k cs h⟩
theorem OffX.cell {s c1 c2 : Nat} {w : World} (i : Nat) (v : Value) : OffX s c1 c2 w (w.setCell ⟨c2, i, none⟩ v) := ⟨rfl, rfl, rfl, by simp [World.setCell], fun k _ _ _ h => Below.heap_setCell w ⟨c2, i, none⟩ v k h⟩
theorem OffX.belowB {s c1 c2 B : Nat} {w w' : World} (h : OffX s c1 c2 w w') (hs : B ≤ s) (h1 : B ≤ c1) (h2 : B ≤ c2) (hB : B ≤ w.heap.size) : Below B w w' :=
  ⟨h.os, h.tape, h.output, h.size, fun k hk => h.block k (by omega) (by omega) (by omega) (by omega)⟩
/-- What Read's reader gives. -/
def EndQ (L s c1 c2 : Nat) (W : World) (P : Except Int ((Pt × Nat) × List Nat)) (e : Ending) (W' : World) : Prop :=
  OffX s c1 c2 W W' ∧ match P with
  | .ok ((p, n), q) => e = .returned (.tuple #[]) ∧ RdB L W' s q ∧ ∃ A c, Blk W' c1 25 (Pc.mk p A c).cells.toArray ∧ Blk W' c2 22 #[.int .u64 (n : Nat)] ∧ (Pc.mk p A c).Ok W' ∧ (∀ b o, A = some ⟨b, o, none⟩ → W.heap.size ≤ b)
  | .error x => e = .panicked [{ v := flt s, recovered := false }] ∧ Met' W' s x
theorem ok_keep {w w' : World} {x : Pc} {B : Nat} (h : x.Ok w) (hlow : ∀ b o, x.A = some ⟨b, o, none⟩ → B ≤ b) (hk : ∀ b, B ≤ b → b < w.heap.size → w'.heap[b]? = w.heap[b]?) (hs : w.heap.size ≤ w'.heap.size) : x.Ok w' := by
  refine { h with rd := h.rd.imp id ?_ }
  rintro ⟨b, o, e, h1, h2⟩
  exact ⟨b, o, e, Nat.lt_of_lt_of_le h1 hs, fun i y hi => (World.cell?_of_block (hk b (hlow b o e) h1)).trans (h2 i y hi)⟩
set_option maxHeartbeats 8000000 in
set_option maxRecDepth 20000 in
theorem cb_any {L k s c1 c2 : Nat} {W : World} {bs : List Nat} (hr : Rdr W k s) (h : RdB L W s bs) (hk : k < W.heap.size) (hL : L ≤ W.heap.size) (hlen : bs.length ≤ 140737488355328) (h256 : ∀ y ∈ bs, y < 256)
    (hc1 : Blk W c1 25 #[.bool false, .int .i64 0, .int .i64 0, .int .u64 0, .slice none 0 0]) (hc2 : Blk W c2 22 #[.int .u64 0]) (hne : c1 ≠ c2 ∧ c1 ≠ s ∧ c2 ≠ s ∧ k ≠ c1 ∧ k ≠ c2) (hcL : L ≤ c1 ∧ L ≤ c2) :
    Calls Try.prog 37 #[.pointer (some ⟨k, 0, none⟩), .pointer (some ⟨c1, 0, none⟩), .pointer (some ⟨c2, 0, none⟩)] W fun e W' => EndQ L s c1 c2 W (kP bs) e W' := by
  have HG := Lib.hid (get_any hr h hk hL hlen h256)
  have hs : s < W.heap.size := by obtain ⟨A, c, hR, _⟩ := h; exact World.block_lt_of_cell? W ⟨s, 0, none⟩ hR.1
  have HK := Lib.hid (And.intro hk (And.intro hs (And.intro hL (And.intro hne hcL))))
  have HC := Lib.hid (And.intro hc1 hc2)
  have HR := Lib.hid hr
  obtain ⟨R, hR⟩ : ∃ R, R = kP bs := ⟨_, rfl⟩
  rw [← hR]
  have hE := hR
  unfold kP at hE
  clear hR h hr hk hL hc1 hc2 hne hcL hlen h256 hs
  go_enter Try.func37, Try.ntmps37
  cases hv : getP bs with
  | error x =>
    rw [hv] at hE HG
    have HE2 := Lib.hid hE
    clear hE hv
    go_wp2_with (first | (go_at_call 38; refine HG.out.mono ?_; rintro e w9 ⟨rfl, hM, hO⟩; have HO := Lib.hid (OffX.ofOff (c1 := c1) (c2 := c2) hO); have HM := Lib.hid hM; clear hM hO))
    exact ⟨rfl, by rw [HE2.out]; exact ⟨HO.out, rfl, HM.out⟩⟩
  | ok z =>
    obtain ⟨p, t⟩ := z
    rw [hv] at hE HG
    dsimp only at hE
    have HEH := Lib.hid hE
    clear hE hv
    have HG2 := Lib.hid (HG.out.mono (R' := fun e w1 => ∃ A c, e = .returned (.agg (Pc.mk p A c).cells.toArray) ∧ Off s W w1 ∧ (Pc.mk p A c).Ok w1 ∧ (∀ b o, A = some ⟨b, o, none⟩ → W.heap.size ≤ b) ∧ RdB L w1 s t ∧ Blk w1 c1 25 #[.bool false, .int .i64 0, .int .i64 0, .int .u64 0, .slice none 0 0] ∧ Blk w1 c2 22 #[.int .u64 0]) (by
      rintro e w1 ⟨A, c, rfl, hO, ho, hl, hd⟩
      exact ⟨A, c, rfl, hO, ho, hl, hd, (hO.block c1 HC.out.1.lt HK.out.2.2.2.1.2.1).trans HC.out.1, (hO.block c2 HC.out.2.lt HK.out.2.2.2.1.2.2.1).trans HC.out.2⟩))
    clear HG
    go_upto_region 1 with (first | (go_at_call 38; refine HG2.out.mono ?_; rintro e w1 ⟨A, c, rfl, hO, ho, hl, hd, h1, h2⟩; have H1 := Lib.hid (And.intro hO (And.intro ho (And.intro hl (And.intro hd (And.intro h1 h2))))); clear hO ho hl hd h1 h2 HG2) | (refine wpList_store_blk rfl 25 _ _ rfl c1 25 #[.bool false, .int .i64 0, .int .i64 0, .int .u64 0, .slice none 0 0] (Pc.mk p A c).cells.toArray rfl rfl H1.out.2.2.2.2.1 (pcinfoA _) (pc_siz _) (pc_one _) ?_; intro b5; clear b5))
    obtain ⟨w2, hw2⟩ : ∃ w2, w2 = w1.setRow c1 (Pc.mk p A c).cells.toArray := ⟨_, rfl⟩
    have hx2 : Blk w2 c1 25 (Pc.mk p A c).cells.toArray := by rw [hw2]; exact H1.out.2.2.2.2.1.setRow _
    have ho2 : OffX s c1 c2 w1 w2 := by rw [hw2]; exact OffX.row _
    have far : ∀ b, b ≠ c1 → w2.heap[b]? = w1.heap[b]? := fun b hb => by rw [hw2]; exact setRow_other w1 c1 b _ hb
    have hz2 : w2.heap.size = w1.heap.size := by rw [hw2]; simp [World.setRow]
    rw [← hw2]
    have hz1 := H1.out.1.size
    have hc1l := HC.out.1.lt
    have hc2l := HC.out.2.lt
    have hr2 : Rdr w2 k s := ⟨(HR.out.off H1.out.1).1, (World.cell?_of_block (far k HK.out.2.2.2.1.2.2.2.1)).trans (HR.out.off H1.out.1).2⟩
    have hd2 : RdB L w2 s t := rdb_keep H1.out.2.2.2.1 (far s (fun e => HK.out.2.2.2.1.2.1 e.symm)) (fun b hb _ _ => far b (by have := HK.out.2.2.2.2.1; omega)) (by omega)
    have hx22 : Blk w2 c2 22 #[.int .u64 0] := (far c2 (fun e => HK.out.2.2.2.1.1 e.symm)).trans H1.out.2.2.2.2.2
    have hok2 : (Pc.mk p A c).Ok w2 := ok_keep H1.out.2.1 H1.out.2.2.1 (fun b hb hl => far b (by omega)) (by omega)
    have H2 := Lib.hid (And.intro ((OffX.ofOff H1.out.1).trans ho2) (And.intro hr2 (And.intro hd2 (And.intro hx2 (And.intro hx22 (And.intro hok2 (show W.heap.size ≤ w2.heap.size by omega)))))))
    have HLOW := Lib.hid H1.out.2.2.1
    clear hw2 ho2 far hz2 hz1 hc1l hc2l hr2 hd2 hx22 hok2 hx2 H1
    have HD := Lib.hid (rnum_any k s t w2 H2.out.2.1 H2.out.2.2.1)
    have hE := HEH.out
    clear HEH
    unfold kP2 at hE
    cases hv : numP true 0 t with
    | error x =>
      rw [hv] at hE HD
      have HE2 := Lib.hid hE
      clear hE hv
      go_wp2_with (first | (go_at_call 39; refine HD.out.mono ?_; rintro e w9 ⟨hO, rfl, hM⟩; have HO := Lib.hid (H2.out.1.trans (OffX.ofOff hO)); have HM := Lib.hid hM; clear hM hO))
      exact ⟨rfl, by rw [HE2.out]; exact ⟨HO.out, rfl, HM.out⟩⟩
    | ok z =>
      obtain ⟨n, q⟩ := z
      rw [hv] at hE HD
      dsimp only at hE
      have HEH := Lib.hid hE
      clear hE hv
      go_upto_region 1 with fail
      go_upto_region 2 with (first | (go_at_call 39; refine HD.out.mono ?_; rintro e w3 ⟨hO, rfl, hM⟩; have H3 := Lib.hid (And.intro hO (And.intro hM (show Blk w3 c2 22 #[.int .u64 0] from (hO.block c2 H2.out.2.2.2.2.1.lt HK.out.2.2.2.1.2.2.1).trans H2.out.2.2.2.2.1))); have c9 := H3.out.2.2.cell 0; have z9 := H3.out.2.2.frozen 0; clear hM hO))
      clear c9 z9 HD
      obtain ⟨w4, hw4⟩ : ∃ w4, w4 = w3.setCell ⟨c2, 0, none⟩ (.int .u64 (n : Nat)) := ⟨_, rfl⟩
      have far : ∀ b, b ≠ c2 → w4.heap[b]? = w3.heap[b]? := fun b hb => by rw [hw4]; exact Below.heap_setCell w3 ⟨c2, 0, none⟩ _ b hb
      have hz4 : w4.heap.size = w3.heap.size := by rw [hw4]; simp [World.setCell]
      have hx4 : Blk w4 c2 22 #[.int .u64 (n : Nat)] := by rw [hw4]; exact H3.out.2.2.setCell 0 _
      have ho4 : OffX s c1 c2 w3 w4 := by rw [hw4]; exact OffX.cell 0 _
      rw [← hw4]
      have hz3 := H3.out.1.size
      have hc1l := HC.out.1.lt
      have hc2l := HC.out.2.lt
      have hr4 : Rdr w4 k s := ⟨(H2.out.2.1.off H3.out.1).1, (World.cell?_of_block (far k HK.out.2.2.2.1.2.2.2.2)).trans (H2.out.2.1.off H3.out.1).2⟩
      have hd4 : RdB L w4 s q := rdb_keep H3.out.2.1 (far s (fun e => HK.out.2.2.2.1.2.2.1 e.symm)) (fun b hb _ _ => far b (by have := HK.out.2.2.2.2.2; omega)) (by omega)
      have hx14 : Blk w4 c1 25 (Pc.mk p A c).cells.toArray := (far c1 HK.out.2.2.2.1.1).trans ((H3.out.1.block c1 H2.out.2.2.2.1.lt HK.out.2.2.2.1.2.1).trans H2.out.2.2.2.1)
      have hs2 := HK.out.2.1
      have hsz := H2.out.2.2.2.2.2.2
      have hok4 : (Pc.mk p A c).Ok w4 := ok_keep H2.out.2.2.2.2.2.1 HLOW.out (fun b hb hl => (far b (by omega)).trans (H3.out.1.block b hl (by omega))) (by omega)
      have H4 := Lib.hid (And.intro (H2.out.1.trans ((OffX.ofOff H3.out.1).trans ho4)) (And.intro hr4 (And.intro hd4 (And.intro hx14 (And.intro hx4 hok4)))))
      have c20 : w4.cell? ⟨c2, 0, none⟩ = some (.int .u64 (n : Nat)) := hx4.cell 0
      clear hw4 far hz4 ho4 hz3 hc1l hc2l hr4 hd4 hx14 hok4 hx4 hs2 hsz H3 H2
      have hE := HEH.out
      clear HEH
      by_cases hn : n ≤ 4294967295
      · have hn1 : (n : Int) ≤ 4294967295 := by omega
        rw [if_pos hn] at hE
        have HE2 := Lib.hid hE
        clear hE hn
        go_wp2_with (first | (go_at_call 40; refine (rmust_yes k s q _ H4.out.2.1 H4.out.2.2.1).mono ?_; rintro e w9 ⟨rfl, rfl⟩))
        exact ⟨rfl, .tuple #[], by simp [results, Try.results37, go_sem], by rw [HE2.out]; exact ⟨H4.out.1, rfl, H4.out.2.2.1, A, c, H4.out.2.2.2.1, H4.out.2.2.2.2.1, H4.out.2.2.2.2.2, HLOW.out⟩⟩
      · have hn1 : ¬ (n : Int) ≤ 4294967295 := by omega
        rw [if_neg hn] at hE
        have HE2 := Lib.hid hE
        clear hE hn
        go_wp2_with (first | (go_at_call 40; refine (rmust_not k s q _ H4.out.2.1 H4.out.2.2.1).mono ?_; rintro e w9 ⟨rfl, hM, hO⟩; have HO := Lib.hid (H4.out.1.trans (OffX.ofOff hO)); have HM := Lib.hid hM; clear hM hO))
        exact ⟨rfl, by rw [HE2.out]; exact ⟨HO.out, rfl, HM.out⟩⟩
end Pk
end Go.Proofs.Ytbgjghgmdhnhbaa
