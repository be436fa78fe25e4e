/-
The fixed calls of layer 3.
-/
import Derived.Test.YtnoeogbihjpacaaStr
import Derived.Test.YtnoeogbihjpacaaStore
namespace Go.Proofs.Ytnoeogbihjpacaa
open Go.RowKit
variable {L : Nat}

def aliveBs : List Nat := [130, 44, 1, 1, 97, 2, 0, 5]
theorem al_num : numP true 0 aliveBs = .ok (300, [1, 1, 97, 2, 0, 5]) := by rfl
theorem al_int : intP [1, 1, 97, 2, 0, 5] = .ok (-1, [1, 97, 2, 0, 5]) := by rfl
theorem al_text : textP 9 [1, 97, 2, 0, 5] = .ok ([97], [2, 0, 5]) := by rfl
theorem al_vec : vectorP [2, 0, 5] = .ok ([0, 5], []) := by rfl

theorem text_src {w : World} {B : Nat} {v : Value} {bs : List Nat} (h : w.ownsRow B 5 1 v bs.length (u8s bs)) {s : Nat} (hs : s < B) : ∃ A c, v = .slice A bs.length c ∧ Src w A bs.length (u8s bs) ∧ ∀ w', Off s w w' → Src w' A bs.length (u8s bs) := by
  obtain ⟨hl, ⟨rfl, h0⟩ | ⟨k, cap, cur, rfl, hk, hh, hnc, hm, hsz, hcs⟩⟩ := id h
  · have hb0 : bs = [] := List.length_eq_zero_iff.1 h0
    subst hb0
    exact ⟨none, 0, rfl, Or.inr ⟨rfl, rfl, rfl⟩, fun _ _ => Or.inr ⟨rfl, rfl, rfl⟩⟩
  · have hlt : k < w.heap.size := by
      rcases Nat.lt_or_ge k w.heap.size with h1 | h1
      · exact h1
      · rw [Array.getElem?_eq_none h1] at hh; cases hh
    refine ⟨_, _, rfl, Or.inl ⟨_, rfl, h.cells rfl⟩, fun w' hO => Or.inl ⟨_, rfl, fun j u hj => ?_⟩⟩
    have := h.cells rfl j u hj
    rw [add_plain] at this ⊢
    rw [hO.cell (p := ⟨k, 0 + j, none⟩) hlt (by show k ≠ s; omega)]
    exact this

/-- All is as before, but for block s, four blocks from c on, and new blocks. -/
def Off4 (s c : Nat) (w w' : World) : Prop := w'.os = w.os ∧ w'.tape = w.tape ∧ w'.output = w.output ∧ w.heap.size ≤ w'.heap.size ∧ ∀ k, k < w.heap.size → k ≠ s → (k < c ∨ c + 3 < k) → w'.heap[k]? = w.heap[k]?
/-- What was read. -/
def Al (c : Nat) (W : World) : Prop := Blk W c 27 #[.int .u64 300] ∧ Blk W (c + 1) 3 #[.int .i64 (-1)] ∧ Blk W (c + 2) 9 #[.string (bstr [97])] ∧ Blk W (c + 3) 30 (vl (lv [0, 5])).toArray
theorem RdB.nil_of {W W' : World} {s : Nat} (h : RdB L W s []) (hs : W'.heap[s]? = W.heap[s]?) : RdB L W' s [] := by
  obtain ⟨A, c, ⟨h0, h1, h2, h3⟩, hl, _⟩ := h
  have hc : ∀ j, W'.cell? ⟨s, j, none⟩ = W.cell? ⟨s, j, none⟩ := fun j => by simp only [World.cell?]; rw [hs]
  have hz : ∀ j, W'.frozen? ⟨s, j, none⟩ = W.frozen? ⟨s, j, none⟩ := fun j => by simp only [World.frozen?]; rw [hs]
  exact ⟨A, c, ⟨(hc 0).trans h0, (hc 1).trans h1, (hc 2).trans h2, fun j => (hz j).trans (h3 j)⟩, hl, Or.inl rfl⟩
theorem al_end {s c : Nat} {W w4 : World} {cs : Array Value} (hs : c + 3 < s) (hO : Off s W w4) (hR : RdB L w4 s []) (b1 : Blk w4 c 27 #[.int .u64 0]) (b2 : Blk w4 (c + 1) 3 #[.int .i64 0]) (b3 : Blk w4 (c + 2) 9 #[.string ⟨#[]⟩]) (b4 : Blk w4 (c + 3) 30 cs) (X : World)
    (hX : X = (((w4.setCell ⟨c, 0, none⟩ (.int .u64 300)).setCell ⟨c + 1, 0, none⟩ (.int .i64 (-1))).setCell ⟨c + 2, 0, none⟩ (.string (bstr [97]))).setRow (c + 3) (vl (lv [0, 5])).toArray) :
    RdB L X s [] ∧ Al c X ∧ Off4 s c W X := by
  have hk : ∀ k, (k < c ∨ c + 3 < k) → X.heap[k]? = w4.heap[k]? := fun k hk => by
    rw [hX, setRow_other _ _ _ _ (by omega), Below.heap_setCell _ _ _ _ (by show k ≠ c + 2; omega), Below.heap_setCell _ _ _ _ (by show k ≠ c + 1; omega), Below.heap_setCell _ _ _ _ (by show k ≠ c; omega)]
  refine ⟨hR.nil_of (hk s (by omega)), ?_, ?_⟩
  · subst hX
    refine ⟨?_, ?_, ?_, ?_⟩
    · refine Blk.farRow (Blk.far (Blk.far (b1.setCell 0 _) ?_ _) ?_ _) ?_ _
      · show c ≠ c + 1; omega
      · show c ≠ c + 2; omega
      · omega
    · refine Blk.farRow (Blk.far ((b2.far ?_ _).setCell 0 _) ?_ _) ?_ _
      · show c + 1 ≠ c; omega
      · show c + 1 ≠ c + 2; omega
      · omega
    · refine Blk.farRow (((b3.far ?_ _).far ?_ _).setCell 0 _) ?_ _
      · show c + 2 ≠ c; omega
      · show c + 2 ≠ c + 1; omega
      · omega
    · refine Blk.setRow (((b4.far ?_ _).far ?_ _).far ?_ _) _
      · show c + 3 ≠ c; omega
      · show c + 3 ≠ c + 1; omega
      · show c + 3 ≠ c + 2; omega
  · refine ⟨by rw [hX]; exact hO.os, by rw [hX]; exact hO.tape, by rw [hX]; exact hO.output, by rw [hX]; simpa [World.setCell] using hO.size, fun k h1 h2 h3 => (hk k h3).trans (hO.block k h1 h2)⟩

set_option maxRecDepth 20000 in
set_option maxHeartbeats 4000000 in
theorem alive1_any (k s c : Nat) (W : World) (hr : Rdr W k s) (h : RdB L W s aliveBs) (hL : L ≤ W.heap.size) (hs : c + 3 < s)
    (h1 : Blk W c 27 #[.int .u64 0]) (h2 : Blk W (c + 1) 3 #[.int .i64 0]) (h3 : Blk W (c + 2) 9 #[.string ⟨#[]⟩]) (h4 : Blk W (c + 3) 30 #[.int .u32 0, .int .u32 0, .int .u32 0, .int .u32 0, .int .u32 0, .int .u32 0, .int .u32 0, .int .u32 0, .int .u32 0, .int .u32 0, .int .u32 0, .int .u32 0]) :
    Calls Try.prog 59 #[.pointer (some ⟨k, 0, none⟩), .pointer (some ⟨c, 0, none⟩), .pointer (some ⟨c + 1, 0, none⟩), .pointer (some ⟨c + 2, 0, none⟩), .pointer (some ⟨c + 3, 0, none⟩)] W fun e W2 => e = .returned (.tuple #[]) ∧ RdB L W2 s [] ∧ Al c W2 ∧ Off4 s c W W2 := by
  have hslt := h.lt
  have HR := Lib.hid (show Rdr W.drew k s from hr)
  have HB := Lib.hid (show RdB L W.drew s aliveBs from h)
  have HL := Lib.hid hL
  have H1 := Lib.hid h1
  have H2 := Lib.hid h2
  have H3 := Lib.hid h3
  have H4 := Lib.hid (show Blk W (c + 3) 30 (vl fun _ => 0).toArray by rw [vl_zero]; exact h4)
  clear hr h hL h1 h2 h3 h4
  go_enter Try.func59, Try.ntmps59
  refine wp_region_tree (S := fun _ => True) (.take 0 (.take 2 (.take 4 (.take 7 (.one 1 (.one 3 (.one 5 (.two 6 (.one 8 (.one 9 (.one 10 (.one 11 (.one 12 .nil))))) 8 (.one 6 (.one 9 (.one 10 (.one 11 (.one 12 .nil))))))))))))) 9999 (by kernel_rfl) (by kernel_rfl) (by kernel_rfl) (by kernel_rfl) (by kernel_rfl) (fun _ _ d _ _ h => by cases d <;> exact h) trivial (fun _ => ?_); simp only [Tree.map, List.getElem?_toArray, List.getElem?_cons_zero, List.getElem?_cons_succ]
  (repeat' (first | (refine wpTree.take (v := undef) (Or.inr ⟨by rfl, rfl⟩) ?_; simp only [Act.put, List.setIfInBounds_toArray, List.set_cons_zero, List.set_cons_succ]) | (refine wpTree.take (v := ?_) (Or.inl ⟨by rfl, ?_⟩) ?_; rotate_left; (focus (intro _ _; go_simp; (try (with_reducible rfl)); done)); simp only [Act.put, List.setIfInBounds_toArray, List.set_cons_zero, List.set_cons_succ]) | (refine wpTree.two ?_ ?_) | (refine wpTree.one (fun K hK => ?_); (first | (first | (go_at_call 20; have X := rnum_any k s _ _ HR.out HB.out; rw [al_num] at X; refine X.mono ?_; clear X; rintro e w1 ⟨hO1, rfl, hB1⟩; have HR1 := Lib.hid (HR.out.off hO1); have HB1 := Lib.hid hB1; have HO1 := Lib.hid hO1; clear hB1 hO1) | (go_at_call 22; have X := rint_any k s _ _ HR1.out HB1.out; rw [al_int] at X; refine X.mono ?_; clear X; rintro e w2 ⟨hO2, rfl, hB2⟩; have HR2 := Lib.hid (HR1.out.off hO2); have HB2 := Lib.hid hB2; have HO2 := Lib.hid (HO1.out.trans hO2); clear hB2 hO2) | (go_at_call 24; have X := rtext_any k s _ 9 _ HR2.out HB2.out (by omega) (by simp); rw [al_text] at X; refine X.mono ?_; clear X; rintro e w3 ⟨hO3, ⟨v3, rfl, hown⟩, hB3⟩; obtain ⟨A3, c3, rfl, hS3, hK3⟩ := text_src hown (s := s) HB2.out.lt; have cv := conv_src w3 A3 1 c3 [97] hS3 rfl (by simp); have HK3 := Lib.hid hK3; have HR3 := Lib.hid (HR2.out.off hO3); have HB3 := Lib.hid hB3; have HO3 := Lib.hid (HO2.out.trans hO3); clear hB3 hO3 hown hS3 hK3)  | (go_at_call 28; have X := rvector_any k s _ _ (Nat.le_trans HL.out HO3.out.size) HR3.out HB3.out; rw [al_vec] at X; refine X.mono ?_; clear X; rintro e w4 ⟨hO4, rfl, hB4⟩; have cv4 := conv_src w4 A3 1 c3 [97] (HK3.out w4 hO4) rfl (by simp); have HB4 := Lib.hid hB4; have HO4 := Lib.hid (HO3.out.trans hO4); clear hB4 hO4; have b1 := HO4.out.blk H1.out (by omega); have b2 := HO4.out.blk H2.out (by omega); have b3 := HO4.out.blk H3.out (by omega); have b4 := HO4.out.blk H4.out (by omega); have k1 := b1.cell 0; have k2 := b2.cell 0; have k3 := b3.cell 0; have z1 := b1.frozen 0; have z2 := b2.frozen 0; have z3 := b3.frozen 0)) | go_simp); (try (first | (go_at_call 20; have X := rnum_any k s _ _ HR.out HB.out; rw [al_num] at X; refine X.mono ?_; clear X; rintro e w1 ⟨hO1, rfl, hB1⟩; have HR1 := Lib.hid (HR.out.off hO1); have HB1 := Lib.hid hB1; have HO1 := Lib.hid hO1; clear hB1 hO1) | (go_at_call 22; have X := rint_any k s _ _ HR1.out HB1.out; rw [al_int] at X; refine X.mono ?_; clear X; rintro e w2 ⟨hO2, rfl, hB2⟩; have HR2 := Lib.hid (HR1.out.off hO2); have HB2 := Lib.hid hB2; have HO2 := Lib.hid (HO1.out.trans hO2); clear hB2 hO2) | (go_at_call 24; have X := rtext_any k s _ 9 _ HR2.out HB2.out (by omega) (by simp); rw [al_text] at X; refine X.mono ?_; clear X; rintro e w3 ⟨hO3, ⟨v3, rfl, hown⟩, hB3⟩; obtain ⟨A3, c3, rfl, hS3, hK3⟩ := text_src hown (s := s) HB2.out.lt; have cv := conv_src w3 A3 1 c3 [97] hS3 rfl (by simp); have HK3 := Lib.hid hK3; have HR3 := Lib.hid (HR2.out.off hO3); have HB3 := Lib.hid hB3; have HO3 := Lib.hid (HO2.out.trans hO3); clear hB3 hO3 hown hS3 hK3)  | (go_at_call 28; have X := rvector_any k s _ _ (Nat.le_trans HL.out HO3.out.size) HR3.out HB3.out; rw [al_vec] at X; refine X.mono ?_; clear X; rintro e w4 ⟨hO4, rfl, hB4⟩; have cv4 := conv_src w4 A3 1 c3 [97] (HK3.out w4 hO4) rfl (by simp); have HB4 := Lib.hid hB4; have HO4 := Lib.hid (HO3.out.trans hO4); clear hB4 hO4; have b1 := HO4.out.blk H1.out (by omega); have b2 := HO4.out.blk H2.out (by omega); have b3 := HO4.out.blk H3.out (by omega); have b4 := HO4.out.blk H4.out (by omega); have k1 := b1.cell 0; have k2 := b2.cell 0; have k3 := b3.cell 0; have z1 := b1.frozen 0; have z2 := b2.frozen 0; have z3 := b3.frozen 0))); refine hK.out _ _ trivial (fun _ => ?_); clear hK K)))
  all_goals
    refine wpTree.one (fun K hK => ?_)
    have b4' := ((b4.far (p := ⟨c, 0, none⟩) (by show c + 3 ≠ c; omega) (.int .u64 300)).far (p := ⟨c + 1, 0, none⟩) (by show c + 3 ≠ c + 1; omega) (.int .i64 (-1))).far (p := ⟨c + 2, 0, none⟩) (by show c + 3 ≠ c + 2; omega) (.string (bstr [97]))
    refine step_store_blk (by rfl) 30 _ _ rfl _ 30 (vl fun _ => 0).toArray (vl _).toArray rfl rfl b4' (vinfo _) ((vl_size _).trans (vl_size _).symm) (vl_all _) ?_
    refine hK.out _ _ trivial (fun _ => ?_)
    clear hK K
    refine wpTree.done ?_
    have HX := Lib.hid (al_end hs (Off.mk HO4.out.os HO4.out.tape HO4.out.output HO4.out.size HO4.out.block : Off s W w4) HB4.out b1 b2 b3 b4 _ rfl)
    clear b1 b2 b3 b4 b4' k1 k2 k3 z1 z2 z3 cv cv4
    go_wp2_with fail
    refine ⟨rfl, .tuple #[], by simp [results, Try.results59, go_sem], rfl, HX.out⟩

theorem alive2_any (k s : Nat) (W : World) (hr : Rdr W k s) (h : RdB L W s [128, 0]) :
    Calls Try.prog 60 #[.pointer (some ⟨k, 0, none⟩)] W fun e W2 => e = .panicked [{ v := flt s, recovered := false }] ∧ Met' W2 s 3 ∧ Off s W W2 := by
  have X := rnum_any k s _ W hr h
  rw [show numP true 0 [128, 0] = .error 3 from rfl] at X
  have HX := Lib.hid X
  clear X h hr
  go_enter Try.func60, Try.ntmps60
  go_wp2_with (go_at_call 20; refine HX.out.mono ?_; rintro e w1 ⟨hO1, rfl, hM⟩)
  exact ⟨rfl, rfl, hM, hO1⟩
theorem alive3_any (k s : Nat) (W : World) (hr : Rdr W k s) (h : RdB L W s [1, 2]) :
    Calls Try.prog 61 #[.pointer (some ⟨k, 0, none⟩)] W fun e W2 => e = .returned (.tuple #[]) ∧ RdB L W2 s [2] ∧ Off s W W2 := by
  have X := rnum_any k s _ W hr h
  rw [show numP true 0 [1, 2] = .ok (1, [2]) from rfl] at X
  have HX := Lib.hid X
  clear X h hr
  go_enter Try.func61, Try.ntmps61
  go_wp2_with (go_at_call 20; refine HX.out.mono ?_; rintro e w1 ⟨hO1, rfl, hB⟩)
  exact ⟨rfl, .tuple #[], by simp [results, Try.results61, go_sem], rfl, hB, hO1⟩

/-- Read of bytes, by a function whose end is this. -/
theorem read_off (A : Option Addr) (n c F : Nat) (W : World) (bs : List Nat) (r : Except Int (List Nat))
    (hcf : ∀ args w, (callFunc F args).run Try.prog w = .ok (.enter F args) w)
    (hn : bs.length = n) (hnc : n ≤ c) (hbs : bs = [] ∨ ∃ b p, A = some ⟨b, p, none⟩ ∧ b < W.heap.size ∧ ∀ (i x : Nat), bs[i]? = some x → W.cell? ⟨b, p + i, none⟩ = some (.int .u8 (x : Nat)))
    (HF : ∀ (W1 : World) (k s : Nat), Rdr W1 k s → RdB W.heap.size W1 s bs → Calls Try.prog F #[.pointer (some ⟨k, 0, none⟩)] W1 fun e W2 =>
      Off s W1 W2 ∧ match r with
      | .ok t => e = .returned (.tuple #[]) ∧ RdB W.heap.size W2 s t
      | .error x => x ≠ 0 ∧ e = .panicked [{ v := flt s, recovered := false }] ∧ Met' W2 s x) :
    Calls Try.prog 17 #[.slice A n c, .func (.func F) #[] #[]] W fun e W' => e = .returned (.int .i64 (readE r)) ∧ Below W.heap.size W W' := by
  refine (read_any (L := W.heap.size) A n c F #[] W bs (fun r' W2 => r' = r ∧ Below W.heap.size W W2) hcf hn hnc (Nat.le_refl _) hbs ?_).mono ?_
  · intro W1 k s hb hs hk hs1 _ hR hB
    refine (HF W1 k s hR hB).mono ?_
    rintro e W2 ⟨hO, h⟩
    have hb2 : Below W.heap.size W W2 := hb.trans (hO.belowB hs hb.size)
    refine ⟨fun b _ h2 h3 => hO.block b h2 h3, ?_⟩
    match r, h with
    | .ok t, ⟨h1, h2⟩ => exact Or.inl ⟨t, h1, h2, rfl, hb2⟩
    | .error x, ⟨h0, h1, h2⟩ => exact Or.inr ⟨x, h0, h1, h2, rfl, hb2⟩
  · rintro e W' ⟨r', W2, ⟨rfl, h2⟩, h3, h4⟩
    exact ⟨h3, h2.trans h4⟩
end Go.Proofs.Ytnoeogbihjpacaa
