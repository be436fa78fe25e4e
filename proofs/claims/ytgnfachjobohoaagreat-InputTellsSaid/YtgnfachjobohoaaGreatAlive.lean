/-
The fixed calls of layer 3.
-/
import Derived.Test.YtgnfachjobohoaaGreatStr
import Derived.Test.YtgnfachjobohoaaGreatStore
namespace Go.Proofs.YtgnfachjobohoaaGreat
open Go.RowKit
variable {L : Nat}

def aliveBs : List Nat := [130, 44, 1, 1, 97, 2, 0, 5]
theorem al_num : numP true 0 aliveBs = .ok (300, [1, 1, 97, 2, 0, 5]) := by rfl
theorem al_int : intP [1, 1, 97, 2, 0, 5] = .ok (-1, [1, 97, 2, 0, 5]) := by rfl
theorem al_text : textP 9 [1, 97, 2, 0, 5] = .ok ([97], [2, 0, 5]) := by rfl
theorem al_vec : vectorP [2, 0, 5] = .ok ([0, 5], []) := by rfl

theorem text_src {w : World} {B : Nat} {v : Value} {bs : List Nat} (h : w.ownsRow B 5 1 v bs.length (u8s bs)) {s : Nat} (hs : s < B) : ∃ A c, v = .slice A bs.length c ∧ Src w A bs.length (u8s bs) ∧ ∀ w', Off s w w' → Src w' A bs.length (u8s bs) := by
  obtain ⟨hl, ⟨rfl, h0⟩ | ⟨k, cap, cur, rfl, hk, hh, hnc, hm, hsz, hcs⟩⟩ := id h
  · have hb0 : bs = [] := List.length_eq_zero_iff.1 h0
    subst hb0
    exact ⟨none, 0, rfl, Or.inr ⟨rfl, rfl, rfl⟩, fun _ _ => Or.inr ⟨rfl, rfl, rfl⟩⟩
  · have hlt : k < w.heap.size := by
      rcases Nat.lt_or_ge k w.heap.size with h1 | h1
      · exact h1
      · rw [Array.getElem?_eq_none h1] at hh; cases hh
    refine ⟨_, _, rfl, Or.inl ⟨_, rfl, h.cells rfl⟩, fun w' hO => Or.inl ⟨_, rfl, fun j u hj => ?_⟩⟩
    have := h.cells rfl j u hj
    rw [add_plain] at this ⊢
    rw [hO.cell (p := ⟨k, 0 + j, none⟩) hlt (by show k ≠ s; omega)]
    exact this

/-- All is as before, but for block s, four blocks from c on, and new blocks. -/
def Off4 (s c : Nat) (w w' : World) : Prop := w'.os = w.os ∧ w'.tape = w.tape ∧ w'.output = w.output ∧ w.heap.size ≤ w'.heap.size ∧ ∀ k, k < w.heap.size → k ≠ s → (k < c ∨ c + 3 < k) → w'.heap[k]? = w.heap[k]?
/-- What was read. -/
def Al (c : Nat) (W : World) : Prop := Blk W c 25 #[.int .u64 300] ∧ Blk W (c + 1) 3 #[.int .i64 (-1)] ∧ Blk W (c + 2) 9 #[.string (bstr [97])] ∧ Blk W (c + 3) 24 (vl (lv [0, 5])).toArray
theorem RdB.nil_of {W W' : World} {s : Nat} (h : RdB L W s []) (hs : W'.heap[s]? = W.heap[s]?) : RdB L W' s [] := by
  obtain ⟨A, c, ⟨h0, h1, h2, h3⟩, hl, _⟩ := h
  have hc : ∀ j, W'.cell? ⟨s, j, none⟩ = W.cell? ⟨s, j, none⟩ := fun j => by simp only [World.cell?]; rw [hs]
  have hz : ∀ j, W'.frozen? ⟨s, j, none⟩ = W.frozen? ⟨s, j, none⟩ := fun j => by simp only [World.frozen?]; rw [hs]
  exact ⟨A, c, ⟨(hc 0).trans h0, (hc 1).trans h1, (hc 2).trans h2, fun j => (hz j).trans (h3 j)⟩, hl, Or.inl rfl⟩
theorem al_end {s c : Nat} {W w4 : World} {cs : Array Value} (hs : c + 3 < s) (hO : Off s W w4) (hR : RdB L w4 s []) (b1 : Blk w4 c 25 #[.int .u64 0]) (b2 : Blk w4 (c + 1) 3 #[.int .i64 0]) (b3 : Blk w4 (c + 2) 9 #[.string ⟨#[]⟩]) (b4 : Blk w4 (c + 3) 24 cs) (X : World)
    (hX : X = (((w4.setCell ⟨c, 0, none⟩ (.int .u64 300)).setCell ⟨c + 1, 0, none⟩ (.int .i64 (-1))).setCell ⟨c + 2, 0, none⟩ (.string (bstr [97]))).setRow (c + 3) (vl (lv [0, 5])).toArray) :
    RdB L X s [] ∧ Al c X ∧ Off4 s c W X := by
  have hk : ∀ k, (k < c ∨ c + 3 < k) → X.heap[k]? = w4.heap[k]? := fun k hk => by
    rw [hX, setRow_other _ _ _ _ (by omega), Below.heap_setCell _ _ _ _ (by show k ≠ c + 2; omega), Below.heap_setCell _ _ _ _ (by show k ≠ c + 1; omega), Below.heap_setCell _ _ _ _ (by show k ≠ c; omega)]
  refine ⟨hR.nil_of (hk s (by omega)), ?_, ?_⟩
  · subst hX
    refine ⟨?_, ?_, ?_, ?_⟩
    · refine Blk.farRow (Blk.far (Blk.far (b1.setCell 0 _) ?_ _) ?_ _) ?_ _
      · show c ≠ c + 1; omega
      · show c ≠ c + 2; omega
      · omega
    · refine Blk.farRow (Blk.far ((b2.far ?_ _).setCell 0 _) ?_ _) ?_ _
      · show c + 1 ≠ c; omega
      · show c + 1 ≠ c + 2; omega
      · omega
    · refine Blk.farRow (((b3.far ?_ _).far ?_ _).setCell 0 _) ?_ _
      · show c + 2 ≠ c; omega
      · show c + 2 ≠ c + 1; omega
      · omega
    · refine Blk.setRow (((b4.far ?_ _).far ?_ _).far ?_ _) _
      · show c + 3 ≠ c; omega
      · show c + 3 ≠ c + 1; omega
      · show c + 3 ≠ c + 2; omega
  · refine ⟨by rw [hX]; exact hO.os, by rw [hX]; exact hO.tape, by rw [hX]; exact hO.output, by rw [hX]; simpa [World.setCell] using hO.size, fun k h1 h2 h3 => (hk k h3).trans (hO.block k h1 h2)⟩

/-- Read of bytes, by a function whose end is this. -/
theorem read_off (A : Option Addr) (n c F : Nat) (W : World) (bs : List Nat) (r : Except Int (List Nat))
    (hcf : ∀ args w, (callFunc F args).run Tryz.prog w = .ok (.enter F args) w)
    (hn : bs.length = n) (hnc : n ≤ c) (hbs : bs = [] ∨ ∃ b p, A = some ⟨b, p, none⟩ ∧ b < W.heap.size ∧ ∀ (i x : Nat), bs[i]? = some x → W.cell? ⟨b, p + i, none⟩ = some (.int .u8 (x : Nat)))
    (HF : ∀ (W1 : World) (k s : Nat), Rdr W1 k s → RdB W.heap.size W1 s bs → Calls Tryz.prog F #[.pointer (some ⟨k, 0, none⟩)] W1 fun e W2 =>
      Off s W1 W2 ∧ match r with
      | .ok t => e = .returned (.tuple #[]) ∧ RdB W.heap.size W2 s t
      | .error x => x ≠ 0 ∧ e = .panicked [{ v := flt s, recovered := false }] ∧ Met' W2 s x) :
    Calls Tryz.prog 20 #[.slice A n c, .func (.func F) #[] #[]] W fun e W' => e = .returned (.int .i64 (readE r)) ∧ Below W.heap.size W W' := by
  refine (read_any (L := W.heap.size) A n c F #[] W bs (fun r' W2 => r' = r ∧ Below W.heap.size W W2) hcf hn hnc (Nat.le_refl _) hbs ?_).mono ?_
  · intro W1 k s hb hs hk hs1 _ hR hB
    refine (HF W1 k s hR hB).mono ?_
    rintro e W2 ⟨hO, h⟩
    have hb2 : Below W.heap.size W W2 := hb.trans (hO.belowB hs hb.size)
    refine ⟨fun b _ h2 h3 => hO.block b h2 h3, ?_⟩
    match r, h with
    | .ok t, ⟨h1, h2⟩ => exact Or.inl ⟨t, h1, h2, rfl, hb2⟩
    | .error x, ⟨h0, h1, h2⟩ => exact Or.inr ⟨x, h0, h1, h2, rfl, hb2⟩
  · rintro e W' ⟨r', W2, ⟨rfl, h2⟩, h3, h4⟩
    exact ⟨h3, h2.trans h4⟩
end Go.Proofs.YtgnfachjobohoaaGreat
