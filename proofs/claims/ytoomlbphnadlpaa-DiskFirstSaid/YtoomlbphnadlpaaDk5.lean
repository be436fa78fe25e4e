/-
disk: Waits, Crash, Flush.
-/
import Derived.Test.YtoomlbphnadlpaaDk4
namespace Go.Proofs.Ytoomlbphnadlpaa
open Go.RowKit Go.Shelf
open Byt
set_option linter.unusedSimpArgs false
set_option linter.unusedVariables false

theorem Kx.below {X : Nat → Prop} {W W' : World} (hb : Below W.heap.size W W') : Kx X W W' :=
  ⟨hb.size, fun k cs t z _ hk => (hb.block k (by
    rcases Nat.lt_or_ge k W.heap.size with h | h
    · exact h
    · rw [Array.getElem?_eq_none h] at hk; cases hk)).trans hk⟩
theorem flat_take_len (ws : List Wt) (h : ∀ x ∈ ws, x.bs.length ≤ 262144) : ∀ k, (flat (ws.take k)).length ≤ 262144 * k
  | 0 => by simp [flat]
  | k + 1 => by
    have := flat_take_len ws h k
    rcases Nat.lt_or_ge k ws.length with hk | hk
    · have hx : ws[k]? = some ws[k] := List.getElem?_eq_getElem hk
      rw [flat_take hx, List.length_append, puts_len]
      have := h _ (List.getElem_mem hk)
      omega
    · rw [List.take_of_length_le (by omega)]
      rw [List.take_of_length_le hk] at this
      omega
section
variable {W : World} {B d : Nat} {F : Nat → Prop} {h n : Nat} {v : Value} {has : List Nat} {ws : List Wt} {fl wr : Int}
theorem Dk.bs_len (D : Dk W B d F h n v has ws fl wr) : ∀ x ∈ ws, x.bs.length ≤ 262144 := fun x hx => by
  have := (D.at_ x hx).1
  have := D.big
  omega
set_option maxRecDepth 20000 in
theorem waits_any (D : Dk W B d F h n v has ws fl wr) (hlen : ws.length ≤ 100000) : Calls Try.prog 11 #[.pointer (some ⟨d, 0, none⟩)] W fun e W' => e = .returned (.int .i64 ((flat ws).length : Nat)) ∧ Below W.heap.size W W' := by
  have c1 := D.c1
  have hbl := D.bs_len
  rcases D.reads (X := fun _ => False) (fun _ _ _ h => h) with ⟨rfl, rfl⟩ | ⟨g, cap, rfl, hR⟩
  · clear D hbl hlen
    go_enter Try.func11, Try.ntmps11
    go_wp2_with fail
    go_loopw [3, 13] (fun v i wr => v = .int .i64 0 ∧ i = .int .i64 0 ∧ Below W.heap.size W wr) (fun _ _ _ => 0)
    case atStart => exact ⟨rfl, rfl, Below.refl _ _⟩
    case round =>
      obtain ⟨rfl, rfl, hB⟩ := hrel
      go_wp2_with fail
      go_ret
      exact ⟨rfl, hB⟩
  · clear D
    have HBL := Lib.hid hbl
    clear hbl
    go_enter Try.func11, Try.ntmps11
    go_wp2_with fail
    go_loopw [3, 13] (fun v i wr => ∃ k : Nat, k ≤ ws.length ∧ i = .int .i64 k ∧ v = .int .i64 ((flat (ws.take k)).length : Nat) ∧ Below W.heap.size W wr) (fun _ i _ => ws.length - (intOf i).toNat)
    case atStart => exact ⟨0, Nat.zero_le _, rfl, rfl, Below.refl _ _⟩
    case round =>
      obtain ⟨k, hk, rfl, rfl, hB⟩ := hrel
      by_cases hlt : k < ws.length
      · obtain ⟨x, hx⟩ : ∃ x, ws[k]? = some x := ⟨_, List.getElem?_eq_getElem hlt⟩
        have hRs := hR.keep (Kx.below hB)
        obtain ⟨⟨cs, hXg, hgb, hgc⟩, hbs⟩ := id hRs
        have hr : wr.rangeAt g (k * 2) x.cells := fun j v hj => by rw [hgb.cell, show k * 2 + j = 2 * k + j by omega]; exact hgc k x hx j v hj
        have hx1 := HBL.out x (List.mem_of_getElem? hx)
        have hk1 := flat_take_len ws HBL.out k
        obtain ⟨m, hm⟩ : ∃ m, m = (flat (ws.take k)).length := ⟨_, rfl⟩
        have hm2 : (flat (ws.take (k + 1))).length = m + x.bs.length := by rw [flat_take hx, List.length_append, puts_len, ← hm]
        rw [← hm] at hk1 ⊢
        have ew : IntKind.i64.wrap ((m : Int) + (x.bs.length : Int)) = (m : Int) + (x.bs.length : Int) := by rw [IntKind.wrap_i64]; omega
        have HM := Lib.hid hm2
        have HB := Lib.hid hB
        clear hgc hbs hm hm2 hB hx1 hk1 hx hXg hgb hRs
        go_wp2_with (first | (refine wpList_load_mid rfl 45 _ rfl _ _ rfl x.cells _ hr Try.underlying45 rfl (wtinfo x) ?_) | (refine wpList_store_blk rfl 45 _ _ rfl wr.heap.size 45 #[.int .i64 0, .slice none 0 0] x.cells.toArray rfl rfl (Blk.new' rfl) (wtinfoA x) rfl (wt_one x) ?_; rw [alloc_setRow]; intro b2; have B2 := Lib.hid (show Below W.heap.size W (wr.alloc (.cells x.cells.toArray 45)) from HB.out.alloc HB.out.size _); obtain ⟨W2, hW2⟩ : ∃ W2, W2 = wr.alloc (.cells x.cells.toArray 45) := ⟨_, rfl⟩; rw [← hW2] at b2 B2 ⊢; clear hW2 hr; have c1 := b2.cell 1; rw [List.getElem?_toArray, wt_1] at c1))
        go_roundw
        case rel => exact ⟨k + 1, by omega, by simp, by rw [HM.out]; simp, B2.out⟩
        case measure => simp [intOf]; omega
      · obtain rfl : k = ws.length := by omega
        rw [List.take_length]
        clear hlt
        go_wp2_with fail
        go_ret
        exact ⟨rfl, hB⟩
theorem crash_any (D : Dk W B d F h n v has ws fl wr) (hlen : ws.length ≤ 100000) (last : Int) (hl : -9223372036854775808 ≤ last ∧ last ≤ 9223372036854775807) :
    Calls Try.prog 7 #[.pointer (some ⟨d, 0, none⟩), .int .i64 last] W fun e W' => e = .returned (.int .i64 0) ∧ Dk W' B d (Grow F W W') h n (.slice none 0 0) (putL has ((flat ws).take last.toNat)) [] fl wr ∧ Turn B F W W' := by
  have HM := Lib.hid (made_any W D)
  have HE := Lib.hid (end_any D hlen last hl)
  clear D hlen hl
  go_enter Try.func7, Try.ntmps7
  go_wp2_with (first | (go_at_call 12; refine HM.out.mono ?_; rintro e w1 ⟨rfl, rfl⟩) | (go_at_call 15; refine HE.out.mono ?_; rintro e w1 ⟨rfl, hD, hT⟩; have HD := Lib.hid (And.intro hD hT); clear hD hT))
  go_ret
  exact ⟨rfl, HD.out⟩
theorem Dk.wider {G : Nat → Prop} (D : Dk W B d F h n v has ws fl wr) (hFG : ∀ k, F k → G k) (hG : ∀ k, G k → B ≤ k ∧ k < W.heap.size) : Dk W B d G h n v has ws fl wr :=
  ⟨hFG _ D.fd, hFG _ D.fh, fun k hk => hFG _ (D.fv k hk), D.blk, D.row, D.len, D.h256, D.own, fun x hx => (D.at_ x hx).keep fun k _ _ hF _ _ => ⟨hFG k hF, rfl⟩, hG, D.pos, D.big⟩
theorem Dk.ne (D : Dk W B d F h n v has ws fl wr) : h ≠ d := by
  rintro rfl
  have h1 := D.blk
  have h2 := D.row
  unfold Blk at h1 h2
  rw [h1] at h2
  simp only [Option.some.injEq, Obj.cells.injEq] at h2
  exact absurd h2.2.1 (by decide)
/-- A count is written. -/
theorem Dk.setfl (D : Dk W B d F h n v has ws fl wr) (fl' : Int) : Dk (W.setCell ⟨d, 2, none⟩ (.int .i64 fl')) B d F h n v has ws fl' wr := by
  have far : ∀ k, k ≠ d → (W.setCell ⟨d, 2, none⟩ (.int .i64 fl')).heap[k]? = W.heap[k]? := fun k hk => Below.heap_setCell W ⟨d, 2, none⟩ _ k hk
  refine ⟨D.fd, D.fh, D.fv, D.blk.setCell 2 _, (far h D.ne).trans D.row, D.len, D.h256, ownG_keep D.own fun k hk => far k ?_, fun x hx => (D.at_ x hx).keep fun k cs z hF hne hz => ⟨hF, far k ?_⟩, fun k hk => ?_, D.pos, D.big⟩
  · rintro rfl
    exact own_ne D.own D.blk (by decide) hk.symm
  · rintro rfl
    have h1 := D.blk
    unfold Blk at h1
    rw [h1] at hz
    simp only [Option.some.injEq, Obj.cells.injEq] at hz
    exact absurd hz.2.1 (by decide)
  · have := D.low k hk
    exact ⟨this.1, by simpa [World.setCell] using this.2⟩
theorem Turn.mono {F : Nat → Prop} {W W1 W2 : World} {B d : Nat} (hb : Below W.heap.size W W1) (hB : B ≤ W.heap.size) (t : Turn B F W1 W2) : Turn B F W W2 :=
  ⟨(hb.mono hB).trans t.1, fun k hk hF => (t.2 k (Nat.lt_of_lt_of_le hk hb.size) hF).trans (hb.block k hk)⟩
set_option maxRecDepth 20000 in
theorem flush_any (D : Dk W B d F h n v has ws fl wr) (hlen : ws.length ≤ 100000) :
    Calls Try.prog 8 #[.pointer (some ⟨d, 0, none⟩)] W fun e W' => e = .returned (.int .i64 0) ∧ Dk W' B d (Grow F W W') h n (.slice none 0 0) (putL has (flat ws)) [] (wrap64 (fl + 1)) wr ∧ Turn B F W W' := by
  have HM := Lib.hid (made_any W D)
  have HW := Lib.hid (waits_any D hlen)
  have hk1 : (flat ws).length ≤ 262144 * ws.length := by have := flat_take_len ws D.bs_len ws.length; rwa [List.take_length] at this
  have HE := Lib.hid (fun w (hb : Below W.heap.size W w) => end_any (D.next hb) hlen ((flat ws).length : Nat) (by omega))
  have HD0 := Lib.hid D
  clear D hlen hk1
  go_enter Try.func8, Try.ntmps8
  go_wp2_with (first | (go_at_call 12; refine HM.out.mono ?_; rintro e w1 ⟨rfl, rfl⟩) | (go_at_call 11; refine HW.out.mono ?_; rintro e wa ⟨rfl, hb⟩; have HB := Lib.hid hb; clear hb) | (go_at_call 15; refine (HE.out _ HB.out).mono ?_; rintro e w2 ⟨rfl, hD, hT⟩; have HD := Lib.hid hD; have HT := Lib.hid hT; have c2 := hD.c2; have z2 := hD.blk.frozen 2; clear hD hT))
  go_ret
  have hB := (HD0.out.low d HD0.out.fd)
  have D2 := HD.out
  rw [Int.toNat_natCast, List.take_length] at D2
  have D3 := D2.setfl (wrap64 (fl + 1))
  have hs : (w2.setCell ⟨d, 2, none⟩ (.int .i64 (wrap64 (fl + 1)))).heap.size = w2.heap.size := by simp [World.setCell]
  have hb := HB.out.size
  have ht := HT.out.1.size
  refine ⟨rfl, D3.wider ?_ ?_, ?_, ?_⟩
  · rintro k (hk | ⟨e1, e2⟩)
    · exact Or.inl hk
    · exact Or.inr ⟨by omega, by omega⟩
  · rintro k (hk | ⟨e1, e2⟩)
    · have := HD0.out.low k hk
      have := HT.out.1.size
      exact ⟨by omega, by omega⟩
    · exact ⟨by omega, by omega⟩
  · exact ((HB.out.mono (by omega)).trans HT.out.1).setCell (p := ⟨d, 2, none⟩) hB.1 _
  · intro k hk hF
    exact (Below.heap_setCell _ ⟨d, 2, none⟩ _ k (fun e => hF (e ▸ HD0.out.fd))).trans ((HT.out.2 k (by omega) hF).trans (HB.out.block k hk))
end
end Go.Proofs.Ytoomlbphnadlpaa
