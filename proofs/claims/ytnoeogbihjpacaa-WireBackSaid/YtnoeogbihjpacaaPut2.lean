/-
put, of any part, by a writer and by nil; Great.
-/
import Derived.Test.YtnoeogbihjpacaaParts
namespace Go.Proofs.Ytnoeogbihjpacaa
open Go.RowKit

theorem noRow_blk {W : World} {k : Nat} {t : TypeId} {cs : Array Value} (h : Blk W k t cs) (ht : t ≠ 5) : NoRow W k := by
  intro cur m e
  unfold Blk at h
  rw [h] at e
  simp only [Option.some.injEq, Obj.cells.injEq] at e
  exact ht e.2.1
theorem kept_of {W W1 W2 : World} {B g : Nat} {ws : List Nat} {cs : Array Value} (h : Wtr W B g ws) (hb : Below W.heap.size W W1) (hB : Blk W1 W.heap.size 32 cs) (hO : Wrote B g W1 W2) : Kept W.heap.size cs W1 W2 :=
  ⟨hO.1.size, (hO.2.1 W.heap.size hB.lt (by have := h.lt; omega) (noRow_row (h.next hb) (noRow_blk hB (by decide)))).trans hB⟩
theorem kept_nil {W W1 W2 : World} {cs : Array Value} (hB : Blk W1 W.heap.size 32 cs) (hO : Below W1.heap.size W1 W2) : Kept W.heap.size cs W1 W2 := ⟨hO.size, hB.next hO⟩
theorem bytes_num {p : PartR} (h : p.k = 0 ∨ p.k = 5) : p.bytes = enc p.n := by unfold PartR.bytes; rw [if_pos h]
theorem bytes_int {p : PartR} (h : p.k = 1) : p.bytes = enc (zig p.i) := by unfold PartR.bytes; rw [if_neg (by omega), if_pos h]
theorem bytes_text {p : PartR} (h : p.k = 2) : p.bytes = enc p.m ++ p.bs := by unfold PartR.bytes; rw [if_neg (by omega), if_neg (by omega), if_pos h]
theorem bytes_float {p : PartR} (h : p.k = 3) : p.bytes = encF p.n := by unfold PartR.bytes; rw [if_neg (by omega), if_neg (by omega), if_neg (by omega), if_pos h]
theorem bytes_vector {p : PartR} (h : p.k = 4) : p.bytes = encV p.f := by unfold PartR.bytes; rw [if_neg (by omega), if_neg (by omega), if_neg (by omega), if_neg (by omega), if_pos h]
theorem bytes_none {p : PartR} (h0 : p.k ≠ 0) (h1 : p.k ≠ 1) (h2 : p.k ≠ 2) (h3 : p.k ≠ 3) (h4 : p.k ≠ 4) (h5 : p.k ≠ 5) : p.bytes = [] := by
  unfold PartR.bytes; rw [if_neg (by omega), if_neg (by omega), if_neg (by omega), if_neg (by omega), if_neg (by omega)]
theorem zig_len {p : PartR} {W : World} {L : Nat} (h : p.Ok W L) : zig p.i < 18446744073709551616 := zig_lt h.i1 h.i2
theorem encF_len (b : Nat) : (encF b).length = 8 := be8_len _
theorem bytes_len {p : PartR} {W : World} {L : Nat} (h : p.Ok W L) (hm : p.m ≤ 500) : p.bytes.length ≤ 510 := by
  unfold PartR.bytes
  split
  · have := enc_len p.n h.n1; omega
  · split
    · have := enc_len _ (zig_len h); omega
    · split
      · have := enc_len p.m (by omega); rw [List.length_append, h.len]; omega
      · split
        · rw [encF_len]; omega
        · split
          · have := encV_len p.f h.f1; omega
          · simp
theorem bytes_lt {p : PartR} {W : World} {L : Nat} (h : p.Ok W L) : ∀ x ∈ p.bytes, x < 256 := by
  unfold PartR.bytes
  intro x hx
  split at hx
  · exact enc_lt _ x hx
  · split at hx
    · exact enc_lt _ x hx
    · split at hx
      · rcases List.mem_append.1 hx with h1 | h1
        · exact enc_lt _ x h1
        · exact h.byte x h1
      · split at hx
        · exact be8_lt _ x hx
        · split at hx
          · exact encV_lt _ x hx
          · cases hx

theorem put_wtr (p : PartR) (B g : Nat) (ws : List Nat) (W : World) (h : Wtr W B g ws) (hp : p.Ok W B) (hm : p.m ≤ 500) (hlen : ws.length + 600 ≤ 140737488355328) :
    Calls Try.prog 15 #[.pointer (some ⟨g, 0, none⟩), .agg p.cells.toArray] W (PutPost (.pointer (some ⟨g, 0, none⟩)) (fun W2 => Wtr W2 B g (ws ++ p.bytes) ∧ Wrote B g W W2) p.bytes) := by
  have hlt := h.lt
  have hBs := Nat.le_trans h.1 (Nat.le_of_lt hlt)
  have fin : ∀ {W1 W2 : World} {e : Ending} {bs : List Nat}, Below W.heap.size W W1 → Blk W1 W.heap.size 32 p.cells.toArray →
      (e = .returned (.pointer (some ⟨g, 0, none⟩)) ∧ Wtr W2 B g (ws ++ bs) ∧ Wrote B g W1 W2) → bs = p.bytes →
      e = .returned (.pointer (some ⟨g, 0, none⟩)) ∧ (Wtr W2 B g (ws ++ p.bytes) ∧ Wrote B g W W2) ∧ Kept W.heap.size p.cells.toArray W1 W2 := by
    rintro W1 W2 e bs hb hB ⟨h1, h2, h3⟩ rfl
    exact ⟨h1, ⟨h2, (Wrote.ofBelow hb hBs hlt).trans h3⟩, kept_of h hb hB h3⟩
  by_cases h0 : p.k = 0 ∨ p.k = 5
  · have hb := bytes_num h0
    rw [hb]
    rw [hb] at fin
    exact put_num _ _ _ _ _ _ _ _ _ h0 hp.n1 fun W1 hbel hB => (wnum_any B g p.n ws W1 (h.next hbel) hp.n1 (by omega)).mono fun _ _ hx => fin hbel hB hx rfl
  by_cases h1 : p.k = 1
  · have hb := bytes_int h1
    rw [hb]
    rw [hb] at fin
    unfold PartR.cells at fin ⊢
    rw [h1] at fin ⊢
    exact put_int _ _ _ _ _ _ _ _ hp.i1 hp.i2 fun W1 hbel hB => (wint_any B g p.i ws W1 (h.next hbel) hp.i1 hp.i2 (by omega)).mono fun _ _ hx => fin hbel hB hx rfl
  by_cases h2 : p.k = 2
  · have hb := bytes_text h2
    rw [hb]
    rw [hb] at fin
    unfold PartR.cells at fin ⊢
    rw [h2] at fin ⊢
    refine put_text _ _ _ _ _ _ _ _ p.A p.m p.c p.bs rfl hp.len hm fun W1 hbel hB => (wtext_any B g p.m p.c p.A ws p.bs W1 (h.next hbel) hp.len (by omega) ?_).mono fun e W2 hx => ?_
    · intro W' hO
      exact ((hp.next (hbel.mono hBs)).next hO.1).src
    · rw [List.append_assoc] at hx
      have := fin hbel hB hx rfl
      exact ⟨this.1, this.2.1, this.2.2, ((hp.next (hbel.mono hBs)).next hx.2.2.1).src⟩
  by_cases h3 : p.k = 3
  · have hb := bytes_float h3
    rw [hb]
    rw [hb] at fin
    unfold PartR.cells at fin ⊢
    rw [h3] at fin ⊢
    exact put_float _ _ _ _ _ _ _ _ hp.n1 fun W1 hbel hB => (wfloat_any B g p.n ws W1 (h.next hbel) hp.n1 (by omega)).mono fun _ _ hx => fin hbel hB hx rfl
  by_cases h4 : p.k = 4
  · have hb := bytes_vector h4
    rw [hb]
    rw [hb] at fin
    unfold PartR.cells at fin ⊢
    rw [h4] at fin ⊢
    exact put_vector _ _ _ _ _ _ _ _ hp.f1 fun W1 hbel hB => (wvector_any B g p.f ws W1 (h.next hbel) hp.f1 (by omega)).mono fun _ _ hx => fin hbel hB hx rfl
  · have hb := bytes_none (p := p) (by omega) h1 h2 h3 h4 (by omega)
    rw [hb]
    exact put_none _ _ _ _ _ _ _ _ _ (by omega) h1 h2 h3 h4 (by omega) fun W1 hbel => ⟨by rw [List.append_nil]; exact h.next hbel, Wrote.ofBelow hbel hBs hlt⟩

theorem put_nilw (p : PartR) (L : Nat) (W : World) (hL : L ≤ W.heap.size) (h0w : 0 < W.heap.size) (hp : p.Ok W L) (hm : p.m ≤ 500) :
    Calls Try.prog 15 #[.pointer none, .agg p.cells.toArray] W (PutPost (.pointer none) (fun W2 => Below W.heap.size W W2) p.bytes) := by
  have fin : ∀ {W1 W2 : World} {e : Ending}, Below W.heap.size W W1 → Blk W1 W.heap.size 32 p.cells.toArray →
      (e = .returned (.pointer none) ∧ Below W1.heap.size W1 W2) →
      e = .returned (.pointer none) ∧ Below W.heap.size W W2 ∧ Kept W.heap.size p.cells.toArray W1 W2 := by
    rintro W1 W2 e hb hB ⟨h1, h2⟩
    exact ⟨h1, hb.trans (h2.mono hb.size), kept_nil hB h2⟩
  by_cases h0 : p.k = 0 ∨ p.k = 5
  · have hb := bytes_num h0
    rw [hb]
    exact put_num _ _ _ _ _ _ _ _ _ h0 hp.n1 fun W1 hbel hB => (wnum_nil p.n W1 hp.n1).mono fun _ _ hx => fin hbel hB hx
  by_cases h1 : p.k = 1
  · have hb := bytes_int h1
    rw [hb]
    unfold PartR.cells at fin ⊢
    rw [h1] at fin ⊢
    exact put_int _ _ _ _ _ _ _ _ hp.i1 hp.i2 fun W1 hbel hB => (wint_nil p.i W1 hp.i1 hp.i2).mono fun _ _ hx => fin hbel hB hx
  by_cases h2 : p.k = 2
  · have hb := bytes_text h2
    rw [hb]
    unfold PartR.cells at fin ⊢
    rw [h2] at fin ⊢
    refine put_text _ _ _ _ _ _ _ _ p.A p.m p.c p.bs rfl hp.len hm fun W1 hbel hB => (wtext_nil p.m p.c p.A W1 (by omega)).mono fun e W2 hx => ?_
    have := fin hbel hB hx
    exact ⟨this.1, this.2.1, this.2.2, ((hp.next (hbel.mono hL)).next (hx.2.mono (Nat.le_trans hL hbel.size))).src⟩
  by_cases h3 : p.k = 3
  · have hb := bytes_float h3
    rw [hb]
    unfold PartR.cells at fin ⊢
    rw [h3] at fin ⊢
    exact put_float _ _ _ _ _ _ _ _ hp.n1 fun W1 hbel hB => (wfloat_nil p.n W1 hp.n1).mono fun _ _ hx => fin hbel hB hx
  by_cases h4 : p.k = 4
  · have hb := bytes_vector h4
    rw [hb]
    unfold PartR.cells at fin ⊢
    rw [h4] at fin ⊢
    exact put_vector _ _ _ _ _ _ _ _ hp.f1 fun W1 hbel hB => (wvector_nil p.f W1 hp.f1 (by have := hbel.size; omega)).mono fun _ _ hx => fin hbel hB hx
  · have hb := bytes_none (p := p) (by omega) h1 h2 h3 h4 (by omega)
    rw [hb]
    exact put_none _ _ _ _ _ _ _ _ _ (by omega) h1 h2 h3 h4 (by omega) fun W1 hbel => hbel

/-- Is a part too much? -/
def greatB (p : PartR) : Bool := decide (500 < p.m)
set_option maxRecDepth 20000 in
theorem great_any (p : PartR) (W : World) : Calls Try.prog 13 #[.agg p.cells.toArray] W fun e W' => e = .returned (.bool (greatB p)) ∧ Below W.heap.size W W' := by
  have c4 := (Blk.new W 32 p.cells.toArray).cell 4
  unfold PartR.cells at c4 ⊢
  rw [List.getElem?_toArray, partC_4] at c4
  have b0 : Below W.heap.size W (W.alloc (.cells (partC p.k p.i p.mo p.n (.slice p.A p.m p.c) p.f).toArray 32)) := (Below.refl _ W).alloc (Nat.le_refl _) _
  have hq : decide ((500 : Int) < (p.m : Int)) = greatB p := by unfold greatB; exact decide_eq_decide.2 (by omega)
  have HQ := Lib.hid hq
  clear hq
  go_enter Try.func13, Try.ntmps13
  go_wp2_with fail
  go_ret
  exact ⟨ret_bool HQ.out, b0⟩
end Go.Proofs.Ytnoeogbihjpacaa
