/-
packet: Write.
-/
import Derived.Test.YtbgjghgmdhnhbaaPk2
namespace Go.Proofs.Ytbgjghgmdhnhbaa
open Go.RowKit
set_option linter.unusedSimpArgs false
set_option linter.unusedVariables false
namespace Pk
theorem enc_256 (n : Nat) : ∀ x ∈ enc n, x < 256 := by
  have h : ∀ m, ∀ x ∈ encHi m, x < 256 := by
    intro m
    induction m using Nat.strongRecOn with
    | _ m ih =>
      intro x hx
      by_cases h0 : m = 0
      · subst h0; rw [encHi_zero] at hx; cases hx
      · rw [encHi_step (by omega)] at hx
        rcases List.mem_append.1 hx with h1 | h1
        · exact ih (m / 128) (by omega) x h1
        · rw [List.mem_singleton.1 h1]; omega
  intro x hx
  unfold enc at hx
  rcases List.mem_append.1 hx with h1 | h1
  · exact h _ x h1
  · rw [List.mem_singleton.1 h1]; omega
theorem encB_256 {p : Pt} (h : ∀ y ∈ p.bs, y < 256) : ∀ y ∈ encB p, y < 256 := by
  intro y hy
  unfold encB at hy
  simp only [List.mem_append] at hy
  rcases hy with (((hy | hy) | hy) | hy) | hy
  · exact enc_256 _ y hy
  · exact enc_256 _ y hy
  · exact enc_256 _ y hy
  · exact enc_256 _ y hy
  · split at hy
    · cases hy
    · rcases List.mem_append.1 hy with hy | hy
      · exact enc_256 _ y hy
      · exact h y hy
theorem encP_256 {p : Pt} (h : ∀ y ∈ p.bs, y < 256) : ∀ y ∈ encP p, y < 256 := by
  intro y hy
  unfold encP at hy
  rcases List.mem_append.1 hy with hy | hy
  · exact encB_256 h y hy
  · exact enc_256 _ y hy
theorem encB_len {p : Pt} (h : Rt p) : (encB p).length ≤ 2000 := by
  have h1 := enc_len (ackN p.k) (by unfold ackN; split <;> omega)
  have h2 := enc_len p.f.toNat (by have := h.f2; omega)
  have h3 := enc_len p.t.toNat (by have := h.t2; omega)
  have h4 := enc_len p.q (by have := h.q2; omega)
  have h5 := h.len
  have h6 := enc_len p.bs.length (by omega)
  unfold encB
  simp only [List.length_append]
  split
  · simp only [List.length_nil]; omega
  · simp only [List.length_append]; omega
theorem own_bytes {w : World} {B : Nat} {v : Value} {bs : List Nat} (h : w.ownsRow B 5 1 v bs.length (u8s bs)) (h256 : ∀ y ∈ bs, y < 256) : Bytes w v bs := by
  obtain ⟨A, c, rfl, hc, hby, hA⟩ := Byt.own_byr h
  refine ⟨h256, A, c, rfl, hby.imp id ?_⟩
  rintro ⟨b, p, e, h1, h2⟩
  exact ⟨b, p, e, h1, fun i hi => h2 i _ (List.getElem?_eq_getElem hi)⟩
theorem own_le {w : World} {B B' : Nat} {e : TypeId} {size n : Nat} {v : Value} {xs : List Value} (h : w.ownsRow B' e size v n xs) (hB : B ≤ B') : w.ownsRow B e size v n xs := by
  obtain ⟨hl, h⟩ := h
  refine ⟨hl, h.imp id ?_⟩
  rintro ⟨g, cap, cur, e, hg, r⟩
  exact ⟨g, cap, cur, e, Nat.le_trans hB hg, r⟩
section
variable (W : World)
set_option maxRecDepth 20000 in
set_option maxHeartbeats 4000000 in
theorem write_no (x : Pc) (hr : rightB x.p = false) : Calls Try.prog 10 #[.agg x.cells.toArray] W fun e W' => e = .returned (.tuple #[.slice none 0 0, .int .i64 3]) ∧ Below W.heap.size W W' := by
  obtain ⟨w1, hw1⟩ : ∃ w1, w1 = W.alloc (.cells x.cells.toArray 25) := ⟨_, rfl⟩
  have hb1 : Below W.heap.size W w1 := by rw [hw1]; exact (Below.refl _ _).alloc (Nat.le_refl _) _
  have hx : Blk w1 W.heap.size 25 x.cells.toArray := by rw [hw1]; exact Blk.new _ _ _
  have HR := Lib.hid (right_any w1 x)
  have HB := Lib.hid hb1
  have HW := Lib.hid hw1
  rw [hr] at HR
  clear hr hw1 hb1
  go_enter Try.func10, Try.ntmps10
  go_upto_region 1 with fail
  rw [← HW.out]
  have hrx := hx.range
  go_wp2_with (first | (refine wpList_load_mid rfl 25 _ rfl _ _ rfl x.cells _ hrx Try.underlying25 rfl (pcinfo x) ?_) | (go_at_call 31; refine HR.out.mono ?_; rintro e w2 ⟨rfl, hb⟩; have HB2 := Lib.hid hb; clear hb))
  go_ret2
  exact ⟨rfl, HB.out.trans (HB2.out.mono HB.out.size)⟩
set_option maxRecDepth 20000 in
set_option maxHeartbeats 4000000 in
theorem write_yes (x : Pc) (hr : Rt x.p) (ho : x.Ok W) : Calls Try.prog 10 #[.agg x.cells.toArray] W fun e W' => ∃ v, e = .returned (.tuple #[v, .int .i64 0]) ∧ W'.ownsRow W.heap.size 5 1 v (encP x.p).length (u8s (encP x.p)) ∧ Below W.heap.size W W' := by
  obtain ⟨w1, hw1⟩ : ∃ w1, w1 = W.alloc (.cells x.cells.toArray 25) := ⟨_, rfl⟩
  have hb1 : Below W.heap.size W w1 := by rw [hw1]; exact (Below.refl _ _).alloc (Nat.le_refl _) _
  have hx : Blk w1 W.heap.size 25 x.cells.toArray := by rw [hw1]; exact Blk.new _ _ _
  have HR := Lib.hid (right_any w1 x)
  have HB := Lib.hid hb1
  have HW := Lib.hid hw1
  rw [of_right hr] at HR
  have HO := Lib.hid ho
  have HE := Lib.hid (And.intro (encB_len hr) (encB_256 ho.h256))
  have HRT := Lib.hid hr
  clear hr hw1 hb1 ho
  go_enter Try.func10, Try.ntmps10
  go_upto_region 1 with fail
  rw [← HW.out]
  have hrx := hx.range
  have HX := Lib.hid hx
  clear hx
  go_upto_region 3 with (first | (refine wpList_load_mid rfl 25 _ rfl _ _ rfl x.cells _ hrx Try.underlying25 rfl (pcinfo x) ?_) | (go_at_call 31; refine HR.out.mono ?_; rintro e w2 ⟨rfl, hb⟩; have HB2 := Lib.hid (HB.out.trans (hb.mono HB.out.size)); have hrx2 := (HX.out.next hb).range; clear hb hrx HX))
  have HBO := Lib.hid (body_any w2 x HRT.out (HO.out.next HB2.out))
  go_upto_region 4 with (first | (refine wpList_load_mid rfl 25 _ rfl _ _ rfl x.cells _ hrx2 Try.underlying25 rfl (pcinfo x) ?_) | (go_at_call 32; refine HBO.out.mono ?_; rintro e w3 ⟨g, B, rfl, hB, hw, hb⟩; have HB3 := Lib.hid (HB2.out.trans (hb.mono HB2.out.size)); have HWT := Lib.hid (And.intro (Nat.le_trans HB2.out.size hB) hw); clear hb hB hw HBO))
  clear hrx2
  obtain ⟨en, hen⟩ : ∃ en, en = encB x.p := ⟨_, rfl⟩
  have HEN := Lib.hid hen
  rw [← hen] at HE HWT
  clear hen
  have HY := Lib.hid (bytes_any B g en w3 HWT.out.2 (by have := HE.out.1; omega))
  have hcl := Crc.sum_lt HE.out.2
  obtain ⟨s, hs⟩ : ∃ s, s = Crc.sum en := ⟨_, rfl⟩
  have HS := Lib.hid hs
  rw [← hs] at hcl
  have e1 : IntKind.u64.wrap (s : Int) = (s : Nat) := by rw [IntKind.wrap_u64]; omega
  have HCL := Lib.hid hcl
  clear hs hcl
  go_wp2_with (first | (go_at_call 35; refine HY.out.mono ?_; rintro e w4 ⟨v4, rfl, ho, hb⟩; have HV4 := Lib.hid (of_any v4 en w4 (own_bytes ho HE.out.2) (by have := HE.out.1; omega)); have HW4 := Lib.hid (HWT.out.2.next hb); have HB4 := Lib.hid (HB3.out.trans (hb.mono HB3.out.size)); rw [← HS.out] at HV4; clear ho hb HY) | (go_at_call 34; refine HV4.out.mono ?_; rintro e w5 ⟨rfl, hb⟩; have HW5 := Lib.hid (HW4.out.next hb); have HB5 := Lib.hid (HB4.out.trans (hb.mono HB4.out.size)); clear hb HV4) | (go_at_call 33; refine (wnum_any B g s en w5 HW5.out (by have := HCL.out; omega) (by have := HE.out.1; omega)).mono ?_; rintro e w6 ⟨rfl, hw, ho⟩; have HB6 := Lib.hid (HB5.out.trans (ho.1.mono HWT.out.1)); have HY6 := Lib.hid (bytes_any B g (en ++ enc s) w6 hw (by rw [List.length_append]; have := enc_len s (by have := HCL.out; omega); have := HE.out.1; omega)); clear hw ho) | (go_at_call 35; refine HY6.out.mono ?_; rintro e w7 ⟨v7, rfl, ho, hb⟩; have HO7 := Lib.hid ho; have HB7 := Lib.hid (HB6.out.trans (hb.mono HB6.out.size)); clear ho hb HY6))
  go_ret2
  refine ⟨_, rfl, ?_, HB7.out⟩
  have := own_le HO7.out HB6.out.size
  unfold encP
  rw [← HEN.out, ← HS.out]
  exact this
end
end Pk
end Go.Proofs.Ytbgjghgmdhnhbaa
