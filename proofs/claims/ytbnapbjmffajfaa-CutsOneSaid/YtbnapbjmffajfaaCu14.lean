/-
cuts: what Load reads: mustPropose.
cuts: what Load reads: mustHear.
cuts: New of what may not be.
-/
import Derived.Test.YtbnapbjmffajfaaCu12
namespace Go.Proofs.Ytbnapbjmffajfaa
open Go.RowKit
set_option linter.unusedSimpArgs false
set_option linter.unusedVariables false
variable {L : Nat}
/-- All below B is as before, but for block s. -/
structure OffB (B s : Nat) (w w' : World) : Prop where
  os : w'.os = w.os
  tape : w'.tape = w.tape
  output : w'.output = w.output
  size : w.heap.size ≤ w'.heap.size
  block : ∀ k, k < B → k ≠ s → w'.heap[k]? = w.heap[k]?
theorem OffB.trans {B s : Nat} {a b c : World} (h : OffB B s a b) (k : OffB B s b c) : OffB B s a c :=
  ⟨k.os.trans h.os, k.tape.trans h.tape, k.output.trans h.output, Nat.le_trans h.size k.size, fun i hi hs => (k.block i hi hs).trans (h.block i hi hs)⟩
theorem OffB.ofOff {B s : Nat} {a b : World} (h : Off s a b) (hB : B ≤ a.heap.size) : OffB B s a b := ⟨h.os, h.tape, h.output, h.size, fun i hi hs => h.block i (Nat.lt_of_lt_of_le hi hB) hs⟩
theorem OffB.ofBelow {B s : Nat} {a b : World} (h : Below B a b) : OffB B s a b := ⟨h.os, h.tape, h.output, h.size, fun i hi _ => h.block i hi⟩
theorem Rdr.low {W W' : World} {B k s : Nat} (h : Rdr W k s) (hb : Below B W W') (hk : k < B) : Rdr W' k s := ⟨h.1, (hb.cell (p := ⟨k, 0, none⟩) hk).trans h.2⟩
theorem RdB.low {W W' : World} {B s : Nat} {bs : List Nat} (h : RdB L W s bs) (hb : Below B W W') (hs : s < B) (hL : L ≤ B) : RdB L W' s bs := by
  obtain ⟨A, c, hR, hc, h⟩ := h
  refine ⟨A, c, ⟨(hb.cell (p := ⟨s, 0, none⟩) hs).trans hR.1, (hb.cell (p := ⟨s, 1, none⟩) hs).trans hR.2.1, (hb.cell (p := ⟨s, 2, none⟩) hs).trans hR.2.2.1, fun i => (hb.frozen (p := ⟨s, i, none⟩) hs).trans (hR.2.2.2 i)⟩, hc, h.imp id ?_⟩
  rintro ⟨b, p, e, h1, ⟨h0, h2⟩, h3⟩
  exact ⟨b, p, e, h1, ⟨h0, Nat.lt_of_lt_of_le h2 hb.size⟩, fun i x hi => (hb.cell (p := ⟨b, p + i, none⟩) (Nat.lt_of_lt_of_le h0 hL)).trans (h3 i x hi)⟩
theorem DecP.more {W w w' : World} {B t : Nat} {F : Nat → Prop} {own other : Int} {cs : List Ct} {a b : Sd} (h : DecP W B t F own other cs a b w) (hb : Below w.heap.size w w') (hB : B ≤ W.heap.size) (hlow : ∀ k, F k → B ≤ k ∧ k < W.heap.size) : DecP W B t F own other cs a b w' := by
  obtain ⟨v', T, tn⟩ := h
  have h1 := tn.1.size
  have h2 := hb.size
  refine ⟨v', (T.next hb).wider ?_ ?_, tn.1.trans (hb.mono (by omega)), fun k hk hF => (hb.block k (by omega)).trans (tn.2 k hk hF)⟩
  · rintro k (hk | ⟨h1, h2⟩)
    · exact Or.inl hk
    · exact Or.inr ⟨h1, by omega⟩
  · rintro k (hk | ⟨h1, h2⟩)
    · have := hlow k hk; exact ⟨this.1, by omega⟩
    · exact ⟨by omega, h2⟩
/-- What must be read, and is. -/
def MustP (L B k s : Nat) (bs : List Nat) (W : World) (ok : Bool) (P : World → Prop) (e : Ending) (W' : World) : Prop :=
  (ok = true ∧ e = .returned (.tuple #[]) ∧ P W' ∧ Rdr W' k s ∧ RdB L W' s bs) ∨
    (ok = false ∧ e = .panicked [{ v := flt s, recovered := false }] ∧ Met' W' s 3 ∧ OffB B s W W')
set_option maxHeartbeats 4000000 in
set_option maxRecDepth 20000 in
theorem mustpropose_any (W : World) {B t k s : Nat} {bs : List Nat} {F : Nat → Prop} {own other : Int} {v : Value} {cs : List Ct} {a b : Sd} (T : Tb W B t F own other v cs a b) (ho : own ≠ 0) (hl : cs.length ≤ 100000) (x y : St) (hy : y = St.mk true x.t x.f)
    (hr : Rdr W k s) (h : RdB L W s bs) (hk : k < B) (hs : s < B) (hL : L ≤ B) :
    Calls Try.prog 52 #[.pointer (some ⟨t, 0, none⟩), .pointer (some ⟨k, 0, none⟩), .agg x.cells.toArray] W fun e W' =>
      MustP L B k s bs W (decide (propE cs a y = 0)) (DecP W B t F own other cs ⟨true, y⟩ b) e W' := by
  have hB : B ≤ W.heap.size := Nat.le_of_lt (Nat.lt_of_le_of_lt (T.low t T.ft).1 (T.low t T.ft).2)
  have HT := Lib.hid T
  have HBW := Lib.hid hB
  have HRK := Lib.hid (And.intro hk (And.intro hs hL))
  have HR := Lib.hid hr
  have HB := Lib.hid h
  have hb1 : Below W.heap.size W (W.alloc (.cells x.cells.toArray 39)) := (Below.refl _ _).alloc (Nat.le_refl _) _
  have hP := fun w (T : Tb w B t F own other v cs a b) => propose_any w T ho hl x.t x.f
  rw [← hy] at hP
  have HB1 := Lib.hid hb1
  have T1 := Lib.hid (T.next hb1)
  obtain ⟨-, r2, -, a1⟩ := st_all (Blk.new W 39 x.cells.toArray)
  obtain ⟨n, hn⟩ : ∃ n, n = propE cs a y := ⟨_, rfl⟩
  simp only [← hn] at hP
  rw [← hn]
  clear T ho hl hr h hk hs hL hB hb1 hy
  by_cases h0 : n = 0
  · subst h0
    have HP := Lib.hid (fun w T => (hP w T).mono (R' := fun e W' => e = .returned (.tuple #[.agg y.cells.toArray, .int .i64 0]) ∧ DecP w B t F own other cs ⟨true, y⟩ b W') (by intro e W' hh; exact hh.elim (fun h => absurd rfl h.1) (fun h => h.2)))
    clear hP hn
    go_enter Try.func52, Try.ntmps52
    go_upto_region 2 with (first | (refine wpList_load_mid rfl 33 _ rfl _ _ rfl (vl x.f) _ r2 Try.underlying33 rfl (vinfoL _) ?_) | (go_at_call 8; refine (HP.out _ T1.out).mono ?_; rintro e w4 ⟨rfl, hD⟩; have HD := Lib.hid hD; clear hD) | (refine wpList_store_blk rfl 39 _ _ rfl w4.heap.size 39 #[.bool false, .int .u64 0, .int .u32 0, .int .u32 0, .int .u32 0, .int .u32 0, .int .u32 0, .int .u32 0, .int .u32 0, .int .u32 0, .int .u32 0, .int .u32 0, .int .u32 0, .int .u32 0] y.cells.toArray rfl rfl (Blk.new w4 _ _) (stinfoA _) (st_siz _) (st_one _) ?_; intro b5; clear b5))
    have hb5 : Below w4.heap.size w4 ((w4.alloc (.cells #[.bool false, .int .u64 0, .int .u32 0, .int .u32 0, .int .u32 0, .int .u32 0, .int .u32 0, .int .u32 0, .int .u32 0, .int .u32 0, .int .u32 0, .int .u32 0, .int .u32 0, .int .u32 0] 39)).setRow w4.heap.size y.cells.toArray) := below_setRow ((Below.refl _ _).alloc (Nat.le_refl _) _) (Nat.le_refl _) _
    obtain ⟨w5, hw5⟩ : ∃ w5, w5 = (w4.alloc (.cells #[.bool false, .int .u64 0, .int .u32 0, .int .u32 0, .int .u32 0, .int .u32 0, .int .u32 0, .int .u32 0, .int .u32 0, .int .u32 0, .int .u32 0, .int .u32 0, .int .u32 0, .int .u32 0] 39)).setRow w4.heap.size y.cells.toArray := ⟨_, rfl⟩
    rw [← hw5] at hb5 ⊢
    have hD5 := (heard_end HT.out HB1.out rfl (fun _ _ => rfl) (Below.refl B _) HD.out).more hb5 HBW.out HT.out.low
    obtain ⟨v5, T5, t5⟩ := hD5
    have HD5 := Lib.hid (show DecP W B t F own other cs ⟨true, y⟩ b w5 from ⟨v5, T5, t5⟩)
    have HR5 := Lib.hid (HR.out.low t5.1 HRK.out.1)
    have HB5 := Lib.hid (HB.out.low t5.1 HRK.out.2.1 HRK.out.2.2)
    clear hb5 hw5 T5 t5 HD r2 a1
    go_wp2_with (first | (go_at_call 41; refine (rmust_yes k s bs _ HR5.out HB5.out).mono ?_; rintro e w6 ⟨rfl, rfl⟩))
    exact ⟨rfl, .tuple #[], by simp [results, Try.results52, go_sem], Or.inl ⟨by simp, rfl, HD5.out, HR5.out, HB5.out⟩⟩
  · have HP := Lib.hid (fun w T => (hP w T).mono (R' := fun e W' => e = .returned (.tuple #[.agg St.zero.cells.toArray, .int .i64 n]) ∧ Below w.heap.size w W') (by intro e W' hh; exact hh.elim (fun h => h.2) (fun h => absurd h.1 h0)))
    clear hP hn
    go_enter Try.func52, Try.ntmps52
    go_upto_region 2 with (first | (refine wpList_load_mid rfl 33 _ rfl _ _ rfl (vl x.f) _ r2 Try.underlying33 rfl (vinfoL _) ?_) | (go_at_call 8; refine (HP.out _ T1.out).mono ?_; rintro e w4 ⟨rfl, hD⟩; have HD := Lib.hid hD; clear hD) | (refine wpList_store_blk rfl 39 _ _ rfl w4.heap.size 39 #[.bool false, .int .u64 0, .int .u32 0, .int .u32 0, .int .u32 0, .int .u32 0, .int .u32 0, .int .u32 0, .int .u32 0, .int .u32 0, .int .u32 0, .int .u32 0, .int .u32 0, .int .u32 0] St.zero.cells.toArray rfl rfl (Blk.new w4 _ _) (stinfoA _) (st_siz _) (st_one _) ?_; intro b5; clear b5))
    have hb5 : Below w4.heap.size w4 ((w4.alloc (.cells #[.bool false, .int .u64 0, .int .u32 0, .int .u32 0, .int .u32 0, .int .u32 0, .int .u32 0, .int .u32 0, .int .u32 0, .int .u32 0, .int .u32 0, .int .u32 0, .int .u32 0, .int .u32 0] 39)).setRow w4.heap.size St.zero.cells.toArray) := below_setRow ((Below.refl _ _).alloc (Nat.le_refl _) _) (Nat.le_refl _) _
    obtain ⟨w5, hw5⟩ : ∃ w5, w5 = (w4.alloc (.cells #[.bool false, .int .u64 0, .int .u32 0, .int .u32 0, .int .u32 0, .int .u32 0, .int .u32 0, .int .u32 0, .int .u32 0, .int .u32 0, .int .u32 0, .int .u32 0, .int .u32 0, .int .u32 0] 39)).setRow w4.heap.size St.zero.cells.toArray := ⟨_, rfl⟩
    rw [← hw5] at hb5 ⊢
    have z1 := HB1.out.size
    have z4 := HD.out.size
    have zB := HBW.out
    have t5 : Below B W w5 := (HB1.out.mono zB).trans ((HD.out.mono (by omega)).trans (hb5.mono (by omega)))
    have HT5 := Lib.hid t5
    have HR5 := Lib.hid (HR.out.low t5 HRK.out.1)
    have HB5 := Lib.hid (HB.out.low t5 HRK.out.2.1 HRK.out.2.2)
    have HZ5 := Lib.hid t5.size
    have h0' : (n == 0) = false := by simp [h0]
    clear hb5 hw5 t5 HD r2 a1 z1 z4 zB
    go_wp2_with (first | (go_at_call 41; refine (rmust_not k s bs _ HR5.out HB5.out).mono ?_; rintro e w6 ⟨rfl, hM, hO⟩; have HM := Lib.hid hM; have HO := Lib.hid hO; clear hM hO))
    exact ⟨rfl, Or.inr ⟨by simp [h0], rfl, HM.out, (OffB.ofBelow HT5.out).trans (OffB.ofOff HO.out (Nat.le_trans HBW.out HZ5.out))⟩⟩
end Go.Proofs.Ytbnapbjmffajfaa
namespace Go.Proofs.Ytbnapbjmffajfaa
open Go.RowKit
set_option linter.unusedSimpArgs false
set_option linter.unusedVariables false
variable {L : Nat}
set_option maxHeartbeats 4000000 in
set_option maxRecDepth 20000 in
theorem musthear_any (W : World) {B t k s : Nat} {bs : List Nat} {F : Nat → Prop} {own other : Int} {v : Value} {cs : List Ct} {a b : Sd} (T : Tb W B t F own other v cs a b) (ho : own ≠ 0) (hl : cs.length ≤ 100000) (r : Int) (x : St)
    (hr : Rdr W k s) (h : RdB L W s bs) (hk : k < B) (hs : s < B) (hL : L ≤ B) :
    Calls Try.prog 51 #[.pointer (some ⟨t, 0, none⟩), .pointer (some ⟨k, 0, none⟩), .int .i64 r, .agg x.cells.toArray] W fun e W' =>
      MustP L B k s bs W (decide (hearE other cs b r x = 0)) (DecP W B t F own other cs (if promP a x then ⟨true, St.zero⟩ else a) ⟨true, x⟩) e W' := by
  have hB : B ≤ W.heap.size := Nat.le_of_lt (Nat.lt_of_le_of_lt (T.low t T.ft).1 (T.low t T.ft).2)
  have HT := Lib.hid T
  have HBW := Lib.hid hB
  have HRK := Lib.hid (And.intro hk (And.intro hs hL))
  have HR := Lib.hid hr
  have HB := Lib.hid h
  have hb1 : Below W.heap.size W (W.alloc (.cells x.cells.toArray 39)) := (Below.refl _ _).alloc (Nat.le_refl _) _
  have hP := fun w (T : Tb w B t F own other v cs a b) => hear_any w T ho hl r x
  have HB1 := Lib.hid hb1
  have T1 := Lib.hid (T.next hb1)
  obtain ⟨r0, -, -, -⟩ := st_all (Blk.new W 39 x.cells.toArray)
  unfold HearP at hP
  obtain ⟨n, hn⟩ : ∃ n, n = hearE other cs b r x := ⟨_, rfl⟩
  obtain ⟨a', ha⟩ : ∃ a', a' = (if promP a x then (⟨true, St.zero⟩ : Sd) else a) := ⟨_, rfl⟩
  simp only [← hn, ← ha] at hP
  rw [← hn, ← ha]
  obtain ⟨p, hp⟩ : ∃ p, p = promP a x := ⟨_, rfl⟩
  simp only [← hp] at hP
  clear T ho hl hr h hk hs hL hB hb1 hp ha
  by_cases h0 : n = 0
  · subst h0
    have HP := Lib.hid (fun w T => (hP w T).mono (R' := fun e W' => e = .returned (.tuple #[.bool p, .int .i64 0]) ∧ DecP w B t F own other cs a' ⟨true, x⟩ W') (by intro e W' hh; exact hh.elim (fun h => absurd rfl h.1) (fun h => h.2)))
    clear hP hn
    go_enter Try.func51, Try.ntmps51
    go_upto_region 2 with (first | (refine wpList_load_mid rfl 39 _ rfl _ _ rfl x.cells _ r0 Try.underlying39 rfl (stinfo x) ?_) | (go_at_call 9; refine (HP.out _ T1.out).mono ?_; rintro e w4 ⟨rfl, hD⟩; have HD := Lib.hid hD; clear hD))
    have hD5 := heard_end HT.out HB1.out rfl (fun _ _ => rfl) (Below.refl B _) HD.out
    obtain ⟨v5, T5, t5⟩ := hD5
    have HD5 := Lib.hid (show DecP W B t F own other cs a' ⟨true, x⟩ w4 from ⟨v5, T5, t5⟩)
    have HR5 := Lib.hid (HR.out.low t5.1 HRK.out.1)
    have HB5 := Lib.hid (HB.out.low t5.1 HRK.out.2.1 HRK.out.2.2)
    clear T5 t5 HD r0
    go_wp2_with (first | (go_at_call 41; refine (rmust_yes k s bs _ HR5.out HB5.out).mono ?_; rintro e w6 ⟨rfl, rfl⟩))
    exact ⟨rfl, .tuple #[], by simp [results, Try.results51, go_sem], Or.inl ⟨by simp, rfl, HD5.out, HR5.out, HB5.out⟩⟩
  · have HP := Lib.hid (fun w T => (hP w T).mono (R' := fun e W' => e = .returned (.tuple #[.bool false, .int .i64 n]) ∧ Below w.heap.size w W') (by intro e W' hh; exact hh.elim (fun h => h.2) (fun h => absurd h.1 h0)))
    clear hP hn
    go_enter Try.func51, Try.ntmps51
    go_upto_region 2 with (first | (refine wpList_load_mid rfl 39 _ rfl _ _ rfl x.cells _ r0 Try.underlying39 rfl (stinfo x) ?_) | (go_at_call 9; refine (HP.out _ T1.out).mono ?_; rintro e w4 ⟨rfl, hD⟩; have HD := Lib.hid hD; clear hD))
    have z1 := HB1.out.size
    have zB := HBW.out
    have t5 : Below B W w4 := (HB1.out.mono zB).trans (HD.out.mono (by omega))
    have HT5 := Lib.hid t5
    have HR5 := Lib.hid (HR.out.low t5 HRK.out.1)
    have HB5 := Lib.hid (HB.out.low t5 HRK.out.2.1 HRK.out.2.2)
    have HZ5 := Lib.hid t5.size
    have h0' : (n == 0) = false := by simp [h0]
    clear t5 HD r0 z1 zB
    go_wp2_with (first | (go_at_call 41; refine (rmust_not k s bs _ HR5.out HB5.out).mono ?_; rintro e w6 ⟨rfl, hM, hO⟩; have HM := Lib.hid hM; have HO := Lib.hid hO; clear hM hO))
    exact ⟨rfl, Or.inr ⟨by simp [h0], rfl, HM.out, (OffB.ofBelow HT5.out).trans (OffB.ofOff HO.out (Nat.le_trans HBW.out HZ5.out))⟩⟩
end Go.Proofs.Ytbnapbjmffajfaa
namespace Go.Proofs.Ytbnapbjmffajfaa
open Go.RowKit
set_option linter.unusedSimpArgs false
set_option linter.unusedVariables false
set_option maxRecDepth 20000 in
theorem new_bad (W : World) (own other : Int) (h : mayT own other = false) : Calls Try.prog 6 #[.int .i64 own, .int .i64 other] W fun e W' => e = .returned (.tuple #[.pointer none, .int .i64 11]) ∧ W = W' := by
  unfold mayT at h
  by_cases g1 : own < 1
  · clear h
    go_enter Try.func6, Try.ntmps6
    go_wp2_with fail
    go_ret2
    exact ⟨rfl, rfl⟩
  by_cases g2 : 12 < own
  · clear h
    go_enter Try.func6, Try.ntmps6
    go_wp2_with fail
    go_ret2
    exact ⟨rfl, rfl⟩
  by_cases g3 : other < 0
  · clear h
    go_enter Try.func6, Try.ntmps6
    go_wp2_with fail
    go_ret2
    exact ⟨rfl, rfl⟩
  by_cases g4 : 12 < other
  · clear h
    go_enter Try.func6, Try.ntmps6
    go_wp2_with fail
    go_ret2
    exact ⟨rfl, rfl⟩
  by_cases g0 : own = other
  · have g5 : (own == other) = true := by simpa using g0
    clear h g0
    go_enter Try.func6, Try.ntmps6
    go_wp2_with fail
    go_ret2
    exact ⟨rfl, rfl⟩
  · simp at h; omega
end Go.Proofs.Ytbnapbjmffajfaa
