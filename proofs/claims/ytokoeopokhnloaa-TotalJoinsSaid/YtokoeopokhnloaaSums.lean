/-
Sums of floats, in order: plain mathematics, and the calls of package total that go through a list.
-/
import Derived.Test.YtokoeopokhnloaaCalls
namespace Go.Proofs.Ytokoeopokhnloaa
open Go.RowKit
namespace Num

/-- One more number added: 'none' stands for some NaN. -/
def addO (acc : Option Nat) (x : Nat) : Option Nat := acc.bind fun s => Ieee.double.add s x
def foldO (l : List Nat) : Option Nat := l.foldl addO (some 0)
def plainN (acc : Option Nat) : Nat := acc.getD 9221120237041090561
def sumN (l : List Nat) : Nat := plainN (foldO l)

/-- What a word is, of which 'acc' is told. -/
def Rel (acc : Option Nat) (s : Nat) : Prop :=
  s < 18446744073709551616 ∧ match acc with
  | none => 9218868437227405312 < s % 9223372036854775808
  | some r => s = r ∧ ¬ 9218868437227405312 < r % 9223372036854775808

theorem add_fine {x y r : Nat} (h : Ieee.double.add x y = some r) : r < 18446744073709551616 ∧ ¬ 9218868437227405312 < r % 9223372036854775808 := by
  have hw : ∀ s k, k ≤ 9218868437227405312 → Ieee.double.word s k < 18446744073709551616 ∧ ¬ 9218868437227405312 < Ieee.double.word s k % 9223372036854775808 := by
    intro s k hk
    unfold Ieee.Format.word
    rw [double_width]
    split <;> omega
  have hwrite : ∀ s m p, Ieee.double.write (.number s m p) < 18446744073709551616 ∧ ¬ 9218868437227405312 < Ieee.double.write (.number s m p) % 9223372036854775808 := by
    intro s m p
    unfold Ieee.Format.write Ieee.Format.nearest
    dsimp only
    split
    · exact hw _ _ (by omega)
    · exact hw _ _ (by rw [double_inf]; exact Nat.min_le_right _ _)
  have hwinf : ∀ s, Ieee.double.write (.infinity s) < 18446744073709551616 ∧ ¬ 9218868437227405312 < Ieee.double.write (.infinity s) % 9223372036854775808 := by
    intro s
    unfold Ieee.Format.write
    dsimp only
    exact hw _ _ (by rw [double_inf]; omega)
  unfold Ieee.Format.add at h
  generalize Ieee.double.read x = dx at h
  generalize Ieee.double.read y = dy at h
  cases dx <;> cases dy <;> simp only [Ieee.Datum.sum, Option.map_some, Option.map_none, Option.some.injEq, reduceCtorEq] at h
  · rw [← h]; exact hwrite _ _ _
  · rw [← h]; exact hwinf _
  · rw [← h]; exact hwinf _
  · split at h
    · simp only [Option.map_some, Option.some.injEq] at h; rw [← h]; exact hwinf _
    · simp at h

theorem add_nan_left {s x : Nat} (hs : s < 18446744073709551616) (h : 9218868437227405312 < s % 9223372036854775808) : Ieee.double.add s x = none := by
  obtain ⟨a, t, e⟩ := read_nan hs h
  unfold Ieee.Format.add
  rw [e]; rfl

theorem cut_nan (x y t : Nat) : Rel none ((Question.nanBits .f64 x y).cut t) := by
  unfold Rel Question.cut
  dsimp only
  have h1 := Nat.mod_lt (t / 2) (show 0 < 2 ^ 52 - 1 by omega)
  have h2 := Nat.mod_lt t (show 0 < 2 by omega)
  generalize t % 2 = p at h2 ⊢
  generalize t / 2 % (2 ^ 52 - 1) = q at h1 ⊢
  have : p = 0 ∨ p = 1 := by omega
  rcases this with rfl | rfl <;> omega

theorem Rel.start : Rel (some 0) 0 := by unfold Rel; simp

theorem Rel.kind {acc : Option Nat} {s : Nat} (h : Rel acc s) : (kindN s = 0 ↔ acc = none) := by
  unfold Rel at h
  unfold kindN
  cases acc with
  | none => dsimp only at h; rw [if_pos h.2]; simp
  | some r =>
    dsimp only at h
    obtain ⟨_, rfl, h3⟩ := h
    rw [if_neg h3]; repeat' split
    all_goals simp

theorem Rel.lt {acc : Option Nat} {s : Nat} (h : Rel acc s) : s < 18446744073709551616 := h.1

theorem Rel.plain {acc : Option Nat} {s : Nat} (h : Rel acc s) : (if kindN s = 0 then 9221120237041090561 else s) = plainN acc := by
  have hk := h.kind
  unfold plainN
  cases acc with
  | none => rw [if_pos (hk.2 rfl)]; rfl
  | some r => rw [if_neg (by rw [hk]; simp)]; unfold Rel at h; exact h.2.1

end Num

section
variable {P : Program} (w : World)
/-- A sum that is some number or an infinity. -/
theorem run_add_some (t : TypeId) {x y r : Nat} (h : Ieee.double.add x y = some r) : (binOp .add t (.float .f64 x) (.float .f64 y)).run P w = .ok (.float .f64 r) w :=
  run_float_arith w .add t .f64 x y r h
/-- A sum that is a NaN: its bits are the tape's. -/
theorem run_add_none (t : TypeId) {x y : Nat} (h : Ieee.double.add x y = none) : (binOp .add t (.float .f64 x) (.float .f64 y)).run P w = .ok (.float .f64 ((Question.nanBits .f64 x y).cut (w.tape w.drawn (.nanBits .f64 x y)))) w.drew := by
  have h' : FloatKind.f64.format.add x y = none := h
  simp [binOp, Op.floatArith, h', Question.forced]
end

theorem run_store_float (P : Program) (w : World) (a : Addr) (m : Mode) (k : FloatKind) (n : Nat) : (store a (.float k n) m).run P w = stored P w a (.float k n) m := run_store P w a _ m rfl
attribute [local go_sem] run_store_float

/-- What a step of the sum does: the variable holds the next sum, all below it is as it was. -/
def Stepped (acc : Option Nat) (B : Nat) (w : World) (e : Ending) (w' : World) : Prop :=
  e = .returned (.tuple #[]) ∧ ∃ s, Num.Rel acc s ∧ w'.heap[B]? = some (.cells #[.float .f64 s] 23 (0, 0)) ∧ Below B w w' ∧ w'.heap.size = w.heap.size

theorem stepped_mk {acc : Option Nat} {B : Nat} {w w1 : World} {s u : Nat} (hr : Num.Rel acc s) (hb : w1.heap[B]? = some (.cells #[.float .f64 u] 23 (0, 0))) (h1 : Below B w w1) (h2 : w1.heap.size = w.heap.size) :
    Stepped acc B w (.returned (.tuple #[])) (w1.setCell ⟨B, 0, none⟩ (.float .f64 s)) :=
  ⟨rfl, s, hr, one_setCell hb, h1.setCell (Nat.le_refl _) _, by simpa [World.setCell] using h2⟩

set_option maxHeartbeats 400000 in
theorem add_any (x s B : Nat) (acc : Option Nat) (w : World) (hr : Num.Rel acc s) (hb : w.heap[B]? = some (.cells #[.float .f64 s] 23 (0, 0))) :
    Calls Try.prog 28 #[.float .f64 x, .pointer (some ⟨B, 0, none⟩)] w (Stepped (Num.addO acc x) B w) := by
  have hc := cell_of_one hb
  have hf := free_of_one hb
  cases hadd : Ieee.double.add s x with
  | some r =>
    have hrun := fun W => run_add_some (P := Try.prog) W 23 hadd
    have fin : Hid (Num.Rel (Num.addO acc x) r) := Lib.hid (by
      cases acc with
      | none => have := Num.add_nan_left (x := x) hr.lt hr.2; rw [hadd] at this; cases this
      | some q =>
        obtain ⟨h1, rfl, h2⟩ := hr
        show Num.Rel (Ieee.double.add s x) r
        rw [hadd]
        exact ⟨(Num.add_fine hadd).1, rfl, (Num.add_fine hadd).2⟩)
    have HB := Lib.hid hb
    clear hadd hr hb
    go_enter Try.func28, Try.ntmps28
    go_wp2
    go_end0
    exact stepped_mk fin.out HB.out (Below.refl _ _) rfl
  | none =>
    have hrun := fun W => run_add_none (P := Try.prog) W 23 hadd
    have fin : Hid (∀ t, Num.Rel (Num.addO acc x) ((Question.nanBits .f64 s x).cut t)) := Lib.hid (by
      intro t
      have e : Num.addO acc x = none := by
        cases acc with
        | none => rfl
        | some q => obtain ⟨h1, rfl, h2⟩ := hr; exact hadd
      rw [e]; exact Num.cut_nan _ _ _)
    have HB := Lib.hid hb
    clear hadd hr hb
    go_enter Try.func28, Try.ntmps28
    go_wp2
    go_end0
    exact stepped_mk (fin.out _) (w1 := w.drew) HB.out (Below.refl _ _).drew rfl


theorem take_fold (l : List Nat) (acc : Option Nat) (k : Nat) (h : k < l.length) : (l.take (k + 1)).foldl Num.addO acc = Num.addO ((l.take k).foldl Num.addO acc) l[k] := by
  rw [List.take_succ_eq_append_getElem h, List.foldl_append]
  rfl

/-- The variable of the sum in the middle of the walk through the list. -/
def Mid (l : List Nat) (acc : Option Nat) (k B : Nat) (w wr : World) : Prop :=
  ∃ s, Num.Rel ((l.take k).foldl Num.addO acc) s ∧ wr.heap[B]? = some (.cells #[.float .f64 s] 23 (0, 0)) ∧ Below B w wr ∧ wr.heap.size = w.heap.size

set_option maxHeartbeats 400000 in
theorem each_any (b off c B : Nat) (l : List Nat) (s : Nat) (acc : Option Nat) (w : World) (hl : l.length ≤ 2147483648) (hbB : b < B)
    (hcell : ∀ i, i < l.length → w.cell? ⟨b, off + i, none⟩ = some (.float .f64 (l.getD i 0)))
    (hr : Num.Rel acc s) (hb : w.heap[B]? = some (.cells #[.float .f64 s] 23 (0, 0))) :
    Calls Try.prog 27 #[.slice (some ⟨b, off, none⟩) l.length c, .func (.func 28) #[] #[.pointer (some ⟨B, 0, none⟩)]] w (Stepped (l.foldl Num.addO acc) B w) := by
  have hstart : Hid (Mid l acc 0 B w w) := Lib.hid ⟨s, by simpa using hr, hb, Below.refl _ _, rfl⟩
  have HC := Lib.hid hcell
  clear hr hb hcell
  go_enter Try.func27, Try.ntmps27
  go_wp2_with fail
  go_loopw [8] (fun i wr => ∃ k : Nat, k ≤ l.length ∧ i = .int .i64 k ∧ Mid l acc k B w wr) (fun i _ => l.length - (intOf i).toNat)
  case atStart => exact ⟨0, Nat.zero_le _, rfl, hstart.out⟩
  case round =>
    obtain ⟨k, hk, rfl, hm⟩ := hrel
    by_cases hlt : k < l.length
    · have hmid := hm
      obtain ⟨s1, hs1, hb1, hB1, hz1⟩ := hm
      have hc : wr.cell? ⟨b, off + k, none⟩ = some (.float .f64 (l.getD k 0)) := by
        rw [hB1.cell (p := ⟨b, off + k, none⟩) hbB]; exact HC.out k hlt
      have HM := Lib.hid hmid
      have H1 := Lib.hid hs1
      have H2 := Lib.hid hb1
      have H3 := Lib.hid hB1
      have H4 := Lib.hid hz1
      clear hmid hs1 hb1 hB1 hz1
      go_wp2_with (go_at_call 28; refine (add_any _ _ _ _ _ H1.out H2.out).mono ?_; rintro e w1 ⟨rfl, s2, r1, r2, r3, r4⟩)
      have h2 := Lib.hid r1
      have h3 := Lib.hid r2
      have h4 := Lib.hid r3
      have h5 := Lib.hid r4
      clear r1 r2 r3 r4
      go_roundw
      case rel => exact ⟨k + 1, by omega, by go_num, s2, by rw [take_fold l acc k hlt]; exact h2.out, h3.out, (H3.out).trans h4.out, by rw [h5.out, H4.out]⟩
      case measure => simp [intOf]; omega
    · obtain rfl : k = l.length := by omega
      have HM := Lib.hid hm
      clear hm
      go_wp2_with fail
      go_end0
      obtain ⟨s1, hs1, hb1, hB1, hz1⟩ := HM.out
      exact ⟨rfl, s1, by rw [List.take_length] at hs1; exact hs1, hb1, hB1, hz1⟩

set_option maxHeartbeats 400000 in
theorem each_nil (v : Value) (B c : Nat) (a : Option Addr) (s : Nat) (acc : Option Nat) (w : World) (hv : v = .slice a 0 c)
    (hr : Num.Rel acc s) (hb : w.heap[B]? = some (.cells #[.float .f64 s] 23 (0, 0))) :
    Calls Try.prog 27 #[v, .func (.func 28) #[] #[.pointer (some ⟨B, 0, none⟩)]] w (Stepped acc B w) := by
  subst hv
  have H := Lib.hid hb
  clear hb
  go_enter Try.func27, Try.ntmps27
  go_wp2_with fail
  go_loopw [8] (fun i wr => i = .int .i64 0 ∧ w = wr) (fun _ _ => 0)
  case atStart => exact ⟨rfl, rfl⟩
  case round =>
    obtain ⟨rfl, rfl⟩ := hrel
    go_wp2_with fail
    go_end0
    exact ⟨rfl, s, hr, H.out, Below.refl _ _, rfl⟩

set_option maxHeartbeats 400000 in
theorem plain_any (s : Nat) (acc : Option Nat) (w : World) (hr : Num.Rel acc s) :
    Calls Try.prog 29 #[.float .f64 s] w fun e w' => e = .returned (.float .f64 (Num.plainN acc)) ∧ w = w' := by
  have cf := call_frombits
  have hlt := hr.lt
  have hp := hr.plain
  clear hr
  by_cases hk : Num.kindN s = 0
  · rw [if_pos hk] at hp
    have H := Lib.hid hp
    have hk' : (((Num.kindN s : Nat) : Int) == 0) = true := by rw [hk]; rfl
    clear hp hk
    go_enter Try.func29, Try.ntmps29
    go_wp2_with (go_at_call 19; refine (kind_any _ _ hlt).mono ?_; rintro e w' ⟨rfl, rfl⟩)
    go_ret
    exact ⟨ret_float H.out, rfl⟩
  · rw [if_neg hk] at hp
    have H := Lib.hid hp
    have hk' : (((Num.kindN s : Nat) : Int) == 0) = false := by rw [beq_eq_false_iff_ne]; omega
    clear hp hk
    go_enter Try.func29, Try.ntmps29
    go_wp2_with (go_at_call 19; refine (kind_any _ _ hlt).mono ?_; rintro e w' ⟨rfl, rfl⟩)
    go_ret
    exact ⟨ret_float H.out, rfl⟩


/-- A slice of floats in memory. -/
def Floats (w : World) (v : Value) (l : List Nat) : Prop :=
  ∃ a c, v = .slice a l.length c ∧ (l = [] ∨ ∃ b off, a = some ⟨b, off, none⟩ ∧ b < w.heap.size ∧ ∀ i, i < l.length → w.cell? ⟨b, off + i, none⟩ = some (.float .f64 (l.getD i 0)))

set_option maxHeartbeats 400000 in
theorem sum_any (v : Value) (l : List Nat) (w : World) (hl : l.length ≤ 2147483648) (hv : Floats w v l) :
    Calls Try.prog 21 #[v] w fun e w' => e = .returned (.float .f64 (Num.sumN l)) ∧ Below w.heap.size w w' := by
  obtain ⟨a, c, rfl, h⟩ := hv
  have hz : (World.alloc w (.cells #[.float .f64 0] 23)).heap[w.heap.size]? = some (.cells #[.float .f64 0] 23 (0, 0)) := heap_alloc_new _ _
  have HZ := Lib.hid hz
  clear hz
  have hb0 : Below w.heap.size w (w.alloc (.cells #[.float .f64 0] 23)) := (Below.refl _ _).alloc (Nat.le_refl _) _
  have HB := Lib.hid hb0
  clear hb0
  by_cases hn : l = []
  · subst hn
    clear h
    go_enter Try.func21, Try.ntmps21
    go_wp2_with fail
    refine (each_nil _ _ _ _ _ _ _ rfl Num.Rel.start HZ.out).mono ?_
    rintro e w1 ⟨rfl, s, r1, r2, r3, r4⟩
    have hc1 := cell_of_one r2
    have H1 := Lib.hid r1
    have H3 := Lib.hid (HB.out.trans r3)
    clear r1 r2 r3 r4
    go_wp2_with (go_at_call 29; refine (plain_any _ _ _ H1.out).mono ?_; rintro e w' ⟨rfl, rfl⟩)
    go_ret
    exact ⟨rfl, H3.out⟩
  · obtain ⟨b, off, rfl, hbs, hcell⟩ := h.resolve_left hn
    have hcell' : ∀ i, i < l.length → (w.alloc (.cells #[.float .f64 0] 23)).cell? ⟨b, off + i, none⟩ = some (.float .f64 (l.getD i 0)) := by
      intro i hi
      rw [HB.out.cell (p := ⟨b, off + i, none⟩) hbs]; exact hcell i hi
    have HC := Lib.hid hcell'
    clear hcell hcell' h hn
    go_enter Try.func21, Try.ntmps21
    go_wp2_with fail
    refine (each_any _ _ _ _ _ _ _ _ hl hbs HC.out Num.Rel.start HZ.out).mono ?_
    rintro e w1 ⟨rfl, s, r1, r2, r3, r4⟩
    have hc1 := cell_of_one r2
    have H1 := Lib.hid r1
    have H3 := Lib.hid (HB.out.trans r3)
    clear r1 r2 r3 r4
    go_wp2_with (go_at_call 29; refine (plain_any _ _ _ H1.out).mono ?_; rintro e w' ⟨rfl, rfl⟩)
    go_ret
    exact ⟨rfl, H3.out⟩
end Go.Proofs.Ytokoeopokhnloaa
