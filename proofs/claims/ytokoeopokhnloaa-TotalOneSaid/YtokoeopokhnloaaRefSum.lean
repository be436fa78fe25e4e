/-
The document's own sum and what goes with it; a slice of floats that a call made.
-/
import Derived.Test.YtokoeopokhnloaaTells
namespace Go.Proofs.Ytokoeopokhnloaa
open Go.RowKit
attribute [local go_sem] run_store_float

theorem Floats.below {w w' : World} {v : Value} {l : List Nat} (h : Floats w v l) (hb : Below w.heap.size w w') : Floats w' v l := by
  obtain ⟨a, c, rfl, h⟩ := h
  refine ⟨a, c, rfl, h.imp id ?_⟩
  rintro ⟨b, off, rfl, hlt, hc⟩
  exact ⟨b, off, rfl, Nat.lt_of_lt_of_le hlt hb.size, fun i hi => by rw [hb.cell (p := ⟨b, off + i, none⟩) hlt]; exact hc i hi⟩

theorem Floats.own {w : World} {base : Nat} {v : Value} {l : List Nat} (h : w.ownsRow base 23 1 v l.length (l.map (Value.float .f64))) : Floats w v l := by
  have hlt := h.lt
  have hcs := @World.ownsRow.cells w base 23 1 v l.length _ h
  rcases h.2 with ⟨rfl, hn⟩ | ⟨g, cap, cur, rfl, hg, hh, _⟩
  · refine ⟨none, 0, by rw [hn], Or.inl (List.eq_nil_of_length_eq_zero hn)⟩
  · refine ⟨_, cap, rfl, Or.inr ⟨g, 0, rfl, (hlt g rfl).2, fun i hi => ?_⟩⟩
    have := hcs (g := g) rfl i (.float .f64 (l.getD i 0)) (by rw [List.getElem?_map, List.getElem?_eq_getElem hi]; simp [List.getD_eq_getElem?_getD, hi])
    have e : (⟨g, 0, none⟩ : Addr).add i = ⟨g, 0 + i, none⟩ := by unfold Addr.add; split <;> simp_all
    rw [e] at this; exact this

/-- Where the document's sum stands behind k numbers. -/
def RMid (l : List Nat) (k : Nat) (w wr : World) (s : Value) : Prop :=
  ∃ x, s = .float .f64 x ∧ Num.Rel ((l.take k).foldl Num.addO (some 0)) x ∧ Below w.heap.size w wr

theorem rel_some {acc : Option Nat} {s x r : Nat} (hr : Num.Rel acc s) (hadd : Ieee.double.add s x = some r) : Num.Rel (Num.addO acc x) r := by
  cases acc with
  | none => have := Num.add_nan_left (x := x) hr.lt hr.2; rw [hadd] at this; cases this
  | some q =>
    obtain ⟨h1, rfl, h2⟩ := hr
    show Num.Rel (Ieee.double.add s x) r
    rw [hadd]
    exact ⟨(Num.add_fine hadd).1, rfl, (Num.add_fine hadd).2⟩
theorem rel_none {acc : Option Nat} {s x : Nat} (hr : Num.Rel acc s) (hadd : Ieee.double.add s x = none) (t : Nat) : Num.Rel (Num.addO acc x) ((Question.nanBits .f64 s x).cut t) := by
  have e : Num.addO acc x = none := by
    cases acc with
    | none => rfl
    | some q => obtain ⟨h1, rfl, h2⟩ := hr; exact hadd
  rw [e]; exact Num.cut_nan _ _ _

set_option maxHeartbeats 400000 in
theorem rsum_any (v : Value) (l : List Nat) (w : World) (hl : l.length ≤ 2147483648) (hv : Floats w v l) :
    Calls Try.prog 22 #[v] w fun e w' => e = .returned (.float .f64 (Num.sumN l)) ∧ Below w.heap.size w w' := by
  obtain ⟨a, c, rfl, h⟩ := hv
  have cf := call_frombits
  have hstart : Hid (RMid l 0 w w (.float .f64 0)) := Lib.hid ⟨0, rfl, by simpa using Num.Rel.start, Below.refl _ _⟩
  have HC := Lib.hid h
  clear h
  go_enter Try.func22, Try.ntmps22
  go_wp2_with fail
  go_loopw [3, 4] (fun s i wr => ∃ k : Nat, k ≤ l.length ∧ i = .int .i64 k ∧ RMid l k w wr s) (fun _ i _ => l.length - (intOf i).toNat)
  case atStart => exact ⟨0, Nat.zero_le _, rfl, hstart.out⟩
  case round =>
    obtain ⟨k, hk, rfl, x, rfl, hr, hb⟩ := hrel
    have HB := Lib.hid hb
    clear hb
    by_cases hlt : k < l.length
    · obtain ⟨b, off, ha, hbs, hcell⟩ := HC.out.resolve_left (by rintro rfl; simp at hlt)
      subst ha
      have hc : wr.cell? ⟨b, off + k, none⟩ = some (.float .f64 l[k]) := by
        rw [HB.out.cell (p := ⟨b, off + k, none⟩) hbs, hcell k hlt]; simp [List.getD_eq_getElem?_getD, hlt]
      have hf := take_fold l (some 0) k hlt
      cases hadd : Ieee.double.add x l[k] with
      | some r =>
        have hrun := fun W => run_add_some (P := Try.prog) W 23 hadd
        have fin := Lib.hid (rel_some hr hadd)
        have HF := Lib.hid hf
        clear hadd hr hbs hcell hf
        go_wp2_with fail
        go_roundw
        case rel => exact ⟨k + 1, by omega, by go_num, r, rfl, by rw [HF.out]; exact fin.out, HB.out⟩
        case measure => simp [intOf]; omega
      | none =>
        have hrun := fun W => run_add_none (P := Try.prog) W 23 hadd
        have fin := Lib.hid (rel_none hr hadd)
        have HF := Lib.hid hf
        clear hadd hr hbs hcell hf
        go_wp2_with fail
        go_roundw
        case rel => exact ⟨k + 1, by omega, by go_num, _, rfl, by rw [HF.out]; exact fin.out _, HB.out.drew⟩
        case measure => simp [intOf]; omega
    · obtain rfl : k = l.length := by omega
      rw [List.take_length] at hr
      have hlt' := hr.lt
      have hp : Hid ((if Num.kindN x = 0 then 9221120237041090561 else x) = Num.sumN l) := Lib.hid hr.plain
      clear hr
      by_cases hk0 : Num.kindN x = 0
      · have e0 : (((Num.kindN x : Nat) : Int) == 0) = true := by rw [hk0]; rfl
        have P := hp.out
        rw [if_pos hk0] at P
        have HP := Lib.hid P
        clear P hp hk0
        go_wp2_with (go_at_call 20; refine (rkind_any _ _ (by assumption)).mono ?_; rintro e w' ⟨rfl, rfl⟩)
        go_ret
        exact ⟨ret_float HP.out, HB.out⟩
      · have e0 : (((Num.kindN x : Nat) : Int) == 0) = false := by rw [beq_eq_false_iff_ne]; omega
        have P := hp.out
        rw [if_neg hk0] at P
        have HP := Lib.hid P
        clear P hp hk0
        go_wp2_with (go_at_call 20; refine (rkind_any _ _ (by assumption)).mono ?_; rintro e w' ⟨rfl, rfl⟩)
        go_ret
        exact ⟨ret_float HP.out, HB.out⟩
end Go.Proofs.Ytokoeopokhnloaa
