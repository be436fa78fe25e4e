/-
wire: the reader's simple calls: on, Num, Small, Must, Int.
-/
import Derived.Test.YtnoeogbihjpacaaRead3
namespace Go.Proofs.Ytnoeogbihjpacaa
open Go.RowKit
variable {L : Nat}

/-- Block k is a reader of reading s. -/
def Rdr (W : World) (k s : Nat) : Prop := k ≠ s ∧ W.cell? ⟨k, 0, none⟩ = some (.pointer (some ⟨s, 0, none⟩))
theorem Rdr.off {W W' : World} {k s : Nat} (h : Rdr W k s) (hO : Off s W W') : Rdr W' k s := ⟨h.1, (hO.cell (p := ⟨k, 0, none⟩) (World.block_lt_of_cell? W ⟨k, 0, none⟩ h.2) h.1).trans h.2⟩

theorem on_any (k s : Nat) (bs : List Nat) (W : World) (hr : Rdr W k s) (h : RdB L W s bs) :
    Calls Try.prog 72 #[.pointer (some ⟨k, 0, none⟩)] W fun e W' => e = .returned (.bool true) ∧ W = W' := by
  obtain ⟨_, hk⟩ := hr
  obtain ⟨A, c, ⟨h0, h1, h2, _⟩, _⟩ := h
  clear h0
  go_enter Try.func72, Try.ntmps72
  go_wp2
  go_ret
  exact ⟨rfl, rfl⟩

theorem rnum_any (k s : Nat) (bs : List Nat) (W : World) (hr : Rdr W k s) (h : RdB L W s bs) :
    Calls Try.prog 20 #[.pointer (some ⟨k, 0, none⟩)] W fun e W' => Ends L s W (fun v => .int .u64 (v : Nat)) (numP true 0 bs) e W' := by
  have HB := Lib.hid h
  have HR := Lib.hid hr
  have hk := hr.2
  have HN := Lib.hid (num_any s bs W h)
  clear h hr
  go_enter Try.func20, Try.ntmps20
  obtain ⟨r, hrr⟩ : ∃ r, r = numP true 0 bs := ⟨_, rfl⟩
  rw [← hrr] at HN ⊢
  clear hrr
  match r with
  | .error x =>
    go_wp2_with (first | (go_at_call 72; refine (on_any k s bs _ HR.out HB.out).mono ?_; rintro e w1 ⟨rfl, rfl⟩) | (go_at_call 73; refine HN.out.mono ?_; rintro e w2 ⟨hO, rfl, hM⟩))
    exact ⟨rfl, hO, rfl, hM⟩
  | .ok (v, t) =>
    go_wp2_with (first | (go_at_call 72; refine (on_any k s bs _ HR.out HB.out).mono ?_; rintro e w1 ⟨rfl, rfl⟩) | (go_at_call 73; refine HN.out.mono ?_; rintro e w2 ⟨hO, rfl, hB⟩))
    go_ret
    exact ⟨hO, rfl, hB⟩

theorem rsmall_any (k s : Nat) (bs : List Nat) (most : Int) (W : World) (hr : Rdr W k s) (h : RdB L W s bs) (hm : most ≤ 9223372036854775807) :
    Calls Try.prog 79 #[.pointer (some ⟨k, 0, none⟩), .int .i64 most] W fun e W' => Ends L s W (fun v => .int .i64 (v : Nat)) (smallP most bs) e W' := by
  have HB := Lib.hid h
  have HR := Lib.hid hr
  have hk := hr.2
  have HN := Lib.hid (small_any s bs most W h hm)
  clear h hr hm
  go_enter Try.func79, Try.ntmps79
  obtain ⟨r, hrr⟩ : ∃ r, r = smallP most bs := ⟨_, rfl⟩
  rw [← hrr] at HN ⊢
  clear hrr
  match r with
  | .error x =>
    go_wp2_with (first | (go_at_call 72; refine (on_any k s bs _ HR.out HB.out).mono ?_; rintro e w1 ⟨rfl, rfl⟩) | (go_at_call 76; refine HN.out.mono ?_; rintro e w2 ⟨hO, rfl, hM⟩))
    exact ⟨rfl, hO, rfl, hM⟩
  | .ok (v, t) =>
    go_wp2_with (first | (go_at_call 72; refine (on_any k s bs _ HR.out HB.out).mono ?_; rintro e w1 ⟨rfl, rfl⟩) | (go_at_call 76; refine HN.out.mono ?_; rintro e w2 ⟨hO, rfl, hB⟩))
    go_ret
    exact ⟨hO, rfl, hB⟩

theorem rmust_yes (k s : Nat) (bs : List Nat) (W : World) (hr : Rdr W k s) (h : RdB L W s bs) :
    Calls Try.prog 80 #[.pointer (some ⟨k, 0, none⟩), .bool true] W fun e W' => e = .returned (.tuple #[]) ∧ W = W' := by
  have HB := Lib.hid h
  have HR := Lib.hid hr
  have hk := hr.2
  clear h hr
  go_enter Try.func80, Try.ntmps80
  go_wp2_with (first | (go_at_call 72; refine (on_any k s bs _ HR.out HB.out).mono ?_; rintro e w1 ⟨rfl, rfl⟩) | (go_at_call 74; refine (must_yes s _).mono ?_; rintro e w2 ⟨rfl, rfl⟩))
  exact ⟨rfl, .tuple #[], by simp [results, Try.results80, go_sem], rfl, rfl⟩
theorem rmust_not (k s : Nat) (bs : List Nat) (W : World) (hr : Rdr W k s) (h : RdB L W s bs) :
    Calls Try.prog 80 #[.pointer (some ⟨k, 0, none⟩), .bool false] W fun e W' => e = .panicked [{ v := flt s, recovered := false }] ∧ Met' W' s 3 ∧ Off s W W' := by
  have HB := Lib.hid h
  have HR := Lib.hid hr
  have hk := hr.2
  clear h hr
  go_enter Try.func80, Try.ntmps80
  go_wp2_with (first | (go_at_call 72; refine (on_any k s bs _ HR.out HB.out).mono ?_; rintro e w1 ⟨rfl, rfl⟩) | (go_at_call 74; refine (must_not s bs _ HB.out).mono ?_; rintro e w2 ⟨rfl, hM, hO⟩))
  exact ⟨rfl, rfl, hM, hO⟩

/-- What a whole number's bytes tell: a sign comes last. -/
def intP (bs : List Nat) : Except Int (Int × List Nat) :=
  match numP true 0 bs with
  | .ok (v, t) => if v / 2 + v % 2 ≤ 4611686018427387904 then .ok (if v % 2 = 1 then -((v / 2 + v % 2 : Nat) : Int) else ((v / 2 + v % 2 : Nat) : Int), t) else .error 3
  | .error x => .error x
def EndsI (L s : Nat) (W : World) (r : Except Int (Int × List Nat)) (e : Ending) (W' : World) : Prop :=
  Off s W W' ∧ match r with
  | .ok (v, t) => e = .returned (.int .i64 v) ∧ RdB L W' s t
  | .error x => e = .panicked [{ v := flt s, recovered := false }] ∧ Met' W' s x
theorem wret_i64 {a b : Int} (h : a = b) : Ending.returned (.int .i64 a) = .returned (.int .i64 b) := by rw [h]

theorem rint_any (k s : Nat) (bs : List Nat) (W : World) (hr : Rdr W k s) (h : RdB L W s bs) :
    Calls Try.prog 22 #[.pointer (some ⟨k, 0, none⟩)] W fun e W' => EndsI L s W (intP bs) e W' := by
  have HB := Lib.hid h
  have HR := Lib.hid hr
  have hk := hr.2
  have HN := Lib.hid (num_any s bs W h)
  have HL := Lib.hid (numP_lt bs true 0)
  have HS := Lib.hid (show intP bs = match numP true 0 bs with
    | .ok (v, t) => if v / 2 + v % 2 ≤ 4611686018427387904 then .ok (if v % 2 = 1 then -((v / 2 + v % 2 : Nat) : Int) else ((v / 2 + v % 2 : Nat) : Int), t) else .error 3
    | .error x => .error x from rfl)
  clear h hr
  obtain ⟨r, hrr⟩ : ∃ r, r = numP true 0 bs := ⟨_, rfl⟩
  obtain ⟨i, hi⟩ : ∃ i, i = intP bs := ⟨_, rfl⟩
  rw [← hrr] at HN HL HS
  rw [← hi] at HS ⊢
  clear hrr hi
  match r with
  | .error x =>
    go_enter Try.func22, Try.ntmps22
    go_wp2_with (first | (go_at_call 72; refine (on_any k s bs _ HR.out HB.out).mono ?_; rintro e w1 ⟨rfl, rfl⟩) | (go_at_call 73; refine HN.out.mono ?_; rintro e w2 ⟨hO, rfl, hM⟩))
    exact ⟨rfl, hO, by rw [HS.out]; exact ⟨rfl, hM⟩⟩
  | .ok (v, t) =>
    have hv := HL.out v t rfl
    clear HL
    have e0 : IntKind.u64.wrap ((v : Int) / 2) = (v : Int) / 2 := by rw [IntKind.wrap_u64]; omega
    have e1 : IntKind.u64.wrap ((v : Int) / 2 + (v : Int) % 2) = (v : Int) / 2 + (v : Int) % 2 := by rw [IntKind.wrap_u64]; omega
    by_cases hle : v / 2 + v % 2 ≤ 4611686018427387904
    · have hle' : decide ((v : Int) / 2 + (v : Int) % 2 ≤ 4611686018427387904) = true := by simp; omega
      have e2 : IntKind.i64.wrap ((v : Int) / 2 + (v : Int) % 2) = (v : Int) / 2 + (v : Int) % 2 := by rw [IntKind.wrap_i64]; omega
      have e3 : IntKind.i64.wrap (-((v : Int) / 2 + (v : Int) % 2)) = -((v : Int) / 2 + (v : Int) % 2) := by rw [IntKind.wrap_i64]; omega
      by_cases hodd : v % 2 = 1
      · have ho : ((v : Int) % 2 == 1) = true := by simp; omega
        have HS' := Lib.hid (HS.out.trans ((if_pos hle).trans (congrArg (fun x => Except.ok (x, t)) (if_pos hodd))))
        clear hle HS hv hodd
        go_enter Try.func22, Try.ntmps22
        go_wp2_with (first | (go_at_call 72; refine (on_any k s bs _ HR.out HB.out).mono ?_; rintro e w1 ⟨rfl, rfl⟩) | (go_at_call 73; refine HN.out.mono ?_; rintro e w2 ⟨hO, rfl, hB⟩; have hk2 := (HR.out.off hO).2; have HB1 := Lib.hid hB; clear hB) | (go_at_call 74; (with_reducible refine (must_yes s _).mono ?_); rintro e w3 ⟨rfl, rfl⟩))
        go_ret
        exact ⟨hO, by rw [HS'.out]; exact ⟨wret_i64 (by omega), HB1.out⟩⟩
      · have ho : ((v : Int) % 2 == 1) = false := by simp; omega
        have HS' := Lib.hid (HS.out.trans ((if_pos hle).trans (congrArg (fun x => Except.ok (x, t)) (if_neg hodd))))
        clear hle HS hv hodd
        go_enter Try.func22, Try.ntmps22
        go_wp2_with (first | (go_at_call 72; refine (on_any k s bs _ HR.out HB.out).mono ?_; rintro e w1 ⟨rfl, rfl⟩) | (go_at_call 73; refine HN.out.mono ?_; rintro e w2 ⟨hO, rfl, hB⟩; have hk2 := (HR.out.off hO).2; have HB1 := Lib.hid hB; clear hB) | (go_at_call 74; (with_reducible refine (must_yes s _).mono ?_); rintro e w3 ⟨rfl, rfl⟩))
        go_ret
        exact ⟨hO, by rw [HS'.out]; exact ⟨wret_i64 (by omega), HB1.out⟩⟩
    · have hle' : decide ((v : Int) / 2 + (v : Int) % 2 ≤ 4611686018427387904) = false := by simp; omega
      have HS' := Lib.hid (HS.out.trans (if_neg hle))
      clear hle HS hv
      go_enter Try.func22, Try.ntmps22
      go_wp2_with (first | (go_at_call 72; refine (on_any k s bs _ HR.out HB.out).mono ?_; rintro e w1 ⟨rfl, rfl⟩) | (go_at_call 73; refine HN.out.mono ?_; rintro e w2 ⟨hO, rfl, hB⟩; have hk2 := (HR.out.off hO).2; have HB1 := Lib.hid hB; clear hB) | (go_at_call 74; (with_reducible refine (must_not s t _ HB1.out).mono ?_); rintro e w3 ⟨rfl, hM, hO2⟩))
      exact ⟨rfl, hO.trans hO2, by rw [HS'.out]; exact ⟨rfl, hM⟩⟩
end Go.Proofs.Ytnoeogbihjpacaa
