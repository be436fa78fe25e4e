/-
packet: what a packet is; Right.
-/
import Derived.Test.YtifoheodcbjapaaStrS
import Derived.Test.YtifoheodcbjapaaWrite
import Derived.Test.YtifoheodcbjapaaRead6
import Derived.Test.YtifoheodcbjapaaBack
import Derived.Test.YtifoheodcbjapaaTurn
import Derived.Test.YtifoheodcbjapaaStore
import Derived.Test.YtifoheodcbjapaaTreeL
import Derived.Deep.CutRange
namespace Go.Proofs.Ytifoheodcbjapaa
open Go.RowKit
set_option linter.unusedSimpArgs false
set_option linter.unusedVariables false
namespace Pk
/-- A packet. -/
structure Pt where
  k : Bool
  f : Int
  t : Int
  q : Nat
  bs : List Nat
structure Pc where
  p : Pt
  A : Option Addr
  c : Nat
def Pc.cells (x : Pc) : List Value := [.bool x.p.k, .int .i64 x.p.f, .int .i64 x.p.t, .int .u64 (x.p.q : Nat), .slice x.A x.p.bs.length x.c]
theorem pc_len (x : Pc) : x.cells.length = 5 := rfl
def nodeB (n : Int) : Bool := decide (1 ≤ n) && decide (n ≤ 12)
def seqB (q : Nat) : Bool := decide (1 ≤ q) && decide (q ≤ 1099511627776)
def dataB (k : Bool) (m : Nat) : Bool := if k then decide (m = 0) else decide (1 ≤ m) && decide (m ≤ 1800)
def rightB (p : Pt) : Bool := nodeB p.f && nodeB p.t && decide (p.f ≠ p.t) && seqB p.q && dataB p.k p.bs.length
theorem pcinfo (x : Pc) : (Try.prog.info? 40).map (·.size) = some x.cells.length := by rw [pc_len]; kernel_rfl
theorem pcinfoA (x : Pc) : (Try.prog.info? 40).map (·.size) = some x.cells.toArray.size := by rw [List.size_toArray, pc_len]; kernel_rfl
theorem pc_siz (x : Pc) : (5 : Nat) = x.cells.toArray.size := by rw [List.size_toArray, pc_len]
theorem pc_one (x : Pc) : x.cells.toArray.all (·.oneCell') = true := by unfold Pc.cells; simp [Value.oneCell']
section
variable (W : World)
theorem node_any (n : Int) : Calls Try.prog 64 #[.int .i64 n] W fun e W' => e = .returned (.bool (nodeB n)) ∧ W = W' := by
  unfold nodeB
  by_cases h1 : (1 : Int) ≤ n
  · by_cases h2 : n ≤ 12
    · rw [decide_eq_true h1, decide_eq_true h2]
      go_enter Try.func64, Try.ntmps64
      go_wp2_with fail
      go_ret
      exact ⟨rfl, rfl⟩
    · rw [decide_eq_true h1, decide_eq_false h2]
      go_enter Try.func64, Try.ntmps64
      go_wp2_with fail
      go_ret
      exact ⟨rfl, rfl⟩
  · rw [decide_eq_false h1]
    go_enter Try.func64, Try.ntmps64
    go_wp2_with fail
    go_ret
    exact ⟨rfl, rfl⟩
set_option maxRecDepth 20000 in
set_option maxHeartbeats 4000000 in
theorem right_any (x : Pc) : Calls Try.prog 40 #[.agg x.cells.toArray] W fun e W' => e = .returned (.bool (rightB x.p)) ∧ Below W.heap.size W W' := by
  obtain ⟨w1, hw1⟩ : ∃ w1, w1 = W.alloc (.cells x.cells.toArray 40) := ⟨_, rfl⟩
  have hb1 : Below W.heap.size W w1 := by rw [hw1]; exact (Below.refl _ _).alloc (Nat.le_refl _) _
  have hx : Blk w1 W.heap.size 40 x.cells.toArray := by rw [hw1]; exact Blk.new _ _ _
  have c0 : w1.cell? ⟨W.heap.size, 0, none⟩ = some (.bool x.p.k) := hx.cell 0
  have c1 : w1.cell? ⟨W.heap.size, 1, none⟩ = some (.int .i64 x.p.f) := hx.cell 1
  have c2 : w1.cell? ⟨W.heap.size, 2, none⟩ = some (.int .i64 x.p.t) := hx.cell 2
  have c3 : w1.cell? ⟨W.heap.size, 3, none⟩ = some (.int .u64 (x.p.q : Nat)) := hx.cell 3
  have c4 : w1.cell? ⟨W.heap.size, 4, none⟩ = some (.slice x.A x.p.bs.length x.c) := hx.cell 4
  have HB := Lib.hid hb1
  clear hx hb1
  unfold Pc.cells at hw1 ⊢
  obtain ⟨⟨k, f, t, q, bs⟩, A, c⟩ := x
  dsimp only at c0 c1 c2 c3 c4 hw1 ⊢
  obtain ⟨m, hm⟩ : ∃ m, m = bs.length := ⟨_, rfl⟩
  rw [← hm] at c4 hw1 ⊢
  have HR := Lib.hid (show rightB ⟨k, f, t, q, bs⟩ = (nodeB f && nodeB t && decide (f ≠ t) && seqB q && dataB k m) by rw [hm]; rfl)
  have HW := Lib.hid hw1
  clear hm hw1
  have HF := Lib.hid (fun n w => node_any w n)
  go_enter Try.func40, Try.ntmps40
  go_upto_region 1 with fail
  rw [← HW.out]
  go_cut [3] from 5 to 14 (fun vx wx => vx = .bool (decide (1 ≤ m) && decide (m ≤ 1800)) ∧ wx = w1)
  case first =>
    by_cases h1 : 1 ≤ m
    · by_cases h2 : m ≤ 1800
      · have e1 : (1 : Int) ≤ (m : Nat) := by omega
        have e2 : (m : Int) ≤ 1800 := by omega
        have H1 := Lib.hid h1
        have H2 := Lib.hid h2
        clear h1 h2
        go_wp2_with fail
        go_meet
        exact ⟨by rw [decide_eq_true H1.out, decide_eq_true H2.out]; rfl, rfl⟩
      · have e1 : (1 : Int) ≤ (m : Nat) := by omega
        have e2 : ¬ (m : Int) ≤ 1800 := by omega
        have H2 := Lib.hid h2
        clear h1 h2
        go_wp2_with fail
        go_meet
        exact ⟨by rw [decide_eq_false H2.out, Bool.and_false], rfl⟩
    · have e1 : ¬ (1 : Int) ≤ (m : Nat) := by omega
      have H1 := Lib.hid h1
      clear h1
      go_wp2_with fail
      go_meet
      exact ⟨by rw [decide_eq_false H1.out, Bool.false_and], rfl⟩
  case rest =>
    obtain ⟨rfl, rfl⟩ := hcut
    obtain ⟨d, hd⟩ : ∃ d, d = (decide (1 ≤ m) && decide (m ≤ 1800)) := ⟨_, rfl⟩
    rw [← hd]
    have HD := Lib.hid hd
    clear hd
    cases k with
    | true =>
      go_upto_region 4 with fail
      go_cut [4] from 21 to 28 (fun vx wx => vx = .bool (seqB q) ∧ wx = wc)
      case first =>
        by_cases h1 : 1 ≤ q
        · by_cases h2 : q ≤ 1099511627776
          · have e1 : (1 : Int) ≤ (q : Nat) := by omega
            have e2 : (q : Int) ≤ 1099511627776 := by omega
            have H1 := Lib.hid h1
            have H2 := Lib.hid h2
            clear h1 h2
            go_wp2_with fail
            go_meet
            exact ⟨by unfold seqB; rw [decide_eq_true H1.out, decide_eq_true H2.out]; rfl, rfl⟩
          · have e1 : (1 : Int) ≤ (q : Nat) := by omega
            have e2 : ¬ (q : Int) ≤ 1099511627776 := by omega
            have H1 := Lib.hid h1
            have H2 := Lib.hid h2
            clear h1 h2
            go_wp2_with fail
            go_meet
            exact ⟨by unfold seqB; rw [decide_eq_true H1.out, decide_eq_false H2.out]; rfl, rfl⟩
        · have e1 : ¬ (1 : Int) ≤ (q : Nat) := by omega
          have H1 := Lib.hid h1
          clear h1
          go_wp2_with fail
          go_meet
          exact ⟨by unfold seqB; rw [decide_eq_false H1.out, Bool.false_and], rfl⟩
      case rest =>
        obtain ⟨rfl, rfl⟩ := hcut
        obtain ⟨sq, hs⟩ : ∃ sq, sq = seqB q := ⟨_, rfl⟩
        rw [← hs] at HR ⊢
        clear hs
        have HFf := Lib.hid (fun w => HF.out f w)
        have HFt := Lib.hid (fun w => HF.out t w)
        obtain ⟨a, ha⟩ : ∃ a, a = nodeB f := ⟨_, rfl⟩
        obtain ⟨b, hb⟩ : ∃ b, b = nodeB t := ⟨_, rfl⟩
        rw [← ha] at HR HFf
        rw [← hb] at HR HFt
        clear ha hb HF
        cases a with
        | false =>
          go_wp2_with (first | (go_at_call 64; refine (HFf.out _).mono ?_; rintro e w2 ⟨rfl, rfl⟩))
          go_ret
          exact ⟨by rw [HR.out]; simp, HB.out⟩
        | true =>
          cases b with
          | false =>
            go_wp2_with (first | ((with_reducible refine (HFf.out _).mono ?_); rintro e w2 ⟨rfl, rfl⟩) | ((with_reducible refine (HFt.out _).mono ?_); rintro e w2 ⟨rfl, rfl⟩))
            go_ret
            exact ⟨by rw [HR.out]; simp, HB.out⟩
          | true =>
            by_cases he : f = t
            · have he1 : (f != t) = false := by simp [he]
              have HE := Lib.hid he
              clear he
              go_wp2_with (first | ((with_reducible refine (HFf.out _).mono ?_); rintro e w2 ⟨rfl, rfl⟩) | ((with_reducible refine (HFt.out _).mono ?_); rintro e w2 ⟨rfl, rfl⟩))
              go_ret
              exact ⟨by rw [HR.out, decide_eq_false (fun h => h HE.out)]; simp, HB.out⟩
            · have he1 : (f != t) = true := by simp [he]
              have HE := Lib.hid he
              clear he
              cases sq with
              | false =>
                go_wp2_with (first | ((with_reducible refine (HFf.out _).mono ?_); rintro e w2 ⟨rfl, rfl⟩) | ((with_reducible refine (HFt.out _).mono ?_); rintro e w2 ⟨rfl, rfl⟩))
                go_ret
                exact ⟨by rw [HR.out]; simp, HB.out⟩
              | true =>
                go_wp2_with (first | ((with_reducible refine (HFf.out _).mono ?_); rintro e w2 ⟨rfl, rfl⟩) | ((with_reducible refine (HFt.out _).mono ?_); rintro e w2 ⟨rfl, rfl⟩))
                go_ret
                exact ⟨by rw [HR.out, decide_eq_true HE.out]; simp [dataB]; by_cases h0 : m = 0 <;> simp [h0], HB.out⟩
    | false =>
      go_upto_region 4 with fail
      go_cut [4] from 21 to 28 (fun vx wx => vx = .bool (seqB q) ∧ wx = wc)
      case first =>
        by_cases h1 : 1 ≤ q
        · by_cases h2 : q ≤ 1099511627776
          · have e1 : (1 : Int) ≤ (q : Nat) := by omega
            have e2 : (q : Int) ≤ 1099511627776 := by omega
            have H1 := Lib.hid h1
            have H2 := Lib.hid h2
            clear h1 h2
            go_wp2_with fail
            go_meet
            exact ⟨by unfold seqB; rw [decide_eq_true H1.out, decide_eq_true H2.out]; rfl, rfl⟩
          · have e1 : (1 : Int) ≤ (q : Nat) := by omega
            have e2 : ¬ (q : Int) ≤ 1099511627776 := by omega
            have H1 := Lib.hid h1
            have H2 := Lib.hid h2
            clear h1 h2
            go_wp2_with fail
            go_meet
            exact ⟨by unfold seqB; rw [decide_eq_true H1.out, decide_eq_false H2.out]; rfl, rfl⟩
        · have e1 : ¬ (1 : Int) ≤ (q : Nat) := by omega
          have H1 := Lib.hid h1
          clear h1
          go_wp2_with fail
          go_meet
          exact ⟨by unfold seqB; rw [decide_eq_false H1.out, Bool.false_and], rfl⟩
      case rest =>
        obtain ⟨rfl, rfl⟩ := hcut
        obtain ⟨sq, hs⟩ : ∃ sq, sq = seqB q := ⟨_, rfl⟩
        rw [← hs] at HR ⊢
        clear hs
        have HFf := Lib.hid (fun w => HF.out f w)
        have HFt := Lib.hid (fun w => HF.out t w)
        obtain ⟨a, ha⟩ : ∃ a, a = nodeB f := ⟨_, rfl⟩
        obtain ⟨b, hb⟩ : ∃ b, b = nodeB t := ⟨_, rfl⟩
        rw [← ha] at HR HFf
        rw [← hb] at HR HFt
        clear ha hb HF
        cases a with
        | false =>
          go_wp2_with (first | (go_at_call 64; refine (HFf.out _).mono ?_; rintro e w2 ⟨rfl, rfl⟩))
          go_ret
          exact ⟨by rw [HR.out]; simp, HB.out⟩
        | true =>
          cases b with
          | false =>
            go_wp2_with (first | ((with_reducible refine (HFf.out _).mono ?_); rintro e w2 ⟨rfl, rfl⟩) | ((with_reducible refine (HFt.out _).mono ?_); rintro e w2 ⟨rfl, rfl⟩))
            go_ret
            exact ⟨by rw [HR.out]; simp, HB.out⟩
          | true =>
            by_cases he : f = t
            · have he1 : (f != t) = false := by simp [he]
              have HE := Lib.hid he
              clear he
              go_wp2_with (first | ((with_reducible refine (HFf.out _).mono ?_); rintro e w2 ⟨rfl, rfl⟩) | ((with_reducible refine (HFt.out _).mono ?_); rintro e w2 ⟨rfl, rfl⟩))
              go_ret
              exact ⟨by rw [HR.out, decide_eq_false (fun h => h HE.out)]; simp, HB.out⟩
            · have he1 : (f != t) = true := by simp [he]
              have HE := Lib.hid he
              clear he
              cases sq with
              | false =>
                go_wp2_with (first | ((with_reducible refine (HFf.out _).mono ?_); rintro e w2 ⟨rfl, rfl⟩) | ((with_reducible refine (HFt.out _).mono ?_); rintro e w2 ⟨rfl, rfl⟩))
                go_ret
                exact ⟨by rw [HR.out]; simp, HB.out⟩
              | true =>
                go_wp2_with (first | ((with_reducible refine (HFf.out _).mono ?_); rintro e w2 ⟨rfl, rfl⟩) | ((with_reducible refine (HFt.out _).mono ?_); rintro e w2 ⟨rfl, rfl⟩))
                go_ret
                exact ⟨by rw [HR.out, decide_eq_true HE.out]; simp [dataB, ← HD.out], HB.out⟩
end
end Pk
end Go.Proofs.Ytifoheodcbjapaa
