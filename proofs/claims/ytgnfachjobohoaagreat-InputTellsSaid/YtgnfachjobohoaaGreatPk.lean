/-
packet: what a packet is; Right.
packet: a packet's bytes.
packet: Write.
-/
import Derived.Test.YtgnfachjobohoaaGreatStrS
import Derived.Test.YtgnfachjobohoaaGreatWrite
import Derived.Test.YtgnfachjobohoaaGreatRead6
import Derived.Test.YtgnfachjobohoaaGreatBack
import Derived.Test.YtgnfachjobohoaaGreatRows2
import Derived.Test.YtgnfachjobohoaaGreatStore
import Derived.Test.YtgnfachjobohoaaGreatTree
import Derived.Test.YtgnfachjobohoaaGreatCrc
import Derived.Deep.CutRange
namespace Go.Proofs.YtgnfachjobohoaaGreat
open Go.RowKit
set_option linter.unusedSimpArgs false
set_option linter.unusedVariables false
namespace Pk
/-- A packet. -/
structure Pt where
  k : Bool
  f : Int
  t : Int
  q : Nat
  bs : List Nat
structure Pc where
  p : Pt
  A : Option Addr
  c : Nat
def Pc.cells (x : Pc) : List Value := [.bool x.p.k, .int .i64 x.p.f, .int .i64 x.p.t, .int .u64 (x.p.q : Nat), .slice x.A x.p.bs.length x.c]
theorem pc_len (x : Pc) : x.cells.length = 5 := rfl
def nodeB (n : Int) : Bool := decide (1 ≤ n) && decide (n ≤ 12)
def seqB (q : Nat) : Bool := decide (1 ≤ q) && decide (q ≤ 1099511627776)
def dataB (k : Bool) (m : Nat) : Bool := if k then decide (m = 0) else decide (1 ≤ m) && decide (m ≤ 1800)
def rightB (p : Pt) : Bool := nodeB p.f && nodeB p.t && decide (p.f ≠ p.t) && seqB p.q && dataB p.k p.bs.length
theorem pcinfo (x : Pc) : (Tryz.prog.info? 30).map (·.size) = some x.cells.length := by rw [pc_len]; kernel_rfl
theorem pcinfoA (x : Pc) : (Tryz.prog.info? 30).map (·.size) = some x.cells.toArray.size := by rw [List.size_toArray, pc_len]; kernel_rfl
theorem pc_siz (x : Pc) : (5 : Nat) = x.cells.toArray.size := by rw [List.size_toArray, pc_len]
theorem pc_one (x : Pc) : x.cells.toArray.all (·.oneCell') = true := by unfold Pc.cells; simp [Value.oneCell']
section
variable (W : World)
theorem node_any (n : Int) : Calls Tryz.prog 73 #[.int .i64 n] W fun e W' => e = .returned (.bool (nodeB n)) ∧ W = W' := by
  unfold nodeB
  by_cases h1 : (1 : Int) ≤ n
  · by_cases h2 : n ≤ 12
    · rw [decide_eq_true h1, decide_eq_true h2]
      go_enter Tryz.func73, Tryz.ntmps73
      go_wp2_with fail
      go_ret
      exact ⟨rfl, rfl⟩
    · rw [decide_eq_true h1, decide_eq_false h2]
      go_enter Tryz.func73, Tryz.ntmps73
      go_wp2_with fail
      go_ret
      exact ⟨rfl, rfl⟩
  · rw [decide_eq_false h1]
    go_enter Tryz.func73, Tryz.ntmps73
    go_wp2_with fail
    go_ret
    exact ⟨rfl, rfl⟩
set_option maxRecDepth 20000 in
set_option maxHeartbeats 4000000 in
theorem right_any (x : Pc) : Calls Tryz.prog 38 #[.agg x.cells.toArray] W fun e W' => e = .returned (.bool (rightB x.p)) ∧ Below W.heap.size W W' := by
  obtain ⟨w1, hw1⟩ : ∃ w1, w1 = W.alloc (.cells x.cells.toArray 30) := ⟨_, rfl⟩
  have hb1 : Below W.heap.size W w1 := by rw [hw1]; exact (Below.refl _ _).alloc (Nat.le_refl _) _
  have hx : Blk w1 W.heap.size 30 x.cells.toArray := by rw [hw1]; exact Blk.new _ _ _
  have c0 : w1.cell? ⟨W.heap.size, 0, none⟩ = some (.bool x.p.k) := hx.cell 0
  have c1 : w1.cell? ⟨W.heap.size, 1, none⟩ = some (.int .i64 x.p.f) := hx.cell 1
  have c2 : w1.cell? ⟨W.heap.size, 2, none⟩ = some (.int .i64 x.p.t) := hx.cell 2
  have c3 : w1.cell? ⟨W.heap.size, 3, none⟩ = some (.int .u64 (x.p.q : Nat)) := hx.cell 3
  have c4 : w1.cell? ⟨W.heap.size, 4, none⟩ = some (.slice x.A x.p.bs.length x.c) := hx.cell 4
  have HB := Lib.hid hb1
  clear hx hb1
  unfold Pc.cells at hw1 ⊢
  obtain ⟨⟨k, f, t, q, bs⟩, A, c⟩ := x
  dsimp only at c0 c1 c2 c3 c4 hw1 ⊢
  obtain ⟨m, hm⟩ : ∃ m, m = bs.length := ⟨_, rfl⟩
  rw [← hm] at c4 hw1 ⊢
  have HR := Lib.hid (show rightB ⟨k, f, t, q, bs⟩ = (nodeB f && nodeB t && decide (f ≠ t) && seqB q && dataB k m) by rw [hm]; rfl)
  have HW := Lib.hid hw1
  clear hm hw1
  have HF := Lib.hid (fun n w => node_any w n)
  go_enter Tryz.func38, Tryz.ntmps38
  go_upto_region 1 with fail
  rw [← HW.out]
  go_cut [3] from 5 to 14 (fun vx wx => vx = .bool (decide (1 ≤ m) && decide (m ≤ 1800)) ∧ wx = w1)
  case first =>
    by_cases h1 : 1 ≤ m
    · by_cases h2 : m ≤ 1800
      · have e1 : (1 : Int) ≤ (m : Nat) := by omega
        have e2 : (m : Int) ≤ 1800 := by omega
        have H1 := Lib.hid h1
        have H2 := Lib.hid h2
        clear h1 h2
        go_wp2_with fail
        go_meet
        exact ⟨by rw [decide_eq_true H1.out, decide_eq_true H2.out]; rfl, rfl⟩
      · have e1 : (1 : Int) ≤ (m : Nat) := by omega
        have e2 : ¬ (m : Int) ≤ 1800 := by omega
        have H2 := Lib.hid h2
        clear h1 h2
        go_wp2_with fail
        go_meet
        exact ⟨by rw [decide_eq_false H2.out, Bool.and_false], rfl⟩
    · have e1 : ¬ (1 : Int) ≤ (m : Nat) := by omega
      have H1 := Lib.hid h1
      clear h1
      go_wp2_with fail
      go_meet
      exact ⟨by rw [decide_eq_false H1.out, Bool.false_and], rfl⟩
  case rest =>
    obtain ⟨rfl, rfl⟩ := hcut
    obtain ⟨d, hd⟩ : ∃ d, d = (decide (1 ≤ m) && decide (m ≤ 1800)) := ⟨_, rfl⟩
    rw [← hd]
    have HD := Lib.hid hd
    clear hd
    cases k with
    | true =>
      go_upto_region 4 with fail
      go_cut [4] from 21 to 28 (fun vx wx => vx = .bool (seqB q) ∧ wx = wc)
      case first =>
        by_cases h1 : 1 ≤ q
        · by_cases h2 : q ≤ 1099511627776
          · have e1 : (1 : Int) ≤ (q : Nat) := by omega
            have e2 : (q : Int) ≤ 1099511627776 := by omega
            have H1 := Lib.hid h1
            have H2 := Lib.hid h2
            clear h1 h2
            go_wp2_with fail
            go_meet
            exact ⟨by unfold seqB; rw [decide_eq_true H1.out, decide_eq_true H2.out]; rfl, rfl⟩
          · have e1 : (1 : Int) ≤ (q : Nat) := by omega
            have e2 : ¬ (q : Int) ≤ 1099511627776 := by omega
            have H1 := Lib.hid h1
            have H2 := Lib.hid h2
            clear h1 h2
            go_wp2_with fail
            go_meet
            exact ⟨by unfold seqB; rw [decide_eq_true H1.out, decide_eq_false H2.out]; rfl, rfl⟩
        · have e1 : ¬ (1 : Int) ≤ (q : Nat) := by omega
          have H1 := Lib.hid h1
          clear h1
          go_wp2_with fail
          go_meet
          exact ⟨by unfold seqB; rw [decide_eq_false H1.out, Bool.false_and], rfl⟩
      case rest =>
        obtain ⟨rfl, rfl⟩ := hcut
        obtain ⟨sq, hs⟩ : ∃ sq, sq = seqB q := ⟨_, rfl⟩
        rw [← hs] at HR ⊢
        clear hs
        have HFf := Lib.hid (fun w => HF.out f w)
        have HFt := Lib.hid (fun w => HF.out t w)
        obtain ⟨a, ha⟩ : ∃ a, a = nodeB f := ⟨_, rfl⟩
        obtain ⟨b, hb⟩ : ∃ b, b = nodeB t := ⟨_, rfl⟩
        rw [← ha] at HR HFf
        rw [← hb] at HR HFt
        clear ha hb HF
        cases a with
        | false =>
          go_wp2_with (first | (go_at_call 73; refine (HFf.out _).mono ?_; rintro e w2 ⟨rfl, rfl⟩))
          go_ret
          exact ⟨by rw [HR.out]; simp, HB.out⟩
        | true =>
          cases b with
          | false =>
            go_wp2_with (first | ((with_reducible refine (HFf.out _).mono ?_); rintro e w2 ⟨rfl, rfl⟩) | ((with_reducible refine (HFt.out _).mono ?_); rintro e w2 ⟨rfl, rfl⟩))
            go_ret
            exact ⟨by rw [HR.out]; simp, HB.out⟩
          | true =>
            by_cases he : f = t
            · have he1 : (f != t) = false := by simp [he]
              have HE := Lib.hid he
              clear he
              go_wp2_with (first | ((with_reducible refine (HFf.out _).mono ?_); rintro e w2 ⟨rfl, rfl⟩) | ((with_reducible refine (HFt.out _).mono ?_); rintro e w2 ⟨rfl, rfl⟩))
              go_ret
              exact ⟨by rw [HR.out, decide_eq_false (fun h => h HE.out)]; simp, HB.out⟩
            · have he1 : (f != t) = true := by simp [he]
              have HE := Lib.hid he
              clear he
              cases sq with
              | false =>
                go_wp2_with (first | ((with_reducible refine (HFf.out _).mono ?_); rintro e w2 ⟨rfl, rfl⟩) | ((with_reducible refine (HFt.out _).mono ?_); rintro e w2 ⟨rfl, rfl⟩))
                go_ret
                exact ⟨by rw [HR.out]; simp, HB.out⟩
              | true =>
                go_wp2_with (first | ((with_reducible refine (HFf.out _).mono ?_); rintro e w2 ⟨rfl, rfl⟩) | ((with_reducible refine (HFt.out _).mono ?_); rintro e w2 ⟨rfl, rfl⟩))
                go_ret
                exact ⟨by rw [HR.out, decide_eq_true HE.out]; simp [dataB]; by_cases h0 : m = 0 <;> simp [h0], HB.out⟩
    | false =>
      go_upto_region 4 with fail
      go_cut [4] from 21 to 28 (fun vx wx => vx = .bool (seqB q) ∧ wx = wc)
      case first =>
        by_cases h1 : 1 ≤ q
        · by_cases h2 : q ≤ 1099511627776
          · have e1 : (1 : Int) ≤ (q : Nat) := by omega
            have e2 : (q : Int) ≤ 1099511627776 := by omega
            have H1 := Lib.hid h1
            have H2 := Lib.hid h2
            clear h1 h2
            go_wp2_with fail
            go_meet
            exact ⟨by unfold seqB; rw [decide_eq_true H1.out, decide_eq_true H2.out]; rfl, rfl⟩
          · have e1 : (1 : Int) ≤ (q : Nat) := by omega
            have e2 : ¬ (q : Int) ≤ 1099511627776 := by omega
            have H1 := Lib.hid h1
            have H2 := Lib.hid h2
            clear h1 h2
            go_wp2_with fail
            go_meet
            exact ⟨by unfold seqB; rw [decide_eq_true H1.out, decide_eq_false H2.out]; rfl, rfl⟩
        · have e1 : ¬ (1 : Int) ≤ (q : Nat) := by omega
          have H1 := Lib.hid h1
          clear h1
          go_wp2_with fail
          go_meet
          exact ⟨by unfold seqB; rw [decide_eq_false H1.out, Bool.false_and], rfl⟩
      case rest =>
        obtain ⟨rfl, rfl⟩ := hcut
        obtain ⟨sq, hs⟩ : ∃ sq, sq = seqB q := ⟨_, rfl⟩
        rw [← hs] at HR ⊢
        clear hs
        have HFf := Lib.hid (fun w => HF.out f w)
        have HFt := Lib.hid (fun w => HF.out t w)
        obtain ⟨a, ha⟩ : ∃ a, a = nodeB f := ⟨_, rfl⟩
        obtain ⟨b, hb⟩ : ∃ b, b = nodeB t := ⟨_, rfl⟩
        rw [← ha] at HR HFf
        rw [← hb] at HR HFt
        clear ha hb HF
        cases a with
        | false =>
          go_wp2_with (first | (go_at_call 73; refine (HFf.out _).mono ?_; rintro e w2 ⟨rfl, rfl⟩))
          go_ret
          exact ⟨by rw [HR.out]; simp, HB.out⟩
        | true =>
          cases b with
          | false =>
            go_wp2_with (first | ((with_reducible refine (HFf.out _).mono ?_); rintro e w2 ⟨rfl, rfl⟩) | ((with_reducible refine (HFt.out _).mono ?_); rintro e w2 ⟨rfl, rfl⟩))
            go_ret
            exact ⟨by rw [HR.out]; simp, HB.out⟩
          | true =>
            by_cases he : f = t
            · have he1 : (f != t) = false := by simp [he]
              have HE := Lib.hid he
              clear he
              go_wp2_with (first | ((with_reducible refine (HFf.out _).mono ?_); rintro e w2 ⟨rfl, rfl⟩) | ((with_reducible refine (HFt.out _).mono ?_); rintro e w2 ⟨rfl, rfl⟩))
              go_ret
              exact ⟨by rw [HR.out, decide_eq_false (fun h => h HE.out)]; simp, HB.out⟩
            · have he1 : (f != t) = true := by simp [he]
              have HE := Lib.hid he
              clear he
              cases sq with
              | false =>
                go_wp2_with (first | ((with_reducible refine (HFf.out _).mono ?_); rintro e w2 ⟨rfl, rfl⟩) | ((with_reducible refine (HFt.out _).mono ?_); rintro e w2 ⟨rfl, rfl⟩))
                go_ret
                exact ⟨by rw [HR.out]; simp, HB.out⟩
              | true =>
                go_wp2_with (first | ((with_reducible refine (HFf.out _).mono ?_); rintro e w2 ⟨rfl, rfl⟩) | ((with_reducible refine (HFt.out _).mono ?_); rintro e w2 ⟨rfl, rfl⟩))
                go_ret
                exact ⟨by rw [HR.out, decide_eq_true HE.out]; simp [dataB, ← HD.out], HB.out⟩
end
end Pk
end Go.Proofs.YtgnfachjobohoaaGreat
namespace Go.Proofs.YtgnfachjobohoaaGreat
open Go.RowKit
set_option linter.unusedSimpArgs false
set_option linter.unusedVariables false
namespace Pk
def ackN (k : Bool) : Nat := if k then 1 else 0
def encB (p : Pt) : List Nat := enc (ackN p.k) ++ enc p.f.toNat ++ enc p.t.toNat ++ enc p.q ++ (if p.k then [] else enc p.bs.length ++ p.bs)
def encP (p : Pt) : List Nat := encB p ++ enc (Crc.sum (encB p))
structure Rt (p : Pt) : Prop where
  f1 : 1 ≤ p.f
  f2 : p.f ≤ 12
  t1 : 1 ≤ p.t
  t2 : p.t ≤ 12
  ne : p.f ≠ p.t
  q1 : 1 ≤ p.q
  q2 : p.q ≤ 1099511627776
  d : dataB p.k p.bs.length = true
theorem right_of {p : Pt} (h : rightB p = true) : Rt p := by
  unfold rightB nodeB seqB at h
  simp only [Bool.and_eq_true, decide_eq_true_eq] at h
  obtain ⟨⟨⟨⟨⟨h1, h2⟩, h3, h4⟩, h5⟩, h6, h7⟩, h8⟩ := h
  exact ⟨h1, h2, h3, h4, h5, h6, h7, h8⟩
theorem of_right {p : Pt} (h : Rt p) : rightB p = true := by
  unfold rightB nodeB seqB
  simp only [Bool.and_eq_true, decide_eq_true_eq]
  exact ⟨⟨⟨⟨⟨h.f1, h.f2⟩, h.t1, h.t2⟩, h.ne⟩, h.q1, h.q2⟩, h.d⟩
theorem Rt.len {p : Pt} (h : Rt p) : p.bs.length ≤ 1800 := by
  have := h.d
  unfold dataB at this
  split at this
  · simp only [decide_eq_true_eq] at this; omega
  · simp only [decide_eq_true_eq, Bool.and_eq_true] at this; omega
structure Pc.Ok (W : World) (x : Pc) : Prop where
  hc : x.p.bs.length ≤ x.c
  h256 : ∀ y ∈ x.p.bs, y < 256
  rd : Byt.ByR W x.A x.p.bs
  hA : x.A = none → x.p.bs = []
theorem Pc.Ok.next {W w : World} {x : Pc} (h : x.Ok W) (hb : Below W.heap.size W w) : x.Ok w := { h with rd := h.rd.next hb }
theorem Pc.Ok.src {W : World} {x : Pc} (h : x.Ok W) : Src W x.A x.p.bs.length (u8s x.p.bs) := h.rd.src h.hA
section
variable (W : World)
set_option maxRecDepth 20000 in
theorem equal_any (A B : Option Addr) (m n c d : Nat) (xs bs : List Nat) (hm : xs.length = m) (hn : bs.length = n) (ha : Byt.ByR W A xs) (hA : A = none → xs = []) (hb : Byt.ByR W B bs) (hB : B = none → bs = []) (h1 : ∀ y ∈ xs, y < 256) (h2 : ∀ y ∈ bs, y < 256) :
    Calls Tryz.prog 74 #[.slice A m c, .slice B n d] W fun e W' => e = .returned (.bool (decide (xs = bs))) ∧ W = W' := by
  have k1 := Byt.conv_src W A m c xs (hm ▸ ha.src hA) hm h1
  have k2 := Byt.conv_src W B n d bs (hn ▸ hb.src hB) hn h2
  have k3 := Sx.str_eql W xs bs h1 h2
  have k4 := Sx.toList_beq xs bs h1 h2
  clear hm hn ha hA hb hB h1 h2
  go_enter Tryz.func74, Tryz.ntmps74
  go_wp2_with fail
  go_ret
  exact ⟨by first | rfl | (rw [← k4]; rfl), rfl⟩
set_option maxRecDepth 20000 in
set_option maxHeartbeats 4000000 in
theorem body_any (x : Pc) (hr : Rt x.p) (ho : x.Ok W) : Calls Tryz.prog 85 #[.agg x.cells.toArray] W fun e W' =>
    ∃ g B, e = .returned (.pointer (some ⟨g, 0, none⟩)) ∧ W.heap.size ≤ B ∧ Wtr W' B g (encB x.p) ∧ Below W.heap.size W W' := by
  obtain ⟨w1, hw1⟩ : ∃ w1, w1 = W.alloc (.cells x.cells.toArray 30) := ⟨_, rfl⟩
  have hb1 : Below W.heap.size W w1 := by rw [hw1]; exact (Below.refl _ _).alloc (Nat.le_refl _) _
  have hx : Blk w1 W.heap.size 30 x.cells.toArray := by rw [hw1]; exact Blk.new _ _ _
  have c0 : w1.cell? ⟨W.heap.size, 0, none⟩ = some (.bool x.p.k) := hx.cell 0
  have c1 : w1.cell? ⟨W.heap.size, 1, none⟩ = some (.int .i64 x.p.f) := hx.cell 1
  have c2 : w1.cell? ⟨W.heap.size, 2, none⟩ = some (.int .i64 x.p.t) := hx.cell 2
  have c3 : w1.cell? ⟨W.heap.size, 3, none⟩ = some (.int .u64 (x.p.q : Nat)) := hx.cell 3
  have HX := Lib.hid hx
  have HB := Lib.hid hb1
  have HO := Lib.hid ho
  have HR := Lib.hid hr
  obtain ⟨f, hf⟩ : ∃ f : Nat, f = x.p.f.toNat := ⟨_, rfl⟩
  obtain ⟨t, ht⟩ : ∃ t : Nat, t = x.p.t.toNat := ⟨_, rfl⟩
  have hf1 : x.p.f = (f : Nat) := by have := hr.f1; omega
  have ht1 : x.p.t = (t : Nat) := by have := hr.t1; omega
  have hft : f ≤ 12 ∧ t ≤ 12 := by have := hr.f2; have := hr.t2; omega
  have HFT := Lib.hid hft
  rw [hf1] at c1
  rw [ht1] at c2
  have HEF := Lib.hid (And.intro hf (And.intro ht (And.intro hf1 ht1)))
  have hcells : x.cells.toArray = #[.bool x.p.k, .int .i64 (f : Nat), .int .i64 (t : Nat), .int .u64 (x.p.q : Nat), .slice x.A x.p.bs.length x.c] := by unfold Pc.cells; rw [hf1, ht1]
  rw [hcells] at hw1 ⊢
  have HW := Lib.hid hw1
  have e1 : IntKind.u64.wrap (f : Int) = (f : Nat) := by rw [IntKind.wrap_u64]; omega
  have e2 : IntKind.u64.wrap (t : Int) = (t : Nat) := by clear e1; rw [IntKind.wrap_u64]; omega
  have E1 := Lib.hid e1
  have E2 := Lib.hid e2
  clear hf ht hf1 ht1 hft hx hb1 hr ho hcells hw1 e1 e2
  obtain ⟨k, hk⟩ : ∃ k, k = x.p.k := ⟨_, rfl⟩
  have HK := Lib.hid hk
  rw [← hk] at c0 HW ⊢
  clear hk
  cases k with
  | true =>
    go_enter Tryz.func85, Tryz.ntmps85
    go_upto_region 1 with fail
    rw [← HW.out]
    go_upto_region 4 with fail
    have e1 := E1.out
    have e2 := E2.out
    refine wp_region_tree (S := (fun w' => w'.cell? ⟨W.heap.size, 1, none⟩ = some (.int .i64 (f : Nat)) ∧ w'.cell? ⟨W.heap.size, 2, none⟩ = some (.int .i64 (t : Nat)) ∧ w'.cell? ⟨W.heap.size, 3, none⟩ = some (.int .u64 (x.p.q : Nat)))) (.take 1 (.take 3 (.take 4 (.take 5 (.take 7 (.take 8 (.take 9 (.take 11 (.take 12 (.one 0 (.one 2 (.one 6 (.one 10 (.one 13 (.take 14 .nil))))))))))))))) 9999 (by kernel_rfl) (by kernel_rfl) (by kernel_rfl) (by kernel_rfl) (by kernel_rfl) (fun _ _ d _ _ h => by cases d <;> exact h) ⟨c1, c2, c3⟩ (fun hHeld => ?_); simp only [Tree.map, List.getElem?_toArray, List.getElem?_cons_zero, List.getElem?_cons_succ]
    (repeat (first | (refine wpTree.take (v := undef) (Or.inr ⟨by rfl, rfl⟩) ?_; simp only [Act.put, List.setIfInBounds_toArray, List.set_cons_zero, List.set_cons_succ]) | (refine wpTree.take (v := ?_) (Or.inl ⟨by rfl, ?_⟩) ?_; rotate_left; (focus (intro _ hS; (try dsimp only at hS); go_split_ands; (try subst hS); go_simp; (try (with_reducible rfl)); done)); simp only [Act.put, List.setIfInBounds_toArray, List.set_cons_zero, List.set_cons_succ])))
    clear e1 e2
    refine wpTree.one (fun K hK => ?_)
    go_simp
    go_at_call 50
    refine (new_any w1.drew).mono ?_
    rintro e w2 ⟨rfl, hw, hb⟩
    have hx2 := HX.out.next ((Below.refl w1.heap.size w1).drew.trans hb)
    have H2 := Lib.hid (And.intro hw (And.intro ((Below.refl w1.heap.size w1).drew.trans hb) hx2))
    obtain ⟨B, hBe⟩ : ∃ B, B = w1.drew.heap.size := ⟨_, rfl⟩
    rw [← hBe] at H2 ⊢
    have HBE := Lib.hid (show W.heap.size < B ∧ W.heap.size ≤ B ∧ w1.heap.size = B by have h1 := HX.out.lt; have h2 : w1.drew.heap.size = w1.heap.size := rfl; omega)
    have cs := fun w (hb : Below B w2 w) (i : Nat) => hb.cell (p := ⟨W.heap.size, i, none⟩) HBE.out.1
    have CS := Lib.hid cs
    have d1 : w2.cell? ⟨W.heap.size, 1, none⟩ = some (.int .i64 (f : Nat)) := by rw [← c1]; exact ((Below.refl w1.heap.size w1).drew.trans hb).cell (p := ⟨W.heap.size, 1, none⟩) HX.out.lt
    have d2 : w2.cell? ⟨W.heap.size, 2, none⟩ = some (.int .i64 (t : Nat)) := by rw [← c2]; exact ((Below.refl w1.heap.size w1).drew.trans hb).cell (p := ⟨W.heap.size, 2, none⟩) HX.out.lt
    have d3 : w2.cell? ⟨W.heap.size, 3, none⟩ = some (.int .u64 (x.p.q : Nat)) := by rw [← c3]; exact ((Below.refl w1.heap.size w1).drew.trans hb).cell (p := ⟨W.heap.size, 3, none⟩) HX.out.lt
    have HD := Lib.hid (And.intro d1 (And.intro d2 d3))
    refine hK.out _ _ ⟨d1, d2, d3⟩ (fun _ => ?_)
    clear hK K hHeld hw hb hx2 hBe cs d1 d2 d3 c1 c2 c3
    (try simp only [Act.put, List.setIfInBounds_toArray, List.set_cons_zero, List.set_cons_succ])
    refine wpTree.one (fun K hK => ?_)
    go_simp
    go_at_call 51
    refine (wnum_any B B 1 [] w2 H2.out.1 (by first | omega | (have := HFT.out; omega) | (have := HR.out.q2; omega)) (by have := enc_len f (by have := HFT.out; omega); have := enc_len t (by have := HFT.out; omega); have := enc_len x.p.q (by have := HR.out.q2; omega); simp only [List.length_append, List.length_nil]; have := enc_len 1 (by omega); omega)).mono ?_
    rintro e w3 ⟨rfl, hw, ho⟩
    have H3 := Lib.hid (And.intro hw ((Below.refl B w2).trans ho.1))
    refine hK.out _ _ ⟨(CS.out _ H3.out.2 1).trans HD.out.1, (CS.out _ H3.out.2 2).trans HD.out.2.1, (CS.out _ H3.out.2 3).trans HD.out.2.2⟩ (fun _ => ?_)
    clear hK K hw ho
    (try simp only [Act.put, List.setIfInBounds_toArray, List.set_cons_zero, List.set_cons_succ])
    refine wpTree.one (fun K hK => ?_)
    go_simp
    go_at_call 51
    refine (wnum_any B B f ([] ++ enc 1) w3 H3.out.1 (by first | omega | (have := HFT.out; omega) | (have := HR.out.q2; omega)) (by have := enc_len f (by have := HFT.out; omega); have := enc_len t (by have := HFT.out; omega); have := enc_len x.p.q (by have := HR.out.q2; omega); simp only [List.length_append, List.length_nil]; have := enc_len 1 (by omega); omega)).mono ?_
    rintro e w4 ⟨rfl, hw, ho⟩
    have H4 := Lib.hid (And.intro hw ((H3.out.2).trans ho.1))
    refine hK.out _ _ ⟨(CS.out _ H4.out.2 1).trans HD.out.1, (CS.out _ H4.out.2 2).trans HD.out.2.1, (CS.out _ H4.out.2 3).trans HD.out.2.2⟩ (fun _ => ?_)
    clear hK K hw ho
    (try simp only [Act.put, List.setIfInBounds_toArray, List.set_cons_zero, List.set_cons_succ])
    refine wpTree.one (fun K hK => ?_)
    go_simp
    go_at_call 51
    refine (wnum_any B B t ([] ++ enc 1 ++ enc f) w4 H4.out.1 (by first | omega | (have := HFT.out; omega) | (have := HR.out.q2; omega)) (by have := enc_len f (by have := HFT.out; omega); have := enc_len t (by have := HFT.out; omega); have := enc_len x.p.q (by have := HR.out.q2; omega); simp only [List.length_append, List.length_nil]; have := enc_len 1 (by omega); omega)).mono ?_
    rintro e w5 ⟨rfl, hw, ho⟩
    have H5 := Lib.hid (And.intro hw ((H4.out.2).trans ho.1))
    refine hK.out _ _ ⟨(CS.out _ H5.out.2 1).trans HD.out.1, (CS.out _ H5.out.2 2).trans HD.out.2.1, (CS.out _ H5.out.2 3).trans HD.out.2.2⟩ (fun _ => ?_)
    clear hK K hw ho
    (try simp only [Act.put, List.setIfInBounds_toArray, List.set_cons_zero, List.set_cons_succ])
    refine wpTree.one (fun K hK => ?_)
    go_simp
    go_at_call 51
    refine (wnum_any B B x.p.q ([] ++ enc 1 ++ enc f ++ enc t) w5 H5.out.1 (by first | omega | (have := HFT.out; omega) | (have := HR.out.q2; omega)) (by have := enc_len f (by have := HFT.out; omega); have := enc_len t (by have := HFT.out; omega); have := enc_len x.p.q (by have := HR.out.q2; omega); simp only [List.length_append, List.length_nil]; have := enc_len 1 (by omega); omega)).mono ?_
    rintro e w6 ⟨rfl, hw, ho⟩
    have H6 := Lib.hid (And.intro hw ((H5.out.2).trans ho.1))
    refine hK.out _ _ ⟨(CS.out _ H6.out.2 1).trans HD.out.1, (CS.out _ H6.out.2 2).trans HD.out.2.1, (CS.out _ H6.out.2 3).trans HD.out.2.2⟩ (fun _ => ?_)
    clear hK K hw ho
    (try simp only [Act.put, List.setIfInBounds_toArray, List.set_cons_zero, List.set_cons_succ])
    (repeat (first | (refine wpTree.take (v := undef) (Or.inr ⟨by rfl, rfl⟩) ?_; simp only [Act.put, List.setIfInBounds_toArray, List.set_cons_zero, List.set_cons_succ]) | (refine wpTree.take (v := ?_) (Or.inl ⟨by rfl, ?_⟩) ?_; rotate_left; (focus (intro _ hS; (try dsimp only at hS); go_split_ands; (try subst hS); go_simp; (try (with_reducible rfl)); done)); simp only [Act.put, List.setIfInBounds_toArray, List.set_cons_zero, List.set_cons_succ])))
    refine wpTree.done ?_
    have d0 : w6.cell? ⟨W.heap.size, 0, none⟩ = some (.bool true) := (CS.out _ H6.out.2 0).trans ((H2.out.2.1.cell (p := ⟨W.heap.size, 0, none⟩) HX.out.lt).trans c0)
    clear c0
    go_wp2_with fail
    go_ret
    refine ⟨B, B, rfl, HBE.out.2.1, ?_, HB.out.trans ((H2.out.2.1.trans (H6.out.2.mono (Nat.le_of_eq HBE.out.2.2))).mono HB.out.size)⟩
    have := H6.out.1
    unfold encB ackN
    rw [← HK.out, if_pos rfl, if_pos rfl, ← HEF.out.1, ← HEF.out.2.1, List.append_nil]
    simpa using this
  | false =>
    go_enter Tryz.func85, Tryz.ntmps85
    go_upto_region 1 with fail
    rw [← HW.out]
    go_upto_region 4 with fail
    have e1 := E1.out
    have e2 := E2.out
    refine wp_region_tree (S := (fun w' => w'.cell? ⟨W.heap.size, 1, none⟩ = some (.int .i64 (f : Nat)) ∧ w'.cell? ⟨W.heap.size, 2, none⟩ = some (.int .i64 (t : Nat)) ∧ w'.cell? ⟨W.heap.size, 3, none⟩ = some (.int .u64 (x.p.q : Nat)))) (.take 1 (.take 3 (.take 4 (.take 5 (.take 7 (.take 8 (.take 9 (.take 11 (.take 12 (.one 0 (.one 2 (.one 6 (.one 10 (.one 13 (.take 14 .nil))))))))))))))) 9999 (by kernel_rfl) (by kernel_rfl) (by kernel_rfl) (by kernel_rfl) (by kernel_rfl) (fun _ _ d _ _ h => by cases d <;> exact h) ⟨c1, c2, c3⟩ (fun hHeld => ?_); simp only [Tree.map, List.getElem?_toArray, List.getElem?_cons_zero, List.getElem?_cons_succ]
    (repeat (first | (refine wpTree.take (v := undef) (Or.inr ⟨by rfl, rfl⟩) ?_; simp only [Act.put, List.setIfInBounds_toArray, List.set_cons_zero, List.set_cons_succ]) | (refine wpTree.take (v := ?_) (Or.inl ⟨by rfl, ?_⟩) ?_; rotate_left; (focus (intro _ hS; (try dsimp only at hS); go_split_ands; (try subst hS); go_simp; (try (with_reducible rfl)); done)); simp only [Act.put, List.setIfInBounds_toArray, List.set_cons_zero, List.set_cons_succ])))
    clear e1 e2
    refine wpTree.one (fun K hK => ?_)
    go_simp
    go_at_call 50
    refine (new_any w1.drew).mono ?_
    rintro e w2 ⟨rfl, hw, hb⟩
    have hx2 := HX.out.next ((Below.refl w1.heap.size w1).drew.trans hb)
    have H2 := Lib.hid (And.intro hw (And.intro ((Below.refl w1.heap.size w1).drew.trans hb) hx2))
    obtain ⟨B, hBe⟩ : ∃ B, B = w1.drew.heap.size := ⟨_, rfl⟩
    rw [← hBe] at H2 ⊢
    have HBE := Lib.hid (show W.heap.size < B ∧ W.heap.size ≤ B ∧ w1.heap.size = B by have h1 := HX.out.lt; have h2 : w1.drew.heap.size = w1.heap.size := rfl; omega)
    have cs := fun w (hb : Below B w2 w) (i : Nat) => hb.cell (p := ⟨W.heap.size, i, none⟩) HBE.out.1
    have CS := Lib.hid cs
    have d1 : w2.cell? ⟨W.heap.size, 1, none⟩ = some (.int .i64 (f : Nat)) := by rw [← c1]; exact ((Below.refl w1.heap.size w1).drew.trans hb).cell (p := ⟨W.heap.size, 1, none⟩) HX.out.lt
    have d2 : w2.cell? ⟨W.heap.size, 2, none⟩ = some (.int .i64 (t : Nat)) := by rw [← c2]; exact ((Below.refl w1.heap.size w1).drew.trans hb).cell (p := ⟨W.heap.size, 2, none⟩) HX.out.lt
    have d3 : w2.cell? ⟨W.heap.size, 3, none⟩ = some (.int .u64 (x.p.q : Nat)) := by rw [← c3]; exact ((Below.refl w1.heap.size w1).drew.trans hb).cell (p := ⟨W.heap.size, 3, none⟩) HX.out.lt
    have HD := Lib.hid (And.intro d1 (And.intro d2 d3))
    refine hK.out _ _ ⟨d1, d2, d3⟩ (fun _ => ?_)
    clear hK K hHeld hw hb hx2 hBe cs d1 d2 d3 c1 c2 c3
    (try simp only [Act.put, List.setIfInBounds_toArray, List.set_cons_zero, List.set_cons_succ])
    refine wpTree.one (fun K hK => ?_)
    go_simp
    go_at_call 51
    refine (wnum_any B B 0 [] w2 H2.out.1 (by first | omega | (have := HFT.out; omega) | (have := HR.out.q2; omega)) (by have := enc_len f (by have := HFT.out; omega); have := enc_len t (by have := HFT.out; omega); have := enc_len x.p.q (by have := HR.out.q2; omega); simp only [List.length_append, List.length_nil]; have := enc_len 0 (by omega); omega)).mono ?_
    rintro e w3 ⟨rfl, hw, ho⟩
    have H3 := Lib.hid (And.intro hw ((Below.refl B w2).trans ho.1))
    refine hK.out _ _ ⟨(CS.out _ H3.out.2 1).trans HD.out.1, (CS.out _ H3.out.2 2).trans HD.out.2.1, (CS.out _ H3.out.2 3).trans HD.out.2.2⟩ (fun _ => ?_)
    clear hK K hw ho
    (try simp only [Act.put, List.setIfInBounds_toArray, List.set_cons_zero, List.set_cons_succ])
    refine wpTree.one (fun K hK => ?_)
    go_simp
    go_at_call 51
    refine (wnum_any B B f ([] ++ enc 0) w3 H3.out.1 (by first | omega | (have := HFT.out; omega) | (have := HR.out.q2; omega)) (by have := enc_len f (by have := HFT.out; omega); have := enc_len t (by have := HFT.out; omega); have := enc_len x.p.q (by have := HR.out.q2; omega); simp only [List.length_append, List.length_nil]; have := enc_len 0 (by omega); omega)).mono ?_
    rintro e w4 ⟨rfl, hw, ho⟩
    have H4 := Lib.hid (And.intro hw ((H3.out.2).trans ho.1))
    refine hK.out _ _ ⟨(CS.out _ H4.out.2 1).trans HD.out.1, (CS.out _ H4.out.2 2).trans HD.out.2.1, (CS.out _ H4.out.2 3).trans HD.out.2.2⟩ (fun _ => ?_)
    clear hK K hw ho
    (try simp only [Act.put, List.setIfInBounds_toArray, List.set_cons_zero, List.set_cons_succ])
    refine wpTree.one (fun K hK => ?_)
    go_simp
    go_at_call 51
    refine (wnum_any B B t ([] ++ enc 0 ++ enc f) w4 H4.out.1 (by first | omega | (have := HFT.out; omega) | (have := HR.out.q2; omega)) (by have := enc_len f (by have := HFT.out; omega); have := enc_len t (by have := HFT.out; omega); have := enc_len x.p.q (by have := HR.out.q2; omega); simp only [List.length_append, List.length_nil]; have := enc_len 0 (by omega); omega)).mono ?_
    rintro e w5 ⟨rfl, hw, ho⟩
    have H5 := Lib.hid (And.intro hw ((H4.out.2).trans ho.1))
    refine hK.out _ _ ⟨(CS.out _ H5.out.2 1).trans HD.out.1, (CS.out _ H5.out.2 2).trans HD.out.2.1, (CS.out _ H5.out.2 3).trans HD.out.2.2⟩ (fun _ => ?_)
    clear hK K hw ho
    (try simp only [Act.put, List.setIfInBounds_toArray, List.set_cons_zero, List.set_cons_succ])
    refine wpTree.one (fun K hK => ?_)
    go_simp
    go_at_call 51
    refine (wnum_any B B x.p.q ([] ++ enc 0 ++ enc f ++ enc t) w5 H5.out.1 (by first | omega | (have := HFT.out; omega) | (have := HR.out.q2; omega)) (by have := enc_len f (by have := HFT.out; omega); have := enc_len t (by have := HFT.out; omega); have := enc_len x.p.q (by have := HR.out.q2; omega); simp only [List.length_append, List.length_nil]; have := enc_len 0 (by omega); omega)).mono ?_
    rintro e w6 ⟨rfl, hw, ho⟩
    have H6 := Lib.hid (And.intro hw ((H5.out.2).trans ho.1))
    refine hK.out _ _ ⟨(CS.out _ H6.out.2 1).trans HD.out.1, (CS.out _ H6.out.2 2).trans HD.out.2.1, (CS.out _ H6.out.2 3).trans HD.out.2.2⟩ (fun _ => ?_)
    clear hK K hw ho
    (try simp only [Act.put, List.setIfInBounds_toArray, List.set_cons_zero, List.set_cons_succ])
    (repeat (first | (refine wpTree.take (v := undef) (Or.inr ⟨by rfl, rfl⟩) ?_; simp only [Act.put, List.setIfInBounds_toArray, List.set_cons_zero, List.set_cons_succ]) | (refine wpTree.take (v := ?_) (Or.inl ⟨by rfl, ?_⟩) ?_; rotate_left; (focus (intro _ hS; (try dsimp only at hS); go_split_ands; (try subst hS); go_simp; (try (with_reducible rfl)); done)); simp only [Act.put, List.setIfInBounds_toArray, List.set_cons_zero, List.set_cons_succ])))
    refine wpTree.done ?_
    have d0 : w6.cell? ⟨W.heap.size, 0, none⟩ = some (.bool false) := (CS.out _ H6.out.2 0).trans ((H2.out.2.1.cell (p := ⟨W.heap.size, 0, none⟩) HX.out.lt).trans c0)
    clear c0
    have d4 : w6.cell? ⟨W.heap.size, 4, none⟩ = some (.slice x.A x.p.bs.length x.c) := (CS.out _ H6.out.2 4).trans (H2.out.2.2.cell 4)
    have hbw : Below W.heap.size W w6 := HB.out.trans ((H2.out.2.1.trans (H6.out.2.mono (Nat.le_of_eq HBE.out.2.2))).mono HB.out.size)
    have HBW := Lib.hid hbw
    have HTX := Lib.hid (wtext_any B B x.p.bs.length x.c x.A _ x.p.bs w6 H6.out.1 rfl (by have := HR.out.len; have := enc_len f (by have := HFT.out; omega); have := enc_len t (by have := HFT.out; omega); have := enc_len x.p.q (by have := HR.out.q2; omega); simp only [List.length_append, List.length_nil]; have := enc_len 0 (by omega); omega) (fun w' hO => (HO.out.next (HBW.out.trans (hO.1.mono HBE.out.2.1))).src))
    clear hbw
    go_wp2_with (first | (go_at_call 55; refine HTX.out.mono ?_; rintro e w7 ⟨rfl, hw, ho⟩; have H7 := Lib.hid (And.intro hw (HBW.out.trans (ho.1.mono HBE.out.2.1))); clear hw ho))
    go_ret
    refine ⟨B, B, rfl, HBE.out.2.1, ?_, H7.out.2⟩
    have := H7.out.1
    unfold encB ackN
    rw [← HK.out, if_neg (by decide), if_neg (by decide), ← HEF.out.1, ← HEF.out.2.1]
    simpa [List.append_assoc] using this
end
end Pk
end Go.Proofs.YtgnfachjobohoaaGreat
namespace Go.Proofs.YtgnfachjobohoaaGreat
open Go.RowKit
set_option linter.unusedSimpArgs false
set_option linter.unusedVariables false
namespace Pk
theorem enc_256 (n : Nat) : ∀ x ∈ enc n, x < 256 := by
  have h : ∀ m, ∀ x ∈ encHi m, x < 256 := by
    intro m
    induction m using Nat.strongRecOn with
    | _ m ih =>
      intro x hx
      by_cases h0 : m = 0
      · subst h0; rw [encHi_zero] at hx; cases hx
      · rw [encHi_step (by omega)] at hx
        rcases List.mem_append.1 hx with h1 | h1
        · exact ih (m / 128) (by omega) x h1
        · rw [List.mem_singleton.1 h1]; omega
  intro x hx
  unfold enc at hx
  rcases List.mem_append.1 hx with h1 | h1
  · exact h _ x h1
  · rw [List.mem_singleton.1 h1]; omega
theorem encB_256 {p : Pt} (h : ∀ y ∈ p.bs, y < 256) : ∀ y ∈ encB p, y < 256 := by
  intro y hy
  unfold encB at hy
  simp only [List.mem_append] at hy
  rcases hy with (((hy | hy) | hy) | hy) | hy
  · exact enc_256 _ y hy
  · exact enc_256 _ y hy
  · exact enc_256 _ y hy
  · exact enc_256 _ y hy
  · split at hy
    · cases hy
    · rcases List.mem_append.1 hy with hy | hy
      · exact enc_256 _ y hy
      · exact h y hy
theorem encP_256 {p : Pt} (h : ∀ y ∈ p.bs, y < 256) : ∀ y ∈ encP p, y < 256 := by
  intro y hy
  unfold encP at hy
  rcases List.mem_append.1 hy with hy | hy
  · exact encB_256 h y hy
  · exact enc_256 _ y hy
theorem encB_len {p : Pt} (h : Rt p) : (encB p).length ≤ 2000 := by
  have h1 := enc_len (ackN p.k) (by unfold ackN; split <;> omega)
  have h2 := enc_len p.f.toNat (by have := h.f2; omega)
  have h3 := enc_len p.t.toNat (by have := h.t2; omega)
  have h4 := enc_len p.q (by have := h.q2; omega)
  have h5 := h.len
  have h6 := enc_len p.bs.length (by omega)
  unfold encB
  simp only [List.length_append]
  split
  · simp only [List.length_nil]; omega
  · simp only [List.length_append]; omega
theorem own_bytes {w : World} {B : Nat} {v : Value} {bs : List Nat} (h : w.ownsRow B 5 1 v bs.length (u8s bs)) (h256 : ∀ y ∈ bs, y < 256) : Bytes w v bs := by
  obtain ⟨A, c, rfl, hc, hby, hA⟩ := Byt.own_byr h
  refine ⟨h256, A, c, rfl, hby.imp id ?_⟩
  rintro ⟨b, p, e, h1, h2⟩
  exact ⟨b, p, e, h1, fun i hi => h2 i _ (List.getElem?_eq_getElem hi)⟩
theorem own_le {w : World} {B B' : Nat} {e : TypeId} {size n : Nat} {v : Value} {xs : List Value} (h : w.ownsRow B' e size v n xs) (hB : B ≤ B') : w.ownsRow B e size v n xs := by
  obtain ⟨hl, h⟩ := h
  refine ⟨hl, h.imp id ?_⟩
  rintro ⟨g, cap, cur, e, hg, r⟩
  exact ⟨g, cap, cur, e, Nat.le_trans hB hg, r⟩
section
variable (W : World)
set_option maxRecDepth 20000 in
set_option maxHeartbeats 4000000 in
theorem write_no (x : Pc) (hr : rightB x.p = false) : Calls Tryz.prog 54 #[.agg x.cells.toArray] W fun e W' => e = .returned (.tuple #[.slice none 0 0, .int .i64 3]) ∧ Below W.heap.size W W' := by
  obtain ⟨w1, hw1⟩ : ∃ w1, w1 = W.alloc (.cells x.cells.toArray 30) := ⟨_, rfl⟩
  have hb1 : Below W.heap.size W w1 := by rw [hw1]; exact (Below.refl _ _).alloc (Nat.le_refl _) _
  have hx : Blk w1 W.heap.size 30 x.cells.toArray := by rw [hw1]; exact Blk.new _ _ _
  have HR := Lib.hid (right_any w1 x)
  have HB := Lib.hid hb1
  have HW := Lib.hid hw1
  rw [hr] at HR
  clear hr hw1 hb1
  go_enter Tryz.func54, Tryz.ntmps54
  go_upto_region 1 with fail
  rw [← HW.out]
  have hrx := hx.range
  go_wp2_with (first | (refine wpList_load_mid rfl 30 _ rfl _ _ rfl x.cells _ hrx Tryz.underlying30 rfl (pcinfo x) ?_) | (go_at_call 38; refine HR.out.mono ?_; rintro e w2 ⟨rfl, hb⟩; have HB2 := Lib.hid hb; clear hb))
  go_ret2
  exact ⟨rfl, HB.out.trans (HB2.out.mono HB.out.size)⟩
set_option maxRecDepth 20000 in
set_option maxHeartbeats 4000000 in
theorem write_yes (x : Pc) (hr : Rt x.p) (ho : x.Ok W) : Calls Tryz.prog 54 #[.agg x.cells.toArray] W fun e W' => ∃ v, e = .returned (.tuple #[v, .int .i64 0]) ∧ W'.ownsRow W.heap.size 5 1 v (encP x.p).length (u8s (encP x.p)) ∧ Below W.heap.size W W' := by
  obtain ⟨w1, hw1⟩ : ∃ w1, w1 = W.alloc (.cells x.cells.toArray 30) := ⟨_, rfl⟩
  have hb1 : Below W.heap.size W w1 := by rw [hw1]; exact (Below.refl _ _).alloc (Nat.le_refl _) _
  have hx : Blk w1 W.heap.size 30 x.cells.toArray := by rw [hw1]; exact Blk.new _ _ _
  have HR := Lib.hid (right_any w1 x)
  have HB := Lib.hid hb1
  have HW := Lib.hid hw1
  rw [of_right hr] at HR
  have HO := Lib.hid ho
  have HE := Lib.hid (And.intro (encB_len hr) (encB_256 ho.h256))
  have HRT := Lib.hid hr
  clear hr hw1 hb1 ho
  go_enter Tryz.func54, Tryz.ntmps54
  go_upto_region 1 with fail
  rw [← HW.out]
  have hrx := hx.range
  have HX := Lib.hid hx
  clear hx
  go_upto_region 3 with (first | (refine wpList_load_mid rfl 30 _ rfl _ _ rfl x.cells _ hrx Tryz.underlying30 rfl (pcinfo x) ?_) | (go_at_call 38; refine HR.out.mono ?_; rintro e w2 ⟨rfl, hb⟩; have HB2 := Lib.hid (HB.out.trans (hb.mono HB.out.size)); have hrx2 := (HX.out.next hb).range; clear hb hrx HX))
  have HBO := Lib.hid (body_any w2 x HRT.out (HO.out.next HB2.out))
  go_upto_region 4 with (first | (refine wpList_load_mid rfl 30 _ rfl _ _ rfl x.cells _ hrx2 Tryz.underlying30 rfl (pcinfo x) ?_) | (go_at_call 85; refine HBO.out.mono ?_; rintro e w3 ⟨g, B, rfl, hB, hw, hb⟩; have HB3 := Lib.hid (HB2.out.trans (hb.mono HB2.out.size)); have HWT := Lib.hid (And.intro (Nat.le_trans HB2.out.size hB) hw); clear hb hB hw HBO))
  clear hrx2
  obtain ⟨en, hen⟩ : ∃ en, en = encB x.p := ⟨_, rfl⟩
  have HEN := Lib.hid hen
  rw [← hen] at HE HWT
  clear hen
  have HY := Lib.hid (bytes_any B g en w3 HWT.out.2 (by have := HE.out.1; omega))
  have hcl := Crc.sum_lt HE.out.2
  obtain ⟨s, hs⟩ : ∃ s, s = Crc.sum en := ⟨_, rfl⟩
  have HS := Lib.hid hs
  rw [← hs] at hcl
  have e1 : IntKind.u64.wrap (s : Int) = (s : Nat) := by rw [IntKind.wrap_u64]; omega
  have HCL := Lib.hid hcl
  clear hs hcl
  go_wp2_with (first | (go_at_call 56; refine HY.out.mono ?_; rintro e w4 ⟨v4, rfl, ho, hb⟩; have HV4 := Lib.hid (of_any v4 en w4 (own_bytes ho HE.out.2) (by have := HE.out.1; omega)); have HW4 := Lib.hid (HWT.out.2.next hb); have HB4 := Lib.hid (HB3.out.trans (hb.mono HB3.out.size)); rw [← HS.out] at HV4; clear ho hb HY) | (go_at_call 86; refine HV4.out.mono ?_; rintro e w5 ⟨rfl, hb⟩; have HW5 := Lib.hid (HW4.out.next hb); have HB5 := Lib.hid (HB4.out.trans (hb.mono HB4.out.size)); clear hb HV4) | (go_at_call 51; refine (wnum_any B g s en w5 HW5.out (by have := HCL.out; omega) (by have := HE.out.1; omega)).mono ?_; rintro e w6 ⟨rfl, hw, ho⟩; have HB6 := Lib.hid (HB5.out.trans (ho.1.mono HWT.out.1)); have HY6 := Lib.hid (bytes_any B g (en ++ enc s) w6 hw (by rw [List.length_append]; have := enc_len s (by have := HCL.out; omega); have := HE.out.1; omega)); clear hw ho) | (go_at_call 56; refine HY6.out.mono ?_; rintro e w7 ⟨v7, rfl, ho, hb⟩; have HO7 := Lib.hid ho; have HB7 := Lib.hid (HB6.out.trans (hb.mono HB6.out.size)); clear ho hb HY6))
  go_ret2
  refine ⟨_, rfl, ?_, HB7.out⟩
  have := own_le HO7.out HB6.out.size
  unfold encP
  rw [← HEN.out, ← HS.out]
  exact this
end
end Pk
end Go.Proofs.YtgnfachjobohoaaGreat
