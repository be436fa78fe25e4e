/-
links: the document's packets: cells; As.
links: the document's packets: Right.
links: the document's Ack.
links: the document's Packets.
links: the document's Put.
links: the document's Hear.
-/
import Derived.Test.YtifoheodcbjapaaLsR
import Derived.Test.YtifoheodcbjapaaLs10
import Derived.Test.YtifoheodcbjapaaPk10
import Derived.Test.YtifoheodcbjapaaStrS
namespace Go.Proofs.Ytifoheodcbjapaa
open Go.RowKit
set_option linter.unusedSimpArgs false
set_option linter.unusedVariables false
namespace Ls
open Lk
theorem conv_byr {w : World} {A : Option Addr} {c n : Nat} {bs : List Nat} (h : Byt.ByR w A bs) (hA : A = none → bs = []) (hb : ∀ y ∈ bs, y < 256) (hn : bs.length = n) : (convert 38 9 (.slice A n c)).run Try.prog w = .ok (.string (Byt.bstr bs)) w :=
  Byt.conv_src w A n c bs (hn ▸ h.src hA) hn hb
/-- A packet as the document's. -/
def rpc (p : Pk.Pt) : List Value := [.bool p.k, .int .i64 p.f, .int .i64 p.t, .int .u64 (p.q : Nat), .string (Byt.bstr p.bs)]
theorem rpc_len (p : Pk.Pt) : (rpc p).length = 5 := rfl
theorem rpc_def (p : Pk.Pt) : rpc p = [.bool p.k, .int .i64 p.f, .int .i64 p.t, .int .u64 (p.q : Nat), .string (Byt.bstr p.bs)] := by unfold rpc; rfl
theorem rpc_ones (p : Pk.Pt) : ∀ v ∈ rpc p, v.oneCell' = true := by
  intro v hv
  unfold rpc at hv
  simp only [List.mem_cons, List.not_mem_nil, or_false] at hv
  rcases hv with rfl | rfl | rfl | rfl | rfl <;> rfl
theorem rpc_one (p : Pk.Pt) : (rpc p).toArray.all (·.oneCell') = true := all_oneCell_toArray (rpc_ones p)
theorem zrp_cells : rpc zp = [.bool false, .int .i64 0, .int .i64 0, .int .u64 0, .string ⟨#[]⟩] := by rw [rpc_def, Byt.bstr_lit]; rfl
attribute [irreducible] rpc
theorem rpinfo (p : Pk.Pt) : (Try.prog.info? 82).map (·.size) = some (rpc p).length := by rw [rpc_len]; kernel_rfl
theorem rpinfoA (p : Pk.Pt) : (Try.prog.info? 82).map (·.size) = some (rpc p).toArray.size := by rw [List.size_toArray, rpc_len]; kernel_rfl
theorem rp_siz (p q : Pk.Pt) : (rpc p).toArray.size = (rpc q).toArray.size := by rw [List.size_toArray, List.size_toArray, rpc_len, rpc_len]
abbrev zrpA : Array Value := #[.bool false, .int .i64 0, .int .i64 0, .int .u64 0, .string ⟨#[]⟩]
theorem zrp_arr : (rpc zp).toArray = zrpA := by rw [zrp_cells]
theorem zrp_siz (p : Pk.Pt) : (zrpA : Array Value).size = (rpc p).toArray.size := by
  show 5 = (rpc p).toArray.size
  rw [List.size_toArray, rpc_len]
theorem built_rpc (k : Bool) (f t : Int) (q : Nat) (bs : List Nat) : Try.prog.built 82 [(0, .bool k), (1, .int .i64 f), (2, .int .i64 t), (3, .int .u64 (q : Nat)), (4, .string (Byt.bstr bs))] = some (rpc ⟨k, f, t, q, bs⟩).toArray := by rw [rpc_def]; kernel_rfl
theorem rp_all {W : World} {b : Nat} {t : TypeId} {p : Pk.Pt} (h : Blk W b t (rpc p).toArray) : W.rangeAt b 0 (rpc p) ∧ W.cell? ⟨b, 0, none⟩ = some (.bool p.k) ∧ W.cell? ⟨b, 1, none⟩ = some (.int .i64 p.f) ∧ W.cell? ⟨b, 2, none⟩ = some (.int .i64 p.t) ∧ W.cell? ⟨b, 3, none⟩ = some (.int .u64 (p.q : Nat)) ∧ W.cell? ⟨b, 4, none⟩ = some (.string (Byt.bstr p.bs)) := by
  have hc : ∀ i, W.cell? ⟨b, i, none⟩ = (rpc p)[i]? := fun i => by rw [h.cell, List.getElem?_toArray]
  refine ⟨h.range, ?_, ?_, ?_, ?_, ?_⟩ <;> (rw [hc, rpc_def]; rfl)
theorem pc_all {W : World} {b : Nat} {t : TypeId} {x : Pk.Pc} (h : Blk W b t x.cells.toArray) : W.cell? ⟨b, 0, none⟩ = some (.bool x.p.k) ∧ W.cell? ⟨b, 1, none⟩ = some (.int .i64 x.p.f) ∧ W.cell? ⟨b, 2, none⟩ = some (.int .i64 x.p.t) ∧ W.cell? ⟨b, 3, none⟩ = some (.int .u64 (x.p.q : Nat)) ∧ W.cell? ⟨b, 4, none⟩ = some (.slice x.A x.p.bs.length x.c) := by
  have hc : ∀ i, W.cell? ⟨b, i, none⟩ = x.cells[i]? := fun i => by rw [h.cell, List.getElem?_toArray]
  refine ⟨?_, ?_, ?_, ?_, ?_⟩ <;> (rw [hc]; unfold Pk.Pc.cells; rfl)
set_option maxRecDepth 20000 in
set_option maxHeartbeats 4000000 in
theorem as15_any (x : Pk.Pc) (W : World) (ho : x.Ok W) : Calls Try.prog 29 #[.agg x.cells.toArray] W fun e W' => e = .returned (.agg (rpc x.p).toArray) ∧ Below W.heap.size W W' := by
  have bA := (Blk.new W 40 x.cells.toArray).alloc (.cells zrpA 82)
  have bR : Blk ((W.alloc (.cells x.cells.toArray 40)).alloc (.cells zrpA 82)) (W.heap.size + 1) 82 zrpA := Blk.new' (by simp)
  have hB := ((Below.refl W.heap.size W).alloc (Nat.le_refl _) (.cells x.cells.toArray 40)).alloc (by simp) (.cells zrpA 82)
  obtain ⟨w1, hw1⟩ : ∃ w1, w1 = (W.alloc (.cells x.cells.toArray 40)).alloc (.cells zrpA 82) := ⟨_, rfl⟩
  rw [← hw1] at bA bR hB
  have HW1 := Lib.hid hw1
  have HB := Lib.hid hB
  obtain ⟨c0, c1, c2, c3, c4⟩ := pc_all bA
  have cv := conv_byr (c := x.c) (ho.next hB).rd ho.hA ho.h256 rfl
  obtain ⟨⟨k, f, t, q, bs⟩, A, c⟩ := x
  dsimp only at c0 c1 c2 c3 c4 cv
  have hbl := built_rpc k f t q bs
  obtain ⟨n, hn⟩ : ∃ n, n = bs.length := ⟨_, rfl⟩
  rw [← hn] at c4 cv
  clear bA hB hw1 ho hn
  go_enter Try.func29, Try.ntmps29
  go_upto_region 1 with fail
  rw [← HW1.out]
  clear HW1
  go_wp2_with (first | (refine Nd.wpList_build_lit (rpc ⟨k, f, t, q, bs⟩).toArray rfl 82 _ rfl hbl ?_) | (refine wpList_store_blk rfl 82 _ _ rfl (W.heap.size + 1) 82 zrpA (rpc ⟨k, f, t, q, bs⟩).toArray rfl rfl bR (rpinfoA _) (zrp_siz _) (rpc_one _) ?_; intro hrow))
  exact bodyPost_row (t := 82) (rpc ⟨k, f, t, q, bs⟩).toArray rfl rfl rfl Try.underlying82 rfl (rpinfoA _) hrow ⟨rfl, below_setRow HB.out (by omega) _⟩
end Ls
end Go.Proofs.Ytifoheodcbjapaa
namespace Go.Proofs.Ytifoheodcbjapaa
open Go.RowKit
set_option linter.unusedSimpArgs false
set_option linter.unusedVariables false
namespace Ls
open Lk
set_option maxRecDepth 20000 in
set_option maxHeartbeats 8000000 in
theorem rright15_any (p : Pk.Pt) (W : World) (h256 : ∀ y ∈ p.bs, y < 256) : Calls Try.prog 57 #[.agg (rpc p).toArray] W fun e W' => e = .returned (.bool (Pk.rightB p)) ∧ Below W.heap.size W W' := by
  have bA := Blk.new W 82 (rpc p).toArray
  have HB := Lib.hid ((Below.refl W.heap.size W).alloc (Nat.le_refl _) (.cells (rpc p).toArray 82))
  obtain ⟨w1, hw1⟩ : ∃ w1, w1 = W.alloc (.cells (rpc p).toArray 82) := ⟨_, rfl⟩
  rw [← hw1] at bA HB
  have HW := Lib.hid hw1
  obtain ⟨-, c0, c1, c2, c3, c4⟩ := rp_all bA
  obtain ⟨k, f, t, q, bs⟩ := p
  dsimp only at c0 c1 c2 c3 c4
  have hz : (Byt.bstr bs).size = bs.length := Byt.bstr_size bs
  have k3 : ∀ w, (binOp .eql 9 (.string (Byt.bstr bs)) (.string ⟨#[]⟩)).run Try.prog w = .ok (.bool (decide (bs = []))) w := fun w => by
    have := Sx.str_eql w bs [] h256 (by simp)
    rwa [show Byt.bstr [] = ⟨#[]⟩ from by rw [Byt.bstr_lit]; rfl] at this
  have k4 : (Byt.bstr bs).toList.isEmpty = decide (bs = []) := by
    have := Sx.toList_beq bs [] h256 (by simp)
    rw [show Byt.bstr [] = ⟨#[]⟩ from by rw [Byt.bstr_lit]; rfl] at this
    rw [← this, show ByteArray.toList ⟨#[]⟩ = [] from by simp]
    cases (Byt.bstr bs).toList <;> rfl
  obtain ⟨s, hs⟩ : ∃ s, s = Byt.bstr bs := ⟨_, rfl⟩
  rw [← hs] at c4 hz k3 k4
  obtain ⟨n, hn⟩ : ∃ n, n = bs.length := ⟨_, rfl⟩
  rw [← hn] at hz
  have hN : decide (bs = []) = decide (n = 0) := by rw [hn]; cases bs <;> simp
  rw [hN] at k3 k4
  have HR := Lib.hid (show Pk.rightB ⟨k, f, t, q, bs⟩ = (Pk.nodeB f && Pk.nodeB t && decide (f ≠ t) && Pk.seqB q && Pk.dataB k n) by rw [hn]; rfl)
  have HC := Lib.hid (And.intro c0 (And.intro c1 (And.intro c2 (And.intro c3 c4))))
  have HZ := Lib.hid hz
  have HK := Lib.hid (And.intro k3 k4)
  clear bA hw1 hs hn hN h256 hz k3 k4
  rw [HR.out]
  unfold Pk.nodeB Pk.seqB
  go_enter Try.func57, Try.ntmps57
  go_upto_region 1 with fail
  rw [← HW.out]
  clear HW c0 c4
  by_cases t0 : f < 1
  · have d0 := decide_eq_true t0
    have Ht0 := Lib.hid (show decide ((1 : Int) ≤ f) = false by rw [decide_eq_false_iff_not]; omega)
    clear t0
    go_wp2_with fail
    go_ret
    exact ⟨by rw [Ht0.out]; simp, HB.out⟩
  have d0 := decide_eq_false t0
  have Ht0 := Lib.hid (show decide ((1 : Int) ≤ f) = true by rw [decide_eq_true_iff]; omega)
  clear t0
  by_cases t1 : (12 : Int) < f
  · have d1 := decide_eq_true t1
    have Ht1 := Lib.hid (show decide (f ≤ 12) = false by rw [decide_eq_false_iff_not]; omega)
    clear t1
    go_wp2_with fail
    go_ret
    exact ⟨by rw [Ht1.out]; simp, HB.out⟩
  have d1 := decide_eq_false t1
  have Ht1 := Lib.hid (show decide (f ≤ 12) = true by rw [decide_eq_true_iff]; omega)
  clear t1
  by_cases t2 : t < 1
  · have d2 := decide_eq_true t2
    have Ht2 := Lib.hid (show decide ((1 : Int) ≤ t) = false by rw [decide_eq_false_iff_not]; omega)
    clear t2
    go_wp2_with fail
    go_ret
    exact ⟨by rw [Ht2.out]; simp, HB.out⟩
  have d2 := decide_eq_false t2
  have Ht2 := Lib.hid (show decide ((1 : Int) ≤ t) = true by rw [decide_eq_true_iff]; omega)
  clear t2
  by_cases t3 : (12 : Int) < t
  · have d3 := decide_eq_true t3
    have Ht3 := Lib.hid (show decide (t ≤ 12) = false by rw [decide_eq_false_iff_not]; omega)
    clear t3
    go_wp2_with fail
    go_ret
    exact ⟨by rw [Ht3.out]; simp, HB.out⟩
  have d3 := decide_eq_false t3
  have Ht3 := Lib.hid (show decide (t ≤ 12) = true by rw [decide_eq_true_iff]; omega)
  clear t3
  by_cases t4 : f = t
  · have d4 : (f == t) = true := by simp [t4]
    have Ht4 := Lib.hid t4
    clear t4
    go_wp2_with fail
    go_ret
    exact ⟨by rw [show decide (f ≠ t) = false from decide_eq_false (fun h => h Ht4.out)]; simp, HB.out⟩
  have d4 : (f == t) = false := by simpa using t4
  have Ht4 := Lib.hid (show decide (f ≠ t) = true from decide_eq_true t4)
  clear t4
  by_cases t5 : (q : Int) < 1
  · have d5 := decide_eq_true t5
    have Ht5 := Lib.hid (show decide (1 ≤ q) = false by rw [decide_eq_false_iff_not]; omega)
    clear t5
    go_wp2_with fail
    go_ret
    exact ⟨by rw [Ht5.out]; simp, HB.out⟩
  have d5 := decide_eq_false t5
  have Ht5 := Lib.hid (show decide (1 ≤ q) = true by rw [decide_eq_true_iff]; omega)
  clear t5
  by_cases t6 : (1099511627776 : Int) < (q : Nat)
  · have d6 := decide_eq_true t6
    have Ht6 := Lib.hid (show decide (q ≤ 1099511627776) = false by rw [decide_eq_false_iff_not]; omega)
    clear t6
    go_wp2_with fail
    go_ret
    exact ⟨by rw [Ht6.out]; simp, HB.out⟩
  have d6 := decide_eq_false t6
  have Ht6 := Lib.hid (show decide (q ≤ 1099511627776) = true by rw [decide_eq_true_iff]; omega)
  clear t6
  go_upto_region 3 with fail
  clear d0 d1 d2 d3 d4 d5 d6 c1 c2 c3
  obtain ⟨c0, -, -, -, c4⟩ := HC.out
  have hall : ∀ z, (decide (1 ≤ f) && decide (f ≤ 12) && (decide (1 ≤ t) && decide (t ≤ 12)) && decide (f ≠ t) && (decide (1 ≤ q) && decide (q ≤ 1099511627776)) && z) = z := fun z => by rw [Ht0.out, Ht1.out, Ht2.out, Ht3.out, Ht4.out, Ht5.out, Ht6.out]; simp
  have HALL := Lib.hid hall
  clear hall
  obtain ⟨z, hzz⟩ : ∃ z : Int, ((s.size : Nat) : Int) = z := ⟨_, rfl⟩
  have HZZ := Lib.hid (show z = (n : Nat) by rw [← hzz, HZ.out])
  obtain ⟨k3, k4⟩ := HK.out
  clear HK HZ
  cases k with
  | true =>
    by_cases h0 : n = 0
    · rw [decide_eq_true h0] at k3 k4
      have H0 := Lib.hid h0
      clear h0 hzz
      go_wp2_with fail
      go_ret
      exact ⟨by rw [HALL.out]; simp [Pk.dataB, H0.out], HB.out⟩
    · rw [decide_eq_false h0] at k3 k4
      have H0 := Lib.hid h0
      clear h0 hzz
      go_wp2_with fail
      go_ret
      exact ⟨by rw [HALL.out]; simp [Pk.dataB, H0.out], HB.out⟩
  | false =>
    clear k3 k4
    by_cases h0 : 1 ≤ n
    · have p0 : decide ((0 : Int) < z) = true := by have := HZZ.out; rw [decide_eq_true_iff]; omega
      have p1 : (0 : Int) < z := of_decide_eq_true p0
      by_cases h1 : n ≤ 1800
      · have p2 : decide (z ≤ 1800) = true := by have := HZZ.out; rw [decide_eq_true_iff]; omega
        have H01 := Lib.hid (And.intro h0 h1)
        clear h0 h1 p1
        go_wp2_with fail
        go_ret
        exact ⟨by rw [HALL.out]; simp [Pk.dataB, H01.out.1, H01.out.2], HB.out⟩
      · have p2 : decide (z ≤ 1800) = false := by have := HZZ.out; rw [decide_eq_false_iff_not]; omega
        have H01 := Lib.hid (And.intro h0 h1)
        clear h0 h1 p1
        go_wp2_with fail
        go_ret
        exact ⟨by rw [HALL.out]; simp [Pk.dataB]; intro _; have := H01.out.2; omega, HB.out⟩
    · have p0 : decide ((0 : Int) < z) = false := by have := HZZ.out; rw [decide_eq_false_iff_not]; omega
      have H01 := Lib.hid h0
      clear h0
      go_wp2_with fail
      go_ret
      exact ⟨by rw [HALL.out]; simp [Pk.dataB]; intro h; exact absurd h (by have := H01.out; omega), HB.out⟩
end Ls
end Go.Proofs.Ytifoheodcbjapaa
namespace Go.Proofs.Ytifoheodcbjapaa
open Go.RowKit
set_option linter.unusedSimpArgs false
set_option linter.unusedVariables false
namespace Ls
open Lk
theorem built_rp0 : Try.prog.built 82 [] = some (rpc zp).toArray := by rw [zrp_arr]; kernel_rfl
theorem rpc_ack {own t : Nat} {n z : Int} (h : z = (t : Nat)) : (#[.bool true, .int .i64 (own : Nat), .int .i64 n, .int .u64 z, .string ⟨#[]⟩] : Array Value) = (rpc ⟨true, (own : Nat), n, t, []⟩).toArray := by
  subst h
  rw [rpc_def, Byt.bstr_lit]; rfl
section
variable (w : World) {B r own m : Nat} {F : Nat → Prop} {th : Nat → Bool} {X : Nat → RS} {V : Nat → Value} {S : Nat → LS}
set_option maxRecDepth 20000 in
set_option maxHeartbeats 4000000 in
theorem rack17_any (D : RX w B r F own th X V m) (C : Cor own S th X) (hm : m ≤ 300) (n : Int) : Calls Try.prog 33 #[.pointer (some ⟨r, 0, none⟩), .int .i64 n] w fun e w' => e = .returned (.tuple #[.agg (rpc (ackP own S n)).toArray, .bool (ackB own S n)]) ∧ Below w.heap.size w w' := by
  obtain ⟨w1, hw1⟩ : ∃ w1, w1 = w.alloc (.cells zrpA 82) := ⟨_, rfl⟩
  have hb1 : Below w.heap.size w w1 := by rw [hw1]; exact (Below.refl _ _).alloc (Nat.le_refl _) _
  have hx1 : Blk w1 w.heap.size 82 zrpA := by rw [hw1]; exact Blk.new _ _ _
  have D1 := D.next hb1
  have HM := Lib.hid (rmay_any w1 D1 n)
  have HB := Lib.hid hb1
  cases hb : isO own n with
  | false =>
    rw [hb] at HM
    have e : ackB own S n = false := by unfold ackB hasB; rw [hb]; rfl
    have e2 : ackP own S n = zp := by unfold ackP; rw [e]; rfl
    rw [e, e2]
    clear hb D C hb1 D1 e e2
    go_enter Try.func33, Try.ntmps33
    go_upto_region 1 with fail
    rw [show (#[Value.bool false, .int .i64 0, .int .i64 0, .int .u64 0, .string ⟨#[]⟩] : Array Value) = zrpA from rfl, ← hw1]
    clear hw1
    go_wp2_with (first | (go_at_call 34; refine HM.out.mono ?_; rintro e w2 ⟨rfl, rfl⟩) | (refine Nd.wpList_build_lit (rpc zp).toArray rfl 82 _ rfl built_rp0 ?_) | (refine wpList_store_blk rfl 82 _ _ rfl w.heap.size 82 zrpA (rpc zp).toArray rfl rfl hx1 (rpinfoA _) (zrp_siz _) (rpc_one _) ?_; intro hY))
    refine bodyPost_row_tmp (rpc zp).toArray (.bool false) rfl rfl rfl rfl Try.underlying82 rfl (rpinfoA _) hY ?_
    exact ⟨rfl, below_setRow HB.out (Nat.le_refl _) _⟩
  | true =>
    rw [hb] at HM
    obtain ⟨i, rfl, hi1, hi12, hio, hti⟩ := isO_nat hb
    have hhas := C.has i
    have i1 : (i : Int) < 13 := by omega
    have i2 : ¬ (i : Int) < 0 := by omega
    have hR := D1.rf hm (show i < 13 by omega)
    have c2 := hR.c2
    obtain ⟨z, hz⟩ : ∃ z : Int, z = ((X i).t : Nat) := ⟨_, rfl⟩
    rw [← hz] at c2
    by_cases h0 : (X i).t = 0
    · have z0 : (z == 0) = true := by rw [hz, h0]; rfl
      have e : ackB own S ((i : Nat) : Int) = false := by
        unfold ackB
        rw [hhas]
        cases ht : th i with
        | false => rfl
        | true =>
          rw [hti, (C.yes i ht).2.2.2]
          unfold RS.ls
          rw [decide_eq_false (by rw [h0]; simp)]
          rfl
      have e2 : ackP own S ((i : Nat) : Int) = zp := by unfold ackP; rw [e]; rfl
      rw [e, e2]
      clear hb D C hb1 D1 e e2 hR h0 hhas hi1 hi12 hio hti hz
      go_enter Try.func33, Try.ntmps33
      go_upto_region 1 with fail
      rw [show (#[Value.bool false, .int .i64 0, .int .i64 0, .int .u64 0, .string ⟨#[]⟩] : Array Value) = zrpA from rfl, ← hw1]
      clear hw1
      go_wp2_with (first | (go_at_call 34; refine HM.out.mono ?_; rintro e w2 ⟨rfl, rfl⟩) | (refine Nd.wpList_build_lit (rpc zp).toArray rfl 82 _ rfl built_rp0 ?_) | (refine wpList_store_blk rfl 82 _ _ rfl w.heap.size 82 zrpA (rpc zp).toArray rfl rfl hx1 (rpinfoA _) (zrp_siz _) (rpc_one _) ?_; intro hY))
      refine bodyPost_row_tmp (rpc zp).toArray (.bool false) rfl rfl rfl rfl Try.underlying82 rfl (rpinfoA _) hY ?_
      exact ⟨rfl, below_setRow HB.out (Nat.le_refl _) _⟩
    · have ht : th i = true := by
        cases ht : th i with
        | true => rfl
        | false => exact absurd (by rw [(C.no i ht).1]; rfl) h0
      obtain ⟨x1, hx1t⟩ : ∃ x1, x1 = (X i).t := ⟨_, rfl⟩
      have z0 : (z == 0) = false := by rw [hz]; simp [h0]
      have e : ackB own S ((i : Nat) : Int) = true := by
        unfold ackB
        rw [hhas, ht, hti, (C.yes i ht).2.2.2]
        unfold RS.ls
        rw [decide_eq_true (show 1 < (X i).t + 1 by omega)]
        rfl
      have e2 : ackP own S ((i : Nat) : Int) = ⟨true, (own : Nat), (i : Nat), x1, []⟩ := by
        unfold ackP
        rw [e, if_pos rfl, hti, (C.yes i ht).2.2.2, hx1t]
        rfl
      rw [e, e2]
      have HCE := Lib.hid (rpc_ack (own := own) (n := ((i : Nat) : Int)) (t := x1) (hz.trans (by rw [hx1t])))
      have hW : IntKind.u64.wrap z = z := by have := (D.le i).2; rw [IntKind.wrap_u64, hz]; omega
      have c0 := D1.c0
      have HR1 := Lib.hid D1.blk
      have hne : r ≠ w.heap.size := by have := D.low r D.fr; omega
      clear hb D C hb1 D1 e e2 hR h0 hhas hi1 hi12 hio hti hz ht hx1t
      go_enter Try.func33, Try.ntmps33
      go_upto_region 1 with fail
      rw [show (#[Value.bool false, .int .i64 0, .int .i64 0, .int .u64 0, .string ⟨#[]⟩] : Array Value) = zrpA from rfl, ← hw1]
      clear hw1
      go_upto_region 3 with (first | (go_at_call 34; refine HM.out.mono ?_; rintro e w2 ⟨rfl, rfl⟩))
      (try simp only [Act.put, List.setIfInBounds_toArray, List.set_cons_zero, List.set_cons_succ])
      refine wp_region_tree (S := (fun w' => w'.cell? ⟨r, 0, none⟩ = some (.int .i64 (own : Nat)) ∧ w'.cell? ⟨r, 14 + i * 3 + 2, none⟩ = some (.int .i64 z))) (.take 0 (.take 1 (.take 2 (.take 3 (.take 4 (.take 5 (.take 6 (.take 7 (.take 8 (.take 9 (.take 10 (.take 11 (.take 12 (.take 13 (.one 14 (.take 15 .nil)))))))))))))))) 9999 (by kernel_rfl) (by kernel_rfl) (by kernel_rfl) (by kernel_rfl) (by kernel_rfl) (fun _ _ d _ _ h => by cases d <;> exact h) ⟨c0, c2⟩ (fun hHeld => ?_); simp only [Tree.map, List.getElem?_toArray, List.getElem?_cons_zero, List.getElem?_cons_succ]
      (repeat (first | (refine wpTree.take (v := undef) (Or.inr ⟨by rfl, rfl⟩) ?_; simp only [Act.put, List.setIfInBounds_toArray, List.set_cons_zero, List.set_cons_succ]) | (refine wpTree.take (v := ?_) (Or.inl ⟨by rfl, ?_⟩) ?_; rotate_left; (focus (intro _ hS; (try dsimp only at hS); go_split_ands; (try subst hS); go_simp; (try (with_reducible rfl)); done)); simp only [Act.put, List.setIfInBounds_toArray, List.set_cons_zero, List.set_cons_succ])))
      rw [HCE.out]
      refine wpTree.one (fun K hK => ?_)
      refine step_store_blk (by rfl) 82 _ _ rfl w.heap.size 82 zrpA (rpc ⟨true, (own : Nat), (i : Nat), x1, []⟩).toArray rfl rfl hx1.drew (rpinfoA _) (zrp_siz _) (rpc_one _) ?_
      refine hK.out _ _ ?_ (fun _ => ?_)
      · exact ⟨(World.cell?_of_block (setRow_other _ w.heap.size r _ hne)).trans c0, (World.cell?_of_block (setRow_other _ w.heap.size r _ hne)).trans c2⟩
      clear hK K
      (try simp only [Act.put, List.setIfInBounds_toArray, List.set_cons_zero, List.set_cons_succ])
      (repeat (first | (refine wpTree.take (v := undef) (Or.inr ⟨by rfl, rfl⟩) ?_; simp only [Act.put, List.setIfInBounds_toArray, List.set_cons_zero, List.set_cons_succ]) | (refine wpTree.take (v := ?_) (Or.inl ⟨by rfl, ?_⟩) ?_; rotate_left; (focus (intro _ hS; (try dsimp only at hS); go_split_ands; (try subst hS); go_simp; (try (with_reducible rfl)); done)); simp only [Act.put, List.setIfInBounds_toArray, List.set_cons_zero, List.set_cons_succ])))
      refine wpTree.done ?_
      go_wp2_with fail
      refine bodyPost_row_tmp (rpc ⟨true, (own : Nat), (i : Nat), x1, []⟩).toArray (.bool true) rfl rfl rfl rfl Try.underlying82 rfl (rpinfoA _) (hx1.drew.setRow _) ?_
      exact ⟨rfl, below_setRow HB.out.drew (Nat.le_refl _) _⟩
end
end Ls
end Go.Proofs.Ytifoheodcbjapaa
namespace Go.Proofs.Ytifoheodcbjapaa
open Go.RowKit
set_option linter.unusedSimpArgs false
set_option linter.unusedVariables false
namespace Ls
open Lk
def rpcs (l : List Pk.Pt) : List Value := l.flatMap rpc
theorem rpcs_app (l m : List Pk.Pt) : rpcs (l ++ m) = rpcs l ++ rpcs m := by simp [rpcs]
theorem rpcs_one (x : Pk.Pt) : rpcs [x] = rpc x := by simp [rpcs]
theorem rpcs_len (l : List Pk.Pt) : (rpcs l).length = l.length * 5 := by
  induction l with
  | nil => rfl
  | cons x l ih => simp only [rpcs, List.flatMap_cons, List.length_append, rpc_len, List.length_cons] at ih ⊢; rw [ih]; omega
theorem rpcs_get : ∀ (l : List Pk.Pt) (i : Nat) (x : Pk.Pt) (j : Nat), l[i]? = some x → j < 5 → (rpcs l)[i * 5 + j]? = (rpc x)[j]?
  | [], i, x, j, h, _ => by simp at h
  | y :: l, 0, x, j, h, hj => by
    simp only [List.getElem?_cons_zero, Option.some.injEq] at h
    subst h
    simp only [rpcs, List.flatMap_cons]
    rw [List.getElem?_append_left (by rw [rpc_len]; omega)]
    congr 1
    omega
  | y :: l, i + 1, x, j, h, hj => by
    simp only [List.getElem?_cons_succ] at h
    have := rpcs_get l i x j h hj
    simp only [rpcs, List.flatMap_cons] at this ⊢
    rw [List.getElem?_append_right (by rw [rpc_len]; omega), rpc_len, show (i + 1) * 5 + j - 5 = i * 5 + j by omega]
    exact this
theorem info_rpk : ∃ i z, Try.prog.info? 82 = some i ∧ i.zero = some z ∧ i.size = 5 ∧ i.bytes = 48 ∧ z.cells.size = 5 := by
  have h : ((Try.prog.info? 82).bind fun i => i.zero.map fun z => (i.size, i.bytes, z.cells.size)) = some (5, 48, 5) := by kernel_rfl
  cases hi : Try.prog.info? 82 with
  | none => rw [hi] at h; cases h
  | some i =>
    rw [hi] at h
    simp only [Option.bind_some, Option.map_eq_some_iff, Prod.mk.injEq] at h
    obtain ⟨z, hz, h1, h2, h3⟩ := h
    exact ⟨i, z, rfl, hz, h1, h2, h3⟩
/-- The document's packets so far. -/
theorem rpc_cell (x : Pk.Pt) : ∀ u ∈ rpc x, u.oneCell' = true := fun u hu => Array.all_eq_true'.1 (rpc_one x) u (by simpa using hu)
structure RPk (w w' : World) (v : Value) (l : List Pk.Pt) : Prop where
  b : Below w.heap.size w w'
  row : w'.ownsRow w.heap.size 82 5 v l.length (rpcs l)
theorem RPk.next {w w1 w2 : World} {v : Value} {l : List Pk.Pt} (h : RPk w w1 v l) (hb : Below w1.heap.size w1 w2) : RPk w w2 v l := ⟨h.b.trans (hb.mono h.b.size), ownG_next h.row hb⟩
theorem RPk.more {w w1 w2 : World} {v v' : Value} {l : List Pk.Pt} {x : Pk.Pt} (h : RPk w w1 v l) (hrow : w2.ownsRow w.heap.size 82 5 v' (l.length + 1) (rpcs l ++ rpc x)) (hg : w1.grownBy w2 v.ownBlock) : RPk w w2 v' (l ++ [x]) := by
  refine ⟨Nd.below_grown h.b hg (fun k hk => (h.row.lt k hk).1), ?_⟩
  rw [List.length_append, rpcs_app, rpcs_one]
  exact hrow
theorem pkts_none {own : Nat} {S : Nat → LS} {n : Nat} (h : hasB own S ((n : Nat) : Int) = false) : pktsTo own S n = [] := by
  unfold pktsTo qS
  rw [h]; rfl
theorem pkts_get {own : Nat} {S : Nat → LS} {n k : Nat} {b : List Nat} (h : (qS own S (n : Nat)).ts[k]? = some b) : (pktsTo own S n)[k]? = some ⟨false, (own : Nat), (n : Nat), (qS own S (n : Nat)).nx + k - (qS own S (n : Nat)).ts.length, b⟩ := by
  unfold pktsTo
  rw [List.getElem?_map, List.getElem?_zipIdx, h]
  simp
theorem pktsTo_len (own : Nat) (S : Nat → LS) (n : Nat) : (pktsTo own S n).length = (qS own S (n : Nat)).ts.length := by unfold pktsTo; simp
theorem pkts_step (own : Nat) (S : Nat → LS) (j : Nat) : (Nd.thoseN (fun m => hasB own S ((m : Nat) : Int)) (j + 1)).flatMap (pktsTo own S) = (Nd.thoseN (fun m => hasB own S ((m : Nat) : Int)) j).flatMap (pktsTo own S) ++ pktsTo own S (j + 1) := by
  rw [Nd.those_succ]
  split
  · rw [List.flatMap_append]; simp
  · rename_i h
    rw [pkts_none (by simpa using h), List.append_nil]
section
variable (w : World) {B r own m : Nat} {F : Nat → Prop} {th : Nat → Bool} {X : Nat → RS} {V : Nat → Value} {S : Nat → LS}
theorem q_len (D : RX w B r F own th X V m) (C : Cor own S th X) (n : Nat) : (qS own S (n : Nat)).ts.length ≤ m ∧ (∀ k b, (qS own S (n : Nat)).ts[k]? = some b → (qS own S (n : Nat)).nx + k - (qS own S (n : Nat)).ts.length = (X n).a + k + 1) := by
  unfold qS
  rw [C.has n]
  cases ht : th n with
  | false => exact ⟨Nat.zero_le _, fun k b h => by simp at h⟩
  | true =>
    rw [if_pos rfl, show ((n : Nat) : Int).toNat - 1 = n - 1 by omega, (C.yes n ht).2.2.2]
    have := D.al n
    have h2 := (D.le n).1
    unfold RS.ls
    simp only [List.length_drop]
    exact ⟨by omega, fun k b h => by omega⟩
set_option maxRecDepth 20000 in
set_option maxHeartbeats 8000000 in
theorem rpackets_any (D : RX w B r F own th X V m) (C : Cor own S th X) (hm : m ≤ 300) : Calls Try.prog 30 #[.pointer (some ⟨r, 0, none⟩)] w fun e w' => ∃ v, e = .returned v ∧ RPk w w' v (pkts own S) := by
  have HQ := Lib.hid (fun w1 (hb : Below w.heap.size w w1) (n : Int) => rqueue_any w1 (D.next hb) C hm n)
  have HC0 := Lib.hid (fun w1 (hb : Below w.heap.size w w1) => (D.next hb).c0)
  have HC1 := Lib.hid (fun w1 (hb : Below w.heap.size w w1) (i : Nat) (hi : i < 13) => ((D.next hb).rf hm hi).c1)
  have HLN := Lib.hid (fun n => q_len w D C n)
  have HLE := Lib.hid (fun i => (D.le i).1)
  have HAL := Lib.hid (fun i => D.al i)
  have HF := Lib.hid (fun k hk => (D.low k hk).2)
  have HM := Lib.hid hm
  clear D C hm
  go_enter Try.func30, Try.ntmps30
  go_upto_region 3 with fail
  go_loopw [3, 4] (fun v i wr => ∃ j : Nat, j ≤ 12 ∧ i = .int .i64 ((j + 1 : Nat) : Int) ∧ ∃ l, l = (Nd.thoseN (fun m => hasB own S ((m : Nat) : Int)) j).flatMap (pktsTo own S) ∧ RPk w wr v l ∧ l.length ≤ 300 * j) (fun _ i _ => 13 - (intOf i).toNat)
  case atStart => exact ⟨0, Nat.zero_le _, rfl, [], rfl, ⟨Below.refl _ _, World.ownsRow_nil _ _ _ _⟩, Nat.zero_le _⟩
  case round =>
    obtain ⟨j, hj, rfl, l, hl, hP, hll⟩ := hrel
    have HP := Lib.hid hP
    have HL := Lib.hid (And.intro hl hll)
    obtain ⟨jj, hjj⟩ : ∃ jj, jj = j + 1 := ⟨_, rfl⟩
    rw [← hjj]
    obtain ⟨A0, c0', hv⟩ := row_none hP.row
    obtain ⟨l0, hl0⟩ : ∃ l0, l0 = l.length := ⟨_, rfl⟩
    rw [← hl0] at hv
    subst hv
    clear hP hl hll hl0
    by_cases hlt : j < 12
    · have j1 : (jj : Int) < 13 := by omega
      have j2 : ¬ (jj : Int) < 0 := by omega
      have HJ := Lib.hid (And.intro hjj hlt)
      have HW := Lib.hid (Nd.wrap_n jj (jj + 1) rfl (by omega))
      have HS := Lib.hid (pkts_step own S j)
      rw [← hjj] at HS
      have HQ1 := Lib.hid (HQ.out wr HP.out.b ((jj : Nat) : Int))
      have HG := Lib.hid (HLN.out jj)
      obtain ⟨q, hq⟩ : ∃ q, q = (qS own S ((jj : Nat) : Int)).ts := ⟨_, rfl⟩
      obtain ⟨ql, hql⟩ : ∃ ql, ql = q.length := ⟨_, rfl⟩
      have HQQ := Lib.hid (show q = (qS own S ((jj : Nat) : Int)).ts ∧ ql = q.length ∧ ql ≤ 300 from ⟨hq, hql, by rw [hql, hq]; exact Nat.le_trans HG.out.1 HM.out⟩)
      rw [← hq, ← hql] at HQ1
      clear hj hlt hjj hq hql
      go_upto_region 7 with (go_at_call 32; refine HQ1.out.mono ?_; rintro e w2 ⟨A2, c2, rfl, hst, hb2⟩; have HP2 := Lib.hid (HP.out.next hb2); have HST := Lib.hid (hst.keep (w' := w) (fun k hk => ((HP.out.next hb2).b.block k (HF.out k hk)).symm)); clear hst hb2 HQ1)
      clear HP
      go_loopw [3, 6] (fun v i wy => ∃ k : Nat, k ≤ ql ∧ i = .int .i64 k ∧ RPk w wy v (l ++ (pktsTo own S jj).take k)) (fun _ i _ => ql - (intOf i).toNat)
      case atStart => exact ⟨0, Nat.zero_le _, rfl, by rw [List.take_zero, List.append_nil]; exact HP2.out⟩
      case round =>
        clear HP2
        obtain ⟨k, hk, rfl, hP⟩ := hrel
        have HP3 := Lib.hid hP
        obtain ⟨A3, c3, hv⟩ := row_none hP.row
        obtain ⟨l3, hl3⟩ : ∃ l3, l3 = (l ++ (pktsTo own S jj).take k).length := ⟨_, rfl⟩
        rw [← hl3] at hv
        subst hv
        have HL3 := Lib.hid (show l3 = (l ++ (pktsTo own S jj).take k).length ∧ l3 ≤ 4000 from ⟨hl3, by
          rw [hl3, List.length_append, List.length_take]
          have := HL.out.2; have := HQQ.out.2.2; have := HJ.out
          omega⟩)
        clear hP hl3
        by_cases hlt : k < ql
        · have i1 : (k : Int) < (ql : Nat) := by omega
          have i3 : ¬ (k : Int) < 0 := by omega
          obtain ⟨b, hb⟩ : ∃ b, q[k]? = some b := ⟨_, List.getElem?_eq_getElem (by have := HQQ.out.2.1; omega)⟩
          obtain ⟨g, o, rfl, hgF, hcl⟩ := (HST.out.keep (w' := wr) (fun k hk => HP3.out.b.block k (HF.out k hk))) k b hb
          have HGF := Lib.hid (HF.out g hgF)
          obtain ⟨a, ha⟩ : ∃ a, a = (X jj).a := ⟨_, rfl⟩
          have HA := Lib.hid ha
          have HCL0 := Lib.hid (fun w6 (hb6 : Below w.heap.size w w6) => (World.cell?_of_block (a := ⟨g, o + k, none⟩) ((hb6.block g HGF.out).trans (HP3.out.b.block g HGF.out).symm)).trans hcl)
          have qd := HC0.out wr HP3.out.b
          have qa := HC1.out wr HP3.out.b jj (by have := HJ.out; omega)
          rw [← ha] at qa
          obtain ⟨s1, hs1⟩ : ∃ s1, s1 = a + k := ⟨_, rfl⟩
          obtain ⟨s2, hs2⟩ : ∃ s2, s2 = s1 + 1 := ⟨_, rfl⟩
          have hab : a ≤ 300 ∧ k < 300 := by
            have h1 := HAL.out jj; have h2 := HLE.out jj; have h3 := HM.out; have h4 := HQQ.out.2.2
            rw [ha]; omega
          have HX := Lib.hid (show (pktsTo own S jj)[k]? = some ⟨false, (own : Nat), (jj : Nat), s2, b⟩ by
            rw [HQQ.out.1] at hb
            rw [pkts_get hb, HG.out.2 k b hb, hs2, hs1, ha])
          have f1 : IntKind.i64.wrap ((a : Int) + (k : Int)) = (s1 : Nat) := by rw [IntKind.wrap_i64, hs1]; omega
          have f2 : IntKind.i64.wrap ((s1 : Int) + 1) = (s2 : Nat) := by clear f1; rw [IntKind.wrap_i64, hs2]; omega
          have f3 : IntKind.u64.wrap ((s2 : Nat) : Int) = (s2 : Nat) := by clear f1 f2; rw [IntKind.wrap_u64]; omega
          obtain ⟨kk, hkk⟩ : ∃ kk, kk = k + 1 := ⟨_, rfl⟩
          have HWK := Lib.hid (Nd.wrap_n k kk hkk (by have := HQQ.out.2.2; omega))
          have HK := Lib.hid (And.intro hkk hlt)
          obtain ⟨sb, hsb⟩ : ∃ sb, sb = Byt.bstr b := ⟨_, rfl⟩
          have HCL := HCL0
          rw [← hsb] at hcl HCL
          clear HCL0
          have HCE := Lib.hid (show (#[.bool false, .int .i64 (own : Nat), .int .i64 (jj : Nat), .int .u64 (s2 : Nat), .string sb] : Array Value) = (rpc ⟨false, (own : Nat), (jj : Nat), s2, b⟩).toArray by rw [rpc_def, hsb])
          clear hk hlt hkk hs1 hs2 hab ha hb hsb hgF
          go_upto_region 9 with fail
          (try simp only [Act.put, List.setIfInBounds_toArray, List.set_cons_zero, List.set_cons_succ])
          refine wp_region_tree (S := (fun w' => w'.cell? ⟨r, 0, none⟩ = some (.int .i64 (own : Nat)) ∧ w'.cell? ⟨r, 14 + jj * 3 + 1, none⟩ = some (.int .i64 (a : Nat)) ∧ w'.cell? ⟨g, o + k, none⟩ = some (.string sb))) (.take 0 (.take 1 (.take 2 (.take 3 (.take 4 (.take 5 (.take 6 (.take 7 (.take 8 (.take 9 (.take 10 (.take 11 (.take 12 (.take 13 (.take 14 (.take 15 (.take 16 (.take 17 (.take 18 (.take 19 (.take 20 (.take 21 (.one 22 (.one 23 (.take 24 .nil))))))))))))))))))))))))) 9999 (by kernel_rfl) (by kernel_rfl) (by kernel_rfl) (by kernel_rfl) (by kernel_rfl) (fun _ _ d _ _ h => by cases d <;> exact h) ⟨qd, qa, hcl⟩ (fun hHeld => ?_); simp only [Tree.map, List.getElem?_toArray, List.getElem?_cons_zero, List.getElem?_cons_succ]
          (repeat (first | (refine wpTree.take (v := undef) (Or.inr ⟨by rfl, rfl⟩) ?_; simp only [Act.put, List.setIfInBounds_toArray, List.set_cons_zero, List.set_cons_succ]) | (refine wpTree.take (v := ?_) (Or.inl ⟨by rfl, ?_⟩) ?_; rotate_left; (focus (intro _ hS; (try dsimp only at hS); go_split_ands; (try subst hS); go_simp; (try (with_reducible rfl)); done)); simp only [Act.put, List.setIfInBounds_toArray, List.set_cons_zero, List.set_cons_succ])))
          clear f1 f2 f3
          refine wpTree.one (fun K hK => ?_)
          go_simp
          obtain ⟨x, hx⟩ : ∃ x : Pk.Pt, x = ⟨false, (own : Nat), (jj : Nat), s2, b⟩ := ⟨_, rfl⟩
          rw [← hx] at HX HCE
          clear hx
          obtain ⟨w5, hw5⟩ : ∃ w5, w5 = (wr.alloc (.cells #[.bool false, .int .i64 (own : Nat), .int .i64 (jj : Nat), .int .u64 (s2 : Nat), .string sb] 82)).drew := ⟨_, rfl⟩
          obtain ⟨b4, hb4e⟩ : ∃ b4, b4 = wr.heap.size := ⟨_, rfl⟩
          have hb5 : Below wr.heap.size wr w5 := by rw [hw5]; exact ((Below.refl _ _).alloc (Nat.le_refl _) _).drew
          have hn5 : Blk w5 b4 82 (rpc x).toArray := by rw [hw5, hb4e, HCE.out]; exact (Blk.new _ _ _).drew
          rw [← hw5, ← hb4e]
          refine hK.out _ _ ⟨cell_next hb5 hHeld.1, cell_next hb5 hHeld.2.1, cell_next hb5 hHeld.2.2⟩ (fun hHeld' => ?_)
          clear hK K hHeld hw5 hb4e qd qa hcl
          have hHeld := hHeld'
          clear hHeld'
          (try simp only [Act.put, List.setIfInBounds_toArray, List.set_cons_zero, List.set_cons_succ])
          obtain ⟨lm, hlm⟩ : ∃ lm, lm = l ++ (pktsTo own S jj).take k := ⟨_, rfl⟩
          have HLM := Lib.hid (show l ++ (pktsTo own S jj).take kk = lm ++ [x] by
            rw [hlm, HK.out.1, List.take_add_one, HX.out, List.append_assoc]; rfl)
          rw [← hlm] at HP3 HL3
          clear hlm
          have hP5 := HP3.out.next hb5
          have hrow5 := hP5.row
          rw [← HL3.out.1] at hrow5
          have HP5 := Lib.hid hP5
          obtain ⟨i0, z0, hi, hz, hsz, hby, hzs⟩ := info_rpk
          refine wpTree.one (fun K hK => ?_)
          refine step_append_g (w := w5) (by rfl) _ _ 84 rfl w.heap.size 82 i0 z0 Try.underlying84 hi hz (by rw [hsz]; exact hzs) (by rw [hsz]; decide) (.slice A3 l3 c3) l3 (rpcs lm) rfl (by rw [hsz]; exact hrow5) (some ⟨b4, 0, none⟩) 1 1 (rpc x) rfl (by rw [hsz]; exact rpc_len _) (Or.inl ⟨_, rfl, fun j u hj => by rw [add_plain, Nat.zero_add, hn5.cell, List.getElem?_toArray]; exact hj⟩) (fun u hu => rpc_cell x u hu) (by unfold maxLen; have := HL3.out.2; omega) (by rw [hby]; have := HL3.out.2; omega) HP5.out.b.size ?_
          intro v6 w6 hown hgrow hloc
          rw [hsz] at hown
          have HP6 := Lib.hid (HP5.out.more (x := x) (v' := v6) (by rw [← HL3.out.1]; exact hown) hgrow)
          refine hK.out _ _ ⟨HC0.out w6 HP6.out.b, by rw [HA.out]; exact HC1.out w6 HP6.out.b jj (by have := HJ.out; omega), HCL.out w6 HP6.out.b⟩ (fun hHeld' => ?_)
          clear hK K hHeld hown hgrow hloc hi hz hsz hby hzs hrow5 hP5 hb5 hn5
          (try simp only [Act.put, List.setIfInBounds_toArray, List.set_cons_zero, List.set_cons_succ])
          (repeat (first | (refine wpTree.take (v := undef) (Or.inr ⟨by rfl, rfl⟩) ?_; simp only [Act.put, List.setIfInBounds_toArray, List.set_cons_zero, List.set_cons_succ]) | (refine wpTree.take (v := ?_) (Or.inl ⟨by rfl, ?_⟩) ?_; rotate_left; (focus (intro _ hS; (try dsimp only at hS); go_split_ands; (try subst hS); go_simp; (try (with_reducible rfl)); done)); simp only [Act.put, List.setIfInBounds_toArray, List.set_cons_zero, List.set_cons_succ])))
          refine wpTree.done ?_
          go_wp2_with fail
          rw [HWK.out]
          go_roundw
          case rel => exact ⟨kk, by have := HK.out; omega, rfl, by rw [HLM.out]; exact HP6.out⟩
          case measure => have := HK.out; simp [intOf]; omega
        · have i1 : ¬ (k : Int) < (ql : Nat) := by omega
          have HKE := Lib.hid (show (pktsTo own S jj).length ≤ k by rw [pktsTo_len, ← HQQ.out.1, ← HQQ.out.2.1]; omega)
          clear hk hlt
          go_wp2_with fail
          (try rw [HW.out])
          go_roundw
          case rel =>
            have hP := HP3.out
            rw [List.take_of_length_le HKE.out] at hP
            refine ⟨jj, by have := HJ.out; omega, rfl, _, ?_, hP, ?_⟩
            · rw [HS.out, HL.out.1]
            · rw [List.length_append, pktsTo_len, ← HQQ.out.1, ← HQQ.out.2.1]
              have := HL.out.2; have := HQQ.out.2.2; have := HJ.out
              omega
          case measure => have := HJ.out; simp [intOf]; omega
    · have i1 : ¬ (jj : Int) < 13 := by omega
      have hj12 : j = 12 := by omega
      subst hj12
      clear hj hlt hjj
      go_wp2_with fail
      go_ret
      refine ⟨_, rfl, ?_⟩
      have := HP.out
      rw [HL.out.1] at this
      exact this
end
end Ls
end Go.Proofs.Ytifoheodcbjapaa
namespace Go.Proofs.Ytifoheodcbjapaa
open Go.RowKit
set_option linter.unusedSimpArgs false
set_option linter.unusedVariables false
namespace Ls
open Lk
theorem those_peers {own : Nat} {S : Nat → LS} {th : Nat → Bool} {X : Nat → RS} (C : Cor own S th X) : Nd.thoseL th = peersL own S := by
  unfold peersL
  exact Nd.those_ext fun n _ _ => (C.has n).symm
section
variable (w : World) {B r own m : Nat} {F : Nat → Prop} {th : Nat → Bool} {X : Nat → RS} {V : Nat → Value} {S : Nat → LS}
set_option maxRecDepth 20000 in
set_option maxHeartbeats 8000000 in
theorem rput17_any (D : RX w B r F own th X V m) (C : Cor own S th X) (hm : m ≤ 300) (hN : NOk own S) : Calls Try.prog 35 #[.pointer (some ⟨r, 0, none⟩)] w fun e w' => ∃ v, e = .returned v ∧ Made w w' v (encLS own S) := by
  have HPE := Lib.hid (rpeers_any w D)
  rw [those_peers C] at HPE
  have HC0 := Lib.hid (fun w1 (hb : Below w.heap.size w w1) => (D.next hb).c0)
  have HPU := Lib.hid (fun w1 (hb : Below w.heap.size w w1) (i : Nat) (hi : i < 13) => Lk.rput_any w1 ((D.next hb).rf hm hi))
  have HOK := Lib.hid hN
  obtain ⟨L, hLL⟩ : ∃ L, L = peersL own S := ⟨_, rfl⟩
  have HLL := Lib.hid (show L = peersL own S ∧ L.length ≤ 12 ∧ (∀ n ∈ L, n ∈ peersL own S) from ⟨hLL, by rw [hLL]; exact Nd.those_le _ _, fun n hn => by rw [← hLL]; exact hn⟩)
  have HLS := Lib.hid (show ∀ n ∈ L, n < 13 ∧ encL (X n).ls = encL (S (n - 1)) from fun n hn => by
    have h1 := HLL.out.2.2 n hn
    have h2 := peers_mem h1
    have h3 : th n = true := by
      rw [← C.has n]
      unfold hasB isO
      rw [show ((n : Nat) : Int).toNat - 1 = n - 1 by omega, show isN ((n : Nat) : Int) = true from decide_eq_true ⟨by omega, by omega⟩, decide_eq_true (show ((n : Nat) : Int) ≠ (own : Int) by have := h2.2.2.1; omega), decide_eq_true h2.2.2.2]
      rfl
    exact ⟨by omega, by rw [(C.yes n h3).2.2.2]⟩)
  rw [← hLL] at HPE
  obtain ⟨ln, hln⟩ : ∃ ln, ln = L.length := ⟨_, rfl⟩
  have HLN := Lib.hid (show ln = L.length ∧ ln ≤ 12 from ⟨hln, by rw [hln]; exact HLL.out.2.1⟩)
  have ew0 : IntKind.u64.wrap ((own : Nat) : Int) = (own : Nat) := by have := D.o2; rw [IntKind.wrap_u64]; omega
  have ew1 : IntKind.u64.wrap ((ln : Nat) : Int) = (ln : Nat) := by have := HLN.out.2; clear ew0; rw [IntKind.wrap_u64]; omega
  have HF1 := Lib.hid (fun w' => rfnum_any own w' (by clear ew0 ew1; have := D.o2; omega))
  have HF2 := Lib.hid (fun w' => rfnum_any ln w' (by clear ew0 ew1; have := HLN.out; omega))
  have HL := Lib.hid (show (enc own).length ≤ 10 ∧ (enc ln).length ≤ 10 by clear ew0 ew1; have := HLN.out; have := D.o2; exact ⟨enc_len _ (by omega), enc_len _ (by omega)⟩)
  clear D C hm hN hLL hln
  go_enter Try.func35, Try.ntmps35
  go_upto_region 2 with (go_at_call 31; refine HPE.out.mono ?_; rintro e w1 ⟨v1, rfl, hN, hb⟩; obtain ⟨A1, c1, hv⟩ := hN.shape; rw [← HLN.out.1] at hv; subst hv)
  obtain ⟨b0, hb0⟩ : ∃ b0, b0 = w.heap.size := ⟨_, rfl⟩
  rw [← hb0] at hN
  have HN1 := Lib.hid hN
  have HB1 := Lib.hid hb
  have c0 := HC0.out w1 hb
  clear hb hN hb0 HPE
  obtain ⟨el, hel⟩ : ∃ el, el = (enc own).length := ⟨_, rfl⟩
  have HEL := Lib.hid hel
  obtain ⟨e2, he2⟩ : ∃ e2, e2 = (enc ln).length := ⟨_, rfl⟩
  have HE2 := Lib.hid he2
  clear hel he2
  go_upto_region 4 with (first | (go_at_call 59; refine (HF1.out w1).mono ?_; rintro e w2 ⟨v2, rfl, hM⟩; obtain ⟨A2, k2, hv2, -⟩ := made_src hM; rw [← HEL.out] at hv2; subst hv2; have H2 := Lib.hid (And.intro hM (HN1.out.next hM.2)); clear hM HF1 c0) | (go_at_call 59; refine (HF2.out w2).mono ?_; rintro e w3 ⟨v3, rfl, hM⟩; obtain ⟨A3, k3, hv3, hs3⟩ := made_src hM; rw [← HE2.out] at hv3 hs3; subst hv3; have H3 := Lib.hid (And.intro (made_next H2.out.1 hM.2) (And.intro hs3 (H2.out.2.next hM.2))); clear hM hs3) | (refine wpList_append_u8 _ rfl _ _ rfl w1.heap.size (.slice A2 el k2) el (u8s (enc own)) rfl (by have := H3.out.1.1; rwa [← HEL.out] at this) A3 e2 k3 (u8s (enc ln)) rfl (by rw [u8s_len, HE2.out]) H3.out.2.1 (u8s_one _) (by have := HL.out; rw [HEL.out, HE2.out]; omega) H3.out.1.2.size ?_; intro v8 w8 hown hg _; have H8 := Lib.hid (And.intro (made_app (a := enc own) (b := enc ln) H3.out.1 (by rw [← HEL.out, ← HE2.out]; exact hown) hg) (Nds.grown H3.out.2.2 (by have := H3.out.1.1; exact this) hg (by decide))); clear hown hg H3))
  clear ew0 ew1
  have H9 := Lib.hid (And.intro (show Made w w8 v8 (enc own ++ enc ln) from ⟨own_le H8.out.1.1 HB1.out.size, HB1.out.trans (H8.out.1.2.mono HB1.out.size)⟩) H8.out.2)
  clear H8
  obtain ⟨pre, hpre⟩ : ∃ pre, pre = enc own ++ enc ln := ⟨_, rfl⟩
  rw [← hpre] at H9
  have HPRE := Lib.hid hpre
  have HPL := Lib.hid (show pre.length ≤ 20 by rw [hpre, List.length_append]; have := HL.out; omega)
  clear hpre
  go_loopw [4, 5] (fun ov iv wr => ∃ k : Nat, k ≤ ln ∧ iv = .int .i64 (k : Nat) ∧ Made w wr ov (pre ++ encTo S (L.take k)) ∧ Nd.Nds wr b0 (.slice A1 ln c1) L) (fun _ iv _ => ln - (intOf iv).toNat)
  case atStart => exact ⟨0, Nat.zero_le _, rfl, by rw [List.take_zero, show encTo S [] = [] from rfl, List.append_nil]; exact H9.out.1, H9.out.2⟩
  case round =>
    clear H9
    obtain ⟨k, hk, rfl, hM, hN⟩ := hrel
    have HM := Lib.hid hM
    have HN := Lib.hid hN
    obtain ⟨ps, hps⟩ : ∃ ps, ps = pre ++ encTo S (L.take k) := ⟨_, rfl⟩
    have HPS := Lib.hid hps
    have HTL := Lib.hid (show ps.length ≤ 7100000 by
      have h1 := enc_le HOK.out (L.take k) fun m hm => HLL.out.2.2 m (List.mem_of_mem_take hm)
      rw [List.length_take] at h1
      rw [hps, List.length_append]
      have h2 := HPL.out; have h3 := HLL.out.2.1
      omega)
    rw [← hps] at hM HM
    clear hps
    obtain ⟨A5, k5, hv5, -⟩ := made_src hM
    obtain ⟨pl, hpl⟩ : ∃ pl, pl = ps.length := ⟨_, rfl⟩
    have HPN := Lib.hid hpl
    rw [← hpl] at hv5 HTL
    subst hv5
    clear hpl hM hN
    by_cases hlt : k < ln
    · have i1 : (k : Int) < (ln : Nat) := by omega
      have i2 : ¬ (k : Int) < 0 := by omega
      obtain ⟨kk, hkk⟩ : ∃ kk, kk = k + 1 := ⟨_, rfl⟩
      have HWK := Lib.hid (Nd.wrap_n k kk hkk (by have := HLN.out.2; omega))
      have HK := Lib.hid (And.intro hkk hlt)
      obtain ⟨n, hn⟩ : ∃ n, L[k]? = some n := ⟨_, List.getElem?_eq_getElem (by have := HLN.out.1; omega)⟩
      have HNN := Lib.hid hn
      have hls := HLS.out n (List.mem_of_getElem? hn)
      obtain ⟨q, qo, qc, ev, hq, hcc⟩ := HN.out.at_ hn
      simp only [Value.slice.injEq] at ev
      obtain ⟨rfl, -, -⟩ := ev
      have n1 : (n : Int) < 13 := by have := hls.1; omega
      have n2 : ¬ (n : Int) < 0 := by omega
      have e3 : IntKind.u64.wrap ((n : Nat) : Int) = (n : Nat) := by rw [IntKind.wrap_u64]; omega
      have HNX := Lib.hid (rfnum_any n wr (by clear e3; omega))
      have HPX := Lib.hid (fun w1 (hb : Below w.heap.size w w1) => HPU.out w1 hb n hls.1)
      obtain ⟨tb, htb⟩ : ∃ tb, tb = encL (X n).ls := ⟨_, rfl⟩
      rw [← htb] at HPX
      have HCUR := Lib.hid (show pre ++ encTo S (L.take kk) = ps ++ enc n ++ tb by
        rw [HPS.out, hkk, List.take_add_one, hn, htb, hls.2]
        unfold encTo
        rw [List.flatMap_append]
        simp)
      have HTB := Lib.hid (show tb.length ≤ 500010 by
        have h1 := enc_le HOK.out [n] (fun m hm => by rw [List.mem_singleton] at hm; subst hm; exact HLL.out.2.2 m (List.mem_of_getElem? hn))
        have h2 : encTo S [n] = enc n ++ tb := by unfold encTo; rw [htb, hls.2]; simp
        rw [h2, List.length_append] at h1
        simpa using (show tb.length ≤ 500010 * [n].length by omega))
      have HEN := Lib.hid (show (enc n).length ≤ 10 from enc_len n (by clear e3; omega))
      obtain ⟨en, hen⟩ : ∃ en, en = (enc n).length := ⟨_, rfl⟩
      have HEE := Lib.hid hen
      obtain ⟨tl, htl⟩ : ∃ tl, tl = tb.length := ⟨_, rfl⟩
      have HTT := Lib.hid htl
      clear hk hlt hkk hn hls hq htb hen htl
      go_upto_region 7 with (first | (go_at_call 59; refine HNX.out.mono ?_; rintro e w4 ⟨v4, rfl, hM⟩; obtain ⟨A4, k4, hv4, hs4⟩ := made_src hM; rw [← HEE.out] at hv4 hs4; subst hv4; have H4 := Lib.hid (And.intro (made_next HM.out hM.2) (And.intro hs4 (HN.out.next hM.2))); clear hM hs4 HNX) | (refine wpList_append_u8 _ rfl _ _ rfl w.heap.size (.slice A5 pl k5) pl (u8s ps) rfl (by have := H4.out.1.1; rwa [← HPN.out] at this) A4 en k4 (u8s (enc n)) rfl (by rw [u8s_len, HEE.out]) H4.out.2.1 (u8s_one _) (by have := HTL.out; have := HEN.out; rw [HEE.out]; omega) H4.out.1.2.size ?_; intro v5 w5 hown hg _; have H5 := Lib.hid (And.intro (made_app (a := ps) (b := enc n) H4.out.1 (by rw [← HPN.out, ← HEE.out]; exact hown) hg) (Nds.grown H4.out.2.2 (by have := H4.out.1.1; exact this) hg (by decide))); clear hown hg H4))
      clear hcc e3
      obtain ⟨A6, k6, hv6, -⟩ := made_src H5.out.1
      obtain ⟨l6, hl6⟩ : ∃ l6, l6 = (ps ++ enc n).length := ⟨_, rfl⟩
      have HL6 := Lib.hid hl6
      rw [← hl6] at hv6
      subst hv6
      clear hl6
      have HPX5 := Lib.hid (HPX.out w5.drew H5.out.1.2.drew)
      obtain ⟨_, _, _, ev, hq, hcc⟩ := H5.out.2.at_ HNN.out
      simp only [Value.slice.injEq, Option.some.injEq, Addr.mk.injEq] at ev
      obtain ⟨⟨rfl, rfl, -⟩, -, -⟩ := ev
      (try simp only [Act.put, List.setIfInBounds_toArray, List.set_cons_zero, List.set_cons_succ])
      refine wp_region_tree (S := (fun w' => w'.cell? ⟨q, qo + k, none⟩ = some (.int .i64 (n : Nat)))) (.take 0 (.take 1 (.take 2 (.take 3 (.take 4 (.take 5 (.take 6 (.take 7 (.take 8 (.one 9 (.one 10 (.take 11 .nil)))))))))))) 9999 (by kernel_rfl) (by kernel_rfl) (by kernel_rfl) (by kernel_rfl) (by kernel_rfl) (fun _ _ d _ _ h => by cases d <;> exact h) hcc (fun hHeld => ?_); simp only [Tree.map, List.getElem?_toArray, List.getElem?_cons_zero, List.getElem?_cons_succ]
      (repeat (first | (refine wpTree.take (v := undef) (Or.inr ⟨by rfl, rfl⟩) ?_; simp only [Act.put, List.setIfInBounds_toArray, List.set_cons_zero, List.set_cons_succ]) | (refine wpTree.take (v := ?_) (Or.inl ⟨by rfl, ?_⟩) ?_; rotate_left; (focus (intro _ hS; (try dsimp only at hS); go_split_ands; (try subst hS); go_simp; (try (with_reducible rfl)); done)); simp only [Act.put, List.setIfInBounds_toArray, List.set_cons_zero, List.set_cons_succ])))
      refine wpTree.one (fun K hK => ?_)
      go_simp
      go_at_call 60
      refine HPX5.out.mono ?_
      rintro e w6 ⟨v6, rfl, hM⟩
      have hb6 : Below w5.heap.size w5 w6 := (Below.refl _ _).drew.trans hM.2
      obtain ⟨A7, k7, hv7, hs7⟩ := made_src hM
      rw [← HTT.out] at hv7 hs7
      subst hv7
      have H6 := Lib.hid (And.intro (made_next H5.out.1 hb6) (H5.out.2.next hb6))
      refine hK.out _ _ (cell_next hb6 hcc) (fun _ => ?_)
      clear hK K hHeld hM hcc hb6
      (try simp only [Act.put, List.setIfInBounds_toArray, List.set_cons_zero, List.set_cons_succ])
      refine wpTree.one (fun K hK => ?_)
      refine Byt.step_append_u8 w6 (by rfl) _ _ rfl w.heap.size (.slice A6 l6 k6) l6 (u8s (ps ++ enc n)) rfl (by have := H6.out.1.1; rwa [← HL6.out] at this) A7 tl k7 (u8s tb) rfl (by rw [u8s_len, HTT.out]) hs7 (u8s_one _) (by have h1 := HTL.out; have h2 := HEN.out; have h3 := HTB.out; rw [HTT.out, HL6.out, List.length_append, ← HPN.out]; omega) H6.out.1.2.size ?_
      intro v8 w8 hown hg
      have H8 := Lib.hid (And.intro (made_app (a := ps ++ enc n) (b := tb) H6.out.1 (by rw [← HL6.out, ← HTT.out]; exact hown) hg) (Nds.grown H6.out.2 (by have := H6.out.1.1; exact this) hg (by decide)))
      refine hK.out _ _ (by
        obtain ⟨_, _, _, ev, hq, hcc⟩ := H8.out.2.at_ HNN.out
        simp only [Value.slice.injEq, Option.some.injEq, Addr.mk.injEq] at ev
        obtain ⟨⟨rfl, rfl, -⟩, -, -⟩ := ev
        exact hcc) (fun _ => ?_)
      clear hK K hown hg hs7
      (try simp only [Act.put, List.setIfInBounds_toArray, List.set_cons_zero, List.set_cons_succ])
      (repeat (first | (refine wpTree.take (v := undef) (Or.inr ⟨by rfl, rfl⟩) ?_; simp only [Act.put, List.setIfInBounds_toArray, List.set_cons_zero, List.set_cons_succ]) | (refine wpTree.take (v := ?_) (Or.inl ⟨by rfl, ?_⟩) ?_; rotate_left; (focus (intro _ hS; (try dsimp only at hS); go_split_ands; (try subst hS); go_simp; (try (with_reducible rfl)); done)); simp only [Act.put, List.setIfInBounds_toArray, List.set_cons_zero, List.set_cons_succ])))
      refine wpTree.done ?_
      go_wp2_with fail
      (try rw [HWK.out])
      go_roundw
      case rel => exact ⟨kk, by have := HK.out; omega, by first | rfl | (rw [HWK.out]), by rw [HCUR.out]; exact H8.out.1, H8.out.2⟩
      case measure => have := HK.out; simp [intOf]; omega
    · have i1 : ¬ (k : Int) < (ln : Nat) := by omega
      have HKE := Lib.hid (show k = L.length by have := HLN.out.1; omega)
      clear hk hlt
      go_wp2_with fail
      go_ret
      refine ⟨_, rfl, ?_⟩
      have := HM.out
      rw [HPS.out, HKE.out, List.take_length, HPRE.out, HLL.out.1, HLN.out.1, HLL.out.1] at this
      exact this
end
end Ls
end Go.Proofs.Ytifoheodcbjapaa
namespace Go.Proofs.Ytifoheodcbjapaa
open Go.RowKit
set_option linter.unusedSimpArgs false
set_option linter.unusedVariables false
namespace Ls
open Lk
theorem RX.after {w w2 w3 : World} {B r own m m' : Nat} {F : Nat → Prop} {th : Nat → Bool} {X : Nat → RS} {V : Nat → Value} {S' : Nat → LS} (D : RX w B r F own th X V m) (hb : Below w.heap.size w w2) (h : ROP B r F own S' m' w2 w3) : ROP B r F own S' m' w w3 := by
  obtain ⟨⟨th', X', V', D', C'⟩, T⟩ := h
  have hr := D.low r D.fr
  have hs := T.1.size
  have hs2 := hb.size
  refine ⟨⟨th', X', V', D'.wider (fun k hk => ?_) (fun k hk => ?_), C'⟩, (hb.mono (by omega)).trans T.1, fun k hk hF => (T.2 k (by omega) hF).trans (hb.block k hk)⟩
  · rcases hk with hk | ⟨h1, h2⟩
    · exact Or.inl hk
    · exact Or.inr ⟨by omega, h2⟩
  · rcases hk with hk | ⟨h1, h2⟩
    · have := D.low k hk; exact ⟨this.1, by omega⟩
    · exact ⟨by omega, h2⟩
theorem RX.thereP {w2 w3 w4 : World} {B r own m m' i : Nat} {F : Nat → Prop} {th th0 : Nat → Bool} {X X0 : Nat → RS} {V V0 : Nat → Value} {S' : Nat → LS} (D : RX w2 B r F own th0 X0 V0 m) (D2 : RX w3 B r (Grow F w2 w3) own th X V m') (T2 : Turn B F w2 w3) (hb : Below w3.heap.size w3 w4) (hi : i < 13) (C : Cor own S' (upb th i) X) : ROP B r F own S' m' w2 (w4.setCell ⟨r, 1 + i, none⟩ (.bool true)) := by
  obtain ⟨D3, T3⟩ := (D2.next hb).there hi
  have h23 := T2.1.size
  have h34 := hb.size
  have h45 := T3.1.size
  have hr := D.low r D.fr
  refine ⟨⟨_, _, _, D3.wider (fun k hk => ?_) (fun k hk => ?_), C⟩, (T2.1.trans (hb.mono (by omega))).trans T3.1, fun k hk hF => ?_⟩
  · rcases hk with hk | ⟨h1, h2⟩
    · exact Or.inl hk
    · exact Or.inr ⟨h1, by omega⟩
  · rcases hk with hk | ⟨h1, h2⟩
    · have := D.low k hk; exact ⟨this.1, by omega⟩
    · exact ⟨by omega, h2⟩
  · refine (T3.2 k (by omega) ?_).trans ((hb.block k (by omega)).trans (T2.2 k hk hF))
    rintro (h | ⟨h1, h2⟩)
    · exact hF h
    · omega
theorem ROP.drew {w2 w : World} {B r own m : Nat} {F : Nat → Prop} {S' : Nat → LS} (h : ROP B r F own S' m w2 w) : ROP B r F own S' m w2 w.drew := by
  obtain ⟨⟨th, X, V, D, C⟩, T⟩ := h
  exact ⟨⟨th, X, V, D.next (Below.refl _ _).drew, C⟩, T.1.drew, T.2⟩
theorem RO.low {w : World} {B r own m : Nat} {F : Nat → Prop} {S : Nat → LS} (h : RO w B r F own S m) : ∀ k, F k → B ≤ k ∧ k < w.heap.size := by
  obtain ⟨th, X, V, D, C⟩ := h
  exact D.low
def hearD (own : Nat) (S : Nat → LS) (p : Pk.Pt) : List Nat := if hearB own S p then p.bs else []
theorem bnil : Byt.bstr [] = ⟨#[]⟩ := by rw [Byt.bstr_lit]; rfl
section
variable (w : World) {B r own m : Nat} {F : Nat → Prop} {th : Nat → Bool} {X : Nat → RS} {V : Nat → Value} {S : Nat → LS}
set_option maxRecDepth 20000 in
set_option maxHeartbeats 8000000 in
theorem rhear17_any (h : RO w B r F own S m) (hm : m < 300) (p : Pk.Pt) (h256 : ∀ y ∈ p.bs, y < 256) : Calls Try.prog 28 #[.pointer (some ⟨r, 0, none⟩), .agg (rpc p).toArray] w fun e w' =>
    e = .returned (.tuple #[.string (Byt.bstr (hearD own S p)), .bool (hearB own S p), .int .i64 (hearE own S p)]) ∧ ROP B r F own (hear own S p) (m + 1) w w' := by
  obtain ⟨th, X, V, D, C⟩ := h
  have bA := Blk.new w 82 (rpc p).toArray
  have hb1 := ((Below.refl w.heap.size w).alloc (Nat.le_refl _) (.cells (rpc p).toArray 82))
  obtain ⟨w1, hw1⟩ : ∃ w1, w1 = w.alloc (.cells (rpc p).toArray 82) := ⟨_, rfl⟩
  rw [← hw1] at bA hb1
  obtain ⟨bx, hbx⟩ : ∃ bx, bx = w.heap.size := ⟨_, rfl⟩
  rw [← hbx] at bA
  have HW := Lib.hid hw1
  have HBX := Lib.hid hbx
  have HB1 := Lib.hid hb1
  have HD := Lib.hid D
  have HC := Lib.hid C
  have HA := Lib.hid bA
  have rgx := (rp_all bA).1
  have HRI := Lib.hid (rright15_any p w1 h256)
  clear hw1 hbx hb1 D C
  cases hr : Pk.rightB p with
  | false =>
    have HE := Lib.hid (show hearE own S p = 3 ∧ hearB own S p = false ∧ hear own S p = S ∧ hearD own S p = [] by unfold hearD hearE hearB hear; rw [hr]; exact ⟨rfl, rfl, rfl, rfl⟩)
    rw [hr] at HRI
    clear hr bA
    go_enter Try.func28, Try.ntmps28
    go_upto_region 1 with fail
    rw [← HW.out, ← HBX.out]
    go_wp2_with (first | (refine load_midg rfl 82 _ rfl _ _ rfl (rpc p) _ rgx Try.underlying82 rfl (rpinfo _) ?_; (try simp only [Act.put, List.setIfInBounds_toArray, List.set_cons_zero, List.set_cons_succ])) | (go_at_call 57; refine HRI.out.mono ?_; rintro e w2 ⟨rfl, hb2⟩; have HB2 := Lib.hid (HB1.out.trans (hb2.mono HB1.out.size)); clear hb2 HRI))
    go_ret3
    exact ⟨by (rw [HE.out.1, HE.out.2.1, HE.out.2.2.2, bnil]; try rfl), by rw [HE.out.2.2.1]; exact RO.grow ⟨th, X, V, HD.out, HC.out⟩ HB2.out⟩
  | true =>
    rw [hr] at HRI
    by_cases hto : p.t = (own : Int)
    · have t0 : (p.t != (own : Int)) = false := by simp [hto]
      have hN := right_nodes hr
      have hO : isO own p.f = true := by unfold isO; rw [hN.1, decide_eq_true (show p.f ≠ (own : Int) from fun e => hN.2 (e.trans hto.symm))]; rfl
      cases hk : p.k with
      | true =>
        have HE := Lib.hid (show hearE own S p = ackE own S p.f p.q ∧ hearB own S p = false ∧ hear own S p = ack own S p.f p.q ∧ hearD own S p = [] by
          have e2 : hearB own S p = false := by unfold hearB; rw [hk]; simp
          unfold hearD hearE hear
          rw [e2, hr, if_neg (by decide), if_neg (by simp [hto]), if_pos hk, if_neg (by decide), if_neg (by simp [hto]), if_pos hk]
          exact ⟨rfl, rfl, rfl, rfl⟩)
        have HAK := Lib.hid (fun w2 (hb : Below w.heap.size w w2) => racked_any w2 (⟨th, X, V, HD.out.next hb, HC.out⟩ : RO w2 B r F own S m) hm p.f p.q)
        have HK := Lib.hid hk
        clear hr bA hto hk hN hO
        go_enter Try.func28, Try.ntmps28
        go_upto_region 1 with fail
        rw [← HW.out, ← HBX.out]
        go_upto_region 3 with (first | (refine load_midg rfl 82 _ rfl _ _ rfl (rpc p) _ rgx Try.underlying82 rfl (rpinfo _) ?_; (try simp only [Act.put, List.setIfInBounds_toArray, List.set_cons_zero, List.set_cons_succ])) | (go_at_call 57; refine HRI.out.mono ?_; rintro e w2 ⟨rfl, hb2⟩; have HB2 := Lib.hid (HB1.out.trans (hb2.mono HB1.out.size)); have HA2 := Lib.hid (HA.out.next hb2); clear hb2 HRI))
        have c0 := (HD.out.next HB2.out).c0
        have ct := (rp_all HA2.out).2.2.2.1
        clear rgx
        (try simp only [Act.put, List.setIfInBounds_toArray, List.set_cons_zero, List.set_cons_succ])
        refine wp_region_tree (S := (fun w' => w'.cell? ⟨r, 0, none⟩ = some (.int .i64 (own : Nat)) ∧ w'.cell? ⟨bx, 2, none⟩ = some (.int .i64 p.t))) (.take 0 (.take 1 (.take 2 (.take 3 (.take 4 (.take 5 (.take 6 .nil))))))) 9999 (by kernel_rfl) (by kernel_rfl) (by kernel_rfl) (by kernel_rfl) (by kernel_rfl) (fun _ _ d _ _ h => by cases d <;> exact h) ⟨c0, ct⟩ (fun hHeld => ?_); simp only [Tree.map, List.getElem?_toArray, List.getElem?_cons_zero, List.getElem?_cons_succ]
        (repeat (first | (refine wpTree.take (v := undef) (Or.inr ⟨by rfl, rfl⟩) ?_; simp only [Act.put, List.setIfInBounds_toArray, List.set_cons_zero, List.set_cons_succ]) | (refine wpTree.take (v := ?_) (Or.inl ⟨by rfl, ?_⟩) ?_; rotate_left; (focus (intro _ hS; (try dsimp only at hS); go_split_ands; (try subst hS); go_simp; (try (with_reducible rfl)); done)); simp only [Act.put, List.setIfInBounds_toArray, List.set_cons_zero, List.set_cons_succ])))
        refine wpTree.done ?_
        obtain ⟨-, d0, d1, d2, d3, d4⟩ := rp_all HA2.out.drew
        rw [HK.out] at d0
        clear c0 ct
        go_wp2_with (first | (go_at_call 27; refine (HAK.out w2.drew HB2.out.drew).mono ?_; rintro e w3 ⟨rfl, hP⟩; have HP := Lib.hid hP; clear hP))
        go_ret3
        exact ⟨by (rw [HE.out.1, HE.out.2.1, HE.out.2.2.2, bnil]; try rfl), by rw [HE.out.2.2.1]; exact HD.out.after HB2.out.drew HP.out⟩
      | false =>
        obtain ⟨i, hpi, hi1, hi12, hio, hti⟩ := isO_nat hO
        have hat := HC.out.at_ hi1
        have i1 : (i : Int) < 13 := by omega
        have i2 : ¬ (i : Int) < 0 := by omega
        obtain ⟨zb, hzb⟩ : ∃ zb, zb = (takeE (X i).ls p.q).1 := ⟨_, rfl⟩
        obtain ⟨ze, hze⟩ : ∃ ze, ze = (takeE (X i).ls p.q).2 := ⟨_, rfl⟩
        have HE := Lib.hid (show hearE own S p = ze ∧ hearB own S p = zb ∧ hear own S p = (if zb = true then updS S (i - 1) ((X i).ls.take p.q) else S) ∧ hearD own S p = (if zb = true then p.bs else []) by
          have e2 : hearB own S p = zb := by unfold hearB; rw [hk, hr, decide_eq_true hto, hti, hat, ← hzb]; rfl
          unfold hearD hearE hear
          rw [e2, hr, if_neg (by decide), if_neg (by simp [hto]), if_neg (by simp [hk]), if_neg (by decide), if_neg (by simp [hto]), if_neg (by simp [hk]), hti, hat, ← hze, ← hzb]
          exact ⟨rfl, rfl, rfl, rfl⟩)
        have HTK := Lib.hid (fun w2 (hb : Below w.heap.size w w2) => Lk.rtake_any w2 ((HD.out.next hb).rf (by omega) (show i < 13 by omega)) p.q (by have := (Pk.right_of hr).q2; omega) (by have := (HD.out.le i).2; omega))
        rw [← hzb, ← hze] at HTK
        have HZ := Lib.hid (And.intro hzb hze)
        have HK := Lib.hid hk
        have HI := Lib.hid (And.intro hi1 (And.intro hi12 hio))
        have HPI := Lib.hid hpi
        have HR := Lib.hid (Pk.right_of hr)
        clear hr bA hto hk hN hO hpi hi1 hi12 hio hti hat hzb hze
        go_enter Try.func28, Try.ntmps28
        go_upto_region 1 with fail
        rw [← HW.out, ← HBX.out]
        go_upto_region 3 with (first | (refine load_midg rfl 82 _ rfl _ _ rfl (rpc p) _ rgx Try.underlying82 rfl (rpinfo _) ?_; (try simp only [Act.put, List.setIfInBounds_toArray, List.set_cons_zero, List.set_cons_succ])) | (go_at_call 57; refine HRI.out.mono ?_; rintro e w2 ⟨rfl, hb2⟩; have HB2 := Lib.hid (HB1.out.trans (hb2.mono HB1.out.size)); have HA2 := Lib.hid (HA.out.next hb2); clear hb2 HRI))
        have c0 := (HD.out.next HB2.out).c0
        have ct := (rp_all HA2.out).2.2.2.1
        clear rgx
        (try simp only [Act.put, List.setIfInBounds_toArray, List.set_cons_zero, List.set_cons_succ])
        refine wp_region_tree (S := (fun w' => w'.cell? ⟨r, 0, none⟩ = some (.int .i64 (own : Nat)) ∧ w'.cell? ⟨bx, 2, none⟩ = some (.int .i64 p.t))) (.take 0 (.take 1 (.take 2 (.take 3 (.take 4 (.take 5 (.take 6 .nil))))))) 9999 (by kernel_rfl) (by kernel_rfl) (by kernel_rfl) (by kernel_rfl) (by kernel_rfl) (fun _ _ d _ _ h => by cases d <;> exact h) ⟨c0, ct⟩ (fun hHeld => ?_); simp only [Tree.map, List.getElem?_toArray, List.getElem?_cons_zero, List.getElem?_cons_succ]
        (repeat (first | (refine wpTree.take (v := undef) (Or.inr ⟨by rfl, rfl⟩) ?_; simp only [Act.put, List.setIfInBounds_toArray, List.set_cons_zero, List.set_cons_succ]) | (refine wpTree.take (v := ?_) (Or.inl ⟨by rfl, ?_⟩) ?_; rotate_left; (focus (intro _ hS; (try dsimp only at hS); go_split_ands; (try subst hS); go_simp; (try (with_reducible rfl)); done)); simp only [Act.put, List.setIfInBounds_toArray, List.set_cons_zero, List.set_cons_succ])))
        refine wpTree.done ?_
        obtain ⟨-, d0, d1, d2, d3, d4⟩ := rp_all HA2.out.drew
        rw [HK.out] at d0
        rw [HPI.out] at d1
        clear c0 ct
        go_upto_region 8 with fail
        have d1' := d1
        refine wp_region_tree (S := (fun w' => w'.cell? ⟨bx, 1, none⟩ = some (.int .i64 (i : Nat)) ∧ w'.cell? ⟨bx, 3, none⟩ = some (.int .u64 (p.q : Nat)))) (.take 0 (.take 1 (.take 2 (.take 3 (.take 4 (.take 5 (.take 6 (.take 7 (.one 8 (.take 9 (.take 10 (.take 11 (.take 12 (.take 13 .nil)))))))))))))) 9999 (by kernel_rfl) (by kernel_rfl) (by kernel_rfl) (by kernel_rfl) (by kernel_rfl) (fun _ _ d _ _ h => by cases d <;> exact h) ⟨d1, d3⟩ (fun hHeld => ?_); simp only [Tree.map, List.getElem?_toArray, List.getElem?_cons_zero, List.getElem?_cons_succ]
        (repeat (first | (refine wpTree.take (v := undef) (Or.inr ⟨by rfl, rfl⟩) ?_; simp only [Act.put, List.setIfInBounds_toArray, List.set_cons_zero, List.set_cons_succ]) | (refine wpTree.take (v := ?_) (Or.inl ⟨by rfl, ?_⟩) ?_; rotate_left; (focus (intro _ hS; (try dsimp only at hS); go_split_ands; (try subst hS); go_simp; (try (with_reducible rfl)); done)); simp only [Act.put, List.setIfInBounds_toArray, List.set_cons_zero, List.set_cons_succ])))
        refine wpTree.one (fun K hK => ?_)
        go_simp
        go_at_call 58
        refine (HTK.out w2.drew.drew HB2.out.drew.drew).mono ?_
        rintro e w3 ⟨rfl, hP⟩
        obtain ⟨x', cs', hx, hl, ht, hrf, hag, htn⟩ := hP
        obtain ⟨D2, T2⟩ := (HD.out.next HB2.out.drew.drew).put (show i < 13 by have := HI.out; omega) hrf hag htn hl ht
        have hbk : w3.heap[bx]? = w2.heap[bx]? := htn.2.1 bx (World.block_lt_of_cell? _ ⟨bx, 1, none⟩ d1) (fun e => by have := HD.out.low r HD.out.fr; rw [← e, HBX.out] at this; omega) (fun e => by have := HD.out.low bx (HD.out.fv i bx e.symm); rw [HBX.out] at this; omega)
        have g1 : w3.cell? ⟨bx, 1, none⟩ = some (.int .i64 (i : Nat)) := (World.cell?_of_block (a := ⟨bx, 1, none⟩) hbk).trans d1
        have g3 : w3.cell? ⟨bx, 3, none⟩ = some (.int .u64 (p.q : Nat)) := (World.cell?_of_block (a := ⟨bx, 3, none⟩) hbk).trans d3
        have g4 : w3.cell? ⟨bx, 4, none⟩ = some (.string (Byt.bstr p.bs)) := (World.cell?_of_block (a := ⟨bx, 4, none⟩) hbk).trans d4
        have HP := Lib.hid (And.intro D2 (And.intro T2 (And.intro hx hrf.al)))
        refine hK.out _ _ ⟨g1, g3⟩ (fun _ => ?_)
        clear hK K hHeld D2 T2 hx hl ht hrf hag htn hbk d0 d1 d1' d2 d3 d4
        (try simp only [Act.put, List.setIfInBounds_toArray, List.set_cons_zero, List.set_cons_succ])
        (repeat (first | (refine wpTree.take (v := undef) (Or.inr ⟨by rfl, rfl⟩) ?_; simp only [Act.put, List.setIfInBounds_toArray, List.set_cons_zero, List.set_cons_succ]) | (refine wpTree.take (v := ?_) (Or.inl ⟨by rfl, ?_⟩) ?_; rotate_left; (focus (intro _ hS; (try dsimp only at hS); go_split_ands; (try subst hS); go_simp; (try (with_reducible rfl)); done)); simp only [Act.put, List.setIfInBounds_toArray, List.set_cons_zero, List.set_cons_succ])))
        refine wpTree.done ?_
        by_cases hz : ze = 0
        · have z0 : (ze != 0) = false := by simp [hz]
          have HZ0 := Lib.hid hz
          clear hz
          have gg : w3.cell? ⟨r, 1 + i, none⟩ = some (.bool (th i)) := HP.out.1.ct (i := i) (by have := HI.out; omega)
          have fi := HP.out.1.blk.frozen (1 + i)
          go_upto_region 11 with fail
          refine wp_region_tree (S := (fun w' => w'.cell? ⟨bx, 1, none⟩ = some (.int .i64 (i : Nat)))) (.take 0 (.take 1 (.take 2 (.take 3 (.take 4 (.take 5 (.one 6 .nil))))))) 9999 (by kernel_rfl) (by kernel_rfl) (by kernel_rfl) (by kernel_rfl) (by kernel_rfl) (fun _ _ d _ _ h => by cases d <;> exact h) g1 (fun hHeld => ?_); simp only [Tree.map, List.getElem?_toArray, List.getElem?_cons_zero, List.getElem?_cons_succ]
          (repeat (first | (refine wpTree.take (v := undef) (Or.inr ⟨by rfl, rfl⟩) ?_; simp only [Act.put, List.setIfInBounds_toArray, List.set_cons_zero, List.set_cons_succ]) | (refine wpTree.take (v := ?_) (Or.inl ⟨by rfl, ?_⟩) ?_; rotate_left; (focus (intro _ hS; (try dsimp only at hS); go_split_ands; (try subst hS); go_simp; (try (with_reducible rfl)); done)); simp only [Act.put, List.setIfInBounds_toArray, List.set_cons_zero, List.set_cons_succ])))
          refine wpTree.one (fun K hK => ?_)
          go_simp
          have hbr : bx ≠ r := fun e => by have := HD.out.low r HD.out.fr; rw [← e, HBX.out] at this; omega
          obtain ⟨w4, hw4⟩ : ∃ w4, w4 = (w3.setCell ⟨r, 1 + i, none⟩ (.bool true)).drew := ⟨_, rfl⟩
          rw [← hw4]
          have hk4 : w4.heap[bx]? = w3.heap[bx]? := by rw [hw4]; exact Below.heap_setCell w3 ⟨r, 1 + i, none⟩ _ bx hbr
          have g1' : w4.cell? ⟨bx, 1, none⟩ = some (.int .i64 (i : Nat)) := (World.cell?_of_block (a := ⟨bx, 1, none⟩) hk4).trans g1
          have g4' : w4.cell? ⟨bx, 4, none⟩ = some (.string (Byt.bstr p.bs)) := (World.cell?_of_block (a := ⟨bx, 4, none⟩) hk4).trans g4
          have HW4 := Lib.hid hw4
          refine hK.out _ _ g1' (fun _ => ?_)
          clear hK K hHeld gg fi hk4 hbr hw4 g1 g3 g4
          (try simp only [Act.put, List.setIfInBounds_toArray, List.set_cons_zero, List.set_cons_succ])
          (repeat (first | (refine wpTree.take (v := undef) (Or.inr ⟨by rfl, rfl⟩) ?_; simp only [Act.put, List.setIfInBounds_toArray, List.set_cons_zero, List.set_cons_succ]) | (refine wpTree.take (v := ?_) (Or.inl ⟨by rfl, ?_⟩) ?_; rotate_left; (focus (intro _ hS; (try dsimp only at hS); go_split_ands; (try subst hS); go_simp; (try (with_reducible rfl)); done)); simp only [Act.put, List.setIfInBounds_toArray, List.set_cons_zero, List.set_cons_succ])))
          refine wpTree.done ?_
          have HRO := Lib.hid (fun (S' : Nat → LS) (C : Cor own S' (upb th i) (upx X i x')) => (HD.out.after HB2.out.drew.drew (by rw [HW4.out]; exact ((HD.out.next HB2.out.drew.drew).thereP HP.out.1 HP.out.2.1 (Below.refl _ _) (by have := HI.out; omega) C).drew) : ROP B r F own S' (m + 1) w w4))
          cases zb with
          | true =>
            have HXL := Lib.hid HP.out.2.2.1
            have HE2 := Lib.hid (show hearE own S p = ze ∧ hearB own S p = true ∧ hear own S p = updS S (i - 1) ((X i).ls.take p.q) ∧ hearD own S p = p.bs by
              obtain ⟨h1, h2, h3, h4⟩ := HE.out
              exact ⟨h1, h2, by rw [h3]; rfl, by rw [h4]; rfl⟩)
            clear HP g1'
            go_wp2_with fail
            go_ret3
            refine ⟨by (rw [HE2.out.1, HE2.out.2.1, HE2.out.2.2.2]; try rfl), ?_⟩
            rw [HE2.out.2.2.1]
            exact HRO.out _ (HC.out.put HI.out.1 HI.out.2.1 HI.out.2.2 HXL.out)
          | false =>
            have hls : x'.ls = (X i).ls := by
              rw [HP.out.2.2.1]; unfold LS.take; rw [← HZ.out.1]; rfl
            have hth : th i = true := by
              cases ht : th i with
              | true => rfl
              | false =>
                have hX := (HC.out.no i ht).1
                have h1 := HZ.out.1
                have h2 := HZ.out.2
                rw [HZ0.out] at h2
                unfold takeE at h1 h2
                rw [show (X i).ls.ex = 1 from by rw [hX]; rfl, if_neg (by have := HR.out.q1; omega)] at h1 h2
                split at h1
                · rename_i h3; rw [if_pos h3] at h2; exact absurd h2 (by decide)
                · rw [if_neg (by omega)] at h1; cases h1
            have HCO := Lib.hid (show Cor own S (upb th i) (upx X i x') by rw [upb_same hth]; exact HC.out.same hls HP.out.2.2.2)
            clear HP g1' hls hth
            go_wp2_with fail
            go_ret3
            refine ⟨by (rw [HE.out.1, HE.out.2.1, HE.out.2.2.2, if_neg (by decide), bnil]; try rfl), ?_⟩
            rw [HE.out.2.2.1, if_neg (by decide)]
            exact HRO.out _ HCO.out
        · have z0 : (ze != 0) = true := by simp [hz]
          have hzb : zb = false := by
            cases hb : zb with
            | false => rfl
            | true => exact absurd (HZ.out.2.trans (take_zero _ _ (HZ.out.1.symm.trans hb))) hz
          subst hzb
          have hls : x'.ls = (X i).ls := by
            rw [HP.out.2.2.1]; unfold LS.take; rw [← HZ.out.1]; rfl
          have HLS := Lib.hid hls
          clear hz hls
          go_wp2_with fail
          go_ret3
          refine ⟨by (rw [HE.out.1, HE.out.2.1, HE.out.2.2.2, if_neg (by decide), bnil]; try rfl), ?_⟩
          rw [HE.out.2.2.1, if_neg (by decide)]
          exact HD.out.after HB2.out.drew.drew ⟨⟨_, _, _, HP.out.1, HC.out.same HLS.out HP.out.2.2.2⟩, HP.out.2.1⟩
    · have HE := Lib.hid (show hearE own S p = 11 ∧ hearB own S p = false ∧ hear own S p = S ∧ hearD own S p = [] by unfold hearD hearE hearB hear; rw [hr, if_neg (by decide), if_pos hto, if_neg (by decide), if_pos hto, decide_eq_false hto]; exact ⟨rfl, rfl, rfl, rfl⟩)
      have t0 : (p.t != (own : Int)) = true := by simp [hto]
      clear hr bA hto
      go_enter Try.func28, Try.ntmps28
      go_upto_region 1 with fail
      rw [← HW.out, ← HBX.out]
      go_upto_region 3 with (first | (refine load_midg rfl 82 _ rfl _ _ rfl (rpc p) _ rgx Try.underlying82 rfl (rpinfo _) ?_; (try simp only [Act.put, List.setIfInBounds_toArray, List.set_cons_zero, List.set_cons_succ])) | (go_at_call 57; refine HRI.out.mono ?_; rintro e w2 ⟨rfl, hb2⟩; have HB2 := Lib.hid (HB1.out.trans (hb2.mono HB1.out.size)); have HA2 := Lib.hid (HA.out.next hb2); clear hb2 HRI))
      have c0 := (HD.out.next HB2.out).c0
      have ct := (rp_all HA2.out).2.2.2.1
      clear rgx
      (try simp only [Act.put, List.setIfInBounds_toArray, List.set_cons_zero, List.set_cons_succ])
      refine wp_region_tree (S := (fun w' => w'.cell? ⟨r, 0, none⟩ = some (.int .i64 (own : Nat)) ∧ w'.cell? ⟨bx, 2, none⟩ = some (.int .i64 p.t))) (.take 0 (.take 1 (.take 2 (.take 3 (.take 4 (.take 5 (.take 6 .nil))))))) 9999 (by kernel_rfl) (by kernel_rfl) (by kernel_rfl) (by kernel_rfl) (by kernel_rfl) (fun _ _ d _ _ h => by cases d <;> exact h) ⟨c0, ct⟩ (fun hHeld => ?_); simp only [Tree.map, List.getElem?_toArray, List.getElem?_cons_zero, List.getElem?_cons_succ]
      (repeat (first | (refine wpTree.take (v := undef) (Or.inr ⟨by rfl, rfl⟩) ?_; simp only [Act.put, List.setIfInBounds_toArray, List.set_cons_zero, List.set_cons_succ]) | (refine wpTree.take (v := ?_) (Or.inl ⟨by rfl, ?_⟩) ?_; rotate_left; (focus (intro _ hS; (try dsimp only at hS); go_split_ands; (try subst hS); go_simp; (try (with_reducible rfl)); done)); simp only [Act.put, List.setIfInBounds_toArray, List.set_cons_zero, List.set_cons_succ])))
      refine wpTree.done ?_
      go_wp2_with fail
      go_ret3
      exact ⟨by (rw [HE.out.1, HE.out.2.1, HE.out.2.2.2, bnil]; try rfl), by rw [HE.out.2.2.1]; exact RO.grow ⟨th, X, V, HD.out, HC.out⟩ HB2.out.drew⟩
end
end Ls
end Go.Proofs.Ytifoheodcbjapaa
