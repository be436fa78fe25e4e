/-
tree: Beyond.
-/
import Derived.Test.YtohnhokddbeheaaTr10
namespace Go.Proofs.Ytohnhokddbeheaa
open Go.RowKit
set_option linter.unusedSimpArgs false
set_option linter.unusedVariables false
namespace Tr
/-- An edge that does not lead back to a node. -/
def awayB (t : Tv) (node : Int) (a b : Nat) : Bool := decide (((b : Nat) : Int) ≠ node) && jnB t (a : Nat) (b : Nat)
section
variable {W w : World} {gt gf gj gn : Nat} {t : Tv}
set_option maxRecDepth 20000 in
theorem beyond1_any (hE : Ed W w gt gf t (foundF t.k t.es)) (cj : w.cell? ⟨gj, 0, none⟩ = some (jnV gt gf)) (node : Int) (cn : w.cell? ⟨gn, 0, none⟩ = some (.int .i64 node)) (a b : Nat) :
    Calls Try.prog 89 #[.int .i64 (a : Nat), .int .i64 (b : Nat), .pointer (some ⟨gn, 0, none⟩), .pointer (some ⟨gj, 0, none⟩)] w fun e w' => e = .returned (.bool (awayB t node a b)) ∧ Below w.heap.size w w' := by
  have HC := Lib.hid (edged1_any w t hE.bt hE.bf (a : Nat) (b : Nat))
  unfold jnV at cj
  clear hE
  by_cases hb : ((b : Nat) : Int) = node
  · have HV := Lib.hid (show awayB t node a b = false by unfold awayB; simp [hb])
    have i1 : (((b : Nat) : Int) != node) = false := by simpa using hb
    go_enter Try.func89, Try.ntmps89
    go_wp2_with fail
    go_ret
    exact ⟨by (rw [HV.out]; try rfl), Below.refl _ _⟩
  · have HV := Lib.hid (show awayB t node a b = jnB t (a : Nat) (b : Nat) by unfold awayB; simp [hb])
    have i1 : (((b : Nat) : Int) != node) = true := by simpa using hb
    have i2 : (((b : Nat) : Int) == node) = false := by simpa using hb
    go_enter Try.func89, Try.ntmps89
    go_wp2_with (go_at_call 70; refine HC.out.mono ?_; rintro e w2 ⟨rfl, hb⟩; have HB2 := Lib.hid hb; clear hb HC)
    go_ret
    exact ⟨by (rw [HV.out]; try rfl), HB2.out⟩
end
set_option maxRecDepth 20000 in
set_option maxHeartbeats 8000000 in
theorem beyond_any (W : World) (t : Tv) (hr : RowsOf ec 2 W t.A t.es) (hlen : t.es.length ≤ 1000000) (node next : Int) :
    Calls Try.prog 79 #[.agg t.cells.toArray, .int .i64 node, .int .i64 next] W fun e W' => ∃ v, e = .returned v ∧ Below W.heap.size W W' ∧
      ((jnB t node next = false ∧ Nds W' W.heap.size v []) ∨ (jnB t node next = true ∧ ∃ c, Nds W' W.heap.size v (thoseL c) ∧ ∀ n, c n = true ↔ Rch (awayB t node) next.toNat n)) := by
  have HR := Lib.hid hr
  have HLE := Lib.hid hlen
  clear hr hlen
  have ba := (Below.refl W.heap.size W).alloc (Nat.le_refl _) (.cells t.cells.toArray 25)
  have bb := ba.alloc ba.size (.cells #[.int .i64 node] 3)
  have hx : Blk ((W.alloc (.cells t.cells.toArray 25)).alloc (.cells #[.int .i64 node] 3)) W.heap.size 25 t.cells.toArray := (Blk.new W _ _).alloc _
  have hy : Blk ((W.alloc (.cells t.cells.toArray 25)).alloc (.cells #[.int .i64 node] 3)) (W.heap.size + 1) 3 #[.int .i64 node] := Blk.new' (by simp)
  obtain ⟨w2, hw2⟩ : ∃ w2, w2 = (W.alloc (.cells t.cells.toArray 25)).alloc (.cells #[.int .i64 node] 3) := ⟨_, rfl⟩
  rw [← hw2] at bb hx hy
  have HB2 := Lib.hid bb
  have HX2 := Lib.hid hx
  have HY2 := Lib.hid hy
  clear ba bb hx hy
  have HED := Lib.hid (edges_any w2 t (HR.out.next HB2.out) HLE.out)
  have hmf : ∀ (fn : Fn) (first cap : Array Value) (w : World), (Instr.makeFunc fn first cap).run Try.prog w = .ok (.func fn first cap) w := fun _ _ _ _ => rfl
  have HMF := Lib.hid hmf
  clear hmf
  go_enter Try.func79, Try.ntmps79
  go_upto_region 1 with fail
  rw [← hw2]
  clear hw2
  have hr0 : w2.rangeAt W.heap.size 0 t.cells := HX2.out.range
  go_upto_region 2 with (first | (refine wpList_load_mid rfl 25 _ rfl _ _ rfl t.cells _ hr0 Try.underlying25 rfl (tvinfo t) ?_) | (go_at_call 48; refine HED.out.mono ?_; rintro e w3 ⟨gt, gf, rfl, hE⟩; have HE3 := Lib.hid hE; clear hE HED))
  clear hr0
  obtain ⟨w4, hw4⟩ : ∃ w4, w4 = w3.alloc (.cells #[.func (.func 70) #[] #[.pointer (some ⟨gt, 0, none⟩), .pointer (some ⟨gf, 0, none⟩)]] 105) := ⟨_, rfl⟩
  have hb4 : Below w3.heap.size w3 w4 := by rw [hw4]; exact (Below.refl _ _).alloc (Nat.le_refl _) _
  have hj : Blk w4 w3.heap.size 105 #[jnV gt gf] := by rw [hw4]; exact Blk.new _ _ _
  rw [← hw4]
  have hn := (HY2.out.next HE3.out.bel).next hb4
  have hE := HE3.out.next hb4
  have hb24 : Below w2.heap.size w2 w4 := HE3.out.bel.trans (hb4.mono HE3.out.bel.size)
  have HB4 := Lib.hid (HB2.out.trans (hb24.mono HB2.out.size))
  have HJ4 := Lib.hid hj
  have HN4 := Lib.hid hn
  have HE4 := Lib.hid hE
  have HC := Lib.hid (show Calls Try.prog 70 #[.int .i64 node, .int .i64 next, .pointer (some ⟨gt, 0, none⟩), .pointer (some ⟨gf, 0, none⟩)] w4 fun e w' => e = .returned (.bool (jnB t node next)) ∧ Below w4.heap.size w4 w' from edged1_any w4 t hE.bt hE.bf node next)
  have cj : w4.cell? ⟨w3.heap.size, 0, none⟩ = some (jnV gt gf) := hj.cell 0
  have cn : w4.cell? ⟨W.heap.size + 1, 0, none⟩ = some (.int .i64 node) := hn.cell 0
  unfold jnV at cj
  clear hw4 hb4 hj hn hE hb24
  cases hjn : jnB t node next with
  | false =>
    rw [hjn] at HC
    have HJN := Lib.hid hjn
    clear hjn
    go_wp2_with (go_at_call 70; refine HC.out.mono ?_; rintro e w5 ⟨rfl, hb⟩; have HB5 := Lib.hid (HB4.out.trans (hb.mono HB4.out.size)); clear hb HC)
    go_ret
    exact ⟨_, rfl, HB5.out, Or.inl ⟨HJN.out, Nds.nil _ _⟩⟩
  | true =>
    rw [hjn] at HC
    obtain ⟨m, hm, hm1, hm2⟩ := there_nat (show thereB t.k next = true by unfold jnB at hjn; simp only [Bool.and_eq_true] at hjn; exact hjn.1.2)
    subst hm
    have HM := Lib.hid (And.intro hm1 hm2)
    have HJN := Lib.hid hjn
    clear hjn hm1 hm2
    go_upto_region 4 with (go_at_call 70; refine HC.out.mono ?_; rintro e w5 ⟨rfl, hb⟩; have HB5 := Lib.hid hb; clear hb HC)
    clear cj cn
    have HRC := Lib.hid (reach_any w5 89 #[.pointer (some ⟨W.heap.size + 1, 0, none⟩), .pointer (some ⟨w3.heap.size, 0, none⟩)] (awayB t node) m HM.out.1 HM.out.2 (fun args w => run_enter Try.func89 (by kernel_rfl) (by kernel_rfl) args w) (fun w hb a b _ _ _ _ => beyond1_any ((HE4.out.next HB5.out).next hb) (((HJ4.out.next HB5.out).next hb).cell 0) node (((HN4.out.next HB5.out).next hb).cell 0) a b))
    have HB6 := Lib.hid (HB4.out.trans (HB5.out.mono HB4.out.size))
    have hmf := HMF.out
    go_wp2_with (go_at_call 55; refine HRC.out.mono ?_; rintro e w7 ⟨v, c, rfl, hN, hc, hb⟩; have HN7 := Lib.hid hN; have HC7 := Lib.hid hc; have HB7 := Lib.hid (HB6.out.trans (hb.mono HB6.out.size)); clear hN hc hb HRC)
    go_ret
    exact ⟨_, rfl, HB7.out, Or.inr ⟨HJN.out, c, HN7.out.le HB6.out.size, by rw [Int.toNat_natCast]; exact HC7.out⟩⟩
end Tr
end Go.Proofs.Ytohnhokddbeheaa
