/-
tree: Next.
-/
import Derived.Test.YtohnhokddbeheaaTr4
import Derived.Laws.EntriesVeiled
namespace Go.Proofs.Ytohnhokddbeheaa
open Go.RowKit
set_option linter.unusedSimpArgs false
set_option linter.unusedVariables false
namespace Tr
theorem run_enter {P : Program} {f : FuncId} {fn : Func} (hf : P.funcs[f]? = some fn) (hname : (fn.name == "runtime.NumGoroutine") = false) (hb : fn.body.isSome = true) (args : Array Value) (w : World) :
    (callFunc f args).run P w = .ok (.enter f args) w := by
  have h1 : fn.name ≠ "runtime.NumGoroutine" := by simpa using hname
  obtain ⟨c, hc⟩ := Option.isSome_iff_exists.1 hb
  simp [callFunc, hf, h1, hc]
/-- Is there an edge, as the code finds it? -/
def jnB (t : Tv) (a b : Int) : Bool := thereB t.k a && thereB t.k b && foundF t.k t.es (a.toNat * 13 + b.toNat)
def jnV (gt gf : Nat) : Value := .func (.func 70) #[] #[.pointer (some ⟨gt, 0, none⟩), .pointer (some ⟨gf, 0, none⟩)]
section
variable {W w : World} {gt gf gj gn : Nat} {t : Tv}
set_option maxRecDepth 20000 in
theorem next1_any (hE : Ed W w gt gf t (foundF t.k t.es)) (cj : w.cell? ⟨gj, 0, none⟩ = some (jnV gt gf)) (a : Int) (cn : w.cell? ⟨gn, 0, none⟩ = some (.int .i64 a)) (i : Nat) :
    Calls Try.prog 50 #[.int .i64 (i : Nat), .pointer (some ⟨gj, 0, none⟩), .pointer (some ⟨gn, 0, none⟩)] w fun e w' => e = .returned (.bool (jnB t a (i : Nat))) ∧ Below w.heap.size w w' := by
  have HC := Lib.hid (edged1_any w t hE.bt hE.bf a (i : Nat))
  unfold jnV at cj
  clear hE
  go_enter Try.func50, Try.ntmps50
  go_wp2_with (go_at_call 70; refine HC.out.mono ?_; rintro e w2 ⟨rfl, hb⟩; have HB2 := Lib.hid hb; clear hb HC)
  go_ret
  exact ⟨rfl, HB2.out⟩
end
set_option maxRecDepth 20000 in
set_option maxHeartbeats 4000000 in
theorem next_any (W : World) (t : Tv) (hr : RowsOf ec 2 W t.A t.es) (hlen : t.es.length ≤ 1000000) (a : Int) :
    Calls Try.prog 22 #[.agg t.cells.toArray, .int .i64 a] W fun e W' => ∃ v, e = .returned v ∧ Nds W' W.heap.size v (thoseL fun i => jnB t a (i : Nat)) ∧ Below W.heap.size W W' := by
  have HR := Lib.hid hr
  have HLE := Lib.hid hlen
  clear hr hlen
  have ba := (Below.refl W.heap.size W).alloc (Nat.le_refl _) (.cells t.cells.toArray 25)
  have bb := ba.alloc ba.size (.cells #[.int .i64 a] 3)
  have hx : Blk ((W.alloc (.cells t.cells.toArray 25)).alloc (.cells #[.int .i64 a] 3)) W.heap.size 25 t.cells.toArray := (Blk.new W _ _).alloc _
  have hy : Blk ((W.alloc (.cells t.cells.toArray 25)).alloc (.cells #[.int .i64 a] 3)) (W.heap.size + 1) 3 #[.int .i64 a] := Blk.new' (by simp)
  obtain ⟨w2, hw2⟩ : ∃ w2, w2 = (W.alloc (.cells t.cells.toArray 25)).alloc (.cells #[.int .i64 a] 3) := ⟨_, rfl⟩
  rw [← hw2] at bb hx hy
  have HB2 := Lib.hid bb
  have HX2 := Lib.hid hx
  have HY2 := Lib.hid hy
  clear ba bb hx hy
  have HED := Lib.hid (edges_any w2 t (HR.out.next HB2.out) HLE.out)
  have hmf : ∀ (fn : Fn) (first cap : Array Value) (w : World), (Instr.makeFunc fn first cap).run Try.prog w = .ok (.func fn first cap) w := fun _ _ _ _ => rfl
  have HMF := Lib.hid hmf
  clear hmf
  go_enter Try.func22, Try.ntmps22
  go_upto_region 1 with fail
  rw [← hw2]
  clear hw2
  have hr0 : w2.rangeAt W.heap.size 0 t.cells := HX2.out.range
  go_upto_region 2 with (first | (refine wpList_load_mid rfl 25 _ rfl _ _ rfl t.cells _ hr0 Try.underlying25 rfl (tvinfo t) ?_) | (go_at_call 48; refine HED.out.mono ?_; rintro e w3 ⟨gt, gf, rfl, hE⟩; have HE3 := Lib.hid hE; clear hE HED))
  clear hr0
  obtain ⟨w4, hw4⟩ : ∃ w4, w4 = w3.alloc (.cells #[.func (.func 70) #[] #[.pointer (some ⟨gt, 0, none⟩), .pointer (some ⟨gf, 0, none⟩)]] 105) := ⟨_, rfl⟩
  have hb4 : Below w3.heap.size w3 w4 := by rw [hw4]; exact (Below.refl _ _).alloc (Nat.le_refl _) _
  have hj : Blk w4 w3.heap.size 105 #[jnV gt gf] := by rw [hw4]; exact Blk.new _ _ _
  rw [← hw4]
  have hn := (HY2.out.next HE3.out.bel).next hb4
  have hE := HE3.out.next hb4
  have hb24 : Below w2.heap.size w2 w4 := HE3.out.bel.trans (hb4.mono HE3.out.bel.size)
  have HB4 := Lib.hid (HB2.out.trans (hb24.mono HB2.out.size))
  have HTH := Lib.hid (those_any 50 #[.pointer (some ⟨w3.heap.size, 0, none⟩), .pointer (some ⟨W.heap.size + 1, 0, none⟩)] (fun i => jnB t a (i : Nat)) w4 (fun args w => run_enter Try.func50 (by kernel_rfl) (by kernel_rfl) args w) (fun w hb i _ _ => next1_any (hE.next hb) ((hj.next hb).cell 0) a ((hn.next hb).cell 0) i))
  have hmf := HMF.out
  clear hw4 hb4 hj hn hE hb24
  go_wp2_with (go_at_call 49; refine HTH.out.mono ?_; rintro e w5 ⟨v, rfl, hN, hb5⟩; have HN5 := Lib.hid hN; have HB5 := Lib.hid hb5; clear hN hb5 HTH)
  go_ret
  exact ⟨_, rfl, HN5.out.le HB4.out.size, HB4.out.trans (HB5.out.mono HB4.out.size)⟩
end Tr
end Go.Proofs.Ytohnhokddbeheaa
