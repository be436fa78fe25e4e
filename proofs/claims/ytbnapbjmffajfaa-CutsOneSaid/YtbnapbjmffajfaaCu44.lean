/-
cuts: CutsOne: two homes as one of both sees them.
-/
import Derived.Test.YtbnapbjmffajfaaCu42
import Derived.Deep.CutBlock
namespace Go.Proofs.Ytbnapbjmffajfaa
open Go.RowKit
set_option linter.unusedSimpArgs false
set_option linter.unusedVariables false
namespace Co
open Cb
theorem wy_fill (parts : List (Nat × Value)) : Try.prog.built 43 parts = Instr.fill (#[(0, 1), (1, 14)][·]?) #[.int .i64 0, .bool false, .int .u64 0, .int .u32 0, .int .u32 0, .int .u32 0, .int .u32 0, .int .u32 0, .int .u32 0, .int .u32 0, .int .u32 0, .int .u32 0, .int .u32 0, .int .u32 0, .int .u32 0] parts := by kernel_rfl
theorem built_wy (r : Nat) (z : St) : Try.prog.built 43 [(0, .int .i64 (r : Nat)), (1, .agg z.cells.toArray)] = some (wyc (r, z)).toArray := by
  rw [wy_fill]
  unfold wyc
  obtain ⟨place, hpl⟩ : ∃ place : Nat → Option (Nat × Nat), place = (#[(0, 1), (1, 14)][·]?) := ⟨_, rfl⟩
  have p0 : place 0 = some (0, 1) := by rw [hpl]; rfl
  have p1 : place 1 = some (1, z.cells.length) := by rw [hpl, st_len]; rfl
  rw [← hpl]
  refine (fill_sc (pre := []) (post := z14) p0 rfl rfl).trans ?_
  refine (fill_one (pre := [_]) (mid := z14) (post := []) p1 rfl (by rw [st_len]; rfl)).trans ?_
  rw [Instr.fill, List.append_nil]
theorem zero_wy (w : World) : (zeroValue 43).run Try.prog w = .ok (.agg #[.int .i64 0, .bool false, .int .u64 0, .int .u32 0, .int .u32 0, .int .u32 0, .int .u32 0, .int .u32 0, .int .u32 0, .int .u32 0, .int .u32 0, .int .u32 0, .int .u32 0, .int .u32 0, .int .u32 0]) w := by
  have := (zero_of_info (P := Try.prog) (t := 43) (v := .agg #[.int .i64 0, .bool false, .int .u64 0, .int .u32 0, .int .u32 0, .int .u32 0, .int .u32 0, .int .u32 0, .int .u32 0, .int .u32 0, .int .u32 0, .int .u32 0, .int .u32 0, .int .u32 0, .int .u32 0]) (n := 15) (by kernel_rfl)).1 w
  exact this
theorem wysize : (Try.prog.info? 43).map (·.size) = some 15 := by kernel_rfl
def z15 : List Value := .int .i64 0 :: z14
theorem zeros15 : Array.map (fun x => ([.int .i64 0, .bool false, .int .u64 0, .int .u32 0, .int .u32 0, .int .u32 0, .int .u32 0, .int .u32 0, .int .u32 0, .int .u32 0, .int .u32 0, .int .u32 0, .int .u32 0, .int .u32 0, .int .u32 0] : List Value)[x % 15]?.getD default) (Array.range 15) = z15.toArray := by
  apply Array.ext'
  simp [List.range_eq_range', List.range', z15, z14, z12]
theorem run_bsw (m : Nat × St) (w : World) :
    (Instr.buildSlice 28 1 #[(0, .agg (wyc m).toArray)]).run Try.prog w = .ok (.slice (some ⟨w.heap.size, 0, none⟩) 1 1) (w.alloc (.cells (wyc m).toArray 43)) := by
  have h1 := fill_one (place := fun i => some (i * 15, 15)) (i := 0) (off := 0) (cs := wyc m) (pre := []) (mid := z15) (post := []) (rest := []) (by rw [wyc_len]) rfl (by rw [wyc_len]; rfl)
  have h3 : Instr.fill (fun i => some (i * 15, 15)) z15.toArray [(0, .agg (wyc m).toArray)] = some (wyc m).toArray := by
    rw [List.nil_append, List.nil_append, List.append_nil, List.append_nil] at h1
    rw [h1, Instr.fill]
  simp only [Instr.buildSlice, Sem.run_bind, run_underlying Try.underlying28, Result.andThen_ok, run_sizeOf wysize, zero_wy]
  simp [Value.cells, zeros15, h3, newRow]
theorem wp_bsw {o : Oper} {a : Act} {w : World} {K : Act → World → Prop} {Q : Exit → Act → World → Prop} {m : Nat × St} (x : Operand)
    (ho : o.op = .buildSlice 28 1 #[(0, x)]) (hx : a.eval x = .agg (wyc m).toArray)
    (h : K (a.put o.dst (.slice (some ⟨w.heap.size, 0, none⟩) 1 1)) (w.alloc (.cells (wyc m).toArray 43))) : Oper.wp Try.prog o a w K Q := by
  unfold Oper.wp execOp
  simp only [ho, hx, List.map_toArray, List.map_cons, List.map_nil, Sem.run_bind, run_bsw, Result.andThen_ok, Sem.run_pure]
  exact h
theorem sy_at {W w : World} {A : Option Addr} {l : List Cu.Sy} {k : Nat} {x : Cu.Sy} (hr : RowsOf Cu.Sy.cells 15 W A l) (hb : Below W.heap.size W w) (hx : l[k]? = some x) : ∃ b o, A = some ⟨b, o, none⟩ ∧ b < W.heap.size ∧ w.rangeAt b (o + k * 15) x.cells := by
  obtain ⟨hk, hxl⟩ := List.getElem?_eq_some_iff.1 hx
  rcases hr with hh | ⟨b, o, rfl, hbl, hro⟩
  · subst hh; cases hk
  · refine ⟨b, o, rfl, hbl, fun i u hi => (hb.cell (p := ⟨b, _, none⟩) hbl).trans (hro k hk i u ?_)⟩
    rw [hxl]; exact hi
theorem wt_len : ∀ l : List (Nat × St), l.length ≤ wt l
  | [] => by simp [wt]
  | m :: l => by have := wt_len l; rw [wt_cons, List.length_cons]; split <;> omega
theorem two_len {o p : Int} {a b : TS} {ta tb : List (Nat × St)} (h : Two o p a b ta tb) : a.cs.length ≤ 20 ∧ b.cs.length ≤ 20 ∧ ta.length ≤ 8 ∧ tb.length ≤ 8 := by
  have hf := two_few h
  have h1 := wt_len ta
  have h2 := wt_len tb
  obtain ⟨S1, S2, H⟩ := h
  have := H.ha.len
  have := H.hb.len
  have := H.l1
  have := H.l2
  exact ⟨by omega, by omega, by omega, by omega⟩
/-- Two homes, as memory, whatever lies on its way. -/
def Inv (W w : World) (gt gw d1 d2 n k : Nat) : Prop := ∃ a b v0 v1 m0 m1, Wm W w gt gw d1 d2 a b v0 v1 m0 m1 ∧ Two 1 2 a b m0 m1 ∧ Pot n k m0 m1
theorem Inv.bel {W w : World} {gt gw d1 d2 n k : Nat} (h : Inv W w gt gw d1 d2 n k) : Below W.heap.size W w := by
  obtain ⟨a, b, v0, v1, m0, m1, h, -⟩ := h; exact h.bel
theorem Inv.next {W w w' : World} {gt gw d1 d2 n k : Nat} (h : Inv W w gt gw d1 d2 n k) (hb : Below w.heap.size w w') : Inv W w' gt gw d1 d2 n k := by
  obtain ⟨a, b, v0, v1, m0, m1, h, h2⟩ := h; exact ⟨a, b, v0, v1, m0, m1, h.next hb, h2⟩
/-- How a round's say came. -/
def From (n k : Nat) (x : Cu.Sy) : Prop := (k < n ∧ n ≤ 60) ∨ (¬ (k < n ∧ n ≤ 60) ∧ x.hm = k ∧ x.g = true)
theorem wrap_k (k : Nat) (h : k ≤ 1000 ∨ ∃ m : Nat, k < m ∧ m ≤ 9223372036854775807) : wrap64 ((k : Int) + 1) = ((k + 1 : Nat) : Int) := by
  unfold wrap64
  rcases h with h | ⟨m, h1, h2⟩ <;> omega
theorem nn_of (n : Nat) (h : n ≤ 9223372036854775807) : wrap64 ((n : Int) + 200) = (n : Int) + 200 ∧ n + 200 ≤ 9223372036854775807 ∨ wrap64 ((n : Int) + 200) < 0 ∧ 60 < n := by
  unfold wrap64
  omega
theorem eqCt_run (x y : Ct) (h : x = y) : ∀ w, (Op.equalIn 10000 47 (.agg x.cells.toArray) (.agg y.cells.toArray)).run Try.prog w = .ok true w := by
  subst h
  intro w
  rw [eq_ct]
  have : eqCt x x = true := by unfold eqCt; simp [eqB_self]
  rw [this]
/-- Two homes as one of both sees them. -/
def WmH (W w : World) (gt gw d1 d2 h oh dh doh : Nat) (o p : Int) (a b : TS) (vh voh : Value) (mh moh : List (Nat × St)) : Prop :=
  (h = 0 ∧ oh = 1 ∧ o = 1 ∧ p = 2 ∧ dh = d1 ∧ doh = d2 ∧ Wm W w gt gw d1 d2 a b vh voh mh moh) ∨ (h = 1 ∧ oh = 0 ∧ o = 2 ∧ p = 1 ∧ dh = d2 ∧ doh = d1 ∧ Wm W w gt gw d1 d2 b a voh vh moh mh)
section
variable {W w w' w1 w9 : World} {gt gw d1 d2 h oh dh doh n k : Nat} {o p : Int} {a b a' b' : TS} {vh voh v' : Value} {mh moh m' mh' moh' : List (Nat × St)}
theorem WmH.tab (H : WmH W w gt gw d1 d2 h oh dh doh o p a b vh voh mh moh) : w.cell? ⟨gt, h, none⟩ = some (.pointer (some ⟨dh, 0, none⟩)) := by
  rcases H with ⟨rfl, rfl, rfl, rfl, rfl, rfl, H⟩ | ⟨rfl, rfl, rfl, rfl, rfl, rfl, H⟩
  · exact H.bt.cell 0
  · exact H.bt.cell 1
theorem WmH.way (H : WmH W w gt gw d1 d2 h oh dh doh o p a b vh voh mh moh) : w.cell? ⟨gw, h, none⟩ = some vh ∧ w.cell? ⟨gw, oh, none⟩ = some voh := by
  rcases H with ⟨rfl, rfl, rfl, rfl, rfl, rfl, H⟩ | ⟨rfl, rfl, rfl, rfl, rfl, rfl, H⟩
  · exact ⟨H.bw.cell 0, H.bw.cell 1⟩
  · exact ⟨H.bw.cell 1, H.bw.cell 0⟩
theorem WmH.blk (H : WmH W w gt gw d1 d2 h oh dh doh o p a b vh voh mh moh) : ∃ cs, Blk w gw 29 cs ∧ cs[oh]? = some voh ∧ cs[h]? = some vh := by
  rcases H with ⟨rfl, rfl, rfl, rfl, rfl, rfl, H⟩ | ⟨rfl, rfl, rfl, rfl, rfl, rfl, H⟩
  · exact ⟨_, H.bw, rfl, rfl⟩
  · exact ⟨_, H.bw, rfl, rfl⟩
theorem WmH.own (H : WmH W w gt gw d1 d2 h oh dh doh o p a b vh voh mh moh) : OffR w W.heap.size 43 15 vh mh.length (wys mh) ∧ OffR w W.heap.size 43 15 voh moh.length (wys moh) := by
  rcases H with ⟨rfl, rfl, rfl, rfl, rfl, rfl, H⟩ | ⟨rfl, rfl, rfl, rfl, rfl, rfl, H⟩
  · exact ⟨H.o0, H.o1⟩
  · exact ⟨H.o1, H.o0⟩
theorem WmH.bel (H : WmH W w gt gw d1 d2 h oh dh doh o p a b vh voh mh moh) : Below W.heap.size W w := by
  rcases H with ⟨rfl, rfl, rfl, rfl, rfl, rfl, H⟩ | ⟨rfl, rfl, rfl, rfl, rfl, rfl, H⟩ <;> exact H.bel
theorem WmH.next (H : WmH W w gt gw d1 d2 h oh dh doh o p a b vh voh mh moh) (hb : Below w.heap.size w w') : WmH W w' gt gw d1 d2 h oh dh doh o p a b vh voh mh moh := by
  rcases H with ⟨e1, e2, e3, e4, e5, e6, H⟩ | ⟨e1, e2, e3, e4, e5, e6, H⟩
  · exact Or.inl ⟨e1, e2, e3, e4, e5, e6, H.next hb⟩
  · exact Or.inr ⟨e1, e2, e3, e4, e5, e6, H.next hb⟩
theorem WmH.lt (H : WmH W w gt gw d1 d2 h oh dh doh o p a b vh voh mh moh) : W.heap.size ≤ gw ∧ gw < w.heap.size ∧ o ≠ 0 ∧ p ≠ 0 ∧ o ≠ p := by
  rcases H with ⟨rfl, rfl, rfl, rfl, rfl, rfl, H⟩ | ⟨rfl, rfl, rfl, rfl, rfl, rfl, H⟩
  · exact ⟨H.gl.2, H.bw.lt, by decide, by decide, by decide⟩
  · exact ⟨H.gl.2, H.bw.lt, by decide, by decide, by decide⟩
/-- What is on its way to the other home changes. -/
theorem WmH.set (H : WmH W w gt gw d1 d2 h oh dh doh o p a b vh voh mh moh) (hown : OffR w9 W.heap.size 43 15 v' m'.length (wys m')) (hg : w.grownBy w9 voh.ownBlock) (hloc : v'.ownBlock = voh.ownBlock ∨ v'.ownBlock = some w.heap.size) :
    WmH W (w9.setCell ⟨gw, oh, none⟩ v') gt gw d1 d2 h oh dh doh o p a b vh v' mh m' := by
  rcases H with ⟨rfl, rfl, e3, e4, e5, e6, H⟩ | ⟨rfl, rfl, e3, e4, e5, e6, H⟩
  · exact Or.inl ⟨rfl, rfl, e3, e4, e5, e6, H.set1 hown hg hloc⟩
  · exact Or.inr ⟨rfl, rfl, e3, e4, e5, e6, H.set0 hown hg hloc⟩
theorem WmH.pop (H : WmH W w gt gw d1 d2 h oh dh doh o p a b vh voh mh moh) (hown : OffR w9 W.heap.size 43 15 v' m'.length (wys m')) (hg : w.grownBy w9 vh.ownBlock) (hloc : v'.ownBlock = vh.ownBlock ∨ v'.ownBlock = some w.heap.size) :
    WmH W (w9.setCell ⟨gw, h, none⟩ v') gt gw d1 d2 h oh dh doh o p a b v' voh m' moh := by
  rcases H with ⟨rfl, rfl, e3, e4, e5, e6, H⟩ | ⟨rfl, rfl, e3, e4, e5, e6, H⟩
  · exact Or.inl ⟨rfl, rfl, e3, e4, e5, e6, H.set0 hown hg hloc⟩
  · exact Or.inr ⟨rfl, rfl, e3, e4, e5, e6, H.set1 hown hg hloc⟩
theorem wp_symm (k : Nat) : WP gt gw vh voh k ↔ WP gt gw voh vh k := by unfold WP; exact ⟨fun h => by rcases h with h | h | h | h <;> simp [h], fun h => by rcases h with h | h | h | h <;> simp [h]⟩
theorem WmH.prop (H : WmH W w gt gw d1 d2 h oh dh doh o p a b vh voh mh moh) (hl : a.cs.length ≤ 100000) (hb : Below w.heap.size w w1) (tm : Nat) (f : Nat → Nat) :
    Calls Try.prog 8 #[.pointer (some ⟨dh, 0, none⟩), .int .u64 (tm : Nat), .agg (vl f).toArray] w1 fun e w' => (∃ z : St, e = .returned (.tuple #[.agg z.cells.toArray, .int .i64 (propE a.cs a.a ⟨true, tm, f⟩)]) ∧ (propE a.cs a.a ⟨true, tm, f⟩ = 0 → z = ⟨true, tm, f⟩)) ∧ WmH W w' gt gw d1 d2 h oh dh doh o p (TS.propG o p a tm f) b vh voh mh moh := by
  rcases H with ⟨rfl, rfl, rfl, rfl, rfl, rfl, H⟩ | ⟨rfl, rfl, rfl, rfl, rfl, rfl, H⟩
  · refine (H.td.prop (by decide) hl hb tm f).mono ?_
    rintro e w' ⟨he, k1, k2, -⟩
    exact ⟨he, Or.inl ⟨rfl, rfl, rfl, rfl, rfl, rfl, (H.next hb).turn k1 k2⟩⟩
  · refine (H.td.symm.prop (by decide) hl hb tm f).mono ?_
    rintro e w' ⟨he, k1, k2, -⟩
    exact ⟨he, Or.inr ⟨rfl, rfl, rfl, rfl, rfl, rfl, (H.next hb).turn k1.symm k2⟩⟩
theorem WmH.hear (H : WmH W w gt gw d1 d2 h oh dh doh o p a b vh voh mh moh) (hl : a.cs.length ≤ 100000) (hb : Below w.heap.size w w1) (r : Int) (x : St) (h0 : hearE p a.cs a.b r x = 0) :
    Calls Try.prog 9 #[.pointer (some ⟨dh, 0, none⟩), .int .i64 r, .agg x.cells.toArray] w1 fun e w' => e = .returned (.tuple #[.bool (promP a.a x), .int .i64 0]) ∧ WmH W w' gt gw d1 d2 h oh dh doh o p (TS.hearG o p a r x) b vh voh mh moh := by
  rcases H with ⟨rfl, rfl, rfl, rfl, rfl, rfl, H⟩ | ⟨rfl, rfl, rfl, rfl, rfl, rfl, H⟩
  · refine (H.td.hear (by decide) hl hb r x h0).mono ?_
    rintro e w' ⟨he, k1, k2, -⟩
    exact ⟨he, Or.inl ⟨rfl, rfl, rfl, rfl, rfl, rfl, (H.next hb).turn k1 k2⟩⟩
  · refine (H.td.symm.hear (by decide) hl hb r x h0).mono ?_
    rintro e w' ⟨he, k1, k2, -⟩
    exact ⟨he, Or.inr ⟨rfl, rfl, rfl, rfl, rfl, rfl, (H.next hb).turn k1.symm k2⟩⟩
theorem WmH.cuts (H : WmH W w gt gw d1 d2 h oh dh doh o p a b vh voh mh moh) (hl : a.cs.length ≤ 100000) (hb : Below w.heap.size w w1) :
    Calls Try.prog 7 #[.pointer (some ⟨dh, 0, none⟩)] w1 fun e W' => ∃ A c, e = .returned (.slice A a.cs.length c) ∧ Below w1.heap.size w1 W' ∧ (∀ (k : Nat) (x : Ct), a.cs[k]? = some x → ∃ g, A = some ⟨g, 0, none⟩ ∧ g < W'.heap.size ∧ W'.rangeAt g (k * 14) x.cells) := by
  rcases H with ⟨rfl, rfl, rfl, rfl, rfl, rfl, H⟩ | ⟨rfl, rfl, rfl, rfl, rfl, rfl, H⟩
  · obtain ⟨F, hF⟩ := (H.next hb).td.one
    exact cuts_tg w1 hF hl
  · obtain ⟨F, hF⟩ := (H.next hb).td.symm.one
    exact cuts_tg w1 hF hl
def PotH (n k h : Nat) (mh moh : List (Nat × St)) : Prop := Pot n k (if h = 0 then mh else moh) (if h = 0 then moh else mh)
theorem inv_h (hI : Inv W w gt gw d1 d2 n k) (h2 : h + oh = 1) : ∃ dh doh o p a b vh voh mh moh, WmH W w gt gw d1 d2 h oh dh doh o p a b vh voh mh moh ∧ Two o p a b mh moh ∧ PotH n k h mh moh := by
  obtain ⟨a, b, v0, v1, m0, m1, h1, h3, h4⟩ := hI
  rcases (show h = 0 ∧ oh = 1 ∨ h = 1 ∧ oh = 0 by omega) with ⟨rfl, rfl⟩ | ⟨rfl, rfl⟩
  · exact ⟨d1, d2, 1, 2, a, b, v0, v1, m0, m1, Or.inl ⟨rfl, rfl, rfl, rfl, rfl, rfl, h1⟩, h3, h4⟩
  · exact ⟨d2, d1, 2, 1, b, a, v1, v0, m1, m0, Or.inr ⟨rfl, rfl, rfl, rfl, rfl, rfl, h1⟩, h3.symm, h4⟩
theorem inv_of (H : WmH W w gt gw d1 d2 h oh dh doh o p a b vh voh mh moh) (h2 : Two o p a b mh moh) (h3 : PotH n k h mh moh) : Inv W w gt gw d1 d2 n k := by
  rcases H with ⟨rfl, rfl, rfl, rfl, rfl, rfl, H⟩ | ⟨rfl, rfl, rfl, rfl, rfl, rfl, H⟩
  · exact ⟨a, b, vh, voh, mh, moh, H, h2, h3⟩
  · exact ⟨b, a, voh, vh, moh, mh, H, h2.symm, h3⟩
theorem WmH.h01 (H : WmH W w gt gw d1 d2 h oh dh doh o p a b vh voh mh moh) : h = 0 ∨ h = 1 := by
  rcases H with ⟨rfl, -⟩ | ⟨rfl, -⟩ <;> simp
/-- A say of the list. -/
theorem inv_list (H : WmH W w gt gw d1 d2 h oh dh doh o p a b vh voh mh moh) (h2 : Two o p a b mh moh) (h3 : k < n ∧ n ≤ 60) : Inv W w gt gw d1 d2 n (k + 1) := by
  rcases H with ⟨rfl, rfl, rfl, rfl, rfl, rfl, H⟩ | ⟨rfl, rfl, rfl, rfl, rfl, rfl, H⟩
  · exact ⟨a, b, vh, voh, mh, moh, H, h2, pot_list h3.1 h3.2 h2⟩
  · exact ⟨b, a, voh, vh, moh, mh, H, h2.symm, pot_list h3.1 h3.2 h2.symm⟩
theorem from_prop {x : Cu.Sy} (h : From n k x) (hg : x.g = false) : k < n ∧ n ≤ 60 := by
  rcases h with h | ⟨-, -, h⟩
  · exact h
  · rw [h] at hg; cases hg
theorem inv_skip {x : Cu.Sy} (H : WmH W w gt gw d1 d2 h oh dh doh o p a b vh voh [] moh) (h2 : Two o p a b [] moh) (h3 : PotH n k h [] moh) (hf : From n k x) (hx : x.hm % 2 = (h : Nat)) : Inv W w gt gw d1 d2 n (k + 1) := by
  rcases hf with hf | ⟨hf, hk, -⟩
  · exact inv_list H h2 hf
  · have hk2 : k % 2 = h := by rw [hk] at hx; omega
    rcases H with ⟨rfl, rfl, rfl, rfl, rfl, rfl, H⟩ | ⟨rfl, rfl, rfl, rfl, rfl, rfl, H⟩
    · exact ⟨a, b, vh, voh, _, moh, H, h2, pot_skip h3 hf (by rw [if_pos hk2])⟩
    · exact ⟨b, a, voh, vh, moh, _, H, h2.symm, pot_skip h3 hf (by rw [if_neg (by omega)])⟩
theorem inv_hear {x : Cu.Sy} (H : WmH W w gt gw d1 d2 h oh dh doh o p a b vh voh mh' moh') (h2 : Two o p a b mh' moh') (h3 : PotH n k h mh moh) (hf : From n k x) (hw : wt mh' + wt moh' < wt mh + wt moh) : Inv W w gt gw d1 d2 n (k + 1) := by
  rcases hf with hf | ⟨hf, hk, -⟩
  · exact inv_list H h2 hf
  · rcases H with ⟨rfl, rfl, rfl, rfl, rfl, rfl, H⟩ | ⟨rfl, rfl, rfl, rfl, rfl, rfl, H⟩
    · exact ⟨a, b, vh, voh, _, _, H, h2, pot_hear h3 hf hw⟩
    · exact ⟨b, a, voh, vh, _, _, H, h2.symm, pot_hear h3 hf (by simp only [Nat.one_ne_zero, if_false]; omega)⟩
end
theorem one_meas {NN : Int} {k kk : Nat} (h : kk = k + 1) (hlt : (k : Int) < NN) : (NN - (kk : Int)).toNat < (NN - (k : Int)).toNat := by
  subst h
  omega
theorem one_meas2 {na j jj : Nat} (h : jj = j + 1) (hlt : j < na) : na - (jj : Int).toNat < na - (j : Int).toNat := by
  subst h
  omega
theorem wpList_build_g {P : Program} {ops : Array Oper} {rest : List Oper} {o : Oper} {a : Act} {w : World} {Q : Exit → Act → World → Prop} (t : TypeId) (parts : List (Nat × Operand))
    (ho : o.op = .build t parts.toArray) (hg : o.guard = none) (cells : Array Value) (hp : P.built t (parts.map fun x => (x.1, a.eval x.2)) = some cells)
    (h : wpList P ops Q rest (a.put o.dst (.agg cells)) w) : wpList P ops Q (o :: rest) a w := wpList_build_lit cells (by unfold Region.wanted; rw [hg]) t parts ho hp h
end Co
end Go.Proofs.Ytbnapbjmffajfaa
