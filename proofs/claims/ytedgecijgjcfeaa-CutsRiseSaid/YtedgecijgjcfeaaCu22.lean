/-
cuts: Load.
-/
import Derived.Test.YtedgecijgjcfeaaCu21
namespace Go.Proofs.Ytedgecijgjcfeaa
open Go.RowKit
set_option linter.unusedSimpArgs false
set_option linter.unusedVariables false
theorem Cu.run_enter {P : Program} {f : FuncId} {fn : Func} (hf : P.funcs[f]? = some fn) (hname : (fn.name == "runtime.NumGoroutine") = false) (hb : fn.body.isSome = true) (args : Array Value) (w : World) :
    (callFunc f args).run P w = .ok (.enter f args) w := by
  have h1 : fn.name ≠ "runtime.NumGoroutine" := by simpa using hname
  obtain ⟨c, hc⟩ := Option.isSome_iff_exists.1 hb
  simp [callFunc, hf, h1, hc]
/-- What Load's read leaves. -/
def LoadP (bs : List Nat) (W : World) (r : Except Int (List Nat)) (W' : World) : Prop :=
  (match tableT bs with
    | .ok (o, p, q, cs, a, b) => r = .ok q ∧ ∃ B t F v, W.heap.size + 5 ≤ B ∧ Blk W' W.heap.size 23 #[.pointer (some ⟨t, 0, none⟩)] ∧ Tb W' B t F o p v cs a b ∧ o ≠ 0 ∧ cs.length ≤ 20
    | .error x => r = .error x) ∧ Below W.heap.size W W'
set_option maxRecDepth 20000 in
theorem load_call (A : Option Addr) (n cp : Nat) (W : World) (bs : List Nat) (hn : bs.length = n) (hnc : n ≤ cp)
    (hbs : bs = [] ∨ ∃ b p, A = some ⟨b, p, none⟩ ∧ b < W.heap.size ∧ ∀ (i x : Nat), bs[i]? = some x → W.cell? ⟨b, p + i, none⟩ = some (.int .u8 (x : Nat))) :
    Calls Try.prog 30 #[.slice A n cp, .func (.func 31) #[] #[.pointer (some ⟨W.heap.size, 0, none⟩)]] (W.alloc (.cells #[.pointer none] 23)) fun e W' => ∃ r, e = .returned (.int .i64 (readE r)) ∧ LoadP bs W r W' := by
  have hb0 : Below W.heap.size W (W.alloc (.cells #[.pointer none] 23)) := below_box W _ _
  have hsz : (W.alloc (.cells #[.pointer none] 23)).heap.size = W.heap.size + 1 := by simp
  have hg0 : Blk (W.alloc (.cells #[.pointer none] 23)) W.heap.size 23 #[.pointer none] := Blk.new W _ _
  obtain ⟨Wb, hWb⟩ : ∃ Wb, Wb = W.alloc (.cells #[.pointer none] 23) := ⟨_, rfl⟩
  rw [← hWb] at hb0 hsz hg0 ⊢
  clear hWb
  refine (read_any4 (L := W.heap.size) A n cp 31 #[.pointer (some ⟨W.heap.size, 0, none⟩)] Wb bs (fun r W2 => LoadP bs W r W2)
    (fun args w => Cu.run_enter Try.func31 (by kernel_rfl) (by kernel_rfl) args w) hn hnc (by omega) ?_ ?_).mono ?_
  · refine hbs.imp id ?_
    rintro ⟨b, p, h1, h2, h3⟩
    exact ⟨b, p, h1, h2, fun i x hx => (hb0.cell (p := ⟨b, p + i, none⟩) h2).trans (h3 i x hx)⟩
  · intro W1 k s hb hs hk hs1 h4 _ hR hB
    have hg1 := hg0.next hb
    have hk1 := World.block_lt_of_cell? W1 ⟨k, 0, none⟩ hR.2
    refine (load1_any (c := W.heap.size) hR hB hk1 (by omega) hg1 (by omega) (by omega)).mono ?_
    intro e W2 h
    unfold Fine LoadP
    unfold EndL at h
    cases hq : tableT bs with
    | error x =>
      rw [hq] at h
      obtain ⟨rfl, hM, hO⟩ := h
      refine ⟨fun b _ h6 h7 => hO.block b h6 h7, Or.inr ⟨x, Cu.tableT_ne hq, rfl, hM, rfl, ?_⟩⟩
      exact hb0.trans ((hb.mono (by omega)).trans (hO.belowB (by omega) (by omega)))
    | ok z =>
      obtain ⟨o, p, q, cs, a, b⟩ := z
      rw [hq] at h
      obtain ⟨rfl, hB2, w1, B, t, F, v, hO, rfl, hcb, hBB, T, ho, hl⟩ := h
      have hf : ∀ j, j ≠ W.heap.size → (w1.setCell ⟨W.heap.size, 0, none⟩ (.pointer (some ⟨t, 0, none⟩))).heap[j]? = w1.heap[j]? := fun j hj => Below.heap_setCell w1 ⟨W.heap.size, 0, none⟩ _ j hj
      refine ⟨fun j h5 h6 h7 => (hf j (by omega)).trans (hO.block j h6 h7), Or.inl ⟨q, rfl, hB2, ⟨rfl, B, t, F, v, by omega, hcb, T, ho, hl⟩, ?_⟩⟩
      exact (hb0.trans ((hb.mono (by omega)).trans (hO.belowB (by omega) (by omega)))).setCell (p := ⟨W.heap.size, 0, none⟩) (Nat.le_refl _) _
  · rintro e W' ⟨r, W2, hY, he, hb3, hk3⟩
    refine ⟨r, he, ?_⟩
    unfold LoadP at hY ⊢
    refine ⟨?_, hY.2.trans (hb3.mono (by omega))⟩
    have h1 := hY.1
    cases hq : tableT bs with
    | error x => rw [hq] at h1; exact h1
    | ok z =>
      obtain ⟨o, p, q, cs, a, b⟩ := z
      rw [hq] at h1
      obtain ⟨rfl, B, t, F, v, hB, hc, T, ho, hl⟩ := h1
      exact ⟨rfl, B, t, F, v, hB, (hb3.block _ (by omega)).trans hc, T.keep (fun j hF => hk3 j (T.low j hF).2 (by have := (T.low j hF).1; omega) (by have := (T.low j hF).1; omega)) hb3.size, ho, hl⟩
section
variable (A : Option Addr) (n cp : Nat) (W : World) (bs : List Nat) (hn : bs.length = n) (hnc : n ≤ cp)
    (hbs : bs = [] ∨ ∃ b p, A = some ⟨b, p, none⟩ ∧ b < W.heap.size ∧ ∀ (i x : Nat), bs[i]? = some x → W.cell? ⟨b, p + i, none⟩ = some (.int .u8 (x : Nat)))
include hn hnc hbs
set_option maxRecDepth 20000 in
set_option maxHeartbeats 4000000 in
theorem load_yes {o p : Int} {cs : List Ct} {a b : Sd} (h : tableT bs = .ok (o, p, [], cs, a, b)) :
    Calls Try.prog 14 #[.slice A n cp] W fun e W' => ∃ B t F v, e = .returned (.tuple #[.pointer (some ⟨t, 0, none⟩), .int .i64 0]) ∧ W.heap.size ≤ B ∧ Tb W' B t F o p v cs a b ∧ o ≠ 0 ∧ cs.length ≤ 20 ∧ Below W.heap.size W W' := by
  have HC := Lib.hid (load_call A n cp W bs hn hnc hbs)
  have hmf : ∀ (fn : Fn) (first cap : Array Value) (w : World), (Instr.makeFunc fn first cap).run Try.prog w = .ok (.func fn first cap) w := fun _ _ _ _ => rfl
  have HP := Lib.hid h
  clear hn hnc hbs h
  go_enter Try.func14, Try.ntmps14
  go_wp2_with (first | (go_at_call 30; refine HC.out.mono ?_; rintro e W1 ⟨r, rfl, hR⟩; unfold LoadP at hR; rw [HP.out] at hR; obtain ⟨⟨rfl, B, t, F, v, hB, hc, T, ho, hl⟩, hb⟩ := hR; have cc := hc.cell 0; simp only [List.getElem?_toArray, List.getElem?_cons_zero] at cc; have HT := Lib.hid (And.intro hB (And.intro T (And.intro ho hl))); have HB := Lib.hid hb; clear hb hB T ho hl hc; rw [show readE (.ok []) = 0 from rfl]))
  go_ret2
  exact ⟨B, t, F, v, rfl, by have := HT.out.1; omega, HT.out.2.1, HT.out.2.2.1, HT.out.2.2.2, HB.out⟩
set_option maxRecDepth 20000 in
set_option maxHeartbeats 4000000 in
theorem load_no (h : ∀ o p cs a b, tableT bs ≠ .ok (o, p, [], cs, a, b)) :
    Calls Try.prog 14 #[.slice A n cp] W fun e W' => e = .returned (.tuple #[.pointer none, .int .i64 3]) ∧ Below W.heap.size W W' := by
  have HC := Lib.hid (load_call A n cp W bs hn hnc hbs)
  have hmf : ∀ (fn : Fn) (first cap : Array Value) (w : World), (Instr.makeFunc fn first cap).run Try.prog w = .ok (.func fn first cap) w := fun _ _ _ _ => rfl
  have HP := Lib.hid (show ∀ r W', LoadP bs W r W' → ∃ z : Int, readE r = z ∧ decide (z = 0) = false from fun r W' hR => by
    have h1 := hR.1
    refine ⟨readE r, rfl, decide_eq_false ?_⟩
    cases hq : tableT bs with
    | error x => rw [hq] at h1; subst h1; exact Cu.tableT_ne hq
    | ok q =>
      obtain ⟨o, p, q, cs, a, b⟩ := q
      rw [hq] at h1
      obtain ⟨rfl, _⟩ := h1
      cases q with
      | nil => exact absurd hq (h o p cs a b)
      | cons a t => unfold readE; simp)
  clear hn hnc hbs h
  go_enter Try.func14, Try.ntmps14
  go_wp2_with fail
  refine HC.out.mono ?_
  rintro e W1 ⟨r, rfl, hR⟩
  obtain ⟨z, hz, hz0⟩ := HP.out r W1 hR
  obtain ⟨_, hb⟩ := hR
  have HB := Lib.hid hb
  have hz2 : z ≠ 0 := by simpa using hz0
  have hz1 : (z != 0) = true := by simpa using hz2
  have hz3 : (z == 0) = false := by simpa using hz2
  rw [hz]
  clear hb hz hz0 HP HC
  go_wp2_with fail
  go_ret2
  exact ⟨rfl, HB.out⟩
end
end Go.Proofs.Ytedgecijgjcfeaa
