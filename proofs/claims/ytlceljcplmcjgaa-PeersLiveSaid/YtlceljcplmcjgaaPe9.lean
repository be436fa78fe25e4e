/-
peers: the peers of bytes (load of the statements).
-/
import Derived.Test.YtlceljcplmcjgaaPe8
import Derived.Test.YtlceljcplmcjgaaStrS
namespace Go.Proofs.Ytlceljcplmcjgaa
open Go.RowKit
set_option linter.unusedSimpArgs false
set_option linter.unusedVariables false
namespace Pe
theorem run_enter {P : Program} {f : FuncId} {fn : Func} (hf : P.funcs[f]? = some fn) (hname : (fn.name == "runtime.NumGoroutine") = false) (hb : fn.body.isSome = true) (args : Array Value) (w : World) :
    (callFunc f args).run P w = .ok (.enter f args) w := by
  have h1 : fn.name ≠ "runtime.NumGoroutine" := by simpa using hname
  obtain ⟨c, hc⟩ := Option.isSome_iff_exists.1 hb
  simp [callFunc, hf, h1, hc]
/-- What load's callback gives: the peers are stored in box c. -/
def EndC (L c s : Nat) (W : World) (P : Except Int (PS × List Nat)) (e : Ending) (W' : World) : Prop :=
  match P with
  | .ok (x, q) => e = .returned (.tuple #[]) ∧ RdB L W' s q ∧ ∃ w1 d, Off s W w1 ∧ W' = w1.setCell ⟨c, 0, none⟩ (.pointer (some ⟨d, 0, none⟩)) ∧ Blk W' c 23 #[.pointer (some ⟨d, 0, none⟩)] ∧ PP W' W.heap.size d x
  | .error y => e = .panicked [{ v := flt s, recovered := false }] ∧ Met' W' s y ∧ Off s W W'
set_option maxHeartbeats 4000000 in
set_option maxRecDepth 20000 in
theorem load1_any {L k s c : Nat} {W : World} {bs : List Nat} (hr : Rdr W k s) (h : RdB L W s bs) (hk : k < W.heap.size) (hL : L ≤ W.heap.size) (hc : Blk W c 23 #[.pointer none]) (hcs : c ≠ s) (hcL : L ≤ c) :
    Calls Try.prog 49 #[.pointer (some ⟨k, 0, none⟩), .pointer (some ⟨c, 0, none⟩)] W fun e W' => EndC L c s W (peersP bs) e W' := by
  have hs : s < W.heap.size := by obtain ⟨A, c, hR, _⟩ := h; exact World.block_lt_of_cell? W ⟨s, 0, none⟩ hR.1
  have HG := Lib.hid (get_any hr h hk hs hL)
  have hcl := hc.lt
  have HC := Lib.hid (And.intro hc (And.intro hcl (And.intro hcs hcL)))
  have HS := Lib.hid hs
  obtain ⟨R, hR⟩ : ∃ R, R = peersP bs := ⟨_, rfl⟩
  unfold EndA at HG
  rw [← hR] at HG ⊢
  clear hR h hr hk hL hc hcl hcs hcL hs
  match R with
  | .error x =>
    go_enter Try.func49, Try.ntmps49
    go_wp2_with (first | (go_at_call 50; refine HG.out.mono ?_; rintro e w1 ⟨hO, rfl, hM⟩; have HM := Lib.hid (And.intro hM hO); clear hM hO))
    exact ⟨rfl, rfl, HM.out.1, HM.out.2⟩
  | .ok (S, q) =>
    go_enter Try.func49, Try.ntmps49
    have HG2 := Lib.hid (HG.out.mono (R' := fun e w1 => ∃ d, e = .returned (.pointer (some ⟨d, 0, none⟩)) ∧ Blk w1 c 23 #[.pointer none] ∧ RdB L w1 s q ∧ Off s W w1 ∧ PP w1 W.heap.size d S) (by
      rintro e w1 ⟨hO, d, rfl, hK, hd⟩
      exact ⟨d, rfl, (hO.block c HC.out.2.1 HC.out.2.2.1).trans HC.out.1, hd, hO, hK⟩))
    clear HG
    go_wp2_with (first | (go_at_call 50; refine HG2.out.mono ?_; rintro e w1 ⟨d, rfl, hcc, hd, hO, hT⟩; have cc := hcc.cell 0; have fz := hcc.frozen 0; simp only [List.getElem?_toArray, List.getElem?_cons_zero] at cc; have HCC := Lib.hid hcc; clear hcc; have HO := Lib.hid hO; have HT := Lib.hid hT; have HD := Lib.hid hd; clear hd hO hT))
    have hf : ∀ j, j ≠ c → (w1.setCell ⟨c, 0, none⟩ (.pointer (some ⟨d, 0, none⟩))).heap[j]? = w1.heap[j]? := fun j hj => Below.heap_setCell w1 ⟨c, 0, none⟩ _ j hj
    have hz : (w1.setCell ⟨c, 0, none⟩ (.pointer (some ⟨d, 0, none⟩))).heap.size = w1.heap.size := by simp [World.setCell]
    have hb : Blk (w1.setCell ⟨c, 0, none⟩ (.pointer (some ⟨d, 0, none⟩))) c 23 #[.pointer (some ⟨d, 0, none⟩)] := Blk.setMid [.pointer (some ⟨d, 0, none⟩)] [] [.pointer none] [] w1 HCC.out rfl
    refine ⟨rfl, .tuple #[], by simp [results, Try.results49, go_sem], rfl, Nd.rdb_keep HD.out (hf s (fun e => HC.out.2.2.1 e.symm)) (fun b hb _ _ => hf b (by have := HC.out.2.2.2; omega)) (Nat.le_of_eq hz.symm), w1, d, HO.out, rfl, hb, HT.out.keep (hf d (by have := HT.out.2; have := HC.out.2.1; omega))⟩
/-- What load's read leaves. -/
def LoadP (bs : List Nat) (W : World) (r : Except Int (List Nat)) (W' : World) : Prop :=
  (match peersP bs with
    | .ok (S, q) => r = .ok q ∧ ∃ d, Blk W' W.heap.size 23 #[.pointer (some ⟨d, 0, none⟩)] ∧ PP W' (W.heap.size + 5) d S
    | .error x => r = .error x) ∧ Below W.heap.size W W'
set_option maxRecDepth 20000 in
theorem load_call (A : Option Addr) (n cp : Nat) (W : World) (bs : List Nat) (hn : bs.length = n) (hnc : n ≤ cp)
    (hbs : Byt.ByR W A bs) :
    Calls Try.prog 48 #[.slice A n cp, .func (.func 49) #[] #[.pointer (some ⟨W.heap.size, 0, none⟩)]] (W.alloc (.cells #[.pointer none] 23)) fun e W' => ∃ r, e = .returned (.int .i64 (readE r)) ∧ LoadP bs W r W' := by
  have hb0 : Below W.heap.size W (W.alloc (.cells #[.pointer none] 23)) := (Below.refl _ _).alloc (Nat.le_refl _) _
  have hsz : (W.alloc (.cells #[.pointer none] 23)).heap.size = W.heap.size + 1 := by simp
  have hg0 : Blk (W.alloc (.cells #[.pointer none] 23)) W.heap.size 23 #[.pointer none] := Blk.new W _ _
  obtain ⟨Wb, hWb⟩ : ∃ Wb, Wb = W.alloc (.cells #[.pointer none] 23) := ⟨_, rfl⟩
  rw [← hWb] at hb0 hsz hg0 ⊢
  clear hWb
  refine (read_any4 (L := W.heap.size) A n cp 49 #[.pointer (some ⟨W.heap.size, 0, none⟩)] Wb bs (fun r W2 => LoadP bs W r W2)
    (fun args w => run_enter Try.func49 (by kernel_rfl) (by kernel_rfl) args w) hn hnc (by omega) ?_ ?_).mono ?_
  · refine hbs.imp id ?_
    rintro ⟨b, p, h1, h2, h3⟩
    exact ⟨b, p, h1, h2, fun i x hx => (hb0.cell (p := ⟨b, p + i, none⟩) h2).trans (h3 i x hx)⟩
  · intro W1 k s hb hs hk hs1 h4 _ hR hB
    have hg1 := hg0.next hb
    have hk1 := World.block_lt_of_cell? W1 ⟨k, 0, none⟩ hR.2
    refine (load1_any (c := W.heap.size) hR hB hk1 (by omega) hg1 (by omega) (by omega)).mono ?_
    intro e W2 h
    unfold Fine LoadP
    unfold EndC at h
    cases hq : peersP bs with
    | error x =>
      rw [hq] at h
      obtain ⟨rfl, hM, hO⟩ := h
      refine ⟨fun b _ h6 h7 => hO.block b h6 h7, Or.inr ⟨x, peersP_ne0 hq, rfl, hM, rfl, ?_⟩⟩
      exact hb0.trans ((hb.mono (by omega)).trans (hO.belowB (by omega) (by omega)))
    | ok z =>
      obtain ⟨S, q⟩ := z
      rw [hq] at h
      obtain ⟨rfl, hB2, w1, d, hO, rfl, hcb, hK⟩ := h
      have hf : ∀ j, j ≠ W.heap.size → (w1.setCell ⟨W.heap.size, 0, none⟩ (.pointer (some ⟨d, 0, none⟩))).heap[j]? = w1.heap[j]? := fun j hj => Below.heap_setCell w1 ⟨W.heap.size, 0, none⟩ _ j hj
      refine ⟨fun j h5 h6 h7 => (hf j (by omega)).trans (hO.block j h6 h7), Or.inl ⟨q, rfl, hB2, ⟨rfl, d, hcb, hK.1, by have := hK.2; omega⟩, ?_⟩⟩
      exact (hb0.trans ((hb.mono (by omega)).trans (hO.belowB (by omega) (by omega)))).setCell (p := ⟨W.heap.size, 0, none⟩) (Nat.le_refl _) _
  · rintro e W' ⟨r, W2, hY, he, hb3, hk3⟩
    refine ⟨r, he, ?_⟩
    unfold LoadP at hY ⊢
    refine ⟨?_, hY.2.trans (hb3.mono (by omega))⟩
    have h1 := hY.1
    cases hq : peersP bs with
    | error x => rw [hq] at h1; exact h1
    | ok z =>
      obtain ⟨S, q⟩ := z
      rw [hq] at h1
      obtain ⟨rfl, d, hc, T⟩ := h1
      exact ⟨rfl, d, (hb3.block _ (by omega)).trans hc, T.keep (hk3 d T.lt (by have := T.2; omega) (by have := T.2; omega))⟩
section
variable (A : Option Addr) (n cp : Nat) (W : World) (bs : List Nat) (hn : bs.length = n) (hnc : n ≤ cp)
    (hbs : Byt.ByR W A bs)
include hn hnc hbs
set_option maxRecDepth 20000 in
set_option maxHeartbeats 4000000 in
theorem load_yes {S : PS} (h : peersP bs = .ok (S, [])) :
    Calls Try.prog 27 #[.slice A n cp] W fun e W' => ∃ d, e = .returned (.pointer (some ⟨d, 0, none⟩)) ∧ PP W' W.heap.size d S ∧ Below W.heap.size W W' := by
  have HC := Lib.hid (load_call A n cp W bs hn hnc hbs)
  have hmf : ∀ (fn : Fn) (first cap : Array Value) (w : World), (Instr.makeFunc fn first cap).run Try.prog w = .ok (.func fn first cap) w := fun _ _ _ _ => rfl
  have HP := Lib.hid h
  clear hn hnc hbs h
  go_enter Try.func27, Try.ntmps27
  go_wp2_with (first | (go_at_call 48; refine HC.out.mono ?_; rintro e W1 ⟨r, rfl, hR⟩; unfold LoadP at hR; rw [HP.out] at hR; obtain ⟨⟨rfl, d, hc, T⟩, hb⟩ := hR; have cc := hc.cell 0; simp only [List.getElem?_toArray, List.getElem?_cons_zero] at cc; have HT := Lib.hid T; have HB := Lib.hid hb; clear hb T hc; rw [show readE (.ok []) = 0 from rfl]))
  go_ret
  exact ⟨d, rfl, ⟨HT.out.1, by have := HT.out.2; omega⟩, HB.out⟩
set_option maxRecDepth 20000 in
set_option maxHeartbeats 4000000 in
theorem load_no (h : ∀ S, peersP bs ≠ .ok (S, [])) :
    Calls Try.prog 27 #[.slice A n cp] W fun e W' => e = .returned (.pointer none) ∧ Below W.heap.size W W' := by
  have HC := Lib.hid (load_call A n cp W bs hn hnc hbs)
  have hmf : ∀ (fn : Fn) (first cap : Array Value) (w : World), (Instr.makeFunc fn first cap).run Try.prog w = .ok (.func fn first cap) w := fun _ _ _ _ => rfl
  have HP := Lib.hid (show ∀ r W', LoadP bs W r W' → ∃ z : Int, readE r = z ∧ decide (z = 0) = false from fun r W' hR => by
    have h1 := hR.1
    refine ⟨readE r, rfl, decide_eq_false ?_⟩
    cases hq : peersP bs with
    | error x => rw [hq] at h1; subst h1; exact peersP_ne0 hq
    | ok q =>
      obtain ⟨S, q⟩ := q
      rw [hq] at h1
      obtain ⟨rfl, _⟩ := h1
      cases q with
      | nil => exact absurd hq (h S)
      | cons a t => unfold readE; simp)
  clear hn hnc hbs h
  go_enter Try.func27, Try.ntmps27
  go_wp2_with fail
  refine HC.out.mono ?_
  rintro e W1 ⟨r, rfl, hR⟩
  obtain ⟨z, hz, hz0⟩ := HP.out r W1 hR
  obtain ⟨_, hb⟩ := hR
  have HB := Lib.hid hb
  have hz2 : z ≠ 0 := by simpa using hz0
  have hz1 : (z != 0) = true := by simpa using hz2
  have hz3 : (z == 0) = false := by simpa using hz2
  rw [hz]
  clear hb hz hz0 HP HC
  go_wp2_with fail
  go_ret
  exact ⟨rfl, HB.out⟩
end
end Pe
end Go.Proofs.Ytlceljcplmcjgaa
