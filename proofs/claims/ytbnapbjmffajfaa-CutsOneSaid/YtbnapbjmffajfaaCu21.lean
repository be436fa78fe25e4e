/-
cuts: Load.
cuts: Load.
cuts: Own.
-/
import Derived.Test.YtbnapbjmffajfaaCu20
namespace Go.Proofs.Ytbnapbjmffajfaa
open Go.RowKit
set_option linter.unusedSimpArgs false
set_option linter.unusedVariables false
namespace Cu
theorem numP_err : ∀ (bs : List Nat) (b : Bool) (n : Nat) (x : Int), numP b n bs = .error x → x ≠ 0
  | [], b, n, x, h => by unfold numP at h; cases h; decide
  | y :: t, b, n, x, h => by
    unfold numP at h
    split at h
    · cases h; decide
    · split at h
      · cases h; decide
      · split at h
        · cases h
        · exact numP_err t _ _ x h
theorem smallP_ne {most : Int} {bs : List Nat} {x : Int} (h : smallP most bs = .error x) : x ≠ 0 := by
  unfold smallP at h
  split at h
  · split at h
    · cases h
    · cases h; decide
  · rename_i y hy
    cases h
    exact numP_err _ _ _ _ hy
theorem bindP_ne {α β : Type} {P : List Nat → Except Int (α × List Nat)} {Q : α → List Nat → Except Int (β × List Nat)} (hP : ∀ bs x, P bs = .error x → x ≠ 0) (hQ : ∀ a bs x, Q a bs = .error x → x ≠ 0) (bs : List Nat) (x : Int) (h : bindP P Q bs = .error x) : x ≠ 0 := by
  unfold bindP at h
  split at h
  · exact hQ _ _ _ h
  · rename_i y hy; cases h; exact hP _ _ hy
theorem vecP_ne : ∀ (n : Nat) (acc t : List Nat) (x : Int), vecP acc n t = .error x → x ≠ 0 := by
  intro n
  induction n with
  | zero => intro acc t x h; unfold vecP at h; cases h
  | succ n ih =>
    intro acc t x h
    unfold vecP at h
    split at h
    · split at h
      · split at h
        · exact ih _ _ _ h
        · cases h; decide
      · cases h; decide
    · rename_i y hy; cases h; exact numP_err _ _ _ _ hy
theorem vectorP_ne (bs : List Nat) (x : Int) (h : vectorP bs = .error x) : x ≠ 0 := by
  unfold vectorP at h
  split at h
  · exact vecP_ne _ _ _ _ h
  · rename_i y hy; cases h; exact smallP_ne hy

theorem numP_ne {bs : List Nat} {x : Int} (h : numP true 0 bs = .error x) : x ≠ 0 := by
  have := smallP_ne (most := 0) (bs := bs) (x := x) (by unfold smallP; rw [h])
  exact this
theorem stanceP_ne {bs : List Nat} {x : Int} (h : stanceP bs = .error x) : x ≠ 0 := by
  unfold stanceP at h
  cases h1 : numP true 0 bs with
  | error y => rw [h1] at h; injection h with h; subst h; exact numP_ne h1
  | ok z =>
    obtain ⟨t, r⟩ := z
    rw [h1] at h
    dsimp only at h
    cases h2 : vectorP r with
    | error y => rw [h2] at h; injection h with h; subst h; exact vectorP_ne r y h2
    | ok z => obtain ⟨l, q⟩ := z; rw [h2] at h; cases h
theorem saidP_ne {bs : List Nat} {x : Int} (h : saidP bs = .error x) : x ≠ 0 := by
  unfold saidP at h
  cases h1 : smallP 2 bs with
  | error y => rw [h1] at h; injection h with h; subst h; exact smallP_ne h1
  | ok z =>
    obtain ⟨n, r⟩ := z
    rw [h1] at h
    dsimp only at h
    by_cases h0 : n = 0
    · rw [if_pos h0] at h; cases h
    · rw [if_neg h0] at h
      by_cases h3 : n = 1
      · rw [if_pos h3] at h; cases h
      · rw [if_neg h3] at h
        cases h2 : stanceP r with
        | error y => rw [h2] at h; injection h with h; subst h; exact stanceP_ne h2
        | ok z => obtain ⟨l, q⟩ := z; rw [h2] at h; cases h
theorem propT_ne {own other : Int} {cs : List Ct} {a b : Sd} {s : St} {x : Int} (h : propT own other cs a b s = .error x) : x ≠ 0 := by
  unfold propT at h
  split at h
  · cases h
  · injection h with h; subst h; decide
theorem hearT_ne {own other r : Int} {cs : List Ct} {a b : Sd} {s : St} {x : Int} (h : hearT own other cs a b r s = .error x) : x ≠ 0 := by
  unfold hearT at h
  split at h
  · cases h
  · injection h with h; subst h; decide
theorem partT_ne {cs : List Ct} {a b z : Sd} {P : Except Int (List Ct × Sd × Sd)} {x : Int} (hP : P = .error x → x ≠ 0) (h : partT z cs a b P = .error x) : x ≠ 0 := by
  unfold partT at h
  split at h
  · exact hP h
  · cases h
theorem withB_ne {q : List Nat} {P : Except Int (List Ct × Sd × Sd)} {x : Int} (hP : P = .error x → x ≠ 0) (h : withB q P = .error x) : x ≠ 0 := by
  unfold withB at h
  split at h
  · cases h
  · injection h with h; subst h; exact hP rfl
theorem cutT_ne {own other : Int} {bs : List Nat} {cs : List Ct} {a b : Sd} {x : Int} (h : cutT own other bs cs a b = .error x) : x ≠ 0 := by
  unfold cutT at h
  split at h
  · rename_i h1; injection h with h; subst h; exact smallP_ne h1
  · split at h
    · rename_i h1; injection h with h; subst h; exact stanceP_ne h1
    · split at h
      · split at h
        · rename_i h1; injection h with h; subst h; exact propT_ne h1
        · split at h
          · cases h
          · exact withB_ne hearT_ne h
      · split at h
        · exact withB_ne hearT_ne h
        · injection h with h; subst h; decide
theorem cutsT_ne {own other : Int} : ∀ (n : Nat) (bs : List Nat) (cs : List Ct) (a b : Sd) (x : Int), cutsT own other n bs cs a b = .error x → x ≠ 0
  | 0, _, _, _, _, _, h => by unfold cutsT at h; cases h
  | n + 1, bs, cs, a, b, x, h => by
    unfold cutsT at h
    split at h
    · rename_i h1; injection h with h; subst h; exact cutT_ne h1
    · exact cutsT_ne n _ _ _ _ _ h
theorem stancesT_ne {own other : Int} {bs : List Nat} {cs : List Ct} {a b : Sd} {x : Int} (h : stancesT own other bs cs a b = .error x) : x ≠ 0 := by
  unfold stancesT at h
  split at h
  · rename_i h1; injection h with h; subst h; exact saidP_ne h1
  · split at h
    · rename_i h1; injection h with h; subst h; exact partT_ne propT_ne h1
    · split at h
      · rename_i h1; injection h with h; subst h; exact saidP_ne h1
      · split at h
        · rename_i h1; injection h with h; subst h; exact partT_ne hearT_ne h1
        · split at h
          · cases h
          · injection h with h; subst h; decide
theorem restT_ne {own other : Int} {bs : List Nat} {x : Int} (h : restT own other bs = .error x) : x ≠ 0 := by
  unfold restT at h
  split at h
  · rename_i h1; injection h with h; subst h; exact smallP_ne h1
  · split at h
    · rename_i h1; injection h with h; subst h; exact cutsT_ne _ _ _ _ _ _ h1
    · exact stancesT_ne h
theorem tableT_ne {bs : List Nat} {x : Int} (h : tableT bs = .error x) : x ≠ 0 := by
  unfold tableT at h
  split at h
  · rename_i h1; injection h with h; subst h; exact smallP_ne h1
  · split at h
    · rename_i h1; injection h with h; subst h; exact smallP_ne h1
    · split at h
      · split at h
        · rename_i h1; injection h with h; subst h; exact restT_ne h1
        · cases h
      · injection h with h; subst h; decide
end Cu
theorem OffB.belowB {B C s : Nat} {a b : World} (h : OffB C s a b) (hB : B ≤ C) (hs : B ≤ s) : Below B a b :=
  { os := h.os, tape := h.tape, output := h.output, size := h.size, block := fun i hi => h.block i (by omega) (by omega) }
/-- What Load's callback gives: the table is stored in box c. -/
def EndL (L c s : Nat) (W : World) (P : Except Int (Int × Int × List Nat × List Ct × Sd × Sd)) (e : Ending) (W' : World) : Prop :=
  match P with
  | .ok (o, p, q, cs, a, b) => e = .returned (.tuple #[]) ∧ RdB L W' s q ∧ ∃ w1 B t F v, OffB W.heap.size s W w1 ∧ W' = w1.setCell ⟨c, 0, none⟩ (.pointer (some ⟨t, 0, none⟩)) ∧ Blk W' c 23 #[.pointer (some ⟨t, 0, none⟩)] ∧ W.heap.size ≤ B ∧ Tb W' B t F o p v cs a b ∧ o ≠ 0 ∧ cs.length ≤ 20
  | .error x => e = .panicked [{ v := flt s, recovered := false }] ∧ Met' W' s x ∧ OffB W.heap.size s W W'
set_option maxHeartbeats 4000000 in
set_option maxRecDepth 20000 in
theorem load1_any {L k s c : Nat} {W : World} {bs : List Nat} (hr : Rdr W k s) (h : RdB L W s bs) (hk : k < W.heap.size) (hL : L ≤ W.heap.size) (hc : Blk W c 23 #[.pointer none]) (hcs : c ≠ s) (hcL : L ≤ c) :
    Calls Try.prog 31 #[.pointer (some ⟨k, 0, none⟩), .pointer (some ⟨c, 0, none⟩)] W fun e W' => EndL L c s W (tableT bs) e W' := by
  have HG := Lib.hid (get_any hr h hk hL)
  have hcl := hc.lt
  have HC := Lib.hid (And.intro hc (And.intro hcl (And.intro hcs hcL)))
  obtain ⟨R, hR⟩ : ∃ R, R = tableT bs := ⟨_, rfl⟩
  rw [← hR] at HG ⊢
  clear hR h hr hk hL hc hcl hcs hcL
  match R with
  | .error x =>
    go_enter Try.func31, Try.ntmps31
    go_wp2_with (first | (go_at_call 32; refine HG.out.mono ?_; rintro e w1 ⟨rfl, hM⟩; have HM := Lib.hid hM; clear hM))
    exact ⟨rfl, rfl, HM.out.1, HM.out.2⟩
  | .ok (o, p, q, cs, a, b) =>
    go_enter Try.func31, Try.ntmps31
    have HG2 := Lib.hid (HG.out.mono (R' := fun e w1 => ∃ t, e = .returned (.pointer (some ⟨t, 0, none⟩)) ∧ Blk w1 c 23 #[.pointer none] ∧ RdB L w1 s q ∧ OffB W.heap.size s W w1 ∧ ∃ B F v, W.heap.size ≤ B ∧ Tb w1 B t F o p v cs a b ∧ o ≠ 0 ∧ cs.length ≤ 20) (by
      rintro e w1 ⟨W0, t, hO, rfl, ho, hl, F, v, T, hB, hr, hd⟩
      have hz := hO.size
      have h2 : OffB W.heap.size s W w1 := (OffB.ofOff hO (Nat.le_refl _)).trans (hB.less hz)
      refine ⟨t, rfl, ?_, hd, h2, W0.heap.size, F, v, hz, T, ho, hl⟩
      exact (h2.block c HC.out.2.1 HC.out.2.2.1).trans HC.out.1))
    clear HG
    go_wp2_with (first | (go_at_call 32; refine HG2.out.mono ?_; rintro e w1 ⟨t, rfl, hcc, hd, hO, hT⟩; have cc := hcc.cell 0; have fz := hcc.frozen 0; simp only [List.getElem?_toArray, List.getElem?_cons_zero] at cc; have HCC := Lib.hid hcc; clear hcc; have HO := Lib.hid hO; have HT := Lib.hid hT; have HD := Lib.hid hd; clear hd hO hT))
    have hf : ∀ j, j ≠ c → (w1.setCell ⟨c, 0, none⟩ (.pointer (some ⟨t, 0, none⟩))).heap[j]? = w1.heap[j]? := fun j hj => Below.heap_setCell w1 ⟨c, 0, none⟩ _ j hj
    have hz : (w1.setCell ⟨c, 0, none⟩ (.pointer (some ⟨t, 0, none⟩))).heap.size = w1.heap.size := by simp [World.setCell]
    have hb : Blk (w1.setCell ⟨c, 0, none⟩ (.pointer (some ⟨t, 0, none⟩))) c 23 #[.pointer (some ⟨t, 0, none⟩)] := Blk.setMid [.pointer (some ⟨t, 0, none⟩)] [] [.pointer none] [] w1 HCC.out rfl
    obtain ⟨B, F, v, hB, T, ho, hl⟩ := HT.out
    refine ⟨rfl, .tuple #[], by simp [results, Try.results31, go_sem], rfl, HD.out.turn (Nat.le_of_eq hz.symm) hf HC.out.2.2.1 HC.out.2.2.2, w1, B, t, F, v, HO.out, rfl, hb, hB, T.keep (fun j hF => hf j (by have := (T.low j hF).1; have := HC.out.2.1; omega)) (Nat.le_of_eq hz.symm), ho, hl⟩
end Go.Proofs.Ytbnapbjmffajfaa
namespace Go.Proofs.Ytbnapbjmffajfaa
open Go.RowKit
set_option linter.unusedSimpArgs false
set_option linter.unusedVariables false
theorem Cu.run_enter {P : Program} {f : FuncId} {fn : Func} (hf : P.funcs[f]? = some fn) (hname : (fn.name == "runtime.NumGoroutine") = false) (hb : fn.body.isSome = true) (args : Array Value) (w : World) :
    (callFunc f args).run P w = .ok (.enter f args) w := by
  have h1 : fn.name ≠ "runtime.NumGoroutine" := by simpa using hname
  obtain ⟨c, hc⟩ := Option.isSome_iff_exists.1 hb
  simp [callFunc, hf, h1, hc]
/-- What Load's read leaves. -/
def LoadP (bs : List Nat) (W : World) (r : Except Int (List Nat)) (W' : World) : Prop :=
  (match tableT bs with
    | .ok (o, p, q, cs, a, b) => r = .ok q ∧ ∃ B t F v, W.heap.size + 5 ≤ B ∧ Blk W' W.heap.size 23 #[.pointer (some ⟨t, 0, none⟩)] ∧ Tb W' B t F o p v cs a b ∧ o ≠ 0 ∧ cs.length ≤ 20
    | .error x => r = .error x) ∧ Below W.heap.size W W'
set_option maxRecDepth 20000 in
theorem load_call (A : Option Addr) (n cp : Nat) (W : World) (bs : List Nat) (hn : bs.length = n) (hnc : n ≤ cp)
    (hbs : bs = [] ∨ ∃ b p, A = some ⟨b, p, none⟩ ∧ b < W.heap.size ∧ ∀ (i x : Nat), bs[i]? = some x → W.cell? ⟨b, p + i, none⟩ = some (.int .u8 (x : Nat))) :
    Calls Try.prog 30 #[.slice A n cp, .func (.func 31) #[] #[.pointer (some ⟨W.heap.size, 0, none⟩)]] (W.alloc (.cells #[.pointer none] 23)) fun e W' => ∃ r, e = .returned (.int .i64 (readE r)) ∧ LoadP bs W r W' := by
  have hb0 : Below W.heap.size W (W.alloc (.cells #[.pointer none] 23)) := below_box W _ _
  have hsz : (W.alloc (.cells #[.pointer none] 23)).heap.size = W.heap.size + 1 := by simp
  have hg0 : Blk (W.alloc (.cells #[.pointer none] 23)) W.heap.size 23 #[.pointer none] := Blk.new W _ _
  obtain ⟨Wb, hWb⟩ : ∃ Wb, Wb = W.alloc (.cells #[.pointer none] 23) := ⟨_, rfl⟩
  rw [← hWb] at hb0 hsz hg0 ⊢
  clear hWb
  refine (read_any4 (L := W.heap.size) A n cp 31 #[.pointer (some ⟨W.heap.size, 0, none⟩)] Wb bs (fun r W2 => LoadP bs W r W2)
    (fun args w => Cu.run_enter Try.func31 (by kernel_rfl) (by kernel_rfl) args w) hn hnc (by omega) ?_ ?_).mono ?_
  · refine hbs.imp id ?_
    rintro ⟨b, p, h1, h2, h3⟩
    exact ⟨b, p, h1, h2, fun i x hx => (hb0.cell (p := ⟨b, p + i, none⟩) h2).trans (h3 i x hx)⟩
  · intro W1 k s hb hs hk hs1 h4 _ hR hB
    have hg1 := hg0.next hb
    have hk1 := World.block_lt_of_cell? W1 ⟨k, 0, none⟩ hR.2
    refine (load1_any (c := W.heap.size) hR hB hk1 (by omega) hg1 (by omega) (by omega)).mono ?_
    intro e W2 h
    unfold Fine LoadP
    unfold EndL at h
    cases hq : tableT bs with
    | error x =>
      rw [hq] at h
      obtain ⟨rfl, hM, hO⟩ := h
      refine ⟨fun b _ h6 h7 => hO.block b h6 h7, Or.inr ⟨x, Cu.tableT_ne hq, rfl, hM, rfl, ?_⟩⟩
      exact hb0.trans ((hb.mono (by omega)).trans (hO.belowB (by omega) (by omega)))
    | ok z =>
      obtain ⟨o, p, q, cs, a, b⟩ := z
      rw [hq] at h
      obtain ⟨rfl, hB2, w1, B, t, F, v, hO, rfl, hcb, hBB, T, ho, hl⟩ := h
      have hf : ∀ j, j ≠ W.heap.size → (w1.setCell ⟨W.heap.size, 0, none⟩ (.pointer (some ⟨t, 0, none⟩))).heap[j]? = w1.heap[j]? := fun j hj => Below.heap_setCell w1 ⟨W.heap.size, 0, none⟩ _ j hj
      refine ⟨fun j h5 h6 h7 => (hf j (by omega)).trans (hO.block j h6 h7), Or.inl ⟨q, rfl, hB2, ⟨rfl, B, t, F, v, by omega, hcb, T, ho, hl⟩, ?_⟩⟩
      exact (hb0.trans ((hb.mono (by omega)).trans (hO.belowB (by omega) (by omega)))).setCell (p := ⟨W.heap.size, 0, none⟩) (Nat.le_refl _) _
  · rintro e W' ⟨r, W2, hY, he, hb3, hk3⟩
    refine ⟨r, he, ?_⟩
    unfold LoadP at hY ⊢
    refine ⟨?_, hY.2.trans (hb3.mono (by omega))⟩
    have h1 := hY.1
    cases hq : tableT bs with
    | error x => rw [hq] at h1; exact h1
    | ok z =>
      obtain ⟨o, p, q, cs, a, b⟩ := z
      rw [hq] at h1
      obtain ⟨rfl, B, t, F, v, hB, hc, T, ho, hl⟩ := h1
      exact ⟨rfl, B, t, F, v, hB, (hb3.block _ (by omega)).trans hc, T.keep (fun j hF => hk3 j (T.low j hF).2 (by have := (T.low j hF).1; omega) (by have := (T.low j hF).1; omega)) hb3.size, ho, hl⟩
section
variable (A : Option Addr) (n cp : Nat) (W : World) (bs : List Nat) (hn : bs.length = n) (hnc : n ≤ cp)
    (hbs : bs = [] ∨ ∃ b p, A = some ⟨b, p, none⟩ ∧ b < W.heap.size ∧ ∀ (i x : Nat), bs[i]? = some x → W.cell? ⟨b, p + i, none⟩ = some (.int .u8 (x : Nat)))
include hn hnc hbs
set_option maxRecDepth 20000 in
set_option maxHeartbeats 4000000 in
theorem load_yes {o p : Int} {cs : List Ct} {a b : Sd} (h : tableT bs = .ok (o, p, [], cs, a, b)) :
    Calls Try.prog 14 #[.slice A n cp] W fun e W' => ∃ B t F v, e = .returned (.tuple #[.pointer (some ⟨t, 0, none⟩), .int .i64 0]) ∧ W.heap.size ≤ B ∧ Tb W' B t F o p v cs a b ∧ o ≠ 0 ∧ cs.length ≤ 20 ∧ Below W.heap.size W W' := by
  have HC := Lib.hid (load_call A n cp W bs hn hnc hbs)
  have hmf : ∀ (fn : Fn) (first cap : Array Value) (w : World), (Instr.makeFunc fn first cap).run Try.prog w = .ok (.func fn first cap) w := fun _ _ _ _ => rfl
  have HP := Lib.hid h
  clear hn hnc hbs h
  go_enter Try.func14, Try.ntmps14
  go_wp2_with (first | (go_at_call 30; refine HC.out.mono ?_; rintro e W1 ⟨r, rfl, hR⟩; unfold LoadP at hR; rw [HP.out] at hR; obtain ⟨⟨rfl, B, t, F, v, hB, hc, T, ho, hl⟩, hb⟩ := hR; have cc := hc.cell 0; simp only [List.getElem?_toArray, List.getElem?_cons_zero] at cc; have HT := Lib.hid (And.intro hB (And.intro T (And.intro ho hl))); have HB := Lib.hid hb; clear hb hB T ho hl hc; rw [show readE (.ok []) = 0 from rfl]))
  go_ret2
  exact ⟨B, t, F, v, rfl, by have := HT.out.1; omega, HT.out.2.1, HT.out.2.2.1, HT.out.2.2.2, HB.out⟩
set_option maxRecDepth 20000 in
set_option maxHeartbeats 4000000 in
theorem load_no (h : ∀ o p cs a b, tableT bs ≠ .ok (o, p, [], cs, a, b)) :
    Calls Try.prog 14 #[.slice A n cp] W fun e W' => e = .returned (.tuple #[.pointer none, .int .i64 3]) ∧ Below W.heap.size W W' := by
  have HC := Lib.hid (load_call A n cp W bs hn hnc hbs)
  have hmf : ∀ (fn : Fn) (first cap : Array Value) (w : World), (Instr.makeFunc fn first cap).run Try.prog w = .ok (.func fn first cap) w := fun _ _ _ _ => rfl
  have HP := Lib.hid (show ∀ r W', LoadP bs W r W' → ∃ z : Int, readE r = z ∧ decide (z = 0) = false from fun r W' hR => by
    have h1 := hR.1
    refine ⟨readE r, rfl, decide_eq_false ?_⟩
    cases hq : tableT bs with
    | error x => rw [hq] at h1; subst h1; exact Cu.tableT_ne hq
    | ok q =>
      obtain ⟨o, p, q, cs, a, b⟩ := q
      rw [hq] at h1
      obtain ⟨rfl, _⟩ := h1
      cases q with
      | nil => exact absurd hq (h o p cs a b)
      | cons a t => unfold readE; simp)
  clear hn hnc hbs h
  go_enter Try.func14, Try.ntmps14
  go_wp2_with fail
  refine HC.out.mono ?_
  rintro e W1 ⟨r, rfl, hR⟩
  obtain ⟨z, hz, hz0⟩ := HP.out r W1 hR
  obtain ⟨_, hb⟩ := hR
  have HB := Lib.hid hb
  have hz2 : z ≠ 0 := by simpa using hz0
  have hz1 : (z != 0) = true := by simpa using hz2
  have hz3 : (z == 0) = false := by simpa using hz2
  rw [hz]
  clear hb hz hz0 HP HC
  go_wp2_with fail
  go_ret2
  exact ⟨rfl, HB.out⟩
end
end Go.Proofs.Ytbnapbjmffajfaa
namespace Go.Proofs.Ytbnapbjmffajfaa
open Go.RowKit
set_option linter.unusedSimpArgs false
set_option linter.unusedVariables false
set_option maxRecDepth 20000 in
set_option maxHeartbeats 4000000 in
theorem own_any {W : World} {B t : Nat} {F : Nat → Prop} {own other : Int} {v : Value} {cs : List Ct} {a b : Sd} (T : Tb W B t F own other v cs a b) :
    Calls Try.prog 23 #[.pointer (some ⟨t, 0, none⟩)] W fun e W' => e = .returned (.tuple #[.agg a.s.cells.toArray, .bool a.is]) ∧ Below W.heap.size W W' := by
  have HT := Lib.hid T
  have htW : t < W.heap.size := (T.low t T.ft).2
  clear T
  go_enter Try.func23, Try.ntmps23
  go_upto_region 3 with fail
  have hb1 := below_box W 39 #[.bool false, .int .u64 0, .int .u32 0, .int .u32 0, .int .u32 0, .int .u32 0, .int .u32 0, .int .u32 0, .int .u32 0, .int .u32 0, .int .u32 0, .int .u32 0, .int .u32 0, .int .u32 0]
  have bk := Blk.new W 39 #[.bool false, .int .u64 0, .int .u32 0, .int .u32 0, .int .u32 0, .int .u32 0, .int .u32 0, .int .u32 0, .int .u32 0, .int .u32 0, .int .u32 0, .int .u32 0, .int .u32 0, .int .u32 0]
  obtain ⟨w1, hw1⟩ : ∃ w1, w1 = W.alloc (.cells #[.bool false, .int .u64 0, .int .u32 0, .int .u32 0, .int .u32 0, .int .u32 0, .int .u32 0, .int .u32 0, .int .u32 0, .int .u32 0, .int .u32 0, .int .u32 0, .int .u32 0, .int .u32 0] 39) := ⟨_, rfl⟩
  rw [← hw1] at hb1 bk ⊢
  have T1 := HT.out.next hb1
  have r4 := T1.r4
  have c3 := T1.c3
  have hz : W.heap.size < w1.heap.size := by rw [hw1]; simp
  have HB1 := Lib.hid hb1
  have HBK := Lib.hid bk
  obtain ⟨g, hg⟩ : ∃ g, g = W.heap.size := ⟨_, rfl⟩
  have HG := Lib.hid hg
  have hgt : g ≠ t := by omega
  rw [← hg] at HBK hz ⊢
  clear hw1 hb1 T1 hg htW bk
  have hth : w1.there g 0 14 := HBK.out.there (by simp)
  refine wp_region_tree (S := (fun w' => w'.rangeAt t 4 a.s.cells ∧ w'.cell? ⟨t, 3, none⟩ = some (.bool a.is))) (.take 0 (.take 1 (.take 2 (.take 3 (.take 4 (.take 5 (.take 6 (.take 7 (.take 8 (.take 9 (.take 10 (.take 11 (.one 12 (.take 13 .nil)))))))))))))) 9999 (by kernel_rfl) (by kernel_rfl) (by kernel_rfl) (by kernel_rfl) (by kernel_rfl) (fun _ _ d _ _ h => by cases d <;> exact h) ⟨r4, c3⟩ (fun hHeld => ?_); simp only [Tree.map, List.getElem?_toArray, List.getElem?_cons_zero, List.getElem?_cons_succ]
  (repeat (first | (refine wpTree.take (v := undef) (Or.inr ⟨by rfl, rfl⟩) ?_; simp only [Act.put, List.setIfInBounds_toArray, List.set_cons_zero, List.set_cons_succ]) | (refine wpTree.take (v := .agg a.s.cells.toArray) (yieldsIf_load_mid rfl 39 _ rfl _ _ rfl a.s.cells _ (fun _ hS => hS.1) Try.underlying39 rfl (stinfo _)) ?_; simp only [Act.put, List.setIfInBounds_toArray, List.set_cons_zero, List.set_cons_succ]) | (refine wpTree.take (v := ?_) (Or.inl ⟨by rfl, ?_⟩) ?_; rotate_left; (focus (intro _ hS; (try dsimp only at hS); go_split_ands; (try subst hS); go_simp; (try (with_reducible rfl)); done)); simp only [Act.put, List.setIfInBounds_toArray, List.set_cons_zero, List.set_cons_succ])))
  refine wpTree.one (fun K hK => ?_)
  rw [if_pos (by rfl)]
  refine wp_store_mid 39 _ _ rfl g 0 a.s.cells.toArray rfl rfl (by rw [List.size_toArray, st_len]; exact hth) (stinfoA _) (st_one _) ?_
  rw [show a.s.cells.toArray.toList = a.s.cells from rfl]
  have h8o : ∀ k, k ≠ g → (w1.drew.setCells g 0 a.s.cells).heap[k]? = w1.heap[k]? := fun k hk => setCells_other g _ _ w1.drew k hk
  refine hK.out _ _ ⟨fun j u hj => (World.cell?_of_block (h8o t (Ne.symm hgt))).trans (hHeld.1 j u hj), (World.cell?_of_block (h8o t (Ne.symm hgt))).trans hHeld.2⟩ (fun _ => ?_)
  clear hK K
  (try simp only [Act.put, List.setIfInBounds_toArray, List.set_cons_zero, List.set_cons_succ])
  (repeat (first | (refine wpTree.take (v := undef) (Or.inr ⟨by rfl, rfl⟩) ?_; simp only [Act.put, List.setIfInBounds_toArray, List.set_cons_zero, List.set_cons_succ]) | (refine wpTree.take (v := ?_) (Or.inl ⟨by rfl, ?_⟩) ?_; rotate_left; (focus (intro _ hS; (try dsimp only at hS); go_split_ands; (try subst hS); go_simp; (try (with_reducible rfl)); done)); simp only [Act.put, List.setIfInBounds_toArray, List.set_cons_zero, List.set_cons_succ])))
  refine wpTree.done ?_
  have b2 : Blk (w1.drew.setCells g 0 a.s.cells) g 39 a.s.cells.toArray := by
    have h := Blk.setMid a.s.cells [] (#[.bool false, .int .u64 0, .int .u32 0, .int .u32 0, .int .u32 0, .int .u32 0, .int .u32 0, .int .u32 0, .int .u32 0, .int .u32 0, .int .u32 0, .int .u32 0, .int .u32 0, .int .u32 0] : Array Value).toList [] w1.drew HBK.out (by rw [st_len]; rfl)
    simpa using h
  have hb2 : Below g W (w1.drew.setCells g 0 a.s.cells) := setCells_below (Nat.le_refl _) _ _ w1.drew (by rw [HG.out]; exact HB1.out.drew)
  have HB2 := Lib.hid hb2
  have HBK2 := Lib.hid b2
  clear b2 hb2 h8o hHeld r4 c3 hth
  go_wp2_with fail
  refine bodyPost_row_tmp a.s.cells.toArray (.bool a.is) rfl rfl rfl rfl Try.underlying39 rfl (stinfoA _) HBK2.out ?_
  exact ⟨rfl, by rw [← HG.out]; exact HB2.out⟩
end Go.Proofs.Ytbnapbjmffajfaa
