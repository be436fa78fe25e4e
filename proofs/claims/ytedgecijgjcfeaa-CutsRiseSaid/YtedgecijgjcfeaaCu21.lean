/-
cuts: Load.
-/
import Derived.Test.YtedgecijgjcfeaaCu20
namespace Go.Proofs.Ytedgecijgjcfeaa
open Go.RowKit
set_option linter.unusedSimpArgs false
set_option linter.unusedVariables false
namespace Cu
theorem numP_err : ∀ (bs : List Nat) (b : Bool) (n : Nat) (x : Int), numP b n bs = .error x → x ≠ 0
  | [], b, n, x, h => by unfold numP at h; cases h; decide
  | y :: t, b, n, x, h => by
    unfold numP at h
    split at h
    · cases h; decide
    · split at h
      · cases h; decide
      · split at h
        · cases h
        · exact numP_err t _ _ x h
theorem smallP_ne {most : Int} {bs : List Nat} {x : Int} (h : smallP most bs = .error x) : x ≠ 0 := by
  unfold smallP at h
  split at h
  · split at h
    · cases h
    · cases h; decide
  · rename_i y hy
    cases h
    exact numP_err _ _ _ _ hy
theorem bindP_ne {α β : Type} {P : List Nat → Except Int (α × List Nat)} {Q : α → List Nat → Except Int (β × List Nat)} (hP : ∀ bs x, P bs = .error x → x ≠ 0) (hQ : ∀ a bs x, Q a bs = .error x → x ≠ 0) (bs : List Nat) (x : Int) (h : bindP P Q bs = .error x) : x ≠ 0 := by
  unfold bindP at h
  split at h
  · exact hQ _ _ _ h
  · rename_i y hy; cases h; exact hP _ _ hy
theorem vecP_ne : ∀ (n : Nat) (acc t : List Nat) (x : Int), vecP acc n t = .error x → x ≠ 0 := by
  intro n
  induction n with
  | zero => intro acc t x h; unfold vecP at h; cases h
  | succ n ih =>
    intro acc t x h
    unfold vecP at h
    split at h
    · split at h
      · split at h
        · exact ih _ _ _ h
        · cases h; decide
      · cases h; decide
    · rename_i y hy; cases h; exact numP_err _ _ _ _ hy
theorem vectorP_ne (bs : List Nat) (x : Int) (h : vectorP bs = .error x) : x ≠ 0 := by
  unfold vectorP at h
  split at h
  · exact vecP_ne _ _ _ _ h
  · rename_i y hy; cases h; exact smallP_ne hy

theorem numP_ne {bs : List Nat} {x : Int} (h : numP true 0 bs = .error x) : x ≠ 0 := by
  have := smallP_ne (most := 0) (bs := bs) (x := x) (by unfold smallP; rw [h])
  exact this
theorem stanceP_ne {bs : List Nat} {x : Int} (h : stanceP bs = .error x) : x ≠ 0 := by
  unfold stanceP at h
  cases h1 : numP true 0 bs with
  | error y => rw [h1] at h; injection h with h; subst h; exact numP_ne h1
  | ok z =>
    obtain ⟨t, r⟩ := z
    rw [h1] at h
    dsimp only at h
    cases h2 : vectorP r with
    | error y => rw [h2] at h; injection h with h; subst h; exact vectorP_ne r y h2
    | ok z => obtain ⟨l, q⟩ := z; rw [h2] at h; cases h
theorem saidP_ne {bs : List Nat} {x : Int} (h : saidP bs = .error x) : x ≠ 0 := by
  unfold saidP at h
  cases h1 : smallP 2 bs with
  | error y => rw [h1] at h; injection h with h; subst h; exact smallP_ne h1
  | ok z =>
    obtain ⟨n, r⟩ := z
    rw [h1] at h
    dsimp only at h
    by_cases h0 : n = 0
    · rw [if_pos h0] at h; cases h
    · rw [if_neg h0] at h
      by_cases h3 : n = 1
      · rw [if_pos h3] at h; cases h
      · rw [if_neg h3] at h
        cases h2 : stanceP r with
        | error y => rw [h2] at h; injection h with h; subst h; exact stanceP_ne h2
        | ok z => obtain ⟨l, q⟩ := z; rw [h2] at h; cases h
theorem propT_ne {own other : Int} {cs : List Ct} {a b : Sd} {s : St} {x : Int} (h : propT own other cs a b s = .error x) : x ≠ 0 := by
  unfold propT at h
  split at h
  · cases h
  · injection h with h; subst h; decide
theorem hearT_ne {own other r : Int} {cs : List Ct} {a b : Sd} {s : St} {x : Int} (h : hearT own other cs a b r s = .error x) : x ≠ 0 := by
  unfold hearT at h
  split at h
  · cases h
  · injection h with h; subst h; decide
theorem partT_ne {cs : List Ct} {a b z : Sd} {P : Except Int (List Ct × Sd × Sd)} {x : Int} (hP : P = .error x → x ≠ 0) (h : partT z cs a b P = .error x) : x ≠ 0 := by
  unfold partT at h
  split at h
  · exact hP h
  · cases h
theorem withB_ne {q : List Nat} {P : Except Int (List Ct × Sd × Sd)} {x : Int} (hP : P = .error x → x ≠ 0) (h : withB q P = .error x) : x ≠ 0 := by
  unfold withB at h
  split at h
  · cases h
  · injection h with h; subst h; exact hP rfl
theorem cutT_ne {own other : Int} {bs : List Nat} {cs : List Ct} {a b : Sd} {x : Int} (h : cutT own other bs cs a b = .error x) : x ≠ 0 := by
  unfold cutT at h
  split at h
  · rename_i h1; injection h with h; subst h; exact smallP_ne h1
  · split at h
    · rename_i h1; injection h with h; subst h; exact stanceP_ne h1
    · split at h
      · split at h
        · rename_i h1; injection h with h; subst h; exact propT_ne h1
        · split at h
          · cases h
          · exact withB_ne hearT_ne h
      · split at h
        · exact withB_ne hearT_ne h
        · injection h with h; subst h; decide
theorem cutsT_ne {own other : Int} : ∀ (n : Nat) (bs : List Nat) (cs : List Ct) (a b : Sd) (x : Int), cutsT own other n bs cs a b = .error x → x ≠ 0
  | 0, _, _, _, _, _, h => by unfold cutsT at h; cases h
  | n + 1, bs, cs, a, b, x, h => by
    unfold cutsT at h
    split at h
    · rename_i h1; injection h with h; subst h; exact cutT_ne h1
    · exact cutsT_ne n _ _ _ _ _ h
theorem stancesT_ne {own other : Int} {bs : List Nat} {cs : List Ct} {a b : Sd} {x : Int} (h : stancesT own other bs cs a b = .error x) : x ≠ 0 := by
  unfold stancesT at h
  split at h
  · rename_i h1; injection h with h; subst h; exact saidP_ne h1
  · split at h
    · rename_i h1; injection h with h; subst h; exact partT_ne propT_ne h1
    · split at h
      · rename_i h1; injection h with h; subst h; exact saidP_ne h1
      · split at h
        · rename_i h1; injection h with h; subst h; exact partT_ne hearT_ne h1
        · split at h
          · cases h
          · injection h with h; subst h; decide
theorem restT_ne {own other : Int} {bs : List Nat} {x : Int} (h : restT own other bs = .error x) : x ≠ 0 := by
  unfold restT at h
  split at h
  · rename_i h1; injection h with h; subst h; exact smallP_ne h1
  · split at h
    · rename_i h1; injection h with h; subst h; exact cutsT_ne _ _ _ _ _ _ h1
    · exact stancesT_ne h
theorem tableT_ne {bs : List Nat} {x : Int} (h : tableT bs = .error x) : x ≠ 0 := by
  unfold tableT at h
  split at h
  · rename_i h1; injection h with h; subst h; exact smallP_ne h1
  · split at h
    · rename_i h1; injection h with h; subst h; exact smallP_ne h1
    · split at h
      · split at h
        · rename_i h1; injection h with h; subst h; exact restT_ne h1
        · cases h
      · injection h with h; subst h; decide
end Cu
theorem OffB.belowB {B C s : Nat} {a b : World} (h : OffB C s a b) (hB : B ≤ C) (hs : B ≤ s) : Below B a b :=
  { os := h.os, tape := h.tape, output := h.output, size := h.size, block := fun i hi => h.block i (by omega) (by omega) }
/-- What Load's callback gives: the table is stored in box c. -/
def EndL (L c s : Nat) (W : World) (P : Except Int (Int × Int × List Nat × List Ct × Sd × Sd)) (e : Ending) (W' : World) : Prop :=
  match P with
  | .ok (o, p, q, cs, a, b) => e = .returned (.tuple #[]) ∧ RdB L W' s q ∧ ∃ w1 B t F v, OffB W.heap.size s W w1 ∧ W' = w1.setCell ⟨c, 0, none⟩ (.pointer (some ⟨t, 0, none⟩)) ∧ Blk W' c 23 #[.pointer (some ⟨t, 0, none⟩)] ∧ W.heap.size ≤ B ∧ Tb W' B t F o p v cs a b ∧ o ≠ 0 ∧ cs.length ≤ 20
  | .error x => e = .panicked [{ v := flt s, recovered := false }] ∧ Met' W' s x ∧ OffB W.heap.size s W W'
set_option maxHeartbeats 4000000 in
set_option maxRecDepth 20000 in
theorem load1_any {L k s c : Nat} {W : World} {bs : List Nat} (hr : Rdr W k s) (h : RdB L W s bs) (hk : k < W.heap.size) (hL : L ≤ W.heap.size) (hc : Blk W c 23 #[.pointer none]) (hcs : c ≠ s) (hcL : L ≤ c) :
    Calls Try.prog 31 #[.pointer (some ⟨k, 0, none⟩), .pointer (some ⟨c, 0, none⟩)] W fun e W' => EndL L c s W (tableT bs) e W' := by
  have HG := Lib.hid (get_any hr h hk hL)
  have hcl := hc.lt
  have HC := Lib.hid (And.intro hc (And.intro hcl (And.intro hcs hcL)))
  obtain ⟨R, hR⟩ : ∃ R, R = tableT bs := ⟨_, rfl⟩
  rw [← hR] at HG ⊢
  clear hR h hr hk hL hc hcl hcs hcL
  match R with
  | .error x =>
    go_enter Try.func31, Try.ntmps31
    go_wp2_with (first | (go_at_call 32; refine HG.out.mono ?_; rintro e w1 ⟨rfl, hM⟩; have HM := Lib.hid hM; clear hM))
    exact ⟨rfl, rfl, HM.out.1, HM.out.2⟩
  | .ok (o, p, q, cs, a, b) =>
    go_enter Try.func31, Try.ntmps31
    have HG2 := Lib.hid (HG.out.mono (R' := fun e w1 => ∃ t, e = .returned (.pointer (some ⟨t, 0, none⟩)) ∧ Blk w1 c 23 #[.pointer none] ∧ RdB L w1 s q ∧ OffB W.heap.size s W w1 ∧ ∃ B F v, W.heap.size ≤ B ∧ Tb w1 B t F o p v cs a b ∧ o ≠ 0 ∧ cs.length ≤ 20) (by
      rintro e w1 ⟨W0, t, hO, rfl, ho, hl, F, v, T, hB, hr, hd⟩
      have hz := hO.size
      have h2 : OffB W.heap.size s W w1 := (OffB.ofOff hO (Nat.le_refl _)).trans (hB.less hz)
      refine ⟨t, rfl, ?_, hd, h2, W0.heap.size, F, v, hz, T, ho, hl⟩
      exact (h2.block c HC.out.2.1 HC.out.2.2.1).trans HC.out.1))
    clear HG
    go_wp2_with (first | (go_at_call 32; refine HG2.out.mono ?_; rintro e w1 ⟨t, rfl, hcc, hd, hO, hT⟩; have cc := hcc.cell 0; have fz := hcc.frozen 0; simp only [List.getElem?_toArray, List.getElem?_cons_zero] at cc; have HCC := Lib.hid hcc; clear hcc; have HO := Lib.hid hO; have HT := Lib.hid hT; have HD := Lib.hid hd; clear hd hO hT))
    have hf : ∀ j, j ≠ c → (w1.setCell ⟨c, 0, none⟩ (.pointer (some ⟨t, 0, none⟩))).heap[j]? = w1.heap[j]? := fun j hj => Below.heap_setCell w1 ⟨c, 0, none⟩ _ j hj
    have hz : (w1.setCell ⟨c, 0, none⟩ (.pointer (some ⟨t, 0, none⟩))).heap.size = w1.heap.size := by simp [World.setCell]
    have hb : Blk (w1.setCell ⟨c, 0, none⟩ (.pointer (some ⟨t, 0, none⟩))) c 23 #[.pointer (some ⟨t, 0, none⟩)] := Blk.setMid [.pointer (some ⟨t, 0, none⟩)] [] [.pointer none] [] w1 HCC.out rfl
    obtain ⟨B, F, v, hB, T, ho, hl⟩ := HT.out
    refine ⟨rfl, .tuple #[], by simp [results, Try.results31, go_sem], rfl, HD.out.turn (Nat.le_of_eq hz.symm) hf HC.out.2.2.1 HC.out.2.2.2, w1, B, t, F, v, HO.out, rfl, hb, hB, T.keep (fun j hF => hf j (by have := (T.low j hF).1; have := HC.out.2.1; omega)) (Nat.le_of_eq hz.symm), ho, hl⟩
end Go.Proofs.Ytedgecijgjcfeaa
