/-
links: what LinksApart asks, in mathematics: what is sent to one node hangs on its link alone; how many packets wait.
-/
import Derived.Test.YtifoheodcbjapaaLs13
namespace Go.Proofs.Ytifoheodcbjapaa
open Go.RowKit
set_option linter.unusedSimpArgs false
set_option linter.unusedVariables false
namespace Ls
open Lk
section
variable {n : Nat} {W w w' : World} {Q Q' : Nat → Prop} {own : Nat} {d : Nat → Nat} {S : Nat → Nat → LS}
theorem Many.addQ (h : Many n W Q w own d S) (hb : Below w.heap.size w w') {x : Nat} (hx : w.heap.size ≤ x ∧ x < w'.heap.size) : Many n W (fun k => Q k ∨ k = x) w' own d S := by
  obtain ⟨F, h1, h2, h3⟩ := h
  refine ⟨F, fun i hi => ⟨(h1 i hi).1.next hb, (h1 i hi).2.1, ?_⟩, h2, h3.trans (hb.mono h3.size)⟩
  rintro k (hk | rfl)
  · exact (h1 i hi).2.2.next hb k hk
  · exact ⟨hx.2, fun hF => by have := (h1 i hi).1.low k hF; omega⟩
theorem Many.subQ (h : Many n W Q w own d S) (hq : ∀ k, Q' k → Q k) : Many n W Q' w own d S := by
  obtain ⟨F, h1, h2, h3⟩ := h
  exact ⟨F, fun i hi => ⟨(h1 i hi).1, (h1 i hi).2.1, fun k hk => (h1 i hi).2.2 k (hq k hk)⟩, h2, h3⟩
theorem Many.lt (h : Many n W Q w own d S) (hn : 0 < n) {k : Nat} (hk : Q k) : k < w.heap.size := by
  obtain ⟨F, h1, h2, h3⟩ := h
  exact ((h1 0 hn).2.2 k hk).1
theorem Many.new (h : Many n W Q w own d S) (hQ : ∀ k, Q k → k < w.heap.size) (h1 : 1 ≤ own) (h2 : own ≤ 12) : Calls Try.prog 6 #[.int .i64 (own : Nat)] w fun e w' => e = .returned (.tuple #[.pointer (some ⟨w.heap.size, 0, none⟩), .int .i64 0]) ∧ Many (n + 1) W Q w' own (updD d n w.heap.size) (updM S n S0) ∧ Below w.heap.size w w' := by
  refine (new_yes w own h1 h2).mono ?_
  rintro e w' ⟨rfl, hL, hb, hz⟩
  exact ⟨rfl, h.add hb hL any_zero hQ, hb⟩
end
theorem Many.set {n : Nat} {W w : World} {Q : Nat → Prop} {own : Nat} {d : Nat → Nat} {S : Nat → Nat → LS} (h : Many n W Q w own d S) {x i : Nat} {v : Value} (hx : Q x) (hW : W.heap.size ≤ x) : Many n W Q (w.setCell ⟨x, i, none⟩ v) own d S := by
  obtain ⟨F, h1, h2, h3⟩ := h
  have hz : (w.setCell ⟨x, i, none⟩ v).heap.size = w.heap.size := by simp [World.setCell]
  exact ⟨F, fun j hj => ⟨(h1 j hj).1.keep (fun k hF => Below.heap_setCell w ⟨x, i, none⟩ v k (fun e => by have e2 : k = x := e; subst e2; exact ((h1 j hj).2.2 k hx).2 hF)) (Nat.le_of_eq hz.symm), (h1 j hj).2.1, (h1 j hj).2.2.size (Nat.le_of_eq hz.symm)⟩, h2, h3.setCell (p := ⟨x, i, none⟩) hW v⟩
theorem updM_z (n : Nat) : updM (fun _ => S0) n S0 = fun _ => S0 := by
  funext j
  unfold updM
  split <;> rfl
/-- Three pointers, of which the first j are set. -/
def ptr (d : Nat → Nat) (j i : Nat) : Value := if i < j then .pointer (some ⟨d (i + 1), 0, none⟩) else .pointer none
def ptrs (d : Nat → Nat) (j : Nat) : List Value := [ptr d j 0, ptr d j 1, ptr d j 2]
theorem ptrs_get (d : Nat → Nat) (j : Nat) {i : Nat} (hi : i < 3) : (ptrs d j)[i]? = some (ptr d j i) := by
  match i, hi with
  | 0, _ => rfl
  | 1, _ => rfl
  | 2, _ => rfl
theorem ptrs_set (d : Nat → Nat) {j x : Nat} (hj : j < 3) : (ptrs d j).toArray.setIfInBounds j (.pointer (some ⟨x, 0, none⟩)) = (ptrs (updD d (j + 1) x) (j + 1)).toArray := by
  have h : ∀ i, i < 3 → (if i = j then Value.pointer (some ⟨x, 0, none⟩) else ptr d j i) = ptr (updD d (j + 1) x) (j + 1) i := by
    intro i hi
    unfold ptr updD
    by_cases e : i = j
    · subst e; rw [if_pos rfl, if_pos (by omega), if_pos rfl]
    · rw [if_neg e]
      by_cases h2 : i < j
      · rw [if_pos h2, if_pos (by omega), if_neg (by omega)]
      · rw [if_neg h2, if_neg (by omega)]
  have h0 := h 0 (by omega)
  have h1 := h 1 (by omega)
  have h2 := h 2 (by omega)
  unfold ptrs
  rw [← h0, ← h1, ← h2]
  match j, hj with
  | 0, _ => rfl
  | 1, _ => rfl
  | 2, _ => rfl
/-- The first one has what the others have, each of its node. -/
structure Agree (S : Nat → Nat → LS) : Prop where
  same : ∀ n, n < 3 → S 0 n = S (n + 1) n
  none : ∀ i, 3 ≤ i → S 0 i = ⟨0, 0, []⟩
section
variable {S T : Nat → LS} {nd : Int} {n : Nat}
theorem at_same (h : S n = T n) : atS S n = atS T n := by unfold atS; rw [h]
theorem sendE_same (h : S n = T n) (hn : nd.toNat - 1 = n) (own m : Nat) : sendE own S nd m = sendE own T nd m := by unfold sendE; rw [hn, at_same h]
theorem sendN_same (h : S n = T n) (hn : nd.toNat - 1 = n) (own m : Nat) : sendN own S nd m = sendN own T nd m := by unfold sendN; rw [hn, at_same h]
theorem send_same (h : S n = T n) (hn : nd.toNat - 1 = n) (own : Nat) (bs : List Nat) : send own S nd bs n = send own T nd bs n := by
  unfold send
  rw [sendE_same h hn, hn, at_same h]
  split
  · unfold updS; rw [if_pos rfl, if_pos rfl]
  · exact h
theorem send_other (hn : nd.toNat - 1 = n) (own : Nat) (bs : List Nat) {i : Nat} (hi : i ≠ n) : send own S nd bs i = S i := by
  unfold send
  split
  · unfold updS; rw [if_neg (by omega)]
  · rfl
theorem has_same (h : S n = T n) (hn : nd.toNat - 1 = n) (own : Nat) : hasB own S nd = hasB own T nd := by unfold hasB; rw [hn, h]
theorem ackE_same (h : S n = T n) (hn : nd.toNat - 1 = n) (own q : Nat) : ackE own S nd q = ackE own T nd q := by unfold ackE; rw [has_same h hn, hn, h]
theorem ackR_same (h : S n = T n) (hn : nd.toNat - 1 = n) (own q : Nat) : ackR own S nd q = ackR own T nd q := by unfold ackR; rw [has_same h hn, hn, h]
theorem ack_same (h : S n = T n) (hn : nd.toNat - 1 = n) (own q : Nat) : ack own S nd q n = ack own T nd q n := by
  unfold ack
  rw [has_same h hn, hn, h]
  split
  · unfold updS; rw [if_pos rfl, if_pos rfl]
  · exact h
theorem ack_other (hn : nd.toNat - 1 = n) (own q : Nat) {i : Nat} (hi : i ≠ n) : ack own S nd q i = S i := by
  unfold ack
  split
  · unfold updS; rw [if_neg (by omega)]
  · rfl
theorem qS_same (h : S n = T n) (hn : nd.toNat - 1 = n) (own : Nat) : qS own S nd = qS own T nd := by unfold qS; rw [has_same h hn, hn, h]
end
theorem Agree.step {S : Nat → Nat → LS} (h : Agree S) {n : Nat} (hn : n < 3) {a b : Nat → LS} (hab : a n = b n) (ha : ∀ i, i ≠ n → a i = S 0 i) : Agree (updM (updM S 0 a) (n + 1) b) := by
  refine ⟨fun m hm => ?_, fun i hi => ?_⟩
  · unfold updM
    rw [if_neg (by omega), if_pos rfl]
    by_cases e : m = n
    · subst e; rw [if_pos rfl]; exact hab
    · rw [if_neg (by omega), if_neg (by omega), ha m e]
      exact h.same m hm
  · unfold updM
    rw [if_neg (by omega), if_pos rfl, ha i (by omega)]
    exact h.none i hi
/-- How many texts wait for a node. -/
def qlen (own : Nat) (S : Nat → LS) (n : Nat) : Nat := (qS own S ((n : Nat) : Int)).ts.length
theorem pktsTo_len (own : Nat) (S : Nat → LS) (n : Nat) : (pktsTo own S n).length = qlen own S n := by unfold pktsTo qlen; simp
theorem qlen_none {own : Nat} {S : Nat → LS} {n : Nat} (h : hasB own S ((n : Nat) : Int) = false) : qlen own S n = 0 := by unfold qlen qS; rw [h]; rfl
theorem sum_filter (p : Nat → Bool) (f : Nat → List Pk.Pt) (g : Nat → Nat) (hf : ∀ n, (f n).length = g n) (h0 : ∀ n, p n = false → g n = 0) : ∀ L : List Nat, ((L.filter p).flatMap f).length = (L.map g).sum
  | [] => rfl
  | n :: L => by
    have ih := sum_filter p f g hf h0 L
    cases hp : p n with
    | true => rw [List.filter_cons_of_pos hp, List.flatMap_cons, List.length_append, ih, List.map_cons, List.sum_cons, hf]
    | false => rw [List.filter_cons_of_neg (by rw [hp]; decide), ih, List.map_cons, List.sum_cons, h0 n hp]; omega
theorem qlen_far {S : Nat → LS} {n : Nat} (h : S (n - 1) = ⟨0, 0, []⟩) : qlen 12 S n = 0 := by
  unfold qlen qS
  split
  · rw [show ((n : Nat) : Int).toNat - 1 = n - 1 by omega, h]; rfl
  · rfl
theorem pkts_len {S : Nat → LS} (h : ∀ i, 3 ≤ i → S i = ⟨0, 0, []⟩) : (pkts 12 S).length = qlen 12 S 1 + qlen 12 S 2 + qlen 12 S 3 := by
  unfold pkts peersL Nd.thoseL Nd.thoseN
  rw [sum_filter (fun m => hasB 12 S ((m : Nat) : Int)) (pktsTo 12 S) (qlen 12 S) (pktsTo_len 12 S) (fun n hn => qlen_none hn)]
  have hz : ∀ n, 4 ≤ n → qlen 12 S n = 0 := fun n hn => qlen_far (h _ (by omega))
  show qlen 12 S 1 + (qlen 12 S 2 + (qlen 12 S 3 + (qlen 12 S 4 + (qlen 12 S 5 + (qlen 12 S 6 + (qlen 12 S 7 + (qlen 12 S 8 + (qlen 12 S 9 + (qlen 12 S 10 + (qlen 12 S 11 + (qlen 12 S 12 + 0))))))))))) = _
  rw [hz 4 (by omega), hz 5 (by omega), hz 6 (by omega), hz 7 (by omega), hz 8 (by omega), hz 9 (by omega), hz 10 (by omega), hz 11 (by omega), hz 12 (by omega)]
  omega
/-- How many texts wait for the first j. -/
def qsum (S : Nat → LS) : Nat → Nat
  | 0 => 0
  | j + 1 => qsum S j + qlen 12 S (j + 1)
theorem qsum_3 {S : Nat → LS} (h : ∀ i, 3 ≤ i → S i = ⟨0, 0, []⟩) : qsum S 3 = (pkts 12 S).length := by
  rw [pkts_len h]
  show 0 + qlen 12 S 1 + qlen 12 S 2 + qlen 12 S 3 = _
  omega
end Ls
end Go.Proofs.Ytifoheodcbjapaa
