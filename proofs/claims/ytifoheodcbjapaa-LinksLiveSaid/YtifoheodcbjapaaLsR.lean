/-
links: the document's links: what they are; May, Send, Acked.
links: the document's May, Send, Acked.
links: the document's Acked, Ack.
links: the document's Peers, Queue.
-/
import Derived.Test.YtifoheodcbjapaaLk21
namespace Go.Proofs.Ytifoheodcbjapaa
open Go.RowKit
set_option linter.unusedSimpArgs false
set_option linter.unusedVariables false
namespace Ls
open Lk
def rce (x : RS) (v : Value) : List Value := [v, .int .i64 (x.a : Nat), .int .i64 (x.t : Nat)]
theorem rce_len (x : RS) (v : Value) : (rce x v).length = 3 := rfl
def rlL (X : Nat → RS) (V : Nat → Value) (n : Nat) : List Value := (List.range n).flatMap fun i => rce (X i) (V i)
theorem rlL_succ (X : Nat → RS) (V : Nat → Value) (n : Nat) : rlL X V (n + 1) = rlL X V n ++ rce (X n) (V n) := by
  unfold rlL; rw [List.range_succ, List.flatMap_append]; simp
theorem rlL_len (X : Nat → RS) (V : Nat → Value) : ∀ n, (rlL X V n).length = n * 3
  | 0 => rfl
  | n + 1 => by rw [rlL_succ, List.length_append, rlL_len X V n, rce_len]; omega
theorem rlL_get (X : Nat → RS) (V : Nat → Value) : ∀ (n i j : Nat), i < n → j < 3 → (rlL X V n)[i * 3 + j]? = (rce (X i) (V i))[j]?
  | 0, i, j, h, _ => by omega
  | n + 1, i, j, h, hj => by
    rw [rlL_succ]
    by_cases hi : i < n
    · rw [List.getElem?_append_left (by rw [rlL_len]; omega)]
      exact rlL_get X V n i j hi hj
    · have e : i = n := by omega
      subst e
      rw [List.getElem?_append_right (by rw [rlL_len]; omega), rlL_len, Nat.add_sub_cancel_left]
def thL (th : Nat → Bool) : List Value := (List.range 13).map fun i => .bool (th i)
theorem thL_len (th : Nat → Bool) : (thL th).length = 13 := by unfold thL; simp
def rxc (own : Nat) (th : Nat → Bool) (X : Nat → RS) (V : Nat → Value) : List Value := .int .i64 (own : Nat) :: (thL th ++ rlL X V 13)
section
variable (own : Nat) (th : Nat → Bool) (X : Nat → RS) (V : Nat → Value)
theorem rx_len : (rxc own th X V).length = 53 := by unfold rxc; rw [List.length_cons, List.length_append, thL_len, rlL_len]
theorem rx_0 : (rxc own th X V)[0]? = some (.int .i64 (own : Nat)) := rfl
theorem rx_th {i : Nat} (hi : i < 13) : (rxc own th X V)[1 + i]? = some (.bool (th i)) := by
  unfold rxc
  rw [show 1 + i = i + 1 by omega, List.getElem?_cons_succ, List.getElem?_append_left (by rw [thL_len]; exact hi)]
  unfold thL
  rw [List.getElem?_map, List.getElem?_range hi]; rfl
theorem rx_l {i j : Nat} (hi : i < 13) (hj : j < 3) : (rxc own th X V)[14 + i * 3 + j]? = (rce (X i) (V i))[j]? := by
  unfold rxc
  rw [show 14 + i * 3 + j = 13 + (i * 3 + j) + 1 by omega, List.getElem?_cons_succ, List.getElem?_append_right (by rw [thL_len]; omega), thL_len, Nat.add_sub_cancel_left]
  exact rlL_get X V 13 i j hi hj
theorem rx_at {n : Nat} (h0 : 14 ≤ n) (hn : n < 53) : (rxc own th X V)[n]? = (rce (X ((n - 14) / 3)) (V ((n - 14) / 3)))[(n - 14) % 3]? := by
  rw [← rx_l own th X V (i := (n - 14) / 3) (j := (n - 14) % 3) (by omega) (by omega)]
  congr 1
  omega
end
def upb (th : Nat → Bool) (i : Nat) : Nat → Bool := fun j => if j = i then true else th j
def upx (X : Nat → RS) (i : Nat) (x : RS) : Nat → RS := fun j => if j = i then x else X j
def upv (V : Nat → Value) (i : Nat) (v : Value) : Nat → Value := fun j => if j = i then v else V j
theorem rx_upb (own : Nat) (th : Nat → Bool) (X : Nat → RS) (V : Nat → Value) {i : Nat} (hi : i < 13) : (rxc own th X V).toArray.setIfInBounds (1 + i) (.bool true) = (rxc own (upb th i) X V).toArray := by
  apply Array.ext_getElem?
  intro n
  rw [Array.getElem?_setIfInBounds, List.size_toArray, rx_len, List.getElem?_toArray, List.getElem?_toArray]
  by_cases hn : n < 53
  · by_cases h0 : n = 0
    · subst h0; rw [if_neg (by omega)]; rfl
    · by_cases h14 : n < 14
      · obtain ⟨k, rfl⟩ : ∃ k, n = 1 + k := ⟨n - 1, by omega⟩
        rw [rx_th _ _ _ _ (by omega), rx_th _ _ _ _ (by omega)]
        unfold upb
        by_cases e : k = i
        · subst e; rw [if_pos rfl, if_pos hn, if_pos rfl]
        · rw [if_neg (by omega), if_neg e]
      · rw [if_neg (by omega), rx_at _ _ _ _ (by omega) hn, rx_at _ _ _ _ (by omega) hn]
  · rw [if_neg (by omega), List.getElem?_eq_none (by rw [rx_len]; omega), List.getElem?_eq_none (by rw [rx_len]; omega)]
theorem rx_upl (own : Nat) (th : Nat → Bool) (X : Nat → RS) (V : Nat → Value) {i : Nat} (hi : i < 13) {cs : Array Value} {x : RS} {v : Value} (ha : Ag (14 + i * 3) (rxc own th X V).toArray cs) (h0 : cs[14 + i * 3]? = some v) (h1 : cs[14 + i * 3 + 1]? = some (.int .i64 (x.a : Nat))) (h2 : cs[14 + i * 3 + 2]? = some (.int .i64 (x.t : Nat))) : cs = (rxc own th (upx X i x) (upv V i v)).toArray := by
  apply Array.ext_getElem?
  intro n
  by_cases hn : n < 53
  · by_cases hin : n < 14 + i * 3 ∨ 14 + i * 3 + 3 ≤ n
    · rw [ha.2 n hin, List.getElem?_toArray, List.getElem?_toArray]
      by_cases hl : 14 ≤ n
      · rw [rx_at _ _ _ _ hl hn, rx_at _ _ _ _ hl hn]
        unfold upx upv
        rw [if_neg (by omega), if_neg (by omega)]
      · by_cases hz : n = 0
        · subst hz; rfl
        · obtain ⟨k, rfl⟩ : ∃ k, n = 1 + k := ⟨n - 1, by omega⟩
          rw [rx_th _ _ _ _ (by omega), rx_th _ _ _ _ (by omega)]
    · obtain ⟨j, hj, rfl⟩ : ∃ j, j < 3 ∧ n = 14 + i * 3 + j := ⟨n - (14 + i * 3), by omega, by omega⟩
      rw [show (rxc own th (upx X i x) (upv V i v)).toArray[14 + i * 3 + j]? = (rce (upx X i x i) (upv V i v i))[j]? from (List.getElem?_toArray).trans (rx_l own th _ _ hi hj)]
      unfold upx upv
      rw [if_pos rfl, if_pos rfl]
      match j, hj with
      | 0, _ => rw [Nat.add_zero, h0]; rfl
      | 1, _ => rw [h1]; rfl
      | 2, _ => rw [h2]; rfl
  · rw [Array.getElem?_eq_none (by rw [ha.1, List.size_toArray, rx_len]; omega), Array.getElem?_eq_none (by rw [List.size_toArray, rx_len]; omega)]
attribute [irreducible] rxc
def RS.z : RS := ⟨[], 0, 0⟩
/-- The document's links of the node own. -/
structure RX (w : World) (B r : Nat) (F : Nat → Prop) (own : Nat) (th : Nat → Bool) (X : Nat → RS) (V : Nat → Value) (m : Nat) : Prop where
  fr : F r
  fv : ∀ i k, (V i).ownBlock = some k → F k
  low : ∀ k, F k → B ≤ k ∧ k < w.heap.size
  blk : Blk w r 35 (rxc own th X V).toArray
  o1 : 1 ≤ own
  o2 : own ≤ 12
  row : ∀ i, w.ownsRow B 9 1 (V i) (X i).all.length (strs (X i).all)
  al : ∀ i, (X i).a ≤ (X i).all.length
  ok : ∀ i, ∀ b ∈ (X i).all, (∀ y ∈ b, y < 256) ∧ 1 ≤ b.length ∧ b.length ≤ 1800
  le : ∀ i, (X i).all.length ≤ m ∧ (X i).t ≤ m
  ap : ∀ i j, i ≠ j → ∀ k, (V i).ownBlock = some k → (V j).ownBlock ≠ some k
/-- It has what our links have. -/
structure Cor (own : Nat) (S : Nat → LS) (th : Nat → Bool) (X : Nat → RS) : Prop where
  yes : ∀ n, th n = true → 1 ≤ n ∧ n ≤ 12 ∧ n ≠ own ∧ S (n - 1) = (X n).ls
  no : ∀ n, th n = false → X n = RS.z ∧ (1 ≤ n → S (n - 1) = ⟨0, 0, []⟩)
theorem Cor.has {own : Nat} {S : Nat → LS} {th : Nat → Bool} {X : Nat → RS} (h : Cor own S th X) (n : Nat) : hasB own S ((n : Nat) : Int) = th n := by
  have e : ((n : Nat) : Int).toNat - 1 = n - 1 := by omega
  cases ht : th n with
  | true =>
    obtain ⟨h1, h2, h3, h4⟩ := h.yes n ht
    unfold hasB isO
    rw [e, h4, show isN ((n : Nat) : Int) = true from decide_eq_true ⟨by omega, by omega⟩, decide_eq_true (show ((n : Nat) : Int) ≠ (own : Int) by omega), decide_eq_true (show (X n).ls.nx ≠ 0 by unfold RS.ls; simp)]
    rfl
  | false =>
    unfold hasB isO
    by_cases hn : 1 ≤ n
    · rw [e, (h.no n ht).2 hn]; simp
    · rw [show isN ((n : Nat) : Int) = false from decide_eq_false (by omega)]; rfl
theorem Cor.at_ {own : Nat} {S : Nat → LS} {th : Nat → Bool} {X : Nat → RS} (h : Cor own S th X) {n : Nat} (hn : 1 ≤ n) : atS S (n - 1) = (X n).ls := by
  cases ht : th n with
  | true =>
    obtain ⟨h1, h2, h3, h4⟩ := h.yes n ht
    unfold atS
    rw [h4, if_neg (by unfold RS.ls; simp)]
  | false =>
    have h1 := h.no n ht
    unfold atS
    rw [h1.2 hn, if_pos rfl, h1.1]
    rfl
/-- Of one node all is put anew. -/
theorem Cor.put {own : Nat} {S : Nat → LS} {th : Nat → Bool} {X : Nat → RS} (h : Cor own S th X) {n : Nat} (h1 : 1 ≤ n) (h2 : n ≤ 12) (h3 : n ≠ own) {x : RS} {s : LS} (hx : x.ls = s) : Cor own (updS S (n - 1) s) (upb th n) (upx X n x) := by
  refine ⟨fun k hk => ?_, fun k hk => ?_⟩
  · unfold upb at hk
    unfold updS upx
    by_cases e : k = n
    · subst e
      rw [if_pos rfl, if_pos rfl]
      exact ⟨h1, h2, h3, hx.symm⟩
    · rw [if_neg e] at hk
      obtain ⟨a, b, c, d⟩ := h.yes k hk
      rw [if_neg e, if_neg (by omega)]
      exact ⟨a, b, c, d⟩
  · unfold upb at hk
    unfold updS upx
    by_cases e : k = n
    · rw [if_pos e] at hk; cases hk
    · rw [if_neg e] at hk
      obtain ⟨a, b⟩ := h.no k hk
      rw [if_neg e]
      exact ⟨a, fun hk1 => by rw [if_neg (by omega)]; exact b hk1⟩
/-- Of one node's link all that our own tells is the same. -/
theorem Cor.same {own : Nat} {S : Nat → LS} {th : Nat → Bool} {X : Nat → RS} (h : Cor own S th X) {n : Nat} {x : RS} (hx : x.ls = (X n).ls) (ha : x.a ≤ x.all.length) : Cor own S th (upx X n x) := by
  refine ⟨fun k hk => ?_, fun k hk => ?_⟩
  · obtain ⟨a, b, c, d⟩ := h.yes k hk
    unfold upx
    by_cases e : k = n
    · subst e; rw [if_pos rfl]; exact ⟨a, b, c, d.trans hx.symm⟩
    · rw [if_neg e]; exact ⟨a, b, c, d⟩
  · obtain ⟨a, b⟩ := h.no k hk
    unfold upx
    by_cases e : k = n
    · subst e
      rw [if_pos rfl]
      refine ⟨?_, b⟩
      rw [a] at hx
      obtain ⟨xa, xb, xc⟩ := x
      unfold RS.ls RS.z at hx
      simp only [LS.mk.injEq, List.length_nil] at hx
      obtain ⟨h1, h2, h3⟩ := hx
      have h4 : xa = [] := List.length_eq_zero_iff.1 (by omega)
      subst h4
      have h5 : xb = 0 := by simpa using ha
      have h6 : xc = 0 := by omega
      rw [h5, h6]; rfl
    · rw [if_neg e]; exact ⟨a, b⟩
theorem upb_same {th : Nat → Bool} {n : Nat} (h : th n = true) : upb th n = th := by
  funext k; unfold upb; split
  · rename_i e; rw [e, h]
  · rfl
/-- The document's links, as our own S says. -/
def RO (w : World) (B r : Nat) (F : Nat → Prop) (own : Nat) (S : Nat → LS) (m : Nat) : Prop := ∃ th X V, RX w B r F own th X V m ∧ Cor own S th X
section
variable {w w' : World} {B r own m : Nat} {F G : Nat → Prop} {th : Nat → Bool} {X : Nat → RS} {V : Nat → Value} {S : Nat → LS}
theorem RX.keep (D : RX w B r F own th X V m) (hk : ∀ k, F k → w'.heap[k]? = w.heap[k]?) (hs : w.heap.size ≤ w'.heap.size) : RX w' B r F own th X V m :=
  ⟨D.fr, D.fv, fun k hF => ⟨(D.low k hF).1, Nat.lt_of_lt_of_le (D.low k hF).2 hs⟩, (hk r D.fr).trans D.blk, D.o1, D.o2, fun i => ownG_keep (D.row i) (fun k h => hk k (D.fv i k h)), D.al, D.ok, D.le, D.ap⟩
theorem RX.next (D : RX w B r F own th X V m) (hb : Below w.heap.size w w') : RX w' B r F own th X V m := D.keep (fun k hF => hb.block k (D.low k hF).2) hb.size
theorem RX.wider (D : RX w B r F own th X V m) (h : ∀ k, F k → G k) (hl : ∀ k, G k → B ≤ k ∧ k < w.heap.size) : RX w B r G own th X V m :=
  ⟨h r D.fr, fun i k hk => h k (D.fv i k hk), hl, D.blk, D.o1, D.o2, D.row, D.al, D.ok, D.le, D.ap⟩
theorem RX.more (D : RX w B r F own th X V m) {m' : Nat} (h : m ≤ m') : RX w B r F own th X V m' := { D with le := fun i => ⟨Nat.le_trans (D.le i).1 h, Nat.le_trans (D.le i).2 h⟩ }
theorem RX.grow (D : RX w B r F own th X V m) (hb : Below w.heap.size w w') : RX w' B r (Grow F w w') own th X V m :=
  (D.next hb).wider (fun k h => Or.inl h) (by
    have hd := D.low r D.fr
    rintro k (hk | ⟨h1, h2⟩)
    · exact ⟨(D.low k hk).1, Nat.lt_of_lt_of_le (D.low k hk).2 hb.size⟩
    · exact ⟨by omega, h2⟩)
theorem RX.turn (D : RX w B r F own th X V m) (hb : Below w.heap.size w w') : Turn B F w w' := ⟨hb.mono (by have := D.low r D.fr; omega), fun k hk _ => hb.block k hk⟩
theorem RX.c0 (D : RX w B r F own th X V m) : w.cell? ⟨r, 0, none⟩ = some (.int .i64 (own : Nat)) := (D.blk.cell 0).trans (by rw [List.getElem?_toArray, rx_0])
theorem RX.ct (D : RX w B r F own th X V m) {i : Nat} (hi : i < 13) : w.cell? ⟨r, 1 + i, none⟩ = some (.bool (th i)) := (D.blk.cell _).trans (by rw [List.getElem?_toArray, rx_th _ _ _ _ hi])
theorem RX.rf (D : RX w B r F own th X V m) (hm : m ≤ 300) {i : Nat} (hi : i < 13) : Rf w B r (14 + i * 3) 35 (rxc own th X V).toArray (X i) (V i) :=
  ⟨by decide, D.low r D.fr, D.blk, by rw [List.getElem?_toArray, ← Nat.add_zero (14 + i * 3), rx_l _ _ _ _ hi (by omega)]; rfl, by rw [List.getElem?_toArray, rx_l _ _ _ _ hi (by omega)]; rfl, by rw [List.getElem?_toArray, rx_l _ _ _ _ hi (by omega)]; rfl, D.row i, D.al i, D.ok i, ⟨Nat.le_trans (D.le i).1 hm, Nat.le_trans (D.le i).2 hm⟩⟩
/-- One of the links was changed. -/
theorem RX.put (D : RX w B r F own th X V m) {i : Nat} (hi : i < 13) {cs : Array Value} {x : RS} {v : Value} (h : Rf w' B r (14 + i * 3) 35 cs x v) (ha : Ag (14 + i * 3) (rxc own th X V).toArray cs) (ht : RTurn B r (V i) v w w') (hl : x.all.length ≤ (X i).all.length + 1) (ht2 : x.t ≤ (X i).t + 1) :
    RX w' B r (Grow F w w') own th (upx X i x) (upv V i v) (m + 1) ∧ Turn B F w w' := by
  have hcs := rx_upl own th X V hi ha h.k0 h.k1 h.k2
  have hr := D.low r D.fr
  have hsz := ht.1.size
  have hV : ∀ k, v.ownBlock = some k → Grow F w w' k := fun k hk => by
    rcases ht.2.2 with e | ⟨k', e, hk'⟩
    · exact Or.inl (D.fv i k (e ▸ hk))
    · rw [e] at hk; cases hk
      exact Or.inr ⟨hk', h.vlt e⟩
  have hkeep : ∀ j, j ≠ i → ∀ k, (V j).ownBlock = some k → w'.heap[k]? = w.heap[k]? := fun j hj k hk =>
    ht.2.1 k (D.low k (D.fv j k hk)).2 (fun e => by
      have := (D.row j)
      obtain ⟨_, ⟨e1, _⟩ | ⟨g, cap, cur, e1, _, hh, _⟩⟩ := this
      · rw [e1] at hk; simp [Value.ownBlock] at hk
      · rw [e1] at hk
        simp [Value.ownBlock] at hk
        subst hk
        have hb := D.blk
        unfold Blk at hb
        rw [e] at hh
        rw [hb] at hh
        simp only [Option.some.injEq, Obj.cells.injEq] at hh
        exact absurd hh.2.1 (by decide)) (fun e => D.ap j i hj k hk e.symm)
  refine ⟨⟨Or.inl D.fr, fun j k hk => ?_, ?_, by rw [← hcs]; exact h.blk, D.o1, D.o2, fun j => ?_, fun j => ?_, fun j => ?_, fun j => ?_, fun j l hjl k hk => ?_⟩, ht.1, fun k hk hF => ht.2.1 k hk (fun e => hF (e ▸ D.fr)) (fun e => hF (D.fv i k e.symm))⟩
  · unfold upv at hk
    by_cases e : j = i
    · rw [if_pos e] at hk; exact hV k hk
    · rw [if_neg e] at hk; exact Or.inl (D.fv j k hk)
  · rintro k (hk | ⟨h1, h2⟩)
    · have := D.low k hk; exact ⟨this.1, by omega⟩
    · exact ⟨by omega, h2⟩
  · unfold upx upv
    by_cases e : j = i
    · rw [if_pos e, if_pos e]; exact h.own
    · rw [if_neg e, if_neg e]; exact ownG_keep (D.row j) (hkeep j e)
  · unfold upx
    by_cases e : j = i
    · rw [if_pos e]; exact h.al
    · rw [if_neg e]; exact D.al j
  · unfold upx
    by_cases e : j = i
    · rw [if_pos e]; exact h.ok
    · rw [if_neg e]; exact D.ok j
  · unfold upx
    by_cases e : j = i
    · rw [if_pos e]; have := D.le i; omega
    · rw [if_neg e]; have := D.le j; omega
  · unfold upv at hk ⊢
    have hfresh : ∀ l, l ≠ i → ∀ k, v.ownBlock = some k → (V l).ownBlock ≠ some k := fun l hl k hk => by
      rcases ht.2.2 with e | ⟨k', e, hk'⟩
      · exact D.ap i l (fun e => hl e.symm) k (e ▸ hk)
      · rw [e] at hk; cases hk
        intro e2
        have := (D.low _ (D.fv l _ e2)).2; omega
    by_cases e : j = i
    · rw [if_pos e] at hk
      rw [if_neg (fun e2 => hjl (e.trans e2.symm))]
      exact hfresh l (fun e2 => hjl (e.trans e2.symm)) k hk
    · rw [if_neg e] at hk
      by_cases e2 : l = i
      · rw [if_pos e2]
        exact fun e3 => hfresh j e k e3 hk
      · rw [if_neg e2]
        exact D.ap j l hjl k hk
/-- A link is there from now on. -/
theorem RX.there (D : RX w B r F own th X V m) {i : Nat} (hi : i < 13) : RX (w.setCell ⟨r, 1 + i, none⟩ (.bool true)) B r F own (upb th i) X V m ∧ Turn B F w (w.setCell ⟨r, 1 + i, none⟩ (.bool true)) := by
  have far : ∀ k, k ≠ r → (w.setCell ⟨r, 1 + i, none⟩ (.bool true)).heap[k]? = w.heap[k]? := fun k hk => Below.heap_setCell w ⟨r, 1 + i, none⟩ _ k hk
  have hz : (w.setCell ⟨r, 1 + i, none⟩ (.bool true)).heap.size = w.heap.size := by simp [World.setCell]
  have hb := D.blk.setCell (1 + i) (.bool true)
  rw [rx_upb own th X V hi] at hb
  have hr := D.low r D.fr
  refine ⟨⟨D.fr, D.fv, fun k hk => by rw [hz]; exact D.low k hk, hb, D.o1, D.o2, fun j => ownG_keep (D.row j) (fun k hk => far k ?_), D.al, D.ok, D.le, D.ap⟩, (Below.refl B w).setCell (p := ⟨r, 1 + i, none⟩) hr.1 _, fun k _ hF => far k (fun e => hF (e ▸ D.fr))⟩
  intro e
  subst e
  obtain ⟨_, ⟨e1, _⟩ | ⟨g, cap, cur, e1, _, hh, _⟩⟩ := D.row j
  · rw [e1] at hk; simp [Value.ownBlock] at hk
  · rw [e1] at hk
    simp [Value.ownBlock] at hk
    subst hk
    have hb := D.blk
    unfold Blk at hb
    rw [hb] at hh
    simp only [Option.some.injEq, Obj.cells.injEq] at hh
    exact absurd hh.2.1 (by decide)
end
end Ls
end Go.Proofs.Ytifoheodcbjapaa
namespace Go.Proofs.Ytifoheodcbjapaa
open Go.RowKit
set_option linter.unusedSimpArgs false
set_option linter.unusedVariables false
namespace Ls
open Lk
/-- What a call on the document's links leaves. -/
def ROP (B r : Nat) (F : Nat → Prop) (own : Nat) (S' : Nat → LS) (m : Nat) (w w' : World) : Prop := RO w' B r (Grow F w w') own S' m ∧ Turn B F w w'
theorem RO.grow {w w' : World} {B r own m : Nat} {F : Nat → Prop} {S : Nat → LS} (h : RO w B r F own S m) (hb : Below w.heap.size w w') : ROP B r F own S (m + 1) w w' := by
  obtain ⟨th, X, V, D, C⟩ := h
  exact ⟨⟨th, X, V, (D.grow hb).more (Nat.le_succ _), C⟩, D.turn hb⟩
theorem isO_nat {own : Nat} {n : Int} (h : isO own n = true) : ∃ i : Nat, n = (i : Nat) ∧ 1 ≤ i ∧ i ≤ 12 ∧ i ≠ own ∧ n.toNat - 1 = i - 1 := by
  obtain ⟨h1, h2⟩ := isO_of h
  have h3 := of_decide_eq_true h1
  exact ⟨n.toNat, by omega, by omega, by omega, by omega, rfl⟩
section
variable (w : World) {B r own m : Nat} {F : Nat → Prop} {th : Nat → Bool} {X : Nat → RS} {V : Nat → Value} {S : Nat → LS}
set_option maxRecDepth 20000 in
theorem rmay_any (D : RX w B r F own th X V m) (n : Int) : Calls Try.prog 34 #[.pointer (some ⟨r, 0, none⟩), .int .i64 n] w fun e w' => e = .returned (.bool (isO own n)) ∧ w = w' := by
  have c0 := D.c0
  clear D
  by_cases h1 : 0 < n
  · by_cases h2 : n < 13
    · by_cases h3 : n = (own : Int)
      · have e : isO own n = false := by unfold isO; rw [decide_eq_false (fun h => h h3)]; simp
        have e0 : (n != (own : Int)) = false := by simp [h3]
        rw [e]
        clear e h3
        go_enter Try.func34, Try.ntmps34
        go_wp2_with fail
        go_ret
        exact ⟨rfl, rfl⟩
      · have e : isO own n = true := by unfold isO; rw [decide_eq_true h3, show isN n = true from decide_eq_true (by omega)]; rfl
        have e0 : (n != (own : Int)) = true := by simp [h3]
        rw [e]
        clear e h3
        go_enter Try.func34, Try.ntmps34
        go_wp2_with fail
        go_ret
        exact ⟨rfl, rfl⟩
    · have e : isO own n = false := by unfold isO; rw [show isN n = false from decide_eq_false (by omega)]; rfl
      rw [e]
      clear e
      go_enter Try.func34, Try.ntmps34
      go_wp2_with fail
      go_ret
      exact ⟨rfl, rfl⟩
  · have e : isO own n = false := by unfold isO; rw [show isN n = false from decide_eq_false (by omega)]; rfl
    rw [e]
    clear e
    go_enter Try.func34, Try.ntmps34
    go_wp2_with fail
    go_ret
    exact ⟨rfl, rfl⟩
set_option maxRecDepth 20000 in
set_option maxHeartbeats 4000000 in
theorem rsend_any (h : RO w B r F own S m) (hm : m < 300) (n : Int) (bs : List Nat) (h256 : ∀ y ∈ bs, y < 256) : Calls Try.prog 26 #[.pointer (some ⟨r, 0, none⟩), .int .i64 n, .string (Byt.bstr bs)] w fun e w' =>
    e = .returned (.tuple #[.int .u64 (sendN own S n bs.length : Nat), .int .i64 (sendE own S n bs.length)]) ∧ ROP B r F own (send own S n bs) (m + 1) w w' := by
  have HRO := Lib.hid h
  obtain ⟨th, X, V, D, C⟩ := h
  have HM := Lib.hid (rmay_any w D n)
  have HD := Lib.hid D
  have HC := Lib.hid C
  cases hb : isO own n with
  | false =>
    rw [hb] at HM
    have HE := Lib.hid (show sendE own S n bs.length = 11 ∧ sendN own S n bs.length = 0 ∧ send own S n bs = S by unfold send sendE sendN; rw [hb]; exact ⟨rfl, rfl, rfl⟩)
    clear hb D C h256
    go_enter Try.func26, Try.ntmps26
    go_wp2_with (first | (go_at_call 34; refine HM.out.mono ?_; rintro e w1 ⟨rfl, rfl⟩))
    go_ret2
    exact ⟨by (rw [HE.out.1, HE.out.2.1]; try rfl), by rw [HE.out.2.2]; exact HRO.out.grow (Below.refl _ _)⟩
  | true =>
    rw [hb] at HM
    obtain ⟨i, rfl, hi1, hi12, hio, hti⟩ := isO_nat hb
    have hat := C.at_ hi1
    obtain ⟨z, hz⟩ : ∃ z, z = Lk.sendE (X i).ls bs.length := ⟨_, rfl⟩
    obtain ⟨sn, hsn⟩ : ∃ sn, sn = Lk.sendN (X i).ls bs.length := ⟨_, rfl⟩
    have HE := Lib.hid (show sendE own S ((i : Nat) : Int) bs.length = z ∧ sendN own S ((i : Nat) : Int) bs.length = sn by unfold sendE sendN; rw [hb, hti, hat, hz, hsn]; exact ⟨rfl, rfl⟩)
    have HSD := Lib.hid (show send own S ((i : Nat) : Int) bs = if z = 0 then updS S (i - 1) ((X i).ls.send bs) else S by unfold send; rw [HE.out.1, hti, hat])
    have HS := Lib.hid (Lk.rsend_any w (D.rf (by omega) (show i < 13 by omega)) bs h256 (by have := (D.le i).1; omega))
    rw [← hz, ← hsn] at HS
    have HI := Lib.hid (And.intro hi1 (And.intro hi12 hio))
    have HZ := Lib.hid (show z ≠ 0 → (X i).ls.send bs = (X i).ls from fun h0 => by unfold LS.send; rw [← hz, if_neg h0])
    have i1 : (i : Int) < 13 := by omega
    have i2 : ¬ (i : Int) < 0 := by omega
    clear hb D C h256 hi1 hi12 hio hti hat hz hsn
    by_cases hz0 : z = 0
    · subst hz0
      have HSD := Lib.hid (HSD.out.trans (if_pos rfl))
      go_enter Try.func26, Try.ntmps26
      go_upto_region 5 with (first | (go_at_call 34; refine HM.out.mono ?_; rintro e w1 ⟨rfl, rfl⟩) | (go_at_call 55; refine HS.out.mono ?_; rintro e w2 ⟨rfl, hP⟩))
      obtain ⟨x', v', cs', hx, hl, ht, hrf, hag, htn⟩ := hP
      obtain ⟨D2, T2⟩ := HD.out.put (show i < 13 by have := HI.out; omega) hrf hag htn hl ht
      obtain ⟨D3, T3⟩ := D2.there (i := i) (show i < 13 by have := HI.out; omega)
      have ci := D2.ct (i := i) (show i < 13 by have := HI.out; omega)
      have fi := D2.blk.frozen (1 + i)
      have HF := Lib.hid (And.intro D3 (And.intro T2 T3))
      have HXE := Lib.hid hx
      clear hx hl ht hrf hag htn D2 T2 D3 T3 HS HM
      go_wp2_with fail
      go_ret2
      refine ⟨by (rw [HE.out.1, HE.out.2]; try rfl), ⟨_, _, _, HF.out.1.wider (fun k hk => ?_) (fun k hk => ?_), ?_⟩, HF.out.2.1.1.trans HF.out.2.2.1, fun k hk hF => ?_⟩
      · rcases hk with hk | ⟨h1, h2⟩
        · exact Or.inl hk
        · exact Or.inr ⟨h1, Nat.lt_of_lt_of_le h2 HF.out.2.2.1.size⟩
      · have hlow := HD.out.low
        rcases hk with hk | ⟨h1, h2⟩
        · have a1 := hlow k hk; have a2 := HF.out.2.1.1.size; have a3 := HF.out.2.2.1.size; omega
        · have a1 := hlow r HD.out.fr; omega
      · rw [HSD.out, if_pos trivial]
        have := HC.out.put HI.out.1 HI.out.2.1 HI.out.2.2 HXE.out
        exact this
      · refine (HF.out.2.2.2 k (Nat.lt_of_lt_of_le hk HF.out.2.1.1.size) ?_).trans (HF.out.2.1.2 k hk hF)
        rintro (h | ⟨h1, h2⟩)
        · exact hF h
        · omega
    · have e0 : (z == 0) = false := by simp [hz0]
      have HSD := Lib.hid (HSD.out.trans (if_neg hz0))
      have HZ2 := Lib.hid (HZ.out hz0)
      clear hz0 HZ
      go_enter Try.func26, Try.ntmps26
      go_wp2_with (first | (go_at_call 34; refine HM.out.mono ?_; rintro e w1 ⟨rfl, rfl⟩) | (go_at_call 55; refine HS.out.mono ?_; rintro e w2 ⟨rfl, hP⟩; have HP := Lib.hid hP; clear hP))
      go_ret2
      obtain ⟨x', v', cs', hx, hl, ht, hrf, hag, htn⟩ := HP.out
      obtain ⟨D2, T2⟩ := HD.out.put (show i < 13 by have := HI.out; omega) hrf hag htn hl ht
      refine ⟨by (rw [HE.out.1, HE.out.2]; try rfl), ⟨_, _, _, D2, ?_⟩, T2⟩
      rw [HSD.out]
      exact HC.out.same (hx.trans HZ2.out) hrf.al
end
end Ls
end Go.Proofs.Ytifoheodcbjapaa
namespace Go.Proofs.Ytifoheodcbjapaa
open Go.RowKit
set_option linter.unusedSimpArgs false
set_option linter.unusedVariables false
namespace Ls
open Lk
theorem Cor.ackd {own : Nat} {S : Nat → LS} {th : Nat → Bool} {X : Nat → RS} (h : Cor own S th X) {i q : Nat} (ht : th i = true) {x : RS} (hx : x.ls = (X i).ls.ack q) : Cor own (updS S (i - 1) ((S (i - 1)).ack q)) th (upx X i x) := by
  obtain ⟨h1, h2, h3, h4⟩ := h.yes i ht
  have := h.put h1 h2 h3 (x := x) (s := (S (i - 1)).ack q) (by rw [hx, h4])
  rwa [upb_same ht] at this
section
variable (w : World) {B r own m : Nat} {F : Nat → Prop} {th : Nat → Bool} {X : Nat → RS} {V : Nat → Value} {S : Nat → LS}
set_option maxRecDepth 20000 in
set_option maxHeartbeats 4000000 in
theorem racked_any (h : RO w B r F own S m) (hm : m < 300) (n : Int) (q : Nat) : Calls Try.prog 27 #[.pointer (some ⟨r, 0, none⟩), .int .i64 n, .int .u64 (q : Nat)] w fun e w' =>
    e = .returned (.tuple #[.int .i64 ((ackR own S n q : Nat) : Int), .int .i64 (ackE own S n q)]) ∧ ROP B r F own (ack own S n q) (m + 1) w w' := by
  have HRO := Lib.hid h
  obtain ⟨th, X, V, D, C⟩ := h
  have HM := Lib.hid (rmay_any w D n)
  have HD := Lib.hid D
  have HC := Lib.hid C
  cases hb : isO own n with
  | false =>
    rw [hb] at HM
    have HE := Lib.hid (show ackE own S n q = 4 ∧ ackR own S n q = 0 ∧ ack own S n q = S by
      have : hasB own S n = false := by unfold hasB; rw [hb]; rfl
      unfold ackE ackR ack; rw [this]; exact ⟨rfl, rfl, rfl⟩)
    clear hb D C
    go_enter Try.func27, Try.ntmps27
    go_wp2_with (first | (go_at_call 34; refine HM.out.mono ?_; rintro e w1 ⟨rfl, rfl⟩))
    go_ret2
    exact ⟨by (rw [HE.out.1, HE.out.2.1]; try rfl), by rw [HE.out.2.2]; exact HRO.out.grow (Below.refl _ _)⟩
  | true =>
    rw [hb] at HM
    obtain ⟨i, rfl, hi1, hi12, hio, hti⟩ := isO_nat hb
    have hhas := C.has i
    have ct := D.ct (i := i) (show i < 13 by omega)
    have i1 : (i : Int) < 13 := by omega
    have i2 : ¬ (i : Int) < 0 := by omega
    cases ht : th i with
    | false =>
      rw [ht] at ct hhas
      have HE := Lib.hid (show ackE own S ((i : Nat) : Int) q = 4 ∧ ackR own S ((i : Nat) : Int) q = 0 ∧ ack own S ((i : Nat) : Int) q = S by
        unfold ackE ackR ack; rw [hhas]; exact ⟨rfl, rfl, rfl⟩)
      clear hb D C ht hhas hi1 hi12 hio hti
      go_enter Try.func27, Try.ntmps27
      go_wp2_with (first | (go_at_call 34; refine HM.out.mono ?_; rintro e w1 ⟨rfl, rfl⟩))
      go_ret2
      exact ⟨by (rw [HE.out.1, HE.out.2.1]; try rfl), by rw [HE.out.2.2]; exact HRO.out.grow (Below.refl _ _)⟩
    | true =>
      rw [ht] at ct hhas
      have hS := (C.yes i ht).2.2.2
      have HE := Lib.hid (show ackE own S ((i : Nat) : Int) q = Lk.ackE (X i).ls q ∧ ackR own S ((i : Nat) : Int) q = Lk.ackR (X i).ls q ∧ ack own S ((i : Nat) : Int) q = updS S (i - 1) ((S (i - 1)).ack q) by
        unfold ackE ackR ack; rw [hhas, hti, hS]; exact ⟨rfl, rfl, rfl⟩)
      have HA := Lib.hid (Lk.rack_any w (D.rf (by omega) (show i < 13 by omega)) q)
      have HI := Lib.hid (And.intro hi12 ht)
      clear hb D C ht hhas hi1 hi12 hio hti hS
      go_enter Try.func27, Try.ntmps27
      go_wp2_with (first | (go_at_call 34; refine HM.out.mono ?_; rintro e w1 ⟨rfl, rfl⟩) | (go_at_call 56; refine HA.out.mono ?_; rintro e w2 ⟨rfl, hP⟩; have HP := Lib.hid hP; clear hP))
      go_ret2
      obtain ⟨x', cs', hx, hl, ht, hrf, hag, htn⟩ := HP.out
      obtain ⟨D2, T2⟩ := HD.out.put (show i < 13 by have := HI.out.1; omega) hrf hag htn hl ht
      refine ⟨by (rw [HE.out.1, HE.out.2.1]; try rfl), ⟨_, _, _, D2, ?_⟩, T2⟩
      rw [HE.out.2.2]
      exact HC.out.ackd HI.out.2 hx
end
end Ls
end Go.Proofs.Ytifoheodcbjapaa
namespace Go.Proofs.Ytifoheodcbjapaa
open Go.RowKit
set_option linter.unusedSimpArgs false
set_option linter.unusedVariables false
namespace Ls
open Lk
/-- A row of texts that is read; it lies in one of F. -/
def StQ (w : World) (F : Nat → Prop) (A : Option Addr) (q : List (List Nat)) : Prop := ∀ j b, q[j]? = some b → ∃ g o, A = some ⟨g, o, none⟩ ∧ F g ∧ w.cell? ⟨g, o + j, none⟩ = some (.string (Byt.bstr b))
theorem StQ.nil (w : World) (F : Nat → Prop) (A : Option Addr) : StQ w F A [] := fun j b h => by simp at h
theorem StQ.keep {w w' : World} {F : Nat → Prop} {A : Option Addr} {q : List (List Nat)} (h : StQ w F A q) (hk : ∀ k, F k → w'.heap[k]? = w.heap[k]?) : StQ w' F A q := fun j b hj => by
  obtain ⟨g, o, e, hg, hc⟩ := h j b hj
  exact ⟨g, o, e, hg, (World.cell?_of_block (a := ⟨g, o + j, none⟩) (hk g hg)).trans hc⟩
theorem rf_stq {w : World} {B r o n c : Nat} {F : Nat → Prop} {ty : TypeId} {cs : Array Value} {A : Option Addr} {s : RS} (h : Rf w B r o ty cs s (.slice A n c)) (hc : s.all.length ≤ c) (hF : ∀ k, (Value.slice A n c).ownBlock = some k → F k) : StQ w F (if c = s.a then A else A.map fun x => x.add s.a) (s.all.drop s.a) := by
  intro j b hj
  rw [List.getElem?_drop] at hj
  obtain ⟨g, hA, hcl⟩ := h.at_ hj
  have hl := (List.getElem?_eq_some_iff.1 hj).1
  rw [if_neg (by omega), hA]
  exact ⟨g, s.a, by rw [Option.map_some, add_plain]; simp, hF g (by rw [hA]; rfl), hcl⟩
theorem rf_cap {w : World} {B r o : Nat} {ty : TypeId} {cs : Array Value} {s : RS} {v : Value} (h : Rf w B r o ty cs s v) : ∃ A c, v = .slice A s.all.length c ∧ s.all.length ≤ c := by
  obtain ⟨_, ⟨e, hz⟩ | ⟨g, cap, cur, e, _, _, hnc, _⟩⟩ := h.own
  · exact ⟨none, 0, by rw [e]; simp_all, by simp_all⟩
  · exact ⟨_, _, e, by omega⟩
section
variable (w : World) {B r own m : Nat} {F : Nat → Prop} {th : Nat → Bool} {X : Nat → RS} {V : Nat → Value} {S : Nat → LS}
set_option maxRecDepth 20000 in
set_option maxHeartbeats 4000000 in
theorem rpeers_any (D : RX w B r F own th X V m) : Calls Try.prog 31 #[.pointer (some ⟨r, 0, none⟩)] w fun e w' => ∃ v', e = .returned v' ∧ Nd.Nds w' w.heap.size v' (Nd.thoseL th) ∧ Below w.heap.size w w' := by
  have HD := Lib.hid D
  clear D
  go_enter Try.func31, Try.ntmps31
  go_upto_region 3 with fail
  go_loopw [3, 4] (fun v i wr => ∃ j : Nat, j ≤ 12 ∧ i = .int .i64 ((j + 1 : Nat) : Int) ∧ Nd.Nds wr w.heap.size v (Nd.thoseN th j) ∧ Below w.heap.size w wr) (fun _ i _ => 13 - (intOf i).toNat)
  case atStart => exact ⟨0, Nat.zero_le _, rfl, Nd.Nds.nil _ _, Below.refl _ _⟩
  case round =>
    obtain ⟨j, hj, rfl, hN, hb⟩ := hrel
    have HN := Lib.hid hN
    have HB := Lib.hid hb
    obtain ⟨jj, hjj⟩ : ∃ jj, jj = j + 1 := ⟨_, rfl⟩
    rw [← hjj]
    by_cases hlt : j < 12
    · have i1 : (jj : Int) < 13 := by omega
      have i2 : ¬ (jj : Int) < 0 := by omega
      have HJ := Lib.hid (And.intro hjj hlt)
      have HS := Lib.hid (Nd.those_succ th j)
      rw [← hjj] at HS
      have HW := Lib.hid (Nd.wrap_n jj (jj + 1) rfl (by omega))
      have hc := (HD.out.next hb).ct (i := jj) (by omega)
      obtain ⟨s, hs⟩ : ∃ s, s = th jj := ⟨_, rfl⟩
      rw [← hs] at hc HS
      clear hN hb hj hlt hjj hs
      cases s with
      | false =>
        go_wp2_with fail
        (try rw [HW.out])
        go_roundw
        case rel => exact ⟨jj, by have := HJ.out; omega, rfl, by rw [HS.out, if_neg (by decide)]; exact HN.out, HB.out⟩
        case measure => have := HJ.out; simp [intOf]; omega
      | true =>
        obtain ⟨A, c, hv⟩ := HN.out.shape
        subst hv
        go_upto_region 6 with fail
        go_upto_region 4 with (refine wpList_plain rfl fun K hK => ?_; refine Nd.wp_app_int _ _ _ rfl w.heap.size _ (Nd.thoseN th j) rfl (HN.out.next ((Below.refl _ _).alloc (Nat.le_refl _) _)) wr.heap.size 1 jj rfl ?_ (by have := Nd.those_le th j; have := HJ.out; omega) (by have := HB.out.size; simp; omega) ?_; (focus (exact (Blk.new wr 3 #[.int .i64 (jj : Nat)]).cell 0)); intro v' w' hN' hg' _; refine hK _ _ ?_; clear hK K; have HN3 := Lib.hid hN'; have HG := Lib.hid hg'; clear hN' hg'; (try simp only [Act.put, List.setIfInBounds_toArray, List.set_cons_zero, List.set_cons_succ]))
        go_wp2_with fail
        (try rw [HW.out])
        go_roundw
        case rel => exact ⟨jj, by have := HJ.out; omega, rfl, by rw [HS.out, if_pos rfl]; exact HN3.out, Nd.below_grown (HB.out.alloc HB.out.size _) HG.out (fun k hk => (HN.out.lt k hk).1)⟩
        case measure => have := HJ.out; simp [intOf]; omega
    · have i1 : ¬ (jj : Int) < 13 := by omega
      have hj12 : j = 12 := by omega
      subst hj12
      clear hN hb hj hlt hjj
      go_wp2_with fail
      go_ret
      exact ⟨_, rfl, HN.out, HB.out⟩
set_option maxRecDepth 20000 in
set_option maxHeartbeats 4000000 in
theorem rqueue_any (D : RX w B r F own th X V m) (C : Cor own S th X) (hm : m ≤ 300) (n : Int) : Calls Try.prog 32 #[.pointer (some ⟨r, 0, none⟩), .int .i64 n] w fun e w' => ∃ A c, e = .returned (.slice A (qS own S n).ts.length c) ∧ StQ w' F A (qS own S n).ts ∧ Below w.heap.size w w' := by
  have HM := Lib.hid (rmay_any w D n)
  cases hb : isO own n with
  | false =>
    rw [hb] at HM
    have HE := Lib.hid (show (qS own S n).ts = [] by
      have : hasB own S n = false := by unfold hasB; rw [hb]; rfl
      unfold qS; rw [this]; rfl)
    clear hb D C
    go_enter Try.func32, Try.ntmps32
    go_wp2_with (first | (go_at_call 34; refine HM.out.mono ?_; rintro e w1 ⟨rfl, rfl⟩))
    go_ret
    exact ⟨none, 0, by rw [HE.out]; rfl, by rw [HE.out]; exact StQ.nil _ _ _, Below.refl _ _⟩
  | true =>
    rw [hb] at HM
    obtain ⟨i, rfl, hi1, hi12, hio, hti⟩ := isO_nat hb
    have hhas := C.has i
    have ct := D.ct (i := i) (show i < 13 by omega)
    have i1 : (i : Int) < 13 := by omega
    have i2 : ¬ (i : Int) < 0 := by omega
    cases ht : th i with
    | false =>
      rw [ht] at ct hhas
      have HE := Lib.hid (show (qS own S ((i : Nat) : Int)).ts = [] by unfold qS; rw [hhas]; rfl)
      clear hb D C ht hhas hi1 hi12 hio hti
      go_enter Try.func32, Try.ntmps32
      go_wp2_with (first | (go_at_call 34; refine HM.out.mono ?_; rintro e w1 ⟨rfl, rfl⟩))
      go_ret
      exact ⟨none, 0, by rw [HE.out]; rfl, by rw [HE.out]; exact StQ.nil _ _ _, Below.refl _ _⟩
    | true =>
      rw [ht] at ct hhas
      have hS := (C.yes i ht).2.2.2
      have hR := D.rf hm (show i < 13 by omega)
      obtain ⟨A, c, hv, hcap⟩ := rf_cap hR
      have hFV := fun k => D.fv i k
      rw [hv] at hR hFV
      have c0 := hR.c0
      have c1 := hR.c1
      obtain ⟨N, hN⟩ : ∃ N, N = (X i).all.length := ⟨_, rfl⟩
      obtain ⟨a, ha⟩ : ∃ a, a = (X i).a := ⟨_, rfl⟩
      have hal := hR.al
      have HR := Lib.hid (rf_stq (F := F) (hR.next (Below.refl w.heap.size w).drew) hcap (fun k hk => hFV k hk))
      have HE := Lib.hid (show (qS own S ((i : Nat) : Int)).ts = (X i).all.drop (X i).a by unfold qS; rw [hhas, if_pos rfl, hti, hS]; rfl)
      have HL := Lib.hid (show (qS own S ((i : Nat) : Int)).ts.length = N - a by rw [HE.out, List.length_drop, ← hN, ← ha])
      rw [← HE.out, ← ha] at HR
      rw [← ha, ← hN] at hal
      rw [← hN] at c0 hcap
      rw [← ha] at c1
      have hN' : (a : Int) ≤ (N : Nat) := by omega
      clear hb D C ht hhas hi1 hi12 hio hti hS hR hv ha hN hFV
      go_enter Try.func32, Try.ntmps32
      go_upto_region 3 with (first | (go_at_call 34; refine HM.out.mono ?_; rintro e w1 ⟨rfl, rfl⟩))
      refine wp_region_tree (S := (fun w' => w' = w.drew)) (.take 0 (.take 1 (.take 2 (.take 3 (.take 4 (.take 5 (.take 6 (.take 7 (.take 8 (.take 9 (.take 10 (.take 11 (.take 12 (.take 13 (.take 14 (.take 15 .nil)))))))))))))))) 9999 (by kernel_rfl) (by kernel_rfl) (by kernel_rfl) (by kernel_rfl) (by kernel_rfl) (fun _ _ d _ _ h => by cases d <;> exact h) rfl (fun hHeld => ?_); simp only [Tree.map, List.getElem?_toArray, List.getElem?_cons_zero, List.getElem?_cons_succ]
      (repeat (first | (refine wpTree.take (v := undef) (Or.inr ⟨by rfl, rfl⟩) ?_; simp only [Act.put, List.setIfInBounds_toArray, List.set_cons_zero, List.set_cons_succ]) | (refine wpTree.take (v := ?_) (Or.inl ⟨by rfl, ?_⟩) ?_; rotate_left; (focus (intro _ hS; (try dsimp only at hS); go_split_ands; (try subst hS); go_simp; (try (with_reducible rfl)); done)); simp only [Act.put, List.setIfInBounds_toArray, List.set_cons_zero, List.set_cons_succ])))
      have hq := HR.out
      obtain ⟨A2, hA2⟩ : ∃ A2, A2 = (if c = a then A else Option.map (fun x => x.add a) A) := ⟨_, rfl⟩
      rw [← hA2] at hq
      (first | rw [← hA2] | (rw [hA2]; trace_state))
      have HQ := Lib.hid hq
      obtain ⟨c2, hc2⟩ : ∃ c2, c2 = c - a := ⟨_, rfl⟩
      (try rw [← hc2])
      clear hA2 hc2 hq HR
      refine wpTree.done ?_
      go_wp2_with fail
      go_ret
      exact ⟨A2, ⟨c2, by rw [HL.out]; rfl⟩, HQ.out, (Below.refl _ _).drew⟩
end
end Ls
end Go.Proofs.Ytifoheodcbjapaa
