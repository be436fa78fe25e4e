/-
links: what links are; their cells; the small calls: isNode, made, isOther, has, New, Own, sentAny, tookAny.
-/
import Derived.Test.YtifoheodcbjapaaLk7
namespace Go.Proofs.Ytifoheodcbjapaa
open Go.RowKit
set_option linter.unusedSimpArgs false
set_option linter.unusedVariables false
namespace Ls
open Lk
/-- One of the twelve. -/
structure Kn where
  s : LS
  A : Option Addr
  c : Nat
  l : List It
def Kn.cells (k : Kn) : List Value := lkc k.s k.A k.l.length k.c
theorem kn_len (k : Kn) : k.cells.length = 3 := rfl
def Kn.z : Kn := ⟨⟨0, 0, []⟩, none, 0, []⟩
def knL (K : Nat → Kn) (n : Nat) : List Value := (List.range n).flatMap fun i => (K i).cells
theorem knL_succ (K : Nat → Kn) (n : Nat) : knL K (n + 1) = knL K n ++ (K n).cells := by
  unfold knL; rw [List.range_succ, List.flatMap_append]; simp
theorem knL_len (K : Nat → Kn) : ∀ n, (knL K n).length = n * 3
  | 0 => rfl
  | n + 1 => by rw [knL_succ, List.length_append, knL_len K n, kn_len]; omega
theorem knL_get (K : Nat → Kn) : ∀ (n i j : Nat), i < n → j < 3 → (knL K n)[i * 3 + j]? = (K i).cells[j]?
  | 0, i, j, h, _ => by omega
  | n + 1, i, j, h, hj => by
    rw [knL_succ]
    by_cases hi : i < n
    · rw [List.getElem?_append_left (by rw [knL_len]; omega)]
      exact knL_get K n i j hi hj
    · have e : i = n := by omega
      subst e
      rw [List.getElem?_append_right (by rw [knL_len]; omega), knL_len, Nat.add_sub_cancel_left]
def lsc (own : Nat) (K : Nat → Kn) : List Value := .int .i64 (own : Nat) :: knL K 12
theorem ls_len (own : Nat) (K : Nat → Kn) : (lsc own K).length = 37 := by unfold lsc; rw [List.length_cons, knL_len]
theorem ls_0 (own : Nat) (K : Nat → Kn) : (lsc own K)[0]? = some (.int .i64 (own : Nat)) := rfl
theorem ls_get (own : Nat) (K : Nat → Kn) {i j : Nat} (hi : i < 12) (hj : j < 3) : (lsc own K)[1 + i * 3 + j]? = (K i).cells[j]? := by
  unfold lsc
  rw [show 1 + i * 3 + j = i * 3 + j + 1 by omega, List.getElem?_cons_succ]
  exact knL_get K 12 i j hi hj
theorem ls_at (own : Nat) (K : Nat → Kn) {n : Nat} (h0 : n ≠ 0) (hn : n < 37) : (lsc own K)[n]? = (K ((n - 1) / 3)).cells[(n - 1) % 3]? := by
  rw [← ls_get own K (i := (n - 1) / 3) (j := (n - 1) % 3) (by omega) (by omega)]
  congr 1
  omega
def upd (K : Nat → Kn) (i : Nat) (k : Kn) : Nat → Kn := fun j => if j = i then k else K j
theorem ls_one (own : Nat) (K : Nat → Kn) : ∀ v ∈ lsc own K, v.oneCell' = true := by
  intro v hv
  unfold lsc at hv
  rcases List.mem_cons.1 hv with rfl | hv
  · rfl
  · unfold knL at hv
    obtain ⟨i, _, hi⟩ := List.mem_flatMap.1 hv
    unfold Kn.cells lkc at hi
    simp at hi
    rcases hi with rfl | rfl | rfl <;> rfl
theorem ls_split (own : Nat) (K : Nat → Kn) {i : Nat} (hi : i < 12) : lsc own K = (lsc own K).take (1 + i * 3) ++ (K i).cells ++ (lsc own K).drop (1 + i * 3 + 3) := by
  apply List.ext_getElem?
  intro n
  by_cases h1 : n < 1 + i * 3
  · rw [List.append_assoc, List.getElem?_append_left (by rw [List.length_take, ls_len]; omega), List.getElem?_take, if_pos h1]
  · by_cases h2 : n < 1 + i * 3 + 3
    · rw [List.getElem?_append_left (by rw [List.length_append, List.length_take, ls_len, kn_len]; omega), List.getElem?_append_right (by rw [List.length_take, ls_len]; omega), List.length_take, ls_len,
        show min (1 + i * 3) 37 = 1 + i * 3 by omega, ← ls_get own K hi (j := n - (1 + i * 3)) (by omega)]
      congr 1; omega
    · rw [List.getElem?_append_right (by rw [List.length_append, List.length_take, ls_len, kn_len]; omega), List.length_append, List.length_take, ls_len, kn_len, List.getElem?_drop]
      congr 1; omega
theorem ls_upd (own : Nat) (K : Nat → Kn) {i : Nat} (hi : i < 12) (k : Kn) : lsc own (upd K i k) = (lsc own K).take (1 + i * 3) ++ k.cells ++ (lsc own K).drop (1 + i * 3 + 3) := by
  have h := ls_split own (upd K i k) hi
  have e : (upd K i k i) = k := by unfold upd; rw [if_pos rfl]
  rw [e] at h
  have ne : ∀ n, n < 37 → (n < 1 + i * 3 ∨ 1 + i * 3 + 3 ≤ n) → (lsc own (upd K i k))[n]? = (lsc own K)[n]? := by
    intro n hn hd
    by_cases h0 : n = 0
    · subst h0; rfl
    · rw [ls_at _ _ h0 hn, ls_at _ _ h0 hn]
      have : upd K i k ((n - 1) / 3) = K ((n - 1) / 3) := by unfold upd; rw [if_neg (by omega)]
      rw [this]
  rw [h]
  congr 1
  · congr 1
    apply List.ext_getElem?
    intro n
    rw [List.getElem?_take, List.getElem?_take]
    split
    · exact ne n (by omega) (Or.inl (by assumption))
    · rfl
  · apply List.ext_getElem?
    intro n
    rw [List.getElem?_drop, List.getElem?_drop]
    by_cases hn : 1 + i * 3 + 3 + n < 37
    · exact ne _ hn (Or.inr (by omega))
    · rw [List.getElem?_eq_none (by rw [ls_len]; omega), List.getElem?_eq_none (by rw [ls_len]; omega)]
theorem ls_pre (own : Nat) (K : Nat → Kn) {i : Nat} (hi : i < 12) : ((lsc own K).take (1 + i * 3)).length = 1 + i * 3 := by rw [List.length_take, ls_len]; omega
/-- A link's row is put in its place. -/
theorem ls_set1 (own : Nat) (K : Nat → Kn) {i : Nat} (hi : i < 12) (A : Option Addr) (c : Nat) (l : List It) (ts : List (List Nat)) :
    (lsc own K).toArray.setIfInBounds (1 + i * 3 + 1) (.slice A l.length c) = (lsc own (upd K i ⟨⟨(K i).s.nx, (K i).s.ex, ts⟩, A, c, l⟩)).toArray := by
  apply Array.ext_getElem?
  intro n
  rw [Array.getElem?_setIfInBounds, List.size_toArray, ls_len, List.getElem?_toArray, List.getElem?_toArray]
  by_cases hn : n < 37
  · by_cases h0 : n = 0
    · subst h0; rw [if_neg (by omega)]; rfl
    · by_cases he : 1 + i * 3 + 1 = n
      · subst he
        rw [if_pos rfl, if_pos hn, ls_get _ _ hi (by omega)]
        unfold upd; rw [if_pos rfl]; rfl
      · rw [if_neg he, ls_at _ _ h0 hn, ls_at _ _ h0 hn]
        unfold upd
        split
        · rename_i hd
          have hm : (n - 1) % 3 ≠ 1 := by omega
          have hm2 : (n - 1) % 3 < 3 := by omega
          rw [hd]
          generalize hq : (n - 1) % 3 = q at hm hm2 ⊢
          match q, hm, hm2 with
          | 0, _, _ => rfl
          | 2, _, _ => rfl
        · rfl
  · have h1 : ¬ (1 + i * 3 + 1 = n) := by omega
    rw [if_neg h1, List.getElem?_eq_none (by rw [ls_len]; omega), List.getElem?_eq_none (by rw [ls_len]; omega)]
attribute [irreducible] lsc
/-- Block d is links of the node own. -/
structure Lks (W : World) (B d : Nat) (F : Nat → Prop) (own : Nat) (K : Nat → Kn) : Prop where
  fd : F d
  blk : Blk W d 50 (lsc own K).toArray
  o1 : 1 ≤ own
  o2 : own ≤ 12
  ok : ∀ i, K i = Kn.z ∨ LkO W F (K i).A (K i).c (K i).l (K i).s
  self : K (own - 1) = Kn.z
  far : ∀ i, 12 ≤ i → K i = Kn.z
  low : ∀ k, F k → B ≤ k ∧ k < W.heap.size
/-- A node's links: of each node one, that is not there if its nx is 0. -/
def LN (W : World) (B d : Nat) (F : Nat → Prop) (own : Nat) (S : Nat → LS) : Prop := ∃ K, Lks W B d F own K ∧ S = fun i => (K i).s
section
variable {W W' : World} {B d own : Nat} {F G : Nat → Prop} {K : Nat → Kn} {S : Nat → LS}
theorem Lks.keep (D : Lks W B d F own K) (hk : ∀ k, F k → W'.heap[k]? = W.heap[k]?) (hs : W.heap.size ≤ W'.heap.size) : Lks W' B d F own K :=
  ⟨D.fd, (hk d D.fd).trans D.blk, D.o1, D.o2, fun i => (D.ok i).imp id fun h => h.keep fun k hF => ⟨hF, hk k hF⟩, D.self, D.far, fun k hF => ⟨(D.low k hF).1, Nat.lt_of_lt_of_le (D.low k hF).2 hs⟩⟩
theorem Lks.next (D : Lks W B d F own K) (hb : Below W.heap.size W W') : Lks W' B d F own K := D.keep (fun k hF => hb.block k (D.low k hF).2) hb.size
theorem Lks.wider (D : Lks W B d F own K) (h : ∀ k, F k → G k) (hl : ∀ k, G k → B ≤ k ∧ k < W.heap.size) : Lks W B d G own K :=
  ⟨h d D.fd, D.blk, D.o1, D.o2, fun i => (D.ok i).imp id fun k => k.keep fun k hk => ⟨h k hk, rfl⟩, D.self, D.far, hl⟩
theorem Lks.grow (D : Lks W B d F own K) (hb : Below W.heap.size W W') : Lks W' B d (Grow F W W') own K :=
  (D.next hb).wider (fun k h => Or.inl h) (by
    have hd := D.low d D.fd
    rintro k (hk | ⟨h1, h2⟩)
    · exact ⟨(D.low k hk).1, Nat.lt_of_lt_of_le (D.low k hk).2 hb.size⟩
    · exact ⟨by omega, h2⟩)
theorem Lks.c0 (D : Lks W B d F own K) : W.cell? ⟨d, 0, none⟩ = some (.int .i64 (own : Nat)) := (D.blk.cell 0).trans (by rw [List.getElem?_toArray, ls_0])
theorem Lks.cl (D : Lks W B d F own K) {i j : Nat} (hi : i < 12) (hj : j < 3) : W.cell? ⟨d, 1 + i * 3 + j, none⟩ = (K i).cells[j]? := (D.blk.cell _).trans (by rw [List.getElem?_toArray, ls_get _ _ hi hj])
theorem Lks.nx (D : Lks W B d F own K) {i : Nat} (hi : i < 12) : W.cell? ⟨d, 1 + i * 3, none⟩ = some (.int .u64 ((K i).s.nx : Nat)) := D.cl hi (j := 0) (by omega)
theorem Lks.ex (D : Lks W B d F own K) {i : Nat} (hi : i < 12) : W.cell? ⟨d, 1 + i * 3 + 2, none⟩ = some (.int .u64 ((K i).s.ex : Nat)) := D.cl hi (j := 2) (by omega)
theorem Lks.rng (D : Lks W B d F own K) {i : Nat} (hi : i < 12) : W.rangeAt d (1 + i * 3) (K i).cells := fun j v hj => by
  have : j < 3 := by have := (List.getElem?_eq_some_iff.1 hj).1; rwa [kn_len] at this
  rw [D.cl hi this, hj]
theorem Lks.lnk (D : Lks W B d F own K) {i : Nat} (hi : i < 12) (hn : (K i).s.nx ≠ 0) : LnkO W B d (1 + i * 3) 50 (lsc own K).toArray F (K i).A (K i).c (K i).l (K i).s := by
  refine ⟨by decide, D.fd, D.blk, by rw [List.getElem?_toArray, ← Nat.add_zero (1 + i * 3), ls_get _ _ hi (by omega)]; rfl, by rw [List.getElem?_toArray, ls_get _ _ hi (by omega)]; rfl, by rw [List.getElem?_toArray, ls_get _ _ hi (by omega)]; rfl, ?_, D.low⟩
  rcases D.ok i with h | h
  · rw [h] at hn; exact absurd rfl hn
  · exact h
theorem LN.next (h : LN W B d F own S) (hb : Below W.heap.size W W') : LN W' B d F own S := by obtain ⟨K, D, e⟩ := h; exact ⟨K, D.next hb, e⟩
theorem LN.keep (h : LN W B d F own S) (hk : ∀ k, F k → W'.heap[k]? = W.heap[k]?) (hs : W.heap.size ≤ W'.heap.size) : LN W' B d F own S := by obtain ⟨K, D, e⟩ := h; exact ⟨K, D.keep hk hs, e⟩
theorem LN.grow (h : LN W B d F own S) (hb : Below W.heap.size W W') : LN W' B d (Grow F W W') own S := by obtain ⟨K, D, e⟩ := h; exact ⟨K, D.grow hb, e⟩
theorem LN.low (h : LN W B d F own S) : ∀ k, F k → B ≤ k ∧ k < W.heap.size := by obtain ⟨K, D, e⟩ := h; exact D.low
theorem LN.fd (h : LN W B d F own S) : F d := by obtain ⟨K, D, e⟩ := h; exact D.fd
theorem LN.o1 (h : LN W B d F own S) : 1 ≤ own := by obtain ⟨K, D, e⟩ := h; exact D.o1
theorem LN.o2 (h : LN W B d F own S) : own ≤ 12 := by obtain ⟨K, D, e⟩ := h; exact D.o2
theorem LN.base (h : LN W B d F own S) : B ≤ W.heap.size := by have := h.low d h.fd; omega
theorem ln_turn (h : LN W B d F own S) (hb : Below W.heap.size W W') : Turn B F W W' := ⟨hb.mono h.base, fun k hk _ => hb.block k hk⟩
end
def isN (n : Int) : Bool := decide (1 ≤ n ∧ n ≤ 12)
/-- May there be a link from own to n? -/
def isO (own : Nat) (n : Int) : Bool := isN n && decide (n ≠ (own : Int))
/-- Is there one? -/
def hasB (own : Nat) (S : Nat → LS) (n : Int) : Bool := isO own n && decide ((S (n.toNat - 1)).nx ≠ 0)
theorem isN_of {n : Int} (h : isN n = true) : ∃ i : Nat, i < 12 ∧ n.toNat - 1 = i ∧ n = ((i + 1 : Nat) : Int) ∧ wrap64 (n - 1) = (i : Nat) ∧ IntKind.i64.wrap (n - 1) = (i : Nat) ∧ (i : Int) < 12 ∧ (0 : Int) ≤ (i : Nat) := by
  unfold isN at h
  have h := of_decide_eq_true h
  refine ⟨n.toNat - 1, by omega, rfl, by omega, ?_, ?_, by omega, by omega⟩
  · unfold wrap64; omega
  · rw [IntKind.wrap_i64]; omega
theorem isO_of {own : Nat} {n : Int} (h : isO own n = true) : isN n = true ∧ n ≠ (own : Int) := by
  unfold isO at h
  rw [Bool.and_eq_true] at h
  exact ⟨h.1, of_decide_eq_true h.2⟩
section
variable (W : World)
theorem isnode_any (n : Int) : Calls Try.prog 23 #[.int .i64 n] W fun e W' => e = .returned (.bool (isN n)) ∧ W = W' := by
  by_cases h1 : 1 ≤ n
  · by_cases h2 : n ≤ 12
    · have e : isN n = true := decide_eq_true ⟨h1, h2⟩
      rw [e]
      clear e
      go_enter Try.func23, Try.ntmps23
      go_wp2_with fail
      go_ret
      exact ⟨rfl, rfl⟩
    · have e : isN n = false := decide_eq_false (fun h => h2 h.2)
      rw [e]
      clear e
      go_enter Try.func23, Try.ntmps23
      go_wp2_with fail
      go_ret
      exact ⟨rfl, rfl⟩
  · have e : isN n = false := decide_eq_false (fun h => h1 h.1)
    rw [e]
    clear e
    go_enter Try.func23, Try.ntmps23
    go_wp2_with fail
    go_ret
    exact ⟨rfl, rfl⟩
theorem lmade_nil : Calls Try.prog 36 #[.pointer none] W fun e W' => e = .returned (.bool false) ∧ W = W' := by
  go_enter Try.func36, Try.ntmps36
  go_wp2_with fail
  go_ret
  exact ⟨rfl, rfl⟩
theorem lmade_of {d : Nat} {n : Nat} (h : W.cell? ⟨d, 0, none⟩ = some (.int .i64 (n : Nat))) : Calls Try.prog 36 #[.pointer (some ⟨d, 0, none⟩)] W fun e W' => e = .returned (.bool (decide (n ≠ 0))) ∧ W = W' := by
  by_cases h0 : n = 0
  · subst h0
    go_enter Try.func36, Try.ntmps36
    go_wp2_with fail
    go_ret
    exact ⟨rfl, rfl⟩
  · have e0 : ((n : Int) != 0) = true := by simp; omega
    have H0 := Lib.hid h0
    clear h0
    go_enter Try.func36, Try.ntmps36
    go_wp2_with fail
    go_ret
    exact ⟨by rw [decide_eq_true (show n ≠ 0 from H0.out)]; rfl, rfl⟩
/-- Nobody's: nil, or links that no call made. -/
def NB (W : World) (v : Value) : Prop := v = .pointer none ∨ ∃ d, v = .pointer (some ⟨d, 0, none⟩) ∧ Blk W d 50 (lsc 0 fun _ => Kn.z).toArray
theorem NB.next {W W' : World} {v : Value} (h : NB W v) (hb : Below W.heap.size W W') : NB W' v := h.imp id (by rintro ⟨d, e, k⟩; exact ⟨d, e, k.next hb⟩)
theorem lmade_nb {v : Value} (h : NB W v) : Calls Try.prog 36 #[v] W fun e W' => e = .returned (.bool false) ∧ W = W' := by
  rcases h with rfl | ⟨d, rfl, k⟩
  · exact lmade_nil W
  · exact lmade_of W (n := 0) ((k.cell 0).trans (by rw [List.getElem?_toArray, ls_0]))
theorem other_nb {v : Value} (h : NB W v) (n : Int) : Calls Try.prog 37 #[v, .int .i64 n] W fun e W' => e = .returned (.bool false) ∧ W = W' := by
  have HM := Lib.hid (lmade_nb W h)
  clear h
  go_enter Try.func37, Try.ntmps37
  go_wp2_with (go_at_call 36; refine HM.out.mono ?_; rintro e w1 ⟨rfl, rfl⟩)
  go_ret
  exact ⟨rfl, rfl⟩
theorem has_nb {v : Value} (h : NB W v) (n : Int) : Calls Try.prog 43 #[v, .int .i64 n] W fun e W' => e = .returned (.bool false) ∧ W = W' := by
  have HM := Lib.hid (other_nb W h n)
  clear h
  go_enter Try.func43, Try.ntmps43
  go_wp2_with (go_at_call 37; refine HM.out.mono ?_; rintro e w1 ⟨rfl, rfl⟩)
  go_ret
  exact ⟨rfl, rfl⟩
theorem sent_any (k : Kn) : Calls Try.prog 77 #[.agg k.cells.toArray] W fun e W' => e = .returned (.bool (decide (1 < k.s.nx))) ∧ Below W.heap.size W W' := by
  obtain ⟨w1, hw1⟩ : ∃ w1, w1 = W.alloc (.cells k.cells.toArray 47) := ⟨_, rfl⟩
  have hb : Blk w1 W.heap.size 47 k.cells.toArray := by rw [hw1]; exact Blk.new _ _ _
  have hB : Below W.heap.size W w1 := by rw [hw1]; exact (Below.refl _ _).alloc (Nat.le_refl _) _
  have HN := Lib.hid (next_o w1 (d := W.heap.size) (o := 0) (n := k.s.nx) (hb.cell 0))
  have HB := Lib.hid hB
  have HW := Lib.hid hw1
  clear hb hB hw1
  by_cases h : 1 < k.s.nx
  · have h1 : (1 : Int) < (k.s.nx : Nat) := by omega
    rw [decide_eq_true h]
    clear h
    go_enter Try.func77, Try.ntmps77
    go_upto_region 1 with fail
    (try rw [← HW.out])
    go_wp2_with (go_at_call 65; refine HN.out.mono ?_; rintro e w2 ⟨rfl, rfl⟩)
    go_ret
    exact ⟨(by first | rfl | (simp; omega)), HB.out⟩
  · have h1 : ¬ (1 : Int) < (k.s.nx : Nat) := by omega
    rw [decide_eq_false h]
    clear h
    go_enter Try.func77, Try.ntmps77
    go_upto_region 1 with fail
    (try rw [← HW.out])
    go_wp2_with (go_at_call 65; refine HN.out.mono ?_; rintro e w2 ⟨rfl, rfl⟩)
    go_ret
    exact ⟨(by first | rfl | (simp; omega)), HB.out⟩
theorem took_any (k : Kn) : Calls Try.prog 45 #[.agg k.cells.toArray] W fun e W' => e = .returned (.bool (decide (1 < k.s.ex))) ∧ Below W.heap.size W W' := by
  obtain ⟨w1, hw1⟩ : ∃ w1, w1 = W.alloc (.cells k.cells.toArray 47) := ⟨_, rfl⟩
  have hb : Blk w1 W.heap.size 47 k.cells.toArray := by rw [hw1]; exact Blk.new _ _ _
  have hB : Below W.heap.size W w1 := by rw [hw1]; exact (Below.refl _ _).alloc (Nat.le_refl _) _
  have HN := Lib.hid (expect_o w1 (d := W.heap.size) (o := 0) (n := k.s.ex) (hb.cell 2))
  have HB := Lib.hid hB
  have HW := Lib.hid hw1
  clear hb hB hw1
  by_cases h : 1 < k.s.ex
  · have h1 : (1 : Int) < (k.s.ex : Nat) := by omega
    rw [decide_eq_true h]
    clear h
    go_enter Try.func45, Try.ntmps45
    go_upto_region 1 with fail
    (try rw [← HW.out])
    go_wp2_with (go_at_call 46; refine HN.out.mono ?_; rintro e w2 ⟨rfl, rfl⟩)
    go_ret
    exact ⟨(by first | rfl | (simp; omega)), HB.out⟩
  · have h1 : ¬ (1 : Int) < (k.s.ex : Nat) := by omega
    rw [decide_eq_false h]
    clear h
    go_enter Try.func45, Try.ntmps45
    go_upto_region 1 with fail
    (try rw [← HW.out])
    go_wp2_with (go_at_call 46; refine HN.out.mono ?_; rintro e w2 ⟨rfl, rfl⟩)
    go_ret
    exact ⟨(by first | rfl | (simp; omega)), HB.out⟩
end
section
variable (W : World) {B d own : Nat} {F : Nat → Prop} {K : Nat → Kn}
theorem lmade_any (D : Lks W B d F own K) : Calls Try.prog 36 #[.pointer (some ⟨d, 0, none⟩)] W fun e W' => e = .returned (.bool true) ∧ W = W' := by
  have h := lmade_of W D.c0
  rw [decide_eq_true (show own ≠ 0 by have := D.o1; omega)] at h
  exact h
theorem other_any (D : Lks W B d F own K) (n : Int) : Calls Try.prog 37 #[.pointer (some ⟨d, 0, none⟩), .int .i64 n] W fun e W' => e = .returned (.bool (isO own n)) ∧ W = W' := by
  have HM := Lib.hid (lmade_any W D)
  have c0 := D.c0
  have HN := Lib.hid (isnode_any W n)
  clear D
  unfold isO
  cases hb : isN n with
  | false =>
    rw [hb] at HN
    clear hb
    go_enter Try.func37, Try.ntmps37
    go_wp2_with (first | (go_at_call 36; refine HM.out.mono ?_; rintro e w1 ⟨rfl, rfl⟩) | (go_at_call 23; refine HN.out.mono ?_; rintro e w1 ⟨rfl, rfl⟩))
    go_ret
    exact ⟨rfl, rfl⟩
  | true =>
    rw [hb] at HN
    clear hb
    by_cases h : n = (own : Int)
    · have e0 : (n != (own : Int)) = false := by simp [h]
      rw [decide_eq_false (fun e => e h)]
      clear h
      go_enter Try.func37, Try.ntmps37
      go_wp2_with (first | (go_at_call 36; refine HM.out.mono ?_; rintro e w1 ⟨rfl, rfl⟩) | (go_at_call 23; refine HN.out.mono ?_; rintro e w1 ⟨rfl, rfl⟩))
      go_ret
      exact ⟨rfl, rfl⟩
    · have e0 : (n != (own : Int)) = true := by simp [h]
      rw [decide_eq_true h]
      clear h
      go_enter Try.func37, Try.ntmps37
      go_wp2_with (first | (go_at_call 36; refine HM.out.mono ?_; rintro e w1 ⟨rfl, rfl⟩) | (go_at_call 23; refine HN.out.mono ?_; rintro e w1 ⟨rfl, rfl⟩))
      go_ret
      exact ⟨rfl, rfl⟩
theorem has_any (D : Lks W B d F own K) (n : Int) : Calls Try.prog 43 #[.pointer (some ⟨d, 0, none⟩), .int .i64 n] W fun e W' => e = .returned (.bool (hasB own (fun i => (K i).s) n)) ∧ W = W' := by
  have HM := Lib.hid (other_any W D n)
  unfold hasB
  cases hb : isO own n with
  | false =>
    rw [hb] at HM
    clear hb D
    go_enter Try.func43, Try.ntmps43
    go_wp2_with (first | (go_at_call 37; refine HM.out.mono ?_; rintro e w1 ⟨rfl, rfl⟩))
    go_ret
    exact ⟨rfl, rfl⟩
  | true =>
    rw [hb] at HM
    obtain ⟨i, hi, hti, hn, hw, hw2, hi1, hi0⟩ := isN_of (isO_of hb).1
    rw [hti]
    have HX := Lib.hid (next_o W (D.nx hi))
    clear hb D hi hti hn hw2
    by_cases h : (K i).s.nx = 0
    · rw [h] at HX
      rw [decide_eq_false (fun e => e h)]
      clear h
      go_enter Try.func43, Try.ntmps43
      go_wp2_with (first | (go_at_call 37; refine HM.out.mono ?_; rintro e w1 ⟨rfl, rfl⟩) | (go_at_call 65; refine HX.out.mono ?_; rintro e w1 ⟨rfl, rfl⟩))
      go_ret
      exact ⟨rfl, rfl⟩
    · have e0 : (((K i).s.nx : Int) != 0) = true := by simp; omega
      rw [decide_eq_true h]
      clear h
      go_enter Try.func43, Try.ntmps43
      go_wp2_with (first | (go_at_call 37; refine HM.out.mono ?_; rintro e w1 ⟨rfl, rfl⟩) | (go_at_call 65; refine HX.out.mono ?_; rintro e w1 ⟨rfl, rfl⟩))
      go_ret
      exact ⟨rfl, rfl⟩
end
end Ls
end Go.Proofs.Ytifoheodcbjapaa
