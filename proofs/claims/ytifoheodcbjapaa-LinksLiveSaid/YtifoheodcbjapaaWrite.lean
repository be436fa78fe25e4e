/-
wire: what a writer is; New, put.
wire: the writer's Num.
wire: the writer's Int, Text.
wire: the writer's Bytes.
wire: the writer's calls on nil: nothing is written, nil comes back.
-/
import Derived.Test.YtifoheodcbjapaaRead
import Derived.Test.YtifoheodcbjapaaAppend
import Derived.OneCell
import Derived.Laws.Bits128
namespace Go.Proofs.Ytifoheodcbjapaa
open Go.RowKit

def u8s (bs : List Nat) : List Value := bs.map fun (x : Nat) => Value.int .u8 (x : Int)
theorem u8s_app (a b : List Nat) : u8s (a ++ b) = u8s a ++ u8s b := by simp [u8s]
theorem u8s_len (a : List Nat) : (u8s a).length = a.length := by simp [u8s]
theorem u8s_one (a : List Nat) : ∀ u ∈ u8s a, u.oneCell' = true := by
  intro u hu
  obtain ⟨x, _, rfl⟩ := List.mem_map.1 hu
  rfl

/-- Block g is a writer, whose bytes these are. -/
def Wtr (W : World) (B g : Nat) (bs : List Nat) : Prop :=
  B ≤ g ∧ ∃ v, W.heap[g]? = some (.cells #[v] 116 (0, 0)) ∧ W.ownsRow B 5 1 v bs.length (u8s bs)
/-- The block of a writer's row. -/
def rowOf (W : World) (g : Nat) : Option Nat := (W.cell? ⟨g, 0, none⟩).bind Value.ownBlock
theorem rowOf_of {W : World} {g : Nat} {v : Value} {t : TypeId} (h : W.heap[g]? = some (.cells #[v] t (0, 0))) : rowOf W g = v.ownBlock := by unfold rowOf; rw [row_cell h 0]; rfl
theorem rowOf_lt {W : World} {B g : Nat} {bs : List Nat} (h : Wtr W B g bs) {k : Nat} (hk : rowOf W g = some k) : k < W.heap.size := by
  obtain ⟨_, v, hv, hown⟩ := h
  rw [rowOf_of hv] at hk
  exact (hown.lt k hk).2
/-- What a write leaves as it was: all but the writer and its row, which lies where it lay, or in a new block. -/
def Wrote (B g : Nat) (W W' : World) : Prop := Below B W W' ∧ (∀ k, k < W.heap.size → k ≠ g → some k ≠ rowOf W g → W'.heap[k]? = W.heap[k]?) ∧ (∀ k, rowOf W' g = some k → rowOf W g = some k ∨ W.heap.size ≤ k)
theorem Wrote.refl (B g : Nat) (W : World) : Wrote B g W W := ⟨Below.refl _ _, fun _ _ _ _ => rfl, fun _ h => Or.inl h⟩
theorem Wrote.trans {B g : Nat} {a b c : World} (h : Wrote B g a b) (k : Wrote B g b c) : Wrote B g a c :=
  ⟨h.1.trans k.1, fun i hi hg hn => (k.2.1 i (Nat.lt_of_lt_of_le hi h.1.size) hg (fun e => (h.2.2 i e.symm).elim (fun e' => hn e'.symm) (fun e' => by omega))).trans (h.2.1 i hi hg hn),
    fun i hi => (k.2.2 i hi).elim (h.2.2 i) (fun e => Or.inr (Nat.le_trans h.1.size e))⟩
theorem Wrote.ofBelow {B g : Nat} {W W' : World} (h : Below W.heap.size W W') (hB : B ≤ W.heap.size) (hg : g < W.heap.size) : Wrote B g W W' :=
  ⟨h.mono hB, fun k hk _ _ => h.block k hk, fun k hk => Or.inl (by unfold rowOf at hk ⊢; rwa [h.cell (p := ⟨g, 0, none⟩) hg] at hk)⟩
theorem Wtr.lt {W : World} {B g : Nat} {bs : List Nat} (h : Wtr W B g bs) : g < W.heap.size := by
  obtain ⟨_, v, hv, _⟩ := h
  rcases Nat.lt_or_ge g W.heap.size with hlt | hge
  · exact hlt
  · rw [Array.getElem?_eq_none hge] at hv; cases hv

theorem new_any (W : World) : Calls Try.prog 48 #[] W fun e W' => e = .returned (.pointer (some ⟨W.heap.size, 0, none⟩)) ∧ Wtr W' W.heap.size W.heap.size [] ∧ Below W.heap.size W W' := by
  go_enter Try.func48, Try.ntmps48
  go_wp2
  go_ret
  exact ⟨rfl, ⟨Nat.le_refl _, _, heap_alloc_new W _, World.ownsRow_nil _ _ _ _⟩, (Below.refl _ W).alloc (Nat.le_refl _) _⟩

theorem put_nil (v : Value) (W : World) : Calls Try.prog 79 #[.pointer none, v] W fun e W' => e = .returned (.pointer none) ∧ W = W' := by
  go_enter Try.func79, Try.ntmps79
  go_wp2
  go_ret
  exact ⟨rfl, rfl⟩

theorem slice_of {W : World} {B n : Nat} {v : Value} {xs : List Value} (h : W.ownsRow B 5 1 v n xs) : ∃ A c, v = .slice A n c := by
  obtain ⟨_, ⟨rfl, rfl⟩ | ⟨g, cap, cur, rfl, _⟩⟩ := h
  · exact ⟨none, 0, rfl⟩
  · exact ⟨_, cap, rfl⟩
theorem row_ne {W : World} {B n g : Nat} {v : Value} {xs : List Value} {cs : Array Value} {t : TypeId} (h : W.ownsRow B 5 1 v n xs) (hg : W.heap[g]? = some (.cells cs t (0, 0))) (ht : t ≠ 5) : some g ≠ v.ownBlock := by
  obtain ⟨_, ⟨rfl, rfl⟩ | ⟨k, cap, cur, rfl, _, hk, _⟩⟩ := h
  · simp [Value.ownBlock]
  · intro e
    simp only [Value.ownBlock, Option.some.injEq] at e
    subst e
    rw [hk] at hg
    simp only [Option.some.injEq, Obj.cells.injEq] at hg
    exact ht hg.2.1.symm
theorem row_of {W : World} {B n : Nat} {v : Value} {xs : List Value} (h : W.ownsRow B 5 1 v n xs) {k : Nat} (hn : NoRow W k) : some k ≠ v.ownBlock := by
  obtain ⟨_, ⟨rfl, rfl⟩ | ⟨g, cap, cur, rfl, _, hk, _⟩⟩ := h
  · simp [Value.ownBlock]
  · intro e
    simp only [Value.ownBlock, Option.some.injEq] at e
    subst e
    exact hn _ _ hk
theorem row_low {W : World} {B n : Nat} {v : Value} {xs : List Value} (h : W.ownsRow B 5 1 v n xs) {k : Nat} (hk : k < B) : some k ≠ v.ownBlock := by
  intro e
  have := (h.lt k e.symm).1
  omega

theorem info_u8 : ∃ i z, Try.prog.info? 5 = some i ∧ i.zero = some z ∧ i.size = 1 ∧ i.bytes = 1 ∧ z.cells.size = 1 := by
  have h : ((Try.prog.info? 5).bind fun i => i.zero.map fun z => (i.size, i.bytes, z.cells.size)) = some (1, 1, 1) := by kernel_rfl
  cases hi : Try.prog.info? 5 with
  | none => rw [hi] at h; cases h
  | some i =>
    rw [hi] at h
    simp only [Option.bind_some, Option.map_eq_some_iff, Prod.mk.injEq] at h
    obtain ⟨z, hz, h1, h2, h3⟩ := h
    exact ⟨i, z, rfl, hz, h1, h2, h3⟩
/-- An append of bytes onto a row of bytes that a call made. -/
theorem wp_append_u8 {o : Oper} {a : Act} {K : Act → World → Prop} {Q : Exit → Act → World → Prop} (w : World) (s x : Operand)
    (ho : o.op = .call { callee := .builtin .append, args := #[s, x], argTypes := #[38, 38] }) (base : Nat)
    (v : Value) (n : Nat) (xs : List Value) (hs : a.eval s = v) (hown : w.ownsRow base 5 1 v n xs)
    (A : Option Addr) (m c : Nat) (news : List Value) (hx : a.eval x = .slice A m c) (hl : news.length = m) (hsrc : Src w A m news) (h1 : ∀ u ∈ news, u.oneCell' = true)
    (hbytes : n + m ≤ 140737488355328) (hbase : base ≤ w.heap.size)
    (h : ∀ v' w', w'.ownsRow base 5 1 v' (n + m) (xs ++ news) → w.grownBy w' v.ownBlock → (v'.ownBlock = v.ownBlock ∨ v'.ownBlock = some w.heap.size) → K (a.put o.dst v') w') : Oper.wp Try.prog o a w K Q := by
  obtain ⟨i, z, hi, hz, h2, h3, h4⟩ := info_u8
  exact wp_append_src w s x 38 ho base 5 i z Try.underlying38 hi hz (by rw [h4, h2]) (by omega) v n xs hs (by rw [h2]; exact hown) A m c news hx (by rw [hl, h2, Nat.mul_one]) hsrc h1 (by unfold maxLen; omega) (by rw [h3]; omega) hbase (by rw [h2]; exact h)
theorem wpList_append_u8 {ops : Array Oper} {rest : List Oper} {o : Oper} {a : Act} {Q : Exit → Act → World → Prop} (w : World) (hgd : o.guard = none) (s x : Operand)
    (ho : o.op = .call { callee := .builtin .append, args := #[s, x], argTypes := #[38, 38] }) (base : Nat)
    (v : Value) (n : Nat) (xs : List Value) (hs : a.eval s = v) (hown : w.ownsRow base 5 1 v n xs)
    (A : Option Addr) (m c : Nat) (news : List Value) (hx : a.eval x = .slice A m c) (hl : news.length = m) (hsrc : Src w A m news) (h1 : ∀ u ∈ news, u.oneCell' = true)
    (hbytes : n + m ≤ 140737488355328) (hbase : base ≤ w.heap.size)
    (h : ∀ v' w', w'.ownsRow base 5 1 v' (n + m) (xs ++ news) → w.grownBy w' v.ownBlock → (v'.ownBlock = v.ownBlock ∨ v'.ownBlock = some w.heap.size) → wpList Try.prog ops Q rest (a.put o.dst v') w') : wpList Try.prog ops Q (o :: rest) a w :=
  wpList_plain hgd fun _ hK => wp_append_u8 w s x ho base v n xs hs hown A m c news hx hl hsrc h1 hbytes hbase fun v' w' h2 h3 h4 => hK _ _ (h v' w' h2 h3 h4)

theorem put_any (B g m c : Nat) (A : Option Addr) (bs cs : List Nat) (W : World) (h : Wtr W B g bs) (hs : Src W A m (u8s cs)) (hm : cs.length = m) (hlen : bs.length + m ≤ 140737488355328) :
    Calls Try.prog 79 #[.pointer (some ⟨g, 0, none⟩), .slice A m c] W fun e W' => e = .returned (.pointer (some ⟨g, 0, none⟩)) ∧ Wtr W' B g (bs ++ cs) ∧ Wrote B g W W' := by
  have hlt := h.lt
  obtain ⟨hB, v, hv, hown⟩ := h
  have c0 := row_cell hv 0
  have z0 := row_frozen hv 0
  go_enter Try.func79, Try.ntmps79
  go_wp2_with (first | (refine wpList_append_u8 _ rfl _ _ rfl B v bs.length (u8s bs) rfl hown A m c (u8s cs) rfl (by rw [u8s_len, hm]) hs (u8s_one cs) (by omega) (by omega) ?_; intro v' W1 hown1 hgrow hloc; have HLOC := Lib.hid hloc; clear hloc; obtain ⟨A', c', rfl⟩ := slice_of hown1; have hv1 := (hgrow.block g hlt (row_ne hown hv (by decide))).trans hv; have c1 := row_cell hv1 0; have z1 := row_frozen hv1 0))
  go_ret
  have hg2 : (W1.setCell ⟨g, 0, none⟩ (.slice A' (bs.length + m) c')).heap[g]? = some (.cells #[.slice A' (bs.length + m) c'] 116 (0, 0)) := by
    simp [World.setCell, Array.getElem?_modify, hv1]
  refine ⟨rfl, ⟨hB, _, hg2, ?_⟩, ?_, ?_, ?_⟩
  · rw [u8s_app, List.length_append, hm]
    exact ownsRow_setCell_other hown1 (a := ⟨g, 0, none⟩) (fun e => row_ne hown1 hv1 (by decide) e.symm) _
  · have b1 : Below B W W1 := ⟨hgrow.os, hgrow.tape, hgrow.output, hgrow.size, fun k hk => hgrow.block k (by omega) (row_low hown hk)⟩
    exact b1.setCell hB _
  · intro k hk hkg hn
    rw [rowOf_of hv] at hn
    rw [Below.heap_setCell W1 ⟨g, 0, none⟩ _ k hkg]
    exact hgrow.block k hk hn
  · intro k hk
    rw [rowOf_of hg2] at hk
    rw [rowOf_of hv]
    rcases HLOC.out with h1 | h1
    · exact Or.inl (h1.symm.trans hk)
    · rw [h1] at hk
      simp only [Option.some.injEq] at hk
      exact Or.inr (by omega)
end Go.Proofs.Ytifoheodcbjapaa
namespace Go.Proofs.Ytifoheodcbjapaa
open Go.RowKit

def encHi (n : Nat) : List Nat := if _h : n = 0 then [] else encHi (n / 128) ++ [n % 128 + 128]
termination_by n
decreasing_by omega
theorem encHi_zero : encHi 0 = [] := by unfold encHi; simp
theorem encHi_step {n : Nat} (h : 0 < n) : encHi n = encHi (n / 128) ++ [n % 128 + 128] := by
  rw [encHi, dif_neg (by omega)]
/-- A number's bytes. -/
def enc (n : Nat) : List Nat := encHi (n / 128) ++ [n % 128]
attribute [irreducible] enc

theorem Wtr.next {W W' : World} {B g : Nat} {bs : List Nat} (h : Wtr W B g bs) (hb : Below W.heap.size W W') : Wtr W' B g bs := by
  have hlt := h.lt
  obtain ⟨hB, v, hv, hl, hrow⟩ := h
  refine ⟨hB, v, (hb.block g hlt).trans hv, hl, ?_⟩
  refine hrow.imp id ?_
  rintro ⟨k, cap, cur, e, hk, hh, r⟩
  refine ⟨k, cap, cur, e, hk, (hb.block k ?_).trans hh, r⟩
  rcases Nat.lt_or_ge k W.heap.size with h1 | h1
  · exact h1
  · rw [Array.getElem?_eq_none h1] at hh; cases hh

/-- The digits so far, in an array of ten. -/
def Dig (W : World) (d a : Nat) (ds : List Nat) : Prop :=
  ∃ L : List Value, W.heap[d]? = some (.cells L.toArray 128 (0, 0)) ∧ L.length = 10 ∧ ds.length = 10 - a ∧ ∀ (i x : Nat), ds[i]? = some x → L[a + i]? = some (.int .u8 (x : Nat))
theorem Dig.cell {W : World} {d a : Nat} {ds : List Nat} (h : Dig W d a ds) {j : Nat} (hj : j < 10) : ∃ v, W.cell? ⟨d, j, none⟩ = some v := by
  obtain ⟨L, hh, hL, _⟩ := h
  refine ⟨L[j]'(by omega), ?_⟩
  rw [row_cell hh j, List.getElem?_toArray, List.getElem?_eq_getElem]
theorem Dig.frozen {W : World} {d a : Nat} {ds : List Nat} (h : Dig W d a ds) (j : Nat) : W.frozen? ⟨d, j, none⟩ = false := by
  obtain ⟨L, hh, _⟩ := h
  exact row_frozen hh j
theorem Dig.put {W : World} {d a : Nat} {ds : List Nat} (h : Dig W d (a + 1) ds) (ha : a < 10) (x : Nat) : Dig (W.setCell ⟨d, a, none⟩ (.int .u8 (x : Nat))) d a (x :: ds) := by
  obtain ⟨L, hh, hL, hl, hx⟩ := h
  refine ⟨L.set a (.int .u8 (x : Nat)), ?_, by simp [hL], by simp; omega, fun i y hy => ?_⟩
  · simp [World.setCell, Array.getElem?_modify, hh]
  · cases i with
    | zero => simp at hy; subst hy; simp [hL, ha]
    | succ i =>
      rw [List.getElem?_set_ne (by omega), show a + (i + 1) = a + 1 + i by omega]
      exact hx i y (by simpa using hy)

theorem add_plain (b o j : Nat) : (⟨b, o, none⟩ : Addr).add j = ⟨b, o + j, none⟩ := by unfold Addr.add; split <;> simp_all
theorem u8s_get {ds : List Nat} {j : Nat} {u : Value} (h : (u8s ds)[j]? = some u) : ∃ x : Nat, ds[j]? = some x ∧ u = .int .u8 (x : Nat) := by
  unfold u8s at h
  rw [List.getElem?_map, Option.map_eq_some_iff] at h
  obtain ⟨x, h1, h2⟩ := h
  exact ⟨x, h1, h2.symm⟩
theorem Dig.src {W : World} {d a : Nat} {ds : List Nat} (h : Dig W d a ds) : Src W (some ⟨d, a, none⟩) (10 - a) (u8s ds) := by
  obtain ⟨L, hh, hL, hl, hx⟩ := h
  refine Or.inl ⟨_, rfl, fun j u hj => ?_⟩
  obtain ⟨x, h1, rfl⟩ := u8s_get hj
  rw [add_plain, row_cell hh, List.getElem?_toArray]
  exact hx j x h1
theorem Dig.len {W : World} {d a : Nat} {ds : List Nat} (h : Dig W d a ds) : ds.length = 10 - a := by
  obtain ⟨L, _, _, hl, _⟩ := h
  exact hl

set_option maxHeartbeats 1000000 in
theorem wnum_any (B g n : Nat) (bs : List Nat) (W : World) (h : Wtr W B g bs) (hn : n < 18446744073709551616) (hlen : bs.length + 10 ≤ 140737488355328) :
    Calls Try.prog 69 #[.pointer (some ⟨g, 0, none⟩), .int .u64 (n : Nat)] W fun e W' => e = .returned (.pointer (some ⟨g, 0, none⟩)) ∧ Wtr W' B g (bs ++ enc n) ∧ Wrote B g W W' := by
  have HW := Lib.hid h
  have e1 : IntKind.u8.wrap ((n : Int) % 128) = (n : Int) % 128 := by rw [IntKind.wrap_u8]; omega
  have e2 : IntKind.u64.wrap ((n : Int) / 128) = (n : Int) / 128 := by rw [IntKind.wrap_u64]; omega
  have HN := Lib.hid hn
  have HLEN := Lib.hid hlen
  clear h hn hlen
  go_enter Try.func69, Try.ntmps69
  go_wp2_with fail
  go_loopw [1, 6] (fun nv av wr => ∃ (cur a : Nat) (ds : List Nat), nv = .int .u64 (cur : Nat) ∧ av = .int .i64 (a : Nat) ∧ Hid (a ≤ 9 ∧ cur < 128 ^ a ∧ encHi cur ++ ds = enc n) ∧ Dig wr W.heap.size a ds ∧ Below W.heap.size W wr) (fun nv _ _ => (intOf nv).toNat)
  case atStart =>
    refine ⟨n / 128, 9, [n % 128], by go_num, rfl, Lib.hid ⟨Nat.le_refl _, ?_, ?_⟩, ⟨_, heap_alloc_new W _, rfl, rfl, ?_⟩, (Below.refl _ W).alloc (Nat.le_refl _) _⟩
    · have := HN.out; omega
    · unfold enc; rfl
    · intro i x hi
      cases i with
      | zero => simp at hi; subst hi; rfl
      | succ i => simp at hi
  case round =>
    obtain ⟨cur, a, ds, rfl, rfl, HP, HD, HB⟩ := hrel
    by_cases hc : 0 < cur
    · have hc' : (0 : Int) < (cur : Int) := by omega
      obtain ⟨b, rfl⟩ : ∃ b, a = b + 1 := by
        have h1 := HP.out.2.1
        cases a with
        | zero => simp at h1; omega
        | succ b => exact ⟨b, rfl⟩
      have hb9 := HP.out.1
      have hb10 : b < 10 := by omega
      have hbi : (b : Int) < 10 := by omega
      obtain ⟨u, hu⟩ := HD.cell hb10
      have hz := HD.frozen b
      have e3 : IntKind.i64.wrap ((b : Int) + 1 - 1) = (b : Int) := by rw [IntKind.wrap_i64]; omega
      have e4 : IntKind.u8.wrap ((cur : Int) % 128) = (cur : Int) % 128 := by rw [IntKind.wrap_u8]; omega
      have hcur : cur < 18446744073709551616 := by
        have h1 := HP.out.2.1
        have h2 : 128 ^ (b + 1) ≤ 128 ^ 9 := Nat.pow_le_pow_right (by omega) (by omega)
        omega
      have e5 : IntKind.u64.wrap ((cur : Int) / 128) = ((cur / 128 : Nat) : Int) := by rw [IntKind.wrap_u64]; omega
      have e6 : bits .or .u8 ((cur : Int) % 128) 128 = ((cur % 128 + 128 : Nat) : Int) := by rw [u8_or128_right _ (by omega) (by omega)]; omega
      have HC := Lib.hid hc
      have H5 := Lib.hid e5
      have H6 := Lib.hid e6
      have HB10 := Lib.hid hb10
      clear hc hb9 e1 e2 hcur e5 e6
      go_wp2_with fail
      rw [H5.out, H6.out]
      have hpow : cur / 128 < 128 ^ b := by
        have h1 := HP.out.2.1
        rw [Nat.pow_succ] at h1
        exact Nat.div_lt_of_lt_mul (by rw [Nat.mul_comm]; exact h1)
      refine ⟨⟨cur / 128, b, (cur % 128 + 128) :: ds, rfl, rfl, Lib.hid ⟨by omega, hpow, ?_⟩, HD.put HB10.out _, HB.setCell (Nat.le_refl _) _⟩, ?_⟩
      · rw [← HP.out.2.2, encHi_step HC.out, List.append_assoc]; rfl
      · have := HC.out
        simp [intOf]; omega
    · obtain rfl : cur = 0 := by omega
      have ha := HP.out.1
      have ha2 : (a : Int) ≤ 10 := by omega
      have ha3 : ¬ 10 = a := by omega
      have hgt := HW.out.lt
      have HPUT := Lib.hid (put_any B g (10 - a) (10 - a) (some ⟨W.heap.size, a, none⟩) bs ds wr (HW.out.next HB) HD.src HD.len (by have := HLEN.out; omega))
      have HE := Lib.hid (show ds = enc n by have := HP.out.2.2; rwa [encHi_zero, List.nil_append] at this)
      have HBelow := Lib.hid (Wrote.ofBelow (B := B) (g := g) HB (Nat.le_trans HW.out.1 (Nat.le_of_lt HW.out.lt)) HW.out.lt)
      clear HD ha hc e1 e2 hgt HB
      go_wp2_with (go_at_call 79; refine HPUT.out.mono ?_; rintro e w2 ⟨rfl, hW2, hO2⟩)
      go_ret
      exact ⟨rfl, by rw [← HE.out]; exact hW2, HBelow.out.trans hO2⟩
end Go.Proofs.Ytifoheodcbjapaa
namespace Go.Proofs.Ytifoheodcbjapaa
open Go.RowKit

/-- A whole number as the number that is written. -/
def zig (i : Int) : Nat := if i < 0 then (2 * (-(i + 1)) + 1).toNat else (2 * i).toNat

theorem enc_len (n : Nat) (hn : n < 18446744073709551616) : (enc n).length ≤ 10 := by
  have h : ∀ (k m : Nat), m < 128 ^ k → (encHi m).length ≤ k := by
    intro k
    induction k with
    | zero => intro m hm; obtain rfl : m = 0 := by simpa using hm
              rw [encHi_zero]; simp
    | succ k ih =>
      intro m hm
      by_cases h0 : m = 0
      · subst h0; rw [encHi_zero]; simp
      · rw [encHi_step (by omega), List.length_append]
        have := ih (m / 128) (Nat.div_lt_of_lt_mul (by rw [Nat.mul_comm, ← Nat.pow_succ]; exact hm))
        simp; omega
  have := h 9 (n / 128) (by omega)
  unfold enc
  simp; omega

theorem wtext_any (B g m c : Nat) (A : Option Addr) (bs cs : List Nat) (W : World) (h : Wtr W B g bs) (hm : cs.length = m) (hlen : bs.length + m + 10 ≤ 140737488355328)
    (hkeep : ∀ W', Wrote B g W W' → Src W' A m (u8s cs)) :
    Calls Try.prog 80 #[.pointer (some ⟨g, 0, none⟩), .slice A m c] W fun e W' => e = .returned (.pointer (some ⟨g, 0, none⟩)) ∧ Wtr W' B g (bs ++ enc m ++ cs) ∧ Wrote B g W W' := by
  have hmlt : m < 18446744073709551616 := by omega
  have hel := enc_len m hmlt
  have HN := Lib.hid (wnum_any B g m bs W h hmlt (by omega))
  have e3 : IntKind.u64.wrap (m : Int) = (m : Int) := by rw [IntKind.wrap_u64]; omega
  have HP := Lib.hid (fun (W1 : World) (hW : Wtr W1 B g (bs ++ enc m)) (hO : Wrote B g W W1) => put_any B g m c A (bs ++ enc m) cs W1 hW (hkeep W1 hO) hm (by rw [List.length_append]; omega))
  clear h hm hlen hmlt hel hkeep
  go_enter Try.func80, Try.ntmps80
  go_wp2_with (first | (go_at_call 69; refine HN.out.mono ?_; rintro e w2 ⟨rfl, hW2, hO2⟩; have HP2 := Lib.hid (HP.out w2 hW2 hO2); clear HP hW2) | (go_at_call 79; refine HP2.out.mono ?_; rintro e w3 ⟨rfl, hW3, hO3⟩))
  go_ret
  exact ⟨rfl, hW3, hO2.trans hO3⟩
end Go.Proofs.Ytifoheodcbjapaa
namespace Go.Proofs.Ytifoheodcbjapaa
open Go.RowKit

theorem slice_nil (d : Nat) (A : Option Addr) (n c : Nat) (w : World) : (Op.equalIn (d + 1) 38 (.slice A n c) (.slice none 0 0)).run Try.prog w = .ok A.isNone w := by
  cases A <;> simp [Op.equalIn, run_underlying Try.underlying38]
theorem slice_eq (A : Option Addr) (n c : Nat) (w : World) : (binOp .eql 38 (.slice A n c) (.slice none 0 0)).run Try.prog w = .ok (.bool A.isNone) w := by
  have h : (Op.equal 38 (.slice A n c) (.slice none 0 0)).run Try.prog w = .ok A.isNone w := slice_nil 9999 A n c w
  simp only [binOp]
  simp [h]

theorem clone_nil (W : World) : Calls Try.prog 71 #[.slice none 0 0] W fun e W' => e = .returned (.slice none 0 0) ∧ W = W' := by
  have hq := slice_eq
  go_enter Try.func71, Try.ntmps71
  go_wp2
  go_ret
  exact ⟨rfl, rfl⟩
theorem clone_some (W : World) (a : Addr) (n c : Nat) (bs : List Nat) (hs : Src W (some a) n (u8s bs)) (hn : bs.length = n) (hlen : n ≤ 140737488355328) :
    Calls Try.prog 71 #[.slice (some a) n c] W fun e W' => ∃ v', e = .returned v' ∧ W'.ownsRow W.heap.size 5 1 v' n (u8s bs) ∧ Below W.heap.size W W' := by
  have hq := slice_eq
  have HS1 := Lib.hid (show Src (W.alloc (.cells #[] 5)) (some a) n (u8s bs) from hs.below ((Below.refl _ W).alloc (Nat.le_refl _) _))
  have HO1 := Lib.hid (World.ownsRow_made (base := W.heap.size) (e := 5) (size := 1) W #[] 0 (Nat.le_refl _) (by simp [maxLen]) rfl)
  go_enter Try.func71, Try.ntmps71
  go_wp2_with (first | (refine wpList_append_u8 _ rfl _ _ rfl W.heap.size (.slice (some ⟨W.heap.size, 0, none⟩) 0 0) 0 [] rfl HO1.out (some a) n c (u8s bs) rfl (by rw [u8s_len, hn]) HS1.out (u8s_one bs) (by omega) (by simp) ?_; intro v' W1 hown1 hgrow _hloc))
  go_ret
  refine ⟨v', rfl, ?_, ?_⟩
  · rw [Nat.zero_add, List.nil_append] at hown1
    exact hown1
  · have b1 : Below W.heap.size W (W.alloc (.cells #[] 5)) := (Below.refl _ W).alloc (Nat.le_refl _) _
    exact b1.trans ⟨hgrow.os, hgrow.tape, hgrow.output, hgrow.size, fun k hk => hgrow.block k (by simp; omega) (by simp [Value.ownBlock]; omega)⟩

/-- The writer's Bytes: a copy, in a row of its own. -/
theorem bytes_any (B g : Nat) (bs : List Nat) (W : World) (h : Wtr W B g bs) (hlen : bs.length ≤ 140737488355328) :
    Calls Try.prog 50 #[.pointer (some ⟨g, 0, none⟩)] W fun e W' => ∃ v', e = .returned v' ∧ W'.ownsRow W.heap.size 5 1 v' bs.length (u8s bs) ∧ Below W.heap.size W W' := by
  obtain ⟨hB, v, hv, hown⟩ := h
  have c0 := row_cell hv 0
  have z0 := row_frozen hv 0
  have HC := Lib.hid (show Calls Try.prog 71 #[v] W fun e W' => ∃ v', e = .returned v' ∧ W'.ownsRow W.heap.size 5 1 v' bs.length (u8s bs) ∧ Below W.heap.size W W' by
    obtain ⟨hl, ⟨rfl, h0⟩ | ⟨k, cap, cur, rfl, hk, hh, hnc, hm, hsz, hcs⟩⟩ := id hown
    · have hb0 : bs = [] := List.length_eq_zero_iff.1 h0
      subst hb0
      refine (clone_nil W).mono ?_
      rintro e W' ⟨rfl, rfl⟩
      exact ⟨_, rfl, World.ownsRow_nil _ _ _ _, Below.refl _ _⟩
    · exact clone_some W ⟨k, 0, none⟩ bs.length cap bs (Or.inl ⟨_, rfl, hown.cells rfl⟩) rfl hlen)
  clear hv hown
  go_enter Try.func50, Try.ntmps50
  go_wp2_with (go_at_call 71; refine HC.out.mono ?_; rintro e W1 ⟨v', rfl, ho, hb⟩)
  go_ret
  exact ⟨v', rfl, ho, hb⟩
end Go.Proofs.Ytifoheodcbjapaa
namespace Go.Proofs.Ytifoheodcbjapaa
open Go.RowKit

set_option maxHeartbeats 1000000 in
theorem wnum_nil (n : Nat) (W : World) (hn : n < 18446744073709551616) :
    Calls Try.prog 69 #[.pointer none, .int .u64 (n : Nat)] W fun e W' => e = .returned (.pointer none) ∧ Below W.heap.size W W' := by
  have e1 : IntKind.u8.wrap ((n : Int) % 128) = (n : Int) % 128 := by rw [IntKind.wrap_u8]; omega
  have e2 : IntKind.u64.wrap ((n : Int) / 128) = (n : Int) / 128 := by rw [IntKind.wrap_u64]; omega
  have HN := Lib.hid hn
  clear hn
  go_enter Try.func69, Try.ntmps69
  go_wp2_with fail
  go_loopw [1, 6] (fun nv av wr => ∃ (cur a : Nat) (ds : List Nat), nv = .int .u64 (cur : Nat) ∧ av = .int .i64 (a : Nat) ∧ Hid (a ≤ 9 ∧ cur < 128 ^ a ∧ encHi cur ++ ds = enc n) ∧ Dig wr W.heap.size a ds ∧ Below W.heap.size W wr) (fun nv _ _ => (intOf nv).toNat)
  case atStart =>
    refine ⟨n / 128, 9, [n % 128], by go_num, rfl, Lib.hid ⟨Nat.le_refl _, ?_, ?_⟩, ⟨_, heap_alloc_new W _, rfl, rfl, ?_⟩, (Below.refl _ W).alloc (Nat.le_refl _) _⟩
    · have := HN.out; omega
    · unfold enc; rfl
    · intro i x hi
      cases i with
      | zero => simp at hi; subst hi; rfl
      | succ i => simp at hi
  case round =>
    obtain ⟨cur, a, ds, rfl, rfl, HP, HD, HB⟩ := hrel
    by_cases hc : 0 < cur
    · have hc' : (0 : Int) < (cur : Int) := by omega
      obtain ⟨b, rfl⟩ : ∃ b, a = b + 1 := by
        have h1 := HP.out.2.1
        cases a with
        | zero => simp at h1; omega
        | succ b => exact ⟨b, rfl⟩
      have hb9 := HP.out.1
      have hb10 : b < 10 := by omega
      have hbi : (b : Int) < 10 := by omega
      obtain ⟨u, hu⟩ := HD.cell hb10
      have hz := HD.frozen b
      have e3 : IntKind.i64.wrap ((b : Int) + 1 - 1) = (b : Int) := by rw [IntKind.wrap_i64]; omega
      have e4 : IntKind.u8.wrap ((cur : Int) % 128) = (cur : Int) % 128 := by rw [IntKind.wrap_u8]; omega
      have hcur : cur < 18446744073709551616 := by
        have h1 := HP.out.2.1
        have h2 : 128 ^ (b + 1) ≤ 128 ^ 9 := Nat.pow_le_pow_right (by omega) (by omega)
        omega
      have e5 : IntKind.u64.wrap ((cur : Int) / 128) = ((cur / 128 : Nat) : Int) := by rw [IntKind.wrap_u64]; omega
      have e6 : bits .or .u8 ((cur : Int) % 128) 128 = ((cur % 128 + 128 : Nat) : Int) := by rw [u8_or128_right _ (by omega) (by omega)]; omega
      have HC := Lib.hid hc
      have H5 := Lib.hid e5
      have H6 := Lib.hid e6
      have HB10 := Lib.hid hb10
      clear hc hb9 e1 e2 hcur e5 e6
      go_wp2_with fail
      rw [H5.out, H6.out]
      have hpow : cur / 128 < 128 ^ b := by
        have h1 := HP.out.2.1
        rw [Nat.pow_succ] at h1
        exact Nat.div_lt_of_lt_mul (by rw [Nat.mul_comm]; exact h1)
      refine ⟨⟨cur / 128, b, (cur % 128 + 128) :: ds, rfl, rfl, Lib.hid ⟨by omega, hpow, ?_⟩, HD.put HB10.out _, HB.setCell (Nat.le_refl _) _⟩, ?_⟩
      · rw [← HP.out.2.2, encHi_step HC.out, List.append_assoc]; rfl
      · have := HC.out
        simp [intOf]; omega
    · obtain rfl : cur = 0 := by omega
      have ha := HP.out.1
      have ha2 : (a : Int) ≤ 10 := by omega
      have ha3 : ¬ 10 = a := by omega
      have HBelow := Lib.hid HB
      clear HD ha hc e1 e2 HB
      go_wp2_with (go_at_call 79; refine (put_nil _ _).mono ?_; rintro e w2 ⟨rfl, rfl⟩)
      go_ret
      exact ⟨rfl, HBelow.out⟩

theorem wtext_nil (m c : Nat) (A : Option Addr) (W : World) (hm : m < 9223372036854775808) :
    Calls Try.prog 80 #[.pointer none, .slice A m c] W fun e W' => e = .returned (.pointer none) ∧ Below W.heap.size W W' := by
  have HN := Lib.hid (wnum_nil m W (by omega))
  have e3 : IntKind.u64.wrap (m : Int) = (m : Int) := by rw [IntKind.wrap_u64]; omega
  clear hm
  go_enter Try.func80, Try.ntmps80
  go_wp2_with (first | (go_at_call 69; refine HN.out.mono ?_; rintro e w2 ⟨rfl, hO2⟩) | (go_at_call 79; refine (put_nil _ _).mono ?_; rintro e w3 ⟨rfl, rfl⟩))
  go_ret
  exact ⟨rfl, hO2⟩
theorem bytes_nil (W : World) : Calls Try.prog 50 #[.pointer none] W fun e W' => e = .returned (.slice none 0 0) ∧ W = W' := by
  go_enter Try.func50, Try.ntmps50
  go_wp2
  go_ret
  exact ⟨rfl, rfl⟩
end Go.Proofs.Ytifoheodcbjapaa
