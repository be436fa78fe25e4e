/-
Bytes: rows of them that a call made, bytes that came in, bytes as strings; in a namespace of its own, for seats that lack wire.
-/
import Derived.Test.YtifoheodcbjapaaRows
import Derived.Test.YtifoheodcbjapaaAppend
import Derived.Test.YtifoheodcbjapaaVec
import Derived.Test.YtifoheodcbjapaaLaw
import Derived.Lib.Hide
import Derived.Lib.SlBytesRow
import Derived.Laws.IdiomStrings
import Derived.Lib.BufferRead
import Derived.Deep.RegionWith
import Derived.Laws.Bits128
import Derived.OneCell
import Derived.Deep.Slices
import Derived.Lib.SlBytesConst
namespace Go.Proofs.Ytifoheodcbjapaa
namespace Byt
open Go.ChangeShapes Go.WideShapes Go.ChangeAt Go.RowKit
set_option linter.unusedSimpArgs false
set_option linter.unusedVariables false

def u8s (bs : List Nat) : List Value := bs.map fun (x : Nat) => Value.int .u8 (x : Int)
theorem u8s_app (a b : List Nat) : u8s (a ++ b) = u8s a ++ u8s b := by simp [u8s]
theorem u8s_len (a : List Nat) : (u8s a).length = a.length := by simp [u8s]
theorem u8s_one (a : List Nat) : ∀ u ∈ u8s a, u.oneCell' = true := by
  intro u hu
  obtain ⟨x, _, rfl⟩ := List.mem_map.1 hu
  rfl
theorem add_plain (b o j : Nat) : (⟨b, o, none⟩ : Addr).add j = ⟨b, o + j, none⟩ := by unfold Addr.add; split <;> simp_all
theorem u8s_get {ds : List Nat} {j : Nat} {u : Value} (h : (u8s ds)[j]? = some u) : ∃ x : Nat, ds[j]? = some x ∧ u = .int .u8 (x : Nat) := by
  unfold u8s at h
  rw [List.getElem?_map, Option.map_eq_some_iff] at h
  obtain ⟨x, h1, h2⟩ := h
  exact ⟨x, h1, h2.symm⟩
theorem slice_of {W : World} {B n : Nat} {v : Value} {xs : List Value} (h : W.ownsRow B 5 1 v n xs) : ∃ A c, v = .slice A n c := by
  obtain ⟨_, ⟨rfl, rfl⟩ | ⟨g, cap, cur, rfl, _⟩⟩ := h
  · exact ⟨none, 0, rfl⟩
  · exact ⟨_, cap, rfl⟩
theorem info_u8 : ∃ i z, Try.prog.info? 5 = some i ∧ i.zero = some z ∧ i.size = 1 ∧ i.bytes = 1 ∧ z.cells.size = 1 := by
  have h : ((Try.prog.info? 5).bind fun i => i.zero.map fun z => (i.size, i.bytes, z.cells.size)) = some (1, 1, 1) := by kernel_rfl
  cases hi : Try.prog.info? 5 with
  | none => rw [hi] at h; cases h
  | some i =>
    rw [hi] at h
    simp only [Option.bind_some, Option.map_eq_some_iff, Prod.mk.injEq] at h
    obtain ⟨z, hz, h1, h2, h3⟩ := h
    exact ⟨i, z, rfl, hz, h1, h2, h3⟩
/-- An append of bytes onto a row of bytes that a call made. -/
theorem wp_append_u8 {o : Oper} {a : Act} {K : Act → World → Prop} {Q : Exit → Act → World → Prop} (w : World) (s x : Operand)
    (ho : o.op = .call { callee := .builtin .append, args := #[s, x], argTypes := #[38, 38] }) (base : Nat)
    (v : Value) (n : Nat) (xs : List Value) (hs : a.eval s = v) (hown : w.ownsRow base 5 1 v n xs)
    (A : Option Addr) (m c : Nat) (news : List Value) (hx : a.eval x = .slice A m c) (hl : news.length = m) (hsrc : Src w A m news) (h1 : ∀ u ∈ news, u.oneCell' = true)
    (hbytes : n + m ≤ 140737488355328) (hbase : base ≤ w.heap.size)
    (h : ∀ v' w', w'.ownsRow base 5 1 v' (n + m) (xs ++ news) → w.grownBy w' v.ownBlock → (v'.ownBlock = v.ownBlock ∨ v'.ownBlock = some w.heap.size) → K (a.put o.dst v') w') : Oper.wp Try.prog o a w K Q := by
  obtain ⟨i, z, hi, hz, h2, h3, h4⟩ := info_u8
  exact wp_append_src w s x 38 ho base 5 i z Try.underlying38 hi hz (by rw [h4, h2]) (by omega) v n xs hs (by rw [h2]; exact hown) A m c news hx (by rw [hl, h2, Nat.mul_one]) hsrc h1 (by unfold maxLen; omega) (by rw [h3]; omega) hbase (by rw [h2]; exact h)
theorem wpList_append_u8 {ops : Array Oper} {rest : List Oper} {o : Oper} {a : Act} {Q : Exit → Act → World → Prop} (w : World) (hgd : o.guard = none) (s x : Operand)
    (ho : o.op = .call { callee := .builtin .append, args := #[s, x], argTypes := #[38, 38] }) (base : Nat)
    (v : Value) (n : Nat) (xs : List Value) (hs : a.eval s = v) (hown : w.ownsRow base 5 1 v n xs)
    (A : Option Addr) (m c : Nat) (news : List Value) (hx : a.eval x = .slice A m c) (hl : news.length = m) (hsrc : Src w A m news) (h1 : ∀ u ∈ news, u.oneCell' = true)
    (hbytes : n + m ≤ 140737488355328) (hbase : base ≤ w.heap.size)
    (h : ∀ v' w', w'.ownsRow base 5 1 v' (n + m) (xs ++ news) → w.grownBy w' v.ownBlock → (v'.ownBlock = v.ownBlock ∨ v'.ownBlock = some w.heap.size) → wpList Try.prog ops Q rest (a.put o.dst v') w') : wpList Try.prog ops Q (o :: rest) a w :=
  wpList_plain hgd fun _ hK => wp_append_u8 w s x ho base v n xs hs hown A m c news hx hl hsrc h1 hbytes hbase fun v' w' h2 h3 h4 => hK _ _ (h v' w' h2 h3 h4)
/-- An append of bytes onto a row of bytes that a call made, as a step of a planned region. -/
theorem step_append_u8 {ops : Array Oper} {o : Oper} {a : Act} {K : Act → World → Prop} {Q : Exit → Act → World → Prop} {E : Prop} (w : World) (hw : Region.wanted o (yielded ops a.tmps) = true) (s x : Operand)
    (ho : o.op = .call { callee := .builtin .append, args := #[s, x], argTypes := #[38, 38] }) (base : Nat)
    (v : Value) (n : Nat) (xs : List Value) (hs : a.eval s = v) (hown : w.ownsRow base 5 1 v n xs)
    (A : Option Addr) (m c : Nat) (news : List Value) (hx : a.eval x = .slice A m c) (hl : news.length = m) (hsrc : Src w A m news) (h1 : ∀ u ∈ news, u.oneCell' = true)
    (hbytes : n + m ≤ 140737488355328) (hbase : base ≤ w.heap.size)
    (h : ∀ v' w', w'.ownsRow base 5 1 v' (n + m) (xs ++ news) → w.grownBy w' v.ownBlock → K (a.put o.dst v') w') : if Region.wanted o (yielded ops a.tmps) = true then Oper.wp Try.prog o a w K Q else E := by
  rw [if_pos hw]
  exact wp_append_u8 w s x ho base v n xs hs hown A m c news hx hl hsrc h1 hbytes hbase fun v' w' h2 h3 _ => h v' w' h2 h3
/-- Bytes as a string. -/
def bstr (bs : List Nat) : ByteArray := ⟨(bs.map UInt8.ofNat).toArray⟩
theorem bstr_inj {a b : List Nat} (ha : ∀ x ∈ a, x < 256) (hb : ∀ x ∈ b, x < 256) (h : bstr a = bstr b) : a = b := by
  have h1 : (a.map UInt8.ofNat) = b.map UInt8.ofNat := by
    unfold bstr at h
    simpa using h
  apply List.ext_getElem?
  intro i
  have h2 : (a.map UInt8.ofNat)[i]? = (b.map UInt8.ofNat)[i]? := by rw [h1]
  rw [List.getElem?_map, List.getElem?_map] at h2
  cases ha1 : a[i]? with
  | none => rw [ha1] at h2; cases hb1 : b[i]? with
    | none => rfl
    | some y => rw [hb1] at h2; cases h2
  | some x => cases hb1 : b[i]? with
    | none => rw [ha1, hb1] at h2; cases h2
    | some y =>
      rw [ha1, hb1] at h2
      simp only [Option.map_some, Option.some.injEq] at h2
      have h3 := congrArg UInt8.toNat h2
      have hx := ha x (List.mem_of_getElem? ha1)
      have hy := hb y (List.mem_of_getElem? hb1)
      simp at h3
      congr 1
      omega
theorem bstr_size (bs : List Nat) : (bstr bs).size = bs.length := by simp [bstr, ByteArray.size]
attribute [irreducible] bstr
theorem bstr_lit (bs : List Nat) : bstr bs = ⟨(bs.map UInt8.ofNat).toArray⟩ := by unfold bstr; rfl
theorem conv_src (W : World) (A : Option Addr) (n c : Nat) (bs : List Nat) (hs : Src W A n (u8s bs)) (hn : bs.length = n) (hb : ∀ x ∈ bs, x < 256) :
    (convert 38 9 (.slice A n c)).run Try.prog W = .ok (.string (bstr bs)) W := by
  rcases hs with ⟨ad, rfl, hc⟩ | ⟨rfl, rfl, h⟩
  · have h := run_convert_bytes_back (P := Try.prog) W 38 9 5 ad c (bs.map UInt8.ofNat) Try.underlying38 Try.underlying5 Try.underlying9 (by
      intro j hj
      have hj' : j < bs.length := by simpa using hj
      have hx := hb bs[j] (List.getElem_mem hj')
      have := hc j (.int .u8 (bs[j] : Nat)) (by unfold u8s; rw [List.getElem?_map, List.getElem?_eq_getElem hj']; rfl)
      rw [this, List.getElem_map]
      congr 2
      simp; omega)
    rw [List.length_map, hn] at h
    rw [h, bstr_lit]
  · have : bs = [] := by simpa [u8s] using h
    subst this
    rw [Lib.run_convert_nil_bytes W _ _ 5 c Try.underlying38 Try.underlying5 Try.underlying9, bstr_lit]
    rfl
/-- Bytes that may be read. -/
def ByR (W : World) (A : Option Addr) (bs : List Nat) : Prop :=
  bs = [] ∨ ∃ b p, A = some ⟨b, p, none⟩ ∧ b < W.heap.size ∧ ∀ (i x : Nat), bs[i]? = some x → W.cell? ⟨b, p + i, none⟩ = some (.int .u8 (x : Nat))
theorem ByR.next {W W' : World} {A : Option Addr} {bs : List Nat} (h : ByR W A bs) (hb : Below W.heap.size W W') : ByR W' A bs := by
  refine h.imp id ?_
  rintro ⟨b, p, e, h1, h2⟩
  exact ⟨b, p, e, Nat.lt_of_lt_of_le h1 hb.size, fun i x hx => (hb.cell (p := ⟨b, p + i, none⟩) h1).trans (h2 i x hx)⟩
theorem ByR.src {W : World} {A : Option Addr} {bs : List Nat} (h : ByR W A bs) (hA : A = none → bs = []) : Src W A bs.length (u8s bs) := by
  rcases h with rfl | ⟨b, p, rfl, h1, h2⟩
  · cases A with
    | none => exact Or.inr ⟨rfl, rfl, rfl⟩
    | some a => exact Or.inl ⟨a, rfl, fun j u hj => by simp [u8s] at hj⟩
  · refine Or.inl ⟨_, rfl, fun j u hj => ?_⟩
    obtain ⟨x, h3, rfl⟩ := u8s_get hj
    rw [add_plain]
    exact h2 j x h3
theorem own_byr {W : World} {B : Nat} {v : Value} {bs : List Nat} (h : W.ownsRow B 5 1 v bs.length (u8s bs)) : ∃ A c, v = .slice A bs.length c ∧ bs.length ≤ c ∧ ByR W A bs ∧ (A = none → bs = []) := by
  obtain ⟨hl, ⟨rfl, h0⟩ | ⟨k, cap, cur, rfl, hk, hh, hnc, hm, hsz, hcs⟩⟩ := id h
  · have hb0 : bs = [] := List.length_eq_zero_iff.1 h0
    subst hb0
    exact ⟨none, 0, rfl, Nat.le_refl _, Or.inl rfl, fun _ => rfl⟩
  · refine ⟨_, _, rfl, hnc, Or.inr ⟨k, 0, rfl, ?_, fun i x hx => ?_⟩, fun e => by cases e⟩
    · rcases Nat.lt_or_ge k W.heap.size with h1 | h1
      · exact h1
      · rw [Array.getElem?_eq_none h1] at hh; cases hh
    · have := h.cells rfl i (.int .u8 (x : Nat)) (by unfold u8s; rw [List.getElem?_map, hx]; rfl)
      rwa [add_plain] at this
section
variable {H : Type} {enc : TypeId × Value → H} {w : World}
theorem open_bytes_cells {base fuel : Nat} {sp : Nat → Bool} {hd : Bool} {cs : List Value} {x : DataW H × List MemPlace} (h : DataW.trod enc Try.prog w base sp hd fuel 38 cs = some x) (hlt : ∀ y ∈ x.2, y.block < w.heap.size) (hsp : ∀ b, sp b = true) :
    ∃ (A : Option Addr) (m c : Nat) (bs : List Nat), cs = [.slice A m c] ∧ bs.length = m ∧ m ≤ c ∧ c ≤ 9223372036854775807 ∧ (∀ x ∈ bs, x < 256) ∧ ByR w A bs ∧ (A = none → bs = []) := by
  rcases open_ints Try.underlying38 Try.underlying5 (by kernel_rfl) h with ⟨hcs, _⟩ | ⟨a, len, cap, zs, hcs, _, hl, hm, hz, hx, hcell, hwz⟩
  · exact ⟨none, 0, 0, [], hcs, rfl, Nat.le_refl _, by omega, by simp, Or.inl rfl, fun _ => rfl⟩
  · rw [hsp, if_pos rfl] at hz
    obtain ⟨ns, hns⟩ := nats_of (zs := zs) (fun n hn => (bounds_u8 (hwz n hn)).1)
    have h256 : ∀ x ∈ ns, x < 256 := by
      intro x hx
      have := bounds_u8 (hwz x (by rw [hns]; exact List.mem_map.2 ⟨x, hx, rfl⟩))
      omega
    have hnl : ns.length = cap := by rw [← hz, hns, List.length_map]
    unfold maxLen at hm
    refine ⟨some a, len, cap, ns.take len, hcs, by rw [List.length_take]; omega, hl, by omega, fun x hx => h256 x (List.mem_of_mem_take hx), ?_, fun e => by cases e⟩
    by_cases h0 : len = 0
    · left; rw [h0]; rfl
    · right
      obtain ⟨b, off, rfl, hc'⟩ := ints_at hcell (by omega)
      have hin : MemPlace.cell b off ∈ x.2 := by
        rw [hx]
        obtain ⟨n, hn⟩ : ∃ n, zs.length = n + 1 := ⟨zs.length - 1, by omega⟩
        simp only [hn]
        simp [MemPlace.row, List.range_succ_eq_map]
      refine ⟨b, off, rfl, hlt _ hin, fun i x hx1 => ?_⟩
      rw [List.getElem?_take] at hx1
      by_cases hil : i < len
      · rw [if_pos hil] at hx1
        have hi : i < zs.length := by
          have := (List.getElem?_eq_some_iff.1 hx1).1
          omega
        have := hc' i hi
        rw [this]
        subst hns
        have hg : (List.map (fun n : Nat => (n : Int)) ns).getD i 0 = (x : Int) := by rw [List.getD_eq_getElem?_getD, List.getElem?_map, hx1]; rfl
        rw [hg]
      · rw [if_neg hil] at hx1; cases hx1
set_option maxRecDepth 20000 in
/-- Bytes that came in. -/
theorem open_bytes {b0 : Nat} {r : Reach} {v : Value} {d : DataW H} {ps : List MemPlace} (hv : Value.okWide Try.prog w r b0 38 v) (h : DataW.Trod enc Try.prog w 0 (fun _ => true) true 38 v d ps) (hlt : ∀ x ∈ ps, x.block < w.heap.size) :
    ∃ (A : Option Addr) (m c : Nat) (bs : List Nat), v = .slice A m c ∧ bs.length = m ∧ m ≤ c ∧ c ≤ 9223372036854775807 ∧ (∀ x ∈ bs, x < 256) ∧ ByR w A bs ∧ (A = none → bs = []) := by
  obtain ⟨a0, len0, cap0, rfl⟩ := okWide_slice Try.underlying38 hv
  obtain ⟨fuel, hf⟩ := h
  obtain ⟨A, m, c, bs, e, h⟩ := open_bytes_cells hf hlt (fun _ => rfl)
  simp [Value.cells] at e
  obtain ⟨rfl, rfl, rfl⟩ := e
  exact ⟨_, _, _, bs, rfl, h⟩
end
end Byt
end Go.Proofs.Ytifoheodcbjapaa
