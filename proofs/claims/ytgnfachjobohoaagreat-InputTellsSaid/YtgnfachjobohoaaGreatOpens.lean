/-
Vectors, dots and slices of vectors that came in.
WireShort holds: of any two numbers the bytes are from one to ten; of the lesser one they are no more, and, if as many, they are the lesser ones. No condition.
put: a part is written; the bytes that the document asks.
Parts that came in.
put, of any part, by a writer and by nil; Great.
-/
import Derived.Test.YtgnfachjobohoaaGreatCalls
import Derived.Test.YtgnfachjobohoaaGreatLaw
import Derived.Deep.Slices
import Derived.Lib.SmallJoins
import Derived.Test.YtgnfachjobohoaaGreatAlive2
import Derived.Deep.Fields
import Derived.ChangeSame
namespace Go.Proofs.YtgnfachjobohoaaGreat
open Go.ChangeShapes Go.WideShapes Go.ChangeAt Go.RowKit

theorem laid_out : laidOutB Tryz.prog = true := by kernel_rfl
theorem own_knob : ownKnob Tryz.prog.godebug = none := by kernel_rfl
theorem cells_u32 : Tryz.prog.cellsOf 22 = 1 := by kernel_rfl
theorem cells_vec : Tryz.prog.cellsOf 24 = 12 := by kernel_rfl

theorem bound_u64 {a : Int} (h : (Lit.int .u64 a).wf = true) : ∃ n : Nat, a = (n : Nat) ∧ n < 18446744073709551616 := by
  have := bounds_u64 h
  exact ⟨a.toNat, by omega, by omega⟩
section
variable {H : Type} {enc : TypeId × Value → H} {w : World}

def cellNat : Option Value → Nat
  | some (.int .u32 n) => n.toNat % 4294967296
  | _ => 0
theorem cellNat_lt (o : Option Value) : cellNat o < 4294967296 := by
  unfold cellNat; split <;> omega

theorem vec_of {cs : List Value} (hl : cs.length = 12) (h : ∀ i, i < 12 → ∃ n : Int, cs[i]? = some (.int .u32 n) ∧ 0 ≤ n ∧ n < 4294967296) : ∃ f : Nat → Nat, cs = vl f ∧ ∀ i, f i < 4294967296 := by
  refine ⟨fun i => cellNat cs[i]?, ?_, fun i => cellNat_lt _⟩
  apply List.ext_getElem?
  intro i
  by_cases hi : i < 12
  · obtain ⟨n, e, h0, h1⟩ := h i hi
    rw [vl_get hi, e]
    have : ((cellNat (some (.int .u32 n)) : Nat) : Int) = n := by
      show ((n.toNat % 4294967296 : Nat) : Int) = n
      omega
    rw [this]
  · rw [List.getElem?_eq_none (by omega), List.getElem?_eq_none (by rw [vl_len]; omega)]

set_option maxRecDepth 100000 in
theorem vec_trod {base fuel : Nat} {sp : Nat → Bool} {hd : Bool} {cs : List Value} {x : DataW H × List MemPlace} (h : DataW.trod enc Tryz.prog w base sp hd fuel 24 cs = some x) : ∃ f : Nat → Nat, cs = vl f ∧ ∀ i, f i < 4294967296 := by
  obtain ⟨xs, m, _, _, hlen, hx, hg⟩ := DataW.trod_array Tryz.underlying24 h
  rw [cells_vec] at hlen
  refine vec_of hlen fun i hi => ?_
  have h1 := hg i hi
  rw [cells_u32, Nat.mul_one, List.drop_eq_getElem_cons (by omega), List.take_succ_cons, List.take_zero] at h1
  have h2 : xs[i]? = some (xs[i]'(by omega)) := List.getElem?_eq_getElem (by omega)
  rw [h2] at h1
  obtain ⟨n, e, _, hw⟩ := DataW.trod_int Tryz.underlying22 h1
  have hb := bounds_u32 hw
  refine ⟨n, ?_, by omega, by omega⟩
  rw [List.getElem?_eq_getElem (by omega)]
  rw [(List.cons.inj e).1]

theorem okWide_array {P : Program} {w : World} {r : Reach} {base : Nat} {t e : TypeId} {n : Nat} {v : Value} (ht : P.underlying t = some (.array n e)) (h : Value.okWide P w r base t v) : ∃ cs, v = .agg cs ∧ cs.size = P.cellsOf t := by
  simp only [Value.okWide, ht] at h
  obtain ⟨cs, h1, h2, _⟩ := h
  exact ⟨cs, h1, h2⟩

set_option maxRecDepth 100000 in
theorem open_vec {r : Reach} {b0 base : Nat} {sp : Nat → Bool} {hd : Bool} {v : Value} {d : DataW H} {p : List MemPlace} (hv : Value.okWide Tryz.prog w r b0 24 v) (h : DataW.Trod enc Tryz.prog w base sp hd 24 v d p) :
    ∃ f : Nat → Nat, v = .agg (vl f).toArray ∧ ∀ i, f i < 4294967296 := by
  obtain ⟨cs, rfl, _⟩ := okWide_array Tryz.underlying24 hv
  obtain ⟨fuel, hf⟩ := h
  obtain ⟨f, e, hb⟩ := vec_trod hf
  refine ⟨f, ?_, hb⟩
  rw [← e]; rfl

end
end Go.Proofs.YtgnfachjobohoaaGreat
namespace Go.Proofs.YtgnfachjobohoaaGreat
open Go.ChangeShapes Go.WideShapes Go.ChangeAt Go.RowKit

theorem encHi_len_le : ∀ (m n : Nat), n ≤ m → (encHi n).length ≤ (encHi m).length := by
  intro m
  induction m using Nat.strongRecOn with
  | _ m ih =>
    intro n h
    by_cases h0 : n = 0
    · subst h0; rw [encHi_zero]; simp
    · rw [encHi_step (n := n) (by omega), encHi_step (n := m) (by omega), List.length_append, List.length_append]
      have := ih (m / 128) (by omega) (n / 128) (by omega)
      simp; omega
theorem enc_len_le {n m : Nat} (h : n ≤ m) : (enc n).length ≤ (enc m).length := by
  have := encHi_len_le (m / 128) (n / 128) (by omega)
  unfold enc; simp; omega
theorem enc_pos (n : Nat) : 1 ≤ (enc n).length := by unfold enc; simp

/-- The lesser of as many bytes. -/
def ltB : List Nat → List Nat → Bool
  | [], [] => false
  | [], _ :: _ => true
  | _ :: _, [] => false
  | x :: a, y :: b => decide (x < y) || (decide (x = y) && ltB a b)
theorem ltB_app : ∀ (a b c d : List Nat), a.length = b.length → ltB a b = true → ltB (a ++ c) (b ++ d) = true
  | [], [], _, _, _, h => by simp [ltB] at h
  | [], _ :: _, _, _, hl, _ => by simp at hl
  | _ :: _, [], _, _, hl, _ => by simp at hl
  | x :: a, y :: b, c, d, hl, h => by
    simp only [ltB, List.cons_append, Bool.or_eq_true, Bool.and_eq_true, decide_eq_true_eq] at h ⊢
    rcases h with h | ⟨h1, h2⟩
    · exact Or.inl h
    · exact Or.inr ⟨h1, ltB_app a b c d (by simpa using hl) h2⟩
theorem ltB_same : ∀ (a c d : List Nat), ltB c d = true → ltB (a ++ c) (a ++ d) = true
  | [], _, _, h => h
  | x :: a, c, d, h => by
    simp only [ltB, List.cons_append, Bool.or_eq_true, Bool.and_eq_true, decide_eq_true_eq]
    exact Or.inr ⟨trivial, ltB_same a c d h⟩
theorem encHi_lt : ∀ (m n : Nat), n < m → (encHi n).length = (encHi m).length → ltB (encHi n) (encHi m) = true := by
  intro m
  induction m using Nat.strongRecOn with
  | _ m ih =>
    intro n h hl
    by_cases h0 : n = 0
    · subst h0
      rw [encHi_zero, encHi_step (n := m) (by omega)] at hl
      simp at hl
    · rw [encHi_step (n := n) (by omega), encHi_step (n := m) (by omega)] at hl ⊢
      simp only [List.length_append, List.length_singleton, Nat.add_right_cancel_iff] at hl
      by_cases he : n / 128 = m / 128
      · rw [he]
        refine ltB_same _ _ _ ?_
        simp [ltB]; omega
      · exact ltB_app _ _ _ _ hl (ih (m / 128) (by omega) (n / 128) (by omega) hl)
theorem enc_lt_lt {n m : Nat} (h : n < m) (hl : (enc n).length = (enc m).length) : ltB (enc n) (enc m) = true := by
  unfold enc at hl ⊢
  simp only [List.length_append, List.length_singleton, Nat.add_right_cancel_iff] at hl
  by_cases he : n / 128 = m / 128
  · rw [he]
    refine ltB_same _ _ _ ?_
    simp [ltB]; omega
  · exact ltB_app _ _ _ _ hl (encHi_lt _ _ (by omega) hl)

theorem bytesLess_ltB : ∀ (a b : List Nat), (∀ x ∈ a, x < 256) → (∀ x ∈ b, x < 256) → ltB a b = true → Op.bytesLess (a.map UInt8.ofNat) (b.map UInt8.ofNat) = true
  | [], [], _, _, h => by simp [ltB] at h
  | [], _ :: _, _, _, _ => by simp [Op.bytesLess]
  | _ :: _, [], _, _, h => by simp [ltB] at h
  | x :: a, y :: b, ha, hb, h => by
    have hx := ha x (by simp)
    have hy := hb y (by simp)
    simp only [ltB, Bool.or_eq_true, Bool.and_eq_true, decide_eq_true_eq] at h
    rw [List.map_cons, List.map_cons, Op.bytesLess]
    rcases h with h | ⟨h1, h2⟩
    · have : UInt8.ofNat x < UInt8.ofNat y := by rw [UInt8.lt_iff_toNat_lt]; simp; omega
      simp [this]
    · subst h1
      have := bytesLess_ltB a b (fun z hz => ha z (by simp [hz])) (fun z hz => hb z (by simp [hz])) h2
      simp [this]
theorem bytes_ltB {a b : List Nat} (ha : ∀ x ∈ a, x < 256) (hb : ∀ x ∈ b, x < 256) (h : ltB a b = true) : Op.bytesLess (bstr a).toList (bstr b).toList = true := by
  rw [ByteArray.toList_eq, ByteArray.toList_eq, bstr_lit, bstr_lit]
  exact bytesLess_ltB a b ha hb h

end Go.Proofs.YtgnfachjobohoaaGreat
namespace Go.Proofs.YtgnfachjobohoaaGreat
open Go.RowKit

/-- A part's cells. -/
def partC (k i mo : Int) (n : Nat) (bv : Value) (f : Nat → Nat) : List Value := [.int .i64 k, .int .i64 i, .int .i64 mo, .int .u64 (n : Nat), bv] ++ vl f
section
variable {k i mo : Int} {n : Nat} {bv : Value} {f : Nat → Nat}
theorem partC_0 : (partC k i mo n bv f)[0]? = some (.int .i64 k) := rfl
theorem partC_1 : (partC k i mo n bv f)[1]? = some (.int .i64 i) := rfl
theorem partC_2 : (partC k i mo n bv f)[2]? = some (.int .i64 mo) := rfl
theorem partC_3 : (partC k i mo n bv f)[3]? = some (.int .u64 (n : Nat)) := rfl
theorem partC_4 : (partC k i mo n bv f)[4]? = some bv := rfl
theorem partC_5 (j : Nat) : (partC k i mo n bv f)[5 + j]? = (vl f)[j]? := by
  unfold partC; rw [List.getElem?_append_right (by simp)]; simp
theorem partC_len : (partC k i mo n bv f).length = 17 := by unfold partC; rw [List.length_append, vl_len]; rfl
end
attribute [irreducible] partC
theorem part_range {W : World} {g : Nat} {t : TypeId} {k i mo : Int} {n : Nat} {bv : Value} {f : Nat → Nat} (h : Blk W g t (partC k i mo n bv f).toArray) : W.rangeAt g 5 (vl f) := by
  intro j v hv
  rw [h.cell, List.getElem?_toArray, partC_5, hv]

/-- What put hands back, and what it leaves. -/
def PutPost (p : Value) (Q : World → Prop) (bs : List Nat) (e : Ending) (W' : World) : Prop := ∃ v W2, e = .returned (.tuple #[p, v]) ∧ Q W2 ∧ Made W2 W' v bs

section
variable (p : Value) (i mo : Int) (n : Nat) (bv : Value) (f : Nat → Nat) (W : World) (Q : World → Prop)

end
end Go.Proofs.YtgnfachjobohoaaGreat
namespace Go.Proofs.YtgnfachjobohoaaGreat
open Go.ChangeShapes Go.WideShapes Go.ChangeAt Go.RowKit

/-- A part of a statement's input. -/
structure PartR where
  (k i mo : Int)
  (n : Nat)
  (A : Option Addr)
  (m c : Nat)
  (bs : List Nat)
  (f : Nat → Nat)
def PartR.cells (p : PartR) : List Value := partC p.k p.i p.mo p.n (.slice p.A p.m p.c) p.f
/-- The bytes that are written of it. -/
def PartR.bytes (p : PartR) : List Nat :=
  if p.k = 0 ∨ p.k = 5 then enc p.n else if p.k = 1 then enc (zig p.i) else if p.k = 2 then enc p.m ++ p.bs else if p.k = 3 then encF p.n else if p.k = 4 then encV p.f else []
structure PartR.Ok (W : World) (L : Nat) (p : PartR) : Prop where
  k1 : -9223372036854775808 ≤ p.k
  k2 : p.k ≤ 9223372036854775807
  i1 : -9223372036854775808 ≤ p.i
  i2 : p.i ≤ 9223372036854775807
  mo1 : -9223372036854775808 ≤ p.mo
  mo2 : p.mo ≤ 9223372036854775807
  n1 : p.n < 18446744073709551616
  f1 : ∀ i, p.f i < 4294967296
  len : p.bs.length = p.m
  cap : p.m ≤ p.c
  cap2 : p.c ≤ 9223372036854775807
  byte : ∀ x ∈ p.bs, x < 256
  cell : p.bs = [] ∨ ∃ b o, p.A = some ⟨b, o, none⟩ ∧ b < L ∧ ∀ (i x : Nat), p.bs[i]? = some x → W.cell? ⟨b, o + i, none⟩ = some (.int .u8 (x : Nat))
  none : p.A = Option.none → p.bs = []
theorem PartR.Ok.next {W W' : World} {L : Nat} {p : PartR} (h : p.Ok W L) (hb : Below L W W') : p.Ok W' L :=
  { h with cell := h.cell.imp id fun ⟨b, o, e, h1, h2⟩ => ⟨b, o, e, h1, fun i x hx => (hb.cell (p := ⟨b, o + i, Option.none⟩) h1).trans (h2 i x hx)⟩ }
theorem PartR.Ok.src {W : World} {L : Nat} {p : PartR} (h : p.Ok W L) : Src W p.A p.m (u8s p.bs) := by
  rcases h.cell with h0 | ⟨b, o, e, h1, h2⟩
  · cases hA : p.A with
    | none => exact Or.inr ⟨rfl, by have := h.len; rw [h0] at this; simpa using this.symm, by rw [h0]; rfl⟩
    | some a => exact Or.inl ⟨a, rfl, fun j u hj => by rw [h0] at hj; simp [u8s] at hj⟩
  · refine Or.inl ⟨_, e, fun j u hj => ?_⟩
    obtain ⟨x, h3, rfl⟩ := u8s_get hj
    rw [add_plain]
    exact h2 j x h3

section
variable {H : Type} {enc : TypeId × Value → H} {w : World}

theorem open_bytes_cells {base fuel : Nat} {sp : Nat → Bool} {hd : Bool} {cs : List Value} {x : DataW H × List MemPlace} (h : DataW.trod enc Tryz.prog w base sp hd fuel 28 cs = some x) (hlt : ∀ y ∈ x.2, y.block < w.heap.size) (hsp : ∀ b, sp b = true) :
    ∃ (A : Option Addr) (m c : Nat) (bs : List Nat), cs = [.slice A m c] ∧ bs.length = m ∧ m ≤ c ∧ c ≤ 9223372036854775807 ∧ (∀ x ∈ bs, x < 256) ∧ ByR w A bs ∧ (A = none → bs = []) := by
  rcases open_ints Tryz.underlying28 Tryz.underlying5 (by kernel_rfl) h with ⟨hcs, _⟩ | ⟨a, len, cap, zs, hcs, _, hl, hm, hz, hx, hcell, hwz⟩
  · exact ⟨none, 0, 0, [], hcs, rfl, Nat.le_refl _, by omega, by simp, Or.inl rfl, fun _ => rfl⟩
  · rw [hsp, if_pos rfl] at hz
    obtain ⟨ns, hns⟩ := nats_of (zs := zs) (fun n hn => (bounds_u8 (hwz n hn)).1)
    have h256 : ∀ x ∈ ns, x < 256 := by
      intro x hx
      have := bounds_u8 (hwz x (by rw [hns]; exact List.mem_map.2 ⟨x, hx, rfl⟩))
      omega
    have hnl : ns.length = cap := by rw [← hz, hns, List.length_map]
    unfold maxLen at hm
    refine ⟨some a, len, cap, ns.take len, hcs, by rw [List.length_take]; omega, hl, by omega, fun x hx => h256 x (List.mem_of_mem_take hx), ?_, fun e => by cases e⟩
    by_cases h0 : len = 0
    · left; rw [h0]; rfl
    · right
      obtain ⟨b, off, rfl, hc'⟩ := ints_at hcell (by omega)
      have hin : MemPlace.cell b off ∈ x.2 := by
        rw [hx]
        obtain ⟨n, hn⟩ : ∃ n, zs.length = n + 1 := ⟨zs.length - 1, by omega⟩
        simp only [hn]
        simp [MemPlace.row, List.range_succ_eq_map]
      refine ⟨b, off, rfl, hlt _ hin, fun i x hx1 => ?_⟩
      rw [List.getElem?_take] at hx1
      by_cases hil : i < len
      · rw [if_pos hil] at hx1
        have hi : i < zs.length := by
          have := (List.getElem?_eq_some_iff.1 hx1).1
          omega
        have := hc' i hi
        rw [this]
        subst hns
        have hg : (List.map (fun n : Nat => (n : Int)) ns).getD i 0 = (x : Int) := by rw [List.getD_eq_getElem?_getD, List.getElem?_map, hx1]; rfl
        rw [hg]
      · rw [if_neg hil] at hx1; cases hx1
theorem six_cells {cs v : List Value} {a b c d e : Value} (hl : cs.length = 17) (h0 : (cs.drop 0).take 1 = [a]) (h1 : (cs.drop 1).take 1 = [b]) (h2 : (cs.drop 2).take 1 = [c]) (h3 : (cs.drop 3).take 1 = [d]) (h4 : (cs.drop 4).take 1 = [e]) (h5 : (cs.drop 5).take 12 = v) : cs = [a, b, c, d, e] ++ v := by
  match cs, hl with
  | x0 :: x1 :: x2 :: x3 :: x4 :: r, hl =>
    simp only [List.drop_zero, List.drop_succ_cons, List.take_succ_cons, List.take_zero, List.cons.injEq, and_true] at h0 h1 h2 h3 h4 h5
    rw [List.take_of_length_le (by simp at hl; omega)] at h5
    rw [h0, h1, h2, h3, h4, h5]; rfl

theorem cells_one : Tryz.prog.cellsOf 3 = 1 ∧ Tryz.prog.cellsOf 25 = 1 ∧ Tryz.prog.cellsOf 28 = 1 := ⟨by kernel_rfl, by kernel_rfl, by kernel_rfl⟩

/-- Parts in a row. -/
def Parts (w : World) (A : Option Addr) (ps : List PartR) : Prop :=
  ps = [] ∨ ∃ b o, A = some ⟨b, o, none⟩ ∧ b < w.heap.size ∧ ∀ i, (hi : i < ps.length) → w.rangeAt b (o + i * 17) (ps[i].cells)
theorem Parts.next {w w' : World} {A : Option Addr} {ps : List PartR} (h : Parts w A ps) (hb : Below w.heap.size w w') : Parts w' A ps := by
  refine h.imp id ?_
  rintro ⟨b, o, e, h1, h2⟩
  exact ⟨b, o, e, Nat.lt_of_lt_of_le h1 hb.size, fun i hi => range_below (h2 i hi) hb h1⟩

end
end Go.Proofs.YtgnfachjobohoaaGreat
namespace Go.Proofs.YtgnfachjobohoaaGreat
open Go.RowKit

theorem noRow_blk {W : World} {k : Nat} {t : TypeId} {cs : Array Value} (h : Blk W k t cs) (ht : t ≠ 5) : NoRow W k := by
  intro cur m e
  unfold Blk at h
  rw [h] at e
  simp only [Option.some.injEq, Obj.cells.injEq] at e
  exact ht e.2.1
theorem bytes_num {p : PartR} (h : p.k = 0 ∨ p.k = 5) : p.bytes = enc p.n := by unfold PartR.bytes; rw [if_pos h]
theorem bytes_int {p : PartR} (h : p.k = 1) : p.bytes = enc (zig p.i) := by unfold PartR.bytes; rw [if_neg (by omega), if_pos h]
theorem bytes_text {p : PartR} (h : p.k = 2) : p.bytes = enc p.m ++ p.bs := by unfold PartR.bytes; rw [if_neg (by omega), if_neg (by omega), if_pos h]
theorem bytes_float {p : PartR} (h : p.k = 3) : p.bytes = encF p.n := by unfold PartR.bytes; rw [if_neg (by omega), if_neg (by omega), if_neg (by omega), if_pos h]
theorem bytes_vector {p : PartR} (h : p.k = 4) : p.bytes = encV p.f := by unfold PartR.bytes; rw [if_neg (by omega), if_neg (by omega), if_neg (by omega), if_neg (by omega), if_pos h]
theorem bytes_none {p : PartR} (h0 : p.k ≠ 0) (h1 : p.k ≠ 1) (h2 : p.k ≠ 2) (h3 : p.k ≠ 3) (h4 : p.k ≠ 4) (h5 : p.k ≠ 5) : p.bytes = [] := by
  unfold PartR.bytes; rw [if_neg (by omega), if_neg (by omega), if_neg (by omega), if_neg (by omega), if_neg (by omega)]
theorem zig_len {p : PartR} {W : World} {L : Nat} (h : p.Ok W L) : zig p.i < 18446744073709551616 := zig_lt h.i1 h.i2
theorem encF_len (b : Nat) : (encF b).length = 8 := be8_len _
theorem bytes_len {p : PartR} {W : World} {L : Nat} (h : p.Ok W L) (hm : p.m ≤ 500) : p.bytes.length ≤ 510 := by
  unfold PartR.bytes
  split
  · have := enc_len p.n h.n1; omega
  · split
    · have := enc_len _ (zig_len h); omega
    · split
      · have := enc_len p.m (by omega); rw [List.length_append, h.len]; omega
      · split
        · rw [encF_len]; omega
        · split
          · have := encV_len p.f h.f1; omega
          · simp
theorem bytes_lt {p : PartR} {W : World} {L : Nat} (h : p.Ok W L) : ∀ x ∈ p.bytes, x < 256 := by
  unfold PartR.bytes
  intro x hx
  split at hx
  · exact enc_lt _ x hx
  · split at hx
    · exact enc_lt _ x hx
    · split at hx
      · rcases List.mem_append.1 hx with h1 | h1
        · exact enc_lt _ x h1
        · exact h.byte x h1
      · split at hx
        · exact be8_lt _ x hx
        · split at hx
          · exact encV_lt _ x hx
          · cases hx

/-- Is a part too much? -/
def greatB (p : PartR) : Bool := decide (500 < p.m)
end Go.Proofs.YtgnfachjobohoaaGreat
