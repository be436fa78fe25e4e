/-
wire: the writer's Num.
-/
import Derived.Test.YtnoeogbihjpacaaWrite
import Derived.Laws.Bits128
namespace Go.Proofs.Ytnoeogbihjpacaa
open Go.RowKit

def encHi (n : Nat) : List Nat := if _h : n = 0 then [] else encHi (n / 128) ++ [n % 128 + 128]
termination_by n
decreasing_by omega
theorem encHi_zero : encHi 0 = [] := by unfold encHi; simp
theorem encHi_step {n : Nat} (h : 0 < n) : encHi n = encHi (n / 128) ++ [n % 128 + 128] := by
  rw [encHi, dif_neg (by omega)]
/-- A number's bytes. -/
def enc (n : Nat) : List Nat := encHi (n / 128) ++ [n % 128]
attribute [irreducible] enc

theorem Wtr.next {W W' : World} {B g : Nat} {bs : List Nat} (h : Wtr W B g bs) (hb : Below W.heap.size W W') : Wtr W' B g bs := by
  have hlt := h.lt
  obtain ⟨hB, v, hv, hl, hrow⟩ := h
  refine ⟨hB, v, (hb.block g hlt).trans hv, hl, ?_⟩
  refine hrow.imp id ?_
  rintro ⟨k, cap, cur, e, hk, hh, r⟩
  refine ⟨k, cap, cur, e, hk, (hb.block k ?_).trans hh, r⟩
  rcases Nat.lt_or_ge k W.heap.size with h1 | h1
  · exact h1
  · rw [Array.getElem?_eq_none h1] at hh; cases hh

/-- The digits so far, in an array of ten. -/
def Dig (W : World) (d a : Nat) (ds : List Nat) : Prop :=
  ∃ L : List Value, W.heap[d]? = some (.cells L.toArray 118 (0, 0)) ∧ L.length = 10 ∧ ds.length = 10 - a ∧ ∀ (i x : Nat), ds[i]? = some x → L[a + i]? = some (.int .u8 (x : Nat))
theorem Dig.cell {W : World} {d a : Nat} {ds : List Nat} (h : Dig W d a ds) {j : Nat} (hj : j < 10) : ∃ v, W.cell? ⟨d, j, none⟩ = some v := by
  obtain ⟨L, hh, hL, _⟩ := h
  refine ⟨L[j]'(by omega), ?_⟩
  rw [row_cell hh j, List.getElem?_toArray, List.getElem?_eq_getElem]
theorem Dig.frozen {W : World} {d a : Nat} {ds : List Nat} (h : Dig W d a ds) (j : Nat) : W.frozen? ⟨d, j, none⟩ = false := by
  obtain ⟨L, hh, _⟩ := h
  exact row_frozen hh j
theorem Dig.put {W : World} {d a : Nat} {ds : List Nat} (h : Dig W d (a + 1) ds) (ha : a < 10) (x : Nat) : Dig (W.setCell ⟨d, a, none⟩ (.int .u8 (x : Nat))) d a (x :: ds) := by
  obtain ⟨L, hh, hL, hl, hx⟩ := h
  refine ⟨L.set a (.int .u8 (x : Nat)), ?_, by simp [hL], by simp; omega, fun i y hy => ?_⟩
  · simp [World.setCell, Array.getElem?_modify, hh]
  · cases i with
    | zero => simp at hy; subst hy; simp [hL, ha]
    | succ i =>
      rw [List.getElem?_set_ne (by omega), show a + (i + 1) = a + 1 + i by omega]
      exact hx i y (by simpa using hy)

theorem add_plain (b o j : Nat) : (⟨b, o, none⟩ : Addr).add j = ⟨b, o + j, none⟩ := by unfold Addr.add; split <;> simp_all
theorem u8s_get {ds : List Nat} {j : Nat} {u : Value} (h : (u8s ds)[j]? = some u) : ∃ x : Nat, ds[j]? = some x ∧ u = .int .u8 (x : Nat) := by
  unfold u8s at h
  rw [List.getElem?_map, Option.map_eq_some_iff] at h
  obtain ⟨x, h1, h2⟩ := h
  exact ⟨x, h1, h2.symm⟩
theorem Dig.src {W : World} {d a : Nat} {ds : List Nat} (h : Dig W d a ds) : Src W (some ⟨d, a, none⟩) (10 - a) (u8s ds) := by
  obtain ⟨L, hh, hL, hl, hx⟩ := h
  refine Or.inl ⟨_, rfl, fun j u hj => ?_⟩
  obtain ⟨x, h1, rfl⟩ := u8s_get hj
  rw [add_plain, row_cell hh, List.getElem?_toArray]
  exact hx j x h1
theorem Dig.len {W : World} {d a : Nat} {ds : List Nat} (h : Dig W d a ds) : ds.length = 10 - a := by
  obtain ⟨L, _, _, hl, _⟩ := h
  exact hl

set_option maxHeartbeats 1000000 in
theorem wnum_any (B g n : Nat) (bs : List Nat) (W : World) (h : Wtr W B g bs) (hn : n < 18446744073709551616) (hlen : bs.length + 10 ≤ 140737488355328) :
    Calls Try.prog 19 #[.pointer (some ⟨g, 0, none⟩), .int .u64 (n : Nat)] W fun e W' => e = .returned (.pointer (some ⟨g, 0, none⟩)) ∧ Wtr W' B g (bs ++ enc n) ∧ Wrote B g W W' := by
  have HW := Lib.hid h
  have e1 : IntKind.u8.wrap ((n : Int) % 128) = (n : Int) % 128 := by rw [IntKind.wrap_u8]; omega
  have e2 : IntKind.u64.wrap ((n : Int) / 128) = (n : Int) / 128 := by rw [IntKind.wrap_u64]; omega
  have HN := Lib.hid hn
  have HLEN := Lib.hid hlen
  clear h hn hlen
  go_enter Try.func19, Try.ntmps19
  go_wp2_with fail
  go_loopw [1, 6] (fun nv av wr => ∃ (cur a : Nat) (ds : List Nat), nv = .int .u64 (cur : Nat) ∧ av = .int .i64 (a : Nat) ∧ Hid (a ≤ 9 ∧ cur < 128 ^ a ∧ encHi cur ++ ds = enc n) ∧ Dig wr W.heap.size a ds ∧ Below W.heap.size W wr) (fun nv _ _ => (intOf nv).toNat)
  case atStart =>
    refine ⟨n / 128, 9, [n % 128], by go_num, rfl, Lib.hid ⟨Nat.le_refl _, ?_, ?_⟩, ⟨_, heap_alloc_new W _, rfl, rfl, ?_⟩, (Below.refl _ W).alloc (Nat.le_refl _) _⟩
    · have := HN.out; omega
    · unfold enc; rfl
    · intro i x hi
      cases i with
      | zero => simp at hi; subst hi; rfl
      | succ i => simp at hi
  case round =>
    obtain ⟨cur, a, ds, rfl, rfl, HP, HD, HB⟩ := hrel
    by_cases hc : 0 < cur
    · have hc' : (0 : Int) < (cur : Int) := by omega
      obtain ⟨b, rfl⟩ : ∃ b, a = b + 1 := by
        have h1 := HP.out.2.1
        cases a with
        | zero => simp at h1; omega
        | succ b => exact ⟨b, rfl⟩
      have hb9 := HP.out.1
      have hb10 : b < 10 := by omega
      have hbi : (b : Int) < 10 := by omega
      obtain ⟨u, hu⟩ := HD.cell hb10
      have hz := HD.frozen b
      have e3 : IntKind.i64.wrap ((b : Int) + 1 - 1) = (b : Int) := by rw [IntKind.wrap_i64]; omega
      have e4 : IntKind.u8.wrap ((cur : Int) % 128) = (cur : Int) % 128 := by rw [IntKind.wrap_u8]; omega
      have hcur : cur < 18446744073709551616 := by
        have h1 := HP.out.2.1
        have h2 : 128 ^ (b + 1) ≤ 128 ^ 9 := Nat.pow_le_pow_right (by omega) (by omega)
        omega
      have e5 : IntKind.u64.wrap ((cur : Int) / 128) = ((cur / 128 : Nat) : Int) := by rw [IntKind.wrap_u64]; omega
      have e6 : bits .or .u8 ((cur : Int) % 128) 128 = ((cur % 128 + 128 : Nat) : Int) := by rw [u8_or128_right _ (by omega) (by omega)]; omega
      have HC := Lib.hid hc
      have H5 := Lib.hid e5
      have H6 := Lib.hid e6
      have HB10 := Lib.hid hb10
      clear hc hb9 e1 e2 hcur e5 e6
      go_wp2_with fail
      rw [H5.out, H6.out]
      have hpow : cur / 128 < 128 ^ b := by
        have h1 := HP.out.2.1
        rw [Nat.pow_succ] at h1
        exact Nat.div_lt_of_lt_mul (by rw [Nat.mul_comm]; exact h1)
      refine ⟨⟨cur / 128, b, (cur % 128 + 128) :: ds, rfl, rfl, Lib.hid ⟨by omega, hpow, ?_⟩, HD.put HB10.out _, HB.setCell (Nat.le_refl _) _⟩, ?_⟩
      · rw [← HP.out.2.2, encHi_step HC.out, List.append_assoc]; rfl
      · have := HC.out
        simp [intOf]; omega
    · obtain rfl : cur = 0 := by omega
      have ha := HP.out.1
      have ha2 : (a : Int) ≤ 10 := by omega
      have ha3 : ¬ 10 = a := by omega
      have hgt := HW.out.lt
      have HPUT := Lib.hid (put_any B g (10 - a) (10 - a) (some ⟨W.heap.size, a, none⟩) bs ds wr (HW.out.next HB) HD.src HD.len (by have := HLEN.out; omega))
      have HE := Lib.hid (show ds = enc n by have := HP.out.2.2; rwa [encHi_zero, List.nil_append] at this)
      have HBelow := Lib.hid (Wrote.ofBelow (B := B) (g := g) HB (Nat.le_trans HW.out.1 (Nat.le_of_lt HW.out.lt)) HW.out.lt)
      clear HD ha hc e1 e2 hgt HB
      go_wp2_with (go_at_call 71; refine HPUT.out.mono ?_; rintro e w2 ⟨rfl, hW2, hO2⟩)
      go_ret
      exact ⟨rfl, by rw [← HE.out]; exact hW2, HBelow.out.trans hO2⟩
end Go.Proofs.Ytnoeogbihjpacaa
