/-
wire: the writer's Float and Vector, of a writer and of nil.
-/
import Derived.Test.YtgnfachjobohoaaGreatRead9
import Derived.Test.YtgnfachjobohoaaGreatWrite
namespace Go.Proofs.YtgnfachjobohoaaGreat
open Go.RowKit

/-- The bytes of a float so far, in an array of eight: behind i of them, from the last one on. -/
def FlA (W : World) (d k i : Nat) : Prop :=
  ∃ L : List Value, W.heap[d]? = some (.cells L.toArray 136 (0, 0)) ∧ L.length = 8 ∧ ∀ j, j < 8 → 8 ≤ j + i → L[j]? = some (.int .u8 ((be8 k)[j]?.getD 0 : Nat))
theorem FlA.cell {W : World} {d k i : Nat} (h : FlA W d k i) {j : Nat} (hj : j < 8) : ∃ v, W.cell? ⟨d, j, none⟩ = some v := by
  obtain ⟨L, hh, hL, _⟩ := h
  exact ⟨L[j]'(by omega), by rw [row_cell hh j, List.getElem?_toArray, List.getElem?_eq_getElem]⟩
theorem FlA.frozen {W : World} {d k i : Nat} (h : FlA W d k i) (j : Nat) : W.frozen? ⟨d, j, none⟩ = false := by
  obtain ⟨L, hh, _⟩ := h
  exact row_frozen hh j
theorem FlA.put {W : World} {d k i : Nat} (h : FlA W d k i) (hi : i < 8) {x : Nat} (hx : x = (be8 k)[7 - i]?.getD 0) : FlA (W.setCell ⟨d, 7 - i, none⟩ (.int .u8 (x : Nat))) d k (i + 1) := by
  obtain ⟨L, hh, hL, hp⟩ := h
  refine ⟨L.set (7 - i) (.int .u8 (x : Nat)), ?_, by simp [hL], fun j h1 h2 => ?_⟩
  · simp [World.setCell, Array.getElem?_modify, hh]
  · by_cases hj : j = 7 - i
    · subst hj; rw [List.getElem?_set_self (by omega), hx]
    · rw [List.getElem?_set_ne (by omega)]
      exact hp j h1 (by omega)
theorem FlA.src {W : World} {d k : Nat} (h : FlA W d k 8) : Src W (some ⟨d, 0, none⟩) 8 (u8s (be8 k)) := by
  obtain ⟨L, hh, hL, hp⟩ := h
  refine Or.inl ⟨_, rfl, fun j u hj => ?_⟩
  obtain ⟨x, h1, rfl⟩ := u8s_get hj
  have hlt : j < 8 := by
    rcases Nat.lt_or_ge j 8 with h2 | h2
    · exact h2
    · rw [List.getElem?_eq_none (by rw [be8_len]; exact h2)] at h1; cases h1
  rw [add_plain, Nat.zero_add, row_cell hh, List.getElem?_toArray, hp j hlt (by omega), h1]; rfl
theorem be8_at (k i : Nat) (hi : i < 8) : (be8 k)[7 - i]?.getD 0 = k / 256 ^ i % 256 := by
  unfold be8
  rw [List.getElem?_map, List.getElem?_range (by omega)]
  show k / 256 ^ (7 - (7 - i)) % 256 = _
  rw [show 7 - (7 - i) = i by omega]
theorem shr_at (k i : Nat) : ((k : Int) / 2 ^ (8 * i) % 256) = ((k / 256 ^ i % 256 : Nat) : Int) := by
  rw [show (256 : Nat) ^ i = 2 ^ (8 * i) by rw [Nat.pow_mul]]
  simp

set_option maxHeartbeats 1000000 in
theorem wfloat_gen (p : Value) (b : Nat) (hb : b < 18446744073709551616) (W : World) (Q : World → Prop)
    (HP : ∀ (W1 : World) (d : Nat), Below W.heap.size W W1 → Src W1 (some ⟨d, 0, none⟩) 8 (u8s (encF b)) → Calls Tryz.prog 79 #[p, .slice (some ⟨d, 0, none⟩) 8 8] W1 fun e W' => e = .returned p ∧ Q W') :
    Calls Tryz.prog 84 #[p, .float .f64 b] W fun e W' => e = .returned p ∧ Q W' := by
  have HK := Lib.hid (fun w => tkey_any b w hb)
  have HPP := Lib.hid HP
  have HKL := Lib.hid (Num.key_lt hb)
  clear HP hb
  unfold encF at HPP
  obtain ⟨k, hk⟩ : ∃ k, k = Num.key b := ⟨_, rfl⟩
  rw [← hk] at HK HPP HKL
  clear hk
  go_enter Tryz.func84, Tryz.ntmps84
  go_wp2_with (go_at_call 100; refine (HK.out _).mono ?_; rintro e w1 ⟨rfl, rfl⟩)
  go_loopw [10] (fun i wr => ∃ j : Nat, j ≤ 8 ∧ i = .int .i64 j ∧ FlA wr W.heap.size k j ∧ Below W.heap.size W wr) (fun i _ => 8 - (intOf i).toNat)
  case atStart => exact ⟨0, Nat.zero_le _, rfl, ⟨_, heap_alloc_new W _, rfl, fun j h1 h2 => by omega⟩, (Below.refl _ W).alloc (Nat.le_refl _) _⟩
  case round =>
    obtain ⟨j, hj, rfl, HF, HB⟩ := hrel
    have HFF := Lib.hid HF
    have HBB := Lib.hid HB
    by_cases hlt : j < 8
    · have h1 : (j : Int) < 8 := by omega
      obtain ⟨u, hu⟩ := HF.cell (j := 7 - j) (by omega)
      have hz := HF.frozen (7 - j)
      have e1 : IntKind.i64.wrap (7 - (j : Int)) = ((7 - j : Nat) : Int) := by rw [IntKind.wrap_i64]; omega
      have e2 : IntKind.i64.wrap (8 * (j : Int)) = 8 * (j : Int) := by rw [IntKind.wrap_i64]; omega
      clear HF HB
      go_wp2_with fail
      refine ⟨⟨j + 1, by omega, by go_num, ?_, HBB.out.setCell (Nat.le_refl _) _⟩, by simp [intOf]; omega⟩
      rw [shr_at]
      exact HFF.out.put hlt (be8_at k j hlt).symm
    · obtain rfl : j = 8 := by omega
      have HP2 := Lib.hid (HPP.out wr W.heap.size HB HF.src)
      obtain ⟨Lc, hh, hLc, _⟩ := HF
      clear HB hlt HPP
      go_wp2_with (go_at_call 79; refine HP2.out.mono ?_; rintro e w2 ⟨rfl, hQ⟩)
      go_ret
      exact ⟨rfl, hQ⟩

/-- What is left as it was: all blocks but g, and rows of bytes. -/
def Keeps (g : Nat) (W W' : World) : Prop := W.heap.size ≤ W'.heap.size ∧ ∀ k, k < W.heap.size → k ≠ g → NoRow W k → W'.heap[k]? = W.heap[k]?

set_option maxHeartbeats 4000000 in
theorem wvector_gen (p : Value) (f : Nat → Nat) (hf : ∀ i, f i < 4294967296) (g : Nat) (W : World) (hg : g < W.heap.size) (Q : List Nat → World → Prop)
    (H0 : ∀ (W1 : World), Below W.heap.size W W1 → Q [] W1)
    (HN : ∀ (W1 : World) (l : List Nat) (n : Nat), l.length ≤ 12 → Q l W1 → n < 4294967296 → Calls Tryz.prog 51 #[p, .int .u64 (n : Nat)] W1 fun e W' => e = .returned p ∧ Q (l ++ [n]) W' ∧ Keeps g W1 W') :
    Calls Tryz.prog 52 #[p, .agg (vl f).toArray] W fun e W' => e = .returned p ∧ Q (topV f 12 :: trimV f) W' := by
  have HF := Lib.hid hf
  have HNN := Lib.hid HN
  have HQ0 := Lib.hid (H0 _ ((Below.refl _ W).alloc (Nat.le_refl _) (.cells (vl f).toArray 24)))
  have HB0 := Lib.hid (Blk.new W 24 (vl f).toArray)
  clear hf HN H0
  go_enter Tryz.func52, Tryz.ntmps52
  go_wp2_with fail
  go_loopw [5] (fun i wr => ∃ j : Nat, j ≤ 12 ∧ i = .int .i64 j ∧ topV f j = topV f 12 ∧ wr = W.alloc (.cells (vl f).toArray 24)) (fun i _ => (intOf i).toNat)
  case atStart => exact ⟨12, Nat.le_refl _, rfl, rfl, rfl⟩
  case round =>
    obtain ⟨j, hj, rfl, HT, rfl⟩ := hrel
    cases j with
    | zero =>
      have HTT := Lib.hid (show topV f 12 = 0 from HT.symm)
      have HQ1 := Lib.hid (show Calls Tryz.prog 51 #[p, .int .u64 0] (W.alloc (.cells (vl f).toArray 24)) fun e W' => e = .returned p ∧ Q [0] W' ∧ Keeps g (W.alloc (.cells (vl f).toArray 24)) W' from HNN.out _ [] 0 (by simp) HQ0.out (by omega))
      have hB0 := HB0.out
      unfold Blk at hB0
      clear HT HQ0 HNN HF
      go_wp2_with (go_at_call 51; refine HQ1.out.mono ?_; rintro e w2 ⟨rfl, hQ, hK⟩; have hB2 : Blk w2 W.heap.size 24 (vl f).toArray := (hK.2 W.heap.size (by simp) (by omega) (by intro cur m; rw [HB0.out]; simp)).trans HB0.out; clear hK HB0 HQ1)
      go_loopw [26] (fun i wr => i = .int .i64 0 ∧ Q [0] wr) (fun _ _ => 0)
      case atStart => exact ⟨rfl, hQ⟩
      case round =>
        clear hQ hB2
        obtain ⟨rfl, hQ⟩ := hrel
        go_wp2_with fail
        go_ret
        refine ⟨rfl, ?_⟩
        unfold trimV
        rw [HTT.out]
        exact hQ
    | succ m =>
      obtain ⟨j, hjm⟩ : ∃ j : Nat, j = m + 1 := ⟨_, rfl⟩
      rw [← hjm] at HT hj ⊢
      have hj1 : 0 < j := by omega
      have hm12 : m < 12 := by omega
      have cm := HB0.out.cell m
      rw [List.getElem?_toArray, vl_get hm12] at cm
      have em : IntKind.i64.wrap ((j : Int) - 1) = (m : Int) := by rw [IntKind.wrap_i64]; omega
      have hm1 : (m : Int) < 12 := by omega
      by_cases h0 : f m = 0
      case pos =>
        have HT2 : topV f m = topV f 12 := by rw [← HT, hjm]; conv => rhs; unfold topV; rw [if_pos h0]
        have h0' : ((f m : Int) == 0) = true := by simp; omega
        clear h0 HT
        go_wp2_with fail
        exact ⟨⟨m, by omega, rfl, HT2, trivial⟩, by simp [intOf]; omega⟩
      replace HT : j = topV f 12 := by rw [← HT, hjm]; conv => rhs; unfold topV; rw [if_neg h0]
      have h0' : ((f m : Int) == 0) = false := by simp; omega
      clear h0 hjm
      have HQ1 := Lib.hid (HNN.out _ [] j (by simp) HQ0.out (by omega))
      have hj' : (j : Int) ≤ 12 := by omega
      have ej : IntKind.u64.wrap (j : Int) = (j : Int) := by rw [IntKind.wrap_u64]; omega
      have HTT := Lib.hid HT
      have HBLK : ∀ w2, Keeps g (W.alloc (.cells (vl f).toArray 24)) w2 → Blk w2 W.heap.size 24 (vl f).toArray := fun w2 hK => (hK.2 W.heap.size (by simp) (by omega) (by intro cur m; rw [HB0.out]; simp)).trans HB0.out
      have HBL := Lib.hid HBLK
      clear HT HBLK HQ0
      go_wp2_with (go_at_call 51; refine HQ1.out.mono ?_; rintro e w2 ⟨rfl, hQ, hK⟩; have hB2 := HBL.out w2 hK; clear hK HBL HB0 HQ1)
      go_loopw [26] (fun i wr => ∃ k : Nat, k ≤ j ∧ i = .int .i64 k ∧ Q (j :: (List.range k).map f) wr ∧ Blk wr W.heap.size 24 (vl f).toArray) (fun i _ => j - (intOf i).toNat)
      case atStart => exact ⟨0, Nat.zero_le _, rfl, hQ, hB2⟩
      case round =>
        clear hQ hB2
        (try clear hj1); (try clear hj0); (try clear h0')
        obtain ⟨k, hk, rfl, hQ, hB⟩ := hrel
        by_cases hlt : k < j
        · have hk12 : k < 12 := by omega
          have ck := hB.cell k
          rw [List.getElem?_toArray, vl_get hk12] at ck
          have hfk := HF.out k
          have HN2 := Lib.hid (HNN.out wr (j :: (List.range k).map f) (f k) (by simp; omega) hQ hfk)
          have ew : IntKind.u64.wrap (f k : Int) = (f k : Int) := by rw [IntKind.wrap_u64]; omega
          have HB := Lib.hid hB
          clear hB hQ hfk
          go_wp2_with (go_at_call 51; refine HN2.out.mono ?_; rintro e w3 ⟨rfl, hQ3, hK3⟩; have HB3 := Lib.hid (show Blk w3 W.heap.size 24 (vl f).toArray from (hK3.2 W.heap.size HB.out.lt (by omega) (by intro cur m; rw [HB.out]; simp)).trans HB.out); clear hK3 HN2)
          go_roundw
          case rel => exact ⟨k + 1, by omega, by go_num, by rw [List.range_succ, List.map_append]; exact hQ3, HB3.out⟩
          case measure => simp [intOf]; omega
        · obtain rfl : k = j := by omega
          clear hlt
          go_wp2_with fail
          go_ret
          refine ⟨rfl, ?_⟩
          unfold trimV
          rw [← HTT.out]
          exact hQ
theorem noRow_row {W : World} {B g : Nat} {bs : List Nat} (h : Wtr W B g bs) {k : Nat} (hn : NoRow W k) : some k ≠ rowOf W g := by
  obtain ⟨_, v, hv, hown⟩ := h
  rw [rowOf_of hv]
  exact row_of hown hn
theorem Wrote.keeps {B g : Nat} {W W' : World} {bs : List Nat} (h : Wrote B g W W') (hW : Wtr W B g bs) : Keeps g W W' := ⟨h.1.size, fun k hk hkg hn => h.2.1 k hk hkg (noRow_row hW hn)⟩
theorem Keeps.below {g : Nat} {W W' : World} (h : Below W.heap.size W W') : Keeps g W W' := ⟨h.size, fun k hk _ _ => h.block k hk⟩
theorem encs_len : ∀ (l : List Nat), (∀ x ∈ l, x < 4294967296) → (encs l).length ≤ 10 * l.length
  | [], _ => by simp [encs]
  | x :: l, h => by
    have h1 := enc_len x (by have := h x (by simp); omega)
    have h2 := encs_len l fun y hy => h y (by simp [hy])
    simp only [encs, List.flatMap_cons, List.length_append, List.length_cons] at h2 ⊢
    omega
theorem encV_len (f : Nat → Nat) (hf : ∀ i, f i < 4294967296) : (encV f).length ≤ 130 := by
  have h1 := topV_le f 12
  have h2 := enc_len (topV f 12) (by omega)
  have h3 := encs_len (trimV f) (by intro x hx; simp [trimV] at hx; obtain ⟨i, _, rfl⟩ := hx; exact hf i)
  rw [trimV_len] at h3
  unfold encV
  rw [List.length_append]; omega

theorem wfloat_any (B g b : Nat) (bs : List Nat) (W : World) (h : Wtr W B g bs) (hb : b < 18446744073709551616) (hlen : bs.length + 10 ≤ 140737488355328) :
    Calls Tryz.prog 84 #[.pointer (some ⟨g, 0, none⟩), .float .f64 b] W fun e W' => e = .returned (.pointer (some ⟨g, 0, none⟩)) ∧ Wtr W' B g (bs ++ encF b) ∧ Wrote B g W W' :=
  wfloat_gen _ b hb W (fun W' => Wtr W' B g (bs ++ encF b) ∧ Wrote B g W W') fun W1 d hB hS =>
    (put_any B g 8 8 _ bs (encF b) W1 (h.next hB) hS (by unfold encF; exact be8_len _) (by omega)).mono fun e W' ⟨h1, h2, h3⟩ => ⟨h1, h2, (Wrote.ofBelow hB (Nat.le_trans h.1 (Nat.le_of_lt h.lt)) h.lt).trans h3⟩
theorem wfloat_nil (b : Nat) (W : World) (hb : b < 18446744073709551616) :
    Calls Tryz.prog 84 #[.pointer none, .float .f64 b] W fun e W' => e = .returned (.pointer none) ∧ Below W.heap.size W W' :=
  wfloat_gen _ b hb W (fun W' => Below W.heap.size W W') fun W1 _ hB _ =>
    (put_nil _ W1).mono fun _ _ ⟨h1, h2⟩ => ⟨h1, h2 ▸ hB⟩
theorem wvector_any (B g : Nat) (f : Nat → Nat) (bs : List Nat) (W : World) (h : Wtr W B g bs) (hf : ∀ i, f i < 4294967296) (hlen : bs.length + 200 ≤ 140737488355328) :
    Calls Tryz.prog 52 #[.pointer (some ⟨g, 0, none⟩), .agg (vl f).toArray] W fun e W' => e = .returned (.pointer (some ⟨g, 0, none⟩)) ∧ Wtr W' B g (bs ++ encV f) ∧ Wrote B g W W' := by
  refine (wvector_gen _ f hf g W h.lt (fun l W' => (∀ x ∈ l, x < 4294967296) ∧ Wtr W' B g (bs ++ encs l) ∧ Wrote B g W W') ?_ ?_).mono ?_
  · intro W1 hB
    exact ⟨by simp, by simpa [encs] using h.next hB, Wrote.ofBelow hB (Nat.le_trans h.1 (Nat.le_of_lt h.lt)) h.lt⟩
  · intro W1 l n hl ⟨hx, hW, hO⟩ hn
    have hel := encs_len l hx
    refine (wnum_any B g n (bs ++ encs l) W1 hW (by omega) (by rw [List.length_append]; omega)).mono ?_
    rintro e W' ⟨h1, h2, h3⟩
    refine ⟨h1, ⟨?_, by simpa [encs] using h2, hO.trans h3⟩, h3.keeps hW⟩
    intro x hxx
    rcases List.mem_append.1 hxx with h4 | h4
    · exact hx x h4
    · rw [List.mem_singleton.1 h4]; exact hn
  · rintro e W' ⟨h1, _, h2, h3⟩
    exact ⟨h1, by simpa [encV, encs] using h2, h3⟩
theorem wvector_nil (f : Nat → Nat) (W : World) (hf : ∀ i, f i < 4294967296) (h0 : 0 < W.heap.size) :
    Calls Tryz.prog 52 #[.pointer none, .agg (vl f).toArray] W fun e W' => e = .returned (.pointer none) ∧ Below W.heap.size W W' :=
  (wvector_gen _ f hf 0 W h0 (fun _ W' => Below W.heap.size W W') (fun W1 hB => hB) fun W1 l n _ hB hn =>
    (wnum_nil n W1 (by omega)).mono fun e W' ⟨h1, h2⟩ => ⟨h1, hB.trans (h2.mono hB.size), Keeps.below h2⟩)
end Go.Proofs.YtgnfachjobohoaaGreat
