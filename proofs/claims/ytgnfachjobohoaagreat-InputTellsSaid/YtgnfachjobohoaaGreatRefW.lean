/-
The document's answers of layer 3: the bytes of numbers, whole numbers, texts, floats, vectors.
-/
import Derived.Test.YtgnfachjobohoaaGreatWrite5
namespace Go.Proofs.YtgnfachjobohoaaGreat
open Go.RowKit

/-- A call made this row of bytes, and left what was there. -/
def Made (W W' : World) (v : Value) (bs : List Nat) : Prop := W'.ownsRow W.heap.size 5 1 v bs.length (u8s bs) ∧ Below W.heap.size W W'
theorem src_own {W : World} {B : Nat} {v : Value} {bs : List Nat} (h : W.ownsRow B 5 1 v bs.length (u8s bs)) : ∃ A c, v = .slice A bs.length c ∧ Src W A bs.length (u8s bs) := by
  obtain ⟨hl, ⟨rfl, h0⟩ | ⟨k, cap, cur, rfl, hk, hh, hnc, hm, hsz, hcs⟩⟩ := id h
  · have hb0 : bs = [] := List.length_eq_zero_iff.1 h0
    subst hb0
    exact ⟨none, 0, rfl, Or.inr ⟨rfl, rfl, rfl⟩⟩
  · exact ⟨_, _, rfl, Or.inl ⟨_, rfl, h.cells rfl⟩⟩
theorem grown_below {B : Nat} {W W' : World} {v : Value} {n : Nat} {xs : List Value} (hown : W.ownsRow B 5 1 v n xs) (hg : W.grownBy W' v.ownBlock) (hB : B ≤ W.heap.size) : Below B W W' :=
  ⟨hg.os, hg.tape, hg.output, hg.size, fun k hk => hg.block k (by omega) (row_low hown hk)⟩
theorem own_le {W : World} {B B' : Nat} {v : Value} {n : Nat} {xs : List Value} (h : W.ownsRow B 5 1 v n xs) (hB : B' ≤ B) : W.ownsRow B' 5 1 v n xs := by
  obtain ⟨hl, h⟩ := h
  refine ⟨hl, h.imp id ?_⟩
  rintro ⟨g, cap, cur, e, hg, r⟩
  exact ⟨g, cap, cur, e, Nat.le_trans hB hg, r⟩
theorem own_next {W W' : World} {B : Nat} {v : Value} {n : Nat} {xs : List Value} (h : W.ownsRow B 5 1 v n xs) (hb : Below W.heap.size W W') (_hB : B ≤ W.heap.size) : W'.ownsRow B 5 1 v n xs := by
  obtain ⟨hl, h⟩ := h
  refine ⟨hl, h.imp id ?_⟩
  rintro ⟨g, cap, cur, e, hg, hh, r⟩
  refine ⟨g, cap, cur, e, hg, (hb.block g ?_).trans hh, r⟩
  rcases Nat.lt_or_ge g W.heap.size with h1 | h1
  · exact h1
  · rw [Array.getElem?_eq_none h1] at hh; cases hh
theorem own_one {W : World} {B : Nat} (c : Nat) (hB : B ≤ W.heap.size) : (W.alloc (.cells #[.int .u8 (c : Nat)] 5)).ownsRow B 5 1 (.slice (some ⟨W.heap.size, 0, none⟩) 1 1) 1 (u8s [c]) :=
  ⟨rfl, Or.inr ⟨_, 1, _, rfl, hB, heap_alloc_new W _, Nat.le_refl _, by simp [maxLen], rfl, rfl⟩⟩

set_option maxHeartbeats 1000000 in
theorem rfnum_any (n : Nat) (W : World) (hn : n < 18446744073709551616) :
    Calls Tryz.prog 46 #[.int .u64 (n : Nat)] W fun e W' => ∃ v, e = .returned v ∧ Made W W' v (enc n) := by
  have e1 : IntKind.u8.wrap ((n : Int) % 128) = ((n % 128 : Nat) : Int) := by rw [IntKind.wrap_u8]; omega
  have e2 : IntKind.u64.wrap ((n : Int) / 128) = ((n / 128 : Nat) : Int) := by rw [IntKind.wrap_u64]; omega
  have HN := Lib.hid hn
  have HL := Lib.hid (enc_len n hn)
  have HO := Lib.hid (own_one (W := W) (B := W.heap.size) (n % 128) (Nat.le_refl _))
  clear hn
  go_enter Tryz.func46, Tryz.ntmps46
  go_wp2_with fail
  go_loopw [0, 3] (fun nv ov wr => ∃ (cur : Nat) (ds : List Nat), nv = .int .u64 (cur : Nat) ∧ Hid (cur < 18446744073709551616 ∧ encHi cur ++ ds = enc n) ∧ Made W wr ov ds) (fun nv _ _ => (intOf nv).toNat)
  case atStart =>
    refine ⟨n / 128, [n % 128], ?_, Lib.hid ⟨?_, ?_⟩, ?_⟩
    · go_num
    · have := HN.out; omega
    · unfold enc; rfl
    · exact ⟨by simpa using HO.out, (Below.refl _ W).alloc (Nat.le_refl _) _⟩
  case round =>
    clear e1 e2 HO
    obtain ⟨cur, ds, rfl, HP, hM⟩ := hrel
    obtain ⟨A, c, rfl, hS⟩ := src_own hM.1
    have HM := Lib.hid hM
    clear hM
    by_cases hc : 0 < cur
    · have hc' : (0 : Int) < (cur : Int) := by omega
      have hcur := HP.out.1
      have e4 : IntKind.u64.wrap (128 + (cur : Int) % 128) = ((cur % 128 + 128 : Nat) : Int) := by rw [IntKind.wrap_u64]; omega
      have e5 : IntKind.u8.wrap ((cur % 128 + 128 : Nat) : Int) = ((cur % 128 + 128 : Nat) : Int) := by rw [IntKind.wrap_u8]; omega
      have e3 : IntKind.u64.wrap ((cur : Int) / 128) = ((cur / 128 : Nat) : Int) := by rw [IntKind.wrap_u64]; omega
      have hds : ds.length ≤ 10 := by
        have h1 := HL.out
        rw [← HP.out.2, List.length_append] at h1; omega
      have HO := Lib.hid (own_one (W := wr) (B := W.heap.size) (cur % 128 + 128) HM.out.2.size)
      have HS := Lib.hid (hS.below ((Below.refl _ wr).alloc (Nat.le_refl _) (.cells #[.int .u8 ((cur % 128 + 128 : Nat) : Int)] 5)))
      have HC := Lib.hid hc
      have HDS := Lib.hid hds
      have HZ := Lib.hid HM.out.2.size
      clear hc hS hcur hds hc'
      obtain ⟨x, hx⟩ : ∃ x, x = cur % 128 + 128 := ⟨_, rfl⟩
      rw [← hx] at e4 e5 HO HS
      have hc' : (0 : Int) < (cur : Int) := by have := HC.out; omega
      have HX := Lib.hid hx
      clear hx
      go_wp2_with (first | (refine wpList_append_u8 _ rfl _ _ rfl W.heap.size _ 1 (u8s [x]) rfl HO.out A ds.length c (u8s ds) rfl (u8s_len _) HS.out (u8s_one ds) (by have := HDS.out; omega) (by have := HZ.out; simp; omega) ?_; intro v' W1 hown1 hgrow _; have HG := Lib.hid hgrow; clear hgrow))
      refine ⟨⟨cur / 128, x :: ds, rfl, Lib.hid ⟨by have := HP.out.1; omega, ?_⟩, ?_⟩, by have := HC.out; simp [intOf]; omega⟩
      · rw [← HP.out.2, encHi_step HC.out, List.append_assoc, HX.out]; rfl
      · refine ⟨by rw [show u8s (x :: ds) = u8s [x] ++ u8s ds from rfl, List.length_cons, Nat.add_comm]; exact hown1, ?_⟩
        have b1 := (Below.refl _ wr).alloc (Nat.le_refl _) (.cells #[.int .u8 (x : Nat)] 5)
        exact (HM.out.2.trans (b1.mono HZ.out)).trans (grown_below HO.out HG.out (by have := HZ.out; simp; omega))
    · obtain rfl : cur = 0 := by omega
      clear hS hc
      go_wp2_with fail
      go_ret
      have := HP.out.2
      rw [encHi_zero, List.nil_append] at this
      exact ⟨_, rfl, this ▸ HM.out⟩

theorem rfint_any (i : Int) (W : World) (h1 : -9223372036854775808 ≤ i) (h2 : i ≤ 9223372036854775807) :
    Calls Tryz.prog 75 #[.int .i64 i] W fun e W' => ∃ v, e = .returned v ∧ Made W W' v (enc (zig i)) := by
  have HN := Lib.hid (rfnum_any (zig i) W (zig_lt h1 h2))
  by_cases hi : i < 0
  · obtain ⟨z, hz⟩ : ∃ z : Nat, (z : Int) = 2 * (-(i + 1)) + 1 := ⟨(2 * (-(i + 1)) + 1).toNat, by omega⟩
    have hz' : zig i = z := by unfold zig; rw [if_pos hi]; omega
    rw [hz'] at HN ⊢
    have e0 : ¬ (0 : Int) ≤ i := by omega
    have e1 : IntKind.i64.wrap (i + 1) = i + 1 := by rw [IntKind.wrap_i64]; omega
    have e2 : IntKind.i64.wrap (0 - (i + 1)) = -(i + 1) := by rw [IntKind.wrap_i64]; omega
    have e2' : IntKind.i64.wrap (-(i + 1)) = -(i + 1) := by rw [IntKind.wrap_i64]; omega
    have e3 : IntKind.u64.wrap (-(i + 1)) = -(i + 1) := by rw [IntKind.wrap_u64]; omega
    have e4 : IntKind.u64.wrap (2 * (-(i + 1))) = 2 * (-(i + 1)) := by rw [IntKind.wrap_u64]; omega
    have e5 : IntKind.u64.wrap (2 * (-(i + 1)) + 1) = (z : Int) := by rw [IntKind.wrap_u64]; omega
    clear h1 h2 hz hz' hi
    go_enter Tryz.func75, Tryz.ntmps75
    go_wp2_with (go_at_call 46; refine HN.out.mono ?_; rintro e w2 ⟨v, rfl, hM⟩)
    go_ret
    exact ⟨v, rfl, hM⟩
  · obtain ⟨z, hz⟩ : ∃ z : Nat, (z : Int) = 2 * i := ⟨(2 * i).toNat, by omega⟩
    have hz' : zig i = z := by unfold zig; rw [if_neg hi]; omega
    rw [hz'] at HN ⊢
    have e0 : (0 : Int) ≤ i := by omega
    have e3 : IntKind.u64.wrap i = i := by rw [IntKind.wrap_u64]; omega
    have e4 : IntKind.u64.wrap (2 * i) = (z : Int) := by rw [IntKind.wrap_u64]; omega
    clear h1 h2 hz hz' hi
    go_enter Tryz.func75, Tryz.ntmps75
    go_wp2_with (go_at_call 46; refine HN.out.mono ?_; rintro e w2 ⟨v, rfl, hM⟩)
    go_ret
    exact ⟨v, rfl, hM⟩

theorem rftext_any (A : Option Addr) (m c : Nat) (cs : List Nat) (W : World) (hm : cs.length = m) (hs : Src W A m (u8s cs)) (hlen : m + 10 ≤ 140737488355328) :
    Calls Tryz.prog 48 #[.slice A m c] W fun e W' => ∃ v, e = .returned v ∧ Made W W' v (enc m ++ cs) := by
  have HN := Lib.hid (rfnum_any m W (by omega))
  have HL := Lib.hid (enc_len m (by omega))
  have e3 : IntKind.u64.wrap (m : Int) = (m : Int) := by rw [IntKind.wrap_u64]; omega
  have HS := Lib.hid hs
  have HB := Lib.hid hlen
  have HM := Lib.hid hm
  clear hs hlen hm
  go_enter Tryz.func48, Tryz.ntmps48
  go_wp2_with (first | (go_at_call 46; refine HN.out.mono ?_; rintro e w2 ⟨v, rfl, hM⟩; have HMM := Lib.hid hM; clear hM) | (refine wpList_append_u8 _ rfl _ _ rfl W.heap.size v (enc m).length (u8s (enc m)) rfl HMM.out.1 A m c (u8s cs) rfl (by rw [u8s_len, HM.out]) (HS.out.below HMM.out.2) (u8s_one cs) (by have := HB.out; have := HL.out; omega) HMM.out.2.size ?_; intro v' W1 hown1 hgrow _; have HG := Lib.hid hgrow; clear hgrow))
  go_ret
  refine ⟨v', rfl, ?_, HMM.out.2.trans (grown_below HMM.out.1 HG.out HMM.out.2.size)⟩
  rw [u8s_app, List.length_append, HM.out]
  exact hown1
/-- The document's key of a float. -/
theorem rfkey_any (b : Nat) (w : World) (hb : b < 18446744073709551616) :
    Calls Tryz.prog 99 #[.float .f64 b] w fun e w' => e = .returned (.int .u64 (Num.key b : Nat)) ∧ w = w' := by
  have cb := call_bits
  have H := Lib.hid hb
  have h3 : (b : Int) < 18446744073709551616 := by omega
  unfold Num.key
  by_cases h : b < 9223372036854775808
  · rw [if_pos h]
    have h2 : (b : Int) < 9223372036854775808 := by omega
    clear hb h
    go_enter Tryz.func99, Tryz.ntmps99
    go_wp2
    go_ret
    exact ⟨wret_u64 (by omega), rfl⟩
  · rw [if_neg h]
    have h2 : ¬ (b : Int) < 9223372036854775808 := by omega
    clear hb h
    go_enter Tryz.func99, Tryz.ntmps99
    go_wp2
    go_ret
    exact ⟨wret_u64 (by have := H.out; omega), rfl⟩

theorem be8_drop (k i : Nat) (hi : i < 8) : (be8 k).drop (8 - (i + 1)) = (k / 256 ^ i % 256) :: (be8 k).drop (8 - i) := by
  rw [List.drop_eq_getElem_cons (by rw [be8_len]; omega)]
  have h := be8_at k i hi
  rw [show 7 - i = 8 - (i + 1) by omega, List.getElem?_eq_getElem (by rw [be8_len]; omega)] at h
  simp only [Option.getD_some] at h
  rw [h, show 8 - (i + 1) + 1 = 8 - i by omega]

set_option maxHeartbeats 1000000 in
theorem rffloat_any (b : Nat) (W : World) (hb : b < 18446744073709551616) :
    Calls Tryz.prog 76 #[.float .f64 b] W fun e W' => ∃ v, e = .returned v ∧ Made W W' v (encF b) := by
  have HK := Lib.hid (fun w => rfkey_any b w hb)
  have HKL := Lib.hid (Num.key_lt hb)
  clear hb
  unfold encF
  obtain ⟨k, hk⟩ : ∃ k, k = Num.key b := ⟨_, rfl⟩
  rw [← hk] at HK HKL ⊢
  clear hk
  go_enter Tryz.func76, Tryz.ntmps76
  go_wp2_with (go_at_call 99; refine (HK.out _).mono ?_; rintro e w1 ⟨rfl, rfl⟩)
  go_loopw [3, 4, 5] (fun kv ov i wr => ∃ j : Nat, j ≤ 8 ∧ i = .int .i64 j ∧ (∃ q : Nat, kv = .int .u64 (q : Nat) ∧ Hid (q = k / 256 ^ j)) ∧ Made W wr ov ((be8 k).drop (8 - j))) (fun _ _ i _ => 8 - (intOf i).toNat)
  case atStart => exact ⟨0, Nat.zero_le _, rfl, ⟨k, rfl, Lib.hid (by simp)⟩, by rw [List.drop_of_length_le (by rw [be8_len]; omega)]; exact ⟨World.ownsRow_nil _ _ _ _, Below.refl _ _⟩⟩
  case round =>
    obtain ⟨j, hj, rfl, ⟨q, rfl, HQ⟩, hM⟩ := hrel
    have hlen : ((be8 k).drop (8 - j)).length = j := by rw [List.length_drop, be8_len]; omega
    obtain ⟨A, c, rfl, hS⟩ := src_own hM.1
    have HM := Lib.hid hM
    clear hM
    by_cases hlt : j < 8
    · have h1 : (j : Int) < 8 := by omega
      have hq : q < 18446744073709551616 := by
        have := HKL.out
        have h2 := Nat.div_le_self k (256 ^ j)
        have := HQ.out; omega
      have e1 : IntKind.u8.wrap ((q : Int) % 256) = ((q % 256 : Nat) : Int) := by rw [IntKind.wrap_u8]; omega
      have e2 : IntKind.u64.wrap ((q : Int) / 256) = ((q / 256 : Nat) : Int) := by rw [IntKind.wrap_u64]; omega
      have HO := Lib.hid (own_one (W := wr) (B := W.heap.size) (q % 256) HM.out.2.size)
      have HS := Lib.hid (hS.below ((Below.refl _ wr).alloc (Nat.le_refl _) (.cells #[.int .u8 ((q % 256 : Nat) : Int)] 5)))
      have HZ := Lib.hid HM.out.2.size
      have HD := Lib.hid (be8_drop k j hlt)
      have HL := Lib.hid hlen
      obtain ⟨ds, hds⟩ : ∃ ds, ds = (be8 k).drop (8 - j) := ⟨_, rfl⟩
      rw [← hds] at HM HS HL HD
      rw [← hds]
      clear hS hq hlen hds
      obtain ⟨x, hx⟩ : ∃ x, x = q % 256 := ⟨_, rfl⟩
      obtain ⟨q', hq'⟩ : ∃ x, x = q / 256 := ⟨_, rfl⟩
      rw [← hx] at e1 HO HS
      rw [← hq'] at e2
      have HX := Lib.hid hx
      have HX' := Lib.hid hq'
      clear hx hq'
      go_wp2_with (first | (refine wpList_append_u8 _ rfl _ _ rfl W.heap.size _ 1 (u8s [x]) rfl HO.out A ds.length c (u8s ds) rfl (u8s_len _) HS.out (u8s_one ds) (by have := HL.out; omega) (by have := HZ.out; simp; omega) ?_; intro v' W1 hown1 hgrow _; have HG := Lib.hid hgrow; clear hgrow))
      refine ⟨⟨j + 1, by omega, by go_num, ⟨q', rfl, Lib.hid ?_⟩, ?_⟩, by simp [intOf]; omega⟩
      · rw [HX'.out, HQ.out, Nat.div_div_eq_div_mul, Nat.pow_succ]
      · rw [HD.out, ← HQ.out, ← HX.out]
        refine ⟨by rw [show u8s (x :: ds) = u8s [x] ++ u8s ds from rfl, List.length_cons, Nat.add_comm]; exact hown1, ?_⟩
        have b1 := (Below.refl _ wr).alloc (Nat.le_refl _) (.cells #[.int .u8 (x : Nat)] 5)
        exact (HM.out.2.trans (b1.mono HZ.out)).trans (grown_below HO.out HG.out (by have := HZ.out; simp; omega))
    · obtain rfl : j = 8 := by omega
      clear hS hlen
      go_wp2_with fail
      go_ret
      exact ⟨_, rfl, by simpa using HM.out⟩

/-- Behind i of the noughts' search: the last number above 0, and one more. -/
theorem topV_next (f : Nat → Nat) (k : Nat) : topV f (k + 1) = if f k = 0 then topV f k else k + 1 := rfl

set_option maxHeartbeats 4000000 in
theorem rfvector_any (f : Nat → Nat) (hf : ∀ i, f i < 4294967296) (W : World) :
    Calls Tryz.prog 45 #[.agg (vl f).toArray] W fun e W' => ∃ v, e = .returned v ∧ Made W W' v (encV f) := by
  have HF := Lib.hid hf
  have HB0 := Lib.hid (Blk.new W 24 (vl f).toArray)
  clear hf
  go_enter Tryz.func45, Tryz.ntmps45
  go_wp2_with fail
  go_loop [3, 4] (fun n i => ∃ k : Nat, k ≤ 12 ∧ i = .int .i64 k ∧ ∃ m : Nat, n = .int .i64 m ∧ Hid (m = topV f k)) (fun _ i => 12 - (intOf i).toNat)
  case atStart => exact ⟨0, Nat.zero_le _, rfl, 0, rfl, Lib.hid rfl⟩
  case round =>
    obtain ⟨k, hk, rfl, m, rfl, HM⟩ := hrel
    by_cases hlt : k < 12
    · have h1 : (k : Int) < 12 := by omega
      have c1 := HB0.out.cell k
      rw [List.getElem?_toArray, vl_get hlt] at c1
      by_cases h0 : f k = 0
      · have h0' : ¬ 0 < f k := by omega
        have HN := Lib.hid (show m = topV f (k + 1) by rw [topV_next, if_pos h0]; exact HM.out)
        clear h0
        go_wp2_with fail
        go_round
        case rel => exact ⟨k + 1, by omega, by go_num, m, rfl, HN⟩
        case measure => simp [intOf]; omega
      · have h0' : 0 < f k := by omega
        have HN := Lib.hid (show k + 1 = topV f (k + 1) by rw [topV_next, if_neg h0])
        clear h0
        go_wp2_with fail
        go_round
        case rel => exact ⟨k + 1, by omega, by go_num, k + 1, by go_num, HN⟩
        case measure => simp [intOf]; omega
    · obtain rfl : k = 12 := by omega
      have hm12 : m ≤ 12 := by have := topV_le f 12; have := HM.out; omega
      have HN := Lib.hid (rfnum_any m (W.alloc (.cells (vl f).toArray 24)) (by omega))
      have HL := Lib.hid (enc_len m (by omega))
      have ew : IntKind.u64.wrap (m : Int) = (m : Int) := by rw [IntKind.wrap_u64]; omega
      have b0 : Below W.heap.size W (W.alloc (.cells (vl f).toArray 24)) := (Below.refl _ W).alloc (Nat.le_refl _) _
      have HB := Lib.hid b0
      clear b0 hlt
      go_wp2_with (go_at_call 46; refine HN.out.mono ?_; rintro e w2 ⟨v, rfl, hM2⟩; have HM2 := Lib.hid hM2; clear hM2 HN)
      go_loopw [5, 6] (fun ov i wr => ∃ k : Nat, k ≤ m ∧ i = .int .i64 k ∧ ∃ ds : List Nat, Hid (ds = enc m ++ encs ((List.range k).map f)) ∧ Made (W.alloc (.cells (vl f).toArray 24)) wr ov ds) (fun _ i _ => m - (intOf i).toNat)
      case atStart => exact ⟨0, Nat.zero_le _, rfl, enc m, Lib.hid (by simp [encs]), HM2.out⟩
      case round =>
        clear HM2
        obtain ⟨k, hk, rfl, ds, HDS, hMM⟩ := hrel
        have HMM := Lib.hid hMM
        clear hMM
        by_cases hlt : k < m
        · have hk12 : k < 12 := by omega
          have hki : (k : Int) < 12 := by omega
          have hB := HB0.out.next HMM.out.2
          have ck := hB.cell k
          rw [List.getElem?_toArray, vl_get hk12] at ck
          have hfk := HF.out k
          have HN2 := Lib.hid (rfnum_any (f k) wr (by omega))
          have ew : IntKind.u64.wrap (f k : Int) = (f k : Int) := by rw [IntKind.wrap_u64]; omega
          have HEL := Lib.hid (enc_len (f k) (by omega))
          have hdl : ds.length ≤ 130 := by
            have h2 := encs_len ((List.range k).map f) (by intro x hx; simp at hx; obtain ⟨i, _, rfl⟩ := hx; exact HF.out i)
            have h3 := HL.out
            rw [HDS.out, List.length_append]
            simp at h2; omega
          have HDL := Lib.hid hdl
          clear hB hfk hdl
          go_wp2_with (first | (go_at_call 46; refine HN2.out.mono ?_; rintro e w3 ⟨v3, rfl, hM3⟩; obtain ⟨A3, c3, rfl, hS3⟩ := src_own hM3.1; have HS3 := Lib.hid hS3; have HM3 := Lib.hid hM3; clear hM3 hS3) | (refine wpList_append_u8 _ rfl _ _ rfl (W.alloc (.cells (vl f).toArray 24)).heap.size _ ds.length (u8s ds) rfl (own_next HMM.out.1 HM3.out.2 HMM.out.2.size) A3 (enc (f k)).length c3 (u8s (enc (f k))) rfl (u8s_len _) HS3.out (u8s_one _) (by have := HEL.out; have := HDL.out; omega) (Nat.le_trans HMM.out.2.size HM3.out.2.size) ?_; intro v' W1 hown1 hgrow _; have HG := Lib.hid hgrow; clear hgrow))
          go_roundw
          case rel =>
            refine ⟨k + 1, by omega, by go_num, ds ++ enc (f k), Lib.hid ?_, ?_, ?_⟩
            · rw [HDS.out, List.range_succ, List.map_append, List.append_assoc]; simp [encs]
            · rw [List.length_append, u8s_app]; exact hown1
            · exact (HMM.out.2.trans (HM3.out.2.mono HMM.out.2.size)).trans (grown_below (own_next HMM.out.1 HM3.out.2 HMM.out.2.size) HG.out (Nat.le_trans HMM.out.2.size HM3.out.2.size))
          case measure => simp [intOf]; omega
        · obtain rfl : k = m := by omega
          clear hlt
          go_wp2_with fail
          go_ret
          refine ⟨_, rfl, ?_, HB.out.trans (HMM.out.2.mono HB.out.size)⟩
          have h := own_le HMM.out.1 HB.out.size
          rw [show encV f = ds by rw [HDS.out]; unfold encV trimV; rw [HM.out]]
          exact h
end Go.Proofs.YtgnfachjobohoaaGreat
