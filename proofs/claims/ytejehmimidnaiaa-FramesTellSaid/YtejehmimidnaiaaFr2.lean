/-
frames: Size, Clone, Write.
-/
import Derived.Test.YtejehmimidnaiaaFr
namespace Go.Proofs.Ytejehmimidnaiaa
open Go.RowKit
open Byt
set_option linter.unusedSimpArgs false
set_option linter.unusedVariables false

theorem or_plain (a b : Nat) (i : Nat) (hb : b < 2 ^ i) : (2 ^ i * a) ||| b = 2 ^ i * a + b := (Nat.two_pow_add_eq_or_of_lt hb a).symm
theorem u32_or_plus (a b x : Nat) (i : Nat) (hx : x = 2 ^ i * a) (hb : b < 2 ^ i) (h : x + b < 4294967296) : bits .or .u32 (x : Int) (b : Int) = ((x + b : Nat) : Int) := by
  subst hx
  rw [u32_or_nat _ _ (by omega) (by omega), or_plain a b i hb]
theorem ofInt64 (a : Nat) (ha : a < 18446744073709551616) : (BitVec.ofInt 64 (a : Int)).toNat = a := by
  rw [BitVec.ofInt_natCast, BitVec.toNat_ofNat]; exact Nat.mod_eq_of_lt (by omega)
theorem i64_or_plus (a b x : Nat) (i : Nat) (hx : x = 2 ^ i * a) (hb : b < 2 ^ i) (h : x + b < 9223372036854775808) : bits .or .i64 (x : Int) (b : Int) = ((x + b : Nat) : Int) := by
  subst hx
  show IntKind.i64.wrap ((BitVec.ofInt 64 ((2 ^ i * a : Nat) : Int) ||| BitVec.ofInt 64 (b : Int)).toNat : Int) = _
  rw [BitVec.toNat_or, ofInt64 _ (by omega), ofInt64 b (by omega), or_plain a b i hb, IntKind.wrap_i64]
  omega
section
variable (W : World)
theorem size_yes (k : Int) (A : Option Addr) (n c : Nat) (h : Fr.rightB k n = true) : Calls Try.prog 13 #[.agg #[.int .i64 k, .slice A n c]] W fun e W' => e = .returned (.int .i64 ((9 + n : Nat) : Int)) ∧ Below W.heap.size W W' := by
  have hm : n ≤ 60000 := by unfold Fr.rightB at h; simp at h; omega
  have HR := Lib.hid (right_any (W.alloc (.cells #[.int .i64 k, .slice A n c] 24)) k A n c)
  rw [h] at HR
  have hb1 := (Below.refl W.heap.size W).alloc (Nat.le_refl _) (.cells #[.int .i64 k, .slice A n c] 24)
  have b1 := Blk.new W 24 #[.int .i64 k, .slice A n c]
  have e1 : wrap64 (wrap64 (4 + (n : Int)) + 5) = ((9 + n : Nat) : Int) := by unfold wrap64; omega
  have e2 : IntKind.i64.wrap (IntKind.i64.wrap (4 + (n : Int)) + 5) = ((9 + n : Nat) : Int) := by rw [IntKind.wrap_i64, IntKind.wrap_i64]; omega
  have E := Lib.hid (And.intro e1 e2)
  clear h hm e1 e2
  go_enter Try.func13, Try.ntmps13
  go_wp2_with (go_at_call 11; refine HR.out.mono ?_; rintro e w1 ⟨rfl, hb⟩; have HB := Lib.hid (hb1.trans (hb.mono hb1.size)); have c1 : w1.cell? ⟨W.heap.size, 1, none⟩ = some (.slice A n c) := (b1.next hb).cell 1; clear hb)
  go_ret
  refine ⟨?_, HB.out⟩
  simp
  exact E.out.1.trans (by simp)
theorem size_no (k : Int) (A : Option Addr) (n c : Nat) (h : Fr.rightB k n = false) : Calls Try.prog 13 #[.agg #[.int .i64 k, .slice A n c]] W fun e W' => e = .returned (.int .i64 0) ∧ Below W.heap.size W W' := by
  have HR := Lib.hid (right_any (W.alloc (.cells #[.int .i64 k, .slice A n c] 24)) k A n c)
  rw [h] at HR
  have hb1 := (Below.refl W.heap.size W).alloc (Nat.le_refl _) (.cells #[.int .i64 k, .slice A n c] 24)
  clear h
  go_enter Try.func13, Try.ntmps13
  go_wp2_with (go_at_call 11; refine HR.out.mono ?_; rintro e w1 ⟨rfl, hb⟩; have HB := Lib.hid (hb1.trans (hb.mono hb1.size)); clear hb)
  go_ret
  exact ⟨rfl, HB.out⟩
theorem bclone_any (A : Option Addr) (m c : Nat) (bs : List Nat) (hn : bs.length = m) (hs : Src W A m (u8s bs)) (hm : m ≤ 140737488355328) : Calls Try.prog 20 #[.slice A m c] W fun e W' => ∃ v, e = .returned v ∧ W'.ownsRow W.heap.size 5 1 v bs.length (u8s bs) ∧ Below W.heap.size W W' := by
  subst hn
  cases A with
  | none =>
    have hb : bs = [] := by
      rcases hs with ⟨ad, e, _⟩ | ⟨_, _, h⟩
      · cases e
      · simpa [u8s] using h
    subst hb
    have hnil : ∀ w, (binOp .eql 22 (.slice none 0 c) (.slice none 0 0)).run Try.prog w = .ok (.bool true) w := fun w => Lib.run_eql_slice_nil (P := Try.prog) w 22 5 none 0 c 0 0 Try.underlying22
    go_enter Try.func20, Try.ntmps20
    go_wp2_with fail
    go_ret
    exact ⟨_, rfl, World.ownsRow_nil _ _ _ _, Below.refl _ _⟩
  | some ad =>
    have HS := Lib.hid hs
    have hlit : (W.alloc (.cells #[] 5)).ownsRow W.heap.size 5 1 (.slice (some ⟨W.heap.size, 0, none⟩) 0 0) 0 (u8s []) := World.ownsRow_lit (base := W.heap.size) (size := 1) (e := 5) W #[] 0 (Nat.le_refl _) (by unfold maxLen; omega) rfl
    have hb1 := (Below.refl W.heap.size W).alloc (Nat.le_refl _) (.cells #[] 5)
    have hs1 := hs.below hb1
    have HM := Lib.hid hm
    have hnil : ∀ w, (binOp .eql 22 (.slice (some ad) bs.length c) (.slice none 0 0)).run Try.prog w = .ok (.bool false) w := fun w => Lib.run_eql_slice_nil (P := Try.prog) w 22 5 (some ad) bs.length c 0 0 Try.underlying22
    clear hs hm
    go_enter Try.func20, Try.ntmps20
    go_wp2_with (first | (at_builtin; refine wpList_append_u8 _ rfl _ _ rfl W.heap.size _ 0 (u8s []) rfl hlit (some ad) bs.length c (u8s bs) rfl (u8s_len _) hs1 (u8s_one _) (by have := HM.out; omega) (by simp) ?_; intro v' W1 hown hgrow hloc; have HB := Lib.hid (ownG_below hgrow hlit (Nat.le_refl _) (by simp) hb1); rw [Nat.zero_add] at hown; have HO := Lib.hid hown; obtain ⟨A', c', rfl⟩ := slice_of hown; clear hown hgrow hloc))
    go_ret
    exact ⟨_, rfl, HO.out, HB.out⟩
theorem write_no (k : Int) (A : Option Addr) (n c : Nat) (h : Fr.rightB k n = false) : Calls Try.prog 8 #[.agg #[.int .i64 k, .slice A n c]] W fun e W' => e = .returned (.tuple #[.slice none 0 0, .int .i64 3]) ∧ Below W.heap.size W W' := by
  have HR := Lib.hid (right_any (W.alloc (.cells #[.int .i64 k, .slice A n c] 24)) k A n c)
  rw [h] at HR
  have hb1 := (Below.refl W.heap.size W).alloc (Nat.le_refl _) (.cells #[.int .i64 k, .slice A n c] 24)
  clear h
  go_enter Try.func8, Try.ntmps8
  go_wp2_with (go_at_call 11; refine HR.out.mono ?_; rintro e w1 ⟨rfl, hb⟩; have HB := Lib.hid (hb1.trans (hb.mono hb1.size)); clear hb)
  go_ret2
  exact ⟨rfl, HB.out⟩
theorem make_u8 (c : Nat) (h : c ≤ 100000) : ∃ zs : Array Value, zs.size = c ∧ ∀ w : World, (Instr.makeSlice 22 (.int .i64 0) (.int .i64 (c : Int))).run Try.prog w = .ok (.slice (some ⟨w.heap.size, 0, none⟩) 0 c) (w.alloc (.cells zs 5)) := by
  obtain ⟨i, z, hi, hz, h1, h2, h3⟩ := info_u8
  refine ⟨madeCells z.cells c, size_madeCells _ _, fun w => ?_⟩
  have := run_make (P := Try.prog) w 22 5 i z Try.underlying22 hi hz .i64 .i64 0 c (Int.le_refl _) (by omega) (by rw [h2]; omega) (by omega)
  rw [this, h1]
  simp
theorem src_row {w : World} {g : Nat} {vs : Array Value} (h : Blk w g 5 vs) (n : Nat) : Src w (some ⟨g, 0, none⟩) n vs.toList := by
  refine Or.inl ⟨_, rfl, fun j u hj => ?_⟩
  rw [add_plain, Nat.zero_add, h.cell]
  simpa using hj
theorem own_ne {W : World} {B n g size : Nat} {e t : TypeId} {v : Value} {xs : List Value} {cs : Array Value} (h : W.ownsRow B e size v n xs) (hg : Blk W g t cs) (ht : t ≠ e) : some g ≠ v.ownBlock := by
  obtain ⟨_, ⟨rfl, rfl⟩ | ⟨k, cap, cur, rfl, _, hk, _⟩⟩ := h
  · simp [Value.ownBlock]
  · intro e
    simp only [Value.ownBlock, Option.some.injEq] at e
    subst e
    unfold Blk at hg
    rw [hk] at hg
    simp only [Option.some.injEq, Obj.cells.injEq] at hg
    exact ht hg.2.1.symm
theorem grown_none {w w' : World} (h : w.grownBy w' none) : Below w.heap.size w w' := (Below.refl _ _).grown h (Nat.le_refl _) (fun b hb => by cases hb)
set_option maxRecDepth 20000 in
theorem write_yes (k : Nat) (h1 : 1 ≤ k) (h2 : k < 256) (A : Option Addr) (n c : Nat) (bs : List Nat) (hn : bs.length = n) (hm : n ≤ 60000) (h : ByR W A bs) (hA : A = none → bs = []) (h256 : ∀ x ∈ bs, x < 256) :
    Calls Try.prog 8 #[.agg #[.int .i64 (k : Nat), .slice A n c]] W fun e W' => ∃ v, e = .returned (.tuple #[v, .int .i64 0]) ∧ W'.ownsRow W.heap.size 5 1 v (9 + n) (u8s (Fr.frame k bs)) ∧ Below W.heap.size W W' := by
  have hr : Fr.rightB (k : Int) n = true := by unfold Fr.rightB; simp; omega
  have HR := Lib.hid (right_any (W.alloc (.cells #[.int .i64 (k : Nat), .slice A n c] 24)) k A n c)
  rw [hr] at HR
  have hb1 := (Below.refl W.heap.size W).alloc (Nat.le_refl _) (.cells #[.int .i64 (k : Nat), .slice A n c] 24)
  have b1 := Blk.new W 24 #[.int .i64 (k : Nat), .slice A n c]
  have HH := Lib.hid (And.intro h hA)
  have H256 := Lib.hid h256
  have HRT := Lib.hid hr
  have HN := Lib.hid hn
  have HM := Lib.hid hm
  have HK := Lib.hid (And.intro h1 h2)
  clear hr h hA h256 hn hm h1 h2
  go_enter Try.func8, Try.ntmps8
  go_upto_region 3 with (go_at_call 11; refine HR.out.mono ?_; rintro e w1 ⟨rfl, hb⟩; have HB1 := Lib.hid (hb1.trans (hb.mono hb1.size)); have HX1 := Lib.hid (b1.next hb); clear hb hb1 b1 HR)
  have c0 : w1.cell? ⟨W.heap.size, 0, none⟩ = some (.int .i64 (k : Nat)) := HX1.out.cell 0
  have c1 : w1.cell? ⟨W.heap.size, 1, none⟩ = some (.slice A n c) := HX1.out.cell 1
  obtain ⟨sm, hsm⟩ : ∃ sm, sm = Crc.sum (k :: bs) := ⟨_, rfl⟩
  have HS := Lib.hid (sum_any w1.drew k HK.out.2 A c bs n HN.out HM.out ((HH.out.1.next HB1.out).next (Below.refl _ _).drew) H256.out)
  rw [← hsm] at HS
  have HSM := Lib.hid hsm
  have HS32 := Lib.hid (show sm < 4294967296 by rw [hsm]; exact Crc.sum_lt (by intro x hx; rcases List.mem_cons.1 hx with rfl | hx; exact HK.out.2; exact H256.out x hx))
  clear hsm
  refine wp_region_tree (S := (fun w' => w'.cell? ⟨W.heap.size, 0, none⟩ = some (.int .i64 (k : Nat)) ∧ w'.cell? ⟨W.heap.size, 1, none⟩ = some (.slice A n c))) (.take 0 (.take 1 (.take 2 (.take 3 (.one 4 (.take 5 (.take 6 .nil))))))) 9999 (by kernel_rfl) (by kernel_rfl) (by kernel_rfl) (by kernel_rfl) (by kernel_rfl) (fun _ _ d _ _ h => by cases d <;> exact h) ⟨c0, c1⟩ (fun hHeld => ?_); simp only [Tree.map, List.getElem?_toArray, List.getElem?_cons_zero, List.getElem?_cons_succ]
  (repeat (first | (refine wpTree.take (v := undef) (Or.inr ⟨by rfl, rfl⟩) ?_; simp only [Act.put, List.setIfInBounds_toArray, List.set_cons_zero, List.set_cons_succ]) | (refine wpTree.take (v := ?_) (Or.inl ⟨by rfl, ?_⟩) ?_; rotate_left; (focus (intro _ hS; (try dsimp only at hS); go_split_ands; (try subst hS); go_simp; (try (with_reducible rfl)); done)); simp only [Act.put, List.setIfInBounds_toArray, List.set_cons_zero, List.set_cons_succ])))
  refine wpTree.one (fun K hK => ?_)
  go_simp
  go_at_call 15
  refine HS.out.mono ?_
  rintro e w2 ⟨rfl, hb⟩
  have hb' : Below w1.heap.size w1 w2 := ⟨hb.os, hb.tape, hb.output, hb.size, hb.block⟩
  have HX2 := Lib.hid (HX1.out.next hb')
  have HB2 := Lib.hid (HB1.out.trans (hb'.mono HB1.out.size))
  refine hK.out _ _ ⟨HX2.out.cell 0, HX2.out.cell 1⟩ (fun _ => ?_)
  clear hK K hHeld hb hb' HX1 HB1 HS c0 c1
  (repeat (first | (refine wpTree.take (v := undef) (Or.inr ⟨by rfl, rfl⟩) ?_; simp only [Act.put, List.setIfInBounds_toArray, List.set_cons_zero, List.set_cons_succ]) | (refine wpTree.take (v := ?_) (Or.inl ⟨by rfl, ?_⟩) ?_; rotate_left; (focus (intro _ hS; (try dsimp only at hS); go_split_ands; (try subst hS); go_simp; (try (with_reducible rfl)); done)); simp only [Act.put, List.setIfInBounds_toArray, List.set_cons_zero, List.set_cons_succ])))
  refine wpTree.done ?_
  have c0 : w2.cell? ⟨W.heap.size, 0, none⟩ = some (.int .i64 (k : Nat)) := HX2.out.cell 0
  have c1 : w2.cell? ⟨W.heap.size, 1, none⟩ = some (.slice A n c) := HX2.out.cell 1
  have hZ := size_yes w2 k A n c HRT.out
  obtain ⟨N, hN⟩ : ∃ N, N = 9 + n := ⟨_, rfl⟩
  rw [← hN] at hZ
  have HZ := Lib.hid hZ
  have HNN := Lib.hid hN
  obtain ⟨zs, hzs, hmk⟩ := make_u8 N (by have := HM.out; omega)
  have HZS := Lib.hid hzs
  clear hN hZ hzs
  go_upto_region 5 with (go_at_call 13; refine HZ.out.mono ?_; rintro e w3 ⟨rfl, hb⟩; have HX3 := Lib.hid (HX2.out.next hb); have HB3 := Lib.hid (HB2.out.trans (hb.mono HB2.out.size)); clear hb HX2 HB2 HZ c0 c1)
  have c0 : (w3.alloc (.cells zs 5)).cell? ⟨W.heap.size, 0, none⟩ = some (.int .i64 (k : Nat)) := (HX3.out.alloc _).cell 0
  have c1 : (w3.alloc (.cells zs 5)).cell? ⟨W.heap.size, 1, none⟩ = some (.slice A n c) := (HX3.out.alloc _).cell 1
  have hcs : [Value.int .u8 90, .int .u8 ((k : Int) % 256), .int .u8 ((n : Int) / 256 % 256), .int .u8 ((n : Int) % 256)] = u8s [90, k, n / 256 % 256, n % 256] := by
    have := HK.out
    simp [u8s]; omega
  have hBl : Below w3.heap.size w3 (w3.alloc (.cells zs 5)) := (Below.refl _ _).alloc (Nat.le_refl _) _
  have hBl2 : Below (w3.alloc (.cells zs 5)).heap.size (w3.alloc (.cells zs 5)) ((w3.alloc (.cells zs 5)).alloc (.cells #[.int .u8 90, .int .u8 ((k : Int) % 256), .int .u8 ((n : Int) / 256 % 256), .int .u8 ((n : Int) % 256)] 5)) := (Below.refl _ _).alloc (Nat.le_refl _) _
  have hO4 : ((w3.alloc (.cells zs 5)).alloc (.cells #[.int .u8 90, .int .u8 ((k : Int) % 256), .int .u8 ((n : Int) / 256 % 256), .int .u8 ((n : Int) % 256)] 5)).ownsRow w3.heap.size 5 1 (.slice (some ⟨w3.heap.size, 0, none⟩) 0 N) 0 (u8s []) :=
    ownG_next (World.ownsRow_made w3 zs N (Nat.le_refl _) (by have := HM.out; have := HNN.out; unfold maxLen; omega) (by rw [HZS.out, Nat.mul_one])) hBl2
  have hS4 : Src ((w3.alloc (.cells zs 5)).alloc (.cells #[.int .u8 90, .int .u8 ((k : Int) % 256), .int .u8 ((n : Int) / 256 % 256), .int .u8 ((n : Int) % 256)] 5)) (some ⟨w3.heap.size + 1, 0, none⟩) 4 (u8s [90, k, n / 256 % 256, n % 256]) := by
    rw [← hcs]
    have := src_row (Blk.new (w3.alloc (.cells zs 5)) 5 #[.int .u8 90, .int .u8 ((k : Int) % 256), .int .u8 ((n : Int) / 256 % 256), .int .u8 ((n : Int) % 256)]) 4
    simpa using this
  have HB4 := Lib.hid (HB3.out.trans ((hBl.trans (hBl2.mono hBl.size)).mono HB3.out.size))
  have HX4 := Lib.hid ((HX3.out.next hBl).next hBl2)
  have hs34 : w3.heap.size ≤ ((w3.alloc (.cells zs 5)).alloc (.cells #[.int .u8 90, .int .u8 ((k : Int) % 256), .int .u8 ((n : Int) / 256 % 256), .int .u8 ((n : Int) % 256)] 5)).heap.size := Nat.le_trans hBl.size hBl2.size
  have HO4 := Lib.hid hO4
  have HS4 := Lib.hid hS4
  have HS34 := Lib.hid hs34
  obtain ⟨hd, hhd⟩ : ∃ hd, hd = [90, k, n / 256 % 256, n % 256] := ⟨_, rfl⟩
  rw [← hhd] at HS4
  have HHD := Lib.hid hhd
  have HHL := Lib.hid (show hd.length = 4 by rw [hhd]; rfl)
  clear hcs hBl hBl2 hO4 hS4 hs34 hmk hhd
  go_upto_region 6 with (at_builtin; refine wpList_append_u8 _ rfl _ _ rfl w3.heap.size _ 0 (u8s []) rfl HO4.out (some ⟨w3.heap.size + 1, 0, none⟩) 4 4 (u8s hd) rfl (by rw [u8s_len]; exact HHL.out) HS4.out (u8s_one _) (by decide) HS34.out ?_; intro v5 w5 hown hgrow hloc; have HB5 := Lib.hid (ownG_below hgrow HO4.out HB3.out.size HB4.out.size HB4.out); have HS35 := Lib.hid (Nat.le_trans HS34.out hgrow.size); have HX5 := Lib.hid (show Blk w5 W.heap.size 24 #[.int .i64 (k : Nat), .slice A n c] from (hgrow.block _ HX4.out.lt (own_ne HO4.out HX4.out (by decide))).trans HX4.out); rw [Nat.zero_add] at hown; have HO5 := Lib.hid (show w5.ownsRow w3.heap.size 5 1 v5 4 (u8s hd) from hown); clear hown hgrow hloc HO4 HS4 HS34 HX4 HB4 HX3 c0 c1)
  have c1 : w5.cell? ⟨W.heap.size, 1, none⟩ = some (.slice A n c) := HX5.out.cell 1
  have HS5 := Lib.hid (show Src w5 A n (u8s bs) from HN.out ▸ (HH.out.1.next HB5.out).src HH.out.2)
  have HT5 := Lib.hid (show w3.heap.size ≤ w5.heap.size from HS35.out)
  go_upto_region 7 with (at_builtin; refine wpList_append_u8 _ rfl _ _ rfl w3.heap.size _ 4 (u8s hd) rfl HO5.out A n c (u8s bs) rfl (by rw [u8s_len]; exact HN.out) HS5.out (u8s_one _) (by have := HM.out; omega) HT5.out ?_; intro v6 w6 hown hgrow hloc; have HB6 := Lib.hid (ownG_below hgrow HO5.out HB3.out.size HB5.out.size HB5.out); have HT6 := Lib.hid (Nat.le_trans HT5.out hgrow.size); have HO6 := Lib.hid (show w6.ownsRow w3.heap.size 5 1 v6 (4 + n) (u8s (hd ++ bs)) from by rw [u8s_app]; exact hown); clear hown hgrow hloc HO5 HS5 HX5 HB5 HT5 c1)
  have hcs : [Value.int .u8 ((sm : Int) / 16777216 % 256), .int .u8 ((sm : Int) / 65536 % 256), .int .u8 ((sm : Int) / 256 % 256), .int .u8 ((sm : Int) % 256), .int .u8 165] = u8s (Fr.big4 sm ++ [165]) := by simp [u8s, Fr.big4]
  have hBl2 : Below w6.heap.size w6 (w6.alloc (.cells #[.int .u8 ((sm : Int) / 16777216 % 256), .int .u8 ((sm : Int) / 65536 % 256), .int .u8 ((sm : Int) / 256 % 256), .int .u8 ((sm : Int) % 256), .int .u8 165] 5)) := (Below.refl _ _).alloc (Nat.le_refl _) _
  have HO7 := Lib.hid (ownG_next HO6.out hBl2)
  have hS7 := src_row (Blk.new w6 5 #[.int .u8 ((sm : Int) / 16777216 % 256), .int .u8 ((sm : Int) / 65536 % 256), .int .u8 ((sm : Int) / 256 % 256), .int .u8 ((sm : Int) % 256), .int .u8 165]) 5
  rw [show (#[Value.int .u8 ((sm : Int) / 16777216 % 256), .int .u8 ((sm : Int) / 65536 % 256), .int .u8 ((sm : Int) / 256 % 256), .int .u8 ((sm : Int) % 256), .int .u8 165] : Array Value).toList = u8s (Fr.big4 sm ++ [165]) from hcs] at hS7
  have HS7 := Lib.hid hS7
  have HB7 := Lib.hid (HB6.out.trans (hBl2.mono HB6.out.size))
  have HT7 := Lib.hid (Nat.le_trans HT6.out hBl2.size)
  obtain ⟨ft, hft⟩ : ∃ ft, ft = Fr.big4 sm ++ [165] := ⟨_, rfl⟩
  rw [← hft] at HS7
  have HFL := Lib.hid (show ft.length = 5 by rw [hft]; rfl)
  have HFIN := Lib.hid (show (hd ++ bs) ++ ft = Fr.frame k bs by rw [HHD.out, hft, HSM.out, ← HN.out]; unfold Fr.frame; simp)
  clear hcs hBl2 hS7 hft
  go_wp2_with (at_builtin; refine wpList_append_u8 _ rfl _ _ rfl w3.heap.size _ (4 + n) (u8s (hd ++ bs)) rfl HO7.out (some ⟨w6.heap.size, 0, none⟩) 5 5 (u8s ft) rfl (by rw [u8s_len]; exact HFL.out) HS7.out (u8s_one _) (by have := HM.out; omega) HT7.out ?_; intro v8 w8 hown hgrow hloc; have HB8 := Lib.hid (ownG_below hgrow HO7.out HB3.out.size HB7.out.size HB7.out); rw [← u8s_app, HFIN.out] at hown; have HO8 := Lib.hid hown; clear hown hgrow hloc HO6 HO7 HS7 HB6 HB7 HT7)
  go_ret2
  exact ⟨_, rfl, by have := ownG_le HO8.out HB3.out.size; rwa [show 4 + n + 5 = 9 + n by omega] at this, HB8.out⟩
end
end Go.Proofs.Ytejehmimidnaiaa
