/-
cuts: Save.
-/
import Derived.Test.YtbnapbjmffajfaaCu10
namespace Go.Proofs.Ytbnapbjmffajfaa
open Go.RowKit
set_option linter.unusedSimpArgs false
set_option linter.unusedVariables false

def encCt (c : Ct) : List Nat := enc c.o.toNat ++ enc c.t ++ encV c.f
def encT (o p : Nat) (cs : List Ct) (a b : Sd) : List Nat := enc o ++ enc p ++ enc cs.length ++ cs.flatMap encCt ++ encSd a ++ encSd b
def Ct.Ok (c : Ct) : Prop := 0 ≤ c.o ∧ c.o ≤ 1000 ∧ c.t < 18446744073709551616 ∧ ∀ i, c.f i < 4294967296
theorem encCt_len {c : Ct} (h : c.Ok) : (encCt c).length ≤ 150 := by
  unfold encCt
  have h1 := enc_small (n := c.o.toNat) (by have := h.2.1; omega)
  have h2 := enc_small h.2.2.1
  have h3 := encV_len c.f h.2.2.2
  simp only [List.length_append]
  omega
theorem encSd_len {x : Sd} (h : x.Ok) : (encSd x).length ≤ 150 := by
  unfold encSd
  have h1 := enc_small (n := 2) (by decide)
  have h2 := enc_small h.1
  have h3 := encV_len x.s.f h.2
  have h4 := enc_small (n := 1) (by decide)
  have h5 := enc_small (n := 0) (by decide)
  split
  · split
    · simp only [List.length_append]; omega
    · omega
  · omega
theorem encCts_len : ∀ (l : List Ct), (∀ c ∈ l, c.Ok) → (l.flatMap encCt).length ≤ 150 * l.length
  | [], _ => by simp
  | c :: l, h => by
    have h1 := encCt_len (h c (by simp))
    have h2 := encCts_len l fun x hx => h x (by simp [hx])
    rw [List.flatMap_cons, List.length_append, List.length_cons]
    omega
theorem wrap_u64 (n : Nat) (h : n < 18446744073709551616) : IntKind.u64.wrap ((n : Nat) : Int) = (n : Nat) := by rw [IntKind.wrap_u64]; omega
theorem sdsize : (Try.prog.info? 61).map (·.size) = some 15 := by kernel_rfl
theorem run_index_sd (a b : Sd) (w : World) : (Instr.index 62 (.agg (a.cells ++ b.cells).toArray) (.int .i64 0)).run Try.prog w = .ok (.agg a.cells.toArray) w ∧ (Instr.index 62 (.agg (a.cells ++ b.cells).toArray) (.int .i64 1)).run Try.prog w = .ok (.agg b.cells.toArray) w := by
  have h1 : List.take 15 (a.cells ++ b.cells) = a.cells := by rw [List.take_left' (sd_len a)]
  have h2 : List.take 15 (List.drop 15 (a.cells ++ b.cells)) = b.cells := by rw [List.drop_left' (sd_len a), List.take_of_length_le (by rw [sd_len]; exact Nat.le_refl _)]
  constructor
  · simp [Instr.index, asIntOf, run_underlying Try.underlying62, run_sizeOf sdsize, part, isAgg, run_underlying Try.underlying61, h1]
  · simp [Instr.index, asIntOf, run_underlying Try.underlying62, run_sizeOf sdsize, part, isAgg, run_underlying Try.underlying61, h2]
theorem sds2info (a b : Sd) : (Try.prog.info? 62).map (·.size) = some (a.cells ++ b.cells).length := by rw [List.length_append, sd_len, sd_len]; kernel_rfl
theorem Tb.r33 {W : World} {B t : Nat} {F : Nat → Prop} {own other : Int} {v : Value} {cs : List Ct} {a b : Sd} (T : Tb W B t F own other v cs a b) : W.rangeAt t 3 (a.cells ++ b.cells) := fun j u hj => by
  rw [T.cell, tc_list, List.append_assoc]
  rw [List.getElem?_append_right (by simp), ← hj]
  simp
theorem Tb.rc {W : World} {B t : Nat} {F : Nat → Prop} {own other : Int} {v : Value} {cs : List Ct} {a b : Sd} (T : Tb W B t F own other v cs a b) {k : Nat} {x : Ct} (hx : cs[k]? = some x) : ∃ g c, v = .slice (some ⟨g, 0, none⟩) cs.length c ∧ W.rangeAt g (k * 14) x.cells := by
  have hk := (List.getElem?_eq_some_iff.1 hx).1
  obtain ⟨_, ⟨e, h1⟩ | ⟨g, cap, cur, rfl, _⟩⟩ := id T.row
  · omega
  · refine ⟨g, cap, rfl, fun j u hj => ?_⟩
    have hj2 : j < 14 := by have := (List.getElem?_eq_some_iff.1 hj).1; rwa [ct_len] at this
    have h1 := cts_get cs k x j hx hj2
    rw [hj] at h1
    have h2 := T.row.cells rfl (14 * k + j) u h1
    rw [Addr.add_mid] at h2
    rw [show k * 14 + j = 0 + (14 * k + j) by omega]
    exact h2
set_option maxHeartbeats 4000000 in
set_option maxRecDepth 20000 in
theorem save_any (W : World) {B t : Nat} {F : Nat → Prop} {o p : Nat} {v : Value} {cs : List Ct} {a b : Sd} (T : Tb W B t F (o : Nat) (p : Nat) v cs a b) (ho : o ≠ 0) (ho2 : o ≤ 1000) (hp : p ≤ 1000) (hl : cs.length ≤ 100000) (hc : ∀ c ∈ cs, c.Ok) (ha : a.Ok) (hb : b.Ok) :
    Calls Try.prog 13 #[.pointer (some ⟨t, 0, none⟩)] W fun e W' => ∃ v', e = .returned v' ∧ W'.ownsRow W.heap.size 5 1 v' (encT o p cs a b).length (u8s (encT o p cs a b)) ∧ Below W.heap.size W W' := by
  have HT := Lib.hid T
  have HL := Lib.hid hl
  have HC := Lib.hid hc
  have HA := Lib.hid (And.intro ha hb)
  have HM := Lib.hid (made_any W T (by omega))
  have c0 := T.c0
  have c1 := T.c1
  have w1 := wrap_u64 o (by omega)
  have w2 := wrap_u64 p (by omega)
  have HO := Lib.hid (show o < 18446744073709551616 ∧ p < 18446744073709551616 by omega)
  clear T hl hc ha hb ho ho2 hp
  go_enter Try.func13, Try.ntmps13
  go_upto_region 3 with (go_at_call 16; refine HM.out.mono ?_; rintro e w4 ⟨rfl, rfl⟩)
  clear HM
  refine wp_region_tree (S := (fun w' => w'.cell? ⟨t, 0, none⟩ = some (.int .i64 (o : Nat)) ∧ w'.cell? ⟨t, 1, none⟩ = some (.int .i64 (p : Nat)))) (.take 1 (.take 2 (.take 3 (.take 4 (.take 5 (.take 6 (.take 8 (.take 9 (.take 10 (.take 11 (.take 12 (.take 13 (.one 0 (.one 7 (.one 14 (.take 15 .nil)))))))))))))))) 9999 (by kernel_rfl) (by kernel_rfl) (by kernel_rfl) (by kernel_rfl) (by kernel_rfl) (fun _ _ d _ _ h => by cases d <;> exact h) ⟨c0, c1⟩ (fun hHeld => ?_); simp only [Tree.map, List.getElem?_toArray, List.getElem?_cons_zero, List.getElem?_cons_succ]
  (repeat (first | (refine wpTree.take (v := undef) (Or.inr ⟨by rfl, rfl⟩) ?_; simp only [Act.put, List.setIfInBounds_toArray, List.set_cons_zero, List.set_cons_succ]) | (refine wpTree.take (v := ?_) (Or.inl ⟨by rfl, ?_⟩) ?_; rotate_left; (focus (intro _ hS; (try dsimp only at hS); go_split_ands; (try subst hS); go_simp; (try (with_reducible rfl)); done)); simp only [Act.put, List.setIfInBounds_toArray, List.set_cons_zero, List.set_cons_succ])))
  refine wpTree.one (fun K hK => ?_)
  go_simp
  go_at_call 25
  refine (new_any W.drew).mono ?_
  rintro e W1 ⟨rfl, hw, hb1⟩
  have HW1 := Lib.hid (show Wtr W1 W.heap.size W.heap.size [] from hw)
  have HB1 := Lib.hid (show Below W.heap.size W W1 from (Below.refl _ _).drew.trans hb1)
  refine hK.out _ _ ⟨(HT.out.next HB1.out).c0, (HT.out.next HB1.out).c1⟩ (fun _ => ?_)
  clear hK K hw hb1 hHeld c0 c1
  (try simp only [Act.put, List.setIfInBounds_toArray, List.set_cons_zero, List.set_cons_succ])
  refine wpTree.one (fun K hK => ?_)
  go_simp
  go_at_call 26
  refine (wnum_any W.heap.size W.heap.size o [] _ HW1.out HO.out.1 (by simp)).mono ?_
  rintro e W2 ⟨rfl, hw, hr⟩
  have HW2 := Lib.hid hw
  have HB2 := Lib.hid (HB1.out.trans hr.1)
  refine hK.out _ _ ⟨(HT.out.next HB2.out).c0, (HT.out.next HB2.out).c1⟩ (fun _ => ?_)
  clear hK K hw hr HW1 HB1
  (try simp only [Act.put, List.setIfInBounds_toArray, List.set_cons_zero, List.set_cons_succ])
  refine wpTree.one (fun K hK => ?_)
  go_simp
  go_at_call 26
  refine (wnum_any W.heap.size W.heap.size p _ _ HW2.out HO.out.2 (by have := enc_small HO.out.1; simp only [List.length_append, List.length_nil]; omega)).mono ?_
  rintro e W3 ⟨rfl, hw, hr⟩
  have HW3 := Lib.hid hw
  have HB3 := Lib.hid (HB2.out.trans hr.1)
  refine hK.out _ _ ⟨(HT.out.next HB3.out).c0, (HT.out.next HB3.out).c1⟩ (fun _ => ?_)
  clear hK K hw hr HW2 HB2
  (try simp only [Act.put, List.setIfInBounds_toArray, List.set_cons_zero, List.set_cons_succ])
  (repeat (first | (refine wpTree.take (v := undef) (Or.inr ⟨by rfl, rfl⟩) ?_; simp only [Act.put, List.setIfInBounds_toArray, List.set_cons_zero, List.set_cons_succ]) | (refine wpTree.take (v := ?_) (Or.inl ⟨by rfl, ?_⟩) ?_; rotate_left; (focus (intro _ hS; (try dsimp only at hS); go_split_ands; (try subst hS); go_simp; (try (with_reducible rfl)); done)); simp only [Act.put, List.setIfInBounds_toArray, List.set_cons_zero, List.set_cons_succ])))
  refine wpTree.done ?_
  clear w1 w2
  have c2 := (HT.out.next HB3.out).c2
  obtain ⟨A, c, rfl, -⟩ := ownG_slice HT.out.row
  have w3 := wrap_u64 cs.length (by have := HL.out; omega)
  obtain ⟨n, hn⟩ : ∃ n, n = cs.length := ⟨_, rfl⟩
  rw [← hn] at c2 w3
  have HN := Lib.hid hn
  have HLE := Lib.hid (show ([] ++ enc o ++ enc p).length ≤ 20 by have := enc_small HO.out.1; have := enc_small HO.out.2; simp only [List.length_append, List.length_nil]; omega)
  clear hn
  go_upto_region 5 with (go_at_call 26; refine (wnum_any W.heap.size W.heap.size n _ _ HW3.out (by have := HL.out; have := HN.out; omega) (by have := HLE.out; omega)).mono ?_; rintro e W4 ⟨rfl, hw, hr⟩; have HW4 := Lib.hid hw; have HB4 := Lib.hid (HB3.out.trans hr.1); clear hw hr HW3 HB3)
  clear c2
  have c2 := (HT.out.next HB4.out).c2
  rw [← HN.out] at c2
  obtain ⟨pre, hpre⟩ : ∃ pre, pre = [] ++ enc o ++ enc p ++ enc n := ⟨_, rfl⟩
  rw [← hpre] at HW4
  have HPL := Lib.hid (show pre.length ≤ 30 by rw [hpre]; have := HLE.out; have := enc_small (n := n) (by have := HL.out; have := HN.out; omega); rw [List.length_append]; omega)
  have HPE := Lib.hid hpre
  clear hpre HLE w3
  go_upto_region 6 with fail
  go_loopw [39] (fun i wr => ∃ k : Nat, k ≤ n ∧ i = .int .i64 k ∧ Wtr wr W.heap.size W.heap.size (pre ++ (cs.take k).flatMap encCt) ∧ Below W.heap.size W wr) (fun i _ => n - (intOf i).toNat)
  case atStart => exact ⟨0, Nat.zero_le _, rfl, by simpa using HW4.out, HB4.out⟩
  case round =>
    obtain ⟨k, hk, rfl, hw, hbe⟩ := hrel
    have HWk := Lib.hid hw
    have HBk := Lib.hid hbe
    clear hw hbe HW4 HB4 c2
    have hn100 : n ≤ 100000 := by have := HL.out; have := HN.out; omega
    by_cases hlt : k < n
    · obtain ⟨x, hx⟩ : ∃ x, cs[k]? = some x := ⟨_, List.getElem?_eq_getElem (by rw [← HN.out]; exact hlt)⟩
      obtain ⟨g0, c0, hv, hr⟩ := (HT.out.next HBk.out).rc hx
      cases hv
      have HXO := Lib.hid (HC.out x (List.mem_of_getElem? hx))
      have HXT := Lib.hid (show (cs.take (k + 1)).flatMap encCt = (cs.take k).flatMap encCt ++ encCt x by rw [List.take_add_one, hx, List.flatMap_append]; simp)
      have HKL := Lib.hid (show (pre ++ (cs.take k).flatMap encCt).length ≤ 30 + 150 * 100000 by
        have h1 := encCts_len (cs.take k) (fun c hc => HC.out c (List.mem_of_mem_take hc))
        have h2 := HPL.out
        have h3 := HL.out
        have h4 := HN.out
        rw [List.length_take] at h1
        rw [List.length_append]
        omega)
      clear hx
      go_upto_region 8 with (first | (refine wpList_load_mid rfl 47 _ rfl _ _ rfl x.cells _ hr Try.underlying47 rfl (ctinfo x) ?_) | (refine wpList_store_blk rfl 47 _ _ rfl wr.heap.size 47 #[.int .i64 0, .int .u64 0, .int .u32 0, .int .u32 0, .int .u32 0, .int .u32 0, .int .u32 0, .int .u32 0, .int .u32 0, .int .u32 0, .int .u32 0, .int .u32 0, .int .u32 0, .int .u32 0] x.cells.toArray rfl rfl (Blk.new' rfl) (ctinfoA x) (ct_siz x) (ct_one x) ?_; rw [Wr.alloc_setRow]; intro b2))
      obtain ⟨w2, hw2⟩ : ∃ w2, w2 = wr.alloc (.cells x.cells.toArray 47) := ⟨_, rfl⟩
      have hb2 : Below wr.heap.size wr w2 := by rw [hw2]; exact (Below.refl _ _).alloc (Nat.le_refl _) _
      rw [← hw2] at b2 ⊢
      clear hw2 hr
      have HG := Lib.hid (show wr.heap.size ≠ W.heap.size from by have := HWk.out.lt; omega)
      have HW2 := Lib.hid (HWk.out.next hb2)
      have HB2 := Lib.hid (HBk.out.trans (hb2.mono HBk.out.size))
      have HX2 := Lib.hid b2
      obtain ⟨gb, hgb⟩ : ∃ gb, gb = wr.heap.size := ⟨_, rfl⟩
      rw [← hgb] at HG HX2 b2 ⊢
      obtain ⟨m, hm⟩ : ∃ m : Nat, x.o = m := ⟨x.o.toNat, by have := HXO.out.1; omega⟩
      have hmw := wrap_u64 m (by have := HXO.out.2.1; omega)
      obtain ⟨-, rv, q0, q1⟩ := ct_all b2
      rw [hm] at q0
      have HMO := Lib.hid hm
      have HM := Lib.hid (show encCt x = enc m ++ enc x.t ++ encV x.f ∧ m < 18446744073709551616 from ⟨by unfold encCt; rw [hm]; rfl, by have := HXO.out.2.1; omega⟩)
      clear hgb b2 hb2 hm HWk HBk
      refine wp_region_tree (S := (fun w' => w'.cell? ⟨gb, 0, none⟩ = some (.int .i64 (m : Nat)) ∧ w'.cell? ⟨gb, 1, none⟩ = some (.int .u64 (x.t : Nat)) ∧ w'.rangeAt gb 2 (vl x.f))) (.take 0 (.take 1 (.take 2 (.take 3 (.take 5 (.take 6 (.take 8 (.take 9 (.one 4 (.one 7 (.one 10 .nil))))))))))) 9999 (by kernel_rfl) (by kernel_rfl) (by kernel_rfl) (by kernel_rfl) (by kernel_rfl) (fun _ _ d _ _ h => by cases d <;> exact h) ⟨q0, q1, rv⟩ (fun hHeld => ?_); simp only [Tree.map, List.getElem?_toArray, List.getElem?_cons_zero, List.getElem?_cons_succ]
      (repeat (first | (refine wpTree.take (v := undef) (Or.inr ⟨by rfl, rfl⟩) ?_; simp only [Act.put, List.setIfInBounds_toArray, List.set_cons_zero, List.set_cons_succ]) | (refine wpTree.take (v := .agg (vl ?_).toArray) (yieldsIf_load_mid rfl 33 _ rfl _ _ rfl (vl _) _ ?_ Try.underlying33 rfl (vinfoL _)) ?_; rotate_left; (focus (intro _ hS; (try dsimp only at hS); go_split_ands; (first | assumption | exact Blk.range (by assumption)))); simp only [Act.put, List.setIfInBounds_toArray, List.set_cons_zero, List.set_cons_succ]) | (refine wpTree.take (v := ?_) (Or.inl ⟨by rfl, ?_⟩) ?_; rotate_left; (focus (intro _ hS; (try dsimp only at hS); go_split_ands; (try subst hS); go_simp; (try (with_reducible rfl)); done)); simp only [Act.put, List.setIfInBounds_toArray, List.set_cons_zero, List.set_cons_succ])))
      clear rv q0 q1 hHeld
      refine wpTree.one (fun K hK => ?_)
      go_simp
      go_at_call 26
      refine (wnum_any W.heap.size W.heap.size m _ _ (show Wtr w2.drew W.heap.size W.heap.size _ from HW2.out) HM.out.2 (by have := HKL.out; omega)).mono ?_
      rintro e W5 ⟨rfl, hw, hr⟩
      have HW5 := Lib.hid hw
      have HB5 := Lib.hid ((show Below W.heap.size W w2.drew from HB2.out.drew).trans hr.1)
      have HX5 := Lib.hid (HX2.out.drew.wrote (by decide) (show Wtr w2.drew W.heap.size W.heap.size _ from HW2.out) hr HG.out)
      obtain ⟨-, rv, q0, q1⟩ := ct_all HX5.out
      rw [HMO.out] at q0
      refine hK.out _ _ ⟨q0, q1, rv⟩ (fun _ => ?_)
      clear hK K hw hr rv q0 q1
      (try simp only [Act.put, List.setIfInBounds_toArray, List.set_cons_zero, List.set_cons_succ])
      refine wpTree.one (fun K hK => ?_)
      go_simp
      go_at_call 26
      refine (wnum_any W.heap.size W.heap.size x.t _ _ HW5.out HXO.out.2.2.1 (by have := HKL.out; have := enc_small HM.out.2; rw [List.length_append]; omega)).mono ?_
      rintro e W6 ⟨rfl, hw, hr⟩
      have HW6 := Lib.hid hw
      have HB6 := Lib.hid (HB5.out.trans hr.1)
      have HX6 := Lib.hid (HX5.out.wrote (by decide) HW5.out hr HG.out)
      obtain ⟨-, rv, q0, q1⟩ := ct_all HX6.out
      rw [HMO.out] at q0
      refine hK.out _ _ ⟨q0, q1, rv⟩ (fun _ => ?_)
      clear hK K hw hr rv q0 q1
      (try simp only [Act.put, List.setIfInBounds_toArray, List.set_cons_zero, List.set_cons_succ])
      refine wpTree.one (fun K hK => ?_)
      go_simp
      go_at_call 27
      refine (wvector_any W.heap.size W.heap.size x.f _ _ HW6.out HXO.out.2.2.2 (by have := HKL.out; have := enc_small HM.out.2; have := enc_small HXO.out.2.2.1; simp only [List.length_append] at *; omega)).mono ?_
      rintro e W7 ⟨rfl, hw, hr⟩
      have HW7 := Lib.hid hw
      have HB7 := Lib.hid (HB6.out.trans hr.1)
      have HX7 := Lib.hid (HX6.out.wrote (by decide) HW6.out hr HG.out)
      obtain ⟨-, rv, q0, q1⟩ := ct_all HX7.out
      rw [HMO.out] at q0
      refine hK.out _ _ ⟨q0, q1, rv⟩ (fun _ => ?_)
      clear hK K hw hr rv q0 q1
      (try simp only [Act.put, List.setIfInBounds_toArray, List.set_cons_zero, List.set_cons_succ])
      refine wpTree.done ?_
      go_wp2_with fail
      go_roundw
      case rel => exact ⟨k + 1, by omega, by simp, by rw [HXT.out, HM.out.1]; simpa only [List.append_assoc] using HW7.out, HB7.out⟩
      case measure => simp [intOf]; omega
    · obtain rfl : k = n := by omega
      have HWk := Lib.hid (show Wtr wr W.heap.size W.heap.size (pre ++ cs.flatMap encCt) from by have := HWk.out; rwa [HN.out, List.take_length] at this)
      have HKL := Lib.hid (show (pre ++ cs.flatMap encCt).length ≤ 30 + 150 * 100000 by
        have h1 := encCts_len cs HC.out
        have h2 := HPL.out
        have h3 := HL.out
        rw [List.length_append]
        omega)
      have r33 := (HT.out.next HBk.out).r33
      clear hlt hk
      go_wp2_with (refine wpList_load_mid rfl 62 _ rfl _ _ rfl (a.cells ++ b.cells) _ r33 Try.underlying62 rfl (sds2info a b) ?_)
      go_loopw [59] (fun i w5 => ∃ j : Nat, j ≤ 2 ∧ i = .int .i64 j ∧ Wtr w5 W.heap.size W.heap.size (pre ++ cs.flatMap encCt ++ (if 1 ≤ j then encSd a else []) ++ (if 2 ≤ j then encSd b else [])) ∧ Below W.heap.size W w5) (fun i _ => 2 - (intOf i).toNat)
      case atStart => exact ⟨0, by omega, rfl, by simpa using HWk.out, HBk.out⟩
      case round =>
        clear r33 HWk HBk
        obtain ⟨j, hj, rfl, hw, hbe⟩ := hrel
        have HWj := Lib.hid hw
        have HBj := Lib.hid hbe
        clear hw hbe
        have i0 : ∀ w, (Instr.index 62 (.agg (a.cells ++ b.cells).toArray) (.int .i64 0)).run Try.prog w = .ok (.agg a.cells.toArray) w := fun w => (run_index_sd a b w).1
        have i1 : ∀ w, (Instr.index 62 (.agg (a.cells ++ b.cells).toArray) (.int .i64 1)).run Try.prog w = .ok (.agg b.cells.toArray) w := fun w => (run_index_sd a b w).2
        obtain rfl | rfl | rfl : j = 0 ∨ j = 1 ∨ j = 2 := by omega
        · simp only [Int.ofNat_zero, Int.ofNat_one, Int.cast_ofNat_Int]
          have HBL := Lib.hid (show (pre ++ cs.flatMap encCt ++ (if 1 ≤ 0 then encSd a else []) ++ (if 2 ≤ 0 then encSd b else [])).length + 300 ≤ 140737488355328 by have h1 := HKL.out; have h2 := encSd_len HA.out.1; have h3 := encSd_len HA.out.2; rw [List.length_append, List.length_append]; split <;> split <;> (try simp only [List.length_nil]) <;> omega)
          go_upto_region 13 with (refine wpList_store_blk rfl 61 _ _ rfl wr.heap.size 61 #[.bool false, .bool false, .int .u64 0, .int .u32 0, .int .u32 0, .int .u32 0, .int .u32 0, .int .u32 0, .int .u32 0, .int .u32 0, .int .u32 0, .int .u32 0, .int .u32 0, .int .u32 0, .int .u32 0] a.cells.toArray rfl rfl (Blk.new' rfl) (sdinfoA _) (sd_siz _) (sd_one _) ?_; rw [Wr.alloc_setRow]; intro b2)
          obtain ⟨w6, hw6⟩ : ∃ w6, w6 = wr.alloc (.cells a.cells.toArray 61) := ⟨_, rfl⟩
          have hb2 : Below wr.heap.size wr w6 := by rw [hw6]; exact (Below.refl _ _).alloc (Nat.le_refl _) _
          rw [← hw6] at b2 ⊢
          clear hw6
          have HW6 := Lib.hid (HWj.out.next hb2)
          have HB6 := Lib.hid (HBj.out.trans (hb2.mono HBj.out.size))
          have HX6 := Lib.hid b2
          obtain ⟨gb, hgb⟩ : ∃ gb, gb = wr.heap.size := ⟨_, rfl⟩
          rw [← hgb] at HX6 ⊢
          clear b2 hb2 hgb HWj HBj
          go_wp2_with (first | (refine wpList_load_blk (by rfl) 61 _ rfl gb rfl 61 a.cells.toArray _ HX6.out Try.underlying61 rfl (sdinfoA _) ?_) | (go_at_call 28; refine (put_said W.heap.size W.heap.size a _ _ HW6.out HA.out.1 HBL.out).mono ?_; rintro e W7 ⟨rfl, hw, hr⟩; have HW7 := Lib.hid hw; have HB7 := Lib.hid (HB6.out.trans hr.1); clear hw hr))
          go_roundw
          case rel => exact ⟨1, by omega, rfl, by simpa using HW7.out, HB7.out⟩
          case measure => simp [intOf]
        · simp only [Int.ofNat_zero, Int.ofNat_one, Int.cast_ofNat_Int]
          have HBL := Lib.hid (show (pre ++ cs.flatMap encCt ++ (if 1 ≤ 1 then encSd a else []) ++ (if 2 ≤ 1 then encSd b else [])).length + 300 ≤ 140737488355328 by have h1 := HKL.out; have h2 := encSd_len HA.out.1; have h3 := encSd_len HA.out.2; rw [List.length_append, List.length_append]; split <;> split <;> (try simp only [List.length_nil]) <;> omega)
          go_upto_region 13 with (refine wpList_store_blk rfl 61 _ _ rfl wr.heap.size 61 #[.bool false, .bool false, .int .u64 0, .int .u32 0, .int .u32 0, .int .u32 0, .int .u32 0, .int .u32 0, .int .u32 0, .int .u32 0, .int .u32 0, .int .u32 0, .int .u32 0, .int .u32 0, .int .u32 0] b.cells.toArray rfl rfl (Blk.new' rfl) (sdinfoA _) (sd_siz _) (sd_one _) ?_; rw [Wr.alloc_setRow]; intro b2)
          obtain ⟨w6, hw6⟩ : ∃ w6, w6 = wr.alloc (.cells b.cells.toArray 61) := ⟨_, rfl⟩
          have hb2 : Below wr.heap.size wr w6 := by rw [hw6]; exact (Below.refl _ _).alloc (Nat.le_refl _) _
          rw [← hw6] at b2 ⊢
          clear hw6
          have HW6 := Lib.hid (HWj.out.next hb2)
          have HB6 := Lib.hid (HBj.out.trans (hb2.mono HBj.out.size))
          have HX6 := Lib.hid b2
          obtain ⟨gb, hgb⟩ : ∃ gb, gb = wr.heap.size := ⟨_, rfl⟩
          rw [← hgb] at HX6 ⊢
          clear b2 hb2 hgb HWj HBj
          go_wp2_with (first | (refine wpList_load_blk (by rfl) 61 _ rfl gb rfl 61 b.cells.toArray _ HX6.out Try.underlying61 rfl (sdinfoA _) ?_) | (go_at_call 28; refine (put_said W.heap.size W.heap.size b _ _ HW6.out HA.out.2 HBL.out).mono ?_; rintro e W7 ⟨rfl, hw, hr⟩; have HW7 := Lib.hid hw; have HB7 := Lib.hid (HB6.out.trans hr.1); clear hw hr))
          go_roundw
          case rel => exact ⟨2, by omega, rfl, by simpa using HW7.out, HB7.out⟩
          case measure => simp [intOf]
        · simp only [Int.cast_ofNat_Int]
          have HF := Lib.hid (show Wtr wr W.heap.size W.heap.size (encT o p cs a b) from by have := HWj.out; rw [HPE.out, HN.out] at this; unfold encT; simpa using this)
          have HFL := Lib.hid (show (encT o p cs a b).length ≤ 140737488355328 by have h1 := HKL.out; have h2 := encSd_len HA.out.1; have h3 := encSd_len HA.out.2; unfold encT; rw [HPE.out, HN.out] at h1; simp only [List.length_append, List.nil_append, List.length_nil] at h1 ⊢; omega)
          clear HWj
          go_wp2_with (go_at_call 29; refine (bytes_any W.heap.size W.heap.size _ _ HF.out HFL.out).mono ?_; rintro e W6 ⟨v', rfl, hO, hB⟩; have HO6 := Lib.hid (ownG_le hO HBj.out.size); have HB6 := Lib.hid (HBj.out.trans (hB.mono HBj.out.size)); clear hO hB)
          go_ret
          exact ⟨_, rfl, HO6.out, HB6.out⟩
end Go.Proofs.Ytbnapbjmffajfaa
