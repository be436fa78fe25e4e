/-
relay: Put, save.
-/
import Derived.Test.YtohnhokddbeheaaRl5
import Derived.Test.YtohnhokddbeheaaWtrs
import Derived.Test.YtohnhokddbeheaaStrS
import Derived.Test.YtohnhokddbeheaaRT0
namespace Go.Proofs.Ytohnhokddbeheaa
open Go.RowKit
set_option linter.unusedSimpArgs false
set_option linter.unusedVariables false
namespace Rl
open Tr
def encR (x : R) (L : List Nat) : List Nat := L.flatMap fun n => enc (x.c ((n - 1) * 2)) ++ enc (x.c ((n - 1) * 2 + 1))
theorem encR_take {x : R} {l : List Nat} {j n : Nat} (h : l[j]? = some n) : encR x (l.take (j + 1)) = encR x (l.take j) ++ enc (x.c ((n - 1) * 2)) ++ enc (x.c ((n - 1) * 2 + 1)) := by
  unfold encR
  rw [List.take_add_one, h]
  simp
theorem encR_len {x : R} (hc : ∀ i, x.c i ≤ 100000) : ∀ l : List Nat, (encR x l).length ≤ 20 * l.length
  | [] => by simp [encR]
  | n :: l => by
    have h1 := encR_len hc l
    have h2 := enc_len (x.c ((n - 1) * 2)) (by have := hc ((n - 1) * 2); omega)
    have h3 := enc_len (x.c ((n - 1) * 2 + 1)) (by have := hc ((n - 1) * 2 + 1); omega)
    show (enc _ ++ enc _ ++ encR x l).length ≤ _
    rw [List.length_append, List.length_append, List.length_cons]
    omega
theorem encR_256 (x : R) (l : List Nat) : ∀ y ∈ encR x l, y < 256 := by
  intro y hy
  unfold encR at hy
  simp only [List.mem_append, List.mem_flatMap] at hy
  rcases hy with ⟨_, _, h | h⟩ <;> exact Nd.enc_256 _ y h
theorem blk_cu {W : World} {d : Nat} {x : R} (h : Blk W d 68 x.cells.toArray) {k : Nat} (hk : k < 12) : W.rangeAt d (14 + k * 2) [.int .u64 (x.c (k * 2) : Nat), .int .u64 (x.c (k * 2 + 1) : Nat)] := fun j u hj => by
  match j, hj with
  | 0, hj => rw [h.cell, List.getElem?_toArray, show 14 + k * 2 + 0 = 14 + k * 2 by omega, r_c x (by omega), ← hj]; rfl
  | 1, hj => rw [h.cell, List.getElem?_toArray, show 14 + k * 2 + 1 = 14 + (k * 2 + 1) by omega, r_c x (by omega), ← hj]; rfl
section
variable (W : World) {Bd d : Nat} {x : R}
set_option maxRecDepth 20000 in
set_option maxHeartbeats 4000000 in
theorem put_any (h : RP W Bd d x) (hl : x.t.es.length ≤ 1000000) (hc : ∀ i, x.c i ≤ 100000) (B g : Nat) (bs : List Nat) (hw : Wtr W B g bs) (hbs : bs.length ≤ 1000) :
    Calls Try.prog 36 #[.pointer (some ⟨d, 0, none⟩), .pointer (some ⟨g, 0, none⟩)] W fun e W' => e = .returned (.tuple #[]) ∧ Wtr W' B g (bs ++ encR x (nextL x.t x.nd)) ∧ Wrote B g W W' := by
  have HP := Lib.hid h
  have HC := Lib.hid hc
  have HBS := Lib.hid hbs
  have HW := Lib.hid hw
  have HNX := Lib.hid (rnext_any W h hl)
  obtain ⟨L, hL⟩ : ∃ L, L = nextL x.t x.nd := ⟨_, rfl⟩
  rw [← hL] at HNX
  have HLL := Lib.hid (show L.length ≤ 12 ∧ ∀ m ∈ L, 1 ≤ m ∧ m ≤ 12 from ⟨by rw [hL]; unfold nextL thoseL; exact those_le _ 12, fun m hm => by rw [hL] at hm; exact ⟨(those_mem.1 hm).1, (those_mem.1 hm).2.1⟩⟩)
  rw [← hL]
  clear h hl hc hbs hw hL
  go_enter Try.func36, Try.ntmps36
  obtain ⟨ln, hln⟩ : ∃ ln, ln = L.length := ⟨_, rfl⟩
  have HLN := Lib.hid (show ln = L.length ∧ ln ≤ 12 from ⟨hln, by rw [hln]; exact HLL.out.1⟩)
  go_upto_region 1 with (go_at_call 38; refine HNX.out.mono ?_; rintro e w3 ⟨v, rfl, hN, hb⟩; have HN3 := Lib.hid (show Nd.Nds w3 W.heap.size v L from hN); have HM3 := Lib.hid (show Nd.PM W w3 B g bs from ⟨HW.out.next hb, Wrote.ofBelow hb (Nat.le_of_lt (Nat.lt_of_le_of_lt HW.out.1 HW.out.lt)) HW.out.lt⟩); obtain ⟨A, c, hv⟩ := hN.shape; subst hv; rw [← hln]; rw [← hln] at HN3; clear hN hb HNX)
  go_loopw [10] (fun i wr => ∃ k : Nat, k ≤ ln ∧ i = .int .i64 k ∧ Nd.PM W wr B g (bs ++ encR x (L.take k)) ∧ Nd.Nds wr W.heap.size (.slice A ln c) L) (fun i _ => ln - (intOf i).toNat)
  case atStart => exact ⟨0, Nat.zero_le _, rfl, by rw [List.take_zero]; show Nd.PM W w3 B g (bs ++ []); rw [List.append_nil]; exact HM3.out, HN3.out⟩
  case round =>
    clear HM3 HN3
    obtain ⟨k, hk, rfl, hM, hN⟩ := hrel
    have HM := Lib.hid hM
    have HNd := Lib.hid hN
    clear hM hN
    by_cases hkl : k < ln
    · have i1 : (k : Int) < (ln : Nat) := by omega
      have i2 : ¬ (k : Int) < 0 := by omega
      obtain ⟨kk, hkk⟩ : ∃ kk, kk = k + 1 := ⟨_, rfl⟩
      have HKK := Lib.hid (show kk = k + 1 ∧ k < ln from ⟨hkk, hkl⟩)
      have HWK := Lib.hid (Nd.wrap_n k kk hkk (by have := HLN.out; omega))
      obtain ⟨m, hm⟩ : ∃ m, L[k]? = some m := ⟨_, List.getElem?_eq_getElem (by rw [← HLN.out.1]; exact hkl)⟩
      obtain ⟨g1, o1, cc1, ev1, _, hc1⟩ := HNd.out.at_ hm
      simp only [Value.slice.injEq] at ev1
      obtain ⟨rfl, -, rfl⟩ := ev1
      have hmm := HLL.out.2 m (List.mem_of_getElem? hm)
      obtain ⟨q, hq⟩ : ∃ q, q = m - 1 := ⟨_, rfl⟩
      have HQ := Lib.hid (show q = m - 1 ∧ q < 12 ∧ 1 ≤ m from ⟨hq, by omega, hmm.1⟩)
      have HMK := Lib.hid hm
      have hbk : Blk wr d 68 x.cells.toArray := Nd.wrote_blk HW.out HM.out.wr HP.out.1 (by decide) (by decide)
      have hr := blk_cu hbk HQ.out.2.1
      obtain ⟨ca, hca⟩ : ∃ ca, ca = x.c (q * 2) := ⟨_, rfl⟩
      obtain ⟨we, hwe⟩ : ∃ we, we = x.c (q * 2 + 1) := ⟨_, rfl⟩
      rw [← hca, ← hwe] at hr
      have HCA := Lib.hid (show ca = x.c ((m - 1) * 2) ∧ we = x.c ((m - 1) * 2 + 1) ∧ ca ≤ 100000 ∧ we ≤ 100000 from ⟨by rw [hca, hq], by rw [hwe, hq], by rw [hca]; exact HC.out _, by rw [hwe]; exact HC.out _⟩)
      have e1 : wrap64 ((m : Int) - 1) = (q : Nat) := by unfold wrap64; have := HQ.out; omega
      have e2 : (q : Int) < 12 := by have := HQ.out; omega
      have e3 : ¬ (q : Int) < 0 := by omega
      have hb := (Below.refl wr.heap.size wr).alloc (Nat.le_refl _) (.cells #[.int .u64 (ca : Nat), .int .u64 (we : Nat)] 65)
      have hx : Blk (wr.alloc (.cells #[.int .u64 (ca : Nat), .int .u64 (we : Nat)] 65)) wr.heap.size 65 #[.int .u64 (ca : Nat), .int .u64 (we : Nat)] := Blk.new wr _ _
      have HM4 := Lib.hid (HM.out.next hb)
      have HN4 := Lib.hid (HNd.out.next hb)
      have HX4 := Lib.hid hx
      clear hk hkl hkk hm hmm hq hca hwe hbk hb
      go_upto_region 4 with (first | (refine load_midg rfl 65 _ rfl _ _ rfl [.int .u64 (ca : Nat), .int .u64 (we : Nat)] _ hr Try.underlying65 rfl (ciinfo _ _) ?_; (try simp only [Act.put, List.setIfInBounds_toArray, List.set_cons_zero, List.set_cons_succ])) | (refine wpList_store_blk rfl 65 _ _ rfl wr.heap.size 65 #[.int .u64 0, .int .u64 0] #[.int .u64 (ca : Nat), .int .u64 (we : Nat)] rfl rfl (Blk.new wr _ _) (by kernel_rfl) rfl (by simp [Value.oneCell']) ?_; rw [alloc_setRow]))
      obtain ⟨w4, hw4⟩ : ∃ w4, w4 = wr.alloc (.cells #[.int .u64 (ca : Nat), .int .u64 (we : Nat)] 65) := ⟨_, rfl⟩
      rw [← hw4] at HM4 HN4 HX4 ⊢
      obtain ⟨z, hz⟩ : ∃ z, z = wr.heap.size := ⟨_, rfl⟩
      rw [← hz] at HX4
      (try rw [← hz])
      clear hw4 hx hr e1 e2 e3 hz hc1 HM HNd i1 i2
      have hcc : w4.cell? ⟨z, 0, none⟩ = some (.int .u64 (ca : Nat)) ∧ w4.cell? ⟨z, 1, none⟩ = some (.int .u64 (we : Nat)) := ⟨HX4.out.cell 0, HX4.out.cell 1⟩
      have hdr := (Below.refl w4.heap.size w4).drew
      obtain ⟨b0, hb0⟩ : ∃ b0, b0 = bs ++ encR x (L.take k) := ⟨_, rfl⟩
      have HB0 := Lib.hid (show b0 = bs ++ encR x (L.take k) ∧ b0.length ≤ 2000 from ⟨hb0, by
        rw [hb0, List.length_append]
        have h1 := encR_len HC.out (L.take k)
        rw [List.length_take] at h1
        have := HBS.out
        have := HLL.out.1
        omega⟩)
      rw [← hb0] at HM4
      have HM5 := Lib.hid (HM4.out.next hdr)
      have HX5 := Lib.hid (HX4.out.next hdr)
      have HN5 := Lib.hid (HN4.out.next hdr)
      have HW5 := Lib.hid (wnum_any B g ca b0 w4.drew HM5.out.wt (by have := HCA.out; omega) (by have := HB0.out.2; omega))
      clear hdr hb0 HM4 HX4 HN4
      refine wp_region_tree (S := (fun w' => w'.cell? ⟨z, 0, none⟩ = some (.int .u64 (ca : Nat)) ∧ w'.cell? ⟨z, 1, none⟩ = some (.int .u64 (we : Nat)))) (.take 0 (.take 1 (.take 2 (.take 4 (.take 5 (.one 3 (.one 6 .nil))))))) 9999 (by kernel_rfl) (by kernel_rfl) (by kernel_rfl) (by kernel_rfl) (by kernel_rfl) (fun _ _ d _ _ h => by cases d <;> exact h) hcc (fun hHeld => ?_); simp only [Tree.map, List.getElem?_toArray, List.getElem?_cons_zero, List.getElem?_cons_succ]
      (repeat (first | (refine wpTree.take (v := undef) (Or.inr ⟨by rfl, rfl⟩) ?_; simp only [Act.put, List.setIfInBounds_toArray, List.set_cons_zero, List.set_cons_succ]) | (refine wpTree.take (v := ?_) (Or.inl ⟨by rfl, ?_⟩) ?_; rotate_left; (focus (intro _ hS; (try dsimp only at hS); go_split_ands; (try subst hS); go_simp; (try (with_reducible rfl)); done)); simp only [Act.put, List.setIfInBounds_toArray, List.set_cons_zero, List.set_cons_succ])))
      refine wpTree.one (fun K hK => ?_)
      go_simp
      go_at_call 58
      refine HW5.out.mono ?_
      rintro e w6 ⟨rfl, hw, hwr⟩
      have HX6 := Lib.hid (Nd.wrote_blk HM5.out.wt hwr HX5.out (by decide) (by decide))
      have HN6 := Lib.hid (Nd.nds_wrote HM5.out.wt hwr HN5.out)
      have HM6 := Lib.hid (HM5.out.put hw hwr)
      refine hK.out _ _ ⟨HX6.out.cell 0, HX6.out.cell 1⟩ (fun _ => ?_)
      clear hK K hw hwr HW5 HM5 HX5 HN5 hHeld hcc
      (try simp only [Act.put, List.setIfInBounds_toArray, List.set_cons_zero, List.set_cons_succ])
      have HW6 := Lib.hid (wnum_any B g we (b0 ++ enc ca) w6 HM6.out.wt (by have := HCA.out; omega) (by rw [List.length_append]; have := HB0.out.2; have := enc_len ca (by have := HCA.out; omega); omega))
      refine wpTree.one (fun K hK => ?_)
      go_simp
      go_at_call 58
      refine HW6.out.mono ?_
      rintro e w7 ⟨rfl, hw, hwr⟩
      have HX7 := Lib.hid (Nd.wrote_blk HM6.out.wt hwr HX6.out (by decide) (by decide))
      have HN7 := Lib.hid (Nd.nds_wrote HM6.out.wt hwr HN6.out)
      have HM7 := Lib.hid (HM6.out.put hw hwr)
      refine hK.out _ _ ⟨HX7.out.cell 0, HX7.out.cell 1⟩ (fun _ => ?_)
      clear hK K hw hwr HW6 HM6 HX6 HN6
      (try simp only [Act.put, List.setIfInBounds_toArray, List.set_cons_zero, List.set_cons_succ])
      (repeat (first | (refine wpTree.take (v := undef) (Or.inr ⟨by rfl, rfl⟩) ?_; simp only [Act.put, List.setIfInBounds_toArray, List.set_cons_zero, List.set_cons_succ]) | (refine wpTree.take (v := ?_) (Or.inl ⟨by rfl, ?_⟩) ?_; rotate_left; (focus (intro _ hS; (try dsimp only at hS); go_split_ands; (try subst hS); go_simp; (try (with_reducible rfl)); done)); simp only [Act.put, List.setIfInBounds_toArray, List.set_cons_zero, List.set_cons_succ])))
      refine wpTree.done ?_
      go_wp2_with fail
      (try rw [HWK.out])
      go_roundw
      case rel => exact ⟨kk, by have := HKK.out; omega, rfl, by rw [HKK.out.1, encR_take HMK.out, ← HCA.out.1, ← HCA.out.2.1, ← List.append_assoc, ← List.append_assoc, ← HB0.out.1]; exact HM7.out, HN7.out⟩
      case measure => have := HKK.out; simp [intOf]; omega
    · have i1 : ¬ (k : Int) < (ln : Nat) := by omega
      have HKE := Lib.hid (show L.take k = L from List.take_of_length_le (by have := HLN.out; omega))
      clear hk hkl
      go_wp2_with fail
      rw [HKE.out] at HM
      exact ⟨rfl, .tuple #[], by simp [results, Try.results36, go_sem], rfl, HM.out.wt, HM.out.wr⟩
set_option maxRecDepth 20000 in
theorem save_any (h : RP W Bd d x) (hl : x.t.es.length ≤ 1000000) (hc : ∀ i, x.c i ≤ 100000) : Calls Try.prog 12 #[.pointer (some ⟨d, 0, none⟩)] W fun e W' => e = .returned (.string (Byt.bstr (encR x (nextL x.t x.nd)))) ∧ Below W.heap.size W W' := by
  have HN := Lib.hid (Proofs.Ytohnhokddbeheaa.new_any W)
  have HP := Lib.hid (fun w (hb : Below W.heap.size W w) (hw : Wtr w W.heap.size W.heap.size []) => put_any w (h.next hb) hl hc W.heap.size W.heap.size [] hw (by simp))
  obtain ⟨en, hen⟩ : ∃ en, en = encR x (nextL x.t x.nd) := ⟨_, rfl⟩
  have HE := Lib.hid (show en.length ≤ 240 by
    rw [hen]
    have := encR_len hc (nextL x.t x.nd)
    have h2 : (nextL x.t x.nd).length ≤ 12 := by unfold nextL thoseL; exact those_le _ 12
    omega)
  have H256 := Lib.hid (show ∀ y ∈ en, y < 256 by rw [hen]; exact encR_256 x _)
  rw [← hen]
  rw [← hen] at HP
  clear h hl hc hen
  go_enter Try.func12, Try.ntmps12
  have hcv : ∀ (w : World) (v : Value) (B : Nat), w.ownsRow B 5 1 v en.length (u8s en) → (convert 44 9 v).run Try.prog w = .ok (.string (Byt.bstr en)) w := fun w v B ho => by
    obtain ⟨A, c, rfl, _, hby, hA⟩ := Byt.own_byr ho
    exact Byt.conv_src w A _ c en (hby.src hA) rfl H256.out
  have HCV := Lib.hid hcv
  clear hcv
  go_upto_region 3 with (first | (go_at_call 35; refine HN.out.mono ?_; rintro e w1 ⟨rfl, hw, hb⟩; have HW1 := Lib.hid hw; have HB1 := Lib.hid hb; clear hw hb) | (go_at_call 36; refine (HP.out _ HB1.out HW1.out).mono ?_; rintro e w2 ⟨rfl, hw, ho⟩; rw [List.nil_append] at hw; have HW2 := Lib.hid hw; have HB2 := Lib.hid (HB1.out.trans ho.1); clear hw ho))
  have HY := Lib.hid (bytes_any W.heap.size W.heap.size en w2 HW2.out (by have := HE.out; omega))
  go_wp2_with (first | (go_at_call 37; refine HY.out.mono ?_; rintro e w3 ⟨v, rfl, ho, hb⟩; have hcv := HCV.out w3 v _ ho; have HB3 := Lib.hid (HB2.out.trans (hb.mono HB2.out.size)); clear ho hb))
  go_ret
  exact ⟨rfl, HB3.out⟩
end
end Rl
end Go.Proofs.Ytohnhokddbeheaa
namespace Go.Proofs.Ytohnhokddbeheaa
open Go.RowKit
set_option linter.unusedSimpArgs false
set_option linter.unusedVariables false
namespace Rl
open Tr
theorem right_uniq {t : Tv} {a b : Bool} (h : RightP t a) (h' : RightP t b) : a = b := by
  rcases h with ⟨h1, ha⟩ | ⟨h1, h2, ha⟩ | ⟨h1, h2, h3, ha⟩ | ⟨h1, h2, x, c, h3, h4, ha⟩ <;> rcases h' with ⟨g1, hb⟩ | ⟨g1, g2, hb⟩ | ⟨g1, g2, g3, hb⟩ | ⟨g1, g2, y, d, g3, g4, hb⟩
  all_goals first
    | (rw [ha, hb]; done)
    | (rw [h1] at g1; cases g1; done)
    | exact absurd g2 h2
    | exact absurd h2 g2
    | (rw [h3] at g3; cases g3; done)
    | (rw [g3] at h3; cases h3; done)
    | skip
  rw [h3] at g3
  simp only [Option.some.injEq] at g3
  subst g3
  have e : c = d := by
    funext n
    rw [Bool.eq_iff_iff, h4, g4]
  rw [ha, hb, e]
def tA (A : Option Addr) (c : Nat) : Tv := ⟨k0, [(1, 3), (2, 3)], A, c⟩
def x0 (A : Option Addr) (c : Nat) : R := ⟨3, tA A c, fun _ => 0⟩
def x1 (A : Option Addr) (c : Nat) : R := ((x0 A c).came 1).went [1]
def x2 (A : Option Addr) (c : Nat) : R := ((x1 A c).came 0).went []
def l0 : Lab := ⟨1, 2, 1, 1, 1, fun _ => 0⟩
theorem l0_right : rightL l0 = true := by decide +kernel
theorem l0_cells : l0.cells = [.int .u64 1, .int .i64 2, .int .u32 1, .int .i64 1, .int .i64 1, .int .u32 0, .int .u32 0, .int .u32 0, .int .u32 0, .int .u32 0, .int .u32 0, .int .u32 0, .int .u32 0, .int .u32 0, .int .u32 0, .int .u32 0, .int .u32 0] := by unfold Lab.cells vl; rfl
theorem l0_siz : (17 : Nat) = l0.cells.toArray.size := by rw [List.size_toArray, lab_len]
theorem l0_all : l0.cells.toArray.all (·.oneCell') = true := by decide +kernel
theorem built_l0 : Try.prog.built 55 [(0, .int .u64 1), (1, .int .i64 2), (2, .int .u32 1), (3, .int .i64 1), (4, .int .i64 1)] = some l0.cells.toArray := by unfold Lab.cells; kernel_rfl
section
variable (A : Option Addr) (c : Nat)
theorem tA_next : nextL (tA A c) 3 = [1, 2] := by
  have h := t0_next 0
  exact h
theorem tA_jn2 : jnB (tA A c) 3 2 = true := by
  have h : jnB (tA none 0) 3 2 = true := by decide +kernel
  exact h
theorem tA_jn1 : jnB (tA A c) 3 1 = true := by
  have h : jnB (tA none 0) 3 1 = true := by decide +kernel
  exact h
theorem tA_jn3 : jnB (tA A c) 3 3 = false := by
  have h : jnB (tA none 0) 3 3 = false := by decide +kernel
  exact h
theorem tA_toward {l : List Nat} (h : TwL (tA A c) 3 2 1 l) : l = [1] := t0_toward (g := 0) h
theorem tA_back {l : List Nat} (h : TwL (tA A c) 3 1 1 l) : l = [] := t0_back (g := 0) h
theorem x2_enc : encR (x2 A c) [1, 2] = [1, 1, 1, 0] := by
  have h : encR (x2 none 0) [1, 2] = [1, 1, 1, 0] := by decide +kernel
  exact h
theorem x0_le : ∀ i, (x0 A c).c i ≤ 1000 := fun i => by show (0 : Nat) ≤ 1000; omega
theorem x1_le : ∀ i, (x1 A c).c i ≤ 1000 := fun i => by
  have := went_le [1] ((x0 A c).came 1) 1 (put_le (M := 0) (fun i => Nat.le_refl _) (by show (0 : Nat) + 1 ≤ 0 + 1; omega)) i
  unfold x1
  simp at this
  omega
theorem x2_le : ∀ i, (x2 A c).c i ≤ 1000 := fun i => by
  have h1 : ∀ i, (x1 A c).c i ≤ 2 := fun i => by
    have := went_le [1] ((x0 A c).came 1) 1 (put_le (M := 0) (fun i => Nat.le_refl _) (by show (0 : Nat) + 1 ≤ 0 + 1; omega)) i
    unfold x1
    simp at this
    omega
  have := put_le (x := x1 A c) (M := 2) (i := 0 * 2) (v := (x1 A c).c (0 * 2) + 1) h1 (by have := h1 (0 * 2); omega) i
  show (((x1 A c).came 0).c i) ≤ 1000
  unfold R.came
  omega
end
section
variable (W : World) {g B d : Nat} {A : Option Addr} {c : Nat}
theorem t0_new (hR : RowsOf ec 2 W (t0 g).A (t0 g).es) : Calls Try.prog 8 #[.agg (t0 g).cells.toArray, .int .i64 3] W fun e W' => ∃ A c d, e = .returned (.tuple #[.pointer (some ⟨d, 0, none⟩), .int .i64 0]) ∧ RP W' W.heap.size d (x0 A c) ∧ Below W.heap.size W W' :=
  (Rl.new_any W (t0 g) hR (by show (2 : Nat) ≤ 100000; omega) 3).mono (by
    rintro e w ⟨b, hP, hb, ⟨rfl, -⟩ | ⟨-, hk, -⟩ | ⟨-, -, A, c, d, rfl, h⟩⟩
    · exact absurd (Rl.right_uniq hP (t0_right g)) (by decide)
    · exact absurd (show kindV (t0 g).k 3 = 3 from (by decide +kernel : kindV k0 3 = 3)) hk
    · exact ⟨A, c, d, rfl, h, hb⟩)
theorem t0_new2 (hR : RowsOf ec 2 W (t0 g).A (t0 g).es) : Calls Try.prog 8 #[.agg (t0 g).cells.toArray, .int .i64 2] W fun e W' => e = .returned (.tuple #[.pointer none, .int .i64 11]) ∧ Below W.heap.size W W' :=
  (Rl.new_any W (t0 g) hR (by show (2 : Nat) ≤ 100000; omega) 2).mono (by
    rintro e w ⟨b, hP, hb, ⟨rfl, -⟩ | ⟨-, hk, rfl⟩ | ⟨-, hk, -⟩⟩
    · exact absurd (Rl.right_uniq hP (t0_right g)) (by decide)
    · exact ⟨rfl, hb⟩
    · exact absurd hk (show kindV (t0 g).k 2 ≠ 3 from (by decide +kernel : kindV k0 2 ≠ 3)))
theorem t0_hear2 (h : RP W B d (x0 A c)) : Calls Try.prog 15 #[.pointer (some ⟨d, 0, none⟩), .int .i64 2, .agg l0.cells.toArray] W fun e W' => ∃ v, e = .returned (.tuple #[v, .int .i64 0]) ∧ Nds W' W.heap.size v [1] ∧ RP W' B d (x1 A c) ∧ Tn B d W W' :=
  (hear_any W h (by show (3 : Int) ≠ 0; decide) (by show (2 : Nat) ≤ 1000000; omega) (x0_le A c) 2 l0 (by decide)).mono (by
    rintro e w ⟨v, L, er, y, rfl, hN, hY, hT, ⟨h1, -⟩ | ⟨-, h1, -⟩ | ⟨-, -, rfl, h1, rfl⟩⟩
    · exact absurd ((tA_jn2 A c).symm.trans h1) (by decide)
    · exact absurd (l0_right.symm.trans h1) (by decide)
    · obtain rfl := tA_toward A c h1
      exact ⟨v, rfl, hN, hY, hT⟩)
theorem t0_hear1 (h : RP W B d (x1 A c)) : Calls Try.prog 15 #[.pointer (some ⟨d, 0, none⟩), .int .i64 1, .agg l0.cells.toArray] W fun e W' => ∃ v, e = .returned (.tuple #[v, .int .i64 0]) ∧ Nds W' W.heap.size v [] ∧ RP W' B d (x2 A c) ∧ Tn B d W W' :=
  (hear_any W h (by show (3 : Int) ≠ 0; decide) (by show (2 : Nat) ≤ 1000000; omega) (x1_le A c) 1 l0 (by decide)).mono (by
    rintro e w ⟨v, L, er, y, rfl, hN, hY, hT, ⟨h1, -⟩ | ⟨-, h1, -⟩ | ⟨-, -, rfl, h1, rfl⟩⟩
    · exact absurd ((tA_jn1 A c).symm.trans h1) (by decide)
    · exact absurd (l0_right.symm.trans h1) (by decide)
    · obtain rfl := tA_back A c h1
      exact ⟨v, rfl, hN, hY, hT⟩)
theorem t0_hear3 (h : RP W B d (x2 A c)) : Calls Try.prog 15 #[.pointer (some ⟨d, 0, none⟩), .int .i64 3, .agg l0.cells.toArray] W fun e W' => ∃ v, e = .returned (.tuple #[v, .int .i64 11]) ∧ Nds W' W.heap.size v [] ∧ RP W' B d (x2 A c) ∧ Tn B d W W' :=
  (hear_any W h (by show (3 : Int) ≠ 0; decide) (by show (2 : Nat) ≤ 1000000; omega) (x2_le A c) 3 l0 (by decide)).mono (by
    rintro e w ⟨v, L, er, y, rfl, hN, hY, hT, ⟨-, rfl, rfl, rfl⟩ | ⟨h1, -⟩ | ⟨h1, -⟩⟩
    · exact ⟨v, rfl, hN, hY, hT⟩
    · exact absurd ((tA_jn3 A c).symm.trans h1) (by decide)
    · exact absurd ((tA_jn3 A c).symm.trans h1) (by decide))
theorem t0_save (h : RP W B d (x2 A c)) : Calls Try.prog 12 #[.pointer (some ⟨d, 0, none⟩)] W fun e W' => e = .returned (.string ⟨#[1, 1, 1, 0]⟩) ∧ Below W.heap.size W W' :=
  (save_any W h (by show (2 : Nat) ≤ 1000000; omega) (fun i => Nat.le_trans (x2_le A c i) (by decide))).mono (by
    rintro e w ⟨rfl, hb⟩
    refine ⟨?_, hb⟩
    have h1 : encR (x2 A c) (nextL (x2 A c).t (x2 A c).nd) = [1, 1, 1, 0] := (congrArg (encR (x2 A c)) (tA_next A c)).trans (x2_enc A c)
    rw [h1]
    first | (unfold Byt.bstr; rfl) | (simp [Byt.bstr]; done) | decide +kernel)
theorem t0_count (h : RP W B d (x2 A c)) : Calls Try.prog 19 #[.pointer (some ⟨d, 0, none⟩), .int .i64 1] W fun e W' => e = .returned (.tuple #[.int .u64 1, .int .u64 1]) ∧ Below W.heap.size W W' :=
  count_any W h (k := 0) (by decide)
end
set_option maxRecDepth 20000 in
set_option maxHeartbeats 8000000 in
theorem alive_any (W : World) : Calls Try.prog 6 #[] W fun e W' => e = .returned (.bool true) ∧ Below W.heap.size W W' := by
  go_enter Try.func6, Try.ntmps6
  go_wp2_with fail
  refine (Tr.small_any W).mono ?_
  rintro e w1 ⟨g, rfl, hR, hb⟩
  have HB1 := Lib.hid hb
  have HN := Lib.hid (t0_new w1 hR)
  clear hb hR
  go_wp2_with fail
  refine HN.out.mono ?_
  rintro e w2 ⟨A, c, d, rfl, hP, hb⟩
  have HP2 := Lib.hid hP
  have HB2 := Lib.hid (HB1.out.trans (hb.mono HB1.out.size))
  have HBW := Lib.hid HB1.out.size
  clear hP hb HN HB1
  go_wp2_with fail
  refine (Tr.small_any w2).mono ?_
  rintro e w3 ⟨g', rfl, hR, hb⟩
  have HP3 := Lib.hid (HP2.out.next hb)
  have HB3 := Lib.hid (HB2.out.trans (hb.mono HB2.out.size))
  have HN := Lib.hid (t0_new2 w3 hR)
  clear hb hR HP2 HB2
  go_wp2_with fail
  refine HN.out.mono ?_
  rintro e w4 ⟨rfl, hb⟩
  have HP4 := Lib.hid (HP3.out.next hb)
  have HB4 := Lib.hid (HB3.out.trans (hb.mono HB3.out.size))
  clear hb HP3 HB3 HN
  go_upto_region 4 with (first | (refine Nd.wpList_build_lit l0.cells.toArray rfl 55 _ rfl built_l0 ?_) | (refine wpList_store_blk rfl 55 _ _ rfl w4.heap.size 55 #[.int .u64 0, .int .i64 0, .int .u32 0, .int .i64 0, .int .i64 0, .int .u32 0, .int .u32 0, .int .u32 0, .int .u32 0, .int .u32 0, .int .u32 0, .int .u32 0, .int .u32 0, .int .u32 0, .int .u32 0, .int .u32 0, .int .u32 0] l0.cells.toArray rfl rfl (Blk.new w4 _ _) (linfoA l0) l0_siz l0_all ?_; intro hrow; clear hrow))
  rw [Wr.alloc_setRow]
  have hx := Blk.new w4 55 l0.cells.toArray
  have hb5 := (Below.refl w4.heap.size w4).alloc (Nat.le_refl _) (.cells l0.cells.toArray 55)
  obtain ⟨w5, hw5⟩ : ∃ w5, w5 = w4.alloc (.cells l0.cells.toArray 55) := ⟨_, rfl⟩
  rw [← hw5] at hx hb5 ⊢
  have HGD := Lib.hid (show w4.heap.size ≠ d by have := HP4.out.lt; omega)
  obtain ⟨gl, hgl⟩ : ∃ gl, gl = w4.heap.size := ⟨_, rfl⟩
  rw [← hgl] at hx HGD
  (try rw [← hgl])
  have HX5 := Lib.hid hx
  have HP5 := Lib.hid (HP4.out.next hb5)
  have HB5 := Lib.hid (HB4.out.trans (hb5.mono HB4.out.size))
  have hr0 := hx.range
  clear hx hb5 hw5 hgl HP4 HB4
  have HH := Lib.hid (t0_hear2 w5 HP5.out)
  go_wp2_with (refine load_midg rfl 55 _ rfl _ _ rfl l0.cells _ hr0 Try.underlying55 rfl (linfo l0) ?_; (try simp only [Act.put, List.setIfInBounds_toArray, List.set_cons_zero, List.set_cons_succ]))
  refine HH.out.mono ?_
  rintro e w6 ⟨v6, rfl, hN, hY, hT⟩
  have HN6 := Lib.hid hN
  have HP6 := Lib.hid hY
  have HX6 := Lib.hid (show Blk w6 gl 55 l0.cells.toArray from (hT.2 gl HX5.out.lt HGD.out).trans HX5.out)
  have HB6 := Lib.hid (HB5.out.trans (hT.1.mono HBW.out))
  clear hN hY hT HH hr0 HP5 HX5 HB5
  have hr0 := HX6.out.range
  have HH := Lib.hid (t0_hear1 w6 HP6.out)
  go_wp2_with (refine load_midg rfl 55 _ rfl _ _ rfl l0.cells _ hr0 Try.underlying55 rfl (linfo l0) ?_; (try simp only [Act.put, List.setIfInBounds_toArray, List.set_cons_zero, List.set_cons_succ]))
  refine HH.out.mono ?_
  rintro e w7 ⟨v7, rfl, hN, hY, hT⟩
  have HN6' := Lib.hid (Tn.nds hT HN6.out HP6.out)
  have HN7 := Lib.hid hN
  have HP7 := Lib.hid hY
  have HX7 := Lib.hid (show Blk w7 gl 55 l0.cells.toArray from (hT.2 gl HX6.out.lt HGD.out).trans HX6.out)
  have HB7 := Lib.hid (HB6.out.trans (hT.1.mono HBW.out))
  clear hN hY hT HH hr0 HP6 HX6 HB6 HN6
  have hr0 := HX7.out.range
  have HH := Lib.hid (t0_hear3 w7 HP7.out)
  go_wp2_with (refine load_midg rfl 55 _ rfl _ _ rfl l0.cells _ hr0 Try.underlying55 rfl (linfo l0) ?_; (try simp only [Act.put, List.setIfInBounds_toArray, List.set_cons_zero, List.set_cons_succ]))
  refine HH.out.mono ?_
  rintro e w8 ⟨v8, rfl, hN, hY, hT⟩
  have HN6 := Lib.hid (Tn.nds hT HN6'.out HP7.out)
  have HN8 := Lib.hid (Tn.nds hT HN7.out HP7.out)
  have HP8 := Lib.hid hY
  have HB8 := Lib.hid (HB7.out.trans (hT.1.mono HBW.out))
  clear hN hY hT HH hr0 HP7 HX7 HB7 HN6' HN7
  have HH := Lib.hid (t0_count w8 HP8.out)
  go_wp2_with fail
  refine HH.out.mono ?_
  rintro e w9 ⟨rfl, hb⟩
  have HN9 := Lib.hid (HN6.out.next hb)
  have HN9' := Lib.hid (HN8.out.next hb)
  have HP9 := Lib.hid (HP8.out.next hb)
  have HB9 := Lib.hid (HB8.out.trans (hb.mono HB8.out.size))
  clear hb HH HP8 HB8 HN6 HN8
  obtain ⟨g6, o6, c6, ev6, -, cc6⟩ := HN9.out.at_ (i := 0) (n := 1) rfl
  obtain ⟨A7, c7, ev7⟩ := HN9'.out.shape
  subst ev6
  subst ev7
  have d1 : w9.cell? ⟨g6, o6, none⟩ = some (.int .i64 1) := cc6
  clear cc6 HN9 HN9'
  have HNO := Lib.hid (Rl.node_any w9 HP9.out)
  have HSV := Lib.hid (t0_save w9 HP9.out)
  go_wp2_with fail
  refine HNO.out.mono ?_
  rintro e w10 ⟨rfl, rfl⟩
  go_wp2_with fail
  refine HSV.out.mono ?_
  rintro e w11 ⟨rfl, hb⟩
  have HB11 := Lib.hid (HB9.out.trans (hb.mono HB9.out.size))
  clear hb d1
  go_wp2_with fail
  go_ret
  exact ⟨rfl, HB11.out⟩
end Rl
end Go.Proofs.Ytohnhokddbeheaa
