/-
link: LinkOnce's walk.
-/
import Derived.Test.YthiclefiliedjaaLk38
import Derived.Deep.CutBlock
namespace Go.Proofs.Ythiclefiliedjaa
open Go.RowKit
set_option linter.unusedSimpArgs false
set_option linter.unusedVariables false
namespace Lk
theorem ms_start {W w1 w2 : World} (h1 : LK w1 W.heap.size W.heap.size (fun k => k = W.heap.size) ⟨1, 1, []⟩ ∧ Below W.heap.size W w1 ∧ w1.heap.size = W.heap.size + 1) (h2 : LK w2 w1.heap.size w1.heap.size (fun k => k = w1.heap.size) ⟨1, 1, []⟩ ∧ Below w1.heap.size w1 w2 ∧ w2.heap.size = w1.heap.size + 1) :
    MS W (w2.alloc (.cells #[.pointer (some ⟨W.heap.size, 0, none⟩), .pointer (some ⟨w1.heap.size, 0, none⟩), .slice none 0 0, .slice none 0 0, .slice none 0 0] 56)) w2.heap.size W.heap.size w1.heap.size ⟨[], 0, 0⟩ [] := by
  obtain ⟨k1, b1, z1⟩ := h1
  obtain ⟨k2, b2, z2⟩ := h2
  have ba := (Below.refl w2.heap.size w2).alloc (Nat.le_refl _) (.cells #[.pointer (some ⟨W.heap.size, 0, none⟩), .pointer (some ⟨w1.heap.size, 0, none⟩), .slice none 0 0, .slice none 0 0, .slice none 0 0] 56)
  have hz : (w2.alloc (.cells #[.pointer (some ⟨W.heap.size, 0, none⟩), .pointer (some ⟨w1.heap.size, 0, none⟩), .slice none 0 0, .slice none 0 0, .slice none 0 0] 56)).heap.size = w2.heap.size + 1 := by simp
  have hP : ∀ k, MP w2.heap.size (.slice none 0 0) (.slice none 0 0) (.slice none 0 0) k → k = w2.heap.size := by
    rintro k (e | e | e | e)
    · exact e
    · simp [Value.ownBlock] at e
    · simp [Value.ownBlock] at e
    · simp [Value.ownBlock] at e
  refine ⟨.slice none 0 0, .slice none 0 0, .slice none 0 0, by omega, Blk.new _ _ _, ⟨fun k => k = W.heap.size, fun k => k = w1.heap.size, (k1.next b2).next ba, (k2.less (by omega)).next ba, fun k e1 e2 => by omega, (b1.trans (b2.mono (by omega))).trans (ba.mono (by omega)), fun k hp => ?_, fun k hp => ?_⟩, World.ownsRow_nil _ _ _ _, World.ownsRow_nil _ _ _ _, World.ownsRow_nil _ _ _ _, fun k e => by simp [Value.ownBlock] at e⟩
  · have := hP k hp; exact ⟨by omega, by omega⟩
  · have := hP k hp; exact ⟨by omega, by omega⟩
theorem MS.next {W w w' : World} {g d1 d2 : Nat} {m : Mx} {net : List Th} (h : MS W w g d1 d2 m net) (hb : Below w.heap.size w w') : MS W w' g d1 d2 m net := by
  obtain ⟨vn, vs, vt, h⟩ := h; exact ⟨vn, vs, vt, h.next hb⟩
theorem MS.b {W w : World} {g d1 d2 : Nat} {m : Mx} {net : List Th} (h : MS W w g d1 d2 m net) : Below W.heap.size W w := by
  obtain ⟨vn, vs, vt, h⟩ := h; exact h.b
theorem ms_begins {W w : World} {g d1 d2 : Nat} {m : Mx} {net : List Th} (h : MS W w g d1 d2 m net) (ho : m.Ok net) (hle : m.sent.length ≤ 80) :
    Calls Try.prog 23 #[.pointer (some ⟨g, 0, none⟩)] w fun e w' => e = .returned (.bool true) ∧ Below w.heap.size w w' := by
  obtain ⟨vn, vs, vt, h⟩ := h; exact begins_any h ho hle
theorem ms_again {W w : World} {g d1 d2 : Nat} {m : Mx} {net : List Th} (h : MS W w g d1 d2 m net) (ho : m.Ok net) (hn : net.length ≤ 400) :
    Calls Try.prog 21 #[.pointer (some ⟨g, 0, none⟩)] w fun e w' => e = .returned (.tuple #[]) ∧ MS W w' g d1 d2 m (m.again net) := by
  obtain ⟨vn, vs, vt, h⟩ := h
  refine (again_any h (Nat.le_trans ho.at_ ho.ts) hn).mono ?_
  rintro e w' ⟨rfl, v, h⟩
  exact ⟨rfl, v, vs, vt, h⟩
theorem grown_b {W w w' : World} {v : Value} (h : Below W.heap.size W w) (hg : w.grownBy w' v.ownBlock) (hl : ∀ k, v.ownBlock = some k → W.heap.size ≤ k) : Below W.heap.size W w' :=
  ⟨hg.os.trans h.os, hg.tape.trans h.tape, hg.output.trans h.output, Nat.le_trans h.size hg.size, fun k hk => (hg.block k (Nat.lt_of_lt_of_le hk h.size) (fun e => by have := hl k e.symm; omega)).trans (h.block k hk)⟩
theorem once_wraps (r R1 : Nat) (h : R1 = r + 1) (h2 : r ≤ 1000) : wrap64 ((r : Int) + 1) = (R1 : Nat) ∧ IntKind.i64.wrap ((r : Int) + 1) = (R1 : Nat) := by
  refine ⟨by unfold wrap64; omega, by rw [IntKind.wrap_i64]; omega⟩
theorem own_leT {W : World} {B B' : Nat} {v : Value} {n : Nat} {xs : List Value} (h : W.ownsRow B 60 3 v n xs) (hB : B' ≤ B) : W.ownsRow B' 60 3 v n xs := by
  obtain ⟨hl, h⟩ := h
  refine ⟨hl, h.imp id ?_⟩
  rintro ⟨g, cap, cur, e, hg, r⟩
  exact ⟨g, cap, cur, e, Nat.le_trans hB hg, r⟩
theorem sub_ok {m : Mx} {net net' : List Th} (h : m.Ok net) (hs : ∀ x ∈ net', x ∈ net) : m.Ok net' := ⟨h.at_, h.ts, fun x hx => h.on x (hs x hx)⟩
theorem cut_mem {net : List Th} {i : Nat} : ∀ x ∈ net.take i ++ net.drop (i + 1), x ∈ net := by
  intro x hx
  rcases List.mem_append.1 hx with hx | hx
  · exact List.mem_of_mem_take hx
  · exact List.mem_of_mem_drop hx
theorem ths_src {w : World} {B n c q : Nat} {l : List Th} (h : ∀ (j : Nat) (u : Value), (ths l)[j]? = some u → w.cell? ⟨q, j, none⟩ = some u) (hn : l.length = n) (hc : n ≤ c) (i : Nat) (hi : i ≤ n) :
    Src w (some ⟨q, 0, none⟩) i (ths (l.take i)) ∧ Src w (if c = i then some ⟨q, 0, none⟩ else some ⟨q, i * 3, none⟩) (n - i) (ths (l.drop i)) := by
  constructor
  · refine Or.inl ⟨_, rfl, fun j u hj => ?_⟩
    rw [add_plain, Nat.zero_add]
    rw [ths_take, List.getElem?_take] at hj
    split at hj
    · exact h j u hj
    · cases hj
  · split
    · rename_i e
      have : l.drop i = [] := List.drop_eq_nil_of_le (by omega)
      rw [this]
      exact Or.inl ⟨_, rfl, fun j u hj => by simp [ths] at hj⟩
    · refine Or.inl ⟨_, rfl, fun j u hj => ?_⟩
      rw [ths_drop, List.getElem?_drop] at hj
      rw [add_plain, show i * 3 + j = 3 * i + j by omega]
      exact h _ u hj
set_option maxRecDepth 20000 in
set_option maxHeartbeats 8000000 in
theorem once_walk (W : World) (A : Option Addr) (n c : Nat) (l : List Mv) (hn : l.length = n) (hr : RowsOf Mv.cells 3 W A l) (hok : ∀ x ∈ l, x.Ok W) : Calls Try.prog 4 #[.slice A n c] W fun e W' => e = .returned (.bool true) ∧ Below W.heap.size W W' := by
  have HR := Lib.hid hr
  have HOK := Lib.hid hok
  have HL := Lib.hid hn
  clear hn hr hok
  have HN := Lib.hid (new_any W)
  go_enter Try.func4, Try.ntmps4
  go_upto_region 2 with (go_at_call 8; first | (refine HN.out.mono ?_; rintro e w1 ⟨rfl, h⟩; have H1 := Lib.hid h; clear h HN; have HN2 := Lib.hid (new_any w1)) | (refine HN2.out.mono ?_; rintro e w2 ⟨rfl, h⟩; have H2 := Lib.hid h; clear h HN2))
  have HS := Lib.hid (ms_start H1.out H2.out)
  obtain ⟨w3, hw3⟩ : ∃ w3, w3 = w2.alloc (.cells #[.pointer (some ⟨W.heap.size, 0, none⟩), .pointer (some ⟨w1.heap.size, 0, none⟩), .slice none 0 0, .slice none 0 0, .slice none 0 0] 56) := ⟨_, rfl⟩
  rw [← hw3] at HS ⊢
  obtain ⟨g, hg⟩ : ∃ g, g = w2.heap.size := ⟨_, rfl⟩
  obtain ⟨d1, hd1⟩ : ∃ d, d = W.heap.size := ⟨_, rfl⟩
  obtain ⟨d2, hd2⟩ : ∃ d, d = w1.heap.size := ⟨_, rfl⟩
  rw [← hg, ← hd1, ← hd2] at HS
  rw [← hg]
  clear hw3 hg hd1 hd2 H1 H2
  go_upto_region 3 with fail
  go_loopw [4] (fun i wr => ∃ (k : Nat) (m : Mx) (net : List Th), k ≤ n ∧ k ≤ 80 ∧ i = .int .i64 k ∧ m.sent.length ≤ k ∧ MS W wr g d1 d2 m net ∧ m.Ok net ∧ net.length ≤ 400) (fun i _ => n - (intOf i).toNat)
  case atStart => exact ⟨0, ⟨[], 0, 0⟩, [], Nat.zero_le _, Nat.zero_le _, rfl, Nat.le_refl _, HS.out, ⟨Nat.le_refl _, Nat.le_refl _, fun x hx => (by cases hx)⟩, Nat.zero_le _⟩
  case round =>
    obtain ⟨k, m, net, hkn, hk8, rfl, hsl, hM, hO, hnl⟩ := hrel
    have HM := Lib.hid hM
    have HO := Lib.hid hO
    have HNL := Lib.hid hnl
    have HSL := Lib.hid hsl
    clear HS hM hO hnl hsl
    by_cases hlt : k < n ∧ k < 80
    · have i1 : (k : Int) < (n : Nat) := by omega
      have i2 : (k : Int) < 80 := by omega
      have i3 : (0 : Int) ≤ (k : Nat) := by omega
      have i4 : ¬ (k : Int) < 0 := by omega
      have HLT := Lib.hid hlt
      obtain ⟨x, hx⟩ : ∃ x, l[k]? = some x := ⟨_, List.getElem?_eq_getElem (by rw [HL.out]; exact hlt.1)⟩
      obtain ⟨rg, ro, rfl, hrg, hrr⟩ := mv_row HR.out HM.out.b hx
      have HXW := Lib.hid (HOK.out x (List.mem_of_getElem? hx))
      have HX := Lib.hid (HXW.out.next HM.out.b)
      clear hlt hkn hx
      go_upto_region 6 with (first | (refine wpList_load_mid rfl 58 _ rfl _ _ rfl x.cells _ hrr Try.underlying58 rfl (mvinfo x) ?_) | (refine wpList_store_blk rfl 58 _ _ rfl wr.heap.size 58 #[.int .i64 0, .int .u8 0, .slice none 0 0] x.cells.toArray rfl rfl (Blk.new' rfl) (mvinfoA x) rfl (mv_ones x) ?_; intro _; rw [Wr.alloc_setRow]))
      obtain ⟨w1, hw1⟩ : ∃ w1, w1 = wr.alloc (.cells x.cells.toArray 58) := ⟨_, rfl⟩
      have b1 : Blk w1 wr.heap.size 58 x.cells.toArray := by rw [hw1]; exact Blk.new _ _ _
      have hb1 : Below wr.heap.size wr w1 := by rw [hw1]; exact (Below.refl _ _).alloc (Nat.le_refl _) _
      have hz1 : w1.heap.size = wr.heap.size + 1 := by rw [hw1]; simp
      rw [← hw1]
      have HM1 := Lib.hid (HM.out.next hb1)
      have HB1 := Lib.hid (And.intro hb1 hz1)
      have HBX := Lib.hid b1
      have HX1 := Lib.hid (HX.out.next hb1)
      obtain ⟨bl, hbl⟩ : ∃ bl, bl = x.bs.length := ⟨_, rfl⟩
      obtain ⟨kd, hkd⟩ : ∃ kd, kd = x.k := ⟨_, rfl⟩
      have c0 : w1.cell? ⟨wr.heap.size, 0, none⟩ = some (.int .i64 kd) := by rw [hkd]; exact b1.cell 0
      have c1 : w1.cell? ⟨wr.heap.size, 1, none⟩ = some (.int .u8 (x.n : Nat)) := b1.cell 1
      have c2 : w1.cell? ⟨wr.heap.size, 2, none⟩ = some (.slice x.A bl x.c) := by rw [hbl]; exact b1.cell 2
      have HBL := Lib.hid hbl
      have HKD := Lib.hid hkd
      clear hw1 hb1 hz1 b1 hbl hkd hrr i1 i2 i3 i4
      by_cases h5 : 500 < bl
      · have i1 : (500 : Int) < (bl : Nat) := by omega
        have HG := Lib.hid (alive_any w1)
        clear h5
        go_wp2_with (go_at_call 9; refine HG.out.mono ?_; rintro e wf ⟨rfl, hbf⟩; have HF := Lib.hid hbf; clear hbf HG)
        go_ret
        exact ⟨rfl, HM1.out.b.trans (HF.out.mono HM1.out.b.size)⟩
      have i1 : ¬ (500 : Int) < (bl : Nat) := by omega
      go_upto_region 8 with fail
      clear i1
      by_cases k0 : kd = 0
      · subst k0
        go_upto_region 10 with fail
        obtain ⟨vn, vs, vt, hM1⟩ := HM.out
        have HSD := Lib.hid (hM1.sendK (HB1.out.1.drew) (gx := wr.heap.size) ⟨Nat.le_refl _, by have := HB1.out.2; simp; omega⟩ x.A bl x.c x.bs HBL.out.symm (by rw [HBL.out]; exact (HX1.out.next (Below.refl _ _).drew).src) HX.out.h256)
        obtain ⟨E, hE⟩ : ∃ E, E = sendE m.l1 bl := ⟨_, rfl⟩
        rw [← hE] at HSD
        have HE := Lib.hid hE
        obtain ⟨sn, hsn⟩ : ∃ sn, sn = sendN m.l1 bl := ⟨_, rfl⟩
        rw [← hsn] at HSD
        have hcc : w1.cell? ⟨g, 0, none⟩ = some (.pointer (some ⟨d1, 0, none⟩)) ∧ w1.cell? ⟨wr.heap.size, 2, none⟩ = some (.slice x.A bl x.c) := ⟨(hM1.next HB1.out.1).blk.cell 0, c2⟩
        clear hE hsn hM1
        refine wp_region_tree (S := (fun w' => w'.cell? ⟨g, 0, none⟩ = some (.pointer (some ⟨d1, 0, none⟩)) ∧ w'.cell? ⟨wr.heap.size, 2, none⟩ = some (.slice x.A bl x.c))) (.take 0 (.take 1 (.take 2 (.take 3 (.take 4 (.take 5 (.one 6 (.take 7 (.take 8 (.take 9 (.take 10 (.take 11 .nil)))))))))))) 9999 (by kernel_rfl) (by kernel_rfl) (by kernel_rfl) (by kernel_rfl) (by kernel_rfl) (fun _ _ d _ _ h => by cases d <;> exact h) hcc (fun hHeld => ?_); simp only [Tree.map, List.getElem?_toArray, List.getElem?_cons_zero, List.getElem?_cons_succ]
        (repeat (first | (refine wpTree.take (v := undef) (Or.inr ⟨by rfl, rfl⟩) ?_; simp only [Act.put, List.setIfInBounds_toArray, List.set_cons_zero, List.set_cons_succ]) | (refine wpTree.take (v := ?_) (Or.inl ⟨by rfl, ?_⟩) ?_; rotate_left; (focus (intro _ hS; (try dsimp only at hS); go_split_ands; (try subst hS); go_simp; (try (with_reducible rfl)); done)); simp only [Act.put, List.setIfInBounds_toArray, List.set_cons_zero, List.set_cons_succ])))
        refine wpTree.one (fun K hK => ?_)
        go_simp
        go_at_call 10
        refine (HSD.out).mono ?_
        rintro e w2 ⟨rfl, hM2, hk2⟩
        have HM2 := Lib.hid hM2
        have HBX2 := Lib.hid (show Blk w2 wr.heap.size 58 x.cells.toArray from hk2.trans (HBX.out.drew))
        have hc2 : w2.cell? ⟨wr.heap.size, 2, none⟩ = some (.slice x.A bl x.c) := by rw [HBL.out]; exact HBX2.out.cell 2
        refine hK.out _ _ ⟨hM2.blk.cell 0, hc2⟩ (fun _ => ?_)
        clear hK K hHeld hcc hM2 hk2 c0 c1 c2 HSD
        (try simp only [Act.put, List.setIfInBounds_toArray, List.set_cons_zero, List.set_cons_succ])
        (repeat (first | (refine wpTree.take (v := undef) (Or.inr ⟨by rfl, rfl⟩) ?_; simp only [Act.put, List.setIfInBounds_toArray, List.set_cons_zero, List.set_cons_succ]) | (refine wpTree.take (v := ?_) (Or.inl ⟨by rfl, ?_⟩) ?_; rotate_left; (focus (intro _ hS; (try dsimp only at hS); go_split_ands; (try subst hS); go_simp; (try (with_reducible rfl)); done)); simp only [Act.put, List.setIfInBounds_toArray, List.set_cons_zero, List.set_cons_succ])))
        refine wpTree.done ?_
        by_cases hE0 : E = 0
        · subst hE0
          have HE0 := Lib.hid (show sendE m.l1 x.bs.length = 0 by rw [← HBL.out]; exact HE.out.symm)
          obtain ⟨As, ks, rfl⟩ := own_shape HM2.out.os
          obtain ⟨nl, hnl⟩ : ∃ nl, nl = m.sent.length := ⟨_, rfl⟩
          have HNS := Lib.hid hnl
          have c3 : w2.cell? ⟨g, 3, none⟩ = some (.slice As nl ks) := by rw [hnl]; exact HM2.out.blk.cell 3
          clear hnl
          go_upto_region 12 with fail
          have HX2 := Lib.hid (HXW.out.next HM2.out.b)
          have hsx : Src w2 x.A bl (u8s x.bs) := by rw [HBL.out]; exact HX2.out.src
          have H256 := Lib.hid HXW.out.h256
          have hcc : w2.cell? ⟨g, 3, none⟩ = some (.slice As nl ks) ∧ w2.cell? ⟨wr.heap.size, 2, none⟩ = some (.slice x.A bl x.c) ∧ Src w2 x.A bl (u8s x.bs) := ⟨c3, hc2, hsx⟩
          refine wp_region_treeL (S := (fun w' => w'.cell? ⟨g, 3, none⟩ = some (.slice As nl ks) ∧ w'.cell? ⟨wr.heap.size, 2, none⟩ = some (.slice x.A bl x.c) ∧ Src w' x.A bl (u8s x.bs))) (.take 0 (.take 1 (.take 2 (.take 3 (.take 4 (.take 5 (.take 6 (.take 7 (.one 8 (.one 9 (.take 10 (.take 11 (.last 12))))))))))))) 12 (by kernel_rfl) (by kernel_rfl) (by kernel_rfl) (by kernel_rfl) (by kernel_rfl) (fun _ _ d _ _ h => by cases d <;> exact h) hcc (fun hHeld => ?_); simp only [Tree.map, List.getElem?_toArray, List.getElem?_cons_zero, List.getElem?_cons_succ]
          (repeat (first | (refine wpTree.take (v := undef) (Or.inr ⟨by rfl, rfl⟩) ?_; simp only [Act.put, List.setIfInBounds_toArray, List.set_cons_zero, List.set_cons_succ]) | (refine wpTree.take (v := ?_) (Or.inl ⟨by rfl, ?_⟩) ?_; rotate_left; (focus (intro _ hS; (try dsimp only at hS); go_split_ands; (try subst hS); go_simp; (try (with_reducible rfl)); done)); simp only [Act.put, List.setIfInBounds_toArray, List.set_cons_zero, List.set_cons_succ])))
          refine wpTree.take (v := .string (Byt.bstr x.bs)) (Or.inl ⟨by rfl, ?_⟩) ?_
          focus
            intro wq hS
            have cvq := Byt.conv_src wq x.A bl x.c x.bs hS.2.2 HBL.out.symm H256.out
            go_simp
            done
          simp only [Act.put, List.setIfInBounds_toArray, List.set_cons_zero, List.set_cons_succ]
          (repeat (first | (refine wpTree.take (v := undef) (Or.inr ⟨by rfl, rfl⟩) ?_; simp only [Act.put, List.setIfInBounds_toArray, List.set_cons_zero, List.set_cons_succ]) | (refine wpTree.take (v := ?_) (Or.inl ⟨by rfl, ?_⟩) ?_; rotate_left; (focus (intro _ hS; (try dsimp only at hS); go_split_ands; (try subst hS); go_simp; (try (with_reducible rfl)); done)); simp only [Act.put, List.setIfInBounds_toArray, List.set_cons_zero, List.set_cons_succ])))
          have hb4 := ((Below.refl w2.heap.size w2).alloc (Nat.le_refl _) (.cells (strs [x.bs]).toArray 9)).drew
          have H4 := Lib.hid (HM2.out.next hb4)
          have hs4 : Src (w2.alloc (.cells (strs [x.bs]).toArray 9)).drew (some ⟨w2.heap.size, 0, none⟩) 1 (strs [x.bs]) := Or.inl ⟨_, rfl, fun j u hj => by
            rw [add_plain, Nat.zero_add, (Blk.new w2 9 (strs [x.bs]).toArray).drew.cell, List.getElem?_toArray]; exact hj⟩
          have hc5 : (w2.alloc (.cells (strs [x.bs]).toArray 9)).drew.cell? ⟨g, 3, none⟩ = some (.slice As nl ks) ∧ (w2.alloc (.cells (strs [x.bs]).toArray 9)).drew.cell? ⟨wr.heap.size, 2, none⟩ = some (.slice x.A bl x.c) ∧ Src (w2.alloc (.cells (strs [x.bs]).toArray 9)).drew x.A bl (u8s x.bs) := ⟨by rw [HNS.out]; exact H4.out.blk.cell 3, by rw [HBL.out]; exact (HBX2.out.next hb4).cell 2, by rw [HBL.out]; exact (HX2.out.next hb4).src⟩
          obtain ⟨w4, hw4⟩ : ∃ w4, w4 = (w2.alloc (.cells (strs [x.bs]).toArray 9)).drew := ⟨_, rfl⟩
          rw [← hw4] at hs4 hc5 H4
          have hsb : (strs [x.bs]).toArray = #[.string (Byt.bstr x.bs)] := rfl
          rw [hsb] at hw4
          have hb4z : Below w2.heap.size w2 w4 := by rw [hw4]; exact ((Below.refl w2.heap.size w2).alloc (Nat.le_refl _) _).drew
          refine wpTree.one (fun K hK => ?_)
          go_simp
          rw [← hw4]
          refine hK.out _ _ hc5 (fun _ => ?_)
          clear hK K hHeld hsb hw4 hc5 hb4
          (try simp only [Act.put, List.setIfInBounds_toArray, List.set_cons_zero, List.set_cons_succ])
          have hos : w4.ownsRow W.heap.size 9 1 (.slice As nl ks) nl (strs m.sent) := by rw [HNS.out]; exact H4.out.os
          refine wpTree.one (fun K hK => ?_)
          refine step_app_str w4 (by rfl) _ _ rfl W.heap.size (.slice As nl ks) nl (strs m.sent) rfl hos _ 1 _ (strs [x.bs]) rfl rfl hs4 (by intro u hu; simp [strs] at hu; subst hu; rfl) (by have := HNS.out; have := HSL.out; omega) H4.out.b.size ?_
          intro v9 w9 hown hg9 hloc
          obtain ⟨A8, k8, rfl⟩ := slc_of hown
          have hb0 := H4.out.blk
          have hgn := own_ne H4.out.os hb0 (by decide)
          rw [← HNS.out] at hb0 hgn
          have hb9 : Blk w9 g 56 #[.pointer (some ⟨d1, 0, none⟩), .pointer (some ⟨d2, 0, none⟩), vn, .slice As nl ks, vt] := (hg9.block g H4.out.blk.lt hgn).trans hb0
          have hbx9 : Blk w9 wr.heap.size 58 x.cells.toArray := by
            have h1 := HBX2.out.next hb4z
            have h2 := own_ne hos h1 (by decide)
            exact (hg9.block _ h1.lt h2).trans h1
          have hbw9 : Below W.heap.size W w9 := grown_b H4.out.b hg9 (fun k e => (hos.lt k e).1)
          have c49 := hb9.cell 3
          have z49 := hb9.frozen 3
          refine hK.out _ _ ⟨hb9.cell 3, by rw [HBL.out]; exact hbx9.cell 2, by rw [HBL.out]; exact (HXW.out.next hbw9).src⟩ (fun _ => ?_)
          clear hK K hs4 c3 hcc hc2 hsx hbx9 hbw9 hos hb0 hgn hb4z
          (try simp only [Act.put, List.setIfInBounds_toArray, List.set_cons_zero, List.set_cons_succ])
          (repeat (first | (refine wpTree.take (v := undef) (Or.inr ⟨by rfl, rfl⟩) ?_; simp only [Act.put, List.setIfInBounds_toArray, List.set_cons_zero, List.set_cons_succ]) | (refine wpTree.take (v := ?_) (Or.inl ⟨by rfl, ?_⟩) ?_; rotate_left; (focus (intro _ hS; (try dsimp only at hS); go_split_ands; (try subst hS); go_simp; (try (with_reducible rfl)); done)); simp only [Act.put, List.setIfInBounds_toArray, List.set_cons_zero, List.set_cons_succ])))
          have H3 := Lib.hid (H4.out.pushS x.bs (by rw [← HNS.out]; exact hown) (by rw [← HNS.out]; exact hg9) (by rw [← HNS.out]; exact hloc))
          clear hown hg9 hloc hb9
          refine wpTree.last (fun K hK => ?_)
          go_simp
          refine hK.out _ _ ?_
          clear hK K c49 z49
          (try simp only [Act.put, List.setIfInBounds_toArray, List.set_cons_zero, List.set_cons_succ])
          have HM9 := Lib.hid (show MS W (w9.setCell ⟨g, 3, none⟩ (.slice A8 (nl + 1) k8)) g d1 d2 ⟨m.sent ++ [x.bs], m.a, m.t⟩ net from ⟨vn, _, vt, by
            have h := H3.out
            rw [once_l1_send (Nat.le_trans HO.out.at_ HO.out.ts) x.bs HE0.out] at h
            have e : (m.sent ++ [x.bs]).take m.t = m.sent.take m.t := List.take_append_of_le_length HO.out.ts
            rw [← e] at h
            exact h⟩)
          have HO9 := Lib.hid (once_send HO.out x.bs)
          have HNET9 := HNL
          have HLEN9 := Lib.hid (show (m.sent ++ [x.bs]).length ≤ k + 1 from by have := HSL.out; rw [List.length_append]; show _ + 1 ≤ _; omega)
          clear HE HE0 H3 H4 HM2 HBX2 HX2
          have HG := Lib.hid (ms_begins HM9.out HO9.out (Nat.le_trans HLEN9.out (by have := HLT.out; omega)))
          go_wp2_with (go_at_call 23; refine HG.out.mono ?_; rintro e wf ⟨rfl, hbf⟩; have HF := Lib.hid (HM9.out.next hbf); clear hbf HG)
          go_roundw
          case rel => exact ⟨k + 1, _, _, by have := HLT.out; omega, by have := HLT.out; omega, by have := HLT.out; go_num, HLEN9.out, HF.out, HO9.out, HNET9.out⟩
          case measure => have := HLT.out; simp [intOf]; omega
        · have HM9 := Lib.hid (show MS W w2 g d1 d2 m net from ⟨vn, vs, vt, by
            have h := HM2.out
            rw [show m.l1.send x.bs = m.l1 from by unfold LS.send; rw [← HBL.out, if_neg (by rw [← HE.out]; exact hE0)]] at h
            exact h⟩)
          have HO9 := HO
          have HNET9 := HNL
          have HLEN9 := Lib.hid (show m.sent.length ≤ k + 1 from by have := HSL.out; omega)
          have HG := Lib.hid (ms_begins HM9.out HO9.out (Nat.le_trans HLEN9.out (by have := HLT.out; omega)))
          go_wp2_with (go_at_call 23; refine HG.out.mono ?_; rintro e wf ⟨rfl, hbf⟩; have HF := Lib.hid (HM9.out.next hbf); clear hbf HG)
          go_roundw
          case rel => exact ⟨k + 1, _, _, by have := HLT.out; omega, by have := HLT.out; omega, by have := HLT.out; go_num, HLEN9.out, HF.out, HO9.out, HNET9.out⟩
          case measure => have := HLT.out; simp [intOf]; omega
      by_cases k1 : kd = 1
      · subst k1
        have i1 : ¬ (1 : Int) = 0 := by decide
        have HG := Lib.hid (ms_again HM1.out HO.out HNL.out)
        clear k0
        go_upto_region 25 with (go_at_call 21; refine HG.out.mono ?_; rintro e w9 ⟨rfl, hb⟩; have HM9 := Lib.hid hb; clear hb HG)
        have HO9 := Lib.hid (again_ok HO.out)
        have HNET9 := Lib.hid (again_len (m := m) HNL.out)
        have HLEN9 := Lib.hid (show m.sent.length ≤ k + 1 from by have := HSL.out; omega)
        have HG := Lib.hid (ms_begins HM9.out HO9.out (Nat.le_trans HLEN9.out (by have := HLT.out; omega)))
        go_wp2_with (go_at_call 23; refine HG.out.mono ?_; rintro e wf ⟨rfl, hbf⟩; have HF := Lib.hid (HM9.out.next hbf); clear hbf HG)
        go_roundw
        case rel => exact ⟨k + 1, _, _, by have := HLT.out; omega, by have := HLT.out; omega, by have := HLT.out; go_num, HLEN9.out, HF.out, HO9.out, HNET9.out⟩
        case measure => have := HLT.out; simp [intOf]; omega
      by_cases k2 : kd = 2
      · subst k2
        clear k0 k1
        obtain ⟨vn, vs, vt, hM1⟩ := HM1.out
        obtain ⟨An, kn, rfl⟩ := own_shape hM1.on
        obtain ⟨nl, hnl⟩ : ∃ nl, nl = net.length := ⟨_, rfl⟩
        have HNE := Lib.hid (And.intro hnl (show nl ≤ 400 by rw [hnl]; exact HNL.out))
        have cn : w1.cell? ⟨g, 2, none⟩ = some (.slice An nl kn) := by rw [hnl]; exact hM1.blk.cell 2
        have HM2 := Lib.hid hM1
        clear hM1 hnl
        by_cases h0 : nl = 0
        · subst h0
          go_wp2_with fail
          go_roundw
          case rel => exact ⟨k + 1, _, _, by have := HLT.out; omega, by have := HLT.out; omega, by go_num, by have := HSL.out; omega, HM1.out, HO.out, HNL.out⟩
          case measure => have := HLT.out; simp [intOf]; omega
        have i1 : ¬ (nl : Int) = 0 := by omega
        have i2 : ¬ nl = 0 := h0
        have i3 : (0 : Int) ≤ (x.n : Nat) := by omega
        have i4 : (0 : Int) < (nl : Nat) := by omega
        obtain ⟨r, hr⟩ : ∃ r, r = x.n % nl := ⟨_, rfl⟩
        have hrl : r < nl := by rw [hr]; exact Nat.mod_lt _ (by omega)
        have e1 : IntKind.i64.wrap (x.n : Int) = (x.n : Nat) := by have := HX.out.n256; rw [IntKind.wrap_i64]; omega
        have e2 : Int.tmod (x.n : Int) (nl : Int) = (r : Nat) := by rw [hr]; rfl
        have hm2 := HM2.out.on
        rw [← HNE.out.1] at hm2
        obtain ⟨q, rfl, hq1, hq2, hq3, hq4⟩ := th_own hm2 (by omega)
        obtain ⟨y, hy⟩ : ∃ y, net[r]? = some y := ⟨_, List.getElem?_eq_getElem (by rw [← HNE.out.1]; exact hrl)⟩
        have HY := Lib.hid (And.intro hy (HO.out.on y (List.mem_of_getElem? hy)))
        have HRL := Lib.hid (And.intro hrl (And.intro hq1 hq3))
        have HQ := Lib.hid (And.intro hq2 (And.intro hq3 hq4))
        clear h0 hr hm2 hq1 hq2 hq3 hq4 hy
        go_upto_region 19 with fail
        refine wp_region_tree (S := (fun w' => w' = w1.drew)) (.take 0 (.take 1 (.take 2 (.take 3 (.take 4 (.take 5 (.take 6 (.take 7 (.take 8 (.take 9 .nil)))))))))) 9999 (by kernel_rfl) (by kernel_rfl) (by kernel_rfl) (by kernel_rfl) (by kernel_rfl) (fun _ _ d _ _ h => by cases d <;> exact h) rfl (fun hHeld => ?_); simp only [Tree.map, List.getElem?_toArray, List.getElem?_cons_zero, List.getElem?_cons_succ]
        (repeat (first | (refine wpTree.take (v := undef) (Or.inr ⟨by rfl, rfl⟩) ?_; simp only [Act.put, List.setIfInBounds_toArray, List.set_cons_zero, List.set_cons_succ]) | (refine wpTree.take (v := ?_) (Or.inl ⟨by rfl, ?_⟩) ?_; rotate_left; (focus (intro _ hS; (try dsimp only at hS); go_split_ands; (try subst hS); go_simp; (try (with_reducible rfl)); done)); simp only [Act.put, List.setIfInBounds_toArray, List.set_cons_zero, List.set_cons_succ])))
        refine wpTree.done ?_
        clear e1 e2 i1 i2 i3 i4
        obtain ⟨v1, hv1⟩ : ∃ v1, v1 = w1.drew := ⟨_, rfl⟩
        have hbv : Below w1.heap.size w1 v1 := by rw [hv1]; exact (Below.refl _ _).drew
        have hzv : v1.heap.size = w1.heap.size := by rw [hv1]; rfl
        rw [← hv1]
        have HQ1 := Lib.hid (show ∀ (j : Nat) (u : Value), (ths net)[j]? = some u → v1.cell? ⟨q, j, none⟩ = some u from fun j u hj => (World.cell?_of_block (hbv.block q HRL.out.2.2)).trans (HQ.out.2.2 j u hj))
        have i1 : (r : Int) < (nl : Nat) := by omega
        have i2 : (0 : Int) ≤ (r : Nat) := by omega
        have i3 : ¬ (r : Int) < 0 := by omega
        have hrr : v1.rangeAt q (r * 3) y.cells := fun j v hv => by
          have hj : j < 3 := (List.getElem?_eq_some_iff.1 hv).1
          refine HQ1.out _ _ ?_
          rw [show r * 3 + j = 3 * r + j by omega, ths_get net r y j HY.out.1 hj]
          exact hv
        have cnv : v1.cell? ⟨g, 2, none⟩ = some (.slice (some ⟨q, 0, none⟩) nl kn) := by rw [hv1]; exact cn
        clear hv1 cn
        have HZV := Lib.hid hzv
        clear hzv
        go_upto_region 21 with (first | (refine wpList_load_mid rfl 60 _ rfl _ _ rfl y.cells _ hrr Try.underlying60 rfl (thinfo y) ?_) | (refine wpList_store_blk rfl 60 _ _ rfl v1.heap.size 60 #[.bool false, .int .u64 0, .string ⟨#[]⟩] y.cells.toArray rfl rfl (Blk.new' rfl) (thinfoA y) rfl (th_all y) ?_; intro _; rw [Wr.alloc_setRow]))
        obtain ⟨w2, hw2⟩ : ∃ w2, w2 = v1.alloc (.cells y.cells.toArray 60) := ⟨_, rfl⟩
        have b2 : Blk w2 v1.heap.size 60 y.cells.toArray := by rw [hw2]; exact Blk.new _ _ _
        have hb2 : Below w1.heap.size w1 w2 := hbv.trans (by rw [hw2, ← HZV.out]; exact (Below.refl _ _).alloc (Nat.le_refl _) _)
        rw [← hw2]
        rw [HZV.out] at b2 ⊢
        have HM3 := Lib.hid (HM2.out.next hb2)
        have HY2 := Lib.hid b2
        have HBX2 := Lib.hid (HBX.out.next hb2)
        have cn2 : w2.cell? ⟨g, 2, none⟩ = some (.slice (some ⟨q, 0, none⟩) nl kn) := by rw [HNE.out.1]; exact HM3.out.blk.cell 2
        have cx2 : w2.cell? ⟨wr.heap.size, 0, none⟩ = some (.int .i64 2) := by rw [HKD.out]; exact HBX2.out.cell 0
        have HQ2 := Lib.hid (show ∀ (j : Nat) (u : Value), (ths net)[j]? = some u → w2.cell? ⟨q, j, none⟩ = some u from fun j u hj => (World.cell?_of_block (hb2.block q HRL.out.2.2)).trans (HQ.out.2.2 j u hj))
        have HB2 := Lib.hid hb2
        have HMB := Lib.hid (show g < wr.heap.size from by obtain ⟨_, _, _, h⟩ := HM.out; exact h.blk.lt)
        clear hw2 b2 hb2 hrr c0 c1 c2 cnv i1 i2 i3 HQ1 hbv HZV
        go_upto_region 22 with fail
        obtain ⟨R1, hR1⟩ : ∃ R1, R1 = r + 1 := ⟨_, rfl⟩
        have HR1 := Lib.hid hR1
        have hb := HRL.out.2
        have s1 : (0 : Int) ≤ (r : Nat) := by omega
        have s2 : r ≤ kn := by have := HRL.out.1; omega
        have s3 : R1 ≤ nl := by have := HRL.out.1; omega
        have s4 : (0 : Int) ≤ (R1 : Nat) := by omega
        have s5 : nl ≤ kn := HRL.out.2.1
        obtain ⟨e1, e2⟩ := once_wraps r R1 HR1.out (by have := HNE.out.2; have := HRL.out.1; omega)
        clear hb hR1
        refine wp_region_treeL (S := (fun w' => w'.cell? ⟨g, 2, none⟩ = some (.slice (some ⟨q, 0, none⟩) nl kn))) (.take 0 (.take 2 (.take 3 (.take 4 (.take 5 (.take 6 (.take 7 (.take 9 (.take 10 (.take 11 (.take 12 (.take 13 (.take 14 (.take 15 (.one 1 (.one 8 (.one 16 (.take 17 (.take 18 (.last 19)))))))))))))))))))) 19 (by kernel_rfl) (by kernel_rfl) (by kernel_rfl) (by kernel_rfl) (by kernel_rfl) (fun _ _ d _ _ h => by cases d <;> exact h) cn2 (fun hHeld => ?_); simp only [Tree.map, List.getElem?_toArray, List.getElem?_cons_zero, List.getElem?_cons_succ]
        (repeat (first | (refine wpTree.take (v := undef) (Or.inr ⟨by rfl, rfl⟩) ?_; simp only [Act.put, List.setIfInBounds_toArray, List.set_cons_zero, List.set_cons_succ]) | (refine wpTree.take (v := ?_) (Or.inl ⟨by rfl, ?_⟩) ?_; rotate_left; (focus (intro _ hS; (try dsimp only at hS); go_split_ands; (try subst hS); go_simp; (try (with_reducible rfl)); done)); simp only [Act.put, List.setIfInBounds_toArray, List.set_cons_zero, List.set_cons_succ])))
        clear e1 e2
        have hon0 : ((w2.alloc (.cells #[] 60))).drew.ownsRow w2.heap.size 60 3 (.slice (some ⟨w2.heap.size, 0, none⟩) 0 0) 0 [] := (World.ownsRow_lit (base := w2.heap.size) (size := 3) (e := 60) w2 #[] 0 (Nat.le_refl _) (by unfold maxLen; omega) rfl)
        have hb5 := ((Below.refl w2.heap.size w2).alloc (Nat.le_refl _) (.cells #[] 60)).drew
        obtain ⟨w5, hw5⟩ : ∃ w5, w5 = (w2.alloc (.cells #[] 60)).drew := ⟨_, rfl⟩
        have hz5 : w5.heap.size = w2.heap.size + 1 := by rw [hw5]; simp
        rw [← hw5] at hon0 hb5
        refine wpTree.one (fun K hK => ?_)
        go_simp
        rw [← hw5]
        refine hK.out _ _ (by rw [HNE.out.1]; exact (HM3.out.next hb5).blk.cell 2) (fun _ => ?_)
        clear hK K hHeld hw5 s1 s4
        (try simp only [Act.put, List.setIfInBounds_toArray, List.set_cons_zero, List.set_cons_succ])
        have hq2 : q < w2.heap.size := by have := HRL.out.2.2; have := HB2.out.size; omega
        have hq5 : ∀ (j : Nat) (u : Value), (ths net)[j]? = some u → w5.cell? ⟨q, j, none⟩ = some u := fun j u hj => (World.cell?_of_block (hb5.block q hq2)).trans (HQ2.out j u hj)
        have hs8 := (ths_src (B := 0) (c := kn) (n := nl) hq5 HNE.out.1.symm s5 r (by have := HRL.out.1; omega)).1
        refine wpTree.one (fun K hK => ?_)
        refine step_app_ths w5 (by rfl) _ _ rfl w2.heap.size (.slice (some ⟨w2.heap.size, 0, none⟩) 0 0) 0 [] rfl hon0 _ r _ (ths (net.take r)) rfl (by rw [ths_len, List.length_take, ← HNE.out.1]; have := HRL.out.1; omega) hs8 (ths_ones _) (by have := HRL.out.1; have := HNE.out.2; omega) (by omega) ?_
        intro v8 w8 hown8 hg8 hloc8
        rw [Nat.zero_add, List.nil_append] at hown8
        have hb8 : Below w2.heap.size w2 w8 := grown_b hb5 hg8 (fun k e => (hon0.lt k e).1)
        refine hK.out _ _ (by rw [HNE.out.1]; exact (HM3.out.next hb8).blk.cell 2) (fun _ => ?_)
        clear hK K hs8 hq5 hg8 hloc8 hon0 hb5 hz5
        (try simp only [Act.put, List.setIfInBounds_toArray, List.set_cons_zero, List.set_cons_succ])
        have hq8 : ∀ (j : Nat) (u : Value), (ths net)[j]? = some u → w8.cell? ⟨q, j, none⟩ = some u := fun j u hj => (World.cell?_of_block (hb8.block q hq2)).trans (HQ2.out j u hj)
        have hs16 := (ths_src (B := 0) (c := kn) (n := nl) hq8 HNE.out.1.symm s5 R1 s3).2
        refine wpTree.one (fun K hK => ?_)
        refine step_app_ths w8 (by rfl) _ _ rfl w2.heap.size v8 r (ths (net.take r)) rfl hown8 _ (nl - R1) _ (ths (net.drop R1)) rfl (by rw [ths_len, List.length_drop, ← HNE.out.1]) hs16 (ths_ones _) (by have := HRL.out.1; have := HNE.out.2; omega) hb8.size ?_
        intro v9 w9 hown9 hg9 hloc9
        obtain ⟨N2, hN2⟩ : ∃ N2, N2 = r + (nl - R1) := ⟨_, rfl⟩
        rw [← hN2] at hown9
        have HN2 := Lib.hid hN2
        obtain ⟨A9, k9, rfl⟩ := own_shape hown9
        have hb9 : Below w2.heap.size w2 w9 := grown_b hb8 hg9 (fun k e => (hown8.lt k e).1)
        have c29 : w9.cell? ⟨g, 2, none⟩ = some (.slice (some ⟨q, 0, none⟩) nl kn) := by rw [HNE.out.1]; exact (HM3.out.next hb9).blk.cell 2
        have z29 := (HM3.out.next hb9).blk.frozen 2
        refine hK.out _ _ c29 (fun _ => ?_)
        clear hK K hN2 hs16 hq8 hg9 hloc9 hown8 hb8 s2 s3 s5 cn2 cx2
        (try simp only [Act.put, List.setIfInBounds_toArray, List.set_cons_zero, List.set_cons_succ])
        (repeat (first | (refine wpTree.take (v := undef) (Or.inr ⟨by rfl, rfl⟩) ?_; simp only [Act.put, List.setIfInBounds_toArray, List.set_cons_zero, List.set_cons_succ]) | (refine wpTree.take (v := ?_) (Or.inl ⟨by rfl, ?_⟩) ?_; rotate_left; (focus (intro _ hS; (try dsimp only at hS); go_split_ands; (try subst hS); go_simp; (try (with_reducible rfl)); done)); simp only [Act.put, List.setIfInBounds_toArray, List.set_cons_zero, List.set_cons_succ])))
        have HM4 := Lib.hid (HM3.out.setN (net' := net.take r ++ net.drop R1) (v' := .slice A9 N2 k9) hb9 (by
          rw [List.length_append, List.length_take, List.length_drop, ← HNE.out.1, ths_app, show min r nl + (nl - R1) = N2 by have := HRL.out.1; have := HN2.out; omega]
          exact own_leT hown9 HM3.out.b.size) (fun k e => (hown9.lt k e).1))
        have HB9 := Lib.hid hb9
        clear hown9 hb9
        refine wpTree.last (fun K hK => ?_)
        go_simp
        refine hK.out _ _ ?_
        clear hK K c29 z29
        (try simp only [Act.put, List.setIfInBounds_toArray, List.set_cons_zero, List.set_cons_succ])
        have hgl : g < wr.heap.size := HMB.out
        have hfar : ∀ b, b < w2.heap.size → b ≠ g → (w9.setCell ⟨g, 2, none⟩ (.slice A9 N2 k9)).heap[b]? = w2.heap[b]? := fun b h1 h2 => (Below.heap_setCell w9 ⟨g, 2, none⟩ _ b h2).trans (HB9.out.block b h1)
        obtain ⟨w4, hw4⟩ : ∃ w4, w4 = w9.setCell ⟨g, 2, none⟩ (.slice A9 N2 k9) := ⟨_, rfl⟩
        rw [← hw4] at HM4 hfar ⊢
        have hz1 := HB1.out.2
        have hz2 := HB2.out.size
        have HY4 := Lib.hid (show Blk w4 w1.heap.size 60 y.cells.toArray from (hfar _ HY2.out.lt (by omega)).trans HY2.out)
        have hbx4 : Blk w4 wr.heap.size 58 x.cells.toArray := (hfar _ HBX2.out.lt (by omega)).trans HBX2.out
        have cx2 : w4.cell? ⟨wr.heap.size, 0, none⟩ = some (.int .i64 2) := by rw [HKD.out]; exact hbx4.cell 0
        have HO4 := Lib.hid (show m.Ok (net.take r ++ net.drop R1) from by rw [HR1.out]; exact sub_ok HO.out cut_mem)
        have HNET4 := Lib.hid (show (net.take r ++ net.drop R1).length ≤ 400 from by rw [List.length_append, List.length_take, List.length_drop]; have := HNL.out; have := HR1.out; omega)
        clear hfar hw4 hbx4 HB9 hq2
        go_upto_region 23 with fail
        have HCM := Lib.hid (come_any (show MS W w4 g d1 d2 m (net.take r ++ net.drop R1) from ⟨_, vs, vt, HM4.out⟩) HO4.out y HY.out.2 HNET4.out (by have := HSL.out; omega))
        have HYB := HY4
        go_upto_region 25 with (first | (refine wpList_load_blk (by rfl) 60 _ rfl w1.heap.size rfl 60 y.cells.toArray _ HYB.out Try.underlying60 rfl (thinfoA y) ?_) | (go_at_call 22; refine HCM.out.mono ?_; rintro e w11 ⟨rfl, hm, ho, hl⟩; have HM9 := Lib.hid hm; have HO9 := Lib.hid ho; have HNET9 := Lib.hid hl; clear hm ho hl HCM))
        have HLEN9 := Lib.hid (show (m.come y).sent.length ≤ k + 1 from by rw [come_sent]; have := HSL.out; omega)
        have HG := Lib.hid (ms_begins HM9.out HO9.out (Nat.le_trans HLEN9.out (by have := HLT.out; omega)))
        go_wp2_with (go_at_call 23; refine HG.out.mono ?_; rintro e wf ⟨rfl, hbf⟩; have HF := Lib.hid (HM9.out.next hbf); clear hbf HG)
        go_roundw
        case rel => exact ⟨k + 1, _, _, by have := HLT.out; omega, by have := HLT.out; omega, by have := HLT.out; go_num, HLEN9.out, HF.out, HO9.out, HNET9.out⟩
        case measure => have := HLT.out; simp [intOf]; omega
      by_cases k3 : kd = 3
      · subst k3
        clear k0 k1 k2
        obtain ⟨vn, vs, vt, hM1⟩ := HM1.out
        obtain ⟨An, kn, rfl⟩ := own_shape hM1.on
        obtain ⟨nl, hnl⟩ : ∃ nl, nl = net.length := ⟨_, rfl⟩
        have HNE := Lib.hid (And.intro hnl (show nl ≤ 400 by rw [hnl]; exact HNL.out))
        have cn : w1.cell? ⟨g, 2, none⟩ = some (.slice An nl kn) := by rw [hnl]; exact hM1.blk.cell 2
        have HM2 := Lib.hid hM1
        clear hM1 hnl
        by_cases h0 : nl = 0
        · subst h0
          go_wp2_with fail
          go_roundw
          case rel => exact ⟨k + 1, _, _, by have := HLT.out; omega, by have := HLT.out; omega, by go_num, by have := HSL.out; omega, HM1.out, HO.out, HNL.out⟩
          case measure => have := HLT.out; simp [intOf]; omega
        have i1 : ¬ (nl : Int) = 0 := by omega
        have i2 : ¬ nl = 0 := h0
        have i3 : (0 : Int) ≤ (x.n : Nat) := by omega
        have i4 : (0 : Int) < (nl : Nat) := by omega
        obtain ⟨r, hr⟩ : ∃ r, r = x.n % nl := ⟨_, rfl⟩
        have hrl : r < nl := by rw [hr]; exact Nat.mod_lt _ (by omega)
        have e1 : IntKind.i64.wrap (x.n : Int) = (x.n : Nat) := by have := HX.out.n256; rw [IntKind.wrap_i64]; omega
        have e2 : Int.tmod (x.n : Int) (nl : Int) = (r : Nat) := by rw [hr]; rfl
        have hm2 := HM2.out.on
        rw [← HNE.out.1] at hm2
        obtain ⟨q, rfl, hq1, hq2, hq3, hq4⟩ := th_own hm2 (by omega)
        obtain ⟨y, hy⟩ : ∃ y, net[r]? = some y := ⟨_, List.getElem?_eq_getElem (by rw [← HNE.out.1]; exact hrl)⟩
        have HY := Lib.hid (And.intro hy (HO.out.on y (List.mem_of_getElem? hy)))
        have HRL := Lib.hid (And.intro hrl (And.intro hq1 hq3))
        have HQ := Lib.hid (And.intro hq2 (And.intro hq3 hq4))
        clear h0 hr hm2 hq1 hq2 hq3 hq4 hy
        go_upto_region 19 with fail
        refine wp_region_tree (S := (fun w' => w' = w1.drew)) (.take 0 (.take 1 (.take 2 (.take 3 (.take 4 (.take 5 (.take 6 (.take 7 (.take 8 (.take 9 .nil)))))))))) 9999 (by kernel_rfl) (by kernel_rfl) (by kernel_rfl) (by kernel_rfl) (by kernel_rfl) (fun _ _ d _ _ h => by cases d <;> exact h) rfl (fun hHeld => ?_); simp only [Tree.map, List.getElem?_toArray, List.getElem?_cons_zero, List.getElem?_cons_succ]
        (repeat (first | (refine wpTree.take (v := undef) (Or.inr ⟨by rfl, rfl⟩) ?_; simp only [Act.put, List.setIfInBounds_toArray, List.set_cons_zero, List.set_cons_succ]) | (refine wpTree.take (v := ?_) (Or.inl ⟨by rfl, ?_⟩) ?_; rotate_left; (focus (intro _ hS; (try dsimp only at hS); go_split_ands; (try subst hS); go_simp; (try (with_reducible rfl)); done)); simp only [Act.put, List.setIfInBounds_toArray, List.set_cons_zero, List.set_cons_succ])))
        refine wpTree.done ?_
        clear e1 e2 i1 i2 i3 i4
        obtain ⟨v1, hv1⟩ : ∃ v1, v1 = w1.drew := ⟨_, rfl⟩
        have hbv : Below w1.heap.size w1 v1 := by rw [hv1]; exact (Below.refl _ _).drew
        have hzv : v1.heap.size = w1.heap.size := by rw [hv1]; rfl
        rw [← hv1]
        have HQ1 := Lib.hid (show ∀ (j : Nat) (u : Value), (ths net)[j]? = some u → v1.cell? ⟨q, j, none⟩ = some u from fun j u hj => (World.cell?_of_block (hbv.block q HRL.out.2.2)).trans (HQ.out.2.2 j u hj))
        have i1 : (r : Int) < (nl : Nat) := by omega
        have i2 : (0 : Int) ≤ (r : Nat) := by omega
        have i3 : ¬ (r : Int) < 0 := by omega
        have hrr : v1.rangeAt q (r * 3) y.cells := fun j v hv => by
          have hj : j < 3 := (List.getElem?_eq_some_iff.1 hv).1
          refine HQ1.out _ _ ?_
          rw [show r * 3 + j = 3 * r + j by omega, ths_get net r y j HY.out.1 hj]
          exact hv
        have cnv : v1.cell? ⟨g, 2, none⟩ = some (.slice (some ⟨q, 0, none⟩) nl kn) := by rw [hv1]; exact cn
        clear hv1 cn
        have HZV := Lib.hid hzv
        clear hzv
        go_upto_region 21 with (first | (refine wpList_load_mid rfl 60 _ rfl _ _ rfl y.cells _ hrr Try.underlying60 rfl (thinfo y) ?_) | (refine wpList_store_blk rfl 60 _ _ rfl v1.heap.size 60 #[.bool false, .int .u64 0, .string ⟨#[]⟩] y.cells.toArray rfl rfl (Blk.new' rfl) (thinfoA y) rfl (th_all y) ?_; intro _; rw [Wr.alloc_setRow]))
        obtain ⟨w2, hw2⟩ : ∃ w2, w2 = v1.alloc (.cells y.cells.toArray 60) := ⟨_, rfl⟩
        have b2 : Blk w2 v1.heap.size 60 y.cells.toArray := by rw [hw2]; exact Blk.new _ _ _
        have hb2 : Below w1.heap.size w1 w2 := hbv.trans (by rw [hw2, ← HZV.out]; exact (Below.refl _ _).alloc (Nat.le_refl _) _)
        rw [← hw2]
        rw [HZV.out] at b2 ⊢
        have HM3 := Lib.hid (HM2.out.next hb2)
        have HY2 := Lib.hid b2
        have HBX2 := Lib.hid (HBX.out.next hb2)
        have cn2 : w2.cell? ⟨g, 2, none⟩ = some (.slice (some ⟨q, 0, none⟩) nl kn) := by rw [HNE.out.1]; exact HM3.out.blk.cell 2
        have cx2 : w2.cell? ⟨wr.heap.size, 0, none⟩ = some (.int .i64 3) := by rw [HKD.out]; exact HBX2.out.cell 0
        have HQ2 := Lib.hid (show ∀ (j : Nat) (u : Value), (ths net)[j]? = some u → w2.cell? ⟨q, j, none⟩ = some u from fun j u hj => (World.cell?_of_block (hb2.block q HRL.out.2.2)).trans (HQ.out.2.2 j u hj))
        have HB2 := Lib.hid hb2
        have HMB := Lib.hid (show g < wr.heap.size from by obtain ⟨_, _, _, h⟩ := HM.out; exact h.blk.lt)
        clear hw2 b2 hb2 hrr c0 c1 c2 cnv i1 i2 i3 HQ1 hbv HZV
        go_upto_region 22 with fail
        obtain ⟨R1, hR1⟩ : ∃ R1, R1 = r + 1 := ⟨_, rfl⟩
        have HR1 := Lib.hid hR1
        have hb := HRL.out.2
        have s1 : (0 : Int) ≤ (r : Nat) := by omega
        have s2 : r ≤ kn := by have := HRL.out.1; omega
        have s3 : R1 ≤ nl := by have := HRL.out.1; omega
        have s4 : (0 : Int) ≤ (R1 : Nat) := by omega
        have s5 : nl ≤ kn := HRL.out.2.1
        obtain ⟨e1, e2⟩ := once_wraps r R1 HR1.out (by have := HNE.out.2; have := HRL.out.1; omega)
        clear hb hR1
        refine wp_region_treeL (S := (fun w' => w'.cell? ⟨g, 2, none⟩ = some (.slice (some ⟨q, 0, none⟩) nl kn))) (.take 0 (.take 2 (.take 3 (.take 4 (.take 5 (.take 6 (.take 7 (.take 9 (.take 10 (.take 11 (.take 12 (.take 13 (.take 14 (.take 15 (.one 1 (.one 8 (.one 16 (.take 17 (.take 18 (.last 19)))))))))))))))))))) 19 (by kernel_rfl) (by kernel_rfl) (by kernel_rfl) (by kernel_rfl) (by kernel_rfl) (fun _ _ d _ _ h => by cases d <;> exact h) cn2 (fun hHeld => ?_); simp only [Tree.map, List.getElem?_toArray, List.getElem?_cons_zero, List.getElem?_cons_succ]
        (repeat (first | (refine wpTree.take (v := undef) (Or.inr ⟨by rfl, rfl⟩) ?_; simp only [Act.put, List.setIfInBounds_toArray, List.set_cons_zero, List.set_cons_succ]) | (refine wpTree.take (v := ?_) (Or.inl ⟨by rfl, ?_⟩) ?_; rotate_left; (focus (intro _ hS; (try dsimp only at hS); go_split_ands; (try subst hS); go_simp; (try (with_reducible rfl)); done)); simp only [Act.put, List.setIfInBounds_toArray, List.set_cons_zero, List.set_cons_succ])))
        clear e1 e2
        have hon0 : ((w2.alloc (.cells #[] 60))).drew.ownsRow w2.heap.size 60 3 (.slice (some ⟨w2.heap.size, 0, none⟩) 0 0) 0 [] := (World.ownsRow_lit (base := w2.heap.size) (size := 3) (e := 60) w2 #[] 0 (Nat.le_refl _) (by unfold maxLen; omega) rfl)
        have hb5 := ((Below.refl w2.heap.size w2).alloc (Nat.le_refl _) (.cells #[] 60)).drew
        obtain ⟨w5, hw5⟩ : ∃ w5, w5 = (w2.alloc (.cells #[] 60)).drew := ⟨_, rfl⟩
        have hz5 : w5.heap.size = w2.heap.size + 1 := by rw [hw5]; simp
        rw [← hw5] at hon0 hb5
        refine wpTree.one (fun K hK => ?_)
        go_simp
        rw [← hw5]
        refine hK.out _ _ (by rw [HNE.out.1]; exact (HM3.out.next hb5).blk.cell 2) (fun _ => ?_)
        clear hK K hHeld hw5 s1 s4
        (try simp only [Act.put, List.setIfInBounds_toArray, List.set_cons_zero, List.set_cons_succ])
        have hq2 : q < w2.heap.size := by have := HRL.out.2.2; have := HB2.out.size; omega
        have hq5 : ∀ (j : Nat) (u : Value), (ths net)[j]? = some u → w5.cell? ⟨q, j, none⟩ = some u := fun j u hj => (World.cell?_of_block (hb5.block q hq2)).trans (HQ2.out j u hj)
        have hs8 := (ths_src (B := 0) (c := kn) (n := nl) hq5 HNE.out.1.symm s5 r (by have := HRL.out.1; omega)).1
        refine wpTree.one (fun K hK => ?_)
        refine step_app_ths w5 (by rfl) _ _ rfl w2.heap.size (.slice (some ⟨w2.heap.size, 0, none⟩) 0 0) 0 [] rfl hon0 _ r _ (ths (net.take r)) rfl (by rw [ths_len, List.length_take, ← HNE.out.1]; have := HRL.out.1; omega) hs8 (ths_ones _) (by have := HRL.out.1; have := HNE.out.2; omega) (by omega) ?_
        intro v8 w8 hown8 hg8 hloc8
        rw [Nat.zero_add, List.nil_append] at hown8
        have hb8 : Below w2.heap.size w2 w8 := grown_b hb5 hg8 (fun k e => (hon0.lt k e).1)
        refine hK.out _ _ (by rw [HNE.out.1]; exact (HM3.out.next hb8).blk.cell 2) (fun _ => ?_)
        clear hK K hs8 hq5 hg8 hloc8 hon0 hb5 hz5
        (try simp only [Act.put, List.setIfInBounds_toArray, List.set_cons_zero, List.set_cons_succ])
        have hq8 : ∀ (j : Nat) (u : Value), (ths net)[j]? = some u → w8.cell? ⟨q, j, none⟩ = some u := fun j u hj => (World.cell?_of_block (hb8.block q hq2)).trans (HQ2.out j u hj)
        have hs16 := (ths_src (B := 0) (c := kn) (n := nl) hq8 HNE.out.1.symm s5 R1 s3).2
        refine wpTree.one (fun K hK => ?_)
        refine step_app_ths w8 (by rfl) _ _ rfl w2.heap.size v8 r (ths (net.take r)) rfl hown8 _ (nl - R1) _ (ths (net.drop R1)) rfl (by rw [ths_len, List.length_drop, ← HNE.out.1]) hs16 (ths_ones _) (by have := HRL.out.1; have := HNE.out.2; omega) hb8.size ?_
        intro v9 w9 hown9 hg9 hloc9
        obtain ⟨N2, hN2⟩ : ∃ N2, N2 = r + (nl - R1) := ⟨_, rfl⟩
        rw [← hN2] at hown9
        have HN2 := Lib.hid hN2
        obtain ⟨A9, k9, rfl⟩ := own_shape hown9
        have hb9 : Below w2.heap.size w2 w9 := grown_b hb8 hg9 (fun k e => (hown8.lt k e).1)
        have c29 : w9.cell? ⟨g, 2, none⟩ = some (.slice (some ⟨q, 0, none⟩) nl kn) := by rw [HNE.out.1]; exact (HM3.out.next hb9).blk.cell 2
        have z29 := (HM3.out.next hb9).blk.frozen 2
        refine hK.out _ _ c29 (fun _ => ?_)
        clear hK K hN2 hs16 hq8 hg9 hloc9 hown8 hb8 s2 s3 s5 cn2 cx2
        (try simp only [Act.put, List.setIfInBounds_toArray, List.set_cons_zero, List.set_cons_succ])
        (repeat (first | (refine wpTree.take (v := undef) (Or.inr ⟨by rfl, rfl⟩) ?_; simp only [Act.put, List.setIfInBounds_toArray, List.set_cons_zero, List.set_cons_succ]) | (refine wpTree.take (v := ?_) (Or.inl ⟨by rfl, ?_⟩) ?_; rotate_left; (focus (intro _ hS; (try dsimp only at hS); go_split_ands; (try subst hS); go_simp; (try (with_reducible rfl)); done)); simp only [Act.put, List.setIfInBounds_toArray, List.set_cons_zero, List.set_cons_succ])))
        have HM4 := Lib.hid (HM3.out.setN (net' := net.take r ++ net.drop R1) (v' := .slice A9 N2 k9) hb9 (by
          rw [List.length_append, List.length_take, List.length_drop, ← HNE.out.1, ths_app, show min r nl + (nl - R1) = N2 by have := HRL.out.1; have := HN2.out; omega]
          exact own_leT hown9 HM3.out.b.size) (fun k e => (hown9.lt k e).1))
        have HB9 := Lib.hid hb9
        clear hown9 hb9
        refine wpTree.last (fun K hK => ?_)
        go_simp
        refine hK.out _ _ ?_
        clear hK K c29 z29
        (try simp only [Act.put, List.setIfInBounds_toArray, List.set_cons_zero, List.set_cons_succ])
        have hgl : g < wr.heap.size := HMB.out
        have hfar : ∀ b, b < w2.heap.size → b ≠ g → (w9.setCell ⟨g, 2, none⟩ (.slice A9 N2 k9)).heap[b]? = w2.heap[b]? := fun b h1 h2 => (Below.heap_setCell w9 ⟨g, 2, none⟩ _ b h2).trans (HB9.out.block b h1)
        obtain ⟨w4, hw4⟩ : ∃ w4, w4 = w9.setCell ⟨g, 2, none⟩ (.slice A9 N2 k9) := ⟨_, rfl⟩
        rw [← hw4] at HM4 hfar ⊢
        have hz1 := HB1.out.2
        have hz2 := HB2.out.size
        have HY4 := Lib.hid (show Blk w4 w1.heap.size 60 y.cells.toArray from (hfar _ HY2.out.lt (by omega)).trans HY2.out)
        have hbx4 : Blk w4 wr.heap.size 58 x.cells.toArray := (hfar _ HBX2.out.lt (by omega)).trans HBX2.out
        have cx2 : w4.cell? ⟨wr.heap.size, 0, none⟩ = some (.int .i64 3) := by rw [HKD.out]; exact hbx4.cell 0
        have HO4 := Lib.hid (show m.Ok (net.take r ++ net.drop R1) from by rw [HR1.out]; exact sub_ok HO.out cut_mem)
        have HNET4 := Lib.hid (show (net.take r ++ net.drop R1).length ≤ 400 from by rw [List.length_append, List.length_take, List.length_drop]; have := HNL.out; have := HR1.out; omega)
        clear hfar hw4 hbx4 HB9 hq2
        go_upto_region 23 with fail
        have HM9 := Lib.hid (show MS W w4 g d1 d2 m (net.take r ++ net.drop R1) from ⟨_, vs, vt, HM4.out⟩)
        have HO9 := HO4
        have HNET9 := HNET4
        have HLEN9 := Lib.hid (show m.sent.length ≤ k + 1 from by have := HSL.out; omega)
        have HG := Lib.hid (ms_begins HM9.out HO9.out (Nat.le_trans HLEN9.out (by have := HLT.out; omega)))
        go_wp2_with (go_at_call 23; refine HG.out.mono ?_; rintro e wf ⟨rfl, hbf⟩; have HF := Lib.hid (HM9.out.next hbf); clear hbf HG)
        go_roundw
        case rel => exact ⟨k + 1, _, _, by have := HLT.out; omega, by have := HLT.out; omega, by have := HLT.out; go_num, HLEN9.out, HF.out, HO9.out, HNET9.out⟩
        case measure => have := HLT.out; simp [intOf]; omega
      by_cases k4 : kd = 4
      · subst k4
        clear k0 k1 k2 k3
        obtain ⟨vn, vs, vt, hM1⟩ := HM1.out
        obtain ⟨An, kn, rfl⟩ := own_shape hM1.on
        obtain ⟨nl, hnl⟩ : ∃ nl, nl = net.length := ⟨_, rfl⟩
        have HNE := Lib.hid (And.intro hnl (show nl ≤ 400 by rw [hnl]; exact HNL.out))
        have cn : w1.cell? ⟨g, 2, none⟩ = some (.slice An nl kn) := by rw [hnl]; exact hM1.blk.cell 2
        have HM2 := Lib.hid hM1
        clear hM1 hnl
        by_cases h0 : nl = 0
        · subst h0
          go_wp2_with fail
          go_roundw
          case rel => exact ⟨k + 1, _, _, by have := HLT.out; omega, by have := HLT.out; omega, by go_num, by have := HSL.out; omega, HM1.out, HO.out, HNL.out⟩
          case measure => have := HLT.out; simp [intOf]; omega
        have i1 : ¬ (nl : Int) = 0 := by omega
        have i2 : ¬ nl = 0 := h0
        have i3 : (0 : Int) ≤ (x.n : Nat) := by omega
        have i4 : (0 : Int) < (nl : Nat) := by omega
        obtain ⟨r, hr⟩ : ∃ r, r = x.n % nl := ⟨_, rfl⟩
        have hrl : r < nl := by rw [hr]; exact Nat.mod_lt _ (by omega)
        have e1 : IntKind.i64.wrap (x.n : Int) = (x.n : Nat) := by have := HX.out.n256; rw [IntKind.wrap_i64]; omega
        have e2 : Int.tmod (x.n : Int) (nl : Int) = (r : Nat) := by rw [hr]; rfl
        have hm2 := HM2.out.on
        rw [← HNE.out.1] at hm2
        obtain ⟨q, rfl, hq1, hq2, hq3, hq4⟩ := th_own hm2 (by omega)
        obtain ⟨y, hy⟩ : ∃ y, net[r]? = some y := ⟨_, List.getElem?_eq_getElem (by rw [← HNE.out.1]; exact hrl)⟩
        have HY := Lib.hid (And.intro hy (HO.out.on y (List.mem_of_getElem? hy)))
        have HRL := Lib.hid (And.intro hrl (And.intro hq1 hq3))
        have HQ := Lib.hid (And.intro hq2 (And.intro hq3 hq4))
        clear h0 hr hm2 hq1 hq2 hq3 hq4 hy
        go_upto_region 19 with fail
        refine wp_region_tree (S := (fun w' => w' = w1.drew)) (.take 0 (.take 1 (.take 2 (.take 3 (.take 4 (.take 5 (.take 6 (.take 7 (.take 8 (.take 9 .nil)))))))))) 9999 (by kernel_rfl) (by kernel_rfl) (by kernel_rfl) (by kernel_rfl) (by kernel_rfl) (fun _ _ d _ _ h => by cases d <;> exact h) rfl (fun hHeld => ?_); simp only [Tree.map, List.getElem?_toArray, List.getElem?_cons_zero, List.getElem?_cons_succ]
        (repeat (first | (refine wpTree.take (v := undef) (Or.inr ⟨by rfl, rfl⟩) ?_; simp only [Act.put, List.setIfInBounds_toArray, List.set_cons_zero, List.set_cons_succ]) | (refine wpTree.take (v := ?_) (Or.inl ⟨by rfl, ?_⟩) ?_; rotate_left; (focus (intro _ hS; (try dsimp only at hS); go_split_ands; (try subst hS); go_simp; (try (with_reducible rfl)); done)); simp only [Act.put, List.setIfInBounds_toArray, List.set_cons_zero, List.set_cons_succ])))
        refine wpTree.done ?_
        clear e1 e2 i1 i2 i3 i4
        obtain ⟨v1, hv1⟩ : ∃ v1, v1 = w1.drew := ⟨_, rfl⟩
        have hbv : Below w1.heap.size w1 v1 := by rw [hv1]; exact (Below.refl _ _).drew
        have hzv : v1.heap.size = w1.heap.size := by rw [hv1]; rfl
        rw [← hv1]
        have HQ1 := Lib.hid (show ∀ (j : Nat) (u : Value), (ths net)[j]? = some u → v1.cell? ⟨q, j, none⟩ = some u from fun j u hj => (World.cell?_of_block (hbv.block q HRL.out.2.2)).trans (HQ.out.2.2 j u hj))
        have i1 : (r : Int) < (nl : Nat) := by omega
        have i2 : (0 : Int) ≤ (r : Nat) := by omega
        have i3 : ¬ (r : Int) < 0 := by omega
        have hrr : v1.rangeAt q (r * 3) y.cells := fun j v hv => by
          have hj : j < 3 := (List.getElem?_eq_some_iff.1 hv).1
          refine HQ1.out _ _ ?_
          rw [show r * 3 + j = 3 * r + j by omega, ths_get net r y j HY.out.1 hj]
          exact hv
        have cnv : v1.cell? ⟨g, 2, none⟩ = some (.slice (some ⟨q, 0, none⟩) nl kn) := by rw [hv1]; exact cn
        clear hv1 cn
        have HZV := Lib.hid hzv
        clear hzv
        go_upto_region 21 with (first | (refine wpList_load_mid rfl 60 _ rfl _ _ rfl y.cells _ hrr Try.underlying60 rfl (thinfo y) ?_) | (refine wpList_store_blk rfl 60 _ _ rfl v1.heap.size 60 #[.bool false, .int .u64 0, .string ⟨#[]⟩] y.cells.toArray rfl rfl (Blk.new' rfl) (thinfoA y) rfl (th_all y) ?_; intro _; rw [Wr.alloc_setRow]))
        obtain ⟨w2, hw2⟩ : ∃ w2, w2 = v1.alloc (.cells y.cells.toArray 60) := ⟨_, rfl⟩
        have b2 : Blk w2 v1.heap.size 60 y.cells.toArray := by rw [hw2]; exact Blk.new _ _ _
        have hb2 : Below w1.heap.size w1 w2 := hbv.trans (by rw [hw2, ← HZV.out]; exact (Below.refl _ _).alloc (Nat.le_refl _) _)
        rw [← hw2]
        rw [HZV.out] at b2 ⊢
        have HM3 := Lib.hid (HM2.out.next hb2)
        have HY2 := Lib.hid b2
        have HBX2 := Lib.hid (HBX.out.next hb2)
        have cn2 : w2.cell? ⟨g, 2, none⟩ = some (.slice (some ⟨q, 0, none⟩) nl kn) := by rw [HNE.out.1]; exact HM3.out.blk.cell 2
        have cx2 : w2.cell? ⟨wr.heap.size, 0, none⟩ = some (.int .i64 4) := by rw [HKD.out]; exact HBX2.out.cell 0
        have HQ2 := Lib.hid (show ∀ (j : Nat) (u : Value), (ths net)[j]? = some u → w2.cell? ⟨q, j, none⟩ = some u from fun j u hj => (World.cell?_of_block (hb2.block q HRL.out.2.2)).trans (HQ.out.2.2 j u hj))
        have HB2 := Lib.hid hb2
        have HMB := Lib.hid (show g < wr.heap.size from by obtain ⟨_, _, _, h⟩ := HM.out; exact h.blk.lt)
        clear hw2 b2 hb2 hrr c0 c1 c2 cnv i1 i2 i3 HQ1 hbv HZV
        go_upto_region 23 with fail
        have HCM := Lib.hid (come_any (show MS W w2 g d1 d2 m net from ⟨_, vs, vt, HM3.out⟩) HO.out y HY.out.2 HNL.out (by have := HSL.out; omega))
        have HYB := HY2
        go_upto_region 25 with (first | (refine wpList_load_blk (by rfl) 60 _ rfl w1.heap.size rfl 60 y.cells.toArray _ HYB.out Try.underlying60 rfl (thinfoA y) ?_) | (go_at_call 22; refine HCM.out.mono ?_; rintro e w11 ⟨rfl, hm, ho, hl⟩; have HM9 := Lib.hid hm; have HO9 := Lib.hid ho; have HNET9 := Lib.hid hl; clear hm ho hl HCM))
        have HLEN9 := Lib.hid (show (m.come y).sent.length ≤ k + 1 from by rw [come_sent]; have := HSL.out; omega)
        have HG := Lib.hid (ms_begins HM9.out HO9.out (Nat.le_trans HLEN9.out (by have := HLT.out; omega)))
        go_wp2_with (go_at_call 23; refine HG.out.mono ?_; rintro e wf ⟨rfl, hbf⟩; have HF := Lib.hid (HM9.out.next hbf); clear hbf HG)
        go_roundw
        case rel => exact ⟨k + 1, _, _, by have := HLT.out; omega, by have := HLT.out; omega, by have := HLT.out; go_num, HLEN9.out, HF.out, HO9.out, HNET9.out⟩
        case measure => have := HLT.out; simp [intOf]; omega
      · have HM9 := HM1
        have HO9 := HO
        have HNET9 := HNL
        have HLEN9 := Lib.hid (show m.sent.length ≤ k + 1 from by have := HSL.out; omega)
        have HG := Lib.hid (ms_begins HM9.out HO9.out (Nat.le_trans HLEN9.out (by have := HLT.out; omega)))
        go_wp2_with (go_at_call 23; refine HG.out.mono ?_; rintro e wf ⟨rfl, hbf⟩; have HF := Lib.hid (HM9.out.next hbf); clear hbf HG)
        go_roundw
        case rel => exact ⟨k + 1, _, _, by have := HLT.out; omega, by have := HLT.out; omega, by have := HLT.out; go_num, HLEN9.out, HF.out, HO9.out, HNET9.out⟩
        case measure => have := HLT.out; simp [intOf]; omega
    · have HLT := Lib.hid hlt
      have hc : ((k : Int) < (n : Nat) ∧ ¬ (k : Int) < 80) ∨ ¬ (k : Int) < (n : Nat) := by omega
      have hs80 : m.sent.length ≤ 80 := by have := HSL.out; omega
      have HS80 := Lib.hid hs80
      clear hlt hkn hk8 hs80
      have HEND : True := trivial
      rcases hc with ⟨i1, i2⟩ | i1
      · go_upto_region 28 with fail
        (try clear i2); clear i1
        go_loopw [10] (fun i w6 => ∃ (j : Nat) (m' : Mx) (net' : List Th), j ≤ 3 ∧ i = .int .i64 j ∧ m'.sent.length ≤ 80 ∧ MS W w6 g d1 d2 m' net' ∧ m'.Ok net' ∧ net'.length ≤ 400 ∧ (1 ≤ j → m'.a = m'.sent.length ∧ m'.t = m'.sent.length)) (fun i _ => 3 - (intOf i).toNat)
        case atStart => exact ⟨0, m, net, Nat.zero_le _, rfl, HS80.out, HM.out, HO.out, HNL.out, fun h => absurd h (by omega)⟩
        case round =>
          clear HM HO HNL HSL HS80 HLT HEND
          obtain ⟨j, m2, net2, hj, rfl, hs2, hM2, hO2, hN2, hE2⟩ := hrel
          have HM2 := Lib.hid hM2
          have HO2 := Lib.hid hO2
          have HS2 := Lib.hid hs2
          have HE2 := Lib.hid hE2
          clear hM2 hO2 hN2 hs2 hE2
          by_cases hj3 : j < 3
          · have i1 : (j : Int) < 3 := by omega
            have HJ := Lib.hid hj3
            clear hj3
            obtain ⟨vn, vs, vt, hMt⟩ := HM2.out
            obtain ⟨An, kn, rfl⟩ := own_shape hMt.on
            have c2 : wr.cell? ⟨g, 2, none⟩ = some (.slice An net2.length kn) := hMt.blk.cell 2
            have z2 := hMt.blk.frozen 2
            have HMT := Lib.hid hMt
            clear hMt
            go_upto_region 31 with fail
            clear c2 z2 i1
            obtain ⟨w7, hw7⟩ : ∃ w7, w7 = wr.setCell ⟨g, 2, none⟩ (.slice none 0 0) := ⟨_, rfl⟩
            have HM3 := Lib.hid (show MS W w7 g d1 d2 m2 [] from ⟨.slice none 0 0, vs, vt, by rw [hw7]; exact HMT.out.setN (net' := []) (Below.refl _ _) (World.ownsRow_nil _ _ _ _) (fun k e => by simp [Value.ownBlock] at e)⟩)
            rw [← hw7]
            have HG := Lib.hid (ms_again HM3.out (sub_ok HO2.out (net' := []) (fun x hx => by cases hx)) (Nat.zero_le _))
            rw [again_nil (by have := HS2.out; omega)] at HG
            clear hw7
            go_upto_region 33 with (go_at_call 21; refine HG.out.mono ?_; rintro e w8 ⟨rfl, hb⟩; have HM8 := Lib.hid hb; clear hb HG)
            have HAT := Lib.hid HO2.out.at_
            have HTS := Lib.hid HO2.out.ts
            have HW0 := Lib.hid (show m2.Ok m2.wait from ⟨HAT.out, HTS.out, wait_on m2 (Nat.le_trans HAT.out HTS.out)⟩)
            clear HM3 HMT HM2
            go_loopw [11] (fun i w9 => ∃ q : Nat, q ≤ (m2.netAt q).length ∧ q ≤ 200 ∧ i = .int .i64 q ∧ MS W w9 g d1 d2 (m2.at q) (m2.netAt q) ∧ (m2.at q).Ok (m2.netAt q)) (fun i _ => 200 - (intOf i).toNat)
            case atStart => exact ⟨0, Nat.zero_le _, Nat.zero_le _, rfl, by rw [at_zero HAT.out, netAt_zero]; exact HM8.out, by rw [at_zero HAT.out, netAt_zero]; exact HW0.out⟩
            case round =>
              clear HM8 HW0
              obtain ⟨q, hq, hq2, rfl, hM, hO⟩ := hrel
              have HMQ := Lib.hid hM
              have HOQ := Lib.hid hO
              have HLQ := Lib.hid (And.intro hq (show (m2.netAt q).length = m2.n + min q m2.n ∧ m2.n ≤ 80 from ⟨netAt_len m2 q, by have := HS2.out; unfold Mx.n; omega⟩))
              obtain ⟨vn, vs, vt, hMt⟩ := hM
              obtain ⟨An, kn, rfl⟩ := own_shape hMt.on
              obtain ⟨nl, hnl⟩ : ∃ nl, nl = (m2.netAt q).length := ⟨_, rfl⟩
              have HNE := Lib.hid hnl
              have c2 : wr.cell? ⟨g, 2, none⟩ = some (.slice An nl kn) := by rw [hnl]; exact hMt.blk.cell 2
              have hon : wr.ownsRow W.heap.size 60 3 (.slice An nl kn) nl (ths (m2.netAt q)) := by rw [hnl]; exact hMt.on
              have HON := Lib.hid hon
              clear hO hMt hnl hon hq
              by_cases hlt : q < nl
              · have i1 : (q : Int) < (nl : Nat) := by omega
                have i2 : (0 : Int) ≤ (q : Nat) := by omega
                have i3 : ¬ (q : Int) < 0 := by omega
                have HLT := Lib.hid hlt
                obtain ⟨x, hx, hx1, hx2⟩ := at_step (m := m2) (i := q) HAT.out HTS.out (by have := HS2.out; omega) (by rw [← HNE.out]; exact hlt)
                obtain ⟨b, rfl, hb1, hb2, hb3, hb4⟩ := th_own HON.out (by omega)
                have hrr : wr.rangeAt b (q * 3) x.cells := fun j v hv => by
                  have hj : j < 3 := (List.getElem?_eq_some_iff.1 hv).1
                  refine hb4 _ _ ?_
                  rw [show q * 3 + j = 3 * q + j by omega, ths_get (m2.netAt q) q x j hx hj]
                  exact hv
                have HCM := Lib.hid (come_any HMQ.out HOQ.out x (HOQ.out.on x (List.mem_of_getElem? hx)) (by have := HLQ.out; omega) (by rw [at_sent]; have := HS2.out; omega))
                rw [hx1, hx2] at HCM
                clear hx hx1 hx2 hb1 hb2 hb3 hb4 hlt
                go_upto_region 34 with (first | (refine wpList_load_mid rfl 60 _ rfl _ _ rfl x.cells _ hrr Try.underlying60 rfl (thinfo x) ?_) | (go_at_call 22; refine HCM.out.mono ?_; rintro e w11 ⟨rfl, hm, ho, hl⟩; have HM9 := Lib.hid hm; have HO9 := Lib.hid ho; clear hm ho hl HCM))
                clear i1 i2 i3 hrr c2
                go_wp2_with fail
                go_roundw
                case rel => exact ⟨q + 1, by have := HLQ.out; have := HLT.out; have := HNE.out; rw [netAt_len]; omega, by have := HLQ.out; have := HLT.out; have := HNE.out; omega, by have := HLQ.out; go_num, HM9.out, HO9.out⟩
                case measure => have := HLQ.out; have := HLT.out; have := HNE.out; simp [intOf]; omega
              · have i1 : ¬ (q : Int) < (nl : Nat) := by omega
                have HEE := Lib.hid (at_end (m := m2) (i := q) HAT.out HTS.out (by rw [← HNE.out]; exact hlt) HLQ.out.1)
                clear hlt
                go_wp2_with fail
                go_roundw
                case rel => exact ⟨j + 1, m2.at q, m2.netAt q, by have := HJ.out; omega, by have := HJ.out; go_num, HS2.out, HMQ.out, HOQ.out, by have := HLQ.out; omega, fun _ => HEE.out⟩
                case measure => have := HJ.out; simp [intOf]; omega
          · have i1 : ¬ (j : Int) < 3 := by omega
            have hE := HE2.out (by omega)
            have HE := Lib.hid hE
            clear hj3 hj hE
            go_upto_region 37 with fail
            clear i1
            obtain ⟨vn, vs, vt, hMt⟩ := HM2.out
            obtain ⟨nl, hnl⟩ : ∃ nl, nl = m2.sent.length := ⟨_, rfl⟩
            have htl : (m2.sent.take m2.t).length = nl := by rw [List.length_take, HE.out.2, hnl]; omega
            have hos := hMt.os
            have hot := hMt.ot
            rw [← hnl] at hos
            rw [htl] at hot
            obtain ⟨As, ks, rfl⟩ := own_shape hos
            obtain ⟨At, kt, rfl⟩ := own_shape hot
            have HKC := Lib.hid (show ∀ w, Below wr.heap.size wr w → w.cell? ⟨g, 0, none⟩ = some (.pointer (some ⟨d1, 0, none⟩)) ∧ w.cell? ⟨g, 3, none⟩ = some (.slice As nl ks) ∧ w.cell? ⟨g, 4, none⟩ = some (.slice At nl kt) from fun w hb => ⟨(hMt.next hb).blk.cell 0, (hMt.next hb).blk.cell 3, (hMt.next hb).blk.cell 4⟩)
            have HBG := Lib.hid (show ∀ w, Below wr.heap.size wr w → Calls Try.prog 23 #[.pointer (some ⟨g, 0, none⟩)] w fun e w' => e = .returned (.bool true) ∧ Below w.heap.size w w' from fun w hb => ms_begins (HM2.out.next hb) HO2.out HS2.out)
            have HQU := Lib.hid (show ∀ w, Below wr.heap.size wr w → Calls Try.prog 16 #[.pointer (some ⟨d1, 0, none⟩)] w fun e w' => Below w.heap.size w w' ∧ ∃ A c, e = .returned (.slice A 0 c) from fun w hb => by
              obtain ⟨F, hF⟩ := (hMt.next hb).duo.one
              refine (queue_any w hF).mono ?_
              rintro e w' ⟨hb2, A, c, M, rfl, hM⟩
              refine ⟨hb2, A, c, ?_⟩
              have h1 := hM.2.2.2.1
              have h2 : m2.l1.ts = [] := List.drop_eq_nil_of_le (by rw [HE.out.1]; exact Nat.le_refl _)
              have h3 : M.length = 0 := by rw [← List.length_map (f := It.bs), h1, h2]; rfl
              rw [h3])
            have HBB := Lib.hid HM2.out.b
            clear hMt htl hos hot hnl
            have hcc := HKC.out wr (Below.refl _ _)
            refine wp_region_tree (S := (fun w => w.cell? ⟨g, 0, none⟩ = some (.pointer (some ⟨d1, 0, none⟩)) ∧ w.cell? ⟨g, 3, none⟩ = some (.slice As nl ks) ∧ w.cell? ⟨g, 4, none⟩ = some (.slice At nl kt))) (.one 0 (.take 1 (.take 2 (.one 3 (.take 4 (.take 5 (.take 6 (.take 7 (.take 8 (.take 9 (.take 10 (.take 11 (.take 12 (.take 13 (.take 14 (.take 15 (.take 16 (.take 17 (.take 18 (.take 19 (.take 20 (.take 21 (.take 22 (.one 23 (.take 24 (.take 25 (.take 26 (.take 27 .nil)))))))))))))))))))))))))))) 9999 (by kernel_rfl) (by kernel_rfl) (by kernel_rfl) (by kernel_rfl) (by kernel_rfl) (fun _ _ d _ _ h => by cases d <;> exact h) hcc (fun hHeld => ?_); simp only [Tree.map, List.getElem?_toArray, List.getElem?_cons_zero, List.getElem?_cons_succ]
            refine wpTree.one (fun K hK => ?_)
            go_simp
            go_at_call 9
            refine (alive_any wr.drew).mono ?_
            rintro e w7 ⟨rfl, hb⟩
            have H7 := Lib.hid ((Below.refl wr.heap.size wr).drew.trans hb)
            refine hK.out _ _ (HKC.out _ H7.out) (fun _ => ?_)
            clear hK K hb hHeld hcc
            (try simp only [Act.put, List.setIfInBounds_toArray, List.set_cons_zero, List.set_cons_succ])
            (repeat (first | (refine wpTree.take (v := undef) (Or.inr ⟨by rfl, rfl⟩) ?_; simp only [Act.put, List.setIfInBounds_toArray, List.set_cons_zero, List.set_cons_succ]) | (refine wpTree.take (v := ?_) (Or.inl ⟨by rfl, ?_⟩) ?_; rotate_left; (focus (intro _ hS; (try dsimp only at hS); go_split_ands; (try subst hS); go_simp; (try (with_reducible rfl)); done)); simp only [Act.put, List.setIfInBounds_toArray, List.set_cons_zero, List.set_cons_succ])))
            refine wpTree.one (fun K hK => ?_)
            go_simp
            go_at_call 23
            refine (HBG.out w7 H7.out).mono ?_
            rintro e w8 ⟨rfl, hb⟩
            have H8 := Lib.hid (H7.out.trans (hb.mono H7.out.size))
            refine hK.out _ _ (HKC.out _ H8.out) (fun _ => ?_)
            clear hK K hb
            (try simp only [Act.put, List.setIfInBounds_toArray, List.set_cons_zero, List.set_cons_succ])
            (repeat (first | (refine wpTree.take (v := undef) (Or.inr ⟨by rfl, rfl⟩) ?_; simp only [Act.put, List.setIfInBounds_toArray, List.set_cons_zero, List.set_cons_succ]) | (refine wpTree.take (v := ?_) (Or.inl ⟨by rfl, ?_⟩) ?_; rotate_left; (focus (intro _ hS; (try dsimp only at hS); go_split_ands; (try subst hS); go_simp; (try (with_reducible rfl)); done)); simp only [Act.put, List.setIfInBounds_toArray, List.set_cons_zero, List.set_cons_succ])))
            refine wpTree.one (fun K hK => ?_)
            go_simp
            go_at_call 16
            refine (HQU.out w8 H8.out).mono ?_
            rintro e w9 ⟨hb, A9, c9, rfl⟩
            have H9 := Lib.hid (H8.out.trans (hb.mono H8.out.size))
            refine hK.out _ _ (HKC.out _ H9.out) (fun _ => ?_)
            clear hK K hb
            (try simp only [Act.put, List.setIfInBounds_toArray, List.set_cons_zero, List.set_cons_succ])
            (repeat (first | (refine wpTree.take (v := undef) (Or.inr ⟨by rfl, rfl⟩) ?_; simp only [Act.put, List.setIfInBounds_toArray, List.set_cons_zero, List.set_cons_succ]) | (refine wpTree.take (v := ?_) (Or.inl ⟨by rfl, ?_⟩) ?_; rotate_left; (focus (intro _ hS; (try dsimp only at hS); go_split_ands; (try subst hS); go_simp; (try (with_reducible rfl)); done)); simp only [Act.put, List.setIfInBounds_toArray, List.set_cons_zero, List.set_cons_succ])))
            refine wpTree.done ?_
            go_wp2_with fail
            go_ret
            exact ⟨rfl, HBB.out.trans (H9.out.mono HBB.out.size)⟩
      · go_upto_region 28 with fail
        (try clear i2); clear i1
        go_loopw [10] (fun i w6 => ∃ (j : Nat) (m' : Mx) (net' : List Th), j ≤ 3 ∧ i = .int .i64 j ∧ m'.sent.length ≤ 80 ∧ MS W w6 g d1 d2 m' net' ∧ m'.Ok net' ∧ net'.length ≤ 400 ∧ (1 ≤ j → m'.a = m'.sent.length ∧ m'.t = m'.sent.length)) (fun i _ => 3 - (intOf i).toNat)
        case atStart => exact ⟨0, m, net, Nat.zero_le _, rfl, HS80.out, HM.out, HO.out, HNL.out, fun h => absurd h (by omega)⟩
        case round =>
          clear HM HO HNL HSL HS80 HLT HEND
          obtain ⟨j, m2, net2, hj, rfl, hs2, hM2, hO2, hN2, hE2⟩ := hrel
          have HM2 := Lib.hid hM2
          have HO2 := Lib.hid hO2
          have HS2 := Lib.hid hs2
          have HE2 := Lib.hid hE2
          clear hM2 hO2 hN2 hs2 hE2
          by_cases hj3 : j < 3
          · have i1 : (j : Int) < 3 := by omega
            have HJ := Lib.hid hj3
            clear hj3
            obtain ⟨vn, vs, vt, hMt⟩ := HM2.out
            obtain ⟨An, kn, rfl⟩ := own_shape hMt.on
            have c2 : wr.cell? ⟨g, 2, none⟩ = some (.slice An net2.length kn) := hMt.blk.cell 2
            have z2 := hMt.blk.frozen 2
            have HMT := Lib.hid hMt
            clear hMt
            go_upto_region 31 with fail
            clear c2 z2 i1
            obtain ⟨w7, hw7⟩ : ∃ w7, w7 = wr.setCell ⟨g, 2, none⟩ (.slice none 0 0) := ⟨_, rfl⟩
            have HM3 := Lib.hid (show MS W w7 g d1 d2 m2 [] from ⟨.slice none 0 0, vs, vt, by rw [hw7]; exact HMT.out.setN (net' := []) (Below.refl _ _) (World.ownsRow_nil _ _ _ _) (fun k e => by simp [Value.ownBlock] at e)⟩)
            rw [← hw7]
            have HG := Lib.hid (ms_again HM3.out (sub_ok HO2.out (net' := []) (fun x hx => by cases hx)) (Nat.zero_le _))
            rw [again_nil (by have := HS2.out; omega)] at HG
            clear hw7
            go_upto_region 33 with (go_at_call 21; refine HG.out.mono ?_; rintro e w8 ⟨rfl, hb⟩; have HM8 := Lib.hid hb; clear hb HG)
            have HAT := Lib.hid HO2.out.at_
            have HTS := Lib.hid HO2.out.ts
            have HW0 := Lib.hid (show m2.Ok m2.wait from ⟨HAT.out, HTS.out, wait_on m2 (Nat.le_trans HAT.out HTS.out)⟩)
            clear HM3 HMT HM2
            go_loopw [11] (fun i w9 => ∃ q : Nat, q ≤ (m2.netAt q).length ∧ q ≤ 200 ∧ i = .int .i64 q ∧ MS W w9 g d1 d2 (m2.at q) (m2.netAt q) ∧ (m2.at q).Ok (m2.netAt q)) (fun i _ => 200 - (intOf i).toNat)
            case atStart => exact ⟨0, Nat.zero_le _, Nat.zero_le _, rfl, by rw [at_zero HAT.out, netAt_zero]; exact HM8.out, by rw [at_zero HAT.out, netAt_zero]; exact HW0.out⟩
            case round =>
              clear HM8 HW0
              obtain ⟨q, hq, hq2, rfl, hM, hO⟩ := hrel
              have HMQ := Lib.hid hM
              have HOQ := Lib.hid hO
              have HLQ := Lib.hid (And.intro hq (show (m2.netAt q).length = m2.n + min q m2.n ∧ m2.n ≤ 80 from ⟨netAt_len m2 q, by have := HS2.out; unfold Mx.n; omega⟩))
              obtain ⟨vn, vs, vt, hMt⟩ := hM
              obtain ⟨An, kn, rfl⟩ := own_shape hMt.on
              obtain ⟨nl, hnl⟩ : ∃ nl, nl = (m2.netAt q).length := ⟨_, rfl⟩
              have HNE := Lib.hid hnl
              have c2 : wr.cell? ⟨g, 2, none⟩ = some (.slice An nl kn) := by rw [hnl]; exact hMt.blk.cell 2
              have hon : wr.ownsRow W.heap.size 60 3 (.slice An nl kn) nl (ths (m2.netAt q)) := by rw [hnl]; exact hMt.on
              have HON := Lib.hid hon
              clear hO hMt hnl hon hq
              by_cases hlt : q < nl
              · have i1 : (q : Int) < (nl : Nat) := by omega
                have i2 : (0 : Int) ≤ (q : Nat) := by omega
                have i3 : ¬ (q : Int) < 0 := by omega
                have HLT := Lib.hid hlt
                obtain ⟨x, hx, hx1, hx2⟩ := at_step (m := m2) (i := q) HAT.out HTS.out (by have := HS2.out; omega) (by rw [← HNE.out]; exact hlt)
                obtain ⟨b, rfl, hb1, hb2, hb3, hb4⟩ := th_own HON.out (by omega)
                have hrr : wr.rangeAt b (q * 3) x.cells := fun j v hv => by
                  have hj : j < 3 := (List.getElem?_eq_some_iff.1 hv).1
                  refine hb4 _ _ ?_
                  rw [show q * 3 + j = 3 * q + j by omega, ths_get (m2.netAt q) q x j hx hj]
                  exact hv
                have HCM := Lib.hid (come_any HMQ.out HOQ.out x (HOQ.out.on x (List.mem_of_getElem? hx)) (by have := HLQ.out; omega) (by rw [at_sent]; have := HS2.out; omega))
                rw [hx1, hx2] at HCM
                clear hx hx1 hx2 hb1 hb2 hb3 hb4 hlt
                go_upto_region 34 with (first | (refine wpList_load_mid rfl 60 _ rfl _ _ rfl x.cells _ hrr Try.underlying60 rfl (thinfo x) ?_) | (go_at_call 22; refine HCM.out.mono ?_; rintro e w11 ⟨rfl, hm, ho, hl⟩; have HM9 := Lib.hid hm; have HO9 := Lib.hid ho; clear hm ho hl HCM))
                clear i1 i2 i3 hrr c2
                go_wp2_with fail
                go_roundw
                case rel => exact ⟨q + 1, by have := HLQ.out; have := HLT.out; have := HNE.out; rw [netAt_len]; omega, by have := HLQ.out; have := HLT.out; have := HNE.out; omega, by have := HLQ.out; go_num, HM9.out, HO9.out⟩
                case measure => have := HLQ.out; have := HLT.out; have := HNE.out; simp [intOf]; omega
              · have i1 : ¬ (q : Int) < (nl : Nat) := by omega
                have HEE := Lib.hid (at_end (m := m2) (i := q) HAT.out HTS.out (by rw [← HNE.out]; exact hlt) HLQ.out.1)
                clear hlt
                go_wp2_with fail
                go_roundw
                case rel => exact ⟨j + 1, m2.at q, m2.netAt q, by have := HJ.out; omega, by have := HJ.out; go_num, HS2.out, HMQ.out, HOQ.out, by have := HLQ.out; omega, fun _ => HEE.out⟩
                case measure => have := HJ.out; simp [intOf]; omega
          · have i1 : ¬ (j : Int) < 3 := by omega
            have hE := HE2.out (by omega)
            have HE := Lib.hid hE
            clear hj3 hj hE
            go_upto_region 37 with fail
            clear i1
            obtain ⟨vn, vs, vt, hMt⟩ := HM2.out
            obtain ⟨nl, hnl⟩ : ∃ nl, nl = m2.sent.length := ⟨_, rfl⟩
            have htl : (m2.sent.take m2.t).length = nl := by rw [List.length_take, HE.out.2, hnl]; omega
            have hos := hMt.os
            have hot := hMt.ot
            rw [← hnl] at hos
            rw [htl] at hot
            obtain ⟨As, ks, rfl⟩ := own_shape hos
            obtain ⟨At, kt, rfl⟩ := own_shape hot
            have HKC := Lib.hid (show ∀ w, Below wr.heap.size wr w → w.cell? ⟨g, 0, none⟩ = some (.pointer (some ⟨d1, 0, none⟩)) ∧ w.cell? ⟨g, 3, none⟩ = some (.slice As nl ks) ∧ w.cell? ⟨g, 4, none⟩ = some (.slice At nl kt) from fun w hb => ⟨(hMt.next hb).blk.cell 0, (hMt.next hb).blk.cell 3, (hMt.next hb).blk.cell 4⟩)
            have HBG := Lib.hid (show ∀ w, Below wr.heap.size wr w → Calls Try.prog 23 #[.pointer (some ⟨g, 0, none⟩)] w fun e w' => e = .returned (.bool true) ∧ Below w.heap.size w w' from fun w hb => ms_begins (HM2.out.next hb) HO2.out HS2.out)
            have HQU := Lib.hid (show ∀ w, Below wr.heap.size wr w → Calls Try.prog 16 #[.pointer (some ⟨d1, 0, none⟩)] w fun e w' => Below w.heap.size w w' ∧ ∃ A c, e = .returned (.slice A 0 c) from fun w hb => by
              obtain ⟨F, hF⟩ := (hMt.next hb).duo.one
              refine (queue_any w hF).mono ?_
              rintro e w' ⟨hb2, A, c, M, rfl, hM⟩
              refine ⟨hb2, A, c, ?_⟩
              have h1 := hM.2.2.2.1
              have h2 : m2.l1.ts = [] := List.drop_eq_nil_of_le (by rw [HE.out.1]; exact Nat.le_refl _)
              have h3 : M.length = 0 := by rw [← List.length_map (f := It.bs), h1, h2]; rfl
              rw [h3])
            have HBB := Lib.hid HM2.out.b
            clear hMt htl hos hot hnl
            have hcc := HKC.out wr (Below.refl _ _)
            refine wp_region_tree (S := (fun w => w.cell? ⟨g, 0, none⟩ = some (.pointer (some ⟨d1, 0, none⟩)) ∧ w.cell? ⟨g, 3, none⟩ = some (.slice As nl ks) ∧ w.cell? ⟨g, 4, none⟩ = some (.slice At nl kt))) (.one 0 (.take 1 (.take 2 (.one 3 (.take 4 (.take 5 (.take 6 (.take 7 (.take 8 (.take 9 (.take 10 (.take 11 (.take 12 (.take 13 (.take 14 (.take 15 (.take 16 (.take 17 (.take 18 (.take 19 (.take 20 (.take 21 (.take 22 (.one 23 (.take 24 (.take 25 (.take 26 (.take 27 .nil)))))))))))))))))))))))))))) 9999 (by kernel_rfl) (by kernel_rfl) (by kernel_rfl) (by kernel_rfl) (by kernel_rfl) (fun _ _ d _ _ h => by cases d <;> exact h) hcc (fun hHeld => ?_); simp only [Tree.map, List.getElem?_toArray, List.getElem?_cons_zero, List.getElem?_cons_succ]
            refine wpTree.one (fun K hK => ?_)
            go_simp
            go_at_call 9
            refine (alive_any wr.drew).mono ?_
            rintro e w7 ⟨rfl, hb⟩
            have H7 := Lib.hid ((Below.refl wr.heap.size wr).drew.trans hb)
            refine hK.out _ _ (HKC.out _ H7.out) (fun _ => ?_)
            clear hK K hb hHeld hcc
            (try simp only [Act.put, List.setIfInBounds_toArray, List.set_cons_zero, List.set_cons_succ])
            (repeat (first | (refine wpTree.take (v := undef) (Or.inr ⟨by rfl, rfl⟩) ?_; simp only [Act.put, List.setIfInBounds_toArray, List.set_cons_zero, List.set_cons_succ]) | (refine wpTree.take (v := ?_) (Or.inl ⟨by rfl, ?_⟩) ?_; rotate_left; (focus (intro _ hS; (try dsimp only at hS); go_split_ands; (try subst hS); go_simp; (try (with_reducible rfl)); done)); simp only [Act.put, List.setIfInBounds_toArray, List.set_cons_zero, List.set_cons_succ])))
            refine wpTree.one (fun K hK => ?_)
            go_simp
            go_at_call 23
            refine (HBG.out w7 H7.out).mono ?_
            rintro e w8 ⟨rfl, hb⟩
            have H8 := Lib.hid (H7.out.trans (hb.mono H7.out.size))
            refine hK.out _ _ (HKC.out _ H8.out) (fun _ => ?_)
            clear hK K hb
            (try simp only [Act.put, List.setIfInBounds_toArray, List.set_cons_zero, List.set_cons_succ])
            (repeat (first | (refine wpTree.take (v := undef) (Or.inr ⟨by rfl, rfl⟩) ?_; simp only [Act.put, List.setIfInBounds_toArray, List.set_cons_zero, List.set_cons_succ]) | (refine wpTree.take (v := ?_) (Or.inl ⟨by rfl, ?_⟩) ?_; rotate_left; (focus (intro _ hS; (try dsimp only at hS); go_split_ands; (try subst hS); go_simp; (try (with_reducible rfl)); done)); simp only [Act.put, List.setIfInBounds_toArray, List.set_cons_zero, List.set_cons_succ])))
            refine wpTree.one (fun K hK => ?_)
            go_simp
            go_at_call 16
            refine (HQU.out w8 H8.out).mono ?_
            rintro e w9 ⟨hb, A9, c9, rfl⟩
            have H9 := Lib.hid (H8.out.trans (hb.mono H8.out.size))
            refine hK.out _ _ (HKC.out _ H9.out) (fun _ => ?_)
            clear hK K hb
            (try simp only [Act.put, List.setIfInBounds_toArray, List.set_cons_zero, List.set_cons_succ])
            (repeat (first | (refine wpTree.take (v := undef) (Or.inr ⟨by rfl, rfl⟩) ?_; simp only [Act.put, List.setIfInBounds_toArray, List.set_cons_zero, List.set_cons_succ]) | (refine wpTree.take (v := ?_) (Or.inl ⟨by rfl, ?_⟩) ?_; rotate_left; (focus (intro _ hS; (try dsimp only at hS); go_split_ands; (try subst hS); go_simp; (try (with_reducible rfl)); done)); simp only [Act.put, List.setIfInBounds_toArray, List.set_cons_zero, List.set_cons_succ])))
            refine wpTree.done ?_
            go_wp2_with fail
            go_ret
            exact ⟨rfl, HBB.out.trans (H9.out.mono HBB.out.size)⟩

end Lk
end Go.Proofs.Ythiclefiliedjaa
