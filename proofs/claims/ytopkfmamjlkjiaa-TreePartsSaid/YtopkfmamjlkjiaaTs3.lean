/-
tree: the fixed test of each law.
-/
import Derived.Test.YtopkfmamjlkjiaaTs2
import Derived.Test.YtopkfmamjlkjiaaTi4
namespace Go.Proofs.Ytopkfmamjlkjiaa
open Go.RowKit
set_option linter.unusedSimpArgs false
set_option linter.unusedVariables false
namespace Tr
def tz : Tv := ⟨fun _ => 0, [], none, 0⟩
theorem tz_cells : tz.cells.toArray = #[.int .i64 0, .int .i64 0, .int .i64 0, .int .i64 0, .int .i64 0, .int .i64 0, .int .i64 0, .int .i64 0, .int .i64 0, .int .i64 0, .int .i64 0, .int .i64 0, .slice none 0 0] := by
  rw [kl_zero]
  unfold Tv.cells
  rfl
theorem tz_right : RightP tz true := by
  have h1 : anyB 12 (fun _ => 0) noKindB = false := by decide +kernel
  have h2 : allL tz = [] := by decide +kernel
  exact .inr (.inr (.inl ⟨h1, by rw [h2]; rfl, h2, rfl⟩))
def t1 (g : Nat) : Tv := ⟨k0, [(1, 3)], some ⟨g, 0, none⟩, 2⟩
theorem t1_right (g : Nat) : RightP (t1 g) false := by
  have h1 : anyB 12 k0 noKindB = false := by decide +kernel
  have h2 : (allL (t1 g)).length = 3 := by
    have h : (allL (t1 0)).length = 3 := by decide +kernel
    exact h
  exact .inr (.inl ⟨h1, by rw [h2]; show (1 : Nat) ≠ _; omega, rfl⟩)
section
variable (W : World) (g : Nat) (hr : RowsOf ec 2 W (t0 g).A (t0 g).es)
include hr
theorem t0_next_any : Calls Try.prog 22 #[.agg (t0 g).cells.toArray, .int .i64 3] W fun e W' => ∃ v, e = .returned v ∧ Nds W' W.heap.size v [1, 2] ∧ Below W.heap.size W W' :=
  (next_any W (t0 g) hr (by decide : (2 : Nat) ≤ 1000000) 3).mono (by
    rintro e w' ⟨v, rfl, hN, hb⟩
    have e : (thoseL fun i => jnB (t0 g) 3 (i : Nat)) = [1, 2] := by
      have h : (thoseL fun i => jnB (t0 0) 3 (i : Nat)) = [1, 2] := by decide +kernel
      exact h
    rw [e] at hN
    exact ⟨v, rfl, hN, hb⟩)
theorem t0_beyond_any : Calls Try.prog 23 #[.agg (t0 g).cells.toArray, .int .i64 2, .int .i64 3] W fun e W' => ∃ v, e = .returned v ∧ Nds W' W.heap.size v [1, 3] ∧ Below W.heap.size W W' :=
  (beyond_any W (t0 g) hr (by decide : (2 : Nat) ≤ 1000000) 2 3).mono (by
    rintro e w' ⟨v, rfl, hb, ⟨h1, _⟩ | ⟨_, c, hN, hc⟩⟩
    · have h : jnB (t0 g) 2 3 = true := t0_join g 2 3
      rw [h1] at h; cases h
    · have e : thoseL c = [1, 3] := by
        have e2 : thoseL (fun n => decide (n = 1 ∨ n = 3)) = [1, 3] := by decide +kernel
        rw [← e2]
        refine those_ext fun n _ _ => ?_
        have h2 : c n = true ↔ Rch (aw (joinN (t0 g)) 2) 3 n := by rw [← away_aw]; exact hc n
        rw [Bool.eq_iff_iff, h2, decide_eq_true_eq]
        constructor
        · intro h
          refine rch_closed (c := fun n => n = 1 ∨ n = 3) (.inr rfl) (fun a b _ hj => ?_) h
          have h3 := aw_true.1 hj
          have h4 := h3.2
          rw [t0_join] at h4
          unfold jS at h4
          simp at h4
          omega
        · rintro (rfl | rfl)
          · exact .step .base (by omega) (by omega) (aw_true.2 ⟨by omega, by rw [t0_join]; rfl⟩)
          · exact .base
      rw [e] at hN
      exact ⟨v, rfl, hN, hb⟩)
omit hr in
theorem t0_homes_any : Calls Try.prog 25 #[.agg (t0 g).cells.toArray, .int .i64 5] W fun e W' => ∃ v, e = .returned v ∧ Nds W' W.heap.size v [1] ∧ Below W.heap.size W W' :=
  (homes_any W (t0 g) 5 (by decide)).mono (by
    rintro e w' ⟨v, rfl, hN, hb⟩
    have e : homesL (t0 g) 5 = [1] := by
      have h : homesL (t0 0) 5 = [1] := by decide +kernel
      exact h
    rw [e] at hN
    exact ⟨v, rfl, hN, hb⟩)
end
set_option maxRecDepth 20000 in
set_option maxHeartbeats 16000000 in
theorem alive18_any (W : World) : Calls Try.prog 12 #[] W fun e W' => e = .returned (.bool true) ∧ Below W.heap.size W W' := by
  have HSM := Lib.hid (small_any W)
  go_enter Try.func12, Try.ntmps12
  go_upto_region 2 with (first | (go_at_call 44; refine HSM.out.mono ?_; rintro e w1 ⟨g, rfl, hro, hb⟩; have HR1 := Lib.hid hro; have HB1 := Lib.hid hb; clear hro hb HSM) | (refine wpList_store_blk rfl 25 _ _ rfl w1.heap.size 25 _ (t0 g).cells.toArray rfl rfl (Blk.new' rfl) (tvinfoA (t0 g)) (by rw [t0_cells]; rfl) (by rw [t0_cells]; simp [Value.oneCell']) ?_; intro _; rw [Wr.alloc_setRow]))
  obtain ⟨w2, hw2⟩ : ∃ w2, w2 = w1.alloc (.cells (t0 g).cells.toArray 25) := ⟨_, rfl⟩
  have hb2 : Below w1.heap.size w1 w2 := by rw [hw2]; exact (Below.refl _ _).alloc (Nat.le_refl _) _
  have hx2 : Blk w2 w1.heap.size 25 (t0 g).cells.toArray := by rw [hw2]; exact Blk.new _ _ _
  rw [← hw2]
  clear hw2
  obtain ⟨gb, hgb⟩ : ∃ gb, gb = w1.heap.size := ⟨_, rfl⟩
  rw [← hgb] at hx2
  (try rw [← hgb])
  have HGB := Lib.hid (show W.heap.size ≤ gb ∧ g < gb from ⟨by rw [hgb]; exact HB1.out.size, by
    obtain ⟨b, o, e, h1, _⟩ := HR1.out.resolve_left (by simp [t0])
    simp only [t0, Option.some.injEq, Addr.mk.injEq, and_true] at e
    rw [hgb, e.1]; exact h1⟩)
  clear hgb
  have HX2 := Lib.hid hx2
  have HR2 := Lib.hid (HR1.out.next hb2)
  have HB2 := Lib.hid (HB1.out.trans (hb2.mono HB1.out.size))
  clear hx2 hb2 HR1 HB1
  have hcc : w2.rangeAt gb 0 (t0 g).cells := HX2.out.range
  have HTW := Lib.hid (t0_next_any w2.drew g (HR2.out.next (Below.refl _ _).drew))
  refine wp_region_tree (S := (fun w' => w'.rangeAt gb 0 (t0 g).cells)) (.take 0 (.take 2 (.take 4 (.one 1 (.one 3 (.one 5 (.take 6 (.take 7 (.take 8 .nil))))))))) 9999 (by kernel_rfl) (by kernel_rfl) (by kernel_rfl) (by kernel_rfl) (by kernel_rfl) (fun _ _ d _ _ h => by cases d <;> exact h) hcc (fun hHeld => ?_); simp only [Tree.map, List.getElem?_toArray, List.getElem?_cons_zero, List.getElem?_cons_succ]
  (repeat (first | (refine wpTree.take (v := undef) (Or.inr ⟨by rfl, rfl⟩) ?_; simp only [Act.put, List.setIfInBounds_toArray, List.set_cons_zero, List.set_cons_succ]) | (refine wpTree.take (v := .agg (t0 g).cells.toArray) (yieldsIf_load_mid rfl 25 _ rfl _ _ rfl (t0 g).cells _ (fun _ hS => hS) Try.underlying25 rfl (tvinfo (t0 g))) ?_; simp only [Act.put, List.setIfInBounds_toArray, List.set_cons_zero, List.set_cons_succ]) | (refine wpTree.take (v := ?_) (Or.inl ⟨by rfl, ?_⟩) ?_; rotate_left; (focus (intro _ hS; (try dsimp only at hS); go_split_ands; (try subst hS); go_simp; (try (with_reducible rfl)); done)); simp only [Act.put, List.setIfInBounds_toArray, List.set_cons_zero, List.set_cons_succ])))
  clear hcc
  refine wpTree.one (fun K hK => ?_)
  go_simp
  go_at_call 22
  refine HTW.out.mono ?_
  rintro e w3 ⟨va, rfl, hNa, hb⟩
  have hb3 : Below w2.heap.size w2 w3 := (Below.refl w2.heap.size w2).drew.trans hb
  have HB3 := Lib.hid hb3
  have HNA := Lib.hid hNa
  have HRC := Lib.hid (t0_beyond_any w3 g (HR2.out.next hb3))
  refine hK.out _ _ (rng_next HX2.out.range hb3) (fun _ => ?_)
  clear hK K hHeld hb3 hNa hb HTW
  (try simp only [Act.put, List.setIfInBounds_toArray, List.set_cons_zero, List.set_cons_succ])
  refine wpTree.one (fun K hK => ?_)
  go_simp
  go_at_call 23
  refine HRC.out.mono ?_
  rintro e w4 ⟨vb, rfl, hNb, hb⟩
  have hb4 : Below w2.heap.size w2 w4 := HB3.out.trans (hb.mono HB3.out.size)
  have HB4 := Lib.hid hb4
  have HNB := Lib.hid hNb
  have HNA4 := Lib.hid (HNA.out.next hb)
  have HHO := Lib.hid (t0_homes_any w4 g)
  refine hK.out _ _ (rng_next HX2.out.range hb4) (fun _ => ?_)
  clear hK K hb4 hNb hb HRC HNA HB3
  (try simp only [Act.put, List.setIfInBounds_toArray, List.set_cons_zero, List.set_cons_succ])
  refine wpTree.one (fun K hK => ?_)
  go_simp
  go_at_call 25
  refine HHO.out.mono ?_
  rintro e w5 ⟨vc, rfl, hNc, hb⟩
  have hb5 : Below w2.heap.size w2 w5 := HB4.out.trans (hb.mono HB4.out.size)
  have HB5 := Lib.hid hb5
  have HNC := Lib.hid hNc
  have HNA5 := Lib.hid (HNA4.out.next hb)
  have HNB5 := Lib.hid (HNB.out.next hb)
  refine hK.out _ _ (rng_next HX2.out.range hb5) (fun _ => ?_)
  clear hK K hb5 hNc hb HHO HNA4 HNB HB4
  (try simp only [Act.put, List.setIfInBounds_toArray, List.set_cons_zero, List.set_cons_succ])
  (repeat (first | (refine wpTree.take (v := undef) (Or.inr ⟨by rfl, rfl⟩) ?_; simp only [Act.put, List.setIfInBounds_toArray, List.set_cons_zero, List.set_cons_succ]) | (refine wpTree.take (v := ?_) (Or.inl ⟨by rfl, ?_⟩) ?_; rotate_left; (focus (intro _ hS; (try dsimp only at hS); go_split_ands; (try subst hS); go_simp; (try (with_reducible rfl)); done)); simp only [Act.put, List.setIfInBounds_toArray, List.set_cons_zero, List.set_cons_succ])))
  refine wpTree.done ?_
  obtain ⟨qa, oa, ca, eva, hqa, cc1⟩ := HNA5.out.at_ (i := 1) (n := 2) rfl
  obtain ⟨qb, ob, cb, evb, hqb, cc2⟩ := HNB5.out.at_ (i := 0) (n := 1) rfl
  obtain ⟨qb', ob', cb', evb', -, cc3⟩ := HNB5.out.at_ (i := 1) (n := 3) rfl
  obtain ⟨qc, oc, cpc, evc, hqc, cc4⟩ := HNC.out.at_ (i := 0) (n := 1) rfl
  rw [evb] at evb'
  simp only [Value.slice.injEq, Option.some.injEq, Addr.mk.injEq, and_true, true_and] at evb'
  obtain ⟨⟨rfl, rfl⟩, rfl⟩ := evb'
  subst eva
  subst evb
  subst evc
  have HX5 := Lib.hid (HX2.out.next HB5.out)
  have HR5 := Lib.hid (HR2.out.next HB5.out)
  have HBW := Lib.hid (HB2.out.trans (HB5.out.mono HB2.out.size))
  have hd : w5.cell? ⟨qa, oa + 1, none⟩ = some (.int .i64 2) ∧ w5.cell? ⟨qb, ob, none⟩ = some (.int .i64 1) ∧ w5.cell? ⟨qb, ob + 1, none⟩ = some (.int .i64 3) ∧ w5.cell? ⟨qc, oc, none⟩ = some (.int .i64 1) := ⟨cc1, cc2, cc3, cc4⟩
  have HD := Lib.hid hd
  have HQ := Lib.hid (show (qa < w5.heap.size ∧ qb < w5.heap.size ∧ qc < w5.heap.size) ∧ qa ≠ gb ∧ qb ≠ gb ∧ qc ≠ gb from ⟨⟨hqa, hqb, hqc⟩, fun e => nds_ne HNA5.out HX5.out (by decide) (by rw [e]; rfl), fun e => nds_ne HNB5.out HX5.out (by decide) (by rw [e]; rfl), fun e => nds_ne HNC.out HX5.out (by decide) (by rw [e]; rfl)⟩)
  clear HX2 HR2 HB2 HB5 HNA5 HNB5 HNC cc1 cc2 cc3 cc4 hd hqa hqb hqc
  go_upto_region 4 with fail
  rw [← tz_cells]
  obtain ⟨w6, hw6⟩ : ∃ w6, w6 = w5.alloc (.cells tz.cells.toArray 25) := ⟨_, rfl⟩
  have hb6 : Below w5.heap.size w5 w6 := by rw [hw6]; exact (Below.refl _ _).alloc (Nat.le_refl _) _
  have hx6 : Blk w6 w5.heap.size 25 tz.cells.toArray := by rw [hw6]; exact Blk.new _ _ _
  rw [← hw6]
  clear hw6
  obtain ⟨gu, hgu⟩ : ∃ gu, gu = w5.heap.size := ⟨_, rfl⟩
  rw [← hgu] at hx6
  (try rw [← hgu])
  have HGU := Lib.hid hgu
  have HU6 := Lib.hid hx6
  have HB6 := Lib.hid hb6
  have hr0 : w6.rangeAt gb 0 (t0 g).cells := (HX5.out.next hb6).range
  have HSV := Lib.hid (save_any w6 (t0 g) (HR5.out.next hb6) (right_wk (t0_right g)))
  obtain ⟨bs, hbs⟩ : ∃ bs, bs = encTr (t0 g).k (t0 g).es := ⟨_, rfl⟩
  rw [← hbs] at HSV
  have HGD := Lib.hid (show Good bs (kF k0) [(1, 3), (2, 3)] [] by rw [hbs]; exact good_enc (t0_right g))
  have H256 := Lib.hid (show ∀ x ∈ bs, x < 256 by rw [hbs]; exact encTr_256 _ _)
  have HCV := Lib.hid (fun w => Sx.str_bytes w bs bs.length rfl)
  have hmf : ∀ (fn : Fn) (first cap : Array Value) (w : World), (Instr.makeFunc fn first cap).run Try.prog w = .ok (.func fn first cap) w := fun _ _ _ _ => rfl
  clear hb6 hx6 hgu hbs
  go_upto_region 5 with (first | (refine wpList_load_mid rfl 25 _ rfl _ _ rfl (t0 g).cells _ hr0 Try.underlying25 rfl (tvinfo (t0 g)) ?_) | (go_at_call 15; refine HSV.out.mono ?_; rintro e w7 ⟨rfl, hb⟩; have HB7 := Lib.hid hb; have hcv := HCV.out w7; have HRD := Lib.hid ((read0_any (some ⟨w7.heap.size, 0, none⟩) bs.length (Sx.capS bs w7) gu (w7.drew.alloc (Sx.objS bs w7)) bs tz rfl (by unfold Sx.capS; rw [Byt.bstr_size]; exact grownCap_ge _ _ _ _) (Sx.objS_byr w7 bs H256.out) ((HU6.out.next hb).next ((Below.refl _ _).drew.alloc (Nat.le_refl _) _))).mono (fun e w' h => EndT.yes h HGD.out)); clear hb HSV) | (go_at_call 16; refine HRD.out.mono ?_; rintro e w9 ⟨rfl, hO, hX⟩; have HO := Lib.hid hO; have HX9 := Lib.hid hX; clear hO hX HRD hcv))
  have hb59 : Below w5.heap.size w5 w9 := by
    have h1 := HB6.out.trans (HB7.out.mono HB6.out.size)
    have h2 := h1.trans (((Below.refl w7.heap.size w7).drew.alloc (Nat.le_refl _) (Sx.objS bs w7)).mono h1.size)
    exact ⟨HO.out.os.trans h2.os, HO.out.tape.trans h2.tape, HO.out.output.trans h2.output, Nat.le_trans h2.size HO.out.size, fun b hb => (HO.out.block b (Nat.lt_of_lt_of_le hb h2.size) (by have := HGU.out; omega)).trans (h2.block b hb)⟩
  have HB9 := Lib.hid (HBW.out.trans (hb59.mono HBW.out.size))
  have HXB := Lib.hid (HX5.out.next hb59)
  have HRB := Lib.hid (HR5.out.next hb59)
  have hd : w9.cell? ⟨qa, oa + 1, none⟩ = some (.int .i64 2) ∧ w9.cell? ⟨qb, ob, none⟩ = some (.int .i64 1) ∧ w9.cell? ⟨qb, ob + 1, none⟩ = some (.int .i64 3) ∧ w9.cell? ⟨qc, oc, none⟩ = some (.int .i64 1) := ⟨cell_next hb59 HD.out.1, cell_next hb59 HD.out.2.1, cell_next hb59 HD.out.2.2.1, cell_next hb59 HD.out.2.2.2⟩
  have HD9 := Lib.hid hd
  obtain ⟨Au, cu, hXu⟩ := HX9.out
  have HU9 := Lib.hid hXu.1
  have HRU := Lib.hid hXu.2.1
  have HAU := Lib.hid (show ∀ b o, Au = some ⟨b, o, none⟩ → b ≠ gb from fun b o e => by
    have h1 := hXu.2.2 b o e
    have h2 := HX5.out.lt
    have h3 := HB6.out.size
    have h4 := HB7.out.size
    have h5 : w7.heap.size ≤ (w7.drew.alloc (Sx.objS bs w7)).heap.size := by simp
    omega)
  have HGG := Lib.hid (show gu ≠ gb by have := HX5.out.lt; have := HGU.out; omega)
  clear hXu HX9 hb59 hd HD HX5 HR5 HO HB6 HB7 HBW HU6 HCV hmf hr0
  have c12 : w9.cell? ⟨gb, 12, none⟩ = some (.slice (some ⟨g, 0, none⟩) 2 2) := by rw [HXB.out.cell, List.getElem?_toArray, tv_12]; rfl
  have z12 := HXB.out.frozen 12
  go_upto_region 6 with fail
  clear c12 z12
  have hXt : Blk (w9.setCell ⟨gb, 12, none⟩ (.slice (some ⟨g, 0, none⟩) 1 2)) gb 25 (t1 g).cells.toArray := by
    have h := HXB.out.setCell 12 (.slice (some ⟨g, 0, none⟩) 1 2)
    rw [show (t0 g).cells = kl k0 ++ [.slice (some ⟨g, 0, none⟩) 2 2] by unfold Tv.cells; rfl, kl_set12] at h
    rw [show (t1 g).cells = kl k0 ++ [.slice (some ⟨g, 0, none⟩) 1 2] by unfold Tv.cells; rfl]
    exact h
  have hXu : Blk (w9.setCell ⟨gb, 12, none⟩ (.slice (some ⟨g, 0, none⟩) 1 2)) gu 25 (Tv.cells ⟨kF (t0 g).k, [(1, 3), (2, 3)], Au, cu⟩).toArray := HU9.out.far HGG.out _
  have hsc : ∀ b, b ≠ gb → (w9.setCell ⟨gb, 12, none⟩ (.slice (some ⟨g, 0, none⟩) 1 2)).heap[b]? = w9.heap[b]? := fun b hb => Below.heap_setCell w9 ⟨gb, 12, none⟩ _ b hb
  have hcl : ∀ q o, q ≠ gb → (w9.setCell ⟨gb, 12, none⟩ (.slice (some ⟨g, 0, none⟩) 1 2)).cell? ⟨q, o, none⟩ = w9.cell? ⟨q, o, none⟩ := fun q o hq => World.cell?_of_block (hsc q hq)
  have hsz : (w9.setCell ⟨gb, 12, none⟩ (.slice (some ⟨g, 0, none⟩) 1 2)).heap.size = w9.heap.size := by simp [World.setCell]
  have hB10 : Below W.heap.size W (w9.setCell ⟨gb, 12, none⟩ (.slice (some ⟨g, 0, none⟩) 1 2)) := Below.setCell HB9.out (p := ⟨gb, 12, none⟩) HGB.out.1 _
  have hRt : RowsOf ec 2 (w9.setCell ⟨gb, 12, none⟩ (.slice (some ⟨g, 0, none⟩) 1 2)) (t1 g).A (t1 g).es := by
    obtain ⟨b, o, e, h1, h2⟩ := HRB.out.resolve_left (by simp [t0])
    refine .inr ⟨b, o, e, by rw [hsz]; exact h1, fun i hi j v hv => ?_⟩
    simp only [t0, Option.some.injEq, Addr.mk.injEq, and_true] at e
    have hi0 : i = 0 := by simp [t1] at hi; omega
    subst hi0
    rw [hcl b _ (by have := HGB.out.2; omega)]
    exact h2 0 (by simp [t0]) j v hv
  have hRu : RowsOf ec 2 (w9.setCell ⟨gb, 12, none⟩ (.slice (some ⟨g, 0, none⟩) 1 2)) Au [(1, 3), (2, 3)] := by
    obtain ⟨b, o, e, h1, h2⟩ := HRU.out.resolve_left (by simp)
    refine .inr ⟨b, o, e, by rw [hsz]; exact h1, fun i hi j v hv => ?_⟩
    rw [hcl b _ (HAU.out b o e)]
    exact h2 i hi j v hv
  have hd10 : (w9.setCell ⟨gb, 12, none⟩ (.slice (some ⟨g, 0, none⟩) 1 2)).cell? ⟨qa, oa + 1, none⟩ = some (.int .i64 2) ∧ (w9.setCell ⟨gb, 12, none⟩ (.slice (some ⟨g, 0, none⟩) 1 2)).cell? ⟨qb, ob, none⟩ = some (.int .i64 1) ∧ (w9.setCell ⟨gb, 12, none⟩ (.slice (some ⟨g, 0, none⟩) 1 2)).cell? ⟨qb, ob + 1, none⟩ = some (.int .i64 3) ∧ (w9.setCell ⟨gb, 12, none⟩ (.slice (some ⟨g, 0, none⟩) 1 2)).cell? ⟨qc, oc, none⟩ = some (.int .i64 1) := by
    rw [hcl qa _ HQ.out.2.1, hcl qb _ HQ.out.2.2.1, hcl qb _ HQ.out.2.2.1, hcl qc _ HQ.out.2.2.2]
    exact HD9.out
  obtain ⟨w10, hw10⟩ : ∃ w10, w10 = w9.setCell ⟨gb, 12, none⟩ (.slice (some ⟨g, 0, none⟩) 1 2) := ⟨_, rfl⟩
  rw [← hw10] at hXt hXu hB10 hRt hRu hd10
  (try rw [← hw10])
  obtain ⟨tu, htu⟩ : ∃ tu : Tv, tu = ⟨kF (t0 g).k, [(1, 3), (2, 3)], Au, cu⟩ := ⟨_, rfl⟩
  rw [← htu] at hXu
  have HRIu := Lib.hid (show RightP tu true by rw [htu]; exact right_irrel.2 HGD.out.2)
  have hRu2 : RowsOf ec 2 w10 tu.A tu.es := by rw [htu]; exact hRu
  have htl : tu.es.length = 2 := by rw [htu]; rfl
  have htk : kindV tu.k 2 = 2 := by rw [htu]; rfl
  have HT := Lib.hid hXt
  have HU := Lib.hid hXu
  have HRT := Lib.hid hRt
  have HRV := Lib.hid hRu2
  have HB10 := Lib.hid hB10
  have HTL := Lib.hid (And.intro htl htk)
  obtain ⟨d1, d2, d3, d4⟩ := hd10
  have hrt : w10.rangeAt gb 0 (t1 g).cells := hXt.range
  have hru : w10.rangeAt gu 0 tu.cells := hXu.range
  have HC1 := Lib.hid (right_is w10 HRV.out (by rw [htl]; decide) HRIu.out)
  clear hsc hcl hsz hB10 hRt hRu hw10 hRu2 htl htk hXt hXu HD9 HQ HXB HRB HU9 HRU HAU htu
  go_wp2_with (first | (refine load_midg rfl 25 _ rfl _ _ rfl tu.cells _ hru Try.underlying25 rfl (tvinfo tu) ?_; (try simp only [Act.put, List.setIfInBounds_toArray, List.set_cons_zero, List.set_cons_succ])) | (refine load_midg rfl 25 _ rfl _ _ rfl (t1 g).cells _ hrt Try.underlying25 rfl (tvinfo (t1 g)) ?_; (try simp only [Act.put, List.setIfInBounds_toArray, List.set_cons_zero, List.set_cons_succ])) | (go_at_call 21; first | (refine HC1.out.mono ?_; rintro e w11 ⟨rfl, hb⟩; have HB11 := Lib.hid hb; have hrt := (HT.out.next hb).range; have hru := (HU.out.next hb).range; have c12 : w11.cell? ⟨gu, 12, none⟩ = some (.slice tu.A 2 tu.c) := (by rw [(HU.out.next hb).cell, List.getElem?_toArray, tv_12, HTL.out.1]); have HC2 := Lib.hid (right_is w11 (HRT.out.next hb) (by show (1 : Nat) ≤ 1000000; omega) (t1_right g)); clear hb HC1) | (refine HC2.out.mono ?_; rintro e w12 ⟨rfl, hb⟩; have HB12 := Lib.hid (HB11.out.trans (hb.mono HB11.out.size)); have hru := (HU.out.next HB12.out).range; have HC3 := Lib.hid (kind_any w12 tu 2); rw [HTL.out.2] at HC3; clear hb HC2) | (refine HC4.out.mono ?_; rintro e w14 ⟨rfl, hb⟩; have HB14 := Lib.hid (HB13.out.trans (hb.mono HB13.out.size)); clear hb HC4)) | (go_at_call 24; refine HC3.out.mono ?_; rintro e w13 ⟨rfl, hb⟩; have HB13 := Lib.hid (HB12.out.trans (hb.mono HB12.out.size)); have HC4 := Lib.hid (right_is w13 (t := tz) (.inl rfl) (by decide) tz_right); rw [tz_cells] at HC4; clear hb HC3))
  go_ret
  exact ⟨rfl, HB10.out.trans (HB14.out.mono HB10.out.size)⟩
end Tr
end Go.Proofs.Ytopkfmamjlkjiaa
