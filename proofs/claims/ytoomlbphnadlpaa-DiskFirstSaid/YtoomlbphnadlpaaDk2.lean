/-
disk: New, Write, waiting, Waits.
-/
import Derived.Test.YtoomlbphnadlpaaDk
import Derived.Test.YtoomlbphnadlpaaTree
import Derived.Test.YtoomlbphnadlpaaPlan
namespace Go.Proofs.Ytoomlbphnadlpaa
open Go.RowKit
open Byt
set_option linter.unusedSimpArgs false
set_option linter.unusedVariables false

/-- What a call on a disk leaves as it was. -/
def Turn (B : Nat) (F : Nat → Prop) (W W' : World) : Prop := Below B W W' ∧ ∀ k, k < W.heap.size → ¬ F k → W'.heap[k]? = W.heap[k]?
/-- Its blocks behind a call. -/
def Grow (F : Nat → Prop) (W W' : World) : Nat → Prop := fun k => F k ∨ (W.heap.size ≤ k ∧ k < W'.heap.size)
theorem Turn.other {B B2 d : Nat} {F G : Nat → Prop} {W W' : World} {h n : Nat} {v : Value} {has : List Nat} {ws : List Wt} {fl wr : Int} (t : Turn B F W W') (D : Dk W B2 d G h n v has ws fl wr) (hd : ∀ k, G k → ¬ F k) : Dk W' B2 d G h n v has ws fl wr :=
  D.keep (fun k hG => t.2 k (D.low k hG).2 (hd k hG)) t.1.size
theorem Turn.below {B C : Nat} {F : Nat → Prop} {W0 W W' : World} (t : Turn B F W W') (hb : Below C W0 W) (hC : C ≤ B) : Below C W0 W' := hb.trans (t.1.mono hC)
theorem made_zero (n : Nat) : madeCells #[.int .u8 0] n = (u8s (List.replicate n 0)).toArray := by
  unfold u8s madeCells
  apply Array.ext
  · simp
  · intro i h1 h2
    simp [Nat.mod_one]
section
variable (W : World)
set_option maxRecDepth 20000 in
theorem new_any (n : Nat) (h1 : 64 ≤ n) (h2 : n ≤ 262144) : Calls Try.prog 5 #[.int .i64 (n : Nat)] W fun e W' => e = .returned (.tuple #[.pointer (some ⟨W.heap.size + 1, 0, none⟩), .int .i64 0]) ∧
    Dk W' W.heap.size (W.heap.size + 1) (fun k => k = W.heap.size ∨ k = W.heap.size + 1) W.heap.size n (.slice none 0 0) (List.replicate n 0) [] 0 0 ∧ Below W.heap.size W W' ∧ W'.heap.size = W.heap.size + 2 := by
  have hmk := run_make_row' (P := Try.prog) 27 5 (.int .u8 0) 1 Try.underlying27 (by kernel_rfl) rfl .i64 .i64 n (by omega) (by omega)
  have HH := Lib.hid (And.intro h1 h2)
  have g1 : ¬ (n : Int) < 64 := by omega
  have g2 : ¬ (262144 : Int) < (n : Int) := by omega
  rw [made_zero] at hmk
  clear h1 h2
  go_enter Try.func5, Try.ntmps5
  go_wp2_with fail
  go_ret2
  have b1 := Blk.new W 5 (u8s (List.replicate n 0)).toArray
  have hs1 : (W.alloc (.cells (u8s (List.replicate n 0)).toArray 5)).heap.size = W.heap.size + 1 := by simp
  have b2 := Blk.new (W.alloc (.cells (u8s (List.replicate n 0)).toArray 5)) 41 #[.slice (some ⟨W.heap.size, 0, none⟩) n n, .slice none 0 0, .int .i64 0, .int .i64 0]
  rw [hs1] at b2
  refine ⟨rfl, ⟨Or.inr rfl, Or.inl rfl, fun k hk => by simp [Value.ownBlock] at hk, b2, b1.alloc _, by simp, fun y hy => by rw [List.eq_of_mem_replicate hy]; omega, World.ownsRow_nil _ _ _ _, fun x hx => (by cases hx), ?_, by have := HH.out; omega, by have := HH.out; omega⟩, ((Below.refl W.heap.size W).alloc (Nat.le_refl _) _).alloc (by simp) _, by simp⟩
  intro k hk
  simp
  rcases hk with rfl | rfl <;> omega
theorem waiting_any (d : Option Addr) : Calls Try.prog 16 #[.pointer d] W fun e W' => e = .returned (.func (.func 19) #[] #[.pointer (some ⟨W.heap.size, 0, none⟩)]) ∧ W' = W.alloc (.cells #[.pointer d] 23) := by
  go_enter Try.func16, Try.ntmps16
  go_wp2_with fail
  go_ret
  exact ⟨rfl, rfl⟩
end
theorem info_wt : ∃ i z, Try.prog.info? 45 = some i ∧ i.zero = some z ∧ i.size = 2 ∧ i.bytes = 32 ∧ z.cells.size = 2 := by
  have h : ((Try.prog.info? 45).bind fun i => i.zero.map fun z => (i.size, i.bytes, z.cells.size)) = some (2, 32, 2) := by kernel_rfl
  cases hi : Try.prog.info? 45 with
  | none => rw [hi] at h; cases h
  | some i =>
    rw [hi] at h
    simp only [Option.bind_some, Option.map_eq_some_iff, Prod.mk.injEq] at h
    obtain ⟨z, hz, h1, h2, h3⟩ := h
    exact ⟨i, z, rfl, hz, h1, h2, h3⟩
theorem wtinfo (x : Wt) : (Try.prog.info? 45).map (·.size) = some x.cells.length := by rw [wt_len]; kernel_rfl
theorem wtinfoA (x : Wt) : (Try.prog.info? 45).map (·.size) = some x.cells.toArray.size := by rw [List.size_toArray, wt_len]; kernel_rfl
theorem own_ne {W : World} {B n g size : Nat} {e t : TypeId} {v : Value} {xs : List Value} {cs : Array Value} (h : W.ownsRow B e size v n xs) (hg : Blk W g t cs) (ht : t ≠ e) : some g ≠ v.ownBlock := by
  obtain ⟨_, ⟨rfl, rfl⟩ | ⟨k, cap, cur, rfl, _, hk, _⟩⟩ := h
  · simp [Value.ownBlock]
  · intro e
    simp only [Value.ownBlock, Option.some.injEq] at e
    subst e
    unfold Blk at hg
    rw [hk] at hg
    simp only [Option.some.injEq, Obj.cells.injEq] at hg
    exact ht hg.2.1.symm
theorem own_first {W : World} {B : Nat} {A : Option Addr} {m c : Nat} {bs : List Nat} (h : W.ownsRow B 5 1 (.slice A m c) bs.length (u8s bs)) (h0 : bs ≠ []) :
    ∃ g, A = some ⟨g, 0, none⟩ ∧ B ≤ g ∧ g < W.heap.size ∧ (∃ cs z, W.heap[g]? = some (.cells cs 5 z)) ∧ ∀ (i y : Nat), bs[i]? = some y → W.cell? ⟨g, 0 + i, none⟩ = some (.int .u8 (y : Nat)) := by
  have h1 := h
  obtain ⟨hl, ⟨e, hz⟩ | ⟨g, cap, cur, e, hg, hh, _⟩⟩ := h
  · exact absurd (List.length_eq_zero_iff.1 hz) h0
  · simp only [Value.slice.injEq] at e
    obtain ⟨rfl, rfl, rfl⟩ := e
    refine ⟨g, rfl, hg, (h1.lt g rfl).2, ⟨cur, _, hh⟩, fun i y hy => ?_⟩
    have := h1.cells rfl i (.int .u8 (y : Nat)) (by unfold u8s; rw [List.getElem?_map, hy]; rfl)
    rwa [add_plain] at this
theorem write_end {W w2 w3 w4 : World} {B d : Nat} {F : Nat → Prop} {h n : Nat} {v v4 : Value} {has : List Nat} {ws : List Wt} {fl wr wr' : Int} {A2 : Option Addr} {a k2 : Nat} {bs : List Nat} (D : Dk W B d F h n v has ws fl wr)
    (hB2 : Below W.heap.size W w2) (hO2 : w2.ownsRow W.heap.size 5 1 (.slice A2 bs.length k2) bs.length (u8s bs)) (hB3 : Below w2.heap.size w2 w3)
    (hO4 : w4.ownsRow B 45 2 v4 (ws.length + 1) (wts ws ++ Wt.cells ⟨a, A2, k2, bs⟩)) (hG4 : w3.grownBy w4 v.ownBlock) (hL4 : v4.ownBlock = v.ownBlock ∨ v4.ownBlock = some w3.heap.size) (hf : a + bs.length ≤ n) (h256 : ∀ y ∈ bs, y < 256) :
    Dk ((w4.setCell ⟨d, 1, none⟩ v4).setCell ⟨d, 3, none⟩ (.int .i64 wr')) B d (Grow F W ((w4.setCell ⟨d, 1, none⟩ v4).setCell ⟨d, 3, none⟩ (.int .i64 wr'))) h n v4 has (ws ++ [⟨a, A2, k2, bs⟩]) fl wr' ∧
      Turn B F W ((w4.setCell ⟨d, 1, none⟩ v4).setCell ⟨d, 3, none⟩ (.int .i64 wr')) := by
  have hb23 := hB2.trans (hB3.mono hB2.size)
  have D3 := D.next hb23
  have hd4 : Blk w4 d 41 #[.slice (some ⟨h, 0, none⟩) n n, v, .int .i64 fl, .int .i64 wr] := (hG4.block d D3.blk.lt (own_ne D3.own D3.blk (by decide))).trans D3.blk
  have hh4 : Blk w4 h 5 (u8s has).toArray := (hG4.block h D3.row.lt (own_ne D3.own D3.row (by decide))).trans D3.row
  have hhd : h ≠ d := by
    rintro rfl
    have h1 := D.blk
    have h2 := D.row
    unfold Blk at h1 h2
    rw [h1] at h2
    simp only [Option.some.injEq, Obj.cells.injEq] at h2
    exact absurd h2.2.1 (by decide)
  obtain ⟨w6, hw6⟩ : ∃ w6, w6 = (w4.setCell ⟨d, 1, none⟩ v4).setCell ⟨d, 3, none⟩ (.int .i64 wr') := ⟨_, rfl⟩
  have hd6 : Blk w6 d 41 #[.slice (some ⟨h, 0, none⟩) n n, v4, .int .i64 fl, .int .i64 wr'] := by rw [hw6]; exact (hd4.setCell 1 v4).setCell 3 _
  have hs46 : w6.heap.size = w4.heap.size := by rw [hw6]; simp [World.setCell]
  have far : ∀ k, k ≠ d → w6.heap[k]? = w4.heap[k]? := fun k hk => by rw [hw6]; exact (Below.heap_setCell _ ⟨d, 3, none⟩ _ k hk).trans (Below.heap_setCell _ ⟨d, 1, none⟩ _ k hk)
  have hs34 := hG4.size
  have hb6 : Below B W w6 := by
    have hBW : B ≤ W.heap.size := by have := D.low d D.fd; omega
    have h1 : Below B W w4 := (hb23.mono hBW).grown hG4 (by have := hb23.size; omega) (fun k e => (D.low k (D.fv k e)).1)
    rw [hw6]
    exact (h1.setCell (p := ⟨d, 1, none⟩) (D.low d D.fd).1 v4).setCell (p := ⟨d, 3, none⟩) (D.low d D.fd).1 _
  rw [← hw6]
  clear hw6
  have hsz := hb23.size
  have old : ∀ k, k < W.heap.size → k ≠ d → some k ≠ v.ownBlock → w6.heap[k]? = W.heap[k]? := fun k hk hkd hkv => (far k hkd).trans ((hG4.block k (by omega) hkv).trans (hb23.block k hk))
  have hBW := (D.low d D.fd)
  refine ⟨⟨Or.inl D.fd, Or.inl D.fh, ?_, hd6, (far h hhd).trans hh4, D.len, D.h256, ?_, ?_, ?_, D.pos, D.big⟩, hb6, ?_⟩
  · intro k hk
    rcases hL4 with e | e
    · exact Or.inl (D.fv k (e ▸ hk))
    · have := (hO4.lt k hk).2
      rw [e] at hk
      cases hk
      exact Or.inr ⟨by omega, by omega⟩
  · have : wts (ws ++ [⟨a, A2, k2, bs⟩]) = wts ws ++ Wt.cells ⟨a, A2, k2, bs⟩ := by simp [wts]
    rw [this, List.length_append]
    refine ownG_keep hO4 fun k hk => far k ?_
    rintro rfl
    exact own_ne hO4 hd4 (by decide) hk.symm
  · intro x hx
    rcases List.mem_append.1 hx with hx | hx
    · refine (D.at_ x hx).keep fun k cs z hF hne hz => ⟨Or.inl hF, old k (D.low k hF).2 ?_ ?_⟩
      · rintro rfl
        have h1 := D.blk
        unfold Blk at h1
        rw [h1] at hz
        simp only [Option.some.injEq, Obj.cells.injEq] at hz
        exact absurd hz.2.1 (by decide)
      · intro e
        obtain ⟨_, ⟨rfl, _⟩ | ⟨g, cap, cur, rfl, _, hg, _⟩⟩ := D.own
        · simp [Value.ownBlock] at e
        · simp only [Value.ownBlock, Option.some.injEq] at e
          subst e
          rw [hg] at hz
          simp only [Option.some.injEq, Obj.cells.injEq] at hz
          exact absurd hz.2.1 (by decide)
    · simp only [List.mem_singleton] at hx
      subst hx
      refine ⟨hf, h256, ?_⟩
      by_cases h0 : bs = []
      · exact Or.inl h0
      · obtain ⟨g, rfl, hg1, hg2, ⟨cs, z, hz⟩, hc⟩ := own_first hO2 h0
        have hk : w6.heap[g]? = w2.heap[g]? := (far g (by omega)).trans ((hG4.block g (by have := hB3.size; omega) (fun e => by have := (D.low g (D.fv g e.symm)).2; omega)).trans (hB3.block g hg2))
        exact Or.inr ⟨g, 0, rfl, Or.inr ⟨hg1, by have := hB3.size; omega⟩, by have := (D.low h D.fh).2; omega, ⟨cs, z, hk.trans hz⟩, fun i y hy => (World.cell?_of_block hk).trans (hc i y hy)⟩
  · intro k hk
    rcases hk with hk | ⟨h1, h2⟩
    · have := D.low k hk; exact ⟨this.1, by omega⟩
    · exact ⟨by omega, h2⟩
  · intro k hk hF
    exact old k hk (fun e => hF (e ▸ D.fd)) (fun e => hF (D.fv k e.symm))
section
variable {B d : Nat} {F : Nat → Prop} {h n : Nat} {v : Value} {has : List Nat} {ws : List Wt} {fl wr : Int} (W : World)
set_option maxRecDepth 20000 in
theorem write_bad (D : Dk W B d F h n v has ws fl wr) (a : Int) (A : Option Addr) (m c : Nat) (ha : -9223372036854775808 ≤ a ∧ a ≤ 9223372036854775807) (hf : fitsB n a m = false) : Calls Try.prog 6 #[.pointer (some ⟨d, 0, none⟩), .int .i64 a, .slice A m c] W fun e W' => e = .returned (.int .i64 1) ∧ W = W' := by
  have HM := Lib.hid (made_any W D)
  have HF := Lib.hid (fits_any W D a m ha)
  rw [hf] at HF
  clear D ha hf
  go_enter Try.func6, Try.ntmps6
  go_wp2_with (first | (go_at_call 12; refine HM.out.mono ?_; rintro e w1 ⟨rfl, rfl⟩) | (go_at_call 13; refine HF.out.mono ?_; rintro e w1 ⟨rfl, rfl⟩))
  go_ret
  exact ⟨rfl, rfl⟩
set_option maxRecDepth 20000 in
theorem write_any (D : Dk W B d F h n v has ws fl wr) (a c : Nat) (A : Option Addr) (bs : List Nat) (hs : Src W A bs.length (u8s bs)) (h256 : ∀ y ∈ bs, y < 256) (hf : a + bs.length ≤ n) (hw : ws.length ≤ 100000) :
    Calls Try.prog 6 #[.pointer (some ⟨d, 0, none⟩), .int .i64 (a : Nat), .slice A bs.length c] W fun e W' => ∃ (v' : Value) (x : Wt), e = .returned (.int .i64 0) ∧ x.a = a ∧ x.bs = bs ∧ Dk W' B d (Grow F W W') h n v' has (ws ++ [x]) fl (wrap64 (wr + bs.length)) ∧ Turn B F W W' := by
  have hn := D.big
  have HM := Lib.hid (made_any W D)
  have HF := Lib.hid (fits_any W D a bs.length (by omega))
  rw [fits_iff.2 (by omega)] at HF
  have HC := Lib.hid (fun w hs => clone_any w A bs.length c bs rfl hs (by omega))
  obtain ⟨m, hm⟩ : ∃ m, m = bs.length := ⟨_, rfl⟩
  rw [← hm] at HF HC hs hf ⊢
  have HD := Lib.hid D
  have HS := Lib.hid hs
  have HBS := Lib.hid hm
  have H256 := Lib.hid h256
  have HFT := Lib.hid hf
  have HW := Lib.hid hw
  have c1 := D.c1
  obtain ⟨i0, z0, hi, hz, hsz, hby, hzs⟩ := info_wt
  clear D hs hm h256 hf hw hn
  go_enter Try.func6, Try.ntmps6
  go_upto_region 5 with (first | (go_at_call 12; refine HM.out.mono ?_; rintro e w1 ⟨rfl, rfl⟩) | (go_at_call 13; refine HF.out.mono ?_; rintro e w1 ⟨rfl, rfl⟩))
  refine wp_region_tree (S := fun _ => True) (.take 0 (.take 1 (.take 2 (.take 3 (.take 5 (.take 6 (.two 4 (.one 7 (.take 8 (.one 9 (.one 10 (.take 11 (.take 12 (.one 13 .nil))))))) 7 (.take 8 (.two 4 (.one 9 (.one 10 (.take 11 (.take 12 (.one 13 .nil))))) 9 (.one 4 (.one 10 (.take 11 (.take 12 (.one 13 .nil)))))))))))))) 9999 (by kernel_rfl) (by kernel_rfl) (by kernel_rfl) (by kernel_rfl) (by kernel_rfl) (fun _ _ d _ _ h => by cases d <;> exact h) trivial (fun _ => ?_); simp only [Tree.map, List.getElem?_toArray, List.getElem?_cons_zero, List.getElem?_cons_succ]
  (repeat (first | (refine wpTree.take (v := undef) (Or.inr ⟨by rfl, rfl⟩) ?_; simp only [Act.put, List.setIfInBounds_toArray, List.set_cons_zero, List.set_cons_succ]) | (refine wpTree.take (v := ?_) (Or.inl ⟨by rfl, ?_⟩) ?_; rotate_left; (focus (intro _ _; go_simp; (try (with_reducible rfl)); done)); simp only [Act.put, List.setIfInBounds_toArray, List.set_cons_zero, List.set_cons_succ])))
  refine wpTree.two ?_ ?_
  · skip
    refine wpTree.one (fun K hK => ?_)
    go_simp
    refine hK.out _ _ trivial (fun _ => ?_)
    clear hK K
    (try simp only [Act.put, List.setIfInBounds_toArray, List.set_cons_zero, List.set_cons_succ])
    (repeat (first | (refine wpTree.take (v := undef) (Or.inr ⟨by rfl, rfl⟩) ?_; simp only [Act.put, List.setIfInBounds_toArray, List.set_cons_zero, List.set_cons_succ]) | (refine wpTree.take (v := ?_) (Or.inl ⟨by rfl, ?_⟩) ?_; rotate_left; (focus (intro _ _; go_simp; (try (with_reducible rfl)); done)); simp only [Act.put, List.setIfInBounds_toArray, List.set_cons_zero, List.set_cons_succ])))
    refine wpTree.one (fun K hK => ?_)
    go_simp
    go_at_call 14
    refine (HC.out W.drew HS.out).mono ?_
    rintro e w2 ⟨u, rfl, hown, hb, -⟩
    rw [HBS.out] at hown
    obtain ⟨A2, k2, rfl, hc2, hA2, hA20⟩ := own_byr hown
    rw [← HBS.out]
    have HB2 := Lib.hid (show Below W.heap.size W w2 from (Below.refl _ _).drew.trans hb)
    have c1 := cell_next HB2.out c1
    have HO2 := Lib.hid (show w2.ownsRow W.heap.size 5 1 (.slice A2 bs.length k2) bs.length (u8s bs) from hown)
    refine hK.out _ _ trivial (fun _ => ?_)
    clear hK K hb hown hc2 hA2 hA20
    (try simp only [Act.put, List.setIfInBounds_toArray, List.set_cons_zero, List.set_cons_succ])
    (repeat (first | (refine wpTree.take (v := undef) (Or.inr ⟨by rfl, rfl⟩) ?_; simp only [Act.put, List.setIfInBounds_toArray, List.set_cons_zero, List.set_cons_succ]) | (refine wpTree.take (v := ?_) (Or.inl ⟨by rfl, ?_⟩) ?_; rotate_left; (focus (intro _ _; go_simp; (try (with_reducible rfl)); done)); simp only [Act.put, List.setIfInBounds_toArray, List.set_cons_zero, List.set_cons_succ])))
    refine wpTree.one (fun K hK => ?_)
    go_simp
    have HB3 := Lib.hid (show Below w2.heap.size w2 (w2.alloc (.cells #[.int .i64 (a : Nat), .slice A2 m k2] 45)) from (Below.refl _ _).alloc (Nat.le_refl _) _)
    have c1 := cell_next HB3.out c1
    refine hK.out _ _ trivial (fun _ => ?_)
    clear hK K
    (try simp only [Act.put, List.setIfInBounds_toArray, List.set_cons_zero, List.set_cons_succ])
    (repeat (first | (refine wpTree.take (v := undef) (Or.inr ⟨by rfl, rfl⟩) ?_; simp only [Act.put, List.setIfInBounds_toArray, List.set_cons_zero, List.set_cons_succ]) | (refine wpTree.take (v := ?_) (Or.inl ⟨by rfl, ?_⟩) ?_; rotate_left; (focus (intro _ _; go_simp; (try (with_reducible rfl)); done)); simp only [Act.put, List.setIfInBounds_toArray, List.set_cons_zero, List.set_cons_succ])))
    obtain ⟨w3, hw3⟩ : ∃ w3, w3 = w2.alloc (.cells #[.int .i64 (a : Nat), .slice A2 m k2] 45) := ⟨_, rfl⟩
    have HN3 := Lib.hid (show Blk w3 w2.heap.size 45 #[.int .i64 (a : Nat), .slice A2 m k2] from by rw [hw3]; exact Blk.new _ _ _)
    rw [← hw3] at HB3 c1 ⊢
    clear hw3
    have HD3 := Lib.hid ((HD.out.next HB2.out).next HB3.out)
    refine wpTree.one (fun K hK => ?_)
    refine step_append_g (w := w3) (by rfl) _ _ 39 rfl B 45 i0 z0 Try.underlying39 hi hz (by rw [hsz]; exact hzs) (by rw [hsz]; decide) v ws.length (wts ws) rfl (by rw [hsz]; exact HD3.out.own) (some ⟨w2.heap.size, 0, none⟩) 1 1 (Wt.cells ⟨a, A2, k2, bs⟩) rfl (by rw [hsz]; rfl) (Or.inl ⟨_, rfl, fun j u hj => by rw [add_plain, Nat.zero_add, HN3.out.cell, HBS.out]; rw [← List.getElem?_toArray] at hj; exact hj⟩) (wt_ones _) (by unfold maxLen; have := HW.out; omega) (by rw [hby]; have := HW.out; omega) (by have := (HD3.out.low d HD3.out.fd); omega) ?_
    intro v4 w4 hown hgrow hloc
    rw [hsz] at hown
    have HO4 := Lib.hid hown
    have HG4 := Lib.hid hgrow
    have HL4 := Lib.hid hloc
    have hd4 : Blk w4 d 41 #[.slice (some ⟨h, 0, none⟩) n n, v, .int .i64 fl, .int .i64 wr] := (hgrow.block d HD3.out.blk.lt (own_ne HD3.out.own HD3.out.blk (by decide))).trans HD3.out.blk
    have HK4 := Lib.hid hd4
    have c1 := hd4.cell 1
    have z1 := hd4.frozen 1
    obtain ⟨A4, k4, rfl, -⟩ := ownG_slice hown
    refine hK.out _ _ trivial (fun _ => ?_)
    clear hK K hown hgrow hloc hd4
    (try simp only [Act.put, List.setIfInBounds_toArray, List.set_cons_zero, List.set_cons_succ])
    (repeat (first | (refine wpTree.take (v := undef) (Or.inr ⟨by rfl, rfl⟩) ?_; simp only [Act.put, List.setIfInBounds_toArray, List.set_cons_zero, List.set_cons_succ]) | (refine wpTree.take (v := ?_) (Or.inl ⟨by rfl, ?_⟩) ?_; rotate_left; (focus (intro _ _; go_simp; (try (with_reducible rfl)); done)); simp only [Act.put, List.setIfInBounds_toArray, List.set_cons_zero, List.set_cons_succ])))
    refine wpTree.one (fun K hK => ?_)
    go_simp
    refine hK.out _ _ trivial (fun _ => ?_)
    clear hK K
    (try simp only [Act.put, List.setIfInBounds_toArray, List.set_cons_zero, List.set_cons_succ])
    refine wpTree.done ?_
    have hk5 := HK4.out.setCell 1 (.slice A4 (ws.length + 1) k4)
    have c3 := hk5.cell 3
    have z3 := hk5.frozen 3
    simp only [List.setIfInBounds_toArray, List.set_cons_zero, List.set_cons_succ, List.getElem?_toArray, List.getElem?_cons_succ, List.getElem?_cons_zero] at c3
    clear c1 z1 hk5 hi hz hsz hby hzs
    go_wp2_with fail
    go_ret
    exact ⟨_, ⟨a, A2, k2, bs⟩, rfl, rfl, rfl, write_end HD.out HB2.out HO2.out HB3.out HO4.out HG4.out HL4.out (by rw [← HBS.out]; exact HFT.out) H256.out⟩
  · skip
    refine wpTree.one (fun K hK => ?_)
    go_simp
    go_at_call 14
    refine (HC.out W.drew HS.out).mono ?_
    rintro e w2 ⟨u, rfl, hown, hb, -⟩
    rw [HBS.out] at hown
    obtain ⟨A2, k2, rfl, hc2, hA2, hA20⟩ := own_byr hown
    rw [← HBS.out]
    have HB2 := Lib.hid (show Below W.heap.size W w2 from (Below.refl _ _).drew.trans hb)
    have c1 := cell_next HB2.out c1
    have HO2 := Lib.hid (show w2.ownsRow W.heap.size 5 1 (.slice A2 bs.length k2) bs.length (u8s bs) from hown)
    refine hK.out _ _ trivial (fun _ => ?_)
    clear hK K hb hown hc2 hA2 hA20
    (try simp only [Act.put, List.setIfInBounds_toArray, List.set_cons_zero, List.set_cons_succ])
    (repeat (first | (refine wpTree.take (v := undef) (Or.inr ⟨by rfl, rfl⟩) ?_; simp only [Act.put, List.setIfInBounds_toArray, List.set_cons_zero, List.set_cons_succ]) | (refine wpTree.take (v := ?_) (Or.inl ⟨by rfl, ?_⟩) ?_; rotate_left; (focus (intro _ _; go_simp; (try (with_reducible rfl)); done)); simp only [Act.put, List.setIfInBounds_toArray, List.set_cons_zero, List.set_cons_succ])))
    refine wpTree.two ?_ ?_
    · skip
      refine wpTree.one (fun K hK => ?_)
      go_simp
      refine hK.out _ _ trivial (fun _ => ?_)
      clear hK K
      (try simp only [Act.put, List.setIfInBounds_toArray, List.set_cons_zero, List.set_cons_succ])
      (repeat (first | (refine wpTree.take (v := undef) (Or.inr ⟨by rfl, rfl⟩) ?_; simp only [Act.put, List.setIfInBounds_toArray, List.set_cons_zero, List.set_cons_succ]) | (refine wpTree.take (v := ?_) (Or.inl ⟨by rfl, ?_⟩) ?_; rotate_left; (focus (intro _ _; go_simp; (try (with_reducible rfl)); done)); simp only [Act.put, List.setIfInBounds_toArray, List.set_cons_zero, List.set_cons_succ])))
      refine wpTree.one (fun K hK => ?_)
      go_simp
      have HB3 := Lib.hid (show Below w2.heap.size w2 (w2.alloc (.cells #[.int .i64 (a : Nat), .slice A2 m k2] 45)) from (Below.refl _ _).alloc (Nat.le_refl _) _)
      have c1 := cell_next HB3.out c1
      refine hK.out _ _ trivial (fun _ => ?_)
      clear hK K
      (try simp only [Act.put, List.setIfInBounds_toArray, List.set_cons_zero, List.set_cons_succ])
      (repeat (first | (refine wpTree.take (v := undef) (Or.inr ⟨by rfl, rfl⟩) ?_; simp only [Act.put, List.setIfInBounds_toArray, List.set_cons_zero, List.set_cons_succ]) | (refine wpTree.take (v := ?_) (Or.inl ⟨by rfl, ?_⟩) ?_; rotate_left; (focus (intro _ _; go_simp; (try (with_reducible rfl)); done)); simp only [Act.put, List.setIfInBounds_toArray, List.set_cons_zero, List.set_cons_succ])))
      obtain ⟨w3, hw3⟩ : ∃ w3, w3 = w2.alloc (.cells #[.int .i64 (a : Nat), .slice A2 m k2] 45) := ⟨_, rfl⟩
      have HN3 := Lib.hid (show Blk w3 w2.heap.size 45 #[.int .i64 (a : Nat), .slice A2 m k2] from by rw [hw3]; exact Blk.new _ _ _)
      rw [← hw3] at HB3 c1 ⊢
      clear hw3
      have HD3 := Lib.hid ((HD.out.next HB2.out).next HB3.out)
      refine wpTree.one (fun K hK => ?_)
      refine step_append_g (w := w3) (by rfl) _ _ 39 rfl B 45 i0 z0 Try.underlying39 hi hz (by rw [hsz]; exact hzs) (by rw [hsz]; decide) v ws.length (wts ws) rfl (by rw [hsz]; exact HD3.out.own) (some ⟨w2.heap.size, 0, none⟩) 1 1 (Wt.cells ⟨a, A2, k2, bs⟩) rfl (by rw [hsz]; rfl) (Or.inl ⟨_, rfl, fun j u hj => by rw [add_plain, Nat.zero_add, HN3.out.cell, HBS.out]; rw [← List.getElem?_toArray] at hj; exact hj⟩) (wt_ones _) (by unfold maxLen; have := HW.out; omega) (by rw [hby]; have := HW.out; omega) (by have := (HD3.out.low d HD3.out.fd); omega) ?_
      intro v4 w4 hown hgrow hloc
      rw [hsz] at hown
      have HO4 := Lib.hid hown
      have HG4 := Lib.hid hgrow
      have HL4 := Lib.hid hloc
      have hd4 : Blk w4 d 41 #[.slice (some ⟨h, 0, none⟩) n n, v, .int .i64 fl, .int .i64 wr] := (hgrow.block d HD3.out.blk.lt (own_ne HD3.out.own HD3.out.blk (by decide))).trans HD3.out.blk
      have HK4 := Lib.hid hd4
      have c1 := hd4.cell 1
      have z1 := hd4.frozen 1
      obtain ⟨A4, k4, rfl, -⟩ := ownG_slice hown
      refine hK.out _ _ trivial (fun _ => ?_)
      clear hK K hown hgrow hloc hd4
      (try simp only [Act.put, List.setIfInBounds_toArray, List.set_cons_zero, List.set_cons_succ])
      (repeat (first | (refine wpTree.take (v := undef) (Or.inr ⟨by rfl, rfl⟩) ?_; simp only [Act.put, List.setIfInBounds_toArray, List.set_cons_zero, List.set_cons_succ]) | (refine wpTree.take (v := ?_) (Or.inl ⟨by rfl, ?_⟩) ?_; rotate_left; (focus (intro _ _; go_simp; (try (with_reducible rfl)); done)); simp only [Act.put, List.setIfInBounds_toArray, List.set_cons_zero, List.set_cons_succ])))
      refine wpTree.one (fun K hK => ?_)
      go_simp
      refine hK.out _ _ trivial (fun _ => ?_)
      clear hK K
      (try simp only [Act.put, List.setIfInBounds_toArray, List.set_cons_zero, List.set_cons_succ])
      refine wpTree.done ?_
      have hk5 := HK4.out.setCell 1 (.slice A4 (ws.length + 1) k4)
      have c3 := hk5.cell 3
      have z3 := hk5.frozen 3
      simp only [List.setIfInBounds_toArray, List.set_cons_zero, List.set_cons_succ, List.getElem?_toArray, List.getElem?_cons_succ, List.getElem?_cons_zero] at c3
      clear c1 z1 hk5 hi hz hsz hby hzs
      go_wp2_with fail
      go_ret
      exact ⟨_, ⟨a, A2, k2, bs⟩, rfl, rfl, rfl, write_end HD.out HB2.out HO2.out HB3.out HO4.out HG4.out HL4.out (by rw [← HBS.out]; exact HFT.out) H256.out⟩
    · skip
      refine wpTree.one (fun K hK => ?_)
      go_simp
      have HB3 := Lib.hid (show Below w2.heap.size w2 (w2.alloc (.cells #[.int .i64 (a : Nat), .slice A2 m k2] 45)) from (Below.refl _ _).alloc (Nat.le_refl _) _)
      have c1 := cell_next HB3.out c1
      refine hK.out _ _ trivial (fun _ => ?_)
      clear hK K
      (try simp only [Act.put, List.setIfInBounds_toArray, List.set_cons_zero, List.set_cons_succ])
      (repeat (first | (refine wpTree.take (v := undef) (Or.inr ⟨by rfl, rfl⟩) ?_; simp only [Act.put, List.setIfInBounds_toArray, List.set_cons_zero, List.set_cons_succ]) | (refine wpTree.take (v := ?_) (Or.inl ⟨by rfl, ?_⟩) ?_; rotate_left; (focus (intro _ _; go_simp; (try (with_reducible rfl)); done)); simp only [Act.put, List.setIfInBounds_toArray, List.set_cons_zero, List.set_cons_succ])))
      refine wpTree.one (fun K hK => ?_)
      go_simp
      refine hK.out _ _ trivial (fun _ => ?_)
      clear hK K
      (try simp only [Act.put, List.setIfInBounds_toArray, List.set_cons_zero, List.set_cons_succ])
      (repeat (first | (refine wpTree.take (v := undef) (Or.inr ⟨by rfl, rfl⟩) ?_; simp only [Act.put, List.setIfInBounds_toArray, List.set_cons_zero, List.set_cons_succ]) | (refine wpTree.take (v := ?_) (Or.inl ⟨by rfl, ?_⟩) ?_; rotate_left; (focus (intro _ _; go_simp; (try (with_reducible rfl)); done)); simp only [Act.put, List.setIfInBounds_toArray, List.set_cons_zero, List.set_cons_succ])))
      obtain ⟨w3, hw3⟩ : ∃ w3, w3 = w2.alloc (.cells #[.int .i64 (a : Nat), .slice A2 m k2] 45) := ⟨_, rfl⟩
      have HN3 := Lib.hid (show Blk w3 w2.heap.size 45 #[.int .i64 (a : Nat), .slice A2 m k2] from by rw [hw3]; exact Blk.new _ _ _)
      rw [← hw3] at HB3 c1 ⊢
      clear hw3
      have HD3 := Lib.hid ((HD.out.next HB2.out).next HB3.out)
      refine wpTree.one (fun K hK => ?_)
      refine step_append_g (w := w3) (by rfl) _ _ 39 rfl B 45 i0 z0 Try.underlying39 hi hz (by rw [hsz]; exact hzs) (by rw [hsz]; decide) v ws.length (wts ws) rfl (by rw [hsz]; exact HD3.out.own) (some ⟨w2.heap.size, 0, none⟩) 1 1 (Wt.cells ⟨a, A2, k2, bs⟩) rfl (by rw [hsz]; rfl) (Or.inl ⟨_, rfl, fun j u hj => by rw [add_plain, Nat.zero_add, HN3.out.cell, HBS.out]; rw [← List.getElem?_toArray] at hj; exact hj⟩) (wt_ones _) (by unfold maxLen; have := HW.out; omega) (by rw [hby]; have := HW.out; omega) (by have := (HD3.out.low d HD3.out.fd); omega) ?_
      intro v4 w4 hown hgrow hloc
      rw [hsz] at hown
      have HO4 := Lib.hid hown
      have HG4 := Lib.hid hgrow
      have HL4 := Lib.hid hloc
      have hd4 : Blk w4 d 41 #[.slice (some ⟨h, 0, none⟩) n n, v, .int .i64 fl, .int .i64 wr] := (hgrow.block d HD3.out.blk.lt (own_ne HD3.out.own HD3.out.blk (by decide))).trans HD3.out.blk
      have HK4 := Lib.hid hd4
      have c1 := hd4.cell 1
      have z1 := hd4.frozen 1
      obtain ⟨A4, k4, rfl, -⟩ := ownG_slice hown
      refine hK.out _ _ trivial (fun _ => ?_)
      clear hK K hown hgrow hloc hd4
      (try simp only [Act.put, List.setIfInBounds_toArray, List.set_cons_zero, List.set_cons_succ])
      (repeat (first | (refine wpTree.take (v := undef) (Or.inr ⟨by rfl, rfl⟩) ?_; simp only [Act.put, List.setIfInBounds_toArray, List.set_cons_zero, List.set_cons_succ]) | (refine wpTree.take (v := ?_) (Or.inl ⟨by rfl, ?_⟩) ?_; rotate_left; (focus (intro _ _; go_simp; (try (with_reducible rfl)); done)); simp only [Act.put, List.setIfInBounds_toArray, List.set_cons_zero, List.set_cons_succ])))
      refine wpTree.one (fun K hK => ?_)
      go_simp
      refine hK.out _ _ trivial (fun _ => ?_)
      clear hK K
      (try simp only [Act.put, List.setIfInBounds_toArray, List.set_cons_zero, List.set_cons_succ])
      refine wpTree.done ?_
      have hk5 := HK4.out.setCell 1 (.slice A4 (ws.length + 1) k4)
      have c3 := hk5.cell 3
      have z3 := hk5.frozen 3
      simp only [List.setIfInBounds_toArray, List.set_cons_zero, List.set_cons_succ, List.getElem?_toArray, List.getElem?_cons_succ, List.getElem?_cons_zero] at c3
      clear c1 z1 hk5 hi hz hsz hby hzs
      go_wp2_with fail
      go_ret
      exact ⟨_, ⟨a, A2, k2, bs⟩, rfl, rfl, rfl, write_end HD.out HB2.out HO2.out HB3.out HO4.out HG4.out HL4.out (by rw [← HBS.out]; exact HFT.out) H256.out⟩
end
end Go.Proofs.Ytoomlbphnadlpaa
