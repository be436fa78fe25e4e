/-
frames: open.
-/
import Derived.Test.YtejehmimidnaiaaFr3
import Derived.Test.YtejehmimidnaiaaEndT
namespace Go.Proofs.Ytejehmimidnaiaa
open Go.RowKit
open Byt
set_option linter.unusedSimpArgs false
set_option linter.unusedVariables false

theorem less_five (n E : Nat) (h : n = E + 5) (hk : n ≤ 100000000) : IntKind.i64.wrap ((n : Int) - 5) = (E : Nat) ∧ wrap64 ((n : Int) - 5) = (E : Nat) := by
  subst h
  refine ⟨by rw [IntKind.wrap_i64]; omega, by unfold wrap64; omega⟩
theorem i64_small (k : Nat) (h : k ≤ 100000000) : IntKind.i64.wrap (k : Int) = (k : Nat) := by rw [IntKind.wrap_i64]; omega
theorem data_get {bs : List Nat} {n E D : Nat} (hn : bs.length = n) (hE : n = E + 5) (hD : E = D + 4) : (Fr.dataOf bs n).length = D ∧ ∀ i x, (Fr.dataOf bs n)[i]? = some x → bs[4 + i]? = some x := by
  unfold Fr.dataOf
  refine ⟨by rw [List.length_drop, List.length_take]; omega, fun i x h => ?_⟩
  rw [List.getElem?_drop, List.getElem?_take] at h
  split at h
  · exact h
  · cases h
theorem rightB_len {k : Int} {n : Nat} (h : true = Fr.rightB k n) : n ≤ 60000 := by
  unfold Fr.rightB at h
  have h2 := h.symm
  simp only [Bool.and_eq_true, decide_eq_true_eq] at h2
  exact h2.2.2
theorem own_low {W : World} {B n m c : Nat} {A : Option Addr} {xs : List Value} (h : W.ownsRow B 5 1 (.slice A m c) n xs) : ∀ a, A = some a → B ≤ a.block := by
  intro a ha
  obtain ⟨_, ⟨e, _⟩ | ⟨g, cap, cur, e, hg, _⟩⟩ := h
  · simp only [Value.slice.injEq] at e; rw [e.1] at ha; cases ha
  · simp only [Value.slice.injEq] at e
    rw [e.1] at ha
    cases ha
    exact hg
theorem byr_row {W : World} {A : Option Addr} {bs : List Nat} {g : Nat} {cs : Array Value} (h : ByR W A bs) (hne : ∀ a, A = some a → a.block ≠ g) : ByR (W.setRow g cs) A bs := by
  refine h.imp id ?_
  rintro ⟨b, p, rfl, hb, hc⟩
  have h2 : b ≠ g := hne _ rfl
  exact ⟨b, p, rfl, size_setRow' hb, fun i x hx => (World.cell?_of_block (setRow_other W g b cs h2)).trans (hc i x hx)⟩
/-- Bytes in a block of bytes. -/
def ByT (W : World) (A : Option Addr) (bs : List Nat) : Prop :=
  bs = [] ∨ ∃ b p, A = some ⟨b, p, none⟩ ∧ (∃ cs z, W.heap[b]? = some (.cells cs 5 z)) ∧ ∀ (i x : Nat), bs[i]? = some x → W.cell? ⟨b, p + i, none⟩ = some (.int .u8 (x : Nat))
theorem heap_lt {W : World} {b : Nat} {o : Obj} (h : W.heap[b]? = some o) : b < W.heap.size := by
  rcases Nat.lt_or_ge b W.heap.size with h1 | h1
  · exact h1
  · rw [Array.getElem?_eq_none h1] at h; cases h
theorem ByT.byr {W : World} {A : Option Addr} {bs : List Nat} (h : ByT W A bs) : ByR W A bs := by
  refine h.imp id ?_
  rintro ⟨b, p, rfl, ⟨cs, z, hh⟩, hc⟩
  exact ⟨b, p, rfl, heap_lt hh, hc⟩
theorem ByT.keep {W W' : World} {A : Option Addr} {bs : List Nat} (h : ByT W A bs) (hk : ∀ b p, A = some ⟨b, p, none⟩ → (∃ cs z, W.heap[b]? = some (.cells cs 5 z)) → W'.heap[b]? = W.heap[b]?) : ByT W' A bs := by
  refine h.imp id ?_
  rintro ⟨b, p, rfl, ht, hc⟩
  have e := hk b p rfl ht
  obtain ⟨cs, z, hh⟩ := ht
  exact ⟨b, p, rfl, ⟨cs, z, e.trans hh⟩, fun i x hx => (World.cell?_of_block e).trans (hc i x hx)⟩
theorem ByT.next {W W' : World} {A : Option Addr} {bs : List Nat} (h : ByT W A bs) (hb : Below W.heap.size W W') : ByT W' A bs := h.keep fun b _ _ ⟨_, _, hh⟩ => hb.block b (heap_lt hh)
theorem ByT.row {W : World} {A : Option Addr} {bs : List Nat} {g : Nat} {t : TypeId} {old cs : Array Value} (h : ByT W A bs) (hg : Blk W g t old) (ht : t ≠ 5) : ByT (W.setRow g cs) A bs :=
  h.keep fun b _ _ ⟨c, z, hh⟩ => setRow_other W g b cs (by
    rintro rfl
    unfold Blk at hg
    rw [hg] at hh
    simp only [Option.some.injEq, Obj.cells.injEq] at hh
    exact ht hh.2.1)
theorem ByT.grown {W W' : World} {A : Option Addr} {bs : List Nat} {B n size : Nat} {e : TypeId} {v : Value} {xs : List Value} (h : ByT W A bs) (hg : W.grownBy W' v.ownBlock) (hv : W.ownsRow B e size v n xs) (he : e ≠ 5) : ByT W' A bs :=
  h.keep fun b _ _ ⟨c, z, hh⟩ => hg.block b (heap_lt hh) (by
    obtain ⟨_, ⟨rfl, _⟩ | ⟨k, cap, cur, rfl, _, hk, _⟩⟩ := hv
    · simp [Value.ownBlock]
    · intro e2
      simp only [Value.ownBlock, Option.some.injEq] at e2
      subst e2
      rw [hk] at hh
      simp only [Option.some.injEq, Obj.cells.injEq] at hh
      exact he hh.2.1)
theorem own_byt {W : World} {B : Nat} {v : Value} {bs : List Nat} (h : W.ownsRow B 5 1 v bs.length (u8s bs)) : ∃ A c, v = .slice A bs.length c ∧ bs.length ≤ c ∧ ByT W A bs ∧ (A = none → bs = []) := by
  obtain ⟨A, c, rfl, hc, hr, hA⟩ := own_byr h
  refine ⟨A, c, rfl, hc, ?_, hA⟩
  obtain ⟨hl, ⟨e, h0⟩ | ⟨k, cap, cur, e, hk, hh, _⟩⟩ := h
  · exact Or.inl (List.length_eq_zero_iff.1 h0)
  · simp only [Value.slice.injEq] at e
    refine hr.imp id ?_
    rintro ⟨b, p, rfl, hb, hcl⟩
    have := e.1
    simp only [Option.some.injEq, Addr.mk.injEq] at this
    obtain ⟨rfl, rfl, -⟩ := this
    exact ⟨_, _, rfl, ⟨_, _, hh⟩, hcl⟩
theorem data_byr {W : World} {b p : Nat} {bs : List Nat} {n : Nat} (hb : b < W.heap.size) (hc : ∀ (i x : Nat), bs[i]? = some x → W.cell? ⟨b, p + i, none⟩ = some (.int .u8 (x : Nat))) : ByR W (some ⟨b, p + 4, none⟩) (Fr.dataOf bs n) := by
  refine Or.inr ⟨b, p + 4, rfl, hb, fun i x h => ?_⟩
  have : bs[4 + i]? = some x := by
    unfold Fr.dataOf at h
    rw [List.getElem?_drop, List.getElem?_take] at h
    split at h
    · exact h
    · cases h
  have := hc _ _ this
  rwa [show p + (4 + i) = p + 4 + i by omega] at this
theorem data_256 {bs : List Nat} {n : Nat} (h : ∀ x ∈ bs, x < 256) : ∀ x ∈ Fr.dataOf bs n, x < 256 := fun x hx => h x (List.mem_of_mem_take (List.mem_of_mem_drop hx))
/-- What a record's box says. -/
def Opened (W0 wx : World) (k : Nat) (d : List Nat) (x : Value) : Prop := ∃ g A c, x = .pointer (some ⟨g, 0, none⟩) ∧ W0.heap.size ≤ g ∧ Blk wx g 24 #[.int .i64 (k : Nat), .slice A d.length c] ∧ d.length ≤ c ∧ ByT wx A d ∧ (A = none → d = []) ∧ (∀ a, A = some a → W0.heap.size ≤ a.block) ∧ Below W0.heap.size W0 wx
/-- What is opened: the record, or an error. -/
def OpenR (W W' : World) (kd er : Nat) (dt : List Nat) (e : Ending) : Prop :=
  (er = 0 → ∃ A' c', e = .returned (.tuple #[.agg #[.int .i64 (kd : Nat), .slice A' dt.length c'], .int .i64 0]) ∧ dt.length ≤ c' ∧ ByT W' A' dt ∧ (A' = none → dt = [])) ∧
  (er ≠ 0 → e = .returned (.tuple #[.agg #[.int .i64 0, .slice none 0 0], .int .i64 (er : Nat)])) ∧ Below W.heap.size W W'
theorem or_lit (a b x P : Nat) (i : Nat) (hP : P = 2 ^ i) (hx : x = P * a) (hb : b < P) (h : x + b < 4294967296) : bits .or .u32 (x : Int) (b : Int) = ((x + b : Nat) : Int) := by
  subst hP
  exact u32_or_plus a b x i hx hb h
theorem or_bounds (y0 y1 y2 y3 : Nat) (m0 : y0 < 256) (m1 : y1 < 256) (m2 : y2 < 256) (m3 : y3 < 256) : y1 * 65536 < 16777216 ∧ y2 * 256 < 65536 ∧ y0 * 16777216 + y1 * 65536 < 4294967296 ∧ y0 * 16777216 + y1 * 65536 + y2 * 256 < 4294967296 ∧
    y0 * 16777216 + y1 * 65536 + y2 * 256 + y3 < 4294967296 ∧ y0 * 16777216 = 16777216 * y0 ∧ y0 * 16777216 + y1 * 65536 = 65536 * (y0 * 256 + y1) ∧ y0 * 16777216 + y1 * 65536 + y2 * 256 = 256 * (y0 * 65536 + y1 * 256 + y2) :=
  ⟨by omega, by omega, by omega, by omega, by omega, by omega, by omega, by omega⟩
theorem or32 (y0 y1 y2 y3 : Nat) (m0 : y0 < 256) (m1 : y1 < 256) (m2 : y2 < 256) (m3 : y3 < 256) :
    bits .or .u32 (bits .or .u32 (bits .or .u32 (IntKind.u32.wrap (IntKind.u32.wrap (y0 : Int) * 16777216)) (IntKind.u32.wrap (IntKind.u32.wrap (y1 : Int) * 65536))) (IntKind.u32.wrap (IntKind.u32.wrap (y2 : Int) * 256))) (IntKind.u32.wrap (y3 : Int)) = ((y0 * 16777216 + y1 * 65536 + y2 * 256 + y3 : Nat) : Int) := by
  have a0 : IntKind.u32.wrap (IntKind.u32.wrap (y0 : Int) * 16777216) = ((y0 * 16777216 : Nat) : Int) := by rw [IntKind.wrap_u32, IntKind.wrap_u32]; omega
  have a1 : IntKind.u32.wrap (IntKind.u32.wrap (y1 : Int) * 65536) = ((y1 * 65536 : Nat) : Int) := by rw [IntKind.wrap_u32, IntKind.wrap_u32]; omega
  have a2 : IntKind.u32.wrap (IntKind.u32.wrap (y2 : Int) * 256) = ((y2 * 256 : Nat) : Int) := by rw [IntKind.wrap_u32, IntKind.wrap_u32]; omega
  have a3 : IntKind.u32.wrap (y3 : Int) = (y3 : Nat) := by rw [IntKind.wrap_u32]; omega
  rw [a0, a1, a2, a3]
  clear a0 a1 a2 a3
  obtain ⟨b1, b2, l1, l2, l3, e1, e2, e3⟩ := or_bounds y0 y1 y2 y3 m0 m1 m2 m3
  rw [or_lit y0 (y1 * 65536) (y0 * 16777216) 16777216 24 (by decide) e1 b1 l1, or_lit _ (y2 * 256) _ 65536 16 (by decide) e2 b2 l2, or_lit _ y3 _ 256 8 (by decide) e3 m3 l3]
section
variable (W : World)
set_option maxHeartbeats 2000000 in
set_option maxRecDepth 20000 in
theorem open_any (A : Option Addr) (n c : Nat) (bs : List Nat) (hn : bs.length = n) (h9 : 9 ≤ n) (hm : n ≤ 100000) (hc : n ≤ c) (h : ByR W A bs) (h256 : ∀ x ∈ bs, x < 256) :
    Calls Try.prog 17 #[.slice A n c] W fun e W' => OpenR W W' (Fr.kindOf bs) (Fr.errOf 3 9 bs n) (Fr.dataOf bs n) e := by
  obtain ⟨b, p, rfl, hb, hcell⟩ := h.resolve_left (by rintro rfl; simp at hn; omega)
  obtain ⟨E, hE⟩ : ∃ E, n = E + 5 := ⟨n - 5, by omega⟩
  obtain ⟨D, hD⟩ : ∃ D, E = D + 4 := ⟨E - 4, by omega⟩
  have c1 := at_cell hcell 1 (by omega)
  obtain ⟨x1, hx1⟩ : ∃ x, x = Fr.at' bs 1 := ⟨_, rfl⟩
  have l1 := at_lt h256 1
  rw [← hx1] at c1 l1
  obtain ⟨hdl, hdg⟩ := data_get hn hE hD
  obtain ⟨er, her⟩ : ∃ er, er = Fr.errOf 3 9 bs n := ⟨_, rfl⟩
  obtain ⟨kd, hkd⟩ : ∃ kd, kd = Fr.kindOf bs := ⟨_, rfl⟩
  obtain ⟨dt, hdt⟩ : ∃ dt, dt = Fr.dataOf bs n := ⟨_, rfl⟩
  rw [← her, ← hkd, ← hdt]
  have HER := Lib.hid her
  have HK1 := Lib.hid hx1
  have HX1K := Lib.hid l1
  have HKD := Lib.hid (show kd = x1 by rw [hkd, hx1]; rfl)
  have HDT := Lib.hid hdt
  have HDL := Lib.hid (show dt.length = D by rw [hdt]; exact hdl)
  have HC := Lib.hid hcell
  have HL := Lib.hid hn
  have H256 := Lib.hid h256
  have HM := Lib.hid hm
  have HEN := Lib.hid (And.intro hE hD)
  have HDB := Lib.hid (show ∀ w, Below W.heap.size W w → ByR w (some ⟨b, p + 4, none⟩) dt from fun w hw => by rw [hdt]; exact (data_byr (n := n) hb hcell).next hw)
  have i1 : 1 < n := by omega
  have i1' : (1 : Int) < (n : Nat) := by omega
  have i4 : (4 : Int) ≤ (E : Nat) := by omega
  have i4' : 4 ≤ E := by omega
  have iE : (E : Int) ≤ (c : Nat) := by omega
  have iE' : E ≤ c := by omega
  have iD : E - 4 = D := by omega
  have ic : ¬ c = 4 := by omega
  have ic' : (4 : Int) ≤ (c : Nat) := by omega
  have HI := Lib.hid (And.intro i1 hc)
  have w5 := less_five n E hE (by omega)
  obtain ⟨w5a, w5b⟩ := w5
  have wk := i64_small x1 (by omega)
  clear her hkd hdt hcell hn h256 hm hE hD hdl hdg hx1 l1 h h9 hc
  have hz : Below W.heap.size W (W.alloc (.cells #[.int .i64 0, .slice none 0 0] 24)) := (Below.refl _ _).alloc (Nat.le_refl _) _
  have HX0 := Lib.hid (Blk.new W 24 #[.int .i64 0, .slice none 0 0])
  have HZ := Lib.hid hz
  have q1 : (W.alloc (.cells #[.int .i64 0, .slice none 0 0] 24)).cell? ⟨b, p + 1, none⟩ = some (.int .u8 (x1 : Nat)) := (hz.cell (p := ⟨b, p + 1, none⟩) hb).trans c1
  have HQ1 := Lib.hid q1
  go_enter Try.func17, Try.ntmps17
  go_upto_region 2 with fail
  obtain ⟨w0, hw0⟩ : ∃ w0, w0 = W.alloc (.cells #[.int .i64 0, .slice none 0 0] 24) := ⟨_, rfl⟩
  have HWZ := Lib.hid (show w0.heap.size = W.heap.size + 1 by rw [hw0]; simp)
  rw [← hw0] at HX0 HZ q1 hz HQ1 ⊢
  clear hw0 c1 w5a w5b
  go_cut [5] from 10 to 18 (fun x wx => Opened w0 wx x1 dt x)
  case first =>
    refine wp_region_tree (S := (fun W' => W'.cell? ⟨b, p + 1, none⟩ = some (.int .u8 (x1 : Nat)) ∧ Below w0.heap.size w0 W')) (.take 0 (.take 1 (.take 2 (.take 3 (.take 4 (.take 5 (.take 6 (.two 7 (.take 8 (.one 9 (.one 10 .nil))) 9 (.one 7 (.take 8 (.one 10 .nil))))))))))) 9999 (by kernel_rfl) (by kernel_rfl) (by kernel_rfl) (by kernel_rfl) (by kernel_rfl) (fun _ _ d _ _ h => by cases d <;> exact h) ?_ (fun hHeld => ?_); (focus (exact ⟨q1, (Below.refl _ _).drew⟩)); simp only [Tree.map, List.getElem?_toArray, List.getElem?_cons_zero, List.getElem?_cons_succ]
    (repeat (first | (refine wpTree.take (v := undef) (Or.inr ⟨by rfl, rfl⟩) ?_; simp only [Act.put, List.setIfInBounds_toArray, List.set_cons_zero, List.set_cons_succ]) | (refine wpTree.take (v := ?_) (Or.inl ⟨by rfl, ?_⟩) ?_; rotate_left; (focus (intro _ hS; (try dsimp only at hS); go_split_ands; (try subst hS); go_simp; (try (with_reducible rfl)); done)); simp only [Act.put, List.setIfInBounds_toArray, List.set_cons_zero, List.set_cons_succ])))
    refine wpTree.two ?_ ?_
    · refine wpTree.one (fun K hK => ?_)
      go_simp
      go_at_call 20
      have hs0 : Src w0.drew (some ⟨b, p + 4, none⟩) D (u8s dt) := by
        have := (HDB.out w0.drew (HZ.out.trans ((Below.refl w0.heap.size w0).drew.mono HZ.out.size))).src (fun e => by cases e)
        rwa [HDL.out] at this
      refine (bclone_any w0.drew (some ⟨b, p + 4, none⟩) D (c - 4) dt HDL.out hs0 (by have := HEN.out; have := HM.out; omega)).mono ?_
      rintro e w1 ⟨v, rfl, hown, hb1⟩
      obtain ⟨A1, c1', rfl, hcc, hrd, hA1⟩ := own_byt hown
      have HLO := Lib.hid (own_low hown)
      have hb1' : Below w0.heap.size w0 w1 := ⟨hb1.os, hb1.tape, hb1.output, hb1.size, hb1.block⟩
      refine hK.out _ _ ⟨(hb1'.cell (p := ⟨b, p + 1, none⟩) (World.block_lt_of_cell? _ _ HQ1.out)).trans HQ1.out, hb1'⟩ (fun hHeld' => ?_)
      clear hK K hHeld hHeld' hown hb1 hs0
      have HB1 := Lib.hid hb1'
      have HR1 := Lib.hid hrd
      have HA1 := Lib.hid hA1
      have HC1 := Lib.hid hcc
      clear hb1' hrd hA1 hcc
      (try simp only [Act.put, List.setIfInBounds_toArray, List.set_cons_zero, List.set_cons_succ])
      (repeat (first | (refine wpTree.take (v := undef) (Or.inr ⟨by rfl, rfl⟩) ?_; simp only [Act.put, List.setIfInBounds_toArray, List.set_cons_zero, List.set_cons_succ]) | (refine wpTree.take (v := ?_) (Or.inl ⟨by rfl, ?_⟩) ?_; rotate_left; (focus (intro _ hS; (try dsimp only at hS); go_split_ands; (try subst hS); go_simp; (try (with_reducible rfl)); done)); simp only [Act.put, List.setIfInBounds_toArray, List.set_cons_zero, List.set_cons_succ])))
      refine wpTree.one (fun K hK => ?_)
      go_simp
      have hal := (Below.refl w1.heap.size w1).alloc (Nat.le_refl _) (.cells #[.int .i64 0, .slice none 0 0] 24)
      refine hK.out _ _ ⟨((HB1.out.trans (hal.mono HB1.out.size)).cell (p := ⟨b, p + 1, none⟩) (World.block_lt_of_cell? _ _ HQ1.out)).trans HQ1.out, HB1.out.trans (hal.mono HB1.out.size)⟩ (fun hHeld' => ?_)
      clear hK K hHeld' hal
      (try simp only [Act.put, List.setIfInBounds_toArray, List.set_cons_zero, List.set_cons_succ])
      refine wpTree.one (fun K hK => ?_)
      refine step_store_blk (by rfl) 24 _ _ rfl w1.heap.size 24 #[.int .i64 0, .slice none 0 0] #[.int .i64 (x1 : Nat), .slice A1 dt.length c1'] rfl rfl (Blk.new w1 _ _) (rcinfoA ⟨x1, A1, c1', dt⟩) rfl (rc_one ⟨x1, A1, c1', dt⟩) ?_
      have hst := below_setRow ((Below.refl w1.heap.size w1).alloc (Nat.le_refl _) (.cells #[.int .i64 0, .slice none 0 0] 24)) (Nat.le_refl _) #[.int .i64 (x1 : Nat), .slice A1 dt.length c1']
      refine hK.out _ _ ⟨((HB1.out.trans (hst.mono HB1.out.size)).cell (p := ⟨b, p + 1, none⟩) (World.block_lt_of_cell? _ _ HQ1.out)).trans HQ1.out, HB1.out.trans (hst.mono HB1.out.size)⟩ (fun hHeld' => ?_)
      clear hK K hHeld'
      (try simp only [Act.put, List.setIfInBounds_toArray, List.set_cons_zero, List.set_cons_succ])
      refine wpTree.done ?_
      go_wp2_with fail
      go_meet
      exact ⟨_, A1, c1', rfl, HB1.out.size, (Blk.new w1 _ _).setRow _, HC1.out, HR1.out.next hst, HA1.out, HLO.out, HB1.out.trans (hst.mono HB1.out.size)⟩
    · refine wpTree.one (fun K hK => ?_)
      go_simp
      have hal' := ((Below.refl w0.heap.size w0).alloc (Nat.le_refl _) (.cells #[.int .i64 0, .slice none 0 0] 24)).drew
      have hX := (Blk.new w0 24 #[.int .i64 0, .slice none 0 0]).drew
      obtain ⟨y0, hy0⟩ : ∃ y0, y0 = (w0.alloc (.cells #[.int .i64 0, .slice none 0 0] 24)).drew := ⟨_, rfl⟩
      rw [← hy0] at hal' hX ⊢
      clear hy0
      refine hK.out _ _ ⟨(hal'.cell (p := ⟨b, p + 1, none⟩) (World.block_lt_of_cell? _ _ HQ1.out)).trans HQ1.out, hal'⟩ (fun hHeld' => ?_)
      clear hK K hHeld hHeld'
      (try simp only [Act.put, List.setIfInBounds_toArray, List.set_cons_zero, List.set_cons_succ])
      refine wpTree.one (fun K hK => ?_)
      go_simp
      go_at_call 20
      have hs0 : Src y0 (some ⟨b, p + 4, none⟩) D (u8s dt) := by
        have := (HDB.out y0 (HZ.out.trans (hal'.mono HZ.out.size))).src (fun e => by cases e)
        rwa [HDL.out] at this
      refine (bclone_any y0 (some ⟨b, p + 4, none⟩) D (c - 4) dt HDL.out hs0 (by have := HEN.out; have := HM.out; omega)).mono ?_
      rintro e w1 ⟨v, rfl, hown, hb1⟩
      obtain ⟨A1, c1', rfl, hcc, hrd, hA1⟩ := own_byt hown
      have HLO := Lib.hid (show ∀ a, A1 = some a → w0.heap.size ≤ a.block from fun a ha => Nat.le_trans hal'.size (own_low hown a ha))
      have hX1 := hX.next hb1
      have hb1' : Below w0.heap.size w0 w1 := hal'.trans (hb1.mono hal'.size)
      have hne : A1 = none ∨ ∃ g, A1 = some ⟨g, 0, none⟩ ∧ g ≠ w0.heap.size := by
        obtain ⟨_, ⟨e, _⟩ | ⟨g, cap, cur, e, hg, _⟩⟩ := hown
        · simp only [Value.slice.injEq] at e; exact Or.inl e.1
        · simp only [Value.slice.injEq] at e
          refine Or.inr ⟨g, e.1, ?_⟩
          have := hX.lt
          omega
      refine hK.out _ _ ⟨(hb1'.cell (p := ⟨b, p + 1, none⟩) (World.block_lt_of_cell? _ _ HQ1.out)).trans HQ1.out, hb1'⟩ (fun hHeld' => ?_)
      clear hK K hHeld' hown hb1 hs0 hal' hX
      have HB1 := Lib.hid hb1'
      have HR1 := Lib.hid hrd
      have HA1 := Lib.hid hA1
      have HC1 := Lib.hid hcc
      have HX1 := Lib.hid hX1
      have HNE := Lib.hid hne
      clear hb1' hrd hA1 hcc hX1 hne
      (try simp only [Act.put, List.setIfInBounds_toArray, List.set_cons_zero, List.set_cons_succ])
      (repeat (first | (refine wpTree.take (v := undef) (Or.inr ⟨by rfl, rfl⟩) ?_; simp only [Act.put, List.setIfInBounds_toArray, List.set_cons_zero, List.set_cons_succ]) | (refine wpTree.take (v := ?_) (Or.inl ⟨by rfl, ?_⟩) ?_; rotate_left; (focus (intro _ hS; (try dsimp only at hS); go_split_ands; (try subst hS); go_simp; (try (with_reducible rfl)); done)); simp only [Act.put, List.setIfInBounds_toArray, List.set_cons_zero, List.set_cons_succ])))
      refine wpTree.one (fun K hK => ?_)
      refine step_store_blk (by rfl) 24 _ _ rfl w0.heap.size 24 #[.int .i64 0, .slice none 0 0] #[.int .i64 (x1 : Nat), .slice A1 dt.length c1'] rfl rfl HX1.out (rcinfoA ⟨x1, A1, c1', dt⟩) rfl (rc_one ⟨x1, A1, c1', dt⟩) ?_
      have hst := below_setRow HB1.out (Nat.le_refl w0.heap.size) #[.int .i64 (x1 : Nat), .slice A1 dt.length c1']
      refine hK.out _ _ ⟨(hst.cell (p := ⟨b, p + 1, none⟩) (World.block_lt_of_cell? _ _ HQ1.out)).trans HQ1.out, hst⟩ (fun hHeld' => ?_)
      clear hK K hHeld'
      (try simp only [Act.put, List.setIfInBounds_toArray, List.set_cons_zero, List.set_cons_succ])
      refine wpTree.done ?_
      go_wp2_with fail
      go_meet
      refine ⟨_, A1, c1', rfl, Nat.le_refl _, HX1.out.setRow _, HC1.out, ?_, HA1.out, HLO.out, hst⟩
      exact HR1.out.row HX1.out (by decide)
  case rest =>
    obtain ⟨g, A1, c1', rfl, hg0, hX, hcc, hrd, hA1, hlo, hb1⟩ := hcut
    have HLO := Lib.hid (show ∀ a, A1 = some a → a.block ≠ W.heap.size from fun a ha => by have := hlo a ha; have := HWZ.out; omega)
    clear hlo
    have HX1 := Lib.hid hX
    have HG0 := Lib.hid hg0
    have HR1 := Lib.hid (And.intro hcc (And.intro hrd hA1))
    have HB1 := Lib.hid (HZ.out.trans (hb1.mono HZ.out.size))
    have HY1 := Lib.hid (HX0.out.next hb1)
    clear hX hg0 hcc hrd hA1 hb1 HQ1 q1 hz HZ HX0
    have HRT := Lib.hid (right_any wc (x1 : Nat) A1 dt.length c1')
    obtain ⟨rb, hrb⟩ : ∃ rb, rb = Fr.rightB (x1 : Nat) dt.length := ⟨_, rfl⟩
    rw [← hrb] at HRT
    have g0 : wc.cell? ⟨g, 0, none⟩ = some (.int .i64 (x1 : Nat)) := HX1.out.cell 0
    have g1 : wc.cell? ⟨g, 1, none⟩ = some (.slice A1 dt.length c1') := HX1.out.cell 1
    have HRB := Lib.hid hrb
    clear hrb
    cases rb with
    | false =>
      have HE0 := Lib.hid (show er = 3 by rw [HER.out]; unfold Fr.errOf; rw [show Fr.kindOf bs = x1 by rw [HK1.out]; rfl, ← HDT.out, ← HRB.out, if_pos rfl])
      clear HR1
      go_wp2_with (first | (go_at_call 11; refine HRT.out.mono ?_; rintro e w2 ⟨rfl, hb⟩; have HB2 := Lib.hid (HB1.out.trans (hb.mono HB1.out.size)); have HY2 := Lib.hid (HY1.out.next hb); clear hb) | (refine wpList_store_blk rfl 24 _ _ rfl W.heap.size 24 #[.int .i64 0, .slice none 0 0] #[.int .i64 0, .slice none 0 0] rfl rfl HY2.out (rcinfoA ⟨0, none, 0, []⟩) rfl (rc_one ⟨0, none, 0, []⟩) ?_; intro hY))
      refine bodyPost_row_tmp #[.int .i64 0, .slice none 0 0] (.int .i64 3) rfl rfl rfl rfl Try.underlying24 rfl (rcinfoA ⟨0, none, 0, []⟩) hY ?_
      refine ⟨fun h => ?_, fun _ => by rw [HE0.out]; rfl, below_setRow HB2.out (Nat.le_refl _) _⟩
      rw [HE0.out] at h
      cases h
    | true =>
      go_upto_region 5 with (go_at_call 11; refine HRT.out.mono ?_; rintro e w2 ⟨rfl, hb⟩; have HB2 := Lib.hid (HB1.out.trans (hb.mono HB1.out.size)); have HY2 := Lib.hid (HY1.out.next hb); have HX2 := Lib.hid (HX1.out.next hb); have HR2 := Lib.hid (show dt.length ≤ c1' ∧ ByT w2 A1 dt ∧ (A1 = none → dt = []) from ⟨HR1.out.1, HR1.out.2.1.next hb, HR1.out.2.2⟩); clear hb HY1 HX1 HR1 HB1 g0 g1)
      have hcl := fun (i : Nat) (hi : i < bs.length) => (HB2.out.cell (p := ⟨b, p + i, none⟩) hb).trans (at_cell HC.out i hi)
      obtain ⟨F1, hF1⟩ : ∃ F, F = E + 1 := ⟨_, rfl⟩
      obtain ⟨F2, hF2⟩ : ∃ F, F = E + 2 := ⟨_, rfl⟩
      obtain ⟨F3, hF3⟩ : ∃ F, F = E + 3 := ⟨_, rfl⟩
      obtain ⟨hE, hD⟩ := HEN.out
      have hm := HM.out
      have s0 := hcl E (by rw [HL.out]; omega)
      have s1 := hcl F1 (by rw [HL.out]; omega)
      have s2 := hcl F2 (by rw [HL.out]; omega)
      have s3 := hcl F3 (by rw [HL.out]; omega)
      have m0 := at_lt H256.out E
      have m1 := at_lt H256.out F1
      have m2 := at_lt H256.out F2
      have m3 := at_lt H256.out F3
      have HSA := Lib.hid (show Fr.sumAt bs n = Fr.at' bs E * 16777216 + Fr.at' bs F1 * 65536 + Fr.at' bs F2 * 256 + Fr.at' bs F3 by
        unfold Fr.sumAt
        rw [show n - 5 = E by omega, show n - 4 = F1 by omega, show n - 3 = F2 by omega, show n - 2 = F3 by omega])
      have ee1 : E < n := by omega
      have ee1' : (E : Int) < (n : Nat) := by omega
      have ff1 : F1 < n := by omega
      have ff1' : (F1 : Int) < (n : Nat) := by omega
      have ff2 : F2 < n := by omega
      have ff2' : (F2 : Int) < (n : Nat) := by omega
      have ff3 : F3 < n := by omega
      have ff3' : (F3 : Int) < (n : Nat) := by omega
      have gg1 : IntKind.i64.wrap ((E : Int) + 1) = (F1 : Nat) := by rw [IntKind.wrap_i64]; omega
      have gg2 : IntKind.i64.wrap ((E : Int) + 2) = (F2 : Nat) := by clear gg1; rw [IntKind.wrap_i64]; omega
      have gg3 : IntKind.i64.wrap ((E : Int) + 3) = (F3 : Nat) := by clear gg1 gg2; rw [IntKind.wrap_i64]; omega
      obtain ⟨y0, hy0⟩ : ∃ y, y = Fr.at' bs E := ⟨_, rfl⟩
      obtain ⟨y1, hy1⟩ : ∃ y, y = Fr.at' bs F1 := ⟨_, rfl⟩
      obtain ⟨y2, hy2⟩ : ∃ y, y = Fr.at' bs F2 := ⟨_, rfl⟩
      obtain ⟨y3, hy3⟩ : ∃ y, y = Fr.at' bs F3 := ⟨_, rfl⟩
      rw [← hy0] at s0 m0
      rw [← hy1] at s1 m1
      rw [← hy2] at s2 m2
      rw [← hy3] at s3 m3
      rw [← hy0, ← hy1, ← hy2, ← hy3] at HSA
      clear hcl hF1 hF2 hF3 hE hD hm hy0 hy1 hy2 hy3
      refine wp_region_tree (S := (fun w' => w'.cell? ⟨b, p + E, none⟩ = some (.int .u8 (y0 : Nat)) ∧ w'.cell? ⟨b, p + F1, none⟩ = some (.int .u8 (y1 : Nat)) ∧ w'.cell? ⟨b, p + F2, none⟩ = some (.int .u8 (y2 : Nat)) ∧ w'.cell? ⟨b, p + F3, none⟩ = some (.int .u8 (y3 : Nat)))) (.take 0 (.take 1 (.take 2 (.take 3 (.take 4 (.take 5 (.take 6 (.take 7 (.take 8 (.take 9 (.take 10 (.take 11 (.take 12 (.take 13 (.take 14 (.take 15 (.take 16 (.take 17 (.take 18 (.take 19 (.take 20 (.take 21 (.take 22 (.take 23 (.take 24 (.take 25 (.take 26 (.take 27 (.take 28 (.take 29 .nil)))))))))))))))))))))))))))))) 9999 (by kernel_rfl) (by kernel_rfl) (by kernel_rfl) (by kernel_rfl) (by kernel_rfl) (fun _ _ d _ _ h => by cases d <;> exact h) ⟨s0, s1, s2, s3⟩ (fun hHeld => ?_); simp only [Tree.map, List.getElem?_toArray, List.getElem?_cons_zero, List.getElem?_cons_succ]
      (repeat (first | (refine wpTree.take (v := undef) (Or.inr ⟨by rfl, rfl⟩) ?_; simp only [Act.put, List.setIfInBounds_toArray, List.set_cons_zero, List.set_cons_succ]) | (refine wpTree.take (v := ?_) (Or.inl ⟨by rfl, ?_⟩) ?_; rotate_left; (focus (intro _ hS; (try dsimp only at hS); go_split_ands; (try subst hS); go_simp; (try (with_reducible rfl)); done)); simp only [Act.put, List.setIfInBounds_toArray, List.set_cons_zero, List.set_cons_succ])))
      refine wpTree.done ?_
      obtain ⟨sa, hsa⟩ : ∃ sa, sa = y0 * 16777216 + y1 * 65536 + y2 * 256 + y3 := ⟨_, rfl⟩
      rw [← hsa] at HSA
      have hor := or32 y0 y1 y2 y3 m0 m1 m2 m3
      rw [← hsa] at hor
      rw [hor]
      have HSA32 := Lib.hid (show sa < 4294967296 by clear hor; omega)
      clear hor hsa hHeld s0 s1 s2 s3 gg1 gg2 gg3 m0 m1 m2 m3
      have HR3 := Lib.hid (show ByT w2.drew A1 dt from HR2.out.2.1)
      have HDB6 := Lib.hid (show ∀ x ∈ dt, x < 256 by rw [HDT.out]; exact data_256 H256.out)
      have HS := Lib.hid (sum_any w2.drew x1 HX1K.out A1 c1' dt dt.length rfl (by have := HM.out; have := HEN.out; have := HDL.out; have := rightB_len HRB.out; omega) HR3.out.byr HDB6.out)
      obtain ⟨sm, hsm⟩ : ∃ sm, sm = Crc.sum (x1 :: dt) := ⟨_, rfl⟩
      rw [← hsm] at HS
      have HSM := Lib.hid hsm
      clear hsm
      have g0 : w2.drew.cell? ⟨g, 0, none⟩ = some (.int .i64 (x1 : Nat)) := HX2.out.drew.cell 0
      have g1 : w2.drew.cell? ⟨g, 1, none⟩ = some (.slice A1 dt.length c1') := HX2.out.drew.cell 1
      have HERR := Lib.hid (show er = if sa = sm then 0 else 9 by rw [HER.out]; unfold Fr.errOf; rw [show Fr.kindOf bs = x1 by rw [HK1.out]; rfl, ← HDT.out, ← HRB.out, if_neg (by decide), HSA.out, HSM.out])
      by_cases hs : sa = sm
      · have HE0 := Lib.hid (show er = 0 by rw [HERR.out, if_pos hs])
        have q1 : ((sa : Int) != (sm : Nat)) = false := by simp [hs]
        have q2 : ((sa : Int) == (sm : Nat)) = true := by simp [hs]
        clear hs
        go_upto_region 8 with (go_at_call 15; refine HS.out.mono ?_; rintro e w3 ⟨rfl, hb⟩; have hb' : Below w2.heap.size w2 w3 := ⟨hb.os, hb.tape, hb.output, hb.size, hb.block⟩; have HB3 := Lib.hid (HB2.out.trans (hb'.mono HB2.out.size)); have HY3 := Lib.hid (HY2.out.next hb'); have HX3 := Lib.hid (HX2.out.next hb'); have HR4 := Lib.hid (HR3.out.next hb); clear hb hb' g0 g1 HS HB2 HY2 HX2)
        have g0 : w3.cell? ⟨g, 0, none⟩ = some (.int .i64 (x1 : Nat)) := HX3.out.cell 0
        have g1 : w3.cell? ⟨g, 1, none⟩ = some (.slice A1 dt.length c1') := HX3.out.cell 1
        go_wp2_with (refine wpList_store_blk rfl 24 _ _ rfl W.heap.size 24 #[.int .i64 0, .slice none 0 0] #[.int .i64 (x1 : Nat), .slice A1 dt.length c1'] rfl rfl HY3.out (rcinfoA ⟨x1, A1, c1', dt⟩) rfl (rc_one ⟨x1, A1, c1', dt⟩) ?_; intro hY)
        refine bodyPost_row_tmp #[.int .i64 (x1 : Nat), .slice A1 dt.length c1'] (.int .i64 0) rfl rfl rfl rfl Try.underlying24 rfl (rcinfoA ⟨x1, A1, c1', dt⟩) hY ?_
        refine ⟨fun _ => ⟨A1, c1', by rw [HKD.out], HR2.out.1, HR4.out.row HY3.out (by decide), HR2.out.2.2⟩, fun h => absurd HE0.out h, below_setRow HB3.out (Nat.le_refl _) _⟩
      · have HE0 := Lib.hid (show er = 9 by rw [HERR.out, if_neg hs])
        have q1 : ((sa : Int) != (sm : Nat)) = true := by simp; omega
        have q2 : ((sa : Int) == (sm : Nat)) = false := by simp; omega
        clear hs
        go_wp2_with (first | (go_at_call 15; refine HS.out.mono ?_; rintro e w3 ⟨rfl, hb⟩; have hb' : Below w2.heap.size w2 w3 := ⟨hb.os, hb.tape, hb.output, hb.size, hb.block⟩; have HB3 := Lib.hid (HB2.out.trans (hb'.mono HB2.out.size)); have HY3 := Lib.hid (HY2.out.next hb'); clear hb hb' g0 g1 HS HB2 HY2 HX2) | (refine wpList_store_blk rfl 24 _ _ rfl W.heap.size 24 #[.int .i64 0, .slice none 0 0] #[.int .i64 0, .slice none 0 0] rfl rfl HY3.out (rcinfoA ⟨0, none, 0, []⟩) rfl (rc_one ⟨0, none, 0, []⟩) ?_; intro hY))
        refine bodyPost_row_tmp #[.int .i64 0, .slice none 0 0] (.int .i64 9) rfl rfl rfl rfl Try.underlying24 rfl (rcinfoA ⟨0, none, 0, []⟩) hY ?_
        refine ⟨fun h => ?_, fun _ => by rw [HE0.out]; rfl, below_setRow HB3.out (Nat.le_refl _) _⟩
        rw [HE0.out] at h
        cases h
end
end Go.Proofs.Ytejehmimidnaiaa
