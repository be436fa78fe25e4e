/-
links: Hear.
-/
import Derived.Test.YtifoheodcbjapaaLs5
namespace Go.Proofs.Ytifoheodcbjapaa
open Go.RowKit
set_option linter.unusedSimpArgs false
set_option linter.unusedVariables false
namespace Ls
open Lk
theorem box_back2 {W w2 w3 : World} {B b : Nat} {F : Nat → Prop} {s : LS} (h : LK w3 B b (fun k => F k ∨ k = b) s) (hbl : W.heap.size ≤ b) (hbw : b < w2.heap.size) (hs : w2.heap.size ≤ w3.heap.size) :
    ∃ k : Kn, k.s = s ∧ Blk w3 b 47 k.cells.toArray ∧ LkO w3 (Grow F W w3) k.A k.c k.l k.s := by
  obtain ⟨A, c, l, D⟩ := h
  refine ⟨⟨s, A, c, l⟩, rfl, D.blk, D.lko.keep fun k hk => ⟨?_, rfl⟩⟩
  rcases hk with hk | rfl
  · exact Or.inl hk
  · exact Or.inr ⟨hbl, by omega⟩
theorem ls_no8 (own : Nat) (K : Nat → Kn) {n y : Nat} (h : (lsc own K)[n]? = some (.int .u8 (y : Nat))) : False := by
  by_cases hn : n < 37
  · by_cases h0 : n = 0
    · subst h0; rw [ls_0] at h; cases h
    · rw [ls_at _ _ h0 hn] at h
      generalize hq : (n - 1) % 3 = q at h
      have hm : q < 3 := by omega
      match q, hm with
      | 0, _ => simp [Kn.cells, lkc] at h
      | 1, _ => simp [Kn.cells, lkc] at h
      | 2, _ => simp [Kn.cells, lkc] at h
  · rw [List.getElem?_eq_none (by rw [ls_len]; omega)] at h; cases h
/-- Bytes of somebody else stay. -/
theorem byr_far {W w : World} {B d own : Nat} {F : Nat → Prop} {K : Nat → Kn} (D : Lks W B d F own K) {A : Option Addr} {bs : List Nat} (h : Byt.ByR W A bs) (hs : W.heap.size ≤ w.heap.size) (hk : ∀ j, j < W.heap.size → j ≠ d → w.heap[j]? = W.heap[j]?) : Byt.ByR w A bs := by
  rcases h with rfl | ⟨b, p, e, h1, h2⟩
  · exact Or.inl rfl
  · refine Or.inr ⟨b, p, e, by omega, fun i y hy => ?_⟩
    have hc := h2 i y hy
    by_cases hd : b = d
    · subst hd
      rw [D.blk.cell, List.getElem?_toArray] at hc
      exact (ls_no8 own K hc).elim
    · exact (World.cell?_of_block (a := ⟨b, p + i, none⟩) (hk b h1 hd)).trans hc
theorem Lks.on {W w w' : World} {B d own : Nat} {F : Nat → Prop} {K : Nat → Kn} (D : Lks w B d (Grow F W w) own K) (hd : B ≤ W.heap.size) (hb : Below w.heap.size w w') : Lks w' B d (Grow F W w') own K :=
  (D.next hb).wider (by
    rintro k (hk | ⟨h1, h2⟩)
    · exact Or.inl hk
    · exact Or.inr ⟨h1, Nat.lt_of_lt_of_le h2 hb.size⟩) (by
    rintro k (hk | ⟨h1, h2⟩)
    · have := D.low k (Or.inl hk); exact ⟨this.1, Nat.lt_of_lt_of_le this.2 hb.size⟩
    · exact ⟨Nat.le_trans hd h1, h2⟩)
theorem take_zero (s : LS) (q : Nat) : (takeE s q).1 = true → (takeE s q).2 = 0 := by
  unfold takeE
  split
  · intro h; cases h
  · split
    · intro h; cases h
    · split
      · intro h; cases h
      · intro _; rfl
def hearE (own : Nat) (S : Nat → LS) (p : Pk.Pt) : Int :=
  if Pk.rightB p = false then 3 else if p.t ≠ (own : Int) then 11 else if p.k = true then ackE own S p.f p.q else (takeE (atS S (p.f.toNat - 1)) p.q).2
def hearB (own : Nat) (S : Nat → LS) (p : Pk.Pt) : Bool :=
  Pk.rightB p && decide (p.t = (own : Int)) && !p.k && (takeE (atS S (p.f.toNat - 1)) p.q).1
def hear (own : Nat) (S : Nat → LS) (p : Pk.Pt) : Nat → LS :=
  if Pk.rightB p = false then S else if p.t ≠ (own : Int) then S else if p.k = true then ack own S p.f p.q else if (takeE (atS S (p.f.toNat - 1)) p.q).1 = true then updS S (p.f.toNat - 1) ((atS S (p.f.toNat - 1)).take p.q) else S
/-- What Hear gives. -/
def HearP (W : World) (B d own : Nat) (F : Nat → Prop) (S : Nat → LS) (p : Pk.Pt) (e : Ending) (W' : World) : Prop :=
  ∃ v G, e = .returned (.tuple #[v, .bool (hearB own S p), .int .i64 (hearE own S p)]) ∧ (hearB own S p = true → W'.ownsRow W.heap.size 5 1 v p.bs.length (u8s p.bs)) ∧ (hearB own S p = false → v = .slice none 0 0) ∧
    (∀ k, G k → Grow F W W' k) ∧ (∀ k, v.ownBlock = some k → ¬ G k) ∧ LN W' B d G own (hear own S p) ∧ Turn B F W W'
theorem right_nodes {p : Pk.Pt} (h : Pk.rightB p = true) : isN p.f = true ∧ p.f ≠ p.t := by
  unfold Pk.rightB Pk.nodeB at h
  simp only [Bool.and_eq_true, decide_eq_true_eq] at h
  exact ⟨decide_eq_true ⟨h.1.1.1.1.1, h.1.1.1.1.2⟩, h.1.1.2⟩
section
variable (W : World) {B d own : Nat} {F : Nat → Prop} {K : Nat → Kn} {S : Nat → LS}
set_option maxRecDepth 20000 in
theorem hear_nb {v : Value} (h : NB W v) (x : Pk.Pc) : Calls Try.prog 12 #[v, .agg x.cells.toArray] W fun e W' => e = .returned (.tuple #[.slice none 0 0, .bool false, .int .i64 6]) ∧ Below W.heap.size W W' := by
  obtain ⟨w1, hw1⟩ : ∃ w1, w1 = W.alloc (.cells x.cells.toArray 40) := ⟨_, rfl⟩
  have hb1 : Below W.heap.size W w1 := by rw [hw1]; exact (Below.refl _ _).alloc (Nat.le_refl _) _
  have HM := Lib.hid (lmade_nb w1 (h.next hb1))
  have HB := Lib.hid hb1
  clear h hb1
  unfold Pk.Pc.cells at hw1 ⊢
  go_enter Try.func12, Try.ntmps12
  go_upto_region 1 with fail
  rw [← hw1]
  clear hw1
  go_wp2_with (first | (go_at_call 36; refine HM.out.mono ?_; rintro e w2 ⟨rfl, rfl⟩))
  go_ret3
  exact ⟨rfl, HB.out⟩
set_option maxHeartbeats 4000000 in
set_option maxRecDepth 20000 in
theorem hear_any (h : LN W B d F own S) (x : Pk.Pc) (ho : x.Ok W) : Calls Try.prog 12 #[.pointer (some ⟨d, 0, none⟩), .agg x.cells.toArray] W fun e W' => HearP W B d own F S x.p e W' := by
  obtain ⟨K, D, rfl⟩ := h
  obtain ⟨w1, hw1⟩ : ∃ w1, w1 = W.alloc (.cells x.cells.toArray 40) := ⟨_, rfl⟩
  have hb1 : Below W.heap.size W w1 := by rw [hw1]; exact (Below.refl _ _).alloc (Nat.le_refl _) _
  have hx1 : Blk w1 W.heap.size 40 x.cells.toArray := by rw [hw1]; exact Blk.new _ _ _
  have c0 : w1.cell? ⟨W.heap.size, 0, none⟩ = some (.bool x.p.k) := hx1.cell 0
  have c1 : w1.cell? ⟨W.heap.size, 1, none⟩ = some (.int .i64 x.p.f) := hx1.cell 1
  have c2 : w1.cell? ⟨W.heap.size, 2, none⟩ = some (.int .i64 x.p.t) := hx1.cell 2
  have c3 : w1.cell? ⟨W.heap.size, 3, none⟩ = some (.int .u64 (x.p.q : Nat)) := hx1.cell 3
  have HM := Lib.hid (lmade_any w1 (D.next hb1))
  have HR := Lib.hid (Pk.right_any w1 x)
  have HD := Lib.hid D
  have HX := Lib.hid hx1
  have HB := Lib.hid hb1
  have HO := Lib.hid ho
  have fin0 : ∀ w, Below W.heap.size W w → hearB own (fun i => (K i).s) x.p = false → hear own (fun i => (K i).s) x.p = (fun i => (K i).s) → HearP W B d own F (fun i => (K i).s) x.p (.returned (.tuple #[.slice none 0 0, .bool false, .int .i64 (hearE own (fun i => (K i).s) x.p)])) w := fun w hb h1 h2 =>
    ⟨_, Grow F W w, (by rw [h1]), (fun h => (by rw [h1] at h; cases h)), fun _ => rfl, fun _ h => h, (fun k h => (by simp [Value.ownBlock] at h)), (by rw [h2]; exact ⟨K, HD.out.grow hb, rfl⟩), ln_turn ⟨K, HD.out, rfl⟩ hb⟩
  have FIN := Lib.hid fin0
  clear fin0 ho
  obtain ⟨pc, hpc⟩ : ∃ pc, pc = x.cells.toArray := ⟨_, rfl⟩
  have hpl : Value.agg pc = .agg x.cells.toArray := by rw [hpc]
  rw [← hpc] at HR HX hw1 hx1 ⊢
  have hrg : w1.rangeAt W.heap.size 0 pc.toList := by rw [hpc]; exact (by rw [← hpc]; exact HX.out : Blk w1 W.heap.size 40 x.cells.toArray).range
  have hinfo : (Try.prog.info? 40).map (·.size) = some pc.size := by rw [hpc]; exact Pk.pcinfoA x
  have HPC := Lib.hid hpc
  clear hpc hpl hrg hx1 hb1
  cases hr : Pk.rightB x.p with
  | false =>
    have h1 : hearB own (fun i => (K i).s) x.p = false := by unfold hearB; rw [hr]; rfl
    have h2 : hear own (fun i => (K i).s) x.p = (fun i => (K i).s) := by unfold hear; rw [if_pos hr]
    have h3 : hearE own (fun i => (K i).s) x.p = 3 := by unfold hearE; rw [if_pos hr]
    rw [h3] at FIN
    have H1 := Lib.hid (And.intro h1 h2)
    rw [hr] at HR
    clear hr h1 h2 h3 c0 c1 c2 c3 D
    go_enter Try.func12, Try.ntmps12
    go_upto_region 1 with fail
    rw [← hw1]
    clear hw1
    go_wp2_with (first | (go_at_call 36; refine HM.out.mono ?_; rintro e w2 ⟨rfl, rfl⟩) | (refine wpList_load_blk rfl 40 _ rfl _ rfl 40 pc _ HX.out Try.underlying40 rfl hinfo ?_) | (go_at_call 40; refine HR.out.mono ?_; rintro e w2 ⟨rfl, hb2⟩; have HB2 := Lib.hid (HB.out.trans (hb2.mono HB.out.size)); clear hb2))
    go_ret3
    exact FIN.out _ HB2.out H1.out.1 H1.out.2
  | true =>
    rw [hr] at HR
    by_cases ht : x.p.t = (own : Int)
    · have hno := right_nodes hr
      have hf : isO own x.p.f = true := by unfold isO; rw [hno.1, decide_eq_true (show x.p.f ≠ (own : Int) from fun e => hno.2 (e.trans ht.symm))]; rfl
      obtain ⟨i, hi, hti, hn, hw, hw2, hi1, hi0⟩ := isN_of hno.1
      obtain ⟨pf, hpf⟩ : ∃ z, z = x.p.f := ⟨_, rfl⟩
      obtain ⟨pq, hpq⟩ : ∃ z, z = x.p.q := ⟨_, rfl⟩
      have hpt := ht
      rw [ht] at c2
      rw [← hpf] at hf hti hw hw2 c1
      rw [← hpq] at c3
      have e0 : ((own : Int) != (own : Int)) = false := by simp
      have hio : i ≠ own - 1 := fun e => by have := (isO_of hf).2; have := D.o1; rw [← hpf] at hn; omega
      cases hk : x.p.k with
      | true =>
        have h1 : hearB own (fun i => (K i).s) x.p = false := by unfold hearB; rw [hk]; simp
        have h2 : hear own (fun i => (K i).s) x.p = ack own (fun i => (K i).s) pf pq := by unfold hear; rw [if_neg (by rw [hr]; decide), if_neg (fun h => h ht), if_pos hk, hpf, hpq]
        have h3 : hearE own (fun i => (K i).s) x.p = ackE own (fun i => (K i).s) pf pq := by unfold hearE; rw [if_neg (by rw [hr]; decide), if_neg (fun h => h ht), if_pos hk, hpf, hpq]
        have H1 := Lib.hid (And.intro h1 (And.intro h2 h3))
        rw [hk] at c0
        have HA := Lib.hid (fun w (hb : Below W.heap.size W w) => acked_any w (h := ⟨K, D.next hb, rfl⟩) pf pq)
        have c00 := (D.next HB.out).c0
        clear hr h1 h2 h3 hno hf hn hti hi hw hw2 hi1 hi0 hpf hpq hpt ht hk D hio
        go_enter Try.func12, Try.ntmps12
        go_upto_region 1 with fail
        rw [← hw1]
        clear hw1
        go_upto_region 5 with (first | (go_at_call 36; refine HM.out.mono ?_; rintro e w2 ⟨rfl, rfl⟩) | (refine wpList_load_blk rfl 40 _ rfl _ rfl 40 pc _ HX.out Try.underlying40 rfl hinfo ?_) | (go_at_call 40; refine HR.out.mono ?_; rintro e w2 ⟨rfl, hb2⟩))
        have d0 := (hb2.cell (p := ⟨W.heap.size, 0, none⟩) HX.out.lt).trans c0
        have d1 := (hb2.cell (p := ⟨W.heap.size, 1, none⟩) HX.out.lt).trans c1
        have d2 := (hb2.cell (p := ⟨W.heap.size, 2, none⟩) HX.out.lt).trans c2
        have d3 := (hb2.cell (p := ⟨W.heap.size, 3, none⟩) HX.out.lt).trans c3
        have d00 := (hb2.cell (p := ⟨d, 0, none⟩) (World.block_lt_of_cell? _ ⟨d, 0, none⟩ c00)).trans c00
        have HB2 := Lib.hid (HB.out.trans (hb2.mono HB.out.size)).drew
        clear c0 c1 c2 c3 c00 hb2
        (try simp only [Act.put, List.setIfInBounds_toArray, List.set_cons_zero, List.set_cons_succ])
        refine wp_region_plan (S := fun w' => w' = World.drew w2) [(0, true), (1, true), (2, true), (3, true), (4, true), (5, true), (6, true), (7, true)] 9999 (by kernel_rfl) (by kernel_rfl) (by kernel_rfl) (by kernel_rfl) (by kernel_rfl) (fun _ _ d _ _ h => by cases d <;> exact h) rfl (fun hHeld => ?_); simp only [List.map_cons, List.map_nil, List.getElem?_toArray, List.getElem?_cons_zero, List.getElem?_cons_succ]
        (repeat (first | (refine wpPlan.take (v := undef) (Or.inr ⟨by rfl, rfl⟩) ?_; simp only [Act.put, List.setIfInBounds_toArray, List.set_cons_zero, List.set_cons_succ]) | (refine wpPlan.take (v := ?_) (Or.inl ⟨by rfl, ?_⟩) ?_; rotate_left; (focus (intro _ hS; (try dsimp only at hS); go_split_ands; (try subst hS); go_simp; (try (with_reducible rfl)); done)); simp only [Act.put, List.setIfInBounds_toArray, List.set_cons_zero, List.set_cons_succ]))); refine wpPlan.done ?_; clear hHeld
        have HA2 := Lib.hid (HA.out w2.drew HB2.out)
        clear HA
        go_wp2_with (first | (go_at_call 13; refine HA2.out.mono ?_; rintro e w3 ⟨rfl, hL, ht⟩; have HL := Lib.hid hL; have HT := Lib.hid ht; clear hL ht HA2 d0 d1 d2 d3 d00))
        go_ret3
        have hbw : W.heap.size ≤ w2.drew.heap.size := HB2.out.size
        refine ⟨_, Grow F W w3, (by (rw [H1.out.1, H1.out.2.2]; try rfl)), fun h => (by rw [H1.out.1] at h; cases h), fun _ => rfl, fun _ h => h, (fun k h => (by simp [Value.ownBlock] at h)), ?_, ?_⟩
        · rw [H1.out.2.1]
          obtain ⟨K', D', e'⟩ := HL.out
          refine ⟨K', D'.wider ?_ ?_, e'⟩
          · rintro k (hk | ⟨h1, h2⟩)
            · exact Or.inl hk
            · exact Or.inr ⟨by omega, h2⟩
          · rintro k (hk | ⟨h1, h2⟩)
            · have a1 := HD.out.low k hk; have a2 := HT.out.1.size; exact ⟨a1.1, by omega⟩
            · have := HD.out.low d HD.out.fd; exact ⟨by omega, h2⟩
        · exact ⟨(HB2.out.mono (by have := HD.out.low d HD.out.fd; omega)).trans HT.out.1, fun k hk hF => (HT.out.2 k (by omega) hF).trans (HB2.out.block k hk)⟩
      | false =>
        obtain ⟨tb, htb⟩ : ∃ z, z = (takeE (atS (fun j => (K j).s) i) pq).1 := ⟨_, rfl⟩
        obtain ⟨te, hte⟩ : ∃ z, z = (takeE (atS (fun j => (K j).s) i) pq).2 := ⟨_, rfl⟩
        have HTE := Lib.hid (show tb = true → te = 0 from by rw [htb, hte]; exact take_zero _ _)
        have h1 : hearB own (fun i => (K i).s) x.p = tb := by unfold hearB; rw [hr, hk, decide_eq_true hpt, ← hpf, hti, ← hpq, ← htb]; rfl
        have h3 : hearE own (fun i => (K i).s) x.p = te := by unfold hearE; rw [if_neg (by rw [hr]; decide), if_neg (fun h => h ht), if_neg (by rw [hk]; decide), ← hpf, hti, ← hpq, hte]
        have h2 : hear own (fun i => (K i).s) x.p = if tb = true then updS (fun i => (K i).s) i ((atS (fun j => (K j).s) i).take pq) else (fun i => (K i).s) := by unfold hear; rw [if_neg (by rw [hr]; decide), if_neg (fun h => h ht), if_neg (by rw [hk]; decide), ← hpf, hti, ← hpq, htb]
        have H1 := Lib.hid (And.intro h1 (And.intro h2 h3))
        rw [hk] at c0
        have HA := Lib.hid (fun w (hb : Below W.heap.size W w) => at_any w (D.next hb) pf hf hti)
        have HTK := Lib.hid (fun (w : World) (b : Nat) (hw : Below W.heap.size W w) (hB : Blk w b 47 (atK K i).cells.toArray) (hbl : W.heap.size ≤ b) => Lk.take_any w (D.box (w1 := w) i hw hB hbl) pq)
        rw [← htb, ← hte] at HTK
        have c00 := (D.next HB.out).c0
        have HI := Lib.hid (And.intro hi hio)
        have HBL := Lib.hid (show x.p.bs.length ≤ 1800 from (Pk.right_of hr).len)
        have c4 : w1.cell? ⟨W.heap.size, 4, none⟩ = some (.slice x.A x.p.bs.length x.c) := (HX.out.cell 4).trans (by rw [HPC.out]; rfl)
        clear hr h1 h2 h3 hno hf hn hti hi hpf hpq hpt ht hk D hio htb hte
        go_enter Try.func12, Try.ntmps12
        go_upto_region 1 with fail
        rw [← hw1]
        clear hw1
        go_upto_region 5 with (first | (go_at_call 36; refine HM.out.mono ?_; rintro e w2 ⟨rfl, rfl⟩) | (refine wpList_load_blk rfl 40 _ rfl _ rfl 40 pc _ HX.out Try.underlying40 rfl hinfo ?_) | (go_at_call 40; refine HR.out.mono ?_; rintro e w2 ⟨rfl, hb2⟩))
        have d0 := (hb2.cell (p := ⟨W.heap.size, 0, none⟩) HX.out.lt).trans c0
        have d1 := (hb2.cell (p := ⟨W.heap.size, 1, none⟩) HX.out.lt).trans c1
        have d2 := (hb2.cell (p := ⟨W.heap.size, 2, none⟩) HX.out.lt).trans c2
        have d3 := (hb2.cell (p := ⟨W.heap.size, 3, none⟩) HX.out.lt).trans c3
        have d4 := (hb2.cell (p := ⟨W.heap.size, 4, none⟩) HX.out.lt).trans c4
        have d00 := (hb2.cell (p := ⟨d, 0, none⟩) (World.block_lt_of_cell? _ ⟨d, 0, none⟩ c00)).trans c00
        have HB2 := Lib.hid (HB.out.trans (hb2.mono HB.out.size)).drew
        have HXL := Lib.hid (Nat.lt_of_lt_of_le HX.out.lt hb2.size)
        clear c0 c1 c2 c3 c4 c00 hb2
        (try simp only [Act.put, List.setIfInBounds_toArray, List.set_cons_zero, List.set_cons_succ])
        refine wp_region_plan (S := fun w' => w' = World.drew w2) [(0, true), (1, true), (2, true), (3, true), (4, true), (5, true), (6, true), (7, true)] 9999 (by kernel_rfl) (by kernel_rfl) (by kernel_rfl) (by kernel_rfl) (by kernel_rfl) (fun _ _ d _ _ h => by cases d <;> exact h) rfl (fun hHeld => ?_); simp only [List.map_cons, List.map_nil, List.getElem?_toArray, List.getElem?_cons_zero, List.getElem?_cons_succ]
        (repeat (first | (refine wpPlan.take (v := undef) (Or.inr ⟨by rfl, rfl⟩) ?_; simp only [Act.put, List.setIfInBounds_toArray, List.set_cons_zero, List.set_cons_succ]) | (refine wpPlan.take (v := ?_) (Or.inl ⟨by rfl, ?_⟩) ?_; rotate_left; (focus (intro _ hS; (try dsimp only at hS); go_split_ands; (try subst hS); go_simp; (try (with_reducible rfl)); done)); simp only [Act.put, List.setIfInBounds_toArray, List.set_cons_zero, List.set_cons_succ]))); refine wpPlan.done ?_; clear hHeld
        have HA2 := Lib.hid (HA.out w2.drew HB2.out)
        clear HA HM HR HX
        go_upto_region 10 with fail
        clear d0 d2 d00
        go_upto_region 11 with (first | (go_at_call 38; refine HA2.out.mono ?_; rintro e w3 ⟨rfl, hb3⟩) | (refine wpList_store_blk rfl 47 _ _ rfl w3.heap.size 47 _ (atK K i).cells.toArray rfl rfl (Blk.new w3 _ _) (lkinfoA _) (kn_siz _) (kn_one _) ?_; intro hY; rw [Wr.alloc_setRow]))
        clear hY
        obtain ⟨w4, hw4⟩ : ∃ w4, w4 = w3.alloc (.cells (atK K i).cells.toArray 47) := ⟨_, rfl⟩
        obtain ⟨b, hbb⟩ : ∃ b, b = w3.heap.size := ⟨_, rfl⟩
        have hB4 : Blk w4 b 47 (atK K i).cells.toArray := by rw [hw4, hbb]; exact Blk.new _ _ _
        have hb34 : Below w3.heap.size w3 w4 := by rw [hw4]; exact (Below.refl _ _).alloc (Nat.le_refl _) _
        have hb24 : Below w2.drew.heap.size w2.drew w4 := hb3.trans (hb34.mono hb3.size)
        have hb4 : Below W.heap.size W w4 := HB2.out.trans (hb24.mono HB2.out.size)
        have hbl : W.heap.size < b := by rw [hbb]; have := hb3.size; have := HXL.out; have e : w2.drew.heap.size = w2.heap.size := rfl; omega
        have f1 := (hb24.cell (p := ⟨W.heap.size, 1, none⟩) HXL.out).trans d1
        have f3 := (hb24.cell (p := ⟨W.heap.size, 3, none⟩) HXL.out).trans d3
        have f4 := (hb24.cell (p := ⟨W.heap.size, 4, none⟩) HXL.out).trans d4
        have HXL4 := Lib.hid (Nat.lt_of_lt_of_le HXL.out hb24.size)
        rw [← hw4, ← hbb]
        have HT4 := Lib.hid (HTK.out w4 b hb4 hB4 (Nat.le_of_lt hbl))
        have HB4 := Lib.hid (And.intro hb4 (And.intro hB4 hbl))
        clear hw4 hbb hB4 hb34 hb24 hb4 hbl d1 d3 d4 hb3 HTK HB2 HXL HA2
        go_upto_region 12 with (go_at_call 41; refine HT4.out.mono ?_; rintro e w5 ⟨rfl, hK, ht, hz⟩)
        have hb5 := turn_one ht HB4.out.1 (Nat.le_of_lt HB4.out.2.2)
        cases tb with
        | false =>
          have HB5 := Lib.hid hb5
          clear hK ht hz hb5 HT4 f1 f3 f4
          go_wp2_with fail
          go_ret3
          have h3 := H1.out.2.2
          have := FIN.out _ HB5.out H1.out.1 (by rw [H1.out.2.1]; rfl)
          rw [h3] at this
          exact this
        | true =>
          have hbw := HB4.out.2.1.lt
          obtain ⟨k, hks, hkb, hko⟩ := box_back2 (W := W) hK (Nat.le_of_lt HB4.out.2.2) hbw ht.1.size
          have hkr : w5.rangeAt b 0 k.cells := hkb.range
          have hdb : d ≠ b := fun e => by have := (HD.out.low d HD.out.fd).2; have := HB4.out.2.2; omega
          have hxd : W.heap.size ≠ d := fun e => by have := (HD.out.low d HD.out.fd).2; omega
          have hxb : W.heap.size ≠ b := fun e => by have := HB4.out.2.2; omega
          have kp := ht.2 W.heap.size HXL4.out hxb
          have g1 := (World.cell?_of_block (a := ⟨W.heap.size, 1, none⟩) kp).trans f1
          have g4 := (World.cell?_of_block (a := ⟨W.heap.size, 4, none⟩) kp).trans f4
          have hth : w5.drew.there d (1 + i * 3) k.cells.toArray.size := ((HD.out.next hb5).blk.drew).thereT (by rw [List.size_toArray, List.size_toArray, kn_len, ls_len]; have := HI.out.1; omega)
          have HKS := Lib.hid hks
          have HK := Lib.hid (put_done HD.out (hb5.drew) HI.out.1 HI.out.2 (hko.keep fun j hj => ⟨hj, rfl⟩))
          have HB5 := Lib.hid hb5
          clear hK ht hz hbw hks hkb hko hb5 HT4 f1 f3 f4 kp
          go_upto_region 14 with fail
          (try simp only [Act.put, List.setIfInBounds_toArray, List.set_cons_zero, List.set_cons_succ])
          refine wp_region_tree (S := (fun w' => w'.rangeAt b 0 k.cells ∧ w'.cell? ⟨W.heap.size, 1, none⟩ = some (.int .i64 pf) ∧ w'.cell? ⟨W.heap.size, 4, none⟩ = some (.slice x.A x.p.bs.length x.c))) (.take 0 (.take 1 (.take 2 (.take 3 (.take 4 (.take 5 (.take 6 (.take 7 (.one 8 .nil))))))))) 9999 (by kernel_rfl) (by kernel_rfl) (by kernel_rfl) (by kernel_rfl) (by kernel_rfl) (fun _ _ d _ _ h => by cases d <;> exact h) ⟨hkr, g1, g4⟩ (fun hHeld => ?_); simp only [Tree.map, List.getElem?_toArray, List.getElem?_cons_zero, List.getElem?_cons_succ]
          (repeat (first | (refine wpTree.take (v := undef) (Or.inr ⟨by rfl, rfl⟩) ?_; simp only [Act.put, List.setIfInBounds_toArray, List.set_cons_zero, List.set_cons_succ]) | (refine wpTree.take (v := .agg k.cells.toArray) (yieldsIf_load_mid rfl 47 _ rfl _ _ rfl k.cells _ (fun _ hS => hS.1) Try.underlying47 rfl (lkinfo _)) ?_; simp only [Act.put, List.setIfInBounds_toArray, List.set_cons_zero, List.set_cons_succ]) | (refine wpTree.take (v := ?_) (Or.inl ⟨by rfl, ?_⟩) ?_; rotate_left; (focus (intro _ hS; (try dsimp only at hS); go_split_ands; (try subst hS); go_simp; (try (with_reducible rfl)); done)); simp only [Act.put, List.setIfInBounds_toArray, List.set_cons_zero, List.set_cons_succ])))
          refine wpTree.one (fun K hK => ?_)
          (try rw [if_pos (by rfl)])
          refine wp_store_mid 47 _ _ rfl d (1 + i * 3) k.cells.toArray rfl rfl hth (lkinfoA _) (kn_one _) ?_
          show K _ (w5.drew.setCells d (1 + i * 3) k.cells)
          have g4' : (w5.drew.setCells d (1 + i * 3) k.cells).cell? ⟨W.heap.size, 4, none⟩ = some (.slice x.A x.p.bs.length x.c) := (World.cell?_of_block (a := ⟨W.heap.size, 4, none⟩) (setCells_other d _ _ _ _ hxd)).trans hHeld.2.2
          have g1' : (w5.drew.setCells d (1 + i * 3) k.cells).cell? ⟨W.heap.size, 1, none⟩ = some (.int .i64 pf) := (World.cell?_of_block (a := ⟨W.heap.size, 1, none⟩) (setCells_other d _ _ _ _ hxd)).trans hHeld.2.1
          have gk' : (w5.drew.setCells d (1 + i * 3) k.cells).rangeAt b 0 k.cells := World.rangeAt_setCells_apart hHeld.1 d (1 + i * 3) _ (Or.inl (Ne.symm hdb))
          obtain ⟨w6, hw6⟩ : ∃ w6, w6 = w5.drew.setCells d (1 + i * 3) k.cells := ⟨_, rfl⟩
          have far6 : ∀ j, j ≠ d → w6.heap[j]? = w5.heap[j]? := fun j hj => by rw [hw6]; exact setCells_other d _ _ _ _ hj
          have hsz6 : w6.heap.size = w5.heap.size := by rw [hw6]; exact setCells_size d _ _ _
          rw [← hw6] at HK g4' g1' gk' ⊢
          refine hK.out _ _ ⟨gk', g1', g4'⟩ (fun _ => ?_)
          clear hK K g1' gk'
          (try simp only [Act.put, List.setIfInBounds_toArray, List.set_cons_zero, List.set_cons_succ])
          refine wpTree.done ?_
          have hsrc : Src w6 x.A x.p.bs.length (u8s x.p.bs) := (byr_far HD.out HO.out.rd (by rw [hsz6]; exact HB5.out.size) (fun j hj hjd => (far6 j hjd).trans (HB5.out.block j hj))).src HO.out.hA
          have HC := Lib.hid (bclone_any w6 x.A x.p.bs.length x.c x.p.bs rfl hsrc (by have := HBL.out; omega))
          have HZ6 := Lib.hid (show W.heap.size ≤ w6.heap.size by rw [hsz6]; exact HB5.out.size)
          clear hw6 hsrc g1 g4 hkr hHeld hth far6 hsz6
          go_wp2_with (go_at_call 42; refine HC.out.mono ?_; rintro e w7 ⟨v7, rfl, hown, hb7⟩; have HO7 := Lib.hid hown; have HB7 := Lib.hid hb7; clear hown hb7 HC g4')
          go_ret3
          have hB := HD.out.low d HD.out.fd
          refine ⟨v7, Grow F W w6, (by (rw [H1.out.1, H1.out.2.2, HTE.out trivial]; try rfl)), fun _ => own_le HO7.out HZ6.out, fun h => (by rw [H1.out.1] at h; cases h), ?_, ?_, ?_, HK.out.2.1.trans (HB7.out.mono (by have := HZ6.out; omega)), fun j hj hF => (HB7.out.block j (Nat.lt_of_lt_of_le hj HZ6.out)).trans (HK.out.2.2 j hj hF)⟩
          · rintro k (hk | ⟨h1, h2⟩)
            · exact Or.inl hk
            · exact Or.inr ⟨h1, Nat.lt_of_lt_of_le h2 HB7.out.size⟩
          · rintro k hk (hF | ⟨h1, h2⟩)
            · have := (HO7.out.lt k hk).1; have h3 := HD.out.low k hF; have h4 := HZ6.out; omega
            · have := (HO7.out.lt k hk).1; omega
          · rw [H1.out.2.1, if_pos trivial]
            exact ⟨_, HK.out.1.next HB7.out, by rw [upd_s, HKS.out]⟩
    · have h1 : hearB own (fun i => (K i).s) x.p = false := by unfold hearB; rw [decide_eq_false ht]; simp
      have h2 : hear own (fun i => (K i).s) x.p = (fun i => (K i).s) := by unfold hear; rw [if_neg (by rw [hr]; decide), if_pos ht]
      have h3 : hearE own (fun i => (K i).s) x.p = 11 := by unfold hearE; rw [if_neg (by rw [hr]; decide), if_pos ht]
      rw [h3] at FIN
      have H1 := Lib.hid (And.intro h1 h2)
      have e0 : (x.p.t != (own : Int)) = true := by simp [ht]
      have c00 := (D.next HB.out).c0
      clear hr h1 h2 h3 c0 c1 c3 D ht
      go_enter Try.func12, Try.ntmps12
      go_upto_region 1 with fail
      rw [← hw1]
      clear hw1
      go_upto_region 5 with (first | (go_at_call 36; refine HM.out.mono ?_; rintro e w2 ⟨rfl, rfl⟩) | (refine wpList_load_blk rfl 40 _ rfl _ rfl 40 pc _ HX.out Try.underlying40 rfl hinfo ?_) | (go_at_call 40; refine HR.out.mono ?_; rintro e w2 ⟨rfl, hb2⟩))
      have d2 := (hb2.cell (p := ⟨W.heap.size, 2, none⟩) HX.out.lt).trans c2
      have d00 := (hb2.cell (p := ⟨d, 0, none⟩) (World.block_lt_of_cell? _ ⟨d, 0, none⟩ c00)).trans c00
      have HB2 := Lib.hid (HB.out.trans (hb2.mono HB.out.size)).drew
      clear c2 c00 hb2
      (try simp only [Act.put, List.setIfInBounds_toArray, List.set_cons_zero, List.set_cons_succ])
      refine wp_region_plan (S := fun w' => w' = World.drew w2) [(0, true), (1, true), (2, true), (3, true), (4, true), (5, true), (6, true), (7, true)] 9999 (by kernel_rfl) (by kernel_rfl) (by kernel_rfl) (by kernel_rfl) (by kernel_rfl) (fun _ _ d _ _ h => by cases d <;> exact h) rfl (fun hHeld => ?_); simp only [List.map_cons, List.map_nil, List.getElem?_toArray, List.getElem?_cons_zero, List.getElem?_cons_succ]
      (repeat (first | (refine wpPlan.take (v := undef) (Or.inr ⟨by rfl, rfl⟩) ?_; simp only [Act.put, List.setIfInBounds_toArray, List.set_cons_zero, List.set_cons_succ]) | (refine wpPlan.take (v := ?_) (Or.inl ⟨by rfl, ?_⟩) ?_; rotate_left; (focus (intro _ hS; (try dsimp only at hS); go_split_ands; (try subst hS); go_simp; (try (with_reducible rfl)); done)); simp only [Act.put, List.setIfInBounds_toArray, List.set_cons_zero, List.set_cons_succ]))); refine wpPlan.done ?_; clear hHeld
      go_wp2_with fail
      go_ret3
      exact FIN.out _ HB2.out H1.out.1 H1.out.2
end
end Ls
end Go.Proofs.Ytifoheodcbjapaa
