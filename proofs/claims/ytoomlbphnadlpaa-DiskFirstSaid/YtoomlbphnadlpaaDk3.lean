/-
disk: what waits, byte by byte: the contract of waiting's function.
-/
import Derived.Test.YtoomlbphnadlpaaDk2
import Derived.Test.YtoomlbphnadlpaaRangeF
namespace Go.Proofs.Ytoomlbphnadlpaa
open Go.RowKit Go.Shelf
open Byt
set_option linter.unusedSimpArgs false
set_option linter.unusedVariables false
attribute [local go_sem] Oper.semAt_some

/-- A write's bytes, and where each goes. -/
def puts : Nat → List Nat → List (Nat × Nat)
  | _, [] => []
  | a, y :: bs => (a, y) :: puts (a + 1) bs
theorem puts_len : ∀ (a : Nat) (bs : List Nat), (puts a bs).length = bs.length
  | _, [] => rfl
  | a, y :: bs => by simp [puts, puts_len]
theorem puts_get : ∀ (a : Nat) (bs : List Nat) (i : Nat), (puts a bs)[i]? = (bs[i]?).map fun y => (a + i, y)
  | _, [], i => by simp [puts]
  | a, y :: bs, 0 => by simp [puts]
  | a, y :: bs, i + 1 => by simp only [puts, List.getElem?_cons_succ, puts_get (a + 1) bs i, show a + 1 + i = a + (i + 1) by omega]
theorem puts_take {a : Nat} {bs : List Nat} {m y : Nat} (h : bs[m]? = some y) : (puts a bs).take (m + 1) = (puts a bs).take m ++ [(a + m, y)] := by
  rw [List.take_add_one, puts_get, h]
  rfl
theorem puts_app : ∀ (a : Nat) (bs cs : List Nat), puts a (bs ++ cs) = puts a bs ++ puts (a + bs.length) cs
  | a, [], cs => by simp [puts]
  | a, y :: bs, cs => by simp only [List.cons_append, puts, puts_app (a + 1) bs cs, List.length_cons, show a + 1 + bs.length = a + (bs.length + 1) by omega]
/-- All bytes that wait. -/
def flat (l : List Wt) : List (Nat × Nat) := l.flatMap fun x => puts x.a x.bs
theorem flat_app (l m : List Wt) : flat (l ++ m) = flat l ++ flat m := by simp [flat]
theorem flat_one (x : Wt) : flat [x] = puts x.a x.bs := by simp [flat]
theorem flat_take {l : List Wt} {k : Nat} {x : Wt} (h : l[k]? = some x) : flat (l.take (k + 1)) = flat (l.take k) ++ puts x.a x.bs := by
  rw [List.take_add_one, h, flat_app]
  simp [flat]
theorem flat_split {l : List Wt} {k : Nat} {x : Wt} (h : l[k]? = some x) : ∃ r, flat l = flat (l.take k) ++ puts x.a x.bs ++ r := by
  refine ⟨flat (l.drop (k + 1)), ?_⟩
  rw [← flat_take h, ← flat_app, List.take_append_drop]
theorem flat_lt {l : List Wt} {k : Nat} {x : Wt} (h : l[k]? = some x) {m : Nat} (hm : m < x.bs.length) : (flat (l.take k) ++ (puts x.a x.bs).take m).length < (flat l).length := by
  obtain ⟨r, hr⟩ := flat_split h
  rw [hr]
  simp only [List.length_append, List.length_take, puts_len]
  omega
theorem flat_pre {l : List Wt} {k : Nat} {x : Wt} (h : l[k]? = some x) (m : Nat) : flat (l.take k) ++ (puts x.a x.bs).take m <+: flat l := by
  obtain ⟨r, hr⟩ := flat_split h
  rw [hr]
  exact ⟨(puts x.a x.bs).drop m ++ r, by rw [List.append_assoc, ← List.append_assoc ((puts x.a x.bs).take m), List.take_append_drop, List.append_assoc]⟩

theorem flat_mem {l : List Wt} {k m y : Nat} {x : Wt} (h : l[k]? = some x) (hy : x.bs[m]? = some y) : (x.a + m, y) ∈ flat l :=
  List.mem_flatMap.2 ⟨x, List.mem_of_getElem? h, List.mem_of_getElem? (i := m) (by rw [puts_get, hy]; rfl)⟩
/-- What is read of the writes that wait: none of it lies in X. -/
def Reads (X : Nat → Prop) (W : World) (g : Nat) (ws : List Wt) : Prop :=
  (∃ cs, ¬ X g ∧ Blk W g 45 cs ∧ ∀ (i : Nat) (x : Wt), ws[i]? = some x → ∀ j v, x.cells[j]? = some v → cs[2 * i + j]? = some v) ∧
    ∀ x ∈ ws, x.bs = [] ∨ ∃ b p cs z, x.A = some ⟨b, p, none⟩ ∧ ¬ X b ∧ W.heap[b]? = some (.cells cs 5 z) ∧ ∀ (i y : Nat), x.bs[i]? = some y → W.cell? ⟨b, p + i, none⟩ = some (.int .u8 (y : Nat))
theorem Reads.keep {X : Nat → Prop} {W W' : World} {g : Nat} {ws : List Wt} (h : Reads X W g ws) (hk : Kx X W W') : Reads X W' g ws := by
  obtain ⟨⟨cs, h1, h2, h3⟩, h4⟩ := h
  refine ⟨⟨cs, h1, hk.blk h1 h2, h3⟩, fun x hx => (h4 x hx).imp id ?_⟩
  rintro ⟨b, p, cs, z, e, hX, hh, hc⟩
  have h5 := hk.2 b cs _ z hX hh
  exact ⟨b, p, cs, z, e, hX, h5, fun i y hy => (World.cell?_of_block (h5.trans hh.symm)).trans (hc i y hy)⟩
set_option maxRecDepth 100000 in
set_option maxHeartbeats 4000000 in
theorem waiting1_in (F : Fence) (n : Nat) (hF : F.fn 19) (hro : F.round = none) (hn : 1 ≤ n) (l Bd d g cap : Nat) (X : Nat → Prop) (ws : List Wt) (J Jx : List (Nat × Nat) → World → Prop) (hJa : ∀ s W o, J s W → J s (World.alloc W o))
    (hY : ∀ pre x W, x ∈ flat ws → J pre W → pre.length < (flat ws).length → YieldAt F (n - 1) Try.prog l #[.int .i64 (x.1 : Nat), .int .u8 (x.2 : Nat)] W fun e W' =>
      (e = .returned (.bool true) ∧ J (pre ++ [x]) W' ∧ Kx X W W') ∨ (e = .returned (.bool false) ∧ Jx (pre ++ [x]) W'))
    (W : World) (hc : W.cell? ⟨Bd, 0, none⟩ = some (.pointer (some ⟨d, 0, none⟩))) (hv : W.cell? ⟨d, 1, none⟩ = some (.slice (some ⟨g, 0, none⟩) ws.length cap)) (hR : Reads X W g ws) (hX : ∀ k, X k → k < W.heap.size) (hbig : ∀ x ∈ ws, x.a + x.bs.length ≤ 262144) (hlen : ws.length ≤ 100000) (h0 : J [] W) :
    CallsIn F n Try.prog 19 #[.func (.yield l) #[] #[], .pointer (some ⟨Bd, 0, none⟩)] W fun e W' => (∃ v, e = .returned v) ∧
      ((∃ ys, ys = flat ws ∧ J ys W') ∨ (∃ pre, pre <+: flat ws ∧ Jx pre W')) := by
  refine callsIn_of_wp Try.func19 rfl hF ?_ hro
  simp only [Try.ntmps19, List.size_toArray, List.length_cons, List.length_nil, Nat.reduceAdd, Nat.reduceSub, Array.replicate_succ, Array.replicate_zero, List.push_toArray, List.append_toArray, List.nil_append, List.cons_append]
  gi_wp2
  gi_loopw [12] (fun i wr => ∃ k : Nat, k ≤ ws.length ∧ i = .int .i64 k ∧ J (flat (ws.take k)) wr ∧ Reads X wr g ws ∧ W.heap.size ≤ wr.heap.size) (fun i _ => ws.length - (intOf i).toNat)
  case atStart => exact ⟨0, Nat.zero_le _, rfl, h0, hR, Nat.le_refl _⟩
  case round =>
    obtain ⟨k, hk, rfl, hJs, hRs, hsz⟩ := hrel
    by_cases hlt : k < ws.length
    · obtain ⟨x, hx⟩ : ∃ x, ws[k]? = some x := ⟨_, List.getElem?_eq_getElem hlt⟩
      have hxm := List.mem_of_getElem? hx
      obtain ⟨⟨cs, hXg, hgb, hgc⟩, hbs⟩ := id hRs
      have hr : wr.rangeAt g (k * 2) x.cells := fun j v hj => by rw [hgb.cell, show k * 2 + j = 2 * k + j by omega]; exact hgc k x hx j v hj
      have hbk := hbs x hxm
      have hxb := hbig x hxm
      clear hgc hbs
      gi_wp2_with (first | (refine wpListIn_load_mid rfl 45 _ rfl _ _ rfl x.cells _ hr Try.underlying45 rfl (wtinfo x) ?_) | (refine wpListIn_store_blk rfl 45 _ _ rfl wr.heap.size 45 #[.int .i64 0, .slice none 0 0] x.cells.toArray rfl rfl (Blk.new' rfl) (wtinfoA x) rfl (wt_one x) ?_; rw [alloc_setRow]; have b2 := Blk.new wr 45 x.cells.toArray; have J2 := hJa _ _ (.cells x.cells.toArray 45) hJs; have R2 := hRs.keep (Kx.alloc wr (.cells x.cells.toArray 45)); have s2 : W.heap.size < (wr.alloc (.cells x.cells.toArray 45)).heap.size := (by simp; omega); obtain ⟨W2, hW2⟩ : ∃ W2, W2 = wr.alloc (.cells x.cells.toArray 45) := ⟨_, rfl⟩; rw [← hW2] at b2 J2 R2 s2 ⊢; clear hW2 hr hRs hgb; have c1 := b2.cell 1; have c0 := b2.cell 0; rw [List.getElem?_toArray, wt_1] at c1; rw [List.getElem?_toArray, wt_0] at c0))
      obtain ⟨g2, hg2⟩ : ∃ g2, g2 = wr.heap.size := ⟨_, rfl⟩
      have hXw : ¬ X g2 := fun h => by have := hX _ h; omega
      rw [← hg2] at b2 c0 c1 ⊢
      clear hg2 hJs hsz
      gi_loopw [19] (fun i w3 => ∃ m : Nat, m ≤ x.bs.length ∧ i = .int .i64 m ∧ J (flat (ws.take k) ++ (puts x.a x.bs).take m) w3 ∧ Reads X w3 g ws ∧ Blk w3 g2 45 x.cells.toArray ∧ W.heap.size ≤ w3.heap.size) (fun i _ => x.bs.length - (intOf i).toNat)
      case atStart => exact ⟨0, Nat.zero_le _, rfl, by rw [List.take_zero, List.append_nil]; exact J2, R2, b2, Nat.le_of_lt s2⟩
      case round =>
        clear J2 R2 b2 s2 c0 c1 hbk
        obtain ⟨m, hm, rfl, J3, R3, b3, s3⟩ := hrel
        have c0 := b3.cell 0
        rw [List.getElem?_toArray, wt_0] at c0
        by_cases hml : m < x.bs.length
        · obtain ⟨y, hy0⟩ : ∃ y, x.bs[m]? = some y := ⟨_, List.getElem?_eq_getElem hml⟩
          obtain ⟨b, p, cs3, z3, hA, hXb, hh3, hc3⟩ := (R3.2 x hxm).resolve_left (by intro e; rw [e] at hml; simp at hml)
          have cy := hc3 m y hy0
          obtain ⟨fn, tmps, assign, body, hy, hRR'⟩ := hY _ (x.a + m, y) wr (flat_mem hx hy0) J3 (flat_lt hx hml)
          simp only [Int.natCast_add] at hy
          have ew : wrap64 ((x.a : Int) + (m : Int)) = (x.a : Int) + (m : Int) := by unfold wrap64; omega
          rw [show x.A = _ from hA] at *
          have HY0 := Lib.hid hy0
          have HX := Lib.hid hx
          clear hy0 hx hc3 hh3
          gi_wp2
          refine hRR'.mono ?_
          rintro e W3 (⟨rfl, hJ3, hk3⟩ | ⟨rfl, hJx3⟩)
          · have J4 : J (flat (ws.take k) ++ (puts x.a x.bs).take (m + 1)) W3 := by rw [puts_take HY0.out, ← List.append_assoc]; exact hJ3
            have R4 := R3.keep hk3
            have b4 := hk3.blk hXw b3
            have s4 := Nat.le_trans s3 hk3.1
            gi_wp2
            go_roundw
            case rel => exact ⟨m + 1, by omega, by simp, J4, R4, b4, s4⟩
            case measure => simp [intOf]; omega
          · have J4 : Jx (flat (ws.take k) ++ (puts x.a x.bs).take (m + 1)) W3 := by rw [puts_take HY0.out, ← List.append_assoc]; exact hJx3
            gi_wp2
            refine bodyPost_ret (results_none rfl _ _ _) rfl ?_
            exact ⟨⟨_, rfl⟩, .inr ⟨_, flat_pre HX.out (m + 1), J4⟩⟩
        · obtain rfl : m = x.bs.length := by omega
          rw [show (puts x.a x.bs).take x.bs.length = puts x.a x.bs from List.take_of_length_le (by rw [puts_len]; exact Nat.le_refl _), ← flat_take hx] at J3
          gi_wp2
          go_roundw
          case rel => exact ⟨k + 1, by omega, by simp, J3, R3, s3⟩
          case measure => simp [intOf]; omega
    · obtain rfl : k = ws.length := by omega
      rw [List.take_length] at hJs
      gi_wp2
      go_end0
      exact ⟨⟨_, rfl⟩, .inl ⟨_, rfl, hJs⟩⟩
end Go.Proofs.Ytoomlbphnadlpaa
