/-
disk: Read.
-/
import Derived.Test.YtoomlbphnadlpaaDk5
namespace Go.Proofs.Ytoomlbphnadlpaa
open Go.RowKit Go.Shelf
open Byt
set_option linter.unusedSimpArgs false
set_option linter.unusedVariables false
attribute [local go_sem] Oper.semAt_some

theorem dt_hit {l : List Nat} {i c a m : Nat} (h1 : a ≤ i) : ((l.set i c).drop a).take m = ((l.drop a).take m).set (i - a) c := by
  rw [List.drop_set, if_neg (by omega), List.take_set]
theorem dt_miss {l : List Nat} {i c a m : Nat} (h1 : ¬ (a ≤ i ∧ i < a + m)) : ((l.set i c).drop a).take m = (l.drop a).take m := by
  rcases Nat.lt_or_ge i a with h | h
  · rw [List.drop_set, if_pos h]
  · rw [dt_hit h]
    apply List.set_eq_of_length_le
    rw [List.length_take]
    omega
/-- Between two rounds of Read. -/
def RdAt (w : World) (B g cap a m : Nat) (has : List Nat) (p : List (Nat × Nat)) (W : World) : Prop :=
  Below B w W ∧ (∀ k, k < w.heap.size → k ≠ g → W.heap[k]? = w.heap[k]?) ∧ W.ownsRow B 5 1 (.slice (some ⟨g, 0, none⟩) m cap) m (u8s (((putL has p).drop a).take m))
theorem rdAt_own {β : Type} {w : World} {B g cap a m : Nat} {has : List Nat} (f : β → List (Nat × Nat)) (hB : B ≤ w.heap.size) (hg : g < w.heap.size) : OwnFrom w.heap.size (fun (s : β) W => RdAt w B g cap a m has (f s) W) := by
  rintro s W W' row ⟨h1, h2, h3⟩ hgr hr
  have hne : ∀ k, k < w.heap.size → some k ≠ row := fun k hk e => by have := (hr k e.symm).1; omega
  exact ⟨h1.grown hgr (Nat.le_trans hB h1.size) (fun k e => Nat.le_trans hB (hr k e).1), fun k hk hX => (hgr.block k (by have := h1.size; omega) (hne k hk)).trans (h2 k hk hX), h3.kept hgr (Or.inr (hne g hg))⟩
theorem rdAt_hit {w W : World} {B g cap a m : Nat} {has : List Nat} {p : List (Nat × Nat)} (h : RdAt w B g cap a m has p W) (x : Nat × Nat) (hx : a ≤ x.1) (hB : B ≤ g) : RdAt w B g cap a m has (p ++ [x]) (W.setCell ⟨g, x.1 - a, none⟩ (.int .u8 (x.2 : Nat))) := by
  obtain ⟨h1, h2, h3⟩ := h
  refine ⟨h1.setCell (p := ⟨g, x.1 - a, none⟩) hB _, fun k hk hX => (Below.heap_setCell W ⟨g, x.1 - a, none⟩ _ k hX).trans (h2 k hk hX), ?_⟩
  have := (h3.stored (x.1 - a) (.int .u8 (x.2 : Nat))).1
  rw [putL_one, dt_hit hx]
  have e : (u8s (((putL has p).drop a).take m)).set (x.1 - a) (.int .u8 (x.2 : Nat)) = u8s ((((putL has p).drop a).take m).set (x.1 - a) x.2) := by
    unfold u8s
    rw [List.map_set]
  rw [← e]
  exact this
theorem rdAt_miss {w W : World} {B g cap a m : Nat} {has : List Nat} {p : List (Nat × Nat)} (h : RdAt w B g cap a m has p W) (x : Nat × Nat) (hx : ¬ (a ≤ x.1 ∧ x.1 < a + m)) : RdAt w B g cap a m has (p ++ [x]) W := by
  obtain ⟨h1, h2, h3⟩ := h
  refine ⟨h1, h2, ?_⟩
  rw [putL_one, dt_miss hx]
  exact h3
theorem below_putObj {B Dd : Nat} {W w : World} (h : Below B W w) (hD : B ≤ Dd) (o : Obj) : Below B W (w.putObj Dd o) :=
  ⟨h.os, h.tape, h.output, by have := h.size; simpa using this, fun k hk => (World.putObj_heap_other (by omega)).trans (h.block k hk)⟩
/-- A cut ahead of what a statement is followed by, in a walk that no fence binds. -/
theorem wpIn_cut_wide {n : Nat} {P : Program} {c : Code} {K : Act → World → Prop} {Q : Exit → Act → World → Prop} {a : Act} {w : World} (I : Act → World → Prop) (h1 : ∀ a w, I a w → K a w) (h2 : c.wp P (Exit.then I fun _ _ _ => False) a w) : c.wpIn Fence.wide n P (Exit.then K Q) a w := by
  refine wpIn_wide.2 (Code.wp_mono ?_ h2)
  intro e a w h
  cases e
  case normal => exact h1 _ _ h
  all_goals exact h.elim
set_option maxRecDepth 100000 in
set_option maxHeartbeats 4000000 in
theorem read_any {W : World} {B d : Nat} {F : Nat → Prop} {h n : Nat} {v : Value} {has : List Nat} {ws : List Wt} {fl wr : Int} (D : Dk W B d F h n v has ws fl wr) (hlen : ws.length ≤ 100000) (a m : Nat) (hf : a + m ≤ n) :
    Calls Try.prog 9 #[.pointer (some ⟨d, 0, none⟩), .int .i64 (a : Nat), .int .i64 (m : Nat)] W fun e W' => ∃ g cap, e = .returned (.tuple #[.slice (some ⟨g, 0, none⟩) m cap, .int .i64 0]) ∧
      W'.ownsRow W.heap.size 5 1 (.slice (some ⟨g, 0, none⟩) m cap) m (u8s (((putL has (flat ws)).drop a).take m)) ∧ Below W.heap.size W W' := by
  have hn := D.big
  have HM := Lib.hid (fun w hb => made_any w (D.next hb))
  have HF := Lib.hid (fun w hb => fits_any w (D.next hb) a m (by omega))
  rw [fits_iff.2 (by omega)] at HF
  refine (callsIn_wide (n := 5)).1 ?_
  refine callsIn_of_wp_marks Try.func9 rfl trivial ?_ rfl
  simp only [Try.ntmps9, List.size_toArray, List.length_cons, List.length_nil, Nat.reduceAdd, Nat.reduceSub, Array.replicate_succ, Array.replicate_zero, List.push_toArray, List.append_toArray, List.nil_append, List.cons_append]
  have hb2 : Below W.heap.size W ((W.alloc (.cells #[.int .i64 (a : Nat)] 3)).alloc (.cells #[.int .i64 (m : Nat)] 3)) := ((Below.refl _ _).alloc (Nat.le_refl _) _).alloc (by simp) _
  have HB2 := Lib.hid hb2
  have HD := Lib.hid D
  clear D hb2
  gi_wp2_with (first | (refine ⟨trivial, ?_⟩; gi_at_call 12; refine (callsIn_wide.2 (HM.out _ HB2.out)).mono ?_; rintro e w1 ⟨rfl, rfl⟩) | (refine ⟨trivial, ?_⟩; gi_at_call 13; refine (callsIn_wide.2 (HF.out _ HB2.out)).mono ?_; rintro e w1 ⟨rfl, rfl⟩))
  refine wpIn_cut_wide (fun a' w' => ∃ (ob g cap : Nat) (u28 u29 : Value), a' = { tmps := #[.pointer (some ⟨d, 0, none⟩), .int .i64 (a : Nat), .int .i64 (m : Nat), undef, .pointer (some ⟨W.heap.size, 0, none⟩), .pointer (some ⟨W.heap.size + 1, 0, none⟩), .slice none 0 0, .int .i64 0, .pointer (some ⟨ob, 0, none⟩), undef, undef, .bool false, .pointer (some ⟨d, 0, none⟩), .bool true, .bool false, .bool false, .pointer (some ⟨d, 0, none⟩), .int .i64 (a : Nat), .int .i64 (m : Nat), .bool true, .bool false, .pointer (some ⟨d, 0, none⟩), .pointer (some ⟨d, 0, none⟩), .pointer (some ⟨d, 0, none⟩), .slice (some ⟨h, 0, none⟩) n n, .int .i64 (a : Nat), .int .i64 (a : Nat), .int .i64 (m : Nat), u28, u29, .slice (some ⟨g, 0, none⟩) m cap, undef, undef, undef, undef, undef, undef, undef, undef, undef, undef, undef, undef, undef, undef, undef, undef, undef, undef, undef, undef, undef], defers := [] } ∧
    w'.ownsRow W.heap.size 5 1 (.slice (some ⟨g, 0, none⟩) m cap) m (u8s ((has.drop a).take m)) ∧ Below W.heap.size W w' ∧ Blk w' W.heap.size 3 #[.int .i64 (a : Nat)] ∧ Blk w' (W.heap.size + 1) 3 #[.int .i64 (m : Nat)] ∧ Blk w' ob 27 #[.slice (some ⟨g, 0, none⟩) m cap] ∧ W.heap.size + 1 < ob) ?rest ?first
  case first =>
    have c0 := cell_next HB2.out HD.out.c0
    obtain ⟨w2, hw2⟩ : ∃ w2, w2 = ((W.alloc (.cells #[.int .i64 (a : Nat)] 3)).alloc (.cells #[.int .i64 (m : Nat)] 3)) := ⟨_, rfl⟩
    have s2 : w2.heap.size = W.heap.size + 2 := by rw [hw2]; simp
    have ba : Blk w2 W.heap.size 3 #[.int .i64 (a : Nat)] := by rw [hw2]; exact (Blk.new _ _ _).alloc _
    have bm : Blk w2 (W.heap.size + 1) 3 #[.int .i64 (m : Nat)] := by rw [hw2]; exact Blk.new' (by simp)
    rw [← hw2] at HB2 c0 ⊢
    clear hw2
    have ca := ba.cell 0
    have cm := bm.cell 0
    simp only [List.getElem?_toArray, List.getElem?_cons_zero] at ca cm
    have D2 := HD.out.next HB2.out
    obtain ⟨A, eA⟩ : ∃ A : Option Addr, (if n = a then some (⟨h, 0, none⟩ : Addr) else some ⟨h, a, none⟩) = A := ⟨_, rfl⟩
    have hAs : A ≠ none := by rw [← eA]; split <;> simp
    have hs : Src w2.drew A m (u8s ((has.drop a).take m)) := by
      rw [← eA]
      by_cases hna : n = a
      · rw [if_pos hna]
        exact Or.inl ⟨_, rfl, fun j u hj => by rw [show m = 0 by omega] at hj; simp [u8s] at hj⟩
      · rw [if_neg hna]
        exact Or.inl ⟨_, rfl, fun j u hj => by
          rw [add_plain]
          have := D2.row.cell (a + j)
          rw [World.cell?_drew, this, List.getElem?_toArray]
          simp only [u8s, List.map_take, List.map_drop] at hj ⊢
          rw [List.getElem?_take] at hj
          split at hj
          · rw [List.getElem?_drop] at hj; exact hj
          · cases hj⟩
    have hl : ((has.drop a).take m).length = m := by rw [List.length_take, List.length_drop, D2.len]; omega
    obtain ⟨k, hk⟩ : ∃ k, k = a + m := ⟨_, rfl⟩
    have ew : IntKind.i64.wrap ((a : Int) + (m : Int)) = (k : Nat) := by rw [IntKind.wrap_i64]; omega
    have e2 : a ≤ k := by omega
    have e3 : (k : Int) ≤ (n : Int) := by omega
    have e4 : k - a = m := by omega
    have HL := Lib.hid hl
    have HA := Lib.hid hAs
    clear hk hf hl hAs
    have HS := Lib.hid hs
    have HBA := Lib.hid ba
    have HBM := Lib.hid bm
    have HD2 := Lib.hid D2
    clear hs ba bm D2
    refine wp_region_tree (S := (fun w' => w'.cell? ⟨W.heap.size, 0, none⟩ = some (.int .i64 (a : Nat)) ∧ w'.cell? ⟨W.heap.size + 1, 0, none⟩ = some (.int .i64 (m : Nat)) ∧ w'.cell? ⟨d, 0, none⟩ = some (.slice (some ⟨h, 0, none⟩) n n))) (.take 0 (.take 1 (.take 2 (.take 3 (.take 4 (.take 5 (.take 6 (.take 7 (.take 8 (.two 9 (.one 10 (.one 11 .nil)) 10 (.one 9 (.one 11 .nil)))))))))))) 9999 (by kernel_rfl) (by kernel_rfl) (by kernel_rfl) (by kernel_rfl) (by kernel_rfl) (fun _ _ d _ _ h => by cases d <;> exact h) ⟨ca, cm, c0⟩ (fun hHeld => ?_); simp only [Tree.map, List.getElem?_toArray, List.getElem?_cons_zero, List.getElem?_cons_succ]
    (repeat (first | (refine wpTree.take (v := undef) (Or.inr ⟨by rfl, rfl⟩) ?_; simp only [Act.put, List.setIfInBounds_toArray, List.set_cons_zero, List.set_cons_succ]) | (refine wpTree.take (v := ?_) (Or.inl ⟨by rfl, ?_⟩) ?_; rotate_left; (focus (intro _ hS; (try dsimp only at hS); go_split_ands; (try subst hS); go_simp; (try (with_reducible rfl)); done)); simp only [Act.put, List.setIfInBounds_toArray, List.set_cons_zero, List.set_cons_succ])))
    refine wpTree.two ?_ ?_
    · skip
      refine wpTree.one (fun K hK => ?_)
      go_simp
      go_at_call 14
      refine (clone_any w2.drew A m (n - a) _ HL.out HS.out (by omega)).mono ?_
      rintro e w3 ⟨u, rfl, hown, hb, hne⟩
      rw [HL.out] at hown
      obtain ⟨A3, c3, rfl, hc3, -, hg⟩ := ownG_slice hown
      obtain ⟨⟨g, o, cu⟩, rfl⟩ : ∃ b, A3 = some b := by
        cases A3 with
        | none => exact absurd rfl (hne HA.out)
        | some b => exact ⟨b, rfl⟩
      obtain ⟨g', e', hg1, hg2, -⟩ := hg _ rfl
      cases e'
      have HO := Lib.hid hown
      have HB3 := Lib.hid hb
      have HG := Lib.hid (And.intro hg1 hg2)
      have hS3 := And.intro (cell_next hb hHeld.1) (And.intro (cell_next hb hHeld.2.1) (cell_next hb hHeld.2.2))
      refine hK.out _ _ hS3 (fun hHeld' => ?_)
      clear hK K hHeld hHeld' hown hb hne hg hg1 hg2 hc3
      (try simp only [Act.put, List.setIfInBounds_toArray, List.set_cons_zero, List.set_cons_succ])
      refine wpTree.one (fun K hK => ?_)
      go_simp
      have hB4 : Below w3.heap.size w3 (w3.alloc (.cells #[.slice none 0 0] 27)) := (Below.refl _ _).alloc (Nat.le_refl _) _
      refine hK.out _ _ (And.intro (cell_next hB4 hS3.1) (And.intro (cell_next hB4 hS3.2.1) (cell_next hB4 hS3.2.2))) (fun hHeld' => ?_)
      clear hK K hHeld' hB4
      (try simp only [Act.put, List.setIfInBounds_toArray, List.set_cons_zero, List.set_cons_succ])
      refine wpTree.one (fun K hK => ?_)
      go_simp
      have hs3 := HB3.out.size
      rw [show w2.drew.heap.size = w2.heap.size from rfl] at hs3
      have hB4 : Below w3.heap.size w3 (w3.alloc (.cells #[.slice (some ⟨g, 0, none⟩) m c3] 27)) := (Below.refl _ _).alloc (Nat.le_refl _) _
      refine hK.out _ _ (And.intro (cell_next hB4 hS3.1) (And.intro (cell_next hB4 hS3.2.1) (cell_next hB4 hS3.2.2))) (fun hHeld' => ?_)
      clear hK K hHeld'
      (try simp only [Act.put, List.setIfInBounds_toArray, List.set_cons_zero, List.set_cons_succ])
      refine wpTree.done ?_
      refine ⟨w3.heap.size, g, c3, _, _, rfl, ?_, (HB2.out.drew.trans (HB3.out.mono (by show W.heap.size ≤ w2.heap.size; omega))).trans (hB4.mono (by omega)), (HBA.out.drew.next HB3.out).next hB4, (HBM.out.drew.next HB3.out).next hB4, Blk.new w3 _ _, by omega⟩
      exact ownG_le (HO.out.alloc _) (by show W.heap.size ≤ w2.heap.size; omega)
    · skip
      refine wpTree.one (fun K hK => ?_)
      go_simp
      have hB4 : Below w2.drew.heap.size w2.drew (w2.alloc (.cells #[.slice none 0 0] 27)).drew := (Below.refl w2.heap.size w2.drew).alloc (Nat.le_refl _) _
      have hS3 := And.intro (cell_next hB4 hHeld.1) (And.intro (cell_next hB4 hHeld.2.1) (cell_next hB4 hHeld.2.2))
      refine hK.out _ _ hS3 (fun hHeld' => ?_)
      clear hK K hHeld'
      (try simp only [Act.put, List.setIfInBounds_toArray, List.set_cons_zero, List.set_cons_succ])
      obtain ⟨w3, hw3⟩ : ∃ w3, w3 = (w2.alloc (.cells #[.slice none 0 0] 27)).drew := ⟨_, rfl⟩
      have HN := Lib.hid (show Blk w3 (W.heap.size + 2) 27 #[.slice none 0 0] from by rw [hw3, ← s2]; exact Blk.new w2 _ _)
      have s3 : w3.heap.size = w2.heap.size + 1 := by rw [hw3]; simp
      rw [← hw3] at hB4 hS3 ⊢
      clear hw3
      have HS3 := Lib.hid (HS.out.below hB4)
      refine wpTree.one (fun K hK => ?_)
      go_simp
      go_at_call 14
      refine (clone_any w3 A m (n - a) _ HL.out HS3.out (by omega)).mono ?_
      rintro e w4 ⟨u, rfl, hown, hb, hne⟩
      rw [HL.out] at hown
      obtain ⟨A3, c3, rfl, hc3, -, hg⟩ := ownG_slice hown
      obtain ⟨⟨g, o, cu⟩, rfl⟩ : ∃ b, A3 = some b := by
        cases A3 with
        | none => exact absurd rfl (hne HA.out)
        | some b => exact ⟨b, rfl⟩
      obtain ⟨g', e', hg1, hg2, -⟩ := hg _ rfl
      cases e'
      have HO := Lib.hid hown
      have HB3 := Lib.hid hb
      have HG := Lib.hid (And.intro hg1 hg2)
      have hS4 := And.intro (cell_next hb hS3.1) (And.intro (cell_next hb hS3.2.1) (cell_next hb hS3.2.2))
      have hn4 := HN.out.next hb
      have c4 := hn4.cell 0
      have z4 := hn4.frozen 0
      simp only [List.getElem?_toArray, List.getElem?_cons_zero] at c4
      refine hK.out _ _ hS4 (fun hHeld' => ?_)
      clear hK K hHeld hHeld' hown hb hne hg hg1 hg2 hc3 hn4
      (try simp only [Act.put, List.setIfInBounds_toArray, List.set_cons_zero, List.set_cons_succ])
      refine wpTree.one (fun K hK => ?_)
      go_simp
      have hne : W.heap.size + 2 ≠ W.heap.size := by omega
      have hne2 : W.heap.size + 2 ≠ W.heap.size + 1 := by omega
      have hdl := (HD.out.low d HD.out.fd).2
      refine hK.out _ _ ⟨?_, ?_, ?_⟩ (fun hHeld' => ?_)
      · exact ((HBA.out.drew.next hB4).next HB3.out).far (p := ⟨W.heap.size + 2, 0, none⟩) (by exact Ne.symm hne) _ |>.cell 0
      · exact ((HBM.out.drew.next hB4).next HB3.out).far (p := ⟨W.heap.size + 2, 0, none⟩) (by exact Ne.symm hne2) _ |>.cell 0
      · exact (((HD2.out.blk.drew.next hB4).next HB3.out).far (p := ⟨W.heap.size + 2, 0, none⟩) (by intro e; simp at e; omega) _).cell 0
      clear hK K hHeld'
      (try simp only [Act.put, List.setIfInBounds_toArray, List.set_cons_zero, List.set_cons_succ])
      refine wpTree.done ?_
      refine ⟨W.heap.size + 2, g, c3, _, _, rfl, ?_, ?_, ((HBA.out.drew.next hB4).next HB3.out).far (p := ⟨W.heap.size + 2, 0, none⟩) (Ne.symm hne) _, ((HBM.out.drew.next hB4).next HB3.out).far (p := ⟨W.heap.size + 2, 0, none⟩) (Ne.symm hne2) _, (HN.out.next HB3.out).setCell 0 _, by omega⟩
      · refine ownG_le (ownsRow_setCell_other HO.out ?_ _) (by omega)
        have := HG.out.1
        simp [Value.ownBlock]
        omega
      · exact ((HB2.out.drew.trans (hB4.mono (by show W.heap.size ≤ w2.heap.size; omega))).trans (HB3.out.mono (by omega))).setCell (p := ⟨W.heap.size + 2, 0, none⟩) (by show W.heap.size ≤ W.heap.size + 2; omega) _
  case rest =>
    clear HM HF
    obtain ⟨k, hk⟩ : ∃ k, k = a + m := ⟨_, rfl⟩
    have ew1 : wrap64 ((a : Int) + (m : Int)) = (k : Nat) := by unfold wrap64; omega
    have ew2 : IntKind.i64.wrap ((a : Int) + (m : Int)) = (k : Nat) := by rw [IntKind.wrap_i64]; omega
    have ew3 : ∀ i : Nat, a ≤ i → i < k → wrap64 ((i : Int) - (a : Int)) = ((i - a : Nat) : Int) := by intro i h1 h2; unfold wrap64; omega
    have ew4 : ∀ i : Nat, a ≤ i → i < k → IntKind.i64.wrap ((i : Int) - (a : Int)) = ((i - a : Nat) : Int) := by intro i h1 h2; rw [IntKind.wrap_i64]; omega
    have HW := Lib.hid (And.intro ew1 (And.intro ew2 (And.intro ew3 ew4)))
    clear ew1 ew2 ew3 ew4
    rintro a' w0 ⟨ob, g, cap, u28, u29, rfl, hO, hB, bA, bM, bO, hob⟩
    have HO := Lib.hid hO
    have HB := Lib.hid hB
    have HBO := Lib.hid bO
    have HBA := Lib.hid bA
    have HBM := Lib.hid bM
    clear hO hB bA bM bO
    gi_wp2_with (refine ⟨trivial, ?_⟩; gi_at_call 16; refine (callsIn_wide.2 (waiting_any _ _)).mono ?_; rintro e w' ⟨rfl, rfl⟩)
    obtain ⟨w3, hw3⟩ : ∃ w3, w3 = w0.alloc (.cells #[.pointer (some ⟨d, 0, none⟩)] 23) := ⟨_, rfl⟩
    have hs3 : w3.heap.size = w0.heap.size + 1 := by rw [hw3]; simp
    have hb3 : Below w0.heap.size w0 w3 := by rw [hw3]; exact (Below.refl _ _).alloc (Nat.le_refl _) _
    have bW : Blk w3 w0.heap.size 23 #[.pointer (some ⟨d, 0, none⟩)] := by rw [hw3]; exact Blk.new _ _ _
    rw [← hw3]
    clear hw3
    have D3 := (HD.out.next HB.out).next hb3
    have hdl := HD.out.low d HD.out.fd
    have hhl := HD.out.low h HD.out.fh
    have hgl := HO.out.lt g rfl
    have hs0 := HB.out.size
    have bA := HBA.out.next hb3
    have bM := HBM.out.next hb3
    have bO := HBO.out.next hb3
    have hga : g ≠ W.heap.size := by
      rintro rfl
      have h1 := HBA.out
      obtain ⟨_, ⟨e, _⟩ | ⟨g', _, cu, e, _, hh, _⟩⟩ := HO.out
      · cases e
      · cases e
        unfold Blk at h1
        rw [h1] at hh
        simp only [Option.some.injEq, Obj.cells.injEq] at hh
        exact absurd hh.2.1 (by decide)
    have hgm : g ≠ W.heap.size + 1 := by
      rintro rfl
      have h1 := HBM.out
      obtain ⟨_, ⟨e, _⟩ | ⟨g', _, cu, e, _, hh, _⟩⟩ := HO.out
      · cases e
      · cases e
        unfold Blk at h1
        rw [h1] at hh
        simp only [Option.some.injEq, Obj.cells.injEq] at hh
        exact absurd hh.2.1 (by decide)
    have hgo : g ≠ ob := by
      rintro rfl
      have h1 := HBO.out
      obtain ⟨_, ⟨e, _⟩ | ⟨g', _, cu, e, _, hh, _⟩⟩ := HO.out
      · cases e
      · cases e
        unfold Blk at h1
        rw [h1] at hh
        simp only [Option.some.injEq, Obj.cells.injEq] at hh
        exact absurd hh.2.1 (by decide)
    have hol := bO.lt
    have hal := bA.lt
    have hml := bM.lt
    have O3 : w3.ownsRow W.heap.size 5 1 (.slice (some ⟨g, 0, none⟩) m cap) m (u8s ((has.drop a).take m)) := ownG_next HO.out hb3
    refine wpIn_rangeFunc_ownG rfl (by omega) (gf := 19) (lb := #[.pointer (some ⟨w0.heap.size, 0, none⟩)]) rfl trivial (enters_of Try.func19 (by kernel_rfl) rfl)
      (waiting_stops D3 hlen (X := fun k => k = g) (fun k hk hne => by rintro rfl; have := (HD.out.low k hk).2; omega) (fun k hk => by rw [hk]; omega) Fence.wide _ trivial rfl (by omega) w0.heap.size (bW.cell 0)) Kx_t Kx_b (Below.refl _ _) (fun _ => rfl)
      (fun pre W' => RdAt w3 W.heap.size g cap a m has (vals pre) W')
      (fun c pre W' => False)
      (rdAt_own vals (by omega) (by omega))
      (fun c => ?hIx)
      ⟨Below.refl _ _, fun _ _ _ => rfl, O3⟩
      (fun x => { tmps := #[.pointer (some ⟨d, 0, none⟩), .int .i64 (a : Nat), .int .i64 (m : Nat), undef, .pointer (some ⟨W.heap.size, 0, none⟩), .pointer (some ⟨W.heap.size + 1, 0, none⟩), .slice none 0 0, .int .i64 0, .pointer (some ⟨ob, 0, none⟩), .int .i64 (x.1.1 : Nat), .int .u8 (x.1.2 : Nat), .bool false, .pointer (some ⟨d, 0, none⟩), .bool true, .bool false, .bool false, .pointer (some ⟨d, 0, none⟩), .int .i64 (a : Nat), .int .i64 (m : Nat), .bool true, .bool false, .pointer (some ⟨d, 0, none⟩), .pointer (some ⟨d, 0, none⟩), .pointer (some ⟨d, 0, none⟩), .slice (some ⟨h, 0, none⟩) n n, .int .i64 (a : Nat), .int .i64 (a : Nat), .int .i64 (m : Nat), u28, u29, .slice (some ⟨g, 0, none⟩) m cap, .pointer (some ⟨d, 0, none⟩), .func (.func 19) #[] #[.pointer (some ⟨w0.heap.size, 0, none⟩)], .int .i64 (x.1.1 : Nat), .int .u8 (x.1.2 : Nat), undef, undef, undef, undef, undef, undef, undef, undef, undef, undef, undef, undef, undef, undef, undef, undef, undef], defers := [] }) ?assign ?body ?done ?stop
    case hIx =>
      rintro s A A' row hF hg hr
      exact hF
    case assign =>
      intro l x W' K hK
      unfold encs
      gi_wp2
      exact hK
    case body =>
      rintro l pre x W' hE _
      obtain ⟨h1, h2, h3⟩ := id hE
      have ca := (show Blk W' W.heap.size 3 _ from (h2 _ (by omega) (Ne.symm hga)).trans bA).cell 0
      have cm := (show Blk W' (W.heap.size + 1) 3 _ from (h2 _ (by omega) (Ne.symm hgm)).trans bM).cell 0
      have co := (show Blk W' ob 27 _ from (h2 _ (by omega) (Ne.symm hgo)).trans bO).cell 0
      simp only [List.getElem?_toArray, List.getElem?_cons_zero] at ca cm co
      obtain ⟨hx1, hx2⟩ := D3.flat x.1 x.2
      have HE := Lib.hid hE
      have hv : vals (pre ++ [x]) = vals pre ++ [x.1] := vals_app pre x
      obtain ⟨q, hq⟩ : ∃ q, q = vals pre := ⟨_, rfl⟩
      rw [← hq] at HE h3 hv
      have HV := Lib.hid hv
      clear hq hE hv h1 h2
      obtain ⟨ew1, ew2, ew3, ew4⟩ := HW.out
      have HG := Lib.hid hgl.1
      have HN := Lib.hid (show x.1.1 < ((putL has q).length) from by rw [putL_len, D3.len]; exact hx1)
      have HLN := Lib.hid D3.len
      have HF := Lib.hid hf
      clear hdl hhl hgl hs0 bA bM bO hga hgm hgo hol hal hml O3 hs3 hb3 bW D3 hob hf hn hlen hx1 hx2
      by_cases hle : a ≤ x.1.1
      · by_cases hlt : x.1.1 < k
        · have f1 := ew3 _ hle hlt
          have f2 := ew4 _ hle hlt
          have hlm : x.1.1 - a < m := by omega
          obtain ⟨y, hy⟩ : ∃ y, (u8s (((putL has q).drop a).take m))[x.1.1 - a]? = some y := ⟨_, List.getElem?_eq_getElem (by have := HN.out; rw [u8s_len, List.length_take, List.length_drop]; omega)⟩
          have cy := h3.cellAt (x.1.1 - a) (by omega)
          rw [hy] at cy
          have zy := h3.frozenAt (x.1.1 - a)
          have H3 := Lib.hid h3
          clear ew3 ew4 h3 hy hk HN HLN HF
          gi_wp2
          refine ⟨(KeepsOthers.setCell _ _ _).from _, Kx.set _ _ _ rfl, ?_⟩
          show RdAt _ _ _ _ _ _ _ (vals (pre ++ [x])) _
          rw [HV.out]
          exact rdAt_hit HE.out x.1 hle HG.out
        · clear ew3 ew4 h3
          gi_wp2
          refine ⟨KeepsFrom.refl _ _, Kx.refl _ _, ?_⟩
          show RdAt _ _ _ _ _ _ _ (vals (pre ++ [x])) _
          rw [HV.out]
          exact rdAt_miss HE.out x.1 (by omega)
      · clear ew3 ew4 h3
        gi_wp2
        refine ⟨KeepsFrom.refl _ _, Kx.refl _ _, ?_⟩
        show RdAt _ _ _ _ _ _ _ (vals (pre ++ [x])) _
        rw [HV.out]
        exact rdAt_miss HE.out x.1 (by omega)
    case done =>
      rintro Dd ys W' hDd hS hE hK
      obtain ⟨h1, h2, h3⟩ := id hE
      have co := (show Blk W' ob 27 _ from (h2 _ (by omega) (Ne.symm hgo)).trans bO).cell 0
      simp only [List.getElem?_toArray, List.getElem?_cons_zero] at co
      have HE := Lib.hid hE
      have hv : vals ys = flat ws := hS
      have HV := Lib.hid hv
      clear h1 h2 h3 hS hv hE
      gi_wp2
      refine ⟨by simp, .inl ⟨_, _, rfl, run_takeDeferred hK, ?_⟩⟩
      refine ⟨_, results_tmp2 rfl _ _ _, g, cap, rfl, ?_, ?_⟩
      · have := HE.out.2.2
        rw [HV.out] at this
        exact ownsRow_putObj this _ hK rfl
      · exact below_putObj (((HB.out.trans (hb3.mono hs0)).trans HE.out.1)) (by omega) _
    case stop =>
      rintro Dd c pre W' hDd hS hF hK
      exact hF.elim
end Go.Proofs.Ytoomlbphnadlpaa
