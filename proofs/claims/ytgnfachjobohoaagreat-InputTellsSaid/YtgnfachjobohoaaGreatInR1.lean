/-
The document's reader: a text.
-/
import Derived.Test.YtgnfachjobohoaaGreatRefR
import Derived.Test.YtgnfachjobohoaaGreatBytes
namespace Go.Proofs.YtgnfachjobohoaaGreat
open Go.RowKit
set_option linter.unusedSimpArgs false
set_option linter.unusedVariables false
namespace In
section
variable (k c : Nat) (A : Option Addr) (bs : List Nat)
set_option maxRecDepth 20000 in
set_option maxHeartbeats 4000000 in
theorem rbytes_any (hlen : bs.length ≤ 140737488355328) (hc : bs.length ≤ c) (n : Nat) (hn0 : 0 < n) (hn : n ≤ 100000) (p : Nat) (e : Int) (W : World) (h : RS W k A c bs p e) :
    Calls Tryz.prog 96 #[.pointer (some ⟨k, 0, none⟩), .int .i64 (n : Nat)] W fun r W' => ∃ (v : Value) (p' : Nat) (e' : Int), r = .returned v ∧ RS W' k A c bs p' e' ∧ Off k W W' ∧
      (((e ≠ 0 ∨ bs.length - p < n) ∧ v = .slice none 0 0 ∧ e' ≠ 0) ∨ (e = 0 ∧ n ≤ bs.length - p ∧ e' = 0 ∧ p' = p + n ∧ ∃ b q cc, v = .slice (some ⟨b, q, none⟩) n cc ∧ n ≤ cc ∧ b < W'.heap.size ∧ b ≠ k ∧ ∀ (i x : Nat), (bs.drop p)[i]? = some x → W'.cell? ⟨b, q + i, none⟩ = some (.int .u8 (x : Nat)))) := by
  obtain ⟨c0, c1, c2, cz⟩ := h.cells
  have z1 := cz 1
  have z2 := cz 2
  have hle := h.2.2
  have HS := Lib.hid h
  have g1 : IntKind.i64.wrap ((bs.length : Int) - (p : Int)) = ((bs.length - p : Nat) : Int) := by rw [IntKind.wrap_i64]; omega
  by_cases he : e = 0
  · subst he
    by_cases hp : n ≤ bs.length - p
    · have f1 : ¬ ((bs.length - p : Nat) : Int) < (n : Nat) := by omega
      obtain ⟨pn, hpn⟩ : ∃ pn, pn = p + n := ⟨_, rfl⟩
      have g2 : IntKind.i64.wrap ((p : Int) + (n : Int)) = (pn : Int) := by rw [IntKind.wrap_i64]; omega
      have g3 : IntKind.i64.wrap ((pn : Int) - (n : Int)) = ((p : Nat) : Int) := by rw [IntKind.wrap_i64]; omega
      have HPQ := Lib.hid hpn
      clear hpn
      obtain ⟨b, q, rfl, hb, hbk, hcell⟩ := h.2.1.resolve_left (by rintro rfl; simp at hp; omega)
      have HC := Lib.hid hcell
      have HBK := Lib.hid (show b < W.heap.size ∧ b ≠ k from ⟨hb, hbk⟩)
      have HPN := Lib.hid hp
      clear cz h hcell hb hbk
      go_enter Tryz.func96, Tryz.ntmps96
      go_upto_region 1 with fail
      refine wp_region_plan (S := fun w' => w' = World.drew W) [(0, true), (1, true), (2, true), (3, true), (4, true), (5, true), (6, true), (7, true), (8, true), (9, true), (10, true), (11, true), (12, true), (13, true), (14, true), (15, true), (16, true), (17, true), (18, true)] 9999 (by kernel_rfl) (by kernel_rfl) (by kernel_rfl) (by kernel_rfl) (by kernel_rfl) (fun _ _ d _ _ h => by cases d <;> exact h) rfl (fun hHeld => ?_); simp only [List.map_cons, List.map_nil, List.getElem?_toArray, List.getElem?_cons_zero, List.getElem?_cons_succ]
      (repeat (first | (refine wpPlan.take (v := undef) (Or.inr ⟨by rfl, rfl⟩) ?_; simp only [Act.put, List.setIfInBounds_toArray, List.set_cons_zero, List.set_cons_succ]) | (refine wpPlan.take (v := ?_) (Or.inl ⟨by rfl, ?_⟩) ?_; rotate_left; (focus (intro _ hS; (try dsimp only at hS); go_split_ands; (try subst hS); go_simp; (try (with_reducible rfl)); done)); simp only [Act.put, List.setIfInBounds_toArray, List.set_cons_zero, List.set_cons_succ]))); refine wpPlan.done ?_; clear hHeld
      go_upto_region 6 with fail
      obtain ⟨x2, hx2⟩ : ∃ x2, x2 = (W.setCell ⟨k, 1, none⟩ (.int .i64 (pn : Int))).drew := ⟨_, rfl⟩
      have HR3 := Lib.hid (show RS x2 k (some ⟨b, q, none⟩) c bs pn 0 from by rw [hx2]; exact HS.out.setAt (q := pn) (by have := HPN.out; have := HPQ.out; omega))
      have HO3 := Lib.hid (show Off k W x2 from by rw [hx2]; exact ((Off.refl k W).set 1 (.int .i64 (pn : Int))).trans ⟨rfl, rfl, rfl, Nat.le_refl _, fun _ _ _ => rfl⟩)
      rw [← hx2]
      clear hx2 c0 c1 c2 z1 z2 f1 g1
      obtain ⟨c0, c1, c2, _⟩ := HR3.out.cells
      have i1 : p ≤ pn := by have := HPQ.out; omega
      have i2 : pn ≤ bs.length := by have := HPN.out; have := HPQ.out; omega
      have i3 : pn ≤ c := by omega
      have i4 : ¬ c = p := by have := HPN.out; omega
      refine wp_region_plan (S := fun w' => w' = World.drew x2) [(0, true), (1, true), (2, true), (3, true), (4, true), (5, true), (6, true), (7, true), (8, true), (9, true), (10, true), (11, true), (12, true), (13, true), (14, true), (15, true)] 9999 (by kernel_rfl) (by kernel_rfl) (by kernel_rfl) (by kernel_rfl) (by kernel_rfl) (fun _ _ d _ _ h => by cases d <;> exact h) rfl (fun hHeld => ?_); simp only [List.map_cons, List.map_nil, List.getElem?_toArray, List.getElem?_cons_zero, List.getElem?_cons_succ]
      (repeat (first | (refine wpPlan.take (v := undef) (Or.inr ⟨by rfl, rfl⟩) ?_; simp only [Act.put, List.setIfInBounds_toArray, List.set_cons_zero, List.set_cons_succ]) | (refine wpPlan.take (v := ?_) (Or.inl ⟨by rfl, ?_⟩) ?_; rotate_left; (focus (intro _ hS; (try dsimp only at hS); go_split_ands; (try subst hS); go_simp; (try (with_reducible rfl)); done)); simp only [Act.put, List.setIfInBounds_toArray, List.set_cons_zero, List.set_cons_succ]))); refine wpPlan.done ?_; clear hHeld
      go_wp2_with fail
      go_ret
      have HR4 := Lib.hid (show RS x2.drew k (some ⟨b, q, none⟩) c bs pn 0 from HR3.out)
      have HO4 := Lib.hid (show Off k W x2.drew from HO3.out.trans ⟨rfl, rfl, rfl, Nat.le_refl _, fun _ _ _ => rfl⟩)
      have hpn2 : pn - p = n := by have := HPQ.out; omega
      exact ⟨.slice (some ⟨b, q + p, none⟩) n (c - p), pn, 0, by rw [← hpn2]; rfl, HR4.out, HO4.out, Or.inr ⟨trivial, HPN.out, rfl, HPQ.out, b, q + p, c - p, rfl, (by have := HPN.out; omega), Nat.lt_of_lt_of_le HBK.out.1 HO4.out.size, HBK.out.2, fun i x hx => by
        rw [List.getElem?_drop] at hx
        rw [HO4.out.cell (p := ⟨b, q + p + i, none⟩) HBK.out.1 HBK.out.2, Nat.add_assoc]
        exact HC.out (p + i) x hx⟩⟩
    · have f1 : ((bs.length - p : Nat) : Int) < (n : Nat) := by omega
      have HPN := Lib.hid hp
      clear cz h
      go_enter Tryz.func96, Tryz.ntmps96
      go_upto_region 1 with fail
      refine wp_region_plan (S := fun w' => w' = World.drew W) [(0, true), (1, true), (2, true), (3, true), (4, true), (5, true), (6, true), (7, true), (8, true), (9, true), (10, true), (11, true), (12, true), (13, true), (14, true), (15, true), (16, true), (17, true), (18, true)] 9999 (by kernel_rfl) (by kernel_rfl) (by kernel_rfl) (by kernel_rfl) (by kernel_rfl) (fun _ _ d _ _ h => by cases d <;> exact h) rfl (fun hHeld => ?_); simp only [List.map_cons, List.map_nil, List.getElem?_toArray, List.getElem?_cons_zero, List.getElem?_cons_succ]
      (repeat (first | (refine wpPlan.take (v := undef) (Or.inr ⟨by rfl, rfl⟩) ?_; simp only [Act.put, List.setIfInBounds_toArray, List.set_cons_zero, List.set_cons_succ]) | (refine wpPlan.take (v := ?_) (Or.inl ⟨by rfl, ?_⟩) ?_; rotate_left; (focus (intro _ hS; (try dsimp only at hS); go_split_ands; (try subst hS); go_simp; (try (with_reducible rfl)); done)); simp only [Act.put, List.setIfInBounds_toArray, List.set_cons_zero, List.set_cons_succ]))); refine wpPlan.done ?_; clear hHeld
      go_wp2_with fail
      go_ret
      exact ⟨_, p, 8, rfl, (show RS W.drew k A c bs p 0 from HS.out).setE 8, (⟨rfl, rfl, rfl, Nat.le_refl _, fun _ _ _ => rfl⟩ : Off k W W.drew).set 2 _, Or.inl ⟨Or.inr (by have := HPN.out; omega), rfl, by decide⟩⟩
  · have f1 : (e == 0) = false := by simpa using he
    have f2 : (e != 0) = true := by simpa using he
    have HE := Lib.hid he
    clear cz h he z1 z2
    go_enter Tryz.func96, Tryz.ntmps96
    go_upto_region 1 with fail
    refine wp_region_plan (S := fun w' => w' = World.drew W) [(0, true), (1, true), (2, true), (3, true), (4, true), (5, true), (6, true), (7, true), (8, true), (9, true), (10, true), (11, true), (12, true), (13, true), (14, true), (15, true), (16, true), (17, true), (18, true)] 9999 (by kernel_rfl) (by kernel_rfl) (by kernel_rfl) (by kernel_rfl) (by kernel_rfl) (fun _ _ d _ _ h => by cases d <;> exact h) rfl (fun hHeld => ?_); simp only [List.map_cons, List.map_nil, List.getElem?_toArray, List.getElem?_cons_zero, List.getElem?_cons_succ]
    (repeat (first | (refine wpPlan.take (v := undef) (Or.inr ⟨by rfl, rfl⟩) ?_; simp only [Act.put, List.setIfInBounds_toArray, List.set_cons_zero, List.set_cons_succ]) | (refine wpPlan.take (v := ?_) (Or.inl ⟨by rfl, ?_⟩) ?_; rotate_left; (focus (intro _ hS; (try dsimp only at hS); go_split_ands; (try subst hS); go_simp; (try (with_reducible rfl)); done)); simp only [Act.put, List.setIfInBounds_toArray, List.set_cons_zero, List.set_cons_succ]))); refine wpPlan.done ?_; clear hHeld
    go_wp2_with fail
    go_ret
    exact ⟨_, p, e, rfl, HS.out, ⟨rfl, rfl, rfl, Nat.le_refl _, fun _ _ _ => rfl⟩, Or.inl ⟨Or.inl HE.out, rfl, HE.out⟩⟩
set_option maxRecDepth 20000 in
set_option maxHeartbeats 4000000 in
theorem rbytesZ_any (hlen : bs.length ≤ 140737488355328) (hc : bs.length ≤ c) (p : Nat) (e : Int) (W : World) (h : RS W k A c bs p e) :
    Calls Tryz.prog 96 #[.pointer (some ⟨k, 0, none⟩), .int .i64 0] W fun r W' => ∃ (v : Value) (p' : Nat) (e' : Int), r = .returned v ∧ RS W' k A c bs p' e' ∧ Off k W W' ∧
      ((e ≠ 0 ∧ v = .slice none 0 0 ∧ e' ≠ 0) ∨ (e = 0 ∧ e' = 0 ∧ p' = p ∧ ∃ A' cc, v = .slice A' 0 cc)) := by
  obtain ⟨c0, c1, c2, cz⟩ := h.cells
  have z1 := cz 1
  have z2 := cz 2
  have hle := h.2.2
  have HS := Lib.hid h
  have g1 : IntKind.i64.wrap ((bs.length : Int) - (p : Int)) = ((bs.length - p : Nat) : Int) := by rw [IntKind.wrap_i64]; omega
  by_cases he : e = 0
  · subst he
    obtain ⟨m, hm⟩ : ∃ m, m = bs.length - p := ⟨_, rfl⟩
    rw [← hm] at g1
    have f1 : ¬ ((m : Nat) : Int) < 0 := by omega
    have g2 : IntKind.i64.wrap ((p : Int) + 0) = (p : Int) := by rw [IntKind.wrap_i64]; omega
    have g3 : IntKind.i64.wrap ((p : Int) - 0) = (p : Int) := by rw [IntKind.wrap_i64]; omega
    have g4 : IntKind.i64.wrap (p : Int) = (p : Int) := by rw [IntKind.wrap_i64]; omega
    clear cz h hm
    go_enter Tryz.func96, Tryz.ntmps96
    go_upto_region 1 with fail
    refine wp_region_plan (S := fun w' => w' = World.drew W) [(0, true), (1, true), (2, true), (3, true), (4, true), (5, true), (6, true), (7, true), (8, true), (9, true), (10, true), (11, true), (12, true), (13, true), (14, true), (15, true), (16, true), (17, true), (18, true)] 9999 (by kernel_rfl) (by kernel_rfl) (by kernel_rfl) (by kernel_rfl) (by kernel_rfl) (fun _ _ d _ _ h => by cases d <;> exact h) rfl (fun hHeld => ?_); simp only [List.map_cons, List.map_nil, List.getElem?_toArray, List.getElem?_cons_zero, List.getElem?_cons_succ]
    (repeat (first | (refine wpPlan.take (v := undef) (Or.inr ⟨by rfl, rfl⟩) ?_; simp only [Act.put, List.setIfInBounds_toArray, List.set_cons_zero, List.set_cons_succ]) | (refine wpPlan.take (v := ?_) (Or.inl ⟨by rfl, ?_⟩) ?_; rotate_left; (focus (intro _ hS; (try dsimp only at hS); go_split_ands; (try subst hS); go_simp; (try (with_reducible rfl)); done)); simp only [Act.put, List.setIfInBounds_toArray, List.set_cons_zero, List.set_cons_succ]))); refine wpPlan.done ?_; clear hHeld
    go_upto_region 6 with fail
    obtain ⟨x2, hx2⟩ : ∃ x2, x2 = (W.setCell ⟨k, 1, none⟩ (.int .i64 (p : Int))).drew := ⟨_, rfl⟩
    have HR3 := Lib.hid (show RS x2 k A c bs p 0 from by rw [hx2]; exact HS.out.setAt (q := p) hle)
    have HO3 := Lib.hid (show Off k W x2 from by rw [hx2]; exact ((Off.refl k W).set 1 (.int .i64 (p : Int))).trans ⟨rfl, rfl, rfl, Nat.le_refl _, fun _ _ _ => rfl⟩)
    rw [← hx2]
    clear hx2 c0 c1 c2 z1 z2 f1 g1 g2
    obtain ⟨c0, c1, c2, _⟩ := HR3.out.cells
    have i2 : p ≤ bs.length := hle
    have i3 : p ≤ c := by omega
    by_cases i4 : c = p
    · subst i4
      refine wp_region_plan (S := fun w' => w' = World.drew x2) [(0, true), (1, true), (2, true), (3, true), (4, true), (5, true), (6, true), (7, true), (8, true), (9, true), (10, true), (11, true), (12, true), (13, true), (14, true), (15, true)] 9999 (by kernel_rfl) (by kernel_rfl) (by kernel_rfl) (by kernel_rfl) (by kernel_rfl) (fun _ _ d _ _ h => by cases d <;> exact h) rfl (fun hHeld => ?_); simp only [List.map_cons, List.map_nil, List.getElem?_toArray, List.getElem?_cons_zero, List.getElem?_cons_succ]
      (repeat (first | (refine wpPlan.take (v := undef) (Or.inr ⟨by rfl, rfl⟩) ?_; simp only [Act.put, List.setIfInBounds_toArray, List.set_cons_zero, List.set_cons_succ]) | (refine wpPlan.take (v := ?_) (Or.inl ⟨by rfl, ?_⟩) ?_; rotate_left; (focus (intro _ hS; (try dsimp only at hS); go_split_ands; (try subst hS); go_simp; (try (with_reducible rfl)); done)); simp only [Act.put, List.setIfInBounds_toArray, List.set_cons_zero, List.set_cons_succ]))); refine wpPlan.done ?_; clear hHeld
      go_wp2_with fail
      go_ret
      exact ⟨_, c, 0, rfl, (show RS x2.drew k A c bs c 0 from HR3.out), (HO3.out.trans ⟨rfl, rfl, rfl, Nat.le_refl _, fun _ _ _ => rfl⟩), Or.inr ⟨trivial, rfl, rfl, _, _, by first | rfl | simp⟩⟩
    ·
      refine wp_region_plan (S := fun w' => w' = World.drew x2) [(0, true), (1, true), (2, true), (3, true), (4, true), (5, true), (6, true), (7, true), (8, true), (9, true), (10, true), (11, true), (12, true), (13, true), (14, true), (15, true)] 9999 (by kernel_rfl) (by kernel_rfl) (by kernel_rfl) (by kernel_rfl) (by kernel_rfl) (fun _ _ d _ _ h => by cases d <;> exact h) rfl (fun hHeld => ?_); simp only [List.map_cons, List.map_nil, List.getElem?_toArray, List.getElem?_cons_zero, List.getElem?_cons_succ]
      (repeat (first | (refine wpPlan.take (v := undef) (Or.inr ⟨by rfl, rfl⟩) ?_; simp only [Act.put, List.setIfInBounds_toArray, List.set_cons_zero, List.set_cons_succ]) | (refine wpPlan.take (v := ?_) (Or.inl ⟨by rfl, ?_⟩) ?_; rotate_left; (focus (intro _ hS; (try dsimp only at hS); go_split_ands; (try subst hS); go_simp; (try (with_reducible rfl)); done)); simp only [Act.put, List.setIfInBounds_toArray, List.set_cons_zero, List.set_cons_succ]))); refine wpPlan.done ?_; clear hHeld
      go_wp2_with fail
      go_ret
      exact ⟨_, p, 0, rfl, (show RS x2.drew k A c bs p 0 from HR3.out), (HO3.out.trans ⟨rfl, rfl, rfl, Nat.le_refl _, fun _ _ _ => rfl⟩), Or.inr ⟨trivial, rfl, rfl, _, _, by first | rfl | simp⟩⟩
  · have f1 : (e == 0) = false := by simpa using he
    have f2 : (e != 0) = true := by simpa using he
    have HE := Lib.hid he
    clear cz h he z1 z2
    go_enter Tryz.func96, Tryz.ntmps96
    go_upto_region 1 with fail
    refine wp_region_plan (S := fun w' => w' = World.drew W) [(0, true), (1, true), (2, true), (3, true), (4, true), (5, true), (6, true), (7, true), (8, true), (9, true), (10, true), (11, true), (12, true), (13, true), (14, true), (15, true), (16, true), (17, true), (18, true)] 9999 (by kernel_rfl) (by kernel_rfl) (by kernel_rfl) (by kernel_rfl) (by kernel_rfl) (fun _ _ d _ _ h => by cases d <;> exact h) rfl (fun hHeld => ?_); simp only [List.map_cons, List.map_nil, List.getElem?_toArray, List.getElem?_cons_zero, List.getElem?_cons_succ]
    (repeat (first | (refine wpPlan.take (v := undef) (Or.inr ⟨by rfl, rfl⟩) ?_; simp only [Act.put, List.setIfInBounds_toArray, List.set_cons_zero, List.set_cons_succ]) | (refine wpPlan.take (v := ?_) (Or.inl ⟨by rfl, ?_⟩) ?_; rotate_left; (focus (intro _ hS; (try dsimp only at hS); go_split_ands; (try subst hS); go_simp; (try (with_reducible rfl)); done)); simp only [Act.put, List.setIfInBounds_toArray, List.set_cons_zero, List.set_cons_succ]))); refine wpPlan.done ?_; clear hHeld
    go_wp2_with fail
    go_ret
    exact ⟨_, p, e, rfl, HS.out, ⟨rfl, rfl, rfl, Nat.le_refl _, fun _ _ _ => rfl⟩, Or.inl ⟨HE.out, rfl, HE.out⟩⟩
/-- What Text leaves. -/
def TxP (W' : World) (bs : List Nat) (p p' : Nat) (e e' : Int) (most : Nat) (v : Value) : Prop :=
  ∃ (x : List Nat) (A' : Option Addr) (cc : Nat), v = .slice A' x.length cc ∧ x.length ≤ cc ∧ Byt.ByR W' A' x ∧ (A' = none → x = []) ∧ (∀ y ∈ x, y < 256) ∧ x.length ≤ most ∧ PostP (textP (most : Nat)) bs p p' e e' (fun y => x = y)
theorem textP_bad {most : Int} {bs : List Nat} {y : Int} (h : smallP most bs = .error y) : textP most bs = .error y := by unfold textP; rw [h]
theorem textP_short {most : Int} {bs t : List Nat} {v : Nat} (h : smallP most bs = .ok (v, t)) (hv : ¬ v ≤ t.length) : textP most bs = .error 8 := by unfold textP; rw [h]; exact if_neg hv
theorem textP_good {most : Int} {bs t : List Nat} {v : Nat} (h : smallP most bs = .ok (v, t)) (hv : v ≤ t.length) : textP most bs = .ok (t.take v, t.drop v) := by unfold textP; rw [h]; exact if_pos hv
set_option maxRecDepth 20000 in
set_option maxHeartbeats 4000000 in
theorem reftext_any (hlen : bs.length ≤ 140737488355328) (hc : bs.length ≤ c) (hby : ∀ x ∈ bs, x < 256) (most : Nat) (hm : most ≤ 100000) (p : Nat) (e : Int) (W : World) (h : RS W k A c bs p e) :
    Calls Tryz.prog 68 #[.pointer (some ⟨k, 0, none⟩), .int .i64 (most : Nat)] W fun r W' => ∃ (v : Value) (p' : Nat) (e' : Int), r = .returned v ∧ RS W' k A c bs p' e' ∧ Off k W W' ∧ TxP W' bs p p' e e' most v := by
  have HS := Lib.hid (refsmall_any k c A bs hlen hby most (by omega) p e W h)
  have HM := Lib.hid (And.intro hlen (And.intro hc (And.intro hby hm)))
  clear hlen hc hby hm h
  go_enter Tryz.func68, Tryz.ntmps68
  go_wp2_with fail
  refine HS.out.mono ?_
  rintro r w1 ⟨v, p1, e1, rfl, hS, hO, hv, hP⟩
  have H1 := Lib.hid (And.intro hS (And.intro hO (And.intro hv hP)))
  clear hS hO hv hP HS
  have fin0 : ∀ w (x : List Nat) (A' : Option Addr), x = [] → Byt.ByR w A' x := fun w x A' h => Or.inl h
  by_cases hv0 : v = 0
  · subst hv0
    go_wp2_with fail
    refine (rbytesZ_any k c A bs HM.out.1 HM.out.2.1 p1 e1 w1 H1.out.1).mono ?_
    rintro r w2 ⟨u, p2, e2, rfl, hS, hO, hP⟩
    have H2 := Lib.hid (And.intro hS (And.intro (H1.out.2.1.trans hO) hP))
    clear hS hO hP
    go_wp2_with fail
    go_ret
    refine ⟨_, p2, e2, rfl, H2.out.1, H2.out.2.1, ?_⟩
    have hP1 := H1.out.2.2.2
    rcases H2.out.2.2 with ⟨h1, rfl, h3⟩ | ⟨h1, h2, h3, A', cc, rfl⟩
    · refine ⟨[], none, 0, rfl, Nat.le_refl _, Or.inl rfl, fun _ => rfl, (fun y hy => by cases hy), Nat.zero_le _, fun he => h3, fun he => ?_⟩
      have h4 := hP1.2 he
      rcases hq : smallP (most : Nat) (bs.drop p) with y | ⟨n, t⟩
      · rw [textP_bad hq]; exact h3
      · rw [hq] at h4; exact absurd h4.2.1 h1
    · subst h3
      refine ⟨[], A', cc, rfl, Nat.zero_le _, Or.inl rfl, fun _ => rfl, (fun y hy => by cases hy), Nat.zero_le _, fun he => absurd h1 (hP1.1 he), fun he => ?_⟩
      have h4 := hP1.2 he
      rcases hq : smallP (most : Nat) (bs.drop p) with y | ⟨n, t⟩
      · rw [hq] at h4; exact absurd h1 h4
      · rw [hq] at h4
        obtain ⟨rfl, -, h6⟩ := h4
        rw [textP_good hq (Nat.zero_le _)]
        exact ⟨by simp, h2, by simpa using h6⟩
  · go_wp2_with fail
    refine (rbytes_any k c A bs HM.out.1 HM.out.2.1 v (by omega) (by have := H1.out.2.2.1; have := HM.out.2.2.2; omega) p1 e1 w1 H1.out.1).mono ?_
    rintro r w2 ⟨u, p2, e2, rfl, hS, hO, hP⟩
    have H2 := Lib.hid (And.intro hS (And.intro (H1.out.2.1.trans hO) hP))
    clear hS hO hP
    go_wp2_with fail
    go_ret
    refine ⟨_, p2, e2, rfl, H2.out.1, H2.out.2.1, ?_⟩
    have hP1 := H1.out.2.2.2
    rcases H2.out.2.2 with ⟨h1, rfl, h3⟩ | ⟨h1, h2, h3, h4, b, q, cc, rfl, hncc, hb, hbk, hcell⟩
    · refine ⟨[], none, 0, rfl, Nat.le_refl _, Or.inl rfl, fun _ => rfl, (fun y hy => by cases hy), Nat.zero_le _, fun he => h3, fun he => ?_⟩
      have h4 := hP1.2 he
      rcases hq : smallP (most : Nat) (bs.drop p) with y | ⟨n, t⟩
      · rw [textP_bad hq]; exact h3
      · rw [hq] at h4
        obtain ⟨rfl, h5, h6⟩ := h4
        have hlt : ¬ v ≤ t.length := by
          rw [← h6, List.length_drop]
          rcases h1 with h1 | h1
          · exact absurd h5 h1
          · omega
        rw [textP_short hq hlt]; exact h3
    · have hle : v ≤ (bs.drop p1).length := by rw [List.length_drop]; exact h2
      have hxl : ((bs.drop p1).take v).length = v := by rw [List.length_take]; omega
      refine ⟨(bs.drop p1).take v, some ⟨b, q, none⟩, cc, by rw [hxl]; rfl, by rw [hxl]; exact hncc, Or.inr ⟨b, q, rfl, hb, fun i x hx => ?_⟩, (fun h => by cases h), (fun y hy => HM.out.2.2.1 y (List.mem_of_mem_drop (List.mem_of_mem_take hy))), by rw [hxl]; exact H1.out.2.2.1, fun he => absurd h1 (hP1.1 he), fun he => ?_⟩
      · refine hcell i x ?_
        rw [List.getElem?_take] at hx
        split at hx
        · exact hx
        · cases hx
      · have h5 := hP1.2 he
        rcases hq : smallP (most : Nat) (bs.drop p) with y | ⟨n, t⟩
        · rw [hq] at h5; exact absurd h1 h5
        · rw [hq] at h5
          obtain ⟨rfl, -, h6⟩ := h5
          rw [h6] at hle ⊢
          rw [textP_good hq hle]
          exact ⟨rfl, h3, by rw [h4, ← List.drop_drop, h6]⟩
end
end In
end Go.Proofs.YtgnfachjobohoaaGreat
