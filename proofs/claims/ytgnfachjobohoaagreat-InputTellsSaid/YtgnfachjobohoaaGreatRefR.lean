/-
The document's reader: its state, and what its calls leave.
The document's reader: Float, Vector.
-/
import Derived.Test.YtgnfachjobohoaaGreatRead
import Derived.Test.YtgnfachjobohoaaGreatRead6
import Derived.Test.YtgnfachjobohoaaGreatBack
import Derived.Test.YtgnfachjobohoaaGreatTree
import Derived.Test.YtgnfachjobohoaaGreatVec
import Derived.Deep.CutRange
import Derived.Test.YtgnfachjobohoaaGreatRead9
import Derived.Test.YtgnfachjobohoaaGreatTots
import Derived.Test.YtgnfachjobohoaaGreatStore
namespace Go.Proofs.YtgnfachjobohoaaGreat
open Go.RowKit
set_option linter.unusedSimpArgs false
set_option linter.unusedVariables false

/-- Bytes in a row that is not block k. -/
def RRow (W : World) (k : Nat) (A : Option Addr) (bs : List Nat) : Prop :=
  bs = [] ∨ ∃ b p, A = some ⟨b, p, none⟩ ∧ b < W.heap.size ∧ b ≠ k ∧ ∀ (i x : Nat), bs[i]? = some x → W.cell? ⟨b, p + i, none⟩ = some (.int .u8 (x : Nat))
/-- A reader in block k: the place, the fault. -/
def RS (W : World) (k : Nat) (A : Option Addr) (c : Nat) (bs : List Nat) (p : Nat) (e : Int) : Prop :=
  Blk W k 70 #[.slice A bs.length c, .int .i64 (p : Nat), .int .i64 e] ∧ RRow W k A bs ∧ p ≤ bs.length
theorem RRow.off {W W' : World} {k : Nat} {A : Option Addr} {bs : List Nat} (h : RRow W k A bs) (hO : Off k W W') : RRow W' k A bs := by
  refine h.imp id ?_
  rintro ⟨b, p, e, h1, h2, h3⟩
  exact ⟨b, p, e, Nat.lt_of_lt_of_le h1 hO.size, h2, fun i x hx => (hO.cell (p := ⟨b, p + i, none⟩) h1 h2).trans (h3 i x hx)⟩
theorem RS.cells {W : World} {k c p : Nat} {A : Option Addr} {bs : List Nat} {e : Int} (h : RS W k A c bs p e) : W.cell? ⟨k, 0, none⟩ = some (.slice A bs.length c) ∧ W.cell? ⟨k, 1, none⟩ = some (.int .i64 (p : Nat)) ∧ W.cell? ⟨k, 2, none⟩ = some (.int .i64 e) ∧ ∀ i, W.frozen? ⟨k, i, none⟩ = false :=
  ⟨h.1.cell 0, h.1.cell 1, h.1.cell 2, h.1.frozen⟩
theorem RS.setE {W : World} {k c p : Nat} {A : Option Addr} {bs : List Nat} {e : Int} (h : RS W k A c bs p e) (x : Int) : RS (W.setCell ⟨k, 2, none⟩ (.int .i64 x)) k A c bs p x :=
  ⟨h.1.setCell 2 _, h.2.1.off ((Off.refl k W).set 2 _), h.2.2⟩
theorem RS.setAt {W : World} {k c p : Nat} {A : Option Addr} {bs : List Nat} {e : Int} (h : RS W k A c bs p e) {q : Nat} (hq : q ≤ bs.length) : RS (W.setCell ⟨k, 1, none⟩ (.int .i64 (q : Nat))) k A c bs q e :=
  ⟨h.1.setCell 1 _, h.2.1.off ((Off.refl k W).set 1 _), hq⟩
theorem RS.next {W W' : World} {k c p : Nat} {A : Option Addr} {bs : List Nat} {e : Int} (h : RS W k A c bs p e) (hb : Below W.heap.size W W') : RS W' k A c bs p e := by
  refine ⟨h.1.next hb, ?_, h.2.2⟩
  refine h.2.1.imp id ?_
  rintro ⟨b, p, e, h1, h2, h3⟩
  exact ⟨b, p, e, Nat.lt_of_lt_of_le h1 hb.size, h2, fun i x hx => (hb.cell (p := ⟨b, p + i, none⟩) h1).trans (h3 i x hx)⟩
theorem RS.off {W W' : World} {k j c p : Nat} {A : Option Addr} {bs : List Nat} {e : Int} (h : RS W k A c bs p e) (hO : Off j W W') (hk : k ≠ j) (hA : bs ≠ [] → ∀ b q, A = some ⟨b, q, none⟩ → b ≠ j) : RS W' k A c bs p e := by
  refine ⟨(hO.block k h.1.lt hk).trans h.1, ?_, h.2.2⟩
  by_cases hbs : bs = []
  · exact Or.inl hbs
  refine h.2.1.imp id ?_
  rintro ⟨b, p, e, h1, h2, h3⟩
  exact ⟨b, p, e, Nat.lt_of_lt_of_le h1 hO.size, h2, fun i x hx => (hO.cell (p := ⟨b, p + i, none⟩) h1 (hA hbs b p e)).trans (h3 i x hx)⟩
theorem RS.low {W : World} {k c p : Nat} {A : Option Addr} {bs : List Nat} {e : Int} (h : RS W k A c bs p e) : bs ≠ [] → ∀ b q, A = some ⟨b, q, none⟩ → b < W.heap.size := by
  intro hbs b q hA
  obtain ⟨b', q', e', h1, _⟩ := h.2.1.resolve_left hbs
  rw [hA] at e'
  cases e'
  exact h1
/-- What a part of a reading leaves: where it could be read, ok, and the rest; else a fault; with a fault ahead one behind. -/
def PostP {α : Type} (P : List Nat → Except Int (α × List Nat)) (bs : List Nat) (p p' : Nat) (e e' : Int) (ok : α → Prop) : Prop :=
  (e ≠ 0 → e' ≠ 0) ∧ (e = 0 → match P (bs.drop p) with | .ok (x, t) => ok x ∧ e' = 0 ∧ bs.drop p' = t | .error _ => e' ≠ 0)
/-- What Num leaves. -/
def NumPost (R : Except Int (Nat × List Nat)) (bs : List Nat) (v p' : Nat) (e' : Int) : Prop := match R with | .ok (n, t) => v = n ∧ e' = 0 ∧ bs.drop p' = t | .error _ => v = 0 ∧ e' ≠ 0
def EndPost (x e : Int) (bs : List Nat) (p : Nat) : Prop := x = 0 ↔ (e = 0 ∧ bs.drop p = [])
theorem PostP.err {α : Type} {P : List Nat → Except Int (α × List Nat)} {bs : List Nat} {p p' : Nat} {e' x : Int} {ok : α → Prop} (h : P (bs.drop p) = .error x) (he : e' ≠ 0) : PostP P bs p p' 0 e' ok := ⟨fun h => absurd rfl h, fun _ => by rw [h]; exact he⟩
theorem PostP.good {α : Type} {P : List Nat → Except Int (α × List Nat)} {bs t : List Nat} {p p' : Nat} {x : α} {ok : α → Prop} (h : P (bs.drop p) = .ok (x, t)) (hx : ok x) (ht : bs.drop p' = t) : PostP P bs p p' 0 0 ok := ⟨fun h => absurd rfl h, fun _ => by rw [h]; exact ⟨hx, rfl, ht⟩⟩
theorem PostP.bad {α : Type} {P : List Nat → Except Int (α × List Nat)} {bs : List Nat} {p p' : Nat} {e e' : Int} {ok : α → Prop} (h : e ≠ 0) (he : e' ≠ 0) : PostP P bs p p' e e' ok := ⟨fun _ => he, fun h' => absurd h' h⟩
theorem smallP_y {most v : Nat} {bs t : List Nat} (h : numP true 0 bs = .ok (v, t)) (hv : v ≤ most) : smallP (most : Nat) bs = .ok (v, t) := by
  unfold smallP
  rw [h]
  exact if_pos (by omega)
theorem smallP_n {most v : Nat} {bs t : List Nat} (h : numP true 0 bs = .ok (v, t)) (hv : ¬ v ≤ most) : smallP (most : Nat) bs = .error 3 := by
  unfold smallP
  rw [h]
  exact if_neg (by omega)
theorem smallP_e {most : Nat} {bs : List Nat} {x : Int} (h : numP true 0 bs = .error x) : smallP (most : Nat) bs = .error x := by
  unfold smallP
  rw [h]
theorem intP_e {bs : List Nat} {x : Int} (h : numP true 0 bs = .error x) : intP bs = .error x := by
  unfold intP
  rw [h]
theorem intP_n {v : Nat} {bs t : List Nat} (h : numP true 0 bs = .ok (v, t)) (hv : ¬ v / 2 + v % 2 ≤ 4611686018427387904) : intP bs = .error 3 := by
  unfold intP
  rw [h]
  exact if_neg hv
theorem intP_y {v : Nat} {bs t : List Nat} (h : numP true 0 bs = .ok (v, t)) (hv : v / 2 + v % 2 ≤ 4611686018427387904) : intP bs = .ok (if v % 2 = 1 then -((v / 2 + v % 2 : Nat) : Int) else ((v / 2 + v % 2 : Nat) : Int), t) := by
  unfold intP
  rw [h]
  exact if_pos hv
section
variable (k c : Nat) (A : Option Addr) (bs : List Nat)
theorem refnum_off (p : Nat) (e : Int) (W : World) (h : RS W k A c bs p e) (he : e ≠ 0) :
    Calls Tryz.prog 25 #[.pointer (some ⟨k, 0, none⟩)] W fun r W' => r = .returned (.int .u64 0) ∧ W' = W := by
  obtain ⟨c0, c1, c2, cz⟩ := h.cells
  have h1 : (e == 0) = false := by simpa using he
  clear h he cz
  go_enter Tryz.func25, Tryz.ntmps25
  go_wp2_with fail
  go_loopw [3, 4] (fun n i wr => n = .int .u64 0 ∧ i = .int .i64 0 ∧ wr = W) (fun _ _ _ => 0)
  case atStart => exact ⟨rfl, rfl, rfl⟩
  case round =>
    obtain ⟨rfl, rfl, rfl⟩ := hrel
    go_wp2_with fail
    go_ret
    exact ⟨rfl, rfl⟩
set_option maxRecDepth 20000 in
set_option maxHeartbeats 4000000 in
theorem refnum_on (hlen : bs.length ≤ 140737488355328) (hby : ∀ x ∈ bs, x < 256) (p : Nat) (W : World) (h : RS W k A c bs p 0) :
    Calls Tryz.prog 25 #[.pointer (some ⟨k, 0, none⟩)] W fun r W' => ∃ (v p' : Nat) (e' : Int), r = .returned (.int .u64 (v : Nat)) ∧ RS W' k A c bs p' e' ∧ Off k W W' ∧ NumPost (numP true 0 (bs.drop p)) bs v p' e' := by
  have HB := Lib.hid hby
  have HS := Lib.hid h
  have HL := Lib.hid hlen
  obtain ⟨R, hR⟩ : ∃ R, R = numP true 0 (bs.drop p) := ⟨_, rfl⟩
  rw [← hR]
  have HR := Lib.hid hR
  clear h hby hlen hR
  go_enter Tryz.func25, Tryz.ntmps25
  go_wp2_with fail
  go_loopw [3, 4] (fun n i wr => ∃ nv j pl : Nat, n = .int .u64 (nv : Nat) ∧ i = .int .i64 (j : Nat) ∧ pl ≤ bs.length ∧ Hid (pl = p + j) ∧ Hid (R = numP (j == 0) nv (bs.drop pl)) ∧ Hid (RS wr k A c bs pl 0) ∧ Off k W wr) (fun _ i _ => bs.length - (intOf i).toNat)
  case atStart => exact ⟨0, 0, p, rfl, rfl, HS.out.2.2, Lib.hid rfl, HR, HS, Off.refl k W⟩
  case round =>
    obtain ⟨nv, j, pl, rfl, rfl, hj, HPJ, HP, HR2, HO⟩ := hrel
    have hl9 := HL.out
    clear HS HR
    obtain ⟨c0, c1, c2, cz⟩ := HR2.out.cells
    have z1 := cz 1
    have z2 := cz 2
    clear cz
    by_cases hlt : pl < bs.length
    · have h1 : ¬ (bs.length : Int) ≤ (pl : Int) := by omega
      obtain ⟨b, q, rfl, hb, hbk, hcell⟩ := HR2.out.2.1.resolve_left (by rintro rfl; simp at hlt)
      obtain ⟨x, hx⟩ : ∃ x, x = bs[pl] := ⟨_, rfl⟩
      have hd : bs.drop pl = x :: bs.drop (pl + 1) := by rw [hx, List.drop_eq_getElem_cons hlt]
      have cx := hcell pl x (by rw [hx]; exact List.getElem?_eq_getElem hlt)
      have HX := Lib.hid (show x < 256 from by rw [hx]; exact HB.out _ (List.getElem_mem hlt))
      have HD := Lib.hid hd
      have HLT := Lib.hid hlt
      have HS2 := Lib.hid hl9
      clear hd hx hcell hb hbk
      go_upto_region 5 with fail
      refine wp_region_plan (S := fun w' => w' = World.drew wr) [(0, true), (1, true), (2, true), (3, true), (4, true), (5, true), (6, true), (7, true), (8, true), (9, true)] 9999 (by kernel_rfl) (by kernel_rfl) (by kernel_rfl) (by kernel_rfl) (by kernel_rfl) (fun _ _ d _ _ h => by cases d <;> exact h) rfl (fun hHeld => ?_); simp only [List.map_cons, List.map_nil, List.getElem?_toArray, List.getElem?_cons_zero, List.getElem?_cons_succ]
      (repeat (first | (refine wpPlan.take (v := undef) (Or.inr ⟨by rfl, rfl⟩) ?_; simp only [Act.put, List.setIfInBounds_toArray, List.set_cons_zero, List.set_cons_succ]) | (refine wpPlan.take (v := ?_) (Or.inl ⟨by rfl, ?_⟩) ?_; rotate_left; (focus (intro _ hS; (try dsimp only at hS); go_split_ands; (try subst hS); go_simp; (try (with_reducible rfl)); done)); simp only [Act.put, List.setIfInBounds_toArray, List.set_cons_zero, List.set_cons_succ]))); refine wpPlan.done ?_; clear hHeld
      go_upto_region 8 with fail
      have i9 : (pl : Int) < (bs.length : Nat) := by omega
      refine wp_region_plan (S := fun w' => w' = World.drew wr.drew) [(0, true), (1, true), (2, true), (3, true), (4, true), (5, true), (6, true), (7, true), (8, true), (9, true), (10, true)] 9999 (by kernel_rfl) (by kernel_rfl) (by kernel_rfl) (by kernel_rfl) (by kernel_rfl) (fun _ _ d _ _ h => by cases d <;> exact h) rfl (fun hHeld => ?_); simp only [List.map_cons, List.map_nil, List.getElem?_toArray, List.getElem?_cons_zero, List.getElem?_cons_succ]
      (repeat (first | (refine wpPlan.take (v := undef) (Or.inr ⟨by rfl, rfl⟩) ?_; simp only [Act.put, List.setIfInBounds_toArray, List.set_cons_zero, List.set_cons_succ]) | (refine wpPlan.take (v := ?_) (Or.inl ⟨by rfl, ?_⟩) ?_; rotate_left; (focus (intro _ hS; (try dsimp only at hS); go_split_ands; (try subst hS); go_simp; (try (with_reducible rfl)); done)); simp only [Act.put, List.setIfInBounds_toArray, List.set_cons_zero, List.set_cons_succ]))); refine wpPlan.done ?_; clear hHeld
      obtain ⟨x2, hx2⟩ : ∃ x2, x2 = wr.drew.drew := ⟨_, rfl⟩
      have HR3 := Lib.hid (show RS x2 k (some ⟨b, q, none⟩) c bs pl 0 from by rw [hx2]; exact HR2.out)
      have HO3 := Lib.hid (show Off k W x2 from by rw [hx2]; exact ⟨HO.os, HO.tape, HO.output, HO.size, HO.block⟩)
      rw [← hx2]
      clear hx2 HR2 HO c0 c1 c2 cx z1 z2 h1
      obtain ⟨_, c1, _, cz⟩ := HR3.out.cells
      have z1 := cz 1
      have z2 := cz 2
      clear cz
      by_cases hfo : (j == 0 && x == 128) = true
      · obtain ⟨hj0, hx0⟩ := Bool.and_eq_true_iff.1 hfo
        have e1 : ((j : Int) == 0) = true := by simp at hj0 ⊢; omega
        have e2 : ((x : Int) == 128) = true := by simp at hx0 ⊢; omega
        have HQ := Lib.hid (show R = .error 3 from by rw [HP.out, HD.out]; simp at hj0 hx0; rw [hj0, hx0]; exact numP_follow _ _)
        clear hj0 hx0 hfo
        go_wp2_with fail
        go_ret
        exact ⟨0, pl, 3, rfl, HR3.out.setE 3, HO3.out.set 2 _, by rw [HQ.out]; exact ⟨rfl, (by decide : (3 : Int) ≠ 0)⟩⟩
      · have hfo' : (j == 0 && x == 128) = false := by simpa using hfo
        have H8 := Lib.hid hfo'
        have hf : ((j : Int) == 0) = false ∨ (((j : Int) == 0) = true ∧ ((x : Int) == 128) = false) := by
          rcases Nat.eq_zero_or_pos j with h | h
          · right; subst h; simp at hfo' ⊢; omega
          · left; simp; omega
        clear hfo hfo'
        by_cases hn : 144115188075855871 < nv
        · have hn' : (144115188075855871 : Int) < (nv : Nat) := by omega
          have HQ := Lib.hid (show R = .error 3 from by rw [HP.out, HD.out]; exact numP_big H8.out hn)
          clear hn
          rcases hf with e1 | ⟨e1, e2⟩
          all_goals
            go_wp2_with fail
            go_ret
            exact ⟨0, pl, 3, rfl, HR3.out.setE 3, HO3.out.set 2 _, by rw [HQ.out]; exact ⟨rfl, (by decide : (3 : Int) ≠ 0)⟩⟩
        · have hn' : ¬ (144115188075855871 : Int) < (nv : Nat) := by omega
          have HN := Lib.hid hn
          have a1 : IntKind.u64.wrap (128 * (nv : Int)) = 128 * (nv : Int) := by rw [IntKind.wrap_u64]; omega
          have a2 : IntKind.u64.wrap (128 * (nv : Int) + (x : Int) % 128) = ((nv * 128 + x % 128 : Nat) : Int) := by rw [IntKind.wrap_u64]; omega
          have a3 : IntKind.u64.wrap ((x : Int) % 128) = (x : Int) % 128 := by rw [IntKind.wrap_u64]; omega
          have a4 : IntKind.u64.wrap (x : Int) = (x : Int) := by have := HX.out; rw [IntKind.wrap_u64]; omega
          have a7 : IntKind.i64.wrap ((j : Int) + 1) = ((j + 1 : Nat) : Int) := by have := HPJ.out; rw [IntKind.wrap_i64]; omega
          have a5 : IntKind.i64.wrap ((pl : Int) + 1) = ((pl + 1 : Nat) : Int) := by rw [IntKind.wrap_i64]; omega
          clear hn
          by_cases hx8 : x < 128
          · have hx' : (x : Int) < 128 := by omega
            have HQ := Lib.hid (show R = .ok (nv * 128 + x % 128, bs.drop (pl + 1)) from by rw [HP.out, HD.out]; exact numP_last H8.out HN.out hx8)
            clear hx8
            rcases hf with e1 | ⟨e1, e2⟩
            all_goals
              go_wp2_with fail
              go_ret
              exact ⟨nv * 128 + x % 128, wret_u64 (by omega), pl + 1, 0, HR3.out.setAt HLT.out, HO3.out.set 1 _, by rw [HQ.out]; exact ⟨rfl, rfl, rfl⟩⟩
          · have hx' : ¬ (x : Int) < 128 := by omega
            have HQ := Lib.hid (show R = numP (j + 1 == 0) (nv * 128 + x % 128) (bs.drop (pl + 1)) from by rw [HP.out, HD.out]; exact numP_next H8.out HN.out hx8)
            clear hx8
            rcases hf with e1 | ⟨e1, e2⟩
            all_goals
              go_wp2_with fail
              go_roundw
              case rel => exact ⟨nv * 128 + x % 128, j + 1, pl + 1, rfl, by first | rfl | go_num, HLT.out, Lib.hid (by have := HPJ.out; omega), HQ, Lib.hid (HR3.out.setAt HLT.out), HO3.out.set 1 _⟩
              case measure => have := HPJ.out; have := HLT.out; simp [intOf]; omega
    · have h1 : (bs.length : Int) ≤ (pl : Int) := by omega
      have HQ := Lib.hid (show R = .error 8 from by rw [HP.out, List.drop_eq_nil_of_le (by omega)]; cases (j == 0) <;> rfl)
      go_upto_region 5 with fail
      refine wp_region_plan (S := fun w' => w' = World.drew wr) [(0, true), (1, true), (2, true), (3, true), (4, true), (5, true), (6, true), (7, true), (8, true), (9, true)] 9999 (by kernel_rfl) (by kernel_rfl) (by kernel_rfl) (by kernel_rfl) (by kernel_rfl) (fun _ _ d _ _ h => by cases d <;> exact h) rfl (fun hHeld => ?_); simp only [List.map_cons, List.map_nil, List.getElem?_toArray, List.getElem?_cons_zero, List.getElem?_cons_succ]
      (repeat (first | (refine wpPlan.take (v := undef) (Or.inr ⟨by rfl, rfl⟩) ?_; simp only [Act.put, List.setIfInBounds_toArray, List.set_cons_zero, List.set_cons_succ]) | (refine wpPlan.take (v := ?_) (Or.inl ⟨by rfl, ?_⟩) ?_; rotate_left; (focus (intro _ hS; (try dsimp only at hS); go_split_ands; (try subst hS); go_simp; (try (with_reducible rfl)); done)); simp only [Act.put, List.setIfInBounds_toArray, List.set_cons_zero, List.set_cons_succ]))); refine wpPlan.done ?_; clear hHeld
      obtain ⟨x2, hx2⟩ : ∃ x2, x2 = wr.drew := ⟨_, rfl⟩
      have HR3 := Lib.hid (show RS x2 k A c bs pl 0 from by rw [hx2]; exact HR2.out)
      have HO3 := Lib.hid (show Off k W x2 from by rw [hx2]; exact ⟨HO.os, HO.tape, HO.output, HO.size, HO.block⟩)
      rw [← hx2]
      clear hx2 HR2 HO c0 c1 c2 z1 z2 h1 HP
      obtain ⟨_, _, _, cz⟩ := HR3.out.cells
      have z2 := cz 2
      clear cz
      go_wp2_with fail
      go_ret
      exact ⟨0, pl, 8, rfl, HR3.out.setE 8, HO3.out.set 2 _, by rw [HQ.out]; exact ⟨rfl, (by decide : (8 : Int) ≠ 0)⟩⟩
set_option maxRecDepth 20000 in
set_option maxHeartbeats 4000000 in
theorem refsmall_any (hlen : bs.length ≤ 140737488355328) (hby : ∀ x ∈ bs, x < 256) (most : Nat) (hm : most ≤ 9223372036854775807) (p : Nat) (e : Int) (W : World) (h : RS W k A c bs p e) :
    Calls Tryz.prog 23 #[.pointer (some ⟨k, 0, none⟩), .int .i64 (most : Nat)] W fun r W' => ∃ (v p' : Nat) (e' : Int), r = .returned (.int .i64 (v : Nat)) ∧ RS W' k A c bs p' e' ∧ Off k W W' ∧ v ≤ most ∧ PostP (smallP (most : Nat)) bs p p' e e' (fun x => v = x) := by
  have m1 : ¬ (most : Int) < 0 := by omega
  have m2 : IntKind.u64.wrap (most : Int) = (most : Int) := by rw [IntKind.wrap_u64]; omega
  by_cases he : e = 0
  · subst he
    go_enter Tryz.func23, Tryz.ntmps23
    go_wp2_with fail
    refine (refnum_on k c A bs hlen hby p W h).mono ?_
    rintro r w1 ⟨v, p', e', rfl, hS, hO, hR⟩
    have HS := Lib.hid hS
    have HO := Lib.hid hO
    cases hP : numP true 0 (bs.drop p) with
    | error x =>
      rw [hP] at hR
      unfold NumPost at hR
      obtain ⟨rfl, he'⟩ := hR
      have f1 : (e' == 0) = false := by simpa using he'
      have f2 : (e' != 0) = true := by simpa using he'
      obtain ⟨_, _, c2, _⟩ := hS.cells
      have HE := Lib.hid he'
      clear he' hS hO h
      go_wp2_with fail
      go_ret
      exact ⟨0, p', e', rfl, HS.out, HO.out, Nat.zero_le _, PostP.err (smallP_e hP) HE.out⟩
    | ok nt =>
      obtain ⟨n, t⟩ := nt
      rw [hP] at hR
      unfold NumPost at hR
      obtain ⟨rfl, rfl, ht⟩ := hR
      have hv := numP_lt _ _ _ _ _ hP
      obtain ⟨_, _, c2, cz⟩ := hS.cells
      have z2 := cz 2
      have HT := Lib.hid ht
      have HP := Lib.hid hP
      clear cz hS hO h ht hP
      by_cases hv2 : v ≤ most
      · have f1 : ¬ (most : Int) < (v : Nat) := by omega
        have f3 : IntKind.i64.wrap (v : Int) = (v : Int) := by rw [IntKind.wrap_i64]; omega
        have HV := Lib.hid hv2
        clear hv hv2
        go_wp2_with fail
        go_ret
        exact ⟨v, p', 0, rfl, HS.out, HO.out, HV.out, PostP.good (smallP_y HP.out HV.out) rfl HT.out⟩
      · have f1 : (most : Int) < (v : Nat) := by omega
        have HV := Lib.hid hv2
        clear hv hv2
        go_wp2_with fail
        go_ret
        exact ⟨0, p', 3, rfl, HS.out.setE 3, HO.out.set 2 _, Nat.zero_le _, PostP.err (smallP_n HP.out HV.out) (by decide)⟩
  · have f1 : (e == 0) = false := by simpa using he
    have f2 : (e != 0) = true := by simpa using he
    have HS := Lib.hid h
    have HE := Lib.hid he
    obtain ⟨_, _, c2, _⟩ := h.cells
    go_enter Tryz.func23, Tryz.ntmps23
    go_wp2_with fail
    refine (refnum_off k c A bs p e W h he).mono ?_
    rintro r w1 ⟨rfl, rfl⟩
    clear h he
    go_wp2_with fail
    go_ret
    exact ⟨0, p, e, rfl, HS.out, Off.refl _ _, Nat.zero_le _, PostP.bad HE.out HE.out⟩
set_option maxRecDepth 20000 in
set_option maxHeartbeats 4000000 in
theorem refint_any (hlen : bs.length ≤ 140737488355328) (hby : ∀ x ∈ bs, x < 256) (p : Nat) (e : Int) (W : World) (h : RS W k A c bs p e) :
    Calls Tryz.prog 66 #[.pointer (some ⟨k, 0, none⟩)] W fun r W' => ∃ (v : Int) (p' : Nat) (e' : Int), r = .returned (.int .i64 v) ∧ RS W' k A c bs p' e' ∧ Off k W W' ∧ (-9223372036854775808 ≤ v ∧ v < 9223372036854775808) ∧ PostP intP bs p p' e e' (fun x => v = x) := by
  by_cases he : e = 0
  · subst he
    go_enter Tryz.func66, Tryz.ntmps66
    go_wp2_with fail
    refine (refnum_on k c A bs hlen hby p W h).mono ?_
    rintro r w1 ⟨v, p', e', rfl, hS, hO, hR⟩
    have HS := Lib.hid hS
    have HO := Lib.hid hO
    cases hP : numP true 0 (bs.drop p) with
    | error x =>
      rw [hP] at hR
      unfold NumPost at hR
      obtain ⟨rfl, he'⟩ := hR
      have f1 : (e' == 0) = false := by simpa using he'
      have f2 : (e' != 0) = true := by simpa using he'
      obtain ⟨_, _, c2, _⟩ := hS.cells
      have HE := Lib.hid he'
      clear he' hS hO h
      go_wp2_with fail
      go_ret
      exact ⟨0, p', e', rfl, HS.out, HO.out, by omega, PostP.err (intP_e hP) HE.out⟩
    | ok nt =>
      obtain ⟨n, t⟩ := nt
      rw [hP] at hR
      unfold NumPost at hR
      obtain ⟨rfl, rfl, ht⟩ := hR
      have hv := numP_lt _ _ _ _ _ hP
      obtain ⟨_, _, c2, cz⟩ := hS.cells
      have z2 := cz 2
      have HT := Lib.hid ht
      have HP := Lib.hid hP
      clear cz hS hO h ht hP
      have w1' : IntKind.u64.wrap ((v : Int) % 2) = (v : Int) % 2 := by rw [IntKind.wrap_u64]; omega
      have w2' : IntKind.u64.wrap ((v : Int) / 2) = (v : Int) / 2 := by rw [IntKind.wrap_u64]; omega
      have w3' : IntKind.i64.wrap ((v : Int) / 2) = (v : Int) / 2 := by rw [IntKind.wrap_i64]; omega
      have HVB := Lib.hid hv
      clear hv
      rcases Nat.mod_two_eq_zero_or_one v with h2 | h2
      · have t1 : ((v : Int) % 2 == 0) = true := by simp; omega
        have t2 : ((v : Int) % 2 == 1) = false := by simp; omega
        have H2 := Lib.hid h2
        by_cases hb : v / 2 ≤ 4611686018427387904
        · have t3 : ¬ (4611686018427387904 : Int) < (v : Int) / 2 := by omega
          have HV := Lib.hid hb
          clear hb h2
          go_wp2_with fail
          go_ret
          exact ⟨(v : Int) / 2, p', 0, rfl, HS.out, HO.out, by have := HVB.out; omega, PostP.good (intP_y HP.out (by have := HV.out; have := H2.out; omega)) (by have := H2.out; rw [if_neg (by omega)]; omega) HT.out⟩
        · have t3 : (4611686018427387904 : Int) < (v : Int) / 2 := by omega
          have HV := Lib.hid hb
          clear hb h2
          go_wp2_with fail
          go_ret
          exact ⟨0, p', 3, rfl, HS.out.setE 3, HO.out.set 2 _, by omega, PostP.err (intP_n HP.out (by have := HV.out; have := H2.out; omega)) (by decide)⟩
      · have t1 : ((v : Int) % 2 == 0) = false := by simp; omega
        have t2 : ((v : Int) % 2 == 1) = true := by simp; omega
        have H2 := Lib.hid h2
        by_cases hb : v / 2 < 4611686018427387904
        · have t3 : decide ((4611686018427387904 : Int) ≤ (v : Int) / 2) = false := by rw [decide_eq_false_iff_not]; omega
          have w4' : IntKind.i64.wrap (0 - (v : Int) / 2) = -((v : Int) / 2) := by have := HVB.out; rw [IntKind.wrap_i64]; omega
          have w5' : IntKind.i64.wrap (-((v : Int) / 2)) = -((v : Int) / 2) := by rw [IntKind.wrap_i64]; omega
          have w6' : IntKind.i64.wrap (-((v : Int) / 2) - 1) = -((v : Int) / 2) - 1 := by rw [IntKind.wrap_i64]; omega
          have HV := Lib.hid hb
          clear hb h2
          go_wp2_with fail
          go_ret
          exact ⟨-((v : Int) / 2) - 1, p', 0, rfl, HS.out, HO.out, by have := HV.out; omega, PostP.good (intP_y HP.out (by have := HV.out; have := H2.out; omega)) (by have := H2.out; rw [if_pos (by omega)]; omega) HT.out⟩
        · have t3 : decide ((4611686018427387904 : Int) ≤ (v : Int) / 2) = true := by rw [decide_eq_true_iff]; omega
          have HV := Lib.hid hb
          clear hb h2
          go_wp2_with fail
          go_ret
          exact ⟨0, p', 3, rfl, HS.out.setE 3, HO.out.set 2 _, by omega, PostP.err (intP_n HP.out (by have := HV.out; have := H2.out; omega)) (by decide)⟩
  · have f1 : (e == 0) = false := by simpa using he
    have f2 : (e != 0) = true := by simpa using he
    have HS := Lib.hid h
    have HE := Lib.hid he
    obtain ⟨_, _, c2, _⟩ := h.cells
    go_enter Tryz.func66, Tryz.ntmps66
    go_wp2_with fail
    refine (refnum_off k c A bs p e W h he).mono ?_
    rintro r w1 ⟨rfl, rfl⟩
    clear h he
    go_wp2_with fail
    go_ret
    exact ⟨0, p, e, rfl, HS.out, Off.refl _ _, by omega, PostP.bad HE.out HE.out⟩
set_option maxRecDepth 20000 in
set_option maxHeartbeats 4000000 in
theorem refend_any (p : Nat) (e : Int) (W : World) (h : RS W k A c bs p e) :
    Calls Tryz.prog 28 #[.pointer (some ⟨k, 0, none⟩)] W fun r W' => ∃ x : Int, r = .returned (.int .i64 x) ∧ Below W.heap.size W W' ∧ EndPost x e bs p := by
  obtain ⟨c0, c1, c2, _⟩ := h.cells
  have hle := h.2.2
  have HB := Lib.hid (Below.refl W.heap.size W).drew
  by_cases he : e = 0
  · subst he
    by_cases hp : p < bs.length
    · have f1 : (p : Int) < (bs.length : Nat) := by omega
      go_enter Tryz.func28, Tryz.ntmps28
      go_upto_region 1 with fail
      refine wp_region_plan (S := fun w' => w' = World.drew W) [(0, true), (1, true), (2, true), (3, true), (4, true), (5, true), (6, true), (7, true), (8, true), (9, true), (10, true), (11, true), (12, true), (13, true), (14, true), (15, true), (16, true)] 9999 (by kernel_rfl) (by kernel_rfl) (by kernel_rfl) (by kernel_rfl) (by kernel_rfl) (fun _ _ d _ _ h => by cases d <;> exact h) rfl (fun hHeld => ?_); simp only [List.map_cons, List.map_nil, List.getElem?_toArray, List.getElem?_cons_zero, List.getElem?_cons_succ]
      (repeat (first | (refine wpPlan.take (v := undef) (Or.inr ⟨by rfl, rfl⟩) ?_; simp only [Act.put, List.setIfInBounds_toArray, List.set_cons_zero, List.set_cons_succ]) | (refine wpPlan.take (v := ?_) (Or.inl ⟨by rfl, ?_⟩) ?_; rotate_left; (focus (intro _ hS; (try dsimp only at hS); go_split_ands; (try subst hS); go_simp; (try (with_reducible rfl)); done)); simp only [Act.put, List.setIfInBounds_toArray, List.set_cons_zero, List.set_cons_succ]))); refine wpPlan.done ?_; clear hHeld
      go_wp2_with fail
      go_ret
      exact ⟨2, rfl, HB.out, fun h => (by cases h), fun h => absurd (List.drop_eq_nil_iff.1 h.2) (by omega)⟩
    · have f1 : ¬ (p : Int) < (bs.length : Nat) := by omega
      go_enter Tryz.func28, Tryz.ntmps28
      go_upto_region 1 with fail
      refine wp_region_plan (S := fun w' => w' = World.drew W) [(0, true), (1, true), (2, true), (3, true), (4, true), (5, true), (6, true), (7, true), (8, true), (9, true), (10, true), (11, true), (12, true), (13, true), (14, true), (15, true), (16, true)] 9999 (by kernel_rfl) (by kernel_rfl) (by kernel_rfl) (by kernel_rfl) (by kernel_rfl) (fun _ _ d _ _ h => by cases d <;> exact h) rfl (fun hHeld => ?_); simp only [List.map_cons, List.map_nil, List.getElem?_toArray, List.getElem?_cons_zero, List.getElem?_cons_succ]
      (repeat (first | (refine wpPlan.take (v := undef) (Or.inr ⟨by rfl, rfl⟩) ?_; simp only [Act.put, List.setIfInBounds_toArray, List.set_cons_zero, List.set_cons_succ]) | (refine wpPlan.take (v := ?_) (Or.inl ⟨by rfl, ?_⟩) ?_; rotate_left; (focus (intro _ hS; (try dsimp only at hS); go_split_ands; (try subst hS); go_simp; (try (with_reducible rfl)); done)); simp only [Act.put, List.setIfInBounds_toArray, List.set_cons_zero, List.set_cons_succ]))); refine wpPlan.done ?_; clear hHeld
      go_wp2_with fail
      go_ret
      exact ⟨0, rfl, HB.out, fun _ => ⟨rfl, List.drop_eq_nil_iff.2 (by omega)⟩, fun _ => rfl⟩
  · have f1 : (e == 0) = false := by simpa using he
    go_enter Tryz.func28, Tryz.ntmps28
    go_upto_region 1 with fail
    refine wp_region_plan (S := fun w' => w' = World.drew W) [(0, true), (1, true), (2, true), (3, true), (4, true), (5, true), (6, true), (7, true), (8, true), (9, true), (10, true), (11, true), (12, true), (13, true), (14, true), (15, true), (16, true)] 9999 (by kernel_rfl) (by kernel_rfl) (by kernel_rfl) (by kernel_rfl) (by kernel_rfl) (fun _ _ d _ _ h => by cases d <;> exact h) rfl (fun hHeld => ?_); simp only [List.map_cons, List.map_nil, List.getElem?_toArray, List.getElem?_cons_zero, List.getElem?_cons_succ]
    (repeat (first | (refine wpPlan.take (v := undef) (Or.inr ⟨by rfl, rfl⟩) ?_; simp only [Act.put, List.setIfInBounds_toArray, List.set_cons_zero, List.set_cons_succ]) | (refine wpPlan.take (v := ?_) (Or.inl ⟨by rfl, ?_⟩) ?_; rotate_left; (focus (intro _ hS; (try dsimp only at hS); go_split_ands; (try subst hS); go_simp; (try (with_reducible rfl)); done)); simp only [Act.put, List.setIfInBounds_toArray, List.set_cons_zero, List.set_cons_succ]))); refine wpPlan.done ?_; clear hHeld
    go_wp2_with fail
    go_ret
    exact ⟨e, rfl, HB.out, fun h => absurd h he, fun h => absurd h.1 he⟩
set_option maxRecDepth 20000 in
set_option maxHeartbeats 4000000 in
theorem refbytes_any (hlen : bs.length ≤ 140737488355328) (hc : bs.length ≤ c) (n : Nat) (hn0 : 0 < n) (hn : n ≤ 100) (p : Nat) (e : Int) (W : World) (h : RS W k A c bs p e) :
    Calls Tryz.prog 96 #[.pointer (some ⟨k, 0, none⟩), .int .i64 (n : Nat)] W fun r W' => ∃ (v : Value) (p' : Nat) (e' : Int), r = .returned v ∧ RS W' k A c bs p' e' ∧ Off k W W' ∧
      (((e ≠ 0 ∨ bs.length - p < n) ∧ v = .slice none 0 0 ∧ e' ≠ 0) ∨ (e = 0 ∧ n ≤ bs.length - p ∧ e' = 0 ∧ p' = p + n ∧ ∃ b q cc, v = .slice (some ⟨b, q, none⟩) n cc ∧ b < W'.heap.size ∧ b ≠ k ∧ ∀ (i x : Nat), (bs.drop p)[i]? = some x → W'.cell? ⟨b, q + i, none⟩ = some (.int .u8 (x : Nat)))) := by
  obtain ⟨c0, c1, c2, cz⟩ := h.cells
  have z1 := cz 1
  have z2 := cz 2
  have hle := h.2.2
  have HS := Lib.hid h
  have g1 : IntKind.i64.wrap ((bs.length : Int) - (p : Int)) = ((bs.length - p : Nat) : Int) := by rw [IntKind.wrap_i64]; omega
  by_cases he : e = 0
  · subst he
    by_cases hp : n ≤ bs.length - p
    · have f1 : ¬ ((bs.length - p : Nat) : Int) < (n : Nat) := by omega
      obtain ⟨pn, hpn⟩ : ∃ pn, pn = p + n := ⟨_, rfl⟩
      have g2 : IntKind.i64.wrap ((p : Int) + (n : Int)) = (pn : Int) := by rw [IntKind.wrap_i64]; omega
      have g3 : IntKind.i64.wrap ((pn : Int) - (n : Int)) = ((p : Nat) : Int) := by rw [IntKind.wrap_i64]; omega
      have HPQ := Lib.hid hpn
      clear hpn
      obtain ⟨b, q, rfl, hb, hbk, hcell⟩ := h.2.1.resolve_left (by rintro rfl; simp at hp; omega)
      have HC := Lib.hid hcell
      have HBK := Lib.hid (show b < W.heap.size ∧ b ≠ k from ⟨hb, hbk⟩)
      have HPN := Lib.hid hp
      clear cz h hcell hb hbk
      go_enter Tryz.func96, Tryz.ntmps96
      go_upto_region 1 with fail
      refine wp_region_plan (S := fun w' => w' = World.drew W) [(0, true), (1, true), (2, true), (3, true), (4, true), (5, true), (6, true), (7, true), (8, true), (9, true), (10, true), (11, true), (12, true), (13, true), (14, true), (15, true), (16, true), (17, true), (18, true)] 9999 (by kernel_rfl) (by kernel_rfl) (by kernel_rfl) (by kernel_rfl) (by kernel_rfl) (fun _ _ d _ _ h => by cases d <;> exact h) rfl (fun hHeld => ?_); simp only [List.map_cons, List.map_nil, List.getElem?_toArray, List.getElem?_cons_zero, List.getElem?_cons_succ]
      (repeat (first | (refine wpPlan.take (v := undef) (Or.inr ⟨by rfl, rfl⟩) ?_; simp only [Act.put, List.setIfInBounds_toArray, List.set_cons_zero, List.set_cons_succ]) | (refine wpPlan.take (v := ?_) (Or.inl ⟨by rfl, ?_⟩) ?_; rotate_left; (focus (intro _ hS; (try dsimp only at hS); go_split_ands; (try subst hS); go_simp; (try (with_reducible rfl)); done)); simp only [Act.put, List.setIfInBounds_toArray, List.set_cons_zero, List.set_cons_succ]))); refine wpPlan.done ?_; clear hHeld
      go_upto_region 6 with fail
      obtain ⟨x2, hx2⟩ : ∃ x2, x2 = (W.setCell ⟨k, 1, none⟩ (.int .i64 (pn : Int))).drew := ⟨_, rfl⟩
      have HR3 := Lib.hid (show RS x2 k (some ⟨b, q, none⟩) c bs pn 0 from by rw [hx2]; exact HS.out.setAt (q := pn) (by have := HPN.out; have := HPQ.out; omega))
      have HO3 := Lib.hid (show Off k W x2 from by rw [hx2]; exact ((Off.refl k W).set 1 (.int .i64 (pn : Int))).trans ⟨rfl, rfl, rfl, Nat.le_refl _, fun _ _ _ => rfl⟩)
      rw [← hx2]
      clear hx2 c0 c1 c2 z1 z2 f1 g1
      obtain ⟨c0, c1, c2, _⟩ := HR3.out.cells
      have i1 : p ≤ pn := by have := HPQ.out; omega
      have i2 : pn ≤ bs.length := by have := HPN.out; have := HPQ.out; omega
      have i3 : pn ≤ c := by omega
      have i4 : ¬ c = p := by have := HPN.out; omega
      refine wp_region_plan (S := fun w' => w' = World.drew x2) [(0, true), (1, true), (2, true), (3, true), (4, true), (5, true), (6, true), (7, true), (8, true), (9, true), (10, true), (11, true), (12, true), (13, true), (14, true), (15, true)] 9999 (by kernel_rfl) (by kernel_rfl) (by kernel_rfl) (by kernel_rfl) (by kernel_rfl) (fun _ _ d _ _ h => by cases d <;> exact h) rfl (fun hHeld => ?_); simp only [List.map_cons, List.map_nil, List.getElem?_toArray, List.getElem?_cons_zero, List.getElem?_cons_succ]
      (repeat (first | (refine wpPlan.take (v := undef) (Or.inr ⟨by rfl, rfl⟩) ?_; simp only [Act.put, List.setIfInBounds_toArray, List.set_cons_zero, List.set_cons_succ]) | (refine wpPlan.take (v := ?_) (Or.inl ⟨by rfl, ?_⟩) ?_; rotate_left; (focus (intro _ hS; (try dsimp only at hS); go_split_ands; (try subst hS); go_simp; (try (with_reducible rfl)); done)); simp only [Act.put, List.setIfInBounds_toArray, List.set_cons_zero, List.set_cons_succ]))); refine wpPlan.done ?_; clear hHeld
      go_wp2_with fail
      go_ret
      have HR4 := Lib.hid (show RS x2.drew k (some ⟨b, q, none⟩) c bs pn 0 from HR3.out)
      have HO4 := Lib.hid (show Off k W x2.drew from HO3.out.trans ⟨rfl, rfl, rfl, Nat.le_refl _, fun _ _ _ => rfl⟩)
      have hpn2 : pn - p = n := by have := HPQ.out; omega
      exact ⟨.slice (some ⟨b, q + p, none⟩) n (c - p), pn, 0, by rw [← hpn2]; rfl, HR4.out, HO4.out, Or.inr ⟨trivial, HPN.out, rfl, HPQ.out, b, q + p, c - p, rfl, Nat.lt_of_lt_of_le HBK.out.1 HO4.out.size, HBK.out.2, fun i x hx => by
        rw [List.getElem?_drop] at hx
        rw [HO4.out.cell (p := ⟨b, q + p + i, none⟩) HBK.out.1 HBK.out.2, Nat.add_assoc]
        exact HC.out (p + i) x hx⟩⟩
    · have f1 : ((bs.length - p : Nat) : Int) < (n : Nat) := by omega
      have HPN := Lib.hid hp
      clear cz h
      go_enter Tryz.func96, Tryz.ntmps96
      go_upto_region 1 with fail
      refine wp_region_plan (S := fun w' => w' = World.drew W) [(0, true), (1, true), (2, true), (3, true), (4, true), (5, true), (6, true), (7, true), (8, true), (9, true), (10, true), (11, true), (12, true), (13, true), (14, true), (15, true), (16, true), (17, true), (18, true)] 9999 (by kernel_rfl) (by kernel_rfl) (by kernel_rfl) (by kernel_rfl) (by kernel_rfl) (fun _ _ d _ _ h => by cases d <;> exact h) rfl (fun hHeld => ?_); simp only [List.map_cons, List.map_nil, List.getElem?_toArray, List.getElem?_cons_zero, List.getElem?_cons_succ]
      (repeat (first | (refine wpPlan.take (v := undef) (Or.inr ⟨by rfl, rfl⟩) ?_; simp only [Act.put, List.setIfInBounds_toArray, List.set_cons_zero, List.set_cons_succ]) | (refine wpPlan.take (v := ?_) (Or.inl ⟨by rfl, ?_⟩) ?_; rotate_left; (focus (intro _ hS; (try dsimp only at hS); go_split_ands; (try subst hS); go_simp; (try (with_reducible rfl)); done)); simp only [Act.put, List.setIfInBounds_toArray, List.set_cons_zero, List.set_cons_succ]))); refine wpPlan.done ?_; clear hHeld
      go_wp2_with fail
      go_ret
      exact ⟨_, p, 8, rfl, (show RS W.drew k A c bs p 0 from HS.out).setE 8, (⟨rfl, rfl, rfl, Nat.le_refl _, fun _ _ _ => rfl⟩ : Off k W W.drew).set 2 _, Or.inl ⟨Or.inr (by have := HPN.out; omega), rfl, by decide⟩⟩
  · have f1 : (e == 0) = false := by simpa using he
    have f2 : (e != 0) = true := by simpa using he
    have HE := Lib.hid he
    clear cz h he z1 z2
    go_enter Tryz.func96, Tryz.ntmps96
    go_upto_region 1 with fail
    refine wp_region_plan (S := fun w' => w' = World.drew W) [(0, true), (1, true), (2, true), (3, true), (4, true), (5, true), (6, true), (7, true), (8, true), (9, true), (10, true), (11, true), (12, true), (13, true), (14, true), (15, true), (16, true), (17, true), (18, true)] 9999 (by kernel_rfl) (by kernel_rfl) (by kernel_rfl) (by kernel_rfl) (by kernel_rfl) (fun _ _ d _ _ h => by cases d <;> exact h) rfl (fun hHeld => ?_); simp only [List.map_cons, List.map_nil, List.getElem?_toArray, List.getElem?_cons_zero, List.getElem?_cons_succ]
    (repeat (first | (refine wpPlan.take (v := undef) (Or.inr ⟨by rfl, rfl⟩) ?_; simp only [Act.put, List.setIfInBounds_toArray, List.set_cons_zero, List.set_cons_succ]) | (refine wpPlan.take (v := ?_) (Or.inl ⟨by rfl, ?_⟩) ?_; rotate_left; (focus (intro _ hS; (try dsimp only at hS); go_split_ands; (try subst hS); go_simp; (try (with_reducible rfl)); done)); simp only [Act.put, List.setIfInBounds_toArray, List.set_cons_zero, List.set_cons_succ]))); refine wpPlan.done ?_; clear hHeld
    go_wp2_with fail
    go_ret
    exact ⟨_, p, e, rfl, HS.out, ⟨rfl, rfl, rfl, Nat.le_refl _, fun _ _ _ => rfl⟩, Or.inl ⟨Or.inl HE.out, rfl, HE.out⟩⟩
end
end Go.Proofs.YtgnfachjobohoaaGreat
namespace Go.Proofs.YtgnfachjobohoaaGreat
open Go.RowKit
set_option linter.unusedSimpArgs false
set_option linter.unusedVariables false
theorem floatP_y {bs : List Nat} (h : 8 ≤ bs.length) : floatP bs = .ok (Num.unkey (beN (bs.take 8)), bs.drop 8) := if_pos h
theorem floatP_n {bs : List Nat} (h : ¬ 8 ≤ bs.length) : floatP bs = .error 8 := if_neg h
section
variable (k c : Nat) (A : Option Addr) (bs : List Nat)
set_option maxRecDepth 20000 in
set_option maxHeartbeats 4000000 in
theorem reffloat_any (hlen : bs.length ≤ 140737488355328) (hc : bs.length ≤ c) (hby : ∀ x ∈ bs, x < 256) (p : Nat) (e : Int) (W : World) (h : RS W k A c bs p e) :
    Calls Tryz.prog 67 #[.pointer (some ⟨k, 0, none⟩)] W fun r W' => ∃ (v p' : Nat) (e' : Int), r = .returned (.float .f64 v) ∧ RS W' k A c bs p' e' ∧ Off k W W' ∧ PostP floatP bs p p' e e' (fun x => v = x) := by
  have hle := h.2.2
  go_enter Tryz.func67, Tryz.ntmps67
  go_wp2_with fail
  refine (refbytes_any k c A bs hlen hc 8 (by decide) (by decide) p e W h).mono ?_
  rintro r w1 ⟨v, p', e', rfl, hS, hO, hR⟩
  have HS := Lib.hid hS
  have HO := Lib.hid hO
  rcases hR with ⟨hbad, rfl, he'⟩ | ⟨rfl, h8, rfl, rfl, b, q, cc, rfl, hb, hbk, hcell⟩
  · have HE := Lib.hid he'
    have HBD := Lib.hid hbad
    have f2 : (e' != 0) = true := by simpa using he'
    obtain ⟨_, _, c2, _⟩ := hS.cells
    clear hS hO h he' hbad
    go_wp2_with fail
    go_loopw [4, 5] (fun x i wr => x = .int .u64 0 ∧ i = .int .i64 0 ∧ wr = w1) (fun _ _ _ => 0)
    case atStart => exact ⟨rfl, rfl, rfl⟩
    case round =>
      obtain ⟨rfl, rfl, rfl⟩ := hrel
      go_wp2_with fail
      go_ret
      refine ⟨0, p', e', rfl, HS.out, HO.out, fun _ => HE.out, fun h0 => ?_⟩
      rw [floatP_n (by rw [List.length_drop]; have := HBD.out; omega)]
      exact HE.out
  · obtain ⟨_, _, c2, _⟩ := hS.cells
    obtain ⟨l, hl⟩ : ∃ l, l = bs.drop p := ⟨_, rfl⟩
    have HL8 := Lib.hid (show 8 ≤ l.length from by rw [hl, List.length_drop]; omega)
    have HBY := Lib.hid (show ∀ x ∈ l, x < 256 from fun x hx => hby x (List.mem_of_mem_drop (hl ▸ hx)))
    rw [← hl] at hcell
    have HC := Lib.hid hcell
    have HLD := Lib.hid hl
    clear hS hO h hcell hb hbk hl
    go_wp2_with fail
    go_loopw [4, 5] (fun x i wr => ∃ j : Nat, j ≤ 8 ∧ i = .int .i64 (j : Nat) ∧ x = .int .u64 (beN (l.take j) : Nat) ∧ wr = w1) (fun _ i _ => 8 - (intOf i).toNat)
    case atStart => exact ⟨0, by omega, rfl, rfl, rfl⟩
    case round =>
      obtain ⟨j, hj, rfl, rfl, rfl⟩ := hrel
      have hl8 := HL8.out
      by_cases hlt : j < 8
      · have hjl : j < l.length := by omega
        obtain ⟨x, hx⟩ : ∃ x, x = l[j] := ⟨_, rfl⟩
        have hget : l[j]? = some x := by rw [hx]; exact List.getElem?_eq_getElem hjl
        have cx := HC.out j x hget
        have hx256 : x < 256 := by rw [hx]; exact HBY.out _ (List.getElem_mem hjl)
        have hB := beN_lt (l.take j) (fun y hy => HBY.out y (List.mem_of_mem_take hy))
        rw [List.length_take, Nat.min_eq_left (by omega)] at hB
        have hB2 : beN (l.take j) < 72057594037927936 := Nat.lt_of_lt_of_le hB (by have : 256 ^ j ≤ 256 ^ 7 := Nat.pow_le_pow_right (by decide) (by omega); exact this)
        have HN := Lib.hid (beN_take l j x hget)
        obtain ⟨B, hBB⟩ : ∃ B, B = beN (l.take j) := ⟨_, rfl⟩
        rw [← hBB] at hB2 HN ⊢
        have a1 : IntKind.u64.wrap (256 * (B : Int)) = 256 * (B : Int) := by rw [IntKind.wrap_u64]; omega
        have a2 : IntKind.u64.wrap (256 * (B : Int) + (x : Int)) = ((B * 256 + x : Nat) : Int) := by rw [IntKind.wrap_u64]; omega
        have a3 : IntKind.u64.wrap (x : Int) = (x : Int) := by rw [IntKind.wrap_u64]; omega
        have i1 : (j : Int) < 8 := by omega
        clear hB hBB hx hget hjl hx256 hB2
        go_wp2_with fail
        go_roundw
        case rel => exact ⟨j + 1, by omega, by go_num, by rw [HN.out]; exact congrArg (Value.int .u64) (by omega), trivial⟩
        case measure => simp [intOf]; omega
      · obtain rfl : j = 8 := by omega
        have hK : beN (l.take 8) < 18446744073709551616 := by
          have := beN_lt (l.take 8) (fun y hy => HBY.out y (List.mem_of_mem_take hy))
          rw [List.length_take, Nat.min_eq_left (by omega)] at this
          exact this
        have HK := Lib.hid hK
        clear hK hlt hl8
        go_wp2_with fail
        refine (Tot.rof_any _ _ HK.out).mono ?_
        rintro e w2 ⟨rfl, rfl⟩
        go_wp2_with fail
        go_ret
        exact ⟨Num.unkey (beN (l.take 8)), p + 8, 0, rfl, HS.out, HO.out, PostP.good (by rw [← HLD.out]; exact floatP_y HL8.out) rfl (by rw [HLD.out, List.drop_drop])⟩
theorem lv_bound {l : List Nat} (h : ∀ x ∈ l, x ≤ 4294967295) (i : Nat) : lv l i < 4294967296 := by
  unfold lv
  rcases Nat.lt_or_ge i l.length with h' | h'
  · rw [List.getD_eq_getElem?_getD, List.getElem?_eq_getElem h']
    have := h _ (List.getElem_mem h')
    show l[i] < _
    omega
  · rw [List.getD_eq_getElem?_getD, List.getElem?_eq_none h']
    decide
theorem vectorP_y {bs t : List Nat} {n : Nat} (h : smallP (12 : Nat) bs = .ok (n, t)) : vectorP bs = vecP [] n t := by
  have h' : smallP 12 bs = .ok (n, t) := h
  unfold vectorP
  rw [h']
theorem vectorP_e {bs : List Nat} {x : Int} (h : smallP (12 : Nat) bs = .error x) : vectorP bs = .error x := by
  have h' : smallP 12 bs = .error x := h
  unfold vectorP
  rw [h']
/-- Behind j numbers of a vector of n, with no fault: what is read, what is left. -/
def VecSt (n j : Nat) (t0 acc t : List Nat) : Prop :=
  acc.length = j ∧ (j < n → vecP [] n t0 = vecP acc (n - j) t) ∧ (j = n → if n = 0 ∨ 0 < lv acc (n - 1) then vecP [] n t0 = .ok (acc, t) else vecP [] n t0 = .error 3)
theorem lv_last (acc : List Nat) (v : Nat) : lv (acc ++ [v]) acc.length = v := by unfold lv; simp [List.getD]
theorem VecSt.next {n j v : Nat} {t0 acc t u : List Nat} (h : VecSt n j t0 acc t) (hj : j < n) (hp : numP true 0 t = .ok (v, u)) (hv : v ≤ 4294967295) : VecSt n (j + 1) t0 (acc ++ [v]) u := by
  obtain ⟨h1, h2, _⟩ := h
  have h2 := h2 hj
  have e : n - j = (n - (j + 1)) + 1 := by omega
  rw [e] at h2
  refine ⟨by rw [List.length_append, h1]; rfl, fun hlt => ?_, fun he => ?_⟩
  · rw [h2, vecP_next hp hv (Or.inr (by omega))]
  · subst he
    have hl : lv (acc ++ [v]) (j + 1 - 1) = v := by rw [Nat.add_sub_cancel, ← h1]; exact lv_last acc v
    rw [hl]
    rw [Nat.sub_self] at h2
    by_cases h0 : 0 < v
    · rw [if_pos (Or.inr h0), h2, vecP_next hp hv (Or.inl h0)]
      rfl
    · rw [if_neg (by omega), h2, vecP_none hp hv (by omega)]
theorem VecSt.err {n j : Nat} {t0 acc t : List Nat} {x : Int} (h : VecSt n j t0 acc t) (hj : j < n) (hp : smallP (4294967295 : Nat) t = .error x) : ∃ y, vecP [] n t0 = .error y := by
  have h2 := h.2.1 hj
  have e : n - j = (n - (j + 1)) + 1 := by omega
  rw [e] at h2
  cases hn : numP true 0 t with
  | error y => exact ⟨y, by rw [h2, vecP_err hn]⟩
  | ok vu =>
    obtain ⟨v, u⟩ := vu
    by_cases hv : v ≤ 4294967295
    · rw [smallP_y hn hv] at hp; cases hp
    · exact ⟨3, by rw [h2, vecP_big hn hv]⟩
set_option maxRecDepth 20000 in
set_option maxHeartbeats 8000000 in
theorem refvector_any (hlen : bs.length ≤ 140737488355328) (hby : ∀ x ∈ bs, x < 256) (p : Nat) (e : Int) (W : World) (h : RS W k A c bs p e) :
    Calls Tryz.prog 24 #[.pointer (some ⟨k, 0, none⟩)] W fun r W' => ∃ (l : List Nat) (p' : Nat) (e' : Int), r = .returned (.agg (vl (lv l)).toArray) ∧ RS W' k A c bs p' e' ∧ Off k W W' ∧ (∀ i, lv l i < 4294967296) ∧ PostP vectorP bs p p' e e' (fun x => l = x) := by
  have b1 : Below W.heap.size W ((W.alloc (.cells #[.int .u32 0, .int .u32 0, .int .u32 0, .int .u32 0, .int .u32 0, .int .u32 0, .int .u32 0, .int .u32 0, .int .u32 0, .int .u32 0, .int .u32 0, .int .u32 0] 24)).alloc (.cells #[.int .u32 0, .int .u32 0, .int .u32 0, .int .u32 0, .int .u32 0, .int .u32 0, .int .u32 0, .int .u32 0, .int .u32 0, .int .u32 0, .int .u32 0, .int .u32 0] 24)) := ((Below.refl _ W).alloc (Nat.le_refl _) _).alloc (by simp) _
  have hR0 := (Blk.new W 24 #[.int .u32 0, .int .u32 0, .int .u32 0, .int .u32 0, .int .u32 0, .int .u32 0, .int .u32 0, .int .u32 0, .int .u32 0, .int .u32 0, .int .u32 0, .int .u32 0]).alloc (.cells #[.int .u32 0, .int .u32 0, .int .u32 0, .int .u32 0, .int .u32 0, .int .u32 0, .int .u32 0, .int .u32 0, .int .u32 0, .int .u32 0, .int .u32 0, .int .u32 0] 24)
  have hG0 : Blk ((W.alloc (.cells #[.int .u32 0, .int .u32 0, .int .u32 0, .int .u32 0, .int .u32 0, .int .u32 0, .int .u32 0, .int .u32 0, .int .u32 0, .int .u32 0, .int .u32 0, .int .u32 0] 24)).alloc (.cells #[.int .u32 0, .int .u32 0, .int .u32 0, .int .u32 0, .int .u32 0, .int .u32 0, .int .u32 0, .int .u32 0, .int .u32 0, .int .u32 0, .int .u32 0, .int .u32 0] 24)) (W.heap.size + 1) 24 #[.int .u32 0, .int .u32 0, .int .u32 0, .int .u32 0, .int .u32 0, .int .u32 0, .int .u32 0, .int .u32 0, .int .u32 0, .int .u32 0, .int .u32 0, .int .u32 0] := Blk.new' (by simp)
  have hk := h.1.lt
  have HS0 := Lib.hid (h.next b1)
  have HKL := Lib.hid hk
  have HLOW := Lib.hid h.low
  go_enter Tryz.func24, Tryz.ntmps24
  go_upto_region 2 with fail
  obtain ⟨w0, hw0⟩ : ∃ w0, w0 = (W.alloc (.cells #[.int .u32 0, .int .u32 0, .int .u32 0, .int .u32 0, .int .u32 0, .int .u32 0, .int .u32 0, .int .u32 0, .int .u32 0, .int .u32 0, .int .u32 0, .int .u32 0] 24)).alloc (.cells #[.int .u32 0, .int .u32 0, .int .u32 0, .int .u32 0, .int .u32 0, .int .u32 0, .int .u32 0, .int .u32 0, .int .u32 0, .int .u32 0, .int .u32 0, .int .u32 0] 24) := ⟨_, rfl⟩
  rw [← hw0] at b1 hR0 hG0 HS0 ⊢
  clear hw0 h
  go_wp2_with fail
  refine (refsmall_any k c A bs hlen hby 12 (by decide) p e w0 HS0.out).mono ?_
  rintro r w1 ⟨n, p1, e1, rfl, hS, hO, hn12, hP⟩
  have HN12 := Lib.hid hn12
  have HP1 := Lib.hid hP
  have HR1 := Lib.hid (hO.blk hR0 (by omega))
  have HG1 := Lib.hid (hO.blk hG0 (by omega))
  have HO1 := Lib.hid ((Off.ofBelow b1).trans hO)
  have HS1 := Lib.hid hS
  obtain ⟨t0, ht0⟩ : ∃ t0, t0 = bs.drop p1 := ⟨_, rfl⟩
  have HT0 := Lib.hid ht0
  clear hS hO hP b1 hR0 hG0 HS0 ht0
  go_wp2_with fail
  go_loopw [5] (fun i wr => ∃ (j p2 : Nat) (e2 : Int) (acc : List Nat), j ≤ n ∧ i = .int .i64 (j : Nat) ∧ RS wr k A c bs p2 e2 ∧ Off k W wr ∧ Blk wr W.heap.size 24 #[.int .u32 0, .int .u32 0, .int .u32 0, .int .u32 0, .int .u32 0, .int .u32 0, .int .u32 0, .int .u32 0, .int .u32 0, .int .u32 0, .int .u32 0, .int .u32 0] ∧ acc.length = j ∧ (∀ x ∈ acc, x ≤ 4294967295) ∧ Blk wr (W.heap.size + 1) 24 (vl (lv acc)).toArray ∧ (e2 = 0 → e1 = 0 ∧ VecSt n j t0 acc (bs.drop p2)) ∧ (e2 ≠ 0 → e1 ≠ 0 ∨ ∃ y, vecP [] n t0 = .error y)) (fun i _ => n - (intOf i).toNat)
  case atStart =>
    refine ⟨0, p1, e1, [], Nat.zero_le _, rfl, HS1.out, HO1.out, HR1.out, rfl, (by simp), by rw [show lv [] = fun _ => 0 from rfl, vl_zero]; exact HG1.out, fun he => ⟨he, rfl, fun _ => by rw [HT0.out]; rfl, fun h0 => ?_⟩, fun he => Or.inl he⟩
    subst h0
    rw [if_pos (Or.inl rfl), HT0.out]
    rfl
  case round =>
    obtain ⟨j, p2, e2, acc, hj, rfl, hS, hO, hRb, hacc, hmem, hGb, hgood, hbad⟩ := hrel
    have HME := Lib.hid hmem
    clear hmem
    have HS2 := Lib.hid hS
    have HO2 := Lib.hid hO
    have HR2 := Lib.hid hRb
    have HG2 := Lib.hid hGb
    have HGD := Lib.hid hgood
    have HBD := Lib.hid hbad
    have HAC := Lib.hid hacc
    have hn12' := HN12.out
    clear hS hO hRb hGb hgood hbad hacc HR1 HG1 HO1 HS1
    by_cases hlt : j < n
    · have i1 : (j : Int) < (n : Nat) := by omega
      go_wp2_with fail
      refine (refsmall_any k c A bs hlen hby 4294967295 (by decide) p2 e2 wr HS2.out).mono ?_
      rintro r w3 ⟨v, p3, e3, rfl, hS, hO, hv, hP⟩
      have HS3 := Lib.hid hS
      have HO3 := Lib.hid (HO2.out.trans hO)
      have HR3 := Lib.hid (hO.blk HR2.out (by have := HKL.out; omega))
      have HG3 := Lib.hid (hO.blk HG2.out (by have := HKL.out; omega))
      have HP3 := Lib.hid hP
      have HV := Lib.hid hv
      have c3 := HG3.out.cell j
      rw [List.getElem?_toArray, vl_get (by omega)] at c3
      have z3 := HG3.out.frozen j
      have ew : IntKind.u32.wrap (v : Int) = (v : Int) := by rw [IntKind.wrap_u32]; omega
      have hj12 : (j : Int) < 12 := by omega
      clear hS hO hP hv HS2 HO2 HR2 HG2
      go_wp2_with fail
      go_roundw
      case rel =>
        have hs := HG3.out.setCell j (.int .u32 (v : Nat))
        rw [List.setIfInBounds_toArray, ← HAC.out, lv_snoc, HAC.out] at hs
        refine ⟨j + 1, p3, e3, acc ++ [v], by omega, by go_num, HS3.out.off ((Off.refl (W.heap.size + 1) _).set j _) (by have := HKL.out; omega) ?_, HO3.out.far (by omega) _ _, HR3.out.far (by show W.heap.size ≠ W.heap.size + 1; omega) _, by rw [List.length_append, HAC.out]; rfl, fun x hx => ?_, hs, fun he3 => ?_, fun he3 => ?_⟩
        · intro hbs b q hA hb
          have := HLOW.out hbs b q hA
          omega
        · rcases List.mem_append.1 hx with h | h
          · exact HME.out x h
          · rw [List.mem_singleton.1 h]; exact HV.out
        · have hP := HP3.out
          have h20 : e2 = 0 := by
            by_cases h : e2 = 0
            · exact h
            · exact absurd he3 (hP.1 h)
          obtain ⟨h10, hst⟩ := HGD.out h20
          have hP := hP.2 h20
          cases hsm : smallP (4294967295 : Nat) (bs.drop p2) with
          | error x => rw [hsm] at hP; exact absurd he3 hP
          | ok vt =>
            obtain ⟨x, t⟩ := vt
            rw [hsm] at hP
            obtain ⟨rfl, _, ht⟩ := hP
            refine ⟨h10, ?_⟩
            rw [ht]
            exact hst.next hlt (small_ok hsm).1 HV.out
        · by_cases h20 : e2 = 0
          · obtain ⟨h10, hst⟩ := HGD.out h20
            have hP := HP3.out.2 h20
            cases hsm : smallP (4294967295 : Nat) (bs.drop p2) with
            | error x => exact Or.inr (hst.err hlt hsm)
            | ok vt =>
              obtain ⟨x, t⟩ := vt
              rw [hsm] at hP
              exact absurd hP.2.1 he3
          · exact HBD.out h20
      case measure => simp [intOf]; omega
    · obtain rfl : j = n := by omega
      clear hlt
      have HSM := Lib.hid (show vectorP (bs.drop p) = match smallP (12 : Nat) (bs.drop p) with | .ok (n, t) => vecP [] n t | .error e => .error e from rfl)
      obtain ⟨_, _, c2, cz⟩ := HS2.out.cells
      have z2 := cz 2
      clear cz
      have hRZ : ∀ wx, Blk wx W.heap.size 24 #[.int .u32 0, .int .u32 0, .int .u32 0, .int .u32 0, .int .u32 0, .int .u32 0, .int .u32 0, .int .u32 0, .int .u32 0, .int .u32 0, .int .u32 0, .int .u32 0] → Blk (wx.setRow W.heap.size #[.int .u32 0, .int .u32 0, .int .u32 0, .int .u32 0, .int .u32 0, .int .u32 0, .int .u32 0, .int .u32 0, .int .u32 0, .int .u32 0, .int .u32 0, .int .u32 0]) W.heap.size 24 (vl (lv [])).toArray := fun wx h => by rw [show lv [] = fun _ => 0 from rfl, vl_zero]; exact h.setRow _
      by_cases he2 : e2 = 0
      · obtain ⟨he1, hst⟩ := HGD.out he2
        have he : e = 0 := by
          by_cases h : e = 0
          · exact h
          · exact absurd he1 (HP1.out.1 h)
        subst he2 he1 he
        have hvec : vectorP (bs.drop p) = vecP [] j t0 := by
          have hP := HP1.out.2 rfl
          rw [HSM.out]
          cases hsm : smallP (12 : Nat) (bs.drop p) with
          | error x => rw [hsm] at hP; exact absurd rfl hP
          | ok vt =>
            obtain ⟨x, t⟩ := vt
            rw [hsm] at hP
            obtain ⟨rfl, _, ht⟩ := hP
            rw [HT0.out, ht]
        have hlast := hst.2.2 rfl
        have HVEC := Lib.hid hvec
        have HLAST := Lib.hid hlast
        clear hst hvec hlast
        have hf : ∀ (cs : Array Value) (wx : World), Off k W wx → Off k W (wx.setRow W.heap.size cs) := fun cs wx hO => hO.turn (Nat.le_refl _) rfl rfl rfl (by simp) (fun j hj => setRow_other wx W.heap.size j cs hj)
        have hs : ∀ (cs : Array Value) (wx : World) (q : Nat) (x : Int), RS wx k A c bs q x → RS (wx.setRow W.heap.size cs) k A c bs q x := fun cs wx q x h => h.off (j := W.heap.size) ⟨rfl, rfl, rfl, by simp, fun j _ hj => setRow_other wx W.heap.size j cs hj⟩ (by have := HKL.out; omega) (fun hbs b q hA hb => by have := HLOW.out hbs b q hA; omega)
        rcases Nat.eq_zero_or_pos j with hj0 | hj0
        · have HOK := Lib.hid (show vecP [] j t0 = .ok (acc, bs.drop p2) from by have := HLAST.out; rwa [if_pos (Or.inl hj0)] at this)
          have i1 : ¬ (0 : Int) < (j : Nat) := by omega
          clear hj0 z2
          go_wp2_with (first | (refine wpList_load_blk rfl 24 _ rfl (W.heap.size + 1) rfl 24 (vl (lv acc)).toArray _ HG2.out Tryz.underlying24 rfl (vinfo _) ?_) | (refine wpList_store_blk rfl 24 _ _ rfl W.heap.size 24 #[.int .u32 0, .int .u32 0, .int .u32 0, .int .u32 0, .int .u32 0, .int .u32 0, .int .u32 0, .int .u32 0, .int .u32 0, .int .u32 0, .int .u32 0, .int .u32 0] (vl (lv acc)).toArray rfl rfl HR2.out (vinfo _) ((vl_size _).symm) (vl_all _) ?_; intro hrow))
          refine bodyPost_row (t := 24) (vl (lv acc)).toArray rfl rfl rfl Tryz.underlying24 rfl (vinfo _) hrow ?_
          exact ⟨acc, rfl, p2, 0, hs _ _ _ _ HS2.out, hf _ _ HO2.out, lv_bound HME.out, PostP.good (HVEC.out.trans HOK.out) rfl rfl⟩
        · have i1 : (0 : Int) < (j : Nat) := by omega
          have e1 : IntKind.i64.wrap ((j : Int) - 1) = ((j - 1 : Nat) : Int) := by rw [IntKind.wrap_i64]; omega
          obtain ⟨jm, hjm⟩ : ∃ jm, jm = j - 1 := ⟨_, rfl⟩
          rw [← hjm] at e1
          have cj := HG2.out.cell jm
          rw [List.getElem?_toArray, vl_get (by omega)] at cj
          have i2 : (jm : Int) < 12 := by omega
          have HJM := Lib.hid hjm
          have HJ0 := Lib.hid hj0
          obtain ⟨x, hx⟩ : ∃ x, x = lv acc jm := ⟨_, rfl⟩
          rw [← hx] at cj
          have HX := Lib.hid hx
          clear hjm hj0 hx
          by_cases hx0 : x = 0
          · have f1 : ((x : Int) == 0) = true := by simp; omega
            have HER := Lib.hid (show vecP [] j t0 = .error 3 from by have := HLAST.out; rwa [if_neg (by rw [← HJM.out, ← HX.out]; have := HJ0.out; omega)] at this)
            have hRR : Blk (wr.setCell ⟨k, 2, none⟩ (.int .i64 3)) W.heap.size 24 #[.int .u32 0, .int .u32 0, .int .u32 0, .int .u32 0, .int .u32 0, .int .u32 0, .int .u32 0, .int .u32 0, .int .u32 0, .int .u32 0, .int .u32 0, .int .u32 0] := HR2.out.far (by show W.heap.size ≠ k; have := HKL.out; omega) _
            clear hx0
            go_wp2_with (first | (refine wpList_store_blk rfl 24 _ _ rfl W.heap.size 24 #[.int .u32 0, .int .u32 0, .int .u32 0, .int .u32 0, .int .u32 0, .int .u32 0, .int .u32 0, .int .u32 0, .int .u32 0, .int .u32 0, .int .u32 0, .int .u32 0] #[.int .u32 0, .int .u32 0, .int .u32 0, .int .u32 0, .int .u32 0, .int .u32 0, .int .u32 0, .int .u32 0, .int .u32 0, .int .u32 0, .int .u32 0, .int .u32 0] rfl rfl hRR (by kernel_rfl) rfl (by kernel_rfl) ?_; intro hrow))
            refine bodyPost_row (t := 24) (vl (lv [])).toArray rfl rfl rfl Tryz.underlying24 rfl (vinfo _) (hRZ _ hRR) ?_
            exact ⟨[], rfl, p2, 3, hs _ _ _ _ (HS2.out.setE 3), hf _ _ (HO2.out.set 2 _), lv_bound (by simp), PostP.err (HVEC.out.trans HER.out) (by decide)⟩
          · have f1 : ((x : Int) == 0) = false := by simp; omega
            have HOK := Lib.hid (show vecP [] j t0 = .ok (acc, bs.drop p2) from by have := HLAST.out; rwa [if_pos (Or.inr (by rw [← HJM.out, ← HX.out]; omega))] at this)
            clear hx0 z2
            go_wp2_with (first | (refine wpList_load_blk rfl 24 _ rfl (W.heap.size + 1) rfl 24 (vl (lv acc)).toArray _ HG2.out Tryz.underlying24 rfl (vinfo _) ?_) | (refine wpList_store_blk rfl 24 _ _ rfl W.heap.size 24 #[.int .u32 0, .int .u32 0, .int .u32 0, .int .u32 0, .int .u32 0, .int .u32 0, .int .u32 0, .int .u32 0, .int .u32 0, .int .u32 0, .int .u32 0, .int .u32 0] (vl (lv acc)).toArray rfl rfl HR2.out (vinfo _) ((vl_size _).symm) (vl_all _) ?_; intro hrow))
            refine bodyPost_row (t := 24) (vl (lv acc)).toArray rfl rfl rfl Tryz.underlying24 rfl (vinfo _) hrow ?_
            exact ⟨acc, rfl, p2, 0, hs _ _ _ _ HS2.out, hf _ _ HO2.out, lv_bound HME.out, PostP.good (HVEC.out.trans HOK.out) rfl rfl⟩
      · have f1 : (e2 == 0) = false := by simpa using he2
        have f2 : (e2 != 0) = true := by simpa using he2
        have HE2 := Lib.hid he2
        have hRR := HR2.out
        clear he2 z2
        go_wp2_with (first | (refine wpList_store_blk rfl 24 _ _ rfl W.heap.size 24 #[.int .u32 0, .int .u32 0, .int .u32 0, .int .u32 0, .int .u32 0, .int .u32 0, .int .u32 0, .int .u32 0, .int .u32 0, .int .u32 0, .int .u32 0, .int .u32 0] #[.int .u32 0, .int .u32 0, .int .u32 0, .int .u32 0, .int .u32 0, .int .u32 0, .int .u32 0, .int .u32 0, .int .u32 0, .int .u32 0, .int .u32 0, .int .u32 0] rfl rfl hRR (by kernel_rfl) rfl (by kernel_rfl) ?_; intro hrow))
        refine bodyPost_row (t := 24) (vl (lv [])).toArray rfl rfl rfl Tryz.underlying24 rfl (vinfo _) (hRZ _ HR2.out) ?_
        have hf : ∀ (cs : Array Value) (wx : World), Off k W wx → Off k W (wx.setRow W.heap.size cs) := fun cs wx hO => hO.turn (Nat.le_refl _) rfl rfl rfl (by simp) (fun j hj => setRow_other wx W.heap.size j cs hj)
        have hs : ∀ (cs : Array Value) (wx : World) (q : Nat) (x : Int), RS wx k A c bs q x → RS (wx.setRow W.heap.size cs) k A c bs q x := fun cs wx q x h => h.off (j := W.heap.size) ⟨rfl, rfl, rfl, by simp, fun j _ hj => setRow_other wx W.heap.size j cs hj⟩ (by have := HKL.out; omega) (fun hbs b q hA hb => by have := HLOW.out hbs b q hA; omega)
        refine ⟨[], p2, e2, rfl, hs _ _ _ _ HS2.out, hf _ _ HO2.out, lv_bound (by simp), fun _ => HE2.out, fun he => ?_⟩
        have hP := HP1.out.2 he
        cases hsm : smallP (12 : Nat) (bs.drop p) with
        | error x => rw [vectorP_e hsm]; exact HE2.out
        | ok vt =>
          obtain ⟨x, t⟩ := vt
          rw [hsm] at hP
          obtain ⟨rfl, h10, ht⟩ := hP
          rcases HBD.out HE2.out with h | ⟨y, hy⟩
          · exact absurd h10 h
          · rw [HT0.out, ht] at hy
            rw [vectorP_y hsm, hy]
            exact HE2.out
end
end Go.Proofs.YtgnfachjobohoaaGreat
