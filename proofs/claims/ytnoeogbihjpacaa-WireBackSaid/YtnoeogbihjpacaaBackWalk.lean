/-
WireBack holds: of any parts, up to forty, what was written is read, part by part, and nothing is left; written again it is the same bytes; cut anywhere, it is too short. No condition.
-/
import Derived.Test.YtnoeogbihjpacaaBackLaw
namespace Go.Proofs.Ytnoeogbihjpacaa
open Go.ChangeShapes Go.WideShapes Go.ChangeAt Go.RowKit

theorem PartR.Ok.mono {W : World} {L L' : Nat} {p : PartR} (h : p.Ok W L) (hL : L ≤ L') : p.Ok W L' :=
  { h with cell := h.cell.imp id fun ⟨b, o, e, h1, h2⟩ => ⟨b, o, e, Nat.lt_of_lt_of_le h1 hL, h2⟩ }
theorem new_eq (W : World) : Calls Try.prog 12 #[] W fun e W' => e = .returned (.pointer (some ⟨W.heap.size, 0, none⟩)) ∧ W.alloc (.cells #[.slice none 0 0] 106) = W' := by
  go_enter Try.func12, Try.ntmps12
  go_wp2
  go_ret
  exact ⟨rfl, rfl⟩
/-- Behind j parts. -/
def BwAt (A : Option Addr) (c : Nat) (W wr : World) (l : List PartR) (j : Nat) : Prop :=
  Wtr wr (W.heap.size + 1) (W.heap.size + 1) ((l.take j).flatMap PartR.bytes) ∧ Below (W.heap.size + 1) (W.alloc (.cells #[.slice A l.length c] 22)) wr ∧ ∀ p ∈ l.take j, p.Good
theorem bad_part {p : PartR} (h : ¬ p.Good) (hg : greatB p = false) : (p.k = 1 ∧ (4611686018427387904 < p.i)) ∨ (p.k = 1 ∧ ¬ (4611686018427387904 < p.i) ∧ p.i < -4611686018427387904) ∨ p.k = 5 ∨ p.k = 6 ∨ (p.k = 2 ∧ p.mo < (p.m : Int)) := by
  by_cases h5 : p.k = 5
  · exact Or.inr (Or.inr (Or.inl h5))
  by_cases h6 : p.k = 6
  · exact Or.inr (Or.inr (Or.inr (Or.inl h6)))
  by_cases h1 : p.k = 1
  · by_cases ha : 4611686018427387904 < p.i
    · exact Or.inl ⟨h1, ha⟩
    · by_cases hb : p.i < -4611686018427387904
      · exact Or.inr (Or.inl ⟨h1, ha, hb⟩)
      · exact absurd ⟨fun _ => by omega, fun _ => by omega, h5, h6, fun e => by omega, by unfold greatB at hg; simpa using hg⟩ h
  · by_cases h2 : p.k = 2 ∧ p.mo < (p.m : Int)
    · exact Or.inr (Or.inr (Or.inr (Or.inr h2)))
    · exact absurd ⟨fun e => absurd e h1, fun e => absurd e h1, h5, h6, fun e => by omega, by unfold greatB at hg; simpa using hg⟩ h

set_option maxRecDepth 100000 in
set_option maxHeartbeats 16000000 in
theorem back_walk (A : Option Addr) (c : Nat) (l : List PartR) (cut : Int) (W : World) (hl : l.length ≤ 9223372036854775807) (hc1 : -9223372036854775808 ≤ cut) (hc2 : cut ≤ 9223372036854775807) (hA : Parts W A l) (hok : ∀ p ∈ l, p.Ok W W.heap.size) :
    Calls Try.prog 4 #[.slice A l.length c, .int .i64 cut] W fun e W' => e = .returned (.bool true) ∧ Below W.heap.size W W' := by
  have HA := Lib.hid hA
  have HOK := Lib.hid hok
  have HC := Lib.hid (And.intro hc1 hc2)
  have b0 : Below W.heap.size W (W.alloc (.cells #[.slice A l.length c] 22)) := (Below.refl _ W).alloc (Nat.le_refl _) _
  have HB0 := Lib.hid b0
  have HBX := Lib.hid (Blk.new W 22 #[.slice A l.length c])
  clear hA hok hc1 hc2 b0
  go_enter Try.func4, Try.ntmps4
  go_wp2_with (go_at_call 12; refine (new_any _).mono ?_; rintro e w1 ⟨rfl, hW1, hb1⟩; have HW1 := Lib.hid hW1; have HB1 := Lib.hid hb1; clear hW1 hb1)
  rw [show (W.alloc (.cells #[.slice A l.length c] 22)).heap.size = W.heap.size + 1 by simp] at HW1 HB1
  go_loopw [6] (fun i wr => ∃ j : Nat, j ≤ l.length ∧ j ≤ 40 ∧ i = .int .i64 j ∧ BwAt A c W wr l j) (fun i _ => l.length - (intOf i).toNat)
  case atStart => exact ⟨0, Nat.zero_le _, by omega, rfl, HW1.out, HB1.out, by simp⟩
  case round =>
    clear HW1 HB1
    obtain ⟨j, hj, hj40, rfl, hat⟩ := hrel
    have HAT := Lib.hid hat
    have q1 : wr.cell? ⟨W.heap.size, 0, none⟩ = some (.slice A l.length c) := (hat.2.1.cell (p := ⟨W.heap.size, 0, none⟩) (by show W.heap.size < W.heap.size + 1; omega)).trans ((HBX.out.cell 0).trans rfl)
    have HBR := Lib.hid (HB0.out.trans (hat.2.1.mono (by omega)))
    clear hat
    by_cases hgo : j < l.length ∧ j < 40
    case pos =>
      obtain ⟨hlt, h40⟩ := hgo
      have h40' : (j : Int) < 40 := by omega
      obtain ⟨p, hp⟩ : ∃ p, l[j]? = some p := ⟨_, List.getElem?_eq_getElem hlt⟩
      have HP := Lib.hid hp
      have hpm : p ∈ l := List.mem_of_getElem? hp
      have HPO := Lib.hid ((HOK.out p hpm).next HBR.out)
      have HPB := Lib.hid (And.intro (HOK.out p hpm).i1 (HOK.out p hpm).i2)
      obtain ⟨b, o, rfl, hb, hr⟩ := HA.out.resolve_left (by intro e; rw [e] at hlt; simp at hlt)
      have hrj := range_below (hr j hlt) HBR.out hb
      rw [(List.getElem?_eq_some_iff.1 hp).2] at hrj
      have HBW := Lib.hid (show b < wr.heap.size from Nat.lt_of_lt_of_le hb HBR.out.size)
      have HBX2 := Lib.hid (show W.heap.size < wr.heap.size by have := HAT.out.1.lt; omega)
      clear hr hp hpm hb h40 hj40
      have d0 := hrj 0 _ partC_0
      have d1 := hrj 1 _ partC_1
      have d2 := hrj 2 _ partC_2
      have d4 := hrj 4 _ partC_4
      rw [Nat.add_zero] at d0
      by_cases hgr : greatB p = true
      case pos =>
        have HGR := Lib.hid hgr
        clear hgr
        all_goals
          go_wp2_with fail
          refine wp_region_tree (S := (fun W' => W'.rangeAt b (o + j * 17) p.cells ∧ W'.cell? ⟨W.heap.size, 0, none⟩ = some (.slice (some ⟨b, o, none⟩) l.length c) ∧ W'.cell? ⟨b, o + j * 17, none⟩ = some (.int .i64 p.k) ∧ W'.cell? ⟨b, o + j * 17 + 1, none⟩ = some (.int .i64 p.i) ∧ W'.cell? ⟨b, o + j * 17 + 2, none⟩ = some (.int .i64 p.mo) ∧ W'.cell? ⟨b, o + j * 17 + 4, none⟩ = some (.slice p.A p.m p.c))) (.take 0 (.take 1 (.take 2 (.take 3 (.one 4 (.take 5 (.take 6 (.take 7 (.take 8 (.take 9 (.take 10 (.take 11 (.take 12 (.take 13 (.take 14 (.take 15 (.take 16 (.take 17 (.take 18 (.take 19 (.take 20 (.take 21 (.take 22 (.take 23 (.take 24 (.take 25 (.take 26 (.take 27 (.take 28 (.take 29 (.take 30 (.take 31 (.take 32 (.take 33 (.take 34 (.take 35 (.take 36 (.take 37 (.take 38 (.take 39 (.take 40 (.take 41 (.take 42 (.take 43 (.take 44 (.take 45 (.take 46 (.take 47 (.take 48 (.take 49 (.take 50 (.take 51 (.take 52 (.take 53 (.take 54 (.take 55 (.take 56 (.take 57 (.take 58 (.take 59 (.take 60 (.take 61 (.take 62 (.take 63 (.take 64 (.take 65 (.take 66 .nil))))))))))))))))))))))))))))))))))))))))))))))))))))))))))))))))))) 9999 (by kernel_rfl) (by kernel_rfl) (by kernel_rfl) (by kernel_rfl) (by kernel_rfl) (fun _ _ d _ _ h => by cases d <;> exact h) ?_ (fun hHeld => ?_); (focus (exact ⟨hrj, q1, d0, d1, d2, d4⟩)); simp only [Tree.map, List.getElem?_toArray]
          (repeat (first | (refine wpTree.take (v := undef) (Or.inr ⟨by rfl, rfl⟩) ?_; simp only [Act.put, List.setIfInBounds_toArray, List.set_cons_zero, List.set_cons_succ]) | (refine wpTree.take (v := .agg (p.cells).toArray) (yieldsIf_load_mid rfl 32 _ rfl _ _ rfl (p.cells) _ ?_ Try.underlying32 rfl (pinfo _)) ?_; (focus (intro _ hS; (try dsimp only at hS); go_split_ands; assumption)); simp only [Act.put, List.setIfInBounds_toArray, List.set_cons_zero, List.set_cons_succ]) | (refine wpTree.take (v := ?_) (Or.inl ⟨by rfl, ?_⟩) ?_; rotate_left; (focus (intro _ hS; (try dsimp only at hS); go_split_ands; (try subst hS); go_simp; (try (with_reducible rfl)); done)); simp only [Act.put, List.setIfInBounds_toArray, List.set_cons_zero, List.set_cons_succ])))
          refine wpTree.one (fun K hK => ?_)
          go_simp
          go_at_call 13
          refine (great_any p _).mono ?_
          rintro e w2 ⟨rfl, hb2⟩
          rw [HGR.out]
          have hb2' : Below wr.heap.size wr w2 := ⟨hb2.os, hb2.tape, hb2.output, hb2.size, hb2.block⟩
          have hc := fun (i : Nat) => hb2'.cell (p := ⟨b, i, none⟩) HBW.out
          have q2 := (hb2'.cell (p := ⟨W.heap.size, 0, none⟩) HBX2.out).trans q1
          have hr2 := range_below hrj hb2' HBW.out
          refine hK.out _ _ ⟨hr2, q2, (hc _).trans d0, (hc _).trans d1, (hc _).trans d2, (hc _).trans d4⟩ (fun _ => ?_)
          clear hK K
          (repeat (first | (refine wpTree.take (v := undef) (Or.inr ⟨by rfl, rfl⟩) ?_; simp only [Act.put, List.setIfInBounds_toArray, List.set_cons_zero, List.set_cons_succ]) | (refine wpTree.take (v := ?_) (Or.inl ⟨by rfl, ?_⟩) ?_; rotate_left; (focus (intro _ hS; (try dsimp only at hS); go_split_ands; (try subst hS); go_simp; (try (with_reducible rfl)); done)); simp only [Act.put, List.setIfInBounds_toArray, List.set_cons_zero, List.set_cons_succ])))
          refine wpTree.done ?_
          have HB2 := Lib.hid hb2'
          clear hHeld hb2 hb2' hc
          clear q2 hr2 hrj q1 d0 d1 d2 d4
          go_wp2_with (go_at_call 14; refine (alive_any _).mono ?_; rintro e wa ⟨rfl, hba⟩; have HBA := Lib.hid hba; clear hba)
          go_ret
          exact ⟨rfl, (HBR.out.trans (HB2.out.mono HBR.out.size)).trans (HBA.out.mono (Nat.le_trans HBR.out.size HB2.out.size))⟩
      have hgr : greatB p = false := by simpa using hgr
      have HGR := Lib.hid hgr
      by_cases hgood : p.Good
      case neg =>
        have hbad := bad_part hgood hgr
        clear hgood hgr
        rcases hbad with ⟨hk, hi⟩ | ⟨hk, hi, hi2⟩ | hk | hk | ⟨hk, hi⟩
        · rw [hk] at d0
          have hi' : decide (4611686018427387904 < p.i) = true := by simpa using hi
          clear hk hi
          go_wp2_with fail
          refine wp_region_tree (S := (fun W' => W'.rangeAt b (o + j * 17) p.cells ∧ W'.cell? ⟨W.heap.size, 0, none⟩ = some (.slice (some ⟨b, o, none⟩) l.length c) ∧ W'.cell? ⟨b, o + j * 17, none⟩ = some (.int .i64 1) ∧ W'.cell? ⟨b, o + j * 17 + 1, none⟩ = some (.int .i64 p.i) ∧ W'.cell? ⟨b, o + j * 17 + 2, none⟩ = some (.int .i64 p.mo) ∧ W'.cell? ⟨b, o + j * 17 + 4, none⟩ = some (.slice p.A p.m p.c))) (.take 0 (.take 1 (.take 2 (.take 3 (.one 4 (.take 5 (.take 6 (.take 7 (.take 8 (.take 9 (.take 10 (.take 11 (.take 12 (.take 13 (.take 14 (.take 15 (.take 16 (.take 17 (.take 18 (.take 19 (.take 20 (.take 21 (.take 22 (.take 23 (.take 24 (.take 25 (.take 26 (.take 27 (.take 28 (.take 29 (.take 30 (.take 31 (.take 32 (.take 33 (.take 34 (.take 35 (.take 36 (.take 37 (.take 38 (.take 39 (.take 40 (.take 41 (.take 42 (.take 43 (.take 44 (.take 45 (.take 46 (.take 47 (.take 48 (.take 49 (.take 50 (.take 51 (.take 52 (.take 53 (.take 54 (.take 55 (.take 56 (.take 57 (.take 58 (.take 59 (.take 60 (.take 61 (.take 62 (.take 63 (.take 64 (.take 65 (.take 66 .nil))))))))))))))))))))))))))))))))))))))))))))))))))))))))))))))))))) 9999 (by kernel_rfl) (by kernel_rfl) (by kernel_rfl) (by kernel_rfl) (by kernel_rfl) (fun _ _ d _ _ h => by cases d <;> exact h) ?_ (fun hHeld => ?_); (focus (exact ⟨hrj, q1, d0, d1, d2, d4⟩)); simp only [Tree.map, List.getElem?_toArray]
          (repeat (first | (refine wpTree.take (v := undef) (Or.inr ⟨by rfl, rfl⟩) ?_; simp only [Act.put, List.setIfInBounds_toArray, List.set_cons_zero, List.set_cons_succ]) | (refine wpTree.take (v := .agg (p.cells).toArray) (yieldsIf_load_mid rfl 32 _ rfl _ _ rfl (p.cells) _ ?_ Try.underlying32 rfl (pinfo _)) ?_; (focus (intro _ hS; (try dsimp only at hS); go_split_ands; assumption)); simp only [Act.put, List.setIfInBounds_toArray, List.set_cons_zero, List.set_cons_succ]) | (refine wpTree.take (v := ?_) (Or.inl ⟨by rfl, ?_⟩) ?_; rotate_left; (focus (intro _ hS; (try dsimp only at hS); go_split_ands; (try subst hS); go_simp; (try (with_reducible rfl)); done)); simp only [Act.put, List.setIfInBounds_toArray, List.set_cons_zero, List.set_cons_succ])))
          refine wpTree.one (fun K hK => ?_)
          go_simp
          go_at_call 13
          refine (great_any p _).mono ?_
          rintro e w2 ⟨rfl, hb2⟩
          rw [HGR.out]
          have hb2' : Below wr.heap.size wr w2 := ⟨hb2.os, hb2.tape, hb2.output, hb2.size, hb2.block⟩
          have hc := fun (i : Nat) => hb2'.cell (p := ⟨b, i, none⟩) HBW.out
          have q2 := (hb2'.cell (p := ⟨W.heap.size, 0, none⟩) HBX2.out).trans q1
          have hr2 := range_below hrj hb2' HBW.out
          refine hK.out _ _ ⟨hr2, q2, (hc _).trans d0, (hc _).trans d1, (hc _).trans d2, (hc _).trans d4⟩ (fun _ => ?_)
          clear hK K
          (repeat (first | (refine wpTree.take (v := undef) (Or.inr ⟨by rfl, rfl⟩) ?_; simp only [Act.put, List.setIfInBounds_toArray, List.set_cons_zero, List.set_cons_succ]) | (refine wpTree.take (v := ?_) (Or.inl ⟨by rfl, ?_⟩) ?_; rotate_left; (focus (intro _ hS; (try dsimp only at hS); go_split_ands; (try subst hS); go_simp; (try (with_reducible rfl)); done)); simp only [Act.put, List.setIfInBounds_toArray, List.set_cons_zero, List.set_cons_succ])))
          refine wpTree.done ?_
          have HB2 := Lib.hid hb2'
          clear hHeld hb2 hb2' hc
          clear q2 hr2 hrj q1 d0 d1 d2 d4
          go_wp2_with (go_at_call 14; refine (alive_any _).mono ?_; rintro e wa ⟨rfl, hba⟩; have HBA := Lib.hid hba; clear hba)
          go_ret
          exact ⟨rfl, (HBR.out.trans (HB2.out.mono HBR.out.size)).trans (HBA.out.mono (Nat.le_trans HBR.out.size HB2.out.size))⟩
        · rw [hk] at d0
          have hi' : decide (4611686018427387904 < p.i) = false := by simpa using hi
          have hi2' : decide (p.i < -4611686018427387904) = true := by simpa using hi2
          clear hk hi hi2
          go_wp2_with fail
          refine wp_region_tree (S := (fun W' => W'.rangeAt b (o + j * 17) p.cells ∧ W'.cell? ⟨W.heap.size, 0, none⟩ = some (.slice (some ⟨b, o, none⟩) l.length c) ∧ W'.cell? ⟨b, o + j * 17, none⟩ = some (.int .i64 1) ∧ W'.cell? ⟨b, o + j * 17 + 1, none⟩ = some (.int .i64 p.i) ∧ W'.cell? ⟨b, o + j * 17 + 2, none⟩ = some (.int .i64 p.mo) ∧ W'.cell? ⟨b, o + j * 17 + 4, none⟩ = some (.slice p.A p.m p.c))) (.take 0 (.take 1 (.take 2 (.take 3 (.one 4 (.take 5 (.take 6 (.take 7 (.take 8 (.take 9 (.take 10 (.take 11 (.take 12 (.take 13 (.take 14 (.take 15 (.take 16 (.take 17 (.take 18 (.take 19 (.take 20 (.take 21 (.take 22 (.take 23 (.take 24 (.take 25 (.take 26 (.take 27 (.take 28 (.take 29 (.take 30 (.take 31 (.take 32 (.take 33 (.take 34 (.take 35 (.take 36 (.take 37 (.take 38 (.take 39 (.take 40 (.take 41 (.take 42 (.take 43 (.take 44 (.take 45 (.take 46 (.take 47 (.take 48 (.take 49 (.take 50 (.take 51 (.take 52 (.take 53 (.take 54 (.take 55 (.take 56 (.take 57 (.take 58 (.take 59 (.take 60 (.take 61 (.take 62 (.take 63 (.take 64 (.take 65 (.take 66 .nil))))))))))))))))))))))))))))))))))))))))))))))))))))))))))))))))))) 9999 (by kernel_rfl) (by kernel_rfl) (by kernel_rfl) (by kernel_rfl) (by kernel_rfl) (fun _ _ d _ _ h => by cases d <;> exact h) ?_ (fun hHeld => ?_); (focus (exact ⟨hrj, q1, d0, d1, d2, d4⟩)); simp only [Tree.map, List.getElem?_toArray]
          (repeat (first | (refine wpTree.take (v := undef) (Or.inr ⟨by rfl, rfl⟩) ?_; simp only [Act.put, List.setIfInBounds_toArray, List.set_cons_zero, List.set_cons_succ]) | (refine wpTree.take (v := .agg (p.cells).toArray) (yieldsIf_load_mid rfl 32 _ rfl _ _ rfl (p.cells) _ ?_ Try.underlying32 rfl (pinfo _)) ?_; (focus (intro _ hS; (try dsimp only at hS); go_split_ands; assumption)); simp only [Act.put, List.setIfInBounds_toArray, List.set_cons_zero, List.set_cons_succ]) | (refine wpTree.take (v := ?_) (Or.inl ⟨by rfl, ?_⟩) ?_; rotate_left; (focus (intro _ hS; (try dsimp only at hS); go_split_ands; (try subst hS); go_simp; (try (with_reducible rfl)); done)); simp only [Act.put, List.setIfInBounds_toArray, List.set_cons_zero, List.set_cons_succ])))
          refine wpTree.one (fun K hK => ?_)
          go_simp
          go_at_call 13
          refine (great_any p _).mono ?_
          rintro e w2 ⟨rfl, hb2⟩
          rw [HGR.out]
          have hb2' : Below wr.heap.size wr w2 := ⟨hb2.os, hb2.tape, hb2.output, hb2.size, hb2.block⟩
          have hc := fun (i : Nat) => hb2'.cell (p := ⟨b, i, none⟩) HBW.out
          have q2 := (hb2'.cell (p := ⟨W.heap.size, 0, none⟩) HBX2.out).trans q1
          have hr2 := range_below hrj hb2' HBW.out
          refine hK.out _ _ ⟨hr2, q2, (hc _).trans d0, (hc _).trans d1, (hc _).trans d2, (hc _).trans d4⟩ (fun _ => ?_)
          clear hK K
          (repeat (first | (refine wpTree.take (v := undef) (Or.inr ⟨by rfl, rfl⟩) ?_; simp only [Act.put, List.setIfInBounds_toArray, List.set_cons_zero, List.set_cons_succ]) | (refine wpTree.take (v := ?_) (Or.inl ⟨by rfl, ?_⟩) ?_; rotate_left; (focus (intro _ hS; (try dsimp only at hS); go_split_ands; (try subst hS); go_simp; (try (with_reducible rfl)); done)); simp only [Act.put, List.setIfInBounds_toArray, List.set_cons_zero, List.set_cons_succ])))
          refine wpTree.done ?_
          have HB2 := Lib.hid hb2'
          clear hHeld hb2 hb2' hc
          clear q2 hr2 hrj q1 d0 d1 d2 d4
          go_wp2_with (go_at_call 14; refine (alive_any _).mono ?_; rintro e wa ⟨rfl, hba⟩; have HBA := Lib.hid hba; clear hba)
          go_ret
          exact ⟨rfl, (HBR.out.trans (HB2.out.mono HBR.out.size)).trans (HBA.out.mono (Nat.le_trans HBR.out.size HB2.out.size))⟩
        · rw [hk] at d0
          clear hk
          go_wp2_with fail
          refine wp_region_tree (S := (fun W' => W'.rangeAt b (o + j * 17) p.cells ∧ W'.cell? ⟨W.heap.size, 0, none⟩ = some (.slice (some ⟨b, o, none⟩) l.length c) ∧ W'.cell? ⟨b, o + j * 17, none⟩ = some (.int .i64 5) ∧ W'.cell? ⟨b, o + j * 17 + 1, none⟩ = some (.int .i64 p.i) ∧ W'.cell? ⟨b, o + j * 17 + 2, none⟩ = some (.int .i64 p.mo) ∧ W'.cell? ⟨b, o + j * 17 + 4, none⟩ = some (.slice p.A p.m p.c))) (.take 0 (.take 1 (.take 2 (.take 3 (.one 4 (.take 5 (.take 6 (.take 7 (.take 8 (.take 9 (.take 10 (.take 11 (.take 12 (.take 13 (.take 14 (.take 15 (.take 16 (.take 17 (.take 18 (.take 19 (.take 20 (.take 21 (.take 22 (.take 23 (.take 24 (.take 25 (.take 26 (.take 27 (.take 28 (.take 29 (.take 30 (.take 31 (.take 32 (.take 33 (.take 34 (.take 35 (.take 36 (.take 37 (.take 38 (.take 39 (.take 40 (.take 41 (.take 42 (.take 43 (.take 44 (.take 45 (.take 46 (.take 47 (.take 48 (.take 49 (.take 50 (.take 51 (.take 52 (.take 53 (.take 54 (.take 55 (.take 56 (.take 57 (.take 58 (.take 59 (.take 60 (.take 61 (.take 62 (.take 63 (.take 64 (.take 65 (.take 66 .nil))))))))))))))))))))))))))))))))))))))))))))))))))))))))))))))))))) 9999 (by kernel_rfl) (by kernel_rfl) (by kernel_rfl) (by kernel_rfl) (by kernel_rfl) (fun _ _ d _ _ h => by cases d <;> exact h) ?_ (fun hHeld => ?_); (focus (exact ⟨hrj, q1, d0, d1, d2, d4⟩)); simp only [Tree.map, List.getElem?_toArray]
          (repeat (first | (refine wpTree.take (v := undef) (Or.inr ⟨by rfl, rfl⟩) ?_; simp only [Act.put, List.setIfInBounds_toArray, List.set_cons_zero, List.set_cons_succ]) | (refine wpTree.take (v := .agg (p.cells).toArray) (yieldsIf_load_mid rfl 32 _ rfl _ _ rfl (p.cells) _ ?_ Try.underlying32 rfl (pinfo _)) ?_; (focus (intro _ hS; (try dsimp only at hS); go_split_ands; assumption)); simp only [Act.put, List.setIfInBounds_toArray, List.set_cons_zero, List.set_cons_succ]) | (refine wpTree.take (v := ?_) (Or.inl ⟨by rfl, ?_⟩) ?_; rotate_left; (focus (intro _ hS; (try dsimp only at hS); go_split_ands; (try subst hS); go_simp; (try (with_reducible rfl)); done)); simp only [Act.put, List.setIfInBounds_toArray, List.set_cons_zero, List.set_cons_succ])))
          refine wpTree.one (fun K hK => ?_)
          go_simp
          go_at_call 13
          refine (great_any p _).mono ?_
          rintro e w2 ⟨rfl, hb2⟩
          rw [HGR.out]
          have hb2' : Below wr.heap.size wr w2 := ⟨hb2.os, hb2.tape, hb2.output, hb2.size, hb2.block⟩
          have hc := fun (i : Nat) => hb2'.cell (p := ⟨b, i, none⟩) HBW.out
          have q2 := (hb2'.cell (p := ⟨W.heap.size, 0, none⟩) HBX2.out).trans q1
          have hr2 := range_below hrj hb2' HBW.out
          refine hK.out _ _ ⟨hr2, q2, (hc _).trans d0, (hc _).trans d1, (hc _).trans d2, (hc _).trans d4⟩ (fun _ => ?_)
          clear hK K
          (repeat (first | (refine wpTree.take (v := undef) (Or.inr ⟨by rfl, rfl⟩) ?_; simp only [Act.put, List.setIfInBounds_toArray, List.set_cons_zero, List.set_cons_succ]) | (refine wpTree.take (v := ?_) (Or.inl ⟨by rfl, ?_⟩) ?_; rotate_left; (focus (intro _ hS; (try dsimp only at hS); go_split_ands; (try subst hS); go_simp; (try (with_reducible rfl)); done)); simp only [Act.put, List.setIfInBounds_toArray, List.set_cons_zero, List.set_cons_succ])))
          refine wpTree.done ?_
          have HB2 := Lib.hid hb2'
          clear hHeld hb2 hb2' hc
          clear q2 hr2 hrj q1 d0 d1 d2 d4
          go_wp2_with (go_at_call 14; refine (alive_any _).mono ?_; rintro e wa ⟨rfl, hba⟩; have HBA := Lib.hid hba; clear hba)
          go_ret
          exact ⟨rfl, (HBR.out.trans (HB2.out.mono HBR.out.size)).trans (HBA.out.mono (Nat.le_trans HBR.out.size HB2.out.size))⟩
        · rw [hk] at d0
          clear hk
          go_wp2_with fail
          refine wp_region_tree (S := (fun W' => W'.rangeAt b (o + j * 17) p.cells ∧ W'.cell? ⟨W.heap.size, 0, none⟩ = some (.slice (some ⟨b, o, none⟩) l.length c) ∧ W'.cell? ⟨b, o + j * 17, none⟩ = some (.int .i64 6) ∧ W'.cell? ⟨b, o + j * 17 + 1, none⟩ = some (.int .i64 p.i) ∧ W'.cell? ⟨b, o + j * 17 + 2, none⟩ = some (.int .i64 p.mo) ∧ W'.cell? ⟨b, o + j * 17 + 4, none⟩ = some (.slice p.A p.m p.c))) (.take 0 (.take 1 (.take 2 (.take 3 (.one 4 (.take 5 (.take 6 (.take 7 (.take 8 (.take 9 (.take 10 (.take 11 (.take 12 (.take 13 (.take 14 (.take 15 (.take 16 (.take 17 (.take 18 (.take 19 (.take 20 (.take 21 (.take 22 (.take 23 (.take 24 (.take 25 (.take 26 (.take 27 (.take 28 (.take 29 (.take 30 (.take 31 (.take 32 (.take 33 (.take 34 (.take 35 (.take 36 (.take 37 (.take 38 (.take 39 (.take 40 (.take 41 (.take 42 (.take 43 (.take 44 (.take 45 (.take 46 (.take 47 (.take 48 (.take 49 (.take 50 (.take 51 (.take 52 (.take 53 (.take 54 (.take 55 (.take 56 (.take 57 (.take 58 (.take 59 (.take 60 (.take 61 (.take 62 (.take 63 (.take 64 (.take 65 (.take 66 .nil))))))))))))))))))))))))))))))))))))))))))))))))))))))))))))))))))) 9999 (by kernel_rfl) (by kernel_rfl) (by kernel_rfl) (by kernel_rfl) (by kernel_rfl) (fun _ _ d _ _ h => by cases d <;> exact h) ?_ (fun hHeld => ?_); (focus (exact ⟨hrj, q1, d0, d1, d2, d4⟩)); simp only [Tree.map, List.getElem?_toArray]
          (repeat (first | (refine wpTree.take (v := undef) (Or.inr ⟨by rfl, rfl⟩) ?_; simp only [Act.put, List.setIfInBounds_toArray, List.set_cons_zero, List.set_cons_succ]) | (refine wpTree.take (v := .agg (p.cells).toArray) (yieldsIf_load_mid rfl 32 _ rfl _ _ rfl (p.cells) _ ?_ Try.underlying32 rfl (pinfo _)) ?_; (focus (intro _ hS; (try dsimp only at hS); go_split_ands; assumption)); simp only [Act.put, List.setIfInBounds_toArray, List.set_cons_zero, List.set_cons_succ]) | (refine wpTree.take (v := ?_) (Or.inl ⟨by rfl, ?_⟩) ?_; rotate_left; (focus (intro _ hS; (try dsimp only at hS); go_split_ands; (try subst hS); go_simp; (try (with_reducible rfl)); done)); simp only [Act.put, List.setIfInBounds_toArray, List.set_cons_zero, List.set_cons_succ])))
          refine wpTree.one (fun K hK => ?_)
          go_simp
          go_at_call 13
          refine (great_any p _).mono ?_
          rintro e w2 ⟨rfl, hb2⟩
          rw [HGR.out]
          have hb2' : Below wr.heap.size wr w2 := ⟨hb2.os, hb2.tape, hb2.output, hb2.size, hb2.block⟩
          have hc := fun (i : Nat) => hb2'.cell (p := ⟨b, i, none⟩) HBW.out
          have q2 := (hb2'.cell (p := ⟨W.heap.size, 0, none⟩) HBX2.out).trans q1
          have hr2 := range_below hrj hb2' HBW.out
          refine hK.out _ _ ⟨hr2, q2, (hc _).trans d0, (hc _).trans d1, (hc _).trans d2, (hc _).trans d4⟩ (fun _ => ?_)
          clear hK K
          (repeat (first | (refine wpTree.take (v := undef) (Or.inr ⟨by rfl, rfl⟩) ?_; simp only [Act.put, List.setIfInBounds_toArray, List.set_cons_zero, List.set_cons_succ]) | (refine wpTree.take (v := ?_) (Or.inl ⟨by rfl, ?_⟩) ?_; rotate_left; (focus (intro _ hS; (try dsimp only at hS); go_split_ands; (try subst hS); go_simp; (try (with_reducible rfl)); done)); simp only [Act.put, List.setIfInBounds_toArray, List.set_cons_zero, List.set_cons_succ])))
          refine wpTree.done ?_
          have HB2 := Lib.hid hb2'
          clear hHeld hb2 hb2' hc
          clear q2 hr2 hrj q1 d0 d1 d2 d4
          go_wp2_with (go_at_call 14; refine (alive_any _).mono ?_; rintro e wa ⟨rfl, hba⟩; have HBA := Lib.hid hba; clear hba)
          go_ret
          exact ⟨rfl, (HBR.out.trans (HB2.out.mono HBR.out.size)).trans (HBA.out.mono (Nat.le_trans HBR.out.size HB2.out.size))⟩
        · rw [hk] at d0
          have hi' : decide (p.mo < (p.m : Int)) = true := by simpa using hi
          clear hk hi
          go_wp2_with fail
          refine wp_region_tree (S := (fun W' => W'.rangeAt b (o + j * 17) p.cells ∧ W'.cell? ⟨W.heap.size, 0, none⟩ = some (.slice (some ⟨b, o, none⟩) l.length c) ∧ W'.cell? ⟨b, o + j * 17, none⟩ = some (.int .i64 2) ∧ W'.cell? ⟨b, o + j * 17 + 1, none⟩ = some (.int .i64 p.i) ∧ W'.cell? ⟨b, o + j * 17 + 2, none⟩ = some (.int .i64 p.mo) ∧ W'.cell? ⟨b, o + j * 17 + 4, none⟩ = some (.slice p.A p.m p.c))) (.take 0 (.take 1 (.take 2 (.take 3 (.one 4 (.take 5 (.take 6 (.take 7 (.take 8 (.take 9 (.take 10 (.take 11 (.take 12 (.take 13 (.take 14 (.take 15 (.take 16 (.take 17 (.take 18 (.take 19 (.take 20 (.take 21 (.take 22 (.take 23 (.take 24 (.take 25 (.take 26 (.take 27 (.take 28 (.take 29 (.take 30 (.take 31 (.take 32 (.take 33 (.take 34 (.take 35 (.take 36 (.take 37 (.take 38 (.take 39 (.take 40 (.take 41 (.take 42 (.take 43 (.take 44 (.take 45 (.take 46 (.take 47 (.take 48 (.take 49 (.take 50 (.take 51 (.take 52 (.take 53 (.take 54 (.take 55 (.take 56 (.take 57 (.take 58 (.take 59 (.take 60 (.take 61 (.take 62 (.take 63 (.take 64 (.take 65 (.take 66 .nil))))))))))))))))))))))))))))))))))))))))))))))))))))))))))))))))))) 9999 (by kernel_rfl) (by kernel_rfl) (by kernel_rfl) (by kernel_rfl) (by kernel_rfl) (fun _ _ d _ _ h => by cases d <;> exact h) ?_ (fun hHeld => ?_); (focus (exact ⟨hrj, q1, d0, d1, d2, d4⟩)); simp only [Tree.map, List.getElem?_toArray]
          (repeat (first | (refine wpTree.take (v := undef) (Or.inr ⟨by rfl, rfl⟩) ?_; simp only [Act.put, List.setIfInBounds_toArray, List.set_cons_zero, List.set_cons_succ]) | (refine wpTree.take (v := .agg (p.cells).toArray) (yieldsIf_load_mid rfl 32 _ rfl _ _ rfl (p.cells) _ ?_ Try.underlying32 rfl (pinfo _)) ?_; (focus (intro _ hS; (try dsimp only at hS); go_split_ands; assumption)); simp only [Act.put, List.setIfInBounds_toArray, List.set_cons_zero, List.set_cons_succ]) | (refine wpTree.take (v := ?_) (Or.inl ⟨by rfl, ?_⟩) ?_; rotate_left; (focus (intro _ hS; (try dsimp only at hS); go_split_ands; (try subst hS); go_simp; (try (with_reducible rfl)); done)); simp only [Act.put, List.setIfInBounds_toArray, List.set_cons_zero, List.set_cons_succ])))
          refine wpTree.one (fun K hK => ?_)
          go_simp
          go_at_call 13
          refine (great_any p _).mono ?_
          rintro e w2 ⟨rfl, hb2⟩
          rw [HGR.out]
          have hb2' : Below wr.heap.size wr w2 := ⟨hb2.os, hb2.tape, hb2.output, hb2.size, hb2.block⟩
          have hc := fun (i : Nat) => hb2'.cell (p := ⟨b, i, none⟩) HBW.out
          have q2 := (hb2'.cell (p := ⟨W.heap.size, 0, none⟩) HBX2.out).trans q1
          have hr2 := range_below hrj hb2' HBW.out
          refine hK.out _ _ ⟨hr2, q2, (hc _).trans d0, (hc _).trans d1, (hc _).trans d2, (hc _).trans d4⟩ (fun _ => ?_)
          clear hK K
          (repeat (first | (refine wpTree.take (v := undef) (Or.inr ⟨by rfl, rfl⟩) ?_; simp only [Act.put, List.setIfInBounds_toArray, List.set_cons_zero, List.set_cons_succ]) | (refine wpTree.take (v := ?_) (Or.inl ⟨by rfl, ?_⟩) ?_; rotate_left; (focus (intro _ hS; (try dsimp only at hS); go_split_ands; (try subst hS); go_simp; (try (with_reducible rfl)); done)); simp only [Act.put, List.setIfInBounds_toArray, List.set_cons_zero, List.set_cons_succ])))
          refine wpTree.done ?_
          have HB2 := Lib.hid hb2'
          clear hHeld hb2 hb2' hc
          clear q2 hr2 hrj q1 d0 d1 d2 d4
          go_wp2_with (go_at_call 14; refine (alive_any _).mono ?_; rintro e wa ⟨rfl, hba⟩; have HBA := Lib.hid hba; clear hba)
          go_ret
          exact ⟨rfl, (HBR.out.trans (HB2.out.mono HBR.out.size)).trans (HBA.out.mono (Nat.le_trans HBR.out.size HB2.out.size))⟩
      clear hgr
      have HGD := Lib.hid hgood
      have HPO2 := Lib.hid (fun (w2 : World) (h : Below W.heap.size W w2) => ((HOK.out p (List.mem_of_getElem? HP.out)).next h).mono (Nat.le_succ _))
      have HLEN := Lib.hid (show ((l.take j).flatMap PartR.bytes).length ≤ 510 * 40 by
        have h1 := parts_len (l.take j) (fun q hq => HOK.out q (List.mem_of_mem_take hq)) (fun q hq => (HAT.out.2.2 q hq).m)
        have h2 := List.length_take_le j l
        omega)
      have hk3 : p.k = 1 ∨ p.k = 2 ∨ (p.k ≠ 1 ∧ p.k ≠ 2) := by omega
      have hk5 := hgood.k5
      have hk6 := hgood.k6
      clear hgood
      rcases hk3 with hk | hk | ⟨hk1, hk2⟩
      · rw [hk] at d0
        have hi1 : decide (4611686018427387904 < p.i) = false := by have := HGD.out.i2 hk; rw [decide_eq_false_iff_not]; omega
        have hi2 : decide (p.i < -4611686018427387904) = false := by have := HGD.out.i1 hk; rw [decide_eq_false_iff_not]; omega
        clear hk hk5 hk6
        go_wp2_with fail
        refine wp_region_tree (S := (fun W' => W'.rangeAt b (o + j * 17) p.cells ∧ W'.cell? ⟨W.heap.size, 0, none⟩ = some (.slice (some ⟨b, o, none⟩) l.length c) ∧ W'.cell? ⟨b, o + j * 17, none⟩ = some (.int .i64 1) ∧ W'.cell? ⟨b, o + j * 17 + 1, none⟩ = some (.int .i64 p.i) ∧ W'.cell? ⟨b, o + j * 17 + 2, none⟩ = some (.int .i64 p.mo) ∧ W'.cell? ⟨b, o + j * 17 + 4, none⟩ = some (.slice p.A p.m p.c))) (.take 0 (.take 1 (.take 2 (.take 3 (.one 4 (.take 5 (.take 6 (.take 7 (.take 8 (.take 9 (.take 10 (.take 11 (.take 12 (.take 13 (.take 14 (.take 15 (.take 16 (.take 17 (.take 18 (.take 19 (.take 20 (.take 21 (.take 22 (.take 23 (.take 24 (.take 25 (.take 26 (.take 27 (.take 28 (.take 29 (.take 30 (.take 31 (.take 32 (.take 33 (.take 34 (.take 35 (.take 36 (.take 37 (.take 38 (.take 39 (.take 40 (.take 41 (.take 42 (.take 43 (.take 44 (.take 45 (.take 46 (.take 47 (.take 48 (.take 49 (.take 50 (.take 51 (.take 52 (.take 53 (.take 54 (.take 55 (.take 56 (.take 57 (.take 58 (.take 59 (.take 60 (.take 61 (.take 62 (.take 63 (.take 64 (.take 65 (.take 66 .nil))))))))))))))))))))))))))))))))))))))))))))))))))))))))))))))))))) 9999 (by kernel_rfl) (by kernel_rfl) (by kernel_rfl) (by kernel_rfl) (by kernel_rfl) (fun _ _ d _ _ h => by cases d <;> exact h) ?_ (fun hHeld => ?_); (focus (exact ⟨hrj, q1, d0, d1, d2, d4⟩)); simp only [Tree.map, List.getElem?_toArray]
        (repeat (first | (refine wpTree.take (v := undef) (Or.inr ⟨by rfl, rfl⟩) ?_; simp only [Act.put, List.setIfInBounds_toArray, List.set_cons_zero, List.set_cons_succ]) | (refine wpTree.take (v := .agg (p.cells).toArray) (yieldsIf_load_mid rfl 32 _ rfl _ _ rfl (p.cells) _ ?_ Try.underlying32 rfl (pinfo _)) ?_; (focus (intro _ hS; (try dsimp only at hS); go_split_ands; assumption)); simp only [Act.put, List.setIfInBounds_toArray, List.set_cons_zero, List.set_cons_succ]) | (refine wpTree.take (v := ?_) (Or.inl ⟨by rfl, ?_⟩) ?_; rotate_left; (focus (intro _ hS; (try dsimp only at hS); go_split_ands; (try subst hS); go_simp; (try (with_reducible rfl)); done)); simp only [Act.put, List.setIfInBounds_toArray, List.set_cons_zero, List.set_cons_succ])))
        refine wpTree.one (fun K hK => ?_)
        go_simp
        go_at_call 13
        refine (great_any p _).mono ?_
        rintro e w2 ⟨rfl, hb2⟩
        rw [HGR.out]
        have hb2' : Below wr.heap.size wr w2 := ⟨hb2.os, hb2.tape, hb2.output, hb2.size, hb2.block⟩
        have hc := fun (i : Nat) => hb2'.cell (p := ⟨b, i, none⟩) HBW.out
        have q2 := (hb2'.cell (p := ⟨W.heap.size, 0, none⟩) HBX2.out).trans q1
        have hr2 := range_below hrj hb2' HBW.out
        refine hK.out _ _ ⟨hr2, q2, (hc _).trans d0, (hc _).trans d1, (hc _).trans d2, (hc _).trans d4⟩ (fun _ => ?_)
        clear hK K
        (repeat (first | (refine wpTree.take (v := undef) (Or.inr ⟨by rfl, rfl⟩) ?_; simp only [Act.put, List.setIfInBounds_toArray, List.set_cons_zero, List.set_cons_succ]) | (refine wpTree.take (v := ?_) (Or.inl ⟨by rfl, ?_⟩) ?_; rotate_left; (focus (intro _ hS; (try dsimp only at hS); go_split_ands; (try subst hS); go_simp; (try (with_reducible rfl)); done)); simp only [Act.put, List.setIfInBounds_toArray, List.set_cons_zero, List.set_cons_succ])))
        refine wpTree.done ?_
        have HB2 := Lib.hid hb2'
        clear hHeld hb2 hb2' hc
        clear hrj q1 d0 d1 d2 d4
        go_wp2_with (first | (refine wpList_load_mid rfl 32 _ rfl _ _ rfl (p).cells _ ?_ Try.underlying32 rfl (pinfo _) ?_; (focus assumption)))
        refine (put_wtr p (W.heap.size + 1) (W.heap.size + 1) _ w2 (HAT.out.1.next HB2.out) (HPO2.out w2 (HBR.out.trans (HB2.out.mono HBR.out.size))) HGD.out.m (by have := HLEN.out; omega)).mono ?_
        clear q2 hr2
        rintro e w3 ⟨v3, X3, rfl, ⟨hX3, hO3⟩, hM3⟩
        have HW3 := Lib.hid (hX3.next hM3.2)
        have HB3 := Lib.hid (((HAT.out.2.1.trans (HB2.out.mono (Nat.le_trans HAT.out.1.1 (Nat.le_of_lt HAT.out.1.lt)))).trans hO3.1).trans (hM3.2.mono (Nat.le_trans hX3.1 (Nat.le_of_lt hX3.lt))))
        clear hX3 hO3 hM3
        go_wp2_with fail
        go_roundw
        case rel =>
          refine ⟨j + 1, by omega, by omega, by go_num, ?_, HB3.out, ?_⟩
          · rw [parts_take l j p HP.out]; exact HW3.out
          · intro q hq
            rw [List.take_add_one, HP.out] at hq
            rcases List.mem_append.1 hq with h1 | h1
            · exact HAT.out.2.2 q h1
            · simp at h1; subst h1; exact HGD.out
        case measure => simp [intOf]; omega
      · rw [hk] at d0
        have hi1 : decide (p.mo < (p.m : Int)) = false := by have := HGD.out.mo hk; rw [decide_eq_false_iff_not]; omega
        clear hk hk5 hk6
        go_wp2_with fail
        refine wp_region_tree (S := (fun W' => W'.rangeAt b (o + j * 17) p.cells ∧ W'.cell? ⟨W.heap.size, 0, none⟩ = some (.slice (some ⟨b, o, none⟩) l.length c) ∧ W'.cell? ⟨b, o + j * 17, none⟩ = some (.int .i64 2) ∧ W'.cell? ⟨b, o + j * 17 + 1, none⟩ = some (.int .i64 p.i) ∧ W'.cell? ⟨b, o + j * 17 + 2, none⟩ = some (.int .i64 p.mo) ∧ W'.cell? ⟨b, o + j * 17 + 4, none⟩ = some (.slice p.A p.m p.c))) (.take 0 (.take 1 (.take 2 (.take 3 (.one 4 (.take 5 (.take 6 (.take 7 (.take 8 (.take 9 (.take 10 (.take 11 (.take 12 (.take 13 (.take 14 (.take 15 (.take 16 (.take 17 (.take 18 (.take 19 (.take 20 (.take 21 (.take 22 (.take 23 (.take 24 (.take 25 (.take 26 (.take 27 (.take 28 (.take 29 (.take 30 (.take 31 (.take 32 (.take 33 (.take 34 (.take 35 (.take 36 (.take 37 (.take 38 (.take 39 (.take 40 (.take 41 (.take 42 (.take 43 (.take 44 (.take 45 (.take 46 (.take 47 (.take 48 (.take 49 (.take 50 (.take 51 (.take 52 (.take 53 (.take 54 (.take 55 (.take 56 (.take 57 (.take 58 (.take 59 (.take 60 (.take 61 (.take 62 (.take 63 (.take 64 (.take 65 (.take 66 .nil))))))))))))))))))))))))))))))))))))))))))))))))))))))))))))))))))) 9999 (by kernel_rfl) (by kernel_rfl) (by kernel_rfl) (by kernel_rfl) (by kernel_rfl) (fun _ _ d _ _ h => by cases d <;> exact h) ?_ (fun hHeld => ?_); (focus (exact ⟨hrj, q1, d0, d1, d2, d4⟩)); simp only [Tree.map, List.getElem?_toArray]
        (repeat (first | (refine wpTree.take (v := undef) (Or.inr ⟨by rfl, rfl⟩) ?_; simp only [Act.put, List.setIfInBounds_toArray, List.set_cons_zero, List.set_cons_succ]) | (refine wpTree.take (v := .agg (p.cells).toArray) (yieldsIf_load_mid rfl 32 _ rfl _ _ rfl (p.cells) _ ?_ Try.underlying32 rfl (pinfo _)) ?_; (focus (intro _ hS; (try dsimp only at hS); go_split_ands; assumption)); simp only [Act.put, List.setIfInBounds_toArray, List.set_cons_zero, List.set_cons_succ]) | (refine wpTree.take (v := ?_) (Or.inl ⟨by rfl, ?_⟩) ?_; rotate_left; (focus (intro _ hS; (try dsimp only at hS); go_split_ands; (try subst hS); go_simp; (try (with_reducible rfl)); done)); simp only [Act.put, List.setIfInBounds_toArray, List.set_cons_zero, List.set_cons_succ])))
        refine wpTree.one (fun K hK => ?_)
        go_simp
        go_at_call 13
        refine (great_any p _).mono ?_
        rintro e w2 ⟨rfl, hb2⟩
        rw [HGR.out]
        have hb2' : Below wr.heap.size wr w2 := ⟨hb2.os, hb2.tape, hb2.output, hb2.size, hb2.block⟩
        have hc := fun (i : Nat) => hb2'.cell (p := ⟨b, i, none⟩) HBW.out
        have q2 := (hb2'.cell (p := ⟨W.heap.size, 0, none⟩) HBX2.out).trans q1
        have hr2 := range_below hrj hb2' HBW.out
        refine hK.out _ _ ⟨hr2, q2, (hc _).trans d0, (hc _).trans d1, (hc _).trans d2, (hc _).trans d4⟩ (fun _ => ?_)
        clear hK K
        (repeat (first | (refine wpTree.take (v := undef) (Or.inr ⟨by rfl, rfl⟩) ?_; simp only [Act.put, List.setIfInBounds_toArray, List.set_cons_zero, List.set_cons_succ]) | (refine wpTree.take (v := ?_) (Or.inl ⟨by rfl, ?_⟩) ?_; rotate_left; (focus (intro _ hS; (try dsimp only at hS); go_split_ands; (try subst hS); go_simp; (try (with_reducible rfl)); done)); simp only [Act.put, List.setIfInBounds_toArray, List.set_cons_zero, List.set_cons_succ])))
        refine wpTree.done ?_
        have HB2 := Lib.hid hb2'
        clear hHeld hb2 hb2' hc
        clear hrj q1 d0 d1 d2 d4
        go_wp2_with (first | (refine wpList_load_mid rfl 32 _ rfl _ _ rfl (p).cells _ ?_ Try.underlying32 rfl (pinfo _) ?_; (focus assumption)))
        refine (put_wtr p (W.heap.size + 1) (W.heap.size + 1) _ w2 (HAT.out.1.next HB2.out) (HPO2.out w2 (HBR.out.trans (HB2.out.mono HBR.out.size))) HGD.out.m (by have := HLEN.out; omega)).mono ?_
        clear q2 hr2
        rintro e w3 ⟨v3, X3, rfl, ⟨hX3, hO3⟩, hM3⟩
        have HW3 := Lib.hid (hX3.next hM3.2)
        have HB3 := Lib.hid (((HAT.out.2.1.trans (HB2.out.mono (Nat.le_trans HAT.out.1.1 (Nat.le_of_lt HAT.out.1.lt)))).trans hO3.1).trans (hM3.2.mono (Nat.le_trans hX3.1 (Nat.le_of_lt hX3.lt))))
        clear hX3 hO3 hM3
        go_wp2_with fail
        go_roundw
        case rel =>
          refine ⟨j + 1, by omega, by omega, by go_num, ?_, HB3.out, ?_⟩
          · rw [parts_take l j p HP.out]; exact HW3.out
          · intro q hq
            rw [List.take_add_one, HP.out] at hq
            rcases List.mem_append.1 hq with h1 | h1
            · exact HAT.out.2.2 q h1
            · simp at h1; subst h1; exact HGD.out
        case measure => simp [intOf]; omega
      · have e1 : (p.k == 1) = false := by simpa using hk1
        have e2 : (p.k == 2) = false := by simpa using hk2
        have e5 : (p.k == 5) = false := by simpa using hk5
        have e6 : (p.k == 6) = false := by simpa using hk6
        clear hk1 hk2 hk5 hk6
        go_wp2_with fail
        refine wp_region_tree (S := (fun W' => W'.rangeAt b (o + j * 17) p.cells ∧ W'.cell? ⟨W.heap.size, 0, none⟩ = some (.slice (some ⟨b, o, none⟩) l.length c) ∧ W'.cell? ⟨b, o + j * 17, none⟩ = some (.int .i64 p.k) ∧ W'.cell? ⟨b, o + j * 17 + 1, none⟩ = some (.int .i64 p.i) ∧ W'.cell? ⟨b, o + j * 17 + 2, none⟩ = some (.int .i64 p.mo) ∧ W'.cell? ⟨b, o + j * 17 + 4, none⟩ = some (.slice p.A p.m p.c))) (.take 0 (.take 1 (.take 2 (.take 3 (.one 4 (.take 5 (.take 6 (.take 7 (.take 8 (.take 9 (.take 10 (.take 11 (.take 12 (.take 13 (.take 14 (.take 15 (.take 16 (.take 17 (.take 18 (.take 19 (.take 20 (.take 21 (.take 22 (.take 23 (.take 24 (.take 25 (.take 26 (.take 27 (.take 28 (.take 29 (.take 30 (.take 31 (.take 32 (.take 33 (.take 34 (.take 35 (.take 36 (.take 37 (.take 38 (.take 39 (.take 40 (.take 41 (.take 42 (.take 43 (.take 44 (.take 45 (.take 46 (.take 47 (.take 48 (.take 49 (.take 50 (.take 51 (.take 52 (.take 53 (.take 54 (.take 55 (.take 56 (.take 57 (.take 58 (.take 59 (.take 60 (.take 61 (.take 62 (.take 63 (.take 64 (.take 65 (.take 66 .nil))))))))))))))))))))))))))))))))))))))))))))))))))))))))))))))))))) 9999 (by kernel_rfl) (by kernel_rfl) (by kernel_rfl) (by kernel_rfl) (by kernel_rfl) (fun _ _ d _ _ h => by cases d <;> exact h) ?_ (fun hHeld => ?_); (focus (exact ⟨hrj, q1, d0, d1, d2, d4⟩)); simp only [Tree.map, List.getElem?_toArray]
        (repeat (first | (refine wpTree.take (v := undef) (Or.inr ⟨by rfl, rfl⟩) ?_; simp only [Act.put, List.setIfInBounds_toArray, List.set_cons_zero, List.set_cons_succ]) | (refine wpTree.take (v := .agg (p.cells).toArray) (yieldsIf_load_mid rfl 32 _ rfl _ _ rfl (p.cells) _ ?_ Try.underlying32 rfl (pinfo _)) ?_; (focus (intro _ hS; (try dsimp only at hS); go_split_ands; assumption)); simp only [Act.put, List.setIfInBounds_toArray, List.set_cons_zero, List.set_cons_succ]) | (refine wpTree.take (v := ?_) (Or.inl ⟨by rfl, ?_⟩) ?_; rotate_left; (focus (intro _ hS; (try dsimp only at hS); go_split_ands; (try subst hS); go_simp; (try (with_reducible rfl)); done)); simp only [Act.put, List.setIfInBounds_toArray, List.set_cons_zero, List.set_cons_succ])))
        refine wpTree.one (fun K hK => ?_)
        go_simp
        go_at_call 13
        refine (great_any p _).mono ?_
        rintro e w2 ⟨rfl, hb2⟩
        rw [HGR.out]
        have hb2' : Below wr.heap.size wr w2 := ⟨hb2.os, hb2.tape, hb2.output, hb2.size, hb2.block⟩
        have hc := fun (i : Nat) => hb2'.cell (p := ⟨b, i, none⟩) HBW.out
        have q2 := (hb2'.cell (p := ⟨W.heap.size, 0, none⟩) HBX2.out).trans q1
        have hr2 := range_below hrj hb2' HBW.out
        refine hK.out _ _ ⟨hr2, q2, (hc _).trans d0, (hc _).trans d1, (hc _).trans d2, (hc _).trans d4⟩ (fun _ => ?_)
        clear hK K
        (repeat (first | (refine wpTree.take (v := undef) (Or.inr ⟨by rfl, rfl⟩) ?_; simp only [Act.put, List.setIfInBounds_toArray, List.set_cons_zero, List.set_cons_succ]) | (refine wpTree.take (v := ?_) (Or.inl ⟨by rfl, ?_⟩) ?_; rotate_left; (focus (intro _ hS; (try dsimp only at hS); go_split_ands; (try subst hS); go_simp; (try (with_reducible rfl)); done)); simp only [Act.put, List.setIfInBounds_toArray, List.set_cons_zero, List.set_cons_succ])))
        refine wpTree.done ?_
        have HB2 := Lib.hid hb2'
        clear hHeld hb2 hb2' hc
        clear hrj q1 d0 d1 d2 d4
        go_wp2_with (first | (refine wpList_load_mid rfl 32 _ rfl _ _ rfl (p).cells _ ?_ Try.underlying32 rfl (pinfo _) ?_; (focus assumption)))
        refine (put_wtr p (W.heap.size + 1) (W.heap.size + 1) _ w2 (HAT.out.1.next HB2.out) (HPO2.out w2 (HBR.out.trans (HB2.out.mono HBR.out.size))) HGD.out.m (by have := HLEN.out; omega)).mono ?_
        clear q2 hr2
        rintro e w3 ⟨v3, X3, rfl, ⟨hX3, hO3⟩, hM3⟩
        have HW3 := Lib.hid (hX3.next hM3.2)
        have HB3 := Lib.hid (((HAT.out.2.1.trans (HB2.out.mono (Nat.le_trans HAT.out.1.1 (Nat.le_of_lt HAT.out.1.lt)))).trans hO3.1).trans (hM3.2.mono (Nat.le_trans hX3.1 (Nat.le_of_lt hX3.lt))))
        clear hX3 hO3 hM3
        go_wp2_with fail
        go_roundw
        case rel =>
          refine ⟨j + 1, by omega, by omega, by go_num, ?_, HB3.out, ?_⟩
          · rw [parts_take l j p HP.out]; exact HW3.out
          · intro q hq
            rw [List.take_add_one, HP.out] at hq
            rcases List.mem_append.1 hq with h1 | h1
            · exact HAT.out.2.2 q h1
            · simp at h1; subst h1; exact HGD.out
        case measure => simp [intOf]; omega
    have hstop : (40 < l.length ∧ ¬ (j : Int) < 40) ∨ (l.length ≤ 40 ∧ j = l.length) := by omega
    clear hgo hj40
    rcases hstop with ⟨h41, h40⟩ | ⟨h41, rfl⟩
    · have h41' : decide ((40 : Int) < (l.length : Int)) = true := by rw [decide_eq_true_eq]; omega
      have h41'' : (40 : Int) < (l.length : Int) := by omega
      have hlt : j < l.length ∨ ¬ j < l.length := by omega
      clear h41
      rcases hlt with hlt | hlt
      all_goals
        go_wp2_with (go_at_call 14; refine (alive_any _).mono ?_; rintro e wa ⟨rfl, hba⟩; have HBA := Lib.hid hba; clear hba)
        go_ret
        exact ⟨rfl, HBR.out.trans (HBA.out.mono HBR.out.size)⟩
    · have h41' : ¬ (40 : Int) < (l.length : Int) := by omega
      have HL40 := Lib.hid h41
      obtain ⟨acc, hacc⟩ : ∃ acc, acc = l.flatMap PartR.bytes := ⟨_, rfl⟩
      have HG := Lib.hid (show ∀ p ∈ l, p.Good from fun p hp => HAT.out.2.2 p (by rw [List.take_length]; exact hp))
      have hWr := HAT.out.1
      rw [List.take_length, ← hacc] at hWr
      have HWR := Lib.hid hWr
      have HACC := Lib.hid hacc
      have HLT := Lib.hid (show ∀ x ∈ acc, x < 256 by rw [hacc]; exact parts_lt l (fun q hq => HOK.out q hq))
      have HLEN := Lib.hid (show acc.length ≤ 510 * 40 by
        rw [hacc]
        have h1 := parts_len l (fun q hq => HOK.out q hq) (fun q hq => (HG.out q hq).m)
        omega)
      have HBX2 := Lib.hid (show W.heap.size < wr.heap.size by have := HWR.out.lt; omega)
      clear h41 hacc hWr HAT
      go_wp2_with fail
      refine (bytes_any (W.heap.size + 1) (W.heap.size + 1) acc wr HWR.out (by have := HLEN.out; omega)).mono ?_
      rintro e w5 ⟨v5, rfl, hown5, hb5⟩
      obtain ⟨Ab, cb, rfl, hcb, hAb, hAn⟩ := own_byr hown5
      have q5 := (hb5.cell (p := ⟨W.heap.size, 0, none⟩) HBX2.out).trans q1
      have HAb := Lib.hid hAb
      have HAN := Lib.hid hAn
      have HCB := Lib.hid hcb
      have HB5 := Lib.hid (HBR.out.trans (hb5.mono HBR.out.size))
      have HBX5 := Lib.hid (Nat.lt_of_lt_of_le HBX2.out hb5.size)
      clear hown5 hcb hAb hAn hb5 q1 HWR
      go_wp2_with (first | (go_at_call 12; refine (new_eq _).mono ?_; rintro e w6 ⟨rfl, rfl⟩))
      have hWx := Blk.new w5 106 #[.slice none 0 0]
      have b6 : Below w5.heap.size w5 ((w5.alloc (.cells #[.slice none 0 0] 106)).alloc (.cells #[.pointer (some ⟨w5.heap.size, 0, none⟩)] 23)) := ((Below.refl _ _).alloc (Nat.le_refl _) _).alloc (by simp) _
      have hblk : Blk ((w5.alloc (.cells #[.slice none 0 0] 106)).alloc (.cells #[.pointer (some ⟨w5.heap.size, 0, none⟩)] 23)) w5.heap.size 106 #[.slice none 0 0] := hWx.alloc _
      have hc2 := (Blk.new (w5.alloc (.cells #[.slice none 0 0] 106)) 23 #[.pointer (some ⟨w5.heap.size, 0, none⟩)]).cell 0
      rw [show (w5.alloc (.cells #[.slice none 0 0] 106)).heap.size = w5.heap.size + 1 by simp] at hc2
      have hBW := HB5.out.trans (b6.mono HB5.out.size)
      have hWl := HB5.out.size
      refine (read_b1 l A Ab c cb W.heap.size w5.heap.size _ (by simp) ⟨Nat.le_refl _, _, hblk, World.ownsRow_nil _ _ _ _⟩ (fun k hk => by rw [rowOf_of hblk] at hk; cases hk) HBX5.out
        ((b6.cell (p := ⟨W.heap.size, 0, none⟩) HBX5.out).trans q5) hc2 HL40.out ?_ (fun p hp => ⟨((HOK.out p hp).next hBW).mono hWl, HG.out p hp⟩) acc HACC.out HCB.out ?_).mono ?_
      · refine HA.out.imp id ?_
        rintro ⟨b, o, e, h1, h2⟩
        exact ⟨b, o, e, Nat.lt_of_lt_of_le h1 hWl, fun i hi => range_below (h2 i hi) hBW h1⟩
      · refine HAb.out.imp id ?_
        rintro ⟨b, p, e, h1, h2⟩
        exact ⟨b, p, e, h1, fun i x hx => (b6.cell (p := ⟨b, p + i, none⟩) h1).trans (h2 i x hx)⟩
      rintro e w7 ⟨rfl, hW7, hb7, hc7⟩
      have hb57 := b6.trans hb7
      have hS7 := (HAb.out.src HAN.out).below hb57
      have q7 := (hb57.cell (p := ⟨W.heap.size, 0, none⟩) HBX5.out).trans q5
      have HW7 := Lib.hid hW7
      have HB57 := Lib.hid hb57
      have HS7 := Lib.hid hS7
      have HC7 := Lib.hid hc7
      have HAb7 := Lib.hid (HAb.out.next hb57)
      clear hWx b6 hblk hc2 hBW hWl hW7 hb57 hS7 hb7 q5
      have hcut : (cut < 0) ∨ (¬ cut < 0 ∧ (acc.length : Int) ≤ cut) ∨ ∃ n : Nat, cut = (n : Int) ∧ n < acc.length := by
        by_cases h1 : cut < 0
        · exact Or.inl h1
        · by_cases h2 : (acc.length : Int) ≤ cut
          · exact Or.inr (Or.inl ⟨h1, h2⟩)
          · exact Or.inr (Or.inr ⟨cut.toNat, by omega, by omega⟩)
      rcases hcut with h1 | ⟨h1, h2⟩ | ⟨n, rfl, hn⟩
      · have h1' : decide (cut < 0) = true := by simpa using h1
        clear h1
        go_wp2_with fail
        refine wp_region_tree (S := (fun W' => W'.cell? ⟨w5.heap.size + 1, 0, none⟩ = some (.pointer (some ⟨w5.heap.size, 0, none⟩)) ∧ Src W' Ab acc.length (u8s acc))) (.take 0 (.take 1 (.take 2 (.take 3 (.take 6 (.take 7 (.one 4 (.one 5 (.take 8 (.take 9 (.take 10 (.take 11 (.take 12 (.take 13 (.take 14 (.take 15 (.take 16 (.take 17 (.take 18 (.take 19 .nil)))))))))))))))))))) 9999 (by kernel_rfl) (by kernel_rfl) (by kernel_rfl) (by kernel_rfl) (by kernel_rfl) (fun _ _ d _ _ h => by cases d <;> exact h) ?_ (fun hHeld => ?_); (focus (exact ⟨hc7, HS7.out⟩)); simp only [Tree.map, List.getElem?_toArray, List.getElem?_cons_zero, List.getElem?_cons_succ]
        (repeat (first | (refine wpTree.take (v := undef) (Or.inr ⟨by rfl, rfl⟩) ?_; simp only [Act.put, List.setIfInBounds_toArray, List.set_cons_zero, List.set_cons_succ]) | (refine wpTree.take (v := ?_) (Or.inl ⟨by rfl, ?_⟩) ?_; rotate_left; (focus (intro _ hS; (try dsimp only at hS); go_split_ands; (try subst hS); go_simp; (try (with_reducible rfl)); done)); simp only [Act.put, List.setIfInBounds_toArray, List.set_cons_zero, List.set_cons_succ]) | (refine wpTree.take (v := .string (bstr acc)) (Or.inl ⟨by rfl, ?_⟩) ?_; (focus (intro wq hS; have cvq := conv_src wq Ab acc.length cb acc hS.2 rfl HLT.out; go_simp; done)); simp only [Act.put, List.setIfInBounds_toArray, List.set_cons_zero, List.set_cons_succ])))
        refine wpTree.one (fun K hK => ?_)
        go_simp
        go_at_call 16
        refine (bytes_any w5.heap.size w5.heap.size acc _ (show Wtr w7.drew w5.heap.size w5.heap.size acc from HW7.out) (by have := HLEN.out; omega)).mono ?_
        rintro e wb ⟨vb, rfl, hownb, hbb⟩
        obtain ⟨Ax, cx, rfl, hSx⟩ := src_own hownb
        have hb8 := (Below.refl w7.heap.size w7).trans ⟨hbb.os, hbb.tape, hbb.output, hbb.size, hbb.block⟩
        have cvx := conv_src wb Ax acc.length cx acc hSx rfl HLT.out
        have k8 := (hb8.cell (p := ⟨w5.heap.size + 1, 0, none⟩) (World.block_lt_of_cell? _ _ hc7)).trans hc7
        have s8 := (HS7.out).below hb8
        refine hK.out _ _ ⟨k8, s8⟩ (fun _ => ?_)
        clear hK K
        refine wpTree.one (fun K hK => ?_)
        go_simp
        refine hK.out _ _ ⟨k8, s8⟩ (fun _ => ?_)
        clear hK K
        (repeat (first | (refine wpTree.take (v := undef) (Or.inr ⟨by rfl, rfl⟩) ?_; simp only [Act.put, List.setIfInBounds_toArray, List.set_cons_zero, List.set_cons_succ]) | (refine wpTree.take (v := ?_) (Or.inl ⟨by rfl, ?_⟩) ?_; rotate_left; (focus (intro _ hS; (try dsimp only at hS); go_split_ands; (try subst hS); go_simp; (try (with_reducible rfl)); done)); simp only [Act.put, List.setIfInBounds_toArray, List.set_cons_zero, List.set_cons_succ])))
        refine wpTree.done ?_
        have HS8 := Lib.hid s8
        have HB8 := Lib.hid hb8
        have HW8 := Lib.hid (HW7.out.next hb8)
        have q8 := (hb8.cell (p := ⟨W.heap.size, 0, none⟩) (World.block_lt_of_cell? _ _ q7)).trans q7
        have HAb8 := Lib.hid (HAb7.out.next hb8)
        clear hHeld hbb hownb hSx cvx s8 hb8 hc7 q7
        clear q8
        go_wp2_with fail
        refine wp_region_tree (S := (fun W' => W'.cell? ⟨w5.heap.size + 1, 0, none⟩ = some (.pointer (some ⟨w5.heap.size, 0, none⟩)) ∧ Src W' Ab acc.length (u8s acc))) (.take 0 (.take 1 (.take 2 (.take 3 (.take 6 (.take 7 (.one 4 (.one 5 (.take 8 (.take 9 (.take 10 (.one 11 (.take 12 (.take 13 .nil)))))))))))))) 9999 (by kernel_rfl) (by kernel_rfl) (by kernel_rfl) (by kernel_rfl) (by kernel_rfl) (fun _ _ d _ _ h => by cases d <;> exact h) ?_ (fun hHeld => ?_); (focus (exact ⟨k8, HS8.out⟩)); simp only [Tree.map, List.getElem?_toArray, List.getElem?_cons_zero, List.getElem?_cons_succ]
        (repeat (first | (refine wpTree.take (v := undef) (Or.inr ⟨by rfl, rfl⟩) ?_; simp only [Act.put, List.setIfInBounds_toArray, List.set_cons_zero, List.set_cons_succ]) | (refine wpTree.take (v := ?_) (Or.inl ⟨by rfl, ?_⟩) ?_; rotate_left; (focus (intro _ hS; (try dsimp only at hS); go_split_ands; (try subst hS); go_simp; (try (with_reducible rfl)); done)); simp only [Act.put, List.setIfInBounds_toArray, List.set_cons_zero, List.set_cons_succ]) | (refine wpTree.take (v := .string (bstr acc)) (Or.inl ⟨by rfl, ?_⟩) ?_; (focus (intro wq hS; have cvq := conv_src wq Ab acc.length cb acc hS.2 rfl HLT.out; go_simp; done)); simp only [Act.put, List.setIfInBounds_toArray, List.set_cons_zero, List.set_cons_succ])))
        refine wpTree.one (fun K hK => ?_)
        go_simp
        go_at_call 16
        refine (bytes_any w5.heap.size w5.heap.size acc _ (show Wtr wb.drew w5.heap.size w5.heap.size acc from HW8.out) (by have := HLEN.out; omega)).mono ?_
        rintro e wd ⟨vb, rfl, hownb, hbb⟩
        obtain ⟨Ax, cx, rfl, hSx⟩ := src_own hownb
        have hb9 := (Below.refl wb.heap.size wb).trans ⟨hbb.os, hbb.tape, hbb.output, hbb.size, hbb.block⟩
        have cvx := conv_src wd Ax acc.length cx acc hSx rfl HLT.out
        have k9 := (hb9.cell (p := ⟨w5.heap.size + 1, 0, none⟩) (World.block_lt_of_cell? _ _ k8)).trans k8
        have s9 := (HS8.out).below hb9
        refine hK.out _ _ ⟨k9, s9⟩ (fun _ => ?_)
        clear hK K
        refine wpTree.one (fun K hK => ?_)
        go_simp
        refine hK.out _ _ ⟨k9, s9⟩ (fun _ => ?_)
        clear hK K
        (repeat (first | (refine wpTree.take (v := undef) (Or.inr ⟨by rfl, rfl⟩) ?_; simp only [Act.put, List.setIfInBounds_toArray, List.set_cons_zero, List.set_cons_succ]) | (refine wpTree.take (v := ?_) (Or.inl ⟨by rfl, ?_⟩) ?_; rotate_left; (focus (intro _ hS; (try dsimp only at hS); go_split_ands; (try subst hS); go_simp; (try (with_reducible rfl)); done)); simp only [Act.put, List.setIfInBounds_toArray, List.set_cons_zero, List.set_cons_succ])))
        refine wpTree.one (fun K hK => ?_)
        go_simp
        go_at_call 14
        refine (alive_any _).mono ?_
        rintro e wa ⟨rfl, hba⟩
        refine hK.out _ _ ⟨(hba.cell (p := ⟨w5.heap.size + 1, 0, none⟩) (World.block_lt_of_cell? _ _ k9)).trans k9, s9.below hba⟩ (fun _ => ?_)
        clear hK K
        (repeat (first | (refine wpTree.take (v := undef) (Or.inr ⟨by rfl, rfl⟩) ?_; simp only [Act.put, List.setIfInBounds_toArray, List.set_cons_zero, List.set_cons_succ]) | (refine wpTree.take (v := ?_) (Or.inl ⟨by rfl, ?_⟩) ?_; rotate_left; (focus (intro _ hS; (try dsimp only at hS); go_split_ands; (try subst hS); go_simp; (try (with_reducible rfl)); done)); simp only [Act.put, List.setIfInBounds_toArray, List.set_cons_zero, List.set_cons_succ])))
        refine wpTree.done ?_
        have HF := Lib.hid (((HB5.out.trans ((HB57.out.trans ((HB8.out.trans (hb9.mono HB8.out.size)).mono HB57.out.size)).mono HB5.out.size))).trans (hba.mono (Nat.le_trans (Nat.le_trans (Nat.le_trans HB5.out.size HB57.out.size) HB8.out.size) hb9.size)))
        clear hHeld hba k9 s9 hb9 cvx hSx hownb hbb
        go_wp2_with fail
        go_ret
        exact ⟨rfl, HF.out⟩
      · have h1' : decide (cut < 0) = false := by simpa using h1
        have h2' : decide ((acc.length : Int) ≤ cut) = true := by simpa using h2
        clear h1 h2
        go_wp2_with fail
        refine wp_region_tree (S := (fun W' => W'.cell? ⟨w5.heap.size + 1, 0, none⟩ = some (.pointer (some ⟨w5.heap.size, 0, none⟩)) ∧ Src W' Ab acc.length (u8s acc))) (.take 0 (.take 1 (.take 2 (.take 3 (.take 6 (.take 7 (.one 4 (.one 5 (.take 8 (.take 9 (.take 10 (.take 11 (.take 12 (.take 13 (.take 14 (.take 15 (.take 16 (.take 17 (.take 18 (.take 19 .nil)))))))))))))))))))) 9999 (by kernel_rfl) (by kernel_rfl) (by kernel_rfl) (by kernel_rfl) (by kernel_rfl) (fun _ _ d _ _ h => by cases d <;> exact h) ?_ (fun hHeld => ?_); (focus (exact ⟨hc7, HS7.out⟩)); simp only [Tree.map, List.getElem?_toArray, List.getElem?_cons_zero, List.getElem?_cons_succ]
        (repeat (first | (refine wpTree.take (v := undef) (Or.inr ⟨by rfl, rfl⟩) ?_; simp only [Act.put, List.setIfInBounds_toArray, List.set_cons_zero, List.set_cons_succ]) | (refine wpTree.take (v := ?_) (Or.inl ⟨by rfl, ?_⟩) ?_; rotate_left; (focus (intro _ hS; (try dsimp only at hS); go_split_ands; (try subst hS); go_simp; (try (with_reducible rfl)); done)); simp only [Act.put, List.setIfInBounds_toArray, List.set_cons_zero, List.set_cons_succ]) | (refine wpTree.take (v := .string (bstr acc)) (Or.inl ⟨by rfl, ?_⟩) ?_; (focus (intro wq hS; have cvq := conv_src wq Ab acc.length cb acc hS.2 rfl HLT.out; go_simp; done)); simp only [Act.put, List.setIfInBounds_toArray, List.set_cons_zero, List.set_cons_succ])))
        refine wpTree.one (fun K hK => ?_)
        go_simp
        go_at_call 16
        refine (bytes_any w5.heap.size w5.heap.size acc _ (show Wtr w7.drew w5.heap.size w5.heap.size acc from HW7.out) (by have := HLEN.out; omega)).mono ?_
        rintro e wb ⟨vb, rfl, hownb, hbb⟩
        obtain ⟨Ax, cx, rfl, hSx⟩ := src_own hownb
        have hb8 := (Below.refl w7.heap.size w7).trans ⟨hbb.os, hbb.tape, hbb.output, hbb.size, hbb.block⟩
        have cvx := conv_src wb Ax acc.length cx acc hSx rfl HLT.out
        have k8 := (hb8.cell (p := ⟨w5.heap.size + 1, 0, none⟩) (World.block_lt_of_cell? _ _ hc7)).trans hc7
        have s8 := (HS7.out).below hb8
        refine hK.out _ _ ⟨k8, s8⟩ (fun _ => ?_)
        clear hK K
        refine wpTree.one (fun K hK => ?_)
        go_simp
        refine hK.out _ _ ⟨k8, s8⟩ (fun _ => ?_)
        clear hK K
        (repeat (first | (refine wpTree.take (v := undef) (Or.inr ⟨by rfl, rfl⟩) ?_; simp only [Act.put, List.setIfInBounds_toArray, List.set_cons_zero, List.set_cons_succ]) | (refine wpTree.take (v := ?_) (Or.inl ⟨by rfl, ?_⟩) ?_; rotate_left; (focus (intro _ hS; (try dsimp only at hS); go_split_ands; (try subst hS); go_simp; (try (with_reducible rfl)); done)); simp only [Act.put, List.setIfInBounds_toArray, List.set_cons_zero, List.set_cons_succ])))
        refine wpTree.done ?_
        have HS8 := Lib.hid s8
        have HB8 := Lib.hid hb8
        have HW8 := Lib.hid (HW7.out.next hb8)
        have q8 := (hb8.cell (p := ⟨W.heap.size, 0, none⟩) (World.block_lt_of_cell? _ _ q7)).trans q7
        have HAb8 := Lib.hid (HAb7.out.next hb8)
        clear hHeld hbb hownb hSx cvx s8 hb8 hc7 q7
        clear q8
        go_wp2_with fail
        refine wp_region_tree (S := (fun W' => W'.cell? ⟨w5.heap.size + 1, 0, none⟩ = some (.pointer (some ⟨w5.heap.size, 0, none⟩)) ∧ Src W' Ab acc.length (u8s acc))) (.take 0 (.take 1 (.take 2 (.take 3 (.take 6 (.take 7 (.one 4 (.one 5 (.take 8 (.take 9 (.take 10 (.one 11 (.take 12 (.take 13 .nil)))))))))))))) 9999 (by kernel_rfl) (by kernel_rfl) (by kernel_rfl) (by kernel_rfl) (by kernel_rfl) (fun _ _ d _ _ h => by cases d <;> exact h) ?_ (fun hHeld => ?_); (focus (exact ⟨k8, HS8.out⟩)); simp only [Tree.map, List.getElem?_toArray, List.getElem?_cons_zero, List.getElem?_cons_succ]
        (repeat (first | (refine wpTree.take (v := undef) (Or.inr ⟨by rfl, rfl⟩) ?_; simp only [Act.put, List.setIfInBounds_toArray, List.set_cons_zero, List.set_cons_succ]) | (refine wpTree.take (v := ?_) (Or.inl ⟨by rfl, ?_⟩) ?_; rotate_left; (focus (intro _ hS; (try dsimp only at hS); go_split_ands; (try subst hS); go_simp; (try (with_reducible rfl)); done)); simp only [Act.put, List.setIfInBounds_toArray, List.set_cons_zero, List.set_cons_succ]) | (refine wpTree.take (v := .string (bstr acc)) (Or.inl ⟨by rfl, ?_⟩) ?_; (focus (intro wq hS; have cvq := conv_src wq Ab acc.length cb acc hS.2 rfl HLT.out; go_simp; done)); simp only [Act.put, List.setIfInBounds_toArray, List.set_cons_zero, List.set_cons_succ])))
        refine wpTree.one (fun K hK => ?_)
        go_simp
        go_at_call 16
        refine (bytes_any w5.heap.size w5.heap.size acc _ (show Wtr wb.drew w5.heap.size w5.heap.size acc from HW8.out) (by have := HLEN.out; omega)).mono ?_
        rintro e wd ⟨vb, rfl, hownb, hbb⟩
        obtain ⟨Ax, cx, rfl, hSx⟩ := src_own hownb
        have hb9 := (Below.refl wb.heap.size wb).trans ⟨hbb.os, hbb.tape, hbb.output, hbb.size, hbb.block⟩
        have cvx := conv_src wd Ax acc.length cx acc hSx rfl HLT.out
        have k9 := (hb9.cell (p := ⟨w5.heap.size + 1, 0, none⟩) (World.block_lt_of_cell? _ _ k8)).trans k8
        have s9 := (HS8.out).below hb9
        refine hK.out _ _ ⟨k9, s9⟩ (fun _ => ?_)
        clear hK K
        refine wpTree.one (fun K hK => ?_)
        go_simp
        refine hK.out _ _ ⟨k9, s9⟩ (fun _ => ?_)
        clear hK K
        (repeat (first | (refine wpTree.take (v := undef) (Or.inr ⟨by rfl, rfl⟩) ?_; simp only [Act.put, List.setIfInBounds_toArray, List.set_cons_zero, List.set_cons_succ]) | (refine wpTree.take (v := ?_) (Or.inl ⟨by rfl, ?_⟩) ?_; rotate_left; (focus (intro _ hS; (try dsimp only at hS); go_split_ands; (try subst hS); go_simp; (try (with_reducible rfl)); done)); simp only [Act.put, List.setIfInBounds_toArray, List.set_cons_zero, List.set_cons_succ])))
        refine wpTree.one (fun K hK => ?_)
        go_simp
        go_at_call 14
        refine (alive_any _).mono ?_
        rintro e wa ⟨rfl, hba⟩
        refine hK.out _ _ ⟨(hba.cell (p := ⟨w5.heap.size + 1, 0, none⟩) (World.block_lt_of_cell? _ _ k9)).trans k9, s9.below hba⟩ (fun _ => ?_)
        clear hK K
        (repeat (first | (refine wpTree.take (v := undef) (Or.inr ⟨by rfl, rfl⟩) ?_; simp only [Act.put, List.setIfInBounds_toArray, List.set_cons_zero, List.set_cons_succ]) | (refine wpTree.take (v := ?_) (Or.inl ⟨by rfl, ?_⟩) ?_; rotate_left; (focus (intro _ hS; (try dsimp only at hS); go_split_ands; (try subst hS); go_simp; (try (with_reducible rfl)); done)); simp only [Act.put, List.setIfInBounds_toArray, List.set_cons_zero, List.set_cons_succ])))
        refine wpTree.done ?_
        have HF := Lib.hid (((HB5.out.trans ((HB57.out.trans ((HB8.out.trans (hb9.mono HB8.out.size)).mono HB57.out.size)).mono HB5.out.size))).trans (hba.mono (Nat.le_trans (Nat.le_trans (Nat.le_trans HB5.out.size HB57.out.size) HB8.out.size) hb9.size)))
        clear hHeld hba k9 s9 hb9 cvx hSx hownb hbb
        go_wp2_with fail
        go_ret
        exact ⟨rfl, HF.out⟩
      · have h1' : decide ((n : Int) < 0) = false := by rw [decide_eq_false_iff_not]; omega
        have h2' : decide ((acc.length : Int) ≤ (n : Int)) = false := by rw [decide_eq_false_iff_not]; omega
        have HN := Lib.hid hn
        go_wp2_with fail
        refine wp_region_tree (S := (fun W' => W'.cell? ⟨w5.heap.size + 1, 0, none⟩ = some (.pointer (some ⟨w5.heap.size, 0, none⟩)) ∧ Src W' Ab acc.length (u8s acc))) (.take 0 (.take 1 (.take 2 (.take 3 (.take 6 (.take 7 (.one 4 (.one 5 (.take 8 (.take 9 (.take 10 (.take 11 (.take 12 (.take 13 (.take 14 (.take 15 (.take 16 (.take 17 (.take 18 (.take 19 .nil)))))))))))))))))))) 9999 (by kernel_rfl) (by kernel_rfl) (by kernel_rfl) (by kernel_rfl) (by kernel_rfl) (fun _ _ d _ _ h => by cases d <;> exact h) ?_ (fun hHeld => ?_); (focus (exact ⟨hc7, HS7.out⟩)); simp only [Tree.map, List.getElem?_toArray, List.getElem?_cons_zero, List.getElem?_cons_succ]
        (repeat (first | (refine wpTree.take (v := undef) (Or.inr ⟨by rfl, rfl⟩) ?_; simp only [Act.put, List.setIfInBounds_toArray, List.set_cons_zero, List.set_cons_succ]) | (refine wpTree.take (v := ?_) (Or.inl ⟨by rfl, ?_⟩) ?_; rotate_left; (focus (intro _ hS; (try dsimp only at hS); go_split_ands; (try subst hS); go_simp; (try (with_reducible rfl)); done)); simp only [Act.put, List.setIfInBounds_toArray, List.set_cons_zero, List.set_cons_succ]) | (refine wpTree.take (v := .string (bstr acc)) (Or.inl ⟨by rfl, ?_⟩) ?_; (focus (intro wq hS; have cvq := conv_src wq Ab acc.length cb acc hS.2 rfl HLT.out; go_simp; done)); simp only [Act.put, List.setIfInBounds_toArray, List.set_cons_zero, List.set_cons_succ])))
        refine wpTree.one (fun K hK => ?_)
        go_simp
        go_at_call 16
        refine (bytes_any w5.heap.size w5.heap.size acc _ (show Wtr w7.drew w5.heap.size w5.heap.size acc from HW7.out) (by have := HLEN.out; omega)).mono ?_
        rintro e wb ⟨vb, rfl, hownb, hbb⟩
        obtain ⟨Ax, cx, rfl, hSx⟩ := src_own hownb
        have hb8 := (Below.refl w7.heap.size w7).trans ⟨hbb.os, hbb.tape, hbb.output, hbb.size, hbb.block⟩
        have cvx := conv_src wb Ax acc.length cx acc hSx rfl HLT.out
        have k8 := (hb8.cell (p := ⟨w5.heap.size + 1, 0, none⟩) (World.block_lt_of_cell? _ _ hc7)).trans hc7
        have s8 := (HS7.out).below hb8
        refine hK.out _ _ ⟨k8, s8⟩ (fun _ => ?_)
        clear hK K
        refine wpTree.one (fun K hK => ?_)
        go_simp
        refine hK.out _ _ ⟨k8, s8⟩ (fun _ => ?_)
        clear hK K
        (repeat (first | (refine wpTree.take (v := undef) (Or.inr ⟨by rfl, rfl⟩) ?_; simp only [Act.put, List.setIfInBounds_toArray, List.set_cons_zero, List.set_cons_succ]) | (refine wpTree.take (v := ?_) (Or.inl ⟨by rfl, ?_⟩) ?_; rotate_left; (focus (intro _ hS; (try dsimp only at hS); go_split_ands; (try subst hS); go_simp; (try (with_reducible rfl)); done)); simp only [Act.put, List.setIfInBounds_toArray, List.set_cons_zero, List.set_cons_succ])))
        refine wpTree.done ?_
        have HS8 := Lib.hid s8
        have HB8 := Lib.hid hb8
        have HW8 := Lib.hid (HW7.out.next hb8)
        have q8 := (hb8.cell (p := ⟨W.heap.size, 0, none⟩) (World.block_lt_of_cell? _ _ q7)).trans q7
        have HAb8 := Lib.hid (HAb7.out.next hb8)
        clear hHeld hbb hownb hSx cvx s8 hb8 hc7 q7
        clear k8
        have hcb := HCB.out
        have hn63 : (n : Int) ≤ (cb : Int) := by omega
        go_wp2_with fail
        have hBW := HB5.out.trans ((HB57.out.trans (HB8.out.mono HB57.out.size)).mono HB5.out.size)
        refine (read_b2 l A Ab c cb W.heap.size n wb (World.block_lt_of_cell? _ _ q8) q8 HL40.out (HA.out.next hBW) (fun p hp => ⟨((HOK.out p hp).next hBW).mono hBW.size, HG.out p hp⟩) acc HACC.out HN.out HCB.out HAb8.out).mono ?_
        rintro e w9 ⟨rfl, hb9⟩
        have HF := Lib.hid (hBW.trans (hb9.mono hBW.size))
        clear hBW hb9 q8
        go_wp2_with (go_at_call 14; refine (alive_any _).mono ?_; rintro e wa ⟨rfl, hba⟩; have HBA := Lib.hid hba; clear hba)
        go_ret
        exact ⟨rfl, HF.out.trans (HBA.out.mono HF.out.size)⟩

set_option maxRecDepth 100000 in
theorem back_lifted (os : Os) (started : os.Started) (H : Type) (enc : TypeId × Value → H) :
    ReturnsInHanded {} Try.checked os 4 .any (Rows.wireBackSpec.pre6 enc Try.prog Try.f4 Rows.wireBackRow.domain false) (Rows.wireBackSpec.post enc Try.prog Try.f4 false true false false) := by
  refine law_lift (C := Try.checked) own_knob started (by kernel_rfl) Try.func4 rfl Try.underlying4 laid_out (by kernel_rfl) rfl ?_
    (ChangeSpec.witness6 (enc := enc) (C := Try.checked) false ⟨#[], #[.slice none 0 0, .int .i64 0], []⟩ 8 (by kernel_rfl) (by kernel_rfl) (by kernel_rfl) (by kernel_rfl)) ?_
  · intro ds hds
    match ds, hds with
    | [_, _], _ => rfl
  intro W base args ds ps hval hA hlt hsz
  rw [Try.params4] at hA hval
  obtain ⟨v0, vs0, d0, ds0, p0, q0, hargs, rfl, rfl, h0, r0⟩ := trodAll_cons hA
  obtain ⟨v1, vs1, d1, ds1, p1, q1, rfl, rfl, rfl, h1, r1⟩ := trodAll_cons r0
  obtain ⟨rfl, rfl, rfl⟩ := trodAll_nil r1
  obtain rfl : args = #[v0, v1] := by cases args; simp_all
  obtain ⟨A0, c0, l0, rfl, hl0, hA0, hok0⟩ := open_parts (hval 0 22 v0 rfl rfl) h0 (fun x hx => hlt x (by simp [hx]))
  obtain ⟨a1, rfl, rfl, rfl, w1⟩ := open_int Try.underlying3 (hval 1 3 v1 rfl rfl) h1
  exact back_walk A0 c0 l0 a1 W hl0 (by have := bounds_i64 w1; omega) (by have := bounds_i64 w1; omega) hA0 hok0

theorem back_holds : Rows.WireBackSaid :=
  OpenClaim.holds_of_wide 4 Try.f4 rfl rfl rfl rfl rfl rfl rfl ⟨rfl, rfl, rfl, rfl, rfl⟩ rfl rfl rfl rfl rfl (by kernel_rfl) Try.func4 (by kernel_rfl)
    (of_decide_eq_true (by kernel_rfl)) (by unfold Func.isWrapper; first | (rw [if_pos (by decide +kernel)]; kernel_rfl) | (rw [if_neg (by decide +kernel)]; exact ⟨rfl, rfl⟩))
    (fun os started H enc _ => back_lifted os started H enc)

end Go.Proofs.Ytnoeogbihjpacaa
