/-
cuts: Hear.
-/
import Derived.Test.YtbnapbjmffajfaaCu8
import Derived.Deep.CutRange
namespace Go.Proofs.Ytbnapbjmffajfaa
open Go.RowKit
set_option linter.unusedSimpArgs false
set_option linter.unusedVariables false

def hearE (other : Int) (cs : List Ct) (b : Sd) (r : Int) (s : St) : Int :=
  if decide (other = 0) then 7 else if !rightS s then 3 else if decide (r < ((cs.length + 1 : Nat) : Int)) || (decide (r = ((cs.length + 1 : Nat) : Int)) && b.is) then 10 else if decide (((cs.length + 1 : Nat) : Int) < r) then 7 else if decide (20 ≤ cs.length) then 5 else 0
def promP (a : Sd) (s : St) : Bool := s.h && !a.is
/-- The end of a stance that is heard. -/
theorem heard_end {W w7 w8 w9 : World} {B t : Nat} {F : Nat → Prop} {own other : Int} {v : Value} {cs : List Ct} {a b a' b' : Sd} (T : Tb W B t F own other v cs a b) (hB7 : Below W.heap.size W w7) (hs8 : w8.heap.size = w7.heap.size) (h8 : ∀ k, k ≠ t → w8.heap[k]? = w7.heap[k]?) (hb8 : Below B w7 w8)
    (hD : DecP w8 B t F own other cs a' b' w9) : DecP W B t F own other cs a' b' w9 := by
  obtain ⟨v', T9, t9⟩ := hD
  have hB := T.low t T.ft
  have h7 := hB7.size
  have h9 := t9.1.size
  refine ⟨v', T9.wider ?_ ?_, ?_, ?_⟩
  · rintro k (hk | ⟨h1, h2⟩)
    · exact Or.inl hk
    · exact Or.inr ⟨by omega, by omega⟩
  · rintro k (hk | ⟨h1, h2⟩)
    · have := T.low k hk; exact ⟨this.1, by omega⟩
    · exact ⟨by omega, h2⟩
  · exact ((hB7.mono (by omega)).trans hb8).trans t9.1
  · intro k hk hF
    exact (t9.2 k (by omega) hF).trans ((h8 k (fun e => hF (e ▸ T.ft))).trans (hB7.block k hk))
/-- What comes of a stance that is heard. -/
def HearP (W : World) (B t : Nat) (F : Nat → Prop) (own other : Int) (cs : List Ct) (a b : Sd) (r : Int) (s : St) (e : Ending) (W' : World) : Prop :=
  (hearE other cs b r s ≠ 0 ∧ e = .returned (.tuple #[.bool false, .int .i64 (hearE other cs b r s)]) ∧ Below W.heap.size W W') ∨
    (hearE other cs b r s = 0 ∧ e = .returned (.tuple #[.bool (promP a s), .int .i64 0]) ∧ DecP W B t F own other cs (if promP a s then ⟨true, St.zero⟩ else a) ⟨true, s⟩ W')
set_option maxHeartbeats 4000000 in
set_option maxRecDepth 20000 in
theorem hear_any (W : World) {B t : Nat} {F : Nat → Prop} {own other : Int} {v : Value} {cs : List Ct} {a b : Sd} (T : Tb W B t F own other v cs a b) (ho : own ≠ 0) (hl : cs.length ≤ 100000) (r : Int) (s : St) :
    Calls Try.prog 9 #[.pointer (some ⟨t, 0, none⟩), .int .i64 r, .agg s.cells.toArray] W fun e W' => HearP W B t F own other cs a b r s e W' := by
  have HT := Lib.hid T
  have HL := Lib.hid hl
  have hb3 : Below W.heap.size W (W.alloc (.cells s.cells.toArray 39)) := (Below.refl _ _).alloc (Nat.le_refl _) _
  have HM := Lib.hid (fun w hb => made_any w (HT.out.next hb) ho)
  have b3 := Blk.new W 39 s.cells.toArray
  have HB3 := Lib.hid hb3
  have HS3 := Lib.hid b3
  have c1 := (HT.out.next hb3).c1
  clear T hl ho hb3 b3
  go_enter Try.func9, Try.ntmps9
  go_upto_region 3 with (go_at_call 16; refine (HM.out _ HB3.out).mono ?_; rintro e w4 ⟨rfl, rfl⟩)
  obtain ⟨w3, hw3⟩ : ∃ w3, w3 = W.alloc (.cells s.cells.toArray 39) := ⟨_, rfl⟩
  have hsz3 : w3.heap.size = W.heap.size + 1 := by rw [hw3]; simp
  rw [← hw3] at HB3 HS3 c1 ⊢
  clear hw3 HM
  by_cases h0 : other = 0
  · have HE := Lib.hid (show hearE other cs b r s = 7 by unfold hearE; rw [decide_eq_true h0]; rfl)
    rw [h0] at c1
    clear h0
    go_wp2_with fail
    go_ret2
    exact Or.inl ⟨by rw [HE.out]; decide, by (rw [HE.out]; try rfl), HB3.out⟩
  have e0 : (other == 0) = false := by simp [h0]
  have H0 := Lib.hid h0
  clear h0
  go_upto_region 5 with fail
  clear e0 c1
  have hrt := right_any s w3
  cases h1 : rightS s with
  | false =>
    have HE := Lib.hid (show hearE other cs b r s = 3 by unfold hearE; rw [decide_eq_false H0.out, h1]; rfl)
    rw [h1] at hrt
    have HRT := Lib.hid hrt
    clear hrt h1
    go_wp2_with (first | (refine wpList_load_blk (by rfl) 39 _ rfl W.heap.size rfl 39 s.cells.toArray _ HS3.out Try.underlying39 rfl (stinfoA _) ?_) | (go_at_call 17; refine HRT.out.mono ?_; rintro e w4 ⟨rfl, hb4⟩; have HB4 := Lib.hid (HB3.out.trans (hb4.mono HB3.out.size)); clear hb4))
    go_ret2
    exact Or.inl ⟨by rw [HE.out]; decide, by (rw [HE.out]; try rfl), HB4.out⟩
  | true =>
    rw [h1] at hrt
    have HRT := Lib.hid hrt
    have H1 := Lib.hid h1
    clear hrt h1
    go_upto_region 7 with (first | (refine wpList_load_blk (by rfl) 39 _ rfl W.heap.size rfl 39 s.cells.toArray _ HS3.out Try.underlying39 rfl (stinfoA _) ?_) | (go_at_call 17; refine HRT.out.mono ?_; rintro e w4 ⟨rfl, hb4⟩; have HS4 := Lib.hid (HS3.out.next hb4); have HB4 := Lib.hid (HB3.out.trans (hb4.mono HB3.out.size)); have HZ4 := Lib.hid (show W.heap.size + 1 ≤ w4.heap.size by have := hb4.size; omega); clear hb4 HRT))
    clear HS3 HB3 hsz3
    have HNX := Lib.hid (next_any w4 (HT.out.next HB4.out) HL.out)
    have HFU := Lib.hid (full_any w4 (HT.out.next HB4.out))
    obtain ⟨N, hN⟩ : ∃ N : Nat, N = cs.length + 1 := ⟨_, rfl⟩
    rw [← hN] at HNX
    have HN := Lib.hid hN
    clear hN
    have c18 := (HT.out.next HB4.out).c18
    by_cases r1 : r < (N : Nat)
    · have HE := Lib.hid (show hearE other cs b r s = 10 by unfold hearE; rw [decide_eq_false H0.out, H1.out, ← HN.out, decide_eq_true r1]; rfl)
      go_wp2_with (go_at_call 22; refine HNX.out.mono ?_; rintro e w5 ⟨rfl, rfl⟩)
      go_ret2
      exact Or.inl ⟨by rw [HE.out]; decide, by (rw [HE.out]; try rfl), HB4.out⟩
    by_cases r2 : r = (N : Nat)
    case neg =>
      have e2 : (r == (N : Nat)) = false := by simp [r2]
      have r3 : ((N : Nat) : Int) < r := by omega
      have HE := Lib.hid (show hearE other cs b r s = 7 by unfold hearE; rw [decide_eq_false H0.out, H1.out, ← HN.out, decide_eq_false r1, decide_eq_false r2, decide_eq_true r3]; rfl)
      clear r2
      go_wp2_with (go_at_call 22; refine HNX.out.mono ?_; rintro e w5 ⟨rfl, rfl⟩)
      go_ret2
      exact Or.inl ⟨by rw [HE.out]; decide, by (rw [HE.out]; try rfl), HB4.out⟩
    subst r2
    have r3 : ¬ ((N : Nat) : Int) < (N : Nat) := by omega
    have e2 : (((N : Nat) : Int) == (N : Nat)) = true := by simp
    cases h2 : b.is with
    | true =>
      have HE := Lib.hid (show hearE other cs b (N : Nat) s = 10 by unfold hearE; rw [decide_eq_false H0.out, H1.out, ← HN.out, decide_eq_false r1, h2]; simp)
      rw [h2] at c18
      clear h2
      go_wp2_with (go_at_call 22; refine HNX.out.mono ?_; rintro e w5 ⟨rfl, rfl⟩)
      go_ret2
      exact Or.inl ⟨by rw [HE.out]; decide, by (rw [HE.out]; try rfl), HB4.out⟩
    | false =>
      rw [h2] at c18
      have H2 := Lib.hid h2
      clear h2
      go_upto_region 11 with (go_at_call 22; refine HNX.out.mono ?_; rintro e w5 ⟨rfl, rfl⟩)
      clear r1 r3 e2 c18 HNX
      cases h3 : decide (20 ≤ cs.length) with
      | true =>
        have HE := Lib.hid (show hearE other cs b (N : Nat) s = 5 by unfold hearE; rw [decide_eq_false H0.out, H1.out, ← HN.out, H2.out, h3]; simp)
        rw [h3] at HFU
        clear h3
        go_wp2_with (go_at_call 18; refine HFU.out.mono ?_; rintro e w5 ⟨rfl, rfl⟩)
        go_ret2
        exact Or.inl ⟨by rw [HE.out]; decide, by (rw [HE.out]; try rfl), HB4.out⟩
      | false =>
        have HE := Lib.hid (show hearE other cs b (N : Nat) s = 0 by unfold hearE; rw [decide_eq_false H0.out, H1.out, ← HN.out, H2.out, h3]; simp)
        rw [h3] at HFU
        clear h3
        go_upto_region 13 with (go_at_call 18; refine HFU.out.mono ?_; rintro e w5 ⟨rfl, rfl⟩)
        clear HFU H0 H1 H2 HN
        have hs4 : w4.rangeAt W.heap.size 0 s.cells := HS4.out.range
        have T4 := HT.out.next HB4.out.drew
        have hth := T4.blk.there (o := 18) (n := 15) (by simp [tc_len])
        have HT4 := Lib.hid T4
        have htW : t < W.heap.size := (HT.out.low t HT.out.ft).2
        clear T4
        refine wp_region_tree (S := (fun w' => w'.rangeAt W.heap.size 0 s.cells)) (.take 0 (.take 1 (.take 2 (.take 3 (.take 4 (.take 5 (.one 6 .nil))))))) 9999 (by kernel_rfl) (by kernel_rfl) (by kernel_rfl) (by kernel_rfl) (by kernel_rfl) (fun _ _ d _ _ h => by cases d <;> exact h) hs4 (fun hHeld => ?_); simp only [Tree.map, List.getElem?_toArray, List.getElem?_cons_zero, List.getElem?_cons_succ]
        (repeat (first | (refine wpTree.take (v := undef) (Or.inr ⟨by rfl, rfl⟩) ?_; simp only [Act.put, List.setIfInBounds_toArray, List.set_cons_zero, List.set_cons_succ]) | (refine wpTree.take (v := .agg s.cells.toArray) (yieldsIf_load_mid rfl 39 _ rfl _ _ rfl s.cells _ (fun _ hS => hS) Try.underlying39 rfl (stinfo _)) ?_; simp only [Act.put, List.setIfInBounds_toArray, List.set_cons_zero, List.set_cons_succ]) | (refine wpTree.take (yields_build (Sd.mk true s).cells.toArray rfl 61 _ rfl (built_sd ⟨true, s⟩)) ?_; simp only [Act.put, List.setIfInBounds_toArray, List.set_cons_zero, List.set_cons_succ]) | (refine wpTree.take (v := ?_) (Or.inl ⟨by rfl, ?_⟩) ?_; rotate_left; (focus (intro _ hS; (try dsimp only at hS); go_split_ands; (try subst hS); go_simp; (try (with_reducible rfl)); done)); simp only [Act.put, List.setIfInBounds_toArray, List.set_cons_zero, List.set_cons_succ])))
        refine wpTree.one (fun K hK => ?_)
        rw [if_pos (by rfl)]
        refine wp_store_mid 61 _ _ rfl t 18 (Sd.mk true s).cells.toArray rfl rfl (by rw [List.size_toArray, sd_len]; exact hth) (sdinfoA _) (sd_one _) ?_
        rw [show (Sd.mk true s).cells.toArray.toList = (Sd.mk true s).cells from rfl]
        have h8o : ∀ k, k ≠ t → (w4.drew.setCells t 18 (Sd.mk true s).cells).heap[k]? = w4.heap[k]? := fun k hk => setCells_other t _ _ w4.drew k hk
        refine hK.out _ _ (fun j u hj => (World.cell?_of_block (h8o W.heap.size (by omega))).trans (hHeld j u hj)) (fun _ => ?_)
        clear hK K hHeld hs4 hth
        (try simp only [Act.put, List.setIfInBounds_toArray, List.set_cons_zero, List.set_cons_succ])
        refine wpTree.done ?_
        obtain ⟨w8, hw8⟩ : ∃ w8, w8 = w4.drew.setCells t 18 (Sd.mk true s).cells := ⟨_, rfl⟩
        have T8 : Tb w8 B t F own other v cs a ⟨true, s⟩ := by rw [hw8]; exact HT4.out.setB ⟨true, s⟩
        have hs8 : w8.heap.size = w4.heap.size := by rw [hw8]; exact setCells_size t _ _ w4.drew
        have hb8 : Below B w4 w8 := by rw [hw8]; exact setCells_below (HT.out.low t HT.out.ft).1 _ _ w4.drew (Below.refl _ _).drew
        rw [← hw8] at h8o ⊢
        clear hw8
        have HS8 := (show Blk w8 W.heap.size 39 s.cells.toArray from (h8o _ (by omega)).trans HS4.out)
        obtain ⟨-, -, q0, -⟩ := st_all HS8
        have c3 := T8.c3
        have HT8 := Lib.hid T8
        have H8 := Lib.hid (And.intro hs8 (And.intro h8o hb8))
        clear T8 hs8 hb8 h8o htW HT4 HS4 HS8
        cases hp : promP a s with
        | false =>
          have HD := Lib.hid (decide_any w8 HT8.out HL.out)
          have HPP := Lib.hid hp
          go_upto_region 14 with fail
          (try simp only [Act.put, List.setIfInBounds_toArray, List.set_cons_zero, List.set_cons_succ])
          go_cut [8] from 57 to 67 (fun vx wx => vx = .bool false ∧ wx = w8)
          case first =>
            unfold promP at hp
            cases hh : s.h with
            | false =>
              rw [hh] at q0
              clear hp HPP HD
              go_wp2_with fail
              go_meet
              exact ⟨rfl, rfl⟩
            | true =>
              have hi : a.is = true := by simpa [hh] using hp
              rw [hh] at q0
              rw [hi] at c3
              clear hp HPP HD
              go_wp2_with fail
              go_meet
              exact ⟨rfl, rfl⟩
          case rest =>
            obtain ⟨rfl, rfl⟩ := hcut
            clear q0 c3 hp
            go_wp2_with (go_at_call 21; refine HD.out.mono ?_; rintro e w9 ⟨rfl, hd⟩; have HDP := Lib.hid hd; clear hd HD)
            go_ret2
            refine Or.inr ⟨HE.out, by rw [HPP.out]; rfl, ?_⟩
            rw [HPP.out]
            exact heard_end HT.out HB4.out H8.out.1 H8.out.2.1 H8.out.2.2 HDP.out
        | true =>
          have HPP := Lib.hid hp
          unfold promP at hp
          have hh : s.h = true ∧ a.is = false := by simpa using hp
          rw [hh.1] at q0
          rw [hh.2] at c3
          clear hp hh
          have hth := HT8.out.blk.there (o := 3) (n := 15) (by simp [tc_len])
          have T9 := HT8.out.setA ⟨true, St.zero⟩
          have hs9 : (w8.setCells t 3 (Sd.mk true St.zero).cells).heap.size = w8.heap.size := setCells_size t _ _ w8
          have h9o : ∀ k, k ≠ t → (w8.setCells t 3 (Sd.mk true St.zero).cells).heap[k]? = w8.heap[k]? := fun k hk => setCells_other t _ _ w8 k hk
          have hb9 : Below B w8 (w8.setCells t 3 (Sd.mk true St.zero).cells) := setCells_below (HT.out.low t HT.out.ft).1 _ _ w8 (Below.refl _ _)
          have HD := Lib.hid (decide_any _ T9 HL.out)
          have H9 := Lib.hid (And.intro hs9 (And.intro h9o hb9))
          clear T9 hs9 h9o hb9
          go_wp2_with (first | (refine wpList_build_lit (Sd.mk true St.zero).cells.toArray rfl 61 _ rfl built_sd1 ?_) | (refine wpList_store_mid rfl 61 _ _ rfl t 3 (Sd.mk true St.zero).cells.toArray rfl rfl (by rw [List.size_toArray, sd_len]; exact hth) (sdinfoA _) (sd_one _) ?_; rw [show (Sd.mk true St.zero).cells.toArray.toList = (Sd.mk true St.zero).cells from rfl]; clear hth q0 c3) | (go_at_call 21; refine HD.out.mono ?_; rintro e w9 ⟨rfl, hd⟩; have HDP := Lib.hid hd; clear hd HD))
          go_ret2
          refine Or.inr ⟨HE.out, by rw [HPP.out]; rfl, ?_⟩
          rw [HPP.out]
          exact heard_end HT.out HB4.out (H9.out.1.trans H8.out.1) (fun k hk => (H9.out.2.1 k hk).trans (H8.out.2.1 k hk)) (H8.out.2.2.trans H9.out.2.2) HDP.out
end Go.Proofs.Ytbnapbjmffajfaa
