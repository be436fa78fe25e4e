/-
packet: Read's walk.
-/
import Derived.Test.YtbgjghgmdhnhbaaPk7
namespace Go.Proofs.Ytbgjghgmdhnhbaa
open Go.RowKit
set_option linter.unusedSimpArgs false
set_option linter.unusedVariables false
namespace Pk
theorem kP_right {bs q : List Nat} {p : Pt} {n : Nat} (h : kP bs = .ok ((p, n), q)) : Rt p := by
  unfold kP at h
  split at h
  · rename_i p' t hg
    have hp : p' = p := by
      unfold kP2 at h
      split at h
      · split at h
        · simp only [Except.ok.injEq, Prod.mk.injEq] at h; exact h.1.1
        · cases h
      · cases h
    subst hp
    have fin : ∀ {p0 : Pt} {t0 : List Nat}, finP p0 t0 = .ok (p', t) → Rt p' := by
      intro p0 t0 h
      unfold finP at h
      split at h
      · rename_i hr
        simp only [Except.ok.injEq, Prod.mk.injEq] at h
        rw [← h.1]; exact right_of hr
      · cases h
    unfold getP at hg
    split at hg
    · unfold getP1 at hg
      split at hg
      · unfold getP2 at hg
        split at hg
        · unfold getP3 at hg
          split at hg
          · unfold getP4 at hg
            split at hg
            · exact fin hg
            · split at hg
              · exact fin hg
              · cases hg
          · cases hg
        · cases hg
      · cases hg
    · cases hg
  · cases h
section
variable (A : Option Addr) (n cp : Nat) (W : World) (bs : List Nat) (hn : bs.length = n) (hnc : n ≤ cp) (hlen : bs.length ≤ 140737488355328) (h256 : ∀ y ∈ bs, y < 256)
    (hbs : Byt.ByR W A bs)
include hn hnc hbs hlen h256
set_option maxRecDepth 20000 in
set_option maxHeartbeats 4000000 in
theorem read_form (h : ∀ p m, kP bs ≠ .ok ((p, m), [])) :
    Calls Try.prog 11 #[.slice A n cp] W fun e W' => e = .returned (.tuple #[.agg zc, .int .i64 3]) ∧ Below W.heap.size W W' := by
  have HC := Lib.hid (read_call A n cp W bs hn hnc hlen h256 hbs)
  have hmf : ∀ (fn : Fn) (first cap : Array Value) (w : World), (Instr.makeFunc fn first cap).run Try.prog w = .ok (.func fn first cap) w := fun _ _ _ _ => rfl
  have HP := Lib.hid (show ∀ r W', ReadP bs W r W' → ∃ z : Int, readE r = z ∧ decide (z = 0) = false from fun r W' hR => by
    have h1 := hR.1
    refine ⟨readE r, rfl, decide_eq_false ?_⟩
    cases hq : kP bs with
    | error x => rw [hq] at h1; subst h1; exact kP_ne hq
    | ok q =>
      obtain ⟨⟨p, m⟩, q⟩ := q
      rw [hq] at h1
      obtain ⟨rfl, _⟩ := h1
      cases q with
      | nil => exact absurd hq (h p m)
      | cons a t => unfold readE; simp)
  clear hn hnc hbs h hlen h256
  go_enter Try.func11, Try.ntmps11
  go_upto_region 3 with fail
  go_wp2_with fail
  refine HC.out.mono ?_
  rintro e W1 ⟨r, rfl, hR⟩
  obtain ⟨z, hz, hz0⟩ := HP.out r W1 hR
  obtain ⟨_, hres, hb⟩ := hR
  have HB := Lib.hid hb
  have hz2 : z ≠ 0 := by simpa using hz0
  have hz1 : (z != 0) = true := by simpa using hz2
  have hz3 : (z == 0) = false := by simpa using hz2
  rw [hz]
  clear hb hz hz0 HP HC
  go_wp2_with (first | (refine wpList_store_blk rfl 25 _ _ rfl W.heap.size 25 zc zc rfl rfl hres (by kernel_rfl) rfl (by simp [Value.oneCell']) ?_; intro b5; clear b5))
  have hset := hres.setRow zc
  refine bodyPost_row_tmp (t := 25) zc (.int .i64 3) rfl rfl rfl rfl Try.underlying25 rfl (by kernel_rfl) hset ?_
  exact ⟨rfl, below_setRow HB.out (Nat.le_refl _) _⟩
set_option maxRecDepth 20000 in
set_option maxHeartbeats 4000000 in
theorem read_ok {p : Pt} {m : Nat} (h : kP bs = .ok ((p, m), [])) :
    Calls Try.prog 11 #[.slice A n cp] W fun e W' => Below W.heap.size W W' ∧ ((m = Crc.sum (encB p) ∧ ∃ A' c', e = .returned (.tuple #[.agg (Pc.mk p A' c').cells.toArray, .int .i64 0]) ∧ (Pc.mk p A' c').Ok W') ∨ (m ≠ Crc.sum (encB p) ∧ e = .returned (.tuple #[.agg zc, .int .i64 9]))) := by
  have HC := Lib.hid (read_call A n cp W bs hn hnc hlen h256 hbs)
  have hmf : ∀ (fn : Fn) (first cap : Array Value) (w : World), (Instr.makeFunc fn first cap).run Try.prog w = .ok (.func fn first cap) w := fun _ _ _ _ => rfl
  have HRT := Lib.hid (kP_right h)
  have HP := Lib.hid h
  obtain ⟨sm, hsm⟩ : ∃ sm, sm = Crc.sum (encB p) := ⟨_, rfl⟩
  rw [← hsm]
  have HSM := Lib.hid hsm
  clear hn hnc hbs h hlen h256 hsm
  go_enter Try.func11, Try.ntmps11
  go_upto_region 3 with fail
  go_upto_region 6 with (first | (go_at_call 36; refine HC.out.mono ?_; rintro e W1 ⟨r, rfl, hR⟩; unfold ReadP at hR; rw [HP.out] at hR; obtain ⟨⟨rfl, A', c', g1, g2, g3, g4⟩, hres, hb⟩ := hR; have H1 := Lib.hid (And.intro g1 (And.intro g2 (And.intro g3 (And.intro g4 (And.intro hres hb))))); clear g1 g2 g3 g4 hres hb; rw [show readE (.ok []) = 0 from rfl]))
  have hc2 : W1.cell? ⟨W.heap.size + 1 + 1, 0, none⟩ = some (.int .u64 (m : Nat)) := H1.out.2.1.cell 0
  have hr1 := H1.out.1.range
  have HBO := Lib.hid (body_any W1.drew (Pc.mk p A' c') HRT.out (H1.out.2.2.1.next (Below.refl _ _).drew))
  have HE := Lib.hid (And.intro (encB_len HRT.out) (encB_256 H1.out.2.2.1.h256))
  obtain ⟨en, hen⟩ : ∃ en, en = encB p := ⟨_, rfl⟩
  rw [← hen] at HE
  rw [show encB (Pc.mk p A' c').p = en from hen.symm] at HBO
  have hs : sm = Crc.sum en := by rw [hen]; exact HSM.out
  clear hen
  have hcl := Crc.sum_lt HE.out.2
  have HOF := Lib.hid (fun v w hv => of_any v en w hv (by have := HE.out.1; omega))
  rw [← hs] at hcl HOF
  have e1 : IntKind.u64.wrap (sm : Int) = (sm : Nat) := by rw [IntKind.wrap_u64]; omega
  clear hs hcl HC
  refine wp_region_tree (S := (fun w' => w'.cell? ⟨W.heap.size + 1 + 1, 0, none⟩ = some (.int .u64 (m : Nat)) ∧ w'.rangeAt (W.heap.size + 1) 0 (Pc.mk p A' c').cells)) (.take 0 (.take 1 (.one 2 (.one 3 (.one 4 (.take 5 (.take 6 .nil))))))) 9999 (by kernel_rfl) (by kernel_rfl) (by kernel_rfl) (by kernel_rfl) (by kernel_rfl) (fun _ _ d _ _ h => by cases d <;> exact h) ⟨hc2, hr1⟩ (fun hHeld => ?_); simp only [Tree.map, List.getElem?_toArray, List.getElem?_cons_zero, List.getElem?_cons_succ]
  (repeat (first | (refine wpTree.take (v := undef) (Or.inr ⟨by rfl, rfl⟩) ?_; simp only [Act.put, List.setIfInBounds_toArray, List.set_cons_zero, List.set_cons_succ]) | (refine wpTree.take (v := .agg (Pc.mk p A' c').cells.toArray) (yieldsIf_load_mid rfl 25 _ rfl _ _ rfl (Pc.mk p A' c').cells _ (fun _ hS => hS.2) Try.underlying25 rfl (pcinfo _)) ?_; simp only [Act.put, List.setIfInBounds_toArray, List.set_cons_zero, List.set_cons_succ]) | (refine wpTree.take (v := ?_) (Or.inl ⟨by rfl, ?_⟩) ?_; rotate_left; (focus (intro _ hS; (try dsimp only at hS); go_split_ands; (try subst hS); go_simp; (try (with_reducible rfl)); done)); simp only [Act.put, List.setIfInBounds_toArray, List.set_cons_zero, List.set_cons_succ])))
  have HK := Lib.hid (fun w (hb : Below W1.heap.size W1 w) => (show w.cell? ⟨W.heap.size + 1 + 1, 0, none⟩ = some (.int .u64 (m : Nat)) ∧ w.rangeAt (W.heap.size + 1) 0 (Pc.mk p A' c').cells from ⟨(H1.out.2.1.next hb).cell 0, (H1.out.1.next hb).range⟩))
  refine wpTree.one (fun K hK => ?_)
  go_simp
  go_at_call 32
  refine HBO.out.mono ?_
  rintro e w2 ⟨g, B, rfl, hB, hw, hb⟩
  have H2 := Lib.hid (And.intro ((Below.refl W1.heap.size W1).drew.trans hb) hw)
  refine hK.out _ _ (HK.out _ H2.out.1) (fun _ => ?_)
  clear hK K hHeld hB hw hb HBO hc2 hr1
  (try simp only [Act.put, List.setIfInBounds_toArray, List.set_cons_zero, List.set_cons_succ])
  refine wpTree.one (fun K hK => ?_)
  go_simp
  go_at_call 35
  refine (bytes_any B g en w2 H2.out.2 (by have := HE.out.1; omega)).mono ?_
  rintro e w3 ⟨v3, rfl, ho, hb⟩
  have H3 := Lib.hid (And.intro (H2.out.1.trans (hb.mono H2.out.1.size)) (own_bytes ho HE.out.2))
  refine hK.out _ _ (HK.out _ H3.out.1) (fun _ => ?_)
  clear hK K ho hb
  (try simp only [Act.put, List.setIfInBounds_toArray, List.set_cons_zero, List.set_cons_succ])
  refine wpTree.one (fun K hK => ?_)
  go_simp
  go_at_call 34
  refine (HOF.out v3 w3 H3.out.2).mono ?_
  rintro e w4 ⟨rfl, hb⟩
  have H4 := Lib.hid (H3.out.1.trans (hb.mono H3.out.1.size))
  refine hK.out _ _ (HK.out _ H4.out) (fun _ => ?_)
  clear hK K hb H3 H2 HOF HK
  (try simp only [Act.put, List.setIfInBounds_toArray, List.set_cons_zero, List.set_cons_succ])
  have hres := H1.out.2.2.2.2.1.next H4.out
  have hr4 := (H1.out.1.next H4.out).range
  have HOK := Lib.hid (H1.out.2.2.1.next H4.out)
  have HB := Lib.hid (H1.out.2.2.2.2.2.trans (H4.out.mono H1.out.2.2.2.2.2.size))
  have HLW := Lib.hid H1.out.2.2.2.1
  by_cases hms : m = sm
  · have q1 : ((m : Int) != (sm : Int)) = false := by simp [hms]
    have HMS := Lib.hid hms
    clear hms H1 H4
    (repeat (first | (refine wpTree.take (v := undef) (Or.inr ⟨by rfl, rfl⟩) ?_; simp only [Act.put, List.setIfInBounds_toArray, List.set_cons_zero, List.set_cons_succ]) | (refine wpTree.take (v := ?_) (Or.inl ⟨by rfl, ?_⟩) ?_; rotate_left; (focus (intro _ hS; (try dsimp only at hS); go_split_ands; (try subst hS); go_simp; (try (with_reducible rfl)); done)); simp only [Act.put, List.setIfInBounds_toArray, List.set_cons_zero, List.set_cons_succ])))
    refine wpTree.done ?_
    clear e1
    go_wp2_with (first | (refine wpList_load_mid rfl 25 _ rfl _ _ rfl (Pc.mk p A' c').cells _ hr4 Try.underlying25 rfl (pcinfo _) ?_) | (refine wpList_store_blk rfl 25 _ _ rfl W.heap.size 25 zc (Pc.mk p A' c').cells.toArray rfl rfl hres (pcinfoA _) (pc_siz _) (pc_one _) ?_; intro b5; clear b5))
    have hset := hres.setRow (Pc.mk p A' c').cells.toArray
    refine bodyPost_row_tmp (t := 25) (Pc.mk p A' c').cells.toArray (.int .i64 0) rfl rfl rfl rfl Try.underlying25 rfl (pcinfoA _) hset ?_
    refine ⟨below_setRow HB.out (Nat.le_refl _) _, Or.inl ⟨HMS.out, A', c', rfl, ?_⟩⟩
    exact ok_keep (B := W.heap.size + 7) HOK.out HLW.out (fun b hb hl => setRow_other _ _ b _ (by omega)) (by simp [World.setRow])
  · have q1 : ((m : Int) != (sm : Int)) = true := by simp; omega
    have HMS := Lib.hid hms
    clear hms H1 H4
    (repeat (first | (refine wpTree.take (v := undef) (Or.inr ⟨by rfl, rfl⟩) ?_; simp only [Act.put, List.setIfInBounds_toArray, List.set_cons_zero, List.set_cons_succ]) | (refine wpTree.take (v := ?_) (Or.inl ⟨by rfl, ?_⟩) ?_; rotate_left; (focus (intro _ hS; (try dsimp only at hS); go_split_ands; (try subst hS); go_simp; (try (with_reducible rfl)); done)); simp only [Act.put, List.setIfInBounds_toArray, List.set_cons_zero, List.set_cons_succ])))
    refine wpTree.done ?_
    clear e1
    go_wp2_with (first | (refine wpList_store_blk rfl 25 _ _ rfl W.heap.size 25 zc zc rfl rfl hres (by kernel_rfl) rfl (by simp [Value.oneCell']) ?_; intro b5; clear b5))
    have hset := hres.setRow zc
    refine bodyPost_row_tmp (t := 25) zc (.int .i64 9) rfl rfl rfl rfl Try.underlying25 rfl (by kernel_rfl) hset ?_
    exact ⟨below_setRow HB.out (Nat.le_refl _) _, Or.inr ⟨HMS.out, rfl⟩⟩
end
end Pk
end Go.Proofs.Ytbgjghgmdhnhbaa
