/-
wire: take of any many bytes; the reader's Text.
wire: the reader's Text.
-/
import Derived.Test.YtifoheodcbjapaaWrite
import Derived.Test.YtifoheodcbjapaaPlan
namespace Go.Proofs.Ytifoheodcbjapaa
open Go.RowKit
variable {L : Nat}

theorem take_void (s c : Nat) (A : Option Addr) (W : World) (h : Rd W s (.slice A 0 c) 0 true) :
    Calls Try.prog 90 #[.pointer (some ⟨s, 0, none⟩), .int .i64 0] W fun e W' => e = .returned (.slice A 0 c) ∧ ∃ A', W' = W.setCell ⟨s, 0, none⟩ (.slice A' 0 c) := by
  obtain ⟨h0, h1, h2, hz⟩ := h
  have hz0 := hz 0
  clear hz h1 h2
  cases A with
  | none =>
    go_enter Try.func90, Try.ntmps90
    go_wp2
    go_ret
    exact ⟨rfl, _, rfl⟩
  | some a =>
    go_enter Try.func90, Try.ntmps90
    go_wp2
    all_goals go_ret
    all_goals exact ⟨rfl, _, rfl⟩

theorem take_many (s k : Nat) (bs : List Nat) (W : World) (h : RdB L W s bs) (hk : k ≤ bs.length) :
    Calls Try.prog 90 #[.pointer (some ⟨s, 0, none⟩), .int .i64 k] W fun e W' =>
      ∃ A c, e = .returned (.slice A k c) ∧ Src W' A k (u8s (bs.take k)) ∧ RdB L W' s (bs.drop k) ∧ Off s W W' := by
  obtain ⟨A, c, hR, hc, h⟩ := h
  rcases h with rfl | ⟨b, p, rfl, hb, ⟨hL, hlt⟩, hx⟩
  · obtain rfl : k = 0 := by simpa using hk
    refine (take_void s c A W hR).mono ?_
    rintro e W' ⟨rfl, A', rfl⟩
    refine ⟨A, c, rfl, ?_, ⟨A', c, hR.setRest _, by simp, Or.inl rfl⟩, (Off.refl s W).set 0 _⟩
    cases A with
    | none => exact Or.inr ⟨rfl, rfl, rfl⟩
    | some a => exact Or.inl ⟨a, rfl, fun j u hj => by simp [u8s] at hj⟩
  · refine (take_ok s bs.length c k b p 0 true W hR hk hc).mono ?_
    rintro e W' ⟨rfl, rfl⟩
    have hO : Off s W (W.setCell ⟨s, 0, none⟩ (.slice (some ⟨b, if c = k then p else p + k, none⟩) (bs.length - k) (c - k))) := (Off.refl s W).set 0 _
    have hR' := hR.setRest (.slice (some ⟨b, if c = k then p else p + k, none⟩) (bs.length - k) (c - k))
    refine ⟨_, c, rfl, Or.inl ⟨_, rfl, fun j u hj => ?_⟩, ⟨_, c - k, by rw [List.length_drop]; exact hR', by rw [List.length_drop]; omega, ?_⟩, hO⟩
    · obtain ⟨x, h1, rfl⟩ := u8s_get hj
      rw [add_plain, hO.cell (p := ⟨b, p + j, none⟩) hlt hb]
      rw [List.getElem?_take] at h1
      split at h1
      · exact hx j x h1
      · cases h1
    · by_cases h1 : c = k
      · left; exact List.length_eq_zero_iff.1 (by rw [List.length_drop]; omega)
      · right
        rw [if_neg h1] at hO ⊢
        refine ⟨b, p + k, rfl, hb, ⟨hL, Nat.lt_of_lt_of_le hlt hO.size⟩, fun i y hy => ?_⟩
        rw [hO.cell (p := ⟨b, p + k + i, none⟩) hlt hb]
        rw [List.getElem?_drop] at hy
        have := hx (k + i) y hy
        rwa [show p + (k + i) = p + k + i by omega] at this
theorem take_over (s k : Nat) (bs : List Nat) (W : World) (h : RdB L W s bs) (hk : bs.length < k) :
    Calls Try.prog 90 #[.pointer (some ⟨s, 0, none⟩), .int .i64 k] W fun e W' => e = .panicked [{ v := flt s, recovered := false }] ∧ Met' W' s 8 ∧ Off s W W' := by
  obtain ⟨A, c, hR, _, _⟩ := h
  refine (take_short s bs.length c k A 0 true W hR hk).mono ?_
  rintro e W' ⟨rfl, rfl⟩
  exact ⟨rfl, ⟨_, _, _, hR.setMet 8⟩, (Off.refl s W).set 1 _⟩

/-- What a text's bytes tell. -/
def textP (most : Int) (bs : List Nat) : Except Int (List Nat × List Nat) :=
  match smallP most bs with
  | .ok (v, t) => if v ≤ t.length then .ok (t.take v, t.drop v) else .error 8
  | .error x => .error x
def EndsT (L s : Nat) (W : World) (r : Except Int (List Nat × List Nat)) (e : Ending) (W' : World) : Prop :=
  Off s W W' ∧ match r with
  | .ok (x, t) => (∃ v, e = .returned v ∧ W'.ownsRow W.heap.size 5 1 v x.length (u8s x)) ∧ RdB L W' s t
  | .error x => e = .panicked [{ v := flt s, recovered := false }] ∧ Met' W' s x
end Go.Proofs.Ytifoheodcbjapaa
namespace Go.Proofs.Ytifoheodcbjapaa
open Go.RowKit
variable {L : Nat}

/-- An append of bytes onto a row of bytes that a call made, as a step of a planned region. -/
theorem step_append_u8 {ops : Array Oper} {o : Oper} {a : Act} {K : Act → World → Prop} {Q : Exit → Act → World → Prop} {E : Prop} (w : World) (hw : Region.wanted o (yielded ops a.tmps) = true) (s x : Operand)
    (ho : o.op = .call { callee := .builtin .append, args := #[s, x], argTypes := #[38, 38] }) (base : Nat)
    (v : Value) (n : Nat) (xs : List Value) (hs : a.eval s = v) (hown : w.ownsRow base 5 1 v n xs)
    (A : Option Addr) (m c : Nat) (news : List Value) (hx : a.eval x = .slice A m c) (hl : news.length = m) (hsrc : Src w A m news) (h1 : ∀ u ∈ news, u.oneCell' = true)
    (hbytes : n + m ≤ 140737488355328) (hbase : base ≤ w.heap.size)
    (h : ∀ v' w', w'.ownsRow base 5 1 v' (n + m) (xs ++ news) → w.grownBy w' v.ownBlock → K (a.put o.dst v') w') : if Region.wanted o (yielded ops a.tmps) = true then Oper.wp Try.prog o a w K Q else E := by
  rw [if_pos hw]
  exact wp_append_u8 w s x ho base v n xs hs hown A m c news hx hl hsrc h1 hbytes hbase fun v' w' h2 h3 _ => h v' w' h2 h3

theorem RdB.drew {W : World} {s : Nat} {bs : List Nat} (h : RdB L W s bs) : RdB L W.drew s bs := h
theorem Off.undrew {W W' : World} {s : Nat} (h : Off s W.drew W') : Off s W W' := ⟨h.os, h.tape, h.output, h.size, h.block⟩

theorem numP_left : ∀ (bs : List Nat) (b : Bool) (n : Nat) (v : Nat) (t : List Nat), numP b n bs = .ok (v, t) → t.length ≤ bs.length := by
  intro bs
  induction bs with
  | nil => intro b n v t h; simp [numP] at h
  | cons x l ih =>
    intro b n v t h
    unfold numP at h
    split at h
    · cases h
    · split at h
      · cases h
      · split at h
        · cases h; simp
        · have := ih _ _ _ _ h; simp; omega
theorem smallP_left {most : Int} {bs : List Nat} {v : Nat} {t : List Nat} (h : smallP most bs = .ok (v, t)) : t.length ≤ bs.length := by
  unfold smallP at h
  split at h
  · rename_i v' t' hn
    split at h
    · cases h; exact numP_left _ _ _ _ _ hn
    · cases h
  · cases h
theorem RdB.below {W W' : World} {s : Nat} {bs : List Nat} (h : RdB L W s bs) (hb : Below W.heap.size W W') : RdB L W' s bs := by
  obtain ⟨A, c, hR, hc, h⟩ := h
  refine ⟨A, c, ⟨(hb.cell (p := ⟨s, 0, none⟩) hR.lt).trans hR.1, (hb.cell (p := ⟨s, 1, none⟩) hR.lt).trans hR.2.1, (hb.cell (p := ⟨s, 2, none⟩) hR.lt).trans hR.2.2.1, fun i => (hb.frozen (p := ⟨s, i, none⟩) hR.lt).trans (hR.2.2.2 i)⟩, hc, h.imp id ?_⟩
  rintro ⟨b, p, e, h1, ⟨hL, h2⟩, h3⟩
  exact ⟨b, p, e, h1, ⟨hL, Nat.lt_of_lt_of_le h2 hb.size⟩, fun i x hi => (hb.cell (p := ⟨b, p + i, none⟩) h2).trans (h3 i x hi)⟩

set_option maxHeartbeats 1000000 in
set_option maxRecDepth 20000 in
theorem rtext_any (k s : Nat) (bs : List Nat) (most : Int) (W : World) (hr : Rdr W k s) (h : RdB L W s bs) (hm : most ≤ 9223372036854775807) (hlen : bs.length ≤ 140737488355328) :
    Calls Try.prog 89 #[.pointer (some ⟨k, 0, none⟩), .int .i64 most] W fun e W' => EndsT L s W (textP most bs) e W' := by
  have HB := Lib.hid h
  have HR := Lib.hid hr
  have hk := hr.2
  have HS := Lib.hid (fun (W1 : World) (hB : RdB L W1 s bs) => small_any s bs most W1 hB hm)
  have HT := Lib.hid (show textP most bs = match smallP most bs with
    | .ok (v, t) => if v ≤ t.length then .ok (t.take v, t.drop v) else .error 8
    | .error x => .error x from rfl)
  clear h hr hm
  obtain ⟨r, hrr⟩ : ∃ r, r = smallP most bs := ⟨_, rfl⟩
  obtain ⟨i, hi⟩ : ∃ i, i = textP most bs := ⟨_, rfl⟩
  have HL := Lib.hid (fun (v : Nat) (t : List Nat) (h : r = .ok (v, t)) => smallP_left (hrr ▸ h : smallP most bs = .ok (v, t)))
  rw [← hrr] at HS HT
  rw [← hi] at HT ⊢
  clear hrr hi
  match r with
  | .error x =>
    go_enter Try.func89, Try.ntmps89
    go_wp2_with (go_at_call 81; refine (on_any k s bs _ HR.out HB.out).mono ?_; rintro e w1 ⟨rfl, rfl⟩)
    refine wp_region_plan (S := (fun W' => W'.cell? ⟨k, 0, none⟩ = some (.pointer (some ⟨s, 0, none⟩)))) [(0, true), (1, true), (2, true), (3, true), (4, true), (5, true), (6, true), (7, true), (8, true), (9, false), (10, false), (11, false), (12, true)] 9999 (by kernel_rfl) (by kernel_rfl) (by kernel_rfl) (by kernel_rfl) (by kernel_rfl) (fun _ _ d _ _ h => by cases d <;> exact h) ?_ (fun hHeld => ?_); (focus (exact hk)); simp only [List.map_cons, List.map_nil, List.getElem?_toArray, List.getElem?_cons_zero, List.getElem?_cons_succ]
    (repeat (first | (refine wpPlan.take (v := undef) (Or.inr ⟨by rfl, rfl⟩) ?_; simp only [Act.put, List.setIfInBounds_toArray, List.set_cons_zero, List.set_cons_succ]) | (refine wpPlan.take (v := ?_) (Or.inl ⟨by rfl, ?_⟩) ?_; rotate_left; (focus (intro _ hS; (try dsimp only at hS); go_split_ands; (try subst hS); go_simp; (try (with_reducible rfl)); done)); simp only [Act.put, List.setIfInBounds_toArray, List.set_cons_zero, List.set_cons_succ])))
    refine wpPlan.carry (fun K hK => ?_)
    go_simp
    go_at_call 82
    refine (HS.out _ HB.out.drew).mono ?_
    rintro e w2 ⟨hO, rfl, hM⟩
    exact ⟨rfl, hO.undrew, by rw [HT.out]; exact ⟨rfl, hM⟩⟩
  | .ok (v, t) =>
    go_enter Try.func89, Try.ntmps89
    go_wp2_with (go_at_call 81; refine (on_any k s bs _ HR.out HB.out).mono ?_; rintro e w1 ⟨rfl, rfl⟩)
    refine wp_region_plan (S := (fun W' => W'.cell? ⟨k, 0, none⟩ = some (.pointer (some ⟨s, 0, none⟩)))) [(0, true), (1, true), (2, true), (3, true), (4, true), (5, true), (6, true), (7, true), (8, true), (9, false), (10, false), (11, false), (12, true)] 9999 (by kernel_rfl) (by kernel_rfl) (by kernel_rfl) (by kernel_rfl) (by kernel_rfl) (fun _ _ d _ _ h => by cases d <;> exact h) ?_ (fun hHeld => ?_); (focus (exact hk)); simp only [List.map_cons, List.map_nil, List.getElem?_toArray, List.getElem?_cons_zero, List.getElem?_cons_succ]
    (repeat (first | (refine wpPlan.take (v := undef) (Or.inr ⟨by rfl, rfl⟩) ?_; simp only [Act.put, List.setIfInBounds_toArray, List.set_cons_zero, List.set_cons_succ]) | (refine wpPlan.take (v := ?_) (Or.inl ⟨by rfl, ?_⟩) ?_; rotate_left; (focus (intro _ hS; (try dsimp only at hS); go_split_ands; (try subst hS); go_simp; (try (with_reducible rfl)); done)); simp only [Act.put, List.setIfInBounds_toArray, List.set_cons_zero, List.set_cons_succ])))
    refine wpPlan.carry (fun K hK => ?_)
    go_simp
    go_at_call 82
    refine (HS.out _ HB.out.drew).mono ?_
    rintro e w2 ⟨hO, rfl, hB2⟩
    have hk2 := (HR.out.off hO.undrew).2
    refine hK.out _ _ hk2 (fun _ => ?_)
    clear hK K
    refine wpPlan.carry (fun K hK => ?_)
    go_simp
    go_at_call 90
    have hl := HL.out v t rfl
    by_cases hv : v ≤ t.length
    · refine (take_many s v t _ hB2 hv).mono ?_
      rintro e w3 ⟨A, c, rfl, hS3, hB3, hO3⟩
      have hk3 := (HR.out.off (hO.undrew.trans hO3)).2
      refine hK.out _ _ hk3 (fun _ => ?_)
      clear hK K
      (try simp only [Act.put, List.setIfInBounds_toArray, List.set_cons_zero, List.set_cons_succ])
      refine wpPlan.carry (fun K hK => ?_)
      refine step_append_u8 _ (by rfl) _ _ rfl W.heap.size (.slice none 0 0) 0 [] rfl (World.ownsRow_nil _ _ _ _) A v c (u8s (t.take v)) rfl (by rw [u8s_len, List.length_take]; omega) hS3 (u8s_one _) (by omega) (Nat.le_trans hO.undrew.size hO3.size) ?_
      intro v' w4 hown hgrow
      have hb4 : Below w3.heap.size w3 w4 := ⟨hgrow.os, hgrow.tape, hgrow.output, hgrow.size, fun k hk => hgrow.block k hk (by simp [Value.ownBlock])⟩
      have hO4 : Off s w3 w4 := ⟨hgrow.os, hgrow.tape, hgrow.output, hgrow.size, fun k hk _ => hgrow.block k hk (by simp [Value.ownBlock])⟩
      have hk4 := (HR.out.off ((hO.undrew.trans hO3).trans hO4)).2
      refine hK.out _ _ hk4 (fun _ => ?_)
      clear hK K
      (try simp only [Act.put, List.setIfInBounds_toArray, List.set_cons_zero, List.set_cons_succ])
      (repeat (first | (refine wpPlan.take (v := undef) (Or.inr ⟨by rfl, rfl⟩) ?_; simp only [Act.put, List.setIfInBounds_toArray, List.set_cons_zero, List.set_cons_succ]) | (refine wpPlan.take (v := ?_) (Or.inl ⟨by rfl, ?_⟩) ?_; rotate_left; (focus (intro _ hS; (try dsimp only at hS); go_split_ands; (try subst hS); go_simp; (try (with_reducible rfl)); done)); simp only [Act.put, List.setIfInBounds_toArray, List.set_cons_zero, List.set_cons_succ])))
      refine wpPlan.done ?_
      clear hHeld
      have HO := Lib.hid ((hO.undrew.trans hO3).trans hO4)
      go_wp2_with fail
      go_ret
      refine ⟨HO.out, ?_⟩
      rw [HT.out, if_pos hv]
      refine ⟨⟨v', rfl, ?_⟩, hB3.below hb4⟩
      have hlen2 : (t.take v).length = v := by rw [List.length_take]; omega
      rw [hlen2]
      rw [Nat.zero_add, List.nil_append] at hown
      exact hown
    · refine (take_over s v t _ hB2 (by omega)).mono ?_
      rintro e w3 ⟨rfl, hM, hO3⟩
      exact ⟨rfl, hO.undrew.trans hO3, by rw [HT.out]; rw [if_neg hv]; exact ⟨rfl, hM⟩⟩
end Go.Proofs.Ytifoheodcbjapaa
