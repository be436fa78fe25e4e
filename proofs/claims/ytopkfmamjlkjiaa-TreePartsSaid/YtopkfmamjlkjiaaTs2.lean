/-
tree: its bytes there and back (mathematics).
-/
import Derived.Test.YtopkfmamjlkjiaaTs
import Derived.Test.YtopkfmamjlkjiaaTi2
namespace Go.Proofs.Ytopkfmamjlkjiaa
open Go.RowKit
set_option linter.unusedSimpArgs false
set_option linter.unusedVariables false
namespace Tr
def encR (k : Nat → Int) (j : Nat) : Nat → List Nat
  | 0 => []
  | m + 1 => enc (k j).toNat ++ encR k (j + 1) m
theorem encR_app (k : Nat → Int) : ∀ (m j : Nat), encK k j ++ encR k j m = encK k (j + m)
  | 0, j => by simp [encR]
  | m + 1, j => by
    show encK k j ++ (enc (k j).toNat ++ encR k (j + 1) m) = _
    rw [← List.append_assoc, ← encK_succ, encR_app k m (j + 1)]
    congr 1
    omega
theorem encR_all (k : Nat → Int) : encR k 0 12 = encK k 12 := by
  have := encR_app k 12 0
  simpa [encK] using this
theorem encR_congr {k k' : Nat → Int} : ∀ (m j : Nat), (∀ i, j ≤ i → i < j + m → k i = k' i) → encR k j m = encR k' j m
  | 0, j, h => rfl
  | m + 1, j, h => by
    show enc (k j).toNat ++ encR k (j + 1) m = enc (k' j).toNat ++ encR k' (j + 1) m
    rw [h j (Nat.le_refl _) (by omega), encR_congr m (j + 1) fun i h1 h2 => h i (by omega) (by omega)]
theorem kA_enc {u : Nat → Int} (hu : ∀ i, i < 12 → 0 ≤ u i ∧ u i ≤ 3) (r : List Nat) : ∀ (m j : Nat) (k : Nat → Int), j + m ≤ 12 → kA k j m (encR u j m ++ r) = .ok (fun i => if j ≤ i ∧ i < j + m then u i else k i, r)
  | 0, j, k, h => by
    have e : (fun i => if j ≤ i ∧ i < j + 0 then u i else k i) = k := by
      funext i
      rw [if_neg (by omega)]
    rw [e]
    rfl
  | m + 1, j, k, h => by
    have hj := hu j (by omega)
    show kA k j (m + 1) (enc (u j).toNat ++ encR u (j + 1) m ++ r) = _
    rw [List.append_assoc, kA_ok ((small_back 3 (u j).toNat (by omega) (by omega)).1 _), kA_enc hu r m (j + 1) _ (by omega)]
    congr 2
    funext i
    unfold kU
    by_cases h1 : j + 1 ≤ i ∧ i < j + 1 + m
    · rw [if_pos h1, if_pos (by omega)]
    · rw [if_neg h1]
      by_cases h2 : i = j
      · subst h2
        rw [if_pos rfl, if_pos (by omega)]
        omega
      · rw [if_neg h2, if_neg (by omega)]
theorem eA_enc (r : List Nat) : ∀ (es acc : List (Int × Int)), (∀ x ∈ es, (0 ≤ x.1 ∧ x.1 ≤ 12) ∧ 0 ≤ x.2 ∧ x.2 ≤ 12) → eA acc es.length (encE es ++ r) = .ok (acc ++ es, r)
  | [], acc, h => by rw [List.append_nil]; rfl
  | (a, b) :: es, acc, h => by
    have h1 := h (a, b) List.mem_cons_self
    dsimp at h1
    show eA acc (es.length + 1) (enc a.toNat ++ enc b.toNat ++ encE es ++ r) = _
    rw [List.append_assoc, List.append_assoc, eA_ok ((small_back 12 a.toNat (by omega) (by omega)).1 _) ((small_back 12 b.toNat (by omega) (by omega)).1 _), eA_enc r es _ fun x hx => h x (List.mem_cons_of_mem _ hx)]
    rw [show (((a.toNat : Nat) : Int), ((b.toNat : Nat) : Int)) = (a, b) by rw [Int.toNat_of_nonneg h1.1.1, Int.toNat_of_nonneg h1.2.1], List.append_assoc]
    rfl
def kF (k : Nat → Int) : Nat → Int := fun i => if i < 12 then k i else 0
theorem getP_enc {t : Tv} (h : Wk t) (hl : t.es.length ≤ 11) (r : List Nat) : getP (encTr t.k t.es ++ r) = .ok ((kF t.k, t.es), r) := by
  have h1 := kA_enc h.k (enc t.es.length ++ encE t.es ++ r) 12 0 (fun _ => 0) (by omega)
  rw [encR_all] at h1
  have e : (fun i => if 0 ≤ i ∧ i < 0 + 12 then t.k i else (fun _ => (0 : Int)) i) = kF t.k := by
    funext i
    unfold kF
    by_cases h : i < 12
    · rw [if_pos h, if_pos (by omega)]
    · rw [if_neg h, if_neg (by omega)]
  rw [e] at h1
  unfold getP encTr
  rw [show encK t.k 12 ++ enc t.es.length ++ encE t.es ++ r = encK t.k 12 ++ (enc t.es.length ++ encE t.es ++ r) by simp only [List.append_assoc], h1]
  dsimp only
  rw [List.append_assoc, (small_back 11 t.es.length (by omega) (by omega)).1]
  dsimp only
  rw [eA_enc r t.es [] h.e]
  rfl
theorem kindV_congr {k k' : Nat → Int} (h : ∀ i, i < 12 → k i = k' i) : kindV k = kindV k' := by
  funext n
  unfold kindV
  split
  · exact h _ (by omega)
  · rfl
theorem right_congr {k k' : Nat → Int} {es : List (Int × Int)} {A A' : Option Addr} {c c' : Nat} {b : Bool} (h : ∀ i, i < 12 → k i = k' i) (hr : RightP ⟨k, es, A, c⟩ b) : RightP ⟨k', es, A', c'⟩ b := by
  have e1 := kindV_congr h
  have e2 : thereB k = thereB k' := by funext n; unfold thereB; rw [e1]
  have e3 : validB k = validB k' := by funext n; unfold validB; rw [e2]
  have e4 : foundF k es = foundF k' es := by funext n; unfold foundF; rw [e3]
  have e5 : jnB ⟨k, es, A, c⟩ = jnB ⟨k', es, A', c'⟩ := by funext a b; unfold jnB; dsimp only; rw [e2, e4]
  have e6 : joinN ⟨k, es, A, c⟩ = joinN ⟨k', es, A', c'⟩ := by funext a b; unfold joinN; rw [e5]
  have e7 : allL ⟨k, es, A, c⟩ = allL ⟨k', es, A', c'⟩ := by unfold allL; dsimp only; rw [e2]
  have e8 : nextL ⟨k, es, A, c⟩ = nextL ⟨k', es, A', c'⟩ := by funext n; unfold nextL; rw [e5]
  have e9 : hangB ⟨k, es, A, c⟩ = hangB ⟨k', es, A', c'⟩ := by funext n; unfold hangB; dsimp only; rw [e1, e8]
  have e10 : anyB 12 k noKindB = anyB 12 k' noKindB := by
    unfold anyB
    refine Bool.eq_iff_iff.2 ?_
    rw [List.any_eq_true, List.any_eq_true]
    constructor
    · rintro ⟨i, hi, hq⟩; exact ⟨i, hi, by rw [← h i (List.mem_range.1 hi)]; exact hq⟩
    · rintro ⟨i, hi, hq⟩; exact ⟨i, hi, by rw [h i (List.mem_range.1 hi)]; exact hq⟩
  unfold RightP at hr ⊢
  dsimp only at hr ⊢
  rw [e6, e7, e9, e10] at hr
  exact hr
theorem right_le {t : Tv} (h : RightP t true) : t.es.length ≤ 11 := by
  have h1 := right_count h
  have h2 : (allL t).length ≤ 12 := by unfold allL thoseL; exact those_le _ 12
  omega
theorem good_enc {t : Tv} (h : RightP t true) : Good (encTr t.k t.es) (kF t.k) t.es [] := by
  refine ⟨by have := getP_enc (right_wk h) (right_le h) []; rwa [List.append_nil] at this, ?_⟩
  exact right_congr (k := t.k) (A := t.A) (c := t.c) (fun i hi => by unfold kF; rw [if_pos hi]) h
theorem encK_congr {k k' : Nat → Int} (h : ∀ i, i < 12 → k i = k' i) : encK k 12 = encK k' 12 := by
  rw [← encR_all, ← encR_all]
  exact encR_congr 12 0 fun i _ h2 => h i (by omega)
theorem kA_one : ∀ (m j : Nat) (k k' : Nat → Int) (bs t : List Nat), (∀ x ∈ bs, x < 256) → kA k j m bs = .ok (k', t) → bs = encR k' j m ++ t ∧ ∀ i, (i < j ∨ j + m ≤ i) → k' i = k i
  | 0, j, k, k', bs, t, hb, h => by
    simp only [kA, Except.ok.injEq, Prod.mk.injEq] at h
    obtain ⟨rfl, rfl⟩ := h
    exact ⟨rfl, fun i _ => rfl⟩
  | m + 1, j, k, k', bs, t, hb, h => by
    cases hv : smallP 3 bs with
    | error x => rw [kA_err hv] at h; cases h
    | ok z =>
      obtain ⟨v, u⟩ := z
      rw [kA_ok hv] at h
      have e := small_one hb hv
      have hu : ∀ x ∈ u, x < 256 := fun x hx => hb x (by rw [e]; exact List.mem_append_right _ hx)
      obtain ⟨h1, h2⟩ := kA_one m (j + 1) _ _ _ _ hu h
      have hj := h2 j (.inl (by omega))
      unfold kU at hj
      rw [if_pos rfl] at hj
      refine ⟨?_, fun i hi => ?_⟩
      · show bs = enc (k' j).toNat ++ encR k' (j + 1) m ++ t
        rw [e, List.append_assoc, ← h1, hj, Int.toNat_natCast]
      · rw [h2 i (by omega)]
        unfold kU
        rw [if_neg (by omega)]
theorem eA_one : ∀ (m : Nat) (acc es : List (Int × Int)) (bs t : List Nat), (∀ x ∈ bs, x < 256) → eA acc m bs = .ok (es, t) → ∃ r, es = acc ++ r ∧ r.length = m ∧ bs = encE r ++ t
  | 0, acc, es, bs, t, hb, h => by
    simp only [eA, Except.ok.injEq, Prod.mk.injEq] at h
    obtain ⟨rfl, rfl⟩ := h
    exact ⟨[], by simp, rfl, rfl⟩
  | m + 1, acc, es, bs, t, hb, h => by
    cases hv : smallP 12 bs with
    | error x => rw [eA_err hv] at h; cases h
    | ok z =>
      obtain ⟨a, u⟩ := z
      have e := small_one hb hv
      have hu : ∀ x ∈ u, x < 256 := fun x hx => hb x (by rw [e]; exact List.mem_append_right _ hx)
      cases hv2 : smallP 12 u with
      | error x => rw [eA_err2 hv hv2] at h; cases h
      | ok z2 =>
        obtain ⟨b, w⟩ := z2
        have e2 := small_one hu hv2
        have hw : ∀ x ∈ w, x < 256 := fun x hx => hu x (by rw [e2]; exact List.mem_append_right _ hx)
        rw [eA_ok hv hv2] at h
        obtain ⟨r, h1, h2, h3⟩ := eA_one m _ _ _ _ hw h
        refine ⟨(((a : Nat) : Int), ((b : Nat) : Int)) :: r, by rw [h1]; simp, by simp [h2], ?_⟩
        show bs = enc ((a : Nat) : Int).toNat ++ enc ((b : Nat) : Int).toNat ++ encE r ++ t
        rw [Int.toNat_natCast, Int.toNat_natCast, e, e2, h3]
        simp only [List.append_assoc]
/-- What was read is what would be written. -/
theorem getP_one {bs q : List Nat} {k : Nat → Int} {es : List (Int × Int)} (hb : ∀ x ∈ bs, x < 256) (h : getP bs = .ok ((k, es), q)) : bs = encTr k es ++ q := by
  unfold getP at h
  split at h
  · cases h
  · rename_i k1 t hk
    obtain ⟨h1, _⟩ := kA_one _ _ _ _ _ _ hb hk
    have ht : ∀ x ∈ t, x < 256 := fun x hx => hb x (by rw [h1]; exact List.mem_append_right _ hx)
    split at h
    · cases h
    · rename_i n u hn
      have h2 := small_one ht hn
      have hu : ∀ x ∈ u, x < 256 := fun x hx => ht x (by rw [h2]; exact List.mem_append_right _ hx)
      split at h
      · cases h
      · rename_i es1 r he
        obtain ⟨es2, h3, h4, h5⟩ := eA_one _ _ _ _ _ hu he
        simp only [Except.ok.injEq, Prod.mk.injEq] at h
        obtain ⟨⟨rfl, rfl⟩, rfl⟩ := h
        rw [List.nil_append] at h3
        subst h3
        unfold encTr
        rw [h1, encR_all, h2, h5, h4]
        simp only [List.append_assoc]
theorem EndT.yes {c : Nat} {W W' : World} {bs : List Nat} {e : Ending} {k : Nat → Int} {es : List (Int × Int)} (h : EndT c W bs e W') (hg : Good bs k es []) :
    e = .returned (.int .i64 0) ∧ Off c W W' ∧ ∃ A cp, Blk W' c 25 (Tv.cells ⟨k, es, A, cp⟩).toArray ∧ RowsOf ec 2 W' A es ∧ ∀ b o, A = some ⟨b, o, none⟩ → W.heap.size ≤ b := by
  rcases h with ⟨hO, ⟨kd, es', A, cp, hg', he, hX, hro⟩ | ⟨hn, _⟩⟩
  · obtain ⟨rfl, rfl, -⟩ := hg.uniq hg'
    exact ⟨he, hO, A, cp, hX, hro⟩
  · exact absurd ⟨k, es, hg⟩ hn
theorem EndT.not {c : Nat} {W W' : World} {bs : List Nat} {e : Ending} (h : EndT c W bs e W') (hg : ¬ ∃ k es, Good bs k es []) :
    ∃ x : Int, x ≠ 0 ∧ e = .returned (.int .i64 x) ∧ Off c W W' ∧ ∃ t' : Tv, Blk W' c 25 t'.cells.toArray := by
  rcases h with ⟨hO, ⟨kd, es', A, cp, hg', _⟩ | ⟨_, x, hx, he, hX⟩⟩
  · exact absurd ⟨kd, es', hg'⟩ hg
  · exact ⟨x, hx, he, hO, hX⟩
end Tr
end Go.Proofs.Ytopkfmamjlkjiaa
