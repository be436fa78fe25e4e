/-
interest's laws: is a number in a list; what a law keeps in memory.
-/
import Derived.Test.YtopkfmamjlkjiaaTi3
import Derived.Test.YtopkfmamjlkjiaaTr16
namespace Go.Proofs.Ytopkfmamjlkjiaa
open Go.RowKit
set_option linter.unusedSimpArgs false
set_option linter.unusedVariables false
namespace Tr
/-- A row of nodes that may be read. -/
def Rd (W : World) (A : Option Addr) (l : List Nat) : Prop := ∀ (i n : Nat), l[i]? = some n → ∃ g o, A = some ⟨g, o, none⟩ ∧ W.cell? ⟨g, o + i, none⟩ = some (.int .i64 (n : Nat))
theorem Nds.rd {W : World} {B : Nat} {A : Option Addr} {n c : Nat} {l : List Nat} (h : Nds W B (.slice A n c) l) : Rd W A l := by
  intro i m hm
  obtain ⟨g, o, c', e, _, hc⟩ := h.at_ hm
  simp only [Value.slice.injEq] at e
  exact ⟨g, o, e.1, hc⟩
theorem Rd.take {W : World} {A : Option Addr} {l : List Nat} (h : Rd W A l) (k : Nat) : Rd W A (l.take k) := by
  intro i m hm
  rw [List.getElem?_take] at hm
  split at hm
  · exact h i m hm
  · cases hm
set_option maxRecDepth 20000 in
set_option maxHeartbeats 4000000 in
theorem in_any (W : World) {A : Option Addr} {l : List Nat} (hR : Rd W A l) (n cp : Nat) (hn : n = l.length) (hl : l.length ≤ 1000) (x : Int) :
    Calls Try.prog 28 #[.slice A n cp, .int .i64 x] W fun e W' => e = .returned (.bool (hasB l x)) ∧ W' = W := by
  have HN := Lib.hid (And.intro hn hl)
  have HR := Lib.hid hR
  obtain ⟨hb, hhb⟩ : ∃ b, b = hasB l x := ⟨_, rfl⟩
  have HB := Lib.hid hhb
  rw [← hhb]
  clear hn hl hR hhb
  go_enter Try.func28, Try.ntmps28
  go_upto_region 2 with fail
  go_loopw [5] (fun i wr => ∃ j : Nat, j ≤ n ∧ i = .int .i64 j ∧ (∀ m y, m < j → l[m]? = some y → ((y : Nat) : Int) ≠ x) ∧ wr = W) (fun i _ => n - (intOf i).toNat)
  case atStart => exact ⟨0, Nat.zero_le _, rfl, fun m y h _ => absurd h (by omega), rfl⟩
  case round =>
    obtain ⟨j, hj, rfl, hq, rfl⟩ := hrel
    have HQ := Lib.hid hq
    by_cases hlt : j < n
    · have i1 : (j : Int) < (n : Nat) := by omega
      have i2 : ¬ (j : Int) < 0 := by omega
      obtain ⟨jj, hjj⟩ : ∃ jj, jj = j + 1 := ⟨_, rfl⟩
      have HW := Lib.hid (wrap_n j jj hjj (by have := HN.out; omega))
      have HJ := Lib.hid (And.intro hjj hlt)
      obtain ⟨m, hm⟩ : ∃ m, l[j]? = some m := ⟨_, List.getElem?_eq_getElem (by rw [← HN.out.1]; exact hlt)⟩
      obtain ⟨q, qo, rfl, cm⟩ := HR.out j m hm
      have HM := Lib.hid hm
      clear hj hq hlt hjj hm
      by_cases hx : ((m : Nat) : Int) = x
      · have t1 : (((m : Nat) : Int) == x) = true := by rw [hx]; simp
        have HX := Lib.hid (show hb = true by rw [HB.out]; exact has_iff.2 ⟨m, List.mem_of_getElem? HM.out, hx⟩)
        clear hx
        go_wp2_with fail
        go_ret
        exact ⟨by (rw [HX.out]; try rfl), rfl⟩
      · have t1 : (((m : Nat) : Int) == x) = false := by simpa using hx
        have HX := Lib.hid hx
        clear hx
        go_wp2_with fail
        rw [HW.out]
        go_roundw
        case rel => exact ⟨jj, by have := HJ.out; omega, rfl, fun k y hk hy => by
          by_cases h : k = j
          · subst h
            rw [HM.out] at hy
            simp only [Option.some.injEq] at hy
            subst hy
            exact HX.out
          · exact HQ.out k y (by have := HJ.out; omega) hy, by trivial⟩
        case measure => have := HJ.out; simp [intOf]; omega
    · have i1 : ¬ (j : Int) < (n : Nat) := by omega
      have hjn : j = n := by omega
      have HX := Lib.hid (show hb = false by rw [HB.out]; exact has_no fun k y hy => hq k y (by have := (List.getElem?_eq_some_iff.1 hy).1; have := HN.out.1; omega) hy)
      clear hj hq hlt
      go_wp2_with fail
      go_ret
      exact ⟨by (rw [HX.out]; try rfl), rfl⟩
/-- Beyond, of nodes. -/
theorem beyond_nat (W : World) (t : Tv) (hr : RowsOf ec 2 W t.A t.es) (hlen : t.es.length ≤ 1000000) (n m : Nat) :
    Calls Try.prog 23 #[.agg t.cells.toArray, .int .i64 (n : Nat), .int .i64 (m : Nat)] W fun e W' => ∃ v l, e = .returned v ∧ Nds W' W.heap.size v l ∧ l.length ≤ 12 ∧ (∀ h, h ∈ l ↔ Bey (joinN t) n m h) ∧ l.Nodup ∧ Below W.heap.size W W' :=
  (beyond_any W t hr hlen (n : Nat) (m : Nat)).mono (by
    rintro e w' ⟨v, rfl, hb, ⟨h1, hN⟩ | ⟨h1, c, hN, hc⟩⟩
    · refine ⟨v, [], rfl, hN, by simp, fun h => ⟨fun h => by simp at h, fun h => ?_⟩, List.nodup_nil, hb⟩
      have h2 : jnB t (n : Nat) (m : Nat) = true := h.1
      rw [h1] at h2; cases h2
    · refine ⟨v, thoseL c, rfl, hN, those_le c 12, fun h => ?_, those_nodup c 12, hb⟩
      rw [those_mem, hc, Int.toNat_natCast, away_aw]
      constructor
      · exact fun h => ⟨h1, h.2.2⟩
      · intro h
        have := h.rng (join_gr t)
        exact ⟨this.1, this.2, h.2⟩)
/-- A tree's box, a row that came of a call, and a cart's homes. -/
structure LM (W w : World) (gx : Nat) (t : Tv) (v : Value) (O : List Nat) (u : Value) (H : List Nat) : Prop where
  bx : Blk w gx 25 t.cells.toArray
  rl : Nds w W.heap.size v O
  rh : Nds w W.heap.size u H
  bel : Below W.heap.size W w
theorem LM.next {W w w' : World} {gx : Nat} {t : Tv} {v u : Value} {O H : List Nat} (h : LM W w gx t v O u H) (hb : Below w.heap.size w w') : LM W w' gx t v O u H :=
  ⟨h.bx.next hb, h.rl.next hb, h.rh.next hb, h.bel.trans (hb.mono h.bel.size)⟩
theorem has_take {l : List Nat} {j n : Nat} (h : l.Nodup) (hn : l[j]? = some n) : hasB (l.take j) (n : Nat) = false := by
  cases hb : hasB (l.take j) (n : Nat) with
  | false => rfl
  | true =>
    exfalso
    obtain ⟨i, hi, e⟩ := List.getElem_of_mem (has_nat.1 hb)
    have hij : i < j ∧ i < l.length := by rw [List.length_take] at hi; omega
    obtain ⟨hjl, ej⟩ := List.getElem?_eq_some_iff.1 hn
    rw [List.getElem_take] at e
    exact List.pairwise_iff_getElem.1 h i j hij.2 hjl hij.1 (by rw [e, ej])
theorem kind_pos {t : Tv} {n : Int} (h : thereB t.k n = true) : kindV t.k n ≠ 0 := by
  intro e
  unfold thereB at h
  rw [e] at h
  simp at h
/-- Of a tree that may be there are no kinds but the known. -/
theorem right_kind {t : Tv} (h : RightP t true) {n : Int} (hn : kindV t.k n ≠ 0) : thereB t.k n = true := by
  have h1 : anyB 12 t.k noKindB = false := by
    rcases h with ⟨h1, h⟩ | ⟨h1, _⟩ | ⟨h1, _⟩ | ⟨h1, _⟩
    · cases h
    · exact h1
    · exact h1
    · exact h1
  have h2 : 1 ≤ n ∧ n ≤ 12 := by
    by_cases h2 : 1 ≤ n ∧ n ≤ 12
    · exact h2
    · unfold kindV at hn; rw [if_neg h2] at hn; exact absurd rfl hn
  have h3 : noKindB (kindV t.k n) = false := by
    cases hk : noKindB (kindV t.k n) with
    | false => rfl
    | true =>
      have := any_yes (n := 12) (k := t.k) (q := noKindB) (i := (n - 1).toNat) (by omega) (by
        have e : kindV t.k n = t.k (n - 1).toNat := by unfold kindV; rw [if_pos h2]
        rw [← e]; exact hk)
      rw [h1] at this; cases this
  unfold thereB
  rw [h3]
  simpa using hn
end Tr
end Go.Proofs.Ytopkfmamjlkjiaa
