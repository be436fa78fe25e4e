/-
The document's label: its dot; may it be?
The document's label of bytes.
The document's bytes of a label.
The document's op: may it be?
The document's op of bytes.
The document's event of bytes: Right, Get, Read.
The document's event of bytes: Read.
The document's bytes of an op.
-/
import Derived.Test.YtgnfachjobohoaaGreatLab
import Derived.Test.YtgnfachjobohoaaGreatRefs
import Derived.Test.YtgnfachjobohoaaGreatLPut
import Derived.Test.YtgnfachjobohoaaGreatRefR
import Derived.Test.YtgnfachjobohoaaGreatRefW
import Derived.Test.YtgnfachjobohoaaGreatOp6
namespace Go.Proofs.YtgnfachjobohoaaGreat
open Go.RowKit
set_option linter.unusedSimpArgs false
set_option linter.unusedVariables false

theorem rightR_eq (l : Lab) (hm : maxK l.f 11 ≤ 1048576) : rightL l = (decide (0 < l.t) && (decide (((l.t : Nat) : Int) ≤ 1099511627776) && (decide (0 < l.ca) && (decide (l.ca < 13) && (decide (0 ≤ l.se) && (decide (l.se < 13) && (rightB l.nd l.n && (((getN l.f l.nd : Nat) : Int) + 1 == (l.n : Nat))))))))) := by
  unfold rightL timeB placeB nextB rightB
  rw [Bool.eq_iff_iff]
  simp only [Bool.and_eq_true, decide_eq_true_eq, beq_iff_eq]
  constructor
  · intro h
    obtain ⟨⟨⟨h1, h2⟩, ⟨h7, h8⟩, h9⟩, _⟩ := h
    refine ⟨by omega, by omega, by omega, by omega, by omega, by omega, ⟨h7, by omega, by omega⟩, by omega⟩
  · intro h
    obtain ⟨h1, h2, h3, h4, h5, h6, ⟨h7, h8, h9⟩, h10⟩ := h
    refine ⟨⟨⟨⟨by omega, by omega⟩, ⟨⟨by omega, by omega⟩, by omega⟩, by omega⟩, ⟨h7, by omega⟩, by omega⟩, hm⟩
theorem getN_lt (f : Nat → Nat) (n : Int) (hf : ∀ i, f i < 4294967296) : getN f n < 4294967296 := by
  unfold getN
  split
  · exact hf _
  · decide
end Go.Proofs.YtgnfachjobohoaaGreat
namespace Go.Proofs.YtgnfachjobohoaaGreat
open Go.RowKit
set_option linter.unusedSimpArgs false
set_option linter.unusedVariables false

theorem PostP.ok {α : Type} {P : List Nat → Except Int (α × List Nat)} {bs : List Nat} {p p' : Nat} {e e' : Int} {ok : α → Prop} (h : PostP P bs p p' e e' ok) (he : e' = 0) : e = 0 ∧ ∃ x, P (bs.drop p) = .ok (x, bs.drop p') ∧ ok x := by
  have h0 : e = 0 := by
    by_cases h0 : e = 0
    · exact h0
    · exact absurd he (h.1 h0)
  have h2 := h.2 h0
  refine ⟨h0, ?_⟩
  cases hP : P (bs.drop p) with
  | error x => rw [hP] at h2; exact absurd he h2
  | ok vt =>
    obtain ⟨x, t⟩ := vt
    rw [hP] at h2
    exact ⟨x, by rw [h2.2.2], h2.1⟩
theorem PostP.no {α : Type} {P : List Nat → Except Int (α × List Nat)} {bs : List Nat} {p p' : Nat} {e e' : Int} {ok : α → Prop} (h : PostP P bs p p' e e' ok) (h0 : e = 0) (he : e' ≠ 0) : ∃ y, P (bs.drop p) = .error y := by
  have h2 := h.2 h0
  cases hP : P (bs.drop p) with
  | error x => exact ⟨x, rfl⟩
  | ok vt =>
    obtain ⟨x, t⟩ := vt
    rw [hP] at h2
    exact absurd h2.2.1 he
theorem refnum_any (k c : Nat) (A : Option Addr) (bs : List Nat) (hlen : bs.length ≤ 140737488355328) (hby : ∀ x ∈ bs, x < 256) (p : Nat) (e : Int) (W : World) (h : RS W k A c bs p e) :
    Calls Tryz.prog 25 #[.pointer (some ⟨k, 0, none⟩)] W fun r W' => ∃ (v p' : Nat) (e' : Int), r = .returned (.int .u64 (v : Nat)) ∧ RS W' k A c bs p' e' ∧ Off k W W' ∧ v < 18446744073709551616 ∧ PostP (numP true 0) bs p p' e e' (fun x => v = x) := by
  by_cases he : e = 0
  · subst he
    refine (refnum_on k c A bs hlen hby p W h).mono ?_
    rintro r w ⟨v, p', e', rfl, hS, hO, hR⟩
    cases hP : numP true 0 (bs.drop p) with
    | error x =>
      rw [hP] at hR
      exact ⟨v, p', e', rfl, hS, hO, by rw [hR.1]; decide, PostP.err hP hR.2⟩
    | ok nt =>
      obtain ⟨n, t⟩ := nt
      rw [hP] at hR
      obtain ⟨h1, rfl, h3⟩ := hR
      exact ⟨v, p', 0, rfl, hS, hO, by rw [h1]; exact numP_lt _ _ _ _ _ hP, PostP.good hP h1 h3⟩
  · refine (refnum_off k c A bs p e W h he).mono ?_
    rintro r w ⟨rfl, rfl⟩
    exact ⟨0, p, e, rfl, h, Off.refl _ _, by decide, PostP.bad he he⟩
/-- Six parts make a label, or none. -/
theorem lab_post {bs : List Nat} {p p1 p2 p3 p4 p5 p6 : Nat} {e e1 e2 e3 e4 e5 e6 : Int} {t nd n ca se : Nat} {l : List Nat}
    (P1 : PostP (numP true 0) bs p p1 e e1 (fun x => t = x)) (P2 : PostP (smallP (12 : Nat)) bs p1 p2 e1 e2 (fun x => nd = x)) (P3 : PostP (smallP (1048576 : Nat)) bs p2 p3 e2 e3 (fun x => n = x)) (P4 : PostP (smallP (12 : Nat)) bs p3 p4 e3 e4 (fun x => ca = x)) (P5 : PostP (smallP (12 : Nat)) bs p4 p5 e4 e5 (fun x => se = x)) (P6 : PostP vectorP bs p5 p6 e5 e6 (fun x => l = x)) :
    (e6 = 0 → e = 0 ∧ labP (bs.drop p) = if rightL (Lab.mk t (nd : Nat) n (ca : Nat) (se : Nat) (lv l)) then .ok (Lab.mk t (nd : Nat) n (ca : Nat) (se : Nat) (lv l), bs.drop p6) else .error 3) ∧ (e6 ≠ 0 → e = 0 → ∃ y, labP (bs.drop p) = .error y) := by
  have big : ∀ (v : Nat) (u : List Nat), numP true 0 (bs.drop p) = .ok (v, u) → ¬ v ≤ 1099511627776 → labP (bs.drop p) = .error 3 := fun v u h hv => by
    rw [labP_def]
    exact bindP_err (smallP_n (most := 1099511627776) h hv)
  constructor
  · intro h6
    obtain ⟨h5, l', r6, rfl⟩ := P6.ok h6
    obtain ⟨h4, se', r5, rfl⟩ := P5.ok h5
    obtain ⟨h3, ca', r4, rfl⟩ := P4.ok h4
    obtain ⟨h2, n', r3, rfl⟩ := P3.ok h3
    obtain ⟨h1, nd', r2, rfl⟩ := P2.ok h2
    obtain ⟨h0, t', r1, rfl⟩ := P1.ok h1
    refine ⟨h0, ?_⟩
    by_cases ht : t ≤ 1099511627776
    · rw [labP_def]
      refine (bindP_ok (smallP_y (most := 1099511627776) r1 ht)).trans ?_
      refine (bindP_ok r2).trans ?_
      refine (bindP_ok r3).trans ?_
      refine (bindP_ok r4).trans ?_
      refine (bindP_ok r5).trans ?_
      exact bindP_ok r6
    · rw [big _ _ r1 ht, if_neg]
      unfold rightL timeB
      simp only [Bool.and_eq_true, decide_eq_true_eq]
      intro h
      exact ht h.1.1.1.2
  · intro h6 h0
    by_cases h1 : e1 = 0
    · obtain ⟨_, t', r1, rfl⟩ := P1.ok h1
      by_cases ht : t ≤ 1099511627776
      · have s1 := smallP_y (most := 1099511627776) r1 ht
        rw [labP_def]
        by_cases h2 : e2 = 0
        · obtain ⟨_, x2, r2, rfl⟩ := P2.ok h2
          by_cases h3 : e3 = 0
          · obtain ⟨_, x3, r3, rfl⟩ := P3.ok h3
            by_cases h4 : e4 = 0
            · obtain ⟨_, x4, r4, rfl⟩ := P4.ok h4
              by_cases h5 : e5 = 0
              · obtain ⟨_, x5, r5, rfl⟩ := P5.ok h5
                obtain ⟨y, hy⟩ := P6.no h5 h6
                exact ⟨y, ((bindP_ok s1).trans ((bindP_ok r2).trans ((bindP_ok r3).trans ((bindP_ok r4).trans (bindP_ok r5))))).trans (bindP_err hy)⟩
              · obtain ⟨y, hy⟩ := P5.no h4 h5
                exact ⟨y, ((bindP_ok s1).trans ((bindP_ok r2).trans ((bindP_ok r3).trans (bindP_ok r4)))).trans (bindP_err hy)⟩
            · obtain ⟨y, hy⟩ := P4.no h3 h4
              exact ⟨y, ((bindP_ok s1).trans ((bindP_ok r2).trans (bindP_ok r3))).trans (bindP_err hy)⟩
          · obtain ⟨y, hy⟩ := P3.no h2 h3
            exact ⟨y, ((bindP_ok s1).trans (bindP_ok r2)).trans (bindP_err hy)⟩
        · obtain ⟨y, hy⟩ := P2.no h1 h2
          exact ⟨y, (bindP_ok s1).trans (bindP_err hy)⟩
      · exact ⟨3, big _ _ r1 ht⟩
    · obtain ⟨y, hy⟩ := P1.no h0 h1
      exact ⟨y, by rw [labP_def]; exact bindP_err (smallP_e (most := 1099511627776) hy)⟩
/-- Where what lies. -/
structure PlR (k g : Nat) (A : Option Addr) (bs : List Nat) (n : Nat) : Prop where
  (k : k < n) (g : n < g) (low : bs ≠ [] → ∀ b q, A = some ⟨b, q, none⟩ → b < n)
theorem rlab_siz (l : Lab) : (#[.int .u64 0, .int .i64 0, .int .u32 0, .int .i64 0, .int .i64 0, .int .u32 0, .int .u32 0, .int .u32 0, .int .u32 0, .int .u32 0, .int .u32 0, .int .u32 0, .int .u32 0, .int .u32 0, .int .u32 0, .int .u32 0, .int .u32 0] : Array Value).size = l.cells.toArray.size := show 17 = l.cells.toArray.size by rw [List.size_toArray, lab_len]
end Go.Proofs.YtgnfachjobohoaaGreat
namespace Go.Proofs.YtgnfachjobohoaaGreat
open Go.RowKit
set_option linter.unusedSimpArgs false
set_option linter.unusedVariables false
/-- A row of bytes that is ours, made after x. -/
def Own8 (B : Nat) (x w : World) (v : Value) (ds : List Nat) : Prop := w.ownsRow B 5 1 v ds.length (u8s ds) ∧ Below B x w
theorem Own8.first {x w : World} {v : Value} {ds : List Nat} (h : Made x w v ds) : Own8 x.heap.size x w v ds := h
theorem Own8.more {B : Nat} {x w w2 w3 : World} {v v2 v3 : Value} {ds es : List Nat} {n : Nat} (hB : B = x.heap.size) (h : Own8 B x w v ds) (h2 : Made w w2 v2 es) (hn : n = es.length) (hown : w3.ownsRow B 5 1 v3 (ds.length + n) (u8s ds ++ u8s es)) (hg : w2.grownBy w3 v.ownBlock) : Own8 B x w3 v3 (ds ++ es) := by
  subst hn hB
  refine ⟨by rw [List.length_append, u8s_app]; exact hown, (h.2.trans (h2.2.mono h.2.size)).trans (grown_below (own_next h.1 h2.2 h.2.size) hg (Nat.le_trans h.2.size h2.2.size))⟩
end Go.Proofs.YtgnfachjobohoaaGreat
namespace Go.Proofs.YtgnfachjobohoaaGreat
open Go.RowKit
set_option linter.unusedSimpArgs false
set_option linter.unusedVariables false
def rmayB (o : OpR) : Bool :=
  match o with
  | ⟨k, s, q, p⟩ => if k = 1 then (!((p : Int) != 0) && (!(decide (q < 1)) && (!(decide (1000 < q)) && ((decide (0 < s)) && ((decide (s ≤ 40))))))) else if k = 2 then (!((p : Int) != 0) && (!(decide (q < -1000)) && (!(decide (1000 < q)) && (!(q == 0) && ((decide (0 < s)) && ((decide (s ≤ 40)))))))) else if k = 5 then (!((p : Int) != 0) && (!(decide (q < 1)) && (!(decide (3 < q)) && ((decide (0 < s)) && ((decide (s ≤ 40))))))) else if k = 3 then (!((p : Int) != 0) && (!(decide (q < 0)) && (!(decide (0 < q)) && ((decide (0 < s)) && ((decide (s ≤ 40))))))) else if k = 4 then (!((p : Int) != 0) && (!(decide (q < 0)) && (!(decide (0 < q)) && ((s == 0))))) else if k = 6 then (!(decide (q < 0)) && (!(decide (0 < q)) && ((decide (0 < s)) && ((decide (s ≤ 40)))))) else false
theorem rmayB_1 (s q : Int) (p : Nat) : rmayB ⟨1, s, q, p⟩ = (!((p : Int) != 0) && (!(decide (q < 1)) && (!(decide (1000 < q)) && ((decide (0 < s)) && ((decide (s ≤ 40))))))) := rfl
theorem rmayB_2 (s q : Int) (p : Nat) : rmayB ⟨2, s, q, p⟩ = (!((p : Int) != 0) && (!(decide (q < -1000)) && (!(decide (1000 < q)) && (!(q == 0) && ((decide (0 < s)) && ((decide (s ≤ 40)))))))) := rfl
theorem rmayB_5 (s q : Int) (p : Nat) : rmayB ⟨5, s, q, p⟩ = (!((p : Int) != 0) && (!(decide (q < 1)) && (!(decide (3 < q)) && ((decide (0 < s)) && ((decide (s ≤ 40))))))) := rfl
theorem rmayB_3 (s q : Int) (p : Nat) : rmayB ⟨3, s, q, p⟩ = (!((p : Int) != 0) && (!(decide (q < 0)) && (!(decide (0 < q)) && ((decide (0 < s)) && ((decide (s ≤ 40))))))) := rfl
theorem rmayB_4 (s q : Int) (p : Nat) : rmayB ⟨4, s, q, p⟩ = (!((p : Int) != 0) && (!(decide (q < 0)) && (!(decide (0 < q)) && ((s == 0))))) := rfl
theorem rmayB_6 (s q : Int) (p : Nat) : rmayB ⟨6, s, q, p⟩ = (!(decide (q < 0)) && (!(decide (0 < q)) && ((decide (0 < s)) && ((decide (s ≤ 40)))))) := rfl
theorem rmayB_no {k : Int} (s q : Int) (p : Nat) (h : k ≠ 1 ∧ k ≠ 2 ∧ k ≠ 5 ∧ k ≠ 3 ∧ k ≠ 4 ∧ k ≠ 6) : rmayB ⟨k, s, q, p⟩ = false := by
  unfold rmayB
  obtain ⟨h1, h2, h3, h4, h5, h6⟩ := h
  simp [h1, h2, h3, h4, h5, h6]
set_option maxRecDepth 20000 in
set_option maxHeartbeats 8000000 in
theorem rmay6_any (o : OpR) (W : World) : Calls Tryz.prog 40 #[.agg o.plain.toArray] W fun e W' => e = .returned (.bool (rmayB o)) ∧ Below W.heap.size W W' := by
  obtain ⟨k, s, q, p⟩ := o
  rw [plain_arr]
  have HB := Lib.hid ((Below.refl W.heap.size W).alloc (Nat.le_refl _) (.cells #[.int .i64 k, .int .i64 s, .int .i64 q, .int .u64 (p : Nat)] 35))
  by_cases k1 : k = 1
  · subst k1
    dsimp only
    cases hp : ((p : Int) != 0) with
    | false =>
      cases hlo : decide (q < 1) with
      | false =>
        cases hhi : decide (1000 < q) with
        | false =>
          cases hs1 : decide (0 < s) with
          | false =>
            go_enter Tryz.func40, Tryz.ntmps40
            go_wp2_with fail
            go_ret
            exact ⟨by rw [show rmayB ⟨1, s, q, p⟩ = false from by rw [rmayB_1, hp, hlo, hhi, hs1]; simp] <;> rfl, HB.out⟩
          | true =>
            cases hs2 : decide (s ≤ 40) with
            | false =>
              go_enter Tryz.func40, Tryz.ntmps40
              go_wp2_with fail
              go_ret
              exact ⟨by rw [show rmayB ⟨1, s, q, p⟩ = false from by rw [rmayB_1, hp, hlo, hhi, hs1, hs2]; simp] <;> rfl, HB.out⟩
            | true =>
              go_enter Tryz.func40, Tryz.ntmps40
              go_wp2_with fail
              go_ret
              exact ⟨by rw [show rmayB ⟨1, s, q, p⟩ = true from by rw [rmayB_1, hp, hlo, hhi, hs1, hs2]; rfl] <;> rfl, HB.out⟩
        | true =>
          go_enter Tryz.func40, Tryz.ntmps40
          go_wp2_with fail
          go_ret
          exact ⟨by rw [show rmayB ⟨1, s, q, p⟩ = false from by rw [rmayB_1, hp, hlo, hhi]; simp] <;> rfl, HB.out⟩
      | true =>
        go_enter Tryz.func40, Tryz.ntmps40
        go_wp2_with fail
        go_ret
        exact ⟨by rw [show rmayB ⟨1, s, q, p⟩ = false from by rw [rmayB_1, hp, hlo]; simp] <;> rfl, HB.out⟩
    | true =>
      go_enter Tryz.func40, Tryz.ntmps40
      go_wp2_with fail
      go_ret
      exact ⟨by rw [show rmayB ⟨1, s, q, p⟩ = false from by rw [rmayB_1, hp]; simp] <;> rfl, HB.out⟩
  by_cases k2 : k = 2
  · subst k2
    dsimp only
    cases hp : ((p : Int) != 0) with
    | false =>
      cases hlo : decide (q < -1000) with
      | false =>
        cases hhi : decide (1000 < q) with
        | false =>
          cases hq0 : (q == 0) with
          | false =>
            cases hs1 : decide (0 < s) with
            | false =>
              go_enter Tryz.func40, Tryz.ntmps40
              go_wp2_with fail
              go_ret
              exact ⟨by rw [show rmayB ⟨2, s, q, p⟩ = false from by rw [rmayB_2, hp, hlo, hhi, hq0, hs1]; simp] <;> rfl, HB.out⟩
            | true =>
              cases hs2 : decide (s ≤ 40) with
              | false =>
                go_enter Tryz.func40, Tryz.ntmps40
                go_wp2_with fail
                go_ret
                exact ⟨by rw [show rmayB ⟨2, s, q, p⟩ = false from by rw [rmayB_2, hp, hlo, hhi, hq0, hs1, hs2]; simp] <;> rfl, HB.out⟩
              | true =>
                go_enter Tryz.func40, Tryz.ntmps40
                go_wp2_with fail
                go_ret
                exact ⟨by rw [show rmayB ⟨2, s, q, p⟩ = true from by rw [rmayB_2, hp, hlo, hhi, hq0, hs1, hs2]; rfl] <;> rfl, HB.out⟩
          | true =>
            go_enter Tryz.func40, Tryz.ntmps40
            go_wp2_with fail
            go_ret
            exact ⟨by rw [show rmayB ⟨2, s, q, p⟩ = false from by rw [rmayB_2, hp, hlo, hhi, hq0]; simp] <;> rfl, HB.out⟩
        | true =>
          go_enter Tryz.func40, Tryz.ntmps40
          go_wp2_with fail
          go_ret
          exact ⟨by rw [show rmayB ⟨2, s, q, p⟩ = false from by rw [rmayB_2, hp, hlo, hhi]; simp] <;> rfl, HB.out⟩
      | true =>
        go_enter Tryz.func40, Tryz.ntmps40
        go_wp2_with fail
        go_ret
        exact ⟨by rw [show rmayB ⟨2, s, q, p⟩ = false from by rw [rmayB_2, hp, hlo]; simp] <;> rfl, HB.out⟩
    | true =>
      go_enter Tryz.func40, Tryz.ntmps40
      go_wp2_with fail
      go_ret
      exact ⟨by rw [show rmayB ⟨2, s, q, p⟩ = false from by rw [rmayB_2, hp]; simp] <;> rfl, HB.out⟩
  by_cases k5 : k = 5
  · subst k5
    dsimp only
    cases hp : ((p : Int) != 0) with
    | false =>
      cases hlo : decide (q < 1) with
      | false =>
        cases hhi : decide (3 < q) with
        | false =>
          cases hs1 : decide (0 < s) with
          | false =>
            go_enter Tryz.func40, Tryz.ntmps40
            go_wp2_with fail
            go_ret
            exact ⟨by rw [show rmayB ⟨5, s, q, p⟩ = false from by rw [rmayB_5, hp, hlo, hhi, hs1]; simp] <;> rfl, HB.out⟩
          | true =>
            cases hs2 : decide (s ≤ 40) with
            | false =>
              go_enter Tryz.func40, Tryz.ntmps40
              go_wp2_with fail
              go_ret
              exact ⟨by rw [show rmayB ⟨5, s, q, p⟩ = false from by rw [rmayB_5, hp, hlo, hhi, hs1, hs2]; simp] <;> rfl, HB.out⟩
            | true =>
              go_enter Tryz.func40, Tryz.ntmps40
              go_wp2_with fail
              go_ret
              exact ⟨by rw [show rmayB ⟨5, s, q, p⟩ = true from by rw [rmayB_5, hp, hlo, hhi, hs1, hs2]; rfl] <;> rfl, HB.out⟩
        | true =>
          go_enter Tryz.func40, Tryz.ntmps40
          go_wp2_with fail
          go_ret
          exact ⟨by rw [show rmayB ⟨5, s, q, p⟩ = false from by rw [rmayB_5, hp, hlo, hhi]; simp] <;> rfl, HB.out⟩
      | true =>
        go_enter Tryz.func40, Tryz.ntmps40
        go_wp2_with fail
        go_ret
        exact ⟨by rw [show rmayB ⟨5, s, q, p⟩ = false from by rw [rmayB_5, hp, hlo]; simp] <;> rfl, HB.out⟩
    | true =>
      go_enter Tryz.func40, Tryz.ntmps40
      go_wp2_with fail
      go_ret
      exact ⟨by rw [show rmayB ⟨5, s, q, p⟩ = false from by rw [rmayB_5, hp]; simp] <;> rfl, HB.out⟩
  by_cases k3 : k = 3
  · subst k3
    dsimp only
    cases hp : ((p : Int) != 0) with
    | false =>
      cases hlo : decide (q < 0) with
      | false =>
        cases hhi : decide (0 < q) with
        | false =>
          cases hs1 : decide (0 < s) with
          | false =>
            go_enter Tryz.func40, Tryz.ntmps40
            go_wp2_with fail
            go_ret
            exact ⟨by rw [show rmayB ⟨3, s, q, p⟩ = false from by rw [rmayB_3, hp, hlo, hhi, hs1]; simp] <;> rfl, HB.out⟩
          | true =>
            cases hs2 : decide (s ≤ 40) with
            | false =>
              go_enter Tryz.func40, Tryz.ntmps40
              go_wp2_with fail
              go_ret
              exact ⟨by rw [show rmayB ⟨3, s, q, p⟩ = false from by rw [rmayB_3, hp, hlo, hhi, hs1, hs2]; simp] <;> rfl, HB.out⟩
            | true =>
              go_enter Tryz.func40, Tryz.ntmps40
              go_wp2_with fail
              go_ret
              exact ⟨by rw [show rmayB ⟨3, s, q, p⟩ = true from by rw [rmayB_3, hp, hlo, hhi, hs1, hs2]; rfl] <;> rfl, HB.out⟩
        | true =>
          go_enter Tryz.func40, Tryz.ntmps40
          go_wp2_with fail
          go_ret
          exact ⟨by rw [show rmayB ⟨3, s, q, p⟩ = false from by rw [rmayB_3, hp, hlo, hhi]; simp] <;> rfl, HB.out⟩
      | true =>
        go_enter Tryz.func40, Tryz.ntmps40
        go_wp2_with fail
        go_ret
        exact ⟨by rw [show rmayB ⟨3, s, q, p⟩ = false from by rw [rmayB_3, hp, hlo]; simp] <;> rfl, HB.out⟩
    | true =>
      go_enter Tryz.func40, Tryz.ntmps40
      go_wp2_with fail
      go_ret
      exact ⟨by rw [show rmayB ⟨3, s, q, p⟩ = false from by rw [rmayB_3, hp]; simp] <;> rfl, HB.out⟩
  by_cases k4 : k = 4
  · subst k4
    dsimp only
    cases hp : ((p : Int) != 0) with
    | false =>
      cases hlo : decide (q < 0) with
      | false =>
        cases hhi : decide (0 < q) with
        | false =>
          cases hs : (s == 0) with
          | false =>
            go_enter Tryz.func40, Tryz.ntmps40
            go_wp2_with fail
            go_ret
            exact ⟨by rw [show rmayB ⟨4, s, q, p⟩ = false from by rw [rmayB_4, hp, hlo, hhi, hs]; simp] <;> rfl, HB.out⟩
          | true =>
            go_enter Tryz.func40, Tryz.ntmps40
            go_wp2_with fail
            go_ret
            exact ⟨by rw [show rmayB ⟨4, s, q, p⟩ = true from by rw [rmayB_4, hp, hlo, hhi, hs]; rfl] <;> rfl, HB.out⟩
        | true =>
          go_enter Tryz.func40, Tryz.ntmps40
          go_wp2_with fail
          go_ret
          exact ⟨by rw [show rmayB ⟨4, s, q, p⟩ = false from by rw [rmayB_4, hp, hlo, hhi]; simp] <;> rfl, HB.out⟩
      | true =>
        go_enter Tryz.func40, Tryz.ntmps40
        go_wp2_with fail
        go_ret
        exact ⟨by rw [show rmayB ⟨4, s, q, p⟩ = false from by rw [rmayB_4, hp, hlo]; simp] <;> rfl, HB.out⟩
    | true =>
      go_enter Tryz.func40, Tryz.ntmps40
      go_wp2_with fail
      go_ret
      exact ⟨by rw [show rmayB ⟨4, s, q, p⟩ = false from by rw [rmayB_4, hp]; simp] <;> rfl, HB.out⟩
  by_cases k6 : k = 6
  · subst k6
    dsimp only
    cases hlo : decide (q < 0) with
    | false =>
      cases hhi : decide (0 < q) with
      | false =>
        cases hs1 : decide (0 < s) with
        | false =>
          go_enter Tryz.func40, Tryz.ntmps40
          go_wp2_with fail
          go_ret
          exact ⟨by rw [show rmayB ⟨6, s, q, p⟩ = false from by rw [rmayB_6, hlo, hhi, hs1]; simp] <;> rfl, HB.out⟩
        | true =>
          cases hs2 : decide (s ≤ 40) with
          | false =>
            go_enter Tryz.func40, Tryz.ntmps40
            go_wp2_with fail
            go_ret
            exact ⟨by rw [show rmayB ⟨6, s, q, p⟩ = false from by rw [rmayB_6, hlo, hhi, hs1, hs2]; simp] <;> rfl, HB.out⟩
          | true =>
            go_enter Tryz.func40, Tryz.ntmps40
            go_wp2_with fail
            go_ret
            exact ⟨by rw [show rmayB ⟨6, s, q, p⟩ = true from by rw [rmayB_6, hlo, hhi, hs1, hs2]; rfl] <;> rfl, HB.out⟩
      | true =>
        go_enter Tryz.func40, Tryz.ntmps40
        go_wp2_with fail
        go_ret
        exact ⟨by rw [show rmayB ⟨6, s, q, p⟩ = false from by rw [rmayB_6, hlo, hhi]; simp] <;> rfl, HB.out⟩
    | true =>
      go_enter Tryz.func40, Tryz.ntmps40
      go_wp2_with fail
      go_ret
      exact ⟨by rw [show rmayB ⟨6, s, q, p⟩ = false from by rw [rmayB_6, hlo]; simp] <;> rfl, HB.out⟩
  have j1 : (k == 1) = false := by simpa using k1
  have j2 : (k == 2) = false := by simpa using k2
  have j5 : (k == 5) = false := by simpa using k5
  have j3 : (k == 3) = false := by simpa using k3
  have j4 : (k == 4) = false := by simpa using k4
  have j6 : (k == 6) = false := by simpa using k6
  rw [rmayB_no s q p ⟨k1, k2, k5, k3, k4, k6⟩]
  clear k1 k2 k5 k3 k4 k6
  go_enter Tryz.func40, Tryz.ntmps40
  go_wp2_with fail
  go_ret
  exact ⟨rfl, HB.out⟩
theorem rmayB_eq (o : OpR) : rmayB o = mayO o := by
  obtain ⟨k, s, q, p⟩ := o
  unfold mayO
  by_cases k1 : k = 1
  · subst k1
    rw [rmayB_1]
    simp [sameO, partsO, bodyB, withinB, hasS, hasQ, hasP, Num.sameB]
    rw [Bool.eq_iff_iff]
    simp
    omega
  by_cases k2 : k = 2
  · subst k2
    rw [rmayB_2]
    simp [sameO, partsO, bodyB, withinB, hasS, hasQ, hasP, Num.sameB]
    rw [Bool.eq_iff_iff]
    simp
    omega
  by_cases k5 : k = 5
  · subst k5
    rw [rmayB_5]
    simp [sameO, partsO, bodyB, withinB, hasS, hasQ, hasP, Num.sameB]
    rw [Bool.eq_iff_iff]
    simp
    omega
  by_cases k3 : k = 3
  · subst k3
    rw [rmayB_3]
    simp [sameO, partsO, bodyB, withinB, hasS, hasQ, hasP, Num.sameB]
    rw [Bool.eq_iff_iff]
    simp
    omega
  by_cases k4 : k = 4
  · subst k4
    rw [rmayB_4]
    simp [sameO, partsO, bodyB, withinB, hasS, hasQ, hasP, Num.sameB]
    rw [Bool.eq_iff_iff]
    simp
    omega
  by_cases k6 : k = 6
  · subst k6
    rw [rmayB_6]
    simp [sameO, partsO, bodyB, withinB, hasS, hasQ, hasP, Num.sameB]
    rw [Bool.eq_iff_iff]
    simp
    omega
  rw [rmayB_no s q p ⟨k1, k2, k5, k3, k4, k6⟩]
  simp [bodyB, k1, k2, k5, k3, k4, k6]
end Go.Proofs.YtgnfachjobohoaaGreat
namespace Go.Proofs.YtgnfachjobohoaaGreat
open Go.RowKit
set_option linter.unusedSimpArgs false
set_option linter.unusedVariables false
attribute [local go_sem] Tot.run_store_float
/-- In the middle of a read into a box of some type. -/
def AtG (T : TypeId) (z : Array Value) (k g c : Nat) (A : Option Addr) (bs : List Nat) (W wx : World) (p : Nat) (e : Int) (cs : Array Value) : Prop :=
  RS wx k A c bs p e ∧ Blk wx g T cs ∧ Blk wx W.heap.size T z ∧ Off k W wx
section
variable {T : TypeId} {z : Array Value} {k g c : Nat} {A : Option Addr} {bs : List Nat} {W wx wy : World} {p p' : Nat} {e e' : Int} {cs : Array Value}
theorem AtG.set (P : PlR k g A bs W.heap.size) (h : AtG T z k g c A bs W wx p e cs) (j : Nat) (u : Value) : AtG T z k g c A bs W (wx.setCell ⟨g, j, none⟩ u) p e (cs.setIfInBounds j u) :=
  ⟨h.1.off ((Off.refl g wx).set j u) (by have := P.k; have := P.g; omega) (fun hbs b q hA hb => by have := P.low hbs b q hA; have := P.g; omega), h.2.1.setCell j u, h.2.2.1.far (by show W.heap.size ≠ g; have := P.g; omega) u, h.2.2.2.far (by have := P.g; omega) j u⟩
theorem AtG.row (P : PlR k g A bs W.heap.size) (h : AtG T z k g c A bs W wx p e cs) (ds : Array Value) : AtG T z k g c A bs W (wx.setRow g ds) p e ds :=
  ⟨h.1.off (j := g) ⟨rfl, rfl, rfl, by simp, fun j _ hj => setRow_other wx g j ds hj⟩ (by have := P.k; have := P.g; omega) (fun hbs b q hA hb => by have := P.low hbs b q hA; have := P.g; omega), h.2.1.setRow ds, h.2.2.1.farRow (by have := P.g; omega) ds, h.2.2.2.turn (Nat.le_of_lt P.g) rfl rfl rfl (by simp) (fun j hj => setRow_other wx g j ds hj)⟩
theorem AtG.sets (P : PlR k g A bs W.heap.size) : ∀ (vs : List Value) (j : Nat) (wx : World) (cs : Array Value), AtG T z k g c A bs W wx p e cs → AtG T z k g c A bs W (wx.setCells g j vs) p e (setL cs j vs)
  | [], _, _, _, h => h
  | v :: r, j, _, _, h => AtG.sets P r (j + 1) _ _ (h.set P j v)
theorem AtG.step (P : PlR k g A bs W.heap.size) (h : AtG T z k g c A bs W wx p e cs) (hO : Off k wx wy) (hS : RS wy k A c bs p' e') : AtG T z k g c A bs W wy p' e' cs :=
  ⟨hS, hO.blk h.2.1 (by have := P.k; have := P.g; omega), hO.blk h.2.2.1 (by have := P.k; omega), h.2.2.2.trans hO⟩
theorem AtG.next (P : PlR k g A bs W.heap.size) (h : AtG T z k g c A bs W wx p e cs) (hb : Below wx.heap.size wx wy) : AtG T z k g c A bs W wy p e cs := h.step P (Off.ofBelow hb) (h.1.next hb)
theorem AtG.res (P : PlR k g A bs W.heap.size) (h : AtG T z k g c A bs W wx p e cs) (ds : Array Value) : RS (wx.setRow W.heap.size ds) k A c bs p e ∧ Off k W (wx.setRow W.heap.size ds) :=
  ⟨h.1.off (j := W.heap.size) ⟨rfl, rfl, rfl, by simp, fun j _ hj => setRow_other wx W.heap.size j ds hj⟩ (by have := P.k; omega) (fun hbs b q hA hb => by have := P.low hbs b q hA; omega), h.2.2.2.turn (Nat.le_refl _) rfl rfl rfl (by simp) (fun j hj => setRow_other wx W.heap.size j ds hj)⟩
end
theorem PostP.pure {α : Type} (x0 : α) (bs : List Nat) (p : Nat) (e : Int) : PostP (pureP x0) bs p p e e (fun x => x0 = x) := ⟨id, fun h => ⟨rfl, h, rfl⟩⟩
/-- Four parts make an op, or none. -/
theorem op_post {bs : List Nat} {p p1 p2 p3 p4 : Nat} {e e1 e2 e3 e4 : Int} {k s b : Nat} {q : Int}
    (P1 : PostP (smallP (6 : Nat)) bs p p1 e e1 (fun x => k = x)) (P2 : PostP (if hasS (k : Nat) then smallP (40 : Nat) else pureP 0) bs p1 p2 e1 e2 (fun x => s = x)) (P3 : PostP (if hasQ (k : Nat) then intP else pureP 0) bs p2 p3 e2 e3 (fun x => q = x)) (P4 : PostP (if hasP (k : Nat) then floatP else pureP 0) bs p3 p4 e3 e4 (fun x => b = x)) :
    (e4 = 0 → e = 0 ∧ opP (bs.drop p) = if mayO ⟨(k : Nat), (s : Nat), q, b⟩ then .ok (⟨(k : Nat), (s : Nat), q, b⟩, bs.drop p4) else .error 3) ∧ (e4 ≠ 0 → e = 0 → ∃ y, opP (bs.drop p) = .error y) := by
  constructor
  · intro h4
    obtain ⟨h3, b', r4, rfl⟩ := P4.ok h4
    obtain ⟨h2, q', r3, rfl⟩ := P3.ok h3
    obtain ⟨h1, s', r2, rfl⟩ := P2.ok h2
    obtain ⟨h0, k', r1, rfl⟩ := P1.ok h1
    refine ⟨h0, ?_⟩
    rw [opP_def]
    refine (bindP_ok r1).trans ?_
    refine (bindP_ok r2).trans ?_
    refine (bindP_ok r3).trans ?_
    exact bindP_ok r4
  · intro h4 h0
    rw [opP_def]
    by_cases h1 : e1 = 0
    · obtain ⟨_, k', r1, rfl⟩ := P1.ok h1
      by_cases h2 : e2 = 0
      · obtain ⟨_, s', r2, rfl⟩ := P2.ok h2
        by_cases h3 : e3 = 0
        · obtain ⟨_, q', r3, rfl⟩ := P3.ok h3
          obtain ⟨y, hy⟩ := P4.no h3 h4
          exact ⟨y, ((bindP_ok r1).trans ((bindP_ok r2).trans (bindP_ok r3))).trans (bindP_err hy)⟩
        · obtain ⟨y, hy⟩ := P3.no h2 h3
          exact ⟨y, ((bindP_ok r1).trans (bindP_ok r2)).trans (bindP_err hy)⟩
      · obtain ⟨y, hy⟩ := P2.no h1 h2
        exact ⟨y, (bindP_ok r1).trans (bindP_err hy)⟩
    · obtain ⟨y, hy⟩ := P1.no h0 h1
      exact ⟨y, bindP_err hy⟩
theorem pinfoL6 (o : OpR) : (Tryz.prog.info? 35).map (·.size) = some o.plain.length := by rw [plain_len]; kernel_rfl
theorem pinfoA6 (o : OpR) : (Tryz.prog.info? 35).map (·.size) = some o.plain.toArray.size := by rw [List.size_toArray, plain_len]; kernel_rfl
theorem plain_siz (o : OpR) : (#[.int .i64 0, .int .i64 0, .int .i64 0, .int .u64 0] : Array Value).size = o.plain.toArray.size := show 4 = o.plain.toArray.size by rw [List.size_toArray, plain_len]
set_option maxRecDepth 20000 in
set_option maxHeartbeats 16000000 in
theorem refgetop_any (k c : Nat) (A : Option Addr) (bs : List Nat) (hlen : bs.length ≤ 140737488355328) (hc : bs.length ≤ c) (hby : ∀ x ∈ bs, x < 256) (p : Nat) (e : Int) (W : World) (h : RS W k A c bs p e) :
    Calls Tryz.prog 26 #[.pointer (some ⟨k, 0, none⟩)] W fun r W' => ∃ (o : OpR) (p' : Nat) (e' : Int), r = .returned (.agg o.plain.toArray) ∧ RS W' k A c bs p' e' ∧ Off k W W' ∧ PostP opP bs p p' e e' (fun x => o = x) := by
  have hk := h.1.lt
  have hlow := h.low
  have cbt := Tot.call_bits
  have b1 := (Below.refl W.heap.size W).alloc (Nat.le_refl _) (.cells #[.int .i64 0, .int .i64 0, .int .i64 0, .int .u64 0] 35)
  have hg := Blk.new W 35 #[.int .i64 0, .int .i64 0, .int .i64 0, .int .u64 0]
  have hsz : (W.alloc (.cells #[.int .i64 0, .int .i64 0, .int .i64 0, .int .u64 0] 35)).heap.size = W.heap.size + 1 := by simp
  obtain ⟨w0, hw0⟩ : ∃ w0, w0 = W.alloc (.cells #[.int .i64 0, .int .i64 0, .int .i64 0, .int .u64 0] 35) := ⟨_, rfl⟩
  have HS0 := Lib.hid (h.next b1)
  rw [← hw0] at b1 hg hsz HS0
  have HG0 := Lib.hid hg
  have HB0 := Lib.hid b1
  have HSZ := Lib.hid hsz
  have HK := Lib.hid hk
  have HLOW := Lib.hid hlow
  go_enter Tryz.func26, Tryz.ntmps26
  go_upto_region 1 with fail
  rw [← hw0]
  clear hw0 h b1 hg hsz hk hlow
  go_wp2_with fail
  refine (refsmall_any k c A bs hlen hby 6 (by decide) p e w0 HS0.out).mono ?_
  rintro r w1 ⟨kd, p1, e1, rfl, hS, hO, hk6, hP⟩
  have HP1 := Lib.hid hP
  have bb := (Below.refl w1.heap.size w1).alloc (Nat.le_refl _) (.cells #[.int .i64 0, .int .i64 0, .int .i64 0, .int .u64 0] 35)
  have hgl : W.heap.size < w1.heap.size := by have := hO.size; have := HSZ.out; omega
  have P := Lib.hid (show PlR k w1.heap.size A bs W.heap.size from ⟨HK.out, hgl, HLOW.out⟩)
  have hn0 := Blk.new w1 35 #[.int .i64 0, .int .i64 0, .int .i64 0, .int .u64 0]
  have A0 := Lib.hid (show AtG 35 #[.int .i64 0, .int .i64 0, .int .i64 0, .int .u64 0] k w1.heap.size c A bs W (w1.alloc (.cells #[.int .i64 0, .int .i64 0, .int .i64 0, .int .u64 0] 35)) p1 e1 #[.int .i64 0, .int .i64 0, .int .i64 0, .int .u64 0] from ⟨hS.next bb, hn0, (hO.blk HG0.out (by have := HK.out; omega)).next bb, ((Off.ofBelow HB0.out).trans hO).trans (Off.ofBelow bb)⟩)
  clear hS hO hP bb hgl HG0 HB0 HS0 HSZ
  go_upto_region 2 with (first | (refine wpList_store_blk rfl 35 _ _ rfl w1.heap.size 35 #[.int .i64 0, .int .i64 0, .int .i64 0, .int .u64 0] #[.int .i64 (kd : Nat), .int .i64 0, .int .i64 0, .int .u64 0] rfl rfl hn0 (by kernel_rfl) rfl (by simp [Value.oneCell']) ?_; intro hrow))
  have A1 := Lib.hid (A0.out.row P.out #[.int .i64 (kd : Nat), .int .i64 0, .int .i64 0, .int .u64 0])
  obtain ⟨x1, hx1⟩ : ∃ x1, x1 = (w1.alloc (.cells #[.int .i64 0, .int .i64 0, .int .i64 0, .int .u64 0] 35)).setRow w1.heap.size #[.int .i64 (kd : Nat), .int .i64 0, .int .i64 0, .int .u64 0] := ⟨_, rfl⟩
  rw [← hx1] at A1 hrow ⊢
  clear hx1 hrow hn0 A0
  obtain ⟨g, hgg⟩ : ∃ g, g = w1.heap.size := ⟨_, rfl⟩
  rw [← hgg] at A1 P ⊢
  clear hgg
  rcases (show kd = 0 ∨ kd = 1 ∨ kd = 2 ∨ kd = 3 ∨ kd = 4 ∨ kd = 5 ∨ kd = 6 by omega) with rfl | rfl | rfl | rfl | rfl | rfl | rfl
  · have c0 := A1.out.2.1.cell 0
    have c0 := A1.out.2.1.cell 0
    go_wp2_with fail
    refine (refsmall_any k c A bs hlen hby 40 (by decide) p1 e1 x1 A1.out.1).mono ?_
    rintro r w2 ⟨s, p2, e2, rfl, hS, hO, hs40, hP⟩
    have HP2 := Lib.hid hP
    have B2 := Lib.hid (A1.out.step P.out hO hS)
    clear hS hO hP c0
    have c0 := B2.out.2.1.cell 0
    have k0 := B2.out.2.1.cell 1
    have z0 := B2.out.2.1.frozen 1
    have A2 := Lib.hid (show AtG 35 #[.int .i64 0, .int .i64 0, .int .i64 0, .int .u64 0] k g c A bs W _ p2 e2 #[.int .i64 0, .int .i64 (s : Nat), .int .i64 0, .int .u64 0] from B2.out.set P.out 1 (.int .i64 (s : Nat)))
    go_upto_region 4 with fail
    obtain ⟨x2, hx⟩ : ∃ x2, x2 = w2.setCell ⟨g, 1, none⟩ (.int .i64 (s : Nat)) := ⟨_, rfl⟩
    rw [← hx] at A2 ⊢
    clear hx k0 z0 c0 B2 A1
    have HP3 := Lib.hid (PostP.pure (0 : Int) bs p2 e2)
    have HP4 := Lib.hid (PostP.pure (0 : Nat) bs p2 e2)
    have HPOST := Lib.hid (op_post (k := 0) (s := s) (q := 0) (b := 0) HP1.out (by exact HP2.out) (by exact HP3.out) (by exact HP4.out))
    obtain ⟨o, ho⟩ : ∃ o, o = OpR.mk ((0 : Nat) : Int) ((s : Nat) : Int) 0 0 := ⟨_, rfl⟩
    rw [← ho] at HPOST
    have AF := Lib.hid (show AtG 35 #[.int .i64 0, .int .i64 0, .int .i64 0, .int .u64 0] k g c A bs W x2 p2 e2 o.plain.toArray from by rw [ho, plain_arr]; exact A2.out)
    clear ho
    have c0 := A2.out.2.1.cell 0
    go_upto_region 8 with fail
    clear c0 A2
    obtain ⟨_, _, c2, cz⟩ := AF.out.1.cells
    have z2 := cz 2
    have rgl := AF.out.2.1.range
    clear cz
    by_cases he6 : e2 = 0
    · have HE6 := Lib.hid he6
      rw [he6] at c2
      clear he6
      go_wp2_with (first | (refine wpList_load_midg (by rfl) 35 _ rfl _ _ rfl (OpR.plain o) _ rgl Tryz.underlying35 rfl (pinfoL6 _) ?_))
      refine (rmay6_any o x2).mono ?_
      rintro r x7 ⟨rfl, hb⟩
      have A7 := Lib.hid (AF.out.next P.out hb)
      clear hb c2 z2 rgl AF
      rw [rmayB_eq]
      cases hr : mayO o with
      | true =>
        have HL := Lib.hid (show e = 0 ∧ opP (bs.drop p) = .ok (o, bs.drop p2) from by have := HPOST.out.1 HE6.out; rwa [hr, if_pos rfl] at this)
        have rgl := A7.out.2.1.range
        have bg := A7.out.2.2.1
        clear hr
        go_wp2_with (first | (refine wpList_load_midg (by rfl) 35 _ rfl _ _ rfl (OpR.plain o) _ rgl Tryz.underlying35 rfl (pinfoL6 _) ?_) | (refine wpList_store_blk rfl 35 _ _ rfl W.heap.size 35 _ o.plain.toArray rfl rfl bg (pinfoA6 _) (plain_siz o) (plain_one o) ?_; intro hrow))
        refine bodyPost_row (t := 35) o.plain.toArray rfl rfl rfl Tryz.underlying35 rfl (pinfoA6 _) hrow ?_
        exact ⟨o, p2, e2, rfl, (A7.out.res P.out _).1, (A7.out.res P.out _).2, by rw [HL.out.1, HE6.out]; exact PostP.good HL.out.2 rfl rfl⟩
      | false =>
        have HL := Lib.hid (show e = 0 ∧ opP (bs.drop p) = .error 3 from by have := HPOST.out.1 HE6.out; rw [hr] at this; exact this)
        obtain ⟨_, _, c2, cz⟩ := A7.out.1.cells
        have z2 := cz 2
        have A8 := Lib.hid (show AtG 35 #[.int .i64 0, .int .i64 0, .int .i64 0, .int .u64 0] k g c A bs W (x7.setCell ⟨k, 2, none⟩ (.int .i64 3)) p2 3 o.plain.toArray from A7.out.step P.out ((Off.refl k x7).set 2 _) (A7.out.1.setE 3))
        have rgl := A8.out.2.1.range
        have bg := A8.out.2.2.1
        clear hr cz
        go_wp2_with (first | (refine wpList_load_midg (by rfl) 35 _ rfl _ _ rfl (OpR.plain o) _ rgl Tryz.underlying35 rfl (pinfoL6 _) ?_) | (refine wpList_store_blk rfl 35 _ _ rfl W.heap.size 35 _ o.plain.toArray rfl rfl bg (pinfoA6 _) (plain_siz o) (plain_one o) ?_; intro hrow))
        refine bodyPost_row (t := 35) o.plain.toArray rfl rfl rfl Tryz.underlying35 rfl (pinfoA6 _) hrow ?_
        exact ⟨o, p2, 3, rfl, (A8.out.res P.out _).1, (A8.out.res P.out _).2, by rw [HL.out.1]; exact PostP.err HL.out.2 (by decide)⟩
    · have f1 : (e2 == 0) = false := by simpa using he6
      have HE6 := Lib.hid he6
      have bg := AF.out.2.2.1
      clear he6
      go_wp2_with (first | (refine wpList_load_midg (by rfl) 35 _ rfl _ _ rfl (OpR.plain o) _ rgl Tryz.underlying35 rfl (pinfoL6 _) ?_) | (refine wpList_store_blk rfl 35 _ _ rfl W.heap.size 35 _ o.plain.toArray rfl rfl bg (pinfoA6 _) (plain_siz o) (plain_one o) ?_; intro hrow))
      refine bodyPost_row (t := 35) o.plain.toArray rfl rfl rfl Tryz.underlying35 rfl (pinfoA6 _) hrow ?_
      refine ⟨o, p2, e2, rfl, (AF.out.res P.out _).1, (AF.out.res P.out _).2, fun _ => HE6.out, fun h0 => ?_⟩
      obtain ⟨y, hy⟩ := HPOST.out.2 HE6.out h0
      rw [hy]
      exact HE6.out
  · have c0 := A1.out.2.1.cell 0
    have c0 := A1.out.2.1.cell 0
    go_wp2_with fail
    refine (refsmall_any k c A bs hlen hby 40 (by decide) p1 e1 x1 A1.out.1).mono ?_
    rintro r w2 ⟨s, p2, e2, rfl, hS, hO, hs40, hP⟩
    have HP2 := Lib.hid hP
    have B2 := Lib.hid (A1.out.step P.out hO hS)
    clear hS hO hP c0
    have c0 := B2.out.2.1.cell 0
    have k0 := B2.out.2.1.cell 1
    have z0 := B2.out.2.1.frozen 1
    have A2 := Lib.hid (show AtG 35 #[.int .i64 0, .int .i64 0, .int .i64 0, .int .u64 0] k g c A bs W _ p2 e2 #[.int .i64 1, .int .i64 (s : Nat), .int .i64 0, .int .u64 0] from B2.out.set P.out 1 (.int .i64 (s : Nat)))
    go_upto_region 4 with fail
    obtain ⟨x2, hx⟩ : ∃ x2, x2 = w2.setCell ⟨g, 1, none⟩ (.int .i64 (s : Nat)) := ⟨_, rfl⟩
    rw [← hx] at A2 ⊢
    clear hx k0 z0 c0 B2 A1
    have c0 := A2.out.2.1.cell 0
    go_wp2_with fail
    refine (refint_any k c A bs hlen hby p2 e2 x2 A2.out.1).mono ?_
    rintro r w3 ⟨q, p3, e3, rfl, hS, hO, hqb, hP⟩
    have HP3 := Lib.hid hP
    have B3 := Lib.hid (A2.out.step P.out hO hS)
    clear hS hO hP c0
    have c0 := B3.out.2.1.cell 0
    have k0 := B3.out.2.1.cell 2
    have z0 := B3.out.2.1.frozen 2
    have A3 := Lib.hid (show AtG 35 #[.int .i64 0, .int .i64 0, .int .i64 0, .int .u64 0] k g c A bs W _ p3 e3 #[.int .i64 1, .int .i64 (s : Nat), .int .i64 q, .int .u64 0] from B3.out.set P.out 2 (.int .i64 q))
    go_upto_region 6 with fail
    obtain ⟨x3, hx⟩ : ∃ x3, x3 = w3.setCell ⟨g, 2, none⟩ (.int .i64 q) := ⟨_, rfl⟩
    rw [← hx] at A3 ⊢
    clear hx k0 z0 c0 B3 A2
    have HP4 := Lib.hid (PostP.pure (0 : Nat) bs p3 e3)
    have HPOST := Lib.hid (op_post (k := 1) (s := s) (q := q) (b := 0) HP1.out (by exact HP2.out) (by exact HP3.out) (by exact HP4.out))
    obtain ⟨o, ho⟩ : ∃ o, o = OpR.mk ((1 : Nat) : Int) ((s : Nat) : Int) q 0 := ⟨_, rfl⟩
    rw [← ho] at HPOST
    have AF := Lib.hid (show AtG 35 #[.int .i64 0, .int .i64 0, .int .i64 0, .int .u64 0] k g c A bs W x3 p3 e3 o.plain.toArray from by rw [ho, plain_arr]; exact A3.out)
    clear ho
    have c0 := A3.out.2.1.cell 0
    go_upto_region 8 with fail
    clear c0 A3
    obtain ⟨_, _, c2, cz⟩ := AF.out.1.cells
    have z2 := cz 2
    have rgl := AF.out.2.1.range
    clear cz
    by_cases he6 : e3 = 0
    · have HE6 := Lib.hid he6
      rw [he6] at c2
      clear he6
      go_wp2_with (first | (refine wpList_load_midg (by rfl) 35 _ rfl _ _ rfl (OpR.plain o) _ rgl Tryz.underlying35 rfl (pinfoL6 _) ?_))
      refine (rmay6_any o x3).mono ?_
      rintro r x7 ⟨rfl, hb⟩
      have A7 := Lib.hid (AF.out.next P.out hb)
      clear hb c2 z2 rgl AF
      rw [rmayB_eq]
      cases hr : mayO o with
      | true =>
        have HL := Lib.hid (show e = 0 ∧ opP (bs.drop p) = .ok (o, bs.drop p3) from by have := HPOST.out.1 HE6.out; rwa [hr, if_pos rfl] at this)
        have rgl := A7.out.2.1.range
        have bg := A7.out.2.2.1
        clear hr
        go_wp2_with (first | (refine wpList_load_midg (by rfl) 35 _ rfl _ _ rfl (OpR.plain o) _ rgl Tryz.underlying35 rfl (pinfoL6 _) ?_) | (refine wpList_store_blk rfl 35 _ _ rfl W.heap.size 35 _ o.plain.toArray rfl rfl bg (pinfoA6 _) (plain_siz o) (plain_one o) ?_; intro hrow))
        refine bodyPost_row (t := 35) o.plain.toArray rfl rfl rfl Tryz.underlying35 rfl (pinfoA6 _) hrow ?_
        exact ⟨o, p3, e3, rfl, (A7.out.res P.out _).1, (A7.out.res P.out _).2, by rw [HL.out.1, HE6.out]; exact PostP.good HL.out.2 rfl rfl⟩
      | false =>
        have HL := Lib.hid (show e = 0 ∧ opP (bs.drop p) = .error 3 from by have := HPOST.out.1 HE6.out; rw [hr] at this; exact this)
        obtain ⟨_, _, c2, cz⟩ := A7.out.1.cells
        have z2 := cz 2
        have A8 := Lib.hid (show AtG 35 #[.int .i64 0, .int .i64 0, .int .i64 0, .int .u64 0] k g c A bs W (x7.setCell ⟨k, 2, none⟩ (.int .i64 3)) p3 3 o.plain.toArray from A7.out.step P.out ((Off.refl k x7).set 2 _) (A7.out.1.setE 3))
        have rgl := A8.out.2.1.range
        have bg := A8.out.2.2.1
        clear hr cz
        go_wp2_with (first | (refine wpList_load_midg (by rfl) 35 _ rfl _ _ rfl (OpR.plain o) _ rgl Tryz.underlying35 rfl (pinfoL6 _) ?_) | (refine wpList_store_blk rfl 35 _ _ rfl W.heap.size 35 _ o.plain.toArray rfl rfl bg (pinfoA6 _) (plain_siz o) (plain_one o) ?_; intro hrow))
        refine bodyPost_row (t := 35) o.plain.toArray rfl rfl rfl Tryz.underlying35 rfl (pinfoA6 _) hrow ?_
        exact ⟨o, p3, 3, rfl, (A8.out.res P.out _).1, (A8.out.res P.out _).2, by rw [HL.out.1]; exact PostP.err HL.out.2 (by decide)⟩
    · have f1 : (e3 == 0) = false := by simpa using he6
      have HE6 := Lib.hid he6
      have bg := AF.out.2.2.1
      clear he6
      go_wp2_with (first | (refine wpList_load_midg (by rfl) 35 _ rfl _ _ rfl (OpR.plain o) _ rgl Tryz.underlying35 rfl (pinfoL6 _) ?_) | (refine wpList_store_blk rfl 35 _ _ rfl W.heap.size 35 _ o.plain.toArray rfl rfl bg (pinfoA6 _) (plain_siz o) (plain_one o) ?_; intro hrow))
      refine bodyPost_row (t := 35) o.plain.toArray rfl rfl rfl Tryz.underlying35 rfl (pinfoA6 _) hrow ?_
      refine ⟨o, p3, e3, rfl, (AF.out.res P.out _).1, (AF.out.res P.out _).2, fun _ => HE6.out, fun h0 => ?_⟩
      obtain ⟨y, hy⟩ := HPOST.out.2 HE6.out h0
      rw [hy]
      exact HE6.out
  · have c0 := A1.out.2.1.cell 0
    have c0 := A1.out.2.1.cell 0
    go_wp2_with fail
    refine (refsmall_any k c A bs hlen hby 40 (by decide) p1 e1 x1 A1.out.1).mono ?_
    rintro r w2 ⟨s, p2, e2, rfl, hS, hO, hs40, hP⟩
    have HP2 := Lib.hid hP
    have B2 := Lib.hid (A1.out.step P.out hO hS)
    clear hS hO hP c0
    have c0 := B2.out.2.1.cell 0
    have k0 := B2.out.2.1.cell 1
    have z0 := B2.out.2.1.frozen 1
    have A2 := Lib.hid (show AtG 35 #[.int .i64 0, .int .i64 0, .int .i64 0, .int .u64 0] k g c A bs W _ p2 e2 #[.int .i64 2, .int .i64 (s : Nat), .int .i64 0, .int .u64 0] from B2.out.set P.out 1 (.int .i64 (s : Nat)))
    go_upto_region 4 with fail
    obtain ⟨x2, hx⟩ : ∃ x2, x2 = w2.setCell ⟨g, 1, none⟩ (.int .i64 (s : Nat)) := ⟨_, rfl⟩
    rw [← hx] at A2 ⊢
    clear hx k0 z0 c0 B2 A1
    have c0 := A2.out.2.1.cell 0
    go_wp2_with fail
    refine (refint_any k c A bs hlen hby p2 e2 x2 A2.out.1).mono ?_
    rintro r w3 ⟨q, p3, e3, rfl, hS, hO, hqb, hP⟩
    have HP3 := Lib.hid hP
    have B3 := Lib.hid (A2.out.step P.out hO hS)
    clear hS hO hP c0
    have c0 := B3.out.2.1.cell 0
    have k0 := B3.out.2.1.cell 2
    have z0 := B3.out.2.1.frozen 2
    have A3 := Lib.hid (show AtG 35 #[.int .i64 0, .int .i64 0, .int .i64 0, .int .u64 0] k g c A bs W _ p3 e3 #[.int .i64 2, .int .i64 (s : Nat), .int .i64 q, .int .u64 0] from B3.out.set P.out 2 (.int .i64 q))
    go_upto_region 6 with fail
    obtain ⟨x3, hx⟩ : ∃ x3, x3 = w3.setCell ⟨g, 2, none⟩ (.int .i64 q) := ⟨_, rfl⟩
    rw [← hx] at A3 ⊢
    clear hx k0 z0 c0 B3 A2
    have HP4 := Lib.hid (PostP.pure (0 : Nat) bs p3 e3)
    have HPOST := Lib.hid (op_post (k := 2) (s := s) (q := q) (b := 0) HP1.out (by exact HP2.out) (by exact HP3.out) (by exact HP4.out))
    obtain ⟨o, ho⟩ : ∃ o, o = OpR.mk ((2 : Nat) : Int) ((s : Nat) : Int) q 0 := ⟨_, rfl⟩
    rw [← ho] at HPOST
    have AF := Lib.hid (show AtG 35 #[.int .i64 0, .int .i64 0, .int .i64 0, .int .u64 0] k g c A bs W x3 p3 e3 o.plain.toArray from by rw [ho, plain_arr]; exact A3.out)
    clear ho
    have c0 := A3.out.2.1.cell 0
    go_upto_region 8 with fail
    clear c0 A3
    obtain ⟨_, _, c2, cz⟩ := AF.out.1.cells
    have z2 := cz 2
    have rgl := AF.out.2.1.range
    clear cz
    by_cases he6 : e3 = 0
    · have HE6 := Lib.hid he6
      rw [he6] at c2
      clear he6
      go_wp2_with (first | (refine wpList_load_midg (by rfl) 35 _ rfl _ _ rfl (OpR.plain o) _ rgl Tryz.underlying35 rfl (pinfoL6 _) ?_))
      refine (rmay6_any o x3).mono ?_
      rintro r x7 ⟨rfl, hb⟩
      have A7 := Lib.hid (AF.out.next P.out hb)
      clear hb c2 z2 rgl AF
      rw [rmayB_eq]
      cases hr : mayO o with
      | true =>
        have HL := Lib.hid (show e = 0 ∧ opP (bs.drop p) = .ok (o, bs.drop p3) from by have := HPOST.out.1 HE6.out; rwa [hr, if_pos rfl] at this)
        have rgl := A7.out.2.1.range
        have bg := A7.out.2.2.1
        clear hr
        go_wp2_with (first | (refine wpList_load_midg (by rfl) 35 _ rfl _ _ rfl (OpR.plain o) _ rgl Tryz.underlying35 rfl (pinfoL6 _) ?_) | (refine wpList_store_blk rfl 35 _ _ rfl W.heap.size 35 _ o.plain.toArray rfl rfl bg (pinfoA6 _) (plain_siz o) (plain_one o) ?_; intro hrow))
        refine bodyPost_row (t := 35) o.plain.toArray rfl rfl rfl Tryz.underlying35 rfl (pinfoA6 _) hrow ?_
        exact ⟨o, p3, e3, rfl, (A7.out.res P.out _).1, (A7.out.res P.out _).2, by rw [HL.out.1, HE6.out]; exact PostP.good HL.out.2 rfl rfl⟩
      | false =>
        have HL := Lib.hid (show e = 0 ∧ opP (bs.drop p) = .error 3 from by have := HPOST.out.1 HE6.out; rw [hr] at this; exact this)
        obtain ⟨_, _, c2, cz⟩ := A7.out.1.cells
        have z2 := cz 2
        have A8 := Lib.hid (show AtG 35 #[.int .i64 0, .int .i64 0, .int .i64 0, .int .u64 0] k g c A bs W (x7.setCell ⟨k, 2, none⟩ (.int .i64 3)) p3 3 o.plain.toArray from A7.out.step P.out ((Off.refl k x7).set 2 _) (A7.out.1.setE 3))
        have rgl := A8.out.2.1.range
        have bg := A8.out.2.2.1
        clear hr cz
        go_wp2_with (first | (refine wpList_load_midg (by rfl) 35 _ rfl _ _ rfl (OpR.plain o) _ rgl Tryz.underlying35 rfl (pinfoL6 _) ?_) | (refine wpList_store_blk rfl 35 _ _ rfl W.heap.size 35 _ o.plain.toArray rfl rfl bg (pinfoA6 _) (plain_siz o) (plain_one o) ?_; intro hrow))
        refine bodyPost_row (t := 35) o.plain.toArray rfl rfl rfl Tryz.underlying35 rfl (pinfoA6 _) hrow ?_
        exact ⟨o, p3, 3, rfl, (A8.out.res P.out _).1, (A8.out.res P.out _).2, by rw [HL.out.1]; exact PostP.err HL.out.2 (by decide)⟩
    · have f1 : (e3 == 0) = false := by simpa using he6
      have HE6 := Lib.hid he6
      have bg := AF.out.2.2.1
      clear he6
      go_wp2_with (first | (refine wpList_load_midg (by rfl) 35 _ rfl _ _ rfl (OpR.plain o) _ rgl Tryz.underlying35 rfl (pinfoL6 _) ?_) | (refine wpList_store_blk rfl 35 _ _ rfl W.heap.size 35 _ o.plain.toArray rfl rfl bg (pinfoA6 _) (plain_siz o) (plain_one o) ?_; intro hrow))
      refine bodyPost_row (t := 35) o.plain.toArray rfl rfl rfl Tryz.underlying35 rfl (pinfoA6 _) hrow ?_
      refine ⟨o, p3, e3, rfl, (AF.out.res P.out _).1, (AF.out.res P.out _).2, fun _ => HE6.out, fun h0 => ?_⟩
      obtain ⟨y, hy⟩ := HPOST.out.2 HE6.out h0
      rw [hy]
      exact HE6.out
  · have c0 := A1.out.2.1.cell 0
    have c0 := A1.out.2.1.cell 0
    go_wp2_with fail
    refine (refsmall_any k c A bs hlen hby 40 (by decide) p1 e1 x1 A1.out.1).mono ?_
    rintro r w2 ⟨s, p2, e2, rfl, hS, hO, hs40, hP⟩
    have HP2 := Lib.hid hP
    have B2 := Lib.hid (A1.out.step P.out hO hS)
    clear hS hO hP c0
    have c0 := B2.out.2.1.cell 0
    have k0 := B2.out.2.1.cell 1
    have z0 := B2.out.2.1.frozen 1
    have A2 := Lib.hid (show AtG 35 #[.int .i64 0, .int .i64 0, .int .i64 0, .int .u64 0] k g c A bs W _ p2 e2 #[.int .i64 3, .int .i64 (s : Nat), .int .i64 0, .int .u64 0] from B2.out.set P.out 1 (.int .i64 (s : Nat)))
    go_upto_region 4 with fail
    obtain ⟨x2, hx⟩ : ∃ x2, x2 = w2.setCell ⟨g, 1, none⟩ (.int .i64 (s : Nat)) := ⟨_, rfl⟩
    rw [← hx] at A2 ⊢
    clear hx k0 z0 c0 B2 A1
    have HP3 := Lib.hid (PostP.pure (0 : Int) bs p2 e2)
    have HP4 := Lib.hid (PostP.pure (0 : Nat) bs p2 e2)
    have HPOST := Lib.hid (op_post (k := 3) (s := s) (q := 0) (b := 0) HP1.out (by exact HP2.out) (by exact HP3.out) (by exact HP4.out))
    obtain ⟨o, ho⟩ : ∃ o, o = OpR.mk ((3 : Nat) : Int) ((s : Nat) : Int) 0 0 := ⟨_, rfl⟩
    rw [← ho] at HPOST
    have AF := Lib.hid (show AtG 35 #[.int .i64 0, .int .i64 0, .int .i64 0, .int .u64 0] k g c A bs W x2 p2 e2 o.plain.toArray from by rw [ho, plain_arr]; exact A2.out)
    clear ho
    have c0 := A2.out.2.1.cell 0
    go_upto_region 8 with fail
    clear c0 A2
    obtain ⟨_, _, c2, cz⟩ := AF.out.1.cells
    have z2 := cz 2
    have rgl := AF.out.2.1.range
    clear cz
    by_cases he6 : e2 = 0
    · have HE6 := Lib.hid he6
      rw [he6] at c2
      clear he6
      go_wp2_with (first | (refine wpList_load_midg (by rfl) 35 _ rfl _ _ rfl (OpR.plain o) _ rgl Tryz.underlying35 rfl (pinfoL6 _) ?_))
      refine (rmay6_any o x2).mono ?_
      rintro r x7 ⟨rfl, hb⟩
      have A7 := Lib.hid (AF.out.next P.out hb)
      clear hb c2 z2 rgl AF
      rw [rmayB_eq]
      cases hr : mayO o with
      | true =>
        have HL := Lib.hid (show e = 0 ∧ opP (bs.drop p) = .ok (o, bs.drop p2) from by have := HPOST.out.1 HE6.out; rwa [hr, if_pos rfl] at this)
        have rgl := A7.out.2.1.range
        have bg := A7.out.2.2.1
        clear hr
        go_wp2_with (first | (refine wpList_load_midg (by rfl) 35 _ rfl _ _ rfl (OpR.plain o) _ rgl Tryz.underlying35 rfl (pinfoL6 _) ?_) | (refine wpList_store_blk rfl 35 _ _ rfl W.heap.size 35 _ o.plain.toArray rfl rfl bg (pinfoA6 _) (plain_siz o) (plain_one o) ?_; intro hrow))
        refine bodyPost_row (t := 35) o.plain.toArray rfl rfl rfl Tryz.underlying35 rfl (pinfoA6 _) hrow ?_
        exact ⟨o, p2, e2, rfl, (A7.out.res P.out _).1, (A7.out.res P.out _).2, by rw [HL.out.1, HE6.out]; exact PostP.good HL.out.2 rfl rfl⟩
      | false =>
        have HL := Lib.hid (show e = 0 ∧ opP (bs.drop p) = .error 3 from by have := HPOST.out.1 HE6.out; rw [hr] at this; exact this)
        obtain ⟨_, _, c2, cz⟩ := A7.out.1.cells
        have z2 := cz 2
        have A8 := Lib.hid (show AtG 35 #[.int .i64 0, .int .i64 0, .int .i64 0, .int .u64 0] k g c A bs W (x7.setCell ⟨k, 2, none⟩ (.int .i64 3)) p2 3 o.plain.toArray from A7.out.step P.out ((Off.refl k x7).set 2 _) (A7.out.1.setE 3))
        have rgl := A8.out.2.1.range
        have bg := A8.out.2.2.1
        clear hr cz
        go_wp2_with (first | (refine wpList_load_midg (by rfl) 35 _ rfl _ _ rfl (OpR.plain o) _ rgl Tryz.underlying35 rfl (pinfoL6 _) ?_) | (refine wpList_store_blk rfl 35 _ _ rfl W.heap.size 35 _ o.plain.toArray rfl rfl bg (pinfoA6 _) (plain_siz o) (plain_one o) ?_; intro hrow))
        refine bodyPost_row (t := 35) o.plain.toArray rfl rfl rfl Tryz.underlying35 rfl (pinfoA6 _) hrow ?_
        exact ⟨o, p2, 3, rfl, (A8.out.res P.out _).1, (A8.out.res P.out _).2, by rw [HL.out.1]; exact PostP.err HL.out.2 (by decide)⟩
    · have f1 : (e2 == 0) = false := by simpa using he6
      have HE6 := Lib.hid he6
      have bg := AF.out.2.2.1
      clear he6
      go_wp2_with (first | (refine wpList_load_midg (by rfl) 35 _ rfl _ _ rfl (OpR.plain o) _ rgl Tryz.underlying35 rfl (pinfoL6 _) ?_) | (refine wpList_store_blk rfl 35 _ _ rfl W.heap.size 35 _ o.plain.toArray rfl rfl bg (pinfoA6 _) (plain_siz o) (plain_one o) ?_; intro hrow))
      refine bodyPost_row (t := 35) o.plain.toArray rfl rfl rfl Tryz.underlying35 rfl (pinfoA6 _) hrow ?_
      refine ⟨o, p2, e2, rfl, (AF.out.res P.out _).1, (AF.out.res P.out _).2, fun _ => HE6.out, fun h0 => ?_⟩
      obtain ⟨y, hy⟩ := HPOST.out.2 HE6.out h0
      rw [hy]
      exact HE6.out
  · have c0 := A1.out.2.1.cell 0
    have HP2 := Lib.hid (PostP.pure (0 : Nat) bs p1 e1)
    have HP3 := Lib.hid (PostP.pure (0 : Int) bs p1 e1)
    have HP4 := Lib.hid (PostP.pure (0 : Nat) bs p1 e1)
    have HPOST := Lib.hid (op_post (k := 4) (s := 0) (q := 0) (b := 0) HP1.out (by exact HP2.out) (by exact HP3.out) (by exact HP4.out))
    obtain ⟨o, ho⟩ : ∃ o, o = OpR.mk ((4 : Nat) : Int) ((0 : Nat) : Int) 0 0 := ⟨_, rfl⟩
    rw [← ho] at HPOST
    have AF := Lib.hid (show AtG 35 #[.int .i64 0, .int .i64 0, .int .i64 0, .int .u64 0] k g c A bs W x1 p1 e1 o.plain.toArray from by rw [ho, plain_arr]; exact A1.out)
    clear ho
    have c0 := A1.out.2.1.cell 0
    go_upto_region 8 with fail
    clear c0 A1
    obtain ⟨_, _, c2, cz⟩ := AF.out.1.cells
    have z2 := cz 2
    have rgl := AF.out.2.1.range
    clear cz
    by_cases he6 : e1 = 0
    · have HE6 := Lib.hid he6
      rw [he6] at c2
      clear he6
      go_wp2_with (first | (refine wpList_load_midg (by rfl) 35 _ rfl _ _ rfl (OpR.plain o) _ rgl Tryz.underlying35 rfl (pinfoL6 _) ?_))
      refine (rmay6_any o x1).mono ?_
      rintro r x7 ⟨rfl, hb⟩
      have A7 := Lib.hid (AF.out.next P.out hb)
      clear hb c2 z2 rgl AF
      rw [rmayB_eq]
      cases hr : mayO o with
      | true =>
        have HL := Lib.hid (show e = 0 ∧ opP (bs.drop p) = .ok (o, bs.drop p1) from by have := HPOST.out.1 HE6.out; rwa [hr, if_pos rfl] at this)
        have rgl := A7.out.2.1.range
        have bg := A7.out.2.2.1
        clear hr
        go_wp2_with (first | (refine wpList_load_midg (by rfl) 35 _ rfl _ _ rfl (OpR.plain o) _ rgl Tryz.underlying35 rfl (pinfoL6 _) ?_) | (refine wpList_store_blk rfl 35 _ _ rfl W.heap.size 35 _ o.plain.toArray rfl rfl bg (pinfoA6 _) (plain_siz o) (plain_one o) ?_; intro hrow))
        refine bodyPost_row (t := 35) o.plain.toArray rfl rfl rfl Tryz.underlying35 rfl (pinfoA6 _) hrow ?_
        exact ⟨o, p1, e1, rfl, (A7.out.res P.out _).1, (A7.out.res P.out _).2, by rw [HL.out.1, HE6.out]; exact PostP.good HL.out.2 rfl rfl⟩
      | false =>
        have HL := Lib.hid (show e = 0 ∧ opP (bs.drop p) = .error 3 from by have := HPOST.out.1 HE6.out; rw [hr] at this; exact this)
        obtain ⟨_, _, c2, cz⟩ := A7.out.1.cells
        have z2 := cz 2
        have A8 := Lib.hid (show AtG 35 #[.int .i64 0, .int .i64 0, .int .i64 0, .int .u64 0] k g c A bs W (x7.setCell ⟨k, 2, none⟩ (.int .i64 3)) p1 3 o.plain.toArray from A7.out.step P.out ((Off.refl k x7).set 2 _) (A7.out.1.setE 3))
        have rgl := A8.out.2.1.range
        have bg := A8.out.2.2.1
        clear hr cz
        go_wp2_with (first | (refine wpList_load_midg (by rfl) 35 _ rfl _ _ rfl (OpR.plain o) _ rgl Tryz.underlying35 rfl (pinfoL6 _) ?_) | (refine wpList_store_blk rfl 35 _ _ rfl W.heap.size 35 _ o.plain.toArray rfl rfl bg (pinfoA6 _) (plain_siz o) (plain_one o) ?_; intro hrow))
        refine bodyPost_row (t := 35) o.plain.toArray rfl rfl rfl Tryz.underlying35 rfl (pinfoA6 _) hrow ?_
        exact ⟨o, p1, 3, rfl, (A8.out.res P.out _).1, (A8.out.res P.out _).2, by rw [HL.out.1]; exact PostP.err HL.out.2 (by decide)⟩
    · have f1 : (e1 == 0) = false := by simpa using he6
      have HE6 := Lib.hid he6
      have bg := AF.out.2.2.1
      clear he6
      go_wp2_with (first | (refine wpList_load_midg (by rfl) 35 _ rfl _ _ rfl (OpR.plain o) _ rgl Tryz.underlying35 rfl (pinfoL6 _) ?_) | (refine wpList_store_blk rfl 35 _ _ rfl W.heap.size 35 _ o.plain.toArray rfl rfl bg (pinfoA6 _) (plain_siz o) (plain_one o) ?_; intro hrow))
      refine bodyPost_row (t := 35) o.plain.toArray rfl rfl rfl Tryz.underlying35 rfl (pinfoA6 _) hrow ?_
      refine ⟨o, p1, e1, rfl, (AF.out.res P.out _).1, (AF.out.res P.out _).2, fun _ => HE6.out, fun h0 => ?_⟩
      obtain ⟨y, hy⟩ := HPOST.out.2 HE6.out h0
      rw [hy]
      exact HE6.out
  · have c0 := A1.out.2.1.cell 0
    have c0 := A1.out.2.1.cell 0
    go_wp2_with fail
    refine (refsmall_any k c A bs hlen hby 40 (by decide) p1 e1 x1 A1.out.1).mono ?_
    rintro r w2 ⟨s, p2, e2, rfl, hS, hO, hs40, hP⟩
    have HP2 := Lib.hid hP
    have B2 := Lib.hid (A1.out.step P.out hO hS)
    clear hS hO hP c0
    have c0 := B2.out.2.1.cell 0
    have k0 := B2.out.2.1.cell 1
    have z0 := B2.out.2.1.frozen 1
    have A2 := Lib.hid (show AtG 35 #[.int .i64 0, .int .i64 0, .int .i64 0, .int .u64 0] k g c A bs W _ p2 e2 #[.int .i64 5, .int .i64 (s : Nat), .int .i64 0, .int .u64 0] from B2.out.set P.out 1 (.int .i64 (s : Nat)))
    go_upto_region 4 with fail
    obtain ⟨x2, hx⟩ : ∃ x2, x2 = w2.setCell ⟨g, 1, none⟩ (.int .i64 (s : Nat)) := ⟨_, rfl⟩
    rw [← hx] at A2 ⊢
    clear hx k0 z0 c0 B2 A1
    have c0 := A2.out.2.1.cell 0
    go_wp2_with fail
    refine (refint_any k c A bs hlen hby p2 e2 x2 A2.out.1).mono ?_
    rintro r w3 ⟨q, p3, e3, rfl, hS, hO, hqb, hP⟩
    have HP3 := Lib.hid hP
    have B3 := Lib.hid (A2.out.step P.out hO hS)
    clear hS hO hP c0
    have c0 := B3.out.2.1.cell 0
    have k0 := B3.out.2.1.cell 2
    have z0 := B3.out.2.1.frozen 2
    have A3 := Lib.hid (show AtG 35 #[.int .i64 0, .int .i64 0, .int .i64 0, .int .u64 0] k g c A bs W _ p3 e3 #[.int .i64 5, .int .i64 (s : Nat), .int .i64 q, .int .u64 0] from B3.out.set P.out 2 (.int .i64 q))
    go_upto_region 6 with fail
    obtain ⟨x3, hx⟩ : ∃ x3, x3 = w3.setCell ⟨g, 2, none⟩ (.int .i64 q) := ⟨_, rfl⟩
    rw [← hx] at A3 ⊢
    clear hx k0 z0 c0 B3 A2
    have HP4 := Lib.hid (PostP.pure (0 : Nat) bs p3 e3)
    have HPOST := Lib.hid (op_post (k := 5) (s := s) (q := q) (b := 0) HP1.out (by exact HP2.out) (by exact HP3.out) (by exact HP4.out))
    obtain ⟨o, ho⟩ : ∃ o, o = OpR.mk ((5 : Nat) : Int) ((s : Nat) : Int) q 0 := ⟨_, rfl⟩
    rw [← ho] at HPOST
    have AF := Lib.hid (show AtG 35 #[.int .i64 0, .int .i64 0, .int .i64 0, .int .u64 0] k g c A bs W x3 p3 e3 o.plain.toArray from by rw [ho, plain_arr]; exact A3.out)
    clear ho
    have c0 := A3.out.2.1.cell 0
    go_upto_region 8 with fail
    clear c0 A3
    obtain ⟨_, _, c2, cz⟩ := AF.out.1.cells
    have z2 := cz 2
    have rgl := AF.out.2.1.range
    clear cz
    by_cases he6 : e3 = 0
    · have HE6 := Lib.hid he6
      rw [he6] at c2
      clear he6
      go_wp2_with (first | (refine wpList_load_midg (by rfl) 35 _ rfl _ _ rfl (OpR.plain o) _ rgl Tryz.underlying35 rfl (pinfoL6 _) ?_))
      refine (rmay6_any o x3).mono ?_
      rintro r x7 ⟨rfl, hb⟩
      have A7 := Lib.hid (AF.out.next P.out hb)
      clear hb c2 z2 rgl AF
      rw [rmayB_eq]
      cases hr : mayO o with
      | true =>
        have HL := Lib.hid (show e = 0 ∧ opP (bs.drop p) = .ok (o, bs.drop p3) from by have := HPOST.out.1 HE6.out; rwa [hr, if_pos rfl] at this)
        have rgl := A7.out.2.1.range
        have bg := A7.out.2.2.1
        clear hr
        go_wp2_with (first | (refine wpList_load_midg (by rfl) 35 _ rfl _ _ rfl (OpR.plain o) _ rgl Tryz.underlying35 rfl (pinfoL6 _) ?_) | (refine wpList_store_blk rfl 35 _ _ rfl W.heap.size 35 _ o.plain.toArray rfl rfl bg (pinfoA6 _) (plain_siz o) (plain_one o) ?_; intro hrow))
        refine bodyPost_row (t := 35) o.plain.toArray rfl rfl rfl Tryz.underlying35 rfl (pinfoA6 _) hrow ?_
        exact ⟨o, p3, e3, rfl, (A7.out.res P.out _).1, (A7.out.res P.out _).2, by rw [HL.out.1, HE6.out]; exact PostP.good HL.out.2 rfl rfl⟩
      | false =>
        have HL := Lib.hid (show e = 0 ∧ opP (bs.drop p) = .error 3 from by have := HPOST.out.1 HE6.out; rw [hr] at this; exact this)
        obtain ⟨_, _, c2, cz⟩ := A7.out.1.cells
        have z2 := cz 2
        have A8 := Lib.hid (show AtG 35 #[.int .i64 0, .int .i64 0, .int .i64 0, .int .u64 0] k g c A bs W (x7.setCell ⟨k, 2, none⟩ (.int .i64 3)) p3 3 o.plain.toArray from A7.out.step P.out ((Off.refl k x7).set 2 _) (A7.out.1.setE 3))
        have rgl := A8.out.2.1.range
        have bg := A8.out.2.2.1
        clear hr cz
        go_wp2_with (first | (refine wpList_load_midg (by rfl) 35 _ rfl _ _ rfl (OpR.plain o) _ rgl Tryz.underlying35 rfl (pinfoL6 _) ?_) | (refine wpList_store_blk rfl 35 _ _ rfl W.heap.size 35 _ o.plain.toArray rfl rfl bg (pinfoA6 _) (plain_siz o) (plain_one o) ?_; intro hrow))
        refine bodyPost_row (t := 35) o.plain.toArray rfl rfl rfl Tryz.underlying35 rfl (pinfoA6 _) hrow ?_
        exact ⟨o, p3, 3, rfl, (A8.out.res P.out _).1, (A8.out.res P.out _).2, by rw [HL.out.1]; exact PostP.err HL.out.2 (by decide)⟩
    · have f1 : (e3 == 0) = false := by simpa using he6
      have HE6 := Lib.hid he6
      have bg := AF.out.2.2.1
      clear he6
      go_wp2_with (first | (refine wpList_load_midg (by rfl) 35 _ rfl _ _ rfl (OpR.plain o) _ rgl Tryz.underlying35 rfl (pinfoL6 _) ?_) | (refine wpList_store_blk rfl 35 _ _ rfl W.heap.size 35 _ o.plain.toArray rfl rfl bg (pinfoA6 _) (plain_siz o) (plain_one o) ?_; intro hrow))
      refine bodyPost_row (t := 35) o.plain.toArray rfl rfl rfl Tryz.underlying35 rfl (pinfoA6 _) hrow ?_
      refine ⟨o, p3, e3, rfl, (AF.out.res P.out _).1, (AF.out.res P.out _).2, fun _ => HE6.out, fun h0 => ?_⟩
      obtain ⟨y, hy⟩ := HPOST.out.2 HE6.out h0
      rw [hy]
      exact HE6.out
  · have c0 := A1.out.2.1.cell 0
    have c0 := A1.out.2.1.cell 0
    go_wp2_with fail
    refine (refsmall_any k c A bs hlen hby 40 (by decide) p1 e1 x1 A1.out.1).mono ?_
    rintro r w2 ⟨s, p2, e2, rfl, hS, hO, hs40, hP⟩
    have HP2 := Lib.hid hP
    have B2 := Lib.hid (A1.out.step P.out hO hS)
    clear hS hO hP c0
    have c0 := B2.out.2.1.cell 0
    have k0 := B2.out.2.1.cell 1
    have z0 := B2.out.2.1.frozen 1
    have A2 := Lib.hid (show AtG 35 #[.int .i64 0, .int .i64 0, .int .i64 0, .int .u64 0] k g c A bs W _ p2 e2 #[.int .i64 6, .int .i64 (s : Nat), .int .i64 0, .int .u64 0] from B2.out.set P.out 1 (.int .i64 (s : Nat)))
    go_upto_region 4 with fail
    obtain ⟨x2, hx⟩ : ∃ x2, x2 = w2.setCell ⟨g, 1, none⟩ (.int .i64 (s : Nat)) := ⟨_, rfl⟩
    rw [← hx] at A2 ⊢
    clear hx k0 z0 c0 B2 A1
    have HP3 := Lib.hid (PostP.pure (0 : Int) bs p2 e2)
    have c0 := A2.out.2.1.cell 0
    go_wp2_with fail
    refine (reffloat_any k c A bs hlen hc hby p2 e2 x2 A2.out.1).mono ?_
    rintro r w4 ⟨b, p4, e4, rfl, hS, hO, hP⟩
    have HP4 := Lib.hid hP
    have B4 := Lib.hid (A2.out.step P.out hO hS)
    clear hS hO hP c0
    have c0 := B4.out.2.1.cell 0
    have k0 := B4.out.2.1.cell 3
    have z0 := B4.out.2.1.frozen 3
    have A4 := Lib.hid (show AtG 35 #[.int .i64 0, .int .i64 0, .int .i64 0, .int .u64 0] k g c A bs W _ p4 e4 #[.int .i64 6, .int .i64 (s : Nat), .int .i64 0, .int .u64 (b : Nat)] from B4.out.set P.out 3 (.int .u64 (b : Nat)))
    go_upto_region 8 with fail
    obtain ⟨x4, hx⟩ : ∃ x4, x4 = w4.setCell ⟨g, 3, none⟩ (.int .u64 (b : Nat)) := ⟨_, rfl⟩
    rw [← hx] at A4 ⊢
    clear hx k0 z0 c0 B4 A2
    have HPOST := Lib.hid (op_post (k := 6) (s := s) (q := 0) (b := b) HP1.out (by exact HP2.out) (by exact HP3.out) (by exact HP4.out))
    obtain ⟨o, ho⟩ : ∃ o, o = OpR.mk ((6 : Nat) : Int) ((s : Nat) : Int) 0 b := ⟨_, rfl⟩
    rw [← ho] at HPOST
    have AF := Lib.hid (show AtG 35 #[.int .i64 0, .int .i64 0, .int .i64 0, .int .u64 0] k g c A bs W x4 p4 e4 o.plain.toArray from by rw [ho, plain_arr]; exact A4.out)
    clear ho
    have c0 := A4.out.2.1.cell 0
    go_upto_region 8 with fail
    clear c0 A4
    obtain ⟨_, _, c2, cz⟩ := AF.out.1.cells
    have z2 := cz 2
    have rgl := AF.out.2.1.range
    clear cz
    by_cases he6 : e4 = 0
    · have HE6 := Lib.hid he6
      rw [he6] at c2
      clear he6
      go_wp2_with (first | (refine wpList_load_midg (by rfl) 35 _ rfl _ _ rfl (OpR.plain o) _ rgl Tryz.underlying35 rfl (pinfoL6 _) ?_))
      refine (rmay6_any o x4).mono ?_
      rintro r x7 ⟨rfl, hb⟩
      have A7 := Lib.hid (AF.out.next P.out hb)
      clear hb c2 z2 rgl AF
      rw [rmayB_eq]
      cases hr : mayO o with
      | true =>
        have HL := Lib.hid (show e = 0 ∧ opP (bs.drop p) = .ok (o, bs.drop p4) from by have := HPOST.out.1 HE6.out; rwa [hr, if_pos rfl] at this)
        have rgl := A7.out.2.1.range
        have bg := A7.out.2.2.1
        clear hr
        go_wp2_with (first | (refine wpList_load_midg (by rfl) 35 _ rfl _ _ rfl (OpR.plain o) _ rgl Tryz.underlying35 rfl (pinfoL6 _) ?_) | (refine wpList_store_blk rfl 35 _ _ rfl W.heap.size 35 _ o.plain.toArray rfl rfl bg (pinfoA6 _) (plain_siz o) (plain_one o) ?_; intro hrow))
        refine bodyPost_row (t := 35) o.plain.toArray rfl rfl rfl Tryz.underlying35 rfl (pinfoA6 _) hrow ?_
        exact ⟨o, p4, e4, rfl, (A7.out.res P.out _).1, (A7.out.res P.out _).2, by rw [HL.out.1, HE6.out]; exact PostP.good HL.out.2 rfl rfl⟩
      | false =>
        have HL := Lib.hid (show e = 0 ∧ opP (bs.drop p) = .error 3 from by have := HPOST.out.1 HE6.out; rw [hr] at this; exact this)
        obtain ⟨_, _, c2, cz⟩ := A7.out.1.cells
        have z2 := cz 2
        have A8 := Lib.hid (show AtG 35 #[.int .i64 0, .int .i64 0, .int .i64 0, .int .u64 0] k g c A bs W (x7.setCell ⟨k, 2, none⟩ (.int .i64 3)) p4 3 o.plain.toArray from A7.out.step P.out ((Off.refl k x7).set 2 _) (A7.out.1.setE 3))
        have rgl := A8.out.2.1.range
        have bg := A8.out.2.2.1
        clear hr cz
        go_wp2_with (first | (refine wpList_load_midg (by rfl) 35 _ rfl _ _ rfl (OpR.plain o) _ rgl Tryz.underlying35 rfl (pinfoL6 _) ?_) | (refine wpList_store_blk rfl 35 _ _ rfl W.heap.size 35 _ o.plain.toArray rfl rfl bg (pinfoA6 _) (plain_siz o) (plain_one o) ?_; intro hrow))
        refine bodyPost_row (t := 35) o.plain.toArray rfl rfl rfl Tryz.underlying35 rfl (pinfoA6 _) hrow ?_
        exact ⟨o, p4, 3, rfl, (A8.out.res P.out _).1, (A8.out.res P.out _).2, by rw [HL.out.1]; exact PostP.err HL.out.2 (by decide)⟩
    · have f1 : (e4 == 0) = false := by simpa using he6
      have HE6 := Lib.hid he6
      have bg := AF.out.2.2.1
      clear he6
      go_wp2_with (first | (refine wpList_load_midg (by rfl) 35 _ rfl _ _ rfl (OpR.plain o) _ rgl Tryz.underlying35 rfl (pinfoL6 _) ?_) | (refine wpList_store_blk rfl 35 _ _ rfl W.heap.size 35 _ o.plain.toArray rfl rfl bg (pinfoA6 _) (plain_siz o) (plain_one o) ?_; intro hrow))
      refine bodyPost_row (t := 35) o.plain.toArray rfl rfl rfl Tryz.underlying35 rfl (pinfoA6 _) hrow ?_
      refine ⟨o, p4, e4, rfl, (AF.out.res P.out _).1, (AF.out.res P.out _).2, fun _ => HE6.out, fun h0 => ?_⟩
      obtain ⟨y, hy⟩ := HPOST.out.2 HE6.out h0
      rw [hy]
      exact HE6.out
end Go.Proofs.YtgnfachjobohoaaGreat
namespace Go.Proofs.YtgnfachjobohoaaGreat
open Go.RowKit
set_option linter.unusedSimpArgs false
set_option linter.unusedVariables false
attribute [local go_sem] Tot.run_store_float
theorem item_siz (x : Ev) : (#[.int .u64 0, .int .i64 0, .int .u32 0, .int .i64 0, .int .i64 0, .int .u32 0, .int .u32 0, .int .u32 0, .int .u32 0, .int .u32 0, .int .u32 0, .int .u32 0, .int .u32 0, .int .u32 0, .int .u32 0, .int .u32 0, .int .u32 0, .int .i64 0, .int .i64 0, .int .i64 0, .int .u64 0] : Array Value).size = x.item.toArray.size := show 21 = x.item.toArray.size by rw [List.size_toArray, item_len]
def zOpR : OpR := ⟨0, 0, 0, 0⟩
def zOpRL : List Value := [.int .i64 0, .int .i64 0, .int .i64 0, .int .u64 0]
theorem zOpR_plain : zOpR.plain = zOpRL := congrArg Array.toList (plain_arr zOpR)
theorem rev_op (l : Lab) (o : OpR) : setL (Ev.mk l zOpR).item.toArray 17 o.plain = (Ev.mk l o).item.toArray := by
  have := setL_app o.plain zOpRL l.cells (by rw [plain_len]; rfl)
  rw [lab_len] at this
  rw [item_def, zOpR_plain, this, item_def]
/-- What lies where in an event's box. -/
theorem item_cells {W : World} {b : Nat} {t : TypeId} {x : Ev} (h : Blk W b t x.item.toArray) : W.rangeAt b 0 x.item ∧ W.rangeAt b 0 x.l.cells ∧ W.rangeAt b 17 x.o.plain ∧ W.cell? ⟨b, 4, none⟩ = some (.int .i64 x.l.se) := by
  obtain ⟨h1, h2, h3⟩ := item_all h
  exact ⟨h1, h2, h3, by have := h2 4 _ lab_4; rwa [Nat.zero_add] at this⟩
theorem ev_post {bs : List Nat} {p p1 p2 : Nat} {e e1 e2 : Int} {l : Lab} {o : OpR} (P1 : PostP labP bs p p1 e e1 (fun x => l = x)) (P2 : PostP opP bs p1 p2 e1 e2 (fun x => o = x)) :
    (e2 = 0 → e = 0 ∧ evP (bs.drop p) = if rightE ⟨l, o⟩ then .ok (⟨l, o⟩, bs.drop p2) else .error 3) ∧ (e2 ≠ 0 → e = 0 → ∃ y, evP (bs.drop p) = .error y) := by
  constructor
  · intro h2
    obtain ⟨h1, o', r2, rfl⟩ := P2.ok h2
    obtain ⟨h0, l', r1, rfl⟩ := P1.ok h1
    refine ⟨h0, ?_⟩
    rw [evP_def]
    refine (bindP_ok r1).trans ?_
    exact bindP_ok r2
  · intro h2 h0
    rw [evP_def]
    by_cases h1 : e1 = 0
    · obtain ⟨_, l', r1, rfl⟩ := P1.ok h1
      obtain ⟨y, hy⟩ := P2.no h1 h2
      exact ⟨y, (bindP_ok r1).trans (bindP_err hy)⟩
    · obtain ⟨y, hy⟩ := P1.no h0 h1
      exact ⟨y, bindP_err hy⟩
end Go.Proofs.YtgnfachjobohoaaGreat
namespace Go.Proofs.YtgnfachjobohoaaGreat
open Go.RowKit
set_option linter.unusedSimpArgs false
set_option linter.unusedVariables false
attribute [local go_sem] Tot.run_store_float
end Go.Proofs.YtgnfachjobohoaaGreat
namespace Go.Proofs.YtgnfachjobohoaaGreat
open Go.RowKit
set_option linter.unusedSimpArgs false
set_option linter.unusedVariables false
theorem encO_cases (o : OpR) : encO o = ((enc (wordN o.k) ++ (if hasS o.k then enc (wordN o.s) else [])) ++ (if hasQ o.k then enc (zig o.q) else [])) ++ (if hasP o.k then encF o.p else []) := by unfold encO; simp only [List.append_assoc]
set_option maxRecDepth 20000 in
set_option maxHeartbeats 8000000 in
theorem rwriteop6_any (o : OpR) (hok : o.Ok) (W : World) :
    Calls Tryz.prog 47 #[.agg o.plain.toArray] W fun e W' => ∃ v, e = .returned v ∧ Made W W' v (encO o) := by
  have hb0 := (Below.refl W.heap.size W).alloc (Nat.le_refl _) (.cells o.plain.toArray 35)
  have hbk := Blk.new W 35 o.plain.toArray
  have hsz : (W.alloc (.cells o.plain.toArray 35)).heap.size = W.heap.size + 1 := by simp
  have HLE := Lib.hid (show (enc (wordN o.k)).length ≤ 10 ∧ (enc (wordN o.s)).length ≤ 10 ∧ (enc (zig o.q)).length ≤ 10 ∧ (encF o.p).length ≤ 10 from ⟨enc_len _ (wordN_lt _), enc_len _ (wordN_lt _), enc_len _ (zig_lt hok.q1 hok.q2), by unfold encF; rw [be8_len]; omega⟩)
  have HOK := Lib.hid hok
  have w1 := wrap_word o.k
  have w2 := wrap_word o.s
  have cb := Tot.call_frombits
  have HE := Lib.hid (encO_cases o)
  go_enter Tryz.func47, Tryz.ntmps47
  go_upto_region 1 with fail
  obtain ⟨x1, hx1⟩ : ∃ x1, x1 = W.alloc (.cells o.plain.toArray 35) := ⟨_, rfl⟩
  rw [← hx1] at hb0 hbk hsz ⊢
  have HB := Lib.hid hb0
  have HQ := Lib.hid (show ∀ w', Below x1.heap.size x1 w' → w'.cell? ⟨W.heap.size, 0, none⟩ = some (.int .i64 o.k) ∧ w'.cell? ⟨W.heap.size, 1, none⟩ = some (.int .i64 o.s) ∧ w'.cell? ⟨W.heap.size, 2, none⟩ = some (.int .i64 o.q) ∧ w'.cell? ⟨W.heap.size, 3, none⟩ = some (.int .u64 (o.p : Nat)) from fun w' hb => plain_all (hbk.next hb))
  clear hx1 hb0 hbk hsz hok
  obtain ⟨q0, q1, q2, q3⟩ := HQ.out x1 (Below.refl _ _)
  go_upto_region 2 with (first | (go_at_call 46; refine (rfnum_any (wordN o.k) _ (wordN_lt _)).mono ?_; rintro e y1 ⟨v1, rfl, hM⟩; have HO1 := Lib.hid (Own8.first hM); clear hM q0 q1 q2 q3))
  obtain ⟨q0, q1, q2, q3⟩ := HQ.out y1 HO1.out.2
  have hcs : o.k = 4 ∨ o.k = 6 ∨ o.k = 1 ∨ o.k = 2 ∨ o.k = 5 ∨ (o.k ≠ 4 ∧ o.k ≠ 6 ∧ o.k ≠ 1 ∧ o.k ≠ 2 ∧ o.k ≠ 5) := by omega
  rcases hcs with h | h | h | h | h | h
  · have f4 : (o.k == 4) = true := by rw [h]; rfl
    have g4 : (o.k != 4) = false := by rw [h]; rfl
    have f6 : (o.k == 6) = false := by rw [h]; rfl
    have g6 : (o.k != 6) = true := by rw [h]; rfl
    have f1 : (o.k == 1) = false := by rw [h]; rfl
    have g1 : (o.k != 1) = true := by rw [h]; rfl
    have f2 : (o.k == 2) = false := by rw [h]; rfl
    have g2 : (o.k != 2) = true := by rw [h]; rfl
    have f5 : (o.k == 5) = false := by rw [h]; rfl
    have g5 : (o.k != 5) = true := by rw [h]; rfl
    have e1 : hasS o.k = false := by rw [h]; rfl
    have e2 : hasQ o.k = false := by rw [h]; rfl
    have e3 : hasP o.k = false := by rw [h]; rfl
    have HR := Lib.hid (show encO o = enc (wordN o.k) from by rw [HE.out, e1, e2, e3]; simp only [if_true, if_false, Bool.false_eq_true, List.append_nil])
    clear e1 e2 e3 h HE
    go_wp2_with fail
    go_ret
    refine ⟨v1, rfl, ?_, HB.out.trans (HO1.out.2.mono HB.out.size)⟩
    rw [HR.out]
    exact own_le HO1.out.1 HB.out.size
  · have f4 : (o.k == 4) = false := by rw [h]; rfl
    have g4 : (o.k != 4) = true := by rw [h]; rfl
    have f6 : (o.k == 6) = true := by rw [h]; rfl
    have g6 : (o.k != 6) = false := by rw [h]; rfl
    have f1 : (o.k == 1) = false := by rw [h]; rfl
    have g1 : (o.k != 1) = true := by rw [h]; rfl
    have f2 : (o.k == 2) = false := by rw [h]; rfl
    have g2 : (o.k != 2) = true := by rw [h]; rfl
    have f5 : (o.k == 5) = false := by rw [h]; rfl
    have g5 : (o.k != 5) = true := by rw [h]; rfl
    have e1 : hasS o.k = true := by rw [h]; rfl
    have e2 : hasQ o.k = false := by rw [h]; rfl
    have e3 : hasP o.k = true := by rw [h]; rfl
    have HR := Lib.hid (show encO o = enc (wordN o.k) ++ enc (wordN o.s) ++ encF o.p from by rw [HE.out, e1, e2, e3]; simp only [if_true, if_false, Bool.false_eq_true, List.append_nil])
    clear e1 e2 e3 h HE
    go_wp2_with (first | (go_at_call 46; refine (rfnum_any (wordN o.s) _ (wordN_lt _)).mono ?_; rintro e z2 ⟨u2, rfl, hM⟩; obtain ⟨A2, c2, rfl, hS2⟩ := src_own hM.1; have HM2 := Lib.hid hM; have HS2 := Lib.hid hS2; clear hM hS2 q0 q1 q2 q3) | (refine wpList_append_u8 _ rfl _ _ rfl x1.heap.size v1 (enc (wordN o.k)).length (u8s (enc (wordN o.k))) rfl (own_next HO1.out.1 HM2.out.2 HO1.out.2.size) A2 (enc (wordN o.s)).length c2 (u8s (enc (wordN o.s))) rfl (u8s_len _) HS2.out (u8s_one _) (by (try simp only [List.length_append]); obtain ⟨_, _, _, _⟩ := HLE.out; omega) (Nat.le_trans HO1.out.2.size HM2.out.2.size) ?_; intro v2 y2 hown hgrow _; have HO2 := Lib.hid (Own8.more rfl HO1.out HM2.out rfl hown hgrow); clear hown hgrow HO1 HM2 HS2; obtain ⟨q0, q1, q2, q3⟩ := HQ.out y2 HO2.out.2) | (go_at_call 76; refine (rffloat_any o.p _ HOK.out.p).mono ?_; rintro e z3 ⟨u3, rfl, hM⟩; obtain ⟨A3, c3, rfl, hS3⟩ := src_own hM.1; have HM3 := Lib.hid hM; have HS3 := Lib.hid hS3; clear hM hS3 q0 q1 q2 q3) | (refine wpList_append_u8 _ rfl _ _ rfl x1.heap.size v2 (enc (wordN o.k) ++ enc (wordN o.s)).length (u8s (enc (wordN o.k) ++ enc (wordN o.s))) rfl (own_next HO2.out.1 HM3.out.2 HO2.out.2.size) A3 (encF o.p).length c3 (u8s (encF o.p)) rfl (u8s_len _) HS3.out (u8s_one _) (by (try simp only [List.length_append]); obtain ⟨_, _, _, _⟩ := HLE.out; omega) (Nat.le_trans HO2.out.2.size HM3.out.2.size) ?_; intro v3 y3 hown hgrow _; have HO3 := Lib.hid (Own8.more rfl HO2.out HM3.out rfl hown hgrow); clear hown hgrow HO2 HM3 HS3; obtain ⟨q0, q1, q2, q3⟩ := HQ.out y3 HO3.out.2))
    go_ret
    refine ⟨v3, rfl, ?_, HB.out.trans (HO3.out.2.mono HB.out.size)⟩
    rw [HR.out]
    exact own_le HO3.out.1 HB.out.size
  · have f4 : (o.k == 4) = false := by rw [h]; rfl
    have g4 : (o.k != 4) = true := by rw [h]; rfl
    have f6 : (o.k == 6) = false := by rw [h]; rfl
    have g6 : (o.k != 6) = true := by rw [h]; rfl
    have f1 : (o.k == 1) = true := by rw [h]; rfl
    have g1 : (o.k != 1) = false := by rw [h]; rfl
    have f2 : (o.k == 2) = false := by rw [h]; rfl
    have g2 : (o.k != 2) = true := by rw [h]; rfl
    have f5 : (o.k == 5) = false := by rw [h]; rfl
    have g5 : (o.k != 5) = true := by rw [h]; rfl
    have e1 : hasS o.k = true := by rw [h]; rfl
    have e2 : hasQ o.k = true := by rw [h]; rfl
    have e3 : hasP o.k = false := by rw [h]; rfl
    have HR := Lib.hid (show encO o = enc (wordN o.k) ++ enc (wordN o.s) ++ enc (zig o.q) from by rw [HE.out, e1, e2, e3]; simp only [if_true, if_false, Bool.false_eq_true, List.append_nil])
    clear e1 e2 e3 h HE
    go_wp2_with (first | (go_at_call 46; refine (rfnum_any (wordN o.s) _ (wordN_lt _)).mono ?_; rintro e z2 ⟨u2, rfl, hM⟩; obtain ⟨A2, c2, rfl, hS2⟩ := src_own hM.1; have HM2 := Lib.hid hM; have HS2 := Lib.hid hS2; clear hM hS2 q0 q1 q2 q3) | (refine wpList_append_u8 _ rfl _ _ rfl x1.heap.size v1 (enc (wordN o.k)).length (u8s (enc (wordN o.k))) rfl (own_next HO1.out.1 HM2.out.2 HO1.out.2.size) A2 (enc (wordN o.s)).length c2 (u8s (enc (wordN o.s))) rfl (u8s_len _) HS2.out (u8s_one _) (by (try simp only [List.length_append]); obtain ⟨_, _, _, _⟩ := HLE.out; omega) (Nat.le_trans HO1.out.2.size HM2.out.2.size) ?_; intro v2 y2 hown hgrow _; have HO2 := Lib.hid (Own8.more rfl HO1.out HM2.out rfl hown hgrow); clear hown hgrow HO1 HM2 HS2; obtain ⟨q0, q1, q2, q3⟩ := HQ.out y2 HO2.out.2) | (go_at_call 75; refine (rfint_any o.q _ HOK.out.q1 HOK.out.q2).mono ?_; rintro e z3 ⟨u3, rfl, hM⟩; obtain ⟨A3, c3, rfl, hS3⟩ := src_own hM.1; have HM3 := Lib.hid hM; have HS3 := Lib.hid hS3; clear hM hS3 q0 q1 q2 q3) | (refine wpList_append_u8 _ rfl _ _ rfl x1.heap.size v2 (enc (wordN o.k) ++ enc (wordN o.s)).length (u8s (enc (wordN o.k) ++ enc (wordN o.s))) rfl (own_next HO2.out.1 HM3.out.2 HO2.out.2.size) A3 (enc (zig o.q)).length c3 (u8s (enc (zig o.q))) rfl (u8s_len _) HS3.out (u8s_one _) (by (try simp only [List.length_append]); obtain ⟨_, _, _, _⟩ := HLE.out; omega) (Nat.le_trans HO2.out.2.size HM3.out.2.size) ?_; intro v3 y3 hown hgrow _; have HO3 := Lib.hid (Own8.more rfl HO2.out HM3.out rfl hown hgrow); clear hown hgrow HO2 HM3 HS3; obtain ⟨q0, q1, q2, q3⟩ := HQ.out y3 HO3.out.2))
    go_ret
    refine ⟨v3, rfl, ?_, HB.out.trans (HO3.out.2.mono HB.out.size)⟩
    rw [HR.out]
    exact own_le HO3.out.1 HB.out.size
  · have f4 : (o.k == 4) = false := by rw [h]; rfl
    have g4 : (o.k != 4) = true := by rw [h]; rfl
    have f6 : (o.k == 6) = false := by rw [h]; rfl
    have g6 : (o.k != 6) = true := by rw [h]; rfl
    have f1 : (o.k == 1) = false := by rw [h]; rfl
    have g1 : (o.k != 1) = true := by rw [h]; rfl
    have f2 : (o.k == 2) = true := by rw [h]; rfl
    have g2 : (o.k != 2) = false := by rw [h]; rfl
    have f5 : (o.k == 5) = false := by rw [h]; rfl
    have g5 : (o.k != 5) = true := by rw [h]; rfl
    have e1 : hasS o.k = true := by rw [h]; rfl
    have e2 : hasQ o.k = true := by rw [h]; rfl
    have e3 : hasP o.k = false := by rw [h]; rfl
    have HR := Lib.hid (show encO o = enc (wordN o.k) ++ enc (wordN o.s) ++ enc (zig o.q) from by rw [HE.out, e1, e2, e3]; simp only [if_true, if_false, Bool.false_eq_true, List.append_nil])
    clear e1 e2 e3 h HE
    go_wp2_with (first | (go_at_call 46; refine (rfnum_any (wordN o.s) _ (wordN_lt _)).mono ?_; rintro e z2 ⟨u2, rfl, hM⟩; obtain ⟨A2, c2, rfl, hS2⟩ := src_own hM.1; have HM2 := Lib.hid hM; have HS2 := Lib.hid hS2; clear hM hS2 q0 q1 q2 q3) | (refine wpList_append_u8 _ rfl _ _ rfl x1.heap.size v1 (enc (wordN o.k)).length (u8s (enc (wordN o.k))) rfl (own_next HO1.out.1 HM2.out.2 HO1.out.2.size) A2 (enc (wordN o.s)).length c2 (u8s (enc (wordN o.s))) rfl (u8s_len _) HS2.out (u8s_one _) (by (try simp only [List.length_append]); obtain ⟨_, _, _, _⟩ := HLE.out; omega) (Nat.le_trans HO1.out.2.size HM2.out.2.size) ?_; intro v2 y2 hown hgrow _; have HO2 := Lib.hid (Own8.more rfl HO1.out HM2.out rfl hown hgrow); clear hown hgrow HO1 HM2 HS2; obtain ⟨q0, q1, q2, q3⟩ := HQ.out y2 HO2.out.2) | (go_at_call 75; refine (rfint_any o.q _ HOK.out.q1 HOK.out.q2).mono ?_; rintro e z3 ⟨u3, rfl, hM⟩; obtain ⟨A3, c3, rfl, hS3⟩ := src_own hM.1; have HM3 := Lib.hid hM; have HS3 := Lib.hid hS3; clear hM hS3 q0 q1 q2 q3) | (refine wpList_append_u8 _ rfl _ _ rfl x1.heap.size v2 (enc (wordN o.k) ++ enc (wordN o.s)).length (u8s (enc (wordN o.k) ++ enc (wordN o.s))) rfl (own_next HO2.out.1 HM3.out.2 HO2.out.2.size) A3 (enc (zig o.q)).length c3 (u8s (enc (zig o.q))) rfl (u8s_len _) HS3.out (u8s_one _) (by (try simp only [List.length_append]); obtain ⟨_, _, _, _⟩ := HLE.out; omega) (Nat.le_trans HO2.out.2.size HM3.out.2.size) ?_; intro v3 y3 hown hgrow _; have HO3 := Lib.hid (Own8.more rfl HO2.out HM3.out rfl hown hgrow); clear hown hgrow HO2 HM3 HS3; obtain ⟨q0, q1, q2, q3⟩ := HQ.out y3 HO3.out.2))
    go_ret
    refine ⟨v3, rfl, ?_, HB.out.trans (HO3.out.2.mono HB.out.size)⟩
    rw [HR.out]
    exact own_le HO3.out.1 HB.out.size
  · have f4 : (o.k == 4) = false := by rw [h]; rfl
    have g4 : (o.k != 4) = true := by rw [h]; rfl
    have f6 : (o.k == 6) = false := by rw [h]; rfl
    have g6 : (o.k != 6) = true := by rw [h]; rfl
    have f1 : (o.k == 1) = false := by rw [h]; rfl
    have g1 : (o.k != 1) = true := by rw [h]; rfl
    have f2 : (o.k == 2) = false := by rw [h]; rfl
    have g2 : (o.k != 2) = true := by rw [h]; rfl
    have f5 : (o.k == 5) = true := by rw [h]; rfl
    have g5 : (o.k != 5) = false := by rw [h]; rfl
    have e1 : hasS o.k = true := by rw [h]; rfl
    have e2 : hasQ o.k = true := by rw [h]; rfl
    have e3 : hasP o.k = false := by rw [h]; rfl
    have HR := Lib.hid (show encO o = enc (wordN o.k) ++ enc (wordN o.s) ++ enc (zig o.q) from by rw [HE.out, e1, e2, e3]; simp only [if_true, if_false, Bool.false_eq_true, List.append_nil])
    clear e1 e2 e3 h HE
    go_wp2_with (first | (go_at_call 46; refine (rfnum_any (wordN o.s) _ (wordN_lt _)).mono ?_; rintro e z2 ⟨u2, rfl, hM⟩; obtain ⟨A2, c2, rfl, hS2⟩ := src_own hM.1; have HM2 := Lib.hid hM; have HS2 := Lib.hid hS2; clear hM hS2 q0 q1 q2 q3) | (refine wpList_append_u8 _ rfl _ _ rfl x1.heap.size v1 (enc (wordN o.k)).length (u8s (enc (wordN o.k))) rfl (own_next HO1.out.1 HM2.out.2 HO1.out.2.size) A2 (enc (wordN o.s)).length c2 (u8s (enc (wordN o.s))) rfl (u8s_len _) HS2.out (u8s_one _) (by (try simp only [List.length_append]); obtain ⟨_, _, _, _⟩ := HLE.out; omega) (Nat.le_trans HO1.out.2.size HM2.out.2.size) ?_; intro v2 y2 hown hgrow _; have HO2 := Lib.hid (Own8.more rfl HO1.out HM2.out rfl hown hgrow); clear hown hgrow HO1 HM2 HS2; obtain ⟨q0, q1, q2, q3⟩ := HQ.out y2 HO2.out.2) | (go_at_call 75; refine (rfint_any o.q _ HOK.out.q1 HOK.out.q2).mono ?_; rintro e z3 ⟨u3, rfl, hM⟩; obtain ⟨A3, c3, rfl, hS3⟩ := src_own hM.1; have HM3 := Lib.hid hM; have HS3 := Lib.hid hS3; clear hM hS3 q0 q1 q2 q3) | (refine wpList_append_u8 _ rfl _ _ rfl x1.heap.size v2 (enc (wordN o.k) ++ enc (wordN o.s)).length (u8s (enc (wordN o.k) ++ enc (wordN o.s))) rfl (own_next HO2.out.1 HM3.out.2 HO2.out.2.size) A3 (enc (zig o.q)).length c3 (u8s (enc (zig o.q))) rfl (u8s_len _) HS3.out (u8s_one _) (by (try simp only [List.length_append]); obtain ⟨_, _, _, _⟩ := HLE.out; omega) (Nat.le_trans HO2.out.2.size HM3.out.2.size) ?_; intro v3 y3 hown hgrow _; have HO3 := Lib.hid (Own8.more rfl HO2.out HM3.out rfl hown hgrow); clear hown hgrow HO2 HM3 HS3; obtain ⟨q0, q1, q2, q3⟩ := HQ.out y3 HO3.out.2))
    go_ret
    refine ⟨v3, rfl, ?_, HB.out.trans (HO3.out.2.mono HB.out.size)⟩
    rw [HR.out]
    exact own_le HO3.out.1 HB.out.size
  · have f4 : (o.k == 4) = false := by (have := h; simp; omega)
    have g4 : (o.k != 4) = true := by (have := h; simp; omega)
    have f6 : (o.k == 6) = false := by (have := h; simp; omega)
    have g6 : (o.k != 6) = true := by (have := h; simp; omega)
    have f1 : (o.k == 1) = false := by (have := h; simp; omega)
    have g1 : (o.k != 1) = true := by (have := h; simp; omega)
    have f2 : (o.k == 2) = false := by (have := h; simp; omega)
    have g2 : (o.k != 2) = true := by (have := h; simp; omega)
    have f5 : (o.k == 5) = false := by (have := h; simp; omega)
    have g5 : (o.k != 5) = true := by (have := h; simp; omega)
    have e1 : hasS o.k = true := by unfold hasS; rw [g4]
    have e2 : hasQ o.k = false := by unfold hasQ; rw [f1, f2, f5]; rfl
    have e3 : hasP o.k = false := by unfold hasP; rw [f6]
    have HR := Lib.hid (show encO o = enc (wordN o.k) ++ enc (wordN o.s) from by rw [HE.out, e1, e2, e3]; simp only [if_true, if_false, Bool.false_eq_true, List.append_nil])
    clear e1 e2 e3 h HE
    go_wp2_with (first | (go_at_call 46; refine (rfnum_any (wordN o.s) _ (wordN_lt _)).mono ?_; rintro e z2 ⟨u2, rfl, hM⟩; obtain ⟨A2, c2, rfl, hS2⟩ := src_own hM.1; have HM2 := Lib.hid hM; have HS2 := Lib.hid hS2; clear hM hS2 q0 q1 q2 q3) | (refine wpList_append_u8 _ rfl _ _ rfl x1.heap.size v1 (enc (wordN o.k)).length (u8s (enc (wordN o.k))) rfl (own_next HO1.out.1 HM2.out.2 HO1.out.2.size) A2 (enc (wordN o.s)).length c2 (u8s (enc (wordN o.s))) rfl (u8s_len _) HS2.out (u8s_one _) (by (try simp only [List.length_append]); obtain ⟨_, _, _, _⟩ := HLE.out; omega) (Nat.le_trans HO1.out.2.size HM2.out.2.size) ?_; intro v2 y2 hown hgrow _; have HO2 := Lib.hid (Own8.more rfl HO1.out HM2.out rfl hown hgrow); clear hown hgrow HO1 HM2 HS2; obtain ⟨q0, q1, q2, q3⟩ := HQ.out y2 HO2.out.2))
    go_ret
    refine ⟨v2, rfl, ?_, HB.out.trans (HO2.out.2.mono HB.out.size)⟩
    rw [HR.out]
    exact own_le HO2.out.1 HB.out.size
end Go.Proofs.YtgnfachjobohoaaGreat
