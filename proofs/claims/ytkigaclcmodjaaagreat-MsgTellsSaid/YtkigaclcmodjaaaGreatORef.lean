/-
The document's op: may it be?
-/
import Derived.Test.YtkigaclcmodjaaaGreatOp7
import Derived.Test.YtkigaclcmodjaaaGreatLRef
namespace Go.Proofs.YtkigaclcmodjaaaGreat
open Go.RowKit
set_option linter.unusedSimpArgs false
set_option linter.unusedVariables false
def rmayB (o : OpR) : Bool :=
  match o with
  | ⟨k, s, q, p⟩ => if k = 1 then (!((p : Int) != 0) && (!(decide (q < 1)) && (!(decide (1000 < q)) && ((decide (0 < s)) && ((decide (s ≤ 40))))))) else if k = 2 then (!((p : Int) != 0) && (!(decide (q < -1000)) && (!(decide (1000 < q)) && (!(q == 0) && ((decide (0 < s)) && ((decide (s ≤ 40)))))))) else if k = 5 then (!((p : Int) != 0) && (!(decide (q < 1)) && (!(decide (3 < q)) && ((decide (0 < s)) && ((decide (s ≤ 40))))))) else if k = 3 then (!((p : Int) != 0) && (!(decide (q < 0)) && (!(decide (0 < q)) && ((decide (0 < s)) && ((decide (s ≤ 40))))))) else if k = 4 then (!((p : Int) != 0) && (!(decide (q < 0)) && (!(decide (0 < q)) && ((s == 0))))) else if k = 6 then (!(decide (q < 0)) && (!(decide (0 < q)) && ((decide (0 < s)) && ((decide (s ≤ 40)))))) else false
theorem rmayB_1 (s q : Int) (p : Nat) : rmayB ⟨1, s, q, p⟩ = (!((p : Int) != 0) && (!(decide (q < 1)) && (!(decide (1000 < q)) && ((decide (0 < s)) && ((decide (s ≤ 40))))))) := rfl
theorem rmayB_2 (s q : Int) (p : Nat) : rmayB ⟨2, s, q, p⟩ = (!((p : Int) != 0) && (!(decide (q < -1000)) && (!(decide (1000 < q)) && (!(q == 0) && ((decide (0 < s)) && ((decide (s ≤ 40)))))))) := rfl
theorem rmayB_5 (s q : Int) (p : Nat) : rmayB ⟨5, s, q, p⟩ = (!((p : Int) != 0) && (!(decide (q < 1)) && (!(decide (3 < q)) && ((decide (0 < s)) && ((decide (s ≤ 40))))))) := rfl
theorem rmayB_3 (s q : Int) (p : Nat) : rmayB ⟨3, s, q, p⟩ = (!((p : Int) != 0) && (!(decide (q < 0)) && (!(decide (0 < q)) && ((decide (0 < s)) && ((decide (s ≤ 40))))))) := rfl
theorem rmayB_4 (s q : Int) (p : Nat) : rmayB ⟨4, s, q, p⟩ = (!((p : Int) != 0) && (!(decide (q < 0)) && (!(decide (0 < q)) && ((s == 0))))) := rfl
theorem rmayB_6 (s q : Int) (p : Nat) : rmayB ⟨6, s, q, p⟩ = (!(decide (q < 0)) && (!(decide (0 < q)) && ((decide (0 < s)) && ((decide (s ≤ 40)))))) := rfl
theorem rmayB_no {k : Int} (s q : Int) (p : Nat) (h : k ≠ 1 ∧ k ≠ 2 ∧ k ≠ 5 ∧ k ≠ 3 ∧ k ≠ 4 ∧ k ≠ 6) : rmayB ⟨k, s, q, p⟩ = false := by
  unfold rmayB
  obtain ⟨h1, h2, h3, h4, h5, h6⟩ := h
  simp [h1, h2, h3, h4, h5, h6]
set_option maxRecDepth 20000 in
set_option maxHeartbeats 8000000 in
theorem rmay6_any (o : OpR) (W : World) : Calls Tryz.prog 78 #[.agg o.plain.toArray] W fun e W' => e = .returned (.bool (rmayB o)) ∧ Below W.heap.size W W' := by
  obtain ⟨k, s, q, p⟩ := o
  rw [plain_arr]
  have HB := Lib.hid ((Below.refl W.heap.size W).alloc (Nat.le_refl _) (.cells #[.int .i64 k, .int .i64 s, .int .i64 q, .int .u64 (p : Nat)] 39))
  by_cases k1 : k = 1
  · subst k1
    dsimp only
    cases hp : ((p : Int) != 0) with
    | false =>
      cases hlo : decide (q < 1) with
      | false =>
        cases hhi : decide (1000 < q) with
        | false =>
          cases hs1 : decide (0 < s) with
          | false =>
            go_enter Tryz.func78, Tryz.ntmps78
            go_wp2_with fail
            go_ret
            exact ⟨by rw [show rmayB ⟨1, s, q, p⟩ = false from by rw [rmayB_1, hp, hlo, hhi, hs1]; simp] <;> rfl, HB.out⟩
          | true =>
            cases hs2 : decide (s ≤ 40) with
            | false =>
              go_enter Tryz.func78, Tryz.ntmps78
              go_wp2_with fail
              go_ret
              exact ⟨by rw [show rmayB ⟨1, s, q, p⟩ = false from by rw [rmayB_1, hp, hlo, hhi, hs1, hs2]; simp] <;> rfl, HB.out⟩
            | true =>
              go_enter Tryz.func78, Tryz.ntmps78
              go_wp2_with fail
              go_ret
              exact ⟨by rw [show rmayB ⟨1, s, q, p⟩ = true from by rw [rmayB_1, hp, hlo, hhi, hs1, hs2]; rfl] <;> rfl, HB.out⟩
        | true =>
          go_enter Tryz.func78, Tryz.ntmps78
          go_wp2_with fail
          go_ret
          exact ⟨by rw [show rmayB ⟨1, s, q, p⟩ = false from by rw [rmayB_1, hp, hlo, hhi]; simp] <;> rfl, HB.out⟩
      | true =>
        go_enter Tryz.func78, Tryz.ntmps78
        go_wp2_with fail
        go_ret
        exact ⟨by rw [show rmayB ⟨1, s, q, p⟩ = false from by rw [rmayB_1, hp, hlo]; simp] <;> rfl, HB.out⟩
    | true =>
      go_enter Tryz.func78, Tryz.ntmps78
      go_wp2_with fail
      go_ret
      exact ⟨by rw [show rmayB ⟨1, s, q, p⟩ = false from by rw [rmayB_1, hp]; simp] <;> rfl, HB.out⟩
  by_cases k2 : k = 2
  · subst k2
    dsimp only
    cases hp : ((p : Int) != 0) with
    | false =>
      cases hlo : decide (q < -1000) with
      | false =>
        cases hhi : decide (1000 < q) with
        | false =>
          cases hq0 : (q == 0) with
          | false =>
            cases hs1 : decide (0 < s) with
            | false =>
              go_enter Tryz.func78, Tryz.ntmps78
              go_wp2_with fail
              go_ret
              exact ⟨by rw [show rmayB ⟨2, s, q, p⟩ = false from by rw [rmayB_2, hp, hlo, hhi, hq0, hs1]; simp] <;> rfl, HB.out⟩
            | true =>
              cases hs2 : decide (s ≤ 40) with
              | false =>
                go_enter Tryz.func78, Tryz.ntmps78
                go_wp2_with fail
                go_ret
                exact ⟨by rw [show rmayB ⟨2, s, q, p⟩ = false from by rw [rmayB_2, hp, hlo, hhi, hq0, hs1, hs2]; simp] <;> rfl, HB.out⟩
              | true =>
                go_enter Tryz.func78, Tryz.ntmps78
                go_wp2_with fail
                go_ret
                exact ⟨by rw [show rmayB ⟨2, s, q, p⟩ = true from by rw [rmayB_2, hp, hlo, hhi, hq0, hs1, hs2]; rfl] <;> rfl, HB.out⟩
          | true =>
            go_enter Tryz.func78, Tryz.ntmps78
            go_wp2_with fail
            go_ret
            exact ⟨by rw [show rmayB ⟨2, s, q, p⟩ = false from by rw [rmayB_2, hp, hlo, hhi, hq0]; simp] <;> rfl, HB.out⟩
        | true =>
          go_enter Tryz.func78, Tryz.ntmps78
          go_wp2_with fail
          go_ret
          exact ⟨by rw [show rmayB ⟨2, s, q, p⟩ = false from by rw [rmayB_2, hp, hlo, hhi]; simp] <;> rfl, HB.out⟩
      | true =>
        go_enter Tryz.func78, Tryz.ntmps78
        go_wp2_with fail
        go_ret
        exact ⟨by rw [show rmayB ⟨2, s, q, p⟩ = false from by rw [rmayB_2, hp, hlo]; simp] <;> rfl, HB.out⟩
    | true =>
      go_enter Tryz.func78, Tryz.ntmps78
      go_wp2_with fail
      go_ret
      exact ⟨by rw [show rmayB ⟨2, s, q, p⟩ = false from by rw [rmayB_2, hp]; simp] <;> rfl, HB.out⟩
  by_cases k5 : k = 5
  · subst k5
    dsimp only
    cases hp : ((p : Int) != 0) with
    | false =>
      cases hlo : decide (q < 1) with
      | false =>
        cases hhi : decide (3 < q) with
        | false =>
          cases hs1 : decide (0 < s) with
          | false =>
            go_enter Tryz.func78, Tryz.ntmps78
            go_wp2_with fail
            go_ret
            exact ⟨by rw [show rmayB ⟨5, s, q, p⟩ = false from by rw [rmayB_5, hp, hlo, hhi, hs1]; simp] <;> rfl, HB.out⟩
          | true =>
            cases hs2 : decide (s ≤ 40) with
            | false =>
              go_enter Tryz.func78, Tryz.ntmps78
              go_wp2_with fail
              go_ret
              exact ⟨by rw [show rmayB ⟨5, s, q, p⟩ = false from by rw [rmayB_5, hp, hlo, hhi, hs1, hs2]; simp] <;> rfl, HB.out⟩
            | true =>
              go_enter Tryz.func78, Tryz.ntmps78
              go_wp2_with fail
              go_ret
              exact ⟨by rw [show rmayB ⟨5, s, q, p⟩ = true from by rw [rmayB_5, hp, hlo, hhi, hs1, hs2]; rfl] <;> rfl, HB.out⟩
        | true =>
          go_enter Tryz.func78, Tryz.ntmps78
          go_wp2_with fail
          go_ret
          exact ⟨by rw [show rmayB ⟨5, s, q, p⟩ = false from by rw [rmayB_5, hp, hlo, hhi]; simp] <;> rfl, HB.out⟩
      | true =>
        go_enter Tryz.func78, Tryz.ntmps78
        go_wp2_with fail
        go_ret
        exact ⟨by rw [show rmayB ⟨5, s, q, p⟩ = false from by rw [rmayB_5, hp, hlo]; simp] <;> rfl, HB.out⟩
    | true =>
      go_enter Tryz.func78, Tryz.ntmps78
      go_wp2_with fail
      go_ret
      exact ⟨by rw [show rmayB ⟨5, s, q, p⟩ = false from by rw [rmayB_5, hp]; simp] <;> rfl, HB.out⟩
  by_cases k3 : k = 3
  · subst k3
    dsimp only
    cases hp : ((p : Int) != 0) with
    | false =>
      cases hlo : decide (q < 0) with
      | false =>
        cases hhi : decide (0 < q) with
        | false =>
          cases hs1 : decide (0 < s) with
          | false =>
            go_enter Tryz.func78, Tryz.ntmps78
            go_wp2_with fail
            go_ret
            exact ⟨by rw [show rmayB ⟨3, s, q, p⟩ = false from by rw [rmayB_3, hp, hlo, hhi, hs1]; simp] <;> rfl, HB.out⟩
          | true =>
            cases hs2 : decide (s ≤ 40) with
            | false =>
              go_enter Tryz.func78, Tryz.ntmps78
              go_wp2_with fail
              go_ret
              exact ⟨by rw [show rmayB ⟨3, s, q, p⟩ = false from by rw [rmayB_3, hp, hlo, hhi, hs1, hs2]; simp] <;> rfl, HB.out⟩
            | true =>
              go_enter Tryz.func78, Tryz.ntmps78
              go_wp2_with fail
              go_ret
              exact ⟨by rw [show rmayB ⟨3, s, q, p⟩ = true from by rw [rmayB_3, hp, hlo, hhi, hs1, hs2]; rfl] <;> rfl, HB.out⟩
        | true =>
          go_enter Tryz.func78, Tryz.ntmps78
          go_wp2_with fail
          go_ret
          exact ⟨by rw [show rmayB ⟨3, s, q, p⟩ = false from by rw [rmayB_3, hp, hlo, hhi]; simp] <;> rfl, HB.out⟩
      | true =>
        go_enter Tryz.func78, Tryz.ntmps78
        go_wp2_with fail
        go_ret
        exact ⟨by rw [show rmayB ⟨3, s, q, p⟩ = false from by rw [rmayB_3, hp, hlo]; simp] <;> rfl, HB.out⟩
    | true =>
      go_enter Tryz.func78, Tryz.ntmps78
      go_wp2_with fail
      go_ret
      exact ⟨by rw [show rmayB ⟨3, s, q, p⟩ = false from by rw [rmayB_3, hp]; simp] <;> rfl, HB.out⟩
  by_cases k4 : k = 4
  · subst k4
    dsimp only
    cases hp : ((p : Int) != 0) with
    | false =>
      cases hlo : decide (q < 0) with
      | false =>
        cases hhi : decide (0 < q) with
        | false =>
          cases hs : (s == 0) with
          | false =>
            go_enter Tryz.func78, Tryz.ntmps78
            go_wp2_with fail
            go_ret
            exact ⟨by rw [show rmayB ⟨4, s, q, p⟩ = false from by rw [rmayB_4, hp, hlo, hhi, hs]; simp] <;> rfl, HB.out⟩
          | true =>
            go_enter Tryz.func78, Tryz.ntmps78
            go_wp2_with fail
            go_ret
            exact ⟨by rw [show rmayB ⟨4, s, q, p⟩ = true from by rw [rmayB_4, hp, hlo, hhi, hs]; rfl] <;> rfl, HB.out⟩
        | true =>
          go_enter Tryz.func78, Tryz.ntmps78
          go_wp2_with fail
          go_ret
          exact ⟨by rw [show rmayB ⟨4, s, q, p⟩ = false from by rw [rmayB_4, hp, hlo, hhi]; simp] <;> rfl, HB.out⟩
      | true =>
        go_enter Tryz.func78, Tryz.ntmps78
        go_wp2_with fail
        go_ret
        exact ⟨by rw [show rmayB ⟨4, s, q, p⟩ = false from by rw [rmayB_4, hp, hlo]; simp] <;> rfl, HB.out⟩
    | true =>
      go_enter Tryz.func78, Tryz.ntmps78
      go_wp2_with fail
      go_ret
      exact ⟨by rw [show rmayB ⟨4, s, q, p⟩ = false from by rw [rmayB_4, hp]; simp] <;> rfl, HB.out⟩
  by_cases k6 : k = 6
  · subst k6
    dsimp only
    cases hlo : decide (q < 0) with
    | false =>
      cases hhi : decide (0 < q) with
      | false =>
        cases hs1 : decide (0 < s) with
        | false =>
          go_enter Tryz.func78, Tryz.ntmps78
          go_wp2_with fail
          go_ret
          exact ⟨by rw [show rmayB ⟨6, s, q, p⟩ = false from by rw [rmayB_6, hlo, hhi, hs1]; simp] <;> rfl, HB.out⟩
        | true =>
          cases hs2 : decide (s ≤ 40) with
          | false =>
            go_enter Tryz.func78, Tryz.ntmps78
            go_wp2_with fail
            go_ret
            exact ⟨by rw [show rmayB ⟨6, s, q, p⟩ = false from by rw [rmayB_6, hlo, hhi, hs1, hs2]; simp] <;> rfl, HB.out⟩
          | true =>
            go_enter Tryz.func78, Tryz.ntmps78
            go_wp2_with fail
            go_ret
            exact ⟨by rw [show rmayB ⟨6, s, q, p⟩ = true from by rw [rmayB_6, hlo, hhi, hs1, hs2]; rfl] <;> rfl, HB.out⟩
      | true =>
        go_enter Tryz.func78, Tryz.ntmps78
        go_wp2_with fail
        go_ret
        exact ⟨by rw [show rmayB ⟨6, s, q, p⟩ = false from by rw [rmayB_6, hlo, hhi]; simp] <;> rfl, HB.out⟩
    | true =>
      go_enter Tryz.func78, Tryz.ntmps78
      go_wp2_with fail
      go_ret
      exact ⟨by rw [show rmayB ⟨6, s, q, p⟩ = false from by rw [rmayB_6, hlo]; simp] <;> rfl, HB.out⟩
  have j1 : (k == 1) = false := by simpa using k1
  have j2 : (k == 2) = false := by simpa using k2
  have j5 : (k == 5) = false := by simpa using k5
  have j3 : (k == 3) = false := by simpa using k3
  have j4 : (k == 4) = false := by simpa using k4
  have j6 : (k == 6) = false := by simpa using k6
  rw [rmayB_no s q p ⟨k1, k2, k5, k3, k4, k6⟩]
  clear k1 k2 k5 k3 k4 k6
  go_enter Tryz.func78, Tryz.ntmps78
  go_wp2_with fail
  go_ret
  exact ⟨rfl, HB.out⟩
theorem rmayB_eq (o : OpR) : rmayB o = mayO o := by
  obtain ⟨k, s, q, p⟩ := o
  unfold mayO
  by_cases k1 : k = 1
  · subst k1
    rw [rmayB_1]
    simp [sameO, partsO, bodyB, withinB, hasS, hasQ, hasP, Num.sameB]
    rw [Bool.eq_iff_iff]
    simp
    omega
  by_cases k2 : k = 2
  · subst k2
    rw [rmayB_2]
    simp [sameO, partsO, bodyB, withinB, hasS, hasQ, hasP, Num.sameB]
    rw [Bool.eq_iff_iff]
    simp
    omega
  by_cases k5 : k = 5
  · subst k5
    rw [rmayB_5]
    simp [sameO, partsO, bodyB, withinB, hasS, hasQ, hasP, Num.sameB]
    rw [Bool.eq_iff_iff]
    simp
    omega
  by_cases k3 : k = 3
  · subst k3
    rw [rmayB_3]
    simp [sameO, partsO, bodyB, withinB, hasS, hasQ, hasP, Num.sameB]
    rw [Bool.eq_iff_iff]
    simp
    omega
  by_cases k4 : k = 4
  · subst k4
    rw [rmayB_4]
    simp [sameO, partsO, bodyB, withinB, hasS, hasQ, hasP, Num.sameB]
    rw [Bool.eq_iff_iff]
    simp
    omega
  by_cases k6 : k = 6
  · subst k6
    rw [rmayB_6]
    simp [sameO, partsO, bodyB, withinB, hasS, hasQ, hasP, Num.sameB]
    rw [Bool.eq_iff_iff]
    simp
    omega
  rw [rmayB_no s q p ⟨k1, k2, k5, k3, k4, k6⟩]
  simp [bodyB, k1, k2, k5, k3, k4, k6]
end Go.Proofs.YtkigaclcmodjaaaGreat
