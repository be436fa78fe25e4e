/-
peers: what calls make may be; an op done.
-/
import Derived.Test.YtlceljcplmcjgaaPe6
namespace Go.Proofs.Ytlceljcplmcjgaa
open Go.RowKit
set_option linter.unusedSimpArgs false
set_option linter.unusedVariables false
namespace Pe
theorem lst_nil {p : Nat → Bool} (h : (lst p).length = 0) {j : Nat} (hj : j < 12) : p j = false := by
  cases hp : p j with
  | false => rfl
  | true =>
    have : j + 1 ∈ lst p := lst_mem.2 ⟨by omega, by omega, by simpa using hp⟩
    rw [List.eq_nil_of_length_eq_zero h] at this
    cases this
theorem lst_false : lst (fun _ => false) = [] := by decide +kernel
theorem lst_ext {p q : Nat → Bool} (h : ∀ j, j < 12 → p j = q j) : lst p = lst q := Nd.those_ext fun n h1 h2 => h (n - 1) (by omega)
theorem lst_one (j : Nat) (hj : j < 12) : (lst fun i => decide (i = j)).length = 1 := by
  have : ∀ j, j < 12 → (lst fun i => decide (i = j)).length = 1 := by decide +kernel
  exact this j hj
theorem may2 (n : Nat) : mayB 2 n = true := by unfold mayB; rw [if_neg (by decide), if_neg (by decide)]
section
variable {x : PS} (hx : x.Ok) {k : Nat} (hk : k < 12)
include hx hk
theorem PS.Ok.clear : (x.clear k).Ok where
  n1 := hx.n1
  n2 := hx.n2
  st := fun i hi => by
    unfold PS.clear
    dsimp only
    split
    · omega
    · exact hx.st i hi
  may := fun i hi => by
    unfold PS.clear
    dsimp only
    by_cases h : i = k
    · subst h
      simp only [if_true]
      rw [lst_false]; rfl
    · simp only [if_neg h]
      exact hx.may i hi
  own := fun i j hi hj h => by
    unfold PS.clear at h
    dsimp only at h
    split at h
    · cases h
    · exact hx.own i j hi hj h
theorem PS.Ok.setSt {s : Int} (hs : 0 ≤ s ∧ s ≤ 3) (hm : mayB s (lst (x.pe k)).length = true) : (x.setSt k s).Ok where
  n1 := hx.n1
  n2 := hx.n2
  st := fun i hi => by
    unfold PS.setSt
    dsimp only
    split
    · exact hs
    · exact hx.st i hi
  may := fun i hi => by
    unfold PS.setSt
    dsimp only
    by_cases h : i = k
    · subst h
      rw [if_pos rfl]
      exact hm
    · rw [if_neg h]
      exact hx.may i hi
  own := fun i j hi hj h => hx.own i j hi hj h
theorem PS.Ok.set {s : Int} (hs : 0 ≤ s ∧ s ≤ 3) (hm : s ≠ 0 → mayB s (lst (x.pe k)).length = true) : (x.set k s).Ok := by
  unfold PS.set
  split
  · exact hx.clear hk
  · rename_i h; exact hx.setSt hk hs (hm h)
theorem PS.Ok.setPe {j : Nat} (hj : j < 12) (b : Bool) (h2 : x.st k = 2) (hb : b = true → (j : Int) + 1 ≠ x.n) : (x.setPe k j b).Ok where
  n1 := hx.n1
  n2 := hx.n2
  st := fun i hi => hx.st i hi
  may := fun i hi => by
    by_cases h : i = k
    · subst h
      show mayB (x.st i) _ = true
      rw [h2]
      exact may2 _
    · have e : (x.setPe k j b).pe i = x.pe i := by
        unfold PS.setPe
        dsimp only
        funext l
        rw [if_neg (fun h1 => h h1.1)]
      rw [e]
      exact hx.may i hi
  own := fun i l hi hl h => by
    unfold PS.setPe at h
    dsimp only at h
    split at h
    · rename_i h1
      obtain ⟨rfl, rfl⟩ := h1
      exact hb h
    · exact hx.own i l hi hl h
theorem PS.Ok.join {j : Nat} (hj : j < 12) (h0 : x.st k = 0) (hb : (j : Int) + 1 ≠ x.n) : ((x.set k 1).setPe k j true).Ok where
  n1 := hx.n1
  n2 := hx.n2
  st := fun i hi => by
    show 0 ≤ (x.set k 1).st i ∧ (x.set k 1).st i ≤ 3
    unfold PS.set
    rw [if_neg (by decide)]
    unfold PS.setSt
    dsimp only
    split
    · omega
    · exact hx.st i hi
  may := fun i hi => by
    have hm := hx.may k hk
    rw [h0] at hm
    have hl : (lst (x.pe k)).length = 0 := by unfold mayB at hm; rw [if_pos rfl] at hm; exact of_decide_eq_true hm
    unfold PS.set
    rw [if_neg (by decide)]
    by_cases h : i = k
    · subst h
      have e1 : ((x.setSt i 1).setPe i j true).st i = 1 := by unfold PS.setPe PS.setSt; dsimp only; rw [if_pos rfl]
      have e2 : lst (((x.setSt i 1).setPe i j true).pe i) = lst fun l => decide (l = j) := lst_ext fun l hl2 => by
        unfold PS.setPe PS.setSt
        dsimp only
        by_cases hlj : l = j
        · rw [if_pos ⟨rfl, hlj⟩, decide_eq_true hlj]
        · rw [if_neg (fun h1 => hlj h1.2), decide_eq_false hlj]
          exact lst_nil hl hl2
      rw [e1, e2, lst_one j hj]
      rfl
    · have e1 : ((x.setSt k 1).setPe k j true).st i = x.st i := by unfold PS.setPe PS.setSt; dsimp only; rw [if_neg h]
      have e2 : ((x.setSt k 1).setPe k j true).pe i = x.pe i := by
        unfold PS.setPe PS.setSt
        dsimp only
        funext l
        rw [if_neg (fun h1 => h h1.1)]
      rw [e1, e2]
      exact hx.may i hi
  own := fun i l hi hl h => by
    unfold PS.set at h
    rw [if_neg (by decide)] at h
    unfold PS.setPe PS.setSt at h
    dsimp only at h
    split at h
    · rename_i h1
      obtain ⟨rfl, rfl⟩ := h1
      exact hb
    · exact hx.own i l hi hl h
end
theorem stV_num {x : PS} (hx : x.Ok) {n : Int} (hn : numB n = true) : ∃ k : Nat, k < 12 ∧ n = (k : Int) + 1 ∧ (n - 1).toNat = k ∧ x.stV n = x.st k ∧ x.peV n = x.pe k ∧ x.ofL n = lst (x.pe k) := by
  obtain ⟨k, hk, rfl⟩ := num_of hn
  exact ⟨k, hk, rfl, by omega, stV_of hx.n0 hk, peV_of hx.n0 hk, ofL_of hx.n0 hk⟩
section
variable {x : PS} (hx : x.Ok)
include hx
theorem found_ok (n : Int) : (x.foundF n).2.Ok := by
  unfold PS.foundF
  split
  · rename_i hn
    obtain ⟨k, hk, -, e, -, -, -⟩ := stV_num hx hn
    rw [e]
    split
    · exact hx.set hk (by omega) (fun _ => may2 _)
    · exact hx
  · exact hx
theorem join_ok (n m : Int) : (x.joinF n m).2.Ok := by
  unfold PS.joinF
  split
  · rename_i hn
    obtain ⟨k, hk, -, e, es, -, -⟩ := stV_num hx hn
    rw [e, es]
    split
    · rename_i ho
      obtain ⟨j, hj, rfl⟩ := num_of (other_num ho)
      rw [show ((j : Int) + 1 - 1).toNat = j by omega]
      split
      · rename_i h0
        refine hx.join hk hj h0 ?_
        unfold PS.otherV at ho
        simp only [Bool.and_eq_true, decide_eq_true_eq] at ho
        exact ho.2
      · exact hx
    · exact hx
  · exact hx
theorem asked_ok (n m : Int) : (x.askedF n m).2.Ok := by
  unfold PS.askedF
  split
  · rename_i h
    obtain ⟨h1, ho, -⟩ := h
    obtain ⟨k, hk, -, e, es, -, -⟩ := stV_num hx (st_num (by rw [h1]; decide : x.stV n ≠ 0))
    obtain ⟨j, hj, rfl⟩ := num_of (other_num ho)
    rw [e, show ((j : Int) + 1 - 1).toNat = j by omega]
    refine hx.setPe hk hj true (by rw [← es]; exact h1) (fun _ => ?_)
    unfold PS.otherV at ho
    simp only [Bool.and_eq_true, decide_eq_true_eq] at ho
    exact ho.2
  · exact hx
theorem leaving_ok (n m : Int) : (x.leavingF n m).2.Ok := by
  unfold PS.leavingF
  split
  · rename_i h
    obtain ⟨h1, hh⟩ := h
    obtain ⟨k, hk, -, e, es, -, -⟩ := stV_num hx (has_num hh).1
    obtain ⟨j, hj, rfl⟩ := num_of (has_num hh).2
    rw [e, show ((j : Int) + 1 - 1).toNat = j by omega]
    exact hx.setPe hk hj false (by rw [← es]; exact h1) (fun h => by cases h)
  · exact hx
theorem told_ok (n m s t : Int) (ht : t = 0 ∨ t = 2) : (x.toldF n m s t).2.Ok := by
  unfold PS.toldF
  split
  · rename_i h
    obtain ⟨k, hk, -, e, es, -, -⟩ := stV_num hx (has_num h.2).1
    rw [e]
    rcases ht with rfl | rfl
    · exact hx.set hk (by omega) (fun h => absurd rfl h)
    · exact hx.set hk (by omega) (fun _ => may2 _)
  · exact hx
theorem leave_ok (n : Int) : (x.leaveF n).2.Ok := by
  unfold PS.leaveF
  split
  · rename_i hn
    obtain ⟨k, hk, -, e, es, -, eo⟩ := stV_num hx hn
    split
    · exact hx
    · split
      · exact hx
      · split
        · rename_i m hm
          rw [e]
          rw [eo] at hm
          refine hx.set (s := 3) hk (by omega) (fun _ => ?_)
          rw [hm]
          rfl
        · exact hx
  · exact hx
theorem leave_le (n : Int) : 0 ≤ (x.leaveF n).1.1 ∧ (x.leaveF n).1.1 ≤ 12 ∧ 0 ≤ (x.leaveF n).1.2 ∧ (x.leaveF n).1.2 ≤ 15 := by
  unfold PS.leaveF
  split
  · rename_i hn
    obtain ⟨k, hk, -, e, es, -, eo⟩ := stV_num hx hn
    split
    · (dsimp only; omega)
    · split
      · (dsimp only; omega)
      · split
        · rename_i m hm
          rw [eo] at hm
          have : m ∈ lst (x.pe k) := by rw [hm]; exact List.mem_singleton.2 rfl
          have := lst_mem.1 this
          dsimp only
          omega
        · (dsimp only; omega)
  · (dsimp only; omega)
end
/-- An op. -/
structure Op4 where
  k : Int
  s : Int
  n : Int
  y : Bool
def Op4.cells (o : Op4) : List Value := [.int .i64 o.k, .int .i64 o.s, .int .i64 o.n, .bool o.y]
def numI (b : Bool) : Int := if b then 1 else 0
/-- What an op tells, and leaves. -/
def PS.doF (x : PS) (o : Op4) : Int × PS :=
  if o.k = 0 then x.foundF o.s else if o.k = 1 then x.joinF o.s o.n else if o.k = 2 then (numI (x.askedF o.s o.n).1, (x.askedF o.s o.n).2)
  else if o.k = 3 then x.toldF o.s o.n 1 (if o.y then 2 else 0) else if o.k = 4 then (100 * (x.leaveF o.s).1.1 + (x.leaveF o.s).1.2, (x.leaveF o.s).2)
  else if o.k = 5 then (numI (x.leavingF o.s o.n).1, (x.leavingF o.s o.n).2) else if o.k = 6 then x.toldF o.s o.n 3 (if o.y then 0 else 2) else (0, x)
theorem do_ok {x : PS} (hx : x.Ok) (o : Op4) : (x.doF o).2.Ok := by
  unfold PS.doF
  split
  · exact found_ok hx _
  · split
    · exact join_ok hx _ _
    · split
      · exact asked_ok hx _ _
      · split
        · exact told_ok hx _ _ _ _ (by cases o.y <;> simp)
        · split
          · exact leave_ok hx _
          · split
            · exact leaving_ok hx _ _
            · split
              · exact told_ok hx _ _ _ _ (by cases o.y <;> simp)
              · exact hx
section
variable (W : World)
theorem num_any (b : Bool) : Calls Try.prog 17 #[.bool b] W fun e W' => e = .returned (.int .i64 (numI b)) ∧ W = W' := by
  cases b
  all_goals
    go_enter Try.func17, Try.ntmps17
    go_wp2_with fail
    go_ret
    exact ⟨rfl, rfl⟩
set_option maxRecDepth 20000 in
set_option maxHeartbeats 4000000 in
theorem do_any {B d : Nat} {x : PS} (h : PP W B d x) (hx : x.Ok) (o : Op4) : Calls Try.prog 9 #[.pointer (some ⟨d, 0, none⟩), .agg o.cells.toArray] W fun e W' => e = .returned (.int .i64 (x.doF o).1) ∧ PP W' B d (x.doF o).2 ∧ Tn B d W W' := by
  obtain ⟨k, s, n, y⟩ := o
  obtain ⟨w1, hw1⟩ : ∃ w1, w1 = W.alloc (.cells #[.int .i64 k, .int .i64 s, .int .i64 n, .bool y] 36) := ⟨_, rfl⟩
  have hb1 : Below W.heap.size W w1 := by rw [hw1]; exact (Below.refl _ _).alloc (Nat.le_refl _) _
  have hx1 : Blk w1 W.heap.size 36 #[.int .i64 k, .int .i64 s, .int .i64 n, .bool y] := by rw [hw1]; exact Blk.new _ _ _
  have c0 : w1.cell? ⟨W.heap.size, 0, none⟩ = some (.int .i64 k) := hx1.cell 0
  have c1 : w1.cell? ⟨W.heap.size, 1, none⟩ = some (.int .i64 s) := hx1.cell 1
  have c2 : w1.cell? ⟨W.heap.size, 2, none⟩ = some (.int .i64 n) := hx1.cell 2
  have c3 : w1.cell? ⟨W.heap.size, 3, none⟩ = some (.bool y) := hx1.cell 3
  have HT1 := Lib.hid (Tn.next h hb1)
  have HP1 := Lib.hid (h.next hb1)
  have HX := Lib.hid hx
  show Calls Try.prog 9 #[.pointer (some ⟨d, 0, none⟩), .agg #[.int .i64 k, .int .i64 s, .int .i64 n, .bool y]] W _
  clear h hx hb1 hx1
  by_cases h0 : k = 0
  · have HE := Lib.hid (show x.doF ⟨k, s, n, y⟩ = x.foundF s by unfold PS.doF; dsimp only; rw [if_pos h0])
    have HC := Lib.hid (found_any w1 HP1.out HX.out.n0 s)
    subst h0
    go_enter Try.func9, Try.ntmps9
    go_upto_region 1 with fail
    rw [← hw1]
    clear hw1
    go_wp2_with (first | (go_at_call 21; refine HC.out.mono ?_; rintro e w2 ⟨rfl, hp, ht⟩; have H1 := Lib.hid hp; have H2 := Lib.hid ht; clear hp ht HC))
    go_ret
    exact ⟨by rw [HE.out]; rfl, by rw [HE.out]; exact H1.out, HT1.out.trans H2.out⟩
  by_cases h1 : k = 1
  · have HE := Lib.hid (show x.doF ⟨k, s, n, y⟩ = x.joinF s n by unfold PS.doF; dsimp only; rw [if_neg h0, if_pos h1])
    have HC := Lib.hid (join_any w1 HP1.out HX.out.n0 s n)
    subst h1
    go_enter Try.func9, Try.ntmps9
    go_upto_region 1 with fail
    rw [← hw1]
    clear hw1
    go_wp2_with (first | (go_at_call 22; refine HC.out.mono ?_; rintro e w2 ⟨rfl, hp, ht⟩; have H1 := Lib.hid hp; have H2 := Lib.hid ht; clear hp ht HC))
    go_ret
    exact ⟨by rw [HE.out]; rfl, by rw [HE.out]; exact H1.out, HT1.out.trans H2.out⟩
  by_cases h2 : k = 2
  · have HE := Lib.hid (show x.doF ⟨k, s, n, y⟩ = (numI (x.askedF s n).1, (x.askedF s n).2) by unfold PS.doF; dsimp only; rw [if_neg h0, if_neg h1, if_pos h2])
    have HC := Lib.hid (asked_any w1 HP1.out HX.out.n0 s n)
    subst h2
    go_enter Try.func9, Try.ntmps9
    go_upto_region 1 with fail
    rw [← hw1]
    clear hw1
    go_wp2_with (first | (go_at_call 25; refine HC.out.mono ?_; rintro e w2 ⟨rfl, hp, ht⟩; have H1 := Lib.hid hp; have H2 := Lib.hid ht; clear hp ht HC) | (go_at_call 17; refine (num_any _ _).mono ?_; rintro e w3 ⟨rfl, rfl⟩))
    go_ret
    exact ⟨by rw [HE.out]; rfl, by rw [HE.out]; exact H1.out, HT1.out.trans H2.out⟩
  by_cases h3 : k = 3
  · have HE := Lib.hid (show x.doF ⟨k, s, n, y⟩ = x.toldF s n 1 (if y then 2 else 0) by unfold PS.doF; dsimp only; rw [if_neg h0, if_neg h1, if_neg h2, if_pos h3])
    have HC := Lib.hid (joined_any w1 HP1.out HX.out.n0 s n y)
    obtain ⟨t, ht⟩ : ∃ t : Int, t = (if y then 2 else 0) := ⟨_, rfl⟩
    rw [← ht] at HC HE
    clear ht
    subst h3
    go_enter Try.func9, Try.ntmps9
    go_upto_region 1 with fail
    rw [← hw1]
    clear hw1
    go_wp2_with (first | (go_at_call 23; refine HC.out.mono ?_; rintro e w2 ⟨rfl, hp, ht⟩; have H1 := Lib.hid hp; have H2 := Lib.hid ht; clear hp ht HC))
    go_ret
    exact ⟨by rw [HE.out]; rfl, by rw [HE.out]; exact H1.out, HT1.out.trans H2.out⟩
  by_cases h4 : k = 4
  · have HE := Lib.hid (show x.doF ⟨k, s, n, y⟩ = (100 * (x.leaveF s).1.1 + (x.leaveF s).1.2, (x.leaveF s).2) by unfold PS.doF; dsimp only; rw [if_neg h0, if_neg h1, if_neg h2, if_neg h3, if_pos h4])
    have HC := Lib.hid (leave_any w1 HP1.out HX.out.n0 s)
    subst h4
    have hl := leave_le HX.out s
    obtain ⟨⟨⟨la, lb⟩, lx⟩, hlf⟩ : ∃ r, r = x.leaveF s := ⟨_, rfl⟩
    rw [← hlf] at hl HC HE
    dsimp only at hl HC HE
    have e1 : wrap64 (100 * la) = 100 * la := by unfold wrap64; omega
    have e2 : wrap64 (100 * la + lb) = 100 * la + lb := by unfold wrap64; omega
    have HE2 := Lib.hid e2
    clear hl hlf e2
    go_enter Try.func9, Try.ntmps9
    go_upto_region 1 with fail
    rw [← hw1]
    clear hw1
    go_wp2_with (first | (go_at_call 18; refine HC.out.mono ?_; rintro e w2 ⟨rfl, hp, ht⟩; have H1 := Lib.hid hp; have H2 := Lib.hid ht; clear hp ht HC))
    go_ret
    exact ⟨by rw [HE.out]; exact congrArg (fun z => Ending.returned (Value.int .i64 z)) HE2.out, by rw [HE.out]; exact H1.out, HT1.out.trans H2.out⟩
  by_cases h5 : k = 5
  · have HE := Lib.hid (show x.doF ⟨k, s, n, y⟩ = (numI (x.leavingF s n).1, (x.leavingF s n).2) by unfold PS.doF; dsimp only; rw [if_neg h0, if_neg h1, if_neg h2, if_neg h3, if_neg h4, if_pos h5])
    have HC := Lib.hid (leaving_any w1 HP1.out HX.out.n0 s n)
    subst h5
    go_enter Try.func9, Try.ntmps9
    go_upto_region 1 with fail
    rw [← hw1]
    clear hw1
    go_wp2_with (first | (go_at_call 26; refine HC.out.mono ?_; rintro e w2 ⟨rfl, hp, ht⟩; have H1 := Lib.hid hp; have H2 := Lib.hid ht; clear hp ht HC) | (go_at_call 17; refine (num_any _ _).mono ?_; rintro e w3 ⟨rfl, rfl⟩))
    go_ret
    exact ⟨by rw [HE.out]; rfl, by rw [HE.out]; exact H1.out, HT1.out.trans H2.out⟩
  by_cases h6 : k = 6
  · have HE := Lib.hid (show x.doF ⟨k, s, n, y⟩ = x.toldF s n 3 (if y then 0 else 2) by unfold PS.doF; dsimp only; rw [if_neg h0, if_neg h1, if_neg h2, if_neg h3, if_neg h4, if_neg h5, if_pos h6])
    have HC := Lib.hid (left_any w1 HP1.out HX.out.n0 s n y)
    obtain ⟨t, ht⟩ : ∃ t : Int, t = (if y then 0 else 2) := ⟨_, rfl⟩
    rw [← ht] at HC HE
    clear ht
    subst h6
    go_enter Try.func9, Try.ntmps9
    go_upto_region 1 with fail
    rw [← hw1]
    clear hw1
    go_wp2_with (first | (go_at_call 24; refine HC.out.mono ?_; rintro e w2 ⟨rfl, hp, ht⟩; have H1 := Lib.hid hp; have H2 := Lib.hid ht; clear hp ht HC))
    go_ret
    exact ⟨by rw [HE.out]; rfl, by rw [HE.out]; exact H1.out, HT1.out.trans H2.out⟩
  have HE := Lib.hid (show x.doF ⟨k, s, n, y⟩ = (0, x) by unfold PS.doF; dsimp only; rw [if_neg h0, if_neg h1, if_neg h2, if_neg h3, if_neg h4, if_neg h5, if_neg h6])
  have g0 : (k == 0) = false := by simpa using h0
  have g1 : (k == 1) = false := by simpa using h1
  have g2 : (k == 2) = false := by simpa using h2
  have g3 : (k == 3) = false := by simpa using h3
  have g4 : (k == 4) = false := by simpa using h4
  have g5 : (k == 5) = false := by simpa using h5
  have g6 : (k == 6) = false := by simpa using h6
  clear h0 h1 h2 h3 h4 h5 h6
  go_enter Try.func9, Try.ntmps9
  go_upto_region 1 with fail
  rw [← hw1]
  clear hw1
  go_wp2_with fail
  go_ret
  exact ⟨by rw [HE.out]; rfl, by rw [HE.out]; exact HP1.out, HT1.out⟩
end
end Pe
end Go.Proofs.Ytlceljcplmcjgaa
