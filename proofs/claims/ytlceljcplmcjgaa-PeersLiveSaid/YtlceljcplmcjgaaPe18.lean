/-
peers: the document's peers: what they are; State, other, Of.
-/
import Derived.Test.YtlceljcplmcjgaaPe11
namespace Go.Proofs.Ytlceljcplmcjgaa
open Go.RowKit
set_option linter.unusedSimpArgs false
set_option linter.unusedVariables false
namespace Pe
/-- The document's cells. -/
def rv (x : PS) (i : Nat) : Value :=
  if i = 0 then .int .i64 x.n else if i < 14 then .int .i64 (if i = 1 then 0 else x.st (i - 2))
  else .bool (decide (1 ≤ (i - 14) / 13) && (decide (1 ≤ (i - 14) % 13) && x.pe ((i - 14) / 13 - 1) ((i - 14) % 13 - 1)))
def PS.rcells (x : PS) : List Value := (List.range 183).map (rv x)
theorem rs_len (x : PS) : x.rcells.length = 183 := by simp [PS.rcells]
theorem rs_at (x : PS) {i : Nat} (h : i < 183) : x.rcells[i]? = some (rv x i) := by
  unfold PS.rcells
  rw [List.getElem?_map, List.getElem?_range h]; rfl
theorem rs_out (x : PS) {i : Nat} (h : ¬ i < 183) : x.rcells[i]? = none := List.getElem?_eq_none (by rw [rs_len]; omega)
theorem rs_one (x : PS) : ∀ v ∈ x.rcells, v.oneCell' = true := by
  intro v hv
  unfold PS.rcells at hv
  obtain ⟨i, _, rfl⟩ := List.mem_map.1 hv
  unfold rv
  split
  · rfl
  · split <;> rfl
theorem rv_st (x : PS) {q : Nat} (h1 : 1 ≤ q) (h2 : q ≤ 12) : rv x (1 + q) = .int .i64 (x.st (q - 1)) := by
  unfold rv
  rw [if_neg (by omega), if_pos (by omega), if_neg (by omega), show 1 + q - 2 = q - 1 by omega]
theorem rv_pe (x : PS) {q m : Nat} (h1 : 1 ≤ q) (h2 : q ≤ 12) (h3 : 1 ≤ m) (h4 : m ≤ 12) : rv x (14 + q * 13 + m) = .bool (x.pe (q - 1) (m - 1)) := by
  unfold rv
  rw [if_neg (by omega), if_neg (by omega), show (14 + q * 13 + m - 14) / 13 = q by omega, show (14 + q * 13 + m - 14) % 13 = m by omega, decide_eq_true h1, decide_eq_true h3]
  rfl
theorem rs_set (x y : PS) {i : Nat} (hi : i < 183) (v : Value) (h1 : rv y i = v) (h2 : ∀ j, j < 183 → j ≠ i → rv y j = rv x j) : x.rcells.set i v = y.rcells := by
  apply List.ext_getElem?
  intro j
  rw [List.getElem?_set, rs_len]
  by_cases hj : j < 183
  · rw [rs_at _ hj, rs_at _ hj]
    by_cases h : i = j
    · subst h; rw [if_pos rfl, if_pos hi, h1]
    · rw [if_neg h, h2 j hj (Ne.symm h)]
  · rw [rs_out _ hj, rs_out _ hj]
    by_cases h : i = j
    · omega
    · rw [if_neg h]
theorem rs_setSt (x : PS) {q : Nat} (h1 : 1 ≤ q) (h2 : q ≤ 12) (s : Int) : x.rcells.set (1 + q) (.int .i64 s) = (x.setSt (q - 1) s).rcells := by
  refine rs_set x _ (by omega) _ ?_ fun j hj hne => ?_
  · rw [rv_st _ h1 h2]; unfold PS.setSt; dsimp only; rw [if_pos rfl]
  · unfold rv PS.setSt
    dsimp only
    by_cases h0 : j = 0
    · rw [if_pos h0, if_pos h0]
    · rw [if_neg h0, if_neg h0]
      by_cases h14 : j < 14
      · rw [if_pos h14, if_pos h14]
        by_cases hj1 : j = 1
        · rw [if_pos hj1, if_pos hj1]
        · rw [if_neg hj1, if_neg hj1, if_neg (by omega)]
      · rw [if_neg h14, if_neg h14]
theorem rs_setPe (x : PS) {q m : Nat} (h1 : 1 ≤ q) (h2 : q ≤ 12) (h3 : 1 ≤ m) (h4 : m ≤ 12) (b : Bool) : x.rcells.set (14 + q * 13 + m) (.bool b) = (x.setPe (q - 1) (m - 1) b).rcells := by
  refine rs_set x _ (by omega) _ ?_ fun j hj hne => ?_
  · rw [rv_pe _ h1 h2 h3 h4]; unfold PS.setPe; dsimp only; rw [if_pos ⟨rfl, rfl⟩]
  · unfold rv PS.setPe
    dsimp only
    by_cases h0 : j = 0
    · rw [if_pos h0, if_pos h0]
    · rw [if_neg h0, if_neg h0]
      by_cases h14 : j < 14
      · rw [if_pos h14, if_pos h14]
      · rw [if_neg h14, if_neg h14]
        by_cases ha : 1 ≤ (j - 14) / 13
        · by_cases hb : 1 ≤ (j - 14) % 13
          · rw [if_neg (by omega)]
          · rw [decide_eq_false hb, Bool.false_and, Bool.false_and]
        · rw [decide_eq_false ha, Bool.false_and, Bool.false_and]
def PS.clearPe (x : PS) (k : Nat) : PS := { x with pe := fun i l => if i = k then false else x.pe i l }
theorem clearPe_set (x : PS) (k : Nat) : (x.setSt k 0).clearPe k = x.clear k := rfl
def z13 : List Value := [.bool false, .bool false, .bool false, .bool false, .bool false, .bool false, .bool false, .bool false, .bool false, .bool false, .bool false, .bool false, .bool false]
theorem z13_at {j : Nat} (h : j < 13) : z13[j]? = some (.bool false) := by
  have : ∀ j, j < 13 → z13[j]? = some (.bool false) := by
    intro j hj
    have hj2 : j = 0 ∨ j = 1 ∨ j = 2 ∨ j = 3 ∨ j = 4 ∨ j = 5 ∨ j = 6 ∨ j = 7 ∨ j = 8 ∨ j = 9 ∨ j = 10 ∨ j = 11 ∨ j = 12 := by omega
    rcases hj2 with rfl | rfl | rfl | rfl | rfl | rfl | rfl | rfl | rfl | rfl | rfl | rfl | rfl <;> rfl
  exact this j h
theorem z13_len : z13.length = 13 := rfl
theorem rs_clear (x : PS) {q : Nat} (h1 : 1 ≤ q) (h2 : q ≤ 12) : x.rcells.take (14 + q * 13) ++ z13 ++ x.rcells.drop (14 + q * 13 + 13) = (x.clearPe (q - 1)).rcells := by
  apply List.ext_getElem?
  intro i
  rw [List.append_assoc]
  have hoff : ∀ j, j < 183 → ¬ (14 + q * 13 ≤ j ∧ j < 14 + q * 13 + 13) → rv (x.clearPe (q - 1)) j = rv x j := fun j hj hn => by
    unfold rv PS.clearPe
    dsimp only
    by_cases h0 : j = 0
    · rw [if_pos h0, if_pos h0]
    · rw [if_neg h0, if_neg h0]
      by_cases h14 : j < 14
      · rw [if_pos h14, if_pos h14]
      · rw [if_neg h14, if_neg h14]
        by_cases ha : 1 ≤ (j - 14) / 13
        · rw [if_neg (by omega)]
        · rw [decide_eq_false ha, Bool.false_and, Bool.false_and]
  by_cases ha : i < 14 + q * 13
  · rw [List.getElem?_append_left (by rw [List.length_take, rs_len]; omega), List.getElem?_take_of_lt ha, rs_at _ (by omega), rs_at _ (by omega), hoff i (by omega) (by omega)]
  · rw [List.getElem?_append_right (by rw [List.length_take, rs_len]; omega), List.length_take, rs_len, show min (14 + q * 13) 183 = 14 + q * 13 by omega]
    by_cases hb : i < 14 + q * 13 + 13
    · rw [List.getElem?_append_left (by rw [z13_len]; omega), z13_at (by omega), rs_at _ (by omega)]
      unfold rv PS.clearPe
      dsimp only
      rw [if_neg (by omega), if_neg (by omega), if_pos (by omega), Bool.and_false, Bool.and_false]
    · rw [List.getElem?_append_right (by rw [z13_len]; omega), z13_len, List.getElem?_drop, show 14 + q * 13 + 13 + (i - (14 + q * 13) - 13) = i by omega]
      by_cases hi : i < 183
      · rw [rs_at _ hi, rs_at _ hi, hoff i hi (by omega)]
      · rw [rs_out _ hi, rs_out _ hi]
theorem rs_split (x : PS) {q : Nat} (h2 : q ≤ 12) : x.rcells = x.rcells.take (14 + q * 13) ++ (x.rcells.drop (14 + q * 13)).take 13 ++ x.rcells.drop (14 + q * 13 + 13) := by
  rw [List.append_assoc, show x.rcells.drop (14 + q * 13 + 13) = (x.rcells.drop (14 + q * 13)).drop 13 by rw [List.drop_drop], List.take_append_drop, List.take_append_drop]
theorem rbuilt (n : Int) : Try.prog.built 33 [(0, .int .i64 n)] = some (PS.new n).rcells.toArray := by
  unfold PS.rcells
  kernel_rfl
attribute [irreducible] PS.rcells
/-- Block d is the document's peers, laid at B or behind it. -/
def RP (W : World) (B d : Nat) (x : PS) : Prop := Blk W d 33 x.rcells.toArray ∧ B ≤ d
section
variable {W W' : World} {B d : Nat} {x : PS}
theorem RP.lt (h : RP W B d x) : d < W.heap.size := h.1.lt
theorem RP.next (h : RP W B d x) (hb : Below W.heap.size W W') : RP W' B d x := ⟨h.1.next hb, h.2⟩
theorem RP.keep (h : RP W B d x) (hk : W'.heap[d]? = W.heap[d]?) : RP W' B d x := ⟨hk.trans h.1, h.2⟩
theorem RP.cell (h : RP W B d x) (i : Nat) : W.cell? ⟨d, i, none⟩ = x.rcells[i]? := by rw [h.1.cell, List.getElem?_toArray]
theorem RP.c0 (h : RP W B d x) : W.cell? ⟨d, 0, none⟩ = some (.int .i64 x.n) := (h.cell 0).trans (rs_at x (by omega))
theorem RP.cs (h : RP W B d x) {q : Nat} (h1 : 1 ≤ q) (h2 : q ≤ 12) : W.cell? ⟨d, 1 + q, none⟩ = some (.int .i64 (x.st (q - 1))) := (h.cell _).trans ((rs_at x (by omega)).trans (congrArg some (rv_st x h1 h2)))
theorem RP.cp (h : RP W B d x) {q m : Nat} (h1 : 1 ≤ q) (h2 : q ≤ 12) (h3 : 1 ≤ m) (h4 : m ≤ 12) : W.cell? ⟨d, 14 + q * 13 + m, none⟩ = some (.bool (x.pe (q - 1) (m - 1))) := (h.cell _).trans ((rs_at x (by omega)).trans (congrArg some (rv_pe x h1 h2 h3 h4)))
theorem RP.setSt (h : RP W B d x) {q : Nat} (h1 : 1 ≤ q) (h2 : q ≤ 12) (s : Int) : RP (W.setCell ⟨d, 1 + q, none⟩ (.int .i64 s)) B d (x.setSt (q - 1) s) := by
  have h0 := h.1.setCell (1 + q) (.int .i64 s)
  rw [List.setIfInBounds_toArray, rs_setSt x h1 h2] at h0
  exact ⟨h0, h.2⟩
theorem RP.setPe (h : RP W B d x) {q m : Nat} (h1 : 1 ≤ q) (h2 : q ≤ 12) (h3 : 1 ≤ m) (h4 : m ≤ 12) (b : Bool) : RP (W.setCell ⟨d, 14 + q * 13 + m, none⟩ (.bool b)) B d (x.setPe (q - 1) (m - 1) b) := by
  have h0 := h.1.setCell (14 + q * 13 + m) (.bool b)
  rw [List.setIfInBounds_toArray, rs_setPe x h1 h2 h3 h4] at h0
  exact ⟨h0, h.2⟩
theorem RP.clear (h : RP W B d x) {q : Nat} (h1 : 1 ≤ q) (h2 : q ≤ 12) : RP (W.setCells d (14 + q * 13) z13) B d (x.clearPe (q - 1)) := by
  have h0 := h.1
  rw [rs_split x h2] at h0
  have h3 := Blk.setMid z13 (x.rcells.take (14 + q * 13)) ((x.rcells.drop (14 + q * 13)).take 13) (x.rcells.drop (14 + q * 13 + 13)) W h0 (by rw [z13_len, List.length_take, List.length_drop, rs_len]; omega)
  rw [rs_clear x h1 h2, List.length_take, rs_len, show min (14 + q * 13) 183 = 14 + q * 13 by omega] at h3
  exact ⟨h3, h.2⟩
theorem Tn.rp {g B2 : Nat} (h : Tn B d W W') (hg : RP W B2 g x) (hd : g ≠ d) : RP W' B2 g x := ⟨h.blk hg.1 hd, hg.2⟩
theorem Tn.nextR (hp : RP W B d x) (h : Below W.heap.size W W') : Tn B d W W' := .ofBelow (by have := hp.lt; have := hp.2; omega) h
end
/-- A number that is a node's or a seller's. -/
theorem num_q {n : Int} (h : numB n = true) : ∃ q : Nat, 1 ≤ q ∧ q ≤ 12 ∧ n = ((q : Nat) : Int) ∧ (n - 1).toNat = q - 1 := by
  have := num_in.1 h
  exact ⟨n.toNat, by omega, by omega, by omega, by omega⟩
theorem num_not {n : Int} (h : numB n = false) : n < 1 ∨ (¬ n < 1 ∧ 12 < n) := by
  by_cases h1 : n < 1
  · exact .inl h1
  · refine .inr ⟨h1, ?_⟩
    by_cases h2 : 12 < n
    · exact h2
    · rw [num_in.2 (by omega)] at h; cases h
theorem stV_q {x : PS} (h : x.n ≠ 0) {q : Nat} (h1 : 1 ≤ q) (h2 : q ≤ 12) : x.stV ((q : Nat) : Int) = x.st (q - 1) := by
  unfold PS.stV
  rw [if_pos ⟨h, num_in.2 (by omega)⟩, show (((q : Nat) : Int) - 1).toNat = q - 1 by omega]
theorem peV_q {x : PS} (h : x.n ≠ 0) {q : Nat} (h1 : 1 ≤ q) (h2 : q ≤ 12) : x.peV ((q : Nat) : Int) = x.pe (q - 1) := by
  unfold PS.peV
  rw [if_pos ⟨h, num_in.2 (by omega)⟩, show (((q : Nat) : Int) - 1).toNat = q - 1 by omega]
theorem hasV_q {x : PS} (h : x.n ≠ 0) {q m : Nat} (h1 : 1 ≤ q) (h2 : q ≤ 12) (h3 : 1 ≤ m) (h4 : m ≤ 12) : x.hasV ((q : Nat) : Int) ((m : Nat) : Int) = x.pe (q - 1) (m - 1) := by
  unfold PS.hasV
  rw [peV_q h h1 h2, num_in.2 (by omega), Bool.true_and, show (((m : Nat) : Int) - 1).toNat = m - 1 by omega]
theorem stV_no {x : PS} {n : Int} (h : numB n = false) : x.stV n = 0 := by unfold PS.stV; rw [h, if_neg (fun h => absurd h.2 (by decide))]
theorem peV_no {x : PS} {n : Int} (h : numB n = false) : x.peV n = fun _ => false := by unfold PS.peV; rw [h, if_neg (fun h => absurd h.2 (by decide))]
section
variable (W : World) {B d : Nat} {x : PS}
theorem rstate_any (h : RP W B d x) (hx : x.n ≠ 0) (n : Int) : Calls Try.prog 14 #[.pointer (some ⟨d, 0, none⟩), .int .i64 n] W fun e W' => e = .returned (.int .i64 (x.stV n)) ∧ W = W' := by
  cases hn : numB n with
  | true =>
    obtain ⟨q, h1, h2, rfl, -⟩ := num_q hn
    have HV := Lib.hid (stV_q hx h1 h2)
    have c1 := h.cs h1 h2
    have i1 : ¬ ((q : Nat) : Int) < 1 := by omega
    have i2 : ¬ 12 < ((q : Nat) : Int) := by omega
    have i3 : ((q : Nat) : Int) < 13 := by omega
    have i4 : ¬ ((q : Nat) : Int) < 0 := by omega
    clear h hx hn h1 h2
    go_enter Try.func14, Try.ntmps14
    go_wp2_with fail
    go_ret
    exact ⟨by rw [HV.out]; rfl, rfl⟩
  | false =>
    have HV := Lib.hid (stV_no (x := x) hn)
    rcases num_not hn with i1 | ⟨i1, i2⟩
    all_goals
      clear h hx hn
      go_enter Try.func14, Try.ntmps14
      go_wp2_with fail
      go_ret
      exact ⟨by rw [HV.out]; rfl, rfl⟩
theorem rother_any (h : RP W B d x) (m : Int) : Calls Try.prog 51 #[.pointer (some ⟨d, 0, none⟩), .int .i64 m] W fun e W' => e = .returned (.bool (x.otherV m)) ∧ W = W' := by
  have c0 := h.c0
  obtain ⟨n, hn⟩ : ∃ n, n = x.n := ⟨_, rfl⟩
  unfold PS.otherV
  rw [← hn] at c0 ⊢
  clear hn h
  cases hm : numB m with
  | true =>
    have hq := num_in.1 hm
    have i1 : 0 < m := by omega
    have i2 : m < 13 := by omega
    have HD := Lib.hid (show (m != n) = decide (m ≠ n) by by_cases h : m = n <;> simp [h])
    clear hm hq
    go_enter Try.func51, Try.ntmps51
    go_wp2_with fail
    go_ret
    exact ⟨by rw [← HD.out]; rfl, rfl⟩
  | false =>
    have hor : ¬ 0 < m ∨ (0 < m ∧ ¬ m < 13) := by rcases num_not hm with h1 | ⟨h1, h2⟩ <;> omega
    clear hm
    rcases hor with i1 | ⟨i1, i2⟩
    all_goals
      go_enter Try.func51, Try.ntmps51
      go_wp2_with fail
      go_ret
      exact ⟨rfl, rfl⟩
set_option maxRecDepth 20000 in
set_option maxHeartbeats 4000000 in
theorem rof_any (h : RP W B d x) (hx : x.n ≠ 0) (n : Int) : Calls Try.prog 12 #[.pointer (some ⟨d, 0, none⟩), .int .i64 n] W fun e W' => ∃ v, e = .returned v ∧ Nd.Nds W' W.heap.size v (x.ofL n) ∧ Below W.heap.size W W' := by
  have HR := Lib.hid h
  obtain ⟨p, hp⟩ : ∃ p, p = fun m => x.peV n (m - 1) := ⟨_, rfl⟩
  unfold PS.ofL
  rw [← hp]
  have HPP := Lib.hid hp
  have HX := Lib.hid hx
  clear h hp hx
  go_enter Try.func12, Try.ntmps12
  go_upto_region 3 with fail
  go_loopw [5, 6] (fun v i wr => ∃ j : Nat, j ≤ 12 ∧ i = .int .i64 ((j + 1 : Nat) : Int) ∧ Nd.Nds wr W.heap.size v (Nd.thoseN p j) ∧ Below W.heap.size W wr) (fun _ i _ => 13 - (intOf i).toNat)
  case atStart => exact ⟨0, Nat.zero_le _, rfl, Nd.Nds.nil _ _, Below.refl _ _⟩
  case round =>
    obtain ⟨j, hj, rfl, hN, hb⟩ := hrel
    have HN := Lib.hid hN
    have HB := Lib.hid hb
    obtain ⟨jj, hjj⟩ : ∃ jj, jj = j + 1 := ⟨_, rfl⟩
    rw [← hjj]
    by_cases hlt : j < 12
    · have i1 : ((jj : Nat) : Int) < 13 := by omega
      have HW := Lib.hid (Nd.wrap_n jj (jj + 1) rfl (by omega))
      have HJ := Lib.hid (And.intro hjj hlt)
      have HS := Lib.hid (Nd.those_succ p j)
      rw [← hjj] at HS
      have i4 : ¬ ((jj : Nat) : Int) < 0 := by omega
      have HRW := HR.out.next hb
      cases hn : numB n with
      | true =>
        obtain ⟨q, h1, h2, rfl, -⟩ := num_q hn
        have c1 := HRW.cp h1 h2 (show 1 ≤ jj by omega) (show jj ≤ 12 by omega)
        have hpj : p jj = x.pe (q - 1) (jj - 1) := by rw [HPP.out, peV_q HX.out h1 h2]
        have i5 : 0 < ((q : Nat) : Int) := by omega
        have i6 : ((q : Nat) : Int) < 13 := by omega
        have i7 : ¬ ((q : Nat) : Int) < 0 := by omega
        rw [← hpj] at c1
        clear hN hb hj hlt hjj hn h1 h2 HRW hpj
        go_upto_region 5 with fail
        cases hpj : p jj with
        | false =>
          rw [hpj] at c1
          have HP := Lib.hid hpj
          clear hpj
          go_upto_region 4 with fail
          clear i1 i4 i5 i6 i7 c1
          go_wp2_with fail
          (try rw [HW.out])
          go_roundw
          case rel => exact ⟨jj, by have := HJ.out; omega, rfl, by rw [HS.out, HP.out, if_neg (by decide)]; exact HN.out, HB.out⟩
          case measure => have := HJ.out; simp [intOf]; omega
        | true =>
          rw [hpj] at c1
          have HP := Lib.hid hpj
          clear hpj
          obtain ⟨A, c, hv⟩ := HN.out.shape
          subst hv
          go_upto_region 6 with fail
          clear i1 i4 i5 i6 i7 c1
          go_upto_region 4 with (refine wpList_plain rfl fun K hK => ?_; refine Nd.wp_app_int _ _ _ rfl W.heap.size _ (Nd.thoseN p j) rfl (HN.out.next ((Below.refl _ _).alloc (Nat.le_refl _) _)) wr.heap.size 1 jj rfl ?_ (by have := Nd.those_le p j; have := HJ.out; omega) (by have := HB.out.size; simp; omega) ?_; (focus (exact (Blk.new wr 3 #[.int .i64 (jj : Nat)]).cell 0)); intro v' w' hN' hg' _; refine hK _ _ ?_; clear hK K; have HN3 := Lib.hid hN'; have HG := Lib.hid hg'; clear hN' hg'; (try simp only [Act.put, List.setIfInBounds_toArray, List.set_cons_zero, List.set_cons_succ]))
          go_wp2_with fail
          (try rw [HW.out])
          go_roundw
          case rel => exact ⟨jj, by have := HJ.out; omega, rfl, by rw [HS.out, HP.out, if_pos rfl]; exact HN3.out, Nd.below_grown (HB.out.alloc HB.out.size _) HG.out (fun k hk => (HN.out.lt k hk).1)⟩
          case measure => have := HJ.out; simp [intOf]; omega
      | false =>
        have HP := Lib.hid (show p jj = false by rw [HPP.out, peV_no hn])
        have hor : ¬ 0 < n ∨ (0 < n ∧ ¬ n < 13) := by rcases num_not hn with h1 | ⟨h1, h2⟩ <;> omega
        clear hN hb hj hlt hjj hn HRW
        rcases hor with i5 | ⟨i5, i6⟩
        all_goals
          go_upto_region 4 with fail
          clear i1 i4 i5
          (try clear i6)
          go_wp2_with fail
          (try rw [HW.out])
          go_roundw
          case rel => exact ⟨jj, by have := HJ.out; omega, rfl, by rw [HS.out, HP.out, if_neg (by decide)]; exact HN.out, HB.out⟩
          case measure => have := HJ.out; simp [intOf]; omega
    · have i1 : ¬ ((jj : Nat) : Int) < 13 := by omega
      have hj12 : j = 12 := by omega
      subst hj12
      clear hN hb hj hlt hjj
      go_wp2_with fail
      go_ret
      exact ⟨_, rfl, HN.out, HB.out⟩
end
end Pe
end Go.Proofs.Ytlceljcplmcjgaa
