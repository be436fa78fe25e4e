/-
peers: New, told, Found, Join, Asked, Joined, Leaving, Left.
-/
import Derived.Test.YtlceljcplmcjgaaPe3
namespace Go.Proofs.Ytlceljcplmcjgaa
open Go.RowKit
set_option linter.unusedSimpArgs false
set_option linter.unusedVariables false
namespace Pe
def PS.new (n : Int) : PS := ⟨n, fun _ => 0, fun _ _ => false⟩
def PS.foundF (x : PS) (n : Int) : Int × PS := if numB n = true then (if x.stV n = 0 then (0, x.set (n - 1).toNat 2) else (10, x)) else (12, x)
def PS.joinF (x : PS) (n m : Int) : Int × PS := if numB n = true then (if x.otherV m = true then (if x.stV n = 0 then (0, (x.set (n - 1).toNat 1).setPe (n - 1).toNat (m - 1).toNat true) else (10, x)) else (11, x)) else (12, x)
def PS.askedF (x : PS) (n m : Int) : Bool × PS := if x.stV n = 2 ∧ x.otherV m = true ∧ x.hasV n m = false then (true, x.setPe (n - 1).toNat (m - 1).toNat true) else (false, x)
def PS.leavingF (x : PS) (n m : Int) : Bool × PS := if x.stV n = 2 ∧ x.hasV n m = true then (true, x.setPe (n - 1).toNat (m - 1).toNat false) else (false, x)
def PS.toldF (x : PS) (n m s t : Int) : Int × PS := if x.stV n = s ∧ x.hasV n m = true then (0, x.set (n - 1).toNat t) else (7, x)
theorem has_num {x : PS} {n m : Int} (h : x.hasV n m = true) : numB n = true ∧ numB m = true := by
  unfold PS.hasV PS.peV at h
  simp only [Bool.and_eq_true] at h
  refine ⟨?_, h.1⟩
  have h2 := h.2
  split at h2
  · rename_i h3; exact h3.2
  · cases h2
theorem st_num {x : PS} {n : Int} (h : x.stV n ≠ 0) : numB n = true := by
  unfold PS.stV at h
  split at h
  · rename_i h3; exact h3.2
  · exact absurd rfl h
theorem other_num {x : PS} {m : Int} (h : x.otherV m = true) : numB m = true := by
  unfold PS.otherV at h
  simp only [Bool.and_eq_true] at h
  exact h.1
theorem ps_new (n : Int) : (PS.new n).cells.toArray = #[.int .i64 n] ++ (sls (fun _ => 0) (fun _ _ => false) 12).toArray := by unfold PS.new PS.cells; simp
theorem sl_zeroL : sl 0 (fun _ => false) = [.int .i64 0, .bool false, .bool false, .bool false, .bool false, .bool false, .bool false, .bool false, .bool false, .bool false, .bool false, .bool false, .bool false] := by
  have := sl_zero
  exact congrArg Array.toList this
theorem built_psv (n : Int) : Try.prog.built 50 [(0, .int .i64 n)] = some ([.int .i64 n, .int .i64 0, .bool false, .bool false, .bool false, .bool false, .bool false, .bool false, .bool false, .bool false, .bool false, .bool false, .bool false, .bool false, .int .i64 0, .bool false, .bool false, .bool false, .bool false, .bool false, .bool false, .bool false, .bool false, .bool false, .bool false, .bool false, .bool false, .int .i64 0, .bool false, .bool false, .bool false, .bool false, .bool false, .bool false, .bool false, .bool false, .bool false, .bool false, .bool false, .bool false, .int .i64 0, .bool false, .bool false, .bool false, .bool false, .bool false, .bool false, .bool false, .bool false, .bool false, .bool false, .bool false, .bool false, .int .i64 0, .bool false, .bool false, .bool false, .bool false, .bool false, .bool false, .bool false, .bool false, .bool false, .bool false, .bool false, .bool false, .int .i64 0, .bool false, .bool false, .bool false, .bool false, .bool false, .bool false, .bool false, .bool false, .bool false, .bool false, .bool false, .bool false, .int .i64 0, .bool false, .bool false, .bool false, .bool false, .bool false, .bool false, .bool false, .bool false, .bool false, .bool false, .bool false, .bool false, .int .i64 0, .bool false, .bool false, .bool false, .bool false, .bool false, .bool false, .bool false, .bool false, .bool false, .bool false, .bool false, .bool false, .int .i64 0, .bool false, .bool false, .bool false, .bool false, .bool false, .bool false, .bool false, .bool false, .bool false, .bool false, .bool false, .bool false, .int .i64 0, .bool false, .bool false, .bool false, .bool false, .bool false, .bool false, .bool false, .bool false, .bool false, .bool false, .bool false, .bool false, .int .i64 0, .bool false, .bool false, .bool false, .bool false, .bool false, .bool false, .bool false, .bool false, .bool false, .bool false, .bool false, .bool false, .int .i64 0, .bool false, .bool false, .bool false, .bool false, .bool false, .bool false, .bool false, .bool false, .bool false, .bool false, .bool false, .bool false] : List Value).toArray := by kernel_rfl
theorem built_ps (n : Int) : Try.prog.built 50 [(0, .int .i64 n)] = some (PS.new n).cells.toArray := by
  rw [built_psv]
  unfold PS.new PS.cells sls
  simp only [List.range, List.range.loop, List.flatMap_cons, List.flatMap_nil, sl_zeroL, List.append_nil, List.cons_append, List.nil_append]
section
variable (W : World) {B d : Nat} {x : PS}
set_option maxRecDepth 20000 in
theorem new_not (n : Int) (hn : numB n = false) : Calls Try.prog 7 #[.int .i64 n] W fun e W' => e = .returned (.tuple #[.pointer none, .int .i64 11]) ∧ W = W' := by
  have HN := Lib.hid (isnode_any W n)
  rw [hn] at HN
  clear hn
  go_enter Try.func7, Try.ntmps7
  go_wp2_with (go_at_call 28; refine HN.out.mono ?_; rintro e w2 ⟨rfl, rfl⟩)
  go_ret2
  exact ⟨rfl, rfl⟩
set_option maxRecDepth 20000 in
theorem new_yes (n : Int) (hn : numB n = true) : Calls Try.prog 7 #[.int .i64 n] W fun e W' => e = .returned (.tuple #[.pointer (some ⟨W.heap.size, 0, none⟩), .int .i64 0]) ∧ PP W' W.heap.size W.heap.size (PS.new n) ∧ Below W.heap.size W W' ∧ W'.heap.size = W.heap.size + 1 := by
  have HN := Lib.hid (isnode_any W n)
  rw [hn] at HN
  have HB := Lib.hid (built_ps n)
  clear hn
  go_enter Try.func7, Try.ntmps7
  go_wp2_with (first | (go_at_call 28; refine HN.out.mono ?_; rintro e w2 ⟨rfl, rfl⟩) | (refine Nd.wpList_build_lit (PS.new n).cells.toArray rfl 50 _ rfl HB.out ?_))
  go_ret2
  exact ⟨rfl, ⟨Blk.new _ _ _, Nat.le_refl _⟩, (Below.refl _ _).alloc (Nat.le_refl _) _, by simp⟩
set_option maxRecDepth 20000 in
theorem told_any (h : PP W B d x) (hx : x.n ≠ 0) (n m s t : Int) : Calls Try.prog 46 #[.pointer (some ⟨d, 0, none⟩), .int .i64 n, .int .i64 m, .int .i64 s, .int .i64 t] W fun e W' => e = .returned (.int .i64 (x.toldF n m s t).1) ∧ PP W' B d (x.toldF n m s t).2 ∧ Tn B d W W' := by
  have HM := Lib.hid (made_any W h)
  rw [decide_eq_true hx] at HM
  have HS := Lib.hid (state_any W h n)
  have HP := Lib.hid h
  obtain ⟨s0, hs0⟩ : ∃ s0, s0 = x.stV n := ⟨_, rfl⟩
  rw [← hs0] at HS
  by_cases hs : s0 = s
  · subst hs
    cases hh : x.hasV n m with
    | true =>
      obtain ⟨k, hk, rfl⟩ := num_of (has_num hh).1
      have HF := Lib.hid (show x.toldF ((k : Int) + 1) m s0 t = (0, x.set k t) by unfold PS.toldF; rw [if_pos ⟨hs0.symm, hh⟩, show ((k : Int) + 1 - 1).toNat = k by omega])
      have HK := Lib.hid (And.intro hk hh)
      clear h hx hs0 hh hk
      go_enter Try.func46, Try.ntmps46
      go_wp2_with (first | (go_at_call 41; refine HM.out.mono ?_; rintro e w2 ⟨rfl, rfl⟩; clear HM) | (go_at_call 13; refine HS.out.mono ?_; rintro e w2 ⟨rfl, hb⟩; have HP2 := Lib.hid (HP.out.next hb); have HB2 := Lib.hid hb; have HH := Lib.hid (has_any w2 HP2.out ((k : Int) + 1) m); rw [HK.out.2] at HH; clear hb HS) | (go_at_call 47; refine HH.out.mono ?_; rintro e w3 ⟨rfl, hb⟩; have HP3 := Lib.hid (HP2.out.next hb); have HB3 := Lib.hid (HB2.out.trans (hb.mono HB2.out.size)); clear hb HH) | (go_at_call 43; refine (set_any w3 HP3.out HK.out.1 t).mono ?_; rintro e w4 ⟨rfl, hp, ht, -⟩; have HP4 := Lib.hid hp; have HT := Lib.hid ((Tn.next HP.out HB3.out).trans ht); clear hp ht))
      go_ret
      exact ⟨by rw [HF.out]; rfl, by rw [HF.out]; exact HP4.out, HT.out⟩
    | false =>
      have HF := Lib.hid (show x.toldF n m s0 t = (7, x) by unfold PS.toldF; rw [if_neg (by rw [hh]; simp)])
      have HK := Lib.hid hh
      clear h hx hs0 hh
      go_enter Try.func46, Try.ntmps46
      go_wp2_with (first | (go_at_call 41; refine HM.out.mono ?_; rintro e w2 ⟨rfl, rfl⟩; clear HM) | (go_at_call 13; refine HS.out.mono ?_; rintro e w2 ⟨rfl, hb⟩; have HP2 := Lib.hid (HP.out.next hb); have HB2 := Lib.hid hb; have HH := Lib.hid (has_any w2 HP2.out n m); rw [HK.out] at HH; clear hb HS) | (go_at_call 47; refine HH.out.mono ?_; rintro e w3 ⟨rfl, hb⟩; have HP3 := Lib.hid (HP2.out.next hb); have HB3 := Lib.hid (HB2.out.trans (hb.mono HB2.out.size)); clear hb HH))
      go_ret
      exact ⟨by rw [HF.out]; rfl, by rw [HF.out]; exact HP3.out, Tn.next HP.out HB3.out⟩
  · have HF := Lib.hid (show x.toldF n m s t = (7, x) by unfold PS.toldF; rw [if_neg (by rw [← hs0]; exact fun h => hs h.1)])
    have i1 : (s0 != s) = true := by simp [hs]
    clear h hx hs0 hs
    go_enter Try.func46, Try.ntmps46
    go_wp2_with (first | (go_at_call 41; refine HM.out.mono ?_; rintro e w2 ⟨rfl, rfl⟩; clear HM) | (go_at_call 13; refine HS.out.mono ?_; rintro e w2 ⟨rfl, hb⟩; have HP2 := Lib.hid (HP.out.next hb); have HB2 := Lib.hid hb; clear hb HS))
    go_ret
    exact ⟨by rw [HF.out]; rfl, by rw [HF.out]; exact HP2.out, Tn.next HP.out HB2.out⟩
theorem joined_any (h : PP W B d x) (hx : x.n ≠ 0) (n m : Int) (y : Bool) : Calls Try.prog 23 #[.pointer (some ⟨d, 0, none⟩), .int .i64 n, .int .i64 m, .bool y] W fun e W' => e = .returned (.int .i64 (x.toldF n m 1 (if y then 2 else 0)).1) ∧ PP W' B d (x.toldF n m 1 (if y then 2 else 0)).2 ∧ Tn B d W W' := by
  cases y with
  | true =>
    have HC := Lib.hid (told_any W h hx n m 1 2)
    clear h hx
    go_enter Try.func23, Try.ntmps23
    go_wp2_with (go_at_call 46; refine HC.out.mono ?_; rintro e w2 ⟨rfl, hp, ht⟩)
    go_ret
    exact ⟨rfl, hp, ht⟩
  | false =>
    have HC := Lib.hid (told_any W h hx n m 1 0)
    clear h hx
    go_enter Try.func23, Try.ntmps23
    go_wp2_with (go_at_call 46; refine HC.out.mono ?_; rintro e w2 ⟨rfl, hp, ht⟩)
    go_ret
    exact ⟨rfl, hp, ht⟩
theorem left_any (h : PP W B d x) (hx : x.n ≠ 0) (n m : Int) (y : Bool) : Calls Try.prog 24 #[.pointer (some ⟨d, 0, none⟩), .int .i64 n, .int .i64 m, .bool y] W fun e W' => e = .returned (.int .i64 (x.toldF n m 3 (if y then 0 else 2)).1) ∧ PP W' B d (x.toldF n m 3 (if y then 0 else 2)).2 ∧ Tn B d W W' := by
  cases y with
  | true =>
    have HC := Lib.hid (told_any W h hx n m 3 0)
    clear h hx
    go_enter Try.func24, Try.ntmps24
    go_wp2_with (go_at_call 46; refine HC.out.mono ?_; rintro e w2 ⟨rfl, hp, ht⟩)
    go_ret
    exact ⟨rfl, hp, ht⟩
  | false =>
    have HC := Lib.hid (told_any W h hx n m 3 2)
    clear h hx
    go_enter Try.func24, Try.ntmps24
    go_wp2_with (go_at_call 46; refine HC.out.mono ?_; rintro e w2 ⟨rfl, hp, ht⟩)
    go_ret
    exact ⟨rfl, hp, ht⟩
set_option maxRecDepth 20000 in
theorem found_any (h : PP W B d x) (hx : x.n ≠ 0) (n : Int) : Calls Try.prog 21 #[.pointer (some ⟨d, 0, none⟩), .int .i64 n] W fun e W' => e = .returned (.int .i64 (x.foundF n).1) ∧ PP W' B d (x.foundF n).2 ∧ Tn B d W W' := by
  have HM := Lib.hid (made_any W h)
  rw [decide_eq_true hx] at HM
  have HN := Lib.hid (isseller_any W n)
  have HS := Lib.hid (state_any W h n)
  have HP := Lib.hid h
  cases hn : numB n with
  | false =>
    have HF := Lib.hid (show x.foundF n = (12, x) by unfold PS.foundF; rw [hn]; rfl)
    rw [hn] at HN
    clear h hx hn
    go_enter Try.func21, Try.ntmps21
    go_wp2_with (first | (go_at_call 41; refine HM.out.mono ?_; rintro e w2 ⟨rfl, rfl⟩; clear HM) | (go_at_call 42; refine HN.out.mono ?_; rintro e w2 ⟨rfl, rfl⟩; clear HN))
    go_ret
    exact ⟨by rw [HF.out]; rfl, by rw [HF.out]; exact HP.out, Tn.refl _ _ _⟩
  | true =>
    rw [hn] at HN
    obtain ⟨k, hk, rfl⟩ := num_of hn
    obtain ⟨s, hs⟩ : ∃ s, s = x.stV ((k : Int) + 1) := ⟨_, rfl⟩
    rw [← hs] at HS
    by_cases h0 : s = 0
    · subst h0
      have HF := Lib.hid (show x.foundF ((k : Int) + 1) = (0, x.set k 2) by unfold PS.foundF; rw [hn, if_pos rfl, if_pos hs.symm, show ((k : Int) + 1 - 1).toNat = k by omega])
      have HK := Lib.hid hk
      clear h hx hn hs hk
      go_enter Try.func21, Try.ntmps21
      go_wp2_with (first | (go_at_call 41; refine HM.out.mono ?_; rintro e w2 ⟨rfl, rfl⟩; clear HM) | (go_at_call 42; refine HN.out.mono ?_; rintro e w2 ⟨rfl, rfl⟩; clear HN) | (go_at_call 13; refine HS.out.mono ?_; rintro e w2 ⟨rfl, hb⟩; have HP2 := Lib.hid (HP.out.next hb); have HB2 := Lib.hid hb; clear hb HS) | (go_at_call 43; refine (set_any w2 HP2.out HK.out 2).mono ?_; rintro e w4 ⟨rfl, hp, ht, -⟩; have HP4 := Lib.hid hp; have HT := Lib.hid ((Tn.next HP.out HB2.out).trans ht); clear hp ht))
      go_ret
      exact ⟨by rw [HF.out]; rfl, by rw [HF.out]; exact HP4.out, HT.out⟩
    · have HF := Lib.hid (show x.foundF ((k : Int) + 1) = (10, x) by unfold PS.foundF; rw [hn, if_pos rfl, if_neg (by rw [← hs]; exact h0)])
      have i1 : (s != 0) = true := by simp [h0]
      clear h hx hn hs hk h0
      go_enter Try.func21, Try.ntmps21
      go_wp2_with (first | (go_at_call 41; refine HM.out.mono ?_; rintro e w2 ⟨rfl, rfl⟩; clear HM) | (go_at_call 42; refine HN.out.mono ?_; rintro e w2 ⟨rfl, rfl⟩; clear HN) | (go_at_call 13; refine HS.out.mono ?_; rintro e w2 ⟨rfl, hb⟩; have HP2 := Lib.hid (HP.out.next hb); have HB2 := Lib.hid hb; clear hb HS))
      go_ret
      exact ⟨by rw [HF.out]; rfl, by rw [HF.out]; exact HP2.out, Tn.next HP.out HB2.out⟩
set_option maxRecDepth 20000 in
theorem join_any (h : PP W B d x) (hx : x.n ≠ 0) (n m : Int) : Calls Try.prog 22 #[.pointer (some ⟨d, 0, none⟩), .int .i64 n, .int .i64 m] W fun e W' => e = .returned (.int .i64 (x.joinF n m).1) ∧ PP W' B d (x.joinF n m).2 ∧ Tn B d W W' := by
  have HM := Lib.hid (made_any W h)
  rw [decide_eq_true hx] at HM
  have HN := Lib.hid (isseller_any W n)
  have HS := Lib.hid (state_any W h n)
  have HO := Lib.hid (other_any W h m)
  have HP := Lib.hid h
  cases hn : numB n with
  | false =>
    have HF := Lib.hid (show x.joinF n m = (12, x) by unfold PS.joinF; rw [hn]; rfl)
    rw [hn] at HN
    clear h hx hn
    go_enter Try.func22, Try.ntmps22
    go_wp2_with (first | (go_at_call 41; refine HM.out.mono ?_; rintro e w2 ⟨rfl, rfl⟩; clear HM) | (go_at_call 42; refine HN.out.mono ?_; rintro e w2 ⟨rfl, rfl⟩; clear HN))
    go_ret
    exact ⟨by rw [HF.out]; rfl, by rw [HF.out]; exact HP.out, Tn.refl _ _ _⟩
  | true =>
    rw [hn] at HN
    obtain ⟨k, hk, rfl⟩ := num_of hn
    cases ho : x.otherV m with
    | false =>
      have HF := Lib.hid (show x.joinF ((k : Int) + 1) m = (11, x) by unfold PS.joinF; rw [hn, if_pos rfl, ho]; rfl)
      rw [ho] at HO
      clear h hx hn ho
      go_enter Try.func22, Try.ntmps22
      go_wp2_with (first | (go_at_call 41; refine HM.out.mono ?_; rintro e w2 ⟨rfl, rfl⟩; clear HM) | (go_at_call 42; refine HN.out.mono ?_; rintro e w2 ⟨rfl, rfl⟩; clear HN) | (go_at_call 44; refine HO.out.mono ?_; rintro e w2 ⟨rfl, rfl⟩; clear HO))
      go_ret
      exact ⟨by rw [HF.out]; rfl, by rw [HF.out]; exact HP.out, Tn.refl _ _ _⟩
    | true =>
      rw [ho] at HO
      obtain ⟨j, hj, rfl⟩ := num_of (other_num ho)
      obtain ⟨s, hs⟩ : ∃ s, s = x.stV ((k : Int) + 1) := ⟨_, rfl⟩
      rw [← hs] at HS
      by_cases h0 : s = 0
      · subst h0
        have HF := Lib.hid (show x.joinF ((k : Int) + 1) ((j : Int) + 1) = (0, (x.set k 1).setPe k j true) by unfold PS.joinF; rw [hn, if_pos rfl, ho, if_pos rfl, if_pos hs.symm, show ((k : Int) + 1 - 1).toNat = k by omega, show ((j : Int) + 1 - 1).toNat = j by omega])
        have HK := Lib.hid (And.intro hk hj)
        clear h hx hn ho hs hk hj
        go_enter Try.func22, Try.ntmps22
        go_wp2_with (first | (go_at_call 41; refine HM.out.mono ?_; rintro e w2 ⟨rfl, rfl⟩; clear HM) | (go_at_call 42; refine HN.out.mono ?_; rintro e w2 ⟨rfl, rfl⟩; clear HN) | (go_at_call 44; refine HO.out.mono ?_; rintro e w2 ⟨rfl, rfl⟩; clear HO) | (go_at_call 13; refine HS.out.mono ?_; rintro e w2 ⟨rfl, hb⟩; have HP2 := Lib.hid (HP.out.next hb); have HB2 := Lib.hid hb; clear hb HS) | (go_at_call 43; refine (set_any w2 HP2.out HK.out.1 1).mono ?_; rintro e w4 ⟨rfl, hp, ht, -⟩; have HP4 := Lib.hid hp; have HT := Lib.hid ((Tn.next HP.out HB2.out).trans ht); clear hp ht) | (go_at_call 45; refine (let_any w4 HP4.out HK.out.1 HK.out.2 true).mono ?_; rintro e w5 ⟨rfl, hp, ht, -⟩; have HP5 := Lib.hid hp; have HT5 := Lib.hid (HT.out.trans ht); clear hp ht))
        go_ret
        exact ⟨by rw [HF.out]; rfl, by rw [HF.out]; exact HP5.out, HT5.out⟩
      · have HF := Lib.hid (show x.joinF ((k : Int) + 1) ((j : Int) + 1) = (10, x) by unfold PS.joinF; rw [hn, if_pos rfl, ho, if_pos rfl, if_neg (by rw [← hs]; exact h0)])
        have i1 : (s != 0) = true := by simp [h0]
        clear h hx hn ho hs hk hj h0
        go_enter Try.func22, Try.ntmps22
        go_wp2_with (first | (go_at_call 41; refine HM.out.mono ?_; rintro e w2 ⟨rfl, rfl⟩; clear HM) | (go_at_call 42; refine HN.out.mono ?_; rintro e w2 ⟨rfl, rfl⟩; clear HN) | (go_at_call 44; refine HO.out.mono ?_; rintro e w2 ⟨rfl, rfl⟩; clear HO) | (go_at_call 13; refine HS.out.mono ?_; rintro e w2 ⟨rfl, hb⟩; have HP2 := Lib.hid (HP.out.next hb); have HB2 := Lib.hid hb; clear hb HS))
        go_ret
        exact ⟨by rw [HF.out]; rfl, by rw [HF.out]; exact HP2.out, Tn.next HP.out HB2.out⟩
set_option maxRecDepth 20000 in
theorem asked_any (h : PP W B d x) (hx : x.n ≠ 0) (n m : Int) : Calls Try.prog 25 #[.pointer (some ⟨d, 0, none⟩), .int .i64 n, .int .i64 m] W fun e W' => e = .returned (.bool (x.askedF n m).1) ∧ PP W' B d (x.askedF n m).2 ∧ Tn B d W W' := by
  have HS := Lib.hid (state_any W h n)
  have HP := Lib.hid h
  obtain ⟨s, hs⟩ : ∃ s, s = x.stV n := ⟨_, rfl⟩
  rw [← hs] at HS
  by_cases h0 : s = 2
  · subst h0
    cases ho : x.otherV m with
    | false =>
      have HF := Lib.hid (show x.askedF n m = (false, x) by unfold PS.askedF; rw [if_neg (by rw [ho]; simp)])
      have HK := Lib.hid ho
      clear h hx ho hs
      go_enter Try.func25, Try.ntmps25
      go_wp2_with (first | (go_at_call 13; refine HS.out.mono ?_; rintro e w2 ⟨rfl, hb⟩; have HP2 := Lib.hid (HP.out.next hb); have HB2 := Lib.hid hb; have HO := Lib.hid (other_any w2 HP2.out m); rw [HK.out] at HO; clear hb HS) | (go_at_call 44; refine HO.out.mono ?_; rintro e w3 ⟨rfl, rfl⟩; clear HO))
      go_ret
      exact ⟨by rw [HF.out]; rfl, by rw [HF.out]; exact HP2.out, Tn.next HP.out HB2.out⟩
    | true =>
      obtain ⟨j, hj, rfl⟩ := num_of (other_num ho)
      obtain ⟨k, hk, rfl⟩ := num_of (st_num (by rw [← hs]; decide : x.stV n ≠ 0))
      cases hh : x.hasV ((k : Int) + 1) ((j : Int) + 1) with
      | true =>
        have HF := Lib.hid (show x.askedF ((k : Int) + 1) ((j : Int) + 1) = (false, x) by unfold PS.askedF; rw [if_neg (by rw [hh]; simp)])
        have HK := Lib.hid (And.intro ho hh)
        clear h hx ho hs hk hj hh
        go_enter Try.func25, Try.ntmps25
        go_wp2_with (first | (go_at_call 13; refine HS.out.mono ?_; rintro e w2 ⟨rfl, hb⟩; have HP2 := Lib.hid (HP.out.next hb); have HB2 := Lib.hid hb; have HO := Lib.hid (other_any w2 HP2.out ((j : Int) + 1)); have HH := Lib.hid (has_any w2 HP2.out ((k : Int) + 1) ((j : Int) + 1)); rw [HK.out.1] at HO; rw [HK.out.2] at HH; clear hb HS) | (go_at_call 44; refine HO.out.mono ?_; rintro e w3 ⟨rfl, rfl⟩; clear HO) | (go_at_call 47; refine HH.out.mono ?_; rintro e w3 ⟨rfl, hb⟩; have HP3 := Lib.hid (HP2.out.next hb); have HB3 := Lib.hid (HB2.out.trans (hb.mono HB2.out.size)); clear hb HH))
        go_ret
        exact ⟨by rw [HF.out]; rfl, by rw [HF.out]; exact HP3.out, Tn.next HP.out HB3.out⟩
      | false =>
        have HF := Lib.hid (show x.askedF ((k : Int) + 1) ((j : Int) + 1) = (true, x.setPe k j true) by unfold PS.askedF; rw [if_pos ⟨hs.symm, ho, hh⟩, show ((k : Int) + 1 - 1).toNat = k by omega, show ((j : Int) + 1 - 1).toNat = j by omega])
        have HK := Lib.hid (And.intro ho hh)
        have HKJ := Lib.hid (And.intro hk hj)
        clear h hx ho hs hk hj hh
        go_enter Try.func25, Try.ntmps25
        go_wp2_with (first | (go_at_call 13; refine HS.out.mono ?_; rintro e w2 ⟨rfl, hb⟩; have HP2 := Lib.hid (HP.out.next hb); have HB2 := Lib.hid hb; have HO := Lib.hid (other_any w2 HP2.out ((j : Int) + 1)); have HH := Lib.hid (has_any w2 HP2.out ((k : Int) + 1) ((j : Int) + 1)); rw [HK.out.1] at HO; rw [HK.out.2] at HH; clear hb HS) | (go_at_call 44; refine HO.out.mono ?_; rintro e w3 ⟨rfl, rfl⟩; clear HO) | (go_at_call 47; refine HH.out.mono ?_; rintro e w3 ⟨rfl, hb⟩; have HP3 := Lib.hid (HP2.out.next hb); have HB3 := Lib.hid (HB2.out.trans (hb.mono HB2.out.size)); clear hb HH) | (go_at_call 45; refine (let_any w3 HP3.out HKJ.out.1 HKJ.out.2 true).mono ?_; rintro e w5 ⟨rfl, hp, ht, -⟩; have HP5 := Lib.hid hp; have HT5 := Lib.hid ((Tn.next HP.out HB3.out).trans ht); clear hp ht))
        go_ret
        exact ⟨by rw [HF.out]; rfl, by rw [HF.out]; exact HP5.out, HT5.out⟩
  · have HF := Lib.hid (show x.askedF n m = (false, x) by unfold PS.askedF; rw [if_neg (by rw [← hs]; exact fun h => h0 h.1)])
    have i1 : (s == 2) = false := by simp [h0]
    clear h hx hs h0
    go_enter Try.func25, Try.ntmps25
    go_wp2_with (first | (go_at_call 13; refine HS.out.mono ?_; rintro e w2 ⟨rfl, hb⟩; have HP2 := Lib.hid (HP.out.next hb); have HB2 := Lib.hid hb; clear hb HS))
    go_ret
    exact ⟨by rw [HF.out]; rfl, by rw [HF.out]; exact HP2.out, Tn.next HP.out HB2.out⟩
set_option maxRecDepth 20000 in
theorem leaving_any (h : PP W B d x) (hx : x.n ≠ 0) (n m : Int) : Calls Try.prog 26 #[.pointer (some ⟨d, 0, none⟩), .int .i64 n, .int .i64 m] W fun e W' => e = .returned (.bool (x.leavingF n m).1) ∧ PP W' B d (x.leavingF n m).2 ∧ Tn B d W W' := by
  have HS := Lib.hid (state_any W h n)
  have HP := Lib.hid h
  obtain ⟨s, hs⟩ : ∃ s, s = x.stV n := ⟨_, rfl⟩
  rw [← hs] at HS
  by_cases h0 : s = 2
  · subst h0
    cases hh : x.hasV n m with
    | false =>
      have HF := Lib.hid (show x.leavingF n m = (false, x) by unfold PS.leavingF; rw [if_neg (by rw [hh]; simp)])
      have HK := Lib.hid hh
      clear h hx hs hh
      go_enter Try.func26, Try.ntmps26
      go_wp2_with (first | (go_at_call 13; refine HS.out.mono ?_; rintro e w2 ⟨rfl, hb⟩; have HP2 := Lib.hid (HP.out.next hb); have HB2 := Lib.hid hb; have HH := Lib.hid (has_any w2 HP2.out n m); rw [HK.out] at HH; clear hb HS) | (go_at_call 47; refine HH.out.mono ?_; rintro e w3 ⟨rfl, hb⟩; have HP3 := Lib.hid (HP2.out.next hb); have HB3 := Lib.hid (HB2.out.trans (hb.mono HB2.out.size)); clear hb HH))
      go_ret
      exact ⟨by rw [HF.out]; rfl, by rw [HF.out]; exact HP3.out, Tn.next HP.out HB3.out⟩
    | true =>
      obtain ⟨j, hj, rfl⟩ := num_of (has_num hh).2
      obtain ⟨k, hk, rfl⟩ := num_of (has_num hh).1
      have HF := Lib.hid (show x.leavingF ((k : Int) + 1) ((j : Int) + 1) = (true, x.setPe k j false) by unfold PS.leavingF; rw [if_pos ⟨hs.symm, hh⟩, show ((k : Int) + 1 - 1).toNat = k by omega, show ((j : Int) + 1 - 1).toNat = j by omega])
      have HK := Lib.hid hh
      have HKJ := Lib.hid (And.intro hk hj)
      clear h hx hs hk hj hh
      go_enter Try.func26, Try.ntmps26
      go_wp2_with (first | (go_at_call 13; refine HS.out.mono ?_; rintro e w2 ⟨rfl, hb⟩; have HP2 := Lib.hid (HP.out.next hb); have HB2 := Lib.hid hb; have HH := Lib.hid (has_any w2 HP2.out ((k : Int) + 1) ((j : Int) + 1)); rw [HK.out] at HH; clear hb HS) | (go_at_call 47; refine HH.out.mono ?_; rintro e w3 ⟨rfl, hb⟩; have HP3 := Lib.hid (HP2.out.next hb); have HB3 := Lib.hid (HB2.out.trans (hb.mono HB2.out.size)); clear hb HH) | (go_at_call 45; refine (let_any w3 HP3.out HKJ.out.1 HKJ.out.2 false).mono ?_; rintro e w5 ⟨rfl, hp, ht, -⟩; have HP5 := Lib.hid hp; have HT5 := Lib.hid ((Tn.next HP.out HB3.out).trans ht); clear hp ht))
      go_ret
      exact ⟨by rw [HF.out]; rfl, by rw [HF.out]; exact HP5.out, HT5.out⟩
  · have HF := Lib.hid (show x.leavingF n m = (false, x) by unfold PS.leavingF; rw [if_neg (by rw [← hs]; exact fun h => h0 h.1)])
    have i1 : (s == 2) = false := by simp [h0]
    clear h hx hs h0
    go_enter Try.func26, Try.ntmps26
    go_wp2_with (first | (go_at_call 13; refine HS.out.mono ?_; rintro e w2 ⟨rfl, hb⟩; have HP2 := Lib.hid (HP.out.next hb); have HB2 := Lib.hid hb; clear hb HS))
    go_ret
    exact ⟨by rw [HF.out]; rfl, by rw [HF.out]; exact HP2.out, Tn.next HP.out HB2.out⟩
end
end Pe
end Go.Proofs.Ytlceljcplmcjgaa
