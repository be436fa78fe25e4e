/-
links: Queue, Room, Peers.
-/
import Derived.Test.YtifoheodcbjapaaLs3
namespace Go.Proofs.Ytifoheodcbjapaa
open Go.RowKit
set_option linter.unusedSimpArgs false
set_option linter.unusedVariables false
namespace Ls
open Lk
/-- The link to n, or an empty one. -/
def qS (own : Nat) (S : Nat → LS) (n : Int) : LS := if hasB own S n then S (n.toNat - 1) else ⟨1, 1, []⟩
def roomE (own : Nat) (S : Nat → LS) (n : Int) : Nat := if isO own n then 250 - (qS own S n).ts.length else 0
def peersL (own : Nat) (S : Nat → LS) : List Nat := Nd.thoseL fun m => hasB own S ((m : Nat) : Int)
theorem queue_none (W : World) : QueueP ⟨1, 1, []⟩ W (.returned (.slice none 0 0)) W :=
  ⟨Below.refl _ _, none, 0, [], rfl, Nat.le_refl _, Or.inl ⟨rfl, rfl⟩, fun x hx => (by cases hx), rfl, by decide, by decide, by decide, fun i x hx => (by simp at hx)⟩
section
variable (W : World) {B d own : Nat} {F : Nat → Prop} {K : Nat → Kn} {S : Nat → LS}
theorem queue_nb {v : Value} (h : NB W v) (n : Int) : Calls Try.prog 18 #[v, .int .i64 n] W fun e W' => e = .returned (.slice none 0 0) ∧ W = W' := by
  have HM := Lib.hid (has_nb W h n)
  clear h
  go_enter Try.func18, Try.ntmps18
  go_wp2_with (go_at_call 43; refine HM.out.mono ?_; rintro e w1 ⟨rfl, rfl⟩)
  go_ret
  exact ⟨rfl, rfl⟩
theorem room_nb {v : Value} (h : NB W v) (n : Int) : Calls Try.prog 19 #[v, .int .i64 n] W fun e W' => e = .returned (.int .i64 0) ∧ W = W' := by
  have HM := Lib.hid (other_nb W h n)
  clear h
  go_enter Try.func19, Try.ntmps19
  go_wp2_with (go_at_call 37; refine HM.out.mono ?_; rintro e w1 ⟨rfl, rfl⟩)
  go_ret
  exact ⟨rfl, rfl⟩
set_option maxRecDepth 20000 in
theorem queue_any (h : LN W B d F own S) (n : Int) : Calls Try.prog 18 #[.pointer (some ⟨d, 0, none⟩), .int .i64 n] W fun e W' => QueueP (qS own S n) W e W' := by
  obtain ⟨K, D, rfl⟩ := h
  have HH := Lib.hid (has_any W D n)
  cases hb : hasB own (fun i => (K i).s) n with
  | false =>
    rw [hb] at HH
    have e : qS own (fun i => (K i).s) n = ⟨1, 1, []⟩ := by unfold qS; rw [hb]; rfl
    rw [e]
    have HQ := Lib.hid (queue_none W)
    clear hb D e
    go_enter Try.func18, Try.ntmps18
    go_wp2_with (first | (go_at_call 43; refine HH.out.mono ?_; rintro e w1 ⟨rfl, rfl⟩))
    go_ret
    exact HQ.out
  | true =>
    rw [hb] at HH
    have hb2 := hb
    unfold hasB at hb2
    rw [Bool.and_eq_true] at hb2
    obtain ⟨i, hi, hti, hn, hw, hw2, hi1, hi0⟩ := isN_of (isO_of hb2.1).1
    have hnx : (K i).s.nx ≠ 0 := by have := of_decide_eq_true hb2.2; rwa [hti] at this
    have e : qS own (fun i => (K i).s) n = (K i).s := by unfold qS; rw [hb, hti]; rfl
    rw [e]
    have HA := Lib.hid (queue_o W (D.lnk hi hnx))
    clear hb hb2 D hnx hn hti hi hw2 e
    go_enter Try.func18, Try.ntmps18
    go_wp2_with (first | (go_at_call 43; refine HH.out.mono ?_; rintro e w1 ⟨rfl, rfl⟩) | (go_at_call 47; refine HA.out.mono ?_; rintro e w1 ⟨hb1, A1, c1, M1, rfl, hq⟩; have HQ := Lib.hid hq; have HB := Lib.hid hb1; clear hq hb1 HA))
    go_ret
    exact ⟨HB.out, A1, c1, M1, rfl, HQ.out⟩
set_option maxRecDepth 20000 in
theorem room_any (h : LN W B d F own S) (n : Int) : Calls Try.prog 19 #[.pointer (some ⟨d, 0, none⟩), .int .i64 n] W fun e W' => e = .returned (.int .i64 (roomE own S n : Nat)) ∧ Below W.heap.size W W' := by
  have HQ := Lib.hid (queue_any W h n)
  obtain ⟨K, D, rfl⟩ := h
  have HH := Lib.hid (other_any W D n)
  cases hb : isO own n with
  | false =>
    rw [hb] at HH
    have e : roomE own (fun i => (K i).s) n = 0 := by unfold roomE; rw [hb]; rfl
    rw [e]
    clear hb D e HQ
    go_enter Try.func19, Try.ntmps19
    go_wp2_with (go_at_call 37; refine HH.out.mono ?_; rintro e w1 ⟨rfl, rfl⟩)
    go_ret
    exact ⟨rfl, Below.refl _ _⟩
  | true =>
    rw [hb] at HH
    have HE := Lib.hid (show roomE own (fun i => (K i).s) n = 250 - (qS own (fun i => (K i).s) n).ts.length by unfold roomE; rw [hb]; rfl)
    clear hb D
    go_enter Try.func19, Try.ntmps19
    go_wp2_with (first | (go_at_call 37; refine HH.out.mono ?_; rintro e w1 ⟨rfl, rfl⟩) | (go_at_call 18; refine HQ.out.mono ?_; rintro e w1 ⟨hb1, A1, c1, M1, rfl, hc1, hr1, ha1, hts, hl1, hq⟩; have HT := Lib.hid hts; have HL := Lib.hid hl1; have HB := Lib.hid hb1; clear hq hb1 hc1 hr1 ha1 hts hl1 HQ))
    go_ret
    have hl := HL.out
    have ht : (qS own (fun i => (K i).s) n).ts.length = M1.length := by rw [← HT.out, List.length_map]
    refine ⟨?_, HB.out⟩
    rw [HE.out, ht]
    have e : wrap64 (250 - (M1.length : Int)) = ((250 - M1.length : Nat) : Int) := by unfold wrap64; omega
    rw [show ((250 - M1.length : Nat) : Int) = wrap64 (250 - (M1.length : Int)) from e.symm]
    rfl
set_option maxRecDepth 20000 in
set_option maxHeartbeats 4000000 in
theorem peers_gen (v : Value) (p : Nat → Bool) (hp : ∀ w, Below W.heap.size W w → ∀ m : Nat, Calls Try.prog 43 #[v, .int .i64 ((m : Nat) : Int)] w fun e w' => e = .returned (.bool (p m)) ∧ w = w') :
    Calls Try.prog 16 #[v] W fun e W' => ∃ v', e = .returned v' ∧ Nd.Nds W' W.heap.size v' (Nd.thoseL p) ∧ Below W.heap.size W W' := by
  have HP0 := Lib.hid hp
  clear hp
  go_enter Try.func16, Try.ntmps16
  go_upto_region 3 with fail
  go_loopw [3, 5] (fun v i wr => ∃ j : Nat, j ≤ 12 ∧ i = .int .i64 j ∧ Nd.Nds wr W.heap.size v (Nd.thoseN p j) ∧ Below W.heap.size W wr) (fun _ i _ => 12 - (intOf i).toNat)
  case atStart => exact ⟨0, Nat.zero_le _, rfl, Nd.Nds.nil _ _, Below.refl _ _⟩
  case round =>
    obtain ⟨j, hj, rfl, hN, hb⟩ := hrel
    have HN := Lib.hid hN
    have HB := Lib.hid hb
    by_cases hlt : j < 12
    · have i1 : (j : Int) < 12 := by omega
      obtain ⟨jj, hjj⟩ : ∃ jj, jj = j + 1 := ⟨_, rfl⟩
      have HW := Lib.hid (Nd.wrap_n j jj hjj (by omega))
      have HJ := Lib.hid (And.intro hjj hlt)
      have HS := Lib.hid (Nd.those_succ p j)
      rw [← hjj] at HS
      have HC := Lib.hid (HP0.out wr hb jj)
      obtain ⟨s, hs⟩ : ∃ s, s = p jj := ⟨_, rfl⟩
      rw [← hs] at HC HS
      clear hN hb hj hlt hjj hs
      go_upto_region 4 with fail
      clear i1
      cases s with
      | false =>
        go_wp2_with ((try rw [HW.out]); refine HC.out.mono ?_; rintro e w2 ⟨rfl, rfl⟩; clear HC)
        (try rw [HW.out])
        go_roundw
        case rel => exact ⟨jj, by have := HJ.out; omega, rfl, by rw [HS.out, if_neg (by decide)]; exact HN.out, HB.out⟩
        case measure => have := HJ.out; simp [intOf]; omega
      | true =>
        obtain ⟨A, c, hv⟩ := HN.out.shape
        subst hv
        go_upto_region 6 with ((try rw [HW.out]); refine HC.out.mono ?_; rintro e w2 ⟨rfl, rfl⟩; clear HC)
        go_upto_region 7 with (refine wpList_plain rfl fun K hK => ?_; refine Nd.wp_app_int _ _ _ rfl W.heap.size _ (Nd.thoseN p j) rfl (HN.out.next ((Below.refl _ _).alloc (Nat.le_refl _) _)) wr.heap.size 1 jj rfl ?_ (by have := Nd.those_le p j; have := HJ.out; omega) (by have := HB.out.size; simp; omega) ?_; (focus ((try rw [HW.out]); exact (Blk.new wr 3 #[.int .i64 (jj : Nat)]).cell 0)); intro v' w' hN' hg' _; refine hK _ _ ?_; clear hK K; have HN3 := Lib.hid hN'; have HG := Lib.hid hg'; clear hN' hg'; (try simp only [Act.put, List.setIfInBounds_toArray, List.set_cons_zero, List.set_cons_succ]))
        go_wp2_with fail
        rw [HW.out]
        go_roundw
        case rel => exact ⟨jj, by have := HJ.out; omega, rfl, by rw [HS.out, if_pos trivial]; exact HN3.out, Nd.below_grown (HB.out.alloc HB.out.size _) HG.out (fun k hk => (HN.out.lt k hk).1)⟩
        case measure => have := HJ.out; simp [intOf]; omega
    · have i1 : ¬ (j : Int) < 12 := by omega
      have hj12 : j = 12 := by omega
      subst hj12
      clear hN hb hj hlt
      go_wp2_with fail
      go_ret
      exact ⟨_, rfl, HN.out, HB.out⟩
theorem peers_any (h : LN W B d F own S) : Calls Try.prog 16 #[.pointer (some ⟨d, 0, none⟩)] W fun e W' => ∃ v', e = .returned v' ∧ Nd.Nds W' W.heap.size v' (peersL own S) ∧ Below W.heap.size W W' :=
  peers_gen W _ _ fun w hb m => by
    obtain ⟨K, D, rfl⟩ := h
    exact has_any w (D.next hb) _
theorem peers_nb {v : Value} (h : NB W v) : Calls Try.prog 16 #[v] W fun e W' => ∃ v', e = .returned v' ∧ Nd.Nds W' W.heap.size v' [] ∧ Below W.heap.size W W' := by
  have := peers_gen W v (fun _ => false) fun w hb m => has_nb w (h.next hb) _
  have e : Nd.thoseL (fun _ => false) = [] := by decide
  rw [e] at this
  exact this
end
end Ls
end Go.Proofs.Ytifoheodcbjapaa
