/-
links: New, Own, at, a link that is put in its place, Send, Acked.
-/
import Derived.Test.YtifoheodcbjapaaLs
import Derived.Test.YtifoheodcbjapaaNds
namespace Go.Proofs.Ytifoheodcbjapaa
open Go.RowKit
set_option linter.unusedSimpArgs false
set_option linter.unusedVariables false
namespace Ls
open Lk
theorem lkinfo (k : Kn) : (Try.prog.info? 47).map (·.size) = some k.cells.length := by rw [kn_len]; kernel_rfl
theorem lkinfoA (k : Kn) : (Try.prog.info? 47).map (·.size) = some k.cells.toArray.size := by rw [List.size_toArray, kn_len]; kernel_rfl
theorem kn_siz (k : Kn) : (3 : Nat) = k.cells.toArray.size := by rw [List.size_toArray, kn_len]
theorem kn_one (k : Kn) : k.cells.toArray.all (·.oneCell') = true := by unfold Kn.cells lkc; simp [Value.oneCell']
def Kn.new : Kn := ⟨⟨1, 1, []⟩, none, 0, []⟩
def S0 : Nat → LS := fun _ => ⟨0, 0, []⟩
def updS (S : Nat → LS) (i : Nat) (s : LS) : Nat → LS := fun j => if j = i then s else S j
theorem upd_s (K : Nat → Kn) (i : Nat) (k : Kn) : (fun j => (upd K i k j).s) = updS (fun j => (K j).s) i k.s := by
  funext j
  unfold upd updS
  split <;> rfl
theorem built_ls (n : Nat) : Try.prog.built 50 [(0, .int .i64 (n : Nat))] = some (lsc n fun _ => Kn.z).toArray := by
  unfold lsc
  kernel_rfl
theorem lsinfoA (n : Nat) (K : Nat → Kn) : (Try.prog.info? 50).map (·.size) = some (lsc n K).toArray.size := by rw [List.size_toArray, ls_len]; kernel_rfl
section
variable (W : World)
theorem newl_any : Calls Try.prog 61 #[] W fun e W' => e = .returned (.pointer (some ⟨W.heap.size, 0, none⟩)) ∧ Blk W' W.heap.size 47 Kn.new.cells.toArray ∧ Below W.heap.size W W' := by
  go_enter Try.func61, Try.ntmps61
  go_wp2_with fail
  go_ret
  exact ⟨rfl, Blk.new W 47 _, (Below.refl _ _).alloc (Nat.le_refl _) _⟩
theorem new_not (n : Int) (hn : isN n = false) : Calls Try.prog 6 #[.int .i64 n] W fun e W' => e = .returned (.tuple #[.pointer none, .int .i64 11]) ∧ W = W' := by
  have HN := Lib.hid (isnode_any W n)
  rw [hn] at HN
  clear hn
  go_enter Try.func6, Try.ntmps6
  go_wp2_with (go_at_call 23; refine HN.out.mono ?_; rintro e w2 ⟨rfl, rfl⟩)
  go_ret2
  exact ⟨rfl, rfl⟩
set_option maxRecDepth 20000 in
theorem new_yes (n : Nat) (h1 : 1 ≤ n) (h2 : n ≤ 12) : Calls Try.prog 6 #[.int .i64 (n : Nat)] W fun e W' => e = .returned (.tuple #[.pointer (some ⟨W.heap.size, 0, none⟩), .int .i64 0]) ∧ LN W' W.heap.size W.heap.size (fun k => k = W.heap.size) n S0 ∧ Below W.heap.size W W' ∧ W'.heap.size = W.heap.size + 1 := by
  have HN := Lib.hid (isnode_any W (n : Nat))
  rw [show isN (n : Nat) = true from decide_eq_true (by omega)] at HN
  have HB := Lib.hid (built_ls n)
  have H1 := Lib.hid h1
  have H2 := Lib.hid h2
  clear h1 h2
  go_enter Try.func6, Try.ntmps6
  go_wp2_with (first | (go_at_call 23; refine HN.out.mono ?_; rintro e w2 ⟨rfl, rfl⟩) | (refine Nd.wpList_build_lit (lsc n fun _ => Kn.z).toArray rfl 50 _ rfl HB.out ?_))
  go_ret2
  exact ⟨rfl, ⟨fun _ => Kn.z, ⟨rfl, Blk.new W _ _, H1.out, H2.out, fun _ => Or.inl rfl, rfl, fun _ _ => rfl, fun k hk => by subst hk; simp⟩, rfl⟩, (Below.refl _ _).alloc (Nat.le_refl _) _, by simp⟩
theorem own_nil : Calls Try.prog 15 #[.pointer none] W fun e W' => e = .returned (.int .i64 0) ∧ W = W' := by
  go_enter Try.func15, Try.ntmps15
  go_wp2_with fail
  go_ret
  exact ⟨rfl, rfl⟩
theorem own_any {B d own : Nat} {F : Nat → Prop} {S : Nat → LS} (h : LN W B d F own S) : Calls Try.prog 15 #[.pointer (some ⟨d, 0, none⟩)] W fun e W' => e = .returned (.int .i64 (own : Nat)) ∧ W = W' := by
  obtain ⟨K, D, -⟩ := h
  have c0 := D.c0
  clear D
  go_enter Try.func15, Try.ntmps15
  go_wp2_with fail
  go_ret
  exact ⟨rfl, rfl⟩
end
/-- The link to a node, or a new one. -/
def atK (K : Nat → Kn) (i : Nat) : Kn := if (K i).s.nx = 0 then Kn.new else K i
def atS (S : Nat → LS) (i : Nat) : LS := if (S i).nx = 0 then ⟨1, 1, []⟩ else S i
theorem atK_s (K : Nat → Kn) (i : Nat) : (atK K i).s = atS (fun j => (K j).s) i := by
  unfold atK atS
  split <;> rfl
theorem Lks.at_ok {W : World} {B d own : Nat} {F : Nat → Prop} {K : Nat → Kn} (D : Lks W B d F own K) (i : Nat) : LkO W F (atK K i).A (atK K i).c (atK K i).l (atK K i).s := by
  unfold atK
  split
  · exact ⟨Nat.le_refl _, Or.inl ⟨rfl, rfl⟩, fun x hx => (by cases hx), fun i x hx => (by simp [Kn.new] at hx), rfl, by decide, by decide, by decide, by decide, by decide⟩
  · rename_i h
    rcases D.ok i with e | e
    · rw [e] at h; exact absurd rfl h
    · exact e
/-- A link is put in its place. -/
theorem put_done {W w2 : World} {B d own : Nat} {F : Nat → Prop} {K : Nat → Kn} (D : Lks W B d F own K) (hb : Below W.heap.size W w2) {i : Nat} (hi : i < 12) (hio : i ≠ own - 1) {k : Kn} (hk : LkO w2 (Grow F W w2) k.A k.c k.l k.s) :
    Lks (w2.setCells d (1 + i * 3) k.cells) B d (Grow F W (w2.setCells d (1 + i * 3) k.cells)) own (upd K i k) ∧ Turn B F W (w2.setCells d (1 + i * 3) k.cells) := by
  have D2 := D.next hb
  have hd := D.low d D.fd
  have hs := hb.size
  have hblk : Blk (w2.setCells d (1 + i * 3) k.cells) d 50 (lsc own (upd K i k)).toArray := by
    have h := D2.blk
    rw [ls_split own K hi] at h
    have := Blk.setMid k.cells _ (K i).cells _ w2 h (by rw [kn_len, kn_len])
    rw [ls_pre own K hi, ← ls_upd own K hi k] at this
    exact this
  obtain ⟨w', hw⟩ : ∃ w', w' = w2.setCells d (1 + i * 3) k.cells := ⟨_, rfl⟩
  have hsz : w'.heap.size = w2.heap.size := by rw [hw]; exact setCells_size d _ _ _
  have far : ∀ j, j ≠ d → w'.heap[j]? = w2.heap[j]? := fun j hj => by rw [hw]; exact setCells_other d _ _ _ j hj
  have hb' : Below B W w' := by rw [hw]; exact setCells_below hd.1 _ _ _ (hb.mono (by omega))
  rw [← hw] at hblk ⊢
  clear hw
  refine ⟨⟨Or.inl D.fd, hblk, D.o1, D.o2, fun j => ?_, ?_, fun j hj => ?_, ?_⟩, hb', fun j hj hF => (far j (fun e => hF (e ▸ D.fd))).trans (hb.block j hj)⟩
  · unfold upd
    by_cases hj : j = i
    · rw [if_pos hj]
      exact Or.inr (hk.keepD D2.blk (by decide) (by decide) fun b hF => ⟨hF.imp id fun h => ⟨h.1, by omega⟩, fun hbd => far b hbd⟩)
    · rw [if_neg hj]
      exact (D.ok j).imp id fun h => h.keepD D.blk (by decide) (by decide) fun b hF => ⟨Or.inl hF, fun hbd => (far b hbd).trans (hb.block b (D.low b hF).2)⟩
  · unfold upd
    rw [if_neg (fun e => hio e.symm)]
    exact D.self
  · unfold upd
    rw [if_neg (by omega)]
    exact D.far j hj
  · rintro j (hj | ⟨h1, h2⟩)
    · have := D.low j hj; exact ⟨this.1, by omega⟩
    · exact ⟨by omega, h2⟩
theorem turn_one {w w' : World} {B x : Nat} {W : World} (t : Turn B (fun k => k = x) w w') (hb : Below W.heap.size W w) (hx : W.heap.size ≤ x) : Below W.heap.size W w' :=
  ⟨t.1.os.trans hb.os, t.1.tape.trans hb.tape, t.1.output.trans hb.output, Nat.le_trans hb.size t.1.size, fun k hk => (t.2 k (Nat.lt_of_lt_of_le hk hb.size) (by omega)).trans (hb.block k hk)⟩
/-- Behind Acked of one of them. -/
theorem ack_done {W W' : World} {B d own : Nat} {F : Nat → Prop} {K : Nat → Kn} (D : Lks W B d F own K) {i : Nat} (hi : i < 12) (hio : i ≠ own - 1) {q : Nat} (h : AckP B d (1 + i * 3) 50 (lsc own K).toArray F ((K i).s.ack q) W W') :
    LN W' B d (Grow F W W') own (updS (fun j => (K j).s) i ((K i).s.ack q)) ∧ Turn B F W W' := by
  obtain ⟨A, c, l, D', t⟩ := h
  have e1 : (K i).s.ack q = ⟨(K i).s.nx, (K i).s.ex, ((K i).s.ack q).ts⟩ := by unfold LS.ack; split <;> rfl
  have hset := ls_set1 own K hi A c l ((K i).s.ack q).ts
  rw [← e1] at hset
  refine ⟨⟨upd K i ⟨(K i).s.ack q, A, c, l⟩, ⟨Or.inl D.fd, ?_, D.o1, D.o2, fun j => ?_, ?_, fun j hj => ?_, D'.low⟩, (upd_s K i ⟨(K i).s.ack q, A, c, l⟩).symm⟩, t.1, fun j hj hF => t.2 j hj (fun e => hF (e ▸ D.fd))⟩
  · have := D'.blk; rw [hset] at this; exact this
  · unfold upd
    by_cases hj : j = i
    · rw [if_pos hj]; exact Or.inr D'.ok
    · rw [if_neg hj]
      exact (D.ok j).imp id fun h => h.keepD D.blk (by decide) (by decide) fun b hF => ⟨Or.inl hF, fun hbd => t.2 b (D.low b hF).2 hbd⟩
  · unfold upd
    rw [if_neg (fun e => hio e.symm)]
    exact D.self
  · unfold upd
    rw [if_neg (by omega)]
    exact D.far j hj
def sendE (own : Nat) (S : Nat → LS) (n : Int) (m : Nat) : Int := if isO own n then Lk.sendE (atS S (n.toNat - 1)) m else 11
def sendN (own : Nat) (S : Nat → LS) (n : Int) (m : Nat) : Nat := if isO own n then Lk.sendN (atS S (n.toNat - 1)) m else 0
def send (own : Nat) (S : Nat → LS) (n : Int) (bs : List Nat) : Nat → LS := if sendE own S n bs.length = 0 then updS S (n.toNat - 1) ((atS S (n.toNat - 1)).send bs) else S
def ackE (own : Nat) (S : Nat → LS) (n : Int) (q : Nat) : Int := if hasB own S n then Lk.ackE (S (n.toNat - 1)) q else 4
def ackR (own : Nat) (S : Nat → LS) (n : Int) (q : Nat) : Nat := if hasB own S n then Lk.ackR (S (n.toNat - 1)) q else 0
def ack (own : Nat) (S : Nat → LS) (n : Int) (q : Nat) : Nat → LS := if hasB own S n then updS S (n.toNat - 1) ((S (n.toNat - 1)).ack q) else S
section
variable (W : World) {B d own : Nat} {F : Nat → Prop} {K : Nat → Kn} {S : Nat → LS}
set_option maxRecDepth 20000 in
theorem at_any (D : Lks W B d F own K) (n : Int) {i : Nat} (ho : isO own n = true) (hi : n.toNat - 1 = i) : Calls Try.prog 38 #[.pointer (some ⟨d, 0, none⟩), .int .i64 n] W fun e W' => e = .returned (.agg (atK K i).cells.toArray) ∧ Below W.heap.size W W' := by
  obtain ⟨i', hi', hti, hn, hw, hw2, hi1, hi0⟩ := isN_of (isO_of ho).1
  obtain rfl : i' = i := by rw [← hti, hi]
  obtain ⟨w1, hw1⟩ : ∃ w1, w1 = W.alloc (.cells #[.int .u64 0, .slice none 0 0, .int .u64 0] 47) := ⟨_, rfl⟩
  have hb1 : Below W.heap.size W w1 := by rw [hw1]; exact (Below.refl _ _).alloc (Nat.le_refl _) _
  have hx1 : Blk w1 W.heap.size 47 #[.int .u64 0, .slice none 0 0, .int .u64 0] := by rw [hw1]; exact Blk.new _ _ _
  have HH := Lib.hid (has_any w1 (D.next hb1) n)
  have hr := (D.next hb1).rng hi'
  have HB := Lib.hid hb1
  have HX := Lib.hid hx1
  by_cases h0 : (K i').s.nx = 0
  · have hK : atK K i' = Kn.new := by unfold atK; rw [if_pos h0]
    rw [hK]
    have e : hasB own (fun i => (K i).s) n = false := by unfold hasB; rw [hti, h0]; simp
    rw [e] at HH
    have HN := Lib.hid (newl_any w1)
    clear e hK h0 D hw hw2 hi1 hi0 hn hti hi' hr hb1 hx1 hi ho
    go_enter Try.func38, Try.ntmps38
    go_upto_region 1 with fail
    rw [← hw1]
    clear hw1
    go_wp2_with (first | (go_at_call 43; refine HH.out.mono ?_; rintro e w2 ⟨rfl, rfl⟩; clear HH) | (go_at_call 61; refine HN.out.mono ?_; rintro e w2 ⟨rfl, hk, hb2⟩; have HX2 := Lib.hid (HX.out.next hb2); have HB2 := Lib.hid (HB.out.trans (hb2.mono HB.out.size)); clear HN hb2) | (refine wpList_load_blk rfl 47 _ rfl _ rfl 47 Kn.new.cells.toArray _ hk Try.underlying47 rfl (lkinfoA _) ?_) | (refine wpList_store_blk rfl 47 _ _ rfl W.heap.size 47 _ Kn.new.cells.toArray rfl rfl HX2.out (lkinfoA _) (kn_siz _) (kn_one _) ?_; intro hY))
    refine bodyPost_row (t := 47) _ rfl rfl rfl Try.underlying47 rfl (lkinfoA _) hY ⟨rfl, below_setRow HB2.out (Nat.le_refl _) _⟩
  · have hK : atK K i' = K i' := by unfold atK; rw [if_neg h0]
    rw [hK]
    have e : hasB own (fun i => (K i).s) n = true := by unfold hasB; rw [hti, ho, decide_eq_true h0]; rfl
    rw [e] at HH
    clear e hK h0 D hw2 hn hti hi' hb1 hx1 hi ho
    go_enter Try.func38, Try.ntmps38
    go_upto_region 1 with fail
    rw [← hw1]
    clear hw1
    go_wp2_with (first | (go_at_call 43; refine HH.out.mono ?_; rintro e w2 ⟨rfl, rfl⟩; clear HH) | (refine wpList_load_mid rfl 47 _ rfl _ _ rfl (K i').cells _ hr Try.underlying47 rfl (lkinfo _) ?_) | (refine wpList_store_blk rfl 47 _ _ rfl W.heap.size 47 _ (K i').cells.toArray rfl rfl HX.out (lkinfoA _) (kn_siz _) (kn_one _) ?_; intro hY))
    refine bodyPost_row (t := 47) _ rfl rfl rfl Try.underlying47 rfl (lkinfoA _) hY ⟨rfl, below_setRow HB.out (Nat.le_refl _) _⟩
theorem send_nb {v : Value} (h : NB W v) (n : Int) (b : Value) : Calls Try.prog 11 #[v, .int .i64 n, b] W fun e W' => e = .returned (.tuple #[.int .u64 0, .int .i64 6]) ∧ W = W' := by
  have HM := Lib.hid (lmade_nb W h)
  clear h
  go_enter Try.func11, Try.ntmps11
  go_wp2_with (go_at_call 36; refine HM.out.mono ?_; rintro e w1 ⟨rfl, rfl⟩)
  go_ret2
  exact ⟨rfl, rfl⟩
theorem acked_nb {v : Value} (h : NB W v) (n : Int) (b : Value) : Calls Try.prog 13 #[v, .int .i64 n, b] W fun e W' => e = .returned (.tuple #[.int .i64 0, .int .i64 6]) ∧ W = W' := by
  have HM := Lib.hid (lmade_nb W h)
  clear h
  go_enter Try.func13, Try.ntmps13
  go_wp2_with (go_at_call 36; refine HM.out.mono ?_; rintro e w1 ⟨rfl, rfl⟩)
  go_ret2
  exact ⟨rfl, rfl⟩
set_option maxRecDepth 20000 in
theorem acked_any (h : LN W B d F own S) (n : Int) (q : Nat) : Calls Try.prog 13 #[.pointer (some ⟨d, 0, none⟩), .int .i64 n, .int .u64 (q : Nat)] W fun e W' =>
    e = .returned (.tuple #[.int .i64 ((ackR own S n q : Nat) : Int), .int .i64 (ackE own S n q)]) ∧ LN W' B d (Grow F W W') own (ack own S n q) ∧ Turn B F W W' := by
  obtain ⟨K, D, rfl⟩ := h
  have HM := Lib.hid (lmade_any W D)
  have HH := Lib.hid (has_any W D n)
  have HD := Lib.hid D
  cases hb : hasB own (fun i => (K i).s) n with
  | false =>
    rw [hb] at HH
    have HE := Lib.hid (show ackE own (fun i => (K i).s) n q = 4 ∧ ackR own (fun i => (K i).s) n q = 0 ∧ ack own (fun i => (K i).s) n q = fun i => (K i).s by unfold ackE ackR ack; rw [hb]; exact ⟨rfl, rfl, rfl⟩)
    clear hb D
    go_enter Try.func13, Try.ntmps13
    go_wp2_with (first | (go_at_call 36; refine HM.out.mono ?_; rintro e w1 ⟨rfl, rfl⟩) | (go_at_call 43; refine HH.out.mono ?_; rintro e w1 ⟨rfl, rfl⟩))
    go_ret2
    exact ⟨by (rw [HE.out.1, HE.out.2.1]; try rfl), ⟨K, HD.out.grow (Below.refl _ _), HE.out.2.2⟩, ln_turn ⟨K, HD.out, rfl⟩ (Below.refl _ _)⟩
  | true =>
    rw [hb] at HH
    have hb2 := hb
    unfold hasB at hb2
    rw [Bool.and_eq_true] at hb2
    obtain ⟨i, hi, hti, hn, hw, hw2, hi1, hi0⟩ := isN_of (isO_of hb2.1).1
    have hnx : (K i).s.nx ≠ 0 := by have := of_decide_eq_true hb2.2; rwa [hti] at this
    have HE := Lib.hid (show ackE own (fun i => (K i).s) n q = Lk.ackE (K i).s q ∧ ackR own (fun i => (K i).s) n q = Lk.ackR (K i).s q ∧ ack own (fun i => (K i).s) n q = updS (fun i => (K i).s) i ((K i).s.ack q) by unfold ackE ackR ack; rw [hb, hti]; exact ⟨rfl, rfl, rfl⟩)
    have HA := Lib.hid (acked_o W (D.lnk hi hnx) q)
    have HI := Lib.hid (And.intro hi (show i ≠ own - 1 by intro e; rw [e, D.self] at hnx; exact hnx rfl))
    clear hb hb2 D hnx hn hti hi hw2
    go_enter Try.func13, Try.ntmps13
    go_wp2_with (first | (go_at_call 36; refine HM.out.mono ?_; rintro e w1 ⟨rfl, rfl⟩) | (go_at_call 43; refine HH.out.mono ?_; rintro e w1 ⟨rfl, rfl⟩) | (go_at_call 44; refine HA.out.mono ?_; rintro e w1 ⟨rfl, hP⟩; have HP := Lib.hid hP; clear hP HA))
    go_ret2
    refine ⟨by (rw [HE.out.1, HE.out.2.1]; try rfl), ?_⟩
    rw [HE.out.2.2]
    exact ack_done HD.out HI.out.1 HI.out.2 HP.out
end
end Ls
end Go.Proofs.Ytifoheodcbjapaa
