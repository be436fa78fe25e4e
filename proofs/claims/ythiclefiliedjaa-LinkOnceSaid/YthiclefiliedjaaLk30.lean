/-
link: what a call on one of two links leaves of their meeting; things that are put into the net.
-/
import Derived.Test.YthiclefiliedjaaLk29
namespace Go.Proofs.Ythiclefiliedjaa
open Go.RowKit
set_option linter.unusedSimpArgs false
set_option linter.unusedVariables false
namespace Lk
section
variable {W w w' : World} {g d1 d2 : Nat} {l1 l2 : LS} {net : List Th} {sent tk : List (List Nat)} {vn vs vt : Value}
theorem Mt.send (h : Mt W w g d1 d2 l1 l2 net sent tk vn vs vt) (Ab : Option Addr) (m cb : Nat) (bs : List Nat) (hm : bs.length = m) (hs : Src w Ab m (u8s bs)) (h256 : ∀ y ∈ bs, y < 256) :
    Calls Try.prog 10 #[.pointer (some ⟨d1, 0, none⟩), .slice Ab m cb] w fun e w' => e = .returned (.tuple #[.int .u64 (sendN l1 m : Nat), .int .i64 (sendE l1 m)]) ∧ Mt W w' g d1 d2 (l1.send bs) l2 net sent tk vn vs vt := by
  obtain ⟨F, G, h1, h2, h3, h4, h5, h6⟩ := h.duo
  refine (send_any w h1 Ab m cb bs hm hs h256).mono ?_
  rintro e w' ⟨rfl, k1, k2⟩
  have hd := duo_turn (F' := F) h2 h3 h4 h5 h6 k1 k2
  exact ⟨rfl, h.turn hd.1 hd.2⟩
theorem Mt.ack (h : Mt W w g d1 d2 l1 l2 net sent tk vn vs vt) (q : Nat) :
    Calls Try.prog 12 #[.pointer (some ⟨d1, 0, none⟩), .int .u64 (q : Nat)] w fun e w' => e = .returned (.tuple #[.int .i64 ((ackR l1 q : Nat) : Int), .int .i64 (ackE l1 q)]) ∧ Mt W w' g d1 d2 (l1.ack q) l2 net sent tk vn vs vt := by
  obtain ⟨F, G, h1, h2, h3, h4, h5, h6⟩ := h.duo
  refine (acked_any w h1 q).mono ?_
  rintro e w' ⟨rfl, k1, k2⟩
  have hd := duo_turn (F' := F) h2 h3 h4 h5 h6 k1 k2
  exact ⟨rfl, h.turn hd.1 hd.2⟩
theorem Mt.take (h : Mt W w g d1 d2 l1 l2 net sent tk vn vs vt) (q : Nat) :
    Calls Try.prog 14 #[.pointer (some ⟨d2, 0, none⟩), .int .u64 (q : Nat)] w fun e w' => e = .returned (.tuple #[.bool (takeE l2 q).1, .int .i64 (takeE l2 q).2]) ∧ Mt W w' g d1 d2 l1 (l2.take q) net sent tk vn vs vt := by
  obtain ⟨F, G, h1, h2, h3, h4, h5, h6⟩ := h.duo.symm
  refine (take_any w h1 q).mono ?_
  rintro e w' ⟨rfl, k1, k2, k3⟩
  have hd := duo_turn (F' := F) h2 h3 h4 h5 h6 (k1.wider (fun k hk => (h1.low k hk).2) h1.base) k2
  exact ⟨rfl, h.turn hd.1.symm hd.2⟩
/-- A row grows, and stands in the meeting's cell i. -/
theorem mt_far {v v' : Value} {w9 : World} (hg : w.grownBy w9 v.ownBlock) (k : Nat) (hk : k < w.heap.size) (hv : some k ≠ v.ownBlock) : w9.heap[k]? = w.heap[k]? := hg.block k hk hv
theorem Mt.links (h : Mt W w g d1 d2 l1 l2 net sent tk vn vs vt) {vn' vs' vt' : Value} (hk : ∀ k, k < w.heap.size → ¬ MP g vn vs vt k → w'.heap[k]? = w.heap[k]?) (hs : w.heap.size ≤ w'.heap.size) (hos : w'.os = w.os ∧ w'.tape = w.tape ∧ w'.output = w.output)
    (hlow : ∀ k, MP g vn vs vt k → W.heap.size ≤ k) (hP : ∀ k, MP g vn' vs' vt' k → k < w'.heap.size ∧ (MP g vn vs vt k ∨ w.heap.size ≤ k)) : Duo W (MP g vn' vs' vt') w' d1 d2 l1 l2 := by
  obtain ⟨F, G, h1, h2, h3, h4, h5, h6⟩ := h.duo
  have kF : ∀ k, F k → w'.heap[k]? = w.heap[k]? := fun k hF => hk k (h1.low k hF).2 (fun hp => (h5 k hp).2 hF)
  have kG : ∀ k, G k → w'.heap[k]? = w.heap[k]? := fun k hG => hk k (h2.low k hG).2 (fun hp => (h6 k hp).2 hG)
  refine ⟨F, G, h1.keep kF hs, h2.keep kG hs, h3, ?_, fun k hp => ?_, fun k hp => ?_⟩
  · exact ⟨hos.1.trans h4.os, hos.2.1.trans h4.tape, hos.2.2.trans h4.output, Nat.le_trans h4.size hs, fun k hkW => (hk k (Nat.lt_of_lt_of_le hkW h4.size) (fun hp => by have := hlow k hp; omega)).trans (h4.block k hkW)⟩
  · refine ⟨(hP k hp).1, fun hF => ?_⟩
    rcases (hP k hp).2 with h | h
    · exact (h5 k h).2 hF
    · have := (h1.low k hF).2; omega
  · refine ⟨(hP k hp).1, fun hG => ?_⟩
    rcases (hP k hp).2 with h | h
    · exact (h6 k h).2 hG
    · have := (h2.low k hG).2; omega
theorem Mt.low (h : Mt W w g d1 d2 l1 l2 net sent tk vn vs vt) : ∀ k, MP g vn vs vt k → W.heap.size ≤ k ∧ k < w.heap.size := by
  rintro k (rfl | e | e | e)
  · exact ⟨h.gl, h.blk.lt⟩
  · exact ⟨(h.on.lt k e).1, (h.on.lt k e).2⟩
  · exact ⟨(h.os.lt k e).1, (h.os.lt k e).2⟩
  · exact ⟨(h.ot.lt k e).1, (h.ot.lt k e).2⟩
end
end Lk
end Go.Proofs.Ythiclefiliedjaa
