/-
links: links that a law made; the fixed calls of the statements.
-/
import Derived.Test.YtifoheodcbjapaaLs10
namespace Go.Proofs.Ytifoheodcbjapaa
open Go.RowKit
set_option linter.unusedSimpArgs false
set_option linter.unusedVariables false
namespace Ls
open Lk
theorem lit_src {w : World} {bs : List Nat} {C : Array Value} {z : Nat × Nat} (h : C = (u8s bs).toArray) : Src (w.alloc (.cells C 5 z)) (some ⟨w.heap.size, 0, none⟩) bs.length (u8s bs) := by
  refine Or.inl ⟨_, rfl, fun j u hj => ?_⟩
  have hh := heap_alloc_new w (Obj.cells C 5 z)
  rw [add_plain, Nat.zero_add, cell_of_row _ w.heap.size _ _ _ _ hh, h, List.getElem?_toArray]
  exact hj
theorem lit_byr {w : World} {bs : List Nat} {C : Array Value} {z : Nat × Nat} (h : C = (u8s bs).toArray) : Byt.ByR (w.alloc (.cells C 5 z)) (some ⟨w.heap.size, 0, none⟩) bs := by
  refine Or.inr ⟨w.heap.size, 0, rfl, by simp, fun i x hx => ?_⟩
  have hh := heap_alloc_new w (Obj.cells C 5 z)
  rw [cell_of_row _ w.heap.size _ _ _ _ hh, h, List.getElem?_toArray, Nat.zero_add]
  unfold u8s
  rw [List.getElem?_map, hx]; rfl
/-- Links that a law made; all below is as it was; P's blocks are not their own. -/
def AN (W : World) (P : Nat → Prop) (w : World) (d own : Nat) (S : Nat → LS) : Prop := ∃ F, LN w W.heap.size d F own S ∧ Below W.heap.size W w ∧ Prot P F w ∧ Any S
theorem Kept.trans {P : Nat → Prop} {a b c : World} (h : Kept P a b) (k : Kept P b c) : Kept P a c := fun i hi => (k i hi).trans (h i hi)
theorem Kept.sub {P Q : Nat → Prop} {a b : World} (h : Kept P a b) (hq : ∀ k, Q k → P k) : Kept Q a b := fun i hi => h i (hq i hi)
section
variable {W w w' : World} {P Q : Nat → Prop} {d own : Nat} {S : Nat → LS}
theorem AN.next (h : AN W P w d own S) (hb : Below w.heap.size w w') : AN W P w' d own S := by
  obtain ⟨F, hK, hB, hP, hA⟩ := h
  exact ⟨F, hK.next hb, hB.trans (hb.mono hB.size), hP.next hb, hA⟩
theorem AN.b (h : AN W P w d own S) : Below W.heap.size W w := by obtain ⟨F, hK, hB, hP, hA⟩ := h; exact hB
theorem AN.any (h : AN W P w d own S) : Any S := by obtain ⟨F, hK, hB, hP, hA⟩ := h; exact hA
theorem AN.ok (h : AN W P w d own S) : NOk own S := by obtain ⟨F, hK, hB, hP, hA⟩ := h; exact hK.ok
theorem AN.more (h : AN W P w d own S) (hb : Below w.heap.size w w') : AN W (fun k => P k ∨ (w.heap.size ≤ k ∧ k < w'.heap.size)) w' d own S := by
  obtain ⟨F, hK, hB, hP, hA⟩ := h
  refine ⟨F, hK.next hb, hB.trans (hb.mono hB.size), ?_, hA⟩
  rintro k (hk | hk)
  · exact hP.next hb k hk
  · exact ⟨hk.2, fun hF => by have := hK.low k hF; omega⟩
theorem AN.sub (h : AN W P w d own S) (hq : ∀ k, Q k → P k) : AN W Q w d own S := by
  obtain ⟨F, hK, hB, hP, hA⟩ := h
  exact ⟨F, hK, hB, fun k hk => hP k (hq k hk), hA⟩
theorem AN.kept (h : AN W P w d own S) (hb : Below w.heap.size w w') : Kept P w w' := by
  obtain ⟨F, hK, hB, hP, hA⟩ := h
  exact fun k hk => hb.block k (hP k hk).1
theorem an_new (W w : World) (hb : Below W.heap.size W w) (n : Nat) (h1 : 1 ≤ n) (h2 : n ≤ 12) (P : Nat → Prop) (hP : ∀ k, P k → k < w.heap.size) : Calls Try.prog 6 #[.int .i64 (n : Nat)] w fun e w' => e = .returned (.tuple #[.pointer (some ⟨w.heap.size, 0, none⟩), .int .i64 0]) ∧ AN W P w' w.heap.size n S0 ∧ Below w.heap.size w w' := by
  refine (new_yes w n h1 h2).mono ?_
  rintro e w' ⟨rfl, h, hb2, hz⟩
  refine ⟨rfl, ⟨_, h.re (fun k hk => hk) (fun k hk => ⟨by rw [hk]; exact hb.size, (h.low k hk).2⟩), hb.trans (hb2.mono hb.size), ?_, any_zero⟩, hb2⟩
  intro k hk
  have := hP k hk
  exact ⟨by omega, fun e => by omega⟩
theorem an_send (h : AN W P w d own S) (n : Int) (Ab : Option Addr) (m cb : Nat) (bs : List Nat) (hm : bs.length = m) (hs : Src w Ab m (u8s bs)) (h256 : ∀ y ∈ bs, y < 256) :
    Calls Try.prog 11 #[.pointer (some ⟨d, 0, none⟩), .int .i64 n, .slice Ab m cb] w fun e w' => e = .returned (.tuple #[.int .u64 (sendN own S n m : Nat), .int .i64 (sendE own S n m)]) ∧ AN W P w' d own (send own S n bs) ∧ Kept P w w' := by
  obtain ⟨F, hK, hB, hP, hA⟩ := h
  refine (send_any w hK n Ab m cb bs hm hs h256).mono ?_
  rintro e w' ⟨rfl, h1, h2⟩
  exact ⟨rfl, ⟨_, h1, hB.trans h2.1, h2.prot hP, any_send hA _ _⟩, h2.kept hP⟩
theorem an_acked (h : AN W P w d own S) (n : Int) (q : Nat) :
    Calls Try.prog 13 #[.pointer (some ⟨d, 0, none⟩), .int .i64 n, .int .u64 (q : Nat)] w fun e w' => e = .returned (.tuple #[.int .i64 ((ackR own S n q : Nat) : Int), .int .i64 (ackE own S n q)]) ∧ AN W P w' d own (ack own S n q) ∧ Kept P w w' := by
  obtain ⟨F, hK, hB, hP, hA⟩ := h
  refine (acked_any w hK n q).mono ?_
  rintro e w' ⟨rfl, h1, h2⟩
  exact ⟨rfl, ⟨_, h1, hB.trans h2.1, h2.prot hP, any_ack hA _ _⟩, h2.kept hP⟩
/-- What Hear gives of links that a law made. -/
def AHear (W w w' : World) (P : Nat → Prop) (d own : Nat) (S : Nat → LS) (p : Pk.Pt) (e : Ending) : Prop :=
  ∃ v, e = .returned (.tuple #[v, .bool (hearB own S p), .int .i64 (hearE own S p)]) ∧ (hearB own S p = true → w'.ownsRow w.heap.size 5 1 v p.bs.length (u8s p.bs)) ∧ (hearB own S p = false → v = .slice none 0 0) ∧
    AN W (fun k => P k ∨ v.ownBlock = some k) w' d own (hear own S p) ∧ Kept P w w'
theorem an_hear (h : AN W P w d own S) (x : Pk.Pc) (ho : x.Ok w) :
    Calls Try.prog 12 #[.pointer (some ⟨d, 0, none⟩), .agg x.cells.toArray] w fun e w' => AHear W w w' P d own S x.p e := by
  obtain ⟨F, hK, hB, hP, hA⟩ := h
  refine (hear_any w hK x ho).mono ?_
  rintro e w' ⟨v, G, rfl, h1, h2, hG, hv, hL, ht⟩
  refine ⟨v, rfl, h1, h2, ⟨G, hL, hB.trans ht.1, ?_, any_hear hK.ok hA _⟩, ht.kept hP⟩
  rintro k (hk | hk)
  · have := hP k hk
    refine ⟨Nat.lt_of_lt_of_le this.1 ht.1.size, fun hg => ?_⟩
    rcases hG k hg with hF | hF
    · exact this.2 hF
    · have := this.1; omega
  · refine ⟨?_, hv k hk⟩
    cases hb : hearB own S x.p with
    | true => exact ((h1 hb).lt k hk).2
    | false => rw [h2 hb] at hk; simp [Value.ownBlock] at hk
theorem an_queue (h : AN W P w d own S) (n : Int) : Calls Try.prog 18 #[.pointer (some ⟨d, 0, none⟩), .int .i64 n] w fun e w' => QueueP (qS own S n) w e w' := by
  obtain ⟨F, hK, _⟩ := h; exact queue_any w hK n
theorem an_room (h : AN W P w d own S) (n : Int) : Calls Try.prog 19 #[.pointer (some ⟨d, 0, none⟩), .int .i64 n] w fun e w' => e = .returned (.int .i64 (roomE own S n : Nat)) ∧ Below w.heap.size w w' := by
  obtain ⟨F, hK, _⟩ := h; exact room_any w hK n
theorem an_peers (h : AN W P w d own S) : Calls Try.prog 16 #[.pointer (some ⟨d, 0, none⟩)] w fun e w' => ∃ v', e = .returned v' ∧ Nd.Nds w' w.heap.size v' (peersL own S) ∧ Below w.heap.size w w' := by
  obtain ⟨F, hK, _⟩ := h; exact peers_any w hK
theorem an_ack (h : AN W P w d own S) (n : Int) : Calls Try.prog 14 #[.pointer (some ⟨d, 0, none⟩), .int .i64 n] w fun e w' => e = .returned (.tuple #[.agg (Pk.Pc.mk (ackP own S n) none 0).cells.toArray, .bool (ackB own S n)]) ∧ Below w.heap.size w w' := by
  obtain ⟨F, hK, _⟩ := h; exact ack_any w hK n
theorem an_packets (h : AN W P w d own S) : Calls Try.prog 17 #[.pointer (some ⟨d, 0, none⟩)] w fun e w' => PacketsP own S w e w' := by
  obtain ⟨F, hK, _⟩ := h; exact packets_any w hK
theorem an_save (h : AN W P w d own S) : Calls Try.prog 20 #[.pointer (some ⟨d, 0, none⟩)] w fun e w' => e = .returned (.string (Byt.bstr (encLS own S))) ∧ Below w.heap.size w w' := by
  obtain ⟨F, hK, _⟩ := h; exact save_any w hK
/-- Links' bytes, as a law reads them. -/
theorem str_load (w : World) {own : Nat} {S : Nat → LS} (h : NOk own S) (hA : Any S) (v : Value) (w' : World) (hc : (convert 9 38 (.string (Byt.bstr (encLS own S)))).run Try.prog w = .ok v w') :
    Below w.heap.size w w' ∧ Calls Try.prog 22 #[v] w' fun e w2 => ∃ d F, e = .returned (.pointer (some ⟨d, 0, none⟩)) ∧ LN w2 w'.heap.size d F own S ∧ Below w'.heap.size w' w2 := by
  rw [Sx.str_bytes w (encLS own S) (encLS own S).length rfl] at hc
  injection hc with h1 h2
  subst h1 h2
  refine ⟨(Below.refl _ _).drew.alloc (Nat.le_refl _) _, ?_⟩
  exact load_yes (some ⟨w.heap.size, 0, none⟩) (encLS own S).length (Sx.capS (encLS own S) w) _ (encLS own S) rfl (by unfold Sx.capS; rw [Byt.bstr_size]; exact grownCap_ge _ _ _ _) (by have := h.elen; omega) h.h256 (Sx.objS_byr w (encLS own S) h.h256) (links_yes h hA)
end
def s1 : Nat → LS := updS S0 1 ⟨2, 1, [[120]]⟩
def s2 : Nat → LS := updS s1 2 ⟨1, 2, []⟩
def s3 : Nat → LS := updS s2 1 ⟨2, 1, []⟩
theorem f1 : sendN 1 S0 2 1 = 1 ∧ sendE 1 S0 2 1 = 0 ∧ send 1 S0 2 [120] = s1 := ⟨rfl, rfl, rfl⟩
theorem f2 : sendN 1 s1 1 1 = 0 ∧ sendE 1 s1 1 1 = 11 ∧ send 1 s1 1 [120] = s1 := ⟨rfl, rfl, rfl⟩
theorem f3 : pkts 1 s1 = [⟨false, 1, 2, 1, [120]⟩] := by kernel_rfl
theorem f4 : hearB 1 s1 ⟨false, 3, 1, 1, [121]⟩ = true ∧ hearE 1 s1 ⟨false, 3, 1, 1, [121]⟩ = 0 ∧ hear 1 s1 ⟨false, 3, 1, 1, [121]⟩ = s2 := ⟨rfl, rfl, rfl⟩
theorem f5 : ackB 1 s2 3 = true ∧ ackP 1 s2 3 = ⟨true, 1, 3, 1, []⟩ ∧ (Pk.Pc.mk (ackP 1 s2 2) none 0).cells.toArray = zpc ∧ ackB 1 s2 2 = false := ⟨rfl, rfl, rfl, rfl⟩
theorem f6 : hearB 1 s2 ⟨true, 2, 1, 1, []⟩ = false ∧ hearE 1 s2 ⟨true, 2, 1, 1, []⟩ = 0 ∧ hear 1 s2 ⟨true, 2, 1, 1, []⟩ = s3 := ⟨rfl, rfl, rfl⟩
theorem f7 : peersL 1 s3 = [2, 3] ∧ pkts 1 s3 = [] ∧ roomE 1 s3 2 = 250 := ⟨by decide, by kernel_rfl, by decide⟩
end Ls
end Go.Proofs.Ytifoheodcbjapaa
