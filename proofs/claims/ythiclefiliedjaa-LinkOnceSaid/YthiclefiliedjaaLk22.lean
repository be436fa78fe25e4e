/-
link: the document's link: Send, Ack, Take.
-/
import Derived.Test.YthiclefiliedjaaLk21
namespace Go.Proofs.Ythiclefiliedjaa
open Go.RowKit
set_option linter.unusedSimpArgs false
set_option linter.unusedVariables false
namespace Lk
/-- The document's link: all texts, how many were acknowledged, how many taken. -/
structure RS where
  all : List (List Nat)
  a : Nat
  t : Nat
def RS.ls (s : RS) : LS := ⟨s.all.length + 1, s.t + 1, s.all.drop s.a⟩
def strs (l : List (List Nat)) : List Value := l.map fun b => .string (Byt.bstr b)
theorem strs_one (l : List (List Nat)) : ∀ u ∈ strs l, u.oneCell' = true := by
  intro u hu
  obtain ⟨x, _, rfl⟩ := List.mem_map.1 hu
  rfl
theorem strs_app (a b : List (List Nat)) : strs (a ++ b) = strs a ++ strs b := by simp [strs]
structure Rf (w : World) (B r : Nat) (s : RS) (v : Value) : Prop where
  rl : B ≤ r ∧ r < w.heap.size
  blk : Blk w r 28 #[v, .int .i64 (s.a : Nat), .int .i64 (s.t : Nat)]
  own : w.ownsRow B 9 1 v s.all.length (strs s.all)
  al : s.a ≤ s.all.length
  ok : ∀ b ∈ s.all, (∀ y ∈ b, y < 256) ∧ 1 ≤ b.length ∧ b.length ≤ 1800
  le : s.all.length ≤ 300 ∧ s.t ≤ 300
/-- What a call on the document's link leaves. -/
def RTurn (B r : Nat) (v v' : Value) (w w' : World) : Prop :=
  Below B w w' ∧ (∀ k, k < w.heap.size → k ≠ r → some k ≠ v.ownBlock → w'.heap[k]? = w.heap[k]?) ∧ (v'.ownBlock = v.ownBlock ∨ ∃ k, v'.ownBlock = some k ∧ w.heap.size ≤ k)
section
variable {w w' : World} {B r : Nat} {s : RS} {v : Value}
theorem Rf.base (h : Rf w B r s v) : B ≤ w.heap.size := by have := h.rl; omega
theorem Rf.vr (h : Rf w B r s v) : some r ≠ v.ownBlock := by
  intro e
  obtain ⟨hl, ⟨rfl, hz⟩ | ⟨g, cap, cur, rfl, hg, hh, _⟩⟩ := h.own
  · simp [Value.ownBlock] at e
  · simp [Value.ownBlock] at e
    subst e
    have := h.blk
    unfold Blk at this
    rw [this] at hh
    simp only [Option.some.injEq, Obj.cells.injEq] at hh
    exact absurd hh.2.1 (by decide)
theorem Rf.keep (h : Rf w B r s v) (hr : w'.heap[r]? = w.heap[r]?) (hv : ∀ k, v.ownBlock = some k → w'.heap[k]? = w.heap[k]?) (hs : w.heap.size ≤ w'.heap.size) : Rf w' B r s v :=
  ⟨⟨h.rl.1, by have := h.rl; omega⟩, hr.trans h.blk, ownG_keep h.own hv, h.al, h.ok, h.le⟩
theorem Rf.vlt (h : Rf w B r s v) {k : Nat} (hk : v.ownBlock = some k) : k < w.heap.size := (h.own.lt k hk).2
theorem Rf.next (h : Rf w B r s v) (hb : Below w.heap.size w w') : Rf w' B r s v := h.keep (hb.block r h.rl.2) (fun k hk => hb.block k (h.vlt hk)) hb.size
theorem RTurn.same (h : Rf w B r s v) : RTurn B r v v w w := ⟨Below.refl _ _, fun _ _ _ _ => rfl, Or.inl rfl⟩
theorem Rf.vs (h : Rf w B r s v) : ∃ A c, v = .slice A s.all.length c := by
  obtain ⟨hl, ⟨rfl, hz⟩ | ⟨g, cap, cur, rfl, hg, hh, _⟩⟩ := h.own
  · exact ⟨none, 0, by rw [hz]⟩
  · exact ⟨_, cap, rfl⟩
/-- One of its numbers is stored. -/
theorem Rf.set (h : Rf w B r s v) (i : Nat) (x : Value) (s' : RS) (hc : #[v, .int .i64 (s.a : Nat), .int .i64 (s.t : Nat)].setIfInBounds i x = #[v, .int .i64 (s'.a : Nat), .int .i64 (s'.t : Nat)]) (hall : s'.all = s.all) (ha : s'.a ≤ s.all.length) (ht : s'.t ≤ 300) :
    Rf (w.setCell ⟨r, i, none⟩ x) B r s' v ∧ RTurn B r v v w (w.setCell ⟨r, i, none⟩ x) := by
  have far : ∀ k, k ≠ r → (w.setCell ⟨r, i, none⟩ x).heap[k]? = w.heap[k]? := fun k hk => Below.heap_setCell w ⟨r, i, none⟩ _ k hk
  have hsz : (w.setCell ⟨r, i, none⟩ x).heap.size = w.heap.size := by simp [World.setCell]
  have hb := h.blk.setCell i x
  rw [hc] at hb
  have hvr := h.vr
  refine ⟨⟨⟨h.rl.1, by rw [hsz]; exact h.rl.2⟩, hb, ?_, by rw [hall]; exact ha, by rw [hall]; exact h.ok, by rw [hall]; exact ⟨h.le.1, ht⟩⟩, (Below.refl B w).setCell (p := ⟨r, i, none⟩) h.rl.1 _, fun k _ hk _ => far k hk, Or.inl rfl⟩
  rw [hall]
  exact ownG_keep h.own (fun k hk => far k (fun e => hvr (by rw [← e]; exact hk.symm)))
end
section
variable (w : World) {B r : Nat} {s : RS} {v : Value}
set_option maxRecDepth 20000 in
theorem rtake_any (h : Rf w B r s v) (q : Nat) (hq : q < 18446744073709551616) (ht : s.t < 300) : Calls Try.prog 15 #[.pointer (some ⟨r, 0, none⟩), .int .u64 (q : Nat)] w fun e w' =>
    e = .returned (.tuple #[.bool (takeE s.ls q).1, .int .i64 (takeE s.ls q).2]) ∧ ∃ s', s'.ls = s.ls.take q ∧ s'.all.length ≤ s.all.length + 1 ∧ s'.t ≤ s.t + 1 ∧ Rf w' B r s' v ∧ RTurn B r v v w w' := by
  have HR := Lib.hid h
  have c2 : w.cell? ⟨r, 2, none⟩ = some (.int .i64 (s.t : Nat)) := h.blk.cell 2
  have z2 := h.blk.frozen 2
  have e1 : IntKind.u64.wrap (s.t : Int) = (s.t : Nat) := by rw [IntKind.wrap_u64]; omega
  have e2 : IntKind.u64.wrap ((s.t : Int) + 1) = ((s.t + 1 : Nat) : Int) := by clear e1; rw [IntKind.wrap_u64]; omega
  have e3 : IntKind.i64.wrap ((s.t : Int) + 1) = ((s.t + 1 : Nat) : Int) := by clear e1 e2; rw [IntKind.wrap_i64]; omega
  have E1 := Lib.hid e1
  have E2 := Lib.hid e2
  have E3 := Lib.hid e3
  have HT := Lib.hid ht
  clear e1 e2 e3 h ht
  have hnx : s.ls.ex = s.t + 1 := rfl
  by_cases h2 : s.t + 1 < q
  · have HE := Lib.hid (show takeE s.ls q = (false, 14) by unfold takeE; rw [hnx, if_neg (by omega), if_pos h2])
    have HS := Lib.hid (show s.ls.take q = s.ls by unfold LS.take; rw [HE.out, if_neg (by decide)])
    have g1 : ((s.t + 1 : Nat) : Int) < (q : Nat) := by omega
    clear h2 hnx z2
    have e1 := E1.out
    have e2 := E2.out
    go_enter Try.func15, Try.ntmps15
    go_wp2_with fail
    go_ret2
    exact ⟨by (rw [HE.out]; try rfl), s, HS.out.symm, by omega, by omega, HR.out, RTurn.same HR.out⟩
  by_cases h1 : q ≤ s.t
  · have HE := Lib.hid (show takeE s.ls q = (false, 0) by unfold takeE; rw [hnx, if_pos (by omega)])
    have HS := Lib.hid (show s.ls.take q = s.ls by unfold LS.take; rw [HE.out, if_neg (by decide)])
    have g1 : ¬ ((s.t + 1 : Nat) : Int) < (q : Nat) := by omega
    have g2 : (q : Int) ≤ (s.t : Nat) := by omega
    clear h2 h1 hnx z2
    have e1 := E1.out
    have e2 := E2.out
    go_enter Try.func15, Try.ntmps15
    go_wp2_with fail
    go_ret2
    exact ⟨by (rw [HE.out]; try rfl), s, HS.out.symm, by omega, by omega, HR.out, RTurn.same HR.out⟩
  · have hqe : q = s.t + 1 := by omega
    have HE := Lib.hid (show takeE s.ls q = (true, 0) by unfold takeE; have := HT.out; rw [hnx, if_neg (by omega), if_neg (by omega), if_neg (by omega)])
    have HS := Lib.hid (show s.ls.take q = ⟨s.all.length + 1, s.t + 1 + 1, s.all.drop s.a⟩ by unfold LS.take; rw [HE.out, if_pos rfl]; rfl)
    have g1 : ¬ ((s.t + 1 : Nat) : Int) < (q : Nat) := by omega
    have g2 : ¬ (q : Int) ≤ (s.t : Nat) := by omega
    clear h2 h1 hnx hqe
    have e1 := E1.out
    have e2 := E2.out
    have e3 := E3.out
    go_enter Try.func15, Try.ntmps15
    go_wp2_with fail
    clear e1 e2 e3
    go_ret2
    have hset := HR.out.set 2 (.int .i64 ((s.t + 1 : Nat) : Int)) ⟨s.all, s.a, s.t + 1⟩ rfl rfl HR.out.al (by have := HT.out; show s.t + 1 ≤ 300; omega)
    refine ⟨by (rw [HE.out]; try rfl), ⟨s.all, s.a, s.t + 1⟩, HS.out.symm, by show s.all.length ≤ _; omega, Nat.le_refl _, ?_, ?_⟩
    · first | exact hset.1 | (rw [E3.out]; exact hset.1)
    · first | exact hset.2 | (rw [E3.out]; exact hset.2)
set_option maxRecDepth 20000 in
theorem rack_any (h : Rf w B r s v) (q : Nat) : Calls Try.prog 13 #[.pointer (some ⟨r, 0, none⟩), .int .u64 (q : Nat)] w fun e w' =>
    e = .returned (.tuple #[.int .i64 ((ackR s.ls q : Nat) : Int), .int .i64 (ackE s.ls q)]) ∧ ∃ s', s'.ls = s.ls.ack q ∧ s'.all.length ≤ s.all.length + 1 ∧ s'.t ≤ s.t + 1 ∧ Rf w' B r s' v ∧ RTurn B r v v w w' := by
  have HR := Lib.hid h
  obtain ⟨A, c, rfl⟩ := h.vs
  have c0 : w.cell? ⟨r, 0, none⟩ = some (.slice A s.all.length c) := h.blk.cell 0
  have c1 : w.cell? ⟨r, 1, none⟩ = some (.int .i64 (s.a : Nat)) := h.blk.cell 1
  have z1 := h.blk.frozen 1
  obtain ⟨n, hn⟩ : ∃ n, n = s.all.length := ⟨_, rfl⟩
  have HN := Lib.hid hn
  have HA := Lib.hid (show s.a ≤ n ∧ n ≤ 300 by rw [hn]; exact ⟨h.al, h.le.1⟩)
  have HX := Lib.hid (show s.ls.nx = n + 1 ∧ s.ls.ts.length = n - s.a by rw [hn]; exact ⟨rfl, List.length_drop⟩)
  rw [← hn] at c0
  have e1 : IntKind.u64.wrap (n : Int) = (n : Nat) := by have := HA.out; rw [IntKind.wrap_u64]; omega
  have E1 := Lib.hid e1
  clear h hn e1
  by_cases h2 : n < q
  · have HE := Lib.hid (show ackE s.ls q = 14 ∧ ackR s.ls q = 0 by unfold ackE ackR; rw [HX.out.1, if_pos (by omega), if_pos (by omega)]; exact ⟨rfl, rfl⟩)
    have HS := Lib.hid (show s.ls.ack q = s.ls by unfold LS.ack; rw [HX.out.1, if_pos (by omega)])
    have g1 : (n : Int) < (q : Nat) := by omega
    clear h2 z1
    have e1 := E1.out
    go_enter Try.func13, Try.ntmps13
    go_wp2_with fail
    go_ret2
    exact ⟨by (rw [HE.out.1, HE.out.2]; try rfl), s, HS.out.symm, by omega, by omega, HR.out, RTurn.same HR.out⟩
  · have g1 : ¬ (n : Int) < (q : Nat) := by omega
    have e2 : IntKind.i64.wrap (q : Int) = (q : Nat) := by have := HA.out; rw [IntKind.wrap_i64]; omega
    have E2 := Lib.hid e2
    clear e2
    by_cases h1 : q ≤ s.a
    · have HE := Lib.hid (show ackE s.ls q = 0 ∧ ackR s.ls q = 0 by unfold ackE ackR ackN; rw [HX.out.1, HX.out.2, if_neg (by omega), if_neg (by omega)]; have := HA.out; exact ⟨rfl, by omega⟩)
      have HS := Lib.hid (show s.ls.ack q = s.ls by
        unfold LS.ack ackN
        rw [HX.out.1, HX.out.2, if_neg (by omega), show q + 1 + (n - s.a) - (n + 1) = 0 by have := HA.out; omega, List.drop_zero, ← HX.out.1])
      obtain ⟨z, hz⟩ : ∃ z : Int, z = (q : Int) - (s.a : Int) := ⟨_, rfl⟩
      have e3 : IntKind.i64.wrap ((q : Int) - (s.a : Int)) = z := by have := HA.out; rw [IntKind.wrap_i64]; omega
      have e4 : wrap64 ((q : Int) - (s.a : Int)) = z := by clear e3; have := HA.out; unfold wrap64; omega
      have g3 : z < 1 := by clear e3 e4; omega
      clear h2 h1 z1 hz
      have e1 := E1.out
      have e2 := E2.out
      go_enter Try.func13, Try.ntmps13
      go_wp2_with fail
      clear e1 e2 e3 e4
      go_ret2
      exact ⟨by (rw [HE.out.1, HE.out.2]; try rfl), s, HS.out.symm, by omega, by omega, HR.out, RTurn.same HR.out⟩
    · obtain ⟨z, hz⟩ : ∃ z : Nat, z = q - s.a := ⟨_, rfl⟩
      have HE := Lib.hid (show ackE s.ls q = 0 ∧ ackR s.ls q = z by unfold ackE ackR ackN; rw [HX.out.1, HX.out.2, if_neg (by omega), if_neg (by omega)]; have := HA.out; exact ⟨rfl, by omega⟩)
      have HS := Lib.hid (show s.ls.ack q = ⟨s.all.length + 1, s.t + 1, s.all.drop q⟩ by
        unfold LS.ack ackN
        rw [HX.out.1, HX.out.2, if_neg (by omega), ← HN.out, show q + 1 + (n - s.a) - (n + 1) = q - s.a by have := HA.out; omega]
        show (⟨n + 1, s.t + 1, (s.all.drop s.a).drop (q - s.a)⟩ : LS) = _
        rw [List.drop_drop, show s.a + (q - s.a) = q by omega])
      have e3 : IntKind.i64.wrap ((q : Int) - (s.a : Int)) = (z : Nat) := by have := HA.out; rw [IntKind.wrap_i64]; omega
      have e4 : wrap64 ((q : Int) - (s.a : Int)) = (z : Nat) := by clear e3; have := HA.out; unfold wrap64; omega
      have g3 : ¬ (z : Int) < 1 := by clear e3 e4; omega
      have HQ := Lib.hid (show q ≤ s.all.length by rw [← HN.out]; omega)
      clear h2 h1 hz
      have e1 := E1.out
      have e2 := E2.out
      go_enter Try.func13, Try.ntmps13
      go_wp2_with fail
      clear e1 e2 e3 e4
      go_ret2
      have hset := HR.out.set 1 (.int .i64 (q : Nat)) ⟨s.all, q, s.t⟩ rfl rfl HQ.out HR.out.le.2
      refine ⟨by (rw [HE.out.1, HE.out.2]; try rfl), ⟨s.all, q, s.t⟩, HS.out.symm, by show s.all.length ≤ _; omega, by show s.t ≤ _; omega, ?_, ?_⟩
      · first | exact hset.1 | (rw [E2.out]; exact hset.1)
      · first | exact hset.2 | (rw [E2.out]; exact hset.2)
end
end Lk
end Go.Proofs.Ythiclefiliedjaa
