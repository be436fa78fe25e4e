/-
link: the document's numbers and texts.
link: the document's link: Send, Ack, Take.
link: the document's link: Send.
link: the document's link: Put.
-/
import Derived.Test.YtifoheodcbjapaaLs13
namespace Go.Proofs.Ytifoheodcbjapaa
open Go.RowKit
set_option linter.unusedSimpArgs false
set_option linter.unusedVariables false
/-- A call made this row of bytes, and left what was there. -/
def Made (W W' : World) (v : Value) (bs : List Nat) : Prop := W'.ownsRow W.heap.size 5 1 v bs.length (u8s bs) ∧ Below W.heap.size W W'
theorem src_own {W : World} {B : Nat} {v : Value} {bs : List Nat} (h : W.ownsRow B 5 1 v bs.length (u8s bs)) : ∃ A c, v = .slice A bs.length c ∧ Src W A bs.length (u8s bs) := by
  obtain ⟨hl, ⟨rfl, h0⟩ | ⟨k, cap, cur, rfl, hk, hh, hnc, hm, hsz, hcs⟩⟩ := id h
  · have hb0 : bs = [] := List.length_eq_zero_iff.1 h0
    subst hb0
    exact ⟨none, 0, rfl, Or.inr ⟨rfl, rfl, rfl⟩⟩
  · exact ⟨_, _, rfl, Or.inl ⟨_, rfl, h.cells rfl⟩⟩
theorem grown_below {B : Nat} {W W' : World} {v : Value} {n : Nat} {xs : List Value} (hown : W.ownsRow B 5 1 v n xs) (hg : W.grownBy W' v.ownBlock) (hB : B ≤ W.heap.size) : Below B W W' :=
  ⟨hg.os, hg.tape, hg.output, hg.size, fun k hk => hg.block k (by omega) (row_low hown hk)⟩
theorem own_le {W : World} {B B' : Nat} {v : Value} {n : Nat} {xs : List Value} (h : W.ownsRow B 5 1 v n xs) (hB : B' ≤ B) : W.ownsRow B' 5 1 v n xs := by
  obtain ⟨hl, h⟩ := h
  refine ⟨hl, h.imp id ?_⟩
  rintro ⟨g, cap, cur, e, hg, r⟩
  exact ⟨g, cap, cur, e, Nat.le_trans hB hg, r⟩
theorem own_next {W W' : World} {B : Nat} {v : Value} {n : Nat} {xs : List Value} (h : W.ownsRow B 5 1 v n xs) (hb : Below W.heap.size W W') (_hB : B ≤ W.heap.size) : W'.ownsRow B 5 1 v n xs := by
  obtain ⟨hl, h⟩ := h
  refine ⟨hl, h.imp id ?_⟩
  rintro ⟨g, cap, cur, e, hg, hh, r⟩
  refine ⟨g, cap, cur, e, hg, (hb.block g ?_).trans hh, r⟩
  rcases Nat.lt_or_ge g W.heap.size with h1 | h1
  · exact h1
  · rw [Array.getElem?_eq_none h1] at hh; cases hh
theorem own_one {W : World} {B : Nat} (c : Nat) (hB : B ≤ W.heap.size) : (W.alloc (.cells #[.int .u8 (c : Nat)] 5)).ownsRow B 5 1 (.slice (some ⟨W.heap.size, 0, none⟩) 1 1) 1 (u8s [c]) :=
  ⟨rfl, Or.inr ⟨_, 1, _, rfl, hB, heap_alloc_new W _, Nat.le_refl _, by simp [maxLen], rfl, rfl⟩⟩

set_option maxHeartbeats 1000000 in
theorem rfnum_any (n : Nat) (W : World) (hn : n < 18446744073709551616) :
    Calls Try.prog 59 #[.int .u64 (n : Nat)] W fun e W' => ∃ v, e = .returned v ∧ Made W W' v (enc n) := by
  have e1 : IntKind.u8.wrap ((n : Int) % 128) = ((n % 128 : Nat) : Int) := by rw [IntKind.wrap_u8]; omega
  have e2 : IntKind.u64.wrap ((n : Int) / 128) = ((n / 128 : Nat) : Int) := by rw [IntKind.wrap_u64]; omega
  have HN := Lib.hid hn
  have HL := Lib.hid (enc_len n hn)
  have HO := Lib.hid (own_one (W := W) (B := W.heap.size) (n % 128) (Nat.le_refl _))
  clear hn
  go_enter Try.func59, Try.ntmps59
  go_wp2_with fail
  go_loopw [0, 3] (fun nv ov wr => ∃ (cur : Nat) (ds : List Nat), nv = .int .u64 (cur : Nat) ∧ Hid (cur < 18446744073709551616 ∧ encHi cur ++ ds = enc n) ∧ Made W wr ov ds) (fun nv _ _ => (intOf nv).toNat)
  case atStart =>
    refine ⟨n / 128, [n % 128], ?_, Lib.hid ⟨?_, ?_⟩, ?_⟩
    · go_num
    · have := HN.out; omega
    · unfold enc; rfl
    · exact ⟨by simpa using HO.out, (Below.refl _ W).alloc (Nat.le_refl _) _⟩
  case round =>
    clear e1 e2 HO
    obtain ⟨cur, ds, rfl, HP, hM⟩ := hrel
    obtain ⟨A, c, rfl, hS⟩ := src_own hM.1
    have HM := Lib.hid hM
    clear hM
    by_cases hc : 0 < cur
    · have hc' : (0 : Int) < (cur : Int) := by omega
      have hcur := HP.out.1
      have e4 : IntKind.u64.wrap (128 + (cur : Int) % 128) = ((cur % 128 + 128 : Nat) : Int) := by rw [IntKind.wrap_u64]; omega
      have e5 : IntKind.u8.wrap ((cur % 128 + 128 : Nat) : Int) = ((cur % 128 + 128 : Nat) : Int) := by rw [IntKind.wrap_u8]; omega
      have e3 : IntKind.u64.wrap ((cur : Int) / 128) = ((cur / 128 : Nat) : Int) := by rw [IntKind.wrap_u64]; omega
      have hds : ds.length ≤ 10 := by
        have h1 := HL.out
        rw [← HP.out.2, List.length_append] at h1; omega
      have HO := Lib.hid (own_one (W := wr) (B := W.heap.size) (cur % 128 + 128) HM.out.2.size)
      have HS := Lib.hid (hS.below ((Below.refl _ wr).alloc (Nat.le_refl _) (.cells #[.int .u8 ((cur % 128 + 128 : Nat) : Int)] 5)))
      have HC := Lib.hid hc
      have HDS := Lib.hid hds
      have HZ := Lib.hid HM.out.2.size
      clear hc hS hcur hds hc'
      obtain ⟨x, hx⟩ : ∃ x, x = cur % 128 + 128 := ⟨_, rfl⟩
      rw [← hx] at e4 e5 HO HS
      have hc' : (0 : Int) < (cur : Int) := by have := HC.out; omega
      have HX := Lib.hid hx
      clear hx
      go_wp2_with (first | (refine wpList_append_u8 _ rfl _ _ rfl W.heap.size _ 1 (u8s [x]) rfl HO.out A ds.length c (u8s ds) rfl (u8s_len _) HS.out (u8s_one ds) (by have := HDS.out; omega) (by have := HZ.out; simp; omega) ?_; intro v' W1 hown1 hgrow _; have HG := Lib.hid hgrow; clear hgrow))
      refine ⟨⟨cur / 128, x :: ds, rfl, Lib.hid ⟨by have := HP.out.1; omega, ?_⟩, ?_⟩, by have := HC.out; simp [intOf]; omega⟩
      · rw [← HP.out.2, encHi_step HC.out, List.append_assoc, HX.out]; rfl
      · refine ⟨by rw [show u8s (x :: ds) = u8s [x] ++ u8s ds from rfl, List.length_cons, Nat.add_comm]; exact hown1, ?_⟩
        have b1 := (Below.refl _ wr).alloc (Nat.le_refl _) (.cells #[.int .u8 (x : Nat)] 5)
        exact (HM.out.2.trans (b1.mono HZ.out)).trans (grown_below HO.out HG.out (by have := HZ.out; simp; omega))
    · obtain rfl : cur = 0 := by omega
      clear hS hc
      go_wp2_with fail
      go_ret
      have := HP.out.2
      rw [encHi_zero, List.nil_append] at this
      exact ⟨_, rfl, this ▸ HM.out⟩

theorem rftext_any (A : Option Addr) (m c : Nat) (cs : List Nat) (W : World) (hm : cs.length = m) (hs : Src W A m (u8s cs)) (hlen : m + 10 ≤ 140737488355328) :
    Calls Try.prog 78 #[.slice A m c] W fun e W' => ∃ v, e = .returned v ∧ Made W W' v (enc m ++ cs) := by
  have HN := Lib.hid (rfnum_any m W (by omega))
  have HL := Lib.hid (enc_len m (by omega))
  have e3 : IntKind.u64.wrap (m : Int) = (m : Int) := by rw [IntKind.wrap_u64]; omega
  have HS := Lib.hid hs
  have HB := Lib.hid hlen
  have HM := Lib.hid hm
  clear hs hlen hm
  go_enter Try.func78, Try.ntmps78
  go_wp2_with (first | (go_at_call 59; refine HN.out.mono ?_; rintro e w2 ⟨v, rfl, hM⟩; have HMM := Lib.hid hM; clear hM) | (refine wpList_append_u8 _ rfl _ _ rfl W.heap.size v (enc m).length (u8s (enc m)) rfl HMM.out.1 A m c (u8s cs) rfl (by rw [u8s_len, HM.out]) (HS.out.below HMM.out.2) (u8s_one cs) (by have := HB.out; have := HL.out; omega) HMM.out.2.size ?_; intro v' W1 hown1 hgrow _; have HG := Lib.hid hgrow; clear hgrow))
  go_ret
  refine ⟨v', rfl, ?_, HMM.out.2.trans (grown_below HMM.out.1 HG.out HMM.out.2.size)⟩
  rw [u8s_app, List.length_append, HM.out]
  exact hown1
namespace Lk
/-- The bytes of a string that a law takes: where they lie. -/
theorem str_row (w : World) (bs : List Nat) (h256 : ∀ x ∈ bs, x < 256) : ∃ g c w', (convert 9 38 (.string (Byt.bstr bs))).run Try.prog w = .ok (.slice (some ⟨g, 0, none⟩) bs.length c) w' ∧ bs.length ≤ c ∧ w.heap.size ≤ g ∧ g < w'.heap.size ∧ Below w.heap.size w w' ∧ Byt.ByR w' (some ⟨g, 0, none⟩) bs :=
  ⟨w.heap.size, Sx.capS bs w, _, Sx.str_bytes w bs bs.length rfl, by unfold Sx.capS; rw [Byt.bstr_size]; exact grownCap_ge _ _ _ _, Nat.le_refl _, by simp, (Below.refl _ _).drew.alloc (Nat.le_refl _) _, Sx.objS_byr w bs h256⟩
end Lk
end Go.Proofs.Ytifoheodcbjapaa
namespace Go.Proofs.Ytifoheodcbjapaa
open Go.RowKit
set_option linter.unusedSimpArgs false
set_option linter.unusedVariables false
namespace Lk
/-- The document's link: all texts, how many were acknowledged, how many taken. -/
structure RS where
  all : List (List Nat)
  a : Nat
  t : Nat
def RS.ls (s : RS) : LS := ⟨s.all.length + 1, s.t + 1, s.all.drop s.a⟩
def strs (l : List (List Nat)) : List Value := l.map fun b => .string (Byt.bstr b)
theorem strs_one (l : List (List Nat)) : ∀ u ∈ strs l, u.oneCell' = true := by
  intro u hu
  obtain ⟨x, _, rfl⟩ := List.mem_map.1 hu
  rfl
theorem strs_app (a b : List (List Nat)) : strs (a ++ b) = strs a ++ strs b := by simp [strs]
structure Rf (w : World) (B r o : Nat) (ty : TypeId) (cs : Array Value) (s : RS) (v : Value) : Prop where
  tn : ty ≠ 9
  rl : B ≤ r ∧ r < w.heap.size
  blk : Blk w r ty cs
  k0 : cs[o]? = some v
  k1 : cs[o + 1]? = some (.int .i64 (s.a : Nat))
  k2 : cs[o + 2]? = some (.int .i64 (s.t : Nat))
  own : w.ownsRow B 9 1 v s.all.length (strs s.all)
  al : s.a ≤ s.all.length
  ok : ∀ b ∈ s.all, (∀ y ∈ b, y < 256) ∧ 1 ≤ b.length ∧ b.length ≤ 1800
  le : s.all.length ≤ 300 ∧ s.t ≤ 300
/-- But for one link the cells are the same. -/
def Ag (o : Nat) (cs cs' : Array Value) : Prop := cs'.size = cs.size ∧ ∀ j, (j < o ∨ o + 3 ≤ j) → cs'[j]? = cs[j]?
theorem Ag.refl (o : Nat) (cs : Array Value) : Ag o cs cs := ⟨rfl, fun _ _ => rfl⟩
theorem Ag.set (o : Nat) (cs : Array Value) (i : Nat) (hi : i < 3) (x : Value) : Ag o cs (cs.setIfInBounds (o + i) x) := ⟨Array.size_setIfInBounds, fun j hj => Array.getElem?_setIfInBounds_ne (by omega)⟩
/-- What a call on the document's link leaves. -/
def RTurn (B r : Nat) (v v' : Value) (w w' : World) : Prop :=
  Below B w w' ∧ (∀ k, k < w.heap.size → k ≠ r → some k ≠ v.ownBlock → w'.heap[k]? = w.heap[k]?) ∧ (v'.ownBlock = v.ownBlock ∨ ∃ k, v'.ownBlock = some k ∧ w.heap.size ≤ k)
section
variable {w w' : World} {B r o : Nat} {ty : TypeId} {cs : Array Value} {s : RS} {v : Value}
theorem Rf.base (h : Rf w B r o ty cs s v) : B ≤ w.heap.size := by have := h.rl; omega
theorem Rf.vr (h : Rf w B r o ty cs s v) : some r ≠ v.ownBlock := by
  intro e
  obtain ⟨hl, ⟨rfl, hz⟩ | ⟨g, cap, cur, rfl, hg, hh, _⟩⟩ := h.own
  · simp [Value.ownBlock] at e
  · simp [Value.ownBlock] at e
    subst e
    have := h.blk
    unfold Blk at this
    rw [this] at hh
    simp only [Option.some.injEq, Obj.cells.injEq] at hh
    exact h.tn hh.2.1
theorem Rf.keep (h : Rf w B r o ty cs s v) (hr : w'.heap[r]? = w.heap[r]?) (hv : ∀ k, v.ownBlock = some k → w'.heap[k]? = w.heap[k]?) (hs : w.heap.size ≤ w'.heap.size) : Rf w' B r o ty cs s v :=
  ⟨h.tn, ⟨h.rl.1, by have := h.rl; omega⟩, hr.trans h.blk, h.k0, h.k1, h.k2, ownG_keep h.own hv, h.al, h.ok, h.le⟩
theorem Rf.vlt (h : Rf w B r o ty cs s v) {k : Nat} (hk : v.ownBlock = some k) : k < w.heap.size := (h.own.lt k hk).2
theorem Rf.next (h : Rf w B r o ty cs s v) (hb : Below w.heap.size w w') : Rf w' B r o ty cs s v := h.keep (hb.block r h.rl.2) (fun k hk => hb.block k (h.vlt hk)) hb.size
theorem RTurn.same (h : Rf w B r o ty cs s v) : RTurn B r v v w w := ⟨Below.refl _ _, fun _ _ _ _ => rfl, Or.inl rfl⟩
theorem Rf.vs (h : Rf w B r o ty cs s v) : ∃ A c, v = .slice A s.all.length c := by
  obtain ⟨hl, ⟨rfl, hz⟩ | ⟨g, cap, cur, rfl, hg, hh, _⟩⟩ := h.own
  · exact ⟨none, 0, by rw [hz]⟩
  · exact ⟨_, cap, rfl⟩
theorem Rf.c0 (h : Rf w B r o ty cs s v) : w.cell? ⟨r, o, none⟩ = some v := (h.blk.cell o).trans h.k0
theorem Rf.c1 (h : Rf w B r o ty cs s v) : w.cell? ⟨r, o + 1, none⟩ = some (.int .i64 (s.a : Nat)) := (h.blk.cell _).trans h.k1
theorem Rf.c2 (h : Rf w B r o ty cs s v) : w.cell? ⟨r, o + 2, none⟩ = some (.int .i64 (s.t : Nat)) := (h.blk.cell _).trans h.k2
/-- One of its numbers is stored. -/
theorem Rf.set (h : Rf w B r o ty cs s v) (i : Nat) (hi : i < 3) (x : Value) (s' : RS) (hc0 : (cs.setIfInBounds (o + i) x)[o]? = some v) (hc1 : (cs.setIfInBounds (o + i) x)[o + 1]? = some (.int .i64 (s'.a : Nat))) (hc2 : (cs.setIfInBounds (o + i) x)[o + 2]? = some (.int .i64 (s'.t : Nat))) (hall : s'.all = s.all) (ha : s'.a ≤ s.all.length) (ht : s'.t ≤ 300) :
    Rf (w.setCell ⟨r, o + i, none⟩ x) B r o ty (cs.setIfInBounds (o + i) x) s' v ∧ RTurn B r v v w (w.setCell ⟨r, o + i, none⟩ x) := by
  have far : ∀ k, k ≠ r → (w.setCell ⟨r, o + i, none⟩ x).heap[k]? = w.heap[k]? := fun k hk => Below.heap_setCell w ⟨r, o + i, none⟩ _ k hk
  have hsz : (w.setCell ⟨r, o + i, none⟩ x).heap.size = w.heap.size := by simp [World.setCell]
  have hb := h.blk.setCell (o + i) x
  have hvr := h.vr
  refine ⟨⟨h.tn, ⟨h.rl.1, by rw [hsz]; exact h.rl.2⟩, hb, hc0, hc1, hc2, ?_, by rw [hall]; exact ha, by rw [hall]; exact h.ok, by rw [hall]; exact ⟨h.le.1, ht⟩⟩, (Below.refl B w).setCell (p := ⟨r, o + i, none⟩) h.rl.1 _, fun k _ hk _ => far k hk, Or.inl rfl⟩
  rw [hall]
  exact ownG_keep h.own (fun k hk => far k (fun e => hvr (by rw [← e]; exact hk.symm)))
theorem Rf.set1 (h : Rf w B r o ty cs s v) (q : Nat) (hq : q ≤ s.all.length) : Rf (w.setCell ⟨r, o + 1, none⟩ (.int .i64 (q : Nat))) B r o ty (cs.setIfInBounds (o + 1) (.int .i64 (q : Nat))) ⟨s.all, q, s.t⟩ v ∧ RTurn B r v v w (w.setCell ⟨r, o + 1, none⟩ (.int .i64 (q : Nat))) :=
  h.set 1 (by omega) _ ⟨s.all, q, s.t⟩ (by rw [Array.getElem?_setIfInBounds_ne (by omega)]; exact h.k0) (by rw [Array.getElem?_setIfInBounds_self_of_lt (Array.getElem?_eq_some_iff.1 h.k1).1]) (by rw [Array.getElem?_setIfInBounds_ne (by omega)]; exact h.k2) rfl hq h.le.2
theorem Rf.set2 (h : Rf w B r o ty cs s v) (q : Nat) (hq : q ≤ 300) : Rf (w.setCell ⟨r, o + 2, none⟩ (.int .i64 (q : Nat))) B r o ty (cs.setIfInBounds (o + 2) (.int .i64 (q : Nat))) ⟨s.all, s.a, q⟩ v ∧ RTurn B r v v w (w.setCell ⟨r, o + 2, none⟩ (.int .i64 (q : Nat))) :=
  h.set 2 (by omega) _ ⟨s.all, s.a, q⟩ (by rw [Array.getElem?_setIfInBounds_ne (by omega)]; exact h.k0) (by rw [Array.getElem?_setIfInBounds_ne (by omega)]; exact h.k1) (by rw [Array.getElem?_setIfInBounds_self_of_lt (Array.getElem?_eq_some_iff.1 h.k2).1]) rfl h.al hq
end
/-- What a call leaves that keeps the texts. -/
def StP (l : LS) (s : RS) (B r o : Nat) (ty : TypeId) (cs : Array Value) (v : Value) (w w' : World) : Prop := ∃ s' cs', s'.ls = l ∧ s'.all.length ≤ s.all.length + 1 ∧ s'.t ≤ s.t + 1 ∧ Rf w' B r o ty cs' s' v ∧ Ag o cs cs' ∧ RTurn B r v v w w'
section
variable (w : World) {B r o : Nat} {ty : TypeId} {cs : Array Value} {s : RS} {v : Value}
set_option maxRecDepth 20000 in
theorem rtake_any (h : Rf w B r o ty cs s v) (q : Nat) (hq : q < 18446744073709551616) (ht : s.t < 300) : Calls Try.prog 58 #[.pointer (some ⟨r, o, none⟩), .int .u64 (q : Nat)] w fun e w' =>
    e = .returned (.tuple #[.bool (takeE s.ls q).1, .int .i64 (takeE s.ls q).2]) ∧ StP (s.ls.take q) s B r o ty cs v w w' := by
  have HR := Lib.hid h
  have c2 : w.cell? ⟨r, o + 2, none⟩ = some (.int .i64 (s.t : Nat)) := h.c2
  have z2 := h.blk.frozen (o + 2)
  have e1 : IntKind.u64.wrap (s.t : Int) = (s.t : Nat) := by rw [IntKind.wrap_u64]; omega
  have e2 : IntKind.u64.wrap ((s.t : Int) + 1) = ((s.t + 1 : Nat) : Int) := by clear e1; rw [IntKind.wrap_u64]; omega
  have e3 : IntKind.i64.wrap ((s.t : Int) + 1) = ((s.t + 1 : Nat) : Int) := by clear e1 e2; rw [IntKind.wrap_i64]; omega
  have E1 := Lib.hid e1
  have E2 := Lib.hid e2
  have E3 := Lib.hid e3
  have HT := Lib.hid ht
  clear e1 e2 e3 h ht
  have hnx : s.ls.ex = s.t + 1 := rfl
  by_cases h2 : s.t + 1 < q
  · have HE := Lib.hid (show takeE s.ls q = (false, 14) by unfold takeE; rw [hnx, if_neg (by omega), if_pos h2])
    have HS := Lib.hid (show s.ls.take q = s.ls by unfold LS.take; rw [HE.out, if_neg (by decide)])
    have g1 : ((s.t + 1 : Nat) : Int) < (q : Nat) := by omega
    clear h2 hnx z2
    have e1 := E1.out
    have e2 := E2.out
    go_enter Try.func58, Try.ntmps58
    go_wp2_with fail
    go_ret2
    exact ⟨by (rw [HE.out]; try rfl), s, cs, HS.out.symm, by omega, by omega, HR.out, Ag.refl _ _, RTurn.same HR.out⟩
  by_cases h1 : q ≤ s.t
  · have HE := Lib.hid (show takeE s.ls q = (false, 0) by unfold takeE; rw [hnx, if_pos (by omega)])
    have HS := Lib.hid (show s.ls.take q = s.ls by unfold LS.take; rw [HE.out, if_neg (by decide)])
    have g1 : ¬ ((s.t + 1 : Nat) : Int) < (q : Nat) := by omega
    have g2 : (q : Int) ≤ (s.t : Nat) := by omega
    clear h2 h1 hnx z2
    have e1 := E1.out
    have e2 := E2.out
    go_enter Try.func58, Try.ntmps58
    go_wp2_with fail
    go_ret2
    exact ⟨by (rw [HE.out]; try rfl), s, cs, HS.out.symm, by omega, by omega, HR.out, Ag.refl _ _, RTurn.same HR.out⟩
  · have hqe : q = s.t + 1 := by omega
    have HE := Lib.hid (show takeE s.ls q = (true, 0) by unfold takeE; have := HT.out; rw [hnx, if_neg (by omega), if_neg (by omega), if_neg (by omega)])
    have HS := Lib.hid (show s.ls.take q = ⟨s.all.length + 1, s.t + 1 + 1, s.all.drop s.a⟩ by unfold LS.take; rw [HE.out, if_pos rfl]; rfl)
    have g1 : ¬ ((s.t + 1 : Nat) : Int) < (q : Nat) := by omega
    have g2 : ¬ (q : Int) ≤ (s.t : Nat) := by omega
    clear h2 h1 hnx hqe
    have e1 := E1.out
    have e2 := E2.out
    have e3 := E3.out
    go_enter Try.func58, Try.ntmps58
    go_wp2_with fail
    clear e1 e2 e3
    go_ret2
    have hset := HR.out.set2 (s.t + 1) (by have := HT.out; omega)
    refine ⟨by (rw [HE.out]; try rfl), ⟨s.all, s.a, s.t + 1⟩, cs.setIfInBounds (o + 2) (.int .i64 ((s.t + 1 : Nat) : Int)), HS.out.symm, by show s.all.length ≤ _; omega, Nat.le_refl _, ?_, Ag.set o cs 2 (by omega) (.int .i64 ((s.t + 1 : Nat) : Int)), ?_⟩
    · first | exact hset.1 | (rw [E3.out]; exact hset.1)
    · first | exact hset.2 | (rw [E3.out]; exact hset.2)
set_option maxRecDepth 20000 in
theorem rack_any (h : Rf w B r o ty cs s v) (q : Nat) : Calls Try.prog 56 #[.pointer (some ⟨r, o, none⟩), .int .u64 (q : Nat)] w fun e w' =>
    e = .returned (.tuple #[.int .i64 ((ackR s.ls q : Nat) : Int), .int .i64 (ackE s.ls q)]) ∧ StP (s.ls.ack q) s B r o ty cs v w w' := by
  have HR := Lib.hid h
  obtain ⟨A, c, rfl⟩ := h.vs
  have c0 : w.cell? ⟨r, o, none⟩ = some (.slice A s.all.length c) := h.c0
  have c1 : w.cell? ⟨r, o + 1, none⟩ = some (.int .i64 (s.a : Nat)) := h.c1
  have z1 := h.blk.frozen (o + 1)
  obtain ⟨n, hn⟩ : ∃ n, n = s.all.length := ⟨_, rfl⟩
  have HN := Lib.hid hn
  have HA := Lib.hid (show s.a ≤ n ∧ n ≤ 300 by rw [hn]; exact ⟨h.al, h.le.1⟩)
  have HX := Lib.hid (show s.ls.nx = n + 1 ∧ s.ls.ts.length = n - s.a by rw [hn]; exact ⟨rfl, List.length_drop⟩)
  rw [← hn] at c0
  have e1 : IntKind.u64.wrap (n : Int) = (n : Nat) := by have := HA.out; rw [IntKind.wrap_u64]; omega
  have E1 := Lib.hid e1
  clear h hn e1
  by_cases h2 : n < q
  · have HE := Lib.hid (show ackE s.ls q = 14 ∧ ackR s.ls q = 0 by unfold ackE ackR; rw [HX.out.1, if_pos (by omega), if_pos (by omega)]; exact ⟨rfl, rfl⟩)
    have HS := Lib.hid (show s.ls.ack q = s.ls by unfold LS.ack; rw [HX.out.1, if_pos (by omega)])
    have g1 : (n : Int) < (q : Nat) := by omega
    clear h2 z1
    have e1 := E1.out
    go_enter Try.func56, Try.ntmps56
    go_wp2_with fail
    go_ret2
    exact ⟨by (rw [HE.out.1, HE.out.2]; try rfl), s, cs, HS.out.symm, by omega, by omega, HR.out, Ag.refl _ _, RTurn.same HR.out⟩
  · have g1 : ¬ (n : Int) < (q : Nat) := by omega
    have e2 : IntKind.i64.wrap (q : Int) = (q : Nat) := by have := HA.out; rw [IntKind.wrap_i64]; omega
    have E2 := Lib.hid e2
    clear e2
    by_cases h1 : q ≤ s.a
    · have HE := Lib.hid (show ackE s.ls q = 0 ∧ ackR s.ls q = 0 by unfold ackE ackR ackN; rw [HX.out.1, HX.out.2, if_neg (by omega), if_neg (by omega)]; have := HA.out; exact ⟨rfl, by omega⟩)
      have HS := Lib.hid (show s.ls.ack q = s.ls by
        unfold LS.ack ackN
        rw [HX.out.1, HX.out.2, if_neg (by omega), show q + 1 + (n - s.a) - (n + 1) = 0 by have := HA.out; omega, List.drop_zero, ← HX.out.1])
      obtain ⟨z, hz⟩ : ∃ z : Int, z = (q : Int) - (s.a : Int) := ⟨_, rfl⟩
      have e3 : IntKind.i64.wrap ((q : Int) - (s.a : Int)) = z := by have := HA.out; rw [IntKind.wrap_i64]; omega
      have e4 : wrap64 ((q : Int) - (s.a : Int)) = z := by clear e3; have := HA.out; unfold wrap64; omega
      have g3 : z < 1 := by clear e3 e4; omega
      clear h2 h1 z1 hz
      have e1 := E1.out
      have e2 := E2.out
      go_enter Try.func56, Try.ntmps56
      go_wp2_with fail
      clear e1 e2 e3 e4
      go_ret2
      exact ⟨by (rw [HE.out.1, HE.out.2]; try rfl), s, cs, HS.out.symm, by omega, by omega, HR.out, Ag.refl _ _, RTurn.same HR.out⟩
    · obtain ⟨z, hz⟩ : ∃ z : Nat, z = q - s.a := ⟨_, rfl⟩
      have HE := Lib.hid (show ackE s.ls q = 0 ∧ ackR s.ls q = z by unfold ackE ackR ackN; rw [HX.out.1, HX.out.2, if_neg (by omega), if_neg (by omega)]; have := HA.out; exact ⟨rfl, by omega⟩)
      have HS := Lib.hid (show s.ls.ack q = ⟨s.all.length + 1, s.t + 1, s.all.drop q⟩ by
        unfold LS.ack ackN
        rw [HX.out.1, HX.out.2, if_neg (by omega), ← HN.out, show q + 1 + (n - s.a) - (n + 1) = q - s.a by have := HA.out; omega]
        show (⟨n + 1, s.t + 1, (s.all.drop s.a).drop (q - s.a)⟩ : LS) = _
        rw [List.drop_drop, show s.a + (q - s.a) = q by omega])
      have e3 : IntKind.i64.wrap ((q : Int) - (s.a : Int)) = (z : Nat) := by have := HA.out; rw [IntKind.wrap_i64]; omega
      have e4 : wrap64 ((q : Int) - (s.a : Int)) = (z : Nat) := by clear e3; have := HA.out; unfold wrap64; omega
      have g3 : ¬ (z : Int) < 1 := by clear e3 e4; omega
      have HQ := Lib.hid (show q ≤ s.all.length by rw [← HN.out]; omega)
      clear h2 h1 hz
      have e1 := E1.out
      have e2 := E2.out
      go_enter Try.func56, Try.ntmps56
      go_wp2_with fail
      clear e1 e2 e3 e4
      go_ret2
      have hset := HR.out.set1 q HQ.out
      refine ⟨by (rw [HE.out.1, HE.out.2]; try rfl), ⟨s.all, q, s.t⟩, cs.setIfInBounds (o + 1) (.int .i64 (q : Nat)), HS.out.symm, by show s.all.length ≤ _; omega, by show s.t ≤ _; omega, ?_, Ag.set o cs 1 (by omega) (.int .i64 (q : Nat)), ?_⟩
      · first | exact hset.1 | (rw [E2.out]; exact hset.1)
      · first | exact hset.2 | (rw [E2.out]; exact hset.2)
end
end Lk
end Go.Proofs.Ytifoheodcbjapaa
namespace Go.Proofs.Ytifoheodcbjapaa
open Go.RowKit
set_option linter.unusedSimpArgs false
set_option linter.unusedVariables false
namespace Lk
theorem info_str : ∃ i z, Try.prog.info? 9 = some i ∧ i.zero = some z ∧ i.size = 1 ∧ i.bytes = 16 ∧ z.cells.size = 1 := by
  have h : ((Try.prog.info? 9).bind fun i => i.zero.map fun z => (i.size, i.bytes, z.cells.size)) = some (1, 16, 1) := by kernel_rfl
  cases hi : Try.prog.info? 9 with
  | none => rw [hi] at h; cases h
  | some i =>
    rw [hi] at h
    simp only [Option.bind_some, Option.map_eq_some_iff, Prod.mk.injEq] at h
    obtain ⟨z, hz, h1, h2, h3⟩ := h
    exact ⟨i, z, rfl, hz, h1, h2, h3⟩
/-- An append of strings onto a row that a call made. -/
theorem wpList_append_str {ops : Array Oper} {rest : List Oper} {o : Oper} {a : Act} {Q : Exit → Act → World → Prop} (w : World) (hgd : o.guard = none) (s x : Operand)
    (ho : o.op = .call { callee := .builtin .append, args := #[s, x], argTypes := #[30, 30] }) (base : Nat)
    (v : Value) (n : Nat) (xs : List Value) (hs : a.eval s = v) (hown : w.ownsRow base 9 1 v n xs)
    (A : Option Addr) (m c : Nat) (news : List Value) (hx : a.eval x = .slice A m c) (hl : news.length = m) (hsrc : Src w A m news) (h1 : ∀ u ∈ news, u.oneCell' = true)
    (hbytes : n + m ≤ 100000) (hbase : base ≤ w.heap.size)
    (h : ∀ v' w', w'.ownsRow base 9 1 v' (n + m) (xs ++ news) → w.grownBy w' v.ownBlock → (v'.ownBlock = v.ownBlock ∨ v'.ownBlock = some w.heap.size) → wpList Try.prog ops Q rest (a.put o.dst v') w') : wpList Try.prog ops Q (o :: rest) a w :=
  wpList_plain hgd fun _ hK => by
    obtain ⟨i, z, hi, hz, h2, h3, h4⟩ := info_str
    exact wp_append_src w s x 30 ho base 9 i z Try.underlying30 hi hz (by rw [h4, h2]) (by omega) v n xs hs (by rw [h2]; exact hown) A m c news hx (by rw [hl, h2, Nat.mul_one]) hsrc h1 (by unfold maxLen; omega) (by rw [h3]; omega) hbase (by rw [h2]; intro v' w' k1 k2 k3; exact hK _ _ (h v' w' k1 k2 k3))
def RsP (s : RS) (bs : List Nat) (B r o : Nat) (ty : TypeId) (cs : Array Value) (v : Value) (w w' : World) : Prop := ∃ s' v' cs', s'.ls = s.ls.send bs ∧ s'.all.length ≤ s.all.length + 1 ∧ s'.t ≤ s.t + 1 ∧ Rf w' B r o ty cs' s' v' ∧ Ag o cs cs' ∧ RTurn B r v v' w w'
section
variable (w : World) {B r o : Nat} {ty : TypeId} {cs : Array Value} {s : RS} {v : Value}
set_option maxRecDepth 20000 in
set_option maxHeartbeats 4000000 in
theorem rsend_any (h : Rf w B r o ty cs s v) (bs : List Nat) (h256 : ∀ y ∈ bs, y < 256) (hn : s.all.length < 300) : Calls Try.prog 55 #[.pointer (some ⟨r, o, none⟩), .string (Byt.bstr bs)] w fun e w' =>
    e = .returned (.tuple #[.int .u64 (sendN s.ls bs.length : Nat), .int .i64 (sendE s.ls bs.length)]) ∧ RsP s bs B r o ty cs v w w' := by
  have HR := Lib.hid h
  have H256 := Lib.hid h256
  obtain ⟨A, c, rfl⟩ := h.vs
  have c0 : w.cell? ⟨r, o, none⟩ = some (.slice A s.all.length c) := h.c0
  have c1 : w.cell? ⟨r, o + 1, none⟩ = some (.int .i64 (s.a : Nat)) := h.c1
  have z0 := h.blk.frozen o
  obtain ⟨n, hnn⟩ : ∃ n, n = s.all.length := ⟨_, rfl⟩
  have HN := Lib.hid hnn
  have HA := Lib.hid (show s.a ≤ n ∧ n < 300 by rw [hnn]; exact ⟨h.al, hn⟩)
  have HX := Lib.hid (show s.ls.nx = n + 1 ∧ s.ls.ts.length = n - s.a by rw [hnn]; exact ⟨rfl, List.length_drop⟩)
  rw [← hnn] at c0
  obtain ⟨m, hm⟩ : ∃ m, m = bs.length := ⟨_, rfl⟩
  have hsz : (Byt.bstr bs).size = m := by rw [hm]; exact Byt.bstr_size bs
  rw [← hm]
  have HM := Lib.hid hm
  clear h h256 hn hnn hm
  by_cases h1 : m < 1
  · have HE := Lib.hid (show sendE s.ls m = 3 by unfold sendE; rw [if_neg (by simp; omega)])
    have HS := Lib.hid (show sendN s.ls m = 0 ∧ s.ls.send bs = s.ls by unfold sendN LS.send; rw [← HM.out, HE.out, if_neg (by decide), if_neg (by decide)]; exact ⟨rfl, rfl⟩)
    have g1 : (m : Int) < 1 := by omega
    clear h1 z0 c0 c1
    go_enter Try.func55, Try.ntmps55
    go_wp2_with fail
    go_ret2
    exact ⟨by (rw [HE.out, HS.out.1]; try rfl), ⟨s, .slice A s.all.length c, cs, HS.out.2.symm, Nat.le_succ _, Nat.le_succ _, HR.out, Ag.refl _ _, RTurn.same HR.out⟩⟩
  by_cases h2 : 1800 < m
  · have HE := Lib.hid (show sendE s.ls m = 3 by unfold sendE; rw [if_neg (by simp; omega)])
    have HS := Lib.hid (show sendN s.ls m = 0 ∧ s.ls.send bs = s.ls by unfold sendN LS.send; rw [← HM.out, HE.out, if_neg (by decide), if_neg (by decide)]; exact ⟨rfl, rfl⟩)
    have g1 : ¬ (m : Int) < 1 := by omega
    have g2 : (1800 : Int) < (m : Nat) := by omega
    clear h1 h2 z0 c0 c1
    go_enter Try.func55, Try.ntmps55
    go_wp2_with fail
    go_ret2
    exact ⟨by (rw [HE.out, HS.out.1]; try rfl), ⟨s, .slice A s.all.length c, cs, HS.out.2.symm, Nat.le_succ _, Nat.le_succ _, HR.out, Ag.refl _ _, RTurn.same HR.out⟩⟩
  have g1 : ¬ (m : Int) < 1 := by omega
  have g2 : ¬ (1800 : Int) < (m : Nat) := by omega
  have hd : (decide (1 ≤ m) && decide (m ≤ 1800)) = true := by simp; omega
  have HDD := Lib.hid (And.intro (show 1 ≤ m by omega) (show m ≤ 1800 by omega))
  obtain ⟨z, hz⟩ : ∃ z : Nat, z = n - s.a := ⟨_, rfl⟩
  have e3 : IntKind.i64.wrap ((n : Int) - (s.a : Int)) = (z : Nat) := by have := HA.out; rw [IntKind.wrap_i64]; omega
  have e4 : wrap64 ((n : Int) - (s.a : Int)) = (z : Nat) := by clear e3; have := HA.out; unfold wrap64; omega
  have E3 := Lib.hid (And.intro e3 e4)
  have HZ := Lib.hid hz
  clear e3 e4 h1 h2 hz
  by_cases h3 : 250 ≤ z
  · have HE := Lib.hid (show sendE s.ls m = 5 by unfold sendE; rw [hd, if_pos rfl, HX.out.2, if_pos (by have := HZ.out; omega)])
    have HS := Lib.hid (show sendN s.ls m = 0 ∧ s.ls.send bs = s.ls by unfold sendN LS.send; rw [← HM.out, HE.out, if_neg (by decide), if_neg (by decide)]; exact ⟨rfl, rfl⟩)
    have g3 : (250 : Int) ≤ (z : Nat) := by omega
    clear h3 z0 hd
    go_enter Try.func55, Try.ntmps55
    go_upto_region 3 with fail
    have e3 := E3.out.1
    have e4 := E3.out.2
    refine wp_region_tree (S := (fun w' => w' = w.drew)) (.take 0 (.take 1 (.take 2 (.take 3 (.take 4 (.take 5 (.take 6 (.take 7 (.take 8 (.take 9 (.take 10 .nil))))))))))) 9999 (by kernel_rfl) (by kernel_rfl) (by kernel_rfl) (by kernel_rfl) (by kernel_rfl) (fun _ _ d _ _ h => by cases d <;> exact h) rfl (fun hHeld => ?_); simp only [Tree.map, List.getElem?_toArray, List.getElem?_cons_zero, List.getElem?_cons_succ]
    (repeat (first | (refine wpTree.take (v := undef) (Or.inr ⟨by rfl, rfl⟩) ?_; simp only [Act.put, List.setIfInBounds_toArray, List.set_cons_zero, List.set_cons_succ]) | (refine wpTree.take (v := ?_) (Or.inl ⟨by rfl, ?_⟩) ?_; rotate_left; (focus (intro _ hS; (try dsimp only at hS); go_split_ands; (try subst hS); go_simp; (try (with_reducible rfl)); done)); simp only [Act.put, List.setIfInBounds_toArray, List.set_cons_zero, List.set_cons_succ])))
    refine wpTree.done ?_
    clear e3 e4
    go_wp2_with fail
    go_ret2
    exact ⟨by (rw [HE.out, HS.out.1]; try rfl), ⟨s, .slice A s.all.length c, cs, HS.out.2.symm, Nat.le_succ _, Nat.le_succ _, HR.out.next (Below.refl _ _).drew, Ag.refl _ _, (Below.refl _ _).drew, fun k hk _ _ => rfl, Or.inl rfl⟩⟩
  · have HE := Lib.hid (show sendE s.ls m = 0 by unfold sendE; rw [hd, if_pos rfl, HX.out.2, HX.out.1, if_neg (by have := HZ.out; have := HA.out; omega)])
    have HS := Lib.hid (show sendN s.ls m = n + 1 ∧ s.ls.send bs = ⟨s.all.length + 2, s.t + 1, (s.all ++ [bs]).drop s.a⟩ by
      unfold sendN LS.send
      rw [← HM.out, HE.out, if_pos rfl, if_pos rfl, HX.out.1]
      refine ⟨rfl, ?_⟩
      rw [List.drop_append_of_le_length (by rw [← HN.out]; exact HA.out.1), HN.out]
      rfl)
    have g3 : ¬ (250 : Int) ≤ (z : Nat) := by omega
    have e5 : IntKind.u64.wrap ((n : Int) + 1) = ((n + 1 : Nat) : Int) := by have := HA.out; rw [IntKind.wrap_u64]; omega
    have E5 := Lib.hid e5
    clear h3 hd e5
    go_enter Try.func55, Try.ntmps55
    go_upto_region 3 with fail
    have e3 := E3.out.1
    have e4 := E3.out.2
    refine wp_region_tree (S := (fun w' => w' = w.drew)) (.take 0 (.take 1 (.take 2 (.take 3 (.take 4 (.take 5 (.take 6 (.take 7 (.take 8 (.take 9 (.take 10 .nil))))))))))) 9999 (by kernel_rfl) (by kernel_rfl) (by kernel_rfl) (by kernel_rfl) (by kernel_rfl) (fun _ _ d _ _ h => by cases d <;> exact h) rfl (fun hHeld => ?_); simp only [Tree.map, List.getElem?_toArray, List.getElem?_cons_zero, List.getElem?_cons_succ]
    (repeat (first | (refine wpTree.take (v := undef) (Or.inr ⟨by rfl, rfl⟩) ?_; simp only [Act.put, List.setIfInBounds_toArray, List.set_cons_zero, List.set_cons_succ]) | (refine wpTree.take (v := ?_) (Or.inl ⟨by rfl, ?_⟩) ?_; rotate_left; (focus (intro _ hS; (try dsimp only at hS); go_split_ands; (try subst hS); go_simp; (try (with_reducible rfl)); done)); simp only [Act.put, List.setIfInBounds_toArray, List.set_cons_zero, List.set_cons_succ])))
    refine wpTree.done ?_
    clear e3 e4
    have HR1 := Lib.hid (HR.out.next (Below.refl w.heap.size w).drew)
    have hb1 := (Below.refl w.heap.size w).drew.trans ((Below.refl w.drew.heap.size w.drew).alloc (Nat.le_refl _) (.cells #[.string (Byt.bstr bs)] 9))
    have HB1 := Lib.hid hb1
    have HR2 := Lib.hid (HR.out.next hb1)
    have hsrc : Src (w.drew.alloc (.cells #[.string (Byt.bstr bs)] 9)) (some ⟨w.drew.heap.size, 0, none⟩) 1 (strs [bs]) := Or.inl ⟨_, rfl, fun j u hj => by
      have hh := heap_alloc_new w.drew (Obj.cells #[.string (Byt.bstr bs)] 9)
      rw [add_plain, Nat.zero_add, cell_of_row _ w.drew.heap.size _ _ _ _ hh, List.getElem?_toArray]
      exact hj⟩
    have HSR := Lib.hid hsrc
    clear hb1 hsrc z0
    go_upto_region 5 with fail
    have hown0 : (w.drew.alloc (.cells #[.string (Byt.bstr bs)] 9)).ownsRow B 9 1 (.slice A n c) n (strs s.all) := by rw [HN.out]; exact HR2.out.own
    have hvr : some r ≠ (Value.slice A n c).ownBlock := by rw [HN.out]; exact HR.out.vr
    have HO := Lib.hid (And.intro hown0 hvr)
    have HBB := Lib.hid (show B ≤ (w.drew.alloc (.cells #[.string (Byt.bstr bs)] 9)).heap.size from Nat.le_trans HR.out.base HB1.out.size)
    clear hown0 hvr
    go_upto_region 6 with (first | (at_builtin; refine wpList_append_str _ rfl _ _ rfl B (.slice A n c) n (strs s.all) rfl HO.out.1 (some ⟨w.drew.heap.size, 0, none⟩) 1 1 (strs [bs]) rfl rfl HSR.out (strs_one _) (by have := HA.out; omega) HBB.out ?_; intro v9 w9 hown hg hloc; obtain ⟨A9, c9, rfl⟩ := slc_of hown; have hb9 : Blk w9 r ty cs := (hg.block r HR2.out.rl.2 HO.out.2).trans HR2.out.blk; have c90 := (hb9.cell o).trans HR.out.k0; have z90 := hb9.frozen o; have H9 := Lib.hid (And.intro hown (And.intro hg (And.intro hloc hb9))); clear hown hg hloc hb9))
    clear c90 z90
    obtain ⟨w10, hw10⟩ : ∃ w10, w10 = w9.setCell ⟨r, o, none⟩ (.slice A9 (n + 1) c9) := ⟨_, rfl⟩
    have hb10 : Blk w10 r ty (cs.setIfInBounds o (.slice A9 (n + 1) c9)) := by rw [hw10]; exact H9.out.2.2.2.setCell o _
    have far : ∀ k, k ≠ r → w10.heap[k]? = w9.heap[k]? := fun k hk => by rw [hw10]; exact Below.heap_setCell w9 ⟨r, o, none⟩ _ k hk
    have hz10 : w10.heap.size = w9.heap.size := by rw [hw10]; simp [World.setCell]
    have hos : w10.os = w9.os ∧ w10.tape = w9.tape ∧ w10.output = w9.output := by rw [hw10]; exact ⟨rfl, rfl, rfl⟩
    rw [← hw10]
    clear hw10
    have hc100 : (cs.setIfInBounds o (.slice A9 (n + 1) c9))[o]? = some (.slice A9 (n + 1) c9) := by rw [Array.getElem?_setIfInBounds_self_of_lt (Array.getElem?_eq_some_iff.1 HR.out.k0).1]
    have c100 : w10.cell? ⟨r, o, none⟩ = some (.slice A9 (n + 1) c9) := (hb10.cell o).trans hc100
    have hgz : w.heap.size + 1 ≤ w9.heap.size := by have := H9.out.2.1.size; simpa using this
    have hz1 : (w.drew.alloc (.cells #[.string (Byt.bstr bs)] 9)).heap.size = w.heap.size + 1 := by simp
    have hrr : ∀ k, (Value.slice A9 (n + 1) c9).ownBlock = some k → k ≠ r := fun k hk e => by
      subst e
      obtain ⟨hl, ⟨e1, h0⟩ | ⟨g, cap, cur, e1, hg, hh, _⟩⟩ := H9.out.1
      · omega
      · simp only [Value.slice.injEq] at e1
        obtain ⟨rfl, _⟩ := e1
        simp [Value.ownBlock] at hk
        subst hk
        have := H9.out.2.2.2
        unfold Blk at this
        rw [this] at hh
        simp only [Option.some.injEq, Obj.cells.injEq] at hh
        exact HR.out.tn hh.2.1
    have HEND := Lib.hid (show RsP s bs B r o ty cs (.slice A s.all.length c) w w10 from by
      refine ⟨⟨s.all ++ [bs], s.a, s.t⟩, .slice A9 (n + 1) c9, cs.setIfInBounds o (.slice A9 (n + 1) c9), ?_, by rw [List.length_append]; exact Nat.le_refl _, Nat.le_succ _, ⟨HR.out.tn, ⟨HR.out.rl.1, by have := HR.out.rl.2; omega⟩, hb10, hc100, by rw [Array.getElem?_setIfInBounds_ne (by omega)]; exact HR.out.k1, by rw [Array.getElem?_setIfInBounds_ne (by omega)]; exact HR.out.k2, ?_, ?_, ?_, ?_⟩, Ag.set o cs 0 (by omega) _, ⟨?_, ?_, ?_⟩⟩
      · rw [HS.out.2]
        show (⟨(s.all ++ [bs]).length + 1, s.t + 1, (s.all ++ [bs]).drop s.a⟩ : LS) = _
        rw [List.length_append]; rfl
      · have h1 := H9.out.1
        rw [← strs_app] at h1
        have h2 : (s.all ++ [bs]).length = n + 1 := by rw [List.length_append, ← HN.out]; rfl
        rw [h2]
        exact ownG_keep h1 (fun k hk => far k (hrr k hk))
      · rw [List.length_append]; have := HR.out.al; show s.a ≤ _; omega
      · intro b hb
        rcases List.mem_append.1 hb with hb | hb
        · exact HR.out.ok b hb
        · simp only [List.mem_singleton] at hb
          subst hb
          exact ⟨H256.out, by rw [← HM.out]; exact HDD.out.1, by rw [← HM.out]; exact HDD.out.2⟩
      · rw [List.length_append, ← HN.out]; exact ⟨by have := HA.out; show n + 1 ≤ 300; omega, HR.out.le.2⟩
      · have h1 : Below B (w.drew.alloc (.cells #[.string (Byt.bstr bs)] 9)) w9 := ⟨H9.out.2.1.os, H9.out.2.1.tape, H9.out.2.1.output, H9.out.2.1.size, fun k hk => H9.out.2.1.block k (Nat.lt_of_lt_of_le hk HBB.out) (fun e => by
          obtain ⟨hl, ⟨e1, h0⟩ | ⟨g, cap, cur, e1, hg, hh, _⟩⟩ := HO.out.1
          · simp only [Value.slice.injEq] at e1
            obtain ⟨rfl, _⟩ := e1
            simp [Value.ownBlock] at e
          · simp only [Value.slice.injEq] at e1
            obtain ⟨rfl, _⟩ := e1
            simp [Value.ownBlock] at e
            omega)⟩
        have h2 := (HB1.out.mono HR.out.base).trans h1
        exact ⟨hos.1.trans h2.os, hos.2.1.trans h2.tape, hos.2.2.trans h2.output, by rw [hz10]; exact h2.size, fun k hk => (far k (by have := HR.out.rl.1; omega)).trans (h2.block k hk)⟩
      · intro k hk hkr hkv
        rw [← HN.out] at hkv
        exact (far k hkr).trans ((H9.out.2.1.block k (Nat.lt_of_lt_of_le hk HB1.out.size) hkv).trans (HB1.out.block k hk))
      · rcases H9.out.2.2.1 with h | h
        · left; rw [h, HN.out]
        · right; exact ⟨_, h, by simp⟩)
    clear hc100 hb10 far hz10 hos hgz hz1 hrr H9 HR1 HR2 HSR HO HBB HB1
    have e5 := E5.out
    go_wp2_with fail
    clear e5
    go_ret2
    exact ⟨by (rw [HE.out, HS.out.1]; try rfl), HEND.out⟩
end
end Lk
end Go.Proofs.Ytifoheodcbjapaa
namespace Go.Proofs.Ytifoheodcbjapaa
open Go.RowKit
set_option linter.unusedSimpArgs false
set_option linter.unusedVariables false
namespace Lk
theorem made_app {w w1 w2 : World} {v v' : Value} {a b : List Nat} (hM : Made w w1 v a) (hown : w2.ownsRow w.heap.size 5 1 v' (a.length + b.length) (u8s a ++ u8s b)) (hg : w1.grownBy w2 v.ownBlock) : Made w w2 v' (a ++ b) := by
  refine ⟨?_, hM.2.trans (grown_below hM.1 hg hM.2.size)⟩
  rw [u8s_app, List.length_append]; exact hown
theorem made_next {w w1 w2 : World} {v : Value} {a : List Nat} (hM : Made w w1 v a) (hb : Below w1.heap.size w1 w2) : Made w w2 v a := ⟨ownG_next hM.1 hb, hM.2.trans (hb.mono hM.2.size)⟩
theorem made_src {w w1 : World} {v : Value} {a : List Nat} (hM : Made w w1 v a) : ∃ A c, v = .slice A a.length c ∧ Src w1 A a.length (u8s a) := src_own hM.1
theorem Rf.at_ {w : World} {B r o n c : Nat} {ty : TypeId} {cs : Array Value} {A : Option Addr} {s : RS} (h : Rf w B r o ty cs s (.slice A n c)) {i : Nat} {b : List Nat} (hi : s.all[i]? = some b) : ∃ g, A = some ⟨g, 0, none⟩ ∧ w.cell? ⟨g, i, none⟩ = some (.string (Byt.bstr b)) := by
  have h0 := h.own
  have hl := (List.getElem?_eq_some_iff.1 hi).1
  obtain ⟨_, ⟨e, hz⟩ | ⟨g, cap, cur, e, _⟩⟩ := id h0
  · omega
  · simp only [Value.slice.injEq] at e
    obtain ⟨rfl, _⟩ := e
    refine ⟨g, rfl, ?_⟩
    have := h0.cells rfl i (.string (Byt.bstr b)) (by unfold strs; rw [List.getElem?_map, hi]; rfl)
    rwa [add_plain, Nat.zero_add] at this
theorem encTs_snoc {ts : List (List Nat)} {j : Nat} {b : List Nat} (h : ts[j]? = some b) (pre : List Nat) : pre ++ encTs (ts.take (j + 1)) = pre ++ encTs (ts.take j) ++ (enc b.length ++ b) := by
  rw [encTs_take h, List.append_assoc]
theorem wr_i64 (a : Nat) (h : a ≤ 1000) : wrap64 ((a : Int) + 1) = ((a + 1 : Nat) : Int) ∧ IntKind.i64.wrap ((a : Int) + 1) = ((a + 1 : Nat) : Int) ∧ IntKind.u64.wrap ((a + 1 : Nat) : Int) = ((a + 1 : Nat) : Int) ∧ IntKind.u64.wrap ((a : Int) + 1) = ((a + 1 : Nat) : Int) := by
  refine ⟨by unfold wrap64; omega, by rw [IntKind.wrap_i64]; omega, by rw [IntKind.wrap_u64]; omega, by rw [IntKind.wrap_u64]; omega⟩
set_option maxRecDepth 20000 in
set_option maxHeartbeats 4000000 in
theorem rput_any (w : World) {B r o : Nat} {ty : TypeId} {cs : Array Value} {s : RS} {v : Value} (h : Rf w B r o ty cs s v) : Calls Try.prog 60 #[.pointer (some ⟨r, o, none⟩)] w fun e w' => ∃ v', e = .returned v' ∧ Made w w' v' (encL s.ls) := by
  have HR := Lib.hid h
  obtain ⟨A, c, rfl⟩ := h.vs
  have c0 : w.cell? ⟨r, o, none⟩ = some (.slice A s.all.length c) := h.c0
  have c1 : w.cell? ⟨r, o + 1, none⟩ = some (.int .i64 (s.a : Nat)) := h.c1
  obtain ⟨n, hnn⟩ : ∃ n, n = s.all.length := ⟨_, rfl⟩
  have HN := Lib.hid hnn
  have HA := Lib.hid (show s.a ≤ n ∧ n ≤ 300 ∧ s.t ≤ 300 by rw [hnn]; exact ⟨h.al, h.le.1, h.le.2⟩)
  rw [← hnn] at c0
  obtain ⟨z, hz⟩ : ∃ z : Nat, z = n - s.a := ⟨_, rfl⟩
  have HZ := Lib.hid hz
  have e1 : IntKind.u64.wrap ((n : Int) + 1) = ((n + 1 : Nat) : Int) := by have := HA.out; rw [IntKind.wrap_u64]; omega
  have e2 : IntKind.i64.wrap ((n : Int) + 1) = ((n + 1 : Nat) : Int) := by clear e1; have := HA.out; rw [IntKind.wrap_i64]; omega
  have e3 : IntKind.i64.wrap ((n : Int) - (s.a : Int)) = (z : Nat) := by clear e1 e2; have := HA.out; rw [IntKind.wrap_i64]; omega
  have e4 : IntKind.u64.wrap (z : Int) = (z : Nat) := by clear e1 e2 e3; have := HA.out; rw [IntKind.wrap_u64]; omega
  have e5 : wrap64 ((n : Int) - (s.a : Int)) = (z : Nat) := by clear e1 e2 e3 e4; have := HA.out; unfold wrap64; omega
  have e6 : wrap64 ((n : Int) + 1) = ((n + 1 : Nat) : Int) := by clear e1 e2 e3 e4 e5; have := HA.out; unfold wrap64; omega
  have e7 : IntKind.u64.wrap ((n + 1 : Nat) : Int) = ((n + 1 : Nat) : Int) := by clear e1 e2 e3 e4 e5 e6; have := HA.out; rw [IntKind.wrap_u64]; omega
  have HF1 := Lib.hid (fun w' => rfnum_any (n + 1) w' (by clear e1 e2 e3 e4 e5 e6 e7; have := HA.out; omega))
  have HF2 := Lib.hid (fun w' => rfnum_any z w' (by clear e1 e2 e3 e4 e5 e6 e7; have := HA.out; omega))
  have HF3 := Lib.hid (fun w' => rfnum_any (s.t + 1) w' (by clear e1 e2 e3 e4 e5 e6 e7; have := HA.out; omega))
  have HL := Lib.hid (show (enc (n + 1)).length ≤ 10 ∧ (enc z).length ≤ 10 by clear e1 e2 e3 e4 e5 e6 e7; have := HA.out; exact ⟨enc_len _ (by omega), enc_len _ (by omega)⟩)
  clear h hnn hz
  go_enter Try.func60, Try.ntmps60
  go_upto_region 1 with fail
  have hcc : w.cell? ⟨r, o, none⟩ = some (.slice A n c) ∧ w.cell? ⟨r, o + 1, none⟩ = some (.int .i64 (s.a : Nat)) := ⟨c0, c1⟩
  refine wp_region_tree (S := (fun w' => w'.cell? ⟨r, o, none⟩ = some (.slice A n c) ∧ w'.cell? ⟨r, o + 1, none⟩ = some (.int .i64 (s.a : Nat)))) (.take 0 (.take 1 (.take 2 (.take 3 (.take 4 (.take 5 (.take 6 (.take 8 (.take 9 (.take 10 (.take 11 (.take 12 (.take 13 (.take 14 (.take 15 (.take 16 (.take 17 (.take 18 (.one 7 (.one 19 (.one 20 (.take 21 .nil)))))))))))))))))))))) 9999 (by kernel_rfl) (by kernel_rfl) (by kernel_rfl) (by kernel_rfl) (by kernel_rfl) (fun _ _ d _ _ h => by cases d <;> exact h) hcc (fun hHeld => ?_); simp only [Tree.map, List.getElem?_toArray, List.getElem?_cons_zero, List.getElem?_cons_succ]
  (repeat (first | (refine wpTree.take (v := undef) (Or.inr ⟨by rfl, rfl⟩) ?_; simp only [Act.put, List.setIfInBounds_toArray, List.set_cons_zero, List.set_cons_succ]) | (refine wpTree.take (v := ?_) (Or.inl ⟨by rfl, ?_⟩) ?_; rotate_left; (focus (intro _ hS; (try dsimp only at hS); go_split_ands; (try subst hS); go_simp; (try (with_reducible rfl)); done)); simp only [Act.put, List.setIfInBounds_toArray, List.set_cons_zero, List.set_cons_succ])))
  clear e1 e2 e3 e4 e5 e6 e7
  have HK := Lib.hid (fun w' (hb : Below w.heap.size w w') => (show w'.cell? ⟨r, o, none⟩ = some (.slice A n c) ∧ w'.cell? ⟨r, o + 1, none⟩ = some (.int .i64 (s.a : Nat)) from ⟨by rw [HN.out]; exact (HR.out.next hb).c0, (HR.out.next hb).c1⟩))
  refine wpTree.one (fun K hK => ?_)
  go_simp
  go_at_call 59
  refine (HF1.out w.drew).mono ?_
  rintro e w1 ⟨v1, rfl, hM⟩
  have H1 := Lib.hid (show Made w w1 v1 (enc (n + 1)) from ⟨hM.1, (Below.refl w.heap.size w).drew.trans hM.2⟩)
  refine hK.out _ _ (HK.out _ H1.out.2) (fun _ => ?_)
  clear hK K hHeld hM hcc c0 c1
  (try simp only [Act.put, List.setIfInBounds_toArray, List.set_cons_zero, List.set_cons_succ])
  refine wpTree.one (fun K hK => ?_)
  go_simp
  go_at_call 59
  refine (HF2.out w1).mono ?_
  rintro e w2 ⟨v2, rfl, hM⟩
  have H2 := Lib.hid (And.intro (made_next H1.out hM.2) hM)
  obtain ⟨A2, k2, rfl, hs2⟩ := made_src hM
  refine hK.out _ _ (HK.out _ H2.out.1.2) (fun _ => ?_)
  clear hK K hM
  (try simp only [Act.put, List.setIfInBounds_toArray, List.set_cons_zero, List.set_cons_succ])
  refine wpTree.one (fun K hK => ?_)
  refine Byt.step_append_u8 w2 (by rfl) _ _ rfl w.heap.size v1 (enc (n + 1)).length (u8s (enc (n + 1))) rfl H2.out.1.1 A2 (enc z).length k2 (u8s (enc z)) rfl (u8s_len _) hs2 (u8s_one _) (by have := HL.out; omega) H2.out.1.2.size ?_
  intro v3 w3 hown hg
  have H3 := Lib.hid (made_app H2.out.1 hown hg)
  refine hK.out _ _ (HK.out _ H3.out.2) (fun _ => ?_)
  clear hK K hown hg hs2 H1 H2
  (try simp only [Act.put, List.setIfInBounds_toArray, List.set_cons_zero, List.set_cons_succ])
  (repeat (first | (refine wpTree.take (v := undef) (Or.inr ⟨by rfl, rfl⟩) ?_; simp only [Act.put, List.setIfInBounds_toArray, List.set_cons_zero, List.set_cons_succ]) | (refine wpTree.take (v := ?_) (Or.inl ⟨by rfl, ?_⟩) ?_; rotate_left; (focus (intro _ hS; (try dsimp only at hS); go_split_ands; (try subst hS); go_simp; (try (with_reducible rfl)); done)); simp only [Act.put, List.setIfInBounds_toArray, List.set_cons_zero, List.set_cons_succ])))
  refine wpTree.done ?_
  have hc3 := HK.out _ H3.out.2
  obtain ⟨c0, c1⟩ := hc3
  go_upto_region 3 with fail
  obtain ⟨pre, hpre⟩ : ∃ pre, pre = enc (n + 1) ++ enc z := ⟨_, rfl⟩
  rw [← hpre] at H3
  have HPRE := Lib.hid hpre
  have HPL := Lib.hid (show pre.length ≤ 20 by rw [hpre, List.length_append]; have := HL.out; omega)
  clear hpre c0 c1
  go_loopw [3, 4] (fun ov iv wr => ∃ j p : Nat, j ≤ z ∧ p = s.a + j ∧ iv = .int .i64 (p : Nat) ∧ Made w wr ov (pre ++ encTs (s.ls.ts.take j))) (fun _ iv _ => n - (intOf iv).toNat)
  case atStart => exact ⟨0, s.a, by omega, rfl, rfl, by rw [List.take_zero, show encTs [] = [] from rfl, List.append_nil]; exact H3.out⟩
  case round =>
    clear H3
    obtain ⟨j, p, hj, hp, rfl, hM⟩ := hrel
    have HM := Lib.hid hM
    have HP := Lib.hid (And.intro hp (show p ≤ n by have := HA.out; have := HZ.out; omega))
    obtain ⟨ps, hps⟩ : ∃ ps, ps = pre ++ encTs (s.ls.ts.take j) := ⟨_, rfl⟩
    have HPS := Lib.hid hps
    have HTL := Lib.hid (show ps.length ≤ 600000 by
      have h1 := encTs_len (ts := s.ls.ts.take j) (fun b hb => (HR.out.ok b (List.mem_of_mem_drop (List.mem_of_mem_take hb))).2.2)
      have h2 : (s.ls.ts.take j).length ≤ 300 := by rw [List.length_take]; have := HA.out; have := HZ.out; omega
      have h3 := HPL.out
      rw [hps, List.length_append]; omega)
    rw [← hps] at hM HM
    clear hps
    obtain ⟨A5, k5, hv5, -⟩ := made_src hM
    obtain ⟨pl, hpl⟩ : ∃ pl, pl = ps.length := ⟨_, rfl⟩
    have HPN := Lib.hid hpl
    rw [← hpl] at hv5 HTL
    subst hv5
    clear hpl
    obtain ⟨c0, c1⟩ := HK.out _ hM.2
    clear hM hp
    by_cases hlt : j < z
    · have hpn : p < n := by have := HP.out.1; have := HZ.out; omega
      obtain ⟨b, hb⟩ : ∃ b, s.all[p]? = some b := ⟨_, List.getElem?_eq_getElem (by rw [← HN.out]; exact hpn)⟩
      have hts : s.ls.ts[j]? = some b := by
        show (s.all.drop s.a)[j]? = some b
        rw [List.getElem?_drop, ← HP.out.1]; exact hb
      obtain ⟨g, hA, hcb⟩ := (HR.out.next HM.out.2).at_ hb
      have hok := HR.out.ok b (List.mem_of_getElem? hb)
      subst hA
      obtain ⟨g6, k6, w6, hcv, hk6, _, hg6, hb6, hy6⟩ := str_row wr b hok.1
      obtain ⟨tb, htb⟩ : ∃ tb, tb = enc b.length ++ b := ⟨_, rfl⟩
      have HTB := Lib.hid htb
      have HTX := Lib.hid (rftext_any (some ⟨g6, 0, none⟩) b.length k6 b w6 rfl (hy6.src (fun e => by cases e)) (by omega))
      rw [← htb] at HTX
      obtain ⟨tl, htl⟩ : ∃ tl, tl = tb.length := ⟨_, rfl⟩
      have HTN := Lib.hid htl
      have HEB := Lib.hid (show tl ≤ 1900 by rw [htl, htb, List.length_append]; have := hok.2.2; have := enc_len b.length (by omega); omega)
      clear htb htl
      have H6 := Lib.hid (And.intro (made_next HM.out hb6) hb6)
      have HTS := Lib.hid (And.intro hts (And.intro hok.2.2 hlt))
      have i1 : (p : Int) < (n : Nat) := by omega
      have i2 : (0 : Int) ≤ (p : Nat) := by omega
      have hn300 : n ≤ 300 := HA.out.2.1
      clear hk6 hg6 hb6 hy6 hok hts hb hlt hj hpn
      go_wp2_with (first | (go_at_call 78; refine HTX.out.mono ?_; rintro e w7 ⟨v7, rfl, hM⟩; obtain ⟨A7, k7, hv7, hs7⟩ := made_src hM; rw [← HTN.out] at hv7 hs7; subst hv7; have H7 := Lib.hid (And.intro (made_next H6.out.1 hM.2) hs7); clear hM hs7 HTX) | (refine wpList_append_u8 _ rfl _ _ rfl w.heap.size (.slice A5 pl k5) pl (u8s ps) rfl (by have := H7.out.1.1; rwa [← HPN.out] at this) A7 tl k7 (u8s tb) rfl (by rw [u8s_len, HTN.out]) H7.out.2 (u8s_one _) (by have := HTL.out; have := HEB.out; omega) H7.out.1.2.size ?_; intro v8 w8 hown hg _; have H8 := Lib.hid (made_app (a := ps) (b := tb) H7.out.1 (by rw [← HPN.out, ← HTN.out]; exact hown) hg); clear hown hg H7))
      go_roundw
      case rel => exact ⟨j + 1, p + 1, by have := HTS.out.2.2; omega, by have := HP.out.1; omega, by go_num, by rw [encTs_snoc HTS.out.1, ← HPS.out, ← HTB.out]; exact H8.out⟩
      case measure => simp [intOf]; have := HTS.out.2.2; have := HP.out; have := HZ.out; omega
    · have hpe : p = n := by have := HP.out; have := HZ.out; have := HA.out; omega
      have hjz : j = z := by omega
      have i1 : ¬ (p : Int) < (n : Nat) := by omega
      have c2 : wr.cell? ⟨r, o + 2, none⟩ = some (.int .i64 (s.t : Nat)) := (HR.out.next HM.out.2).c2
      obtain ⟨f1, f2, f3, f4⟩ := wr_i64 s.t (by have := HA.out; omega)
      have HEN := Lib.hid (show ps ++ enc (s.t + 1) = encL s.ls by
        rw [HPS.out]
        have hl : s.ls.ts.length = z := by rw [HZ.out, HN.out]; exact List.length_drop
        rw [List.take_of_length_le (by rw [hl, hjz]; exact Nat.le_refl _), HPRE.out]
        unfold encL
        rw [hl]
        show _ = enc (s.all.length + 1) ++ enc z ++ encTs s.ls.ts ++ enc (s.t + 1)
        rw [← HN.out])
      obtain ⟨tb, htb⟩ : ∃ tb, tb = enc (s.t + 1) := ⟨_, rfl⟩
      obtain ⟨tl, htl⟩ : ∃ tl, tl = tb.length := ⟨_, rfl⟩
      have HTN := Lib.hid htl
      have HET := Lib.hid (show tl ≤ 10 by rw [htl, htb]; exact enc_len _ (by clear f1 f2 f3 f4; have := HA.out; omega))
      have HTX := Lib.hid (HF3.out wr)
      rw [← htb] at HTX HEN
      clear hpe hjz hlt hj htb htl
      go_wp2_with (first | (go_at_call 59; refine HTX.out.mono ?_; rintro e w7 ⟨v7, rfl, hM⟩; obtain ⟨A7, k7, hv7, hs7⟩ := made_src hM; rw [← HTN.out] at hv7 hs7; subst hv7; have H7 := Lib.hid (And.intro (made_next HM.out hM.2) hs7); clear hM hs7) | (refine wpList_append_u8 _ rfl _ _ rfl w.heap.size (.slice A5 pl k5) pl (u8s ps) rfl (by have := H7.out.1.1; rwa [← HPN.out] at this) A7 tl k7 (u8s tb) rfl (by rw [u8s_len, HTN.out]) H7.out.2 (u8s_one _) (by clear f1 f2 f3 f4; have := HTL.out; have := HET.out; omega) H7.out.1.2.size ?_; intro v8 w8 hown hg _; have H8 := Lib.hid (made_app (a := ps) (b := tb) H7.out.1 (by rw [← HPN.out, ← HTN.out]; exact hown) hg); clear hown hg H7))
      clear f1 f2 f3 f4
      go_ret
      refine ⟨v8, rfl, ?_⟩
      rw [← HEN.out]
      exact H8.out
end Lk
end Go.Proofs.Ytifoheodcbjapaa
