/-
peers: mayHave; get: a subscription of bytes.
-/
import Derived.Test.YtlceljcplmcjgaaPe6
import Derived.Test.YtlceljcplmcjgaaBack
namespace Go.Proofs.Ytlceljcplmcjgaa
open Go.RowKit
set_option linter.unusedSimpArgs false
set_option linter.unusedVariables false
namespace Pe
def upP (p : Nat → Bool) (v : Nat) : Nat → Bool := fun i => if i = v then true else p i
/-- Peers, rising, behind the node last. -/
def peerA (nd : Int) (p : Nat → Bool) (last : Nat) : Nat → List Nat → Except Int ((Nat → Bool) × List Nat)
  | 0, bs => .ok (p, bs)
  | m + 1, bs => match smallP 12 bs with
    | .ok (v, t) => if last < v ∧ (v : Int) ≠ nd then peerA nd (upP p (v - 1)) v m t else .error 3
    | .error x => .error x
def subP3 (nd : Int) (st n : Nat) (u : List Nat) : Except Int ((Int × (Nat → Bool)) × List Nat) :=
  match peerA nd (fun _ => false) 0 n u with
  | .error x => .error x
  | .ok (p, r) => .ok (((st : Nat), p), r)
def subP2 (nd : Int) (st : Nat) (t : List Nat) : Except Int ((Int × (Nat → Bool)) × List Nat) :=
  match smallP 11 t with
  | .error x => .error x
  | .ok (n, u) => if mayB (st : Nat) n = true then subP3 nd st n u else .error 3
def subP (nd : Int) (bs : List Nat) : Except Int ((Int × (Nat → Bool)) × List Nat) :=
  match smallP 3 bs with
  | .error x => .error x
  | .ok (s, t) => subP2 nd s t
theorem subP_err {nd : Int} {bs : List Nat} {x : Int} (h : smallP 3 bs = .error x) : subP nd bs = .error x := by unfold subP; rw [h]
theorem subP_ok {nd : Int} {bs t : List Nat} {st : Nat} (h : smallP 3 bs = .ok (st, t)) : subP nd bs = subP2 nd st t := by unfold subP; rw [h]
theorem subP2_err {nd : Int} {st : Nat} {t : List Nat} {x : Int} (h : smallP 11 t = .error x) : subP2 nd st t = .error x := by unfold subP2; rw [h]
theorem subP2_not {nd : Int} {st n : Nat} {t u : List Nat} (h : smallP 11 t = .ok (n, u)) (hm : mayB (st : Nat) n = false) : subP2 nd st t = .error 3 := by unfold subP2; rw [h]; dsimp only; rw [hm]; rfl
theorem subP2_ok {nd : Int} {st n : Nat} {t u : List Nat} (h : smallP 11 t = .ok (n, u)) (hm : mayB (st : Nat) n = true) : subP2 nd st t = subP3 nd st n u := by unfold subP2; rw [h]; dsimp only; rw [hm, if_pos rfl]
theorem subP3_err {nd : Int} {st n : Nat} {u : List Nat} {x : Int} (h : peerA nd (fun _ => false) 0 n u = .error x) : subP3 nd st n u = .error x := by unfold subP3; rw [h]
theorem subP3_ok {nd : Int} {st n : Nat} {u r : List Nat} {p : Nat → Bool} (h : peerA nd (fun _ => false) 0 n u = .ok (p, r)) : subP3 nd st n u = .ok (((st : Nat), p), r) := by unfold subP3; rw [h]
theorem peerA_err {nd : Int} {p : Nat → Bool} {last m : Nat} {bs : List Nat} {x : Int} (h : smallP 12 bs = .error x) : peerA nd p last (m + 1) bs = .error x := by simp only [peerA, h]
theorem peerA_not {nd : Int} {p : Nat → Bool} {last m v : Nat} {bs t : List Nat} (h : smallP 12 bs = .ok (v, t)) (h2 : ¬ (last < v ∧ (v : Int) ≠ nd)) : peerA nd p last (m + 1) bs = .error 3 := by simp only [peerA, h]; rw [if_neg h2]
theorem peerA_ok {nd : Int} {p : Nat → Bool} {last m v : Nat} {bs t : List Nat} (h : smallP 12 bs = .ok (v, t)) (h2 : last < v ∧ (v : Int) ≠ nd) : peerA nd p last (m + 1) bs = peerA nd (upP p (v - 1)) v m t := by simp only [peerA, h]; rw [if_pos h2]
theorem peerA_ne0 : ∀ (m : Nat) (nd : Int) (p : Nat → Bool) (last : Nat) (bs : List Nat) (x : Int), peerA nd p last m bs = .error x → x ≠ 0
  | 0, nd, p, last, bs, x, h => by cases h
  | m + 1, nd, p, last, bs, x, h => by
    cases hv : smallP 12 bs with
    | error y => rw [peerA_err hv] at h; cases h; exact Nd.smallP_ne0 hv
    | ok z =>
      obtain ⟨v, t⟩ := z
      by_cases h2 : last < v ∧ (v : Int) ≠ nd
      · rw [peerA_ok hv h2] at h; exact peerA_ne0 m _ _ _ _ _ h
      · rw [peerA_not hv h2] at h; cases h; decide
theorem subP_ne0 {nd : Int} {bs : List Nat} {x : Int} (h : subP nd bs = .error x) : x ≠ 0 := by
  cases h1 : smallP 3 bs with
  | error y => rw [subP_err h1] at h; cases h; exact Nd.smallP_ne0 h1
  | ok z =>
    obtain ⟨st, t⟩ := z
    rw [subP_ok h1] at h
    cases h2 : smallP 11 t with
    | error y => rw [subP2_err h2] at h; cases h; exact Nd.smallP_ne0 h2
    | ok z2 =>
      obtain ⟨n, u⟩ := z2
      cases hm : mayB (st : Nat) n with
      | false => rw [subP2_not h2 hm] at h; cases h; decide
      | true =>
        rw [subP2_ok h2 hm] at h
        cases h3 : peerA nd (fun _ => false) 0 n u with
        | error y => rw [subP3_err h3] at h; cases h; exact peerA_ne0 _ _ _ _ _ _ h3
        | ok z3 => obtain ⟨p, r⟩ := z3; rw [subP3_ok h3] at h; cases h
section
variable (W : World)
theorem mayhave_any (s : Int) (n : Nat) : Calls Try.prog 65 #[.int .i64 s, .int .i64 (n : Nat)] W fun e W' => e = .returned (.bool (mayB s n)) ∧ W = W' := by
  have hd : ∀ m : Nat, ((n : Int) == (m : Nat)) = decide (n = m) := fun m => by
    by_cases h : n = m
    · subst h; simp
    · rw [decide_eq_false h]; simp; omega
  have H0 := Lib.hid (hd 0)
  have H1 := Lib.hid (hd 1)
  clear hd
  by_cases h0 : s = 0
  · subst h0
    go_enter Try.func65, Try.ntmps65
    go_wp2_with fail
    go_ret
    exact ⟨by unfold mayB; rw [if_pos rfl, ← H0.out]; rfl, rfl⟩
  · have i0 : (s == 0) = false := by simp [h0]
    by_cases h1 : s = 1
    · subst h1
      clear i0 h0
      go_enter Try.func65, Try.ntmps65
      go_wp2_with fail
      go_ret
      exact ⟨by unfold mayB; rw [if_neg (by decide), if_pos (by decide), ← H1.out]; rfl, rfl⟩
    · have i1 : (s == 1) = false := by simp [h1]
      by_cases h3 : s = 3
      · subst h3
        clear i0 h0 i1 h1
        go_enter Try.func65, Try.ntmps65
        go_wp2_with fail
        go_ret
        exact ⟨by unfold mayB; rw [if_neg (by decide), if_pos (by decide), ← H1.out]; rfl, rfl⟩
      · have i3 : (s == 3) = false := by simp [h3]
        have HV := Lib.hid (show mayB s n = true by unfold mayB; rw [if_neg h0, if_neg (by omega)])
        clear h0 h1 h3
        go_enter Try.func65, Try.ntmps65
        go_wp2_with fail
        go_ret
        exact ⟨by rw [HV.out]; rfl, rfl⟩
end
def zsub : Array Value := #[.int .i64 0, .bool false, .bool false, .bool false, .bool false, .bool false, .bool false, .bool false, .bool false, .bool false, .bool false, .bool false, .bool false]
theorem built_sub (n : Int) : Try.prog.built 47 [(0, .int .i64 n)] = some #[.int .i64 n, .bool false, .bool false, .bool false, .bool false, .bool false, .bool false, .bool false, .bool false, .bool false, .bool false, .bool false, .bool false] := by kernel_rfl
theorem sl_new (s : Int) : (sl s (fun _ => false)).toArray = #[.int .i64 s, .bool false, .bool false, .bool false, .bool false, .bool false, .bool false, .bool false, .bool false, .bool false, .bool false, .bool false, .bool false] := by
  unfold sl
  rw [bl_zero]
  rfl
theorem sl_setP (s : Int) (p : Nat → Bool) {j : Nat} (hj : j < 12) : (sl s p).toArray.setIfInBounds (1 + j) (.bool true) = (sl s (upP p j)).toArray := by
  rw [List.setIfInBounds_toArray]
  congr 1
  apply List.ext_getElem?
  intro i
  rw [List.getElem?_set, sl_len]
  by_cases hi : i < 13
  · rw [sl_at _ _ hi, sl_at _ _ hi]
    by_cases h : 1 + j = i
    · rw [if_pos h, if_pos (by omega), if_neg (by omega)]
      unfold upP
      rw [if_pos (by omega)]
    · rw [if_neg h]
      by_cases h0 : i = 0
      · rw [if_pos h0, if_pos h0]
      · rw [if_neg h0, if_neg h0]
        unfold upP
        rw [if_neg (by omega)]
  · rw [if_neg (by omega), List.getElem?_eq_none (by rw [sl_len]; omega), List.getElem?_eq_none (by rw [sl_len]; omega)]
/-- A subscription that is being read: the reader, the result's box g4, its own g5. -/
structure SM (L : Nat) (W w : World) (k s d g4 g5 : Nat) (nd : Int) (cur : List Nat) (st : Int) (p : Nat → Bool) : Prop where
  hk : k < W.heap.size
  hs : s < W.heap.size
  hL : L ≤ W.heap.size
  h4 : W.heap.size ≤ g4
  h5 : W.heap.size ≤ g5
  off : Off s W w
  rd : RdB L w s cur
  rr : Rdr w k s
  b4 : Blk w g4 47 zsub
  b5 : Blk w g5 47 (sl st p).toArray
  ne : g4 ≠ g5
  dn : d < W.heap.size ∧ d ≠ s ∧ w.cell? ⟨d, 0, none⟩ = some (.int .i64 nd)
section
variable {L : Nat} {W w w' : World} {k s d g4 g5 : Nat} {nd st : Int} {cur cur' : List Nat} {p : Nat → Bool}
theorem SM.read (h : SM L W w k s d g4 g5 nd cur st p) (hO : Off s w w') (hB : RdB L w' s cur') : SM L W w' k s d g4 g5 nd cur' st p :=
  ⟨h.hk, h.hs, h.hL, h.h4, h.h5, h.off.trans hO, hB, h.rr.off hO, (hO.block g4 h.b4.lt (by have := h.hs; have := h.h4; omega)).trans h.b4, (hO.block g5 h.b5.lt (by have := h.hs; have := h.h5; omega)).trans h.b5, h.ne, h.dn.1, h.dn.2.1,
    (World.cell?_of_block (hO.block d (Nat.lt_of_lt_of_le h.dn.1 h.off.size) h.dn.2.1)).trans h.dn.2.2⟩
theorem SM.below (h : SM L W w k s d g4 g5 nd cur st p) (hb : Below w.heap.size w w') : SM L W w' k s d g4 g5 nd cur st p :=
  h.read ⟨hb.os, hb.tape, hb.output, hb.size, fun b h _ => hb.block b h⟩ (Nd.rdb_keep h.rd (hb.block s (Nat.lt_of_lt_of_le h.hs h.off.size)) (fun b _ _ h2 => hb.block b h2) hb.size)
theorem SM.fill (h : SM L W w k s d g4 g5 nd cur st p) {j : Nat} (hj : j < 12) : SM L W (w.setCell ⟨g5, 1 + j, none⟩ (.bool true)) k s d g4 g5 nd cur st (upP p j) := by
  have hk : ∀ b, b ≠ g5 → (w.setCell ⟨g5, 1 + j, none⟩ (.bool true)).heap[b]? = w.heap[b]? := fun b hb => Below.heap_setCell w ⟨g5, 1 + j, none⟩ _ b hb
  have hgs : s ≠ g5 := by have := h.hs; have := h.h5; omega
  refine ⟨h.hk, h.hs, h.hL, h.h4, h.h5, ⟨h.off.os, h.off.tape, h.off.output, by simpa [World.setCell] using h.off.size, fun b hb hs => (hk b (by have := h.h5; omega)).trans (h.off.block b hb hs)⟩, ?_, ?_, h.b4.far h.ne _, ?_, h.ne, h.dn.1, h.dn.2.1, ?_⟩
  · exact Nd.rdb_keep h.rd (hk s hgs) (fun b hb _ _ => hk b (by have := h.hL; have := h.h5; omega)) (by simp [World.setCell])
  · exact ⟨h.rr.1, (World.cell?_of_block (hk k (by have := h.hk; have := h.h5; omega))).trans h.rr.2⟩
  · have := h.b5.setCell (1 + j) (.bool true)
    rw [sl_setP st p hj] at this
    exact this
  · exact (World.cell?_of_block (hk d (by have := h.dn.1; have := h.h5; omega))).trans h.dn.2.2
end
/-- What a reading of a subscription ends in. -/
def EndS (L s : Nat) (W : World) (nd : Int) (bs : List Nat) (e : Ending) (W' : World) : Prop :=
  Off s W W' ∧ match subP nd bs with
  | .error x => e = .panicked [{ v := flt s, recovered := false }] ∧ Met' W' s x
  | .ok ((st, p), r) => e = .returned (.agg (sl st p).toArray) ∧ RdB L W' s r
theorem EndS.err {L s : Nat} {W W' : World} {nd : Int} {bs : List Nat} {x : Int} (h : subP nd bs = .error x) (hO : Off s W W') (hM : Met' W' s x) : EndS L s W nd bs (.panicked [{ v := flt s, recovered := false }]) W' := by
  unfold EndS; rw [h]; exact ⟨hO, rfl, hM⟩
theorem EndS.ok {L s : Nat} {W W' : World} {nd st : Int} {bs r : List Nat} {p : Nat → Bool} (h : subP nd bs = .ok ((st, p), r)) (hO : Off s W W') (hB : RdB L W' s r) : EndS L s W nd bs (.returned (.agg (sl st p).toArray)) W' := by
  unfold EndS; rw [h]; exact ⟨hO, rfl, hB⟩
theorem off_alloc {s : Nat} {W w : World} (h : Off s W w) (o : Obj) : Off s W (w.alloc o) := h.trans ⟨rfl, rfl, rfl, by simp, fun k hk _ => Below.heap_alloc w o k hk⟩
section
variable {L k s d : Nat} {W : World} {bs : List Nat} {nd : Int}
set_option maxRecDepth 20000 in
set_option maxHeartbeats 16000000 in
theorem getsub_any (hr : Rdr W k s) (h : RdB L W s bs) (hk : k < W.heap.size) (hs : s < W.heap.size) (hL : L ≤ W.heap.size) (hd : d < W.heap.size) (hds : d ≠ s) (hc : W.cell? ⟨d, 0, none⟩ = some (.int .i64 nd)) :
    Calls Try.prog 60 #[.pointer (some ⟨d, 0, none⟩), .pointer (some ⟨k, 0, none⟩)] W fun e W' => EndS L s W nd bs e W' := by
  have b1 : Below W.heap.size W (W.alloc (.cells zsub 47)) := (Below.refl _ _).alloc (Nat.le_refl _) _
  have hx1 : Blk (W.alloc (.cells zsub 47)) W.heap.size 47 zsub := Blk.new _ _ _
  obtain ⟨w1, hw1⟩ : ∃ w1, w1 = W.alloc (.cells zsub 47) := ⟨_, rfl⟩
  rw [← hw1] at b1 hx1
  unfold zsub at hw1
  have hO1 : Off s W w1 := ⟨b1.os, b1.tape, b1.output, b1.size, fun b h _ => b1.block b h⟩
  have hR1 : RdB L w1 s bs := Nd.rdb_keep h (b1.block s hs) (fun b _ _ h2 => b1.block b h2) b1.size
  have hc1 := cell_next b1 hc
  have HST := Lib.hid (And.intro hk (And.intro hs (And.intro hL (And.intro hd hds))))
  have HO1 := Lib.hid hO1
  have HX1 := Lib.hid hx1
  have HR1 := Lib.hid (And.intro hR1 (hr.off hO1))
  have HC1 := Lib.hid hc1
  have HS1 := Lib.hid (rsmall_any k s bs 3 w1 (hr.off hO1) hR1 (by decide))
  obtain ⟨R, hR⟩ : ∃ R, R = smallP 3 bs := ⟨_, rfl⟩
  have hRle := fun v t h => Nd.small_le (most := 3) (bs := bs) (v := v) (t := t) h
  rw [← hR] at HS1 hRle
  clear hr h hk hs hL hd hds hc b1 hx1 hO1 hR1 hc1
  match R with
  | .error y =>
    go_enter Try.func60, Try.ntmps60
    go_upto_region 1 with fail
    rw [← hw1]
    have HQ := Lib.hid (subP_err (nd := nd) hR.symm)
    clear hw1 hRle hR
    go_wp2_with (go_at_call 58; refine HS1.out.mono ?_; rintro e w2 ⟨hO, rfl, hM⟩; have HO := Lib.hid hO; have HM := Lib.hid hM; clear hO hM HS1)
    exact ⟨rfl, .err HQ.out (HO1.out.trans HO.out) HM.out⟩
  | .ok (st, t) =>
    have HLE := Lib.hid (hRle st t rfl)
    have HQ := Lib.hid (subP_ok (nd := nd) hR.symm)
    clear hRle hR
    have HBU := Lib.hid (built_sub (st : Nat))
    go_enter Try.func60, Try.ntmps60
    go_upto_region 1 with fail
    rw [← hw1]
    clear hw1
    go_upto_region 2 with (first | (go_at_call 58; refine HS1.out.mono ?_; rintro e w2 ⟨hO, rfl, hB⟩; have HO := Lib.hid hO; have HB := Lib.hid hB; clear hO hB HS1) | (refine Nd.wpList_build_lit #[.int .i64 ((st : Nat) : Int), .bool false, .bool false, .bool false, .bool false, .bool false, .bool false, .bool false, .bool false, .bool false, .bool false, .bool false, .bool false] rfl 47 _ rfl HBU.out ?_) | (refine wpList_store_blk rfl 47 _ _ rfl w2.heap.size 47 _ #[.int .i64 ((st : Nat) : Int), .bool false, .bool false, .bool false, .bool false, .bool false, .bool false, .bool false, .bool false, .bool false, .bool false, .bool false, .bool false] rfl rfl (Blk.new' rfl) (by kernel_rfl) rfl (by simp [Value.oneCell']) ?_; intro _; rw [Wr.alloc_setRow]))
    obtain ⟨w3, hw3⟩ : ∃ w3, w3 = w2.alloc (.cells #[.int .i64 ((st : Nat) : Int), .bool false, .bool false, .bool false, .bool false, .bool false, .bool false, .bool false, .bool false, .bool false, .bool false, .bool false, .bool false] 47) := ⟨_, rfl⟩
    (try rw [← hw3])
    have hb3 : Below w2.heap.size w2 w3 := by rw [hw3]; exact (Below.refl _ _).alloc (Nat.le_refl _) _
    have hx3 : Blk w3 w2.heap.size 47 (sl (st : Nat) (fun _ => false)).toArray := by rw [hw3, sl_new]; exact Blk.new _ _ _
    have HO2 := Lib.hid (HO1.out.trans HO.out)
    have hSM : SM L W w3 k s d W.heap.size w2.heap.size nd t (st : Nat) (fun _ => false) :=
      ⟨HST.out.1, HST.out.2.1, HST.out.2.2.1, Nat.le_refl _, HO2.out.size, HO2.out.trans ⟨hb3.os, hb3.tape, hb3.output, hb3.size, fun b h _ => hb3.block b h⟩,
        Nd.rdb_keep HB.out (hb3.block s (Nat.lt_of_lt_of_le HST.out.2.1 HO2.out.size)) (fun b _ _ h2 => hb3.block b h2) hb3.size,
        (HR1.out.2.off HO.out).off ⟨hb3.os, hb3.tape, hb3.output, hb3.size, fun b h _ => hb3.block b h⟩,
        ((show Blk w2 W.heap.size 47 zsub from (HO.out.block _ HX1.out.lt (by have := HST.out.2.1; omega)).trans HX1.out).next hb3), hx3, by
          have := HX1.out.lt
          have := HO.out.size
          omega, HST.out.2.2.2.1, HST.out.2.2.2.2, cell_next hb3 ((World.cell?_of_block (HO.out.block d (by have := HO1.out.size; have := HST.out.2.2.2.1; omega) HST.out.2.2.2.2)).trans HC1.out)⟩
    obtain ⟨g5, hg5⟩ : ∃ g5, g5 = w2.heap.size := ⟨_, rfl⟩
    rw [← hg5] at hSM
    (try rw [← hg5])
    have HSM := Lib.hid hSM
    clear hw3 hb3 hx3 hSM hg5 HO HB HO2 HX1 HR1 HC1 HBU HO1
    have HS2 := Lib.hid (rsmall_any k s t 11 w3 HSM.out.rr HSM.out.rd (by decide))
    obtain ⟨R2, hR2⟩ : ∃ R, R = smallP 11 t := ⟨_, rfl⟩
    have hRle := fun v t' h => Nd.small_le (most := 11) (bs := t) (v := v) (t := t') h
    rw [← hR2] at HS2 hRle
    match R2 with
    | .error y =>
      have HQ2 := Lib.hid (HQ.out.trans (subP2_err hR2.symm))
      clear hRle hR2
      go_wp2_with (go_at_call 58; refine HS2.out.mono ?_; rintro e w4 ⟨hO, rfl, hM⟩; have HO := Lib.hid hO; have HM := Lib.hid hM; clear hO hM HS2)
      exact ⟨rfl, .err HQ2.out (HSM.out.off.trans HO.out) HM.out⟩
    | .ok (n, u) =>
      have HLN := Lib.hid (hRle n u rfl)
      clear hRle
      go_upto_region 3 with (go_at_call 58; refine HS2.out.mono ?_; rintro e w4 ⟨hO, rfl, hB⟩; have HSM4 := Lib.hid (HSM.out.read hO hB); clear hO hB HS2 HSM)
      have c5 : w4.cell? ⟨g5, 0, none⟩ = some (.int .i64 ((st : Nat) : Int)) := by rw [HSM4.out.b5.cell, List.getElem?_toArray]; exact sl_0 _ _
      have HMH := Lib.hid (mayhave_any w4 ((st : Nat) : Int) n)
      cases hm : mayB ((st : Nat) : Int) n with
      | false =>
        rw [hm] at HMH
        have HQ2 := Lib.hid (HQ.out.trans (subP2_not hR2.symm hm))
        clear hm hR2
        go_wp2_with (first | (go_at_call 65; refine HMH.out.mono ?_; rintro e w5 ⟨rfl, rfl⟩; clear HMH) | (go_at_call 59; refine (rmust_not k s u _ HSM4.out.rr HSM4.out.rd).mono ?_; rintro e w6 ⟨rfl, hM, hO2⟩; have HM := Lib.hid hM; have HO2 := Lib.hid hO2; clear hM hO2))
        exact ⟨rfl, .err HQ2.out (HSM4.out.off.trans HO2.out) HM.out⟩
      | true =>
        rw [hm] at HMH
        have HQ2 := Lib.hid (HQ.out.trans (subP2_ok hR2.symm hm))
        clear hm hR2
        go_upto_region 6 with (first | (go_at_call 65; refine HMH.out.mono ?_; rintro e w5 ⟨rfl, rfl⟩; clear HMH) | (go_at_call 59; refine (rmust_yes k s u _ HSM4.out.rr HSM4.out.rd).mono ?_; rintro e w6 ⟨rfl, rfl⟩))
        clear c5
        go_loopw [7, 21] (fun la i wr => ∃ (j last : Nat) (p : Nat → Bool) (cur : List Nat), j ≤ n ∧ last ≤ 12 ∧ la = .int .i64 last ∧ i = .int .i64 j ∧ SM L W wr k s d W.heap.size g5 nd cur (st : Nat) p ∧ peerA nd (fun _ => false) 0 n u = peerA nd p last (n - j) cur) (fun _ i _ => n - (intOf i).toNat)
        case atStart => exact ⟨0, 0, fun _ => false, u, Nat.zero_le _, by omega, rfl, rfl, HSM4.out, by rw [Nat.sub_zero]⟩
        case round =>
          clear HSM4
          obtain ⟨j, last, p, cur, hj, hla, rfl, rfl, hM, hP⟩ := hrel
          have HM := Lib.hid hM
          have HPA := Lib.hid hP
          have HLA := Lib.hid hla
          clear hM hP hla
          by_cases hlt : j < n
          · have i1 : (j : Int) < (n : Nat) := by omega
            obtain ⟨jj, hjj⟩ : ∃ jj, jj = j + 1 := ⟨_, rfl⟩
            have HW := Lib.hid (Nd.wrap_n j jj hjj (by have := HLN.out; omega))
            have HJ := Lib.hid (And.intro hjj hlt)
            have hnj : n - j = (n - jj) + 1 := by omega
            have HNJ := Lib.hid hnj
            have HS3 := Lib.hid (rsmall_any k s cur 12 wr HM.out.rr HM.out.rd (by decide))
            obtain ⟨R3, hR3⟩ : ∃ R, R = smallP 12 cur := ⟨_, rfl⟩
            have hRle := fun v t' h => Nd.small_le (most := 12) (bs := cur) (v := v) (t := t') h
            rw [← hR3] at HS3 hRle
            clear hj hlt hjj hnj
            match R3 with
            | .error y =>
              have HE := Lib.hid (HQ2.out.trans (subP3_err (HPA.out.trans ((congrArg (fun m => peerA nd p last m cur) HNJ.out).trans (peerA_err hR3.symm)))))
              clear hRle hR3
              go_wp2_with (go_at_call 58; refine HS3.out.mono ?_; rintro e w7 ⟨hO, rfl, hM⟩; have HO := Lib.hid hO; have HMT := Lib.hid hM; clear hO hM HS3)
              exact ⟨rfl, .err HE.out (HM.out.off.trans HO.out) HMT.out⟩
            | .ok (v, t') =>
              have HV := Lib.hid (hRle v t' rfl)
              clear hRle
              by_cases hok : last < v ∧ (v : Int) ≠ nd
              · have HE := Lib.hid (HPA.out.trans ((congrArg (fun m => peerA nd p last m cur) HNJ.out).trans (peerA_ok hR3.symm hok)))
                have g1 : (last : Int) < (v : Nat) := by omega
                have g2 : (((v : Nat) : Int) != nd) = true := by simp [hok.2]
                obtain ⟨vv, hvv⟩ : ∃ vv, v = vv + 1 := ⟨v - 1, by omega⟩
                have HVV := Lib.hid (show v = vv + 1 ∧ vv < 12 from ⟨hvv, by have := HV.out; omega⟩)
                have e1 : wrap64 (((v : Nat) : Int) - 1) = (vv : Nat) := by have := HV.out; unfold wrap64; omega
                have e2 : (vv : Int) < 12 := by have := HV.out; omega
                have e3 : ¬ (vv : Int) < 0 := by omega
                clear hok hvv hR3
                go_upto_region 8 with (go_at_call 58; refine HS3.out.mono ?_; rintro e w7 ⟨hO, rfl, hB⟩; have HM7 := Lib.hid (HM.out.read hO hB); clear hO hB HS3)
                clear i1
                have cd := HM7.out.dn.2.2
                go_upto_region 9 with (go_at_call 59; refine (rmust_yes k s t' _ HM7.out.rr HM7.out.rd).mono ?_; rintro e w8 ⟨rfl, rfl⟩)
                clear cd g1 g2
                have c5 : w7.cell? ⟨g5, 1 + vv, none⟩ = some (.bool (p vv)) := by rw [HM7.out.b5.cell, List.getElem?_toArray, sl_1, bl_get _ HVV.out.2]
                have z5 := HM7.out.b5.frozen (1 + vv)
                have HM8 := Lib.hid (HM7.out.fill HVV.out.2)
                go_wp2_with fail
                (try rw [HW.out])
                go_roundw
                case rel => exact ⟨jj, v, _, t', by have := HJ.out; omega, by have := HV.out; omega, rfl, by first | rfl | simp [HJ.out.1], HM8.out, by rw [HE.out, HVV.out.1, Nat.add_sub_cancel]⟩
                case measure => have := HJ.out; simp [intOf]; omega
              · have HE := Lib.hid (HQ2.out.trans (subP3_err (HPA.out.trans ((congrArg (fun m => peerA nd p last m cur) HNJ.out).trans (peerA_not hR3.symm hok)))))
                have hor : ¬ (last : Int) < (v : Nat) ∨ ((last : Int) < (v : Nat) ∧ ((v : Nat) : Int) = nd) := by
                  by_cases h1 : last < v
                  · exact .inr ⟨by omega, by
                      by_cases h2 : ((v : Nat) : Int) = nd
                      · exact h2
                      · exact absurd ⟨h1, h2⟩ hok⟩
                  · exact .inl (by omega)
                clear hok hR3
                go_upto_region 8 with (go_at_call 58; refine HS3.out.mono ?_; rintro e w7 ⟨hO, rfl, hB⟩; have HM7 := Lib.hid (HM.out.read hO hB); clear hO hB HS3)
                clear i1
                have cd := HM7.out.dn.2.2
                rcases hor with g1 | ⟨g1, g2⟩
                · go_wp2_with (go_at_call 59; refine (rmust_not k s t' _ HM7.out.rr HM7.out.rd).mono ?_; rintro e w8 ⟨rfl, hM, hO2⟩; have HMT := Lib.hid hM; have HO2 := Lib.hid hO2; clear hM hO2)
                  exact ⟨rfl, .err HE.out (HM7.out.off.trans HO2.out) HMT.out⟩
                · subst g2
                  go_wp2_with (go_at_call 59; refine (rmust_not k s t' _ HM7.out.rr HM7.out.rd).mono ?_; rintro e w8 ⟨rfl, hM, hO2⟩; have HMT := Lib.hid hM; have HO2 := Lib.hid hO2; clear hM hO2)
                  exact ⟨rfl, .err HE.out (HM7.out.off.trans HO2.out) HMT.out⟩
          · have i1 : ¬ (j : Int) < (n : Nat) := by omega
            have hjn : j = n := by omega
            subst hjn
            have HE := Lib.hid (HQ2.out.trans (subP3_ok (HPA.out.trans (by rw [Nat.sub_self]; rfl : peerA nd p last (j - j) cur = .ok (p, cur)))))
            clear hj hlt
            have hr5 : wr.rangeAt g5 0 (sl (st : Nat) p) := HM.out.b5.range
            go_wp2_with (first | (refine wpList_load_mid rfl 47 _ rfl _ _ rfl (sl (st : Nat) p) _ hr5 Try.underlying47 rfl (slinfo _ _) ?_) | (refine wpList_store_blk rfl 47 _ _ rfl W.heap.size 47 zsub (sl (st : Nat) p).toArray rfl rfl HM.out.b4 (slinfoA _ _) (sl_size _ _).symm (sl_all _ _) ?_; intro hY))
            have hoo : Off s W (wr.setRow W.heap.size (sl (st : Nat) p).toArray) := ⟨HM.out.off.os, HM.out.off.tape, HM.out.off.output, by simpa using HM.out.off.size, fun b hb hbs => (setRow_other wr W.heap.size b _ (by omega)).trans (HM.out.off.block b hb hbs)⟩
            refine bodyPost_row (t := 47) _ rfl rfl rfl Try.underlying47 rfl (slinfoA _ _) hY (.ok HE.out hoo ?_)
            exact Nd.rdb_keep HM.out.rd (setRow_other wr W.heap.size s _ (by have := HM.out.hs; omega)) (fun b hb _ _ => setRow_other wr W.heap.size b _ (by have := HM.out.hL; omega)) (by simp)
end
end Pe
end Go.Proofs.Ytlceljcplmcjgaa
