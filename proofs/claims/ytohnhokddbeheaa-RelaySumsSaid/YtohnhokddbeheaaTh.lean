/-
interest: Wants.
-/
import Derived.Test.YtohnhokddbeheaaTg
namespace Go.Proofs.Ytohnhokddbeheaa
open Go.RowKit
set_option linter.unusedSimpArgs false
set_option linter.unusedVariables false
namespace Tr
/-- Is a number in a row? -/
def hasB (l : List Nat) (x : Int) : Bool := l.any fun n => decide (((n : Nat) : Int) = x)
theorem has_iff {l : List Nat} {x : Int} : hasB l x = true ↔ ∃ n ∈ l, ((n : Nat) : Int) = x := by unfold hasB; simp
theorem has_nat {l : List Nat} {n : Nat} : hasB l (n : Nat) = true ↔ n ∈ l := by
  rw [has_iff]
  constructor
  · rintro ⟨m, hm, e⟩; rw [show n = m by omega]; exact hm
  · exact fun h => ⟨n, h, rfl⟩
theorem has_no {l : List Nat} {x : Int} (h : ∀ (j n : Nat), l[j]? = some n → ((n : Nat) : Int) ≠ x) : hasB l x = false := by
  cases hb : hasB l x with
  | false => rfl
  | true =>
    obtain ⟨n, hn, e⟩ := has_iff.1 hb
    obtain ⟨j, hj⟩ := List.getElem?_of_mem hn
    exact absurd e (h j n hj)
section
variable (W : World)
set_option maxRecDepth 20000 in
set_option maxHeartbeats 4000000 in
theorem sindex_any {B : Nat} {v : Value} {l : List Nat} (hN : Nds W B v l) (hl : l.length ≤ 1000) (x : Int) :
    Calls Try.prog 62 #[v, .int .i64 x] W fun e W' => ∃ r : Int, e = .returned (.int .i64 r) ∧ ((r = -1 ∧ hasB l x = false) ∨ (0 ≤ r ∧ hasB l x = true)) ∧ W' = W := by
  obtain ⟨A, cp, hv⟩ := hN.shape
  subst hv
  obtain ⟨n, hn⟩ : ∃ n, n = l.length := ⟨_, rfl⟩
  rw [← hn] at hl
  have HN := Lib.hid (And.intro hn hl)
  have HR := Lib.hid hN
  rw [← hn]
  clear hn hl hN
  go_enter Try.func62, Try.ntmps62
  go_upto_region 2 with fail
  go_loopw [8] (fun i wr => ∃ j : Nat, j ≤ n ∧ i = .int .i64 j ∧ (∀ m y, m < j → l[m]? = some y → ((y : Nat) : Int) ≠ x) ∧ wr = W) (fun i _ => n - (intOf i).toNat)
  case atStart => exact ⟨0, Nat.zero_le _, rfl, fun m y h _ => absurd h (by omega), rfl⟩
  case round =>
    obtain ⟨j, hj, rfl, hq, rfl⟩ := hrel
    have HQ := Lib.hid hq
    by_cases hlt : j < n
    · have i1 : (j : Int) < (n : Nat) := by omega
      have i2 : ¬ (j : Int) < 0 := by omega
      obtain ⟨jj, hjj⟩ : ∃ jj, jj = j + 1 := ⟨_, rfl⟩
      have HW := Lib.hid (wrap_n j jj hjj (by have := HN.out; omega))
      have HJ := Lib.hid (And.intro hjj hlt)
      obtain ⟨m, hm⟩ : ∃ m, l[j]? = some m := ⟨_, List.getElem?_eq_getElem (by rw [← HN.out.1]; exact hlt)⟩
      obtain ⟨q, qo, qc, ev, hq2, cm⟩ := HR.out.at_ hm
      simp only [Value.slice.injEq] at ev
      obtain ⟨rfl, -, rfl⟩ := ev
      have HM := Lib.hid hm
      clear hj hq hlt hjj hm hq2
      by_cases hx : x = ((m : Nat) : Int)
      · have t1 : (x == ((m : Nat) : Int)) = true := by rw [hx]; simp
        have HX := Lib.hid hx
        clear hx
        go_wp2_with fail
        go_ret
        exact ⟨_, rfl, Or.inr ⟨by omega, has_iff.2 ⟨m, List.mem_of_getElem? HM.out, HX.out.symm⟩⟩, rfl⟩
      · have t1 : (x == ((m : Nat) : Int)) = false := by simpa using hx
        have HX := Lib.hid hx
        go_wp2_with fail
        rw [HW.out]
        go_roundw
        case rel => exact ⟨jj, by have := HJ.out; omega, rfl, fun k y hk hy => by
          by_cases h : k = j
          · subst h
            rw [HM.out] at hy
            simp only [Option.some.injEq] at hy
            subst hy
            exact fun e => HX.out e.symm
          · exact HQ.out k y (by have := HJ.out; omega) hy, by trivial⟩
        case measure => have := HJ.out; simp [intOf]; omega
    · have i1 : ¬ (j : Int) < (n : Nat) := by omega
      have hjn : j = n := by omega
      clear hj hq hlt
      go_wp2_with fail
      go_ret
      exact ⟨_, rfl, Or.inl ⟨rfl, has_no fun k y hy => HQ.out k y (by have := (List.getElem?_eq_some_iff.1 hy).1; have := HN.out.1; omega) hy⟩, rfl⟩
theorem has_any {B : Nat} {v : Value} {l : List Nat} (hN : Nds W B v l) (hl : l.length ≤ 1000) (x : Int) :
    Calls Try.prog 40 #[v, .int .i64 x] W fun e W' => e = .returned (.bool (hasB l x)) ∧ W' = W := by
  have HI := Lib.hid (sindex_any W hN hl x)
  obtain ⟨ab, hab⟩ : ∃ ab, ab = hasB l x := ⟨_, rfl⟩
  rw [← hab] at HI ⊢
  clear hab hN
  go_enter Try.func40, Try.ntmps40
  go_wp2_with (go_at_call 62; refine HI.out.mono ?_; rintro e w2 ⟨r, rfl, hr, rfl⟩; have HR := Lib.hid hr; clear hr HI)
  go_ret
  refine ⟨?_, rfl⟩
  rcases HR.out with ⟨rfl, rfl⟩ | ⟨h, rfl⟩
  · rfl
  · simp [h]
set_option maxRecDepth 20000 in
theorem wants1_any {B : Nat} {v : Value} {l : List Nat} {w : World} {gb : Nat} (hN : Nds w B v l) (hl : l.length ≤ 1000) (hb : Blk w gb 40 #[v]) (x : Int) :
    Calls Try.prog 81 #[.int .i64 x, .pointer (some ⟨gb, 0, none⟩)] w fun e w' => e = .returned (.bool (hasB l x)) ∧ Below w.heap.size w w' := by
  have HH := Lib.hid (has_any w hN hl x)
  have c0 : w.cell? ⟨gb, 0, none⟩ = some v := hb.cell 0
  obtain ⟨A, cp, hv⟩ := hN.shape
  subst hv
  obtain ⟨n, hn⟩ : ∃ n, n = l.length := ⟨_, rfl⟩
  rw [← hn] at HH c0
  clear hN hb hn hl
  go_enter Try.func81, Try.ntmps81
  go_wp2_with (go_at_call 40; refine HH.out.mono ?_; rintro e w2 ⟨rfl, rfl⟩; clear HH)
  go_ret
  exact ⟨rfl, Below.refl _ _⟩
end
/-- Does a node want a cart's labels through a neighbour? -/
def Wn (t : Tv) (node next cart : Int) : Prop := jnB t node next = true ∧ ∃ h ∈ homesL t cart, Rch (awayB t node) next.toNat h
theorem homes_in {t : Tv} {cart : Int} {h : Nat} (hh : h ∈ homesL t cart) : 1 ≤ h ∧ h ≤ 12 := by
  have := there_in (kind_there (Or.inl ((homes_are t cart).2.1 h hh)))
  omega
theorem any_iff {l : List Nat} {q : Int → Bool} : anyB l.length (fun i => ((l[i]?.getD 0 : Nat) : Int)) q = true ↔ ∃ h ∈ l, q (h : Nat) = true := by
  unfold anyB
  rw [List.any_eq_true]
  constructor
  · rintro ⟨i, hi, hq⟩
    rw [List.mem_range] at hi
    have e : l[i]?.getD 0 = l[i] := by rw [List.getElem?_eq_getElem hi]; rfl
    simp only [e] at hq
    exact ⟨l[i], List.getElem_mem _, hq⟩
  · rintro ⟨h, hh, hq⟩
    obtain ⟨i, hi, rfl⟩ := List.getElem_of_mem hh
    refine ⟨i, List.mem_range.2 hi, ?_⟩
    have e : l[i]?.getD 0 = l[i] := by rw [List.getElem?_eq_getElem hi]; rfl
    simp only [e]
    exact hq
set_option maxRecDepth 20000 in
set_option maxHeartbeats 8000000 in
theorem wants_any (W : World) (t : Tv) (hr : RowsOf ec 2 W t.A t.es) (hlen : t.es.length ≤ 1000000) (node next cart : Int) (hc9 : cart ≤ 9223372036854775807) :
    Calls Try.prog 65 #[.agg t.cells.toArray, .int .i64 node, .int .i64 next, .int .i64 cart] W fun e W' => ∃ b, e = .returned (.bool b) ∧ (b = true ↔ Wn t node next cart) ∧ Below W.heap.size W W' := by
  have HR := Lib.hid hr
  have HLE := Lib.hid hlen
  have HC9 := Lib.hid hc9
  have bb := (Below.refl W.heap.size W).alloc (Nat.le_refl _) (.cells t.cells.toArray 25)
  have hx : Blk (W.alloc (.cells t.cells.toArray 25)) W.heap.size 25 t.cells.toArray := Blk.new W _ _
  obtain ⟨w2, hw2⟩ : ∃ w2, w2 = W.alloc (.cells t.cells.toArray 25) := ⟨_, rfl⟩
  rw [← hw2] at bb hx
  have HB2 := Lib.hid bb
  have HX2 := Lib.hid hx
  clear bb hx hr hlen hc9
  have HBY := Lib.hid (beyond_any w2 t (HR.out.next HB2.out) HLE.out node next)
  have hmf : ∀ (fn : Fn) (first cap : Array Value) (w : World), (Instr.makeFunc fn first cap).run Try.prog w = .ok (.func fn first cap) w := fun _ _ _ _ => rfl
  have HMF := Lib.hid hmf
  clear hmf
  go_enter Try.func65, Try.ntmps65
  go_upto_region 1 with fail
  rw [← hw2]
  clear hw2
  have hr0 : w2.rangeAt W.heap.size 0 t.cells := HX2.out.range
  go_upto_region 2 with (first | (refine wpList_load_mid rfl 25 _ rfl _ _ rfl t.cells _ hr0 Try.underlying25 rfl (tvinfo t) ?_) | (go_at_call 79; refine HBY.out.mono ?_; rintro e w3 ⟨v, rfl, hb, hbb⟩; have HB3 := Lib.hid hb; have HBB := Lib.hid hbb; obtain ⟨A3, n3, cp3, hv3⟩ : (∃ A n c, v = Value.slice A n c) := (by rcases HBB.out with ⟨_, hN⟩ | ⟨_, _, hN, _⟩ <;> (obtain ⟨A, c, e⟩ := hN.shape; exact ⟨_, _, _, e⟩)); subst hv3; clear hb hbb HBY))
  clear hr0
  obtain ⟨v3, hv3⟩ : ∃ v3, v3 = Value.slice A3 n3 cp3 := ⟨_, rfl⟩
  rw [← hv3] at HBB
  have hl3 : ∃ l, Nds w3 w2.heap.size v3 l ∧ l.length ≤ 1000 ∧ ∀ h : Nat, 1 ≤ h → h ≤ 12 → (h ∈ l ↔ jnB t node next = true ∧ Rch (awayB t node) next.toNat h) := by
    rcases HBB.out with ⟨h1, hN⟩ | ⟨h1, c, hN, hc⟩
    · exact ⟨[], hN, by simp, fun h _ _ => by rw [h1]; simp⟩
    · exact ⟨_, hN, Nat.le_trans (those_le c 12) (by omega), fun h h2 h3 => by rw [those_mem, h1, hc]; simp [h2, h3]⟩
  obtain ⟨l3, hN3, hl3, hm3⟩ := hl3
  have HL3 := Lib.hid (And.intro hl3 hm3)
  obtain ⟨w4, hw4⟩ : ∃ w4, w4 = w3.alloc (.cells #[v3] 40) := ⟨_, rfl⟩
  have hb4 : Below w3.heap.size w3 w4 := by rw [hw4]; exact (Below.refl _ _).alloc (Nat.le_refl _) _
  have hk4 : Blk w4 w3.heap.size 40 #[v3] := by rw [hw4]; exact Blk.new _ _ _
  rw [← hv3]
  rw [← hw4]
  have HN4 := Lib.hid (hN3.next hb4)
  have HK4 := Lib.hid hk4
  have hb24 := HB3.out.trans (hb4.mono HB3.out.size)
  have HB4 := Lib.hid (HB2.out.trans (hb24.mono HB2.out.size))
  have HX4 := Lib.hid (HX2.out.next hb24)
  obtain ⟨g3, hg3⟩ : ∃ g3, g3 = w3.heap.size := ⟨_, rfl⟩
  rw [← hg3] at HK4
  (try rw [← hg3])
  clear hl3 hm3 hN3 hw4 hb4 hk4 hb24 HB3 HBB hv3 hg3
  have hr0 : w4.rangeAt W.heap.size 0 t.cells := HX4.out.range
  have HHO := Lib.hid (homes_any w4 t cart HC9.out)
  have hmf := HMF.out
  go_wp2_with (first | (refine wpList_load_mid rfl 25 _ rfl _ _ rfl t.cells _ hr0 Try.underlying25 rfl (tvinfo t) ?_) | (go_at_call 80; refine HHO.out.mono ?_; rintro e w5 ⟨v5, rfl, hN, hb⟩; have HN5 := Lib.hid hN; have HB5 := Lib.hid hb; clear hN hb HHO; obtain ⟨A5, c5, hv5⟩ := HN5.out.shape; subst hv5; have HCF := Lib.hid (contains_any w5 81 #[.pointer (some ⟨g3, 0, none⟩)] A5 (homesL t cart).length c5 (fun i => ((homesL t cart).getD i 0 : Nat)) (hasB l3) (by have := (homes_are t cart).1; omega) (fun args w => run_enter Try.func81 (by kernel_rfl) (by kernel_rfl) args w) (fun i hi => (by
    obtain ⟨h, hh⟩ : ∃ h, (homesL t cart)[i]? = some h := ⟨_, List.getElem?_eq_getElem hi⟩
    obtain ⟨q, qo, qc, ev, _, cq⟩ := HN5.out.at_ hh
    simp only [Value.slice.injEq] at ev
    obtain ⟨rfl, -, -⟩ := ev
    exact ⟨_, _, rfl, by rw [List.getD_eq_getElem?_getD, hh]; exact cq⟩)) (fun w hb i hi => wants1_any ((HN4.out.next HB5.out).next hb) HL3.out.1 ((HK4.out.next HB5.out).next hb) _))) | (go_at_call 53; refine HCF.out.mono ?_; rintro e w6 ⟨rfl, hb⟩; have HB6 := Lib.hid hb; clear hb HCF))
  go_ret
  refine ⟨_, rfl, ?_, (HB4.out.trans (HB5.out.mono HB4.out.size)).trans (HB6.out.mono (HB4.out.trans (HB5.out.mono HB4.out.size)).size)⟩
  rw [any_iff]
  unfold Wn
  constructor
  · rintro ⟨h, hh, hq⟩
    have := (HL3.out.2 h (homes_in hh).1 (homes_in hh).2).1 (has_nat.1 hq)
    exact ⟨this.1, h, hh, this.2⟩
  · rintro ⟨h1, h, hh, h2⟩
    exact ⟨h, hh, has_nat.2 ((HL3.out.2 h (homes_in hh).1 (homes_in hh).2).2 ⟨h1, h2⟩)⟩
end Tr
end Go.Proofs.Ytohnhokddbeheaa
