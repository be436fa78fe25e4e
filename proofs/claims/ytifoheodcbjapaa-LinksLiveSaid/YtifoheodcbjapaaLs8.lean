/-
links: Put.
-/
import Derived.Test.YtifoheodcbjapaaLs7
import Derived.Test.YtifoheodcbjapaaLk13
namespace Go.Proofs.Ytifoheodcbjapaa
open Go.RowKit
set_option linter.unusedSimpArgs false
set_option linter.unusedVariables false
namespace Ls
open Lk
/-- The bytes of the links to these nodes. -/
def encTo (S : Nat → LS) (L : List Nat) : List Nat := L.flatMap fun n => enc n ++ encL (S (n - 1))
def encLS (own : Nat) (S : Nat → LS) : List Nat := enc own ++ enc (peersL own S).length ++ encTo S (peersL own S)
/-- Links as they may be. -/
structure NOk (own : Nat) (S : Nat → LS) : Prop where
  o1 : 1 ≤ own
  o2 : own ≤ 12
  ok : ∀ i, S i = ⟨0, 0, []⟩ ∨ (S i).Ok
  self : S (own - 1) = ⟨0, 0, []⟩
  far : ∀ i, 12 ≤ i → S i = ⟨0, 0, []⟩
theorem lko_ok {W : World} {F : Nat → Prop} {A : Option Addr} {c : Nat} {l : List It} {s : LS} (D : LkO W F A c l s) : s.Ok := by
  have htl : s.ts.length = l.length := by rw [← D.ts, List.length_map]
  refine ⟨?_, ?_, ?_, ?_, ?_, ?_⟩ <;> first | exact D.big | exact D.e1 | exact D.e2 | (have := D.len; have := D.lt; omega) | skip
  all_goals
    intro b hb
    rw [← D.ts] at hb
    obtain ⟨x, hx, rfl⟩ := List.mem_map.1 hb
    have := D.at_ x hx
    exact ⟨this.1, this.2.1, this.2.2.1⟩
theorem LN.ok {W : World} {B d own : Nat} {F : Nat → Prop} {S : Nat → LS} (h : LN W B d F own S) : NOk own S := by
  obtain ⟨K, D, rfl⟩ := h
  refine ⟨D.o1, D.o2, fun i => ?_, by show (K _).s = _; rw [D.self]; rfl, fun i hi => by show (K i).s = _; rw [D.far i hi]; rfl⟩
  rcases D.ok i with e | e
  · left; show (K i).s = _; rw [e]; rfl
  · exact Or.inr (lko_ok e)
theorem NOk.of {own : Nat} {S : Nat → LS} (h : NOk own S) {i : Nat} (hn : (S i).nx ≠ 0) : (S i).Ok := by
  rcases h.ok i with e | e
  · rw [e] at hn; exact absurd rfl hn
  · exact e
theorem peers_mem {own : Nat} {S : Nat → LS} {n : Nat} (h : n ∈ peersL own S) : 1 ≤ n ∧ n ≤ 12 ∧ n ≠ own ∧ (S (n - 1)).nx ≠ 0 := by
  obtain ⟨h1, h2, h3⟩ := Nd.those_mem.1 h
  unfold hasB at h3
  rw [Bool.and_eq_true] at h3
  have h4 := isO_of h3.1
  refine ⟨h1, h2, fun e => h4.2 (by rw [e]), ?_⟩
  have h5 := of_decide_eq_true h3.2
  rwa [show ((n : Nat) : Int).toNat - 1 = n - 1 by omega] at h5
theorem enc_le {own : Nat} {S : Nat → LS} (h : NOk own S) : ∀ (L : List Nat), (∀ n ∈ L, n ∈ peersL own S) → (encTo S L).length ≤ 500010 * L.length
  | [], _ => by simp [encTo]
  | n :: L, hL => by
    have ih := enc_le h L fun m hm => hL m (List.mem_cons_of_mem _ hm)
    have hp := peers_mem (hL n (by simp))
    have h1 := enc_len n (by omega)
    have h2 := (h.of hp.2.2.2).elen
    simp only [encTo, List.flatMap_cons, List.length_append, List.length_cons] at ih ⊢
    omega
theorem NOk.elen {own : Nat} {S : Nat → LS} (h : NOk own S) : (encLS own S).length ≤ 6100000 := by
  have h1 := enc_len own (by have := h.o2; omega)
  have hl : (peersL own S).length ≤ 12 := Nd.those_le _ _
  have h2 := enc_len (peersL own S).length (by omega)
  have h3 := enc_le h (peersL own S) fun n hn => hn
  unfold encLS
  rw [List.length_append, List.length_append]
  omega
theorem NOk.h256 {own : Nat} {S : Nat → LS} (h : NOk own S) : ∀ y ∈ encLS own S, y < 256 := by
  intro y hy
  unfold encLS at hy
  simp only [List.mem_append] at hy
  rcases hy with (hy | hy) | hy
  · exact enc_256 _ y hy
  · exact enc_256 _ y hy
  · unfold encTo at hy
    obtain ⟨n, hn, hy⟩ := List.mem_flatMap.1 hy
    rcases List.mem_append.1 hy with hy | hy
    · exact enc_256 _ y hy
    · exact (h.of (peers_mem hn).2.2.2).h256 y hy
theorem ap_wrote {W W' : World} {Bw g : Nat} {P : Nat → Prop} (hP : ∀ k, P k → k < W.heap.size) (hap : Ap W g P) (hO : Wrote Bw g W W') : Ap W' g P := fun k hk =>
  ⟨(hap k hk).1, fun e => by
    rcases hO.2.2 k e.symm with h | h
    · exact (hap k hk).2 h.symm
    · have := hP k hk; omega⟩
/-- Links are written. -/
structure PB (W wr : World) (Bw B g d own : Nat) (F : Nat → Prop) (S : Nat → LS) (b0 : Nat) (v : Value) (L ws : List Nat) : Prop where
  wtr : Wtr wr Bw g ws
  ow : Wrote Bw g W wr
  ln : LN wr B d F own S
  nd : Nd.Nds wr b0 v L
  ap : Ap wr g (fun k => F k ∨ v.ownBlock = some k)
section
variable {W wr w' : World} {Bw B g d own b0 : Nat} {F : Nat → Prop} {S : Nat → LS} {v : Value} {L ws ws' : List Nat}
theorem PB.lo (h : PB W wr Bw B g d own F S b0 v L ws) : ∀ k, (F k ∨ v.ownBlock = some k) → k < wr.heap.size := by
  rintro k (hk | hk)
  · exact (h.ln.low k hk).2
  · exact (h.nd.lt k hk).2
theorem PB.step (h : PB W wr Bw B g d own F S b0 v L ws) (hO : Wrote Bw g wr w') (hW : Wtr w' Bw g ws') : PB W w' Bw B g d own F S b0 v L ws' :=
  ⟨hW, h.ow.trans hO, h.ln.keep (fun k hF => hO.2.1 k (h.lo k (Or.inl hF)) (h.ap k (Or.inl hF)).1 (h.ap k (Or.inl hF)).2) hO.1.size,
    h.nd.keep (fun k hk => hO.2.1 k (h.lo k (Or.inr hk)) (h.ap k (Or.inr hk)).1 (h.ap k (Or.inr hk)).2), ap_wrote h.lo h.ap hO⟩
theorem PB.below (h : PB W wr Bw B g d own F S b0 v L ws) (hb : Below wr.heap.size wr w') : PB W w' Bw B g d own F S b0 v L ws :=
  h.step (Wrote.ofBelow hb (Nat.le_trans h.wtr.1 (Nat.le_of_lt h.wtr.lt)) h.wtr.lt) (h.wtr.next hb)
end
section
variable (W : World) {B d own : Nat} {F : Nat → Prop} {K : Nat → Kn} {S : Nat → LS}
set_option maxRecDepth 20000 in
theorem put_nb {v : Value} (h : NB W v) (u : Value) : Calls Try.prog 49 #[v, u] W fun e W' => e = .returned (.tuple #[]) ∧ W = W' := by
  have HM2 := Lib.hid (lmade_nb W h)
  clear h
  go_enter Try.func49, Try.ntmps49
  go_wp2_with (go_at_call 36; refine HM2.out.mono ?_; rintro e w1 ⟨rfl, rfl⟩)
  exact ⟨rfl, .tuple #[], by simp [results, Try.results49, go_sem], rfl, rfl⟩
set_option maxHeartbeats 4000000 in
set_option maxRecDepth 20000 in
theorem put_any (h : LN W B d F own S) {Bw g : Nat} {ws : List Nat} (hw : Wtr W Bw g ws) (hap : Ap W g F) (hlen : ws.length ≤ 1000000) : Calls Try.prog 49 #[.pointer (some ⟨d, 0, none⟩), .pointer (some ⟨g, 0, none⟩)] W fun e W' =>
    e = .returned (.tuple #[]) ∧ Wtr W' Bw g (ws ++ encLS own S) ∧ Wrote Bw g W W' := by
  have HM := Lib.hid (by obtain ⟨K, D, -⟩ := h; exact lmade_any W D : Calls Try.prog 36 #[.pointer (some ⟨d, 0, none⟩)] W fun e W' => e = .returned (.bool true) ∧ W = W')
  have HPE := Lib.hid (peers_any W h)
  have HOK := Lib.hid h.ok
  have HL := Lib.hid h
  have HW0 := Lib.hid hw
  have HAP := Lib.hid hap
  have HLEN := Lib.hid hlen
  obtain ⟨L, hLL⟩ : ∃ L, L = peersL own S := ⟨_, rfl⟩
  have HLL := Lib.hid (show L = peersL own S ∧ L.length ≤ 12 ∧ (∀ n ∈ L, n ∈ peersL own S) from ⟨hLL, by rw [hLL]; exact Nd.those_le _ _, fun n hn => by rw [← hLL]; exact hn⟩)
  rw [← hLL] at HPE
  obtain ⟨ln, hln⟩ : ∃ ln, ln = L.length := ⟨_, rfl⟩
  have HLN := Lib.hid (show ln = L.length ∧ ln ≤ 12 from ⟨hln, by rw [hln]; exact HLL.out.2.1⟩)
  have ew0 : IntKind.u64.wrap ((own : Nat) : Int) = (own : Nat) := by have := h.o2; rw [IntKind.wrap_u64]; omega
  have ew1 : IntKind.u64.wrap ((ln : Nat) : Int) = (ln : Nat) := by have := HLN.out.2; rw [IntKind.wrap_u64]; omega
  clear h hw hap hlen hLL hln
  go_enter Try.func49, Try.ntmps49
  go_upto_region 2 with (first | (go_at_call 36; refine HM.out.mono ?_; rintro e w1 ⟨rfl, rfl⟩) | (go_at_call 16; refine HPE.out.mono ?_; rintro e w1 ⟨v1, rfl, hN, hb⟩))
  obtain ⟨A1, c1, hv⟩ := hN.shape
  rw [← HLN.out.1] at hv
  subst hv
  obtain ⟨b0, hb0⟩ : ∃ b0, b0 = W.heap.size := ⟨_, rfl⟩
  have hP : PB W w1 Bw B g d own F S b0 (.slice A1 ln c1) L ws := ⟨HW0.out.next hb, Wrote.ofBelow hb (Nat.le_trans HW0.out.1 (Nat.le_of_lt HW0.out.lt)) HW0.out.lt, HL.out.next hb, by rw [hb0]; exact hN, by
    rintro k (hk | hk)
    · exact ap_wrote (fun k hk => (HL.out.low k hk).2) HAP.out (Wrote.ofBelow hb (Nat.le_trans HW0.out.1 (Nat.le_of_lt HW0.out.lt)) HW0.out.lt) k hk
    · have h1 := (hN.lt k hk).1
      refine ⟨fun e => by have := HW0.out.lt; omega, fun e => ?_⟩
      have h2 : rowOf w1 g = rowOf W g := by unfold rowOf; rw [hb.cell (p := ⟨g, 0, none⟩) HW0.out.lt]
      rw [h2] at e
      have := rowOf_lt HW0.out e.symm
      omega⟩
  have HP := Lib.hid hP
  have c0 : w1.cell? ⟨d, 0, none⟩ = some (.int .i64 (own : Nat)) := by obtain ⟨K, D, -⟩ := hP.ln; exact D.c0
  have HN1 := Lib.hid (wnum_any Bw g own ws w1 hP.wtr (by have := HOK.out.o2; omega) (by have := HLEN.out; omega))
  have hl1 := enc_len own (by have := HOK.out.o2; omega)
  have HN2 := Lib.hid (fun w hw => wnum_any Bw g ln (ws ++ enc own) w hw (by have := HLN.out.2; omega) (by rw [List.length_append]; have := HLEN.out; omega))
  have HL1 := Lib.hid hl1
  clear hP hb hN hb0 hl1 HM HPE
  go_upto_region 4 with (first | (go_at_call 69; refine HN1.out.mono ?_; rintro e w2 ⟨rfl, hW2, hO2⟩; have HP2 := Lib.hid (HP.out.step hO2 hW2); have HN2b := Lib.hid (HN2.out w2 hW2); clear hW2 hO2 HN1 c0 HN2) | (go_at_call 69; refine HN2b.out.mono ?_; rintro e w3 ⟨rfl, hW3, hO3⟩; have HP3 := Lib.hid (HP2.out.step hO3 hW3); clear hW3 hO3 HN2b))
  clear ew0 ew1 HP HP2
  obtain ⟨pre, hpre⟩ : ∃ pre, pre = ws ++ enc own ++ enc ln := ⟨_, rfl⟩
  rw [← hpre] at HP3
  have HPRE := Lib.hid hpre
  have HPL := Lib.hid (show pre.length ≤ 1000020 by
    have h1 := enc_len ln (by have := HLN.out.2; omega)
    have h2 := HL1.out; have h3 := HLEN.out
    rw [hpre, List.length_append, List.length_append]; omega)
  clear hpre
  go_loopw [25] (fun i wr => ∃ k : Nat, k ≤ ln ∧ i = .int .i64 k ∧ PB W wr Bw B g d own F S b0 (.slice A1 ln c1) L (pre ++ encTo S (L.take k))) (fun i _ => ln - (intOf i).toNat)
  case atStart => exact ⟨0, Nat.zero_le _, rfl, by rw [List.take_zero, show encTo S [] = [] from rfl, List.append_nil]; exact HP3.out⟩
  case round =>
    clear HP3
    obtain ⟨k, hk, rfl, hQ⟩ := hrel
    have HQ := Lib.hid hQ
    by_cases hlt : k < ln
    · have i1 : (k : Int) < (ln : Nat) := by omega
      have i2 : ¬ (k : Int) < 0 := by omega
      obtain ⟨kk, hkk⟩ : ∃ kk, kk = k + 1 := ⟨_, rfl⟩
      have HWK := Lib.hid (Nd.wrap_n k kk hkk (by have := HLN.out.2; omega))
      have HK := Lib.hid (And.intro hkk hlt)
      obtain ⟨n, hn⟩ : ∃ n, L[k]? = some n := ⟨_, List.getElem?_eq_getElem (by have := HLN.out.1; omega)⟩
      have hmem := HLL.out.2.2 n (List.mem_of_getElem? hn)
      have hpm := peers_mem hmem
      obtain ⟨q, qo, qc, ev, hq, hcc⟩ := hQ.nd.at_ hn
      simp only [Value.slice.injEq] at ev
      obtain ⟨rfl, -, -⟩ := ev
      obtain ⟨i, hi, hti, hnn, hw, hw2, hi1, hi0⟩ := isN_of (show isN ((n : Nat) : Int) = true from decide_eq_true ⟨by omega, by omega⟩)
      have e3 : IntKind.u64.wrap ((n : Nat) : Int) = (n : Nat) := by rw [IntKind.wrap_u64]; omega
      have hin : n - 1 = i := by omega
      obtain ⟨cur, hcur⟩ : ∃ cur, cur = pre ++ encTo S (L.take k) := ⟨_, rfl⟩
      have hcl : cur.length ≤ 7100000 := by
        have h1 := enc_le HOK.out (L.take k) fun m hm => HLL.out.2.2 m (List.mem_of_mem_take hm)
        rw [List.length_take] at h1
        rw [hcur, List.length_append]
        have h2 := HPL.out; have h3 := HLL.out.2.1
        omega
      rw [← hcur] at HQ hQ
      have HNX := Lib.hid (wnum_any Bw g n cur wr hQ.wtr (by omega) (by omega))
      have HPX := Lib.hid (fun w (hb : PB W w Bw B g d own F S b0 (.slice (some ⟨q, qo, none⟩) ln c1) L (cur ++ enc n)) => (by
        obtain ⟨K, D, e⟩ := hb.ln
        have hS : (S i) = (K i).s := by rw [e]
        have hnx : (K i).s.nx ≠ 0 := by rw [← hS, ← hin]; exact hpm.2.2.2
        have := put_o w (D.lnk hi hnx) hb.wtr (fun k hk => hb.ap k (Or.inl hk)) (by rw [List.length_append]; have := enc_len n (by omega); omega)
        rw [← hS] at this
        exact this : Calls Try.prog 70 #[.pointer (some ⟨d, 1 + i * 3, none⟩), .pointer (some ⟨g, 0, none⟩)] w fun e W' => e = .returned (.tuple #[]) ∧ Wtr W' Bw g (cur ++ enc n ++ encL (S i)) ∧ Wrote Bw g w W'))
      have HCUR := Lib.hid (show pre ++ encTo S (L.take kk) = cur ++ enc n ++ encL (S i) by
        rw [hcur, hkk, List.take_add_one, hn]
        unfold encTo
        rw [List.flatMap_append]
        simp [hin])
      have HNN := Lib.hid hn
      clear hQ hk hlt hkk hn hmem hpm hq hi hti hnn hw2 hin hcur hcl
      go_wp2_with (first | (go_at_call 69; refine HNX.out.mono ?_; rintro e w4 ⟨rfl, hW4, hO4⟩; have HQ4 := Lib.hid (HQ.out.step hO4 hW4); have HPX4 := Lib.hid (HPX.out w4 HQ4.out); clear hW4 hO4 HNX HPX hcc) | (go_at_call 70; refine HPX4.out.mono ?_; rintro e w5 ⟨rfl, hW5, hO5⟩; have HQ5 := Lib.hid (HQ4.out.step hO5 hW5); clear hW5 hO5 HPX4))
      rw [HWK.out]
      go_roundw
      case rel => exact ⟨kk, by have := HK.out; omega, rfl, by rw [HCUR.out]; exact HQ5.out⟩
      case measure => have := HK.out; simp [intOf]; omega
    · have i1 : ¬ (k : Int) < (ln : Nat) := by omega
      have HKE := Lib.hid (show k = L.length by have := HLN.out.1; omega)
      clear hk hlt hQ
      go_wp2_with fail
      refine ⟨rfl, .tuple #[], by simp [results, Try.results49, go_sem], rfl, ?_, HQ.out.ow⟩
      have := HQ.out.wtr
      rw [HKE.out, List.take_length, HPRE.out, HLL.out.1, HLN.out.1, HLL.out.1] at this
      unfold encLS
      simpa [List.append_assoc] using this
end
end Ls
end Go.Proofs.Ytifoheodcbjapaa
