/-
peers: PeersApart: what happens of one seller does not touch the others. Without a condition.
-/
import Derived.Test.YtlceljcplmcjgaaPe15
namespace Go.Proofs.Ytlceljcplmcjgaa
open Go.RowKit Go.ChangeShapes Go.WideShapes Go.ChangeAt Go.WideElems
set_option linter.unusedSimpArgs false
set_option linter.unusedVariables false
namespace Pe
theorem bne_self (r : Int) : (r != r) = false := by simp
theorem bneN_self (r : Nat) : (((r : Nat) : Int) != ((r : Nat) : Int)) = false := by simp
set_option maxHeartbeats 8000000 in
set_option maxRecDepth 20000 in
theorem apart_walk (W : World) (A : Option Addr) (n c : Nat) (l : List Op4) (s : Int) (hl : l.length = n) (hr : RowsOf Op4.cells 4 W A l) :
    Calls Try.prog 4 #[.slice A n c, .int .i64 s] W fun e W' => e = .returned (.bool true) ∧ Below W.heap.size W W' := by
  have HNA := Lib.hid (new_yes W 1 (num_in.2 (by decide)))
  have HL := Lib.hid hl
  have HR := Lib.hid hr
  clear hl hr
  go_enter Try.func4, Try.ntmps4
  go_upto_region 2 with (go_at_call 7; refine HNA.out.mono ?_; rintro e w1 ⟨rfl, hp, hb, -⟩; have HP1 := Lib.hid hp; have HB1 := Lib.hid hb; have HNB := Lib.hid (new_yes w1 1 (num_in.2 (by decide))); clear hp hb HNA)
  go_upto_region 3 with (go_at_call 7; refine HNB.out.mono ?_; rintro e w2 ⟨rfl, hp, hb, -⟩; have HP2 := Lib.hid hp; have HB2 := Lib.hid hb; clear hp hb HNB)
  have hD : Duo W w2 W.heap.size w1.heap.size (PS.new 1) (PS.new 1) := ⟨HP1.out.next HB2.out, ⟨HP2.out.1, HB1.out.size⟩, by have := HP1.out.lt; omega, HB1.out.trans (HB2.out.mono HB1.out.size), PS.new_ok (by decide) (by decide), PS.new_ok (by decide) (by decide)⟩
  obtain ⟨p, hp⟩ : ∃ p, p = W.heap.size := ⟨_, rfl⟩
  obtain ⟨q, hq⟩ : ∃ q, q = w1.heap.size := ⟨_, rfl⟩
  have HD := Lib.hid (show Duo W w2 p q (PS.new 1) (PS.new 1) by rw [hp, hq]; exact hD)
  rw [← hp, ← hq]
  clear hD hp hq HP1 HP2 HB1 HB2
  go_upto_region 6 with fail
  go_loopw [9] (fun i wr => ∃ j : Nat, j ≤ 100 ∧ i = .int .i64 j ∧ ∃ x y, Duo W wr p q x y ∧ Agree s x y) (fun i _ => 100 - (intOf i).toNat)
  case atStart => exact ⟨0, by omega, rfl, _, _, HD.out, .refl _ _⟩
  case round =>
    clear HD
    obtain ⟨j, hj, rfl, x, y, hD, hA⟩ := hrel
    have HD := Lib.hid hD
    have HA := Lib.hid hA
    clear hD hA
    by_cases hjl : j < n ∧ j < 100
    · obtain ⟨o, ho⟩ : ∃ o, l[j]? = some o := ⟨_, List.getElem?_eq_getElem (by rw [HL.out]; exact hjl.1)⟩
      have i1 : (j : Int) < (n : Nat) := by omega
      have i2 : (j : Int) < 100 := by omega
      have i3 : ¬ (j : Int) < 0 := by omega
      obtain ⟨b, of, rfl, hbl, hrx⟩ := op_row HR.out HD.out.b ho
      have HX := Lib.hid (op_row2 HR.out rfl ho)
      have HJL := Lib.hid hjl
      have HDO := Lib.hid (HD.out.do1 o)
      obtain ⟨r, hr⟩ : ∃ r, r = (x.doF o).1 := ⟨_, rfl⟩
      rw [← hr] at HDO
      have HRR := Lib.hid hr
      clear ho hjl hj hr
      go_upto_region 8 with fail
      go_upto_region 9 with (first | (refine wpList_load_mid rfl 36 _ rfl _ _ rfl o.cells _ hrx Try.underlying36 rfl (opinfo o) ?_) | (go_at_call 9; refine HDO.out.mono ?_; rintro e w3 ⟨rfl, h, -⟩; have HD3 := Lib.hid h; clear h HDO HD hrx))
      have q1 : w3.cell? ⟨b, of + j * 4 + 1, none⟩ = some (.int .i64 o.s) := HX.out w3 HD3.out.b 1 _ rfl
      obtain ⟨os, hos⟩ : ∃ os, os = o.s := ⟨_, rfl⟩
      rw [← hos] at q1
      by_cases hs : os = s
      · have hsame := do_same o (x := x) (y := y) (by rw [← hos, hs]; exact HA.out)
        rw [← hos, hs] at hsame
        have HDO2 := Lib.hid (HD3.out.do2 o)
        rw [← hsame.1, ← HRR.out] at HDO2
        have HSM := Lib.hid hsame.2
        have i5 := bne_self r
        have hrx := HX.out w3 HD3.out.b
        subst hs
        clear hsame hos
        go_wp2_with (first | (refine load_midg rfl 36 _ rfl _ _ rfl o.cells _ hrx Try.underlying36 rfl (opinfo o) ?_; (try simp only [Act.put, List.setIfInBounds_toArray, List.set_cons_zero, List.set_cons_succ])) | (go_at_call 9; refine HDO2.out.mono ?_; rintro e w4 ⟨rfl, h, -⟩; have HD4 := Lib.hid h; clear h HDO2 HD3 hrx q1))
        go_roundw
        case rel => exact ⟨j + 1, by have := HJL.out; omega, by go_num, _, _, HD4.out, HSM.out⟩
        case measure => have := HJL.out; simp [intOf]; omega
      · have HSM := Lib.hid (show Agree s (x.doF o).2 y from (do_other o (by rw [← hos]; exact hs)).trans HA.out)
        have i4 : (os == s) = false := by simpa using hs
        clear hos hs
        go_wp2_with fail
        go_roundw
        case rel => exact ⟨j + 1, by have := HJL.out; omega, by go_num, _, _, HD3.out, HSM.out⟩
        case measure => have := HJL.out; simp [intOf]; omega
    · have hor : ¬ (j : Int) < (n : Nat) ∨ ((j : Int) < (n : Nat) ∧ ¬ (j : Int) < 100) := by omega
      clear hjl hj
      have HO1 := Lib.hid (of_any wr HD.out.hp s)
      obtain ⟨L, hL⟩ : ∃ L, L = x.ofL s := ⟨_, rfl⟩
      have HLE := Lib.hid (show L.length ≤ 12 by rw [hL]; exact Nd.those_le _ _)
      have HLY := Lib.hid (show y.ofL s = L by rw [hL, HA.out.of])
      rw [← hL] at HO1
      obtain ⟨st, hst⟩ : ∃ st, st = x.stV s := ⟨_, rfl⟩
      have HSX := Lib.hid hst.symm
      have HSY := Lib.hid (show y.stV s = st by rw [hst, HA.out.st])
      clear hL hst
      have i6 := bne_self st
      obtain ⟨ln, hln⟩ : ∃ ln, ln = L.length := ⟨_, rfl⟩
      have i7 := bneN_self ln
      have HLN := Lib.hid hln
      clear hln
      rcases hor with i1 | ⟨i1, i2⟩
      all_goals
        go_upto_region 11 with fail
        (try clear i1)
        (try clear i2)
        go_upto_region 12 with (go_at_call 11; first | (refine HO1.out.mono ?_; rintro e w5 ⟨v1, rfl, hN, hb⟩; have HN1 := Lib.hid hN; have HD5 := Lib.hid (HD.out.next hb); have HO2 := Lib.hid (of_any w5 (HD.out.next hb).hq s); rw [HLY.out] at HO2; clear hN hb HO1) | (refine HO2.out.mono ?_; rintro e w6 ⟨v2, rfl, hN, hb⟩; have HN2 := Lib.hid hN; have HN1' := Lib.hid (HN1.out.next hb); have HD6 := Lib.hid (HD5.out.next hb); clear hN hb HO2))
        obtain ⟨A1, c1, e1⟩ := HN1'.out.shape
        obtain ⟨A2, c2, e2⟩ := HN2.out.shape
        subst e1
        subst e2
        rw [← HLN.out] at HN1' HN2
        (try rw [← HLN.out])
        clear HN1 HD5
        have HS1 := Lib.hid (state_any w6 HD6.out.hp s)
        rw [HSX.out] at HS1
        go_upto_region 15 with (go_at_call 13; first | (refine HS1.out.mono ?_; rintro e w7 ⟨rfl, hb⟩; have HD7 := Lib.hid (HD6.out.next hb); have HM1 := Lib.hid (HN1'.out.next hb); have HM2 := Lib.hid (HN2.out.next hb); have HS2 := Lib.hid (state_any w7 (HD6.out.next hb).hq s); rw [HSY.out] at HS2; clear hb HS1) | (refine HS2.out.mono ?_; rintro e w8 ⟨rfl, hb⟩; have HD8 := Lib.hid (HD7.out.next hb); have HM3 := Lib.hid (HM1.out.next hb); have HM4 := Lib.hid (HM2.out.next hb); clear hb HS2))
        clear HD7 HM1 HM2 HD6 HN1' HN2 i6 i7
        obtain ⟨B1, hB1⟩ : ∃ B1, B1 = wr.heap.size := ⟨_, rfl⟩
        obtain ⟨B2, hB2⟩ : ∃ B2, B2 = w5.heap.size := ⟨_, rfl⟩
        rw [← hB1] at HM3
        rw [← hB2] at HM4
        clear hB1 hB2
        go_loopw [13] (fun i wy => ∃ k : Nat, k ≤ ln ∧ i = .int .i64 k ∧ Below W.heap.size W wy ∧ Nd.Nds wy B1 (.slice A1 ln c1) L ∧ Nd.Nds wy B2 (.slice A2 ln c2) L) (fun i _ => ln - (intOf i).toNat)
        case atStart => exact ⟨0, Nat.zero_le _, rfl, HD8.out.b, HM3.out, HM4.out⟩
        case round =>
          clear HD8 HM3 HM4 HD
          obtain ⟨k, hk, rfl, hb, hN1, hN2⟩ := hrel
          have HB := Lib.hid hb
          have HN1 := Lib.hid hN1
          have HN2 := Lib.hid hN2
          clear hb hN1 hN2
          by_cases hkl : k < ln
          · have i1 : (k : Int) < (ln : Nat) := by omega
            have i3 : ¬ (k : Int) < 0 := by omega
            obtain ⟨m, hm⟩ : ∃ m, L[k]? = some m := ⟨_, List.getElem?_eq_getElem (by rw [← HLN.out]; exact hkl)⟩
            obtain ⟨g1, o1, cc1, ev1, hg1, hc1⟩ := HN1.out.at_ hm
            obtain ⟨g2, o2, cc2, ev2, hg2, hc2⟩ := HN2.out.at_ hm
            simp only [Value.slice.injEq] at ev1 ev2
            obtain ⟨rfl, -, rfl⟩ := ev1
            obtain ⟨rfl, -, rfl⟩ := ev2
            have HKL := Lib.hid (show k < ln ∧ ln ≤ 12 from ⟨hkl, by rw [HLN.out]; exact HLE.out⟩)
            obtain ⟨kk, hkk⟩ : ∃ kk, kk = k + 1 := ⟨_, rfl⟩
            have HW := Lib.hid (Nd.wrap_n k kk hkk (by have := HKL.out; omega))
            have HKK := Lib.hid hkk
            have i5 := bneN_self m
            have hcc : wr.cell? ⟨g1, o1 + k, none⟩ = some (.int .i64 (m : Nat)) ∧ wr.cell? ⟨g2, o2 + k, none⟩ = some (.int .i64 (m : Nat)) := ⟨hc1, hc2⟩
            clear hk hkl hm hg1 hg2 hc1 hc2 hkk
            go_upto_region 17 with fail
            refine wp_region_tree (S := (fun w' => w'.cell? ⟨g1, o1 + k, none⟩ = some (.int .i64 (m : Nat)) ∧ w'.cell? ⟨g2, o2 + k, none⟩ = some (.int .i64 (m : Nat)))) (.take 0 (.take 1 (.take 2 (.take 3 (.take 4 (.take 5 (.take 6 (.take 7 (.take 8 .nil))))))))) 9999 (by kernel_rfl) (by kernel_rfl) (by kernel_rfl) (by kernel_rfl) (by kernel_rfl) (fun _ _ d _ _ h => by cases d <;> exact h) hcc (fun hHeld => ?_); simp only [Tree.map, List.getElem?_toArray, List.getElem?_cons_zero, List.getElem?_cons_succ]
            (repeat (first | (refine wpTree.take (v := undef) (Or.inr ⟨by rfl, rfl⟩) ?_; simp only [Act.put, List.setIfInBounds_toArray, List.set_cons_zero, List.set_cons_succ]) | (refine wpTree.take (v := ?_) (Or.inl ⟨by rfl, ?_⟩) ?_; rotate_left; (focus (intro _ hS; (try dsimp only at hS); go_split_ands; (try subst hS); go_simp; (try (with_reducible rfl)); done)); simp only [Act.put, List.setIfInBounds_toArray, List.set_cons_zero, List.set_cons_succ])))
            refine wpTree.done ?_
            have HB2 := Lib.hid (HB.out.trans ((Below.refl wr.heap.size wr).drew.mono HB.out.size))
            have HN3 := Lib.hid (HN1.out.next (Below.refl wr.heap.size wr).drew)
            have HN4 := Lib.hid (HN2.out.next (Below.refl wr.heap.size wr).drew)
            clear hcc HB HN1 HN2
            go_wp2_with fail
            (try rw [HW.out])
            go_roundw
            case rel => exact ⟨kk, by have := HKL.out; have := HKK.out; omega, rfl, HB2.out, HN3.out, HN4.out⟩
            case measure => have := HKL.out; have := HKK.out; simp [intOf]; omega
          · have i1 : ¬ (k : Int) < (ln : Nat) := by omega
            clear hk hkl
            go_wp2_with (go_at_call 8; refine (alive_any _).mono ?_; rintro e wz ⟨rfl, hb⟩; have HWZ := Lib.hid (HB.out.trans (hb.mono HB.out.size)); clear hb)
            go_ret
            exact ⟨rfl, HWZ.out⟩

set_option maxRecDepth 100000 in
theorem apart_lifted (os : Os) (started : os.Started) (H : Type) (enc : TypeId × Value → H) :
    ReturnsInHanded {} Try.checked os 4 .any (Rows.peersApartSpec.pre6 enc Try.prog Try.f4 Rows.peersApartRow.domain false) (Rows.peersApartSpec.post enc Try.prog Try.f4 false true false false) := by
  refine law_lift (C := Try.checked) own_knob started (by kernel_rfl) Try.func4 rfl Try.underlying4 laid_out (by kernel_rfl) rfl ?_
    (ChangeSpec.witness6 (enc := enc) (C := Try.checked) false ⟨#[], #[.slice none 0 0, .int .i64 0], []⟩ 8 (by kernel_rfl) (by kernel_rfl) (by kernel_rfl) (by kernel_rfl)) ?_
  · intro ds hds
    match ds, hds with
    | [_, _], _ => rfl
  intro W base args ds ps hval hA hlt hsz
  rw [Try.params4] at hA hval
  obtain ⟨v0, vs0, d0, ds0, p0, q0, hargs, rfl, rfl, h0, r0⟩ := trodAll_cons hA
  obtain ⟨v1, vs1, d1, ds1, p1, q1, rfl, rfl, rfl, h1, r1⟩ := trodAll_cons r0
  obtain ⟨rfl, rfl, rfl⟩ := trodAll_nil r1
  obtain rfl : args = #[v0, v1] := by cases args; simp_all
  obtain ⟨A1, c1, l1, rfl, hl1, hc1, hr1, -⟩ := open_rows Try.underlying22 4 cells_op (by omega) Op4.cells (fun _ => True) ⟨0, 0, 0, false⟩ op_len (hval 0 22 v0 rfl rfl) h0 (fun x hx => hlt x (by simp [hx])) (fun _ _ _ _ h _ => open_op h)
  obtain ⟨a2, rfl, rfl, rfl, w2⟩ := open_int Try.underlying3 (hval 1 3 v1 rfl rfl) h1
  exact apart_walk W A1 l1.length c1 l1 a2 rfl hr1

theorem apart_holds : Rows.PeersApartSaid :=
  OpenClaim.holds_of_wide 4 Try.f4 rfl rfl rfl rfl rfl rfl rfl ⟨rfl, rfl, rfl, rfl, rfl⟩ rfl rfl rfl rfl rfl (by kernel_rfl) Try.func4 (by kernel_rfl)
    (of_decide_eq_true (by kernel_rfl)) (by unfold Func.isWrapper; first | (rw [if_pos (by decide +kernel)]; kernel_rfl) | (rw [if_neg (by decide +kernel)]; exact ⟨rfl, rfl⟩))
    (fun os started H enc _ => apart_lifted os started H enc)

end Pe
end Go.Proofs.Ytlceljcplmcjgaa
