/-
cuts: what Load reads: getStances.
-/
import Derived.Test.YtbnapbjmffajfaaCu17
namespace Go.Proofs.Ytbnapbjmffajfaa
open Go.RowKit
set_option linter.unusedSimpArgs false
set_option linter.unusedVariables false
/-- A home's part of the next round. -/
def partT (x : Sd) (cs : List Ct) (a b : Sd) (P : Except Int (List Ct × Sd × Sd)) : Except Int (List Ct × Sd × Sd) := if x.is then P else .ok (cs, a, b)
/-- The stances of the next round, which they do not decide. -/
def stancesT (own other : Int) (bs : List Nat) (cs : List Ct) (a b : Sd) : Except Int (List Nat × List Ct × Sd × Sd) :=
  match saidP bs with
  | .error x => .error x
  | .ok (x, q) => match partT x cs a b (propT own other cs a b x.s) with
    | .error x => .error x
    | .ok (cs1, a1, b1) => match saidP q with
      | .error x => .error x
      | .ok (z, q2) => match partT z cs1 a1 b1 (hearT own other cs1 a1 b1 ((cs.length + 1 : Nat) : Int) z.s) with
        | .error x => .error x
        | .ok (cs2, a2, b2) => if cs2.length = cs.length then .ok (q2, cs2, a2, b2) else .error 3
theorem below_box (w : World) (t : TypeId) (z : Array Value) : Below w.heap.size w (w.alloc (.cells z t)) := (Below.refl _ _).alloc (Nat.le_refl _) _
set_option maxHeartbeats 8000000 in
set_option maxRecDepth 20000 in
theorem getstances_any {L B k s t : Nat} {own other : Int} {W0 W : World} {bs : List Nat} {cs : List Ct} {a b : Sd} (h : TR L B k s t own other W0 bs cs a b W) (ho : own ≠ 0) (hl : cs.length ≤ 20) (hk : k < B) (hs : s < B) (hL : L ≤ B) :
    Calls Try.prog 43 #[.pointer (some ⟨t, 0, none⟩), .pointer (some ⟨k, 0, none⟩)] W fun e W' => EndR L B k s t own other W0 (stancesT own other bs cs a b) e W' := by
  have HS := Lib.hid h
  obtain ⟨R, hR⟩ : ∃ R, R = stancesT own other bs cs a b := ⟨_, rfl⟩
  rw [← hR]
  have HE := Lib.hid hR
  have HN := Lib.hid (fun w (h : TR L B k s t own other W0 bs cs a b w) => tr_next h (by omega))
  have HSD := Lib.hid (fun w q cs a b (h : TR L B k s t own other W0 q cs a b w) => tr_said h hs hL)
  have HPR := Lib.hid (fun w q (h : TR L B k s t own other W0 q cs a b w) x => tr_propose h ho (by omega) hk hs hL x)
  have HHE := Lib.hid (fun w q cs a b (hl : cs.length ≤ 20) (h : TR L B k s t own other W0 q cs a b w) r x => tr_hear h ho (by omega) hk hs hL r x)
  have HL := Lib.hid hl
  obtain ⟨r, hr⟩ : ∃ r : Int, r = ((cs.length + 1 : Nat) : Int) := ⟨_, rfl⟩
  have HRR := Lib.hid hr
  rw [← hr] at HN
  clear h hR ho hl hk hs hL hr
  go_enter Try.func43, Try.ntmps43
  go_upto_region 1 with (first | (go_at_call 22; refine (HN.out _ HS.out).mono ?_; rintro e w1 ⟨rfl, rfl⟩))

  have HD := Lib.hid (HSD.out _ _ _ _ _ HS.out)
  have hE := HE.out
  unfold stancesT at hE
  cases hv : saidP bs with
  | error x =>
    rw [hv] at hE HD
    have HE2 := Lib.hid hE
    clear hE hv
    go_wp2_with (first | (go_at_call 53; refine HD.out.mono ?_; rintro e w9 ⟨rfl, hM⟩; have HM := Lib.hid hM; clear hM))
    exact ⟨rfl, by rw [HE2.out]; exact ⟨rfl, HM.out⟩⟩
  | ok z =>
    obtain ⟨x, q⟩ := z
    rw [hv] at hE HD
    dsimp only at hE
    have HEH := Lib.hid hE
    clear hE hv HE
    go_upto_region 2 with (first | (go_at_call 53; refine HD.out.mono ?_; rintro e w2 ⟨rfl, h2⟩; have H2 := Lib.hid h2; clear h2) | (refine wpList_store_blk rfl 61 _ _ rfl w2.heap.size 61 #[.bool false, .bool false, .int .u64 0, .int .u32 0, .int .u32 0, .int .u32 0, .int .u32 0, .int .u32 0, .int .u32 0, .int .u32 0, .int .u32 0, .int .u32 0, .int .u32 0, .int .u32 0, .int .u32 0] x.cells.toArray rfl rfl (Blk.new w2 _ _) (sdinfoA _) (sd_siz _) (sd_one _) ?_; intro b5; clear b5))
    rw [Wr.alloc_setRow]
    have H3 := Lib.hid (H2.out.below (below_box w2 61 x.cells.toArray))
    obtain ⟨-, -, rr3, cc3, -, -⟩ := sd_all (Blk.new w2 61 x.cells.toArray)
    clear HD
    cases hb : x.is with
    | false =>
      have hE := HEH.out
      rw [show partT x cs a b (propT own other cs a b x.s) = .ok (cs, a, b) from by unfold partT; rw [hb]; rfl] at hE
      dsimp only at hE
      rw [hb] at cc3
      clear HEH hb rr3
      go_upto_region 4 with fail
      have HD := Lib.hid (HSD.out _ _ _ _ _ H3.out)
      cases hv2 : saidP q with
      | error x =>
        rw [hv2] at hE HD
        have HE2 := Lib.hid hE
        clear hE hv2
        go_wp2_with (first | (go_at_call 53; refine HD.out.mono ?_; rintro e w9 ⟨rfl, hM⟩; have HM := Lib.hid hM; clear hM))
        exact ⟨rfl, by rw [HE2.out]; exact ⟨rfl, HM.out⟩⟩
      | ok z2 =>
        obtain ⟨x2, q2⟩ := z2
        rw [hv2] at hE HD
        dsimp only at hE
        clear hv2
        have HEH := Lib.hid hE
        clear hE
        go_upto_region 5 with (first | (go_at_call 53; refine HD.out.mono ?_; rintro e w4 ⟨rfl, h4⟩; have H4 := Lib.hid h4; clear h4) | (refine wpList_store_blk rfl 61 _ _ rfl w4.heap.size 61 #[.bool false, .bool false, .int .u64 0, .int .u32 0, .int .u32 0, .int .u32 0, .int .u32 0, .int .u32 0, .int .u32 0, .int .u32 0, .int .u32 0, .int .u32 0, .int .u32 0, .int .u32 0, .int .u32 0] x2.cells.toArray rfl rfl (Blk.new w4 _ _) (sdinfoA _) (sd_siz _) (sd_one _) ?_; intro b5; clear b5))
        rw [Wr.alloc_setRow]
        have H5 := Lib.hid (H4.out.below (below_box w4 61 x2.cells.toArray))
        obtain ⟨-, -, rr5, cc5, -, -⟩ := sd_all (Blk.new w4 61 x2.cells.toArray)
        cases hb2 : x2.is with
        | false =>
          have hE3 := HEH.out
          rw [show partT x2 cs a b (hearT own other cs a b ((cs.length + 1 : Nat) : Int) x2.s) = .ok (cs, a, b) from by unfold partT; rw [hb2]; rfl] at hE3
          dsimp only at hE3
          rw [hb2] at cc5
          clear HEH hb2 rr5
          go_upto_region 7 with fail
          have HX := Lib.hid (tr_next H5.out (by have := HL.out; omega))
          by_cases hn : cs.length = cs.length
          · have HE2 := Lib.hid (show R = .ok (q2, cs, a, b) by rw [hE3]; exact if_pos hn)
            have hq : ((((cs.length + 1 : Nat) : Int)) == r) = true := by rw [HRR.out, hn]; simp
            obtain ⟨z, hz⟩ : ∃ z : Int, z = ((cs.length + 1 : Nat) : Int) := ⟨_, rfl⟩
            rw [← hz] at HX hq
            clear hn hz hE3
            go_wp2_with (first | (go_at_call 22; refine HX.out.mono ?_; rintro e w9 ⟨rfl, rfl⟩) | (go_at_call 41; refine (tr_yes H5.out).mono ?_; rintro e w9 ⟨rfl, rfl⟩))
            exact ⟨rfl, .tuple #[], by simp [results, Try.results43, go_sem], by rw [HE2.out]; exact ⟨rfl, H5.out⟩⟩
          · have HE2 := Lib.hid (show R = .error 3 by rw [hE3]; exact if_neg hn)
            have hq : ((((cs.length + 1 : Nat) : Int)) == r) = false := by rw [HRR.out]; simp; omega
            obtain ⟨z, hz⟩ : ∃ z : Int, z = ((cs.length + 1 : Nat) : Int) := ⟨_, rfl⟩
            rw [← hz] at HX hq
            clear hn hz hE3
            go_wp2_with (first | (go_at_call 22; refine HX.out.mono ?_; rintro e w9 ⟨rfl, rfl⟩) | (go_at_call 41; refine (tr_not H5.out).mono ?_; rintro e w9 ⟨rfl, hM⟩; have HM := Lib.hid hM; clear hM))
            exact ⟨rfl, by rw [HE2.out]; exact ⟨rfl, HM.out⟩⟩
        | true =>
          have hE3 := HEH.out
          rw [show partT x2 cs a b (hearT own other cs a b ((cs.length + 1 : Nat) : Int) x2.s) = hearT own other cs a b r x2.s from by unfold partT; rw [hb2, HRR.out]; rfl] at hE3
          rw [hb2] at cc5
          have HH := Lib.hid (HHE.out _ _ _ _ _ HL.out H5.out r x2.s)
          clear HEH hb2
          cases hp2 : hearT own other cs a b r x2.s with
          | error x =>
            rw [hp2] at hE3 HH
            have HE2 := Lib.hid hE3
            clear hE3 hp2
            go_wp2_with (first | (refine wpList_load_mid rfl 39 _ rfl _ _ rfl x2.s.cells _ rr5 Try.underlying39 rfl (stinfo x2.s) ?_) | (go_at_call 51; refine HH.out.mono ?_; rintro e w9 ⟨rfl, hM⟩; have HM := Lib.hid hM; clear hM))
            exact ⟨rfl, by rw [HE2.out]; exact ⟨rfl, HM.out⟩⟩
          | ok z3 =>
            obtain ⟨cs3, a3, b3⟩ := z3
            have HL3 := Lib.hid (hearT_len hp2)
            rw [hp2] at hE3 HH
            dsimp only at hE3
            clear hp2
            have HE3 := Lib.hid hE3
            clear hE3
            go_upto_region 7 with (first | (refine wpList_load_mid rfl 39 _ rfl _ _ rfl x2.s.cells _ rr5 Try.underlying39 rfl (stinfo x2.s) ?_) | (go_at_call 51; refine HH.out.mono ?_; rintro e w6 ⟨rfl, h6⟩; have H6 := Lib.hid h6; clear h6))
            clear rr5 cc5
            have HX := Lib.hid (tr_next H6.out (by have := HL3.out; omega))
            by_cases hn : cs3.length = cs.length
            · have HE2 := Lib.hid (show R = .ok (q2, cs3, a3, b3) by rw [HE3.out]; exact if_pos hn)
              have hq : ((((cs3.length + 1 : Nat) : Int)) == r) = true := by rw [HRR.out, hn]; simp
              obtain ⟨z, hz⟩ : ∃ z : Int, z = ((cs3.length + 1 : Nat) : Int) := ⟨_, rfl⟩
              rw [← hz] at HX hq
              clear hn hz 
              go_wp2_with (first | (go_at_call 22; refine HX.out.mono ?_; rintro e w9 ⟨rfl, rfl⟩) | (go_at_call 41; refine (tr_yes H6.out).mono ?_; rintro e w9 ⟨rfl, rfl⟩))
              exact ⟨rfl, .tuple #[], by simp [results, Try.results43, go_sem], by rw [HE2.out]; exact ⟨rfl, H6.out⟩⟩
            · have HE2 := Lib.hid (show R = .error 3 by rw [HE3.out]; exact if_neg hn)
              have hq : ((((cs3.length + 1 : Nat) : Int)) == r) = false := by rw [HRR.out]; simp; omega
              obtain ⟨z, hz⟩ : ∃ z : Int, z = ((cs3.length + 1 : Nat) : Int) := ⟨_, rfl⟩
              rw [← hz] at HX hq
              clear hn hz 
              go_wp2_with (first | (go_at_call 22; refine HX.out.mono ?_; rintro e w9 ⟨rfl, rfl⟩) | (go_at_call 41; refine (tr_not H6.out).mono ?_; rintro e w9 ⟨rfl, hM⟩; have HM := Lib.hid hM; clear hM))
              exact ⟨rfl, by rw [HE2.out]; exact ⟨rfl, HM.out⟩⟩
    | true =>
      have hE := HEH.out
      rw [show partT x cs a b (propT own other cs a b x.s) = propT own other cs a b x.s from by unfold partT; rw [hb]; rfl] at hE
      rw [hb] at cc3
      have HP := Lib.hid (HPR.out _ _ H3.out x.s)
      clear HEH hb
      cases hp : propT own other cs a b x.s with
      | error y =>
        rw [hp] at hE HP
        have HE2 := Lib.hid hE
        clear hE hp
        go_wp2_with (first | (refine wpList_load_mid rfl 39 _ rfl _ _ rfl x.s.cells _ rr3 Try.underlying39 rfl (stinfo x.s) ?_) | (go_at_call 52; refine HP.out.mono ?_; rintro e w9 ⟨rfl, hM⟩; have HM := Lib.hid hM; clear hM))
        exact ⟨rfl, by rw [HE2.out]; exact ⟨rfl, HM.out⟩⟩
      | ok z1 =>
        obtain ⟨cs1, a1, b1⟩ := z1
        have HL1 := Lib.hid (propT_len hp)
        rw [hp] at hE HP
        dsimp only at hE
        clear hp
        have HEH := Lib.hid hE
        clear hE
        go_upto_region 4 with (first | (refine wpList_load_mid rfl 39 _ rfl _ _ rfl x.s.cells _ rr3 Try.underlying39 rfl (stinfo x.s) ?_) | (go_at_call 52; refine HP.out.mono ?_; rintro e w3 ⟨rfl, h3⟩; have H3b := Lib.hid h3; clear h3))
        clear rr3 cc3
        have hE := HEH.out
        clear HEH
        have HD := Lib.hid (HSD.out _ _ _ _ _ H3b.out)
        cases hv2 : saidP q with
        | error x =>
          rw [hv2] at hE HD
          have HE2 := Lib.hid hE
          clear hE hv2
          go_wp2_with (first | (go_at_call 53; refine HD.out.mono ?_; rintro e w9 ⟨rfl, hM⟩; have HM := Lib.hid hM; clear hM))
          exact ⟨rfl, by rw [HE2.out]; exact ⟨rfl, HM.out⟩⟩
        | ok z2 =>
          obtain ⟨x2, q2⟩ := z2
          rw [hv2] at hE HD
          dsimp only at hE
          clear hv2
          have HEH := Lib.hid hE
          clear hE
          go_upto_region 5 with (first | (go_at_call 53; refine HD.out.mono ?_; rintro e w4 ⟨rfl, h4⟩; have H4 := Lib.hid h4; clear h4) | (refine wpList_store_blk rfl 61 _ _ rfl w4.heap.size 61 #[.bool false, .bool false, .int .u64 0, .int .u32 0, .int .u32 0, .int .u32 0, .int .u32 0, .int .u32 0, .int .u32 0, .int .u32 0, .int .u32 0, .int .u32 0, .int .u32 0, .int .u32 0, .int .u32 0] x2.cells.toArray rfl rfl (Blk.new w4 _ _) (sdinfoA _) (sd_siz _) (sd_one _) ?_; intro b5; clear b5))
          rw [Wr.alloc_setRow]
          have H5 := Lib.hid (H4.out.below (below_box w4 61 x2.cells.toArray))
          obtain ⟨-, -, rr5, cc5, -, -⟩ := sd_all (Blk.new w4 61 x2.cells.toArray)
          cases hb2 : x2.is with
          | false =>
            have hE3 := HEH.out
            rw [show partT x2 cs1 a1 b1 (hearT own other cs1 a1 b1 ((cs.length + 1 : Nat) : Int) x2.s) = .ok (cs1, a1, b1) from by unfold partT; rw [hb2]; rfl] at hE3
            dsimp only at hE3
            rw [hb2] at cc5
            clear HEH hb2 rr5
            go_upto_region 7 with fail
            have HX := Lib.hid (tr_next H5.out (by have := HL1.out; omega))
            by_cases hn : cs1.length = cs.length
            · have HE2 := Lib.hid (show R = .ok (q2, cs1, a1, b1) by rw [hE3]; exact if_pos hn)
              have hq : ((((cs1.length + 1 : Nat) : Int)) == r) = true := by rw [HRR.out, hn]; simp
              obtain ⟨z, hz⟩ : ∃ z : Int, z = ((cs1.length + 1 : Nat) : Int) := ⟨_, rfl⟩
              rw [← hz] at HX hq
              clear hn hz hE3
              go_wp2_with (first | (go_at_call 22; refine HX.out.mono ?_; rintro e w9 ⟨rfl, rfl⟩) | (go_at_call 41; refine (tr_yes H5.out).mono ?_; rintro e w9 ⟨rfl, rfl⟩))
              exact ⟨rfl, .tuple #[], by simp [results, Try.results43, go_sem], by rw [HE2.out]; exact ⟨rfl, H5.out⟩⟩
            · have HE2 := Lib.hid (show R = .error 3 by rw [hE3]; exact if_neg hn)
              have hq : ((((cs1.length + 1 : Nat) : Int)) == r) = false := by rw [HRR.out]; simp; omega
              obtain ⟨z, hz⟩ : ∃ z : Int, z = ((cs1.length + 1 : Nat) : Int) := ⟨_, rfl⟩
              rw [← hz] at HX hq
              clear hn hz hE3
              go_wp2_with (first | (go_at_call 22; refine HX.out.mono ?_; rintro e w9 ⟨rfl, rfl⟩) | (go_at_call 41; refine (tr_not H5.out).mono ?_; rintro e w9 ⟨rfl, hM⟩; have HM := Lib.hid hM; clear hM))
              exact ⟨rfl, by rw [HE2.out]; exact ⟨rfl, HM.out⟩⟩
          | true =>
            have hE3 := HEH.out
            rw [show partT x2 cs1 a1 b1 (hearT own other cs1 a1 b1 ((cs.length + 1 : Nat) : Int) x2.s) = hearT own other cs1 a1 b1 r x2.s from by unfold partT; rw [hb2, HRR.out]; rfl] at hE3
            rw [hb2] at cc5
            have HH := Lib.hid (HHE.out _ _ _ _ _ HL1.out H5.out r x2.s)
            clear HEH hb2
            cases hp2 : hearT own other cs1 a1 b1 r x2.s with
            | error x =>
              rw [hp2] at hE3 HH
              have HE2 := Lib.hid hE3
              clear hE3 hp2
              go_wp2_with (first | (refine wpList_load_mid rfl 39 _ rfl _ _ rfl x2.s.cells _ rr5 Try.underlying39 rfl (stinfo x2.s) ?_) | (go_at_call 51; refine HH.out.mono ?_; rintro e w9 ⟨rfl, hM⟩; have HM := Lib.hid hM; clear hM))
              exact ⟨rfl, by rw [HE2.out]; exact ⟨rfl, HM.out⟩⟩
            | ok z3 =>
              obtain ⟨cs3, a3, b3⟩ := z3
              have HL3 := Lib.hid (hearT_len hp2)
              rw [hp2] at hE3 HH
              dsimp only at hE3
              clear hp2
              have HE3 := Lib.hid hE3
              clear hE3
              go_upto_region 7 with (first | (refine wpList_load_mid rfl 39 _ rfl _ _ rfl x2.s.cells _ rr5 Try.underlying39 rfl (stinfo x2.s) ?_) | (go_at_call 51; refine HH.out.mono ?_; rintro e w6 ⟨rfl, h6⟩; have H6 := Lib.hid h6; clear h6))
              clear rr5 cc5
              have HX := Lib.hid (tr_next H6.out (by have := HL3.out; omega))
              by_cases hn : cs3.length = cs.length
              · have HE2 := Lib.hid (show R = .ok (q2, cs3, a3, b3) by rw [HE3.out]; exact if_pos hn)
                have hq : ((((cs3.length + 1 : Nat) : Int)) == r) = true := by rw [HRR.out, hn]; simp
                obtain ⟨z, hz⟩ : ∃ z : Int, z = ((cs3.length + 1 : Nat) : Int) := ⟨_, rfl⟩
                rw [← hz] at HX hq
                clear hn hz 
                go_wp2_with (first | (go_at_call 22; refine HX.out.mono ?_; rintro e w9 ⟨rfl, rfl⟩) | (go_at_call 41; refine (tr_yes H6.out).mono ?_; rintro e w9 ⟨rfl, rfl⟩))
                exact ⟨rfl, .tuple #[], by simp [results, Try.results43, go_sem], by rw [HE2.out]; exact ⟨rfl, H6.out⟩⟩
              · have HE2 := Lib.hid (show R = .error 3 by rw [HE3.out]; exact if_neg hn)
                have hq : ((((cs3.length + 1 : Nat) : Int)) == r) = false := by rw [HRR.out]; simp; omega
                obtain ⟨z, hz⟩ : ∃ z : Int, z = ((cs3.length + 1 : Nat) : Int) := ⟨_, rfl⟩
                rw [← hz] at HX hq
                clear hn hz 
                go_wp2_with (first | (go_at_call 22; refine HX.out.mono ?_; rintro e w9 ⟨rfl, rfl⟩) | (go_at_call 41; refine (tr_not H6.out).mono ?_; rintro e w9 ⟨rfl, hM⟩; have HM := Lib.hid hM; clear hM))
                exact ⟨rfl, by rw [HE2.out]; exact ⟨rfl, HM.out⟩⟩
end Go.Proofs.Ytbnapbjmffajfaa
