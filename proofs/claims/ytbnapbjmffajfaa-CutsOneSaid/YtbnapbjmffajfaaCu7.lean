/-
cuts: decide.
-/
import Derived.Test.YtbnapbjmffajfaaCu6
import Derived.Deep.CutRange
namespace Go.Proofs.Ytbnapbjmffajfaa
open Go.RowKit
set_option linter.unusedSimpArgs false
set_option linter.unusedVariables false

theorem sd_siz (x : Sd) : (15 : Nat) = x.cells.toArray.size := by rw [List.size_toArray, sd_len]
theorem ct_siz (x : Ct) : (14 : Nat) = x.cells.toArray.size := by rw [List.size_toArray, ct_len]
theorem homes_info : (Try.prog.info? 59).map (·.size) = some ([Value.int .i64 0, Value.int .i64 0] : List Value).length := by kernel_rfl
theorem homes_range {W : World} {B t : Nat} {F : Nat → Prop} {own other : Int} {v : Value} {cs : List Ct} {a b : Sd} (T : Tb W B t F own other v cs a b) : W.rangeAt t 0 [.int .i64 own, .int .i64 other] := fun j u hj => by
  rcases j with _ | _ | j
  · simp at hj; subst hj; exact T.c0
  · simp at hj; subst hj; exact T.c1
  · simp at hj
theorem isize : (Try.prog.info? 3).map (·.size) = some 1 := by kernel_rfl
theorem run_index2 (x y : Int) (w : World) : (Instr.index 59 (.agg #[.int .i64 x, .int .i64 y]) (.int .i64 0)).run Try.prog w = .ok (.int .i64 x) w ∧ (Instr.index 59 (.agg #[.int .i64 x, .int .i64 y]) (.int .i64 1)).run Try.prog w = .ok (.int .i64 y) w := by
  have hs : ∀ w, (sizeOf 3).run Try.prog w = .ok 1 w := by
    intro w
    have := isize
    cases hq : Try.prog.info? 3 with
    | none => simp [hq] at this
    | some i => simp [hq] at this; simp [sizeOf, typeInfo, hq, this]
  constructor
  · simp [Instr.index, asIntOf, run_underlying Try.underlying59, hs, part, isAgg, run_underlying Try.underlying3]
  · simp [Instr.index, asIntOf, run_underlying Try.underlying59, hs, part, isAgg, run_underlying Try.underlying3]
/-- Who leads when k homes were asked. -/
def wonAt (own other : Int) (a b : Sd) : Nat → Ct
  | 0 => Ct.zero
  | 1 => winA own a
  | _ => winB own other a b
/-- What a table is when a round was decided, if it was. -/
def DecP (W : World) (B t : Nat) (F : Nat → Prop) (own other : Int) (cs : List Ct) (a b : Sd) (W' : World) : Prop :=
  ∃ v', Tb W' B t (Grow F W W') own other v' (cs ++ (won own other a b).toList) (if (won own other a b).isSome then Sd.zero else a) (if (won own other a b).isSome then Sd.zero else b) ∧ Turn B F W W'
set_option maxHeartbeats 4000000 in
set_option maxRecDepth 20000 in
theorem decide_any (W : World) {B t : Nat} {F : Nat → Prop} {own other : Int} {v : Value} {cs : List Ct} {a b : Sd} (T : Tb W B t F own other v cs a b) (hl : cs.length ≤ 100000) :
    Calls Try.prog 21 #[.pointer (some ⟨t, 0, none⟩)] W fun e W' => e = .returned (.tuple #[]) ∧ DecP W B t F own other cs a b W' := by
  have HT := Lib.hid T
  have HL := Lib.hid hl
  have hB : B ≤ W.heap.size := by have := T.low t T.ft; omega
  have r0 := homes_range (T.next ((Below.refl W.heap.size W).alloc (Nat.le_refl _) (.cells #[.int .i64 0, .int .u64 0, .int .u32 0, .int .u32 0, .int .u32 0, .int .u32 0, .int .u32 0, .int .u32 0, .int .u32 0, .int .u32 0, .int .u32 0, .int .u32 0, .int .u32 0, .int .u32 0] 47)))
  have HB := Lib.hid hB
  have HNO := Lib.hid (show ∀ w', Below W.heap.size W w' → won own other a b = none → DecP W B t F own other cs a b w' from fun w' hb hn => by
    unfold DecP
    refine ⟨v, ?_⟩
    rw [hn]
    refine ⟨?_, hb.mono HB.out, fun k hk _ => hb.block k hk⟩
    simp only [Option.toList_none, List.append_nil, Option.isSome_none, Bool.false_eq_true, if_false]
    have T' := HT.out.next hb
    exact ⟨Or.inl T'.ft, fun k hk => Or.inl (T'.fv k hk), T'.blk, T'.row, fun k hk => by
      rcases hk with hk | ⟨h1, h2⟩
      · exact T'.low k hk
      · exact ⟨by have := HB.out; omega, h2⟩⟩)
  clear T hl hB
  go_enter Try.func21, Try.ntmps21
  go_wp2_with (refine wpList_load_mid rfl 59 _ rfl _ _ rfl [.int .i64 own, .int .i64 other] _ r0 Try.underlying59 rfl homes_info ?_)
  go_loopw [11] (fun i wr => ∃ k : Nat, k ≤ 2 ∧ i = .int .i64 k ∧ Blk wr W.heap.size 47 (wonAt own other a b k).cells.toArray ∧ Below W.heap.size W wr ∧ (1 ≤ k → (decide (own ≠ 0) && !a.is) = false) ∧ (2 ≤ k → (decide (other ≠ 0) && !b.is) = false)) (fun i _ => 2 - (intOf i).toNat)
  case atStart => exact ⟨0, by omega, rfl, by show Blk _ _ _ Ct.zero.cells.toArray; rw [ct_zero]; exact Blk.new _ _ _, (Below.refl _ _).alloc (Nat.le_refl _) _, by omega, by omega⟩
  case round =>
    clear r0
    obtain ⟨k, hk, rfl, hW, hBe, h1, h2⟩ := hrel
    have HW := Lib.hid hW
    have HBe := Lib.hid hBe
    have HH := Lib.hid (And.intro h1 h2)
    clear hW hBe h1 h2
    have ix := run_index2 own other
    obtain ⟨i0, i1⟩ : (∀ w, (Instr.index 59 (.agg #[.int .i64 own, .int .i64 other]) (.int .i64 0)).run Try.prog w = .ok (.int .i64 own) w) ∧ (∀ w, (Instr.index 59 (.agg #[.int .i64 own, .int .i64 other]) (.int .i64 1)).run Try.prog w = .ok (.int .i64 other) w) := ⟨fun w => (ix w).1, fun w => (ix w).2⟩
    clear ix
    obtain rfl | rfl | rfl : k = 0 ∨ k = 1 ∨ k = 2 := by omega
    · clear hk
      simp only [Int.ofNat_zero, Int.ofNat_one, Int.cast_ofNat_Int]
      have T1 := HT.out.next HBe.out
      have r1 := T1.r3
      clear T1
      go_upto_region 5 with (first | (refine wpList_load_mid rfl 61 _ rfl _ _ rfl a.cells _ r1 Try.underlying61 rfl (sdinfo a) ?_) | (refine wpList_store_blk rfl 61 _ _ rfl wr.heap.size 61 #[.bool false, .bool false, .int .u64 0, .int .u32 0, .int .u32 0, .int .u32 0, .int .u32 0, .int .u32 0, .int .u32 0, .int .u32 0, .int .u32 0, .int .u32 0, .int .u32 0, .int .u32 0, .int .u32 0] a.cells.toArray rfl rfl (Blk.new' rfl) (sdinfoA a) (sd_siz a) (sd_one a) ?_; rw [Wr.alloc_setRow]; intro b2))
      obtain ⟨W2, hW2⟩ : ∃ W2, W2 = wr.alloc (.cells a.cells.toArray 61) := ⟨_, rfl⟩
      have hb2 : Below wr.heap.size wr W2 := by rw [hW2]; exact (Below.refl _ _).alloc (Nat.le_refl _) _
      rw [← hW2] at b2 ⊢
      clear hW2 r1
      have HW2 := Lib.hid (HW.out.next hb2)
      have HB2 := Lib.hid (HBe.out.trans (hb2.mono HBe.out.size))
      have HS2 := Lib.hid b2
      obtain ⟨-, rv, -, q0, q1, q2⟩ := sd_all b2
      obtain ⟨g2, hg2⟩ : ∃ g2, g2 = wr.heap.size := ⟨_, rfl⟩
      rw [← hg2] at HS2 rv q0 q1 q2 ⊢
      clear b2 hb2 hg2 HW HBe
      cases hq : (decide (own ≠ 0) && !a.is) with
      | true =>
        have HN := Lib.hid (show won own other a b = none by unfold won; rw [hq]; rfl)
        simp only [Bool.and_eq_true, decide_eq_true_eq, Bool.not_eq_true'] at hq
        obtain ⟨hh, hi⟩ := hq
        rw [hi] at q0
        have e1 : (own != 0) = true := by simpa using hh
        go_wp2_with fail
        refine bodyPost_ret (results_none rfl _ _ _) rfl ?_
        exact ⟨rfl, HNO.out _ HB2.out HN.out⟩
      | false =>
        have HQ := Lib.hid hq
        (try simp only [Act.put, List.setIfInBounds_toArray, List.set_cons_zero, List.set_cons_succ])
        go_cut [27] from 21 to 27 (fun vx wx => vx = .bool false ∧ wx = W2)
        case first =>
          by_cases hh : own = 0
          · have e1 : (own != 0) = false := by simp [hh]
            have e2 : (own == 0) = true := by simp [hh]
            clear HQ hq
            go_wp2_with fail
            go_meet
            exact ⟨rfl, rfl⟩
          · have e1 : (own != 0) = true := by simp [hh]
            have hi : a.is = true := by simpa [hh] using hq
            rw [hi] at q0
            clear HQ hq
            go_wp2_with fail
            go_meet
            exact ⟨rfl, rfl⟩
        case rest =>
          obtain ⟨rfl, rfl⟩ := hcut
          have bc := built_ct ⟨own, a.s.t, a.s.f⟩
          go_upto_region 7 with (first | (refine wpList_load_mid rfl 33 _ rfl _ _ rfl (vl a.s.f) _ rv Try.underlying33 rfl (vinfoL _) ?_) | (refine wpList_build_lit (Ct.mk own a.s.t a.s.f).cells.toArray rfl 47 _ rfl bc ?_) | (refine wpList_store_blk rfl 47 _ _ rfl wc.heap.size 47 #[.int .i64 0, .int .u64 0, .int .u32 0, .int .u32 0, .int .u32 0, .int .u32 0, .int .u32 0, .int .u32 0, .int .u32 0, .int .u32 0, .int .u32 0, .int .u32 0, .int .u32 0, .int .u32 0] (Ct.mk own a.s.t a.s.f).cells.toArray rfl rfl (Blk.new' rfl) (ctinfoA _) (ct_siz _) (ct_one _) ?_; rw [Wr.alloc_setRow]; intro b3))
          obtain ⟨W3, hW3⟩ : ∃ W3, W3 = wc.alloc (.cells (Ct.mk own a.s.t a.s.f).cells.toArray 47) := ⟨_, rfl⟩
          have hb3 : Below wc.heap.size wc W3 := by rw [hW3]; exact (Below.refl _ _).alloc (Nat.le_refl _) _
          rw [← hW3] at b3 ⊢
          clear hW3 bc
          have q1 := cell_next hb3 q1
          have HW3 := Lib.hid (HW2.out.next hb3)
          have HB3 := Lib.hid (HB2.out.trans (hb3.mono HB2.out.size))
          have HC3 := Lib.hid b3
          have hne : wc.heap.size ≠ W.heap.size := by have := HW2.out.lt; omega
          obtain ⟨g3, hg3⟩ : ∃ g3, g3 = wc.heap.size := ⟨_, rfl⟩
          rw [← hg3] at HC3 hne ⊢
          have HNE := Lib.hid hne
          clear b3 hb3 hg3 hne HW2 HB2 q0 q2 rv HS2 hq
          obtain ⟨w0, hw0⟩ : ∃ w0, w0 = wonAt own other a b 0 := ⟨_, rfl⟩
          obtain ⟨c, hc⟩ : ∃ c, c = Ct.mk own a.s.t a.s.f := ⟨_, rfl⟩
          obtain ⟨bo, hbo⟩ : ∃ bo, bo = (a.s.h && (decide (w0.o = 0) || beatsB c w0)) := ⟨_, rfl⟩
          have HNX := Lib.hid (show wonAt own other a b (0 + 1) = if bo then c else w0 by rw [hbo, hc, hw0]; unfold wonAt winA; simp [Ct.zero, wonAt])
          rw [← hw0] at HW3
          rw [← hc] at HC3
          have HBO := Lib.hid hbo
          clear hw0 hc hbo
          obtain ⟨-, -, w00, -⟩ := ct_all HW3.out
          (try simp only [Act.put, List.setIfInBounds_toArray, List.set_cons_zero, List.set_cons_succ])
          go_cut [48] from 36 to 48 (fun vx wx => vx = .bool bo ∧ Below W3.heap.size W3 wx)
          case first =>
            cases hh : a.s.h with
            | false =>
              rw [hh] at q1 HBO
              go_wp2_with fail
              go_meet
              exact ⟨by rw [HBO.out]; rfl, Below.refl _ _⟩
            | true =>
              rw [hh] at q1 HBO
              by_cases hz : w0.o = 0
              · have e1 : (w0.o == 0) = true := by simp [hz]
                have HB2 := Lib.hid (show bo = true by rw [HBO.out, decide_eq_true hz]; rfl)
                clear hz
                go_wp2_with fail
                go_meet
                exact ⟨by rw [HB2.out], Below.refl _ _⟩
              · have e1 : (w0.o == 0) = false := by simp [hz]
                have HB2 := Lib.hid (show bo = beatsB c w0 by rw [HBO.out, decide_eq_false hz]; rfl)
                clear hz
                go_wp2_with (first | (refine wpList_load_blk (by rfl) 47 _ rfl g3 rfl 47 c.cells.toArray _ HC3.out Try.underlying47 rfl (ctinfoA _) ?_) | (refine wpList_load_blk (by rfl) 47 _ rfl W.heap.size rfl 47 w0.cells.toArray _ HW3.out Try.underlying47 rfl (ctinfoA _) ?_) | (go_at_call 35; refine (beats_any c w0 _).mono ?_; rintro e w4 ⟨rfl, hb4⟩; have HB4 := Lib.hid hb4; clear hb4))
                go_meet
                exact ⟨by rw [HB2.out], HB4.out⟩
          case rest =>
            obtain ⟨rfl, hb4⟩ := hcut
            have HW4 := Lib.hid (HW3.out.next hb4)
            have HC4 := Lib.hid (HC3.out.next hb4)
            have HB4 := Lib.hid (HB3.out.trans (hb4.mono HB3.out.size))
            clear hb4 HW3 HC3 HB3 w00 q1 HBO
            cases bo with
            | false =>
              go_wp2_with fail
              go_roundw
              case rel => exact ⟨0 + 1, by omega, rfl, by rw [HNX.out]; exact HW4.out, HB4.out, fun _ => HQ.out, by omega⟩
              case measure => simp [intOf]
            | true =>
              go_wp2_with (first | (refine wpList_load_blk (by rfl) 47 _ rfl g3 rfl 47 c.cells.toArray _ HC4.out Try.underlying47 rfl (ctinfoA _) ?_) | (refine wpList_store_blk rfl 47 _ _ rfl W.heap.size 47 w0.cells.toArray c.cells.toArray rfl rfl HW4.out (ctinfoA _) ((ct_siz _).symm.trans (ct_siz _)) (ct_one _) ?_; intro b5; have HW5 := Lib.hid b5; have HB5 := Lib.hid (below_setRow HB4.out (Nat.le_refl _) c.cells.toArray); clear b5))
              go_roundw
              case rel => exact ⟨0 + 1, by omega, rfl, by rw [HNX.out]; exact HW5.out, HB5.out, fun _ => HQ.out, by omega⟩
              case measure => simp [intOf]
    · clear hk
      simp only [Int.ofNat_zero, Int.ofNat_one, Int.cast_ofNat_Int]
      have T1 := HT.out.next HBe.out
      have r1 := T1.r18
      clear T1
      go_upto_region 5 with (first | (refine wpList_load_mid rfl 61 _ rfl _ _ rfl b.cells _ r1 Try.underlying61 rfl (sdinfo b) ?_) | (refine wpList_store_blk rfl 61 _ _ rfl wr.heap.size 61 #[.bool false, .bool false, .int .u64 0, .int .u32 0, .int .u32 0, .int .u32 0, .int .u32 0, .int .u32 0, .int .u32 0, .int .u32 0, .int .u32 0, .int .u32 0, .int .u32 0, .int .u32 0, .int .u32 0] b.cells.toArray rfl rfl (Blk.new' rfl) (sdinfoA b) (sd_siz b) (sd_one b) ?_; rw [Wr.alloc_setRow]; intro b2))
      obtain ⟨W2, hW2⟩ : ∃ W2, W2 = wr.alloc (.cells b.cells.toArray 61) := ⟨_, rfl⟩
      have hb2 : Below wr.heap.size wr W2 := by rw [hW2]; exact (Below.refl _ _).alloc (Nat.le_refl _) _
      rw [← hW2] at b2 ⊢
      clear hW2 r1
      have HW2 := Lib.hid (HW.out.next hb2)
      have HB2 := Lib.hid (HBe.out.trans (hb2.mono HBe.out.size))
      have HS2 := Lib.hid b2
      obtain ⟨-, rv, -, q0, q1, q2⟩ := sd_all b2
      obtain ⟨g2, hg2⟩ : ∃ g2, g2 = wr.heap.size := ⟨_, rfl⟩
      rw [← hg2] at HS2 rv q0 q1 q2 ⊢
      clear b2 hb2 hg2 HW HBe
      cases hq : (decide (other ≠ 0) && !b.is) with
      | true =>
        have HN := Lib.hid (show won own other a b = none by unfold won; rw [HH.out.1 (by omega), hq]; rfl)
        simp only [Bool.and_eq_true, decide_eq_true_eq, Bool.not_eq_true'] at hq
        obtain ⟨hh, hi⟩ := hq
        rw [hi] at q0
        have e1 : (other != 0) = true := by simpa using hh
        go_wp2_with fail
        refine bodyPost_ret (results_none rfl _ _ _) rfl ?_
        exact ⟨rfl, HNO.out _ HB2.out HN.out⟩
      | false =>
        have HQ := Lib.hid hq
        (try simp only [Act.put, List.setIfInBounds_toArray, List.set_cons_zero, List.set_cons_succ])
        go_cut [27] from 21 to 27 (fun vx wx => vx = .bool false ∧ wx = W2)
        case first =>
          by_cases hh : other = 0
          · have e1 : (other != 0) = false := by simp [hh]
            have e2 : (other == 0) = true := by simp [hh]
            clear HQ hq
            go_wp2_with fail
            go_meet
            exact ⟨rfl, rfl⟩
          · have e1 : (other != 0) = true := by simp [hh]
            have hi : b.is = true := by simpa [hh] using hq
            rw [hi] at q0
            clear HQ hq
            go_wp2_with fail
            go_meet
            exact ⟨rfl, rfl⟩
        case rest =>
          obtain ⟨rfl, rfl⟩ := hcut
          have bc := built_ct ⟨other, b.s.t, b.s.f⟩
          go_upto_region 7 with (first | (refine wpList_load_mid rfl 33 _ rfl _ _ rfl (vl b.s.f) _ rv Try.underlying33 rfl (vinfoL _) ?_) | (refine wpList_build_lit (Ct.mk other b.s.t b.s.f).cells.toArray rfl 47 _ rfl bc ?_) | (refine wpList_store_blk rfl 47 _ _ rfl wc.heap.size 47 #[.int .i64 0, .int .u64 0, .int .u32 0, .int .u32 0, .int .u32 0, .int .u32 0, .int .u32 0, .int .u32 0, .int .u32 0, .int .u32 0, .int .u32 0, .int .u32 0, .int .u32 0, .int .u32 0] (Ct.mk other b.s.t b.s.f).cells.toArray rfl rfl (Blk.new' rfl) (ctinfoA _) (ct_siz _) (ct_one _) ?_; rw [Wr.alloc_setRow]; intro b3))
          obtain ⟨W3, hW3⟩ : ∃ W3, W3 = wc.alloc (.cells (Ct.mk other b.s.t b.s.f).cells.toArray 47) := ⟨_, rfl⟩
          have hb3 : Below wc.heap.size wc W3 := by rw [hW3]; exact (Below.refl _ _).alloc (Nat.le_refl _) _
          rw [← hW3] at b3 ⊢
          clear hW3 bc
          have q1 := cell_next hb3 q1
          have HW3 := Lib.hid (HW2.out.next hb3)
          have HB3 := Lib.hid (HB2.out.trans (hb3.mono HB2.out.size))
          have HC3 := Lib.hid b3
          have hne : wc.heap.size ≠ W.heap.size := by have := HW2.out.lt; omega
          obtain ⟨g3, hg3⟩ : ∃ g3, g3 = wc.heap.size := ⟨_, rfl⟩
          rw [← hg3] at HC3 hne ⊢
          have HNE := Lib.hid hne
          clear b3 hb3 hg3 hne HW2 HB2 q0 q2 rv HS2 hq
          obtain ⟨w0, hw0⟩ : ∃ w0, w0 = wonAt own other a b 1 := ⟨_, rfl⟩
          obtain ⟨c, hc⟩ : ∃ c, c = Ct.mk other b.s.t b.s.f := ⟨_, rfl⟩
          obtain ⟨bo, hbo⟩ : ∃ bo, bo = (b.s.h && (decide (w0.o = 0) || beatsB c w0)) := ⟨_, rfl⟩
          have HNX := Lib.hid (show wonAt own other a b (1 + 1) = if bo then c else w0 by rw [hbo, hc, hw0]; unfold wonAt winB; rfl)
          rw [← hw0] at HW3
          rw [← hc] at HC3
          have HBO := Lib.hid hbo
          clear hw0 hc hbo
          obtain ⟨-, -, w00, -⟩ := ct_all HW3.out
          (try simp only [Act.put, List.setIfInBounds_toArray, List.set_cons_zero, List.set_cons_succ])
          go_cut [48] from 36 to 48 (fun vx wx => vx = .bool bo ∧ Below W3.heap.size W3 wx)
          case first =>
            cases hh : b.s.h with
            | false =>
              rw [hh] at q1 HBO
              go_wp2_with fail
              go_meet
              exact ⟨by rw [HBO.out]; rfl, Below.refl _ _⟩
            | true =>
              rw [hh] at q1 HBO
              by_cases hz : w0.o = 0
              · have e1 : (w0.o == 0) = true := by simp [hz]
                have HB2 := Lib.hid (show bo = true by rw [HBO.out, decide_eq_true hz]; rfl)
                clear hz
                go_wp2_with fail
                go_meet
                exact ⟨by rw [HB2.out], Below.refl _ _⟩
              · have e1 : (w0.o == 0) = false := by simp [hz]
                have HB2 := Lib.hid (show bo = beatsB c w0 by rw [HBO.out, decide_eq_false hz]; rfl)
                clear hz
                go_wp2_with (first | (refine wpList_load_blk (by rfl) 47 _ rfl g3 rfl 47 c.cells.toArray _ HC3.out Try.underlying47 rfl (ctinfoA _) ?_) | (refine wpList_load_blk (by rfl) 47 _ rfl W.heap.size rfl 47 w0.cells.toArray _ HW3.out Try.underlying47 rfl (ctinfoA _) ?_) | (go_at_call 35; refine (beats_any c w0 _).mono ?_; rintro e w4 ⟨rfl, hb4⟩; have HB4 := Lib.hid hb4; clear hb4))
                go_meet
                exact ⟨by rw [HB2.out], HB4.out⟩
          case rest =>
            obtain ⟨rfl, hb4⟩ := hcut
            have HW4 := Lib.hid (HW3.out.next hb4)
            have HC4 := Lib.hid (HC3.out.next hb4)
            have HB4 := Lib.hid (HB3.out.trans (hb4.mono HB3.out.size))
            clear hb4 HW3 HC3 HB3 w00 q1 HBO
            cases bo with
            | false =>
              go_wp2_with fail
              go_roundw
              case rel => exact ⟨1 + 1, by omega, rfl, by rw [HNX.out]; exact HW4.out, HB4.out, fun _ => HH.out.1 (by omega), fun _ => HQ.out⟩
              case measure => simp [intOf]
            | true =>
              go_wp2_with (first | (refine wpList_load_blk (by rfl) 47 _ rfl g3 rfl 47 c.cells.toArray _ HC4.out Try.underlying47 rfl (ctinfoA _) ?_) | (refine wpList_store_blk rfl 47 _ _ rfl W.heap.size 47 w0.cells.toArray c.cells.toArray rfl rfl HW4.out (ctinfoA _) ((ct_siz _).symm.trans (ct_siz _)) (ct_one _) ?_; intro b5; have HW5 := Lib.hid b5; have HB5 := Lib.hid (below_setRow HB4.out (Nat.le_refl _) c.cells.toArray); clear b5))
              go_roundw
              case rel => exact ⟨1 + 1, by omega, rfl, by rw [HNX.out]; exact HW5.out, HB5.out, fun _ => HH.out.1 (by omega), fun _ => HQ.out⟩
              case measure => simp [intOf]
    · clear hk i0 i1
      have HWB := Lib.hid (show Blk wr W.heap.size 47 (winB own other a b).cells.toArray from HW.out)
      have h1 := HH.out.1 (by omega)
      have h2 := HH.out.2 (by omega)
      obtain ⟨c, hc⟩ : ∃ c, c = winB own other a b := ⟨_, rfl⟩
      rw [← hc] at HWB
      obtain ⟨-, -, c00, -⟩ := ct_all HWB.out
      simp only [Int.cast_ofNat_Int]
      by_cases hz : c.o = 0
      · have e1 : (c.o == 0) = true := by simp [hz]
        have HN := Lib.hid (show won own other a b = none by unfold won; rw [h1, h2, ← hc]; simp [hz])
        clear hz h1 h2 hc HW
        go_wp2_with fail
        refine bodyPost_ret (results_none rfl _ _ _) rfl ?_
        exact ⟨rfl, HNO.out _ HBe.out HN.out⟩
      · have e1 : (c.o == 0) = false := by simp [hz]
        have HN := Lib.hid (show won own other a b = some c by unfold won; rw [h1, h2, ← hc]; simp [hz])
        clear hz h1 h2 hc HW
        go_upto_region 11 with fail
        clear e1 c00
        have r0 : wr.rangeAt W.heap.size 0 c.cells := HWB.out.range
        have T1 := HT.out.next HBe.out
        have c2 := T1.c2
        clear T1
        refine wp_region_tree (S := (fun w' => w'.rangeAt W.heap.size 0 c.cells)) (.take 0 (.take 1 (.take 2 (.take 3 (.take 5 (.two 4 (.one 6 (.one 7 (.take 8 (.take 9 (.one 10 .nil))))) 6 (.one 4 (.one 7 (.take 8 (.take 9 (.one 10 .nil))))))))))) 9999 (by kernel_rfl) (by kernel_rfl) (by kernel_rfl) (by kernel_rfl) (by kernel_rfl) (fun _ _ d _ _ h => by cases d <;> exact h) r0 (fun hHeld => ?_); simp only [Tree.map, List.getElem?_toArray, List.getElem?_cons_zero, List.getElem?_cons_succ]
        (repeat (first | (refine wpTree.take (v := undef) (Or.inr ⟨by rfl, rfl⟩) ?_; simp only [Act.put, List.setIfInBounds_toArray, List.set_cons_zero, List.set_cons_succ]) | (refine wpTree.take (v := .agg c.cells.toArray) (yieldsIf_load_mid rfl 47 _ rfl _ _ rfl c.cells _ (fun _ hS => hS) Try.underlying47 rfl (ctinfo _)) ?_; simp only [Act.put, List.setIfInBounds_toArray, List.set_cons_zero, List.set_cons_succ]) | (refine wpTree.take (v := ?_) (Or.inl ⟨by rfl, ?_⟩) ?_; rotate_left; (focus (intro _ hS; (try dsimp only at hS); go_split_ands; (try subst hS); go_simp; (try (with_reducible rfl)); done)); simp only [Act.put, List.setIfInBounds_toArray, List.set_cons_zero, List.set_cons_succ])))
        refine wpTree.two ?_ ?_
        · skip
          refine wpTree.one (fun K hK => ?_)
          go_simp
          refine hK.out _ _ hHeld (fun _ => ?_)
          clear hK K
          (try simp only [Act.put, List.setIfInBounds_toArray, List.set_cons_zero, List.set_cons_succ])
          refine wpTree.one (fun K hK => ?_)
          refine step_buildSlice1 (c := c) (by rfl) _ rfl rfl ?_
          have hb5 : Below wr.drew.heap.size wr.drew (wr.drew.alloc (.cells c.cells.toArray 47)) := (Below.refl _ _).alloc (Nat.le_refl _) _
          have hS5 := range_below' hb5 hHeld
          refine hK.out _ _ hS5 (fun _ => ?_)
          clear hK K
          (try simp only [Act.put, List.setIfInBounds_toArray, List.set_cons_zero, List.set_cons_succ])
          obtain ⟨w5, hw5⟩ : ∃ w5, w5 = wr.drew.alloc (.cells c.cells.toArray 47) := ⟨_, rfl⟩
          have b5 : Blk w5 wr.heap.size 47 c.cells.toArray := by rw [hw5]; exact Blk.new wr.drew _ _
          have c5 : w5.cell? ⟨t, 2, none⟩ = some v := by rw [hw5]; exact cell_next hb5 c2
          rw [← hw5] at hb5 hS5 ⊢
          clear hw5
          have HB5 := Lib.hid (show Below W.heap.size W w5 from HBe.out.drew.trans (hb5.mono HBe.out.size))
          have HT5 := Lib.hid (HT.out.next HB5.out)
          obtain ⟨i0, z0, hi, hz, hsz, hby, hzs⟩ := info_ct
          refine wpTree.one (fun K hK => ?_)
          refine step_append_g (w := w5) (by rfl) _ _ 36 rfl B 47 i0 z0 Try.underlying36 hi hz (by rw [hsz]; exact hzs) (by rw [hsz]; decide) v cs.length (cts cs) rfl (by rw [hsz]; exact HT5.out.row) (some ⟨wr.heap.size, 0, none⟩) 1 1 c.cells rfl (by rw [hsz, ct_len]) (Or.inl ⟨_, rfl, fun j u hj => by have := b5.cell j; rw [List.getElem?_toArray, hj] at this; rw [Addr.add_mid, Nat.zero_add]; exact this⟩) (ct_ones _) (by unfold maxLen; have := HL.out; omega) (by rw [hby]; have := HL.out; omega) (by have := HB.out; have := HB5.out.size; omega) ?_
          intro v6 w6 hown hgrow hloc
          rw [hsz] at hown
          have HO6 := Lib.hid hown
          have HG6 := Lib.hid hgrow
          have HL6 := Lib.hid hloc
          have ht6 : Blk w6 t 64 (tcells own other v a b).toArray := (hgrow.block t HT5.out.blk.lt (fun e => HT5.out.tne e.symm)).trans HT5.out.blk
          have HT6 := Lib.hid ht6
          have c6 := ht6.cell 2
          have z6 := ht6.frozen 2
          rw [List.getElem?_toArray, tc_2] at c6
          have hW6 : w6.heap[W.heap.size]? = w5.heap[W.heap.size]? := hgrow.block W.heap.size (by have := HB5.out.size; have := HWB.out.lt; have := hb5.size; rw [show wr.drew.heap.size = wr.heap.size from rfl] at this; omega) (fun e => by have := (HT.out.low _ (HT.out.fv _ e.symm)).2; omega)
          obtain ⟨A6, k6, rfl, -⟩ := ownG_slice hown
          have hS6 : w6.rangeAt W.heap.size 0 c.cells := fun j u hj => (World.cell?_of_block hW6).trans (hS5 j u hj)
          refine hK.out _ _ hS6 (fun _ => ?_)
          clear hK K hown hgrow hloc ht6 hi hz hsz hby hzs b5 hb5 hS5 hW6
          (try simp only [Act.put, List.setIfInBounds_toArray, List.set_cons_zero, List.set_cons_succ])
          (repeat (first | (refine wpTree.take (v := undef) (Or.inr ⟨by rfl, rfl⟩) ?_; simp only [Act.put, List.setIfInBounds_toArray, List.set_cons_zero, List.set_cons_succ]) | (refine wpTree.take (v := ?_) (Or.inl ⟨by rfl, ?_⟩) ?_; rotate_left; (focus (intro _ hS; (try dsimp only at hS); go_split_ands; (try subst hS); go_simp; (try (with_reducible rfl)); done)); simp only [Act.put, List.setIfInBounds_toArray, List.set_cons_zero, List.set_cons_succ])))
          refine wpTree.one (fun K hK => ?_)
          go_simp
          have htW : W.heap.size ≠ t := Nat.ne_of_gt (HT.out.low t HT.out.ft).2
          refine hK.out _ _ (fun j u hj => (World.cell?_of_block (Below.heap_setCell w6 ⟨t, 2, none⟩ _ W.heap.size htW)).trans (hS6 j u hj)) (fun _ => ?_)
          clear hK K hHeld c6 z6 hS6 htW
          (try simp only [Act.put, List.setIfInBounds_toArray, List.set_cons_zero, List.set_cons_succ])
          refine wpTree.done ?_
          have h7 : Blk (w6.setCell ⟨t, 2, none⟩ (.slice A6 (cs.length + 1) k6)) t 64 _ := HT6.out.setCell 2 _
          have h7t := h7.there (o := 3) (n := 30) (by simp [tc_len])
          have HEND := Lib.hid (dec_end HT.out HB5.out HO6.out HG6.out HL6.out)
          clear h7 HT6 HG6 HL6 HO6 HT5 HB5
          go_wp2_with (first | (refine wpList_build_lit (Sd.zero.cells ++ Sd.zero.cells).toArray rfl 62 _ rfl built_sds ?_) | (refine wpList_store_mid rfl 62 _ _ rfl t 3 (Sd.zero.cells ++ Sd.zero.cells).toArray rfl rfl (by rw [List.size_toArray, sds_len]; exact h7t) sdsinfo sds_ones ?_; rw [show (Sd.zero.cells ++ Sd.zero.cells).toArray.toList = Sd.zero.cells ++ Sd.zero.cells from rfl]))
          go_end0
          refine ⟨rfl, ?_⟩
          unfold DecP
          rw [HN.out]
          exact ⟨_, HEND.out⟩
        · skip
          refine wpTree.one (fun K hK => ?_)
          refine step_buildSlice1 (c := c) (by rfl) _ rfl rfl ?_
          have hb5 : Below wr.drew.heap.size wr.drew (wr.drew.alloc (.cells c.cells.toArray 47)) := (Below.refl _ _).alloc (Nat.le_refl _) _
          have hS5 := range_below' hb5 hHeld
          refine hK.out _ _ hS5 (fun _ => ?_)
          clear hK K
          (try simp only [Act.put, List.setIfInBounds_toArray, List.set_cons_zero, List.set_cons_succ])
          obtain ⟨w5, hw5⟩ : ∃ w5, w5 = wr.drew.alloc (.cells c.cells.toArray 47) := ⟨_, rfl⟩
          have b5 : Blk w5 wr.heap.size 47 c.cells.toArray := by rw [hw5]; exact Blk.new wr.drew _ _
          have c5 : w5.cell? ⟨t, 2, none⟩ = some v := by rw [hw5]; exact cell_next hb5 c2
          rw [← hw5] at hb5 hS5 ⊢
          clear hw5
          have HB5 := Lib.hid (show Below W.heap.size W w5 from HBe.out.drew.trans (hb5.mono HBe.out.size))
          have HT5 := Lib.hid (HT.out.next HB5.out)
          refine wpTree.one (fun K hK => ?_)
          go_simp
          refine hK.out _ _ hS5 (fun _ => ?_)
          clear hK K
          (try simp only [Act.put, List.setIfInBounds_toArray, List.set_cons_zero, List.set_cons_succ])
          obtain ⟨i0, z0, hi, hz, hsz, hby, hzs⟩ := info_ct
          refine wpTree.one (fun K hK => ?_)
          refine step_append_g (w := w5) (by rfl) _ _ 36 rfl B 47 i0 z0 Try.underlying36 hi hz (by rw [hsz]; exact hzs) (by rw [hsz]; decide) v cs.length (cts cs) rfl (by rw [hsz]; exact HT5.out.row) (some ⟨wr.heap.size, 0, none⟩) 1 1 c.cells rfl (by rw [hsz, ct_len]) (Or.inl ⟨_, rfl, fun j u hj => by have := b5.cell j; rw [List.getElem?_toArray, hj] at this; rw [Addr.add_mid, Nat.zero_add]; exact this⟩) (ct_ones _) (by unfold maxLen; have := HL.out; omega) (by rw [hby]; have := HL.out; omega) (by have := HB.out; have := HB5.out.size; omega) ?_
          intro v6 w6 hown hgrow hloc
          rw [hsz] at hown
          have HO6 := Lib.hid hown
          have HG6 := Lib.hid hgrow
          have HL6 := Lib.hid hloc
          have ht6 : Blk w6 t 64 (tcells own other v a b).toArray := (hgrow.block t HT5.out.blk.lt (fun e => HT5.out.tne e.symm)).trans HT5.out.blk
          have HT6 := Lib.hid ht6
          have c6 := ht6.cell 2
          have z6 := ht6.frozen 2
          rw [List.getElem?_toArray, tc_2] at c6
          have hW6 : w6.heap[W.heap.size]? = w5.heap[W.heap.size]? := hgrow.block W.heap.size (by have := HB5.out.size; have := HWB.out.lt; have := hb5.size; rw [show wr.drew.heap.size = wr.heap.size from rfl] at this; omega) (fun e => by have := (HT.out.low _ (HT.out.fv _ e.symm)).2; omega)
          obtain ⟨A6, k6, rfl, -⟩ := ownG_slice hown
          have hS6 : w6.rangeAt W.heap.size 0 c.cells := fun j u hj => (World.cell?_of_block hW6).trans (hS5 j u hj)
          refine hK.out _ _ hS6 (fun _ => ?_)
          clear hK K hown hgrow hloc ht6 hi hz hsz hby hzs b5 hb5 hS5 hW6
          (try simp only [Act.put, List.setIfInBounds_toArray, List.set_cons_zero, List.set_cons_succ])
          (repeat (first | (refine wpTree.take (v := undef) (Or.inr ⟨by rfl, rfl⟩) ?_; simp only [Act.put, List.setIfInBounds_toArray, List.set_cons_zero, List.set_cons_succ]) | (refine wpTree.take (v := ?_) (Or.inl ⟨by rfl, ?_⟩) ?_; rotate_left; (focus (intro _ hS; (try dsimp only at hS); go_split_ands; (try subst hS); go_simp; (try (with_reducible rfl)); done)); simp only [Act.put, List.setIfInBounds_toArray, List.set_cons_zero, List.set_cons_succ])))
          refine wpTree.one (fun K hK => ?_)
          go_simp
          have htW : W.heap.size ≠ t := Nat.ne_of_gt (HT.out.low t HT.out.ft).2
          refine hK.out _ _ (fun j u hj => (World.cell?_of_block (Below.heap_setCell w6 ⟨t, 2, none⟩ _ W.heap.size htW)).trans (hS6 j u hj)) (fun _ => ?_)
          clear hK K hHeld c6 z6 hS6 htW
          (try simp only [Act.put, List.setIfInBounds_toArray, List.set_cons_zero, List.set_cons_succ])
          refine wpTree.done ?_
          have h7 : Blk (w6.setCell ⟨t, 2, none⟩ (.slice A6 (cs.length + 1) k6)) t 64 _ := HT6.out.setCell 2 _
          have h7t := h7.there (o := 3) (n := 30) (by simp [tc_len])
          have HEND := Lib.hid (dec_end HT.out HB5.out HO6.out HG6.out HL6.out)
          clear h7 HT6 HG6 HL6 HO6 HT5 HB5
          go_wp2_with (first | (refine wpList_build_lit (Sd.zero.cells ++ Sd.zero.cells).toArray rfl 62 _ rfl built_sds ?_) | (refine wpList_store_mid rfl 62 _ _ rfl t 3 (Sd.zero.cells ++ Sd.zero.cells).toArray rfl rfl (by rw [List.size_toArray, sds_len]; exact h7t) sdsinfo sds_ones ?_; rw [show (Sd.zero.cells ++ Sd.zero.cells).toArray.toList = Sd.zero.cells ++ Sd.zero.cells from rfl]))
          go_end0
          refine ⟨rfl, ?_⟩
          unfold DecP
          rw [HN.out]
          exact ⟨_, HEND.out⟩
end Go.Proofs.Ytbnapbjmffajfaa
