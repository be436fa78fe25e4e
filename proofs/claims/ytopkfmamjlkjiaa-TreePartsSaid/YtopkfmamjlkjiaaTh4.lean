/-
interest: Reach.
-/
import Derived.Test.YtopkfmamjlkjiaaTh3
import Derived.ScopeJumps
import Derived.WalkMore
import Derived.OwnWalk
namespace Go.Proofs.Ytopkfmamjlkjiaa
open Go.RowKit
set_option linter.unusedSimpArgs false
set_option linter.unusedVariables false
namespace Tr
/-- A scope that is jumped back in, walked once. -/
theorem scope_once {P : Program} {a : Act} {w : World} {Q : Exit → Act → World → Prop} {c rest : Code} (l : Nat) (J : Act → World → Prop) (μ : Act → World → Nat) (hf : findLabel c l = some (.seq .skip rest))
    (pass : ∀ a w n, J a w → μ a w = n → rest.wp P (Exit.jump l (fun a' w' => J a' w' ∧ μ a' w' < n) Q) a w)
    (first : (∀ a w, J a w → rest.wp P (Exit.jump l J Q) a w) → c.wp P (Exit.jump l J Q) a w) : (Code.scope c).wp P Q a w :=
  wp_scope_jumps l J μ hf (first fun a w h => wp_mono (pass a w _ h rfl) (by
    intro e a w h
    cases e with
    | goto l' => exact ⟨h.1, h.2.1⟩
    | _ => exact h)) fun a w h => wp_seq (wp_skip (pass a w _ h rfl))
def slN : Value → Nat
  | .slice _ n _ => n
  | _ => 0
set_option maxRecDepth 20000 in
set_option maxHeartbeats 16000000 in
theorem ireach_any (W : World) (t : Tv) (hr : RowsOf ec 2 W t.A t.es) (hlen : t.es.length ≤ 1000000) (start cart : Int) (hc9 : cart ≤ 9223372036854775807) :
    Calls Try.prog 27 #[.agg t.cells.toArray, .int .i64 start, .int .i64 cart] W fun e W' => ∃ v O, e = .returned v ∧ Nds W' W.heap.size v O ∧ ((RightP t false ∧ O = []) ∨ (RightP t true ∧ ReachP t start cart O)) ∧ Below W.heap.size W W' := by
  have HR := Lib.hid hr
  have HLE := Lib.hid hlen
  have HC9 := Lib.hid hc9
  have bb := (Below.refl W.heap.size W).alloc (Nat.le_refl _) (.cells t.cells.toArray 25)
  have hx : Blk (W.alloc (.cells t.cells.toArray 25)) W.heap.size 25 t.cells.toArray := Blk.new W _ _
  obtain ⟨w2, hw2⟩ : ∃ w2, w2 = W.alloc (.cells t.cells.toArray 25) := ⟨_, rfl⟩
  rw [← hw2] at bb hx
  have HB2 := Lib.hid bb
  have HX2 := Lib.hid hx
  clear bb hx hr hlen hc9
  have HRT := Lib.hid (right_any w2 t (HR.out.next HB2.out) HLE.out)
  go_enter Try.func27, Try.ntmps27
  go_wp2_with fail
  rw [← hw2]
  clear hw2
  obtain ⟨gx, hgx⟩ : ∃ gx, gx = W.heap.size := ⟨_, rfl⟩
  rw [← hgx] at HX2
  (try rw [← hgx])
  have HGX := Lib.hid hgx
  clear hgx
  refine scope_once 0 (fun a' w' => ∃ (v q : Value) (O : List Nat) (Q : List (Int × Int)) (u9 u10 u11 u12 u13 u14 u15 u16 u17 u18 u19 u20 u21 u22 u23 u24 u25 u26 u27 u28 u29 u30 u31 u32 u33 u34 u35 u36 u37 u38 u39 u40 u41 u42 u43 u44 u45 u46 u47 u48 u49 u50 : Value), a' = { tmps := #[.agg t.cells.toArray, .int .i64 start, .int .i64 cart, .pointer (some ⟨gx, 0, none⟩), undef, undef, .slice none 0 0, v, q, u9, u10, u11, u12, u13, u14, u15, u16, u17, u18, u19, u20, u21, u22, u23, u24, u25, u26, u27, u28, u29, u30, u31, u32, u33, u34, u35, u36, u37, u38, u39, u40, u41, u42, u43, u44, u45, u46, u47, u48, u49, u50], defers := [] } ∧ RightP t true ∧ RV t start cart O Q ∧ HM W w' gx t v O q Q) (fun a' _ => 2 * (12 - slN (a'.tmps.getD 7 undef)) + slN (a'.tmps.getD 8 undef)) rfl ?_ ?_
  case refine_2 =>
    intro hrest
    have HREST := Lib.hid hrest
    clear hrest
    have hr0 : w2.rangeAt gx 0 t.cells := HX2.out.range
    obtain ⟨b, hb⟩ := right_ex t
    have HRI := Lib.hid (right_is w2 (HR.out.next HB2.out) HLE.out hb)
    have HBB := Lib.hid hb
    clear hb HRT
    cases b with
    | false =>
      go_wp2_with (first | (refine wpList_load_mid rfl 25 _ rfl _ _ rfl t.cells _ hr0 Try.underlying25 rfl (tvinfo t) ?_) | (go_at_call 21; refine HRI.out.mono ?_; rintro e w3 ⟨rfl, hb⟩; have HB3 := Lib.hid (HB2.out.trans (hb.mono HB2.out.size)); clear hb HRI))
      simp only [Exit.jump]
      go_ret
      exact ⟨_, [], rfl, Nds.nil _ _, .inl ⟨HBB.out, rfl⟩, HB3.out⟩
    | true =>
      go_wp2_with (first | (refine wpList_load_mid rfl 25 _ rfl _ _ rfl t.cells _ hr0 Try.underlying25 rfl (tvinfo t) ?_) | (go_at_call 21; refine HRI.out.mono ?_; rintro e w3 ⟨rfl, hb⟩; have HB3 := Lib.hid (HB2.out.trans (hb.mono HB2.out.size)); have HX3 := Lib.hid (HX2.out.next hb); clear hb HRI))
      go_step3
      rename_i hK1
      refine hK1 _ _ (HREST.out _ _ ?_)
      refine ⟨_, _, [], [(0, start)], _, _, _, _, _, _, _, _, _, _, _, _, _, _, _, _, _, _, _, _, _, _, _, _, _, _, _, _, _, _, _, _, _, _, _, _, _, _, _, _, _, _, rfl, HBB.out, rv_start, ?_⟩
      have hb4 : Below w3.heap.size w3 (w3.alloc (.cells #[.int .i64 0, .int .i64 start] 115)) := (Below.refl _ _).alloc (Nat.le_refl _) _
      exact ⟨HX3.out.next hb4, Nds.nil _ _, ⟨rfl, .inr ⟨w3.heap.size, 0, 1, _, rfl, HB3.out.size, heap_alloc_new w3 _, Nat.le_refl _, by decide, Nat.le_refl _, rfl⟩⟩, HB3.out.trans (hb4.mono HB3.out.size)⟩
  case refine_1 =>
    rintro a1 w1 nm ⟨v, q, O, Q, u9, u10, u11, u12, u13, u14, u15, u16, u17, u18, u19, u20, u21, u22, u23, u24, u25, u26, u27, u28, u29, u30, u31, u32, u33, u34, u35, u36, u37, u38, u39, u40, u41, u42, u43, u44, u45, u46, u47, u48, u49, u50, rfl, hRT, hRV, hM⟩ hmu
    have HRT1 := Lib.hid hRT
    have HRV := Lib.hid hRV
    have HM := Lib.hid hM
    have HMU := Lib.hid (show 2 * (12 - slN v) + slN q = nm from hmu)
    clear hRT hRV hM hmu
    obtain ⟨Av, cv, hv⟩ := HM.out.ro.shape
    obtain ⟨Aq, cq, hq⟩ := HM.out.rq.shape
    subst hv
    subst hq
    obtain ⟨no, hno⟩ : ∃ no, no = O.length := ⟨_, rfl⟩
    rw [← hno] at HMU
    (try rw [← hno])
    have HNO := Lib.hid hno
    clear hno
    rcases hQQ : Q with _ | ⟨⟨f, x⟩, T⟩
    · subst hQQ
      go_wp2_with fail
      simp only [Exit.jump]
      go_ret
      exact ⟨_, O, rfl, by rw [HNO.out]; exact HM.out.ro, .inr ⟨HRT1.out, rv_end HRT1.out HRV.out⟩, HM.out.bel⟩
    · subst hQQ
      obtain ⟨g, o, cc, ev, hgc, -, hgl⟩ := HM.out.rq.lies (by simp)
      simp only [Value.slice.injEq, true_and] at ev
      obtain ⟨rfl, rfl⟩ := ev
      have c0 : w1.cell? ⟨g, o, none⟩ = some (.int .i64 f) := HM.out.rq.cells rfl 0 _ rfl
      have c1 : w1.cell? ⟨g, o + 1, none⟩ = some (.int .i64 x) := HM.out.rq.cells rfl 1 _ rfl
      have hre : w1.rangeAt g o [.int .i64 f, .int .i64 x] := fun j u hj => HM.out.rq.cells rfl j u (by rw [hcs_cons]; exact List.getElem?_append_left (by exact (List.getElem?_eq_some_iff.1 hj).1) ▸ hj)
      obtain ⟨lq, hlq⟩ : ∃ lq, lq = ((f, x) :: T).length := ⟨_, rfl⟩
      rw [← hlq] at HMU hgc
      (try rw [← hlq])
      have HLQ := Lib.hid (show lq = T.length + 1 by rw [hlq]; rfl)
      have q1 : ((lq : Int) == 0) = false := by have := HLQ.out; simpa using (show ¬ ((lq : Nat) : Int) = 0 by omega)
      have q2 : 0 < lq := by have := HLQ.out; omega
      have q3 : (0 : Int) < ((lq : Nat) : Int) := by omega
      have HGL := Lib.hid hgl
      clear hlq hgl
      have HX := Lib.hid hre
      clear c0 c1
      go_upto_region 8 with (first | (refine wpList_load_mid rfl 115 _ rfl _ _ rfl [.int .i64 f, .int .i64 x] _ hre Try.underlying115 rfl (hopinfo f x) ?_) | (refine wpList_store_blk rfl 115 _ _ rfl w1.heap.size 115 #[.int .i64 0, .int .i64 0] #[.int .i64 f, .int .i64 x] rfl rfl (Blk.new' rfl) (hopinfoA f x) rfl (by simp [Value.oneCell']) ?_; intro _; rw [Wr.alloc_setRow]))
      clear hre q1 q2 q3
      obtain ⟨w3, hw3⟩ : ∃ w3, w3 = w1.alloc (.cells #[.int .i64 f, .int .i64 x] 115) := ⟨_, rfl⟩
      have hb3 : Below w1.heap.size w1 w3 := by rw [hw3]; exact (Below.refl _ _).alloc (Nat.le_refl _) _
      have hh3 : Blk w3 w1.heap.size 115 #[.int .i64 f, .int .i64 x] := by rw [hw3]; exact Blk.new _ _ _
      rw [← hw3]
      have HM3 := Lib.hid (HM.out.next hb3)
      obtain ⟨gh, hgh⟩ : ∃ gh, gh = w1.heap.size := ⟨_, rfl⟩
      rw [← hgh] at hh3
      (try rw [← hgh])
      have HH3 := Lib.hid hh3
      have HGH := Lib.hid (show gx ≠ gh from fun e => by
        have := HM.out.bx.lt
        omega)
      have HGG := Lib.hid (show g < gh by rw [hgh]; exact HGL.out)
      clear hw3 hb3 hh3 hgh
      have s1 : 1 ≤ lq := by have := HLQ.out; omega
      have s2 : lq ≤ cq := hgc
      go_upto_region 9 with fail
      clear s1 s2
      obtain ⟨qv, hqv⟩ : ∃ qv, qv = Value.slice (if cq = 1 then some ⟨g, o, none⟩ else some ⟨g, o + 2, none⟩) (lq - 1) (cq - 1) := ⟨_, rfl⟩
      have htail : Hps w3 W.heap.size qv T := by
        have h1 := HM3.out.rq
        unfold Hps at h1
        rw [List.length_cons, hcs_cons] at h1
        have h2 := OffR.tail h1 rfl
        rw [hqv, HLQ.out, Nat.add_sub_cancel]
        exact h2
      have hqo : ∀ k, qv.ownBlock = some k → k ≠ gh := by
        intro k e1 e2
        have h3 : k = g := by
          rw [hqv] at e1
          split at e1 <;> simp only [Value.ownBlock, Option.some.injEq] at e1 <;> exact e1.symm
        have := HGG.out
        omega
      have HQO := Lib.hid hqo
      have HM4 := Lib.hid (show Tr.HM W w3 gx t (.slice Av no cv) O qv T from ⟨HM3.out.bx, by rw [HNO.out]; exact HM3.out.ro, htail, HM3.out.bel⟩)
      rw [← hqv]
      clear htail hqo hqv hgc HM3
      have HTW := Lib.hid (toward_any w3 t (HR.out.next HM4.out.bel) HLE.out x f cart HC9.out)
      have c0 : w3.cell? ⟨gh, 0, none⟩ = some (.int .i64 f) := HH3.out.cell 0
      have c1 : w3.cell? ⟨gh, 1, none⟩ = some (.int .i64 x) := HH3.out.cell 1
      have hr0 : w3.rangeAt gx 0 t.cells := HM4.out.bx.range
      go_upto_region 10 with (first | (refine wpList_load_mid rfl 25 _ rfl _ _ rfl t.cells _ hr0 Try.underlying25 rfl (tvinfo t) ?_) | (go_at_call 29; refine HTW.out.mono ?_; rintro e w6 ⟨v6, R, rfl, hN, hT, hb⟩; have HN6 := Lib.hid hN; have HT6 := Lib.hid hT; have HB6 := Lib.hid hb; clear hN hT hb HTW; obtain ⟨A6, c6, hv6⟩ := HN6.out.shape; subst hv6))
      clear c0 c1 hr0
      obtain ⟨nr, hnr⟩ : ∃ nr, nr = R.length := ⟨_, rfl⟩
      rw [← hnr] at HN6
      (try rw [← hnr])
      have HNR := Lib.hid hnr
      have HM6 := Lib.hid (HM4.out.next HB6.out)
      have HH6 := Lib.hid (HH3.out.next HB6.out)
      have HNX := Lib.hid (rv_next HRT1.out HRV.out HT6.out)
      have HLE2 := Lib.hid (show (O ++ R).length ≤ 12 ∧ T.length ≤ 13 from ⟨(rv_len HNX.out.1).1, by have := (rv_len HRV.out).2; rw [List.length_cons] at this; omega⟩)
      have hne : ∀ k, (Value.slice Av no cv).ownBlock = some k → (Value.slice A6 nr c6).ownBlock ≠ some k := fun k e1 e2 => by
        have h1 := (HM4.out.ro.lt k e1).2
        have h2 := (HN6.out.lt k e2).1
        omega
      have HNE := Lib.hid hne
      have HN7 := Lib.hid (HN6.out.le HM4.out.bel.size)
      clear hnr hne HM4 HH3 HN6 HM
      go_loopw [7, 8, 35] (fun v q i wy => ∃ j : Nat, j ≤ nr ∧ i = .int .i64 j ∧ Tr.HM W wy gx t v (O ++ R.take j) q (T ++ (R.take j).map fun n => (x, ((n : Nat) : Int))) ∧ Blk wy gh 115 #[.int .i64 f, .int .i64 x] ∧ Nds wy W.heap.size (.slice A6 nr c6) R ∧ (∀ k, v.ownBlock = some k → (Value.slice A6 nr c6).ownBlock ≠ some k) ∧ ∀ k, q.ownBlock = some k → k ≠ gh) (fun _ _ i _ => nr - (intOf i).toNat)
      case atStart => exact ⟨0, Nat.zero_le _, rfl, by rw [List.take_zero, List.append_nil, List.map_nil, List.append_nil]; exact HM6.out, HH6.out, HN7.out, HNE.out, HQO.out⟩
      case round =>
        clear HM6 HH6 HN7 HNE HQO
        obtain ⟨j, hj, rfl, hM, hH, hN, hne, hqo⟩ := hrel
        have HMj := Lib.hid hM
        have HHj := Lib.hid hH
        have HNj := Lib.hid hN
        have HNEj := Lib.hid hne
        have HQOj := Lib.hid hqo
        clear hM hH hN hne hqo
        obtain ⟨Bv, dv, hv⟩ := HMj.out.ro.shape
        obtain ⟨Bq, dq, hq⟩ := HMj.out.rq.shape
        subst hv
        subst hq
        obtain ⟨lo, hlo⟩ : ∃ lo, lo = (O ++ R.take j).length := ⟨_, rfl⟩
        obtain ⟨lw, hlw⟩ : ∃ lw, lw = (T ++ (R.take j).map fun n => (x, ((n : Nat) : Int))).length := ⟨_, rfl⟩
        have HLO := Lib.hid (And.intro hlo hlw)
        rw [← hlo] at HMj HNEj
        rw [← hlw] at HMj HQOj
        (try rw [← hlo])
        (try rw [← hlw])
        have HLB := Lib.hid (show (O ++ R.take j).length ≤ 100 ∧ (T ++ (R.take j).map fun n => (x, ((n : Nat) : Int))).length ≤ 100 by
          have h := HLE2.out
          rw [List.length_append] at h
          rw [List.length_append, List.length_append, List.length_map, List.length_take]
          omega)
        clear hlo hlw
        by_cases hlt : j < nr
        · have i1 : (j : Int) < (nr : Nat) := by omega
          have i2 : ¬ (j : Int) < 0 := by omega
          obtain ⟨jj, hjj⟩ : ∃ jj, jj = j + 1 := ⟨_, rfl⟩
          have HW := Lib.hid (wrap_n j jj hjj (by have := HNR.out; have h := HLE2.out; rw [List.length_append] at h; omega))
          have HJ := Lib.hid (And.intro hjj hlt)
          obtain ⟨n, hn⟩ : ∃ n, R[j]? = some n := ⟨_, List.getElem?_eq_getElem (by rw [← HNR.out]; exact hlt)⟩
          have HN := Lib.hid (show R.take (j + 1) = R.take j ++ [n] by rw [List.take_add_one, hn]; rfl)
          obtain ⟨qa, qo, qc, ev, _, cm⟩ := HNj.out.at_ hn
          simp only [Value.slice.injEq] at ev
          obtain ⟨rfl, -, rfl⟩ := ev
          clear hj hlt hjj hn
          go_upto_region 12 with fail
          clear i1 i2 cm
          have hb2 : Below wr.heap.size wr (wr.alloc (.cells #[.int .i64 (n : Nat)] 3)) := (Below.refl wr.heap.size wr).alloc (Nat.le_refl _) _
          have HM2 := Lib.hid (HMj.out.next hb2)
          have HH2 := Lib.hid (HHj.out.next hb2)
          have HN2 := Lib.hid (HNj.out.next hb2)
          have HX2 := Lib.hid (show (wr.alloc (.cells #[.int .i64 (n : Nat)] 3)).cell? ⟨wr.heap.size, 0, none⟩ = some (.int .i64 (n : Nat)) from (Blk.new wr 3 #[.int .i64 (n : Nat)]).cell 0)
          clear hb2
          go_upto_region 13 with (refine wpList_plain rfl fun K hK => ?_; refine wp_app_int _ _ _ rfl W.heap.size (.slice Bv lo dv) (O ++ R.take j) rfl HM2.out.ro wr.heap.size 1 n rfl HX2.out (by have := HLB.out; omega) HM2.out.bel.size ?_; intro v9 w9 hN9 hg9 hloc9; obtain ⟨A9, c9, hv9⟩ := hN9.shape; obtain ⟨l9, hl9⟩ : ∃ l9, l9 = ((O ++ R.take j) ++ [n]).length := ⟨_, rfl⟩; rw [← hl9] at hv9; clear hl9; subst hv9; have HM9 := Lib.hid (HM2.out.came hN9 hg9); have HH9 := Lib.hid ((hg9.block gh HH2.out.lt (nds_ne HM2.out.ro HH2.out (by decide))).trans HH2.out); have HN9 := Lib.hid (HN2.out.keep fun k e => hg9.block k (HN2.out.lt k e).2 (fun e2 => HNEj.out k e2.symm e)); have HLO9 := Lib.hid hloc9; refine hK _ _ ?_; clear hK K hN9 hg9 hloc9; (try simp only [Act.put, List.setIfInBounds_toArray, List.set_cons_zero, List.set_cons_succ]))
          have HH9b : Blk w9 gh 115 #[.int .i64 f, .int .i64 x] := HH9.out
          have c1 : w9.cell? ⟨gh, 1, none⟩ = some (.int .i64 x) := HH9b.cell 1
          have hb10 : Below w9.heap.size w9 (w9.alloc (.cells #[.int .i64 x, .int .i64 (n : Nat)] 115)) := (Below.refl w9.heap.size w9).alloc (Nat.le_refl _) _
          have HM10 := Lib.hid (HM9.out.next hb10)
          have HH10 := Lib.hid (HH9b.next hb10)
          have HN10 := Lib.hid (HN9.out.next hb10)
          have HX10 := Lib.hid (Blk.new w9 115 #[.int .i64 x, .int .i64 (n : Nat)])
          have HZ10 := Lib.hid hb10.size
          clear hb10 HH9b
          go_upto_region 14 with (refine wpList_plain rfl fun K hK => ?_; refine wp_app_hop _ _ _ rfl W.heap.size (.slice Bq lw dq) (T ++ (R.take j).map fun n => (x, ((n : Nat) : Int))) rfl HM10.out.rq w9.heap.size 1 (x, ((n : Nat) : Int)) rfl (HX10.out.cell 0) (HX10.out.cell 1) (by have := HLB.out; omega) HM10.out.bel.size ?_; intro v11 w11 hN11 hg11 hloc11; obtain ⟨A11, c11, hv11⟩ := hN11.shape; obtain ⟨l11, hl11⟩ : ∃ l11, l11 = ((T ++ (R.take j).map fun n => (x, ((n : Nat) : Int))) ++ [(x, ((n : Nat) : Int))]).length := ⟨_, rfl⟩; rw [← hl11] at hv11; clear hl11; subst hv11; have HM11 := Lib.hid (HM10.out.waits hN11 hg11); have HH11 := Lib.hid ((hg11.block gh HH10.out.lt (fun e => HQOj.out gh e.symm rfl)).trans HH10.out); have HN11 := Lib.hid (HN10.out.keep fun k e => hg11.block k (HN10.out.lt k e).2 (fun e2 => nds_hps_ne HN10.out HM10.out.rq k e e2.symm)); have HLO11 := Lib.hid hloc11; refine hK _ _ ?_; clear hK K hN11 hg11 hloc11; (try simp only [Act.put, List.setIfInBounds_toArray, List.set_cons_zero, List.set_cons_succ]))
          clear c1
          go_wp2_with fail
          rw [HW.out]
          go_roundw
          case rel => exact ⟨jj, by have := HJ.out; omega, rfl, by rw [HJ.out.1, HN.out, List.map_append, ← List.append_assoc, ← List.append_assoc]; exact HM11.out, HH11.out, HN11.out, fun k e1 e2 => by
            rcases HLO9.out with h | h
            · rw [h] at e1; exact HNEj.out k e1 e2
            · rw [h] at e1
              simp only [Option.some.injEq] at e1
              have := (HN2.out.lt k e2).2
              omega, fun k e1 e2 => by
            rcases HLO11.out with h | h
            · rw [h] at e1; exact HQOj.out k e1 e2
            · rw [h] at e1
              simp only [Option.some.injEq] at e1
              have := HH10.out.lt
              omega⟩
          case measure => have := HJ.out; simp [intOf]; omega
        · have i1 : ¬ (j : Int) < (nr : Nat) := by omega
          have HE := Lib.hid (show R.take j = R by rw [show j = R.length by have := HNR.out; omega, List.take_length])
          clear hj hlt
          go_wp2_with fail
          go_step3
          refine ⟨rfl, ⟨_, _, O ++ R, T ++ R.map fun n => (x, ((n : Nat) : Int)), _, _, _, _, _, _, _, _, _, _, _, _, _, _, _, _, _, _, _, _, _, _, _, _, _, _, _, _, _, _, _, _, _, _, _, _, _, _, _, _, _, _, rfl, HRT1.out, HNX.out.1, by have h := HMj.out; rw [HE.out] at h; exact h⟩, ?_⟩
          have h1 := HNX.out.2
          have h2 := HLO.out
          rw [HE.out] at h2
          have h3 := HMU.out
          unfold mR at h1
          simp only [slN, List.length_cons] at h1 h3 ⊢
          show 2 * (12 - lo) + lw < nm
          have := HLQ.out
          have := HNO.out
          omega
end Tr
end Go.Proofs.Ytopkfmamjlkjiaa
