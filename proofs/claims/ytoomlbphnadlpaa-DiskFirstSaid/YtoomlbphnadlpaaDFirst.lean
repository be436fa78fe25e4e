/-
DiskFirst holds: for all calls and all numbers, behind a crash a disk is as one to which just the first bytes were written, one by one, and behind a Flush a crash changes nothing. No condition.
-/
import Derived.Test.YtoomlbphnadlpaaDFi
namespace Go.Proofs.Ytoomlbphnadlpaa
open Go.RowKit Go.Shelf Go.ChangeShapes Go.WideShapes Go.ChangeAt Go.WideElems
open Byt
set_option linter.unusedSimpArgs false
set_option linter.unusedVariables false

theorem w_add (p j q : Nat) (h : q ≤ 100000) (e : q = p + j) : wrap64 ((p : Int) + (j : Int)) = (q : Nat) ∧ IntKind.i64.wrap ((p : Int) + (j : Int)) = (q : Nat) := ⟨by unfold wrap64; omega, by rw [IntKind.wrap_i64]; omega⟩
theorem w_one (j q : Nat) (h : q ≤ 100000) (e : q = j + 1) : wrap64 ((j : Int) + 1) = (q : Nat) ∧ IntKind.i64.wrap ((j : Int) + 1) = (q : Nat) := ⟨by unfold wrap64; omega, by rw [IntKind.wrap_i64]; omega⟩
theorem w_less (a : Int) (n : Nat) (h : 0 < a - n) (h2 : a ≤ 9223372036854775807) : wrap64 (a - (n : Int) - 1) = a - ((n + 1 : Nat) : Int) ∧ IntKind.i64.wrap (a - (n : Int) - 1) = a - ((n + 1 : Nat) : Int) := ⟨by unfold wrap64; omega, by rw [IntKind.wrap_i64]; omega⟩
theorem dop_siz (x : Dop) : (4 : Nat) = x.cells.toArray.size := by rw [List.size_toArray, dop_len]
theorem Dop.Ok.next {W w : World} {x : Dop} (h : x.Ok W) (hb : Below W.heap.size W w) : x.Ok w := { h with rd := h.rd.next hb }
set_option maxHeartbeats 4000000 in
set_option maxRecDepth 20000 in
theorem first_walk (W : World) (A : Option Addr) (c : Nat) (l : List Dop) (last : Int) (hl : -9223372036854775808 ≤ last ∧ last ≤ 9223372036854775807) (hr : RowsOf Dop.cells 4 W A l) (hok : ∀ x ∈ l, x.Ok W) :
    Calls Try.prog 3 #[.slice A l.length c, .int .i64 last] W fun e W' => e = .returned (.bool true) ∧ Below W.heap.size W W' := by
  have HN := Lib.hid (new_any W 300 (by omega) (by omega))
  have HL := Lib.hid hl
  have HR := Lib.hid hr
  have HOK := Lib.hid hok
  clear hl hr hok
  obtain ⟨da, hda⟩ : ∃ d, d = W.heap.size + 1 := ⟨_, rfl⟩
  rw [← hda] at HN
  clear hda
  go_enter Try.func3, Try.ntmps3
  go_upto_region 2 with (go_at_call 5; refine HN.out.mono ?_; rintro e w1 ⟨rfl, hD, hb, hs⟩; have HC1 := Lib.hid hD; have HB1 := Lib.hid hb; clear hD hb hs HN)
  have HN := Lib.hid (new_any w1 300 (by omega) (by omega))
  obtain ⟨db, hdb⟩ : ∃ d, d = w1.heap.size + 1 := ⟨_, rfl⟩
  rw [← hdb] at HN
  have HDB := Lib.hid hdb
  clear hdb
  obtain ⟨has0, hhas⟩ : ∃ l, l = List.replicate 300 0 := ⟨_, rfl⟩
  rw [← hhas] at HC1 HN
  clear hhas
  go_upto_region 3 with (go_at_call 5; refine HN.out.mono ?_; rintro e w2 ⟨rfl, hD, hb, hs⟩; have HT := Lib.hid (show Two W W.heap.size w1.heap.size da W.heap.size db w1.heap.size has0 last (fun _ => False) [] [] 0 0 0 w2 from ⟨_, _, _, _, [], [], 0, 0, HC1.out.next hb, hD, fun k hk hk' => by have := (HC1.out.low k hk).2; have := HDB.out; omega, HB1.out.trans (hb.mono HB1.out.size), Prot.none _ _, Prot.none _ _, rfl, by simp [flat], by simp, by simp, rfl, Nat.le_refl _, HB1.out.size⟩); clear hD hb hs HN HC1)
  obtain ⟨ha, hha⟩ : ∃ h, h = W.heap.size := ⟨_, rfl⟩
  obtain ⟨hb', hhb⟩ : ∃ h, h = w1.heap.size := ⟨_, rfl⟩
  have HT := Lib.hid (show Two W W.heap.size w1.heap.size da ha db hb' has0 last (fun _ => False) [] [] 0 0 0 w2 from by rw [hha, hhb]; exact HT.out)
  clear hha hhb HDB
  go_upto_region 7 with fail
  go_loopw [9, 10] (fun lf i wr => ∃ k nb kb : Nat, ∃ ys, k ≤ 60 ∧ i = .int .i64 k ∧ lf = .int .i64 (last - (nb : Nat)) ∧ Two W W.heap.size w1.heap.size da ha db hb' has0 last (fun _ => False) ys ys k kb nb wr ∧ kb ≤ 500 * k) (fun _ i _ => 60 - (intOf i).toNat)
  case atStart => exact ⟨0, 0, 0, [], by omega, rfl, by simp, HT.out, by omega⟩
  case round =>
    clear HT
    obtain ⟨k, nb, kb, ys, hk, rfl, rfl, hT, hkb⟩ := hrel
    have HKB := Lib.hid hkb
    by_cases hlt : k < l.length
    · by_cases hk60 : (k : Int) < 60
      · have HXW := Lib.hid (HOK.out l[k] (List.getElem_mem hlt))
        have HX := Lib.hid (HXW.out.next hT.below)
        obtain ⟨b, o, hA, hb, hrr⟩ := (HR.out.next hT.below).resolve_left (by rintro rfl; simp at hlt)
        subst hA
        have hr := hrr k hlt
        obtain ⟨x, hx⟩ : ∃ x, x = l[k] := ⟨_, rfl⟩
        rw [← hx] at HX HXW hr
        have HT1 := Lib.hid hT
        clear hrr hx hT hkb hb
        go_upto_region 10 with (first | (refine wpList_load_mid rfl 29 _ rfl _ _ rfl x.cells _ hr Try.underlying29 rfl (dopinfo x) ?_) | (refine wpList_store_blk rfl 29 _ _ rfl wr.heap.size 29 #[.int .i64 0, .int .i64 0, .int .i64 0, .slice none 0 0] x.cells.toArray rfl rfl (Blk.new' rfl) (dopinfoA x) (dop_siz x) (dop_one x) ?_; rw [alloc_setRow]; intro b2; have hb2 : Below wr.heap.size wr (wr.alloc (.cells x.cells.toArray 29)) := (Below.refl _ _).alloc (Nat.le_refl _) _; have HT2 := Lib.hid (HT1.out.fresh hb2 (g := wr.heap.size) ⟨Nat.le_refl _, by simp⟩); have HX2 := Lib.hid (HX.out.next hb2); obtain ⟨W2, hW2⟩ : ∃ W2, W2 = wr.alloc (.cells x.cells.toArray 29) := ⟨_, rfl⟩; rw [← hW2] at b2 HT2 HX2 ⊢; have HB2 := Lib.hid b2; clear hW2 hr hb2))
        obtain ⟨g, hg⟩ : ∃ g, g = wr.heap.size := ⟨_, rfl⟩
        rw [← hg] at HB2 HT2 b2 ⊢
        clear hg HT1 HX
        have c0 := b2.cell 0
        have c1 := b2.cell 1
        have c3 := b2.cell 3
        rw [List.getElem?_toArray, dop_0] at c0
        rw [List.getElem?_toArray, dop_1] at c1
        rw [List.getElem?_toArray, dop_3] at c3
        clear b2
        by_cases p1 : (500 : Int) < (x.bs.length : Nat)
        · go_wp2_with fail
          go_roundw
          case rel => exact ⟨k + 1, nb, kb, ys, by omega, by simp, rfl, HT2.out.free.more (by omega) (Nat.le_refl _), by have := HKB.out; omega⟩
          case measure => simp [intOf]; omega
        by_cases p2 : x.k = 0
        case neg =>
          have p2' : (x.k == 0) = false := by simpa using p2
          go_wp2_with fail
          go_roundw
          case rel => exact ⟨k + 1, nb, kb, ys, by omega, by simp, rfl, HT2.out.free.more (by omega) (Nat.le_refl _), by have := HKB.out; omega⟩
          case measure => simp [intOf]; omega
        rw [p2] at c0
        clear p2
        by_cases p3 : 0 ≤ x.p ∧ x.p + (x.bs.length : Int) ≤ 300
        case neg =>
          have HW := Lib.hid (HT2.out.badA x.p ⟨HX2.out.p1, HX2.out.p2⟩ x.A x.bs.length x.c p3)
          clear p3
          go_wp2_with (go_at_call 6; refine HW.out.mono ?_; rintro e w3 ⟨rfl, rfl⟩)
          go_roundw
          case rel => exact ⟨k + 1, nb, kb, ys, by omega, by simp, rfl, HT2.out.free.more (by omega) (Nat.le_refl _), by have := HKB.out; omega⟩
          case measure => simp [intOf]; omega
        obtain ⟨p, hp⟩ : ∃ p : Nat, x.p = p := ⟨x.p.toNat, by omega⟩
        rw [hp] at c1
        have HFIT := Lib.hid (show p + x.bs.length ≤ 300 by omega)
        have HW := Lib.hid (HT2.out.writeA p x.c x.A x.bs (HX2.out.rd.src HX2.out.hA) HX2.out.h256 HFIT.out (by omega))
        have HXb := Lib.hid (show x.bs.length ≤ 500 by omega)
        have HP := Lib.hid hp
        clear p3 hp p1
        have p1 : ¬ (500 : Int) < (x.bs.length : Nat) := by have := HXb.out; omega
        go_wp2_with (go_at_call 6; refine HW.out.mono ?_; rintro e w3 ⟨rfl, hT, hK⟩; have HT3 := Lib.hid hT; have HB3 := Lib.hid (show Blk w3 g 29 x.cells.toArray from (hK g rfl).trans HB2.out); clear hT hK)
        clear c0 c1 c3 HX2 HT2 HB2 HW p1
        go_loopw [9, 12] (fun lf jv w4 => ∃ j nb' kb' : Nat, j ≤ x.bs.length ∧ jv = .int .i64 j ∧ lf = .int .i64 (last - (nb' : Nat)) ∧ Two W W.heap.size w1.heap.size da ha db hb' has0 last (fun i => i = g) (ys ++ puts p x.bs) (ys ++ (puts p x.bs).take j) (k + 1) kb' nb' w4 ∧ kb' ≤ 500 * k + j ∧ Blk w4 g 29 x.cells.toArray) (fun _ j _ => 500 - (intOf j).toNat)
        case atStart => exact ⟨0, nb, kb, by omega, rfl, rfl, by rw [List.take_zero, List.append_nil]; exact HT3.out, HKB.out, HB3.out⟩
        case round =>
          clear HT3 HB3 HKB
          obtain ⟨j, nb', kb', hj, rfl, rfl, hT4, hkb4, hB4⟩ := hrel
          have HT4 := Lib.hid hT4
          have HK4 := Lib.hid hkb4
          have HB4 := Lib.hid hB4
          have c1 := hB4.cell 1
          have c3 := hB4.cell 3
          rw [List.getElem?_toArray, dop_1] at c1
          rw [List.getElem?_toArray, dop_3] at c3
          clear hT4 hkb4 hB4
          rw [HP.out] at c1
          by_cases hjl : j < x.bs.length
          · by_cases hlf : (0 : Int) < last - (nb' : Nat)
            · obtain ⟨y, hy⟩ : ∃ y, x.bs[j]? = some y := ⟨_, List.getElem?_eq_getElem hjl⟩
              have HXr := (HXW.out.next HT4.out.below)
              obtain ⟨b2, o2, hA2, hb2, hcells⟩ := HXr.rd.resolve_left (by intro e; rw [e] at hjl; simp at hjl)
              have hs := Lib.hid (show Src wr.drew (some ⟨b2, o2 + j, none⟩) 1 (u8s [y]) from Or.inl ⟨_, rfl, fun i u hi => by
                cases i with
                | zero =>
                  simp [u8s] at hi
                  subst hi
                  rw [Opn.add_plain]
                  exact hcells j y hy
                | succ i => simp [u8s] at hi⟩)
              have hy2 := Lib.hid (HXr.h256 y (List.mem_of_getElem? hy))
              have hcj : ¬ x.c = j := by have := HXr.hc; omega
              have hjc : ((j + 1 : Nat) : Int) ≤ (x.c : Nat) := by have := HXr.hc; omega
              rw [hA2] at c3
              obtain ⟨q, hq⟩ : ∃ q, q = p + j := ⟨_, rfl⟩
              obtain ⟨j1, hj1⟩ : ∃ j1, j1 = j + 1 := ⟨_, rfl⟩
              have hq3 : q ≤ 100000 := by have := HFIT.out; clear hcj; omega
              have hj3 : j1 ≤ 100000 := by have := HXb.out; clear hcj; omega
              obtain ⟨ew1, ew2⟩ := w_add p j q hq3 hq
              obtain ⟨ev1, ev2⟩ := w_one j j1 hj3 hj1
              have f1 : j ≤ j1 := by rw [hj1]; exact Nat.le_succ _
              have f2 : (j1 : Int) ≤ (x.c : Nat) := by rw [hj1]; exact hjc
              have f3 : j1 - j = 1 := by rw [hj1]; exact Nat.add_sub_cancel_left j 1
              have HG := Lib.hid (w_less last nb' hlf HL.out.2)
              have HTd := HT4.out.next ((Below.refl wr.heap.size wr).drew)
              have HW := Lib.hid (HTd.writeB q y (x.c - j) (some ⟨b2, o2 + j, none⟩) hs.out hy2.out (by have := HFIT.out; clear ew1 ew2 ev1 ev2 hcj; omega) (by have := HK4.out; have := HXb.out; clear ew1 ew2 ev1 ev2 hcj; omega) hlf)
              have HP1 := Lib.hid (show (ys ++ (puts p x.bs).take j) ++ [(q, y)] = ys ++ (puts p x.bs).take (j + 1) by rw [puts_take hy, hq, List.append_assoc])
              have HJ := Lib.hid hj1
              have HJL := Lib.hid hjl
              clear hy HXr hA2 hb2 hcells hs hy2 hjc hq hj1 hq3 hj3 HTd
              go_upto_region 14 with fail
              clear hlf hlt hk60 hk hj hjl
              refine wp_region_tree (S := (fun w' => w'.cell? ⟨g, 1, none⟩ = some (.int .i64 (p : Nat)) ∧ w'.cell? ⟨g, 3, none⟩ = some (.slice (some ⟨b2, o2, none⟩) x.bs.length x.c))) (.take 0 (.take 1 (.take 2 (.take 3 (.take 4 (.take 5 (.take 6 (.take 7 (.take 8 (.take 9 (.take 10 (.one 11 (.take 12 .nil))))))))))))) 9999 (by kernel_rfl) (by kernel_rfl) (by kernel_rfl) (by kernel_rfl) (by kernel_rfl) (fun _ _ d _ _ h => by cases d <;> exact h) ⟨c1, c3⟩ (fun hHeld => ?_); simp only [Tree.map, List.getElem?_toArray, List.getElem?_cons_zero, List.getElem?_cons_succ]
              (repeat (first | (refine wpTree.take (v := undef) (Or.inr ⟨by rfl, rfl⟩) ?_; simp only [Act.put, List.setIfInBounds_toArray, List.set_cons_zero, List.set_cons_succ]) | (refine wpTree.take (v := ?_) (Or.inl ⟨by rfl, ?_⟩) ?_; rotate_left; (focus (intro _ hS; (try dsimp only at hS); go_split_ands; (try subst hS); go_simp; (try (with_reducible rfl)); done)); simp only [Act.put, List.setIfInBounds_toArray, List.set_cons_zero, List.set_cons_succ])))
              clear ew1 ew2 f1 f2 f3 hcj HXW HFIT HOK HT
              refine wpTree.one (fun K hK => ?_)
              go_simp
              go_at_call 6
              refine HW.out.mono ?_
              rintro e w5 ⟨rfl, hT5, hK5⟩
              have HT5 := Lib.hid hT5
              have HB5 := Lib.hid (show Blk w5 g 29 x.cells.toArray from (hK5 g rfl).trans HB4.out)
              refine hK.out _ _ ⟨?_, ?_⟩ (fun hHeld' => ?_)
              · exact (World.cell?_of_block (hK5 g rfl)).trans hHeld.1
              · exact (World.cell?_of_block (hK5 g rfl)).trans hHeld.2
              clear hK K hT5 hK5 HW HB4 hHeld' hHeld c1 c3
              (try simp only [Act.put, List.setIfInBounds_toArray, List.set_cons_zero, List.set_cons_succ])
              (repeat (first | (refine wpTree.take (v := undef) (Or.inr ⟨by rfl, rfl⟩) ?_; simp only [Act.put, List.setIfInBounds_toArray, List.set_cons_zero, List.set_cons_succ]) | (refine wpTree.take (v := ?_) (Or.inl ⟨by rfl, ?_⟩) ?_; rotate_left; (focus (intro _ hS; (try dsimp only at hS); go_split_ands; (try subst hS); go_simp; (try (with_reducible rfl)); done)); simp only [Act.put, List.setIfInBounds_toArray, List.set_cons_zero, List.set_cons_succ])))
              refine wpTree.done ?_
              obtain ⟨g1, g2⟩ := HG.out
              go_wp2_with fail
              go_roundw
              case rel => exact ⟨j1, nb' + 1, kb' + 1, by have := HJ.out; have := HJL.out; omega, rfl, rfl, by rw [HJ.out, ← HP1.out]; exact HT5.out, by have := HJ.out; have := HK4.out; omega, HB5.out⟩
              case measure => have := HJ.out; have := HJL.out; have := HXb.out; simp [intOf]; omega
            · have e : (ys ++ (puts p x.bs).take j).take last.toNat = (ys ++ puts p x.bs).take last.toNat := by
                have h1 := HT4.out.nb_eq
                have h2 := take_all (fa := ys ++ (puts p x.bs).take j) (r := (puts p x.bs).drop j) (last := last) (by rw [← h1]; exact hlf)
                rw [List.append_assoc, List.take_append_drop] at h2
                exact h2.symm
              have HT5 := Lib.hid (HT4.out.refa e)
              clear e
              go_wp2_with fail
              go_roundw
              case rel => exact ⟨k + 1, nb', kb', ys ++ puts p x.bs, by omega, by simp, rfl, HT5.out.free, by have := HK4.out; have := HXb.out; omega⟩
              case measure => simp [intOf]; omega
          · have hje : j = x.bs.length := by omega
            have HT5 := Lib.hid (show Two W W.heap.size w1.heap.size da ha db hb' has0 last (fun i => i = g) (ys ++ puts p x.bs) (ys ++ puts p x.bs) (k + 1) kb' nb' wr from by have := HT4.out; rwa [List.take_of_length_le (by rw [puts_len]; omega)] at this)
            clear hje
            go_wp2_with fail
            go_roundw
            case rel => exact ⟨k + 1, nb', kb', ys ++ puts p x.bs, by omega, by simp, rfl, HT5.out.free, by have := HK4.out; have := HXb.out; omega⟩
            case measure => simp [intOf]; omega
      · have HT9 := Lib.hid hT
        clear hT hkb
        obtain ⟨Fa, Fb, va, vb, wsa, wsb, wra, wrb, Da, Db, hab, hB, -, -, e1, e2, e3, e4, e5, hBB, hBb⟩ := HT9.out
        have HA0 := Lib.hid Da
        have HD0 := Lib.hid Db
        have HX0 := Lib.hid hab
        have HB0 := Lib.hid hB
        have HBb := Lib.hid hBb
        have HLA := Lib.hid (show wsa.length ≤ 100000 by omega)
        have HLB := Lib.hid (show wsb.length ≤ 100000 by have := HKB.out; omega)
        have HFL := Lib.hid (show (flat wsa).take last.toNat = flat wsb by rw [e1, e2])
        clear Da Db hab hB e1 e2 e3 e4 e5 hBB hBb HT9 HT HR HOK HB1 HKB hk
        go_upto_region 18 with (go_at_call 7; refine (crash_any HA0.out HLA.out last HL.out).mono ?_; rintro e w3 ⟨rfl, hD, hT⟩; rw [HFL.out] at hD; have HA3 := Lib.hid hD; have HD3 := Lib.hid (hT.other HD0.out (fun k hd hc => HX0.out k hc hd)); have HX3 := Lib.hid (apart_grow (W := wr) (W' := w3) HX0.out (fun k hk => (HD0.out.low k hk).2)); have HB3 := Lib.hid (HB0.out.trans hT.1); clear hD hT HA0 HD0 HX0 HB0)
        go_upto_region 19 with (go_at_call 8; refine (flush_any HD3.out HLB.out).mono ?_; rintro e w4 ⟨rfl, hD, hT⟩; have HD4 := Lib.hid hD; have HA4 := Lib.hid (hT.other HA3.out HX3.out); have HX4 := Lib.hid (apart_symm (apart_grow (W := w3) (W' := w4) (apart_symm HX3.out) (fun k hk => (HA3.out.low k hk).2))); have HB4 := Lib.hid (HB3.out.trans (hT.1.mono HBb.out)); clear hD hT HA3 HD3 HX3 HB3)
        obtain ⟨bx, hbx⟩ : ∃ b, b = ((putL (putL has0 (flat wsb)) (flat [])).drop 0).take 300 := ⟨_, rfl⟩
        have H256x := Lib.hid (show ∀ y ∈ bx, y < 256 by rw [hbx]; exact dt_256 HA4.out.put256 0 300)
        have HBX := Lib.hid hbx
        clear hbx
        go_upto_region 20 with (go_at_call 9; refine (read_any HA4.out (by simp) 0 300 (by decide)).mono ?_; rintro e w10 ⟨g1, c1, rfl, hr, hb⟩; rw [← HBX.out] at hr; have HPd10 := Lib.hid ((Prot.none _ _).add (fun k hk => (HD4.out.low k hk).2) hb (hr.lt g1 rfl)); have HR10 := Lib.hid hr; have HA10 := Lib.hid (HA4.out.next hb); have HD10 := Lib.hid (HD4.out.next hb); have HB10 := Lib.hid (HB4.out.trans (hb.mono HB4.out.size)); clear hr hb HA4 HD4 HB4)
        go_upto_region 21 with (go_at_call 9; refine (read_any HD10.out (by simp) 0 300 (by decide)).mono ?_; rintro e w11 ⟨g2, c2, rfl, hr, hb⟩; rw [← HBX.out] at hr; have HPd11 := Lib.hid (HPd10.out.add (fun k hk => (HD10.out.low k hk).2) hb (hr.lt g2 rfl)); have HRx11 := Lib.hid (ownG_next HR10.out hb); have HRy11 := Lib.hid hr; have HA11 := Lib.hid (HA10.out.next hb); have HD11 := Lib.hid (HD10.out.next hb); have HB11 := Lib.hid (HB10.out.trans (hb.mono HB10.out.size)); clear hr hb HA10 HD10 HB10 HR10 HPd10)
        go_upto_region 22 with (go_at_call 7; refine (crash_any HD11.out (by simp) last HL.out).mono ?_; rintro e w12 ⟨rfl, hD, hT⟩; rw [show List.take last.toNat (flat []) = flat [] from List.take_nil] at hD; have HD12 := Lib.hid hD; have HA12 := Lib.hid (hT.other HA11.out HX4.out); have HRx12 := Lib.hid (row_kept HRx11.out (hT.kept HPd11.out) (Or.inl (Or.inr rfl))); have HRy12 := Lib.hid (row_kept HRy11.out (hT.kept HPd11.out) (Or.inr rfl)); have HB12 := Lib.hid (HB11.out.trans (hT.1.mono HBb.out)); clear hD hT HA11 HD11 HX4 HPd11 HRx11 HRy11 HB11)
        go_upto_region 23 with (go_at_call 9; refine (read_any HD12.out (by simp) 0 300 (by decide)).mono ?_; rintro e w13 ⟨g3, c3, rfl, hr, hb⟩; have HRz13 := Lib.hid hr; have HRx13 := Lib.hid (ownG_next HRx12.out hb); have HRy13 := Lib.hid (ownG_next HRy12.out hb); have HA13 := Lib.hid (HA12.out.next hb); have HB13 := Lib.hid (HB12.out.trans (hb.mono HB12.out.size)); clear hr hb HD12 HA12 HRx12 HRy12 HB12)
        have hz : ((putL (putL (putL has0 (flat wsb)) (flat [])) (flat [])).drop 0).take 300 = bx := HBX.out.symm
        rw [hz] at HRz13
        have HK := Lib.hid (fun (w : World) (hb : Below w13.heap.size w13 w) => And.intro (row_conv (ownG_next HRx13.out hb) H256x.out) (And.intro (row_conv (ownG_next HRy13.out hb) H256x.out) (And.intro (row_conv (ownG_next HRz13.out hb) H256x.out) (HA13.out.next hb))))
        clear hz HRx13 HRy13 HRz13 HBX H256x HFL HLA HLB HA13
        go_wp2_with (first | (go_at_call 10; refine (alive_any _).mono ?_; rintro e w16 ⟨rfl, hb⟩; have HB16 := Lib.hid (HB13.out.trans (hb.mono HB13.out.size)); obtain ⟨k1, k2, k3, hA⟩ := HK.out _ hb; have HA16 := Lib.hid hA; clear hA hb HK) | (go_at_call 11; refine (waits_any HA16.out (by simp)).mono ?_; rintro e w17 ⟨rfl, hb⟩; have HB17 := Lib.hid (HB16.out.trans (hb.mono HB16.out.size)); clear hb))
        go_ret
        exact ⟨rfl, HB17.out⟩
    · have HT9 := Lib.hid hT
      clear hT hkb
      obtain ⟨Fa, Fb, va, vb, wsa, wsb, wra, wrb, Da, Db, hab, hB, -, -, e1, e2, e3, e4, e5, hBB, hBb⟩ := HT9.out
      have HA0 := Lib.hid Da
      have HD0 := Lib.hid Db
      have HX0 := Lib.hid hab
      have HB0 := Lib.hid hB
      have HBb := Lib.hid hBb
      have HLA := Lib.hid (show wsa.length ≤ 100000 by omega)
      have HLB := Lib.hid (show wsb.length ≤ 100000 by have := HKB.out; omega)
      have HFL := Lib.hid (show (flat wsa).take last.toNat = flat wsb by rw [e1, e2])
      clear Da Db hab hB e1 e2 e3 e4 e5 hBB hBb HT9 HT HR HOK HB1 HKB hk
      go_upto_region 18 with (go_at_call 7; refine (crash_any HA0.out HLA.out last HL.out).mono ?_; rintro e w3 ⟨rfl, hD, hT⟩; rw [HFL.out] at hD; have HA3 := Lib.hid hD; have HD3 := Lib.hid (hT.other HD0.out (fun k hd hc => HX0.out k hc hd)); have HX3 := Lib.hid (apart_grow (W := wr) (W' := w3) HX0.out (fun k hk => (HD0.out.low k hk).2)); have HB3 := Lib.hid (HB0.out.trans hT.1); clear hD hT HA0 HD0 HX0 HB0)
      go_upto_region 19 with (go_at_call 8; refine (flush_any HD3.out HLB.out).mono ?_; rintro e w4 ⟨rfl, hD, hT⟩; have HD4 := Lib.hid hD; have HA4 := Lib.hid (hT.other HA3.out HX3.out); have HX4 := Lib.hid (apart_symm (apart_grow (W := w3) (W' := w4) (apart_symm HX3.out) (fun k hk => (HA3.out.low k hk).2))); have HB4 := Lib.hid (HB3.out.trans (hT.1.mono HBb.out)); clear hD hT HA3 HD3 HX3 HB3)
      obtain ⟨bx, hbx⟩ : ∃ b, b = ((putL (putL has0 (flat wsb)) (flat [])).drop 0).take 300 := ⟨_, rfl⟩
      have H256x := Lib.hid (show ∀ y ∈ bx, y < 256 by rw [hbx]; exact dt_256 HA4.out.put256 0 300)
      have HBX := Lib.hid hbx
      clear hbx
      go_upto_region 20 with (go_at_call 9; refine (read_any HA4.out (by simp) 0 300 (by decide)).mono ?_; rintro e w10 ⟨g1, c1, rfl, hr, hb⟩; rw [← HBX.out] at hr; have HPd10 := Lib.hid ((Prot.none _ _).add (fun k hk => (HD4.out.low k hk).2) hb (hr.lt g1 rfl)); have HR10 := Lib.hid hr; have HA10 := Lib.hid (HA4.out.next hb); have HD10 := Lib.hid (HD4.out.next hb); have HB10 := Lib.hid (HB4.out.trans (hb.mono HB4.out.size)); clear hr hb HA4 HD4 HB4)
      go_upto_region 21 with (go_at_call 9; refine (read_any HD10.out (by simp) 0 300 (by decide)).mono ?_; rintro e w11 ⟨g2, c2, rfl, hr, hb⟩; rw [← HBX.out] at hr; have HPd11 := Lib.hid (HPd10.out.add (fun k hk => (HD10.out.low k hk).2) hb (hr.lt g2 rfl)); have HRx11 := Lib.hid (ownG_next HR10.out hb); have HRy11 := Lib.hid hr; have HA11 := Lib.hid (HA10.out.next hb); have HD11 := Lib.hid (HD10.out.next hb); have HB11 := Lib.hid (HB10.out.trans (hb.mono HB10.out.size)); clear hr hb HA10 HD10 HB10 HR10 HPd10)
      go_upto_region 22 with (go_at_call 7; refine (crash_any HD11.out (by simp) last HL.out).mono ?_; rintro e w12 ⟨rfl, hD, hT⟩; rw [show List.take last.toNat (flat []) = flat [] from List.take_nil] at hD; have HD12 := Lib.hid hD; have HA12 := Lib.hid (hT.other HA11.out HX4.out); have HRx12 := Lib.hid (row_kept HRx11.out (hT.kept HPd11.out) (Or.inl (Or.inr rfl))); have HRy12 := Lib.hid (row_kept HRy11.out (hT.kept HPd11.out) (Or.inr rfl)); have HB12 := Lib.hid (HB11.out.trans (hT.1.mono HBb.out)); clear hD hT HA11 HD11 HX4 HPd11 HRx11 HRy11 HB11)
      go_upto_region 23 with (go_at_call 9; refine (read_any HD12.out (by simp) 0 300 (by decide)).mono ?_; rintro e w13 ⟨g3, c3, rfl, hr, hb⟩; have HRz13 := Lib.hid hr; have HRx13 := Lib.hid (ownG_next HRx12.out hb); have HRy13 := Lib.hid (ownG_next HRy12.out hb); have HA13 := Lib.hid (HA12.out.next hb); have HB13 := Lib.hid (HB12.out.trans (hb.mono HB12.out.size)); clear hr hb HD12 HA12 HRx12 HRy12 HB12)
      have hz : ((putL (putL (putL has0 (flat wsb)) (flat [])) (flat [])).drop 0).take 300 = bx := HBX.out.symm
      rw [hz] at HRz13
      have HK := Lib.hid (fun (w : World) (hb : Below w13.heap.size w13 w) => And.intro (row_conv (ownG_next HRx13.out hb) H256x.out) (And.intro (row_conv (ownG_next HRy13.out hb) H256x.out) (And.intro (row_conv (ownG_next HRz13.out hb) H256x.out) (HA13.out.next hb))))
      clear hz HRx13 HRy13 HRz13 HBX H256x HFL HLA HLB HA13
      go_wp2_with (first | (go_at_call 10; refine (alive_any _).mono ?_; rintro e w16 ⟨rfl, hb⟩; have HB16 := Lib.hid (HB13.out.trans (hb.mono HB13.out.size)); obtain ⟨k1, k2, k3, hA⟩ := HK.out _ hb; have HA16 := Lib.hid hA; clear hA hb HK) | (go_at_call 11; refine (waits_any HA16.out (by simp)).mono ?_; rintro e w17 ⟨rfl, hb⟩; have HB17 := Lib.hid (HB16.out.trans (hb.mono HB16.out.size)); clear hb))
      go_ret
      exact ⟨rfl, HB17.out⟩

set_option maxRecDepth 100000 in
theorem first_lifted (os : Os) (started : os.Started) (H : Type) (enc : TypeId × Value → H) :
    ReturnsInHanded {} Try.checked os 3 .any (Rows.diskFirstSpec.pre6 enc Try.prog Try.f3 Rows.diskFirstRow.domain false) (Rows.diskFirstSpec.post enc Try.prog Try.f3 false true false false) := by
  refine law_lift (C := Try.checked) own_knob started (by kernel_rfl) Try.func3 rfl Try.underlying4 laid_out (by kernel_rfl) rfl ?_
    (ChangeSpec.witness6 (enc := enc) (C := Try.checked) false ⟨#[], #[.slice none 0 0, .int .i64 0], []⟩ 8 (by kernel_rfl) (by kernel_rfl) (by kernel_rfl) (by kernel_rfl)) ?_
  · intro ds hds
    match ds, hds with
    | [_, _], _ => rfl
  intro W base args ds ps hval hA hlt hsz
  rw [Try.params3] at hA hval
  obtain ⟨v0, vs0, d0, ds0, p0, q0, hargs, rfl, rfl, h0, r0⟩ := trodAll_cons hA
  obtain ⟨v1, vs1, d1, ds1, p1, q1, rfl, rfl, rfl, h1, r1⟩ := trodAll_cons r0
  obtain ⟨rfl, rfl, rfl⟩ := trodAll_nil r1
  obtain rfl : args = #[v0, v1] := by cases args; simp_all
  obtain ⟨A, c, l, rfl, hl, hc, hr, hok⟩ := open_rows Try.underlying22 4 cells_dop (by omega) Dop.cells (Dop.Ok W) ⟨0, 0, 0, none, 0, []⟩ dop_len (hval 0 22 v0 rfl rfl) h0 (fun x hx => hlt x (by simp [hx])) (fun _ _ _ _ h hlt => open_dop h hlt)
  obtain ⟨p, rfl, rfl, rfl, wp⟩ := open_int Try.underlying3 (hval 1 3 v1 rfl rfl) h1
  exact first_walk W A c l p (bounds_i64 wp) hr hok

theorem first_holds : Rows.DiskFirstSaid :=
  OpenClaim.holds_of_wide 3 Try.f3 rfl rfl rfl rfl rfl rfl rfl ⟨rfl, rfl, rfl, rfl, rfl⟩ rfl rfl rfl rfl rfl (by kernel_rfl) Try.func3 (by kernel_rfl)
    (of_decide_eq_true (by kernel_rfl)) (by unfold Func.isWrapper; first | (rw [if_pos (by decide +kernel)]; kernel_rfl) | (rw [if_neg (by decide +kernel)]; exact ⟨rfl, rfl⟩))
    (fun os started H enc _ => first_lifted os started H enc)

end Go.Proofs.Ytoomlbphnadlpaa
