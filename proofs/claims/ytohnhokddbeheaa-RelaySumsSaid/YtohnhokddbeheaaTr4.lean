/-
tree: edges, all of them gone through.
-/
import Derived.Test.YtohnhokddbeheaaTr3
import Derived.Test.YtohnhokddbeheaaOpenG
namespace Go.Proofs.Ytohnhokddbeheaa
open Go.RowKit
set_option linter.unusedSimpArgs false
set_option linter.unusedVariables false
namespace Tr
theorem fl_zero : (fl fun _ => false).toArray = Try.zeroCells83 := by kernel_rfl
def ec (e : Int × Int) : List Value := [.int .i64 e.1, .int .i64 e.2]
theorem ecinfo (e : Int × Int) : (Try.prog.info? 75).map (·.size) = some (ec e).length := by kernel_rfl
theorem ecinfoA (e : Int × Int) : (Try.prog.info? 75).map (·.size) = some (ec e).toArray.size := by kernel_rfl
def validB (k : Nat → Int) (e : Int × Int) : Bool := decide (e.1 ≠ e.2) && thereB k e.1 && thereB k e.2
def hitB (e : Int × Int) (i : Nat) : Bool := decide (i = e.1.toNat * 13 + e.2.toNat) || decide (i = e.2.toNat * 13 + e.1.toNat)
def foundF (k : Nat → Int) (es : List (Int × Int)) (i : Nat) : Bool := es.any fun e => validB k e && hitB e i
theorem found_no {k : Nat → Int} {es : List (Int × Int)} {i : Nat} {e : Int × Int} (h : es[i]? = some e) (hv : validB k e = false) : foundF k (es.take (i + 1)) = foundF k (es.take i) := by
  funext j
  unfold foundF
  rw [List.take_add_one, h]
  simp [hv]
theorem found_yes {k : Nat → Int} {es : List (Int × Int)} {i : Nat} {e : Int × Int} (h : es[i]? = some e) (hv : validB k e = true) : foundF k (es.take (i + 1)) = fun j => (foundF k (es.take i) j || decide (j = e.1.toNat * 13 + e.2.toNat)) || decide (j = e.2.toNat * 13 + e.1.toNat) := by
  funext j
  unfold foundF
  rw [List.take_add_one, h]
  simp [hv, hitB, Bool.or_assoc]
/-- What edges hands out: a tree's box and which edges there are. -/
structure Ed (W w : World) (gt gf : Nat) (t : Tv) (f : Nat → Bool) : Prop where
  lt : W.heap.size ≤ gt
  lf : W.heap.size ≤ gf
  bt : Blk w gt 25 t.cells.toArray
  bf : Blk w gf 83 (fl f).toArray
  bel : Below W.heap.size W w
theorem Ed.next {W w w' : World} {gt gf : Nat} {t : Tv} {f : Nat → Bool} (h : Ed W w gt gf t f) (hb : Below w.heap.size w w') : Ed W w' gt gf t f := ⟨h.lt, h.lf, h.bt.next hb, h.bf.next hb, h.bel.trans (hb.mono h.bel.size)⟩
theorem Ed.set2 {W w : World} {gt gf : Nat} {t : Tv} {f : Nat → Bool} (h : Ed W w gt gf t f) (i j : Nat) : Ed W ((w.setCell ⟨gf, i, none⟩ (.bool true)).setCell ⟨gf, j, none⟩ (.bool true)) gt gf t (fun x => (f x || decide (x = i)) || decide (x = j)) := by
  have hne : gt ≠ gf := by
    intro e
    have h1 := h.bt
    have h2 := h.bf
    rw [e] at h1
    unfold Blk at h1 h2
    rw [h1] at h2
    simp only [Option.some.injEq, Obj.cells.injEq] at h2
    exact absurd h2.2.1 (by decide)
  refine ⟨h.lt, h.lf, (h.bt.far hne _).far hne _, ?_, (Below.setCell h.bel h.lf _).setCell h.lf _⟩
  have := (h.bf.setCell i (.bool true)).setCell j (.bool true)
  rw [fl_set, fl_set] at this
  exact this
section
variable (W : World)
set_option maxRecDepth 20000 in
set_option maxHeartbeats 8000000 in
theorem edges_any (t : Tv) (hr : RowsOf ec 2 W t.A t.es) (hlen : t.es.length ≤ 1000000) :
    Calls Try.prog 48 #[.agg t.cells.toArray] W fun e W' => ∃ gt gf, e = .returned (.func (.func 70) #[] #[.pointer (some ⟨gt, 0, none⟩), .pointer (some ⟨gf, 0, none⟩)]) ∧ Ed W W' gt gf t (foundF t.k t.es) := by
  have HR := Lib.hid hr
  obtain ⟨n, hn⟩ : ∃ n, n = t.es.length := ⟨_, rfl⟩
  have HN := Lib.hid hn
  have HLE := Lib.hid hlen
  have h1 : Ed W ((W.alloc (.cells t.cells.toArray 25)).alloc (.cells (fl fun _ => false).toArray 83)) W.heap.size (W.heap.size + 1) t (foundF t.k (t.es.take 0)) := by
    have ba := (Below.refl W.heap.size W).alloc (Nat.le_refl _) (.cells t.cells.toArray 25)
    have bb := ba.alloc ba.size (.cells (fl fun _ => false).toArray 83)
    exact ⟨Nat.le_refl _, by omega, (Blk.new W _ _).alloc _, Blk.new' (by simp), bb⟩
  have hmf : ∀ (fn : Fn) (first cap : Array Value) (w : World), (Instr.makeFunc fn first cap).run Try.prog w = .ok (.func fn first cap) w := fun _ _ _ _ => rfl
  have HMF := Lib.hid hmf
  have H1 := Lib.hid h1
  clear h1 hr hn hlen hmf
  go_enter Try.func48, Try.ntmps48
  go_upto_region 2 with fail
  rw [← fl_zero]
  obtain ⟨w2, hw2⟩ : ∃ w2, w2 = (W.alloc (.cells t.cells.toArray 25)).alloc (.cells (fl fun _ => false).toArray 83) := ⟨_, rfl⟩
  rw [← hw2] at H1 ⊢
  obtain ⟨gt, hgt⟩ : ∃ g, g = W.heap.size := ⟨_, rfl⟩
  rw [← hgt] at H1
  (try rw [← hgt])
  obtain ⟨gf, hgf⟩ : ∃ g, g = gt + 1 := ⟨_, rfl⟩
  rw [← hgf] at H1
  (try rw [← hgf])
  clear hw2 hgt hgf
  have c12 : w2.cell? ⟨gt, 12, none⟩ = some (.slice t.A n t.c) := by rw [H1.out.bt.cell, List.getElem?_toArray, tv_12, HN.out]
  go_upto_region 3 with fail
  clear c12
  go_loopw [9] (fun i wr => ∃ j : Nat, j ≤ n ∧ i = .int .i64 j ∧ Ed W wr gt gf t (foundF t.k (t.es.take j))) (fun i _ => n - (intOf i).toNat)
  case atStart => exact ⟨0, Nat.zero_le _, rfl, H1.out⟩
  case round =>
    clear H1
    obtain ⟨j, hj, rfl, hE⟩ := hrel
    have HE := Lib.hid hE
    clear hE
    by_cases hlt : j < n
    · have i1 : (j : Int) < (n : Nat) := by omega
      have i2 : ¬ (j : Int) < 0 := by omega
      obtain ⟨jj, hjj⟩ : ∃ jj, jj = j + 1 := ⟨_, rfl⟩
      have HW := Lib.hid (wrap_n j jj hjj (by have := HLE.out; have := HN.out; omega))
      have HJ := Lib.hid (And.intro hjj hlt)
      obtain ⟨⟨x, y⟩, hx⟩ : ∃ e, t.es[j]? = some e := ⟨_, List.getElem?_eq_getElem (by rw [← HN.out]; exact hlt)⟩
      have HX := Lib.hid hx
      obtain ⟨hA, hre⟩ : (∃ b o, t.A = some ⟨b, o, none⟩) ∧ ∀ b o, t.A = some ⟨b, o, none⟩ → wr.rangeAt b (o + j * 2) (ec (x, y)) := by
        obtain ⟨hk, hxl⟩ := List.getElem?_eq_some_iff.1 hx
        rcases HR.out with hh | ⟨b, o, e1, hbl, hro⟩
        · rw [hh] at hk; cases hk
        · refine ⟨⟨b, o, e1⟩, fun b' o' e2 => ?_⟩
          rw [e1] at e2
          simp only [Option.some.injEq, Addr.mk.injEq, and_true] at e2
          obtain ⟨rfl, rfl⟩ := e2
          exact fun i u hi => (HE.out.bel.cell (p := ⟨b, _, none⟩) hbl).trans (hro j hk i u (by rw [hxl]; exact hi))
      obtain ⟨b, o, hAe⟩ := hA
      have hre := hre b o hAe
      rw [hAe]
      clear hx hj hlt hjj
      go_upto_region 5 with (first | (refine wpList_load_mid rfl 75 _ rfl _ _ rfl (ec (x, y)) _ hre Try.underlying75 rfl (ecinfo (x, y)) ?_) | (refine wpList_store_blk rfl 75 _ _ rfl wr.heap.size 75 #[.int .i64 0, .int .i64 0] (ec (x, y)).toArray rfl rfl (Blk.new' rfl) (ecinfoA (x, y)) rfl (by unfold ec; simp [Value.oneCell']) ?_; intro _; rw [Wr.alloc_setRow]))
      clear i1 i2 hre
      obtain ⟨w1, hw1⟩ : ∃ w1, w1 = wr.alloc (.cells (ec (x, y)).toArray 75) := ⟨_, rfl⟩
      have hb1 : Below wr.heap.size wr w1 := by rw [hw1]; exact (Below.refl _ _).alloc (Nat.le_refl _) _
      have hx1 : Blk w1 wr.heap.size 75 (ec (x, y)).toArray := by rw [hw1]; exact Blk.new _ _ _
      rw [← hw1]
      obtain ⟨ge, hge⟩ : ∃ g, g = wr.heap.size := ⟨_, rfl⟩
      rw [← hge] at hx1
      (try rw [← hge])
      have HE1 := Lib.hid (HE.out.next hb1)
      have HX1 := Lib.hid hx1
      clear hw1 hb1 hge HE hx1
      have q0 : w1.cell? ⟨ge, 0, none⟩ = some (.int .i64 x) := HX1.out.cell 0
      have q1 : w1.cell? ⟨ge, 1, none⟩ = some (.int .i64 y) := HX1.out.cell 1
      have hr0 : w1.rangeAt gt 0 t.cells := HE1.out.bt.range
      have HA1 := Lib.hid (there_any w1 t x)
      by_cases hxy : x = y
      · subst hxy
        have HV := Lib.hid (show validB t.k (x, x) = false by unfold validB; simp)
        clear HA1 hr0
        go_upto_region 7 with fail
        clear q0 q1
        have HF := HE1
        go_wp2_with fail
        rw [HW.out]
        go_roundw
        case rel => exact ⟨jj, by have := HJ.out; omega, rfl, by rw [HJ.out.1, found_no HX.out HV.out]; exact HF.out⟩
        case measure => have := HJ.out; simp [intOf]; omega
      · have n1 : (x != y) = true := by simpa using hxy
        have n2 : (x == y) = false := by simpa using hxy
        cases hb1 : thereB t.k x with
        | false =>
          rw [hb1] at HA1
          have HV := Lib.hid (show validB t.k (x, y) = false by unfold validB; simp [hb1])
          clear hb1
          go_upto_region 7 with (first | (refine load_midg rfl 25 _ rfl _ _ rfl t.cells _ hr0 Try.underlying25 rfl (tvinfo t) ?_; (try simp only [Act.put, List.setIfInBounds_toArray, List.set_cons_zero, List.set_cons_succ])) | (go_at_call 52; refine HA1.out.mono ?_; rintro e w2 ⟨rfl, hb⟩; have HF := Lib.hid (HE1.out.next hb); clear hb HA1 q0 q1))
          clear n1 n2
          go_wp2_with fail
          rw [HW.out]
          go_roundw
          case rel => exact ⟨jj, by have := HJ.out; omega, rfl, by rw [HJ.out.1, found_no HX.out HV.out]; exact HF.out⟩
          case measure => have := HJ.out; simp [intOf]; omega
        | true =>
          rw [hb1] at HA1
          have HB1 := Lib.hid hb1
          clear hb1
          cases hb2 : thereB t.k y with
          | false =>
            have HV := Lib.hid (show validB t.k (x, y) = false by unfold validB; simp [hb2])
            have HB2 := Lib.hid hb2
            clear hb2
            go_upto_region 7 with (first | (refine load_midg rfl 25 _ rfl _ _ rfl t.cells _ hr0 Try.underlying25 rfl (tvinfo t) ?_; (try simp only [Act.put, List.setIfInBounds_toArray, List.set_cons_zero, List.set_cons_succ])) | (go_at_call 52; first | (refine HA1.out.mono ?_; rintro e w2 ⟨rfl, hb⟩; have HE2 := Lib.hid (HE1.out.next hb); have HX2 := Lib.hid (HX1.out.next hb); have hr0 := HE2.out.bt.range; have q0 := cell_next hb q0; have q1 := cell_next hb q1; have HA2 := Lib.hid (there_any w2 t y); rw [HB2.out] at HA2; clear hb HA1) | (refine HA2.out.mono ?_; rintro e w3 ⟨rfl, hb⟩; have HE3 := Lib.hid (HE2.out.next hb); have HX3 := Lib.hid (HX2.out.next hb); clear hb HA2 hr0 q0 q1)))
            clear n1 n2
            have HF := HE3
            go_wp2_with fail
            rw [HW.out]
            go_roundw
            case rel => exact ⟨jj, by have := HJ.out; omega, rfl, by rw [HJ.out.1, found_no HX.out HV.out]; exact HF.out⟩
            case measure => have := HJ.out; simp [intOf]; omega
          | true =>
            have HV := Lib.hid (show validB t.k (x, y) = true by unfold validB; simp [hb2, HB1.out, hxy])
            have HB2 := Lib.hid hb2
            obtain ⟨na, ea, ha1, ha2⟩ := there_nat HB1.out
            obtain ⟨nb, eb, hb1, hb2⟩ := there_nat hb2
            have HNN := Lib.hid (show (na < 13 ∧ nb < 13) ∧ (x, y).1.toNat = na ∧ (x, y).2.toNat = nb from ⟨⟨by omega, by omega⟩, by rw [ea]; rfl, by rw [eb]; rfl⟩)
            have HEE := Lib.hid (And.intro ea eb)
            have HXV := Lib.hid (show (ec (x, y)).toArray[0]? = some (.int .i64 (na : Nat)) ∧ (ec (x, y)).toArray[1]? = some (.int .i64 (nb : Nat)) from ⟨by rw [← ea]; rfl, by rw [← eb]; rfl⟩)
            clear ea eb ha1 ha2 hb1 hb2
            go_upto_region 6 with (first | (refine load_midg rfl 25 _ rfl _ _ rfl t.cells _ hr0 Try.underlying25 rfl (tvinfo t) ?_; (try simp only [Act.put, List.setIfInBounds_toArray, List.set_cons_zero, List.set_cons_succ])) | (go_at_call 52; first | (refine HA1.out.mono ?_; rintro e w2 ⟨rfl, hb⟩; have HE2 := Lib.hid (HE1.out.next hb); have HX2 := Lib.hid (HX1.out.next hb); have hr0 := HE2.out.bt.range; have q0 := cell_next hb q0; have q1 := cell_next hb q1; have HA2 := Lib.hid (there_any w2 t y); rw [HB2.out] at HA2; clear hb HA1) | (refine HA2.out.mono ?_; rintro e w3 ⟨rfl, hb⟩; have HE3 := Lib.hid (HE2.out.next hb); have HX3 := Lib.hid (HX2.out.next hb); clear hb HA2 hr0 q0 q1)))
            clear n1 n2
            obtain ⟨ea, eb⟩ := HEE.out
            have hcc : w3.cell? ⟨ge, 0, none⟩ = some (.int .i64 (na : Nat)) ∧ w3.cell? ⟨ge, 1, none⟩ = some (.int .i64 (nb : Nat)) := ⟨by rw [← ea]; exact HX3.out.cell 0, by rw [← eb]; exact HX3.out.cell 1⟩
            clear ea eb HEE
            have e1 : ¬ ((na : Nat) : Int) < 0 := by omega
            have e2 : ((na : Nat) : Int) < 13 := by have := HNN.out; omega
            have e3 : na < 13 := HNN.out.1.1
            have e4 : ¬ ((nb : Nat) : Int) < 0 := by omega
            have e5 : ((nb : Nat) : Int) < 13 := by have := HNN.out; omega
            have e6 : nb < 13 := HNN.out.1.2
            refine wp_region_tree (S := (fun w' => w'.cell? ⟨ge, 0, none⟩ = some (.int .i64 (na : Nat)) ∧ w'.cell? ⟨ge, 1, none⟩ = some (.int .i64 (nb : Nat)))) (.take 0 (.take 1 (.take 2 (.take 3 (.take 4 (.take 5 (.take 6 (.take 7 (.take 8 (.take 9 (.take 11 (.one 10 (.take 12 (.one 13 .nil)))))))))))))) 9999 (by kernel_rfl) (by kernel_rfl) (by kernel_rfl) (by kernel_rfl) (by kernel_rfl) (fun _ _ d _ _ h => by cases d <;> exact h) hcc (fun hHeld => ?_); simp only [Tree.map, List.getElem?_toArray, List.getElem?_cons_zero, List.getElem?_cons_succ]
            (repeat (first | (refine wpTree.take (v := undef) (Or.inr ⟨by rfl, rfl⟩) ?_; simp only [Act.put, List.setIfInBounds_toArray, List.set_cons_zero, List.set_cons_succ]) | (refine wpTree.take (v := ?_) (Or.inl ⟨by rfl, ?_⟩) ?_; rotate_left; (focus (intro _ hS; (try dsimp only at hS); go_split_ands; (try subst hS); go_simp; (try (with_reducible rfl)); done)); simp only [Act.put, List.setIfInBounds_toArray, List.set_cons_zero, List.set_cons_succ])))
            have hE4 := HE3.out.next (Below.refl w3.heap.size w3).drew
            have hX4 := HX3.out.next (Below.refl w3.heap.size w3).drew
            obtain ⟨w4, hw4⟩ : ∃ w4, w4 = w3.drew := ⟨_, rfl⟩
            rw [← hw4] at hE4 hX4 ⊢
            clear hw4
            have HE4 := Lib.hid hE4
            have hgg : ge ≠ gf := by
              intro e
              have h1 := hX4
              have h2 := hE4.bf
              rw [e] at h1
              unfold Blk at h1 h2
              rw [h1] at h2
              simp only [Option.some.injEq, Obj.cells.injEq] at h2
              exact absurd h2.2.1 (by decide)
            have z1 := hE4.bf.frozen (na * 13 + nb)
            have c1 : w4.cell? ⟨gf, na * 13 + nb, none⟩ = some (.bool (foundF t.k (t.es.take j) (na * 13 + nb))) := by rw [hE4.bf.cell, List.getElem?_toArray]; exact fl_get _ (by omega)
            have hE5 := hE4.bf.setCell (na * 13 + nb) (.bool true)
            rw [fl_set] at hE5
            have z2 := hE5.frozen (nb * 13 + na)
            have c2 : ∃ u, (w4.setCell ⟨gf, na * 13 + nb, none⟩ (.bool true)).cell? ⟨gf, nb * 13 + na, none⟩ = some (.bool u) := ⟨_, by rw [hE5.cell, List.getElem?_toArray]; exact fl_get _ (by omega)⟩
            obtain ⟨u2, c2⟩ := c2
            have hX5 := hX4.far hgg (p := ⟨gf, na * 13 + nb, none⟩) (.bool true)
            have hX6 := hX5.far hgg (p := ⟨gf, nb * 13 + na, none⟩) (.bool true)
            have HQ5 := Lib.hid (And.intro (hX5.cell 0) (hX5.cell 1))
            have HQ6 := Lib.hid (And.intro (hX6.cell 0) (hX6.cell 1))
            clear hE4 hX4 hE5 hX5 hX6 hgg hcc
            refine wpTree.one (fun K hK => ?_)
            go_simp
            refine hK.out _ _ ⟨by rw [HQ5.out.1, HXV.out.1], by rw [HQ5.out.2, HXV.out.2]⟩ (fun _ => ?_)
            clear hK K hHeld c1 z1
            (try simp only [Act.put, List.setIfInBounds_toArray, List.set_cons_zero, List.set_cons_succ])
            (repeat (first | (refine wpTree.take (v := undef) (Or.inr ⟨by rfl, rfl⟩) ?_; simp only [Act.put, List.setIfInBounds_toArray, List.set_cons_zero, List.set_cons_succ]) | (refine wpTree.take (v := ?_) (Or.inl ⟨by rfl, ?_⟩) ?_; rotate_left; (focus (intro _ hS; (try dsimp only at hS); go_split_ands; (try subst hS); go_simp; (try (with_reducible rfl)); done)); simp only [Act.put, List.setIfInBounds_toArray, List.set_cons_zero, List.set_cons_succ])))
            refine wpTree.one (fun K hK => ?_)
            go_simp
            refine hK.out _ _ ⟨by rw [HQ6.out.1, HXV.out.1], by rw [HQ6.out.2, HXV.out.2]⟩ (fun _ => ?_)
            clear hK K c2 z2
            (try simp only [Act.put, List.setIfInBounds_toArray, List.set_cons_zero, List.set_cons_succ])
            refine wpTree.done ?_
            clear e1 e2 e3 e4 e5 e6
            go_upto_region 7 with fail
            go_wp2_with fail
            rw [HW.out]
            go_roundw
            case rel => exact ⟨jj, by have := HJ.out; omega, rfl, by
              rw [HJ.out.1, found_yes HX.out HV.out, HNN.out.2.1, HNN.out.2.2]
              exact HE4.out.set2 _ _⟩
            case measure => have := HJ.out; simp [intOf]; omega
    · have i1 : ¬ (j : Int) < (n : Nat) := by omega
      have hjn : j = n := by omega
      have HMF2 := HMF.out
      clear hj hlt
      go_wp2_with fail
      go_ret
      refine ⟨gt, gf, rfl, ?_⟩
      have h := HE.out
      rw [hjn, HN.out, List.take_length] at h
      exact h
end
end Tr
end Go.Proofs.Ytohnhokddbeheaa
