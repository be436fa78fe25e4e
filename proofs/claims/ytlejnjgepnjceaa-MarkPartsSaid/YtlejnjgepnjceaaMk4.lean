/-
mark.Sum.
-/
import Derived.Test.YtlejnjgepnjceaaMk3
import Derived.Test.YtlejnjgepnjceaaAppend
import Derived.Deep.CutRange
namespace Go.Proofs.Ytlejnjgepnjceaa
open Go.RowKit
attribute [local go_sem] Tot.run_store_float

/-- Whole numbers in a row. -/
def Qs (w : World) (A : Option Addr) (l : List Int) : Prop :=
  l = [] ∨ ∃ b o, A = some ⟨b, o, none⟩ ∧ b < w.heap.size ∧ ∀ i, (hi : i < l.length) → w.cell? ⟨b, o + i, none⟩ = some (.int .i64 l[i])
theorem Qs.next {w w' : World} {A : Option Addr} {l : List Int} (h : Qs w A l) (hb : Below w.heap.size w w') : Qs w' A l := by
  refine h.imp id ?_
  rintro ⟨b, o, e, h1, h2⟩
  exact ⟨b, o, e, Nat.lt_of_lt_of_le h1 hb.size, fun i hi => (hb.cell (p := ⟨b, o + i, none⟩) h1).trans (h2 i hi)⟩
theorem Try.minfo42 : (Try.prog.info? 42).map (fun i => (i.zero, i.size, i.bytes)) = some (some (.float .f64 0), 1, 8) := by kernel_rfl
theorem run_mul_some {P : Program} (w : World) (t : TypeId) {x y r : Nat} (h : Ieee.double.mul x y = some r) : (binOp .mul t (.float .f64 x) (.float .f64 y)).run P w = .ok (.float .f64 r) w :=
  run_float_arith w .mul t .f64 x y r h
theorem run_mul_none {P : Program} (w : World) (t : TypeId) {x y : Nat} (h : Ieee.double.mul x y = none) : (binOp .mul t (.float .f64 x) (.float .f64 y)).run P w = .ok (.float .f64 ((Question.nanBits .f64 x y).cut (w.tape w.drawn (.nanBits .f64 x y)))) w.drew := by
  have h' : FloatKind.f64.format.mul x y = none := h
  simp [binOp, Op.floatArith, h', Question.forced]
theorem floats_own {w : World} {base n : Nat} {v : Value} {l : List Nat} (h : w.ownsRow base 42 1 v n (l.map (Value.float .f64))) (hn : l.length = n) : Tot.Floats w v l := by
  subst hn
  exact Tot.Floats.own h
theorem zip_get {qs : List Int} {ms : List Mk} {k : Nat} (h1 : k < qs.length) (h2 : k < ms.length) : (qs.zip ms)[k]'(by rw [List.length_zip]; omega) = (qs[k], ms[k]) := by
  simp

theorem own_f64_next {W W' : World} {B : Nat} {v : Value} {n : Nat} {xs : List Value} (h : W.ownsRow B 42 1 v n xs) (hb : Below W.heap.size W W') : W'.ownsRow B 42 1 v n xs := by
  obtain ⟨hl, h⟩ := h
  refine ⟨hl, h.imp id ?_⟩
  rintro ⟨g, cap, cur, e, hg, hh, r⟩
  refine ⟨g, cap, cur, e, hg, (hb.block g ?_).trans hh, r⟩
  rcases Nat.lt_or_ge g W.heap.size with h1 | h1
  · exact h1
  · rw [Array.getElem?_eq_none h1] at hh; cases hh
/-- Behind k rows. -/
def SumAt (W wr : World) (l : List (Int × Mk)) (k : Nat) (v : Value) : Prop :=
  ∃ bs, Gots (accT (l.take k)).cs bs ∧ wr.ownsRow (W.heap.size + 2) 42 1 v bs.length (bs.map (Value.float .f64)) ∧ Blk wr W.heap.size 83 #[.int .i64 0, .int .i64 0, .int .i64 0, .float .f64 0] ∧
    Blk wr (W.heap.size + 1) 83 #[.int .i64 (accT (l.take k)).li, .int .i64 (accT (l.take k)).pi, .int .i64 (accT (l.take k)).fr, .float .f64 0] ∧ Below W.heap.size W wr ∧ W.heap.size + 2 ≤ wr.heap.size

set_option maxRecDepth 20000 in
set_option maxHeartbeats 8000000 in
theorem msum_any (A B : Option Addr) (n m c d : Nat) (qs : List Int) (ms : List Mk) (W : World) (hn : qs.length = n) (hm : ms.length = m) (hn9 : n ≤ 1000) (hm9 : m ≤ 1000) (hq : Qs W A qs) (hM : Mks W B ms) (hp : ∀ x ∈ ms, x.p < 18446744073709551616) :
    Calls Try.prog 42 #[.slice A n c, .slice B m d] W fun e W' => e = .returned (.agg (totM (qs.zip ms)).cells.toArray) ∧ Below W.heap.size W W' := by
  have HQ := Lib.hid hq
  have HMS := Lib.hid hM
  have HN := Lib.hid hn
  have HM := Lib.hid hm
  have HP := Lib.hid hp
  obtain ⟨z, hz⟩ : ∃ z, z = min n m := ⟨_, rfl⟩
  have hzl : (qs.zip ms).length = z := by rw [List.length_zip, hn, hm, hz]
  have hzi : min (n : Int) (m : Int) = (z : Nat) := by rw [hz]; omega
  have HZL := Lib.hid hzl
  have HZ := Lib.hid (show z ≤ n ∧ z ≤ m ∧ z ≤ 1000 by omega)
  obtain ⟨l, hl⟩ : ∃ l, l = qs.zip ms := ⟨_, rfl⟩
  have HLD := Lib.hid hl
  rw [← hl] at HZL ⊢
  have hb0 : Below W.heap.size W ((W.alloc (.cells #[.int .i64 0, .int .i64 0, .int .i64 0, .float .f64 0] 83)).alloc (.cells #[.int .i64 0, .int .i64 0, .int .i64 0, .float .f64 0] 83)) := ((Below.refl W.heap.size W).alloc (Nat.le_refl _) _).alloc (by simp) _
  obtain ⟨i0, hi, hz0, hz1, hz2⟩ := info_parts Try.minfo42
  clear hq hM hn hm hp hz hzl hl hn9 hm9
  go_enter Try.func42, Try.ntmps42
  go_wp2_with fail
  go_loopw [6, 14] (fun v i wr => ∃ k : Nat, k ≤ z ∧ i = .int .i64 k ∧ SumAt W wr l k v) (fun _ i _ => z - (intOf i).toNat)
  case atStart => exact ⟨0, Nat.zero_le _, rfl, [], by rw [List.take_zero]; trivial, World.ownsRow_nil _ _ _ _, by (first | assumption | ((repeat' (first | assumption | ((with_reducible refine Blk.new' ?_); (first | rfl | (simp; done))) | ((with_reducible refine Blk.newRow ?_); (first | rfl | (simp; done))) | ((with_reducible refine Blk.farRow ?_ ?_ _); rotate_left; (first | (simp; done) | (simp; omega) | omega)) | (with_reducible refine Blk.alloc ?_ _) | (with_reducible refine Blk.drew ?_) | ((with_reducible refine Blk.far ?_ ?_ _); rotate_left; (first | (simp; done) | (simp; omega) | omega)) | (with_reducible refine Blk.next' (by assumption) ?_))); done)), by rw [List.take_zero]; show Blk _ _ _ #[.int .i64 0, .int .i64 0, .int .i64 0, .float .f64 0]; (first | assumption | ((repeat' (first | assumption | ((with_reducible refine Blk.new' ?_); (first | rfl | (simp; done))) | ((with_reducible refine Blk.newRow ?_); (first | rfl | (simp; done))) | ((with_reducible refine Blk.farRow ?_ ?_ _); rotate_left; (first | (simp; done) | (simp; omega) | omega)) | (with_reducible refine Blk.alloc ?_ _) | (with_reducible refine Blk.drew ?_) | ((with_reducible refine Blk.far ?_ ?_ _); rotate_left; (first | (simp; done) | (simp; omega) | omega)) | (with_reducible refine Blk.next' (by assumption) ?_))); done)), hb0, by simp⟩
  case round =>
    obtain ⟨k, hk, rfl, bs, hg, hown, hr0, hr1, hbl, hsz⟩ := hrel
    have HG := Lib.hid hg
    have HO := Lib.hid hown
    have HR0 := Lib.hid hr0
    have HR1 := Lib.hid hr1
    have HBL := Lib.hid hbl
    have HSZ := Lib.hid hsz
    clear hg hown hr0 hr1 hbl hsz hb0
    by_cases hlt : k < z
    · have hkn : k < qs.length := by have := HN.out; have := HZ.out; omega
      have hkm : k < ms.length := by have := HM.out; have := HZ.out; omega
      have hkl : k < l.length := by have := HZL.out; omega
      have hJ := accT_take l k hkl
      have hlk : l[k] = (qs[k], ms[k]) := by
        have := zip_get hkn hkm
        simp only [HLD.out]
        exact this
      rw [hlk] at hJ
      obtain ⟨ab, ao, rfl, hab, hac⟩ := HQ.out.resolve_left (by rintro rfl; simp at hkn)
      obtain ⟨bb, bo, rfl, hbb, hbc⟩ := HMS.out.resolve_left (by rintro rfl; simp at hkm)
      have cq := (HBL.out.cell (p := ⟨ab, ao + k, none⟩) hab).trans (hac k hkn)
      have hr := mrange_next HBL.out (hbc k hkm)
      have HPM := Lib.hid (HP.out _ (List.getElem_mem hkm))
      obtain ⟨q, hq⟩ : ∃ q, q = qs[k] := ⟨_, rfl⟩
      obtain ⟨mm, hmm⟩ : ∃ mm, mm = ms[k] := ⟨_, rfl⟩
      rw [← hq, ← hmm] at hJ
      rw [← hq] at cq
      rw [← hmm] at hr HPM
      have HBB := Lib.hid (show ab < W.heap.size ∧ bb < W.heap.size from ⟨hab, hbb⟩)
      have i1 : (k : Int) < (n : Nat) := by have := HZ.out; omega
      have i2 : (k : Int) < (m : Nat) := by have := HZ.out; omega
      have i3 : (k : Int) < (z : Nat) := by omega
      have hle := accT_le (l.take k) ⟨0, 0, 0, []⟩
      have HLE := Lib.hid (show (accT (l.take k)).li ≤ 1000 ∧ (accT (l.take k)).pi ≤ 100000000 ∧ (accT (l.take k)).fr ≤ 1000 ∧ bs.length ≤ 1000 from by
        have h2 := gots_len HG.out
        have h3 : (l.take k).length ≤ 1000 := by rw [List.length_take]; have := HZ.out; omega
        unfold accT at h2 ⊢
        simp only [List.length_nil] at hle
        omega)
      clear hle
      obtain ⟨t, ht⟩ : ∃ t, t = accT (l.take k) := ⟨_, rfl⟩
      rw [← ht] at HG HR1 hJ HLE
      have HJ := Lib.hid hJ
      clear ht hJ hq hmm hlk hab hac hbb hbc hkn hkm hkl
      have hz9 : z ≤ 1000 := HZ.out.2.2
      by_cases h1 : q < 1
      · have HE := Lib.hid (show stepT t (q, mm) = t by unfold stepT rowOk; dsimp only; rw [decide_eq_false (show ¬ 1 ≤ q by omega), Bool.false_and]; rfl)
        go_wp2_with fail
        go_roundw
        case rel => exact ⟨k + 1, by omega, by go_num, bs, by rw [HJ.out, HE.out]; exact HG.out, HO.out, HR0.out, by rw [HJ.out, HE.out]; exact HR1.out, HBL.out, HSZ.out⟩
        case measure => simp [intOf]; omega
      · have h1' : ¬ q < 1 := h1
        clear h1
        go_wp2_with (first | (refine wpList_load_midm (by rfl) 65 _ rfl _ _ rfl (Mk.cells ?_) _ ?_ Try.underlying65 rfl (mkinfo _) ?_; rotate_left; (focus assumption)))
        refine (mright_any mm wr).mono ?_
        rintro e w2 ⟨rfl, hb⟩
        have HO2 := Lib.hid (own_f64_next HO.out hb)
        have HR02 := Lib.hid (HR0.out.next hb)
        have HR12 := Lib.hid (HR1.out.next hb)
        have HBL2 := Lib.hid (HBL.out.trans (hb.mono HBL.out.size))
        have HSZ2 := Lib.hid (Nat.le_trans HSZ.out hb.size)
        have cq2 := cell_next hb cq
        have HRR := Lib.hid (mrange_next hb hr)
        clear hb cq hr HO HR0 HR1 HBL HSZ
        cases hrm : rightM mm with
        | false =>
          have HE := Lib.hid (show stepT t (q, mm) = t by unfold stepT rowOk; dsimp only; rw [hrm, Bool.and_false]; rfl)
          clear hrm
          go_wp2_with fail
          go_roundw
          case rel => exact ⟨k + 1, by omega, by go_num, bs, by rw [HJ.out, HE.out]; exact HG.out, HO2.out, HR02.out, by rw [HJ.out, HE.out]; exact HR12.out, HBL2.out, HSZ2.out⟩
          case measure => simp [intOf]; omega
        | true =>
          have hm1 : (max q (1 : Int)) = q := by omega
          clear hm1
          obtain ⟨cc, hcc⟩ : ∃ cc : Nat, (cc : Int) = min q 100000 := ⟨(min q 100000).toNat, by omega⟩
          have HCC := Lib.hid (show cc ≤ 100000 ∧ (qcap q).toNat = cc ∧ qcap q = (cc : Int) from ⟨by omega, by unfold qcap; omega, by unfold qcap; omega⟩)
          have hmin : min q 100000 = (cc : Int) := hcc.symm
          have b0 := HR12.out.cell 0
          have b1 := HR12.out.cell 1
          have b2 := HR12.out.cell 2
          have z0 := HR12.out.frozen 0
          have z1 := HR12.out.frozen 1
          have w1 : IntKind.i64.wrap ((t.li : Nat) + 1 : Int) = ((t.li + 1 : Nat) : Int) := by have := HLE.out; rw [IntKind.wrap_i64]; omega
          have w2' : IntKind.i64.wrap ((t.pi : Nat) + (cc : Nat) : Int) = ((t.pi + cc : Nat) : Int) := by have := HLE.out; have := HCC.out; rw [IntKind.wrap_i64]; omega
          clear hcc
          go_upto_region 10 with fail
          obtain ⟨w3, hw3⟩ : ∃ w3, w3 = (w2.setCell ⟨W.heap.size + 1, 0, none⟩ (.int .i64 ((t.li : Nat) + 1 : Int))).setCell ⟨W.heap.size + 1, 1, none⟩ (.int .i64 ((t.pi : Nat) + (cc : Nat) : Int)) := ⟨_, rfl⟩
          rw [← hw3]
          have hb23 : Below (W.heap.size + 1) w2 w3 := by rw [hw3]; exact ((Below.refl _ w2).setCell (by exact Nat.le_refl _) _).setCell (by exact Nat.le_refl _) _
          have r13 : Blk w3 (W.heap.size + 1) 83 #[.int .i64 ((t.li : Nat) + 1 : Int), .int .i64 ((t.pi : Nat) + (cc : Nat) : Int), .int .i64 (t.fr : Nat), .float .f64 0] := by rw [hw3]; exact (HR12.out.setCell 0 _).setCell 1 _
          have HR13 := Lib.hid r13
          have HR03 := Lib.hid (HR02.out.below hb23 (by omega))
          have HBL3 := Lib.hid (HBL2.out.trans (hb23.mono (by omega)))
          have HSZ3 := Lib.hid (Nat.le_trans HSZ2.out hb23.size)
          have HO3 := Lib.hid (show w3.ownsRow (W.heap.size + 2) 42 1 u6 bs.length (bs.map (Value.float .f64)) from by
            have hne : u6.ownBlock ≠ some (W.heap.size + 1) := fun e => by have := (HO2.out.lt _ e).1; omega
            rw [hw3]
            exact ownsRow_setCell_other (ownsRow_setCell_other HO2.out (a := ⟨W.heap.size + 1, 0, none⟩) hne _) (a := ⟨W.heap.size + 1, 1, none⟩) hne _)
          have hcell : ∀ i v, mm.cells[i]? = some v → w3.cell? ⟨bb, bo + k * 3 + i, none⟩ = some v := fun i v hv => (hb23.cell (p := ⟨bb, bo + k * 3 + i, none⟩) (by have := HBB.out.2; show bb < _; omega)).trans (HRR.out i v hv)
          have ch := hcell 1 _ mk_1
          have cp := hcell 2 _ mk_2
          clear hcell hw3 hb23 r13 b0 b1 b2 z0 z1 w1 w2' HR12 HR02 HBL2 HSZ2 HO2 cq2 HRR hmin
          have HOK := Lib.hid (show rowOk q mm = true by unfold rowOk; rw [hrm, decide_eq_true (show 1 ≤ q by omega)]; rfl)
          clear hrm
          cases hh : mm.h with
          | false =>
            have HE := Lib.hid (show stepT t (q, mm) = ⟨t.li + 1, t.pi + cc, t.fr + 1, t.cs⟩ by unfold stepT; dsimp only; rw [HOK.out, hh, HCC.out.2.1]; rfl)
            rw [hh] at ch
            have b2 := HR13.out.cell 2
            have z2 := HR13.out.frozen 2
            have w1 : IntKind.i64.wrap ((t.fr : Nat) + 1 : Int) = ((t.fr + 1 : Nat) : Int) := by have := HLE.out; rw [IntKind.wrap_i64]; omega
            clear hh
            go_wp2_with fail
            have hne : u6.ownBlock ≠ some (W.heap.size + 1) := fun e => by have := (HO3.out.lt _ e).1; omega
            have HO5 := Lib.hid (ownsRow_setCell_other HO3.out (a := ⟨W.heap.size + 1, 2, none⟩) hne (.int .i64 ((t.fr : Nat) + 1 : Int)))
            have HR5 := Lib.hid (HR13.out.setCell 2 (.int .i64 ((t.fr : Nat) + 1 : Int)))
            clear hne b2 z2 w1 ch cp
            go_roundw
            case rel => exact ⟨k + 1, by omega, by go_num, bs, by rw [HJ.out, HE.out]; exact HG.out, HO5.out, HR03.out.far (by show W.heap.size ≠ W.heap.size + 1; omega) _, by rw [HJ.out, HE.out]; exact HR5.out, HBL3.out.setCell (by show W.heap.size ≤ W.heap.size + 1; omega) _, by have := HSZ3.out; simpa [World.setCell] using this⟩
            case measure => simp [intOf]; omega
          | true =>
            rw [hh] at ch
            have HE := Lib.hid (show stepT t (q, mm) = ⟨t.li + 1, t.pi + cc, t.fr, t.cs ++ [costM q mm]⟩ by unfold stepT; dsimp only; rw [HOK.out, hh, HCC.out.2.1]; rfl)
            have HCM := Lib.hid (show costM q mm = Ieee.double.mul (floatOfInt .f64 (cc : Int)) mm.p by unfold costM; rw [HCC.out.2.2])
            clear hh
            cases hmul : Ieee.double.mul (floatOfInt .f64 (cc : Int)) mm.p with
            | some r =>
              have hrun := fun W => run_mul_some (P := Try.prog) W 42 hmul
              have HGOT := Lib.hid (gots_app HG.out (show Got (costM q mm) r by rw [HCM.out, hmul]; exact rfl))
              clear hmul
              go_wp2_with (at_builtin; refine wpList_append_own _ rfl _ _ 146 rfl (W.heap.size + 2) 42 i0 (.float .f64 0) 1 8 Try.underlying146 hi hz0 hz1 hz2 rfl (by decide) _ _ _ rfl (HO3.out.alloc _) ⟨w3.heap.size, 0, none⟩ 1 1 [.float .f64 r] rfl rfl ?c1 ?c2 ?c3 ?c4 ?c5 ?_)
              case c1 =>
                intro j u hj
                match j, hj with
                | 0, hj => simp at hj; subst hj; simp [Addr.add]
              case c2 => intro u hu; simp at hu; subst hu; rfl
              case c3 => have := HLE.out; unfold maxLen; omega
              case c4 => have := HLE.out; omega
              case c5 => have := HSZ3.out; simp; omega
              intro v5 w5 hown5 hgrow5 _
              have hne0 : some W.heap.size ≠ u6.ownBlock := fun e => by have := (HO3.out.lt _ e.symm).1; omega
              have hne1 : some (W.heap.size + 1) ≠ u6.ownBlock := fun e => by have := (HO3.out.lt _ e.symm).1; omega
              have HO5 := Lib.hid (show w5.ownsRow (W.heap.size + 2) 42 1 v5 (bs ++ [r]).length ((bs ++ [r]).map (Value.float .f64)) from by rw [List.length_append, List.map_append]; exact hown5)
              have HR05 := Lib.hid (show Blk w5 W.heap.size 83 #[.int .i64 0, .int .i64 0, .int .i64 0, .float .f64 0] from (hgrow5.block _ (by have := HSZ3.out; simp; omega) hne0).trans (HR03.out.alloc _))
              have HR15 := Lib.hid (show Blk w5 (W.heap.size + 1) 83 #[.int .i64 ((t.li : Nat) + 1 : Int), .int .i64 ((t.pi : Nat) + (cc : Nat) : Int), .int .i64 (t.fr : Nat), .float .f64 0] from (hgrow5.block _ (by have := HSZ3.out; simp; omega) hne1).trans (HR13.out.alloc _))
              have HBL5 := Lib.hid (show Below W.heap.size W w5 from (Below.alloc HBL3.out HBL3.out.size _).grown hgrow5 (by have := HSZ3.out; simp; omega) (fun b hb => by have := (HO3.out.lt b hb).1; omega))
              have HSZ5 := Lib.hid (show W.heap.size + 2 ≤ w5.heap.size from Nat.le_trans HSZ3.out (Nat.le_trans (by simp) hgrow5.size))
              clear hown5 hgrow5 hne0 hne1 ch cp HO3 HR03 HR13 HBL3 HSZ3
              go_wp2_with fail
              go_roundw
              case rel => exact ⟨k + 1, by omega, by go_num, bs ++ [r], by rw [HJ.out, HE.out]; exact HGOT.out, HO5.out, HR05.out, by rw [HJ.out, HE.out]; exact HR15.out, HBL5.out, HSZ5.out⟩
              case measure => simp [intOf]; omega
            | none =>
              obtain ⟨X, hX⟩ : ∃ X, X = (Question.nanBits .f64 (floatOfInt .f64 (cc : Int)) mm.p).cut (w3.tape w3.drawn (.nanBits .f64 (floatOfInt .f64 (cc : Int)) mm.p)) := ⟨_, rfl⟩
              have hrun := run_mul_none (P := Try.prog) w3 42 hmul
              have HGOT := Lib.hid (gots_app HG.out (show Got (costM q mm) X by rw [HCM.out, hmul, hX]; exact Num.cut_nan _ _ _))
              rw [← hX] at hrun
              clear hmul hX
              go_wp2_with (at_builtin; refine wpList_append_own _ rfl _ _ 146 rfl (W.heap.size + 2) 42 i0 (.float .f64 0) 1 8 Try.underlying146 hi hz0 hz1 hz2 rfl (by decide) _ _ _ rfl ((show w3.drew.ownsRow (W.heap.size + 2) 42 1 u6 bs.length (bs.map (Value.float .f64)) from HO3.out).alloc _) ⟨w3.heap.size, 0, none⟩ 1 1 [.float .f64 X] rfl rfl ?d1 ?d2 ?d3 ?d4 ?d5 ?_)
              case d1 =>
                intro j u hj
                match j, hj with
                | 0, hj => simp at hj; subst hj; simp [Addr.add]
              case d2 => intro u hu; simp at hu; subst hu; rfl
              case d3 => have := HLE.out; unfold maxLen; omega
              case d4 => have := HLE.out; omega
              case d5 => have := HSZ3.out; simp; omega
              intro v5 w5 hown5 hgrow5 _
              have hne0 : some W.heap.size ≠ u6.ownBlock := fun e => by have := (HO3.out.lt _ e.symm).1; omega
              have hne1 : some (W.heap.size + 1) ≠ u6.ownBlock := fun e => by have := (HO3.out.lt _ e.symm).1; omega
              have HO5 := Lib.hid (show w5.ownsRow (W.heap.size + 2) 42 1 v5 (bs ++ [X]).length ((bs ++ [X]).map (Value.float .f64)) from by rw [List.length_append, List.map_append]; exact hown5)
              have HR05 := Lib.hid (show Blk w5 W.heap.size 83 #[.int .i64 0, .int .i64 0, .int .i64 0, .float .f64 0] from (hgrow5.block _ (by have := HSZ3.out; simp; omega) hne0).trans (HR03.out.alloc _))
              have HR15 := Lib.hid (show Blk w5 (W.heap.size + 1) 83 #[.int .i64 ((t.li : Nat) + 1 : Int), .int .i64 ((t.pi : Nat) + (cc : Nat) : Int), .int .i64 (t.fr : Nat), .float .f64 0] from (hgrow5.block _ (by have := HSZ3.out; simp; omega) hne1).trans (HR13.out.alloc _))
              have HBL5 := Lib.hid (show Below W.heap.size W w5 from (Below.alloc HBL3.out.drew HBL3.out.size _).grown hgrow5 (by have := HSZ3.out; simp; omega) (fun b hb => by have := (HO3.out.lt b hb).1; omega))
              have HSZ5 := Lib.hid (show W.heap.size + 2 ≤ w5.heap.size from Nat.le_trans HSZ3.out (Nat.le_trans (by simp) hgrow5.size))
              clear hown5 hgrow5 hne0 hne1 ch cp HO3 HR03 HR13 HBL3 HSZ3
              go_wp2_with fail
              go_roundw
              case rel => exact ⟨k + 1, by omega, by go_num, bs ++ [X], by rw [HJ.out, HE.out]; exact HGOT.out, HO5.out, HR05.out, by rw [HJ.out, HE.out]; exact HR15.out, HBL5.out, HSZ5.out⟩
              case measure => simp [intOf]; omega
    · obtain rfl : k = z := by omega
      have hq : l.take k = l := by rw [← HZL.out, List.take_length]
      rw [hq] at HG HR1
      have HF := Lib.hid (floats_own HO.out rfl)
      have HSUM := Lib.hid (Tot.sum_any _ bs wr (by have := gots_len HG.out; have h2 := (accT_le l ⟨0, 0, 0, []⟩).2.2.2; have h3 := HZL.out; have h4 := HZ.out; show bs.length ≤ _; unfold accT at this; simp at h2; omega) HF.out)
      rw [gots_sum HG.out] at HSUM
      go_wp2_with fail
      refine HSUM.out.mono ?_
      rintro e w2 ⟨rfl, hb⟩
      have HR02 := Lib.hid (HR0.out.next hb)
      have HR12 := Lib.hid (HR1.out.next hb)
      have HB2 := Lib.hid (HBL.out.trans (hb.mono HBL.out.size))
      have b3 := HR12.out.cell 3
      have z3 := HR12.out.frozen 3
      clear hb HR0 HR1 HBL HO HF HSUM HG
      go_upto_region 15 with fail
      obtain ⟨w3, hw3⟩ : ∃ w3, w3 = w2.setCell ⟨W.heap.size + 1, 3, none⟩ (.float .f64 (sumOO (accT l).cs)) := ⟨_, rfl⟩
      rw [← hw3]
      have r13 : Blk w3 (W.heap.size + 1) 83 (totM l).cells.toArray := by
        rw [hw3, tt_arr]
        exact HR12.out.setCell 3 _
      have bg : Blk w3 W.heap.size 83 #[.int .i64 0, .int .i64 0, .int .i64 0, .float .f64 0] := by rw [hw3]; exact HR02.out.far (by show W.heap.size ≠ W.heap.size + 1; omega) _
      have HB3 := Lib.hid (show Below W.heap.size W w3 by rw [hw3]; exact HB2.out.setCell (by show W.heap.size ≤ W.heap.size + 1; omega) _)
      have rg := r13.range
      clear hw3 r13 b3 z3 HR02 HR12 HB2
      go_wp2_with (first | (refine wpList_load_midm (by rfl) 83 _ rfl _ _ rfl (Tt.cells _) _ rg Try.underlying83 rfl (ttinfo _) ?_) | (refine wpList_store_blk rfl 83 _ _ rfl W.heap.size 83 _ (totM l).cells.toArray rfl rfl bg (ttinfoA _) (tt_siz _) (tt_one _) ?_; intro hrow))
      exact bodyPost_row (t := 83) (totM l).cells.toArray rfl rfl rfl Try.underlying83 rfl (ttinfoA _) hrow ⟨rfl, below_setRow HB3.out (Nat.le_refl _) _⟩
end Go.Proofs.Ytlejnjgepnjceaa
