/-
The document's totals: its Sum; AsTotal; totals compared.
-/
import Derived.Test.YtlejnjgepnjceaaMkRef2
import Derived.Test.YtlejnjgepnjceaaMk4
import Derived.Deep.CutRange
namespace Go.Proofs.Ytlejnjgepnjceaa
open Go.RowKit
set_option linter.unusedSimpArgs false
set_option linter.unusedVariables false
attribute [local go_sem] Tot.run_store_float

def Tt.rcells (t : Tt) : List Value := [.int .i64 t.li, .int .i64 t.pi, .int .i64 t.fr, .int .u64 (t.s : Nat)]
theorem rtt_arr (t : Tt) : t.rcells.toArray = #[.int .i64 t.li, .int .i64 t.pi, .int .i64 t.fr, .int .u64 (t.s : Nat)] := rfl
theorem rtt_def (t : Tt) : t.rcells = [.int .i64 t.li, .int .i64 t.pi, .int .i64 t.fr, .int .u64 (t.s : Nat)] := rfl
theorem rtt_len {t : Tt} : t.rcells.length = 4 := rfl
theorem rtt_one (t : Tt) : t.rcells.toArray.all (·.oneCell') = true := by unfold Tt.rcells; simp [Value.oneCell']
attribute [irreducible] Tt.rcells
theorem rttinfo (t : Tt) : (Try.prog.info? 81).map (·.size) = some t.rcells.length := by rw [rtt_len]; kernel_rfl
theorem rttinfoA (t : Tt) : (Try.prog.info? 81).map (·.size) = some t.rcells.toArray.size := by rw [List.size_toArray, rtt_len]; kernel_rfl
theorem rtt_siz (t : Tt) : (#[.int .i64 0, .int .i64 0, .int .i64 0, .int .u64 0] : Array Value).size = t.rcells.toArray.size := show 4 = t.rcells.toArray.size by rw [List.size_toArray, rtt_len]
theorem rttFields : (Try.prog.fieldsOf 81).toList.map (fun f => (f.name != "_", f.type, f.offset)) = [(true, 3, 0), (true, 3, 1), (true, 3, 2), (true, 22, 3)] := by kernel_rfl
theorem eq_rtt (a b : Tt) (w : World) : (Op.equalIn 10000 81 (.agg a.rcells.toArray) (.agg b.rcells.toArray)).run Try.prog w = .ok (sameT a b) w := by
  rw [rtt_arr, rtt_arr]
  rw [run_equalIn_struct w 9999 _ _ _ (by kernel_rfl) (by kernel_rfl), Mkl.eq_tr 9999 _ _ _ _ w rttFields]
  rw [Mkl.run_eqTr w (Mkl.part_int rfl) (Mkl.part_int rfl) (fun w => run_equalIn_int w 9998 _ _ _ _ _ Try.underlying3), Mkl.run_eqTr w (Mkl.part_int rfl) (Mkl.part_int rfl) (fun w => run_equalIn_int w 9998 _ _ _ _ _ Try.underlying3), Mkl.run_eqTr w (Mkl.part_int rfl) (Mkl.part_int rfl) (fun w => run_equalIn_int w 9998 _ _ _ _ _ Try.underlying3), Mkl.run_eqTr w (rm_part_u64 rfl) (rm_part_u64 rfl) (fun w => run_equalIn_int w 9998 _ _ _ _ _ Try.underlying22)]
  have h3 : (((a.s : Nat) : Int) == ((b.s : Nat) : Int)) = Num.sameB a.s b.s := by unfold Num.sameB; rw [Bool.eq_iff_iff]; simp; omega
  rw [h3]
  unfold sameT
  cases h1 : (a.li == b.li) <;> cases h2 : (a.pi == b.pi) <;> cases h5 : (a.fr == b.fr) <;> cases h4 : Num.sameB a.s b.s <;> simp [Mkl.eqTr]

/-- Behind k rows. -/
def RSumAt (W wr : World) (l : List (Int × Mk)) (k : Nat) (v : Value) : Prop :=
  ∃ bs, Gots (accT (l.take k)).cs bs ∧ wr.ownsRow (W.heap.size + 2) 42 1 v bs.length (bs.map (Value.float .f64)) ∧ Blk wr W.heap.size 81 #[.int .i64 0, .int .i64 0, .int .i64 0, .int .u64 0] ∧
    Blk wr (W.heap.size + 1) 81 #[.int .i64 (accT (l.take k)).li, .int .i64 (accT (l.take k)).pi, .int .i64 (accT (l.take k)).fr, .int .u64 0] ∧ Below W.heap.size W wr ∧ W.heap.size + 2 ≤ wr.heap.size

set_option maxRecDepth 20000 in
set_option maxHeartbeats 8000000 in
theorem rsum7_any (A B : Option Addr) (n m c d : Nat) (qs : List Int) (ms : List Mk) (W : World) (hn : qs.length = n) (hm : ms.length = m) (hn9 : n ≤ 1000) (hm9 : m ≤ 1000) (hq : Qs W A qs) (hM : RMks W B ms) (hp : ∀ x ∈ ms, x.p < 18446744073709551616) :
    Calls Try.prog 43 #[.slice A n c, .slice B m d] W fun e W' => e = .returned (.agg (totM (qs.zip ms)).rcells.toArray) ∧ Below W.heap.size W W' := by
  have HQ := Lib.hid hq
  have HMS := Lib.hid hM
  have HN := Lib.hid hn
  have HM := Lib.hid hm
  have HP := Lib.hid hp
  obtain ⟨z, hz⟩ : ∃ z, z = min n m := ⟨_, rfl⟩
  have hzl : (qs.zip ms).length = z := by rw [List.length_zip, hn, hm, hz]
  have hzi : min (n : Int) (m : Int) = (z : Nat) := by rw [hz]; omega
  have HZL := Lib.hid hzl
  have HZM := Lib.hid hz
  have HZ := Lib.hid (show z ≤ n ∧ z ≤ m ∧ z ≤ 1000 by omega)
  obtain ⟨l, hl⟩ : ∃ l, l = qs.zip ms := ⟨_, rfl⟩
  have HLD := Lib.hid hl
  rw [← hl] at HZL ⊢
  have hb0 : Below W.heap.size W ((W.alloc (.cells #[.int .i64 0, .int .i64 0, .int .i64 0, .int .u64 0] 81)).alloc (.cells #[.int .i64 0, .int .i64 0, .int .i64 0, .int .u64 0] 81)) := ((Below.refl W.heap.size W).alloc (Nat.le_refl _) _).alloc (by simp) _
  obtain ⟨i0, hi, hz0, hz1, hz2⟩ := info_parts Try.minfo42
  clear hq hM hn hm hp hz hzl hl hn9 hm9
  have cf := Tot.call_frombits
  have cbt := Tot.call_bits
  go_enter Try.func43, Try.ntmps43
  go_wp2_with fail
  go_loopw [6, 7] (fun v i wr => ∃ k : Nat, k ≤ z ∧ i = .int .i64 k ∧ RSumAt W wr l k v) (fun _ i _ => z - (intOf i).toNat)
  case atStart => exact ⟨0, Nat.zero_le _, rfl, [], by rw [List.take_zero]; trivial, World.ownsRow_nil _ _ _ _, by (first | assumption | ((repeat' (first | assumption | ((with_reducible refine Blk.new' ?_); (first | rfl | (simp; done))) | ((with_reducible refine Blk.newRow ?_); (first | rfl | (simp; done))) | ((with_reducible refine Blk.farRow ?_ ?_ _); rotate_left; (first | (simp; done) | (simp; omega) | omega)) | (with_reducible refine Blk.alloc ?_ _) | (with_reducible refine Blk.drew ?_) | ((with_reducible refine Blk.far ?_ ?_ _); rotate_left; (first | (simp; done) | (simp; omega) | omega)) | (with_reducible refine Blk.next' (by assumption) ?_))); done)), by rw [List.take_zero]; show Blk _ _ _ #[.int .i64 0, .int .i64 0, .int .i64 0, .int .u64 0]; (first | assumption | ((repeat' (first | assumption | ((with_reducible refine Blk.new' ?_); (first | rfl | (simp; done))) | ((with_reducible refine Blk.newRow ?_); (first | rfl | (simp; done))) | ((with_reducible refine Blk.farRow ?_ ?_ _); rotate_left; (first | (simp; done) | (simp; omega) | omega)) | (with_reducible refine Blk.alloc ?_ _) | (with_reducible refine Blk.drew ?_) | ((with_reducible refine Blk.far ?_ ?_ _); rotate_left; (first | (simp; done) | (simp; omega) | omega)) | (with_reducible refine Blk.next' (by assumption) ?_))); done)), hb0, by simp⟩
  case round =>
    obtain ⟨k, hk, rfl, bs, hg, hown, hr0, hr1, hbl, hsz⟩ := hrel
    have HG := Lib.hid hg
    have HO := Lib.hid hown
    have HR0 := Lib.hid hr0
    have HR1 := Lib.hid hr1
    have HBL := Lib.hid hbl
    have HSZ := Lib.hid hsz
    clear hg hown hr0 hr1 hbl hsz hb0
    by_cases hlt : k < z
    · have hkn : k < qs.length := by have := HN.out; have := HZ.out; omega
      have hkm : k < ms.length := by have := HM.out; have := HZ.out; omega
      have hkl : k < l.length := by have := HZL.out; omega
      have hJ := accT_take l k hkl
      have hlk : l[k] = (qs[k], ms[k]) := by
        have := zip_get hkn hkm
        simp only [HLD.out]
        exact this
      rw [hlk] at hJ
      obtain ⟨ab, ao, rfl, hab, hac⟩ := HQ.out.resolve_left (by rintro rfl; simp at hkn)
      obtain ⟨bb, bo, rfl, hbb, hbc⟩ := HMS.out.resolve_left (by rintro rfl; simp at hkm)
      have cq := (HBL.out.cell (p := ⟨ab, ao + k, none⟩) hab).trans (hac k hkn)
      have hr := mrange_next HBL.out (hbc k hkm)
      have HPM := Lib.hid (HP.out _ (List.getElem_mem hkm))
      obtain ⟨q, hq⟩ : ∃ q, q = qs[k] := ⟨_, rfl⟩
      obtain ⟨mm, hmm⟩ : ∃ mm, mm = ms[k] := ⟨_, rfl⟩
      rw [← hq, ← hmm] at hJ
      rw [← hq] at cq
      rw [← hmm] at hr HPM
      have HBB := Lib.hid (show ab < W.heap.size ∧ bb < W.heap.size from ⟨hab, hbb⟩)
      have i1 : (k : Int) < (n : Nat) := by have := HZ.out; omega
      have i2 : (k : Int) < (m : Nat) := by have := HZ.out; omega
      have i3 : (k : Int) < (z : Nat) := by omega
      have hle := accT_le (l.take k) ⟨0, 0, 0, []⟩
      have HLE := Lib.hid (show (accT (l.take k)).li ≤ 1000 ∧ (accT (l.take k)).pi ≤ 100000000 ∧ (accT (l.take k)).fr ≤ 1000 ∧ bs.length ≤ 1000 from by
        have h2 := gots_len HG.out
        have h3 : (l.take k).length ≤ 1000 := by rw [List.length_take]; have := HZ.out; omega
        unfold accT at h2 ⊢
        simp only [List.length_nil] at hle
        omega)
      clear hle
      obtain ⟨t, ht⟩ : ∃ t, t = accT (l.take k) := ⟨_, rfl⟩
      rw [← ht] at HG HR1 hJ HLE
      have HJ := Lib.hid hJ
      clear ht hJ hq hmm hlk hab hac hbb hbc hkn hkm hkl
      have hz9 : z ≤ 1000 := HZ.out.2.2
      have hqz : ¬ ((100000 : Int) < q ∧ q < 1) := by omega
      clear hqz
      by_cases h1 : q < 1
      · have hq9 : ¬ (100000 : Int) < q := by omega
        have HE := Lib.hid (show stepT t (q, mm) = t by unfold stepT rowOk; dsimp only; rw [decide_eq_false (show ¬ 1 ≤ q by omega), Bool.false_and]; rfl)
        go_wp2_with fail
        go_roundw
        case rel => exact ⟨k + 1, by omega, by go_num, bs, by rw [HJ.out, HE.out]; exact HG.out, HO.out, HR0.out, by rw [HJ.out, HE.out]; exact HR1.out, HBL.out, HSZ.out⟩
        case measure => simp [intOf]; omega
      · have h1' : ¬ q < 1 := h1
        clear h1
        obtain ⟨cc, hcc⟩ : ∃ cc : Nat, (cc : Int) = min q 100000 := ⟨(min q 100000).toNat, by omega⟩
        have HCC := Lib.hid (show cc ≤ 100000 ∧ (qcap q).toNat = cc ∧ qcap q = (cc : Int) from ⟨by omega, by unfold qcap; omega, by unfold qcap; omega⟩)
        have HQ1 := Lib.hid h1'
        go_upto_if 27 with fail
        go_cut [8] from 26 to 27 (fun x wx => x = .int .i64 (cc : Nat) ∧ wx = wr)
        case first =>
          by_cases h9 : (100000 : Int) < q
          · go_wp2_with fail
            go_meet
            exact ⟨by rw [hcc]; congr 1; omega, rfl⟩
          · go_wp2_with fail
            go_meet
            exact ⟨by rw [hcc]; congr 1; omega, rfl⟩
        case rest =>
          obtain ⟨rfl, rfl⟩ := hcut
          rename World => wr
          clear h1'
          have hcc1 : ¬ ((cc : Nat) : Int) < 1 := by have := HQ1.out; omega
          clear hcc
          go_wp2_with (first | (refine wpList_load_midm (by rfl) 63 _ rfl _ _ rfl mm.rcells _ hr Try.underlying63 rfl (rmkinfo _) ?_))
          refine (rright_any mm wr).mono ?_
          rintro e w2 ⟨rfl, hb⟩
          have HO2 := Lib.hid (own_f64_next HO.out hb)
          have HR02 := Lib.hid (HR0.out.next hb)
          have HR12 := Lib.hid (HR1.out.next hb)
          have HBL2 := Lib.hid (HBL.out.trans (hb.mono HBL.out.size))
          have HSZ2 := Lib.hid (Nat.le_trans HSZ.out hb.size)
          have cq2 := cell_next hb cq
          have HRR := Lib.hid (mrange_next hb hr)
          clear hb cq hr HO HR0 HR1 HBL HSZ
          cases hrm : rightM mm with
          | false =>
            have HE := Lib.hid (show stepT t (q, mm) = t by unfold stepT rowOk; dsimp only; rw [hrm, Bool.and_false]; rfl)
            clear hrm
            go_wp2_with fail
            go_roundw
            case rel => exact ⟨k + 1, by omega, by go_num, bs, by rw [HJ.out, HE.out]; exact HG.out, HO2.out, HR02.out, by rw [HJ.out, HE.out]; exact HR12.out, HBL2.out, HSZ2.out⟩
            case measure => simp [intOf]; omega
          | true =>
            have b0 := HR12.out.cell 0
            have b1 := HR12.out.cell 1
            have b2 := HR12.out.cell 2
            have z0 := HR12.out.frozen 0
            have z1 := HR12.out.frozen 1
            have w1 : IntKind.i64.wrap ((t.li : Nat) + 1 : Int) = ((t.li + 1 : Nat) : Int) := by have := HLE.out; rw [IntKind.wrap_i64]; omega
            have w2' : IntKind.i64.wrap ((t.pi : Nat) + (cc : Nat) : Int) = ((t.pi + cc : Nat) : Int) := by have := HLE.out; have := HCC.out; rw [IntKind.wrap_i64]; omega
            go_upto_region 12 with fail
            obtain ⟨w3, hw3⟩ : ∃ w3, w3 = (w2.setCell ⟨W.heap.size + 1, 0, none⟩ (.int .i64 ((t.li : Nat) + 1 : Int))).setCell ⟨W.heap.size + 1, 1, none⟩ (.int .i64 ((t.pi : Nat) + (cc : Nat) : Int)) := ⟨_, rfl⟩
            rw [← hw3]
            have hb23 : Below (W.heap.size + 1) w2 w3 := by rw [hw3]; exact ((Below.refl _ w2).setCell (by exact Nat.le_refl _) _).setCell (by exact Nat.le_refl _) _
            have r13 : Blk w3 (W.heap.size + 1) 81 #[.int .i64 ((t.li : Nat) + 1 : Int), .int .i64 ((t.pi : Nat) + (cc : Nat) : Int), .int .i64 (t.fr : Nat), .int .u64 0] := by rw [hw3]; exact (HR12.out.setCell 0 _).setCell 1 _
            have HR13 := Lib.hid r13
            have HR03 := Lib.hid (HR02.out.below hb23 (by omega))
            have HBL3 := Lib.hid (HBL2.out.trans (hb23.mono (by omega)))
            have HSZ3 := Lib.hid (Nat.le_trans HSZ2.out hb23.size)
            have HO3 := Lib.hid (show w3.ownsRow (W.heap.size + 2) 42 1 u6 bs.length (bs.map (Value.float .f64)) from by
              have hne : u6.ownBlock ≠ some (W.heap.size + 1) := fun e => by have := (HO2.out.lt _ e).1; omega
              rw [hw3]
              exact ownsRow_setCell_other (ownsRow_setCell_other HO2.out (a := ⟨W.heap.size + 1, 0, none⟩) hne _) (a := ⟨W.heap.size + 1, 1, none⟩) hne _)
            have hcell : ∀ i v, mm.rcells[i]? = some v → w3.cell? ⟨bb, bo + k * 3 + i, none⟩ = some v := fun i v hv => (hb23.cell (p := ⟨bb, bo + k * 3 + i, none⟩) (by have := HBB.out.2; show bb < _; omega)).trans (HRR.out i v hv)
            have ch := hcell 1 _ rmk_1
            have cp := hcell 2 _ rmk_2
            clear hcell hw3 hb23 r13 b0 b1 b2 z0 z1 w1 w2' HR12 HR02 HBL2 HSZ2 HO2 cq2 HRR
            have HOK := Lib.hid (show rowOk q mm = true by unfold rowOk; rw [hrm, decide_eq_true (show 1 ≤ q by have := HQ1.out; omega)]; rfl)
            clear hrm
            cases hh : mm.h with
            | false =>
              have HE := Lib.hid (show stepT t (q, mm) = ⟨t.li + 1, t.pi + cc, t.fr + 1, t.cs⟩ by unfold stepT; dsimp only; rw [HOK.out, hh, HCC.out.2.1]; rfl)
              rw [hh] at ch
              have b2 := HR13.out.cell 2
              have z2 := HR13.out.frozen 2
              have w1 : IntKind.i64.wrap ((t.fr : Nat) + 1 : Int) = ((t.fr + 1 : Nat) : Int) := by have := HLE.out; rw [IntKind.wrap_i64]; omega
              clear hh
              go_wp2_with fail
              have hne : u6.ownBlock ≠ some (W.heap.size + 1) := fun e => by have := (HO3.out.lt _ e).1; omega
              have HO5 := Lib.hid (ownsRow_setCell_other HO3.out (a := ⟨W.heap.size + 1, 2, none⟩) hne (.int .i64 ((t.fr : Nat) + 1 : Int)))
              have HR5 := Lib.hid (HR13.out.setCell 2 (.int .i64 ((t.fr : Nat) + 1 : Int)))
              clear hne b2 z2 w1 ch cp
              go_roundw
              case rel => exact ⟨k + 1, by omega, by go_num, bs, by rw [HJ.out, HE.out]; exact HG.out, HO5.out, HR03.out.far (by show W.heap.size ≠ W.heap.size + 1; omega) _, by rw [HJ.out, HE.out]; exact HR5.out, HBL3.out.setCell (by show W.heap.size ≤ W.heap.size + 1; omega) _, by have := HSZ3.out; simpa [World.setCell] using this⟩
              case measure => simp [intOf]; omega
            | true =>
              rw [hh] at ch
              have HE := Lib.hid (show stepT t (q, mm) = ⟨t.li + 1, t.pi + cc, t.fr, t.cs ++ [costM q mm]⟩ by unfold stepT; dsimp only; rw [HOK.out, hh, HCC.out.2.1]; rfl)
              have HCM := Lib.hid (show costM q mm = Ieee.double.mul (floatOfInt .f64 (cc : Int)) mm.p by unfold costM; rw [HCC.out.2.2])
              clear hh
              cases hmul : Ieee.double.mul (floatOfInt .f64 (cc : Int)) mm.p with
              | some r =>
                have hrun := fun W => run_mul_some (P := Try.prog) W 42 hmul
                have HGOT := Lib.hid (gots_app HG.out (show Got (costM q mm) r by rw [HCM.out, hmul]; exact rfl))
                clear hmul
                go_wp2_with (at_builtin; refine wpList_append_own _ rfl _ _ 146 rfl (W.heap.size + 2) 42 i0 (.float .f64 0) 1 8 Try.underlying146 hi hz0 hz1 hz2 rfl (by decide) _ _ _ rfl (HO3.out.alloc _) ⟨w3.heap.size, 0, none⟩ 1 1 [.float .f64 r] rfl rfl ?c1 ?c2 ?c3 ?c4 ?c5 ?_)
                case c1 =>
                  intro j u hj
                  match j, hj with
                  | 0, hj => simp at hj; subst hj; simp [Addr.add]
                case c2 => intro u hu; simp at hu; subst hu; rfl
                case c3 => have := HLE.out; unfold maxLen; omega
                case c4 => have := HLE.out; omega
                case c5 => have := HSZ3.out; simp; omega
                intro v5 w5 hown5 hgrow5 _
                have hne0 : some W.heap.size ≠ u6.ownBlock := fun e => by have := (HO3.out.lt _ e.symm).1; omega
                have hne1 : some (W.heap.size + 1) ≠ u6.ownBlock := fun e => by have := (HO3.out.lt _ e.symm).1; omega
                have HO5 := Lib.hid (show w5.ownsRow (W.heap.size + 2) 42 1 v5 (bs ++ [r]).length ((bs ++ [r]).map (Value.float .f64)) from by rw [List.length_append, List.map_append]; exact hown5)
                have HR05 := Lib.hid (show Blk w5 W.heap.size 81 #[.int .i64 0, .int .i64 0, .int .i64 0, .int .u64 0] from (hgrow5.block _ (by have := HSZ3.out; simp; omega) hne0).trans (HR03.out.alloc _))
                have HR15 := Lib.hid (show Blk w5 (W.heap.size + 1) 81 #[.int .i64 ((t.li : Nat) + 1 : Int), .int .i64 ((t.pi : Nat) + (cc : Nat) : Int), .int .i64 (t.fr : Nat), .int .u64 0] from (hgrow5.block _ (by have := HSZ3.out; simp; omega) hne1).trans (HR13.out.alloc _))
                have HBL5 := Lib.hid (show Below W.heap.size W w5 from (Below.alloc HBL3.out HBL3.out.size _).grown hgrow5 (by have := HSZ3.out; simp; omega) (fun b hb => by have := (HO3.out.lt b hb).1; omega))
                have HSZ5 := Lib.hid (show W.heap.size + 2 ≤ w5.heap.size from Nat.le_trans HSZ3.out (Nat.le_trans (by simp) hgrow5.size))
                clear hown5 hgrow5 hne0 hne1 ch cp HO3 HR03 HR13 HBL3 HSZ3
                go_wp2_with fail
                go_roundw
                case rel => exact ⟨k + 1, by omega, by go_num, bs ++ [r], by rw [HJ.out, HE.out]; exact HGOT.out, HO5.out, HR05.out, by rw [HJ.out, HE.out]; exact HR15.out, HBL5.out, HSZ5.out⟩
                case measure => simp [intOf]; omega
              | none =>
                obtain ⟨X, hX⟩ : ∃ X, X = (Question.nanBits .f64 (floatOfInt .f64 (cc : Int)) mm.p).cut (w3.tape w3.drawn (.nanBits .f64 (floatOfInt .f64 (cc : Int)) mm.p)) := ⟨_, rfl⟩
                have hrun := run_mul_none (P := Try.prog) w3 42 hmul
                have HGOT := Lib.hid (gots_app HG.out (show Got (costM q mm) X by rw [HCM.out, hmul, hX]; exact Num.cut_nan _ _ _))
                rw [← hX] at hrun
                clear hmul hX
                go_wp2_with (at_builtin; refine wpList_append_own _ rfl _ _ 146 rfl (W.heap.size + 2) 42 i0 (.float .f64 0) 1 8 Try.underlying146 hi hz0 hz1 hz2 rfl (by decide) _ _ _ rfl ((show w3.drew.ownsRow (W.heap.size + 2) 42 1 u6 bs.length (bs.map (Value.float .f64)) from HO3.out).alloc _) ⟨w3.heap.size, 0, none⟩ 1 1 [.float .f64 X] rfl rfl ?d1 ?d2 ?d3 ?d4 ?d5 ?_)
                case d1 =>
                  intro j u hj
                  match j, hj with
                  | 0, hj => simp at hj; subst hj; simp [Addr.add]
                case d2 => intro u hu; simp at hu; subst hu; rfl
                case d3 => have := HLE.out; unfold maxLen; omega
                case d4 => have := HLE.out; omega
                case d5 => have := HSZ3.out; simp; omega
                intro v5 w5 hown5 hgrow5 _
                have hne0 : some W.heap.size ≠ u6.ownBlock := fun e => by have := (HO3.out.lt _ e.symm).1; omega
                have hne1 : some (W.heap.size + 1) ≠ u6.ownBlock := fun e => by have := (HO3.out.lt _ e.symm).1; omega
                have HO5 := Lib.hid (show w5.ownsRow (W.heap.size + 2) 42 1 v5 (bs ++ [X]).length ((bs ++ [X]).map (Value.float .f64)) from by rw [List.length_append, List.map_append]; exact hown5)
                have HR05 := Lib.hid (show Blk w5 W.heap.size 81 #[.int .i64 0, .int .i64 0, .int .i64 0, .int .u64 0] from (hgrow5.block _ (by have := HSZ3.out; simp; omega) hne0).trans (HR03.out.alloc _))
                have HR15 := Lib.hid (show Blk w5 (W.heap.size + 1) 81 #[.int .i64 ((t.li : Nat) + 1 : Int), .int .i64 ((t.pi : Nat) + (cc : Nat) : Int), .int .i64 (t.fr : Nat), .int .u64 0] from (hgrow5.block _ (by have := HSZ3.out; simp; omega) hne1).trans (HR13.out.alloc _))
                have HBL5 := Lib.hid (show Below W.heap.size W w5 from (Below.alloc HBL3.out.drew HBL3.out.size _).grown hgrow5 (by have := HSZ3.out; simp; omega) (fun b hb => by have := (HO3.out.lt b hb).1; omega))
                have HSZ5 := Lib.hid (show W.heap.size + 2 ≤ w5.heap.size from Nat.le_trans HSZ3.out (Nat.le_trans (by simp) hgrow5.size))
                clear hown5 hgrow5 hne0 hne1 ch cp HO3 HR03 HR13 HBL3 HSZ3
                go_wp2_with fail
                go_roundw
                case rel => exact ⟨k + 1, by omega, by go_num, bs ++ [X], by rw [HJ.out, HE.out]; exact HGOT.out, HO5.out, HR05.out, by rw [HJ.out, HE.out]; exact HR15.out, HBL5.out, HSZ5.out⟩
                case measure => simp [intOf]; omega
    · obtain rfl : k = z := by omega
      have hq : l.take k = l := by rw [← HZL.out, List.take_length]
      rw [hq] at HG HR1
      have HF := Lib.hid (floats_own HO.out rfl)
      have HSUM := Lib.hid (Tot.rsum_any _ bs wr (by have := gots_len HG.out; have h2 := (accT_le l ⟨0, 0, 0, []⟩).2.2.2; have h3 := HZL.out; have h4 := HZ.out; show bs.length ≤ _; unfold accT at this; simp at h2; omega) HF.out)
      rw [gots_sum HG.out] at HSUM
      rcases (show ¬ (k : Int) < (m : Nat) ∨ ((k : Int) < (m : Nat) ∧ ¬ (k : Int) < (n : Nat)) from by have := HZM.out; omega) with i1 | ⟨i1, i2⟩
      all_goals
        go_wp2_with fail
        refine HSUM.out.mono ?_
        rintro e w2 ⟨rfl, hb⟩
        have HR02 := Lib.hid (HR0.out.next hb)
        have HR12 := Lib.hid (HR1.out.next hb)
        have HB2 := Lib.hid (HBL.out.trans (hb.mono HBL.out.size))
        have b3 := HR12.out.cell 3
        have z3 := HR12.out.frozen 3
        clear hb HR0 HR1 HBL HO HF HSUM HG
        go_upto_region 16 with fail
        obtain ⟨w3, hw3⟩ : ∃ w3, w3 = w2.setCell ⟨W.heap.size + 1, 3, none⟩ (.int .u64 (sumOO (accT l).cs : Nat)) := ⟨_, rfl⟩
        rw [← hw3]
        have r13 : Blk w3 (W.heap.size + 1) 81 (totM l).rcells.toArray := by
          rw [hw3, rtt_arr]
          exact HR12.out.setCell 3 _
        have bg : Blk w3 W.heap.size 81 #[.int .i64 0, .int .i64 0, .int .i64 0, .int .u64 0] := by rw [hw3]; exact HR02.out.far (by show W.heap.size ≠ W.heap.size + 1; omega) _
        have HB3 := Lib.hid (show Below W.heap.size W w3 by rw [hw3]; exact HB2.out.setCell (by show W.heap.size ≤ W.heap.size + 1; omega) _)
        have rg := r13.range
        clear hw3 r13 b3 z3 HR02 HR12 HB2
        go_wp2_with (first | (refine wpList_load_midm (by rfl) 81 _ rfl _ _ rfl (Tt.rcells _) _ rg Try.underlying81 rfl (rttinfo _) ?_) | (refine wpList_store_blk rfl 81 _ _ rfl W.heap.size 81 _ (totM l).rcells.toArray rfl rfl bg (rttinfoA _) (rtt_siz _) (rtt_one _) ?_; intro hrow))
        exact bodyPost_row (t := 81) (totM l).rcells.toArray rfl rfl rfl Try.underlying81 rfl (rttinfoA _) hrow ⟨rfl, below_setRow HB3.out (Nat.le_refl _) _⟩
theorem built_rtt_fill (parts : List (Nat × Value)) : Try.prog.built 81 parts = Instr.fill (#[(0, 1), (1, 1), (2, 1), (3, 1)][·]?) #[.int .i64 0, .int .i64 0, .int .i64 0, .int .u64 0] parts := by kernel_rfl
theorem built_rtt (m : Tt) : Try.prog.built 81 [(0, .int .i64 m.li), (1, .int .i64 m.pi), (2, .int .i64 m.fr), (3, .int .u64 (m.s : Nat))] = some m.rcells.toArray := by
  rw [built_rtt_fill, rtt_arr]
  rfl
theorem built_tt_fill (parts : List (Nat × Value)) : Try.prog.built 83 parts = Instr.fill (#[(0, 1), (1, 1), (2, 1), (3, 1)][·]?) #[.int .i64 0, .int .i64 0, .int .i64 0, .float .f64 0] parts := by kernel_rfl
theorem built_tt (m : Tt) : Try.prog.built 83 [(0, .int .i64 m.li), (1, .int .i64 m.pi), (2, .int .i64 m.fr), (3, .float .f64 m.s)] = some m.cells.toArray := by
  rw [built_tt_fill, tt_arr]
  rfl
theorem tt_all {W : World} {b : Nat} {t : TypeId} {m : Tt} (h : Blk W b t m.cells.toArray) : W.cell? ⟨b, 0, none⟩ = some (.int .i64 m.li) ∧ W.cell? ⟨b, 1, none⟩ = some (.int .i64 m.pi) ∧ W.cell? ⟨b, 2, none⟩ = some (.int .i64 m.fr) ∧ W.cell? ⟨b, 3, none⟩ = some (.float .f64 m.s) := by
  rw [tt_arr] at h
  exact ⟨h.cell 0, h.cell 1, h.cell 2, h.cell 3⟩
theorem rtt_all {W : World} {b : Nat} {t : TypeId} {m : Tt} (h : Blk W b t m.rcells.toArray) : W.cell? ⟨b, 0, none⟩ = some (.int .i64 m.li) ∧ W.cell? ⟨b, 1, none⟩ = some (.int .i64 m.pi) ∧ W.cell? ⟨b, 2, none⟩ = some (.int .i64 m.fr) ∧ W.cell? ⟨b, 3, none⟩ = some (.int .u64 (m.s : Nat)) := by
  rw [rtt_arr] at h
  exact ⟨h.cell 0, h.cell 1, h.cell 2, h.cell 3⟩
set_option maxRecDepth 20000 in
set_option maxHeartbeats 4000000 in
theorem astotal_any (o : Tt) (W : World) : Calls Try.prog 41 #[.agg o.cells.toArray] W fun e W' => e = .returned (.agg o.rcells.toArray) ∧ Below W.heap.size W W' := by
  have hsz : (W.alloc (.cells o.cells.toArray 83)).heap.size = W.heap.size + 1 := by simp
  have bA := (Blk.new W 83 o.cells.toArray).alloc (.cells #[.int .i64 0, .int .i64 0, .int .i64 0, .int .u64 0] 81)
  have bB := Blk.new (W.alloc (.cells o.cells.toArray 83)) 81 #[.int .i64 0, .int .i64 0, .int .i64 0, .int .u64 0]
  rw [hsz] at bB
  have hB0 := ((Below.refl W.heap.size W).alloc (Nat.le_refl _) (.cells o.cells.toArray 83)).alloc (by rw [hsz]; omega) (.cells #[.int .i64 0, .int .i64 0, .int .i64 0, .int .u64 0] 81)
  obtain ⟨c0, c1, c2, c3⟩ := tt_all bA
  have cb := Tot.call_bits
  clear bA
  go_enter Try.func41, Try.ntmps41
  go_wp2_with fail
  obtain ⟨W1, hw⟩ : ∃ W1, W1 = (W.alloc (.cells o.cells.toArray 83)).alloc (.cells #[.int .i64 0, .int .i64 0, .int .i64 0, .int .u64 0] 81) := ⟨_, rfl⟩
  rw [← hw] at c0 c1 c2 c3 bB hB0 ⊢
  clear hw hsz
  refine wp_region_tree (S := (fun W' => W'.cell? ⟨W.heap.size, 0, none⟩ = some (.int .i64 o.li) ∧ W'.cell? ⟨W.heap.size, 1, none⟩ = some (.int .i64 o.pi) ∧ W'.cell? ⟨W.heap.size, 2, none⟩ = some (.int .i64 o.fr) ∧ W'.cell? ⟨W.heap.size, 3, none⟩ = some (.float .f64 o.s) ∧ Below W.heap.size W W' ∧ ∃ cs, Blk W' (W.heap.size + 1) 81 cs ∧ cs.size = 4)) (.take 0 (.take 1 (.take 2 (.take 3 (.take 4 (.take 5 (.take 6 (.take 7 (.one 8 (.take 9 (.one 10 .nil))))))))))) 9999 (by kernel_rfl) (by kernel_rfl) (by kernel_rfl) (by kernel_rfl) (by kernel_rfl) (fun _ _ d _ _ h => by cases d <;> exact h) ?_ (fun hHeld => ?_); (focus (exact ⟨c0, c1, c2, c3, hB0.drew, _, bB.drew, rfl⟩)); simp only [Tree.map, List.getElem?_toArray, List.getElem?_cons_zero, List.getElem?_cons_succ]
  (repeat (first | (refine wpTree.take (v := undef) (Or.inr ⟨by rfl, rfl⟩) ?_; simp only [Act.put, List.setIfInBounds_toArray, List.set_cons_zero, List.set_cons_succ]) | (refine wpTree.take (v := ?_) (Or.inl ⟨by rfl, ?_⟩) ?_; rotate_left; (focus (intro _ hS; (try dsimp only at hS); go_split_ands; (try subst hS); go_simp; (try (with_reducible rfl)); done)); simp only [Act.put, List.setIfInBounds_toArray, List.set_cons_zero, List.set_cons_succ])))
  refine wpTree.one (fun K hK => ?_)
  go_simp
  refine hK.out _ _ hHeld (fun _ => ?_)
  clear hK K
  refine wpTree.take (yields_buildM o.rcells.toArray (by rfl) 81 [(0, _), (1, _), (2, _), (3, _)] rfl (built_rtt o)) ?_
  simp only [Act.put, List.setIfInBounds_toArray, List.set_cons_zero, List.set_cons_succ]
  obtain ⟨_, _, _, _, hbl, cs, bc, hcs⟩ := hHeld
  refine wpTree.one (fun K hK => ?_)
  refine step_store_blk (by rfl) 81 _ _ rfl (W.heap.size + 1) 81 cs o.rcells.toArray rfl rfl bc (rttinfoA _) (hcs.trans (by rw [List.size_toArray, rtt_len])) (rtt_one _) ?_
  have hb2 := below_setRow hbl (show W.heap.size ≤ W.heap.size + 1 by omega) o.rcells.toArray
  have hS3 := below_setRow (Below.refl (W.heap.size + 1) W1.drew) (Nat.le_refl _) o.rcells.toArray
  have hc := fun i => hS3.cell (p := ⟨W.heap.size, i, none⟩) (Nat.lt_succ_self _)
  refine hK.out _ _ ⟨(hc 0).trans c0, (hc 1).trans c1, (hc 2).trans c2, (hc 3).trans c3, hb2, _, bc.setRow _, by rw [List.size_toArray, rtt_len]⟩ (fun _ => ?_)
  clear hK K
  refine wpTree.done ?_
  have hrow := bc.setRow o.rcells.toArray
  clear hS3 hc c0 c1 c2 c3 bB hB0 bc
  go_wp2_with fail
  exact bodyPost_row (t := 81) o.rcells.toArray rfl rfl rfl Try.underlying81 rfl (rttinfoA _) hrow ⟨rfl, hb2⟩
end Go.Proofs.Ytlejnjgepnjceaa

