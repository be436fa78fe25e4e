/-
cuts: what Load reads: getStance, getSaid.
-/
import Derived.Test.YtedgecijgjcfeaaCu11
import Derived.Test.YtedgecijgjcfeaaRead9
namespace Go.Proofs.Ytedgecijgjcfeaa
open Go.RowKit
set_option linter.unusedSimpArgs false
set_option linter.unusedVariables false
variable {L : Nat}

/-- Of bytes the stance and what is left. -/
def stanceP (bs : List Nat) : Except Int (St × List Nat) :=
  match numP true 0 bs with
  | .ok (t, r) => match vectorP r with
    | .ok (l, q) => .ok (⟨true, t, lv l⟩, q)
    | .error x => .error x
  | .error x => .error x
set_option maxHeartbeats 4000000 in
set_option maxRecDepth 20000 in
theorem getstance_any (k s : Nat) (bs : List Nat) (W : World) (hL : L ≤ W.heap.size) (hr : Rdr W k s) (h : RdB L W s bs) :
    Calls Try.prog 50 #[.pointer (some ⟨k, 0, none⟩)] W fun e W' => EndsV L s W (fun x : St => .agg x.cells.toArray) (stanceP bs) e W' := by
  have hklt := hr.lt
  have hslt := h.lt
  have HLT := Lib.hid hslt
  have HL := Lib.hid hL
  have hb1 := (Below.refl W.heap.size W).alloc (Nat.le_refl _) (.cells #[.bool false, .int .u64 0, .int .u32 0, .int .u32 0, .int .u32 0, .int .u32 0, .int .u32 0, .int .u32 0, .int .u32 0, .int .u32 0, .int .u32 0, .int .u32 0, .int .u32 0, .int .u32 0] 39)
  have B1 := Lib.hid (Blk.new W 39 #[.bool false, .int .u64 0, .int .u32 0, .int .u32 0, .int .u32 0, .int .u32 0, .int .u32 0, .int .u32 0, .int .u32 0, .int .u32 0, .int .u32 0, .int .u32 0, .int .u32 0, .int .u32 0])
  have HO1 := Lib.hid (Off.ofBelow (s := s) hb1)
  have HB1 := Lib.hid (h.below hb1)
  have HR1 := Lib.hid (hr.below hb1)
  obtain ⟨R, hR⟩ : ∃ R, R = stanceP bs := ⟨_, rfl⟩
  rw [← hR]
  have HE := Lib.hid hR
  clear hR hb1 h hr hL
  go_enter Try.func50, Try.ntmps50
  cases hq : numP true 0 bs with
  | error x =>
    have HQ := Lib.hid hq
    have HE2 := Lib.hid (show R = .error x by rw [HE.out]; unfold stanceP; rw [hq])
    have HN := Lib.hid (fun w (hr : Rdr w k s) (h : RdB L w s bs) => rnum_any k s bs w hr h)
    rw [hq] at HN
    clear hq
    go_wp2_with (first | (go_at_call 58; refine (HN.out _ HR1.out HB1.out).mono ?_; rintro e w2 ⟨hO, rfl, hM⟩; have HO2 := Lib.hid (HO1.out.trans hO); have HM := Lib.hid hM; clear hO hM))
    exact ⟨rfl, HO2.out, by rw [HE2.out]; exact ⟨rfl, HM.out⟩⟩
  | ok z =>
    obtain ⟨t, r⟩ := z
    have HN := Lib.hid (fun w (hr : Rdr w k s) (h : RdB L w s bs) => rnum_any k s bs w hr h)
    rw [hq] at HN
    go_upto_region 2 with (first | (go_at_call 58; refine (HN.out _ HR1.out HB1.out).mono ?_; rintro e w2 ⟨hO, rfl, hB⟩; have HR2 := Lib.hid (HR1.out.off hO); have B2 := Lib.hid (hO.blk B1.out (by have := HLT.out; omega)); have HO2 := Lib.hid (HO1.out.trans hO); have HB2 := Lib.hid hB; clear hO hB))
    have hL2 : L ≤ w2.heap.size := Nat.le_trans HL.out HO2.out.size
    cases hv : vectorP r with
    | error x =>
      have HE2 := Lib.hid (show R = .error x by rw [HE.out]; unfold stanceP; rw [hq]; dsimp only; rw [hv])
      have HV := Lib.hid (rvector_any k s r w2 hL2 HR2.out HB2.out)
      rw [hv] at HV
      clear hq hv
      go_wp2_with (first | (go_at_call 59; refine HV.out.mono ?_; rintro e w3 ⟨hO, rfl, hM⟩; have HO3 := Lib.hid (HO2.out.trans hO); have HM := Lib.hid hM; clear hO hM))
      exact ⟨rfl, HO3.out, by rw [HE2.out]; exact ⟨rfl, HM.out⟩⟩
    | ok z =>
      obtain ⟨l, q⟩ := z
      have HE2 := Lib.hid (show R = .ok (⟨true, t, lv l⟩, q) by rw [HE.out]; unfold stanceP; rw [hq]; dsimp only; rw [hv])
      have HV := Lib.hid (rvector_any k s r w2 hL2 HR2.out HB2.out)
      rw [hv] at HV
      have bs3 := built_st3 ⟨true, t, lv l⟩
      clear hq hv
      go_wp2_with (first | (go_at_call 59; refine HV.out.mono ?_; rintro e w3 ⟨hO, rfl, hB⟩; have B3 := Lib.hid (hO.blk B2.out (by have := HLT.out; omega)); have HO3 := Lib.hid (HO2.out.trans hO); have HB3 := Lib.hid hB; clear hO hB) | (refine wpList_build_lit (St.mk true t (lv l)).cells.toArray rfl 39 _ rfl bs3 ?_) | (refine wpList_store_blk rfl 39 _ _ rfl W.heap.size 39 #[.bool false, .int .u64 0, .int .u32 0, .int .u32 0, .int .u32 0, .int .u32 0, .int .u32 0, .int .u32 0, .int .u32 0, .int .u32 0, .int .u32 0, .int .u32 0, .int .u32 0, .int .u32 0] (St.mk true t (lv l)).cells.toArray rfl rfl B3.out (stinfoA _) (st_siz _) (st_one _) ?_; intro b4))
      refine bodyPost_row (t := 39) (St.mk true t (lv l)).cells.toArray rfl rfl rfl Try.underlying39 rfl (stinfoA _) b4 ?_
      have hf : ∀ j, j ≠ W.heap.size → (w3.setRow W.heap.size (St.mk true t (lv l)).cells.toArray).heap[j]? = w3.heap[j]? := fun j hj => setRow_other w3 W.heap.size j _ hj
      have hz : (w3.setRow W.heap.size (St.mk true t (lv l)).cells.toArray).heap.size = w3.heap.size := by simp
      exact ⟨HO3.out.turn (Nat.le_refl _) rfl rfl rfl (Nat.le_of_eq hz.symm) hf, by rw [HE2.out]; exact ⟨rfl, HB3.out.turn (Nat.le_of_eq hz.symm) hf (by have := HLT.out; omega) HL.out⟩⟩
end Go.Proofs.Ytedgecijgjcfeaa
