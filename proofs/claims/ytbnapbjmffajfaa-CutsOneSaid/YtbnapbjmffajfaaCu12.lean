/-
cuts: what Load reads: getStance, getSaid.
cuts: what Load reads: getSaid.
-/
import Derived.Test.YtbnapbjmffajfaaCu11
import Derived.Test.YtbnapbjmffajfaaRead9
namespace Go.Proofs.Ytbnapbjmffajfaa
open Go.RowKit
set_option linter.unusedSimpArgs false
set_option linter.unusedVariables false
variable {L : Nat}

/-- Of bytes the stance and what is left. -/
def stanceP (bs : List Nat) : Except Int (St × List Nat) :=
  match numP true 0 bs with
  | .ok (t, r) => match vectorP r with
    | .ok (l, q) => .ok (⟨true, t, lv l⟩, q)
    | .error x => .error x
  | .error x => .error x
set_option maxHeartbeats 4000000 in
set_option maxRecDepth 20000 in
theorem getstance_any (k s : Nat) (bs : List Nat) (W : World) (hL : L ≤ W.heap.size) (hr : Rdr W k s) (h : RdB L W s bs) :
    Calls Try.prog 50 #[.pointer (some ⟨k, 0, none⟩)] W fun e W' => EndsV L s W (fun x : St => .agg x.cells.toArray) (stanceP bs) e W' := by
  have hklt := hr.lt
  have hslt := h.lt
  have HLT := Lib.hid hslt
  have HL := Lib.hid hL
  have hb1 := (Below.refl W.heap.size W).alloc (Nat.le_refl _) (.cells #[.bool false, .int .u64 0, .int .u32 0, .int .u32 0, .int .u32 0, .int .u32 0, .int .u32 0, .int .u32 0, .int .u32 0, .int .u32 0, .int .u32 0, .int .u32 0, .int .u32 0, .int .u32 0] 39)
  have B1 := Lib.hid (Blk.new W 39 #[.bool false, .int .u64 0, .int .u32 0, .int .u32 0, .int .u32 0, .int .u32 0, .int .u32 0, .int .u32 0, .int .u32 0, .int .u32 0, .int .u32 0, .int .u32 0, .int .u32 0, .int .u32 0])
  have HO1 := Lib.hid (Off.ofBelow (s := s) hb1)
  have HB1 := Lib.hid (h.below hb1)
  have HR1 := Lib.hid (hr.below hb1)
  obtain ⟨R, hR⟩ : ∃ R, R = stanceP bs := ⟨_, rfl⟩
  rw [← hR]
  have HE := Lib.hid hR
  clear hR hb1 h hr hL
  go_enter Try.func50, Try.ntmps50
  cases hq : numP true 0 bs with
  | error x =>
    have HQ := Lib.hid hq
    have HE2 := Lib.hid (show R = .error x by rw [HE.out]; unfold stanceP; rw [hq])
    have HN := Lib.hid (fun w (hr : Rdr w k s) (h : RdB L w s bs) => rnum_any k s bs w hr h)
    rw [hq] at HN
    clear hq
    go_wp2_with (first | (go_at_call 58; refine (HN.out _ HR1.out HB1.out).mono ?_; rintro e w2 ⟨hO, rfl, hM⟩; have HO2 := Lib.hid (HO1.out.trans hO); have HM := Lib.hid hM; clear hO hM))
    exact ⟨rfl, HO2.out, by rw [HE2.out]; exact ⟨rfl, HM.out⟩⟩
  | ok z =>
    obtain ⟨t, r⟩ := z
    have HN := Lib.hid (fun w (hr : Rdr w k s) (h : RdB L w s bs) => rnum_any k s bs w hr h)
    rw [hq] at HN
    go_upto_region 2 with (first | (go_at_call 58; refine (HN.out _ HR1.out HB1.out).mono ?_; rintro e w2 ⟨hO, rfl, hB⟩; have HR2 := Lib.hid (HR1.out.off hO); have B2 := Lib.hid (hO.blk B1.out (by have := HLT.out; omega)); have HO2 := Lib.hid (HO1.out.trans hO); have HB2 := Lib.hid hB; clear hO hB))
    have hL2 : L ≤ w2.heap.size := Nat.le_trans HL.out HO2.out.size
    cases hv : vectorP r with
    | error x =>
      have HE2 := Lib.hid (show R = .error x by rw [HE.out]; unfold stanceP; rw [hq]; dsimp only; rw [hv])
      have HV := Lib.hid (rvector_any k s r w2 hL2 HR2.out HB2.out)
      rw [hv] at HV
      clear hq hv
      go_wp2_with (first | (go_at_call 59; refine HV.out.mono ?_; rintro e w3 ⟨hO, rfl, hM⟩; have HO3 := Lib.hid (HO2.out.trans hO); have HM := Lib.hid hM; clear hO hM))
      exact ⟨rfl, HO3.out, by rw [HE2.out]; exact ⟨rfl, HM.out⟩⟩
    | ok z =>
      obtain ⟨l, q⟩ := z
      have HE2 := Lib.hid (show R = .ok (⟨true, t, lv l⟩, q) by rw [HE.out]; unfold stanceP; rw [hq]; dsimp only; rw [hv])
      have HV := Lib.hid (rvector_any k s r w2 hL2 HR2.out HB2.out)
      rw [hv] at HV
      have bs3 := built_st3 ⟨true, t, lv l⟩
      clear hq hv
      go_wp2_with (first | (go_at_call 59; refine HV.out.mono ?_; rintro e w3 ⟨hO, rfl, hB⟩; have B3 := Lib.hid (hO.blk B2.out (by have := HLT.out; omega)); have HO3 := Lib.hid (HO2.out.trans hO); have HB3 := Lib.hid hB; clear hO hB) | (refine wpList_build_lit (St.mk true t (lv l)).cells.toArray rfl 39 _ rfl bs3 ?_) | (refine wpList_store_blk rfl 39 _ _ rfl W.heap.size 39 #[.bool false, .int .u64 0, .int .u32 0, .int .u32 0, .int .u32 0, .int .u32 0, .int .u32 0, .int .u32 0, .int .u32 0, .int .u32 0, .int .u32 0, .int .u32 0, .int .u32 0, .int .u32 0] (St.mk true t (lv l)).cells.toArray rfl rfl B3.out (stinfoA _) (st_siz _) (st_one _) ?_; intro b4))
      refine bodyPost_row (t := 39) (St.mk true t (lv l)).cells.toArray rfl rfl rfl Try.underlying39 rfl (stinfoA _) b4 ?_
      have hf : ∀ j, j ≠ W.heap.size → (w3.setRow W.heap.size (St.mk true t (lv l)).cells.toArray).heap[j]? = w3.heap[j]? := fun j hj => setRow_other w3 W.heap.size j _ hj
      have hz : (w3.setRow W.heap.size (St.mk true t (lv l)).cells.toArray).heap.size = w3.heap.size := by simp
      exact ⟨HO3.out.turn (Nat.le_refl _) rfl rfl rfl (Nat.le_of_eq hz.symm) hf, by rw [HE2.out]; exact ⟨rfl, HB3.out.turn (Nat.le_of_eq hz.symm) hf (by have := HLT.out; omega) HL.out⟩⟩
end Go.Proofs.Ytbnapbjmffajfaa
namespace Go.Proofs.Ytbnapbjmffajfaa
open Go.RowKit
set_option linter.unusedSimpArgs false
set_option linter.unusedVariables false
variable {L : Nat}
theorem sd_zeroZ : Sd.zero.cells.toArray = #[.bool false, .bool false, .int .u64 0, .int .u32 0, .int .u32 0, .int .u32 0, .int .u32 0, .int .u32 0, .int .u32 0, .int .u32 0, .int .u32 0, .int .u32 0, .int .u32 0, .int .u32 0, .int .u32 0] := by
  unfold Sd.cells Sd.zero St.cells St.zero vl; rfl
theorem sd_oneZ : (Sd.mk true St.zero).cells.toArray = #[.bool true, .bool false, .int .u64 0, .int .u32 0, .int .u32 0, .int .u32 0, .int .u32 0, .int .u32 0, .int .u32 0, .int .u32 0, .int .u32 0, .int .u32 0, .int .u32 0, .int .u32 0, .int .u32 0] := by
  unfold Sd.cells St.cells St.zero vl; rfl
theorem built_sdz : Try.prog.built 61 [] = some Sd.zero.cells.toArray := by rw [sd_zeroZ]; kernel_rfl
theorem built_sdp : Try.prog.built 61 [(0, .bool true)] = some (Sd.mk true St.zero).cells.toArray := by rw [sd_oneZ]; kernel_rfl

/-- Of bytes what a home said, and what is left. -/
def saidP (bs : List Nat) : Except Int (Sd × List Nat) :=
  match smallP 2 bs with
  | .ok (n, r) => if n = 0 then .ok (Sd.zero, r) else if n = 1 then .ok (⟨true, St.zero⟩, r) else match stanceP r with
    | .ok (x, q) => .ok (⟨true, x⟩, q)
    | .error x => .error x
  | .error x => .error x
theorem put_end {s : Nat} {W w : World} {q : List Nat} {g : Nat} {cs : Array Value} (hO : Off s W w) (hB : RdB L w s q) (hg : W.heap.size ≤ g) (hgs : g ≠ s) (hL : L ≤ g) :
    Off s W (w.setRow g cs) ∧ RdB L (w.setRow g cs) s q := by
  have hf : ∀ j, j ≠ g → (w.setRow g cs).heap[j]? = w.heap[j]? := fun j hj => setRow_other w g j _ hj
  have hz : (w.setRow g cs).heap.size = w.heap.size := by simp
  exact ⟨hO.turn hg rfl rfl rfl (Nat.le_of_eq hz.symm) hf, hB.turn (Nat.le_of_eq hz.symm) hf hgs hL⟩
set_option maxHeartbeats 4000000 in
set_option maxRecDepth 20000 in
theorem getsaid_any (k s : Nat) (bs : List Nat) (W : World) (hL : L ≤ W.heap.size) (hr : Rdr W k s) (h : RdB L W s bs) :
    Calls Try.prog 53 #[.pointer (some ⟨k, 0, none⟩)] W fun e W' => EndsV L s W (fun x : Sd => .agg x.cells.toArray) (saidP bs) e W' := by
  have hklt := hr.lt
  have hslt := h.lt
  have HLT := Lib.hid hslt
  have HL := Lib.hid hL
  have hb1 := (Below.refl W.heap.size W).alloc (Nat.le_refl _) (.cells #[.bool false, .bool false, .int .u64 0, .int .u32 0, .int .u32 0, .int .u32 0, .int .u32 0, .int .u32 0, .int .u32 0, .int .u32 0, .int .u32 0, .int .u32 0, .int .u32 0, .int .u32 0, .int .u32 0] 61)
  have B1 := Lib.hid (Blk.new W 61 #[.bool false, .bool false, .int .u64 0, .int .u32 0, .int .u32 0, .int .u32 0, .int .u32 0, .int .u32 0, .int .u32 0, .int .u32 0, .int .u32 0, .int .u32 0, .int .u32 0, .int .u32 0, .int .u32 0])
  have HO1 := Lib.hid (Off.ofBelow (s := s) hb1)
  have HB1 := Lib.hid (h.below hb1)
  have HR1 := Lib.hid (hr.below hb1)
  obtain ⟨R, hR⟩ : ∃ R, R = saidP bs := ⟨_, rfl⟩
  rw [← hR]
  have HE := Lib.hid hR
  clear hR hb1 h hr hL
  go_enter Try.func53, Try.ntmps53
  cases hq : smallP 2 bs with
  | error x =>
    have HE2 := Lib.hid (show R = .error x by rw [HE.out]; unfold saidP; rw [hq])
    have HN := Lib.hid (fun w (hr : Rdr w k s) (h : RdB L w s bs) => rsmall_any k s bs 2 w hr h (by omega))
    rw [hq] at HN
    clear hq
    go_wp2_with (first | (go_at_call 40; refine (HN.out _ HR1.out HB1.out).mono ?_; rintro e w2 ⟨hO, rfl, hM⟩; have HO2 := Lib.hid (HO1.out.trans hO); have HM := Lib.hid hM; clear hO hM))
    exact ⟨rfl, HO2.out, by rw [HE2.out]; exact ⟨rfl, HM.out⟩⟩
  | ok z =>
    obtain ⟨n, r⟩ := z
    have HN := Lib.hid (fun w (hr : Rdr w k s) (h : RdB L w s bs) => rsmall_any k s bs 2 w hr h (by omega))
    rw [hq] at HN
    have hn := (small_ok hq).2
    have hR0 := HE.out
    unfold saidP at hR0
    rw [hq] at hR0
    dsimp only at hR0
    clear hq HE
    obtain rfl | rfl | rfl : n = 0 ∨ n = 1 ∨ n = 2 := by omega
    · rw [if_pos rfl] at hR0
      have HE2 := Lib.hid hR0
      have bs3 := built_sdz
      clear hR0 hn
      go_wp2_with (first | (go_at_call 40; refine (HN.out _ HR1.out HB1.out).mono ?_; rintro e w2 ⟨hO, rfl, hB⟩; have B2 := Lib.hid (hO.blk B1.out (by have := HLT.out; omega)); have HO2 := Lib.hid (HO1.out.trans hO); have HB2 := Lib.hid hB; clear hO hB) | (refine wpList_build_lit Sd.zero.cells.toArray rfl 61 _ rfl bs3 ?_) | (refine wpList_store_blk rfl 61 _ _ rfl W.heap.size 61 #[.bool false, .bool false, .int .u64 0, .int .u32 0, .int .u32 0, .int .u32 0, .int .u32 0, .int .u32 0, .int .u32 0, .int .u32 0, .int .u32 0, .int .u32 0, .int .u32 0, .int .u32 0, .int .u32 0] Sd.zero.cells.toArray rfl rfl B2.out (sdinfoA _) (sd_siz _) (sd_one _) ?_; intro b4))
      refine bodyPost_row (t := 61) Sd.zero.cells.toArray rfl rfl rfl Try.underlying61 rfl (sdinfoA _) b4 ?_
      have X := put_end (cs := Sd.zero.cells.toArray) HO2.out HB2.out (Nat.le_refl _) (by have := HLT.out; omega) HL.out
      exact ⟨X.1, by rw [HE2.out]; exact ⟨rfl, X.2⟩⟩
    · rw [if_neg (by decide), if_pos rfl] at hR0
      have HE2 := Lib.hid hR0
      have bs3 := built_sdp
      clear hR0 hn
      go_wp2_with (first | (go_at_call 40; refine (HN.out _ HR1.out HB1.out).mono ?_; rintro e w2 ⟨hO, rfl, hB⟩; have B2 := Lib.hid (hO.blk B1.out (by have := HLT.out; omega)); have HO2 := Lib.hid (HO1.out.trans hO); have HB2 := Lib.hid hB; clear hO hB) | (refine wpList_build_lit (Sd.mk true St.zero).cells.toArray rfl 61 _ rfl bs3 ?_) | (refine wpList_store_blk rfl 61 _ _ rfl W.heap.size 61 #[.bool false, .bool false, .int .u64 0, .int .u32 0, .int .u32 0, .int .u32 0, .int .u32 0, .int .u32 0, .int .u32 0, .int .u32 0, .int .u32 0, .int .u32 0, .int .u32 0, .int .u32 0, .int .u32 0] (Sd.mk true St.zero).cells.toArray rfl rfl B2.out (sdinfoA _) (sd_siz _) (sd_one _) ?_; intro b4))
      refine bodyPost_row (t := 61) (Sd.mk true St.zero).cells.toArray rfl rfl rfl Try.underlying61 rfl (sdinfoA _) b4 ?_
      have X := put_end (cs := (Sd.mk true St.zero).cells.toArray) HO2.out HB2.out (Nat.le_refl _) (by have := HLT.out; omega) HL.out
      exact ⟨X.1, by rw [HE2.out]; exact ⟨rfl, X.2⟩⟩
    · rw [if_neg (by decide), if_neg (by decide)] at hR0
      go_upto_region 6 with (first | (go_at_call 40; refine (HN.out _ HR1.out HB1.out).mono ?_; rintro e w2 ⟨hO, rfl, hB⟩; have HR2 := Lib.hid (HR1.out.off hO); have B2 := Lib.hid (hO.blk B1.out (by have := HLT.out; omega)); have HO2 := Lib.hid (HO1.out.trans hO); have HB2 := Lib.hid hB; clear hO hB))
      have hL2 : L ≤ w2.heap.size := Nat.le_trans HL.out HO2.out.size
      have HV := Lib.hid (getstance_any k s r w2 hL2 HR2.out HB2.out)
      cases hv : stanceP r with
      | error x =>
        rw [hv] at hR0 HV
        have HE2 := Lib.hid hR0
        clear hR0 hn hv
        go_wp2_with (first | (go_at_call 50; refine HV.out.mono ?_; rintro e w3 ⟨hO, rfl, hM⟩; have HO3 := Lib.hid (HO2.out.trans hO); have HM := Lib.hid hM; clear hO hM))
        exact ⟨rfl, HO3.out, by rw [HE2.out]; exact ⟨rfl, HM.out⟩⟩
      | ok z =>
        obtain ⟨y, q⟩ := z
        rw [hv] at hR0 HV
        have HE2 := Lib.hid hR0
        have bs3 := built_sd ⟨true, y⟩
        clear hR0 hn hv
        go_wp2_with (first | (go_at_call 50; refine HV.out.mono ?_; rintro e w3 ⟨hO, rfl, hB⟩; have B3 := Lib.hid (hO.blk B2.out (by have := HLT.out; omega)); have HO3 := Lib.hid (HO2.out.trans hO); have HB3 := Lib.hid hB; clear hO hB) | (refine wpList_build_lit (Sd.mk true y).cells.toArray rfl 61 _ rfl bs3 ?_) | (refine wpList_store_blk rfl 61 _ _ rfl W.heap.size 61 #[.bool false, .bool false, .int .u64 0, .int .u32 0, .int .u32 0, .int .u32 0, .int .u32 0, .int .u32 0, .int .u32 0, .int .u32 0, .int .u32 0, .int .u32 0, .int .u32 0, .int .u32 0, .int .u32 0] (Sd.mk true y).cells.toArray rfl rfl B3.out (sdinfoA _) (sd_siz _) (sd_one _) ?_; intro b4))
        refine bodyPost_row (t := 61) (Sd.mk true y).cells.toArray rfl rfl rfl Try.underlying61 rfl (sdinfoA _) b4 ?_
        have X := put_end (cs := (Sd.mk true y).cells.toArray) HO3.out HB3.out (Nat.le_refl _) (by have := HLT.out; omega) HL.out
        exact ⟨X.1, by rw [HE2.out]; exact ⟨rfl, X.2⟩⟩
end Go.Proofs.Ytbnapbjmffajfaa
