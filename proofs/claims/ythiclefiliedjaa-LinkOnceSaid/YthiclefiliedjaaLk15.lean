/-
link: LinkFull.
-/
import Derived.Test.YthiclefiliedjaaLk14
namespace Go.Proofs.Ythiclefiliedjaa
open Go.RowKit Go.ChangeShapes Go.WideShapes Go.ChangeAt Go.WideElems
set_option linter.unusedSimpArgs false
set_option linter.unusedVariables false
namespace Lk
theorem own_knob : ownKnob Try.prog.godebug = none := by kernel_rfl
theorem laid_out : laidOutB Try.prog = true := by kernel_rfl
def rs (k : Nat) : LS := ⟨k + 1, 1, List.replicate k [1]⟩
def rt (n m : Nat) : LS := ⟨251 + m, 1, List.replicate (250 - n) [1] ++ List.replicate m [2]⟩
theorem rs_len (k : Nat) : (rs k).ts.length = k := List.length_replicate
theorem rs_nx (k : Nat) : (rs k).nx = k + 1 := rfl
theorem rs_e {k : Nat} (h : k < 250) : sendE (rs k) 1 = 0 := by
  unfold sendE
  rw [if_pos (by decide), rs_len, rs_nx, if_neg (by omega)]
theorem rs_n {k : Nat} (h : k < 250) : sendN (rs k) 1 = k + 1 := by unfold sendN; rw [rs_e h, if_pos rfl]; rfl
theorem rs_s {k : Nat} (h : k < 250) : (rs k).send [1] = rs (k + 1) := by
  unfold LS.send
  rw [show ([1] : List Nat).length = 1 from rfl, rs_e h, if_pos rfl]
  unfold rs
  rw [List.replicate_succ']
theorem rs_fe {k : Nat} (h : k = 250) : sendE (rs k) 1 = 5 := by
  unfold sendE
  rw [if_pos (by decide), rs_len, if_pos (by omega)]
theorem rs_fn {k : Nat} (h : k = 250) : sendN (rs k) 1 = 0 := by unfold sendN; rw [rs_fe h, if_neg (by decide)]
theorem rs_fs {k : Nat} (h : k = 250) : (rs k).send [1] = rs k := by
  unfold LS.send
  rw [show ([1] : List Nat).length = 1 from rfl, rs_fe h, if_neg (by decide)]
theorem rs_ae {n k : Nat} (hk : k = 250) (h : n ≤ 250) : ackE (rs k) n = 0 := by unfold ackE; rw [rs_nx, if_neg (by omega)]
theorem rs_ar {n k : Nat} (hk : k = 250) (h : n ≤ 250) : ackR (rs k) n = n := by unfold ackR ackN; rw [rs_nx, rs_len, if_neg (by omega)]; omega
theorem rs_as {n k : Nat} (hk : k = 250) (h : n ≤ 250) : (rs k).ack n = rt n 0 := by
  unfold LS.ack ackN
  rw [rs_nx, rs_len, if_neg (by omega)]
  unfold rs rt
  rw [LS.mk.injEq]
  refine ⟨by omega, rfl, ?_⟩
  rw [List.replicate_zero, List.append_nil, List.drop_replicate]
  congr 1
  omega
theorem rs_we {n k : Nat} (hk : k = 250) (h : 251 ≤ n) : ackE (rs k) n = 14 := by unfold ackE; rw [rs_nx, if_pos (by omega)]
theorem rs_wr {n k : Nat} (hk : k = 250) (h : 251 ≤ n) : ackR (rs k) n = 0 := by unfold ackR; rw [rs_nx, if_pos (by omega)]
theorem rs_ws {n k : Nat} (hk : k = 250) (h : 251 ≤ n) : (rs k).ack n = rs k := by unfold LS.ack; rw [rs_nx, if_pos (by omega)]
theorem rt_len (n m : Nat) : (rt n m).ts.length = 250 - n + m := by unfold rt; simp
theorem rt_e {n m : Nat} (hn : n ≤ 250) (h : m < n) : sendE (rt n m) 1 = 0 := by
  unfold sendE
  rw [if_pos (by decide), if_neg (by rw [rt_len]; unfold rt; simp; omega)]
theorem rt_s {n m : Nat} (hn : n ≤ 250) (h : m < n) : (rt n m).send [2] = rt n (m + 1) := by
  unfold LS.send
  rw [show ([2] : List Nat).length = 1 from rfl, rt_e hn h, if_pos rfl]
  unfold rt
  simp only [LS.mk.injEq, true_and]
  exact ⟨by omega, by rw [List.replicate_succ', List.append_assoc]⟩
theorem rt_fe {n : Nat} (hn : n ≤ 250) : sendE (rt n n) 1 = 5 := by
  unfold sendE
  rw [if_pos (by decide), if_pos (by rw [rt_len]; omega)]
theorem rt_fs {n : Nat} (hn : n ≤ 250) : (rt n n).send [2] = rt n n := by
  unfold LS.send
  rw [show ([2] : List Nat).length = 1 from rfl, rt_fe hn, if_neg (by decide)]
/-- A text of one byte that a statement sends. -/
theorem av_one {W w : World} {P : Nat → Prop} {d : Nat} {s s' : LS} (h : Alv W P w d s) (b : Nat) (hb : b < 256) (n : Nat) (e0 : Int) (hn : sendN s 1 = n) (he : sendE s 1 = e0) (hs' : s.send [b] = s') :
    Calls Try.prog 10 #[.pointer (some ⟨d, 0, none⟩), .slice (some ⟨w.heap.size, 0, none⟩) 1 1] (w.alloc (.cells #[.int .u8 (b : Nat)] 5)) fun e w' => e = .returned (.tuple #[.int .u64 (n : Nat), .int .i64 e0]) ∧ Alv W P w' d s' := by
  refine (av_send (h.next ((Below.refl w.heap.size w).alloc (Nat.le_refl _) _)) _ 1 1 [b] rfl (lit_src rfl) (by simpa using hb) n e0 s' hn he hs').mono ?_
  rintro e w' ⟨h1, h2, -⟩
  exact ⟨h1, h2⟩
set_option maxHeartbeats 8000000 in
set_option maxRecDepth 20000 in
theorem full_walk (W : World) (n : Nat) (hn : n < 256) : Calls Try.prog 6 #[.int .u8 (n : Nat)] W fun e W' => e = .returned (.bool true) ∧ Below W.heap.size W W' := by
  have HN := Lib.hid (av_new W)
  have HNN := Lib.hid hn
  clear hn
  go_enter Try.func6, Try.ntmps6
  go_upto_region 3 with (first | (go_at_call 8; refine HN.out.mono ?_; rintro e w1 ⟨rfl, h⟩; have H1 := Lib.hid h; clear h HN))
  go_loopw [4] (fun i wr => ∃ k : Nat, k ≤ 250 ∧ i = .int .i64 k ∧ Alv W (fun _ => False) wr W.heap.size (rs k)) (fun i _ => 250 - (intOf i).toNat)
  case atStart => exact ⟨0, by omega, rfl, H1.out⟩
  case round =>
    clear H1
    obtain ⟨k, hk, rfl, hA⟩ := hrel
    have HA := Lib.hid hA
    clear hA
    by_cases hlt : k < 250
    · have hlt' : (k : Int) < 250 := by omega
      have ew : IntKind.i64.wrap ((k : Int) + 1) = ((k + 1 : Nat) : Int) := by rw [IntKind.wrap_i64]; omega
      have eu : IntKind.u64.wrap ((k + 1 : Nat) : Int) = ((k + 1 : Nat) : Int) := by rw [IntKind.wrap_u64]; omega
      have HS := Lib.hid (av_one HA.out 1 (by decide) (k + 1) 0 (rs_n hlt) (rs_e hlt) (rs_s hlt))
      have HK := Lib.hid hlt
      clear hk hlt
      go_wp2_with (first | (go_at_call 10; refine HS.out.mono ?_; rintro e w2 ⟨rfl, h⟩; have H2 := Lib.hid h; clear h HS))
      go_roundw
      case rel => exact ⟨k + 1, by have := HK.out; omega, by go_num, H2.out⟩
      case measure => have := HK.out; simp [intOf]; omega
    · have hk250 : k = 250 := by omega
      have hlt' : ¬ (k : Int) < 250 := by omega
      have HK := Lib.hid hk250
      have HS := Lib.hid (av_one HA.out 1 (by decide) 0 5 (rs_fn hk250) (rs_fe hk250) (rs_fs hk250))
      clear hlt hk hk250
      go_upto_region 9 with (first | (go_at_call 10; refine HS.out.mono ?_; rintro e w2 ⟨rfl, h⟩; have H2 := Lib.hid h; clear h HS HA))
      clear hlt'
      have eu : IntKind.u64.wrap (n : Int) = (n : Int) := by have := HNN.out; rw [IntKind.wrap_u64]; omega
      have ei : IntKind.i64.wrap (n : Int) = (n : Int) := by have := HNN.out; rw [IntKind.wrap_i64]; omega
      by_cases hn : n ≤ 250
      · have HA := Lib.hid (av_ack H2.out n n 0 _ (rs_ar HK.out hn) (rs_ae HK.out hn) (rs_as HK.out hn))
        have hn1 : ¬ (n : Int) = 255 := by omega
        have hn2 : ((n : Int) == 255) = false := by simpa using hn1
        have hn3 : ¬ (250 : Int) < (n : Int) := by omega
        have HN2 := Lib.hid hn
        clear hn hn1
        go_upto_region 17 with (first | (go_at_call 12; refine HA.out.mono ?_; rintro e w3 ⟨rfl, h, -⟩; have H3 := Lib.hid h; clear h HA H2))
        clear hn2 hn3 eu ei
        go_loopw [12, 13] (fun mv i wr => ∃ j m : Nat, j ≤ 250 ∧ i = .int .i64 j ∧ mv = .int .i64 m ∧ m = min j n ∧ Alv W (fun _ => False) wr W.heap.size (rt n m)) (fun _ i _ => 250 - (intOf i).toNat)
        case atStart => exact ⟨0, 0, by omega, rfl, rfl, by omega, H3.out⟩
        case round =>
          clear H3
          obtain ⟨j, m, hj, rfl, rfl, hm, hA⟩ := hrel
          have HA := Lib.hid hA
          have HM := Lib.hid hm
          clear hA
          by_cases hlt : j < 250
          · have hlt' : (j : Int) < 250 := by omega
            have HJ := Lib.hid hlt
            by_cases hmn : m < n
            · have HS := Lib.hid (av_one HA.out 2 (by decide) _ 0 rfl (rt_e HN2.out hmn) (rt_s HN2.out hmn))
              have HMN := Lib.hid hmn
              have hm2 : m < 250 := by have := HN2.out; omega
              obtain ⟨sn, hsn⟩ : ∃ sn, sn = sendN (rt n m) 1 := ⟨_, rfl⟩
              rw [← hsn] at HS
              clear hm hj hlt hmn hsn
              go_wp2_with (first | (go_at_call 10; refine HS.out.mono ?_; rintro e w4 ⟨rfl, h⟩; have H4 := Lib.hid h; clear h HS))
              go_roundw
              case rel => exact ⟨j + 1, m + 1, by have := HJ.out; omega, by go_num, by go_num, by have := HM.out; have := HMN.out; omega, H4.out⟩
              case measure => have := HJ.out; simp [intOf]; omega
            · have hme : m = n := by omega
              subst hme
              have HS := Lib.hid (av_one HA.out 2 (by decide) _ 5 rfl (rt_fe HN2.out) (rt_fs HN2.out))
              obtain ⟨sn, hsn⟩ : ∃ sn, sn = sendN (rt m m) 1 := ⟨_, rfl⟩
              rw [← hsn] at HS
              clear hm hj hlt hmn hsn
              go_wp2_with (first | (go_at_call 10; refine HS.out.mono ?_; rintro e w4 ⟨rfl, h⟩; have H4 := Lib.hid h; clear h HS))
              go_roundw
              case rel => exact ⟨j + 1, m, by have := HJ.out; omega, by go_num, rfl, by have := HM.out; omega, H4.out⟩
              case measure => have := HJ.out; simp [intOf]; omega
          · have hme : m = n := by have := HN2.out; omega
            subst hme
            have hlt' : ¬ (j : Int) < 250 := by omega
            clear hm hj hlt
            have HAL := Lib.hid (alive_any wr)
            have HQ := Lib.hid (fun w (hb : Below wr.heap.size wr w) => av_queue (HA.out.next hb))
            have HL := Lib.hid (show (rt m m).ts.length = 250 by rw [rt_len]; have := HN2.out; omega)
            have hmm : ((m : Int) == (m : Int)) = true := by simp
            go_wp2_with (first | (go_at_call 9; refine HAL.out.mono ?_; rintro e w4 ⟨rfl, hb⟩; have HB4 := Lib.hid hb; clear hb HAL) | (go_at_call 16; refine (HQ.out _ HB4.out).mono ?_; rintro e w5 ⟨hb, A, c, M, rfl, hc, -, -, hts, -⟩; have HB5 := Lib.hid hb; have hml : M.length = 250 := by { have := congrArg List.length hts; rw [List.length_map, HL.out] at this; exact this }; rw [hml]; clear hb hc hts hml HQ))
            go_ret
            exact ⟨rfl, HA.out.b.trans ((HB4.out.trans (HB5.out.mono HB4.out.size)).mono HA.out.b.size)⟩
      · have HA := Lib.hid (av_ack H2.out n 0 14 _ (rs_wr HK.out (by omega)) (rs_we HK.out (by omega)) (rs_ws HK.out (by omega)))
        have hn3 : (250 : Int) < (n : Int) := by omega
        by_cases h5 : n = 255
        · subst h5
          clear hn hn3
          go_upto_region 10 with (first | (go_at_call 12; refine HA.out.mono ?_; rintro e w3 ⟨rfl, h, -⟩; have H3 := Lib.hid h; have HAL := Lib.hid (alive_any w3); clear h HA H2))
          go_wp2_with (first | (go_at_call 9; refine HAL.out.mono ?_; rintro e w4 ⟨rfl, hb⟩; have HB4 := Lib.hid hb; clear hb HAL))
          go_ret
          exact ⟨rfl, H3.out.b.trans (HB4.out.mono H3.out.b.size)⟩
        · have hn2 : ((n : Int) == 255) = false := by simp; omega
          clear hn h5
          go_upto_region 10 with (first | (go_at_call 12; refine HA.out.mono ?_; rintro e w3 ⟨rfl, h, -⟩; have H3 := Lib.hid h; have HAL := Lib.hid (alive_any w3); clear h HA H2))
          go_wp2_with (first | (go_at_call 9; refine HAL.out.mono ?_; rintro e w4 ⟨rfl, hb⟩; have HB4 := Lib.hid hb; clear hb HAL))
          go_ret
          exact ⟨rfl, H3.out.b.trans (HB4.out.mono H3.out.b.size)⟩
end Lk
end Go.Proofs.Ythiclefiliedjaa
