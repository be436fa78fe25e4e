/-
peers: the document's Put.
-/
import Derived.Test.YtlceljcplmcjgaaPe20
namespace Go.Proofs.Ytlceljcplmcjgaa
open Go.RowKit
set_option linter.unusedSimpArgs false
set_option linter.unusedVariables false
namespace Pe
theorem encL_small {l : List Nat} (h : ∀ n ∈ l, n < 128) : encL l = l := by
  induction l with
  | nil => rfl
  | cons n l ih =>
    show enc n ++ encL l = _
    rw [Nd.encHi_small (h n List.mem_cons_self), ih fun m hm => h m (List.mem_cons_of_mem _ hm)]
    rfl
theorem encS_small {s : Nat} {z : Int} {p : Nat → Bool} (hz : z.toNat = s) (hs : s ≤ 3) : encS z p = [s] ++ enc (lst p).length ++ lst p := by
  unfold encS
  rw [hz, Nd.encHi_small (by omega), encL_small fun n hn => by have := (lst_mem.1 hn).2.1; omega]
theorem row_slice {W : World} {B n : Nat} {v : Value} {xs : List Value} (h : W.ownsRow B 5 1 v n xs) : ∃ A c, v = .slice A n c := by
  obtain ⟨_, ⟨rfl, rfl⟩ | ⟨g, cap, cur, rfl, _⟩⟩ := h
  · exact ⟨none, 0, rfl⟩
  · exact ⟨_, cap, rfl⟩
/-- An append's row, and what lies below. -/
theorem made_grown {W w w' : World} {v v' : Value} {bs cs : List Nat} {n : Nat} (hM : Nd.Made W w v bs) (hg : w.grownBy w' v.ownBlock) (h : w'.ownsRow W.heap.size 5 1 v' (bs.length + n) (u8s bs ++ u8s cs)) (hn : cs.length = n) : Nd.Made W w' v' (bs ++ cs) := by
  refine ⟨?_, hM.2.trans (Nd.grown_below hM.1 hg hM.2.size)⟩
  · rw [u8s_app, List.length_append, hn]; exact h
theorem made_next {W w w' : World} {v : Value} {bs : List Nat} (hM : Nd.Made W w v bs) (hb : Below w.heap.size w w') : Nd.Made W w' v bs := ⟨Nd.own_next hM.1 hb hM.2.size, hM.2.trans (hb.mono hM.2.size)⟩
section
variable (W : World) {B d : Nat} {x : PS}
set_option maxRecDepth 20000 in
set_option maxHeartbeats 8000000 in
theorem rput_any (h : RP W B d x) (hx : x.Ok) : Calls Try.prog 16 #[.pointer (some ⟨d, 0, none⟩)] W fun e W' => ∃ v, e = .returned v ∧ Nd.Made W W' v (encPS x) := by
  have HR := Lib.hid h
  have HX := Lib.hid hx
  have c0 := h.c0
  obtain ⟨n, hn⟩ : ∃ n : Nat, x.n = (n : Nat) := ⟨x.n.toNat, by have := hx.n1; omega⟩
  rw [hn] at c0
  have HN := Lib.hid (show x.n = (n : Nat) ∧ x.n.toNat = n ∧ n ≤ 12 from ⟨hn, by omega, by have := hx.n2; omega⟩)
  have e1 : IntKind.u64.wrap ((n : Nat) : Int) = (n : Nat) := by rw [IntKind.wrap_u64]; have := hx.n2; omega
  have HNU := Lib.hid (Nd.rfnum_any n W (by have := hx.n2; omega))
  clear h hx hn
  go_enter Try.func16, Try.ntmps16
  go_upto_region 3 with (go_at_call 40; refine HNU.out.mono ?_; rintro e w1 ⟨v, rfl, hM⟩; have HM1 := Lib.hid hM; clear hM HNU)
  clear c0 e1
  go_loopw [3, 4] (fun v i wr => ∃ j : Nat, j ≤ 12 ∧ i = .int .i64 ((j + 1 : Nat) : Int) ∧ Nd.Made W wr v (enc n ++ encN x j)) (fun _ i _ => 13 - (intOf i).toNat)
  case atStart => exact ⟨0, Nat.zero_le _, rfl, by show Nd.Made W w1 v (enc n ++ []); rw [List.append_nil]; exact HM1.out⟩
  case round =>
    clear HM1
    obtain ⟨j, hj, rfl, hM⟩ := hrel
    have HM := Lib.hid hM
    clear hM
    obtain ⟨jj, hjj⟩ : ∃ jj, jj = j + 1 := ⟨_, rfl⟩
    rw [← hjj]
    by_cases hlt : j < 12
    · have i1 : ((jj : Nat) : Int) < 13 := by omega
      have i4 : ¬ ((jj : Nat) : Int) < 0 := by omega
      have HWR := Lib.hid (Nd.wrap_n jj (jj + 1) rfl (by omega))
      have HJ := Lib.hid (And.intro hjj hlt)
      have hjq : jj - 1 = j := by omega
      have HRW := Lib.hid (HR.out.next (HM.out.2))
      have HOF := Lib.hid (rof_any wr HRW.out HX.out.n0 ((jj : Nat) : Int))
      rw [show ((jj : Nat) : Int) = (j : Int) + 1 by omega, ofL_of HX.out.n0 hlt, ← show ((jj : Nat) : Int) = (j : Int) + 1 by omega] at HOF
      obtain ⟨l, hl⟩ : ∃ l, l = lst (x.pe j) := ⟨_, rfl⟩
      rw [← hl] at HOF
      have HL := Lib.hid (show l.length ≤ 12 ∧ (∀ n ∈ l, n ≤ 12) ∧ l = lst (x.pe j) from ⟨by rw [hl]; exact lst_le _, by rw [hl]; exact fun n hn => (lst_mem.1 hn).2.1, hl⟩)
      obtain ⟨s, hs⟩ : ∃ s : Nat, x.st j = (s : Nat) := ⟨(x.st j).toNat, by have := (HX.out.st j hlt).1; omega⟩
      have HS := Lib.hid (show x.st j = (s : Nat) ∧ (x.st j).toNat = s ∧ s ≤ 3 from ⟨hs, by omega, by have := (HX.out.st j hlt).2; omega⟩)
      have HCS := Lib.hid (fun w (hb : Below wr.heap.size wr w) => (show w.cell? ⟨d, 1 + jj, none⟩ = some (.int .i64 (s : Nat)) from by rw [(HRW.out.next hb).cs (by omega) (by omega), hjq, hs]))
      obtain ⟨bj, hbj⟩ : ∃ bj, bj = enc n ++ encN x j := ⟨_, rfl⟩
      rw [← hbj] at HM
      have HBJ := Lib.hid (show bj = enc n ++ encN x j ∧ bj.length ≤ 10000 from ⟨hbj, by
        rw [hbj, List.length_append]
        have h1 := encN_len HX.out j (by omega)
        have h2 := enc_len n (by have := HN.out.2.2; omega)
        omega⟩)
      clear hj hlt hjj hl hs hbj hjq
      go_upto_region 6 with (go_at_call 12; refine HOF.out.mono ?_; rintro e w2 ⟨v2, rfl, hN, hb⟩; have HNd := Lib.hid hN; have HM2 := Lib.hid (made_next HM.out hb); have hcs := HCS.out w2 hb; clear hN hb HOF)
      obtain ⟨A, c, hv⟩ := HNd.out.shape
      subst hv
      obtain ⟨A0, cap0, hv⟩ := row_slice HM2.out.1
      subst hv
      have e1 : IntKind.u8.wrap ((s : Nat) : Int) = (s : Nat) := by rw [IntKind.wrap_u8]; have := HS.out.2.2; omega
      obtain ⟨ln, hln⟩ : ∃ ln, ln = l.length := ⟨_, rfl⟩
      rw [← hln] at HNd
      (try rw [← hln])
      have HLN := Lib.hid (show ln = l.length ∧ ln ≤ 12 from ⟨hln, by rw [hln]; exact HL.out.1⟩)
      have e2 : IntKind.u64.wrap ((ln : Nat) : Int) = (ln : Nat) := by rw [IntKind.wrap_u64]; have := HLN.out.2; omega
      clear hln HM HCS
      have b3 := (Below.refl w2.heap.size w2).alloc (Nat.le_refl _) (.cells #[.int .u8 ((s : Nat) : Int)] 5)
      have HM3 := Lib.hid (made_next HM2.out b3)
      have HNd3 := Lib.hid (HNd.out.next b3)
      have HS3 := Lib.hid (Nd.lit_src (w := w2) (bs := [s]) (C := #[.int .u8 ((s : Nat) : Int)]) (z := (0, 0)) rfl)
      clear b3 HM2 HNd
      obtain ⟨en, hen⟩ : ∃ en, en = enc ln := ⟨_, rfl⟩
      have HEN := Lib.hid (show en = enc ln ∧ en.length ≤ 10 from ⟨hen, by rw [hen]; exact enc_len ln (by have := HLN.out.2; omega)⟩)
      obtain ⟨lj, hlj⟩ : ∃ lj, lj = bj.length := ⟨_, rfl⟩
      have HLJ := Lib.hid hlj
      have HOW3 := Lib.hid (show (w2.alloc (.cells #[.int .u8 ((s : Nat) : Int)] 5)).ownsRow W.heap.size 5 1 (.slice A0 lj cap0) lj (u8s bj) by rw [hlj]; exact HM3.out.1)
      rw [← hlj] at HM3
      (try rw [← hlj])
      clear hen hlj
      go_upto_region 8 with (first | (at_builtin; refine wpList_append_u8 _ rfl _ _ rfl W.heap.size v5 (lj + 1) (u8s bj ++ u8s [s]) rfl HOW5.out A6 en.length c6 (u8s en) rfl (u8s_len _) HSR6.out (u8s_one _) (by have := HBJ.out.2; have := HLJ.out; have := HEN.out.2; omega) HSZ6.out ?_; intro v7 w7 hown7 hgrow7 _; have HM7 := Lib.hid (show Nd.Made W w7 v7 (bj ++ [s] ++ en) from made_grown (n := en.length) HM6.out hgrow7 (by rw [u8s_app, List.length_append, ← HLJ.out]; exact hown7) rfl); have HNd7 := Lib.hid (Nd.nds_grown HNd6.out HOW5.out hgrow7); clear hown7 hgrow7) | (at_builtin; refine wpList_append_u8 _ rfl _ _ rfl W.heap.size _ lj (u8s bj) rfl HOW3.out (some ⟨w2.heap.size, 0, none⟩) 1 1 (u8s [s]) rfl rfl HS3.out (u8s_one _) (by have := HBJ.out.2; have := HLJ.out; omega) HM3.out.2.size ?_; intro v5 w5 hown5 hgrow5 _; have HM5 := Lib.hid (show Nd.Made W w5 v5 (bj ++ [s]) from made_grown (n := 1) (cs := [s]) (by have h := HM3.out; exact h) hgrow5 (by rw [← HLJ.out]; exact hown5) rfl); have HNd5 := Lib.hid (Nd.nds_grown HNd3.out HOW3.out hgrow5); have HNU2 := Lib.hid (Nd.rfnum_any ln w5 (by have := HLN.out.2; omega)); rw [← HEN.out.1] at HNU2; clear hown5 hgrow5) | (go_at_call 40; refine HNU2.out.mono ?_; rintro e w6 ⟨v6, rfl, hM⟩; obtain ⟨A6, c6, rfl, hsr⟩ := Nd.src_own hM.1; have HSR6 := Lib.hid hsr; have HM6 := Lib.hid (made_next HM5.out hM.2); have HNd6 := Lib.hid (HNd5.out.next hM.2); have HSZ6 := Lib.hid HM6.out.2.size; have HOW5 := Lib.hid (show w6.ownsRow W.heap.size 5 1 v5 (lj + 1) (u8s bj ++ u8s [s]) from by have h := HM6.out.1; rw [u8s_app, List.length_append, ← HLJ.out] at h; exact h); clear hM hsr HNU2))
      clear e1 e2 hcs
      obtain ⟨b0, hb0⟩ : ∃ b0, b0 = wr.heap.size := ⟨_, rfl⟩
      rw [← hb0] at HNd7
      clear hb0 HOW3 HM3 HNd3 HS3 HM5 HNd5 HSR6 HM6 HNd6 HSZ6 HOW5 HRW
      go_loopw [3, 6] (fun v i wy => ∃ k : Nat, k ≤ ln ∧ i = .int .i64 k ∧ Nd.Made W wy v (bj ++ [s] ++ en ++ l.take k) ∧ Nd.Nds wy b0 (.slice A ln c) l) (fun _ i _ => ln - (intOf i).toNat)
      case atStart => exact ⟨0, Nat.zero_le _, rfl, by rw [List.take_zero, List.append_nil]; exact HM7.out, HNd7.out⟩
      case round =>
        clear HM7 HNd7
        obtain ⟨k, hk, rfl, hM, hNN⟩ := hrel
        have HM8 := Lib.hid hM
        have HN8 := Lib.hid hNN
        clear hM hNN
        by_cases hkl : k < ln
        · have i5 : (k : Int) < (ln : Nat) := by omega
          have i6 : ¬ (k : Int) < 0 := by omega
          obtain ⟨kk, hkk⟩ : ∃ kk, kk = k + 1 := ⟨_, rfl⟩
          have HWK := Lib.hid (Nd.wrap_n k kk hkk (by have := HLN.out.2; omega))
          have HK := Lib.hid (And.intro hkk hkl)
          obtain ⟨m, hm⟩ : ∃ m, l[k]? = some m := ⟨_, List.getElem?_eq_getElem (by have := HLN.out.1; omega)⟩
          have HME := Lib.hid (show l[k]? = some m ∧ m ≤ 12 from ⟨hm, HL.out.2.1 m (List.mem_of_getElem? hm)⟩)
          obtain ⟨q, qo, qc, ev, hq, hcc⟩ := HN8.out.at_ hm
          simp only [Value.slice.injEq] at ev
          obtain ⟨rfl, -, -⟩ := ev
          have e1 : IntKind.u8.wrap ((m : Nat) : Int) = (m : Nat) := by rw [IntKind.wrap_u8]; have := HME.out.2; omega
          obtain ⟨A1, cap1, hv⟩ := row_slice HM8.out.1
          subst hv
          obtain ⟨bk, hbk⟩ : ∃ bk, bk = bj ++ [s] ++ en ++ l.take k := ⟨_, rfl⟩
          rw [← hbk] at HM8
          (try rw [← hbk])
          have HBK := Lib.hid (show bk = bj ++ [s] ++ en ++ l.take k ∧ bk.length ≤ 20000 from ⟨hbk, by
            rw [hbk, List.length_append, List.length_append, List.length_append, List.length_take]
            have := HBJ.out.2
            have := HEN.out.2
            have := HLN.out.2
            simp
            omega⟩)
          obtain ⟨lk, hlk⟩ : ∃ lk, lk = bk.length := ⟨_, rfl⟩
          have HLK := Lib.hid hlk
          have b9 := (Below.refl wr.heap.size wr).alloc (Nat.le_refl _) (.cells #[.int .u8 ((m : Nat) : Int)] 5)
          have HM9 := Lib.hid (made_next HM8.out b9)
          have HN9 := Lib.hid (HN8.out.next b9)
          have HS9 := Lib.hid (Nd.lit_src (w := wr) (bs := [m]) (C := #[.int .u8 ((m : Nat) : Int)]) (z := (0, 0)) rfl)
          have HOW9 := Lib.hid (show (wr.alloc (.cells #[.int .u8 ((m : Nat) : Int)] 5)).ownsRow W.heap.size 5 1 (.slice A1 lk cap1) lk (u8s bk) by rw [hlk]; exact HM9.out.1)
          rw [← hlk] at HM9
          (try rw [← hlk])
          clear hk hkl hkk hm hq hbk b9 hlk HM8 HN8
          go_upto_region 9 with (at_builtin; refine wpList_append_u8 _ rfl _ _ rfl W.heap.size _ lk (u8s bk) rfl HOW9.out (some ⟨wr.heap.size, 0, none⟩) 1 1 (u8s [m]) rfl rfl HS9.out (u8s_one _) (by have := HBK.out.2; have := HLK.out; omega) HM9.out.2.size ?_; intro v10 w10 hown10 hgrow10 _; have HM10 := Lib.hid (show Nd.Made W w10 v10 (bk ++ [m]) from made_grown (n := 1) (cs := [m]) (by have h := HM9.out; exact h) hgrow10 (by rw [← HLK.out]; exact hown10) rfl); have HN10 := Lib.hid (Nd.nds_grown HN9.out HOW9.out hgrow10); clear hown10 hgrow10)
          clear e1 i5 i6 hcc
          go_wp2_with fail
          (try rw [HWK.out])
          go_roundw
          case rel => exact ⟨kk, by have := HK.out; omega, by first | rfl | simp [HK.out.1], by
            have h := HM10.out
            rw [HBK.out.1] at h
            rw [HK.out.1, List.take_add_one, HME.out.1, ← List.append_assoc]
            exact h, HN10.out⟩
          case measure => have := HK.out; simp [intOf]; omega
        · have i5 : ¬ (k : Int) < (ln : Nat) := by omega
          have hkn : k = ln := by omega
          subst hkn
          clear hk hkl
          go_upto_region 4 with fail
          clear i5 i1 i4
          go_wp2_with fail
          (try rw [HWR.out])
          go_roundw
          case rel => exact ⟨jj, by have := HJ.out; omega, by first | rfl | simp, by
            have h := HM8.out
            rw [show l.take k = l by rw [HLN.out.1]; exact List.take_length] at h
            rw [HJ.out.1, encN_succ, ← List.append_assoc, ← HBJ.out.1, encS_small HS.out.2.1 HS.out.2.2, ← HL.out.2.2, ← HLN.out.1, ← HEN.out.1, ← List.append_assoc, ← List.append_assoc]
            exact h⟩
          case measure => have := HJ.out; simp [intOf]; omega
    · have i1 : ¬ ((jj : Nat) : Int) < 13 := by omega
      have hj12 : j = 12 := by omega
      subst hj12
      clear hj hlt hjj
      go_wp2_with fail
      go_ret
      refine ⟨_, rfl, ?_⟩
      unfold encPS
      rw [HN.out.2.1]
      exact HM.out
end
end Pe
end Go.Proofs.Ytlceljcplmcjgaa
