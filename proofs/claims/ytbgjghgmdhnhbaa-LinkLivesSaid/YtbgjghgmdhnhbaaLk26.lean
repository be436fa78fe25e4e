/-
link: LinkLives' walk.
-/
import Derived.Test.YtbgjghgmdhnhbaaLk25
import Derived.Deep.CutBlock
namespace Go.Proofs.Ytbgjghgmdhnhbaa
open Go.RowKit
set_option linter.unusedSimpArgs false
set_option linter.unusedVariables false
namespace Lk
theorem live_wraps (n a t z N1 T1 : Nat) (h1 : a ≤ n) (h2 : n ≤ 300) (h3 : t ≤ 300) (hz : z = n - a) (hN : N1 = n + 1) (hT : T1 = t + 1) :
    wrap64 ((n : Int) - (a : Int)) = (z : Nat) ∧ IntKind.i64.wrap ((n : Int) - (a : Int)) = (z : Nat) ∧ IntKind.u64.wrap (n : Int) = (n : Nat) ∧ IntKind.u64.wrap ((n : Int) + 1) = (N1 : Nat) ∧ IntKind.u64.wrap (t : Int) = (t : Nat) ∧ IntKind.u64.wrap ((t : Int) + 1) = (T1 : Nat) ∧ True := by
  refine ⟨by unfold wrap64; omega, by rw [IntKind.wrap_i64]; omega, by rw [IntKind.wrap_u64]; omega, by rw [IntKind.wrap_u64]; omega, by rw [IntKind.wrap_u64]; omega, by rw [IntKind.wrap_u64]; omega, trivial⟩
theorem live_wraps2 (a k p P1 : Nat) (h : p ≤ 400) (hp : p = a + k) (hP : P1 = p + 1) :
    wrap64 ((a : Int) + (k : Int)) = (p : Nat) ∧ IntKind.i64.wrap ((a : Int) + (k : Int)) = (p : Nat) ∧ wrap64 ((p : Int) + 1) = (P1 : Nat) ∧ IntKind.i64.wrap ((p : Int) + 1) = (P1 : Nat) ∧ IntKind.u64.wrap (P1 : Int) = (P1 : Nat) := by
  refine ⟨by unfold wrap64; omega, by rw [IntKind.wrap_i64]; omega, by unfold wrap64; omega, by rw [IntKind.wrap_i64]; omega, by rw [IntKind.wrap_u64]; omega⟩
theorem row_item {w : World} {B : Nat} {A : Option Addr} {M : List It} (h : RowI w (fun k => B ≤ k ∧ k < w.heap.size) A M) {k : Nat} {x : It} (hx : M[k]? = some x) : ∃ g o, A = some ⟨g, o, none⟩ ∧ g < w.heap.size ∧ w.cell? ⟨g, o + k * 2, none⟩ = some (.int .u64 (x.q : Nat)) ∧ w.cell? ⟨g, o + k * 2 + 1, none⟩ = some (.slice x.A x.bs.length x.c) := by
  rcases h with ⟨_, h0⟩ | ⟨g, o, cs, z, e, hF, _, hc⟩
  · rw [h0] at hx; simp at hx
  · refine ⟨g, o, e, hF.2, ?_, ?_⟩
    · have := hc k x hx 0 _ it_0; rwa [Nat.add_zero, Nat.mul_comm] at this
    · have := hc k x hx 1 _ it_1; rwa [Nat.mul_comm] at this
theorem ext_rs (s : RS) : s.ls = s.ls := rfl
set_option maxHeartbeats 16000000 in
set_option maxRecDepth 20000 in
theorem lives_walk (W : World) (A1 : Option Addr) (n1 c1 : Nat) (l1 : List Do) (hl1 : l1.length = n1) (hr1 : RowsOf Do.cells 3 W A1 l1) (ho1 : ∀ x ∈ l1, x.Ok W) (hq1 : ∀ x ∈ l1, x.q < 18446744073709551616) :
    Calls Try.prog 4 #[.slice A1 n1 c1] W fun e W' => e = .returned (.bool true) ∧ Below W.heap.size W W' := by
  have HN0 := Lib.hid (new_any W)
  have HL1 := Lib.hid hl1
  have HR1 := Lib.hid hr1
  have HO1 := Lib.hid ho1
  have HQ1 := Lib.hid hq1
  clear hl1 hr1 ho1 hq1
  go_enter Try.func4, Try.ntmps4
  go_upto_region 3 with (first | (go_at_call 13; refine HN0.out.mono ?_; rintro e w1 ⟨rfl, hK, hb, hz⟩; have H1 := Lib.hid (And.intro hK (And.intro hb hz)); clear hK hb hz HN0))
  obtain ⟨w2, hw2⟩ : ∃ w2, w2 = w1.alloc (.cells #[.slice none 0 0, .int .i64 0, .int .i64 0] 41) := ⟨_, rfl⟩
  have hb2 : Below w1.heap.size w1 w2 := by rw [hw2]; exact (Below.refl _ _).alloc (Nat.le_refl _) _
  have hx2 : Blk w2 w1.heap.size 41 #[.slice none 0 0, .int .i64 0, .int .i64 0] := by rw [hw2]; exact Blk.new _ _ _
  have hz2 : w2.heap.size = w1.heap.size + 1 := by rw [hw2]; simp
  rw [← hw2]
  have HJ2 := Lib.hid (show Jn W w2 W.heap.size w1.heap.size (RS.ls ⟨[], 0, 0⟩) ⟨[], 0, 0⟩ (.slice none 0 0) from
    ⟨_, H1.out.1.next hb2, ⟨⟨H1.out.2.1.size, by omega⟩, hx2, World.ownsRow_nil _ _ _ _, Nat.le_refl _, by simp, by decide⟩, by have := H1.out.2.2; show ¬ w1.heap.size = W.heap.size; omega, fun k hk => by simp [Value.ownBlock] at hk, H1.out.2.1.trans (hb2.mono H1.out.2.1.size)⟩)
  obtain ⟨r, hr⟩ : ∃ r, r = w1.heap.size := ⟨_, rfl⟩
  rw [← hr] at HJ2 ⊢
  clear hw2 hb2 hx2 hz2 H1 hr
  go_loopw [5] (fun i wr => ∃ j : Nat, j ≤ 300 ∧ i = .int .i64 j ∧ ∃ s v, s.all.length ≤ j ∧ s.t ≤ j ∧ Jn W wr W.heap.size r s.ls s v) (fun i _ => 300 - (intOf i).toNat)
  case atStart => exact ⟨0, by omega, rfl, ⟨[], 0, 0⟩, _, Nat.le_refl _, Nat.le_refl _, HJ2.out⟩
  case round =>
    clear HJ2
    obtain ⟨j, hj, rfl, s, v, hsj, htj, hA⟩ := hrel
    have HJ := Lib.hid hA
    have HSJ := Lib.hid (And.intro hsj htj)
    clear hA hsj htj
    by_cases hjl : j < n1 ∧ j < 300
    · obtain ⟨x, hx⟩ : ∃ x, l1[j]? = some x := ⟨_, List.getElem?_eq_getElem (by rw [HL1.out]; exact hjl.1)⟩
      have i1 : (j : Int) < (n1 : Nat) := by omega
      have i2 : (j : Int) < 300 := by omega
      have i3 : ¬ (j : Int) < 0 := by omega
      obtain ⟨b, o, rfl, hbl, hrx⟩ := do_row HR1.out HJ.out.b hx
      have hxk := (HO1.out x (List.mem_of_getElem? hx)).next HJ.out.b
      have HX := Lib.hid hxk
      have HXM := Lib.hid (List.mem_of_getElem? hx)
      have HXQ := Lib.hid (HQ1.out x (List.mem_of_getElem? hx))
      have HJL := Lib.hid hjl
      clear hx hxk hjl hj
      go_upto_region 6 with (first | (refine wpList_load_mid rfl 43 _ rfl _ _ rfl x.cells _ hrx Try.underlying43 rfl (doinfo x) ?_) | (refine wpList_store_blk rfl 43 _ _ rfl wr.heap.size 43 #[.int .i64 0, .int .u64 0, .slice none 0 0] x.cells.toArray rfl rfl (Blk.new wr _ _) (doinfoA x) (do_siz x) (do_onec x) ?_; intro b5; clear b5))
      rw [Wr.alloc_setRow]
      obtain ⟨w2, hw2⟩ : ∃ w2, w2 = wr.alloc (.cells x.cells.toArray 43) := ⟨_, rfl⟩
      have hxb : Blk w2 wr.heap.size 43 x.cells.toArray := by rw [hw2]; exact Blk.new _ _ _
      have hb2 : Below wr.heap.size wr w2 := by rw [hw2]; exact (Below.refl _ _).alloc (Nat.le_refl _) _
      rw [← hw2]
      have HJ2 := Lib.hid (HJ.out.next hb2)
      have HB2 := Lib.hid hb2
      have hgl : wr.heap.size ≤ wr.heap.size ∧ wr.heap.size < w2.heap.size := ⟨Nat.le_refl _, hxb.lt⟩
      have HX2 := Lib.hid (HX.out.next hb2)
      have HBX := Lib.hid hxb
      obtain ⟨gx, hgx⟩ : ∃ gx, gx = wr.heap.size := ⟨_, rfl⟩
      have HGX := Lib.hid (show wr.heap.size ≤ gx ∧ gx < w2.heap.size by rw [hgx]; exact hgl)
      rw [← hgx] at HBX hxb ⊢
      have q2 : w2.cell? ⟨gx, 2, none⟩ = some (.slice x.A x.bs.length x.c) := hxb.cell 2
      clear hw2 hb2 hrx HX hgx hxb hgl i1 i2 i3
      by_cases hbig : (1810 : Int) < (x.bs.length : Nat)
      · have HAL := Lib.hid (alive_any w2)
        go_wp2_with (first | (go_at_call 14; refine HAL.out.mono ?_; rintro e w3 ⟨rfl, hb⟩; have HB3 := Lib.hid hb; clear hb))
        go_ret
        exact ⟨rfl, HJ2.out.b.trans (HB3.out.mono HJ2.out.b.size)⟩
      · have q0 : w2.cell? ⟨gx, 0, none⟩ = some (.int .i64 x.k) := HBX.out.cell 0
        have q1 : w2.cell? ⟨gx, 1, none⟩ = some (.int .u64 (x.q : Nat)) := HBX.out.cell 1
        obtain ⟨kk, hkk⟩ : ∃ kk, kk = x.k := ⟨_, rfl⟩
        rw [← hkk] at q0
        clear hkk
        go_upto_block 2 with fail
        go_cut [7] from 52 to 126 (fun v7 wx => v7 = .bool true ∧ ∃ s5 v5, s5.all.length ≤ j + 1 ∧ s5.t ≤ j + 1 ∧ Jn W wx W.heap.size r s5.ls s5 v5)
        case first =>
          by_cases h0 : kk = 0
          · subst h0
            have HS := Lib.hid (HJ.out.send HB2.out HGX.out x.A x.bs.length x.c x.bs rfl HX2.out.src HX2.out.h256)
            obtain ⟨m, hm⟩ : ∃ m, m = x.bs.length := ⟨_, rfl⟩
            rw [← hm] at HS q2 hbig
            have HMM := Lib.hid hm
            clear hm
            go_upto_region 12 with (first | (go_at_call 15; refine HS.out.mono ?_; rintro e w3 ⟨rfl, h, hk⟩; have H3 := Lib.hid h; have HX3 := Lib.hid (show Blk w3 gx 43 x.cells.toArray from hk.trans HBX.out); clear h hk HS))
            clear q0 q1 hbig q2
            have q2x : w3.cell? ⟨gx, 2, none⟩ = some (.slice x.A m x.c) := by rw [HMM.out]; exact HX3.out.cell 2
            have hcv : (convert 23 9 (.slice x.A m x.c)).run Try.prog w3 = .ok (.string (Byt.bstr x.bs)) w3 := by rw [HMM.out]; exact Byt.conv_src w3 x.A _ x.c x.bs ((HO1.out x HXM.out).next H3.out.b).src rfl HX2.out.h256
            have HRS := Lib.hid (rsend_any w3 H3.out.rf x.bs HX2.out.h256 (by have := HSJ.out; have := HJL.out; omega))
            rw [← HMM.out] at HRS
            obtain ⟨sn, hsn⟩ : ∃ sn, sn = sendN s.ls m := ⟨_, rfl⟩
            obtain ⟨se, hse⟩ : ∃ se, se = sendE s.ls m := ⟨_, rfl⟩
            rw [← hsn, ← hse] at HRS ⊢
            clear hsn hse
            go_wp2_with (first | (go_at_call 16; refine HRS.out.mono ?_; rintro e w5 ⟨rfl, s5, v5, hls, hle, hte, hrf, htu⟩; have HJ5 := Lib.hid (show Jn W w5 W.heap.size r s5.ls s5 v5 from by rw [hls]; exact H3.out.rturn hrf htu); have HB5 := Lib.hid (And.intro hle hte); clear hls hle hte hrf htu HRS))
            go_meet
            exact ⟨rfl, s5, v5, by have := HB5.out; have := HSJ.out; omega, by have := HB5.out; have := HSJ.out; omega, HJ5.out⟩
          by_cases h1 : kk = 1
          · subst h1
            have HS := Lib.hid (HJ.out.ack HB2.out HGX.out x.q)
            obtain ⟨ar, har⟩ : ∃ z, z = ackR s.ls x.q := ⟨_, rfl⟩
            obtain ⟨ae, hae⟩ : ∃ z, z = ackE s.ls x.q := ⟨_, rfl⟩
            have HRR := Lib.hid (fun w3 (h : Jn W w3 W.heap.size r (s.ls.ack x.q) s v) => rack_any w3 h.rf x.q)
            rw [← har, ← hae] at HS HRR
            clear har hae
            go_upto_region 16 with (first | (go_at_call 17; refine HS.out.mono ?_; rintro e w3 ⟨rfl, h, hk⟩; have H3 := Lib.hid h; have HX3 := Lib.hid (show Blk w3 gx 43 x.cells.toArray from hk.trans HBX.out); clear h hk HS))
            clear q0 q1 q2 hbig
            have q1x : w3.cell? ⟨gx, 1, none⟩ = some (.int .u64 (x.q : Nat)) := HX3.out.cell 1
            have HRS := Lib.hid (HRR.out w3 H3.out)
            go_wp2_with (first | (go_at_call 18; refine HRS.out.mono ?_; rintro e w5 ⟨rfl, s5, hls, hle, hte, hrf, htu⟩; have HJ5 := Lib.hid (show Jn W w5 W.heap.size r s5.ls s5 v from by rw [hls]; exact H3.out.rturn hrf htu); have HB5 := Lib.hid (And.intro hle hte); clear hls hle hte hrf htu HRS))
            go_meet
            exact ⟨rfl, s5, v, by have := HB5.out; have := HSJ.out; omega, by have := HB5.out; have := HSJ.out; omega, HJ5.out⟩
          by_cases h2 : kk = 2
          · subst h2
            have HS := Lib.hid (HJ.out.take HB2.out HGX.out x.q)
            obtain ⟨tb, htb⟩ : ∃ z, z = (takeE s.ls x.q).1 := ⟨_, rfl⟩
            obtain ⟨te, hte⟩ : ∃ z, z = (takeE s.ls x.q).2 := ⟨_, rfl⟩
            have HRR := Lib.hid (fun w3 (h : Jn W w3 W.heap.size r (s.ls.take x.q) s v) => rtake_any w3 h.rf x.q HXQ.out (by have := HSJ.out; have := HJL.out; omega))
            rw [← htb, ← hte] at HS HRR
            clear htb hte
            go_upto_region 20 with (first | (go_at_call 19; refine HS.out.mono ?_; rintro e w3 ⟨rfl, h, hk⟩; have H3 := Lib.hid h; have HX3 := Lib.hid (show Blk w3 gx 43 x.cells.toArray from hk.trans HBX.out); clear h hk HS))
            clear q0 q1 q2 hbig
            have q1x : w3.cell? ⟨gx, 1, none⟩ = some (.int .u64 (x.q : Nat)) := HX3.out.cell 1
            have HRS := Lib.hid (HRR.out w3 H3.out)
            go_wp2_with (first | (go_at_call 20; refine HRS.out.mono ?_; rintro e w5 ⟨rfl, s5, hls, hle, hte, hrf, htu⟩; have HJ5 := Lib.hid (show Jn W w5 W.heap.size r s5.ls s5 v from by rw [hls]; exact H3.out.rturn hrf htu); have HB5 := Lib.hid (And.intro hle hte); clear hls hle hte hrf htu HRS))
            go_meet
            exact ⟨rfl, s5, v, by have := HB5.out; have := HSJ.out; omega, by have := HB5.out; have := HSJ.out; omega, HJ5.out⟩
          · have g0 : (kk == 0) = false := by simpa using h0
            have g1 : (kk == 1) = false := by simpa using h1
            have g2 : (kk == 2) = false := by simpa using h2
            clear h0 h1 h2
            go_wp2_with fail
            go_meet
            exact ⟨rfl, s, v, by have := HSJ.out; omega, by have := HSJ.out; omega, HJ2.out⟩
        case rest =>
          clear q0 q1 q2 hbig
          obtain ⟨rfl, s5, v5, hle5, hte5, hJ5⟩ := hcut
          have HJ5 := Lib.hid hJ5
          have HB5 := Lib.hid (And.intro hle5 hte5)
          clear hle5 hte5 hJ5 HJ2 HX2 HBX HB2 HGX HJ HSJ
          obtain ⟨w5, hw5⟩ : ∃ w5, w5 = wc := ⟨_, rfl⟩
          rw [← hw5] at HJ5 ⊢
          clear hw5
          -- HJ5 : Jn W w5 W.heap.size r s5.ls s5 v5; HB5 : s5.all.length ≤ j + 1 ∧ s5.t ≤ j + 1
          have HQ := Lib.hid (show Calls Try.prog 21 #[.pointer (some ⟨W.heap.size, 0, none⟩)] w5 fun e w' => QueueP s5.ls w5 e w' from by obtain ⟨F, hF⟩ := HJ5.out.lk; exact queue_any w5 hF)
          go_upto_region 23 with (first | (go_at_call 21; refine HQ.out.mono ?_; rintro e w6 ⟨hb, Aq, cq, M, rfl, hcq, hrow, hat, hts, -, -, -, hsq⟩; have HM := Lib.hid (And.intro hrow (And.intro hat (And.intro hts (And.intro hsq (And.intro hb hcq))))); have HJ6 := Lib.hid (HJ5.out.next hb); clear hb hcq hrow hat hts hsq HQ))
          clear HJ5
          obtain ⟨A6, c6, hv6⟩ := HJ6.out.rf.vs
          subst hv6
          obtain ⟨n, hnn⟩ : ∃ n, n = s5.all.length := ⟨_, rfl⟩
          have HN := Lib.hid hnn
          obtain ⟨z, hz⟩ : ∃ z, z = n - s5.a := ⟨_, rfl⟩
          have HZ := Lib.hid hz
          have HA := Lib.hid (show s5.a ≤ n ∧ n ≤ 300 ∧ s5.t ≤ 300 by rw [hnn]; exact ⟨HJ6.out.rf.al, HJ6.out.rf.le⟩)
          have hml : M.length = z := by
            have h1 := congrArg List.length HM.out.2.2.1
            rw [List.length_map] at h1
            rw [h1, hz, hnn]
            exact List.length_drop
          have HML := Lib.hid hml
          rw [hml]
          rw [← hnn] at HJ6
          clear hml hz hnn
          obtain ⟨N1, hN1⟩ : ∃ N1, N1 = n + 1 := ⟨_, rfl⟩
          obtain ⟨T1, hT1⟩ : ∃ T1, T1 = s5.t + 1 := ⟨_, rfl⟩
          have HNT := Lib.hid (And.intro hN1 hT1)
          have HW6 := Lib.hid (live_wraps n s5.a s5.t z N1 T1 HA.out.1 HA.out.2.1 HA.out.2.2 HZ.out hN1 hT1)
          have HNX := Lib.hid (show ∀ w, Below w6.heap.size w6 w → Calls Try.prog 22 #[.pointer (some ⟨W.heap.size, 0, none⟩)] w fun e w' => e = .returned (.int .u64 (N1 : Nat)) ∧ w = w' from fun w hb => by
            obtain ⟨F, hF⟩ := (HJ6.out.next hb).lk
            have h := next_any w hF
            rw [show s5.ls.nx = N1 by rw [hN1, HN.out]; rfl] at h
            exact h)
          have HEX := Lib.hid (show ∀ w, Below w6.heap.size w6 w → Calls Try.prog 23 #[.pointer (some ⟨W.heap.size, 0, none⟩)] w fun e w' => e = .returned (.int .u64 (T1 : Nat)) ∧ w = w' from fun w hb => by
            obtain ⟨F, hF⟩ := (HJ6.out.next hb).lk
            have h := expect_any w hF
            rw [show s5.ls.ex = T1 by rw [hT1]; rfl] at h
            exact h)
          obtain ⟨en, hen⟩ : ∃ en, en = encL s5.ls := ⟨_, rfl⟩
          have HE := Lib.hid (show ∀ y ∈ en, y < 256 by obtain ⟨F, hF⟩ := HJ6.out.lk; rw [hen]; exact hF.ok.h256)
          have HSV := Lib.hid (show ∀ w, Below w6.heap.size w6 w → Calls Try.prog 24 #[.pointer (some ⟨W.heap.size, 0, none⟩)] w fun e w' => e = .returned (.string (Byt.bstr en)) ∧ Below w.heap.size w w' from fun w hb => by
            obtain ⟨F, hF⟩ := (HJ6.out.next hb).lk
            rw [hen]; exact save_any w hF)
          have HPT := Lib.hid (show ∀ w, Below w6.heap.size w6 w → Calls Try.prog 25 #[.pointer (some ⟨r, 0, none⟩)] w fun e w' => ∃ v', e = .returned v' ∧ Made w w' v' en from fun w hb => by
            rw [hen]; exact rput_any w (HJ6.out.next hb).rf)
          clear hN1 hT1 hen
          have HKC := Lib.hid (fun w (hb : Below w6.heap.size w6 w) => (show w.cell? ⟨r, 0, none⟩ = some (.slice A6 n c6) ∧ w.cell? ⟨r, 1, none⟩ = some (.int .i64 (s5.a : Nat)) ∧ w.cell? ⟨r, 2, none⟩ = some (.int .i64 (s5.t : Nat)) from ⟨(HJ6.out.next hb).rf.blk.cell 0, (HJ6.out.next hb).rf.blk.cell 1, (HJ6.out.next hb).rf.blk.cell 2⟩))
          have hcc := HKC.out w6 (Below.refl _ _)
          obtain ⟨f1, f2, f3, f4, f5, f6, f7⟩ := HW6.out
          refine wp_region_tree (S := (fun w' => w'.cell? ⟨r, 0, none⟩ = some (.slice A6 n c6) ∧ w'.cell? ⟨r, 1, none⟩ = some (.int .i64 (s5.a : Nat)) ∧ w'.cell? ⟨r, 2, none⟩ = some (.int .i64 (s5.t : Nat)))) (.take 0 (.take 1 (.take 2 (.take 3 (.take 4 (.take 5 (.take 6 (.take 7 (.take 8 (.take 9 (.take 10 (.take 11 (.take 12 (.take 13 (.take 14 (.take 15 (.take 16 (.take 17 (.take 18 (.take 20 (.take 21 (.take 22 (.take 23 (.take 24 (.take 25 (.take 26 (.one 19 (.take 27 (.take 28 (.take 29 (.take 30 (.take 32 (.take 33 (.take 34 (.take 35 (.take 36 (.take 37 (.one 31 (.take 38 (.take 39 (.take 40 (.take 41 (.take 43 (.one 42 (.one 44 (.one 45 (.take 46 (.take 47 .nil)))))))))))))))))))))))))))))))))))))))))))))))) 9999 (by kernel_rfl) (by kernel_rfl) (by kernel_rfl) (by kernel_rfl) (by kernel_rfl) (fun _ _ d _ _ h => by cases d <;> exact h) hcc (fun hHeld => ?_); simp only [Tree.map, List.getElem?_toArray, List.getElem?_cons_zero, List.getElem?_cons_succ]
          (repeat (first | (refine wpTree.take (v := undef) (Or.inr ⟨by rfl, rfl⟩) ?_; simp only [Act.put, List.setIfInBounds_toArray, List.set_cons_zero, List.set_cons_succ]) | (refine wpTree.take (v := ?_) (Or.inl ⟨by rfl, ?_⟩) ?_; rotate_left; (focus (intro _ hS; (try dsimp only at hS); go_split_ands; (try subst hS); go_simp; (try (with_reducible rfl)); done)); simp only [Act.put, List.setIfInBounds_toArray, List.set_cons_zero, List.set_cons_succ])))
          refine wpTree.one (fun K hK => ?_)
          go_simp
          go_at_call 22
          refine (HNX.out _ (Below.refl _ _).drew).mono ?_
          rintro e wx ⟨rfl, rfl⟩
          refine hK.out _ _ (HKC.out _ (Below.refl _ _).drew) (fun _ => ?_)
          clear hK K hHeld hcc
          (try simp only [Act.put, List.setIfInBounds_toArray, List.set_cons_zero, List.set_cons_succ])
          (repeat (first | (refine wpTree.take (v := undef) (Or.inr ⟨by rfl, rfl⟩) ?_; simp only [Act.put, List.setIfInBounds_toArray, List.set_cons_zero, List.set_cons_succ]) | (refine wpTree.take (v := ?_) (Or.inl ⟨by rfl, ?_⟩) ?_; rotate_left; (focus (intro _ hS; (try dsimp only at hS); go_split_ands; (try subst hS); go_simp; (try (with_reducible rfl)); done)); simp only [Act.put, List.setIfInBounds_toArray, List.set_cons_zero, List.set_cons_succ])))
          refine wpTree.one (fun K hK => ?_)
          go_simp
          go_at_call 23
          refine (HEX.out _ (Below.refl _ _).drew).mono ?_
          rintro e wx ⟨rfl, rfl⟩
          refine hK.out _ _ (HKC.out _ (Below.refl _ _).drew) (fun _ => ?_)
          clear hK K
          (try simp only [Act.put, List.setIfInBounds_toArray, List.set_cons_zero, List.set_cons_succ])
          (repeat (first | (refine wpTree.take (v := undef) (Or.inr ⟨by rfl, rfl⟩) ?_; simp only [Act.put, List.setIfInBounds_toArray, List.set_cons_zero, List.set_cons_succ]) | (refine wpTree.take (v := ?_) (Or.inl ⟨by rfl, ?_⟩) ?_; rotate_left; (focus (intro _ hS; (try dsimp only at hS); go_split_ands; (try subst hS); go_simp; (try (with_reducible rfl)); done)); simp only [Act.put, List.setIfInBounds_toArray, List.set_cons_zero, List.set_cons_succ])))
          clear f1 f2 f3 f4 f5 f6 f7
          refine wpTree.one (fun K hK => ?_)
          go_simp
          go_at_call 24
          refine (HSV.out _ (Below.refl _ _).drew).mono ?_
          rintro e w7 ⟨rfl, hb⟩
          have H7 := Lib.hid ((Below.refl w6.heap.size w6).drew.trans hb)
          refine hK.out _ _ (HKC.out _ H7.out) (fun _ => ?_)
          clear hK K hb
          (try simp only [Act.put, List.setIfInBounds_toArray, List.set_cons_zero, List.set_cons_succ])
          refine wpTree.one (fun K hK => ?_)
          go_simp
          go_at_call 25
          refine (HPT.out _ H7.out).mono ?_
          rintro e w8 ⟨v8, rfl, hM8⟩
          obtain ⟨A8, k8, rfl, hs8⟩ := made_src hM8
          have H8 := Lib.hid (H7.out.trans (hM8.2.mono H7.out.size))
          have hcv := Byt.conv_src w8 A8 en.length k8 en hs8 rfl HE.out
          refine hK.out _ _ (HKC.out _ H8.out) (fun _ => ?_)
          clear hK K hM8 hs8
          (try simp only [Act.put, List.setIfInBounds_toArray, List.set_cons_zero, List.set_cons_succ])
          refine wpTree.one (fun K hK => ?_)
          go_simp
          refine hK.out _ _ (HKC.out _ H8.out) (fun _ => ?_)
          clear hK K hcv HNX HEX HSV HPT H7
          (try simp only [Act.put, List.setIfInBounds_toArray, List.set_cons_zero, List.set_cons_succ])
          (repeat (first | (refine wpTree.take (v := undef) (Or.inr ⟨by rfl, rfl⟩) ?_; simp only [Act.put, List.setIfInBounds_toArray, List.set_cons_zero, List.set_cons_succ]) | (refine wpTree.take (v := ?_) (Or.inl ⟨by rfl, ?_⟩) ?_; rotate_left; (focus (intro _ hS; (try dsimp only at hS); go_split_ands; (try subst hS); go_simp; (try (with_reducible rfl)); done)); simp only [Act.put, List.setIfInBounds_toArray, List.set_cons_zero, List.set_cons_succ])))
          refine wpTree.done ?_
          go_upto_region 26 with fail
          have HJ8 := Lib.hid (HJ6.out.next H8.out)
          have HK8 := Lib.hid (fun w (hb : Below w8.heap.size w8 w) => HKC.out w (H8.out.trans (hb.mono H8.out.size)))
          have HB8 := Lib.hid (HM.out.2.2.2.2.1.trans (H8.out.mono HM.out.2.2.2.2.1.size))
          go_loopw [21] (fun i wx => ∃ k : Nat, k ≤ z ∧ i = .int .i64 k ∧ Below w8.heap.size w8 wx) (fun i _ => z - (intOf i).toNat)
          case atStart => exact ⟨0, Nat.zero_le _, rfl, Below.refl _ _⟩
          case round =>
            obtain ⟨k, hk, rfl, hb⟩ := hrel
            have HB := Lib.hid hb
            clear hb
            have hz300 : z ≤ 300 := by have := HA.out; have := HZ.out; omega
            by_cases hlt : k < z
            · obtain ⟨x, hx⟩ : ∃ x, M[k]? = some x := ⟨_, List.getElem?_eq_getElem (by rw [HML.out]; exact hlt)⟩
              obtain ⟨gq, oq, rfl, hq0, hq1⟩ := row_item HM.out.1 hx
              have hxa := HM.out.2.1 x (List.mem_of_getElem? hx)
              have hxq := HM.out.2.2.2.1 k x hx
              obtain ⟨p, hp⟩ : ∃ p, p = s5.a + k := ⟨_, rfl⟩
              have hall : s5.all[p]? = some x.bs := by
                have h1 : (M.map It.bs)[k]? = some x.bs := by rw [List.getElem?_map, hx]; rfl
                rw [HM.out.2.2.1] at h1
                have h2 : (s5.all.drop s5.a)[k]? = some x.bs := h1
                rw [List.getElem?_drop, ← hp] at h2
                exact h2
              obtain ⟨ga, hga, hcs⟩ := (HJ8.out.next HB.out).rf.at_ hall
              subst hga
              have hd8 : Below w6.heap.size w6 wr := H8.out.trans (HB.out.mono H8.out.size)
              have q0 : wr.cell? ⟨gq, oq + k * 2, none⟩ = some (.int .u64 (x.q : Nat)) := (World.cell?_of_block (hd8.block gq hq0)).trans hq1.1
              have q1 : wr.cell? ⟨gq, oq + k * 2 + 1, none⟩ = some (.slice x.A x.bs.length x.c) := (World.cell?_of_block (hd8.block gq hq0)).trans hq1.2
              obtain ⟨c0, c1, -⟩ := HK8.out wr HB.out
              have hsx : Src wr.drew x.A x.bs.length (u8s x.bs) := (hxa.keep (G := fun _ => True) (fun b hb => ⟨trivial, hd8.drew.block b hb.2⟩)).src
              have hcv := Byt.conv_src wr.drew x.A x.bs.length x.c x.bs hsx rfl hxa.1
              obtain ⟨P1, hP1⟩ : ∃ P1, P1 = p + 1 := ⟨_, rfl⟩
              have hxP : x.q = P1 := by
                rw [HML.out] at hxq
                have h1 : s5.ls.nx = n + 1 := by rw [HN.out]; rfl
                have := HA.out; have := HZ.out
                omega
              rw [hxP] at q0
              have HPW := Lib.hid (live_wraps2 s5.a k p P1 (by have := HA.out; have := HZ.out; omega) hp hP1)
              have hpn : p < n := by have := HA.out; have := HZ.out; omega
              have HP := Lib.hid (And.intro hpn hlt)
              have i1 : (k : Int) < (z : Nat) := by omega
              have i2 : (p : Int) < (n : Nat) := by omega
              have i3 : (0 : Int) ≤ (p : Nat) := by omega
              have i4 : (0 : Int) ≤ (k : Nat) := by omega
              have i5 : ¬ (p : Int) < 0 := by omega
              have i6 : ¬ (k : Int) < 0 := by omega
              obtain ⟨bl, hbl⟩ : ∃ bl, bl = x.bs.length := ⟨_, rfl⟩
              rw [← hbl] at q1 hcv
              clear hx hxa hxq hall hq0 hq1 hsx hxP hpn hd8 hlt hk hp hP1 hbl
              go_upto_region 28 with fail
              obtain ⟨f1, f2, f3, f4, f5⟩ := HPW.out
              refine wp_region_tree (S := (fun w' => w' = wr.drew)) (.take 0 (.take 1 (.take 2 (.take 3 (.take 4 (.take 5 (.take 6 (.take 7 (.take 8 (.take 9 (.take 10 (.take 11 (.take 12 (.take 13 (.take 14 (.take 15 (.take 16 (.take 17 (.take 18 (.take 19 (.take 20 (.take 21 (.take 22 (.take 23 (.take 24 (.take 25 (.take 26 (.take 27 (.take 28 (.take 29 (.take 30 (.take 31 (.take 32 (.take 33 (.take 34 .nil))))))))))))))))))))))))))))))))))) 9999 (by kernel_rfl) (by kernel_rfl) (by kernel_rfl) (by kernel_rfl) (by kernel_rfl) (fun _ _ d _ _ h => by cases d <;> exact h) rfl (fun hHeld => ?_); simp only [Tree.map, List.getElem?_toArray, List.getElem?_cons_zero, List.getElem?_cons_succ]
              (repeat (first | (refine wpTree.take (v := undef) (Or.inr ⟨by rfl, rfl⟩) ?_; simp only [Act.put, List.setIfInBounds_toArray, List.set_cons_zero, List.set_cons_succ]) | (refine wpTree.take (v := ?_) (Or.inl ⟨by rfl, ?_⟩) ?_; rotate_left; (focus (intro _ hS; (try dsimp only at hS); go_split_ands; (try subst hS); go_simp; (try (with_reducible rfl)); done)); simp only [Act.put, List.setIfInBounds_toArray, List.set_cons_zero, List.set_cons_succ])))
              refine wpTree.done ?_
              clear f1 f2 f3 f4 f5 i2 i3 i5 c0 c1 q0 q1 hcv
              go_wp2_with fail
              go_roundw
              case rel => exact ⟨k + 1, by have := HP.out; omega, by go_num, HB.out.drew⟩
              case measure => have := HP.out; simp [intOf]; omega
            · have i1 : ¬ (k : Int) < (z : Nat) := by omega
              have HJ9 := Lib.hid (HJ8.out.next HB.out)
              have hj300 : j < 300 := HJL.out.2
              clear hlt hk HJ8 HK8 HKC HM HML HNT HW6 HE
              go_wp2_with fail
              go_roundw
              case rel => exact ⟨j + 1, by have := HJL.out; omega, by go_num, s5, _, by have := HB5.out; omega, by have := HB5.out; omega, HJ9.out⟩
              case measure => have := HJL.out; simp [intOf]; omega
    · have hor : ¬ (j : Int) < (n1 : Nat) ∨ ((j : Int) < (n1 : Nat) ∧ ¬ (j : Int) < 300) := by omega
      have HBW := Lib.hid HJ.out.b
      have hs0 : (Byt.bstr []).size = 0 := Byt.bstr_size []
      have HS0 := Lib.hid hs0
      clear hjl hj HJ HSJ hs0
      rcases hor with i1 | ⟨i1, i2⟩
      all_goals
        go_upto_region 32 with fail
        (try clear i1)
        (try clear i2)
        obtain ⟨w1, hw1⟩ : ∃ w1, w1 = wr.alloc (.cells #[.int .u64 0, .slice none 0 0, .int .u64 0] 59) := ⟨_, rfl⟩
        have hx1 : Blk w1 wr.heap.size 59 #[.int .u64 0, .slice none 0 0, .int .u64 0] := by rw [hw1]; exact Blk.new _ _ _
        have hb1 : Below wr.heap.size wr w1 := by rw [hw1]; exact (Below.refl _ _).alloc (Nat.le_refl _) _
        rw [← hw1]
        have HX1 := Lib.hid hx1
        have HB1 := Lib.hid hb1
        obtain ⟨gz, hgz⟩ : ∃ gz, gz = wr.heap.size := ⟨_, rfl⟩
        rw [← hgz] at HX1 ⊢
        clear hw1 hx1 hb1 hgz
        have HMZ := Lib.hid (fun w (hb : Below w1.heap.size w1 w) => (show Calls Try.prog 42 #[.pointer (some ⟨gz, 0, none⟩)] w fun e w' => e = .returned (.bool false) ∧ w = w' from made_of w (n := 0) ((HX1.out.next hb).cell 0)))
        have hb2 := (Below.refl w1.heap.size w1).alloc (Nat.le_refl _) (.cells #[.int .u8 1] 5)
        have HB2 := Lib.hid hb2
        clear hb2
        go_upto_region 33 with (first | (go_at_call 15; refine (send_nil _ _).mono ?_; rintro e wx ⟨rfl, rfl⟩))
        have HAK := Lib.hid (fun w (hb : Below w1.heap.size w1 w) => acked_made w (d := some ⟨gz, 0, none⟩) (fun w' hb' => HMZ.out w' (hb.trans (hb'.mono hb.size))) 0)
        go_upto_region 34 with (first | (go_at_call 17; refine (HAK.out _ HB2.out).mono ?_; rintro e w3 ⟨rfl, hb⟩; have HB3 := Lib.hid (HB2.out.trans (hb.mono HB2.out.size)); clear hb))
        go_upto_region 35 with (first | (go_at_call 19; refine (take_nil _ 1).mono ?_; rintro e wx ⟨rfl, rfl⟩))
        have HAL := Lib.hid (alive_any w3)
        have HQZ := Lib.hid (fun w (hb : Below w1.heap.size w1 w) => queue_zero w (HX1.out.next hb))
        have HSN := Lib.hid (fun w => save_no w (d := none) (fun w' _ => made_nil w'))
        have HSZ := Lib.hid (fun w (hb : Below w1.heap.size w1 w) => save_no w (d := some ⟨gz, 0, none⟩) (fun w' hb' => HMZ.out w' (hb.trans (hb'.mono hb.size))))
        have hs0 := HS0.out
        clear HB2 HAK HMZ
        go_wp2_with (first | (go_at_call 14; refine HAL.out.mono ?_; rintro e w4 ⟨rfl, hb⟩; have HB4 := Lib.hid (HB3.out.trans (hb.mono HB3.out.size)); clear hb HAL) | (go_at_call 21; (with_reducible refine (queue_nil _).mono ?_); rintro e wx ⟨rfl, rfl⟩) | (go_at_call 21; refine (HQZ.out _ HB4.out).mono ?_; rintro e w5 ⟨⟨A5, k5, rfl⟩, hb⟩; have HB5 := Lib.hid (HB4.out.trans (hb.mono HB4.out.size)); clear hb HQZ) | (go_at_call 24; (with_reducible refine (HSN.out _).mono ?_); rintro e w6 ⟨rfl, hb⟩; have HB6 := Lib.hid (HB5.out.trans (hb.mono HB5.out.size)); clear hb HSN) | (go_at_call 24; refine (HSZ.out _ HB6.out).mono ?_; rintro e w7 ⟨rfl, hb⟩; have HB7 := Lib.hid (HB6.out.trans (hb.mono HB6.out.size)); clear hb HSZ) | (go_at_call 22; refine (next_nil _).mono ?_; rintro e wx ⟨rfl, rfl⟩) | (go_at_call 23; refine (expect_nil _).mono ?_; rintro e wx ⟨rfl, rfl⟩))
        go_ret
        exact ⟨rfl, HBW.out.trans ((HB1.out.trans (HB7.out.mono HB1.out.size)).mono HBW.out.size)⟩
end Lk
end Go.Proofs.Ytbgjghgmdhnhbaa
