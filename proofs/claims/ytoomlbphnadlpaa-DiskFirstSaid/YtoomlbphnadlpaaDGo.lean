/-
DiskGoes holds: for all inputs, bytes that are written in two goes are, flushed, as written in one, and what is read is the same ahead of the flush and behind it. No condition.
-/
import Derived.Test.YtoomlbphnadlpaaDk7
namespace Go.Proofs.Ytoomlbphnadlpaa
open Go.RowKit Go.Shelf Go.ChangeShapes Go.WideShapes Go.ChangeAt Go.WideElems
open Byt
set_option linter.unusedSimpArgs false
set_option linter.unusedVariables false

theorem own_knob : ownKnob Try.prog.godebug = none := by kernel_rfl
theorem laid_out : laidOutB Try.prog = true := by kernel_rfl
theorem Prot.size {P F : Nat → Prop} {W W' : World} (h : Prot P F W) (hs : W.heap.size ≤ W'.heap.size) : Prot P F W' := fun k hk => ⟨Nat.lt_of_lt_of_le (h k hk).1 hs, (h k hk).2⟩
theorem apart_grow {W W' : World} {F G : Nat → Prop} (h : ∀ k, F k → ¬ G k) (hG : ∀ k, G k → k < W.heap.size) : ∀ k, Grow F W W' k → ¬ G k := by
  rintro k (hk | ⟨h1, _⟩) hg
  · exact h k hk hg
  · have := hG k hg; omega
theorem apart_symm {F G : Nat → Prop} (h : ∀ k, F k → ¬ G k) : ∀ k, G k → ¬ F k := fun k hg hf => h k hf hg
theorem byr_src {W : World} {A : Option Addr} {n : Nat} {bs : List Nat} (h : ByR W A bs) (hA : A = none → bs = []) (hn : bs.length = n) : Src W A n (u8s bs) := hn ▸ h.src hA
theorem flat_two (x y z : Wt) (a b : List Nat) (p : Nat) (hx : x.a = p ∧ x.bs = a ++ b) (hy : y.a = p ∧ y.bs = a) (hz : z.a = p + a.length ∧ z.bs = b) : flat [x] = flat [y, z] := by
  simp only [flat, List.flatMap_cons, List.flatMap_nil, List.append_nil, hx.1, hx.2, hy.1, hy.2, hz.1, hz.2, puts_app]
theorem write_len {W : World} {B d : Nat} {F : Nat → Prop} {h n : Nat} {v : Value} {has : List Nat} {ws : List Wt} {fl wr : Int} (D : Dk W B d F h n v has ws fl wr) (a c m : Nat) (A : Option Addr) (bs : List Nat) (hm : bs.length = m) (hs : Src W A m (u8s bs)) (h256 : ∀ y ∈ bs, y < 256) (hf : a + m ≤ n) (hw : ws.length ≤ 100000) :
    Calls Try.prog 6 #[.pointer (some ⟨d, 0, none⟩), .int .i64 (a : Nat), .slice A m c] W fun e W' => ∃ (v' : Value) (x : Wt), e = .returned (.int .i64 0) ∧ x.a = a ∧ x.bs = bs ∧ Dk W' B d (Grow F W W') h n v' has (ws ++ [x]) fl (wrap64 (wr + bs.length)) ∧ Turn B F W W' := by
  subst hm
  exact write_any W D a c A bs hs h256 hf hw
set_option maxHeartbeats 4000000 in
set_option maxRecDepth 20000 in
theorem goes_walk (W : World) (p : Int) (hp : -9223372036854775808 ≤ p ∧ p ≤ 9223372036854775807) (A1 A2 : Option Addr) (m1 m2 c1 c2 : Nat) (as1 bs1 : List Nat) (hm1 : as1.length = m1) (hm2 : bs1.length = m2)
    (h1 : ByR W A1 as1) (h2 : ByR W A2 bs1) (hA1 : A1 = none → as1 = []) (hA2 : A2 = none → bs1 = []) (ha : ∀ x ∈ as1, x < 256) (hb : ∀ x ∈ bs1, x < 256) :
    Calls Try.prog 4 #[.int .i64 p, .slice A1 m1 c1, .slice A2 m2 c2] W fun e W' => e = .returned (.bool true) ∧ Below W.heap.size W W' := by
  have HN := Lib.hid (new_any W 400 (by omega) (by omega))
  have HP := Lib.hid hp
  have HM1 := Lib.hid hm1
  have HM2 := Lib.hid hm2
  have H1 := Lib.hid (And.intro h1 hA1)
  have H2 := Lib.hid (And.intro h2 hA2)
  have H256 := Lib.hid (And.intro ha hb)
  clear hp hm1 hm2 h1 h2 hA1 hA2 ha hb
  obtain ⟨dc, hdc⟩ : ∃ d, d = W.heap.size + 1 := ⟨_, rfl⟩
  rw [← hdc] at HN
  clear hdc
  go_enter Try.func4, Try.ntmps4
  go_upto_region 2 with (go_at_call 5; refine HN.out.mono ?_; rintro e w1 ⟨rfl, hD, hb, hs⟩; have HC1 := Lib.hid hD; have HB1 := Lib.hid hb; clear hD hb hs HN)
  have HN := Lib.hid (new_any w1 400 (by omega) (by omega))
  obtain ⟨dd, hdd⟩ : ∃ d, d = w1.heap.size + 1 := ⟨_, rfl⟩
  rw [← hdd] at HN
  have HDD := Lib.hid hdd
  clear hdd
  go_upto_region 3 with (go_at_call 5; refine HN.out.mono ?_; rintro e w2 ⟨rfl, hD, hb, hs⟩; have HD2 := Lib.hid hD; have HC2 := Lib.hid (HC1.out.next hb); have HB2 := Lib.hid (HB1.out.trans (hb.mono HB1.out.size)); have HX2 := Lib.hid (show ∀ k, (k = W.heap.size ∨ k = dc) → ¬ (k = w1.heap.size ∨ k = dd) from fun k hk hk' => by have := (HC1.out.low k hk).2; have := HDD.out; omega); clear hD hb hs HN HC1)
  by_cases p1 : (200 : Int) < (m1 : Int)
  · go_wp2_with (go_at_call 10; refine (alive_any _).mono ?_; rintro e w3 ⟨rfl, hb⟩; have HB3 := Lib.hid (HB2.out.trans (hb.mono HB2.out.size)); clear hb)
    go_ret
    exact ⟨rfl, HB3.out⟩
  by_cases p2 : (200 : Int) < (m2 : Int)
  · go_wp2_with (go_at_call 10; refine (alive_any _).mono ?_; rintro e w3 ⟨rfl, hb⟩; have HB3 := Lib.hid (HB2.out.trans (hb.mono HB2.out.size)); clear hb)
    go_ret
    exact ⟨rfl, HB3.out⟩
  by_cases p3 : p < 0
  · go_wp2_with (go_at_call 10; refine (alive_any _).mono ?_; rintro e w3 ⟨rfl, hb⟩; have HB3 := Lib.hid (HB2.out.trans (hb.mono HB2.out.size)); clear hb)
    go_ret
    exact ⟨rfl, HB3.out⟩
  by_cases p4 : (400 : Int) < p
  · go_wp2_with (go_at_call 10; refine (alive_any _).mono ?_; rintro e w3 ⟨rfl, hb⟩; have HB3 := Lib.hid (HB2.out.trans (hb.mono HB2.out.size)); clear hb)
    go_ret
    exact ⟨rfl, HB3.out⟩
  obtain ⟨n, rfl⟩ : ∃ n : Nat, p = n := ⟨p.toNat, by omega⟩
  go_upto_region 5 with fail
  have HQ := Lib.hid (show n ≤ 400 ∧ m1 ≤ 200 ∧ m2 ≤ 200 by omega)
  clear p1 p2 p3 p4
  have hlit : (w2.alloc (.cells #[] 5)).ownsRow w2.heap.size 5 1 (.slice (some ⟨w2.heap.size, 0, none⟩) 0 0) 0 (u8s []) := World.ownsRow_lit (base := w2.heap.size) (size := 1) (e := 5) w2 #[] 0 (Nat.le_refl _) (by unfold maxLen; omega) rfl
  have hl1 := (Below.refl w2.heap.size w2).alloc (Nat.le_refl _) (.cells #[] 5)
  have HL := Lib.hid (And.intro hlit hl1)
  have HS1 := Lib.hid (byr_src ((H1.out.1.next HB2.out).next hl1) H1.out.2 HM1.out)
  clear hlit hl1
  have E5 : ∀ (v5 : Value) (w5 : World), w5.ownsRow w2.heap.size 5 1 v5 m1 (u8s as1) → Below w2.heap.size w2 w5 → Src w5 A2 m2 (u8s bs1) := fun v5 w5 _ hb => byr_src ((H2.out.1.next HB2.out).next hb) H2.out.2 HM2.out
  have HE5 := Lib.hid E5
  clear E5
  by_cases hfit : n + (m1 + m2) ≤ 400
  case neg =>
    have HFIT := Lib.hid hfit
    clear hfit
    go_upto_region 6 with (first
      | (at_builtin; refine wpList_append_u8 _ rfl _ _ rfl w2.heap.size _ 0 (u8s []) rfl HL.out.1 A1 m1 c1 (u8s as1) rfl (by rw [u8s_len]; exact HM1.out) HS1.out (u8s_one _) (by have := HQ.out; omega) (by simp) ?_; intro v5 w5 hown hgrow hloc; have HB5 := Lib.hid (ownG_below hgrow HL.out.1 (Nat.le_refl _) (by simp) HL.out.2); rw [Nat.zero_add] at hown; have HO5 := Lib.hid (show w5.ownsRow w2.heap.size 5 1 v5 m1 (u8s as1) from hown); clear hown hgrow hloc HL HS1)
      | (at_builtin; refine wpList_append_u8 _ rfl _ _ rfl w2.heap.size _ m1 (u8s as1) rfl HO5.out A2 m2 c2 (u8s bs1) rfl (by rw [u8s_len]; exact HM2.out) (HE5.out _ _ HO5.out HB5.out) (u8s_one _) (by have := HQ.out; omega) HB5.out.size ?_; intro v6 w6 hown hgrow hloc; have HB6 := Lib.hid (ownG_below hgrow HO5.out (Nat.le_refl _) HB5.out.size HB5.out); obtain ⟨A6, c6, rfl⟩ := slice_of hown; clear hown hgrow hloc HO5 HB5 HE5)
      | (go_at_call 6; refine (write_bad _ (HC2.out.next HB6.out) _ _ _ _ HP.out (by rw [Bool.eq_false_iff, ne_eq, fits_iff]; have := HFIT.out; omega)).mono ?_; rintro e w7 ⟨rfl, rfl⟩))
    have HC6 := Lib.hid (HC2.out.next HB6.out)
    have HB := Lib.hid (HB2.out.trans (HB6.out.mono HB2.out.size))
    clear HC2 HD2 HX2 HDD HB6 HB2 HB1
    rename_i w6 A6 c6
    go_wp2_with (first | (go_at_call 10; refine (alive_any _).mono ?_; rintro e w8 ⟨rfl, hb⟩; have HB8 := Lib.hid (HB.out.trans (hb.mono HB.out.size)); have HC8 := Lib.hid (HC6.out.next hb); clear hb) | (go_at_call 11; refine (waits_any HC8.out (by simp)).mono ?_; rintro e w9 ⟨rfl, hb⟩; have HB9 := Lib.hid (HB8.out.trans (hb.mono HB8.out.size)); clear hb))
    go_ret
    exact ⟨rfl, HB9.out⟩
  case pos =>
    have HFIT := Lib.hid hfit
    clear hfit
    obtain ⟨has0, hhas⟩ : ∃ l, l = List.replicate 400 0 := ⟨_, rfl⟩
    rw [← hhas] at HC2 HD2
    clear hhas
    go_upto_region 6 with (first
      | (at_builtin; refine wpList_append_u8 _ rfl _ _ rfl w2.heap.size _ 0 (u8s []) rfl HL.out.1 A1 m1 c1 (u8s as1) rfl (by rw [u8s_len]; exact HM1.out) HS1.out (u8s_one _) (by have := HQ.out; omega) (by simp) ?_; intro v5 w5 hown hgrow hloc; have HB5 := Lib.hid (ownG_below hgrow HL.out.1 (Nat.le_refl _) (by simp) HL.out.2); rw [Nat.zero_add] at hown; have HO5 := Lib.hid (show w5.ownsRow w2.heap.size 5 1 v5 m1 (u8s as1) from hown); clear hown hgrow hloc HL HS1)
      | (at_builtin; refine wpList_append_u8 _ rfl _ _ rfl w2.heap.size _ m1 (u8s as1) rfl HO5.out A2 m2 c2 (u8s bs1) rfl (by rw [u8s_len]; exact HM2.out) (HE5.out _ _ HO5.out HB5.out) (u8s_one _) (by have := HQ.out; omega) HB5.out.size ?_; intro v6 w6 hown hgrow hloc; have HB6 := Lib.hid (ownG_below hgrow HO5.out (Nat.le_refl _) HB5.out.size HB5.out); obtain ⟨A6, c6, rfl, -, hs6, -⟩ := ownG_slice hown; have HS6 := Lib.hid (show Src w6 A6 (m1 + m2) (u8s (as1 ++ bs1)) from by rw [u8s_app]; exact hs6); clear hown hgrow hloc HO5 HB5 HE5 hs6)
      | (go_at_call 6; refine (write_len (HC2.out.next HB6.out) n c6 (m1 + m2) A6 (as1 ++ bs1) (by rw [List.length_append, HM1.out, HM2.out]) HS6.out (fun y hy => (List.mem_append.1 hy).elim (H256.out.1 y) (H256.out.2 y)) HFIT.out (by simp)).mono ?_; rintro e w7 ⟨v7, x7, rfl, hxa, hxb, hD, hT⟩; have HX := Lib.hid (And.intro hxa hxb); have HC7 := Lib.hid hD; have HD7 := Lib.hid (hT.other (HD2.out.next HB6.out) (fun k hd hc => HX2.out k hc hd)); have HX7 := Lib.hid (apart_grow (W := w6) (W' := w7) HX2.out (fun k hk => ((HD2.out.next HB6.out).low k hk).2)); have HB7 := Lib.hid ((HB2.out.trans (HB6.out.mono HB2.out.size)).trans hT.1); clear hxa hxb hD hT HC2 HD2 HX2 HB6 HS6))
    go_upto_region 9 with (go_at_call 6; refine (write_len HD7.out n c1 m1 A1 as1 HM1.out (byr_src (H1.out.1.next HB7.out) H1.out.2 HM1.out) H256.out.1 (by have := HFIT.out; omega) (by simp)).mono ?_; rintro e w8 ⟨v8, y8, rfl, hya, hyb, hD, hT⟩; have HY := Lib.hid (And.intro hya hyb); have HD8 := Lib.hid hD; have HC8 := Lib.hid (hT.other HC7.out HX7.out); have HX8 := Lib.hid (apart_symm (apart_grow (W := w7) (W' := w8) (apart_symm HX7.out) (fun k hk => (HC7.out.low k hk).2))); have HB8 := Lib.hid (HB7.out.trans (hT.1.mono HB1.out.size)); clear hya hyb hD hT HC7 HD7 HX7 HB7)
    obtain ⟨k, hk⟩ : ∃ k, k = n + m1 := ⟨_, rfl⟩
    have ew1 : wrap64 ((n : Int) + (m1 : Int)) = (k : Nat) := by have := HQ.out; unfold wrap64; omega
    have ew2 : IntKind.i64.wrap ((n : Int) + (m1 : Int)) = (k : Nat) := by have := HQ.out; rw [IntKind.wrap_i64]; omega
    have HK := Lib.hid hk
    clear hk
    go_upto_region 10 with (go_at_call 6; refine (write_len HD8.out k c2 m2 A2 bs1 HM2.out (byr_src (H2.out.1.next HB8.out) H2.out.2 HM2.out) H256.out.2 (by have := HFIT.out; have := HK.out; omega) (by simp)).mono ?_; rintro e w9 ⟨v9, z9, rfl, hza, hzb, hD, hT⟩; have HZ := Lib.hid (And.intro hza hzb); have HD9 := Lib.hid hD; have HC9 := Lib.hid (hT.other HC8.out HX8.out); have HX9 := Lib.hid (apart_symm (apart_grow (W := w8) (W' := w9) (apart_symm HX8.out) (fun k hk => (HC8.out.low k hk).2))); have HB9 := Lib.hid (HB8.out.trans (hT.1.mono HB1.out.size)); clear hza hzb hD hT HC8 HD8 HX8 HB8)
    clear ew1 ew2
    have hfl : flat ([] ++ [x7]) = flat (([] ++ [y8]) ++ [z9]) := flat_two x7 y8 z9 as1 bs1 n HX.out HY.out ⟨by rw [HZ.out.1, HK.out, HM1.out], HZ.out.2⟩
    obtain ⟨bx, hbx⟩ : ∃ b, b = ((putL has0 (flat ([] ++ [x7]))).drop 0).take 400 := ⟨_, rfl⟩
    have H256x := Lib.hid (show ∀ y ∈ bx, y < 256 by rw [hbx]; exact dt_256 HC9.out.put256 0 400)
    have HBX := Lib.hid hbx
    have HFL := Lib.hid hfl
    clear hbx hfl HZ HY HX HK HQ HP HFIT HM1 HM2 H1 H2 H256 HDD
    go_upto_region 11 with (go_at_call 9; refine (read_any HC9.out (by simp) 0 400 (by decide)).mono ?_; rintro e w10 ⟨g1, c1, rfl, hr, hb⟩; rw [← HBX.out] at hr; have HPc10 := Lib.hid ((Prot.none _ _).add (fun k hk => (HC9.out.low k hk).2) hb (hr.lt g1 rfl)); have HPd10 := Lib.hid ((Prot.none _ _).add (fun k hk => (HD9.out.low k hk).2) hb (hr.lt g1 rfl)); have HR10 := Lib.hid hr; have HC10 := Lib.hid (HC9.out.next hb); have HD10 := Lib.hid (HD9.out.next hb); have HB10 := Lib.hid (HB9.out.trans (hb.mono HB9.out.size)); clear hr hb HC9 HD9 HB9)
    go_upto_region 12 with (go_at_call 9; refine (read_any HD10.out (by simp) 0 400 (by decide)).mono ?_; rintro e w11 ⟨g2, c2, rfl, hr, hb⟩; rw [← HFL.out, ← HBX.out] at hr; have HPc11 := Lib.hid (HPc10.out.add (fun k hk => (HC10.out.low k hk).2) hb (hr.lt g2 rfl)); have HPd11 := Lib.hid (HPd10.out.add (fun k hk => (HD10.out.low k hk).2) hb (hr.lt g2 rfl)); have HRx11 := Lib.hid (ownG_next HR10.out hb); have HRy11 := Lib.hid hr; have HC11 := Lib.hid (HC10.out.next hb); have HD11 := Lib.hid (HD10.out.next hb); have HB11 := Lib.hid (HB10.out.trans (hb.mono HB10.out.size)); clear hr hb HC10 HD10 HB10 HR10 HPc10 HPd10)
    go_upto_region 13 with (go_at_call 8; refine (flush_any HC11.out (by simp)).mono ?_; rintro e w12 ⟨rfl, hD, hT⟩; have HC12 := Lib.hid hD; have HD12 := Lib.hid (hT.other HD11.out (fun k hd hc => HX9.out k hc hd)); have HX12 := Lib.hid (apart_grow (W := w11) (W' := w12) HX9.out (fun k hk => (HD11.out.low k hk).2)); have HPd12 := Lib.hid (HPd11.out.size hT.1.size); have HRx12 := Lib.hid (row_kept HRx11.out (hT.kept HPc11.out) (Or.inl (Or.inr rfl))); have HRy12 := Lib.hid (row_kept HRy11.out (hT.kept HPc11.out) (Or.inr rfl)); have HB12 := Lib.hid (HB11.out.trans hT.1); clear hD hT HC11 HD11 HX9 HPc11 HPd11 HRx11 HRy11 HB11)
    go_upto_region 14 with (go_at_call 8; refine (flush_any HD12.out (by simp)).mono ?_; rintro e w13 ⟨rfl, hD, hT⟩; have HD13 := Lib.hid hD; have HC13 := Lib.hid (hT.other HC12.out HX12.out); have HRx13 := Lib.hid (row_kept HRx12.out (hT.kept HPd12.out) (Or.inl (Or.inr rfl))); have HRy13 := Lib.hid (row_kept HRy12.out (hT.kept HPd12.out) (Or.inr rfl)); have HB13 := Lib.hid (HB12.out.trans (hT.1.mono HB1.out.size)); clear hD hT HC12 HD12 HX12 HPd12 HRx12 HRy12 HB12)
    go_upto_region 15 with (go_at_call 9; refine (read_any HC13.out (by simp) 0 400 (by decide)).mono ?_; rintro e w14 ⟨g3, c3, rfl, hr, hb⟩; have HRz14 := Lib.hid hr; have HRx14 := Lib.hid (ownG_next HRx13.out hb); have HRy14 := Lib.hid (ownG_next HRy13.out hb); have HD14 := Lib.hid (HD13.out.next hb); have HB14 := Lib.hid (HB13.out.trans (hb.mono HB13.out.size)); clear hr hb HC13 HD13 HRx13 HRy13 HB13)
    go_upto_region 16 with (go_at_call 9; refine (read_any HD14.out (by simp) 0 400 (by decide)).mono ?_; rintro e w15 ⟨g4, c4, rfl, hr, hb⟩; have HRw15 := Lib.hid hr; have HRx15 := Lib.hid (ownG_next HRx14.out hb); have HRy15 := Lib.hid (ownG_next HRy14.out hb); have HRz15 := Lib.hid (ownG_next HRz14.out hb); have HB15 := Lib.hid (HB14.out.trans (hb.mono HB14.out.size)); clear hr hb HD14 HRx14 HRy14 HRz14 HB14)
    have hz : ((putL (putL has0 (flat ([] ++ [x7]))) (flat [])).drop 0).take 400 = bx := HBX.out.symm
    have hw : ((putL (putL has0 (flat (([] ++ [y8]) ++ [z9]))) (flat [])).drop 0).take 400 = bx := by rw [← HFL.out]; exact HBX.out.symm
    rw [hz] at HRz15
    rw [hw] at HRw15
    have HK := Lib.hid (fun (w : World) (hb : Below w15.heap.size w15 w) => And.intro (row_conv (ownG_next HRx15.out hb) H256x.out) (And.intro (row_conv (ownG_next HRy15.out hb) H256x.out) (And.intro (row_conv (ownG_next HRz15.out hb) H256x.out) (row_conv (ownG_next HRw15.out hb) H256x.out))))
    clear hz hw HRx15 HRy15 HRz15 HRw15 HBX HFL H256x
    go_wp2_with (go_at_call 10; refine (alive_any _).mono ?_; rintro e w16 ⟨rfl, hb⟩; have HB16 := Lib.hid (HB15.out.trans (hb.mono HB15.out.size)); obtain ⟨k1, k2, k3, k4⟩ := HK.out _ hb; clear hb HK)
    go_ret
    exact ⟨rfl, HB16.out⟩
set_option maxRecDepth 100000 in
theorem goes_lifted (os : Os) (started : os.Started) (H : Type) (enc : TypeId × Value → H) :
    ReturnsInHanded {} Try.checked os 4 .any (Rows.diskGoesSpec.pre6 enc Try.prog Try.f4 Rows.diskGoesRow.domain false) (Rows.diskGoesSpec.post enc Try.prog Try.f4 false true false false) := by
  refine law_lift (C := Try.checked) own_knob started (by kernel_rfl) Try.func4 rfl Try.underlying4 laid_out (by kernel_rfl) rfl ?_
    (ChangeSpec.witness6 (enc := enc) (C := Try.checked) false ⟨#[], #[.int .i64 0, .slice none 0 0, .slice none 0 0], []⟩ 8 (by kernel_rfl) (by kernel_rfl) (by kernel_rfl) (by kernel_rfl)) ?_
  · intro ds hds
    match ds, hds with
    | [_, _, _], _ => rfl
  intro W base args ds ps hval hA hlt hsz
  rw [Try.params4] at hA hval
  obtain ⟨v0, vs0, d0, ds0, p0, q0, hargs, rfl, rfl, h0, r0⟩ := trodAll_cons hA
  obtain ⟨v1, vs1, d1, ds1, p1, q1, rfl, rfl, rfl, h1, r1⟩ := trodAll_cons r0
  obtain ⟨v2, vs2, d2, ds2, p2, q2, rfl, rfl, rfl, h2, r2⟩ := trodAll_cons r1
  obtain ⟨rfl, rfl, rfl⟩ := trodAll_nil r2
  obtain rfl : args = #[v0, v1, v2] := by cases args; simp_all
  obtain ⟨p, rfl, rfl, rfl, wp⟩ := open_int Try.underlying3 (hval 0 3 v0 rfl rfl) h0
  obtain ⟨A1, m1, c1, as1, rfl, hm1, hc1, _, h2561, hb1, hn1⟩ := open_bytes (hval 1 27 v1 rfl rfl) h1 (fun x hx => hlt x (by simp [hx]))
  obtain ⟨A2, m2, c2, bs1, rfl, hm2, hc2, _, h2562, hb2, hn2⟩ := open_bytes (hval 2 27 v2 rfl rfl) h2 (fun x hx => hlt x (by simp [hx]))
  exact goes_walk W p (bounds_i64 wp) A1 A2 m1 m2 c1 c2 as1 bs1 hm1 hm2 hb1 hb2 hn1 hn2 h2561 h2562

theorem goes_holds : Rows.DiskGoesSaid :=
  OpenClaim.holds_of_wide 4 Try.f4 rfl rfl rfl rfl rfl rfl rfl ⟨rfl, rfl, rfl, rfl, rfl⟩ rfl rfl rfl rfl rfl (by kernel_rfl) Try.func4 (by kernel_rfl)
    (of_decide_eq_true (by kernel_rfl)) (by unfold Func.isWrapper; first | (rw [if_pos (by decide +kernel)]; kernel_rfl) | (rw [if_neg (by decide +kernel)]; exact ⟨rfl, rfl⟩))
    (fun os started H enc _ => goes_lifted os started H enc)

end Go.Proofs.Ytoomlbphnadlpaa
