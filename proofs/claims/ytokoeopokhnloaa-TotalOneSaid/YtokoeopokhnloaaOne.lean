/-
TotalOne holds: for every word and every list of words, the sum of one float is that float, but +0 of -0, and one NaN of each NaN; a sum with +0 behind it is the same. No condition.
-/
import Derived.Test.YtokoeopokhnloaaSumsLaw
import Derived.Test.YtokoeopokhnloaaOneMath
import Derived.Laws.AppendOwnNone
namespace Go.Proofs.Ytokoeopokhnloaa
open Go.ChangeShapes Go.WideShapes Go.ChangeAt Go.RowKit
attribute [local go_sem] run_store_float

theorem floats_one (w : World) (x : Nat) : Floats (w.alloc (.cells #[.float .f64 x] 23)) (.slice (some ⟨w.heap.size, 0, none⟩) 1 1) [x] := by
  refine ⟨_, 1, rfl, Or.inr ⟨w.heap.size, 0, rfl, by simp, ?_⟩⟩
  intro i hi
  obtain rfl : i = 0 := by simp at hi; omega
  go_simp

/-- The same as 'Made', over a world that had grown ahead of the loop. -/
def MadeAt (zs : List Nat) (k B : Nat) (w : World) (v : Value) (wr : World) : Prop :=
  wr.ownsRow B 23 1 v k ((zs.map (Value.float .f64)).take k) ∧ Below B w wr ∧ B ≤ wr.heap.size

theorem madeAt_next {zs : List Nat} {k B : Nat} {w wr w1 : World} {v v1 : Value} {o : Obj} (hk : k < zs.length) (hm : Below B w wr) (hB : B ≤ wr.heap.size)
    (hown : w1.ownsRow B 23 1 v1 (k + 1) ((zs.map (Value.float .f64)).take k ++ [.float .f64 zs[k]])) (hg : (wr.alloc o).grownBy w1 v.ownBlock)
    (hv : wr.ownsRow B 23 1 v k ((zs.map (Value.float .f64)).take k)) : MadeAt zs (k + 1) B w v1 w1 := by
  refine ⟨?_, ?_, ?_⟩
  · rw [List.take_succ_eq_append_getElem (by simpa using hk), List.getElem_map]; exact hown
  · exact (hm.alloc hB o).grown hg (by simp; omega) (fun b hb => (hv.lt b hb).1)
  · have := hg.size; simp at this; omega

set_option maxRecDepth 100000 in
set_option maxHeartbeats 1000000 in
theorem one_walk (x val kd : Nat) (hx : x < 18446744073709551616) (hval : Num.sumN [x] = val) (hkd : Num.kindN x = kd)
    (hcase : (kd = 0 ∧ val = 9221120237041090561) ∨ (kd = 2 ∧ val = 0) ∨ (kd = 1 ∧ val = x) ∨ (kd = 3 ∧ val = x)) (a : Option Addr) (len cap : Nat) (zs : List Nat) (hz : zs.length = len) (hb : ∀ x ∈ zs, x < 18446744073709551616) (w : World) (hlen : len ≤ 9223372036854775807)
    (hc : zs = [] ∨ ∃ b off, a = some ⟨b, off, none⟩ ∧ b < w.heap.size ∧ ∀ i, (h : i < zs.length) → w.cell? ⟨b, off + i, none⟩ = some (.int .u64 (zs[i] : Nat))) :
    Calls Try.prog 7 #[.int .u64 x, .slice a len cap] w fun e w' => e = .returned (.bool true) ∧ Below w.heap.size w w' := by
  subst hz
  have HC := Lib.hid hc
  have HZ := Lib.hid hb
  have HV := Lib.hid hval
  have HK := Lib.hid hkd
  have HS := Lib.hid hcase
  clear hc hb hval hkd hcase
  by_cases hbig : 100 < zs.length
  · go_enter Try.func7, Try.ntmps7
    go_wp2_with (go_at_call 10; refine (alive_any _).mono ?_; rintro e w' ⟨rfl, hbel⟩)
    go_ret
    exact ⟨rfl, hbel⟩
  · obtain ⟨i0, hi, hz0, hz1, hz2⟩ := info_parts Try.info23
    have cf := fb_any
    have cf2 : ∀ w, (callFunc 8 #[.int .u64 9221120237041090561]).run Try.prog w = .ok (.value (.float .f64 9221120237041090561)) w := fun w => call_frombits 9221120237041090561 w
    go_enter Try.func7, Try.ntmps7
    go_wp2_with fail
    refine (sum_fix _ _ val HV.out (by simp) (floats_one _ _)).mono ?_
    rintro e w1 ⟨rfl, hb1⟩
    have HB1 := Lib.hid (((Below.refl _ _).alloc (Nat.le_refl _) _).trans (hb1.mono (by simp)))
    clear hb1
    go_wp2_with fail
    obtain ⟨B, hB⟩ : ∃ B, B = w1.heap.size := ⟨_, rfl⟩
    have HBs := Lib.hid hB
    have hstart : Hid (MadeAt zs 0 B w1 (.slice none 0 0) w1) := Lib.hid ⟨by simpa using World.ownsRow_nil _ _ _ _, Below.refl _ _, by omega⟩
    clear hB
    go_loopw [7, 8] (fun v i wr => ∃ k : Nat, k ≤ zs.length ∧ i = .int .i64 k ∧ MadeAt zs k B w1 v wr) (fun _ i _ => zs.length - (intOf i).toNat)
    case atStart => exact ⟨0, Nat.zero_le _, rfl, hstart.out⟩
    case round =>
      obtain ⟨k, hk, rfl, hown, hbel, hsize⟩ := hrel
      have HB := Lib.hid hbel
      clear hbel
      by_cases hlt : k < zs.length
      · obtain ⟨b, off, ha, hbs, hcell⟩ := HC.out.resolve_left (by rintro rfl; simp at hlt)
        subst ha
        have hc : wr.cell? ⟨b, off + k, none⟩ = some (.int .u64 (zs[k] : Nat)) := by
          rw [HB.out.cell (p := ⟨b, off + k, none⟩) (by rw [HBs.out]; exact Nat.lt_of_lt_of_le hbs HB1.out.size), HB1.out.cell (p := ⟨b, off + k, none⟩) hbs]; exact hcell k hlt
        clear hcell hbs
        go_wp2_with (at_builtin; refine wpList_append_own _ rfl _ _ 32 rfl B 23 i0 (.float .f64 0) 1 8 Try.underlying32 hi hz0 hz1 hz2 rfl (by decide) _ _ _ rfl (hown.alloc _) ⟨wr.heap.size, 0, none⟩ 1 1 [.float .f64 zs[k]] rfl rfl ?c1 ?c2 ?c3 ?c4 ?c5 ?_)
        case c1 =>
          intro j u hj
          match j, hj with
          | 0, hj => simp at hj; subst hj; simp [Addr.add]
        case c2 => intro u hu; simp at hu; subst hu; rfl
        case c3 => unfold maxLen; omega
        case c4 => omega
        case c5 => simp; omega
        intro v' w2 hown' hgrow _
        have R := Lib.hid (madeAt_next hlt HB.out hsize hown' hgrow hown)
        clear hown' hgrow hown hc
        go_wp2_with fail
        go_roundw
        case rel => exact ⟨k + 1, by omega, by go_num, R.out⟩
        case measure => simp [intOf]; omega
      · obtain rfl : k = zs.length := by omega
        rw [show zs.length = (zs.map (Value.float .f64)).length by simp, List.take_length] at hown
        rw [List.length_map] at hown
        have HF := Lib.hid (Floats.own hown)
        have hle : zs.length ≤ 2147483648 := by omega
        have hlit := World.ownsRow_lit (base := wr.heap.size) (size := 1) (e := 23) wr #[] 0 (Nat.le_refl _) (by unfold maxLen; omega) rfl
        rcases hown.2 with ⟨rfl, hn⟩ | ⟨g, gcap, cur, rfl, hg, hh, hcap, _⟩
        · have hzs : zs = [] := List.eq_nil_of_length_eq_zero hn
          subst hzs
          clear hown hn
          go_wp2_with (first | (at_builtin; refine wpList_append_own_none rfl (.tmp 32) (.tmp 33) 32 rfl wr.heap.size 23 i0 1 Try.underlying32 hi _ _ _ rfl hlit rfl ?_) | (at_builtin; refine wpList_append_own _ rfl (.tmp 34) (.tmp 35) 32 rfl wr.heap.size 23 i0 (.float .f64 0) 1 8 Try.underlying32 hi hz0 hz1 hz2 rfl (by decide) _ _ _ rfl (hlit.alloc _) ⟨wr.heap.size + 1, 0, none⟩ 1 1 [.float .f64 0] rfl rfl ?c1 ?c2 ?c3 ?c4 ?c5 ?_))
          case c2 => first | rfl | (intro u hu; simp at hu; subst hu; rfl)
          case c3 => unfold maxLen; omega
          case c5 => first | omega | (simp; omega)
          intro v3 w3 h3 hg3 _
          have F3 : Floats w3 v3 (([] : List Nat) ++ [0]) := Floats.own (base := wr.heap.size) (by simpa using h3)
          have B3 : Below wr.heap.size wr w3 := (((Below.refl _ _).alloc (Nat.le_refl _) _).alloc (by simp) _).grown hg3 (by simp; omega) (fun b hb => by simp [Value.ownBlock] at hb; omega)
          have HF3 := Lib.hid F3
          have HFf := Lib.hid (HF.out.below B3)
          have HB3 := Lib.hid ((HB.out.mono (show w1.heap.size ≤ B by rw [HBs.out]; exact Nat.le_refl _)).trans (B3.mono (by have := HBs.out; omega)))
          clear h3 hg3 F3 B3 hlit
          go_wp2_with fail
          refine (sum_fix (([] : List Nat) ++ [0]) _ (Num.sumN []) (Num.sum_snoc_zero [] HZ.out) (by simp) HF3.out).mono ?_
          rintro e w4 ⟨rfl, hb4⟩
          have HF4 := Lib.hid (HFf.out.below hb4)
          have HB4 := Lib.hid ((HB1.out.trans (HB3.out.mono HB1.out.size)).trans (hb4.mono (by have := HB1.out.size; have := HB3.out.size; omega)))
          clear hb4
          go_wp2_with fail
          refine (sum_any _ _ _ hle HF4.out).mono ?_
          rintro e w5 ⟨rfl, hb5⟩
          have HB5 := Lib.hid (HB4.out.trans (hb5.mono HB4.out.size))
          clear hb5
          have hs : Num.sameB (Num.sumN []) (Num.sumN []) = true := by unfold Num.sameB; simp
          have ht : Num.sameB val val = true := by unfold Num.sameB; simp
          go_wp2_with fail
          refine (eqbits_any _ _ _).mono ?_
          rintro e w' ⟨rfl, rfl⟩
          go_wp2_with fail
          refine (kind_fix _ kd HK.out hx).mono ?_
          rintro e w' ⟨rfl, rfl⟩
          rcases HS.out with ⟨rfl, rfl⟩ | ⟨rfl, rfl⟩ | ⟨rfl, rfl⟩ | ⟨rfl, rfl⟩
          all_goals
            go_wp2_with (first | (go_at_call 10; refine (alive_any _).mono ?_; rintro e w6 ⟨rfl, hb6⟩) | (go_at_call 12; refine (eqbits_any _ _ _).mono ?_; rintro e w' ⟨rfl, rfl⟩))
            go_ret
            exact ⟨rfl, HB5.out.trans (hb6.mono HB5.out.size)⟩
        · have HO := Lib.hid (hown.alloc (.cells #[] 23))
          clear hown hh hcap
          go_wp2_with (at_builtin; refine wpList_append_own _ rfl (.tmp 32) (.tmp 33) 32 rfl wr.heap.size 23 i0 (.float .f64 0) 1 8 Try.underlying32 hi hz0 hz1 hz2 rfl (by decide) _ _ _ rfl hlit ⟨g, 0, none⟩ zs.length gcap (zs.map (Value.float .f64)) rfl (by simp) ?d1 ?d2 ?d3 ?d4 ?d5 ?_)
          case d1 =>
            intro j u hj
            have hcl := HO.out.cells rfl j (.float .f64 u) (by simp [hj])
            have e : (⟨g, 0, none⟩ : Addr).add j = ⟨g, j, none⟩ := by unfold Addr.add; split <;> simp_all
            rw [← e]; exact hcl
          case d2 => intro u _; rfl
          case d3 => unfold maxLen; omega
          case d4 => omega
          intro v2 w2 h2 hg2 _
          have B2 : Below wr.heap.size wr w2 := ((Below.refl _ _).alloc (Nat.le_refl _) _).grown hg2 (by simp) (fun b hb => by simp [Value.ownBlock] at hb; omega)
          have HB2 := Lib.hid B2
          clear hg2 B2
          go_wp2_with (at_builtin; refine wpList_append_own _ rfl (.tmp 34) (.tmp 35) 32 rfl wr.heap.size 23 i0 (.float .f64 0) 1 8 Try.underlying32 hi hz0 hz1 hz2 rfl (by decide) _ _ _ rfl (h2.alloc _) ⟨w2.heap.size, 0, none⟩ 1 1 [.float .f64 0] rfl rfl ?e1 ?e2 ?e3 ?e4 ?e5 ?_)
          case e1 =>
            intro j u hj
            match j, hj with
            | 0, hj => simp at hj; subst hj; simp [Addr.add]
          case e2 => intro u hu; simp at hu; subst hu; rfl
          case e3 => unfold maxLen; omega
          case e4 => omega
          case e5 => have := HB2.out.size; simp; omega
          intro v3 w3 h3 hg3 _
          have F3 : Floats w3 v3 (zs ++ [0]) := Floats.own (base := wr.heap.size) (by simpa using h3)
          have B3 : Below wr.heap.size wr w3 := (HB2.out.alloc HB2.out.size _).grown hg3 (by have := HB2.out.size; simp; omega) (fun b hb => (h2.lt b hb).1)
          have HF3 := Lib.hid F3
          have HFf := Lib.hid (HF.out.below B3)
          have HB3 := Lib.hid ((HB.out.mono (show w1.heap.size ≤ B by rw [HBs.out]; exact Nat.le_refl _)).trans (B3.mono (by have := HBs.out; omega)))
          clear h3 hg3 F3 B3 h2 hlit
          go_wp2_with fail
          refine (sum_fix (zs ++ [0]) _ (Num.sumN zs) (Num.sum_snoc_zero zs HZ.out) (by simp; omega) HF3.out).mono ?_
          rintro e w4 ⟨rfl, hb4⟩
          have HF4 := Lib.hid (HFf.out.below hb4)
          have HB4 := Lib.hid ((HB1.out.trans (HB3.out.mono HB1.out.size)).trans (hb4.mono (by have := HB1.out.size; have := HB3.out.size; omega)))
          clear hb4
          go_wp2_with fail
          refine (sum_any _ _ _ hle HF4.out).mono ?_
          rintro e w5 ⟨rfl, hb5⟩
          have HB5 := Lib.hid (HB4.out.trans (hb5.mono HB4.out.size))
          clear hb5
          have hs : Num.sameB (Num.sumN zs) (Num.sumN zs) = true := by unfold Num.sameB; simp
          have ht : Num.sameB val val = true := by unfold Num.sameB; simp
          go_wp2_with fail
          refine (eqbits_any _ _ _).mono ?_
          rintro e w' ⟨rfl, rfl⟩
          go_wp2_with fail
          refine (kind_fix _ kd HK.out hx).mono ?_
          rintro e w' ⟨rfl, rfl⟩
          rcases HS.out with ⟨rfl, rfl⟩ | ⟨rfl, rfl⟩ | ⟨rfl, rfl⟩ | ⟨rfl, rfl⟩
          all_goals
            go_wp2_with (first | (go_at_call 10; refine (alive_any _).mono ?_; rintro e w6 ⟨rfl, hb6⟩) | (go_at_call 12; refine (eqbits_any _ _ _).mono ?_; rintro e w' ⟨rfl, rfl⟩))
            go_ret
            exact ⟨rfl, HB5.out.trans (hb6.mono HB5.out.size)⟩

theorem one_all (x : Nat) (hx : x < 18446744073709551616) (a : Option Addr) (len cap : Nat) (zs : List Nat) (hz : zs.length = len) (hb : ∀ x ∈ zs, x < 18446744073709551616) (w : World) (hlen : len ≤ 9223372036854775807)
    (hc : zs = [] ∨ ∃ b off, a = some ⟨b, off, none⟩ ∧ b < w.heap.size ∧ ∀ i, (h : i < zs.length) → w.cell? ⟨b, off + i, none⟩ = some (.int .u64 (zs[i] : Nat))) :
    Calls Try.prog 7 #[.int .u64 x, .slice a len cap] w fun e w' => e = .returned (.bool true) ∧ Below w.heap.size w w' := by
  refine one_walk x _ _ hx rfl rfl ?_ a len cap zs hz hb w hlen hc
  rw [Num.sum_one x hx]
  rcases Num.kindN_cases x with h | h | h | h <;> rw [h] <;> simp

set_option maxRecDepth 100000 in
theorem one_lifted (os : Os) (started : os.Started) (H : Type) (enc : TypeId × Value → H) :
    ReturnsInHanded {} Try.checked os 7 .any (Rows.totalOneSpec.pre6 enc Try.prog Try.f7 Rows.totalOneRow.domain false) (Rows.totalOneSpec.post enc Try.prog Try.f7 false true false false) := by
  refine law_lift (C := Try.checked) own_knob started (by kernel_rfl) Try.func7 rfl Try.underlying4 laid_out (by kernel_rfl) rfl ?_
    (ChangeSpec.witness6 (enc := enc) (C := Try.checked) false ⟨#[], #[.int .u64 0, .slice none 0 0], []⟩ 8 (by kernel_rfl) (by kernel_rfl) (by kernel_rfl) (by kernel_rfl)) ?_
  · intro ds hds
    match ds, hds with
    | [_, _], _ => rfl
  intro W base args ds ps hval hA hlt hsz
  rw [Try.params7] at hA hval
  obtain ⟨v0, vs0, d0, ds0, p0, q0, hargs, rfl, rfl, h0, r0⟩ := trodAll_cons hA
  obtain ⟨v1, vs1, d1, ds1, p1, q1, rfl, rfl, rfl, h1, r1⟩ := trodAll_cons r0
  obtain ⟨rfl, rfl, rfl⟩ := trodAll_nil r1
  obtain rfl : args = #[v0, v1] := by cases args; simp_all
  obtain ⟨a0, rfl, rfl, rfl, w0⟩ := open_int Try.underlying22 (hval 0 22 v0 rfl rfl) h0
  obtain ⟨n0, rfl, b0⟩ := bound_u64 w0
  obtain ⟨a, len, cap, zs, rfl, hz, hm, hw, hc⟩ := open_row Try.underlying31 Try.underlying22 (by kernel_rfl) (hval 1 31 v1 rfl rfl) h1 (fun x hx => hlt x (by simp [hx]))
  obtain ⟨ns, rfl⟩ := nats_of (fun n hn => (bounds_u64 (hw n hn)).1)
  refine one_all n0 b0 a len cap ns (by simpa using hz) ?_ W hm ?_
  · intro x hx
    have := bounds_u64 (hw x (List.mem_map.2 ⟨x, hx, rfl⟩)); omega
  · exact row_nats hc

theorem one_holds : Rows.TotalOneSaid :=
  OpenClaim.holds_of_wide 7 Try.f7 rfl rfl rfl rfl rfl rfl rfl ⟨rfl, rfl, rfl, rfl, rfl⟩ rfl rfl rfl rfl rfl (by kernel_rfl) Try.func7 (by kernel_rfl)
    (of_decide_eq_true (by kernel_rfl)) (by unfold Func.isWrapper; first | (rw [if_pos (by decide +kernel)]; kernel_rfl) | (rw [if_neg (by decide +kernel)]; exact ⟨rfl, rfl⟩))
    (fun os started H enc _ => one_lifted os started H enc)
end Go.Proofs.Ytokoeopokhnloaa
