/-
frames: Read.
-/
import Derived.Test.YtejehmimidnaiaaFr4
import Derived.ScopeJumps
import Derived.WalkMore
import Derived.OwnWalk
namespace Go.Proofs.Ytejehmimidnaiaa
open Go.RowKit
open Byt
set_option linter.unusedSimpArgs false
set_option linter.unusedVariables false

/-- A scope that is jumped back in, walked once. -/
theorem wp_scope_once {P : Program} {a : Act} {w : World} {Q : Exit → Act → World → Prop} {c rest : Code} (l : Nat) (J : Act → World → Prop) (μ : Act → World → Nat) (hf : findLabel c l = some (.seq .skip rest))
    (pass : ∀ a w, J a w → rest.wp P (Exit.jump l (fun a' w' => J a' w' ∧ μ a' w' < μ a w) Q) a w)
    (first : (∀ a w, J a w → rest.wp P (Exit.jump l J Q) a w) → c.wp P (Exit.jump l J Q) a w) : (Code.scope c).wp P Q a w :=
  wp_scope_jumps l J μ hf (first fun a w h => wp_mono (pass a w h) (by
    intro e a w h
    cases e with
    | goto l' => exact ⟨h.1, h.2.1⟩
    | _ => exact h)) fun a w h => wp_seq (wp_skip (pass a w h))
/-- Records in memory, as they are told. -/
def Recs (W : World) (l : List Rc) (m : List (Nat × List Nat)) : Prop :=
  l.map (fun x => (x.k, x.bs)) = m.map (fun y => ((y.1 : Int), y.2)) ∧ ∀ x ∈ l, x.bs.length ≤ x.c ∧ ByT W x.A x.bs ∧ (x.A = none → x.bs = [])
theorem Recs.next {W W' : World} {l : List Rc} {m : List (Nat × List Nat)} (h : Recs W l m) (hb : Below W.heap.size W W') : Recs W' l m := ⟨h.1, fun x hx => ⟨(h.2 x hx).1, (h.2 x hx).2.1.next hb, (h.2 x hx).2.2⟩⟩
def RInv (W : World) (bs : List Nat) (t : Nat) (v : Value) (l : List Rc) (m : List (Nat × List Nat)) (w : World) : Prop :=
  t ≤ bs.length ∧ w.ownsRow W.heap.size 24 2 v l.length (rcs l) ∧ Recs w l m ∧ Fr.Part 3 9 bs t m ∧ Below W.heap.size W w ∧ l.length ≤ t
/-- Where a slice's slice begins. -/
def cutA (A : Option Addr) (c t : Nat) : Option Addr := if c = t then A else A.map (·.add t)
theorem cutA_byr {W : World} {A : Option Addr} {bs : List Nat} {c t : Nat} (h : ByR W A bs) (hc : bs.length ≤ c) : ByR W (cutA A c t) (bs.drop t) := by
  by_cases ht : t < bs.length
  · obtain ⟨b, p, rfl, hb, hcl⟩ := h.resolve_left (by rintro rfl; simp at ht)
    unfold cutA
    rw [if_neg (by omega)]
    refine Or.inr ⟨b, p + t, by simp [add_plain], hb, fun i x hx => ?_⟩
    rw [List.getElem?_drop] at hx
    have := hcl _ _ hx
    rwa [show p + (t + i) = p + t + i by omega] at this
  · left
    exact List.drop_of_length_le (by omega)
theorem byr_take {W : World} {A : Option Addr} {bs : List Nat} (n : Nat) (h : ByR W A bs) : ByR W A (bs.take n) := by
  rcases h with rfl | ⟨b, p, rfl, hb, hcl⟩
  · left; simp
  · refine Or.inr ⟨b, p, rfl, hb, fun i x hx => ?_⟩
    rw [List.getElem?_take] at hx
    split at hx
    · exact hcl _ _ hx
    · cases hx
section
variable (W : World)
set_option maxHeartbeats 4000000 in
set_option maxRecDepth 20000 in
theorem read_any (A : Option Addr) (n c : Nat) (bs : List Nat) (hn : bs.length = n) (hm : n ≤ 100000) (hc : n ≤ c) (h : ByR W A bs) (h256 : ∀ x ∈ bs, x < 256) :
    Calls Try.prog 9 #[.slice A n c] W fun e W' => ∃ v l, e = .returned (.tuple #[v, .int .i64 ((Fr.readB 3 9 bs).2.1 : Nat), .int .i64 ((Fr.readB 3 9 bs).2.2 : Nat)]) ∧
      W'.ownsRow W.heap.size 24 2 v l.length (rcs l) ∧ Recs W' l (Fr.readB 3 9 bs).1 ∧ Below W.heap.size W W' := by
  obtain ⟨rb, hrb⟩ : ∃ rb, rb = Fr.readB 3 9 bs := ⟨_, rfl⟩
  rw [← hrb]
  obtain ⟨rl, rt, re⟩ := rb
  have HRB := Lib.hid hrb
  have HN := Lib.hid hn
  have HM := Lib.hid hm
  have HC := Lib.hid hc
  have HH := Lib.hid h
  have H256 := Lib.hid h256
  clear hrb hn hm hc h h256
  go_enter Try.func9, Try.ntmps9
  go_wp2_with fail
  refine wp_scope_once 0 (fun a' w' => ∃ (t : Nat) (v : Value) (l : List Rc) (m : List (Nat × List Nat)) (u7 u8 u9 u10 u11 u12 u13 u14 u15 u16 u17 u18 u19 u20 u21 u22 u23 u24 u25 u26 u27 u28 u29 u30 u31 u32 u33 u34 u35 u36 u37 u38 u39 : Value), a' = { tmps := #[.slice A n c, undef, .slice none 0 0, .int .i64 0, .int .i64 0, v, .int .i64 (t : Nat), u7, u8, u9, u10, u11, u12, u13, u14, u15, u16, u17, u18, u19, u20, u21, u22, u23, u24, u25, u26, u27, u28, u29, u30, u31, u32, u33, u34, u35, u36, u37, u38, u39], defers := [] } ∧ RInv W bs t v l m w') (fun a' _ => n - (intOf (a'.tmps.getD 6 undef)).toNat) rfl ?_ ?_
  case refine_2 =>
    intro hrest
    go_wp2_with fail
    go_step3
    rename_i hK1
    refine hK1 _ _ (hrest _ _ ?_)
    refine ⟨0, _, [], [], _, _, _, _, _, _, _, _, _, _, _, _, _, _, _, _, _, _, _, _, _, _, _, _, _, _, _, _, _, _, _, _, _, rfl, ?_⟩
    exact ⟨Nat.zero_le _, World.ownsRow_nil _ _ _ _, ⟨rfl, fun x hx => by cases hx⟩, Fr.part_zero, Below.refl _ _, Nat.le_refl _⟩
  case refine_1 =>
    rintro a1 w1 ⟨t, v, l, m, u7, u8, u9, u10, u11, u12, u13, u14, u15, u16, u17, u18, u19, u20, u21, u22, u23, u24, u25, u26, u27, u28, u29, u30, u31, u32, u33, u34, u35, u36, u37, u38, u39, rfl, hI⟩
    have HI := Lib.hid hI
    clear hI
    obtain ⟨r, hr⟩ : ∃ r, r = bs.drop t := ⟨_, rfl⟩
    have HT := Lib.hid (show t ≤ n from HN.out ▸ HI.out.1)
    have hrl : r.length = n - t := by rw [hr, List.length_drop, HN.out]
    have HR := Lib.hid (show ∀ w, Below W.heap.size W w → ByR w (cutA A c t) r from fun w hb => by rw [hr]; exact cutA_byr (HH.out.next hb) (by rw [HN.out]; exact HC.out))
    have HR256 := Lib.hid (show ∀ x ∈ r, x < 256 from fun x hx => H256.out x (by rw [hr] at hx; exact List.mem_of_mem_drop hx))
    have HRD := Lib.hid hr
    have HRL := Lib.hid hrl
    have t1 : (t : Int) ≤ (n : Nat) := by have := HT.out; omega
    have t2 : t ≤ n := HT.out
    have t3 : (t : Int) ≤ (c : Nat) := by have := HC.out; omega
    have HW := Lib.hid (whole_any w1 (cutA A c t) (n - t) (c - t) r hrl (by have := HM.out; omega) (by have := HC.out; omega) (HR.out w1 HI.out.2.2.2.2.1) HR256.out)
    obtain ⟨wh, hwh⟩ : ∃ wh, wh = Fr.whole r := ⟨_, rfl⟩
    rw [← hwh] at HW
    have HWH := Lib.hid hwh
    clear hr hrl hwh
    have hcut : (if c = t then A else Option.map (fun x => x.add t) A) = cutA A c t := rfl
    go_upto_region 4 with (go_at_call 16; refine HW.out.mono ?_; rintro e w2 ⟨rfl, hb⟩; have HB2 := Lib.hid hb; clear hb HW)
    have HI2 := Lib.hid (show RInv W bs t v l m w2 from ⟨HI.out.1, ownG_next HI.out.2.1 HB2.out, HI.out.2.2.1.next HB2.out, HI.out.2.2.2.1, HI.out.2.2.2.2.1.trans (HB2.out.mono HI.out.2.2.2.2.1.size), HI.out.2.2.2.2.2⟩)
    clear HI HB2
    by_cases hw0 : wh = 0
    · subst hw0
      have HE := Lib.hid (show (rl, rt, re) = (m, t, 0) from HRB.out.trans (Fr.part_end HI2.out.2.2.2.1 (by rw [← HRD.out]; exact HWH.out.symm)))
      go_wp2_with fail
      simp only [Exit.jump]
      go_ret3
      have e := HE.out
      simp only [Prod.mk.injEq] at e
      obtain ⟨rfl, rfl, rfl⟩ := e
      exact ⟨v, l, rfl, HI2.out.2.1, HI2.out.2.2.1, HI2.out.2.2.2.2.1⟩
    have q0 : ((wh : Int) == 0) = false := by simpa using hw0
    have HW9 := Lib.hid (show 9 ≤ wh by rw [HWH.out]; exact Fr.whole_ge (by rw [← HWH.out]; exact hw0))
    have HWL := Lib.hid (show wh ≤ n - t by rw [HWH.out, ← HRL.out]; exact Fr.whole_le r)
    obtain ⟨t', ht'⟩ : ∃ t', t' = t + wh := ⟨_, rfl⟩
    have HT' := Lib.hid ht'
    have HLE := Lib.hid (show t' ≤ n by have := HWL.out; omega)
    have a1 : wrap64 ((t : Int) + (wh : Int)) = (t' : Nat) := by have := HLE.out; have := HM.out; unfold wrap64; omega
    have a3 : (t : Int) ≤ (t' : Nat) := by clear a1; omega
    have a4 : (t' : Int) ≤ (c : Nat) := by clear a1; have := HLE.out; have := HC.out; omega
    have a5 : t' - t = wh := by clear a1; omega
    clear ht' hw0
    have HO := Lib.hid (open_any w2 (cutA A c t) wh (c - t) (r.take wh) (by rw [List.length_take, HRL.out]; have := HWL.out; omega) HW9.out (by have := HWL.out; have := HM.out; omega) (by have := HWL.out; have := HC.out; omega) (byr_take wh (HR.out w2 HI2.out.2.2.2.2.1)) (fun x hx => HR256.out x (List.mem_of_mem_take hx)))
    rw [Fr.kind_take HW9.out, Fr.data_take, Fr.err_take HW9.out] at HO
    obtain ⟨er, her⟩ : ∃ er, er = Fr.errOf 3 9 r wh := ⟨_, rfl⟩
    obtain ⟨kd, hkd⟩ : ∃ kd, kd = Fr.kindOf r := ⟨_, rfl⟩
    obtain ⟨dt, hdt⟩ : ∃ dt, dt = Fr.dataOf r wh := ⟨_, rfl⟩
    rw [← her, ← hkd, ← hdt] at HO
    have HER := Lib.hid her
    have HKD := Lib.hid hkd
    have HDT := Lib.hid hdt
    clear her hkd hdt
    by_cases he : er = 0
    case neg =>
      have HE := Lib.hid (show (rl, rt, re) = (m, t, er) from by
        rw [HER.out, HWH.out, HRD.out]
        exact HRB.out.trans (Fr.part_bad HI2.out.2.2.2.1 (by rw [← HRD.out, ← HWH.out]; have := HW9.out; omega) (by rw [← HRD.out, ← HWH.out, ← HER.out]; exact he)))
      have q1 : ((er : Int) != 0) = true := by simpa using he
      have HE0 := Lib.hid he
      clear he
      go_wp2_with (go_at_call 17; refine HO.out.mono ?_; rintro e w3 ⟨-, ho, hb⟩; obtain rfl := ho HE0.out; have HB3 := Lib.hid hb; clear hb ho HO)
      simp only [Exit.jump]
      go_ret3
      have e := HE.out
      simp only [Prod.mk.injEq] at e
      obtain ⟨rfl, rfl, rfl⟩ := e
      have hb3 := HB3.out.alloc HB3.out.size (.cells #[.int .i64 0, .slice none 0 0] 24)
      exact ⟨v, l, rfl, ownG_next HI2.out.2.1 hb3, HI2.out.2.2.1.next hb3, HI2.out.2.2.2.2.1.trans (hb3.mono HI2.out.2.2.2.2.1.size)⟩
    case pos =>
      subst he
      have HER0 := Lib.hid (show Fr.errOf 3 9 r wh = 0 from HER.out.symm)
      go_upto_region 9 with (go_at_call 17; refine HO.out.mono ?_; rintro e w3 ⟨ho, -, hb⟩; obtain ⟨A3, c3, rfl, hc3, hr3, hA3⟩ := ho rfl; have HB3 := Lib.hid hb; have HR3 := Lib.hid (And.intro hc3 (And.intro hr3 hA3)); clear hb ho HO hc3 hr3 hA3)
      obtain ⟨W4, hW4⟩ : ∃ W4, W4 = w3.alloc (.cells #[.int .i64 (kd : Nat), .slice A3 dt.length c3] 24) := ⟨_, rfl⟩
      have hb4 : Below w3.heap.size w3 W4 := by rw [hW4]; exact (Below.refl _ _).alloc (Nat.le_refl _) _
      have hX4 : Blk W4 w3.heap.size 24 #[.int .i64 (kd : Nat), .slice A3 dt.length c3] := by rw [hW4]; exact Blk.new _ _ _
      rw [← hW4]
      clear hW4
      obtain ⟨x, hx⟩ : ∃ x : Rc, x = ⟨kd, A3, c3, dt⟩ := ⟨_, rfl⟩
      have hb5 := (Below.refl W4.heap.size W4).alloc (Nat.le_refl _) (.cells #[.int .i64 (kd : Nat), .slice A3 dt.length c3] 24)
      have hb25 := HB3.out.trans ((hb4.trans (hb5.mono hb4.size)).mono HB3.out.size)
      have hO5 := ownG_next HI2.out.2.1 hb25
      have hS5 : Src (W4.alloc (.cells #[.int .i64 (kd : Nat), .slice A3 dt.length c3] 24)) (some ⟨W4.heap.size, 0, none⟩) 1 x.cells := by
        refine Or.inl ⟨_, rfl, fun j u hj => ?_⟩
        rw [add_plain, Nat.zero_add, (Blk.new W4 24 #[.int .i64 (kd : Nat), .slice A3 dt.length c3]).cell]
        rw [hx] at hj
        show (Rc.cells ⟨kd, A3, c3, dt⟩).toArray[j]? = some u
        rw [List.getElem?_toArray]
        exact hj
      have HB25 := Lib.hid hb25
      have HO5 := Lib.hid hO5
      have HS5 := Lib.hid hS5
      have HX := Lib.hid hx
      have HZ5 := Lib.hid (show W.heap.size ≤ (W4.alloc (.cells #[.int .i64 (kd : Nat), .slice A3 dt.length c3] 24)).heap.size from Nat.le_trans HI2.out.2.2.2.2.1.size hb25.size)
      have HLL := Lib.hid (show l.length ≤ 100000 by have := HI2.out.2.2.2.2.2; have := HT.out; have := HM.out; omega)
      have HR5 := Lib.hid (HR3.out.2.1.next (hb4.trans (hb5.mono hb4.size)))
      have g0 : W4.cell? ⟨w3.heap.size, 0, none⟩ = some (.int .i64 (kd : Nat)) := hX4.cell 0
      have g1 : W4.cell? ⟨w3.heap.size, 1, none⟩ = some (.slice A3 dt.length c3) := hX4.cell 1
      obtain ⟨i0, z0, hi, hz, hsz, hby, hzs⟩ := info_rc
      clear hb4 hb5 hb25 hO5 hS5 hx hX4 a1 a3 a4 a5
      go_upto_region 10 with (at_builtin; refine wpList_append_g (by rfl) _ _ 32 rfl W.heap.size 24 i0 z0 Try.underlying32 hi hz (by rw [hsz]; exact hzs) (by rw [hsz]; decide) _ l.length (rcs l) rfl (by rw [hsz]; exact HO5.out) (some ⟨W4.heap.size, 0, none⟩) 1 1 x.cells rfl (by rw [hsz, rc_len]) HS5.out (rc_ones x) (by unfold maxLen; have := HLL.out; omega) (by rw [hby]; have := HLL.out; omega) HZ5.out ?_; rw [hsz]; intro v6 w6 hown hgrow hloc; have HB6 := Lib.hid (ownG_below hgrow HO5.out (Nat.le_refl _) HZ5.out (HI2.out.2.2.2.2.1.trans (HB25.out.mono HI2.out.2.2.2.2.1.size))); have HO6 := Lib.hid hown; have HG6 := Lib.hid hgrow; clear hown hgrow hloc)
      obtain ⟨t0, ht0⟩ : ∃ t0, t0 = t' := ⟨_, rfl⟩
      have b1 : wrap64 ((t : Int) + (wh : Int)) = (t' : Nat) := by have := HLE.out; have := HM.out; have := HT'.out; unfold wrap64; omega
      clear hi hz hsz hby hzs
      go_wp2_with fail
      go_step3
      rw [b1]
      clear b1
      refine ⟨rfl, ⟨t', v6, l ++ [x], m ++ [(kd, dt)], _, _, _, _, _, _, _, _, _, _, _, _, _, _, _, _, _, _, _, _, _, _, _, _, _, _, _, _, _, _, _, _, _, rfl, ?_⟩, ?_⟩
      · refine ⟨by rw [HN.out]; exact HLE.out, ?_, ⟨?_, ?_⟩, ?_, HB6.out, ?_⟩
        · have := HO6.out
          rw [List.length_append]
          rwa [show rcs (l ++ [x]) = rcs l ++ x.cells by simp [rcs]]
        · rw [List.map_append, List.map_append, HI2.out.2.2.1.1, HX.out]; rfl
        · intro y hy
          rcases List.mem_append.1 hy with hy | hy
          · obtain ⟨r1, r2, r3⟩ := HI2.out.2.2.1.2 y hy
            exact ⟨r1, (r2.next HB25.out).grown HG6.out HO5.out (by decide), r3⟩
          · simp only [List.mem_singleton] at hy
            subst hy
            rw [HX.out]
            exact ⟨HR3.out.1, HR5.out.grown HG6.out HO5.out (by decide), HR3.out.2.2⟩
        · have := Fr.part_next HI2.out.2.2.2.1 (by rw [← HRD.out, ← HWH.out]; have := HW9.out; omega) (by rw [← HRD.out, ← HWH.out]; exact HER0.out)
          rw [← HRD.out, ← HWH.out, ← HKD.out, ← HDT.out, ← HT'.out] at this
          exact this
        · rw [List.length_append]; have := HI2.out.2.2.2.2.2; have := HT'.out; have := HW9.out; simp; omega
      · have := HT'.out; have := HW9.out; have := HLE.out; simp [intOf]; omega
end
end Go.Proofs.Ytejehmimidnaiaa
