/-
MarkParts walked: rows put one behind the other; rows that play no part left out.
-/
import Derived.Test.YtlejnjgepnjceaaMkRS
import Derived.Test.YtlejnjgepnjceaaMkOpen
import Derived.Test.YtlejnjgepnjceaaMkRB
import Derived.Test.YtlejnjgepnjceaaMk5
import Derived.Test.YtlejnjgepnjceaaRows2
import Derived.Test.YtlejnjgepnjceaaInv
namespace Go.Proofs.Ytlejnjgepnjceaa
open Go.RowKit
set_option linter.unusedSimpArgs false
set_option linter.unusedVariables false
attribute [local go_sem] Tot.run_store_float

theorem accT_from : ∀ (l : List (Int × Mk)) (t : TotA), l.foldl stepT t = ⟨t.li + (accT l).li, t.pi + (accT l).pi, t.fr + (accT l).fr, t.cs ++ (accT l).cs⟩
  | [], t => by simp [accT]
  | x :: l, t => by
    have h1 := accT_from l (stepT t x)
    have h2 := accT_from l (stepT ⟨0, 0, 0, []⟩ x)
    have h0 : accT (x :: l) = l.foldl stepT (stepT ⟨0, 0, 0, []⟩ x) := rfl
    rw [List.foldl_cons, h1, h0, h2]
    unfold stepT
    cases rowOk x.1 x.2 <;> cases x.2.h <;> simp <;> omega
theorem accT_app (l r : List (Int × Mk)) : accT (l ++ r) = ⟨(accT l).li + (accT r).li, (accT l).pi + (accT r).pi, (accT l).fr + (accT r).fr, (accT l).cs ++ (accT r).cs⟩ := by
  show (l ++ r).foldl stepT _ = _
  rw [List.foldl_append, accT_from r]
  rfl
/-- The rows that play a part. -/
def playM (l : List (Int × Mk)) : List (Int × Mk) := l.filter fun x => rowOk x.1 x.2
theorem accT_play (l : List (Int × Mk)) : accT (playM l) = accT l := by
  unfold accT playM
  rw [List.foldl_filter]
  congr 1
  funext t x
  unfold stepT
  cases rowOk x.1 x.2 <;> rfl
theorem totM_play (l : List (Int × Mk)) : totM (playM l) = totM l := by unfold totM; rw [accT_play]
theorem zip_play (l : List (Int × Mk)) : ((playM l).map Prod.fst).zip ((playM l).map Prod.snd) = playM l := by
  induction playM l with
  | nil => rfl
  | cons x l ih => simp [ih]
theorem play_take (l : List (Int × Mk)) (k : Nat) (h : k < l.length) : playM (l.take (k + 1)) = playM (l.take k) ++ (if rowOk l[k].1 l[k].2 then [l[k]] else []) := by
  unfold playM
  rw [List.take_add_one, List.getElem?_eq_getElem h, List.filter_append]
  simp only [Option.toList_some, List.filter_cons, List.filter_nil]
theorem rmk_ones (l : List Mk) : ∀ u ∈ l.flatMap Mk.rcells, u.oneCell' = true := by
  intro u hu
  obtain ⟨m, _, hm⟩ := List.mem_flatMap.1 hu
  rw [rmk_def] at hm
  simp only [List.mem_cons, List.not_mem_nil, or_false] at hm
  rcases hm with rfl | rfl | rfl <;> rfl
theorem rflat_get : ∀ (l : List Mk) (i j : Nat) (v : Value) (hi : i < l.length), (l[i].rcells)[j]? = some v → (l.flatMap Mk.rcells)[i * 3 + j]? = some v
  | [], i, _, _, hi, _ => by simp at hi
  | m :: l, 0, j, v, _, h => by
    have hj : j < 3 := by have := (List.getElem?_eq_some_iff.1 h).1; rwa [List.getElem_cons_zero, rmk_len] at this
    rw [List.flatMap_cons, List.getElem?_append_left (by rw [rmk_len]; omega)]
    simpa using h
  | m :: l, i + 1, j, v, hi, h => by
    rw [List.flatMap_cons, List.getElem?_append_right (by rw [rmk_len]; omega), rmk_len]
    have := rflat_get l i j v (by simpa using hi) (by simpa using h)
    rw [← this]
    congr 1
    omega
theorem rflat_at : ∀ (l : List Mk) (j : Nat) (u : Value), (l.flatMap Mk.rcells)[j]? = some u → ∃ i r, ∃ hi : i < l.length, j = i * 3 + r ∧ (l[i].rcells)[r]? = some u
  | [], j, u, h => by simp at h
  | m :: l, j, u, h => by
    rw [List.flatMap_cons] at h
    rcases Nat.lt_or_ge j 3 with hj | hj
    · rw [List.getElem?_append_left (by rw [rmk_len]; omega)] at h
      exact ⟨0, j, by simp, by omega, by simpa using h⟩
    · rw [List.getElem?_append_right (by rw [rmk_len]; omega), rmk_len] at h
      obtain ⟨i, r, hi, e, hu⟩ := rflat_at l (j - 3) u h
      exact ⟨i + 1, r, by simpa using hi, by omega, by simpa using hu⟩
theorem add_at (b o j : Nat) : (⟨b, o, none⟩ : Addr).add j = ⟨b, o + j, none⟩ := by unfold Addr.add; split <;> simp_all
/-- Rows that came in may be appended. -/
theorem rmks_src {w : World} {A : Option Addr} {l : List Mk} {n : Nat} (h : RMks w A l) (hn : l.length = n) : Src w A n (l.flatMap Mk.rcells) := by
  rcases h with rfl | ⟨b, o, rfl, _, hc⟩
  · cases A with
    | none => exact Or.inr ⟨rfl, hn.symm, rfl⟩
    | some a => exact Or.inl ⟨a, rfl, fun j u hu => by simp at hu⟩
  · refine Or.inl ⟨_, rfl, fun j u hu => ?_⟩
    obtain ⟨i, r, hi, rfl, hr⟩ := rflat_at l j u hu
    rw [add_at, ← Nat.add_assoc]
    exact hc i hi r u hr
theorem qs_src {w : World} {A : Option Addr} {l : List Int} {n : Nat} (h : Qs w A l) (hn : l.length = n) : Src w A n (l.map (Value.int .i64)) := by
  rcases h with rfl | ⟨b, o, rfl, _, hc⟩
  · cases A with
    | none => exact Or.inr ⟨rfl, hn.symm, rfl⟩
    | some a => exact Or.inl ⟨a, rfl, fun j u hu => by simp at hu⟩
  · refine Or.inl ⟨_, rfl, fun j u hu => ?_⟩
    rw [List.getElem?_map] at hu
    cases hl : l[j]? with
    | none => rw [hl] at hu; cases hu
    | some x =>
      rw [hl] at hu
      obtain ⟨hj, e⟩ := List.getElem?_eq_some_iff.1 hl
      simp only [Option.map_some, Option.some.injEq] at hu
      rw [add_at, hc j hj, e, hu]
/-- A row that the call made, read as what came in. -/
theorem own_qs {w : World} {B n : Nat} {v : Value} {l : List Int} (h : w.ownsRow B 3 1 v n (l.map (Value.int .i64))) : ∃ A c, v = .slice A n c ∧ l.length = n ∧ Qs w A l ∧ ∀ b o, A = some ⟨b, o, none⟩ → v.ownBlock = some b := by
  have hl : l.length = n := by have := h.1; rw [List.length_map] at this; omega
  obtain ⟨A, c, rfl, _, hs, hA⟩ := ownG_slice h
  refine ⟨A, c, rfl, hl, ?_, fun b o e => by subst e; obtain ⟨g, e, _, _, e2⟩ := hA _ rfl; cases e; exact e2⟩
  rcases hs with ⟨ad, rfl, hc⟩ | ⟨rfl, h0, he⟩
  · obtain ⟨g, rfl, _, hg, _⟩ := hA _ rfl
    refine Or.inr ⟨g, 0, rfl, hg, fun i hi => ?_⟩
    have := hc i (.int .i64 l[i]) (by rw [List.getElem?_map, List.getElem?_eq_getElem hi]; rfl)
    rwa [add_at] at this
  · exact Or.inl (by simpa using he)
theorem own_rmks {w : World} {B n : Nat} {v : Value} {l : List Mk} (h : w.ownsRow B 63 3 v n (l.flatMap Mk.rcells)) : ∃ A c, v = .slice A n c ∧ l.length = n ∧ RMks w A l ∧ ∀ b o, A = some ⟨b, o, none⟩ → v.ownBlock = some b := by
  have hl : l.length = n := by have := h.1; rw [rflat_len] at this; omega
  obtain ⟨A, c, rfl, _, hs, hA⟩ := ownG_slice h
  refine ⟨A, c, rfl, hl, ?_, fun b o e => by subst e; obtain ⟨g, e, _, _, e2⟩ := hA _ rfl; cases e; exact e2⟩
  rcases hs with ⟨ad, rfl, hc⟩ | ⟨rfl, h0, he⟩
  · obtain ⟨g, rfl, _, hg, _⟩ := hA _ rfl
    refine Or.inr ⟨g, 0, rfl, hg, fun i hi j u hu => ?_⟩
    have := hc (i * 3 + j) u (rflat_get l i j u hi hu)
    rwa [add_at, ← Nat.add_assoc] at this
  · refine Or.inl (List.length_eq_zero_iff.1 (by omega))
theorem Try.pinfo3 : (Try.prog.info? 3).map (fun i => (i.zero, i.size, i.bytes)) = some (some (.int .i64 0), 1, 8) := by kernel_rfl
theorem Try.pinfo63 : (Try.prog.info? 63).map (fun i => (i.zero, i.size, i.bytes)) = some (some (.agg #[.int .i64 0, .bool false, .int .u64 0]), 3, 24) := by kernel_rfl

set_option maxRecDepth 20000 in
set_option maxHeartbeats 16000000 in
theorem parts_walk (A1 A2 B1 B2 : Option Addr) (n1 n2 m1 m2 c1 c2 d1 d2 : Nat) (q1 q2 : List Int) (l1 l2 : List Mk) (W : World) (hn1 : q1.length = n1) (hn2 : q2.length = n2) (hm1 : l1.length = m1) (hm2 : l2.length = m2) (hb1 : n1 ≤ 9223372036854775807) (hb2 : n2 ≤ 9223372036854775807) (hb3 : m1 ≤ 9223372036854775807) (hb4 : m2 ≤ 9223372036854775807) (hq1 : Qs W A1 q1) (hq2 : Qs W A2 q2) (hM1 : RMks W B1 l1) (hM2 : RMks W B2 l2) (hp1 : ∀ x ∈ l1, x.p < 18446744073709551616) (hp2 : ∀ x ∈ l2, x.p < 18446744073709551616) :
    Calls Try.prog 6 #[.slice A1 n1 c1, .slice A2 n2 c2, .slice B1 m1 d1, .slice B2 m2 d2] W fun e W' => e = .returned (.bool true) ∧ Below W.heap.size W W' := by
  have HN1 := Lib.hid hn1
  have HN2 := Lib.hid hn2
  have HM1 := Lib.hid hm1
  have HM2 := Lib.hid hm2
  have HQ1 := Lib.hid hq1
  have HQ2 := Lib.hid hq2
  have HV1 := Lib.hid hM1
  have HV2 := Lib.hid hM2
  have HP1 := Lib.hid hp1
  have HP2 := Lib.hid hp2
  clear hn1 hn2 hm1 hm2 hq1 hq2 hM1 hM2 hp1 hp2
  go_enter Try.func6, Try.ntmps6
  rcases (show ((60 : Int) < (m1 : Nat) ∨ (¬ (60 : Int) < (m1 : Nat) ∧ (60 : Int) < (m2 : Nat)) ∨ (¬ (60 : Int) < (m1 : Nat) ∧ ¬ (60 : Int) < (m2 : Nat) ∧ n1 ≠ m1) ∨ (¬ (60 : Int) < (m1 : Nat) ∧ ¬ (60 : Int) < (m2 : Nat) ∧ n1 = m1 ∧ n2 ≠ m2)) ∨ (¬ (60 : Int) < (m1 : Nat) ∧ ¬ (60 : Int) < (m2 : Nat) ∧ n1 = m1 ∧ n2 = m2) by omega) with hbig | ⟨i1, i2, rfl, rfl⟩
  · rcases hbig with i1 | ⟨i1, i2⟩ | ⟨i1, i2, i3⟩ | ⟨i1, i2, rfl, i4⟩
    · go_wp2_with fail
      refine (alive7_any W).mono ?_
      rintro e w1 ⟨rfl, hb⟩
      go_wp2_with fail
      go_ret
      exact ⟨rfl, hb⟩
    · go_wp2_with fail
      refine (alive7_any W).mono ?_
      rintro e w1 ⟨rfl, hb⟩
      go_wp2_with fail
      go_ret
      exact ⟨rfl, hb⟩
    · have e3 : ((n1 : Nat) == m1) = false := by simpa using i3
      go_wp2_with fail
      refine (alive7_any W).mono ?_
      rintro e w1 ⟨rfl, hb⟩
      go_wp2_with fail
      go_ret
      exact ⟨rfl, hb⟩
    · have e4 : ((n2 : Nat) == m2) = false := by simpa using i4
      go_wp2_with fail
      refine (alive7_any W).mono ?_
      rintro e w1 ⟨rfl, hb⟩
      go_wp2_with fail
      go_ret
      exact ⟨rfl, hb⟩
  · obtain ⟨iI, hiI, hzI, hsI, hyI⟩ := info_parts Try.pinfo3
    obtain ⟨iR, hiR, hzR, hsR, hyR⟩ := info_parts Try.pinfo63
    have J1 : n1 ≤ 60 := by omega
    have J2 : n2 ≤ 60 := by omega
    obtain ⟨ta, hta⟩ : ∃ t, t = totM (q1.zip l1) := ⟨_, rfl⟩
    obtain ⟨tb, htb⟩ : ∃ t, t = totM (q2.zip l2) := ⟨_, rfl⟩
    have HTA := Lib.hid hta
    have HTB := Lib.hid htb
    go_wp2_with fail
    refine (marks_any B1 n1 d1 l1 W HM1.out (by omega) HV1.out).mono ?_
    rintro e w1 ⟨v1, rfl, ho, hb⟩
    obtain ⟨A3, c3, rfl, _, _, hm⟩ := ho.mks
    have HB1 := Lib.hid hb
    have HK1 := Lib.hid hm
    clear hb hm ho
    go_wp2_with fail
    refine (msum_any A1 A3 n1 n1 c1 c3 q1 l1 w1 HN1.out HM1.out (by omega) (by omega) (HQ1.out.next HB1.out) HK1.out HP1.out).mono ?_
    rintro e w2 ⟨rfl, hb⟩
    rw [← hta]
    have HB2 := Lib.hid (HB1.out.trans (hb.mono HB1.out.size))
    clear hb hta
    go_wp2_with fail
    refine (marks_any B2 n2 d2 l2 w2 HM2.out (by omega) (HV2.out.next HB2.out)).mono ?_
    rintro e w3 ⟨v3, rfl, ho, hb⟩
    obtain ⟨A4, c4, rfl, _, _, hm⟩ := ho.mks
    have HB3 := Lib.hid (HB2.out.trans (hb.mono HB2.out.size))
    have HK3 := Lib.hid hm
    clear hb hm ho
    go_wp2_with fail
    refine (msum_any A2 A4 n2 n2 c2 c4 q2 l2 w3 HN2.out HM2.out (by omega) (by omega) (HQ2.out.next HB3.out) HK3.out HP2.out).mono ?_
    rintro e w4 ⟨rfl, hb⟩
    rw [← htb]
    have HB4 := Lib.hid (HB3.out.trans (hb.mono HB3.out.size))
    clear hb htb HB1 HB2 HB3 HK1 HK3
    have b1 := (Blk.new w4 83 #[.int .i64 0, .int .i64 0, .int .i64 0, .float .f64 0]).alloc (.cells #[.int .i64 0, .int .i64 0, .int .i64 0, .float .f64 0] 83)
    have b2 : Blk (((w4.alloc (.cells #[.int .i64 0, .int .i64 0, .int .i64 0, .float .f64 0] 83)).alloc (.cells #[.int .i64 0, .int .i64 0, .int .i64 0, .float .f64 0] 83)).setRow w4.heap.size ta.cells.toArray) (w4.heap.size + 1) 83 #[.int .i64 0, .int .i64 0, .int .i64 0, .float .f64 0] := (Blk.new' (by simp)).farRow (by omega) _
    go_upto_region 4 with (first | (refine wpList_store_blk rfl 83 _ _ rfl w4.heap.size 83 #[.int .i64 0, .int .i64 0, .int .i64 0, .float .f64 0] ta.cells.toArray rfl rfl b1 (ttinfoA _) (tt_siz _) (tt_one _) ?_; intro hrow1) | (refine wpList_store_blk rfl 83 _ _ rfl (w4.heap.size + 1) 83 #[.int .i64 0, .int .i64 0, .int .i64 0, .float .f64 0] tb.cells.toArray rfl rfl b2 (ttinfoA _) (tt_siz _) (tt_one _) ?_; intro hrow2))
    have hA := hrow1.farRow (show w4.heap.size ≠ w4.heap.size + 1 by omega) tb.cells.toArray
    have hb5 : Below w4.heap.size w4 ((((w4.alloc (.cells #[.int .i64 0, .int .i64 0, .int .i64 0, .float .f64 0] 83)).alloc (.cells #[.int .i64 0, .int .i64 0, .int .i64 0, .float .f64 0] 83)).setRow w4.heap.size ta.cells.toArray).setRow (w4.heap.size + 1) tb.cells.toArray) :=
      below_setRow (below_setRow (((Below.refl w4.heap.size w4).alloc (Nat.le_refl _) _).alloc (by simp) _) (Nat.le_refl _) _) (by omega) _
    obtain ⟨w5, hw5⟩ : ∃ w5, w5 = ((((w4.alloc (.cells #[.int .i64 0, .int .i64 0, .int .i64 0, .float .f64 0] 83)).alloc (.cells #[.int .i64 0, .int .i64 0, .int .i64 0, .float .f64 0] 83)).setRow w4.heap.size ta.cells.toArray).setRow (w4.heap.size + 1) tb.cells.toArray) := ⟨_, rfl⟩
    rw [← hw5] at hA hrow2 hb5 ⊢
    have HBA := Lib.hid hA
    have HBB := Lib.hid hrow2
    have HB5 := Lib.hid (HB4.out.trans (hb5.mono HB4.out.size))
    have HG := Lib.hid (show w4.heap.size < w5.heap.size ∧ w4.heap.size + 1 < w5.heap.size from ⟨hA.lt, hrow2.lt⟩)
    clear hw5 b1 b2 hrow1 hrow2 hA hb5 HB4
    have he := (Below.refl w5.heap.size w5).alloc (Nat.le_refl _) (.cells #[] 3)
    have HO0 := Lib.hid (ownG_empty w5 3 1)
    have HS1 := Lib.hid (qs_src (HQ1.out.next (HB5.out.trans (he.mono HB5.out.size))) HN1.out)
    have HS2 := Lib.hid (HQ2.out.next (HB5.out.trans (he.mono HB5.out.size)))
    have HE := Lib.hid he
    clear he
    go_upto_region 5 with (first
      | (at_builtin; refine wpList_append_g (by rfl) (.tmp 48) (.tmp 49) 79 rfl w5.heap.size 3 iI (.int .i64 0) Try.underlying79 hiI hzI (by rw [hsI]; rfl) (by rw [hsI]; decide) _ (0) ([]) rfl (by rw [hsI]; exact HO0.out) A1 (n1) c1 (q1.map (Value.int .i64)) rfl (by rw [hsI]; exact by rw [List.length_map, HN1.out, Nat.mul_one]) (HS1.out) (by intro u hu; obtain ⟨y, _, rfl⟩ := List.mem_map.1 hu; rfl) (by unfold maxLen; omega) (by rw [hyI]; omega) (by simp) ?_; intro v6 w6 ho6 hg6 hh6; have HO6 := Lib.hid (hsI ▸ ho6); have HBE := Lib.hid (ownG_below hg6 HO0.out (Nat.le_refl _) (by simp) HE.out); clear ho6 hg6 hh6)
      | (at_builtin; refine wpList_append_g (by rfl) (.tmp 50) (.tmp 51) 79 rfl w5.heap.size 3 iI (.int .i64 0) Try.underlying79 hiI hzI (by rw [hsI]; rfl) (by rw [hsI]; decide) _ (0 + n1) ([] ++ q1.map (Value.int .i64)) rfl (by rw [hsI]; exact HO6.out) A2 (n2) c2 (q2.map (Value.int .i64)) rfl (by rw [hsI]; exact by rw [List.length_map, HN2.out, Nat.mul_one]) ((qs_src (HQ2.out.next (HB5.out.trans (HBE.out.mono HB5.out.size))) HN2.out)) (by intro u hu; obtain ⟨y, _, rfl⟩ := List.mem_map.1 hu; rfl) (by unfold maxLen; omega) (by rw [hyI]; omega) HBE.out.size ?_; intro v7 w7 ho7 hg7 hh7; have HO7 := Lib.hid (hsI ▸ ho7); have HBF := Lib.hid (ownG_below hg7 HO6.out (Nat.le_refl _) HBE.out.size HBE.out); clear ho7 hg7 hh7))
    have HQ7 := HO7
    clear HO6 HO0 HE HBE HS1 HS2
    have HB7 := Lib.hid (HB5.out.trans (HBF.out.mono HB5.out.size))
    have he := (Below.refl w7.heap.size w7).alloc (Nat.le_refl _) (.cells #[] 63)
    have HO0 := Lib.hid (ownG_empty w7 63 3)
    have HS1 := Lib.hid (rmks_src (HV1.out.next (HB7.out.trans (he.mono HB7.out.size))) HM1.out)
    have HE := Lib.hid he
    clear he
    go_upto_region 6 with (first
      | (at_builtin; refine wpList_append_g (by rfl) (.tmp 53) (.tmp 54) 61 rfl w7.heap.size 63 iR (.agg #[.int .i64 0, .bool false, .int .u64 0]) Try.underlying61 hiR hzR (by rw [hsR]; rfl) (by rw [hsR]; decide) _ (0) ([]) rfl (by rw [hsR]; exact HO0.out) B1 (n1) d1 (l1.flatMap Mk.rcells) rfl (by rw [hsR]; exact by rw [rflat_len, HM1.out]) (HS1.out) (rmk_ones _) (by unfold maxLen; omega) (by rw [hyR]; omega) (by simp) ?_; intro v8 w8 ho6 hg6 hh6; have HO6 := Lib.hid (hsR ▸ ho6); have HBE := Lib.hid (ownG_below hg6 HO0.out (Nat.le_refl _) (by simp) HE.out); clear ho6 hg6 hh6)
      | (at_builtin; refine wpList_append_g (by rfl) (.tmp 55) (.tmp 56) 61 rfl w7.heap.size 63 iR (.agg #[.int .i64 0, .bool false, .int .u64 0]) Try.underlying61 hiR hzR (by rw [hsR]; rfl) (by rw [hsR]; decide) _ (0 + n1) ([] ++ l1.flatMap Mk.rcells) rfl (by rw [hsR]; exact HO6.out) B2 (n2) d2 (l2.flatMap Mk.rcells) rfl (by rw [hsR]; exact by rw [rflat_len, HM2.out]) ((rmks_src (HV2.out.next (HB7.out.trans (HBE.out.mono HB7.out.size))) HM2.out)) (rmk_ones _) (by unfold maxLen; omega) (by rw [hyR]; omega) HBE.out.size ?_; intro v9 w9 ho7 hg7 hh7; have HO9 := Lib.hid (hsR ▸ ho7); have HBG := Lib.hid (ownG_below hg7 HO6.out (Nat.le_refl _) HBE.out.size HBE.out); clear ho7 hg7 hh7))
    clear HO6 HO0 HE HBE HS1
    obtain ⟨q, hq⟩ : ∃ q, q = q1 ++ q2 := ⟨_, rfl⟩
    obtain ⟨l, hl⟩ : ∃ l, l = l1 ++ l2 := ⟨_, rfl⟩
    obtain ⟨N, hN⟩ : ∃ N, N = 0 + n1 + n2 := ⟨_, rfl⟩
    have HOQ := ownG_next HQ7.out HBG.out
    have HOL := HO9.out
    rw [List.nil_append, ← List.map_append, ← hq, ← hN] at HOQ
    rw [List.nil_append, ← List.flatMap_append, ← hl, ← hN] at HOL
    obtain ⟨AQ, cq, rfl, hlq, hqs, _⟩ := own_qs HOQ
    obtain ⟨AR, cr, rfl, hlr, hrs, _⟩ := own_rmks HOL
    have HN60 := Lib.hid (show N ≤ 120 by omega)
    have HLQ := Lib.hid hlq
    have HLR := Lib.hid hlr
    have HQS := Lib.hid hqs
    have HRS := Lib.hid hrs
    have HPL := Lib.hid (show ∀ x ∈ l, x.p < 18446744073709551616 from fun x hx => by rw [hl] at hx; rcases List.mem_append.1 hx with h | h; exact HP1.out x h; exact HP2.out x h)
    have HPP := Lib.hid (show q.zip l = q1.zip l1 ++ q2.zip l2 from by rw [hq, hl]; exact List.zip_append (HN1.out.trans HM1.out.symm))
    have HB9 := Lib.hid (HB7.out.trans (HBG.out.mono HB7.out.size))
    have HB59 := Lib.hid (HBF.out.trans (HBG.out.mono HBF.out.size))
    have HBA9 := Lib.hid (HBA.out.next HB59.out)
    have HBB9 := Lib.hid (HBB.out.next HB59.out)
    clear hq hl HOQ HOL hlq hlr hqs hrs HQ7 HO7 HO9 HBF HBG HB7 HB5 HBA HBB HB59 hN
    obtain ⟨tc, htc⟩ : ∃ t, t = totM (q.zip l) := ⟨_, rfl⟩
    have HTC := Lib.hid htc
    go_wp2_with fail
    refine (marks_any AR N cr l w9 HLR.out (by have := HN60.out; omega) HRS.out).mono ?_
    rintro e w10 ⟨v10, rfl, ho, hb⟩
    obtain ⟨A5, c5, rfl, _, _, hm⟩ := ho.mks
    have HB10 := Lib.hid hb
    have HK10 := Lib.hid hm
    clear hb hm ho
    go_wp2_with fail
    refine (msum_any AQ A5 N N cq c5 q l w10 HLQ.out HLR.out (by have := HN60.out; omega) (by have := HN60.out; omega) (HQS.out.next HB10.out) HK10.out HPL.out).mono ?_
    rintro e w11 ⟨rfl, hb⟩
    rw [← htc]
    have HB11 := Lib.hid (HB10.out.trans (hb.mono HB10.out.size))
    clear hb htc HB10 HK10
    go_upto_region 9 with (first | (refine wpList_store_blk rfl 83 _ _ rfl (w11).heap.size 83 #[.int .i64 0, .int .i64 0, .int .i64 0, .float .f64 0] tc.cells.toArray rfl rfl (Blk.new' rfl) (ttinfoA _) (tt_siz _) (tt_one _) ?_; intro hy; have hbn : Below (w11).heap.size w11 (((w11).alloc (.cells #[.int .i64 0, .int .i64 0, .int .i64 0, .float .f64 0] 83)).setRow (w11).heap.size tc.cells.toArray) := below_setRow ((Below.refl _ _).alloc (Nat.le_refl _) _) (Nat.le_refl _) _; obtain ⟨w12, hnw⟩ : ∃ w12, w12 = (((w11).alloc (.cells #[.int .i64 0, .int .i64 0, .int .i64 0, .float .f64 0] 83)).setRow (w11).heap.size tc.cells.toArray) := ⟨_, rfl⟩; rw [← hnw] at hbn hy ⊢; clear hnw; have HTC2 := Lib.hid hy; have HB12 := Lib.hid (HB11.out.trans (hbn.mono HB11.out.size)); clear hy hbn))
    have HQ12 := Lib.hid (HQS.out.next HB12.out)
    have HR12 := Lib.hid (HRS.out.next HB12.out)
    have HA12 := Lib.hid (HBA9.out.next HB12.out)
    have HC12 := Lib.hid (HBB9.out.next HB12.out)
    have HW12 := Lib.hid (HB9.out.trans (HB12.out.mono HB9.out.size))
    clear HQS HRS HBA9 HBB9 HB9 HB12 HB11
    obtain ⟨P, hP⟩ : ∃ P, P = q.zip l := ⟨_, rfl⟩
    have HP := Lib.hid hP
    have HPN := Lib.hid (show P.length = N by rw [hP, List.length_zip, HLQ.out, HLR.out, Nat.min_self])
    clear hP
    go_wp2_with fail
    go_loopw [14, 15, 16] (fun vs vk i wr => ∃ k : Nat, k ≤ N ∧ i = .int .i64 k ∧ wr.ownsRow w12.heap.size 3 1 vs (playM (P.take k)).length (((playM (P.take k)).map Prod.fst).map (Value.int .i64)) ∧ wr.ownsRow w12.heap.size 63 3 vk (playM (P.take k)).length (((playM (P.take k)).map Prod.snd).flatMap Mk.rcells) ∧ Apart2 vs vk ∧ Below w12.heap.size w12 wr) (fun _ _ i _ => N - (intOf i).toNat)
    case atStart => exact ⟨0, Nat.zero_le _, rfl, by rw [List.take_zero]; exact World.ownsRow_nil _ _ _ _, by rw [List.take_zero]; exact World.ownsRow_nil _ _ _ _, fun b hb => (by cases hb), Below.refl _ _⟩
    case round =>
      obtain ⟨k, hk, rfl, hS, hK, hap, hbl⟩ := hrel
      have hn9 := HN60.out
      have HS := Lib.hid hS
      have HK := Lib.hid hK
      have HAP := Lib.hid hap
      have HBL := Lib.hid hbl
      clear hS hK hap hbl
      by_cases hlt : k < N
      · have h1 : (k : Int) < (N : Nat) := by omega
        have hkq : k < q.length := by have := HLQ.out; omega
        have hkr : k < l.length := by have := HLR.out; omega
        have hkp : k < P.length := by have := HPN.out; omega
        have hPk : P[k] = (q[k], l[k]) := by have := zip_get hkq hkr; simp only [HP.out]; exact this
        have hJ := play_take P k hkp
        rw [hPk] at hJ
        obtain ⟨qb, qo, rfl, hqb, hqc⟩ := HQ12.out.resolve_left (by rintro rfl; simp at hkq)
        obtain ⟨rb, ro, rfl, hrb, hrc⟩ := HR12.out.resolve_left (by rintro rfl; simp at hkr)
        have HCQ := Lib.hid (show ∀ w', Below w12.heap.size w12 w' → w'.cell? ⟨qb, qo + k, none⟩ = some (.int .i64 q[k]) from fun w' hS => (hS.cell (p := ⟨qb, qo + k, none⟩) hqb).trans (hqc k hkq))
        have HCM := Lib.hid (show ∀ w', Below w12.heap.size w12 w' → w'.rangeAt rb (ro + k * 3) l[k].rcells from fun w' hS => mrange_next hS (hrc k hkr))
        have HMP := Lib.hid (HPL.out _ (List.getElem_mem hkr))
        obtain ⟨qk, hqk⟩ : ∃ qk, qk = q[k] := ⟨_, rfl⟩
        obtain ⟨mk, hmk⟩ : ∃ mk, mk = l[k] := ⟨_, rfl⟩
        rw [← hqk] at HCQ hJ
        rw [← hmk] at HCM hJ HMP
        have HJ := Lib.hid hJ
        have HLE := Lib.hid (show (playM (P.take k)).length ≤ 120 from Nat.le_trans (List.length_filter_le _ _) (by rw [List.length_take]; have := HN60.out; omega))
        obtain ⟨L, hL⟩ : ∃ L, L = playM (P.take k) := ⟨_, rfl⟩
        rw [← hL] at HS HK HJ HLE
        clear hJ hqk hmk hqb hqc hrb hrc hkq hkr hkp hPk hL
        have cq := HCQ.out wr HBL.out
        have hr := HCM.out wr HBL.out
        by_cases hq0 : 0 < qk
        · go_wp2_with (first | (refine wpList_load_midm (by rfl) 63 _ rfl _ _ rfl mk.rcells _ hr Try.underlying63 rfl (rmkinfo _) ?_))
          refine (rright_any mk wr).mono ?_
          rintro e wr1 ⟨rfl, hb⟩
          replace HS := Lib.hid (ownG_next HS.out hb)
          replace HK := Lib.hid (ownG_next HK.out hb)
          replace HBL := Lib.hid (HBL.out.trans (hb.mono HBL.out.size))
          clear hb cq hr
          cases hrm : rightM mk with
          | false =>
            have HE := Lib.hid (show playM (P.take (k + 1)) = L by rw [HJ.out]; unfold rowOk; rw [hrm, Bool.and_false]; simp)
            clear hrm
            go_wp2_with fail
            go_roundw
            case rel => exact ⟨k + 1, by omega, by go_num, by rw [HE.out]; exact HS.out, by rw [HE.out]; exact HK.out, HAP.out, HBL.out⟩
            case measure => simp [intOf]; omega
          | true =>
            have HE := Lib.hid (show playM (P.take (k + 1)) = L ++ [(qk, mk)] by rw [HJ.out]; unfold rowOk; rw [hrm, decide_eq_true (show 1 ≤ qk by omega)]; rfl)
            clear hrm
            go_upto_region 13 with fail
            refine wp_region_tree (S := (fun w => Below w12.heap.size w12 w)) (.take 0 (.take 1 (.take 2 (.take 3 (.take 4 (.take 7 (.take 8 (.take 9 (.take 10 (.take 11 (.two 5 (.two 6 (.one 12 (.one 13 (.take 14 (.take 15 .nil)))) 12 (.one 6 (.one 13 (.take 14 (.take 15 .nil))))) 12 (.one 5 (.one 6 (.one 13 (.take 14 (.take 15 .nil)))))))))))))))) 9999 (by kernel_rfl) (by kernel_rfl) (by kernel_rfl) (by kernel_rfl) (by kernel_rfl) (fun _ _ d _ _ h => by cases d <;> exact h) ?_ (fun hHeld => ?_); (focus (exact HBL.out.drew)); simp only [Tree.map, List.getElem?_toArray, List.getElem?_cons_zero, List.getElem?_cons_succ]
            obtain ⟨dd, hdw⟩ : ∃ dd, dd = wr1.drew := ⟨_, rfl⟩
            replace HS := Lib.hid (show dd.ownsRow w12.heap.size 3 1 u14 L.length ((L.map Prod.fst).map (Value.int .i64)) from by rw [hdw]; exact HS.out)
            replace HK := Lib.hid (show dd.ownsRow w12.heap.size 63 3 u15 L.length ((L.map Prod.snd).flatMap Mk.rcells) from by rw [hdw]; exact HK.out)
            rw [← hdw] at hHeld ⊢
            clear hdw
            (repeat (first | (refine wpTree.take (v := undef) (Or.inr ⟨by rfl, rfl⟩) ?_; simp only [Act.put, List.setIfInBounds_toArray, List.set_cons_zero, List.set_cons_succ]) | (refine wpTree.take (v := .agg (Mk.rcells mk).toArray) (yieldsIf_load_mid rfl 63 _ rfl _ _ rfl (Mk.rcells _) _ (fun _ hS => HCM.out _ hS) Try.underlying63 rfl (rmkinfo _)) ?_; simp only [Act.put, List.setIfInBounds_toArray, List.set_cons_zero, List.set_cons_succ]) | (refine wpTree.take (v := .int .i64 qk) (Or.inl ⟨by rfl, ?_⟩) ?_; (focus (intro w9 hS; have cq9 := HCQ.out w9 hS; go_simp; (try (with_reducible rfl)); done)); simp only [Act.put, List.setIfInBounds_toArray, List.set_cons_zero, List.set_cons_succ]) | (refine wpTree.take (v := ?_) (Or.inl ⟨by rfl, ?_⟩) ?_; rotate_left; (focus (intro _ hS; (try dsimp only at hS); go_split_ands; (try subst hS); go_simp; (try (with_reducible rfl)); done)); simp only [Act.put, List.setIfInBounds_toArray, List.set_cons_zero, List.set_cons_succ])))
            refine wpTree.two ?_ ?_
            · refine wpTree.one (fun K hK => ?_)
              go_simp
              have hb := (Below.refl dd.heap.size dd).alloc (Nat.le_refl _) (.cells #[.int .i64 qk] 3)
              have hnb := Blk.new dd 3 #[.int .i64 qk]
              have HL5 := Lib.hid (show dd.heap.size < (dd.alloc (.cells #[.int .i64 qk] 3)).heap.size from hnb.lt)
              obtain ⟨y1, hnw⟩ : ∃ y1, y1 = dd.alloc (.cells #[.int .i64 qk] 3) := ⟨_, rfl⟩
              rw [← hnw] at hb hnb HL5 ⊢
              clear hnw
              have hBelow := Below.trans hHeld (hb.mono (Below.size hHeld))
              refine hK.out _ _ hBelow (fun hHeld' => ?_)
              clear hK K hHeld
              have hHeld := hHeld'
              clear hHeld'
              clear hBelow
              replace HS := Lib.hid (ownG_next HS.out hb)
              replace HK := Lib.hid (ownG_next HK.out hb)
              have H5 := Lib.hid hnb
              clear hb hnb
              (try simp only [Act.put, List.setIfInBounds_toArray, List.set_cons_zero, List.set_cons_succ])
              (repeat (first | (refine wpTree.take (v := undef) (Or.inr ⟨by rfl, rfl⟩) ?_; simp only [Act.put, List.setIfInBounds_toArray, List.set_cons_zero, List.set_cons_succ]) | (refine wpTree.take (v := .agg (Mk.rcells mk).toArray) (yieldsIf_load_mid rfl 63 _ rfl _ _ rfl (Mk.rcells _) _ (fun _ hS => HCM.out _ hS) Try.underlying63 rfl (rmkinfo _)) ?_; simp only [Act.put, List.setIfInBounds_toArray, List.set_cons_zero, List.set_cons_succ]) | (refine wpTree.take (v := .int .i64 qk) (Or.inl ⟨by rfl, ?_⟩) ?_; (focus (intro w9 hS; have cq9 := HCQ.out w9 hS; go_simp; (try (with_reducible rfl)); done)); simp only [Act.put, List.setIfInBounds_toArray, List.set_cons_zero, List.set_cons_succ]) | (refine wpTree.take (v := ?_) (Or.inl ⟨by rfl, ?_⟩) ?_; rotate_left; (focus (intro _ hS; (try dsimp only at hS); go_split_ands; (try subst hS); go_simp; (try (with_reducible rfl)); done)); simp only [Act.put, List.setIfInBounds_toArray, List.set_cons_zero, List.set_cons_succ])))
              refine wpTree.two ?_ ?_
              · refine wpTree.one (fun K hK => ?_)
                have hsrc : Src y1 (some ⟨dd.heap.size, 0, none⟩) 1 [.int .i64 qk] := Or.inl ⟨_, rfl, fun j u hj => by rw [add_at, H5.out.cell, Nat.zero_add]; simpa using hj⟩
                refine step_append_g (by rfl) (.tmp 80) (.tmp 85) 79 rfl w12.heap.size 3 iI (.int .i64 0) Try.underlying79 hiI hzI (by rw [hsI]; rfl) (by rw [hsI]; decide) _ (L.length) ((L.map Prod.fst).map (Value.int .i64)) rfl (by rw [hsI]; exact HS.out) _ (1) _ ([.int .i64 qk]) rfl (by rw [hsI]; exact rfl) (hsrc) (by intro u hu; simp at hu; subst hu; rfl) (by have := HLE.out; unfold maxLen; omega) (by have := HLE.out; rw [hyI]; omega) hHeld.size ?_
                intro v6y2 y2 ho hg hh
                have hBelow := ownG_below hg HS.out (Nat.le_refl _) hHeld.size hHeld
                refine hK.out _ _ hBelow (fun hHeld' => ?_)
                clear hK K hHeld
                have hHeld := hHeld'
                clear hHeld'
                clear hBelow hsrc
                have HAQ := Lib.hid (Apart2.grown HAP.out hh HK.out)
                replace HK := Lib.hid (HK.out.kept hg HAP.out.symm.ne)
                replace HAP := HAQ
                replace HS := Lib.hid (hsI ▸ ho)
                clear ho hg hh HAQ H5 HL5
                (try simp only [Act.put, List.setIfInBounds_toArray, List.set_cons_zero, List.set_cons_succ])
                (repeat (first | (refine wpTree.take (v := undef) (Or.inr ⟨by rfl, rfl⟩) ?_; simp only [Act.put, List.setIfInBounds_toArray, List.set_cons_zero, List.set_cons_succ]) | (refine wpTree.take (v := .agg (Mk.rcells mk).toArray) (yieldsIf_load_mid rfl 63 _ rfl _ _ rfl (Mk.rcells _) _ (fun _ hS => HCM.out _ hS) Try.underlying63 rfl (rmkinfo _)) ?_; simp only [Act.put, List.setIfInBounds_toArray, List.set_cons_zero, List.set_cons_succ]) | (refine wpTree.take (v := .int .i64 qk) (Or.inl ⟨by rfl, ?_⟩) ?_; (focus (intro w9 hS; have cq9 := HCQ.out w9 hS; go_simp; (try (with_reducible rfl)); done)); simp only [Act.put, List.setIfInBounds_toArray, List.set_cons_zero, List.set_cons_succ]) | (refine wpTree.take (v := ?_) (Or.inl ⟨by rfl, ?_⟩) ?_; rotate_left; (focus (intro _ hS; (try dsimp only at hS); go_split_ands; (try subst hS); go_simp; (try (with_reducible rfl)); done)); simp only [Act.put, List.setIfInBounds_toArray, List.set_cons_zero, List.set_cons_succ])))
                refine wpTree.one (fun K hK => ?_)
                refine rstep_buildMks [mk] 1 _ (by rfl) rfl rfl (by decide) (by decide) rzmks_1 (by simp [rmkParts]; rfl) ?_
                have hb := (Below.refl y2.heap.size y2).alloc (Nat.le_refl _) (.cells ([mk].flatMap Mk.rcells).toArray 63)
                have hnb := Blk.new y2 63 ([mk].flatMap Mk.rcells).toArray
                obtain ⟨y3, hnw⟩ : ∃ y3, y3 = y2.alloc (.cells ([mk].flatMap Mk.rcells).toArray 63) := ⟨_, rfl⟩
                rw [← hnw] at hb hnb ⊢
                clear hnw
                have hBelow := Below.trans hHeld (hb.mono (Below.size hHeld))
                refine hK.out _ _ hBelow (fun hHeld' => ?_)
                clear hK K hHeld
                have hHeld := hHeld'
                clear hHeld'
                clear hBelow
                replace HS := Lib.hid (ownG_next HS.out hb)
                replace HK := Lib.hid (ownG_next HK.out hb)
                have H12 := Lib.hid hnb
                clear hb hnb
                (try simp only [Act.put, List.setIfInBounds_toArray, List.set_cons_zero, List.set_cons_succ])
                (repeat (first | (refine wpTree.take (v := undef) (Or.inr ⟨by rfl, rfl⟩) ?_; simp only [Act.put, List.setIfInBounds_toArray, List.set_cons_zero, List.set_cons_succ]) | (refine wpTree.take (v := .agg (Mk.rcells mk).toArray) (yieldsIf_load_mid rfl 63 _ rfl _ _ rfl (Mk.rcells _) _ (fun _ hS => HCM.out _ hS) Try.underlying63 rfl (rmkinfo _)) ?_; simp only [Act.put, List.setIfInBounds_toArray, List.set_cons_zero, List.set_cons_succ]) | (refine wpTree.take (v := .int .i64 qk) (Or.inl ⟨by rfl, ?_⟩) ?_; (focus (intro w9 hS; have cq9 := HCQ.out w9 hS; go_simp; (try (with_reducible rfl)); done)); simp only [Act.put, List.setIfInBounds_toArray, List.set_cons_zero, List.set_cons_succ]) | (refine wpTree.take (v := ?_) (Or.inl ⟨by rfl, ?_⟩) ?_; rotate_left; (focus (intro _ hS; (try dsimp only at hS); go_split_ands; (try subst hS); go_simp; (try (with_reducible rfl)); done)); simp only [Act.put, List.setIfInBounds_toArray, List.set_cons_zero, List.set_cons_succ])))
                refine wpTree.one (fun K hK => ?_)
                have hsrc : Src y3 (some ⟨y2.heap.size, 0, none⟩) 1 ([mk].flatMap Mk.rcells) := Or.inl ⟨_, rfl, fun j u hj => by rw [add_at, H12.out.cell, Nat.zero_add, List.getElem?_toArray]; exact hj⟩
                refine step_append_g (by rfl) (.tmp 87) (.tmp 92) 61 rfl w12.heap.size 63 iR (.agg #[.int .i64 0, .bool false, .int .u64 0]) Try.underlying61 hiR hzR (by rw [hsR]; rfl) (by rw [hsR]; decide) _ (L.length) ((L.map Prod.snd).flatMap Mk.rcells) rfl (by rw [hsR]; exact HK.out) _ (1) _ ([mk].flatMap Mk.rcells) rfl (by rw [hsR]; exact by rw [rflat_len]; rfl) (hsrc) (rmk_ones _) (by have := HLE.out; unfold maxLen; omega) (by have := HLE.out; rw [hyR]; omega) hHeld.size ?_
                intro v13y4 y4 ho hg hh
                have hBelow := ownG_below hg HK.out (Nat.le_refl _) hHeld.size hHeld
                refine hK.out _ _ hBelow (fun hHeld' => ?_)
                clear hK K hHeld
                have hHeld := hHeld'
                clear hHeld'
                clear hBelow hsrc
                have HAQ := Lib.hid (Apart2.grown HAP.out.symm hh HS.out).symm
                replace HS := Lib.hid (HS.out.kept hg HAP.out.ne)
                replace HAP := HAQ
                replace HK := Lib.hid (hsR ▸ ho)
                clear ho hg hh HAQ H12
                (try simp only [Act.put, List.setIfInBounds_toArray, List.set_cons_zero, List.set_cons_succ])
                (repeat (first | (refine wpTree.take (v := undef) (Or.inr ⟨by rfl, rfl⟩) ?_; simp only [Act.put, List.setIfInBounds_toArray, List.set_cons_zero, List.set_cons_succ]) | (refine wpTree.take (v := .agg (Mk.rcells mk).toArray) (yieldsIf_load_mid rfl 63 _ rfl _ _ rfl (Mk.rcells _) _ (fun _ hS => HCM.out _ hS) Try.underlying63 rfl (rmkinfo _)) ?_; simp only [Act.put, List.setIfInBounds_toArray, List.set_cons_zero, List.set_cons_succ]) | (refine wpTree.take (v := .int .i64 qk) (Or.inl ⟨by rfl, ?_⟩) ?_; (focus (intro w9 hS; have cq9 := HCQ.out w9 hS; go_simp; (try (with_reducible rfl)); done)); simp only [Act.put, List.setIfInBounds_toArray, List.set_cons_zero, List.set_cons_succ]) | (refine wpTree.take (v := ?_) (Or.inl ⟨by rfl, ?_⟩) ?_; rotate_left; (focus (intro _ hS; (try dsimp only at hS); go_split_ands; (try subst hS); go_simp; (try (with_reducible rfl)); done)); simp only [Act.put, List.setIfInBounds_toArray, List.set_cons_zero, List.set_cons_succ])))
                refine wpTree.done ?_
                have HB13 := Lib.hid hHeld
                clear hHeld
                go_wp2_with fail
                go_roundw
                case rel => exact ⟨k + 1, by omega, by go_num, by rw [HE.out, List.length_append, List.map_append, List.map_append]; exact HS.out, by rw [HE.out, List.length_append, List.map_append, List.flatMap_append]; exact HK.out, HAP.out, HB13.out⟩
                case measure => simp [intOf]; omega
              · refine wpTree.one (fun K hK => ?_)
                refine rstep_buildMks [mk] 1 _ (by rfl) rfl rfl (by decide) (by decide) rzmks_1 (by simp [rmkParts]; rfl) ?_
                have hb := (Below.refl y1.heap.size y1).alloc (Nat.le_refl _) (.cells ([mk].flatMap Mk.rcells).toArray 63)
                have hnb := Blk.new y1 63 ([mk].flatMap Mk.rcells).toArray
                have N12 := Lib.hid (show ∀ b, u14.ownBlock = some b → b ≠ y1.heap.size from fun b hb => Nat.ne_of_lt (HS.out.lt b hb).2)
                obtain ⟨y5, hnw⟩ : ∃ y5, y5 = y1.alloc (.cells ([mk].flatMap Mk.rcells).toArray 63) := ⟨_, rfl⟩
                rw [← hnw] at hb hnb ⊢
                clear hnw
                have hBelow := Below.trans hHeld (hb.mono (Below.size hHeld))
                refine hK.out _ _ hBelow (fun hHeld' => ?_)
                clear hK K hHeld
                have hHeld := hHeld'
                clear hHeld'
                clear hBelow
                replace HS := Lib.hid (ownG_next HS.out hb)
                replace HK := Lib.hid (ownG_next HK.out hb)
                replace H5 := Lib.hid (H5.out.next hb)
                have H12 := Lib.hid hnb
                clear hb hnb
                (try simp only [Act.put, List.setIfInBounds_toArray, List.set_cons_zero, List.set_cons_succ])
                (repeat (first | (refine wpTree.take (v := undef) (Or.inr ⟨by rfl, rfl⟩) ?_; simp only [Act.put, List.setIfInBounds_toArray, List.set_cons_zero, List.set_cons_succ]) | (refine wpTree.take (v := .agg (Mk.rcells mk).toArray) (yieldsIf_load_mid rfl 63 _ rfl _ _ rfl (Mk.rcells _) _ (fun _ hS => HCM.out _ hS) Try.underlying63 rfl (rmkinfo _)) ?_; simp only [Act.put, List.setIfInBounds_toArray, List.set_cons_zero, List.set_cons_succ]) | (refine wpTree.take (v := .int .i64 qk) (Or.inl ⟨by rfl, ?_⟩) ?_; (focus (intro w9 hS; have cq9 := HCQ.out w9 hS; go_simp; (try (with_reducible rfl)); done)); simp only [Act.put, List.setIfInBounds_toArray, List.set_cons_zero, List.set_cons_succ]) | (refine wpTree.take (v := ?_) (Or.inl ⟨by rfl, ?_⟩) ?_; rotate_left; (focus (intro _ hS; (try dsimp only at hS); go_split_ands; (try subst hS); go_simp; (try (with_reducible rfl)); done)); simp only [Act.put, List.setIfInBounds_toArray, List.set_cons_zero, List.set_cons_succ])))
                refine wpTree.one (fun K hK => ?_)
                have hsrc : Src y5 (some ⟨dd.heap.size, 0, none⟩) 1 [.int .i64 qk] := Or.inl ⟨_, rfl, fun j u hj => by rw [add_at, H5.out.cell, Nat.zero_add]; simpa using hj⟩
                refine step_append_g (by rfl) (.tmp 80) (.tmp 85) 79 rfl w12.heap.size 3 iI (.int .i64 0) Try.underlying79 hiI hzI (by rw [hsI]; rfl) (by rw [hsI]; decide) _ (L.length) ((L.map Prod.fst).map (Value.int .i64)) rfl (by rw [hsI]; exact HS.out) _ (1) _ ([.int .i64 qk]) rfl (by rw [hsI]; exact rfl) (hsrc) (by intro u hu; simp at hu; subst hu; rfl) (by have := HLE.out; unfold maxLen; omega) (by have := HLE.out; rw [hyI]; omega) hHeld.size ?_
                intro v6y6 y6 ho hg hh
                have hBelow := ownG_below hg HS.out (Nat.le_refl _) hHeld.size hHeld
                refine hK.out _ _ hBelow (fun hHeld' => ?_)
                clear hK K hHeld
                have hHeld := hHeld'
                clear hHeld'
                clear hBelow hsrc
                have HAQ := Lib.hid (Apart2.grown HAP.out hh HK.out)
                replace HK := Lib.hid (HK.out.kept hg HAP.out.symm.ne)
                replace H12 := Lib.hid (show Blk y6 y1.heap.size 63 ([mk].flatMap Mk.rcells).toArray from (hg.block _ H12.out.lt (fun e => N12.out _ e.symm rfl)).trans H12.out)
                replace HAP := HAQ
                replace HS := Lib.hid (hsI ▸ ho)
                clear ho hg hh HAQ H5 HL5
                (try simp only [Act.put, List.setIfInBounds_toArray, List.set_cons_zero, List.set_cons_succ])
                (repeat (first | (refine wpTree.take (v := undef) (Or.inr ⟨by rfl, rfl⟩) ?_; simp only [Act.put, List.setIfInBounds_toArray, List.set_cons_zero, List.set_cons_succ]) | (refine wpTree.take (v := .agg (Mk.rcells mk).toArray) (yieldsIf_load_mid rfl 63 _ rfl _ _ rfl (Mk.rcells _) _ (fun _ hS => HCM.out _ hS) Try.underlying63 rfl (rmkinfo _)) ?_; simp only [Act.put, List.setIfInBounds_toArray, List.set_cons_zero, List.set_cons_succ]) | (refine wpTree.take (v := .int .i64 qk) (Or.inl ⟨by rfl, ?_⟩) ?_; (focus (intro w9 hS; have cq9 := HCQ.out w9 hS; go_simp; (try (with_reducible rfl)); done)); simp only [Act.put, List.setIfInBounds_toArray, List.set_cons_zero, List.set_cons_succ]) | (refine wpTree.take (v := ?_) (Or.inl ⟨by rfl, ?_⟩) ?_; rotate_left; (focus (intro _ hS; (try dsimp only at hS); go_split_ands; (try subst hS); go_simp; (try (with_reducible rfl)); done)); simp only [Act.put, List.setIfInBounds_toArray, List.set_cons_zero, List.set_cons_succ])))
                refine wpTree.one (fun K hK => ?_)
                have hsrc : Src y6 (some ⟨y1.heap.size, 0, none⟩) 1 ([mk].flatMap Mk.rcells) := Or.inl ⟨_, rfl, fun j u hj => by rw [add_at, H12.out.cell, Nat.zero_add, List.getElem?_toArray]; exact hj⟩
                refine step_append_g (by rfl) (.tmp 87) (.tmp 92) 61 rfl w12.heap.size 63 iR (.agg #[.int .i64 0, .bool false, .int .u64 0]) Try.underlying61 hiR hzR (by rw [hsR]; rfl) (by rw [hsR]; decide) _ (L.length) ((L.map Prod.snd).flatMap Mk.rcells) rfl (by rw [hsR]; exact HK.out) _ (1) _ ([mk].flatMap Mk.rcells) rfl (by rw [hsR]; exact by rw [rflat_len]; rfl) (hsrc) (rmk_ones _) (by have := HLE.out; unfold maxLen; omega) (by have := HLE.out; rw [hyR]; omega) hHeld.size ?_
                intro v13y7 y7 ho hg hh
                have hBelow := ownG_below hg HK.out (Nat.le_refl _) hHeld.size hHeld
                refine hK.out _ _ hBelow (fun hHeld' => ?_)
                clear hK K hHeld
                have hHeld := hHeld'
                clear hHeld'
                clear hBelow hsrc
                have HAQ := Lib.hid (Apart2.grown HAP.out.symm hh HS.out).symm
                replace HS := Lib.hid (HS.out.kept hg HAP.out.ne)
                replace HAP := HAQ
                replace HK := Lib.hid (hsR ▸ ho)
                clear ho hg hh HAQ H12
                (try simp only [Act.put, List.setIfInBounds_toArray, List.set_cons_zero, List.set_cons_succ])
                (repeat (first | (refine wpTree.take (v := undef) (Or.inr ⟨by rfl, rfl⟩) ?_; simp only [Act.put, List.setIfInBounds_toArray, List.set_cons_zero, List.set_cons_succ]) | (refine wpTree.take (v := .agg (Mk.rcells mk).toArray) (yieldsIf_load_mid rfl 63 _ rfl _ _ rfl (Mk.rcells _) _ (fun _ hS => HCM.out _ hS) Try.underlying63 rfl (rmkinfo _)) ?_; simp only [Act.put, List.setIfInBounds_toArray, List.set_cons_zero, List.set_cons_succ]) | (refine wpTree.take (v := .int .i64 qk) (Or.inl ⟨by rfl, ?_⟩) ?_; (focus (intro w9 hS; have cq9 := HCQ.out w9 hS; go_simp; (try (with_reducible rfl)); done)); simp only [Act.put, List.setIfInBounds_toArray, List.set_cons_zero, List.set_cons_succ]) | (refine wpTree.take (v := ?_) (Or.inl ⟨by rfl, ?_⟩) ?_; rotate_left; (focus (intro _ hS; (try dsimp only at hS); go_split_ands; (try subst hS); go_simp; (try (with_reducible rfl)); done)); simp only [Act.put, List.setIfInBounds_toArray, List.set_cons_zero, List.set_cons_succ])))
                refine wpTree.done ?_
                have HB13 := Lib.hid hHeld
                clear hHeld
                go_wp2_with fail
                go_roundw
                case rel => exact ⟨k + 1, by omega, by go_num, by rw [HE.out, List.length_append, List.map_append, List.map_append]; exact HS.out, by rw [HE.out, List.length_append, List.map_append, List.flatMap_append]; exact HK.out, HAP.out, HB13.out⟩
                case measure => simp [intOf]; omega
            · refine wpTree.one (fun K hK => ?_)
              refine rstep_buildMks [mk] 1 _ (by rfl) rfl rfl (by decide) (by decide) rzmks_1 (by simp [rmkParts]; rfl) ?_
              have hb := (Below.refl dd.heap.size dd).alloc (Nat.le_refl _) (.cells ([mk].flatMap Mk.rcells).toArray 63)
              have hnb := Blk.new dd 63 ([mk].flatMap Mk.rcells).toArray
              have N12 := Lib.hid (show ∀ b, u14.ownBlock = some b → b ≠ dd.heap.size from fun b hb => Nat.ne_of_lt (HS.out.lt b hb).2)
              obtain ⟨y8, hnw⟩ : ∃ y8, y8 = dd.alloc (.cells ([mk].flatMap Mk.rcells).toArray 63) := ⟨_, rfl⟩
              rw [← hnw] at hb hnb ⊢
              clear hnw
              have hBelow := Below.trans hHeld (hb.mono (Below.size hHeld))
              refine hK.out _ _ hBelow (fun hHeld' => ?_)
              clear hK K hHeld
              have hHeld := hHeld'
              clear hHeld'
              clear hBelow
              replace HS := Lib.hid (ownG_next HS.out hb)
              replace HK := Lib.hid (ownG_next HK.out hb)
              have H12 := Lib.hid hnb
              clear hb hnb
              (try simp only [Act.put, List.setIfInBounds_toArray, List.set_cons_zero, List.set_cons_succ])
              (repeat (first | (refine wpTree.take (v := undef) (Or.inr ⟨by rfl, rfl⟩) ?_; simp only [Act.put, List.setIfInBounds_toArray, List.set_cons_zero, List.set_cons_succ]) | (refine wpTree.take (v := .agg (Mk.rcells mk).toArray) (yieldsIf_load_mid rfl 63 _ rfl _ _ rfl (Mk.rcells _) _ (fun _ hS => HCM.out _ hS) Try.underlying63 rfl (rmkinfo _)) ?_; simp only [Act.put, List.setIfInBounds_toArray, List.set_cons_zero, List.set_cons_succ]) | (refine wpTree.take (v := .int .i64 qk) (Or.inl ⟨by rfl, ?_⟩) ?_; (focus (intro w9 hS; have cq9 := HCQ.out w9 hS; go_simp; (try (with_reducible rfl)); done)); simp only [Act.put, List.setIfInBounds_toArray, List.set_cons_zero, List.set_cons_succ]) | (refine wpTree.take (v := ?_) (Or.inl ⟨by rfl, ?_⟩) ?_; rotate_left; (focus (intro _ hS; (try dsimp only at hS); go_split_ands; (try subst hS); go_simp; (try (with_reducible rfl)); done)); simp only [Act.put, List.setIfInBounds_toArray, List.set_cons_zero, List.set_cons_succ])))
              refine wpTree.one (fun K hK => ?_)
              go_simp
              have hb := (Below.refl y8.heap.size y8).alloc (Nat.le_refl _) (.cells #[.int .i64 qk] 3)
              have hnb := Blk.new y8 3 #[.int .i64 qk]
              have HL5 := Lib.hid (show y8.heap.size < (y8.alloc (.cells #[.int .i64 qk] 3)).heap.size from hnb.lt)
              obtain ⟨y9, hnw⟩ : ∃ y9, y9 = y8.alloc (.cells #[.int .i64 qk] 3) := ⟨_, rfl⟩
              rw [← hnw] at hb hnb HL5 ⊢
              clear hnw
              have hBelow := Below.trans hHeld (hb.mono (Below.size hHeld))
              refine hK.out _ _ hBelow (fun hHeld' => ?_)
              clear hK K hHeld
              have hHeld := hHeld'
              clear hHeld'
              clear hBelow
              replace HS := Lib.hid (ownG_next HS.out hb)
              replace HK := Lib.hid (ownG_next HK.out hb)
              replace H12 := Lib.hid (H12.out.next hb)
              have H5 := Lib.hid hnb
              clear hb hnb
              (try simp only [Act.put, List.setIfInBounds_toArray, List.set_cons_zero, List.set_cons_succ])
              (repeat (first | (refine wpTree.take (v := undef) (Or.inr ⟨by rfl, rfl⟩) ?_; simp only [Act.put, List.setIfInBounds_toArray, List.set_cons_zero, List.set_cons_succ]) | (refine wpTree.take (v := .agg (Mk.rcells mk).toArray) (yieldsIf_load_mid rfl 63 _ rfl _ _ rfl (Mk.rcells _) _ (fun _ hS => HCM.out _ hS) Try.underlying63 rfl (rmkinfo _)) ?_; simp only [Act.put, List.setIfInBounds_toArray, List.set_cons_zero, List.set_cons_succ]) | (refine wpTree.take (v := .int .i64 qk) (Or.inl ⟨by rfl, ?_⟩) ?_; (focus (intro w9 hS; have cq9 := HCQ.out w9 hS; go_simp; (try (with_reducible rfl)); done)); simp only [Act.put, List.setIfInBounds_toArray, List.set_cons_zero, List.set_cons_succ]) | (refine wpTree.take (v := ?_) (Or.inl ⟨by rfl, ?_⟩) ?_; rotate_left; (focus (intro _ hS; (try dsimp only at hS); go_split_ands; (try subst hS); go_simp; (try (with_reducible rfl)); done)); simp only [Act.put, List.setIfInBounds_toArray, List.set_cons_zero, List.set_cons_succ])))
              refine wpTree.one (fun K hK => ?_)
              have hsrc : Src y9 (some ⟨y8.heap.size, 0, none⟩) 1 [.int .i64 qk] := Or.inl ⟨_, rfl, fun j u hj => by rw [add_at, H5.out.cell, Nat.zero_add]; simpa using hj⟩
              refine step_append_g (by rfl) (.tmp 80) (.tmp 85) 79 rfl w12.heap.size 3 iI (.int .i64 0) Try.underlying79 hiI hzI (by rw [hsI]; rfl) (by rw [hsI]; decide) _ (L.length) ((L.map Prod.fst).map (Value.int .i64)) rfl (by rw [hsI]; exact HS.out) _ (1) _ ([.int .i64 qk]) rfl (by rw [hsI]; exact rfl) (hsrc) (by intro u hu; simp at hu; subst hu; rfl) (by have := HLE.out; unfold maxLen; omega) (by have := HLE.out; rw [hyI]; omega) hHeld.size ?_
              intro v6y10 y10 ho hg hh
              have hBelow := ownG_below hg HS.out (Nat.le_refl _) hHeld.size hHeld
              refine hK.out _ _ hBelow (fun hHeld' => ?_)
              clear hK K hHeld
              have hHeld := hHeld'
              clear hHeld'
              clear hBelow hsrc
              have HAQ := Lib.hid (Apart2.grown HAP.out hh HK.out)
              replace HK := Lib.hid (HK.out.kept hg HAP.out.symm.ne)
              replace H12 := Lib.hid (show Blk y10 dd.heap.size 63 ([mk].flatMap Mk.rcells).toArray from (hg.block _ H12.out.lt (fun e => N12.out _ e.symm rfl)).trans H12.out)
              replace HAP := HAQ
              replace HS := Lib.hid (hsI ▸ ho)
              clear ho hg hh HAQ H5 HL5
              (try simp only [Act.put, List.setIfInBounds_toArray, List.set_cons_zero, List.set_cons_succ])
              (repeat (first | (refine wpTree.take (v := undef) (Or.inr ⟨by rfl, rfl⟩) ?_; simp only [Act.put, List.setIfInBounds_toArray, List.set_cons_zero, List.set_cons_succ]) | (refine wpTree.take (v := .agg (Mk.rcells mk).toArray) (yieldsIf_load_mid rfl 63 _ rfl _ _ rfl (Mk.rcells _) _ (fun _ hS => HCM.out _ hS) Try.underlying63 rfl (rmkinfo _)) ?_; simp only [Act.put, List.setIfInBounds_toArray, List.set_cons_zero, List.set_cons_succ]) | (refine wpTree.take (v := .int .i64 qk) (Or.inl ⟨by rfl, ?_⟩) ?_; (focus (intro w9 hS; have cq9 := HCQ.out w9 hS; go_simp; (try (with_reducible rfl)); done)); simp only [Act.put, List.setIfInBounds_toArray, List.set_cons_zero, List.set_cons_succ]) | (refine wpTree.take (v := ?_) (Or.inl ⟨by rfl, ?_⟩) ?_; rotate_left; (focus (intro _ hS; (try dsimp only at hS); go_split_ands; (try subst hS); go_simp; (try (with_reducible rfl)); done)); simp only [Act.put, List.setIfInBounds_toArray, List.set_cons_zero, List.set_cons_succ])))
              refine wpTree.one (fun K hK => ?_)
              have hsrc : Src y10 (some ⟨dd.heap.size, 0, none⟩) 1 ([mk].flatMap Mk.rcells) := Or.inl ⟨_, rfl, fun j u hj => by rw [add_at, H12.out.cell, Nat.zero_add, List.getElem?_toArray]; exact hj⟩
              refine step_append_g (by rfl) (.tmp 87) (.tmp 92) 61 rfl w12.heap.size 63 iR (.agg #[.int .i64 0, .bool false, .int .u64 0]) Try.underlying61 hiR hzR (by rw [hsR]; rfl) (by rw [hsR]; decide) _ (L.length) ((L.map Prod.snd).flatMap Mk.rcells) rfl (by rw [hsR]; exact HK.out) _ (1) _ ([mk].flatMap Mk.rcells) rfl (by rw [hsR]; exact by rw [rflat_len]; rfl) (hsrc) (rmk_ones _) (by have := HLE.out; unfold maxLen; omega) (by have := HLE.out; rw [hyR]; omega) hHeld.size ?_
              intro v13y11 y11 ho hg hh
              have hBelow := ownG_below hg HK.out (Nat.le_refl _) hHeld.size hHeld
              refine hK.out _ _ hBelow (fun hHeld' => ?_)
              clear hK K hHeld
              have hHeld := hHeld'
              clear hHeld'
              clear hBelow hsrc
              have HAQ := Lib.hid (Apart2.grown HAP.out.symm hh HS.out).symm
              replace HS := Lib.hid (HS.out.kept hg HAP.out.ne)
              replace HAP := HAQ
              replace HK := Lib.hid (hsR ▸ ho)
              clear ho hg hh HAQ H12
              (try simp only [Act.put, List.setIfInBounds_toArray, List.set_cons_zero, List.set_cons_succ])
              (repeat (first | (refine wpTree.take (v := undef) (Or.inr ⟨by rfl, rfl⟩) ?_; simp only [Act.put, List.setIfInBounds_toArray, List.set_cons_zero, List.set_cons_succ]) | (refine wpTree.take (v := .agg (Mk.rcells mk).toArray) (yieldsIf_load_mid rfl 63 _ rfl _ _ rfl (Mk.rcells _) _ (fun _ hS => HCM.out _ hS) Try.underlying63 rfl (rmkinfo _)) ?_; simp only [Act.put, List.setIfInBounds_toArray, List.set_cons_zero, List.set_cons_succ]) | (refine wpTree.take (v := .int .i64 qk) (Or.inl ⟨by rfl, ?_⟩) ?_; (focus (intro w9 hS; have cq9 := HCQ.out w9 hS; go_simp; (try (with_reducible rfl)); done)); simp only [Act.put, List.setIfInBounds_toArray, List.set_cons_zero, List.set_cons_succ]) | (refine wpTree.take (v := ?_) (Or.inl ⟨by rfl, ?_⟩) ?_; rotate_left; (focus (intro _ hS; (try dsimp only at hS); go_split_ands; (try subst hS); go_simp; (try (with_reducible rfl)); done)); simp only [Act.put, List.setIfInBounds_toArray, List.set_cons_zero, List.set_cons_succ])))
              refine wpTree.done ?_
              have HB13 := Lib.hid hHeld
              clear hHeld
              go_wp2_with fail
              go_roundw
              case rel => exact ⟨k + 1, by omega, by go_num, by rw [HE.out, List.length_append, List.map_append, List.map_append]; exact HS.out, by rw [HE.out, List.length_append, List.map_append, List.flatMap_append]; exact HK.out, HAP.out, HB13.out⟩
              case measure => simp [intOf]; omega
        · have HE := Lib.hid (show playM (P.take (k + 1)) = L by rw [HJ.out]; unfold rowOk; rw [decide_eq_false (show ¬ 1 ≤ qk by omega), Bool.false_and]; simp)
          go_wp2_with fail
          go_roundw
          case rel => exact ⟨k + 1, by omega, by go_num, by rw [HE.out]; exact HS.out, by rw [HE.out]; exact HK.out, HAP.out, HBL.out⟩
          case measure => simp [intOf]; omega
      · obtain rfl : k = N := by omega
        have hq : P.take k = P := by rw [← HPN.out, List.take_length]
        rw [hq] at HS HK
        obtain ⟨L, hL⟩ : ∃ L, L = playM P := ⟨_, rfl⟩
        rw [← hL] at HS HK
        have HLE := Lib.hid (show L.length ≤ 120 from by rw [hL]; exact Nat.le_trans (List.length_filter_le _ _) (by rw [HPN.out]; exact hn9))
        have HLP := Lib.hid (show ∀ x ∈ L.map Prod.snd, x.p < 18446744073709551616 from fun x hx => by
          obtain ⟨y, hy, rfl⟩ := List.mem_map.1 hx
          rw [hL] at hy
          have hy2 := (List.mem_filter.1 hy).1
          rw [HP.out] at hy2
          exact HPL.out _ (List.of_mem_zip hy2).2)
        have HT := Lib.hid (show totM ((L.map Prod.fst).zip (L.map Prod.snd)) = tc from by rw [hL, zip_play, totM_play, HTC.out, HP.out])
        have e1 : IntKind.i64.wrap (ta.li + tb.li) = tc.li := by
          rw [HTA.out, HTB.out, HTC.out, HPP.out]
          unfold totM
          rw [accT_app]
          have h1 := accT_le (q1.zip l1) ⟨0, 0, 0, []⟩
          have h2 := accT_le (q2.zip l2) ⟨0, 0, 0, []⟩
          rw [List.length_zip, HM1.out] at h1
          rw [List.length_zip, HM2.out] at h2
          unfold accT
          rw [IntKind.wrap_i64]
          dsimp only at h1 h2 ⊢
          omega
        have e2 : IntKind.i64.wrap (ta.pi + tb.pi) = tc.pi := by
          rw [HTA.out, HTB.out, HTC.out, HPP.out]
          unfold totM
          rw [accT_app]
          have h1 := accT_le (q1.zip l1) ⟨0, 0, 0, []⟩
          have h2 := accT_le (q2.zip l2) ⟨0, 0, 0, []⟩
          rw [List.length_zip, HM1.out] at h1
          rw [List.length_zip, HM2.out] at h2
          unfold accT
          rw [IntKind.wrap_i64]
          dsimp only at h1 h2 ⊢
          omega
        have e3 : IntKind.i64.wrap (ta.fr + tb.fr) = tc.fr := by
          rw [HTA.out, HTB.out, HTC.out, HPP.out]
          unfold totM
          rw [accT_app]
          have h1 := accT_le (q1.zip l1) ⟨0, 0, 0, []⟩
          have h2 := accT_le (q2.zip l2) ⟨0, 0, 0, []⟩
          rw [List.length_zip, HM1.out] at h1
          rw [List.length_zip, HM2.out] at h2
          unfold accT
          rw [IntKind.wrap_i64]
          dsimp only at h1 h2 ⊢
          omega
        obtain ⟨A6, c6, rfl, _, hqs, _⟩ := own_qs HS.out
        obtain ⟨A7, c7, rfl, _, hrs, _⟩ := own_rmks HK.out
        have HQ6 := Lib.hid hqs
        have HR7 := Lib.hid hrs
        have HXA := Lib.hid (HA12.out.next HBL.out)
        have HXB := Lib.hid (HC12.out.next HBL.out)
        have HXC := Lib.hid (HTC2.out.next HBL.out)
        have HF := Lib.hid (show ∀ w', Below wr.heap.size wr w' → w'.cell? ⟨w4.heap.size, 0, none⟩ = some (.int .i64 ta.li) ∧ w'.cell? ⟨w4.heap.size, 1, none⟩ = some (.int .i64 ta.pi) ∧ w'.cell? ⟨w4.heap.size, 2, none⟩ = some (.int .i64 ta.fr) ∧ w'.cell? ⟨w4.heap.size + 1, 0, none⟩ = some (.int .i64 tb.li) ∧ w'.cell? ⟨w4.heap.size + 1, 1, none⟩ = some (.int .i64 tb.pi) ∧ w'.cell? ⟨w4.heap.size + 1, 2, none⟩ = some (.int .i64 tb.fr) ∧ w'.cell? ⟨w11.heap.size, 0, none⟩ = some (.int .i64 tc.li) ∧ w'.cell? ⟨w11.heap.size, 1, none⟩ = some (.int .i64 tc.pi) ∧ w'.cell? ⟨w11.heap.size, 2, none⟩ = some (.int .i64 tc.fr) from fun w' hb => by
          obtain ⟨a0, a1, a2, _⟩ := tt_all (HXA.out.next hb)
          obtain ⟨b0, b1, b2, _⟩ := tt_all (HXB.out.next hb)
          obtain ⟨c0, c1, c2, _⟩ := tt_all (HXC.out.next hb)
          exact ⟨a0, a1, a2, b0, b1, b2, c0, c1, c2⟩)
        have rc := HXC.out.range
        have MS := fun A' c' (W' : World) hq' hm' => msum_any A6 A' L.length L.length c6 c' (L.map Prod.fst) (L.map Prod.snd) W' (List.length_map _) (List.length_map _) (by have := HLE.out; omega) (by have := HLE.out; omega) hq' hm' HLP.out
        rw [HT.out] at MS
        have ST := fun w => sametotal_any tc tc w
        rw [sameT_self] at ST
        clear hq hL hqs hrs HXA HXB HXC
        go_upto_region 14 with fail
        refine wp_region_tree (S := (fun w => Below wr.heap.size wr w)) (.one 0 (.take 1 (.take 2 (.take 3 (.take 4 (.take 5 (.take 6 (.take 7 (.take 8 (.take 9 (.take 10 (.take 11 (.take 12 (.take 13 (.take 14 (.take 15 (.take 16 (.take 17 (.take 18 (.take 19 (.take 20 (.take 21 (.take 22 (.take 23 (.take 24 (.take 25 (.take 26 (.take 27 (.take 28 (.take 29 (.take 30 (.take 31 (.take 32 (.take 33 (.take 34 (.one 35 (.one 36 (.one 37 (.take 38 (.take 39 .nil)))))))))))))))))))))))))))))))))))))))) 9999 (by kernel_rfl) (by kernel_rfl) (by kernel_rfl) (by kernel_rfl) (by kernel_rfl) (fun _ _ d _ _ h => by cases d <;> exact h) ?_ (fun hHeld => ?_); (focus (exact (Below.refl _ _).drew)); simp only [Tree.map, List.getElem?_toArray, List.getElem?_cons_zero, List.getElem?_cons_succ]
        (repeat (first | (refine wpTree.take (v := undef) (Or.inr ⟨by rfl, rfl⟩) ?_; simp only [Act.put, List.setIfInBounds_toArray, List.set_cons_zero, List.set_cons_succ]) | (refine wpTree.take (v := .agg (Tt.cells ?_).toArray) (yieldsIf_load_mid rfl 83 _ rfl _ _ rfl (Tt.cells _) _ ?_ Try.underlying83 rfl (ttinfo _)) ?_; rotate_left; (focus (intro _ hS; refine mrange_next hS ?_; assumption)); simp only [Act.put, List.setIfInBounds_toArray, List.set_cons_zero, List.set_cons_succ]) | (refine wpTree.take (v := ?_) (Or.inl ⟨by rfl, ?_⟩) ?_; rotate_left; (focus (intro w9 hS; obtain ⟨g0, g1, g2, g3, g4, g5, g6, g7, g8⟩ := HF.out w9 hS; go_simp; (try (with_reducible rfl)); done)); simp only [Act.put, List.setIfInBounds_toArray, List.set_cons_zero, List.set_cons_succ])))
        refine wpTree.one (fun K hK => ?_)
        go_simp
        go_at_call 28
        refine (alive7_any _).mono ?_
        rintro e z1 ⟨rfl, hb⟩
        have hBelow := Below.trans hHeld (hb.mono (Below.size hHeld))
        refine hK.out _ _ hBelow (fun hHeld' => ?_)
        clear hK K hHeld hBelow hb
        have hHeld := hHeld'
        clear hHeld'
        (try simp only [Act.put, List.setIfInBounds_toArray, List.set_cons_zero, List.set_cons_succ])
        (repeat (first | (refine wpTree.take (v := undef) (Or.inr ⟨by rfl, rfl⟩) ?_; simp only [Act.put, List.setIfInBounds_toArray, List.set_cons_zero, List.set_cons_succ]) | (refine wpTree.take (v := .agg (Tt.cells ?_).toArray) (yieldsIf_load_mid rfl 83 _ rfl _ _ rfl (Tt.cells _) _ ?_ Try.underlying83 rfl (ttinfo _)) ?_; rotate_left; (focus (intro _ hS; refine mrange_next hS ?_; assumption)); simp only [Act.put, List.setIfInBounds_toArray, List.set_cons_zero, List.set_cons_succ]) | (refine wpTree.take (v := ?_) (Or.inl ⟨by rfl, ?_⟩) ?_; rotate_left; (focus (intro w9 hS; obtain ⟨g0, g1, g2, g3, g4, g5, g6, g7, g8⟩ := HF.out w9 hS; go_simp; (try (with_reducible rfl)); done)); simp only [Act.put, List.setIfInBounds_toArray, List.set_cons_zero, List.set_cons_succ])))
        
        refine wpTree.one (fun K hK => ?_)
        go_simp
        go_at_call 34
        refine (marks_any A7 L.length c7 (L.map Prod.snd) _ (List.length_map _) (by have := HLE.out; omega) (HR7.out.next hHeld)).mono ?_
        rintro e z2 ⟨vm, rfl, ho, hb⟩
        obtain ⟨A8, c8, rfl, -, -, hm⟩ := ho.mks
        have HM8 := Lib.hid hm
        clear hm ho
        have hBelow := Below.trans hHeld (hb.mono (Below.size hHeld))
        refine hK.out _ _ hBelow (fun hHeld' => ?_)
        clear hK K hHeld hBelow hb
        have hHeld := hHeld'
        clear hHeld'
        (try simp only [Act.put, List.setIfInBounds_toArray, List.set_cons_zero, List.set_cons_succ])
        (repeat (first | (refine wpTree.take (v := undef) (Or.inr ⟨by rfl, rfl⟩) ?_; simp only [Act.put, List.setIfInBounds_toArray, List.set_cons_zero, List.set_cons_succ]) | (refine wpTree.take (v := .agg (Tt.cells ?_).toArray) (yieldsIf_load_mid rfl 83 _ rfl _ _ rfl (Tt.cells _) _ ?_ Try.underlying83 rfl (ttinfo _)) ?_; rotate_left; (focus (intro _ hS; refine mrange_next hS ?_; assumption)); simp only [Act.put, List.setIfInBounds_toArray, List.set_cons_zero, List.set_cons_succ]) | (refine wpTree.take (v := ?_) (Or.inl ⟨by rfl, ?_⟩) ?_; rotate_left; (focus (intro w9 hS; obtain ⟨g0, g1, g2, g3, g4, g5, g6, g7, g8⟩ := HF.out w9 hS; go_simp; (try (with_reducible rfl)); done)); simp only [Act.put, List.setIfInBounds_toArray, List.set_cons_zero, List.set_cons_succ])))
        
        refine wpTree.one (fun K hK => ?_)
        go_simp
        go_at_call 42
        refine (MS A8 c8 _ (HQ6.out.next hHeld) HM8.out).mono ?_
        rintro e z3 ⟨rfl, hb⟩
        have hBelow := Below.trans hHeld (hb.mono (Below.size hHeld))
        refine hK.out _ _ hBelow (fun hHeld' => ?_)
        clear hK K hHeld hBelow hb
        have hHeld := hHeld'
        clear hHeld'
        (try simp only [Act.put, List.setIfInBounds_toArray, List.set_cons_zero, List.set_cons_succ])
        (repeat (first | (refine wpTree.take (v := undef) (Or.inr ⟨by rfl, rfl⟩) ?_; simp only [Act.put, List.setIfInBounds_toArray, List.set_cons_zero, List.set_cons_succ]) | (refine wpTree.take (v := .agg (Tt.cells ?_).toArray) (yieldsIf_load_mid rfl 83 _ rfl _ _ rfl (Tt.cells _) _ ?_ Try.underlying83 rfl (ttinfo _)) ?_; rotate_left; (focus (intro _ hS; refine mrange_next hS ?_; assumption)); simp only [Act.put, List.setIfInBounds_toArray, List.set_cons_zero, List.set_cons_succ]) | (refine wpTree.take (v := ?_) (Or.inl ⟨by rfl, ?_⟩) ?_; rotate_left; (focus (intro w9 hS; obtain ⟨g0, g1, g2, g3, g4, g5, g6, g7, g8⟩ := HF.out w9 hS; go_simp; (try (with_reducible rfl)); done)); simp only [Act.put, List.setIfInBounds_toArray, List.set_cons_zero, List.set_cons_succ])))
        
        refine wpTree.one (fun K hK => ?_)
        go_simp
        go_at_call 44
        refine (ST _).mono ?_
        rintro e z4 ⟨rfl, hb⟩
        have hBelow := Below.trans hHeld (hb.mono (Below.size hHeld))
        refine hK.out _ _ hBelow (fun hHeld' => ?_)
        clear hK K hHeld hBelow hb
        have hHeld := hHeld'
        clear hHeld'
        (try simp only [Act.put, List.setIfInBounds_toArray, List.set_cons_zero, List.set_cons_succ])
        (repeat (first | (refine wpTree.take (v := undef) (Or.inr ⟨by rfl, rfl⟩) ?_; simp only [Act.put, List.setIfInBounds_toArray, List.set_cons_zero, List.set_cons_succ]) | (refine wpTree.take (v := .agg (Tt.cells ?_).toArray) (yieldsIf_load_mid rfl 83 _ rfl _ _ rfl (Tt.cells _) _ ?_ Try.underlying83 rfl (ttinfo _)) ?_; rotate_left; (focus (intro _ hS; refine mrange_next hS ?_; assumption)); simp only [Act.put, List.setIfInBounds_toArray, List.set_cons_zero, List.set_cons_succ]) | (refine wpTree.take (v := ?_) (Or.inl ⟨by rfl, ?_⟩) ?_; rotate_left; (focus (intro w9 hS; obtain ⟨g0, g1, g2, g3, g4, g5, g6, g7, g8⟩ := HF.out w9 hS; go_simp; (try (with_reducible rfl)); done)); simp only [Act.put, List.setIfInBounds_toArray, List.set_cons_zero, List.set_cons_succ])))
        
        refine wpTree.done ?_
        have HZ := Lib.hid (HW12.out.trans ((HBL.out.trans (hHeld.mono HBL.out.size)).mono HW12.out.size))
        clear hHeld rc
        go_wp2_with fail
        go_ret
        exact ⟨rfl, HZ.out⟩
end Go.Proofs.Ytlejnjgepnjceaa
