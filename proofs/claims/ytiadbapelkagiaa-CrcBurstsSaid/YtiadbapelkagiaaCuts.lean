/-
CrcCuts holds: however bytes are cut into pieces, the sum of the pieces is that of all. No condition.
-/
import Derived.Test.YtiadbapelkagiaaAlive
import Derived.Test.YtiadbapelkagiaaLaw
namespace Go.Proofs.Ytiadbapelkagiaa
open Go.ChangeShapes Go.WideShapes Go.ChangeAt Go.RowKit

theorem Try.info22 : (Try.prog.info? 22).map (fun i => (i.zero, i.size, i.bytes)) = some (some (.slice none 0 0), 1, 24) := by kernel_rfl
theorem laid_out : laidOutB Try.prog = true := by kernel_rfl
theorem own_knob : ownKnob Try.prog.godebug = none := by kernel_rfl

/-- A slice of bytes that may be cut on. -/
def Rest (w : World) (v : Value) (l : List Nat) : Prop :=
  (∀ c ∈ l, c < 256) ∧ ∃ a c, v = .slice a l.length c ∧ l.length ≤ c ∧ c ≤ 9223372036854775807 ∧ (l = [] ∨ ∃ b off, a = some ⟨b, off, none⟩ ∧ b < w.heap.size ∧ ∀ i, (h : i < l.length) → w.cell? ⟨b, off + i, none⟩ = some (.int .u8 (l[i] : Nat)))

theorem Rest.bytes {w : World} {v : Value} {l : List Nat} (h : Rest w v l) : Bytes w v l := by
  obtain ⟨h1, a, c, h2, _, _, h3⟩ := h
  exact ⟨h1, a, c, h2, h3⟩

theorem cell_lt {w : World} {p : Addr} {v : Value} (h : w.cell? p = some v) : p.block < w.heap.size := by
  rcases Nat.lt_or_ge p.block w.heap.size with h' | h'
  · exact h'
  · simp [World.cell?, Array.getElem?_eq_none h'] at h

theorem Rows'.below {w w' : World} {v : Value} {ls : List (List Nat)} (h : Rows' w v ls) (hb : Below w.heap.size w w') : Rows' w' v ls := by
  obtain ⟨a, c, vs, hv, rfl, hc, hr⟩ := h
  refine ⟨a, c, vs, hv, rfl, hc.imp id ?_, fun i hi => (hr i hi).below hb⟩
  rintro ⟨b, off, rfl, hcell⟩
  exact ⟨b, off, rfl, fun i hi => by rw [hb.cell (cell_lt (hcell i hi))]; exact hcell i hi⟩

/-- Behind k cuts. -/
def Cut (all : List Nat) (k : Nat) (w : World) (v r : Value) (wr : World) : Prop :=
  ∃ (m : Nat) (vs : List Value) (ls : List (List Nat)), vs.length = k ∧ ls.length = k ∧ wr.ownsRow w.heap.size 22 1 v k vs ∧
    (∀ i, (h1 : i < vs.length) → (h2 : i < ls.length) → Bytes w vs[i] ls[i]) ∧ ls.flatten = all.take m ∧ m ≤ all.length ∧ Rest w r (all.drop m) ∧ Below w.heap.size w wr

theorem cut_start {all : List Nat} {w : World} {r : Value} (h : Rest w r all) : Cut all 0 w (.slice none 0 0) r w :=
  ⟨0, [], [], rfl, rfl, World.ownsRow_nil _ _ _ _, fun i h1 => by simp at h1, by simp, Nat.zero_le _, by simpa using h, Below.refl _ _⟩

theorem cut_next {all : List Nat} {k m q rl rc rb roff : Nat} {vs : List Value} {ls : List (List Nat)} {w wr w1 : World} {v v1 r1 : Value} {o : Obj} (hvs : vs.length = k) (hls : ls.length = k)
    (hown1 : w1.ownsRow w.heap.size 22 1 v1 (k + 1) (vs ++ [.slice (some ⟨rb, roff, none⟩) q rc])) (hg : (wr.alloc o).grownBy w1 v.ownBlock) (hown : wr.ownsRow w.heap.size 22 1 v k vs)
    (hbel : Below w.heap.size w wr) (hby : ∀ i, (h1 : i < vs.length) → (h2 : i < ls.length) → Bytes w vs[i] ls[i]) (hfl : ls.flatten = all.take m) (hm : m ≤ all.length)
    (hrl : rl = (all.drop m).length) (h256 : ∀ c ∈ all.drop m, c < 256) (hle : rl ≤ rc) (hmax : rc ≤ 9223372036854775807) (hlt : rb < w.heap.size)
    (hcell : ∀ i, (h : i < (all.drop m).length) → w.cell? ⟨rb, roff + i, none⟩ = some (.int .u8 ((all.drop m)[i] : Nat))) (hq : q ≤ rl)
    (hr1 : r1 = if rc = q then .slice (some ⟨rb, roff, none⟩) (rl - q) (rc - q) else .slice (some ⟨rb, roff + q, none⟩) (rl - q) (rc - q)) : Cut all (k + 1) w v1 r1 w1 := by
  have hlen : (all.drop m).length = all.length - m := List.length_drop
  refine ⟨m + q, vs ++ [.slice (some ⟨rb, roff, none⟩) q rc], ls ++ [(all.drop m).take q], by simp [hvs], by simp [hls], hown1, ?_, ?_, by omega, ?_, ?_⟩
  · intro i h1 h2
    by_cases hi : i < k
    · rw [List.getElem_append_left (by omega), List.getElem_append_left (by omega)]
      exact hby i (by omega) (by omega)
    · have hik : i = k := by simp at h1; omega
      subst hik
      rw [List.getElem_append_right (by omega), List.getElem_append_right (by omega)]
      simp only [hvs, hls, Nat.sub_self, List.getElem_cons_zero]
      have hl2 : ((all.drop m).take q).length = q := by rw [List.length_take]; omega
      refine ⟨fun c hc => h256 c (List.mem_of_mem_take hc), _, rc, by rw [hl2], Or.inr ⟨rb, roff, rfl, hlt, fun j hj => ?_⟩⟩
      rw [hcell j (by omega)]
      simp
  · rw [List.flatten_append, hfl]
    simp only [List.flatten_cons, List.flatten_nil, List.append_nil]
    rw [List.take_add]
  · have hl3 : (all.drop (m + q)).length = rl - q := by rw [List.length_drop]; omega
    refine ⟨fun c hc => h256 c (by rw [← List.drop_drop] at hc; exact List.mem_of_mem_drop hc), ?_⟩
    by_cases h : rc = q
    · rw [if_pos h] at hr1
      exact ⟨_, rc - q, by rw [hl3]; exact hr1, by omega, by omega, Or.inl (List.eq_nil_of_length_eq_zero (by omega))⟩
    · rw [if_neg h] at hr1
      refine ⟨_, rc - q, by rw [hl3]; exact hr1, by omega, by omega, Or.inr ⟨rb, roff + q, rfl, hlt, fun j hj => ?_⟩⟩
      have := hcell (q + j) (by omega)
      rw [Nat.add_assoc, this]
      simp [Nat.add_assoc]
  · exact (hbel.alloc hbel.size o).grown hg (by have := hbel.size; simp; omega) (fun b hb => (hown.lt b hb).1)

theorem rows_own {w w1 : World} {base n : Nat} {v : Value} {vs : List Value} {ls : List (List Nat)} (hown : w1.ownsRow base 22 1 v n vs) (hvs : vs.length = n) (hls : ls.length = n)
    (hby : ∀ i, (h1 : i < vs.length) → (h2 : i < ls.length) → Bytes w vs[i] ls[i]) (hb : Below w.heap.size w w1) : Rows' w1 v ls := by
  have hcs := @World.ownsRow.cells w1 base 22 1 v n vs hown
  rcases hown.2 with ⟨rfl, hn⟩ | ⟨g, cap, cur, rfl, _⟩
  · refine ⟨none, 0, vs, by omega, by rw [hls, hn], Or.inl (List.eq_nil_of_length_eq_zero (by omega)), fun i h => by omega⟩
  · refine ⟨_, cap, vs, by omega, by rw [hls], Or.inr ⟨g, 0, rfl, fun i hi => ?_⟩, fun i hi => (hby i (by omega) hi).below hb⟩
    have := hcs (g := g) rfl i vs[i] (List.getElem?_eq_getElem hi)
    have e : (⟨g, 0, none⟩ : Addr).add i = ⟨g, 0 + i, none⟩ := by unfold Addr.add; split <;> simp_all
    rw [e] at this; exact this

/-- At the end: the pieces, the rest with them. -/
theorem cut_end {all : List Nat} {k m rc : Nat} {ra : Option Addr} {vs : List Value} {ls : List (List Nat)} {w wr w1 : World} {v v1 : Value} {o : Obj} {rl : Nat} (hvs : vs.length = k) (hls : ls.length = k)
    (hown1 : w1.ownsRow w.heap.size 22 1 v1 (k + 1) (vs ++ [.slice ra rl rc])) (hg : (wr.alloc o).grownBy w1 v.ownBlock) (hown : wr.ownsRow w.heap.size 22 1 v k vs)
    (hbel : Below w.heap.size w wr) (hby : ∀ i, (h1 : i < vs.length) → (h2 : i < ls.length) → Bytes w vs[i] ls[i]) (hrl : rl = (all.drop m).length) (h256 : ∀ c ∈ all.drop m, c < 256)
    (hcell : all.drop m = [] ∨ ∃ b off, ra = some ⟨b, off, none⟩ ∧ b < w.heap.size ∧ ∀ i, (h : i < (all.drop m).length) → w.cell? ⟨b, off + i, none⟩ = some (.int .u8 ((all.drop m)[i] : Nat))) :
    Rows' w1 v1 (ls ++ [all.drop m]) ∧ Below w.heap.size w w1 := by
  have hb : Below w.heap.size w w1 := (hbel.alloc hbel.size o).grown hg (by have := hbel.size; simp; omega) (fun b hb => (hown.lt b hb).1)
  refine ⟨rows_own hown1 (by simp [hvs]) (by simp [hls]) ?_ hb, hb⟩
  intro i h1 h2
  by_cases hi : i < k
  · rw [List.getElem_append_left (by omega), List.getElem_append_left (by omega)]
    exact hby i (by omega) (by omega)
  · have hik : i = k := by simp at h1; omega
    subst hik
    rw [List.getElem_append_right (by omega), List.getElem_append_right (by omega)]
    simp only [hvs, hls, Nat.sub_self, List.getElem_cons_zero]
    exact ⟨h256, ra, rc, by rw [hrl], hcell⟩

theorem flat_le {l : List Nat} : ∀ {ls : List (List Nat)}, l ∈ ls → l.length ≤ ls.flatten.length
  | [], h => by simp at h
  | m :: ls, h => by
    rw [List.flatten_cons, List.length_append]
    rcases List.mem_cons.1 h with rfl | h
    · omega
    · have := flat_le h; omega

theorem flat_end {all : List Nat} {m : Nat} {ls : List (List Nat)} (h : ls.flatten = all.take m) : (ls ++ [all.drop m]).flatten = all := by
  rw [List.flatten_append, h]; simp

set_option maxHeartbeats 1000000 in
theorem cuts_walk (v : Value) (all : List Nat) (cu : Option Addr) (ccap : Nat) (cuts : List Nat) (w : World) (hv : Rest w v all) (_hcl : cuts.length ≤ 9223372036854775807)
    (hc256 : ∀ c ∈ cuts, c < 256) (hcc : cuts = [] ∨ ∃ b off, cu = some ⟨b, off, none⟩ ∧ b < w.heap.size ∧ ∀ i, (h : i < cuts.length) → w.cell? ⟨b, off + i, none⟩ = some (.int .u8 (cuts[i] : Nat))) :
    Calls Try.prog 5 #[v, .slice cu cuts.length ccap] w fun e w' => e = .returned (.bool true) ∧ Below w.heap.size w w' := by
  have HV := Lib.hid hv
  obtain ⟨_, a, c, rfl, hlc, hcm, _⟩ := hv
  have HC := Lib.hid hcc
  have H256 := Lib.hid hc256
  clear hcc hc256
  by_cases hbig : 3000 < all.length
  · have hb' : (3000 : Int) < (all.length : Nat) := by omega
    go_enter Try.func5, Try.ntmps5
    go_wp2_with (go_at_call 6; refine (alive_any _).mono ?_; rintro e w' ⟨rfl, hbel⟩)
    go_ret
    exact ⟨rfl, hbel⟩
  · have hb' : ¬ (3000 : Int) < (all.length : Nat) := by omega
    obtain ⟨i0, hi, hz0, hz1, hz2⟩ := info_parts Try.info22
    have hst := Lib.hid (cut_start HV.out)
    go_enter Try.func5, Try.ntmps5
    go_wp2_with fail
    go_loopw [5, 6, 7] (fun l r i wr => ∃ k : Nat, k ≤ cuts.length ∧ k ≤ 60 ∧ i = .int .i64 k ∧ Cut all k w l r wr) (fun _ _ i _ => cuts.length - (intOf i).toNat)
    case atStart => exact ⟨0, Nat.zero_le _, Nat.zero_le _, rfl, hst.out⟩
    case round =>
      obtain ⟨k, hk, hk60, rfl, m, vs, ls, hvs, hls, hown, hby, hfl, hm, hrest, hbel⟩ := hrel
      obtain ⟨h256, ra, rc, rfl, hrl, hrc, hrcell⟩ := hrest
      obtain ⟨rl, hrl'⟩ : ∃ rl, rl = (all.drop m).length := ⟨_, rfl⟩
      have HRL := Lib.hid hrl'
      have HCell := Lib.hid hrcell
      have HOwn := Lib.hid hown
      have HBel := Lib.hid hbel
      have HFl := Lib.hid hfl
      have HBy := Lib.hid hby
      have HVs := Lib.hid hvs
      have HLs := Lib.hid hls
      have HR256 := Lib.hid h256
      rw [← hrl'] at hrl ⊢
      clear hrl' hrcell hbel hfl hby hvs hls h256
      by_cases hgo : k < cuts.length ∧ k < 60 ∧ 0 < rl
      · obtain ⟨g1, g2, g3⟩ := hgo
        have g2' : (k : Int) < 60 := by omega
        have g3' : (0 : Int) < rl := by omega
        obtain ⟨cb, coff, rfl, hcb, hcell⟩ := HC.out.resolve_left (by intro e; rw [e] at g1; simp at g1)
        have hd : wr.cell? ⟨cb, coff + k, none⟩ = some (.int .u8 (cuts[k] : Nat)) := by
          rw [HBel.out.cell (p := ⟨cb, coff + k, none⟩) hcb]; exact hcell k g1
        obtain ⟨d, hd'⟩ : ∃ d, d = cuts[k] := ⟨_, rfl⟩
        have hd256 : d < 256 := by rw [hd']; exact H256.out _ (List.getElem_mem g1)
        rw [← hd'] at hd
        clear hcell hcb hd' hown
        obtain ⟨rb, roff, rfl, hrb, hcl1⟩ := HCell.out.resolve_left (by intro e; have := HRL.out; rw [e] at this; simp at this; omega)
        have hcl2 := Lib.hid hcl1
        clear hcl1 HCell
        have hown := HOwn.out
        by_cases hgt : rl < d
        · have hgt' : (rl : Int) < d := by omega
          by_cases hcap : rc = rl
          · subst hcap
            go_wp2_with (at_builtin; refine wpList_append_own _ rfl _ _ 29 rfl w.heap.size 22 i0 (.slice none 0 0) 1 24 Try.underlying29 hi hz0 hz1 hz2 rfl (by decide) _ _ _ rfl (hown.alloc _) ⟨wr.heap.size, 0, none⟩ 1 1 [.slice (some ⟨rb, roff, none⟩) rc rc] rfl rfl ?ca1 ?ca2 ?ca3 ?ca4 ?ca5 ?_)
            try (case ca1 =>
              intro j u hj
              match j, hj with
              | 0, hj => simp at hj; subst hj; simp [Addr.add])
            case ca2 => first | rfl | (intro u hu; simp at hu; subst hu; rfl)
            case ca3 => unfold maxLen; omega
            case ca4 => omega
            case ca5 => have := HBel.out.size; simp; omega
            intro v1 w1 hown1 hg1 _
            have R := fun r1 => Lib.hid (cut_next (r1 := r1) HVs.out HLs.out hown1 hg1 HOwn.out HBel.out HBy.out HFl.out hm HRL.out HR256.out hrl hrc hrb hcl2.out (Nat.le_refl _))
            clear hown1 hg1 hown
            go_wp2_with fail
            go_roundw
            case rel => exact ⟨k + 1, by omega, by omega, by go_num, (R _).out (by first | (simp; done) | (simp; omega))⟩
            case measure => simp [intOf]; omega
          · go_wp2_with (at_builtin; refine wpList_append_own _ rfl _ _ 29 rfl w.heap.size 22 i0 (.slice none 0 0) 1 24 Try.underlying29 hi hz0 hz1 hz2 rfl (by decide) _ _ _ rfl (hown.alloc _) ⟨wr.heap.size, 0, none⟩ 1 1 [.slice (some ⟨rb, roff, none⟩) rl rc] rfl rfl ?cb1 ?cb2 ?cb3 ?cb4 ?cb5 ?_)
            try (case cb1 =>
              intro j u hj
              match j, hj with
              | 0, hj => simp at hj; subst hj; simp [Addr.add])
            case cb2 => first | rfl | (intro u hu; simp at hu; subst hu; rfl)
            case cb3 => unfold maxLen; omega
            case cb4 => omega
            case cb5 => have := HBel.out.size; simp; omega
            intro v1 w1 hown1 hg1 _
            have R := fun r1 => Lib.hid (cut_next (r1 := r1) HVs.out HLs.out hown1 hg1 HOwn.out HBel.out HBy.out HFl.out hm HRL.out HR256.out hrl hrc hrb hcl2.out (Nat.le_refl _))
            clear hown1 hg1 hown
            go_wp2_with fail
            go_roundw
            case rel => exact ⟨k + 1, by omega, by omega, by go_num, (R _).out (by simp [hcap])⟩
            case measure => simp [intOf]; omega
        · have hgt' : ¬ (rl : Int) < d := by omega
          by_cases hcap : rc = d
          · subst hcap
            go_wp2_with (at_builtin; refine wpList_append_own _ rfl _ _ 29 rfl w.heap.size 22 i0 (.slice none 0 0) 1 24 Try.underlying29 hi hz0 hz1 hz2 rfl (by decide) _ _ _ rfl (hown.alloc _) ⟨wr.heap.size, 0, none⟩ 1 1 [.slice (some ⟨rb, roff, none⟩) rc rc] rfl rfl ?cd1 ?cd2 ?cd3 ?cd4 ?cd5 ?_)
            try (case cd1 =>
              intro j u hj
              match j, hj with
              | 0, hj => simp at hj; subst hj; simp [Addr.add])
            case cd2 => first | rfl | (intro u hu; simp at hu; subst hu; rfl)
            case cd3 => unfold maxLen; omega
            case cd4 => omega
            case cd5 => have := HBel.out.size; simp; omega
            intro v1 w1 hown1 hg1 _
            have R := fun r1 => Lib.hid (cut_next (r1 := r1) HVs.out HLs.out hown1 hg1 HOwn.out HBel.out HBy.out HFl.out hm HRL.out HR256.out hrl hrc hrb hcl2.out (by omega))
            clear hown1 hg1 hown
            go_wp2_with fail
            go_roundw
            case rel => exact ⟨k + 1, by omega, by omega, by go_num, (R _).out (by first | (simp; done) | (simp; omega))⟩
            case measure => simp [intOf]; omega
          · go_wp2_with (at_builtin; refine wpList_append_own _ rfl _ _ 29 rfl w.heap.size 22 i0 (.slice none 0 0) 1 24 Try.underlying29 hi hz0 hz1 hz2 rfl (by decide) _ _ _ rfl (hown.alloc _) ⟨wr.heap.size, 0, none⟩ 1 1 [.slice (some ⟨rb, roff, none⟩) d rc] rfl rfl ?ce1 ?ce2 ?ce3 ?ce4 ?ce5 ?_)
            try (case ce1 =>
              intro j u hj
              match j, hj with
              | 0, hj => simp at hj; subst hj; simp [Addr.add])
            case ce2 => first | rfl | (intro u hu; simp at hu; subst hu; rfl)
            case ce3 => unfold maxLen; omega
            case ce4 => omega
            case ce5 => have := HBel.out.size; simp; omega
            intro v1 w1 hown1 hg1 _
            have R := fun r1 => Lib.hid (cut_next (r1 := r1) HVs.out HLs.out hown1 hg1 HOwn.out HBel.out HBy.out HFl.out hm HRL.out HR256.out hrl hrc hrb hcl2.out (by omega))
            clear hown1 hg1 hown
            go_wp2_with fail
            go_roundw
            case rel => exact ⟨k + 1, by omega, by omega, by go_num, (R _).out (by simp [hcap])⟩
            case measure => simp [intOf]; omega
      · have hd : rl = (all.drop m).length := HRL.out
        rw [List.length_drop] at hd
        have hown := HOwn.out
        have hlen : k < cuts.length → k < 60 → ¬ 0 < rl := fun h1 h2 h3 => hgo ⟨h1, h2, h3⟩
        have HHd := Lib.hid hd
        clear hgo hd
        have hexit : (k < cuts.length ∧ (k : Int) < 60 ∧ ¬ (0 : Int) < rl ∧ rl = 0) ∨ (k < cuts.length ∧ ¬ (k : Int) < 60) ∨ ¬ k < cuts.length := by
          by_cases h1 : k < cuts.length
          · by_cases h2 : k < 60
            · have := hlen h1 h2; exact Or.inl ⟨h1, by omega, by omega, by omega⟩
            · exact Or.inr (Or.inl ⟨h1, by omega⟩)
          · exact Or.inr (Or.inr h1)
        clear hlen
        rcases hexit with ⟨h1, h2, h3, rfl⟩ | ⟨h1, h2⟩ | h1
        · go_wp2_with (at_builtin; refine wpList_append_own _ rfl _ _ 29 rfl w.heap.size 22 i0 (.slice none 0 0) 1 24 Try.underlying29 hi hz0 hz1 hz2 rfl (by decide) _ _ _ rfl (hown.alloc _) ⟨wr.heap.size, 0, none⟩ 1 1 [.slice ra 0 rc] rfl rfl ?cf1 ?cf2 ?cf3 ?cf4 ?cf5 ?_)
          try (case cf1 =>
            intro j u hj
            match j, hj with
            | 0, hj => simp at hj; subst hj; simp [Addr.add])
          case cf2 => first | rfl | (intro u hu; simp at hu; subst hu; rfl)
          case cf3 => unfold maxLen; omega
          case cf4 => omega
          case cf5 => have := HBel.out.size; simp; omega
          intro v1 w1 hown1 hg1 _
          have R := cut_end HVs.out HLs.out hown1 hg1 HOwn.out HBel.out HBy.out HRL.out HR256.out HCell.out
          have HR1 := Lib.hid R.1
          have HB1 := Lib.hid R.2
          clear R hown1 hg1 hown
          go_wp2_with fail
          refine (alive_any _).mono ?_
          rintro e w2 ⟨rfl, hb2⟩
          have HR2 := Lib.hid (HR1.out.below hb2)
          have HB2 := Lib.hid (HB1.out.trans (hb2.mono HB1.out.size))
          clear hb2
          go_wp2_with fail
          refine (join_any _ _ _ HR2.out (by have := HLs.out; simp; omega) ?_).mono ?_
          · intro l hl
            have hmem : l.length ≤ (ls ++ [all.drop m]).flatten.length := by
              exact flat_le hl
            rw [flat_end HFl.out] at hmem
            omega
          rw [flat_end HFl.out]
          rintro e w3 ⟨rfl, rfl⟩
          have HV3 := Lib.hid (HV.out.bytes.below HB2.out)
          go_wp2_with fail
          refine (of_any _ _ _ HV3.out (by omega)).mono ?_
          rintro e w4 ⟨rfl, hb4⟩
          have HB4 := Lib.hid (HB2.out.trans (hb4.mono HB2.out.size))
          clear hb4
          go_wp2_with fail
          go_ret
          exact ⟨rfl, HB4.out⟩
        · go_wp2_with (at_builtin; refine wpList_append_own _ rfl _ _ 29 rfl w.heap.size 22 i0 (.slice none 0 0) 1 24 Try.underlying29 hi hz0 hz1 hz2 rfl (by decide) _ _ _ rfl (hown.alloc _) ⟨wr.heap.size, 0, none⟩ 1 1 [.slice ra rl rc] rfl rfl ?cg1 ?cg2 ?cg3 ?cg4 ?cg5 ?_)
          try (case cg1 =>
            intro j u hj
            match j, hj with
            | 0, hj => simp at hj; subst hj; simp [Addr.add])
          case cg2 => first | rfl | (intro u hu; simp at hu; subst hu; rfl)
          case cg3 => unfold maxLen; omega
          case cg4 => omega
          case cg5 => have := HBel.out.size; simp; omega
          intro v1 w1 hown1 hg1 _
          have R := cut_end HVs.out HLs.out hown1 hg1 HOwn.out HBel.out HBy.out HRL.out HR256.out HCell.out
          have HR1 := Lib.hid R.1
          have HB1 := Lib.hid R.2
          clear R hown1 hg1 hown
          go_wp2_with fail
          refine (alive_any _).mono ?_
          rintro e w2 ⟨rfl, hb2⟩
          have HR2 := Lib.hid (HR1.out.below hb2)
          have HB2 := Lib.hid (HB1.out.trans (hb2.mono HB1.out.size))
          clear hb2
          go_wp2_with fail
          refine (join_any _ _ _ HR2.out (by have := HLs.out; simp; omega) ?_).mono ?_
          · intro l hl
            have hmem : l.length ≤ (ls ++ [all.drop m]).flatten.length := by
              exact flat_le hl
            rw [flat_end HFl.out] at hmem
            omega
          rw [flat_end HFl.out]
          rintro e w3 ⟨rfl, rfl⟩
          have HV3 := Lib.hid (HV.out.bytes.below HB2.out)
          go_wp2_with fail
          refine (of_any _ _ _ HV3.out (by omega)).mono ?_
          rintro e w4 ⟨rfl, hb4⟩
          have HB4 := Lib.hid (HB2.out.trans (hb4.mono HB2.out.size))
          clear hb4
          go_wp2_with fail
          go_ret
          exact ⟨rfl, HB4.out⟩
        · go_wp2_with (at_builtin; refine wpList_append_own _ rfl _ _ 29 rfl w.heap.size 22 i0 (.slice none 0 0) 1 24 Try.underlying29 hi hz0 hz1 hz2 rfl (by decide) _ _ _ rfl (hown.alloc _) ⟨wr.heap.size, 0, none⟩ 1 1 [.slice ra rl rc] rfl rfl ?ch1 ?ch2 ?ch3 ?ch4 ?ch5 ?_)
          try (case ch1 =>
            intro j u hj
            match j, hj with
            | 0, hj => simp at hj; subst hj; simp [Addr.add])
          case ch2 => first | rfl | (intro u hu; simp at hu; subst hu; rfl)
          case ch3 => unfold maxLen; omega
          case ch4 => omega
          case ch5 => have := HBel.out.size; simp; omega
          intro v1 w1 hown1 hg1 _
          have R := cut_end HVs.out HLs.out hown1 hg1 HOwn.out HBel.out HBy.out HRL.out HR256.out HCell.out
          have HR1 := Lib.hid R.1
          have HB1 := Lib.hid R.2
          clear R hown1 hg1 hown
          go_wp2_with fail
          refine (alive_any _).mono ?_
          rintro e w2 ⟨rfl, hb2⟩
          have HR2 := Lib.hid (HR1.out.below hb2)
          have HB2 := Lib.hid (HB1.out.trans (hb2.mono HB1.out.size))
          clear hb2
          go_wp2_with fail
          refine (join_any _ _ _ HR2.out (by have := HLs.out; simp; omega) ?_).mono ?_
          · intro l hl
            have hmem : l.length ≤ (ls ++ [all.drop m]).flatten.length := by
              exact flat_le hl
            rw [flat_end HFl.out] at hmem
            omega
          rw [flat_end HFl.out]
          rintro e w3 ⟨rfl, rfl⟩
          have HV3 := Lib.hid (HV.out.bytes.below HB2.out)
          go_wp2_with fail
          refine (of_any _ _ _ HV3.out (by omega)).mono ?_
          rintro e w4 ⟨rfl, hb4⟩
          have HB4 := Lib.hid (HB2.out.trans (hb4.mono HB2.out.size))
          clear hb4
          go_wp2_with fail
          go_ret
          exact ⟨rfl, HB4.out⟩

theorem rest_of {w : World} {a : Option Addr} {len cap : Nat} {ns : List Nat} (hz : ns.length = len) (hm : len ≤ cap ∧ cap ≤ 9223372036854775807) (h256 : ∀ c ∈ ns, c < 256)
    (h : ns = [] ∨ ∃ b off, a = some ⟨b, off, none⟩ ∧ b < w.heap.size ∧ ∀ i, (hi : i < ns.length) → w.cell? ⟨b, off + i, none⟩ = some (.int .u8 (ns[i] : Nat))) : Rest w (.slice a len cap) ns := by
  subst hz
  exact ⟨h256, a, cap, rfl, hm.1, hm.2, h⟩

set_option maxRecDepth 100000 in
theorem cuts_lifted (os : Os) (started : os.Started) (H : Type) (enc : TypeId × Value → H) :
    ReturnsInHanded {} Try.checked os 5 .any (Rows.crcCutsSpec.pre6 enc Try.prog Try.f5 Rows.crcCutsRow.domain false) (Rows.crcCutsSpec.post enc Try.prog Try.f5 false true false false) := by
  refine law_lift (C := Try.checked) own_knob started (by kernel_rfl) Try.func5 rfl Try.underlying4 laid_out (by kernel_rfl) rfl ?_
    (ChangeSpec.witness6 (enc := enc) (C := Try.checked) false ⟨#[], #[.slice none 0 0, .slice none 0 0], []⟩ 8 (by kernel_rfl) (by kernel_rfl) (by kernel_rfl) (by kernel_rfl)) ?_
  · intro ds hds
    match ds, hds with
    | [_, _], _ => rfl
  intro W base args ds ps hval hA hlt hsz
  rw [Try.params5] at hA hval
  obtain ⟨v0, vs0, d0, ds0, p0, q0, hargs, rfl, rfl, h0, r0⟩ := trodAll_cons hA
  obtain ⟨v1, vs1, d1, ds1, p1, q1, rfl, rfl, rfl, h1, r1⟩ := trodAll_cons r0
  obtain ⟨rfl, rfl, rfl⟩ := trodAll_nil r1
  obtain rfl : args = #[v0, v1] := by cases args; simp_all
  obtain ⟨a, len, cap, zs, rfl, hz, hm, hw, hc⟩ := open_row_cap Try.underlying22 Try.underlying5 (by kernel_rfl) (hval 0 22 v0 rfl rfl) h0 (fun x hx => hlt x (by simp [hx]))
  obtain ⟨a', len', cap', zs', rfl, hz', hm', hw', hc'⟩ := open_row Try.underlying22 Try.underlying5 (by kernel_rfl) (hval 1 22 v1 rfl rfl) h1 (fun x hx => hlt x (by simp [hx]))
  obtain ⟨ns, rfl⟩ := nats_of (fun n hn => (bounds_u8 (hw n hn)).1)
  obtain ⟨ns', rfl⟩ := nats_of (fun n hn => (bounds_u8 (hw' n hn)).1)
  rw [List.length_map] at hz hz'
  subst hz'
  refine cuts_walk _ ns a' cap' ns' W (rest_of hz hm ?_ (row_nats hc)) hm' ?_ (row_nats hc')
  · intro x hx
    have := bounds_u8 (hw x (List.mem_map.2 ⟨x, hx, rfl⟩)); omega
  · intro x hx
    have := bounds_u8 (hw' x (List.mem_map.2 ⟨x, hx, rfl⟩)); omega

theorem cuts_holds : Rows.CrcCutsSaid :=
  OpenClaim.holds_of_wide 5 Try.f5 rfl rfl rfl rfl rfl rfl rfl ⟨rfl, rfl, rfl, rfl, rfl⟩ rfl rfl rfl rfl rfl (by kernel_rfl) Try.func5 (by kernel_rfl)
    (of_decide_eq_true (by kernel_rfl)) (by unfold Func.isWrapper; first | (rw [if_pos (by decide +kernel)]; kernel_rfl) | (rw [if_neg (by decide +kernel)]; exact ⟨rfl, rfl⟩))
    (fun os started H enc _ => cuts_lifted os started H enc)
end Go.Proofs.Ytiadbapelkagiaa
