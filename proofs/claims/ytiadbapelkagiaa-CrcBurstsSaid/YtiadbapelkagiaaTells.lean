/-
CrcTells holds: for every three lists of bytes, the sum of one, and of several, one behind the other, is the document's. No condition.
-/
import Derived.Test.YtiadbapelkagiaaCuts
import Derived.Test.YtiadbapelkagiaaAppend
namespace Go.Proofs.Ytiadbapelkagiaa
open Go.ChangeShapes Go.WideShapes Go.ChangeAt Go.RowKit

theorem Try.info5 : (Try.prog.info? 5).map (fun i => (i.zero, i.size, i.bytes)) = some (some (.int .u8 0), 1, 1) := by kernel_rfl

theorem rows_three {w : World} {u v x : Value} {l m n : List Nat} (h : Bytes w u l) (h' : Bytes w v m) (h'' : Bytes w x n) : Rows' (w.alloc (.cells #[u, v, x] 22)) (.slice (some ⟨w.heap.size, 0, none⟩) 3 3) [l, m, n] := by
  have hb : Below w.heap.size w (w.alloc (.cells #[u, v, x] 22)) := (Below.refl _ _).alloc (Nat.le_refl _) _
  refine ⟨_, 3, [u, v, x], rfl, rfl, Or.inr ⟨w.heap.size, 0, rfl, ?_⟩, ?_⟩
  · intro i hi
    have : i = 0 ∨ i = 1 ∨ i = 2 := by simp at hi; omega
    rcases this with rfl | rfl | rfl <;> go_simp
  · intro i hi
    have : i = 0 ∨ i = 1 ∨ i = 2 := by simp at hi; omega
    rcases this with rfl | rfl | rfl
    · exact h.below hb
    · exact h'.below hb
    · exact h''.below hb

/-- Bytes as cells. -/
def cellsOf (l : List Nat) : List Value := l.map fun n => .int .u8 (n : Nat)
theorem cellsOf_length (l : List Nat) : (cellsOf l).length = l.length := by unfold cellsOf; simp
theorem cellsOf_nil : cellsOf [] = [] := rfl
theorem cellsOf_append (l m : List Nat) : cellsOf (l ++ m) = cellsOf l ++ cellsOf m := by unfold cellsOf; simp
theorem cellsOf_one (l : List Nat) : ∀ u ∈ cellsOf l, u.oneCell' = true := by
  intro u hu; unfold cellsOf at hu; obtain ⟨_, _, rfl⟩ := List.mem_map.1 hu; rfl

theorem Bytes.src {w : World} {A : Option Addr} {l : List Nat} {c : Nat} (h : Bytes w (.slice A l.length c) l) : Src w A l.length (cellsOf l) := by
  obtain ⟨_, a, c', e, h⟩ := h
  simp only [Value.slice.injEq] at e
  obtain ⟨rfl, _, _⟩ := e
  rcases h with rfl | ⟨b, off, rfl, hlt, hc⟩
  · cases A with
    | none => exact Or.inr ⟨rfl, rfl, rfl⟩
    | some ad => exact Or.inl ⟨ad, rfl, fun j u hj => by simp [cellsOf] at hj⟩
  · refine Or.inl ⟨_, rfl, fun j u hj => ?_⟩
    unfold cellsOf at hj
    rw [List.getElem?_map] at hj
    obtain ⟨n, hn, rfl⟩ := Option.map_eq_some_iff.1 hj
    obtain ⟨hjl, rfl⟩ := List.getElem?_eq_some_iff.1 hn
    have e : (⟨b, off, none⟩ : Addr).add j = ⟨b, off + j, none⟩ := by unfold Addr.add; split <;> simp_all
    rw [e]; exact hc j hjl

theorem Bytes.own {w : World} {base : Nat} {v : Value} {l : List Nat} (h : w.ownsRow base 5 1 v l.length (cellsOf l)) (h256 : ∀ c ∈ l, c < 256) : Bytes w v l := by
  have hlt := h.lt
  have hcs := @World.ownsRow.cells w base 5 1 v l.length _ h
  refine ⟨h256, ?_⟩
  rcases h.2 with ⟨rfl, hn⟩ | ⟨g, cap, cur, rfl, hg, hh, _⟩
  · exact ⟨none, 0, by rw [hn], Or.inl (List.eq_nil_of_length_eq_zero hn)⟩
  · refine ⟨_, cap, rfl, Or.inr ⟨g, 0, rfl, (hlt g rfl).2, fun i hi => ?_⟩⟩
    have := hcs (g := g) rfl i (.int .u8 (l[i] : Nat)) (by unfold cellsOf; rw [List.getElem?_map, List.getElem?_eq_getElem hi]; rfl)
    have e : (⟨g, 0, none⟩ : Addr).add i = ⟨g, 0 + i, none⟩ := by unfold Addr.add; split <;> simp_all
    rw [e] at this; exact this

set_option maxHeartbeats 1000000 in
theorem tells_walk (A1 A2 A3 : Option Addr) (c1 c2 c3 : Nat) (l1 l2 l3 : List Nat) (w : World) (h1 : Bytes w (.slice A1 l1.length c1) l1) (h2 : Bytes w (.slice A2 l2.length c2) l2) (h3 : Bytes w (.slice A3 l3.length c3) l3) :
    Calls Try.prog 3 #[.slice A1 l1.length c1, .slice A2 l2.length c2, .slice A3 l3.length c3] w fun e w' => e = .returned (.bool true) ∧ Below w.heap.size w w' := by
  have H1 := Lib.hid h1
  have H2 := Lib.hid h2
  have H3 := Lib.hid h3
  clear h1 h2 h3
  by_cases hbig : l1.length ≤ 3000 ∧ l2.length ≤ 3000 ∧ l3.length ≤ 3000
  · obtain ⟨b1, b2, b3⟩ := hbig
    have g1 : ¬ (3000 : Int) < (l1.length : Nat) := by omega
    have g2 : ¬ (3000 : Int) < (l2.length : Nat) := by omega
    have g3 : ¬ (3000 : Int) < (l3.length : Nat) := by omega
    obtain ⟨i0, hi, hz0, hz1, hz2⟩ := info_parts Try.info5
    have hlit : (w.alloc (.cells #[] 5)).ownsRow w.heap.size 5 1 (.slice (some ⟨w.heap.size, 0, none⟩) 0 0) 0 (cellsOf []) := World.ownsRow_lit (base := w.heap.size) (size := 1) (e := 5) w #[] 0 (Nat.le_refl _) (by unfold maxLen; omega) rfl
    have hB0 : Hid (Below w.heap.size w (w.alloc (.cells #[] 5))) := Lib.hid ((Below.refl _ _).alloc (Nat.le_refl _) _)
    go_enter Try.func3, Try.ntmps3
    go_wp2_with (at_builtin; refine wpList_append_src _ rfl (.tmp 22) (.tmp 23) 22 rfl w.heap.size 5 i0 (.int .u8 0) 1 1 Try.underlying22 hi hz0 hz1 hz2 rfl (by decide) _ _ _ rfl hlit A1 l1.length c1 (cellsOf l1) rfl ?ca11 ?ca12 ?ca13 ?ca14 ?ca15 ?ca16 ?_)
    case ca11 => simp [cellsOf_length]
    case ca12 => exact H1.out.src.below hB0.out
    case ca13 => exact cellsOf_one _
    case ca14 => unfold maxLen; omega
    case ca15 => omega
    try (case ca16 => have := hB0.out.size; omega)
    intro v1 w1 o1 q1
    have o1' : w1.ownsRow w.heap.size 5 1 v1 (l1).length (cellsOf (l1)) := by simpa [cellsOf_nil] using o1
    have hB1 : Hid (Below w.heap.size w w1) := Lib.hid (hB0.out.grown q1 hB0.out.size (fun b hb => (hlit.lt b hb).1))
    go_wp2_with (at_builtin; refine wpList_append_src _ rfl (.tmp 24) (.tmp 25) 22 rfl w.heap.size 5 i0 (.int .u8 0) 1 1 Try.underlying22 hi hz0 hz1 hz2 rfl (by decide) _ _ _ rfl o1' A2 l2.length c2 (cellsOf l2) rfl ?ca21 ?ca22 ?ca23 ?ca24 ?ca25 ?ca26 ?_)
    case ca21 => simp [cellsOf_length]
    case ca22 => exact H2.out.src.below hB1.out
    case ca23 => exact cellsOf_one _
    case ca24 => unfold maxLen; omega
    case ca25 => omega
    try (case ca26 => have := hB1.out.size; omega)
    intro v2 w2 o2 q2
    have o2' : w2.ownsRow w.heap.size 5 1 v2 (l1 ++ l2).length (cellsOf (l1 ++ l2)) := by rw [List.length_append, cellsOf_append]; exact o2
    have hB2 : Hid (Below w.heap.size w w2) := Lib.hid (hB1.out.grown q2 hB1.out.size (fun b hb => (o1'.lt b hb).1))
    go_wp2_with (at_builtin; refine wpList_append_src _ rfl (.tmp 26) (.tmp 27) 22 rfl w.heap.size 5 i0 (.int .u8 0) 1 1 Try.underlying22 hi hz0 hz1 hz2 rfl (by decide) _ _ _ rfl o2' A3 l3.length c3 (cellsOf l3) rfl ?ca31 ?ca32 ?ca33 ?ca34 ?ca35 ?ca36 ?_)
    case ca31 => simp [cellsOf_length]
    case ca32 => exact H3.out.src.below hB2.out
    case ca33 => exact cellsOf_one _
    case ca34 => rw [List.length_append]; unfold maxLen; omega
    case ca35 => rw [List.length_append]; omega
    try (case ca36 => have := hB2.out.size; omega)
    intro v3 w3 o3 q3
    have o3' : w3.ownsRow w.heap.size 5 1 v3 ((l1 ++ l2) ++ l3).length (cellsOf ((l1 ++ l2) ++ l3)) := by rw [List.length_append, List.length_append, cellsOf_append]; exact o3
    have hB3 : Hid (Below w.heap.size w w3) := Lib.hid (hB2.out.grown q3 hB2.out.size (fun b hb => (o2'.lt b hb).1))
    have hall : Hid (Bytes w3 v3 ((l1 ++ l2) ++ l3)) := Lib.hid (Bytes.own o3' (by
      intro c hc
      rw [List.mem_append, List.mem_append] at hc
      rcases hc with (hc | hc) | hc
      · exact H1.out.1 c hc
      · exact H2.out.1 c hc
      · exact H3.out.1 c hc))
    have hlen : ((l1 ++ l2) ++ l3).length ≤ 9223372036854775807 := by simp; omega
    clear hlit o1 o2 o3 o1' o2' o3' q1 q2 q3 hi hz0 hz1 hz2
    go_wp2_with fail
    refine (alive_any _).mono ?_
    rintro e w4 ⟨rfl, hb4⟩
    have hB4 := Lib.hid (hB3.out.trans (hb4.mono hB3.out.size))
    have hall4 := Lib.hid (hall.out.below hb4)
    clear hb4
    have K1 := Lib.hid (H1.out.below hB4.out)
    go_wp2_with fail
    refine (of_any _ _ _ K1.out (by omega)).mono ?_
    rintro e w5 ⟨rfl, hb5⟩
    have hB5 := Lib.hid (hB4.out.trans (hb5.mono hB4.out.size))
    have hall5 := Lib.hid (hall4.out.below hb5)
    clear hb5
    have K2 := Lib.hid (H1.out.below hB5.out)
    go_wp2_with fail
    refine (rof_any _ _ _ K2.out (by omega)).mono ?_
    rintro e w5' ⟨rfl, rfl⟩
    have R3 := Lib.hid (rows_three (H1.out.below hB5.out) (H2.out.below hB5.out) (H3.out.below hB5.out))
    have hB6 := Lib.hid (hB5.out.alloc hB5.out.size (.cells #[.slice A1 l1.length c1, .slice A2 l2.length c2, .slice A3 l3.length c3] 22))
    have hall6 := Lib.hid (hall5.out.below ((Below.refl _ _).alloc (Nat.le_refl _) (.cells #[.slice A1 l1.length c1, .slice A2 l2.length c2, .slice A3 l3.length c3] 22)))
    have hf : [l1, l2, l3].flatten = (l1 ++ l2) ++ l3 := by simp
    have HF := Lib.hid hf
    clear hf
    go_wp2_with fail
    refine (join_any _ [l1, l2, l3] _ R3.out (by simp) (by intro l hl; simp at hl; rcases hl with rfl | rfl | rfl <;> omega)).mono ?_
    rintro e w6 ⟨rfl, rfl⟩
    rw [HF.out]
    go_wp2_with fail
    refine (rof_any _ _ _ hall6.out hlen).mono ?_
    rintro e w6' ⟨rfl, rfl⟩
    have K3 := Lib.hid (H1.out.below hB6.out)
    have r1 := rows_one K3.out
    rw [show (w5.alloc (.cells #[.slice A1 l1.length c1, .slice A2 l2.length c2, .slice A3 l3.length c3] 22)).heap.size = w5.heap.size + 1 by simp] at r1
    have R1 := Lib.hid r1
    clear r1
    have hB7 := Lib.hid (hB6.out.alloc hB6.out.size (.cells #[.slice A1 l1.length c1] 22))
    have K4 := Lib.hid (H1.out.below hB7.out)
    have hf1 : Hid ([l1].flatten = l1) := Lib.hid (by simp)
    go_wp2_with fail
    refine (join_any _ [l1] _ R1.out (by simp) (by intro l hl; simp at hl; subst hl; omega)).mono ?_
    rintro e w7 ⟨rfl, rfl⟩
    rw [hf1.out]
    go_wp2_with fail
    refine (rof_any _ _ _ K4.out (by omega)).mono ?_
    rintro e w7' ⟨rfl, rfl⟩
    go_wp2_with fail
    go_ret
    exact ⟨rfl, hB7.out⟩
  · have hsplit : (3000 : Int) < (l1.length : Nat) ∨ (¬ (3000 : Int) < (l1.length : Nat) ∧ (3000 : Int) < (l2.length : Nat)) ∨ (¬ (3000 : Int) < (l1.length : Nat) ∧ ¬ (3000 : Int) < (l2.length : Nat) ∧ (3000 : Int) < (l3.length : Nat)) := by omega
    clear hbig
    rcases hsplit with g1 | ⟨g1, g2⟩ | ⟨g1, g2, g3⟩
    all_goals
      go_enter Try.func3, Try.ntmps3
      go_wp2_with (go_at_call 6; refine (alive_any _).mono ?_; rintro e w' ⟨rfl, hbel⟩)
      go_ret
      exact ⟨rfl, hbel⟩

theorem bytes_of {w : World} {a : Option Addr} {len cap : Nat} {ns : List Nat} (hz : ns.length = len) (h256 : ∀ c ∈ ns, c < 256)
    (h : ns = [] ∨ ∃ b off, a = some ⟨b, off, none⟩ ∧ b < w.heap.size ∧ ∀ i, (hi : i < ns.length) → w.cell? ⟨b, off + i, none⟩ = some (.int .u8 (ns[i] : Nat))) : Bytes w (.slice a len cap) ns := by
  subst hz
  exact ⟨h256, a, cap, rfl, h⟩
theorem small8 {ns : List Nat} (hw : ∀ n ∈ ns.map (fun n : Nat => (n : Int)), (Lit.int .u8 n).wf = true) : ∀ c ∈ ns, c < 256 := by
  intro x hx
  have := bounds_u8 (hw x (List.mem_map.2 ⟨x, hx, rfl⟩)); omega

set_option maxRecDepth 100000 in
theorem tells_lifted (os : Os) (started : os.Started) (H : Type) (enc : TypeId × Value → H) :
    ReturnsInHanded {} Try.checked os 3 .any (Rows.crcTellsSpec.pre6 enc Try.prog Try.f3 Rows.crcTellsRow.domain false) (Rows.crcTellsSpec.post enc Try.prog Try.f3 false true false false) := by
  refine law_lift (C := Try.checked) own_knob started (by kernel_rfl) Try.func3 rfl Try.underlying4 laid_out (by kernel_rfl) rfl ?_
    (ChangeSpec.witness6 (enc := enc) (C := Try.checked) false ⟨#[], #[.slice none 0 0, .slice none 0 0, .slice none 0 0], []⟩ 8 (by kernel_rfl) (by kernel_rfl) (by kernel_rfl) (by kernel_rfl)) ?_
  · intro ds hds
    match ds, hds with
    | [_, _, _], _ => rfl
  intro W base args ds ps hval hA hlt hsz
  rw [Try.params3] at hA hval
  obtain ⟨v0, vs0, d0, ds0, p0, q0, hargs, rfl, rfl, h0, r0⟩ := trodAll_cons hA
  obtain ⟨v1, vs1, d1, ds1, p1, q1, rfl, rfl, rfl, h1, r1⟩ := trodAll_cons r0
  obtain ⟨v2, vs2, d2, ds2, p2, q2, rfl, rfl, rfl, h2, r2⟩ := trodAll_cons r1
  obtain ⟨rfl, rfl, rfl⟩ := trodAll_nil r2
  obtain rfl : args = #[v0, v1, v2] := by cases args; simp_all
  obtain ⟨a, len, cap, zs, rfl, hz, _, hw, hc⟩ := open_row Try.underlying22 Try.underlying5 (by kernel_rfl) (hval 0 22 v0 rfl rfl) h0 (fun x hx => hlt x (by simp [hx]))
  obtain ⟨a', len', cap', zs', rfl, hz', _, hw', hc'⟩ := open_row Try.underlying22 Try.underlying5 (by kernel_rfl) (hval 1 22 v1 rfl rfl) h1 (fun x hx => hlt x (by simp [hx]))
  obtain ⟨a'', len'', cap'', zs'', rfl, hz'', _, hw'', hc''⟩ := open_row Try.underlying22 Try.underlying5 (by kernel_rfl) (hval 2 22 v2 rfl rfl) h2 (fun x hx => hlt x (by simp [hx]))
  obtain ⟨ns, rfl⟩ := nats_of (fun n hn => (bounds_u8 (hw n hn)).1)
  obtain ⟨ns', rfl⟩ := nats_of (fun n hn => (bounds_u8 (hw' n hn)).1)
  obtain ⟨ns'', rfl⟩ := nats_of (fun n hn => (bounds_u8 (hw'' n hn)).1)
  rw [List.length_map] at hz hz' hz''
  subst hz hz' hz''
  exact tells_walk a a' a'' cap cap' cap'' ns ns' ns'' W (bytes_of rfl (small8 hw) (row_nats hc)) (bytes_of rfl (small8 hw') (row_nats hc')) (bytes_of rfl (small8 hw'') (row_nats hc''))

theorem tells_holds : Rows.CrcTellsSaid :=
  OpenClaim.holds_of_wide 3 Try.f3 rfl rfl rfl rfl rfl rfl rfl ⟨rfl, rfl, rfl, rfl, rfl⟩ rfl rfl rfl rfl rfl (by kernel_rfl) Try.func3 (by kernel_rfl)
    (of_decide_eq_true (by kernel_rfl)) (by unfold Func.isWrapper; first | (rw [if_pos (by decide +kernel)]; kernel_rfl) | (rw [if_neg (by decide +kernel)]; exact ⟨rfl, rfl⟩))
    (fun os started H enc _ => tells_lifted os started H enc)
end Go.Proofs.Ytiadbapelkagiaa
