/-
relay: a tree's edges cloned; New.
-/
import Derived.Test.YtohnhokddbeheaaRl2
namespace Go.Proofs.Ytohnhokddbeheaa
open Go.RowKit
set_option linter.unusedSimpArgs false
set_option linter.unusedVariables false
namespace Rl
open Tr
/-- A row of edges of the call's own. -/
def ecs (es : List (Int × Int)) : List Value := es.flatMap ec
theorem ecs_len (es : List (Int × Int)) : (ecs es).length = es.length * 2 := by
  induction es with
  | nil => rfl
  | cons e es ih => show (ec e ++ ecs es).length = _; rw [List.length_append, ih, List.length_cons]; show 2 + _ = _; omega
theorem ecs_app (es fs : List (Int × Int)) : ecs (es ++ fs) = ecs es ++ ecs fs := by simp [ecs]
def Eds (w : World) (base : Nat) (v : Value) (es : List (Int × Int)) : Prop := OffR w base 75 2 v es.length (ecs es)
theorem ecs_get : ∀ {es : List (Int × Int)} {i : Nat} {e : Int × Int}, es[i]? = some e → ∀ j u, (ec e)[j]? = some u → (ecs es)[i * 2 + j]? = some u
  | f :: es, 0, e, h, j, u, hu => by
    simp only [List.getElem?_cons_zero, Option.some.injEq] at h
    subst h
    show (ec f ++ ecs es)[0 * 2 + j]? = some u
    rw [List.getElem?_append_left (by rw [Nat.zero_mul, Nat.zero_add]; exact (List.getElem?_eq_some_iff.1 hu).1), Nat.zero_mul, Nat.zero_add]
    exact hu
  | f :: es, i + 1, e, h, j, u, hu => by
    have := ecs_get (es := es) (i := i) (by simpa using h) j u hu
    show (ec f ++ ecs es)[(i + 1) * 2 + j]? = some u
    rw [List.getElem?_append_right (by show 2 ≤ _; omega), show (i + 1) * 2 + j - (ec f).length = i * 2 + j by show (i + 1) * 2 + j - 2 = _; omega]
    exact this
theorem Eds.rows {w : World} {B n c : Nat} {A : Option Addr} {es : List (Int × Int)} (h : Eds w B (.slice A n c) es) : RowsOf ec 2 w A es := by
  by_cases h0 : es = []
  · exact .inl h0
  · obtain ⟨g, o, c', e, _, _, hg⟩ := OffR.lies h (by intro e; exact h0 (List.eq_nil_of_length_eq_zero e))
    simp only [Value.slice.injEq] at e
    obtain ⟨rfl, rfl, rfl⟩ := e
    refine .inr ⟨g, o, rfl, hg, fun i hi j u hu => ?_⟩
    have := OffR.cells h rfl (i * 2 + j) u (ecs_get (List.getElem?_eq_getElem hi) j u hu)
    rw [← Nat.add_assoc] at this
    exact this
theorem info_edge : ∃ i z, Try.prog.info? 75 = some i ∧ i.zero = some z ∧ i.size = 2 ∧ i.bytes = 16 ∧ z.cells.size = 2 := by
  have h : ((Try.prog.info? 75).bind fun i => i.zero.map fun z => (i.size, i.bytes, z.cells.size)) = some (2, 16, 2) := by kernel_rfl
  cases hi : Try.prog.info? 75 with
  | none => rw [hi] at h; cases h
  | some i =>
    rw [hi] at h
    simp only [Option.bind_some, Option.map_eq_some_iff, Prod.mk.injEq] at h
    obtain ⟨z, hz, h1, h2, h3⟩ := h
    exact ⟨i, z, rfl, hz, h1, h2, h3⟩
theorem ecs_ones (es : List (Int × Int)) : ∀ v ∈ ecs es, v.oneCell' = true := by
  intro v hv
  obtain ⟨e, _, he⟩ := List.mem_flatMap.1 hv
  unfold ec at he
  simp at he
  rcases he with rfl | rfl <;> rfl
theorem ecs_at : ∀ (es : List (Int × Int)) (j : Nat) (u : Value), (ecs es)[j]? = some u → ∃ e, es[j / 2]? = some e ∧ (ec e)[j % 2]? = some u
  | [], j, u, h => by simp [ecs] at h
  | f :: es, j, u, h => by
    have h' : (ec f ++ ecs es)[j]? = some u := h
    by_cases hj : j < 2
    · rw [List.getElem?_append_left (by show j < 2; exact hj)] at h'
      exact ⟨f, by rw [show j / 2 = 0 by omega]; rfl, by rw [show j % 2 = j by omega]; exact h'⟩
    · rw [List.getElem?_append_right (by show 2 ≤ j; omega)] at h'
      obtain ⟨e, h1, h2⟩ := ecs_at es (j - 2) u h'
      exact ⟨e, by rw [show j / 2 = (j - 2) / 2 + 1 by omega]; exact h1, by rw [show j % 2 = (j - 2) % 2 by omega]; exact h2⟩
theorem src_edges {w : World} {A : Option Addr} {es : List (Int × Int)} (h : RowsOf ec 2 w A es) : Src w A es.length (ecs es) := by
  rcases h with rfl | ⟨b, o, rfl, _, hr⟩
  · cases A with
    | none => exact .inr ⟨rfl, rfl, rfl⟩
    | some ad => exact .inl ⟨_, rfl, fun j u hj => by simp [ecs] at hj⟩
  · refine .inl ⟨_, rfl, fun j u hj => ?_⟩
    obtain ⟨e, h1, h2⟩ := ecs_at es j u hj
    have hi := (List.getElem?_eq_some_iff.1 h1).1
    have := hr (j / 2) hi (j % 2) u (by rw [(List.getElem?_eq_some_iff.1 h1).2]; exact h2)
    rw [show o + j / 2 * 2 + j % 2 = o + j by omega] at this
    have e0 : (Addr.mk b o none).add j = ⟨b, o + j, none⟩ := by simp [Addr.add]
    rw [e0]
    exact this
section
variable (W : World)
theorem eclone_any (A : Option Addr) (n c : Nat) (l : List (Int × Int)) (hn : l.length = n) (hs : Src W A n (ecs l)) (hm : n ≤ 100000) : Calls Try.prog 26 #[.slice A n c] W fun e W' => ∃ v, e = .returned v ∧ W'.ownsRow W.heap.size 75 2 v l.length (ecs l) ∧ Below W.heap.size W W' := by
  subst hn
  cases A with
  | none =>
    have hb : l = [] := by
      rcases hs with ⟨ad, e, _⟩ | ⟨_, h, _⟩
      · cases e
      · exact List.length_eq_zero_iff.1 h
    subst hb
    have hnil : ∀ w, (binOp .eql 23 (.slice none 0 c) (.slice none 0 0)).run Try.prog w = .ok (.bool true) w := fun w => Lib.run_eql_slice_nil (P := Try.prog) w 23 75 none 0 c 0 0 Try.underlying23
    go_enter Try.func26, Try.ntmps26
    go_wp2_with fail
    go_ret
    exact ⟨_, rfl, World.ownsRow_nil _ _ _ _, Below.refl _ _⟩
  | some ad =>
    obtain ⟨i0, z0, hi, hz, hsz, hby, hzs⟩ := info_edge
    have HI := Lib.hid hi
    have HZ := Lib.hid (And.intro hz (And.intro hsz (And.intro hby hzs)))
    have hlit : (W.alloc (.cells #[] 75)).ownsRow W.heap.size 75 2 (.slice (some ⟨W.heap.size, 0, none⟩) 0 0) 0 [] := World.ownsRow_lit (base := W.heap.size) (size := 2) (e := 75) W #[] 0 (Nat.le_refl _) (by unfold maxLen; omega) rfl
    have hb1 := (Below.refl W.heap.size W).alloc (Nat.le_refl _) (.cells #[] 75)
    have hs1 := hs.below hb1
    have HM := Lib.hid hm
    have hnil : ∀ w, (binOp .eql 23 (.slice (some ad) l.length c) (.slice none 0 0)).run Try.prog w = .ok (.bool false) w := fun w => Lib.run_eql_slice_nil (P := Try.prog) w 23 75 (some ad) l.length c 0 0 Try.underlying23
    clear hs hm hi hz hsz hby hzs
    go_enter Try.func26, Try.ntmps26
    go_wp2_with (first | (at_builtin; refine wpList_plain rfl fun _ hK => wp_append_src _ _ _ 23 rfl W.heap.size 75 i0 z0 Try.underlying23 HI.out HZ.out.1 (by rw [HZ.out.2.1]; exact HZ.out.2.2.2) (by rw [HZ.out.2.1]; decide) _ 0 [] rfl (by rw [HZ.out.2.1]; exact hlit) (some ad) l.length c (ecs l) rfl (by rw [HZ.out.2.1]; exact ecs_len l) hs1 (ecs_ones l) (by unfold maxLen; have := HM.out; omega) (by rw [HZ.out.2.2.1]; have := HM.out; omega) (by simp) ?_; intro v' W1 hown hgrow hloc; rw [HZ.out.2.1, Nat.zero_add, List.nil_append] at hown; have HB := Lib.hid (ownG_below hgrow hlit (Nat.le_refl _) (by simp) hb1); have HO := Lib.hid hown; obtain ⟨A', c', rfl, -⟩ := ownG_slice hown; refine hK _ _ ?_; clear hown hgrow hloc hK))
    go_ret
    exact ⟨_, rfl, HO.out, HB.out⟩
end
theorem tv_set12 (t : Tv) (A : Option Addr) (c : Nat) : t.cells.toArray.setIfInBounds 12 (.slice A t.es.length c) = (Tv.mk t.k t.es A c).cells.toArray := by
  unfold Tv.cells
  rw [List.setIfInBounds_toArray]
  congr 1
  rw [List.set_append_right _ _ (by rw [kl_len]; exact Nat.le_refl _), kl_len]
  rfl
def z24 : List Value := List.replicate 24 (.int .u64 0)
def z13 : List Value := List.replicate 12 (.int .i64 0) ++ [.slice none 0 0]
theorem rl_fill (parts : List (Nat × Value)) : Try.prog.built 68 parts = Instr.fill (#[(0, 1), (1, 13), (14, 24)][·]?) (.int .i64 0 :: (z13 ++ z24)).toArray parts := by kernel_rfl
theorem fill_s1 {place : Nat → Option (Nat × Nat)} {i off : Nat} {v m : Value} {pre post : List Value} {rest : List (Nat × Value)} (h : place i = some (off, 1)) (hv : v.cells = #[v]) (hp : pre.length = off) :
    Instr.fill place (pre ++ (m :: post)).toArray ((i, v) :: rest) = Instr.fill place (pre ++ (v :: post)).toArray rest := by
  have h1 := fill_one (place := place) (i := i) (off := off) (cs := [v]) (pre := pre) (mid := [m]) (post := post) (rest := rest) h hp rfl
  have h2 : Instr.fill place (pre ++ (m :: post)).toArray ((i, v) :: rest) = Instr.fill place (pre ++ (m :: post)).toArray ((i, .agg [v].toArray) :: rest) := by
    have hv2 : (Value.agg [v].toArray).cells = v.cells := by rw [hv]; rfl
    rw [Instr.fill, Instr.fill, h]
    dsimp only
    rw [hv2]
  exact h2.trans h1
theorem r_list (x : R) : x.cells = [.int .i64 x.nd] ++ (x.t.cells ++ crs x.c) := by unfold R.cells; rw [List.append_assoc]
theorem built_rl (nd : Int) (t : Tv) : Try.prog.built 68 [(0, .int .i64 nd), (1, .agg t.cells.toArray)] = some (R.mk nd t fun _ => 0).cells.toArray := by
  rw [rl_fill, r_list]
  show _ = some ([Value.int .i64 nd] ++ (t.cells ++ crs (fun _ => 0))).toArray
  rw [crs_zero]
  obtain ⟨place, hpl⟩ : ∃ place : Nat → Option (Nat × Nat), place = (#[(0, 1), (1, 13), (14, 24)][·]?) := ⟨_, rfl⟩
  have p0 : place 0 = some (0, 1) := by rw [hpl]; rfl
  have p1 : place 1 = some (1, t.cells.length) := by rw [hpl, tv_len]; rfl
  rw [← hpl]
  refine (fill_s1 (pre := []) (post := z13 ++ z24) p0 rfl rfl).trans ?_
  refine (fill_one (pre := [_]) (mid := z13) (post := z24) p1 rfl (by rw [tv_len]; rfl)).trans ?_
  rw [Instr.fill]
  rfl
/-- What New answers. -/
def NewP (W : World) (t : Tv) (node : Int) (e : Ending) (W' : World) : Prop := ∃ b, RightP t b ∧ Below W.heap.size W W' ∧
  ((b = false ∧ e = .returned (.tuple #[.pointer none, .int .i64 3])) ∨ (b = true ∧ kindV t.k node ≠ 3 ∧ e = .returned (.tuple #[.pointer none, .int .i64 11])) ∨
  (b = true ∧ kindV t.k node = 3 ∧ ∃ A c d, e = .returned (.tuple #[.pointer (some ⟨d, 0, none⟩), .int .i64 0]) ∧ RP W' W.heap.size d ⟨node, ⟨t.k, t.es, A, c⟩, fun _ => 0⟩))
set_option maxRecDepth 20000 in
set_option maxHeartbeats 4000000 in
theorem new_any (W : World) (t : Tv) (hr : RowsOf ec 2 W t.A t.es) (hlen : t.es.length ≤ 100000) (node : Int) : Calls Try.prog 8 #[.agg t.cells.toArray, .int .i64 node] W (NewP W t node) := by
  have HR := Lib.hid hr
  have HLE := Lib.hid hlen
  have bb := (Below.refl W.heap.size W).alloc (Nat.le_refl _) (.cells t.cells.toArray 25)
  have hx : Blk (W.alloc (.cells t.cells.toArray 25)) W.heap.size 25 t.cells.toArray := Blk.new W _ _
  obtain ⟨w2, hw2⟩ : ∃ w2, w2 = W.alloc (.cells t.cells.toArray 25) := ⟨_, rfl⟩
  rw [← hw2] at bb hx
  have HB2 := Lib.hid bb
  have HX2 := Lib.hid hx
  have hr0 : w2.rangeAt W.heap.size 0 t.cells := hx.range
  have HRI := Lib.hid (right_any w2 t (hr.next bb) (by omega))
  clear bb hx hr hlen
  go_enter Try.func8, Try.ntmps8
  go_upto_region 1 with fail
  rw [← hw2]
  clear hw2
  obtain ⟨gx, hgx⟩ : ∃ gx, gx = W.heap.size := ⟨_, rfl⟩
  have HGX := Lib.hid hgx
  rw [← hgx] at HX2 hr0
  (try rw [← hgx])
  clear hgx
  go_wp2_with (refine load_midg rfl 25 _ rfl _ _ rfl t.cells _ hr0 Try.underlying25 rfl (tvinfo t) ?_; (try simp only [Act.put, List.setIfInBounds_toArray, List.set_cons_zero, List.set_cons_succ]))
  refine HRI.out.mono ?_
  rintro e w3 ⟨b, rfl, hP, hb⟩
  have HP := Lib.hid hP
  have HB3 := Lib.hid (HB2.out.trans (hb.mono HB2.out.size))
  have HX3 := Lib.hid (HX2.out.next hb)
  clear hP hb HRI hr0 HX2 HB2
  have hr0 := HX3.out.range
  cases b with
  | false =>
    clear hr0
    go_wp2_with fail
    go_ret2
    exact ⟨false, HP.out, HB3.out, .inl ⟨rfl, rfl⟩⟩
  | true =>
  have HK := Lib.hid (kind_any w3 t node)
  obtain ⟨kd, hkd⟩ : ∃ kd, kd = kindV t.k node := ⟨_, rfl⟩
  rw [← hkd] at HK
  have HKD := Lib.hid hkd
  clear hkd
  by_cases hk3 : kd = 3
  · have t1 : (kd != (3 : Int)) = false := by rw [hk3]; rfl
    have HK3 := Lib.hid hk3
    clear hk3
    go_upto_region 5 with (first | (refine load_midg rfl 25 _ rfl _ _ rfl t.cells _ hr0 Try.underlying25 rfl (tvinfo t) ?_; (try simp only [Act.put, List.setIfInBounds_toArray, List.set_cons_zero, List.set_cons_succ])) | (go_at_call 25; refine HK.out.mono ?_; rintro e w4 ⟨rfl, hb⟩; have HB4 := Lib.hid (HB3.out.trans (hb.mono HB3.out.size)); have HX4 := Lib.hid (HX3.out.next hb); clear hb hr0 HK HX3 HB3))
    clear t1
    have c12 : w4.cell? ⟨gx, 12, none⟩ = some (.slice t.A t.es.length t.c) := by rw [HX4.out.cell, List.getElem?_toArray, tv_12]
    have z12 := HX4.out.frozen 12
    have HC := Lib.hid (eclone_any w4 t.A t.es.length t.c t.es rfl (src_edges (HR.out.next HB4.out)) HLE.out)
    go_upto_region 6 with (go_at_call 26; refine HC.out.mono ?_; rintro e w5 ⟨v, rfl, hO, hb⟩; obtain ⟨A', c', rfl, -⟩ := ownG_slice hO; have HO := Lib.hid hO; have HB5 := Lib.hid (HB4.out.trans (hb.mono HB4.out.size)); have HX5 := Lib.hid (HX4.out.next hb); have HS4 := Lib.hid HX4.out.lt; clear c12 z12; have c12 : w5.cell? ⟨gx, 12, none⟩ = some (.slice t.A t.es.length t.c) := (by rw [HX5.out.cell, List.getElem?_toArray, tv_12]); have z12 := HX5.out.frozen 12; clear hb hO HC HX4 HB4)
    clear c12 z12
    have hx6 : Blk (w5.setCell ⟨gx, 12, none⟩ (.slice A' t.es.length c')) gx 25 (Tv.mk t.k t.es A' c').cells.toArray := by have h1 := HX5.out.setCell 12 (.slice A' t.es.length c'); rw [tv_set12] at h1; exact h1
    have hB6 := HB5.out.setCell (p := ⟨gx, 12, none⟩) (by show W.heap.size ≤ gx; rw [HGX.out]; exact Nat.le_refl _) (.slice A' t.es.length c')
    have hR5 : RowsOf ec 2 w5 A' t.es := Eds.rows (OffR.of HO.out)
    have hne : ∀ a, A' = some a → w4.heap.size ≤ a.block ∧ a.block < w5.heap.size := fun a ha => OffR.lt (OffR.of HO.out) a.block (by rw [ha]; rfl)
    have hR6 : RowsOf ec 2 (w5.setCell ⟨gx, 12, none⟩ (.slice A' t.es.length c')) A' t.es := by
      rcases hR5 with e | ⟨b, o, e, hb, hr⟩
      · exact .inl e
      · have h1 := (hne _ e).1
        refine .inr ⟨b, o, e, by simpa [World.setCell] using hb, fun i hi j u hj => ?_⟩
        have := hr i hi j u hj
        rw [World.cell?_setCell_far _ _ _ _ (fun e => by have := HS4.out; simp at e h1; omega)]
        exact this
    have hsz : (w5.setCell ⟨gx, 12, none⟩ (.slice A' t.es.length c')).heap.size = w5.heap.size := by simp [World.setCell]
    obtain ⟨w6, hw6⟩ : ∃ w6, w6 = w5.setCell ⟨gx, 12, none⟩ (.slice A' t.es.length c') := ⟨_, rfl⟩
    rw [← hw6] at hx6 hB6 hR6 hsz ⊢
    have HX6 := Lib.hid hx6
    have HB6 := Lib.hid hB6
    have HR6 := Lib.hid hR6
    have HNE := Lib.hid (show ∀ a, A' = some a → a.block ≠ w6.heap.size from fun a ha => by have := (hne a ha).2; omega)
    have hr0 := hx6.range
    have HBL := Lib.hid (built_rl node ⟨t.k, t.es, A', c'⟩)
    clear hx6 hB6 hR5 hne hR6 hsz hw6 HX5 HB5 HO
    go_wp2_with (first | (refine load_midg rfl 25 _ rfl _ _ rfl (Tv.mk t.k t.es A' c').cells _ hr0 Try.underlying25 rfl (tvinfo _) ?_; (try simp only [Act.put, List.setIfInBounds_toArray, List.set_cons_zero, List.set_cons_succ])) | (refine Nd.wpList_build_lit (R.mk node ⟨t.k, t.es, A', c'⟩ fun _ => 0).cells.toArray rfl 68 _ rfl HBL.out ?_))
    go_ret2
    have b7 := (Below.refl w6.heap.size w6).alloc (Nat.le_refl _) (.cells (R.mk node ⟨t.k, t.es, A', c'⟩ fun _ => 0).cells.toArray 68)
    exact ⟨true, HP.out, HB6.out.trans (b7.mono HB6.out.size), .inr (.inr ⟨rfl, by rw [← HKD.out]; exact HK3.out, A', c', w6.heap.size, rfl, Blk.new _ _ _, HB6.out.size, HR6.out.next b7, HNE.out⟩)⟩
  · have t1 : (kd != (3 : Int)) = true := by simp [hk3]
    have HK3 := Lib.hid hk3
    clear hk3
    go_wp2_with (first | (refine load_midg rfl 25 _ rfl _ _ rfl t.cells _ hr0 Try.underlying25 rfl (tvinfo t) ?_; (try simp only [Act.put, List.setIfInBounds_toArray, List.set_cons_zero, List.set_cons_succ])) | (go_at_call 25; refine HK.out.mono ?_; rintro e w4 ⟨rfl, hb⟩; have HB4 := Lib.hid (HB3.out.trans (hb.mono HB3.out.size)); clear hb hr0 HK HX3 HB3))
    go_ret2
    exact ⟨true, HP.out, HB4.out, .inr (.inl ⟨rfl, by rw [← HKD.out]; exact HK3.out, rfl⟩)⟩
end Rl
end Go.Proofs.Ytohnhokddbeheaa
