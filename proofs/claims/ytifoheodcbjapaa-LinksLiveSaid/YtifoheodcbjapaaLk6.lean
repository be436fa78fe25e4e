/-
link: Queue.
-/
import Derived.Test.YtifoheodcbjapaaLk5
namespace Go.Proofs.Ytifoheodcbjapaa
open Go.RowKit
set_option linter.unusedSimpArgs false
set_option linter.unusedVariables false
namespace Lk
section
variable (W : World)
theorem iclone_any (A : Option Addr) (n c : Nat) (l : List It) (hn : l.length = n) (hs : Src W A n (its l)) (hm : n ≤ 100000) : Calls Try.prog 68 #[.slice A n c] W fun e W' => ∃ v, e = .returned v ∧ W'.ownsRow W.heap.size 70 2 v l.length (its l) ∧ Below W.heap.size W W' := by
  subst hn
  cases A with
  | none =>
    have hb : l = [] := by
      rcases hs with ⟨ad, e, _⟩ | ⟨_, h, _⟩
      · cases e
      · exact List.length_eq_zero_iff.1 h
    subst hb
    have hnil : ∀ w, (binOp .eql 45 (.slice none 0 c) (.slice none 0 0)).run Try.prog w = .ok (.bool true) w := fun w => Lib.run_eql_slice_nil (P := Try.prog) w 45 70 none 0 c 0 0 Try.underlying45
    go_enter Try.func68, Try.ntmps68
    go_wp2_with fail
    go_ret
    exact ⟨_, rfl, World.ownsRow_nil _ _ _ _, Below.refl _ _⟩
  | some ad =>
    obtain ⟨i0, z0, hi, hz, hsz, hby, hzs⟩ := info_it
    have HI := Lib.hid hi
    have HZ := Lib.hid (And.intro hz (And.intro hsz (And.intro hby hzs)))
    have hlit : (W.alloc (.cells #[] 70)).ownsRow W.heap.size 70 2 (.slice (some ⟨W.heap.size, 0, none⟩) 0 0) 0 [] := World.ownsRow_lit (base := W.heap.size) (size := 2) (e := 70) W #[] 0 (Nat.le_refl _) (by unfold maxLen; omega) rfl
    have hb1 := (Below.refl W.heap.size W).alloc (Nat.le_refl _) (.cells #[] 70)
    have hs1 := hs.below hb1
    have HM := Lib.hid hm
    have hnil : ∀ w, (binOp .eql 45 (.slice (some ad) l.length c) (.slice none 0 0)).run Try.prog w = .ok (.bool false) w := fun w => Lib.run_eql_slice_nil (P := Try.prog) w 45 70 (some ad) l.length c 0 0 Try.underlying45
    clear hs hm hi hz hsz hby hzs
    go_enter Try.func68, Try.ntmps68
    go_wp2_with (first | (at_builtin; refine wpList_plain rfl fun _ hK => wp_append_src _ _ _ 45 rfl W.heap.size 70 i0 z0 Try.underlying45 HI.out HZ.out.1 (by rw [HZ.out.2.1]; exact HZ.out.2.2.2) (by rw [HZ.out.2.1]; decide) _ 0 [] rfl (by rw [HZ.out.2.1]; exact hlit) (some ad) l.length c (its l) rfl (by rw [HZ.out.2.1]; exact its_len l) hs1 (its_ones l) (by unfold maxLen; have := HM.out; omega) (by rw [HZ.out.2.2.1]; have := HM.out; omega) (by simp) ?_; intro v' W1 hown hgrow hloc; rw [HZ.out.2.1, Nat.zero_add, List.nil_append] at hown; have HB := Lib.hid (ownG_below hgrow hlit (Nat.le_refl _) (by simp) hb1); have HO := Lib.hid hown; obtain ⟨A', c', rfl, -⟩ := ownG_slice hown; refine hK _ _ ?_; clear hown hgrow hloc hK))
    go_ret
    exact ⟨_, rfl, HO.out, HB.out⟩
theorem queue_nil : Calls Try.prog 47 #[.pointer none] W fun e W' => e = .returned (.slice none 0 0) ∧ W = W' := by
  go_enter Try.func47, Try.ntmps47
  go_wp2_with fail
  go_ret
  exact ⟨rfl, rfl⟩
end
/-- A row of texts with cells cs, in a block. -/
def RowC (cs : Array Value) (l : List It) : Prop := 2 * l.length ≤ cs.size ∧ ∀ (i : Nat) (x : It), l[i]? = some x → ∀ j u, x.cells[j]? = some u → cs[2 * i + j]? = some u
theorem own_blk {W : World} {B : Nat} {v : Value} {l : List It} (h : W.ownsRow B 70 2 v l.length (its l)) : (v = .slice none 0 0 ∧ l = []) ∨ ∃ g c cs, v = .slice (some ⟨g, 0, none⟩) l.length c ∧ l.length ≤ c ∧ B ≤ g ∧ Blk W g 70 cs ∧ RowC cs l := by
  have h1 := h
  obtain ⟨hl, ⟨rfl, hz⟩ | ⟨g, cap, cur, rfl, hg, hh, hnc, hmx, hsz, ht⟩⟩ := h
  · exact Or.inl ⟨rfl, List.length_eq_zero_iff.1 hz⟩
  · refine Or.inr ⟨g, cap, cur, rfl, hnc, hg, hh, by rw [hsz]; omega, fun i x hx j u hj => ?_⟩
    have := h1.cells rfl (2 * i + j) u (by rw [its_get l i x j hx (by have := (List.getElem?_eq_some_iff.1 hj).1; rwa [it_len] at this)]; exact hj)
    rw [add_plain, Nat.zero_add, show W.cell? ⟨g, 2 * i + j, none⟩ = cur[2 * i + j]? from Blk.cell (show Blk W g 70 cur from hh) _] at this
    exact this
/-- A text more was copied. -/
theorem rowc_set {cs : Array Value} {M l : List It} {k : Nat} {x : It} {A : Option Addr} {c : Nat} (h : RowC cs (M ++ l.drop k)) (hM : M.length = k) (hx : l[k]? = some x) : RowC (cs.setIfInBounds (k * 2 + 1) (.slice A x.bs.length c)) ((M ++ [⟨x.q, A, c, x.bs⟩]) ++ l.drop (k + 1)) := by
  have hk := (List.getElem?_eq_some_iff.1 hx).1
  have hd : l.drop k = x :: l.drop (k + 1) := by rw [List.drop_eq_getElem_cons hk]; congr 1; exact (List.getElem?_eq_some_iff.1 hx).2
  rw [hd] at h
  obtain ⟨h1, h2⟩ := h
  refine ⟨by simp at h1 ⊢; omega, fun i y hy j u hj => ?_⟩
  have hj2 : j < 2 := by have := (List.getElem?_eq_some_iff.1 hj).1; rwa [it_len] at this
  rw [List.append_assoc] at hy
  by_cases hi : i = k
  · subst hi
    rw [List.getElem?_append_right (by omega), hM, Nat.sub_self] at hy
    simp only [List.cons_append, List.nil_append, List.getElem?_cons_zero, Option.some.injEq] at hy
    subst hy
    have hq := h2 i x (by rw [List.getElem?_append_right (by omega), hM, Nat.sub_self]; rfl)
    have hsz : 2 * i + 1 < cs.size := by have := (Array.getElem?_eq_some_iff.1 (hq 1 _ it_1)).1; exact this
    obtain rfl | rfl : j = 0 ∨ j = 1 := by omega
    · rw [Array.getElem?_setIfInBounds_ne (by omega)]
      exact hq 0 u hj
    · rw [show 2 * i + 1 = i * 2 + 1 by omega, Array.getElem?_setIfInBounds_self_of_lt (by omega)]
      exact hj
  · rw [Array.getElem?_setIfInBounds_ne (by omega)]
    refine h2 i y ?_ j u hj
    by_cases hlt : i < M.length
    · rw [List.getElem?_append_left hlt] at hy ⊢; exact hy
    · rw [List.getElem?_append_right (by omega)] at hy ⊢
      obtain ⟨r, hr⟩ : ∃ r, i - M.length = r + 1 := ⟨i - M.length - 1, by omega⟩
      rw [hr] at hy ⊢
      exact hy
/-- What a queue tells of a text. -/
def tell (x : It) : Nat × List Nat := (x.q, x.bs)
/-- Behind k copies. -/
structure QAt (W : World) (g : Nat) (l : List It) (k : Nat) (wr : World) (cs : Array Value) (M : List It) : Prop where
  b : Below W.heap.size W wr
  gl : W.heap.size ≤ g
  blk : Blk wr g 70 cs
  row : RowC cs (M ++ l.drop k)
  len : M.length = k
  same : M.map tell = (l.take k).map tell
  at_ : ∀ x ∈ M, x.At wr (fun b => W.heap.size ≤ b ∧ b < wr.heap.size)
theorem at_next {W w w' : World} {x : It} (h : x.At w (fun b => W.heap.size ≤ b ∧ b < w.heap.size)) (hs : w.heap.size ≤ w'.heap.size) (hk : ∀ k cs z, k < w.heap.size → w.heap[k]? = some (.cells cs 5 z) → w'.heap[k]? = w.heap[k]?) : x.At w' (fun b => W.heap.size ≤ b ∧ b < w'.heap.size) := by
  obtain ⟨h1, h2, h3, h4, b, p, cs, z, e, hF, hh, hc⟩ := h
  have hk := hk b cs z hF.2 hh
  exact ⟨h1, h2, h3, h4, b, p, cs, z, e, ⟨hF.1, by omega⟩, hk.trans hh, fun i y hy => (World.cell?_of_block hk).trans (hc i y hy)⟩
theorem QAt.next {W wr w' : World} {g k : Nat} {l : List It} {cs : Array Value} {M : List It} (h : QAt W g l k wr cs M) (hb : Below wr.heap.size wr w') : QAt W g l k w' cs M :=
  ⟨h.b.trans (hb.mono h.b.size), h.gl, h.blk.next hb, h.row, h.len, h.same, fun x hx => at_next (h.at_ x hx) hb.size fun j _ _ hj _ => hb.block j hj⟩
theorem QAt.put {W w : World} {g k : Nat} {l : List It} {cs : Array Value} {M : List It} {x : It} {A : Option Addr} {c : Nat} (h : QAt W g l k w cs M) (hx : l[k]? = some x) (ha : (It.mk x.q A c x.bs).At w (fun b => W.heap.size ≤ b ∧ b < w.heap.size)) :
    QAt W g l (k + 1) (w.setCell ⟨g, k * 2 + 1, none⟩ (.slice A x.bs.length c)) (cs.setIfInBounds (k * 2 + 1) (.slice A x.bs.length c)) (M ++ [⟨x.q, A, c, x.bs⟩]) := by
  have hsz : (w.setCell ⟨g, k * 2 + 1, none⟩ (.slice A x.bs.length c)).heap.size = w.heap.size := by simp [World.setCell]
  have hk : ∀ j cs z, j < w.heap.size → w.heap[j]? = some (.cells cs 5 z) → (w.setCell ⟨g, k * 2 + 1, none⟩ (.slice A x.bs.length c)).heap[j]? = w.heap[j]? := fun j cs z hj hh => Below.heap_setCell w ⟨g, k * 2 + 1, none⟩ _ j (by
    rintro rfl
    have := h.blk
    unfold Blk at this
    rw [hh] at this
    simp only [Option.some.injEq, Obj.cells.injEq] at this
    exact absurd this.2.1 (by decide))
  refine ⟨h.b.setCell (p := ⟨g, k * 2 + 1, none⟩) h.gl _, h.gl, h.blk.setCell _ _, rowc_set h.row h.len hx, by simp [h.len], ?_, fun y hy => ?_⟩
  · rw [List.map_append, h.same, List.take_add_one, hx, List.map_append]; rfl
  · rcases List.mem_append.1 hy with hy | hy
    · exact at_next (h.at_ y hy) (Nat.le_of_eq hsz.symm) hk
    · simp only [List.mem_singleton] at hy
      subst hy
      exact at_next ha (Nat.le_of_eq hsz.symm) hk
theorem QAt.item {W wr : World} {g k : Nat} {l : List It} {cs : Array Value} {M : List It} {x : It} (h : QAt W g l k wr cs M) (hx : l[k]? = some x) : wr.rangeAt g (k * 2) x.cells ∧ (∃ u, wr.cell? ⟨g, k * 2 + 1, none⟩ = some u) ∧ wr.frozen? ⟨g, k * 2 + 1, none⟩ = false := by
  have hk := (List.getElem?_eq_some_iff.1 hx).1
  have hd : l.drop k = x :: l.drop (k + 1) := by rw [List.drop_eq_getElem_cons hk]; congr 1; exact (List.getElem?_eq_some_iff.1 hx).2
  have hr := h.row.2 k x (by rw [List.getElem?_append_right (by rw [h.len]; exact Nat.le_refl _), h.len, Nat.sub_self, hd]; rfl)
  refine ⟨fun j u hj => by rw [h.blk.cell, show k * 2 + j = 2 * k + j by omega]; exact hr j u hj, ⟨_, by rw [h.blk.cell, show k * 2 + 1 = 2 * k + 1 by omega]; exact hr 1 _ it_1⟩, h.blk.frozen _⟩
theorem It.At.src {x : It} {w : World} {F : Nat → Prop} (h : x.At w F) : Src w x.A x.bs.length (u8s x.bs) := by
  obtain ⟨_, _, _, _, b, p, cs, z, e, _, _, hc⟩ := h
  refine Or.inl ⟨_, e, fun j u hj => ?_⟩
  obtain ⟨y, h1, rfl⟩ := u8s_get hj
  rw [add_plain]
  exact hc j y h1
/-- What Queue gives. -/
def QueueP (s : LS) (W : World) (e : Ending) (W' : World) : Prop :=
  Below W.heap.size W W' ∧ ∃ A c M, e = .returned (.slice A M.length c) ∧ M.length ≤ c ∧ RowI W' (fun k => W.heap.size ≤ k ∧ k < W'.heap.size) A M ∧ (∀ x ∈ M, x.At W' (fun k => W.heap.size ≤ k ∧ k < W'.heap.size)) ∧ M.map It.bs = s.ts ∧ M.length ≤ 250 ∧ M.length < s.nx ∧ s.nx ≤ 1099511627777 ∧ ∀ (i : Nat) (x : It), M[i]? = some x → x.q + M.length = s.nx + i
section
variable (W : World) {B d : Nat} {F : Nat → Prop} {s : LS}
set_option maxHeartbeats 4000000 in
set_option maxRecDepth 20000 in
theorem queue_o {o c : Nat} {t : TypeId} {cs : Array Value} {A : Option Addr} {l : List It} (D : LnkO W B d o t cs F A c l s) : Calls Try.prog 47 #[.pointer (some ⟨d, o, none⟩)] W fun e W' => QueueP s W e W' := by
  have c1 := D.c1
  have HC := Lib.hid (iclone_any W A l.length c l rfl D.row.src (by have := D.len; omega))
  have HD := Lib.hid D
  obtain ⟨N, hN⟩ : ∃ N, N = l.length := ⟨_, rfl⟩
  rw [← hN] at c1 HC
  have HN := Lib.hid hN
  clear D hN
  go_enter Try.func47, Try.ntmps47
  go_upto_region 4 with (go_at_call 68; refine HC.out.mono ?_; rintro e w1 ⟨v, rfl, hown, hb⟩)
  clear c1 HC
  rw [HN.out] at hown
  rcases own_blk hown with ⟨rfl, hl⟩ | ⟨g, cc, cs, rfl, hcc, hg, hbk, hrow⟩
  · have HL := Lib.hid hl
    have HB := Lib.hid hb
    clear hown hl hb
    go_wp2_with fail
    have hN0 : N = 0 := by rw [HN.out, HL.out]; rfl
    subst hN0
    (try rw [HL.out, List.length_nil])
    go_loopw [15] (fun i wr => i = .int .i64 0 ∧ wr = w1) (fun i _ => 0)
    case atStart => exact ⟨rfl, rfl⟩
    case round =>
      obtain ⟨rfl, rfl⟩ := hrel
      go_wp2_with fail
      go_ret
      have htl := HD.out.tl
      rw [HL.out] at htl
      exact ⟨HB.out, none, 0, [], rfl, Nat.le_refl _, Or.inl ⟨rfl, rfl⟩, fun x hx => (by cases hx), by rw [List.length_eq_zero_iff.1 htl]; rfl, by decide, HD.out.n1, HD.out.big, fun i x hx => (by simp at hx)⟩
  · have hQ : QAt W g l 0 w1 cs [] := ⟨hb, hg, hbk, hrow, rfl, rfl, fun x hx => (by cases hx)⟩
    have HCC := Lib.hid hcc
    rw [← HN.out]
    have hN2 : N ≤ 250 := by rw [HN.out]; exact HD.out.len
    clear hown hb hg hbk hrow hcc
    go_wp2_with fail
    go_loopw [15] (fun i wr => ∃ (k : Nat) (cs : Array Value) (M : List It), k ≤ N ∧ i = .int .i64 k ∧ QAt W g l k wr cs M) (fun i _ => N - (intOf i).toNat)
    case atStart => exact ⟨0, cs, [], Nat.zero_le _, rfl, hQ⟩
    case round =>
      clear hQ
      obtain ⟨k, cs2, M, hk, rfl, hQ⟩ := hrel
      by_cases hlt : k < N
      · have hlt' : (k : Int) < (N : Nat) := by omega
        have h0' : (0 : Int) ≤ (k : Nat) := by omega
        obtain ⟨x, hx⟩ : ∃ x, l[k]? = some x := ⟨_, List.getElem?_eq_getElem (by rw [← HN.out]; exact hlt)⟩
        obtain ⟨hr, -, -⟩ := hQ.item hx
        have hat := (HD.out.at_ x (List.mem_of_getElem? hx))
        have HX := Lib.hid hx
        have HQ := Lib.hid hQ
        have HAT := Lib.hid hat
        clear hx hQ hat hlt
        go_upto_region 7 with (first | (refine wpList_load_mid rfl 70 _ rfl _ _ rfl x.cells _ hr Try.underlying70 rfl (itinfo x) ?_) | (refine wpList_store_blk rfl 70 _ _ rfl wr.heap.size 70 #[.int .u64 0, .slice none 0 0] x.cells.toArray rfl rfl (Blk.new' rfl) (itinfoA x) (it_siz x) (it_one x) ?_; intro _; rw [Wr.alloc_setRow]))
        obtain ⟨w2, hw2⟩ : ∃ w2, w2 = wr.alloc (.cells x.cells.toArray 70) := ⟨_, rfl⟩
        have b2 : Blk w2 wr.heap.size 70 x.cells.toArray := by rw [hw2]; exact Blk.new _ _ _
        have hb2 : Below wr.heap.size wr w2 := by rw [hw2]; exact (Below.refl _ _).alloc (Nat.le_refl _) _
        rw [← hw2]
        have c21 : w2.cell? ⟨wr.heap.size, 1, none⟩ = some (.slice x.A x.bs.length x.c) := b2.cell 1
        have hQ2 := HQ.out.next hb2
        have HQ2 := Lib.hid hQ2
        have HCL := Lib.hid (bclone_any w2 x.A x.bs.length x.c x.bs rfl ((HD.out.next hQ2.b).at_ x (List.mem_of_getElem? HX.out)).src (by have := HAT.out.2.2.1; omega))
        clear hw2 b2 hb2 hr hQ2
        go_wp2_with (go_at_call 42; refine HCL.out.mono ?_; rintro e w3 ⟨v3, rfl, hown, hb3⟩; have HQ3 := Lib.hid (HQ2.out.next hb3); obtain ⟨A3, c3, rfl⟩ := slice_of hown; have HO3 := Lib.hid hown; have HB3 := Lib.hid hb3; obtain ⟨-, ⟨u3, cu3⟩, z3⟩ := HQ3.out.item HX.out; clear hown hb3 HCL c21)
        go_roundw
        case rel =>
          refine ⟨k + 1, _, _, by omega, by go_num, HQ3.out.put HX.out (new_at HAT.out.1 HAT.out.2.1 HAT.out.2.2.1 (own_le HO3.out HQ2.out.b.size) (fun _ _ _ => rfl) (Nat.le_refl _))⟩
        case measure => simp [intOf]; omega
      · obtain rfl : k = N := by omega
        have hlt' : ¬ (k : Int) < (k : Nat) := by omega
        have HQ := Lib.hid hQ
        clear hQ hk hlt
        go_wp2_with fail
        go_ret
        have hQ := HQ.out
        have hrow := hQ.row
        rw [List.drop_eq_nil_of_le (by rw [← HN.out]; exact Nat.le_refl _), List.append_nil] at hrow
        have hsame := hQ.same
        rw [List.take_of_length_le (by rw [← HN.out]; exact Nat.le_refl _)] at hsame
        have hML : M.length = l.length := by rw [hQ.len, HN.out]
        have hbs : M.map It.bs = l.map It.bs := by
          have := congrArg (List.map Prod.snd) hsame
          rw [List.map_map, List.map_map] at this
          exact this
        refine ⟨hQ.b, some ⟨g, 0, none⟩, cc, M, by rw [hQ.len]; rfl, by rw [hML]; exact HCC.out, Or.inr ⟨g, 0, cs2, (0, 0), rfl, ⟨hQ.gl, hQ.blk.lt⟩, hQ.blk, fun i x hx j u hj => ?_⟩, hQ.at_, hbs.trans HD.out.ts, by rw [hML]; exact HD.out.len, by rw [hML]; exact HD.out.lt, HD.out.big, fun i x hx => ?_⟩
        · rw [hQ.blk.cell, Nat.zero_add]; exact hrow.2 i x hx j u hj
        · have hi := (List.getElem?_eq_some_iff.1 hx).1
          obtain ⟨y, hy⟩ : ∃ y, l[i]? = some y := ⟨_, List.getElem?_eq_getElem (by omega)⟩
          have h1 : (M.map tell)[i]? = (l.map tell)[i]? := by rw [hsame]
          rw [List.getElem?_map, List.getElem?_map, hx, hy] at h1
          simp [tell] at h1
          rw [h1.1, hML]
          exact HD.out.seq i y hy
end
end Lk
end Go.Proofs.Ytifoheodcbjapaa
