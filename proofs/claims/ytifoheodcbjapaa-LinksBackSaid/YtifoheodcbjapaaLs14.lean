/-
links: LinksBack.
-/
import Derived.Test.YtifoheodcbjapaaLs13
namespace Go.Proofs.Ytifoheodcbjapaa
open Go.RowKit
set_option linter.unusedSimpArgs false
set_option linter.unusedVariables false
namespace Ls
open Lk
theorem Kept.lt {P : Nat → Prop} {a b : World} (h : Kept P a b) {k : Nat} (hk : P k) (hl : k < a.heap.size) : k < b.heap.size := by
  have h1 := h k hk
  rw [Array.getElem?_eq_getElem hl] at h1
  exact (Array.getElem?_eq_some_iff.1 h1).1
theorem byr_take {W : World} {A : Option Addr} {bs : List Nat} (h : Byt.ByR W A bs) (k : Nat) : Byt.ByR W A (bs.take k) := by
  rcases h with rfl | ⟨b, p, e, h1, h2⟩
  · exact Or.inl (by simp)
  · refine Or.inr ⟨b, p, e, h1, fun i x hx => h2 i x ?_⟩
    have hi := (List.getElem?_eq_some_iff.1 hx).1
    rw [List.getElem?_take] at hx
    split at hx
    · exact hx
    · cases hx
theorem byr_kept {w w' : World} {g : Nat} {bs : List Nat} (h : Byt.ByR w (some ⟨g, 0, none⟩) bs) (hk : Kept (fun k => k = g) w w') : Byt.ByR w' (some ⟨g, 0, none⟩) bs := by
  rcases h with rfl | ⟨b, p, e, h1, h2⟩
  · exact Or.inl rfl
  · simp only [Option.some.injEq, Addr.mk.injEq, and_true] at e
    obtain ⟨rfl, rfl⟩ := e
    exact Or.inr ⟨g, 0, rfl, Kept.lt hk rfl h1, fun i x hx => (World.cell?_of_block (hk g rfl)).trans (h2 i x hx)⟩
/-- The bytes of a string that a law takes: where they lie. -/
theorem str_row (w : World) (bs : List Nat) (h256 : ∀ x ∈ bs, x < 256) : ∃ g c w', (convert 9 38 (.string (Byt.bstr bs))).run Try.prog w = .ok (.slice (some ⟨g, 0, none⟩) bs.length c) w' ∧ bs.length ≤ c ∧ w.heap.size ≤ g ∧ g < w'.heap.size ∧ Below w.heap.size w w' ∧ Byt.ByR w' (some ⟨g, 0, none⟩) bs :=
  ⟨w.heap.size, Sx.capS bs w, _, Sx.str_bytes w bs bs.length rfl, by unfold Sx.capS; rw [Byt.bstr_size]; exact grownCap_ge _ _ _ _, Nat.le_refl _, by simp, (Below.refl _ _).drew.alloc (Nat.le_refl _) _, Sx.objS_byr w bs h256⟩
theorem append_u8g {ops : Array Oper} {rest : List Oper} {o : Oper} {a : Act} {Q : Exit → Act → World → Prop} (w : World) (hw : Region.wanted o (yielded ops a.tmps) = true) (s x : Operand)
    (ho : o.op = .call { callee := .builtin .append, args := #[s, x], argTypes := #[38, 38] }) (base : Nat)
    (v : Value) (n : Nat) (xs : List Value) (hs : a.eval s = v) (hown : w.ownsRow base 5 1 v n xs)
    (A : Option Addr) (m c : Nat) (news : List Value) (hx : a.eval x = .slice A m c) (hl : news.length = m) (hsrc : Src w A m news) (h1 : ∀ u ∈ news, u.oneCell' = true)
    (hbytes : n + m ≤ 140737488355328) (hbase : base ≤ w.heap.size)
    (h : ∀ v' w', w'.ownsRow base 5 1 v' (n + m) (xs ++ news) → w.grownBy w' v.ownBlock → (v'.ownBlock = v.ownBlock ∨ v'.ownBlock = some w.heap.size) → wpList Try.prog ops Q rest (a.put o.dst v') w') : wpList Try.prog ops Q (o :: rest) a w :=
  wpList_step fun _ hK => by
    rw [if_pos hw]
    exact wp_append_u8 w s x ho base v n xs hs hown A m c news hx hl hsrc h1 hbytes hbase fun v' w' h2 h3 h4 => hK _ _ (h v' w' h2 h3 h4)
theorem more_load {w : World} {B n0 : Nat} {v : Value} {en : List Nat} {own : Nat} {S : Nat → LS} (hen : en = encLS own S) (hok : NOk own S) (hA : Any S) (hl : (u8s en).length = n0 + 1) (h : w.ownsRow B 5 1 v (n0 + 1 + 1) (u8s [] ++ u8s en ++ u8s [0])) :
    Calls Try.prog 22 #[v] w fun e w' => e = .returned (.pointer none) ∧ Below w.heap.size w w' := by
  rw [u8s_len] at hl
  have hn : n0 + 1 + 1 = (en ++ [0]).length := by rw [List.length_append, hl]; rfl
  have hu : u8s [] ++ u8s en ++ u8s [0] = Byt.u8s (en ++ [0]) := by simp [u8s, Byt.u8s]
  rw [hn, hu] at h
  have h2 := h
  clear h
  obtain ⟨A, c, rfl, hc, hby, hAn⟩ := Byt.own_byr h2
  have h3 := hok.elen
  rw [← hen] at h3
  have hm := links_more hok hA [0] (by decide)
  rw [← hen] at hm
  have hle : (en ++ [0]).length ≤ 140737488355328 := by rw [List.length_append]; have : ([0] : List Nat).length = 1 := rfl; omega
  obtain ⟨m, hm2⟩ : ∃ m, m = (en ++ [0]).length := ⟨_, rfl⟩
  rw [← hm2] at hc ⊢
  refine load_no A m c w (en ++ [0]) hm2.symm hc hle (fun y hy => ?_) hby hm
  rcases List.mem_append.1 hy with hy | hy
  · rw [hen] at hy; exact hok.h256 y hy
  · simp at hy; omega
theorem wr_id (n : Nat) (h : n ≤ 6100000) : wrap64 (n : Int) = (n : Nat) := by unfold wrap64; omega
theorem AN.many {W w : World} {P : Nat → Prop} {d own : Nat} {S : Nat → LS} (h : AN W P w d own S) : Many 1 W P w own (fun _ => d) (fun _ => S) := by
  obtain ⟨F, hK, hB, hP, hA⟩ := h
  exact ⟨fun _ => F, fun i _ => ⟨hK, hA, hP⟩, fun i j hi hj hne => absurd (show i = j by omega) hne, hB⟩
theorem an_play {W w : World} {P : Nat → Prop} {d own : Nat} {S : Nat → LS} (h : AN W P w d own S) (o : Do) (ho : o.Ok w) :
    Calls Try.prog 21 #[.pointer (some ⟨d, 0, none⟩), .agg o.cells.toArray] w fun e w' => e = .returned (.int .i64 (playE own S o)) ∧ AN W P w' d own (playS own S o) ∧ Kept P w w' := by
  obtain ⟨F, hK, hB, hP, hA⟩ := h
  refine (play_any w hK o ho).mono ?_
  rintro e w' ⟨rfl, h1, h2⟩
  exact ⟨rfl, ⟨_, h1, hB.trans h2.1, h2.prot hP, any_play hK.ok hA _⟩, h2.kept hP⟩
/-- Two links objects of one node. -/
def Duo (W : World) (Q : Nat → Prop) (w : World) (own d1 d2 : Nat) (S1 S2 : Nat → LS) : Prop := ∃ d S, Many 2 W Q w own d S ∧ d 0 = d1 ∧ d 1 = d2 ∧ S 0 = S1 ∧ S 1 = S2
section
variable {W w w' : World} {Q : Nat → Prop} {own d1 d2 : Nat} {S1 S2 : Nat → LS}
theorem Duo.b (h : Duo W Q w own d1 d2 S1 S2) : Below W.heap.size W w := by obtain ⟨d, S, h, _⟩ := h; exact h.b
theorem Duo.next (h : Duo W Q w own d1 d2 S1 S2) (hb : Below w.heap.size w w') : Duo W Q w' own d1 d2 S1 S2 := by
  obtain ⟨d, S, h, r⟩ := h
  exact ⟨d, S, h.next hb, r⟩
theorem Duo.do1 (h : Duo W Q w own d1 d2 S1 S2) (o : Do) (ho : o.Ok w) :
    Calls Try.prog 21 #[.pointer (some ⟨d1, 0, none⟩), .agg o.cells.toArray] w fun e w' => e = .returned (.int .i64 (playE own S1 o)) ∧ Duo W Q w' own d1 d2 (playS own S1 o) S2 ∧ Kept Q w w' := by
  obtain ⟨d, S, h, rfl, rfl, rfl, rfl⟩ := h
  refine (h.play (i := 0) (by omega) o ho).mono ?_
  rintro e w' ⟨rfl, h1, h2⟩
  exact ⟨rfl, ⟨_, _, h1, rfl, rfl, rfl, rfl⟩, h2⟩
theorem Duo.do2 (h : Duo W Q w own d1 d2 S1 S2) (o : Do) (ho : o.Ok w) :
    Calls Try.prog 21 #[.pointer (some ⟨d2, 0, none⟩), .agg o.cells.toArray] w fun e w' => e = .returned (.int .i64 (playE own S2 o)) ∧ Duo W Q w' own d1 d2 S1 (playS own S2 o) ∧ Kept Q w w' := by
  obtain ⟨d, S, h, rfl, rfl, rfl, rfl⟩ := h
  refine (h.play (i := 1) (by omega) o ho).mono ?_
  rintro e w' ⟨rfl, h1, h2⟩
  exact ⟨rfl, ⟨_, _, h1, rfl, rfl, rfl, rfl⟩, h2⟩
theorem Duo.save1 (h : Duo W Q w own d1 d2 S1 S2) : Calls Try.prog 20 #[.pointer (some ⟨d1, 0, none⟩)] w fun e w' => e = .returned (.string (Byt.bstr (encLS own S1))) ∧ Below w.heap.size w w' := by
  obtain ⟨d, S, h, rfl, rfl, rfl, rfl⟩ := h
  exact h.save (by omega)
theorem Duo.save2 (h : Duo W Q w own d1 d2 S1 S2) : Calls Try.prog 20 #[.pointer (some ⟨d2, 0, none⟩)] w fun e w' => e = .returned (.string (Byt.bstr (encLS own S2))) ∧ Below w.heap.size w w' := by
  obtain ⟨d, S, h, rfl, rfl, rfl, rfl⟩ := h
  exact h.save (by omega)
end
theorem enc_pos (own : Nat) (S : Nat → LS) : 1 ≤ (encLS own S).length := by
  unfold encLS
  have : 1 ≤ (enc own).length := by unfold enc; simp
  simp only [List.length_append]
  omega
set_option maxHeartbeats 8000000 in
set_option maxRecDepth 20000 in
theorem back_walk (W : World) (A1 A2 : Option Addr) (n1 c1 n2 c2 : Nat) (l1 l2 : List Do) (hl1 : l1.length = n1) (hl2 : l2.length = n2) (hr1 : RowsOf Do.cells 9 W A1 l1) (hr2 : RowsOf Do.cells 9 W A2 l2) (ho1 : ∀ x ∈ l1, x.Ok W) (ho2 : ∀ x ∈ l2, x.Ok W) :
    Calls Try.prog 5 #[.slice A1 n1 c1, .slice A2 n2 c2] W fun e W' => e = .returned (.bool true) ∧ Below W.heap.size W W' := by
  have HN := Lib.hid (an_new W W (Below.refl _ _) 1 (by decide) (by decide) (fun _ => False) (fun _ h => h.elim))
  have HL1 := Lib.hid hl1
  have HL2 := Lib.hid hl2
  have HR1 := Lib.hid hr1
  have HR2 := Lib.hid hr2
  have HO1 := Lib.hid ho1
  have HO2 := Lib.hid ho2
  clear hl1 hl2 hr1 hr2 ho1 ho2
  go_enter Try.func5, Try.ntmps5
  go_upto_region 5 with (first | (go_at_call 6; refine HN.out.mono ?_; rintro e w1 ⟨rfl, h, -⟩; have H1 := Lib.hid h; clear h HN))
  go_loopw [7] (fun i wr => ∃ j : Nat, j ≤ 60 ∧ i = .int .i64 j ∧ ∃ s, AN W (fun _ => False) wr W.heap.size 1 s) (fun i _ => 60 - (intOf i).toNat)
  case atStart => exact ⟨0, by omega, rfl, _, H1.out⟩
  case round =>
    clear H1
    obtain ⟨j, hj, rfl, s, hA⟩ := hrel
    have HA := Lib.hid hA
    clear hA
    by_cases hjl : j < n1 ∧ j < 60
    · obtain ⟨x, hx⟩ : ∃ x, l1[j]? = some x := ⟨_, List.getElem?_eq_getElem (by rw [HL1.out]; exact hjl.1)⟩
      have i1 : (j : Int) < (n1 : Nat) := by omega
      have i2 : (j : Int) < 60 := by omega
      have i3 : ¬ (j : Int) < 0 := by omega
      obtain ⟨b, o, rfl, hbl, hrx⟩ := do_row HR1.out HA.out.b hx
      have hxk := (HO1.out x (List.mem_of_getElem? hx)).next HA.out.b
      have HX := Lib.hid hxk
      have HJL := Lib.hid hjl
      have HGR := Lib.hid (great_any wr x)
      have HRX := Lib.hid (fun w (hb : Below wr.heap.size wr w) (hbl : b < wr.heap.size) => (show w.rangeAt b (o + j * 9) x.cells from fun i v hv => (hb.cell (p := ⟨b, o + j * 9 + i, none⟩) hbl).trans (hrx i v hv)))
      have HBL := Lib.hid (show b < wr.heap.size from Nat.lt_of_lt_of_le hbl HA.out.b.size)
      clear hx hxk hjl hj hbl
      cases hg : greatB x with
      | true =>
        rw [hg] at HGR
        clear hg
        have HAL := Lib.hid alive_any
        go_wp2_with (first | (refine wpList_load_mid rfl 42 _ rfl _ _ rfl x.cells _ hrx Try.underlying42 rfl (doinfo x) ?_) | (go_at_call 8; refine HGR.out.mono ?_; rintro e w2 ⟨rfl, hb⟩; have HB2 := Lib.hid hb; clear hb) | (go_at_call 7; refine (HAL.out _).mono ?_; rintro e w3 ⟨rfl, hb⟩; have HB3 := Lib.hid (HB2.out.trans (hb.mono HB2.out.size)); clear hb))
        go_ret
        exact ⟨rfl, HA.out.b.trans (HB3.out.mono HA.out.b.size)⟩
      | false =>
        rw [hg] at HGR
        clear hg
        go_upto_region 9 with (first | (refine wpList_load_mid rfl 42 _ rfl _ _ rfl x.cells _ hrx Try.underlying42 rfl (doinfo x) ?_) | (go_at_call 8; refine HGR.out.mono ?_; rintro e w2 ⟨rfl, hb⟩; have HD := Lib.hid (an_play (HA.out.next hb) x (HX.out.next hb)); have hrx2 := HRX.out w2 hb HBL.out; clear hb hrx HRX HGR))
        go_wp2_with (first | (refine wpList_load_mid rfl 42 _ rfl _ _ rfl x.cells _ hrx2 Try.underlying42 rfl (doinfo x) ?_) | (go_at_call 21; refine HD.out.mono ?_; rintro e w3 ⟨rfl, h, -⟩; have H2 := Lib.hid h; clear h HD HA hrx2))
        go_roundw
        case rel => exact ⟨j + 1, by have := HJL.out; omega, by go_num, _, H2.out⟩
        case measure => have := HJL.out; simp [intOf]; omega
    · have hor : ¬ (j : Int) < (n1 : Nat) ∨ ((j : Int) < (n1 : Nat) ∧ ¬ (j : Int) < 60) := by omega
      clear hjl hj
      have HSV := Lib.hid (an_save HA.out)
      have HOK := Lib.hid HA.out.ok
      have HAY := Lib.hid HA.out.any
      have HLY := Lib.hid (links_yes HA.out.ok HA.out.any)
      obtain ⟨en, hen⟩ : ∃ en, en = encLS 1 s := ⟨_, rfl⟩
      have HEN := Lib.hid hen
      rw [← hen] at HSV HLY
      have HE := Lib.hid (show en.length ≤ 6100000 ∧ ∀ y ∈ en, y < 256 by rw [hen]; exact ⟨HA.out.ok.elen, HA.out.ok.h256⟩)
      have HST := Lib.hid (fun w => str_row w en HE.out.2)
      clear hen
      rcases hor with i1 | ⟨i1, i2⟩
      all_goals
        go_upto_region 11 with (first | (go_at_call 20; refine HSV.out.mono ?_; rintro e w2 ⟨rfl, hb⟩; obtain ⟨g, cb, w3, hcv, hcb, hg1, hg2, hb3, hby⟩ := HST.out w2; have H2 := Lib.hid (HA.out.next hb); have HG := Lib.hid (And.intro hcb (And.intro hg1 (And.intro hg2 (And.intro hb3 hby)))); clear hb hcb hg1 hg2 hb3 hby HSV))
        (try clear i1)
        (try clear i2)
        (try clear hcv)
        have HLD := Lib.hid (load_yes (some ⟨g, 0, none⟩) en.length cb w3 en rfl HG.out.1 (by have := HE.out.1; omega) HE.out.2 HG.out.2.2.2.2 HLY.out)
        go_upto_region 12 with (first | (go_at_call 22; refine HLD.out.mono ?_; rintro e w4 ⟨dm, F, rfl, hK, hb⟩; have HM := Lib.hid hK; have HB4 := Lib.hid hb; clear hK hb))
        have hduo : Duo W (fun k => k = g) w4 1 W.heap.size dm s s :=
          ⟨_, _, (H2.out.many.turnQ HG.out.2.2.2.1 (Q' := fun k => k = g) (fun k hk => by subst hk; exact ⟨HG.out.2.1, HG.out.2.2.1⟩)).add HB4.out HM.out HAY.out (fun k hk => by subst hk; exact HG.out.2.2.1), rfl, rfl, rfl, rfl⟩
        have HD := Lib.hid hduo
        have HY := Lib.hid (show Byt.ByR w4 (some ⟨g, 0, none⟩) en from HG.out.2.2.2.2.next HB4.out)
        have HC := Lib.hid HG.out.1
        clear hduo HM HB4 H2 HLD HG
        have hen0 : (en.length : Int) ≠ 0 := by
          rw [HEN.out]; have := enc_pos 1 s; omega
        have hen1 : ((en.length : Int) == 0) = false := by simpa using hen0
        have hsv : Calls Try.prog 20 #[.pointer (some ⟨dm, 0, none⟩)] w4.drew fun e w' => e = .returned (.string (Byt.bstr en)) ∧ Below w4.drew.heap.size w4.drew w' := by
          rw [HEN.out]
          exact (HD.out.next (Below.refl _ _).drew).save2
        have HSV := Lib.hid hsv
        clear hsv hen0
        have hY0 := HY.out
        have HCS := Lib.hid (show ∀ w, Byt.ByR w (some ⟨g, 0, none⟩) en → (convert 38 9 (.slice (some ⟨g, 0, none⟩) en.length cb)).run Try.prog w = .ok (.string (Byt.bstr en)) w from fun w h => Byt.conv_src w _ _ cb en (h.src (fun e => by cases e)) rfl HE.out.2)
        refine wp_region_tree (S := (fun w' => Byt.ByR w' (some ⟨g, 0, none⟩) en)) (.take 0 (.take 1 (.take 2 (.take 3 (.take 5 (.take 6 (.one 4 (.take 7 (.take 8 (.take 9 (.take 10 (.take 11 (.take 12 (.take 13 .nil)))))))))))))) 9999 (by kernel_rfl) (by kernel_rfl) (by kernel_rfl) (by kernel_rfl) (by kernel_rfl) (fun _ _ d _ _ h => by cases d <;> exact h) hY0 (fun hHeld => ?_); simp only [Tree.map, List.getElem?_toArray, List.getElem?_cons_zero, List.getElem?_cons_succ]
        (repeat (first | (refine wpTree.take (v := undef) (Or.inr ⟨by rfl, rfl⟩) ?_; simp only [Act.put, List.setIfInBounds_toArray, List.set_cons_zero, List.set_cons_succ]) | (refine wpTree.take (v := ?_) (Or.inl ⟨by rfl, ?_⟩) ?_; rotate_left; (focus (intro _ hS; (try dsimp only at hS); go_split_ands; (try subst hS); go_simp; (try (with_reducible rfl)); done)); simp only [Act.put, List.setIfInBounds_toArray, List.set_cons_zero, List.set_cons_succ]) | ((refine wpTree.take (v := .string (Byt.bstr en)) (Or.inl ⟨by rfl, ?_⟩) ?_); (focus (intro w' hS; have hcv := HCS.out w' hS; clear hS; go_simp; done)); simp only [Act.put, List.setIfInBounds_toArray, List.set_cons_zero, List.set_cons_succ])))
        refine wpTree.one (fun K hK => ?_)
        go_simp
        go_at_call 20
        refine HSV.out.mono ?_
        rintro e w5 ⟨rfl, hb⟩
        have hb5 := ((Below.refl w4.heap.size w4).drew.trans hb)
        have HY5 := Lib.hid (HY.out.next hb5)
        have HD5 := Lib.hid (HD.out.next hb5)
        refine hK.out _ _ HY5.out (fun _ => ?_)
        clear hK K hHeld hb hb5 HY HD HSV hY0
        (try simp only [Act.put, List.setIfInBounds_toArray, List.set_cons_zero, List.set_cons_succ])
        (repeat (first | (refine wpTree.take (v := undef) (Or.inr ⟨by rfl, rfl⟩) ?_; simp only [Act.put, List.setIfInBounds_toArray, List.set_cons_zero, List.set_cons_succ]) | (refine wpTree.take (v := ?_) (Or.inl ⟨by rfl, ?_⟩) ?_; rotate_left; (focus (intro _ hS; (try dsimp only at hS); go_split_ands; (try subst hS); go_simp; (try (with_reducible rfl)); done)); simp only [Act.put, List.setIfInBounds_toArray, List.set_cons_zero, List.set_cons_succ])))
        refine wpTree.done ?_
        go_upto_region 15 with fail
        go_loopw [10] (fun i wx => ∃ j : Nat, j ≤ 30 ∧ i = .int .i64 j ∧ ∃ t, Duo W (fun k => k = g) wx 1 W.heap.size dm t t ∧ Byt.ByR wx (some ⟨g, 0, none⟩) en) (fun i _ => 30 - (intOf i).toNat)
        case atStart => exact ⟨0, by omega, rfl, s, HD5.out, HY5.out⟩
        case round =>
          clear HD5 HY5 HA HST HLY
          obtain ⟨j, hj, rfl, t, hD, hY⟩ := hrel
          have HD := Lib.hid hD
          have HY := Lib.hid hY
          clear hD hY
          by_cases hjl : j < n2 ∧ j < 30
          · obtain ⟨x, hx⟩ : ∃ x, l2[j]? = some x := ⟨_, List.getElem?_eq_getElem (by rw [HL2.out]; exact hjl.1)⟩
            have i1 : (j : Int) < (n2 : Nat) := by omega
            have i2 : (j : Int) < 30 := by omega
            have i3 : ¬ (j : Int) < 0 := by omega
            obtain ⟨b, o, rfl, hbl, hrx⟩ := do_row HR2.out HD.out.b hx
            have hxk := (HO2.out x (List.mem_of_getElem? hx)).next HD.out.b
            have HX := Lib.hid (And.intro (HO2.out x (List.mem_of_getElem? hx)) (fun w hb => (do_row HR2.out (w := w) hb hx)))
            have HJL := Lib.hid hjl
            have HGR := Lib.hid (great_any wr x)
            clear hx hxk hjl hj
            cases hg : greatB x with
            | true =>
              rw [hg] at HGR
              clear hg
              have HAL := Lib.hid alive_any
              go_wp2_with (first | (refine wpList_load_mid rfl 42 _ rfl _ _ rfl x.cells _ hrx Try.underlying42 rfl (doinfo x) ?_) | (go_at_call 8; refine HGR.out.mono ?_; rintro e w2 ⟨rfl, hb⟩; have HB2 := Lib.hid hb; clear hb) | (go_at_call 7; refine (HAL.out _).mono ?_; rintro e w3 ⟨rfl, hb⟩; have HB3 := Lib.hid (HB2.out.trans (hb.mono HB2.out.size)); clear hb))
              go_ret
              exact ⟨rfl, HD.out.b.trans (HB3.out.mono HD.out.b.size)⟩
            | false =>
              rw [hg] at HGR
              clear hg
              go_upto_region 19 with (first | (refine wpList_load_mid rfl 42 _ rfl _ _ rfl x.cells _ hrx Try.underlying42 rfl (doinfo x) ?_) | (go_at_call 8; refine HGR.out.mono ?_; rintro e w2 ⟨rfl, hb⟩; have HDg := Lib.hid (HD.out.next hb); have HYg := Lib.hid (HY.out.next hb); clear hb hrx HGR))
              have HSR := Lib.hid (show ∀ w, Below W.heap.size W w → w.rangeAt b (o + j * 9) x.cells from fun w hb => by
                obtain ⟨b2, o2, e2, _, h2⟩ := HX.out.2 w hb
                simp only [Option.some.injEq, Addr.mk.injEq, and_true] at e2
                obtain ⟨rfl, rfl⟩ := e2
                exact h2)
              have hrx := HSR.out _ HDg.out.b
              have HDO1 := Lib.hid ((HDg.out.next (Below.refl w2.heap.size w2).drew).do1 x (HX.out.1.next (HDg.out.next (Below.refl w2.heap.size w2).drew).b))
              refine wp_region_tree (S := (fun w' => w'.rangeAt b (o + j * 9) x.cells)) (.take 0 (.take 1 (.take 2 (.take 3 (.take 4 (.take 6 (.take 7 (.take 8 (.take 9 (.take 10 (.one 5 (.one 11 (.take 12 .nil))))))))))))) 9999 (by kernel_rfl) (by kernel_rfl) (by kernel_rfl) (by kernel_rfl) (by kernel_rfl) (fun _ _ d _ _ h => by cases d <;> exact h) hrx (fun hHeld => ?_); simp only [Tree.map, List.getElem?_toArray, List.getElem?_cons_zero, List.getElem?_cons_succ]
              (repeat (first | (refine wpTree.take (v := undef) (Or.inr ⟨by rfl, rfl⟩) ?_; simp only [Act.put, List.setIfInBounds_toArray, List.set_cons_zero, List.set_cons_succ]) | (refine wpTree.take (v := .agg x.cells.toArray) (yieldsIf_load_mid rfl 42 _ rfl _ _ rfl x.cells _ (fun _ hS => hS) Try.underlying42 rfl (doinfo x)) ?_; simp only [Act.put, List.setIfInBounds_toArray, List.set_cons_zero, List.set_cons_succ]) | (refine wpTree.take (v := ?_) (Or.inl ⟨by rfl, ?_⟩) ?_; rotate_left; (focus (intro _ hS; (try dsimp only at hS); go_split_ands; (try subst hS); go_simp; (try (with_reducible rfl)); done)); simp only [Act.put, List.setIfInBounds_toArray, List.set_cons_zero, List.set_cons_succ])))
              refine wpTree.one (fun K hK => ?_)
              go_simp
              go_at_call 21
              refine HDO1.out.mono ?_
              rintro e w6 ⟨rfl, h1, h2⟩
              have HD6 := Lib.hid h1
              have HY6 := Lib.hid (byr_kept (HYg.out.next (Below.refl w2.heap.size w2).drew) h2)
              refine hK.out _ _ (HSR.out _ HD6.out.b) (fun _ => ?_)
              clear hK K hHeld h1 h2 HDO1 hrx
              (try simp only [Act.put, List.setIfInBounds_toArray, List.set_cons_zero, List.set_cons_succ])
              have HDO2 := Lib.hid (HD6.out.do2 x (HX.out.1.next HD6.out.b))
              refine wpTree.one (fun K hK => ?_)
              go_simp
              go_at_call 21
              refine HDO2.out.mono ?_
              rintro e w7 ⟨rfl, h1, h2⟩
              have HD7 := Lib.hid h1
              have HY7 := Lib.hid (byr_kept HY6.out h2)
              refine hK.out _ _ (HSR.out _ HD7.out.b) (fun _ => ?_)
              clear hK K h1 h2 HDO2 HD6 HY6 HSR HD HY HDg HYg
              (try simp only [Act.put, List.setIfInBounds_toArray, List.set_cons_zero, List.set_cons_succ])
              (repeat (first | (refine wpTree.take (v := undef) (Or.inr ⟨by rfl, rfl⟩) ?_; simp only [Act.put, List.setIfInBounds_toArray, List.set_cons_zero, List.set_cons_succ]) | (refine wpTree.take (v := ?_) (Or.inl ⟨by rfl, ?_⟩) ?_; rotate_left; (focus (intro _ hS; (try dsimp only at hS); go_split_ands; (try subst hS); go_simp; (try (with_reducible rfl)); done)); simp only [Act.put, List.setIfInBounds_toArray, List.set_cons_zero, List.set_cons_succ])))
              refine wpTree.done ?_
              go_wp2_with fail
              go_roundw
              case rel => exact ⟨j + 1, by have := HJL.out; omega, by go_num, _, HD7.out, HY7.out⟩
              case measure => have := HJL.out; simp [intOf]; omega
          · have hor : ¬ (j : Int) < (n2 : Nat) ∨ ((j : Int) < (n2 : Nat) ∧ ¬ (j : Int) < 30) := by omega
            clear hjl hj
            have HAL := Lib.hid (alive_any wr)
            have HSV1 := Lib.hid (fun w (hb : Below wr.heap.size wr w) => (HD.out.next hb).save1)
            have HSV2 := Lib.hid (fun w (hb : Below wr.heap.size wr w) => (HD.out.next hb).save2)
            obtain ⟨em, hem⟩ : ∃ em, em = encLS 1 t := ⟨_, rfl⟩
            rw [← hem] at HSV1 HSV2
            obtain ⟨n0, hn0⟩ : ∃ n0, en.length = n0 + 1 := ⟨en.length - 1, by have : 1 ≤ en.length := (by rw [HEN.out]; exact enc_pos 1 s); omega⟩
            have HN0 := Lib.hid hn0
            have HCB := Lib.hid (show n0 + 1 ≤ cb by rw [← hn0]; exact HC.out)
            have HLE := Lib.hid (show n0 ≤ 6100000 by have := HE.out.1; omega)
            have HNO1 := Lib.hid (fun w (hb : Below wr.heap.size wr w) => load_no (some ⟨g, 0, none⟩) n0 cb w (en.take n0) (by rw [List.length_take]; omega) (by have := HCB.out; omega) (by rw [List.length_take]; have := HE.out.1; omega) (fun y hy => HE.out.2 y (List.mem_of_mem_take hy)) (byr_take (HY.out.next hb) n0) (by rw [HEN.out]; exact links_less HOK.out HAY.out n0 (by rw [← HEN.out, hn0]; omega)))
            have HSRC := Lib.hid (fun w (hb : Below wr.heap.size wr w) => (show Src w (some ⟨g, 0, none⟩) (n0 + 1) (u8s en) from hn0 ▸ (HY.out.next hb).src (fun e => by cases e)))
            have HLEN := Lib.hid (show (u8s en).length = n0 + 1 by rw [u8s_len, hn0])
            rw [hn0]
            clear hn0
            have hcb0 : cb ≠ 0 := by have := HCB.out; omega
            have i5 : (n0 : Int) ≤ (cb : Nat) := by have := HCB.out; omega
            have i6 : (0 : Int) ≤ (n0 : Nat) := by omega
            have e1 := wr_id n0 HLE.out
            rcases hor with i1 | ⟨i1, i2⟩
            all_goals
              go_upto_region 21 with fail
              go_wp2_with (first | (go_at_call 7; refine HAL.out.mono ?_; rintro e w10 ⟨rfl, hb⟩; have HB10 := Lib.hid hb; clear hb HAL) | (go_at_call 20; refine (HSV1.out _ HB10.out).mono ?_; rintro e w11 ⟨rfl, hb⟩; have HB11 := Lib.hid (HB10.out.trans (hb.mono HB10.out.size)); clear hb HSV1) | (go_at_call 20; refine (HSV2.out _ HB11.out).mono ?_; rintro e w12 ⟨rfl, hb⟩; have HB12 := Lib.hid (HB11.out.trans (hb.mono HB11.out.size)); clear hb HSV2) | (go_at_call 22; refine (HNO1.out _ HB12.out).mono ?_; rintro e w13 ⟨rfl, hb⟩; have HB13 := Lib.hid (HB12.out.trans (hb.mono HB12.out.size)); clear hb HNO1) | (at_builtin; refine append_u8g _ rfl _ _ rfl w13.heap.size v14 (n0 + 1) (u8s [] ++ u8s en) rfl HO15.out (some ⟨w14.heap.size, 0, none⟩) 1 1 (u8s [0]) rfl rfl HS15.out (u8s_one _) (by have := HLE.out; omega) HB15.out.size ?_; intro v16 w16 hown hgrow hloc; have HB16 := Lib.hid (HB13.out.trans ((ownG_below hgrow HO15.out (Nat.le_refl _) HB15.out.size HB15.out).mono HB13.out.size)); have HNO2 := Lib.hid (more_load HEN.out HOK.out HAY.out HLEN.out hown); clear hown hgrow hloc) | (at_builtin; refine append_u8g _ rfl _ _ rfl w13.heap.size _ 0 (u8s []) rfl (World.ownsRow_lit (base := w13.heap.size) (size := 1) (e := 5) w13 #[] 0 (Nat.le_refl _) (by unfold maxLen; omega) rfl) (some ⟨g, 0, none⟩) (n0 + 1) cb (u8s en) rfl HLEN.out (HSRC.out _ (HB13.out.trans (((Below.refl w13.heap.size w13).alloc (Nat.le_refl _) _).mono HB13.out.size))) (u8s_one _) (by have := HLE.out; omega) (by simp) ?_; intro v14 w14 hown hgrow hloc; have HB14 := Lib.hid (ownG_below hgrow (World.ownsRow_lit (base := w13.heap.size) (size := 1) (e := 5) w13 #[] 0 (Nat.le_refl _) (by unfold maxLen; omega) rfl) (Nat.le_refl _) (by simp) ((Below.refl w13.heap.size w13).alloc (Nat.le_refl _) (.cells #[] 5))); rw [Nat.zero_add] at hown; have hb15 := (Below.refl w14.heap.size w14).alloc (Nat.le_refl _) (.cells #[.int .u8 0] 5); have HO15 := Lib.hid (ownG_next hown hb15); have HB15 := Lib.hid (HB14.out.trans (hb15.mono HB14.out.size)); have HS15 := Lib.hid (lit_src (w := w14) (bs := [0]) (C := #[.int .u8 0]) (z := (0, 0)) rfl); clear hown hgrow hloc hb15 HB14) | (go_at_call 22; refine HNO2.out.mono ?_; rintro e w17 ⟨rfl, hb⟩; have HB17 := Lib.hid (HB16.out.trans (hb.mono HB16.out.size)); clear hb HNO2))
              go_ret
              exact ⟨rfl, HD.out.b.trans (HB17.out.mono HD.out.b.size)⟩
end Ls
end Go.Proofs.Ytifoheodcbjapaa
