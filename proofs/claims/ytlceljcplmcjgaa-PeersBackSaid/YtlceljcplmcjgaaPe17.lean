/-
peers: PeersBack: saved and loaded, peers go on alike; their bytes, cut or with one more, are none's. Without a condition.
-/
import Derived.Test.YtlceljcplmcjgaaPe16
namespace Go.Proofs.Ytlceljcplmcjgaa
open Go.RowKit Go.ChangeShapes Go.WideShapes Go.ChangeAt Go.WideElems
set_option linter.unusedSimpArgs false
set_option linter.unusedVariables false
namespace Pe
/-- A shard's peers that a law made; all below is as it was. -/
structure One (W w : World) (p : Nat) (x : PS) : Prop where
  p : PP w W.heap.size p x
  b : Below W.heap.size W w
  ok : x.Ok
theorem One.next {W w w' : World} {p : Nat} {x : PS} (h : One W w p x) (hb : Below w.heap.size w w') : One W w' p x := ⟨h.p.next hb, h.b.trans (hb.mono h.b.size), h.ok⟩
theorem One.doing {W w : World} {p : Nat} {x : PS} (h : One W w p x) (o : Op4) : Calls Try.prog 9 #[.pointer (some ⟨p, 0, none⟩), .agg o.cells.toArray] w fun e w' => e = .returned (.int .i64 (x.doF o).1) ∧ One W w' p (x.doF o).2 :=
  (do_any w h.p h.ok o).mono (by
    rintro e w' ⟨rfl, hp, ht⟩
    exact ⟨rfl, hp, h.b.trans ht.1, do_ok h.ok o⟩)
theorem byr_take {W : World} {A : Option Addr} {bs : List Nat} (h : Byt.ByR W A bs) (k : Nat) : Byt.ByR W A (bs.take k) := by
  rcases h with rfl | ⟨b, p, e, h1, h2⟩
  · exact Or.inl (by simp)
  · refine Or.inr ⟨b, p, e, h1, fun i x hx => h2 i x ?_⟩
    rw [List.getElem?_take] at hx
    split at hx
    · exact hx
    · cases hx
theorem byr_tn {w w' : World} {B d g : Nat} {bs : List Nat} (h : Byt.ByR w (some ⟨g, 0, none⟩) bs) (ht : Tn B d w w') (hg : g ≠ d) : Byt.ByR w' (some ⟨g, 0, none⟩) bs := by
  rcases h with rfl | ⟨b, p, e, h1, h2⟩
  · exact Or.inl rfl
  · simp only [Option.some.injEq, Addr.mk.injEq, and_true] at e
    obtain ⟨rfl, rfl⟩ := e
    exact Or.inr ⟨g, 0, rfl, Nat.lt_of_lt_of_le h1 ht.size, fun i x hx => (World.cell?_of_block (ht.2 g h1 hg)).trans (h2 i x hx)⟩
/-- The bytes of a string that a law takes: where they lie. -/
theorem str_row (w : World) (bs : List Nat) (h256 : ∀ x ∈ bs, x < 256) : ∃ g c w', (convert 9 42 (.string (Byt.bstr bs))).run Try.prog w = .ok (.slice (some ⟨g, 0, none⟩) bs.length c) w' ∧ bs.length ≤ c ∧ w.heap.size ≤ g ∧ g < w'.heap.size ∧ Below w.heap.size w w' ∧ Byt.ByR w' (some ⟨g, 0, none⟩) bs :=
  ⟨w.heap.size, Sx.capS bs w, _, Sx.str_bytes w bs bs.length rfl, by unfold Sx.capS; rw [Byt.bstr_size]; exact grownCap_ge _ _ _ _, Nat.le_refl _, by simp, (Below.refl _ _).drew.alloc (Nat.le_refl _) _, Sx.objS_byr w bs h256⟩
theorem append_u8g {ops : Array Oper} {rest : List Oper} {o : Oper} {a : Act} {Q : Exit → Act → World → Prop} (w : World) (hw : Region.wanted o (yielded ops a.tmps) = true) (s x : Operand)
    (ho : o.op = .call { callee := .builtin .append, args := #[s, x], argTypes := #[42, 42] }) (base : Nat)
    (v : Value) (n : Nat) (xs : List Value) (hs : a.eval s = v) (hown : w.ownsRow base 5 1 v n xs)
    (A : Option Addr) (m c : Nat) (news : List Value) (hx : a.eval x = .slice A m c) (hl : news.length = m) (hsrc : Src w A m news) (h1 : ∀ u ∈ news, u.oneCell' = true)
    (hbytes : n + m ≤ 140737488355328) (hbase : base ≤ w.heap.size)
    (h : ∀ v' w', w'.ownsRow base 5 1 v' (n + m) (xs ++ news) → w.grownBy w' v.ownBlock → (v'.ownBlock = v.ownBlock ∨ v'.ownBlock = some w.heap.size) → wpList Try.prog ops Q rest (a.put o.dst v') w') : wpList Try.prog ops Q (o :: rest) a w :=
  wpList_step fun _ hK => by
    rw [if_pos hw]
    exact wp_append_u8 w s x ho base v n xs hs hown A m c news hx hl hsrc h1 hbytes hbase fun v' w' h2 h3 h4 => hK _ _ (h v' w' h2 h3 h4)
theorem lit_src {w : World} {bs : List Nat} {C : Array Value} {z : Nat × Nat} (h : C = (u8s bs).toArray) : Src (w.alloc (.cells C 5 z)) (some ⟨w.heap.size, 0, none⟩) bs.length (u8s bs) := by
  refine Or.inl ⟨_, rfl, fun j u hj => ?_⟩
  have hh := heap_alloc_new w (Obj.cells C 5 z)
  rw [add_plain, Nat.zero_add, cell_of_row _ w.heap.size _ _ _ _ hh, h, List.getElem?_toArray]
  exact hj
theorem more_load {w : World} {B n0 : Nat} {v : Value} {en : List Nat} {s : PS} (hen : en = encPS s) (hok : s.Ok) (hl : (u8s en).length = n0 + 1) (h : w.ownsRow B 5 1 v (n0 + 1 + 1) (u8s [] ++ u8s en ++ u8s [0])) :
    Calls Try.prog 27 #[v] w fun e w' => e = .returned (.pointer none) ∧ Below w.heap.size w w' := by
  rw [u8s_len] at hl
  have hn : n0 + 1 + 1 = (en ++ [0]).length := by rw [List.length_append, hl]; rfl
  have hu : u8s [] ++ u8s en ++ u8s [0] = Byt.u8s (en ++ [0]) := by simp [u8s, Byt.u8s]
  rw [hn, hu] at h
  have h2 := h
  clear h
  obtain ⟨A, c, rfl, hc, hby, hA⟩ := Byt.own_byr h2
  rw [hen] at hc hby ⊢
  exact load_more A _ c w s hok rfl hc hby
theorem wr_id (n : Nat) (h : n ≤ 500000) : wrap64 (n : Int) = (n : Nat) := by unfold wrap64; omega
set_option maxHeartbeats 8000000 in
set_option maxRecDepth 20000 in
theorem back_walk (W : World) (A1 A2 : Option Addr) (n1 c1 n2 c2 : Nat) (l1 l2 : List Op4) (hl1 : l1.length = n1) (hl2 : l2.length = n2) (hr1 : RowsOf Op4.cells 4 W A1 l1) (hr2 : RowsOf Op4.cells 4 W A2 l2) :
    Calls Try.prog 6 #[.slice A1 n1 c1, .slice A2 n2 c2] W fun e W' => e = .returned (.bool true) ∧ Below W.heap.size W W' := by
  have HN := Lib.hid (new_yes W 1 (num_in.2 (by decide)))
  have HL1 := Lib.hid hl1
  have HL2 := Lib.hid hl2
  have HR1 := Lib.hid hr1
  have HR2 := Lib.hid hr2
  clear hl1 hl2 hr1 hr2
  go_enter Try.func6, Try.ntmps6
  go_upto_region 3 with (first | (go_at_call 7; refine HN.out.mono ?_; rintro e w1 ⟨rfl, hp, hb, -⟩; have H1 := Lib.hid (show One W w1 W.heap.size (PS.new 1) from ⟨hp, hb, PS.new_ok (by decide) (by decide)⟩); clear hp hb HN))
  go_loopw [7] (fun i wr => ∃ j : Nat, j ≤ 100 ∧ i = .int .i64 j ∧ ∃ s, One W wr W.heap.size s) (fun i _ => 100 - (intOf i).toNat)
  case atStart => exact ⟨0, by omega, rfl, _, H1.out⟩
  case round =>
    clear H1
    obtain ⟨j, hj, rfl, s, hA⟩ := hrel
    have HA := Lib.hid hA
    clear hA
    by_cases hjl : j < n1 ∧ j < 100
    · obtain ⟨x, hx⟩ : ∃ x, l1[j]? = some x := ⟨_, List.getElem?_eq_getElem (by rw [HL1.out]; exact hjl.1)⟩
      have i1 : (j : Int) < (n1 : Nat) := by omega
      have i2 : (j : Int) < 100 := by omega
      have i3 : ¬ (j : Int) < 0 := by omega
      obtain ⟨b, o, rfl, hbl, hrx⟩ := op_row HR1.out HA.out.b hx
      have HJL := Lib.hid hjl
      clear hx hjl hj
      have HD := Lib.hid (HA.out.doing x)
      go_upto_region 7 with fail
      go_wp2_with (first | (refine wpList_load_mid rfl 36 _ rfl _ _ rfl x.cells _ hrx Try.underlying36 rfl (opinfo x) ?_) | (go_at_call 9; refine HD.out.mono ?_; rintro e w2 ⟨rfl, h⟩; have H2 := Lib.hid h; clear h HD HA hrx))
      go_roundw
      case rel => exact ⟨j + 1, by have := HJL.out; omega, by go_num, _, H2.out⟩
      case measure => have := HJL.out; simp [intOf]; omega
    · have hor : ¬ (j : Int) < (n1 : Nat) ∨ ((j : Int) < (n1 : Nat) ∧ ¬ (j : Int) < 100) := by omega
      clear hjl hj
      have HSV := Lib.hid (save_any wr HA.out.p HA.out.ok)
      have HOK := Lib.hid HA.out.ok
      obtain ⟨en, hen⟩ : ∃ en, en = encPS s := ⟨_, rfl⟩
      have HEN := Lib.hid hen
      rw [← hen] at HSV
      have HE := Lib.hid (show en.length ≤ 1700 ∧ ∀ y ∈ en, y < 256 by rw [hen]; exact ⟨encPS_len HA.out.ok, encPS_256 s⟩)
      have HST := Lib.hid (fun w => str_row w en HE.out.2)
      clear hen
      rcases hor with i1 | ⟨i1, i2⟩
      all_goals
        go_upto_region 9 with (first | (go_at_call 15; refine HSV.out.mono ?_; rintro e w2 ⟨rfl, hb⟩; obtain ⟨g, cb, w3, hcv, hcb, hg1, hg2, hb3, hby⟩ := HST.out w2; have H2 := Lib.hid (HA.out.next hb); have HG := Lib.hid (And.intro hcb (And.intro hg1 (And.intro hg2 (And.intro hb3 hby)))); clear hb hcb hg1 hg2 hb3 hby HSV))
        (try clear i1)
        (try clear i2)
        (try clear hcv)
        have HLD := Lib.hid (load_back (some ⟨g, 0, none⟩) en.length cb w3 s HOK.out (by rw [← HEN.out]) HG.out.1 (by rw [← HEN.out]; exact HG.out.2.2.2.2))
        go_upto_region 10 with (first | (go_at_call 27; refine HLD.out.mono ?_; rintro e w4 ⟨dm, rfl, hK, hb⟩; have HM := Lib.hid hK; have HB4 := Lib.hid hb; clear hK hb))
        have b24 := HG.out.2.2.2.1.trans (HB4.out.mono HG.out.2.2.2.1.size)
        have hz3 := HG.out.2.2.2.1.size
        have hduo : Duo W w4 W.heap.size dm s s := ⟨H2.out.p.next b24, ⟨HM.out.1, by have := H2.out.b.size; have := HM.out.2; omega⟩, by have := H2.out.p.lt; have := HM.out.2; omega, H2.out.b.trans (b24.mono H2.out.b.size), HOK.out, HOK.out⟩
        have HGN := Lib.hid (show g ≠ W.heap.size ∧ g ≠ dm from ⟨by have := HG.out.2.1; have := H2.out.p.lt; omega, by have := HG.out.2.2.1; have := HM.out.2; omega⟩)
        clear b24 hz3
        have HD := Lib.hid hduo
        have HY := Lib.hid (show Byt.ByR w4 (some ⟨g, 0, none⟩) en from HG.out.2.2.2.2.next HB4.out)
        have HC := Lib.hid HG.out.1
        clear hduo HM HB4 H2 HLD HG
        have hen0 : (en.length : Int) ≠ 0 := by
          rw [HEN.out]
          have := encPS_pos s
          omega
        have hen1 : ((en.length : Int) == 0) = false := by simpa using hen0
        have hsv : Calls Try.prog 15 #[.pointer (some ⟨dm, 0, none⟩)] w4.drew fun e w' => e = .returned (.string (Byt.bstr en)) ∧ Below w4.drew.heap.size w4.drew w' := by
          rw [HEN.out]
          exact save_any _ (HD.out.next (Below.refl _ _).drew).hq HOK.out
        have HSV := Lib.hid hsv
        clear hsv hen0
        have hY0 := HY.out
        have HCS := Lib.hid (show ∀ w, Byt.ByR w (some ⟨g, 0, none⟩) en → (convert 42 9 (.slice (some ⟨g, 0, none⟩) en.length cb)).run Try.prog w = .ok (.string (Byt.bstr en)) w from fun w h => Byt.conv_src w _ _ cb en (h.src (fun e => by cases e)) rfl HE.out.2)
        refine wp_region_tree (S := (fun w' => Byt.ByR w' (some ⟨g, 0, none⟩) en)) (.take 0 (.take 1 (.take 2 (.take 3 (.take 5 (.take 6 (.one 4 (.take 7 (.take 8 (.take 9 (.take 10 (.take 11 (.take 12 (.take 13 .nil)))))))))))))) 9999 (by kernel_rfl) (by kernel_rfl) (by kernel_rfl) (by kernel_rfl) (by kernel_rfl) (fun _ _ d _ _ h => by cases d <;> exact h) hY0 (fun hHeld => ?_); simp only [Tree.map, List.getElem?_toArray, List.getElem?_cons_zero, List.getElem?_cons_succ]
        (repeat (first | (refine wpTree.take (v := undef) (Or.inr ⟨by rfl, rfl⟩) ?_; simp only [Act.put, List.setIfInBounds_toArray, List.set_cons_zero, List.set_cons_succ]) | (refine wpTree.take (v := ?_) (Or.inl ⟨by rfl, ?_⟩) ?_; rotate_left; (focus (intro _ hS; (try dsimp only at hS); go_split_ands; (try subst hS); go_simp; (try (with_reducible rfl)); done)); simp only [Act.put, List.setIfInBounds_toArray, List.set_cons_zero, List.set_cons_succ]) | ((refine wpTree.take (v := .string (Byt.bstr en)) (Or.inl ⟨by rfl, ?_⟩) ?_); (focus (intro w' hS; have hcv := HCS.out w' hS; clear hS; go_simp; done)); simp only [Act.put, List.setIfInBounds_toArray, List.set_cons_zero, List.set_cons_succ])))
        refine wpTree.one (fun K hK => ?_)
        go_simp
        go_at_call 15
        refine HSV.out.mono ?_
        rintro e w5 ⟨rfl, hb⟩
        have hb5 := ((Below.refl w4.heap.size w4).drew.trans hb)
        have HY5 := Lib.hid (HY.out.next hb5)
        have HD5 := Lib.hid (HD.out.next hb5)
        refine hK.out _ _ HY5.out (fun _ => ?_)
        clear hK K hHeld hb hb5 HY HD HSV hY0
        (try simp only [Act.put, List.setIfInBounds_toArray, List.set_cons_zero, List.set_cons_succ])
        (repeat (first | (refine wpTree.take (v := undef) (Or.inr ⟨by rfl, rfl⟩) ?_; simp only [Act.put, List.setIfInBounds_toArray, List.set_cons_zero, List.set_cons_succ]) | (refine wpTree.take (v := ?_) (Or.inl ⟨by rfl, ?_⟩) ?_; rotate_left; (focus (intro _ hS; (try dsimp only at hS); go_split_ands; (try subst hS); go_simp; (try (with_reducible rfl)); done)); simp only [Act.put, List.setIfInBounds_toArray, List.set_cons_zero, List.set_cons_succ])))
        refine wpTree.done ?_
        go_upto_region 13 with fail
        go_loopw [10] (fun i wx => ∃ j : Nat, j ≤ 60 ∧ i = .int .i64 j ∧ ∃ t, Duo W wx W.heap.size dm t t ∧ Byt.ByR wx (some ⟨g, 0, none⟩) en) (fun i _ => 60 - (intOf i).toNat)
        case atStart => exact ⟨0, by omega, rfl, s, HD5.out, HY5.out⟩
        case round =>
          clear HD5 HY5 HA HST
          obtain ⟨j, hj, rfl, t, hD, hY⟩ := hrel
          have HD := Lib.hid hD
          have HY := Lib.hid hY
          clear hD hY
          by_cases hjl : j < n2 ∧ j < 60
          · obtain ⟨x, hx⟩ : ∃ x, l2[j]? = some x := ⟨_, List.getElem?_eq_getElem (by rw [HL2.out]; exact hjl.1)⟩
            have i1 : (j : Int) < (n2 : Nat) := by omega
            have i2 : (j : Int) < 60 := by omega
            have i3 : ¬ (j : Int) < 0 := by omega
            obtain ⟨b, o, rfl, hbl, hrx⟩ := op_row HR2.out HD.out.b hx
            have HSR := Lib.hid (op_row2 HR2.out rfl hx)
            have HJL := Lib.hid hjl
            clear hx hjl hj
            go_upto_region 15 with fail
            have HDO1 := Lib.hid ((HD.out.next (Below.refl wr.heap.size wr).drew).do1 x)
            obtain ⟨r, hrr⟩ : ∃ r, r = (t.doF x).1 := ⟨_, rfl⟩
            rw [← hrr] at HDO1
            have HRR := Lib.hid hrr
            have i5 := bne_self r
            clear hrr
            refine wp_region_tree (S := (fun w' => w'.rangeAt b (o + j * 4) x.cells)) (.take 0 (.take 1 (.take 2 (.take 3 (.take 4 (.take 6 (.take 7 (.take 8 (.take 9 (.take 10 (.one 5 (.one 11 (.take 12 .nil))))))))))))) 9999 (by kernel_rfl) (by kernel_rfl) (by kernel_rfl) (by kernel_rfl) (by kernel_rfl) (fun _ _ d _ _ h => by cases d <;> exact h) hrx (fun hHeld => ?_); simp only [Tree.map, List.getElem?_toArray, List.getElem?_cons_zero, List.getElem?_cons_succ]
            (repeat (first | (refine wpTree.take (v := undef) (Or.inr ⟨by rfl, rfl⟩) ?_; simp only [Act.put, List.setIfInBounds_toArray, List.set_cons_zero, List.set_cons_succ]) | (refine wpTree.take (v := .agg x.cells.toArray) (yieldsIf_load_mid rfl 36 _ rfl _ _ rfl x.cells _ (fun _ hS => hS) Try.underlying36 rfl (opinfo x)) ?_; simp only [Act.put, List.setIfInBounds_toArray, List.set_cons_zero, List.set_cons_succ]) | (refine wpTree.take (v := ?_) (Or.inl ⟨by rfl, ?_⟩) ?_; rotate_left; (focus (intro _ hS; (try dsimp only at hS); go_split_ands; (try subst hS); go_simp; (try (with_reducible rfl)); done)); simp only [Act.put, List.setIfInBounds_toArray, List.set_cons_zero, List.set_cons_succ])))
            refine wpTree.one (fun K hK => ?_)
            go_simp
            go_at_call 9
            refine HDO1.out.mono ?_
            rintro e w6 ⟨rfl, h1, h2⟩
            have HD6 := Lib.hid h1
            have HY6 := Lib.hid (byr_tn (HY.out.next (Below.refl wr.heap.size wr).drew) h2 HGN.out.1)
            refine hK.out _ _ (HSR.out _ HD6.out.b) (fun _ => ?_)
            clear hK K hHeld h1 h2 HDO1 hrx
            (try simp only [Act.put, List.setIfInBounds_toArray, List.set_cons_zero, List.set_cons_succ])
            have HDO2 := Lib.hid (HD6.out.do2 x)
            rw [← HRR.out] at HDO2
            refine wpTree.one (fun K hK => ?_)
            go_simp
            go_at_call 9
            refine HDO2.out.mono ?_
            rintro e w7 ⟨rfl, h1, h2⟩
            have HD7 := Lib.hid h1
            have HY7 := Lib.hid (byr_tn HY6.out h2 HGN.out.2)
            refine hK.out _ _ (HSR.out _ HD7.out.b) (fun _ => ?_)
            clear hK K h1 h2 HDO2 HD6 HY6 HSR HD HY
            (try simp only [Act.put, List.setIfInBounds_toArray, List.set_cons_zero, List.set_cons_succ])
            (repeat (first | (refine wpTree.take (v := undef) (Or.inr ⟨by rfl, rfl⟩) ?_; simp only [Act.put, List.setIfInBounds_toArray, List.set_cons_zero, List.set_cons_succ]) | (refine wpTree.take (v := ?_) (Or.inl ⟨by rfl, ?_⟩) ?_; rotate_left; (focus (intro _ hS; (try dsimp only at hS); go_split_ands; (try subst hS); go_simp; (try (with_reducible rfl)); done)); simp only [Act.put, List.setIfInBounds_toArray, List.set_cons_zero, List.set_cons_succ])))
            refine wpTree.done ?_
            go_wp2_with fail
            go_roundw
            case rel => exact ⟨j + 1, by have := HJL.out; omega, by go_num, _, HD7.out, HY7.out⟩
            case measure => have := HJL.out; simp [intOf]; omega
          · have hor : ¬ (j : Int) < (n2 : Nat) ∨ ((j : Int) < (n2 : Nat) ∧ ¬ (j : Int) < 60) := by omega
            clear hjl hj
            have HAL := Lib.hid (alive_any wr)
            have HSV1 := Lib.hid (fun w (hb : Below wr.heap.size wr w) => save_any w (HD.out.next hb).hp HD.out.ox)
            have HSV2 := Lib.hid (fun w (hb : Below wr.heap.size wr w) => save_any w (HD.out.next hb).hq HD.out.ox)
            obtain ⟨em, hem⟩ : ∃ em, em = encPS t := ⟨_, rfl⟩
            rw [← hem] at HSV1 HSV2
            obtain ⟨n0, hn0⟩ : ∃ n0, en.length = n0 + 1 := ⟨en.length - 1, by have : 1 ≤ en.length := (by rw [HEN.out]; exact encPS_pos s); omega⟩
            have HN0 := Lib.hid hn0
            have HCB := Lib.hid (show n0 + 1 ≤ cb by rw [← hn0]; exact HC.out)
            have HLE := Lib.hid (show n0 ≤ 500000 by have := HE.out.1; omega)
            have hcut : ∀ w, Byt.ByR w (some ⟨g, 0, none⟩) (en.take n0) → Calls Try.prog 27 #[.slice (some ⟨g, 0, none⟩) n0 cb] w fun e w' => e = .returned (.pointer none) ∧ Below w.heap.size w w' := fun w h => by
              have hn1 : (encPS s).length - 1 = n0 := by rw [← HEN.out, hn0]; rfl
              have := load_cut (some ⟨g, 0, none⟩) n0 cb w s HOK.out (by rw [hn1, ← HEN.out, List.length_take]; omega) (by have := HCB.out; omega) (by rw [hn1, ← HEN.out]; exact h)
              exact this
            have HNO1 := Lib.hid (fun w (hb : Below wr.heap.size wr w) => hcut w (byr_take (HY.out.next hb) n0))
            clear hcut
            have HSRC := Lib.hid (fun w (hb : Below wr.heap.size wr w) => (show Src w (some ⟨g, 0, none⟩) (n0 + 1) (u8s en) from hn0 ▸ (HY.out.next hb).src (fun e => by cases e)))
            have HLEN := Lib.hid (show (u8s en).length = n0 + 1 by rw [u8s_len, hn0])
            rw [hn0]
            clear hn0
            have hcb0 : cb ≠ 0 := by have := HCB.out; omega
            have i5 : (n0 : Int) ≤ (cb : Nat) := by have := HCB.out; omega
            have i6 : (0 : Int) ≤ (n0 : Nat) := by omega
            have e1 := wr_id n0 HLE.out
            rcases hor with i1 | ⟨i1, i2⟩
            all_goals
              go_upto_region 19 with fail
              go_wp2_with (first | (go_at_call 8; refine HAL.out.mono ?_; rintro e w10 ⟨rfl, hb⟩; have HB10 := Lib.hid hb; clear hb HAL) | (go_at_call 15; refine (HSV1.out _ HB10.out).mono ?_; rintro e w11 ⟨rfl, hb⟩; have HB11 := Lib.hid (HB10.out.trans (hb.mono HB10.out.size)); clear hb HSV1) | (go_at_call 15; refine (HSV2.out _ HB11.out).mono ?_; rintro e w12 ⟨rfl, hb⟩; have HB12 := Lib.hid (HB11.out.trans (hb.mono HB11.out.size)); clear hb HSV2) | (go_at_call 27; refine (HNO1.out _ HB12.out).mono ?_; rintro e w13 ⟨rfl, hb⟩; have HB13 := Lib.hid (HB12.out.trans (hb.mono HB12.out.size)); clear hb HNO1) | (at_builtin; refine append_u8g _ rfl _ _ rfl w13.heap.size v14 (n0 + 1) (u8s [] ++ u8s en) rfl HO15.out (some ⟨w14.heap.size, 0, none⟩) 1 1 (u8s [0]) rfl rfl HS15.out (u8s_one _) (by have := HLE.out; omega) HB15.out.size ?_; intro v16 w16 hown hgrow hloc; have HB16 := Lib.hid (HB13.out.trans ((ownG_below hgrow HO15.out (Nat.le_refl _) HB15.out.size HB15.out).mono HB13.out.size)); have HNO2 := Lib.hid (more_load HEN.out HOK.out HLEN.out hown); clear hown hgrow hloc) | (at_builtin; refine append_u8g _ rfl _ _ rfl w13.heap.size _ 0 (u8s []) rfl (World.ownsRow_lit (base := w13.heap.size) (size := 1) (e := 5) w13 #[] 0 (Nat.le_refl _) (by unfold maxLen; omega) rfl) (some ⟨g, 0, none⟩) (n0 + 1) cb (u8s en) rfl HLEN.out (HSRC.out _ (HB13.out.trans (((Below.refl w13.heap.size w13).alloc (Nat.le_refl _) _).mono HB13.out.size))) (u8s_one _) (by have := HLE.out; omega) (by simp) ?_; intro v14 w14 hown hgrow hloc; have HB14 := Lib.hid (ownG_below hgrow (World.ownsRow_lit (base := w13.heap.size) (size := 1) (e := 5) w13 #[] 0 (Nat.le_refl _) (by unfold maxLen; omega) rfl) (Nat.le_refl _) (by simp) ((Below.refl w13.heap.size w13).alloc (Nat.le_refl _) (.cells #[] 5))); rw [Nat.zero_add] at hown; have hb15 := (Below.refl w14.heap.size w14).alloc (Nat.le_refl _) (.cells #[.int .u8 0] 5); have HO15 := Lib.hid (ownG_next hown hb15); have HB15 := Lib.hid (HB14.out.trans (hb15.mono HB14.out.size)); have HS15 := Lib.hid (lit_src (w := w14) (bs := [0]) (C := #[.int .u8 0]) (z := (0, 0)) rfl); clear hown hgrow hloc hb15 HB14) | (go_at_call 27; refine HNO2.out.mono ?_; rintro e w17 ⟨rfl, hb⟩; have HB17 := Lib.hid (HB16.out.trans (hb.mono HB16.out.size)); clear hb HNO2))
              go_ret
              exact ⟨rfl, HD.out.b.trans (HB17.out.mono HD.out.b.size)⟩

set_option maxRecDepth 100000 in
theorem back_lifted (os : Os) (started : os.Started) (H : Type) (enc : TypeId × Value → H) :
    ReturnsInHanded {} Try.checked os 6 .any (Rows.peersBackSpec.pre6 enc Try.prog Try.f6 Rows.peersBackRow.domain false) (Rows.peersBackSpec.post enc Try.prog Try.f6 false true false false) := by
  refine law_lift (C := Try.checked) own_knob started (by kernel_rfl) Try.func6 rfl Try.underlying4 laid_out (by kernel_rfl) rfl ?_
    (ChangeSpec.witness6 (enc := enc) (C := Try.checked) false ⟨#[], #[.slice none 0 0, .slice none 0 0], []⟩ 8 (by kernel_rfl) (by kernel_rfl) (by kernel_rfl) (by kernel_rfl)) ?_
  · intro ds hds
    match ds, hds with
    | [_, _], _ => rfl
  intro W base args ds ps hval hA hlt hsz
  rw [Try.params6] at hA hval
  obtain ⟨v0, vs0, d0, ds0, p0, q0, hargs, rfl, rfl, h0, r0⟩ := trodAll_cons hA
  obtain ⟨v1, vs1, d1, ds1, p1, q1, rfl, rfl, rfl, h1, r1⟩ := trodAll_cons r0
  obtain ⟨rfl, rfl, rfl⟩ := trodAll_nil r1
  obtain rfl : args = #[v0, v1] := by cases args; simp_all
  obtain ⟨A1, c1, l1, rfl, hl1, hc1, hr1, -⟩ := open_rows Try.underlying22 4 cells_op (by omega) Op4.cells (fun _ => True) ⟨0, 0, 0, false⟩ op_len (hval 0 22 v0 rfl rfl) h0 (fun x hx => hlt x (by simp [hx])) (fun _ _ _ _ h _ => open_op h)
  obtain ⟨A2, c2, l2, rfl, hl2, hc2, hr2, -⟩ := open_rows Try.underlying22 4 cells_op (by omega) Op4.cells (fun _ => True) ⟨0, 0, 0, false⟩ op_len (hval 1 22 v1 rfl rfl) h1 (fun x hx => hlt x (by simp [hx])) (fun _ _ _ _ h _ => open_op h)
  exact back_walk W A1 A2 l1.length c1 l2.length c2 l1 l2 rfl rfl hr1 hr2

theorem back_holds : Rows.PeersBackSaid :=
  OpenClaim.holds_of_wide 6 Try.f6 rfl rfl rfl rfl rfl rfl rfl ⟨rfl, rfl, rfl, rfl, rfl⟩ rfl rfl rfl rfl rfl (by kernel_rfl) Try.func6 (by kernel_rfl)
    (of_decide_eq_true (by kernel_rfl)) (by unfold Func.isWrapper; first | (rw [if_pos (by decide +kernel)]; kernel_rfl) | (rw [if_neg (by decide +kernel)]; exact ⟨rfl, rfl⟩))
    (fun os started H enc _ => back_lifted os started H enc)

end Pe
end Go.Proofs.Ytlceljcplmcjgaa
