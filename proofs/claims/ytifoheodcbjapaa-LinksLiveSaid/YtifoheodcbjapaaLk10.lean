/-
link: Get's walk.
-/
import Derived.Test.YtifoheodcbjapaaLk9
namespace Go.Proofs.Ytifoheodcbjapaa
open Go.RowKit
set_option linter.unusedSimpArgs false
set_option linter.unusedVariables false
namespace Lk
/-- What Get gives. -/
def EndL (L s : Nat) (W : World) (P : Except Int (LS × List Nat)) (e : Ending) (W' : World) : Prop :=
  match P with
  | .ok (S, q) => ∃ d, e = .returned (.pointer (some ⟨d, 0, none⟩)) ∧ Off s W W' ∧ LK W' W.heap.size d (fun b => W.heap.size ≤ b ∧ b < W'.heap.size) S ∧ RdB L W' s q
  | .error x => e = .panicked [{ v := flt s, recovered := false }] ∧ Met' W' s x ∧ Off s W W'
theorem textsP_succ {n : Nat} {acc : List (List Nat)} {bs : List Nat} : textsP (n + 1) acc bs = match textP1 bs with
    | .ok (x, t) => textsP n (acc ++ [x]) t
    | .error e => .error e := rfl
theorem nextP_left {bs t : List Nat} {n : Nat} (h : nextP bs = .ok (n, t)) : t.length ≤ bs.length := numP_left _ _ _ _ _ (nextP_ok h).1
theorem it_snoc (l : List It) (x : It) : (l ++ [x]).map It.bs = l.map It.bs ++ [x.bs] := by simp
theorem made_pos (W : World) {d n : Nat} (h1 : 1 ≤ n) (h : W.cell? ⟨d, 0, none⟩ = some (.int .u64 (n : Nat))) : Calls Try.prog 62 #[.pointer (some ⟨d, 0, none⟩)] W fun e W' => e = .returned (.bool true) ∧ W = W' := by
  have := made_of W h
  rw [decide_eq_true (show n ≠ 0 by omega)] at this
  exact this
theorem slc_of {W : World} {B n size : Nat} {e : TypeId} {v : Value} {xs : List Value} (h : W.ownsRow B e size v (n + 1) xs) : ∃ A c, v = .slice A (n + 1) c := by
  obtain ⟨_, ⟨rfl, h0⟩ | ⟨g, cap, cur, rfl, _⟩⟩ := h
  · omega
  · exact ⟨_, cap, rfl⟩
theorem GA.blk2 {L k s d nx n c : Nat} {W wr w2 : World} {t : List Nat} {A : Option Addr} {l : List It} (h : GA L W wr k s d nx n t A c l) (hg : wr.grownBy w2 (Value.ownBlock (.slice A l.length c))) : Blk w2 d 47 #[.int .u64 (nx : Nat), .slice A l.length c, .int .u64 0] := by
  refine (hg.block d h.dl.2 ?_).trans h.blk
  rintro e
  rcases h.row.2 with ⟨e1, _⟩ | ⟨g, cap, cur, e1, _, hgg, _⟩
  · simp only [Value.slice.injEq] at e1
    obtain ⟨rfl, _⟩ := e1
    simp [Value.ownBlock] at e
  · simp only [Value.slice.injEq] at e1
    obtain ⟨rfl, _⟩ := e1
    simp [Value.ownBlock] at e
    subst e
    have hb := h.blk
    unfold Blk at hb
    rw [hb] at hgg
    simp only [Option.some.injEq, Obj.cells.injEq] at hgg
    exact absurd hgg.2.1 (by decide)
set_option maxHeartbeats 8000000 in
set_option maxRecDepth 20000 in
theorem get_any {L k s : Nat} {W : World} {bs : List Nat} (hr : Rdr W k s) (h : RdB L W s bs) (hk : k < W.heap.size) (hL : L ≤ W.heap.size) (hlen : bs.length ≤ 140737488355328) (h256 : ∀ y ∈ bs, y < 256) :
    Calls Try.prog 76 #[.pointer (some ⟨k, 0, none⟩)] W fun e W' => EndL L s W (linkP bs) e W' := by
  have hs : s < W.heap.size := by obtain ⟨A, c, hR, _⟩ := h; exact World.block_lt_of_cell? W ⟨s, 0, none⟩ hR.1
  have HK := Lib.hid (And.intro hk (And.intro hs hL))
  have HR0 := Lib.hid hr
  have HB0 := Lib.hid h
  have HLEN := Lib.hid (And.intro hlen h256)
  obtain ⟨R, hR⟩ : ∃ R, R = linkP bs := ⟨_, rfl⟩
  rw [← hR]
  have hE := hR
  unfold linkP at hE
  clear hR hr h hk hs hL hlen h256
  have HD := Lib.hid (getnext_any k s bs W HR0.out HB0.out)
  go_enter Try.func76, Try.ntmps76
  cases hv : nextP bs with
  | error x =>
    rw [hv] at hE HD
    have HE2 := Lib.hid hE
    clear hE hv
    go_wp2_with (first | (go_at_call 84; refine HD.out.mono ?_; rintro e w9 ⟨hO, rfl, hM⟩; have HO := Lib.hid hO; have HM := Lib.hid hM; clear hM hO))
    exact ⟨rfl, by rw [HE2.out]; exact ⟨rfl, HM.out, HO.out⟩⟩
  | ok z =>
    obtain ⟨nx, q⟩ := z
    rw [hv] at hE HD
    dsimp only at hE
    have hnx := (nextP_ok hv).2
    have HNX := Lib.hid hnx
    have HQ := Lib.hid (And.intro (Nat.le_trans (nextP_left hv) HLEN.out.1) (numP_in HLEN.out.2 (nextP_ok hv).1))
    have HEH := Lib.hid hE
    clear hE hv hnx
    go_upto_region 2 with (first | (go_at_call 84; refine HD.out.mono ?_; rintro e w1 ⟨hO, rfl, hM⟩; have HO1 := Lib.hid hO; have HB1 := Lib.hid hM; have HR1 := Lib.hid (HR0.out.off hO); clear hM hO))
    clear HD
    obtain ⟨w2, hw2⟩ : ∃ w2, w2 = w1.alloc (.cells #[.int .u64 (nx : Nat), .slice none 0 0, .int .u64 0] 47) := ⟨_, rfl⟩
    have b2 : Blk w2 w1.heap.size 47 #[.int .u64 (nx : Nat), .slice none 0 0, .int .u64 0] := by rw [hw2]; exact Blk.new _ _ _
    have hb2 : Below w1.heap.size w1 w2 := by rw [hw2]; exact (Below.refl _ _).alloc (Nat.le_refl _) _
    have hz2 : w2.heap.size = w1.heap.size + 1 := by rw [hw2]; simp
    rw [← hw2]
    clear hw2
    obtain ⟨d, hd⟩ : ∃ d, d = w1.heap.size := ⟨_, rfl⟩
    rw [← hd] at b2 hz2 ⊢
    have H2 := Lib.hid (fun n => (show GA L W w2 k s d nx n q none 0 [] from ⟨HO1.out.trans (off_below hb2), HR1.out.off (off_below hb2), rdb_keep HB1.out (hb2.block s (Nat.lt_of_lt_of_le HK.out.2.1 HO1.out.size)) (fun b _ _ h2 => hb2.block b h2) hb2.size, ⟨by rw [hd]; exact HO1.out.size, by omega⟩, b2, World.ownsRow_nil _ _ _ _, fun x hx => (by cases hx), fun i x hx => (by simp at hx), HQ.out.1, HQ.out.2⟩))
    clear b2 hb2 hz2 HO1 HB1 HR1 HR0 HB0 hd
    have HD := Lib.hid (rsmall_any k s q 250 w2 (H2.out 0).rdr (H2.out 0).rdb (by omega))
    have hE := HEH.out
    clear HEH
    cases hv : smallP 250 q with
    | error x =>
      rw [hv] at hE HD
      have HE2 := Lib.hid hE
      clear hE hv
      go_wp2_with (first | (go_at_call 74; refine HD.out.mono ?_; rintro e w9 ⟨hO, rfl, hM⟩; have HO := Lib.hid ((H2.out 0).off.trans hO); have HM := Lib.hid hM; clear hM hO))
      exact ⟨rfl, by rw [HE2.out]; exact ⟨rfl, HM.out, HO.out⟩⟩
    | ok z =>
      obtain ⟨n, q2⟩ := z
      rw [hv] at hE HD
      dsimp only at hE
      have hn250 : n ≤ 250 := by have := (small_ok hv).2; omega
      have HN := Lib.hid hn250
      have HEH := Lib.hid hE
      have HQ2 := Lib.hid (And.intro (smallP_left hv) (numP_in HQ.out.2 (small_ok hv).1))
      have ewn : IntKind.u64.wrap (n : Int) = (n : Int) := by rw [IntKind.wrap_u64]; omega
      clear hE hv hn250
      go_upto_region 3 with (first | (go_at_call 74; refine HD.out.mono ?_; rintro e w3 ⟨hO, rfl, hM⟩; have H3 := Lib.hid ((H2.out n).off' HK.out.2.1 hO hM HQ2.out.1 HQ2.out.2); clear hM hO))
      clear HD H2 HQ HQ2 ewn
      have hE := HEH.out
      clear HEH
      have c0 := H3.out.blk.cell 0
      rw [List.getElem?_toArray] at c0
      by_cases hlt : n < nx
      · have hlt' : (n : Int) < (nx : Nat) := by omega
        rw [if_pos hlt] at hE
        unfold restP at hE
        have HE := Lib.hid hE
        have HLT := Lib.hid hlt
        clear hE hlt
        go_upto_region 5 with (first | (go_at_call 75; refine (rmust_yes k s q2 _ H3.out.rdr H3.out.rdb).mono ?_; rintro e w4 ⟨rfl, rfl⟩))
        clear hlt'
        obtain ⟨C, hC⟩ : ∃ C, C = textsP n [] q2 := ⟨_, rfl⟩
        rw [← hC] at HE
        clear c0
        go_loopw [22] (fun i wr => ∃ j : Nat, j ≤ n ∧ i = .int .u64 j ∧ ∃ t A c l, GA L W wr k s d nx n t A c l ∧ l.length = j ∧ Hid (C = textsP (n - j) (l.map It.bs) t)) (fun i _ => n - (intOf i).toNat)
        case atStart => exact ⟨0, Nat.zero_le _, rfl, q2, none, 0, [], H3.out, rfl, Lib.hid hC⟩
        case round =>
          clear H3 hC
          obtain ⟨j, hj, rfl, t, A, c, l, hG, hl, hC⟩ := hrel
          have HG := Lib.hid hG
          have HL := Lib.hid hl
          clear hG hl
          by_cases hlt : j < n
          · have hlt' : (j : Int) < (n : Nat) := by omega
            have hC2 := hC.out
            rw [show n - j = (n - (j + 1)) + 1 by omega, textsP_succ] at hC2
            have HC2 := Lib.hid hC2
            have HJ := Lib.hid hlt
            have c0 := HG.out.blk.cell 0
            have c1 := HG.out.blk.cell 1
            rw [List.getElem?_toArray] at c0 c1
            have e1 : IntKind.u64.wrap ((nx : Int) - (n : Int)) = ((nx - n : Nat) : Int) := by have := HLT.out; have := HNX.out; rw [IntKind.wrap_u64]; omega
            obtain ⟨Q, hQ⟩ : ∃ Q, Q = nx - n + j := ⟨_, rfl⟩
            have HQ := Lib.hid hQ
            have e2 : IntKind.u64.wrap (((nx - n : Nat) : Int) + (j : Int)) = (Q : Nat) := by have := HLT.out; have := HNX.out; have := HN.out; rw [IntKind.wrap_u64]; omega
            clear hC hC2 hlt hj hQ
            have h256d : wr.cell? ⟨d, 0, none⟩ = some (.int .u64 (nx : Nat)) ∧ wr.cell? ⟨d, 1, none⟩ = some (.slice A l.length c) := ⟨c0, c1⟩
            have HT := Lib.hid (gettext_any k s t wr.drew (HG.out.below HK.out.2.1 (Below.refl _ _).drew).rdr (HG.out.below HK.out.2.1 (Below.refl _ _).drew).rdb HG.out.tl)
            obtain ⟨i0, z0, hi, hz, hsz, hby, hzs⟩ := info_it
            cases hv : textP1 t with
            | error x =>
              rw [hv] at HT HC2
              have HE2 := Lib.hid (show R = .error x from by rw [HE.out, HC2.out])
              clear hv HC2
              go_upto_region 7 with fail
              (try simp only [Act.put, List.setIfInBounds_toArray, List.set_cons_zero, List.set_cons_succ])
              refine wp_region_tree (S := (fun w' => w'.cell? ⟨d, 0, none⟩ = some (.int .u64 (nx : Nat)) ∧ w'.cell? ⟨d, 1, none⟩ = some (.slice A l.length c))) (.take 0 (.take 1 (.take 2 (.take 3 (.take 4 (.take 5 (.take 6 (.take 7 (.take 8 (.take 9 (.take 10 (.take 11 (.take 12 (.take 13 (.one 14 (.take 15 (.one 16 (.one 17 (.take 18 (.take 19 (.one 20 .nil))))))))))))))))))))) 9999 (by kernel_rfl) (by kernel_rfl) (by kernel_rfl) (by kernel_rfl) (by kernel_rfl) (fun _ _ d _ _ h => by cases d <;> exact h) h256d (fun hHeld => ?_); simp only [Tree.map, List.getElem?_toArray, List.getElem?_cons_zero, List.getElem?_cons_succ]
              (repeat (first | (refine wpTree.take (v := undef) (Or.inr ⟨by rfl, rfl⟩) ?_; simp only [Act.put, List.setIfInBounds_toArray, List.set_cons_zero, List.set_cons_succ]) | (refine wpTree.take (v := ?_) (Or.inl ⟨by rfl, ?_⟩) ?_; rotate_left; (focus (intro _ hS; (try dsimp only at hS); go_split_ands; (try subst hS); go_simp; (try (with_reducible rfl)); done)); simp only [Act.put, List.setIfInBounds_toArray, List.set_cons_zero, List.set_cons_succ])))
              refine wpTree.one (fun K hK => ?_)
              go_simp
              go_at_call 85
              refine HT.out.mono ?_
              rintro e w9 ⟨hO, rfl, hM⟩
              have HO := Lib.hid (HG.out.off.trans ((off_below (Below.refl _ _).drew).trans hO))
              have HM := Lib.hid hM
              clear hM hO
              go_wp2_with fail
              exact ⟨rfl, by rw [HE2.out]; exact ⟨rfl, HM.out, HO.out⟩⟩
            | ok z =>
              obtain ⟨x, t2⟩ := z
              rw [hv] at HT HC2
              dsimp only at HC2
              have hx := textP1_ok hv
              have HX := Lib.hid (And.intro hx.2 (textP_in HG.out.tb hx.1))
              clear hv hx
              go_upto_region 7 with fail
              (try simp only [Act.put, List.setIfInBounds_toArray, List.set_cons_zero, List.set_cons_succ])
              refine wp_region_treeL (S := (fun w' => w'.cell? ⟨d, 0, none⟩ = some (.int .u64 (nx : Nat)) ∧ w'.cell? ⟨d, 1, none⟩ = some (.slice A l.length c))) (.take 0 (.take 1 (.take 2 (.take 3 (.take 4 (.take 5 (.take 6 (.take 7 (.take 8 (.take 9 (.take 10 (.take 11 (.take 12 (.take 13 (.one 14 (.take 15 (.one 16 (.one 17 (.take 18 (.take 19 (.last 20))))))))))))))))))))) 20 (by kernel_rfl) (by kernel_rfl) (by kernel_rfl) (by kernel_rfl) (by kernel_rfl) (fun _ _ d _ _ h => by cases d <;> exact h) h256d (fun hHeld => ?_); simp only [Tree.map, List.getElem?_toArray, List.getElem?_cons_zero, List.getElem?_cons_succ]
              (repeat (first | (refine wpTree.take (v := undef) (Or.inr ⟨by rfl, rfl⟩) ?_; simp only [Act.put, List.setIfInBounds_toArray, List.set_cons_zero, List.set_cons_succ]) | (refine wpTree.take (v := ?_) (Or.inl ⟨by rfl, ?_⟩) ?_; rotate_left; (focus (intro _ hS; (try dsimp only at hS); go_split_ands; (try subst hS); go_simp; (try (with_reducible rfl)); done)); simp only [Act.put, List.setIfInBounds_toArray, List.set_cons_zero, List.set_cons_succ])))
              refine wpTree.one (fun K hK => ?_)
              go_simp
              go_at_call 85
              refine HT.out.mono ?_
              rintro e w4 ⟨hO, ⟨v4, rfl, hown⟩, hB⟩
              obtain ⟨A4, k4, rfl⟩ := slice_of hown
              have H4 := Lib.hid ((HG.out.below HK.out.2.1 (Below.refl _ _).drew).off' HK.out.2.1 hO hB HX.out.1.2.2 HX.out.2.2)
              have HO4 := Lib.hid (own_le hown (B := W.heap.size) HG.out.off.size)
              have c0 := H4.out.blk.cell 0
              have c1 := H4.out.blk.cell 1
              rw [List.getElem?_toArray] at c0 c1
              refine hK.out _ _ ⟨c0, c1⟩ (fun _ => ?_)
              clear hK K hHeld h256d hO hown hB HT HG
              (try simp only [Act.put, List.setIfInBounds_toArray, List.set_cons_zero, List.set_cons_succ])
              (repeat (first | (refine wpTree.take (v := undef) (Or.inr ⟨by rfl, rfl⟩) ?_; simp only [Act.put, List.setIfInBounds_toArray, List.set_cons_zero, List.set_cons_succ]) | (refine wpTree.take (v := .agg #[.int .u64 (Q : Nat), .slice A4 x.length k4]) (Or.inl ⟨by rfl, fun _ _ => by go_simp; rfl⟩) ?_; simp only [Act.put, List.setIfInBounds_toArray, List.set_cons_zero, List.set_cons_succ]) | (refine wpTree.take (v := ?_) (Or.inl ⟨by rfl, ?_⟩) ?_; rotate_left; (focus (intro _ hS; (try dsimp only at hS); go_split_ands; (try subst hS); go_simp; (try (with_reducible rfl)); done)); simp only [Act.put, List.setIfInBounds_toArray, List.set_cons_zero, List.set_cons_succ])))
              refine wpTree.one (fun K hK => ?_)
              go_simp
              obtain ⟨w5, hw5⟩ : ∃ w5, w5 = w4.alloc (.cells #[.int .u64 (Q : Nat), .slice A4 x.length k4] 70) := ⟨_, rfl⟩
              have hb5 : Below w4.heap.size w4 w5 := by rw [hw5]; exact (Below.refl _ _).alloc (Nat.le_refl _) _
              have hn5 : Blk w5 w4.heap.size 70 (It.cells ⟨Q, A4, k4, x⟩).toArray := by rw [hw5]; exact Blk.new _ _ _
              have hz5 : w5.heap.size = w4.heap.size + 1 := by rw [hw5]; simp
              rw [← hw5]
              have H5 := Lib.hid (H4.out.below HK.out.2.1 hb5)
              have HIT := Lib.hid (new_at (w' := w5) (q := Q) HX.out.2.1 HX.out.1.1 HX.out.1.2.1 HO4.out (fun k hk _ => hb5.block k hk) hb5.size)
              clear hw5 c0 c1
              have c0 := H5.out.blk.cell 0
              have c1 := H5.out.blk.cell 1
              rw [List.getElem?_toArray] at c0 c1
              refine hK.out _ _ ⟨c0, c1⟩ (fun _ => ?_)
              clear hK K
              (try simp only [Act.put, List.setIfInBounds_toArray, List.set_cons_zero, List.set_cons_succ])
              refine wpTree.one (fun K hK => ?_)
              refine step_append_src w5 (by rfl) _ _ 45 rfl W.heap.size 70 i0 z0 2 32 Try.underlying45 hi hz hsz hby hzs (by decide) (.slice A l.length c) l.length (its l) rfl H5.out.row (some ⟨w4.heap.size, 0, none⟩) 1 1 (It.cells ⟨Q, A4, k4, x⟩) rfl rfl
                (Or.inl ⟨_, rfl, fun j u hj => by rw [add_plain, Nat.zero_add, hn5.cell, List.getElem?_toArray]; exact hj⟩) (it_ones _) (by unfold maxLen; have := HL.out; have := HJ.out; have := HN.out; omega) (by have := HL.out; have := HJ.out; have := HN.out; omega) (Nat.le_trans H5.out.off.size (Nat.le_refl _)) ?_
              intro v6 w6 hown hg
              obtain ⟨A6, k6, rfl⟩ := slc_of hown
              have hG7 := H5.out.put HK.out.1 HK.out.2.1 HK.out.2.2 (x := ⟨Q, A4, k4, x⟩) HIT.out (by have := HQ.out; have := HL.out; have := HLT.out; show Q + n = nx + l.length; omega) hg hown
              have HG7 := Lib.hid hG7
              have hb6 := H5.out.blk2 hg
              have c06 := hb6.cell 0
              have c16 := hb6.cell 1
              have z16 := hb6.frozen 1
              rw [List.getElem?_toArray] at c06 c16
              refine hK.out _ _ ⟨c06, c16⟩ (fun _ => ?_)
              clear hK K hG7 hg hown hb6 hn5 hb5 c0 c1
              (try simp only [Act.put, List.setIfInBounds_toArray, List.set_cons_zero, List.set_cons_succ])
              (repeat (first | (refine wpTree.take (v := undef) (Or.inr ⟨by rfl, rfl⟩) ?_; simp only [Act.put, List.setIfInBounds_toArray, List.set_cons_zero, List.set_cons_succ]) | (refine wpTree.take (v := ?_) (Or.inl ⟨by rfl, ?_⟩) ?_; rotate_left; (focus (intro _ hS; (try dsimp only at hS); go_split_ands; (try subst hS); go_simp; (try (with_reducible rfl)); done)); simp only [Act.put, List.setIfInBounds_toArray, List.set_cons_zero, List.set_cons_succ])))
              refine wpTree.last (fun K hK => ?_)
              go_simp
              have hfin : ∃ A c l', GA L W (w6.setCell ⟨d, 1, none⟩ (.slice A6 (l.length + 1) k6)) k s d nx n t2 A c l' ∧ l'.length = j + 1 ∧ Hid (C = textsP (n - (j + 1)) (l'.map It.bs) t2) := ⟨A6, k6, l ++ [⟨Q, A4, k4, x⟩], HG7.out, by rw [List.length_append, HL.out]; rfl, Lib.hid (by rw [it_snoc]; exact HC2.out)⟩
              have HF := Lib.hid hfin
              clear hfin HG7 HIT H5 H4 HC2
              refine hK.out _ _ ?_
              clear hK K
              (try simp only [Act.put, List.setIfInBounds_toArray, List.set_cons_zero, List.set_cons_succ])
              have hj1 : (j : Int) < 250 := by have := HJ.out; have := HN.out; omega
              go_wp2_with fail
              go_roundw
              case rel =>
                obtain ⟨A, c, l', h1, h2, h3⟩ := HF.out
                exact ⟨j + 1, by have := HJ.out; omega, by go_num, t2, A, c, l', h1, h2, h3⟩
              case measure => have := HJ.out; simp [intOf]; omega
          · obtain rfl : j = n := by omega
            have hlt' : ¬ (j : Int) < (j : Nat) := by omega
            have hC2 := hC.out
            rw [show j - j = 0 by omega] at hC2
            unfold textsP at hC2
            have hE := HE.out
            rw [hC2] at hE
            dsimp only at hE
            have HEH := Lib.hid hE
            have HD := Lib.hid (getnext_any k s t wr HG.out.rdr HG.out.rdb)
            clear hC hC2 hE HE hlt hj
            cases hv : nextP t with
            | error x =>
              have hE := HEH.out
              rw [hv] at hE HD
              have HE2 := Lib.hid hE
              clear hE hv HEH
              go_wp2_with (first | (go_at_call 84; refine HD.out.mono ?_; rintro e w9 ⟨hO, rfl, hM⟩; have HO := Lib.hid (HG.out.off.trans hO); have HM := Lib.hid hM; clear hM hO))
              exact ⟨rfl, by rw [HE2.out]; exact ⟨rfl, HM.out, HO.out⟩⟩
            | ok z =>
              obtain ⟨ex, q9⟩ := z
              have hE := HEH.out
              rw [hv] at hE HD
              dsimp only at hE
              have hex := (nextP_ok hv).2
              have HEX := Lib.hid (And.intro hex (And.intro (nextP_left hv) (numP_in HG.out.tb (nextP_ok hv).1)))
              have HE2 := Lib.hid hE
              clear hE hv HEH hex
              go_upto_region 9 with fail
              go_wp2_with (first | (go_at_call 84; refine HD.out.mono ?_; rintro e w9 ⟨hO, rfl, hM⟩; have H9 := Lib.hid (HG.out.off' HK.out.2.1 hO hM HEX.out.2.1 HEX.out.2.2); have z2 := H9.out.blk.frozen 2; have c2 := H9.out.blk.cell 2; clear hM hO) | (go_at_call 62; refine (made_pos _ (n := nx) HNX.out.1 ?_).mono ?_; rotate_left; rintro e w10 ⟨rfl, rfl⟩))
              · have hdone := H9.out.done HK.out.1 HK.out.2.1 HK.out.2.2 (ex := ex) (by rw [HL.out]) HN.out HLT.out HNX.out.2 HEX.out.1.1 HEX.out.1.2
                exact ⟨rfl, .pointer (some ⟨d, 0, none⟩), by simp [results, Try.results76, go_sem], by rw [HE2.out]; exact ⟨d, rfl, hdone.2.2, hdone.1, hdone.2.1⟩⟩
              · have := (H9.out.blk.setCell 2 (.int .u64 (ex : Nat))).cell 0
                exact this
      · have hlt' : ¬ (n : Int) < (nx : Nat) := by omega
        rw [if_neg hlt] at hE
        have HE2 := Lib.hid hE
        clear hE hlt
        go_wp2_with (first | (go_at_call 75; refine (rmust_not k s q2 _ H3.out.rdr H3.out.rdb).mono ?_; rintro e w9 ⟨rfl, hM, hO⟩; have HO := Lib.hid (H3.out.off.trans hO); have HM := Lib.hid hM; clear hM hO))
        exact ⟨rfl, by rw [HE2.out]; exact ⟨rfl, HM.out, HO.out⟩⟩
end Lk
end Go.Proofs.Ytifoheodcbjapaa
