/-
cuts: what Load reads: getCut.
-/
import Derived.Test.YtbnapbjmffajfaaCu18
namespace Go.Proofs.Ytbnapbjmffajfaa
open Go.RowKit
set_option linter.unusedSimpArgs false
set_option linter.unusedVariables false
/-- What a call gives that turns the table, with the bytes that are left. -/
def withB (q : List Nat) (P : Except Int (List Ct × Sd × Sd)) : Except Int (List Nat × List Ct × Sd × Sd) :=
  match P with
  | .ok (cs, a, b) => .ok (q, cs, a, b)
  | .error x => .error x
/-- A cut that is read; the home that did not win may have promised. -/
def cutT (own other : Int) (bs : List Nat) (cs : List Ct) (a b : Sd) : Except Int (List Nat × List Ct × Sd × Sd) :=
  match smallP 12 bs with
  | .error x => .error x
  | .ok (n, q) => match stanceP q with
    | .error x => .error x
    | .ok (x, q2) =>
      if (n : Int) = own then
        match propT own other cs a b x with
        | .error x => .error x
        | .ok (cs1, a1, b1) => if other = 0 then .ok (q2, cs1, a1, b1) else withB q2 (hearT own other cs1 a1 b1 ((cs1.length + 1 : Nat) : Int) St.zero)
      else if (n : Int) = other then withB q2 (hearT own other cs a b ((cs.length + 1 : Nat) : Int) x) else .error 3
theorem built_stz : Try.prog.built 39 [] = some St.zero.cells.toArray := by rw [st_zero]; kernel_rfl
theorem cutT_len {own other : Int} {bs : List Nat} {cs : List Ct} {a b : Sd} {q : List Nat} {cs' : List Ct} {a' b' : Sd} (h : cutT own other bs cs a b = .ok (q, cs', a', b')) : cs'.length ≤ 20 := by
  have hw : ∀ {q2 : List Nat} {r : Int} {c1 : List Ct} {a1 b1 : Sd} {x : St}, withB q2 (hearT own other c1 a1 b1 r x) = .ok (q, cs', a', b') → cs'.length ≤ 20 := by
    intro q2 r c1 a1 b1 x h
    cases hp : hearT own other c1 a1 b1 r x with
    | error y => rw [hp] at h; cases h
    | ok z =>
      obtain ⟨c3, a3, b3⟩ := z
      rw [hp] at h
      unfold withB at h
      injection h with h
      injection h with _ h
      injection h with h _
      subst h
      exact hearT_len hp
  unfold cutT at h
  cases hs : smallP 12 bs with
  | error x => rw [hs] at h; cases h
  | ok z =>
    obtain ⟨n, q1⟩ := z
    rw [hs] at h
    dsimp only at h
    cases ht : stanceP q1 with
    | error x => rw [ht] at h; cases h
    | ok z =>
      obtain ⟨x, q2⟩ := z
      rw [ht] at h
      dsimp only at h
      by_cases h1 : (n : Int) = own
      · rw [if_pos h1] at h
        cases hp : propT own other cs a b x with
        | error y => rw [hp] at h; cases h
        | ok z =>
          obtain ⟨c1, a1, b1⟩ := z
          rw [hp] at h
          dsimp only at h
          by_cases h0 : other = 0
          · rw [if_pos h0] at h
            injection h with h
            injection h with _ h
            injection h with h _
            subst h
            exact propT_len hp
          · rw [if_neg h0] at h
            exact hw h
      · rw [if_neg h1] at h
        by_cases h2 : (n : Int) = other
        · rw [if_pos h2] at h
          exact hw h
        · rw [if_neg h2] at h; cases h
/-- mustHear keeps a block that was laid when the table was. -/
theorem tr_hear_kept {L B k s t : Nat} {own other : Int} {W0 w3 w : World} {bs : List Nat} {cs : List Ct} {a b : Sd} (h : TR L B k s t own other W0 bs cs a b w3) (hb : Below w3.heap.size w3 w) (hg : w3.heap.size < w.heap.size) (ho : own ≠ 0) (hl : cs.length ≤ 100000) (hk : k < B) (hs : s < B) (hL : L ≤ B) (r : Int) (x : St) :
    Calls Try.prog 51 #[.pointer (some ⟨t, 0, none⟩), .pointer (some ⟨k, 0, none⟩), .int .i64 r, .agg x.cells.toArray] w fun e W' => EndD L B k s t own other W0 bs (hearT own other cs a b r x) e W' ∧ (e = .returned (.tuple #[]) → W'.heap[w3.heap.size]? = w.heap[w3.heap.size]?) := by
  have hh := h.below hb
  have hz := hh.size
  have h1 := h
  obtain ⟨F, v, T, o, rr, d⟩ := h1
  have o2 : OffB B s W0 w := o.trans (OffB.ofBelow (hb.mono h.size))
  refine (musthear_any w (T.next hb) ho hl r x (rr.below hb) (d.below hb) hk hs hL).mono ?_
  intro e W' hM
  unfold EndD hearT
  by_cases h0 : hearE other cs b r x = 0
  · rw [if_pos h0]
    rcases hM with ⟨-, h1, h2, h3, h4⟩ | ⟨h1, -⟩
    · exact ⟨⟨h1, tr_dec hz o2 h2 h3 h4⟩, fun _ => by obtain ⟨v', T', tn⟩ := h2; exact tn.2 _ hg (fun hF => by have := (T.low _ hF).2; omega)⟩
    · rw [decide_eq_true h0] at h1; cases h1
  · rw [if_neg h0]
    rcases hM with ⟨h1, -⟩ | ⟨-, h1, h2, h3⟩
    · rw [decide_eq_false h0] at h1; cases h1
    · exact ⟨⟨h1, h2, hh.badB h3⟩, fun he => by rw [h1] at he; cases he⟩
set_option maxHeartbeats 8000000 in
set_option maxRecDepth 20000 in
theorem getcut_any {L B k s t : Nat} {own other : Int} {W0 W : World} {bs : List Nat} {cs : List Ct} {a b : Sd} (h : TR L B k s t own other W0 bs cs a b W) (ho : own ≠ 0) (hl : cs.length ≤ 20) (hk : k < B) (hs : s < B) (hL : L ≤ B) :
    Calls Try.prog 42 #[.pointer (some ⟨t, 0, none⟩), .pointer (some ⟨k, 0, none⟩)] W fun e W' => EndR L B k s t own other W0 (cutT own other bs cs a b) e W' := by
  have HS := Lib.hid h
  obtain ⟨R, hR⟩ : ∃ R, R = cutT own other bs cs a b := ⟨_, rfl⟩
  rw [← hR]
  have HE := Lib.hid hR
  have HN := Lib.hid (fun w q (h : TR L B k s t own other W0 q cs a b w) => tr_next h (by omega))
  have HSM := Lib.hid (tr_small h hs 12 (by omega))
  have HST := Lib.hid (fun w q (h : TR L B k s t own other W0 q cs a b w) => tr_stance h hs hL)
  have HPR := Lib.hid (fun w q (h : TR L B k s t own other W0 q cs a b w) x => tr_propose h ho (by omega) hk hs hL x)
  have HHE := Lib.hid (fun w q cs a b (hl : cs.length ≤ 20) (h : TR L B k s t own other W0 q cs a b w) r x => tr_hear h ho (by omega) hk hs hL r x)
  have HL := Lib.hid hl
  have HKE := Lib.hid (fun w3 q w (h : TR L B k s t own other W0 q cs a b w3) hb hg r x => tr_hear_kept (w := w) h hb hg ho (by omega) hk hs hL r x)
  clear h hR ho hl hk hs hL
  have hE := HE.out
  unfold cutT at hE
  go_enter Try.func42, Try.ntmps42
  cases hv : smallP 12 bs with
  | error x =>
    rw [hv] at hE HSM
    have HE2 := Lib.hid hE
    clear hE hv
    go_wp2_with (first | (go_at_call 40; refine HSM.out.mono ?_; rintro e w9 ⟨rfl, hM⟩; have HM := Lib.hid hM; clear hM))
    exact ⟨rfl, by rw [HE2.out]; exact ⟨rfl, HM.out⟩⟩
  | ok z =>
    obtain ⟨n, q⟩ := z
    rw [hv] at hE HSM
    dsimp only at hE
    have HEH := Lib.hid hE
    clear hE hv HE
    go_upto_region 1 with (first | (go_at_call 40; refine HSM.out.mono ?_; rintro e w2 ⟨rfl, h2⟩; have H2 := Lib.hid h2; clear h2))
    have HD := Lib.hid (HST.out _ _ H2.out)
    have hE := HEH.out
    cases hv : stanceP q with
    | error x =>
      rw [hv] at hE HD
      have HE2 := Lib.hid hE
      clear hE hv HEH
      go_wp2_with (first | (go_at_call 50; refine HD.out.mono ?_; rintro e w9 ⟨rfl, hM⟩; have HM := Lib.hid hM; clear hM))
      exact ⟨rfl, by rw [HE2.out]; exact ⟨rfl, HM.out⟩⟩
    | ok z =>
      obtain ⟨x, q2⟩ := z
      rw [hv] at hE HD
      dsimp only at hE
      have HEH := Lib.hid hE
      clear hE hv
      go_upto_region 2 with (first | (go_at_call 50; refine HD.out.mono ?_; rintro e w3 ⟨rfl, h3⟩; have H3 := Lib.hid h3; clear h3) | (refine wpList_store_blk rfl 39 _ _ rfl w3.heap.size 39 #[.bool false, .int .u64 0, .int .u32 0, .int .u32 0, .int .u32 0, .int .u32 0, .int .u32 0, .int .u32 0, .int .u32 0, .int .u32 0, .int .u32 0, .int .u32 0, .int .u32 0, .int .u32 0] x.cells.toArray rfl rfl (Blk.new w3 _ _) (stinfoA _) (st_siz _) (st_one _) ?_; intro b5; clear b5))
      rw [Wr.alloc_setRow]
      have H4 := Lib.hid (H3.out.below (below_box w3 39 x.cells.toArray))
      obtain ⟨r4, -, -, -⟩ := st_all (Blk.new w3 39 x.cells.toArray)
      obtain ⟨c0, c1⟩ := H4.out.cells
      have HKP := Lib.hid (fun r => HKE.out w3 _ ((w3.alloc (.cells x.cells.toArray 39)).drew) H3.out (below_box w3 _ _).drew (by show w3.heap.size < (w3.alloc (.cells x.cells.toArray 39)).heap.size; simp) r x)
      obtain ⟨g, hg⟩ : ∃ g, g = w3.heap.size := ⟨_, rfl⟩
      obtain ⟨w4, hw4⟩ : ∃ w4, w4 = w3.alloc (.cells x.cells.toArray 39) := ⟨_, rfl⟩
      rw [← hw4] at H4 HKP c0 c1 r4 ⊢
      rw [← hg] at HKP r4 ⊢
      clear hw4 hg HD
      obtain ⟨m, hm⟩ : ∃ m : Int, m = (n : Int) := ⟨_, rfl⟩
      rw [← hm] at HEH ⊢
      clear hm
      by_cases h1 : m = own
      · have hE := HEH.out
        rw [if_pos h1] at hE
        have t1 : (m != own) = false := by simp [h1]
        have HP := Lib.hid (HPR.out _ _ H4.out x)
        have HNX := HN
        clear HEH h1 c1
        cases hp : propT own other cs a b x with
        | error y =>
          rw [hp] at hE HP
          have HE2 := Lib.hid hE
          clear hE hp
          go_wp2_with (first | (refine wpList_load_mid rfl 39 _ rfl _ _ rfl x.cells _ r4 Try.underlying39 rfl (stinfo x) ?_) | (go_at_call 52; refine HP.out.mono ?_; rintro e w9 ⟨rfl, hM⟩; have HM := Lib.hid hM; clear hM))
          exact ⟨rfl, by rw [HE2.out]; exact ⟨rfl, HM.out⟩⟩
        | ok z1 =>
          obtain ⟨cs1, a1, b1⟩ := z1
          have HL1 := Lib.hid (propT_len hp)
          rw [hp] at hE HP
          dsimp only at hE
          clear hp
          have HEH := Lib.hid hE
          clear hE
          go_upto_region 6 with (first | (refine wpList_load_mid rfl 39 _ rfl _ _ rfl x.cells _ r4 Try.underlying39 rfl (stinfo x) ?_) | (go_at_call 52; refine HP.out.mono ?_; rintro e w5 ⟨rfl, h5⟩; have H5 := Lib.hid h5; clear h5))
          clear r4 c0
          obtain ⟨-, c1⟩ := H5.out.cells
          by_cases h0 : other = 0
          · have hE := HEH.out
            rw [if_pos h0] at hE
            have HE2 := Lib.hid hE
            have t2 : (other != 0) = false := by simp [h0]
            clear hE HEH h0
            go_wp2_with fail
            exact ⟨rfl, .tuple #[], by simp [results, Try.results42, go_sem], by rw [HE2.out]; exact ⟨rfl, H5.out⟩⟩
          · have hE := HEH.out
            rw [if_neg h0] at hE
            have t2 : (other != 0) = true := by simp [h0]
            clear HEH h0
            have bs3 := built_stz
            have HX := Lib.hid (tr_next H5.out (by have := HL1.out; omega))
            obtain ⟨z, hz⟩ : ∃ z : Int, z = ((cs1.length + 1 : Nat) : Int) := ⟨_, rfl⟩
            rw [← hz] at hE HX
            clear hz
            have HH := Lib.hid (HHE.out _ _ _ _ _ HL1.out H5.out z St.zero)
            cases hp2 : hearT own other cs1 a1 b1 z St.zero with
            | error y =>
              rw [hp2] at hE HH
              have HE2 := Lib.hid hE
              clear hE hp2
              go_wp2_with (first | (refine wpList_build_lit St.zero.cells.toArray rfl 39 _ rfl bs3 ?_) | (go_at_call 22; refine HX.out.mono ?_; rintro e w9 ⟨rfl, rfl⟩) | (go_at_call 51; refine HH.out.mono ?_; rintro e w9 ⟨rfl, hM⟩; have HM := Lib.hid hM; clear hM))
              exact ⟨rfl, by rw [HE2.out]; exact ⟨rfl, HM.out⟩⟩
            | ok z3 =>
              obtain ⟨cs3, a3, b3⟩ := z3
              rw [hp2] at hE HH
              have HE2 := Lib.hid hE
              clear hE hp2
              go_wp2_with (first | (refine wpList_build_lit St.zero.cells.toArray rfl 39 _ rfl bs3 ?_) | (go_at_call 22; refine HX.out.mono ?_; rintro e w9 ⟨rfl, rfl⟩) | (go_at_call 51; refine HH.out.mono ?_; rintro e w9 ⟨rfl, hM⟩; have HM := Lib.hid hM; clear hM))
              exact ⟨rfl, .tuple #[], by simp [results, Try.results42, go_sem], by rw [HE2.out]; exact ⟨rfl, HM.out⟩⟩
      · have hE := HEH.out
        rw [if_neg h1] at hE
        have t1 : (m != own) = true := by simp [h1]
        clear HEH h1
        by_cases h2 : m = other
        · rw [if_pos h2] at hE
          have t2 : (m == other) = true := by simp [h2]
          clear h2
          have HX := Lib.hid (fun w (h : TR L B k s t own other W0 q2 cs a b w) => HN.out w _ h)
          obtain ⟨z, hz⟩ : ∃ z : Int, z = ((cs.length + 1 : Nat) : Int) := ⟨_, rfl⟩
          rw [← hz] at hE HX
          clear hz
          have HH := Lib.hid (fun w (h : TR L B k s t own other W0 q2 cs a b w) => HHE.out w _ _ _ _ HL.out h z x)
          have HEH := Lib.hid hE
          clear hE
          go_upto_region 4 with (first | (go_at_call 41; refine (tr_yes H4.out).mono ?_; rintro e w9 ⟨rfl, rfl⟩))
          have H4d := Lib.hid (H4.out.below (Below.refl _ _).drew)
          clear c0 c1
          refine wp_region_tree (S := (fun w' => w'.rangeAt g 0 x.cells)) (.take 0 (.take 1 (.take 2 (.take 4 (.one 3 (.one 5 .nil)))))) 9999 (by kernel_rfl) (by kernel_rfl) (by kernel_rfl) (by kernel_rfl) (by kernel_rfl) (fun _ _ d _ _ h => by cases d <;> exact h) r4 (fun hHeld => ?_); simp only [Tree.map, List.getElem?_toArray, List.getElem?_cons_zero, List.getElem?_cons_succ]
          (repeat (first | (refine wpTree.take (v := undef) (Or.inr ⟨by rfl, rfl⟩) ?_; simp only [Act.put, List.setIfInBounds_toArray, List.set_cons_zero, List.set_cons_succ]) | (refine wpTree.take (v := .agg x.cells.toArray) (yieldsIf_load_mid rfl 39 _ rfl _ _ rfl x.cells _ (fun _ hS => hS) Try.underlying39 rfl (stinfo _)) ?_; simp only [Act.put, List.setIfInBounds_toArray, List.set_cons_zero, List.set_cons_succ]) | (refine wpTree.take (v := ?_) (Or.inl ⟨by rfl, ?_⟩) ?_; rotate_left; (focus (intro _ hS; (try dsimp only at hS); go_split_ands; (try subst hS); go_simp; (try (with_reducible rfl)); done)); simp only [Act.put, List.setIfInBounds_toArray, List.set_cons_zero, List.set_cons_succ])))
          refine wpTree.one (fun K hK => ?_)
          go_simp
          go_at_call 22
          refine (HX.out _ H4d.out).mono ?_
          rintro e w9 ⟨rfl, rfl⟩
          refine hK.out _ _ hHeld (fun _ => ?_)
          clear hK K
          (try simp only [Act.put, List.setIfInBounds_toArray, List.set_cons_zero, List.set_cons_succ])
          have hE := HEH.out
          clear HEH
          cases hp2 : hearT own other cs a b z x with
          | error y =>
            rw [hp2] at hE
            have HE2 := Lib.hid hE
            have HH2 := Lib.hid (HKP.out z)
            rw [hp2] at HH2
            clear hE hp2 HH
            refine wpTree.one (fun K hK => ?_)
            go_simp
            go_at_call 51
            refine HH2.out.mono ?_
            rintro e w9 ⟨⟨rfl, hM⟩, -⟩
            have HM := Lib.hid hM
            clear hM
            go_wp2_with fail
            exact ⟨rfl, by rw [HE2.out]; exact ⟨rfl, HM.out⟩⟩
          | ok z3 =>
            obtain ⟨cs3, a3, b3⟩ := z3
            rw [hp2] at hE
            have HE2 := Lib.hid hE
            have HH2 := Lib.hid (HKP.out z)
            rw [hp2] at HH2
            clear hE hp2 HH
            refine wpTree.one (fun K hK => ?_)
            go_simp
            go_at_call 51
            refine HH2.out.mono ?_
            rintro e w9 ⟨⟨rfl, hM⟩, hkk⟩
            have HM := Lib.hid hM
            clear hM
            refine hK.out _ _ (fun j u hj => (World.cell?_of_block (hkk rfl)).trans (hHeld j u hj)) (fun _ => ?_)
            clear hK K hkk hHeld r4
            (try simp only [Act.put, List.setIfInBounds_toArray, List.set_cons_zero, List.set_cons_succ])
            refine wpTree.done ?_
            go_wp2_with fail
            exact ⟨rfl, .tuple #[], by simp [results, Try.results42, go_sem], by rw [HE2.out]; exact ⟨rfl, HM.out⟩⟩
        · rw [if_neg h2] at hE
          have t2 : (m == other) = false := by simp [h2]
          have HE2 := Lib.hid hE
          clear h2 hE
          go_wp2_with (first | (go_at_call 41; refine (tr_not H4.out).mono ?_; rintro e w9 ⟨rfl, hM⟩; have HM := Lib.hid hM; clear hM))
          exact ⟨rfl, by rw [HE2.out]; exact ⟨rfl, HM.out⟩⟩
end Go.Proofs.Ytbnapbjmffajfaa
