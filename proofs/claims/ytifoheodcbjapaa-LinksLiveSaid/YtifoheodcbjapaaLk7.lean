/-
link: Put.
-/
import Derived.Test.YtifoheodcbjapaaLk6
namespace Go.Proofs.Ytifoheodcbjapaa
open Go.RowKit
set_option linter.unusedSimpArgs false
set_option linter.unusedVariables false
namespace Lk
/-- A link's bytes. -/
def encTs (ts : List (List Nat)) : List Nat := ts.flatMap fun b => enc b.length ++ b
def encL (s : LS) : List Nat := enc s.nx ++ enc s.ts.length ++ encTs s.ts ++ enc s.ex
theorem encTs_take {ts : List (List Nat)} {k : Nat} {b : List Nat} (h : ts[k]? = some b) : encTs (ts.take (k + 1)) = encTs (ts.take k) ++ (enc b.length ++ b) := by
  unfold encTs
  rw [List.take_add_one, h, List.flatMap_append]
  simp
theorem encTs_len {ts : List (List Nat)} (h : ∀ b ∈ ts, b.length ≤ 1800) : (encTs ts).length ≤ ts.length * 1810 := by
  induction ts with
  | nil => simp [encTs]
  | cons b ts ih =>
    have h1 := ih fun x hx => h x (by simp [hx])
    have h2 := h b (by simp)
    have h3 := enc_len b.length (by omega)
    simp only [encTs, List.flatMap_cons, List.length_append, List.length_cons] at h1 ⊢
    omega
/-- A writer's blocks are not a link's. -/
def Ap (W : World) (g : Nat) (F : Nat → Prop) : Prop := ∀ k, F k → k ≠ g ∧ some k ≠ rowOf W g
section
variable {W W' : World} {Bw B g d o c : Nat} {t : TypeId} {cs : Array Value} {F : Nat → Prop} {A : Option Addr} {l : List It} {s : LS}
theorem LnkO.wrote (D : LnkO W B d o t cs F A c l s) (hap : Ap W g F) (hO : Wrote Bw g W W') : LnkO W' B d o t cs F A c l s :=
  D.keep (fun k hF => hO.2.1 k (D.low k hF).2 (hap k hF).1 (hap k hF).2) hO.1.size
theorem Ap.wrote (D : LnkO W B d o t cs F A c l s) (hap : Ap W g F) (hO : Wrote Bw g W W') : Ap W' g F := fun k hF =>
  ⟨(hap k hF).1, fun e => by
    rcases hO.2.2 k e.symm with h | h
    · exact (hap k hF).2 h.symm
    · have := (D.low k hF).2; omega⟩
/-- A link is written. -/
structure PA (W wr : World) (Bw B g d o c : Nat) (t : TypeId) (cs : Array Value) (F : Nat → Prop) (A : Option Addr) (l : List It) (s : LS) (ws : List Nat) : Prop where
  wtr : Wtr wr Bw g ws
  ow : Wrote Bw g W wr
  lnk : LnkO wr B d o t cs F A c l s
  ap : Ap wr g F
theorem PA.step {W wr w' : World} {ws ws' : List Nat} (h : PA W wr Bw B g d o c t cs F A l s ws) (hO : Wrote Bw g wr w') (hW : Wtr w' Bw g ws') : PA W w' Bw B g d o c t cs F A l s ws' :=
  ⟨hW, h.ow.trans hO, h.lnk.wrote h.ap hO, h.ap.wrote h.lnk hO⟩
theorem PA.below {W wr w' : World} {ws : List Nat} (h : PA W wr Bw B g d o c t cs F A l s ws) (hb : Below wr.heap.size wr w') : PA W w' Bw B g d o c t cs F A l s ws :=
  h.step (Wrote.ofBelow hb (Nat.le_trans h.wtr.1 (Nat.le_of_lt h.wtr.lt)) h.wtr.lt) (h.wtr.next hb)
end
theorem LnkO.item {W : World} {B d o' c : Nat} {t : TypeId} {cs : Array Value} {F : Nat → Prop} {A : Option Addr} {l : List It} {s : LS} (D : LnkO W B d o' t cs F A c l s) {k : Nat} {x : It} (hx : l[k]? = some x) : ∃ g o, A = some ⟨g, o, none⟩ ∧ W.rangeAt g (o + k * 2) x.cells := by
  rcases D.row with ⟨_, h0⟩ | ⟨g, o, cs, z, hA, _, _, hc⟩
  · rw [h0] at hx; simp at hx
  · exact ⟨g, o, hA, fun j v hj => by rw [show o + k * 2 + j = o + 2 * k + j by omega]; exact hc k x hx j v hj⟩
theorem it_tmp {l : List It} {ts : List (List Nat)} {k : Nat} {x : It} (h : l.map It.bs = ts) (hx : l[k]? = some x) : ts[k]? = some x.bs := by rw [← h, List.getElem?_map, hx]; rfl
section
variable (W : World) {B d : Nat} {F : Nat → Prop} {s : LS}
set_option maxRecDepth 20000 in
theorem put_none {d : Option Addr} (HM : Calls Try.prog 62 #[.pointer d] W fun e W' => e = .returned (.bool false) ∧ W = W') (v : Value) : Calls Try.prog 70 #[.pointer d, v] W fun e W' => e = .returned (.tuple #[]) ∧ W = W' := by
  have HM2 := Lib.hid HM
  clear HM
  go_enter Try.func70, Try.ntmps70
  go_wp2_with (go_at_call 62; refine HM2.out.mono ?_; rintro e w1 ⟨rfl, rfl⟩)
  exact ⟨rfl, .tuple #[], by simp [results, Try.results70, go_sem], rfl, rfl⟩
set_option maxHeartbeats 4000000 in
set_option maxRecDepth 20000 in
theorem put_o {o c : Nat} {t : TypeId} {cs : Array Value} {A : Option Addr} {l : List It} (D : LnkO W B d o t cs F A c l s) {Bw g : Nat} {ws : List Nat} (hw : Wtr W Bw g ws) (hap : Ap W g F) (hlen : ws.length ≤ 1000000000) : Calls Try.prog 70 #[.pointer (some ⟨d, o, none⟩), .pointer (some ⟨g, 0, none⟩)] W fun e W' =>
    e = .returned (.tuple #[]) ∧ Wtr W' Bw g (ws ++ encL s) ∧ Wrote Bw g W W' := by
  have HM := Lib.hid (by have h := made_o W D.c0; rw [decide_eq_true (show s.nx ≠ 0 by have := D.n1; omega)] at h; exact h)
  have hP : PA W W Bw B g d o c t cs F A l s ws := ⟨hw, Wrote.refl _ _ _, D, hap⟩
  have HP := Lib.hid hP
  have c0 := D.c0
  have c1 := D.c1
  have HN1 := Lib.hid (fun w hw => wnum_any Bw g s.nx ws w hw (by have := D.big; omega) (by omega))
  have hl1 := enc_len s.nx (by have := D.big; omega)
  have HN2 := Lib.hid (fun w hw => wnum_any Bw g l.length (ws ++ enc s.nx) w hw (by have := D.len; omega) (by rw [List.length_append]; omega))
  have HD := Lib.hid D
  have HL1 := Lib.hid hl1
  have HLEN := Lib.hid hlen
  have ew : IntKind.u64.wrap (l.length : Int) = (l.length : Nat) := by have := D.len; rw [IntKind.wrap_u64]; omega
  clear hP D hw hap hl1 hlen
  go_enter Try.func70, Try.ntmps70
  go_upto_region 1 with (go_at_call 62; refine HM.out.mono ?_; rintro e w1 ⟨rfl, rfl⟩)
  (try simp only [Act.put, List.setIfInBounds_toArray, List.set_cons_zero, List.set_cons_succ])
  refine wp_region_tree (S := (fun w' => w'.cell? ⟨d, o, none⟩ = some (.int .u64 (s.nx : Nat)) ∧ w'.cell? ⟨d, o + 1, none⟩ = some (.slice A l.length c))) (.take 0 (.take 1 (.take 2 (.take 3 (.take 4 (.take 6 (.take 7 (.take 8 (.take 9 (.take 10 (.take 11 (.one 5 (.one 12 .nil))))))))))))) 9999 (by kernel_rfl) (by kernel_rfl) (by kernel_rfl) (by kernel_rfl) (by kernel_rfl) (fun _ _ d _ _ h => by cases d <;> exact h) ⟨c0, c1⟩ (fun hHeld => ?_); simp only [Tree.map, List.getElem?_toArray, List.getElem?_cons_zero, List.getElem?_cons_succ]
  (repeat (first | (refine wpTree.take (v := undef) (Or.inr ⟨by rfl, rfl⟩) ?_; simp only [Act.put, List.setIfInBounds_toArray, List.set_cons_zero, List.set_cons_succ]) | (refine wpTree.take (v := ?_) (Or.inl ⟨by rfl, ?_⟩) ?_; rotate_left; (focus (intro _ hS; (try dsimp only at hS); go_split_ands; (try subst hS); go_simp; (try (with_reducible rfl)); done)); simp only [Act.put, List.setIfInBounds_toArray, List.set_cons_zero, List.set_cons_succ])))
  clear ew
  refine wpTree.one (fun K hK => ?_)
  go_simp
  go_at_call 69
  refine (HN1.out W.drew (HP.out.below (Below.refl _ _).drew).wtr).mono ?_
  rintro e w2 ⟨rfl, hW2, hO2⟩
  have HP2 := Lib.hid ((HP.out.below (Below.refl _ _).drew).step hO2 hW2)
  refine hK.out _ _ ⟨HP2.out.lnk.c0, HP2.out.lnk.c1⟩ (fun _ => ?_)
  clear hK K hHeld hW2 hO2
  (try simp only [Act.put, List.setIfInBounds_toArray, List.set_cons_zero, List.set_cons_succ])
  refine wpTree.one (fun K hK => ?_)
  go_simp
  go_at_call 69
  refine (HN2.out w2 HP2.out.wtr).mono ?_
  rintro e w3 ⟨rfl, hW3, hO3⟩
  have HP3 := Lib.hid (HP2.out.step hO3 hW3)
  refine hK.out _ _ ⟨HP3.out.lnk.c0, HP3.out.lnk.c1⟩ (fun _ => ?_)
  clear hK K hW3 hO3
  (try simp only [Act.put, List.setIfInBounds_toArray, List.set_cons_zero, List.set_cons_succ])
  refine wpTree.done ?_
  have c1 := HP3.out.lnk.c1
  clear c0 HN1 HN2 HP HP2 HM
  go_wp2_with fail
  obtain ⟨pre, hpre⟩ : ∃ pre, pre = ws ++ enc s.nx ++ enc l.length := ⟨_, rfl⟩
  rw [← hpre] at HP3
  have HPRE := Lib.hid hpre
  have hpl : pre.length ≤ 1000000020 := by
    have := enc_len l.length (by have := HD.out.len; omega)
    have := HL1.out; have := HLEN.out
    rw [hpre, List.length_append, List.length_append]; omega
  have HPL := Lib.hid hpl
  clear hpre hpl
  have hN : l.length ≤ 250 := HD.out.len
  go_loopw [27] (fun i wr => ∃ k : Nat, k ≤ l.length ∧ i = .int .i64 k ∧ PA W wr Bw B g d o c t cs F A l s (pre ++ encTs (s.ts.take k))) (fun i _ => l.length - (intOf i).toNat)
  case atStart => exact ⟨0, Nat.zero_le _, rfl, by rw [List.take_zero, show encTs [] = [] from rfl, List.append_nil]; exact HP3.out⟩
  case round =>
    clear HP3 c1
    obtain ⟨k, hk, rfl, hQ⟩ := hrel
    have HQ := Lib.hid hQ
    clear hQ
    by_cases hlt : k < l.length
    · have hlt' : (k : Int) < (l.length : Nat) := by omega
      have h0' : (0 : Int) ≤ (k : Nat) := by omega
      obtain ⟨x, hx⟩ : ∃ x, l[k]? = some x := ⟨_, List.getElem?_eq_getElem hlt⟩
      obtain ⟨rg, ro, rfl, hr⟩ := HQ.out.lnk.item hx
      have HX := Lib.hid hx
      have hat := HD.out.at_ x (List.mem_of_getElem? hx)
      have HAT := Lib.hid hat
      clear hx hlt hat
      go_upto_region 5 with (first | (refine wpList_load_mid rfl 70 _ rfl _ _ rfl x.cells _ hr Try.underlying70 rfl (itinfo x) ?_) | (refine wpList_store_blk rfl 70 _ _ rfl wr.heap.size 70 #[.int .u64 0, .slice none 0 0] x.cells.toArray rfl rfl (Blk.new' rfl) (itinfoA x) (it_siz x) (it_one x) ?_; intro _; rw [Wr.alloc_setRow]))
      obtain ⟨w2, hw2⟩ : ∃ w2, w2 = wr.alloc (.cells x.cells.toArray 70) := ⟨_, rfl⟩
      have b2 : Blk w2 wr.heap.size 70 x.cells.toArray := by rw [hw2]; exact Blk.new _ _ _
      have hb2 : Below wr.heap.size wr w2 := by rw [hw2]; exact (Below.refl _ _).alloc (Nat.le_refl _) _
      rw [← hw2]
      have c21 : w2.cell? ⟨wr.heap.size, 1, none⟩ = some (.slice x.A x.bs.length x.c) := b2.cell 1
      have hQ2 := HQ.out.below hb2
      have htk := encTs_len (ts := s.ts.take k) (fun b hb => by
        have hb := List.mem_of_mem_take hb
        rw [← HD.out.ts] at hb
        obtain ⟨y, hy, rfl⟩ := List.mem_map.1 hb
        exact (HD.out.at_ y hy).2.2.1)
      have htl := HD.out.tl
      have HTX := Lib.hid (wtext_any Bw g x.bs.length x.c x.A (pre ++ encTs (s.ts.take k)) x.bs w2 hQ2.wtr rfl (by rw [List.length_append]; have := HPL.out; have := HAT.out.2.2.1; rw [List.length_take] at htk; omega)
        (fun w' hO => ((hQ2.lnk.wrote hQ2.ap hO).at_ x (List.mem_of_getElem? HX.out)).src))
      have HQ2 := Lib.hid hQ2
      clear hw2 b2 hb2 hr hQ2 htk htl
      go_wp2_with (go_at_call 80; refine HTX.out.mono ?_; rintro e w3 ⟨rfl, hW3, hO3⟩; have HQ3 := Lib.hid (HQ2.out.step hO3 hW3); clear hW3 hO3 HTX c21)
      go_roundw
      case rel => exact ⟨k + 1, by omega, by go_num, by rw [encTs_take (it_tmp HD.out.ts HX.out), ← List.append_assoc, ← List.append_assoc]; exact HQ3.out⟩
      case measure => simp [intOf]; omega
    · obtain rfl : k = l.length := by omega
      have hlt' : ¬ (l.length : Int) < (l.length : Nat) := by omega
      have c2 := HQ.out.lnk.c2
      have htk := encTs_len (ts := s.ts.take l.length) (fun b hb => by
        have hb := List.mem_of_mem_take hb
        rw [← HD.out.ts] at hb
        obtain ⟨y, hy, rfl⟩ := List.mem_map.1 hb
        exact (HD.out.at_ y hy).2.2.1)
      have htl := HD.out.tl
      have HN3 := Lib.hid (wnum_any Bw g s.ex (pre ++ encTs (s.ts.take l.length)) wr HQ.out.wtr (by have := HD.out.e2; omega) (by rw [List.length_append]; have := HPL.out; rw [List.length_take] at htk; omega))
      clear hk hlt htk htl
      go_wp2_with (go_at_call 69; refine HN3.out.mono ?_; rintro e w3 ⟨rfl, hW3, hO3⟩; have HQ3 := Lib.hid (HQ.out.step hO3 hW3); clear hW3 hO3)
      refine ⟨rfl, .tuple #[], by simp [results, Try.results70, go_sem], rfl, ?_, HQ3.out.ow⟩
      have := HQ3.out.wtr
      rw [List.take_of_length_le (by rw [HD.out.tl]; exact Nat.le_refl _), HPRE.out] at this
      unfold encL
      rw [HD.out.tl]
      simpa [List.append_assoc] using this
end
end Lk
end Go.Proofs.Ytifoheodcbjapaa
