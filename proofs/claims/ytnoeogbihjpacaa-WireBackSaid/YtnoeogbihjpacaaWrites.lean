/-
WireWrites holds: of any parts, up to forty, of texts of up to 500 bytes, what is written is what the document says, each call hands back the writer, and of nil there are none. No condition.
-/
import Derived.Test.YtnoeogbihjpacaaPut2
namespace Go.Proofs.Ytnoeogbihjpacaa
open Go.ChangeShapes Go.WideShapes Go.ChangeAt Go.RowKit

theorem pinfo (p : PartR) : (Try.prog.info? 32).map (·.size) = some p.cells.length := by
  unfold PartR.cells; rw [partC_len]; kernel_rfl
theorem wequalIn_self (d s : Nat) (w : World) : (Op.equalIn (d + 1) 23 (.pointer (some ⟨s, 0, none⟩)) (.pointer (some ⟨s, 0, none⟩))).run Try.prog w = .ok true w := by
  simp [Op.equalIn, run_underlying Try.underlying23, sameAddr]
theorem wneq_self (s : Nat) (w : World) : (binOp .neq 23 (.pointer (some ⟨s, 0, none⟩)) (.pointer (some ⟨s, 0, none⟩))).run Try.prog w = .ok (.bool false) w := by
  have h : (Op.equal 23 (.pointer (some ⟨s, 0, none⟩)) (.pointer (some ⟨s, 0, none⟩))).run Try.prog w = .ok true w := wequalIn_self 9999 s w
  simp only [binOp]
  simp [h]

/-- A row of bytes that is none of a writer's. -/
def Sep (W : World) (B g : Nat) (v : Value) (acc : List Nat) : Prop := W.ownsRow B 5 1 v acc.length (u8s acc) ∧ ∀ k, v.ownBlock = some k → k ≠ g ∧ rowOf W g ≠ some k
theorem Sep.wrote {W W' : World} {B B' g : Nat} {v : Value} {acc : List Nat} (h : Sep W B g v acc) (hO : Wrote B' g W W') : Sep W' B g v acc := by
  obtain ⟨hown, hk⟩ := h
  have hlt : ∀ k, v.ownBlock = some k → k < W.heap.size := fun k e => (hown.lt k e).2
  refine ⟨?_, fun k e => ⟨(hk k e).1, fun e' => ?_⟩⟩
  · obtain ⟨hl, h⟩ := id hown
    refine ⟨hl, h.imp id ?_⟩
    rintro ⟨q, cap, cur, rfl, hq, hh, r⟩
    have := hk q rfl
    exact ⟨q, cap, cur, rfl, hq, (hO.2.1 q (hlt q rfl) this.1 (fun e => this.2 e.symm)).trans hh, r⟩
  · rcases hO.2.2 k e' with h1 | h1
    · exact (hk k e).2 h1
    · have := hlt k e; omega
theorem Sep.next {W W' : World} {B g : Nat} {v : Value} {acc : List Nat} (h : Sep W B g v acc) (hb : Below W.heap.size W W') (hB : B ≤ W.heap.size) (hg : g < W.heap.size) : Sep W' B g v acc := h.wrote (Wrote.ofBelow hb hB hg)
theorem sep_app {W W1 : World} {B g : Nat} {ws acc : List Nat} {v v' : Value} (hW : Wtr W B g ws) (hS : Sep W B g v acc) (hg : W.grownBy W1 v.ownBlock) (hl : v'.ownBlock = v.ownBlock ∨ v'.ownBlock = some W.heap.size) :
    Wtr W1 B g ws ∧ (∀ k, v'.ownBlock = some k → k ≠ g ∧ rowOf W1 g ≠ some k) ∧ Below B W W1 := by
  have hlt := hW.lt
  have hrow := fun k => rowOf_lt (k := k) hW
  have hblk : W1.heap[g]? = W.heap[g]? := hg.block g hlt (fun e => (hS.2 g e.symm).1 rfl)
  have hro : rowOf W1 g = rowOf W g := by unfold rowOf World.cell?; rw [hblk]
  refine ⟨?_, ?_, grown_below hS.1 hg (Nat.le_trans hW.1 (Nat.le_of_lt hlt))⟩
  · obtain ⟨hB, u, hu, hown⟩ := hW
    refine ⟨hB, u, hblk.trans hu, hown.kept hg ?_⟩
    cases hub : u.ownBlock with
    | none => exact Or.inl rfl
    | some r =>
      right
      intro e
      have := (hS.2 r e.symm).2
      rw [rowOf_of hu, hub] at this
      exact this rfl
  · intro k hk
    rw [hro]
    rcases hl with h2 | h2
    · rw [h2] at hk; exact hS.2 k hk
    · rw [h2] at hk
      simp only [Option.some.injEq] at hk
      refine ⟨by omega, fun e => ?_⟩
      have := hrow k e
      omega

theorem parts_take (l : List PartR) (j : Nat) (p : PartR) (h : l[j]? = some p) : ((l.take (j + 1)).flatMap PartR.bytes) = (l.take j).flatMap PartR.bytes ++ p.bytes := by
  rw [List.take_add_one, h]; simp
theorem parts_len {W : World} {L : Nat} : ∀ (l : List PartR), (∀ p ∈ l, p.Ok W L) → (∀ p ∈ l, p.m ≤ 500) → (l.flatMap PartR.bytes).length ≤ 510 * l.length
  | [], _, _ => by simp
  | p :: l, h, hm => by
    have h1 := bytes_len (h p (by simp)) (hm p (by simp))
    have h2 := parts_len l (fun q hq => h q (by simp [hq])) (fun q hq => hm q (by simp [hq]))
    simp only [List.flatMap_cons, List.length_append, List.length_cons]; omega
theorem parts_lt {W : World} {L : Nat} : ∀ (l : List PartR), (∀ p ∈ l, p.Ok W L) → ∀ x ∈ l.flatMap PartR.bytes, x < 256
  | [], _, x, hx => by simp at hx
  | p :: l, h, x, hx => by
    rw [List.flatMap_cons] at hx
    rcases List.mem_append.1 hx with h1 | h1
    · exact bytes_lt (h p (by simp)) x h1
    · exact parts_lt l (fun q hq => h q (by simp [hq])) x h1

/-- Behind j parts. -/
def WrAt (W wr : World) (l : List PartR) (j : Nat) (ov : Value) : Prop :=
  Wtr wr W.heap.size W.heap.size ((l.take j).flatMap PartR.bytes) ∧ Sep wr W.heap.size W.heap.size ov ((l.take j).flatMap PartR.bytes) ∧ Below W.heap.size W wr ∧ ∀ p ∈ l.take j, p.m ≤ 500

set_option maxRecDepth 100000 in
set_option maxHeartbeats 8000000 in
theorem writes_walk (A : Option Addr) (c : Nat) (l : List PartR) (W : World) (hl : l.length ≤ 9223372036854775807) (hA : Parts W A l) (hok : ∀ p ∈ l, p.Ok W W.heap.size) :
    Calls Try.prog 3 #[.slice A l.length c] W fun e W' => e = .returned (.bool true) ∧ Below W.heap.size W W' := by
  have HA := Lib.hid hA
  have HOK := Lib.hid hok
  have nq := wneq_self W.heap.size
  clear hA hok
  go_enter Try.func3, Try.ntmps3
  go_wp2_with (go_at_call 12; refine (new_any _).mono ?_; rintro e w1 ⟨rfl, hW1, hb1⟩; have HW1 := Lib.hid hW1; have HB1 := Lib.hid hb1; clear hW1 hb1)
  go_loopw [5, 6] (fun ov i wr => ∃ j : Nat, j ≤ l.length ∧ j ≤ 40 ∧ i = .int .i64 j ∧ WrAt W wr l j ov) (fun _ i _ => l.length - (intOf i).toNat)
  case atStart => exact ⟨0, Nat.zero_le _, by omega, rfl, HW1.out, ⟨World.ownsRow_nil _ _ _ _, fun k hk => by cases hk⟩, HB1.out, by simp⟩
  case round =>
    clear HW1 HB1
    obtain ⟨j, hj, hj40, rfl, hwa⟩ := hrel
    have HWA := Lib.hid hwa
    clear hwa
    by_cases hgo : j < l.length ∧ j < 40
    case pos =>
      obtain ⟨hlt, h40⟩ := hgo
      all_goals
      · have h40' : (j : Int) < 40 := by omega
        obtain ⟨p, hp⟩ : ∃ p, l[j]? = some p := ⟨_, List.getElem?_eq_getElem hlt⟩
        have HP := Lib.hid hp
        have hpm : p ∈ l := List.mem_of_getElem? hp
        have HPO := Lib.hid ((HOK.out p hpm).next HWA.out.2.2.1)
        obtain ⟨b, o, rfl, hb, hr⟩ := HA.out.resolve_left (by intro e; rw [e] at hlt; simp at hlt)
        have hrj := range_below (hr j hlt) HWA.out.2.2.1 hb
        rw [(List.getElem?_eq_some_iff.1 hp).2] at hrj
        have HR := Lib.hid hrj
        have HBlt := Lib.hid hb
        clear hr hp hpm hb h40 hj40
        by_cases hgr : greatB p = true
        · go_wp2_with (first | (refine wpList_load_mid rfl 32 _ rfl _ _ rfl (p).cells _ ?_ Try.underlying32 rfl (pinfo _) ?_; (focus assumption)) | (go_at_call 13; refine (great_any p _).mono ?_; rintro e w2 ⟨rfl, hb2⟩; rw [hgr]; have HB2 := Lib.hid hb2; clear hb2) | (go_at_call 14; refine (alive_any _).mono ?_; rintro e wa ⟨rfl, hba⟩; have HBA := Lib.hid hba; clear hba))
          go_ret
          exact ⟨rfl, (HWA.out.2.2.1.trans (HB2.out.mono HWA.out.2.2.1.size)).trans (HBA.out.mono (Nat.le_trans HWA.out.2.2.1.size HB2.out.size))⟩
        · have hgr' : greatB p = false := by simpa using hgr
          have hm5 : p.m ≤ 500 := by unfold greatB at hgr; simpa using hgr
          clear hgr
          have HM5 := Lib.hid hm5
          clear hm5
          have HLEN := Lib.hid (show ((l.take j).flatMap PartR.bytes).length ≤ 510 * 40 by
            have h1 := parts_len (l.take j) (fun q hq => HOK.out q (List.mem_of_mem_take hq)) HWA.out.2.2.2
            have h2 := List.length_take_le j l
            omega)
          have hlen40 : (l.take j).length ≤ 40 := by have := List.length_take_le j l; omega
          clear hlen40
          go_wp2_with (first | (refine wpList_load_mid rfl 32 _ rfl _ _ rfl (p).cells _ ?_ Try.underlying32 rfl (pinfo _) ?_; (focus assumption)) | (go_at_call 13; refine (great_any p _).mono ?_; rintro e w2 ⟨rfl, hb2⟩; rw [hgr']; have hr2 := range_below hrj hb2 (Nat.lt_of_lt_of_le HBlt.out HWA.out.2.2.1.size); have HR2 := Lib.hid hr2; have HB2 := Lib.hid hb2; clear hb2 hrj))
          have hW2 := HWA.out.1.next HB2.out
          have HS2 := Lib.hid (HWA.out.2.1.next HB2.out (Nat.le_trans (Nat.le_refl _) HWA.out.2.2.1.size) HWA.out.1.lt)
          have hWB2 := HWA.out.2.2.1.trans (HB2.out.mono HWA.out.2.2.1.size)
          have HWB2 := Lib.hid hWB2
          refine (put_wtr p W.heap.size W.heap.size _ w2 hW2 (HPO.out.next (HB2.out.mono HWA.out.2.2.1.size)) HM5.out (by have := HLEN.out; omega)).mono ?_
          clear hW2 hWB2 hr2
          rintro e w3 ⟨v3, X3, rfl, ⟨hX3, hO3⟩, hM3⟩
          have hb23 : Below W.heap.size w2 w3 := hO3.1.trans (hM3.2.mono (Nat.le_trans hX3.1 (Nat.le_of_lt hX3.lt)))
          have HW3 := Lib.hid (hX3.next hM3.2)
          have HS3 := Lib.hid ((HS2.out.wrote hO3).next hM3.2 (Nat.le_trans hX3.1 (Nat.le_of_lt hX3.lt)) hX3.lt)
          have HWB3 := Lib.hid (HWB2.out.trans hb23)
          have hr3 := range_below HR2.out hb23 HBlt.out
          have HR3 := Lib.hid hr3
          have HPO3 := Lib.hid ((HPO.out.next (HB2.out.mono HWA.out.2.2.1.size)).next hb23)
          obtain ⟨A3, c3, rfl, hS3⟩ := src_own hM3.1
          have HSR3 := Lib.hid hS3
          clear hX3 hO3 hM3 hb23 hS3
          go_wp2_with (first | (refine wpList_load_mid rfl 32 _ rfl _ _ rfl (p).cells _ ?_ Try.underlying32 rfl (pinfo _) ?_; (focus assumption)))
          refine (put_nilw p W.heap.size w3 HWB3.out.size (by have := HW3.out.lt; omega) HPO3.out HM5.out).mono ?_
          clear hr3
          rintro e w4 ⟨v4, X4, rfl, hX4, hM4⟩
          have hb34 : Below w3.heap.size w3 w4 := hX4.trans (hM4.2.mono hX4.size)
          have HW4 := Lib.hid (HW3.out.next hb34)
          have HS4 := Lib.hid (HS3.out.next hb34 HWB3.out.size HW3.out.lt)
          have HWB4 := Lib.hid (HWB3.out.trans (hb34.mono HWB3.out.size))
          have HSR4 := Lib.hid (HSR3.out.below hb34)
          clear hX4 hM4 hb34
          have HBL := Lib.hid (bytes_len HPO.out HM5.out)
          go_wp2_with (first | (refine wpList_append_u8 _ rfl _ _ rfl W.heap.size u5 _ _ rfl HS4.out.1 A3 p.bytes.length c3 (u8s p.bytes) rfl (u8s_len _) HSR4.out (u8s_one _) (by have := HLEN.out; have := HBL.out; omega) HWB4.out.size ?_; intro v' W1 hown1 hgrow hloc; have HOWN := Lib.hid hown1; have HSA := Lib.hid (sep_app HW4.out HS4.out hgrow hloc); clear hown1 hgrow hloc))
          go_roundw
          case rel =>
            refine ⟨j + 1, by omega, by omega, by go_num, ?_, ⟨?_, HSA.out.2.1⟩, HWB4.out.trans HSA.out.2.2, ?_⟩
            · rw [parts_take l j p HP.out]; exact HSA.out.1
            · rw [parts_take l j p HP.out, List.length_append, u8s_app]; exact HOWN.out
            · intro q hq
              rw [List.take_add_one, HP.out] at hq
              rcases List.mem_append.1 hq with h1 | h1
              · exact HWA.out.2.2.2 q h1
              · simp at h1; subst h1; exact HM5.out
          case measure => simp [intOf]; omega
    have hstop : ¬ j < l.length ∨ (j < l.length ∧ ¬ (j : Int) < 40) := by omega
    have HJ40 := Lib.hid hj40
    clear hgo hj40
    rcases hstop with hlt | ⟨hlt, h40⟩
    all_goals
      obtain ⟨acc, hacc⟩ : ∃ acc, acc = (l.take j).flatMap PartR.bytes := ⟨_, rfl⟩
      have hW0 := HWA.out.1
      have hS0 := HWA.out.2.1
      rw [← hacc] at hW0 hS0
      have HW0 := Lib.hid hW0
      have HS0 := Lib.hid hS0
      have HLT := Lib.hid (show ∀ x ∈ acc, x < 256 by rw [hacc]; exact parts_lt _ (fun q hq => HOK.out q (List.mem_of_mem_take hq)))
      have HLEN := Lib.hid (show acc.length ≤ 510 * 40 by
        rw [hacc]
        have h1 := parts_len (l.take j) (fun q hq => HOK.out q (List.mem_of_mem_take hq)) HWA.out.2.2.2
        have h2 := List.length_take_le j l
        have h3 := HJ40.out
        omega)
      obtain ⟨Ao, co, rfl, hSo⟩ := src_own hS0.1
      have HSo := Lib.hid hSo
      have HBW := Lib.hid HWA.out.2.2.1
      clear hacc hW0 hS0 hSo HWA
      go_wp2_with fail
      refine wp_region_tree (S := fun _ => True) (.one 0 (.take 1 (.take 2 (.take 5 (.two 3 (.two 4 (.one 6 (.take 7 (.take 8 (.take 9 (.take 10 (.one 11 (.one 12 (.take 13 (.take 14 (.take 15 .nil)))))))))) 6 (.one 4 (.take 7 (.take 8 (.take 9 (.take 10 (.one 11 (.one 12 (.take 13 (.take 14 (.take 15 .nil))))))))))) 6 (.one 3 (.one 4 (.take 7 (.take 8 (.take 9 (.take 10 (.one 11 (.one 12 (.take 13 (.take 14 (.take 15 .nil)))))))))))))))) 9999 (by kernel_rfl) (by kernel_rfl) (by kernel_rfl) (by kernel_rfl) (by kernel_rfl) (fun _ _ d _ _ h => by cases d <;> exact h) trivial (fun _ => ?_); simp only [Tree.map, List.getElem?_toArray, List.getElem?_cons_zero, List.getElem?_cons_succ]
      (repeat' (first | (refine wpTree.take (v := undef) (Or.inr ⟨by rfl, rfl⟩) ?_; simp only [Act.put, List.setIfInBounds_toArray, List.set_cons_zero, List.set_cons_succ]) | (refine wpTree.take (v := ?_) (Or.inl ⟨by rfl, ?_⟩) ?_; rotate_left; (focus (intro _ _; go_simp; (try (with_reducible rfl)); done)); simp only [Act.put, List.setIfInBounds_toArray, List.set_cons_zero, List.set_cons_succ]) | (refine wpTree.two ?_ ?_) | (refine wpTree.one (fun K hK => ?_); (first | (first | (go_at_call 14; refine (alive_any _).mono ?_; rintro e wa ⟨rfl, hba⟩; have hba' : Below wr.heap.size wr wa := ⟨hba.os, hba.tape, hba.output, hba.size, hba.block⟩; have HBA := Lib.hid hba'; have HWa := Lib.hid (HW0.out.next hba'); have hSa := HSo.out.below hba'; have cva := conv_src wa Ao acc.length co acc hSa rfl HLT.out; have HSa := Lib.hid hSa; clear hba hba' hSa) | (go_at_call 16; (with_reducible refine (bytes_any W.heap.size W.heap.size acc _ HWa.out (by have := HLEN.out; omega)).mono ?_); rintro e wb ⟨vb, rfl, hownb, hbb⟩; obtain ⟨Ab, cb, rfl, hSb⟩ := src_own hownb; have cvb := conv_src wb Ab acc.length cb acc hSb rfl HLT.out; have cvo := conv_src wb Ao acc.length co acc (HSa.out.below hbb) rfl HLT.out; have HBB := Lib.hid hbb; clear hbb hSb hownb) | (go_at_call 16; (with_reducible refine (bytes_nil _).mono ?_); rintro e wc ⟨rfl, rfl⟩)) | go_simp); (try (first | (go_at_call 14; refine (alive_any _).mono ?_; rintro e wa ⟨rfl, hba⟩; have hba' : Below wr.heap.size wr wa := ⟨hba.os, hba.tape, hba.output, hba.size, hba.block⟩; have HBA := Lib.hid hba'; have HWa := Lib.hid (HW0.out.next hba'); have hSa := HSo.out.below hba'; have cva := conv_src wa Ao acc.length co acc hSa rfl HLT.out; have HSa := Lib.hid hSa; clear hba hba' hSa) | (go_at_call 16; (with_reducible refine (bytes_any W.heap.size W.heap.size acc _ HWa.out (by have := HLEN.out; omega)).mono ?_); rintro e wb ⟨vb, rfl, hownb, hbb⟩; obtain ⟨Ab, cb, rfl, hSb⟩ := src_own hownb; have cvb := conv_src wb Ab acc.length cb acc hSb rfl HLT.out; have cvo := conv_src wb Ao acc.length co acc (HSa.out.below hbb) rfl HLT.out; have HBB := Lib.hid hbb; clear hbb hSb hownb) | (go_at_call 16; (with_reducible refine (bytes_nil _).mono ?_); rintro e wc ⟨rfl, rfl⟩))); refine hK.out _ _ trivial (fun _ => ?_); clear hK K; (try simp only [Act.put, List.setIfInBounds_toArray, List.set_cons_zero, List.set_cons_succ]))))
      all_goals
        refine wpTree.done ?_
        go_wp2_with fail
        go_ret
        exact ⟨rfl, (HBW.out.trans (HBA.out.mono HBW.out.size)).trans (HBB.out.mono (Nat.le_trans HBW.out.size HBA.out.size))⟩

set_option maxRecDepth 100000 in
theorem writes_lifted (os : Os) (started : os.Started) (H : Type) (enc : TypeId × Value → H) :
    ReturnsInHanded {} Try.checked os 3 .any (Rows.wireWritesSpec.pre6 enc Try.prog Try.f3 Rows.wireWritesRow.domain false) (Rows.wireWritesSpec.post enc Try.prog Try.f3 false true false false) := by
  refine law_lift (C := Try.checked) own_knob started (by kernel_rfl) Try.func3 rfl Try.underlying4 laid_out (by kernel_rfl) rfl ?_
    (ChangeSpec.witness6 (enc := enc) (C := Try.checked) false ⟨#[], #[.slice none 0 0], []⟩ 8 (by kernel_rfl) (by kernel_rfl) (by kernel_rfl) (by kernel_rfl)) ?_
  · intro ds hds
    match ds, hds with
    | [_], _ => rfl
  intro W base args ds ps hval hA hlt hsz
  rw [Try.params3] at hA hval
  obtain ⟨v0, vs0, d0, ds0, p0, q0, hargs, rfl, rfl, h0, r0⟩ := trodAll_cons hA
  obtain ⟨rfl, rfl, rfl⟩ := trodAll_nil r0
  obtain rfl : args = #[v0] := by cases args; simp_all
  obtain ⟨A0, c0, l0, rfl, hl0, hA0, hok0⟩ := open_parts (hval 0 22 v0 rfl rfl) h0 (fun x hx => hlt x (by simp [hx]))
  exact writes_walk A0 c0 l0 W hl0 hA0 hok0

theorem writes_holds : Rows.WireWritesSaid :=
  OpenClaim.holds_of_wide 3 Try.f3 rfl rfl rfl rfl rfl rfl rfl ⟨rfl, rfl, rfl, rfl, rfl⟩ rfl rfl rfl rfl rfl (by kernel_rfl) Try.func3 (by kernel_rfl)
    (of_decide_eq_true (by kernel_rfl)) (by unfold Func.isWrapper; first | (rw [if_pos (by decide +kernel)]; kernel_rfl) | (rw [if_neg (by decide +kernel)]; exact ⟨rfl, rfl⟩))
    (fun os started H enc _ => writes_lifted os started H enc)

end Go.Proofs.Ytnoeogbihjpacaa
