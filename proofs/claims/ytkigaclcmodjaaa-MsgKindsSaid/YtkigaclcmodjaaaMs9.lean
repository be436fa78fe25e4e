/-
MsgKinds holds: of two messages that may be the bytes begin with the kind, and are the same just if the messages are equal. No condition.
-/
import Derived.Test.YtkigaclcmodjaaaMs8
namespace Go.Proofs.Ytkigaclcmodjaaa
open Go.RowKit Go.ChangeShapes Go.WideShapes Go.ChangeAt
set_option linter.unusedSimpArgs false
set_option linter.unusedVariables false
namespace Mg
theorem toList_beqM (a b : List Nat) (ha : ∀ x ∈ a, x < 256) (hb : ∀ x ∈ b, x < 256) : ((bstr a).toList == (bstr b).toList) = decide (a = b) := by
  by_cases h : a = b
  · subst h; rw [decide_eq_true rfl]; exact beq_self_eq_true _
  · rw [decide_eq_false h, beq_eq_false_iff_ne]
    intro e
    rw [bstr_lit, bstr_lit, ByteArray.toList_mk, ByteArray.toList_mk] at e
    exact h (bstr_inj ha hb (by rw [bstr_lit, bstr_lit, e]))
theorem str_eqlM (w : World) (a b : List Nat) (ha : ∀ x ∈ a, x < 256) (hb : ∀ x ∈ b, x < 256) : (binOp .eql 9 (.string (bstr a)) (.string (bstr b))).run Try.prog w = .ok (.bool (decide (a = b))) w := by
  rw [binOp_string_eql, toList_beqM a b ha hb]
  rfl
theorem app_lt {a b : List Nat} (ha : ∀ x ∈ a, x < 256) (hb : ∀ x ∈ b, x < 256) : ∀ x ∈ a ++ b, x < 256 := fun x hx => (List.mem_append.1 hx).elim (ha x) (hb x)
theorem nil_lt : ∀ x ∈ ([] : List Nat), x < 256 := fun x hx => by simp at hx
theorem if_lt {c : Bool} {a b : List Nat} (ha : ∀ x ∈ a, x < 256) (hb : ∀ x ∈ b, x < 256) : ∀ x ∈ (if c then a else b), x < 256 := by split <;> assumption
theorem encL_lt (l : Lab) : ∀ x ∈ encL l, x < 256 := by unfold encL; exact app_lt (app_lt (app_lt (app_lt (app_lt (enc_lt _) (enc_lt _)) (enc_lt _)) (enc_lt _)) (enc_lt _)) (encV_lt _)
theorem encO_lt (o : OpR) : ∀ x ∈ encO o, x < 256 := by unfold encO; exact app_lt (enc_lt _) (app_lt (if_lt (enc_lt _) nil_lt) (app_lt (if_lt (enc_lt _) nil_lt) (if_lt (by unfold encF; exact be8_lt _) nil_lt)))
theorem encE_lt (x : Ev) : ∀ y ∈ encE x, y < 256 := by unfold encE; exact app_lt (encL_lt _) (encO_lt _)
theorem encSt_lt (s : St) : ∀ x ∈ encSt s, x < 256 := by unfold encSt; exact if_lt (app_lt (app_lt (enc_lt _) (enc_lt _)) (encV_lt _)) (enc_lt _)
theorem encM_lt (m : Ms) : ∀ x ∈ encM m, x < 256 := by
  unfold encM
  exact app_lt (enc_lt _) (app_lt (if_lt (encL_lt _) nil_lt) (app_lt (if_lt (encE_lt _) nil_lt) (app_lt (if_lt (enc_lt _) nil_lt) (app_lt (if_lt (app_lt (enc_lt _) (app_lt (enc_lt _) (encSt_lt _))) nil_lt) (if_lt (enc_lt _) nil_lt)))))
/-- What is written: bytes, or an error. -/
def WrP (m : Ms) (v : Value) (c : Int) (W : World) : Prop := if rightM m then c = 0 ∧ BytesAt W v (encM m) else c = 3 ∧ v = .slice none 0 0
theorem WrP.yes {m : Ms} {v : Value} {c : Int} {W : World} (h : WrP m v c W) (hr : rightM m = true) : c = 0 ∧ BytesAt W v (encM m) := by unfold WrP at h; rwa [if_pos hr] at h
theorem WrP.no {m : Ms} {v : Value} {c : Int} {W : World} (h : WrP m v c W) (hr : rightM m = false) : c = 3 ∧ v = .slice none 0 0 := by unfold WrP at h; rwa [if_neg (by simp [hr])] at h
theorem ms_write_any (m : Ms) (W : World) (ho : Ms.Ok m) : Calls Try.prog 18 #[.agg m.cells.toArray] W fun e W' => ∃ v c, e = .returned (.tuple #[v, .int .i64 c]) ∧ WrP m v c W' ∧ Below W.heap.size W W' := by
  cases hr : rightM m with
  | false =>
    refine (ms_write_no m W hr).mono ?_
    rintro e W' ⟨rfl, hb⟩
    exact ⟨_, _, rfl, by unfold WrP; rw [if_neg (by simp [hr])]; exact ⟨rfl, rfl⟩, hb⟩
  | true =>
    refine (ms_write_yes m W hr ho).mono ?_
    rintro e W' ⟨v, rfl, hown, hb⟩
    exact ⟨_, _, rfl, by unfold WrP; rw [if_pos hr]; exact ⟨rfl, BytesAt.of hown⟩, hb⟩
theorem Ms.Bd.ok {m : Ms} (h : Ms.Bd m) : Ms.Ok m := ⟨h.l.f, h.x.l.f, h.x.o.p, h.s⟩
theorem encM_first {m : Ms} {n : Nat} (hk : m.k = (n : Nat)) (hn : n ≤ 10) : (encM m)[0]? = some n := by
  unfold encM
  rw [hk, wordN_nat n (by omega), enc_lo (by omega)]
  simp
theorem hd_inj {a b : Ms} (h : a.cells = b.cells) : a.hd = b.hd ∧ a.l.cells = b.l.cells ∧ a.x.cells = b.x.cells ∧ a.s.cells = b.s.cells := by
  rw [ms_def, ms_def] at h
  obtain ⟨h, hs⟩ := List.append_inj h (by simp only [List.length_append, hd_len, lab_len, ev_len])
  obtain ⟨h, hx⟩ := List.append_inj h (by simp only [List.length_append, hd_len, lab_len])
  obtain ⟨h, hl⟩ := List.append_inj h (by simp only [hd_len])
  exact ⟨h, hl, hx, hs⟩
theorem encL_cells {a b : Lab} (h : a.cells = b.cells) : encL a = encL b := by
  have h2 := (eqL_iff a b).2 h
  unfold eqL at h2
  simp only [Bool.and_eq_true, beq_iff_eq] at h2
  obtain ⟨⟨⟨⟨⟨h1, h2⟩, h3⟩, h4⟩, h5⟩, h6⟩ := h2
  exact (lab_same (by omega) h2 (by omega) h4 h5 ((eqB_iff _ _).1 h6)).2.1
theorem encV_ext {f g : Nat → Nat} (h : ∀ i, i < 12 → f i = g i) : encV f = encV g := by unfold encV; rw [topV_ext 12 h, trimV_ext h]
theorem encE_cells {a b : Ev} (h : a.cells = b.cells) : encE a = encE b := by
  have h2 := (sameE_iff a b).2 h
  unfold sameE at h2
  rw [Bool.and_eq_true] at h2
  unfold encE
  rw [encL_cells ((eqL_iff _ _).1 h2.1), sameO_eq h2.2]
theorem encSt_cells {a b : St} (h : a.cells = b.cells) : encSt a = encSt b := by
  have h2 := (eqSt_iff a b).2 h
  unfold eqSt at h2
  simp only [Bool.and_eq_true, beq_iff_eq] at h2
  obtain ⟨⟨h3, h4⟩, h5⟩ := h2
  unfold encSt
  rw [h3, show a.t = b.t by omega, encV_ext ((eqB_iff _ _).1 h5)]
theorem encM_cells {a b : Ms} (h : a.cells = b.cells) (_ : rightM a = true) (_ : rightM b = true) : encM a = encM b := by
  obtain ⟨h0, h1, h2, h3⟩ := hd_inj h
  unfold Ms.hd at h0
  simp only [List.cons.injEq, Value.int.injEq, true_and, and_true] at h0
  obtain ⟨k1, k2, k3, k4, k5⟩ := h0
  unfold encM
  rw [k1, k2, k3, k4, k5, encL_cells h1, encE_cells h2, encSt_cells h3]
theorem same_enc {p q : Ms} (hp : rightM p = true) (hq : rightM q = true) (op : Ms.Ok p) (oq : Ms.Ok q) : sameM p q = decide (encM p = encM q) := by
  rw [Bool.eq_iff_iff, sameM_iff, decide_eq_true_eq]
  constructor
  · intro h
    have h2 := msg_yes hp op
    have h3 := msg_yes hq oq
    have e1 := (msg_ok (encM_lt q) h3)
    have : encM (asM p) = encM p := by
      have := (msg_ok (encM_lt p) h2).1
      rw [List.append_nil] at this
      exact this.symm
    have e2 : encM (asM q) = encM q := by
      have := e1.1
      rw [List.append_nil] at this
      exact this.symm
    rw [← this, ← e2]
    exact encM_cells ((asM_cells hp).trans (h.trans (asM_cells hq).symm)) (rightM_asM hp) (rightM_asM hq)
  · intro h
    have h2 := msg_yes hp op
    have h3 := msg_yes hq oq
    rw [h, h3] at h2
    have : asM q = asM p := by simpa using h2
    rw [← asM_cells hp, ← asM_cells hq, this]
set_option maxRecDepth 20000 in
set_option maxHeartbeats 16000000 in
theorem kinds_walk (p q : Ms) (hp : Ms.Bd p) (hq : Ms.Bd q) (W : World) :
    Calls Try.prog 5 #[.agg (Ms.plain p).toArray, .agg (Ms.plain q).toArray] W fun e W' => e = .returned (.bool true) ∧ Below W.heap.size W W' := by
  have bA := (Blk.new W 60 (Ms.plain p).toArray).alloc (.cells (Ms.plain q).toArray 60)
  have bB : Blk ((W.alloc (.cells (Ms.plain p).toArray 60)).alloc (.cells (Ms.plain q).toArray 60)) (W.heap.size + 1) 60 (Ms.plain q).toArray := Blk.new' (by simp)
  have hB := ((Below.refl W.heap.size W).alloc (Nat.le_refl _) (.cells (Ms.plain p).toArray 60)).alloc (by simp) (.cells (Ms.plain q).toArray 60)
  go_enter Try.func5, Try.ntmps5
  go_upto_region 1 with fail
  obtain ⟨w1, hw1⟩ : ∃ w1, w1 = (W.alloc (.cells (Ms.plain p).toArray 60)).alloc (.cells (Ms.plain q).toArray 60) := ⟨_, rfl⟩
  rw [← hw1] at bA bB hB ⊢
  have HB1 := Lib.hid hB
  have HP1 := Lib.hid bA
  have HQ1 := Lib.hid bB
  have HOP := Lib.hid hp.ok
  have HOQ := Lib.hid hq.ok
  have rp := bA.range
  clear hw1 bA bB hB hp hq
  go_wp2_with (first | (refine wpList_load_midg (by rfl) 60 _ rfl _ _ rfl (Ms.plain ?_) _ ?_ Try.underlying60 rfl (pminfo _) ?_; rotate_left; (focus assumption)))
  clear rp
  refine (plainmsg_any p w1).mono ?_
  rintro e w2 ⟨rfl, hb⟩
  have HB2 := Lib.hid (HB1.out.trans (hb.mono HB1.out.size))
  have HP2 := Lib.hid (HP1.out.next hb)
  have HQ2 := Lib.hid (HQ1.out.next hb)
  clear hb HB1 HP1 HQ1
  go_wp2_with fail
  refine (ms_write_any p w2 HOP.out).mono ?_
  rintro e w3 ⟨va, ca, rfl, hwa, hb⟩
  have HB3 := Lib.hid (HB2.out.trans (hb.mono HB2.out.size))
  have HP3 := Lib.hid (HP2.out.next hb)
  have HQ3 := Lib.hid (HQ2.out.next hb)
  have HWA := Lib.hid hwa
  clear hwa
  clear hb HB2 HP2 HQ2
  have rq := HQ3.out.range
  go_wp2_with (first | (refine wpList_load_midg (by rfl) 60 _ rfl _ _ rfl (Ms.plain ?_) _ ?_ Try.underlying60 rfl (pminfo _) ?_; rotate_left; (focus assumption)))
  clear rq
  refine (plainmsg_any q w3).mono ?_
  rintro e w4 ⟨rfl, hb⟩
  have HB4 := Lib.hid (HB3.out.trans (hb.mono HB3.out.size))
  have HP4 := Lib.hid (HP3.out.next hb)
  have HQ4 := Lib.hid (HQ3.out.next hb)
  have HN34 := Lib.hid hb
  clear hb HB3 HP3 HQ3
  go_wp2_with fail
  refine (ms_write_any q w4 HOQ.out).mono ?_
  rintro e w5 ⟨vb, cb, rfl, hwb, hb⟩
  have HB5 := Lib.hid (HB4.out.trans (hb.mono HB4.out.size))
  have HP5 := Lib.hid (HP4.out.next hb)
  have HQ5 := Lib.hid (HQ4.out.next hb)
  have HWB := Lib.hid hwb
  have HN35 := Lib.hid (HN34.out.trans (hb.mono HN34.out.size))
  clear hwb HN34
  clear hb HB4 HP4 HQ4
  cases hrp : rightM p with
  | false =>
    obtain ⟨rfl, rfl⟩ := HWA.out.no hrp
    clear hrp HWA
    go_wp2_with (go_at_call 7; refine (alive23_any _).mono ?_; rintro e w6 ⟨rfl, hb⟩; have HB6 := Lib.hid (HB5.out.trans (hb.mono HB5.out.size)); clear hb)
    go_ret
    exact ⟨rfl, HB6.out⟩
  | true =>
    cases hrq : rightM q with
    | false =>
      obtain ⟨rfl, rfl⟩ := HWB.out.no hrq
      obtain ⟨rfl, hva⟩ := HWA.out.yes hrp
      clear hva hrp hrq HWA HWB
      go_wp2_with (go_at_call 7; refine (alive23_any _).mono ?_; rintro e w6 ⟨rfl, hb⟩; have HB6 := Lib.hid (HB5.out.trans (hb.mono HB5.out.size)); clear hb)
      go_ret
      exact ⟨rfl, HB6.out⟩
    | true =>
      obtain ⟨rfl, hva⟩ := HWA.out.yes hrp
      obtain ⟨rfl, hvb⟩ := HWB.out.yes hrq
      have HVA := Lib.hid (hva.next HN35.out)
      have HVB := Lib.hid hvb
      have HSE := Lib.hid (same_enc hrp hrq HOP.out HOQ.out)
      obtain ⟨n, hn, hn1, hn2⟩ := kind_nat hrp
      have HF0 := Lib.hid (encM_first hn (by omega))
      have HEL := Lib.hid (encM_lt p)
      have HFL := Lib.hid (encM_lt q)
      have HS := Lib.hid (same_any p q)
      obtain ⟨E, hE⟩ : ∃ E, E = encM p := ⟨_, rfl⟩
      obtain ⟨F, hF⟩ : ∃ F, F = encM q := ⟨_, rfl⟩
      rw [← hE] at HVA HSE HF0 HEL
      rw [← hF] at HVB HSE HFL
      obtain ⟨r, hr⟩ : ∃ r, r = decide (E = F) := ⟨_, rfl⟩
      have hTB := toList_beqM E F HEL.out HFL.out
      rw [← hr] at HSE hTB
      have HTB := Lib.hid hTB
      clear hTB
      rw [HSE.out] at HS
      obtain ⟨A, c, hav, hac, hab, han⟩ := HVA.out
      have hE0 : 0 < E.length := by
        rcases E with _ | ⟨a, t⟩
        · have := HF0.out; simp at this
        · simp
      obtain ⟨q1, o1, rfl, hc1⟩ : ∃ q o, A = some ⟨q, o, none⟩ ∧ ∀ x, E[0]? = some x → w5.cell? ⟨q, o, none⟩ = some (.int .u8 (x : Nat)) := by
        rcases hab with rfl | ⟨q, o, e, _, hc⟩
        · simp at hE0
        · exact ⟨q, o, e, fun x hx => by have := hc 0 x hx; rwa [Nat.add_zero] at this⟩
      have cx := hc1 n HF0.out
      have hEL1 : (0 : Int) < (E.length : Nat) := by omega
      have ew : IntKind.i64.wrap ((n : Nat) : Int) = (n : Nat) := by rw [IntKind.wrap_i64]; omega
      obtain ⟨_, _, _, _, ck, _⟩ := pm_all HP5.out
      rw [hn] at ck
      have rp := HP5.out.range
      have rq := HQ5.out.range
      have HCA := Lib.hid (fun w (hb : Below w5.heap.size w5 w) => (HVA.out.next hb).conv HEL.out)
      have HCB := Lib.hid (fun w (hb : Below w5.heap.size w5 w) => (HVB.out.next hb).conv HFL.out)
      rw [hav] at HCA
      rw [hav]
      clear hva hvb hrp hrq HWA HWB HSE HF0 HVA HVB hE hF hr hab han hc1 hav hac hn hn1 hn2 HN35
      go_upto_region 5 with fail
      refine wp_region_tree (S := (fun w' => Below w5.heap.size w5 w' ∧ w'.rangeAt W.heap.size 0 (Ms.plain p) ∧ w'.rangeAt (W.heap.size + 1) 0 (Ms.plain q) ∧ w'.cell? ⟨W.heap.size, 0, none⟩ = some (.int .i64 (n : Nat)) ∧ w'.cell? ⟨q1, o1, none⟩ = some (.int .u8 (n : Nat)))) (.one 0 (.take 1 (.take 2 (.take 3 (.take 4 (.take 5 (.take 6 (.take 7 (.take 8 (.take 9 (.take 10 (.take 11 (.take 12 (.take 13 (.take 14 (.take 15 (.take 16 (.take 17 (.take 18 (.take 19 (.take 20 (.take 21 (.take 23 (.one 22 (.one 24 (.one 25 (.take 26 (.take 27 (.take 28 .nil))))))))))))))))))))))))))))) 9999 (by kernel_rfl) (by kernel_rfl) (by kernel_rfl) (by kernel_rfl) (by kernel_rfl) (fun _ _ d _ _ h => by cases d <;> exact h) ⟨(Below.refl _ _).drew, rp, rq, ck, cx⟩ (fun hHeld => ?_); simp only [Tree.map, List.getElem?_toArray, List.getElem?_cons_zero, List.getElem?_cons_succ]
      refine wpTree.one (fun K hK => ?_)
      go_simp
      go_at_call 7
      refine (alive23_any _).mono ?_
      rintro e w6 ⟨rfl, hb⟩
      refine hK.out _ _ ⟨hHeld.1.trans (hb.mono hHeld.1.size), range_next hb hHeld.2.1, range_next hb hHeld.2.2.1, cell_next hb hHeld.2.2.2.1, cell_next hb hHeld.2.2.2.2⟩ (fun hHeld => ?_)
      clear hK K hb
      (try simp only [Act.put, List.setIfInBounds_toArray, List.set_cons_zero, List.set_cons_succ])
      (repeat (first | (refine wpTree.take (v := undef) (Or.inr ⟨by rfl, rfl⟩) ?_; simp only [Act.put, List.setIfInBounds_toArray, List.set_cons_zero, List.set_cons_succ]) | (refine wpTree.take (v := .agg (Ms.plain ?_).toArray) (yieldsIf_load_mid rfl 60 _ rfl _ _ rfl (Ms.plain _) _ ?_ Try.underlying60 rfl (pminfo _)) ?_; rotate_left; (focus (intro _ hS; first | exact hS.2.1 | exact hS.2.2.1)); simp only [Act.put, List.setIfInBounds_toArray, List.set_cons_zero, List.set_cons_succ]) | (refine wpTree.take (v := .string (bstr E)) (Or.inl ⟨by rfl, ?_⟩) ?_; (focus (intro wq hS; have cvq := HCA.out wq hS.1; go_simp; done)); simp only [Act.put, List.setIfInBounds_toArray, List.set_cons_zero, List.set_cons_succ]) | (refine wpTree.take (v := .string (bstr F)) (Or.inl ⟨by rfl, ?_⟩) ?_; (focus (intro wq hS; have cvq := HCB.out wq hS.1; go_simp; done)); simp only [Act.put, List.setIfInBounds_toArray, List.set_cons_zero, List.set_cons_succ]) | (refine wpTree.take (v := ?_) (Or.inl ⟨by rfl, ?_⟩) ?_; rotate_left; (focus (intro _ hS; (try dsimp only at hS); go_split_ands; (try subst hS); go_simp; (try (with_reducible rfl)); done)); simp only [Act.put, List.setIfInBounds_toArray, List.set_cons_zero, List.set_cons_succ])))
      refine wpTree.one (fun K hK => ?_)
      go_simp
      go_at_call 19
      refine (plainmsg_any p _).mono ?_
      rintro e w7 ⟨rfl, hb⟩
      refine hK.out _ _ ⟨hHeld.1.trans (hb.mono hHeld.1.size), range_next hb hHeld.2.1, range_next hb hHeld.2.2.1, cell_next hb hHeld.2.2.2.1, cell_next hb hHeld.2.2.2.2⟩ (fun hHeld => ?_)
      clear hK K hb
      (try simp only [Act.put, List.setIfInBounds_toArray, List.set_cons_zero, List.set_cons_succ])
      refine wpTree.one (fun K hK => ?_)
      go_simp
      go_at_call 19
      refine (plainmsg_any q _).mono ?_
      rintro e w8 ⟨rfl, hb⟩
      refine hK.out _ _ ⟨hHeld.1.trans (hb.mono hHeld.1.size), range_next hb hHeld.2.1, range_next hb hHeld.2.2.1, cell_next hb hHeld.2.2.2.1, cell_next hb hHeld.2.2.2.2⟩ (fun hHeld => ?_)
      clear hK K hb
      (try simp only [Act.put, List.setIfInBounds_toArray, List.set_cons_zero, List.set_cons_succ])
      refine wpTree.one (fun K hK => ?_)
      go_simp
      go_at_call 21
      refine (HS.out _).mono ?_
      rintro e w9 ⟨rfl, hb⟩
      refine hK.out _ _ ⟨hHeld.1.trans (hb.mono hHeld.1.size), range_next hb hHeld.2.1, range_next hb hHeld.2.2.1, cell_next hb hHeld.2.2.2.1, cell_next hb hHeld.2.2.2.2⟩ (fun hHeld => ?_)
      clear hK K hb
      (try simp only [Act.put, List.setIfInBounds_toArray, List.set_cons_zero, List.set_cons_succ])
      (repeat (first | (refine wpTree.take (v := undef) (Or.inr ⟨by rfl, rfl⟩) ?_; simp only [Act.put, List.setIfInBounds_toArray, List.set_cons_zero, List.set_cons_succ]) | (refine wpTree.take (v := .agg (Ms.plain ?_).toArray) (yieldsIf_load_mid rfl 60 _ rfl _ _ rfl (Ms.plain _) _ ?_ Try.underlying60 rfl (pminfo _)) ?_; rotate_left; (focus (intro _ hS; first | exact hS.2.1 | exact hS.2.2.1)); simp only [Act.put, List.setIfInBounds_toArray, List.set_cons_zero, List.set_cons_succ]) | (refine wpTree.take (v := .string (bstr E)) (Or.inl ⟨by rfl, ?_⟩) ?_; (focus (intro wq hS; have cvq := HCA.out wq hS.1; go_simp; done)); simp only [Act.put, List.setIfInBounds_toArray, List.set_cons_zero, List.set_cons_succ]) | (refine wpTree.take (v := .string (bstr F)) (Or.inl ⟨by rfl, ?_⟩) ?_; (focus (intro wq hS; have cvq := HCB.out wq hS.1; go_simp; done)); simp only [Act.put, List.setIfInBounds_toArray, List.set_cons_zero, List.set_cons_succ]) | (refine wpTree.take (v := ?_) (Or.inl ⟨by rfl, ?_⟩) ?_; rotate_left; (focus (intro _ hS; (try dsimp only at hS); go_split_ands; (try subst hS); go_simp; (try (with_reducible rfl)); done)); simp only [Act.put, List.setIfInBounds_toArray, List.set_cons_zero, List.set_cons_succ])))
      refine wpTree.done ?_
      have HF := Lib.hid (HB5.out.trans (hHeld.1.mono HB5.out.size))
      clear hHeld cx ck rp rq hEL1 ew
      go_wp2_with fail
      go_ret
      exact ⟨by simp [HTB.out], HF.out⟩
end Mg
open Mg

set_option maxRecDepth 100000 in
theorem msgkinds_lifted (os : Os) (started : os.Started) (H : Type) (enc : TypeId × Value → H) :
    ReturnsInHanded {} Try.checked os 5 .any (Rows.msgKindsSpec.pre6 enc Try.prog Try.f5 Rows.msgKindsRow.domain false) (Rows.msgKindsSpec.post enc Try.prog Try.f5 false true false false) := by
  refine law_lift (C := Try.checked) own_knob started (by kernel_rfl) Try.func5 rfl Try.underlying4 laid_out (by kernel_rfl) rfl ?_
    (ChangeSpec.witness6 (enc := enc) (C := Try.checked) false ⟨#[], #[.agg #[.int .i64 0, .int .i64 0, .int .i64 0, .int .i64 0, .int .i64 0, .int .u64 0, .int .i64 0, .int .u32 0, .int .i64 0, .int .i64 0, .int .u32 0, .int .u32 0, .int .u32 0, .int .u32 0, .int .u32 0, .int .u32 0, .int .u32 0, .int .u32 0, .int .u32 0, .int .u32 0, .int .u32 0, .int .u32 0, .int .u64 0, .int .i64 0, .int .u32 0, .int .i64 0, .int .i64 0, .int .u32 0, .int .u32 0, .int .u32 0, .int .u32 0, .int .u32 0, .int .u32 0, .int .u32 0, .int .u32 0, .int .u32 0, .int .u32 0, .int .u32 0, .int .u32 0, .int .i64 0, .int .i64 0, .int .i64 0, .int .u64 0, .bool false, .int .u64 0, .int .u32 0, .int .u32 0, .int .u32 0, .int .u32 0, .int .u32 0, .int .u32 0, .int .u32 0, .int .u32 0, .int .u32 0, .int .u32 0, .int .u32 0, .int .u32 0], .agg #[.int .i64 0, .int .i64 0, .int .i64 0, .int .i64 0, .int .i64 0, .int .u64 0, .int .i64 0, .int .u32 0, .int .i64 0, .int .i64 0, .int .u32 0, .int .u32 0, .int .u32 0, .int .u32 0, .int .u32 0, .int .u32 0, .int .u32 0, .int .u32 0, .int .u32 0, .int .u32 0, .int .u32 0, .int .u32 0, .int .u64 0, .int .i64 0, .int .u32 0, .int .i64 0, .int .i64 0, .int .u32 0, .int .u32 0, .int .u32 0, .int .u32 0, .int .u32 0, .int .u32 0, .int .u32 0, .int .u32 0, .int .u32 0, .int .u32 0, .int .u32 0, .int .u32 0, .int .i64 0, .int .i64 0, .int .i64 0, .int .u64 0, .bool false, .int .u64 0, .int .u32 0, .int .u32 0, .int .u32 0, .int .u32 0, .int .u32 0, .int .u32 0, .int .u32 0, .int .u32 0, .int .u32 0, .int .u32 0, .int .u32 0, .int .u32 0]], []⟩ 8 (by kernel_rfl) (by kernel_rfl) (by kernel_rfl) (by kernel_rfl)) ?_
  · intro ds hds
    match ds, hds with
    | [_, _], _ => rfl
  intro W base args ds ps hval hA hlt hsz
  rw [Try.params5] at hA hval
  obtain ⟨v0, vs0, d0, ds0, p0, q0, hargs, rfl, rfl, h0, r0⟩ := trodAll_cons hA
  obtain ⟨v1, vs1, d1, ds1, p1, q1, rfl, rfl, rfl, h1, r1⟩ := trodAll_cons r0
  obtain ⟨rfl, rfl, rfl⟩ := trodAll_nil r1
  obtain rfl : args = #[v0, v1] := by cases args; simp_all
  obtain ⟨p, rfl, hp⟩ := open_pm (hval 0 60 v0 rfl rfl) h0
  obtain ⟨q, rfl, hq⟩ := open_pm (hval 1 60 v1 rfl rfl) h1
  exact kinds_walk p q hp hq W

theorem msgkinds_holds : Rows.MsgKindsSaid :=
  OpenClaim.holds_of_wide 5 Try.f5 rfl rfl rfl rfl rfl rfl rfl ⟨rfl, rfl, rfl, rfl, rfl⟩ rfl rfl rfl rfl rfl (by kernel_rfl) Try.func5 (by kernel_rfl)
    (of_decide_eq_true (by kernel_rfl)) (by unfold Func.isWrapper; first | (rw [if_pos (by decide +kernel)]; kernel_rfl) | (rw [if_neg (by decide +kernel)]; exact ⟨rfl, rfl⟩))
    (fun os started H enc _ => msgkinds_lifted os started H enc)


end Go.Proofs.Ytkigaclcmodjaaa
