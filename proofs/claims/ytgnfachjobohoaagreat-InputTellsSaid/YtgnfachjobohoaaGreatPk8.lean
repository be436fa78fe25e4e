/-
packet: Read's walk.
packet: a packet's bytes are read as it, in one way alone.
packet: Same of equal packets; Great; Read in two cases.
packet: the fixed test of each law.
packet: PacketBack's walk.
packet: PacketBack, handed over.
-/
import Derived.Test.YtgnfachjobohoaaGreatPk4
import Derived.Test.YtgnfachjobohoaaGreatOpenG
namespace Go.Proofs.YtgnfachjobohoaaGreat
open Go.RowKit
set_option linter.unusedSimpArgs false
set_option linter.unusedVariables false
namespace Pk
theorem kP_right {bs q : List Nat} {p : Pt} {n : Nat} (h : kP bs = .ok ((p, n), q)) : Rt p := by
  unfold kP at h
  split at h
  · rename_i p' t hg
    have hp : p' = p := by
      unfold kP2 at h
      split at h
      · split at h
        · simp only [Except.ok.injEq, Prod.mk.injEq] at h; exact h.1.1
        · cases h
      · cases h
    subst hp
    have fin : ∀ {p0 : Pt} {t0 : List Nat}, finP p0 t0 = .ok (p', t) → Rt p' := by
      intro p0 t0 h
      unfold finP at h
      split at h
      · rename_i hr
        simp only [Except.ok.injEq, Prod.mk.injEq] at h
        rw [← h.1]; exact right_of hr
      · cases h
    unfold getP at hg
    split at hg
    · unfold getP1 at hg
      split at hg
      · unfold getP2 at hg
        split at hg
        · unfold getP3 at hg
          split at hg
          · unfold getP4 at hg
            split at hg
            · exact fin hg
            · split at hg
              · exact fin hg
              · cases hg
          · cases hg
        · cases hg
      · cases hg
    · cases hg
  · cases h
section
variable (A : Option Addr) (n cp : Nat) (W : World) (bs : List Nat) (hn : bs.length = n) (hnc : n ≤ cp) (hlen : bs.length ≤ 140737488355328) (h256 : ∀ y ∈ bs, y < 256)
    (hbs : Byt.ByR W A bs)
include hn hnc hbs hlen h256
set_option maxRecDepth 20000 in
set_option maxHeartbeats 4000000 in
theorem read_form (h : ∀ p m, kP bs ≠ .ok ((p, m), [])) :
    Calls Tryz.prog 94 #[.slice A n cp] W fun e W' => e = .returned (.tuple #[.agg zc, .int .i64 3]) ∧ Below W.heap.size W W' := by
  have HC := Lib.hid (read_call A n cp W bs hn hnc hlen h256 hbs)
  have hmf : ∀ (fn : Fn) (first cap : Array Value) (w : World), (Instr.makeFunc fn first cap).run Tryz.prog w = .ok (.func fn first cap) w := fun _ _ _ _ => rfl
  have HP := Lib.hid (show ∀ r W', ReadP bs W r W' → ∃ z : Int, readE r = z ∧ decide (z = 0) = false from fun r W' hR => by
    have h1 := hR.1
    refine ⟨readE r, rfl, decide_eq_false ?_⟩
    cases hq : kP bs with
    | error x => rw [hq] at h1; subst h1; exact kP_ne hq
    | ok q =>
      obtain ⟨⟨p, m⟩, q⟩ := q
      rw [hq] at h1
      obtain ⟨rfl, _⟩ := h1
      cases q with
      | nil => exact absurd hq (h p m)
      | cons a t => unfold readE; simp)
  clear hn hnc hbs h hlen h256
  go_enter Tryz.func94, Tryz.ntmps94
  go_upto_region 3 with fail
  go_wp2_with fail
  refine HC.out.mono ?_
  rintro e W1 ⟨r, rfl, hR⟩
  obtain ⟨z, hz, hz0⟩ := HP.out r W1 hR
  obtain ⟨_, hres, hb⟩ := hR
  have HB := Lib.hid hb
  have hz2 : z ≠ 0 := by simpa using hz0
  have hz1 : (z != 0) = true := by simpa using hz2
  have hz3 : (z == 0) = false := by simpa using hz2
  rw [hz]
  clear hb hz hz0 HP HC
  go_wp2_with (first | (refine wpList_store_blk rfl 30 _ _ rfl W.heap.size 30 zc zc rfl rfl hres (by kernel_rfl) rfl (by simp [Value.oneCell']) ?_; intro b5; clear b5))
  have hset := hres.setRow zc
  refine bodyPost_row_tmp (t := 30) zc (.int .i64 3) rfl rfl rfl rfl Tryz.underlying30 rfl (by kernel_rfl) hset ?_
  exact ⟨rfl, below_setRow HB.out (Nat.le_refl _) _⟩
set_option maxRecDepth 20000 in
set_option maxHeartbeats 4000000 in
theorem read_okL {p : Pt} {m : Nat} (h : kP bs = .ok ((p, m), [])) :
    Calls Tryz.prog 94 #[.slice A n cp] W fun e W' => Below W.heap.size W W' ∧ ((m = Crc.sum (encB p) ∧ ∃ A' c', e = .returned (.tuple #[.agg (Pc.mk p A' c').cells.toArray, .int .i64 0]) ∧ (Pc.mk p A' c').Ok W' ∧ (∀ b o, A' = some ⟨b, o, none⟩ → W.heap.size ≤ b)) ∨ (m ≠ Crc.sum (encB p) ∧ e = .returned (.tuple #[.agg zc, .int .i64 9]))) := by
  have HC := Lib.hid (read_call A n cp W bs hn hnc hlen h256 hbs)
  have hmf : ∀ (fn : Fn) (first cap : Array Value) (w : World), (Instr.makeFunc fn first cap).run Tryz.prog w = .ok (.func fn first cap) w := fun _ _ _ _ => rfl
  have HRT := Lib.hid (kP_right h)
  have HP := Lib.hid h
  obtain ⟨sm, hsm⟩ : ∃ sm, sm = Crc.sum (encB p) := ⟨_, rfl⟩
  rw [← hsm]
  have HSM := Lib.hid hsm
  clear hn hnc hbs h hlen h256 hsm
  go_enter Tryz.func94, Tryz.ntmps94
  go_upto_region 3 with fail
  go_upto_region 6 with (first | (go_at_call 20; refine HC.out.mono ?_; rintro e W1 ⟨r, rfl, hR⟩; unfold ReadP at hR; rw [HP.out] at hR; obtain ⟨⟨rfl, A', c', g1, g2, g3, g4⟩, hres, hb⟩ := hR; have H1 := Lib.hid (And.intro g1 (And.intro g2 (And.intro g3 (And.intro g4 (And.intro hres hb))))); clear g1 g2 g3 g4 hres hb; rw [show readE (.ok []) = 0 from rfl]))
  have hc2 : W1.cell? ⟨W.heap.size + 1 + 1, 0, none⟩ = some (.int .u64 (m : Nat)) := H1.out.2.1.cell 0
  have hr1 := H1.out.1.range
  have HBO := Lib.hid (body_any W1.drew (Pc.mk p A' c') HRT.out (H1.out.2.2.1.next (Below.refl _ _).drew))
  have HE := Lib.hid (And.intro (encB_len HRT.out) (encB_256 H1.out.2.2.1.h256))
  obtain ⟨en, hen⟩ : ∃ en, en = encB p := ⟨_, rfl⟩
  rw [← hen] at HE
  rw [show encB (Pc.mk p A' c').p = en from hen.symm] at HBO
  have hs : sm = Crc.sum en := by rw [hen]; exact HSM.out
  clear hen
  have hcl := Crc.sum_lt HE.out.2
  have HOF := Lib.hid (fun v w hv => of_any v en w hv (by have := HE.out.1; omega))
  rw [← hs] at hcl HOF
  have e1 : IntKind.u64.wrap (sm : Int) = (sm : Nat) := by rw [IntKind.wrap_u64]; omega
  clear hs hcl HC
  refine wp_region_tree (S := (fun w' => w'.cell? ⟨W.heap.size + 1 + 1, 0, none⟩ = some (.int .u64 (m : Nat)) ∧ w'.rangeAt (W.heap.size + 1) 0 (Pc.mk p A' c').cells)) (.take 0 (.take 1 (.one 2 (.one 3 (.one 4 (.take 5 (.take 6 .nil))))))) 9999 (by kernel_rfl) (by kernel_rfl) (by kernel_rfl) (by kernel_rfl) (by kernel_rfl) (fun _ _ d _ _ h => by cases d <;> exact h) ⟨hc2, hr1⟩ (fun hHeld => ?_); simp only [Tree.map, List.getElem?_toArray, List.getElem?_cons_zero, List.getElem?_cons_succ]
  (repeat (first | (refine wpTree.take (v := undef) (Or.inr ⟨by rfl, rfl⟩) ?_; simp only [Act.put, List.setIfInBounds_toArray, List.set_cons_zero, List.set_cons_succ]) | (refine wpTree.take (v := .agg (Pc.mk p A' c').cells.toArray) (yieldsIf_load_mid rfl 30 _ rfl _ _ rfl (Pc.mk p A' c').cells _ (fun _ hS => hS.2) Tryz.underlying30 rfl (pcinfo _)) ?_; simp only [Act.put, List.setIfInBounds_toArray, List.set_cons_zero, List.set_cons_succ]) | (refine wpTree.take (v := ?_) (Or.inl ⟨by rfl, ?_⟩) ?_; rotate_left; (focus (intro _ hS; (try dsimp only at hS); go_split_ands; (try subst hS); go_simp; (try (with_reducible rfl)); done)); simp only [Act.put, List.setIfInBounds_toArray, List.set_cons_zero, List.set_cons_succ])))
  have HK := Lib.hid (fun w (hb : Below W1.heap.size W1 w) => (show w.cell? ⟨W.heap.size + 1 + 1, 0, none⟩ = some (.int .u64 (m : Nat)) ∧ w.rangeAt (W.heap.size + 1) 0 (Pc.mk p A' c').cells from ⟨(H1.out.2.1.next hb).cell 0, (H1.out.1.next hb).range⟩))
  refine wpTree.one (fun K hK => ?_)
  go_simp
  go_at_call 85
  refine HBO.out.mono ?_
  rintro e w2 ⟨g, B, rfl, hB, hw, hb⟩
  have H2 := Lib.hid (And.intro ((Below.refl W1.heap.size W1).drew.trans hb) hw)
  refine hK.out _ _ (HK.out _ H2.out.1) (fun _ => ?_)
  clear hK K hHeld hB hw hb HBO hc2 hr1
  (try simp only [Act.put, List.setIfInBounds_toArray, List.set_cons_zero, List.set_cons_succ])
  refine wpTree.one (fun K hK => ?_)
  go_simp
  go_at_call 56
  refine (bytes_any B g en w2 H2.out.2 (by have := HE.out.1; omega)).mono ?_
  rintro e w3 ⟨v3, rfl, ho, hb⟩
  have H3 := Lib.hid (And.intro (H2.out.1.trans (hb.mono H2.out.1.size)) (own_bytes ho HE.out.2))
  refine hK.out _ _ (HK.out _ H3.out.1) (fun _ => ?_)
  clear hK K ho hb
  (try simp only [Act.put, List.setIfInBounds_toArray, List.set_cons_zero, List.set_cons_succ])
  refine wpTree.one (fun K hK => ?_)
  go_simp
  go_at_call 86
  refine (HOF.out v3 w3 H3.out.2).mono ?_
  rintro e w4 ⟨rfl, hb⟩
  have H4 := Lib.hid (H3.out.1.trans (hb.mono H3.out.1.size))
  refine hK.out _ _ (HK.out _ H4.out) (fun _ => ?_)
  clear hK K hb H3 H2 HOF HK
  (try simp only [Act.put, List.setIfInBounds_toArray, List.set_cons_zero, List.set_cons_succ])
  have hres := H1.out.2.2.2.2.1.next H4.out
  have hr4 := (H1.out.1.next H4.out).range
  have HOK := Lib.hid (H1.out.2.2.1.next H4.out)
  have HB := Lib.hid (H1.out.2.2.2.2.2.trans (H4.out.mono H1.out.2.2.2.2.2.size))
  have HLW := Lib.hid H1.out.2.2.2.1
  by_cases hms : m = sm
  · have q1 : ((m : Int) != (sm : Int)) = false := by simp [hms]
    have HMS := Lib.hid hms
    clear hms H1 H4
    (repeat (first | (refine wpTree.take (v := undef) (Or.inr ⟨by rfl, rfl⟩) ?_; simp only [Act.put, List.setIfInBounds_toArray, List.set_cons_zero, List.set_cons_succ]) | (refine wpTree.take (v := ?_) (Or.inl ⟨by rfl, ?_⟩) ?_; rotate_left; (focus (intro _ hS; (try dsimp only at hS); go_split_ands; (try subst hS); go_simp; (try (with_reducible rfl)); done)); simp only [Act.put, List.setIfInBounds_toArray, List.set_cons_zero, List.set_cons_succ])))
    refine wpTree.done ?_
    clear e1
    go_wp2_with (first | (refine wpList_load_mid rfl 30 _ rfl _ _ rfl (Pc.mk p A' c').cells _ hr4 Tryz.underlying30 rfl (pcinfo _) ?_) | (refine wpList_store_blk rfl 30 _ _ rfl W.heap.size 30 zc (Pc.mk p A' c').cells.toArray rfl rfl hres (pcinfoA _) (pc_siz _) (pc_one _) ?_; intro b5; clear b5))
    have hset := hres.setRow (Pc.mk p A' c').cells.toArray
    refine bodyPost_row_tmp (t := 30) (Pc.mk p A' c').cells.toArray (.int .i64 0) rfl rfl rfl rfl Tryz.underlying30 rfl (pcinfoA _) hset ?_
    refine ⟨below_setRow HB.out (Nat.le_refl _) _, Or.inl ⟨HMS.out, A', c', rfl, ?_, fun b o e => by have := HLW.out b o e; omega⟩⟩
    exact ok_keep (B := W.heap.size + 7) HOK.out HLW.out (fun b hb hl => setRow_other _ _ b _ (by omega)) (by simp [World.setRow])
  · have q1 : ((m : Int) != (sm : Int)) = true := by simp; omega
    have HMS := Lib.hid hms
    clear hms H1 H4
    (repeat (first | (refine wpTree.take (v := undef) (Or.inr ⟨by rfl, rfl⟩) ?_; simp only [Act.put, List.setIfInBounds_toArray, List.set_cons_zero, List.set_cons_succ]) | (refine wpTree.take (v := ?_) (Or.inl ⟨by rfl, ?_⟩) ?_; rotate_left; (focus (intro _ hS; (try dsimp only at hS); go_split_ands; (try subst hS); go_simp; (try (with_reducible rfl)); done)); simp only [Act.put, List.setIfInBounds_toArray, List.set_cons_zero, List.set_cons_succ])))
    refine wpTree.done ?_
    clear e1
    go_wp2_with (first | (refine wpList_store_blk rfl 30 _ _ rfl W.heap.size 30 zc zc rfl rfl hres (by kernel_rfl) rfl (by simp [Value.oneCell']) ?_; intro b5; clear b5))
    have hset := hres.setRow zc
    refine bodyPost_row_tmp (t := 30) zc (.int .i64 9) rfl rfl rfl rfl Tryz.underlying30 rfl (by kernel_rfl) hset ?_
    exact ⟨below_setRow HB.out (Nat.le_refl _) _, Or.inr ⟨HMS.out, rfl⟩⟩
theorem read_ok {p : Pt} {m : Nat} (h : kP bs = .ok ((p, m), [])) :
    Calls Tryz.prog 94 #[.slice A n cp] W fun e W' => Below W.heap.size W W' ∧ ((m = Crc.sum (encB p) ∧ ∃ A' c', e = .returned (.tuple #[.agg (Pc.mk p A' c').cells.toArray, .int .i64 0]) ∧ (Pc.mk p A' c').Ok W') ∨ (m ≠ Crc.sum (encB p) ∧ e = .returned (.tuple #[.agg zc, .int .i64 9]))) :=
  (read_okL A n cp W bs hn hnc hlen h256 hbs h).mono fun e W' h => ⟨h.1, h.2.imp (fun ⟨h1, A', c', h2, h3, _⟩ => ⟨h1, A', c', h2, h3⟩) id⟩
end
end Pk
end Go.Proofs.YtgnfachjobohoaaGreat
namespace Go.Proofs.YtgnfachjobohoaaGreat
open Go.RowKit
set_option linter.unusedSimpArgs false
set_option linter.unusedVariables false
namespace Pk
theorem k_bind : kP = bindP getP kP2 := by
  funext bs; unfold kP bindP
  cases getP bs with
  | error e => rfl
  | ok z => rfl
theorem g_bind : getP = bindP (smallP 1) getP1 := by
  funext bs; unfold getP bindP
  cases smallP 1 bs with
  | error e => rfl
  | ok z => rfl
theorem g1_bind (a : Nat) : getP1 a = bindP (smallP 12) (getP2 a) := by
  funext bs; unfold getP1 bindP
  cases smallP 12 bs with
  | error e => rfl
  | ok z => rfl
theorem g2_bind (a f : Nat) : getP2 a f = bindP (smallP 12) (getP3 a f) := by
  funext bs; unfold getP2 bindP
  cases smallP 12 bs with
  | error e => rfl
  | ok z => rfl
theorem g3_bind (a f t : Nat) : getP3 a f t = bindP (numP true 0) (getP4 a f t) := by
  funext bs; unfold getP3 bindP
  cases numP true 0 bs with
  | error e => rfl
  | ok z => rfl
theorem g4_yes (f t q : Nat) : getP4 1 f t q = finP ⟨true, f, t, q, []⟩ := by funext bs; unfold getP4; rw [if_pos rfl]
theorem g4_no (f t q : Nat) : getP4 0 f t q = bindP (textP 1800) (fun x => finP ⟨false, f, t, q, x⟩) := by
  funext bs; unfold getP4 bindP
  rw [if_neg (by decide)]
  cases textP 1800 bs with
  | error e => rfl
  | ok z => rfl
theorem fin_back {p : Pt} (h : Rt p) : Back (finP p) [] p := by
  have e : finP p = fun bs => .ok (p, bs) := by funext bs; unfold finP; rw [if_pos (of_right h)]
  rw [e]; exact back_pure p
theorem get_back {p : Pt} (h : Rt p) : Back getP (encB p) p := by
  obtain ⟨k, f0, t0, q, bs⟩ := p
  obtain ⟨f, rfl⟩ : ∃ f : Nat, f0 = (f : Nat) := ⟨f0.toNat, by have := h.f1; dsimp only at this; omega⟩
  obtain ⟨t, rfl⟩ : ∃ t : Nat, t0 = (t : Nat) := ⟨t0.toNat, by have := h.t1; dsimp only at this; omega⟩
  have hf := h.f2
  have ht := h.t2
  have hq := h.q2
  dsimp only at hf ht hq
  have bf := small_back 12 f (by omega) (by omega)
  have bt := small_back 12 t (by omega) (by omega)
  have bq := num_back q (by omega)
  rw [g_bind]
  cases k with
  | true =>
    have hb : bs = [] := by
      have := h.d
      unfold dataB at this
      simpa using this
    subst hb
    have h4 := fin_back h
    rw [← g4_yes] at h4
    have h3 := bq.bind (Q := getP4 1 f t) h4
    rw [← g3_bind] at h3
    have h2 := bt.bind (Q := getP3 1 f) h3
    rw [← g2_bind] at h2
    have h1 := bf.bind (Q := getP2 1) h2
    rw [← g1_bind] at h1
    have h0 := (small_back 1 1 (by omega) (by omega)).bind (Q := getP1) h1
    have e : encB ⟨true, (f : Nat), (t : Nat), q, []⟩ = enc 1 ++ (enc f ++ (enc t ++ (enc q ++ []))) := by
      unfold encB ackN
      simp
    rw [e]; exact h0
  | false =>
    have hl := h.len
    dsimp only at hl
    have h5 := (text_back 1800 bs (by omega) (by omega)).bind (Q := fun x => finP ⟨false, (f : Nat), (t : Nat), q, x⟩) (fin_back h)
    rw [← g4_no] at h5
    have h3 := bq.bind (Q := getP4 0 f t) h5
    rw [← g3_bind] at h3
    have h2 := bt.bind (Q := getP3 0 f) h3
    rw [← g2_bind] at h2
    have h1 := bf.bind (Q := getP2 0) h2
    rw [← g1_bind] at h1
    have h0 := (small_back 1 0 (by omega) (by omega)).bind (Q := getP1) h1
    have e : encB ⟨false, (f : Nat), (t : Nat), q, bs⟩ = enc 0 ++ (enc f ++ (enc t ++ (enc q ++ (enc bs.length ++ bs ++ [])))) := by
      unfold encB ackN
      simp
    rw [e]; exact h0
theorem k_back {p : Pt} (h : Rt p) (h256 : ∀ y ∈ p.bs, y < 256) : Back kP (encP p) (p, Crc.sum (encB p)) := by
  have hs := Crc.sum_lt (encB_256 h256)
  have h2 : Back (kP2 p) (enc (Crc.sum (encB p))) (p, Crc.sum (encB p)) := by
    refine ⟨fun t => ?_, fun k hk => ?_⟩
    · unfold kP2; rw [numP_enc _ (by omega) t]; exact if_pos (by omega)
    · unfold kP2; rw [enc_cut _ k (by omega) hk]
  rw [k_bind]
  exact (get_back h).bind (Q := kP2) h2
theorem k_yes {p : Pt} (h : Rt p) (h256 : ∀ y ∈ p.bs, y < 256) : kP (encP p) = .ok ((p, Crc.sum (encB p)), []) := by
  have := (k_back h h256).1 []
  rwa [List.append_nil] at this
theorem k_less {p : Pt} (h : Rt p) (h256 : ∀ y ∈ p.bs, y < 256) (k : Nat) (hk : k < (encP p).length) (x : Pt) (m : Nat) : kP ((encP p).take k) ≠ .ok ((x, m), []) := by
  rw [(k_back h h256).2 k hk]
  intro e; cases e
theorem fin_ok {p x : Pt} {t u : List Nat} (h : finP p t = .ok (x, u)) : p = x ∧ t = u := by
  unfold finP at h
  split at h
  · simp only [Except.ok.injEq, Prod.mk.injEq] at h; exact h
  · cases h
theorem get_one {bs t : List Nat} {p : Pt} (hb : ∀ y ∈ bs, y < 256) (h : getP bs = .ok (p, t)) : bs = encB p ++ t ∧ ∀ y ∈ t, y < 256 := by
  unfold getP at h
  split at h
  · rename_i a t1 h1
    have i1 := small_in hb h1
    have a1 := (small_ok h1).2
    unfold getP1 at h
    split at h
    · rename_i f t2 h2
      have i2 := small_in i1 h2
      unfold getP2 at h
      split at h
      · rename_i t' t3 h3
        have i3 := small_in i2 h3
        unfold getP3 at h
        split at h
        · rename_i q t4 h4
          have i4 := numP_in i3 h4
          unfold getP4 at h
          split at h
          · rename_i ha
            obtain ⟨rfl, rfl⟩ := fin_ok h
            refine ⟨?_, i4⟩
            rw [small_one hb h1, small_one i1 h2, small_one i2 h3, num_one i3 h4, ha]
            unfold encB ackN
            simp
          · rename_i ha
            split at h
            · rename_i x t5 h5
              have i5 := textP_in i4 h5
              obtain ⟨rfl, rfl⟩ := fin_ok h
              refine ⟨?_, i5.2⟩
              have ha0 : a = 0 := by omega
              rw [small_one hb h1, small_one i1 h2, small_one i2 h3, num_one i3 h4, text_one i4 h5, ha0]
              unfold encB ackN
              simp
            · cases h
        · cases h
      · cases h
    · cases h
  · cases h
theorem k_one {bs : List Nat} {p : Pt} (hb : ∀ y ∈ bs, y < 256) (h : kP bs = .ok ((p, Crc.sum (encB p)), [])) : bs = encP p := by
  unfold kP at h
  split at h
  · rename_i p' t hg
    obtain ⟨h1, h2⟩ := get_one hb hg
    unfold kP2 at h
    split at h
    · rename_i s q hn
      split at h
      · simp only [Except.ok.injEq, Prod.mk.injEq] at h
        obtain ⟨⟨rfl, rfl⟩, rfl⟩ := h
        rw [h1, num_one h2 hn]
        unfold encP
        simp
      · cases h
    · cases h
  · cases h
end Pk
end Go.Proofs.YtgnfachjobohoaaGreat
namespace Go.Proofs.YtgnfachjobohoaaGreat
open Go.RowKit
set_option linter.unusedSimpArgs false
set_option linter.unusedVariables false
namespace Pk
section
variable (W : World)
set_option maxRecDepth 20000 in
set_option maxHeartbeats 4000000 in
theorem same_yes (p : Pt) (A B : Option Addr) (c d : Nat) (h1 : (Pc.mk p A c).Ok W) (h2 : (Pc.mk p B d).Ok W) : Calls Tryz.prog 43 #[.agg (Pc.mk p A c).cells.toArray, .agg (Pc.mk p B d).cells.toArray] W fun e W' => e = .returned (.bool true) ∧ Below W.heap.size W W' := by
  obtain ⟨w1, hw1⟩ : ∃ w1, w1 = (W.alloc (.cells (Pc.mk p A c).cells.toArray 30)).alloc (.cells (Pc.mk p B d).cells.toArray 30) := ⟨_, rfl⟩
  have hb0 : Below W.heap.size W (W.alloc (.cells (Pc.mk p A c).cells.toArray 30)) := (Below.refl _ _).alloc (Nat.le_refl _) _
  have hb1 : Below W.heap.size W w1 := by rw [hw1]; exact hb0.alloc hb0.size _
  have hx : Blk w1 W.heap.size 30 (Pc.mk p A c).cells.toArray := by rw [hw1]; exact (Blk.new W _ _).next ((Below.refl _ _).alloc (Nat.le_refl _) _)
  have hy : Blk w1 (W.heap.size + 1) 30 (Pc.mk p B d).cells.toArray := by
    rw [hw1]
    have := Blk.new (W.alloc (.cells (Pc.mk p A c).cells.toArray 30)) 30 (Pc.mk p B d).cells.toArray
    rwa [show (W.alloc (.cells (Pc.mk p A c).cells.toArray 30)).heap.size = W.heap.size + 1 by simp] at this
  have c0 : w1.cell? ⟨W.heap.size, 0, none⟩ = some (.bool p.k) := hx.cell 0
  have c1 : w1.cell? ⟨W.heap.size, 1, none⟩ = some (.int .i64 p.f) := hx.cell 1
  have c2 : w1.cell? ⟨W.heap.size, 2, none⟩ = some (.int .i64 p.t) := hx.cell 2
  have c3 : w1.cell? ⟨W.heap.size, 3, none⟩ = some (.int .u64 (p.q : Nat)) := hx.cell 3
  have c4 : w1.cell? ⟨W.heap.size, 4, none⟩ = some (.slice A p.bs.length c) := hx.cell 4
  have d0 : w1.cell? ⟨W.heap.size + 1, 0, none⟩ = some (.bool p.k) := hy.cell 0
  have d1 : w1.cell? ⟨W.heap.size + 1, 1, none⟩ = some (.int .i64 p.f) := hy.cell 1
  have d2 : w1.cell? ⟨W.heap.size + 1, 2, none⟩ = some (.int .i64 p.t) := hy.cell 2
  have d3 : w1.cell? ⟨W.heap.size + 1, 3, none⟩ = some (.int .u64 (p.q : Nat)) := hy.cell 3
  have d4 : w1.cell? ⟨W.heap.size + 1, 4, none⟩ = some (.slice B p.bs.length d) := hy.cell 4
  have he := equal_any w1 A B p.bs.length p.bs.length c d p.bs p.bs rfl rfl (h1.next hb1).rd h1.hA (h2.next hb1).rd h2.hA h1.h256 h2.h256
  rw [decide_eq_true rfl] at he
  have HE := Lib.hid he
  have HB := Lib.hid hb1
  unfold Pc.cells at hw1 ⊢
  dsimp only at hw1 ⊢
  obtain ⟨k, hk⟩ : ∃ k, k = p.k := ⟨_, rfl⟩
  obtain ⟨f, hf⟩ : ∃ k, k = p.f := ⟨_, rfl⟩
  obtain ⟨t, ht⟩ : ∃ k, k = p.t := ⟨_, rfl⟩
  obtain ⟨q, hq⟩ : ∃ k, k = p.q := ⟨_, rfl⟩
  obtain ⟨n, hn⟩ : ∃ k, k = p.bs.length := ⟨_, rfl⟩
  rw [← hk] at c0 d0 hw1 ⊢
  rw [← hf] at c1 d1 hw1 ⊢
  rw [← ht] at c2 d2 hw1 ⊢
  rw [← hq] at c3 d3 hw1 ⊢
  rw [← hn] at c4 d4 hw1 HE ⊢
  have HW := Lib.hid hw1
  clear hw1 hb0 hb1 hx hy h1 h2 hk hf ht hq hn he
  go_enter Tryz.func43, Tryz.ntmps43
  go_upto_region 1 with fail
  rw [← HW.out]
  have kk : (k == k) = true := by cases k <;> rfl
  go_wp2_with (first | (go_at_call 74; refine HE.out.mono ?_; rintro e w2 ⟨rfl, rfl⟩))
  go_ret
  exact ⟨rfl, HB.out⟩
end
theorem great_any (W : World) (x : Pc) : Calls Tryz.prog 16 #[.agg x.cells.toArray] W fun e W' => e = .returned (.bool (decide ((1810 : Int) < (x.p.bs.length : Nat)))) ∧ Below W.heap.size W W' := by
  unfold Pc.cells
  obtain ⟨n, hn⟩ : ∃ k, k = x.p.bs.length := ⟨_, rfl⟩
  rw [← hn]
  clear hn
  go_enter Tryz.func16, Tryz.ntmps16
  go_wp2_with fail
  go_ret
  exact ⟨rfl, (Below.refl _ _).alloc (Nat.le_refl _) _⟩
theorem read_two (A : Option Addr) (n cp : Nat) (W : World) (bs : List Nat) (hn : bs.length = n) (hnc : n ≤ cp) (hlen : bs.length ≤ 140737488355328) (h256 : ∀ y ∈ bs, y < 256) (hbs : Byt.ByR W A bs) :
    Calls Tryz.prog 94 #[.slice A n cp] W fun e W' => Below W.heap.size W W' ∧ ((∃ p A' c', bs = encP p ∧ Rt p ∧ e = .returned (.tuple #[.agg (Pc.mk p A' c').cells.toArray, .int .i64 0]) ∧ (Pc.mk p A' c').Ok W') ∨ ∃ x : Int, x ≠ 0 ∧ e = .returned (.tuple #[.agg zc, .int .i64 x])) := by
  by_cases h : ∃ p m, kP bs = .ok ((p, m), [])
  · obtain ⟨p, m, h⟩ := h
    refine (read_ok A n cp W bs hn hnc hlen h256 hbs h).mono ?_
    rintro e W' ⟨hb, ⟨hm, A', c', rfl, ho⟩ | ⟨hm, rfl⟩⟩
    · exact ⟨hb, Or.inl ⟨p, A', c', k_one h256 (by rw [← hm]; exact h), kP_right h, rfl, ho⟩⟩
    · exact ⟨hb, Or.inr ⟨9, by decide, rfl⟩⟩
  · refine (read_form A n cp W bs hn hnc hlen h256 hbs (fun p m e => h ⟨p, m, e⟩)).mono ?_
    rintro e W' ⟨rfl, hb⟩
    exact ⟨hb, Or.inr ⟨3, by decide, rfl⟩⟩
theorem read_mine (A : Option Addr) (n cp : Nat) (W : World) (p : Pt) (hn : (encP p).length = n) (hnc : n ≤ cp) (hr : Rt p) (hp : ∀ y ∈ p.bs, y < 256) (hbs : Byt.ByR W A (encP p)) :
    Calls Tryz.prog 94 #[.slice A n cp] W fun e W' => Below W.heap.size W W' ∧ ∃ A' c', e = .returned (.tuple #[.agg (Pc.mk p A' c').cells.toArray, .int .i64 0]) ∧ (Pc.mk p A' c').Ok W' := by
  have hl := encB_len hr
  have hs := Crc.sum_lt (encB_256 hp)
  refine (read_ok A n cp W (encP p) hn hnc (by unfold encP; rw [List.length_append]; have := enc_len (Crc.sum (encB p)) (by omega); omega) (encP_256 hp) hbs (k_yes hr hp)).mono ?_
  rintro e W' ⟨hb, ⟨hm, A', c', rfl, ho⟩ | ⟨hm, rfl⟩⟩
  · exact ⟨hb, A', c', rfl, ho⟩
  · exact absurd rfl hm
end Pk
end Go.Proofs.YtgnfachjobohoaaGreat
namespace Go.Proofs.YtgnfachjobohoaaGreat
open Go.RowKit
set_option linter.unusedSimpArgs false
set_option linter.unusedVariables false
namespace Pk
theorem load_midg {P : Program} {ops : Array Oper} {rest : List Oper} {op : Oper} {a : Act} {w : World} {Q : Exit → Act → World → Prop} (hw : Region.wanted op (yielded ops a.tmps) = true) (ty : TypeId) (x : Operand) (ho : op.op = .load ty x)
    (b o : Nat) (hx : a.eval x = .pointer (some ⟨b, o, none⟩)) (cs : List Value) (d : TypeDesc) (hc : w.rangeAt b o cs)
    (hu : P.underlying ty = some d) (hd : d.isRow = true) (hi : (P.info? ty).map (·.size) = some cs.length)
    (h : wpList P ops Q rest (a.put op.dst (.agg cs.toArray)) w) : wpList P ops Q (op :: rest) a w :=
  wpList_step fun _ hK => by
    rw [if_pos hw]
    exact wp_load_mid ty x ho b o hx cs d hc hu hd hi (hK _ _ h)
theorem lit_byr {w : World} {bs : List Nat} {C : Array Value} {z : Nat × Nat} (h : C = (u8s bs).toArray) : Byt.ByR (w.alloc (.cells C 5 z)) (some ⟨w.heap.size, 0, none⟩) bs := by
  refine Or.inr ⟨w.heap.size, 0, rfl, by simp, fun i x hx => ?_⟩
  have hh := heap_alloc_new w (Obj.cells C 5 z)
  rw [Nat.zero_add, cell_of_row _ w.heap.size _ _ _ _ hh, h, List.getElem?_toArray]
  unfold u8s
  rw [List.getElem?_map, hx]
  rfl
abbrev p0 : Pt := ⟨true, 1, 2, 3, []⟩
theorem byr_take {W : World} {A : Option Addr} {bs : List Nat} (h : Byt.ByR W A bs) (k : Nat) : Byt.ByR W A (bs.take k) := by
  rcases h with rfl | ⟨b, p, e, h1, h2⟩
  · exact Or.inl (by simp)
  · refine Or.inr ⟨b, p, e, h1, fun i x hx => h2 i x ?_⟩
    have hi := (List.getElem?_eq_some_iff.1 hx).1
    rw [List.getElem?_take] at hx
    split at hx
    · exact hx
    · cases hx
theorem byr_some {W : World} {A : Option Addr} {bs : List Nat} (h : Byt.ByR W A bs) (h0 : bs.length ≠ 0) : ∃ g o, A = some ⟨g, o, none⟩ := by
  rcases h with rfl | ⟨b, p, e, h1, h2⟩
  · exact absurd rfl h0
  · exact ⟨b, p, e⟩
theorem fin_right : Rt p0 := right_of (by decide)
theorem fin_enc : encB p0 = [1, 1, 2, 3] := by decide +kernel
theorem fin_sum : ∃ s, Crc.sum (encB p0) = s + 1 := by
  have h : Crc.sum (encB p0) ≠ 0 := by rw [fin_enc]; decide +kernel
  exact ⟨Crc.sum (encB p0) - 1, by omega⟩
theorem fin_len : 5 ≤ (encP p0).length := by
  unfold encP
  rw [fin_enc]
  have : 1 ≤ (enc (Crc.sum [1, 1, 2, 3])).length := by unfold enc; simp
  rw [List.length_append]
  simp
  omega
theorem fin_take : (encP p0).take 4 = [1, 1, 2, 3] := by unfold encP; rw [fin_enc]; rfl
theorem fin_bad : ∀ p m, kP [] ≠ .ok ((p, m), []) := by
  intro p m e
  have : kP [] = .error 8 := by rfl
  rw [this] at e; cases e
theorem fin_five : kP [1, 1, 2, 3, 0] = .ok ((p0, 0), []) := by
  have h : [1, 1, 2, 3, 0] = encB p0 ++ enc 0 := by rw [fin_enc]; decide +kernel
  rw [h]
  unfold kP
  rw [(get_back fin_right).1]
  dsimp only
  unfold kP2
  have := numP_enc 0 (by omega) []
  rw [List.append_nil] at this
  rw [this]
  rfl
end Pk
end Go.Proofs.YtgnfachjobohoaaGreat
namespace Go.Proofs.YtgnfachjobohoaaGreat
open Go.RowKit
set_option linter.unusedSimpArgs false
set_option linter.unusedVariables false
namespace Pk
theorem good_any (A : Option Addr) (n cp : Nat) (W : World) (bs : List Nat) (hn : bs.length = n) (hnc : n ≤ cp) (hlen : bs.length ≤ 140737488355328) (h256 : ∀ y ∈ bs, y < 256) (hbs : Byt.ByR W A bs) {p : Pt} (h : kP bs = .ok ((p, Crc.sum (encB p)), [])) :
    Calls Tryz.prog 94 #[.slice A n cp] W fun e W' => Below W.heap.size W W' ∧ ∃ A' c', e = .returned (.tuple #[.agg (Pc.mk p A' c').cells.toArray, .int .i64 0]) ∧ (Pc.mk p A' c').Ok W' := by
  refine (read_ok A n cp W bs hn hnc hlen h256 hbs h).mono ?_
  rintro e W' ⟨hb, ⟨hm, A', c', rfl, ho⟩ | ⟨hm, rfl⟩⟩
  · exact ⟨hb, A', c', rfl, ho⟩
  · exact absurd rfl hm
theorem bad_any (A : Option Addr) (n cp : Nat) (W : World) (bs : List Nat) (hn : bs.length = n) (hnc : n ≤ cp) (hlen : bs.length ≤ 140737488355328) (h256 : ∀ y ∈ bs, y < 256) (hbs : Byt.ByR W A bs) (h : ∀ p, kP bs ≠ .ok ((p, Crc.sum (encB p)), [])) :
    Calls Tryz.prog 94 #[.slice A n cp] W fun e W' => Below W.heap.size W W' ∧ ∃ x : Int, x ≠ 0 ∧ e = .returned (.tuple #[.agg zc, .int .i64 x]) := by
  by_cases h1 : ∃ p m, kP bs = .ok ((p, m), [])
  · obtain ⟨p, m, h1⟩ := h1
    refine (read_ok A n cp W bs hn hnc hlen h256 hbs h1).mono ?_
    rintro e W' ⟨hb, ⟨hm, A', c', rfl, ho⟩ | ⟨hm, rfl⟩⟩
    · exact absurd (by rw [← hm]; exact h1) (h p)
    · exact ⟨hb, 9, by decide, rfl⟩
  · refine (read_form A n cp W bs hn hnc hlen h256 hbs (fun p m e => h1 ⟨p, m, e⟩)).mono ?_
    rintro e W' ⟨rfl, hb⟩
    exact ⟨hb, 3, by decide, rfl⟩
end Pk
end Go.Proofs.YtgnfachjobohoaaGreat
namespace Go.Proofs.YtgnfachjobohoaaGreat
open Go.RowKit Go.ChangeShapes Go.WideShapes Go.ChangeAt Go.WideElems
set_option linter.unusedSimpArgs false
set_option linter.unusedVariables false
namespace Pk
theorem own_knob : ownKnob Tryz.prog.godebug = none := by kernel_rfl
theorem laid_out : laidOutB Tryz.prog = true := by kernel_rfl
theorem okWide_struct {P : Program} {w : World} {r : Reach} {base : Nat} {t : TypeId} {fs : Array Field} {v : Value} (ht : P.underlying t = some (.struct fs)) (h : Value.okWide P w r base t v) : ∃ cs, v = .agg cs ∧ cs.size = P.cellsOf t := by
  simp only [Value.okWide, ht] at h
  obtain ⟨cs, h1, h2, _⟩ := h
  exact ⟨cs, h1, h2⟩
section
variable {H : Type} {enc : TypeId × Value → H} {w : World}
theorem cells_pk : Tryz.prog.cellsOf 30 = 5 := by kernel_rfl
theorem five_cells {cs : List Value} {a b c d e : Value} (hl : cs.length = 5) (h0 : (cs.drop 0).take 1 = [a]) (h1 : (cs.drop 1).take 1 = [b]) (h2 : (cs.drop 2).take 1 = [c]) (h3 : (cs.drop 3).take 1 = [d]) (h4 : (cs.drop 4).take 1 = [e]) : cs = [a, b, c, d, e] := by
  match cs, hl with
  | [x0, x1, x2, x3, x4], _ =>
    simp only [List.drop_zero, List.drop_succ_cons, List.take_succ_cons, List.take_zero, List.cons.injEq, and_true] at h0 h1 h2 h3 h4
    rw [h0, h1, h2, h3, h4]
theorem cells_one5 : Tryz.prog.cellsOf 4 = 1 ∧ Tryz.prog.cellsOf 3 = 1 ∧ Tryz.prog.cellsOf 25 = 1 ∧ Tryz.prog.cellsOf 28 = 1 := ⟨by kernel_rfl, by kernel_rfl, by kernel_rfl, by kernel_rfl⟩
set_option maxRecDepth 100000 in
theorem open_pk {base fuel : Nat} {hd : Bool} {cs : List Value} {x : DataW H × List MemPlace} (h : DataW.trod enc Tryz.prog w base (fun _ => true) hd fuel 30 cs = some x) (hlt : ∀ y ∈ x.2, y.block < w.heap.size) :
    ∃ p : Pc, cs = p.cells ∧ p.Ok w := by
  obtain ⟨xs, m, _, hx, hcl, hlen, hg⟩ := DataW.trod_struct Tryz.underlying30 h
  rw [cells_pk] at hcl
  have g0 : DataW.trod enc Tryz.prog w base (fun _ => true) hd m 4 ((cs.drop 0).take (Tryz.prog.cellsOf 4)) = xs[0]? := hg 0 _ rfl
  have g1 : DataW.trod enc Tryz.prog w base (fun _ => true) hd m 3 ((cs.drop 1).take (Tryz.prog.cellsOf 3)) = xs[1]? := hg 1 _ rfl
  have g2 : DataW.trod enc Tryz.prog w base (fun _ => true) hd m 3 ((cs.drop 2).take (Tryz.prog.cellsOf 3)) = xs[2]? := hg 2 _ rfl
  have g3 : DataW.trod enc Tryz.prog w base (fun _ => true) hd m 25 ((cs.drop 3).take (Tryz.prog.cellsOf 25)) = xs[3]? := hg 3 _ rfl
  have g4 : DataW.trod enc Tryz.prog w base (fun _ => true) hd m 28 ((cs.drop 4).take (Tryz.prog.cellsOf 28)) = xs[4]? := hg 4 _ rfl
  have hlen5 : xs.length = 5 := hlen
  clear hg hlen
  rw [cells_one5.1] at g0
  rw [cells_one5.2.1] at g1 g2
  rw [cells_one5.2.2.1] at g3
  rw [cells_one5.2.2.2] at g4
  rw [List.getElem?_eq_getElem (by omega)] at g0 g1 g2 g3 g4
  obtain ⟨k, e0, _⟩ := DataW.trod_bool Tryz.underlying4 g0
  obtain ⟨f, e1, _, _⟩ := DataW.trod_int Tryz.underlying3 g1
  obtain ⟨t, e2, _, _⟩ := DataW.trod_int Tryz.underlying3 g2
  obtain ⟨q, e3, _, w3⟩ := DataW.trod_int Tryz.underlying25 g3
  obtain ⟨A, ml, c, bs, e4, hm, hc, hc2, hby, hcell, hA⟩ := Byt.open_bytes_cells g4 (fun y hy => hlt y (by rw [hx]; exact List.mem_flatMap.2 ⟨xs[4], List.getElem_mem (by omega), hy⟩)) (fun _ => rfl)
  subst hm
  have hq := bounds_u64 w3
  obtain ⟨n, rfl⟩ : ∃ n : Nat, q = (n : Nat) := ⟨q.toNat, by omega⟩
  exact ⟨⟨⟨k, f, t, n, bs⟩, A, c⟩, five_cells hcl e0 e1 e2 e3 e4, ⟨hc, hby, hcell, hA⟩⟩
end

end Pk
end Go.Proofs.YtgnfachjobohoaaGreat
