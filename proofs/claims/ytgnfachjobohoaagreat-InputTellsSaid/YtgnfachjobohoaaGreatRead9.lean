/-
wire: the reader's Vector.
-/
import Derived.Test.YtgnfachjobohoaaGreatRead8
import Derived.Test.YtgnfachjobohoaaGreatCalls
namespace Go.Proofs.YtgnfachjobohoaaGreat
open Go.RowKit
variable {L : Nat}

theorem vecP_err {acc : List Nat} {k : Nat} {bs : List Nat} {e : Int} (h : numP true 0 bs = .error e) : vecP acc (k + 1) bs = .error e := by
  unfold vecP; rw [h]
theorem vecP_big {acc : List Nat} {k : Nat} {bs t : List Nat} {v : Nat} (h : numP true 0 bs = .ok (v, t)) (hv : ¬ v ≤ 4294967295) : vecP acc (k + 1) bs = .error 3 := by
  unfold vecP; rw [h]; exact if_neg hv
theorem vecP_none {acc : List Nat} {k : Nat} {bs t : List Nat} {v : Nat} (h : numP true 0 bs = .ok (v, t)) (hv : v ≤ 4294967295) (h0 : ¬ (0 < v ∨ 0 < k)) : vecP acc (k + 1) bs = .error 3 := by
  unfold vecP; rw [h]; exact (if_pos hv).trans (if_neg h0)
theorem vecP_next {acc : List Nat} {k : Nat} {bs t : List Nat} {v : Nat} (h : numP true 0 bs = .ok (v, t)) (hv : v ≤ 4294967295) (h0 : 0 < v ∨ 0 < k) : vecP acc (k + 1) bs = vecP (acc ++ [v]) k t := by
  conv => lhs; unfold vecP
  rw [h]; exact (if_pos hv).trans (if_pos h0)
theorem lv_snoc (acc : List Nat) (v : Nat) : (vl (lv acc)).set acc.length (.int .u32 (v : Nat)) = vl (lv (acc ++ [v])) := by
  rw [vl_set]
  refine vl_ext fun i _ => ?_
  unfold lv
  simp only [List.getD, List.getElem?_append]
  by_cases h1 : i = acc.length
  · subst h1; simp
  · rw [if_neg h1]
    by_cases h2 : i < acc.length
    · rw [if_pos h2]
    · rw [if_neg h2, List.getElem?_eq_none (by omega), List.getElem?_eq_none (by simp; omega)]
theorem Off.blk {s g : Nat} {w w' : World} {t : TypeId} {cs : Array Value} (hO : Off s w w') (h : Blk w g t cs) (hs : g ≠ s) : Blk w' g t cs := (hO.block g h.lt hs).trans h
theorem Rdr.below {W W' : World} {k s : Nat} (h : Rdr W k s) (hb : Below W.heap.size W W') : Rdr W' k s := ⟨h.1, (hb.cell (p := ⟨k, 0, none⟩) (World.block_lt_of_cell? W ⟨k, 0, none⟩ h.2)).trans h.2⟩
theorem RdB.lt {W : World} {s : Nat} {bs : List Nat} (h : RdB L W s bs) : s < W.heap.size := by
  obtain ⟨_, _, hR, _⟩ := h; exact hR.lt
/-- A cell elsewhere turns: the reading is as it was. -/
theorem Off.far {s g : Nat} {w w' : World} (h : Off s w w') (hg : w.heap.size ≤ g) (i : Nat) (u : Value) : Off s w (w'.setCell ⟨g, i, none⟩ u) :=
  ⟨h.os, h.tape, h.output, by simpa [World.setCell] using h.size, fun k hk hs => (Below.heap_setCell w' ⟨g, i, none⟩ u k (by simp; omega)).trans (h.block k hk hs)⟩
theorem Rd.far {W : World} {s g i : Nat} {r u : Value} {m : Int} {o : Bool} (h : Rd W s r m o) (hg : g ≠ s) : Rd (W.setCell ⟨g, i, none⟩ u) s r m o := by
  obtain ⟨h0, h1, h2, hz⟩ := h
  have hc : ∀ j, (W.setCell ⟨g, i, none⟩ u).cell? ⟨s, j, none⟩ = W.cell? ⟨s, j, none⟩ := fun j => by
    simp only [World.cell?]; rw [Below.heap_setCell W ⟨g, i, none⟩ u s (by simpa using Ne.symm hg)]
  exact ⟨(hc 0).trans h0, (hc 1).trans h1, (hc 2).trans h2, fun j => by simp [hz j]⟩
/-- A block that is no row of bytes, and not the reading, turns. -/
theorem RdB.far {W : World} {s g i : Nat} {u : Value} {bs : List Nat} (h : RdB L W s bs) (hg : g ≠ s) (hL : L ≤ g) : RdB L (W.setCell ⟨g, i, none⟩ u) s bs := by
  obtain ⟨A, c, hR, hc, h⟩ := h
  refine ⟨A, c, hR.far hg, hc, h.imp id ?_⟩
  rintro ⟨b, p, e, h1, ⟨h2, h3⟩, h4⟩
  refine ⟨b, p, e, h1, ⟨h2, by simpa [World.setCell] using h3⟩, fun j x hx => ?_⟩
  have : (W.setCell ⟨g, i, none⟩ u).cell? ⟨b, p + j, none⟩ = W.cell? ⟨b, p + j, none⟩ := by
    simp only [World.cell?]; rw [Below.heap_setCell W ⟨g, i, none⟩ u b (by simp; omega)]
  exact this.trans (h4 j x hx)
/-- All but one block, which is no part of it, is as it was. -/
theorem RdB.turn {W W' : World} {s g : Nat} {bs : List Nat} (h : RdB L W s bs) (hsz : W.heap.size ≤ W'.heap.size) (hf : ∀ k, k ≠ g → W'.heap[k]? = W.heap[k]?) (hg : g ≠ s) (hL : L ≤ g) : RdB L W' s bs := by
  have hc : ∀ b j, b ≠ g → W'.cell? ⟨b, j, none⟩ = W.cell? ⟨b, j, none⟩ := fun b j hb => by simp only [World.cell?]; rw [hf b hb]
  have hz : ∀ b j, b ≠ g → W'.frozen? ⟨b, j, none⟩ = W.frozen? ⟨b, j, none⟩ := fun b j hb => by simp only [World.frozen?]; rw [hf b hb]
  obtain ⟨A, c, ⟨h0, h1, h2, h3⟩, hl, h⟩ := h
  have hgs := Ne.symm hg
  refine ⟨A, c, ⟨(hc s 0 hgs).trans h0, (hc s 1 hgs).trans h1, (hc s 2 hgs).trans h2, fun j => (hz s j hgs).trans (h3 j)⟩, hl, h.imp id ?_⟩
  rintro ⟨b, p, e, k1, ⟨k2, k3⟩, k4⟩
  exact ⟨b, p, e, k1, ⟨k2, Nat.lt_of_lt_of_le k3 hsz⟩, fun j x hx => (hc b (p + j) (by omega)).trans (k4 j x hx)⟩
theorem Off.turn {s g : Nat} {w w' w'' : World} (h : Off s w w') (hg : w.heap.size ≤ g) (h1 : w''.os = w'.os) (h2 : w''.tape = w'.tape) (h3 : w''.output = w'.output) (h4 : w'.heap.size ≤ w''.heap.size) (hf : ∀ k, k ≠ g → w''.heap[k]? = w'.heap[k]?) : Off s w w'' :=
  ⟨h1.trans h.os, h2.trans h.tape, h3.trans h.output, Nat.le_trans h.size h4, fun k hk hs => (hf k (by omega)).trans (h.block k hk hs)⟩
theorem Rdr.far {W : World} {k s g i : Nat} {u : Value} (h : Rdr W k s) (hg : g ≠ k) : Rdr (W.setCell ⟨g, i, none⟩ u) k s := by
  refine ⟨h.1, ?_⟩
  have : (W.setCell ⟨g, i, none⟩ u).cell? ⟨k, 0, none⟩ = W.cell? ⟨k, 0, none⟩ := by
    simp only [World.cell?]; rw [Below.heap_setCell W ⟨g, i, none⟩ u k (by simpa using Ne.symm hg)]
  exact this.trans h.2
theorem Rdr.lt {W : World} {k s : Nat} (h : Rdr W k s) : k < W.heap.size := World.block_lt_of_cell? W ⟨k, 0, none⟩ h.2
theorem Off.ofBelow {s : Nat} {w w' : World} (h : Below w.heap.size w w') : Off s w w' := ⟨h.os, h.tape, h.output, h.size, fun k hk _ => h.block k hk⟩

/-- Behind i numbers of a vector of n: what is read, and where. -/
def VecAt (L s k g n : Nat) (t0 : List Nat) (W wr : World) (i : Nat) : Prop :=
  ∃ (acc t : List Nat), acc.length = i ∧ vecP acc (n - i) t = vecP [] n t0 ∧ RdB L wr s t ∧ Rdr wr k s ∧ Blk wr g 24 (vl (lv acc)).toArray ∧ Off s W wr
attribute [irreducible] VecAt
theorem VecAt.mk {L s k g n : Nat} {t0 : List Nat} {W wr : World} {i : Nat} (acc t : List Nat) (h1 : acc.length = i) (h2 : vecP acc (n - i) t = vecP [] n t0) (h3 : RdB L wr s t) (h4 : Rdr wr k s) (h5 : Blk wr g 24 (vl (lv acc)).toArray) (h6 : Off s W wr) : VecAt L s k g n t0 W wr i := by
  unfold VecAt; exact ⟨acc, t, h1, h2, h3, h4, h5, h6⟩
theorem VecAt.out {L s k g n : Nat} {t0 : List Nat} {W wr : World} {i : Nat} (h : VecAt L s k g n t0 W wr i) :
    ∃ (acc t : List Nat), acc.length = i ∧ vecP acc (n - i) t = vecP [] n t0 ∧ RdB L wr s t ∧ Rdr wr k s ∧ Blk wr g 24 (vl (lv acc)).toArray ∧ Off s W wr := by
  unfold VecAt at h; exact h

set_option maxHeartbeats 4000000 in
theorem rvector_any (k s : Nat) (bs : List Nat) (W : World) (hL : L ≤ W.heap.size) (hr : Rdr W k s) (h : RdB L W s bs) :
    Calls Tryz.prog 61 #[.pointer (some ⟨k, 0, none⟩)] W fun e W' => EndsV L s W (fun l => .agg (vl (lv l)).toArray) (vectorP bs) e W' := by
  have hklt := hr.lt
  have hslt := h.lt
  have HL := Lib.hid hL
  have b1 : Below W.heap.size W (W.alloc (.cells #[.int .u32 0, .int .u32 0, .int .u32 0, .int .u32 0, .int .u32 0, .int .u32 0, .int .u32 0, .int .u32 0, .int .u32 0, .int .u32 0, .int .u32 0, .int .u32 0] 24)) := (Below.refl _ W).alloc (Nat.le_refl _) _
  have HB1 := Lib.hid b1
  have HB := Lib.hid (h.below b1)
  have HR := Lib.hid (hr.below b1)
  have hk := (hr.below b1).2
  have HS := Lib.hid (small_any s bs 12 _ (h.below b1) (by omega))
  have HV := Lib.hid (show vectorP bs = match smallP 12 bs with
    | .ok (n, t) => vecP [] n t
    | .error e => .error e from rfl)
  have HG : Hid (Blk (W.alloc (.cells #[.int .u32 0, .int .u32 0, .int .u32 0, .int .u32 0, .int .u32 0, .int .u32 0, .int .u32 0, .int .u32 0, .int .u32 0, .int .u32 0, .int .u32 0, .int .u32 0] 24)) W.heap.size 24 (vl (lv [])).toArray) := Lib.hid (by rw [show lv [] = fun _ => 0 from rfl, vl_zero]; exact Blk.new _ _ _)
  have HKS := Lib.hid hr.1
  clear h hr hL b1
  obtain ⟨r, hrr⟩ : ∃ r, r = smallP 12 bs := ⟨_, rfl⟩
  obtain ⟨v, hvv⟩ : ∃ v, v = vectorP bs := ⟨_, rfl⟩
  have H12 := Lib.hid (fun (n : Nat) (t : List Nat) (h : r = .ok (n, t)) => (small_ok (hrr ▸ h : smallP 12 bs = .ok (n, t))).2)
  rw [← hrr] at HS HV
  rw [← hvv] at HV ⊢
  clear hrr hvv
  match r with
  | .error x =>
    go_enter Tryz.func61, Tryz.ntmps61
    go_wp2_with (first | (first | (refine wpList_load_blk rfl 24 _ rfl _ rfl 24 (vl ?_).toArray _ ?_ Tryz.underlying24 rfl (vinfo _) ?_; rotate_left; (focus ((first | assumption | ((repeat' (first | assumption | ((with_reducible refine Blk.new' ?_); (first | rfl | (simp; done))) | ((with_reducible refine Blk.newRow ?_); (first | rfl | (simp; done))) | ((with_reducible refine Blk.farRow ?_ ?_ _); rotate_left; (first | (simp; done) | (simp; omega) | omega)) | (with_reducible refine Blk.alloc ?_ _) | (with_reducible refine Blk.drew ?_) | ((with_reducible refine Blk.far ?_ ?_ _); rotate_left; (first | (simp; done) | (simp; omega) | omega)) | (with_reducible refine Blk.next' (by assumption) ?_))); done))))) | (refine wpList_store_blk rfl 24 _ _ rfl _ 24 ?_ (vl _).toArray rfl rfl ?_ (vinfo _) ?_ (vl_all _) ?_; rotate_left; (focus ((first | assumption | ((repeat' (first | assumption | ((with_reducible refine Blk.new' ?_); (first | rfl | (simp; done))) | ((with_reducible refine Blk.newRow ?_); (first | rfl | (simp; done))) | ((with_reducible refine Blk.farRow ?_ ?_ _); rotate_left; (first | (simp; done) | (simp; omega) | omega)) | (with_reducible refine Blk.alloc ?_ _) | (with_reducible refine Blk.drew ?_) | ((with_reducible refine Blk.far ?_ ?_ _); rotate_left; (first | (simp; done) | (simp; omega) | omega)) | (with_reducible refine Blk.next' (by assumption) ?_))); done)))); (focus (first | exact (vl_size _).trans (vl_size _).symm | exact (vl_size _).symm)); intro _hrow)) | (go_at_call 88; (with_reducible refine (on_any k s bs _ HR.out HB.out).mono ?_); rintro e w1 ⟨rfl, rfl⟩) | (go_at_call 89; refine HS.out.mono ?_; rintro e w2 ⟨hO, rfl, hM⟩))
    exact ⟨rfl, (Off.ofBelow HB1.out).trans hO, by rw [HV.out]; exact ⟨rfl, hM⟩⟩
  | .ok (n, t0) =>
    have hn12 : n ≤ 12 := by have := H12.out n t0 rfl; omega
    have hn12' : (n : Int) ≤ 12 := by omega
    clear H12
    go_enter Tryz.func61, Tryz.ntmps61
    go_wp2_with (first | (first | (refine wpList_load_blk rfl 24 _ rfl _ rfl 24 (vl ?_).toArray _ ?_ Tryz.underlying24 rfl (vinfo _) ?_; rotate_left; (focus ((first | assumption | ((repeat' (first | assumption | ((with_reducible refine Blk.new' ?_); (first | rfl | (simp; done))) | ((with_reducible refine Blk.newRow ?_); (first | rfl | (simp; done))) | ((with_reducible refine Blk.farRow ?_ ?_ _); rotate_left; (first | (simp; done) | (simp; omega) | omega)) | (with_reducible refine Blk.alloc ?_ _) | (with_reducible refine Blk.drew ?_) | ((with_reducible refine Blk.far ?_ ?_ _); rotate_left; (first | (simp; done) | (simp; omega) | omega)) | (with_reducible refine Blk.next' (by assumption) ?_))); done))))) | (refine wpList_store_blk rfl 24 _ _ rfl _ 24 ?_ (vl _).toArray rfl rfl ?_ (vinfo _) ?_ (vl_all _) ?_; rotate_left; (focus ((first | assumption | ((repeat' (first | assumption | ((with_reducible refine Blk.new' ?_); (first | rfl | (simp; done))) | ((with_reducible refine Blk.newRow ?_); (first | rfl | (simp; done))) | ((with_reducible refine Blk.farRow ?_ ?_ _); rotate_left; (first | (simp; done) | (simp; omega) | omega)) | (with_reducible refine Blk.alloc ?_ _) | (with_reducible refine Blk.drew ?_) | ((with_reducible refine Blk.far ?_ ?_ _); rotate_left; (first | (simp; done) | (simp; omega) | omega)) | (with_reducible refine Blk.next' (by assumption) ?_))); done)))); (focus (first | exact (vl_size _).trans (vl_size _).symm | exact (vl_size _).symm)); intro _hrow)) | (go_at_call 88; (with_reducible refine (on_any k s bs _ HR.out HB.out).mono ?_); rintro e w1 ⟨rfl, rfl⟩) | (go_at_call 89; refine HS.out.mono ?_; rintro e w2 ⟨hO, rfl, hB⟩))
    go_loopw [16] (fun i wr => ∃ j : Nat, j ≤ n ∧ i = .int .i64 j ∧ VecAt L s k W.heap.size n t0 W wr j) (fun i _ => n - (intOf i).toNat)
    case atStart => exact ⟨0, Nat.zero_le _, rfl, VecAt.mk [] t0 rfl rfl hB (HR.out.off hO) (hO.blk HG.out (by omega)) ((Off.ofBelow HB1.out).trans hO)⟩
    case round =>
      obtain ⟨j, hj, rfl, HA⟩ := hrel
      clear hO hB
      obtain ⟨acc, t, hacc, hP, hBw, hRw, hGw, hOw⟩ := HA.out
      clear HA
      have hkw := hRw.2
      have HBw := Lib.hid hBw
      have HRw := Lib.hid hRw
      have HGw := Lib.hid hGw
      have HOw := Lib.hid hOw
      have HP := Lib.hid hP
      have HN := Lib.hid (num_any s t wr hBw)
      have hwlt := hGw.lt
      have HLL := Lib.hid (numP_lt t true 0)
      clear hBw hRw hOw hP HS HB HR HB1 HG
      by_cases hlt : j < n
      · have h1 : (j : Int) < (n : Int) := by omega
        have hnj : n - j = (n - j - 1) + 1 := by omega
        rw [hnj] at HP
        obtain ⟨q, hq⟩ : ∃ q, q = n - j - 1 := ⟨_, rfl⟩
        rw [← hq] at HP
        obtain ⟨rn, hrn⟩ : ∃ rn, rn = numP true 0 t := ⟨_, rfl⟩
        have HRN := Lib.hid hrn.symm
        rw [← hrn] at HN HLL
        clear hrn
        clear hGw hnj
        match rn with
        | .error x =>
          go_wp2_with (first | (go_at_call 90; refine HN.out.mono ?_; rintro e w3 ⟨hO3, rfl, hM⟩))
          exact ⟨rfl, HOw.out.trans hO3, by rw [HV.out, ← HP.out, vecP_err HRN.out]; exact ⟨rfl, hM⟩⟩
        | .ok (x, u) =>
          have hx64 := HLL.out x u rfl
          have hx64' : (x : Int) < 18446744073709551616 := by omega
          clear HLL hx64
          by_cases hx : x ≤ 4294967295
          · have hx' : decide ((x : Int) ≤ 4294967295) = true := by simp; omega
            have ew : IntKind.u32.wrap (x : Int) = (x : Int) := by rw [IntKind.wrap_u32]; omega
            by_cases h0 : 0 < x ∨ 0 < q
            · have HX := Lib.hid hx
              have H0 := Lib.hid h0
              have e1 : IntKind.i64.wrap ((n : Int) - 1) = (n : Int) - 1 := by rw [IntKind.wrap_i64]; omega
              have hor : (0 : Int) < (x : Int) ∨ (¬ (0 : Int) < (x : Int) ∧ decide ((j : Int) < (n : Int) - 1) = true) := by rw [decide_eq_true_eq]; omega
              have HQ := Lib.hid hq
              have hj12 : j < 12 := by omega
              have hji : (j : Int) < 12 := by omega
              clear hx h0 hq hx64' h1
              rcases hor with hd | ⟨hd, hd2⟩
              all_goals
                go_wp2_with (first | (go_at_call 90; refine HN.out.mono ?_; rintro e w3 ⟨hO3, rfl, hB3⟩; have HB3 := Lib.hid hB3; clear hB3; have HG3 := Lib.hid (hO3.blk HGw.out (by omega)); have c3 := HG3.out.cell j; rw [List.getElem?_toArray, vl_get hj12] at c3; have z3 := HG3.out.frozen j; have hR3 := HRw.out.off hO3; have HR3 := Lib.hid hR3; have hk3 := hR3.2; clear hR3; have HO3 := Lib.hid hO3; clear hO3) | (go_at_call 91; (with_reducible refine (must_yes s _).mono ?_); rintro e w4 ⟨rfl, rfl⟩))
                go_roundw
                case rel =>
                  refine ⟨j + 1, by omega, by go_num, VecAt.mk (acc ++ [x]) u (by simp [hacc]) ?_ (HB3.out.far (by omega) HL.out) (HR3.out.far (by omega)) ?_ ((HOw.out.trans HO3.out).far (Nat.le_refl _) _ _)⟩
                  · rw [← HP.out, vecP_next HRN.out HX.out H0.out, HQ.out, show n - (j + 1) = n - j - 1 by omega]
                  · have hs := HG3.out.setCell j (.int .u32 (x : Nat))
                    rw [List.setIfInBounds_toArray, ← hacc, lv_snoc, hacc] at hs
                    first | exact hs | (rw [show (x : Int) = 0 by omega] at hs; exact hs)
                case measure => simp [intOf]; omega
            · have HX := Lib.hid hx
              have H0 := Lib.hid h0
              have e1 : IntKind.i64.wrap ((n : Int) - 1) = (n : Int) - 1 := by rw [IntKind.wrap_i64]; omega
              have hd : ¬ (0 : Int) < (x : Int) := by omega
              have hd2 : decide ((j : Int) < (n : Int) - 1) = false := by rw [decide_eq_false_iff_not]; omega
              clear hx h0 hq hx64' h1
              go_wp2_with (first | (go_at_call 90; refine HN.out.mono ?_; rintro e w3 ⟨hO3, rfl, hB3⟩; have HB3 := Lib.hid hB3; clear hB3; have hR3 := HRw.out.off hO3; have HR3 := Lib.hid hR3; have hk3 := hR3.2; clear hR3) | (go_at_call 91; (with_reducible refine (must_yes s _).mono ?_); rintro e w4 ⟨rfl, rfl⟩) | (go_at_call 91; (with_reducible refine (must_not s u _ HB3.out).mono ?_); rintro e w4 ⟨rfl, hM, hO4⟩))
              exact ⟨rfl, (HOw.out.trans hO3).trans hO4, by rw [HV.out, ← HP.out, vecP_none HRN.out HX.out H0.out]; exact ⟨rfl, hM⟩⟩
          · have hx' : decide ((x : Int) ≤ 4294967295) = false := by simp; omega
            have HX := Lib.hid hx
            clear hx hq
            go_wp2_with (first | (go_at_call 90; refine HN.out.mono ?_; rintro e w3 ⟨hO3, rfl, hB3⟩; have HB3 := Lib.hid hB3; clear hB3; have hR3 := HRw.out.off hO3; have HR3 := Lib.hid hR3; have hk3 := hR3.2; clear hR3) | (go_at_call 91; (with_reducible refine (must_not s u _ HB3.out).mono ?_); rintro e w4 ⟨rfl, hM, hO4⟩))
            exact ⟨rfl, (HOw.out.trans hO3).trans hO4, by rw [HV.out, ← HP.out, vecP_big HRN.out HX.out]; exact ⟨rfl, hM⟩⟩
      · obtain rfl : j = n := by omega
        have hE : vecP [] j t0 = .ok (acc, t) := by
          rw [← HP.out, Nat.sub_self]; rfl
        have HE := Lib.hid hE
        clear hE hlt
        go_wp2_with (first | (first | (refine wpList_load_blk rfl 24 _ rfl _ rfl 24 (vl ?_).toArray _ ?_ Tryz.underlying24 rfl (vinfo _) ?_; rotate_left; (focus ((first | assumption | ((repeat' (first | assumption | ((with_reducible refine Blk.new' ?_); (first | rfl | (simp; done))) | ((with_reducible refine Blk.newRow ?_); (first | rfl | (simp; done))) | ((with_reducible refine Blk.farRow ?_ ?_ _); rotate_left; (first | (simp; done) | (simp; omega) | omega)) | (with_reducible refine Blk.alloc ?_ _) | (with_reducible refine Blk.drew ?_) | ((with_reducible refine Blk.far ?_ ?_ _); rotate_left; (first | (simp; done) | (simp; omega) | omega)) | (with_reducible refine Blk.next' (by assumption) ?_))); done))))) | (refine wpList_store_blk rfl 24 _ _ rfl _ 24 ?_ (vl _).toArray rfl rfl ?_ (vinfo _) ?_ (vl_all _) ?_; rotate_left; (focus ((first | assumption | ((repeat' (first | assumption | ((with_reducible refine Blk.new' ?_); (first | rfl | (simp; done))) | ((with_reducible refine Blk.newRow ?_); (first | rfl | (simp; done))) | ((with_reducible refine Blk.farRow ?_ ?_ _); rotate_left; (first | (simp; done) | (simp; omega) | omega)) | (with_reducible refine Blk.alloc ?_ _) | (with_reducible refine Blk.drew ?_) | ((with_reducible refine Blk.far ?_ ?_ _); rotate_left; (first | (simp; done) | (simp; omega) | omega)) | (with_reducible refine Blk.next' (by assumption) ?_))); done)))); (focus (first | exact (vl_size _).trans (vl_size _).symm | exact (vl_size _).symm)); intro _hrow)))
        refine bodyPost_row (t := 24) (vl (lv acc)).toArray rfl rfl rfl Tryz.underlying24 rfl (vinfo _) ?_ ?_
        · (first | assumption | ((repeat' (first | assumption | ((with_reducible refine Blk.new' ?_); (first | rfl | (simp; done))) | ((with_reducible refine Blk.newRow ?_); (first | rfl | (simp; done))) | ((with_reducible refine Blk.farRow ?_ ?_ _); rotate_left; (first | (simp; done) | (simp; omega) | omega)) | (with_reducible refine Blk.alloc ?_ _) | (with_reducible refine Blk.drew ?_) | ((with_reducible refine Blk.far ?_ ?_ _); rotate_left; (first | (simp; done) | (simp; omega) | omega)) | (with_reducible refine Blk.next' (by assumption) ?_))); done))
        · rw [HV.out, HE.out]
          have hf : ∀ k, k ≠ W.heap.size → (wr.setRow W.heap.size (vl (lv acc)).toArray).heap[k]? = wr.heap[k]? := fun k hk => setRow_other wr W.heap.size k _ hk
          exact ⟨HOw.out.turn (Nat.le_refl _) rfl rfl rfl (by simp) hf, rfl, HBw.out.turn (g := W.heap.size) (by simp) hf (by omega) HL.out⟩
end Go.Proofs.YtgnfachjobohoaaGreat
