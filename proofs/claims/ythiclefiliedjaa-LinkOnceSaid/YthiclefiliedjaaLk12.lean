/-
link: the link of bytes (load of the statements).
-/
import Derived.Test.YthiclefiliedjaaLk11
namespace Go.Proofs.Ythiclefiliedjaa
open Go.RowKit
set_option linter.unusedSimpArgs false
set_option linter.unusedVariables false
namespace Lk
theorem numP_err : ∀ (bs : List Nat) (b : Bool) (n : Nat) (x : Int), numP b n bs = .error x → x ≠ 0
  | [], b, n, x, h => by unfold numP at h; cases h; decide
  | y :: t, b, n, x, h => by
    unfold numP at h
    split at h
    · cases h; decide
    · split at h
      · cases h; decide
      · split at h
        · cases h
        · exact numP_err t _ _ x h
theorem smallP_ne {most : Int} {bs : List Nat} {x : Int} (h : smallP most bs = .error x) : x ≠ 0 := by
  unfold smallP at h
  split at h
  · split at h
    · cases h
    · cases h; decide
  · rename_i y hy
    cases h
    exact numP_err _ _ _ _ hy
theorem textP1_ne {bs : List Nat} {x : Int} (h : textP1 bs = .error x) : x ≠ 0 := by
  unfold textP1 at h
  split at h
  · split at h
    · cases h
    · cases h; decide
  · rename_i y hy
    cases h
    unfold textP at hy
    split at hy
    · split at hy
      · cases hy
      · cases hy; decide
    · rename_i z hz
      cases hy
      exact smallP_ne hz
theorem nextP_ne {bs : List Nat} {x : Int} (h : nextP bs = .error x) : x ≠ 0 := by
  unfold nextP at h
  split at h
  · split at h
    · cases h
    · cases h; decide
  · rename_i y hy
    cases h
    exact numP_err _ _ _ _ hy
theorem textsP_ne : ∀ (n : Nat) (acc : List (List Nat)) (bs : List Nat) (x : Int), textsP n acc bs = .error x → x ≠ 0
  | 0, acc, bs, x, h => by unfold textsP at h; cases h
  | n + 1, acc, bs, x, h => by
    unfold textsP at h
    split at h
    · exact textsP_ne n _ _ x h
    · rename_i y hy
      cases h
      exact textP1_ne hy
theorem linkP_ne {bs : List Nat} {x : Int} (h : linkP bs = .error x) : x ≠ 0 := by
  unfold linkP at h
  split at h
  · split at h
    · split at h
      · unfold restP at h
        split at h
        · split at h
          · cases h
          · rename_i y hy; cases h; exact nextP_ne hy
        · rename_i y hy; cases h; exact textsP_ne _ _ _ _ hy
      · cases h; decide
    · rename_i y hy; cases h; exact smallP_ne hy
  · rename_i y hy; cases h; exact nextP_ne hy
/-- What load's callback gives: the link is stored in box c. -/
def EndC (L c s : Nat) (W : World) (P : Except Int (LS × List Nat)) (e : Ending) (W' : World) : Prop :=
  match P with
  | .ok (S, q) => e = .returned (.tuple #[]) ∧ RdB L W' s q ∧ ∃ w1 d F, Off s W w1 ∧ W' = w1.setCell ⟨c, 0, none⟩ (.pointer (some ⟨d, 0, none⟩)) ∧ Blk W' c 23 #[.pointer (some ⟨d, 0, none⟩)] ∧ LK W' W.heap.size d F S
  | .error x => e = .panicked [{ v := flt s, recovered := false }] ∧ Met' W' s x ∧ Off s W W'
set_option maxHeartbeats 4000000 in
set_option maxRecDepth 20000 in
theorem load1_any {L k s c : Nat} {W : World} {bs : List Nat} (hr : Rdr W k s) (h : RdB L W s bs) (hk : k < W.heap.size) (hL : L ≤ W.heap.size) (hlen : bs.length ≤ 140737488355328) (h256 : ∀ y ∈ bs, y < 256) (hc : Blk W c 23 #[.pointer none]) (hcs : c ≠ s) (hcL : L ≤ c) :
    Calls Try.prog 43 #[.pointer (some ⟨k, 0, none⟩), .pointer (some ⟨c, 0, none⟩)] W fun e W' => EndC L c s W (linkP bs) e W' := by
  have HG := Lib.hid (get_any hr h hk hL hlen h256)
  have hcl := hc.lt
  have HC := Lib.hid (And.intro hc (And.intro hcl (And.intro hcs hcL)))
  have hs : s < W.heap.size := by obtain ⟨A, c, hR, _⟩ := h; exact World.block_lt_of_cell? W ⟨s, 0, none⟩ hR.1
  have HS := Lib.hid hs
  obtain ⟨R, hR⟩ : ∃ R, R = linkP bs := ⟨_, rfl⟩
  rw [← hR] at HG ⊢
  clear hR h hr hk hL hc hcl hcs hcL hlen h256 hs
  match R with
  | .error x =>
    go_enter Try.func43, Try.ntmps43
    go_wp2_with (first | (go_at_call 44; refine HG.out.mono ?_; rintro e w1 ⟨rfl, hM⟩; have HM := Lib.hid hM; clear hM))
    exact ⟨rfl, rfl, HM.out.1, HM.out.2⟩
  | .ok (S, q) =>
    go_enter Try.func43, Try.ntmps43
    have HG2 := Lib.hid (HG.out.mono (R' := fun e w1 => ∃ d, e = .returned (.pointer (some ⟨d, 0, none⟩)) ∧ Blk w1 c 23 #[.pointer none] ∧ RdB L w1 s q ∧ Off s W w1 ∧ ∃ F, LK w1 W.heap.size d F S) (by
      rintro e w1 ⟨d, rfl, hO, hK, hd⟩
      exact ⟨d, rfl, (hO.block c HC.out.2.1 HC.out.2.2.1).trans HC.out.1, hd, hO, _, hK⟩))
    clear HG
    go_wp2_with (first | (go_at_call 44; refine HG2.out.mono ?_; rintro e w1 ⟨d, rfl, hcc, hd, hO, hT⟩; have cc := hcc.cell 0; have fz := hcc.frozen 0; simp only [List.getElem?_toArray, List.getElem?_cons_zero] at cc; have HCC := Lib.hid hcc; clear hcc; have HO := Lib.hid hO; have HT := Lib.hid hT; have HD := Lib.hid hd; clear hd hO hT))
    have hf : ∀ j, j ≠ c → (w1.setCell ⟨c, 0, none⟩ (.pointer (some ⟨d, 0, none⟩))).heap[j]? = w1.heap[j]? := fun j hj => Below.heap_setCell w1 ⟨c, 0, none⟩ _ j hj
    have hz : (w1.setCell ⟨c, 0, none⟩ (.pointer (some ⟨d, 0, none⟩))).heap.size = w1.heap.size := by simp [World.setCell]
    have hb : Blk (w1.setCell ⟨c, 0, none⟩ (.pointer (some ⟨d, 0, none⟩))) c 23 #[.pointer (some ⟨d, 0, none⟩)] := Blk.setMid [.pointer (some ⟨d, 0, none⟩)] [] [.pointer none] [] w1 HCC.out rfl
    obtain ⟨F, T⟩ := HT.out
    refine ⟨rfl, .tuple #[], by simp [results, Try.results43, go_sem], rfl, rdb_keep HD.out (hf s (fun e => HC.out.2.2.1 e.symm)) (fun b hb _ _ => hf b (by have := HC.out.2.2.2; omega)) (Nat.le_of_eq hz.symm), w1, d, F, HO.out, rfl, hb, T.keep (fun j hF => hf j (by have := T.low j hF; have := HC.out.2.1; omega)) (Nat.le_of_eq hz.symm)⟩
/-- What load's read leaves. -/
def LoadP (bs : List Nat) (W : World) (r : Except Int (List Nat)) (W' : World) : Prop :=
  (match linkP bs with
    | .ok (S, q) => r = .ok q ∧ ∃ d F, Blk W' W.heap.size 23 #[.pointer (some ⟨d, 0, none⟩)] ∧ LK W' (W.heap.size + 5) d F S
    | .error x => r = .error x) ∧ Below W.heap.size W W'
set_option maxRecDepth 20000 in
theorem load_call (A : Option Addr) (n cp : Nat) (W : World) (bs : List Nat) (hn : bs.length = n) (hnc : n ≤ cp) (hlen : bs.length ≤ 140737488355328) (h256 : ∀ y ∈ bs, y < 256)
    (hbs : Byt.ByR W A bs) :
    Calls Try.prog 42 #[.slice A n cp, .func (.func 43) #[] #[.pointer (some ⟨W.heap.size, 0, none⟩)]] (W.alloc (.cells #[.pointer none] 23)) fun e W' => ∃ r, e = .returned (.int .i64 (readE r)) ∧ LoadP bs W r W' := by
  have hb0 : Below W.heap.size W (W.alloc (.cells #[.pointer none] 23)) := (Below.refl _ _).alloc (Nat.le_refl _) _
  have hsz : (W.alloc (.cells #[.pointer none] 23)).heap.size = W.heap.size + 1 := by simp
  have hg0 : Blk (W.alloc (.cells #[.pointer none] 23)) W.heap.size 23 #[.pointer none] := Blk.new W _ _
  obtain ⟨Wb, hWb⟩ : ∃ Wb, Wb = W.alloc (.cells #[.pointer none] 23) := ⟨_, rfl⟩
  rw [← hWb] at hb0 hsz hg0 ⊢
  clear hWb
  refine (read_any4 (L := W.heap.size) A n cp 43 #[.pointer (some ⟨W.heap.size, 0, none⟩)] Wb bs (fun r W2 => LoadP bs W r W2)
    (fun args w => run_enter Try.func43 (by kernel_rfl) (by kernel_rfl) args w) hn hnc (by omega) ?_ ?_).mono ?_
  · refine hbs.imp id ?_
    rintro ⟨b, p, h1, h2, h3⟩
    exact ⟨b, p, h1, h2, fun i x hx => (hb0.cell (p := ⟨b, p + i, none⟩) h2).trans (h3 i x hx)⟩
  · intro W1 k s hb hs hk hs1 h4 _ hR hB
    have hg1 := hg0.next hb
    have hk1 := World.block_lt_of_cell? W1 ⟨k, 0, none⟩ hR.2
    refine (load1_any (c := W.heap.size) hR hB hk1 (by omega) hlen h256 hg1 (by omega) (by omega)).mono ?_
    intro e W2 h
    unfold Fine LoadP
    unfold EndC at h
    cases hq : linkP bs with
    | error x =>
      rw [hq] at h
      obtain ⟨rfl, hM, hO⟩ := h
      refine ⟨fun b _ h6 h7 => hO.block b h6 h7, Or.inr ⟨x, linkP_ne hq, rfl, hM, rfl, ?_⟩⟩
      exact hb0.trans ((hb.mono (by omega)).trans (hO.belowB (by omega) (by omega)))
    | ok z =>
      obtain ⟨S, q⟩ := z
      rw [hq] at h
      obtain ⟨rfl, hB2, w1, d, F, hO, rfl, hcb, hK⟩ := h
      have hf : ∀ j, j ≠ W.heap.size → (w1.setCell ⟨W.heap.size, 0, none⟩ (.pointer (some ⟨d, 0, none⟩))).heap[j]? = w1.heap[j]? := fun j hj => Below.heap_setCell w1 ⟨W.heap.size, 0, none⟩ _ j hj
      refine ⟨fun j h5 h6 h7 => (hf j (by omega)).trans (hO.block j h6 h7), Or.inl ⟨q, rfl, hB2, ⟨rfl, d, F, hcb, ?_⟩, ?_⟩⟩
      · obtain ⟨A', c', l', D⟩ := hK
        exact ⟨A', c', l', { D with low := fun j hj => ⟨by have := D.low j hj; omega, (D.low j hj).2⟩ }⟩
      · exact (hb0.trans ((hb.mono (by omega)).trans (hO.belowB (by omega) (by omega)))).setCell (p := ⟨W.heap.size, 0, none⟩) (Nat.le_refl _) _
  · rintro e W' ⟨r, W2, hY, he, hb3, hk3⟩
    refine ⟨r, he, ?_⟩
    unfold LoadP at hY ⊢
    refine ⟨?_, hY.2.trans (hb3.mono (by omega))⟩
    have h1 := hY.1
    cases hq : linkP bs with
    | error x => rw [hq] at h1; exact h1
    | ok z =>
      obtain ⟨S, q⟩ := z
      rw [hq] at h1
      obtain ⟨rfl, d, F, hc, T⟩ := h1
      exact ⟨rfl, d, F, (hb3.block _ (by omega)).trans hc, T.keep (fun j hF => hk3 j (T.low j hF).2 (by have := (T.low j hF).1; omega) (by have := (T.low j hF).1; omega)) hb3.size⟩
section
variable (A : Option Addr) (n cp : Nat) (W : World) (bs : List Nat) (hn : bs.length = n) (hnc : n ≤ cp) (hlen : bs.length ≤ 140737488355328) (h256 : ∀ y ∈ bs, y < 256)
    (hbs : Byt.ByR W A bs)
include hn hnc hbs hlen h256
set_option maxRecDepth 20000 in
set_option maxHeartbeats 4000000 in
theorem load_yes {S : LS} (h : linkP bs = .ok (S, [])) :
    Calls Try.prog 25 #[.slice A n cp] W fun e W' => ∃ d F, e = .returned (.pointer (some ⟨d, 0, none⟩)) ∧ LK W' W.heap.size d F S ∧ Below W.heap.size W W' := by
  have HC := Lib.hid (load_call A n cp W bs hn hnc hlen h256 hbs)
  have hmf : ∀ (fn : Fn) (first cap : Array Value) (w : World), (Instr.makeFunc fn first cap).run Try.prog w = .ok (.func fn first cap) w := fun _ _ _ _ => rfl
  have HP := Lib.hid h
  clear hn hnc hbs h hlen h256
  go_enter Try.func25, Try.ntmps25
  go_wp2_with (first | (go_at_call 42; refine HC.out.mono ?_; rintro e W1 ⟨r, rfl, hR⟩; unfold LoadP at hR; rw [HP.out] at hR; obtain ⟨⟨rfl, d, F, hc, T⟩, hb⟩ := hR; have cc := hc.cell 0; simp only [List.getElem?_toArray, List.getElem?_cons_zero] at cc; have HT := Lib.hid T; have HB := Lib.hid hb; clear hb T hc; rw [show readE (.ok []) = 0 from rfl]))
  go_ret
  obtain ⟨A', c', l', D⟩ := HT.out
  exact ⟨d, F, rfl, ⟨A', c', l', { D with low := fun j hj => ⟨by have := D.low j hj; omega, (D.low j hj).2⟩ }⟩, HB.out⟩
set_option maxRecDepth 20000 in
set_option maxHeartbeats 4000000 in
theorem load_no (h : ∀ S, linkP bs ≠ .ok (S, [])) :
    Calls Try.prog 25 #[.slice A n cp] W fun e W' => e = .returned (.pointer none) ∧ Below W.heap.size W W' := by
  have HC := Lib.hid (load_call A n cp W bs hn hnc hlen h256 hbs)
  have hmf : ∀ (fn : Fn) (first cap : Array Value) (w : World), (Instr.makeFunc fn first cap).run Try.prog w = .ok (.func fn first cap) w := fun _ _ _ _ => rfl
  have HP := Lib.hid (show ∀ r W', LoadP bs W r W' → ∃ z : Int, readE r = z ∧ decide (z = 0) = false from fun r W' hR => by
    have h1 := hR.1
    refine ⟨readE r, rfl, decide_eq_false ?_⟩
    cases hq : linkP bs with
    | error x => rw [hq] at h1; subst h1; exact linkP_ne hq
    | ok q =>
      obtain ⟨S, q⟩ := q
      rw [hq] at h1
      obtain ⟨rfl, _⟩ := h1
      cases q with
      | nil => exact absurd hq (h S)
      | cons a t => unfold readE; simp)
  clear hn hnc hbs h hlen h256
  go_enter Try.func25, Try.ntmps25
  go_wp2_with fail
  refine HC.out.mono ?_
  rintro e W1 ⟨r, rfl, hR⟩
  obtain ⟨z, hz, hz0⟩ := HP.out r W1 hR
  obtain ⟨_, hb⟩ := hR
  have HB := Lib.hid hb
  have hz2 : z ≠ 0 := by simpa using hz0
  have hz1 : (z != 0) = true := by simpa using hz2
  have hz3 : (z == 0) = false := by simpa using hz2
  rw [hz]
  clear hb hz hz0 HP HC
  go_wp2_with fail
  go_ret
  exact ⟨rfl, HB.out⟩
end
end Lk
end Go.Proofs.Ythiclefiliedjaa
