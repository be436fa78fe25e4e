/-
relay: the fixed tree (a home 1, a shard 2, a serializer 3), and what is known of it.
-/
import Derived.Test.YtohnhokddbeheaaTh2
import Derived.Test.YtohnhokddbeheaaStore
namespace Go.Proofs.Ytohnhokddbeheaa
open Go.RowKit
set_option linter.unusedSimpArgs false
set_option linter.unusedVariables false
namespace Tr
def k0 (i : Nat) : Int := if i = 0 then 1 else if i = 1 then 2 else if i = 2 then 3 else 0
def t0 (g : Nat) : Tv := ⟨k0, [(1, 3), (2, 3)], some ⟨g, 0, none⟩, 2⟩
def jS (a b : Nat) : Bool := (decide (a = 3) && (decide (b = 1) || decide (b = 2))) || (decide (b = 3) && (decide (a = 1) || decide (a = 2)))
section
variable (g : Nat)
set_option maxRecDepth 20000 in
theorem t0_join (a b : Nat) : joinN (t0 g) a b = jS a b := by
  by_cases h : a < 13 ∧ b < 13
  · have h1 : ∀ a < 13, ∀ b < 13, joinN (t0 0) a b = jS a b := by decide +kernel
    exact h1 a h.1 b h.2
  · have h1 : joinN (t0 g) a b = false := by
      cases hj : joinN (t0 g) a b with
      | false => rfl
      | true =>
        have h2 := (join_gr (t0 g)).rng _ _ hj
        have h3 := (join_gr (t0 g)).rng2 hj
        omega
    rw [h1]
    unfold jS
    symm
    simp
    omega
theorem t0_homes : homesL (t0 g) 1 = [1] := by
  have h : homesL (t0 0) 1 = [1] := by decide +kernel
  exact h
theorem t0_all : allL (t0 g) = [1, 2, 3] := by
  have h : allL (t0 0) = [1, 2, 3] := by decide +kernel
  exact h
theorem t0_right : RightP (t0 g) true := by
  refine .inr (.inr (.inr ⟨?_, ?_, 1, fun n => decide (n = 1 ∨ n = 2 ∨ n = 3), by rw [t0_all]; rfl, fun n => ⟨fun h => ?_, fun h => ?_⟩, ?_⟩))
  · have h : anyB 12 k0 noKindB = false := by decide +kernel
    exact h
  · rw [t0_all]; rfl
  · rcases of_decide_eq_true h with rfl | rfl | rfl
    · exact .base
    · exact .step (.step .base (b := 3) (by omega) (by omega) (by rw [t0_join]; rfl)) (by omega) (by omega) (by rw [t0_join]; rfl)
    · exact .step .base (by omega) (by omega) (by rw [t0_join]; rfl)
  · refine decide_eq_true (rch_closed (c := fun n => n = 1 ∨ n = 2 ∨ n = 3) (.inl rfl) (fun a b _ hj => ?_) h)
    rw [t0_join] at hj
    unfold jS at hj
    simp at hj
    omega
  · have h : true = (decide ((thoseL fun n => decide (n = 1 ∨ n = 2 ∨ n = 3)).length = (allL (t0 0)).length) && !anyB (allL (t0 0)).length (fun i => ((allL (t0 0)).getD i 0 : Nat)) (fun n => !hangB (t0 0) n)) := by decide +kernel
    exact h
theorem t0_there {n : Nat} (h : thereB (t0 g).k (n : Nat) = true) : n = 1 ∨ n = 2 ∨ n = 3 := by
  have := all_mem.2 h
  rw [t0_all] at this
  simpa using this
theorem list_one {l : List Nat} {a : Nat} (h : l.Nodup) (hm : ∀ n, n ∈ l ↔ n = a) : l = [a] := by
  match l, h with
  | [], _ => have := (hm a).2 rfl; cases this
  | [x], _ => rw [(hm x).1 (by simp)]
  | x :: y :: l, h =>
    have h1 := (hm x).1 (by simp)
    have h2 := (hm y).1 (by simp)
    rw [h1, h2] at h
    simp at h
theorem t0_wn {n : Nat} : Wn (t0 g) 3 (n : Nat) 1 ↔ n = 1 := by
  have hj : jnB (t0 g) 3 ((n : Nat) : Int) = jS 3 n := t0_join g 3 n
  unfold Wn
  rw [hj, t0_homes]
  constructor
  · rintro ⟨h1, h, hh, hr⟩
    simp at hh
    subst hh
    by_cases h2 : n = 2
    · subst h2
      have := rch_closed (c := fun k => k = 2) rfl (fun a b ha hab => by
        subst ha
        unfold awayB at hab
        rw [Bool.and_eq_true] at hab
        obtain ⟨h5, h6⟩ := hab
        have h7 : joinN (t0 g) 2 b = true := h6
        rw [t0_join] at h7
        unfold jS at h7
        simp at h5 h7
        omega) hr
      omega
    · unfold jS at h1
      simp at h1
      omega
  · rintro rfl
    exact ⟨rfl, 1, by simp, .base⟩
theorem t0_toward {l : List Nat} (h : TwL (t0 g) 3 2 1 l) : l = [1] := by
  refine list_one (h.1.imp fun h => Nat.ne_of_lt h) fun n => ?_
  rw [h.2 n, t0_wn]
  omega
theorem t0_back {l : List Nat} (h : TwL (t0 g) 3 1 1 l) : l = [] := by
  match l, h with
  | [], _ => rfl
  | x :: l, h =>
    have := (h.2 x).1 (by simp)
    rw [t0_wn] at this
    omega
theorem t0_next : nextL (t0 g) 3 = [1, 2] := by
  have h : nextL (t0 0) 3 = [1, 2] := by decide +kernel
  exact h
end
theorem t0_cells (g : Nat) : (t0 g).cells = [.int .i64 1, .int .i64 2, .int .i64 3, .int .i64 0, .int .i64 0, .int .i64 0, .int .i64 0, .int .i64 0, .int .i64 0, .int .i64 0, .int .i64 0, .int .i64 0, .slice (some ⟨g, 0, none⟩) 2 2] := by
  unfold Tv.cells kl
  rfl
set_option maxRecDepth 20000 in
set_option maxHeartbeats 4000000 in
theorem small_any (W : World) : Calls Try.prog 23 #[] W fun e W' => ∃ g, e = .returned (.agg (t0 g).cells.toArray) ∧ RowsOf ec 2 W' (t0 g).A (t0 g).es ∧ Below W.heap.size W W' := by
  go_enter Try.func23, Try.ntmps23
  have hx0 : Blk ((W.alloc (.cells #[.int .i64 0, .int .i64 0, .int .i64 0, .int .i64 0, .int .i64 0, .int .i64 0, .int .i64 0, .int .i64 0, .int .i64 0, .int .i64 0, .int .i64 0, .int .i64 0, .slice none 0 0] 25)).alloc (.cells #[.int .i64 1, .int .i64 3, .int .i64 2, .int .i64 3] 75)) W.heap.size 25 #[.int .i64 0, .int .i64 0, .int .i64 0, .int .i64 0, .int .i64 0, .int .i64 0, .int .i64 0, .int .i64 0, .int .i64 0, .int .i64 0, .int .i64 0, .int .i64 0, .slice none 0 0] := (Blk.new W _ _).alloc _
  have hsz : (W.alloc (.cells #[.int .i64 0, .int .i64 0, .int .i64 0, .int .i64 0, .int .i64 0, .int .i64 0, .int .i64 0, .int .i64 0, .int .i64 0, .int .i64 0, .int .i64 0, .int .i64 0, .slice none 0 0] 25)).heap.size = W.heap.size + 1 := by simp
  have HX0 := Lib.hid hx0
  clear hx0
  go_wp2_with (refine wpList_store_blk rfl 25 _ _ rfl W.heap.size 25 #[.int .i64 0, .int .i64 0, .int .i64 0, .int .i64 0, .int .i64 0, .int .i64 0, .int .i64 0, .int .i64 0, .int .i64 0, .int .i64 0, .int .i64 0, .int .i64 0, .slice none 0 0] #[.int .i64 1, .int .i64 2, .int .i64 3, .int .i64 0, .int .i64 0, .int .i64 0, .int .i64 0, .int .i64 0, .int .i64 0, .int .i64 0, .int .i64 0, .int .i64 0, .slice (some ⟨W.heap.size + 1, 0, none⟩) 2 2] rfl (by first | rfl | (rw [hsz])) HX0.out (by kernel_rfl) rfl (by simp [Value.oneCell']) ?_; intro hY)
  refine bodyPost_row (t := 25) _ rfl rfl rfl Try.underlying25 rfl (by kernel_rfl) hY ⟨W.heap.size + 1, by rw [t0_cells], ?_, ?_⟩
  · have hE : Blk ((W.alloc (.cells #[.int .i64 0, .int .i64 0, .int .i64 0, .int .i64 0, .int .i64 0, .int .i64 0, .int .i64 0, .int .i64 0, .int .i64 0, .int .i64 0, .int .i64 0, .int .i64 0, .slice none 0 0] 25)).alloc (.cells #[.int .i64 1, .int .i64 3, .int .i64 2, .int .i64 3] 75)) (W.heap.size + 1) 75 #[.int .i64 1, .int .i64 3, .int .i64 2, .int .i64 3] := Blk.new' (by simp)
    have hE2 := hE.farRow (k := W.heap.size) (by omega) #[.int .i64 1, .int .i64 2, .int .i64 3, .int .i64 0, .int .i64 0, .int .i64 0, .int .i64 0, .int .i64 0, .int .i64 0, .int .i64 0, .int .i64 0, .int .i64 0, .slice (some ⟨W.heap.size + 1, 0, none⟩) 2 2]
    refine .inr ⟨W.heap.size + 1, 0, rfl, hE2.lt, fun i hi => ?_⟩
    match i, hi with
    | 0, _ =>
      intro j v hv
      match j, hv with
      | 0, hv => injection hv with hv; subst hv; exact hE2.cell 0
      | 1, hv => injection hv with hv; subst hv; exact hE2.cell 1
      | j + 2, hv => cases hv
    | 1, _ =>
      intro j v hv
      match j, hv with
      | 0, hv => injection hv with hv; subst hv; exact hE2.cell 2
      | 1, hv => injection hv with hv; subst hv; exact hE2.cell 3
      | j + 2, hv => cases hv
  · exact below_setRow (((Below.refl W.heap.size W).alloc (Nat.le_refl _) _).alloc (by simp) _) (Nat.le_refl _) _
end Tr
end Go.Proofs.Ytohnhokddbeheaa
