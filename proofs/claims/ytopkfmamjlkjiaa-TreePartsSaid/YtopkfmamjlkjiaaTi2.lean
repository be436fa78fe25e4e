/-
tree: the fixed tree (a home 1, a shard 2, a serializer 3), and what is known of it.
-/
import Derived.Test.YtopkfmamjlkjiaaTi
namespace Go.Proofs.Ytopkfmamjlkjiaa
open Go.RowKit
set_option linter.unusedSimpArgs false
set_option linter.unusedVariables false
namespace Tr
def k0 (i : Nat) : Int := if i = 0 then 1 else if i = 1 then 2 else if i = 2 then 3 else 0
def t0 (g : Nat) : Tv := ⟨k0, [(1, 3), (2, 3)], some ⟨g, 0, none⟩, 2⟩
def jS (a b : Nat) : Bool := (decide (a = 3) && (decide (b = 1) || decide (b = 2))) || (decide (b = 3) && (decide (a = 1) || decide (a = 2)))
section
variable (g : Nat)
set_option maxRecDepth 20000 in
theorem t0_join (a b : Nat) : joinN (t0 g) a b = jS a b := by
  by_cases h : a < 13 ∧ b < 13
  · have h1 : ∀ a < 13, ∀ b < 13, joinN (t0 0) a b = jS a b := by decide +kernel
    exact h1 a h.1 b h.2
  · have h1 : joinN (t0 g) a b = false := by
      cases hj : joinN (t0 g) a b with
      | false => rfl
      | true =>
        have h2 := (join_gr (t0 g)).rng _ _ hj
        have h3 := (join_gr (t0 g)).rng2 hj
        omega
    rw [h1]
    unfold jS
    symm
    simp
    omega
theorem t0_homes : homesL (t0 g) 1 = [1] := by
  have h : homesL (t0 0) 1 = [1] := by decide +kernel
  exact h
theorem t0_all : allL (t0 g) = [1, 2, 3] := by
  have h : allL (t0 0) = [1, 2, 3] := by decide +kernel
  exact h
theorem t0_right : RightP (t0 g) true := by
  refine .inr (.inr (.inr ⟨?_, ?_, 1, fun n => decide (n = 1 ∨ n = 2 ∨ n = 3), by rw [t0_all]; rfl, fun n => ⟨fun h => ?_, fun h => ?_⟩, ?_⟩))
  · have h : anyB 12 k0 noKindB = false := by decide +kernel
    exact h
  · rw [t0_all]; rfl
  · rcases of_decide_eq_true h with rfl | rfl | rfl
    · exact .base
    · exact .step (.step .base (b := 3) (by omega) (by omega) (by rw [t0_join]; rfl)) (by omega) (by omega) (by rw [t0_join]; rfl)
    · exact .step .base (by omega) (by omega) (by rw [t0_join]; rfl)
  · refine decide_eq_true (rch_closed (c := fun n => n = 1 ∨ n = 2 ∨ n = 3) (.inl rfl) (fun a b _ hj => ?_) h)
    rw [t0_join] at hj
    unfold jS at hj
    simp at hj
    omega
  · have h : true = (decide ((thoseL fun n => decide (n = 1 ∨ n = 2 ∨ n = 3)).length = (allL (t0 0)).length) && !anyB (allL (t0 0)).length (fun i => ((allL (t0 0)).getD i 0 : Nat)) (fun n => !hangB (t0 0) n)) := by decide +kernel
    exact h
theorem t0_there {n : Nat} (h : thereB (t0 g).k (n : Nat) = true) : n = 1 ∨ n = 2 ∨ n = 3 := by
  have := all_mem.2 h
  rw [t0_all] at this
  simpa using this
theorem list_one {l : List Nat} {a : Nat} (h : l.Nodup) (hm : ∀ n, n ∈ l ↔ n = a) : l = [a] := by
  match l, h with
  | [], _ => have := (hm a).2 rfl; cases this
  | [x], _ => rw [(hm x).1 (by simp)]
  | x :: y :: l, h =>
    have h1 := (hm x).1 (by simp)
    have h2 := (hm y).1 (by simp)
    rw [h1, h2] at h
    simp at h
theorem t0_toward {l : List Nat} (h : TwL (t0 g) 3 2 1 l) : l = [1] := by
  refine list_one (h.1.imp fun h => Nat.ne_of_lt h) fun n => ?_
  have h1 : n ∈ l ↔ twP (t0 g) 1 2 3 n := twl_nat (t := t0 g) (cart := 1) (f := 2) (x := 3) h n
  rw [h1]
  constructor
  · rintro ⟨h1, h2, -⟩
    rw [t0_join] at h1
    unfold jS at h1
    simp at h1
    omega
  · rintro rfl
    exact ⟨by rw [t0_join]; rfl, by omega, 1, by rw [t0_homes]; simp, bey_start (by rw [t0_join]; rfl)⟩
theorem t0_reach2 {O : List Nat} (h : ReachP (t0 g) 2 1 O) : O = [3, 1] := by
  rcases h with ⟨h, -⟩ | ⟨-, hb⟩
  · exact absurd (show thereB (t0 g).k 2 = true from by have h : thereB (t0 0).k 2 = true := (by decide +kernel); exact h) (by rw [h]; decide)
  · have hb : BE (joinN (t0 g)) (twP (t0 g) 1) 2 O := hb
    have t1 : twP (t0 g) 1 0 2 3 := ⟨by rw [t0_join]; rfl, by omega, 1, by rw [t0_homes]; simp, by rw [t0_join]; rfl, .step .base (by omega) (by omega) (aw_true.2 ⟨by omega, by rw [t0_join]; rfl⟩)⟩
    have t2 : twP (t0 g) 1 2 3 1 := ⟨by rw [t0_join]; rfl, by omega, 1, by rw [t0_homes]; simp, bey_start (by rw [t0_join]; rfl)⟩
    have h3 : 3 ∈ O := hb.cl 0 2 .root (by simp) 3 t1
    have h1 : 1 ∈ O := hb.cl 2 3 (.step .root t1.1 (by omega)) (List.mem_cons_of_mem _ h3) 1 t2
    have hm : ∀ n ∈ O, n = 1 ∨ n = 3 := fun n hn => by
      have h4 := hb.mem hn
      have := t0_there g h4.2
      omega
    have hn := (List.nodup_cons.1 hb.nd).2
    match O, hb, h3, h1, hm, hn with
    | n :: O, hb, h3, h1, hm, hn =>
      obtain ⟨f, x, -, ht, hx⟩ := hb.ord 0 n rfl
      simp at hx
      subst hx
      have hj := ht.1
      rw [t0_join] at hj
      unfold jS at hj
      simp at hj
      subst hj
      rw [List.nodup_cons] at hn
      have h1' : 1 ∈ O := (List.mem_cons.1 h1).resolve_left (by omega)
      rw [list_one (l := O) (a := 1) hn.2 fun n => ⟨fun h => (hm n (List.mem_cons_of_mem _ h)).resolve_right (fun e => hn.1 (e ▸ h)), fun e => e ▸ h1'⟩]
theorem t0_reach1 {O : List Nat} (h : ReachP (t0 g) 1 1 O) : O = [] := by
  rcases h with ⟨-, h⟩ | ⟨-, hb⟩
  · exact h
  · exact BE.own hb (t0_homes g)
theorem t0_wants : Wn (t0 g) 2 3 1 := by
  refine ⟨t0_join g 2 3, 1, by rw [t0_homes]; simp, ?_⟩
  have h : Rch (aw (joinN (t0 g)) 2) 3 1 := .step .base (by omega) (by omega) (aw_true.2 ⟨by omega, by rw [t0_join]; rfl⟩)
  rw [← away_aw] at h
  exact h
theorem t0_not : ¬ Wn (t0 g) 3 2 1 := by
  rintro ⟨-, h, hh, hr⟩
  rw [t0_homes] at hh
  simp at hh
  subst hh
  have hr : Rch (aw (joinN (t0 g)) 3) 2 1 := by rw [← away_aw]; exact hr
  have := rch_closed (c := fun n => n = 2) rfl (fun a b ha hj => by
    have h1 := aw_true.1 hj
    have h2 := h1.2
    rw [t0_join] at h2
    unfold jS at h2
    simp at h2
    omega) hr
  omega
end
theorem t0_cells (g : Nat) : (t0 g).cells = [.int .i64 1, .int .i64 2, .int .i64 3, .int .i64 0, .int .i64 0, .int .i64 0, .int .i64 0, .int .i64 0, .int .i64 0, .int .i64 0, .int .i64 0, .int .i64 0, .slice (some ⟨g, 0, none⟩) 2 2] := by
  unfold Tv.cells kl
  rfl
set_option maxRecDepth 20000 in
set_option maxHeartbeats 4000000 in
theorem small_any (W : World) : Calls Try.prog 44 #[] W fun e W' => ∃ g, e = .returned (.agg (t0 g).cells.toArray) ∧ RowsOf ec 2 W' (t0 g).A (t0 g).es ∧ Below W.heap.size W W' := by
  go_enter Try.func44, Try.ntmps44
  have hx0 : Blk ((W.alloc (.cells #[.int .i64 0, .int .i64 0, .int .i64 0, .int .i64 0, .int .i64 0, .int .i64 0, .int .i64 0, .int .i64 0, .int .i64 0, .int .i64 0, .int .i64 0, .int .i64 0, .slice none 0 0] 25)).alloc (.cells #[.int .i64 1, .int .i64 3, .int .i64 2, .int .i64 3] 95)) W.heap.size 25 #[.int .i64 0, .int .i64 0, .int .i64 0, .int .i64 0, .int .i64 0, .int .i64 0, .int .i64 0, .int .i64 0, .int .i64 0, .int .i64 0, .int .i64 0, .int .i64 0, .slice none 0 0] := (Blk.new W _ _).alloc _
  have hsz : (W.alloc (.cells #[.int .i64 0, .int .i64 0, .int .i64 0, .int .i64 0, .int .i64 0, .int .i64 0, .int .i64 0, .int .i64 0, .int .i64 0, .int .i64 0, .int .i64 0, .int .i64 0, .slice none 0 0] 25)).heap.size = W.heap.size + 1 := by simp
  have HX0 := Lib.hid hx0
  clear hx0
  go_wp2_with (refine wpList_store_blk rfl 25 _ _ rfl W.heap.size 25 #[.int .i64 0, .int .i64 0, .int .i64 0, .int .i64 0, .int .i64 0, .int .i64 0, .int .i64 0, .int .i64 0, .int .i64 0, .int .i64 0, .int .i64 0, .int .i64 0, .slice none 0 0] #[.int .i64 1, .int .i64 2, .int .i64 3, .int .i64 0, .int .i64 0, .int .i64 0, .int .i64 0, .int .i64 0, .int .i64 0, .int .i64 0, .int .i64 0, .int .i64 0, .slice (some ⟨W.heap.size + 1, 0, none⟩) 2 2] rfl (by first | rfl | (rw [hsz])) HX0.out (by kernel_rfl) rfl (by simp [Value.oneCell']) ?_; intro hY)
  refine bodyPost_row (t := 25) _ rfl rfl rfl Try.underlying25 rfl (by kernel_rfl) hY ⟨W.heap.size + 1, by rw [t0_cells], ?_, ?_⟩
  · have hE : Blk ((W.alloc (.cells #[.int .i64 0, .int .i64 0, .int .i64 0, .int .i64 0, .int .i64 0, .int .i64 0, .int .i64 0, .int .i64 0, .int .i64 0, .int .i64 0, .int .i64 0, .int .i64 0, .slice none 0 0] 25)).alloc (.cells #[.int .i64 1, .int .i64 3, .int .i64 2, .int .i64 3] 95)) (W.heap.size + 1) 95 #[.int .i64 1, .int .i64 3, .int .i64 2, .int .i64 3] := Blk.new' (by simp)
    have hE2 := hE.farRow (k := W.heap.size) (by omega) #[.int .i64 1, .int .i64 2, .int .i64 3, .int .i64 0, .int .i64 0, .int .i64 0, .int .i64 0, .int .i64 0, .int .i64 0, .int .i64 0, .int .i64 0, .int .i64 0, .slice (some ⟨W.heap.size + 1, 0, none⟩) 2 2]
    refine .inr ⟨W.heap.size + 1, 0, rfl, hE2.lt, fun i hi => ?_⟩
    match i, hi with
    | 0, _ =>
      intro j v hv
      match j, hv with
      | 0, hv => injection hv with hv; subst hv; exact hE2.cell 0
      | 1, hv => injection hv with hv; subst hv; exact hE2.cell 1
      | j + 2, hv => cases hv
    | 1, _ =>
      intro j v hv
      match j, hv with
      | 0, hv => injection hv with hv; subst hv; exact hE2.cell 2
      | 1, hv => injection hv with hv; subst hv; exact hE2.cell 3
      | j + 2, hv => cases hv
  · exact below_setRow (((Below.refl W.heap.size W).alloc (Nat.le_refl _) _).alloc (by simp) _) (Nat.le_refl _) _
end Tr
end Go.Proofs.Ytopkfmamjlkjiaa
