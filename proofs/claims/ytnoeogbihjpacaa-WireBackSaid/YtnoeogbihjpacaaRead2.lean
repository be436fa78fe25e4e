/-
wire: the deferred closure where nothing panicked; the bytes of a reading; take, num.
-/
import Derived.Test.YtnoeogbihjpacaaRead
import Derived.Lib.MinMax
namespace Go.Proofs.Ytnoeogbihjpacaa
open Go.RowKit
variable {L : Nat}

/-- Read's deferred function, where the function that reads ended. -/
theorem idle (s p q n c : Nat) (A : Option Addr) (x : Int) (W : World) (h : Rd W s (.slice A n c) 0 true)
    (hp : W.cell? ⟨p, 0, none⟩ = some (.pointer (some ⟨s, 0, none⟩))) (hq : W.cell? ⟨q, 0, none⟩ = some (.int .i64 x)) (hz : W.frozen? ⟨q, 0, none⟩ = false) (hne : q ≠ s) :
    CallsD Try.prog 69 #[.pointer (some ⟨p, 0, none⟩), .pointer (some ⟨q, 0, none⟩)] .returning W fun e u' W' =>
      e = .returned (.tuple #[]) ∧ u' = .returning ∧ W' = (EndW s (.pointer none) W.drew).setCell ⟨q, 0, none⟩ (.int .i64 (if 0 < n then 2 else 0)) := by
  have hp' : W.drew.cell? ⟨p, 0, none⟩ = some (.pointer (some ⟨s, 0, none⟩)) := hp
  have hR : Rd W.drew s (.slice A n c) 0 true := h
  have hqlt : q < W.heap.size := World.block_lt_of_cell? W ⟨q, 0, none⟩ hq
  have hO := EndW.off s (.pointer none) W.drew
  have hq' : (EndW s (.pointer none) W.drew).cell? ⟨q, 0, none⟩ = some (.int .i64 x) := (hO.cell (p := ⟨q, 0, none⟩) hqlt hne).trans hq
  have hz' : (EndW s (.pointer none) W.drew).frozen? ⟨q, 0, none⟩ = false := (hO.frozen (p := ⟨q, 0, none⟩) hqlt hne).trans hz
  have hend : Calls Try.prog 70 #[.pointer (some ⟨s, 0, none⟩), .nilIface] W.drew fun e W' => e = .returned (.int .i64 (if 0 < n then 2 else 0)) ∧ W' = EndW s (.pointer none) W.drew := by
    by_cases hn : 0 < n
    · rw [if_pos hn]; exact end_left s A n c _ hR hn
    · obtain rfl : n = 0 := by omega
      exact end_done s A c _ hR
  obtain ⟨y, hy⟩ : ∃ y : Int, y = if 0 < n then 2 else 0 := ⟨_, rfl⟩
  rw [← hy] at hend ⊢
  clear hy
  refine callsD_of_wpS Try.func69 rfl fun c₀ cs hu => ?_
  refine wpS_region_orders [[0, 1, 2, 3], [1, 0, 2, 3]] (by kernel_rfl) (by kernel_rfl) fun l hl => ?_
  simp only [List.mem_cons, List.not_mem_nil, or_false] at hl
  rcases hl with rfl | rfl
  all_goals
    simp [wpOpsS, go_sem, recoverD, hu, Try.ntmps69, hp']
    refine hend.mono ?_
    rintro e w' ⟨rfl, rfl⟩
    simp [go_sem, hq', hz', bodyPostS, results, Try.results69]
    first | done | (cases c₀; simp_all)

/-- The rest of a reading: these bytes, behind an address, or none. -/
def Rest (W : World) (A : Option Addr) (bs : List Nat) : Prop :=
  bs = [] ∨ ∃ b o, A = some ⟨b, o, none⟩ ∧ ∀ (i x : Nat), bs[i]? = some x → W.cell? ⟨b, o + i, none⟩ = some (.int .u8 (x : Nat))

theorem take_short (s n c k : Nat) (A : Option Addr) (m : Int) (o : Bool) (W : World) (h : Rd W s (.slice A n c) m o) (hk : n < k) :
    Calls Try.prog 75 #[.pointer (some ⟨s, 0, none⟩), .int .i64 k] W fun e W' => e = .panicked [{ v := flt s, recovered := false }] ∧ W' = W.setCell ⟨s, 1, none⟩ (.int .i64 8) := by
  have H := Lib.hid h
  obtain ⟨h0, h1, h2, hz⟩ := h
  clear hz h1 h2
  go_enter Try.func75, Try.ntmps75
  go_wp2_with (go_at_call 111; refine (fail_any s _ m o 8 _ H.out).mono ?_; rintro e w' ⟨rfl, rfl⟩)
  exact ⟨rfl, rfl, rfl⟩
theorem take_ok (s n c k b p : Nat) (m : Int) (o : Bool) (W : World) (h : Rd W s (.slice (some ⟨b, p, none⟩) n c) m o) (hk : k ≤ n) (hc : n ≤ c) :
    Calls Try.prog 75 #[.pointer (some ⟨s, 0, none⟩), .int .i64 k] W fun e W' =>
      e = .returned (.slice (some ⟨b, p, none⟩) k c) ∧ W' = W.setCell ⟨s, 0, none⟩ (.slice (some ⟨b, if c = k then p else p + k, none⟩) (n - k) (c - k)) := by
  obtain ⟨h0, h1, h2, hz⟩ := h
  have hz0 := hz 0
  clear hz h1 h2
  have hk' : ¬ n < k := by omega
  have hkc : k ≤ c := by omega
  by_cases hck : c = k
  · subst hck
    rw [if_pos rfl]
    go_enter Try.func75, Try.ntmps75
    go_wp2
    go_ret
    obtain rfl : n = c := by omega
    exact ⟨rfl, by simp⟩
  · rw [if_neg hck]
    go_enter Try.func75, Try.ntmps75
    go_wp2
    go_ret
    exact ⟨rfl, rfl⟩

theorem Rd.lt {W : World} {s : Nat} {r : Value} {m : Int} {o : Bool} (h : Rd W s r m o) : s < W.heap.size := World.block_lt_of_cell? W ⟨s, 0, none⟩ h.1
theorem set_same {W : World} {s i : Nat} {u v : Value} (h : W.cell? ⟨s, i, none⟩ = some v) : (W.setCell ⟨s, i, none⟩ u).cell? ⟨s, i, none⟩ = some u := by
  go_simp
theorem set_other {W : World} {s i j : Nat} {u : Value} (h : i ≠ j) : (W.setCell ⟨s, i, none⟩ u).cell? ⟨s, j, none⟩ = W.cell? ⟨s, j, none⟩ := by
  go_simp
theorem Rd.setRest {W : World} {s : Nat} {r : Value} {m : Int} {o : Bool} (h : Rd W s r m o) (r' : Value) : Rd (W.setCell ⟨s, 0, none⟩ r') s r' m o := by
  obtain ⟨h0, h1, h2, hz⟩ := h
  exact ⟨set_same h0, (set_other (by omega)).trans h1, (set_other (by omega)).trans h2, fun i => by simp [hz i]⟩
theorem Rd.setMet {W : World} {s : Nat} {r : Value} {m : Int} {o : Bool} (h : Rd W s r m o) (m' : Int) : Rd (W.setCell ⟨s, 1, none⟩ (.int .i64 m')) s r m' o := by
  obtain ⟨h0, h1, h2, hz⟩ := h
  exact ⟨(set_other (by omega)).trans h0, set_same h1, (set_other (by omega)).trans h2, fun i => by simp [hz i]⟩
theorem Rd.off {W W' : World} {s p : Nat} {r : Value} {m : Int} {o : Bool} (h : Rd W s r m o) (hO : Off p W W') (hs : s ≠ p) : Rd W' s r m o :=
  ⟨(hO.cell (p := ⟨s, 0, none⟩) h.lt hs).trans h.1, (hO.cell (p := ⟨s, 1, none⟩) h.lt hs).trans h.2.1, (hO.cell (p := ⟨s, 2, none⟩) h.lt hs).trans h.2.2.1, fun i => (hO.frozen (p := ⟨s, i, none⟩) h.lt hs).trans (h.2.2.2 i)⟩

/-- A reading, open and without a fault, of which these bytes are left. -/
def RdB (L : Nat) (W : World) (s : Nat) (bs : List Nat) : Prop :=
  ∃ A c, Rd W s (.slice A bs.length c) 0 true ∧ bs.length ≤ c ∧ (bs = [] ∨ ∃ b p, A = some ⟨b, p, none⟩ ∧ b ≠ s ∧ (b < L ∧ b < W.heap.size) ∧ ∀ (i x : Nat), bs[i]? = some x → W.cell? ⟨b, p + i, none⟩ = some (.int .u8 (x : Nat)))
/-- A reading that met this fault. -/
def Met' (W : World) (s : Nat) (x : Int) : Prop := ∃ A n c, Rd W s (.slice A n c) x true

theorem take_none (s : Nat) (W : World) (h : RdB L W s []) (k : Nat) (hk : 0 < k) :
    Calls Try.prog 75 #[.pointer (some ⟨s, 0, none⟩), .int .i64 k] W fun e W' => e = .panicked [{ v := flt s, recovered := false }] ∧ Met' W' s 8 ∧ Off s W W' := by
  obtain ⟨A, c, hR, _, _⟩ := h
  refine (take_short s 0 c k A 0 true W hR hk).mono ?_
  rintro e W' ⟨rfl, rfl⟩
  exact ⟨rfl, ⟨_, _, _, hR.setMet 8⟩, (Off.refl s W).set 1 _⟩
theorem take_one (s x : Nat) (t : List Nat) (W : World) (h : RdB L W s (x :: t)) :
    Calls Try.prog 75 #[.pointer (some ⟨s, 0, none⟩), .int .i64 1] W fun e W' =>
      ∃ b p c, e = .returned (.slice (some ⟨b, p, none⟩) 1 c) ∧ 1 ≤ c ∧ W'.cell? ⟨b, p, none⟩ = some (.int .u8 (x : Nat)) ∧ RdB L W' s t ∧ Off s W W' := by
  obtain ⟨A, c, hR, hc, h⟩ := h
  obtain ⟨b, p, rfl, hb, ⟨hL, hlt⟩, hx⟩ := h.resolve_left (by simp)
  have := take_ok s (t.length + 1) c 1 b p 0 true W hR (by omega) hc
  refine this.mono ?_
  rintro e W' ⟨rfl, rfl⟩
  have hO : Off s W (W.setCell ⟨s, 0, none⟩ (.slice (some ⟨b, if c = 1 then p else p + 1, none⟩) (t.length + 1 - 1) (c - 1))) := (Off.refl s W).set 0 _
  have hR' := hR.setRest (.slice (some ⟨b, if c = 1 then p else p + 1, none⟩) (t.length + 1 - 1) (c - 1))
  simp only [List.length_cons] at hc
  refine ⟨b, p, c, rfl, by omega, (hO.cell (p := ⟨b, p, none⟩) hlt hb).trans (hx 0 x rfl), ⟨_, _, hR', by omega, ?_⟩, hO⟩
  by_cases h1 : c = 1
  · left; exact List.length_eq_zero_iff.1 (by omega)
  · right
    rw [if_neg h1] at hO ⊢
    refine ⟨b, p + 1, rfl, hb, ⟨hL, Nat.lt_of_lt_of_le hlt hO.size⟩, fun i y hy => ?_⟩
    rw [hO.cell (p := ⟨b, p + 1 + i, none⟩) hlt hb]
    have := hx (i + 1) y (by simpa using hy)
    rwa [show p + (i + 1) = p + 1 + i by omega] at this

/-- What a number's bytes tell: the number and what is left, or the fault. -/
def numP : Bool → Nat → List Nat → Except Int (Nat × List Nat)
  | _, _, [] => .error 8
  | first, n, x :: t => if first && x == 128 then .error 3 else if 144115188075855871 < n then .error 3 else if x < 128 then .ok (n * 128 + x % 128, t) else numP false (n * 128 + x % 128) t

/-- How a part of a read ends. -/
def Ends (L s : Nat) (W : World) (val : Nat → Value) (r : Except Int (Nat × List Nat)) (e : Ending) (W' : World) : Prop :=
  Off s W W' ∧ match r with
  | .ok (v, t) => e = .returned (val v) ∧ RdB L W' s t
  | .error x => e = .panicked [{ v := flt s, recovered := false }] ∧ Met' W' s x

theorem must_yes' (s : Nat) (W : World) : Calls Try.prog 74 #[.pointer (some ⟨s, 0, none⟩), .bool true] W fun e W' => e = .returned (.tuple #[]) ∧ W = W' := must_yes s W
theorem must_not (s : Nat) (bs : List Nat) (W : World) (h : RdB L W s bs) :
    Calls Try.prog 74 #[.pointer (some ⟨s, 0, none⟩), .bool false] W fun e W' => e = .panicked [{ v := flt s, recovered := false }] ∧ Met' W' s 3 ∧ Off s W W' := by
  obtain ⟨A, c, hR, _, _⟩ := h
  refine (must_no s _ 0 true W hR).mono ?_
  rintro e W' ⟨rfl, rfl⟩
  exact ⟨rfl, ⟨_, _, _, hR.setMet 3⟩, (Off.refl s W).set 1 _⟩
end Go.Proofs.Ytnoeogbihjpacaa
