/-
wire: what a reading is, and its leaves: a fault, must.
wire: the deferred closure where nothing panicked; the bytes of a reading; take, num.
wire: num, small.
wire: the reader's simple calls: on, Num, Small, Must, Int.
wire: Read, of whatever function reads.
-/
import Derived.Test.YtifoheodcbjapaaRows
import Derived.Test.YtifoheodcbjapaaDrawnS
import Derived.Below
import Derived.Laws.Rows
import Derived.Laws.World
import Derived.WalkSpells
import Derived.WalkLawsBesides
import Derived.Lib.Hide
import Derived.Defers
import Derived.Laws.Pointers
import Derived.Lib.MinMax
namespace Go.Proofs.Ytifoheodcbjapaa
open Go.RowKit

/-- Block s is a reading: the rest, the first fault, whether the call goes on. -/
def Rd (W : World) (s : Nat) (r : Value) (m : Int) (o : Bool) : Prop :=
  W.cell? ⟨s, 0, none⟩ = some r ∧ W.cell? ⟨s, 1, none⟩ = some (.int .i64 m) ∧ W.cell? ⟨s, 2, none⟩ = some (.bool o) ∧ ∀ i, W.frozen? ⟨s, i, none⟩ = false
/-- All is as before, but for block s and new blocks. -/
structure Off (s : Nat) (w w' : World) : Prop where
  os : w'.os = w.os
  tape : w'.tape = w.tape
  output : w'.output = w.output
  size : w.heap.size ≤ w'.heap.size
  block : ∀ k, k < w.heap.size → k ≠ s → w'.heap[k]? = w.heap[k]?
theorem Off.refl (s : Nat) (w : World) : Off s w w := ⟨rfl, rfl, rfl, Nat.le_refl _, fun _ _ _ => rfl⟩
theorem Off.trans {s : Nat} {a b c : World} (h : Off s a b) (k : Off s b c) : Off s a c :=
  ⟨k.os.trans h.os, k.tape.trans h.tape, k.output.trans h.output, Nat.le_trans h.size k.size, fun i hi hs => (k.block i (Nat.lt_of_lt_of_le hi h.size) hs).trans (h.block i hi hs)⟩
theorem Off.set {s : Nat} {w w' : World} (h : Off s w w') (i : Nat) (u : Value) : Off s w (w'.setCell ⟨s, i, none⟩ u) :=
  h.trans ⟨rfl, rfl, rfl, by simp [World.setCell], fun k _ hs => Below.heap_setCell w' ⟨s, i, none⟩ u k hs⟩
theorem Off.below {s : Nat} {w w' : World} (h : Off s w w') (hs : w.heap.size ≤ s) : Below w.heap.size w w' :=
  ⟨h.os, h.tape, h.output, h.size, fun k hk => h.block k hk (by omega)⟩

/-- Block k is no row of bytes. -/
def NoRow (W : World) (k : Nat) : Prop := ∀ cur m, W.heap[k]? ≠ some (.cells cur 5 m)
/-- What a reading panics by. -/
def flt (s : Nat) : Value := .iface 130 (.agg #[.pointer (some ⟨s, 0, none⟩)])

theorem Off.cell {s : Nat} {w w' : World} (h : Off s w w') {p : Addr} (hp : p.block < w.heap.size) (hs : p.block ≠ s) : w'.cell? p = w.cell? p := by
  simp only [World.cell?, h.block _ hp hs]
theorem Off.frozen {s : Nat} {w w' : World} (h : Off s w w') {p : Addr} (hp : p.block < w.heap.size) (hs : p.block ≠ s) : w'.frozen? p = w.frozen? p := by
  simp only [World.frozen?, h.block _ hp hs]

theorem fail_any (s : Nat) (r : Value) (m : Int) (o : Bool) (x : Int) (W : World) (h : Rd W s r m o) :
    Calls Try.prog 87 #[.pointer (some ⟨s, 0, none⟩), .int .i64 x] W fun e W' =>
      e = .panicked [{ v := .iface 130 (.agg #[.pointer (some ⟨s, 0, none⟩)]), recovered := false }] ∧ W' = W.setCell ⟨s, 1, none⟩ (.int .i64 x) := by
  obtain ⟨h0, h1, h2, hz⟩ := h
  have hz1 := hz 1
  clear hz
  go_enter Try.func87, Try.ntmps87
  go_wp2
  exact ⟨rfl, rfl, rfl⟩
theorem must_yes (s : Nat) (W : World) : Calls Try.prog 83 #[.pointer (some ⟨s, 0, none⟩), .bool true] W fun e W' => e = .returned (.tuple #[]) ∧ W = W' := by
  go_enter Try.func83, Try.ntmps83
  go_wp2
  exact ⟨rfl, .tuple #[], by simp [results, Try.results83, go_sem], rfl, rfl⟩
theorem must_no (s : Nat) (r : Value) (m : Int) (o : Bool) (W : World) (h : Rd W s r m o) :
    Calls Try.prog 83 #[.pointer (some ⟨s, 0, none⟩), .bool false] W fun e W' => e = .panicked [{ v := flt s, recovered := false }] ∧ W' = W.setCell ⟨s, 1, none⟩ (.int .i64 3) := by
  go_enter Try.func83, Try.ntmps83
  go_wp2_with (go_at_call 87; refine (fail_any s r m o 3 _ h).mono ?_; rintro e w' ⟨rfl, rfl⟩)
  exact ⟨rfl, rfl, rfl⟩

theorem as_flt (v : Value) (w : World) : (Instr.typeAssert (.iface 130 v) 20 130 true).run Try.prog w = .ok (.tuple #[v, .bool true]) w := by kernel_rfl
theorem as_nil (w : World) : (Instr.typeAssert .nilIface 20 130 true).run Try.prog w = .ok (.tuple #[.agg #[.pointer none], .bool false]) w := by kernel_rfl

/-- The state that end leaves. -/
def EndW (s : Nat) (v : Value) (W : World) : World := ((W.setCell ⟨s, 0, none⟩ (.slice none 0 0)).setCell ⟨s, 2, none⟩ (.bool false)).alloc (.cells #[v] 130)
theorem EndW.off (s : Nat) (v : Value) (W : World) : Off s W (EndW s v W) := by
  unfold EndW
  refine (((Off.refl s W).set 0 (.slice none 0 0)).set 2 (.bool false)).trans ?_
  exact ⟨rfl, rfl, rfl, by simp, fun k hk _ => Below.heap_alloc _ _ k hk⟩
attribute [irreducible] EndW

/-- end, where nothing was met and nothing panicked. -/
theorem end_left (s : Nat) (A : Option Addr) (n c : Nat) (W : World) (h : Rd W s (.slice A n c) 0 true) (hn : 0 < n) :
    Calls Try.prog 73 #[.pointer (some ⟨s, 0, none⟩), .nilIface] W fun e W' => e = .returned (.int .i64 2) ∧ W' = EndW s (.pointer none) W := by
  obtain ⟨h0, h1, h2, hz⟩ := h
  have hz0 := hz 0
  have hz1 := hz 1
  have hz2 := hz 2
  have hn' : (0 : Int) < (n : Int) := by omega
  have hs : s < W.heap.size := World.block_lt_of_cell? W ⟨s, 0, none⟩ h0
  have ha := as_nil
  clear hz hn
  go_enter Try.func73, Try.ntmps73
  go_wp2
  go_ret
  exact ⟨rfl, by unfold EndW; rfl⟩
theorem end_done (s : Nat) (A : Option Addr) (c : Nat) (W : World) (h : Rd W s (.slice A 0 c) 0 true) :
    Calls Try.prog 73 #[.pointer (some ⟨s, 0, none⟩), .nilIface] W fun e W' => e = .returned (.int .i64 0) ∧ W' = EndW s (.pointer none) W := by
  obtain ⟨h0, h1, h2, hz⟩ := h
  have hz0 := hz 0
  have hz1 := hz 1
  have hz2 := hz 2
  have hs : s < W.heap.size := World.block_lt_of_cell? W ⟨s, 0, none⟩ h0
  have ha := as_nil
  clear hz
  go_enter Try.func73, Try.ntmps73
  go_wp2
  go_ret
  exact ⟨rfl, by unfold EndW; rfl⟩
theorem equalIn_self (d s : Nat) (w : World) : (Op.equalIn (d + 1) 118 (.pointer (some ⟨s, 0, none⟩)) (.pointer (some ⟨s, 0, none⟩))).run Try.prog w = .ok true w := by
  simp [Op.equalIn, run_underlying Try.underlying118, sameAddr]
theorem equal_self (s : Nat) (w : World) : (Op.equal 118 (.pointer (some ⟨s, 0, none⟩)) (.pointer (some ⟨s, 0, none⟩))).run Try.prog w = .ok true w := equalIn_self 9999 s w
theorem neq_self (s : Nat) (w : World) : (binOp .neq 118 (.pointer (some ⟨s, 0, none⟩)) (.pointer (some ⟨s, 0, none⟩))).run Try.prog w = .ok (.bool false) w := by
  simp only [binOp]
  simp [equal_self s w]
theorem end_met (s : Nat) (A : Option Addr) (n c : Nat) (m : Int) (W : World) (h : Rd W s (.slice A n c) m true) (hm : m ≠ 0) :
    Calls Try.prog 73 #[.pointer (some ⟨s, 0, none⟩), flt s] W fun e W' => e = .returned (.int .i64 m) ∧ W' = EndW s (.pointer (some ⟨s, 0, none⟩)) W := by
  obtain ⟨h0, h1, h2, hz⟩ := h
  have hz0 := hz 0
  have hz1 := hz 1
  have hz2 := hz 2
  have hm' : (m != 0) = true := by simpa using hm
  clear hz hm
  unfold flt
  have hs : s < W.heap.size := World.block_lt_of_cell? W ⟨s, 0, none⟩ h0
  have hs0 := as_flt
  have hq := neq_self s
  go_enter Try.func73, Try.ntmps73
  go_wp2
  go_ret
  exact ⟨rfl, by unfold EndW; rfl⟩

/-- Read's deferred function, where a fault of this reading is met: it is recovered, and told. -/
theorem caught (s p q n c : Nat) (A : Option Addr) (m x : Int) (older : List PanicEntry) (W : World) (h : Rd W s (.slice A n c) m true) (hm : m ≠ 0)
    (hp : W.cell? ⟨p, 0, none⟩ = some (.pointer (some ⟨s, 0, none⟩))) (hq : W.cell? ⟨q, 0, none⟩ = some (.int .i64 x)) (hz : W.frozen? ⟨q, 0, none⟩ = false) (hne : q ≠ s) :
    CallsD Try.prog 72 #[.pointer (some ⟨p, 0, none⟩), .pointer (some ⟨q, 0, none⟩)] (.panicking ({ v := flt s, recovered := false } :: older)) W fun e u' W' =>
      e = .returned (.tuple #[]) ∧ u' = .panicking ({ v := flt s, recovered := true } :: older) ∧ W' = (EndW s (.pointer (some ⟨s, 0, none⟩)) W.drew).setCell ⟨q, 0, none⟩ (.int .i64 m) := by
  have hp' : W.drew.cell? ⟨p, 0, none⟩ = some (.pointer (some ⟨s, 0, none⟩)) := hp
  have hR : Rd W.drew s (.slice A n c) m true := h
  have hqlt : q < W.heap.size := World.block_lt_of_cell? W ⟨q, 0, none⟩ hq
  have hO := EndW.off s (.pointer (some ⟨s, 0, none⟩)) W.drew
  have hq' : (EndW s (.pointer (some ⟨s, 0, none⟩)) W.drew).cell? ⟨q, 0, none⟩ = some (.int .i64 x) := (hO.cell (p := ⟨q, 0, none⟩) hqlt hne).trans hq
  have hz' : (EndW s (.pointer (some ⟨s, 0, none⟩)) W.drew).frozen? ⟨q, 0, none⟩ = false := (hO.frozen (p := ⟨q, 0, none⟩) hqlt hne).trans hz
  refine callsD_of_wpS Try.func72 rfl fun c₀ cs hu => ?_
  refine wpS_region_orders [[0, 1, 2, 3], [1, 0, 2, 3]] (by kernel_rfl) (by kernel_rfl) fun l hl => ?_
  simp only [List.mem_cons, List.not_mem_nil, or_false] at hl
  rcases hl with rfl | rfl
  all_goals
    simp [wpOpsS, go_sem, recoverD, hu, Try.ntmps72, hp']
    refine (end_met s A n c m _ hR hm).mono ?_
    rintro e w' ⟨rfl, rfl⟩
    simp [go_sem, hq', hz', bodyPostS, results, Try.results72]
end Go.Proofs.Ytifoheodcbjapaa
namespace Go.Proofs.Ytifoheodcbjapaa
open Go.RowKit
variable {L : Nat}

/-- Read's deferred function, where the function that reads ended. -/
theorem idle (s p q n c : Nat) (A : Option Addr) (x : Int) (W : World) (h : Rd W s (.slice A n c) 0 true)
    (hp : W.cell? ⟨p, 0, none⟩ = some (.pointer (some ⟨s, 0, none⟩))) (hq : W.cell? ⟨q, 0, none⟩ = some (.int .i64 x)) (hz : W.frozen? ⟨q, 0, none⟩ = false) (hne : q ≠ s) :
    CallsD Try.prog 72 #[.pointer (some ⟨p, 0, none⟩), .pointer (some ⟨q, 0, none⟩)] .returning W fun e u' W' =>
      e = .returned (.tuple #[]) ∧ u' = .returning ∧ W' = (EndW s (.pointer none) W.drew).setCell ⟨q, 0, none⟩ (.int .i64 (if 0 < n then 2 else 0)) := by
  have hp' : W.drew.cell? ⟨p, 0, none⟩ = some (.pointer (some ⟨s, 0, none⟩)) := hp
  have hR : Rd W.drew s (.slice A n c) 0 true := h
  have hqlt : q < W.heap.size := World.block_lt_of_cell? W ⟨q, 0, none⟩ hq
  have hO := EndW.off s (.pointer none) W.drew
  have hq' : (EndW s (.pointer none) W.drew).cell? ⟨q, 0, none⟩ = some (.int .i64 x) := (hO.cell (p := ⟨q, 0, none⟩) hqlt hne).trans hq
  have hz' : (EndW s (.pointer none) W.drew).frozen? ⟨q, 0, none⟩ = false := (hO.frozen (p := ⟨q, 0, none⟩) hqlt hne).trans hz
  have hend : Calls Try.prog 73 #[.pointer (some ⟨s, 0, none⟩), .nilIface] W.drew fun e W' => e = .returned (.int .i64 (if 0 < n then 2 else 0)) ∧ W' = EndW s (.pointer none) W.drew := by
    by_cases hn : 0 < n
    · rw [if_pos hn]; exact end_left s A n c _ hR hn
    · obtain rfl : n = 0 := by omega
      exact end_done s A c _ hR
  obtain ⟨y, hy⟩ : ∃ y : Int, y = if 0 < n then 2 else 0 := ⟨_, rfl⟩
  rw [← hy] at hend ⊢
  clear hy
  refine callsD_of_wpS Try.func72 rfl fun c₀ cs hu => ?_
  refine wpS_region_orders [[0, 1, 2, 3], [1, 0, 2, 3]] (by kernel_rfl) (by kernel_rfl) fun l hl => ?_
  simp only [List.mem_cons, List.not_mem_nil, or_false] at hl
  rcases hl with rfl | rfl
  all_goals
    simp [wpOpsS, go_sem, recoverD, hu, Try.ntmps72, hp']
    refine hend.mono ?_
    rintro e w' ⟨rfl, rfl⟩
    simp [go_sem, hq', hz', bodyPostS, results, Try.results72]
    first | done | (cases c₀; simp_all)

/-- The rest of a reading: these bytes, behind an address, or none. -/
def Rest (W : World) (A : Option Addr) (bs : List Nat) : Prop :=
  bs = [] ∨ ∃ b o, A = some ⟨b, o, none⟩ ∧ ∀ (i x : Nat), bs[i]? = some x → W.cell? ⟨b, o + i, none⟩ = some (.int .u8 (x : Nat))

theorem take_short (s n c k : Nat) (A : Option Addr) (m : Int) (o : Bool) (W : World) (h : Rd W s (.slice A n c) m o) (hk : n < k) :
    Calls Try.prog 90 #[.pointer (some ⟨s, 0, none⟩), .int .i64 k] W fun e W' => e = .panicked [{ v := flt s, recovered := false }] ∧ W' = W.setCell ⟨s, 1, none⟩ (.int .i64 8) := by
  have H := Lib.hid h
  obtain ⟨h0, h1, h2, hz⟩ := h
  clear hz h1 h2
  go_enter Try.func90, Try.ntmps90
  go_wp2_with (go_at_call 87; refine (fail_any s _ m o 8 _ H.out).mono ?_; rintro e w' ⟨rfl, rfl⟩)
  exact ⟨rfl, rfl, rfl⟩
theorem take_ok (s n c k b p : Nat) (m : Int) (o : Bool) (W : World) (h : Rd W s (.slice (some ⟨b, p, none⟩) n c) m o) (hk : k ≤ n) (hc : n ≤ c) :
    Calls Try.prog 90 #[.pointer (some ⟨s, 0, none⟩), .int .i64 k] W fun e W' =>
      e = .returned (.slice (some ⟨b, p, none⟩) k c) ∧ W' = W.setCell ⟨s, 0, none⟩ (.slice (some ⟨b, if c = k then p else p + k, none⟩) (n - k) (c - k)) := by
  obtain ⟨h0, h1, h2, hz⟩ := h
  have hz0 := hz 0
  clear hz h1 h2
  have hk' : ¬ n < k := by omega
  have hkc : k ≤ c := by omega
  by_cases hck : c = k
  · subst hck
    rw [if_pos rfl]
    go_enter Try.func90, Try.ntmps90
    go_wp2
    go_ret
    obtain rfl : n = c := by omega
    exact ⟨rfl, by simp⟩
  · rw [if_neg hck]
    go_enter Try.func90, Try.ntmps90
    go_wp2
    go_ret
    exact ⟨rfl, rfl⟩

theorem Rd.lt {W : World} {s : Nat} {r : Value} {m : Int} {o : Bool} (h : Rd W s r m o) : s < W.heap.size := World.block_lt_of_cell? W ⟨s, 0, none⟩ h.1
theorem set_same {W : World} {s i : Nat} {u v : Value} (h : W.cell? ⟨s, i, none⟩ = some v) : (W.setCell ⟨s, i, none⟩ u).cell? ⟨s, i, none⟩ = some u := by
  go_simp
theorem set_other {W : World} {s i j : Nat} {u : Value} (h : i ≠ j) : (W.setCell ⟨s, i, none⟩ u).cell? ⟨s, j, none⟩ = W.cell? ⟨s, j, none⟩ := by
  go_simp
theorem Rd.setRest {W : World} {s : Nat} {r : Value} {m : Int} {o : Bool} (h : Rd W s r m o) (r' : Value) : Rd (W.setCell ⟨s, 0, none⟩ r') s r' m o := by
  obtain ⟨h0, h1, h2, hz⟩ := h
  exact ⟨set_same h0, (set_other (by omega)).trans h1, (set_other (by omega)).trans h2, fun i => by simp [hz i]⟩
theorem Rd.setMet {W : World} {s : Nat} {r : Value} {m : Int} {o : Bool} (h : Rd W s r m o) (m' : Int) : Rd (W.setCell ⟨s, 1, none⟩ (.int .i64 m')) s r m' o := by
  obtain ⟨h0, h1, h2, hz⟩ := h
  exact ⟨(set_other (by omega)).trans h0, set_same h1, (set_other (by omega)).trans h2, fun i => by simp [hz i]⟩
theorem Rd.off {W W' : World} {s p : Nat} {r : Value} {m : Int} {o : Bool} (h : Rd W s r m o) (hO : Off p W W') (hs : s ≠ p) : Rd W' s r m o :=
  ⟨(hO.cell (p := ⟨s, 0, none⟩) h.lt hs).trans h.1, (hO.cell (p := ⟨s, 1, none⟩) h.lt hs).trans h.2.1, (hO.cell (p := ⟨s, 2, none⟩) h.lt hs).trans h.2.2.1, fun i => (hO.frozen (p := ⟨s, i, none⟩) h.lt hs).trans (h.2.2.2 i)⟩

/-- A reading, open and without a fault, of which these bytes are left. -/
def RdB (L : Nat) (W : World) (s : Nat) (bs : List Nat) : Prop :=
  ∃ A c, Rd W s (.slice A bs.length c) 0 true ∧ bs.length ≤ c ∧ (bs = [] ∨ ∃ b p, A = some ⟨b, p, none⟩ ∧ b ≠ s ∧ (b < L ∧ b < W.heap.size) ∧ ∀ (i x : Nat), bs[i]? = some x → W.cell? ⟨b, p + i, none⟩ = some (.int .u8 (x : Nat)))
/-- A reading that met this fault. -/
def Met' (W : World) (s : Nat) (x : Int) : Prop := ∃ A n c, Rd W s (.slice A n c) x true

theorem take_none (s : Nat) (W : World) (h : RdB L W s []) (k : Nat) (hk : 0 < k) :
    Calls Try.prog 90 #[.pointer (some ⟨s, 0, none⟩), .int .i64 k] W fun e W' => e = .panicked [{ v := flt s, recovered := false }] ∧ Met' W' s 8 ∧ Off s W W' := by
  obtain ⟨A, c, hR, _, _⟩ := h
  refine (take_short s 0 c k A 0 true W hR hk).mono ?_
  rintro e W' ⟨rfl, rfl⟩
  exact ⟨rfl, ⟨_, _, _, hR.setMet 8⟩, (Off.refl s W).set 1 _⟩
theorem take_one (s x : Nat) (t : List Nat) (W : World) (h : RdB L W s (x :: t)) :
    Calls Try.prog 90 #[.pointer (some ⟨s, 0, none⟩), .int .i64 1] W fun e W' =>
      ∃ b p c, e = .returned (.slice (some ⟨b, p, none⟩) 1 c) ∧ 1 ≤ c ∧ W'.cell? ⟨b, p, none⟩ = some (.int .u8 (x : Nat)) ∧ RdB L W' s t ∧ Off s W W' := by
  obtain ⟨A, c, hR, hc, h⟩ := h
  obtain ⟨b, p, rfl, hb, ⟨hL, hlt⟩, hx⟩ := h.resolve_left (by simp)
  have := take_ok s (t.length + 1) c 1 b p 0 true W hR (by omega) hc
  refine this.mono ?_
  rintro e W' ⟨rfl, rfl⟩
  have hO : Off s W (W.setCell ⟨s, 0, none⟩ (.slice (some ⟨b, if c = 1 then p else p + 1, none⟩) (t.length + 1 - 1) (c - 1))) := (Off.refl s W).set 0 _
  have hR' := hR.setRest (.slice (some ⟨b, if c = 1 then p else p + 1, none⟩) (t.length + 1 - 1) (c - 1))
  simp only [List.length_cons] at hc
  refine ⟨b, p, c, rfl, by omega, (hO.cell (p := ⟨b, p, none⟩) hlt hb).trans (hx 0 x rfl), ⟨_, _, hR', by omega, ?_⟩, hO⟩
  by_cases h1 : c = 1
  · left; exact List.length_eq_zero_iff.1 (by omega)
  · right
    rw [if_neg h1] at hO ⊢
    refine ⟨b, p + 1, rfl, hb, ⟨hL, Nat.lt_of_lt_of_le hlt hO.size⟩, fun i y hy => ?_⟩
    rw [hO.cell (p := ⟨b, p + 1 + i, none⟩) hlt hb]
    have := hx (i + 1) y (by simpa using hy)
    rwa [show p + (i + 1) = p + 1 + i by omega] at this

/-- What a number's bytes tell: the number and what is left, or the fault. -/
def numP : Bool → Nat → List Nat → Except Int (Nat × List Nat)
  | _, _, [] => .error 8
  | first, n, x :: t => if first && x == 128 then .error 3 else if 144115188075855871 < n then .error 3 else if x < 128 then .ok (n * 128 + x % 128, t) else numP false (n * 128 + x % 128) t

/-- How a part of a read ends. -/
def Ends (L s : Nat) (W : World) (val : Nat → Value) (r : Except Int (Nat × List Nat)) (e : Ending) (W' : World) : Prop :=
  Off s W W' ∧ match r with
  | .ok (v, t) => e = .returned (val v) ∧ RdB L W' s t
  | .error x => e = .panicked [{ v := flt s, recovered := false }] ∧ Met' W' s x

theorem must_yes' (s : Nat) (W : World) : Calls Try.prog 83 #[.pointer (some ⟨s, 0, none⟩), .bool true] W fun e W' => e = .returned (.tuple #[]) ∧ W = W' := must_yes s W
theorem must_not (s : Nat) (bs : List Nat) (W : World) (h : RdB L W s bs) :
    Calls Try.prog 83 #[.pointer (some ⟨s, 0, none⟩), .bool false] W fun e W' => e = .panicked [{ v := flt s, recovered := false }] ∧ Met' W' s 3 ∧ Off s W W' := by
  obtain ⟨A, c, hR, _, _⟩ := h
  refine (must_no s _ 0 true W hR).mono ?_
  rintro e W' ⟨rfl, rfl⟩
  exact ⟨rfl, ⟨_, _, _, hR.setMet 3⟩, (Off.refl s W).set 1 _⟩
end Go.Proofs.Ytifoheodcbjapaa
namespace Go.Proofs.Ytifoheodcbjapaa
open Go.RowKit
variable {L : Nat}

def restLen (s : Nat) (W : World) : Nat := match W.cell? ⟨s, 0, none⟩ with
  | some (.slice _ n _) => n
  | _ => 0
theorem RdB.restLen {W : World} {s : Nat} {bs : List Nat} (h : RdB L W s bs) : restLen s W = bs.length := by
  obtain ⟨A, c, hR, _, _⟩ := h
  unfold Go.Proofs.Ytifoheodcbjapaa.restLen
  rw [hR.1]
attribute [irreducible] restLen

theorem numP_follow (n : Nat) (t : List Nat) : numP true n (128 :: t) = .error 3 := by simp [numP]
theorem numP_big {b : Bool} {n x : Nat} {t : List Nat} (h : (b && x == 128) = false) (hn : 144115188075855871 < n) : numP b n (x :: t) = .error 3 := by simp [numP, h, hn]
theorem numP_last {b : Bool} {n x : Nat} {t : List Nat} (h : (b && x == 128) = false) (hn : ¬ 144115188075855871 < n) (hx : x < 128) : numP b n (x :: t) = .ok (n * 128 + x % 128, t) := by simp [numP, h, hn, hx]
theorem numP_next {b : Bool} {n x : Nat} {t : List Nat} (h : (b && x == 128) = false) (hn : ¬ 144115188075855871 < n) (hx : ¬ x < 128) : numP b n (x :: t) = numP false (n * 128 + x % 128) t := by simp [numP, h, hn, hx]

theorem wret_u64 {a b : Int} (h : a = b) : Ending.returned (.int .u64 a) = .returned (.int .u64 b) := by rw [h]

set_option maxHeartbeats 1000000 in
theorem num_any (s : Nat) (bs : List Nat) (W : World) (h : RdB L W s bs) :
    Calls Try.prog 86 #[.pointer (some ⟨s, 0, none⟩)] W fun e W' => Ends L s W (fun v => .int .u64 (v : Nat)) (numP true 0 bs) e W' := by
  have HB := Lib.hid h
  clear h
  go_enter Try.func86, Try.ntmps86
  go_wp2_with fail
  go_loopw [3, 4] (fun n f wr => ∃ (nv : Nat) (b : Bool) (bs' : List Nat), n = .int .u64 (nv : Nat) ∧ f = .bool b ∧ Hid (numP b nv bs' = numP true 0 bs) ∧ Hid (RdB L wr s bs') ∧ Off s W wr) (fun _ _ wr => restLen s wr)
  case atStart => exact ⟨0, true, bs, rfl, rfl, Lib.hid rfl, HB, Off.refl s W⟩
  case round =>
    obtain ⟨nv, b, bs', rfl, rfl, HP, HR, HO⟩ := hrel
    clear HB
    cases bs' with
    | nil =>
      go_wp2_with (go_at_call 90; refine (take_none s _ HR.out 1 (by omega)).mono ?_; rintro e w1 ⟨rfl, hM, hO1⟩)
      exact ⟨rfl, HO.trans hO1, by rw [← HP.out]; exact ⟨rfl, hM⟩⟩
    | cons x t =>
      by_cases h8 : (b && x == 128) = true
      · obtain ⟨rfl, hx⟩ := Bool.and_eq_true_iff.1 h8
        obtain rfl : x = 128 := by simpa using hx
        clear h8 hx
        go_wp2_with (first | (go_at_call 90; refine (take_one s _ t _ HR.out).mono ?_; rintro e w1 ⟨b, p, c, rfl, hc, hcell, hB1, hO1⟩; have HB1 := Lib.hid hB1; clear hB1) | (go_at_call 83; (with_reducible refine (must_yes s _).mono ?_); rintro e w2 ⟨rfl, rfl⟩) | (go_at_call 83; (with_reducible refine (must_not s t _ HB1.out).mono ?_); rintro e w2 ⟨rfl, hM, hO2⟩))
        exact ⟨rfl, (HO.trans hO1).trans hO2, by rw [← HP.out, numP_follow]; exact ⟨rfl, hM⟩⟩
      · have h8' : (b && x == 128) = false := by simpa using h8
        have H8 := Lib.hid h8'
        clear h8
        have hf : b = false ∨ (b = true ∧ ((x : Int) != 128) = true) := by
          cases b with
          | false => left; rfl
          | true => right; refine ⟨rfl, ?_⟩; simp at h8' ⊢; omega
        clear h8'
        by_cases hn : 144115188075855871 < nv
        · have hn' : decide ((nv : Int) ≤ 144115188075855871) = false := by simp; omega
          have HN := Lib.hid hn
          clear hn
          rcases hf with rfl | ⟨rfl, hx⟩
          all_goals
            go_wp2_with (first | (go_at_call 90; refine (take_one s _ t _ HR.out).mono ?_; rintro e w1 ⟨b, p, c, rfl, hc, hcell, hB1, hO1⟩; have HB1 := Lib.hid hB1; clear hB1) | (go_at_call 83; (with_reducible refine (must_yes s _).mono ?_); rintro e w2 ⟨rfl, rfl⟩) | (go_at_call 83; (with_reducible refine (must_not s t _ HB1.out).mono ?_); rintro e w2 ⟨rfl, hM, hO2⟩))
            exact ⟨rfl, (HO.trans hO1).trans hO2, by rw [← HP.out, numP_big H8.out HN.out]; exact ⟨rfl, hM⟩⟩
        · have hn' : decide ((nv : Int) ≤ 144115188075855871) = true := by simp; omega
          have HN := Lib.hid hn
          have e1 : IntKind.u64.wrap ((nv : Int) * 128) = (nv : Int) * 128 := by rw [IntKind.wrap_u64]; omega
          have e2 : IntKind.u64.wrap ((nv : Int) * 128 + (x : Int) % 128) = (nv : Int) * 128 + (x : Int) % 128 := by rw [IntKind.wrap_u64]; omega
          have e3 : IntKind.u64.wrap ((x : Int) % 128) = (x : Int) % 128 := by rw [IntKind.wrap_u64]; omega
          have e4 : IntKind.u8.wrap ((x : Int) % 128) = (x : Int) % 128 := by rw [IntKind.wrap_u8]; omega
          clear hn
          by_cases hx128 : x < 128
          · have hx' : decide ((x : Int) < 128) = true := by simp; omega
            have HX := Lib.hid hx128
            clear hx128
            rcases hf with rfl | ⟨rfl, hx⟩
            all_goals
              go_wp2_with (first | (go_at_call 90; refine (take_one s _ t _ HR.out).mono ?_; rintro e w1 ⟨b, p, c, rfl, hc, hcell, hB1, hO1⟩; have HB1 := Lib.hid hB1; clear hB1) | (go_at_call 83; (with_reducible refine (must_yes s _).mono ?_); rintro e w2 ⟨rfl, rfl⟩) | (go_at_call 83; (with_reducible refine (must_not s t _ HB1.out).mono ?_); rintro e w2 ⟨rfl, hM, hO2⟩))
              go_ret
              exact ⟨HO.trans hO1, by rw [← HP.out, numP_last H8.out HN.out HX.out]; exact ⟨wret_u64 (by omega), HB1.out⟩⟩
          · have hx' : decide ((x : Int) < 128) = false := by simp; omega
            have HX := Lib.hid hx128
            clear hx128
            rcases hf with rfl | ⟨rfl, hx⟩
            all_goals
              go_wp2_with (first | (go_at_call 90; refine (take_one s _ t _ HR.out).mono ?_; rintro e w1 ⟨b, p, c, rfl, hc, hcell, hB1, hO1⟩; have HB1 := Lib.hid hB1; clear hB1) | (go_at_call 83; (with_reducible refine (must_yes s _).mono ?_); rintro e w2 ⟨rfl, rfl⟩) | (go_at_call 83; (with_reducible refine (must_not s t _ HB1.out).mono ?_); rintro e w2 ⟨rfl, hM, hO2⟩))
              go_roundw
              case rel => exact ⟨_, false, t, rfl, rfl, Lib.hid ((numP_next H8.out HN.out HX.out).symm.trans HP.out), HB1, HO.trans hO1⟩
              case measure => rw [HB1.out.restLen, HR.out.restLen]; simp

/-- What a small number's bytes tell. -/
def smallP (most : Int) (bs : List Nat) : Except Int (Nat × List Nat) :=
  match numP true 0 bs with
  | .ok (v, t) => if 0 ≤ most ∧ (v : Int) ≤ most then .ok (v, t) else .error 3
  | .error x => .error x

theorem numP_lt : ∀ (bs : List Nat) (b : Bool) (n : Nat) (v : Nat) (t : List Nat), numP b n bs = .ok (v, t) → v < 18446744073709551616 := by
  intro bs
  induction bs with
  | nil => intro b n v t h; simp [numP] at h
  | cons x l ih =>
    intro b n v t h
    unfold numP at h
    split at h
    · cases h
    · split at h
      · cases h
      · split at h
        · cases h; omega
        · exact ih _ _ _ _ h

theorem small_any (s : Nat) (bs : List Nat) (most : Int) (W : World) (h : RdB L W s bs) (hm : most ≤ 9223372036854775807) :
    Calls Try.prog 82 #[.pointer (some ⟨s, 0, none⟩), .int .i64 most] W fun e W' => Ends L s W (fun v => .int .i64 (v : Nat)) (smallP most bs) e W' := by
  have HB := Lib.hid h
  have HS := Lib.hid (show smallP most bs = match numP true 0 bs with
    | .ok (v, t) => if 0 ≤ most ∧ (v : Int) ≤ most then .ok (v, t) else .error 3
    | .error x => .error x from rfl)
  have HN := Lib.hid (num_any s bs W h)
  have HL := Lib.hid (numP_lt bs true 0)
  clear h
  obtain ⟨r, hr⟩ : ∃ r, r = numP true 0 bs := ⟨_, rfl⟩
  rw [← hr] at HS HN HL
  clear hr
  match r with
  | .error x =>
    go_enter Try.func82, Try.ntmps82
    go_wp2_with (go_at_call 86; refine HN.out.mono ?_; rintro e w1 ⟨hO, rfl, hM⟩)
    exact ⟨rfl, hO, by rw [HS.out]; exact ⟨rfl, hM⟩⟩
  | .ok (v, t) =>
    have hv := HL.out v t rfl
    clear HL
    by_cases h0 : 0 ≤ most
    · have hw : IntKind.u64.wrap most = most := by rw [IntKind.wrap_u64]; omega
      by_cases hle : (v : Int) ≤ most
      · have hle' : decide ((v : Int) ≤ most) = true := by simpa using hle
        have HS' := Lib.hid (HS.out.trans (if_pos ⟨h0, hle⟩))
        have hwv : IntKind.i64.wrap (v : Int) = v := by rw [IntKind.wrap_i64]; omega
        clear hle HS hv
        go_enter Try.func82, Try.ntmps82
        go_wp2_with (first | (go_at_call 86; refine HN.out.mono ?_; rintro e w1 ⟨hO, rfl, hB⟩; have HB1 := Lib.hid hB; clear hB) | (go_at_call 83; (with_reducible refine (must_yes s _).mono ?_); rintro e w2 ⟨rfl, rfl⟩))
        go_ret
        exact ⟨hO, by rw [HS'.out]; exact ⟨rfl, HB1.out⟩⟩
      · have hle' : decide ((v : Int) ≤ most) = false := by simpa using hle
        have HS' := Lib.hid (HS.out.trans (if_neg (fun h => hle h.2)))
        clear hle HS hv
        go_enter Try.func82, Try.ntmps82
        go_wp2_with (first | (go_at_call 86; refine HN.out.mono ?_; rintro e w1 ⟨hO, rfl, hB⟩; have HB1 := Lib.hid hB; clear hB) | (go_at_call 83; (with_reducible refine (must_not s t _ HB1.out).mono ?_); rintro e w2 ⟨rfl, hM, hO2⟩))
        exact ⟨rfl, hO.trans hO2, by rw [HS'.out]; exact ⟨rfl, hM⟩⟩
    · have HS' := Lib.hid (HS.out.trans (if_neg (fun h => h0 h.1)))
      have h0' : decide (0 ≤ most) = false := by simpa using h0
      clear h0 HS hv
      go_enter Try.func82, Try.ntmps82
      go_wp2_with (first | (go_at_call 86; refine HN.out.mono ?_; rintro e w1 ⟨hO, rfl, hB⟩; have HB1 := Lib.hid hB; clear hB) | (go_at_call 83; (with_reducible refine (must_not s t _ HB1.out).mono ?_); rintro e w2 ⟨rfl, hM, hO2⟩))
      exact ⟨rfl, hO.trans hO2, by rw [HS'.out]; exact ⟨rfl, hM⟩⟩
end Go.Proofs.Ytifoheodcbjapaa
namespace Go.Proofs.Ytifoheodcbjapaa
open Go.RowKit
variable {L : Nat}

/-- Block k is a reader of reading s. -/
def Rdr (W : World) (k s : Nat) : Prop := k ≠ s ∧ W.cell? ⟨k, 0, none⟩ = some (.pointer (some ⟨s, 0, none⟩))
theorem Rdr.off {W W' : World} {k s : Nat} (h : Rdr W k s) (hO : Off s W W') : Rdr W' k s := ⟨h.1, (hO.cell (p := ⟨k, 0, none⟩) (World.block_lt_of_cell? W ⟨k, 0, none⟩ h.2) h.1).trans h.2⟩

theorem on_any (k s : Nat) (bs : List Nat) (W : World) (hr : Rdr W k s) (h : RdB L W s bs) :
    Calls Try.prog 81 #[.pointer (some ⟨k, 0, none⟩)] W fun e W' => e = .returned (.bool true) ∧ W = W' := by
  obtain ⟨_, hk⟩ := hr
  obtain ⟨A, c, ⟨h0, h1, h2, _⟩, _⟩ := h
  clear h0
  go_enter Try.func81, Try.ntmps81
  go_wp2
  go_ret
  exact ⟨rfl, rfl⟩

theorem rnum_any (k s : Nat) (bs : List Nat) (W : World) (hr : Rdr W k s) (h : RdB L W s bs) :
    Calls Try.prog 88 #[.pointer (some ⟨k, 0, none⟩)] W fun e W' => Ends L s W (fun v => .int .u64 (v : Nat)) (numP true 0 bs) e W' := by
  have HB := Lib.hid h
  have HR := Lib.hid hr
  have hk := hr.2
  have HN := Lib.hid (num_any s bs W h)
  clear h hr
  go_enter Try.func88, Try.ntmps88
  obtain ⟨r, hrr⟩ : ∃ r, r = numP true 0 bs := ⟨_, rfl⟩
  rw [← hrr] at HN ⊢
  clear hrr
  match r with
  | .error x =>
    go_wp2_with (first | (go_at_call 81; refine (on_any k s bs _ HR.out HB.out).mono ?_; rintro e w1 ⟨rfl, rfl⟩) | (go_at_call 86; refine HN.out.mono ?_; rintro e w2 ⟨hO, rfl, hM⟩))
    exact ⟨rfl, hO, rfl, hM⟩
  | .ok (v, t) =>
    go_wp2_with (first | (go_at_call 81; refine (on_any k s bs _ HR.out HB.out).mono ?_; rintro e w1 ⟨rfl, rfl⟩) | (go_at_call 86; refine HN.out.mono ?_; rintro e w2 ⟨hO, rfl, hB⟩))
    go_ret
    exact ⟨hO, rfl, hB⟩

theorem rsmall_any (k s : Nat) (bs : List Nat) (most : Int) (W : World) (hr : Rdr W k s) (h : RdB L W s bs) (hm : most ≤ 9223372036854775807) :
    Calls Try.prog 74 #[.pointer (some ⟨k, 0, none⟩), .int .i64 most] W fun e W' => Ends L s W (fun v => .int .i64 (v : Nat)) (smallP most bs) e W' := by
  have HB := Lib.hid h
  have HR := Lib.hid hr
  have hk := hr.2
  have HN := Lib.hid (small_any s bs most W h hm)
  clear h hr hm
  go_enter Try.func74, Try.ntmps74
  obtain ⟨r, hrr⟩ : ∃ r, r = smallP most bs := ⟨_, rfl⟩
  rw [← hrr] at HN ⊢
  clear hrr
  match r with
  | .error x =>
    go_wp2_with (first | (go_at_call 81; refine (on_any k s bs _ HR.out HB.out).mono ?_; rintro e w1 ⟨rfl, rfl⟩) | (go_at_call 82; refine HN.out.mono ?_; rintro e w2 ⟨hO, rfl, hM⟩))
    exact ⟨rfl, hO, rfl, hM⟩
  | .ok (v, t) =>
    go_wp2_with (first | (go_at_call 81; refine (on_any k s bs _ HR.out HB.out).mono ?_; rintro e w1 ⟨rfl, rfl⟩) | (go_at_call 82; refine HN.out.mono ?_; rintro e w2 ⟨hO, rfl, hB⟩))
    go_ret
    exact ⟨hO, rfl, hB⟩

theorem rmust_yes (k s : Nat) (bs : List Nat) (W : World) (hr : Rdr W k s) (h : RdB L W s bs) :
    Calls Try.prog 75 #[.pointer (some ⟨k, 0, none⟩), .bool true] W fun e W' => e = .returned (.tuple #[]) ∧ W = W' := by
  have HB := Lib.hid h
  have HR := Lib.hid hr
  have hk := hr.2
  clear h hr
  go_enter Try.func75, Try.ntmps75
  go_wp2_with (first | (go_at_call 81; refine (on_any k s bs _ HR.out HB.out).mono ?_; rintro e w1 ⟨rfl, rfl⟩) | (go_at_call 83; refine (must_yes s _).mono ?_; rintro e w2 ⟨rfl, rfl⟩))
  exact ⟨rfl, .tuple #[], by simp [results, Try.results75, go_sem], rfl, rfl⟩
theorem rmust_not (k s : Nat) (bs : List Nat) (W : World) (hr : Rdr W k s) (h : RdB L W s bs) :
    Calls Try.prog 75 #[.pointer (some ⟨k, 0, none⟩), .bool false] W fun e W' => e = .panicked [{ v := flt s, recovered := false }] ∧ Met' W' s 3 ∧ Off s W W' := by
  have HB := Lib.hid h
  have HR := Lib.hid hr
  have hk := hr.2
  clear h hr
  go_enter Try.func75, Try.ntmps75
  go_wp2_with (first | (go_at_call 81; refine (on_any k s bs _ HR.out HB.out).mono ?_; rintro e w1 ⟨rfl, rfl⟩) | (go_at_call 83; refine (must_not s bs _ HB.out).mono ?_; rintro e w2 ⟨rfl, hM, hO⟩))
  exact ⟨rfl, rfl, hM, hO⟩

/-- What a whole number's bytes tell: a sign comes last. -/
def intP (bs : List Nat) : Except Int (Int × List Nat) :=
  match numP true 0 bs with
  | .ok (v, t) => if v / 2 + v % 2 ≤ 4611686018427387904 then .ok (if v % 2 = 1 then -((v / 2 + v % 2 : Nat) : Int) else ((v / 2 + v % 2 : Nat) : Int), t) else .error 3
  | .error x => .error x
def EndsI (L s : Nat) (W : World) (r : Except Int (Int × List Nat)) (e : Ending) (W' : World) : Prop :=
  Off s W W' ∧ match r with
  | .ok (v, t) => e = .returned (.int .i64 v) ∧ RdB L W' s t
  | .error x => e = .panicked [{ v := flt s, recovered := false }] ∧ Met' W' s x
theorem wret_i64 {a b : Int} (h : a = b) : Ending.returned (.int .i64 a) = .returned (.int .i64 b) := by rw [h]

end Go.Proofs.Ytifoheodcbjapaa
namespace Go.Proofs.Ytifoheodcbjapaa
open Go.RowKit
variable {L : Nat}

theorem Off.belowB {s B : Nat} {w w' : World} (h : Off s w w') (hs : B ≤ s) (hB : B ≤ w.heap.size) : Below B w w' :=
  ⟨h.os, h.tape, h.output, h.size, fun k hk => h.block k (by omega) (by omega)⟩
theorem func_nil (d : Nat) (fn : Fn) (first cap : Array Value) (w : World) : (Op.equalIn (d + 1) 105 (.func fn first cap) .nilFunc).run Try.prog w = .ok false w := by
  simp [Op.equalIn, run_underlying Try.underlying105]
theorem func_some (fn : Fn) (first cap : Array Value) (w : World) : (binOp .eql 105 (.func fn first cap) .nilFunc).run Try.prog w = .ok (.bool false) w := by
  have h : (Op.equal 105 (.func fn first cap) .nilFunc).run Try.prog w = .ok false w := func_nil 9999 fn first cap w
  simp only [binOp]
  simp [h]
theorem nil_nil (d : Nat) (w : World) : (Op.equalIn (d + 1) 105 .nilFunc .nilFunc).run Try.prog w = .ok true w := by
  simp [Op.equalIn, run_underlying Try.underlying105]
theorem func_none (w : World) : (binOp .eql 105 .nilFunc .nilFunc).run Try.prog w = .ok (.bool true) w := by
  have h : (Op.equal 105 .nilFunc .nilFunc).run Try.prog w = .ok true w := nil_nil 9999 w
  simp only [binOp]
  simp [h]

theorem read_nil (A : Option Addr) (n c : Nat) (W : World) :
    Calls Try.prog 51 #[.slice A n c, .nilFunc] W fun e W' => e = .returned (.int .i64 6) ∧ Below W.heap.size W W' := by
  have hf := func_none
  go_enter_defers Try.func51, Try.ntmps51
  go_wp2
  refine ⟨.int .i64 6, by simp [results, Try.results51, go_sem], rfl, (Below.refl _ W).alloc (Nat.le_refl _) _⟩

/-- Where the function that reads begins. -/
def readW (A : Option Addr) (n c : Nat) (W : World) : World :=
  (((W.alloc (.cells #[.int .i64 0] 24)).alloc (.cells #[.slice A n c, .int .i64 0, .bool true] 120)).alloc (.cells #[.pointer (some ⟨W.heap.size + 1, 0, none⟩)] 118)).alloc (.cells #[.pointer (some ⟨W.heap.size + 1, 0, none⟩)] 123)
theorem new_alloc {W : World} {o : Obj} {g : Nat} (h : g = W.heap.size) : (W.alloc o).heap[g]? = some o := h ▸ heap_alloc_new W o
theorem keep_alloc {W : World} {o x : Obj} {g : Nat} (h : W.heap[g]? = some x) : (W.alloc o).heap[g]? = some x := by
  refine (Below.heap_alloc W o g ?_).trans h
  rcases Nat.lt_or_ge g W.heap.size with hlt | hge
  · exact hlt
  · rw [Array.getElem?_eq_none hge] at h; cases h
theorem readW_size (A : Option Addr) (n c : Nat) (W : World) : (readW A n c W).heap.size = W.heap.size + 4 := by simp [readW]
theorem readW_q (A : Option Addr) (n c : Nat) (W : World) : (readW A n c W).heap[W.heap.size]? = some (.cells #[.int .i64 0] 24 (0, 0)) := by
  unfold readW
  exact keep_alloc (keep_alloc (keep_alloc (new_alloc rfl)))
theorem readW_s (A : Option Addr) (n c : Nat) (W : World) : (readW A n c W).heap[W.heap.size + 1]? = some (.cells #[.slice A n c, .int .i64 0, .bool true] 120 (0, 0)) := by
  unfold readW
  exact keep_alloc (keep_alloc (new_alloc (by simp)))
theorem readW_p (A : Option Addr) (n c : Nat) (W : World) : (readW A n c W).heap[W.heap.size + 2]? = some (.cells #[.pointer (some ⟨W.heap.size + 1, 0, none⟩)] 118 (0, 0)) := by
  unfold readW
  exact keep_alloc (new_alloc (by simp))
theorem readW_k (A : Option Addr) (n c : Nat) (W : World) : (readW A n c W).heap[W.heap.size + 3]? = some (.cells #[.pointer (some ⟨W.heap.size + 1, 0, none⟩)] 123 (0, 0)) := by
  unfold readW
  exact new_alloc (by simp)
theorem readW_norow (A : Option Addr) (n c : Nat) (W : World) : ∀ b, W.heap.size ≤ b → b < (readW A n c W).heap.size → NoRow (readW A n c W) b := by
  intro b h1 h2 cur m
  rw [readW_size] at h2
  obtain rfl | rfl | rfl | rfl : b = W.heap.size ∨ b = W.heap.size + 1 ∨ b = W.heap.size + 2 ∨ b = W.heap.size + 3 := by omega
  · rw [readW_q]; simp
  · rw [readW_s]; simp
  · rw [readW_p]; simp
  · rw [readW_k]; simp
theorem readW_below (A : Option Addr) (n c : Nat) (W : World) : Below W.heap.size W (readW A n c W) := by
  unfold readW
  exact ((((Below.refl _ W).alloc (Nat.le_refl _) _).alloc (by simp) _).alloc (by simp; omega) _).alloc (by simp; omega) _
theorem row_cell {W : World} {g : Nat} {cs : Array Value} {t : TypeId} (h : W.heap[g]? = some (.cells cs t (0, 0))) (i : Nat) : W.cell? ⟨g, i, none⟩ = cs[i]? := cell_of_row W g i cs t (0, 0) h
theorem row_frozen {W : World} {g : Nat} {cs : Array Value} {t : TypeId} (h : W.heap[g]? = some (.cells cs t (0, 0))) (i : Nat) : W.frozen? ⟨g, i, none⟩ = false := by simp [World.frozen?, h]
theorem readW_def (A : Option Addr) (n c : Nat) (W : World) : (((W.alloc (.cells #[.int .i64 0] 24)).alloc (.cells #[.slice A n c, .int .i64 0, .bool true] 120)).alloc (.cells #[.pointer (some ⟨W.heap.size + 1, 0, none⟩)] 118)).alloc (.cells #[.pointer (some ⟨W.heap.size + 1, 0, none⟩)] 123) = readW A n c W := by unfold readW; rfl
attribute [irreducible] readW

/-- What Read tells. -/
def readE : Except Int (List Nat) → Int
  | .ok t => if 0 < t.length then 2 else 0
  | .error x => x
/-- A function that reads, at its end: it has left what Read made as it was. -/
def Fine (L s : Nat) (W1 : World) (Y : Except Int (List Nat) → World → Prop) (B : Nat) (e : Ending) (W2 : World) : Prop :=
  (∀ b, B ≤ b → b < W1.heap.size → b ≠ s → W2.heap[b]? = W1.heap[b]?) ∧
  ((∃ t, e = .returned (.tuple #[]) ∧ RdB L W2 s t ∧ Y (.ok t) W2) ∨ (∃ x, x ≠ 0 ∧ e = .panicked [{ v := flt s, recovered := false }] ∧ Met' W2 s x ∧ Y (.error x) W2))

theorem read_any4 (A : Option Addr) (n c F : Nat) (cap : Array Value) (W : World) (bs : List Nat) (Y : Except Int (List Nat) → World → Prop)
    (hcf : ∀ args w, (callFunc F args).run Try.prog w = .ok (.enter F args) w)
    (hn : bs.length = n) (hnc : n ≤ c) (hL : L ≤ W.heap.size) (hbs : bs = [] ∨ ∃ b p, A = some ⟨b, p, none⟩ ∧ b < L ∧ ∀ (i x : Nat), bs[i]? = some x → W.cell? ⟨b, p + i, none⟩ = some (.int .u8 (x : Nat)))
    (HF : ∀ (W1 : World) (k s : Nat), Below W.heap.size W W1 → W.heap.size ≤ s → W.heap.size ≤ k → s < W1.heap.size → W1.heap.size = W.heap.size + 4 → (∀ b, W.heap.size ≤ b → b < W1.heap.size → NoRow W1 b) → Rdr W1 k s → RdB L W1 s bs → Calls Try.prog F (#[.pointer (some ⟨k, 0, none⟩)] ++ cap) W1 (Fine L s W1 Y W.heap.size)) :
    Calls Try.prog 51 #[.slice A n c, .func (.func F) #[] cap] W fun e W' => ∃ r W2, Y r W2 ∧ e = .returned (.int .i64 (readE r)) ∧ Below W.heap.size W2 W' ∧ ∀ k, k < W2.heap.size → k ≠ W.heap.size → k ≠ W.heap.size + 1 → W'.heap[k]? = W2.heap[k]? := by
  have hmf : ∀ (fn : Fn) (first cap : Array Value) (w : World), (Instr.makeFunc fn first cap).run Try.prog w = .ok (.func fn first cap) w := fun _ _ _ _ => rfl
  have hf := func_some
  have hcall := HF (readW A n c W) (W.heap.size + 3) (W.heap.size + 1) (readW_below A n c W) (by omega) (by omega) (by rw [readW_size]; omega) (readW_size A n c W) (readW_norow A n c W)
    ⟨by omega, row_cell (readW_k A n c W) 0⟩
    (by
      refine ⟨A, c, ⟨?_, row_cell (readW_s A n c W) 1, row_cell (readW_s A n c W) 2, fun i => row_frozen (readW_s A n c W) i⟩, by omega, ?_⟩
      · rw [hn]; exact row_cell (readW_s A n c W) 0
      · refine hbs.imp id ?_
        rintro ⟨b, p, rfl, hb, hx⟩
        have hb0 : b < W.heap.size := Nat.lt_of_lt_of_le hb hL
        refine ⟨b, p, rfl, by omega, ⟨hb, by rw [readW_size]; omega⟩, fun i x hi => ?_⟩
        rw [(readW_below _ n c W).cell (p := ⟨b, p + i, none⟩) hb0]
        exact hx i x hi)
  clear HF hbs
  have HC := Lib.hid hcall
  clear hcall
  go_enter_defers Try.func51, Try.ntmps51
  go_wp2_with (rw [readW_def]; refine HC.out.mono ?_; rintro e W2 ⟨hK, hor⟩; have hq2 := (hK W.heap.size (Nat.le_refl _) (by rw [readW_size]; omega) (by omega)).trans (readW_q A n c W); have hp2 := (hK (W.heap.size + 2) (by omega) (by rw [readW_size]; omega) (by omega)).trans (readW_p A n c W); have cq := row_cell hq2 0; have zq := row_frozen hq2 0; have cp := row_cell hp2 0; clear hq2 hp2 hK HC; have HO := Lib.hid hor; clear hor; rcases HO.out with ⟨t, rfl, hB, hY⟩ | ⟨x, hx, rfl, hM, hY⟩)
  · obtain ⟨A', c', hR, _, _⟩ := hB
    have hqlt : W.heap.size < W2.heap.size := World.block_lt_of_cell? W2 ⟨W.heap.size, 0, none⟩ cq
    have hplt : W.heap.size + 2 < W2.heap.size := World.block_lt_of_cell? W2 ⟨W.heap.size + 2, 0, none⟩ cp
    have OQ : Off W.heap.size W2 (W2.setCell ⟨W.heap.size, 0, none⟩ (.int .i64 0)) := (Off.refl W.heap.size W2).set 0 _
    obtain ⟨W3, hW3⟩ : ∃ W3, W3 = W2.setCell ⟨W.heap.size, 0, none⟩ (.int .i64 0) := ⟨_, rfl⟩
    have cq3 : W3.cell? ⟨W.heap.size, 0, none⟩ = some (.int .i64 0) := by rw [hW3]; exact set_same cq
    have zq3 : W3.frozen? ⟨W.heap.size, 0, none⟩ = false := by rw [hW3]; simp [zq]
    rw [← hW3] at OQ ⊢
    have hR3 := hR.off OQ (by omega)
    have cp3 := (OQ.cell (p := ⟨W.heap.size + 2, 0, none⟩) hplt (show W.heap.size + 2 ≠ W.heap.size by omega)).trans cp
    have hlt3 := Nat.lt_of_lt_of_le hqlt OQ.size
    clear hW3
    refine leaves_cons (f := 72) (args := #[.pointer (some ⟨W.heap.size + 1 + 1, 0, none⟩), .pointer (some ⟨W.heap.size, 0, none⟩)]) (by simp) (by simp [go_sem]) ?_
    refine (idle (W.heap.size + 1) (W.heap.size + 2) W.heap.size t.length c' A' 0 W3 hR3 cp3 cq3 zq3 (by omega)).mono ?_
    rintro e u' w'' ⟨rfl, rfl, rfl⟩
    have hE := EndW.off (W.heap.size + 1) (.pointer none) W3.drew
    have cqE := (hE.cell (p := ⟨W.heap.size, 0, none⟩) hlt3 (show W.heap.size ≠ W.heap.size + 1 by omega)).trans cq3
    refine ⟨.int .i64 (if 0 < t.length then 2 else 0), by simp [results, Try.results51, go_sem, cqE], .ok t, W2, hY, rfl, ?_⟩
    have b1 : Below W.heap.size W2 W3 := OQ.belowB (Nat.le_refl _) (by omega)
    have b2 : Below W.heap.size W3 W3.drew := (Below.refl _ _).drew
    have b3 := hE.belowB (B := W.heap.size) (by omega) (Nat.le_of_lt hlt3)
    have b4 := ((b1.trans b2).trans b3)
    refine ⟨b4.trans ((Off.belowB ((Off.refl W.heap.size _).set 0 _) (Nat.le_refl _) (Nat.le_trans (Nat.le_of_lt hlt3) hE.size))), fun k hk h1 h2 => ?_⟩
    refine (Below.heap_setCell _ _ _ k h1).trans ((hE.block k ?_ h2).trans (OQ.block k hk h1))
    exact Nat.lt_of_lt_of_le hk OQ.size
  · obtain ⟨A', n', c', hR⟩ := hM
    have hqlt : W.heap.size < W2.heap.size := World.block_lt_of_cell? W2 ⟨W.heap.size, 0, none⟩ cq
    refine leaves_cons (f := 72) (args := #[.pointer (some ⟨W.heap.size + 1 + 1, 0, none⟩), .pointer (some ⟨W.heap.size, 0, none⟩)]) (by simp) (by simp [go_sem]) ?_
    refine (caught (W.heap.size + 1) (W.heap.size + 2) W.heap.size n' c' A' x 0 [] W2 hR hx cp cq zq (by omega)).mono ?_
    rintro e u' w'' ⟨rfl, rfl, rfl⟩
    have hE := EndW.off (W.heap.size + 1) (.pointer (some ⟨W.heap.size + 1, 0, none⟩)) W2.drew
    have cqE := (hE.cell (p := ⟨W.heap.size, 0, none⟩) hqlt (show W.heap.size ≠ W.heap.size + 1 by omega)).trans cq
    refine ⟨.int .i64 x, by simp [results, Try.results51, go_sem, cqE], .error x, W2, hY, rfl, ?_⟩
    have b2 : Below W.heap.size W2 W2.drew := (Below.refl _ _).drew
    have b3 := hE.belowB (B := W.heap.size) (by omega) (Nat.le_of_lt hqlt)
    refine ⟨(b2.trans b3).trans ((Off.belowB ((Off.refl W.heap.size _).set 0 _) (Nat.le_refl _) (Nat.le_trans (Nat.le_of_lt hqlt) hE.size))), fun k hk h1 h2 => ?_⟩
    exact (Below.heap_setCell _ _ _ k h1).trans (hE.block k hk h2)
theorem read_any (A : Option Addr) (n c F : Nat) (cap : Array Value) (W : World) (bs : List Nat) (Y : Except Int (List Nat) → World → Prop)
    (hcf : ∀ args w, (callFunc F args).run Try.prog w = .ok (.enter F args) w)
    (hn : bs.length = n) (hnc : n ≤ c) (hL : L ≤ W.heap.size) (hbs : bs = [] ∨ ∃ b p, A = some ⟨b, p, none⟩ ∧ b < L ∧ ∀ (i x : Nat), bs[i]? = some x → W.cell? ⟨b, p + i, none⟩ = some (.int .u8 (x : Nat)))
    (HF : ∀ (W1 : World) (k s : Nat), Below W.heap.size W W1 → W.heap.size ≤ s → W.heap.size ≤ k → s < W1.heap.size → (∀ b, W.heap.size ≤ b → b < W1.heap.size → NoRow W1 b) → Rdr W1 k s → RdB L W1 s bs → Calls Try.prog F (#[.pointer (some ⟨k, 0, none⟩)] ++ cap) W1 (Fine L s W1 Y W.heap.size)) :
    Calls Try.prog 51 #[.slice A n c, .func (.func F) #[] cap] W fun e W' => ∃ r W2, Y r W2 ∧ e = .returned (.int .i64 (readE r)) ∧ Below W.heap.size W2 W' := by
  refine (read_any4 A n c F cap W bs Y hcf hn hnc hL hbs fun W1 k s h1 h2 h3 h4 _ h5 => HF W1 k s h1 h2 h3 h4 h5).mono ?_
  rintro e W' ⟨r, W2, h1, h2, h3, _⟩
  exact ⟨r, W2, h1, h2, h3⟩
end Go.Proofs.Ytifoheodcbjapaa
