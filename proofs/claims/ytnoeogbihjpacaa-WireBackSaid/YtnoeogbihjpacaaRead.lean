/-
wire: what a reading is, and its leaves: a fault, must.
-/
import Derived.Test.YtnoeogbihjpacaaRows
import Derived.Test.YtnoeogbihjpacaaDrawnS
import Derived.Below
import Derived.Laws.Rows
import Derived.Laws.World
import Derived.WalkSpells
import Derived.WalkLawsBesides
import Derived.Lib.Hide
import Derived.Defers
import Derived.Laws.Pointers
namespace Go.Proofs.Ytnoeogbihjpacaa
open Go.RowKit

/-- Block s is a reading: the rest, the first fault, whether the call goes on. -/
def Rd (W : World) (s : Nat) (r : Value) (m : Int) (o : Bool) : Prop :=
  W.cell? ⟨s, 0, none⟩ = some r ∧ W.cell? ⟨s, 1, none⟩ = some (.int .i64 m) ∧ W.cell? ⟨s, 2, none⟩ = some (.bool o) ∧ ∀ i, W.frozen? ⟨s, i, none⟩ = false
/-- All is as before, but for block s and new blocks. -/
structure Off (s : Nat) (w w' : World) : Prop where
  os : w'.os = w.os
  tape : w'.tape = w.tape
  output : w'.output = w.output
  size : w.heap.size ≤ w'.heap.size
  block : ∀ k, k < w.heap.size → k ≠ s → w'.heap[k]? = w.heap[k]?
theorem Off.refl (s : Nat) (w : World) : Off s w w := ⟨rfl, rfl, rfl, Nat.le_refl _, fun _ _ _ => rfl⟩
theorem Off.trans {s : Nat} {a b c : World} (h : Off s a b) (k : Off s b c) : Off s a c :=
  ⟨k.os.trans h.os, k.tape.trans h.tape, k.output.trans h.output, Nat.le_trans h.size k.size, fun i hi hs => (k.block i (Nat.lt_of_lt_of_le hi h.size) hs).trans (h.block i hi hs)⟩
theorem Off.set {s : Nat} {w w' : World} (h : Off s w w') (i : Nat) (u : Value) : Off s w (w'.setCell ⟨s, i, none⟩ u) :=
  h.trans ⟨rfl, rfl, rfl, by simp [World.setCell], fun k _ hs => Below.heap_setCell w' ⟨s, i, none⟩ u k hs⟩
theorem Off.below {s : Nat} {w w' : World} (h : Off s w w') (hs : w.heap.size ≤ s) : Below w.heap.size w w' :=
  ⟨h.os, h.tape, h.output, h.size, fun k hk => h.block k hk (by omega)⟩

/-- Block k is no row of bytes. -/
def NoRow (W : World) (k : Nat) : Prop := ∀ cur m, W.heap[k]? ≠ some (.cells cur 5 m)
/-- What a reading panics by. -/
def flt (s : Nat) : Value := .iface 151 (.agg #[.pointer (some ⟨s, 0, none⟩)])

theorem Off.cell {s : Nat} {w w' : World} (h : Off s w w') {p : Addr} (hp : p.block < w.heap.size) (hs : p.block ≠ s) : w'.cell? p = w.cell? p := by
  simp only [World.cell?, h.block _ hp hs]
theorem Off.frozen {s : Nat} {w w' : World} (h : Off s w w') {p : Addr} (hp : p.block < w.heap.size) (hs : p.block ≠ s) : w'.frozen? p = w.frozen? p := by
  simp only [World.frozen?, h.block _ hp hs]

theorem fail_any (s : Nat) (r : Value) (m : Int) (o : Bool) (x : Int) (W : World) (h : Rd W s r m o) :
    Calls Try.prog 111 #[.pointer (some ⟨s, 0, none⟩), .int .i64 x] W fun e W' =>
      e = .panicked [{ v := .iface 151 (.agg #[.pointer (some ⟨s, 0, none⟩)]), recovered := false }] ∧ W' = W.setCell ⟨s, 1, none⟩ (.int .i64 x) := by
  obtain ⟨h0, h1, h2, hz⟩ := h
  have hz1 := hz 1
  clear hz
  go_enter Try.func111, Try.ntmps111
  go_wp2
  exact ⟨rfl, rfl, rfl⟩
theorem must_yes (s : Nat) (W : World) : Calls Try.prog 74 #[.pointer (some ⟨s, 0, none⟩), .bool true] W fun e W' => e = .returned (.tuple #[]) ∧ W = W' := by
  go_enter Try.func74, Try.ntmps74
  go_wp2
  exact ⟨rfl, .tuple #[], by simp [results, Try.results74, go_sem], rfl, rfl⟩
theorem must_no (s : Nat) (r : Value) (m : Int) (o : Bool) (W : World) (h : Rd W s r m o) :
    Calls Try.prog 74 #[.pointer (some ⟨s, 0, none⟩), .bool false] W fun e W' => e = .panicked [{ v := flt s, recovered := false }] ∧ W' = W.setCell ⟨s, 1, none⟩ (.int .i64 3) := by
  go_enter Try.func74, Try.ntmps74
  go_wp2_with (go_at_call 111; refine (fail_any s r m o 3 _ h).mono ?_; rintro e w' ⟨rfl, rfl⟩)
  exact ⟨rfl, rfl, rfl⟩

theorem as_flt (v : Value) (w : World) : (Instr.typeAssert (.iface 151 v) 20 151 true).run Try.prog w = .ok (.tuple #[v, .bool true]) w := by kernel_rfl
theorem as_nil (w : World) : (Instr.typeAssert .nilIface 20 151 true).run Try.prog w = .ok (.tuple #[.agg #[.pointer none], .bool false]) w := by kernel_rfl

/-- The state that end leaves. -/
def EndW (s : Nat) (v : Value) (W : World) : World := ((W.setCell ⟨s, 0, none⟩ (.slice none 0 0)).setCell ⟨s, 2, none⟩ (.bool false)).alloc (.cells #[v] 151)
theorem EndW.off (s : Nat) (v : Value) (W : World) : Off s W (EndW s v W) := by
  unfold EndW
  refine (((Off.refl s W).set 0 (.slice none 0 0)).set 2 (.bool false)).trans ?_
  exact ⟨rfl, rfl, rfl, by simp, fun k hk _ => Below.heap_alloc _ _ k hk⟩
attribute [irreducible] EndW

/-- end, where nothing was met and nothing panicked. -/
theorem end_left (s : Nat) (A : Option Addr) (n c : Nat) (W : World) (h : Rd W s (.slice A n c) 0 true) (hn : 0 < n) :
    Calls Try.prog 70 #[.pointer (some ⟨s, 0, none⟩), .nilIface] W fun e W' => e = .returned (.int .i64 2) ∧ W' = EndW s (.pointer none) W := by
  obtain ⟨h0, h1, h2, hz⟩ := h
  have hz0 := hz 0
  have hz1 := hz 1
  have hz2 := hz 2
  have hn' : (0 : Int) < (n : Int) := by omega
  have hs : s < W.heap.size := World.block_lt_of_cell? W ⟨s, 0, none⟩ h0
  have ha := as_nil
  clear hz hn
  go_enter Try.func70, Try.ntmps70
  go_wp2
  go_ret
  exact ⟨rfl, by unfold EndW; rfl⟩
theorem end_done (s : Nat) (A : Option Addr) (c : Nat) (W : World) (h : Rd W s (.slice A 0 c) 0 true) :
    Calls Try.prog 70 #[.pointer (some ⟨s, 0, none⟩), .nilIface] W fun e W' => e = .returned (.int .i64 0) ∧ W' = EndW s (.pointer none) W := by
  obtain ⟨h0, h1, h2, hz⟩ := h
  have hz0 := hz 0
  have hz1 := hz 1
  have hz2 := hz 2
  have hs : s < W.heap.size := World.block_lt_of_cell? W ⟨s, 0, none⟩ h0
  have ha := as_nil
  clear hz
  go_enter Try.func70, Try.ntmps70
  go_wp2
  go_ret
  exact ⟨rfl, by unfold EndW; rfl⟩
theorem equalIn_self (d s : Nat) (w : World) : (Op.equalIn (d + 1) 112 (.pointer (some ⟨s, 0, none⟩)) (.pointer (some ⟨s, 0, none⟩))).run Try.prog w = .ok true w := by
  simp [Op.equalIn, run_underlying Try.underlying112, sameAddr]
theorem equal_self (s : Nat) (w : World) : (Op.equal 112 (.pointer (some ⟨s, 0, none⟩)) (.pointer (some ⟨s, 0, none⟩))).run Try.prog w = .ok true w := equalIn_self 9999 s w
theorem neq_self (s : Nat) (w : World) : (binOp .neq 112 (.pointer (some ⟨s, 0, none⟩)) (.pointer (some ⟨s, 0, none⟩))).run Try.prog w = .ok (.bool false) w := by
  simp only [binOp]
  simp [equal_self s w]
theorem end_met (s : Nat) (A : Option Addr) (n c : Nat) (m : Int) (W : World) (h : Rd W s (.slice A n c) m true) (hm : m ≠ 0) :
    Calls Try.prog 70 #[.pointer (some ⟨s, 0, none⟩), flt s] W fun e W' => e = .returned (.int .i64 m) ∧ W' = EndW s (.pointer (some ⟨s, 0, none⟩)) W := by
  obtain ⟨h0, h1, h2, hz⟩ := h
  have hz0 := hz 0
  have hz1 := hz 1
  have hz2 := hz 2
  have hm' : (m != 0) = true := by simpa using hm
  clear hz hm
  unfold flt
  have hs : s < W.heap.size := World.block_lt_of_cell? W ⟨s, 0, none⟩ h0
  have hs0 := as_flt
  have hq := neq_self s
  go_enter Try.func70, Try.ntmps70
  go_wp2
  go_ret
  exact ⟨rfl, by unfold EndW; rfl⟩

/-- Read's deferred function, where a fault of this reading is met: it is recovered, and told. -/
theorem caught (s p q n c : Nat) (A : Option Addr) (m x : Int) (older : List PanicEntry) (W : World) (h : Rd W s (.slice A n c) m true) (hm : m ≠ 0)
    (hp : W.cell? ⟨p, 0, none⟩ = some (.pointer (some ⟨s, 0, none⟩))) (hq : W.cell? ⟨q, 0, none⟩ = some (.int .i64 x)) (hz : W.frozen? ⟨q, 0, none⟩ = false) (hne : q ≠ s) :
    CallsD Try.prog 69 #[.pointer (some ⟨p, 0, none⟩), .pointer (some ⟨q, 0, none⟩)] (.panicking ({ v := flt s, recovered := false } :: older)) W fun e u' W' =>
      e = .returned (.tuple #[]) ∧ u' = .panicking ({ v := flt s, recovered := true } :: older) ∧ W' = (EndW s (.pointer (some ⟨s, 0, none⟩)) W.drew).setCell ⟨q, 0, none⟩ (.int .i64 m) := by
  have hp' : W.drew.cell? ⟨p, 0, none⟩ = some (.pointer (some ⟨s, 0, none⟩)) := hp
  have hR : Rd W.drew s (.slice A n c) m true := h
  have hqlt : q < W.heap.size := World.block_lt_of_cell? W ⟨q, 0, none⟩ hq
  have hO := EndW.off s (.pointer (some ⟨s, 0, none⟩)) W.drew
  have hq' : (EndW s (.pointer (some ⟨s, 0, none⟩)) W.drew).cell? ⟨q, 0, none⟩ = some (.int .i64 x) := (hO.cell (p := ⟨q, 0, none⟩) hqlt hne).trans hq
  have hz' : (EndW s (.pointer (some ⟨s, 0, none⟩)) W.drew).frozen? ⟨q, 0, none⟩ = false := (hO.frozen (p := ⟨q, 0, none⟩) hqlt hne).trans hz
  refine callsD_of_wpS Try.func69 rfl fun c₀ cs hu => ?_
  refine wpS_region_orders [[0, 1, 2, 3], [1, 0, 2, 3]] (by kernel_rfl) (by kernel_rfl) fun l hl => ?_
  simp only [List.mem_cons, List.not_mem_nil, or_false] at hl
  rcases hl with rfl | rfl
  all_goals
    simp [wpOpsS, go_sem, recoverD, hu, Try.ntmps69, hp']
    refine (end_met s A n c m _ hR hm).mono ?_
    rintro e w' ⟨rfl, rfl⟩
    simp [go_sem, hq', hz', bodyPostS, results, Try.results69]
end Go.Proofs.Ytnoeogbihjpacaa
