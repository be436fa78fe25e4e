/-
op.Read, Put, Write; plain data as ops and events.
-/
import Derived.Test.YtkigaclcmodjaaaGreatOp5
namespace Go.Proofs.YtkigaclcmodjaaaGreat
open Go.RowKit

variable {L : Nat}
/-- Two boxes of noughts. -/
def twoE (W : World) : World := (W.alloc (.cells #[.int .u64 0, .int .i64 0, .int .u32 0, .int .i64 0, .int .i64 0, .int .u32 0, .int .u32 0, .int .u32 0, .int .u32 0, .int .u32 0, .int .u32 0, .int .u32 0, .int .u32 0, .int .u32 0, .int .u32 0, .int .u32 0, .int .u32 0, .int .i64 0, .int .i64 0, .int .i64 0, .float .f64 0] 53)).alloc (.cells #[.int .u64 0, .int .i64 0, .int .u32 0, .int .i64 0, .int .i64 0, .int .u32 0, .int .u32 0, .int .u32 0, .int .u32 0, .int .u32 0, .int .u32 0, .int .u32 0, .int .u32 0, .int .u32 0, .int .u32 0, .int .u32 0, .int .u32 0, .int .i64 0, .int .i64 0, .int .i64 0, .float .f64 0] 53)
theorem twoE_size (W : World) : (twoE W).heap.size = W.heap.size + 2 := by simp [twoE]
theorem twoE_below (W : World) : Below W.heap.size W (twoE W) := ((Below.refl _ W).alloc (Nat.le_refl _) _).alloc (by simp) _
/-- What an event's read leaves. -/
def EvRead (bs : List Nat) (W : World) (r : Except Int (List Nat)) (W' : World) : Prop :=
  (match evP bs with | .ok (l, t) => r = .ok t ∧ Blk W' (W.heap.size + 1) 53 l.cells.toArray | .error x => r = .error x) ∧ Blk W' W.heap.size 53 #[.int .u64 0, .int .i64 0, .int .u32 0, .int .i64 0, .int .i64 0, .int .u32 0, .int .u32 0, .int .u32 0, .int .u32 0, .int .u32 0, .int .u32 0, .int .u32 0, .int .u32 0, .int .u32 0, .int .u32 0, .int .u32 0, .int .u32 0, .int .i64 0, .int .i64 0, .int .i64 0, .float .f64 0] ∧ Below W.heap.size W W'

theorem zev_sz : (Tryz.prog.info? 53).map (·.size) = some (#[.int .u64 0, .int .i64 0, .int .u32 0, .int .i64 0, .int .i64 0, .int .u32 0, .int .u32 0, .int .u32 0, .int .u32 0, .int .u32 0, .int .u32 0, .int .u32 0, .int .u32 0, .int .u32 0, .int .u32 0, .int .u32 0, .int .u32 0, .int .i64 0, .int .i64 0, .int .i64 0, .float .f64 0] : Array Value).size := by kernel_rfl
theorem zev_one : (#[.int .u64 0, .int .i64 0, .int .u32 0, .int .i64 0, .int .i64 0, .int .u32 0, .int .u32 0, .int .u32 0, .int .u32 0, .int .u32 0, .int .u32 0, .int .u32 0, .int .u32 0, .int .u32 0, .int .u32 0, .int .u32 0, .int .u32 0, .int .i64 0, .int .i64 0, .int .i64 0, .float .f64 0] : Array Value).all (·.oneCell') = true := by simp [Value.oneCell']
theorem zev_info : (Tryz.prog.info? 53).map (·.size) = some (List.length ([.int .u64 0, .int .i64 0, .int .u32 0, .int .i64 0, .int .i64 0, .int .u32 0, .int .u32 0, .int .u32 0, .int .u32 0, .int .u32 0, .int .u32 0, .int .u32 0, .int .u32 0, .int .u32 0, .int .u32 0, .int .u32 0, .int .u32 0, .int .i64 0, .int .i64 0, .int .i64 0, .float .f64 0] : List Value)) := by kernel_rfl

section
variable (A : Option Addr) (n cp : Nat) (W : World) (bs : List Nat) (hn : bs.length = n) (hnc : n ≤ cp) (hby : ∀ x ∈ bs, x < 256) (hbs : ByR W A bs)
include hn hnc hby hbs
end

theorem encO_len {o : OpR} (h : o.Ok) : (encO o).length ≤ 40 := by
  unfold encO
  have h1 := enc_len _ (wordN_lt o.k)
  have h2 := enc_len _ (wordN_lt o.s)
  have h3 := enc_len _ (zig_lt h.q1 h.q2)
  have h4 : (encF o.p).length = 8 := by unfold encF; exact be8_len _
  simp only [List.length_append]
  split <;> split <;> split <;> simp <;> omega
set_option maxRecDepth 20000 in
set_option maxHeartbeats 4000000 in
theorem evput_any (B g : Nat) (x : Ev) (bs : List Nat) (W : World) (h : Wtr W B g bs) (hr : rightE x = true) (hf : ∀ i, x.l.f i < 4294967296) (hp : x.o.p < 18446744073709551616) (hlen : bs.length + 600 ≤ 140737488355328) :
    Calls Tryz.prog 29 #[.pointer (some ⟨g, 0, none⟩), .agg x.cells.toArray] W fun e W' => e = .returned (.tuple #[]) ∧ Wtr W' B g (bs ++ encE x) ∧ Wrote B g W W' := by
  obtain ⟨r1, r2⟩ := rightE_parts hr
  have hb0 := (Below.refl W.heap.size W).alloc (Nat.le_refl _) (.cells x.cells.toArray 53)
  have HX0 := Lib.hid (BoxT.new (t := 53) h x.cells.toArray)
  have HR0 := Lib.hid (Wrote.ofBelow hb0 (Nat.le_trans h.1 (Nat.le_of_lt h.lt)) h.lt)
  have H1 := Lib.hid (lput_lab B g x.l bs _ (h.next hb0) r1 hf (by omega))
  have hll := encL_len r1 hf
  have H2 := Lib.hid (fun W1 (hw : Wtr W1 B g (bs ++ encL x.l)) => putop_any B g x.o _ W1 hw (may_ok r2 hp) (by rw [List.length_append]; omega))
  obtain ⟨_, rl, _, _⟩ := ev_all HX0.out.1
  clear hb0 h hr hf hp hlen r1 r2 hll
  go_enter Tryz.func29, Tryz.ntmps29
  go_wp2_with (first | (refine wpList_load_midg (by rfl) 27 _ rfl _ _ rfl (Lab.cells ?_) _ ?_ Tryz.underlying27 rfl (linfo _) ?_; rotate_left; (focus assumption)))
  refine H1.out.mono ?_
  rintro e W1 ⟨rfl, hw, hr⟩
  have HR1 := Lib.hid (HR0.out.trans hr)
  have H3 := Lib.hid (H2.out W1 hw)
  obtain ⟨_, _, ro, _⟩ := ev_all (HX0.out.wrote hr).1
  clear hw hr rl H1 H2 HX0 HR0
  go_wp2_with (first | (refine wpList_load_midg (by rfl) 51 _ rfl _ _ rfl (OpR.cells ?_) _ ?_ Tryz.underlying51 rfl (oinfo _) ?_; rotate_left; (focus assumption)))
  refine H3.out.mono ?_
  rintro e W2 ⟨rfl, hw, hr⟩
  have HR2 := Lib.hid (HR1.out.trans hr)
  have HW2 := Lib.hid hw
  clear hw hr
  go_wp2_with fail
  exact ⟨rfl, .tuple #[], by simp [results, Tryz.results29, go_sem], rfl, by unfold encE; rw [← List.append_assoc]; exact HW2.out, HR2.out⟩

section
variable (x : Ev) (W : World)
end
end Go.Proofs.YtkigaclcmodjaaaGreat
