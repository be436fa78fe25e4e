/-
Totals of rows: SameTotal, Sum.
-/
import Derived.Test.YtlejnjgepnjceaaMk2
import Derived.Laws.StructEq
namespace Go.Proofs.Ytlejnjgepnjceaa
open Go.RowKit
attribute [local go_sem] Tot.run_store_float
namespace Mkl
def eqTr (d : Nat) (xs ys : Array Value) : List (Bool × TypeId × Nat) → Sem Bool
  | [] => pure true
  | f :: fs =>
    if f.1 = true then do
      let a ← part f.2.1 xs f.2.2
      let b ← part f.2.1 ys f.2.2
      let r ← Op.equalIn d f.2.1 a b
      if (!r) = true then pure false else eqTr d xs ys fs
    else eqTr d xs ys fs
theorem eq_tr {P : Program} (d : Nat) (xs ys : Array Value) : ∀ (fs : List Field) (gs : List (Bool × TypeId × Nat)) (w : World), fs.map (fun f => (f.name != "_", f.type, f.offset)) = gs → (Op.eqFields d xs ys fs).run P w = (eqTr d xs ys gs).run P w
  | [], _, w, h => by subst h; rfl
  | f :: fs, _, w, h => by
    subst h
    have ih := fun w => eq_tr (P := P) d xs ys fs _ w rfl
    simp only [Op.eqFields, List.map_cons, eqTr, Sem.run_bind, Sem.run_ite, ih, bne_iff_ne]
theorem run_eqTr {P : Program} {d : Nat} {xs ys : Array Value} {t : TypeId} {o : Nat} {a b : Value} {c : Bool} {gs : List (Bool × TypeId × Nat)} (w : World) (ha : ∀ w, (part t xs o).run P w = .ok a w) (hb : ∀ w, (part t ys o).run P w = .ok b w)
    (he : ∀ w, (Op.equalIn d t a b).run P w = .ok c w) : (eqTr d xs ys ((true, t, o) :: gs)).run P w = if c then (eqTr d xs ys gs).run P w else .ok false w := by
  simp only [eqTr, if_true, Sem.run_bind, ha, hb, he, Result.andThen_ok]
  cases c <;> simp
theorem part_int {xs : Array Value} {o : Nat} {v : Value} (h : xs[o]? = some v) (w : World) : (part 3 xs o).run Try.prog w = .ok v w := by
  simp [part, isAgg, run_underlying Try.underlying3, h]
theorem part_f64 {xs : Array Value} {o : Nat} {v : Value} (h : xs[o]? = some v) (w : World) : (part 42 xs o).run Try.prog w = .ok v w := by
  simp [part, isAgg, run_underlying Try.underlying42, h]
theorem eq_float0' (d : Nat) (w : World) : (Op.equalIn (d + 1) 42 (.float .f64 0) (.float .f64 0)).run Try.prog w = .ok true w := by
  simp only [Op.equalIn, Sem.run_bind, run_underlying Try.underlying42, Result.andThen_ok]
  simp
  exact by decide
end Mkl
/-- A total: of its sum the bits. -/
structure Tt where
  (li pi fr : Int)
  (s : Nat)
def Tt.cells (t : Tt) : List Value := [.int .i64 t.li, .int .i64 t.pi, .int .i64 t.fr, .float .f64 t.s]
theorem tt_arr (t : Tt) : t.cells.toArray = #[.int .i64 t.li, .int .i64 t.pi, .int .i64 t.fr, .float .f64 t.s] := rfl
theorem tt_len {t : Tt} : t.cells.length = 4 := rfl
theorem tt_one (t : Tt) : t.cells.toArray.all (·.oneCell') = true := by unfold Tt.cells; simp [Value.oneCell']
attribute [irreducible] Tt.cells
theorem ttinfo (t : Tt) : (Try.prog.info? 83).map (·.size) = some t.cells.length := by rw [tt_len]; kernel_rfl
theorem ttinfoA (t : Tt) : (Try.prog.info? 83).map (·.size) = some t.cells.toArray.size := by rw [List.size_toArray, tt_len]; kernel_rfl
theorem tt_siz (t : Tt) : (#[.int .i64 0, .int .i64 0, .int .i64 0, .float .f64 0] : Array Value).size = t.cells.toArray.size := show 4 = t.cells.toArray.size by rw [List.size_toArray, tt_len]
theorem ttFields : (Try.prog.fieldsOf 83).toList.map (fun f => (f.name != "_", f.type, f.offset)) = [(true, 3, 0), (true, 3, 1), (true, 3, 2), (true, 42, 3)] := by kernel_rfl
theorem eq_tt0 (k s q k2 s2 q2 : Int) (w : World) : (Op.equalIn 10000 83 (.agg #[.int .i64 k, .int .i64 s, .int .i64 q, .float .f64 0]) (.agg #[.int .i64 k2, .int .i64 s2, .int .i64 q2, .float .f64 0])).run Try.prog w = .ok ((k == k2) && ((s == s2) && (q == q2))) w := by
  rw [run_equalIn_struct w 9999 _ _ _ (by kernel_rfl) (by kernel_rfl), Mkl.eq_tr 9999 _ _ _ _ w ttFields]
  rw [Mkl.run_eqTr w (Mkl.part_int rfl) (Mkl.part_int rfl) (fun w => run_equalIn_int w 9998 _ _ _ _ _ Try.underlying3), Mkl.run_eqTr w (Mkl.part_int rfl) (Mkl.part_int rfl) (fun w => run_equalIn_int w 9998 _ _ _ _ _ Try.underlying3), Mkl.run_eqTr w (Mkl.part_int rfl) (Mkl.part_int rfl) (fun w => run_equalIn_int w 9998 _ _ _ _ _ Try.underlying3), Mkl.run_eqTr w (Mkl.part_f64 rfl) (Mkl.part_f64 rfl) (fun w => Mkl.eq_float0' 9998 w)]
  cases h1 : (k == k2) <;> cases h2 : (s == s2) <;> cases h3 : (q == q2) <;> simp [Mkl.eqTr]
def sameT (a b : Tt) : Bool := Num.sameB a.s b.s && ((a.li == b.li) && ((a.pi == b.pi) && (a.fr == b.fr)))
theorem sameT_self (a : Tt) : sameT a a = true := by unfold sameT Num.sameB; simp
set_option maxRecDepth 20000 in
set_option maxHeartbeats 1000000 in
theorem sametotal_any (a b : Tt) (W : World) : Calls Try.prog 44 #[.agg a.cells.toArray, .agg b.cells.toArray] W fun e W' => e = .returned (.bool (sameT a b)) ∧ Below W.heap.size W W' := by
  unfold sameT
  rw [tt_arr, tt_arr]
  have hq := fun w => eq_tt0 a.li a.pi a.fr b.li b.pi b.fr w
  cases hs : Num.sameB a.s b.s with
  | true =>
    rw [Bool.true_and]
    go_enter Try.func44, Try.ntmps44
    go_wp2_with (go_at_call 82; refine (Tot.same_any _ _ _).mono ?_; rintro e w1 ⟨rfl, rfl⟩; rw [hs])
    go_ret
    exact ⟨rfl, by (repeat' (first | exact Below.refl _ _ | assumption | (with_reducible refine below_alloc' ?_) | (with_reducible refine Below.drew ?_) | (with_reducible refine below_next' (by assumption) ?_) | (with_reducible refine below_setRow ?_ ?_ _) | (with_reducible refine Below.setCell ?_ ?_ _) | (with_reducible refine below_next (by assumption) ?_ ?_) | (with_reducible refine Below.alloc ?_ ?_ _) | exact Nat.le_refl _ | (exact below_size (by assumption)) | (with_reducible refine size_alloc ?_) | (with_reducible refine size_setRow' ?_) | (with_reducible refine size_setCell' ?_) | (with_reducible refine size_next (by assumption) ?_) | omega | (simp; done) | (simp; omega)))⟩
  | false =>
    rw [Bool.false_and]
    clear hq
    go_enter Try.func44, Try.ntmps44
    go_wp2_with (go_at_call 82; refine (Tot.same_any _ _ _).mono ?_; rintro e w1 ⟨rfl, rfl⟩; rw [hs])
    go_ret
    exact ⟨rfl, by (repeat' (first | exact Below.refl _ _ | assumption | (with_reducible refine below_alloc' ?_) | (with_reducible refine Below.drew ?_) | (with_reducible refine below_next' (by assumption) ?_) | (with_reducible refine below_setRow ?_ ?_ _) | (with_reducible refine Below.setCell ?_ ?_ _) | (with_reducible refine below_next (by assumption) ?_ ?_) | (with_reducible refine Below.alloc ?_ ?_ _) | exact Nat.le_refl _ | (exact below_size (by assumption)) | (with_reducible refine size_alloc ?_) | (with_reducible refine size_setRow' ?_) | (with_reducible refine size_setCell' ?_) | (with_reducible refine size_next (by assumption) ?_) | omega | (simp; done) | (simp; omega)))⟩

/-! Sums in which a NaN may have any bits. -/
def addOO (acc x : Option Nat) : Option Nat := acc.bind fun s => x.bind fun y => Ieee.double.add s y
def sumOO (l : List (Option Nat)) : Nat := Num.plainN (l.foldl addOO (some 0))
/-- The bits of a number, or of some NaN. -/
def Got : Option Nat → Nat → Prop
  | some r, b => b = r
  | none, b => b < 18446744073709551616 ∧ 9218868437227405312 < b % 9223372036854775808
theorem add_nan_right {s x : Nat} (hx : x < 18446744073709551616) (h : 9218868437227405312 < x % 9223372036854775808) : Ieee.double.add s x = none := by
  obtain ⟨a, t, e⟩ := Num.read_nan hx h
  unfold Ieee.Format.add
  rw [e]
  cases Ieee.double.read s <;> rfl
theorem got_add {acc x : Option Nat} {b : Nat} (h : Got x b) : Num.addO acc b = addOO acc x := by
  unfold Num.addO addOO
  cases x with
  | some r => unfold Got at h; subst h; rfl
  | none =>
    cases acc with
    | none => rfl
    | some s => exact add_nan_right h.1 h.2
def Gots : List (Option Nat) → List Nat → Prop
  | [], [] => True
  | x :: xs, b :: bs => Got x b ∧ Gots xs bs
  | _, _ => False
theorem gots_fold : ∀ (xs : List (Option Nat)) (bs : List Nat) (acc : Option Nat), Gots xs bs → bs.foldl Num.addO acc = xs.foldl addOO acc
  | [], [], _, _ => rfl
  | x :: xs, b :: bs, acc, h => by
    rw [List.foldl_cons, List.foldl_cons, got_add h.1]
    exact gots_fold xs bs _ h.2
  | [], _ :: _, _, h => h.elim
  | _ :: _, [], _, h => h.elim
theorem gots_sum {xs : List (Option Nat)} {bs : List Nat} (h : Gots xs bs) : Num.sumN bs = sumOO xs := by
  unfold Num.sumN sumOO Num.foldO
  rw [gots_fold xs bs _ h]
theorem gots_app : ∀ {xs : List (Option Nat)} {bs : List Nat} {x : Option Nat} {b : Nat}, Gots xs bs → Got x b → Gots (xs ++ [x]) (bs ++ [b])
  | [], [], _, _, _, h => ⟨h, trivial⟩
  | _ :: _, _ :: _, _, _, h, h' => ⟨h.1, gots_app h.2 h'⟩
  | [], _ :: _, _, _, h, _ => h.elim
  | _ :: _, [], _, _, h, _ => h.elim
theorem gots_len : ∀ {xs : List (Option Nat)} {bs : List Nat}, Gots xs bs → bs.length = xs.length
  | [], [], _ => rfl
  | _ :: xs, _ :: bs, h => by rw [List.length_cons, List.length_cons, gots_len h.2]
  | [], _ :: _, h => h.elim
  | _ :: _, [], h => h.elim

/-- What rows have come to. -/
structure TotA where
  (li pi fr : Nat)
  (cs : List (Option Nat))
def qcap (q : Int) : Int := min q 100000
def rowOk (q : Int) (m : Mk) : Bool := decide (1 ≤ q) && rightM m
def costM (q : Int) (m : Mk) : Option Nat := Ieee.double.mul (floatOfInt .f64 (qcap q)) m.p
def stepT (t : TotA) (x : Int × Mk) : TotA :=
  if rowOk x.1 x.2 then (if x.2.h then ⟨t.li + 1, t.pi + (qcap x.1).toNat, t.fr, t.cs ++ [costM x.1 x.2]⟩ else ⟨t.li + 1, t.pi + (qcap x.1).toNat, t.fr + 1, t.cs⟩) else t
def accT (l : List (Int × Mk)) : TotA := l.foldl stepT ⟨0, 0, 0, []⟩
def totM (l : List (Int × Mk)) : Tt := ⟨(accT l).li, (accT l).pi, (accT l).fr, sumOO (accT l).cs⟩
theorem accT_take (l : List (Int × Mk)) (k : Nat) (h : k < l.length) : accT (l.take (k + 1)) = stepT (accT (l.take k)) l[k] := by
  unfold accT
  rw [List.take_add_one, List.getElem?_eq_getElem h, List.foldl_append]
  rfl
theorem accT_le : ∀ (l : List (Int × Mk)) (t : TotA), (l.foldl stepT t).li ≤ t.li + l.length ∧ (l.foldl stepT t).pi ≤ t.pi + l.length * 100000 ∧ (l.foldl stepT t).fr ≤ t.fr + l.length ∧ (l.foldl stepT t).cs.length ≤ t.cs.length + l.length
  | [], t => by simp
  | x :: l, t => by
    have ih := accT_le l (stepT t x)
    have h : (stepT t x).li ≤ t.li + 1 ∧ (stepT t x).pi ≤ t.pi + 100000 ∧ (stepT t x).fr ≤ t.fr + 1 ∧ (stepT t x).cs.length ≤ t.cs.length + 1 := by
      unfold stepT qcap
      split
      · split
        · simp; omega
        · simp; omega
      · omega
    rw [List.foldl_cons, List.length_cons]
    omega
end Go.Proofs.Ytlejnjgepnjceaa
