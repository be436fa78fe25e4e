/-
A part laid into the cells of an aggregate; a slice built of vectors.
Vectors compared.
-/
import Derived.Test.YtgnfachjobohoaaGreatCalls3
namespace Go.Proofs.YtgnfachjobohoaaGreat
open Go.RowKit

theorem foldl_zip (cs : List Value) : ∀ (off j0 : Nat) (pre mid post : List Value), pre.length = off + j0 → mid.length = cs.length →
    (cs.zipIdx j0).foldl (fun acc (x : Value × Nat) => acc.setIfInBounds (off + x.2) x.1) (pre ++ (mid ++ post)).toArray = (pre ++ (cs ++ post)).toArray := by
  induction cs with
  | nil =>
    intro off j0 pre mid post _ hm
    obtain rfl := List.eq_nil_of_length_eq_zero hm
    rfl
  | cons c cs ih =>
    intro off j0 pre mid post hp hm
    match mid, hm with
    | m :: mid, hm =>
      rw [List.zipIdx_cons, List.foldl_cons]
      have e : ((pre ++ (m :: mid ++ post)).toArray.setIfInBounds (off + j0) c) = ((pre ++ [c]) ++ (mid ++ post)).toArray := by
        rw [List.setIfInBounds_toArray, ← hp]
        congr 1
        simp
      show List.foldl _ ((pre ++ (m :: mid ++ post)).toArray.setIfInBounds (off + j0) c) _ = _
      rw [e, ih off (j0 + 1) (pre ++ [c]) mid post (by simp; omega) (by simpa using hm)]
      simp

theorem fill_one {place : Nat → Option (Nat × Nat)} {i off : Nat} {cs pre mid post : List Value} {rest : List (Nat × Value)} (h : place i = some (off, cs.length)) (hp : pre.length = off) (hm : mid.length = cs.length) :
    Instr.fill place (pre ++ (mid ++ post)).toArray ((i, .agg cs.toArray) :: rest) = Instr.fill place (pre ++ (cs ++ post)).toArray rest := by
  have hz : ((Value.agg cs.toArray).cells.zipIdx.foldl (fun cs' (x : Value × Nat) => cs'.setIfInBounds (off + x.2) x.1) (pre ++ (mid ++ post)).toArray) = (pre ++ (cs ++ post)).toArray := by
    show (cs.toArray.zipIdx.foldl _ _) = _
    rw [← Array.foldl_toList]
    simp only [Array.toList_zipIdx]
    exact foldl_zip cs off 0 pre mid post (by omega) hm
  have hs : ¬ ((Value.agg cs.toArray).cells.size ≠ cs.length || decide (off + (Value.agg cs.toArray).cells.size > (pre ++ (mid ++ post)).toArray.size)) = true := by
    simp [Value.cells]; omega
  rw [Instr.fill, h]
  dsimp only
  rw [if_neg hs, hz]

theorem run_sizeOf {P : Program} {t : TypeId} {n : Nat} (h : (P.info? t).map (·.size) = some n) (w : World) : (sizeOf t).run P w = .ok n w := by
  cases hq : P.info? t with
  | none => simp [hq] at h
  | some i => simp [hq] at h; simp [sizeOf, typeInfo, hq, h]

theorem zeros24 : Array.map (fun x => ([.int .u32 0, .int .u32 0, .int .u32 0, .int .u32 0, .int .u32 0, .int .u32 0, .int .u32 0, .int .u32 0, .int .u32 0, .int .u32 0, .int .u32 0, .int .u32 0] : List Value)[x % 12]?.getD default) (Array.range 24) = (vl (fun _ => 0) ++ (vl (fun _ => 0) ++ [])).toArray := by
  rw [List.append_nil, ← List.append_toArray, vl_zero]
  apply Array.ext'
  simp [List.range_eq_range', List.range']

theorem zero_vec (w : World) : (zeroValue 24).run Tryz.prog w = .ok (.agg #[.int .u32 0, .int .u32 0, .int .u32 0, .int .u32 0, .int .u32 0, .int .u32 0, .int .u32 0, .int .u32 0, .int .u32 0, .int .u32 0, .int .u32 0, .int .u32 0]) w := by
  have := (zero_of_info (P := Tryz.prog) (t := 24) (v := .agg #[.int .u32 0, .int .u32 0, .int .u32 0, .int .u32 0, .int .u32 0, .int .u32 0, .int .u32 0, .int .u32 0, .int .u32 0, .int .u32 0, .int .u32 0, .int .u32 0]) (n := 12) (by kernel_rfl)).1 w
  exact this

def eqB (f g : Nat → Nat) : Bool := (List.range 12).all fun i => decide (f i = g i)
theorem eqB_iff (f g : Nat → Nat) : eqB f g = true ↔ ∀ i, i < 12 → f i = g i := by
  unfold eqB; simp
theorem run_equalIn_vec (d : Nat) (f g : Nat → Nat) (w : World) : (Op.equalIn (d + 2) 24 (.agg (vl f).toArray) (.agg (vl g).toArray)).run Tryz.prog w = .ok (eqB f g) w := by
  have hp : ∀ (h : Nat → Nat) (i : Nat) (hi : i < 12) w, (part 22 (vl h).toArray (i * 1)).run Tryz.prog w = .ok (.int .u32 (h i : Nat)) w := by
    intro h i hi w
    have hc := vl_get (f := h) hi
    simp [part, isAgg, run_underlying Tryz.underlying22, hc]
  have he : ∀ (d : Nat) (a b : Int) w, (Op.equalIn (d + 1) 22 (.int .u32 a) (.int .u32 b)).run Tryz.prog w = .ok (a == b) w := by
    intro d a b w
    simp [Op.equalIn, run_underlying Tryz.underlying22]
  rw [Op.equalIn]
  simp only [Sem.run_bind, run_underlying Tryz.underlying24, Result.andThen_ok, run_sizeOf esize]
  simp only [Std.Legacy.Range.forIn_eq_forIn_range']
  have key : ∀ n k, k + n = 12 → (forIn (m := Sem) (List.range' k n) ((none : Option Bool), ()) fun i (__s : Option Bool × Unit) => do
            let __do_lift ← part 22 (vl f).toArray (i * 1)
            let __do_lift_1 ← part 22 (vl g).toArray (i * 1)
            let __do_lift ← Op.equalIn (d + 1) 22 __do_lift __do_lift_1
            if (!__do_lift) = true then pure (ForInStep.done (some false, ())) else pure (ForInStep.yield (none, ()))).run Tryz.prog w = .ok (if (List.range' k n).all (fun i => decide (f i = g i)) then (none, ()) else (some false, ())) w := by
    intro n
    induction n with
    | zero => intro k _; simp
    | succ n ih =>
      intro k hk
      rw [List.range'_succ, List.forIn_cons]
      simp only [Sem.run_bind, hp f k (by omega), hp g k (by omega), Result.andThen_ok, he]
      by_cases h : f k = g k
      · have h2 : (((f k : Nat) : Int) == ((g k : Nat) : Int)) = true := by simp [h]
        have h3 : decide (f k = g k) = true := by simp [h]
        simp only [h2, Bool.not_true, Bool.false_eq_true, if_false, Sem.run_pure, Result.andThen_ok, ih (k + 1) (by omega), List.all_cons, h3, Bool.true_and]
      · have h2 : (((f k : Nat) : Int) == ((g k : Nat) : Int)) = false := by simp; omega
        simp only [h2, Bool.not_false, if_true, Sem.run_pure, Result.andThen_ok, List.all_cons, h, decide_false, Bool.false_and, Bool.false_eq_true, if_false]
  have hsz : [:12].size = 12 := rfl
  rw [hsz, key 12 0 rfl]
  unfold eqB
  rw [List.range_eq_range']
  by_cases h : (List.range' 0 12).all (fun i => decide (f i = g i)) = true
  · rw [if_pos h, h]; rfl
  · rw [if_neg h]
    have : (List.range' 0 12).all (fun i => decide (f i = g i)) = false := by simpa using h
    rw [this]; rfl
attribute [irreducible] eqB
theorem vrange_next {b o : Nat} {w w' : World} {f : Nat → Nat} (hb : Below w.heap.size w w') (h : w.rangeAt b o (vl f)) : w'.rangeAt b o (vl f) :=
  range_below h hb (World.block_lt_of_cell? w _ (h 0 _ (vl_get (by omega))))
theorem step_build_lit {P : Program} {ops : Array Oper} {o : Oper} {a : Act} {w : World} {K : Act → World → Prop} {Q : Exit → Act → World → Prop} {E : Prop} (cells : Array Value) (hw : Region.wanted o (yielded ops a.tmps) = true) (t : TypeId) (parts : List (Nat × Operand))
    (ho : o.op = .build t parts.toArray) (hp : P.built t (parts.map fun x => (x.1, a.eval x.2)) = some cells) (h : K (a.put o.dst (.agg cells)) w) : if Region.wanted o (yielded ops a.tmps) = true then Oper.wp P o a w K Q else E := by
  have e : (parts.toArray.map fun x => (x.1, a.eval x.2)).toList = parts.map fun x => (x.1, a.eval x.2) := by simp
  have hp' : P.built t (parts.toArray.map fun x => (x.1, a.eval x.2)).toList = some cells := by rw [e]; exact hp
  rw [if_pos hw]
  refine wp_build t parts.toArray ho (Option.isSome_iff_exists.2 ⟨_, hp'⟩) ?_
  show K (a.put o.dst (.agg ((P.built t (parts.toArray.map fun x => (x.1, a.eval x.2)).toList).getD #[]))) w
  rw [hp']; exact h
theorem wpList_build_lit {P : Program} {ops : Array Oper} {rest : List Oper} {o : Oper} {a : Act} {w : World} {Q : Exit → Act → World → Prop} (cells : Array Value) (hw : Region.wanted o (yielded ops a.tmps) = true) (t : TypeId) (parts : List (Nat × Operand))
    (ho : o.op = .build t parts.toArray) (hp : P.built t (parts.map fun x => (x.1, a.eval x.2)) = some cells)
    (h : wpList P ops Q rest (a.put o.dst (.agg cells)) w) : wpList P ops Q (o :: rest) a w :=
  wpList_step fun _ hK => step_build_lit cells hw t parts ho hp (hK _ _ h)
theorem vecs_blk {w : World} {b : Nat} {f g : Nat → Nat} (hB : Blk w b 24 (vl f ++ vl g).toArray) : Vecs w (.slice (some ⟨b, 0, none⟩) 2 2) [f, g] := by
  refine ⟨_, 2, rfl, Or.inr ⟨b, 0, rfl, hB.lt, fun i hi j v hv => ?_⟩⟩
  have : i = 0 ∨ i = 1 := by simp at hi; omega
  rw [hB.cell]
  have hj : ∀ h, (vl h)[j]? = some v → j < 12 := fun h hv => by have := (List.getElem?_eq_some_iff.1 hv).1; rwa [vl_len] at this
  rcases this with rfl | rfl
  · have hv : (vl f)[j]? = some v := hv
    rw [List.getElem?_toArray, List.getElem?_append_left (by rw [vl_len]; have := hj f hv; omega), ← hv]; simp
  · have hv : (vl g)[j]? = some v := hv
    rw [List.getElem?_toArray, List.getElem?_append_right (by rw [vl_len]; omega), ← hv, vl_len]; congr 1; omega
end Go.Proofs.YtgnfachjobohoaaGreat
namespace Go.Proofs.YtgnfachjobohoaaGreat
open Go.RowKit

theorem eqB_self (f : Nat → Nat) : eqB f f = true := (eqB_iff f f).2 fun _ _ => rfl
theorem eqv (f g : Nat → Nat) {b : Bool} (h : eqB f g = b) : ∀ w, (Op.equalIn 10000 24 (.agg (vl f).toArray) (.agg (vl g).toArray)).run Tryz.prog w = .ok b w := fun w => by
  have := run_equalIn_vec 9998 f g w
  rwa [h] at this
end Go.Proofs.YtgnfachjobohoaaGreat
