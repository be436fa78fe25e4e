/-
cuts: rows of what two homes say, that came in.
-/
import Derived.Test.YtbnapbjmffajfaaCu25
import Derived.Test.YtbnapbjmffajfaaOpenG
namespace Go.Proofs.Ytbnapbjmffajfaa
open Go.RowKit Go.ChangeShapes Go.WideShapes Go.ChangeAt Go.WideElems
set_option linter.unusedSimpArgs false
set_option linter.unusedVariables false
namespace Cu
theorem cells_u32 : Try.prog.cellsOf 31 = 1 := by kernel_rfl
theorem cells_vec : Try.prog.cellsOf 33 = 12 := by kernel_rfl

section
variable {H : Type} {enc : TypeId × Value → H} {w : World}

def cellNat : Option Value → Nat
  | some (.int .u32 n) => n.toNat % 4294967296
  | _ => 0
theorem cellNat_lt (o : Option Value) : cellNat o < 4294967296 := by
  unfold cellNat; split <;> omega

theorem vec_of {cs : List Value} (hl : cs.length = 12) (h : ∀ i, i < 12 → ∃ n : Int, cs[i]? = some (.int .u32 n) ∧ 0 ≤ n ∧ n < 4294967296) : ∃ f : Nat → Nat, cs = vl f ∧ ∀ i, f i < 4294967296 := by
  refine ⟨fun i => cellNat cs[i]?, ?_, fun i => cellNat_lt _⟩
  apply List.ext_getElem?
  intro i
  by_cases hi : i < 12
  · obtain ⟨n, e, h0, h1⟩ := h i hi
    rw [vl_get hi, e]
    have : ((cellNat (some (.int .u32 n)) : Nat) : Int) = n := by
      show ((n.toNat % 4294967296 : Nat) : Int) = n
      omega
    rw [this]
  · rw [List.getElem?_eq_none (by omega), List.getElem?_eq_none (by rw [vl_len]; omega)]

theorem vec_trod {base fuel : Nat} {sp : Nat → Bool} {hd : Bool} {cs : List Value} {x : DataW H × List MemPlace} (h : DataW.trod enc Try.prog w base sp hd fuel 33 cs = some x) : ∃ f : Nat → Nat, cs = vl f ∧ ∀ i, f i < 4294967296 := by
  obtain ⟨xs, m, _, _, hlen, hx, hg⟩ := DataW.trod_array Try.underlying33 h
  rw [cells_vec] at hlen
  refine vec_of hlen fun i hi => ?_
  have h1 := hg i hi
  rw [cells_u32, Nat.mul_one, List.drop_eq_getElem_cons (by omega), List.take_succ_cons, List.take_zero] at h1
  have h2 : xs[i]? = some (xs[i]'(by omega)) := List.getElem?_eq_getElem (by omega)
  rw [h2] at h1
  obtain ⟨n, e, _, hw⟩ := DataW.trod_int Try.underlying31 h1
  have hb := bounds_u32 hw
  refine ⟨n, ?_, by omega, by omega⟩
  rw [List.getElem?_eq_getElem (by omega)]
  rw [(List.cons.inj e).1]
end
/-- What a home says. -/
structure Sy where
  hm : Int
  g : Bool
  t : Nat
  f : Nat → Nat
def Sy.cells (x : Sy) : List Value := [.int .i64 x.hm, .bool x.g, .int .u64 (x.t : Nat)] ++ vl x.f
structure Sy.Ok (x : Sy) : Prop where
  t : x.t < 18446744073709551616
  f : ∀ i, x.f i < 4294967296
  hm1 : -9223372036854775808 ≤ x.hm
  hm2 : x.hm ≤ 9223372036854775807
theorem sy_len (x : Sy) : x.cells.length = 15 := by unfold Sy.cells; rw [List.length_append, vl_len]; rfl
theorem sy_2 (x : Sy) : x.cells[2]? = some (.int .u64 (x.t : Nat)) := rfl
theorem sy_3 (x : Sy) (j : Nat) : x.cells[3 + j]? = (vl x.f)[j]? := by unfold Sy.cells; rw [List.getElem?_append_right (by simp)]; simp
section
variable {H : Type} {enc : TypeId × Value → H} {w : World}
theorem cells_sy : Try.prog.cellsOf 35 = 15 := by kernel_rfl
theorem cells_one : Try.prog.cellsOf 3 = 1 ∧ Try.prog.cellsOf 4 = 1 ∧ Try.prog.cellsOf 30 = 1 := ⟨by kernel_rfl, by kernel_rfl, by kernel_rfl⟩
theorem four_cells {cs v : List Value} {a b c : Value} (hl : cs.length = 15) (h0 : (cs.drop 0).take 1 = [a]) (h1 : (cs.drop 1).take 1 = [b]) (h2 : (cs.drop 2).take 1 = [c]) (h3 : (cs.drop 3).take 12 = v) : cs = [a, b, c] ++ v := by
  match cs, hl with
  | x0 :: x1 :: x2 :: r, hl =>
    simp only [List.drop_zero, List.drop_succ_cons, List.take_succ_cons, List.take_zero, List.cons.injEq, and_true] at h0 h1 h2 h3
    simp only [List.length_cons] at hl
    rw [List.take_of_length_le (by omega)] at h3
    rw [h0, h1, h2, h3]; rfl
set_option maxRecDepth 100000 in
theorem open_sy {base fuel : Nat} {hd : Bool} {cs : List Value} {x : DataW H × List MemPlace} (h : DataW.trod enc Try.prog w base (fun _ => true) hd fuel 35 cs = some x) : ∃ p : Sy, cs = p.cells ∧ p.Ok := by
  obtain ⟨xs, m, _, hx, hcl, hlen, hg⟩ := DataW.trod_struct Try.underlying35 h
  rw [cells_sy] at hcl
  have g0 : DataW.trod enc Try.prog w base (fun _ => true) hd m 3 ((cs.drop 0).take (Try.prog.cellsOf 3)) = xs[0]? := hg 0 _ rfl
  have g1 : DataW.trod enc Try.prog w base (fun _ => true) hd m 4 ((cs.drop 1).take (Try.prog.cellsOf 4)) = xs[1]? := hg 1 _ rfl
  have g2 : DataW.trod enc Try.prog w base (fun _ => true) hd m 30 ((cs.drop 2).take (Try.prog.cellsOf 30)) = xs[2]? := hg 2 _ rfl
  have g3 : DataW.trod enc Try.prog w base (fun _ => true) hd m 33 ((cs.drop 3).take (Try.prog.cellsOf 33)) = xs[3]? := hg 3 _ rfl
  have hlen4 : xs.length = 4 := hlen
  clear hg hlen
  rw [cells_one.1] at g0
  rw [cells_one.2.1] at g1
  rw [cells_one.2.2] at g2
  rw [cells_vec] at g3
  rw [List.getElem?_eq_getElem (by omega)] at g0 g1 g2 g3
  obtain ⟨k, e0, _, w0⟩ := DataW.trod_int Try.underlying3 g0
  obtain ⟨s, e1, _⟩ := DataW.trod_bool Try.underlying4 g1
  obtain ⟨p, e2, _, w2⟩ := DataW.trod_int Try.underlying30 g2
  obtain ⟨f, e3, hf⟩ := vec_trod g3
  have b0 := bounds_i64 w0
  have b2 := bounds_u64 w2
  obtain ⟨p', rfl⟩ : ∃ p' : Nat, p = p' := ⟨p.toNat, by omega⟩
  exact ⟨⟨k, s, p', f⟩, four_cells hcl e0 e1 e2 e3, ⟨by show p' < _; omega, hf, by show _ ≤ k; omega, by show k ≤ _; omega⟩⟩
end
end Cu
theorem Cu.own_knob : ownKnob Try.prog.godebug = none := by kernel_rfl
theorem Cu.laid_out : laidOutB Try.prog = true := by kernel_rfl
/-- Of one home alone each cut covers the one ahead of it, and is more. -/
def Rise (cs : List Ct) : Prop := (∀ (k : Nat) (x y : Ct), cs[k]? = some x → cs[k + 1]? = some y → ordI y.f x.f = 1) ∧ ∀ c ∈ cs, c.o = 3
theorem Rise.nil : Rise [] := ⟨fun k x y h => by simp at h, by simp⟩
theorem Rise.add {cs : List Ct} {t : Nat} {f : Nat → Nat} (h : Rise cs) (hc : covB f (lastF cs) = true) (he : eqB f (lastF cs) = false) : Rise (cs ++ [⟨3, t, f⟩]) := by
  refine ⟨fun k x y h1 h2 => ?_, fun c hc => ?_⟩
  · have hk := (List.getElem?_eq_some_iff.1 h2).1
    rw [List.length_append, List.length_singleton] at hk
    rw [List.getElem?_append_left (by omega)] at h1
    by_cases hk2 : k + 1 < cs.length
    · rw [List.getElem?_append_left hk2] at h2
      exact h.1 k x y h1 h2
    · have hke : k + 1 = cs.length := by omega
      rw [List.getElem?_append_right (by omega), hke, Nat.sub_self] at h2
      injection h2 with h2
      subst h2
      have hl : lastF cs = x.f := by
        unfold lastF
        rw [List.getLast?_eq_getElem?, show cs.length - 1 = k by omega, h1]
      rw [hl] at hc he
      unfold ordI
      have := eqB_cov f x.f
      rw [hc, if_pos rfl]
      rw [hc] at this
      rw [he] at this
      cases h5 : covB x.f f with
      | false => rfl
      | true => rw [h5] at this; simp at this
  · rcases List.mem_append.1 hc with h1 | h1
    · exact h.2 c h1
    · rw [List.mem_singleton.1 h1]
theorem prop_ok {cs : List Ct} {s : St} (h : propE cs Sd.zero s = 0) : cs.length < 20 ∧ covB s.f (lastF cs) = true ∧ eqB s.f (lastF cs) = false := by
  unfold propE at h
  split at h
  · cases h
  · split at h
    · cases h
    · split at h
      · cases h
      · rename_i h3
        split at h
        · cases h
        · rename_i h4
          split at h
          · cases h
          · rename_i h5
            simp at h3 h4 h5
            exact ⟨h3, h4, h5⟩
theorem won_alone (t : Nat) (f : Nat → Nat) : won 3 0 ⟨true, true, t, f⟩ Sd.zero = some ⟨3, t, f⟩ := rfl
end Go.Proofs.Ytbnapbjmffajfaa
