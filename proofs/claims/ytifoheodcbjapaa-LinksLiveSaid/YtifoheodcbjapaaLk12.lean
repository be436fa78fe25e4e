/-
link: the link of bytes (load of the statements).
-/
import Derived.Test.YtifoheodcbjapaaLk11
namespace Go.Proofs.Ytifoheodcbjapaa
open Go.RowKit
set_option linter.unusedSimpArgs false
set_option linter.unusedVariables false
namespace Lk
theorem numP_err : ∀ (bs : List Nat) (b : Bool) (n : Nat) (x : Int), numP b n bs = .error x → x ≠ 0
  | [], b, n, x, h => by unfold numP at h; cases h; decide
  | y :: t, b, n, x, h => by
    unfold numP at h
    split at h
    · cases h; decide
    · split at h
      · cases h; decide
      · split at h
        · cases h
        · exact numP_err t _ _ x h
theorem smallP_ne {most : Int} {bs : List Nat} {x : Int} (h : smallP most bs = .error x) : x ≠ 0 := by
  unfold smallP at h
  split at h
  · split at h
    · cases h
    · cases h; decide
  · rename_i y hy
    cases h
    exact numP_err _ _ _ _ hy
theorem textP1_ne {bs : List Nat} {x : Int} (h : textP1 bs = .error x) : x ≠ 0 := by
  unfold textP1 at h
  split at h
  · split at h
    · cases h
    · cases h; decide
  · rename_i y hy
    cases h
    unfold textP at hy
    split at hy
    · split at hy
      · cases hy
      · cases hy; decide
    · rename_i z hz
      cases hy
      exact smallP_ne hz
theorem nextP_ne {bs : List Nat} {x : Int} (h : nextP bs = .error x) : x ≠ 0 := by
  unfold nextP at h
  split at h
  · split at h
    · cases h
    · cases h; decide
  · rename_i y hy
    cases h
    exact numP_err _ _ _ _ hy
theorem textsP_ne : ∀ (n : Nat) (acc : List (List Nat)) (bs : List Nat) (x : Int), textsP n acc bs = .error x → x ≠ 0
  | 0, acc, bs, x, h => by unfold textsP at h; cases h
  | n + 1, acc, bs, x, h => by
    unfold textsP at h
    split at h
    · exact textsP_ne n _ _ x h
    · rename_i y hy
      cases h
      exact textP1_ne hy
theorem linkP_ne {bs : List Nat} {x : Int} (h : linkP bs = .error x) : x ≠ 0 := by
  unfold linkP at h
  split at h
  · split at h
    · split at h
      · unfold restP at h
        split at h
        · split at h
          · cases h
          · rename_i y hy; cases h; exact nextP_ne hy
        · rename_i y hy; cases h; exact textsP_ne _ _ _ _ hy
      · cases h; decide
    · rename_i y hy; cases h; exact smallP_ne hy
  · rename_i y hy; cases h; exact nextP_ne hy
/-- What load's callback gives: the link is stored in box c. -/
def EndC (L c s : Nat) (W : World) (P : Except Int (LS × List Nat)) (e : Ending) (W' : World) : Prop :=
  match P with
  | .ok (S, q) => e = .returned (.tuple #[]) ∧ RdB L W' s q ∧ ∃ w1 d F, Off s W w1 ∧ W' = w1.setCell ⟨c, 0, none⟩ (.pointer (some ⟨d, 0, none⟩)) ∧ Blk W' c 110 #[.pointer (some ⟨d, 0, none⟩)] ∧ LK W' W.heap.size d F S
  | .error x => e = .panicked [{ v := flt s, recovered := false }] ∧ Met' W' s x ∧ Off s W W'
/-- What load's read leaves. -/
def LoadP (bs : List Nat) (W : World) (r : Except Int (List Nat)) (W' : World) : Prop :=
  (match linkP bs with
    | .ok (S, q) => r = .ok q ∧ ∃ d F, Blk W' W.heap.size 110 #[.pointer (some ⟨d, 0, none⟩)] ∧ LK W' (W.heap.size + 5) d F S
    | .error x => r = .error x) ∧ Below W.heap.size W W'
section
variable (A : Option Addr) (n cp : Nat) (W : World) (bs : List Nat) (hn : bs.length = n) (hnc : n ≤ cp) (hlen : bs.length ≤ 140737488355328) (h256 : ∀ y ∈ bs, y < 256)
    (hbs : Byt.ByR W A bs)
include hn hnc hbs hlen h256
end
end Lk
end Go.Proofs.Ytifoheodcbjapaa
