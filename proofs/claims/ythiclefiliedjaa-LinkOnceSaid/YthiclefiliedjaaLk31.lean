/-
link: a row of a meeting grows.
-/
import Derived.Test.YthiclefiliedjaaLk30
namespace Go.Proofs.Ythiclefiliedjaa
open Go.RowKit
set_option linter.unusedSimpArgs false
set_option linter.unusedVariables false
namespace Lk
theorem ths_app (a b : List Th) : ths (a ++ b) = ths a ++ ths b := by simp [ths]
theorem ths_one (x : Th) : ths [x] = x.cells := by simp [ths]
theorem own_ty {w : World} {B n n' s s' : Nat} {e e' : TypeId} {v v' : Value} {xs xs' : List Value} (h : w.ownsRow B e s v n xs) (h' : w.ownsRow B e' s' v' n' xs') (he : e ≠ e') : ∀ k, v.ownBlock = some k → v'.ownBlock ≠ some k := by
  intro k hk hk'
  obtain ⟨_, ⟨rfl, _⟩ | ⟨q, cap, cur, rfl, _, hh, _⟩⟩ := h
  · simp [Value.ownBlock] at hk
  · obtain ⟨_, ⟨rfl, _⟩ | ⟨q', cap', cur', rfl, _, hh', _⟩⟩ := h'
    · simp [Value.ownBlock] at hk'
    · simp [Value.ownBlock] at hk hk'
      subst hk hk'
      rw [hh] at hh'
      simp only [Option.some.injEq, Obj.cells.injEq] at hh'
      exact he hh'.2.1
section
variable {W w w9 : World} {g d1 d2 : Nat} {l1 l2 : LS} {net : List Th} {sent tk : List (List Nat)} {vn vs vt v' : Value}
theorem Mt.pushN (h : Mt W w g d1 d2 l1 l2 net sent tk vn vs vt) (x : Th) (hown : w9.ownsRow W.heap.size 60 3 v' (net.length + 1) (ths net ++ x.cells)) (hg : w.grownBy w9 vn.ownBlock) (hloc : v'.ownBlock = vn.ownBlock ∨ v'.ownBlock = some w.heap.size) :
    Mt W (w9.setCell ⟨g, 2, none⟩ v') g d1 d2 l1 l2 (net ++ [x]) sent tk v' vs vt := by
  have hgl := h.blk.lt
  have hgn : some g ≠ vn.ownBlock := own_ne h.on h.blk (by decide)
  have hgs : some g ≠ vs.ownBlock := own_ne h.os h.blk (by decide)
  have hgt : some g ≠ vt.ownBlock := own_ne h.ot h.blk (by decide)
  have hne_n : ∀ k, vn.ownBlock = some k → k ≠ g := fun k e hk => hgn (by rw [← hk]; exact e.symm)
  have hne_s : ∀ k, vs.ownBlock = some k → k ≠ g := fun k e hk => hgs (by rw [← hk]; exact e.symm)
  have hne_t : ∀ k, vt.ownBlock = some k → k ≠ g := fun k e hk => hgt (by rw [← hk]; exact e.symm)
  have hz := hg.size
  have hlt : ∀ k, v'.ownBlock = some k → k < w9.heap.size := fun k e => (hown.lt k e).2
  have hd_s := own_ty h.os h.on (by decide)
  have hd_t := own_ty h.ot h.on (by decide)
  have hsz : (w9.setCell ⟨g, 2, none⟩ v').heap.size = w9.heap.size := by simp [World.setCell]
  have far9 : ∀ k, k ≠ g → (w9.setCell ⟨g, 2, none⟩ v').heap[k]? = w9.heap[k]? := fun k hk => Below.heap_setCell w9 ⟨g, 2, none⟩ _ k hk
  have far : ∀ k, k < w.heap.size → k ≠ g → some k ≠ vn.ownBlock → (w9.setCell ⟨g, 2, none⟩ v').heap[k]? = w.heap[k]? := fun k hk h1 h2 => (far9 k h1).trans (hg.block k hk h2)
  have hb9 : Blk w9 g 56 #[.pointer (some ⟨d1, 0, none⟩), .pointer (some ⟨d2, 0, none⟩), vn, vs, vt] := (hg.block g hgl hgn).trans h.blk
  have hb10 : Blk (w9.setCell ⟨g, 2, none⟩ v') g 56 #[.pointer (some ⟨d1, 0, none⟩), .pointer (some ⟨d2, 0, none⟩), v', vs, vt] := hb9.setCell 2 v'
  have hne' : ∀ k, v'.ownBlock = some k → k ≠ g := fun k e hk => by
    rcases hloc with h1 | h1
    · exact hne_n k (by rw [← h1]; exact e) hk
    · rw [h1] at e; simp only [Option.some.injEq] at e; omega
  have hnew : (w9.setCell ⟨g, 2, none⟩ v').ownsRow W.heap.size 60 3 v' (net ++ [x]).length (ths (net ++ [x])) := by
    rw [List.length_append, ths_app, ths_one]
    exact ownG_keep hown fun k e => far9 k (hne' k e)
  refine ⟨h.gl, hb10, ?_, hnew, ownG_keep h.os fun k e => far k (h.low k (Or.inr (Or.inr (Or.inl e)))).2 (fun hg => hne_s k e hg) (fun e2 => hd_s k e e2.symm), ownG_keep h.ot fun k e => far k (h.low k (Or.inr (Or.inr (Or.inr e)))).2 (fun hg => hne_t k e hg) (fun e2 => hd_t k e e2.symm), h.ne⟩
  refine h.links (fun k hk hp => far k hk (fun e => hp (Or.inl e)) (fun e => hp (Or.inr (Or.inl e.symm)))) (by omega) ⟨hg.os, hg.tape, hg.output⟩ (fun k hp => (h.low k hp).1) ?_
  rintro k hp
  rw [hsz]
  rcases hp with e | e | e | e
  · exact ⟨by omega, Or.inl (Or.inl e)⟩
  · rcases hloc with h1 | h1
    · have h2 := h.low k (Or.inr (Or.inl (by rw [← h1]; exact e)))
      exact ⟨by omega, Or.inl (Or.inr (Or.inl (by rw [← h1]; exact e)))⟩
    · rw [h1] at e; simp only [Option.some.injEq] at e; exact ⟨hlt k (by rw [h1, e]), Or.inr (by omega)⟩
  · have h2 := h.low k (Or.inr (Or.inr (Or.inl e)))
    exact ⟨by omega, Or.inl (Or.inr (Or.inr (Or.inl e)))⟩
  · have h2 := h.low k (Or.inr (Or.inr (Or.inr e)))
    exact ⟨by omega, Or.inl (Or.inr (Or.inr (Or.inr e)))⟩
theorem Mt.pushS (h : Mt W w g d1 d2 l1 l2 net sent tk vn vs vt) (b : List Nat) (hown : w9.ownsRow W.heap.size 9 1 v' (sent.length + 1) (strs sent ++ strs [b])) (hg : w.grownBy w9 vs.ownBlock) (hloc : v'.ownBlock = vs.ownBlock ∨ v'.ownBlock = some w.heap.size) :
    Mt W (w9.setCell ⟨g, 3, none⟩ v') g d1 d2 l1 l2 net (sent ++ [b]) tk vn v' vt := by
  have hgl := h.blk.lt
  have hgn : some g ≠ vn.ownBlock := own_ne h.on h.blk (by decide)
  have hgs : some g ≠ vs.ownBlock := own_ne h.os h.blk (by decide)
  have hgt : some g ≠ vt.ownBlock := own_ne h.ot h.blk (by decide)
  have hne_n : ∀ k, vn.ownBlock = some k → k ≠ g := fun k e hk => hgn (by rw [← hk]; exact e.symm)
  have hne_s : ∀ k, vs.ownBlock = some k → k ≠ g := fun k e hk => hgs (by rw [← hk]; exact e.symm)
  have hne_t : ∀ k, vt.ownBlock = some k → k ≠ g := fun k e hk => hgt (by rw [← hk]; exact e.symm)
  have hz := hg.size
  have hlt : ∀ k, v'.ownBlock = some k → k < w9.heap.size := fun k e => (hown.lt k e).2
  have hd_n := own_ty h.on h.os (by decide)
  have hd_t : ∀ k, vt.ownBlock = some k → vs.ownBlock ≠ some k := fun k e e2 => h.ne k e2 e
  have hsz : (w9.setCell ⟨g, 3, none⟩ v').heap.size = w9.heap.size := by simp [World.setCell]
  have far9 : ∀ k, k ≠ g → (w9.setCell ⟨g, 3, none⟩ v').heap[k]? = w9.heap[k]? := fun k hk => Below.heap_setCell w9 ⟨g, 3, none⟩ _ k hk
  have far : ∀ k, k < w.heap.size → k ≠ g → some k ≠ vs.ownBlock → (w9.setCell ⟨g, 3, none⟩ v').heap[k]? = w.heap[k]? := fun k hk h1 h2 => (far9 k h1).trans (hg.block k hk h2)
  have hb9 : Blk w9 g 56 #[.pointer (some ⟨d1, 0, none⟩), .pointer (some ⟨d2, 0, none⟩), vn, vs, vt] := (hg.block g hgl hgs).trans h.blk
  have hb10 : Blk (w9.setCell ⟨g, 3, none⟩ v') g 56 #[.pointer (some ⟨d1, 0, none⟩), .pointer (some ⟨d2, 0, none⟩), vn, v', vt] := hb9.setCell 3 v'
  have hne' : ∀ k, v'.ownBlock = some k → k ≠ g := fun k e hk => by
    rcases hloc with h1 | h1
    · exact hne_s k (by rw [← h1]; exact e) hk
    · rw [h1] at e; simp only [Option.some.injEq] at e; omega
  have hnew : (w9.setCell ⟨g, 3, none⟩ v').ownsRow W.heap.size 9 1 v' (sent ++ [b]).length (strs (sent ++ [b])) := by
    rw [List.length_append, strs_app]
    exact ownG_keep hown fun k e => far9 k (hne' k e)
  refine ⟨h.gl, hb10, ?_, ownG_keep h.on fun k e => far k (h.low k (Or.inr (Or.inl e))).2 (fun hg => hne_n k e hg) (fun e2 => hd_n k e e2.symm), hnew, ownG_keep h.ot fun k e => far k (h.low k (Or.inr (Or.inr (Or.inr e)))).2 (fun hg => hne_t k e hg) (fun e2 => hd_t k e e2.symm), fun k e e2 => by
      rcases hloc with h1 | h1
      · exact h.ne k (by rw [← h1]; exact e) e2
      · rw [h1] at e; simp only [Option.some.injEq] at e; have := (h.low k (Or.inr (Or.inr (Or.inr e2)))).2; omega⟩
  refine h.links (fun k hk hp => far k hk (fun e => hp (Or.inl e)) (fun e => hp (Or.inr (Or.inr (Or.inl e.symm))))) (by omega) ⟨hg.os, hg.tape, hg.output⟩ (fun k hp => (h.low k hp).1) ?_
  rintro k hp
  rw [hsz]
  rcases hp with e | e | e | e
  · exact ⟨by omega, Or.inl (Or.inl e)⟩
  · have h2 := h.low k (Or.inr (Or.inl e))
    exact ⟨by omega, Or.inl (Or.inr (Or.inl e))⟩
  · rcases hloc with h1 | h1
    · have h2 := h.low k (Or.inr (Or.inr (Or.inl (by rw [← h1]; exact e))))
      exact ⟨by omega, Or.inl (Or.inr (Or.inr (Or.inl (by rw [← h1]; exact e))))⟩
    · rw [h1] at e; simp only [Option.some.injEq] at e; exact ⟨hlt k (by rw [h1, e]), Or.inr (by omega)⟩
  · have h2 := h.low k (Or.inr (Or.inr (Or.inr e)))
    exact ⟨by omega, Or.inl (Or.inr (Or.inr (Or.inr e)))⟩
theorem Mt.pushT (h : Mt W w g d1 d2 l1 l2 net sent tk vn vs vt) (b : List Nat) (hown : w9.ownsRow W.heap.size 9 1 v' (tk.length + 1) (strs tk ++ strs [b])) (hg : w.grownBy w9 vt.ownBlock) (hloc : v'.ownBlock = vt.ownBlock ∨ v'.ownBlock = some w.heap.size) :
    Mt W (w9.setCell ⟨g, 4, none⟩ v') g d1 d2 l1 l2 net sent (tk ++ [b]) vn vs v' := by
  have hgl := h.blk.lt
  have hgn : some g ≠ vn.ownBlock := own_ne h.on h.blk (by decide)
  have hgs : some g ≠ vs.ownBlock := own_ne h.os h.blk (by decide)
  have hgt : some g ≠ vt.ownBlock := own_ne h.ot h.blk (by decide)
  have hne_n : ∀ k, vn.ownBlock = some k → k ≠ g := fun k e hk => hgn (by rw [← hk]; exact e.symm)
  have hne_s : ∀ k, vs.ownBlock = some k → k ≠ g := fun k e hk => hgs (by rw [← hk]; exact e.symm)
  have hne_t : ∀ k, vt.ownBlock = some k → k ≠ g := fun k e hk => hgt (by rw [← hk]; exact e.symm)
  have hz := hg.size
  have hlt : ∀ k, v'.ownBlock = some k → k < w9.heap.size := fun k e => (hown.lt k e).2
  have hd_n := own_ty h.on h.ot (by decide)
  have hd_s := h.ne
  have hsz : (w9.setCell ⟨g, 4, none⟩ v').heap.size = w9.heap.size := by simp [World.setCell]
  have far9 : ∀ k, k ≠ g → (w9.setCell ⟨g, 4, none⟩ v').heap[k]? = w9.heap[k]? := fun k hk => Below.heap_setCell w9 ⟨g, 4, none⟩ _ k hk
  have far : ∀ k, k < w.heap.size → k ≠ g → some k ≠ vt.ownBlock → (w9.setCell ⟨g, 4, none⟩ v').heap[k]? = w.heap[k]? := fun k hk h1 h2 => (far9 k h1).trans (hg.block k hk h2)
  have hb9 : Blk w9 g 56 #[.pointer (some ⟨d1, 0, none⟩), .pointer (some ⟨d2, 0, none⟩), vn, vs, vt] := (hg.block g hgl hgt).trans h.blk
  have hb10 : Blk (w9.setCell ⟨g, 4, none⟩ v') g 56 #[.pointer (some ⟨d1, 0, none⟩), .pointer (some ⟨d2, 0, none⟩), vn, vs, v'] := hb9.setCell 4 v'
  have hne' : ∀ k, v'.ownBlock = some k → k ≠ g := fun k e hk => by
    rcases hloc with h1 | h1
    · exact hne_t k (by rw [← h1]; exact e) hk
    · rw [h1] at e; simp only [Option.some.injEq] at e; omega
  have hnew : (w9.setCell ⟨g, 4, none⟩ v').ownsRow W.heap.size 9 1 v' (tk ++ [b]).length (strs (tk ++ [b])) := by
    rw [List.length_append, strs_app]
    exact ownG_keep hown fun k e => far9 k (hne' k e)
  refine ⟨h.gl, hb10, ?_, ownG_keep h.on fun k e => far k (h.low k (Or.inr (Or.inl e))).2 (fun hg => hne_n k e hg) (fun e2 => hd_n k e e2.symm), ownG_keep h.os fun k e => far k (h.low k (Or.inr (Or.inr (Or.inl e)))).2 (fun hg => hne_s k e hg) (fun e2 => hd_s k e e2.symm), hnew, fun k e e2 => by
      rcases hloc with h1 | h1
      · exact h.ne k e (by rw [← h1]; exact e2)
      · rw [h1] at e2; simp only [Option.some.injEq] at e2; have := (h.low k (Or.inr (Or.inr (Or.inl e)))).2; omega⟩
  refine h.links (fun k hk hp => far k hk (fun e => hp (Or.inl e)) (fun e => hp (Or.inr (Or.inr (Or.inr e.symm))))) (by omega) ⟨hg.os, hg.tape, hg.output⟩ (fun k hp => (h.low k hp).1) ?_
  rintro k hp
  rw [hsz]
  rcases hp with e | e | e | e
  · exact ⟨by omega, Or.inl (Or.inl e)⟩
  · have h2 := h.low k (Or.inr (Or.inl e))
    exact ⟨by omega, Or.inl (Or.inr (Or.inl e))⟩
  · have h2 := h.low k (Or.inr (Or.inr (Or.inl e)))
    exact ⟨by omega, Or.inl (Or.inr (Or.inr (Or.inl e)))⟩
  · rcases hloc with h1 | h1
    · have h2 := h.low k (Or.inr (Or.inr (Or.inr (by rw [← h1]; exact e))))
      exact ⟨by omega, Or.inl (Or.inr (Or.inr (Or.inr (by rw [← h1]; exact e))))⟩
    · rw [h1] at e; simp only [Option.some.injEq] at e; exact ⟨hlt k (by rw [h1, e]), Or.inr (by omega)⟩
end
end Lk
end Go.Proofs.Ythiclefiliedjaa
