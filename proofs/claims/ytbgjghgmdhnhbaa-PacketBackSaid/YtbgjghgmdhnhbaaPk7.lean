/-
packet: Read.
-/
import Derived.Test.YtbgjghgmdhnhbaaPk6
import Derived.Test.YtbgjghgmdhnhbaaEndT
namespace Go.Proofs.Ytbgjghgmdhnhbaa
open Go.RowKit
set_option linter.unusedSimpArgs false
set_option linter.unusedVariables false
namespace Pk
theorem numP_err : ∀ (bs : List Nat) (b : Bool) (n : Nat) (x : Int), numP b n bs = .error x → x ≠ 0
  | [], b, n, x, h => by unfold numP at h; cases h; decide
  | y :: t, b, n, x, h => by
    unfold numP at h
    split at h
    · cases h; decide
    · split at h
      · cases h; decide
      · split at h
        · cases h
        · exact numP_err t _ _ x h
theorem smallP_ne {most : Int} {bs : List Nat} {x : Int} (h : smallP most bs = .error x) : x ≠ 0 := by
  unfold smallP at h
  split at h
  · split at h
    · cases h
    · cases h; decide
  · rename_i y hy
    cases h
    exact numP_err _ _ _ _ hy
theorem textP_ne {most : Int} {bs : List Nat} {x : Int} (h : textP most bs = .error x) : x ≠ 0 := by
  unfold textP at h
  split at h
  · split at h
    · cases h
    · cases h; decide
  · rename_i z hz
    cases h
    exact smallP_ne hz
theorem finP_ne {p : Pt} {t : List Nat} {x : Int} (h : finP p t = .error x) : x ≠ 0 := by
  unfold finP at h
  split at h
  · cases h
  · cases h; decide
theorem getP_ne {bs : List Nat} {x : Int} (h : getP bs = .error x) : x ≠ 0 := by
  unfold getP at h
  split at h
  · unfold getP1 at h
    split at h
    · unfold getP2 at h
      split at h
      · unfold getP3 at h
        split at h
        · unfold getP4 at h
          split at h
          · exact finP_ne h
          · split at h
            · exact finP_ne h
            · rename_i y hy; cases h; exact textP_ne hy
        · rename_i y hy; cases h; exact numP_err _ _ _ _ hy
      · rename_i y hy; cases h; exact smallP_ne hy
    · rename_i y hy; cases h; exact smallP_ne hy
  · rename_i y hy; cases h; exact smallP_ne hy
theorem kP_ne {bs : List Nat} {x : Int} (h : kP bs = .error x) : x ≠ 0 := by
  unfold kP at h
  split at h
  · unfold kP2 at h
    split at h
    · split at h
      · cases h
      · cases h; decide
    · rename_i y hy; cases h; exact numP_err _ _ _ _ hy
  · rename_i y hy; cases h; exact getP_ne hy
abbrev zc : Array Value := #[.bool false, .int .i64 0, .int .i64 0, .int .u64 0, .slice none 0 0]
/-- What Read's reading leaves. -/
def ReadP (bs : List Nat) (W : World) (r : Except Int (List Nat)) (W' : World) : Prop :=
  (match kP bs with
    | .ok ((p, n), q) => r = .ok q ∧ ∃ A c, Blk W' (W.heap.size + 1) 25 (Pc.mk p A c).cells.toArray ∧ Blk W' (W.heap.size + 2) 22 #[.int .u64 (n : Nat)] ∧ (Pc.mk p A c).Ok W' ∧ (∀ b o, A = some ⟨b, o, none⟩ → W.heap.size + 7 ≤ b)
    | .error x => r = .error x) ∧ Blk W' W.heap.size 25 zc ∧ Below W.heap.size W W'
theorem run_enter {P : Program} {f : FuncId} {fn : Func} (hf : P.funcs[f]? = some fn) (hname : (fn.name == "runtime.NumGoroutine") = false) (hb : fn.body.isSome = true) (args : Array Value) (w : World) :
    (callFunc f args).run P w = .ok (.enter f args) w := by
  have h1 : fn.name ≠ "runtime.NumGoroutine" := by simpa using hname
  obtain ⟨c, hc⟩ := Option.isSome_iff_exists.1 hb
  simp [callFunc, hf, h1, hc]
set_option maxRecDepth 20000 in
theorem read_call (A : Option Addr) (n cp : Nat) (W : World) (bs : List Nat) (hn : bs.length = n) (hnc : n ≤ cp) (hlen : bs.length ≤ 140737488355328) (h256 : ∀ y ∈ bs, y < 256)
    (hbs : Byt.ByR W A bs) :
    Calls Try.prog 36 #[.slice A n cp, .func (.func 37) #[] #[.pointer (some ⟨W.heap.size + 1, 0, none⟩), .pointer (some ⟨W.heap.size + 2, 0, none⟩)]] (((W.alloc (.cells zc 25)).alloc (.cells zc 25)).alloc (.cells #[.int .u64 0] 22)) fun e W' => ∃ r, e = .returned (.int .i64 (readE r)) ∧ ReadP bs W r W' := by
  obtain ⟨w1, hw1⟩ : ∃ w1, w1 = W.alloc (.cells zc 25) := ⟨_, rfl⟩
  obtain ⟨w2, hw2⟩ : ∃ w2, w2 = w1.alloc (.cells zc 25) := ⟨_, rfl⟩
  obtain ⟨Wb, hw3⟩ : ∃ w3, w3 = w2.alloc (.cells #[.int .u64 0] 22) := ⟨_, rfl⟩
  have z1 : w1.heap.size = W.heap.size + 1 := by rw [hw1]; simp
  have z2 : w2.heap.size = W.heap.size + 2 := by rw [hw2]; simp [z1]
  have hsz : Wb.heap.size = W.heap.size + 3 := by rw [hw3]; simp [z2]
  have b1 : Below W.heap.size W w1 := by rw [hw1]; exact (Below.refl _ _).alloc (Nat.le_refl _) _
  have b2 : Below w1.heap.size w1 w2 := by rw [hw2]; exact (Below.refl _ _).alloc (Nat.le_refl _) _
  have b3 : Below w2.heap.size w2 Wb := by rw [hw3]; exact (Below.refl _ _).alloc (Nat.le_refl _) _
  have hb0 : Below W.heap.size W Wb := b1.trans ((b2.trans (b3.mono b2.size)).mono b1.size)
  have x1 : Blk w1 W.heap.size 25 zc := by rw [hw1]; exact Blk.new W _ _
  have x2 : Blk w2 (W.heap.size + 1) 25 zc := by rw [hw2, ← z1]; exact Blk.new w1 _ _
  have x3 : Blk Wb (W.heap.size + 2) 22 #[.int .u64 0] := by rw [hw3, ← z2]; exact Blk.new w2 _ _
  have hg1 : Blk Wb W.heap.size 25 zc := (x1.next b2).next b3
  have hg2 : Blk Wb (W.heap.size + 1) 25 zc := x2.next b3
  rw [← hw1, ← hw2, ← hw3]
  clear hw1 hw2 hw3 b1 b2 b3 x1 x2 z1 z2
  refine (read_any4 (L := W.heap.size) A n cp 37 #[.pointer (some ⟨W.heap.size + 1, 0, none⟩), .pointer (some ⟨W.heap.size + 2, 0, none⟩)] Wb bs (fun r W2 => ReadP bs W r W2)
    (fun args w => run_enter Try.func37 (by kernel_rfl) (by kernel_rfl) args w) hn hnc (by omega) ?_ ?_).mono ?_
  · refine hbs.imp id ?_
    rintro ⟨b, p, h1, h2, h3⟩
    exact ⟨b, p, h1, h2, fun i x hx => (hb0.cell (p := ⟨b, p + i, none⟩) h2).trans (h3 i x hx)⟩
  · intro W1 k s hb hs hk hs1 h4 _ hR hB
    have hk1 := World.block_lt_of_cell? W1 ⟨k, 0, none⟩ hR.2
    refine (cb_any (c1 := W.heap.size + 1) (c2 := W.heap.size + 2) hR hB hk1 (by omega) hlen h256 (hg2.next hb) (x3.next hb) ⟨by omega, by omega, by omega, by omega, by omega⟩ ⟨by omega, by omega⟩).mono ?_
    intro e W2 h
    unfold Fine ReadP
    unfold EndQ at h
    obtain ⟨hO, h⟩ := h
    have hres : Blk W2 W.heap.size 25 zc := (hO.block _ (by omega) (by omega) (by omega) (by omega)).trans (hg1.next hb)
    have hbel : Below W.heap.size W W2 := hb0.trans ((hb.mono (by omega)).trans (hO.belowB (by omega) (by omega) (by omega) (by omega)))
    cases hq : kP bs with
    | error x =>
      rw [hq] at h
      obtain ⟨rfl, hM⟩ := h
      exact ⟨fun b h5 h6 h7 => hO.block b h6 h7 (by omega) (by omega), Or.inr ⟨x, kP_ne hq, rfl, hM, rfl, hres, hbel⟩⟩
    | ok z =>
      obtain ⟨⟨p, m⟩, q⟩ := z
      rw [hq] at h
      obtain ⟨rfl, hB2, A', c', g1, g2, g3, g4⟩ := h
      exact ⟨fun b h5 h6 h7 => hO.block b h6 h7 (by omega) (by omega), Or.inl ⟨q, rfl, hB2, ⟨rfl, A', c', g1, g2, g3, fun b o e => by have := g4 b o e; omega⟩, hres, hbel⟩⟩
  · rintro e W' ⟨r, W2, hY, he, hb3, hk3⟩
    refine ⟨r, he, ?_⟩
    unfold ReadP at hY ⊢
    obtain ⟨h1, hres, hbel⟩ := hY
    refine ⟨?_, (hb3.block _ (by omega)).trans hres, hbel.trans (hb3.mono (by omega))⟩
    cases hq : kP bs with
    | error x => rw [hq] at h1; exact h1
    | ok z =>
      obtain ⟨⟨p, m⟩, q⟩ := z
      rw [hq] at h1
      obtain ⟨rfl, A', c', g1, g2, g3, g4⟩ := h1
      exact ⟨rfl, A', c', (hb3.block _ (by omega)).trans g1, (hb3.block _ (by omega)).trans g2, ok_keep g3 g4 (fun b hb hl => hk3 b hl (by omega) (by omega)) hb3.size, g4⟩
end Pk
end Go.Proofs.Ytbgjghgmdhnhbaa
