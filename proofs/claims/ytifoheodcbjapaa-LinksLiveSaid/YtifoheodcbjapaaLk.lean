/-
link: what a link is; New, made, isText, Next, Expect, Take.
-/
import Derived.Test.YtifoheodcbjapaaWrite
import Derived.Test.YtifoheodcbjapaaTurn
import Derived.Test.YtifoheodcbjapaaTree
import Derived.Test.YtifoheodcbjapaaStore
import Derived.Lib.SliceRun
namespace Go.Proofs.Ytifoheodcbjapaa
open Go.RowKit
set_option linter.unusedSimpArgs false
set_option linter.unusedVariables false
namespace Lk

/-- A text that was not acknowledged. -/
structure It where
  q : Nat
  A : Option Addr
  c : Nat
  bs : List Nat
def It.cells (x : It) : List Value := [.int .u64 (x.q : Nat), .slice x.A x.bs.length x.c]
theorem it_len {x : It} : x.cells.length = 2 := rfl
theorem it_0 {x : It} : x.cells[0]? = some (.int .u64 (x.q : Nat)) := rfl
theorem it_1 {x : It} : x.cells[1]? = some (.slice x.A x.bs.length x.c) := rfl
theorem it_one (x : It) : x.cells.toArray.all (·.oneCell') = true := by unfold It.cells; simp [Value.oneCell']
theorem it_ones (x : It) : ∀ v ∈ x.cells, v.oneCell' = true := by
  intro v hv
  unfold It.cells at hv
  simp at hv
  rcases hv with rfl | rfl <;> rfl
def its (l : List It) : List Value := l.flatMap It.cells
theorem its_len (l : List It) : (its l).length = l.length * 2 := by
  induction l with
  | nil => rfl
  | cons x l ih => simp only [its, List.flatMap_cons, List.length_append, List.length_cons] at ih ⊢; rw [ih, it_len]; omega
theorem its_ones (l : List It) : ∀ v ∈ its l, v.oneCell' = true := by
  intro v hv
  obtain ⟨x, _, hx⟩ := List.mem_flatMap.1 hv
  exact it_ones x v hx
theorem its_app (l m : List It) : its (l ++ m) = its l ++ its m := by simp [its]
theorem its_get : ∀ (l : List It) (i : Nat) (x : It) (j : Nat), l[i]? = some x → j < 2 → (its l)[2 * i + j]? = x.cells[j]?
  | [], i, x, j, h, _ => by simp at h
  | y :: l, 0, x, j, h, hj => by
    simp at h
    subst h
    simp only [its, List.flatMap_cons, Nat.mul_zero, Nat.zero_add]
    rw [List.getElem?_append_left (by rw [it_len]; exact hj)]
  | y :: l, i + 1, x, j, h, hj => by
    have := its_get l i x j (by simpa using h) hj
    simp only [its, List.flatMap_cons] at this ⊢
    rw [List.getElem?_append_right (by rw [it_len]; omega), it_len, show 2 * (i + 1) + j - 2 = 2 * i + j by omega]
    exact this
theorem its_drop : ∀ (n : Nat) (l : List It), its (l.drop n) = (its l).drop (2 * n)
  | 0, l => by simp
  | n + 1, [] => by simp [its]
  | n + 1, x :: l => by
    have := its_drop n l
    simp only [its, List.drop_succ_cons, List.flatMap_cons] at this ⊢
    rw [this, show 2 * (n + 1) = x.cells.length + 2 * n by rw [it_len]; omega, List.drop_length_add_append]
theorem its_src : ∀ (l : List It) (j : Nat) (v : Value), (its l)[j]? = some v → ∃ x, l[j / 2]? = some x ∧ x.cells[j % 2]? = some v
  | [], j, v, h => by simp [its] at h
  | x :: l, j, v, h => by
    simp only [its, List.flatMap_cons] at h
    by_cases hj : j < 2
    · rw [List.getElem?_append_left (by rw [it_len]; exact hj)] at h
      exact ⟨x, by rw [show j / 2 = 0 by omega]; rfl, by rw [show j % 2 = j by omega]; exact h⟩
    · rw [List.getElem?_append_right (by rw [it_len]; omega), it_len] at h
      obtain ⟨y, h1, h2⟩ := its_src l (j - 2) v h
      refine ⟨y, ?_, ?_⟩
      · rw [show j / 2 = (j - 2) / 2 + 1 by omega]; simpa using h1
      · rw [show j % 2 = (j - 2) % 2 by omega]; exact h2
/-- A text's bytes lie in F. -/
def It.At (x : It) (W : World) (F : Nat → Prop) : Prop :=
  (∀ y ∈ x.bs, y < 256) ∧ 1 ≤ x.bs.length ∧ x.bs.length ≤ 1800 ∧ x.bs.length ≤ x.c ∧ ∃ b p cs z, x.A = some ⟨b, p, none⟩ ∧ F b ∧ W.heap[b]? = some (.cells cs 5 z) ∧ ∀ (i y : Nat), x.bs[i]? = some y → W.cell? ⟨b, p + i, none⟩ = some (.int .u8 (y : Nat))
/-- The texts stand in a row in F. -/
def RowI (W : World) (F : Nat → Prop) (A : Option Addr) (l : List It) : Prop :=
  (A = none ∧ l = []) ∨ ∃ g o cs z, A = some ⟨g, o, none⟩ ∧ F g ∧ W.heap[g]? = some (.cells cs 70 z) ∧ ∀ (i : Nat) (x : It), l[i]? = some x → ∀ j v, x.cells[j]? = some v → W.cell? ⟨g, o + 2 * i + j, none⟩ = some v
theorem It.At.keep {x : It} {W W' : World} {F G : Nat → Prop} (h : x.At W F) (hk : ∀ k, F k → G k ∧ W'.heap[k]? = W.heap[k]?) : x.At W' G := by
  obtain ⟨h1, h2, h3, h4, b, p, cs, z, e, hF, hh, hc⟩ := h
  obtain ⟨hG, hk⟩ := hk b hF
  exact ⟨h1, h2, h3, h4, b, p, cs, z, e, hG, hk.trans hh, fun i y hy => (World.cell?_of_block hk).trans (hc i y hy)⟩
theorem RowI.keep {W W' : World} {F G : Nat → Prop} {A : Option Addr} {l : List It} (h : RowI W F A l) (hk : ∀ k, F k → G k ∧ W'.heap[k]? = W.heap[k]?) : RowI W' G A l := by
  refine h.imp id ?_
  rintro ⟨g, o, cs, z, e, hF, hh, hc⟩
  obtain ⟨hG, hk⟩ := hk g hF
  exact ⟨g, o, cs, z, e, hG, hk.trans hh, fun i x hx j v hj => (World.cell?_of_block hk).trans (hc i x hx j v hj)⟩
theorem RowI.src {W : World} {F : Nat → Prop} {A : Option Addr} {l : List It} (h : RowI W F A l) : Src W A l.length (its l) := by
  rcases h with ⟨rfl, rfl⟩ | ⟨g, o, cs, z, rfl, _, _, hc⟩
  · exact Or.inr ⟨rfl, rfl, rfl⟩
  · refine Or.inl ⟨_, rfl, fun j u hj => ?_⟩
    obtain ⟨x, h1, h2⟩ := its_src l j u hj
    rw [add_plain, show o + j = o + 2 * (j / 2) + j % 2 by omega]
    exact hc _ x h1 _ u h2
/-- What a link has. -/
structure LS where
  nx : Nat
  ex : Nat
  ts : List (List Nat)
/-- Block d is a link. F: its blocks. -/
structure Lnk (W : World) (B d : Nat) (F : Nat → Prop) (A : Option Addr) (c : Nat) (l : List It) (s : LS) : Prop where
  fd : F d
  blk : Blk W d 47 #[.int .u64 (s.nx : Nat), .slice A l.length c, .int .u64 (s.ex : Nat)]
  cap : l.length ≤ c
  row : RowI W F A l
  at_ : ∀ x ∈ l, x.At W F
  seq : ∀ (i : Nat) (x : It), l[i]? = some x → x.q + l.length = s.nx + i
  low : ∀ k, F k → B ≤ k ∧ k < W.heap.size
  ts : l.map It.bs = s.ts
  len : l.length ≤ 250
  lt : l.length < s.nx
  big : s.nx ≤ 1099511627777
  e1 : 1 ≤ s.ex
  e2 : s.ex ≤ 1099511627777
/-- What stands in an object's blocks of a link, its own cells left out. -/
structure LkO (W : World) (F : Nat → Prop) (A : Option Addr) (c : Nat) (l : List It) (s : LS) : Prop where
  cap : l.length ≤ c
  row : RowI W F A l
  at_ : ∀ x ∈ l, x.At W F
  seq : ∀ (i : Nat) (x : It), l[i]? = some x → x.q + l.length = s.nx + i
  ts : l.map It.bs = s.ts
  len : l.length ≤ 250
  lt : l.length < s.nx
  big : s.nx ≤ 1099511627777
  e1 : 1 ≤ s.ex
  e2 : s.ex ≤ 1099511627777
def lkc (s : LS) (A : Option Addr) (n c : Nat) : List Value := [.int .u64 (s.nx : Nat), .slice A n c, .int .u64 (s.ex : Nat)]
theorem Lnk.lko {W : World} {B d c : Nat} {F : Nat → Prop} {A : Option Addr} {l : List It} {s : LS} (D : Lnk W B d F A c l s) : LkO W F A c l s := ⟨D.cap, D.row, D.at_, D.seq, D.ts, D.len, D.lt, D.big, D.e1, D.e2⟩
theorem LkO.lnk {W : World} {B d c : Nat} {F : Nat → Prop} {A : Option Addr} {l : List It} {s : LS} (D : LkO W F A c l s) (fd : F d) (blk : Blk W d 47 (lkc s A l.length c).toArray) (low : ∀ k, F k → B ≤ k ∧ k < W.heap.size) : Lnk W B d F A c l s := ⟨fd, blk, D.cap, D.row, D.at_, D.seq, low, D.ts, D.len, D.lt, D.big, D.e1, D.e2⟩
theorem LkO.keep {W W' : World} {c : Nat} {F G : Nat → Prop} {A : Option Addr} {l : List It} {s : LS} (D : LkO W F A c l s) (hk : ∀ k, F k → G k ∧ W'.heap[k]? = W.heap[k]?) : LkO W' G A c l s :=
  ⟨D.cap, D.row.keep hk, fun x hx => (D.at_ x hx).keep hk, D.seq, D.ts, D.len, D.lt, D.big, D.e1, D.e2⟩
theorem blk_ne {W : World} {d b : Nat} {t u : TypeId} {cs cs' : Array Value} {z : Nat × Nat} (hd : Blk W d t cs) (h : t ≠ u) (hh : W.heap[b]? = some (.cells cs' u z)) : b ≠ d := by
  rintro rfl
  have := hd
  unfold Blk at this
  rw [this] at hh
  simp only [Option.some.injEq, Obj.cells.injEq] at hh
  exact h hh.2.1
theorem LkO.keepD {W W' : World} {c d : Nat} {F G : Nat → Prop} {A : Option Addr} {l : List It} {s : LS} {t : TypeId} {cs : Array Value} (D : LkO W F A c l s) (hd : Blk W d t cs) (h1 : t ≠ 5) (h2 : t ≠ 70) (hk : ∀ k, F k → G k ∧ (k ≠ d → W'.heap[k]? = W.heap[k]?)) : LkO W' G A c l s := by
  refine ⟨D.cap, ?_, ?_, D.seq, D.ts, D.len, D.lt, D.big, D.e1, D.e2⟩
  · refine D.row.imp id ?_
    rintro ⟨g, o, cs', z, e, hF, hh, hc⟩
    have hk := hk g hF
    have hk2 := hk.2 (blk_ne hd h2 hh)
    exact ⟨g, o, cs', z, e, hk.1, hk2.trans hh, fun i x hx j v hj => (World.cell?_of_block hk2).trans (hc i x hx j v hj)⟩
  · intro x hx
    obtain ⟨p1, p2, p3, p4, b, p, cs', z, e, hF, hh, hc⟩ := D.at_ x hx
    have hk := hk b hF
    have hk2 := hk.2 (blk_ne hd h1 hh)
    exact ⟨p1, p2, p3, p4, b, p, cs', z, e, hk.1, hk2.trans hh, fun i y hy => (World.cell?_of_block hk2).trans (hc i y hy)⟩
/-- A link that stands in a block d of another thing, at o. -/
structure LnkO (W : World) (B d o : Nat) (t : TypeId) (cs : Array Value) (F : Nat → Prop) (A : Option Addr) (c : Nat) (l : List It) (s : LS) : Prop where
  tn : t ≠ 5 ∧ t ≠ 70
  fd : F d
  blk : Blk W d t cs
  k0 : cs[o]? = some (.int .u64 (s.nx : Nat))
  k1 : cs[o + 1]? = some (.slice A l.length c)
  k2 : cs[o + 2]? = some (.int .u64 (s.ex : Nat))
  ok : LkO W F A c l s
  low : ∀ k, F k → B ≤ k ∧ k < W.heap.size
section
variable {W W' : World} {B d o c : Nat} {t : TypeId} {cs : Array Value} {F G : Nat → Prop} {A : Option Addr} {l : List It} {s : LS}
theorem LnkO.c0 (D : LnkO W B d o t cs F A c l s) : W.cell? ⟨d, o, none⟩ = some (.int .u64 (s.nx : Nat)) := (D.blk.cell o).trans D.k0
theorem LnkO.c1 (D : LnkO W B d o t cs F A c l s) : W.cell? ⟨d, o + 1, none⟩ = some (.slice A l.length c) := (D.blk.cell _).trans D.k1
theorem LnkO.c2 (D : LnkO W B d o t cs F A c l s) : W.cell? ⟨d, o + 2, none⟩ = some (.int .u64 (s.ex : Nat)) := (D.blk.cell _).trans D.k2
theorem LnkO.cap (D : LnkO W B d o t cs F A c l s) : l.length ≤ c := D.ok.cap
theorem LnkO.row (D : LnkO W B d o t cs F A c l s) : RowI W F A l := D.ok.row
theorem LnkO.at_ (D : LnkO W B d o t cs F A c l s) : ∀ x ∈ l, x.At W F := D.ok.at_
theorem LnkO.seq (D : LnkO W B d o t cs F A c l s) : ∀ (i : Nat) (x : It), l[i]? = some x → x.q + l.length = s.nx + i := D.ok.seq
theorem LnkO.ts (D : LnkO W B d o t cs F A c l s) : l.map It.bs = s.ts := D.ok.ts
theorem LnkO.len (D : LnkO W B d o t cs F A c l s) : l.length ≤ 250 := D.ok.len
theorem LnkO.lt (D : LnkO W B d o t cs F A c l s) : l.length < s.nx := D.ok.lt
theorem LnkO.big (D : LnkO W B d o t cs F A c l s) : s.nx ≤ 1099511627777 := D.ok.big
theorem LnkO.e1 (D : LnkO W B d o t cs F A c l s) : 1 ≤ s.ex := D.ok.e1
theorem LnkO.e2 (D : LnkO W B d o t cs F A c l s) : s.ex ≤ 1099511627777 := D.ok.e2
theorem LnkO.n1 (D : LnkO W B d o t cs F A c l s) : 1 ≤ s.nx := by have := D.lt; omega
theorem LnkO.tl (D : LnkO W B d o t cs F A c l s) : s.ts.length = l.length := by rw [← D.ts, List.length_map]
theorem LnkO.keep (D : LnkO W B d o t cs F A c l s) (hk : ∀ k, F k → W'.heap[k]? = W.heap[k]?) (hs : W.heap.size ≤ W'.heap.size) : LnkO W' B d o t cs F A c l s :=
  ⟨D.tn, D.fd, (hk d D.fd).trans D.blk, D.k0, D.k1, D.k2, D.ok.keep fun k h => ⟨h, hk k h⟩, fun k hF => ⟨(D.low k hF).1, Nat.lt_of_lt_of_le (D.low k hF).2 hs⟩⟩
theorem LnkO.next (D : LnkO W B d o t cs F A c l s) (hb : Below W.heap.size W W') : LnkO W' B d o t cs F A c l s := D.keep (fun k hF => hb.block k (D.low k hF).2) hb.size
end
def LK (W : World) (B d : Nat) (F : Nat → Prop) (s : LS) : Prop := ∃ A c l, Lnk W B d F A c l s
section
variable {W W' : World} {B d c : Nat} {F G : Nat → Prop} {A : Option Addr} {l : List It} {s : LS}
theorem Lnk.keep (D : Lnk W B d F A c l s) (hk : ∀ k, F k → W'.heap[k]? = W.heap[k]?) (hs : W.heap.size ≤ W'.heap.size) : Lnk W' B d F A c l s :=
  ⟨D.fd, (hk d D.fd).trans D.blk, D.cap, D.row.keep fun k h => ⟨h, hk k h⟩, fun x hx => (D.at_ x hx).keep fun k h => ⟨h, hk k h⟩, D.seq, fun k hF => ⟨(D.low k hF).1, Nat.lt_of_lt_of_le (D.low k hF).2 hs⟩, D.ts, D.len, D.lt, D.big, D.e1, D.e2⟩
theorem Lnk.next (D : Lnk W B d F A c l s) (hb : Below W.heap.size W W') : Lnk W' B d F A c l s := D.keep (fun k hF => hb.block k (D.low k hF).2) hb.size
theorem Lnk.wider (D : Lnk W B d F A c l s) (h : ∀ k, F k → G k) (hl : ∀ k, G k → B ≤ k ∧ k < W.heap.size) : Lnk W B d G A c l s :=
  ⟨h d D.fd, D.blk, D.cap, D.row.keep fun k hk => ⟨h k hk, rfl⟩, fun x hx => (D.at_ x hx).keep fun k hk => ⟨h k hk, rfl⟩, D.seq, hl, D.ts, D.len, D.lt, D.big, D.e1, D.e2⟩
theorem Lnk.c0 (D : Lnk W B d F A c l s) : W.cell? ⟨d, 0, none⟩ = some (.int .u64 (s.nx : Nat)) := D.blk.cell 0
theorem Lnk.c1 (D : Lnk W B d F A c l s) : W.cell? ⟨d, 1, none⟩ = some (.slice A l.length c) := D.blk.cell 1
theorem Lnk.c2 (D : Lnk W B d F A c l s) : W.cell? ⟨d, 2, none⟩ = some (.int .u64 (s.ex : Nat)) := D.blk.cell 2
theorem Lnk.n1 (D : Lnk W B d F A c l s) : 1 ≤ s.nx := by have := D.lt; omega
theorem Lnk.tl (D : Lnk W B d F A c l s) : s.ts.length = l.length := by rw [← D.ts, List.length_map]
theorem Lnk.grow (D : Lnk W B d F A c l s) (hb : Below W.heap.size W W') : Lnk W' B d (Grow F W W') A c l s :=
  (D.next hb).wider (fun k h => Or.inl h) (by
    have hd := D.low d D.fd
    rintro k (hk | ⟨h1, h2⟩)
    · exact ⟨(D.low k hk).1, Nat.lt_of_lt_of_le (D.low k hk).2 hb.size⟩
    · exact ⟨by omega, h2⟩)
theorem LK.next (h : LK W B d F s) (hb : Below W.heap.size W W') : LK W' B d F s := by
  obtain ⟨A, c, l, D⟩ := h; exact ⟨A, c, l, D.next hb⟩
theorem LK.keep (h : LK W B d F s) (hk : ∀ k, F k → W'.heap[k]? = W.heap[k]?) (hs : W.heap.size ≤ W'.heap.size) : LK W' B d F s := by
  obtain ⟨A, c, l, D⟩ := h; exact ⟨A, c, l, D.keep hk hs⟩
theorem LK.low (h : LK W B d F s) : ∀ k, F k → B ≤ k ∧ k < W.heap.size := by obtain ⟨A, c, l, D⟩ := h; exact D.low
theorem LK.fd (h : LK W B d F s) : F d := by obtain ⟨A, c, l, D⟩ := h; exact D.fd
theorem LK.base (h : LK W B d F s) : B ≤ W.heap.size := by have := h.low d h.fd; omega
theorem turn_below (h : LK W B d F s) (hb : Below W.heap.size W W') : Turn B F W W' := ⟨hb.mono h.base, fun k hk _ => hb.block k hk⟩
end
section
variable (W : World)
theorem new_any : Calls Try.prog 61 #[] W fun e W' => e = .returned (.pointer (some ⟨W.heap.size, 0, none⟩)) ∧ LK W' W.heap.size W.heap.size (fun k => k = W.heap.size) ⟨1, 1, []⟩ ∧ Below W.heap.size W W' ∧ W'.heap.size = W.heap.size + 1 := by
  go_enter Try.func61, Try.ntmps61
  go_wp2_with fail
  go_ret
  exact ⟨rfl, ⟨none, 0, [], rfl, Blk.new W 47 _, by decide, Or.inl ⟨rfl, rfl⟩, fun x hx => (by cases hx), fun i x hx => (by simp at hx), fun k hk => (by subst hk; simp), rfl, by decide, by decide, by decide, by decide, by decide⟩, (Below.refl _ _).alloc (Nat.le_refl _) _, by simp⟩
theorem made_nil : Calls Try.prog 62 #[.pointer none] W fun e W' => e = .returned (.bool false) ∧ W = W' := by
  go_enter Try.func62, Try.ntmps62
  go_wp2_with fail
  go_ret
  exact ⟨rfl, rfl⟩
theorem made_of {d : Nat} {n : Nat} (h : W.cell? ⟨d, 0, none⟩ = some (.int .u64 (n : Nat))) : Calls Try.prog 62 #[.pointer (some ⟨d, 0, none⟩)] W fun e W' => e = .returned (.bool (decide (n ≠ 0))) ∧ W = W' := by
  by_cases h0 : n = 0
  · subst h0
    go_enter Try.func62, Try.ntmps62
    go_wp2_with fail
    go_ret
    exact ⟨rfl, rfl⟩
  · have e0 : ((n : Int) != 0) = true := by simp; omega
    have H0 := Lib.hid h0
    clear h0
    go_enter Try.func62, Try.ntmps62
    go_wp2_with fail
    go_ret
    exact ⟨by rw [decide_eq_true (show n ≠ 0 from H0.out)]; rfl, rfl⟩
theorem istext_any (A : Option Addr) (m c : Nat) : Calls Try.prog 63 #[.slice A m c] W fun e W' => e = .returned (.bool (decide (1 ≤ m) && decide (m ≤ 1800))) ∧ W = W' := by
  by_cases h1 : 1 ≤ m
  · by_cases h2 : m ≤ 1800
    · have e1 : (1 : Int) ≤ (m : Nat) := by omega
      have e2 : (m : Int) ≤ 1800 := by omega
      rw [decide_eq_true h1, decide_eq_true h2]
      clear h1 h2
      go_enter Try.func63, Try.ntmps63
      go_wp2_with fail
      go_ret
      exact ⟨rfl, rfl⟩
    · have e1 : (1 : Int) ≤ (m : Nat) := by omega
      have e2 : ¬ (m : Int) ≤ 1800 := by omega
      rw [decide_eq_true h1, decide_eq_false h2]
      clear h1 h2
      go_enter Try.func63, Try.ntmps63
      go_wp2_with fail
      go_ret
      exact ⟨rfl, rfl⟩
  · have e1 : ¬ (1 : Int) ≤ (m : Nat) := by omega
    rw [decide_eq_false h1]
    clear h1
    go_enter Try.func63, Try.ntmps63
    go_wp2_with fail
    go_ret
    exact ⟨rfl, rfl⟩
theorem next_nil : Calls Try.prog 65 #[.pointer none] W fun e W' => e = .returned (.int .u64 0) ∧ W = W' := by
  go_enter Try.func65, Try.ntmps65
  go_wp2_with fail
  go_ret
  exact ⟨rfl, rfl⟩
theorem next_any {B d : Nat} {F : Nat → Prop} {s : LS} (D : LK W B d F s) : Calls Try.prog 65 #[.pointer (some ⟨d, 0, none⟩)] W fun e W' => e = .returned (.int .u64 (s.nx : Nat)) ∧ W = W' := by
  obtain ⟨A, c, l, D⟩ := D
  have c0 := D.c0
  clear D
  go_enter Try.func65, Try.ntmps65
  go_wp2_with fail
  go_ret
  exact ⟨rfl, rfl⟩
theorem expect_nil : Calls Try.prog 46 #[.pointer none] W fun e W' => e = .returned (.int .u64 0) ∧ W = W' := by
  go_enter Try.func46, Try.ntmps46
  go_wp2_with fail
  go_ret
  exact ⟨rfl, rfl⟩
theorem expect_any {B d : Nat} {F : Nat → Prop} {s : LS} (D : LK W B d F s) : Calls Try.prog 46 #[.pointer (some ⟨d, 0, none⟩)] W fun e W' => e = .returned (.int .u64 (s.ex : Nat)) ∧ W = W' := by
  obtain ⟨A, c, l, D⟩ := D
  have c2 := D.c2
  clear D
  go_enter Try.func46, Try.ntmps46
  go_wp2_with fail
  go_ret
  exact ⟨rfl, rfl⟩
end
/-- What Take says. -/
def takeE (s : LS) (q : Nat) : Bool × Int := if q < s.ex then (false, 0) else if s.ex < q then (false, 14) else if 1099511627776 < s.ex then (false, 5) else (true, 0)
def LS.take (s : LS) (q : Nat) : LS := if (takeE s q).1 then { s with ex := s.ex + 1 } else s
section
variable (W : World) {B d : Nat} {F : Nat → Prop} {s : LS}
theorem made_any (D : LK W B d F s) : Calls Try.prog 62 #[.pointer (some ⟨d, 0, none⟩)] W fun e W' => e = .returned (.bool true) ∧ W = W' := by
  obtain ⟨A, c, l, D⟩ := D
  have h := made_of W D.c0
  rw [decide_eq_true (show s.nx ≠ 0 by have := D.n1; omega)] at h
  exact h
set_option maxRecDepth 20000 in
theorem take_nil (q : Nat) : Calls Try.prog 41 #[.pointer none, .int .u64 (q : Nat)] W fun e W' => e = .returned (.tuple #[.bool false, .int .i64 6]) ∧ W = W' := by
  have HM := Lib.hid (made_nil W)
  go_enter Try.func41, Try.ntmps41
  go_wp2_with (go_at_call 62; refine HM.out.mono ?_; rintro e w1 ⟨rfl, rfl⟩)
  go_ret2
  exact ⟨rfl, rfl⟩
set_option maxRecDepth 20000 in
theorem take_any (h : LK W B d F s) (q : Nat) : Calls Try.prog 41 #[.pointer (some ⟨d, 0, none⟩), .int .u64 (q : Nat)] W fun e W' => e = .returned (.tuple #[.bool (takeE s q).1, .int .i64 (takeE s q).2]) ∧ LK W' B d F (s.take q) ∧ Turn B (fun k => k = d) W W' ∧ W'.heap.size = W.heap.size := by
  have HL := Lib.hid h
  have HM := Lib.hid (made_any W h)
  obtain ⟨A, c, l, D⟩ := h
  have c2 := D.c2
  have HD := Lib.hid D
  have same : ∀ (r : Bool × Int), takeE s q = r → r.1 = false → LK W B d F (s.take q) ∧ Turn B (fun k => k = d) W W := fun r h hr => by unfold LS.take; rw [h, hr, if_neg (by decide)]; exact ⟨HL.out, ⟨Below.refl _ _, fun _ _ _ => rfl⟩⟩
  have SAME := Lib.hid same
  by_cases h1 : q < s.ex
  · have HE := Lib.hid (show takeE s q = (false, 0) by unfold takeE; rw [if_pos h1])
    have g1 : (q : Int) < (s.ex : Nat) := by omega
    clear h1 D same
    go_enter Try.func41, Try.ntmps41
    go_wp2_with (go_at_call 62; refine HM.out.mono ?_; rintro e w1 ⟨rfl, rfl⟩)
    go_ret2
    exact ⟨by (rw [HE.out]; try rfl), (SAME.out _ HE.out rfl).1, (SAME.out _ HE.out rfl).2, rfl⟩
  by_cases h2 : s.ex < q
  · have HE := Lib.hid (show takeE s q = (false, 14) by unfold takeE; rw [if_neg h1, if_pos h2])
    have g1 : ¬ (q : Int) < (s.ex : Nat) := by omega
    have g2 : (s.ex : Int) < (q : Nat) := by omega
    clear h1 h2 D same
    go_enter Try.func41, Try.ntmps41
    go_wp2_with (go_at_call 62; refine HM.out.mono ?_; rintro e w1 ⟨rfl, rfl⟩)
    go_ret2
    exact ⟨by (rw [HE.out]; try rfl), (SAME.out _ HE.out rfl).1, (SAME.out _ HE.out rfl).2, rfl⟩
  by_cases h3 : 1099511627776 < s.ex
  · have HE := Lib.hid (show takeE s q = (false, 5) by unfold takeE; rw [if_neg h1, if_neg h2, if_pos h3])
    have g1 : ¬ (q : Int) < (s.ex : Nat) := by omega
    have g2 : ¬ (s.ex : Int) < (q : Nat) := by omega
    have g3 : (1099511627776 : Int) < (s.ex : Nat) := by omega
    clear h1 h2 h3 D same
    go_enter Try.func41, Try.ntmps41
    go_wp2_with (go_at_call 62; refine HM.out.mono ?_; rintro e w1 ⟨rfl, rfl⟩)
    go_ret2
    exact ⟨by (rw [HE.out]; try rfl), (SAME.out _ HE.out rfl).1, (SAME.out _ HE.out rfl).2, rfl⟩
  · have HE := Lib.hid (show takeE s q = (true, 0) by unfold takeE; rw [if_neg h1, if_neg h2, if_neg h3])
    have g1 : ¬ (q : Int) < (s.ex : Nat) := by omega
    have g2 : ¬ (s.ex : Int) < (q : Nat) := by omega
    have g3 : ¬ (1099511627776 : Int) < (s.ex : Nat) := by omega
    have ew : IntKind.u64.wrap ((s.ex : Int) + 1) = ((s.ex + 1 : Nat) : Int) := by rw [IntKind.wrap_u64]; omega
    have H3 := Lib.hid h3
    have EW := Lib.hid ew
    have z2 := D.blk.frozen 2
    clear h1 h2 h3 D same ew
    go_enter Try.func41, Try.ntmps41
    go_wp2_with (go_at_call 62; refine HM.out.mono ?_; rintro e w1 ⟨rfl, rfl⟩)
    go_ret2
    (try rw [EW.out])
    have far : ∀ k, k ≠ d → (W.setCell ⟨d, 2, none⟩ (.int .u64 ((s.ex + 1 : Nat) : Int))).heap[k]? = W.heap[k]? := fun k hk => Below.heap_setCell W ⟨d, 2, none⟩ _ k hk
    have hsz : (W.setCell ⟨d, 2, none⟩ (.int .u64 ((s.ex + 1 : Nat) : Int))).heap.size = W.heap.size := by simp [World.setCell]
    have hblk := HD.out.blk.setCell 2 (.int .u64 ((s.ex + 1 : Nat) : Int))
    refine ⟨by (rw [HE.out]; try rfl), ?_, ⟨(Below.refl B W).setCell (p := ⟨d, 2, none⟩) (HD.out.low d HD.out.fd).1 _, fun k hk hF => far k hF⟩, hsz⟩
    unfold LS.take
    rw [HE.out, if_pos rfl]
    have hrd : ∀ {b : Nat} {cs : Array Value} {z : Nat × Nat} {t : TypeId}, t ≠ 47 → W.heap[b]? = some (.cells cs t z) → b ≠ d := by
      rintro b cs z t ht hh rfl
      have := HD.out.blk
      unfold Blk at this
      rw [this] at hh
      simp only [Option.some.injEq, Obj.cells.injEq] at hh
      exact ht hh.2.1.symm
    refine ⟨A, c, l, HD.out.fd, hblk, HD.out.cap, ?_, ?_, HD.out.seq, fun k hk => by simpa [World.setCell] using HD.out.low k hk, HD.out.ts, HD.out.len, HD.out.lt, HD.out.big, by show 1 ≤ s.ex + 1; omega, by have := H3.out; show s.ex + 1 ≤ _; omega⟩
    · refine HD.out.row.imp id ?_
      rintro ⟨g, o, cs, z, e, hF, hh, hc⟩
      have hk := far g (hrd (by decide) hh)
      exact ⟨g, o, cs, z, e, hF, hk.trans hh, fun i x hx j v hj => (World.cell?_of_block hk).trans (hc i x hx j v hj)⟩
    · intro x hx
      obtain ⟨h1, h2, h3, h4, b, p, cs, z, e, hF, hh, hc⟩ := HD.out.at_ x hx
      have hk := far b (hrd (by decide) hh)
      exact ⟨h1, h2, h3, h4, b, p, cs, z, e, hF, hk.trans hh, fun i y hy => (World.cell?_of_block hk).trans (hc i y hy)⟩
end
end Lk
end Go.Proofs.Ytifoheodcbjapaa
