/-
wire: Read, of whatever function reads.
-/
import Derived.Test.YtnoeogbihjpacaaRead4
namespace Go.Proofs.Ytnoeogbihjpacaa
open Go.RowKit
variable {L : Nat}

theorem Off.belowB {s B : Nat} {w w' : World} (h : Off s w w') (hs : B ≤ s) (hB : B ≤ w.heap.size) : Below B w w' :=
  ⟨h.os, h.tape, h.output, h.size, fun k hk => h.block k (by omega) (by omega)⟩
theorem func_nil (d : Nat) (fn : Fn) (first cap : Array Value) (w : World) : (Op.equalIn (d + 1) 52 (.func fn first cap) .nilFunc).run Try.prog w = .ok false w := by
  simp [Op.equalIn, run_underlying Try.underlying52]
theorem func_some (fn : Fn) (first cap : Array Value) (w : World) : (binOp .eql 52 (.func fn first cap) .nilFunc).run Try.prog w = .ok (.bool false) w := by
  have h : (Op.equal 52 (.func fn first cap) .nilFunc).run Try.prog w = .ok false w := func_nil 9999 fn first cap w
  simp only [binOp]
  simp [h]
theorem nil_nil (d : Nat) (w : World) : (Op.equalIn (d + 1) 52 .nilFunc .nilFunc).run Try.prog w = .ok true w := by
  simp [Op.equalIn, run_underlying Try.underlying52]
theorem func_none (w : World) : (binOp .eql 52 .nilFunc .nilFunc).run Try.prog w = .ok (.bool true) w := by
  have h : (Op.equal 52 .nilFunc .nilFunc).run Try.prog w = .ok true w := nil_nil 9999 w
  simp only [binOp]
  simp [h]

theorem read_nil (A : Option Addr) (n c : Nat) (W : World) :
    Calls Try.prog 17 #[.slice A n c, .nilFunc] W fun e W' => e = .returned (.int .i64 6) ∧ Below W.heap.size W W' := by
  have hf := func_none
  go_enter_defers Try.func17, Try.ntmps17
  go_wp2
  refine ⟨.int .i64 6, by simp [results, Try.results17, go_sem], rfl, (Below.refl _ W).alloc (Nat.le_refl _) _⟩

/-- Where the function that reads begins. -/
def readW (A : Option Addr) (n c : Nat) (W : World) : World :=
  (((W.alloc (.cells #[.int .i64 0] 38)).alloc (.cells #[.slice A n c, .int .i64 0, .bool true] 114)).alloc (.cells #[.pointer (some ⟨W.heap.size + 1, 0, none⟩)] 112)).alloc (.cells #[.pointer (some ⟨W.heap.size + 1, 0, none⟩)] 117)
theorem new_alloc {W : World} {o : Obj} {g : Nat} (h : g = W.heap.size) : (W.alloc o).heap[g]? = some o := h ▸ heap_alloc_new W o
theorem keep_alloc {W : World} {o x : Obj} {g : Nat} (h : W.heap[g]? = some x) : (W.alloc o).heap[g]? = some x := by
  refine (Below.heap_alloc W o g ?_).trans h
  rcases Nat.lt_or_ge g W.heap.size with hlt | hge
  · exact hlt
  · rw [Array.getElem?_eq_none hge] at h; cases h
theorem readW_size (A : Option Addr) (n c : Nat) (W : World) : (readW A n c W).heap.size = W.heap.size + 4 := by simp [readW]
theorem readW_q (A : Option Addr) (n c : Nat) (W : World) : (readW A n c W).heap[W.heap.size]? = some (.cells #[.int .i64 0] 38 (0, 0)) := by
  unfold readW
  exact keep_alloc (keep_alloc (keep_alloc (new_alloc rfl)))
theorem readW_s (A : Option Addr) (n c : Nat) (W : World) : (readW A n c W).heap[W.heap.size + 1]? = some (.cells #[.slice A n c, .int .i64 0, .bool true] 114 (0, 0)) := by
  unfold readW
  exact keep_alloc (keep_alloc (new_alloc (by simp)))
theorem readW_p (A : Option Addr) (n c : Nat) (W : World) : (readW A n c W).heap[W.heap.size + 2]? = some (.cells #[.pointer (some ⟨W.heap.size + 1, 0, none⟩)] 112 (0, 0)) := by
  unfold readW
  exact keep_alloc (new_alloc (by simp))
theorem readW_k (A : Option Addr) (n c : Nat) (W : World) : (readW A n c W).heap[W.heap.size + 3]? = some (.cells #[.pointer (some ⟨W.heap.size + 1, 0, none⟩)] 117 (0, 0)) := by
  unfold readW
  exact new_alloc (by simp)
theorem readW_norow (A : Option Addr) (n c : Nat) (W : World) : ∀ b, W.heap.size ≤ b → b < (readW A n c W).heap.size → NoRow (readW A n c W) b := by
  intro b h1 h2 cur m
  rw [readW_size] at h2
  obtain rfl | rfl | rfl | rfl : b = W.heap.size ∨ b = W.heap.size + 1 ∨ b = W.heap.size + 2 ∨ b = W.heap.size + 3 := by omega
  · rw [readW_q]; simp
  · rw [readW_s]; simp
  · rw [readW_p]; simp
  · rw [readW_k]; simp
theorem readW_below (A : Option Addr) (n c : Nat) (W : World) : Below W.heap.size W (readW A n c W) := by
  unfold readW
  exact ((((Below.refl _ W).alloc (Nat.le_refl _) _).alloc (by simp) _).alloc (by simp; omega) _).alloc (by simp; omega) _
theorem row_cell {W : World} {g : Nat} {cs : Array Value} {t : TypeId} (h : W.heap[g]? = some (.cells cs t (0, 0))) (i : Nat) : W.cell? ⟨g, i, none⟩ = cs[i]? := cell_of_row W g i cs t (0, 0) h
theorem row_frozen {W : World} {g : Nat} {cs : Array Value} {t : TypeId} (h : W.heap[g]? = some (.cells cs t (0, 0))) (i : Nat) : W.frozen? ⟨g, i, none⟩ = false := by simp [World.frozen?, h]
theorem readW_def (A : Option Addr) (n c : Nat) (W : World) : (((W.alloc (.cells #[.int .i64 0] 38)).alloc (.cells #[.slice A n c, .int .i64 0, .bool true] 114)).alloc (.cells #[.pointer (some ⟨W.heap.size + 1, 0, none⟩)] 112)).alloc (.cells #[.pointer (some ⟨W.heap.size + 1, 0, none⟩)] 117) = readW A n c W := by unfold readW; rfl
attribute [irreducible] readW

/-- What Read tells. -/
def readE : Except Int (List Nat) → Int
  | .ok t => if 0 < t.length then 2 else 0
  | .error x => x
/-- A function that reads, at its end: it has left what Read made as it was. -/
def Fine (L s : Nat) (W1 : World) (Y : Except Int (List Nat) → World → Prop) (B : Nat) (e : Ending) (W2 : World) : Prop :=
  (∀ b, B ≤ b → b < W1.heap.size → b ≠ s → W2.heap[b]? = W1.heap[b]?) ∧
  ((∃ t, e = .returned (.tuple #[]) ∧ RdB L W2 s t ∧ Y (.ok t) W2) ∨ (∃ x, x ≠ 0 ∧ e = .panicked [{ v := flt s, recovered := false }] ∧ Met' W2 s x ∧ Y (.error x) W2))

theorem read_any4 (A : Option Addr) (n c F : Nat) (cap : Array Value) (W : World) (bs : List Nat) (Y : Except Int (List Nat) → World → Prop)
    (hcf : ∀ args w, (callFunc F args).run Try.prog w = .ok (.enter F args) w)
    (hn : bs.length = n) (hnc : n ≤ c) (hL : L ≤ W.heap.size) (hbs : bs = [] ∨ ∃ b p, A = some ⟨b, p, none⟩ ∧ b < L ∧ ∀ (i x : Nat), bs[i]? = some x → W.cell? ⟨b, p + i, none⟩ = some (.int .u8 (x : Nat)))
    (HF : ∀ (W1 : World) (k s : Nat), Below W.heap.size W W1 → W.heap.size ≤ s → W.heap.size ≤ k → s < W1.heap.size → W1.heap.size = W.heap.size + 4 → (∀ b, W.heap.size ≤ b → b < W1.heap.size → NoRow W1 b) → Rdr W1 k s → RdB L W1 s bs → Calls Try.prog F (#[.pointer (some ⟨k, 0, none⟩)] ++ cap) W1 (Fine L s W1 Y W.heap.size)) :
    Calls Try.prog 17 #[.slice A n c, .func (.func F) #[] cap] W fun e W' => ∃ r W2, Y r W2 ∧ e = .returned (.int .i64 (readE r)) ∧ Below W.heap.size W2 W' ∧ ∀ k, k < W2.heap.size → k ≠ W.heap.size → k ≠ W.heap.size + 1 → W'.heap[k]? = W2.heap[k]? := by
  have hmf : ∀ (fn : Fn) (first cap : Array Value) (w : World), (Instr.makeFunc fn first cap).run Try.prog w = .ok (.func fn first cap) w := fun _ _ _ _ => rfl
  have hf := func_some
  have hcall := HF (readW A n c W) (W.heap.size + 3) (W.heap.size + 1) (readW_below A n c W) (by omega) (by omega) (by rw [readW_size]; omega) (readW_size A n c W) (readW_norow A n c W)
    ⟨by omega, row_cell (readW_k A n c W) 0⟩
    (by
      refine ⟨A, c, ⟨?_, row_cell (readW_s A n c W) 1, row_cell (readW_s A n c W) 2, fun i => row_frozen (readW_s A n c W) i⟩, by omega, ?_⟩
      · rw [hn]; exact row_cell (readW_s A n c W) 0
      · refine hbs.imp id ?_
        rintro ⟨b, p, rfl, hb, hx⟩
        have hb0 : b < W.heap.size := Nat.lt_of_lt_of_le hb hL
        refine ⟨b, p, rfl, by omega, ⟨hb, by rw [readW_size]; omega⟩, fun i x hi => ?_⟩
        rw [(readW_below _ n c W).cell (p := ⟨b, p + i, none⟩) hb0]
        exact hx i x hi)
  clear HF hbs
  have HC := Lib.hid hcall
  clear hcall
  go_enter_defers Try.func17, Try.ntmps17
  go_wp2_with (rw [readW_def]; refine HC.out.mono ?_; rintro e W2 ⟨hK, hor⟩; have hq2 := (hK W.heap.size (Nat.le_refl _) (by rw [readW_size]; omega) (by omega)).trans (readW_q A n c W); have hp2 := (hK (W.heap.size + 2) (by omega) (by rw [readW_size]; omega) (by omega)).trans (readW_p A n c W); have cq := row_cell hq2 0; have zq := row_frozen hq2 0; have cp := row_cell hp2 0; clear hq2 hp2 hK HC; have HO := Lib.hid hor; clear hor; rcases HO.out with ⟨t, rfl, hB, hY⟩ | ⟨x, hx, rfl, hM, hY⟩)
  · obtain ⟨A', c', hR, _, _⟩ := hB
    have hqlt : W.heap.size < W2.heap.size := World.block_lt_of_cell? W2 ⟨W.heap.size, 0, none⟩ cq
    have hplt : W.heap.size + 2 < W2.heap.size := World.block_lt_of_cell? W2 ⟨W.heap.size + 2, 0, none⟩ cp
    have OQ : Off W.heap.size W2 (W2.setCell ⟨W.heap.size, 0, none⟩ (.int .i64 0)) := (Off.refl W.heap.size W2).set 0 _
    obtain ⟨W3, hW3⟩ : ∃ W3, W3 = W2.setCell ⟨W.heap.size, 0, none⟩ (.int .i64 0) := ⟨_, rfl⟩
    have cq3 : W3.cell? ⟨W.heap.size, 0, none⟩ = some (.int .i64 0) := by rw [hW3]; exact set_same cq
    have zq3 : W3.frozen? ⟨W.heap.size, 0, none⟩ = false := by rw [hW3]; simp [zq]
    rw [← hW3] at OQ ⊢
    have hR3 := hR.off OQ (by omega)
    have cp3 := (OQ.cell (p := ⟨W.heap.size + 2, 0, none⟩) hplt (show W.heap.size + 2 ≠ W.heap.size by omega)).trans cp
    have hlt3 := Nat.lt_of_lt_of_le hqlt OQ.size
    clear hW3
    refine leaves_cons (f := 69) (args := #[.pointer (some ⟨W.heap.size + 1 + 1, 0, none⟩), .pointer (some ⟨W.heap.size, 0, none⟩)]) (by simp) (by simp [go_sem]) ?_
    refine (idle (W.heap.size + 1) (W.heap.size + 2) W.heap.size t.length c' A' 0 W3 hR3 cp3 cq3 zq3 (by omega)).mono ?_
    rintro e u' w'' ⟨rfl, rfl, rfl⟩
    have hE := EndW.off (W.heap.size + 1) (.pointer none) W3.drew
    have cqE := (hE.cell (p := ⟨W.heap.size, 0, none⟩) hlt3 (show W.heap.size ≠ W.heap.size + 1 by omega)).trans cq3
    refine ⟨.int .i64 (if 0 < t.length then 2 else 0), by simp [results, Try.results17, go_sem, cqE], .ok t, W2, hY, rfl, ?_⟩
    have b1 : Below W.heap.size W2 W3 := OQ.belowB (Nat.le_refl _) (by omega)
    have b2 : Below W.heap.size W3 W3.drew := (Below.refl _ _).drew
    have b3 := hE.belowB (B := W.heap.size) (by omega) (Nat.le_of_lt hlt3)
    have b4 := ((b1.trans b2).trans b3)
    refine ⟨b4.trans ((Off.belowB ((Off.refl W.heap.size _).set 0 _) (Nat.le_refl _) (Nat.le_trans (Nat.le_of_lt hlt3) hE.size))), fun k hk h1 h2 => ?_⟩
    refine (Below.heap_setCell _ _ _ k h1).trans ((hE.block k ?_ h2).trans (OQ.block k hk h1))
    exact Nat.lt_of_lt_of_le hk OQ.size
  · obtain ⟨A', n', c', hR⟩ := hM
    have hqlt : W.heap.size < W2.heap.size := World.block_lt_of_cell? W2 ⟨W.heap.size, 0, none⟩ cq
    refine leaves_cons (f := 69) (args := #[.pointer (some ⟨W.heap.size + 1 + 1, 0, none⟩), .pointer (some ⟨W.heap.size, 0, none⟩)]) (by simp) (by simp [go_sem]) ?_
    refine (caught (W.heap.size + 1) (W.heap.size + 2) W.heap.size n' c' A' x 0 [] W2 hR hx cp cq zq (by omega)).mono ?_
    rintro e u' w'' ⟨rfl, rfl, rfl⟩
    have hE := EndW.off (W.heap.size + 1) (.pointer (some ⟨W.heap.size + 1, 0, none⟩)) W2.drew
    have cqE := (hE.cell (p := ⟨W.heap.size, 0, none⟩) hqlt (show W.heap.size ≠ W.heap.size + 1 by omega)).trans cq
    refine ⟨.int .i64 x, by simp [results, Try.results17, go_sem, cqE], .error x, W2, hY, rfl, ?_⟩
    have b2 : Below W.heap.size W2 W2.drew := (Below.refl _ _).drew
    have b3 := hE.belowB (B := W.heap.size) (by omega) (Nat.le_of_lt hqlt)
    refine ⟨(b2.trans b3).trans ((Off.belowB ((Off.refl W.heap.size _).set 0 _) (Nat.le_refl _) (Nat.le_trans (Nat.le_of_lt hqlt) hE.size))), fun k hk h1 h2 => ?_⟩
    exact (Below.heap_setCell _ _ _ k h1).trans (hE.block k hk h2)
theorem read_any (A : Option Addr) (n c F : Nat) (cap : Array Value) (W : World) (bs : List Nat) (Y : Except Int (List Nat) → World → Prop)
    (hcf : ∀ args w, (callFunc F args).run Try.prog w = .ok (.enter F args) w)
    (hn : bs.length = n) (hnc : n ≤ c) (hL : L ≤ W.heap.size) (hbs : bs = [] ∨ ∃ b p, A = some ⟨b, p, none⟩ ∧ b < L ∧ ∀ (i x : Nat), bs[i]? = some x → W.cell? ⟨b, p + i, none⟩ = some (.int .u8 (x : Nat)))
    (HF : ∀ (W1 : World) (k s : Nat), Below W.heap.size W W1 → W.heap.size ≤ s → W.heap.size ≤ k → s < W1.heap.size → (∀ b, W.heap.size ≤ b → b < W1.heap.size → NoRow W1 b) → Rdr W1 k s → RdB L W1 s bs → Calls Try.prog F (#[.pointer (some ⟨k, 0, none⟩)] ++ cap) W1 (Fine L s W1 Y W.heap.size)) :
    Calls Try.prog 17 #[.slice A n c, .func (.func F) #[] cap] W fun e W' => ∃ r W2, Y r W2 ∧ e = .returned (.int .i64 (readE r)) ∧ Below W.heap.size W2 W' := by
  refine (read_any4 A n c F cap W bs Y hcf hn hnc hL hbs fun W1 k s h1 h2 h3 h4 _ h5 => HF W1 k s h1 h2 h3 h4 h5).mono ?_
  rintro e W' ⟨r, W2, h1, h2, h3, _⟩
  exact ⟨r, W2, h1, h2, h3⟩
end Go.Proofs.Ytnoeogbihjpacaa
