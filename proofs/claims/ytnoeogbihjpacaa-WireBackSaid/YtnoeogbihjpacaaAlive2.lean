/-
The fixed calls of layer 3: all hold.
-/
import Derived.Test.YtnoeogbihjpacaaAlive
import Derived.Test.YtnoeogbihjpacaaEqv
import Derived.Lib.SlBytesConst
namespace Go.Proofs.Ytnoeogbihjpacaa
open Go.RowKit

/-- Bytes that may be read. -/
def ByR (W : World) (A : Option Addr) (bs : List Nat) : Prop :=
  bs = [] ∨ ∃ b p, A = some ⟨b, p, none⟩ ∧ b < W.heap.size ∧ ∀ (i x : Nat), bs[i]? = some x → W.cell? ⟨b, p + i, none⟩ = some (.int .u8 (x : Nat))
theorem ByR.next {W W' : World} {A : Option Addr} {bs : List Nat} (h : ByR W A bs) (hb : Below W.heap.size W W') : ByR W' A bs := by
  refine h.imp id ?_
  rintro ⟨b, p, e, h1, h2⟩
  exact ⟨b, p, e, Nat.lt_of_lt_of_le h1 hb.size, fun i x hx => (hb.cell (p := ⟨b, p + i, none⟩) h1).trans (h2 i x hx)⟩
theorem ByR.src {W : World} {A : Option Addr} {bs : List Nat} (h : ByR W A bs) (hA : A = none → bs = []) : Src W A bs.length (u8s bs) := by
  rcases h with rfl | ⟨b, p, rfl, h1, h2⟩
  · cases A with
    | none => exact Or.inr ⟨rfl, rfl, rfl⟩
    | some a => exact Or.inl ⟨a, rfl, fun j u hj => by simp [u8s] at hj⟩
  · refine Or.inl ⟨_, rfl, fun j u hj => ?_⟩
    obtain ⟨x, h3, rfl⟩ := u8s_get hj
    rw [add_plain]
    exact h2 j x h3
theorem own_byr {W : World} {B : Nat} {v : Value} {bs : List Nat} (h : W.ownsRow B 5 1 v bs.length (u8s bs)) : ∃ A c, v = .slice A bs.length c ∧ bs.length ≤ c ∧ ByR W A bs ∧ (A = none → bs = []) := by
  obtain ⟨hl, ⟨rfl, h0⟩ | ⟨k, cap, cur, rfl, hk, hh, hnc, hm, hsz, hcs⟩⟩ := id h
  · have hb0 : bs = [] := List.length_eq_zero_iff.1 h0
    subst hb0
    exact ⟨none, 0, rfl, Nat.le_refl _, Or.inl rfl, fun _ => rfl⟩
  · refine ⟨_, _, rfl, hnc, Or.inr ⟨k, 0, rfl, ?_, fun i x hx => ?_⟩, fun e => by cases e⟩
    · rcases Nat.lt_or_ge k W.heap.size with h1 | h1
      · exact h1
      · rw [Array.getElem?_eq_none h1] at hh; cases hh
    · have := h.cells rfl i (.int .u8 (x : Nat)) (by unfold u8s; rw [List.getElem?_map, hx]; rfl)
      rwa [add_plain] at this

theorem al_bytes : enc 300 ++ enc (zig (-1)) ++ (enc 1 ++ [97]) ++ encV (lv [0, 5]) = aliveBs := by
  have h1 := num_one (by decide) al_num
  have h2 := (int_one (by decide) al_int).1
  have h3 := text_one (by decide) al_text
  have h4 := (vector_one (by decide) al_vec).1
  rw [h1, h2, h3]
  simp only [List.append_nil] at h4
  rw [← h4]
  simp [List.append_assoc]
theorem vl05 : (vl (lv [0, 5])).toArray = #[.int .u32 0, .int .u32 5, .int .u32 0, .int .u32 0, .int .u32 0, .int .u32 0, .int .u32 0, .int .u32 0, .int .u32 0, .int .u32 0, .int .u32 0, .int .u32 0] := by
  unfold vl; rfl
theorem lv05_lt : ∀ i, lv [0, 5] i < 4294967296 := by
  intro i
  unfold lv
  match i with
  | 0 => simp
  | 1 => simp
  | i + 2 => simp
theorem run_enter {P : Program} {f : FuncId} {fn : Func} (hf : P.funcs[f]? = some fn) (hname : (fn.name == "runtime.NumGoroutine") = false) (hb : fn.body.isSome = true) (args : Array Value) (w : World) :
    (callFunc f args).run P w = .ok (.enter f args) w := by
  have h1 : fn.name ≠ "runtime.NumGoroutine" := by simpa using hname
  obtain ⟨c, hc⟩ := Option.isSome_iff_exists.1 hb
  simp [callFunc, hf, h1, hc]
theorem call_a1 (args : Array Value) (w : World) : (callFunc 59 args).run Try.prog w = .ok (.enter 59 args) w := by
  exact run_enter Try.func59 (by kernel_rfl) (by kernel_rfl) _ _

/-- The first read of the fixed calls. -/
theorem read_a1 (A : Option Addr) (c cc : Nat) (W : World) (hcc : 8 ≤ cc) (hA : ByR W A aliveBs) (hc : c + 4 ≤ W.heap.size)
    (h1 : Blk W c 27 #[.int .u64 0]) (h2 : Blk W (c + 1) 3 #[.int .i64 0]) (h3 : Blk W (c + 2) 9 #[.string ⟨#[]⟩]) (h4 : Blk W (c + 3) 30 #[.int .u32 0, .int .u32 0, .int .u32 0, .int .u32 0, .int .u32 0, .int .u32 0, .int .u32 0, .int .u32 0, .int .u32 0, .int .u32 0, .int .u32 0, .int .u32 0]) :
    Calls Try.prog 17 #[.slice A 8 cc, .func (.func 59) #[] #[.pointer (some ⟨c, 0, none⟩), .pointer (some ⟨c + 1, 0, none⟩), .pointer (some ⟨c + 2, 0, none⟩), .pointer (some ⟨c + 3, 0, none⟩)]] W fun e W' =>
      e = .returned (.int .i64 0) ∧ Al c W' ∧ Below c W W' := by
  refine (read_any (L := W.heap.size) A 8 cc 59 _ W aliveBs (fun r W2 => r = .ok [] ∧ Al c W2 ∧ Below c W W2 ∧ W.heap.size ≤ W2.heap.size) call_a1 rfl hcc (Nat.le_refl _) hA ?_).mono ?_
  · intro W1 k s hb hs hk hs1 _ hR hB
    refine (alive1_any k s c W1 hR hB hb.size (by omega) (h1.next hb) (h2.next hb) (h3.next hb) (h4.next hb)).mono ?_
    rintro e W2 ⟨h5, h6, h7, h8⟩
    refine ⟨fun b h9 h10 h11 => h8.2.2.2.2 b h10 h11 (Or.inr (by omega)), Or.inl ⟨[], h5, h6, rfl, h7, ?_, Nat.le_trans hb.size h8.2.2.2.1⟩⟩
    refine (hb.mono (by omega)).trans ⟨h8.1, h8.2.1, h8.2.2.1, h8.2.2.2.1, fun k hk => h8.2.2.2.2 k (by have := hb.size; omega) (by omega) (Or.inl hk)⟩
  · rintro e W' ⟨r, W2, ⟨rfl, h5, h6, h7⟩, h8, h9⟩
    have hc' : ∀ {g : Nat} {t : TypeId} {cs : Array Value}, g < c + 4 → Blk W2 g t cs → Blk W' g t cs := fun hg hb => hb.below h9 (by omega)
    exact ⟨h8, ⟨hc' (by omega) h5.1, hc' (by omega) h5.2.1, hc' (by omega) h5.2.2.1, hc' (by omega) h5.2.2.2⟩, h6.trans (h9.mono (by omega))⟩

theorem byr_two (W : World) (a b : Nat) : ByR (W.alloc (.cells #[.int .u8 (a : Nat), .int .u8 (b : Nat)] 5)) (some ⟨W.heap.size, 0, none⟩) [a, b] := by
  refine Or.inr ⟨W.heap.size, 0, rfl, by simp, fun i x hx => ?_⟩
  rw [cell_of_row _ W.heap.size (0 + i) _ _ _ (heap_alloc_new W _)]
  match i, hx with
  | 0, hx => simp at hx; subst hx; rfl
  | 1, hx => simp at hx; subst hx; rfl
theorem read_a2 (W : World) :
    Calls Try.prog 17 #[.slice (some ⟨W.heap.size, 0, none⟩) 2 2, .func (.func 60) #[] #[]] (W.alloc (.cells #[.int .u8 128, .int .u8 0] 5)) fun e W' => e = .returned (.int .i64 3) ∧ Below W.heap.size W W' := by
  refine (read_off (some ⟨W.heap.size, 0, none⟩) 2 2 60 _ [128, 0] (.error 3) (fun args w => run_enter Try.func60 (by kernel_rfl) (by kernel_rfl) args w) rfl (Nat.le_refl _) (byr_two W 128 0) ?_).mono ?_
  · intro W1 k s hR hB
    refine (alive2_any k s W1 hR hB).mono ?_
    rintro e W2 ⟨h1, h2, h3⟩
    exact ⟨h3, by omega, h1, h2⟩
  · rintro e W' ⟨h1, h2⟩
    exact ⟨h1, ((Below.refl _ W).alloc (Nat.le_refl _) _).trans (h2.mono (by simp))⟩
theorem read_a3 (W : World) :
    Calls Try.prog 17 #[.slice (some ⟨W.heap.size, 0, none⟩) 2 2, .func (.func 61) #[] #[]] (W.alloc (.cells #[.int .u8 1, .int .u8 2] 5)) fun e W' => e = .returned (.int .i64 2) ∧ Below W.heap.size W W' := by
  refine (read_off (some ⟨W.heap.size, 0, none⟩) 2 2 61 _ [1, 2] (.ok [2]) (fun args w => run_enter Try.func61 (by kernel_rfl) (by kernel_rfl) args w) rfl (Nat.le_refl _) (byr_two W 1 2) ?_).mono ?_
  · intro W1 k s hR hB
    refine (alive3_any k s W1 hR hB).mono ?_
    rintro e W2 ⟨h1, h2, h3⟩
    exact ⟨h3, h1, h2⟩
  · rintro e W' ⟨h1, h2⟩
    exact ⟨h1, ((Below.refl _ W).alloc (Nat.le_refl _) _).trans (h2.mono (by simp))⟩
theorem Al.next {c : Nat} {W W' : World} (h : Al c W) (hb : Below W.heap.size W W') : Al c W' := ⟨h.1.next hb, h.2.1.next hb, h.2.2.1.next hb, h.2.2.2.next hb⟩

set_option maxRecDepth 100000 in
set_option maxHeartbeats 8000000 in
theorem alive_any (W : World) : Calls Try.prog 14 #[] W fun e W' => e = .returned (.bool true) ∧ Below W.heap.size W W' := by
  have kc := fun (w : World) (C : Array Value) (n c : Nat) => Lib.run_convert_bytes_const (P := Try.prog) w 25 5 C n c Try.underlying25 Try.underlying5
  go_enter Try.func14, Try.ntmps14
  go_wp2_with (go_at_call 12; refine (new_any _).mono ?_; rintro e w1 ⟨rfl, hW1, hb1⟩; have HW1 := Lib.hid hW1; have HB1 := Lib.hid hb1; clear hW1 hb1)
  have X := wnum_any W.heap.size W.heap.size 300 [] w1 HW1.out (by omega) (by simp)
  rw [show ((300 : Nat) : Int) = 300 from rfl] at X
  refine X.mono ?_
  clear X
  rintro e w2 ⟨rfl, hW2, hO2⟩
  have HW2 := Lib.hid hW2
  have HB2 := Lib.hid (HB1.out.trans hO2.1)
  clear hW2 hO2 HW1 HB1
  go_wp2_with fail
  have X := wint_any W.heap.size W.heap.size (-1) _ w2 HW2.out (by omega) (by omega) (by have := enc_len 300 (by omega); simp; omega)
  refine X.mono ?_
  clear X
  rintro e w3 ⟨rfl, hW3, hO3⟩
  have HW3 := Lib.hid hW3
  have HB3 := Lib.hid (HB2.out.trans hO3.1)
  clear hW3 hO3 HW2 HB2
  go_wp2_with fail
  have HB3' := Lib.hid (HB3.out.alloc HB3.out.size (.cells #[.int .u8 97] 5 (1, 2)))
  have b34 : Below w3.heap.size w3 (w3.alloc (.cells #[.int .u8 97] 5 (1, 2))) := (Below.refl _ _).alloc (Nat.le_refl _) _
  have hW3' := HW3.out.next b34
  have X := wtext_any W.heap.size W.heap.size 1 1 (some ⟨w3.heap.size, 0, none⟩) _ [97] _ hW3' rfl (by have := enc_len 300 (by omega); have := enc_len (zig (-1)) (by decide); simp; omega) (fun W' hO => by
    have h1 := hO.2.1 w3.heap.size (by simp) (by have := HW3.out.lt; omega) (by
      intro e
      have h2 := rowOf_lt HW3.out (k := w3.heap.size) (by
        unfold rowOf at e ⊢
        rw [b34.cell (p := ⟨W.heap.size, 0, none⟩) HW3.out.lt] at e
        exact e.symm)
      omega)
    refine Or.inl ⟨_, rfl, fun j u hj => ?_⟩
    have hj0 : j = 0 := by
      rcases Nat.lt_or_ge j 1 with h | h
      · omega
      · rw [List.getElem?_eq_none (by simpa [u8s] using h)] at hj; cases hj
    subst hj0
    rw [add_plain]
    have h3 : W'.heap[w3.heap.size]? = some (.cells #[.int .u8 97] 5 (1, 2)) := h1.trans (heap_alloc_new w3 _)
    rw [cell_of_row W' w3.heap.size 0 _ _ _ h3]
    exact hj)
  refine X.mono ?_
  clear X b34 hW3'
  rintro e w4 ⟨rfl, hW4, hO4⟩
  have HW4 := Lib.hid hW4
  have HB4 := Lib.hid (HB3'.out.trans hO4.1)
  clear hW4 hO4 HW3 HB3 HB3'
  go_wp2_with fail
  have X := wvector_any W.heap.size W.heap.size (lv [0, 5]) _ w4 HW4.out lv05_lt (by have := enc_len 300 (by omega); have := enc_len (zig (-1)) (by decide); have := enc_len 1 (by omega); simp; omega)
  rw [vl05] at X
  refine X.mono ?_
  clear X
  rintro e w5 ⟨rfl, hW5, hO5⟩
  have e5 : [] ++ enc 300 ++ enc (zig (-1)) ++ enc 1 ++ [97] ++ encV (lv [0, 5]) = aliveBs := by
    have := al_bytes
    simp only [List.nil_append, List.append_assoc] at this ⊢
    exact this
  rw [e5] at hW5
  have HW5 := Lib.hid hW5
  have HB5 := Lib.hid (HB4.out.trans hO5.1)
  clear hW5 hO5 HW4 HB4 e5
  go_wp2_with fail
  refine (bytes_any W.heap.size W.heap.size aliveBs w5 HW5.out (by decide)).mono ?_
  rintro e w6 ⟨v6, rfl, hown6, hb6⟩
  obtain ⟨A, cc, rfl, hcc, hA, hA0⟩ := own_byr hown6
  have HA := Lib.hid hA
  have HA0 := Lib.hid hA0
  have HCC := Lib.hid (show 8 ≤ cc from hcc)
  have HB6 := Lib.hid (HB5.out.trans (hb6.mono HB5.out.size))
  clear hown6 hb6 hA hA0 hcc HW5 HB5
  rw [show aliveBs.length = 8 from rfl]
  go_wp2_with (first | (first | (refine wpList_load_blk rfl 30 _ rfl _ rfl 30 (vl ?_).toArray _ ?_ Try.underlying30 rfl (vinfo _) ?_; rotate_left; (focus ((first | assumption | ((repeat' (first | assumption | ((with_reducible refine Blk.new' ?_); (first | rfl | (simp; done))) | ((with_reducible refine Blk.newRow ?_); (first | rfl | (simp; done))) | ((with_reducible refine Blk.farRow ?_ ?_ _); rotate_left; (first | (simp; done) | (simp; omega) | omega)) | (with_reducible refine Blk.alloc ?_ _) | (with_reducible refine Blk.drew ?_) | ((with_reducible refine Blk.far ?_ ?_ _); rotate_left; (first | (simp; done) | (simp; omega) | omega)) | (with_reducible refine Blk.next' (by assumption) ?_))); done))))) | (refine wpList_store_blk rfl 30 _ _ rfl _ 30 ?_ (vl _).toArray rfl rfl ?_ (vinfo _) ?_ (vl_all _) ?_; rotate_left; (focus ((first | assumption | ((repeat' (first | assumption | ((with_reducible refine Blk.new' ?_); (first | rfl | (simp; done))) | ((with_reducible refine Blk.newRow ?_); (first | rfl | (simp; done))) | ((with_reducible refine Blk.farRow ?_ ?_ _); rotate_left; (first | (simp; done) | (simp; omega) | omega)) | (with_reducible refine Blk.alloc ?_ _) | (with_reducible refine Blk.drew ?_) | ((with_reducible refine Blk.far ?_ ?_ _); rotate_left; (first | (simp; done) | (simp; omega) | omega)) | (with_reducible refine Blk.next' (by assumption) ?_))); done)))); (focus (first | exact (vl_size _).trans (vl_size _).symm | exact (vl_size _).symm)); intro _hrow)))
  have b7 : Below w6.heap.size w6 ((((w6.alloc (.cells #[.int .u64 0] 27)).alloc (.cells #[.int .i64 0] 3)).alloc (.cells #[.string ⟨#[]⟩] 9)).alloc (.cells #[.int .u32 0, .int .u32 0, .int .u32 0, .int .u32 0, .int .u32 0, .int .u32 0, .int .u32 0, .int .u32 0, .int .u32 0, .int .u32 0, .int .u32 0, .int .u32 0] 30)) := ((((Below.refl _ _).alloc (Nat.le_refl _) _).alloc (by simp) _).alloc (by simp; omega) _).alloc (by simp; omega) _
  refine (read_a1 A w6.heap.size cc _ HCC.out (HA.out.next b7) (by simp) (by (first | assumption | ((repeat' (first | assumption | ((with_reducible refine Blk.new' ?_); (first | rfl | (simp; done))) | ((with_reducible refine Blk.newRow ?_); (first | rfl | (simp; done))) | ((with_reducible refine Blk.farRow ?_ ?_ _); rotate_left; (first | (simp; done) | (simp; omega) | omega)) | (with_reducible refine Blk.alloc ?_ _) | (with_reducible refine Blk.drew ?_) | ((with_reducible refine Blk.far ?_ ?_ _); rotate_left; (first | (simp; done) | (simp; omega) | omega)) | (with_reducible refine Blk.next' (by assumption) ?_))); done))) (by (first | assumption | ((repeat' (first | assumption | ((with_reducible refine Blk.new' ?_); (first | rfl | (simp; done))) | ((with_reducible refine Blk.newRow ?_); (first | rfl | (simp; done))) | ((with_reducible refine Blk.farRow ?_ ?_ _); rotate_left; (first | (simp; done) | (simp; omega) | omega)) | (with_reducible refine Blk.alloc ?_ _) | (with_reducible refine Blk.drew ?_) | ((with_reducible refine Blk.far ?_ ?_ _); rotate_left; (first | (simp; done) | (simp; omega) | omega)) | (with_reducible refine Blk.next' (by assumption) ?_))); done))) (by (first | assumption | ((repeat' (first | assumption | ((with_reducible refine Blk.new' ?_); (first | rfl | (simp; done))) | ((with_reducible refine Blk.newRow ?_); (first | rfl | (simp; done))) | ((with_reducible refine Blk.farRow ?_ ?_ _); rotate_left; (first | (simp; done) | (simp; omega) | omega)) | (with_reducible refine Blk.alloc ?_ _) | (with_reducible refine Blk.drew ?_) | ((with_reducible refine Blk.far ?_ ?_ _); rotate_left; (first | (simp; done) | (simp; omega) | omega)) | (with_reducible refine Blk.next' (by assumption) ?_))); done))) (by (first | assumption | ((repeat' (first | assumption | ((with_reducible refine Blk.new' ?_); (first | rfl | (simp; done))) | ((with_reducible refine Blk.newRow ?_); (first | rfl | (simp; done))) | ((with_reducible refine Blk.farRow ?_ ?_ _); rotate_left; (first | (simp; done) | (simp; omega) | omega)) | (with_reducible refine Blk.alloc ?_ _) | (with_reducible refine Blk.drew ?_) | ((with_reducible refine Blk.far ?_ ?_ _); rotate_left; (first | (simp; done) | (simp; omega) | omega)) | (with_reducible refine Blk.next' (by assumption) ?_))); done)))).mono ?_
  rintro e w7 ⟨rfl, hAl, hb⟩
  have HA7 := Lib.hid (HA.out.next (b7.trans hb))
  have HB7 := Lib.hid (HB6.out.trans ((b7.trans hb).mono HB6.out.size))
  have HAl7 := Lib.hid hAl
  clear hAl hb b7 HA HB6
  go_wp2_with fail
  refine (read_a2 w7).mono ?_
  rintro e w8 ⟨rfl, hb8⟩
  have HB8 := Lib.hid hb8
  clear hb8
  go_wp2_with fail
  refine (read_a3 w8).mono ?_
  rintro e w9 ⟨rfl, hb9⟩
  have hb79 := HB8.out.trans (hb9.mono HB8.out.size)
  have HB9 := Lib.hid (HB7.out.trans (hb79.mono HB7.out.size))
  have hA9 := HA7.out.next hb79
  have cv := conv_src w9 A 8 cc aliveBs (hA9.src HA0.out) rfl (by decide)
  rw [show bstr aliveBs = ⟨#[130, 44, 1, 1, 97, 2, 0, 5]⟩ by rw [bstr_lit]; rfl] at cv
  obtain ⟨a1, a2, a3, a4⟩ := HAl7.out.next hb79
  have k1 := a1.cell 0
  have k2 := a2.cell 0
  have k3 := a3.cell 0
  rw [show bstr [97] = ⟨#[97]⟩ by rw [bstr_lit]; rfl] at k3
  have q : ∀ w, (Op.equalIn 10000 30 (.agg (vl (lv [0, 5])).toArray) (.agg #[.int .u32 0, .int .u32 5, .int .u32 0, .int .u32 0, .int .u32 0, .int .u32 0, .int .u32 0, .int .u32 0, .int .u32 0, .int .u32 0, .int .u32 0, .int .u32 0])).run Try.prog w = .ok true w := fun w => by
    rw [← vl05]; exact eqv _ _ (eqB_self _) w
  clear hb9 hb79 hA9 HA7 HB7 HB8 HAl7 a1 a2 a3
  go_wp2_with (first | (first | (refine wpList_load_blk rfl 30 _ rfl _ rfl 30 (vl ?_).toArray _ ?_ Try.underlying30 rfl (vinfo _) ?_; rotate_left; (focus ((first | assumption | ((repeat' (first | assumption | ((with_reducible refine Blk.new' ?_); (first | rfl | (simp; done))) | ((with_reducible refine Blk.newRow ?_); (first | rfl | (simp; done))) | ((with_reducible refine Blk.farRow ?_ ?_ _); rotate_left; (first | (simp; done) | (simp; omega) | omega)) | (with_reducible refine Blk.alloc ?_ _) | (with_reducible refine Blk.drew ?_) | ((with_reducible refine Blk.far ?_ ?_ _); rotate_left; (first | (simp; done) | (simp; omega) | omega)) | (with_reducible refine Blk.next' (by assumption) ?_))); done))))) | (refine wpList_store_blk rfl 30 _ _ rfl _ 30 ?_ (vl _).toArray rfl rfl ?_ (vinfo _) ?_ (vl_all _) ?_; rotate_left; (focus ((first | assumption | ((repeat' (first | assumption | ((with_reducible refine Blk.new' ?_); (first | rfl | (simp; done))) | ((with_reducible refine Blk.newRow ?_); (first | rfl | (simp; done))) | ((with_reducible refine Blk.farRow ?_ ?_ _); rotate_left; (first | (simp; done) | (simp; omega) | omega)) | (with_reducible refine Blk.alloc ?_ _) | (with_reducible refine Blk.drew ?_) | ((with_reducible refine Blk.far ?_ ?_ _); rotate_left; (first | (simp; done) | (simp; omega) | omega)) | (with_reducible refine Blk.next' (by assumption) ?_))); done)))); (focus (first | exact (vl_size _).trans (vl_size _).symm | exact (vl_size _).symm)); intro _hrow)))
  refine (read_nil none 0 0 w9).mono ?_
  rintro e w10 ⟨rfl, hb10⟩
  have HB10 := Lib.hid (HB9.out.trans (hb10.mono HB9.out.size))
  clear hb10
  go_wp2_with fail
  go_ret
  exact ⟨rfl, HB10.out⟩
end Go.Proofs.Ytnoeogbihjpacaa
