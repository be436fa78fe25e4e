/-
disk: what is kept beside a disk; the fixed calls (alive).
-/
import Derived.Test.YtoomlbphnadlpaaDk6
namespace Go.Proofs.Ytoomlbphnadlpaa
open Go.RowKit Go.Shelf
open Byt
set_option linter.unusedSimpArgs false
set_option linter.unusedVariables false

/-- Blocks that lie beside a disk's. -/
def Prot (P F : Nat → Prop) (W : World) : Prop := ∀ k, P k → k < W.heap.size ∧ ¬ F k
def Kept (P : Nat → Prop) (W W' : World) : Prop := ∀ k, P k → W'.heap[k]? = W.heap[k]?
theorem Turn.kept {B : Nat} {F P : Nat → Prop} {W W' : World} (t : Turn B F W W') (h : Prot P F W) : Kept P W W' := fun k hk => t.2 k (h k hk).1 (h k hk).2
theorem Turn.prot {B : Nat} {F P : Nat → Prop} {W W' : World} (t : Turn B F W W') (h : Prot P F W) : Prot P (Grow F W W') W' := fun k hk =>
  ⟨Nat.lt_of_lt_of_le (h k hk).1 t.1.size, by
    rintro (h1 | ⟨h1, _⟩)
    · exact (h k hk).2 h1
    · exact absurd (h k hk).1 (by omega)⟩
theorem Prot.next {F P : Nat → Prop} {W W' : World} (h : Prot P F W) (hb : Below W.heap.size W W') : Prot P F W' := fun k hk => ⟨Nat.lt_of_lt_of_le (h k hk).1 hb.size, (h k hk).2⟩
theorem Prot.add {F P : Nat → Prop} {W W' : World} {g : Nat} (h : Prot P F W) (hF : ∀ k, F k → k < W.heap.size) (hb : Below W.heap.size W W') (hg : W.heap.size ≤ g ∧ g < W'.heap.size) : Prot (fun k => P k ∨ k = g) F W' := fun k hk => by
  rcases hk with hk | rfl
  · exact h.next hb k hk
  · exact ⟨hg.2, fun hF' => absurd (hF _ hF') (by omega)⟩
theorem Prot.none (F : Nat → Prop) (W : World) : Prot (fun _ => False) F W := fun _ h => h.elim
theorem row_kept {P : Nat → Prop} {W W' : World} {B g m c : Nat} {bs : List Value} (h : W.ownsRow B 5 1 (.slice (some ⟨g, 0, none⟩) m c) m bs) (hk : Kept P W W') (hg : P g) : W'.ownsRow B 5 1 (.slice (some ⟨g, 0, none⟩) m c) m bs :=
  ownG_keep h fun k e => hk k (by cases e; exact hg)
theorem row_src {W : World} {B g m c : Nat} {bs : List Nat} (h : W.ownsRow B 5 1 (.slice (some ⟨g, 0, none⟩) m c) m (u8s bs)) : Src W (some ⟨g, 0, none⟩) m (u8s bs) :=
  Or.inl ⟨_, rfl, fun j u hj => h.cells rfl j u hj⟩
theorem row_len {W : World} {B g m c : Nat} {bs : List Nat} (h : W.ownsRow B 5 1 (.slice (some ⟨g, 0, none⟩) m c) m (u8s bs)) : bs.length = m := by
  have := h.1
  rw [u8s_len] at this
  omega
theorem row_conv {W : World} {B g m c : Nat} {bs : List Nat} (h : W.ownsRow B 5 1 (.slice (some ⟨g, 0, none⟩) m c) m (u8s bs)) (h256 : ∀ y ∈ bs, y < 256) : (convert 27 9 (.slice (some ⟨g, 0, none⟩) m c)).run Try.prog W = .ok (.string (bstr bs)) W :=
  conv_src W _ m c bs (row_src h) (row_len h) h256
theorem blk_src {W : World} {g : Nat} {bs : List Nat} (h : Blk W g 5 (u8s bs).toArray) : Src W (some ⟨g, 0, none⟩) bs.length (u8s bs) :=
  Or.inl ⟨_, rfl, fun j u hj => by rw [add_plain, Nat.zero_add, h.cell, List.getElem?_toArray]; exact hj⟩
theorem lit_src {w : World} {bs : List Nat} {z : Nat × Nat} {C : Array Value} (hC : C = (u8s bs).toArray) : Src (w.alloc (.cells C 5 z)) (some ⟨w.heap.size, 0, none⟩) bs.length (u8s bs) :=
  Or.inl ⟨_, rfl, fun j u hj => by rw [add_plain, Nat.zero_add, hC, cell_of_row _ _ _ _ _ z (heap_alloc_new w _), List.getElem?_toArray]; exact hj⟩
theorem dt_256 {l : List Nat} (h : ∀ y ∈ l, y < 256) (a m : Nat) : ∀ y ∈ (l.drop a).take m, y < 256 := fun y hy => h y (List.mem_of_mem_drop (List.mem_of_mem_take hy))
section
variable {W : World} {B d : Nat} {F : Nat → Prop} {h n : Nat} {v : Value} {has : List Nat} {ws : List Wt} {fl wr : Int}
theorem Dk.put256 (D : Dk W B d F h n v has ws fl wr) : ∀ y ∈ putL has (Proofs.Ytoomlbphnadlpaa.flat ws), y < 256 := putL_256 _ _ D.h256 fun x hx => (D.flat x hx).2
end
set_option maxHeartbeats 4000000 in
set_option maxRecDepth 20000 in
theorem alive_any (W : World) : Calls Try.prog 10 #[] W fun e W' => e = .returned (.bool true) ∧ Below W.heap.size W W' := by
  have HN := Lib.hid (new_any W 64 (by omega) (by omega))
  obtain ⟨d, hd⟩ : ∃ d, d = W.heap.size + 1 := ⟨_, rfl⟩
  have HD0 := Lib.hid hd
  rw [← hd] at HN
  clear hd
  have kc := fun (w : World) (C : Array Value) (n c : Nat) => Lib.run_convert_bytes_const (P := Try.prog) w 27 5 C n c Try.underlying27 Try.underlying5
  have ek : wrap64 ((0 : Int) + ((([97, 98, 99] : List Nat).length : Nat) : Int)) = 3 := by unfold wrap64; simp
  have ek2 : wrap64 ((3 : Int) + ((([119, 120, 121, 122] : List Nat).length : Nat) : Int)) = 7 := by unfold wrap64; simp
  have ek3 : wrap64 ((0 : Int) + 1) = 1 := by unfold wrap64; simp
  have E : ∀ x2 : Wt, x2.a = 5 ∧ x2.bs = [97, 98, 99] → (flat [x2] = [(5, 97), (6, 98), (7, 99)]) := by rintro ⟨a, A, c, bs⟩ ⟨rfl, rfl⟩; rfl
  have E2 : ∀ x2 : Wt, x2.a = 60 ∧ x2.bs = [119, 120, 121, 122] → (flat [x2] = [(60, 119), (61, 120), (62, 121), (63, 122)]) := by rintro ⟨a, A, c, bs⟩ ⟨rfl, rfl⟩; rfl
  have HE := Lib.hid (And.intro E (And.intro E2 (And.intro ek (And.intro ek2 ek3))))
  clear E E2 ek ek2 ek3
  go_enter Try.func10, Try.ntmps10
  go_upto_region 4 with (go_at_call 5; refine HN.out.mono ?_; rintro e w1 ⟨rfl, hD, hb, hs⟩; have HD1 := Lib.hid hD; have HB1 := Lib.hid hb; clear hD hb hs HN)
  go_upto_region 5 with (go_at_call 6; refine (write_any _ (HD1.out.next ((Below.refl _ _).alloc (Nat.le_refl _) _)) 5 3 (some ⟨w1.heap.size, 0, none⟩) [97, 98, 99] (lit_src rfl) (by decide) (by decide) (by decide)).mono ?_; rintro e w2 ⟨v2, x2, rfl, hxa, hxb, hD, hT⟩; rw [HE.out.2.2.1, List.nil_append] at hD; have HX2 := Lib.hid (HE.out.1 x2 ⟨hxa, hxb⟩); have HD2 := Lib.hid hD; have HB2 := Lib.hid (show Below W.heap.size W w2 from (HB1.out.alloc HB1.out.size _).trans hT.1); clear hD hT hxa hxb HD1 HB1)
  go_upto_region 6 with (go_at_call 9; refine (read_any HD2.out (by simp) 4 5 (by decide)).mono ?_; rintro e w3 ⟨g3, c3, rfl, hr, hb⟩; rw [HX2.out, show List.take 5 (List.drop 4 (putL (List.replicate 64 0) [(5, 97), (6, 98), (7, 99)])) = [0, 97, 98, 99, 0] from rfl] at hr; have HR3 := Lib.hid hr; have HD3 := Lib.hid (HD2.out.next hb); have HB3 := Lib.hid (HB2.out.trans (hb.mono HB2.out.size)); have HP3 := Lib.hid ((Prot.none _ _).add (fun k hk => (HD2.out.low k hk).2) hb (hr.lt g3 rfl)); clear hr hb HD2 HB2)
  go_upto_region 7 with (go_at_call 7; refine (crash_any HD3.out (by simp) 2 (by decide)).mono ?_; rintro e w4 ⟨rfl, hD, hT⟩; rw [HX2.out, show putL (List.replicate 64 0) (List.take (2 : Int).toNat [(5, 97), (6, 98), (7, 99)]) = putL (List.replicate 64 0) [(5, 97), (6, 98)] from rfl] at hD; have HD4 := Lib.hid hD; have HB4 := Lib.hid (HB3.out.trans hT.1); have HP4 := Lib.hid (hT.prot HP3.out); have HR4 := Lib.hid (row_kept HR3.out (hT.kept HP3.out) (Or.inr rfl)); clear hD hT HD3 HB3 HP3 HR3)
  go_upto_region 8 with (go_at_call 9; refine (read_any HD4.out (by simp) 4 5 (by decide)).mono ?_; rintro e w5 ⟨g5, c5, rfl, hr, hb⟩; rw [show List.take 5 (List.drop 4 (putL (putL (List.replicate 64 0) [(5, 97), (6, 98)]) (flat []))) = [0, 97, 98, 0, 0] from rfl] at hr; have HR5 := Lib.hid hr; have HR54 := Lib.hid (ownG_next HR4.out hb); have HD5 := Lib.hid (HD4.out.next hb); have HB5 := Lib.hid (HB4.out.trans (hb.mono HB4.out.size)); have HP5 := Lib.hid (HP4.out.add (fun k hk => (HD4.out.low k hk).2) hb (hr.lt g5 rfl)); clear hr hb HD4 HB4 HR4 HP4)
  go_upto_region 9 with (go_at_call 6; have hb6 : Below w5.heap.size w5 (w5.alloc (.cells (u8s [119, 120, 121, 122]).toArray 5 (4, 5))) := (Below.refl _ _).alloc (Nat.le_refl _) _; refine (write_any _ (HD5.out.next hb6) 60 4 (some ⟨w5.heap.size, 0, none⟩) [119, 120, 121, 122] (lit_src rfl) (by decide) (by decide) (by decide)).mono ?_; rintro e w6 ⟨v6, x6, rfl, hxa, hxb, hD, hT⟩; rw [HE.out.2.2.2.1, List.nil_append] at hD; have HX6 := Lib.hid (HE.out.2.1 x6 ⟨hxa, hxb⟩); have HD6 := Lib.hid hD; have HB6 := Lib.hid (show Below W.heap.size W w6 from (HB5.out.alloc HB5.out.size _).trans hT.1); have HP6 := Lib.hid (hT.prot (HP5.out.next hb6)); have HR64 := Lib.hid (row_kept (ownG_next HR54.out hb6) (hT.kept (HP5.out.next hb6)) (Or.inl (Or.inr rfl))); have HR65 := Lib.hid (row_kept (ownG_next HR5.out hb6) (hT.kept (HP5.out.next hb6)) (Or.inr rfl)); clear hD hT hxa hxb hb6 HD5 HB5 HP5 HR54 HR5)
  go_upto_region 10 with (go_at_call 8; refine (flush_any HD6.out (by simp)).mono ?_; rintro e w7 ⟨rfl, hD, hT⟩; rw [HX6.out, HE.out.2.2.2.2] at hD; have HD7 := Lib.hid hD; have HB7 := Lib.hid (HB6.out.trans hT.1); have HP7 := Lib.hid (hT.prot HP6.out); have HR74 := Lib.hid (row_kept HR64.out (hT.kept HP6.out) (Or.inl (Or.inr rfl))); have HR75 := Lib.hid (row_kept HR65.out (hT.kept HP6.out) (Or.inr rfl)); clear hD hT HD6 HB6 HP6 HR64 HR65)
  go_upto_region 11 with (go_at_call 7; refine (crash_any HD7.out (by simp) 9 (by decide)).mono ?_; rintro e w8 ⟨rfl, hD, hT⟩; have HD8 := Lib.hid hD; have HB8 := Lib.hid (HB7.out.trans hT.1); have HP8 := Lib.hid (hT.prot HP7.out); have HR84 := Lib.hid (row_kept HR74.out (hT.kept HP7.out) (Or.inl (Or.inr rfl))); have HR85 := Lib.hid (row_kept HR75.out (hT.kept HP7.out) (Or.inr rfl)); clear hD hT HD7 HB7 HP7 HR74 HR75)
  go_upto_region 12 with (go_at_call 9; refine (read_any HD8.out (by simp) 60 4 (by decide)).mono ?_; rintro e w9 ⟨g9, c9, rfl, hr, hb⟩; rw [show List.take 4 (List.drop 60 (putL (putL (putL (putL (List.replicate 64 0) [(5, 97), (6, 98)]) [(60, 119), (61, 120), (62, 121), (63, 122)]) (List.take (9 : Int).toNat (flat []))) (flat []))) = [119, 120, 121, 122] from rfl] at hr; have HR9 := Lib.hid hr; have HR94 := Lib.hid (ownG_next HR84.out hb); have HR95 := Lib.hid (ownG_next HR85.out hb); have HD9 := Lib.hid (HD8.out.next hb); have HB9 := Lib.hid (HB8.out.trans (hb.mono HB8.out.size)); clear hr hb HD8 HB8 HR84 HR85 HP8)
  go_upto_region 13 with (go_at_call 17; refine (counts_any _ HD9.out).mono ?_; rintro e wc ⟨rfl, hb⟩; have HR9c := Lib.hid (ownG_next HR9.out hb); have HR94c := Lib.hid (ownG_next HR94.out hb); have HR95c := Lib.hid (ownG_next HR95.out hb); have HDc := Lib.hid (HD9.out.next hb); have HBc := Lib.hid (HB9.out.trans (hb.mono HB9.out.size)); clear hb HR9 HR94 HR95 HD9 HB9)
  have k1 := row_conv HR94c.out (by decide)
  rw [show bstr [0, 97, 98, 99, 0] = ⟨#[0, 97, 98, 99, 0]⟩ from by rw [bstr_lit]; rfl] at k1
  have k2 := row_conv HR95c.out (by decide)
  rw [show bstr [0, 97, 98, 0, 0] = ⟨#[0, 97, 98, 0, 0]⟩ from by rw [bstr_lit]; rfl] at k2
  have k3 := row_conv HR9c.out (by decide)
  rw [show bstr [119, 120, 121, 122] = ⟨#[119, 120, 121, 122]⟩ from by rw [bstr_lit]; rfl] at k3
  have HW := Lib.hid (write_bad wc HDc.out 61 (some ⟨g9, 0, none⟩) 4 c9 (by decide) (by decide))
  have HS := Lib.hid (size_of wc HDc.out.c0)
  clear HR94c HR95c HR9c HDc kc HE HX2 HX6
  go_wp2_with (first | (go_at_call 6; refine HW.out.mono ?_; rintro e w1 ⟨rfl, rfl⟩) | (go_at_call 18; refine HS.out.mono ?_; rintro e w1 ⟨rfl, rfl⟩))
  go_ret
  exact ⟨rfl, HBc.out⟩
end Go.Proofs.Ytoomlbphnadlpaa
