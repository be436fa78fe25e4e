/-
packet: the fixed test of each law.
-/
import Derived.Test.YtbgjghgmdhnhbaaPk10
namespace Go.Proofs.Ytbgjghgmdhnhbaa
open Go.RowKit
set_option linter.unusedSimpArgs false
set_option linter.unusedVariables false
namespace Pk
theorem load_midg {P : Program} {ops : Array Oper} {rest : List Oper} {op : Oper} {a : Act} {w : World} {Q : Exit → Act → World → Prop} (hw : Region.wanted op (yielded ops a.tmps) = true) (ty : TypeId) (x : Operand) (ho : op.op = .load ty x)
    (b o : Nat) (hx : a.eval x = .pointer (some ⟨b, o, none⟩)) (cs : List Value) (d : TypeDesc) (hc : w.rangeAt b o cs)
    (hu : P.underlying ty = some d) (hd : d.isRow = true) (hi : (P.info? ty).map (·.size) = some cs.length)
    (h : wpList P ops Q rest (a.put op.dst (.agg cs.toArray)) w) : wpList P ops Q (op :: rest) a w :=
  wpList_step fun _ hK => by
    rw [if_pos hw]
    exact wp_load_mid ty x ho b o hx cs d hc hu hd hi (hK _ _ h)
theorem lit_byr {w : World} {bs : List Nat} {C : Array Value} {z : Nat × Nat} (h : C = (u8s bs).toArray) : Byt.ByR (w.alloc (.cells C 5 z)) (some ⟨w.heap.size, 0, none⟩) bs := by
  refine Or.inr ⟨w.heap.size, 0, rfl, by simp, fun i x hx => ?_⟩
  have hh := heap_alloc_new w (Obj.cells C 5 z)
  rw [Nat.zero_add, cell_of_row _ w.heap.size _ _ _ _ hh, h, List.getElem?_toArray]
  unfold u8s
  rw [List.getElem?_map, hx]
  rfl
abbrev p0 : Pt := ⟨true, 1, 2, 3, []⟩
theorem byr_take {W : World} {A : Option Addr} {bs : List Nat} (h : Byt.ByR W A bs) (k : Nat) : Byt.ByR W A (bs.take k) := by
  rcases h with rfl | ⟨b, p, e, h1, h2⟩
  · exact Or.inl (by simp)
  · refine Or.inr ⟨b, p, e, h1, fun i x hx => h2 i x ?_⟩
    have hi := (List.getElem?_eq_some_iff.1 hx).1
    rw [List.getElem?_take] at hx
    split at hx
    · exact hx
    · cases hx
theorem byr_some {W : World} {A : Option Addr} {bs : List Nat} (h : Byt.ByR W A bs) (h0 : bs.length ≠ 0) : ∃ g o, A = some ⟨g, o, none⟩ := by
  rcases h with rfl | ⟨b, p, e, h1, h2⟩
  · exact absurd rfl h0
  · exact ⟨b, p, e⟩
theorem fin_right : Rt p0 := right_of (by decide)
theorem fin_enc : encB p0 = [1, 1, 2, 3] := by decide +kernel
theorem fin_sum : ∃ s, Crc.sum (encB p0) = s + 1 := by
  have h : Crc.sum (encB p0) ≠ 0 := by rw [fin_enc]; decide +kernel
  exact ⟨Crc.sum (encB p0) - 1, by omega⟩
theorem fin_len : 5 ≤ (encP p0).length := by
  unfold encP
  rw [fin_enc]
  have : 1 ≤ (enc (Crc.sum [1, 1, 2, 3])).length := by unfold enc; simp
  rw [List.length_append]
  simp
  omega
theorem fin_take : (encP p0).take 4 = [1, 1, 2, 3] := by unfold encP; rw [fin_enc]; rfl
theorem fin_bad : ∀ p m, kP [] ≠ .ok ((p, m), []) := by
  intro p m e
  have : kP [] = .error 8 := by rfl
  rw [this] at e; cases e
theorem fin_five : kP [1, 1, 2, 3, 0] = .ok ((p0, 0), []) := by
  have h : [1, 1, 2, 3, 0] = encB p0 ++ enc 0 := by rw [fin_enc]; decide +kernel
  rw [h]
  unfold kP
  rw [(get_back fin_right).1]
  dsimp only
  unfold kP2
  have := numP_enc 0 (by omega) []
  rw [List.append_nil] at this
  rw [this]
  rfl
set_option maxHeartbeats 8000000 in
set_option maxRecDepth 20000 in
theorem alive_any (W : World) : Calls Try.prog 9 #[] W fun e W' => e = .returned (.bool true) ∧ Below W.heap.size W W' := by
  have kc := fun (w : World) (C : Array Value) (n c : Nat) => Lib.run_convert_bytes_const (P := Try.prog) w 23 5 C n c Try.underlying23 Try.underlying5
  have hcl : (Pc.mk p0 none 0).cells.toArray = #[.bool true, .int .i64 1, .int .i64 2, .int .u64 3, .slice none 0 0] := rfl
  go_enter Try.func9, Try.ntmps9
  go_upto_region 2 with (first | (refine wpList_store_blk rfl 25 _ _ rfl W.heap.size 25 zc #[.bool true, .int .i64 1, .int .i64 2, .int .u64 3, .slice none 0 0] rfl rfl (Blk.new W _ _) (by kernel_rfl) rfl (by simp [Value.oneCell']) ?_; intro b5; clear b5))
  rw [Wr.alloc_setRow]
  obtain ⟨w1, hw1⟩ : ∃ w1, w1 = W.alloc (.cells #[.bool true, .int .i64 1, .int .i64 2, .int .u64 3, .slice none 0 0] 25) := ⟨_, rfl⟩
  have hx : Blk w1 W.heap.size 25 (Pc.mk p0 none 0).cells.toArray := by rw [hw1, hcl]; exact Blk.new _ _ _
  have hb1 : Below W.heap.size W w1 := by rw [hw1]; exact (Below.refl _ _).alloc (Nat.le_refl _) _
  rw [← hw1]
  clear hw1
  have H1 := Lib.hid (And.intro hx hb1)
  have hr1 := hx.range
  have hok0 : (Pc.mk p0 none 0).Ok w1 := ⟨Nat.le_refl _, by simp, Or.inl rfl, fun _ => rfl⟩
  have HW := Lib.hid (write_yes w1 (Pc.mk p0 none 0) fin_right hok0)
  clear hx hb1 hok0 hcl
  obtain ⟨en, hen⟩ : ∃ en, en = encP p0 := ⟨_, rfl⟩
  have HEN := Lib.hid hen
  rw [show encP (Pc.mk p0 none 0).p = en from hen.symm] at HW
  clear hen
  go_upto_region 3 with (first | (refine wpList_load_mid rfl 25 _ rfl _ _ rfl (Pc.mk p0 none 0).cells _ hr1 Try.underlying25 rfl (pcinfo _) ?_) | (go_at_call 10; refine HW.out.mono ?_; rintro e w2 ⟨v2, rfl, ho, hb⟩; obtain ⟨A2, c2, rfl, hc2, hy2, hn2⟩ := Byt.own_byr (bs := en) ho; have H2 := Lib.hid (And.intro hb (And.intro hc2 (And.intro hy2 hn2))); clear hb hc2 hy2 hn2 ho HW))
  clear hr1
  have HR := Lib.hid (read_mine A2 en.length c2 w2 p0 (by rw [HEN.out]) H2.out.2.1 fin_right (by simp) (by have := H2.out.2.2.1; rwa [HEN.out] at this))
  go_upto_region 4 with (first | (go_at_call 11; refine HR.out.mono ?_; rintro e w3 ⟨hb, A3, c3, rfl, ho⟩; have H3 := Lib.hid (And.intro hb ho); clear hb ho HR) | (refine wpList_store_blk rfl 25 _ _ rfl w3.heap.size 25 zc (Pc.mk p0 A3 c3).cells.toArray rfl rfl (Blk.new w3 _ _) (pcinfoA _) (pc_siz _) (pc_one _) ?_; intro b5; clear b5))
  rw [Wr.alloc_setRow]
  obtain ⟨w4, hw4⟩ : ∃ w4, w4 = w3.alloc (.cells (Pc.mk p0 A3 c3).cells.toArray 25) := ⟨_, rfl⟩
  have hx4 : Blk w4 w3.heap.size 25 (Pc.mk p0 A3 c3).cells.toArray := by rw [hw4]; exact Blk.new _ _ _
  have hb4 : Below w3.heap.size w3 w4 := by rw [hw4]; exact (Below.refl _ _).alloc (Nat.le_refl _) _
  rw [← hw4]
  clear hw4
  have HB14 := Lib.hid (show Below w1.heap.size w1 w4 from H2.out.1.trans ((H3.out.1.trans (hb4.mono H3.out.1.size)).mono H2.out.1.size))
  have HB24 := Lib.hid (show Below w2.heap.size w2 w4 from H3.out.1.trans (hb4.mono H3.out.1.size))
  have H4 := Lib.hid (And.intro hx4 (H3.out.2.next hb4))
  clear hx4 hb4
  obtain ⟨g4, hg4⟩ : ∃ g4, g4 = w3.heap.size := ⟨_, rfl⟩
  rw [← hg4] at H4 ⊢
  clear H3 hg4
  have HWN := Lib.hid (fun w g => write_no w (Pc.mk ⟨false, 1, 1, 1, [120]⟩ (some ⟨g, 0, none⟩) 1) (show rightB ⟨false, 1, 1, 1, [120]⟩ = false by decide))
  have hb5 := (Below.refl w4.heap.size w4).alloc (Nat.le_refl _) (.cells #[.int .u8 120] 5 (1, 2))
  have HB5 := Lib.hid hb5
  clear hb5
  go_upto_region 5 with (first | (go_at_call 10; refine (HWN.out _ _).mono ?_; rintro e w6 ⟨rfl, hb⟩; have H6 := Lib.hid (HB5.out.trans (hb.mono HB5.out.size)); clear hb HWN))
  have HRN := Lib.hid (read_form none 0 0 w6 [] rfl (by decide) (by decide) (by simp) (Or.inl rfl) fin_bad)
  go_upto_region 6 with (first | (go_at_call 11; refine HRN.out.mono ?_; rintro e w7 ⟨rfl, hb⟩; have H7 := Lib.hid (H6.out.trans (hb.mono H6.out.size)); clear hb HRN) | (refine wpList_store_blk rfl 25 _ _ rfl w7.heap.size 25 zc zc rfl rfl (Blk.new w7 _ _) (by kernel_rfl) rfl (by simp [Value.oneCell']) ?_; intro b5; clear b5))
  rw [Wr.alloc_setRow]
  obtain ⟨w8, hw8⟩ : ∃ w8, w8 = w7.alloc (.cells zc 25) := ⟨_, rfl⟩
  have hb8 : Below w7.heap.size w7 w8 := by rw [hw8]; exact (Below.refl _ _).alloc (Nat.le_refl _) _
  rw [← hw8]
  clear hw8
  have HB8 := Lib.hid (show Below w4.heap.size w4 w8 from H7.out.trans (hb8.mono H7.out.size))
  clear hb8 H6 H7
  obtain ⟨n, hn⟩ : ∃ n, n = en.length := ⟨_, rfl⟩
  have HN := Lib.hid (And.intro hn (show 5 ≤ n by rw [hn, HEN.out]; exact fin_len))
  rw [← hn]
  clear hn
  have hb9 := (Below.refl w8.heap.size w8).alloc (Nat.le_refl _) (.cells #[.int .u8 1, .int .u8 1, .int .u8 2, .int .u8 3, .int .u8 0] 5 (5, 6))
  have HR5 := Lib.hid (read_ok (some ⟨w8.heap.size, 0, none⟩) 5 5 _ [1, 1, 2, 3, 0] rfl (by decide) (by decide) (by decide) (lit_byr (w := w8) (C := #[.int .u8 1, .int .u8 1, .int .u8 2, .int .u8 3, .int .u8 0]) (z := (5, 6)) rfl) fin_five)
  have HB9 := Lib.hid hb9
  have i5 : ¬ (n : Int) < 5 := by have := HN.out.2; omega
  clear hb9
  go_upto_region 9 with (first | (go_at_call 11; refine HR5.out.mono ?_; rintro e w10 ⟨hb, h⟩; obtain ⟨sm, hsm⟩ := fin_sum; rcases h with ⟨hm, _⟩ | ⟨hm, rfl⟩; exact absurd hm (by omega); have H10 := Lib.hid (HB8.out.trans ((HB9.out.trans (hb.mono HB9.out.size)).mono HB8.out.size)); clear hb hm hsm HR5) | (refine wpList_store_blk rfl 25 _ _ rfl w10.heap.size 25 zc zc rfl rfl (Blk.new w10 _ _) (by kernel_rfl) rfl (by simp [Value.oneCell']) ?_; intro b5; clear b5))
  rw [Wr.alloc_setRow]
  clear i5
  obtain ⟨w11, hw11⟩ : ∃ w11, w11 = w10.alloc (.cells zc 25) := ⟨_, rfl⟩
  have hb11 : Below w10.heap.size w10 w11 := by rw [hw11]; exact (Below.refl _ _).alloc (Nat.le_refl _) _
  rw [← hw11]
  clear hw11
  have HBE := Lib.hid (show Below w4.heap.size w4 w11 from H10.out.trans (hb11.mono H10.out.size))
  clear hb11 H10 HB9 HB8
  have hbw : Below w1.heap.size w1 w11 := HB14.out.trans (HBE.out.mono HB14.out.size)
  have hx1 := (H1.out.1.next hbw).range
  have hx4 := (H4.out.1.next HBE.out).range
  have HS := Lib.hid (same_yes w11 p0 none A3 0 c3 ⟨Nat.le_refl _, by simp, Or.inl rfl, fun _ => rfl⟩ (H4.out.2.next HBE.out))
  have HBW := Lib.hid (H1.out.2.trans (hbw.mono H1.out.2.size))
  have hyb : Byt.ByR w11 A2 (en.take 4) := byr_take ((H2.out.2.2.1.next HB24.out).next HBE.out) 4
  obtain ⟨g2, o2, rfl⟩ := byr_some hyb (by rw [List.length_take]; have := HN.out; omega)
  have hcv : (convert 23 9 (.slice (some ⟨g2, o2, none⟩) 4 c2)).run Try.prog w11 = .ok (.string ⟨#[1, 1, 2, 3]⟩) w11 := by
    have ht : en.take 4 = [1, 1, 2, 3] := by rw [HEN.out]; exact fin_take
    rw [ht] at hyb
    have := Byt.conv_src w11 (some ⟨g2, o2, none⟩) 4 c2 [1, 1, 2, 3] (hyb.src (fun e => by cases e)) rfl (by decide)
    rw [Byt.bstr_lit] at this
    exact this
  have i4 : (4 : Int) ≤ (c2 : Nat) := by have := HN.out; have := H2.out.2.1; omega
  have hc0 : c2 ≠ 0 := by omega
  clear hbw hyb H1 H2 H4 HB14 HB24 HBE HN HEN HB5
  go_wp2_with (first | (refine load_midg rfl 25 _ rfl W.heap.size 0 rfl (Pc.mk p0 none 0).cells _ hx1 Try.underlying25 rfl (pcinfo _) ?_) | (refine load_midg rfl 25 _ rfl g4 0 rfl (Pc.mk p0 A3 c3).cells _ hx4 Try.underlying25 rfl (pcinfo _) ?_) | (go_at_call 12; refine HS.out.mono ?_; rintro e w12 ⟨rfl, hb⟩; have HB12 := Lib.hid hb; clear hb))
  go_ret
  exact ⟨rfl, HBW.out.trans (HB12.out.mono HBW.out.size)⟩
end Pk
end Go.Proofs.Ytbgjghgmdhnhbaa
