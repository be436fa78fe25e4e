/-
frames: strings of bytes; the document's Right and Write.
-/
import Derived.Test.YtejehmimidnaiaaFrJ
import Derived.Test.YtejehmimidnaiaaOf
import Derived.Laws.Strings
import Derived.Laws.Strings2
import Derived.Laws.Concat
import Derived.Laws.IdiomStrings
namespace Go.Proofs.Ytejehmimidnaiaa
open Go.RowKit
open Byt
set_option linter.unusedSimpArgs false
set_option linter.unusedVariables false

theorem bstr_app (a b : List Nat) : bstr a ++ bstr b = bstr (a ++ b) := by
  rw [bstr_lit, bstr_lit, bstr_lit, List.map_append]
  exact ByteArray.mk_append_mk _ _
theorem str_index (w : World) (bs : List Nat) (i : Nat) (hi : i < bs.length) (h256 : ∀ x ∈ bs, x < 256) : (Instr.index 9 (.string (bstr bs)) (.int .i64 (i : Int))).run Try.prog w = .ok (.int .u8 (Fr.at' bs i : Nat)) w := by
  have hl := at_lt h256 i
  have he : bs[i] = Fr.at' bs i := by unfold Fr.at'; rw [List.getD_eq_getElem?_getD, List.getElem?_eq_getElem hi]; rfl
  rw [bstr_lit, run_index_string (P := Try.prog) w 9 _ .i64 i Try.underlying9, dif_pos ⟨by omega, by simp [ByteArray.size]; exact hi⟩]
  congr 2
  have : ((⟨(bs.map UInt8.ofNat).toArray⟩ : ByteArray)[(i : Int).toNat]'(by simp [ByteArray.size]; exact hi)) = UInt8.ofNat bs[i] := by
    show ((bs.map UInt8.ofNat).toArray[(i : Int).toNat]'_) = _
    simp
  rw [this, ← he]
  rw [← he] at hl
  simp
  omega
theorem str_slice (w : World) (bs : List Nat) (i j : Nat) (hi : i ≤ j) (hj : j ≤ bs.length) : (Instr.slice 9 (.string (bstr bs)) (some (.int .i64 (i : Int))) (some (.int .i64 (j : Int))) none).run Try.prog w = .ok (.string (bstr ((bs.take j).drop i))) w := by
  rw [run_slice_string (P := Try.prog) w 9 _ .i64 .i64 i j Try.underlying9 (by omega) (by omega) (by rw [bstr_size]; omega)]
  congr 2
  rw [bstr_lit, bstr_lit, Int.toNat_natCast, Int.toNat_natCast, ByteArray.extract_mk]
  congr 2
  rw [List.map_drop, List.map_take, List.drop_take]
theorem str_add (w : World) (a b : List Nat) (ha : a.length ≤ 8000000) (hb : b.length ≤ 8000000) : (Op.stringOp .add (bstr a) (bstr b)).run Try.prog w = .ok (.string (bstr (a ++ b))) w := by
  rw [run_string_add_sum (P := Try.prog) w _ _ (by rw [bstr_size, bstr_size]; omega), bstr_app]
theorem toList_beq (a b : List Nat) (ha : ∀ x ∈ a, x < 256) (hb : ∀ x ∈ b, x < 256) : ((bstr a).toList == (bstr b).toList) = decide (a = b) := by
  by_cases h : a = b
  · subst h; rw [decide_eq_true rfl]; exact beq_self_eq_true _
  · rw [decide_eq_false h, beq_eq_false_iff_ne]
    intro e
    rw [bstr_lit, bstr_lit, ByteArray.toList_mk, ByteArray.toList_mk] at e
    exact h (bstr_inj ha hb (by rw [bstr_lit, bstr_lit, e]))
theorem str_neq (w : World) (a b : List Nat) (ha : ∀ x ∈ a, x < 256) (hb : ∀ x ∈ b, x < 256) : (binOp .neq 9 (.string (bstr a)) (.string (bstr b))).run Try.prog w = .ok (.bool (!decide (a = b))) w := by
  rw [binOp_string_neq, toList_beq a b ha hb]
  rfl
theorem str_eql (w : World) (a b : List Nat) (ha : ∀ x ∈ a, x < 256) (hb : ∀ x ∈ b, x < 256) : (binOp .eql 9 (.string (bstr a)) (.string (bstr b))).run Try.prog w = .ok (.bool (decide (a = b))) w := by
  rw [binOp_string_eql, toList_beq a b ha hb]
  rfl
/-- What a string's bytes are laid in. -/
def capS (bs : List Nat) (w : World) : Nat := grownCap w (bstr bs).size 0 5
def objS (bs : List Nat) (w : World) : Obj := .cells (bytesRow (bstr bs) (capS bs w)) 5 ((bytesRow (bstr bs) (capS bs w)).size, (bytesRow (bstr bs) (capS bs w)).size + 1)
theorem str_bytes (w : World) (bs : List Nat) (n : Nat) (hn : bs.length = n) : (convert 9 22 (.string (bstr bs))).run Try.prog w = .ok (.slice (some ⟨w.heap.size, 0, none⟩) n (capS bs w)) (w.drew.alloc (objS bs w)) := by
  rw [run_bytes_of_string (P := Try.prog) w 9 22 5 (bstr bs) Try.underlying9 Try.underlying22 Try.underlying5]
  rw [← hn, ← bstr_size bs]
  rfl
theorem objS_byr (w : World) (bs : List Nat) (h256 : ∀ x ∈ bs, x < 256) : ByR (w.drew.alloc (objS bs w)) (some ⟨w.heap.size, 0, none⟩) bs := by
  refine Or.inr ⟨w.heap.size, 0, rfl, by simp, fun i x hx => ?_⟩
  unfold objS
  have hh := heap_alloc_new w.drew (Obj.cells (bytesRow (bstr bs) (capS bs w)) 5 ((bytesRow (bstr bs) (capS bs w)).size, (bytesRow (bstr bs) (capS bs w)).size + 1))
  rw [Nat.zero_add, cell_of_row _ w.heap.size _ _ _ _ hh]
  unfold bytesRow
  have hi := (List.getElem?_eq_some_iff.1 hx).1
  have h2 := h256 x (List.mem_of_getElem? hx)
  rw [bstr_lit, Array.getElem?_append_left (by simpa using hi)]
  simp [hx]
  omega
theorem big4_256 (s : Nat) : ∀ x ∈ Fr.big4 s, x < 256 := by intro x hx; unfold Fr.big4 at hx; simp at hx; omega
section
variable (W : World)
theorem rright_any (k : Int) (s : ByteArray) (n : Nat) (hn : s.size = n) : Calls Try.prog 12 #[.agg #[.int .i64 k, .string s]] W fun e W' => e = .returned (.bool (Fr.rightB k n)) ∧ Below W.heap.size W W' := by
  subst hn
  unfold Fr.rightB
  by_cases h1 : 1 ≤ k
  · rw [decide_eq_true h1, Bool.true_and]
    have h1' : (0 : Int) < k := by omega
    by_cases h2 : k ≤ 255
    · rw [decide_eq_true h2, Bool.true_and]
      have h2' : k < 256 := by omega
      clear h1 h2
      go_enter Try.func12, Try.ntmps12
      go_wp2_with fail
      go_ret
      exact ⟨by first | rfl | (congr 3; simp; omega), (Below.refl _ _).alloc (Nat.le_refl _) _⟩
    · rw [decide_eq_false h2, Bool.false_and]
      have h2' : ¬ k < 256 := by omega
      clear h1 h2
      go_enter Try.func12, Try.ntmps12
      go_wp2_with fail
      go_ret
      exact ⟨rfl, (Below.refl _ _).alloc (Nat.le_refl _) _⟩
  · rw [decide_eq_false h1, Bool.false_and]
    have h1' : ¬ (0 : Int) < k := by omega
    clear h1
    go_enter Try.func12, Try.ntmps12
    go_wp2_with fail
    go_ret
    exact ⟨rfl, (Below.refl _ _).alloc (Nat.le_refl _) _⟩
set_option maxHeartbeats 2000000 in
set_option maxRecDepth 20000 in
theorem rwrite_any (k : Nat) (hk : k < 256) (d : List Nat) (hd : d.length ≤ 60000) (h256 : ∀ x ∈ d, x < 256) : Calls Try.prog 14 #[.agg #[.int .i64 (k : Nat), .string (bstr d)]] W fun e W' => e = .returned (.string (bstr (Fr.frame k d))) ∧ Below W.heap.size W W' := by
  obtain ⟨n, hn⟩ : ∃ n, d.length = n := ⟨_, rfl⟩
  have hsz : (bstr d).size = n := by rw [bstr_size]; exact hn
  have hcv := fun w => str_bytes w d n hn
  have HN := Lib.hid hn
  have HSZ := Lib.hid hsz
  have HD := Lib.hid hd
  have H256 := Lib.hid h256
  have HK := Lib.hid hk
  clear hd hn h256 hk
  go_enter Try.func14, Try.ntmps14
  go_upto_region 2 with fail
  obtain ⟨W1, hW1⟩ : ∃ W1, W1 = W.alloc (.cells #[.int .i64 (k : Nat), .string (bstr d)] 27) := ⟨_, rfl⟩
  have hb1 : Below W.heap.size W W1 := by rw [hW1]; exact (Below.refl _ _).alloc (Nat.le_refl _) _
  have HX1 := Lib.hid (show Blk W1 W.heap.size 27 #[.int .i64 (k : Nat), .string (bstr d)] by rw [hW1]; exact Blk.new _ _ _)
  rw [← hW1]
  clear hW1
  have g0 : W1.cell? ⟨W.heap.size, 0, none⟩ = some (.int .i64 (k : Nat)) := HX1.out.cell 0
  have g1 : W1.cell? ⟨W.heap.size, 1, none⟩ = some (.string (bstr d)) := HX1.out.cell 1
  obtain ⟨W2, hW2⟩ : ∃ W2, W2 = W1.alloc (.cells #[.int .u8 (k : Nat)] 5) := ⟨_, rfl⟩
  have hb2 : Below W1.heap.size W1 W2 := by rw [hW2]; exact (Below.refl _ _).alloc (Nat.le_refl _) _
  have hk1 : (k : Int) % 256 = (k : Nat) := by have := HK.out; omega
  have hO2 : W2.ownsRow W1.heap.size 5 1 (.slice (some ⟨W1.heap.size, 0, none⟩) 1 1) 1 (u8s [k]) := by
    rw [hW2]
    exact World.ownsRow_lit (base := W1.heap.size) (size := 1) (e := 5) W1 #[.int .u8 (k : Nat)] 1 (Nat.le_refl _) (by unfold maxLen; omega) rfl
  have hb3 : Below W2.heap.size W2 (W2.drew.alloc (objS d W2)) := ((Below.refl W2.heap.size W2).drew).alloc (Nat.le_refl _) _
  have HO3 := Lib.hid (ownG_next hO2 hb3)
  have hS3 := (objS_byr W2 d H256.out).src (fun e => by cases e)
  rw [HN.out] at hS3
  have hs2 : W2.heap.size = W1.heap.size + 1 := by rw [hW2]; simp
  have hsz3 : W1.heap.size ≤ (W2.drew.alloc (objS d W2)).heap.size := Nat.le_trans hb2.size hb3.size
  have hB3 := hb1.trans ((hb2.trans (hb3.mono hb2.size)).mono hb1.size)
  have HX3 := Lib.hid ((HX1.out.next hb2).next hb3)
  have HO3' := HO3.out
  obtain ⟨cs, hcs⟩ : ∃ cs, cs = capS d W2 := ⟨_, rfl⟩
  obtain ⟨W3, hW3⟩ : ∃ W3, W3 = W2.drew.alloc (objS d W2) := ⟨_, rfl⟩
  have hcv2 : (convert 9 22 (.string (bstr d))).run Try.prog W2 = .ok (.slice (some ⟨W1.heap.size + 1, 0, none⟩) n cs) W3 := by rw [hcv W2, hs2, hcs, hW3]
  rw [← hW3] at HO3' hS3 hsz3 hB3 HX3
  rw [hs2] at hS3
  have g1' : W2.cell? ⟨W.heap.size, 1, none⟩ = some (.string (bstr d)) := (HX1.out.next hb2).cell 1
  rw [hW2] at hcv2 g1'
  have HOO := Lib.hid HO3'
  have HSS := Lib.hid hS3
  have HSZ3 := Lib.hid hsz3
  have HB3 := Lib.hid hB3
  have HBW1 := Lib.hid (show W.heap.size ≤ W1.heap.size from hb1.size)
  have HKD := Lib.hid (show ∀ x ∈ k :: d, x < 256 from fun x hx => (List.mem_cons.1 hx).elim (fun e => e ▸ HK.out) (H256.out x))
  obtain ⟨sm, hsm⟩ : ∃ sm, sm = Crc.sum (k :: d) := ⟨_, rfl⟩
  have HSM := Lib.hid hsm
  have HS32 := Lib.hid (show sm < 4294967296 by rw [hsm]; exact Crc.sum_lt HKD.out)
  obtain ⟨nd, hnd⟩ : ∃ nd, (k :: d).length = nd := ⟨_, rfl⟩
  have HND := Lib.hid hnd
  clear hsm hnd
  clear hcv hb1 hb2 hb3 hO2 hs2 hsz3 hB3 HO3 HO3' hS3 hW2 hW3 hcs HX1
  go_upto_region 3 with (first
    | (at_builtin; refine wpList_append_u8 _ rfl _ _ rfl W1.heap.size _ 1 (u8s [k]) rfl HOO.out (some ⟨W1.heap.size + 1, 0, none⟩) n cs (u8s d) rfl (by rw [u8s_len]; exact HN.out) HSS.out (u8s_one _) (by have := HD.out; have := HN.out; omega) HSZ3.out ?_; intro v4 w4 hown hgrow hloc; have HX4 := Lib.hid (show Blk w4 W.heap.size 27 #[.int .i64 (k : Nat), .string (bstr d)] from (hgrow.block _ HX3.out.lt (own_ne HOO.out HX3.out (by decide))).trans HX3.out); have HB4 := Lib.hid (ownG_below hgrow HOO.out HBW1.out HB3.out.size HB3.out); have hown : w4.ownsRow W1.heap.size 5 1 v4 (k :: d).length (u8s (k :: d)) := (by rw [← u8s_app] at hown; rw [List.length_cons, HN.out, Nat.add_comm]; exact hown); obtain ⟨A4, c4, rfl, -, hr4, -⟩ := own_byr hown; have HOF := Lib.hid (rof_any (.slice A4 (k :: d).length c4) (k :: d) w4 (bytes_byr hr4 HKD.out) (by rw [List.length_cons]; have := HD.out; omega)); rw [← HSM.out, HND.out] at HOF; rw [HND.out]; clear hown hgrow hloc hr4)
    | (go_at_call 18; refine HOF.out.mono ?_; rintro e w5 ⟨rfl, rfl⟩; clear HOF))
  have hw64 : IntKind.u64.wrap (sm : Int) = (sm : Nat) := by have := HS32.out; rw [IntKind.wrap_u64]; omega
  rw [hw64]
  clear hw64 g0 g1 g1' hk1
  have s32 := HS32.out
  obtain ⟨C1, hC1⟩ : ∃ C1 : Array Value, C1 = #[.int .u8 ((sm : Int) / 16777216), .int .u8 ((sm : Int) / 65536 % 256), .int .u8 ((sm : Int) / 256 % 256), .int .u8 ((sm : Int) % 256)] := ⟨_, rfl⟩
  have hl1 : C1.toList = u8s (Fr.big4 sm) := by rw [hC1]; simp [u8s, Fr.big4]; omega
  have hB5 := Blk.new w4 5 C1
  have hb45 : Below w4.heap.size w4 (w4.alloc (.cells C1 5)) := (Below.refl _ _).alloc (Nat.le_refl _) _
  have hk5 := conv_src (w4.alloc (.cells C1 5)) (some ⟨w4.heap.size, 0, none⟩) 4 4 (Fr.big4 sm) (by have := src_row hB5 4; rwa [hl1] at this) rfl (big4_256 sm)
  obtain ⟨fs, hfs⟩ : ∃ fs, fs = Fr.big4 sm := ⟨_, rfl⟩
  rw [← hfs] at hk5
  have HFS := Lib.hid hfs
  have HX5 := Lib.hid (HX4.out.next hb45)
  have HB5 := Lib.hid (HB4.out.trans (hb45.mono HB4.out.size))
  have hsz5 : (w4.alloc (.cells C1 5)).heap.size = w4.heap.size + 1 := by simp
  obtain ⟨w5, hw5⟩ : ∃ w5, w5 = w4.alloc (.cells C1 5) := ⟨_, rfl⟩
  rw [← hw5] at HX5 HB5 hsz5
  have HW5 := Lib.hid hw5
  have HSZ5 := Lib.hid hsz5
  rw [hC1] at hk5 HW5
  clear hl1 hB5 hb45 hfs hw5 hsz5 hC1
  go_upto_region 4 with fail
  rw [← HW5.out]
  clear hk5
  have g0 : w5.cell? ⟨W.heap.size, 0, none⟩ = some (.int .i64 (k : Nat)) := HX5.out.cell 0
  have hk1 : (k : Int) % 256 = (k : Nat) := by have := HK.out; omega
  have hn6 : (n : Int) ≤ 60000 := by have := HD.out; have := HN.out; omega
  have hn0 : (0 : Int) ≤ (n : Nat) := by omega
  clear s32
  have hl2 : (#[Value.int .u8 (k : Nat), .int .u8 ((n : Int) / 256), .int .u8 ((n : Int) % 256)] : Array Value).toList = u8s [k, n / 256 % 256, n % 256] := by simp [u8s]; omega
  have hB6 := Blk.new w5 5 #[.int .u8 (k : Nat), .int .u8 ((n : Int) / 256), .int .u8 ((n : Int) % 256)]
  have hb56 : Below w5.heap.size w5 (w5.alloc (.cells #[.int .u8 (k : Nat), .int .u8 ((n : Int) / 256), .int .u8 ((n : Int) % 256)] 5)) := (Below.refl _ _).alloc (Nat.le_refl _) _
  have h3lt : ∀ x ∈ [k, n / 256 % 256, n % 256], x < 256 := by intro x hx; have := HK.out; simp at hx; omega
  have hk6 := conv_src (w5.alloc (.cells #[.int .u8 (k : Nat), .int .u8 ((n : Int) / 256), .int .u8 ((n : Int) % 256)] 5)) (some ⟨w5.heap.size, 0, none⟩) 3 3 [k, n / 256 % 256, n % 256] (by have := src_row hB6 3; rwa [hl2] at this) rfl h3lt
  obtain ⟨h3, hh3⟩ : ∃ h3, h3 = [k, n / 256 % 256, n % 256] := ⟨_, rfl⟩
  rw [← hh3] at hk6
  have g1 : (w5.alloc (.cells #[.int .u8 (k : Nat), .int .u8 ((n : Int) / 256), .int .u8 ((n : Int) % 256)] 5)).cell? ⟨W.heap.size, 1, none⟩ = some (.string (bstr d)) := (HX5.out.next hb56).cell 1
  have h3l : h3.length = 3 := by rw [hh3]; rfl
  have fsl : fs.length = 4 := by rw [HFS.out]; rfl
  obtain ⟨t1, ht1⟩ : ∃ t, t = [90] ++ h3 := ⟨_, rfl⟩
  obtain ⟨t2, ht2⟩ : ∃ t, t = t1 ++ d := ⟨_, rfl⟩
  obtain ⟨t3, ht3⟩ : ∃ t, t = t2 ++ fs := ⟨_, rfl⟩
  obtain ⟨t4, ht4⟩ : ∃ t, t = t3 ++ [165] := ⟨_, rfl⟩
  have hd := HD.out
  have l1 : t1.length = 4 := by rw [ht1, List.length_append, h3l]; rfl
  have l2 : t2.length ≤ 60004 := by rw [ht2, List.length_append, l1]; omega
  have l3 : t3.length ≤ 60008 := by rw [ht3, List.length_append, fsl]; omega
  have a1 : ∀ w, (Op.stringOp .add ⟨#[90]⟩ (bstr h3)).run Try.prog w = .ok (.string (bstr t1)) w := fun w => by
    rw [show (⟨#[90]⟩ : ByteArray) = bstr [90] by rw [bstr_lit]; rfl, ht1]
    exact str_add w [90] h3 (by decide) (by omega)
  have a2 : ∀ w, (Op.stringOp .add (bstr t1) (bstr d)).run Try.prog w = .ok (.string (bstr t2)) w := fun w => by rw [ht2]; exact str_add w t1 d (by omega) (by omega)
  have a3 : ∀ w, (Op.stringOp .add (bstr t2) (bstr fs)).run Try.prog w = .ok (.string (bstr t3)) w := fun w => by rw [ht3]; exact str_add w t2 fs (by omega) (by omega)
  have a4 : ∀ w, (Op.stringOp .add (bstr t3) ⟨#[165]⟩).run Try.prog w = .ok (.string (bstr t4)) w := fun w => by
    rw [show (⟨#[165]⟩ : ByteArray) = bstr [165] by rw [bstr_lit]; rfl, ht4]
    exact str_add w t3 [165] (by omega) (by decide)
  have HFIN := Lib.hid (show t4 = Fr.frame k d by rw [ht4, ht3, ht2, ht1, hh3, HFS.out, HSM.out]; unfold Fr.frame; rw [HN.out]; rfl)
  have HB6 := Lib.hid (HB5.out.trans (hb56.mono HB5.out.size))
  clear hl2 hB6 hb56 h3lt hh3 h3l fsl ht1 ht2 ht3 ht4 hd l1 l2 l3
  go_wp2_with fail
  go_ret
  exact ⟨by rw [← HFIN.out]; rfl, HB6.out⟩
end
end Go.Proofs.Ytejehmimidnaiaa
