/-
The document's event of bytes: Read.
The document's bytes of an op.
-/
import Derived.Test.YteplplmfepamdaaORef3
import Derived.Test.YteplplmfepamdaaOOpen
import Derived.Test.YteplplmfepamdaaLRef
namespace Go.Proofs.Yteplplmfepamdaa
open Go.RowKit
set_option linter.unusedSimpArgs false
set_option linter.unusedVariables false
attribute [local go_sem] Tot.run_store_float
set_option maxRecDepth 20000 in
set_option maxHeartbeats 8000000 in
theorem refread6_any (A : Option Addr) (c : Nat) (bs : List Nat) (hlen : bs.length ≤ 140737488355328) (hc : bs.length ≤ c) (hby : ∀ x ∈ bs, x < 256) (W : World) (hb : ByR W A bs) :
    Calls Try.prog 9 #[.slice A bs.length c] W fun r W' => ∃ (v : Array Value) (ok : Bool), r = .returned (.tuple #[.agg v, .bool ok]) ∧ Below W.heap.size W W' ∧ ((ok = true ∧ ∃ x, evP bs = .ok (x, []) ∧ v = x.item.toArray) ∨ (ok = false ∧ (∀ m, evP bs ≠ .ok (m, [])) ∧ v = #[.int .u64 0, .int .i64 0, .int .u32 0, .int .i64 0, .int .i64 0, .int .u32 0, .int .u32 0, .int .u32 0, .int .u32 0, .int .u32 0, .int .u32 0, .int .u32 0, .int .u32 0, .int .u32 0, .int .u32 0, .int .u32 0, .int .u32 0, .int .i64 0, .int .i64 0, .int .i64 0, .int .u64 0])) := by
  have b1 := (Below.refl W.heap.size W).alloc (Nat.le_refl _) (.cells #[.int .u64 0, .int .i64 0, .int .u32 0, .int .i64 0, .int .i64 0, .int .u32 0, .int .u32 0, .int .u32 0, .int .u32 0, .int .u32 0, .int .u32 0, .int .u32 0, .int .u32 0, .int .u32 0, .int .u32 0, .int .u32 0, .int .u32 0, .int .i64 0, .int .i64 0, .int .i64 0, .int .u64 0] 37)
  have hg := (Blk.new W 37 #[.int .u64 0, .int .i64 0, .int .u32 0, .int .i64 0, .int .i64 0, .int .u32 0, .int .u32 0, .int .u32 0, .int .u32 0, .int .u32 0, .int .u32 0, .int .u32 0, .int .u32 0, .int .u32 0, .int .u32 0, .int .u32 0, .int .u32 0, .int .i64 0, .int .i64 0, .int .i64 0, .int .u64 0]).alloc (.cells #[.slice A bs.length c, .int .i64 0, .int .i64 0] 73)
  have hsz : (W.alloc (.cells #[.int .u64 0, .int .i64 0, .int .u32 0, .int .i64 0, .int .i64 0, .int .u32 0, .int .u32 0, .int .u32 0, .int .u32 0, .int .u32 0, .int .u32 0, .int .u32 0, .int .u32 0, .int .u32 0, .int .u32 0, .int .u32 0, .int .u32 0, .int .i64 0, .int .i64 0, .int .i64 0, .int .u64 0] 37)).heap.size = W.heap.size + 1 := by simp
  have b2 := b1.alloc (by rw [hsz]; omega) (.cells #[.slice A bs.length c, .int .i64 0, .int .i64 0] 73)
  have hk := Blk.new (W.alloc (.cells #[.int .u64 0, .int .i64 0, .int .u32 0, .int .i64 0, .int .i64 0, .int .u32 0, .int .u32 0, .int .u32 0, .int .u32 0, .int .u32 0, .int .u32 0, .int .u32 0, .int .u32 0, .int .u32 0, .int .u32 0, .int .u32 0, .int .u32 0, .int .i64 0, .int .i64 0, .int .i64 0, .int .u64 0] 37)) 73 #[.slice A bs.length c, .int .i64 0, .int .i64 0]
  rw [hsz] at hk
  obtain ⟨w0, hw0⟩ : ∃ w0, w0 = (W.alloc (.cells #[.int .u64 0, .int .i64 0, .int .u32 0, .int .i64 0, .int .i64 0, .int .u32 0, .int .u32 0, .int .u32 0, .int .u32 0, .int .u32 0, .int .u32 0, .int .u32 0, .int .u32 0, .int .u32 0, .int .u32 0, .int .u32 0, .int .u32 0, .int .i64 0, .int .i64 0, .int .i64 0, .int .u64 0] 37)).alloc (.cells #[.slice A bs.length c, .int .i64 0, .int .i64 0] 73) := ⟨_, rfl⟩
  rw [← hw0] at hg hk b2
  have HS := Lib.hid (show RS w0 (W.heap.size + 1) A c bs 0 0 from ⟨hk, by
    by_cases hbs : bs = []
    · exact Or.inl hbs
    · obtain ⟨b, q, e, h1, h2⟩ := (hb.next b2).resolve_left hbs
      obtain ⟨b', q', e', h1', _⟩ := hb.resolve_left hbs
      rw [e] at e'
      cases e'
      exact Or.inr ⟨b, q, e, h1, by omega, h2⟩, Nat.zero_le _⟩)
  have HG := Lib.hid hg
  have HB := Lib.hid b2
  clear b1 hg hsz b2 hk hb
  go_enter Try.func9, Try.ntmps9
  go_upto_region 2 with fail
  rw [← hw0]
  clear hw0
  go_wp2_with fail
  refine (refget6_any (W.heap.size + 1) c A bs hlen hc hby 0 0 w0 HS.out).mono ?_
  rintro r w1 ⟨x, p1, e1, rfl, hS, hO, hP⟩
  have HP := Lib.hid hP
  have HB1 := Lib.hid (HB.out.trans (hO.belowB (B := W.heap.size) (by omega) HB.out.size))
  have HG1 := Lib.hid (hO.blk HG.out (by omega))
  have HS1 := Lib.hid hS
  have hn0 := Blk.new w1 37 #[.int .u64 0, .int .i64 0, .int .u32 0, .int .i64 0, .int .i64 0, .int .u32 0, .int .u32 0, .int .u32 0, .int .u32 0, .int .u32 0, .int .u32 0, .int .u32 0, .int .u32 0, .int .u32 0, .int .u32 0, .int .u32 0, .int .u32 0, .int .i64 0, .int .i64 0, .int .i64 0, .int .u64 0]
  clear hP hO hS HS HB HG
  go_upto_region 3 with (first | (refine wpList_store_blk rfl 37 _ _ rfl w1.heap.size 37 #[.int .u64 0, .int .i64 0, .int .u32 0, .int .i64 0, .int .i64 0, .int .u32 0, .int .u32 0, .int .u32 0, .int .u32 0, .int .u32 0, .int .u32 0, .int .u32 0, .int .u32 0, .int .u32 0, .int .u32 0, .int .u32 0, .int .u32 0, .int .i64 0, .int .i64 0, .int .i64 0, .int .u64 0] x.item.toArray rfl rfl hn0 (einfoA6 _) (item_siz _) (item_one _) ?_; intro hrow))
  have hbn : Below w1.heap.size w1 ((w1.alloc (.cells #[.int .u64 0, .int .i64 0, .int .u32 0, .int .i64 0, .int .i64 0, .int .u32 0, .int .u32 0, .int .u32 0, .int .u32 0, .int .u32 0, .int .u32 0, .int .u32 0, .int .u32 0, .int .u32 0, .int .u32 0, .int .u32 0, .int .u32 0, .int .i64 0, .int .i64 0, .int .i64 0, .int .u64 0] 37)).setRow w1.heap.size x.item.toArray) := below_setRow ((Below.refl _ _).alloc (Nat.le_refl _) _) (Nat.le_refl _) _
  obtain ⟨x2, hx2⟩ : ∃ x2, x2 = (w1.alloc (.cells #[.int .u64 0, .int .i64 0, .int .u32 0, .int .i64 0, .int .i64 0, .int .u32 0, .int .u32 0, .int .u32 0, .int .u32 0, .int .u32 0, .int .u32 0, .int .u32 0, .int .u32 0, .int .u32 0, .int .u32 0, .int .u32 0, .int .u32 0, .int .i64 0, .int .i64 0, .int .i64 0, .int .u64 0] 37)).setRow w1.heap.size x.item.toArray := ⟨_, rfl⟩
  rw [← hx2] at hrow hbn ⊢
  have HR := Lib.hid hrow
  have HB2 := Lib.hid (HB1.out.trans (hbn.mono HB1.out.size))
  have HG2 := Lib.hid (HG1.out.next hbn)
  have HS2 := Lib.hid (HS1.out.next hbn)
  clear hx2 hrow hbn hn0 HG1 HB1 HS1
  go_wp2_with fail
  refine (refend_any (W.heap.size + 1) c A bs p1 e1 x2 HS2.out).mono ?_
  rintro r w3 ⟨z, rfl, hb, hz⟩
  have HZ := Lib.hid hz
  have HB3 := Lib.hid (HB2.out.trans (hb.mono HB2.out.size))
  have HG3 := Lib.hid (HG2.out.next hb)
  have HR3 := Lib.hid (HR.out.next hb)
  clear hb hz HB2 HG2 HS2 HR
  have rgx := HR3.out.range
  have bg := HG3.out
  by_cases hz0 : z = 0
  · have f1 : (z != 0) = false := by simpa using hz0
    obtain ⟨he1, hdr⟩ := HZ.out.1 hz0
    obtain ⟨_, x', hx', hxx⟩ := HP.out.ok he1
    rw [List.drop_zero, hdr] at hx'
    have HX := Lib.hid (show evP bs = .ok (x, []) from by rw [hxx]; exact hx')
    clear hz0 he1 hdr hx' hxx
    go_wp2_with (first | (refine wpList_load_midg (by rfl) 37 _ rfl _ _ rfl (Ev.item x) _ rgx Try.underlying37 rfl (einfoL6 _) ?_) | (refine wpList_store_blk rfl 37 _ _ rfl W.heap.size 37 #[.int .u64 0, .int .i64 0, .int .u32 0, .int .i64 0, .int .i64 0, .int .u32 0, .int .u32 0, .int .u32 0, .int .u32 0, .int .u32 0, .int .u32 0, .int .u32 0, .int .u32 0, .int .u32 0, .int .u32 0, .int .u32 0, .int .u32 0, .int .i64 0, .int .i64 0, .int .i64 0, .int .u64 0] x.item.toArray rfl rfl bg (einfoA6 _) (item_siz x) (item_one x) ?_; intro hrow))
    refine bodyPost_row2 (t := 37) x.item (.bool true) rfl rfl rfl rfl Try.underlying37 rfl (einfoL6 _) hrow ?_
    exact ⟨_, true, rfl, below_setRow HB3.out (Nat.le_refl _) _, Or.inl ⟨rfl, x, HX.out, rfl⟩⟩
  · have f1 : (z != 0) = true := by simpa using hz0
    have HN := Lib.hid (show ∀ m, evP bs ≠ .ok (m, []) from fun m hm => by
      have h2 := HP.out.2 rfl
      rw [List.drop_zero, hm] at h2
      exact hz0 (HZ.out.2 ⟨h2.2.1, h2.2.2⟩))
    clear hz0
    go_wp2_with (first | (refine wpList_store_blk rfl 37 _ _ rfl W.heap.size 37 #[.int .u64 0, .int .i64 0, .int .u32 0, .int .i64 0, .int .i64 0, .int .u32 0, .int .u32 0, .int .u32 0, .int .u32 0, .int .u32 0, .int .u32 0, .int .u32 0, .int .u32 0, .int .u32 0, .int .u32 0, .int .u32 0, .int .u32 0, .int .i64 0, .int .i64 0, .int .i64 0, .int .u64 0] #[.int .u64 0, .int .i64 0, .int .u32 0, .int .i64 0, .int .i64 0, .int .u32 0, .int .u32 0, .int .u32 0, .int .u32 0, .int .u32 0, .int .u32 0, .int .u32 0, .int .u32 0, .int .u32 0, .int .u32 0, .int .u32 0, .int .u32 0, .int .i64 0, .int .i64 0, .int .i64 0, .int .u64 0] rfl rfl bg (by kernel_rfl) rfl (by kernel_rfl) ?_; intro hrow))
    refine bodyPost_row2 (t := 37) (zLabL ++ zOpRL) (.bool false) rfl rfl rfl rfl Try.underlying37 rfl (by kernel_rfl) hrow ?_
    exact ⟨_, false, rfl, below_setRow HB3.out (Nat.le_refl _) _, Or.inr ⟨rfl, HN.out, rfl⟩⟩
end Go.Proofs.Yteplplmfepamdaa
namespace Go.Proofs.Yteplplmfepamdaa
open Go.RowKit
set_option linter.unusedSimpArgs false
set_option linter.unusedVariables false
theorem encO_cases (o : OpR) : encO o = ((enc (wordN o.k) ++ (if hasS o.k then enc (wordN o.s) else [])) ++ (if hasQ o.k then enc (zig o.q) else [])) ++ (if hasP o.k then encF o.p else []) := by unfold encO; simp only [List.append_assoc]
set_option maxRecDepth 20000 in
set_option maxHeartbeats 8000000 in
theorem rwriteop6_any (o : OpR) (hok : o.Ok) (W : World) :
    Calls Try.prog 37 #[.agg o.plain.toArray] W fun e W' => ∃ v, e = .returned v ∧ Made W W' v (encO o) := by
  have hb0 := (Below.refl W.heap.size W).alloc (Nat.le_refl _) (.cells o.plain.toArray 35)
  have hbk := Blk.new W 35 o.plain.toArray
  have hsz : (W.alloc (.cells o.plain.toArray 35)).heap.size = W.heap.size + 1 := by simp
  have HLE := Lib.hid (show (enc (wordN o.k)).length ≤ 10 ∧ (enc (wordN o.s)).length ≤ 10 ∧ (enc (zig o.q)).length ≤ 10 ∧ (encF o.p).length ≤ 10 from ⟨enc_len _ (wordN_lt _), enc_len _ (wordN_lt _), enc_len _ (zig_lt hok.q1 hok.q2), by unfold encF; rw [be8_len]; omega⟩)
  have HOK := Lib.hid hok
  have w1 := wrap_word o.k
  have w2 := wrap_word o.s
  have cb := Tot.call_frombits
  have HE := Lib.hid (encO_cases o)
  go_enter Try.func37, Try.ntmps37
  go_upto_region 1 with fail
  obtain ⟨x1, hx1⟩ : ∃ x1, x1 = W.alloc (.cells o.plain.toArray 35) := ⟨_, rfl⟩
  rw [← hx1] at hb0 hbk hsz ⊢
  have HB := Lib.hid hb0
  have HQ := Lib.hid (show ∀ w', Below x1.heap.size x1 w' → w'.cell? ⟨W.heap.size, 0, none⟩ = some (.int .i64 o.k) ∧ w'.cell? ⟨W.heap.size, 1, none⟩ = some (.int .i64 o.s) ∧ w'.cell? ⟨W.heap.size, 2, none⟩ = some (.int .i64 o.q) ∧ w'.cell? ⟨W.heap.size, 3, none⟩ = some (.int .u64 (o.p : Nat)) from fun w' hb => plain_all (hbk.next hb))
  clear hx1 hb0 hbk hsz hok
  obtain ⟨q0, q1, q2, q3⟩ := HQ.out x1 (Below.refl _ _)
  go_upto_region 2 with (first | (go_at_call 59; refine (rfnum_any (wordN o.k) _ (wordN_lt _)).mono ?_; rintro e y1 ⟨v1, rfl, hM⟩; have HO1 := Lib.hid (Own8.first hM); clear hM q0 q1 q2 q3))
  obtain ⟨q0, q1, q2, q3⟩ := HQ.out y1 HO1.out.2
  have hcs : o.k = 4 ∨ o.k = 6 ∨ o.k = 1 ∨ o.k = 2 ∨ o.k = 5 ∨ (o.k ≠ 4 ∧ o.k ≠ 6 ∧ o.k ≠ 1 ∧ o.k ≠ 2 ∧ o.k ≠ 5) := by omega
  rcases hcs with h | h | h | h | h | h
  · have f4 : (o.k == 4) = true := by rw [h]; rfl
    have g4 : (o.k != 4) = false := by rw [h]; rfl
    have f6 : (o.k == 6) = false := by rw [h]; rfl
    have g6 : (o.k != 6) = true := by rw [h]; rfl
    have f1 : (o.k == 1) = false := by rw [h]; rfl
    have g1 : (o.k != 1) = true := by rw [h]; rfl
    have f2 : (o.k == 2) = false := by rw [h]; rfl
    have g2 : (o.k != 2) = true := by rw [h]; rfl
    have f5 : (o.k == 5) = false := by rw [h]; rfl
    have g5 : (o.k != 5) = true := by rw [h]; rfl
    have e1 : hasS o.k = false := by rw [h]; rfl
    have e2 : hasQ o.k = false := by rw [h]; rfl
    have e3 : hasP o.k = false := by rw [h]; rfl
    have HR := Lib.hid (show encO o = enc (wordN o.k) from by rw [HE.out, e1, e2, e3]; simp only [if_true, if_false, Bool.false_eq_true, List.append_nil])
    clear e1 e2 e3 h HE
    go_wp2_with fail
    go_ret
    refine ⟨v1, rfl, ?_, HB.out.trans (HO1.out.2.mono HB.out.size)⟩
    rw [HR.out]
    exact own_le HO1.out.1 HB.out.size
  · have f4 : (o.k == 4) = false := by rw [h]; rfl
    have g4 : (o.k != 4) = true := by rw [h]; rfl
    have f6 : (o.k == 6) = true := by rw [h]; rfl
    have g6 : (o.k != 6) = false := by rw [h]; rfl
    have f1 : (o.k == 1) = false := by rw [h]; rfl
    have g1 : (o.k != 1) = true := by rw [h]; rfl
    have f2 : (o.k == 2) = false := by rw [h]; rfl
    have g2 : (o.k != 2) = true := by rw [h]; rfl
    have f5 : (o.k == 5) = false := by rw [h]; rfl
    have g5 : (o.k != 5) = true := by rw [h]; rfl
    have e1 : hasS o.k = true := by rw [h]; rfl
    have e2 : hasQ o.k = false := by rw [h]; rfl
    have e3 : hasP o.k = true := by rw [h]; rfl
    have HR := Lib.hid (show encO o = enc (wordN o.k) ++ enc (wordN o.s) ++ encF o.p from by rw [HE.out, e1, e2, e3]; simp only [if_true, if_false, Bool.false_eq_true, List.append_nil])
    clear e1 e2 e3 h HE
    go_wp2_with (first | (go_at_call 59; refine (rfnum_any (wordN o.s) _ (wordN_lt _)).mono ?_; rintro e z2 ⟨u2, rfl, hM⟩; obtain ⟨A2, c2, rfl, hS2⟩ := src_own hM.1; have HM2 := Lib.hid hM; have HS2 := Lib.hid hS2; clear hM hS2 q0 q1 q2 q3) | (refine wpList_append_u8 _ rfl _ _ rfl x1.heap.size v1 (enc (wordN o.k)).length (u8s (enc (wordN o.k))) rfl (own_next HO1.out.1 HM2.out.2 HO1.out.2.size) A2 (enc (wordN o.s)).length c2 (u8s (enc (wordN o.s))) rfl (u8s_len _) HS2.out (u8s_one _) (by (try simp only [List.length_append]); obtain ⟨_, _, _, _⟩ := HLE.out; omega) (Nat.le_trans HO1.out.2.size HM2.out.2.size) ?_; intro v2 y2 hown hgrow _; have HO2 := Lib.hid (Own8.more rfl HO1.out HM2.out rfl hown hgrow); clear hown hgrow HO1 HM2 HS2; obtain ⟨q0, q1, q2, q3⟩ := HQ.out y2 HO2.out.2) | (go_at_call 62; refine (rffloat_any o.p _ HOK.out.p).mono ?_; rintro e z3 ⟨u3, rfl, hM⟩; obtain ⟨A3, c3, rfl, hS3⟩ := src_own hM.1; have HM3 := Lib.hid hM; have HS3 := Lib.hid hS3; clear hM hS3 q0 q1 q2 q3) | (refine wpList_append_u8 _ rfl _ _ rfl x1.heap.size v2 (enc (wordN o.k) ++ enc (wordN o.s)).length (u8s (enc (wordN o.k) ++ enc (wordN o.s))) rfl (own_next HO2.out.1 HM3.out.2 HO2.out.2.size) A3 (encF o.p).length c3 (u8s (encF o.p)) rfl (u8s_len _) HS3.out (u8s_one _) (by (try simp only [List.length_append]); obtain ⟨_, _, _, _⟩ := HLE.out; omega) (Nat.le_trans HO2.out.2.size HM3.out.2.size) ?_; intro v3 y3 hown hgrow _; have HO3 := Lib.hid (Own8.more rfl HO2.out HM3.out rfl hown hgrow); clear hown hgrow HO2 HM3 HS3; obtain ⟨q0, q1, q2, q3⟩ := HQ.out y3 HO3.out.2))
    go_ret
    refine ⟨v3, rfl, ?_, HB.out.trans (HO3.out.2.mono HB.out.size)⟩
    rw [HR.out]
    exact own_le HO3.out.1 HB.out.size
  · have f4 : (o.k == 4) = false := by rw [h]; rfl
    have g4 : (o.k != 4) = true := by rw [h]; rfl
    have f6 : (o.k == 6) = false := by rw [h]; rfl
    have g6 : (o.k != 6) = true := by rw [h]; rfl
    have f1 : (o.k == 1) = true := by rw [h]; rfl
    have g1 : (o.k != 1) = false := by rw [h]; rfl
    have f2 : (o.k == 2) = false := by rw [h]; rfl
    have g2 : (o.k != 2) = true := by rw [h]; rfl
    have f5 : (o.k == 5) = false := by rw [h]; rfl
    have g5 : (o.k != 5) = true := by rw [h]; rfl
    have e1 : hasS o.k = true := by rw [h]; rfl
    have e2 : hasQ o.k = true := by rw [h]; rfl
    have e3 : hasP o.k = false := by rw [h]; rfl
    have HR := Lib.hid (show encO o = enc (wordN o.k) ++ enc (wordN o.s) ++ enc (zig o.q) from by rw [HE.out, e1, e2, e3]; simp only [if_true, if_false, Bool.false_eq_true, List.append_nil])
    clear e1 e2 e3 h HE
    go_wp2_with (first | (go_at_call 59; refine (rfnum_any (wordN o.s) _ (wordN_lt _)).mono ?_; rintro e z2 ⟨u2, rfl, hM⟩; obtain ⟨A2, c2, rfl, hS2⟩ := src_own hM.1; have HM2 := Lib.hid hM; have HS2 := Lib.hid hS2; clear hM hS2 q0 q1 q2 q3) | (refine wpList_append_u8 _ rfl _ _ rfl x1.heap.size v1 (enc (wordN o.k)).length (u8s (enc (wordN o.k))) rfl (own_next HO1.out.1 HM2.out.2 HO1.out.2.size) A2 (enc (wordN o.s)).length c2 (u8s (enc (wordN o.s))) rfl (u8s_len _) HS2.out (u8s_one _) (by (try simp only [List.length_append]); obtain ⟨_, _, _, _⟩ := HLE.out; omega) (Nat.le_trans HO1.out.2.size HM2.out.2.size) ?_; intro v2 y2 hown hgrow _; have HO2 := Lib.hid (Own8.more rfl HO1.out HM2.out rfl hown hgrow); clear hown hgrow HO1 HM2 HS2; obtain ⟨q0, q1, q2, q3⟩ := HQ.out y2 HO2.out.2) | (go_at_call 61; refine (rfint_any o.q _ HOK.out.q1 HOK.out.q2).mono ?_; rintro e z3 ⟨u3, rfl, hM⟩; obtain ⟨A3, c3, rfl, hS3⟩ := src_own hM.1; have HM3 := Lib.hid hM; have HS3 := Lib.hid hS3; clear hM hS3 q0 q1 q2 q3) | (refine wpList_append_u8 _ rfl _ _ rfl x1.heap.size v2 (enc (wordN o.k) ++ enc (wordN o.s)).length (u8s (enc (wordN o.k) ++ enc (wordN o.s))) rfl (own_next HO2.out.1 HM3.out.2 HO2.out.2.size) A3 (enc (zig o.q)).length c3 (u8s (enc (zig o.q))) rfl (u8s_len _) HS3.out (u8s_one _) (by (try simp only [List.length_append]); obtain ⟨_, _, _, _⟩ := HLE.out; omega) (Nat.le_trans HO2.out.2.size HM3.out.2.size) ?_; intro v3 y3 hown hgrow _; have HO3 := Lib.hid (Own8.more rfl HO2.out HM3.out rfl hown hgrow); clear hown hgrow HO2 HM3 HS3; obtain ⟨q0, q1, q2, q3⟩ := HQ.out y3 HO3.out.2))
    go_ret
    refine ⟨v3, rfl, ?_, HB.out.trans (HO3.out.2.mono HB.out.size)⟩
    rw [HR.out]
    exact own_le HO3.out.1 HB.out.size
  · have f4 : (o.k == 4) = false := by rw [h]; rfl
    have g4 : (o.k != 4) = true := by rw [h]; rfl
    have f6 : (o.k == 6) = false := by rw [h]; rfl
    have g6 : (o.k != 6) = true := by rw [h]; rfl
    have f1 : (o.k == 1) = false := by rw [h]; rfl
    have g1 : (o.k != 1) = true := by rw [h]; rfl
    have f2 : (o.k == 2) = true := by rw [h]; rfl
    have g2 : (o.k != 2) = false := by rw [h]; rfl
    have f5 : (o.k == 5) = false := by rw [h]; rfl
    have g5 : (o.k != 5) = true := by rw [h]; rfl
    have e1 : hasS o.k = true := by rw [h]; rfl
    have e2 : hasQ o.k = true := by rw [h]; rfl
    have e3 : hasP o.k = false := by rw [h]; rfl
    have HR := Lib.hid (show encO o = enc (wordN o.k) ++ enc (wordN o.s) ++ enc (zig o.q) from by rw [HE.out, e1, e2, e3]; simp only [if_true, if_false, Bool.false_eq_true, List.append_nil])
    clear e1 e2 e3 h HE
    go_wp2_with (first | (go_at_call 59; refine (rfnum_any (wordN o.s) _ (wordN_lt _)).mono ?_; rintro e z2 ⟨u2, rfl, hM⟩; obtain ⟨A2, c2, rfl, hS2⟩ := src_own hM.1; have HM2 := Lib.hid hM; have HS2 := Lib.hid hS2; clear hM hS2 q0 q1 q2 q3) | (refine wpList_append_u8 _ rfl _ _ rfl x1.heap.size v1 (enc (wordN o.k)).length (u8s (enc (wordN o.k))) rfl (own_next HO1.out.1 HM2.out.2 HO1.out.2.size) A2 (enc (wordN o.s)).length c2 (u8s (enc (wordN o.s))) rfl (u8s_len _) HS2.out (u8s_one _) (by (try simp only [List.length_append]); obtain ⟨_, _, _, _⟩ := HLE.out; omega) (Nat.le_trans HO1.out.2.size HM2.out.2.size) ?_; intro v2 y2 hown hgrow _; have HO2 := Lib.hid (Own8.more rfl HO1.out HM2.out rfl hown hgrow); clear hown hgrow HO1 HM2 HS2; obtain ⟨q0, q1, q2, q3⟩ := HQ.out y2 HO2.out.2) | (go_at_call 61; refine (rfint_any o.q _ HOK.out.q1 HOK.out.q2).mono ?_; rintro e z3 ⟨u3, rfl, hM⟩; obtain ⟨A3, c3, rfl, hS3⟩ := src_own hM.1; have HM3 := Lib.hid hM; have HS3 := Lib.hid hS3; clear hM hS3 q0 q1 q2 q3) | (refine wpList_append_u8 _ rfl _ _ rfl x1.heap.size v2 (enc (wordN o.k) ++ enc (wordN o.s)).length (u8s (enc (wordN o.k) ++ enc (wordN o.s))) rfl (own_next HO2.out.1 HM3.out.2 HO2.out.2.size) A3 (enc (zig o.q)).length c3 (u8s (enc (zig o.q))) rfl (u8s_len _) HS3.out (u8s_one _) (by (try simp only [List.length_append]); obtain ⟨_, _, _, _⟩ := HLE.out; omega) (Nat.le_trans HO2.out.2.size HM3.out.2.size) ?_; intro v3 y3 hown hgrow _; have HO3 := Lib.hid (Own8.more rfl HO2.out HM3.out rfl hown hgrow); clear hown hgrow HO2 HM3 HS3; obtain ⟨q0, q1, q2, q3⟩ := HQ.out y3 HO3.out.2))
    go_ret
    refine ⟨v3, rfl, ?_, HB.out.trans (HO3.out.2.mono HB.out.size)⟩
    rw [HR.out]
    exact own_le HO3.out.1 HB.out.size
  · have f4 : (o.k == 4) = false := by rw [h]; rfl
    have g4 : (o.k != 4) = true := by rw [h]; rfl
    have f6 : (o.k == 6) = false := by rw [h]; rfl
    have g6 : (o.k != 6) = true := by rw [h]; rfl
    have f1 : (o.k == 1) = false := by rw [h]; rfl
    have g1 : (o.k != 1) = true := by rw [h]; rfl
    have f2 : (o.k == 2) = false := by rw [h]; rfl
    have g2 : (o.k != 2) = true := by rw [h]; rfl
    have f5 : (o.k == 5) = true := by rw [h]; rfl
    have g5 : (o.k != 5) = false := by rw [h]; rfl
    have e1 : hasS o.k = true := by rw [h]; rfl
    have e2 : hasQ o.k = true := by rw [h]; rfl
    have e3 : hasP o.k = false := by rw [h]; rfl
    have HR := Lib.hid (show encO o = enc (wordN o.k) ++ enc (wordN o.s) ++ enc (zig o.q) from by rw [HE.out, e1, e2, e3]; simp only [if_true, if_false, Bool.false_eq_true, List.append_nil])
    clear e1 e2 e3 h HE
    go_wp2_with (first | (go_at_call 59; refine (rfnum_any (wordN o.s) _ (wordN_lt _)).mono ?_; rintro e z2 ⟨u2, rfl, hM⟩; obtain ⟨A2, c2, rfl, hS2⟩ := src_own hM.1; have HM2 := Lib.hid hM; have HS2 := Lib.hid hS2; clear hM hS2 q0 q1 q2 q3) | (refine wpList_append_u8 _ rfl _ _ rfl x1.heap.size v1 (enc (wordN o.k)).length (u8s (enc (wordN o.k))) rfl (own_next HO1.out.1 HM2.out.2 HO1.out.2.size) A2 (enc (wordN o.s)).length c2 (u8s (enc (wordN o.s))) rfl (u8s_len _) HS2.out (u8s_one _) (by (try simp only [List.length_append]); obtain ⟨_, _, _, _⟩ := HLE.out; omega) (Nat.le_trans HO1.out.2.size HM2.out.2.size) ?_; intro v2 y2 hown hgrow _; have HO2 := Lib.hid (Own8.more rfl HO1.out HM2.out rfl hown hgrow); clear hown hgrow HO1 HM2 HS2; obtain ⟨q0, q1, q2, q3⟩ := HQ.out y2 HO2.out.2) | (go_at_call 61; refine (rfint_any o.q _ HOK.out.q1 HOK.out.q2).mono ?_; rintro e z3 ⟨u3, rfl, hM⟩; obtain ⟨A3, c3, rfl, hS3⟩ := src_own hM.1; have HM3 := Lib.hid hM; have HS3 := Lib.hid hS3; clear hM hS3 q0 q1 q2 q3) | (refine wpList_append_u8 _ rfl _ _ rfl x1.heap.size v2 (enc (wordN o.k) ++ enc (wordN o.s)).length (u8s (enc (wordN o.k) ++ enc (wordN o.s))) rfl (own_next HO2.out.1 HM3.out.2 HO2.out.2.size) A3 (enc (zig o.q)).length c3 (u8s (enc (zig o.q))) rfl (u8s_len _) HS3.out (u8s_one _) (by (try simp only [List.length_append]); obtain ⟨_, _, _, _⟩ := HLE.out; omega) (Nat.le_trans HO2.out.2.size HM3.out.2.size) ?_; intro v3 y3 hown hgrow _; have HO3 := Lib.hid (Own8.more rfl HO2.out HM3.out rfl hown hgrow); clear hown hgrow HO2 HM3 HS3; obtain ⟨q0, q1, q2, q3⟩ := HQ.out y3 HO3.out.2))
    go_ret
    refine ⟨v3, rfl, ?_, HB.out.trans (HO3.out.2.mono HB.out.size)⟩
    rw [HR.out]
    exact own_le HO3.out.1 HB.out.size
  · have f4 : (o.k == 4) = false := by (have := h; simp; omega)
    have g4 : (o.k != 4) = true := by (have := h; simp; omega)
    have f6 : (o.k == 6) = false := by (have := h; simp; omega)
    have g6 : (o.k != 6) = true := by (have := h; simp; omega)
    have f1 : (o.k == 1) = false := by (have := h; simp; omega)
    have g1 : (o.k != 1) = true := by (have := h; simp; omega)
    have f2 : (o.k == 2) = false := by (have := h; simp; omega)
    have g2 : (o.k != 2) = true := by (have := h; simp; omega)
    have f5 : (o.k == 5) = false := by (have := h; simp; omega)
    have g5 : (o.k != 5) = true := by (have := h; simp; omega)
    have e1 : hasS o.k = true := by unfold hasS; rw [g4]
    have e2 : hasQ o.k = false := by unfold hasQ; rw [f1, f2, f5]; rfl
    have e3 : hasP o.k = false := by unfold hasP; rw [f6]
    have HR := Lib.hid (show encO o = enc (wordN o.k) ++ enc (wordN o.s) from by rw [HE.out, e1, e2, e3]; simp only [if_true, if_false, Bool.false_eq_true, List.append_nil])
    clear e1 e2 e3 h HE
    go_wp2_with (first | (go_at_call 59; refine (rfnum_any (wordN o.s) _ (wordN_lt _)).mono ?_; rintro e z2 ⟨u2, rfl, hM⟩; obtain ⟨A2, c2, rfl, hS2⟩ := src_own hM.1; have HM2 := Lib.hid hM; have HS2 := Lib.hid hS2; clear hM hS2 q0 q1 q2 q3) | (refine wpList_append_u8 _ rfl _ _ rfl x1.heap.size v1 (enc (wordN o.k)).length (u8s (enc (wordN o.k))) rfl (own_next HO1.out.1 HM2.out.2 HO1.out.2.size) A2 (enc (wordN o.s)).length c2 (u8s (enc (wordN o.s))) rfl (u8s_len _) HS2.out (u8s_one _) (by (try simp only [List.length_append]); obtain ⟨_, _, _, _⟩ := HLE.out; omega) (Nat.le_trans HO1.out.2.size HM2.out.2.size) ?_; intro v2 y2 hown hgrow _; have HO2 := Lib.hid (Own8.more rfl HO1.out HM2.out rfl hown hgrow); clear hown hgrow HO1 HM2 HS2; obtain ⟨q0, q1, q2, q3⟩ := HQ.out y2 HO2.out.2))
    go_ret
    refine ⟨v2, rfl, ?_, HB.out.trans (HO2.out.2.mono HB.out.size)⟩
    rw [HR.out]
    exact own_le HO2.out.1 HB.out.size
end Go.Proofs.Yteplplmfepamdaa
