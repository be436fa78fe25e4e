/-
link: a link beside the document's; links that no call made.
-/
import Derived.Test.YthiclefiliedjaaLk24
namespace Go.Proofs.Ythiclefiliedjaa
open Go.RowKit
set_option linter.unusedSimpArgs false
set_option linter.unusedVariables false
namespace Lk
theorem doinfoA (x : Do) : (Try.prog.info? 32).map (·.size) = some x.cells.toArray.size := by rw [List.size_toArray, do_len]; kernel_rfl
theorem do_siz (x : Do) : (3 : Nat) = x.cells.toArray.size := by rw [List.size_toArray, do_len]
theorem do_onec (x : Do) : x.cells.toArray.all (·.oneCell') = true := by unfold Do.cells; simp [Value.oneCell']
/-- A link beside the document's. -/
def Jn (W w : World) (d r : Nat) (l : LS) (s : RS) (v : Value) : Prop :=
  ∃ F, LK w W.heap.size d F l ∧ Rf w W.heap.size r s v ∧ ¬ F r ∧ (∀ k, v.ownBlock = some k → ¬ F k) ∧ Below W.heap.size W w
section
variable {W w w' : World} {d r : Nat} {l l' : LS} {s s' : RS} {v v' : Value}
theorem Jn.next (h : Jn W w d r l s v) (hb : Below w.heap.size w w') : Jn W w' d r l s v := by
  obtain ⟨F, h1, h2, h3, h4, h5⟩ := h
  exact ⟨F, h1.next hb, h2.next hb, h3, h4, h5.trans (hb.mono h5.size)⟩
theorem Jn.b (h : Jn W w d r l s v) : Below W.heap.size W w := by obtain ⟨F, h1, h2, h3, h4, h5⟩ := h; exact h5
theorem Jn.lk (h : Jn W w d r l s v) : ∃ F, LK w W.heap.size d F l := by obtain ⟨F, h1, h2, h3, h4, h5⟩ := h; exact ⟨F, h1⟩
theorem Jn.rf (h : Jn W w d r l s v) : Rf w W.heap.size r s v := by obtain ⟨F, h1, h2, h3, h4, h5⟩ := h; exact h2
theorem jn_turn {F : Nat → Prop} (h2 : Rf w W.heap.size r s v) (h3 : ¬ F r) (h4 : ∀ k, v.ownBlock = some k → ¬ F k) (h5 : Below W.heap.size W w) (h1 : LK w' W.heap.size d (Grow F w w') l') (t : Turn W.heap.size F w w') : Jn W w' d r l' s v := by
  refine ⟨_, h1, h2.keep (t.2 r h2.rl.2 h3) (fun k hk => t.2 k (h2.vlt hk) (h4 k hk)) t.1.size, ?_, ?_, h5.trans t.1⟩
  · rintro (h | ⟨h, _⟩)
    · exact h3 h
    · have := h2.rl.2; omega
  · rintro k hk (h | ⟨h, _⟩)
    · exact h4 k hk h
    · have := h2.vlt hk; omega
theorem Jn.rturn (h : Jn W w d r l s v) (hr : Rf w' W.heap.size r s' v') (t : RTurn W.heap.size r v v' w w') : Jn W w' d r l s' v' := by
  obtain ⟨F, h1, h2, h3, h4, h5⟩ := h
  refine ⟨F, h1.keep (fun k hk => t.2.1 k (h1.low k hk).2 (fun e => h3 (e ▸ hk)) (fun e => h4 k e.symm hk)) t.1.size, hr, h3, fun k hk => ?_, h5.trans t.1⟩
  rcases t.2.2 with e | ⟨j, e, hj⟩
  · exact h4 k (by rw [← e]; exact hk)
  · intro hF
    rw [e] at hk
    simp only [Option.some.injEq] at hk
    have := (h1.low k hF).2
    omega
theorem Jn.send (h : Jn W w d r l s v) (hb : Below w.heap.size w w') {g : Nat} (hg : w.heap.size ≤ g ∧ g < w'.heap.size) (Ab : Option Addr) (m cb : Nat) (bs : List Nat) (hm : bs.length = m) (hs : Src w' Ab m (u8s bs)) (h256 : ∀ y ∈ bs, y < 256) :
    Calls Try.prog 10 #[.pointer (some ⟨d, 0, none⟩), .slice Ab m cb] w' fun e w2 => e = .returned (.tuple #[.int .u64 (sendN l m : Nat), .int .i64 (sendE l m)]) ∧ Jn W w2 d r (l.send bs) s v ∧ w2.heap[g]? = w'.heap[g]? := by
  obtain ⟨F, h1, h2, h3, h4, h5⟩ := h
  have hF : ¬ F g := fun hF => by have := (h1.low g hF).2; omega
  refine (send_any w' (h1.next hb) Ab m cb bs hm hs h256).mono ?_
  rintro e w2 ⟨rfl, k1, k2⟩
  exact ⟨rfl, jn_turn (h2.next hb) h3 h4 (h5.trans (hb.mono h5.size)) k1 k2, k2.2 g hg.2 hF⟩
theorem Jn.ack (h : Jn W w d r l s v) (hb : Below w.heap.size w w') {g : Nat} (hg : w.heap.size ≤ g ∧ g < w'.heap.size) (q : Nat) :
    Calls Try.prog 12 #[.pointer (some ⟨d, 0, none⟩), .int .u64 (q : Nat)] w' fun e w2 => e = .returned (.tuple #[.int .i64 ((ackR l q : Nat) : Int), .int .i64 (ackE l q)]) ∧ Jn W w2 d r (l.ack q) s v ∧ w2.heap[g]? = w'.heap[g]? := by
  obtain ⟨F, h1, h2, h3, h4, h5⟩ := h
  have hF : ¬ F g := fun hF => by have := (h1.low g hF).2; omega
  refine (acked_any w' (h1.next hb) q).mono ?_
  rintro e w2 ⟨rfl, k1, k2⟩
  exact ⟨rfl, jn_turn (h2.next hb) h3 h4 (h5.trans (hb.mono h5.size)) k1 k2, k2.2 g hg.2 hF⟩
theorem Jn.take (h : Jn W w d r l s v) (hb : Below w.heap.size w w') {g : Nat} (hg : w.heap.size ≤ g ∧ g < w'.heap.size) (q : Nat) :
    Calls Try.prog 14 #[.pointer (some ⟨d, 0, none⟩), .int .u64 (q : Nat)] w' fun e w2 => e = .returned (.tuple #[.bool (takeE l q).1, .int .i64 (takeE l q).2]) ∧ Jn W w2 d r (l.take q) s v ∧ w2.heap[g]? = w'.heap[g]? := by
  obtain ⟨F, h1, h2, h3, h4, h5⟩ := h
  have hF : ¬ F g := fun hF => by have := (h1.low g hF).2; omega
  refine (take_any w' (h1.next hb) q).mono ?_
  rintro e w2 ⟨rfl, k1, k2, k3⟩
  exact ⟨rfl, jn_turn (h2.next hb) h3 h4 (h5.trans (hb.mono h5.size)) (k1.wider (fun k hk => ((h1.next hb).low k hk).2) (h1.next hb).base) k2, k2.2 g hg.2 hF⟩
end
section
variable (W : World)
set_option maxRecDepth 20000 in
theorem save_no {d : Option Addr} (HM : ∀ w, Below W.heap.size W w → Calls Try.prog 31 #[.pointer d] w fun e w' => e = .returned (.bool false) ∧ w = w') : Calls Try.prog 19 #[.pointer d] W fun e W' => e = .returned (.string (Byt.bstr [])) ∧ Below W.heap.size W W' := by
  have HN := Lib.hid (Proofs.Ythiclefiliedjaa.new_any W)
  have HP := Lib.hid (fun w v (hb : Below W.heap.size W w) => put_none w (HM w hb) v)
  have hcv : ∀ (w : World) (v : Value) (B : Nat), w.ownsRow B 5 1 v ([] : List Nat).length (u8s []) → (convert 30 9 v).run Try.prog w = .ok (.string (Byt.bstr [])) w := fun w v B ho => by
    obtain ⟨A, c, rfl, _, hby, hA⟩ := Byt.own_byr ho
    exact Byt.conv_src w A _ c [] (hby.src hA) rfl (by simp)
  have HCV := Lib.hid hcv
  clear hcv HM
  go_enter Try.func19, Try.ntmps19
  go_upto_region 3 with (first | (go_at_call 37; refine HN.out.mono ?_; rintro e w1 ⟨rfl, hw, hb⟩; have HW1 := Lib.hid hw; have HB1 := Lib.hid hb; clear hw hb) | (go_at_call 38; refine (HP.out _ _ HB1.out).mono ?_; rintro e w2 ⟨rfl, rfl⟩))
  have HY := Lib.hid (bytes_any W.heap.size W.heap.size [] w1 HW1.out (by decide))
  go_upto_region 3 with fail
  go_wp2_with (first | (go_at_call 39; refine HY.out.mono ?_; rintro e w3 ⟨v, rfl, ho, hb⟩; have hcv := HCV.out w3 v _ ho; have HB3 := Lib.hid (HB1.out.trans (hb.mono HB1.out.size)); clear ho hb))
  go_ret
  exact ⟨rfl, HB3.out⟩
set_option maxRecDepth 20000 in
theorem queue_zero {d : Nat} (hd : Blk W d 50 #[.int .u64 0, .slice none 0 0, .int .u64 0]) : Calls Try.prog 16 #[.pointer (some ⟨d, 0, none⟩)] W fun e W' => (∃ A c, e = .returned (.slice A 0 c)) ∧ Below W.heap.size W W' := by
  have c1 : W.cell? ⟨d, 1, none⟩ = some (.slice none 0 0) := hd.cell 1
  have HC := Lib.hid (iclone_any W none 0 0 [] rfl (Or.inr ⟨rfl, rfl, rfl⟩) (by decide))
  clear hd
  go_enter Try.func16, Try.ntmps16
  go_upto_region 5 with (first | (go_at_call 36; refine HC.out.mono ?_; rintro e w1 ⟨v, rfl, ho, hb⟩; obtain ⟨A1, k1, rfl, -, -⟩ := own_row ho; have HB := Lib.hid hb; clear ho hb))
  go_loopw [15] (fun i wr => i = .int .i64 0 ∧ Below W.heap.size W wr) (fun _ _ => 0)
  case atStart => exact ⟨rfl, HB.out⟩
  case round =>
    clear HB
    obtain ⟨rfl, hb⟩ := hrel
    have HB := Lib.hid hb
    clear hb
    go_wp2_with fail
    go_ret
    exact ⟨⟨_, _, rfl⟩, HB.out⟩
end
end Lk
end Go.Proofs.Ythiclefiliedjaa
