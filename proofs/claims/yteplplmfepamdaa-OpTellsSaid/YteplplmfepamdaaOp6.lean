/-
op.Read, Put, Write; plain data as ops and events.
-/
import Derived.Test.YteplplmfepamdaaOp5
namespace Go.Proofs.Yteplplmfepamdaa
open Go.RowKit

variable {L : Nat}
set_option maxRecDepth 20000 in
set_option maxHeartbeats 8000000 in
theorem evread1_any (k s c : Nat) (bs : List Nat) (W : World) (hL : L ≤ W.heap.size) (hr : Rdr W k s) (h : RdB L W s bs) (hby : ∀ x ∈ bs, x < 256) (hc : Blk W c 46 #[.int .u64 0, .int .i64 0, .int .u32 0, .int .i64 0, .int .i64 0, .int .u32 0, .int .u32 0, .int .u32 0, .int .u32 0, .int .u32 0, .int .u32 0, .int .u32 0, .int .u32 0, .int .u32 0, .int .u32 0, .int .u32 0, .int .u32 0, .int .i64 0, .int .i64 0, .int .i64 0, .float .f64 0]) (hcs : c ≠ s) (hLc : L ≤ c) :
    Calls Try.prog 25 #[.pointer (some ⟨k, 0, none⟩), .pointer (some ⟨c, 0, none⟩)] W fun e W2 => match evP bs with
      | .ok (x, t) => e = .returned (.tuple #[]) ∧ RdB L W2 s t ∧ ∃ W1, Off s W W1 ∧ W2 = W1.setRow c x.cells.toArray ∧ Blk W2 c 46 x.cells.toArray
      | .error x => e = .panicked [{ v := flt s, recovered := false }] ∧ Met' W2 s x ∧ Off s W W2 := by
  have HG := Lib.hid (evget_any k s bs W hL hr h hby)
  obtain ⟨R, hR⟩ : ∃ R, R = evP bs := ⟨_, rfl⟩
  rw [← hR] at HG ⊢
  clear hR h hr hby
  match R with
  | .error x =>
    go_enter Try.func25, Try.ntmps25
    go_wp2_with (go_at_call 26; refine HG.out.mono ?_; rintro e w1 ⟨hO, rfl, hM⟩)
    exact ⟨rfl, rfl, hM, hO⟩
  | .ok (x, t) =>
    go_enter Try.func25, Try.ntmps25
    go_wp2_with (first | (go_at_call 26; refine HG.out.mono ?_; rintro e w1 ⟨hO, rfl, hB⟩; have HO := Lib.hid hO; have HB := Lib.hid hB; have bc := hO.blk hc hcs; clear hO hB) | (refine wpList_store_blk rfl 46 _ _ rfl c 46 _ x.cells.toArray rfl rfl bc (einfoA _) (ev_siz x) (ev_one x) ?_; intro hrow))
    have hf : ∀ j, j ≠ c → (w1.setRow c x.cells.toArray).heap[j]? = w1.heap[j]? := fun j hj => setRow_other w1 c j _ hj
    have hz : (w1.setRow c x.cells.toArray).heap.size = w1.heap.size := by simp
    exact ⟨rfl, .tuple #[], by simp [results, Try.results25, go_sem], rfl, HB.out.turn (Nat.le_of_eq hz.symm) hf hcs hLc, w1, HO.out, rfl, hrow⟩

/-- Two boxes of noughts. -/
def twoE (W : World) : World := (W.alloc (.cells #[.int .u64 0, .int .i64 0, .int .u32 0, .int .i64 0, .int .i64 0, .int .u32 0, .int .u32 0, .int .u32 0, .int .u32 0, .int .u32 0, .int .u32 0, .int .u32 0, .int .u32 0, .int .u32 0, .int .u32 0, .int .u32 0, .int .u32 0, .int .i64 0, .int .i64 0, .int .i64 0, .float .f64 0] 46)).alloc (.cells #[.int .u64 0, .int .i64 0, .int .u32 0, .int .i64 0, .int .i64 0, .int .u32 0, .int .u32 0, .int .u32 0, .int .u32 0, .int .u32 0, .int .u32 0, .int .u32 0, .int .u32 0, .int .u32 0, .int .u32 0, .int .u32 0, .int .u32 0, .int .i64 0, .int .i64 0, .int .i64 0, .float .f64 0] 46)
theorem twoE_size (W : World) : (twoE W).heap.size = W.heap.size + 2 := by simp [twoE]
theorem twoE_below (W : World) : Below W.heap.size W (twoE W) := ((Below.refl _ W).alloc (Nat.le_refl _) _).alloc (by simp) _
/-- What an event's read leaves. -/
def EvRead (bs : List Nat) (W : World) (r : Except Int (List Nat)) (W' : World) : Prop :=
  (match evP bs with | .ok (l, t) => r = .ok t ∧ Blk W' (W.heap.size + 1) 46 l.cells.toArray | .error x => r = .error x) ∧ Blk W' W.heap.size 46 #[.int .u64 0, .int .i64 0, .int .u32 0, .int .i64 0, .int .i64 0, .int .u32 0, .int .u32 0, .int .u32 0, .int .u32 0, .int .u32 0, .int .u32 0, .int .u32 0, .int .u32 0, .int .u32 0, .int .u32 0, .int .u32 0, .int .u32 0, .int .i64 0, .int .i64 0, .int .i64 0, .float .f64 0] ∧ Below W.heap.size W W'

set_option maxRecDepth 20000 in
theorem evread_call (A : Option Addr) (n cp : Nat) (W : World) (bs : List Nat) (hn : bs.length = n) (hnc : n ≤ cp) (hby : ∀ x ∈ bs, x < 256) (hbs : ByR W A bs) :
    Calls Try.prog 24 #[.slice A n cp, .func (.func 25) #[] #[.pointer (some ⟨W.heap.size + 1, 0, none⟩)]] (twoE W) fun e W' => ∃ r, e = .returned (.int .i64 (readE r)) ∧ EvRead bs W r W' := by
  have hb0 := twoE_below W
  have hsz := twoE_size W
  have hg0 : Blk (twoE W) W.heap.size 46 #[.int .u64 0, .int .i64 0, .int .u32 0, .int .i64 0, .int .i64 0, .int .u32 0, .int .u32 0, .int .u32 0, .int .u32 0, .int .u32 0, .int .u32 0, .int .u32 0, .int .u32 0, .int .u32 0, .int .u32 0, .int .u32 0, .int .u32 0, .int .i64 0, .int .i64 0, .int .i64 0, .float .f64 0] := (Blk.new W 46 #[.int .u64 0, .int .i64 0, .int .u32 0, .int .i64 0, .int .i64 0, .int .u32 0, .int .u32 0, .int .u32 0, .int .u32 0, .int .u32 0, .int .u32 0, .int .u32 0, .int .u32 0, .int .u32 0, .int .u32 0, .int .u32 0, .int .u32 0, .int .i64 0, .int .i64 0, .int .i64 0, .float .f64 0]).alloc _
  have hc0 : Blk (twoE W) (W.heap.size + 1) 46 #[.int .u64 0, .int .i64 0, .int .u32 0, .int .i64 0, .int .i64 0, .int .u32 0, .int .u32 0, .int .u32 0, .int .u32 0, .int .u32 0, .int .u32 0, .int .u32 0, .int .u32 0, .int .u32 0, .int .u32 0, .int .u32 0, .int .u32 0, .int .i64 0, .int .i64 0, .int .i64 0, .float .f64 0] := Blk.new' (by simp)
  refine (read_any4 (L := W.heap.size) A n cp 25 #[.pointer (some ⟨W.heap.size + 1, 0, none⟩)] (twoE W) bs (fun r W2 => EvRead bs W r W2)
    (fun args w => run_enter Try.func25 (by kernel_rfl) (by kernel_rfl) args w) hn hnc (by omega) ?_ ?_).mono ?_
  · refine hbs.imp id ?_
    rintro ⟨b, p, h1, h2, h3⟩
    exact ⟨b, p, h1, h2, fun i x hx => (hb0.cell (p := ⟨b, p + i, none⟩) h2).trans (h3 i x hx)⟩
  · intro W1 k s hb hs hk hs1 h4 _ hR hB
    have hg1 := hg0.next hb
    have hc1 := hc0.next hb
    refine (evread1_any k s (W.heap.size + 1) bs W1 (by omega) hR hB hby hc1 (by omega) (by omega)).mono ?_
    intro e W2 h
    have hne := evP_ne bs
    unfold Fine EvRead
    cases hq : evP bs with
    | error x =>
      rw [hq] at h
      obtain ⟨rfl, hM, hO⟩ := h
      refine ⟨fun b _ h6 h7 => hO.block b h6 h7, Or.inr ⟨x, hne x hq, rfl, hM, rfl, hO.blk hg1 (by omega), ?_⟩⟩
      exact hb0.trans ((hb.mono (by omega)).trans (hO.belowB (by omega) (by omega)))
    | ok q =>
      obtain ⟨l, t⟩ := q
      rw [hq] at h
      obtain ⟨rfl, hB2, w1, hO, rfl, hcb⟩ := h
      have hf : ∀ j, j ≠ W.heap.size + 1 → (w1.setRow (W.heap.size + 1) l.cells.toArray).heap[j]? = w1.heap[j]? := fun j hj => setRow_other w1 _ j _ hj
      refine ⟨fun b h5 h6 h7 => (hf b (by omega)).trans (hO.block b h6 h7), Or.inl ⟨t, rfl, hB2, ⟨rfl, hcb⟩, (hO.blk hg1 (by omega)).farRow (by omega) _, ?_⟩⟩
      exact below_setRow (hb0.trans ((hb.mono (by omega)).trans (hO.belowB (by omega) (by omega)))) (by omega) _
  · rintro e W' ⟨r, W2, hY, he, hb3, _⟩
    refine ⟨r, he, ?_⟩
    unfold EvRead at hY ⊢
    refine ⟨?_, hY.2.1.below hb3 (by omega), hY.2.2.trans (hb3.mono (by omega))⟩
    have h1 := hY.1
    cases hq : evP bs with
    | error x => rw [hq] at h1; exact h1
    | ok q => obtain ⟨l, t⟩ := q; rw [hq] at h1; exact ⟨h1.1, h1.2.below hb3 (by omega)⟩

theorem zev_sz : (Try.prog.info? 46).map (·.size) = some (#[.int .u64 0, .int .i64 0, .int .u32 0, .int .i64 0, .int .i64 0, .int .u32 0, .int .u32 0, .int .u32 0, .int .u32 0, .int .u32 0, .int .u32 0, .int .u32 0, .int .u32 0, .int .u32 0, .int .u32 0, .int .u32 0, .int .u32 0, .int .i64 0, .int .i64 0, .int .i64 0, .float .f64 0] : Array Value).size := by kernel_rfl
theorem zev_one : (#[.int .u64 0, .int .i64 0, .int .u32 0, .int .i64 0, .int .i64 0, .int .u32 0, .int .u32 0, .int .u32 0, .int .u32 0, .int .u32 0, .int .u32 0, .int .u32 0, .int .u32 0, .int .u32 0, .int .u32 0, .int .u32 0, .int .u32 0, .int .i64 0, .int .i64 0, .int .i64 0, .float .f64 0] : Array Value).all (·.oneCell') = true := by simp [Value.oneCell']
theorem zev_info : (Try.prog.info? 46).map (·.size) = some (List.length ([.int .u64 0, .int .i64 0, .int .u32 0, .int .i64 0, .int .i64 0, .int .u32 0, .int .u32 0, .int .u32 0, .int .u32 0, .int .u32 0, .int .u32 0, .int .u32 0, .int .u32 0, .int .u32 0, .int .u32 0, .int .u32 0, .int .u32 0, .int .i64 0, .int .i64 0, .int .i64 0, .float .f64 0] : List Value)) := by kernel_rfl

section
variable (A : Option Addr) (n cp : Nat) (W : World) (bs : List Nat) (hn : bs.length = n) (hnc : n ≤ cp) (hby : ∀ x ∈ bs, x < 256) (hbs : ByR W A bs)
include hn hnc hby hbs
set_option maxRecDepth 20000 in
set_option maxHeartbeats 4000000 in
theorem evread_yes (l : Ev) (h : evP bs = .ok (l, [])) :
    Calls Try.prog 8 #[.slice A n cp] W fun e W' => e = .returned (.tuple #[.agg l.cells.toArray, .int .i64 0]) ∧ Below W.heap.size W W' := by
  have HC := Lib.hid (evread_call A n cp W bs hn hnc hby hbs)
  have hmf : ∀ (fn : Fn) (first cap : Array Value) (w : World), (Instr.makeFunc fn first cap).run Try.prog w = .ok (.func fn first cap) w := fun _ _ _ _ => rfl
  have HP := Lib.hid h
  clear hn hnc hbs h hby
  go_enter Try.func8, Try.ntmps8
  go_wp2_with (first | (refine wpList_load_midg (by rfl) 46 _ rfl _ _ rfl (Ev.cells ?_) _ ?_ Try.underlying46 rfl (einfo _) ?_; rotate_left; (focus assumption)) | (refine wpList_store_blk rfl 46 _ _ rfl W.heap.size 46 _ l.cells.toArray rfl rfl hg (einfoA _) (ev_siz l) (ev_one l) ?_; intro hrow) | (go_at_call 24; refine HC.out.mono ?_; rintro e W1 ⟨r, rfl, hR⟩; unfold EvRead at hR; rw [HP.out] at hR; obtain ⟨⟨rfl, hc⟩, hg, hb⟩ := hR; have rgl := hc.range; have HB := Lib.hid hb; clear hb; rw [show readE (.ok []) = 0 from rfl]))
  refine bodyPost_row2 (t := 46) l.cells (.int .i64 0) rfl rfl rfl rfl Try.underlying46 rfl (einfo l) hrow ⟨rfl, below_setRow HB.out (Nat.le_refl _) _⟩
set_option maxRecDepth 20000 in
set_option maxHeartbeats 4000000 in
theorem evread_no (h : ∀ l, evP bs ≠ .ok (l, [])) :
    Calls Try.prog 8 #[.slice A n cp] W fun e W' => e = .returned (.tuple #[.agg #[.int .u64 0, .int .i64 0, .int .u32 0, .int .i64 0, .int .i64 0, .int .u32 0, .int .u32 0, .int .u32 0, .int .u32 0, .int .u32 0, .int .u32 0, .int .u32 0, .int .u32 0, .int .u32 0, .int .u32 0, .int .u32 0, .int .u32 0, .int .i64 0, .int .i64 0, .int .i64 0, .float .f64 0], .int .i64 3]) ∧ Below W.heap.size W W' := by
  have HC := Lib.hid (evread_call A n cp W bs hn hnc hby hbs)
  have hmf : ∀ (fn : Fn) (first cap : Array Value) (w : World), (Instr.makeFunc fn first cap).run Try.prog w = .ok (.func fn first cap) w := fun _ _ _ _ => rfl
  have HP := Lib.hid (show ∀ r W', EvRead bs W r W' → ∃ z : Int, readE r = z ∧ decide (z = 0) = false from fun r W' hR => by
    have h1 := hR.1
    refine ⟨readE r, rfl, decide_eq_false ?_⟩
    cases hq : evP bs with
    | error x => rw [hq] at h1; subst h1; exact evP_ne bs x hq
    | ok q =>
      obtain ⟨l, t⟩ := q
      rw [hq] at h1
      obtain ⟨rfl, _⟩ := h1
      cases t with
      | nil => exact absurd hq (h l)
      | cons a t => unfold readE; simp)
  clear hn hnc hbs h hby
  go_enter Try.func8, Try.ntmps8
  go_wp2_with fail
  refine HC.out.mono ?_
  rintro e W1 ⟨r, rfl, hR⟩
  obtain ⟨z, hz, hz0⟩ := HP.out r W1 hR
  obtain ⟨_, hg, hb⟩ := hR
  have HB := Lib.hid hb
  have hz2 : z ≠ 0 := by simpa using hz0
  have hz1 : (z != 0) = true := by simpa using hz2
  have hz3 : (z == 0) = false := by simpa using hz2
  rw [hz]
  clear hb hz hz0 HP HC
  go_wp2_with (refine wpList_store_blk rfl 46 _ _ rfl W.heap.size 46 _ #[.int .u64 0, .int .i64 0, .int .u32 0, .int .i64 0, .int .i64 0, .int .u32 0, .int .u32 0, .int .u32 0, .int .u32 0, .int .u32 0, .int .u32 0, .int .u32 0, .int .u32 0, .int .u32 0, .int .u32 0, .int .u32 0, .int .u32 0, .int .i64 0, .int .i64 0, .int .i64 0, .float .f64 0] rfl rfl hg zev_sz rfl zev_one ?_; intro hrow)
  refine bodyPost_row2 (t := 46) [.int .u64 0, .int .i64 0, .int .u32 0, .int .i64 0, .int .i64 0, .int .u32 0, .int .u32 0, .int .u32 0, .int .u32 0, .int .u32 0, .int .u32 0, .int .u32 0, .int .u32 0, .int .u32 0, .int .u32 0, .int .u32 0, .int .u32 0, .int .i64 0, .int .i64 0, .int .i64 0, .float .f64 0] (.int .i64 3) rfl rfl rfl rfl Try.underlying46 rfl zev_info hrow ⟨rfl, below_setRow HB.out (Nat.le_refl _) _⟩
end

theorem encO_len {o : OpR} (h : o.Ok) : (encO o).length ≤ 40 := by
  unfold encO
  have h1 := enc_len _ (wordN_lt o.k)
  have h2 := enc_len _ (wordN_lt o.s)
  have h3 := enc_len _ (zig_lt h.q1 h.q2)
  have h4 : (encF o.p).length = 8 := by unfold encF; exact be8_len _
  simp only [List.length_append]
  split <;> split <;> split <;> simp <;> omega
set_option maxRecDepth 20000 in
set_option maxHeartbeats 4000000 in
theorem evput_any (B g : Nat) (x : Ev) (bs : List Nat) (W : World) (h : Wtr W B g bs) (hr : rightE x = true) (hf : ∀ i, x.l.f i < 4294967296) (hp : x.o.p < 18446744073709551616) (hlen : bs.length + 600 ≤ 140737488355328) :
    Calls Try.prog 23 #[.pointer (some ⟨g, 0, none⟩), .agg x.cells.toArray] W fun e W' => e = .returned (.tuple #[]) ∧ Wtr W' B g (bs ++ encE x) ∧ Wrote B g W W' := by
  obtain ⟨r1, r2⟩ := rightE_parts hr
  have hb0 := (Below.refl W.heap.size W).alloc (Nat.le_refl _) (.cells x.cells.toArray 46)
  have HX0 := Lib.hid (BoxT.new (t := 46) h x.cells.toArray)
  have HR0 := Lib.hid (Wrote.ofBelow hb0 (Nat.le_trans h.1 (Nat.le_of_lt h.lt)) h.lt)
  have H1 := Lib.hid (lput_lab B g x.l bs _ (h.next hb0) r1 hf (by omega))
  have hll := encL_len r1 hf
  have H2 := Lib.hid (fun W1 (hw : Wtr W1 B g (bs ++ encL x.l)) => putop_any B g x.o _ W1 hw (may_ok r2 hp) (by rw [List.length_append]; omega))
  obtain ⟨_, rl, _, _⟩ := ev_all HX0.out.1
  clear hb0 h hr hf hp hlen r1 r2 hll
  go_enter Try.func23, Try.ntmps23
  go_wp2_with (first | (refine wpList_load_midg (by rfl) 27 _ rfl _ _ rfl (Lab.cells ?_) _ ?_ Try.underlying27 rfl (linfo _) ?_; rotate_left; (focus assumption)))
  refine H1.out.mono ?_
  rintro e W1 ⟨rfl, hw, hr⟩
  have HR1 := Lib.hid (HR0.out.trans hr)
  have H3 := Lib.hid (H2.out W1 hw)
  obtain ⟨_, _, ro, _⟩ := ev_all (HX0.out.wrote hr).1
  clear hw hr rl H1 H2 HX0 HR0
  go_wp2_with (first | (refine wpList_load_midg (by rfl) 44 _ rfl _ _ rfl (OpR.cells ?_) _ ?_ Try.underlying44 rfl (oinfo _) ?_; rotate_left; (focus assumption)))
  refine H3.out.mono ?_
  rintro e W2 ⟨rfl, hw, hr⟩
  have HR2 := Lib.hid (HR1.out.trans hr)
  have HW2 := Lib.hid hw
  clear hw hr
  go_wp2_with fail
  exact ⟨rfl, .tuple #[], by simp [results, Try.results23, go_sem], rfl, by unfold encE; rw [← List.append_assoc]; exact HW2.out, HR2.out⟩

section
variable (x : Ev) (W : World)
set_option maxRecDepth 20000 in
set_option maxHeartbeats 4000000 in
theorem evwrite_no (hr : rightE x = false) : Calls Try.prog 6 #[.agg x.cells.toArray] W fun e W' => e = .returned (.tuple #[.slice none 0 0, .int .i64 3]) ∧ Below W.heap.size W W' := by
  have bA := Blk.new W 46 x.cells.toArray
  have hB0 := Lib.hid ((Below.refl W.heap.size W).alloc (Nat.le_refl _) (.cells x.cells.toArray 46))
  have rx := bA.range
  clear bA
  go_enter Try.func6, Try.ntmps6
  go_wp2_with (first | (refine wpList_load_midg (by rfl) 46 _ rfl _ _ rfl (Ev.cells ?_) _ ?_ Try.underlying46 rfl (einfo _) ?_; rotate_left; (focus assumption)) | (go_at_call 14; refine (eright_any _ _).mono ?_; rintro e W1 ⟨rfl, hb⟩; rw [hr]; have HF := Lib.hid (hB0.out.trans (hb.mono hB0.out.size)); clear hb))
  refine bodyPost_ret (v := .tuple #[.slice none 0 0, .int .i64 3]) (by simp [results, Try.results6, go_sem]) rfl ⟨rfl, HF.out⟩
set_option maxRecDepth 20000 in
set_option maxHeartbeats 4000000 in
theorem evwrite_yes (hr : rightE x = true) (hf : ∀ i, x.l.f i < 4294967296) (hp : x.o.p < 18446744073709551616) : Calls Try.prog 6 #[.agg x.cells.toArray] W fun e W' => ∃ v, e = .returned (.tuple #[v, .int .i64 0]) ∧ W'.ownsRow W.heap.size 5 1 v (encE x).length (u8s (encE x)) ∧ Below W.heap.size W W' := by
  have bA := Blk.new W 46 x.cells.toArray
  have hB0 := Lib.hid ((Below.refl W.heap.size W).alloc (Nat.le_refl _) (.cells x.cells.toArray 46))
  have rx := bA.range
  have HX := Lib.hid bA
  have HFF := Lib.hid hf
  have HPP := Lib.hid hp
  obtain ⟨r1, r2⟩ := rightE_parts hr
  have HL := Lib.hid (show (encE x).length ≤ 300 by unfold encE; rw [List.length_append]; have := encL_len r1 hf; have := encO_len (may_ok r2 hp); omega)
  clear bA hf hp r1 r2
  go_enter Try.func6, Try.ntmps6
  go_wp2_with (first | (refine wpList_load_midg (by rfl) 46 _ rfl _ _ rfl (Ev.cells ?_) _ ?_ Try.underlying46 rfl (einfo _) ?_; rotate_left; (focus assumption)) | (go_at_call 14; refine (eright_any _ _).mono ?_; rintro e W1 ⟨rfl, hb⟩; rw [hr]; have HB1 := Lib.hid (hB0.out.trans (hb.mono hB0.out.size)); have HX1 := Lib.hid (HX.out.next hb); clear hb rx) | (go_at_call 19; refine (new_any _).mono ?_; rintro e W2 ⟨rfl, hw, hb⟩; have HB2 := Lib.hid (HB1.out.trans (hb.mono HB1.out.size)); have rx2 := (HX1.out.next hb).range; have HW2 := Lib.hid hw; clear hw hb) | (go_at_call 23; refine (evput_any _ _ x [] _ HW2.out hr HFF.out HPP.out (by decide)).mono ?_; rintro e W3 ⟨rfl, hw, hr3⟩; have HB3 := Lib.hid (HB2.out.trans (hr3.1.mono HB1.out.size)); have HW3 := Lib.hid hw; clear hw hr3) | (go_at_call 21; refine (bytes_any _ _ _ _ HW3.out (by rw [List.nil_append]; have := HL.out; omega)).mono ?_; rintro e W4 ⟨v4, rfl, hown, hb⟩; have HB4 := Lib.hid (HB3.out.trans (hb.mono HB3.out.size)); have HO4 := Lib.hid hown; clear hown hb))
  refine bodyPost_ret (v := .tuple #[v4, .int .i64 0]) (by simp [results, Try.results6, go_sem]) rfl ⟨v4, rfl, ?_, HB4.out⟩
  have := own_le HO4.out HB3.out.size
  rwa [List.nil_append] at this
end
end Go.Proofs.Yteplplmfepamdaa
