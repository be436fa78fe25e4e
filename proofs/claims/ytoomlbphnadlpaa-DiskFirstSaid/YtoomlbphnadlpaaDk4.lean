/-
disk: a range over what waits; end, Crash, Flush.
-/
import Derived.Test.YtoomlbphnadlpaaDk3
namespace Go.Proofs.Ytoomlbphnadlpaa
open Go.RowKit Go.Shelf
open Byt
set_option linter.unusedSimpArgs false
set_option linter.unusedVariables false
attribute [local go_sem] Oper.semAt_some

/-- A byte that waits. -/
abbrev One (ws : List Wt) := { x : Nat × Nat // x ∈ flat ws }
def encs {ws : List Wt} (x : One ws) : Array Value := #[.int .i64 (x.1.1 : Nat), .int .u8 (x.1.2 : Nat)]
def vals {ws : List Wt} (l : List (One ws)) : List (Nat × Nat) := l.map Subtype.val
theorem vals_app {ws : List Wt} (l : List (One ws)) (x : One ws) : vals (l ++ [x]) = vals l ++ [x.1] := by simp [vals]
theorem vals_len {ws : List Wt} (l : List (One ws)) : (vals l).length = l.length := by simp [vals]
set_option maxRecDepth 100000 in
set_option maxHeartbeats 4000000 in
theorem waiting1_nil (F : Fence) (n : Nat) (hF : F.fn 19) (hro : F.round = none) (l Bd d : Nat) (J : List (Nat × Nat) → World → Prop) (W : World) (hc : W.cell? ⟨Bd, 0, none⟩ = some (.pointer (some ⟨d, 0, none⟩))) (hv : W.cell? ⟨d, 1, none⟩ = some (.slice none 0 0)) (h0 : J [] W) :
    CallsIn F n Try.prog 19 #[.func (.yield l) #[] #[], .pointer (some ⟨Bd, 0, none⟩)] W fun e W' => (∃ v, e = .returned v) ∧ J [] W' := by
  refine callsIn_of_wp Try.func19 rfl hF ?_ hro
  simp only [Try.ntmps19, List.size_toArray, List.length_cons, List.length_nil, Nat.reduceAdd, Nat.reduceSub, Array.replicate_succ, Array.replicate_zero, List.push_toArray, List.append_toArray, List.nil_append, List.cons_append]
  gi_wp2
  gi_loopw [12] (fun i wr => i = .int .i64 0 ∧ J [] wr) (fun _ _ => 0)
  case atStart => exact ⟨rfl, h0⟩
  case round =>
    obtain ⟨rfl, hJs⟩ := hrel
    gi_wp2
    go_end0
    exact ⟨⟨_, rfl⟩, hJs⟩
section
variable {W : World} {B d : Nat} {F : Nat → Prop} {h n : Nat} {v : Value} {has : List Nat} {ws : List Wt} {fl wr : Int}
theorem Dk.reads (D : Dk W B d F h n v has ws fl wr) {X : Nat → Prop} (hX : ∀ k, F k → k ≠ h → ¬ X k) : (v = .slice none 0 0 ∧ ws = []) ∨ ∃ g cap, v = .slice (some ⟨g, 0, none⟩) ws.length cap ∧ Reads X W g ws := by
  have hbs : ∀ x ∈ ws, x.bs = [] ∨ ∃ b p cs z, x.A = some ⟨b, p, none⟩ ∧ ¬ X b ∧ W.heap[b]? = some (.cells cs 5 z) ∧ ∀ (i y : Nat), x.bs[i]? = some y → W.cell? ⟨b, p + i, none⟩ = some (.int .u8 (y : Nat)) := fun x hx => by
    obtain ⟨_, _, h3⟩ := D.at_ x hx
    refine h3.imp id ?_
    rintro ⟨b, p, e, hF, hne, ⟨cs, z, hz⟩, hc⟩
    exact ⟨b, p, cs, z, e, hX b hF hne, hz, hc⟩
  have hrow := D.row
  have hfv := D.fv
  obtain ⟨hl, ⟨rfl, h0⟩ | ⟨g, cap, cur, rfl, hg, hh, hnc, _, _, htake⟩⟩ := D.own
  · exact Or.inl ⟨rfl, List.length_eq_zero_iff.1 h0⟩
  · refine Or.inr ⟨g, cap, rfl, ⟨cur, ?_, hh, fun i x hx j u hj => ?_⟩, hbs⟩
    · refine hX g (hfv g rfl) ?_
      rintro rfl
      unfold Blk at hrow
      rw [hh] at hrow
      simp only [Option.some.injEq, Obj.cells.injEq] at hrow
      exact absurd hrow.2.1 (by decide)
    · have hj2 : j < 2 := by have := (List.getElem?_eq_some_iff.1 hj).1; rwa [wt_len] at this
      have h1 := wts_get ws i x j hx hj2
      have h2 := D.own.cells rfl (2 * i + j) u (by rw [h1, hj])
      rw [add_plain, Nat.zero_add, cell_of_row _ _ _ _ _ _ hh] at h2
      exact h2
theorem waiting_stops (D : Dk W B d F h n v has ws fl wr) (hlen : ws.length ≤ 100000) {X : Nat → Prop} (hX : ∀ k, F k → k ≠ h → ¬ X k) (hXs : ∀ k, X k → k < W.heap.size) (Fe : Fence) (m : Nat) (hF : Fe.fn 19) (hro : Fe.round = none) (hm : 1 ≤ m) (Bd : Nat) (hc : W.cell? ⟨Bd, 0, none⟩ = some (.pointer (some ⟨d, 0, none⟩))) :
    SeqStopsK Fe m Try.prog 19 #[.pointer (some ⟨Bd, 0, none⟩)] (encs (ws := ws)) (Kx X) (fun ys => vals ys = flat ws) (fun pre => vals pre <+: flat ws) (flat ws).length W := fun l J Jx W1 hb hJ _ hY h0 => by
  have D1 := D.next hb
  have hc1 := cell_next hb hc
  have hJa : ∀ s w o, J s w → J s (World.alloc w o) := fun s w o hs => hJ s w _ none hs (World.grownBy_alloc w o none) (fun r e => by cases e)
  rcases D1.reads hX with ⟨rfl, rfl⟩ | ⟨g, cap, rfl, hR⟩
  · exact (waiting1_nil Fe m hF hro l Bd d (fun p w => J [] w) W1 hc1 D1.c1 h0).mono fun e w ⟨he, hj⟩ => ⟨he, .inl ⟨[], rfl, hj⟩⟩
  · refine (waiting1_in Fe m hF hro hm l Bd d g cap X ws (fun p w => ∃ q, vals q = p ∧ J q w) (fun p w => ∃ q, vals q = p ∧ Jx q w) (fun s w o ⟨q, e, h⟩ => ⟨q, e, hJa q w o h⟩) ?_ W1 hc1 D1.c1 hR (fun k hk => Nat.lt_of_lt_of_le (hXs k hk) hb.size) (fun x hx => Nat.le_trans (D.at_ x hx).1 D.big) hlen ⟨[], rfl, h0⟩).mono ?_
    · rintro pre x w hx ⟨q, rfl, hq⟩ hlt
      rw [vals_len] at hlt
      obtain ⟨fn, tmps, assign, body, hy, hr⟩ := hY q ⟨x, hx⟩ w hq hlt
      refine ⟨fn, tmps, assign, body, hy, hr.mono ?_⟩
      rintro e w' (⟨rfl, hj, hk⟩ | ⟨rfl, hj⟩)
      · exact .inl ⟨rfl, ⟨_, vals_app q ⟨x, hx⟩, hj⟩, hk⟩
      · exact .inr ⟨rfl, ⟨_, vals_app q ⟨x, hx⟩, hj⟩⟩
    · rintro e w' ⟨he, ⟨ys, rfl, q, hq, hj⟩ | ⟨pre, hp, q, rfl, hj⟩⟩
      · exact ⟨he, .inl ⟨q, hq, hj⟩⟩
      · exact ⟨he, .inr ⟨q, hp, hj⟩⟩
end
/-- What comes of bytes that are put to their places. -/
def putL (has : List Nat) (l : List (Nat × Nat)) : List Nat := l.foldl (fun h x => h.set x.1 x.2) has
theorem putL_len : ∀ (l : List (Nat × Nat)) (has : List Nat), (putL has l).length = has.length
  | [], _ => rfl
  | x :: l, has => by
    show (putL (has.set x.1 x.2) l).length = _
    rw [putL_len l, List.length_set]
theorem putL_app (has : List Nat) (l m : List (Nat × Nat)) : putL has (l ++ m) = putL (putL has l) m := by simp [putL]
theorem putL_one (has : List Nat) (l : List (Nat × Nat)) (x : Nat × Nat) : putL has (l ++ [x]) = (putL has l).set x.1 x.2 := by simp [putL]
theorem putL_256 : ∀ (l : List (Nat × Nat)) (has : List Nat), (∀ y ∈ has, y < 256) → (∀ x ∈ l, x.2 < 256) → ∀ y ∈ putL has l, y < 256
  | [], _, h, _ => h
  | x :: l, has, h, hl => putL_256 l (has.set x.1 x.2) (fun y hy => by
      rcases List.mem_or_eq_of_mem_set hy with h1 | rfl
      · exact h y h1
      · exact hl x (by simp)) (fun z hz => hl z (by simp [hz]))
theorem puts_mem : ∀ (a : Nat) (bs : List Nat) (x : Nat × Nat), x ∈ puts a bs → a ≤ x.1 ∧ x.1 < a + bs.length ∧ x.2 ∈ bs
  | _, [], x, h => by cases h
  | a, y :: bs, x, h => by
    rcases List.mem_cons.1 h with rfl | h
    · simp
    · have := puts_mem (a + 1) bs x h
      simp only [List.length_cons, List.mem_cons]
      exact ⟨by omega, by omega, Or.inr this.2.2⟩
theorem Dk.flat {W : World} {B d : Nat} {F : Nat → Prop} {h n : Nat} {v : Value} {has : List Nat} {ws : List Wt} {fl wr : Int} (D : Dk W B d F h n v has ws fl wr) : ∀ x ∈ flat ws, x.1 < n ∧ x.2 < 256 := by
  intro x hx
  unfold Proofs.Ytoomlbphnadlpaa.flat at hx
  obtain ⟨y, hy, hxy⟩ := List.mem_flatMap.1 hx
  obtain ⟨h1, h2, _⟩ := D.at_ y hy
  have := puts_mem _ _ _ hxy
  exact ⟨by omega, h2 _ this.2.2⟩
/-- Between two rounds of end. -/
def EndAt (w : World) (X : Nat → Prop) (h nb : Nat) (has : List Nat) (last : Int) (p : List (Nat × Nat)) (W : World) : Prop :=
  Below 0 w W ∧ (∀ k, k < w.heap.size → ¬ X k → W.heap[k]? = w.heap[k]?) ∧ Blk W h 5 (u8s (putL has p)).toArray ∧ Blk W nb 3 #[.int .i64 (last - p.length)] ∧ (p = [] ∨ (p.length : Int) ≤ last)
theorem endAt_own {β : Type} {w : World} {X : Nat → Prop} {h nb : Nat} {has : List Nat} {last : Int} (f : β → List (Nat × Nat)) (hh : h < w.heap.size) (hn : nb < w.heap.size) : OwnFrom w.heap.size (fun (s : β) W => EndAt w X h nb has last (f s) W) := by
  rintro s W W' row ⟨h1, h2, h3, h4, h5⟩ hg hr
  have hne : ∀ k, k < w.heap.size → some k ≠ row := fun k hk e => by have := (hr k e.symm).1; omega
  exact ⟨h1.grown hg (Nat.zero_le _) (fun _ _ => Nat.zero_le _), fun k hk hX => (hg.block k (by have := h1.size; omega) (hne k hk)).trans (h2 k hk hX), (hg.block h h3.lt (hne h hh)).trans h3, (hg.block nb h4.lt (hne nb hn)).trans h4, h5⟩
theorem u8s_set (l : List Nat) (i x : Nat) : (u8s l).toArray.setIfInBounds i (.int .u8 (x : Nat)) = (u8s (l.set i x)).toArray := by
  simp [u8s, List.map_set]
theorem endAt_step {w W' : World} {X : Nat → Prop} {h nb : Nat} {has : List Nat} {last : Int} {q : List (Nat × Nat)} (hE : EndAt w X h nb has last q W') (hne : nb ≠ h) (hXh : X h) (hXn : X nb) (x : Nat × Nat) (hl : 0 < last - (q.length : Int)) :
    EndAt w X h nb has last (q ++ [x]) ((W'.setCell ⟨h, x.1, none⟩ (.int .u8 (x.2 : Nat))).setCell ⟨nb, 0, none⟩ (.int .i64 (last - q.length - 1))) := by
  obtain ⟨h1, h2, h3, h4, h5⟩ := hE
  refine ⟨(h1.setCell (p := ⟨h, x.1, none⟩) (Nat.zero_le _) _).setCell (p := ⟨nb, 0, none⟩) (Nat.zero_le _) _, fun k hk hX => ?_, ?_, ?_, Or.inr (by simp; omega)⟩
  · exact (Below.heap_setCell _ ⟨nb, 0, none⟩ _ k (fun e => hX (e ▸ hXn))).trans ((Below.heap_setCell _ ⟨h, x.1, none⟩ _ k (fun e => hX (e ▸ hXh))).trans (h2 k hk hX))
  · have := h3.setCell x.1 (.int .u8 (x.2 : Nat))
    rw [u8s_set, ← putL_one] at this
    exact this.far (fun e => hne e.symm) _
  · have e : last - (q.length : Int) - 1 = last - ((q ++ [x]).length : Nat) := by simp; omega
    rw [e]
    exact (h4.far (p := ⟨h, x.1, none⟩) hne _).setCell 0 _
theorem end_end {W w W1 : World} {B d nb Dd : Nat} {F : Nat → Prop} {h n : Nat} {v : Value} {has : List Nat} {ws : List Wt} {fl wr last : Int} (D : Dk W B d F h n v has ws fl wr) (hb : Below W.heap.size W w) {X : Nat → Prop} (hX : ∀ k, X k → F k ∨ W.heap.size ≤ k) (hXd : ¬ X d) {p : List (Nat × Nat)} (hp : p <+: flat ws)
    (he : EndAt w X h nb has last p W1) (hD : w.heap.size ≤ Dd) (o : Obj) :
    Dk ((W1.setCell ⟨d, 1, none⟩ (.slice none 0 0)).putObj Dd o) B d (Grow F W ((W1.setCell ⟨d, 1, none⟩ (.slice none 0 0)).putObj Dd o)) h n (.slice none 0 0) (putL has p) [] fl wr ∧ Turn B F W ((W1.setCell ⟨d, 1, none⟩ (.slice none 0 0)).putObj Dd o) := by
  obtain ⟨h1, h2, h3, h4, h5⟩ := he
  have hsz := hb.size
  have hd := D.low d D.fd
  have hh := D.low h D.fh
  have hw1 := h1.size
  have hhd : h ≠ d := by
    rintro rfl
    have h1 := D.blk
    have h2 := D.row
    unfold Blk at h1 h2
    rw [h1] at h2
    simp only [Option.some.injEq, Obj.cells.injEq] at h2
    exact absurd h2.2.1 (by decide)
  obtain ⟨w2, hw2⟩ : ∃ w2, w2 = (W1.setCell ⟨d, 1, none⟩ (.slice none 0 0)).putObj Dd o := ⟨_, rfl⟩
  have hs2 : w2.heap.size = W1.heap.size := by rw [hw2]; simp [World.setCell]
  have far : ∀ k, k ≠ d → k ≠ Dd → w2.heap[k]? = W1.heap[k]? := fun k hk hkD => by
    rw [hw2]
    exact (World.putObj_heap_other (fun e => hkD e)).trans (Below.heap_setCell W1 ⟨d, 1, none⟩ _ k hk)
  have hdw : Blk w2 d 41 #[.slice (some ⟨h, 0, none⟩) n n, .slice none 0 0, .int .i64 fl, .int .i64 wr] := by
    rw [hw2]
    have e1 : Blk W1 d 41 _ := (h2 d (by omega) hXd).trans (D.blk.next hb)
    exact (World.putObj_heap_other (by omega)).trans (e1.setCell 1 (.slice none 0 0))
  have old : ∀ k, k < W.heap.size → ¬ F k → w2.heap[k]? = W.heap[k]? := fun k hk hF =>
    (far k (fun e => hF (e ▸ D.fd)) (by omega)).trans ((h2 k (by omega) (fun hx => (hX k hx).elim hF (by omega))).trans (hb.block k hk))
  have hbel : Below B W w2 := by
    refine ⟨?_, ?_, ?_, by omega, fun k hk => old k (by omega) (fun hF => by have := (D.low k hF).1; omega)⟩
    · rw [hw2]; exact h1.os.trans hb.os
    · rw [hw2]; exact h1.tape.trans hb.tape
    · rw [hw2]; exact h1.output.trans hb.output
  rw [← hw2]
  clear hw2
  refine ⟨⟨Or.inl D.fd, Or.inl D.fh, fun k hk => by simp [Value.ownBlock] at hk, hdw, (far h hhd (by omega)).trans h3, by rw [putL_len]; exact D.len, putL_256 _ _ D.h256 (fun x hx => (D.flat x (hp.subset hx)).2), World.ownsRow_nil _ _ _ _, fun x hx => (by cases hx), ?_, D.pos, D.big⟩, hbel, old⟩
  rintro k (hk | ⟨e1, e2⟩)
  · have := D.low k hk; exact ⟨this.1, by omega⟩
  · exact ⟨by omega, e2⟩
set_option maxRecDepth 100000 in
set_option maxHeartbeats 4000000 in
theorem end_any {W : World} {B d : Nat} {F : Nat → Prop} {h n : Nat} {v : Value} {has : List Nat} {ws : List Wt} {fl wr : Int} (D : Dk W B d F h n v has ws fl wr) (hlen : ws.length ≤ 100000) (last : Int) (hl : -9223372036854775808 ≤ last ∧ last ≤ 9223372036854775807) :
    Calls Try.prog 15 #[.pointer (some ⟨d, 0, none⟩), .int .i64 last] W fun e W' => e = .returned (.tuple #[]) ∧ Dk W' B d (Grow F W W') h n (.slice none 0 0) (putL has ((flat ws).take last.toNat)) [] fl wr ∧ Turn B F W W' := by
  refine (callsIn_wide (n := 5)).1 ?_
  refine callsIn_of_wp_marks Try.func15 rfl trivial ?_ rfl
  simp only [Try.ntmps15, List.size_toArray, List.length_cons, List.length_nil, Nat.reduceAdd, Nat.reduceSub, Array.replicate_succ, Array.replicate_zero, List.push_toArray, List.append_toArray, List.nil_append, List.cons_append]
  gi_wp2_with (refine ⟨trivial, ?_⟩; gi_at_call 16; refine (callsIn_wide.2 (waiting_any _ _)).mono ?_; rintro e w' ⟨rfl, rfl⟩)
  obtain ⟨w3, hw3⟩ : ∃ w3, w3 = ((W.alloc (.cells #[.pointer (some ⟨d, 0, none⟩)] 23)).alloc (.cells #[.int .i64 last] 3)).alloc (.cells #[.pointer (some ⟨d, 0, none⟩)] 23) := ⟨_, rfl⟩
  have hs3 : w3.heap.size = W.heap.size + 3 := by rw [hw3]; simp
  have hb3 : Below W.heap.size W w3 := by rw [hw3]; exact (((Below.refl _ _).alloc (Nat.le_refl _) _).alloc (by simp) _).alloc (by simp; omega) _
  have bD : Blk w3 W.heap.size 23 #[.pointer (some ⟨d, 0, none⟩)] := by rw [hw3]; exact ((Blk.new _ _ _).alloc _).alloc _
  have bN : Blk w3 (W.heap.size + 1) 3 #[.int .i64 last] := by rw [hw3]; exact (Blk.new' (by simp)).alloc _
  have bW : Blk w3 (W.heap.size + 1 + 1) 23 #[.pointer (some ⟨d, 0, none⟩)] := by rw [hw3]; exact Blk.new' (by simp)
  rw [← hw3]
  clear hw3
  have D3 := D.next hb3
  have hdl := D.low d D.fd
  have hhl := D.low h D.fh
  have hXd : ¬ (d = h ∨ d = W.heap.size + 1) := by
    rintro (rfl | e)
    · have h1 := D.blk
      have h2 := D.row
      unfold Blk at h1 h2
      rw [h1] at h2
      simp only [Option.some.injEq, Obj.cells.injEq] at h2
      exact absurd h2.2.1 (by decide)
    · omega
  refine wpIn_rangeFunc_ownG rfl (by omega) (gf := 19) (lb := #[.pointer (some ⟨W.heap.size + 1 + 1, 0, none⟩)]) rfl trivial (enters_of Try.func19 (by kernel_rfl) rfl)
    (waiting_stops D3 hlen (X := fun k => k = h ∨ k = W.heap.size + 1) (fun k hk hne => by rintro (e | e); exact hne e; have := (D.low k hk).2; omega) (fun k hk => by rcases hk with rfl | rfl <;> omega) Fence.wide _ trivial rfl (by omega) (W.heap.size + 1 + 1) (bW.cell 0)) Kx_t Kx_b (Below.refl _ _) (fun _ => rfl)
    (fun pre W' => EndAt w3 (fun k => k = h ∨ k = W.heap.size + 1) h (W.heap.size + 1) has last (vals pre) W')
    (fun c pre W' => c = .exit 0 ∧ ∃ p x, vals pre = p ++ [x] ∧ last ≤ p.length ∧ EndAt w3 (fun k => k = h ∨ k = W.heap.size + 1) h (W.heap.size + 1) has last p W')
    (endAt_own vals (by omega) (by omega))
    (fun c => ?hIx)
    ⟨Below.refl _ _, fun _ _ _ => rfl, D3.row, by simpa [vals] using bN, Or.inl rfl⟩
    (fun x => { tmps := #[.pointer (some ⟨d, 0, none⟩), .int .i64 last, .pointer (some ⟨W.heap.size, 0, none⟩), .pointer (some ⟨W.heap.size + 1, 0, none⟩), .int .i64 (x.1.1 : Nat), .int .u8 (x.1.2 : Nat), .pointer (some ⟨d, 0, none⟩), .func (.func 19) #[] #[.pointer (some ⟨W.heap.size + 1 + 1, 0, none⟩)], .int .i64 (x.1.1 : Nat), .int .u8 (x.1.2 : Nat), undef, undef, undef, undef, undef, undef, undef, undef, undef, undef, undef, undef, undef, undef], defers := [] }) ?assign ?body ?done ?stop
  case hIx =>
    rintro s A A' row ⟨e1, p, x, e2, e3, e4⟩ hg hr
    exact ⟨e1, p, x, e2, e3, endAt_own (fun _ : Unit => p) (by omega) (by omega) () A A' row e4 hg hr⟩
  case assign =>
    intro l x W' K hK
    unfold encs
    gi_wp2
    exact hK
  case body =>
    rintro l pre x W' hE _
    obtain ⟨h1, h2, h3, h4, h5⟩ := id hE
    have cb : Blk W' W.heap.size 23 #[.pointer (some ⟨d, 0, none⟩)] := (h2 _ (by omega) (by rintro (e | e) <;> omega)).trans bD
    have cbc := cb.cell 0
    have cd : Blk W' d 41 #[.slice (some ⟨h, 0, none⟩) n n, v, .int .i64 fl, .int .i64 wr] := (h2 d (by omega) hXd).trans D3.blk
    have cdc := cd.cell 0
    have cn := h4.cell 0
    have zn := h4.frozen 0
    simp only [List.getElem?_toArray, List.getElem?_cons_zero] at cbc cdc cn
    obtain ⟨hx1, hx2⟩ := D.flat x.1 x.2
    have HE := Lib.hid hE
    obtain ⟨q, hq⟩ : ∃ q, q = vals pre := ⟨_, rfl⟩
    have HV := Lib.hid (show vals (pre ++ [x]) = q ++ [x.1] by rw [hq]; exact vals_app pre x)
    rw [← hq] at HE h3 h4 h5 cn
    clear hq hE
    by_cases hle : last - q.length ≤ 0
    · have HLE := Lib.hid hle
      clear h1 h2 h3 h4 h5 cb cd
      gi_wp2
      exact ⟨KeepsFrom.refl _ _, rfl, q, x.1, HV.out, by have := HLE.out; omega, HE.out⟩
    · obtain ⟨y, hy⟩ : ∃ y, (u8s (putL has q)).toArray[x.1.1]? = some y := ⟨_, Array.getElem?_eq_getElem (by simp [u8s, putL_len, D.len]; exact hx1)⟩
      have ch := h3.cell x.1.1
      rw [hy] at ch
      have zh := h3.frozen x.1.1
      have ew : wrap64 (last - (q.length : Int) - 1) = last - (q.length : Int) - 1 := by unfold wrap64; omega
      have hne : W.heap.size + 1 ≠ h := by omega
      have H3 := Lib.hid h3
      have H4 := Lib.hid h4
      clear h1 h2 h3 h4 h5 cb cd hy
      have HLE := Lib.hid hle
      gi_wp2
      refine ⟨((KeepsOthers.setCell _ _ _).trans (KeepsOthers.setCell _ _ _)).from _, Kx_t (Kx.set _ _ _ (Or.inl rfl)) (Kx.set _ _ _ (Or.inr rfl)), ?_⟩
      show EndAt _ _ _ _ _ _ (vals (pre ++ [x])) _
      rw [HV.out]
      exact endAt_step HE.out hne (Or.inl rfl) (Or.inr rfl) x.1 HLE.out
  case done =>
    rintro Dd ys W' hDd hS hE hK
    obtain ⟨h1, h2, h3, h4, h5⟩ := id hE
    have cb : Blk W' W.heap.size 23 #[.pointer (some ⟨d, 0, none⟩)] := (h2 _ (by omega) (by rintro (e | e) <;> omega)).trans bD
    have cbc := cb.cell 0
    have cd : Blk W' d 41 #[.slice (some ⟨h, 0, none⟩) n n, v, .int .i64 fl, .int .i64 wr] := (h2 d (by omega) hXd).trans D3.blk
    have cd1 := cd.cell 1
    have zd1 := cd.frozen 1
    simp only [List.getElem?_toArray, List.getElem?_cons_zero, List.getElem?_cons_succ] at cbc cd1
    have ht : (flat ws).take last.toNat = vals ys := by
      have hS' : vals ys = flat ws := hS
      rw [← hS']
      rcases h5 with h | h
      · rw [h, List.take_nil]
      · exact List.take_of_length_le (by omega)
    have hpre : vals ys <+: flat ws := by rw [show vals ys = flat ws from hS]; exact List.prefix_refl _
    have HE := Lib.hid hE
    clear h1 h2 h3 h4 h5 cb cd hS
    gi_wp2
    have hK' := (KeepsOthers.setCell W' ⟨d, 1, none⟩ (.slice none 0 0)).same Dd _ hK rfl
    refine ⟨by simp, .inl ⟨_, _, rfl, run_takeDeferred hK', ?_⟩⟩
    rw [ht]
    exact ⟨_, results_none rfl _ _ _, rfl, end_end D hb3 (fun k hk => by rcases hk with rfl | rfl; exact Or.inl D.fh; exact Or.inr (by omega)) hXd hpre HE.out (by omega) _⟩
  case stop =>
    rintro Dd c pre W' hDd hS ⟨rfl, p, x, hpx, hlp, hE⟩ hK
    obtain ⟨h1, h2, h3, h4, h5⟩ := id hE
    have cb : Blk W' W.heap.size 23 #[.pointer (some ⟨d, 0, none⟩)] := (h2 _ (by omega) (by rintro (e | e) <;> omega)).trans bD
    have cbc := cb.cell 0
    have cd : Blk W' d 41 #[.slice (some ⟨h, 0, none⟩) n n, v, .int .i64 fl, .int .i64 wr] := (h2 d (by omega) hXd).trans D3.blk
    have cd1 := cd.cell 1
    have zd1 := cd.frozen 1
    simp only [List.getElem?_toArray, List.getElem?_cons_zero, List.getElem?_cons_succ] at cbc cd1
    have hpre : p <+: flat ws := by
      have : vals pre <+: flat ws := hS
      rw [hpx] at this
      exact (List.prefix_append p [x]).trans this
    have ht : (flat ws).take last.toNat = p := by
      obtain ⟨r, hr⟩ := hpre
      rw [← hr]
      rcases h5 with h | h
      · subst h
        have : last.toNat = 0 := by simp at hlp; omega
        rw [this]; rfl
      · rw [List.take_left' (by omega)]
    have HE := Lib.hid hE
    clear h1 h2 h3 h4 h5 cb cd hS hpx hlp
    gi_wp2
    have hK' := (KeepsOthers.setCell W' ⟨d, 1, none⟩ (.slice none 0 0)).same Dd _ hK rfl
    refine ⟨by simp, .inl ⟨_, _, rfl, run_takeDeferred hK', ?_⟩⟩
    rw [ht]
    exact ⟨_, results_none rfl _ _ _, rfl, end_end D hb3 (fun k hk => by rcases hk with rfl | rfl; exact Or.inl D.fh; exact Or.inr (by omega)) hXd hpre HE.out (by omega) _⟩
end Go.Proofs.Ytoomlbphnadlpaa
