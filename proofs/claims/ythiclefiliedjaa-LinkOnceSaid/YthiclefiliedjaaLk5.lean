/-
link: Acked.
-/
import Derived.Test.YthiclefiliedjaaLk4
namespace Go.Proofs.Ythiclefiliedjaa
open Go.RowKit
set_option linter.unusedSimpArgs false
set_option linter.unusedVariables false
namespace Lk
theorem run_enter {P : Program} {f : FuncId} {fn : Func} (hf : P.funcs[f]? = some fn) (hname : (fn.name == "runtime.NumGoroutine") = false) (hb : fn.body.isSome = true) (args : Array Value) (w : World) :
    (callFunc f args).run P w = .ok (.enter f args) w := by
  have h1 : fn.name ≠ "runtime.NumGoroutine" := by simpa using hname
  obtain ⟨c, hc⟩ := Option.isSome_iff_exists.1 hb
  simp [callFunc, hf, h1, hc]
/-- How many texts Acked tells of. -/
def ackN (s : LS) (q : Nat) : Nat := q + 1 + s.ts.length - s.nx
def ackE (s : LS) (q : Nat) : Int := if s.nx ≤ q then 14 else 0
def LS.ack (s : LS) (q : Nat) : LS := if s.nx ≤ q then s else ⟨s.nx, s.ex, s.ts.drop (ackN s q)⟩
def ackR (s : LS) (q : Nat) : Nat := if s.nx ≤ q then 0 else ackN s q
theorem own_row {W : World} {B : Nat} {v : Value} {l : List It} (h : W.ownsRow B 48 2 v l.length (its l)) : ∃ A c, v = .slice A l.length c ∧ l.length ≤ c ∧ RowI W (fun k => B ≤ k ∧ k < W.heap.size) A l := by
  have h1 := h
  obtain ⟨hl, ⟨rfl, hz⟩ | ⟨g, cap, cur, rfl, hg, hh, hnc, _⟩⟩ := h
  · rw [hz]; exact ⟨none, 0, rfl, Nat.le_refl _, Or.inl ⟨rfl, List.length_eq_zero_iff.1 hz⟩⟩
  · refine ⟨_, cap, rfl, hnc, Or.inr ⟨g, 0, cur, _, rfl, ⟨hg, (h1.lt g rfl).2⟩, hh, fun i x hx j u hj => ?_⟩⟩
    have := h1.cells rfl (2 * i + j) u (by rw [its_get l i x j hx (by have := (List.getElem?_eq_some_iff.1 hj).1; rwa [it_len] at this)]; exact hj)
    rwa [add_plain, ← Nat.add_assoc] at this
theorem ack_end {W w9 : World} {B d c m : Nat} {F : Nat → Prop} {A : Option Addr} {l : List It} {s : LS} {v : Value} (D : Lnk W B d F A c l s) (hb : Below W.heap.size W w9) (hm : m ≤ l.length) (hO : w9.ownsRow W.heap.size 48 2 v (l.length - m) (its (l.drop m))) :
    LK (w9.setCell ⟨d, 1, none⟩ v) B d (Grow F W (w9.setCell ⟨d, 1, none⟩ v)) ⟨s.nx, s.ex, s.ts.drop m⟩ ∧ Turn B F W (w9.setCell ⟨d, 1, none⟩ v) := by
  rw [show l.length - m = (l.drop m).length by simp] at hO
  obtain ⟨A', c', rfl, hcap, hrow⟩ := own_row hO
  have D9 := D.next hb
  have hd := D.low d D.fd
  have hs9 := hb.size
  have hd' := D9.blk.setCell 1 (.slice A' (l.drop m).length c')
  obtain ⟨w', hw⟩ : ∃ w', w' = w9.setCell ⟨d, 1, none⟩ (.slice A' (l.drop m).length c') := ⟨_, rfl⟩
  have hsz : w'.heap.size = w9.heap.size := by rw [hw]; simp [World.setCell]
  have far : ∀ j, j ≠ d → w'.heap[j]? = w9.heap[j]? := fun j hj => by rw [hw]; exact Below.heap_setCell _ ⟨d, 1, none⟩ _ j hj
  have hb' : Below B W w' := by rw [hw]; exact (hb.mono (by omega)).setCell (p := ⟨d, 1, none⟩) hd.1 _
  rw [← hw] at hd' ⊢
  clear hw
  have old : ∀ j, j < W.heap.size → j ≠ d → w'.heap[j]? = W.heap[j]? := fun j hj hjd => (far j hjd).trans (hb.block j hj)
  have hrd : ∀ {b : Nat} {cs : Array Value} {z : Nat × Nat}, W.heap[b]? = some (.cells cs 5 z) → b ≠ d := by
    rintro b cs z hh rfl
    have := D.blk
    unfold Blk at this
    rw [this] at hh
    simp only [Option.some.injEq, Obj.cells.injEq] at hh
    exact absurd hh.2.1 (by decide)
  refine ⟨⟨A', c', l.drop m, Or.inl D.fd, hd', hcap, hrow.keep fun k hk => ⟨Or.inr ⟨hk.1, by omega⟩, far k (by omega)⟩, ?_, ?_, ?_, by rw [List.map_drop, D.ts], by have := D.len; simp; omega, by have := D.lt; simp; omega, D.big, D.e1, D.e2⟩, hb', fun j hj hF => old j hj (fun e => hF (e ▸ D.fd))⟩
  · intro x hx
    obtain ⟨h1, h2, h3, h4, b, p, cs, z, e, hF, hh, hc⟩ := D.at_ x (List.mem_of_mem_drop hx)
    have hk := old b (D.low b hF).2 (hrd hh)
    exact ⟨h1, h2, h3, h4, b, p, cs, z, e, Or.inl hF, hk.trans hh, fun i y hy => (World.cell?_of_block hk).trans (hc i y hy)⟩
  · intro i x hx
    rw [List.getElem?_drop] at hx
    have := D.seq _ x hx
    have hlt := (List.getElem?_eq_some_iff.1 hx).1
    simp only [List.length_drop]
    omega
  · rintro j (hj | ⟨h1, h2⟩)
    · have := D.low j hj; exact ⟨this.1, by omega⟩
    · exact ⟨by omega, h2⟩
theorem drop_src {W : World} {F : Nat → Prop} {A : Option Addr} {l : List It} {m c : Nat} (h : RowI W F A l) (hm : m ≤ l.length) (hc : l.length ≤ c) : Src W (if c = m then A else Option.map (fun x => x.add (m * 2)) A) (l.length - m) (its (l.drop m)) := by
  by_cases h0 : l.length = m
  · have hd : l.drop m = [] := List.drop_eq_nil_of_le (by omega)
    rw [hd, h0, Nat.sub_self]
    rcases h with ⟨rfl, _⟩ | ⟨g, o, cs, z, rfl, _⟩
    · split
      · exact Or.inr ⟨rfl, rfl, rfl⟩
      · exact Or.inr ⟨rfl, rfl, rfl⟩
    · split
      · exact Or.inl ⟨_, rfl, fun j u hj => by simp [its] at hj⟩
      · exact Or.inl ⟨_, rfl, fun j u hj => by simp [its] at hj⟩
  · rw [if_neg (by omega)]
    rcases h with ⟨_, rfl⟩ | ⟨g, o, cs, z, rfl, _, _, hx⟩
    · simp at h0 hm; omega
    · refine Or.inl ⟨_, rfl, fun j u hj => ?_⟩
      rw [its_drop, List.getElem?_drop] at hj
      obtain ⟨x, h1, h2⟩ := its_src l _ u hj
      have := hx _ x h1 _ u h2
      show W.cell? (((⟨g, o, none⟩ : Addr).add (m * 2)).add j) = some u
      rw [add_plain, add_plain]
      rwa [show o + 2 * ((2 * m + j) / 2) + (2 * m + j) % 2 = o + m * 2 + j by omega] at this
section
variable (W : World) {B d : Nat} {F : Nat → Prop} {s : LS}
set_option maxRecDepth 20000 in
theorem acked_made {d : Option Addr} (HM : ∀ w, Below W.heap.size W w → Calls Try.prog 31 #[.pointer d] w fun e W' => e = .returned (.bool false) ∧ w = W') (q : Nat) : Calls Try.prog 12 #[.pointer d, .int .u64 (q : Nat)] W fun e W' => e = .returned (.tuple #[.int .i64 0, .int .i64 6]) ∧ Below W.heap.size W W' := by
  have hb1 : Below W.heap.size W (W.alloc (.cells #[.pointer d] 23)) := (Below.refl _ W).alloc (Nat.le_refl _) _
  have hb2 : Below W.heap.size W ((W.alloc (.cells #[.pointer d] 23)).alloc (.cells #[.int .u64 (q : Nat)] 29)) := hb1.alloc hb1.size _
  have HM2 := Lib.hid (HM _ hb2)
  have HB := Lib.hid hb2
  clear HM hb1 hb2
  go_enter Try.func12, Try.ntmps12
  go_wp2_with (go_at_call 31; refine HM2.out.mono ?_; rintro e w1 ⟨rfl, rfl⟩)
  go_ret2
  exact ⟨rfl, HB.out⟩
set_option maxHeartbeats 8000000 in
set_option maxRecDepth 20000 in
theorem acked_any (h : LK W B d F s) (q : Nat) : Calls Try.prog 12 #[.pointer (some ⟨d, 0, none⟩), .int .u64 (q : Nat)] W fun e W' =>
    e = .returned (.tuple #[.int .i64 ((ackR s q : Nat) : Int), .int .i64 (ackE s q)]) ∧ LK W' B d (Grow F W W') (s.ack q) ∧ Turn B F W W' := by
  have HL := Lib.hid h
  obtain ⟨A, c, l, D⟩ := h
  have hb1 : Below W.heap.size W (W.alloc (.cells #[.pointer (some ⟨d, 0, none⟩)] 23)) := (Below.refl _ W).alloc (Nat.le_refl _) _
  have hb2 : Below W.heap.size W ((W.alloc (.cells #[.pointer (some ⟨d, 0, none⟩)] 23)).alloc (.cells #[.int .u64 (q : Nat)] 29)) := hb1.alloc hb1.size _
  have HM := Lib.hid (made_any _ (HL.out.next hb2))
  have k1 : Blk ((W.alloc (.cells #[.pointer (some ⟨d, 0, none⟩)] 23)).alloc (.cells #[.int .u64 (q : Nat)] 29)) W.heap.size 23 #[.pointer (some ⟨d, 0, none⟩)] := (Blk.new W _ _).alloc _
  have k2 : Blk ((W.alloc (.cells #[.pointer (some ⟨d, 0, none⟩)] 23)).alloc (.cells #[.int .u64 (q : Nat)] 29)) (W.heap.size + 1) 29 #[.int .u64 (q : Nat)] := Blk.new' (by simp)
  have D2 := D.next hb2
  have HK := Lib.hid (And.intro k1 (And.intro k2 hb2))
  have HD := Lib.hid D
  have HM1 := Lib.hid (show (W.alloc (.cells #[.pointer (some ⟨d, 0, none⟩)] 23)).heap.size = W.heap.size + 1 by simp)
  clear hb1 hb2 D k1 k2 D2
  go_enter Try.func12, Try.ntmps12
  go_upto_region 3 with (go_at_call 31; refine HM.out.mono ?_; rintro e w1 ⟨rfl, rfl⟩)
  (try rw [HM1.out])
  (try simp only [Act.put, List.setIfInBounds_toArray, List.set_cons_zero, List.set_cons_succ])
  obtain ⟨w2, hw2⟩ : ∃ w2, w2 = (W.alloc (.cells #[.pointer (some ⟨d, 0, none⟩)] 23)).alloc (.cells #[.int .u64 (q : Nat)] 29) := ⟨_, rfl⟩
  rw [← hw2] at HK ⊢
  have hz2 : w2.heap.size = W.heap.size + 2 := by rw [hw2]; simp
  clear hw2 HM HM1
  obtain ⟨k1, k2, hb2⟩ := HK.out
  have D2 := HD.out.next hb2
  have q1 : w2.cell? ⟨W.heap.size, 0, none⟩ = some (.pointer (some ⟨d, 0, none⟩)) := k1.cell 0
  have q2 : w2.cell? ⟨W.heap.size + 1, 0, none⟩ = some (.int .u64 (q : Nat)) := k2.cell 0
  have c0 := D2.c0
  have c1 := D2.c1
  have HD2 := Lib.hid D2
  clear k1 k2 hb2 D2
  obtain ⟨b1, hbb1⟩ : ∃ b1, b1 = W.heap.size := ⟨_, rfl⟩
  obtain ⟨b2, hbb2⟩ : ∃ b2, b2 = W.heap.size + 1 := ⟨_, rfl⟩
  rw [← hbb2] at q2 ⊢
  rw [← hbb1] at q1 ⊢
  have HBB := Lib.hid (And.intro hbb1 hbb2)
  clear hbb1 hbb2
  refine wp_region_plan (S := fun w' => w' = World.drew w2) [(0, true), (1, true), (2, true), (3, true), (4, true), (5, true), (6, true)] 9999 (by kernel_rfl) (by kernel_rfl) (by kernel_rfl) (by kernel_rfl) (by kernel_rfl) (fun _ _ d _ _ h => by cases d <;> exact h) rfl (fun hHeld => ?_); simp only [List.map_cons, List.map_nil, List.getElem?_toArray, List.getElem?_cons_zero, List.getElem?_cons_succ]
  (repeat (first | (refine wpPlan.take (v := undef) (Or.inr ⟨by rfl, rfl⟩) ?_; simp only [Act.put, List.setIfInBounds_toArray, List.set_cons_zero, List.set_cons_succ]) | (refine wpPlan.take (v := ?_) (Or.inl ⟨by rfl, ?_⟩) ?_; rotate_left; (focus (intro _ hS; (try dsimp only at hS); go_split_ands; (try subst hS); go_simp; (try (with_reducible rfl)); done)); simp only [Act.put, List.setIfInBounds_toArray, List.set_cons_zero, List.set_cons_succ]))); refine wpPlan.done ?_; clear hHeld
  by_cases hq : s.nx ≤ q
  · have HE := Lib.hid (show ackE s q = 14 by unfold ackE; rw [if_pos hq])
    have HR := Lib.hid (show ackR s q = 0 by unfold ackR; rw [if_pos hq])
    have HS := Lib.hid (show s.ack q = s by unfold LS.ack; rw [if_pos hq])
    have hb2 : Below W.heap.size W w2 := HK.out.2.2
    have HB2 := Lib.hid hb2.drew
    rw [decide_eq_true hq]
    clear hq hb2
    go_wp2_with fail
    go_ret2
    exact ⟨by (rw [HE.out, HR.out]; try rfl), by rw [HS.out]; exact LK.grow W HL.out HB2.out, turn_below HL.out HB2.out⟩
  · have HE := Lib.hid (show ackE s q = 0 by unfold ackE; rw [if_neg hq])
    have HR := Lib.hid (show ackR s q = ackN s q by unfold ackR; rw [if_neg hq])
    have HS := Lib.hid (show s.ack q = ⟨s.nx, s.ex, s.ts.drop (ackN s q)⟩ by unfold LS.ack; rw [if_neg hq])
    have htl := HD.out.tl
    have hlen := HD.out.len
    obtain ⟨m, hm⟩ : ∃ m, m = ackN s q := ⟨_, rfl⟩
    have hmn : m = q + 1 + l.length - s.nx := by rw [hm]; unfold ackN; rw [htl]
    have hml : m ≤ l.length := by omega
    have HML := Lib.hid hml
    have HMM := Lib.hid hm
    rw [decide_eq_false hq]
    have hmf : ∀ (fn : Fn) (first cap : Array Value) (w : World), (Instr.makeFunc fn first cap).run Try.prog w = .ok (.func fn first cap) w := fun _ _ _ _ => rfl
    have HC := Lib.hid (search_any 35 #[.pointer (some ⟨b1, 0, none⟩), .pointer (some ⟨b2, 0, none⟩)] l.length m hml w2.drew (fun args w => run_enter Try.func35 (by kernel_rfl) (by kernel_rfl) args w) (by omega) (fun w hb i hi => by
      have hbw : Below w2.heap.size w2 w := (Below.refl _ _).drew.trans hb
      have DW := HD2.out.next hbw
      obtain ⟨x, hx⟩ : ∃ x, l[i]? = some x := ⟨_, List.getElem?_eq_getElem hi⟩
      rcases DW.row with ⟨_, h0⟩ | ⟨g, o, cs, z, hA, _, _, hc⟩
      · rw [h0] at hi; simp at hi
      · have h1 := DW.c1
        rw [hA] at h1
        refine (acked1_any w (cell_next hbw q1) (cell_next hbw q2) h1 hi (q := x.q) (by have := hc i x hx 0 _ it_0; rwa [Nat.add_zero, show 2 * i = i * 2 by omega] at this)).mono ?_
        rintro e w' ⟨rfl, hb'⟩
        have hsq := HD.out.seq i x hx
        exact ⟨by rw [show decide (q < x.q) = decide (m ≤ i) from decide_eq_decide.2 (by omega)], hb'⟩))
    have HHM := Lib.hid hmn
    clear hq htl hlen hml hm hmn
    go_upto_region 6 with (first | (go_at_call 34; refine HC.out.mono ?_; rintro e w5 ⟨rfl, hb5⟩))
    clear hmf
    have hb25 : Below w2.heap.size w2 w5 := (Below.refl _ _).drew.trans hb5
    have HB5 := Lib.hid (HK.out.2.2.trans (hb25.mono HK.out.2.2.size))
    have q1 := cell_next hb25 q1
    have c1 := cell_next hb25 c1
    have hN : m ≤ l.length := HML.out
    have hN' : (m : Int) ≤ (l.length : Nat) := by omega
    have hc' : l.length ≤ c := HD.out.cap
    obtain ⟨N, hNN⟩ : ∃ N, N = l.length := ⟨_, rfl⟩
    have HNN := Lib.hid hNN
    rw [← hNN] at c1 hN hN' hc'
    clear hb5 hb25 q2 c0 hNN
    (try simp only [Act.put, List.setIfInBounds_toArray, List.set_cons_zero, List.set_cons_succ])
    refine wp_region_treeL (S := (fun w' => w'.cell? ⟨b1, 0, none⟩ = some (.pointer (some ⟨d, 0, none⟩)) ∧ w'.cell? ⟨d, 1, none⟩ = some (.slice A N c))) (.take 0 (.take 1 (.take 2 (.take 3 (.take 4 (.take 5 (.take 6 (.one 7 (.take 8 (.take 9 (.last 10))))))))))) 10 (by kernel_rfl) (by kernel_rfl) (by kernel_rfl) (by kernel_rfl) (by kernel_rfl) (fun _ _ d _ _ h => by cases d <;> exact h) ⟨q1, c1⟩ (fun hHeld => ?_); simp only [Tree.map, List.getElem?_toArray, List.getElem?_cons_zero, List.getElem?_cons_succ]
    (repeat (first | (refine wpTree.take (v := undef) (Or.inr ⟨by rfl, rfl⟩) ?_; simp only [Act.put, List.setIfInBounds_toArray, List.set_cons_zero, List.set_cons_succ]) | (refine wpTree.take (v := ?_) (Or.inl ⟨by rfl, ?_⟩) ?_; rotate_left; (focus (intro _ hS; (try dsimp only at hS); go_split_ands; (try subst hS); go_simp; (try (with_reducible rfl)); done)); simp only [Act.put, List.setIfInBounds_toArray, List.set_cons_zero, List.set_cons_succ])))
    have D5 := HD.out.next HB5.out.drew
    have hsrc := drop_src D5.row HML.out HD.out.cap
    rw [← HNN.out] at hsrc
    obtain ⟨A2, hA2⟩ : ∃ A2, A2 = (if c = m then A else Option.map (fun x => x.add (m * 2)) A) := ⟨_, rfl⟩
    rw [← hA2] at hsrc ⊢
    obtain ⟨c2, hc2⟩ : ∃ c2, c2 = c - m := ⟨_, rfl⟩
    rw [← hc2]
    clear hA2 hc2 D5
    obtain ⟨i0, z0, hi, hz, hsz, hby, hzs⟩ := info_it
    have hln : (its (l.drop m)).length = (N - m) * 2 := by rw [its_len, List.length_drop, HNN.out]
    refine wpTree.one (fun K hK => ?_)
    refine step_append_g (w := w5.drew) (by rfl) _ _ 42 rfl W.heap.size 48 i0 z0 Try.underlying42 hi hz (by rw [hsz]; exact hzs) (by rw [hsz]; decide) (.slice none 0 0) 0 [] rfl (World.ownsRow_nil _ _ _ _) A2 (N - m) c2 (its (l.drop m)) rfl (by rw [hsz]; exact hln) hsrc (its_ones _) (by unfold maxLen; have := HNN.out; have := HD.out.len; omega) (by rw [hby]; have := HNN.out; have := HD.out.len; omega) HB5.out.size ?_
    intro v7 w7 hown hgrow hloc
    rw [hsz, Nat.zero_add, List.nil_append] at hown
    have hb7 : Below W.heap.size W w7 := HB5.out.drew.grown hgrow HB5.out.size (fun k e => by cases e)
    have hbw7 : ∀ k, k < w5.heap.size → w7.heap[k]? = w5.heap[k]? := fun k hk => hgrow.block k hk (by simp [Value.ownBlock])
    have q1' : w7.cell? ⟨b1, 0, none⟩ = some (.pointer (some ⟨d, 0, none⟩)) := (World.cell?_of_block (hbw7 b1 (World.block_lt_of_cell? _ ⟨b1, 0, none⟩ q1))).trans q1
    have c1' : w7.cell? ⟨d, 1, none⟩ = some (.slice A N c) := (World.cell?_of_block (hbw7 d (World.block_lt_of_cell? _ ⟨d, 1, none⟩ c1))).trans c1
    have HO7 := Lib.hid hown
    obtain ⟨A7, k7, rfl, -⟩ := ownG_slice hown
    have HB7 := Lib.hid hb7
    refine hK.out _ _ ⟨q1', c1'⟩ (fun hHeld7 => ?_)
    clear hK K hHeld hown hgrow hloc hb7 hbw7 hi hz hsz hby hzs hsrc hln q1 c1
    (try simp only [Act.put, List.setIfInBounds_toArray, List.set_cons_zero, List.set_cons_succ])
    (repeat (first | (refine wpTree.take (v := undef) (Or.inr ⟨by rfl, rfl⟩) ?_; simp only [Act.put, List.setIfInBounds_toArray, List.set_cons_zero, List.set_cons_succ]) | (refine wpTree.take (v := ?_) (Or.inl ⟨by rfl, ?_⟩) ?_; rotate_left; (focus (intro _ hS; (try dsimp only at hS); go_split_ands; (try subst hS); go_simp; (try (with_reducible rfl)); done)); simp only [Act.put, List.setIfInBounds_toArray, List.set_cons_zero, List.set_cons_succ])))
    have z1 := (HD.out.next HB7.out).blk.frozen 1
    refine wpTree.last (fun K hK => ?_)
    go_simp
    refine hK.out _ _ ?_
    clear hK K
    (try simp only [Act.put, List.setIfInBounds_toArray, List.set_cons_zero, List.set_cons_succ])
    go_wp2_with fail
    go_ret2
    refine ⟨by (rw [HE.out, HR.out, ← HMM.out]; try rfl), ?_⟩
    rw [HS.out, ← HMM.out]
    exact ack_end HD.out HB7.out HML.out (by rw [← HNN.out]; exact HO7.out)
end
end Lk
end Go.Proofs.Ythiclefiliedjaa
