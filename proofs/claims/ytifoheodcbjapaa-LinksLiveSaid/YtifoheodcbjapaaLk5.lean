/-
link: Acked.
-/
import Derived.Test.YtifoheodcbjapaaLk4
namespace Go.Proofs.Ytifoheodcbjapaa
open Go.RowKit
set_option linter.unusedSimpArgs false
set_option linter.unusedVariables false
namespace Lk
theorem run_enter {P : Program} {f : FuncId} {fn : Func} (hf : P.funcs[f]? = some fn) (hname : (fn.name == "runtime.NumGoroutine") = false) (hb : fn.body.isSome = true) (args : Array Value) (w : World) :
    (callFunc f args).run P w = .ok (.enter f args) w := by
  have h1 : fn.name ≠ "runtime.NumGoroutine" := by simpa using hname
  obtain ⟨c, hc⟩ := Option.isSome_iff_exists.1 hb
  simp [callFunc, hf, h1, hc]
/-- How many texts Acked tells of. -/
def ackN (s : LS) (q : Nat) : Nat := q + 1 + s.ts.length - s.nx
def ackE (s : LS) (q : Nat) : Int := if s.nx ≤ q then 14 else 0
def LS.ack (s : LS) (q : Nat) : LS := if s.nx ≤ q then s else ⟨s.nx, s.ex, s.ts.drop (ackN s q)⟩
def ackR (s : LS) (q : Nat) : Nat := if s.nx ≤ q then 0 else ackN s q
theorem own_row {W : World} {B : Nat} {v : Value} {l : List It} (h : W.ownsRow B 70 2 v l.length (its l)) : ∃ A c, v = .slice A l.length c ∧ l.length ≤ c ∧ RowI W (fun k => B ≤ k ∧ k < W.heap.size) A l := by
  have h1 := h
  obtain ⟨hl, ⟨rfl, hz⟩ | ⟨g, cap, cur, rfl, hg, hh, hnc, _⟩⟩ := h
  · rw [hz]; exact ⟨none, 0, rfl, Nat.le_refl _, Or.inl ⟨rfl, List.length_eq_zero_iff.1 hz⟩⟩
  · refine ⟨_, cap, rfl, hnc, Or.inr ⟨g, 0, cur, _, rfl, ⟨hg, (h1.lt g rfl).2⟩, hh, fun i x hx j u hj => ?_⟩⟩
    have := h1.cells rfl (2 * i + j) u (by rw [its_get l i x j hx (by have := (List.getElem?_eq_some_iff.1 hj).1; rwa [it_len] at this)]; exact hj)
    rwa [add_plain, ← Nat.add_assoc] at this
theorem set_same {cs : Array Value} {i : Nat} {v : Value} (h : cs[i]? = some v) : cs.setIfInBounds i v = cs := by
  apply Array.ext_getElem?
  intro j
  rw [Array.getElem?_setIfInBounds]
  split
  · rename_i e; subst e
    have hi := (Array.getElem?_eq_some_iff.1 h).1
    rw [if_pos hi, h]
  · rfl
/-- What Acked leaves. -/
def AckP (B d o : Nat) (t : TypeId) (cs : Array Value) (F : Nat → Prop) (s' : LS) (W W' : World) : Prop :=
  ∃ A c l, LnkO W' B d o t (cs.setIfInBounds (o + 1) (.slice A l.length c)) (Grow F W W') A c l s' ∧ Turn B (fun k => k = d) W W'
theorem LnkO.grow {W W' : World} {B d o c : Nat} {t : TypeId} {cs : Array Value} {F : Nat → Prop} {A : Option Addr} {l : List It} {s : LS} (D : LnkO W B d o t cs F A c l s) (hb : Below W.heap.size W W') : LnkO W' B d o t cs (Grow F W W') A c l s :=
  ⟨D.tn, Or.inl D.fd, (D.next hb).blk, D.k0, D.k1, D.k2, D.ok.keep fun k h => ⟨Or.inl h, hb.block k (D.low k h).2⟩, by
    have hd := D.low d D.fd
    rintro k (hk | ⟨h1, h2⟩)
    · exact ⟨(D.low k hk).1, Nat.lt_of_lt_of_le (D.low k hk).2 hb.size⟩
    · exact ⟨by omega, h2⟩⟩
theorem ack_same {W W' : World} {B d o c : Nat} {t : TypeId} {cs : Array Value} {F : Nat → Prop} {A : Option Addr} {l : List It} {s : LS} (D : LnkO W B d o t cs F A c l s) (hb : Below W.heap.size W W') : AckP B d o t cs F s W W' :=
  ⟨A, c, l, by rw [set_same D.k1]; exact D.grow hb, hb.mono (by have := D.low d D.fd; omega), fun k hk _ => hb.block k hk⟩
theorem ack_end {W w9 : World} {B d o c m : Nat} {t : TypeId} {cs : Array Value} {F : Nat → Prop} {A : Option Addr} {l : List It} {s : LS} {v : Value} (D : LnkO W B d o t cs F A c l s) (hb : Below W.heap.size W w9) (hm : m ≤ l.length) (hO : w9.ownsRow W.heap.size 70 2 v (l.length - m) (its (l.drop m))) :
    AckP B d o t cs F ⟨s.nx, s.ex, s.ts.drop m⟩ W (w9.setCell ⟨d, o + 1, none⟩ v) := by
  rw [show l.length - m = (l.drop m).length by simp] at hO
  obtain ⟨A', c', rfl, hcap, hrow⟩ := own_row hO
  have D9 := D.next hb
  have hd := D.low d D.fd
  have hs9 := hb.size
  have hd' := D9.blk.setCell (o + 1) (.slice A' (l.drop m).length c')
  obtain ⟨w', hw⟩ : ∃ w', w' = w9.setCell ⟨d, o + 1, none⟩ (.slice A' (l.drop m).length c') := ⟨_, rfl⟩
  have hsz : w'.heap.size = w9.heap.size := by rw [hw]; simp [World.setCell]
  have far : ∀ j, j ≠ d → w'.heap[j]? = w9.heap[j]? := fun j hj => by rw [hw]; exact Below.heap_setCell _ ⟨d, o + 1, none⟩ _ j hj
  have hb' : Below B W w' := by rw [hw]; exact (hb.mono (by omega)).setCell (p := ⟨d, o + 1, none⟩) hd.1 _
  rw [← hw] at hd' ⊢
  clear hw
  have old : ∀ j, j < W.heap.size → j ≠ d → w'.heap[j]? = W.heap[j]? := fun j hj hjd => (far j hjd).trans (hb.block j hj)
  have h1 := (Array.getElem?_eq_some_iff.1 D.k1).1
  refine ⟨A', c', l.drop m, ⟨D.tn, Or.inl D.fd, hd', ?_, ?_, ?_, ⟨hcap, hrow.keep fun k hk => ⟨Or.inr ⟨hk.1, by omega⟩, far k (by omega)⟩, ?_, ?_, by rw [List.map_drop, D.ts], by have := D.len; simp; omega, by have := D.lt; simp; omega, D.big, D.e1, D.e2⟩, ?_⟩, hb', old⟩
  · rw [Array.getElem?_setIfInBounds_ne (by omega)]; exact D.k0
  · rw [Array.getElem?_setIfInBounds_self_of_lt h1]
  · rw [Array.getElem?_setIfInBounds_ne (by omega)]; exact D.k2
  · intro x hx
    obtain ⟨h1, h2, h3, h4, b, p, cs, z, e, hF, hh, hc⟩ := D.at_ x (List.mem_of_mem_drop hx)
    have hk := old b (D.low b hF).2 (blk_ne D.blk D.tn.1 hh)
    exact ⟨h1, h2, h3, h4, b, p, cs, z, e, Or.inl hF, hk.trans hh, fun i y hy => (World.cell?_of_block hk).trans (hc i y hy)⟩
  · intro i x hx
    rw [List.getElem?_drop] at hx
    have := D.seq _ x hx
    have hlt := (List.getElem?_eq_some_iff.1 hx).1
    simp only [List.length_drop]
    omega
  · rintro j (hj | ⟨h1, h2⟩)
    · have := D.low j hj; exact ⟨this.1, by omega⟩
    · exact ⟨by omega, h2⟩
theorem made_o (W : World) {d o : Nat} {n : Nat} (h : W.cell? ⟨d, o, none⟩ = some (.int .u64 (n : Nat))) : Calls Try.prog 62 #[.pointer (some ⟨d, o, none⟩)] W fun e W' => e = .returned (.bool (decide (n ≠ 0))) ∧ W = W' := by
  by_cases h0 : n = 0
  · subst h0
    go_enter Try.func62, Try.ntmps62
    go_wp2_with fail
    go_ret
    exact ⟨rfl, rfl⟩
  · have e0 : ((n : Int) != 0) = true := by simp; omega
    have H0 := Lib.hid h0
    clear h0
    go_enter Try.func62, Try.ntmps62
    go_wp2_with fail
    go_ret
    exact ⟨by rw [decide_eq_true (show n ≠ 0 from H0.out)]; rfl, rfl⟩
theorem next_o (W : World) {d o : Nat} {n : Nat} (h : W.cell? ⟨d, o, none⟩ = some (.int .u64 (n : Nat))) : Calls Try.prog 65 #[.pointer (some ⟨d, o, none⟩)] W fun e W' => e = .returned (.int .u64 (n : Nat)) ∧ W = W' := by
  go_enter Try.func65, Try.ntmps65
  go_wp2_with fail
  go_ret
  exact ⟨rfl, rfl⟩
theorem expect_o (W : World) {d o : Nat} {n : Nat} (h : W.cell? ⟨d, o + 2, none⟩ = some (.int .u64 (n : Nat))) : Calls Try.prog 46 #[.pointer (some ⟨d, o, none⟩)] W fun e W' => e = .returned (.int .u64 (n : Nat)) ∧ W = W' := by
  go_enter Try.func46, Try.ntmps46
  go_wp2_with fail
  go_ret
  exact ⟨rfl, rfl⟩
theorem drop_src {W : World} {F : Nat → Prop} {A : Option Addr} {l : List It} {m c : Nat} (h : RowI W F A l) (hm : m ≤ l.length) (hc : l.length ≤ c) : Src W (if c = m then A else Option.map (fun x => x.add (m * 2)) A) (l.length - m) (its (l.drop m)) := by
  by_cases h0 : l.length = m
  · have hd : l.drop m = [] := List.drop_eq_nil_of_le (by omega)
    rw [hd, h0, Nat.sub_self]
    rcases h with ⟨rfl, _⟩ | ⟨g, o, cs, z, rfl, _⟩
    · split
      · exact Or.inr ⟨rfl, rfl, rfl⟩
      · exact Or.inr ⟨rfl, rfl, rfl⟩
    · split
      · exact Or.inl ⟨_, rfl, fun j u hj => by simp [its] at hj⟩
      · exact Or.inl ⟨_, rfl, fun j u hj => by simp [its] at hj⟩
  · rw [if_neg (by omega)]
    rcases h with ⟨_, rfl⟩ | ⟨g, o, cs, z, rfl, _, _, hx⟩
    · simp at h0 hm; omega
    · refine Or.inl ⟨_, rfl, fun j u hj => ?_⟩
      rw [its_drop, List.getElem?_drop] at hj
      obtain ⟨x, h1, h2⟩ := its_src l _ u hj
      have := hx _ x h1 _ u h2
      show W.cell? (((⟨g, o, none⟩ : Addr).add (m * 2)).add j) = some u
      rw [add_plain, add_plain]
      rwa [show o + 2 * ((2 * m + j) / 2) + (2 * m + j) % 2 = o + m * 2 + j by omega] at this
section
variable (W : World) {B d : Nat} {F : Nat → Prop} {s : LS}
set_option maxHeartbeats 8000000 in
set_option maxRecDepth 20000 in
theorem acked_o {o c : Nat} {t : TypeId} {cs : Array Value} {A : Option Addr} {l : List It} (D : LnkO W B d o t cs F A c l s) (q : Nat) : Calls Try.prog 44 #[.pointer (some ⟨d, o, none⟩), .int .u64 (q : Nat)] W fun e W' =>
    e = .returned (.tuple #[.int .i64 ((ackR s q : Nat) : Int), .int .i64 (ackE s q)]) ∧ AckP B d o t cs F (s.ack q) W W' := by
  have hb1 : Below W.heap.size W (W.alloc (.cells #[.pointer (some ⟨d, o, none⟩)] 110)) := (Below.refl _ W).alloc (Nat.le_refl _) _
  have hb2 : Below W.heap.size W ((W.alloc (.cells #[.pointer (some ⟨d, o, none⟩)] 110)).alloc (.cells #[.int .u64 (q : Nat)] 37)) := hb1.alloc hb1.size _
  have HM := Lib.hid (by have h := made_o _ (D.next hb2).c0; rw [decide_eq_true (show s.nx ≠ 0 by have := D.n1; omega)] at h; exact h)
  have k1 : Blk ((W.alloc (.cells #[.pointer (some ⟨d, o, none⟩)] 110)).alloc (.cells #[.int .u64 (q : Nat)] 37)) W.heap.size 110 #[.pointer (some ⟨d, o, none⟩)] := (Blk.new W _ _).alloc _
  have k2 : Blk ((W.alloc (.cells #[.pointer (some ⟨d, o, none⟩)] 110)).alloc (.cells #[.int .u64 (q : Nat)] 37)) (W.heap.size + 1) 37 #[.int .u64 (q : Nat)] := Blk.new' (by simp)
  have D2 := D.next hb2
  have HK := Lib.hid (And.intro k1 (And.intro k2 hb2))
  have HD := Lib.hid D
  have HM1 := Lib.hid (show (W.alloc (.cells #[.pointer (some ⟨d, o, none⟩)] 110)).heap.size = W.heap.size + 1 by simp)
  clear hb1 hb2 D k1 k2 D2
  go_enter Try.func44, Try.ntmps44
  go_upto_region 3 with (go_at_call 62; refine HM.out.mono ?_; rintro e w1 ⟨rfl, rfl⟩)
  (try rw [HM1.out])
  (try simp only [Act.put, List.setIfInBounds_toArray, List.set_cons_zero, List.set_cons_succ])
  obtain ⟨w2, hw2⟩ : ∃ w2, w2 = (W.alloc (.cells #[.pointer (some ⟨d, o, none⟩)] 110)).alloc (.cells #[.int .u64 (q : Nat)] 37) := ⟨_, rfl⟩
  rw [← hw2] at HK ⊢
  have hz2 : w2.heap.size = W.heap.size + 2 := by rw [hw2]; simp
  clear hw2 HM HM1
  obtain ⟨k1, k2, hb2⟩ := HK.out
  have D2 := HD.out.next hb2
  have q1 : w2.cell? ⟨W.heap.size, 0, none⟩ = some (.pointer (some ⟨d, o, none⟩)) := k1.cell 0
  have q2 : w2.cell? ⟨W.heap.size + 1, 0, none⟩ = some (.int .u64 (q : Nat)) := k2.cell 0
  have c0 := D2.c0
  have c1 := D2.c1
  have HD2 := Lib.hid D2
  clear k1 k2 hb2 D2
  obtain ⟨b1, hbb1⟩ : ∃ b1, b1 = W.heap.size := ⟨_, rfl⟩
  obtain ⟨b2, hbb2⟩ : ∃ b2, b2 = W.heap.size + 1 := ⟨_, rfl⟩
  rw [← hbb2] at q2 ⊢
  rw [← hbb1] at q1 ⊢
  have HBB := Lib.hid (And.intro hbb1 hbb2)
  clear hbb1 hbb2
  refine wp_region_plan (S := fun w' => w' = World.drew w2) [(0, true), (1, true), (2, true), (3, true), (4, true), (5, true), (6, true)] 9999 (by kernel_rfl) (by kernel_rfl) (by kernel_rfl) (by kernel_rfl) (by kernel_rfl) (fun _ _ d _ _ h => by cases d <;> exact h) rfl (fun hHeld => ?_); simp only [List.map_cons, List.map_nil, List.getElem?_toArray, List.getElem?_cons_zero, List.getElem?_cons_succ]
  (repeat (first | (refine wpPlan.take (v := undef) (Or.inr ⟨by rfl, rfl⟩) ?_; simp only [Act.put, List.setIfInBounds_toArray, List.set_cons_zero, List.set_cons_succ]) | (refine wpPlan.take (v := ?_) (Or.inl ⟨by rfl, ?_⟩) ?_; rotate_left; (focus (intro _ hS; (try dsimp only at hS); go_split_ands; (try subst hS); go_simp; (try (with_reducible rfl)); done)); simp only [Act.put, List.setIfInBounds_toArray, List.set_cons_zero, List.set_cons_succ]))); refine wpPlan.done ?_; clear hHeld
  by_cases hq : s.nx ≤ q
  · have HE := Lib.hid (show ackE s q = 14 by unfold ackE; rw [if_pos hq])
    have HR := Lib.hid (show ackR s q = 0 by unfold ackR; rw [if_pos hq])
    have HS := Lib.hid (show s.ack q = s by unfold LS.ack; rw [if_pos hq])
    have hb2 : Below W.heap.size W w2 := HK.out.2.2
    have HB2 := Lib.hid hb2.drew
    rw [decide_eq_true hq]
    clear hq hb2
    go_wp2_with fail
    go_ret2
    exact ⟨by (rw [HE.out, HR.out]; try rfl), by rw [HS.out]; exact ack_same HD.out HB2.out⟩
  · have HE := Lib.hid (show ackE s q = 0 by unfold ackE; rw [if_neg hq])
    have HR := Lib.hid (show ackR s q = ackN s q by unfold ackR; rw [if_neg hq])
    have HS := Lib.hid (show s.ack q = ⟨s.nx, s.ex, s.ts.drop (ackN s q)⟩ by unfold LS.ack; rw [if_neg hq])
    have htl := HD.out.tl
    have hlen := HD.out.len
    obtain ⟨m, hm⟩ : ∃ m, m = ackN s q := ⟨_, rfl⟩
    have hmn : m = q + 1 + l.length - s.nx := by rw [hm]; unfold ackN; rw [htl]
    have hml : m ≤ l.length := by omega
    have HML := Lib.hid hml
    have HMM := Lib.hid hm
    rw [decide_eq_false hq]
    have hmf : ∀ (fn : Fn) (first cap : Array Value) (w : World), (Instr.makeFunc fn first cap).run Try.prog w = .ok (.func fn first cap) w := fun _ _ _ _ => rfl
    have HC := Lib.hid (search_any 67 #[.pointer (some ⟨b1, 0, none⟩), .pointer (some ⟨b2, 0, none⟩)] l.length m hml w2.drew (fun args w => run_enter Try.func67 (by kernel_rfl) (by kernel_rfl) args w) (by omega) (fun w hb i hi => by
      have hbw : Below w2.heap.size w2 w := (Below.refl _ _).drew.trans hb
      have DW := HD2.out.next hbw
      obtain ⟨x, hx⟩ : ∃ x, l[i]? = some x := ⟨_, List.getElem?_eq_getElem hi⟩
      rcases DW.row with ⟨_, h0⟩ | ⟨g, o, cs, z, hA, _, _, hc⟩
      · rw [h0] at hi; simp at hi
      · have h1 := DW.c1
        rw [hA] at h1
        refine (acked1_any w (cell_next hbw q1) (cell_next hbw q2) h1 hi (q := x.q) (by have := hc i x hx 0 _ it_0; rwa [Nat.add_zero, show 2 * i = i * 2 by omega] at this)).mono ?_
        rintro e w' ⟨rfl, hb'⟩
        have hsq := HD.out.seq i x hx
        exact ⟨by rw [show decide (q < x.q) = decide (m ≤ i) from decide_eq_decide.2 (by omega)], hb'⟩))
    have HHM := Lib.hid hmn
    clear hq htl hlen hml hm hmn
    go_upto_region 6 with (first | (go_at_call 66; refine HC.out.mono ?_; rintro e w5 ⟨rfl, hb5⟩))
    clear hmf
    have hb25 : Below w2.heap.size w2 w5 := (Below.refl _ _).drew.trans hb5
    have HB5 := Lib.hid (HK.out.2.2.trans (hb25.mono HK.out.2.2.size))
    have q1 := cell_next hb25 q1
    have c1 := cell_next hb25 c1
    have hN : m ≤ l.length := HML.out
    have hN' : (m : Int) ≤ (l.length : Nat) := by omega
    have hc' : l.length ≤ c := HD.out.cap
    obtain ⟨N, hNN⟩ : ∃ N, N = l.length := ⟨_, rfl⟩
    have HNN := Lib.hid hNN
    rw [← hNN] at c1 hN hN' hc'
    clear hb5 hb25 q2 c0 hNN
    (try simp only [Act.put, List.setIfInBounds_toArray, List.set_cons_zero, List.set_cons_succ])
    refine wp_region_treeL (S := (fun w' => w'.cell? ⟨b1, 0, none⟩ = some (.pointer (some ⟨d, o, none⟩)) ∧ w'.cell? ⟨d, o + 1, none⟩ = some (.slice A N c))) (.take 0 (.take 1 (.take 2 (.take 3 (.take 4 (.take 5 (.take 6 (.one 7 (.take 8 (.take 9 (.last 10))))))))))) 10 (by kernel_rfl) (by kernel_rfl) (by kernel_rfl) (by kernel_rfl) (by kernel_rfl) (fun _ _ d _ _ h => by cases d <;> exact h) ⟨q1, c1⟩ (fun hHeld => ?_); simp only [Tree.map, List.getElem?_toArray, List.getElem?_cons_zero, List.getElem?_cons_succ]
    (repeat (first | (refine wpTree.take (v := undef) (Or.inr ⟨by rfl, rfl⟩) ?_; simp only [Act.put, List.setIfInBounds_toArray, List.set_cons_zero, List.set_cons_succ]) | (refine wpTree.take (v := ?_) (Or.inl ⟨by rfl, ?_⟩) ?_; rotate_left; (focus (intro _ hS; (try dsimp only at hS); go_split_ands; (try subst hS); go_simp; (try (with_reducible rfl)); done)); simp only [Act.put, List.setIfInBounds_toArray, List.set_cons_zero, List.set_cons_succ])))
    have D5 := HD.out.next HB5.out.drew
    have hsrc := drop_src D5.row HML.out HD.out.cap
    rw [← HNN.out] at hsrc
    obtain ⟨A2, hA2⟩ : ∃ A2, A2 = (if c = m then A else Option.map (fun x => x.add (m * 2)) A) := ⟨_, rfl⟩
    rw [← hA2] at hsrc ⊢
    obtain ⟨c2, hc2⟩ : ∃ c2, c2 = c - m := ⟨_, rfl⟩
    rw [← hc2]
    clear hA2 hc2 D5
    obtain ⟨i0, z0, hi, hz, hsz, hby, hzs⟩ := info_it
    have hln : (its (l.drop m)).length = (N - m) * 2 := by rw [its_len, List.length_drop, HNN.out]
    refine wpTree.one (fun K hK => ?_)
    refine step_append_g (w := w5.drew) (by rfl) _ _ 45 rfl W.heap.size 70 i0 z0 Try.underlying45 hi hz (by rw [hsz]; exact hzs) (by rw [hsz]; decide) (.slice none 0 0) 0 [] rfl (World.ownsRow_nil _ _ _ _) A2 (N - m) c2 (its (l.drop m)) rfl (by rw [hsz]; exact hln) hsrc (its_ones _) (by unfold maxLen; have := HNN.out; have := HD.out.len; omega) (by rw [hby]; have := HNN.out; have := HD.out.len; omega) HB5.out.size ?_
    intro v7 w7 hown hgrow hloc
    rw [hsz, Nat.zero_add, List.nil_append] at hown
    have hb7 : Below W.heap.size W w7 := HB5.out.drew.grown hgrow HB5.out.size (fun k e => by cases e)
    have hbw7 : ∀ k, k < w5.heap.size → w7.heap[k]? = w5.heap[k]? := fun k hk => hgrow.block k hk (by simp [Value.ownBlock])
    have q1' : w7.cell? ⟨b1, 0, none⟩ = some (.pointer (some ⟨d, o, none⟩)) := (World.cell?_of_block (hbw7 b1 (World.block_lt_of_cell? _ ⟨b1, 0, none⟩ q1))).trans q1
    have c1' : w7.cell? ⟨d, o + 1, none⟩ = some (.slice A N c) := (World.cell?_of_block (hbw7 d (World.block_lt_of_cell? _ ⟨d, o + 1, none⟩ c1))).trans c1
    have HO7 := Lib.hid hown
    obtain ⟨A7, k7, rfl, -⟩ := ownG_slice hown
    have HB7 := Lib.hid hb7
    refine hK.out _ _ ⟨q1', c1'⟩ (fun hHeld7 => ?_)
    clear hK K hHeld hown hgrow hloc hb7 hbw7 hi hz hsz hby hzs hsrc hln q1 c1
    (try simp only [Act.put, List.setIfInBounds_toArray, List.set_cons_zero, List.set_cons_succ])
    (repeat (first | (refine wpTree.take (v := undef) (Or.inr ⟨by rfl, rfl⟩) ?_; simp only [Act.put, List.setIfInBounds_toArray, List.set_cons_zero, List.set_cons_succ]) | (refine wpTree.take (v := ?_) (Or.inl ⟨by rfl, ?_⟩) ?_; rotate_left; (focus (intro _ hS; (try dsimp only at hS); go_split_ands; (try subst hS); go_simp; (try (with_reducible rfl)); done)); simp only [Act.put, List.setIfInBounds_toArray, List.set_cons_zero, List.set_cons_succ])))
    have z1 := (HD.out.next HB7.out).blk.frozen (o + 1)
    refine wpTree.last (fun K hK => ?_)
    go_simp
    refine hK.out _ _ ?_
    clear hK K
    (try simp only [Act.put, List.setIfInBounds_toArray, List.set_cons_zero, List.set_cons_succ])
    go_wp2_with fail
    go_ret2
    refine ⟨by (rw [HE.out, HR.out, ← HMM.out]; try rfl), ?_⟩
    rw [HS.out, ← HMM.out]
    exact ack_end HD.out HB7.out HML.out (by rw [← HNN.out]; exact HO7.out)
end
end Lk
end Go.Proofs.Ytifoheodcbjapaa
