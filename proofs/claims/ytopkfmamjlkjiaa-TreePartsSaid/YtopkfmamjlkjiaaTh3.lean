/-
interest: a label's way as the code goes it: what waits, what came (mathematics); what it keeps in memory.
-/
import Derived.Test.YtopkfmamjlkjiaaTh2
namespace Go.Proofs.Ytopkfmamjlkjiaa
open Go.RowKit
set_option linter.unusedSimpArgs false
set_option linter.unusedVariables false
namespace Tr
/-- Right says one thing of a tree. -/
theorem right_uniq {t : Tv} {a b : Bool} (h : RightP t a) (h' : RightP t b) : a = b := by
  rcases h with ⟨h1, ha⟩ | ⟨h1, h2, ha⟩ | ⟨h1, h2, h3, ha⟩ | ⟨h1, h2, x, c, h3, h4, ha⟩ <;> rcases h' with ⟨g1, hb⟩ | ⟨g1, g2, hb⟩ | ⟨g1, g2, g3, hb⟩ | ⟨g1, g2, y, d, g3, g4, hb⟩
  all_goals first
    | (rw [ha, hb]; done)
    | (rw [h1] at g1; cases g1; done)
    | exact absurd g2 h2
    | exact absurd h2 g2
    | (rw [h3] at g3; cases g3; done)
    | (rw [g3] at h3; cases h3; done)
    | skip
  rw [h3] at g3
  simp only [Option.some.injEq] at g3
  subst g3
  have e : c = d := by
    funext n
    rw [Bool.eq_iff_iff, h4, g4]
  rw [ha, hb, e]
theorem right_ex (t : Tv) : ∃ b, RightP t b := by
  cases h1 : anyB 12 t.k noKindB with
  | true => exact ⟨false, .inl ⟨h1, rfl⟩⟩
  | false =>
    by_cases h2 : t.es.length = (allL t).length - 1
    · rcases h3 : allL t with _ | ⟨x, l⟩
      · exact ⟨true, .inr (.inr (.inl ⟨h1, h2, h3, rfl⟩))⟩
      · exact ⟨_, .inr (.inr (.inr ⟨h1, h2, x, fun n => @decide (Rch (joinN t) x n) (Classical.propDecidable _), by rw [h3]; rfl, fun n => by simp, rfl⟩))⟩
    · exact ⟨false, .inr (.inl ⟨h1, h2, rfl⟩)⟩
theorem right_is (W : World) {t : Tv} (hr : RowsOf ec 2 W t.A t.es) (hlen : t.es.length ≤ 1000000) {b : Bool} (hb : RightP t b) :
    Calls Try.prog 21 #[.agg t.cells.toArray] W fun e W' => e = .returned (.bool b) ∧ Below W.heap.size W W' :=
  (right_any W t hr hlen).mono (by
    rintro e w' ⟨b', rfl, hb', hbl⟩
    rw [right_uniq hb hb']
    exact ⟨rfl, hbl⟩)
/-- To whom a label goes on from x, where it came to from f. -/
def twP (t : Tv) (cart : Int) (f x n : Nat) : Prop := joinN t x n = true ∧ n ≠ f ∧ ∃ h ∈ homesL t cart, Bey (joinN t) x n h
theorem twl_nat {t : Tv} {cart : Int} {f x : Nat} {R : List Nat} (h : TwL t (x : Nat) (f : Nat) cart R) (n : Nat) : n ∈ R ↔ twP t cart f x n := by
  rw [h.2 n]
  unfold Wn twP Bey
  rw [away_aw, Int.toNat_natCast]
  constructor
  · rintro ⟨h1, h2, k, h3, h4⟩; exact ⟨h2, by omega, k, h3, h2, h4⟩
  · rintro ⟨h1, h2, k, h3, -, h4⟩; exact ⟨by omega, h1, k, h3, h4⟩
def hi (h : Nat × Nat) : Int × Int := ((h.1 : Int), (h.2 : Int))
def RV (t : Tv) (start cart : Int) (O : List Nat) (Q : List (Int × Int)) : Prop :=
  (thereB t.k start = false ∧ O = [] ∧ (Q = [(0, start)] ∨ Q = [])) ∨ (thereB t.k start = true ∧ ∃ Qn : List (Nat × Nat), Q = Qn.map hi ∧ BI (joinN t) (twP t cart) start.toNat O Qn)
def ReachP (t : Tv) (start cart : Int) (O : List Nat) : Prop := (thereB t.k start = false ∧ O = []) ∨ (thereB t.k start = true ∧ BE (joinN t) (twP t cart) start.toNat O)
def mR (O : List Nat) (Q : List (Int × Int)) : Nat := 2 * (12 - O.length) + Q.length
section
variable {t : Tv} {start cart : Int} {O R : List Nat} {Q T : List (Int × Int)} {f x : Int}
theorem rv_start : RV t start cart [] [(0, start)] := by
  cases h : thereB t.k start with
  | false => exact .inl ⟨h, rfl, .inl rfl⟩
  | true =>
    have := there_in h
    exact .inr ⟨h, [(0, start.toNat)], by simp [hi]; omega, bi_start⟩
theorem bi_len {s : Nat} {Qn : List (Nat × Nat)} (h : BI (joinN t) (twP t cart) s O Qn) : O.length ≤ 12 ∧ Qn.length ≤ 13 := by
  obtain ⟨P, h1, h2, h3, h4, h5, h6⟩ := h
  have ho : O.length ≤ 12 := by
    have := nodup_len (l := O) (m := thoseL fun _ => true) (List.nodup_cons.1 h2).2 fun n hn => by
      obtain ⟨h, hh, hn⟩ := h5 n hn
      have := (join_gr t).rng2 hn.1
      exact those_mem.2 ⟨this.1, this.2, rfl⟩
    exact Nat.le_trans this (those_le _ 12)
  refine ⟨ho, ?_⟩
  have := congrArg List.length h1
  rw [List.length_map, List.length_append, List.length_cons] at this
  omega
theorem rv_len (h : RV t start cart O Q) : O.length ≤ 12 ∧ Q.length ≤ 13 := by
  rcases h with ⟨_, rfl, rfl | rfl⟩ | ⟨_, Qn, rfl, hb⟩
  · simp
  · simp
  · rw [List.length_map]; exact bi_len hb
theorem rv_next (hr : RightP t true) (h : RV t start cart O ((f, x) :: T)) (hR : TwL t x f cart R) :
    RV t start cart (O ++ R) (T ++ R.map fun n => (x, ((n : Nat) : Int))) ∧ mR (O ++ R) (T ++ R.map fun n => (x, ((n : Nat) : Int))) < mR O ((f, x) :: T) := by
  have key : RV t start cart (O ++ R) (T ++ R.map fun n => (x, ((n : Nat) : Int))) := by
    rcases h with ⟨h0, rfl, h1 | h1⟩ | ⟨h0, Qn, h1, hb⟩
    · simp only [List.cons.injEq, Prod.mk.injEq] at h1
      obtain ⟨⟨rfl, rfl⟩, rfl⟩ := h1
      have : R = [] := by
        cases R with
        | nil => rfl
        | cons n R =>
          have := (hR.2 n).1 List.mem_cons_self
          rw [(jn_there this.2.1).1] at h0
          cases h0
      subst this
      exact .inl ⟨h0, rfl, .inr rfl⟩
    · cases h1
    · cases Qn with
      | nil => cases h1
      | cons q Qn =>
        obtain ⟨a, b⟩ := q
        rw [List.map_cons, List.cons.injEq] at h1
        obtain ⟨e, rfl⟩ := h1
        simp only [hi, Prod.mk.injEq] at e
        obtain ⟨rfl, rfl⟩ := e
        refine .inr ⟨h0, Qn ++ R.map fun n => (b, n), ?_, bi_next (right_tp hr) (fun f x n h => ⟨h.1, h.2.1⟩) (twl_nat hR) (hR.1.imp (fun h => Nat.ne_of_lt h)) hb⟩
        rw [List.map_append, List.map_map]
        rfl
  refine ⟨key, ?_⟩
  have h1 := rv_len key
  unfold mR
  rw [List.length_append] at h1 ⊢
  rw [List.length_append, List.length_map, List.length_cons]
  omega
theorem rv_end (hr : RightP t true) (h : RV t start cart O []) : ReachP t start cart O := by
  rcases h with ⟨h0, h1, -⟩ | ⟨h0, Qn, h1, hb⟩
  · exact .inl ⟨h0, h1⟩
  · have : Qn = [] := by cases Qn with | nil => rfl | cons q Q => cases h1
    subst this
    exact .inr ⟨h0, bi_end (right_tp hr) hb⟩
end
/-- Two cells a hop. -/
def hcs (Q : List (Int × Int)) : List Value := Q.flatMap fun h => [.int .i64 h.1, .int .i64 h.2]
theorem hcs_len (Q : List (Int × Int)) : (hcs Q).length = Q.length * 2 := by
  induction Q with
  | nil => rfl
  | cons h Q ih => show (Value.int .i64 h.1 :: Value.int .i64 h.2 :: hcs Q).length = _; simp [ih]; omega
theorem hcs_app (Q R : List (Int × Int)) : hcs (Q ++ R) = hcs Q ++ hcs R := by simp [hcs]
theorem hcs_cons (h : Int × Int) (Q : List (Int × Int)) : hcs (h :: Q) = [.int .i64 h.1, .int .i64 h.2] ++ hcs Q := rfl
def Hps (w : World) (base : Nat) (v : Value) (Q : List (Int × Int)) : Prop := OffR w base 115 2 v Q.length (hcs Q)
section
variable {w w' : World} {base : Nat} {v : Value} {Q : List (Int × Int)}
theorem Hps.next (h : Hps w base v Q) (hb : Below w.heap.size w w') : Hps w' base v Q := OffR.next h hb
theorem Hps.keep (h : Hps w base v Q) (hk : ∀ k, v.ownBlock = some k → w'.heap[k]? = w.heap[k]?) : Hps w' base v Q := OffR.keep h hk
theorem Hps.lt (h : Hps w base v Q) : ∀ k, v.ownBlock = some k → base ≤ k ∧ k < w.heap.size := OffR.lt h
theorem Hps.shape (h : Hps w base v Q) : ∃ A c, v = .slice A Q.length c := OffR.shape h
theorem hps_ne {B g : Nat} {t : TypeId} {cs : Array Value} (h : Hps w B v Q) (hg : Blk w g t cs) (ht : t ≠ 115) : some g ≠ v.ownBlock := by
  rcases h.2 with ⟨rfl, _⟩ | ⟨k, o, cap, cur, rfl, _, hk, _⟩
  · simp [Value.ownBlock]
  · intro e1
    simp only [Value.ownBlock, Option.some.injEq] at e1
    subst e1
    unfold Blk at hg
    rw [hk] at hg
    simp only [Option.some.injEq, Obj.cells.injEq] at hg
    exact ht hg.2.1.symm
theorem nds_hps_ne {B B' : Nat} {u : Value} {l : List Nat} (h : Nds w B u l) (h' : Hps w B' v Q) : ∀ k, u.ownBlock = some k → v.ownBlock ≠ some k := by
  intro k e1 e2
  rcases h.2 with ⟨rfl, _⟩ | ⟨g, o, cap, cur, rfl, _, hk, _⟩
  · simp [Value.ownBlock] at e1
  · rcases h'.2 with ⟨rfl, _⟩ | ⟨g', o', cap', cur', rfl, _, hk', _⟩
    · simp [Value.ownBlock] at e2
    · simp only [Value.ownBlock, Option.some.injEq] at e1 e2
      subst e1
      subst e2
      rw [hk] at hk'
      simp only [Option.some.injEq, Obj.cells.injEq] at hk'
      exact absurd hk'.2.1 (by decide)
end
theorem info_hop : ∃ i z, Try.prog.info? 115 = some i ∧ i.zero = some z ∧ i.size = 2 ∧ i.bytes = 16 ∧ z.cells.size = 2 := by
  have h : ((Try.prog.info? 115).bind fun i => i.zero.map fun z => (i.size, i.bytes, z.cells.size)) = some (2, 16, 2) := by kernel_rfl
  cases hi : Try.prog.info? 115 with
  | none => rw [hi] at h; cases h
  | some i =>
    rw [hi] at h
    simp only [Option.bind_some, Option.map_eq_some_iff, Prod.mk.injEq] at h
    obtain ⟨z, hz, h1, h2, h3⟩ := h
    exact ⟨i, z, rfl, hz, h1, h2, h3⟩
theorem hopinfo (f x : Int) : (Try.prog.info? 115).map (·.size) = some [Value.int .i64 f, .int .i64 x].length := by kernel_rfl
theorem hopinfoA (f x : Int) : (Try.prog.info? 115).map (·.size) = some #[Value.int .i64 f, .int .i64 x].size := by kernel_rfl
set_option maxRecDepth 20000 in
theorem wp_app_hop {o : Oper} {a : Act} {K : Act → World → Prop} {Q : Exit → Act → World → Prop} (w : World) (s x : Operand)
    (ho : o.op = .call { callee := .builtin .append, args := #[s, x], argTypes := #[116, 116] }) (base : Nat)
    (v : Value) (l : List (Int × Int)) (hs : a.eval s = v) (hown : Hps w base v l)
    (b : Nat) (c : Nat) (h : Int × Int) (hx : a.eval x = .slice (some ⟨b, 0, none⟩) 1 c) (hc : w.cell? ⟨b, 0, none⟩ = some (.int .i64 h.1)) (hc1 : w.cell? ⟨b, 1, none⟩ = some (.int .i64 h.2)) (hl : l.length ≤ 1000) (hbase : base ≤ w.heap.size)
    (hk : ∀ v' w', Hps w' base v' (l ++ [h]) → w.grownBy w' v.ownBlock → (v'.ownBlock = v.ownBlock ∨ v'.ownBlock = some w.heap.size) → K (a.put o.dst v') w') : Oper.wp Try.prog o a w K Q := by
  obtain ⟨i, z, hi, hz, h2, h3, h4⟩ := info_hop
  refine wp_append_off w s x 116 ho base 115 i z Try.underlying116 hi hz (by rw [h4, h2]) (by omega) v l.length (hcs l) hs (by rw [h2]; exact hown) ⟨b, 0, none⟩ 1 c (hcs [h]) hx (by rw [h2, hcs_len]; rfl) ?_ ?_ (by unfold maxLen; omega) (by rw [h3]; omega) hbase ?_
  · intro j u hj
    rcases j with _ | _ | j
    · injection hj with hj; subst hj; exact hc
    · injection hj with hj; subst hj; exact hc1
    · cases hj
  · intro u hu
    simp [hcs] at hu
    rcases hu with rfl | rfl <;> rfl
  · intro v' w' k1 k2 k3
    refine hk v' w' ?_ k2 k3
    unfold Hps
    rw [List.length_append, hcs_app]
    rw [h2] at k1
    exact k1
/-- What Reach keeps: a tree's box, what came, what waits. -/
structure HM (W w : World) (gx : Nat) (t : Tv) (v : Value) (O : List Nat) (q : Value) (Q : List (Int × Int)) : Prop where
  bx : Blk w gx 25 t.cells.toArray
  ro : Nds w W.heap.size v O
  rq : Hps w W.heap.size q Q
  bel : Below W.heap.size W w
section
variable {W w w' w9 : World} {gx : Nat} {t : Tv} {v v' q q' : Value} {O O' : List Nat} {Q Q' : List (Int × Int)}
theorem HM.next (h : HM W w gx t v O q Q) (hb : Below w.heap.size w w') : HM W w' gx t v O q Q :=
  ⟨h.bx.next hb, h.ro.next hb, h.rq.next hb, h.bel.trans (hb.mono h.bel.size)⟩
theorem HM.came (h : HM W w gx t v O q Q) (hown : Nds w9 W.heap.size v' O') (hg : w.grownBy w9 v.ownBlock) : HM W w9 gx t v' O' q Q :=
  ⟨(hg.block gx h.bx.lt (nds_ne h.ro h.bx (by decide))).trans h.bx, hown, h.rq.keep fun k e => hg.block k (h.rq.lt k e).2 (fun e2 => nds_hps_ne h.ro h.rq k e2.symm e), below_grown h.bel hg (fun k e => (h.ro.lt k e).1)⟩
theorem HM.waits (h : HM W w gx t v O q Q) (hown : Hps w9 W.heap.size q' Q') (hg : w.grownBy w9 q.ownBlock) : HM W w9 gx t v O q' Q' :=
  ⟨(hg.block gx h.bx.lt (hps_ne h.rq h.bx (by decide))).trans h.bx, h.ro.keep fun k e => hg.block k (h.ro.lt k e).2 (fun e2 => nds_hps_ne h.ro h.rq k e e2.symm), hown, below_grown h.bel hg (fun k e => (h.rq.lt k e).1)⟩
end
end Tr
end Go.Proofs.Ytopkfmamjlkjiaa
