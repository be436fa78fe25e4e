/-
tree: Put.
-/
import Derived.Test.YtopkfmamjlkjiaaTr17
namespace Go.Proofs.Ytopkfmamjlkjiaa
open Go.RowKit
set_option linter.unusedSimpArgs false
set_option linter.unusedVariables false
namespace Tr
def encK (k : Nat → Int) (j : Nat) : List Nat := (List.range j).flatMap fun i => enc (k i).toNat
def encE (es : List (Int × Int)) : List Nat := es.flatMap fun e => enc e.1.toNat ++ enc e.2.toNat
def encTr (k : Nat → Int) (es : List (Int × Int)) : List Nat := encK k 12 ++ enc es.length ++ encE es
theorem encK_succ (k : Nat → Int) (j : Nat) : encK k (j + 1) = encK k j ++ enc (k j).toNat := by unfold encK; rw [List.range_succ]; simp
theorem encE_take {es : List (Int × Int)} {j : Nat} {e : Int × Int} (h : es[j]? = some e) : encE (es.take (j + 1)) = encE (es.take j) ++ enc e.1.toNat ++ enc e.2.toNat := by
  unfold encE
  rw [List.take_add_one, h]
  simp
/-- What a tree's numbers are, that may be written. -/
structure Wk (t : Tv) : Prop where
  k : ∀ i, i < 12 → 0 ≤ t.k i ∧ t.k i ≤ 3
  e : ∀ x ∈ t.es, (0 ≤ x.1 ∧ x.1 ≤ 12) ∧ 0 ≤ x.2 ∧ x.2 ≤ 12
  l : t.es.length ≤ 1000
theorem encK_len {k : Nat → Int} (h : ∀ i, i < 12 → 0 ≤ k i ∧ k i ≤ 3) : ∀ j, j ≤ 12 → (encK k j).length ≤ 10 * j
  | 0, _ => by simp [encK]
  | j + 1, hj => by
    rw [encK_succ, List.length_append]
    have := encK_len h j (by omega)
    have := h j (by omega)
    have := enc_len (k j).toNat (by omega)
    omega
theorem encE_len {es : List (Int × Int)} (h : ∀ x ∈ es, (0 ≤ x.1 ∧ x.1 ≤ 12) ∧ 0 ≤ x.2 ∧ x.2 ≤ 12) : (encE es).length ≤ 20 * es.length := by
  induction es with
  | nil => simp [encE]
  | cons e es ih =>
    have h1 := ih fun x hx => h x (List.mem_cons_of_mem _ hx)
    have h2 := h e List.mem_cons_self
    have := enc_len e.1.toNat (by omega)
    have := enc_len e.2.toNat (by omega)
    show (enc e.1.toNat ++ enc e.2.toNat ++ encE es).length ≤ _
    rw [List.length_append, List.length_append, List.length_cons]
    omega
/-- A block of another type stays. -/
theorem wrote_blk {w w' : World} {B g ge : Nat} {bs : List Nat} {t : TypeId} {cs : Array Value} (h : Wtr w B g bs) (hr : Wrote B g w w') (hx : Blk w ge t cs) (h1 : t ≠ 5) (h2 : t ≠ 126) : Blk w' ge t cs := by
  obtain ⟨_, v, hv, hown⟩ := h
  refine (hr.2.1 ge hx.lt (fun e => ?_) (fun e => ?_)).trans hx
  · subst e
    unfold Blk at hx
    rw [hx] at hv
    simp only [Option.some.injEq, Obj.cells.injEq] at hv
    exact h2 hv.2.1
  · rw [rowOf_of hv] at e
    rcases hown.2 with ⟨rfl, _⟩ | ⟨k, cap, cur, rfl, _, hh, _⟩
    · cases e
    · simp only [Value.ownBlock, Option.some.injEq] at e
      subst e
      unfold Blk at hx
      rw [hx] at hh
      simp only [Option.some.injEq, Obj.cells.injEq] at hh
      exact h1 hh.2.1
/-- A writer that writes, from a world on. -/
structure PM (w2 w : World) (B g : Nat) (bs : List Nat) : Prop where
  wt : Wtr w B g bs
  wr : Wrote B g w2 w
section
variable {w2 w w' : World} {B g gx : Nat} {bs bs' : List Nat} {t : TypeId} {cs : Array Value}
theorem PM.next (h : PM w2 w B g bs) (hb : Below w.heap.size w w') : PM w2 w' B g bs :=
  ⟨h.wt.next hb, h.wr.trans (Wrote.ofBelow hb (Nat.le_of_lt (Nat.lt_of_le_of_lt h.wt.1 h.wt.lt)) h.wt.lt)⟩
theorem PM.put (h : PM w2 w B g bs) (hw : Wtr w' B g bs') (hr : Wrote B g w w') : PM w2 w' B g bs' := ⟨hw, h.wr.trans hr⟩
theorem PM.box (h : PM w2 w B g bs) (hx : Blk w2 gx t cs) (hg : gx ≠ g) (hr : some gx ≠ rowOf w2 g) : Blk w gx t cs := (h.wr.2.1 gx hx.lt hg hr).trans hx
theorem PM.rows {α : Type} {cells : α → List Value} {K : Nat} {A : Option Addr} {l : List α} (h : PM w2 w B g bs) (hr : RowsOf cells K w2 A l) (hA : ∀ b o, A = some ⟨b, o, none⟩ → l ≠ [] → b < B) : RowsOf cells K w A l := by
  by_cases h0 : l = []
  · exact .inl h0
  refine hr.imp id ?_
  rintro ⟨b, o, e, h1, h2⟩
  exact ⟨b, o, e, Nat.lt_of_lt_of_le h1 h.wr.1.size, fun i hi j v hv => (h.wr.1.cell (p := ⟨b, o + i * K + j, none⟩) (hA b o e h0)).trans (h2 i hi j v hv)⟩
end
set_option maxRecDepth 20000 in
set_option maxHeartbeats 16000000 in
theorem put_any (W : World) (t : Tv) (hr : RowsOf ec 2 W t.A t.es) (hk : Wk t) (B g : Nat) (bs : List Nat) (hw : Wtr W B g bs) (hA : ∀ b o, t.A = some ⟨b, o, none⟩ → t.es ≠ [] → b < B) (hbs : bs.length ≤ 1000000) :
    Calls Try.prog 52 #[.pointer (some ⟨g, 0, none⟩), .agg t.cells.toArray] W fun e W' => e = .returned (.tuple #[]) ∧ Wtr W' B g (bs ++ encTr t.k t.es) ∧ Wrote B g W W' := by
  have HR := Lib.hid hr
  have HK := Lib.hid hk
  have HA := Lib.hid hA
  have HBS := Lib.hid hbs
  have bb := (Below.refl W.heap.size W).alloc (Nat.le_refl _) (.cells t.cells.toArray 25)
  have hx : Blk (W.alloc (.cells t.cells.toArray 25)) W.heap.size 25 t.cells.toArray := Blk.new W _ _
  have hBW : B ≤ W.heap.size := Nat.le_of_lt (Nat.lt_of_le_of_lt hw.1 hw.lt)
  have hw0 : Wrote B g W (W.alloc (.cells t.cells.toArray 25)) := Wrote.ofBelow bb hBW hw.lt
  have hrow : some W.heap.size ≠ rowOf (W.alloc (.cells t.cells.toArray 25)) g := by
    intro e
    rcases hw0.2.2 _ e.symm with h | h
    · have := rowOf_lt hw h; omega
    · have h9 := rowOf_lt (hw.next bb) e.symm
      obtain ⟨_, v, hv, hown⟩ := hw.next bb
      rw [rowOf_of hv] at e
      rcases hown.2 with ⟨rfl, _⟩ | ⟨k, cap, cur, rfl, _, hh, _⟩
      · cases e
      · simp only [Value.ownBlock, Option.some.injEq] at e
        subst e
        unfold Blk at hx
        rw [hx] at hh
        simp only [Option.some.injEq, Obj.cells.injEq] at hh
        exact absurd hh.2.1 (by decide)
  have hgx : W.heap.size ≠ g := by have := hw.lt; omega
  obtain ⟨w2, hw2⟩ : ∃ w2, w2 = W.alloc (.cells t.cells.toArray 25) := ⟨_, rfl⟩
  rw [← hw2] at bb hx hw0 hrow
  have HP2 := Lib.hid (show PM w2 w2 B g bs from ⟨hw.next bb, Wrote.refl _ _ _⟩)
  have HX2 := Lib.hid (And.intro hx (And.intro hgx hrow))
  have HW0 := Lib.hid hw0
  have HR2 := Lib.hid (hr.next bb)
  clear hr hk hA hbs bb hx hBW hw0 hrow hgx hw
  go_enter Try.func52, Try.ntmps52
  go_upto_region 1 with fail
  rw [← hw2]
  clear hw2
  obtain ⟨gx, hgx⟩ : ∃ gx, gx = W.heap.size := ⟨_, rfl⟩
  rw [← hgx] at HX2
  (try rw [← hgx])
  clear hgx
  have hr0 : w2.rangeAt gx 0 (kl t.k) := by
    intro i v hv
    have hi : i < 12 := by have := (List.getElem?_eq_some_iff.1 hv).1; rwa [kl_len] at this
    rw [kl_get _ hi] at hv
    rw [Nat.zero_add, HX2.out.1.cell, List.getElem?_toArray, tv_get t hi]
    exact hv
  go_upto_region 2 with (refine wpList_load_mid rfl 22 _ rfl _ _ rfl (kl t.k) _ hr0 Try.underlying22 rfl (klinfo t.k) ?_)
  clear hr0
  go_loopw [10] (fun i wr => ∃ j : Nat, j ≤ 12 ∧ i = .int .i64 j ∧ PM w2 wr B g (bs ++ encK t.k j)) (fun i _ => 12 - (intOf i).toNat)
  case atStart => exact ⟨0, Nat.zero_le _, rfl, by show PM w2 w2 B g (bs ++ []); rw [List.append_nil]; exact HP2.out⟩
  case round =>
    clear HP2
    obtain ⟨j, hj, rfl, hP⟩ := hrel
    have HP := Lib.hid hP
    clear hP
    by_cases hlt : j < 12
    · have i1 : (j : Int) < 12 := by omega
      obtain ⟨jj, hjj⟩ : ∃ jj, jj = j + 1 := ⟨_, rfl⟩
      have HW := Lib.hid (wrap_n j jj hjj (by omega))
      have HJ := Lib.hid (And.intro hjj hlt)
      have hkj := HK.out.k j hlt
      obtain ⟨n, hn⟩ : ∃ n, n = (t.k j).toNat := ⟨_, rfl⟩
      have hn2 : t.k j = (n : Nat) := by omega
      have HN := Lib.hid (show t.k j = (n : Nat) ∧ n = (t.k j).toNat from ⟨hn2, hn⟩)
      have e1 : IntKind.u64.wrap ((n : Nat) : Int) = (n : Nat) := by rw [IntKind.wrap_u64]; omega
      have HWN := Lib.hid (wnum_any B g n (bs ++ encK t.k j) wr HP.out.wt (by omega) (by rw [List.length_append]; have := encK_len HK.out.k j hj; have := HBS.out; omega))
      have hlt' := hlt
      clear hj hlt hjj hkj hn hn2
      go_upto_region 4 with (refine wpList_index_kl rfl _ _ rfl t.k j hlt' rfl rfl ?_)
      rw [HN.out.1]
      go_wp2_with (go_at_call 82; refine HWN.out.mono ?_; rintro e w3 ⟨rfl, hw, hwr⟩; have HP3 := Lib.hid (HP.out.put hw hwr); clear hw hwr HWN)
      (try rw [HW.out])
      go_roundw
      case rel => exact ⟨jj, by have := HJ.out; omega, by simp [HJ.out.1], by rw [HJ.out.1, encK_succ, ← HN.out.2, ← List.append_assoc]; exact HP3.out⟩
      case measure => have := HJ.out; simp [intOf]; omega
    · have i1 : ¬ (j : Int) < 12 := by omega
      have hj12 : j = 12 := by omega
      subst hj12
      clear hj hlt
      obtain ⟨n, hn⟩ : ∃ n, n = t.es.length := ⟨_, rfl⟩
      have HN := Lib.hid (show n = t.es.length ∧ n ≤ 1000 from ⟨hn, by rw [hn]; exact HK.out.l⟩)
      have e1 : IntKind.u64.wrap ((n : Nat) : Int) = (n : Nat) := by rw [IntKind.wrap_u64]; have := HN.out; omega
      have HWN := Lib.hid (wnum_any B g n (bs ++ encK t.k 12) wr HP.out.wt (by have := HN.out; omega) (by rw [List.length_append]; have := encK_len HK.out.k 12 (Nat.le_refl _); have := HBS.out; omega))
      have c12 : wr.cell? ⟨gx, 12, none⟩ = some (.slice t.A n t.c) := by rw [(HP.out.box HX2.out.1 HX2.out.2.1 HX2.out.2.2).cell, List.getElem?_toArray, tv_12, hn]
      clear hn
      go_upto_region 7 with (go_at_call 82; refine HWN.out.mono ?_; rintro e w3 ⟨rfl, hw, hwr⟩; have HP3 := Lib.hid (HP.out.put hw hwr); clear hw hwr HWN)
      clear i1 c12
      have c12 : w3.cell? ⟨gx, 12, none⟩ = some (.slice t.A n t.c) := by rw [(HP3.out.box HX2.out.1 HX2.out.2.1 HX2.out.2.2).cell, List.getElem?_toArray, tv_12, HN.out.1]
      go_upto_region 8 with fail
      clear c12 e1 HP
      go_loopw [27] (fun i wy => ∃ j : Nat, j ≤ n ∧ i = .int .i64 j ∧ PM w2 wy B g (bs ++ encK t.k 12 ++ enc n ++ encE (t.es.take j))) (fun i _ => n - (intOf i).toNat)
      case atStart => exact ⟨0, Nat.zero_le _, rfl, by rw [List.take_zero]; show PM w2 w3 B g (bs ++ encK t.k 12 ++ enc n ++ []); rw [List.append_nil]; exact HP3.out⟩
      case round =>
        clear HP3
        obtain ⟨j, hj, rfl, hP⟩ := hrel
        have HP := Lib.hid hP
        clear hP
        by_cases hlt : j < n
        · have i1 : (j : Int) < (n : Nat) := by omega
          have i2 : ¬ (j : Int) < 0 := by omega
          obtain ⟨jj, hjj⟩ : ∃ jj, jj = j + 1 := ⟨_, rfl⟩
          have HW := Lib.hid (wrap_n j jj hjj (by have := HN.out; omega))
          have HJ := Lib.hid (And.intro hjj hlt)
          obtain ⟨e, he⟩ : ∃ e, t.es[j]? = some e := ⟨_, List.getElem?_eq_getElem (by rw [← HN.out.1]; exact hlt)⟩
          have hev := HK.out.e e (List.mem_of_getElem? he)
          obtain ⟨x, y⟩ := e
          obtain ⟨a, ha⟩ : ∃ a, a = x.toNat := ⟨_, rfl⟩
          obtain ⟨b, hb⟩ : ∃ b, b = y.toNat := ⟨_, rfl⟩
          have HE := Lib.hid (show t.es[j]? = some (x, y) ∧ (a = x.toNat ∧ b = y.toNat) ∧ a ≤ 12 ∧ b ≤ 12 from ⟨he, ⟨ha, hb⟩, by have := hev.1; dsimp at this; omega, by have := hev.2; dsimp at this; omega⟩)
          have hx : x = (a : Nat) := by have := hev.1; dsimp at this; omega
          have hy : y = (b : Nat) := by have := hev.2; dsimp at this; omega
          subst hx
          subst hy
          obtain ⟨q, qo, hAe, hql, hre⟩ := (HP.out.rows HR2.out HA.out).resolve_left (by intro e; rw [e] at he; cases he)
          have hre := hre j (by rw [← HN.out.1]; exact hlt)
          rw [show t.es[j]'(by rw [← HN.out.1]; exact hlt) = ((a : Int), (b : Int)) by have := (List.getElem?_eq_some_iff.1 he).2; exact this] at hre
          rw [hAe]
          clear hj hlt hjj he hev ha hb
          go_upto_region 10 with (first | (refine wpList_load_mid rfl 95 _ rfl _ _ rfl (ec ((a : Int), (b : Int))) _ hre Try.underlying95 rfl (ecinfo ((a : Int), (b : Int))) ?_) | (refine wpList_store_blk rfl 95 _ _ rfl wr.heap.size 95 #[.int .i64 0, .int .i64 0] (ec ((a : Int), (b : Int))).toArray rfl rfl (Blk.new' rfl) (ecinfoA ((a : Int), (b : Int))) rfl (by unfold ec; simp [Value.oneCell']) ?_; intro _; rw [Wr.alloc_setRow]))
          clear i1 i2 hre
          obtain ⟨w4, hw4⟩ : ∃ w4, w4 = wr.alloc (.cells (ec ((a : Int), (b : Int))).toArray 95) := ⟨_, rfl⟩
          have hb4 : Below wr.heap.size wr w4 := by rw [hw4]; exact (Below.refl _ _).alloc (Nat.le_refl _) _
          have hx4 : Blk w4 wr.heap.size 95 (ec ((a : Int), (b : Int))).toArray := by rw [hw4]; exact Blk.new _ _ _
          rw [← hw4]
          obtain ⟨ge, hge⟩ : ∃ g, g = wr.heap.size := ⟨_, rfl⟩
          rw [← hge] at hx4
          (try rw [← hge])
          have HP4 := Lib.hid (HP.out.next hb4)
          have hcc : w4.cell? ⟨ge, 0, none⟩ = some (.int .i64 (a : Nat)) ∧ w4.cell? ⟨ge, 1, none⟩ = some (.int .i64 (b : Nat)) := ⟨hx4.cell 0, hx4.cell 1⟩
          have e1 : IntKind.u64.wrap ((a : Nat) : Int) = (a : Nat) := by rw [IntKind.wrap_u64]; have := HE.out.2.2; omega
          have e2 : IntKind.u64.wrap ((b : Nat) : Int) = (b : Nat) := by rw [IntKind.wrap_u64]; have := HE.out.2.2; omega
          have HX4 := Lib.hid (show Blk w4.drew ge 95 (ec ((a : Int), (b : Int))).toArray from hx4.next (Below.refl _ _).drew)
          clear hw4 hb4 hge hx4 HP
          have HCC := Lib.hid hcc
          have HBL := Lib.hid (show (bs ++ encK t.k 12 ++ enc n ++ encE (t.es.take j)).length ≤ 2000000 by
            have h1 := encK_len HK.out.k 12 (Nat.le_refl _)
            have h2 := enc_len n (by have := HN.out; omega)
            have h3 := encE_len (es := t.es.take j) (fun x hx => HK.out.e x (List.mem_of_mem_take hx))
            rw [List.length_take] at h3
            have := HBS.out
            have := HN.out
            rw [List.length_append, List.length_append, List.length_append]
            omega)
          obtain ⟨bj, hbj⟩ : ∃ bj, bj = bs ++ encK t.k 12 ++ enc n ++ encE (t.es.take j) := ⟨_, rfl⟩
          rw [← hbj] at HP4 HBL
          have HBJ := Lib.hid hbj
          have HQ1 := Lib.hid (HP4.out.next (Below.refl _ _).drew)
          have HN1 := Lib.hid (wnum_any B g a bj w4.drew HQ1.out.wt (by have := HE.out.2.2; omega) (by have := HBL.out; omega))
          clear hbj
          refine wp_region_tree (S := (fun w' => w'.cell? ⟨ge, 0, none⟩ = some (.int .i64 (a : Nat)) ∧ w'.cell? ⟨ge, 1, none⟩ = some (.int .i64 (b : Nat)))) (.take 0 (.take 1 (.take 2 (.take 3 (.take 5 (.take 6 (.take 7 (.one 4 (.one 8 .nil))))))))) 9999 (by kernel_rfl) (by kernel_rfl) (by kernel_rfl) (by kernel_rfl) (by kernel_rfl) (fun _ _ d _ _ h => by cases d <;> exact h) hcc (fun hHeld => ?_); simp only [Tree.map, List.getElem?_toArray, List.getElem?_cons_zero, List.getElem?_cons_succ]
          (repeat (first | (refine wpTree.take (v := undef) (Or.inr ⟨by rfl, rfl⟩) ?_; simp only [Act.put, List.setIfInBounds_toArray, List.set_cons_zero, List.set_cons_succ]) | (refine wpTree.take (v := ?_) (Or.inl ⟨by rfl, ?_⟩) ?_; rotate_left; (focus (intro _ hS; (try dsimp only at hS); go_split_ands; (try subst hS); go_simp; (try (with_reducible rfl)); done)); simp only [Act.put, List.setIfInBounds_toArray, List.set_cons_zero, List.set_cons_succ])))
          clear hcc
          refine wpTree.one (fun K hK => ?_)
          go_simp
          refine HN1.out.mono ?_
          rintro e w5 ⟨rfl, hw, hwr⟩
          have HX5 := Lib.hid (wrote_blk HQ1.out.wt hwr HX4.out (by decide) (by decide))
          have HP5 := Lib.hid (HQ1.out.put hw hwr)
          have HN2 := Lib.hid (wnum_any B g b (bj ++ enc a) w5 hw (by have := HE.out.2.2; omega) (by rw [List.length_append]; have := HBL.out; have := enc_len a (by have := HE.out.2.2; omega); omega))
          refine hK.out _ _ ⟨HX5.out.cell 0, HX5.out.cell 1⟩ (fun _ => ?_)
          clear hK K hHeld hw hwr HN1
          (try simp only [Act.put, List.setIfInBounds_toArray, List.set_cons_zero, List.set_cons_succ])
          refine wpTree.one (fun K hK => ?_)
          go_simp
          refine HN2.out.mono ?_
          rintro e w6 ⟨rfl, hw, hwr⟩
          have HX6 := Lib.hid (wrote_blk HP5.out.wt hwr HX5.out (by decide) (by decide))
          have HP6 := Lib.hid (HP5.out.put hw hwr)
          refine hK.out _ _ ⟨HX6.out.cell 0, HX6.out.cell 1⟩ (fun _ => ?_)
          clear hK K hw hwr HN2
          (try simp only [Act.put, List.setIfInBounds_toArray, List.set_cons_zero, List.set_cons_succ])
          refine wpTree.done ?_
          go_wp2_with fail
          (try rw [HW.out])
          go_roundw
          case rel => exact ⟨jj, by have := HJ.out; omega, by first | rfl | simp [HJ.out.1], by
            rw [HJ.out.1, encE_take HE.out.1, ← List.append_assoc, ← List.append_assoc]
            have h := HP6.out
            rw [HBJ.out, HE.out.2.1.1, HE.out.2.1.2] at h
            exact h⟩
          case measure => have := HJ.out; simp [intOf]; omega
        · have i1 : ¬ (j : Int) < (n : Nat) := by omega
          have hjn : j = n := by omega
          subst hjn
          clear hj hlt
          go_wp2_with fail
          refine ⟨rfl, .tuple #[], by simp [results, Try.results52, go_sem], rfl, ?_, HW0.out.trans HP.out.wr⟩
          have h := HP.out.wt
          rw [show t.es.take j = t.es by rw [HN.out.1]; exact List.take_length] at h
          unfold encTr
          rw [← HN.out.1, ← List.append_assoc, ← List.append_assoc]
          exact h
end Tr
end Go.Proofs.Ytopkfmamjlkjiaa
