/-
op.GetOp.
-/
import Derived.Test.YtgnfachjobohoaaOp3
namespace Go.Proofs.Ytgnfachjobohoaa
open Go.RowKit

theorem run_store_f64' (P : Program) (w : World) (a : Addr) (m : Mode) (k : FloatKind) (n : Nat) : (store a (.float k n) m).run P w = stored P w a (.float k n) m := run_store P w a _ m rfl
attribute [local go_sem] run_store_f64'

/-- In the middle of a read into a box. -/
def AtT (T : TypeId) (Z : Array Value) (L s k c g : Nat) (W W' : World) (t : List Nat) (cs : Array Value) : Prop :=
  RdB L W' s t ∧ Rdr W' k s ∧ Blk W' c T cs ∧ Blk W' g T Z ∧ Off s W W'
section
variable {T : TypeId} {Z : Array Value} {L s k c g : Nat} {W W' W'' : World} {t t' : List Nat} {cs : Array Value}
theorem AtT.set (p : Pl L s k c g W.heap.size) (h : AtT T Z L s k c g W W' t cs) (j : Nat) (u : Value) : AtT T Z L s k c g W (W'.setCell ⟨c, j, none⟩ u) t (cs.setIfInBounds j u) :=
  ⟨h.1.far p.cs p.cl, h.2.1.far p.ck, h.2.2.1.setCell j u, h.2.2.2.1.far (Ne.symm p.cg) u, h.2.2.2.2.far p.nc j u⟩
theorem AtT.sets (p : Pl L s k c g W.heap.size) : ∀ (vs : List Value) (j : Nat) (W' : World) (cs : Array Value), AtT T Z L s k c g W W' t cs → AtT T Z L s k c g W (W'.setCells c j vs) t (setL cs j vs)
  | [], _, _, _, h => h
  | v :: r, j, _, _, h => AtT.sets p r (j + 1) _ _ (h.set p j v)
theorem AtT.step (p : Pl L s k c g W.heap.size) (h : AtT T Z L s k c g W W' t cs) (hO : Off s W' W'') (hB : RdB L W'' s t') : AtT T Z L s k c g W W'' t' cs :=
  ⟨hB, h.2.1.off hO, hO.blk h.2.2.1 p.cs, hO.blk h.2.2.2.1 p.gs, h.2.2.2.2.trans hO⟩
theorem AtT.next (p : Pl L s k c g W.heap.size) (h : AtT T Z L s k c g W W' t cs) (hb : Below W'.heap.size W' W'') : AtT T Z L s k c g W W'' t cs := h.step p (Off.ofBelow hb) (h.1.below hb)
end

def pureP {α : Type} (x : α) : List Nat → Except Int (α × List Nat) := fun bs => .ok (x, bs)
def mkO (o : OpR) (t : List Nat) : Except Int (OpR × List Nat) := if mayO o then .ok (o, t) else .error 3
/-- The op that bytes begin with. -/
def opP : List Nat → Except Int (OpR × List Nat) :=
  bindP (smallP 6) fun k => bindP (if hasS (k : Nat) then smallP 40 else pureP 0) fun s => bindP (if hasQ (k : Nat) then intP else pureP 0) fun q => bindP (if hasP (k : Nat) then floatP else pureP 0) fun p => mkO ⟨(k : Nat), (s : Nat), q, p⟩
attribute [irreducible] opP
theorem opP_def : opP = bindP (smallP 6) fun k => bindP (if hasS (k : Nat) then smallP 40 else pureP 0) fun s => bindP (if hasQ (k : Nat) then intP else pureP 0) fun q => bindP (if hasP (k : Nat) then floatP else pureP 0) fun p => mkO ⟨(k : Nat), (s : Nat), q, p⟩ := by
  unfold opP; rfl
theorem bindP_pure {α β : Type} (x : α) (Q : α → List Nat → Except Int (β × List Nat)) (bs : List Nat) : bindP (pureP x) Q bs = Q x bs := rfl
theorem lt_tail {e : List Nat} {bs t : List Nat} (h : bs = e ++ t) (hb : ∀ x ∈ bs, x < 256) : ∀ x ∈ t, x < 256 := fun x hx => hb x (by rw [h]; exact List.mem_append_right _ hx)

theorem op_siz (o : OpR) : (#[.int .i64 0, .int .i64 0, .int .i64 0, .float .f64 0] : Array Value).size = o.cells.toArray.size := show 4 = o.cells.toArray.size by rw [List.size_toArray, op_len]

variable {L : Nat}
set_option maxRecDepth 20000 in
set_option maxHeartbeats 8000000 in
theorem getop_any (k s : Nat) (bs : List Nat) (W : World) (hL : L ≤ W.heap.size) (hr : Rdr W k s) (h : RdB L W s bs) (hby : ∀ x ∈ bs, x < 256) :
    Calls Try.prog 43 #[.pointer (some ⟨k, 0, none⟩)] W fun e W' => EndsV L s W (fun o : OpR => .agg o.cells.toArray) (opP bs) e W' := by
  obtain ⟨R, hR⟩ : ∃ R, R = opP bs := ⟨_, rfl⟩
  rw [← hR]
  have HR0 := Lib.hid (hR.trans (by rw [opP_def]))
  clear hR
  have b1 := (Below.refl W.heap.size W).alloc (Nat.le_refl _) (.cells #[.int .i64 0, .int .i64 0, .int .i64 0, .float .f64 0] 40)
  have hg := Blk.new W 40 #[.int .i64 0, .int .i64 0, .int .i64 0, .float .f64 0]
  have B0 := Lib.hid (show RdB L (W.alloc (.cells #[.int .i64 0, .int .i64 0, .int .i64 0, .float .f64 0] 40)) s bs ∧ Rdr (W.alloc (.cells #[.int .i64 0, .int .i64 0, .int .i64 0, .float .f64 0] 40)) k s ∧ Off s W (W.alloc (.cells #[.int .i64 0, .int .i64 0, .int .i64 0, .float .f64 0] 40)) from ⟨h.below b1, hr.below b1, Off.ofBelow b1⟩)
  have HG := Lib.hid hg
  have HS := Lib.hid (show s < W.heap.size ∧ k < W.heap.size from ⟨h.lt, hr.lt⟩)
  have HL := Lib.hid hL
  have HBY := Lib.hid hby
  clear b1 hg h hr hL hby
  go_enter Try.func43, Try.ntmps43
  go_wp2_with fail
  refine (rsmall_any k s bs 6 _ B0.out.2.1 B0.out.1 (by decide)).mono ?_
  rintro e w1 ⟨hO, he⟩
  rcases hq : smallP 6 bs with x | ⟨v1, b1⟩
  · rw [hq] at he
    have HE := Lib.hid (HR0.out.trans (bindP_err hq))
    have HO := Lib.hid (B0.out.2.2.trans hO)
    obtain ⟨rfl, hM⟩ := he
    have HM := Lib.hid hM
    clear hq hO hM B0
    go_wp2_with fail
    exact ⟨rfl, HO.out, by rw [HE.out]; exact ⟨rfl, HM.out⟩⟩
  rw [hq] at he
  obtain ⟨rfl, hB⟩ := he
  have hv1 := Lib.hid (small_ok hq).2
  have HR1 := Lib.hid (HR0.out.trans (bindP_ok hq))
  have HB1 := Lib.hid (lt_tail (small_one HBY.out hq) HBY.out)
  have hs1 : (W.alloc (.cells #[.int .i64 0, .int .i64 0, .int .i64 0, .float .f64 0] 40)).heap.size = W.heap.size + 1 := by simp
  have hsz := hO.size
  rw [hs1] at hsz
  have A0 := Lib.hid (show RdB L w1 s b1 ∧ Rdr w1 k s ∧ Blk w1 W.heap.size 40 #[.int .i64 0, .int .i64 0, .int .i64 0, .float .f64 0] ∧ Off s W w1 from ⟨hB, B0.out.2.1.off hO, hO.blk HG.out (by have := HS.out; omega), B0.out.2.2.trans hO⟩)
  have p : Pl L s k w1.heap.size W.heap.size W.heap.size := ⟨by have := HS.out; omega, by have := HS.out; omega, by have := HL.out; omega, by omega, by have := HS.out; omega, by omega⟩
  have HP := Lib.hid p
  clear hq hO hB B0 hs1 hsz HG p
  have hb2 : ∀ cs, Below w1.heap.size w1 (w1.alloc (.cells cs 40)) := fun cs => (Below.refl _ w1).alloc (Nat.le_refl _) _
  have A1 := Lib.hid (show AtT 40 #[.int .i64 0, .int .i64 0, .int .i64 0, .float .f64 0] L s k w1.heap.size W.heap.size W (w1.alloc (.cells #[.int .i64 (v1 : Nat), .int .i64 0, .int .i64 0, .float .f64 0] 40)) b1 #[.int .i64 (v1 : Nat), .int .i64 0, .int .i64 0, .float .f64 0] from
    ⟨A0.out.1.below (hb2 _), A0.out.2.1.below (hb2 _), Blk.new _ _ _, A0.out.2.2.1.next (hb2 _), A0.out.2.2.2.trans (Off.ofBelow (hb2 _))⟩)
  clear hb2 A0
  rcases kind_cases (v1 : Nat) with ⟨h1, h2, h3⟩ | ⟨h1, h2, h3⟩ | ⟨h1, h2, h3⟩ | ⟨h1, h2, h3⟩
  · have HR2 := Lib.hid HR1.out
    rw [h1, h2, h3] at HR2
    simp only [if_false, Bool.false_eq_true] at HR2
    have HR3 := Lib.hid (HR2.out.trans (bindP_pure _ _ _))
    have HR4 := Lib.hid (HR3.out.trans (bindP_pure _ _ _))
    have HR5 := Lib.hid (HR4.out.trans (bindP_pure _ _ _))
    obtain ⟨o, ho⟩ : ∃ o, o = OpR.mk (v1 : Nat) ((0 : Nat) : Int) 0 0 := ⟨_, rfl⟩
    have A9 := Lib.hid (show AtT 40 #[.int .i64 0, .int .i64 0, .int .i64 0, .float .f64 0] L s k w1.heap.size W.heap.size W _ b1 o.cells.toArray from by rw [ho, op_arr]; exact A1.out)
    rw [← ho] at HR5
    have k0 := A1.out.2.2.1.cell 0
    have rgl := A9.out.2.2.1.range
    clear ho A1
    go_wp2_with (first | (refine wpList_load_midg (by rfl) 40 _ rfl _ _ rfl (OpR.cells ?_) _ ?_ Try.underlying40 rfl (oinfo _) ?_; rotate_left; (focus assumption)) | (go_at_call 52; refine (hassku_any _ _).mono ?_; rintro e wh ⟨rfl, rfl⟩; rw [h1]) | (go_at_call 53; refine (hasqty_any _ _).mono ?_; rintro e wh ⟨rfl, rfl⟩; rw [h2]) | (go_at_call 55; refine (hasprice_any _ _).mono ?_; rintro e wh ⟨rfl, rfl⟩; rw [h3]))
    clear k0 rgl
    (try clear z0)
    (try clear kj)
    refine (may_any o _).mono ?_
    rintro e w6 ⟨rfl, hb⟩
    have A7 := Lib.hid (A9.out.next HP.out hb)
    clear hb A9
    rcases hq : mayO o with _ | _
    · have HE := Lib.hid (HR5.out.trans (show mkO o b1 = .error 3 by unfold mkO; rw [hq]; rfl))
      clear hq
      go_wp2_with fail
      refine (rmust_not k s b1 w6 A7.out.2.1 A7.out.1).mono ?_
      rintro e w7 ⟨rfl, hM, hO⟩
      have HO := Lib.hid (A7.out.2.2.2.2.trans hO)
      have HM := Lib.hid hM
      clear hM hO A7
      go_wp2_with fail
      exact ⟨rfl, HO.out, by rw [HE.out]; exact ⟨rfl, HM.out⟩⟩
    · have HE := Lib.hid (HR5.out.trans (show mkO o b1 = .ok (o, b1) by unfold mkO; rw [hq]; rfl))
      clear hq
      go_wp2_with fail
      refine (rmust_yes k s b1 w6 A7.out.2.1 A7.out.1).mono ?_
      rintro e w7 ⟨rfl, rfl⟩
      have rgl := A7.out.2.2.1.range
      have bg := A7.out.2.2.2.1
      go_wp2_with (first | (refine wpList_load_midg (by rfl) 40 _ rfl _ _ rfl (OpR.cells ?_) _ ?_ Try.underlying40 rfl (oinfo _) ?_; rotate_left; (focus assumption)) | (refine wpList_store_blk rfl 40 _ _ rfl W.heap.size 40 _ o.cells.toArray rfl rfl bg (oinfoA _) (op_siz o) (op_one o) ?_; intro hrow))
      refine bodyPost_row (t := 40) o.cells.toArray rfl rfl rfl Try.underlying40 rfl (oinfoA _) hrow ?_
      have hf : ∀ j, j ≠ W.heap.size → (w6.setRow W.heap.size o.cells.toArray).heap[j]? = w6.heap[j]? := fun j hj => setRow_other w6 W.heap.size j _ hj
      have hz : (w6.setRow W.heap.size o.cells.toArray).heap.size = w6.heap.size := by simp
      exact ⟨A7.out.2.2.2.2.turn (Nat.le_refl _) rfl rfl rfl (Nat.le_of_eq hz.symm) hf, by rw [HE.out]; exact ⟨rfl, A7.out.1.turn (Nat.le_of_eq hz.symm) hf HP.out.gs HL.out⟩⟩
  · have HR2 := Lib.hid HR1.out
    rw [h1, h2, h3] at HR2
    simp only [if_true, if_false, Bool.false_eq_true] at HR2
    have k0 := A1.out.2.2.1.cell 0
    have z0 := A1.out.2.2.1.frozen 1
    have kj := A1.out.2.2.1.cell 1
    go_wp2_with (first | (go_at_call 52; refine (hassku_any _ _).mono ?_; rintro e wh ⟨rfl, rfl⟩; rw [h1]) | (go_at_call 53; refine (hasqty_any _ _).mono ?_; rintro e wh ⟨rfl, rfl⟩; rw [h2]) | (go_at_call 55; refine (hasprice_any _ _).mono ?_; rintro e wh ⟨rfl, rfl⟩; rw [h3]))
    clear k0 z0 kj
    refine (rsmall_any k s b1 40 _ A1.out.2.1 A1.out.1 (by decide)).mono ?_
    rintro e w2 ⟨hO, he⟩
    rcases hq : smallP 40 b1 with x | ⟨v2, b2⟩
    · rw [hq] at he
      have HE := Lib.hid (HR2.out.trans (bindP_err hq))
      have HO := Lib.hid (A1.out.2.2.2.2.trans hO)
      obtain ⟨rfl, hM⟩ := he
      have HM := Lib.hid hM
      clear hq hO hM A1
      go_wp2_with fail
      exact ⟨rfl, HO.out, by rw [HE.out]; exact ⟨rfl, HM.out⟩⟩
    rw [hq] at he
    obtain ⟨rfl, hB⟩ := he
    have HR3 := Lib.hid (HR2.out.trans (bindP_ok hq))
    have HB2 := Lib.hid (lt_tail (small_one HB1.out hq) HB1.out)
    have B2 := Lib.hid (AtT.step HP.out A1.out hO hB)
    have k0 := B2.out.2.2.1.cell 0
    have z0 := B2.out.2.2.1.frozen 1
    have kj := B2.out.2.2.1.cell 1
    have A2 := Lib.hid (show AtT 40 #[.int .i64 0, .int .i64 0, .int .i64 0, .float .f64 0] L s k w1.heap.size W.heap.size W _ b2 #[.int .i64 (v1 : Nat), .int .i64 (v2 : Nat), .int .i64 0, .float .f64 0] from B2.out.set HP.out 1 (.int .i64 (v2 : Nat)))
    clear hq hO hB A1 B2
    have k0 := A2.out.2.2.1.cell 0
    have z0 := A2.out.2.2.1.frozen 2
    have kj := A2.out.2.2.1.cell 2
    go_wp2_with (first | (go_at_call 52; refine (hassku_any _ _).mono ?_; rintro e wh ⟨rfl, rfl⟩; rw [h1]) | (go_at_call 53; refine (hasqty_any _ _).mono ?_; rintro e wh ⟨rfl, rfl⟩; rw [h2]) | (go_at_call 55; refine (hasprice_any _ _).mono ?_; rintro e wh ⟨rfl, rfl⟩; rw [h3]))
    clear k0 z0 kj
    refine (rint_any k s b2 _ A2.out.2.1 A2.out.1).mono ?_
    rintro e w3 ⟨hO, he⟩
    rcases hq : intP b2 with x | ⟨v3, b3⟩
    · rw [hq] at he
      have HE := Lib.hid (HR3.out.trans (bindP_err hq))
      have HO := Lib.hid (A2.out.2.2.2.2.trans hO)
      obtain ⟨rfl, hM⟩ := he
      have HM := Lib.hid hM
      clear hq hO hM A2
      go_wp2_with fail
      exact ⟨rfl, HO.out, by rw [HE.out]; exact ⟨rfl, HM.out⟩⟩
    rw [hq] at he
    obtain ⟨rfl, hB⟩ := he
    have HR4 := Lib.hid (HR3.out.trans (bindP_ok hq))
    have HB3 := Lib.hid (lt_tail ((int_one HB2.out hq).1) HB2.out)
    have B3 := Lib.hid (AtT.step HP.out A2.out hO hB)
    have k0 := B3.out.2.2.1.cell 0
    have z0 := B3.out.2.2.1.frozen 2
    have kj := B3.out.2.2.1.cell 2
    have A3 := Lib.hid (show AtT 40 #[.int .i64 0, .int .i64 0, .int .i64 0, .float .f64 0] L s k w1.heap.size W.heap.size W _ b3 #[.int .i64 (v1 : Nat), .int .i64 (v2 : Nat), .int .i64 v3, .float .f64 0] from B3.out.set HP.out 2 (.int .i64 v3))
    clear hq hO hB A2 B3
    have HR5 := Lib.hid (HR4.out.trans (bindP_pure _ _ _))
    obtain ⟨o, ho⟩ : ∃ o, o = OpR.mk (v1 : Nat) (v2 : Nat) v3 0 := ⟨_, rfl⟩
    have A9 := Lib.hid (show AtT 40 #[.int .i64 0, .int .i64 0, .int .i64 0, .float .f64 0] L s k w1.heap.size W.heap.size W _ b3 o.cells.toArray from by rw [ho, op_arr]; exact A3.out)
    rw [← ho] at HR5
    have rgl := A9.out.2.2.1.range
    clear ho A3
    go_wp2_with (first | (refine wpList_load_midg (by rfl) 40 _ rfl _ _ rfl (OpR.cells ?_) _ ?_ Try.underlying40 rfl (oinfo _) ?_; rotate_left; (focus assumption)) | (go_at_call 52; refine (hassku_any _ _).mono ?_; rintro e wh ⟨rfl, rfl⟩; rw [h1]) | (go_at_call 53; refine (hasqty_any _ _).mono ?_; rintro e wh ⟨rfl, rfl⟩; rw [h2]) | (go_at_call 55; refine (hasprice_any _ _).mono ?_; rintro e wh ⟨rfl, rfl⟩; rw [h3]))
    clear k0 rgl
    (try clear z0)
    (try clear kj)
    refine (may_any o _).mono ?_
    rintro e w6 ⟨rfl, hb⟩
    have A7 := Lib.hid (A9.out.next HP.out hb)
    clear hb A9
    rcases hq : mayO o with _ | _
    · have HE := Lib.hid (HR5.out.trans (show mkO o b3 = .error 3 by unfold mkO; rw [hq]; rfl))
      clear hq
      go_wp2_with fail
      refine (rmust_not k s b3 w6 A7.out.2.1 A7.out.1).mono ?_
      rintro e w7 ⟨rfl, hM, hO⟩
      have HO := Lib.hid (A7.out.2.2.2.2.trans hO)
      have HM := Lib.hid hM
      clear hM hO A7
      go_wp2_with fail
      exact ⟨rfl, HO.out, by rw [HE.out]; exact ⟨rfl, HM.out⟩⟩
    · have HE := Lib.hid (HR5.out.trans (show mkO o b3 = .ok (o, b3) by unfold mkO; rw [hq]; rfl))
      clear hq
      go_wp2_with fail
      refine (rmust_yes k s b3 w6 A7.out.2.1 A7.out.1).mono ?_
      rintro e w7 ⟨rfl, rfl⟩
      have rgl := A7.out.2.2.1.range
      have bg := A7.out.2.2.2.1
      go_wp2_with (first | (refine wpList_load_midg (by rfl) 40 _ rfl _ _ rfl (OpR.cells ?_) _ ?_ Try.underlying40 rfl (oinfo _) ?_; rotate_left; (focus assumption)) | (refine wpList_store_blk rfl 40 _ _ rfl W.heap.size 40 _ o.cells.toArray rfl rfl bg (oinfoA _) (op_siz o) (op_one o) ?_; intro hrow))
      refine bodyPost_row (t := 40) o.cells.toArray rfl rfl rfl Try.underlying40 rfl (oinfoA _) hrow ?_
      have hf : ∀ j, j ≠ W.heap.size → (w6.setRow W.heap.size o.cells.toArray).heap[j]? = w6.heap[j]? := fun j hj => setRow_other w6 W.heap.size j _ hj
      have hz : (w6.setRow W.heap.size o.cells.toArray).heap.size = w6.heap.size := by simp
      exact ⟨A7.out.2.2.2.2.turn (Nat.le_refl _) rfl rfl rfl (Nat.le_of_eq hz.symm) hf, by rw [HE.out]; exact ⟨rfl, A7.out.1.turn (Nat.le_of_eq hz.symm) hf HP.out.gs HL.out⟩⟩
  · have HR2 := Lib.hid HR1.out
    rw [h1, h2, h3] at HR2
    simp only [if_true, if_false, Bool.false_eq_true] at HR2
    have k0 := A1.out.2.2.1.cell 0
    have z0 := A1.out.2.2.1.frozen 1
    have kj := A1.out.2.2.1.cell 1
    go_wp2_with (first | (go_at_call 52; refine (hassku_any _ _).mono ?_; rintro e wh ⟨rfl, rfl⟩; rw [h1]) | (go_at_call 53; refine (hasqty_any _ _).mono ?_; rintro e wh ⟨rfl, rfl⟩; rw [h2]) | (go_at_call 55; refine (hasprice_any _ _).mono ?_; rintro e wh ⟨rfl, rfl⟩; rw [h3]))
    clear k0 z0 kj
    refine (rsmall_any k s b1 40 _ A1.out.2.1 A1.out.1 (by decide)).mono ?_
    rintro e w2 ⟨hO, he⟩
    rcases hq : smallP 40 b1 with x | ⟨v2, b2⟩
    · rw [hq] at he
      have HE := Lib.hid (HR2.out.trans (bindP_err hq))
      have HO := Lib.hid (A1.out.2.2.2.2.trans hO)
      obtain ⟨rfl, hM⟩ := he
      have HM := Lib.hid hM
      clear hq hO hM A1
      go_wp2_with fail
      exact ⟨rfl, HO.out, by rw [HE.out]; exact ⟨rfl, HM.out⟩⟩
    rw [hq] at he
    obtain ⟨rfl, hB⟩ := he
    have HR3 := Lib.hid (HR2.out.trans (bindP_ok hq))
    have HB2 := Lib.hid (lt_tail (small_one HB1.out hq) HB1.out)
    have B2 := Lib.hid (AtT.step HP.out A1.out hO hB)
    have k0 := B2.out.2.2.1.cell 0
    have z0 := B2.out.2.2.1.frozen 1
    have kj := B2.out.2.2.1.cell 1
    have A2 := Lib.hid (show AtT 40 #[.int .i64 0, .int .i64 0, .int .i64 0, .float .f64 0] L s k w1.heap.size W.heap.size W _ b2 #[.int .i64 (v1 : Nat), .int .i64 (v2 : Nat), .int .i64 0, .float .f64 0] from B2.out.set HP.out 1 (.int .i64 (v2 : Nat)))
    clear hq hO hB A1 B2
    have HR4 := Lib.hid (HR3.out.trans (bindP_pure _ _ _))
    have k0 := A2.out.2.2.1.cell 0
    have z0 := A2.out.2.2.1.frozen 3
    have kj := A2.out.2.2.1.cell 3
    go_wp2_with (first | (go_at_call 52; refine (hassku_any _ _).mono ?_; rintro e wh ⟨rfl, rfl⟩; rw [h1]) | (go_at_call 53; refine (hasqty_any _ _).mono ?_; rintro e wh ⟨rfl, rfl⟩; rw [h2]) | (go_at_call 55; refine (hasprice_any _ _).mono ?_; rintro e wh ⟨rfl, rfl⟩; rw [h3]))
    clear k0 z0 kj
    refine (rfloat_any k s b2 _ A2.out.2.1 A2.out.1 HB2.out).mono ?_
    rintro e w3 ⟨hO, he⟩
    rcases hq : floatP b2 with x | ⟨v3, b3⟩
    · rw [hq] at he
      have HE := Lib.hid (HR4.out.trans (bindP_err hq))
      have HO := Lib.hid (A2.out.2.2.2.2.trans hO)
      obtain ⟨rfl, hM⟩ := he
      have HM := Lib.hid hM
      clear hq hO hM A2
      go_wp2_with fail
      exact ⟨rfl, HO.out, by rw [HE.out]; exact ⟨rfl, HM.out⟩⟩
    rw [hq] at he
    obtain ⟨rfl, hB⟩ := he
    have HR5 := Lib.hid (HR4.out.trans (bindP_ok hq))
    have HB3 := Lib.hid (lt_tail ((float_one HB2.out hq).1) HB2.out)
    have B3 := Lib.hid (AtT.step HP.out A2.out hO hB)
    have k0 := B3.out.2.2.1.cell 0
    have z0 := B3.out.2.2.1.frozen 3
    have kj := B3.out.2.2.1.cell 3
    have A3 := Lib.hid (show AtT 40 #[.int .i64 0, .int .i64 0, .int .i64 0, .float .f64 0] L s k w1.heap.size W.heap.size W _ b3 #[.int .i64 (v1 : Nat), .int .i64 (v2 : Nat), .int .i64 0, .float .f64 v3] from B3.out.set HP.out 3 (.float .f64 v3))
    clear hq hO hB A2 B3
    obtain ⟨o, ho⟩ : ∃ o, o = OpR.mk (v1 : Nat) (v2 : Nat) 0 v3 := ⟨_, rfl⟩
    have A9 := Lib.hid (show AtT 40 #[.int .i64 0, .int .i64 0, .int .i64 0, .float .f64 0] L s k w1.heap.size W.heap.size W _ b3 o.cells.toArray from by rw [ho, op_arr]; exact A3.out)
    rw [← ho] at HR5
    have rgl := A9.out.2.2.1.range
    clear ho A3
    go_wp2_with (first | (refine wpList_load_midg (by rfl) 40 _ rfl _ _ rfl (OpR.cells ?_) _ ?_ Try.underlying40 rfl (oinfo _) ?_; rotate_left; (focus assumption)) | (go_at_call 52; refine (hassku_any _ _).mono ?_; rintro e wh ⟨rfl, rfl⟩; rw [h1]) | (go_at_call 53; refine (hasqty_any _ _).mono ?_; rintro e wh ⟨rfl, rfl⟩; rw [h2]) | (go_at_call 55; refine (hasprice_any _ _).mono ?_; rintro e wh ⟨rfl, rfl⟩; rw [h3]))
    clear k0 rgl
    (try clear z0)
    (try clear kj)
    refine (may_any o _).mono ?_
    rintro e w6 ⟨rfl, hb⟩
    have A7 := Lib.hid (A9.out.next HP.out hb)
    clear hb A9
    rcases hq : mayO o with _ | _
    · have HE := Lib.hid (HR5.out.trans (show mkO o b3 = .error 3 by unfold mkO; rw [hq]; rfl))
      clear hq
      go_wp2_with fail
      refine (rmust_not k s b3 w6 A7.out.2.1 A7.out.1).mono ?_
      rintro e w7 ⟨rfl, hM, hO⟩
      have HO := Lib.hid (A7.out.2.2.2.2.trans hO)
      have HM := Lib.hid hM
      clear hM hO A7
      go_wp2_with fail
      exact ⟨rfl, HO.out, by rw [HE.out]; exact ⟨rfl, HM.out⟩⟩
    · have HE := Lib.hid (HR5.out.trans (show mkO o b3 = .ok (o, b3) by unfold mkO; rw [hq]; rfl))
      clear hq
      go_wp2_with fail
      refine (rmust_yes k s b3 w6 A7.out.2.1 A7.out.1).mono ?_
      rintro e w7 ⟨rfl, rfl⟩
      have rgl := A7.out.2.2.1.range
      have bg := A7.out.2.2.2.1
      go_wp2_with (first | (refine wpList_load_midg (by rfl) 40 _ rfl _ _ rfl (OpR.cells ?_) _ ?_ Try.underlying40 rfl (oinfo _) ?_; rotate_left; (focus assumption)) | (refine wpList_store_blk rfl 40 _ _ rfl W.heap.size 40 _ o.cells.toArray rfl rfl bg (oinfoA _) (op_siz o) (op_one o) ?_; intro hrow))
      refine bodyPost_row (t := 40) o.cells.toArray rfl rfl rfl Try.underlying40 rfl (oinfoA _) hrow ?_
      have hf : ∀ j, j ≠ W.heap.size → (w6.setRow W.heap.size o.cells.toArray).heap[j]? = w6.heap[j]? := fun j hj => setRow_other w6 W.heap.size j _ hj
      have hz : (w6.setRow W.heap.size o.cells.toArray).heap.size = w6.heap.size := by simp
      exact ⟨A7.out.2.2.2.2.turn (Nat.le_refl _) rfl rfl rfl (Nat.le_of_eq hz.symm) hf, by rw [HE.out]; exact ⟨rfl, A7.out.1.turn (Nat.le_of_eq hz.symm) hf HP.out.gs HL.out⟩⟩
  · have HR2 := Lib.hid HR1.out
    rw [h1, h2, h3] at HR2
    simp only [if_true, if_false, Bool.false_eq_true] at HR2
    have k0 := A1.out.2.2.1.cell 0
    have z0 := A1.out.2.2.1.frozen 1
    have kj := A1.out.2.2.1.cell 1
    go_wp2_with (first | (go_at_call 52; refine (hassku_any _ _).mono ?_; rintro e wh ⟨rfl, rfl⟩; rw [h1]) | (go_at_call 53; refine (hasqty_any _ _).mono ?_; rintro e wh ⟨rfl, rfl⟩; rw [h2]) | (go_at_call 55; refine (hasprice_any _ _).mono ?_; rintro e wh ⟨rfl, rfl⟩; rw [h3]))
    clear k0 z0 kj
    refine (rsmall_any k s b1 40 _ A1.out.2.1 A1.out.1 (by decide)).mono ?_
    rintro e w2 ⟨hO, he⟩
    rcases hq : smallP 40 b1 with x | ⟨v2, b2⟩
    · rw [hq] at he
      have HE := Lib.hid (HR2.out.trans (bindP_err hq))
      have HO := Lib.hid (A1.out.2.2.2.2.trans hO)
      obtain ⟨rfl, hM⟩ := he
      have HM := Lib.hid hM
      clear hq hO hM A1
      go_wp2_with fail
      exact ⟨rfl, HO.out, by rw [HE.out]; exact ⟨rfl, HM.out⟩⟩
    rw [hq] at he
    obtain ⟨rfl, hB⟩ := he
    have HR3 := Lib.hid (HR2.out.trans (bindP_ok hq))
    have HB2 := Lib.hid (lt_tail (small_one HB1.out hq) HB1.out)
    have B2 := Lib.hid (AtT.step HP.out A1.out hO hB)
    have k0 := B2.out.2.2.1.cell 0
    have z0 := B2.out.2.2.1.frozen 1
    have kj := B2.out.2.2.1.cell 1
    have A2 := Lib.hid (show AtT 40 #[.int .i64 0, .int .i64 0, .int .i64 0, .float .f64 0] L s k w1.heap.size W.heap.size W _ b2 #[.int .i64 (v1 : Nat), .int .i64 (v2 : Nat), .int .i64 0, .float .f64 0] from B2.out.set HP.out 1 (.int .i64 (v2 : Nat)))
    clear hq hO hB A1 B2
    have HR4 := Lib.hid (HR3.out.trans (bindP_pure _ _ _))
    have HR5 := Lib.hid (HR4.out.trans (bindP_pure _ _ _))
    obtain ⟨o, ho⟩ : ∃ o, o = OpR.mk (v1 : Nat) (v2 : Nat) 0 0 := ⟨_, rfl⟩
    have A9 := Lib.hid (show AtT 40 #[.int .i64 0, .int .i64 0, .int .i64 0, .float .f64 0] L s k w1.heap.size W.heap.size W _ b2 o.cells.toArray from by rw [ho, op_arr]; exact A2.out)
    rw [← ho] at HR5
    have rgl := A9.out.2.2.1.range
    clear ho A2
    go_wp2_with (first | (refine wpList_load_midg (by rfl) 40 _ rfl _ _ rfl (OpR.cells ?_) _ ?_ Try.underlying40 rfl (oinfo _) ?_; rotate_left; (focus assumption)) | (go_at_call 52; refine (hassku_any _ _).mono ?_; rintro e wh ⟨rfl, rfl⟩; rw [h1]) | (go_at_call 53; refine (hasqty_any _ _).mono ?_; rintro e wh ⟨rfl, rfl⟩; rw [h2]) | (go_at_call 55; refine (hasprice_any _ _).mono ?_; rintro e wh ⟨rfl, rfl⟩; rw [h3]))
    clear k0 rgl
    (try clear z0)
    (try clear kj)
    refine (may_any o _).mono ?_
    rintro e w6 ⟨rfl, hb⟩
    have A7 := Lib.hid (A9.out.next HP.out hb)
    clear hb A9
    rcases hq : mayO o with _ | _
    · have HE := Lib.hid (HR5.out.trans (show mkO o b2 = .error 3 by unfold mkO; rw [hq]; rfl))
      clear hq
      go_wp2_with fail
      refine (rmust_not k s b2 w6 A7.out.2.1 A7.out.1).mono ?_
      rintro e w7 ⟨rfl, hM, hO⟩
      have HO := Lib.hid (A7.out.2.2.2.2.trans hO)
      have HM := Lib.hid hM
      clear hM hO A7
      go_wp2_with fail
      exact ⟨rfl, HO.out, by rw [HE.out]; exact ⟨rfl, HM.out⟩⟩
    · have HE := Lib.hid (HR5.out.trans (show mkO o b2 = .ok (o, b2) by unfold mkO; rw [hq]; rfl))
      clear hq
      go_wp2_with fail
      refine (rmust_yes k s b2 w6 A7.out.2.1 A7.out.1).mono ?_
      rintro e w7 ⟨rfl, rfl⟩
      have rgl := A7.out.2.2.1.range
      have bg := A7.out.2.2.2.1
      go_wp2_with (first | (refine wpList_load_midg (by rfl) 40 _ rfl _ _ rfl (OpR.cells ?_) _ ?_ Try.underlying40 rfl (oinfo _) ?_; rotate_left; (focus assumption)) | (refine wpList_store_blk rfl 40 _ _ rfl W.heap.size 40 _ o.cells.toArray rfl rfl bg (oinfoA _) (op_siz o) (op_one o) ?_; intro hrow))
      refine bodyPost_row (t := 40) o.cells.toArray rfl rfl rfl Try.underlying40 rfl (oinfoA _) hrow ?_
      have hf : ∀ j, j ≠ W.heap.size → (w6.setRow W.heap.size o.cells.toArray).heap[j]? = w6.heap[j]? := fun j hj => setRow_other w6 W.heap.size j _ hj
      have hz : (w6.setRow W.heap.size o.cells.toArray).heap.size = w6.heap.size := by simp
      exact ⟨A7.out.2.2.2.2.turn (Nat.le_refl _) rfl rfl rfl (Nat.le_of_eq hz.symm) hf, by rw [HE.out]; exact ⟨rfl, A7.out.1.turn (Nat.le_of_eq hz.symm) hf HP.out.gs HL.out⟩⟩
end Go.Proofs.Ytgnfachjobohoaa
