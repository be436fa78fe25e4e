/-
msg: getStance, get, Read.
-/
import Derived.Test.YtkigaclcmodjaaaMs4
namespace Go.Proofs.Ytkigaclcmodjaaa
open Go.RowKit
set_option linter.unusedSimpArgs false
set_option linter.unusedVariables false
namespace Mg
variable {L : Nat}
/-- In the middle of a read, with a result's box. -/
def AtG (T : TypeId) (L s k g : Nat) (W W' : World) (t : List Nat) (cs : Array Value) : Prop := RdB L W' s t ∧ Rdr W' k s ∧ Blk W' g T cs ∧ Off s W W'
theorem AtG.step {T : TypeId} {s k g : Nat} {W W' W'' : World} {t t' : List Nat} {cs : Array Value} (hg : g ≠ s) (h : AtG T L s k g W W' t cs) (hO : Off s W' W'') (hB : RdB L W'' s t') : AtG T L s k g W W'' t' cs := ⟨hB, h.2.1.off hO, hO.blk h.2.2.1 hg, h.2.2.2.trans hO⟩
/-- The stance that bytes begin with. -/
def stP : List Nat → Except Int (St × List Nat) := bindP (smallP 1) fun h => if h = 0 then pureP St.zero else bindP (numP true 0) fun t => bindP vectorP fun l => pureP ⟨true, t, lv l⟩
attribute [irreducible] stP
theorem stP_def : stP = bindP (smallP 1) fun h => if h = 0 then pureP St.zero else bindP (numP true 0) fun t => bindP vectorP fun l => pureP ⟨true, t, lv l⟩ := by unfold stP; rfl
def z12M : List Value := [.int .u32 0, .int .u32 0, .int .u32 0, .int .u32 0, .int .u32 0, .int .u32 0, .int .u32 0, .int .u32 0, .int .u32 0, .int .u32 0, .int .u32 0, .int .u32 0]
theorem fill_scM {place : Nat → Option (Nat × Nat)} {i off : Nat} {v m : Value} {pre post : List Value} {rest : List (Nat × Value)} (h : place i = some (off, 1)) (hv : v.cells = #[v]) (hp : pre.length = off) :
    Instr.fill place (pre ++ (m :: post)).toArray ((i, v) :: rest) = Instr.fill place (pre ++ (v :: post)).toArray rest := by
  have h1 := fill_one (place := place) (i := i) (off := off) (cs := [v]) (pre := pre) (mid := [m]) (post := post) (rest := rest) h hp rfl
  have h2 : Instr.fill place (pre ++ (m :: post)).toArray ((i, v) :: rest) = Instr.fill place (pre ++ (m :: post)).toArray ((i, .agg [v].toArray) :: rest) := by
    have hv2 : (Value.agg [v].toArray).cells = v.cells := by rw [hv]; rfl
    rw [Instr.fill, Instr.fill, h]
    dsimp only
    rw [hv2]
  exact h2.trans h1
theorem st_zeroA : St.zero.cells.toArray = #[.bool false, .int .u64 0, .int .u32 0, .int .u32 0, .int .u32 0, .int .u32 0, .int .u32 0, .int .u32 0, .int .u32 0, .int .u32 0, .int .u32 0, .int .u32 0, .int .u32 0, .int .u32 0] := by rw [st_zeroL]; rfl
theorem st_siz (x : St) : St.zero.cells.toArray.size = x.cells.toArray.size := by rw [List.size_toArray, List.size_toArray, st_len, st_len]
theorem st_fill (parts : List (Nat × Value)) : Try.prog.built 33 parts = Instr.fill (#[(0, 1), (1, 1), (2, 12)][·]?) #[.bool false, .int .u64 0, .int .u32 0, .int .u32 0, .int .u32 0, .int .u32 0, .int .u32 0, .int .u32 0, .int .u32 0, .int .u32 0, .int .u32 0, .int .u32 0, .int .u32 0, .int .u32 0] parts := by kernel_rfl
theorem built_stv (t : Nat) (f : Nat → Nat) : Try.prog.built 33 [(0, .bool true), (1, .int .u64 (t : Nat)), (2, .agg (vl f).toArray)] = some (St.mk true t f).cells.toArray := by
  rw [st_fill]
  have e : (St.mk true t f).cells.toArray = #[.bool true, .int .u64 (t : Nat)] ++ (vl f).toArray := by rw [st_def]; simp
  rw [e]
  obtain ⟨place, hpl⟩ : ∃ place : Nat → Option (Nat × Nat), place = (#[(0, 1), (1, 1), (2, 12)][·]?) := ⟨_, rfl⟩
  have p0 : place 0 = some (0, 1) := by rw [hpl]; rfl
  have p1 : place 1 = some (1, 1) := by rw [hpl]; rfl
  have p2 : place 2 = some (2, (vl f).length) := by rw [hpl, vl_len]; rfl
  rw [← hpl]
  refine (fill_scM (pre := []) (post := .int .u64 0 :: z12M) p0 rfl rfl).trans ?_
  refine (fill_scM (pre := [_]) (post := z12M) p1 rfl rfl).trans ?_
  refine (fill_one (pre := [_, _]) (mid := z12M) (post := []) p2 rfl (by rw [vl_len]; rfl)).trans ?_
  rw [Instr.fill, List.append_nil]
  simp
set_option maxHeartbeats 4000000 in
set_option maxRecDepth 20000 in
theorem getstance_any (k s : Nat) (bs : List Nat) (W : World) (hL : L ≤ W.heap.size) (hr : Rdr W k s) (h : RdB L W s bs) :
    Calls Try.prog 56 #[.pointer (some ⟨k, 0, none⟩)] W fun e W' => EndsV L s W (fun x : St => .agg x.cells.toArray) (stP bs) e W' := by
  obtain ⟨R, hR⟩ : ∃ R, R = stP bs := ⟨_, rfl⟩
  rw [← hR]
  have HR0 := Lib.hid (hR.trans (by rw [stP_def]))
  clear hR
  have hgs : W.heap.size ≠ s := by have := h.lt; omega
  have b1 := (Below.refl W.heap.size W).alloc (Nat.le_refl _) (.cells St.zero.cells.toArray 33)
  obtain ⟨w0, hw0⟩ : ∃ w0, w0 = W.alloc (.cells St.zero.cells.toArray 33) := ⟨_, rfl⟩
  have A0 : AtG 33 L s k W.heap.size W w0 bs St.zero.cells.toArray := by rw [hw0]; exact ⟨h.below b1, hr.below b1, Blk.new _ _ _, Off.ofBelow b1⟩
  rw [st_zeroA] at hw0
  have HW0 := Lib.hid hw0
  have HA0 := Lib.hid A0
  have HL := Lib.hid hL
  have HG := Lib.hid hgs
  clear b1 h hr hL hgs hw0 A0
  go_enter Try.func56, Try.ntmps56
  go_upto_region 1 with fail
  rw [← HW0.out]
  go_wp2_with fail
  refine (rsmall_any k s bs 1 w0 HA0.out.2.1 HA0.out.1 (by decide)).mono ?_
  rintro e w1 ⟨hO, he⟩
  rcases hq : smallP 1 bs with x | ⟨n, b1⟩
  · rw [hq] at he
    have HE := Lib.hid (HR0.out.trans (bindP_err hq))
    have HO := Lib.hid (HA0.out.2.2.2.trans hO)
    obtain ⟨rfl, hM⟩ := he
    have HM := Lib.hid hM
    clear hq hO hM HA0 HW0
    go_wp2_with fail
    exact ⟨rfl, HO.out, by rw [HE.out]; exact ⟨rfl, HM.out⟩⟩
  rw [hq] at he
  obtain ⟨rfl, hB⟩ := he
  have HR1 := Lib.hid (HR0.out.trans (bindP_ok hq))
  have HA1 := Lib.hid (HA0.out.step HG.out hO hB)
  clear hq hO hB HA0 HR0 HW0
  by_cases hn : n = 0
  · subst hn
    have HE := Lib.hid (HR1.out.trans (show _ = Except.ok (St.zero, b1) from by rw [if_pos rfl]; rfl))
    have bg := HA1.out.2.2.1
    go_wp2_with (first | (refine wpList_build_lit St.zero.cells.toArray rfl 33 _ rfl built_st ?_) | (refine wpList_store_blk rfl 33 _ _ rfl W.heap.size 33 _ St.zero.cells.toArray rfl rfl bg (stinfoA _) (st_siz _) (st_one _) ?_; intro hrow))
    refine bodyPost_row (t := 33) St.zero.cells.toArray rfl rfl rfl Try.underlying33 rfl (stinfoA _) hrow ?_
    have hf : ∀ j, j ≠ W.heap.size → (w1.setRow W.heap.size St.zero.cells.toArray).heap[j]? = w1.heap[j]? := fun j hj => setRow_other w1 W.heap.size j _ hj
    have hz : (w1.setRow W.heap.size St.zero.cells.toArray).heap.size = w1.heap.size := by simp
    exact ⟨HA1.out.2.2.2.turn (Nat.le_refl _) rfl rfl rfl (Nat.le_of_eq hz.symm) hf, by rw [HE.out]; exact ⟨rfl, HA1.out.1.turn (Nat.le_of_eq hz.symm) hf HG.out HL.out⟩⟩
  · have HR1 := Lib.hid (HR1.out.trans (by rw [if_neg hn]))
    have hn0 : ((n : Int) == 0) = false := by simp; omega
    clear hn
    go_wp2_with fail
    clear hn0
    refine (rnum_any k s b1 w1 HA1.out.2.1 HA1.out.1).mono ?_
    rintro e w2 ⟨hO, he⟩
    rcases hq : numP true 0 b1 with x | ⟨t, b2⟩
    · rw [hq] at he
      have HE := Lib.hid (HR1.out.trans (bindP_err hq))
      have HO := Lib.hid (HA1.out.2.2.2.trans hO)
      obtain ⟨rfl, hM⟩ := he
      have HM := Lib.hid hM
      clear hq hO hM HA1
      go_wp2_with fail
      exact ⟨rfl, HO.out, by rw [HE.out]; exact ⟨rfl, HM.out⟩⟩
    rw [hq] at he
    obtain ⟨rfl, hB⟩ := he
    have HR2 := Lib.hid (HR1.out.trans (bindP_ok hq))
    have HA2 := Lib.hid (HA1.out.step HG.out hO hB)
    clear hq hO hB HA1 HR1
    go_wp2_with fail
    refine (rvector_any k s b2 w2 (by have := HA2.out.2.2.2.size; have := HL.out; omega) HA2.out.2.1 HA2.out.1).mono ?_
    rintro e w3 ⟨hO, he⟩
    rcases hq : vectorP b2 with x | ⟨l, b3⟩
    · rw [hq] at he
      have HE := Lib.hid (HR2.out.trans (bindP_err hq))
      have HO := Lib.hid (HA2.out.2.2.2.trans hO)
      obtain ⟨rfl, hM⟩ := he
      have HM := Lib.hid hM
      clear hq hO hM HA2
      go_wp2_with fail
      exact ⟨rfl, HO.out, by rw [HE.out]; exact ⟨rfl, HM.out⟩⟩
    rw [hq] at he
    obtain ⟨rfl, hB⟩ := he
    have HE := Lib.hid (HR2.out.trans (bindP_ok hq))
    have HA3 := Lib.hid (HA2.out.step HG.out hO hB)
    have bg := HA3.out.2.2.1
    have hbv := built_stv t (lv l)
    obtain ⟨x, hx⟩ : ∃ x, x = St.mk true t (lv l) := ⟨_, rfl⟩
    rw [← hx] at HE hbv
    clear hq hO hB HA2 HR2 hx
    go_wp2_with (first | (refine wpList_build_lit x.cells.toArray rfl 33 _ rfl hbv ?_) | (refine wpList_store_blk rfl 33 _ _ rfl W.heap.size 33 _ x.cells.toArray rfl rfl bg (stinfoA _) (st_siz _) (st_one _) ?_; intro hrow))
    refine bodyPost_row (t := 33) x.cells.toArray rfl rfl rfl Try.underlying33 rfl (stinfoA _) hrow ?_
    have hf : ∀ j, j ≠ W.heap.size → (w3.setRow W.heap.size x.cells.toArray).heap[j]? = w3.heap[j]? := fun j hj => setRow_other w3 W.heap.size j _ hj
    have hz : (w3.setRow W.heap.size x.cells.toArray).heap.size = w3.heap.size := by simp
    exact ⟨HA3.out.2.2.2.turn (Nat.le_refl _) rfl rfl rfl (Nat.le_of_eq hz.symm) hf, by rw [HE.out]; exact ⟨rfl, HA3.out.1.turn (Nat.le_of_eq hz.symm) hf HG.out HL.out⟩⟩
def mkM (m : Ms) : List Nat → Except Int (Ms × List Nat) := fun t => if rightM m then .ok (m, t) else .error 3
def kindP (k : Int) : List Nat → Except Int (Ms × List Nat) :=
  if hl k then bindP labP fun l => mkM { zM k with l := l }
  else if hev k then bindP evP fun x => mkM { zM k with x := x }
  else if hse k then bindP (smallP 12) fun se => if hco k then bindP (smallP 200) fun co => mkM { zM k with se := (se : Nat), co := (co : Nat) } else mkM { zM k with se := (se : Nat) }
  else if hst k then bindP (smallP 12) fun ca => bindP (smallP 21) fun ro => bindP stP fun s => mkM { zM k with ca := (ca : Nat), ro := (ro : Nat), s := s }
  else mkM (zM k)
/-- The message that bytes begin with. -/
def msgP : List Nat → Except Int (Ms × List Nat) := bindP (smallP 10) fun k => kindP (k : Nat)
attribute [irreducible] msgP
theorem msgP_def : msgP = bindP (smallP 10) fun k => kindP (k : Nat) := by unfold msgP; rfl
section
variable {s k c g : Nat} {W W' : World} {t : List Nat} {m n : Ms} {Z : Array Value}
theorem at_setL (p : Pl L s k c g W.heap.size) (h : AtT 50 Z L s k c g W W' t m.cells.toArray) (l : Lab) : AtT 50 Z L s k c g W (W'.setCells c 5 l.cells) t ({ m with l := l } : Ms).cells.toArray :=
  let h2 := AtT.sets p l.cells 5 W' _ h; ⟨h2.1, h2.2.1, ms_setL h.2.2.1 l, h2.2.2.2⟩
theorem at_setX (p : Pl L s k c g W.heap.size) (h : AtT 50 Z L s k c g W W' t m.cells.toArray) (x : Ev) : AtT 50 Z L s k c g W (W'.setCells c 22 x.cells) t ({ m with x := x } : Ms).cells.toArray :=
  let h2 := AtT.sets p x.cells 22 W' _ h; ⟨h2.1, h2.2.1, ms_setX h.2.2.1 x, h2.2.2.2⟩
theorem at_setS (p : Pl L s k c g W.heap.size) (h : AtT 50 Z L s k c g W W' t m.cells.toArray) (x : St) : AtT 50 Z L s k c g W (W'.setCells c 43 x.cells) t ({ m with s := x } : Ms).cells.toArray :=
  let h2 := AtT.sets p x.cells 43 W' _ h; ⟨h2.1, h2.2.1, ms_setS h.2.2.1 x, h2.2.2.2⟩
theorem at_setH (p : Pl L s k c g W.heap.size) (h : AtT 50 Z L s k c g W W' t m.cells.toArray) {i : Nat} {v : Value} (hi : i < 5) (hn : n.hd = m.hd.set i v) (hl : n.l = m.l) (hx : n.x = m.x) (hs : n.s = m.s) : AtT 50 Z L s k c g W (W'.setCell ⟨c, i, none⟩ v) t n.cells.toArray :=
  let h2 := AtT.set p h i v; ⟨h2.1, h2.2.1, ms_setH h.2.2.1 hi hn hl hx hs, h2.2.2.2⟩
end
set_option maxHeartbeats 8000000 in
set_option maxRecDepth 20000 in
theorem get_no (k s : Nat) (bs : List Nat) (W : World) (hL : L ≤ W.heap.size) (hr : Rdr W k s) (h : RdB L W s bs) (hby : ∀ x ∈ bs, x < 256) (n : Nat) (b1 : List Nat) (hq : smallP 10 bs = .ok (n, b1)) (h1 : hl (n : Nat) = false) (h2 : hev (n : Nat) = false) (h3 : hse (n : Nat) = false) (h4 : hst (n : Nat) = false) (h5 : hco (n : Nat) = false) :
    Calls Try.prog 38 #[.pointer (some ⟨k, 0, none⟩)] W fun e W' => EndsV L s W (fun x : Ms => .agg x.cells.toArray) (msgP bs) e W' := by
  obtain ⟨R, hR⟩ : ∃ R, R = msgP bs := ⟨_, rfl⟩
  rw [← hR]
  have HR0 := Lib.hid ((hR.trans (by rw [msgP_def])).trans ((bindP_ok hq).trans (show kindP (n : Nat) b1 = mkM (zM (n : Nat)) b1 by unfold kindP; rw [h1, h2, h3, h4]; rfl)))
  have HBY := Lib.hid (lt_tail (small_one hby hq) hby)
  clear hR hby
  have hgs : W.heap.size ≠ s := by have := h.lt; omega
  have b1' := (Below.refl W.heap.size W).alloc (Nat.le_refl _) (.cells (zM 0).cells.toArray 50)
  obtain ⟨w0, hw0⟩ : ∃ w0, w0 = W.alloc (.cells (zM 0).cells.toArray 50) := ⟨_, rfl⟩
  have A0 : AtG 50 L s k W.heap.size W w0 bs (zM 0).cells.toArray := by rw [hw0]; exact ⟨h.below b1', hr.below b1', Blk.new _ _ _, Off.ofBelow b1'⟩
  have hk : k < W.heap.size := hr.lt
  rw [zM_cells] at hw0
  have HW0 := Lib.hid hw0
  have HA0 := Lib.hid A0
  have HL := Lib.hid hL
  have HG := Lib.hid hgs
  have HK := Lib.hid hk
  clear b1' h hr hL hgs hw0 A0 hk
  go_enter Try.func38, Try.ntmps38
  go_upto_region 1 with fail
  rw [← HW0.out]
  go_wp2_with fail
  refine (rsmall_any k s bs 10 w0 HA0.out.2.1 HA0.out.1 (by decide)).mono ?_
  rintro e w1 ⟨hO, he⟩
  rw [hq] at he
  obtain ⟨rfl, hB⟩ := he
  have HA1 := Lib.hid (HA0.out.step HG.out hO hB)
  clear hq hO hB HA0 HW0
  go_upto_region 2 with (first | (refine wpList_build_lit (zM (n : Nat)).cells.toArray rfl 50 _ rfl (built_zM (n : Nat)) ?_) | (refine wpList_store_blk rfl 50 _ _ rfl w1.heap.size 50 (zM 0).cells.toArray (zM (n : Nat)).cells.toArray rfl rfl (by rw [zM_cells]; exact Blk.new' rfl) (msinfoA _) (by rw [List.size_toArray, List.size_toArray, ms_len, ms_len]) (ms_one _) ?_; intro hy))
  have hbn := below_setRow ((Below.refl w1.heap.size w1).alloc (Nat.le_refl _) (.cells (zM 0).cells.toArray 50)) (Nat.le_refl _) (zM (n : Nat)).cells.toArray
  rw [zM_cells 0] at hbn
  obtain ⟨w2, hw2⟩ : ∃ w2, w2 = (w1.alloc (.cells #[.int .i64 0, .int .i64 0, .int .i64 0, .int .i64 0, .int .i64 0, .int .u64 0, .int .i64 0, .int .u32 0, .int .i64 0, .int .i64 0, .int .u32 0, .int .u32 0, .int .u32 0, .int .u32 0, .int .u32 0, .int .u32 0, .int .u32 0, .int .u32 0, .int .u32 0, .int .u32 0, .int .u32 0, .int .u32 0, .int .u64 0, .int .i64 0, .int .u32 0, .int .i64 0, .int .i64 0, .int .u32 0, .int .u32 0, .int .u32 0, .int .u32 0, .int .u32 0, .int .u32 0, .int .u32 0, .int .u32 0, .int .u32 0, .int .u32 0, .int .u32 0, .int .u32 0, .int .i64 0, .int .i64 0, .int .i64 0, .float .f64 0, .bool false, .int .u64 0, .int .u32 0, .int .u32 0, .int .u32 0, .int .u32 0, .int .u32 0, .int .u32 0, .int .u32 0, .int .u32 0, .int .u32 0, .int .u32 0, .int .u32 0, .int .u32 0] 50)).setRow w1.heap.size (zM (n : Nat)).cells.toArray := ⟨_, rfl⟩
  rw [← hw2] at hbn hy ⊢
  obtain ⟨c, hc⟩ : ∃ c, c = w1.heap.size := ⟨_, rfl⟩
  rw [← hc] at hy ⊢
  have hsz := HA1.out.2.2.2.size
  have hgl := HA1.out.2.2.1.lt
  have A2 := Lib.hid (show AtT 50 (zM 0).cells.toArray L s k c W.heap.size W w2 b1 (zM (n : Nat)).cells.toArray from ⟨HA1.out.1.below hbn, HA1.out.2.1.below hbn, hy, HA1.out.2.2.1.next hbn, HA1.out.2.2.2.trans (Off.ofBelow hbn)⟩)
  have HP := Lib.hid (show Pl L s k c W.heap.size W.heap.size from ⟨by have := HA1.out.1.lt; omega, by have := HK.out; omega, by have := HL.out; omega, by omega, HG.out, by omega⟩)
  have c0 : World.cell? _ ⟨c, 0, none⟩ = some (.int .i64 ((n : Nat) : Int)) := (ms_all A2.out.2.2.1).2.2.2.2.1
  clear hw2 hbn hy hc hsz hgl HA1
  obtain ⟨m, hm⟩ : ∃ m : Ms, m = zM (n : Nat) := ⟨_, rfl⟩
  rw [← hm] at A2 HR0
  have rgl := A2.out.2.2.1.range
  clear hm
  go_wp2_with (first | (go_at_call 27; refine (haslabel_any _ _).mono ?_; rintro e wh ⟨rfl, rfl⟩; rw [h1]) | (go_at_call 29; refine (hasevent_any _ _).mono ?_; rintro e wh ⟨rfl, rfl⟩; rw [h2]) | (go_at_call 31; refine (hasseller_any _ _).mono ?_; rintro e wh ⟨rfl, rfl⟩; rw [h3]) | (go_at_call 32; refine (hasstance_any _ _).mono ?_; rintro e wh ⟨rfl, rfl⟩; rw [h4]) | (go_at_call 34; refine (hascount_any _ _).mono ?_; rintro e wh ⟨rfl, rfl⟩; rw [h5]) | (refine wpList_load_midg (by rfl) 50 _ rfl _ _ rfl (Ms.cells ?_) _ ?_ Try.underlying50 rfl (msinfo _) ?_; rotate_left; (focus assumption)))
  refine (right_any m w2).mono ?_
  rintro e w16 ⟨rfl, hb⟩
  have A17 := Lib.hid (A2.out.next HP.out hb)
  clear hb A2 rgl
  rcases hq : rightM m with _ | _
  · have HE := Lib.hid (HR0.out.trans (show mkM m b1 = .error 3 by unfold mkM; rw [hq]; rfl))
    clear hq
    go_wp2_with fail
    refine (rmust_not k s b1 w16 A17.out.2.1 A17.out.1).mono ?_
    rintro e w17 ⟨rfl, hM, hO⟩
    have HO := Lib.hid (A17.out.2.2.2.2.trans hO)
    have HM := Lib.hid hM
    clear hM hO A17
    go_wp2_with fail
    exact ⟨rfl, HO.out, by rw [HE.out]; exact ⟨rfl, HM.out⟩⟩
  · have HE := Lib.hid (HR0.out.trans (show mkM m b1 = .ok (m, b1) by unfold mkM; rw [hq]; rfl))
    clear hq
    go_wp2_with fail
    refine (rmust_yes k s b1 w16 A17.out.2.1 A17.out.1).mono ?_
    rintro e w17 ⟨rfl, rfl⟩
    have rgl := A17.out.2.2.1.range
    have bg := A17.out.2.2.2.1
    go_wp2_with (first | (refine wpList_load_midg (by rfl) 50 _ rfl _ _ rfl (Ms.cells ?_) _ ?_ Try.underlying50 rfl (msinfo _) ?_; rotate_left; (focus assumption)) | (refine wpList_store_blk rfl 50 _ _ rfl W.heap.size 50 _ m.cells.toArray rfl rfl bg (msinfoA _) (by rw [List.size_toArray, List.size_toArray, ms_len, ms_len]) (ms_one m) ?_; intro hrow))
    refine bodyPost_row (t := 50) m.cells.toArray rfl rfl rfl Try.underlying50 rfl (msinfoA _) hrow ?_
    have hf : ∀ j, j ≠ W.heap.size → (w16.setRow W.heap.size m.cells.toArray).heap[j]? = w16.heap[j]? := fun j hj => setRow_other w16 W.heap.size j _ hj
    have hz : (w16.setRow W.heap.size m.cells.toArray).heap.size = w16.heap.size := by simp
    exact ⟨A17.out.2.2.2.2.turn (Nat.le_refl _) rfl rfl rfl (Nat.le_of_eq hz.symm) hf, by rw [HE.out]; exact ⟨rfl, A17.out.1.turn (Nat.le_of_eq hz.symm) hf HP.out.gs HL.out⟩⟩
set_option maxHeartbeats 8000000 in
set_option maxRecDepth 20000 in
theorem get_lab (k s : Nat) (bs : List Nat) (W : World) (hL : L ≤ W.heap.size) (hr : Rdr W k s) (h : RdB L W s bs) (hby : ∀ x ∈ bs, x < 256) (n : Nat) (b1 : List Nat) (hq : smallP 10 bs = .ok (n, b1)) (h1 : hl (n : Nat) = true) (h2 : hev (n : Nat) = false) (h3 : hse (n : Nat) = false) (h4 : hst (n : Nat) = false) (h5 : hco (n : Nat) = false) :
    Calls Try.prog 38 #[.pointer (some ⟨k, 0, none⟩)] W fun e W' => EndsV L s W (fun x : Ms => .agg x.cells.toArray) (msgP bs) e W' := by
  obtain ⟨R, hR⟩ : ∃ R, R = msgP bs := ⟨_, rfl⟩
  rw [← hR]
  have HR0 := Lib.hid ((hR.trans (by rw [msgP_def])).trans ((bindP_ok hq).trans (show kindP (n : Nat) b1 = (bindP labP fun l => mkM { zM (n : Nat) with l := l }) b1 by unfold kindP; rw [h1]; rfl)))
  have HBY := Lib.hid (lt_tail (small_one hby hq) hby)
  clear hR hby
  have hgs : W.heap.size ≠ s := by have := h.lt; omega
  have b1' := (Below.refl W.heap.size W).alloc (Nat.le_refl _) (.cells (zM 0).cells.toArray 50)
  obtain ⟨w0, hw0⟩ : ∃ w0, w0 = W.alloc (.cells (zM 0).cells.toArray 50) := ⟨_, rfl⟩
  have A0 : AtG 50 L s k W.heap.size W w0 bs (zM 0).cells.toArray := by rw [hw0]; exact ⟨h.below b1', hr.below b1', Blk.new _ _ _, Off.ofBelow b1'⟩
  have hk : k < W.heap.size := hr.lt
  rw [zM_cells] at hw0
  have HW0 := Lib.hid hw0
  have HA0 := Lib.hid A0
  have HL := Lib.hid hL
  have HG := Lib.hid hgs
  have HK := Lib.hid hk
  clear b1' h hr hL hgs hw0 A0 hk
  go_enter Try.func38, Try.ntmps38
  go_upto_region 1 with fail
  rw [← HW0.out]
  go_wp2_with fail
  refine (rsmall_any k s bs 10 w0 HA0.out.2.1 HA0.out.1 (by decide)).mono ?_
  rintro e w1 ⟨hO, he⟩
  rw [hq] at he
  obtain ⟨rfl, hB⟩ := he
  have HA1 := Lib.hid (HA0.out.step HG.out hO hB)
  clear hq hO hB HA0 HW0
  go_upto_region 2 with (first | (refine wpList_build_lit (zM (n : Nat)).cells.toArray rfl 50 _ rfl (built_zM (n : Nat)) ?_) | (refine wpList_store_blk rfl 50 _ _ rfl w1.heap.size 50 (zM 0).cells.toArray (zM (n : Nat)).cells.toArray rfl rfl (by rw [zM_cells]; exact Blk.new' rfl) (msinfoA _) (by rw [List.size_toArray, List.size_toArray, ms_len, ms_len]) (ms_one _) ?_; intro hy))
  have hbn := below_setRow ((Below.refl w1.heap.size w1).alloc (Nat.le_refl _) (.cells (zM 0).cells.toArray 50)) (Nat.le_refl _) (zM (n : Nat)).cells.toArray
  rw [zM_cells 0] at hbn
  obtain ⟨w2, hw2⟩ : ∃ w2, w2 = (w1.alloc (.cells #[.int .i64 0, .int .i64 0, .int .i64 0, .int .i64 0, .int .i64 0, .int .u64 0, .int .i64 0, .int .u32 0, .int .i64 0, .int .i64 0, .int .u32 0, .int .u32 0, .int .u32 0, .int .u32 0, .int .u32 0, .int .u32 0, .int .u32 0, .int .u32 0, .int .u32 0, .int .u32 0, .int .u32 0, .int .u32 0, .int .u64 0, .int .i64 0, .int .u32 0, .int .i64 0, .int .i64 0, .int .u32 0, .int .u32 0, .int .u32 0, .int .u32 0, .int .u32 0, .int .u32 0, .int .u32 0, .int .u32 0, .int .u32 0, .int .u32 0, .int .u32 0, .int .u32 0, .int .i64 0, .int .i64 0, .int .i64 0, .float .f64 0, .bool false, .int .u64 0, .int .u32 0, .int .u32 0, .int .u32 0, .int .u32 0, .int .u32 0, .int .u32 0, .int .u32 0, .int .u32 0, .int .u32 0, .int .u32 0, .int .u32 0, .int .u32 0] 50)).setRow w1.heap.size (zM (n : Nat)).cells.toArray := ⟨_, rfl⟩
  rw [← hw2] at hbn hy ⊢
  obtain ⟨c, hc⟩ : ∃ c, c = w1.heap.size := ⟨_, rfl⟩
  rw [← hc] at hy ⊢
  have hsz := HA1.out.2.2.2.size
  have hgl := HA1.out.2.2.1.lt
  have A2 := Lib.hid (show AtT 50 (zM 0).cells.toArray L s k c W.heap.size W w2 b1 (zM (n : Nat)).cells.toArray from ⟨HA1.out.1.below hbn, HA1.out.2.1.below hbn, hy, HA1.out.2.2.1.next hbn, HA1.out.2.2.2.trans (Off.ofBelow hbn)⟩)
  have HP := Lib.hid (show Pl L s k c W.heap.size W.heap.size from ⟨by have := HA1.out.1.lt; omega, by have := HK.out; omega, by have := HL.out; omega, by omega, HG.out, by omega⟩)
  have c0 : World.cell? _ ⟨c, 0, none⟩ = some (.int .i64 ((n : Nat) : Int)) := (ms_all A2.out.2.2.1).2.2.2.2.1
  clear hw2 hbn hy hc hsz hgl HA1
  go_wp2_with (first | (go_at_call 27; refine (haslabel_any _ _).mono ?_; rintro e wh ⟨rfl, rfl⟩; rw [h1]) | (go_at_call 29; refine (hasevent_any _ _).mono ?_; rintro e wh ⟨rfl, rfl⟩; rw [h2]) | (go_at_call 31; refine (hasseller_any _ _).mono ?_; rintro e wh ⟨rfl, rfl⟩; rw [h3]) | (go_at_call 32; refine (hasstance_any _ _).mono ?_; rintro e wh ⟨rfl, rfl⟩; rw [h4]) | (go_at_call 34; refine (hascount_any _ _).mono ?_; rintro e wh ⟨rfl, rfl⟩; rw [h5]))
  clear c0
  refine (lget_any k s b1 w2 (by have := A2.out.2.2.1.lt; have := HP.out.cl; omega) A2.out.2.1 A2.out.1).mono ?_
  rintro e w3 ⟨hO, he⟩
  rcases hq : labP b1 with x | ⟨l, b2⟩
  · rw [hq] at he
    have HE := Lib.hid (HR0.out.trans (bindP_err hq))
    have HO := Lib.hid (A2.out.2.2.2.2.trans hO)
    obtain ⟨rfl, hM⟩ := he
    have HM := Lib.hid hM
    clear hq hO hM A2
    go_wp2_with fail
    exact ⟨rfl, HO.out, by rw [HE.out]; exact ⟨rfl, HM.out⟩⟩
  rw [hq] at he
  obtain ⟨rfl, hB⟩ := he
  have HR1 := Lib.hid (HR0.out.trans (bindP_ok hq))
  have BA3 := Lib.hid (AtT.step HP.out A2.out hO hB)
  clear hq hO hB A2 HR0
  have hth := BA3.out.2.2.1.thereT (o := 5) (n := l.cells.toArray.size) (by rw [List.size_toArray, List.size_toArray, ms_len, lab_len]; omega)
  have A3 := Lib.hid (at_setL HP.out BA3.out l)
  go_upto_region 12 with (first | (go_at_call 27; refine (haslabel_any _ _).mono ?_; rintro e wh ⟨rfl, rfl⟩; rw [h1]) | (go_at_call 29; refine (hasevent_any _ _).mono ?_; rintro e wh ⟨rfl, rfl⟩; rw [h2]) | (go_at_call 31; refine (hasseller_any _ _).mono ?_; rintro e wh ⟨rfl, rfl⟩; rw [h3]) | (go_at_call 32; refine (hasstance_any _ _).mono ?_; rintro e wh ⟨rfl, rfl⟩; rw [h4]) | (go_at_call 34; refine (hascount_any _ _).mono ?_; rintro e wh ⟨rfl, rfl⟩; rw [h5]) | (refine wpList_store_mid rfl 27 _ _ rfl c 5 l.cells.toArray rfl rfl hth (linfoA _) (lab_one _) ?_; show wpList _ _ _ _ _ (w3.setCells c 5 l.cells)))
  clear hth BA3
  obtain ⟨w4, hw⟩ : ∃ w4, w4 = w3.setCells c 5 l.cells := ⟨_, rfl⟩
  rw [← hw] at A3 ⊢
  clear hw
  have c0 : World.cell? _ ⟨c, 0, none⟩ = some (.int .i64 ((n : Nat) : Int)) := (ms_all A3.out.2.2.1).2.2.2.2.1
  obtain ⟨m, hm⟩ : ∃ m : Ms, m = { zM (n : Nat) with l := l } := ⟨_, rfl⟩
  rw [← hm] at A3 HR1
  have rgl := A3.out.2.2.1.range
  clear hm
  go_wp2_with (first | (go_at_call 27; refine (haslabel_any _ _).mono ?_; rintro e wh ⟨rfl, rfl⟩; rw [h1]) | (go_at_call 29; refine (hasevent_any _ _).mono ?_; rintro e wh ⟨rfl, rfl⟩; rw [h2]) | (go_at_call 31; refine (hasseller_any _ _).mono ?_; rintro e wh ⟨rfl, rfl⟩; rw [h3]) | (go_at_call 32; refine (hasstance_any _ _).mono ?_; rintro e wh ⟨rfl, rfl⟩; rw [h4]) | (go_at_call 34; refine (hascount_any _ _).mono ?_; rintro e wh ⟨rfl, rfl⟩; rw [h5]) | (refine wpList_load_midg (by rfl) 50 _ rfl _ _ rfl (Ms.cells ?_) _ ?_ Try.underlying50 rfl (msinfo _) ?_; rotate_left; (focus assumption)))
  refine (right_any m w4).mono ?_
  rintro e w16 ⟨rfl, hb⟩
  have A17 := Lib.hid (A3.out.next HP.out hb)
  clear hb A3 rgl
  rcases hq : rightM m with _ | _
  · have HE := Lib.hid (HR1.out.trans (show mkM m b2 = .error 3 by unfold mkM; rw [hq]; rfl))
    clear hq
    go_wp2_with fail
    refine (rmust_not k s b2 w16 A17.out.2.1 A17.out.1).mono ?_
    rintro e w17 ⟨rfl, hM, hO⟩
    have HO := Lib.hid (A17.out.2.2.2.2.trans hO)
    have HM := Lib.hid hM
    clear hM hO A17
    go_wp2_with fail
    exact ⟨rfl, HO.out, by rw [HE.out]; exact ⟨rfl, HM.out⟩⟩
  · have HE := Lib.hid (HR1.out.trans (show mkM m b2 = .ok (m, b2) by unfold mkM; rw [hq]; rfl))
    clear hq
    go_wp2_with fail
    refine (rmust_yes k s b2 w16 A17.out.2.1 A17.out.1).mono ?_
    rintro e w17 ⟨rfl, rfl⟩
    have rgl := A17.out.2.2.1.range
    have bg := A17.out.2.2.2.1
    go_wp2_with (first | (refine wpList_load_midg (by rfl) 50 _ rfl _ _ rfl (Ms.cells ?_) _ ?_ Try.underlying50 rfl (msinfo _) ?_; rotate_left; (focus assumption)) | (refine wpList_store_blk rfl 50 _ _ rfl W.heap.size 50 _ m.cells.toArray rfl rfl bg (msinfoA _) (by rw [List.size_toArray, List.size_toArray, ms_len, ms_len]) (ms_one m) ?_; intro hrow))
    refine bodyPost_row (t := 50) m.cells.toArray rfl rfl rfl Try.underlying50 rfl (msinfoA _) hrow ?_
    have hf : ∀ j, j ≠ W.heap.size → (w16.setRow W.heap.size m.cells.toArray).heap[j]? = w16.heap[j]? := fun j hj => setRow_other w16 W.heap.size j _ hj
    have hz : (w16.setRow W.heap.size m.cells.toArray).heap.size = w16.heap.size := by simp
    exact ⟨A17.out.2.2.2.2.turn (Nat.le_refl _) rfl rfl rfl (Nat.le_of_eq hz.symm) hf, by rw [HE.out]; exact ⟨rfl, A17.out.1.turn (Nat.le_of_eq hz.symm) hf HP.out.gs HL.out⟩⟩
set_option maxHeartbeats 8000000 in
set_option maxRecDepth 20000 in
theorem get_ev (k s : Nat) (bs : List Nat) (W : World) (hL : L ≤ W.heap.size) (hr : Rdr W k s) (h : RdB L W s bs) (hby : ∀ x ∈ bs, x < 256) (n : Nat) (b1 : List Nat) (hq : smallP 10 bs = .ok (n, b1)) (h1 : hl (n : Nat) = false) (h2 : hev (n : Nat) = true) (h3 : hse (n : Nat) = false) (h4 : hst (n : Nat) = false) (h5 : hco (n : Nat) = false) :
    Calls Try.prog 38 #[.pointer (some ⟨k, 0, none⟩)] W fun e W' => EndsV L s W (fun x : Ms => .agg x.cells.toArray) (msgP bs) e W' := by
  obtain ⟨R, hR⟩ : ∃ R, R = msgP bs := ⟨_, rfl⟩
  rw [← hR]
  have HR0 := Lib.hid ((hR.trans (by rw [msgP_def])).trans ((bindP_ok hq).trans (show kindP (n : Nat) b1 = (bindP evP fun x => mkM { zM (n : Nat) with x := x }) b1 by unfold kindP; rw [h1, h2]; rfl)))
  have HBY := Lib.hid (lt_tail (small_one hby hq) hby)
  clear hR hby
  have hgs : W.heap.size ≠ s := by have := h.lt; omega
  have b1' := (Below.refl W.heap.size W).alloc (Nat.le_refl _) (.cells (zM 0).cells.toArray 50)
  obtain ⟨w0, hw0⟩ : ∃ w0, w0 = W.alloc (.cells (zM 0).cells.toArray 50) := ⟨_, rfl⟩
  have A0 : AtG 50 L s k W.heap.size W w0 bs (zM 0).cells.toArray := by rw [hw0]; exact ⟨h.below b1', hr.below b1', Blk.new _ _ _, Off.ofBelow b1'⟩
  have hk : k < W.heap.size := hr.lt
  rw [zM_cells] at hw0
  have HW0 := Lib.hid hw0
  have HA0 := Lib.hid A0
  have HL := Lib.hid hL
  have HG := Lib.hid hgs
  have HK := Lib.hid hk
  clear b1' h hr hL hgs hw0 A0 hk
  go_enter Try.func38, Try.ntmps38
  go_upto_region 1 with fail
  rw [← HW0.out]
  go_wp2_with fail
  refine (rsmall_any k s bs 10 w0 HA0.out.2.1 HA0.out.1 (by decide)).mono ?_
  rintro e w1 ⟨hO, he⟩
  rw [hq] at he
  obtain ⟨rfl, hB⟩ := he
  have HA1 := Lib.hid (HA0.out.step HG.out hO hB)
  clear hq hO hB HA0 HW0
  go_upto_region 2 with (first | (refine wpList_build_lit (zM (n : Nat)).cells.toArray rfl 50 _ rfl (built_zM (n : Nat)) ?_) | (refine wpList_store_blk rfl 50 _ _ rfl w1.heap.size 50 (zM 0).cells.toArray (zM (n : Nat)).cells.toArray rfl rfl (by rw [zM_cells]; exact Blk.new' rfl) (msinfoA _) (by rw [List.size_toArray, List.size_toArray, ms_len, ms_len]) (ms_one _) ?_; intro hy))
  have hbn := below_setRow ((Below.refl w1.heap.size w1).alloc (Nat.le_refl _) (.cells (zM 0).cells.toArray 50)) (Nat.le_refl _) (zM (n : Nat)).cells.toArray
  rw [zM_cells 0] at hbn
  obtain ⟨w2, hw2⟩ : ∃ w2, w2 = (w1.alloc (.cells #[.int .i64 0, .int .i64 0, .int .i64 0, .int .i64 0, .int .i64 0, .int .u64 0, .int .i64 0, .int .u32 0, .int .i64 0, .int .i64 0, .int .u32 0, .int .u32 0, .int .u32 0, .int .u32 0, .int .u32 0, .int .u32 0, .int .u32 0, .int .u32 0, .int .u32 0, .int .u32 0, .int .u32 0, .int .u32 0, .int .u64 0, .int .i64 0, .int .u32 0, .int .i64 0, .int .i64 0, .int .u32 0, .int .u32 0, .int .u32 0, .int .u32 0, .int .u32 0, .int .u32 0, .int .u32 0, .int .u32 0, .int .u32 0, .int .u32 0, .int .u32 0, .int .u32 0, .int .i64 0, .int .i64 0, .int .i64 0, .float .f64 0, .bool false, .int .u64 0, .int .u32 0, .int .u32 0, .int .u32 0, .int .u32 0, .int .u32 0, .int .u32 0, .int .u32 0, .int .u32 0, .int .u32 0, .int .u32 0, .int .u32 0, .int .u32 0] 50)).setRow w1.heap.size (zM (n : Nat)).cells.toArray := ⟨_, rfl⟩
  rw [← hw2] at hbn hy ⊢
  obtain ⟨c, hc⟩ : ∃ c, c = w1.heap.size := ⟨_, rfl⟩
  rw [← hc] at hy ⊢
  have hsz := HA1.out.2.2.2.size
  have hgl := HA1.out.2.2.1.lt
  have A2 := Lib.hid (show AtT 50 (zM 0).cells.toArray L s k c W.heap.size W w2 b1 (zM (n : Nat)).cells.toArray from ⟨HA1.out.1.below hbn, HA1.out.2.1.below hbn, hy, HA1.out.2.2.1.next hbn, HA1.out.2.2.2.trans (Off.ofBelow hbn)⟩)
  have HP := Lib.hid (show Pl L s k c W.heap.size W.heap.size from ⟨by have := HA1.out.1.lt; omega, by have := HK.out; omega, by have := HL.out; omega, by omega, HG.out, by omega⟩)
  have c0 : World.cell? _ ⟨c, 0, none⟩ = some (.int .i64 ((n : Nat) : Int)) := (ms_all A2.out.2.2.1).2.2.2.2.1
  clear hw2 hbn hy hc hsz hgl HA1
  go_wp2_with (first | (go_at_call 27; refine (haslabel_any _ _).mono ?_; rintro e wh ⟨rfl, rfl⟩; rw [h1]) | (go_at_call 29; refine (hasevent_any _ _).mono ?_; rintro e wh ⟨rfl, rfl⟩; rw [h2]) | (go_at_call 31; refine (hasseller_any _ _).mono ?_; rintro e wh ⟨rfl, rfl⟩; rw [h3]) | (go_at_call 32; refine (hasstance_any _ _).mono ?_; rintro e wh ⟨rfl, rfl⟩; rw [h4]) | (go_at_call 34; refine (hascount_any _ _).mono ?_; rintro e wh ⟨rfl, rfl⟩; rw [h5]))
  clear c0
  refine (evget_any k s b1 w2 (by have := A2.out.2.2.1.lt; have := HP.out.cl; omega) A2.out.2.1 A2.out.1 HBY.out).mono ?_
  rintro e w3 ⟨hO, he⟩
  rcases hq : evP b1 with x | ⟨y, b2⟩
  · rw [hq] at he
    have HE := Lib.hid (HR0.out.trans (bindP_err hq))
    have HO := Lib.hid (A2.out.2.2.2.2.trans hO)
    obtain ⟨rfl, hM⟩ := he
    have HM := Lib.hid hM
    clear hq hO hM A2
    go_wp2_with fail
    exact ⟨rfl, HO.out, by rw [HE.out]; exact ⟨rfl, HM.out⟩⟩
  rw [hq] at he
  obtain ⟨rfl, hB⟩ := he
  have HR1 := Lib.hid (HR0.out.trans (bindP_ok hq))
  have BA3 := Lib.hid (AtT.step HP.out A2.out hO hB)
  clear hq hO hB A2 HR0
  have hth := BA3.out.2.2.1.thereT (o := 22) (n := y.cells.toArray.size) (by rw [List.size_toArray, List.size_toArray, ms_len, ev_len]; omega)
  have A3 := Lib.hid (at_setX HP.out BA3.out y)
  go_upto_region 12 with (first | (go_at_call 27; refine (haslabel_any _ _).mono ?_; rintro e wh ⟨rfl, rfl⟩; rw [h1]) | (go_at_call 29; refine (hasevent_any _ _).mono ?_; rintro e wh ⟨rfl, rfl⟩; rw [h2]) | (go_at_call 31; refine (hasseller_any _ _).mono ?_; rintro e wh ⟨rfl, rfl⟩; rw [h3]) | (go_at_call 32; refine (hasstance_any _ _).mono ?_; rintro e wh ⟨rfl, rfl⟩; rw [h4]) | (go_at_call 34; refine (hascount_any _ _).mono ?_; rintro e wh ⟨rfl, rfl⟩; rw [h5]) | (refine wpList_store_mid rfl 48 _ _ rfl c 22 y.cells.toArray rfl rfl hth (einfoA _) (ev_one _) ?_; show wpList _ _ _ _ _ (w3.setCells c 22 y.cells)))
  clear hth BA3
  obtain ⟨w4, hw⟩ : ∃ w4, w4 = w3.setCells c 22 y.cells := ⟨_, rfl⟩
  rw [← hw] at A3 ⊢
  clear hw
  have c0 : World.cell? _ ⟨c, 0, none⟩ = some (.int .i64 ((n : Nat) : Int)) := (ms_all A3.out.2.2.1).2.2.2.2.1
  obtain ⟨m, hm⟩ : ∃ m : Ms, m = { zM (n : Nat) with x := y } := ⟨_, rfl⟩
  rw [← hm] at A3 HR1
  have rgl := A3.out.2.2.1.range
  clear hm
  go_wp2_with (first | (go_at_call 27; refine (haslabel_any _ _).mono ?_; rintro e wh ⟨rfl, rfl⟩; rw [h1]) | (go_at_call 29; refine (hasevent_any _ _).mono ?_; rintro e wh ⟨rfl, rfl⟩; rw [h2]) | (go_at_call 31; refine (hasseller_any _ _).mono ?_; rintro e wh ⟨rfl, rfl⟩; rw [h3]) | (go_at_call 32; refine (hasstance_any _ _).mono ?_; rintro e wh ⟨rfl, rfl⟩; rw [h4]) | (go_at_call 34; refine (hascount_any _ _).mono ?_; rintro e wh ⟨rfl, rfl⟩; rw [h5]) | (refine wpList_load_midg (by rfl) 50 _ rfl _ _ rfl (Ms.cells ?_) _ ?_ Try.underlying50 rfl (msinfo _) ?_; rotate_left; (focus assumption)))
  refine (right_any m w4).mono ?_
  rintro e w16 ⟨rfl, hb⟩
  have A17 := Lib.hid (A3.out.next HP.out hb)
  clear hb A3 rgl
  rcases hq : rightM m with _ | _
  · have HE := Lib.hid (HR1.out.trans (show mkM m b2 = .error 3 by unfold mkM; rw [hq]; rfl))
    clear hq
    go_wp2_with fail
    refine (rmust_not k s b2 w16 A17.out.2.1 A17.out.1).mono ?_
    rintro e w17 ⟨rfl, hM, hO⟩
    have HO := Lib.hid (A17.out.2.2.2.2.trans hO)
    have HM := Lib.hid hM
    clear hM hO A17
    go_wp2_with fail
    exact ⟨rfl, HO.out, by rw [HE.out]; exact ⟨rfl, HM.out⟩⟩
  · have HE := Lib.hid (HR1.out.trans (show mkM m b2 = .ok (m, b2) by unfold mkM; rw [hq]; rfl))
    clear hq
    go_wp2_with fail
    refine (rmust_yes k s b2 w16 A17.out.2.1 A17.out.1).mono ?_
    rintro e w17 ⟨rfl, rfl⟩
    have rgl := A17.out.2.2.1.range
    have bg := A17.out.2.2.2.1
    go_wp2_with (first | (refine wpList_load_midg (by rfl) 50 _ rfl _ _ rfl (Ms.cells ?_) _ ?_ Try.underlying50 rfl (msinfo _) ?_; rotate_left; (focus assumption)) | (refine wpList_store_blk rfl 50 _ _ rfl W.heap.size 50 _ m.cells.toArray rfl rfl bg (msinfoA _) (by rw [List.size_toArray, List.size_toArray, ms_len, ms_len]) (ms_one m) ?_; intro hrow))
    refine bodyPost_row (t := 50) m.cells.toArray rfl rfl rfl Try.underlying50 rfl (msinfoA _) hrow ?_
    have hf : ∀ j, j ≠ W.heap.size → (w16.setRow W.heap.size m.cells.toArray).heap[j]? = w16.heap[j]? := fun j hj => setRow_other w16 W.heap.size j _ hj
    have hz : (w16.setRow W.heap.size m.cells.toArray).heap.size = w16.heap.size := by simp
    exact ⟨A17.out.2.2.2.2.turn (Nat.le_refl _) rfl rfl rfl (Nat.le_of_eq hz.symm) hf, by rw [HE.out]; exact ⟨rfl, A17.out.1.turn (Nat.le_of_eq hz.symm) hf HP.out.gs HL.out⟩⟩
set_option maxHeartbeats 8000000 in
set_option maxRecDepth 20000 in
theorem get_sel (k s : Nat) (bs : List Nat) (W : World) (hL : L ≤ W.heap.size) (hr : Rdr W k s) (h : RdB L W s bs) (hby : ∀ x ∈ bs, x < 256) (n : Nat) (b1 : List Nat) (hq : smallP 10 bs = .ok (n, b1)) (h1 : hl (n : Nat) = false) (h2 : hev (n : Nat) = false) (h3 : hse (n : Nat) = true) (h4 : hst (n : Nat) = false) (h5 : hco (n : Nat) = false) :
    Calls Try.prog 38 #[.pointer (some ⟨k, 0, none⟩)] W fun e W' => EndsV L s W (fun x : Ms => .agg x.cells.toArray) (msgP bs) e W' := by
  obtain ⟨R, hR⟩ : ∃ R, R = msgP bs := ⟨_, rfl⟩
  rw [← hR]
  have HR0 := Lib.hid ((hR.trans (by rw [msgP_def])).trans ((bindP_ok hq).trans (show kindP (n : Nat) b1 = (bindP (smallP 12) fun se => mkM { zM (n : Nat) with se := (se : Nat) }) b1 by unfold kindP; rw [h1, h2, h3, h5]; rfl)))
  have HBY := Lib.hid (lt_tail (small_one hby hq) hby)
  clear hR hby
  have hgs : W.heap.size ≠ s := by have := h.lt; omega
  have b1' := (Below.refl W.heap.size W).alloc (Nat.le_refl _) (.cells (zM 0).cells.toArray 50)
  obtain ⟨w0, hw0⟩ : ∃ w0, w0 = W.alloc (.cells (zM 0).cells.toArray 50) := ⟨_, rfl⟩
  have A0 : AtG 50 L s k W.heap.size W w0 bs (zM 0).cells.toArray := by rw [hw0]; exact ⟨h.below b1', hr.below b1', Blk.new _ _ _, Off.ofBelow b1'⟩
  have hk : k < W.heap.size := hr.lt
  rw [zM_cells] at hw0
  have HW0 := Lib.hid hw0
  have HA0 := Lib.hid A0
  have HL := Lib.hid hL
  have HG := Lib.hid hgs
  have HK := Lib.hid hk
  clear b1' h hr hL hgs hw0 A0 hk
  go_enter Try.func38, Try.ntmps38
  go_upto_region 1 with fail
  rw [← HW0.out]
  go_wp2_with fail
  refine (rsmall_any k s bs 10 w0 HA0.out.2.1 HA0.out.1 (by decide)).mono ?_
  rintro e w1 ⟨hO, he⟩
  rw [hq] at he
  obtain ⟨rfl, hB⟩ := he
  have HA1 := Lib.hid (HA0.out.step HG.out hO hB)
  clear hq hO hB HA0 HW0
  go_upto_region 2 with (first | (refine wpList_build_lit (zM (n : Nat)).cells.toArray rfl 50 _ rfl (built_zM (n : Nat)) ?_) | (refine wpList_store_blk rfl 50 _ _ rfl w1.heap.size 50 (zM 0).cells.toArray (zM (n : Nat)).cells.toArray rfl rfl (by rw [zM_cells]; exact Blk.new' rfl) (msinfoA _) (by rw [List.size_toArray, List.size_toArray, ms_len, ms_len]) (ms_one _) ?_; intro hy))
  have hbn := below_setRow ((Below.refl w1.heap.size w1).alloc (Nat.le_refl _) (.cells (zM 0).cells.toArray 50)) (Nat.le_refl _) (zM (n : Nat)).cells.toArray
  rw [zM_cells 0] at hbn
  obtain ⟨w2, hw2⟩ : ∃ w2, w2 = (w1.alloc (.cells #[.int .i64 0, .int .i64 0, .int .i64 0, .int .i64 0, .int .i64 0, .int .u64 0, .int .i64 0, .int .u32 0, .int .i64 0, .int .i64 0, .int .u32 0, .int .u32 0, .int .u32 0, .int .u32 0, .int .u32 0, .int .u32 0, .int .u32 0, .int .u32 0, .int .u32 0, .int .u32 0, .int .u32 0, .int .u32 0, .int .u64 0, .int .i64 0, .int .u32 0, .int .i64 0, .int .i64 0, .int .u32 0, .int .u32 0, .int .u32 0, .int .u32 0, .int .u32 0, .int .u32 0, .int .u32 0, .int .u32 0, .int .u32 0, .int .u32 0, .int .u32 0, .int .u32 0, .int .i64 0, .int .i64 0, .int .i64 0, .float .f64 0, .bool false, .int .u64 0, .int .u32 0, .int .u32 0, .int .u32 0, .int .u32 0, .int .u32 0, .int .u32 0, .int .u32 0, .int .u32 0, .int .u32 0, .int .u32 0, .int .u32 0, .int .u32 0] 50)).setRow w1.heap.size (zM (n : Nat)).cells.toArray := ⟨_, rfl⟩
  rw [← hw2] at hbn hy ⊢
  obtain ⟨c, hc⟩ : ∃ c, c = w1.heap.size := ⟨_, rfl⟩
  rw [← hc] at hy ⊢
  have hsz := HA1.out.2.2.2.size
  have hgl := HA1.out.2.2.1.lt
  have A2 := Lib.hid (show AtT 50 (zM 0).cells.toArray L s k c W.heap.size W w2 b1 (zM (n : Nat)).cells.toArray from ⟨HA1.out.1.below hbn, HA1.out.2.1.below hbn, hy, HA1.out.2.2.1.next hbn, HA1.out.2.2.2.trans (Off.ofBelow hbn)⟩)
  have HP := Lib.hid (show Pl L s k c W.heap.size W.heap.size from ⟨by have := HA1.out.1.lt; omega, by have := HK.out; omega, by have := HL.out; omega, by omega, HG.out, by omega⟩)
  have c0 : World.cell? _ ⟨c, 0, none⟩ = some (.int .i64 ((n : Nat) : Int)) := (ms_all A2.out.2.2.1).2.2.2.2.1
  clear hw2 hbn hy hc hsz hgl HA1
  go_wp2_with (first | (go_at_call 27; refine (haslabel_any _ _).mono ?_; rintro e wh ⟨rfl, rfl⟩; rw [h1]) | (go_at_call 29; refine (hasevent_any _ _).mono ?_; rintro e wh ⟨rfl, rfl⟩; rw [h2]) | (go_at_call 31; refine (hasseller_any _ _).mono ?_; rintro e wh ⟨rfl, rfl⟩; rw [h3]) | (go_at_call 32; refine (hasstance_any _ _).mono ?_; rintro e wh ⟨rfl, rfl⟩; rw [h4]) | (go_at_call 34; refine (hascount_any _ _).mono ?_; rintro e wh ⟨rfl, rfl⟩; rw [h5]))
  clear c0
  refine (rsmall_any k s b1 12 w2 A2.out.2.1 A2.out.1 (by decide)).mono ?_
  rintro e w3 ⟨hO, he⟩
  rcases hq : smallP 12 b1 with x | ⟨se, b2⟩
  · rw [hq] at he
    have HE := Lib.hid (HR0.out.trans (bindP_err hq))
    have HO := Lib.hid (A2.out.2.2.2.2.trans hO)
    obtain ⟨rfl, hM⟩ := he
    have HM := Lib.hid hM
    clear hq hO hM A2
    go_wp2_with fail
    exact ⟨rfl, HO.out, by rw [HE.out]; exact ⟨rfl, HM.out⟩⟩
  rw [hq] at he
  obtain ⟨rfl, hB⟩ := he
  have HR1 := Lib.hid (HR0.out.trans (bindP_ok hq))
  have BA3 := Lib.hid (AtT.step HP.out A2.out hO hB)
  clear hq hO hB A2 HR0
  have hk1 := (ms_all BA3.out.2.2.1).2.2.2.2.2.1
  have hf1 := BA3.out.2.2.1.frozen 1
  have A3 := Lib.hid (show AtT 50 (zM 0).cells.toArray L s k c W.heap.size W (w3.setCell ⟨c, 1, none⟩ (.int .i64 (se : Nat))) _ ({ zM (n : Nat) with se := (se : Nat) } : Ms).cells.toArray from at_setH HP.out BA3.out (by omega) rfl rfl rfl rfl)
  go_upto_region 12 with (first | (go_at_call 27; refine (haslabel_any _ _).mono ?_; rintro e wh ⟨rfl, rfl⟩; rw [h1]) | (go_at_call 29; refine (hasevent_any _ _).mono ?_; rintro e wh ⟨rfl, rfl⟩; rw [h2]) | (go_at_call 31; refine (hasseller_any _ _).mono ?_; rintro e wh ⟨rfl, rfl⟩; rw [h3]) | (go_at_call 32; refine (hasstance_any _ _).mono ?_; rintro e wh ⟨rfl, rfl⟩; rw [h4]) | (go_at_call 34; refine (hascount_any _ _).mono ?_; rintro e wh ⟨rfl, rfl⟩; rw [h5]))
  clear hk1 hf1 BA3
  obtain ⟨w4, hw⟩ : ∃ w4, w4 = w3.setCell ⟨c, 1, none⟩ (.int .i64 (se : Nat)) := ⟨_, rfl⟩
  rw [← hw] at A3 ⊢
  clear hw
  have c0 : World.cell? _ ⟨c, 0, none⟩ = some (.int .i64 ((n : Nat) : Int)) := (ms_all A3.out.2.2.1).2.2.2.2.1
  obtain ⟨m, hm⟩ : ∃ m : Ms, m = { zM (n : Nat) with se := (se : Nat) } := ⟨_, rfl⟩
  rw [← hm] at A3 HR1
  have rgl := A3.out.2.2.1.range
  clear hm
  go_wp2_with (first | (go_at_call 27; refine (haslabel_any _ _).mono ?_; rintro e wh ⟨rfl, rfl⟩; rw [h1]) | (go_at_call 29; refine (hasevent_any _ _).mono ?_; rintro e wh ⟨rfl, rfl⟩; rw [h2]) | (go_at_call 31; refine (hasseller_any _ _).mono ?_; rintro e wh ⟨rfl, rfl⟩; rw [h3]) | (go_at_call 32; refine (hasstance_any _ _).mono ?_; rintro e wh ⟨rfl, rfl⟩; rw [h4]) | (go_at_call 34; refine (hascount_any _ _).mono ?_; rintro e wh ⟨rfl, rfl⟩; rw [h5]) | (refine wpList_load_midg (by rfl) 50 _ rfl _ _ rfl (Ms.cells ?_) _ ?_ Try.underlying50 rfl (msinfo _) ?_; rotate_left; (focus assumption)))
  refine (right_any m w4).mono ?_
  rintro e w16 ⟨rfl, hb⟩
  have A17 := Lib.hid (A3.out.next HP.out hb)
  clear hb A3 rgl
  rcases hq : rightM m with _ | _
  · have HE := Lib.hid (HR1.out.trans (show mkM m b2 = .error 3 by unfold mkM; rw [hq]; rfl))
    clear hq
    go_wp2_with fail
    refine (rmust_not k s b2 w16 A17.out.2.1 A17.out.1).mono ?_
    rintro e w17 ⟨rfl, hM, hO⟩
    have HO := Lib.hid (A17.out.2.2.2.2.trans hO)
    have HM := Lib.hid hM
    clear hM hO A17
    go_wp2_with fail
    exact ⟨rfl, HO.out, by rw [HE.out]; exact ⟨rfl, HM.out⟩⟩
  · have HE := Lib.hid (HR1.out.trans (show mkM m b2 = .ok (m, b2) by unfold mkM; rw [hq]; rfl))
    clear hq
    go_wp2_with fail
    refine (rmust_yes k s b2 w16 A17.out.2.1 A17.out.1).mono ?_
    rintro e w17 ⟨rfl, rfl⟩
    have rgl := A17.out.2.2.1.range
    have bg := A17.out.2.2.2.1
    go_wp2_with (first | (refine wpList_load_midg (by rfl) 50 _ rfl _ _ rfl (Ms.cells ?_) _ ?_ Try.underlying50 rfl (msinfo _) ?_; rotate_left; (focus assumption)) | (refine wpList_store_blk rfl 50 _ _ rfl W.heap.size 50 _ m.cells.toArray rfl rfl bg (msinfoA _) (by rw [List.size_toArray, List.size_toArray, ms_len, ms_len]) (ms_one m) ?_; intro hrow))
    refine bodyPost_row (t := 50) m.cells.toArray rfl rfl rfl Try.underlying50 rfl (msinfoA _) hrow ?_
    have hf : ∀ j, j ≠ W.heap.size → (w16.setRow W.heap.size m.cells.toArray).heap[j]? = w16.heap[j]? := fun j hj => setRow_other w16 W.heap.size j _ hj
    have hz : (w16.setRow W.heap.size m.cells.toArray).heap.size = w16.heap.size := by simp
    exact ⟨A17.out.2.2.2.2.turn (Nat.le_refl _) rfl rfl rfl (Nat.le_of_eq hz.symm) hf, by rw [HE.out]; exact ⟨rfl, A17.out.1.turn (Nat.le_of_eq hz.symm) hf HP.out.gs HL.out⟩⟩
set_option maxHeartbeats 8000000 in
set_option maxRecDepth 20000 in
theorem get_en (k s : Nat) (bs : List Nat) (W : World) (hL : L ≤ W.heap.size) (hr : Rdr W k s) (h : RdB L W s bs) (hby : ∀ x ∈ bs, x < 256) (n : Nat) (b1 : List Nat) (hq : smallP 10 bs = .ok (n, b1)) (h1 : hl (n : Nat) = false) (h2 : hev (n : Nat) = false) (h3 : hse (n : Nat) = true) (h4 : hst (n : Nat) = false) (h5 : hco (n : Nat) = true) :
    Calls Try.prog 38 #[.pointer (some ⟨k, 0, none⟩)] W fun e W' => EndsV L s W (fun x : Ms => .agg x.cells.toArray) (msgP bs) e W' := by
  obtain ⟨R, hR⟩ : ∃ R, R = msgP bs := ⟨_, rfl⟩
  rw [← hR]
  have HR0 := Lib.hid ((hR.trans (by rw [msgP_def])).trans ((bindP_ok hq).trans (show kindP (n : Nat) b1 = (bindP (smallP 12) fun se => bindP (smallP 200) fun co => mkM { zM (n : Nat) with se := (se : Nat), co := (co : Nat) }) b1 by unfold kindP; rw [h1, h2, h3, h5]; rfl)))
  have HBY := Lib.hid (lt_tail (small_one hby hq) hby)
  clear hR hby
  have hgs : W.heap.size ≠ s := by have := h.lt; omega
  have b1' := (Below.refl W.heap.size W).alloc (Nat.le_refl _) (.cells (zM 0).cells.toArray 50)
  obtain ⟨w0, hw0⟩ : ∃ w0, w0 = W.alloc (.cells (zM 0).cells.toArray 50) := ⟨_, rfl⟩
  have A0 : AtG 50 L s k W.heap.size W w0 bs (zM 0).cells.toArray := by rw [hw0]; exact ⟨h.below b1', hr.below b1', Blk.new _ _ _, Off.ofBelow b1'⟩
  have hk : k < W.heap.size := hr.lt
  rw [zM_cells] at hw0
  have HW0 := Lib.hid hw0
  have HA0 := Lib.hid A0
  have HL := Lib.hid hL
  have HG := Lib.hid hgs
  have HK := Lib.hid hk
  clear b1' h hr hL hgs hw0 A0 hk
  go_enter Try.func38, Try.ntmps38
  go_upto_region 1 with fail
  rw [← HW0.out]
  go_wp2_with fail
  refine (rsmall_any k s bs 10 w0 HA0.out.2.1 HA0.out.1 (by decide)).mono ?_
  rintro e w1 ⟨hO, he⟩
  rw [hq] at he
  obtain ⟨rfl, hB⟩ := he
  have HA1 := Lib.hid (HA0.out.step HG.out hO hB)
  clear hq hO hB HA0 HW0
  go_upto_region 2 with (first | (refine wpList_build_lit (zM (n : Nat)).cells.toArray rfl 50 _ rfl (built_zM (n : Nat)) ?_) | (refine wpList_store_blk rfl 50 _ _ rfl w1.heap.size 50 (zM 0).cells.toArray (zM (n : Nat)).cells.toArray rfl rfl (by rw [zM_cells]; exact Blk.new' rfl) (msinfoA _) (by rw [List.size_toArray, List.size_toArray, ms_len, ms_len]) (ms_one _) ?_; intro hy))
  have hbn := below_setRow ((Below.refl w1.heap.size w1).alloc (Nat.le_refl _) (.cells (zM 0).cells.toArray 50)) (Nat.le_refl _) (zM (n : Nat)).cells.toArray
  rw [zM_cells 0] at hbn
  obtain ⟨w2, hw2⟩ : ∃ w2, w2 = (w1.alloc (.cells #[.int .i64 0, .int .i64 0, .int .i64 0, .int .i64 0, .int .i64 0, .int .u64 0, .int .i64 0, .int .u32 0, .int .i64 0, .int .i64 0, .int .u32 0, .int .u32 0, .int .u32 0, .int .u32 0, .int .u32 0, .int .u32 0, .int .u32 0, .int .u32 0, .int .u32 0, .int .u32 0, .int .u32 0, .int .u32 0, .int .u64 0, .int .i64 0, .int .u32 0, .int .i64 0, .int .i64 0, .int .u32 0, .int .u32 0, .int .u32 0, .int .u32 0, .int .u32 0, .int .u32 0, .int .u32 0, .int .u32 0, .int .u32 0, .int .u32 0, .int .u32 0, .int .u32 0, .int .i64 0, .int .i64 0, .int .i64 0, .float .f64 0, .bool false, .int .u64 0, .int .u32 0, .int .u32 0, .int .u32 0, .int .u32 0, .int .u32 0, .int .u32 0, .int .u32 0, .int .u32 0, .int .u32 0, .int .u32 0, .int .u32 0, .int .u32 0] 50)).setRow w1.heap.size (zM (n : Nat)).cells.toArray := ⟨_, rfl⟩
  rw [← hw2] at hbn hy ⊢
  obtain ⟨c, hc⟩ : ∃ c, c = w1.heap.size := ⟨_, rfl⟩
  rw [← hc] at hy ⊢
  have hsz := HA1.out.2.2.2.size
  have hgl := HA1.out.2.2.1.lt
  have A2 := Lib.hid (show AtT 50 (zM 0).cells.toArray L s k c W.heap.size W w2 b1 (zM (n : Nat)).cells.toArray from ⟨HA1.out.1.below hbn, HA1.out.2.1.below hbn, hy, HA1.out.2.2.1.next hbn, HA1.out.2.2.2.trans (Off.ofBelow hbn)⟩)
  have HP := Lib.hid (show Pl L s k c W.heap.size W.heap.size from ⟨by have := HA1.out.1.lt; omega, by have := HK.out; omega, by have := HL.out; omega, by omega, HG.out, by omega⟩)
  have c0 : World.cell? _ ⟨c, 0, none⟩ = some (.int .i64 ((n : Nat) : Int)) := (ms_all A2.out.2.2.1).2.2.2.2.1
  clear hw2 hbn hy hc hsz hgl HA1
  go_wp2_with (first | (go_at_call 27; refine (haslabel_any _ _).mono ?_; rintro e wh ⟨rfl, rfl⟩; rw [h1]) | (go_at_call 29; refine (hasevent_any _ _).mono ?_; rintro e wh ⟨rfl, rfl⟩; rw [h2]) | (go_at_call 31; refine (hasseller_any _ _).mono ?_; rintro e wh ⟨rfl, rfl⟩; rw [h3]) | (go_at_call 32; refine (hasstance_any _ _).mono ?_; rintro e wh ⟨rfl, rfl⟩; rw [h4]) | (go_at_call 34; refine (hascount_any _ _).mono ?_; rintro e wh ⟨rfl, rfl⟩; rw [h5]))
  clear c0
  refine (rsmall_any k s b1 12 w2 A2.out.2.1 A2.out.1 (by decide)).mono ?_
  rintro e w3 ⟨hO, he⟩
  rcases hq : smallP 12 b1 with x | ⟨se, b2⟩
  · rw [hq] at he
    have HE := Lib.hid (HR0.out.trans (bindP_err hq))
    have HO := Lib.hid (A2.out.2.2.2.2.trans hO)
    obtain ⟨rfl, hM⟩ := he
    have HM := Lib.hid hM
    clear hq hO hM A2
    go_wp2_with fail
    exact ⟨rfl, HO.out, by rw [HE.out]; exact ⟨rfl, HM.out⟩⟩
  rw [hq] at he
  obtain ⟨rfl, hB⟩ := he
  have HR1 := Lib.hid (HR0.out.trans (bindP_ok hq))
  have BA3 := Lib.hid (AtT.step HP.out A2.out hO hB)
  clear hq hO hB A2 HR0
  have hk1 := (ms_all BA3.out.2.2.1).2.2.2.2.2.1
  have hf1 := BA3.out.2.2.1.frozen 1
  have A3 := Lib.hid (show AtT 50 (zM 0).cells.toArray L s k c W.heap.size W (w3.setCell ⟨c, 1, none⟩ (.int .i64 (se : Nat))) _ ({ zM (n : Nat) with se := (se : Nat) } : Ms).cells.toArray from at_setH HP.out BA3.out (by omega) rfl rfl rfl rfl)
  go_upto_region 12 with (first | (go_at_call 27; refine (haslabel_any _ _).mono ?_; rintro e wh ⟨rfl, rfl⟩; rw [h1]) | (go_at_call 29; refine (hasevent_any _ _).mono ?_; rintro e wh ⟨rfl, rfl⟩; rw [h2]) | (go_at_call 31; refine (hasseller_any _ _).mono ?_; rintro e wh ⟨rfl, rfl⟩; rw [h3]) | (go_at_call 32; refine (hasstance_any _ _).mono ?_; rintro e wh ⟨rfl, rfl⟩; rw [h4]) | (go_at_call 34; refine (hascount_any _ _).mono ?_; rintro e wh ⟨rfl, rfl⟩; rw [h5]))
  clear hk1 hf1 BA3
  obtain ⟨w4, hw⟩ : ∃ w4, w4 = w3.setCell ⟨c, 1, none⟩ (.int .i64 (se : Nat)) := ⟨_, rfl⟩
  rw [← hw] at A3 ⊢
  clear hw
  have c0 : World.cell? _ ⟨c, 0, none⟩ = some (.int .i64 ((n : Nat) : Int)) := (ms_all A3.out.2.2.1).2.2.2.2.1
  go_wp2_with (first | (go_at_call 27; refine (haslabel_any _ _).mono ?_; rintro e wh ⟨rfl, rfl⟩; rw [h1]) | (go_at_call 29; refine (hasevent_any _ _).mono ?_; rintro e wh ⟨rfl, rfl⟩; rw [h2]) | (go_at_call 31; refine (hasseller_any _ _).mono ?_; rintro e wh ⟨rfl, rfl⟩; rw [h3]) | (go_at_call 32; refine (hasstance_any _ _).mono ?_; rintro e wh ⟨rfl, rfl⟩; rw [h4]) | (go_at_call 34; refine (hascount_any _ _).mono ?_; rintro e wh ⟨rfl, rfl⟩; rw [h5]))
  clear c0
  refine (rsmall_any k s b2 200 w4 A3.out.2.1 A3.out.1 (by decide)).mono ?_
  rintro e w5 ⟨hO, he⟩
  rcases hq : smallP 200 b2 with x | ⟨co, b3⟩
  · rw [hq] at he
    have HE := Lib.hid (HR1.out.trans (bindP_err hq))
    have HO := Lib.hid (A3.out.2.2.2.2.trans hO)
    obtain ⟨rfl, hM⟩ := he
    have HM := Lib.hid hM
    clear hq hO hM A3
    go_wp2_with fail
    exact ⟨rfl, HO.out, by rw [HE.out]; exact ⟨rfl, HM.out⟩⟩
  rw [hq] at he
  obtain ⟨rfl, hB⟩ := he
  have HR2 := Lib.hid (HR1.out.trans (bindP_ok hq))
  have BA4 := Lib.hid (AtT.step HP.out A3.out hO hB)
  clear hq hO hB A3 HR1
  have hk2 := (ms_all BA4.out.2.2.1).2.2.2.2.2.2.1
  have hf2 := BA4.out.2.2.1.frozen 2
  have A4 := Lib.hid (show AtT 50 (zM 0).cells.toArray L s k c W.heap.size W (w5.setCell ⟨c, 2, none⟩ (.int .i64 (co : Nat))) _ ({ zM (n : Nat) with se := (se : Nat), co := (co : Nat) } : Ms).cells.toArray from at_setH HP.out BA4.out (by omega) rfl rfl rfl rfl)
  go_upto_region 14 with (first | (go_at_call 27; refine (haslabel_any _ _).mono ?_; rintro e wh ⟨rfl, rfl⟩; rw [h1]) | (go_at_call 29; refine (hasevent_any _ _).mono ?_; rintro e wh ⟨rfl, rfl⟩; rw [h2]) | (go_at_call 31; refine (hasseller_any _ _).mono ?_; rintro e wh ⟨rfl, rfl⟩; rw [h3]) | (go_at_call 32; refine (hasstance_any _ _).mono ?_; rintro e wh ⟨rfl, rfl⟩; rw [h4]) | (go_at_call 34; refine (hascount_any _ _).mono ?_; rintro e wh ⟨rfl, rfl⟩; rw [h5]))
  clear hk2 hf2 BA4
  obtain ⟨w6, hw⟩ : ∃ w6, w6 = w5.setCell ⟨c, 2, none⟩ (.int .i64 (co : Nat)) := ⟨_, rfl⟩
  rw [← hw] at A4 ⊢
  clear hw
  obtain ⟨m, hm⟩ : ∃ m : Ms, m = { zM (n : Nat) with se := (se : Nat), co := (co : Nat) } := ⟨_, rfl⟩
  rw [← hm] at A4 HR2
  have rgl := A4.out.2.2.1.range
  clear hm
  go_wp2_with (first | (go_at_call 27; refine (haslabel_any _ _).mono ?_; rintro e wh ⟨rfl, rfl⟩; rw [h1]) | (go_at_call 29; refine (hasevent_any _ _).mono ?_; rintro e wh ⟨rfl, rfl⟩; rw [h2]) | (go_at_call 31; refine (hasseller_any _ _).mono ?_; rintro e wh ⟨rfl, rfl⟩; rw [h3]) | (go_at_call 32; refine (hasstance_any _ _).mono ?_; rintro e wh ⟨rfl, rfl⟩; rw [h4]) | (go_at_call 34; refine (hascount_any _ _).mono ?_; rintro e wh ⟨rfl, rfl⟩; rw [h5]) | (refine wpList_load_midg (by rfl) 50 _ rfl _ _ rfl (Ms.cells ?_) _ ?_ Try.underlying50 rfl (msinfo _) ?_; rotate_left; (focus assumption)))
  refine (right_any m w6).mono ?_
  rintro e w16 ⟨rfl, hb⟩
  have A17 := Lib.hid (A4.out.next HP.out hb)
  clear hb A4 rgl
  rcases hq : rightM m with _ | _
  · have HE := Lib.hid (HR2.out.trans (show mkM m b3 = .error 3 by unfold mkM; rw [hq]; rfl))
    clear hq
    go_wp2_with fail
    refine (rmust_not k s b3 w16 A17.out.2.1 A17.out.1).mono ?_
    rintro e w17 ⟨rfl, hM, hO⟩
    have HO := Lib.hid (A17.out.2.2.2.2.trans hO)
    have HM := Lib.hid hM
    clear hM hO A17
    go_wp2_with fail
    exact ⟨rfl, HO.out, by rw [HE.out]; exact ⟨rfl, HM.out⟩⟩
  · have HE := Lib.hid (HR2.out.trans (show mkM m b3 = .ok (m, b3) by unfold mkM; rw [hq]; rfl))
    clear hq
    go_wp2_with fail
    refine (rmust_yes k s b3 w16 A17.out.2.1 A17.out.1).mono ?_
    rintro e w17 ⟨rfl, rfl⟩
    have rgl := A17.out.2.2.1.range
    have bg := A17.out.2.2.2.1
    go_wp2_with (first | (refine wpList_load_midg (by rfl) 50 _ rfl _ _ rfl (Ms.cells ?_) _ ?_ Try.underlying50 rfl (msinfo _) ?_; rotate_left; (focus assumption)) | (refine wpList_store_blk rfl 50 _ _ rfl W.heap.size 50 _ m.cells.toArray rfl rfl bg (msinfoA _) (by rw [List.size_toArray, List.size_toArray, ms_len, ms_len]) (ms_one m) ?_; intro hrow))
    refine bodyPost_row (t := 50) m.cells.toArray rfl rfl rfl Try.underlying50 rfl (msinfoA _) hrow ?_
    have hf : ∀ j, j ≠ W.heap.size → (w16.setRow W.heap.size m.cells.toArray).heap[j]? = w16.heap[j]? := fun j hj => setRow_other w16 W.heap.size j _ hj
    have hz : (w16.setRow W.heap.size m.cells.toArray).heap.size = w16.heap.size := by simp
    exact ⟨A17.out.2.2.2.2.turn (Nat.le_refl _) rfl rfl rfl (Nat.le_of_eq hz.symm) hf, by rw [HE.out]; exact ⟨rfl, A17.out.1.turn (Nat.le_of_eq hz.symm) hf HP.out.gs HL.out⟩⟩
set_option maxHeartbeats 8000000 in
set_option maxRecDepth 20000 in
theorem get_st (k s : Nat) (bs : List Nat) (W : World) (hL : L ≤ W.heap.size) (hr : Rdr W k s) (h : RdB L W s bs) (hby : ∀ x ∈ bs, x < 256) (n : Nat) (b1 : List Nat) (hq : smallP 10 bs = .ok (n, b1)) (h1 : hl (n : Nat) = false) (h2 : hev (n : Nat) = false) (h3 : hse (n : Nat) = false) (h4 : hst (n : Nat) = true) (h5 : hco (n : Nat) = false) :
    Calls Try.prog 38 #[.pointer (some ⟨k, 0, none⟩)] W fun e W' => EndsV L s W (fun x : Ms => .agg x.cells.toArray) (msgP bs) e W' := by
  obtain ⟨R, hR⟩ : ∃ R, R = msgP bs := ⟨_, rfl⟩
  rw [← hR]
  have HR0 := Lib.hid ((hR.trans (by rw [msgP_def])).trans ((bindP_ok hq).trans (show kindP (n : Nat) b1 = (bindP (smallP 12) fun ca => bindP (smallP 21) fun ro => bindP stP fun s => mkM { zM (n : Nat) with ca := (ca : Nat), ro := (ro : Nat), s := s }) b1 by unfold kindP; rw [h1, h2, h3, h4]; rfl)))
  have HBY := Lib.hid (lt_tail (small_one hby hq) hby)
  clear hR hby
  have hgs : W.heap.size ≠ s := by have := h.lt; omega
  have b1' := (Below.refl W.heap.size W).alloc (Nat.le_refl _) (.cells (zM 0).cells.toArray 50)
  obtain ⟨w0, hw0⟩ : ∃ w0, w0 = W.alloc (.cells (zM 0).cells.toArray 50) := ⟨_, rfl⟩
  have A0 : AtG 50 L s k W.heap.size W w0 bs (zM 0).cells.toArray := by rw [hw0]; exact ⟨h.below b1', hr.below b1', Blk.new _ _ _, Off.ofBelow b1'⟩
  have hk : k < W.heap.size := hr.lt
  rw [zM_cells] at hw0
  have HW0 := Lib.hid hw0
  have HA0 := Lib.hid A0
  have HL := Lib.hid hL
  have HG := Lib.hid hgs
  have HK := Lib.hid hk
  clear b1' h hr hL hgs hw0 A0 hk
  go_enter Try.func38, Try.ntmps38
  go_upto_region 1 with fail
  rw [← HW0.out]
  go_wp2_with fail
  refine (rsmall_any k s bs 10 w0 HA0.out.2.1 HA0.out.1 (by decide)).mono ?_
  rintro e w1 ⟨hO, he⟩
  rw [hq] at he
  obtain ⟨rfl, hB⟩ := he
  have HA1 := Lib.hid (HA0.out.step HG.out hO hB)
  clear hq hO hB HA0 HW0
  go_upto_region 2 with (first | (refine wpList_build_lit (zM (n : Nat)).cells.toArray rfl 50 _ rfl (built_zM (n : Nat)) ?_) | (refine wpList_store_blk rfl 50 _ _ rfl w1.heap.size 50 (zM 0).cells.toArray (zM (n : Nat)).cells.toArray rfl rfl (by rw [zM_cells]; exact Blk.new' rfl) (msinfoA _) (by rw [List.size_toArray, List.size_toArray, ms_len, ms_len]) (ms_one _) ?_; intro hy))
  have hbn := below_setRow ((Below.refl w1.heap.size w1).alloc (Nat.le_refl _) (.cells (zM 0).cells.toArray 50)) (Nat.le_refl _) (zM (n : Nat)).cells.toArray
  rw [zM_cells 0] at hbn
  obtain ⟨w2, hw2⟩ : ∃ w2, w2 = (w1.alloc (.cells #[.int .i64 0, .int .i64 0, .int .i64 0, .int .i64 0, .int .i64 0, .int .u64 0, .int .i64 0, .int .u32 0, .int .i64 0, .int .i64 0, .int .u32 0, .int .u32 0, .int .u32 0, .int .u32 0, .int .u32 0, .int .u32 0, .int .u32 0, .int .u32 0, .int .u32 0, .int .u32 0, .int .u32 0, .int .u32 0, .int .u64 0, .int .i64 0, .int .u32 0, .int .i64 0, .int .i64 0, .int .u32 0, .int .u32 0, .int .u32 0, .int .u32 0, .int .u32 0, .int .u32 0, .int .u32 0, .int .u32 0, .int .u32 0, .int .u32 0, .int .u32 0, .int .u32 0, .int .i64 0, .int .i64 0, .int .i64 0, .float .f64 0, .bool false, .int .u64 0, .int .u32 0, .int .u32 0, .int .u32 0, .int .u32 0, .int .u32 0, .int .u32 0, .int .u32 0, .int .u32 0, .int .u32 0, .int .u32 0, .int .u32 0, .int .u32 0] 50)).setRow w1.heap.size (zM (n : Nat)).cells.toArray := ⟨_, rfl⟩
  rw [← hw2] at hbn hy ⊢
  obtain ⟨c, hc⟩ : ∃ c, c = w1.heap.size := ⟨_, rfl⟩
  rw [← hc] at hy ⊢
  have hsz := HA1.out.2.2.2.size
  have hgl := HA1.out.2.2.1.lt
  have A2 := Lib.hid (show AtT 50 (zM 0).cells.toArray L s k c W.heap.size W w2 b1 (zM (n : Nat)).cells.toArray from ⟨HA1.out.1.below hbn, HA1.out.2.1.below hbn, hy, HA1.out.2.2.1.next hbn, HA1.out.2.2.2.trans (Off.ofBelow hbn)⟩)
  have HP := Lib.hid (show Pl L s k c W.heap.size W.heap.size from ⟨by have := HA1.out.1.lt; omega, by have := HK.out; omega, by have := HL.out; omega, by omega, HG.out, by omega⟩)
  have c0 : World.cell? _ ⟨c, 0, none⟩ = some (.int .i64 ((n : Nat) : Int)) := (ms_all A2.out.2.2.1).2.2.2.2.1
  clear hw2 hbn hy hc hsz hgl HA1
  go_wp2_with (first | (go_at_call 27; refine (haslabel_any _ _).mono ?_; rintro e wh ⟨rfl, rfl⟩; rw [h1]) | (go_at_call 29; refine (hasevent_any _ _).mono ?_; rintro e wh ⟨rfl, rfl⟩; rw [h2]) | (go_at_call 31; refine (hasseller_any _ _).mono ?_; rintro e wh ⟨rfl, rfl⟩; rw [h3]) | (go_at_call 32; refine (hasstance_any _ _).mono ?_; rintro e wh ⟨rfl, rfl⟩; rw [h4]) | (go_at_call 34; refine (hascount_any _ _).mono ?_; rintro e wh ⟨rfl, rfl⟩; rw [h5]))
  clear c0
  refine (rsmall_any k s b1 12 w2 A2.out.2.1 A2.out.1 (by decide)).mono ?_
  rintro e w3 ⟨hO, he⟩
  rcases hq : smallP 12 b1 with x | ⟨ca, b2⟩
  · rw [hq] at he
    have HE := Lib.hid (HR0.out.trans (bindP_err hq))
    have HO := Lib.hid (A2.out.2.2.2.2.trans hO)
    obtain ⟨rfl, hM⟩ := he
    have HM := Lib.hid hM
    clear hq hO hM A2
    go_wp2_with fail
    exact ⟨rfl, HO.out, by rw [HE.out]; exact ⟨rfl, HM.out⟩⟩
  rw [hq] at he
  obtain ⟨rfl, hB⟩ := he
  have HR1 := Lib.hid (HR0.out.trans (bindP_ok hq))
  have BA3 := Lib.hid (AtT.step HP.out A2.out hO hB)
  clear hq hO hB A2 HR0
  have hk3 := (ms_all BA3.out.2.2.1).2.2.2.2.2.2.2.1
  have hf3 := BA3.out.2.2.1.frozen 3
  have A3 := Lib.hid (show AtT 50 (zM 0).cells.toArray L s k c W.heap.size W (w3.setCell ⟨c, 3, none⟩ (.int .i64 (ca : Nat))) _ ({ zM (n : Nat) with ca := (ca : Nat) } : Ms).cells.toArray from at_setH HP.out BA3.out (by omega) rfl rfl rfl rfl)
  go_upto_region 10 with (first | (go_at_call 27; refine (haslabel_any _ _).mono ?_; rintro e wh ⟨rfl, rfl⟩; rw [h1]) | (go_at_call 29; refine (hasevent_any _ _).mono ?_; rintro e wh ⟨rfl, rfl⟩; rw [h2]) | (go_at_call 31; refine (hasseller_any _ _).mono ?_; rintro e wh ⟨rfl, rfl⟩; rw [h3]) | (go_at_call 32; refine (hasstance_any _ _).mono ?_; rintro e wh ⟨rfl, rfl⟩; rw [h4]) | (go_at_call 34; refine (hascount_any _ _).mono ?_; rintro e wh ⟨rfl, rfl⟩; rw [h5]))
  clear hk3 hf3 BA3
  obtain ⟨w4, hw⟩ : ∃ w4, w4 = w3.setCell ⟨c, 3, none⟩ (.int .i64 (ca : Nat)) := ⟨_, rfl⟩
  rw [← hw] at A3 ⊢
  clear hw
  go_wp2_with (first | (go_at_call 27; refine (haslabel_any _ _).mono ?_; rintro e wh ⟨rfl, rfl⟩; rw [h1]) | (go_at_call 29; refine (hasevent_any _ _).mono ?_; rintro e wh ⟨rfl, rfl⟩; rw [h2]) | (go_at_call 31; refine (hasseller_any _ _).mono ?_; rintro e wh ⟨rfl, rfl⟩; rw [h3]) | (go_at_call 32; refine (hasstance_any _ _).mono ?_; rintro e wh ⟨rfl, rfl⟩; rw [h4]) | (go_at_call 34; refine (hascount_any _ _).mono ?_; rintro e wh ⟨rfl, rfl⟩; rw [h5]))
  refine (rsmall_any k s b2 21 w4 A3.out.2.1 A3.out.1 (by decide)).mono ?_
  rintro e w5 ⟨hO, he⟩
  rcases hq : smallP 21 b2 with x | ⟨ro, b3⟩
  · rw [hq] at he
    have HE := Lib.hid (HR1.out.trans (bindP_err hq))
    have HO := Lib.hid (A3.out.2.2.2.2.trans hO)
    obtain ⟨rfl, hM⟩ := he
    have HM := Lib.hid hM
    clear hq hO hM A3
    go_wp2_with fail
    exact ⟨rfl, HO.out, by rw [HE.out]; exact ⟨rfl, HM.out⟩⟩
  rw [hq] at he
  obtain ⟨rfl, hB⟩ := he
  have HR2 := Lib.hid (HR1.out.trans (bindP_ok hq))
  have BA4 := Lib.hid (AtT.step HP.out A3.out hO hB)
  clear hq hO hB A3 HR1
  have hk4 := (ms_all BA4.out.2.2.1).2.2.2.2.2.2.2.2
  have hf4 := BA4.out.2.2.1.frozen 4
  have A4 := Lib.hid (show AtT 50 (zM 0).cells.toArray L s k c W.heap.size W (w5.setCell ⟨c, 4, none⟩ (.int .i64 (ro : Nat))) _ ({ zM (n : Nat) with ca := (ca : Nat), ro := (ro : Nat) } : Ms).cells.toArray from at_setH HP.out BA4.out (by omega) rfl rfl rfl rfl)
  go_upto_region 11 with (first | (go_at_call 27; refine (haslabel_any _ _).mono ?_; rintro e wh ⟨rfl, rfl⟩; rw [h1]) | (go_at_call 29; refine (hasevent_any _ _).mono ?_; rintro e wh ⟨rfl, rfl⟩; rw [h2]) | (go_at_call 31; refine (hasseller_any _ _).mono ?_; rintro e wh ⟨rfl, rfl⟩; rw [h3]) | (go_at_call 32; refine (hasstance_any _ _).mono ?_; rintro e wh ⟨rfl, rfl⟩; rw [h4]) | (go_at_call 34; refine (hascount_any _ _).mono ?_; rintro e wh ⟨rfl, rfl⟩; rw [h5]))
  clear hk4 hf4 BA4
  obtain ⟨w6, hw⟩ : ∃ w6, w6 = w5.setCell ⟨c, 4, none⟩ (.int .i64 (ro : Nat)) := ⟨_, rfl⟩
  rw [← hw] at A4 ⊢
  clear hw
  go_wp2_with (first | (go_at_call 27; refine (haslabel_any _ _).mono ?_; rintro e wh ⟨rfl, rfl⟩; rw [h1]) | (go_at_call 29; refine (hasevent_any _ _).mono ?_; rintro e wh ⟨rfl, rfl⟩; rw [h2]) | (go_at_call 31; refine (hasseller_any _ _).mono ?_; rintro e wh ⟨rfl, rfl⟩; rw [h3]) | (go_at_call 32; refine (hasstance_any _ _).mono ?_; rintro e wh ⟨rfl, rfl⟩; rw [h4]) | (go_at_call 34; refine (hascount_any _ _).mono ?_; rintro e wh ⟨rfl, rfl⟩; rw [h5]))
  refine (getstance_any k s b3 w6 (by have := A4.out.2.2.1.lt; have := HP.out.cl; omega) A4.out.2.1 A4.out.1).mono ?_
  rintro e w7 ⟨hO, he⟩
  rcases hq : stP b3 with x | ⟨y, b4⟩
  · rw [hq] at he
    have HE := Lib.hid (HR2.out.trans (bindP_err hq))
    have HO := Lib.hid (A4.out.2.2.2.2.trans hO)
    obtain ⟨rfl, hM⟩ := he
    have HM := Lib.hid hM
    clear hq hO hM A4
    go_wp2_with fail
    exact ⟨rfl, HO.out, by rw [HE.out]; exact ⟨rfl, HM.out⟩⟩
  rw [hq] at he
  obtain ⟨rfl, hB⟩ := he
  have HR3 := Lib.hid (HR2.out.trans (bindP_ok hq))
  have BA5 := Lib.hid (AtT.step HP.out A4.out hO hB)
  clear hq hO hB A4 HR2
  have hth := BA5.out.2.2.1.thereT (o := 43) (n := y.cells.toArray.size) (by rw [List.size_toArray, List.size_toArray, ms_len, st_len]; omega)
  have A5 := Lib.hid (at_setS HP.out BA5.out y)
  go_upto_region 12 with (first | (go_at_call 27; refine (haslabel_any _ _).mono ?_; rintro e wh ⟨rfl, rfl⟩; rw [h1]) | (go_at_call 29; refine (hasevent_any _ _).mono ?_; rintro e wh ⟨rfl, rfl⟩; rw [h2]) | (go_at_call 31; refine (hasseller_any _ _).mono ?_; rintro e wh ⟨rfl, rfl⟩; rw [h3]) | (go_at_call 32; refine (hasstance_any _ _).mono ?_; rintro e wh ⟨rfl, rfl⟩; rw [h4]) | (go_at_call 34; refine (hascount_any _ _).mono ?_; rintro e wh ⟨rfl, rfl⟩; rw [h5]) | (refine wpList_store_mid rfl 33 _ _ rfl c 43 y.cells.toArray rfl rfl hth (stinfoA _) (st_one _) ?_; show wpList _ _ _ _ _ (w7.setCells c 43 y.cells)))
  clear hth BA5
  obtain ⟨w8, hw⟩ : ∃ w8, w8 = w7.setCells c 43 y.cells := ⟨_, rfl⟩
  rw [← hw] at A5 ⊢
  clear hw
  have c0 : World.cell? _ ⟨c, 0, none⟩ = some (.int .i64 ((n : Nat) : Int)) := (ms_all A5.out.2.2.1).2.2.2.2.1
  obtain ⟨m, hm⟩ : ∃ m : Ms, m = { zM (n : Nat) with ca := (ca : Nat), ro := (ro : Nat), s := y } := ⟨_, rfl⟩
  rw [← hm] at A5 HR3
  have rgl := A5.out.2.2.1.range
  clear hm
  go_wp2_with (first | (go_at_call 27; refine (haslabel_any _ _).mono ?_; rintro e wh ⟨rfl, rfl⟩; rw [h1]) | (go_at_call 29; refine (hasevent_any _ _).mono ?_; rintro e wh ⟨rfl, rfl⟩; rw [h2]) | (go_at_call 31; refine (hasseller_any _ _).mono ?_; rintro e wh ⟨rfl, rfl⟩; rw [h3]) | (go_at_call 32; refine (hasstance_any _ _).mono ?_; rintro e wh ⟨rfl, rfl⟩; rw [h4]) | (go_at_call 34; refine (hascount_any _ _).mono ?_; rintro e wh ⟨rfl, rfl⟩; rw [h5]) | (refine wpList_load_midg (by rfl) 50 _ rfl _ _ rfl (Ms.cells ?_) _ ?_ Try.underlying50 rfl (msinfo _) ?_; rotate_left; (focus assumption)))
  refine (right_any m w8).mono ?_
  rintro e w16 ⟨rfl, hb⟩
  have A17 := Lib.hid (A5.out.next HP.out hb)
  clear hb A5 rgl
  rcases hq : rightM m with _ | _
  · have HE := Lib.hid (HR3.out.trans (show mkM m b4 = .error 3 by unfold mkM; rw [hq]; rfl))
    clear hq
    go_wp2_with fail
    refine (rmust_not k s b4 w16 A17.out.2.1 A17.out.1).mono ?_
    rintro e w17 ⟨rfl, hM, hO⟩
    have HO := Lib.hid (A17.out.2.2.2.2.trans hO)
    have HM := Lib.hid hM
    clear hM hO A17
    go_wp2_with fail
    exact ⟨rfl, HO.out, by rw [HE.out]; exact ⟨rfl, HM.out⟩⟩
  · have HE := Lib.hid (HR3.out.trans (show mkM m b4 = .ok (m, b4) by unfold mkM; rw [hq]; rfl))
    clear hq
    go_wp2_with fail
    refine (rmust_yes k s b4 w16 A17.out.2.1 A17.out.1).mono ?_
    rintro e w17 ⟨rfl, rfl⟩
    have rgl := A17.out.2.2.1.range
    have bg := A17.out.2.2.2.1
    go_wp2_with (first | (refine wpList_load_midg (by rfl) 50 _ rfl _ _ rfl (Ms.cells ?_) _ ?_ Try.underlying50 rfl (msinfo _) ?_; rotate_left; (focus assumption)) | (refine wpList_store_blk rfl 50 _ _ rfl W.heap.size 50 _ m.cells.toArray rfl rfl bg (msinfoA _) (by rw [List.size_toArray, List.size_toArray, ms_len, ms_len]) (ms_one m) ?_; intro hrow))
    refine bodyPost_row (t := 50) m.cells.toArray rfl rfl rfl Try.underlying50 rfl (msinfoA _) hrow ?_
    have hf : ∀ j, j ≠ W.heap.size → (w16.setRow W.heap.size m.cells.toArray).heap[j]? = w16.heap[j]? := fun j hj => setRow_other w16 W.heap.size j _ hj
    have hz : (w16.setRow W.heap.size m.cells.toArray).heap.size = w16.heap.size := by simp
    exact ⟨A17.out.2.2.2.2.turn (Nat.le_refl _) rfl rfl rfl (Nat.le_of_eq hz.symm) hf, by rw [HE.out]; exact ⟨rfl, A17.out.1.turn (Nat.le_of_eq hz.symm) hf HP.out.gs HL.out⟩⟩
set_option maxHeartbeats 4000000 in
set_option maxRecDepth 20000 in
theorem msget_any (k s : Nat) (bs : List Nat) (W : World) (hL : L ≤ W.heap.size) (hr : Rdr W k s) (h : RdB L W s bs) (hby : ∀ x ∈ bs, x < 256) :
    Calls Try.prog 38 #[.pointer (some ⟨k, 0, none⟩)] W fun e W' => EndsV L s W (fun x : Ms => .agg x.cells.toArray) (msgP bs) e W' := by
  rcases hq : smallP 10 bs with x | ⟨n, b1⟩
  · obtain ⟨R, hR⟩ : ∃ R, R = msgP bs := ⟨_, rfl⟩
    rw [← hR]
    have HE := Lib.hid ((hR.trans (by rw [msgP_def])).trans (bindP_err hq))
    have b1' := (Below.refl W.heap.size W).alloc (Nat.le_refl _) (.cells (zM 0).cells.toArray 50)
    rw [zM_cells] at b1'
    have H0 := Lib.hid (And.intro (h.below b1') (And.intro (hr.below b1') (Off.ofBelow (s := s) b1')))
    clear hR b1' h hr hL hby
    go_enter Try.func38, Try.ntmps38
    go_wp2_with fail
    refine (rsmall_any k s bs 10 _ H0.out.2.1 H0.out.1 (by decide)).mono ?_
    rintro e w1 ⟨hO, he⟩
    rw [hq] at he
    have HO := Lib.hid (H0.out.2.2.trans hO)
    obtain ⟨rfl, hM⟩ := he
    have HM := Lib.hid hM
    clear hq hO hM H0
    go_wp2_with fail
    exact ⟨rfl, HO.out, by rw [HE.out]; exact ⟨rfl, HM.out⟩⟩
  · rcases kd_any (n : Nat) with ⟨_, h1, h2, h3, h4, h5⟩ | ⟨_, h1, h2, h3, h4, h5⟩ | ⟨_, h1, h2, h3, h4, h5⟩ | ⟨_, h1, h2, h3, h4, h5⟩ | ⟨_, h1, h2, h3, h4, h5⟩ | ⟨_, h1, h2, h3, h4, h5⟩
    · exact get_lab k s bs W hL hr h hby n b1 hq h1 h2 h3 h4 h5
    · exact get_ev k s bs W hL hr h hby n b1 hq h1 h2 h3 h4 h5
    · exact get_sel k s bs W hL hr h hby n b1 hq h1 h2 h3 h4 h5
    · exact get_en k s bs W hL hr h hby n b1 hq h1 h2 h3 h4 h5
    · exact get_st k s bs W hL hr h hby n b1 hq h1 h2 h3 h4 h5
    · exact get_no k s bs W hL hr h hby n b1 hq h1 h2 h3 h4 h5
end Mg
end Go.Proofs.Ytkigaclcmodjaaa
