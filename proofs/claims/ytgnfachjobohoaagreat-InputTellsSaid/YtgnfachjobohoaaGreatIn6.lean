/-
input: get.
-/
import Derived.Test.YtgnfachjobohoaaGreatIn4
namespace Go.Proofs.YtgnfachjobohoaaGreat
open Go.RowKit
set_option linter.unusedSimpArgs false
set_option linter.unusedVariables false
namespace In
variable {L : Nat}
/-- An input whose packet's data lie there. -/
def Iv.at (m : Iv) (A : Option Addr) (c : Nat) : Iv := { m with x := ⟨m.x.p, A, c⟩ }
theorem rightI_at (m : Iv) (A : Option Addr) (c : Nat) : rightI (m.at A c) = rightI m := by
  unfold rightI bodyI sameI numsI partsI cartB Iv.at
  dsimp only
  cases hP m.k <;> rfl
theorem encI_at (m : Iv) (A : Option Addr) (c : Nat) : encI (m.at A c) = encI m := rfl
def AtG (T : TypeId) (L s k g : Nat) (W W' : World) (t : List Nat) (cs : Array Value) : Prop := RdB L W' s t ∧ Rdr W' k s ∧ Blk W' g T cs ∧ Off s W W'
theorem AtG.step {T : TypeId} {s k g : Nat} {W W' W'' : World} {t t' : List Nat} {cs : Array Value} (hg : g ≠ s) (h : AtG T L s k g W W' t cs) (hO : Off s W' W'') (hB : RdB L W'' s t') : AtG T L s k g W W'' t' cs := ⟨hB, h.2.1.off hO, hO.blk h.2.2.1 hg, h.2.2.2.trans hO⟩
def mkI (m : Iv) : List Nat → Except Int (Iv × List Nat) := fun t => if rightI m then .ok (m, t) else .error 3
def kindP (k : Int) : List Nat → Except Int (Iv × List Nat) :=
  if hP k then bindP pkP fun p => mkI { zI k with x := ⟨p, none, 0⟩ }
  else if hN k then bindP (smallP 12) fun se => bindP (smallP 12) fun no => mkI { zI k with se := (se : Nat), no := (no : Nat) }
  else if hO k then bindP (smallP 12) fun ca => bindP (smallP 12) fun se => bindP vectorP fun l => bindP (numP true 0) fun t => bindP opP fun o => mkI { zI k with ca := (ca : Nat), se := (se : Nat), f := lv l, t := t, o := o }
  else if hC k then bindP (smallP 12) fun ca => bindP vectorP fun l => bindP (numP true 0) fun t => mkI { zI k with ca := (ca : Nat), f := lv l, t := t }
  else if hS k then bindP (smallP 12) fun se => mkI { zI k with se := (se : Nat) }
  else mkI (zI k)
/-- The input that bytes begin with. -/
def inP : List Nat → Except Int (Iv × List Nat) := bindP (smallP 6) fun k => kindP (k : Nat)
attribute [irreducible] inP
theorem inP_def : inP = bindP (smallP 6) fun k => kindP (k : Nat) := by unfold inP; rfl
def EndsX (L s : Nat) (W : World) (r : Except Int (Iv × List Nat)) (e : Ending) (W' : World) : Prop :=
  Off s W W' ∧ match r with
  | .ok (m, t) => (∃ A c, e = .returned (.agg (m.at A c).cells.toArray) ∧ (m.at A c).x.Ok W' ∧ (∀ b o, A = some ⟨b, o, none⟩ → W.heap.size ≤ b)) ∧ RdB L W' s t
  | .error x => e = .panicked [{ v := flt s, recovered := false }] ∧ Met' W' s x
section
variable {s k c g : Nat} {W W' : World} {t : List Nat} {m n : Iv} {Z : Array Value}
theorem at_setF (p : Pl L s k c g W.heap.size) (h : AtT 48 Z L s k c g W W' t m.cells.toArray) (f : Nat → Nat) : AtT 48 Z L s k c g W (W'.setCells c 4 (vl f)) t ({ m with f := f } : Iv).cells.toArray :=
  let h2 := AtT.sets p (vl f) 4 W' _ h; ⟨h2.1, h2.2.1, iv_setF h.2.2.1 f, h2.2.2.2⟩
theorem at_setO (p : Pl L s k c g W.heap.size) (h : AtT 48 Z L s k c g W W' t m.cells.toArray) (x : OpR) : AtT 48 Z L s k c g W (W'.setCells c 17 x.cells) t ({ m with o := x } : Iv).cells.toArray :=
  let h2 := AtT.sets p x.cells 17 W' _ h; ⟨h2.1, h2.2.1, iv_setO h.2.2.1 x, h2.2.2.2⟩
theorem at_setX (p : Pl L s k c g W.heap.size) (h : AtT 48 Z L s k c g W W' t m.cells.toArray) (x : Pk.Pc) : AtT 48 Z L s k c g W (W'.setCells c 21 x.cells) t ({ m with x := x } : Iv).cells.toArray :=
  let h2 := AtT.sets p x.cells 21 W' _ h; ⟨h2.1, h2.2.1, iv_setX h.2.2.1 x, h2.2.2.2⟩
theorem at_setT (p : Pl L s k c g W.heap.size) (h : AtT 48 Z L s k c g W W' t m.cells.toArray) (n : Nat) : AtT 48 Z L s k c g W (W'.setCell ⟨c, 16, none⟩ (.int .u64 (n : Nat))) t ({ m with t := n } : Iv).cells.toArray :=
  let h2 := AtT.set p h 16 (.int .u64 (n : Nat)); ⟨h2.1, h2.2.1, iv_setT h.2.2.1 n, h2.2.2.2⟩
theorem at_setH (p : Pl L s k c g W.heap.size) (h : AtT 48 Z L s k c g W W' t m.cells.toArray) {i : Nat} {v : Value} (hi : i < 4) (hn : n.hd = m.hd.set i v) (hf : n.f = m.f) (ht : n.t = m.t) (ho : n.o = m.o) (hx : n.x = m.x) : AtT 48 Z L s k c g W (W'.setCell ⟨c, i, none⟩ v) t n.cells.toArray :=
  let h2 := AtT.set p h i v; ⟨h2.1, h2.2.1, iv_setH h.2.2.1 hi hn hf ht ho hx, h2.2.2.2⟩
end
set_option maxHeartbeats 8000000 in
set_option maxRecDepth 20000 in
theorem get_no (k s : Nat) (bs : List Nat) (W : World) (hL : L ≤ W.heap.size) (hr : Rdr W k s) (h : RdB L W s bs) (hby : ∀ x ∈ bs, x < 256) (hlen : bs.length ≤ 140737488355328) (n : Nat) (b1 : List Nat) (hq : smallP 6 bs = .ok (n, b1)) (h1 : hC (n : Nat) = false) (h2 : hS (n : Nat) = false) (h3 : hN (n : Nat) = false) (h4 : hO (n : Nat) = false) (h5 : hP (n : Nat) = false) :
    Calls Tryz.prog 22 #[.pointer (some ⟨k, 0, none⟩)] W fun e W' => EndsX L s W (inP bs) e W' := by
  obtain ⟨R, hR⟩ : ∃ R, R = inP bs := ⟨_, rfl⟩
  rw [← hR]
  have HR0 := Lib.hid ((hR.trans (by rw [inP_def])).trans ((bindP_ok hq).trans (show kindP (n : Nat) b1 = mkI (zI (n : Nat)) b1 by unfold kindP; rw [h1, h2, h3, h4, h5]; rfl)))
  have HBY := Lib.hid (And.intro (lt_tail (small_one hby hq) hby) (show b1.length ≤ 140737488355328 from Nat.le_trans (smallP_left hq) hlen))
  clear hR hby hlen
  have hgs : W.heap.size ≠ s := by have := h.lt; omega
  have b1' := (Below.refl W.heap.size W).alloc (Nat.le_refl _) (.cells (zI 0).cells.toArray 48)
  obtain ⟨w0, hw0⟩ : ∃ w0, w0 = W.alloc (.cells (zI 0).cells.toArray 48) := ⟨_, rfl⟩
  have A0 : AtG 48 L s k W.heap.size W w0 bs (zI 0).cells.toArray := by rw [hw0]; exact ⟨h.below b1', hr.below b1', Blk.new _ _ _, Off.ofBelow b1'⟩
  have hk : k < W.heap.size := hr.lt
  rw [zI_cells] at hw0
  have HW0 := Lib.hid hw0
  have HA0 := Lib.hid A0
  have HL := Lib.hid hL
  have HG := Lib.hid hgs
  have HK := Lib.hid hk
  clear b1' h hr hL hgs hw0 A0 hk
  go_enter Tryz.func22, Tryz.ntmps22
  go_upto_region 1 with fail
  rw [← HW0.out]
  go_wp2_with fail
  refine (rsmall_any k s bs 6 w0 HA0.out.2.1 HA0.out.1 (by decide)).mono ?_
  rintro e w1 ⟨hO, he⟩
  rw [hq] at he
  obtain ⟨rfl, hB⟩ := he
  have HA1 := Lib.hid (HA0.out.step HG.out hO hB)
  clear hq hO hB HA0 HW0
  go_upto_region 2 with (first | (refine wpList_build_lit (zI (n : Nat)).cells.toArray rfl 48 _ rfl (built_zI (n : Nat)) ?_) | (refine wpList_store_blk rfl 48 _ _ rfl w1.heap.size 48 (zI 0).cells.toArray (zI (n : Nat)).cells.toArray rfl rfl (by rw [zI_cells]; exact Blk.new' rfl) (ivinfoA _) (iv_siz _ _) (iv_one _) ?_; intro hy))
  have hbn := below_setRow ((Below.refl w1.heap.size w1).alloc (Nat.le_refl _) (.cells (zI 0).cells.toArray 48)) (Nat.le_refl _) (zI (n : Nat)).cells.toArray
  rw [zI_cells 0] at hbn
  obtain ⟨w2, hw2⟩ : ∃ w2, w2 = (w1.alloc (.cells #[.int .i64 0, .int .i64 0, .int .i64 0, .int .i64 0, .int .u32 0, .int .u32 0, .int .u32 0, .int .u32 0, .int .u32 0, .int .u32 0, .int .u32 0, .int .u32 0, .int .u32 0, .int .u32 0, .int .u32 0, .int .u32 0, .int .u64 0, .int .i64 0, .int .i64 0, .int .i64 0, .float .f64 0, .bool false, .int .i64 0, .int .i64 0, .int .u64 0, .slice none 0 0] 48)).setRow w1.heap.size (zI (n : Nat)).cells.toArray := ⟨_, rfl⟩
  rw [← hw2] at hbn hy ⊢
  obtain ⟨c, hc⟩ : ∃ c, c = w1.heap.size := ⟨_, rfl⟩
  rw [← hc] at hy ⊢
  have hsz := HA1.out.2.2.2.size
  have hgl := HA1.out.2.2.1.lt
  have A2 := Lib.hid (show AtT 48 (zI 0).cells.toArray L s k c W.heap.size W w2 b1 (zI (n : Nat)).cells.toArray from ⟨HA1.out.1.below hbn, HA1.out.2.1.below hbn, hy, HA1.out.2.2.1.next hbn, HA1.out.2.2.2.trans (Off.ofBelow hbn)⟩)
  have HP := Lib.hid (show Pl L s k c W.heap.size W.heap.size from ⟨by have := HA1.out.1.lt; omega, by have := HK.out; omega, by have := HL.out; omega, by omega, HG.out, by omega⟩)
  have c0 : World.cell? _ ⟨c, 0, none⟩ = some (.int .i64 ((n : Nat) : Int)) := (iv_all A2.out.2.2.1).2.2.2.2.1
  clear hw2 hbn hy hc hsz hgl HA1
  obtain ⟨mm, hm⟩ : ∃ m : Iv, m = zI (n : Nat) := ⟨_, rfl⟩
  obtain ⟨m, hm2⟩ : ∃ m : Iv, m = zI (n : Nat) := ⟨_, rfl⟩
  have HXO := Lib.hid (show mm.x.Ok w2 by rw [hm]; exact zx_ok _)
  have HMM := Lib.hid (show mm = m.at none 0 by rw [hm, hm2]; rfl)
  rw [← hm] at A2
  rw [← hm2] at HR0
  clear hm hm2
  have rgl := A2.out.2.2.1.range
  have HRE := Lib.hid (show rightI mm = rightI m by rw [HMM.out, rightI_at])
  go_wp2_with (first | (go_at_call 31; refine (hascart_any _ _).mono ?_; rintro e wh ⟨rfl, rfl⟩; rw [h1]) | (go_at_call 33; refine (hasseller_any _ _).mono ?_; rintro e wh ⟨rfl, rfl⟩; rw [h2]) | (go_at_call 34; refine (hasnode_any _ _).mono ?_; rintro e wh ⟨rfl, rfl⟩; rw [h3]) | (go_at_call 35; refine (hasop_any _ _).mono ?_; rintro e wh ⟨rfl, rfl⟩; rw [h4]) | (go_at_call 37; refine (haspacket_any _ _).mono ?_; rintro e wh ⟨rfl, rfl⟩; rw [h5]) | (refine wpList_load_midg (by rfl) 48 _ rfl _ _ rfl (Iv.cells ?_) _ ?_ Tryz.underlying48 rfl (ivinfo _) ?_; rotate_left; (focus assumption)))
  refine (right_any mm w2 HXO.out).mono ?_
  rw [HRE.out]
  rintro e w16 ⟨rfl, hb⟩
  have A17 := Lib.hid (A2.out.next HP.out hb)
  have HX17 := Lib.hid (HXO.out.next hb)
  clear hb A2 rgl HXO
  rcases hq : rightI m with _ | _
  · have HE := Lib.hid (HR0.out.trans (show mkI m b1 = .error 3 by unfold mkI; rw [hq]; rfl))
    clear hq
    go_wp2_with fail
    refine (rmust_not k s b1 w16 A17.out.2.1 A17.out.1).mono ?_
    rintro e w17 ⟨rfl, hM, hO⟩
    have HO := Lib.hid (A17.out.2.2.2.2.trans hO)
    have HM := Lib.hid hM
    clear hM hO A17
    go_wp2_with fail
    exact ⟨rfl, HO.out, by rw [HE.out]; exact ⟨rfl, HM.out⟩⟩
  · have HE := Lib.hid (HR0.out.trans (show mkI m b1 = .ok (m, b1) by unfold mkI; rw [hq]; rfl))
    clear hq
    go_wp2_with fail
    refine (rmust_yes k s b1 w16 A17.out.2.1 A17.out.1).mono ?_
    rintro e w17 ⟨rfl, rfl⟩
    have rgl := A17.out.2.2.1.range
    have bg := A17.out.2.2.2.1
    go_wp2_with (first | (refine wpList_load_midg (by rfl) 48 _ rfl _ _ rfl (Iv.cells ?_) _ ?_ Tryz.underlying48 rfl (ivinfo _) ?_; rotate_left; (focus assumption)) | (refine wpList_store_blk rfl 48 _ _ rfl W.heap.size 48 _ mm.cells.toArray rfl rfl bg (ivinfoA _) (iv_siz _ _) (iv_one mm) ?_; intro hrow))
    refine bodyPost_row (t := 48) mm.cells.toArray rfl rfl rfl Tryz.underlying48 rfl (ivinfoA _) hrow ?_
    have hf : ∀ j, j ≠ W.heap.size → (w16.setRow W.heap.size mm.cells.toArray).heap[j]? = w16.heap[j]? := fun j hj => setRow_other w16 W.heap.size j _ hj
    have hz : (w16.setRow W.heap.size mm.cells.toArray).heap.size = w16.heap.size := by simp
    exact ⟨A17.out.2.2.2.2.turn (Nat.le_refl _) rfl rfl rfl (Nat.le_of_eq hz.symm) hf, by rw [HE.out]; exact ⟨⟨none, 0, by rw [HMM.out], by rw [← HMM.out]; exact pc_far HX17.out A17.out.2.2.2.1 (iv_nou _) hf (Nat.le_of_eq hz.symm), (fun _ _ e => by cases e)⟩, A17.out.1.turn (Nat.le_of_eq hz.symm) hf HP.out.gs HL.out⟩⟩
set_option maxHeartbeats 8000000 in
set_option maxRecDepth 20000 in
theorem get_sel (k s : Nat) (bs : List Nat) (W : World) (hL : L ≤ W.heap.size) (hr : Rdr W k s) (h : RdB L W s bs) (hby : ∀ x ∈ bs, x < 256) (hlen : bs.length ≤ 140737488355328) (n : Nat) (b1 : List Nat) (hq : smallP 6 bs = .ok (n, b1)) (h1 : hC (n : Nat) = false) (h2 : hS (n : Nat) = true) (h3 : hN (n : Nat) = false) (h4 : hO (n : Nat) = false) (h5 : hP (n : Nat) = false) :
    Calls Tryz.prog 22 #[.pointer (some ⟨k, 0, none⟩)] W fun e W' => EndsX L s W (inP bs) e W' := by
  obtain ⟨R, hR⟩ : ∃ R, R = inP bs := ⟨_, rfl⟩
  rw [← hR]
  have HR0 := Lib.hid ((hR.trans (by rw [inP_def])).trans ((bindP_ok hq).trans (show kindP (n : Nat) b1 = (bindP (smallP 12) fun se => mkI { zI (n : Nat) with se := (se : Nat) }) b1 by unfold kindP; rw [h1, h2, h3, h4, h5]; rfl)))
  have HBY := Lib.hid (And.intro (lt_tail (small_one hby hq) hby) (show b1.length ≤ 140737488355328 from Nat.le_trans (smallP_left hq) hlen))
  clear hR hby hlen
  have hgs : W.heap.size ≠ s := by have := h.lt; omega
  have b1' := (Below.refl W.heap.size W).alloc (Nat.le_refl _) (.cells (zI 0).cells.toArray 48)
  obtain ⟨w0, hw0⟩ : ∃ w0, w0 = W.alloc (.cells (zI 0).cells.toArray 48) := ⟨_, rfl⟩
  have A0 : AtG 48 L s k W.heap.size W w0 bs (zI 0).cells.toArray := by rw [hw0]; exact ⟨h.below b1', hr.below b1', Blk.new _ _ _, Off.ofBelow b1'⟩
  have hk : k < W.heap.size := hr.lt
  rw [zI_cells] at hw0
  have HW0 := Lib.hid hw0
  have HA0 := Lib.hid A0
  have HL := Lib.hid hL
  have HG := Lib.hid hgs
  have HK := Lib.hid hk
  clear b1' h hr hL hgs hw0 A0 hk
  go_enter Tryz.func22, Tryz.ntmps22
  go_upto_region 1 with fail
  rw [← HW0.out]
  go_wp2_with fail
  refine (rsmall_any k s bs 6 w0 HA0.out.2.1 HA0.out.1 (by decide)).mono ?_
  rintro e w1 ⟨hO, he⟩
  rw [hq] at he
  obtain ⟨rfl, hB⟩ := he
  have HA1 := Lib.hid (HA0.out.step HG.out hO hB)
  clear hq hO hB HA0 HW0
  go_upto_region 2 with (first | (refine wpList_build_lit (zI (n : Nat)).cells.toArray rfl 48 _ rfl (built_zI (n : Nat)) ?_) | (refine wpList_store_blk rfl 48 _ _ rfl w1.heap.size 48 (zI 0).cells.toArray (zI (n : Nat)).cells.toArray rfl rfl (by rw [zI_cells]; exact Blk.new' rfl) (ivinfoA _) (iv_siz _ _) (iv_one _) ?_; intro hy))
  have hbn := below_setRow ((Below.refl w1.heap.size w1).alloc (Nat.le_refl _) (.cells (zI 0).cells.toArray 48)) (Nat.le_refl _) (zI (n : Nat)).cells.toArray
  rw [zI_cells 0] at hbn
  obtain ⟨w2, hw2⟩ : ∃ w2, w2 = (w1.alloc (.cells #[.int .i64 0, .int .i64 0, .int .i64 0, .int .i64 0, .int .u32 0, .int .u32 0, .int .u32 0, .int .u32 0, .int .u32 0, .int .u32 0, .int .u32 0, .int .u32 0, .int .u32 0, .int .u32 0, .int .u32 0, .int .u32 0, .int .u64 0, .int .i64 0, .int .i64 0, .int .i64 0, .float .f64 0, .bool false, .int .i64 0, .int .i64 0, .int .u64 0, .slice none 0 0] 48)).setRow w1.heap.size (zI (n : Nat)).cells.toArray := ⟨_, rfl⟩
  rw [← hw2] at hbn hy ⊢
  obtain ⟨c, hc⟩ : ∃ c, c = w1.heap.size := ⟨_, rfl⟩
  rw [← hc] at hy ⊢
  have hsz := HA1.out.2.2.2.size
  have hgl := HA1.out.2.2.1.lt
  have A2 := Lib.hid (show AtT 48 (zI 0).cells.toArray L s k c W.heap.size W w2 b1 (zI (n : Nat)).cells.toArray from ⟨HA1.out.1.below hbn, HA1.out.2.1.below hbn, hy, HA1.out.2.2.1.next hbn, HA1.out.2.2.2.trans (Off.ofBelow hbn)⟩)
  have HP := Lib.hid (show Pl L s k c W.heap.size W.heap.size from ⟨by have := HA1.out.1.lt; omega, by have := HK.out; omega, by have := HL.out; omega, by omega, HG.out, by omega⟩)
  have c0 : World.cell? _ ⟨c, 0, none⟩ = some (.int .i64 ((n : Nat) : Int)) := (iv_all A2.out.2.2.1).2.2.2.2.1
  clear hw2 hbn hy hc hsz hgl HA1
  go_wp2_with (first | (go_at_call 31; refine (hascart_any _ _).mono ?_; rintro e wh ⟨rfl, rfl⟩; rw [h1]) | (go_at_call 33; refine (hasseller_any _ _).mono ?_; rintro e wh ⟨rfl, rfl⟩; rw [h2]) | (go_at_call 34; refine (hasnode_any _ _).mono ?_; rintro e wh ⟨rfl, rfl⟩; rw [h3]) | (go_at_call 35; refine (hasop_any _ _).mono ?_; rintro e wh ⟨rfl, rfl⟩; rw [h4]) | (go_at_call 37; refine (haspacket_any _ _).mono ?_; rintro e wh ⟨rfl, rfl⟩; rw [h5]))
  clear c0
  refine (rsmall_any k s b1 12 w2 A2.out.2.1 A2.out.1 (by decide)).mono ?_
  rintro e w3 ⟨hO, he⟩
  rcases hq : smallP 12 b1 with x | ⟨se, b2⟩
  · rw [hq] at he
    have HE := Lib.hid (HR0.out.trans (bindP_err hq))
    have HO := Lib.hid (A2.out.2.2.2.2.trans hO)
    obtain ⟨rfl, hM⟩ := he
    have HM := Lib.hid hM
    clear hq hO hM A2
    go_wp2_with fail
    exact ⟨rfl, HO.out, by rw [HE.out]; exact ⟨rfl, HM.out⟩⟩
  rw [hq] at he
  obtain ⟨rfl, hB⟩ := he
  have HR1 := Lib.hid (HR0.out.trans (bindP_ok hq))
  have BA3 := Lib.hid (AtT.step HP.out A2.out hO hB)
  clear hq hO hB A2 HR0
  have hk2 := (iv_all BA3.out.2.2.1).2.2.2.2.2.2.1
  have hf2 := BA3.out.2.2.1.frozen 2
  have A3 := Lib.hid (show AtT 48 (zI 0).cells.toArray L s k c W.heap.size W (w3.setCell ⟨c, 2, none⟩ (.int .i64 (se : Nat))) _ ({ zI (n : Nat) with se := (se : Nat) } : Iv).cells.toArray from at_setH HP.out BA3.out (by omega) rfl rfl rfl rfl rfl)
  go_upto_region 6 with (first | (go_at_call 31; refine (hascart_any _ _).mono ?_; rintro e wh ⟨rfl, rfl⟩; rw [h1]) | (go_at_call 33; refine (hasseller_any _ _).mono ?_; rintro e wh ⟨rfl, rfl⟩; rw [h2]) | (go_at_call 34; refine (hasnode_any _ _).mono ?_; rintro e wh ⟨rfl, rfl⟩; rw [h3]) | (go_at_call 35; refine (hasop_any _ _).mono ?_; rintro e wh ⟨rfl, rfl⟩; rw [h4]) | (go_at_call 37; refine (haspacket_any _ _).mono ?_; rintro e wh ⟨rfl, rfl⟩; rw [h5]))
  clear hk2 hf2 BA3
  obtain ⟨w4, hw⟩ : ∃ w4, w4 = w3.setCell ⟨c, 2, none⟩ (.int .i64 (se : Nat)) := ⟨_, rfl⟩
  rw [← hw] at A3 ⊢
  clear hw
  have c0 : World.cell? _ ⟨c, 0, none⟩ = some (.int .i64 ((n : Nat) : Int)) := (iv_all A3.out.2.2.1).2.2.2.2.1
  obtain ⟨mm, hm⟩ : ∃ m : Iv, m = { zI (n : Nat) with se := (se : Nat) } := ⟨_, rfl⟩
  obtain ⟨m, hm2⟩ : ∃ m : Iv, m = { zI (n : Nat) with se := (se : Nat) } := ⟨_, rfl⟩
  have HXO := Lib.hid (show mm.x.Ok w4 by rw [hm]; exact zx_ok _)
  have HMM := Lib.hid (show mm = m.at none 0 by rw [hm, hm2]; rfl)
  rw [← hm] at A3
  rw [← hm2] at HR1
  clear hm hm2
  have rgl := A3.out.2.2.1.range
  have HRE := Lib.hid (show rightI mm = rightI m by rw [HMM.out, rightI_at])
  go_wp2_with (first | (go_at_call 31; refine (hascart_any _ _).mono ?_; rintro e wh ⟨rfl, rfl⟩; rw [h1]) | (go_at_call 33; refine (hasseller_any _ _).mono ?_; rintro e wh ⟨rfl, rfl⟩; rw [h2]) | (go_at_call 34; refine (hasnode_any _ _).mono ?_; rintro e wh ⟨rfl, rfl⟩; rw [h3]) | (go_at_call 35; refine (hasop_any _ _).mono ?_; rintro e wh ⟨rfl, rfl⟩; rw [h4]) | (go_at_call 37; refine (haspacket_any _ _).mono ?_; rintro e wh ⟨rfl, rfl⟩; rw [h5]) | (refine wpList_load_midg (by rfl) 48 _ rfl _ _ rfl (Iv.cells ?_) _ ?_ Tryz.underlying48 rfl (ivinfo _) ?_; rotate_left; (focus assumption)))
  refine (right_any mm w4 HXO.out).mono ?_
  rw [HRE.out]
  rintro e w16 ⟨rfl, hb⟩
  have A17 := Lib.hid (A3.out.next HP.out hb)
  have HX17 := Lib.hid (HXO.out.next hb)
  clear hb A3 rgl HXO
  rcases hq : rightI m with _ | _
  · have HE := Lib.hid (HR1.out.trans (show mkI m b2 = .error 3 by unfold mkI; rw [hq]; rfl))
    clear hq
    go_wp2_with fail
    refine (rmust_not k s b2 w16 A17.out.2.1 A17.out.1).mono ?_
    rintro e w17 ⟨rfl, hM, hO⟩
    have HO := Lib.hid (A17.out.2.2.2.2.trans hO)
    have HM := Lib.hid hM
    clear hM hO A17
    go_wp2_with fail
    exact ⟨rfl, HO.out, by rw [HE.out]; exact ⟨rfl, HM.out⟩⟩
  · have HE := Lib.hid (HR1.out.trans (show mkI m b2 = .ok (m, b2) by unfold mkI; rw [hq]; rfl))
    clear hq
    go_wp2_with fail
    refine (rmust_yes k s b2 w16 A17.out.2.1 A17.out.1).mono ?_
    rintro e w17 ⟨rfl, rfl⟩
    have rgl := A17.out.2.2.1.range
    have bg := A17.out.2.2.2.1
    go_wp2_with (first | (refine wpList_load_midg (by rfl) 48 _ rfl _ _ rfl (Iv.cells ?_) _ ?_ Tryz.underlying48 rfl (ivinfo _) ?_; rotate_left; (focus assumption)) | (refine wpList_store_blk rfl 48 _ _ rfl W.heap.size 48 _ mm.cells.toArray rfl rfl bg (ivinfoA _) (iv_siz _ _) (iv_one mm) ?_; intro hrow))
    refine bodyPost_row (t := 48) mm.cells.toArray rfl rfl rfl Tryz.underlying48 rfl (ivinfoA _) hrow ?_
    have hf : ∀ j, j ≠ W.heap.size → (w16.setRow W.heap.size mm.cells.toArray).heap[j]? = w16.heap[j]? := fun j hj => setRow_other w16 W.heap.size j _ hj
    have hz : (w16.setRow W.heap.size mm.cells.toArray).heap.size = w16.heap.size := by simp
    exact ⟨A17.out.2.2.2.2.turn (Nat.le_refl _) rfl rfl rfl (Nat.le_of_eq hz.symm) hf, by rw [HE.out]; exact ⟨⟨none, 0, by rw [HMM.out], by rw [← HMM.out]; exact pc_far HX17.out A17.out.2.2.2.1 (iv_nou _) hf (Nat.le_of_eq hz.symm), (fun _ _ e => by cases e)⟩, A17.out.1.turn (Nat.le_of_eq hz.symm) hf HP.out.gs HL.out⟩⟩
set_option maxHeartbeats 8000000 in
set_option maxRecDepth 20000 in
theorem get_joi (k s : Nat) (bs : List Nat) (W : World) (hL : L ≤ W.heap.size) (hr : Rdr W k s) (h : RdB L W s bs) (hby : ∀ x ∈ bs, x < 256) (hlen : bs.length ≤ 140737488355328) (n : Nat) (b1 : List Nat) (hq : smallP 6 bs = .ok (n, b1)) (h1 : hC (n : Nat) = false) (h2 : hS (n : Nat) = true) (h3 : hN (n : Nat) = true) (h4 : hO (n : Nat) = false) (h5 : hP (n : Nat) = false) :
    Calls Tryz.prog 22 #[.pointer (some ⟨k, 0, none⟩)] W fun e W' => EndsX L s W (inP bs) e W' := by
  obtain ⟨R, hR⟩ : ∃ R, R = inP bs := ⟨_, rfl⟩
  rw [← hR]
  have HR0 := Lib.hid ((hR.trans (by rw [inP_def])).trans ((bindP_ok hq).trans (show kindP (n : Nat) b1 = (bindP (smallP 12) fun se => bindP (smallP 12) fun no => mkI { zI (n : Nat) with se := (se : Nat), no := (no : Nat) }) b1 by unfold kindP; rw [h1, h2, h3, h4, h5]; rfl)))
  have HBY := Lib.hid (And.intro (lt_tail (small_one hby hq) hby) (show b1.length ≤ 140737488355328 from Nat.le_trans (smallP_left hq) hlen))
  clear hR hby hlen
  have hgs : W.heap.size ≠ s := by have := h.lt; omega
  have b1' := (Below.refl W.heap.size W).alloc (Nat.le_refl _) (.cells (zI 0).cells.toArray 48)
  obtain ⟨w0, hw0⟩ : ∃ w0, w0 = W.alloc (.cells (zI 0).cells.toArray 48) := ⟨_, rfl⟩
  have A0 : AtG 48 L s k W.heap.size W w0 bs (zI 0).cells.toArray := by rw [hw0]; exact ⟨h.below b1', hr.below b1', Blk.new _ _ _, Off.ofBelow b1'⟩
  have hk : k < W.heap.size := hr.lt
  rw [zI_cells] at hw0
  have HW0 := Lib.hid hw0
  have HA0 := Lib.hid A0
  have HL := Lib.hid hL
  have HG := Lib.hid hgs
  have HK := Lib.hid hk
  clear b1' h hr hL hgs hw0 A0 hk
  go_enter Tryz.func22, Tryz.ntmps22
  go_upto_region 1 with fail
  rw [← HW0.out]
  go_wp2_with fail
  refine (rsmall_any k s bs 6 w0 HA0.out.2.1 HA0.out.1 (by decide)).mono ?_
  rintro e w1 ⟨hO, he⟩
  rw [hq] at he
  obtain ⟨rfl, hB⟩ := he
  have HA1 := Lib.hid (HA0.out.step HG.out hO hB)
  clear hq hO hB HA0 HW0
  go_upto_region 2 with (first | (refine wpList_build_lit (zI (n : Nat)).cells.toArray rfl 48 _ rfl (built_zI (n : Nat)) ?_) | (refine wpList_store_blk rfl 48 _ _ rfl w1.heap.size 48 (zI 0).cells.toArray (zI (n : Nat)).cells.toArray rfl rfl (by rw [zI_cells]; exact Blk.new' rfl) (ivinfoA _) (iv_siz _ _) (iv_one _) ?_; intro hy))
  have hbn := below_setRow ((Below.refl w1.heap.size w1).alloc (Nat.le_refl _) (.cells (zI 0).cells.toArray 48)) (Nat.le_refl _) (zI (n : Nat)).cells.toArray
  rw [zI_cells 0] at hbn
  obtain ⟨w2, hw2⟩ : ∃ w2, w2 = (w1.alloc (.cells #[.int .i64 0, .int .i64 0, .int .i64 0, .int .i64 0, .int .u32 0, .int .u32 0, .int .u32 0, .int .u32 0, .int .u32 0, .int .u32 0, .int .u32 0, .int .u32 0, .int .u32 0, .int .u32 0, .int .u32 0, .int .u32 0, .int .u64 0, .int .i64 0, .int .i64 0, .int .i64 0, .float .f64 0, .bool false, .int .i64 0, .int .i64 0, .int .u64 0, .slice none 0 0] 48)).setRow w1.heap.size (zI (n : Nat)).cells.toArray := ⟨_, rfl⟩
  rw [← hw2] at hbn hy ⊢
  obtain ⟨c, hc⟩ : ∃ c, c = w1.heap.size := ⟨_, rfl⟩
  rw [← hc] at hy ⊢
  have hsz := HA1.out.2.2.2.size
  have hgl := HA1.out.2.2.1.lt
  have A2 := Lib.hid (show AtT 48 (zI 0).cells.toArray L s k c W.heap.size W w2 b1 (zI (n : Nat)).cells.toArray from ⟨HA1.out.1.below hbn, HA1.out.2.1.below hbn, hy, HA1.out.2.2.1.next hbn, HA1.out.2.2.2.trans (Off.ofBelow hbn)⟩)
  have HP := Lib.hid (show Pl L s k c W.heap.size W.heap.size from ⟨by have := HA1.out.1.lt; omega, by have := HK.out; omega, by have := HL.out; omega, by omega, HG.out, by omega⟩)
  have c0 : World.cell? _ ⟨c, 0, none⟩ = some (.int .i64 ((n : Nat) : Int)) := (iv_all A2.out.2.2.1).2.2.2.2.1
  clear hw2 hbn hy hc hsz hgl HA1
  go_wp2_with (first | (go_at_call 31; refine (hascart_any _ _).mono ?_; rintro e wh ⟨rfl, rfl⟩; rw [h1]) | (go_at_call 33; refine (hasseller_any _ _).mono ?_; rintro e wh ⟨rfl, rfl⟩; rw [h2]) | (go_at_call 34; refine (hasnode_any _ _).mono ?_; rintro e wh ⟨rfl, rfl⟩; rw [h3]) | (go_at_call 35; refine (hasop_any _ _).mono ?_; rintro e wh ⟨rfl, rfl⟩; rw [h4]) | (go_at_call 37; refine (haspacket_any _ _).mono ?_; rintro e wh ⟨rfl, rfl⟩; rw [h5]))
  clear c0
  refine (rsmall_any k s b1 12 w2 A2.out.2.1 A2.out.1 (by decide)).mono ?_
  rintro e w3 ⟨hO, he⟩
  rcases hq : smallP 12 b1 with x | ⟨se, b2⟩
  · rw [hq] at he
    have HE := Lib.hid (HR0.out.trans (bindP_err hq))
    have HO := Lib.hid (A2.out.2.2.2.2.trans hO)
    obtain ⟨rfl, hM⟩ := he
    have HM := Lib.hid hM
    clear hq hO hM A2
    go_wp2_with fail
    exact ⟨rfl, HO.out, by rw [HE.out]; exact ⟨rfl, HM.out⟩⟩
  rw [hq] at he
  obtain ⟨rfl, hB⟩ := he
  have HR1 := Lib.hid (HR0.out.trans (bindP_ok hq))
  have BA3 := Lib.hid (AtT.step HP.out A2.out hO hB)
  clear hq hO hB A2 HR0
  have hk2 := (iv_all BA3.out.2.2.1).2.2.2.2.2.2.1
  have hf2 := BA3.out.2.2.1.frozen 2
  have A3 := Lib.hid (show AtT 48 (zI 0).cells.toArray L s k c W.heap.size W (w3.setCell ⟨c, 2, none⟩ (.int .i64 (se : Nat))) _ ({ zI (n : Nat) with se := (se : Nat) } : Iv).cells.toArray from at_setH HP.out BA3.out (by omega) rfl rfl rfl rfl rfl)
  go_upto_region 6 with (first | (go_at_call 31; refine (hascart_any _ _).mono ?_; rintro e wh ⟨rfl, rfl⟩; rw [h1]) | (go_at_call 33; refine (hasseller_any _ _).mono ?_; rintro e wh ⟨rfl, rfl⟩; rw [h2]) | (go_at_call 34; refine (hasnode_any _ _).mono ?_; rintro e wh ⟨rfl, rfl⟩; rw [h3]) | (go_at_call 35; refine (hasop_any _ _).mono ?_; rintro e wh ⟨rfl, rfl⟩; rw [h4]) | (go_at_call 37; refine (haspacket_any _ _).mono ?_; rintro e wh ⟨rfl, rfl⟩; rw [h5]))
  clear hk2 hf2 BA3
  obtain ⟨w4, hw⟩ : ∃ w4, w4 = w3.setCell ⟨c, 2, none⟩ (.int .i64 (se : Nat)) := ⟨_, rfl⟩
  rw [← hw] at A3 ⊢
  clear hw
  have c0 : World.cell? _ ⟨c, 0, none⟩ = some (.int .i64 ((n : Nat) : Int)) := (iv_all A3.out.2.2.1).2.2.2.2.1
  go_wp2_with (first | (go_at_call 31; refine (hascart_any _ _).mono ?_; rintro e wh ⟨rfl, rfl⟩; rw [h1]) | (go_at_call 33; refine (hasseller_any _ _).mono ?_; rintro e wh ⟨rfl, rfl⟩; rw [h2]) | (go_at_call 34; refine (hasnode_any _ _).mono ?_; rintro e wh ⟨rfl, rfl⟩; rw [h3]) | (go_at_call 35; refine (hasop_any _ _).mono ?_; rintro e wh ⟨rfl, rfl⟩; rw [h4]) | (go_at_call 37; refine (haspacket_any _ _).mono ?_; rintro e wh ⟨rfl, rfl⟩; rw [h5]))
  clear c0
  refine (rsmall_any k s b2 12 w4 A3.out.2.1 A3.out.1 (by decide)).mono ?_
  rintro e w5 ⟨hO, he⟩
  rcases hq : smallP 12 b2 with x | ⟨no, b3⟩
  · rw [hq] at he
    have HE := Lib.hid (HR1.out.trans (bindP_err hq))
    have HO := Lib.hid (A3.out.2.2.2.2.trans hO)
    obtain ⟨rfl, hM⟩ := he
    have HM := Lib.hid hM
    clear hq hO hM A3
    go_wp2_with fail
    exact ⟨rfl, HO.out, by rw [HE.out]; exact ⟨rfl, HM.out⟩⟩
  rw [hq] at he
  obtain ⟨rfl, hB⟩ := he
  have HR2 := Lib.hid (HR1.out.trans (bindP_ok hq))
  have BA4 := Lib.hid (AtT.step HP.out A3.out hO hB)
  clear hq hO hB A3 HR1
  have hk3 := (iv_all BA4.out.2.2.1).2.2.2.2.2.2.2.1
  have hf3 := BA4.out.2.2.1.frozen 3
  have A4 := Lib.hid (show AtT 48 (zI 0).cells.toArray L s k c W.heap.size W (w5.setCell ⟨c, 3, none⟩ (.int .i64 (no : Nat))) _ ({ zI (n : Nat) with se := (se : Nat), no := (no : Nat) } : Iv).cells.toArray from at_setH HP.out BA4.out (by omega) rfl rfl rfl rfl rfl)
  go_upto_region 8 with (first | (go_at_call 31; refine (hascart_any _ _).mono ?_; rintro e wh ⟨rfl, rfl⟩; rw [h1]) | (go_at_call 33; refine (hasseller_any _ _).mono ?_; rintro e wh ⟨rfl, rfl⟩; rw [h2]) | (go_at_call 34; refine (hasnode_any _ _).mono ?_; rintro e wh ⟨rfl, rfl⟩; rw [h3]) | (go_at_call 35; refine (hasop_any _ _).mono ?_; rintro e wh ⟨rfl, rfl⟩; rw [h4]) | (go_at_call 37; refine (haspacket_any _ _).mono ?_; rintro e wh ⟨rfl, rfl⟩; rw [h5]))
  clear hk3 hf3 BA4
  obtain ⟨w6, hw⟩ : ∃ w6, w6 = w5.setCell ⟨c, 3, none⟩ (.int .i64 (no : Nat)) := ⟨_, rfl⟩
  rw [← hw] at A4 ⊢
  clear hw
  have c0 : World.cell? _ ⟨c, 0, none⟩ = some (.int .i64 ((n : Nat) : Int)) := (iv_all A4.out.2.2.1).2.2.2.2.1
  obtain ⟨mm, hm⟩ : ∃ m : Iv, m = { zI (n : Nat) with se := (se : Nat), no := (no : Nat) } := ⟨_, rfl⟩
  obtain ⟨m, hm2⟩ : ∃ m : Iv, m = { zI (n : Nat) with se := (se : Nat), no := (no : Nat) } := ⟨_, rfl⟩
  have HXO := Lib.hid (show mm.x.Ok w6 by rw [hm]; exact zx_ok _)
  have HMM := Lib.hid (show mm = m.at none 0 by rw [hm, hm2]; rfl)
  rw [← hm] at A4
  rw [← hm2] at HR2
  clear hm hm2
  have rgl := A4.out.2.2.1.range
  have HRE := Lib.hid (show rightI mm = rightI m by rw [HMM.out, rightI_at])
  go_wp2_with (first | (go_at_call 31; refine (hascart_any _ _).mono ?_; rintro e wh ⟨rfl, rfl⟩; rw [h1]) | (go_at_call 33; refine (hasseller_any _ _).mono ?_; rintro e wh ⟨rfl, rfl⟩; rw [h2]) | (go_at_call 34; refine (hasnode_any _ _).mono ?_; rintro e wh ⟨rfl, rfl⟩; rw [h3]) | (go_at_call 35; refine (hasop_any _ _).mono ?_; rintro e wh ⟨rfl, rfl⟩; rw [h4]) | (go_at_call 37; refine (haspacket_any _ _).mono ?_; rintro e wh ⟨rfl, rfl⟩; rw [h5]) | (refine wpList_load_midg (by rfl) 48 _ rfl _ _ rfl (Iv.cells ?_) _ ?_ Tryz.underlying48 rfl (ivinfo _) ?_; rotate_left; (focus assumption)))
  refine (right_any mm w6 HXO.out).mono ?_
  rw [HRE.out]
  rintro e w16 ⟨rfl, hb⟩
  have A17 := Lib.hid (A4.out.next HP.out hb)
  have HX17 := Lib.hid (HXO.out.next hb)
  clear hb A4 rgl HXO
  rcases hq : rightI m with _ | _
  · have HE := Lib.hid (HR2.out.trans (show mkI m b3 = .error 3 by unfold mkI; rw [hq]; rfl))
    clear hq
    go_wp2_with fail
    refine (rmust_not k s b3 w16 A17.out.2.1 A17.out.1).mono ?_
    rintro e w17 ⟨rfl, hM, hO⟩
    have HO := Lib.hid (A17.out.2.2.2.2.trans hO)
    have HM := Lib.hid hM
    clear hM hO A17
    go_wp2_with fail
    exact ⟨rfl, HO.out, by rw [HE.out]; exact ⟨rfl, HM.out⟩⟩
  · have HE := Lib.hid (HR2.out.trans (show mkI m b3 = .ok (m, b3) by unfold mkI; rw [hq]; rfl))
    clear hq
    go_wp2_with fail
    refine (rmust_yes k s b3 w16 A17.out.2.1 A17.out.1).mono ?_
    rintro e w17 ⟨rfl, rfl⟩
    have rgl := A17.out.2.2.1.range
    have bg := A17.out.2.2.2.1
    go_wp2_with (first | (refine wpList_load_midg (by rfl) 48 _ rfl _ _ rfl (Iv.cells ?_) _ ?_ Tryz.underlying48 rfl (ivinfo _) ?_; rotate_left; (focus assumption)) | (refine wpList_store_blk rfl 48 _ _ rfl W.heap.size 48 _ mm.cells.toArray rfl rfl bg (ivinfoA _) (iv_siz _ _) (iv_one mm) ?_; intro hrow))
    refine bodyPost_row (t := 48) mm.cells.toArray rfl rfl rfl Tryz.underlying48 rfl (ivinfoA _) hrow ?_
    have hf : ∀ j, j ≠ W.heap.size → (w16.setRow W.heap.size mm.cells.toArray).heap[j]? = w16.heap[j]? := fun j hj => setRow_other w16 W.heap.size j _ hj
    have hz : (w16.setRow W.heap.size mm.cells.toArray).heap.size = w16.heap.size := by simp
    exact ⟨A17.out.2.2.2.2.turn (Nat.le_refl _) rfl rfl rfl (Nat.le_of_eq hz.symm) hf, by rw [HE.out]; exact ⟨⟨none, 0, by rw [HMM.out], by rw [← HMM.out]; exact pc_far HX17.out A17.out.2.2.2.1 (iv_nou _) hf (Nat.le_of_eq hz.symm), (fun _ _ e => by cases e)⟩, A17.out.1.turn (Nat.le_of_eq hz.symm) hf HP.out.gs HL.out⟩⟩
set_option maxHeartbeats 8000000 in
set_option maxRecDepth 20000 in
theorem get_chk (k s : Nat) (bs : List Nat) (W : World) (hL : L ≤ W.heap.size) (hr : Rdr W k s) (h : RdB L W s bs) (hby : ∀ x ∈ bs, x < 256) (hlen : bs.length ≤ 140737488355328) (n : Nat) (b1 : List Nat) (hq : smallP 6 bs = .ok (n, b1)) (h1 : hC (n : Nat) = true) (h2 : hS (n : Nat) = false) (h3 : hN (n : Nat) = false) (h4 : hO (n : Nat) = false) (h5 : hP (n : Nat) = false) :
    Calls Tryz.prog 22 #[.pointer (some ⟨k, 0, none⟩)] W fun e W' => EndsX L s W (inP bs) e W' := by
  obtain ⟨R, hR⟩ : ∃ R, R = inP bs := ⟨_, rfl⟩
  rw [← hR]
  have HR0 := Lib.hid ((hR.trans (by rw [inP_def])).trans ((bindP_ok hq).trans (show kindP (n : Nat) b1 = (bindP (smallP 12) fun ca => bindP vectorP fun l => bindP (numP true 0) fun t => mkI { zI (n : Nat) with ca := (ca : Nat), f := lv l, t := t }) b1 by unfold kindP; rw [h1, h2, h3, h4, h5]; rfl)))
  have HBY := Lib.hid (And.intro (lt_tail (small_one hby hq) hby) (show b1.length ≤ 140737488355328 from Nat.le_trans (smallP_left hq) hlen))
  clear hR hby hlen
  have hgs : W.heap.size ≠ s := by have := h.lt; omega
  have b1' := (Below.refl W.heap.size W).alloc (Nat.le_refl _) (.cells (zI 0).cells.toArray 48)
  obtain ⟨w0, hw0⟩ : ∃ w0, w0 = W.alloc (.cells (zI 0).cells.toArray 48) := ⟨_, rfl⟩
  have A0 : AtG 48 L s k W.heap.size W w0 bs (zI 0).cells.toArray := by rw [hw0]; exact ⟨h.below b1', hr.below b1', Blk.new _ _ _, Off.ofBelow b1'⟩
  have hk : k < W.heap.size := hr.lt
  rw [zI_cells] at hw0
  have HW0 := Lib.hid hw0
  have HA0 := Lib.hid A0
  have HL := Lib.hid hL
  have HG := Lib.hid hgs
  have HK := Lib.hid hk
  clear b1' h hr hL hgs hw0 A0 hk
  go_enter Tryz.func22, Tryz.ntmps22
  go_upto_region 1 with fail
  rw [← HW0.out]
  go_wp2_with fail
  refine (rsmall_any k s bs 6 w0 HA0.out.2.1 HA0.out.1 (by decide)).mono ?_
  rintro e w1 ⟨hO, he⟩
  rw [hq] at he
  obtain ⟨rfl, hB⟩ := he
  have HA1 := Lib.hid (HA0.out.step HG.out hO hB)
  clear hq hO hB HA0 HW0
  go_upto_region 2 with (first | (refine wpList_build_lit (zI (n : Nat)).cells.toArray rfl 48 _ rfl (built_zI (n : Nat)) ?_) | (refine wpList_store_blk rfl 48 _ _ rfl w1.heap.size 48 (zI 0).cells.toArray (zI (n : Nat)).cells.toArray rfl rfl (by rw [zI_cells]; exact Blk.new' rfl) (ivinfoA _) (iv_siz _ _) (iv_one _) ?_; intro hy))
  have hbn := below_setRow ((Below.refl w1.heap.size w1).alloc (Nat.le_refl _) (.cells (zI 0).cells.toArray 48)) (Nat.le_refl _) (zI (n : Nat)).cells.toArray
  rw [zI_cells 0] at hbn
  obtain ⟨w2, hw2⟩ : ∃ w2, w2 = (w1.alloc (.cells #[.int .i64 0, .int .i64 0, .int .i64 0, .int .i64 0, .int .u32 0, .int .u32 0, .int .u32 0, .int .u32 0, .int .u32 0, .int .u32 0, .int .u32 0, .int .u32 0, .int .u32 0, .int .u32 0, .int .u32 0, .int .u32 0, .int .u64 0, .int .i64 0, .int .i64 0, .int .i64 0, .float .f64 0, .bool false, .int .i64 0, .int .i64 0, .int .u64 0, .slice none 0 0] 48)).setRow w1.heap.size (zI (n : Nat)).cells.toArray := ⟨_, rfl⟩
  rw [← hw2] at hbn hy ⊢
  obtain ⟨c, hc⟩ : ∃ c, c = w1.heap.size := ⟨_, rfl⟩
  rw [← hc] at hy ⊢
  have hsz := HA1.out.2.2.2.size
  have hgl := HA1.out.2.2.1.lt
  have A2 := Lib.hid (show AtT 48 (zI 0).cells.toArray L s k c W.heap.size W w2 b1 (zI (n : Nat)).cells.toArray from ⟨HA1.out.1.below hbn, HA1.out.2.1.below hbn, hy, HA1.out.2.2.1.next hbn, HA1.out.2.2.2.trans (Off.ofBelow hbn)⟩)
  have HP := Lib.hid (show Pl L s k c W.heap.size W.heap.size from ⟨by have := HA1.out.1.lt; omega, by have := HK.out; omega, by have := HL.out; omega, by omega, HG.out, by omega⟩)
  have c0 : World.cell? _ ⟨c, 0, none⟩ = some (.int .i64 ((n : Nat) : Int)) := (iv_all A2.out.2.2.1).2.2.2.2.1
  clear hw2 hbn hy hc hsz hgl HA1
  go_wp2_with (first | (go_at_call 31; refine (hascart_any _ _).mono ?_; rintro e wh ⟨rfl, rfl⟩; rw [h1]) | (go_at_call 33; refine (hasseller_any _ _).mono ?_; rintro e wh ⟨rfl, rfl⟩; rw [h2]) | (go_at_call 34; refine (hasnode_any _ _).mono ?_; rintro e wh ⟨rfl, rfl⟩; rw [h3]) | (go_at_call 35; refine (hasop_any _ _).mono ?_; rintro e wh ⟨rfl, rfl⟩; rw [h4]) | (go_at_call 37; refine (haspacket_any _ _).mono ?_; rintro e wh ⟨rfl, rfl⟩; rw [h5]))
  clear c0
  refine (rsmall_any k s b1 12 w2 A2.out.2.1 A2.out.1 (by decide)).mono ?_
  rintro e w3 ⟨hO, he⟩
  rcases hq : smallP 12 b1 with x | ⟨ca, b2⟩
  · rw [hq] at he
    have HE := Lib.hid (HR0.out.trans (bindP_err hq))
    have HO := Lib.hid (A2.out.2.2.2.2.trans hO)
    obtain ⟨rfl, hM⟩ := he
    have HM := Lib.hid hM
    clear hq hO hM A2
    go_wp2_with fail
    exact ⟨rfl, HO.out, by rw [HE.out]; exact ⟨rfl, HM.out⟩⟩
  rw [hq] at he
  obtain ⟨rfl, hB⟩ := he
  have HR1 := Lib.hid (HR0.out.trans (bindP_ok hq))
  have BA3 := Lib.hid (AtT.step HP.out A2.out hO hB)
  clear hq hO hB A2 HR0
  have hk1 := (iv_all BA3.out.2.2.1).2.2.2.2.2.1
  have hf1 := BA3.out.2.2.1.frozen 1
  have A3 := Lib.hid (show AtT 48 (zI 0).cells.toArray L s k c W.heap.size W (w3.setCell ⟨c, 1, none⟩ (.int .i64 (ca : Nat))) _ ({ zI (n : Nat) with ca := (ca : Nat) } : Iv).cells.toArray from at_setH HP.out BA3.out (by omega) rfl rfl rfl rfl rfl)
  go_upto_region 4 with (first | (go_at_call 31; refine (hascart_any _ _).mono ?_; rintro e wh ⟨rfl, rfl⟩; rw [h1]) | (go_at_call 33; refine (hasseller_any _ _).mono ?_; rintro e wh ⟨rfl, rfl⟩; rw [h2]) | (go_at_call 34; refine (hasnode_any _ _).mono ?_; rintro e wh ⟨rfl, rfl⟩; rw [h3]) | (go_at_call 35; refine (hasop_any _ _).mono ?_; rintro e wh ⟨rfl, rfl⟩; rw [h4]) | (go_at_call 37; refine (haspacket_any _ _).mono ?_; rintro e wh ⟨rfl, rfl⟩; rw [h5]))
  clear hk1 hf1 BA3
  obtain ⟨w4, hw⟩ : ∃ w4, w4 = w3.setCell ⟨c, 1, none⟩ (.int .i64 (ca : Nat)) := ⟨_, rfl⟩
  rw [← hw] at A3 ⊢
  clear hw
  have c0 : World.cell? _ ⟨c, 0, none⟩ = some (.int .i64 ((n : Nat) : Int)) := (iv_all A3.out.2.2.1).2.2.2.2.1
  go_wp2_with (first | (go_at_call 31; refine (hascart_any _ _).mono ?_; rintro e wh ⟨rfl, rfl⟩; rw [h1]) | (go_at_call 33; refine (hasseller_any _ _).mono ?_; rintro e wh ⟨rfl, rfl⟩; rw [h2]) | (go_at_call 34; refine (hasnode_any _ _).mono ?_; rintro e wh ⟨rfl, rfl⟩; rw [h3]) | (go_at_call 35; refine (hasop_any _ _).mono ?_; rintro e wh ⟨rfl, rfl⟩; rw [h4]) | (go_at_call 37; refine (haspacket_any _ _).mono ?_; rintro e wh ⟨rfl, rfl⟩; rw [h5]))
  clear c0
  refine (rvector_any k s b2 w4 (by have := A3.out.2.2.1.lt; have := HP.out.cl; omega) A3.out.2.1 A3.out.1).mono ?_
  rintro e w5 ⟨hO, he⟩
  rcases hq : vectorP b2 with x | ⟨l, b3⟩
  · rw [hq] at he
    have HE := Lib.hid (HR1.out.trans (bindP_err hq))
    have HO := Lib.hid (A3.out.2.2.2.2.trans hO)
    obtain ⟨rfl, hM⟩ := he
    have HM := Lib.hid hM
    clear hq hO hM A3
    go_wp2_with fail
    exact ⟨rfl, HO.out, by rw [HE.out]; exact ⟨rfl, HM.out⟩⟩
  rw [hq] at he
  obtain ⟨rfl, hB⟩ := he
  have HR2 := Lib.hid (HR1.out.trans (bindP_ok hq))
  have BA4 := Lib.hid (AtT.step HP.out A3.out hO hB)
  clear hq hO hB A3 HR1
  have hth := BA4.out.2.2.1.thereT (o := 4) (n := (vl (lv l)).toArray.size) (by rw [List.size_toArray, List.size_toArray, iv_len, vl_len]; omega)
  have A4 := Lib.hid (at_setF HP.out BA4.out (lv l))
  go_upto_region 10 with (first | (go_at_call 31; refine (hascart_any _ _).mono ?_; rintro e wh ⟨rfl, rfl⟩; rw [h1]) | (go_at_call 33; refine (hasseller_any _ _).mono ?_; rintro e wh ⟨rfl, rfl⟩; rw [h2]) | (go_at_call 34; refine (hasnode_any _ _).mono ?_; rintro e wh ⟨rfl, rfl⟩; rw [h3]) | (go_at_call 35; refine (hasop_any _ _).mono ?_; rintro e wh ⟨rfl, rfl⟩; rw [h4]) | (go_at_call 37; refine (haspacket_any _ _).mono ?_; rintro e wh ⟨rfl, rfl⟩; rw [h5]) | (refine wpList_store_mid rfl 24 _ _ rfl c 4 (vl (lv l)).toArray rfl rfl hth (vinfo _) (vl_all _) ?_; show wpList _ _ _ _ _ (w5.setCells c 4 (vl (lv l)))))
  clear hth BA4
  obtain ⟨w6, hw⟩ : ∃ w6, w6 = w5.setCells c 4 (vl (lv l)) := ⟨_, rfl⟩
  rw [← hw] at A4 ⊢
  clear hw
  go_wp2_with (first | (go_at_call 31; refine (hascart_any _ _).mono ?_; rintro e wh ⟨rfl, rfl⟩; rw [h1]) | (go_at_call 33; refine (hasseller_any _ _).mono ?_; rintro e wh ⟨rfl, rfl⟩; rw [h2]) | (go_at_call 34; refine (hasnode_any _ _).mono ?_; rintro e wh ⟨rfl, rfl⟩; rw [h3]) | (go_at_call 35; refine (hasop_any _ _).mono ?_; rintro e wh ⟨rfl, rfl⟩; rw [h4]) | (go_at_call 37; refine (haspacket_any _ _).mono ?_; rintro e wh ⟨rfl, rfl⟩; rw [h5]))
  refine (rnum_any k s b3 w6 A4.out.2.1 A4.out.1).mono ?_
  rintro e w7 ⟨hO, he⟩
  rcases hq : numP true 0 b3 with x | ⟨t, b4⟩
  · rw [hq] at he
    have HE := Lib.hid (HR2.out.trans (bindP_err hq))
    have HO := Lib.hid (A4.out.2.2.2.2.trans hO)
    obtain ⟨rfl, hM⟩ := he
    have HM := Lib.hid hM
    clear hq hO hM A4
    go_wp2_with fail
    exact ⟨rfl, HO.out, by rw [HE.out]; exact ⟨rfl, HM.out⟩⟩
  rw [hq] at he
  obtain ⟨rfl, hB⟩ := he
  have HR3 := Lib.hid (HR2.out.trans (bindP_ok hq))
  have BA5 := Lib.hid (AtT.step HP.out A4.out hO hB)
  clear hq hO hB A4 HR2
  have hk16 := (iv_all BA5.out.2.2.1).2.2.2.2.2.2.2.2
  have hf16 := BA5.out.2.2.1.frozen 16
  have A5 := Lib.hid (show AtT 48 (zI 0).cells.toArray L s k c W.heap.size W (w7.setCell ⟨c, 16, none⟩ (.int .u64 (t : Nat))) _ ({ zI (n : Nat) with ca := (ca : Nat), f := lv l, t := t } : Iv).cells.toArray from at_setT HP.out BA5.out t)
  go_upto_region 11 with (first | (go_at_call 31; refine (hascart_any _ _).mono ?_; rintro e wh ⟨rfl, rfl⟩; rw [h1]) | (go_at_call 33; refine (hasseller_any _ _).mono ?_; rintro e wh ⟨rfl, rfl⟩; rw [h2]) | (go_at_call 34; refine (hasnode_any _ _).mono ?_; rintro e wh ⟨rfl, rfl⟩; rw [h3]) | (go_at_call 35; refine (hasop_any _ _).mono ?_; rintro e wh ⟨rfl, rfl⟩; rw [h4]) | (go_at_call 37; refine (haspacket_any _ _).mono ?_; rintro e wh ⟨rfl, rfl⟩; rw [h5]))
  clear hk16 hf16 BA5
  obtain ⟨w8, hw⟩ : ∃ w8, w8 = w7.setCell ⟨c, 16, none⟩ (.int .u64 (t : Nat)) := ⟨_, rfl⟩
  rw [← hw] at A5 ⊢
  clear hw
  have c0 : World.cell? _ ⟨c, 0, none⟩ = some (.int .i64 ((n : Nat) : Int)) := (iv_all A5.out.2.2.1).2.2.2.2.1
  obtain ⟨mm, hm⟩ : ∃ m : Iv, m = { zI (n : Nat) with ca := (ca : Nat), f := lv l, t := t } := ⟨_, rfl⟩
  obtain ⟨m, hm2⟩ : ∃ m : Iv, m = { zI (n : Nat) with ca := (ca : Nat), f := lv l, t := t } := ⟨_, rfl⟩
  have HXO := Lib.hid (show mm.x.Ok w8 by rw [hm]; exact zx_ok _)
  have HMM := Lib.hid (show mm = m.at none 0 by rw [hm, hm2]; rfl)
  rw [← hm] at A5
  rw [← hm2] at HR3
  clear hm hm2
  have rgl := A5.out.2.2.1.range
  have HRE := Lib.hid (show rightI mm = rightI m by rw [HMM.out, rightI_at])
  go_wp2_with (first | (go_at_call 31; refine (hascart_any _ _).mono ?_; rintro e wh ⟨rfl, rfl⟩; rw [h1]) | (go_at_call 33; refine (hasseller_any _ _).mono ?_; rintro e wh ⟨rfl, rfl⟩; rw [h2]) | (go_at_call 34; refine (hasnode_any _ _).mono ?_; rintro e wh ⟨rfl, rfl⟩; rw [h3]) | (go_at_call 35; refine (hasop_any _ _).mono ?_; rintro e wh ⟨rfl, rfl⟩; rw [h4]) | (go_at_call 37; refine (haspacket_any _ _).mono ?_; rintro e wh ⟨rfl, rfl⟩; rw [h5]) | (refine wpList_load_midg (by rfl) 48 _ rfl _ _ rfl (Iv.cells ?_) _ ?_ Tryz.underlying48 rfl (ivinfo _) ?_; rotate_left; (focus assumption)))
  refine (right_any mm w8 HXO.out).mono ?_
  rw [HRE.out]
  rintro e w16 ⟨rfl, hb⟩
  have A17 := Lib.hid (A5.out.next HP.out hb)
  have HX17 := Lib.hid (HXO.out.next hb)
  clear hb A5 rgl HXO
  rcases hq : rightI m with _ | _
  · have HE := Lib.hid (HR3.out.trans (show mkI m b4 = .error 3 by unfold mkI; rw [hq]; rfl))
    clear hq
    go_wp2_with fail
    refine (rmust_not k s b4 w16 A17.out.2.1 A17.out.1).mono ?_
    rintro e w17 ⟨rfl, hM, hO⟩
    have HO := Lib.hid (A17.out.2.2.2.2.trans hO)
    have HM := Lib.hid hM
    clear hM hO A17
    go_wp2_with fail
    exact ⟨rfl, HO.out, by rw [HE.out]; exact ⟨rfl, HM.out⟩⟩
  · have HE := Lib.hid (HR3.out.trans (show mkI m b4 = .ok (m, b4) by unfold mkI; rw [hq]; rfl))
    clear hq
    go_wp2_with fail
    refine (rmust_yes k s b4 w16 A17.out.2.1 A17.out.1).mono ?_
    rintro e w17 ⟨rfl, rfl⟩
    have rgl := A17.out.2.2.1.range
    have bg := A17.out.2.2.2.1
    go_wp2_with (first | (refine wpList_load_midg (by rfl) 48 _ rfl _ _ rfl (Iv.cells ?_) _ ?_ Tryz.underlying48 rfl (ivinfo _) ?_; rotate_left; (focus assumption)) | (refine wpList_store_blk rfl 48 _ _ rfl W.heap.size 48 _ mm.cells.toArray rfl rfl bg (ivinfoA _) (iv_siz _ _) (iv_one mm) ?_; intro hrow))
    refine bodyPost_row (t := 48) mm.cells.toArray rfl rfl rfl Tryz.underlying48 rfl (ivinfoA _) hrow ?_
    have hf : ∀ j, j ≠ W.heap.size → (w16.setRow W.heap.size mm.cells.toArray).heap[j]? = w16.heap[j]? := fun j hj => setRow_other w16 W.heap.size j _ hj
    have hz : (w16.setRow W.heap.size mm.cells.toArray).heap.size = w16.heap.size := by simp
    exact ⟨A17.out.2.2.2.2.turn (Nat.le_refl _) rfl rfl rfl (Nat.le_of_eq hz.symm) hf, by rw [HE.out]; exact ⟨⟨none, 0, by rw [HMM.out], by rw [← HMM.out]; exact pc_far HX17.out A17.out.2.2.2.1 (iv_nou _) hf (Nat.le_of_eq hz.symm), (fun _ _ e => by cases e)⟩, A17.out.1.turn (Nat.le_of_eq hz.symm) hf HP.out.gs HL.out⟩⟩
set_option maxHeartbeats 8000000 in
set_option maxRecDepth 20000 in
theorem get_pac (k s : Nat) (bs : List Nat) (W : World) (hL : L ≤ W.heap.size) (hr : Rdr W k s) (h : RdB L W s bs) (hby : ∀ x ∈ bs, x < 256) (hlen : bs.length ≤ 140737488355328) (n : Nat) (b1 : List Nat) (hq : smallP 6 bs = .ok (n, b1)) (h1 : hC (n : Nat) = false) (h2 : hS (n : Nat) = false) (h3 : hN (n : Nat) = false) (h4 : hO (n : Nat) = false) (h5 : hP (n : Nat) = true) :
    Calls Tryz.prog 22 #[.pointer (some ⟨k, 0, none⟩)] W fun e W' => EndsX L s W (inP bs) e W' := by
  obtain ⟨R, hR⟩ : ∃ R, R = inP bs := ⟨_, rfl⟩
  rw [← hR]
  have HR0 := Lib.hid ((hR.trans (by rw [inP_def])).trans ((bindP_ok hq).trans (show kindP (n : Nat) b1 = (bindP pkP fun p => mkI { zI (n : Nat) with x := ⟨p, none, 0⟩ }) b1 by unfold kindP; rw [h1, h2, h3, h4, h5]; rfl)))
  have HBY := Lib.hid (And.intro (lt_tail (small_one hby hq) hby) (show b1.length ≤ 140737488355328 from Nat.le_trans (smallP_left hq) hlen))
  clear hR hby hlen
  have hgs : W.heap.size ≠ s := by have := h.lt; omega
  have b1' := (Below.refl W.heap.size W).alloc (Nat.le_refl _) (.cells (zI 0).cells.toArray 48)
  obtain ⟨w0, hw0⟩ : ∃ w0, w0 = W.alloc (.cells (zI 0).cells.toArray 48) := ⟨_, rfl⟩
  have A0 : AtG 48 L s k W.heap.size W w0 bs (zI 0).cells.toArray := by rw [hw0]; exact ⟨h.below b1', hr.below b1', Blk.new _ _ _, Off.ofBelow b1'⟩
  have hk : k < W.heap.size := hr.lt
  rw [zI_cells] at hw0
  have HW0 := Lib.hid hw0
  have HA0 := Lib.hid A0
  have HL := Lib.hid hL
  have HG := Lib.hid hgs
  have HK := Lib.hid hk
  clear b1' h hr hL hgs hw0 A0 hk
  go_enter Tryz.func22, Tryz.ntmps22
  go_upto_region 1 with fail
  rw [← HW0.out]
  go_wp2_with fail
  refine (rsmall_any k s bs 6 w0 HA0.out.2.1 HA0.out.1 (by decide)).mono ?_
  rintro e w1 ⟨hO, he⟩
  rw [hq] at he
  obtain ⟨rfl, hB⟩ := he
  have HA1 := Lib.hid (HA0.out.step HG.out hO hB)
  clear hq hO hB HA0 HW0
  go_upto_region 2 with (first | (refine wpList_build_lit (zI (n : Nat)).cells.toArray rfl 48 _ rfl (built_zI (n : Nat)) ?_) | (refine wpList_store_blk rfl 48 _ _ rfl w1.heap.size 48 (zI 0).cells.toArray (zI (n : Nat)).cells.toArray rfl rfl (by rw [zI_cells]; exact Blk.new' rfl) (ivinfoA _) (iv_siz _ _) (iv_one _) ?_; intro hy))
  have hbn := below_setRow ((Below.refl w1.heap.size w1).alloc (Nat.le_refl _) (.cells (zI 0).cells.toArray 48)) (Nat.le_refl _) (zI (n : Nat)).cells.toArray
  rw [zI_cells 0] at hbn
  obtain ⟨w2, hw2⟩ : ∃ w2, w2 = (w1.alloc (.cells #[.int .i64 0, .int .i64 0, .int .i64 0, .int .i64 0, .int .u32 0, .int .u32 0, .int .u32 0, .int .u32 0, .int .u32 0, .int .u32 0, .int .u32 0, .int .u32 0, .int .u32 0, .int .u32 0, .int .u32 0, .int .u32 0, .int .u64 0, .int .i64 0, .int .i64 0, .int .i64 0, .float .f64 0, .bool false, .int .i64 0, .int .i64 0, .int .u64 0, .slice none 0 0] 48)).setRow w1.heap.size (zI (n : Nat)).cells.toArray := ⟨_, rfl⟩
  rw [← hw2] at hbn hy ⊢
  obtain ⟨c, hc⟩ : ∃ c, c = w1.heap.size := ⟨_, rfl⟩
  rw [← hc] at hy ⊢
  have hsz := HA1.out.2.2.2.size
  have hgl := HA1.out.2.2.1.lt
  have A2 := Lib.hid (show AtT 48 (zI 0).cells.toArray L s k c W.heap.size W w2 b1 (zI (n : Nat)).cells.toArray from ⟨HA1.out.1.below hbn, HA1.out.2.1.below hbn, hy, HA1.out.2.2.1.next hbn, HA1.out.2.2.2.trans (Off.ofBelow hbn)⟩)
  have HP := Lib.hid (show Pl L s k c W.heap.size W.heap.size from ⟨by have := HA1.out.1.lt; omega, by have := HK.out; omega, by have := HL.out; omega, by omega, HG.out, by omega⟩)
  have c0 : World.cell? _ ⟨c, 0, none⟩ = some (.int .i64 ((n : Nat) : Int)) := (iv_all A2.out.2.2.1).2.2.2.2.1
  clear hw2 hbn hy hc hsz hgl HA1
  go_wp2_with (first | (go_at_call 31; refine (hascart_any _ _).mono ?_; rintro e wh ⟨rfl, rfl⟩; rw [h1]) | (go_at_call 33; refine (hasseller_any _ _).mono ?_; rintro e wh ⟨rfl, rfl⟩; rw [h2]) | (go_at_call 34; refine (hasnode_any _ _).mono ?_; rintro e wh ⟨rfl, rfl⟩; rw [h3]) | (go_at_call 35; refine (hasop_any _ _).mono ?_; rintro e wh ⟨rfl, rfl⟩; rw [h4]) | (go_at_call 37; refine (haspacket_any _ _).mono ?_; rintro e wh ⟨rfl, rfl⟩; rw [h5]))
  clear c0
  refine (getpacket_any k s b1 w2 (by have := A2.out.2.2.1.lt; have := HP.out.cl; omega) A2.out.2.1 A2.out.1 HBY.out.1 HBY.out.2).mono ?_
  rintro e w3 ⟨hO, he⟩
  rcases hq : pkP b1 with x | ⟨p, b2⟩
  · rw [hq] at he
    have HE := Lib.hid (HR0.out.trans (bindP_err hq))
    have HO := Lib.hid (A2.out.2.2.2.2.trans hO)
    obtain ⟨rfl, hM⟩ := he
    have HM := Lib.hid hM
    clear hq hO hM A2
    go_wp2_with fail
    exact ⟨rfl, HO.out, by rw [HE.out]; exact ⟨rfl, HM.out⟩⟩
  rw [hq] at he
  obtain ⟨⟨Ap, cp, rfl, hok, hlow⟩, hB⟩ := he
  have HR1 := Lib.hid (HR0.out.trans (bindP_ok hq))
  have HOK3 := Lib.hid hok
  have HLW := Lib.hid (show ∀ b o, Ap = some ⟨b, o, none⟩ → W.heap.size ≤ b from fun b o e => by have h1 := hlow b o e; have h2 := A2.out.2.2.2.2.size; omega)
  have BA3 := Lib.hid (AtT.step HP.out A2.out hO hB)
  clear hq hO hB A2 HR0 hok hlow
  have hth := BA3.out.2.2.1.thereT (o := 21) (n := ((Pk.Pc.mk p Ap cp).cells).toArray.size) (by rw [List.size_toArray, List.size_toArray, iv_len, Pk.pc_len]; omega)
  have A3 := Lib.hid (at_setX HP.out BA3.out ⟨p, Ap, cp⟩)
  go_upto_region 15 with (first | (go_at_call 31; refine (hascart_any _ _).mono ?_; rintro e wh ⟨rfl, rfl⟩; rw [h1]) | (go_at_call 33; refine (hasseller_any _ _).mono ?_; rintro e wh ⟨rfl, rfl⟩; rw [h2]) | (go_at_call 34; refine (hasnode_any _ _).mono ?_; rintro e wh ⟨rfl, rfl⟩; rw [h3]) | (go_at_call 35; refine (hasop_any _ _).mono ?_; rintro e wh ⟨rfl, rfl⟩; rw [h4]) | (go_at_call 37; refine (haspacket_any _ _).mono ?_; rintro e wh ⟨rfl, rfl⟩; rw [h5]) | (refine wpList_store_mid rfl 30 _ _ rfl c 21 ((Pk.Pc.mk p Ap cp).cells).toArray rfl rfl hth (Pk.pcinfoA _) (Pk.pc_one _) ?_; show wpList _ _ _ _ _ (w3.setCells c 21 ((Pk.Pc.mk p Ap cp).cells))))
  have HOK := Lib.hid (show (Pk.Pc.mk p Ap cp).Ok (w3.setCells c 21 (Pk.Pc.mk p Ap cp).cells) from pc_far HOK3.out BA3.out.2.2.1 (iv_nou _) (fun j hj => setCells_other c _ 21 w3 j hj) (Nat.le_of_eq (setCells_size c _ 21 w3).symm))
  clear hth BA3 HOK3
  obtain ⟨w4, hw⟩ : ∃ w4, w4 = w3.setCells c 21 ((Pk.Pc.mk p Ap cp).cells) := ⟨_, rfl⟩
  rw [← hw] at A3 HOK ⊢
  clear hw
  have c0 : World.cell? _ ⟨c, 0, none⟩ = some (.int .i64 ((n : Nat) : Int)) := (iv_all A3.out.2.2.1).2.2.2.2.1
  obtain ⟨mm, hm⟩ : ∃ m : Iv, m = { zI (n : Nat) with x := ⟨p, Ap, cp⟩ } := ⟨_, rfl⟩
  obtain ⟨m, hm2⟩ : ∃ m : Iv, m = { zI (n : Nat) with x := ⟨p, none, 0⟩ } := ⟨_, rfl⟩
  have HXO := Lib.hid (show mm.x.Ok w4 by rw [hm]; exact HOK.out)
  have HMM := Lib.hid (show mm = m.at Ap cp by rw [hm, hm2]; rfl)
  rw [← hm] at A3
  rw [← hm2] at HR1
  clear hm hm2 HOK
  have rgl := A3.out.2.2.1.range
  have HRE := Lib.hid (show rightI mm = rightI m by rw [HMM.out, rightI_at])
  go_wp2_with (first | (go_at_call 31; refine (hascart_any _ _).mono ?_; rintro e wh ⟨rfl, rfl⟩; rw [h1]) | (go_at_call 33; refine (hasseller_any _ _).mono ?_; rintro e wh ⟨rfl, rfl⟩; rw [h2]) | (go_at_call 34; refine (hasnode_any _ _).mono ?_; rintro e wh ⟨rfl, rfl⟩; rw [h3]) | (go_at_call 35; refine (hasop_any _ _).mono ?_; rintro e wh ⟨rfl, rfl⟩; rw [h4]) | (go_at_call 37; refine (haspacket_any _ _).mono ?_; rintro e wh ⟨rfl, rfl⟩; rw [h5]) | (refine wpList_load_midg (by rfl) 48 _ rfl _ _ rfl (Iv.cells ?_) _ ?_ Tryz.underlying48 rfl (ivinfo _) ?_; rotate_left; (focus assumption)))
  refine (right_any mm w4 HXO.out).mono ?_
  rw [HRE.out]
  rintro e w16 ⟨rfl, hb⟩
  have A17 := Lib.hid (A3.out.next HP.out hb)
  have HX17 := Lib.hid (HXO.out.next hb)
  clear hb A3 rgl HXO
  rcases hq : rightI m with _ | _
  · have HE := Lib.hid (HR1.out.trans (show mkI m b2 = .error 3 by unfold mkI; rw [hq]; rfl))
    clear hq
    go_wp2_with fail
    refine (rmust_not k s b2 w16 A17.out.2.1 A17.out.1).mono ?_
    rintro e w17 ⟨rfl, hM, hO⟩
    have HO := Lib.hid (A17.out.2.2.2.2.trans hO)
    have HM := Lib.hid hM
    clear hM hO A17
    go_wp2_with fail
    exact ⟨rfl, HO.out, by rw [HE.out]; exact ⟨rfl, HM.out⟩⟩
  · have HE := Lib.hid (HR1.out.trans (show mkI m b2 = .ok (m, b2) by unfold mkI; rw [hq]; rfl))
    clear hq
    go_wp2_with fail
    refine (rmust_yes k s b2 w16 A17.out.2.1 A17.out.1).mono ?_
    rintro e w17 ⟨rfl, rfl⟩
    have rgl := A17.out.2.2.1.range
    have bg := A17.out.2.2.2.1
    go_wp2_with (first | (refine wpList_load_midg (by rfl) 48 _ rfl _ _ rfl (Iv.cells ?_) _ ?_ Tryz.underlying48 rfl (ivinfo _) ?_; rotate_left; (focus assumption)) | (refine wpList_store_blk rfl 48 _ _ rfl W.heap.size 48 _ mm.cells.toArray rfl rfl bg (ivinfoA _) (iv_siz _ _) (iv_one mm) ?_; intro hrow))
    refine bodyPost_row (t := 48) mm.cells.toArray rfl rfl rfl Tryz.underlying48 rfl (ivinfoA _) hrow ?_
    have hf : ∀ j, j ≠ W.heap.size → (w16.setRow W.heap.size mm.cells.toArray).heap[j]? = w16.heap[j]? := fun j hj => setRow_other w16 W.heap.size j _ hj
    have hz : (w16.setRow W.heap.size mm.cells.toArray).heap.size = w16.heap.size := by simp
    exact ⟨A17.out.2.2.2.2.turn (Nat.le_refl _) rfl rfl rfl (Nat.le_of_eq hz.symm) hf, by rw [HE.out]; exact ⟨⟨Ap, cp, by rw [HMM.out], by rw [← HMM.out]; exact pc_far HX17.out A17.out.2.2.2.1 (iv_nou _) hf (Nat.le_of_eq hz.symm), HLW.out⟩, A17.out.1.turn (Nat.le_of_eq hz.symm) hf HP.out.gs HL.out⟩⟩
set_option maxHeartbeats 8000000 in
set_option maxRecDepth 20000 in
theorem get_ord (k s : Nat) (bs : List Nat) (W : World) (hL : L ≤ W.heap.size) (hr : Rdr W k s) (h : RdB L W s bs) (hby : ∀ x ∈ bs, x < 256) (hlen : bs.length ≤ 140737488355328) (n : Nat) (b1 : List Nat) (hq : smallP 6 bs = .ok (n, b1)) (h1 : hC (n : Nat) = true) (h2 : hS (n : Nat) = true) (h3 : hN (n : Nat) = false) (h4 : hO (n : Nat) = true) (h5 : hP (n : Nat) = false) :
    Calls Tryz.prog 22 #[.pointer (some ⟨k, 0, none⟩)] W fun e W' => EndsX L s W (inP bs) e W' := by
  obtain ⟨R, hR⟩ : ∃ R, R = inP bs := ⟨_, rfl⟩
  rw [← hR]
  have HR0 := Lib.hid ((hR.trans (by rw [inP_def])).trans ((bindP_ok hq).trans (show kindP (n : Nat) b1 = (bindP (smallP 12) fun ca => bindP (smallP 12) fun se => bindP vectorP fun l => bindP (numP true 0) fun t => bindP opP fun o => mkI { zI (n : Nat) with ca := (ca : Nat), se := (se : Nat), f := lv l, t := t, o := o }) b1 by unfold kindP; rw [h1, h2, h3, h4, h5]; rfl)))
  have HBY := Lib.hid (And.intro (lt_tail (small_one hby hq) hby) (show b1.length ≤ 140737488355328 from Nat.le_trans (smallP_left hq) hlen))
  clear hR hby hlen
  have hgs : W.heap.size ≠ s := by have := h.lt; omega
  have b1' := (Below.refl W.heap.size W).alloc (Nat.le_refl _) (.cells (zI 0).cells.toArray 48)
  obtain ⟨w0, hw0⟩ : ∃ w0, w0 = W.alloc (.cells (zI 0).cells.toArray 48) := ⟨_, rfl⟩
  have A0 : AtG 48 L s k W.heap.size W w0 bs (zI 0).cells.toArray := by rw [hw0]; exact ⟨h.below b1', hr.below b1', Blk.new _ _ _, Off.ofBelow b1'⟩
  have hk : k < W.heap.size := hr.lt
  rw [zI_cells] at hw0
  have HW0 := Lib.hid hw0
  have HA0 := Lib.hid A0
  have HL := Lib.hid hL
  have HG := Lib.hid hgs
  have HK := Lib.hid hk
  clear b1' h hr hL hgs hw0 A0 hk
  go_enter Tryz.func22, Tryz.ntmps22
  go_upto_region 1 with fail
  rw [← HW0.out]
  go_wp2_with fail
  refine (rsmall_any k s bs 6 w0 HA0.out.2.1 HA0.out.1 (by decide)).mono ?_
  rintro e w1 ⟨hO, he⟩
  rw [hq] at he
  obtain ⟨rfl, hB⟩ := he
  have HA1 := Lib.hid (HA0.out.step HG.out hO hB)
  clear hq hO hB HA0 HW0
  go_upto_region 2 with (first | (refine wpList_build_lit (zI (n : Nat)).cells.toArray rfl 48 _ rfl (built_zI (n : Nat)) ?_) | (refine wpList_store_blk rfl 48 _ _ rfl w1.heap.size 48 (zI 0).cells.toArray (zI (n : Nat)).cells.toArray rfl rfl (by rw [zI_cells]; exact Blk.new' rfl) (ivinfoA _) (iv_siz _ _) (iv_one _) ?_; intro hy))
  have hbn := below_setRow ((Below.refl w1.heap.size w1).alloc (Nat.le_refl _) (.cells (zI 0).cells.toArray 48)) (Nat.le_refl _) (zI (n : Nat)).cells.toArray
  rw [zI_cells 0] at hbn
  obtain ⟨w2, hw2⟩ : ∃ w2, w2 = (w1.alloc (.cells #[.int .i64 0, .int .i64 0, .int .i64 0, .int .i64 0, .int .u32 0, .int .u32 0, .int .u32 0, .int .u32 0, .int .u32 0, .int .u32 0, .int .u32 0, .int .u32 0, .int .u32 0, .int .u32 0, .int .u32 0, .int .u32 0, .int .u64 0, .int .i64 0, .int .i64 0, .int .i64 0, .float .f64 0, .bool false, .int .i64 0, .int .i64 0, .int .u64 0, .slice none 0 0] 48)).setRow w1.heap.size (zI (n : Nat)).cells.toArray := ⟨_, rfl⟩
  rw [← hw2] at hbn hy ⊢
  obtain ⟨c, hc⟩ : ∃ c, c = w1.heap.size := ⟨_, rfl⟩
  rw [← hc] at hy ⊢
  have hsz := HA1.out.2.2.2.size
  have hgl := HA1.out.2.2.1.lt
  have A2 := Lib.hid (show AtT 48 (zI 0).cells.toArray L s k c W.heap.size W w2 b1 (zI (n : Nat)).cells.toArray from ⟨HA1.out.1.below hbn, HA1.out.2.1.below hbn, hy, HA1.out.2.2.1.next hbn, HA1.out.2.2.2.trans (Off.ofBelow hbn)⟩)
  have HP := Lib.hid (show Pl L s k c W.heap.size W.heap.size from ⟨by have := HA1.out.1.lt; omega, by have := HK.out; omega, by have := HL.out; omega, by omega, HG.out, by omega⟩)
  have c0 : World.cell? _ ⟨c, 0, none⟩ = some (.int .i64 ((n : Nat) : Int)) := (iv_all A2.out.2.2.1).2.2.2.2.1
  clear hw2 hbn hy hc hsz hgl HA1
  go_wp2_with (first | (go_at_call 31; refine (hascart_any _ _).mono ?_; rintro e wh ⟨rfl, rfl⟩; rw [h1]) | (go_at_call 33; refine (hasseller_any _ _).mono ?_; rintro e wh ⟨rfl, rfl⟩; rw [h2]) | (go_at_call 34; refine (hasnode_any _ _).mono ?_; rintro e wh ⟨rfl, rfl⟩; rw [h3]) | (go_at_call 35; refine (hasop_any _ _).mono ?_; rintro e wh ⟨rfl, rfl⟩; rw [h4]) | (go_at_call 37; refine (haspacket_any _ _).mono ?_; rintro e wh ⟨rfl, rfl⟩; rw [h5]))
  clear c0
  refine (rsmall_any k s b1 12 w2 A2.out.2.1 A2.out.1 (by decide)).mono ?_
  rintro e w3 ⟨hO, he⟩
  rcases hq : smallP 12 b1 with x | ⟨ca, b2⟩
  · rw [hq] at he
    have HE := Lib.hid (HR0.out.trans (bindP_err hq))
    have HO := Lib.hid (A2.out.2.2.2.2.trans hO)
    obtain ⟨rfl, hM⟩ := he
    have HM := Lib.hid hM
    clear hq hO hM A2
    go_wp2_with fail
    exact ⟨rfl, HO.out, by rw [HE.out]; exact ⟨rfl, HM.out⟩⟩
  rw [hq] at he
  obtain ⟨rfl, hB⟩ := he
  have HR1 := Lib.hid (HR0.out.trans (bindP_ok hq))
  have HB2 := Lib.hid (lt_tail (small_one HBY.out.1 hq) HBY.out.1)
  have BA3 := Lib.hid (AtT.step HP.out A2.out hO hB)
  clear hq hO hB A2 HR0
  have hk1 := (iv_all BA3.out.2.2.1).2.2.2.2.2.1
  have hf1 := BA3.out.2.2.1.frozen 1
  have A3 := Lib.hid (show AtT 48 (zI 0).cells.toArray L s k c W.heap.size W (w3.setCell ⟨c, 1, none⟩ (.int .i64 (ca : Nat))) _ ({ zI (n : Nat) with ca := (ca : Nat) } : Iv).cells.toArray from at_setH HP.out BA3.out (by omega) rfl rfl rfl rfl rfl)
  go_upto_region 4 with (first | (go_at_call 31; refine (hascart_any _ _).mono ?_; rintro e wh ⟨rfl, rfl⟩; rw [h1]) | (go_at_call 33; refine (hasseller_any _ _).mono ?_; rintro e wh ⟨rfl, rfl⟩; rw [h2]) | (go_at_call 34; refine (hasnode_any _ _).mono ?_; rintro e wh ⟨rfl, rfl⟩; rw [h3]) | (go_at_call 35; refine (hasop_any _ _).mono ?_; rintro e wh ⟨rfl, rfl⟩; rw [h4]) | (go_at_call 37; refine (haspacket_any _ _).mono ?_; rintro e wh ⟨rfl, rfl⟩; rw [h5]))
  clear hk1 hf1 BA3
  obtain ⟨w4, hw⟩ : ∃ w4, w4 = w3.setCell ⟨c, 1, none⟩ (.int .i64 (ca : Nat)) := ⟨_, rfl⟩
  rw [← hw] at A3 ⊢
  clear hw
  have c0 : World.cell? _ ⟨c, 0, none⟩ = some (.int .i64 ((n : Nat) : Int)) := (iv_all A3.out.2.2.1).2.2.2.2.1
  go_wp2_with (first | (go_at_call 31; refine (hascart_any _ _).mono ?_; rintro e wh ⟨rfl, rfl⟩; rw [h1]) | (go_at_call 33; refine (hasseller_any _ _).mono ?_; rintro e wh ⟨rfl, rfl⟩; rw [h2]) | (go_at_call 34; refine (hasnode_any _ _).mono ?_; rintro e wh ⟨rfl, rfl⟩; rw [h3]) | (go_at_call 35; refine (hasop_any _ _).mono ?_; rintro e wh ⟨rfl, rfl⟩; rw [h4]) | (go_at_call 37; refine (haspacket_any _ _).mono ?_; rintro e wh ⟨rfl, rfl⟩; rw [h5]))
  clear c0
  refine (rsmall_any k s b2 12 w4 A3.out.2.1 A3.out.1 (by decide)).mono ?_
  rintro e w5 ⟨hO, he⟩
  rcases hq : smallP 12 b2 with x | ⟨se, b3⟩
  · rw [hq] at he
    have HE := Lib.hid (HR1.out.trans (bindP_err hq))
    have HO := Lib.hid (A3.out.2.2.2.2.trans hO)
    obtain ⟨rfl, hM⟩ := he
    have HM := Lib.hid hM
    clear hq hO hM A3
    go_wp2_with fail
    exact ⟨rfl, HO.out, by rw [HE.out]; exact ⟨rfl, HM.out⟩⟩
  rw [hq] at he
  obtain ⟨rfl, hB⟩ := he
  have HR2 := Lib.hid (HR1.out.trans (bindP_ok hq))
  have HB3 := Lib.hid (lt_tail (small_one HB2.out hq) HB2.out)
  have BA4 := Lib.hid (AtT.step HP.out A3.out hO hB)
  clear hq hO hB A3 HR1
  have hk2 := (iv_all BA4.out.2.2.1).2.2.2.2.2.2.1
  have hf2 := BA4.out.2.2.1.frozen 2
  have A4 := Lib.hid (show AtT 48 (zI 0).cells.toArray L s k c W.heap.size W (w5.setCell ⟨c, 2, none⟩ (.int .i64 (se : Nat))) _ ({ zI (n : Nat) with ca := (ca : Nat), se := (se : Nat) } : Iv).cells.toArray from at_setH HP.out BA4.out (by omega) rfl rfl rfl rfl rfl)
  go_upto_region 6 with (first | (go_at_call 31; refine (hascart_any _ _).mono ?_; rintro e wh ⟨rfl, rfl⟩; rw [h1]) | (go_at_call 33; refine (hasseller_any _ _).mono ?_; rintro e wh ⟨rfl, rfl⟩; rw [h2]) | (go_at_call 34; refine (hasnode_any _ _).mono ?_; rintro e wh ⟨rfl, rfl⟩; rw [h3]) | (go_at_call 35; refine (hasop_any _ _).mono ?_; rintro e wh ⟨rfl, rfl⟩; rw [h4]) | (go_at_call 37; refine (haspacket_any _ _).mono ?_; rintro e wh ⟨rfl, rfl⟩; rw [h5]))
  clear hk2 hf2 BA4
  obtain ⟨w6, hw⟩ : ∃ w6, w6 = w5.setCell ⟨c, 2, none⟩ (.int .i64 (se : Nat)) := ⟨_, rfl⟩
  rw [← hw] at A4 ⊢
  clear hw
  have c0 : World.cell? _ ⟨c, 0, none⟩ = some (.int .i64 ((n : Nat) : Int)) := (iv_all A4.out.2.2.1).2.2.2.2.1
  go_wp2_with (first | (go_at_call 31; refine (hascart_any _ _).mono ?_; rintro e wh ⟨rfl, rfl⟩; rw [h1]) | (go_at_call 33; refine (hasseller_any _ _).mono ?_; rintro e wh ⟨rfl, rfl⟩; rw [h2]) | (go_at_call 34; refine (hasnode_any _ _).mono ?_; rintro e wh ⟨rfl, rfl⟩; rw [h3]) | (go_at_call 35; refine (hasop_any _ _).mono ?_; rintro e wh ⟨rfl, rfl⟩; rw [h4]) | (go_at_call 37; refine (haspacket_any _ _).mono ?_; rintro e wh ⟨rfl, rfl⟩; rw [h5]))
  clear c0
  refine (rvector_any k s b3 w6 (by have := A4.out.2.2.1.lt; have := HP.out.cl; omega) A4.out.2.1 A4.out.1).mono ?_
  rintro e w7 ⟨hO, he⟩
  rcases hq : vectorP b3 with x | ⟨l, b4⟩
  · rw [hq] at he
    have HE := Lib.hid (HR2.out.trans (bindP_err hq))
    have HO := Lib.hid (A4.out.2.2.2.2.trans hO)
    obtain ⟨rfl, hM⟩ := he
    have HM := Lib.hid hM
    clear hq hO hM A4
    go_wp2_with fail
    exact ⟨rfl, HO.out, by rw [HE.out]; exact ⟨rfl, HM.out⟩⟩
  rw [hq] at he
  obtain ⟨rfl, hB⟩ := he
  have HR3 := Lib.hid (HR2.out.trans (bindP_ok hq))
  have HB4 := Lib.hid (lt_tail (vector_one HB3.out hq).1 HB3.out)
  have BA5 := Lib.hid (AtT.step HP.out A4.out hO hB)
  clear hq hO hB A4 HR2
  have hth := BA5.out.2.2.1.thereT (o := 4) (n := (vl (lv l)).toArray.size) (by rw [List.size_toArray, List.size_toArray, iv_len, vl_len]; omega)
  have A5 := Lib.hid (at_setF HP.out BA5.out (lv l))
  go_upto_region 10 with (first | (go_at_call 31; refine (hascart_any _ _).mono ?_; rintro e wh ⟨rfl, rfl⟩; rw [h1]) | (go_at_call 33; refine (hasseller_any _ _).mono ?_; rintro e wh ⟨rfl, rfl⟩; rw [h2]) | (go_at_call 34; refine (hasnode_any _ _).mono ?_; rintro e wh ⟨rfl, rfl⟩; rw [h3]) | (go_at_call 35; refine (hasop_any _ _).mono ?_; rintro e wh ⟨rfl, rfl⟩; rw [h4]) | (go_at_call 37; refine (haspacket_any _ _).mono ?_; rintro e wh ⟨rfl, rfl⟩; rw [h5]) | (refine wpList_store_mid rfl 24 _ _ rfl c 4 (vl (lv l)).toArray rfl rfl hth (vinfo _) (vl_all _) ?_; show wpList _ _ _ _ _ (w7.setCells c 4 (vl (lv l)))))
  clear hth BA5
  obtain ⟨w8, hw⟩ : ∃ w8, w8 = w7.setCells c 4 (vl (lv l)) := ⟨_, rfl⟩
  rw [← hw] at A5 ⊢
  clear hw
  go_wp2_with (first | (go_at_call 31; refine (hascart_any _ _).mono ?_; rintro e wh ⟨rfl, rfl⟩; rw [h1]) | (go_at_call 33; refine (hasseller_any _ _).mono ?_; rintro e wh ⟨rfl, rfl⟩; rw [h2]) | (go_at_call 34; refine (hasnode_any _ _).mono ?_; rintro e wh ⟨rfl, rfl⟩; rw [h3]) | (go_at_call 35; refine (hasop_any _ _).mono ?_; rintro e wh ⟨rfl, rfl⟩; rw [h4]) | (go_at_call 37; refine (haspacket_any _ _).mono ?_; rintro e wh ⟨rfl, rfl⟩; rw [h5]))
  refine (rnum_any k s b4 w8 A5.out.2.1 A5.out.1).mono ?_
  rintro e w9 ⟨hO, he⟩
  rcases hq : numP true 0 b4 with x | ⟨t, b5⟩
  · rw [hq] at he
    have HE := Lib.hid (HR3.out.trans (bindP_err hq))
    have HO := Lib.hid (A5.out.2.2.2.2.trans hO)
    obtain ⟨rfl, hM⟩ := he
    have HM := Lib.hid hM
    clear hq hO hM A5
    go_wp2_with fail
    exact ⟨rfl, HO.out, by rw [HE.out]; exact ⟨rfl, HM.out⟩⟩
  rw [hq] at he
  obtain ⟨rfl, hB⟩ := he
  have HR4 := Lib.hid (HR3.out.trans (bindP_ok hq))
  have HB5 := Lib.hid (lt_tail (num_one HB4.out hq) HB4.out)
  have BA6 := Lib.hid (AtT.step HP.out A5.out hO hB)
  clear hq hO hB A5 HR3
  have hk16 := (iv_all BA6.out.2.2.1).2.2.2.2.2.2.2.2
  have hf16 := BA6.out.2.2.1.frozen 16
  have A6 := Lib.hid (show AtT 48 (zI 0).cells.toArray L s k c W.heap.size W (w9.setCell ⟨c, 16, none⟩ (.int .u64 (t : Nat))) _ ({ zI (n : Nat) with ca := (ca : Nat), se := (se : Nat), f := lv l, t := t } : Iv).cells.toArray from at_setT HP.out BA6.out t)
  go_upto_region 11 with (first | (go_at_call 31; refine (hascart_any _ _).mono ?_; rintro e wh ⟨rfl, rfl⟩; rw [h1]) | (go_at_call 33; refine (hasseller_any _ _).mono ?_; rintro e wh ⟨rfl, rfl⟩; rw [h2]) | (go_at_call 34; refine (hasnode_any _ _).mono ?_; rintro e wh ⟨rfl, rfl⟩; rw [h3]) | (go_at_call 35; refine (hasop_any _ _).mono ?_; rintro e wh ⟨rfl, rfl⟩; rw [h4]) | (go_at_call 37; refine (haspacket_any _ _).mono ?_; rintro e wh ⟨rfl, rfl⟩; rw [h5]))
  clear hk16 hf16 BA6
  obtain ⟨w10, hw⟩ : ∃ w10, w10 = w9.setCell ⟨c, 16, none⟩ (.int .u64 (t : Nat)) := ⟨_, rfl⟩
  rw [← hw] at A6 ⊢
  clear hw
  have c0 : World.cell? _ ⟨c, 0, none⟩ = some (.int .i64 ((n : Nat) : Int)) := (iv_all A6.out.2.2.1).2.2.2.2.1
  go_wp2_with (first | (go_at_call 31; refine (hascart_any _ _).mono ?_; rintro e wh ⟨rfl, rfl⟩; rw [h1]) | (go_at_call 33; refine (hasseller_any _ _).mono ?_; rintro e wh ⟨rfl, rfl⟩; rw [h2]) | (go_at_call 34; refine (hasnode_any _ _).mono ?_; rintro e wh ⟨rfl, rfl⟩; rw [h3]) | (go_at_call 35; refine (hasop_any _ _).mono ?_; rintro e wh ⟨rfl, rfl⟩; rw [h4]) | (go_at_call 37; refine (haspacket_any _ _).mono ?_; rintro e wh ⟨rfl, rfl⟩; rw [h5]))
  clear c0
  refine (getop_any k s b5 w10 (by have := A6.out.2.2.1.lt; have := HP.out.cl; omega) A6.out.2.1 A6.out.1 HB5.out).mono ?_
  rintro e w11 ⟨hO, he⟩
  rcases hq : opP b5 with x | ⟨o, b6⟩
  · rw [hq] at he
    have HE := Lib.hid (HR4.out.trans (bindP_err hq))
    have HO := Lib.hid (A6.out.2.2.2.2.trans hO)
    obtain ⟨rfl, hM⟩ := he
    have HM := Lib.hid hM
    clear hq hO hM A6
    go_wp2_with fail
    exact ⟨rfl, HO.out, by rw [HE.out]; exact ⟨rfl, HM.out⟩⟩
  rw [hq] at he
  obtain ⟨rfl, hB⟩ := he
  have HR5 := Lib.hid (HR4.out.trans (bindP_ok hq))
  have BA7 := Lib.hid (AtT.step HP.out A6.out hO hB)
  clear hq hO hB A6 HR4
  have hth := BA7.out.2.2.1.thereT (o := 17) (n := (o.cells).toArray.size) (by rw [List.size_toArray, List.size_toArray, iv_len, op_len]; omega)
  have A7 := Lib.hid (at_setO HP.out BA7.out o)
  go_upto_region 13 with (first | (go_at_call 31; refine (hascart_any _ _).mono ?_; rintro e wh ⟨rfl, rfl⟩; rw [h1]) | (go_at_call 33; refine (hasseller_any _ _).mono ?_; rintro e wh ⟨rfl, rfl⟩; rw [h2]) | (go_at_call 34; refine (hasnode_any _ _).mono ?_; rintro e wh ⟨rfl, rfl⟩; rw [h3]) | (go_at_call 35; refine (hasop_any _ _).mono ?_; rintro e wh ⟨rfl, rfl⟩; rw [h4]) | (go_at_call 37; refine (haspacket_any _ _).mono ?_; rintro e wh ⟨rfl, rfl⟩; rw [h5]) | (refine wpList_store_mid rfl 46 _ _ rfl c 17 (o.cells).toArray rfl rfl hth (oinfoA _) (op_one _) ?_; show wpList _ _ _ _ _ (w11.setCells c 17 (o.cells))))
  clear hth BA7
  obtain ⟨w12, hw⟩ : ∃ w12, w12 = w11.setCells c 17 (o.cells) := ⟨_, rfl⟩
  rw [← hw] at A7 ⊢
  clear hw
  have c0 : World.cell? _ ⟨c, 0, none⟩ = some (.int .i64 ((n : Nat) : Int)) := (iv_all A7.out.2.2.1).2.2.2.2.1
  obtain ⟨mm, hm⟩ : ∃ m : Iv, m = { zI (n : Nat) with ca := (ca : Nat), se := (se : Nat), f := lv l, t := t, o := o } := ⟨_, rfl⟩
  obtain ⟨m, hm2⟩ : ∃ m : Iv, m = { zI (n : Nat) with ca := (ca : Nat), se := (se : Nat), f := lv l, t := t, o := o } := ⟨_, rfl⟩
  have HXO := Lib.hid (show mm.x.Ok w12 by rw [hm]; exact zx_ok _)
  have HMM := Lib.hid (show mm = m.at none 0 by rw [hm, hm2]; rfl)
  rw [← hm] at A7
  rw [← hm2] at HR5
  clear hm hm2
  have rgl := A7.out.2.2.1.range
  have HRE := Lib.hid (show rightI mm = rightI m by rw [HMM.out, rightI_at])
  go_wp2_with (first | (go_at_call 31; refine (hascart_any _ _).mono ?_; rintro e wh ⟨rfl, rfl⟩; rw [h1]) | (go_at_call 33; refine (hasseller_any _ _).mono ?_; rintro e wh ⟨rfl, rfl⟩; rw [h2]) | (go_at_call 34; refine (hasnode_any _ _).mono ?_; rintro e wh ⟨rfl, rfl⟩; rw [h3]) | (go_at_call 35; refine (hasop_any _ _).mono ?_; rintro e wh ⟨rfl, rfl⟩; rw [h4]) | (go_at_call 37; refine (haspacket_any _ _).mono ?_; rintro e wh ⟨rfl, rfl⟩; rw [h5]) | (refine wpList_load_midg (by rfl) 48 _ rfl _ _ rfl (Iv.cells ?_) _ ?_ Tryz.underlying48 rfl (ivinfo _) ?_; rotate_left; (focus assumption)))
  refine (right_any mm w12 HXO.out).mono ?_
  rw [HRE.out]
  rintro e w16 ⟨rfl, hb⟩
  have A17 := Lib.hid (A7.out.next HP.out hb)
  have HX17 := Lib.hid (HXO.out.next hb)
  clear hb A7 rgl HXO
  rcases hq : rightI m with _ | _
  · have HE := Lib.hid (HR5.out.trans (show mkI m b6 = .error 3 by unfold mkI; rw [hq]; rfl))
    clear hq
    go_wp2_with fail
    refine (rmust_not k s b6 w16 A17.out.2.1 A17.out.1).mono ?_
    rintro e w17 ⟨rfl, hM, hO⟩
    have HO := Lib.hid (A17.out.2.2.2.2.trans hO)
    have HM := Lib.hid hM
    clear hM hO A17
    go_wp2_with fail
    exact ⟨rfl, HO.out, by rw [HE.out]; exact ⟨rfl, HM.out⟩⟩
  · have HE := Lib.hid (HR5.out.trans (show mkI m b6 = .ok (m, b6) by unfold mkI; rw [hq]; rfl))
    clear hq
    go_wp2_with fail
    refine (rmust_yes k s b6 w16 A17.out.2.1 A17.out.1).mono ?_
    rintro e w17 ⟨rfl, rfl⟩
    have rgl := A17.out.2.2.1.range
    have bg := A17.out.2.2.2.1
    go_wp2_with (first | (refine wpList_load_midg (by rfl) 48 _ rfl _ _ rfl (Iv.cells ?_) _ ?_ Tryz.underlying48 rfl (ivinfo _) ?_; rotate_left; (focus assumption)) | (refine wpList_store_blk rfl 48 _ _ rfl W.heap.size 48 _ mm.cells.toArray rfl rfl bg (ivinfoA _) (iv_siz _ _) (iv_one mm) ?_; intro hrow))
    refine bodyPost_row (t := 48) mm.cells.toArray rfl rfl rfl Tryz.underlying48 rfl (ivinfoA _) hrow ?_
    have hf : ∀ j, j ≠ W.heap.size → (w16.setRow W.heap.size mm.cells.toArray).heap[j]? = w16.heap[j]? := fun j hj => setRow_other w16 W.heap.size j _ hj
    have hz : (w16.setRow W.heap.size mm.cells.toArray).heap.size = w16.heap.size := by simp
    exact ⟨A17.out.2.2.2.2.turn (Nat.le_refl _) rfl rfl rfl (Nat.le_of_eq hz.symm) hf, by rw [HE.out]; exact ⟨⟨none, 0, by rw [HMM.out], by rw [← HMM.out]; exact pc_far HX17.out A17.out.2.2.2.1 (iv_nou _) hf (Nat.le_of_eq hz.symm), (fun _ _ e => by cases e)⟩, A17.out.1.turn (Nat.le_of_eq hz.symm) hf HP.out.gs HL.out⟩⟩
set_option maxHeartbeats 4000000 in
set_option maxRecDepth 20000 in
theorem inget_any (k s : Nat) (bs : List Nat) (W : World) (hL : L ≤ W.heap.size) (hr : Rdr W k s) (h : RdB L W s bs) (hby : ∀ x ∈ bs, x < 256) (hlen : bs.length ≤ 140737488355328) :
    Calls Tryz.prog 22 #[.pointer (some ⟨k, 0, none⟩)] W fun e W' => EndsX L s W (inP bs) e W' := by
  rcases hq : smallP 6 bs with x | ⟨n, b1⟩
  · obtain ⟨R, hR⟩ : ∃ R, R = inP bs := ⟨_, rfl⟩
    rw [← hR]
    have HE := Lib.hid ((hR.trans (by rw [inP_def])).trans (bindP_err hq))
    have b1' := (Below.refl W.heap.size W).alloc (Nat.le_refl _) (.cells (zI 0).cells.toArray 48)
    rw [zI_cells] at b1'
    have H0 := Lib.hid (And.intro (h.below b1') (And.intro (hr.below b1') (Off.ofBelow (s := s) b1')))
    clear hR b1' h hr hL hby hlen
    go_enter Tryz.func22, Tryz.ntmps22
    go_wp2_with fail
    refine (rsmall_any k s bs 6 _ H0.out.2.1 H0.out.1 (by decide)).mono ?_
    rintro e w1 ⟨hO, he⟩
    rw [hq] at he
    have HO := Lib.hid (H0.out.2.2.trans hO)
    obtain ⟨rfl, hM⟩ := he
    have HM := Lib.hid hM
    clear hq hO hM H0
    go_wp2_with fail
    exact ⟨rfl, HO.out, by rw [HE.out]; exact ⟨rfl, HM.out⟩⟩
  · rcases kd_any (n : Nat) with ⟨_, h1, h2, h3, h4, h5⟩ | ⟨_, h1, h2, h3, h4, h5⟩ | ⟨_, h1, h2, h3, h4, h5⟩ | ⟨_, h1, h2, h3, h4, h5⟩ | ⟨_, h1, h2, h3, h4, h5⟩ | ⟨_, h1, h2, h3, h4, h5⟩
    · exact get_ord k s bs W hL hr h hby hlen n b1 hq h1 h2 h3 h4 h5
    · exact get_sel k s bs W hL hr h hby hlen n b1 hq h1 h2 h3 h4 h5
    · exact get_joi k s bs W hL hr h hby hlen n b1 hq h1 h2 h3 h4 h5
    · exact get_chk k s bs W hL hr h hby hlen n b1 hq h1 h2 h3 h4 h5
    · exact get_pac k s bs W hL hr h hby hlen n b1 hq h1 h2 h3 h4 h5
    · exact get_no k s bs W hL hr h hby hlen n b1 hq h1 h2 h3 h4 h5
end In
end Go.Proofs.YtgnfachjobohoaaGreat
