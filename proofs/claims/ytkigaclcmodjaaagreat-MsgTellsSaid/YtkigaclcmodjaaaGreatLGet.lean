/-
label.Get.
label.Read: the function that it hands on.
label.Read.
-/
import Derived.Test.YtkigaclcmodjaaaGreatLPut
namespace Go.Proofs.YtkigaclcmodjaaaGreat
open Go.RowKit

def setL (cs : Array Value) : Nat → List Value → Array Value
  | _, [] => cs
  | o, v :: r => setL (cs.setIfInBounds o v) (o + 1) r
theorem setL_app : ∀ (vs A pre : List Value), A.length = vs.length → setL (pre ++ A).toArray pre.length vs = (pre ++ vs).toArray
  | [], A, pre, h => by
    obtain rfl : A = [] := List.length_eq_zero_iff.1 h
    rfl
  | v :: r, [], pre, h => by cases h
  | v :: r, a :: A, pre, h => by
    have h2 : (pre ++ a :: A).toArray.setIfInBounds pre.length v = (pre ++ [v] ++ A).toArray := by simp
    have ih := setL_app r A (pre ++ [v]) (by simpa using h)
    rw [List.length_append] at ih
    show setL ((pre ++ a :: A).toArray.setIfInBounds pre.length v) (pre.length + 1) r = _
    rw [h2]
    exact ih.trans (by simp)

/-- Five cells, and a vector of noughts. -/
def zc (a b c d e : Value) : Array Value := #[a, b, c, d, e, .int .u32 0, .int .u32 0, .int .u32 0, .int .u32 0, .int .u32 0, .int .u32 0, .int .u32 0, .int .u32 0, .int .u32 0, .int .u32 0, .int .u32 0, .int .u32 0]
theorem zc_vec (t n : Nat) (nd ca se : Int) (f : Nat → Nat) : setL (zc (.int .u64 (t : Nat)) (.int .i64 nd) (.int .u32 (n : Nat)) (.int .i64 ca) (.int .i64 se)) 5 (vl f) = (Lab.mk t nd n ca se f).cells.toArray := by
  refine (setL_app (vl f) [.int .u32 0, .int .u32 0, .int .u32 0, .int .u32 0, .int .u32 0, .int .u32 0, .int .u32 0, .int .u32 0, .int .u32 0, .int .u32 0, .int .u32 0, .int .u32 0] [.int .u64 (t : Nat), .int .i64 nd, .int .u32 (n : Nat), .int .i64 ca, .int .i64 se] (by rw [vl_len]; rfl)).trans ?_
  unfold Lab.cells; rfl
theorem Blk.there {w : World} {g : Nat} {t : TypeId} {cs : Array Value} (h : Blk w g t cs) {o n : Nat} (hn : o + n ≤ cs.size) : w.there g o n := fun j hj => ⟨by rw [h.cell, Array.getElem?_eq_getElem (by omega)]; rfl, h.frozen _⟩

/-- Where what lies. -/
structure Pl (L s k c g n : Nat) : Prop where
  (cs : c ≠ s) (ck : c ≠ k) (cl : L ≤ c) (cg : c ≠ g) (gs : g ≠ s) (nc : n ≤ c)
/-- In the middle of a read of a label. -/
def At (L s k c g : Nat) (W W' : World) (t : List Nat) (cs : Array Value) : Prop :=
  RdB L W' s t ∧ Rdr W' k s ∧ Blk W' c 27 cs ∧ Blk W' g 27 #[.int .u64 0, .int .i64 0, .int .u32 0, .int .i64 0, .int .i64 0, .int .u32 0, .int .u32 0, .int .u32 0, .int .u32 0, .int .u32 0, .int .u32 0, .int .u32 0, .int .u32 0, .int .u32 0, .int .u32 0, .int .u32 0, .int .u32 0] ∧ Off s W W'
section
variable {L s k c g : Nat} {W W' W'' : World} {t t' : List Nat} {cs : Array Value}
theorem At.set (p : Pl L s k c g W.heap.size) (h : At L s k c g W W' t cs) (j : Nat) (u : Value) : At L s k c g W (W'.setCell ⟨c, j, none⟩ u) t (cs.setIfInBounds j u) :=
  ⟨h.1.far p.cs p.cl, h.2.1.far p.ck, h.2.2.1.setCell j u, h.2.2.2.1.far (Ne.symm p.cg) u, h.2.2.2.2.far p.nc j u⟩
theorem At.sets (p : Pl L s k c g W.heap.size) : ∀ (vs : List Value) (j : Nat) (W' : World) (cs : Array Value), At L s k c g W W' t cs → At L s k c g W (W'.setCells c j vs) t (setL cs j vs)
  | [], _, _, _, h => h
  | v :: r, j, _, _, h => At.sets p r (j + 1) _ _ (h.set p j v)
theorem At.step (p : Pl L s k c g W.heap.size) (h : At L s k c g W W' t cs) (hO : Off s W' W'') (hB : RdB L W'' s t') : At L s k c g W W'' t' cs :=
  ⟨hB, h.2.1.off hO, hO.blk h.2.2.1 p.cs, hO.blk h.2.2.2.1 p.gs, h.2.2.2.2.trans hO⟩
theorem At.next (p : Pl L s k c g W.heap.size) (h : At L s k c g W W' t cs) (hb : Below W'.heap.size W' W'') : At L s k c g W W'' t cs := h.step p (Off.ofBelow hb) (h.1.below hb)
end

/-- The label that bytes begin with. -/
def mkP (l : Lab) (t : List Nat) : Except Int (Lab × List Nat) := if rightL l then .ok (l, t) else .error 3
def labP : List Nat → Except Int (Lab × List Nat) :=
  bindP (smallP 1099511627776) fun t => bindP (smallP 12) fun nd => bindP (smallP 1048576) fun n => bindP (smallP 12) fun ca => bindP (smallP 12) fun se => bindP vectorP fun l => mkP (Lab.mk t (nd : Nat) n (ca : Nat) (se : Nat) (lv l))
attribute [irreducible] labP
theorem labP_def : labP = bindP (smallP 1099511627776) fun t => bindP (smallP 12) fun nd => bindP (smallP 1048576) fun n => bindP (smallP 12) fun ca => bindP (smallP 12) fun se => bindP vectorP fun l => mkP (Lab.mk t (nd : Nat) n (ca : Nat) (se : Nat) (lv l)) := by
  unfold labP; rfl
theorem lab_one (l : Lab) : l.cells.toArray.all (·.oneCell') = true := by
  refine all_oneCell_toArray fun v hv => ?_
  unfold Lab.cells at hv
  rcases List.mem_append.1 hv with h | h
  · simp at h; rcases h with rfl | rfl | rfl | rfl | rfl <;> rfl
  · exact vl_one _ v h

theorem lab_siz (l : Lab) : (#[.int .u64 0, .int .i64 0, .int .u32 0, .int .i64 0, .int .i64 0, .int .u32 0, .int .u32 0, .int .u32 0, .int .u32 0, .int .u32 0, .int .u32 0, .int .u32 0, .int .u32 0, .int .u32 0, .int .u32 0, .int .u32 0, .int .u32 0] : Array Value).size = l.cells.toArray.size := show 17 = l.cells.toArray.size by rw [List.size_toArray, lab_len]
variable {L : Nat}
set_option maxRecDepth 20000 in
set_option maxHeartbeats 8000000 in
theorem lget_any (k s : Nat) (bs : List Nat) (W : World) (hL : L ≤ W.heap.size) (hr : Rdr W k s) (h : RdB L W s bs) :
    Calls Tryz.prog 67 #[.pointer (some ⟨k, 0, none⟩)] W fun e W' => EndsV L s W (fun l : Lab => .agg l.cells.toArray) (labP bs) e W' := by
  obtain ⟨R, hR⟩ : ∃ R, R = labP bs := ⟨_, rfl⟩
  rw [← hR]
  have HR0 := Lib.hid (hR.trans (by rw [labP_def]))
  clear hR
  have p : Pl L s k (W.heap.size + 1) W.heap.size W.heap.size := ⟨by have := h.lt; omega, by have := hr.lt; omega, by omega, by omega, by have := h.lt; omega, by omega⟩
  have b1 := (Below.refl W.heap.size W).alloc (Nat.le_refl _) (.cells #[.int .u64 0, .int .i64 0, .int .u32 0, .int .i64 0, .int .i64 0, .int .u32 0, .int .u32 0, .int .u32 0, .int .u32 0, .int .u32 0, .int .u32 0, .int .u32 0, .int .u32 0, .int .u32 0, .int .u32 0, .int .u32 0, .int .u32 0] 27)
  have hsz : (W.alloc (.cells #[.int .u64 0, .int .i64 0, .int .u32 0, .int .i64 0, .int .i64 0, .int .u32 0, .int .u32 0, .int .u32 0, .int .u32 0, .int .u32 0, .int .u32 0, .int .u32 0, .int .u32 0, .int .u32 0, .int .u32 0, .int .u32 0, .int .u32 0] 27)).heap.size = W.heap.size + 1 := by simp
  have b2 := b1.alloc (by rw [hsz]; omega) (.cells #[.int .u64 0, .int .i64 0, .int .u32 0, .int .i64 0, .int .i64 0, .int .u32 0, .int .u32 0, .int .u32 0, .int .u32 0, .int .u32 0, .int .u32 0, .int .u32 0, .int .u32 0, .int .u32 0, .int .u32 0, .int .u32 0, .int .u32 0] 27)
  have hg := (Blk.new W 27 #[.int .u64 0, .int .i64 0, .int .u32 0, .int .i64 0, .int .i64 0, .int .u32 0, .int .u32 0, .int .u32 0, .int .u32 0, .int .u32 0, .int .u32 0, .int .u32 0, .int .u32 0, .int .u32 0, .int .u32 0, .int .u32 0, .int .u32 0]).alloc (.cells #[.int .u64 0, .int .i64 0, .int .u32 0, .int .i64 0, .int .i64 0, .int .u32 0, .int .u32 0, .int .u32 0, .int .u32 0, .int .u32 0, .int .u32 0, .int .u32 0, .int .u32 0, .int .u32 0, .int .u32 0, .int .u32 0, .int .u32 0] 27)
  have hc := Blk.new (W.alloc (.cells #[.int .u64 0, .int .i64 0, .int .u32 0, .int .i64 0, .int .i64 0, .int .u32 0, .int .u32 0, .int .u32 0, .int .u32 0, .int .u32 0, .int .u32 0, .int .u32 0, .int .u32 0, .int .u32 0, .int .u32 0, .int .u32 0, .int .u32 0] 27)) 27 #[.int .u64 0, .int .i64 0, .int .u32 0, .int .i64 0, .int .i64 0, .int .u32 0, .int .u32 0, .int .u32 0, .int .u32 0, .int .u32 0, .int .u32 0, .int .u32 0, .int .u32 0, .int .u32 0, .int .u32 0, .int .u32 0, .int .u32 0]
  rw [hsz] at hc
  have A0 := Lib.hid (show At L s k (W.heap.size + 1) W.heap.size W ((W.alloc (.cells #[.int .u64 0, .int .i64 0, .int .u32 0, .int .i64 0, .int .i64 0, .int .u32 0, .int .u32 0, .int .u32 0, .int .u32 0, .int .u32 0, .int .u32 0, .int .u32 0, .int .u32 0, .int .u32 0, .int .u32 0, .int .u32 0, .int .u32 0] 27)).alloc (.cells #[.int .u64 0, .int .i64 0, .int .u32 0, .int .i64 0, .int .i64 0, .int .u32 0, .int .u32 0, .int .u32 0, .int .u32 0, .int .u32 0, .int .u32 0, .int .u32 0, .int .u32 0, .int .u32 0, .int .u32 0, .int .u32 0, .int .u32 0] 27)) bs (zc (.int .u64 0) (.int .i64 0) (.int .u32 0) (.int .i64 0) (.int .i64 0)) from ⟨h.below b2, hr.below b2, hc, hg, Off.ofBelow b2⟩)
  have HL := Lib.hid hL
  clear b1 b2 hg hc hr h hsz hL
  go_enter Tryz.func67, Tryz.ntmps67
  go_wp2_with fail
  refine (rsmall_any k s bs 1099511627776 _ A0.out.2.1 A0.out.1 (by decide)).mono ?_
  rintro e w0 ⟨hO, he⟩
  rcases hq : smallP 1099511627776 bs with x | ⟨v1, b1⟩
  · rw [hq] at he
    have HE := Lib.hid (HR0.out.trans (bindP_err hq))
    have HO := Lib.hid (A0.out.2.2.2.2.trans hO)
    obtain ⟨rfl, hM⟩ := he
    have HM := Lib.hid hM
    clear hq hO hM A0
    go_wp2_with fail
    exact ⟨rfl, HO.out, by rw [HE.out]; exact ⟨rfl, HM.out⟩⟩
  rw [hq] at he
  obtain ⟨rfl, hB⟩ := he
  have hv1 := Lib.hid (small_ok hq).2
  have HR1 := Lib.hid (HR0.out.trans (bindP_ok hq))
  have B1 := Lib.hid (At.step p A0.out hO hB)
  clear hq hO hB A0
  have k0 : w0.cell? ⟨W.heap.size + 1, 0, none⟩ = some (.int .u64 0) := B1.out.2.2.1.cell 0
  have z0 := B1.out.2.2.1.frozen 0
  have e1 : IntKind.u64.wrap ((v1 : Nat) : Int) = (v1 : Nat) := by have := hv1.out; rw [IntKind.wrap_u64]; omega
  have A1 := Lib.hid (show At L s k (W.heap.size + 1) W.heap.size W _ b1 (zc (.int .u64 (v1 : Nat)) (.int .i64 0) (.int .u32 0) (.int .i64 0) (.int .i64 0)) from B1.out.set p 0 (.int .u64 (v1 : Nat)))
  clear B1
  go_wp2_with fail
  clear k0 z0 e1
  refine (rsmall_any k s b1 12 _ A1.out.2.1 A1.out.1 (by decide)).mono ?_
  rintro e w1 ⟨hO, he⟩
  rcases hq : smallP 12 b1 with x | ⟨v2, b2⟩
  · rw [hq] at he
    have HE := Lib.hid (HR1.out.trans (bindP_err hq))
    have HO := Lib.hid (A1.out.2.2.2.2.trans hO)
    obtain ⟨rfl, hM⟩ := he
    have HM := Lib.hid hM
    clear hq hO hM A1
    go_wp2_with fail
    exact ⟨rfl, HO.out, by rw [HE.out]; exact ⟨rfl, HM.out⟩⟩
  rw [hq] at he
  obtain ⟨rfl, hB⟩ := he
  have hv2 := Lib.hid (small_ok hq).2
  have HR2 := Lib.hid (HR1.out.trans (bindP_ok hq))
  have B2 := Lib.hid (At.step p A1.out hO hB)
  clear hq hO hB A1
  have k0 : w1.cell? ⟨W.heap.size + 1, 1, none⟩ = some (.int .i64 0) := B2.out.2.2.1.cell 1
  have z0 := B2.out.2.2.1.frozen 1
  have A2 := Lib.hid (show At L s k (W.heap.size + 1) W.heap.size W _ b2 (zc (.int .u64 (v1 : Nat)) (.int .i64 (v2 : Nat)) (.int .u32 0) (.int .i64 0) (.int .i64 0)) from B2.out.set p 1 (.int .i64 (v2 : Nat)))
  clear B2
  go_wp2_with fail
  clear k0 z0
  refine (rsmall_any k s b2 1048576 _ A2.out.2.1 A2.out.1 (by decide)).mono ?_
  rintro e w2 ⟨hO, he⟩
  rcases hq : smallP 1048576 b2 with x | ⟨v3, b3⟩
  · rw [hq] at he
    have HE := Lib.hid (HR2.out.trans (bindP_err hq))
    have HO := Lib.hid (A2.out.2.2.2.2.trans hO)
    obtain ⟨rfl, hM⟩ := he
    have HM := Lib.hid hM
    clear hq hO hM A2
    go_wp2_with fail
    exact ⟨rfl, HO.out, by rw [HE.out]; exact ⟨rfl, HM.out⟩⟩
  rw [hq] at he
  obtain ⟨rfl, hB⟩ := he
  have hv3 := Lib.hid (small_ok hq).2
  have HR3 := Lib.hid (HR2.out.trans (bindP_ok hq))
  have B3 := Lib.hid (At.step p A2.out hO hB)
  clear hq hO hB A2
  have k0 : w2.cell? ⟨W.heap.size + 1, 2, none⟩ = some (.int .u32 0) := B3.out.2.2.1.cell 2
  have z0 := B3.out.2.2.1.frozen 2
  have e3 : IntKind.u32.wrap ((v3 : Nat) : Int) = (v3 : Nat) := by have := hv3.out; rw [IntKind.wrap_u32]; omega
  have A3 := Lib.hid (show At L s k (W.heap.size + 1) W.heap.size W _ b3 (zc (.int .u64 (v1 : Nat)) (.int .i64 (v2 : Nat)) (.int .u32 (v3 : Nat)) (.int .i64 0) (.int .i64 0)) from B3.out.set p 2 (.int .u32 (v3 : Nat)))
  clear B3
  go_wp2_with fail
  clear k0 z0 e3
  refine (rsmall_any k s b3 12 _ A3.out.2.1 A3.out.1 (by decide)).mono ?_
  rintro e w3 ⟨hO, he⟩
  rcases hq : smallP 12 b3 with x | ⟨v4, b4⟩
  · rw [hq] at he
    have HE := Lib.hid (HR3.out.trans (bindP_err hq))
    have HO := Lib.hid (A3.out.2.2.2.2.trans hO)
    obtain ⟨rfl, hM⟩ := he
    have HM := Lib.hid hM
    clear hq hO hM A3
    go_wp2_with fail
    exact ⟨rfl, HO.out, by rw [HE.out]; exact ⟨rfl, HM.out⟩⟩
  rw [hq] at he
  obtain ⟨rfl, hB⟩ := he
  have hv4 := Lib.hid (small_ok hq).2
  have HR4 := Lib.hid (HR3.out.trans (bindP_ok hq))
  have B4 := Lib.hid (At.step p A3.out hO hB)
  clear hq hO hB A3
  have k0 : w3.cell? ⟨W.heap.size + 1, 3, none⟩ = some (.int .i64 0) := B4.out.2.2.1.cell 3
  have z0 := B4.out.2.2.1.frozen 3
  have A4 := Lib.hid (show At L s k (W.heap.size + 1) W.heap.size W _ b4 (zc (.int .u64 (v1 : Nat)) (.int .i64 (v2 : Nat)) (.int .u32 (v3 : Nat)) (.int .i64 (v4 : Nat)) (.int .i64 0)) from B4.out.set p 3 (.int .i64 (v4 : Nat)))
  clear B4
  go_wp2_with fail
  clear k0 z0
  refine (rsmall_any k s b4 12 _ A4.out.2.1 A4.out.1 (by decide)).mono ?_
  rintro e w4 ⟨hO, he⟩
  rcases hq : smallP 12 b4 with x | ⟨v5, b5⟩
  · rw [hq] at he
    have HE := Lib.hid (HR4.out.trans (bindP_err hq))
    have HO := Lib.hid (A4.out.2.2.2.2.trans hO)
    obtain ⟨rfl, hM⟩ := he
    have HM := Lib.hid hM
    clear hq hO hM A4
    go_wp2_with fail
    exact ⟨rfl, HO.out, by rw [HE.out]; exact ⟨rfl, HM.out⟩⟩
  rw [hq] at he
  obtain ⟨rfl, hB⟩ := he
  have hv5 := Lib.hid (small_ok hq).2
  have HR5 := Lib.hid (HR4.out.trans (bindP_ok hq))
  have B5 := Lib.hid (At.step p A4.out hO hB)
  clear hq hO hB A4
  have k0 : w4.cell? ⟨W.heap.size + 1, 4, none⟩ = some (.int .i64 0) := B5.out.2.2.1.cell 4
  have z0 := B5.out.2.2.1.frozen 4
  have A5 := Lib.hid (show At L s k (W.heap.size + 1) W.heap.size W _ b5 (zc (.int .u64 (v1 : Nat)) (.int .i64 (v2 : Nat)) (.int .u32 (v3 : Nat)) (.int .i64 (v4 : Nat)) (.int .i64 (v5 : Nat))) from B5.out.set p 4 (.int .i64 (v5 : Nat)))
  clear B5
  go_wp2_with fail
  clear k0 z0
  refine (rvector_any k s b5 _ (Nat.le_trans p.cl (Nat.le_of_lt A5.out.2.2.1.lt)) A5.out.2.1 A5.out.1).mono ?_
  rintro e w5 ⟨hO, he⟩
  rcases hq : vectorP b5 with x | ⟨l6, b6⟩
  · rw [hq] at he
    have HE := Lib.hid (HR5.out.trans (bindP_err hq))
    have HO := Lib.hid (A5.out.2.2.2.2.trans hO)
    obtain ⟨rfl, hM⟩ := he
    have HM := Lib.hid hM
    clear hq hO hM A5
    go_wp2_with fail
    exact ⟨rfl, HO.out, by rw [HE.out]; exact ⟨rfl, HM.out⟩⟩
  rw [hq] at he
  obtain ⟨rfl, hB⟩ := he
  have HR6 := Lib.hid (HR5.out.trans (bindP_ok hq))
  have B6 := Lib.hid (At.step p A5.out hO hB)
  clear hq hO hB A5
  have ht := B6.out.2.2.1.there (o := 5) (n := (vl (lv l6)).toArray.size) (by rw [vl_size]; exact Nat.le_refl 17)
  have A6 := Lib.hid (At.sets p (vl (lv l6)) 5 _ _ B6.out)
  rw [zc_vec] at A6
  obtain ⟨l, hl⟩ : ∃ l, l = Lab.mk v1 (v2 : Nat) v3 (v4 : Nat) (v5 : Nat) (lv l6) := ⟨_, rfl⟩
  rw [← hl] at A6 HR6
  have rgl := A6.out.2.2.1.range
  clear B6 hl HR0 HR1 HR2 HR3 HR4 HR5
  go_wp2_with (first | (refine wpList_load_mid rfl 27 _ rfl _ _ rfl (Lab.cells ?_) _ ?_ Tryz.underlying27 rfl (linfo _) ?_; rotate_left; (focus assumption)) | (refine wpList_store_mid rfl 25 _ _ rfl (W.heap.size + 1) 5 (vl (lv l6)).toArray rfl rfl ht (vinfo _) (vl_all _) ?_))
  obtain ⟨W6, h6⟩ : ∃ W6, W6 = w5.setCells (W.heap.size + 1) 5 (vl (lv l6)) := ⟨_, rfl⟩
  rw [← h6] at A6 ⊢
  clear rgl h6 ht
  refine (lright_any l W6).mono ?_
  rintro e w6 ⟨rfl, hb⟩
  have A7 := Lib.hid (A6.out.next p hb)
  clear hb A6
  rcases hq : rightL l with _ | _
  · have HE := Lib.hid (HR6.out.trans (show mkP l b6 = .error 3 by unfold mkP; rw [hq]; rfl))
    clear hq
    go_wp2_with fail
    refine (rmust_not k s b6 w6 A7.out.2.1 A7.out.1).mono ?_
    rintro e w7 ⟨rfl, hM, hO⟩
    have HO := Lib.hid (A7.out.2.2.2.2.trans hO)
    have HM := Lib.hid hM
    clear hM hO A7
    go_wp2_with fail
    exact ⟨rfl, HO.out, by rw [HE.out]; exact ⟨rfl, HM.out⟩⟩
  · have HE := Lib.hid (HR6.out.trans (show mkP l b6 = .ok (l, b6) by unfold mkP; rw [hq]; rfl))
    clear hq
    go_wp2_with fail
    refine (rmust_yes k s b6 w6 A7.out.2.1 A7.out.1).mono ?_
    rintro e w7 ⟨rfl, rfl⟩
    have rgl := A7.out.2.2.1.range
    have bg := A7.out.2.2.2.1
    go_wp2_with (first | (refine wpList_load_mid rfl 27 _ rfl _ _ rfl (Lab.cells ?_) _ ?_ Tryz.underlying27 rfl (linfo _) ?_; rotate_left; (focus assumption)) | (refine wpList_store_blk rfl 27 _ _ rfl W.heap.size 27 _ l.cells.toArray rfl rfl bg (linfoA _) (lab_siz l) (lab_one l) ?_; intro hrow))
    refine bodyPost_row (t := 27) l.cells.toArray rfl rfl rfl Tryz.underlying27 rfl (linfoA _) hrow ?_
    have hf : ∀ j, j ≠ W.heap.size → (w6.setRow W.heap.size l.cells.toArray).heap[j]? = w6.heap[j]? := fun j hj => setRow_other w6 W.heap.size j _ hj
    have hz : (w6.setRow W.heap.size l.cells.toArray).heap.size = w6.heap.size := by simp
    exact ⟨A7.out.2.2.2.2.turn (Nat.le_refl _) rfl rfl rfl (Nat.le_of_eq hz.symm) hf, by rw [HE.out]; exact ⟨rfl, A7.out.1.turn (Nat.le_of_eq hz.symm) hf p.gs HL.out⟩⟩
end Go.Proofs.YtkigaclcmodjaaaGreat
namespace Go.Proofs.YtkigaclcmodjaaaGreat
open Go.RowKit

theorem numP_err : ∀ (bs : List Nat) (b : Bool) (n : Nat) (x : Int), numP b n bs = .error x → x ≠ 0
  | [], b, n, x, h => by unfold numP at h; cases h; decide
  | y :: t, b, n, x, h => by
    unfold numP at h
    split at h
    · cases h; decide
    · split at h
      · cases h; decide
      · split at h
        · cases h
        · exact numP_err t _ _ x h
theorem smallP_ne {most : Int} {bs : List Nat} {x : Int} (h : smallP most bs = .error x) : x ≠ 0 := by
  unfold smallP at h
  split at h
  · split at h
    · cases h
    · cases h; decide
  · rename_i y hy
    cases h
    exact numP_err _ _ _ _ hy
theorem bindP_ne {α β : Type} {P : List Nat → Except Int (α × List Nat)} {Q : α → List Nat → Except Int (β × List Nat)} (hP : ∀ bs x, P bs = .error x → x ≠ 0) (hQ : ∀ a bs x, Q a bs = .error x → x ≠ 0) (bs : List Nat) (x : Int) (h : bindP P Q bs = .error x) : x ≠ 0 := by
  unfold bindP at h
  split at h
  · exact hQ _ _ _ h
  · rename_i y hy; cases h; exact hP _ _ hy
theorem vecP_ne : ∀ (n : Nat) (acc t : List Nat) (x : Int), vecP acc n t = .error x → x ≠ 0 := by
  intro n
  induction n with
  | zero => intro acc t x h; unfold vecP at h; cases h
  | succ n ih =>
    intro acc t x h
    unfold vecP at h
    split at h
    · split at h
      · split at h
        · exact ih _ _ _ h
        · cases h; decide
      · cases h; decide
    · rename_i y hy; cases h; exact numP_err _ _ _ _ hy
theorem vectorP_ne (bs : List Nat) (x : Int) (h : vectorP bs = .error x) : x ≠ 0 := by
  unfold vectorP at h
  split at h
  · exact vecP_ne _ _ _ _ h
  · rename_i y hy; cases h; exact smallP_ne hy
theorem labP_ne (bs : List Nat) (x : Int) (h : labP bs = .error x) : x ≠ 0 := by
  rw [labP_def] at h
  refine bindP_ne (fun _ _ => smallP_ne) (fun t => ?_) bs x h
  refine bindP_ne (fun _ _ => smallP_ne) (fun nd => ?_)
  refine bindP_ne (fun _ _ => smallP_ne) (fun n => ?_)
  refine bindP_ne (fun _ _ => smallP_ne) (fun ca => ?_)
  refine bindP_ne (fun _ _ => smallP_ne) (fun se => ?_)
  refine bindP_ne vectorP_ne (fun l bs x h => ?_)
  unfold mkP at h
  split at h
  · cases h
  · cases h; decide
variable {L : Nat}
end Go.Proofs.YtkigaclcmodjaaaGreat
namespace Go.Proofs.YtkigaclcmodjaaaGreat
open Go.RowKit

theorem results_row2 {P : Program} {fn : Func} {p q : Tmp} {ty : TypeId} (h : fn.results = #[.cell p ty, .tmp q]) (tmps : Array Value) (w : World) (g : Nat) (t : TypeId) (cs : List Value) (d : TypeDesc)
    (hp : tmps.getD p undef = .pointer (some ⟨g, 0, none⟩)) (hg : Blk w g t cs.toArray)
    (hu : P.underlying ty = some d) (hd : d.isRow = true) (hi : (P.info? ty).map (·.size) = some cs.length) :
    (results fn tmps).run P w = .ok (.tuple #[.agg cs.toArray, tmps.getD q undef]) w := by
  have hl := run_loadVar_mid (P := P) w g 0 ty cs d hg.range hu hd hi
  have hp' : tmps[p]?.getD undef = .pointer (some ⟨g, 0, none⟩) := by simpa using hp
  simp [results, h, hp', asAddr, hl]

theorem bodyPost_row2 {P : Program} {fn : Func} {R : Ending → World → Prop} {a : Act} {p q : Tmp} {ty : TypeId} {w : World} {g : Nat} {t : TypeId} (cs : List Value) (v : Value) {d : TypeDesc} (h : fn.results = #[.cell p ty, .tmp q]) (ha : a.defers = [])
    (hp : a.tmps.getD p undef = .pointer (some ⟨g, 0, none⟩)) (hv : a.tmps.getD q undef = v)
    (hu : P.underlying ty = some d) (hd : d.isRow = true) (hi : (P.info? ty).map (·.size) = some cs.length) (hg : Blk w g t cs.toArray)
    (hR : R (.returned (.tuple #[.agg cs.toArray, v])) w) : bodyPost P fn R .ret a w := by
  subst hv
  exact bodyPost_ret (results_row2 h _ w g t cs d hp hg hu hd hi) ha hR

/-- Two boxes of noughts. -/
def twoZ (W : World) : World := (W.alloc (.cells #[.int .u64 0, .int .i64 0, .int .u32 0, .int .i64 0, .int .i64 0, .int .u32 0, .int .u32 0, .int .u32 0, .int .u32 0, .int .u32 0, .int .u32 0, .int .u32 0, .int .u32 0, .int .u32 0, .int .u32 0, .int .u32 0, .int .u32 0] 27)).alloc (.cells #[.int .u64 0, .int .i64 0, .int .u32 0, .int .i64 0, .int .i64 0, .int .u32 0, .int .u32 0, .int .u32 0, .int .u32 0, .int .u32 0, .int .u32 0, .int .u32 0, .int .u32 0, .int .u32 0, .int .u32 0, .int .u32 0, .int .u32 0] 27)
theorem twoZ_size (W : World) : (twoZ W).heap.size = W.heap.size + 2 := by simp [twoZ]
theorem twoZ_below (W : World) : Below W.heap.size W (twoZ W) := ((Below.refl _ W).alloc (Nat.le_refl _) _).alloc (by simp) _

/-- What a label's read leaves. -/
def LRead (bs : List Nat) (W : World) (r : Except Int (List Nat)) (W' : World) : Prop :=
  (match labP bs with | .ok (l, t) => r = .ok t ∧ Blk W' (W.heap.size + 1) 27 l.cells.toArray | .error x => r = .error x) ∧ Blk W' W.heap.size 27 #[.int .u64 0, .int .i64 0, .int .u32 0, .int .i64 0, .int .i64 0, .int .u32 0, .int .u32 0, .int .u32 0, .int .u32 0, .int .u32 0, .int .u32 0, .int .u32 0, .int .u32 0, .int .u32 0, .int .u32 0, .int .u32 0, .int .u32 0] ∧ Below W.heap.size W W'

theorem zlab_sz : (Tryz.prog.info? 27).map (·.size) = some (#[.int .u64 0, .int .i64 0, .int .u32 0, .int .i64 0, .int .i64 0, .int .u32 0, .int .u32 0, .int .u32 0, .int .u32 0, .int .u32 0, .int .u32 0, .int .u32 0, .int .u32 0, .int .u32 0, .int .u32 0, .int .u32 0, .int .u32 0] : Array Value).size := by kernel_rfl
theorem zlab_one : (#[.int .u64 0, .int .i64 0, .int .u32 0, .int .i64 0, .int .i64 0, .int .u32 0, .int .u32 0, .int .u32 0, .int .u32 0, .int .u32 0, .int .u32 0, .int .u32 0, .int .u32 0, .int .u32 0, .int .u32 0, .int .u32 0, .int .u32 0] : Array Value).all (·.oneCell') = true := by simp [Value.oneCell']
theorem zlab_info : (Tryz.prog.info? 27).map (·.size) = some (List.length [.int .u64 0, .int .i64 0, .int .u32 0, .int .i64 0, .int .i64 0, .int .u32 0, .int .u32 0, .int .u32 0, .int .u32 0, .int .u32 0, .int .u32 0, .int .u32 0, .int .u32 0, .int .u32 0, .int .u32 0, .int .u32 0, (.int .u32 0 : Value)]) := by kernel_rfl

section
variable (A : Option Addr) (n cp : Nat) (W : World) (bs : List Nat) (hn : bs.length = n) (hnc : n ≤ cp)
    (hbs : bs = [] ∨ ∃ b p, A = some ⟨b, p, none⟩ ∧ b < W.heap.size ∧ ∀ (i x : Nat), bs[i]? = some x → W.cell? ⟨b, p + i, none⟩ = some (.int .u8 (x : Nat)))
include hn hnc hbs
end
end Go.Proofs.YtkigaclcmodjaaaGreat
