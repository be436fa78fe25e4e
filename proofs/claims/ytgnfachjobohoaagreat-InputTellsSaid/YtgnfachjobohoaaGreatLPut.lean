/-
label.Put.
label.Write.
label.Get.
label.Read: the function that it hands on.
label.Read.
Fixed labels.
Labels there and back: what is written is read as it was, a beginning of it is none; what is read is what would be written.
The fixed calls of layer 5: all hold.
Labels that came in.
Labels: their order, their pasts.
-/
import Derived.Test.YtgnfachjobohoaaGreatLab
import Derived.Test.YtgnfachjobohoaaGreatOpens
import Derived.Test.YtgnfachjobohoaaGreatCalls4
namespace Go.Proofs.YtgnfachjobohoaaGreat
open Go.RowKit

/-- A box that no write touches. -/
def Boxd (W : World) (bx g : Nat) (cs : Array Value) : Prop := Blk W bx 87 cs ∧ bx ≠ g ∧ some bx ≠ rowOf W g
theorem Boxd.wrote {W W' : World} {B bx g : Nat} {cs : Array Value} (h : Boxd W bx g cs) (k : Wrote B g W W') : Boxd W' bx g cs :=
  ⟨(k.2.1 bx h.1.lt h.2.1 h.2.2).trans h.1, h.2.1, fun e => (k.2.2 bx e.symm).elim (fun e' => h.2.2 e'.symm) (fun e' => by have := h.1.lt; omega)⟩
theorem Boxd.drew {W : World} {bx g : Nat} {cs : Array Value} (h : Boxd W bx g cs) : Boxd W.drew bx g cs := h
theorem Wrote.drew {B g : Nat} {W W' : World} (h : Wrote B g W W') : Wrote B g W W'.drew := ⟨h.1.drew, h.2.1, h.2.2⟩
def encL (l : Lab) : List Nat := enc l.t ++ enc l.nd.toNat ++ enc l.n ++ enc l.ca.toNat ++ enc l.se.toNat ++ encV l.f

end Go.Proofs.YtgnfachjobohoaaGreat
namespace Go.Proofs.YtgnfachjobohoaaGreat
open Go.RowKit

/-- What a label that may be is. -/
theorem lab_nats {l : Lab} (h : rightL l = true) : ∃ nd ca se : Nat, l = Lab.mk l.t (nd : Nat) l.n (ca : Nat) (se : Nat) l.f ∧ 1 ≤ nd ∧ nd ≤ 12 ∧ 1 ≤ ca ∧ ca ≤ 12 ∧ se ≤ 12 ∧ 1 ≤ l.t ∧ l.t ≤ 1099511627776 ∧ l.n ≤ 1048576 := by
  unfold rightL timeB placeB nextB nodeB at h
  simp only [Bool.and_eq_true, decide_eq_true_eq] at h
  obtain ⟨⟨⟨⟨h1, h2⟩, ⟨⟨h3, h4⟩, h5⟩, h6⟩, ⟨⟨h7, h8⟩, h9⟩, h10⟩, h11⟩ := h
  obtain ⟨t, nd, n, ca, se, f⟩ := l
  obtain ⟨nd, rfl⟩ := Int.eq_ofNat_of_zero_le (show 0 ≤ nd by dsimp only at h7; omega)
  obtain ⟨ca, rfl⟩ := Int.eq_ofNat_of_zero_le (show 0 ≤ ca by dsimp only at h3; omega)
  obtain ⟨se, rfl⟩ := Int.eq_ofNat_of_zero_le (show 0 ≤ se by dsimp only at h5; omega)
  dsimp only at *
  exact ⟨nd, ca, se, rfl, by omega, by omega, by omega, by omega, by omega, h1, h2, by omega⟩
theorem encL_len {l : Lab} (hr : rightL l = true) (hf : ∀ i, l.f i < 4294967296) : (encL l).length ≤ 200 := by
  obtain ⟨nd, ca, se, hl, h1, h2, h3, h4, h5, h6, h7, h8⟩ := lab_nats hr
  have e1 := enc_len l.t (by omega)
  have e2 := enc_len nd (by omega)
  have e3 := enc_len l.n (by omega)
  have e4 := enc_len ca (by omega)
  have e5 := enc_len se (by omega)
  have e6 := encV_len l.f hf
  rw [hl]
  show (enc l.t ++ enc nd ++ enc l.n ++ enc ca ++ enc se ++ encV l.f).length ≤ 200
  simp only [List.length_append]
  omega

section
variable (l : Lab) (W : World)
end
end Go.Proofs.YtgnfachjobohoaaGreat
namespace Go.Proofs.YtgnfachjobohoaaGreat
open Go.RowKit

def setL (cs : Array Value) : Nat → List Value → Array Value
  | _, [] => cs
  | o, v :: r => setL (cs.setIfInBounds o v) (o + 1) r
theorem setL_app : ∀ (vs A pre : List Value), A.length = vs.length → setL (pre ++ A).toArray pre.length vs = (pre ++ vs).toArray
  | [], A, pre, h => by
    obtain rfl : A = [] := List.length_eq_zero_iff.1 h
    rfl
  | v :: r, [], pre, h => by cases h
  | v :: r, a :: A, pre, h => by
    have h2 : (pre ++ a :: A).toArray.setIfInBounds pre.length v = (pre ++ [v] ++ A).toArray := by simp
    have ih := setL_app r A (pre ++ [v]) (by simpa using h)
    rw [List.length_append] at ih
    show setL ((pre ++ a :: A).toArray.setIfInBounds pre.length v) (pre.length + 1) r = _
    rw [h2]
    exact ih.trans (by simp)

/-- Five cells, and a vector of noughts. -/
def zc (a b c d e : Value) : Array Value := #[a, b, c, d, e, .int .u32 0, .int .u32 0, .int .u32 0, .int .u32 0, .int .u32 0, .int .u32 0, .int .u32 0, .int .u32 0, .int .u32 0, .int .u32 0, .int .u32 0, .int .u32 0]
theorem zc_vec (t n : Nat) (nd ca se : Int) (f : Nat → Nat) : setL (zc (.int .u64 (t : Nat)) (.int .i64 nd) (.int .u32 (n : Nat)) (.int .i64 ca) (.int .i64 se)) 5 (vl f) = (Lab.mk t nd n ca se f).cells.toArray := by
  refine (setL_app (vl f) [.int .u32 0, .int .u32 0, .int .u32 0, .int .u32 0, .int .u32 0, .int .u32 0, .int .u32 0, .int .u32 0, .int .u32 0, .int .u32 0, .int .u32 0, .int .u32 0] [.int .u64 (t : Nat), .int .i64 nd, .int .u32 (n : Nat), .int .i64 ca, .int .i64 se] (by rw [vl_len]; rfl)).trans ?_
  unfold Lab.cells; rfl
theorem Blk.there {w : World} {g : Nat} {t : TypeId} {cs : Array Value} (h : Blk w g t cs) {o n : Nat} (hn : o + n ≤ cs.size) : w.there g o n := fun j hj => ⟨by rw [h.cell, Array.getElem?_eq_getElem (by omega)]; rfl, h.frozen _⟩

/-- Where what lies. -/
structure Pl (L s k c g n : Nat) : Prop where
  (cs : c ≠ s) (ck : c ≠ k) (cl : L ≤ c) (cg : c ≠ g) (gs : g ≠ s) (nc : n ≤ c)
/-- In the middle of a read of a label. -/
def At (L s k c g : Nat) (W W' : World) (t : List Nat) (cs : Array Value) : Prop :=
  RdB L W' s t ∧ Rdr W' k s ∧ Blk W' c 87 cs ∧ Blk W' g 87 #[.int .u64 0, .int .i64 0, .int .u32 0, .int .i64 0, .int .i64 0, .int .u32 0, .int .u32 0, .int .u32 0, .int .u32 0, .int .u32 0, .int .u32 0, .int .u32 0, .int .u32 0, .int .u32 0, .int .u32 0, .int .u32 0, .int .u32 0] ∧ Off s W W'
section
variable {L s k c g : Nat} {W W' W'' : World} {t t' : List Nat} {cs : Array Value}
theorem At.set (p : Pl L s k c g W.heap.size) (h : At L s k c g W W' t cs) (j : Nat) (u : Value) : At L s k c g W (W'.setCell ⟨c, j, none⟩ u) t (cs.setIfInBounds j u) :=
  ⟨h.1.far p.cs p.cl, h.2.1.far p.ck, h.2.2.1.setCell j u, h.2.2.2.1.far (Ne.symm p.cg) u, h.2.2.2.2.far p.nc j u⟩
theorem At.sets (p : Pl L s k c g W.heap.size) : ∀ (vs : List Value) (j : Nat) (W' : World) (cs : Array Value), At L s k c g W W' t cs → At L s k c g W (W'.setCells c j vs) t (setL cs j vs)
  | [], _, _, _, h => h
  | v :: r, j, _, _, h => At.sets p r (j + 1) _ _ (h.set p j v)
theorem At.step (p : Pl L s k c g W.heap.size) (h : At L s k c g W W' t cs) (hO : Off s W' W'') (hB : RdB L W'' s t') : At L s k c g W W'' t' cs :=
  ⟨hB, h.2.1.off hO, hO.blk h.2.2.1 p.cs, hO.blk h.2.2.2.1 p.gs, h.2.2.2.2.trans hO⟩
theorem At.next (p : Pl L s k c g W.heap.size) (h : At L s k c g W W' t cs) (hb : Below W'.heap.size W' W'') : At L s k c g W W'' t cs := h.step p (Off.ofBelow hb) (h.1.below hb)
end

/-- The label that bytes begin with. -/
def mkP (l : Lab) (t : List Nat) : Except Int (Lab × List Nat) := if rightL l then .ok (l, t) else .error 3
def labP : List Nat → Except Int (Lab × List Nat) :=
  bindP (smallP 1099511627776) fun t => bindP (smallP 12) fun nd => bindP (smallP 1048576) fun n => bindP (smallP 12) fun ca => bindP (smallP 12) fun se => bindP vectorP fun l => mkP (Lab.mk t (nd : Nat) n (ca : Nat) (se : Nat) (lv l))
attribute [irreducible] labP
theorem labP_def : labP = bindP (smallP 1099511627776) fun t => bindP (smallP 12) fun nd => bindP (smallP 1048576) fun n => bindP (smallP 12) fun ca => bindP (smallP 12) fun se => bindP vectorP fun l => mkP (Lab.mk t (nd : Nat) n (ca : Nat) (se : Nat) (lv l)) := by
  unfold labP; rfl
theorem lab_one (l : Lab) : l.cells.toArray.all (·.oneCell') = true := by
  refine all_oneCell_toArray fun v hv => ?_
  unfold Lab.cells at hv
  rcases List.mem_append.1 hv with h | h
  · simp at h; rcases h with rfl | rfl | rfl | rfl | rfl <;> rfl
  · exact vl_one _ v h

theorem lab_siz (l : Lab) : (#[.int .u64 0, .int .i64 0, .int .u32 0, .int .i64 0, .int .i64 0, .int .u32 0, .int .u32 0, .int .u32 0, .int .u32 0, .int .u32 0, .int .u32 0, .int .u32 0, .int .u32 0, .int .u32 0, .int .u32 0, .int .u32 0, .int .u32 0] : Array Value).size = l.cells.toArray.size := show 17 = l.cells.toArray.size by rw [List.size_toArray, lab_len]
variable {L : Nat}
end Go.Proofs.YtgnfachjobohoaaGreat
namespace Go.Proofs.YtgnfachjobohoaaGreat
open Go.RowKit

theorem numP_err : ∀ (bs : List Nat) (b : Bool) (n : Nat) (x : Int), numP b n bs = .error x → x ≠ 0
  | [], b, n, x, h => by unfold numP at h; cases h; decide
  | y :: t, b, n, x, h => by
    unfold numP at h
    split at h
    · cases h; decide
    · split at h
      · cases h; decide
      · split at h
        · cases h
        · exact numP_err t _ _ x h
theorem smallP_ne {most : Int} {bs : List Nat} {x : Int} (h : smallP most bs = .error x) : x ≠ 0 := by
  unfold smallP at h
  split at h
  · split at h
    · cases h
    · cases h; decide
  · rename_i y hy
    cases h
    exact numP_err _ _ _ _ hy
theorem bindP_ne {α β : Type} {P : List Nat → Except Int (α × List Nat)} {Q : α → List Nat → Except Int (β × List Nat)} (hP : ∀ bs x, P bs = .error x → x ≠ 0) (hQ : ∀ a bs x, Q a bs = .error x → x ≠ 0) (bs : List Nat) (x : Int) (h : bindP P Q bs = .error x) : x ≠ 0 := by
  unfold bindP at h
  split at h
  · exact hQ _ _ _ h
  · rename_i y hy; cases h; exact hP _ _ hy
theorem vecP_ne : ∀ (n : Nat) (acc t : List Nat) (x : Int), vecP acc n t = .error x → x ≠ 0 := by
  intro n
  induction n with
  | zero => intro acc t x h; unfold vecP at h; cases h
  | succ n ih =>
    intro acc t x h
    unfold vecP at h
    split at h
    · split at h
      · split at h
        · exact ih _ _ _ h
        · cases h; decide
      · cases h; decide
    · rename_i y hy; cases h; exact numP_err _ _ _ _ hy
theorem vectorP_ne (bs : List Nat) (x : Int) (h : vectorP bs = .error x) : x ≠ 0 := by
  unfold vectorP at h
  split at h
  · exact vecP_ne _ _ _ _ h
  · rename_i y hy; cases h; exact smallP_ne hy
theorem labP_ne (bs : List Nat) (x : Int) (h : labP bs = .error x) : x ≠ 0 := by
  rw [labP_def] at h
  refine bindP_ne (fun _ _ => smallP_ne) (fun t => ?_) bs x h
  refine bindP_ne (fun _ _ => smallP_ne) (fun nd => ?_)
  refine bindP_ne (fun _ _ => smallP_ne) (fun n => ?_)
  refine bindP_ne (fun _ _ => smallP_ne) (fun ca => ?_)
  refine bindP_ne (fun _ _ => smallP_ne) (fun se => ?_)
  refine bindP_ne vectorP_ne (fun l bs x h => ?_)
  unfold mkP at h
  split at h
  · cases h
  · cases h; decide
variable {L : Nat}
end Go.Proofs.YtgnfachjobohoaaGreat
namespace Go.Proofs.YtgnfachjobohoaaGreat
open Go.RowKit

theorem results_row2 {P : Program} {fn : Func} {p q : Tmp} {ty : TypeId} (h : fn.results = #[.cell p ty, .tmp q]) (tmps : Array Value) (w : World) (g : Nat) (t : TypeId) (cs : List Value) (d : TypeDesc)
    (hp : tmps.getD p undef = .pointer (some ⟨g, 0, none⟩)) (hg : Blk w g t cs.toArray)
    (hu : P.underlying ty = some d) (hd : d.isRow = true) (hi : (P.info? ty).map (·.size) = some cs.length) :
    (results fn tmps).run P w = .ok (.tuple #[.agg cs.toArray, tmps.getD q undef]) w := by
  have hl := run_loadVar_mid (P := P) w g 0 ty cs d hg.range hu hd hi
  have hp' : tmps[p]?.getD undef = .pointer (some ⟨g, 0, none⟩) := by simpa using hp
  simp [results, h, hp', asAddr, hl]

theorem bodyPost_row2 {P : Program} {fn : Func} {R : Ending → World → Prop} {a : Act} {p q : Tmp} {ty : TypeId} {w : World} {g : Nat} {t : TypeId} (cs : List Value) (v : Value) {d : TypeDesc} (h : fn.results = #[.cell p ty, .tmp q]) (ha : a.defers = [])
    (hp : a.tmps.getD p undef = .pointer (some ⟨g, 0, none⟩)) (hv : a.tmps.getD q undef = v)
    (hu : P.underlying ty = some d) (hd : d.isRow = true) (hi : (P.info? ty).map (·.size) = some cs.length) (hg : Blk w g t cs.toArray)
    (hR : R (.returned (.tuple #[.agg cs.toArray, v])) w) : bodyPost P fn R .ret a w := by
  subst hv
  exact bodyPost_ret (results_row2 h _ w g t cs d hp hg hu hd hi) ha hR

/-- Two boxes of noughts. -/
def twoZ (W : World) : World := (W.alloc (.cells #[.int .u64 0, .int .i64 0, .int .u32 0, .int .i64 0, .int .i64 0, .int .u32 0, .int .u32 0, .int .u32 0, .int .u32 0, .int .u32 0, .int .u32 0, .int .u32 0, .int .u32 0, .int .u32 0, .int .u32 0, .int .u32 0, .int .u32 0] 87)).alloc (.cells #[.int .u64 0, .int .i64 0, .int .u32 0, .int .i64 0, .int .i64 0, .int .u32 0, .int .u32 0, .int .u32 0, .int .u32 0, .int .u32 0, .int .u32 0, .int .u32 0, .int .u32 0, .int .u32 0, .int .u32 0, .int .u32 0, .int .u32 0] 87)
theorem twoZ_size (W : World) : (twoZ W).heap.size = W.heap.size + 2 := by simp [twoZ]
theorem twoZ_below (W : World) : Below W.heap.size W (twoZ W) := ((Below.refl _ W).alloc (Nat.le_refl _) _).alloc (by simp) _

/-- What a label's read leaves. -/
def LRead (bs : List Nat) (W : World) (r : Except Int (List Nat)) (W' : World) : Prop :=
  (match labP bs with | .ok (l, t) => r = .ok t ∧ Blk W' (W.heap.size + 1) 87 l.cells.toArray | .error x => r = .error x) ∧ Blk W' W.heap.size 87 #[.int .u64 0, .int .i64 0, .int .u32 0, .int .i64 0, .int .i64 0, .int .u32 0, .int .u32 0, .int .u32 0, .int .u32 0, .int .u32 0, .int .u32 0, .int .u32 0, .int .u32 0, .int .u32 0, .int .u32 0, .int .u32 0, .int .u32 0] ∧ Below W.heap.size W W'

theorem zlab_sz : (Tryz.prog.info? 87).map (·.size) = some (#[.int .u64 0, .int .i64 0, .int .u32 0, .int .i64 0, .int .i64 0, .int .u32 0, .int .u32 0, .int .u32 0, .int .u32 0, .int .u32 0, .int .u32 0, .int .u32 0, .int .u32 0, .int .u32 0, .int .u32 0, .int .u32 0, .int .u32 0] : Array Value).size := by kernel_rfl
theorem zlab_one : (#[.int .u64 0, .int .i64 0, .int .u32 0, .int .i64 0, .int .i64 0, .int .u32 0, .int .u32 0, .int .u32 0, .int .u32 0, .int .u32 0, .int .u32 0, .int .u32 0, .int .u32 0, .int .u32 0, .int .u32 0, .int .u32 0, .int .u32 0] : Array Value).all (·.oneCell') = true := by simp [Value.oneCell']
theorem zlab_info : (Tryz.prog.info? 87).map (·.size) = some (List.length [.int .u64 0, .int .i64 0, .int .u32 0, .int .i64 0, .int .i64 0, .int .u32 0, .int .u32 0, .int .u32 0, .int .u32 0, .int .u32 0, .int .u32 0, .int .u32 0, .int .u32 0, .int .u32 0, .int .u32 0, .int .u32 0, (.int .u32 0 : Value)]) := by kernel_rfl

section
variable (A : Option Addr) (n cp : Nat) (W : World) (bs : List Nat) (hn : bs.length = n) (hnc : n ≤ cp)
    (hbs : bs = [] ∨ ∃ b p, A = some ⟨b, p, none⟩ ∧ b < W.heap.size ∧ ∀ (i x : Nat), bs[i]? = some x → W.cell? ⟨b, p + i, none⟩ = some (.int .u8 (x : Nat)))
include hn hnc hbs
end
end Go.Proofs.YtgnfachjobohoaaGreat
namespace Go.Proofs.YtgnfachjobohoaaGreat
open Go.RowKit

def aL : Lab := Lab.mk 3 2 1 1 4 (fun _ => 0)
def bL : Lab := Lab.mk 4 1 2 1 0 (lv [1, 1])
def cL : Lab := Lab.mk 3 2 2 1 0 (fun _ => 0)
theorem aL_right : rightL aL = true := by unfold rightL timeB placeB nextB getN nodeB aL; decide
theorem bL_right : rightL bL = true := by unfold rightL timeB placeB nextB getN nodeB bL; decide
theorem cL_right : rightL cL = false := by unfold rightL timeB placeB nextB getN nodeB cL; decide
theorem enc_lo {n : Nat} (h : n < 128) : enc n = [n] := by
  unfold enc
  rw [show n / 128 = 0 by omega, encHi_zero, Nat.mod_eq_of_lt h]; rfl
theorem bL_enc : encL bL = [4, 1, 2, 1, 0, 2, 1, 1] := by
  have h1 : topV (lv [1, 1]) 12 = 2 := by decide
  have h2 : trimV (lv [1, 1]) = [1, 1] := by unfold trimV; rw [h1]; rfl
  show enc 4 ++ enc 1 ++ enc 2 ++ enc 1 ++ enc 0 ++ (enc (topV (lv [1, 1]) 12) ++ encs (trimV (lv [1, 1]))) = _
  rw [h1, h2, enc_lo (by decide), enc_lo (by decide), enc_lo (by decide), enc_lo (by decide)]
  have h3 : encs [1, 1] = [1, 1] := by unfold encs; simp [enc_lo]
  rw [h3]; rfl
theorem bL_read : labP [4, 1, 2, 1, 0, 2, 1, 1] = .ok (bL, []) := by
  have h : mkP bL [] = .ok (bL, []) := by unfold mkP; rw [if_pos bL_right]
  rw [labP_def]
  exact h
theorem abef : befB aL bL = true := by unfold befB hasB rightB getN nodeB aL bL; decide
theorem bbef : befB bL aL = false := by unfold befB hasB rightB getN nodeB aL bL; decide
theorem aless : lessB aL bL = true := by unfold lessB; decide
theorem apast : vl (pastF aL) = vl (lv [0, 1]) := vl_ext fun i hi => by
  unfold pastF withF rightB nodeB aL
  have : i = 0 ∨ i = 1 ∨ i = 2 ∨ i = 3 ∨ i = 4 ∨ i = 5 ∨ i = 6 ∨ i = 7 ∨ i = 8 ∨ i = 9 ∨ i = 10 ∨ i = 11 := by omega
  rcases this with rfl | rfl | rfl | rfl | rfl | rfl | rfl | rfl | rfl | rfl | rfl | rfl <;> decide
theorem eqL_self (l : Lab) : eqL l l = true := by unfold eqL; simp [eqB_self]
theorem aL_cells : aL.cells.toArray = #[.int .u64 3, .int .i64 2, .int .u32 1, .int .i64 1, .int .i64 4, .int .u32 0, .int .u32 0, .int .u32 0, .int .u32 0, .int .u32 0, .int .u32 0, .int .u32 0, .int .u32 0, .int .u32 0, .int .u32 0, .int .u32 0, .int .u32 0] := by
  unfold Lab.cells vl aL; rfl
theorem bL_cells : bL.cells.toArray = #[.int .u64 4, .int .i64 1, .int .u32 2, .int .i64 1, .int .i64 0, .int .u32 1, .int .u32 1, .int .u32 0, .int .u32 0, .int .u32 0, .int .u32 0, .int .u32 0, .int .u32 0, .int .u32 0, .int .u32 0, .int .u32 0, .int .u32 0] := by
  unfold Lab.cells vl bL; rfl
theorem cL_cells : cL.cells.toArray = #[.int .u64 3, .int .i64 2, .int .u32 2, .int .i64 1, .int .i64 0, .int .u32 0, .int .u32 0, .int .u32 0, .int .u32 0, .int .u32 0, .int .u32 0, .int .u32 0, .int .u32 0, .int .u32 0, .int .u32 0, .int .u32 0, .int .u32 0] := by
  unfold Lab.cells vl cL; rfl
theorem vl01 : (vl (lv [0, 1])).toArray = #[.int .u32 0, .int .u32 1, .int .u32 0, .int .u32 0, .int .u32 0, .int .u32 0, .int .u32 0, .int .u32 0, .int .u32 0, .int .u32 0, .int .u32 0, .int .u32 0] := by
  unfold vl; rfl
attribute [irreducible] aL bL cL
end Go.Proofs.YtgnfachjobohoaaGreat
namespace Go.Proofs.YtgnfachjobohoaaGreat

theorem bindP_inv {α β : Type} {P : List Nat → Except Int (α × List Nat)} {Q : α → List Nat → Except Int (β × List Nat)} {bs t : List Nat} {y : β} (h : bindP P Q bs = .ok (y, t)) : ∃ x u, P bs = .ok (x, u) ∧ Q x u = .ok (y, t) := by
  unfold bindP at h
  split at h
  · rename_i x u hq; exact ⟨x, u, hq, h⟩
  · cases h
theorem maxK_ext {f g : Nat → Nat} : ∀ k, (∀ i, i ≤ k → f i = g i) → maxK f k = maxK g k
  | 0, h => h 0 (Nat.le_refl _)
  | k + 1, h => by unfold maxK; rw [maxK_ext k (fun i hi => h i (by omega)), h (k + 1) (Nat.le_refl _)]
theorem getN_ext {f g : Nat → Nat} (h : ∀ i, i < 12 → f i = g i) (n : Int) : getN f n = getN g n := by
  unfold getN nodeB
  split
  · rename_i hn
    simp only [Bool.and_eq_true, decide_eq_true_eq] at hn
    exact h _ (by omega)
  · rfl
theorem topV_ext {f g : Nat → Nat} : ∀ k, (∀ i, i < k → f i = g i) → topV f k = topV g k
  | 0, _ => rfl
  | k + 1, h => by unfold topV; rw [topV_ext k (fun i hi => h i (by omega)), h k (by omega)]
theorem trimV_ext {f g : Nat → Nat} (h : ∀ i, i < 12 → f i = g i) : trimV f = trimV g := by
  unfold trimV
  rw [topV_ext 12 h]
  apply List.map_congr_left
  intro i hi
  have := List.mem_range.1 hi
  have := topV_le g 12
  exact h i (by omega)
/-- The same label, but for what is beyond its vector. -/
theorem lab_same {l m : Lab} (h1 : l.t = m.t) (h2 : l.nd = m.nd) (h3 : l.n = m.n) (h4 : l.ca = m.ca) (h5 : l.se = m.se) (h : ∀ i, i < 12 → l.f i = m.f i) : rightL l = rightL m ∧ encL l = encL m ∧ l.cells = m.cells := by
  obtain ⟨t, nd, n, ca, se, f⟩ := l
  obtain ⟨t', nd', n', ca', se', g⟩ := m
  dsimp only at *
  subst h1 h2 h3 h4 h5
  refine ⟨?_, ?_, ?_⟩
  · unfold rightL nextB
    dsimp only
    rw [getN_ext h, maxK_ext 11 (fun i hi => h i (by omega))]
  · unfold encL encV
    dsimp only
    rw [topV_ext 12 h, trimV_ext h]
  · unfold Lab.cells
    dsimp only
    rw [vl_ext h]
/-- As a label is read. -/
def asRead (l : Lab) : Lab := Lab.mk l.t l.nd l.n l.ca l.se (lv (trimV l.f))
theorem asRead_same (l : Lab) : rightL (asRead l) = rightL l ∧ encL (asRead l) = encL l ∧ (asRead l).cells = l.cells := lab_same rfl rfl rfl rfl rfl (lv_trim l.f)
theorem lab_back {l : Lab} (hr : rightL l = true) (hf : ∀ i, l.f i < 4294967296) : Back labP (encL l) (asRead l) := by
  obtain ⟨nd, ca, se, hl, h1, h2, h3, h4, h5, h6, h7, h8⟩ := lab_nats hr
  have hr' := (asRead_same l).1.trans hr
  have hm : Back (mkP (asRead l)) [] (asRead l) := ⟨fun t => by unfold mkP; rw [if_pos hr']; rfl, fun k hk => by simp at hk⟩
  have e1 : asRead l = Lab.mk l.t (nd : Nat) l.n (ca : Nat) (se : Nat) (lv (trimV l.f)) := by unfold asRead; rw [hl]
  rw [e1] at hm ⊢
  have e2 : encL l = enc l.t ++ (enc nd ++ (enc l.n ++ (enc ca ++ (enc se ++ (encV l.f ++ []))))) := by
    rw [hl]; unfold encL; simp [List.append_assoc]
  rw [e2, labP_def]
  exact (small_back _ _ (by omega) (by omega)).bind ((small_back _ _ (by omega) (by omega)).bind ((small_back _ _ (by omega) (by omega)).bind ((small_back _ _ (by omega) (by omega)).bind ((small_back _ _ (by omega) (by omega)).bind ((vector_back _ hf).bind hm)))))
theorem lab_ok {bs t : List Nat} {l : Lab} (hb : ∀ x ∈ bs, x < 256) (h : labP bs = .ok (l, t)) : bs = encL l ++ t ∧ rightL l = true ∧ (∀ i, l.f i < 4294967296) ∧ asRead l = l := by
  rw [labP_def] at h
  obtain ⟨v1, b1, q1, h⟩ := bindP_inv h
  obtain ⟨v2, b2, q2, h⟩ := bindP_inv h
  obtain ⟨v3, b3, q3, h⟩ := bindP_inv h
  obtain ⟨v4, b4, q4, h⟩ := bindP_inv h
  obtain ⟨v5, b5, q5, h⟩ := bindP_inv h
  obtain ⟨v6, b6, q6, h⟩ := bindP_inv h
  unfold mkP at h
  split at h
  · rename_i hr
    cases h
    have e1 := small_one hb q1
    have hb1 : ∀ x ∈ b1, x < 256 := fun x hx => hb x (by rw [e1]; simp [hx])
    have e2 := small_one hb1 q2
    have hb2 : ∀ x ∈ b2, x < 256 := fun x hx => hb1 x (by rw [e2]; simp [hx])
    have e3 := small_one hb2 q3
    have hb3 : ∀ x ∈ b3, x < 256 := fun x hx => hb2 x (by rw [e3]; simp [hx])
    have e4 := small_one hb3 q4
    have hb4 : ∀ x ∈ b4, x < 256 := fun x hx => hb3 x (by rw [e4]; simp [hx])
    have e5 := small_one hb4 q5
    have hb5 : ∀ x ∈ b5, x < 256 := fun x hx => hb4 x (by rw [e5]; simp [hx])
    obtain ⟨e6, e7, e8, e9⟩ := vector_one hb5 q6
    refine ⟨?_, hr, e8, ?_⟩
    · unfold encL
      dsimp only
      rw [e1, e2, e3, e4, e5, e6]
      simp [List.append_assoc]
    · unfold asRead
      dsimp only
      rw [e9]
  · cases h
/-- A proper beginning of a label's bytes is none. -/
theorem lab_cut {l : Lab} (hr : rightL l = true) (hf : ∀ i, l.f i < 4294967296) {k : Nat} (hk : k < (encL l).length) : ∀ m, labP ((encL l).take k) ≠ .ok (m, []) := fun m h => by
  rw [(lab_back hr hf).2 k hk] at h; cases h
theorem lab_yes {l : Lab} (hr : rightL l = true) (hf : ∀ i, l.f i < 4294967296) : labP (encL l) = .ok (asRead l, []) := by
  have := (lab_back hr hf).1 []
  rwa [List.append_nil] at this
end Go.Proofs.YtgnfachjobohoaaGreat
namespace Go.Proofs.YtgnfachjobohoaaGreat
open Go.RowKit

theorem bL_lt : ∀ i, bL.f i < 4294967296 := by
  intro i
  unfold bL lv
  match i with
  | 0 => simp
  | 1 => simp
  | i + 2 => simp

/-- Two boxes of fixed labels. -/
def fixB (W : World) : World := ((((W.alloc (.cells #[.int .u64 0, .int .i64 0, .int .u32 0, .int .i64 0, .int .i64 0, .int .u32 0, .int .u32 0, .int .u32 0, .int .u32 0, .int .u32 0, .int .u32 0, .int .u32 0, .int .u32 0, .int .u32 0, .int .u32 0, .int .u32 0, .int .u32 0] 87)).setRow W.heap.size aL.cells.toArray).alloc (.cells #[.int .u64 0, .int .i64 0, .int .u32 0, .int .i64 0, .int .i64 0, .int .u32 0, .int .u32 0, .int .u32 0, .int .u32 0, .int .u32 0, .int .u32 0, .int .u32 0, .int .u32 0, .int .u32 0, .int .u32 0, .int .u32 0, .int .u32 0] 87)).setRow (W.heap.size + 1) bL.cells.toArray)
theorem fixB_size (W : World) : (fixB W).heap.size = W.heap.size + 2 := by simp [fixB]
theorem fixB_below (W : World) : Below W.heap.size W (fixB W) :=
  below_setRow ((below_setRow ((Below.refl _ W).alloc (Nat.le_refl _) _) (Nat.le_refl _) _).alloc (by simp) _) (by omega) _
theorem fixB_a (W : World) : Blk (fixB W) W.heap.size 87 aL.cells.toArray :=
  (((Blk.new W _ _).setRow _).alloc _).farRow (by omega) _
theorem fixB_b (W : World) : Blk (fixB W) (W.heap.size + 1) 87 bL.cells.toArray :=
  (Blk.new' (by simp)).setRow _
attribute [irreducible] fixB

end Go.Proofs.YtgnfachjobohoaaGreat
namespace Go.Proofs.YtgnfachjobohoaaGreat
open Go.ChangeShapes Go.WideShapes Go.ChangeAt Go.RowKit

structure Lab.Ok (l : Lab) : Prop where
  t : l.t < 18446744073709551616
  n : l.n < 4294967296
  nd1 : -9223372036854775808 ≤ l.nd
  nd2 : l.nd ≤ 9223372036854775807
  ca1 : -9223372036854775808 ≤ l.ca
  ca2 : l.ca ≤ 9223372036854775807
  se1 : -9223372036854775808 ≤ l.se
  se2 : l.se ≤ 9223372036854775807
  f : ∀ i, l.f i < 4294967296

section
variable {H : Type} {enc : TypeId × Value → H} {w : World}
theorem cells_lab : Tryz.prog.cellsOf 87 = 17 := by kernel_rfl
theorem cells_u64 : Tryz.prog.cellsOf 25 = 1 := by kernel_rfl
theorem cells_int : Tryz.prog.cellsOf 3 = 1 := by kernel_rfl
theorem bound_u32 {n : Int} (h : (Lit.int .u32 n).wf = true) : ∃ m : Nat, n = (m : Nat) ∧ m < 4294967296 := by
  have hb := bounds_u32 h
  exact ⟨n.toNat, by omega, by omega⟩

set_option maxRecDepth 100000 in
theorem open_lab_cells {base fuel : Nat} {sp : Nat → Bool} {hd : Bool} {cs : List Value} {x : DataW H × List MemPlace} (h : DataW.trod enc Tryz.prog w base sp hd fuel 87 cs = some x) : ∃ l : Lab, cs = l.cells ∧ l.Ok := by
  obtain ⟨xs, m, _, hx, hcl, hlen, hg⟩ := DataW.trod_struct Tryz.underlying87 h
  rw [cells_lab] at hcl
  have g0 : DataW.trod enc Tryz.prog w base sp hd m 25 ((cs.drop 0).take (Tryz.prog.cellsOf 25)) = xs[0]? := hg 0 _ rfl
  have g1 : DataW.trod enc Tryz.prog w base sp hd m 3 ((cs.drop 1).take (Tryz.prog.cellsOf 3)) = xs[1]? := hg 1 _ rfl
  have g2 : DataW.trod enc Tryz.prog w base sp hd m 22 ((cs.drop 2).take (Tryz.prog.cellsOf 22)) = xs[2]? := hg 2 _ rfl
  have g3 : DataW.trod enc Tryz.prog w base sp hd m 3 ((cs.drop 3).take (Tryz.prog.cellsOf 3)) = xs[3]? := hg 3 _ rfl
  have g4 : DataW.trod enc Tryz.prog w base sp hd m 3 ((cs.drop 4).take (Tryz.prog.cellsOf 3)) = xs[4]? := hg 4 _ rfl
  have g5 : DataW.trod enc Tryz.prog w base sp hd m 24 ((cs.drop 5).take (Tryz.prog.cellsOf 24)) = xs[5]? := hg 5 _ rfl
  have hlen6 : xs.length = 6 := hlen
  clear hg hlen
  rw [cells_int] at g1 g3 g4
  rw [cells_u64] at g0
  rw [cells_u32] at g2
  rw [cells_vec] at g5
  rw [List.getElem?_eq_getElem (by omega)] at g0 g1 g2 g3 g4 g5
  obtain ⟨t, e0, _, w0⟩ := DataW.trod_int Tryz.underlying25 g0
  obtain ⟨nd, e1, _, w1⟩ := DataW.trod_int Tryz.underlying3 g1
  obtain ⟨n, e2, _, w2⟩ := DataW.trod_int Tryz.underlying22 g2
  obtain ⟨ca, e3, _, w3⟩ := DataW.trod_int Tryz.underlying3 g3
  obtain ⟨se, e4, _, w4⟩ := DataW.trod_int Tryz.underlying3 g4
  obtain ⟨f, e5, hf⟩ := vec_trod g5
  have b1 := bounds_i64 w1
  have b3 := bounds_i64 w3
  have b4 := bounds_i64 w4
  obtain ⟨t', rfl, b0⟩ := bound_u64 w0
  obtain ⟨n', rfl, b2⟩ := bound_u32 w2
  refine ⟨⟨t', nd, n', ca, se, f⟩, ?_, ⟨b0, b2, b1.1, b1.2, b3.1, b3.2, b4.1, b4.2, hf⟩⟩
  rw [six_cells hcl e0 e1 e2 e3 e4 e5]
  unfold Lab.cells; rfl
theorem okWide_struct {P : Program} {w : World} {r : Reach} {base : Nat} {t : TypeId} {fs : Array Field} {v : Value} (ht : P.underlying t = some (.struct fs)) (h : Value.okWide P w r base t v) : ∃ cs, v = .agg cs ∧ cs.size = P.cellsOf t := by
  simp only [Value.okWide, ht] at h
  obtain ⟨cs, h1, h2, _⟩ := h
  exact ⟨cs, h1, h2⟩
set_option maxRecDepth 100000 in
theorem open_lab {r : Reach} {b0 base : Nat} {sp : Nat → Bool} {hd : Bool} {v : Value} {d : DataW H} {p : List MemPlace} (hv : Value.okWide Tryz.prog w r b0 87 v) (h : DataW.Trod enc Tryz.prog w base sp hd 87 v d p) :
    ∃ l : Lab, v = .agg l.cells.toArray ∧ l.Ok := by
  obtain ⟨cs, rfl, _⟩ := okWide_struct Tryz.underlying87 hv
  obtain ⟨fuel, hf⟩ := h
  obtain ⟨l, e, hok⟩ := open_lab_cells hf
  exact ⟨l, by rw [← e]; rfl, hok⟩
end
end Go.Proofs.YtgnfachjobohoaaGreat
namespace Go.Proofs.YtgnfachjobohoaaGreat

/-- A label that may be: its node, and what its Deps tell of it. -/
theorem right_node {l : Lab} (h : rightL l = true) : ∃ k : Nat, k < 12 ∧ l.nd = (k : Int) + 1 ∧ l.f k < 1048576 ∧ l.n = l.f k + 1 := by
  unfold rightL nextB at h
  simp only [Bool.and_eq_true, decide_eq_true_eq] at h
  obtain ⟨⟨_, ⟨h1, h2⟩, h3⟩, _⟩ := h
  obtain ⟨k, hk, hn⟩ := node_of h1
  have hg : getN l.f l.nd = l.f k := by unfold getN; rw [if_pos h1, hn]; congr 1; omega
  rw [hg] at h2 h3
  exact ⟨k, hk, hn, h2, h3⟩
theorem past_at {l : Lab} (h : rightL l = true) : ∃ k : Nat, k < 12 ∧ l.nd = (k : Int) + 1 ∧ l.f k < 1048576 ∧ l.n = l.f k + 1 ∧ ∀ i, pastF l i = if i = k then l.n else l.f i := by
  obtain ⟨k, hk, h1, h2, h3⟩ := right_node h
  refine ⟨k, hk, h1, h2, h3, fun i => ?_⟩
  unfold pastF
  rw [h1, h3]
  exact withF_at hk h2 i
theorem past_order {l : Lab} (h : rightL l = true) : ordI (pastF l) l.f = 1 := by
  obtain ⟨k, hk, h1, h2, h3⟩ := right_node h
  unfold pastF
  rw [h1, h3]
  exact ordI_next hk h2
theorem past_sum {l : Lab} (h : rightL l = true) : sumK (pastF l) 12 = sumK l.f 12 + 1 := by
  obtain ⟨k, hk, h1, h2, h3⟩ := right_node h
  unfold pastF
  rw [h1, h3]
  exact sumK_next hk h2
theorem past_lt {l : Lab} (h : rightL l = true) (hf : ∀ i, l.f i < 4294967296) : ∀ i, pastF l i < 4294967296 := fun i => by
  obtain ⟨k, hk, h1, h2, h3, h4⟩ := past_at h
  rw [h4 i]
  split
  · omega
  · exact hf i
theorem past_covers {l : Lab} (h : rightL l = true) : covB (pastF l) l.f = true := (covB_iff _ _).2 fun i _ => by
  obtain ⟨k, hk, h1, h2, h3, h4⟩ := past_at h
  rw [h4 i]
  split
  · rename_i e; subst e; omega
  · exact Nat.le_refl _
theorem past_has {l : Lab} (h : rightL l = true) : hasB (pastF l) l.nd l.n = true := by
  obtain ⟨k, hk, h1, h2, h3, h4⟩ := past_at h
  rw [h1, hasB_at hk (by omega) (by omega), h4 k, if_pos rfl]; simp
theorem bef_self {l : Lab} (h : rightL l = true) : befB l l = false := by
  obtain ⟨k, hk, h1, h2, h3⟩ := right_node h
  unfold befB
  rw [h1, hasB_at hk (by omega) (by omega), h3]; simp
theorem past_closed {a b : Lab} (ha : rightL a = true) (hb : rightL b = true) (hc : covB b.f (pastF a) = true) (he : a.ca = b.ca) : befB a b = true ∧ befB b a = false := by
  obtain ⟨k, hk, h1, h2, h3, h4⟩ := past_at ha
  obtain ⟨j, hj, g1, g2, g3⟩ := right_node hb
  have c := (covB_iff _ _).1 hc
  constructor
  · unfold befB
    have := c k hk
    rw [h4 k, if_pos rfl] at this
    rw [h1, hasB_at hk (by omega) (by omega), decide_eq_true he, decide_eq_true this]; rfl
  · unfold befB
    have := c j hj
    rw [h4 j] at this
    rw [g1, hasB_at hj (by omega) (by omega)]
    have : ¬ b.n ≤ a.f j := by split at this <;> (try subst_vars) <;> omega
    simp [this]
theorem closed_trans {a b c : Lab} (ha : rightL a = true) (hb : rightL b = true) (hcov : covB c.f (pastF b) = true) (h1 : befB a b = true) (h2 : befB b c = true) : befB a c = true := by
  obtain ⟨k, hk, e1, e2, e3⟩ := right_node ha
  obtain ⟨j, hj, g1, g2, g3, g4⟩ := past_at hb
  unfold befB at h1 h2 ⊢
  rw [e1, hasB_at hk (by omega) (by omega)] at h1
  rw [e1, hasB_at hk (by omega) (by omega)]
  simp only [Bool.and_eq_true, decide_eq_true_eq] at h1 h2 ⊢
  refine ⟨h1.1.trans h2.1, ?_⟩
  have := (covB_iff _ _).1 hcov k hk
  rw [g4 k] at this
  have h3 := h1.2
  split at this <;> (try subst_vars) <;> omega

theorem orK_less (v : Nat → Int) : orK v 4 0 < 0 ↔ v 0 < 0 ∨ (v 0 = 0 ∧ (v 1 < 0 ∨ (v 1 = 0 ∧ (v 2 < 0 ∨ (v 2 = 0 ∧ v 3 < 0))))) := by
  simp only [orK]
  by_cases h0 : v 0 = 0
  · by_cases h1 : v 1 = 0
    · by_cases h2 : v 2 = 0
      · by_cases h3 : v 3 = 0
        · simp [h0, h1, h2, h3]
        · simp [h0, h1, h2, h3]
      · simp [h0, h1, h2]
    · simp [h0, h1]
  · simp [h0]
theorem cmpI_neg (a b : Int) : cmpI a b < 0 ↔ a < b := by unfold cmpI; split <;> (try split) <;> omega
theorem cmpI_zero (a b : Int) : cmpI a b = 0 ↔ a = b := by unfold cmpI; split <;> (try split) <;> omega
theorem less_iff (a b : Lab) : lessB a b = true ↔ a.t < b.t ∨ (a.t = b.t ∧ (a.nd < b.nd ∨ (a.nd = b.nd ∧ (a.ca < b.ca ∨ (a.ca = b.ca ∧ a.n < b.n))))) := by
  unfold lessB
  rw [decide_eq_true_eq, orK_less]
  simp only [cmpV, cmpI_neg, cmpI_zero]
  omega
/-- Are they equal in what puts them in order? -/
def sameB (a b : Lab) : Bool := decide (a.t = b.t) && decide (a.nd = b.nd) && decide (a.ca = b.ca) && decide (a.n = b.n)
theorem sameB_iff (a b : Lab) : sameB a b = true ↔ a.t = b.t ∧ a.nd = b.nd ∧ a.ca = b.ca ∧ a.n = b.n := by
  unfold sameB; simp [and_assoc]
theorem less_cases (a b : Lab) : (lessB a b = true ∧ lessB b a = false ∧ sameB a b = false) ∨ (lessB a b = false ∧ lessB b a = true ∧ sameB a b = false) ∨ (lessB a b = false ∧ lessB b a = false ∧ sameB a b = true) := by
  have h1 := less_iff a b
  have h2 := less_iff b a
  have h3 := sameB_iff a b
  cases e1 : lessB a b <;> cases e2 : lessB b a <;> cases e3 : sameB a b <;> rw [e1] at h1 <;> rw [e2] at h2 <;> rw [e3] at h3 <;> simp at h1 h2 h3 ⊢ <;> omega
theorem less_trans {a b c : Lab} (h1 : lessB a b = true) (h2 : lessB b c = true) : lessB a c = true := by
  rw [less_iff] at *
  omega
end Go.Proofs.YtgnfachjobohoaaGreat
