/-
label.Get.
label.Read: the function that it hands on.
label.Read.
-/
import Derived.Test.YtgnfachjobohoaaLPut
namespace Go.Proofs.Ytgnfachjobohoaa
open Go.RowKit

def setL (cs : Array Value) : Nat → List Value → Array Value
  | _, [] => cs
  | o, v :: r => setL (cs.setIfInBounds o v) (o + 1) r
theorem setL_app : ∀ (vs A pre : List Value), A.length = vs.length → setL (pre ++ A).toArray pre.length vs = (pre ++ vs).toArray
  | [], A, pre, h => by
    obtain rfl : A = [] := List.length_eq_zero_iff.1 h
    rfl
  | v :: r, [], pre, h => by cases h
  | v :: r, a :: A, pre, h => by
    have h2 : (pre ++ a :: A).toArray.setIfInBounds pre.length v = (pre ++ [v] ++ A).toArray := by simp
    have ih := setL_app r A (pre ++ [v]) (by simpa using h)
    rw [List.length_append] at ih
    show setL ((pre ++ a :: A).toArray.setIfInBounds pre.length v) (pre.length + 1) r = _
    rw [h2]
    exact ih.trans (by simp)

/-- Five cells, and a vector of noughts. -/
def zc (a b c d e : Value) : Array Value := #[a, b, c, d, e, .int .u32 0, .int .u32 0, .int .u32 0, .int .u32 0, .int .u32 0, .int .u32 0, .int .u32 0, .int .u32 0, .int .u32 0, .int .u32 0, .int .u32 0, .int .u32 0]
theorem zc_vec (t n : Nat) (nd ca se : Int) (f : Nat → Nat) : setL (zc (.int .u64 (t : Nat)) (.int .i64 nd) (.int .u32 (n : Nat)) (.int .i64 ca) (.int .i64 se)) 5 (vl f) = (Lab.mk t nd n ca se f).cells.toArray := by
  refine (setL_app (vl f) [.int .u32 0, .int .u32 0, .int .u32 0, .int .u32 0, .int .u32 0, .int .u32 0, .int .u32 0, .int .u32 0, .int .u32 0, .int .u32 0, .int .u32 0, .int .u32 0] [.int .u64 (t : Nat), .int .i64 nd, .int .u32 (n : Nat), .int .i64 ca, .int .i64 se] (by rw [vl_len]; rfl)).trans ?_
  unfold Lab.cells; rfl
theorem Blk.there {w : World} {g : Nat} {t : TypeId} {cs : Array Value} (h : Blk w g t cs) {o n : Nat} (hn : o + n ≤ cs.size) : w.there g o n := fun j hj => ⟨by rw [h.cell, Array.getElem?_eq_getElem (by omega)]; rfl, h.frozen _⟩

/-- Where what lies. -/
structure Pl (L s k c g n : Nat) : Prop where
  (cs : c ≠ s) (ck : c ≠ k) (cl : L ≤ c) (cg : c ≠ g) (gs : g ≠ s) (nc : n ≤ c)
/-- In the middle of a read of a label. -/
def At (L s k c g : Nat) (W W' : World) (t : List Nat) (cs : Array Value) : Prop :=
  RdB L W' s t ∧ Rdr W' k s ∧ Blk W' c 59 cs ∧ Blk W' g 59 #[.int .u64 0, .int .i64 0, .int .u32 0, .int .i64 0, .int .i64 0, .int .u32 0, .int .u32 0, .int .u32 0, .int .u32 0, .int .u32 0, .int .u32 0, .int .u32 0, .int .u32 0, .int .u32 0, .int .u32 0, .int .u32 0, .int .u32 0] ∧ Off s W W'
section
variable {L s k c g : Nat} {W W' W'' : World} {t t' : List Nat} {cs : Array Value}
theorem At.set (p : Pl L s k c g W.heap.size) (h : At L s k c g W W' t cs) (j : Nat) (u : Value) : At L s k c g W (W'.setCell ⟨c, j, none⟩ u) t (cs.setIfInBounds j u) :=
  ⟨h.1.far p.cs p.cl, h.2.1.far p.ck, h.2.2.1.setCell j u, h.2.2.2.1.far (Ne.symm p.cg) u, h.2.2.2.2.far p.nc j u⟩
theorem At.sets (p : Pl L s k c g W.heap.size) : ∀ (vs : List Value) (j : Nat) (W' : World) (cs : Array Value), At L s k c g W W' t cs → At L s k c g W (W'.setCells c j vs) t (setL cs j vs)
  | [], _, _, _, h => h
  | v :: r, j, _, _, h => At.sets p r (j + 1) _ _ (h.set p j v)
theorem At.step (p : Pl L s k c g W.heap.size) (h : At L s k c g W W' t cs) (hO : Off s W' W'') (hB : RdB L W'' s t') : At L s k c g W W'' t' cs :=
  ⟨hB, h.2.1.off hO, hO.blk h.2.2.1 p.cs, hO.blk h.2.2.2.1 p.gs, h.2.2.2.2.trans hO⟩
theorem At.next (p : Pl L s k c g W.heap.size) (h : At L s k c g W W' t cs) (hb : Below W'.heap.size W' W'') : At L s k c g W W'' t cs := h.step p (Off.ofBelow hb) (h.1.below hb)
end

/-- The label that bytes begin with. -/
def mkP (l : Lab) (t : List Nat) : Except Int (Lab × List Nat) := if rightL l then .ok (l, t) else .error 3
def labP : List Nat → Except Int (Lab × List Nat) :=
  bindP (smallP 1099511627776) fun t => bindP (smallP 12) fun nd => bindP (smallP 1048576) fun n => bindP (smallP 12) fun ca => bindP (smallP 12) fun se => bindP vectorP fun l => mkP (Lab.mk t (nd : Nat) n (ca : Nat) (se : Nat) (lv l))
attribute [irreducible] labP
theorem labP_def : labP = bindP (smallP 1099511627776) fun t => bindP (smallP 12) fun nd => bindP (smallP 1048576) fun n => bindP (smallP 12) fun ca => bindP (smallP 12) fun se => bindP vectorP fun l => mkP (Lab.mk t (nd : Nat) n (ca : Nat) (se : Nat) (lv l)) := by
  unfold labP; rfl
theorem lab_one (l : Lab) : l.cells.toArray.all (·.oneCell') = true := by
  refine all_oneCell_toArray fun v hv => ?_
  unfold Lab.cells at hv
  rcases List.mem_append.1 hv with h | h
  · simp at h; rcases h with rfl | rfl | rfl | rfl | rfl <;> rfl
  · exact vl_one _ v h

theorem lab_siz (l : Lab) : (#[.int .u64 0, .int .i64 0, .int .u32 0, .int .i64 0, .int .i64 0, .int .u32 0, .int .u32 0, .int .u32 0, .int .u32 0, .int .u32 0, .int .u32 0, .int .u32 0, .int .u32 0, .int .u32 0, .int .u32 0, .int .u32 0, .int .u32 0] : Array Value).size = l.cells.toArray.size := show 17 = l.cells.toArray.size by rw [List.size_toArray, lab_len]
variable {L : Nat}
end Go.Proofs.Ytgnfachjobohoaa
namespace Go.Proofs.Ytgnfachjobohoaa
open Go.RowKit

theorem numP_err : ∀ (bs : List Nat) (b : Bool) (n : Nat) (x : Int), numP b n bs = .error x → x ≠ 0
  | [], b, n, x, h => by unfold numP at h; cases h; decide
  | y :: t, b, n, x, h => by
    unfold numP at h
    split at h
    · cases h; decide
    · split at h
      · cases h; decide
      · split at h
        · cases h
        · exact numP_err t _ _ x h
theorem smallP_ne {most : Int} {bs : List Nat} {x : Int} (h : smallP most bs = .error x) : x ≠ 0 := by
  unfold smallP at h
  split at h
  · split at h
    · cases h
    · cases h; decide
  · rename_i y hy
    cases h
    exact numP_err _ _ _ _ hy
theorem bindP_ne {α β : Type} {P : List Nat → Except Int (α × List Nat)} {Q : α → List Nat → Except Int (β × List Nat)} (hP : ∀ bs x, P bs = .error x → x ≠ 0) (hQ : ∀ a bs x, Q a bs = .error x → x ≠ 0) (bs : List Nat) (x : Int) (h : bindP P Q bs = .error x) : x ≠ 0 := by
  unfold bindP at h
  split at h
  · exact hQ _ _ _ h
  · rename_i y hy; cases h; exact hP _ _ hy
theorem vecP_ne : ∀ (n : Nat) (acc t : List Nat) (x : Int), vecP acc n t = .error x → x ≠ 0 := by
  intro n
  induction n with
  | zero => intro acc t x h; unfold vecP at h; cases h
  | succ n ih =>
    intro acc t x h
    unfold vecP at h
    split at h
    · split at h
      · split at h
        · exact ih _ _ _ h
        · cases h; decide
      · cases h; decide
    · rename_i y hy; cases h; exact numP_err _ _ _ _ hy
theorem vectorP_ne (bs : List Nat) (x : Int) (h : vectorP bs = .error x) : x ≠ 0 := by
  unfold vectorP at h
  split at h
  · exact vecP_ne _ _ _ _ h
  · rename_i y hy; cases h; exact smallP_ne hy
theorem labP_ne (bs : List Nat) (x : Int) (h : labP bs = .error x) : x ≠ 0 := by
  rw [labP_def] at h
  refine bindP_ne (fun _ _ => smallP_ne) (fun t => ?_) bs x h
  refine bindP_ne (fun _ _ => smallP_ne) (fun nd => ?_)
  refine bindP_ne (fun _ _ => smallP_ne) (fun n => ?_)
  refine bindP_ne (fun _ _ => smallP_ne) (fun ca => ?_)
  refine bindP_ne (fun _ _ => smallP_ne) (fun se => ?_)
  refine bindP_ne vectorP_ne (fun l bs x h => ?_)
  unfold mkP at h
  split at h
  · cases h
  · cases h; decide
variable {L : Nat}
end Go.Proofs.Ytgnfachjobohoaa
namespace Go.Proofs.Ytgnfachjobohoaa
open Go.RowKit

theorem results_row2 {P : Program} {fn : Func} {p q : Tmp} {ty : TypeId} (h : fn.results = #[.cell p ty, .tmp q]) (tmps : Array Value) (w : World) (g : Nat) (t : TypeId) (cs : List Value) (d : TypeDesc)
    (hp : tmps.getD p undef = .pointer (some ⟨g, 0, none⟩)) (hg : Blk w g t cs.toArray)
    (hu : P.underlying ty = some d) (hd : d.isRow = true) (hi : (P.info? ty).map (·.size) = some cs.length) :
    (results fn tmps).run P w = .ok (.tuple #[.agg cs.toArray, tmps.getD q undef]) w := by
  have hl := run_loadVar_mid (P := P) w g 0 ty cs d hg.range hu hd hi
  have hp' : tmps[p]?.getD undef = .pointer (some ⟨g, 0, none⟩) := by simpa using hp
  simp [results, h, hp', asAddr, hl]

theorem bodyPost_row2 {P : Program} {fn : Func} {R : Ending → World → Prop} {a : Act} {p q : Tmp} {ty : TypeId} {w : World} {g : Nat} {t : TypeId} (cs : List Value) (v : Value) {d : TypeDesc} (h : fn.results = #[.cell p ty, .tmp q]) (ha : a.defers = [])
    (hp : a.tmps.getD p undef = .pointer (some ⟨g, 0, none⟩)) (hv : a.tmps.getD q undef = v)
    (hu : P.underlying ty = some d) (hd : d.isRow = true) (hi : (P.info? ty).map (·.size) = some cs.length) (hg : Blk w g t cs.toArray)
    (hR : R (.returned (.tuple #[.agg cs.toArray, v])) w) : bodyPost P fn R .ret a w := by
  subst hv
  exact bodyPost_ret (results_row2 h _ w g t cs d hp hg hu hd hi) ha hR

/-- Two boxes of noughts. -/
def twoZ (W : World) : World := (W.alloc (.cells #[.int .u64 0, .int .i64 0, .int .u32 0, .int .i64 0, .int .i64 0, .int .u32 0, .int .u32 0, .int .u32 0, .int .u32 0, .int .u32 0, .int .u32 0, .int .u32 0, .int .u32 0, .int .u32 0, .int .u32 0, .int .u32 0, .int .u32 0] 59)).alloc (.cells #[.int .u64 0, .int .i64 0, .int .u32 0, .int .i64 0, .int .i64 0, .int .u32 0, .int .u32 0, .int .u32 0, .int .u32 0, .int .u32 0, .int .u32 0, .int .u32 0, .int .u32 0, .int .u32 0, .int .u32 0, .int .u32 0, .int .u32 0] 59)
theorem twoZ_size (W : World) : (twoZ W).heap.size = W.heap.size + 2 := by simp [twoZ]
theorem twoZ_below (W : World) : Below W.heap.size W (twoZ W) := ((Below.refl _ W).alloc (Nat.le_refl _) _).alloc (by simp) _

/-- What a label's read leaves. -/
def LRead (bs : List Nat) (W : World) (r : Except Int (List Nat)) (W' : World) : Prop :=
  (match labP bs with | .ok (l, t) => r = .ok t ∧ Blk W' (W.heap.size + 1) 59 l.cells.toArray | .error x => r = .error x) ∧ Blk W' W.heap.size 59 #[.int .u64 0, .int .i64 0, .int .u32 0, .int .i64 0, .int .i64 0, .int .u32 0, .int .u32 0, .int .u32 0, .int .u32 0, .int .u32 0, .int .u32 0, .int .u32 0, .int .u32 0, .int .u32 0, .int .u32 0, .int .u32 0, .int .u32 0] ∧ Below W.heap.size W W'

theorem zlab_sz : (Try.prog.info? 59).map (·.size) = some (#[.int .u64 0, .int .i64 0, .int .u32 0, .int .i64 0, .int .i64 0, .int .u32 0, .int .u32 0, .int .u32 0, .int .u32 0, .int .u32 0, .int .u32 0, .int .u32 0, .int .u32 0, .int .u32 0, .int .u32 0, .int .u32 0, .int .u32 0] : Array Value).size := by kernel_rfl
theorem zlab_one : (#[.int .u64 0, .int .i64 0, .int .u32 0, .int .i64 0, .int .i64 0, .int .u32 0, .int .u32 0, .int .u32 0, .int .u32 0, .int .u32 0, .int .u32 0, .int .u32 0, .int .u32 0, .int .u32 0, .int .u32 0, .int .u32 0, .int .u32 0] : Array Value).all (·.oneCell') = true := by simp [Value.oneCell']
theorem zlab_info : (Try.prog.info? 59).map (·.size) = some (List.length [.int .u64 0, .int .i64 0, .int .u32 0, .int .i64 0, .int .i64 0, .int .u32 0, .int .u32 0, .int .u32 0, .int .u32 0, .int .u32 0, .int .u32 0, .int .u32 0, .int .u32 0, .int .u32 0, .int .u32 0, .int .u32 0, (.int .u32 0 : Value)]) := by kernel_rfl

section
variable (A : Option Addr) (n cp : Nat) (W : World) (bs : List Nat) (hn : bs.length = n) (hnc : n ≤ cp)
    (hbs : bs = [] ∨ ∃ b p, A = some ⟨b, p, none⟩ ∧ b < W.heap.size ∧ ∀ (i x : Nat), bs[i]? = some x → W.cell? ⟨b, p + i, none⟩ = some (.int .u8 (x : Nat)))
include hn hnc hbs
end
end Go.Proofs.Ytgnfachjobohoaa
