/-
A region that draws its order, walked by a fact that is kept: what only reads is taken first; of each other operation it is shown once that it keeps the fact, whatever else was done. It speaks of any program.
-/
import Derived.Test.YteplplmfepamdaaTree
import Derived.Test.YteplplmfepamdaaVec
namespace Go.Proofs.Yteplplmfepamdaa
open Go.RowKit

def takesOk (md : Region.Mode) (ops : Array Oper) : Array Bool → List Nat → Bool
  | _, [] => true
  | listed, i :: r => Region.free md ops listed i && (Region.ready md ops listed).contains i && takesOk md ops (listed.setIfInBounds i true) r
/-- What an operation waits for stands ahead of it. -/
def topoOk (md : Region.Mode) (ops : Array Oper) : Bool :=
  (List.range ops.size).all fun i => match ops[i]? with | none => true | some o => o.after.all fun e => !Region.binds md e || decide (e.on < i)
section
variable {P : Program} {ops : Array Oper} {Q : Exit → Act → World → Prop} {md : Region.Mode} {S : World → Prop} {l : Nat}

def undone (ops : Array Oper) (listed : Array Bool) : Nat := (List.range ops.size).countP fun j => !listed.getD j true
theorem undone_set {listed : Array Bool} {i : Nat} (hi : i < ops.size) (h : listed.getD i true = false) : undone ops (listed.setIfInBounds i true) + 1 = undone ops listed := by
  unfold undone
  have key : ∀ (l : List Nat), l.Nodup → i ∈ l → l.countP (fun j => !(listed.setIfInBounds i true).getD j true) + 1 = l.countP (fun j => !listed.getD j true) := by
    intro l
    induction l with
    | nil => intro _ h; cases h
    | cons x l ih =>
      intro hn hm
      rw [List.nodup_cons] at hn
      have hsz : i < listed.size := by
        rcases Nat.lt_or_ge i listed.size with h' | h'
        · exact h'
        · simp [Array.getD, Nat.not_lt.2 h'] at h
      by_cases hx : x = i
      · subst hx
        have e1 : (listed.setIfInBounds x true).getD x true = true := by simp [Array.getD, hsz]
        have e2 : l.countP (fun j => !(listed.setIfInBounds x true).getD j true) = l.countP (fun j => !listed.getD j true) := by
          refine List.countP_congr fun j hj => ?_
          have : x ≠ j := by rintro rfl; exact hn.1 hj
          rw [getD_set_ne true this]
        rw [List.countP_cons_of_neg (by simp [e1]), List.countP_cons_of_pos (by simp [h]), e2]
      · have e1 : (listed.setIfInBounds i true).getD x true = listed.getD x true := getD_set_ne true (Ne.symm hx)
        have hm' : i ∈ l := by rcases List.mem_cons.1 hm with h' | h'; · exact absurd h'.symm hx
                               · exact h'
        have := ih hn.2 hm'
        rw [List.countP_cons, List.countP_cons, e1]
        omega
  exact key _ List.nodup_range (List.mem_range.2 hi)
theorem undone_none {listed : Array Bool} (h : undone ops listed = 0) {j : Nat} (hj : j < ops.size) : listed.getD j true = true := by
  unfold undone at h
  rw [List.countP_eq_zero] at h
  have := h j (List.mem_range.2 hj)
  simpa using this
theorem getD_tf {listed : Array Bool} {j : Nat} (hj : j < listed.size) (h : listed.getD j true = true) : listed.getD j false = true := by
  simp [Array.getD, hj] at h ⊢; exact h
theorem getD_ft {listed : Array Bool} {j : Nat} (h : listed.getD j false = true) : listed.getD j true = true := by
  rcases Nat.lt_or_ge j listed.size with h' | h'
  · simp [Array.getD, h'] at h ⊢; exact h
  · simp [Array.getD, Nat.not_lt.2 h'] at h
theorem getD_set_or {listed : Array Bool} {i : Nat} : (fun j => (listed.setIfInBounds i true).getD j true) = fun j => listed.getD j true || j == i := by
  funext j
  by_cases h : j = i
  · subst h
    rcases Nat.lt_or_ge j listed.size with h' | h'
    · simp [Array.getD, h']
    · simp [Array.getD, Nat.not_lt.2 h']
  · rw [getD_set_ne true (Ne.symm h)]
    simp [h]
theorem all_of_ready (ht : topoOk md ops = true) {listed : Array Bool} (hsz : listed.size = ops.size) (h : Region.ready md ops listed = []) : ∀ j, j < ops.size → listed.getD j true = true := by
  intro j
  induction j using Nat.strongRecOn with
  | _ j ih =>
    intro hj
    cases hl : listed.getD j true with
    | true => rfl
    | false =>
      exfalso
      have : j ∈ Region.ready md ops listed := by
        refine mem_ready.2 ⟨hl, ops[j], by simp [hj], fun e he hb => ?_⟩
        have h1 := ht
        unfold topoOk at h1
        rw [List.all_eq_true] at h1
        have h2 := h1 j (List.mem_range.2 hj)
        have h2' : ops[j]? = some ops[j] := by simp [hj]
        rw [h2'] at h2
        simp only [Array.all_eq_true_iff_forall_mem] at h2
        have h3 := h2 e he
        rw [hb] at h3
        have h4 : e.on < j := by simpa using h3
        exact getD_tf (by omega) (ih e.on h4 (by omega))
      rw [h] at this
      cases this

/-- One operation keeps the fact. -/
def Keeps1 (P : Program) (md : Region.Mode) (ops : Array Oper) (Q : Exit → Act → World → Prop) (I : (Nat → Bool) → Act → World → Prop) (i : Nat) (o : Option Oper) : Prop :=
  match o with
  | none => True
  | some o => ∀ (d : Nat → Bool) (a : Act) (w : World), d i = false → (o.after.all fun e => !Region.binds md e || d e.on) = true → I d a w →
      ∀ K' : Act → World → Prop, Shut (∀ a w, I (fun j => d j || j == i) a w → K' a w) → if Region.wanted o (yielded ops a.tmps) = true then Oper.wp P o a w K' Q else K' (a.put o.dst undef) w
def KeepsAll (P : Program) (md : Region.Mode) (ops : Array Oper) (Q : Exit → Act → World → Prop) (I : (Nat → Bool) → Act → World → Prop) : List Nat → Prop
  | [] => True
  | i :: r => Keeps1 P md ops Q I i ops[i]? ∧ KeepsAll P md ops Q I r
theorem KeepsAll.mem {I : (Nat → Bool) → Act → World → Prop} : ∀ {l : List Nat}, KeepsAll P md ops Q I l → ∀ i ∈ l, Keeps1 P md ops Q I i ops[i]?
  | _ :: _, h, i, hi => by
    rcases List.mem_cons.1 hi with rfl | h'
    · exact h.1
    · exact h.2.mem i h'

/-- What is taken first. -/
def takeTree : List Nat → Tree Nat
  | [] => .nil
  | i :: r => .take i (takeTree r)

/-- What is left to show behind what is taken. -/
def InvRest (P : Program) (md : Region.Mode) (ops : Array Oper) (Q : Exit → Act → World → Prop) (S : World → Prop) (rest : List Nat) (a : Act) (w : World) : Prop :=
  ∃ I : (Nat → Bool) → Act → World → Prop, (∀ d a w, I d a w → S w) ∧ I (fun j => !rest.contains j) a w ∧ KeepsAll P md ops Q I rest ∧ ∀ d a w, (∀ j, d j = true) → I d a w → Q .normal a w

theorem inv_sound (ht : topoOk md ops = true) {I : (Nat → Bool) → Act → World → Prop} {rest : List Nat} (hIS : ∀ d a w, I d a w → S w) (hk : KeepsAll P md ops Q I rest) (hend : ∀ d a w, (∀ j, d j = true) → I d a w → Q .normal a w) :
    ∀ (fuel : Nat) (listed : Array Bool) (a : Act) (w : World), listed.size = ops.size → undone ops listed ≤ fuel → (∀ j, j < ops.size → listed.getD j true = false → j ∈ rest) → I (fun j => listed.getD j true) a w → wpAnyL P md ops Q S ops.size fuel listed a w := by
  have hall : ∀ (listed : Array Bool), listed.size = ops.size → (∀ j, j < ops.size → listed.getD j true = true) → ∀ j, listed.getD j true = true := by
    intro listed hsz h j
    rcases Nat.lt_or_ge j ops.size with h' | h'
    · exact h j h'
    · simp [Array.getD, hsz, Nat.not_lt.2 h']
  intro fuel
  induction fuel with
  | zero =>
    intro listed a w hsz hu hrest hI
    have hdone : ∀ j, j < ops.size → listed.getD j true = true := fun j hj => undone_none (by omega) hj
    refine ⟨?_, hend _ a w (hall listed hsz hdone) hI⟩
    rw [List.eq_nil_iff_forall_not_mem]
    intro j hj
    obtain ⟨h0, o, ho, _⟩ := mem_ready.1 hj
    rw [hdone j (Array.getElem?_eq_some_iff.1 ho).1] at h0
    cases h0
  | succ n ih =>
    intro listed a w hsz hu hrest hI
    refine ⟨fun h0 => hend _ a w (hall listed hsz (all_of_ready ht hsz h0)) hI, fun i hi => ?_⟩
    obtain ⟨h0, o, ho, hd⟩ := mem_ready.1 hi
    have hlt := (Array.getElem?_eq_some_iff.1 ho).1
    have hk1 := hk.mem i (hrest i hlt h0)
    rw [ho] at hk1
    refine wpOp_step ho fun K' hK => ?_
    refine hk1 (fun j => listed.getD j true) a w h0 ?_ hI K' (fun a' w' hI' => hK a' w' ⟨fun _ => hIS _ _ _ hI', ih _ a' w' (by simpa using hsz) ?_ ?_ ?_⟩)
    · rw [Array.all_eq_true_iff_forall_mem]
      intro e he
      cases hb : Region.binds md e with
      | false => rfl
      | true => simpa using getD_ft (hd e he hb)
    · have := undone_set hlt h0
      omega
    · intro j hj hf
      by_cases hji : j = i
      · subst hji; exact hrest j hj h0
      · rw [getD_set_ne true (Ne.symm hji)] at hf
        exact hrest j hj hf
    · rw [getD_set_or]; exact hI'

def after (ts : List Nat) (listed : Array Bool) : Array Bool := ts.foldl (fun l i => l.setIfInBounds i true) listed
theorem after_size : ∀ (ts : List Nat) (listed : Array Bool), (after ts listed).size = listed.size
  | [], _ => rfl
  | i :: r, listed => by
    show (after r (listed.setIfInBounds i true)).size = _
    rw [after_size r]; simp
theorem after_getD : ∀ (ts : List Nat) (listed : Array Bool) (j : Nat), (after ts listed).getD j true = (listed.getD j true || ts.contains j)
  | [], listed, j => by show listed.getD j true = _; simp
  | i :: r, listed, j => by
    show (after r (listed.setIfInBounds i true)).getD j true = _
    rw [after_getD r, congrFun (getD_set_or (listed := listed) (i := i)) j, List.contains_cons]
    cases listed.getD j true <;> cases j == i <;> cases r.contains j <;> rfl
theorem takes_sound (hs : Region.noSelect ops = true) (hQ : ∀ c (a : Act) d v w, Q (.panic c) (a.put d v) w → Q (.panic c) a w) {R : Act → World → Prop} :
    ∀ (ts : List Nat) (fuel : Nat) (listed : Array Bool) (a : Act) (w : World), takesOk md ops listed ts = true → S w → undone ops listed ≤ fuel → wpTree P ops (fun _ a w => R a w) S ((takeTree ts).map fun i => ops[i]?) a w →
      (∀ (a' : Act) (fuel' : Nat), R a' w → undone ops (after ts listed) ≤ fuel' → wpAnyL P md ops Q S ops.size fuel' (after ts listed) a' w) → wpAnyL P md ops Q S ops.size fuel listed a w := by
  intro ts
  induction ts with
  | nil => intro fuel listed a w _ _ hu h hr; exact hr a fuel h hu
  | cons i r ih =>
    intro fuel listed a w hp hS hu h hr
    simp only [takesOk, Bool.and_eq_true] at hp
    obtain ⟨⟨h1, h2⟩, h3⟩ := hp
    simp only [takeTree, Tree.map] at h
    have hm : i ∈ Region.ready md ops listed := by simpa using h2
    obtain ⟨h0, o, ho, _⟩ := mem_ready.1 hm
    have hi := (Array.getElem?_eq_some_iff.1 ho).1
    rw [ho] at h
    obtain ⟨v, hy, h⟩ := h
    have hc := undone_set hi h0
    obtain ⟨n, rfl⟩ : ∃ n, fuel = n + 1 := ⟨fuel - 1, by omega⟩
    exact wpAnyL_first ho (Region.noSelect_spec hs) (fun o' ho' => by simp at ho') (fun c a w => hQ c a _ _ w) n listed a w (Region.free_spec ho h1) hm hy hS (ih n _ _ _ h3 hS (by omega) h hr)

/-- The beginning. -/
theorem wp_region_inv {id : Nat} {a : Act} {w : World} (ts rest : List Nat) (hm : P.follows .mixedOrders = true) (hs : Region.noSelect ops = true) (ht : topoOk .any ops = true) (hp : takesOk .any ops (Array.replicate ops.size false) ts = true) (hr : (((List.range ops.size).all fun j => ts.contains j || rest.contains j) && rest.all fun j => !ts.contains j && decide (j < ops.size)) = true)
    (hQ : ∀ c (a : Act) d v w, Q (.panic c) (a.put d v) w → Q (.panic c) a w) (hS : S w.drew)
    (h : S w.drew → wpTree P ops (fun _ a w => InvRest P .any ops Q S rest a w) S ((takeTree ts).map fun i => ops[i]?) a w.drew) : (Code.region id ops true).wp P Q a w := by
  refine wp_region_any hm (wpAny_of_l _ _ _ _ (?_ : wpAnyL P .any ops Q S ops.size ops.size (Array.replicate ops.size false) a w.drew))
  have hrep : ∀ j, (Array.replicate ops.size false).getD j true = decide (ops.size ≤ j) := by
    intro j
    rcases Nat.lt_or_ge j ops.size with h' | h'
    · simp [Array.getD, h', Nat.not_le.2 h']
    · simp [Array.getD, Nat.not_lt.2 h', h']
  refine takes_sound hs hQ ts _ _ _ _ hp hS ?_ (h hS) ?_
  · unfold undone
    exact Nat.le_trans List.countP_le_length (by simp)
  · rintro a' fuel' ⟨I, hIS, h0, hk, hend⟩ hu
    refine inv_sound ht hIS hk hend fuel' _ a' _ (by rw [after_size]; simp) hu ?_ ?_
    · intro j hj hf
      rw [after_getD, Bool.or_eq_false_iff] at hf
      have := List.all_eq_true.1 (Bool.and_eq_true_iff.1 hr).1 j (List.mem_range.2 hj)
      rw [hf.2] at this
      simpa using this
    · have e : (fun j => (after ts (Array.replicate ops.size false)).getD j true) = fun j => !rest.contains j := by
        funext j
        rw [after_getD, hrep, Bool.or_comm]
        have h1 := (Bool.and_eq_true_iff.1 hr).1
        have h2 := (Bool.and_eq_true_iff.1 hr).2
        cases hc : rest.contains j with
        | true =>
          have := List.all_eq_true.1 h2 j (by simpa using hc)
          simp only [Bool.and_eq_true, Bool.not_eq_true', decide_eq_true_eq] at this
          rw [this.1, decide_eq_false (Nat.not_le.2 this.2)]
          rfl
        | false =>
          rcases Nat.lt_or_ge j ops.size with h' | h'
          · have := List.all_eq_true.1 h1 j (List.mem_range.2 h')
            rw [hc, Bool.or_false] at this
            rw [this]; rfl
          · rw [decide_eq_true h', Bool.or_true]; rfl
      rw [e]
      exact h0

/-! The fact as one of the values that the operations left (v), whatever else stands in the temporaries. -/
def look : List (Option Nat × Nat) → Nat → Option Nat
  | [], _ => none
  | (none, _) :: r, p => look r p
  | (some k, i) :: r, p => if p = k then some i else look r p
def fillT (dl : List (Option Nat × Nat)) (v : Nat → Value) : Nat → List Value → List Value
  | _, [] => []
  | p, x :: T => (match look dl p with | some i => v i | none => x) :: fillT dl v (p + 1) T
def upd (v : Nat → Value) (i : Nat) (x : Value) : Nat → Value := fun j => if j = i then x else v j
def dlOk (dl : List (Option Nat × Nat)) : Bool := dl.all fun x => match x.1 with | none => true | some k => (look dl k == some x.2) && dl.all fun y => y.2 != x.2 || y.1 == x.1
theorem look_mem : ∀ {dl : List (Option Nat × Nat)} {p i : Nat}, look dl p = some i → (some p, i) ∈ dl
  | [], _, _, h => by cases h
  | (none, _) :: r, p, i, h => List.mem_cons_of_mem _ (look_mem (dl := r) h)
  | (some k, j) :: r, p, i, h => by
    unfold look at h
    split at h
    · next e => subst e; cases h; exact List.mem_cons_self
    · exact List.mem_cons_of_mem _ (look_mem (dl := r) h)
theorem fillT_len {dl : List (Option Nat × Nat)} {v : Nat → Value} : ∀ (T : List Value) (p : Nat), (fillT dl v p T).length = T.length
  | [], _ => rfl
  | x :: T, p => by simp [fillT, fillT_len T]
theorem fillT_get {dl : List (Option Nat × Nat)} {v : Nat → Value} : ∀ (T : List Value) (p q : Nat), (fillT dl v p T)[q]? = (T[q]?).map fun x => match look dl (p + q) with | some i => v i | none => x
  | [], _, _ => by simp [fillT]
  | x :: T, p, 0 => by simp [fillT]
  | x :: T, p, q + 1 => by
    simp only [fillT, List.getElem?_cons_succ]
    rw [fillT_get T (p + 1) q, show p + 1 + q = p + (q + 1) by omega]
theorem fillT_put {dl : List (Option Nat × Nat)} (hd : dlOk dl = true) {k i : Nat} (hm : (some k, i) ∈ dl) (v : Nat → Value) (x : Value) (T : List Value) : (fillT dl v 0 T).set k x = fillT dl (upd v i x) 0 T := by
  have h0 := List.all_eq_true.1 hd _ hm
  simp only [Bool.and_eq_true, beq_iff_eq, List.all_eq_true, Bool.or_eq_true, bne_iff_ne] at h0
  refine List.ext_getElem? fun q => ?_
  rw [List.getElem?_set, fillT_len, fillT_get, fillT_get, Nat.zero_add]
  by_cases hq : k = q
  · subst hq
    rw [if_pos rfl, h0.1]
    split
    · next hlt => rw [List.getElem?_eq_getElem hlt]; simp [upd]
    · next hlt => rw [List.getElem?_eq_none (by omega)]; rfl
  · rw [if_neg hq]
    congr 1
    funext y
    cases hl : look dl q with
    | none => rfl
    | some j =>
      have hj := look_mem hl
      have : j ≠ i := by
        rintro rfl
        rcases h0.2 _ hj with h' | h'
        · exact h' rfl
        · simp at h'; exact hq h'.symm
      simp [upd, this]
theorem fillT_same {dl : List (Option Nat × Nat)} : ∀ (T : List Value) (v : Nat → Value) (p : Nat), (∀ q i, look dl (p + q) = some i → q < T.length → T[q]? = some (v i)) → fillT dl v p T = T
  | [], _, _, _ => rfl
  | x :: T, v, p, h => by
    have h1 : (match look dl p with | some i => v i | none => x) = x := by
      cases hl : look dl p with
      | none => rfl
      | some i =>
        have := h 0 i (by simpa using hl) (by simp)
        simp at this
        exact this.symm
    simp only [fillT]
    rw [h1, fillT_same T v (p + 1) (fun q i hq hlt => by
      have := h (q + 1) i (by rw [← hq]; congr 1; omega) (by simp; omega)
      simpa using this)]

/-- One operation keeps the fact of values. -/
def FKeeps1 (P : Program) (md : Region.Mode) (ops : Array Oper) (Q : Exit → Act → World → Prop) (F : (Nat → Bool) → (Nat → Value) → World → Prop) (A : (Nat → Value) → Act) (i : Nat) (o : Option Oper) : Prop :=
  match o with
  | none => True
  | some o => ∀ (d : Nat → Bool) (v : Nat → Value) (w : World), d i = false → (o.after.all fun e => !Region.binds md e || d e.on) = true → F d v w →
      ∀ K' : Act → World → Prop, Shut (∀ x w, F (fun j => d j || j == i) (upd v i x) w → K' ((A v).put o.dst x) w) → if Region.wanted o (yielded ops (A v).tmps) = true then Oper.wp P o (A v) w K' Q else K' ((A v).put o.dst undef) w
def FKeepsAll (P : Program) (md : Region.Mode) (ops : Array Oper) (Q : Exit → Act → World → Prop) (F : (Nat → Bool) → (Nat → Value) → World → Prop) (A : (Nat → Value) → Act) : List Nat → Prop
  | [] => True
  | i :: r => FKeeps1 P md ops Q F A i ops[i]? ∧ FKeepsAll P md ops Q F A r
def dstOf (ops : Array Oper) (i : Nat) : Option Nat := (ops[i]?).bind (·.dst)
theorem InvRest.of {rest : List Nat} {T : List Value} {D : List Deferred} {w : World} (dl : List (Option Nat × Nat)) (F : (Nat → Bool) → (Nat → Value) → World → Prop) (hd : (rest.map fun i => (dstOf ops i, i)) = dl) (hok : dlOk dl = true) (hS : ∀ d v w, F d v w → S w)
    (h0 : ∀ v, F (fun j => !rest.contains j) v w) (hk : FKeepsAll P md ops Q F (fun v => ⟨(fillT dl v 0 T).toArray, D⟩) rest)
    (hend : ∀ d v w, (∀ j, d j = true) → F d v w → Q .normal ⟨(fillT dl v 0 T).toArray, D⟩ w) : InvRest P md ops Q S rest ⟨T.toArray, D⟩ w := by
  refine ⟨fun d a w => ∃ v, a = ⟨(fillT dl v 0 T).toArray, D⟩ ∧ F d v w, fun d a w ⟨v, _, h⟩ => hS d v w h, ⟨fun i => T.getD ((dstOf ops i).getD 0) undef, ?_, h0 _⟩, ?_, fun d a w hj ⟨v, ha, h⟩ => by rw [ha]; exact hend d v w hj h⟩
  · rw [fillT_same T _ 0]
    intro q i hl hlt
    rw [Nat.zero_add] at hl
    have hm := look_mem hl
    rw [← hd] at hm
    obtain ⟨i', _, e⟩ := List.mem_map.1 hm
    simp only [Prod.mk.injEq] at e
    obtain ⟨e1, rfl⟩ := e
    rw [e1]
    simp [hlt]
  · have key : ∀ l : List Nat, (∀ i ∈ l, i ∈ rest) → FKeepsAll P md ops Q F (fun v => ⟨(fillT dl v 0 T).toArray, D⟩) l → KeepsAll P md ops Q (fun d a w => ∃ v, a = ⟨(fillT dl v 0 T).toArray, D⟩ ∧ F d v w) l := by
      intro l
      induction l with
      | nil => intro _ _; trivial
      | cons i l ih =>
        intro hin h
        refine ⟨?_, ih (fun j hj => hin j (List.mem_cons_of_mem _ hj)) h.2⟩
        have h1 := h.1
        unfold FKeeps1 at h1
        unfold Keeps1
        cases ho : ops[i]? with
        | none => trivial
        | some o =>
          rw [ho] at h1
          rintro d a w hdi hdep ⟨v, rfl, hF⟩ K' hK
          refine h1 d v w hdi hdep hF K' (fun x w' hF' => ?_)
          refine hK _ w' ⟨upd v i x, ?_, hF'⟩
          cases hdst : o.dst with
          | none =>
            show (⟨_, _⟩ : Act) = ⟨_, _⟩
            congr 2
            have hnl : ∀ p j, look dl p = some j → j ≠ i := by
              rintro p j hl rfl
              have hm := look_mem hl
              rw [← hd] at hm
              obtain ⟨i', _, e⟩ := List.mem_map.1 hm
              simp only [Prod.mk.injEq] at e
              obtain ⟨e1, rfl⟩ := e
              unfold dstOf at e1
              rw [ho] at e1
              simp [hdst] at e1
            refine List.ext_getElem? fun q => ?_
            rw [fillT_get, fillT_get]
            congr 1
            funext y
            cases hl : look dl (0 + q) with
            | none => rfl
            | some j => simp [upd, hnl _ _ hl]
          | some k =>
            have hm : (some k, i) ∈ dl := by
              rw [← hd]
              refine List.mem_map.2 ⟨i, hin i List.mem_cons_self, ?_⟩
              unfold dstOf
              rw [ho]
              simp [hdst]
            show (⟨_, _⟩ : Act) = ⟨_, _⟩
            congr 1
            rw [← fillT_put hok hm v x T]
            simp only [Array.setIfInBounds]
            split
            · simp
            · next hlt => rw [List.set_eq_of_length_le (by simpa using hlt)]
    exact key rest (fun _ h => h) hk
end
/-- A box that was made at lo or later. -/
def Box (lo : Nat) (w : World) (v : Value) (t : TypeId) (cs : Array Value) : Prop := ∃ g, v = .pointer (some ⟨g, 0, none⟩) ∧ lo ≤ g ∧ Blk w g t cs
theorem Box.next {lo : Nat} {w w' : World} {v : Value} {t : TypeId} {cs : Array Value} (h : Box lo w v t cs) (hb : Below w.heap.size w w') : Box lo w' v t cs := by
  obtain ⟨g, e, hl, hg⟩ := h
  exact ⟨g, e, hl, hg.next hb⟩
theorem Box.alloc {lo : Nat} {w : World} {v : Value} {t : TypeId} {cs : Array Value} (h : Box lo w v t cs) (o : Obj) : Box lo (w.alloc o) v t cs := h.next ((Below.refl _ _).alloc (Nat.le_refl _) o)
theorem Box.new {lo : Nat} {w : World} (h : lo ≤ w.heap.size) (t : TypeId) (cs : Array Value) : Box lo (w.alloc (.cells cs t)) (.pointer (some ⟨w.heap.size, 0, none⟩)) t cs := ⟨w.heap.size, rfl, h, Blk.new w t cs⟩
theorem Box.ne {lo : Nat} {w : World} {v : Value} {t : TypeId} {cs : Array Value} (h : Box lo w v t cs) : v ≠ .pointer (some ⟨w.heap.size, 0, none⟩) := by
  obtain ⟨g, rfl, _, hg⟩ := h
  intro e
  simp only [Value.pointer.injEq, Option.some.injEq, Addr.mk.injEq, and_true] at e
  have := hg.lt
  omega
theorem Box.row {lo g : Nat} {w : World} {v : Value} {t : TypeId} {c : Array Value} (h : Box lo w v t c) (e : v = .pointer (some ⟨g, 0, none⟩)) (cs : Array Value) : Box lo (w.setRow g cs) v t cs := by
  obtain ⟨g', e', hl, hg⟩ := h
  subst e
  simp only [Value.pointer.injEq, Option.some.injEq, Addr.mk.injEq, and_true] at e'
  subst e'
  exact ⟨g, rfl, hl, hg.setRow cs⟩
theorem Box.other {lo g : Nat} {w : World} {v : Value} {t : TypeId} {c : Array Value} (h : Box lo w v t c) (e : v ≠ .pointer (some ⟨g, 0, none⟩)) (cs : Array Value) : Box lo (w.setRow g cs) v t c := by
  obtain ⟨g', rfl, hl, hg⟩ := h
  exact ⟨g', rfl, hl, hg.farRow (fun e' => e (by rw [e'])) cs⟩
theorem off_of {p : Prop} {b : Bool} (h : b = true → p) (hp : ¬ p) : b = false := by
  cases b with
  | false => rfl
  | true => exact absurd (h rfl) hp
theorem nt {b : Bool} (h : b = false) : ¬ b = true := by rw [h]; decide
end Go.Proofs.Yteplplmfepamdaa
