/-
Frames: plain mathematics of records on bytes. No program is named here.
-/
import Derived.Test.YtejehmimidnaiaaCrc
namespace Go.Proofs.Ytejehmimidnaiaa
namespace Fr
set_option linter.unusedSimpArgs false
set_option linter.unusedVariables false

/-- Bytes of a list. -/
def at' (b : List Nat) (i : Nat) : Nat := b.getD i 0
/-- How many bytes the frame has with which bytes begin; 0, if it is not whole. -/
def whole (b : List Nat) : Nat :=
  if b.length < 4 ∨ at' b 0 ≠ 90 then 0
  else if b.length < 9 + (at' b 2 * 256 + at' b 3) ∨ at' b (8 + (at' b 2 * 256 + at' b 3)) ≠ 165 then 0
  else 9 + (at' b 2 * 256 + at' b 3)
def rightB (k : Int) (n : Nat) : Bool := decide (1 ≤ k) && (decide (k ≤ 255) && decide (n ≤ 60000))
def big4 (s : Nat) : List Nat := [s / 16777216 % 256, s / 65536 % 256, s / 256 % 256, s % 256]
/-- The record of a whole frame of n bytes: its kind, its bytes, and its error. -/
def kindOf (b : List Nat) : Nat := at' b 1
def dataOf (b : List Nat) (n : Nat) : List Nat := (b.take (n - 5)).drop 4
def sumAt (b : List Nat) (n : Nat) : Nat := at' b (n - 5) * 16777216 + at' b (n - 4) * 65536 + at' b (n - 3) * 256 + at' b (n - 2)
/-- 0: fine; 3: form; 5: sum. -/
def errOf (eForm eSum : Nat) (b : List Nat) (n : Nat) : Nat :=
  if rightB (kindOf b) (dataOf b n).length = false then eForm
  else if sumAt b n = Crc.sum (kindOf b :: dataOf b n) then 0 else eSum
/-- The records that stand on bytes, how many bytes these have, and the error. -/
def readF (eForm eSum : Nat) : Nat → List Nat → List (Nat × List Nat) × Nat × Nat
  | 0, _ => ([], 0, 0)
  | fuel + 1, b =>
    if whole b = 0 then ([], 0, 0)
    else if errOf eForm eSum b (whole b) ≠ 0 then ([], 0, errOf eForm eSum b (whole b))
    else ((kindOf b, dataOf b (whole b)) :: (readF eForm eSum fuel (b.drop (whole b))).1, whole b + (readF eForm eSum fuel (b.drop (whole b))).2.1, (readF eForm eSum fuel (b.drop (whole b))).2.2)
/-- A record's frame. -/
def frame (k : Nat) (d : List Nat) : List Nat := [90, k, d.length / 256 % 256, d.length % 256] ++ d ++ big4 (Crc.sum (k :: d)) ++ [165]
theorem frame_len (k : Nat) (d : List Nat) : (frame k d).length = 9 + d.length := by simp [frame, big4]; omega
theorem at_app_left {a b : List Nat} {i : Nat} (h : i < a.length) : at' (a ++ b) i = at' a i := by
  unfold at'; simp [List.getD_eq_getElem?_getD, List.getElem?_append_left h]
theorem at_app_right {a b : List Nat} {i : Nat} : at' (a ++ b) (a.length + i) = at' b i := by
  unfold at'; simp [List.getD_eq_getElem?_getD, List.getElem?_append_right]
theorem at_take {b : List Nat} {i n : Nat} (h : i < n) : at' (b.take n) i = at' b i := by
  unfold at'; simp [List.getD_eq_getElem?_getD, List.getElem?_take, h]
theorem whole_le (b : List Nat) : whole b ≤ b.length := by
  unfold whole; split
  · omega
  · split <;> omega
theorem whole_ge {b : List Nat} (h : whole b ≠ 0) : 9 ≤ whole b := by
  unfold whole at *; split at h
  · omega
  · split at h
    · omega
    · rw [if_neg (by assumption), if_neg (by assumption)]; omega
theorem whole_not {b : List Nat} (h : b.length < 9) : whole b = 0 := by
  unfold whole; split
  · rfl
  · rw [if_pos]; left; omega
/-- The front of a frame with bytes behind it. -/
theorem frame_at {k : Nat} {d : List Nat} (r : List Nat) (hd : d.length ≤ 60000) : at' (frame k d ++ r) 0 = 90 ∧ at' (frame k d ++ r) 1 = k ∧ at' (frame k d ++ r) 2 = d.length / 256 % 256 ∧ at' (frame k d ++ r) 3 = d.length % 256 := by
  unfold frame
  refine ⟨rfl, rfl, rfl, rfl⟩
theorem frame_foot {k : Nat} {d : List Nat} (r : List Nat) (i : Nat) (hi : i < 5) : at' (frame k d ++ r) (4 + d.length + i) = at' (big4 (Crc.sum (k :: d)) ++ [165]) i := by
  have e : frame k d ++ r = ([90, k, d.length / 256 % 256, d.length % 256] ++ d) ++ ((big4 (Crc.sum (k :: d)) ++ [165]) ++ r) := by unfold frame; simp
  have hl : ([90, k, d.length / 256 % 256, d.length % 256] ++ d).length = 4 + d.length := by simp; omega
  rw [e, ← hl, at_app_right, at_app_left]
  simp [big4]; omega
theorem whole_frame {k : Nat} {d : List Nat} (r : List Nat) (hd : d.length ≤ 60000) : whole (frame k d ++ r) = 9 + d.length := by
  obtain ⟨h0, h1, h2, h3⟩ := frame_at (k := k) r hd
  have hn : at' (frame k d ++ r) 2 * 256 + at' (frame k d ++ r) 3 = d.length := by rw [h2, h3]; omega
  have hl : (frame k d ++ r).length = 9 + d.length + r.length := by rw [List.length_append, frame_len]
  have hf := frame_foot (k := k) (d := d) r 4 (by omega)
  unfold whole
  rw [hn, hl, h0, if_neg (by omega), if_neg]
  rw [not_or]
  refine ⟨by omega, fun h => h ?_⟩
  rw [show 8 + d.length = 4 + d.length + 4 by omega, hf]
  rfl
theorem data_frame {k : Nat} {d : List Nat} (r : List Nat) (hd : d.length ≤ 60000) : dataOf (frame k d ++ r) (9 + d.length) = d := by
  unfold dataOf frame
  rw [show 9 + d.length - 5 = d.length + 4 by omega]
  simp
theorem kind_frame {k : Nat} {d : List Nat} (r : List Nat) (hd : d.length ≤ 60000) : kindOf (frame k d ++ r) = k := (frame_at r hd).2.1
theorem big4_sum {s : Nat} (h : s < 4294967296) : s / 16777216 % 256 * 16777216 + s / 65536 % 256 * 65536 + s / 256 % 256 * 256 + s % 256 = s := by omega
theorem sum_frame {k : Nat} {d : List Nat} (r : List Nat) (hk : k < 256) (hd : d.length ≤ 60000) (h256 : ∀ x ∈ d, x < 256) : sumAt (frame k d ++ r) (9 + d.length) = Crc.sum (k :: d) := by
  unfold sumAt
  rw [show 9 + d.length - 5 = 4 + d.length + 0 by omega, show 9 + d.length - 4 = 4 + d.length + 1 by omega, show 9 + d.length - 3 = 4 + d.length + 2 by omega, show 9 + d.length - 2 = 4 + d.length + 3 by omega,
    frame_foot r 0 (by omega), frame_foot r 1 (by omega), frame_foot r 2 (by omega), frame_foot r 3 (by omega)]
  exact big4_sum (Crc.sum_lt (by intro x hx; rcases List.mem_cons.1 hx with rfl | hx; exact hk; exact h256 x hx))
theorem err_frame {eF eS k : Nat} {d : List Nat} (r : List Nat) (h1 : 1 ≤ k) (hk : k < 256) (hd : d.length ≤ 60000) (h256 : ∀ x ∈ d, x < 256) : errOf eF eS (frame k d ++ r) (whole (frame k d ++ r)) = 0 := by
  unfold errOf
  rw [whole_frame r hd, data_frame r hd, kind_frame r hd, sum_frame r hk hd h256, if_neg, if_pos rfl]
  unfold rightB
  simp; omega
/-- Fuel enough is fuel enough. -/
theorem readF_fuel {eF eS : Nat} : ∀ (n m : Nat) (b : List Nat), b.length ≤ 9 * n → b.length ≤ 9 * m → readF eF eS (n + 1) b = readF eF eS (m + 1) b := by
  intro n
  induction n with
  | zero =>
    intro m b hn hm
    have : whole b = 0 := whole_not (by omega)
    simp only [readF, this, if_true]
  | succ n ih =>
    intro m b hn hm
    by_cases hw : whole b = 0
    · simp only [readF, hw, if_true]
    · have h9 := whole_ge hw
      have hle := whole_le b
      cases m with
      | zero => omega
      | succ m =>
        have hl : (b.drop (whole b)).length = b.length - whole b := List.length_drop
        have := ih m (b.drop (whole b)) (by omega) (by omega)
        rw [readF, this]
        conv => rhs; rw [readF]
/-- The records that stand on bytes. -/
def readB (eF eS : Nat) (b : List Nat) : List (Nat × List Nat) × Nat × Nat := readF eF eS (b.length + 1) b
theorem readB_nil {eF eS : Nat} {b : List Nat} (h : whole b = 0) : readB eF eS b = ([], 0, 0) := by
  unfold readB readF; rw [if_pos h]
theorem readB_bad {eF eS : Nat} {b : List Nat} (h : whole b ≠ 0) (he : errOf eF eS b (whole b) ≠ 0) : readB eF eS b = ([], 0, errOf eF eS b (whole b)) := by
  unfold readB readF; rw [if_neg h, if_pos he]
theorem readB_cons {eF eS : Nat} {b : List Nat} (h : whole b ≠ 0) (he : errOf eF eS b (whole b) = 0) :
    readB eF eS b = ((kindOf b, dataOf b (whole b)) :: (readB eF eS (b.drop (whole b))).1, whole b + (readB eF eS (b.drop (whole b))).2.1, (readB eF eS (b.drop (whole b))).2.2) := by
  have h9 := whole_ge h
  have hle := whole_le b
  have hl : (b.drop (whole b)).length = b.length - whole b := List.length_drop
  unfold readB
  rw [readF, if_neg h, if_neg (by omega)]
  have : readF eF eS b.length (b.drop (whole b)) = readF eF eS ((b.drop (whole b)).length + 1) (b.drop (whole b)) := by
    have := readF_fuel (eF := eF) (eS := eS) (b.length - 1) (b.drop (whole b)).length (b.drop (whole b)) (by omega) (by omega)
    rwa [show b.length - 1 + 1 = b.length by omega] at this
  rw [this]
/-- Behind a frame. -/
theorem readB_frame {eF eS k : Nat} {d : List Nat} (r : List Nat) (h1 : 1 ≤ k) (hk : k < 256) (hd : d.length ≤ 60000) (h256 : ∀ x ∈ d, x < 256) :
    readB eF eS (frame k d ++ r) = ((k, d) :: (readB eF eS r).1, (frame k d).length + (readB eF eS r).2.1, (readB eF eS r).2.2) := by
  have hw := whole_frame (k := k) r hd
  rw [readB_cons (by rw [hw]; omega) (err_frame r h1 hk hd h256), hw, kind_frame r hd, data_frame r hd]
  have : (frame k d ++ r).drop (9 + d.length) = r := by rw [← frame_len k d, List.drop_left]
  rw [this, frame_len]
/-- Frames, one behind the other. -/
def frames (l : List (Nat × List Nat)) : List Nat := l.flatMap fun x => frame x.1 x.2
def Fine (x : Nat × List Nat) : Prop := 1 ≤ x.1 ∧ x.1 < 256 ∧ x.2.length ≤ 60000 ∧ ∀ y ∈ x.2, y < 256
theorem readB_frames {eF eS : Nat} : ∀ (l : List (Nat × List Nat)) (r : List Nat), (∀ x ∈ l, Fine x) →
    readB eF eS (frames l ++ r) = (l ++ (readB eF eS r).1, (frames l).length + (readB eF eS r).2.1, (readB eF eS r).2.2)
  | [], r, _ => by simp [frames]
  | x :: l, r, h => by
    obtain ⟨h1, h2, h3, h4⟩ := h x (by simp)
    have ih := readB_frames (eF := eF) (eS := eS) l r (fun y hy => h y (by simp [hy]))
    have e : frames (x :: l) ++ r = frame x.1 x.2 ++ (frames l ++ r) := by simp [frames]
    rw [e, readB_frame _ h1 h2 h3 h4, ih]
    simp [frames]; omega
/-- A frame of which just the first bytes last, with noughts behind, is not whole. -/
theorem whole_torn {k : Nat} {d : List Nat} (n m : Nat) (hd : d.length ≤ 60000) (hn : n < (frame k d).length) : whole ((frame k d).take n ++ List.replicate m 0) = 0 := by
  have hfl := frame_len k d
  have hz : ∀ i, n ≤ i → at' ((frame k d).take n ++ List.replicate m 0) i = 0 := by
    intro i hi
    have hl : ((frame k d).take n).length = n := by rw [List.length_take]; omega
    obtain ⟨j, rfl⟩ : ∃ j, i = n + j := ⟨i - n, by omega⟩
    conv => lhs; rw [show n + j = ((frame k d).take n).length + j by rw [hl]]
    rw [at_app_right]
    unfold at'
    rw [List.getD_eq_getElem?_getD, List.getElem?_replicate]
    split <;> rfl
  have hlow : ∀ i, i < n → at' ((frame k d).take n ++ List.replicate m 0) i = at' (frame k d) i := by
    intro i hi
    rw [at_app_left (by rw [List.length_take]; omega), at_take hi]
  have h4 := frame_at (k := k) (d := d) [] hd
  rw [List.append_nil] at h4
  obtain ⟨f0, f1, f2, f3⟩ := h4
  unfold whole
  by_cases h0 : n = 0
  · rw [if_pos]; right; rw [hz 0 (by omega)]; decide
  · split
    · rfl
    · rw [if_pos]
      obtain ⟨N, hN⟩ : ∃ N, N = at' ((frame k d).take n ++ List.replicate m 0) 2 * 256 + at' ((frame k d).take n ++ List.replicate m 0) 3 := ⟨_, rfl⟩
      rw [← hN]
      by_cases h8 : n ≤ 8 + N
      · right; rw [hz _ h8]; decide
      · exfalso
        rw [hlow 2 (by omega), hlow 3 (by omega), f2, f3] at hN
        omega
theorem kind_take {b : List Nat} {n : Nat} (h : 9 ≤ n) : kindOf (b.take n) = kindOf b := at_take (by omega)
theorem data_take {b : List Nat} {n : Nat} : dataOf (b.take n) n = dataOf b n := by
  unfold dataOf
  rw [List.take_take, show min (n - 5) n = n - 5 by omega]
theorem err_take {eF eS : Nat} {b : List Nat} {n : Nat} (h : 9 ≤ n) : errOf eF eS (b.take n) n = errOf eF eS b n := by
  have hs : sumAt (b.take n) n = sumAt b n := by
    unfold sumAt
    rw [at_take (by omega), at_take (by omega), at_take (by omega), at_take (by omega)]
  unfold errOf
  rw [data_take, kind_take h, hs]
/-- Behind t bytes, of which the records m are. -/
def Part (eF eS : Nat) (b : List Nat) (t : Nat) (m : List (Nat × List Nat)) : Prop :=
  readB eF eS b = (m ++ (readB eF eS (b.drop t)).1, t + (readB eF eS (b.drop t)).2.1, (readB eF eS (b.drop t)).2.2)
theorem part_zero {eF eS : Nat} {b : List Nat} : Part eF eS b 0 [] := by unfold Part; simp
theorem part_end {eF eS : Nat} {b : List Nat} {t : Nat} {m : List (Nat × List Nat)} (h : Part eF eS b t m) (hw : whole (b.drop t) = 0) : readB eF eS b = (m, t, 0) := by
  rw [h, readB_nil hw]; simp
theorem part_bad {eF eS : Nat} {b : List Nat} {t : Nat} {m : List (Nat × List Nat)} (h : Part eF eS b t m) (hw : whole (b.drop t) ≠ 0) (he : errOf eF eS (b.drop t) (whole (b.drop t)) ≠ 0) : readB eF eS b = (m, t, errOf eF eS (b.drop t) (whole (b.drop t))) := by
  rw [h, readB_bad hw he]; simp
theorem part_next {eF eS : Nat} {b : List Nat} {t : Nat} {m : List (Nat × List Nat)} (h : Part eF eS b t m) (hw : whole (b.drop t) ≠ 0) (he : errOf eF eS (b.drop t) (whole (b.drop t)) = 0) : Part eF eS b (t + whole (b.drop t)) (m ++ [(kindOf (b.drop t), dataOf (b.drop t) (whole (b.drop t)))]) := by
  unfold Part
  rw [h, readB_cons hw he, List.drop_drop]
  simp [Nat.add_assoc]
theorem readF_le (eF eS : Nat) : ∀ (n : Nat) (b : List Nat), (readF eF eS n b).2.1 ≤ b.length ∧ (readF eF eS n b).1.length ≤ b.length
  | 0, b => ⟨Nat.zero_le _, Nat.zero_le _⟩
  | n + 1, b => by
    have ih := readF_le eF eS n (b.drop (whole b))
    have hw := whole_le b
    rw [List.length_drop] at ih
    unfold readF
    split
    · exact ⟨Nat.zero_le _, Nat.zero_le _⟩
    · rename_i h
      have h9 := whole_ge h
      split
      · exact ⟨Nat.zero_le _, Nat.zero_le _⟩
      · simp only [List.length_cons]; omega
theorem readB_le (eF eS : Nat) (b : List Nat) : (readB eF eS b).2.1 ≤ b.length := (readF_le eF eS _ b).1
theorem readB_many (eF eS : Nat) (b : List Nat) : (readB eF eS b).1.length ≤ b.length := (readF_le eF eS _ b).2
theorem readF_256 (eF eS : Nat) : ∀ (n : Nat) (b : List Nat), (∀ x ∈ b, x < 256) → ∀ y ∈ (readF eF eS n b).1, ∀ x ∈ y.2, x < 256
  | 0, b, _ => by intro y hy; cases hy
  | n + 1, b, h => by
    have ih := readF_256 eF eS n (b.drop (whole b)) (fun x hx => h x (List.mem_of_mem_drop hx))
    unfold readF
    split
    · intro y hy; cases hy
    · split
      · intro y hy; cases hy
      · intro y hy
        rcases List.mem_cons.1 hy with rfl | hy
        · intro x hx
          exact h x (List.mem_of_mem_take (List.mem_of_mem_drop hx))
        · exact ih y hy
theorem readB_256 (eF eS : Nat) (b : List Nat) (h : ∀ x ∈ b, x < 256) : ∀ y ∈ (readB eF eS b).1, ∀ x ∈ y.2, x < 256 := readF_256 eF eS _ b h
end Fr
end Go.Proofs.Ytejehmimidnaiaa
