/-
wire: what is written is read as it was; a beginning of it is too short; what is read is what would be written.
-/
import Derived.Test.YtifoheodcbjapaaRead6
import Derived.Test.YtifoheodcbjapaaNum
namespace Go.Proofs.Ytifoheodcbjapaa

/-- What is read of these bytes is this, and no more; of a beginning of them it is too short. -/
def Back {α : Type} (P : List Nat → Except Int (α × List Nat)) (E : List Nat) (x : α) : Prop :=
  (∀ t, P (E ++ t) = .ok (x, t)) ∧ ∀ k, k < E.length → P (E.take k) = .error 8

/-- One reader behind another one. -/
def bindP {α β : Type} (P : List Nat → Except Int (α × List Nat)) (Q : α → List Nat → Except Int (β × List Nat)) (bs : List Nat) : Except Int (β × List Nat) :=
  match P bs with
  | .ok (x, t) => Q x t
  | .error e => .error e
theorem bindP_ok {α β : Type} {P : List Nat → Except Int (α × List Nat)} {Q : α → List Nat → Except Int (β × List Nat)} {bs t : List Nat} {x : α} (h : P bs = .ok (x, t)) : bindP P Q bs = Q x t := by
  unfold bindP; rw [h]
theorem bindP_err {α β : Type} {P : List Nat → Except Int (α × List Nat)} {Q : α → List Nat → Except Int (β × List Nat)} {bs : List Nat} {e : Int} (h : P bs = .error e) : bindP P Q bs = .error e := by
  unfold bindP; rw [h]
theorem Back.bind {α β : Type} {P : List Nat → Except Int (α × List Nat)} {Q : α → List Nat → Except Int (β × List Nat)} {E F : List Nat} {x : α} {y : β} (h : Back P E x) (k : Back (Q x) F y) : Back (bindP P Q) (E ++ F) y := by
  refine ⟨fun t => ?_, fun n hn => ?_⟩
  · rw [List.append_assoc, bindP_ok (h.1 _), k.1]
  · by_cases hlt : n < E.length
    · rw [List.take_append_of_le_length (by omega), bindP_err (h.2 n hlt)]
    · rw [List.take_append, List.take_of_length_le (by omega), bindP_ok (h.1 _), k.2 _ (by rw [List.length_append] at hn; omega)]
theorem back_pure {α : Type} (x : α) : Back (fun bs => .ok (x, bs)) [] x := ⟨fun t => rfl, fun k hk => by simp at hk⟩

theorem numP_step {b : Bool} {n x : Nat} {t : List Nat} (h : (b && x == 128) = false) (hn : n ≤ 144115188075855871) (hx : 128 ≤ x) : numP b n (x :: t) = numP false (n * 128 + x % 128) t :=
  numP_next h (by omega) (by omega)
theorem numP_hi : ∀ (m : Nat), m < 18446744073709551616 → ∀ r, numP true 0 (encHi m ++ r) = if m = 0 then numP true 0 r else numP false m r := by
  intro m
  induction m using Nat.strongRecOn with
  | _ m ih =>
    intro hm r
    by_cases h0 : m = 0
    · subst h0; rw [encHi_zero, if_pos rfl]; rfl
    · rw [if_neg h0, encHi_step (by omega), List.append_assoc, List.singleton_append, ih (m / 128) (by omega) (by omega)]
      by_cases h1 : m / 128 = 0
      · rw [if_pos h1, numP_step (by simp; omega) (by omega) (by omega)]
        congr 1; omega
      · rw [if_neg h1, numP_step (by simp) (by omega) (by omega)]
        congr 1; omega
theorem numP_enc (n : Nat) (hn : n < 18446744073709551616) (t : List Nat) : numP true 0 (enc n ++ t) = .ok (n, t) := by
  unfold enc
  rw [List.append_assoc, List.singleton_append, numP_hi _ (by omega)]
  by_cases h1 : n / 128 = 0
  · rw [if_pos h1, numP_last (by simp; omega) (by omega) (by omega)]
    congr 2; omega
  · rw [if_neg h1, numP_last (by simp) (by omega) (by omega)]
    congr 2; omega

/-- A beginning of high digits is the high digits of something. -/
theorem encHi_take : ∀ (m k : Nat), ∃ m', m' ≤ m ∧ (encHi m).take k = encHi m' := by
  intro m
  induction m using Nat.strongRecOn with
  | _ m ih =>
    intro k
    by_cases h0 : m = 0
    · subst h0; exact ⟨0, Nat.le_refl _, by rw [encHi_zero]; simp⟩
    · by_cases hk : (encHi m).length ≤ k
      · exact ⟨m, Nat.le_refl _, List.take_of_length_le hk⟩
      · obtain ⟨m', h1, h2⟩ := ih (m / 128) (by omega) k
        refine ⟨m', by omega, ?_⟩
        rw [encHi_step (by omega)] at hk ⊢
        rw [List.length_append] at hk
        simp only [List.length_singleton] at hk
        rw [List.take_append_of_le_length (by omega), h2]
theorem enc_cut (n k : Nat) (hn : n < 18446744073709551616) (hk : k < (enc n).length) : numP true 0 ((enc n).take k) = .error 8 := by
  unfold enc at hk ⊢
  rw [List.length_append] at hk
  simp only [List.length_singleton] at hk
  rw [List.take_append_of_le_length (by omega)]
  obtain ⟨m', h1, h2⟩ := encHi_take (n / 128) k
  rw [h2]
  have := numP_hi m' (by omega) []
  rw [List.append_nil] at this
  rw [this]
  split <;> rfl
theorem num_back (n : Nat) (hn : n < 18446744073709551616) : Back (numP true 0) (enc n) n := ⟨numP_enc n hn, fun k hk => enc_cut n k hn hk⟩

/-- What is read as a number is its bytes. -/
theorem numP_one : ∀ (bs : List Nat) (b : Bool) (n v : Nat) (t : List Nat), (∀ x ∈ bs, x < 256) → (b = true → n = 0) → (b = false → 0 < n) → numP b n bs = .ok (v, t) → encHi n ++ bs = enc v ++ t := by
  intro bs
  induction bs with
  | nil => intro b n v t _ _ _ h; simp [numP] at h
  | cons x l ih =>
    intro b n v t hb h1 h2 h
    have hx : x < 256 := hb x (by simp)
    unfold numP at h
    split at h
    · cases h
    · rename_i h8
      split at h
      · cases h
      · split at h
        · rename_i hlt
          cases h
          unfold enc
          have e1 : (n * 128 + x % 128) / 128 = n := by omega
          have e2 : (n * 128 + x % 128) % 128 = x := by omega
          rw [e1, e2, List.append_assoc, List.singleton_append]
        · rename_i hge
          have hpos : 0 < n * 128 + x % 128 := by
            cases b with
            | true => simp at h8; omega
            | false => have := h2 rfl; omega
          have := ih false (n * 128 + x % 128) v t (fun y hy => hb y (by simp [hy])) (by simp) (fun _ => hpos) h
          rw [← this, encHi_step hpos, show (n * 128 + x % 128) / 128 = n by omega, show (n * 128 + x % 128) % 128 + 128 = x by omega, List.append_assoc, List.singleton_append]
theorem num_one {bs : List Nat} {v : Nat} {t : List Nat} (hb : ∀ x ∈ bs, x < 256) (h : numP true 0 bs = .ok (v, t)) : bs = enc v ++ t := by
  have := numP_one bs true 0 v t hb (fun _ => rfl) (by simp) h
  rwa [encHi_zero, List.nil_append] at this

theorem smallP_of {most : Int} {bs : List Nat} {v : Nat} {t : List Nat} (h : numP true 0 bs = .ok (v, t)) (h0 : (v : Int) ≤ most) : smallP most bs = .ok (v, t) := by
  unfold smallP; rw [h]; exact if_pos ⟨by omega, h0⟩
theorem smallP_err {most : Int} {bs : List Nat} {e : Int} (h : numP true 0 bs = .error e) : smallP most bs = .error e := by
  unfold smallP; rw [h]
theorem small_back (most : Int) (n : Nat) (hn : n < 18446744073709551616) (hm : (n : Int) ≤ most) : Back (smallP most) (enc n) n :=
  ⟨fun t => smallP_of (numP_enc n hn t) hm, fun k hk => smallP_err (enc_cut n k hn hk)⟩
theorem small_ok {most : Int} {bs : List Nat} {v : Nat} {t : List Nat} (h : smallP most bs = .ok (v, t)) : numP true 0 bs = .ok (v, t) ∧ (v : Int) ≤ most := by
  unfold smallP at h
  split at h
  · rename_i v' t' hn
    split at h
    · rename_i hc; cases h; exact ⟨hn, hc.2⟩
    · cases h
  · cases h
theorem small_one {most : Int} {bs : List Nat} {v : Nat} {t : List Nat} (hb : ∀ x ∈ bs, x < 256) (h : smallP most bs = .ok (v, t)) : bs = enc v ++ t := num_one hb (small_ok h).1

theorem text_back (most : Int) (x : List Nat) (hx : x.length < 18446744073709551616) (hm : (x.length : Int) ≤ most) : Back (textP most) (enc x.length ++ x) x := by
  refine ⟨fun t => ?_, fun k hk => ?_⟩
  · unfold textP
    rw [List.append_assoc, (small_back most _ hx hm).1]
    simp
  · unfold textP
    by_cases hlt : k < (enc x.length).length
    · rw [List.take_append_of_le_length (by omega), (small_back most _ hx hm).2 k hlt]
    · rw [List.take_append, List.take_of_length_le (by omega), (small_back most _ hx hm).1]
      rw [List.length_append] at hk
      simp only []
      rw [if_neg (by rw [List.length_take]; omega)]
theorem text_one {most : Int} {bs x t : List Nat} (hb : ∀ y ∈ bs, y < 256) (h : textP most bs = .ok (x, t)) : bs = enc x.length ++ x ++ t := by
  unfold textP at h
  split at h
  · rename_i v u hs
    split at h
    · rename_i hle
      cases h
      have := small_one hb hs
      rw [this, List.length_take, Nat.min_eq_left hle, List.append_assoc, List.take_append_drop]
    · cases h
  · cases h

theorem zig_lt {i : Int} (h1 : -9223372036854775808 ≤ i) (h2 : i ≤ 9223372036854775807) : zig i < 18446744073709551616 := by unfold zig; split <;> omega
theorem intP_zig {i : Int} (h1 : -4611686018427387904 ≤ i) (h2 : i ≤ 4611686018427387904) {bs t : List Nat} (h : numP true 0 bs = .ok (zig i, t)) : intP bs = .ok (i, t) := by
  unfold intP
  rw [h]
  have hz : (i < 0 ∧ (zig i : Int) = -2 * i - 1) ∨ (0 ≤ i ∧ (zig i : Int) = 2 * i) := by unfold zig; split <;> omega
  simp only []
  rw [if_pos (by omega)]
  split
  · congr 2; omega
  · congr 2; omega
theorem int_back (i : Int) (h1 : -4611686018427387904 ≤ i) (h2 : i ≤ 4611686018427387904) : Back intP (enc (zig i)) i := by
  have hz := zig_lt (i := i) (by omega) (by omega)
  refine ⟨fun t => intP_zig h1 h2 (numP_enc _ hz t), fun k hk => ?_⟩
  unfold intP
  rw [enc_cut _ k hz hk]
theorem int_one {bs : List Nat} {i : Int} {t : List Nat} (hb : ∀ x ∈ bs, x < 256) (h : intP bs = .ok (i, t)) : bs = enc (zig i) ++ t ∧ -4611686018427387904 ≤ i ∧ i ≤ 4611686018427387904 := by
  unfold intP at h
  split at h
  · rename_i v u hn
    split at h
    · rename_i hle
      cases h
      have h1 := num_one hb hn
      have hz : zig (if v % 2 = 1 then -((v / 2 + v % 2 : Nat) : Int) else ((v / 2 + v % 2 : Nat) : Int)) = v := by
        unfold zig
        split <;> split <;> omega
      rw [hz]
      refine ⟨h1, ?_, ?_⟩ <;> split <;> omega
    · cases h
  · cases h

/-- A float's bytes, the greatest first. -/
def be8 (k : Nat) : List Nat := (List.range 8).map fun i => k / 256 ^ (7 - i) % 256
theorem be8_len (k : Nat) : (be8 k).length = 8 := by simp [be8]
theorem be8_list (k : Nat) : be8 k = [k / 72057594037927936 % 256, k / 281474976710656 % 256, k / 1099511627776 % 256, k / 4294967296 % 256, k / 16777216 % 256, k / 65536 % 256, k / 256 % 256, k % 256] := by
  unfold be8; simp [List.range_succ]
/-- The number that bytes are. -/
def beN (bs : List Nat) : Nat := bs.foldl (fun k c => k * 256 + c) 0
theorem beN_be8 (k : Nat) (hk : k < 18446744073709551616) : beN (be8 k) = k := by
  rw [be8_list]; simp only [beN, List.foldl]; omega
theorem be8_beN {bs : List Nat} (hl : bs.length = 8) (hb : ∀ x ∈ bs, x < 256) : be8 (beN bs) = bs ∧ beN bs < 18446744073709551616 := by
  match bs, hl with
  | [a, b, c, d, e, f, g, h], _ =>
    simp only [List.mem_cons, List.not_mem_nil, or_false, forall_eq_or_imp, forall_eq] at hb
    obtain ⟨h1, h2, h3, h4, h5, h6, h7, h8⟩ := hb
    rw [be8_list]
    simp only [beN, List.foldl]
    refine ⟨?_, by omega⟩
    simp only [List.cons.injEq, and_true]
    refine ⟨?_, ?_, ?_, ?_, ?_, ?_, ?_, ?_⟩ <;> omega
/-- What a float's bytes tell. -/
def floatP (bs : List Nat) : Except Int (Nat × List Nat) :=
  if 8 ≤ bs.length then .ok (Num.unkey (beN (bs.take 8)), bs.drop 8) else .error 8
def encF (b : Nat) : List Nat := be8 (Num.key b)
theorem float_back (b : Nat) (hb : b < 18446744073709551616) : Back floatP (encF b) b := by
  refine ⟨fun t => ?_, fun k hk => ?_⟩
  · unfold floatP encF
    rw [if_pos (by rw [List.length_append, be8_len]; omega)]
    rw [List.take_append_of_le_length (by rw [be8_len]; omega), List.drop_append_of_le_length (by rw [be8_len]; omega), List.take_of_length_le (by rw [be8_len]; omega), List.drop_of_length_le (by rw [be8_len]; omega), List.nil_append, beN_be8 _ (Num.key_lt hb), Num.unkey_key hb]
  · unfold floatP encF at *
    rw [be8_len] at hk
    rw [if_neg (by rw [List.length_take, be8_len]; omega)]
theorem key_unkey {k : Nat} (h : k < 18446744073709551616) : Num.key (Num.unkey k) = k := by unfold Num.key Num.unkey; split <;> split <;> omega
theorem float_one {bs : List Nat} {b : Nat} {t : List Nat} (hb : ∀ x ∈ bs, x < 256) (h : floatP bs = .ok (b, t)) : bs = encF b ++ t ∧ b < 18446744073709551616 := by
  unfold floatP at h
  split at h
  · rename_i hle
    cases h
    have h8 := be8_beN (bs := bs.take 8) (by rw [List.length_take]; omega) (fun x hx => hb x (List.mem_of_mem_take hx))
    refine ⟨?_, Num.unkey_lt h8.2⟩
    unfold encF
    rw [key_unkey h8.2, h8.1, List.take_append_drop]
  · cases h

/-- What k numbers of a vector's bytes tell, behind these. -/
def vecP : List Nat → Nat → List Nat → Except Int (List Nat × List Nat)
  | acc, 0, bs => .ok (acc, bs)
  | acc, k + 1, bs => match numP true 0 bs with
    | .ok (v, t) => if v ≤ 4294967295 then (if 0 < v ∨ 0 < k then vecP (acc ++ [v]) k t else .error 3) else .error 3
    | .error e => .error e
/-- What a vector's bytes tell. -/
def vectorP (bs : List Nat) : Except Int (List Nat × List Nat) :=
  match smallP 12 bs with
  | .ok (n, t) => vecP [] n t
  | .error e => .error e
/-- Of a list the vector. -/
def lv (l : List Nat) : Nat → Nat := fun i => l.getD i 0
theorem lv_over {l : List Nat} {i : Nat} (h : l.length ≤ i) : lv l i = 0 := by unfold lv; simp [List.getD, List.getElem?_eq_none h]
/-- How many of the first k numbers of a vector are left, if the noughts behind are struck. -/
def topV (f : Nat → Nat) : Nat → Nat
  | 0 => 0
  | k + 1 => if f k = 0 then topV f k else k + 1
theorem topV_le (f : Nat → Nat) : ∀ k, topV f k ≤ k
  | 0 => Nat.le_refl _
  | k + 1 => by unfold topV; split; exact Nat.le_succ_of_le (topV_le f k); exact Nat.le_refl _
theorem topV_zero (f : Nat → Nat) : ∀ k i, topV f k ≤ i → i < k → f i = 0
  | 0, i, _, h => by omega
  | k + 1, i, h1, h2 => by
    unfold topV at h1
    split at h1
    · rename_i h0
      by_cases hik : i = k
      · rw [hik]; exact h0
      · exact topV_zero f k i h1 (by omega)
    · omega
theorem topV_last (f : Nat → Nat) : ∀ k, 0 < topV f k → 0 < f (topV f k - 1)
  | 0, h => by unfold topV at h; omega
  | k + 1, h => by
    unfold topV at h ⊢
    split
    · rename_i h0; rw [if_pos h0] at h; exact topV_last f k h
    · rename_i h0; rw [Nat.add_sub_cancel]; omega
/-- The numbers of a vector that are written. -/
def trimV (f : Nat → Nat) : List Nat := (List.range (topV f 12)).map f
theorem trimV_len (f : Nat → Nat) : (trimV f).length = topV f 12 := by simp [trimV]
theorem lv_trim (f : Nat → Nat) : ∀ i, i < 12 → lv (trimV f) i = f i := by
  intro i hi
  by_cases h : i < topV f 12
  · unfold lv trimV
    simp [List.getD, List.getElem?_map, List.getElem?_range h]
  · rw [lv_over (by rw [trimV_len]; omega), topV_zero f 12 i (by omega) hi]
def encs (l : List Nat) : List Nat := l.flatMap enc
def encV (f : Nat → Nat) : List Nat := enc (topV f 12) ++ encs (trimV f)
theorem vecP_encs : ∀ (l acc t : List Nat), (∀ x ∈ l, x < 4294967296) → (l ≠ [] → 0 < l.getLastD 0) → vecP acc l.length (encs l ++ t) = .ok (acc ++ l, t)
  | [], acc, t, _, _ => by simp [vecP, encs]
  | x :: l, acc, t, h1, h2 => by
    have hx := h1 x (by simp)
    rw [List.length_cons]
    unfold vecP
    rw [show encs (x :: l) ++ t = enc x ++ (encs l ++ t) by simp [encs], numP_enc x (by omega)]
    simp only []
    rw [if_pos (by omega), if_pos, vecP_encs l (acc ++ [x]) t (fun y hy => h1 y (by simp [hy]))]
    · simp
    · intro hne; have := h2 (by simp); cases l with
      | nil => exact absurd rfl hne
      | cons y l => simpa using this
    · cases l with
      | nil => left; have := h2 (by simp); simpa using this
      | cons y l => right; simp
theorem vecP_cut : ∀ (l acc : List Nat) (k : Nat), (∀ x ∈ l, x < 4294967296) → (l ≠ [] → 0 < l.getLastD 0) → k < (encs l).length → vecP acc l.length ((encs l).take k) = .error 8
  | [], acc, k, _, _, hk => by simp [encs] at hk
  | x :: l, acc, k, h1, h2, hk => by
    have hx := h1 x (by simp)
    have he : encs (x :: l) = enc x ++ encs l := by simp [encs]
    rw [he] at hk ⊢
    rw [List.length_cons]
    unfold vecP
    by_cases hlt : k < (enc x).length
    · rw [List.take_append_of_le_length (by omega), enc_cut x k (by omega) hlt]
    · rw [List.length_append] at hk
      rw [List.take_append, List.take_of_length_le (by omega), numP_enc x (by omega)]
      simp only []
      rw [if_pos (by omega), if_pos, vecP_cut l (acc ++ [x]) _ (fun y hy => h1 y (by simp [hy]))]
      · intro hne; have := h2 (by simp); cases l with
        | nil => exact absurd rfl hne
        | cons y l => simpa using this
      · omega
      · cases l with
        | nil => left; have := h2 (by simp); simpa using this
        | cons y l => right; simp
theorem trimV_last (f : Nat → Nat) : trimV f ≠ [] → 0 < (trimV f).getLastD 0 := by
  intro h
  have hp : 0 < topV f 12 := by
    rcases Nat.eq_zero_or_pos (topV f 12) with h0 | h0
    · exact absurd (List.length_eq_zero_iff.1 (by rw [trimV_len, h0])) h
    · exact h0
  have := topV_last f 12 hp
  rw [List.getLastD_eq_getLast?, List.getLast?_eq_getElem?, trimV_len]
  unfold trimV
  rw [List.getElem?_map, List.getElem?_range (by omega)]
  simpa using this
theorem vector_back (f : Nat → Nat) (hf : ∀ i, f i < 4294967296) : Back vectorP (encV f) (trimV f) := by
  have h12 := topV_le f 12
  have hx : ∀ x ∈ trimV f, x < 4294967296 := by intro x hx; simp [trimV] at hx; obtain ⟨i, _, rfl⟩ := hx; exact hf i
  refine ⟨fun t => ?_, fun k hk => ?_⟩
  · unfold vectorP encV
    rw [List.append_assoc, (small_back 12 _ (by omega) (by omega)).1]
    have := vecP_encs (trimV f) [] t hx (trimV_last f)
    rw [trimV_len, List.nil_append] at this
    exact this
  · unfold vectorP
    unfold encV at hk ⊢
    rw [List.length_append] at hk
    by_cases hlt : k < (enc (topV f 12)).length
    · rw [List.take_append_of_le_length (by omega), (small_back 12 _ (by omega) (by omega)).2 k hlt]
    · rw [List.take_append, List.take_of_length_le (by omega), (small_back 12 _ (by omega) (by omega)).1]
      have := vecP_cut (trimV f) [] (k - (enc (topV f 12)).length) hx (trimV_last f) (by omega)
      rw [trimV_len] at this
      exact this
theorem vecP_one : ∀ (k : Nat) (bs acc l t : List Nat), (∀ x ∈ bs, x < 256) → vecP acc k bs = .ok (l, t) → ∃ r, l = acc ++ r ∧ r.length = k ∧ bs = encs r ++ t ∧ (∀ x ∈ r, x < 4294967296) ∧ (r ≠ [] → 0 < r.getLastD 0)
  | 0, bs, acc, l, t, _, h => by
    simp only [vecP, Except.ok.injEq, Prod.mk.injEq] at h
    obtain ⟨rfl, rfl⟩ := h
    exact ⟨[], by simp, rfl, by simp [encs], by simp, by simp⟩
  | k + 1, bs, acc, l, t, hb, h => by
    unfold vecP at h
    split at h
    · rename_i v u hn
      split at h
      · rename_i hv
        split at h
        · rename_i hk
          have h1 := num_one hb hn
          obtain ⟨r, rfl, hl, h2, h3, h4⟩ := vecP_one k u (acc ++ [v]) l t (fun x hx => hb x (by rw [h1]; simp [hx])) h
          refine ⟨v :: r, by simp, by simp [hl], ?_, ?_, ?_⟩
          · rw [h1, h2]; simp [encs]
          · intro x hx
            rcases List.mem_cons.1 hx with rfl | hx
            · omega
            · exact h3 x hx
          · intro _
            cases r with
            | nil => simp at hl; simp; omega
            | cons y r => have := h4 (by simp); simpa using this
        · cases h
      · cases h
    · cases h
theorem lv_top (r : List Nat) (hl : r.length ≤ 12) (hr : r ≠ [] → 0 < r.getLastD 0) : topV (lv r) 12 = r.length := by
  have h1 : ∀ i, r.length ≤ i → lv r i = 0 := fun i hi => lv_over hi
  have h2 : r.length ≤ topV (lv r) 12 := by
    rcases Nat.eq_zero_or_pos r.length with h0 | h0
    · omega
    · have hne : r ≠ [] := by intro e; rw [e] at h0; simp at h0
      have hlast := hr hne
      rw [List.getLastD_eq_getLast?, List.getLast?_eq_getElem?] at hlast
      rcases Nat.lt_or_ge (r.length - 1) (topV (lv r) 12) with h | h
      · omega
      · have h3 := topV_zero (lv r) 12 (r.length - 1) h (by omega)
        unfold lv List.getD at h3
        rw [h3] at hlast
        exact absurd hlast (by omega)
  have h3 : topV (lv r) 12 ≤ r.length := by
    rcases Nat.eq_zero_or_pos (topV (lv r) 12) with h0 | h0
    · omega
    · have := topV_last (lv r) 12 h0
      rcases Nat.lt_or_ge (topV (lv r) 12 - 1) r.length with h | h
      · omega
      · rw [h1 _ h] at this; omega
  omega
theorem trim_lv (r : List Nat) (hl : r.length ≤ 12) (hr : r ≠ [] → 0 < r.getLastD 0) : trimV (lv r) = r := by
  unfold trimV
  rw [lv_top r hl hr]
  apply List.ext_getElem?
  intro i
  by_cases hi : i < r.length
  · rw [List.getElem?_map, List.getElem?_range hi]
    simp [lv, List.getD, List.getElem?_eq_getElem hi]
  · rw [List.getElem?_eq_none (by simp; omega), List.getElem?_eq_none (by omega)]
theorem vector_one {bs l t : List Nat} (hb : ∀ x ∈ bs, x < 256) (h : vectorP bs = .ok (l, t)) : bs = encV (lv l) ++ t ∧ l.length ≤ 12 ∧ (∀ i, lv l i < 4294967296) ∧ trimV (lv l) = l := by
  unfold vectorP at h
  split at h
  · rename_i n u hs
    have h12 := (small_ok hs).2
    have h1 := small_one hb hs
    obtain ⟨r, hr, hl, h2, h3, h4⟩ := vecP_one n u [] l t (fun x hx => hb x (by rw [h1]; simp [hx])) h
    obtain rfl : l = r := by simpa using hr
    clear hr
    have ht := trim_lv l (by omega) h4
    refine ⟨?_, by omega, fun i => ?_, ht⟩
    · unfold encV
      rw [ht, lv_top l (by omega) h4, hl, List.append_assoc, ← h2, ← h1]
    · unfold lv List.getD
      cases hi : l[i]? with
      | none => simp
      | some x => exact h3 x (List.mem_of_getElem? hi)
  · cases h
end Go.Proofs.Ytifoheodcbjapaa
