/-
wire: the reader's Float.
-/
import Derived.Test.YtgnfachjobohoaaGreatBack
import Derived.Test.YtgnfachjobohoaaGreatTot
import Derived.Laws.BitsAllLaws
namespace Go.Proofs.YtgnfachjobohoaaGreat
open Go.RowKit
variable {L : Nat}

/-- How a part of a read ends, whatever it reads. -/
def EndsV {α : Type} (L s : Nat) (W : World) (val : α → Value) (r : Except Int (α × List Nat)) (e : Ending) (W' : World) : Prop :=
  Off s W W' ∧ match r with
  | .ok (v, t) => e = .returned (val v) ∧ RdB L W' s t
  | .error x => e = .panicked [{ v := flt s, recovered := false }] ∧ Met' W' s x

/-- take, where so many are left: where they stand. -/
theorem take_at (s k : Nat) (bs : List Nat) (W : World) (h : RdB L W s bs) (h0 : 0 < k) (hk : k ≤ bs.length) :
    Calls Tryz.prog 102 #[.pointer (some ⟨s, 0, none⟩), .int .i64 k] W fun e W' =>
      ∃ b p c, e = .returned (.slice (some ⟨b, p, none⟩) k c) ∧ (∀ (i x : Nat), (bs.take k)[i]? = some x → W'.cell? ⟨b, p + i, none⟩ = some (.int .u8 (x : Nat))) ∧ RdB L W' s (bs.drop k) ∧ Off s W W' := by
  obtain ⟨A, c, hR, hc, h⟩ := h
  rcases h with rfl | ⟨b, p, rfl, hb, ⟨hL, hlt⟩, hx⟩
  · simp at hk; omega
  · refine (take_ok s bs.length c k b p 0 true W hR hk hc).mono ?_
    rintro e W' ⟨rfl, rfl⟩
    have hO : Off s W (W.setCell ⟨s, 0, none⟩ (.slice (some ⟨b, if c = k then p else p + k, none⟩) (bs.length - k) (c - k))) := (Off.refl s W).set 0 _
    have hR' := hR.setRest (.slice (some ⟨b, if c = k then p else p + k, none⟩) (bs.length - k) (c - k))
    refine ⟨b, p, c, rfl, fun i x hx1 => ?_, ⟨_, c - k, by rw [List.length_drop]; exact hR', by rw [List.length_drop]; omega, ?_⟩, hO⟩
    · rw [hO.cell (p := ⟨b, p + i, none⟩) hlt hb]
      rw [List.getElem?_take] at hx1
      split at hx1
      · exact hx i x hx1
      · cases hx1
    · by_cases h1 : c = k
      · left; exact List.length_eq_zero_iff.1 (by rw [List.length_drop]; omega)
      · right
        rw [if_neg h1] at hO ⊢
        refine ⟨b, p + k, rfl, hb, ⟨hL, Nat.lt_of_lt_of_le hlt hO.size⟩, fun i y hy => ?_⟩
        rw [hO.cell (p := ⟨b, p + k + i, none⟩) hlt hb]
        rw [List.getElem?_drop] at hy
        have := hx (k + i) y hy
        rwa [show p + (k + i) = p + k + i by omega] at this

theorem beN_take (bs : List Nat) (i x : Nat) (h : bs[i]? = some x) : beN (bs.take (i + 1)) = beN (bs.take i) * 256 + x := by
  rw [List.take_add_one, h]
  simp [beN, List.foldl_append]
theorem beN_lt : ∀ (bs : List Nat), (∀ x ∈ bs, x < 256) → beN bs < 256 ^ bs.length := by
  intro bs
  unfold beN
  have : ∀ (l : List Nat) (k n : Nat), k < 256 ^ n → (∀ x ∈ l, x < 256) → l.foldl (fun k c => k * 256 + c) k < 256 ^ (n + l.length) := by
    intro l
    induction l with
    | nil => intro k n h _; simpa using h
    | cons c l ih =>
      intro k n h hb
      have hc := hb c (by simp)
      have := ih (k * 256 + c) (n + 1) (by rw [Nat.pow_succ]; omega) (fun x hx => hb x (by simp [hx]))
      rw [List.length_cons, show n + (l.length + 1) = n + 1 + l.length by omega]
      exact this
  intro hb
  have h := this bs 0 0 (by simp) hb
  simpa using h
theorem or_low8 (n c : Nat) (hn : n * 256 < 18446744073709551616) (hc : c < 256) : bits .or .u64 ((n * 256 : Nat) : Int) (c : Int) = ((n * 256 + c : Nat) : Int) := by
  rw [u64_or_nat _ _ hn (by omega)]
  congr 1
  rw [show n * 256 = n <<< 8 by rw [Nat.shiftLeft_eq]]
  exact (Nat.shiftLeft_add_eq_or_of_lt (by omega) n).symm
def BeFar (bs : List Nat) (k : Nat) (x : Value) : Prop := x = .int .u64 (beN (bs.take k) : Nat)

set_option maxHeartbeats 1000000 in
theorem rfloat_any (k s : Nat) (bs : List Nat) (W : World) (hr : Rdr W k s) (h : RdB L W s bs) (hby : ∀ x ∈ bs, x < 256) :
    Calls Tryz.prog 93 #[.pointer (some ⟨k, 0, none⟩)] W fun e W' => EndsV L s W (fun v => .float .f64 v) (floatP bs) e W' := by
  have HB := Lib.hid h
  have HR := Lib.hid hr
  have hk := hr.2
  by_cases h8 : 8 ≤ bs.length
  · have HT := Lib.hid (take_at s 8 bs W h (by omega) h8)
    have HE := Lib.hid (show floatP bs = .ok (Num.unkey (beN (bs.take 8)), bs.drop 8) from if_pos h8)
    have hb8 : ∀ x ∈ bs.take 8, x < 256 := fun x hx => hby x (List.mem_of_mem_take hx)
    have HB8 := Lib.hid hb8
    have HL8 := Lib.hid (show (bs.take 8).length = 8 by rw [List.length_take]; omega)
    clear h hr hby h8 hb8
    go_enter Tryz.func93, Tryz.ntmps93
    go_wp2_with (first | (go_at_call 88; (with_reducible refine (on_any k s bs _ HR.out HB.out).mono ?_); rintro e w1 ⟨rfl, rfl⟩) | (go_at_call 102; refine HT.out.mono ?_; rintro e w2 ⟨b, p, c, rfl, hx, hB, hO⟩; have HX := Lib.hid hx; clear hx))
    go_loop [3, 15] (fun x i => ∃ k : Nat, k ≤ 8 ∧ i = .int .i64 k ∧ BeFar (bs.take 8) k x) (fun _ i => 8 - (intOf i).toNat)
    case atStart => exact ⟨0, Nat.zero_le _, rfl, rfl⟩
    case round =>
      obtain ⟨j, hj, rfl, hx⟩ := hrel
      unfold BeFar at hx
      subst hx
      by_cases hlt : j < 8
      · have h1 : (j : Int) < 8 := by omega
        obtain ⟨c0, hc0⟩ : ∃ c0, (bs.take 8)[j]? = some c0 := ⟨_, List.getElem?_eq_getElem (by rw [HL8.out]; exact hlt)⟩
        have cc := HX.out j c0 hc0
        have hc0lt := HB8.out c0 (List.mem_of_getElem? hc0)
        have hsmall := beN_lt ((bs.take 8).take j) (fun x hx => HB8.out x (List.mem_of_mem_take hx))
        have hsm : beN ((bs.take 8).take j) * 256 < 18446744073709551616 := by
          have h3 : 256 ^ ((bs.take 8).take j).length ≤ 256 ^ 7 := Nat.pow_le_pow_right (by omega) (by rw [List.length_take]; omega)
          omega
        have HOR := Lib.hid (or_low8 _ c0 hsm hc0lt)
        have HN := Lib.hid (beN_take (bs.take 8) j c0 hc0)
        have e1 : IntKind.u64.wrap ((beN ((bs.take 8).take j) : Int) * 256) = ((beN ((bs.take 8).take j) * 256 : Nat) : Int) := by rw [IntKind.wrap_u64]; omega
        have e2 : IntKind.u64.wrap (c0 : Int) = (c0 : Int) := by rw [IntKind.wrap_u64]; omega
        clear hsmall hsm hc0 hc0lt
        go_wp2_with fail
        go_round
        case rel => exact ⟨j + 1, by omega, by go_num, by unfold BeFar; rw [HN.out, ← HOR.out]; simp⟩
        case measure => simp [intOf]; omega
      · obtain rfl : j = 8 := by omega
        have hlt8 : beN ((bs.take 8).take 8) < 18446744073709551616 := by
          have h3 := beN_lt ((bs.take 8).take 8) (fun x hx => HB8.out x (List.mem_of_mem_take hx))
          have h4 : 256 ^ ((bs.take 8).take 8).length ≤ 256 ^ 8 := Nat.pow_le_pow_right (by omega) (by rw [List.length_take]; omega)
          omega
        have HOF := Lib.hid (fun w => tof_any (beN ((bs.take 8).take 8)) w hlt8)
        have HE8 := Lib.hid (show (bs.take 8).take 8 = bs.take 8 from List.take_of_length_le (by rw [HL8.out]; exact Nat.le_refl _))
        clear hlt8
        go_wp2_with (go_at_call 104; refine (HOF.out _).mono ?_; rintro e w3 ⟨rfl, rfl⟩)
        go_ret
        exact ⟨hO, by rw [HE.out, HE8.out]; exact ⟨rfl, hB⟩⟩
  · have HT := Lib.hid (take_over s 8 bs W h (by omega))
    have HE := Lib.hid (show floatP bs = .error 8 from if_neg h8)
    clear h hr hby h8
    go_enter Tryz.func93, Tryz.ntmps93
    go_wp2_with (first | (go_at_call 88; (with_reducible refine (on_any k s bs _ HR.out HB.out).mono ?_); rintro e w1 ⟨rfl, rfl⟩) | (go_at_call 102; refine HT.out.mono ?_; rintro e w2 ⟨rfl, hM, hO⟩))
    exact ⟨rfl, hO, by rw [HE.out]; exact ⟨rfl, hM⟩⟩
end Go.Proofs.YtgnfachjobohoaaGreat
