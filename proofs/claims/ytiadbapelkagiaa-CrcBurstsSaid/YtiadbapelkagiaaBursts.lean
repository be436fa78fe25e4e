/-
CrcBursts holds: for all bytes, bits of them that are turned within 32 side by side turn the sum. No condition.
-/
import Derived.Test.YtiadbapelkagiaaTells
import Derived.Test.YtiadbapelkagiaaBurstMath
namespace Go.Proofs.Ytiadbapelkagiaa
open Go.ChangeShapes Go.WideShapes Go.ChangeAt Go.RowKit

theorem bit_of {b k : Nat} (hb : b < 4294967296) : (bits .and .u32 ((b : Int) / 2 ^ k) 1 == 1) = b.testBit k := by
  have e : (b : Int) / 2 ^ k = ((b / 2 ^ k : Nat) : Int) := by rw [Int.natCast_ediv, Int.natCast_pow]; rfl
  have hlt : b / 2 ^ k < 4294967296 := Nat.lt_of_le_of_lt (Nat.div_le_self _ _) hb
  rw [e, show (1 : Int) = ((1 : Nat) : Int) from rfl, u32_and_nat _ 1 hlt (by omega), Nat.and_one_is_mod, Nat.testBit_eq_decide_div_mod_eq]
  generalize b / 2 ^ k = x
  rw [Bool.eq_iff_iff]
  simp
  omega

/-- Behind k bits of the burst: the copy's row. -/
def Loop (l : List Nat) (q b k g c1 : Nat) (w wr : World) : Prop :=
  ∃ m, Crc.Turned l q b k m ∧ wr.ownsRow w.heap.size 5 1 (.slice (some ⟨g, 0, none⟩) l.length c1) l.length (cellsOf m) ∧ Below w.heap.size w wr

theorem xor8 {x r : Nat} (hx : x < 256) (hr : r < 8) : bits .xor .u8 (x : Int) (128 / 2 ^ r) = ((x ^^^ 128 / 2 ^ r : Nat) : Int) := by
  have e : (128 : Int) / 2 ^ r = ((128 / 2 ^ r : Nat) : Int) := by rw [Int.natCast_ediv, Int.natCast_pow]; rfl
  rw [e]
  obtain ⟨h1, h2, _⟩ := Crc.pow128 hr
  exact u8_xor_nat _ _ hx (by omega)

theorem loop_turn {l m : List Nat} {q b k g c1 : Nat} {w wr : World} (hT : Crc.Turned l q b (k + 1) (Crc.flip m (q + k))) (hm : ∀ c ∈ m, c < 256) (hidx : (q + k) / 8 < m.length)
    (hown : wr.ownsRow w.heap.size 5 1 (.slice (some ⟨g, 0, none⟩) l.length c1) l.length (cellsOf m)) (hb : Below w.heap.size w wr) (hg : w.heap.size ≤ g) :
    Loop l q b (k + 1) g c1 w (wr.setCell ⟨g, (q + k) / 8, none⟩ (.int .u8 (bits .xor .u8 (m[(q + k) / 8] : Nat) (128 / 2 ^ ((q + k) % 8))))).drew := by
  refine ⟨_, hT, ?_, (hb.setCell hg _).drew⟩
  rw [xor8 (hm _ (List.getElem_mem hidx)) (Nat.mod_lt _ (by omega))]
  have h := (hown.stored ((q + k) / 8) (.int .u8 (m[(q + k) / 8] ^^^ 128 / 2 ^ ((q + k) % 8) : Nat))).1
  have e : (cellsOf m).set ((q + k) / 8) (.int .u8 (m[(q + k) / 8] ^^^ 128 / 2 ^ ((q + k) % 8) : Nat)) = cellsOf (Crc.flip m (q + k)) := by
    unfold cellsOf Crc.flip
    rw [List.map_set, List.getD_eq_getElem?_getD, List.getElem?_eq_getElem hidx]
    rfl
  rw [e] at h
  exact h

set_option maxHeartbeats 1000000 in
theorem bursts_walk (A : Option Addr) (cap : Nat) (l : List Nat) (p : Int) (b : Nat) (w : World) (hl : Bytes w (.slice A l.length cap) l) (hb : b < 4294967296) (hlen : l.length ≤ 9223372036854775807)
    (hp1 : -9223372036854775808 ≤ p) (hp2 : p ≤ 9223372036854775807) :
    Calls Try.prog 4 #[.slice A l.length cap, .int .i64 p, .int .u32 (b : Nat)] w fun e w' => e = .returned (.bool true) ∧ Below w.heap.size w w' := by
  have HL := Lib.hid hl
  clear hl
  have hb' : (b : Int) < 4294967296 := by omega
  by_cases hgo : l.length ≤ 3000 ∧ b ≠ 0 ∧ 0 ≤ p ∧ p + 32 ≤ 8 * l.length
  · obtain ⟨g1, g2, g3, g4⟩ := hgo
    have e1 : ¬ (3000 : Int) < (l.length : Nat) := by omega
    have e2 : (((b : Nat) : Int) == 0) = false := by rw [beq_eq_false_iff_ne]; omega
    have e3 : ¬ p < 0 := by omega
    have e4 : ¬ 8 * ((l.length : Nat) : Int) - 32 < p := by omega
    obtain ⟨q, rfl⟩ : ∃ q : Nat, p = q := ⟨p.toNat, by omega⟩
    obtain ⟨i0, hi, hz0, hz1, hz2⟩ := info_parts Try.info5
    have hlit : (w.alloc (.cells #[] 5)).ownsRow w.heap.size 5 1 (.slice (some ⟨w.heap.size, 0, none⟩) 0 0) 0 (cellsOf []) := World.ownsRow_lit (base := w.heap.size) (size := 1) (e := 5) w #[] 0 (Nat.le_refl _) (by unfold maxLen; omega) rfl
    have hB0 : Hid (Below w.heap.size w (w.alloc (.cells #[] 5))) := Lib.hid ((Below.refl _ _).alloc (Nat.le_refl _) _)
    go_enter Try.func4, Try.ntmps4
    go_wp2_with (at_builtin; refine wpList_append_src _ rfl (.tmp 29) (.tmp 30) 22 rfl w.heap.size 5 i0 (.int .u8 0) 1 1 Try.underlying22 hi hz0 hz1 hz2 rfl (by decide) _ _ _ rfl hlit A l.length cap (cellsOf l) rfl ?ca1 ?ca2 ?ca3 ?ca4 ?ca5 ?ca6 ?_)
    case ca1 => exact cellsOf_length l
    case ca2 => exact HL.out.src.below hB0.out
    case ca3 => exact cellsOf_one _
    case ca4 => unfold maxLen; omega
    case ca5 => omega
    try (case ca6 => have := hB0.out.size; omega)
    intro v1 w1 o1 q1
    have o1' : w1.ownsRow w.heap.size 5 1 v1 l.length (cellsOf l) := by simpa [cellsOf_nil] using o1
    have hB1 : Hid (Below w.heap.size w w1) := Lib.hid (hB0.out.grown q1 hB0.out.size (fun b hb => (hlit.lt b hb).1))
    obtain ⟨g, c1, rfl, hg⟩ : ∃ g c1, v1 = .slice (some ⟨g, 0, none⟩) l.length c1 ∧ w.heap.size ≤ g := by
      rcases o1'.2 with ⟨_, hn⟩ | ⟨g, c1, cur, e, hg, _⟩
      · omega
      · exact ⟨g, c1, e, hg⟩
    have hst : Hid (Loop l q b 0 g c1 w w1) := Lib.hid ⟨l, Crc.turned_start HL.out.1 q b, o1', hB1.out⟩
    clear o1 o1' q1 hlit hi hz0 hz1 hz2
    go_wp2_with fail
    go_loopw [8] (fun i wr => ∃ k : Nat, k ≤ 32 ∧ i = .int .i64 k ∧ Loop l q b k g c1 w wr) (fun i _ => 32 - (intOf i).toNat)
    case atStart => exact ⟨0, Nat.zero_le _, rfl, hst.out⟩
    case round =>
      obtain ⟨k, hk, rfl, m, hT, hown, hbel⟩ := hrel
      have HT := Lib.hid hT
      have HO := Lib.hid hown
      have HB := Lib.hid hbel
      have hml : Hid (m.length = l.length) := Lib.hid hT.1
      clear hT hown hbel
      by_cases hk32 : k < 32
      · have hk' : (k : Int) < 32 := by omega
        cases hbit : b.testBit k
        · have ht : (bits .and .u32 ((b : Int) / 2 ^ k) 1 == 1) = false := by rw [bit_of hb, hbit]
          have HN := Lib.hid (Crc.turned_no HT.out hbit)
          clear hbit
          go_wp2_with fail
          go_roundw
          case rel => exact ⟨k + 1, by omega, by go_num, m, HN.out, HO.out, HB.out⟩
          case measure => simp [intOf]; omega
        · have ht : (bits .and .u32 ((b : Int) / 2 ^ k) 1 == 1) = true := by rw [bit_of hb, hbit]
          have HN := Lib.hid (Crc.turned_yes HT.out hbit hk32 (by omega))
          have hidx : (q + k) / 8 < m.length := by have := hml.out; omega
          have hc : wr.cell? ⟨g, (q + k) / 8, none⟩ = some (.int .u8 (m[(q + k) / 8] : Nat)) := by
            rw [HO.out.cellAt _ (by have := hml.out; omega)]
            unfold cellsOf
            rw [List.getElem?_map, List.getElem?_eq_getElem hidx]; rfl
          have hf : wr.frozen? ⟨g, (q + k) / 8, none⟩ = false := HO.out.frozenAt _
          have hi2 : (q + k) / 8 < l.length := by omega
          have hi3 : ((q : Int) + (k : Int)) / 8 < (l.length : Nat) := by omega
          clear hbit hb'
          go_wp2_with fail
          go_region
          all_goals
            go_wp2_with fail
            go_roundw
            case rel => exact ⟨k + 1, by omega, by go_num, loop_turn HN.out HT.out.2.1 hidx HO.out HB.out hg⟩
            case measure => simp [intOf]; omega
      · obtain rfl : k = 32 := by omega
        have hne : ((Crc.sum l : Nat) : Int) ≠ ((Crc.sum m : Nat) : Int) := by
          have := Crc.turned_end HT.out g2 hb
          omega
        have hne' : (((Crc.sum l : Nat) : Int) != ((Crc.sum m : Nat) : Int)) = true := by rw [bne_iff_ne]; exact hne
        have hm' : Hid (Bytes wr (.slice (some ⟨g, 0, none⟩) l.length c1) m) := Lib.hid (by
          have h := HO.out
          rw [← hml.out] at h ⊢
          exact Bytes.own h HT.out.2.1)
        clear hne hb'
        go_wp2_with fail
        refine (alive_any _).mono ?_
        rintro e w2 ⟨rfl, hb2⟩
        have M2 := Lib.hid (hm'.out.below hb2)
        have B2 := Lib.hid (HB.out.trans (hb2.mono HB.out.size))
        clear hb2
        have L2 := Lib.hid (HL.out.below B2.out)
        go_wp2_with fail
        refine (of_any _ _ _ L2.out hlen).mono ?_
        rintro e w3 ⟨rfl, hb3⟩
        have M3 := Lib.hid (M2.out.below hb3)
        have B3 := Lib.hid (B2.out.trans (hb3.mono B2.out.size))
        clear hb3
        go_wp2_with fail
        refine (of_any _ _ _ M3.out (by have := hml.out; omega)).mono ?_
        rintro e w4 ⟨rfl, hb4⟩
        have B4 := Lib.hid (B3.out.trans (hb4.mono B3.out.size))
        clear hb4
        go_wp2_with fail
        go_ret
        exact ⟨rfl, B4.out⟩
  · have hsplit : (3000 : Int) < (l.length : Nat) ∨ (¬ (3000 : Int) < (l.length : Nat) ∧ (((b : Nat) : Int) == 0) = true) ∨ (¬ (3000 : Int) < (l.length : Nat) ∧ (((b : Nat) : Int) == 0) = false ∧ p < 0) ∨
        (¬ (3000 : Int) < (l.length : Nat) ∧ (((b : Nat) : Int) == 0) = false ∧ ¬ p < 0 ∧ 8 * ((l.length : Nat) : Int) - 32 < p) := by
      simp only [beq_iff_eq, beq_eq_false_iff_ne]
      omega
    clear hgo hb' hb
    rcases hsplit with g1 | ⟨g1, g2⟩ | ⟨g1, g2, g3⟩ | ⟨g1, g2, g3, g4⟩
    all_goals
      go_enter Try.func4, Try.ntmps4
      go_wp2_with (go_at_call 6; refine (alive_any _).mono ?_; rintro e w' ⟨rfl, hbel⟩)
      go_ret
      exact ⟨rfl, hbel⟩

set_option maxRecDepth 100000 in
theorem bursts_lifted (os : Os) (started : os.Started) (H : Type) (enc : TypeId × Value → H) :
    ReturnsInHanded {} Try.checked os 4 .any (Rows.crcBurstsSpec.pre6 enc Try.prog Try.f4 Rows.crcBurstsRow.domain false) (Rows.crcBurstsSpec.post enc Try.prog Try.f4 false true false false) := by
  refine law_lift (C := Try.checked) own_knob started (by kernel_rfl) Try.func4 rfl Try.underlying4 laid_out (by kernel_rfl) rfl ?_
    (ChangeSpec.witness6 (enc := enc) (C := Try.checked) false ⟨#[], #[.slice none 0 0, .int .i64 0, .int .u32 0], []⟩ 8 (by kernel_rfl) (by kernel_rfl) (by kernel_rfl) (by kernel_rfl)) ?_
  · intro ds hds
    match ds, hds with
    | [_, _, _], _ => rfl
  intro W base args ds ps hval hA hlt hsz
  rw [Try.params4] at hA hval
  obtain ⟨v0, vs0, d0, ds0, p0, q0, hargs, rfl, rfl, h0, r0⟩ := trodAll_cons hA
  obtain ⟨v1, vs1, d1, ds1, p1, q1, rfl, rfl, rfl, h1, r1⟩ := trodAll_cons r0
  obtain ⟨v2, vs2, d2, ds2, p2, q2, rfl, rfl, rfl, h2, r2⟩ := trodAll_cons r1
  obtain ⟨rfl, rfl, rfl⟩ := trodAll_nil r2
  obtain rfl : args = #[v0, v1, v2] := by cases args; simp_all
  obtain ⟨a, len, cap, zs, rfl, hz, hm, hw, hc⟩ := open_row Try.underlying22 Try.underlying5 (by kernel_rfl) (hval 0 22 v0 rfl rfl) h0 (fun x hx => hlt x (by simp [hx]))
  obtain ⟨a1, rfl, rfl, rfl, w1⟩ := open_int Try.underlying3 (hval 1 3 v1 rfl rfl) h1
  obtain ⟨a2, rfl, rfl, rfl, w2⟩ := open_int Try.underlying24 (hval 2 24 v2 rfl rfl) h2
  obtain ⟨ns, rfl⟩ := nats_of (fun n hn => (bounds_u8 (hw n hn)).1)
  obtain ⟨n2, rfl⟩ : ∃ n : Nat, a2 = n := ⟨a2.toNat, by have := bounds_u32 w2; omega⟩
  rw [List.length_map] at hz
  subst hz
  exact bursts_walk a cap ns a1 n2 W (bytes_of rfl (small8 hw) (row_nats hc)) (by have := bounds_u32 w2; omega) hm (bounds_i64 w1).1 (bounds_i64 w1).2

theorem bursts_holds : Rows.CrcBurstsSaid :=
  OpenClaim.holds_of_wide 4 Try.f4 rfl rfl rfl rfl rfl rfl rfl ⟨rfl, rfl, rfl, rfl, rfl⟩ rfl rfl rfl rfl rfl (by kernel_rfl) Try.func4 (by kernel_rfl)
    (of_decide_eq_true (by kernel_rfl)) (by unfold Func.isWrapper; first | (rw [if_pos (by decide +kernel)]; kernel_rfl) | (rw [if_neg (by decide +kernel)]; exact ⟨rfl, rfl⟩))
    (fun os started H enc _ => bursts_lifted os started H enc)
end Go.Proofs.Ytiadbapelkagiaa
