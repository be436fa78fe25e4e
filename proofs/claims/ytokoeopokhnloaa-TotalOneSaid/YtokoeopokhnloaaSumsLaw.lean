/-
TotalSums holds: for every list of words, the sum of the floats, in order, is the document's: to the last bit, one NaN for each. No condition.
-/
import Derived.Test.YtokoeopokhnloaaRefSum
namespace Go.Proofs.Ytokoeopokhnloaa
open Go.ChangeShapes Go.WideShapes Go.ChangeAt Go.RowKit
attribute [local go_sem] run_store_float

theorem Try.info23 : (Try.prog.info? 23).map (fun i => (i.zero, i.size, i.bytes)) = some (some (.float .f64 0), 1, 8) := by kernel_rfl

/-- The floats that have been put together behind k rounds. -/
def Made (zs : List Nat) (k : Nat) (w : World) (v : Value) (wr : World) : Prop :=
  wr.ownsRow w.heap.size 23 1 v k ((zs.map (Value.float .f64)).take k) ∧ Below w.heap.size w wr

theorem made_next {zs : List Nat} {k : Nat} {w wr w1 : World} {v v1 : Value} {o : Obj} (hk : k < zs.length) (hm : Below w.heap.size w wr)
    (hown : w1.ownsRow w.heap.size 23 1 v1 (k + 1) ((zs.map (Value.float .f64)).take k ++ [.float .f64 zs[k]])) (hg : (wr.alloc o).grownBy w1 v.ownBlock)
    (hv : wr.ownsRow w.heap.size 23 1 v k ((zs.map (Value.float .f64)).take k)) : Made zs (k + 1) w v1 w1 := by
  refine ⟨?_, ?_⟩
  · rw [List.take_succ_eq_append_getElem (by simpa using hk), List.getElem_map]; exact hown
  · exact (hm.alloc hm.size o).grown hg (by have := hm.size; simp; omega) (fun b hb => (hv.lt b hb).1)

set_option maxRecDepth 100000 in
set_option maxHeartbeats 1000000 in
theorem sums_walk (a : Option Addr) (len cap : Nat) (zs : List Nat) (hz : zs.length = len) (hb : ∀ x ∈ zs, x < 18446744073709551616) (w : World) (hlen : len ≤ 9223372036854775807)
    (hc : zs = [] ∨ ∃ b off, a = some ⟨b, off, none⟩ ∧ b < w.heap.size ∧ ∀ i, (h : i < zs.length) → w.cell? ⟨b, off + i, none⟩ = some (.int .u64 (zs[i] : Nat))) :
    Calls Try.prog 4 #[.slice a len cap] w fun e w' => e = .returned (.bool true) ∧ Below w.heap.size w w' := by
  subst hz
  have HC := Lib.hid hc
  clear hc
  by_cases hbig : 300 < zs.length
  · go_enter Try.func4, Try.ntmps4
    go_wp2_with (go_at_call 10; refine (alive_any _).mono ?_; rintro e w' ⟨rfl, hbel⟩)
    go_ret
    exact ⟨rfl, hbel⟩
  · obtain ⟨i0, hi, hz0, hz1, hz2⟩ := info_parts Try.info23
    have cf := fb_any
    have hstart : Hid (Made zs 0 w (.slice none 0 0) w) := Lib.hid ⟨by simpa using World.ownsRow_nil _ _ _ _, Below.refl _ _⟩
    go_enter Try.func4, Try.ntmps4
    go_wp2_with fail
    go_loopw [3, 4] (fun v i wr => ∃ k : Nat, k ≤ zs.length ∧ i = .int .i64 k ∧ Made zs k w v wr) (fun _ i _ => zs.length - (intOf i).toNat)
    case atStart => exact ⟨0, Nat.zero_le _, rfl, hstart.out⟩
    case round =>
      obtain ⟨k, hk, rfl, hown, hbel⟩ := hrel
      have HB := Lib.hid hbel
      clear hbel
      by_cases hlt : k < zs.length
      · obtain ⟨b, off, ha, hbs, hcell⟩ := HC.out.resolve_left (by rintro rfl; simp at hlt)
        subst ha
        have hc : wr.cell? ⟨b, off + k, none⟩ = some (.int .u64 (zs[k] : Nat)) := by
          rw [HB.out.cell (p := ⟨b, off + k, none⟩) hbs]; exact hcell k hlt
        clear hcell hbs
        go_wp2_with (at_builtin; refine wpList_append_own _ rfl _ _ 32 rfl w.heap.size 23 i0 (.float .f64 0) 1 8 Try.underlying32 hi hz0 hz1 hz2 rfl (by decide) _ _ _ rfl (hown.alloc _) ⟨wr.heap.size, 0, none⟩ 1 1 [.float .f64 zs[k]] rfl rfl ?c1 ?c2 ?c3 ?c4 ?c5 ?_)
        case c1 =>
          intro j u hj
          match j, hj with
          | 0, hj => simp at hj; subst hj; simp [Addr.add]
        case c2 => intro u hu; simp at hu; subst hu; rfl
        case c3 => unfold maxLen; omega
        case c4 => omega
        case c5 => have := HB.out.size; simp; omega
        intro v' w1 hown' hgrow _
        have R := Lib.hid (made_next hlt HB.out hown' hgrow hown)
        clear hown' hgrow hown hc
        go_wp2_with fail
        go_roundw
        case rel => exact ⟨k + 1, by omega, by go_num, R.out⟩
        case measure => simp [intOf]; omega
      · obtain rfl : k = zs.length := by omega
        rw [show zs.length = (zs.map (Value.float .f64)).length by simp, List.take_length] at hown
        rw [List.length_map] at hown
        have HF := Lib.hid (Floats.own hown)
        have hle : zs.length ≤ 2147483648 := by omega
        have hs : Num.sameB (Num.sumN zs) (Num.sumN zs) = true := by unfold Num.sameB; simp
        clear hown hi hz0 hz1 hz2
        go_wp2_with fail
        refine (alive_any _).mono ?_
        rintro e w1 ⟨rfl, hb1⟩
        have HF1 := Lib.hid (HF.out.below hb1)
        have HB1 := Lib.hid (HB.out.trans (hb1.mono HB.out.size))
        clear hb1
        go_wp2_with fail
        refine (sum_any _ _ _ hle HF1.out).mono ?_
        rintro e w2 ⟨rfl, hb2⟩
        have HF2 := Lib.hid (HF1.out.below hb2)
        have HB2 := Lib.hid (HB1.out.trans (hb2.mono HB1.out.size))
        clear hb2
        go_wp2_with fail
        refine (rsum_any _ _ _ hle HF2.out).mono ?_
        rintro e w3 ⟨rfl, hb3⟩
        have HB3 := Lib.hid (HB2.out.trans (hb3.mono HB2.out.size))
        clear hb3
        go_wp2_with (go_at_call 12; refine (eqbits_any _ _ _).mono ?_; rintro e w' ⟨rfl, rfl⟩)
        go_ret
        exact ⟨rfl, HB3.out⟩

set_option maxRecDepth 100000 in
theorem sums_lifted (os : Os) (started : os.Started) (H : Type) (enc : TypeId × Value → H) :
    ReturnsInHanded {} Try.checked os 4 .any (Rows.totalSumsSpec.pre6 enc Try.prog Try.f4 Rows.totalSumsRow.domain false) (Rows.totalSumsSpec.post enc Try.prog Try.f4 false true false false) := by
  refine law_lift (C := Try.checked) own_knob started (by kernel_rfl) Try.func4 rfl Try.underlying4 laid_out (by kernel_rfl) rfl ?_
    (ChangeSpec.witness6 (enc := enc) (C := Try.checked) false ⟨#[], #[.slice none 0 0], []⟩ 8 (by kernel_rfl) (by kernel_rfl) (by kernel_rfl) (by kernel_rfl)) ?_
  · intro ds hds
    match ds, hds with
    | [_], _ => rfl
  intro W base args ds ps hval hA hlt hsz
  rw [Try.params4] at hA hval
  obtain ⟨v0, vs0, d0, ds0, p0, q0, hargs, rfl, rfl, h0, r0⟩ := trodAll_cons hA
  obtain ⟨rfl, rfl, rfl⟩ := trodAll_nil r0
  obtain rfl : args = #[v0] := by cases args; simp_all
  obtain ⟨a, len, cap, zs, rfl, hz, hm, hw, hc⟩ := open_row Try.underlying31 Try.underlying22 (by kernel_rfl) (hval 0 31 v0 rfl rfl) h0 (fun x hx => hlt x (List.mem_append_left _ hx))
  obtain ⟨ns, rfl⟩ := nats_of (fun n hn => (bounds_u64 (hw n hn)).1)
  refine sums_walk a len cap ns (by simpa using hz) ?_ W hm ?_
  · intro x hx
    have := bounds_u64 (hw x (List.mem_map.2 ⟨x, hx, rfl⟩)); omega
  · exact row_nats hc

theorem sums_holds : Rows.TotalSumsSaid :=
  OpenClaim.holds_of_wide 4 Try.f4 rfl rfl rfl rfl rfl rfl rfl ⟨rfl, rfl, rfl, rfl, rfl⟩ rfl rfl rfl rfl rfl (by kernel_rfl) Try.func4 (by kernel_rfl)
    (of_decide_eq_true (by kernel_rfl)) (by unfold Func.isWrapper; first | (rw [if_pos (by decide +kernel)]; kernel_rfl) | (rw [if_neg (by decide +kernel)]; exact ⟨rfl, rfl⟩))
    (fun os started H enc _ => sums_lifted os started H enc)
end Go.Proofs.Ytokoeopokhnloaa
