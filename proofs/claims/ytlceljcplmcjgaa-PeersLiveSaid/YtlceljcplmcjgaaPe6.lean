/-
peers: Put, save.
-/
import Derived.Test.YtlceljcplmcjgaaPe5
import Derived.Test.YtlceljcplmcjgaaWtrs
import Derived.Test.YtlceljcplmcjgaaStrS
namespace Go.Proofs.Ytlceljcplmcjgaa
open Go.RowKit
set_option linter.unusedSimpArgs false
set_option linter.unusedVariables false
namespace Pe
def lst (p : Nat → Bool) : List Nat := Nd.thoseL fun m => p (m - 1)
def mayB (s : Int) (n : Nat) : Bool := if s = 0 then decide (n = 0) else if s = 1 ∨ s = 3 then decide (n = 1) else true
/-- A shard's peers, as calls make them. -/
structure PS.Ok (x : PS) : Prop where
  n1 : 1 ≤ x.n
  n2 : x.n ≤ 12
  st : ∀ k, k < 12 → 0 ≤ x.st k ∧ x.st k ≤ 3
  may : ∀ k, k < 12 → mayB (x.st k) (lst (x.pe k)).length = true
  own : ∀ k j, k < 12 → j < 12 → x.pe k j = true → (j : Int) + 1 ≠ x.n
theorem PS.Ok.n0 {x : PS} (h : x.Ok) : x.n ≠ 0 := by have := h.n1; omega
theorem stV_of {x : PS} (h : x.n ≠ 0) {k : Nat} (hk : k < 12) : x.stV ((k : Int) + 1) = x.st k := by
  unfold PS.stV
  rw [if_pos ⟨h, num_in.2 (by omega)⟩, show ((k : Int) + 1 - 1).toNat = k by omega]
theorem peV_of {x : PS} (h : x.n ≠ 0) {k : Nat} (hk : k < 12) : x.peV ((k : Int) + 1) = x.pe k := by
  unfold PS.peV
  rw [if_pos ⟨h, num_in.2 (by omega)⟩, show ((k : Int) + 1 - 1).toNat = k by omega]
theorem ofL_of {x : PS} (h : x.n ≠ 0) {k : Nat} (hk : k < 12) : x.ofL ((k : Int) + 1) = lst (x.pe k) := by
  unfold PS.ofL lst
  rw [peV_of h hk]
def encL (l : List Nat) : List Nat := l.flatMap enc
def encS (s : Int) (p : Nat → Bool) : List Nat := enc s.toNat ++ enc (lst p).length ++ encL (lst p)
def encN (x : PS) (j : Nat) : List Nat := (List.range j).flatMap fun k => encS (x.st k) (x.pe k)
def encPS (x : PS) : List Nat := enc x.n.toNat ++ encN x 12
theorem encN_succ (x : PS) (j : Nat) : encN x (j + 1) = encN x j ++ encS (x.st j) (x.pe j) := by unfold encN; rw [List.range_succ]; simp
theorem encL_take {l : List Nat} {j n : Nat} (h : l[j]? = some n) : encL (l.take (j + 1)) = encL (l.take j) ++ enc n := by
  unfold encL
  rw [List.take_add_one, h]
  simp
theorem lst_le (p : Nat → Bool) : (lst p).length ≤ 12 := Nd.those_le _ _
theorem lst_mem {p : Nat → Bool} {n : Nat} : n ∈ lst p ↔ 1 ≤ n ∧ n ≤ 12 ∧ p (n - 1) = true := Nd.those_mem
theorem encL_len {l : List Nat} (h : ∀ n ∈ l, n ≤ 12) : (encL l).length ≤ 10 * l.length := by
  induction l with
  | nil => simp [encL]
  | cons n l ih =>
    have h1 := ih fun x hx => h x (List.mem_cons_of_mem _ hx)
    have := enc_len n (by have := h n List.mem_cons_self; omega)
    show (enc n ++ encL l).length ≤ _
    rw [List.length_append, List.length_cons]
    omega
theorem encS_len {s : Int} (h : s ≤ 3) (p : Nat → Bool) : (encS s p).length ≤ 140 := by
  have h1 := enc_len s.toNat (by omega)
  have h2 := enc_len (lst p).length (by have := lst_le p; omega)
  have h3 := encL_len (l := lst p) (fun n hn => (lst_mem.1 hn).2.1)
  have h4 := lst_le p
  unfold encS
  rw [List.length_append, List.length_append]
  omega
theorem encN_len {x : PS} (h : x.Ok) : ∀ j, j ≤ 12 → (encN x j).length ≤ 140 * j
  | 0, _ => by simp [encN]
  | j + 1, hj => by
    rw [encN_succ, List.length_append]
    have := encN_len h j (by omega)
    have := encS_len (h.st j (by omega)).2 (x.pe j)
    omega
theorem encPS_len {x : PS} (h : x.Ok) : (encPS x).length ≤ 1700 := by
  have h1 := enc_len x.n.toNat (by have := h.n2; omega)
  have h2 := encN_len h 12 (Nat.le_refl _)
  unfold encPS
  rw [List.length_append]
  omega
theorem encPS_256 (x : PS) : ∀ y ∈ encPS x, y < 256 := by
  intro y hy
  unfold encPS encN encS encL at hy
  simp only [List.mem_append, List.mem_flatMap] at hy
  rcases hy with h | ⟨_, _, (h | h) | ⟨_, _, h⟩⟩ <;> exact Nd.enc_256 _ y h
section
variable (W : World) {Bd d : Nat} {x : PS}
set_option maxRecDepth 20000 in
set_option maxHeartbeats 4000000 in
theorem put_any (h : PP W Bd d x) (hk : x.Ok) (B g : Nat) (bs : List Nat) (hw : Wtr W B g bs) (hbs : bs.length ≤ 1000000) :
    Calls Try.prog 38 #[.pointer (some ⟨d, 0, none⟩), .pointer (some ⟨g, 0, none⟩)] W fun e W' => e = .returned (.tuple #[]) ∧ Wtr W' B g (bs ++ encPS x) ∧ Wrote B g W W' := by
  have HP := Lib.hid h
  have HK := Lib.hid hk
  have HBS := Lib.hid hbs
  have HW := Lib.hid hw
  have HM := Lib.hid (made_any W h)
  rw [decide_eq_true hk.n0] at HM
  have c0 := h.c0
  obtain ⟨n, hn⟩ : ∃ n : Nat, x.n = (n : Nat) := ⟨x.n.toNat, by have := hk.n1; omega⟩
  rw [hn] at c0
  have HN := Lib.hid (show x.n = (n : Nat) ∧ x.n.toNat = n ∧ n ≤ 12 from ⟨hn, by omega, by have := hk.n2; omega⟩)
  have e1 : IntKind.u64.wrap ((n : Nat) : Int) = (n : Nat) := by rw [IntKind.wrap_u64]; have := hk.n2; omega
  have HWN := Lib.hid (wnum_any B g n bs W hw (by have := hk.n2; omega) (by omega))
  clear h hk hbs hw hn
  go_enter Try.func38, Try.ntmps38
  go_upto_region 3 with (first | (go_at_call 41; refine HM.out.mono ?_; rintro e w2 ⟨rfl, rfl⟩; clear HM) | (go_at_call 54; refine HWN.out.mono ?_; rintro e w3 ⟨rfl, hw, hwr⟩; have HP0 := Lib.hid (show Nd.PM W w3 B g (bs ++ enc n) from ⟨hw, hwr⟩); clear hw hwr HWN))
  clear c0 e1
  go_loopw [18] (fun i wr => ∃ j : Nat, j ≤ 12 ∧ i = .int .i64 j ∧ Nd.PM W wr B g (bs ++ enc n ++ encN x j)) (fun i _ => 12 - (intOf i).toNat)
  case atStart => exact ⟨0, Nat.zero_le _, rfl, by show Nd.PM W w3 B g (bs ++ enc n ++ []); rw [List.append_nil]; exact HP0.out⟩
  case round =>
    clear HP0
    obtain ⟨j, hj, rfl, hM⟩ := hrel
    have HMM := Lib.hid hM
    clear hM
    by_cases hlt : j < 12
    · have i1 : (j : Int) < 12 := by omega
      obtain ⟨jj, hjj⟩ : ∃ jj, jj = j + 1 := ⟨_, rfl⟩
      have HWR := Lib.hid (Nd.wrap_n j jj hjj (by omega))
      have HJ := Lib.hid (And.intro hjj hlt)
      have HPR := Lib.hid (show PP wr Bd d x from ⟨Nd.wrote_blk HW.out HMM.out.wr HP.out.1 (by decide) (by decide), HP.out.2⟩)
      have HOF := Lib.hid (of_any wr HPR.out ((j : Int) + 1))
      rw [ofL_of HK.out.n0 hlt] at HOF
      obtain ⟨l, hl⟩ : ∃ l, l = lst (x.pe j) := ⟨_, rfl⟩
      rw [← hl] at HOF
      have HL := Lib.hid (show l.length ≤ 12 ∧ (∀ n ∈ l, n ≤ 12) ∧ l = lst (x.pe j) from ⟨by rw [hl]; exact lst_le _, by rw [hl]; exact fun n hn => (lst_mem.1 hn).2.1, hl⟩)
      obtain ⟨s, hs⟩ : ∃ s : Nat, x.st j = (s : Nat) := ⟨(x.st j).toNat, by have := (HK.out.st j hlt).1; omega⟩
      have HS := Lib.hid (show x.st j = (s : Nat) ∧ (x.st j).toNat = s ∧ s ≤ 3 from ⟨hs, by omega, by have := (HK.out.st j hlt).2; omega⟩)
      have HSV := Lib.hid (show x.stV ((j : Int) + 1) = (s : Nat) by rw [stV_of HK.out.n0 hlt, hs])
      obtain ⟨bj, hbj⟩ : ∃ bj, bj = bs ++ enc n ++ encN x j := ⟨_, rfl⟩
      rw [← hbj] at HMM
      have HBJ := Lib.hid (show bj = bs ++ enc n ++ encN x j ∧ bj.length ≤ 1010000 from ⟨hbj, by
        rw [hbj, List.length_append, List.length_append]
        have h1 := encN_len HK.out j (by omega)
        have h2 := enc_len n (by have := HN.out.2.2; omega)
        have := HBS.out
        omega⟩)
      clear hj hlt hjj hl hs hbj
      go_upto_region 6 with (go_at_call 11; (try rw [HWR.out]); refine HOF.out.mono ?_; rintro e w4 ⟨v, rfl, hN, hb⟩; have HNd := Lib.hid hN; have HP4 := Lib.hid (HPR.out.next hb); have HM4 := Lib.hid (HMM.out.next hb); clear hN hb HOF)
      obtain ⟨A, c, hv⟩ := HNd.out.shape
      subst hv
      have HST := Lib.hid (state_any w4 HP4.out ((j : Int) + 1))
      rw [HSV.out] at HST
      have e1 : IntKind.u64.wrap ((s : Nat) : Int) = (s : Nat) := by rw [IntKind.wrap_u64]; have := HS.out.2.2; omega
      obtain ⟨ln, hln⟩ : ∃ ln, ln = l.length := ⟨_, rfl⟩
      rw [← hln] at HNd
      (try rw [← hln])
      have HLN := Lib.hid (show ln = l.length ∧ ln ≤ 12 from ⟨hln, by rw [hln]; exact HL.out.1⟩)
      have e2 : IntKind.u64.wrap ((ln : Nat) : Int) = (ln : Nat) := by rw [IntKind.wrap_u64]; have := HLN.out.2; omega
      clear hln
      go_upto_region 8 with (first | (go_at_call 13; (try rw [HWR.out]); refine HST.out.mono ?_; rintro e w5 ⟨rfl, hb⟩; have HNd5 := Lib.hid (HNd.out.next hb); have HM5 := Lib.hid (HM4.out.next hb); have HW1 := Lib.hid (wnum_any B g s bj w5 (HM4.out.next hb).wt (by have := HS.out.2.2; omega) (by have := HBJ.out.2; omega)); clear hb HST) | (go_at_call 54; first | (refine HW1.out.mono ?_; rintro e w6 ⟨rfl, hw, hwr⟩; have HNd6 := Lib.hid (Nd.nds_wrote HM5.out.wt hwr HNd5.out); have HM6 := Lib.hid (HM5.out.put hw hwr); have HW2 := Lib.hid (wnum_any B g ln (bj ++ enc s) w6 hw (by have := HLN.out.2; omega) (by rw [List.length_append]; have := HBJ.out.2; have := enc_len s (by have := HS.out.2.2; omega); omega)); clear hw hwr HW1) | (refine HW2.out.mono ?_; rintro e w7 ⟨rfl, hw, hwr⟩; have HNd7 := Lib.hid (Nd.nds_wrote HM6.out.wt hwr HNd6.out); have HM7 := Lib.hid (HM6.out.put hw hwr); clear hw hwr HW2)))
      clear e1 e2
      obtain ⟨b0, hb0⟩ : ∃ b0, b0 = wr.heap.size := ⟨_, rfl⟩
      rw [← hb0] at HNd7
      clear hb0
      go_loopw [38] (fun i wy => ∃ i0 : Nat, i0 ≤ ln ∧ i = .int .i64 i0 ∧ Nd.PM W wy B g (bj ++ enc s ++ enc ln ++ encL (l.take i0)) ∧ Nd.Nds wy b0 (.slice A ln c) l) (fun i _ => ln - (intOf i).toNat)
      case atStart => exact ⟨0, Nat.zero_le _, rfl, by rw [List.take_zero]; show Nd.PM W w7 B g (bj ++ enc s ++ enc ln ++ []); rw [List.append_nil]; exact HM7.out, HNd7.out⟩
      case round =>
        clear HM7 HNd7 HM6 HNd6 HM5 HNd5 HM4 HNd HP4
        obtain ⟨i0, hi0, rfl, hM, hNN⟩ := hrel
        have HM8 := Lib.hid hM
        have HN8 := Lib.hid hNN
        clear hM hNN
        by_cases hlt : i0 < ln
        · have i1 : (i0 : Int) < (ln : Nat) := by omega
          have i2 : ¬ (i0 : Int) < 0 := by omega
          obtain ⟨ii, hii⟩ : ∃ ii, ii = i0 + 1 := ⟨_, rfl⟩
          have HWI := Lib.hid (Nd.wrap_n i0 ii hii (by have := HLN.out.2; omega))
          have HI := Lib.hid (And.intro hii hlt)
          obtain ⟨m, hm⟩ : ∃ m, l[i0]? = some m := ⟨_, List.getElem?_eq_getElem (by have := HLN.out.1; omega)⟩
          have HME := Lib.hid (show l[i0]? = some m ∧ m ≤ 12 from ⟨hm, HL.out.2.1 m (List.mem_of_getElem? hm)⟩)
          obtain ⟨q, qo, qc, ev, hq, hcc⟩ := HN8.out.at_ hm
          simp only [Value.slice.injEq] at ev
          obtain ⟨rfl, -, -⟩ := ev
          have e1 : IntKind.u64.wrap ((m : Nat) : Int) = (m : Nat) := by rw [IntKind.wrap_u64]; have := HME.out.2; omega
          have HW3 := Lib.hid (wnum_any B g m (bj ++ enc s ++ enc ln ++ encL (l.take i0)) wr HM8.out.wt (by have := HME.out.2; omega) (by
            rw [List.length_append, List.length_append, List.length_append]
            have h1 := encL_len (l := l.take i0) (fun n hn => HL.out.2.1 n (List.mem_of_mem_take hn))
            rw [List.length_take] at h1
            have := enc_len s (by have := HS.out.2.2; omega)
            have := enc_len ln (by have := HLN.out.2; omega)
            have := HBJ.out.2
            have := HLN.out.2
            omega))
          clear hi0 hlt hii hm hq
          go_wp2_with (first | (go_at_call 54; refine HW3.out.mono ?_; rintro e w9 ⟨rfl, hw, hwr⟩; have HN9 := Lib.hid (Nd.nds_wrote HM8.out.wt hwr HN8.out); have HM9 := Lib.hid (HM8.out.put hw hwr); clear hw hwr HW3))
          (try rw [HWI.out])
          go_roundw
          case rel => exact ⟨ii, by have := HI.out; omega, by first | rfl | simp [HI.out.1], by rw [HI.out.1, encL_take HME.out.1, ← List.append_assoc]; exact HM9.out, HN9.out⟩
          case measure => have := HI.out; simp [intOf]; omega
        · have i1 : ¬ (i0 : Int) < (ln : Nat) := by omega
          have hil : i0 = ln := by omega
          subst hil
          clear hi0 hlt
          go_wp2_with fail
          (try rw [HWR.out])
          go_roundw
          case rel => exact ⟨jj, by have := HJ.out; omega, by first | rfl | simp [HJ.out.1], by
            have h := HM8.out
            rw [show l.take i0 = l by rw [HLN.out.1]; exact List.take_length] at h
            rw [HJ.out.1, encN_succ, ← List.append_assoc, ← HBJ.out.1]
            unfold encS
            rw [HS.out.2.1, ← HL.out.2.2, ← HLN.out.1, ← List.append_assoc, ← List.append_assoc]
            exact h⟩
          case measure => have := HJ.out; simp [intOf]; omega
    · have i1 : ¬ (j : Int) < 12 := by omega
      have hj12 : j = 12 := by omega
      subst hj12
      clear hj hlt
      go_wp2_with fail
      refine ⟨rfl, .tuple #[], by simp [results, Try.results38, go_sem], rfl, ?_, HMM.out.wr⟩
      unfold encPS
      rw [HN.out.2.1, ← List.append_assoc]
      exact HMM.out.wt
set_option maxRecDepth 20000 in
theorem save_any (h : PP W Bd d x) (hk : x.Ok) : Calls Try.prog 15 #[.pointer (some ⟨d, 0, none⟩)] W fun e W' => e = .returned (.string (Byt.bstr (encPS x))) ∧ Below W.heap.size W W' := by
  have HN := Lib.hid (Proofs.Ytlceljcplmcjgaa.new_any W)
  have HP := Lib.hid (fun w (hb : Below W.heap.size W w) (hw : Wtr w W.heap.size W.heap.size []) => put_any w (h.next hb) hk W.heap.size W.heap.size [] hw (by simp))
  have HE := Lib.hid (encPS_len hk)
  have H256 := Lib.hid (encPS_256 x)
  clear h hk
  go_enter Try.func15, Try.ntmps15
  have hcv : ∀ (w : World) (v : Value) (B : Nat), w.ownsRow B 5 1 v (encPS x).length (u8s (encPS x)) → (convert 42 9 v).run Try.prog w = .ok (.string (Byt.bstr (encPS x))) w := fun w v B ho => by
    obtain ⟨A, c, rfl, _, hby, hA⟩ := Byt.own_byr ho
    exact Byt.conv_src w A _ c (encPS x) (hby.src hA) rfl H256.out
  have HCV := Lib.hid hcv
  clear hcv
  go_upto_region 3 with (first | (go_at_call 37; refine HN.out.mono ?_; rintro e w1 ⟨rfl, hw, hb⟩; have HW1 := Lib.hid hw; have HB1 := Lib.hid hb; clear hw hb) | (go_at_call 38; refine (HP.out _ HB1.out HW1.out).mono ?_; rintro e w2 ⟨rfl, hw, ho⟩; rw [List.nil_append] at hw; have HW2 := Lib.hid hw; have HB2 := Lib.hid (HB1.out.trans ho.1); clear hw ho))
  have HY := Lib.hid (bytes_any W.heap.size W.heap.size (encPS x) w2 HW2.out (by have := HE.out; omega))
  go_wp2_with (first | (go_at_call 39; refine HY.out.mono ?_; rintro e w3 ⟨v, rfl, ho, hb⟩; have hcv := HCV.out w3 v _ ho; have HB3 := Lib.hid (HB2.out.trans (hb.mono HB2.out.size)); clear ho hb))
  go_ret
  exact ⟨rfl, HB3.out⟩
end
end Pe
end Go.Proofs.Ytlceljcplmcjgaa
