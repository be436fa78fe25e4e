/-
links: their bytes as a string; the links of bytes; there and back.
-/
import Derived.Test.YtifoheodcbjapaaLs9
import Derived.Test.YtifoheodcbjapaaStrS
namespace Go.Proofs.Ytifoheodcbjapaa
open Go.RowKit
set_option linter.unusedSimpArgs false
set_option linter.unusedVariables false
namespace Ls
open Lk
/-- Each link that is there sent or took something. -/
def Any (S : Nat → LS) : Prop := ∀ i, (S i).nx = 0 ∨ 1 < (S i).nx ∨ 1 < (S i).ex
theorem any_zero : Any S0 := fun _ => Or.inl rfl
theorem any_upd {S : Nat → LS} (h : Any S) (i : Nat) {s : LS} (hs : s.nx = 0 ∨ 1 < s.nx ∨ 1 < s.ex) : Any (updS S i s) := fun j => by
  unfold updS
  split
  · exact hs
  · exact h j
theorem any_send {own : Nat} {S : Nat → LS} (h : Any S) (n : Int) (bs : List Nat) : Any (send own S n bs) := by
  unfold send
  split
  · rename_i h0
    refine any_upd h _ ?_
    unfold sendE at h0
    split at h0
    · unfold LS.send
      rw [if_pos h0]
      refine Or.inr (Or.inl ?_)
      show 1 < (atS S (n.toNat - 1)).nx + 1
      unfold atS
      split
      · decide
      · omega
    · cases h0
  · exact h
theorem any_ack {own : Nat} {S : Nat → LS} (h : Any S) (n : Int) (q : Nat) : Any (ack own S n q) := by
  unfold ack
  split
  · refine any_upd h _ ?_
    have := h (n.toNat - 1)
    unfold LS.ack
    split <;> exact this
  · exact h
theorem any_hear {own : Nat} {S : Nat → LS} (hN : NOk own S) (h : Any S) (p : Pk.Pt) : Any (hear own S p) := by
  unfold hear
  split
  · exact h
  · split
    · exact h
    · split
      · exact any_ack h _ _
      · split
        · rename_i ht
          refine any_upd h _ ?_
          unfold LS.take
          rw [if_pos ht]
          refine Or.inr (Or.inr ?_)
          show 1 < (atS S (p.f.toNat - 1)).ex + 1
          have : 1 ≤ (atS S (p.f.toNat - 1)).ex := by
            unfold atS
            split
            · decide
            · rename_i h0
              exact (hN.of h0).e1
          omega
        · exact h
theorem rest_bind (own n last : Nat) (S : Nat → LS) : restLP own (n + 1) last S = bindP (smallP 12) (fun m q => if last < m ∧ m ≠ own then bindP linkP (fun x q => if 1 < x.nx ∨ 1 < x.ex then restLP own n m (updS S (m - 1) x) q else .error 3) q else .error 3) := by
  funext bs
  conv => lhs; unfold restLP
  unfold bindP
  cases smallP 12 bs with
  | error e => rfl
  | ok z =>
    obtain ⟨m, q⟩ := z
    dsimp only
    split
    · cases linkP q with
      | error e => rfl
      | ok z => rfl
    · rfl
theorem links_bind : linksP = bindP (smallP 12) (fun own t => if 1 ≤ own then bindP (smallP 11) (fun n q => bindP (restLP own n 0 S0) (fun S r => .ok ((own, S), r)) q) t else .error 3) := by
  funext bs
  unfold linksP bindP
  cases smallP 12 bs with
  | error e => rfl
  | ok z =>
    obtain ⟨m, q⟩ := z
    dsimp only
    split
    · cases smallP 11 q with
      | error e => rfl
      | ok z =>
        obtain ⟨n, r⟩ := z
        dsimp only
        cases restLP m n 0 S0 r with
        | error e => rfl
        | ok z => rfl
    · rfl
/-- What stands in the places of these nodes is taken over. -/
def takeL (T S : Nat → LS) (L : List Nat) : Nat → LS := L.foldl (fun S n => updS S (n - 1) (T (n - 1))) S
theorem take_at (T : Nat → LS) : ∀ (L : List Nat) (S : Nat → LS) (i : Nat), (∀ n ∈ L, 1 ≤ n) → takeL T S L i = if i + 1 ∈ L then T i else S i
  | [], S, i, _ => by simp [takeL]
  | n :: L, S, i, h => by
    have ih := take_at T L (updS S (n - 1) (T (n - 1))) i fun m hm => h m (List.mem_cons_of_mem _ hm)
    have hn := h n (by simp)
    unfold takeL at ih ⊢
    rw [List.foldl_cons, ih]
    by_cases h1 : i + 1 ∈ L
    · rw [if_pos h1, if_pos (List.mem_cons_of_mem _ h1)]
    · rw [if_neg h1]
      unfold updS
      by_cases h2 : i = n - 1
      · rw [if_pos h2, if_pos (by rw [show i + 1 = n by omega]; simp), h2]
      · rw [if_neg h2, if_neg (by rw [List.mem_cons]; rintro (e | e); omega; exact h1 e)]
theorem rest_back {own : Nat} {T : Nat → LS} (hT : ∀ i, (T i).nx ≠ 0 → (T i).Ok) (hA : Any T) : ∀ (L : List Nat) (last : Nat) (S : Nat → LS), L.Pairwise (· < ·) → (∀ n ∈ L, last < n ∧ n ≤ 12 ∧ n ≠ own ∧ (T (n - 1)).nx ≠ 0) → Back (restLP own L.length last S) (encTo T L) (takeL T S L)
  | [], last, S, _, _ => by
    have : restLP own ([] : List Nat).length last S = fun bs => .ok (S, bs) := by funext bs; rfl
    rw [this]
    exact back_pure S
  | n :: L, last, S, hp, hL => by
    obtain ⟨h1, h2, h3, h4⟩ := hL n (by simp)
    have hp2 := List.pairwise_cons.1 hp
    have ih := rest_back hT hA L n (updS S (n - 1) (T (n - 1))) hp2.2 fun m hm => ⟨hp2.1 m hm, (hL m (List.mem_cons_of_mem _ hm)).2⟩
    rw [List.length_cons, rest_bind]
    have hs := small_back 12 n (by omega) (by omega)
    have hl := link_back (hT _ h4)
    have ha : 1 < (T (n - 1)).nx ∨ 1 < (T (n - 1)).ex := by
      rcases hA (n - 1) with e | e
      · exact absurd e h4
      · exact e
    have h5 : Back (fun q => if 1 < (T (n - 1)).nx ∨ 1 < (T (n - 1)).ex then restLP own L.length n (updS S (n - 1) (T (n - 1))) q else .error 3) (encTo T L) (takeL T S (n :: L)) := by
      have he : (fun q => if 1 < (T (n - 1)).nx ∨ 1 < (T (n - 1)).ex then restLP own L.length n (updS S (n - 1) (T (n - 1))) q else .error 3) = restLP own L.length n (updS S (n - 1) (T (n - 1))) := by funext q; rw [if_pos ha]
      rw [he]
      exact ih
    have h6 := hl.bind (Q := fun x q => if 1 < x.nx ∨ 1 < x.ex then restLP own L.length n (updS S (n - 1) x) q else .error 3) h5
    have h7 : Back (fun q => if last < n ∧ n ≠ own then bindP linkP (fun x q => if 1 < x.nx ∨ 1 < x.ex then restLP own L.length n (updS S (n - 1) x) q else .error 3) q else .error 3) (encL (T (n - 1)) ++ encTo T L) (takeL T S (n :: L)) := by
      have he : (fun q => if last < n ∧ n ≠ own then bindP linkP (fun x q => if 1 < x.nx ∨ 1 < x.ex then restLP own L.length n (updS S (n - 1) x) q else .error 3) q else .error 3) = bindP linkP (fun x q => if 1 < x.nx ∨ 1 < x.ex then restLP own L.length n (updS S (n - 1) x) q else .error 3) := by funext q; rw [if_pos ⟨h1, h3⟩]
      rw [he]
      exact h6
    have h8 := hs.bind (Q := fun m q => if last < m ∧ m ≠ own then bindP linkP (fun x q => if 1 < x.nx ∨ 1 < x.ex then restLP own L.length m (updS S (m - 1) x) q else .error 3) q else .error 3) h7
    rw [show encTo T (n :: L) = enc n ++ (encL (T (n - 1)) ++ encTo T L) by simp [encTo]]
    exact h8
theorem peers_sorted (own : Nat) (S : Nat → LS) : (peersL own S).Pairwise (· < ·) := by
  unfold peersL Nd.thoseL Nd.thoseN
  exact List.Pairwise.filter _ (by decide)
theorem peers_11 {own : Nat} {S : Nat → LS} (h1 : 1 ≤ own) (h2 : own ≤ 12) : (peersL own S).length ≤ 11 := by
  have hlt : (peersL own S).length < ((List.range 12).map (· + 1)).length := by
    unfold peersL Nd.thoseL Nd.thoseN
    rw [List.length_filter_lt_length_iff_exists]
    refine ⟨own, by simp; exact ⟨own - 1, by omega, by omega⟩, ?_⟩
    unfold hasB isO
    simp
  simp at hlt
  omega
theorem take_peers {own : Nat} {S : Nat → LS} (h : NOk own S) : takeL S S0 (peersL own S) = S := by
  funext i
  rw [take_at _ _ _ _ fun n hn => (peers_mem hn).1]
  by_cases hi : i + 1 ∈ peersL own S
  · rw [if_pos hi]
  · rw [if_neg hi]
    rcases h.ok i with e | e
    · rw [e]; rfl
    · exfalso
      refine hi (Nd.those_mem.2 ⟨by omega, ?_, ?_⟩)
      · refine Classical.byContradiction fun hh => ?_
        have := h.far i (by omega)
        rw [this] at e
        have := e.e1
        cases this
      · have hne : i + 1 ≠ own := fun hh => by
          have := h.self
          rw [show own - 1 = i by omega] at this
          rw [this] at e
          have := e.e1
          cases this
        have h12 : i < 12 := Classical.byContradiction fun hh => by
          have := h.far i (by omega)
          rw [this] at e
          have := e.e1
          cases this
        have hnx : (S i).nx ≠ 0 := by have := e.lt; omega
        unfold hasB isO
        rw [show isN ((i + 1 : Nat) : Int) = true from decide_eq_true ⟨by omega, by omega⟩, decide_eq_true (show ((i + 1 : Nat) : Int) ≠ (own : Int) by omega), show ((i + 1 : Nat) : Int).toNat - 1 = i by omega, decide_eq_true hnx]
        rfl
theorem links_back {own : Nat} {S : Nat → LS} (h : NOk own S) (hA : Any S) : Back linksP (encLS own S) (own, S) := by
  have h1 := small_back 12 own (by have := h.o2; omega) (by have := h.o2; omega)
  have h2 := small_back 11 (peersL own S).length (by have := peers_11 (S := S) h.o1 h.o2; omega) (by have := peers_11 (S := S) h.o1 h.o2; omega)
  have h3 := rest_back (own := own) (fun i hi => h.of hi) hA (peersL own S) 0 S0 (peers_sorted own S) fun n hn => by have := peers_mem hn; exact ⟨by omega, this.2⟩
  rw [take_peers h] at h3
  have h4 := h3.bind (Q := fun S r => .ok ((own, S), r)) (back_pure (own, S))
  rw [List.append_nil] at h4
  have h5 := h2.bind (Q := fun n q => bindP (restLP own n 0 S0) (fun S r => .ok ((own, S), r)) q) h4
  have h6 : Back (fun t => if 1 ≤ own then bindP (smallP 11) (fun n q => bindP (restLP own n 0 S0) (fun S r => .ok ((own, S), r)) q) t else .error 3) (enc (peersL own S).length ++ encTo S (peersL own S)) (own, S) := by
    have he : (fun t => if 1 ≤ own then bindP (smallP 11) (fun n q => bindP (restLP own n 0 S0) (fun S r => .ok ((own, S), r)) q) t else .error 3) = bindP (smallP 11) (fun n q => bindP (restLP own n 0 S0) (fun S r => .ok ((own, S), r)) q) := by funext t; rw [if_pos h.o1]
    rw [he]
    exact h5
  rw [links_bind]
  have := h1.bind (Q := fun own t => if 1 ≤ own then bindP (smallP 11) (fun n q => bindP (restLP own n 0 S0) (fun S r => .ok ((own, S), r)) q) t else .error 3) h6
  unfold encLS
  rw [List.append_assoc]
  exact this
theorem links_yes {own : Nat} {S : Nat → LS} (h : NOk own S) (hA : Any S) : linksP (encLS own S) = .ok ((own, S), []) := by
  have := (links_back h hA).1 []
  rwa [List.append_nil] at this
theorem links_more {own : Nat} {S : Nat → LS} (h : NOk own S) (hA : Any S) (t : List Nat) (ht : t ≠ []) (x : Nat × (Nat → LS)) : linksP (encLS own S ++ t) ≠ .ok (x, []) := by
  rw [(links_back h hA).1 t]
  intro e
  simp only [Except.ok.injEq, Prod.mk.injEq] at e
  exact ht e.2
theorem links_less {own : Nat} {S : Nat → LS} (h : NOk own S) (hA : Any S) (k : Nat) (hk : k < (encLS own S).length) (x : Nat × (Nat → LS)) : linksP ((encLS own S).take k) ≠ .ok (x, []) := by
  rw [(links_back h hA).2 k hk]
  intro e; cases e
theorem restLP_ne (own : Nat) : ∀ (n last : Nat) (S : Nat → LS) (bs : List Nat) (x : Int), restLP own n last S bs = .error x → x ≠ 0
  | 0, last, S, bs, x, h => by unfold restLP at h; cases h
  | n + 1, last, S, bs, x, h => by
    unfold restLP at h
    cases hv : smallP 12 bs with
    | error e => rw [hv] at h; cases h; exact smallP_ne hv
    | ok z =>
      obtain ⟨m, q⟩ := z
      rw [hv] at h
      dsimp only at h
      split at h
      · cases hv2 : linkP q with
        | error e => rw [hv2] at h; cases h; exact linkP_ne hv2
        | ok z =>
          obtain ⟨y, q2⟩ := z
          rw [hv2] at h
          dsimp only at h
          split at h
          · exact restLP_ne own n _ _ _ x h
          · cases h; decide
      · cases h; decide
theorem linksP_ne {bs : List Nat} {x : Int} (h : linksP bs = .error x) : x ≠ 0 := by
  unfold linksP at h
  cases hv : smallP 12 bs with
  | error e => rw [hv] at h; cases h; exact smallP_ne hv
  | ok z =>
    obtain ⟨m, q⟩ := z
    rw [hv] at h
    dsimp only at h
    split at h
    · cases hv2 : smallP 11 q with
      | error e => rw [hv2] at h; cases h; exact smallP_ne hv2
      | ok z =>
        obtain ⟨n, q2⟩ := z
        rw [hv2] at h
        dsimp only at h
        cases hv3 : restLP m n 0 S0 q2 with
        | error e => rw [hv3] at h; cases h; exact restLP_ne m n _ _ _ _ hv3
        | ok z => rw [hv3] at h; cases h
    · cases h; decide
section
variable (W : World) {B d own : Nat} {F : Nat → Prop} {S : Nat → LS}
set_option maxRecDepth 20000 in
theorem save_any (h : LN W B d F own S) : Calls Try.prog 20 #[.pointer (some ⟨d, 0, none⟩)] W fun e W' => e = .returned (.string (Byt.bstr (encLS own S))) ∧ Below W.heap.size W W' := by
  have HN := Lib.hid (Proofs.Ytifoheodcbjapaa.new_any W)
  have HP := Lib.hid (fun w (hb : Below W.heap.size W w) (hw : Wtr w W.heap.size W.heap.size []) => put_any w (h.next hb) hw (fun k hk => ⟨by have := h.low k hk; omega, fun e => by have := row_ge hw e.symm; have := h.low k hk; omega⟩) (by simp))
  have HE := Lib.hid h.ok.elen
  have H256 := Lib.hid h.ok.h256
  clear h
  go_enter Try.func20, Try.ntmps20
  have hcv : ∀ (w : World) (v : Value) (B : Nat), w.ownsRow B 5 1 v (encLS own S).length (u8s (encLS own S)) → (convert 38 9 v).run Try.prog w = .ok (.string (Byt.bstr (encLS own S))) w := fun w v B ho => by
    obtain ⟨A, c, rfl, _, hby, hA⟩ := Byt.own_byr ho
    exact Byt.conv_src w A _ c (encLS own S) (hby.src hA) rfl H256.out
  have HCV := Lib.hid hcv
  clear hcv
  go_upto_region 3 with (first | (go_at_call 48; refine HN.out.mono ?_; rintro e w1 ⟨rfl, hw, hb⟩; have HW1 := Lib.hid hw; have HB1 := Lib.hid hb; clear hw hb) | (go_at_call 49; refine (HP.out _ HB1.out HW1.out).mono ?_; rintro e w2 ⟨rfl, hw, ho⟩; rw [List.nil_append] at hw; have HW2 := Lib.hid hw; have HB2 := Lib.hid (HB1.out.trans ho.1); clear hw ho))
  have HY := Lib.hid (bytes_any W.heap.size W.heap.size (encLS own S) w2 HW2.out (by have := HE.out; omega))
  go_upto_region 3 with fail
  go_wp2_with (first | (go_at_call 50; refine HY.out.mono ?_; rintro e w3 ⟨v, rfl, ho, hb⟩; have hcv := HCV.out w3 v _ ho; have HB3 := Lib.hid (HB2.out.trans (hb.mono HB2.out.size)); clear ho hb))
  go_ret
  exact ⟨rfl, HB3.out⟩
set_option maxRecDepth 20000 in
theorem save_nb {v : Value} (h : NB W v) : Calls Try.prog 20 #[v] W fun e W' => e = .returned (.string (Byt.bstr [])) ∧ Below W.heap.size W W' := by
  have HN := Lib.hid (Proofs.Ytifoheodcbjapaa.new_any W)
  have HP := Lib.hid (fun w (hb : Below W.heap.size W w) (u : Value) => put_nb w (h.next hb) u)
  clear h
  go_enter Try.func20, Try.ntmps20
  have hcv : ∀ (w : World) (v : Value) (B : Nat), w.ownsRow B 5 1 v ([] : List Nat).length (u8s []) → (convert 38 9 v).run Try.prog w = .ok (.string (Byt.bstr [])) w := fun w v B ho => by
    obtain ⟨A, c, rfl, _, hby, hA⟩ := Byt.own_byr ho
    exact Byt.conv_src w A _ c [] (hby.src hA) rfl (by simp)
  have HCV := Lib.hid hcv
  clear hcv
  go_upto_region 3 with (first | (go_at_call 48; refine HN.out.mono ?_; rintro e w1 ⟨rfl, hw, hb⟩; have HW1 := Lib.hid hw; have HB1 := Lib.hid hb; clear hw hb) | (go_at_call 49; refine (HP.out _ HB1.out _).mono ?_; rintro e w2 ⟨rfl, rfl⟩))
  have HY := Lib.hid (bytes_any W.heap.size W.heap.size [] w1 HW1.out (by simp))
  go_upto_region 3 with fail
  go_wp2_with (first | (go_at_call 50; refine HY.out.mono ?_; rintro e w3 ⟨v, rfl, ho, hb⟩; have hcv := HCV.out w3 v _ ho; have HB3 := Lib.hid (HB1.out.trans (hb.mono HB1.out.size)); clear ho hb))
  go_ret
  exact ⟨rfl, HB3.out⟩
end
/-- What load's callback gives: the link is stored in box c. -/
def EndC (L c s : Nat) (W : World) (P : Except Int ((Nat × (Nat → LS)) × List Nat)) (e : Ending) (W' : World) : Prop :=
  match P with
  | .ok (S, q) => e = .returned (.tuple #[]) ∧ RdB L W' s q ∧ ∃ w1 d F, Off s W w1 ∧ W' = w1.setCell ⟨c, 0, none⟩ (.pointer (some ⟨d, 0, none⟩)) ∧ Blk W' c 23 #[.pointer (some ⟨d, 0, none⟩)] ∧ LN W' W.heap.size d F S.1 S.2
  | .error x => e = .panicked [{ v := flt s, recovered := false }] ∧ Met' W' s x ∧ Off s W W'
set_option maxHeartbeats 4000000 in
set_option maxRecDepth 20000 in
theorem load1_any {L k s c : Nat} {W : World} {bs : List Nat} (hr : Rdr W k s) (h : RdB L W s bs) (hk : k < W.heap.size) (hL : L ≤ W.heap.size) (hlen : bs.length ≤ 140737488355328) (h256 : ∀ y ∈ bs, y < 256) (hc : Blk W c 23 #[.pointer none]) (hcs : c ≠ s) (hcL : L ≤ c) :
    Calls Try.prog 52 #[.pointer (some ⟨k, 0, none⟩), .pointer (some ⟨c, 0, none⟩)] W fun e W' => EndC L c s W (linksP bs) e W' := by
  have HG := Lib.hid (get_any hr h hk hL hlen h256)
  have hcl := hc.lt
  have HC := Lib.hid (And.intro hc (And.intro hcl (And.intro hcs hcL)))
  have hs : s < W.heap.size := by obtain ⟨A, c, hR, _⟩ := h; exact World.block_lt_of_cell? W ⟨s, 0, none⟩ hR.1
  have HS := Lib.hid hs
  obtain ⟨R, hR⟩ : ∃ R, R = linksP bs := ⟨_, rfl⟩
  rw [← hR] at HG ⊢
  clear hR h hr hk hL hc hcl hcs hcL hlen h256 hs
  match R with
  | .error x =>
    go_enter Try.func52, Try.ntmps52
    go_wp2_with (first | (go_at_call 53; refine HG.out.mono ?_; rintro e w1 ⟨rfl, hM⟩; have HM := Lib.hid hM; clear hM))
    exact ⟨rfl, rfl, HM.out.1, HM.out.2⟩
  | .ok (S, q) =>
    go_enter Try.func52, Try.ntmps52
    have HG2 := Lib.hid (HG.out.mono (R' := fun e w1 => ∃ d, e = .returned (.pointer (some ⟨d, 0, none⟩)) ∧ Blk w1 c 23 #[.pointer none] ∧ RdB L w1 s q ∧ Off s W w1 ∧ ∃ F, LN w1 W.heap.size d F S.1 S.2) (by
      rintro e w1 ⟨d, rfl, hO, hK, hd⟩
      exact ⟨d, rfl, (hO.block c HC.out.2.1 HC.out.2.2.1).trans HC.out.1, hd, hO, _, hK⟩))
    clear HG
    go_wp2_with (first | (go_at_call 53; refine HG2.out.mono ?_; rintro e w1 ⟨d, rfl, hcc, hd, hO, hT⟩; have cc := hcc.cell 0; have fz := hcc.frozen 0; simp only [List.getElem?_toArray, List.getElem?_cons_zero] at cc; have HCC := Lib.hid hcc; clear hcc; have HO := Lib.hid hO; have HT := Lib.hid hT; have HD := Lib.hid hd; clear hd hO hT))
    have hf : ∀ j, j ≠ c → (w1.setCell ⟨c, 0, none⟩ (.pointer (some ⟨d, 0, none⟩))).heap[j]? = w1.heap[j]? := fun j hj => Below.heap_setCell w1 ⟨c, 0, none⟩ _ j hj
    have hz : (w1.setCell ⟨c, 0, none⟩ (.pointer (some ⟨d, 0, none⟩))).heap.size = w1.heap.size := by simp [World.setCell]
    have hb : Blk (w1.setCell ⟨c, 0, none⟩ (.pointer (some ⟨d, 0, none⟩))) c 23 #[.pointer (some ⟨d, 0, none⟩)] := Blk.setMid [.pointer (some ⟨d, 0, none⟩)] [] [.pointer none] [] w1 HCC.out rfl
    obtain ⟨F, T⟩ := HT.out
    refine ⟨rfl, .tuple #[], by simp [results, Try.results52, go_sem], rfl, rdb_keep HD.out (hf s (fun e => HC.out.2.2.1 e.symm)) (fun b hb _ _ => hf b (by have := HC.out.2.2.2; omega)) (Nat.le_of_eq hz.symm), w1, d, F, HO.out, rfl, hb, T.keep (fun j hF => hf j (by have := T.low j hF; have := HC.out.2.1; omega)) (Nat.le_of_eq hz.symm)⟩
/-- What load's read leaves. -/
def LoadP (bs : List Nat) (W : World) (r : Except Int (List Nat)) (W' : World) : Prop :=
  (match linksP bs with
    | .ok (S, q) => r = .ok q ∧ ∃ d F, Blk W' W.heap.size 23 #[.pointer (some ⟨d, 0, none⟩)] ∧ LN W' (W.heap.size + 5) d F S.1 S.2
    | .error x => r = .error x) ∧ Below W.heap.size W W'
set_option maxRecDepth 20000 in
theorem load_call (A : Option Addr) (n cp : Nat) (W : World) (bs : List Nat) (hn : bs.length = n) (hnc : n ≤ cp) (hlen : bs.length ≤ 140737488355328) (h256 : ∀ y ∈ bs, y < 256)
    (hbs : Byt.ByR W A bs) :
    Calls Try.prog 51 #[.slice A n cp, .func (.func 52) #[] #[.pointer (some ⟨W.heap.size, 0, none⟩)]] (W.alloc (.cells #[.pointer none] 23)) fun e W' => ∃ r, e = .returned (.int .i64 (readE r)) ∧ LoadP bs W r W' := by
  have hb0 : Below W.heap.size W (W.alloc (.cells #[.pointer none] 23)) := (Below.refl _ _).alloc (Nat.le_refl _) _
  have hsz : (W.alloc (.cells #[.pointer none] 23)).heap.size = W.heap.size + 1 := by simp
  have hg0 : Blk (W.alloc (.cells #[.pointer none] 23)) W.heap.size 23 #[.pointer none] := Blk.new W _ _
  obtain ⟨Wb, hWb⟩ : ∃ Wb, Wb = W.alloc (.cells #[.pointer none] 23) := ⟨_, rfl⟩
  rw [← hWb] at hb0 hsz hg0 ⊢
  clear hWb
  refine (read_any4 (L := W.heap.size) A n cp 52 #[.pointer (some ⟨W.heap.size, 0, none⟩)] Wb bs (fun r W2 => LoadP bs W r W2)
    (fun args w => run_enter Try.func52 (by kernel_rfl) (by kernel_rfl) args w) hn hnc (by omega) ?_ ?_).mono ?_
  · refine hbs.imp id ?_
    rintro ⟨b, p, h1, h2, h3⟩
    exact ⟨b, p, h1, h2, fun i x hx => (hb0.cell (p := ⟨b, p + i, none⟩) h2).trans (h3 i x hx)⟩
  · intro W1 k s hb hs hk hs1 h4 _ hR hB
    have hg1 := hg0.next hb
    have hk1 := World.block_lt_of_cell? W1 ⟨k, 0, none⟩ hR.2
    refine (load1_any (c := W.heap.size) hR hB hk1 (by omega) hlen h256 hg1 (by omega) (by omega)).mono ?_
    intro e W2 h
    unfold Fine LoadP
    unfold EndC at h
    cases hq : linksP bs with
    | error x =>
      rw [hq] at h
      obtain ⟨rfl, hM, hO⟩ := h
      refine ⟨fun b _ h6 h7 => hO.block b h6 h7, Or.inr ⟨x, linksP_ne hq, rfl, hM, rfl, ?_⟩⟩
      exact hb0.trans ((hb.mono (by omega)).trans (hO.belowB (by omega) (by omega)))
    | ok z =>
      obtain ⟨S, q⟩ := z
      rw [hq] at h
      obtain ⟨rfl, hB2, w1, d, F, hO, rfl, hcb, hK⟩ := h
      have hf : ∀ j, j ≠ W.heap.size → (w1.setCell ⟨W.heap.size, 0, none⟩ (.pointer (some ⟨d, 0, none⟩))).heap[j]? = w1.heap[j]? := fun j hj => Below.heap_setCell w1 ⟨W.heap.size, 0, none⟩ _ j hj
      refine ⟨fun j h5 h6 h7 => (hf j (by omega)).trans (hO.block j h6 h7), Or.inl ⟨q, rfl, hB2, ⟨rfl, d, F, hcb, ?_⟩, ?_⟩⟩
      · exact hK.re (fun j hj => hj) (fun j hj => ⟨by have := hK.low j hj; omega, (hK.low j hj).2⟩)
      · exact (hb0.trans ((hb.mono (by omega)).trans (hO.belowB (by omega) (by omega)))).setCell (p := ⟨W.heap.size, 0, none⟩) (Nat.le_refl _) _
  · rintro e W' ⟨r, W2, hY, he, hb3, hk3⟩
    refine ⟨r, he, ?_⟩
    unfold LoadP at hY ⊢
    refine ⟨?_, hY.2.trans (hb3.mono (by omega))⟩
    have h1 := hY.1
    cases hq : linksP bs with
    | error x => rw [hq] at h1; exact h1
    | ok z =>
      obtain ⟨S, q⟩ := z
      rw [hq] at h1
      obtain ⟨rfl, d, F, hc, T⟩ := h1
      exact ⟨rfl, d, F, (hb3.block _ (by omega)).trans hc, T.keep (fun j hF => hk3 j (T.low j hF).2 (by have := (T.low j hF).1; omega) (by have := (T.low j hF).1; omega)) hb3.size⟩
section
variable (A : Option Addr) (n cp : Nat) (W : World) (bs : List Nat) (hn : bs.length = n) (hnc : n ≤ cp) (hlen : bs.length ≤ 140737488355328) (h256 : ∀ y ∈ bs, y < 256)
    (hbs : Byt.ByR W A bs)
include hn hnc hbs hlen h256
set_option maxRecDepth 20000 in
set_option maxHeartbeats 4000000 in
theorem load_yes {S : Nat × (Nat → LS)} (h : linksP bs = .ok (S, [])) :
    Calls Try.prog 22 #[.slice A n cp] W fun e W' => ∃ d F, e = .returned (.pointer (some ⟨d, 0, none⟩)) ∧ LN W' W.heap.size d F S.1 S.2 ∧ Below W.heap.size W W' := by
  have HC := Lib.hid (load_call A n cp W bs hn hnc hlen h256 hbs)
  have hmf : ∀ (fn : Fn) (first cap : Array Value) (w : World), (Instr.makeFunc fn first cap).run Try.prog w = .ok (.func fn first cap) w := fun _ _ _ _ => rfl
  have HP := Lib.hid h
  clear hn hnc hbs h hlen h256
  go_enter Try.func22, Try.ntmps22
  go_wp2_with (first | (go_at_call 51; refine HC.out.mono ?_; rintro e W1 ⟨r, rfl, hR⟩; unfold LoadP at hR; rw [HP.out] at hR; obtain ⟨⟨rfl, d, F, hc, T⟩, hb⟩ := hR; have cc := hc.cell 0; simp only [List.getElem?_toArray, List.getElem?_cons_zero] at cc; have HT := Lib.hid T; have HB := Lib.hid hb; clear hb T hc; rw [show readE (.ok []) = 0 from rfl]))
  go_ret
  have D := HT.out
  exact ⟨d, F, rfl, D.re (fun j hj => hj) (fun j hj => ⟨by have := D.low j hj; omega, (D.low j hj).2⟩), HB.out⟩
set_option maxRecDepth 20000 in
set_option maxHeartbeats 4000000 in
theorem load_no (h : ∀ S, linksP bs ≠ .ok (S, [])) :
    Calls Try.prog 22 #[.slice A n cp] W fun e W' => e = .returned (.pointer none) ∧ Below W.heap.size W W' := by
  have HC := Lib.hid (load_call A n cp W bs hn hnc hlen h256 hbs)
  have hmf : ∀ (fn : Fn) (first cap : Array Value) (w : World), (Instr.makeFunc fn first cap).run Try.prog w = .ok (.func fn first cap) w := fun _ _ _ _ => rfl
  have HP := Lib.hid (show ∀ r W', LoadP bs W r W' → ∃ z : Int, readE r = z ∧ decide (z = 0) = false from fun r W' hR => by
    have h1 := hR.1
    refine ⟨readE r, rfl, decide_eq_false ?_⟩
    cases hq : linksP bs with
    | error x => rw [hq] at h1; subst h1; exact linksP_ne hq
    | ok q =>
      obtain ⟨S, q⟩ := q
      rw [hq] at h1
      obtain ⟨rfl, _⟩ := h1
      cases q with
      | nil => exact absurd hq (h S)
      | cons a t => unfold readE; simp)
  clear hn hnc hbs h hlen h256
  go_enter Try.func22, Try.ntmps22
  go_wp2_with fail
  refine HC.out.mono ?_
  rintro e W1 ⟨r, rfl, hR⟩
  obtain ⟨z, hz, hz0⟩ := HP.out r W1 hR
  obtain ⟨_, hb⟩ := hR
  have HB := Lib.hid hb
  have hz2 : z ≠ 0 := by simpa using hz0
  have hz1 : (z != 0) = true := by simpa using hz2
  have hz3 : (z == 0) = false := by simpa using hz2
  rw [hz]
  clear hb hz hz0 HP HC
  go_wp2_with fail
  go_ret
  exact ⟨rfl, HB.out⟩
end
end Ls
end Go.Proofs.Ytifoheodcbjapaa
