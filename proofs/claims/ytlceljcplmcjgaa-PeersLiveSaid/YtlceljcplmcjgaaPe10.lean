/-
peers: their bytes there and back (mathematics).
-/
import Derived.Test.YtlceljcplmcjgaaPe9
namespace Go.Proofs.Ytlceljcplmcjgaa
open Go.RowKit
set_option linter.unusedSimpArgs false
set_option linter.unusedVariables false
namespace Pe
def Rising (nd : Int) : Nat → List Nat → Prop
  | _, [] => True
  | last, v :: l => (last < v ∧ (v : Int) ≠ nd) ∧ v ≤ 12 ∧ Rising nd v l
def upAll : (Nat → Bool) → List Nat → (Nat → Bool)
  | p, [] => p
  | p, v :: l => upAll (upP p (v - 1)) l
theorem upAll_iff : ∀ (l : List Nat) (p : Nat → Bool) (i : Nat), upAll p l i = true ↔ p i = true ∨ ∃ v ∈ l, v - 1 = i
  | [], p, i => by simp [upAll]
  | v :: l, p, i => by
    show upAll (upP p (v - 1)) l i = true ↔ _
    rw [upAll_iff l (upP p (v - 1)) i]
    unfold upP
    by_cases h : i = v - 1
    · subst h; simp
    · rw [if_neg h]
      simp only [List.mem_cons, exists_eq_or_imp]
      constructor
      · rintro (h1 | h1)
        · exact .inl h1
        · exact .inr (.inr h1)
      · rintro (h1 | h1 | h1)
        · exact .inl h1
        · exact absurd h1.symm h
        · exact .inr h1
theorem upAll_lst (p : Nat → Bool) {i : Nat} (hi : i < 12) : upAll (fun _ => false) (lst p) i = p i := by
  rw [Bool.eq_iff_iff, upAll_iff]
  simp only [Bool.false_eq_true, false_or]
  constructor
  · rintro ⟨v, hv, rfl⟩
    exact (lst_mem.1 hv).2.2
  · intro h
    exact ⟨i + 1, lst_mem.2 ⟨by omega, by omega, by simpa using h⟩, by omega⟩
theorem rising_filter (nd : Int) (q : Nat → Bool) (hq : ∀ n, 1 ≤ n → n ≤ 12 → q n = true → (n : Int) ≠ nd) : ∀ (m a last : Nat), last ≤ a → a + m ≤ 12 → Rising nd last ((List.range' (a + 1) m).filter q)
  | 0, a, last, _, _ => by simp [Rising]
  | m + 1, a, last, h, ha => by
    rw [List.range'_succ, List.filter_cons]
    cases hv : q (a + 1) with
    | true =>
      rw [if_pos rfl]
      exact ⟨⟨by omega, hq (a + 1) (by omega) (by omega) hv⟩, by omega, rising_filter nd q hq m (a + 1) (a + 1) (Nat.le_refl _) (by omega)⟩
    | false =>
      rw [if_neg (by decide)]
      exact rising_filter nd q hq m (a + 1) last (by omega) (by omega)
theorem rising_lst {nd : Int} {p : Nat → Bool} (h : ∀ j, j < 12 → p j = true → (j : Int) + 1 ≠ nd) : Rising nd 0 (lst p) := by
  have := rising_filter nd (fun m => p (m - 1)) (fun n h1 h2 h3 => by have := h (n - 1) (by omega) h3; omega) 12 0 0 (Nat.le_refl _) (Nat.le_refl _)
  exact this
theorem peer_back (nd : Int) : ∀ (l : List Nat) (p : Nat → Bool) (last : Nat), Rising nd last l → Back (peerA nd p last l.length) (encL l) (upAll p l)
  | [], p, last, _ => back_pure _
  | v :: l, p, last, h => by
    have e : peerA nd p last (l.length + 1) = bindP (smallP 12) (fun v t => if last < v ∧ (v : Int) ≠ nd then peerA nd (upP p (v - 1)) v l.length t else .error 3) := by
      funext bs
      unfold bindP
      rw [peerA]
      cases smallP 12 bs with
      | error y => rfl
      | ok z => obtain ⟨a, t⟩ := z; rfl
    show Back (peerA nd p last (l.length + 1)) (enc v ++ encL l) _
    rw [e]
    refine (small_back 12 v (by have := h.2.1; omega) (by have := h.2.1; omega)).bind ?_
    have e2 : (fun t => if last < v ∧ (v : Int) ≠ nd then peerA nd (upP p (v - 1)) v l.length t else .error 3) = peerA nd (upP p (v - 1)) v l.length := by
      funext t
      rw [if_pos h.1]
    rw [e2]
    exact peer_back nd l _ v h.2.2
theorem lst_11 {nd : Int} {p : Nat → Bool} (h1 : 1 ≤ nd) (h2 : nd ≤ 12) (ho : ∀ j, j < 12 → p j = true → (j : Int) + 1 ≠ nd) : (lst p).length ≤ 11 := by
  have h12 := lst_le p
  by_cases h : (lst p).length = 12
  · exfalso
    have e : (lst p).length = ((List.range 12).map (· + 1)).length := by rw [h]; rfl
    have h3 := List.length_filter_eq_length_iff.1 e
    have h4 := h3 nd.toNat (by simp only [List.mem_map, List.mem_range]; exact ⟨nd.toNat - 1, by omega, by omega⟩)
    exact ho (nd.toNat - 1) (by omega) h4 (by omega)
  · omega
theorem sub_back (nd s : Int) (p : Nat → Bool) (h0 : 0 ≤ s) (h3 : s ≤ 3) (hm : mayB s (lst p).length = true) (h1 : 1 ≤ nd) (h2 : nd ≤ 12) (ho : ∀ j, j < 12 → p j = true → (j : Int) + 1 ≠ nd) : Back (subP nd) (encS s p) (s, upAll (fun _ => false) (lst p)) := by
  have hl11 := lst_11 h1 h2 ho
  have hs : ((s.toNat : Nat) : Int) = s := by omega
  have e : subP nd = bindP (smallP 3) (fun st t => subP2 nd st t) := by
    funext bs
    unfold bindP subP
    cases smallP 3 bs with
    | error y => rfl
    | ok z => obtain ⟨a, t⟩ := z; rfl
  unfold encS
  rw [e, List.append_assoc]
  refine (small_back 3 s.toNat (by omega) (by omega)).bind ?_
  have e2 : (fun t => subP2 nd s.toNat t) = bindP (smallP 11) (fun n u => if mayB ((s.toNat : Nat) : Int) n = true then subP3 nd s.toNat n u else .error 3) := by
    funext bs
    unfold bindP subP2
    cases smallP 11 bs with
    | error y => rfl
    | ok z => obtain ⟨a, t⟩ := z; rfl
  rw [e2]
  refine (small_back 11 (lst p).length (by omega) (by omega)).bind ?_
  have e3 : (fun u => if mayB ((s.toNat : Nat) : Int) (lst p).length = true then subP3 nd s.toNat (lst p).length u else .error 3) = bindP (peerA nd (fun _ => false) 0 (lst p).length) (fun q r => .ok ((s, q), r)) := by
    funext bs
    rw [hs, if_pos hm]
    unfold bindP subP3
    rw [hs]
    cases peerA nd (fun _ => false) 0 (lst p).length bs with
    | error y => rfl
    | ok z => obtain ⟨a, t⟩ := z; rfl
  rw [e3, ← List.append_nil (encL (lst p))]
  exact (peer_back nd (lst p) _ 0 (rising_lst ho)).bind (back_pure _)
def encR (x : PS) (j : Nat) : Nat → List Nat
  | 0 => []
  | m + 1 => encS (x.st j) (x.pe j) ++ encR x (j + 1) m
theorem encR_all (x : PS) : encR x 0 12 = encN x 12 := by
  unfold encN
  simp [encR, List.range, List.range.loop]
def setAll (x y : PS) (j : Nat) : Nat → PS
  | 0 => y
  | m + 1 => setAll x (y.setSub j (x.st j) (upAll (fun _ => false) (lst (x.pe j)))) (j + 1) m
theorem setAll_n (x : PS) : ∀ (m j : Nat) (y : PS), (setAll x y j m).n = y.n
  | 0, j, y => rfl
  | m + 1, j, y => setAll_n x m (j + 1) _
theorem setAll_low (x : PS) : ∀ (m j : Nat) (y : PS) (k : Nat), k < j → (setAll x y j m).st k = y.st k ∧ (setAll x y j m).pe k = y.pe k
  | 0, j, y, k, h => ⟨rfl, rfl⟩
  | m + 1, j, y, k, h => by
    have h1 := setAll_low x m (j + 1) (y.setSub j (x.st j) (upAll (fun _ => false) (lst (x.pe j)))) k (by omega)
    have hne : ¬ k = j := by omega
    have e1 : (y.setSub j (x.st j) (upAll (fun _ => false) (lst (x.pe j)))).st k = y.st k := by unfold PS.setSub; dsimp only; rw [if_neg hne]
    have e2 : (y.setSub j (x.st j) (upAll (fun _ => false) (lst (x.pe j)))).pe k = y.pe k := by unfold PS.setSub; dsimp only; funext l; rw [if_neg hne]
    rw [e1, e2] at h1
    exact h1
theorem setAll_in (x : PS) : ∀ (m j : Nat) (y : PS) (k : Nat), j ≤ k → k < j + m → (setAll x y j m).st k = x.st k ∧ (setAll x y j m).pe k = upAll (fun _ => false) (lst (x.pe k))
  | 0, j, y, k, h, h2 => by omega
  | m + 1, j, y, k, h, h2 => by
    by_cases hk : k = j
    · subst hk
      have h1 := setAll_low x m (k + 1) (y.setSub k (x.st k) (upAll (fun _ => false) (lst (x.pe k)))) k (by omega)
      have e1 : (y.setSub k (x.st k) (upAll (fun _ => false) (lst (x.pe k)))).st k = x.st k := by unfold PS.setSub; dsimp only; rw [if_pos rfl]
      have e2 : (y.setSub k (x.st k) (upAll (fun _ => false) (lst (x.pe k)))).pe k = upAll (fun _ => false) (lst (x.pe k)) := by unfold PS.setSub; dsimp only; funext l; rw [if_pos rfl]
      rw [e1, e2] at h1
      exact h1
    · exact setAll_in x m (j + 1) _ k (by omega) (by omega)
theorem all_back {x : PS} (hx : x.Ok) : ∀ (m j : Nat) (y : PS), j + m ≤ 12 → Back (allA x.n y j m) (encR x j m) (setAll x y j m)
  | 0, j, y, _ => back_pure _
  | m + 1, j, y, h => by
    have e : allA x.n y j (m + 1) = bindP (subP x.n) (fun sp t => allA x.n (y.setSub j sp.1 sp.2) (j + 1) m t) := by
      funext bs
      unfold bindP
      rw [allA]
      cases subP x.n bs with
      | error y => rfl
      | ok z => obtain ⟨⟨s, p⟩, t⟩ := z; rfl
    show Back (allA x.n y j (m + 1)) (encS (x.st j) (x.pe j) ++ encR x (j + 1) m) _
    rw [e]
    refine (sub_back x.n (x.st j) (x.pe j) (hx.st j (by omega)).1 (hx.st j (by omega)).2 (hx.may j (by omega)) hx.n1 hx.n2 (fun i hi hp => hx.own j i (by omega) hi hp)).bind ?_
    exact all_back hx m (j + 1) _ (by omega)
def PS.back (x : PS) : PS := setAll x (PS.new x.n) 0 12
theorem peers_back {x : PS} (hx : x.Ok) : Back peersP (encPS x) x.back := by
  have hn : ((x.n.toNat : Nat) : Int) = x.n := by have := hx.n1; omega
  have e : peersP = bindP (smallP 12) (fun n t => if 1 ≤ n then allA (n : Nat) (PS.new (n : Nat)) 0 12 t else .error 3) := by
    funext bs
    unfold bindP peersP
    cases smallP 12 bs with
    | error y => rfl
    | ok z => obtain ⟨a, t⟩ := z; rfl
  unfold encPS
  rw [e]
  refine (small_back 12 x.n.toNat (by have := hx.n2; omega) (by have := hx.n2; omega)).bind ?_
  have e2 : (fun t => if 1 ≤ x.n.toNat then allA ((x.n.toNat : Nat) : Int) (PS.new ((x.n.toNat : Nat) : Int)) 0 12 t else .error 3) = allA x.n (PS.new x.n) 0 12 := by
    funext t
    rw [if_pos (by have := hx.n1; omega), hn]
  rw [e2, ← encR_all]
  exact all_back hx 12 0 _ (Nat.le_refl _)
theorem cells_ext {x y : PS} (hn : x.n = y.n) (hs : ∀ k, k < 12 → x.st k = y.st k) (hp : ∀ k j, k < 12 → j < 12 → x.pe k j = y.pe k j) : x.cells = y.cells := by
  apply List.ext_getElem?
  intro i
  by_cases hi : i < 157
  · rw [ps_at _ i hi, ps_at _ i hi, hn]
    by_cases h0 : i = 0
    · rw [if_pos h0, if_pos h0]
    · rw [if_neg h0, if_neg h0]
      by_cases h1 : (i - 1) % 13 = 0
      · rw [if_pos h1, if_pos h1, hs _ (by omega)]
      · rw [if_neg h1, if_neg h1, hp _ _ (by omega) (by omega)]
  · rw [ps_out _ i hi, ps_out _ i hi]
theorem back_cells {x : PS} (hx : x.Ok) : x.back.cells = x.cells := by
  refine cells_ext (setAll_n x 12 0 _) (fun k hk => (setAll_in x 12 0 _ k (by omega) (by omega)).1) (fun k j hk hj => ?_)
  unfold PS.back
  rw [(setAll_in x 12 0 _ k (by omega) (by omega)).2]
  exact upAll_lst _ hj
theorem encPS_pos (x : PS) : 1 ≤ (encPS x).length := by
  unfold encPS enc
  rw [List.length_append, List.length_append]
  simp
  omega
section
variable (A : Option Addr) (n cp : Nat) (W : World) (x : PS) (hx : x.Ok)
include hx
theorem load_back (hn : (encPS x).length = n) (hnc : n ≤ cp) (hbs : Byt.ByR W A (encPS x)) : Calls Try.prog 27 #[.slice A n cp] W fun e W' => ∃ d, e = .returned (.pointer (some ⟨d, 0, none⟩)) ∧ PP W' W.heap.size d x ∧ Below W.heap.size W W' :=
  (load_yes A n cp W (encPS x) hn hnc hbs (by have := (peers_back hx).1 []; rwa [List.append_nil] at this)).mono (by
    rintro e W' ⟨d, rfl, hP, hb⟩
    refine ⟨d, rfl, ⟨?_, hP.2⟩, hb⟩
    rw [← back_cells hx]
    exact hP.1)
theorem load_cut (hn : ((encPS x).take ((encPS x).length - 1)).length = n) (hnc : n ≤ cp) (hbs : Byt.ByR W A ((encPS x).take ((encPS x).length - 1))) : Calls Try.prog 27 #[.slice A n cp] W fun e W' => e = .returned (.pointer none) ∧ Below W.heap.size W W' :=
  load_no A n cp W _ hn hnc hbs (fun S => by rw [(peers_back hx).2 _ (by have := encPS_pos x; omega)]; intro h; cases h)
theorem load_more (hn : (encPS x ++ [0]).length = n) (hnc : n ≤ cp) (hbs : Byt.ByR W A (encPS x ++ [0])) : Calls Try.prog 27 #[.slice A n cp] W fun e W' => e = .returned (.pointer none) ∧ Below W.heap.size W W' :=
  load_no A n cp W _ hn hnc hbs (fun S => by rw [(peers_back hx).1 [0]]; intro h; cases h)
end
end Pe
end Go.Proofs.Ytlceljcplmcjgaa
