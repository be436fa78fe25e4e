/-
packet: a packet's bytes.
-/
import Derived.Test.YtifoheodcbjapaaPk
namespace Go.Proofs.Ytifoheodcbjapaa
open Go.RowKit
set_option linter.unusedSimpArgs false
set_option linter.unusedVariables false
namespace Pk
def ackN (k : Bool) : Nat := if k then 1 else 0
structure Rt (p : Pt) : Prop where
  f1 : 1 ≤ p.f
  f2 : p.f ≤ 12
  t1 : 1 ≤ p.t
  t2 : p.t ≤ 12
  ne : p.f ≠ p.t
  q1 : 1 ≤ p.q
  q2 : p.q ≤ 1099511627776
  d : dataB p.k p.bs.length = true
theorem right_of {p : Pt} (h : rightB p = true) : Rt p := by
  unfold rightB nodeB seqB at h
  simp only [Bool.and_eq_true, decide_eq_true_eq] at h
  obtain ⟨⟨⟨⟨⟨h1, h2⟩, h3, h4⟩, h5⟩, h6, h7⟩, h8⟩ := h
  exact ⟨h1, h2, h3, h4, h5, h6, h7, h8⟩
theorem of_right {p : Pt} (h : Rt p) : rightB p = true := by
  unfold rightB nodeB seqB
  simp only [Bool.and_eq_true, decide_eq_true_eq]
  exact ⟨⟨⟨⟨⟨h.f1, h.f2⟩, h.t1, h.t2⟩, h.ne⟩, h.q1, h.q2⟩, h.d⟩
theorem Rt.len {p : Pt} (h : Rt p) : p.bs.length ≤ 1800 := by
  have := h.d
  unfold dataB at this
  split at this
  · simp only [decide_eq_true_eq] at this; omega
  · simp only [decide_eq_true_eq, Bool.and_eq_true] at this; omega
structure Pc.Ok (W : World) (x : Pc) : Prop where
  hc : x.p.bs.length ≤ x.c
  h256 : ∀ y ∈ x.p.bs, y < 256
  rd : Byt.ByR W x.A x.p.bs
  hA : x.A = none → x.p.bs = []
theorem Pc.Ok.next {W w : World} {x : Pc} (h : x.Ok W) (hb : Below W.heap.size W w) : x.Ok w := { h with rd := h.rd.next hb }
theorem Pc.Ok.src {W : World} {x : Pc} (h : x.Ok W) : Src W x.A x.p.bs.length (u8s x.p.bs) := h.rd.src h.hA
section
variable (W : World)
set_option maxRecDepth 20000 in
theorem equal_any (A B : Option Addr) (m n c d : Nat) (xs bs : List Nat) (hm : xs.length = m) (hn : bs.length = n) (ha : Byt.ByR W A xs) (hA : A = none → xs = []) (hb : Byt.ByR W B bs) (hB : B = none → bs = []) (h1 : ∀ y ∈ xs, y < 256) (h2 : ∀ y ∈ bs, y < 256) :
    Calls Try.prog 54 #[.slice A m c, .slice B n d] W fun e W' => e = .returned (.bool (decide (xs = bs))) ∧ W = W' := by
  have k1 := Byt.conv_src W A m c xs (hm ▸ ha.src hA) hm h1
  have k2 := Byt.conv_src W B n d bs (hn ▸ hb.src hB) hn h2
  have k3 := Sx.str_eql W xs bs h1 h2
  have k4 := Sx.toList_beq xs bs h1 h2
  clear hm hn ha hA hb hB h1 h2
  go_enter Try.func54, Try.ntmps54
  go_wp2_with fail
  go_ret
  exact ⟨by first | rfl | (rw [← k4]; rfl), rfl⟩
end
end Pk
end Go.Proofs.Ytifoheodcbjapaa
