/-
An append onto a slice that has no room: what lies there and what comes, in a new row. It speaks of any program.
-/
import Derived.Test.YtifoheodcbjapaaAppend
import Derived.Test.YtifoheodcbjapaaTree
namespace Go.Proofs.Ytifoheodcbjapaa
open Go.RowKit
section
variable {P : Program}
theorem run_append_fresh (w : World) (t ty e : TypeId) (i : TypeInfo) (z : Value) (ht : P.underlying t = some (.slice e)) (hi : P.info? e = some i) (hz : i.zero = some z)
    (A : Option Addr) (n : Nat) (olds : List Value) (hlo : olds.length = n * i.size) (hsrc : Src w A n olds) (ad : Addr) (m c : Nat) (news : List Value) (hl : news.length = m * i.size) (hnews : ∀ j u, news[j]? = some u → w.cell? (ad.add j) = some u)
    (hm : 0 < m) (h63 : n + m ≤ maxLen) (hbytes : (n + m) * i.bytes ≤ 140737488355328) :
    ∃ k tail, n + m ≤ k ∧ (Builtin.append_ #[t, t] ty #[.slice A n n, .slice (some ad) m c]).run P w = .ok (.slice (some ⟨w.heap.size, 0, none⟩) (n + m) k) (w.drew.alloc (.cells ((olds ++ news).toArray ++ tail) e)) := by
  have hsmall : n + m ≤ 9223372036854775807 := by simp only [maxLen] at h63; omega
  rcases hsrc with ⟨a, rfl, hc⟩ | ⟨rfl, rfl, rfl⟩
  · refine ⟨grownCap w (n + m) n e, Builtin.zeroCells z.cells (grownCap w (n + m) n e - (n + m)), grownCap_ge w (n + m) n e, ?_⟩
    rw [run_append_grow (P := P) w t ty e i z ht hi hz a n n olds hlo hc ad m c news hl hnews (by omega) (by omega) (growslice_fits (by omega) hbytes)]
    simp
  · refine ⟨grownCap w m 0 e, Builtin.zeroCells z.cells (grownCap w m 0 e - m), (by rw [Nat.zero_add]; exact grownCap_ge w m 0 e), ?_⟩
    rw [Nat.zero_add, run_append_nil (P := P) w t ty e i z ht hi hz ad m c news hl hnews hm (by omega) (by rw [Nat.zero_add] at hbytes; omega), List.nil_append]
theorem step_append_fresh {ops : Array Oper} {o : Oper} {a : Act} {K : Act → World → Prop} {Q : Exit → Act → World → Prop} {E : Prop} {w : World} (hw : Region.wanted o (yielded ops a.tmps) = true) (s x : Operand) (t : TypeId)
    (ho : o.op = .call { callee := .builtin .append, args := #[s, x], argTypes := #[t, t] })
    (e : TypeId) (i : TypeInfo) (z : Value) (ht : P.underlying t = some (.slice e)) (hi : P.info? e = some i) (hz : i.zero = some z)
    (A : Option Addr) (n : Nat) (olds : List Value) (hs : a.eval s = .slice A n n) (hlo : olds.length = n * i.size) (hsrc : Src w A n olds)
    (ad : Addr) (m c : Nat) (news : List Value) (hx : a.eval x = .slice (some ad) m c) (hl : news.length = m * i.size) (hnews : ∀ j u, news[j]? = some u → w.cell? (ad.add j) = some u)
    (hm : 0 < m) (h63 : n + m ≤ maxLen) (hbytes : (n + m) * i.bytes ≤ 140737488355328)
    (h : ∀ k tail, n + m ≤ k → K (a.put o.dst (.slice (some ⟨w.heap.size, 0, none⟩) (n + m) k)) (w.drew.alloc (.cells ((olds ++ news).toArray ++ tail) e))) : if Region.wanted o (yielded ops a.tmps) = true then Oper.wp P o a w K Q else E := by
  rw [if_pos hw]
  obtain ⟨k, tail, hk, hr⟩ := run_append_fresh (P := P) w t o.type e i z ht hi hz A n olds hlo hsrc ad m c news hl hnews hm h63 hbytes
  unfold Oper.wp
  simp [execOp, ho, resolve, invoke, builtin, hs, hx, hr, Result.andThen]
  have := h k tail hk
  exact this
end
end Go.Proofs.Ytifoheodcbjapaa
