/-
Bytes as strings.
-/
import Derived.Test.YtgnfachjobohoaaGreatRefW
import Derived.Lib.SlBytesRow
import Derived.Laws.IdiomStrings
import Derived.Lib.BufferRead
import Derived.Deep.RegionWith
namespace Go.Proofs.YtgnfachjobohoaaGreat
open Go.RowKit

/-- Bytes as a string. -/
def bstr (bs : List Nat) : ByteArray := ⟨(bs.map UInt8.ofNat).toArray⟩
theorem bstr_inj {a b : List Nat} (ha : ∀ x ∈ a, x < 256) (hb : ∀ x ∈ b, x < 256) (h : bstr a = bstr b) : a = b := by
  have h1 : (a.map UInt8.ofNat) = b.map UInt8.ofNat := by
    unfold bstr at h
    simpa using h
  apply List.ext_getElem?
  intro i
  have h2 : (a.map UInt8.ofNat)[i]? = (b.map UInt8.ofNat)[i]? := by rw [h1]
  rw [List.getElem?_map, List.getElem?_map] at h2
  cases ha1 : a[i]? with
  | none => rw [ha1] at h2; cases hb1 : b[i]? with
    | none => rfl
    | some y => rw [hb1] at h2; cases h2
  | some x => cases hb1 : b[i]? with
    | none => rw [ha1, hb1] at h2; cases h2
    | some y =>
      rw [ha1, hb1] at h2
      simp only [Option.map_some, Option.some.injEq] at h2
      have h3 := congrArg UInt8.toNat h2
      have hx := ha x (List.mem_of_getElem? ha1)
      have hy := hb y (List.mem_of_getElem? hb1)
      simp at h3
      congr 1
      omega
theorem bstr_size (bs : List Nat) : (bstr bs).size = bs.length := by simp [bstr, ByteArray.size]
attribute [irreducible] bstr
theorem bstr_lit (bs : List Nat) : bstr bs = ⟨(bs.map UInt8.ofNat).toArray⟩ := by unfold bstr; rfl

theorem conv_src (W : World) (A : Option Addr) (n c : Nat) (bs : List Nat) (hs : Src W A n (u8s bs)) (hn : bs.length = n) (hb : ∀ x ∈ bs, x < 256) :
    (convert 28 9 (.slice A n c)).run Tryz.prog W = .ok (.string (bstr bs)) W := by
  rcases hs with ⟨ad, rfl, hc⟩ | ⟨rfl, rfl, h⟩
  · have h := run_convert_bytes_back (P := Tryz.prog) W 28 9 5 ad c (bs.map UInt8.ofNat) Tryz.underlying28 Tryz.underlying5 Tryz.underlying9 (by
      intro j hj
      have hj' : j < bs.length := by simpa using hj
      have hx := hb bs[j] (List.getElem_mem hj')
      have := hc j (.int .u8 (bs[j] : Nat)) (by unfold u8s; rw [List.getElem?_map, List.getElem?_eq_getElem hj']; rfl)
      rw [this, List.getElem_map]
      congr 2
      simp; omega)
    rw [List.length_map, hn] at h
    rw [h, bstr_lit]
  · have : bs = [] := by simpa [u8s] using h
    subst this
    rw [Lib.run_convert_nil_bytes W _ _ 5 c Tryz.underlying28 Tryz.underlying5 Tryz.underlying9, bstr_lit]
    rfl
theorem enc_lt (n : Nat) : ∀ x ∈ enc n, x < 256 := by
  have h : ∀ m, ∀ x ∈ encHi m, x < 256 := by
    intro m
    induction m using Nat.strongRecOn with
    | _ m ih =>
      intro x hx
      by_cases h0 : m = 0
      · subst h0; rw [encHi_zero] at hx; cases hx
      · rw [encHi_step (by omega)] at hx
        rcases List.mem_append.1 hx with h1 | h1
        · exact ih (m / 128) (by omega) x h1
        · rw [List.mem_singleton.1 h1]; omega
  intro x hx
  unfold enc at hx
  rcases List.mem_append.1 hx with h1 | h1
  · exact h _ x h1
  · rw [List.mem_singleton.1 h1]; omega
theorem be8_lt (k : Nat) : ∀ x ∈ be8 k, x < 256 := by
  intro x hx
  unfold be8 at hx
  obtain ⟨i, _, rfl⟩ := List.mem_map.1 hx
  omega
theorem encs_lt (l : List Nat) : ∀ x ∈ encs l, x < 256 := by
  intro x hx
  unfold encs at hx
  obtain ⟨n, _, h⟩ := List.mem_flatMap.1 hx
  exact enc_lt n x h
theorem encV_lt (f : Nat → Nat) : ∀ x ∈ encV f, x < 256 := by
  intro x hx
  unfold encV at hx
  rcases List.mem_append.1 hx with h | h
  · exact enc_lt _ x h
  · exact encs_lt _ x h
end Go.Proofs.YtgnfachjobohoaaGreat
