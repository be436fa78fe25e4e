/-
The document's op of bytes.
The document's event of bytes: Right, Get, Read.
The document's event of bytes: Read.
The document's bytes of an op.
-/
import Derived.Test.YtkigaclcmodjaaaGreatORef
import Derived.Test.YtkigaclcmodjaaaGreatOOpen
import Derived.Test.YtkigaclcmodjaaaGreatLRef
namespace Go.Proofs.YtkigaclcmodjaaaGreat
open Go.RowKit
set_option linter.unusedSimpArgs false
set_option linter.unusedVariables false
attribute [local go_sem] Tot.run_store_float
/-- In the middle of a read into a box of some type. -/
def AtG (T : TypeId) (z : Array Value) (k g c : Nat) (A : Option Addr) (bs : List Nat) (W wx : World) (p : Nat) (e : Int) (cs : Array Value) : Prop :=
  RS wx k A c bs p e ∧ Blk wx g T cs ∧ Blk wx W.heap.size T z ∧ Off k W wx
section
variable {T : TypeId} {z : Array Value} {k g c : Nat} {A : Option Addr} {bs : List Nat} {W wx wy : World} {p p' : Nat} {e e' : Int} {cs : Array Value}
theorem AtG.set (P : PlR k g A bs W.heap.size) (h : AtG T z k g c A bs W wx p e cs) (j : Nat) (u : Value) : AtG T z k g c A bs W (wx.setCell ⟨g, j, none⟩ u) p e (cs.setIfInBounds j u) :=
  ⟨h.1.off ((Off.refl g wx).set j u) (by have := P.k; have := P.g; omega) (fun hbs b q hA hb => by have := P.low hbs b q hA; have := P.g; omega), h.2.1.setCell j u, h.2.2.1.far (by show W.heap.size ≠ g; have := P.g; omega) u, h.2.2.2.far (by have := P.g; omega) j u⟩
theorem AtG.row (P : PlR k g A bs W.heap.size) (h : AtG T z k g c A bs W wx p e cs) (ds : Array Value) : AtG T z k g c A bs W (wx.setRow g ds) p e ds :=
  ⟨h.1.off (j := g) ⟨rfl, rfl, rfl, by simp, fun j _ hj => setRow_other wx g j ds hj⟩ (by have := P.k; have := P.g; omega) (fun hbs b q hA hb => by have := P.low hbs b q hA; have := P.g; omega), h.2.1.setRow ds, h.2.2.1.farRow (by have := P.g; omega) ds, h.2.2.2.turn (Nat.le_of_lt P.g) rfl rfl rfl (by simp) (fun j hj => setRow_other wx g j ds hj)⟩
theorem AtG.sets (P : PlR k g A bs W.heap.size) : ∀ (vs : List Value) (j : Nat) (wx : World) (cs : Array Value), AtG T z k g c A bs W wx p e cs → AtG T z k g c A bs W (wx.setCells g j vs) p e (setL cs j vs)
  | [], _, _, _, h => h
  | v :: r, j, _, _, h => AtG.sets P r (j + 1) _ _ (h.set P j v)
theorem AtG.step (P : PlR k g A bs W.heap.size) (h : AtG T z k g c A bs W wx p e cs) (hO : Off k wx wy) (hS : RS wy k A c bs p' e') : AtG T z k g c A bs W wy p' e' cs :=
  ⟨hS, hO.blk h.2.1 (by have := P.k; have := P.g; omega), hO.blk h.2.2.1 (by have := P.k; omega), h.2.2.2.trans hO⟩
theorem AtG.next (P : PlR k g A bs W.heap.size) (h : AtG T z k g c A bs W wx p e cs) (hb : Below wx.heap.size wx wy) : AtG T z k g c A bs W wy p e cs := h.step P (Off.ofBelow hb) (h.1.next hb)
theorem AtG.res (P : PlR k g A bs W.heap.size) (h : AtG T z k g c A bs W wx p e cs) (ds : Array Value) : RS (wx.setRow W.heap.size ds) k A c bs p e ∧ Off k W (wx.setRow W.heap.size ds) :=
  ⟨h.1.off (j := W.heap.size) ⟨rfl, rfl, rfl, by simp, fun j _ hj => setRow_other wx W.heap.size j ds hj⟩ (by have := P.k; omega) (fun hbs b q hA hb => by have := P.low hbs b q hA; omega), h.2.2.2.turn (Nat.le_refl _) rfl rfl rfl (by simp) (fun j hj => setRow_other wx W.heap.size j ds hj)⟩
end
theorem PostP.pure {α : Type} (x0 : α) (bs : List Nat) (p : Nat) (e : Int) : PostP (pureP x0) bs p p e e (fun x => x0 = x) := ⟨id, fun h => ⟨rfl, h, rfl⟩⟩
/-- Four parts make an op, or none. -/
theorem op_post {bs : List Nat} {p p1 p2 p3 p4 : Nat} {e e1 e2 e3 e4 : Int} {k s b : Nat} {q : Int}
    (P1 : PostP (smallP (6 : Nat)) bs p p1 e e1 (fun x => k = x)) (P2 : PostP (if hasS (k : Nat) then smallP (40 : Nat) else pureP 0) bs p1 p2 e1 e2 (fun x => s = x)) (P3 : PostP (if hasQ (k : Nat) then intP else pureP 0) bs p2 p3 e2 e3 (fun x => q = x)) (P4 : PostP (if hasP (k : Nat) then floatP else pureP 0) bs p3 p4 e3 e4 (fun x => b = x)) :
    (e4 = 0 → e = 0 ∧ opP (bs.drop p) = if mayO ⟨(k : Nat), (s : Nat), q, b⟩ then .ok (⟨(k : Nat), (s : Nat), q, b⟩, bs.drop p4) else .error 3) ∧ (e4 ≠ 0 → e = 0 → ∃ y, opP (bs.drop p) = .error y) := by
  constructor
  · intro h4
    obtain ⟨h3, b', r4, rfl⟩ := P4.ok h4
    obtain ⟨h2, q', r3, rfl⟩ := P3.ok h3
    obtain ⟨h1, s', r2, rfl⟩ := P2.ok h2
    obtain ⟨h0, k', r1, rfl⟩ := P1.ok h1
    refine ⟨h0, ?_⟩
    rw [opP_def]
    refine (bindP_ok r1).trans ?_
    refine (bindP_ok r2).trans ?_
    refine (bindP_ok r3).trans ?_
    exact bindP_ok r4
  · intro h4 h0
    rw [opP_def]
    by_cases h1 : e1 = 0
    · obtain ⟨_, k', r1, rfl⟩ := P1.ok h1
      by_cases h2 : e2 = 0
      · obtain ⟨_, s', r2, rfl⟩ := P2.ok h2
        by_cases h3 : e3 = 0
        · obtain ⟨_, q', r3, rfl⟩ := P3.ok h3
          obtain ⟨y, hy⟩ := P4.no h3 h4
          exact ⟨y, ((bindP_ok r1).trans ((bindP_ok r2).trans (bindP_ok r3))).trans (bindP_err hy)⟩
        · obtain ⟨y, hy⟩ := P3.no h2 h3
          exact ⟨y, ((bindP_ok r1).trans (bindP_ok r2)).trans (bindP_err hy)⟩
      · obtain ⟨y, hy⟩ := P2.no h1 h2
        exact ⟨y, (bindP_ok r1).trans (bindP_err hy)⟩
    · obtain ⟨y, hy⟩ := P1.no h0 h1
      exact ⟨y, bindP_err hy⟩
theorem pinfoL6 (o : OpR) : (Tryz.prog.info? 39).map (·.size) = some o.plain.length := by rw [plain_len]; kernel_rfl
theorem pinfoA6 (o : OpR) : (Tryz.prog.info? 39).map (·.size) = some o.plain.toArray.size := by rw [List.size_toArray, plain_len]; kernel_rfl
theorem plain_siz (o : OpR) : (#[.int .i64 0, .int .i64 0, .int .i64 0, .int .u64 0] : Array Value).size = o.plain.toArray.size := show 4 = o.plain.toArray.size by rw [List.size_toArray, plain_len]
set_option maxRecDepth 20000 in
set_option maxHeartbeats 16000000 in
theorem refgetop_any (k c : Nat) (A : Option Addr) (bs : List Nat) (hlen : bs.length ≤ 140737488355328) (hc : bs.length ≤ c) (hby : ∀ x ∈ bs, x < 256) (p : Nat) (e : Int) (W : World) (h : RS W k A c bs p e) :
    Calls Tryz.prog 71 #[.pointer (some ⟨k, 0, none⟩)] W fun r W' => ∃ (o : OpR) (p' : Nat) (e' : Int), r = .returned (.agg o.plain.toArray) ∧ RS W' k A c bs p' e' ∧ Off k W W' ∧ PostP opP bs p p' e e' (fun x => o = x) := by
  have hk := h.1.lt
  have hlow := h.low
  have cbt := Tot.call_bits
  have b1 := (Below.refl W.heap.size W).alloc (Nat.le_refl _) (.cells #[.int .i64 0, .int .i64 0, .int .i64 0, .int .u64 0] 39)
  have hg := Blk.new W 39 #[.int .i64 0, .int .i64 0, .int .i64 0, .int .u64 0]
  have hsz : (W.alloc (.cells #[.int .i64 0, .int .i64 0, .int .i64 0, .int .u64 0] 39)).heap.size = W.heap.size + 1 := by simp
  obtain ⟨w0, hw0⟩ : ∃ w0, w0 = W.alloc (.cells #[.int .i64 0, .int .i64 0, .int .i64 0, .int .u64 0] 39) := ⟨_, rfl⟩
  have HS0 := Lib.hid (h.next b1)
  rw [← hw0] at b1 hg hsz HS0
  have HG0 := Lib.hid hg
  have HB0 := Lib.hid b1
  have HSZ := Lib.hid hsz
  have HK := Lib.hid hk
  have HLOW := Lib.hid hlow
  go_enter Tryz.func71, Tryz.ntmps71
  go_upto_region 1 with fail
  rw [← hw0]
  clear hw0 h b1 hg hsz hk hlow
  go_wp2_with fail
  refine (refsmall_any k c A bs hlen hby 6 (by decide) p e w0 HS0.out).mono ?_
  rintro r w1 ⟨kd, p1, e1, rfl, hS, hO, hk6, hP⟩
  have HP1 := Lib.hid hP
  have bb := (Below.refl w1.heap.size w1).alloc (Nat.le_refl _) (.cells #[.int .i64 0, .int .i64 0, .int .i64 0, .int .u64 0] 39)
  have hgl : W.heap.size < w1.heap.size := by have := hO.size; have := HSZ.out; omega
  have P := Lib.hid (show PlR k w1.heap.size A bs W.heap.size from ⟨HK.out, hgl, HLOW.out⟩)
  have hn0 := Blk.new w1 39 #[.int .i64 0, .int .i64 0, .int .i64 0, .int .u64 0]
  have A0 := Lib.hid (show AtG 39 #[.int .i64 0, .int .i64 0, .int .i64 0, .int .u64 0] k w1.heap.size c A bs W (w1.alloc (.cells #[.int .i64 0, .int .i64 0, .int .i64 0, .int .u64 0] 39)) p1 e1 #[.int .i64 0, .int .i64 0, .int .i64 0, .int .u64 0] from ⟨hS.next bb, hn0, (hO.blk HG0.out (by have := HK.out; omega)).next bb, ((Off.ofBelow HB0.out).trans hO).trans (Off.ofBelow bb)⟩)
  clear hS hO hP bb hgl HG0 HB0 HS0 HSZ
  go_upto_region 2 with (first | (refine wpList_store_blk rfl 39 _ _ rfl w1.heap.size 39 #[.int .i64 0, .int .i64 0, .int .i64 0, .int .u64 0] #[.int .i64 (kd : Nat), .int .i64 0, .int .i64 0, .int .u64 0] rfl rfl hn0 (by kernel_rfl) rfl (by simp [Value.oneCell']) ?_; intro hrow))
  have A1 := Lib.hid (A0.out.row P.out #[.int .i64 (kd : Nat), .int .i64 0, .int .i64 0, .int .u64 0])
  obtain ⟨x1, hx1⟩ : ∃ x1, x1 = (w1.alloc (.cells #[.int .i64 0, .int .i64 0, .int .i64 0, .int .u64 0] 39)).setRow w1.heap.size #[.int .i64 (kd : Nat), .int .i64 0, .int .i64 0, .int .u64 0] := ⟨_, rfl⟩
  rw [← hx1] at A1 hrow ⊢
  clear hx1 hrow hn0 A0
  obtain ⟨g, hgg⟩ : ∃ g, g = w1.heap.size := ⟨_, rfl⟩
  rw [← hgg] at A1 P ⊢
  clear hgg
  rcases (show kd = 0 ∨ kd = 1 ∨ kd = 2 ∨ kd = 3 ∨ kd = 4 ∨ kd = 5 ∨ kd = 6 by omega) with rfl | rfl | rfl | rfl | rfl | rfl | rfl
  · have c0 := A1.out.2.1.cell 0
    have c0 := A1.out.2.1.cell 0
    go_wp2_with fail
    refine (refsmall_any k c A bs hlen hby 40 (by decide) p1 e1 x1 A1.out.1).mono ?_
    rintro r w2 ⟨s, p2, e2, rfl, hS, hO, hs40, hP⟩
    have HP2 := Lib.hid hP
    have B2 := Lib.hid (A1.out.step P.out hO hS)
    clear hS hO hP c0
    have c0 := B2.out.2.1.cell 0
    have k0 := B2.out.2.1.cell 1
    have z0 := B2.out.2.1.frozen 1
    have A2 := Lib.hid (show AtG 39 #[.int .i64 0, .int .i64 0, .int .i64 0, .int .u64 0] k g c A bs W _ p2 e2 #[.int .i64 0, .int .i64 (s : Nat), .int .i64 0, .int .u64 0] from B2.out.set P.out 1 (.int .i64 (s : Nat)))
    go_upto_region 4 with fail
    obtain ⟨x2, hx⟩ : ∃ x2, x2 = w2.setCell ⟨g, 1, none⟩ (.int .i64 (s : Nat)) := ⟨_, rfl⟩
    rw [← hx] at A2 ⊢
    clear hx k0 z0 c0 B2 A1
    have HP3 := Lib.hid (PostP.pure (0 : Int) bs p2 e2)
    have HP4 := Lib.hid (PostP.pure (0 : Nat) bs p2 e2)
    have HPOST := Lib.hid (op_post (k := 0) (s := s) (q := 0) (b := 0) HP1.out (by exact HP2.out) (by exact HP3.out) (by exact HP4.out))
    obtain ⟨o, ho⟩ : ∃ o, o = OpR.mk ((0 : Nat) : Int) ((s : Nat) : Int) 0 0 := ⟨_, rfl⟩
    rw [← ho] at HPOST
    have AF := Lib.hid (show AtG 39 #[.int .i64 0, .int .i64 0, .int .i64 0, .int .u64 0] k g c A bs W x2 p2 e2 o.plain.toArray from by rw [ho, plain_arr]; exact A2.out)
    clear ho
    have c0 := A2.out.2.1.cell 0
    go_upto_region 8 with fail
    clear c0 A2
    obtain ⟨_, _, c2, cz⟩ := AF.out.1.cells
    have z2 := cz 2
    have rgl := AF.out.2.1.range
    clear cz
    by_cases he6 : e2 = 0
    · have HE6 := Lib.hid he6
      rw [he6] at c2
      clear he6
      go_wp2_with (first | (refine wpList_load_midg (by rfl) 39 _ rfl _ _ rfl (OpR.plain o) _ rgl Tryz.underlying39 rfl (pinfoL6 _) ?_))
      refine (rmay6_any o x2).mono ?_
      rintro r x7 ⟨rfl, hb⟩
      have A7 := Lib.hid (AF.out.next P.out hb)
      clear hb c2 z2 rgl AF
      rw [rmayB_eq]
      cases hr : mayO o with
      | true =>
        have HL := Lib.hid (show e = 0 ∧ opP (bs.drop p) = .ok (o, bs.drop p2) from by have := HPOST.out.1 HE6.out; rwa [hr, if_pos rfl] at this)
        have rgl := A7.out.2.1.range
        have bg := A7.out.2.2.1
        clear hr
        go_wp2_with (first | (refine wpList_load_midg (by rfl) 39 _ rfl _ _ rfl (OpR.plain o) _ rgl Tryz.underlying39 rfl (pinfoL6 _) ?_) | (refine wpList_store_blk rfl 39 _ _ rfl W.heap.size 39 _ o.plain.toArray rfl rfl bg (pinfoA6 _) (plain_siz o) (plain_one o) ?_; intro hrow))
        refine bodyPost_row (t := 39) o.plain.toArray rfl rfl rfl Tryz.underlying39 rfl (pinfoA6 _) hrow ?_
        exact ⟨o, p2, e2, rfl, (A7.out.res P.out _).1, (A7.out.res P.out _).2, by rw [HL.out.1, HE6.out]; exact PostP.good HL.out.2 rfl rfl⟩
      | false =>
        have HL := Lib.hid (show e = 0 ∧ opP (bs.drop p) = .error 3 from by have := HPOST.out.1 HE6.out; rw [hr] at this; exact this)
        obtain ⟨_, _, c2, cz⟩ := A7.out.1.cells
        have z2 := cz 2
        have A8 := Lib.hid (show AtG 39 #[.int .i64 0, .int .i64 0, .int .i64 0, .int .u64 0] k g c A bs W (x7.setCell ⟨k, 2, none⟩ (.int .i64 3)) p2 3 o.plain.toArray from A7.out.step P.out ((Off.refl k x7).set 2 _) (A7.out.1.setE 3))
        have rgl := A8.out.2.1.range
        have bg := A8.out.2.2.1
        clear hr cz
        go_wp2_with (first | (refine wpList_load_midg (by rfl) 39 _ rfl _ _ rfl (OpR.plain o) _ rgl Tryz.underlying39 rfl (pinfoL6 _) ?_) | (refine wpList_store_blk rfl 39 _ _ rfl W.heap.size 39 _ o.plain.toArray rfl rfl bg (pinfoA6 _) (plain_siz o) (plain_one o) ?_; intro hrow))
        refine bodyPost_row (t := 39) o.plain.toArray rfl rfl rfl Tryz.underlying39 rfl (pinfoA6 _) hrow ?_
        exact ⟨o, p2, 3, rfl, (A8.out.res P.out _).1, (A8.out.res P.out _).2, by rw [HL.out.1]; exact PostP.err HL.out.2 (by decide)⟩
    · have f1 : (e2 == 0) = false := by simpa using he6
      have HE6 := Lib.hid he6
      have bg := AF.out.2.2.1
      clear he6
      go_wp2_with (first | (refine wpList_load_midg (by rfl) 39 _ rfl _ _ rfl (OpR.plain o) _ rgl Tryz.underlying39 rfl (pinfoL6 _) ?_) | (refine wpList_store_blk rfl 39 _ _ rfl W.heap.size 39 _ o.plain.toArray rfl rfl bg (pinfoA6 _) (plain_siz o) (plain_one o) ?_; intro hrow))
      refine bodyPost_row (t := 39) o.plain.toArray rfl rfl rfl Tryz.underlying39 rfl (pinfoA6 _) hrow ?_
      refine ⟨o, p2, e2, rfl, (AF.out.res P.out _).1, (AF.out.res P.out _).2, fun _ => HE6.out, fun h0 => ?_⟩
      obtain ⟨y, hy⟩ := HPOST.out.2 HE6.out h0
      rw [hy]
      exact HE6.out
  · have c0 := A1.out.2.1.cell 0
    have c0 := A1.out.2.1.cell 0
    go_wp2_with fail
    refine (refsmall_any k c A bs hlen hby 40 (by decide) p1 e1 x1 A1.out.1).mono ?_
    rintro r w2 ⟨s, p2, e2, rfl, hS, hO, hs40, hP⟩
    have HP2 := Lib.hid hP
    have B2 := Lib.hid (A1.out.step P.out hO hS)
    clear hS hO hP c0
    have c0 := B2.out.2.1.cell 0
    have k0 := B2.out.2.1.cell 1
    have z0 := B2.out.2.1.frozen 1
    have A2 := Lib.hid (show AtG 39 #[.int .i64 0, .int .i64 0, .int .i64 0, .int .u64 0] k g c A bs W _ p2 e2 #[.int .i64 1, .int .i64 (s : Nat), .int .i64 0, .int .u64 0] from B2.out.set P.out 1 (.int .i64 (s : Nat)))
    go_upto_region 4 with fail
    obtain ⟨x2, hx⟩ : ∃ x2, x2 = w2.setCell ⟨g, 1, none⟩ (.int .i64 (s : Nat)) := ⟨_, rfl⟩
    rw [← hx] at A2 ⊢
    clear hx k0 z0 c0 B2 A1
    have c0 := A2.out.2.1.cell 0
    go_wp2_with fail
    refine (refint_any k c A bs hlen hby p2 e2 x2 A2.out.1).mono ?_
    rintro r w3 ⟨q, p3, e3, rfl, hS, hO, hqb, hP⟩
    have HP3 := Lib.hid hP
    have B3 := Lib.hid (A2.out.step P.out hO hS)
    clear hS hO hP c0
    have c0 := B3.out.2.1.cell 0
    have k0 := B3.out.2.1.cell 2
    have z0 := B3.out.2.1.frozen 2
    have A3 := Lib.hid (show AtG 39 #[.int .i64 0, .int .i64 0, .int .i64 0, .int .u64 0] k g c A bs W _ p3 e3 #[.int .i64 1, .int .i64 (s : Nat), .int .i64 q, .int .u64 0] from B3.out.set P.out 2 (.int .i64 q))
    go_upto_region 6 with fail
    obtain ⟨x3, hx⟩ : ∃ x3, x3 = w3.setCell ⟨g, 2, none⟩ (.int .i64 q) := ⟨_, rfl⟩
    rw [← hx] at A3 ⊢
    clear hx k0 z0 c0 B3 A2
    have HP4 := Lib.hid (PostP.pure (0 : Nat) bs p3 e3)
    have HPOST := Lib.hid (op_post (k := 1) (s := s) (q := q) (b := 0) HP1.out (by exact HP2.out) (by exact HP3.out) (by exact HP4.out))
    obtain ⟨o, ho⟩ : ∃ o, o = OpR.mk ((1 : Nat) : Int) ((s : Nat) : Int) q 0 := ⟨_, rfl⟩
    rw [← ho] at HPOST
    have AF := Lib.hid (show AtG 39 #[.int .i64 0, .int .i64 0, .int .i64 0, .int .u64 0] k g c A bs W x3 p3 e3 o.plain.toArray from by rw [ho, plain_arr]; exact A3.out)
    clear ho
    have c0 := A3.out.2.1.cell 0
    go_upto_region 8 with fail
    clear c0 A3
    obtain ⟨_, _, c2, cz⟩ := AF.out.1.cells
    have z2 := cz 2
    have rgl := AF.out.2.1.range
    clear cz
    by_cases he6 : e3 = 0
    · have HE6 := Lib.hid he6
      rw [he6] at c2
      clear he6
      go_wp2_with (first | (refine wpList_load_midg (by rfl) 39 _ rfl _ _ rfl (OpR.plain o) _ rgl Tryz.underlying39 rfl (pinfoL6 _) ?_))
      refine (rmay6_any o x3).mono ?_
      rintro r x7 ⟨rfl, hb⟩
      have A7 := Lib.hid (AF.out.next P.out hb)
      clear hb c2 z2 rgl AF
      rw [rmayB_eq]
      cases hr : mayO o with
      | true =>
        have HL := Lib.hid (show e = 0 ∧ opP (bs.drop p) = .ok (o, bs.drop p3) from by have := HPOST.out.1 HE6.out; rwa [hr, if_pos rfl] at this)
        have rgl := A7.out.2.1.range
        have bg := A7.out.2.2.1
        clear hr
        go_wp2_with (first | (refine wpList_load_midg (by rfl) 39 _ rfl _ _ rfl (OpR.plain o) _ rgl Tryz.underlying39 rfl (pinfoL6 _) ?_) | (refine wpList_store_blk rfl 39 _ _ rfl W.heap.size 39 _ o.plain.toArray rfl rfl bg (pinfoA6 _) (plain_siz o) (plain_one o) ?_; intro hrow))
        refine bodyPost_row (t := 39) o.plain.toArray rfl rfl rfl Tryz.underlying39 rfl (pinfoA6 _) hrow ?_
        exact ⟨o, p3, e3, rfl, (A7.out.res P.out _).1, (A7.out.res P.out _).2, by rw [HL.out.1, HE6.out]; exact PostP.good HL.out.2 rfl rfl⟩
      | false =>
        have HL := Lib.hid (show e = 0 ∧ opP (bs.drop p) = .error 3 from by have := HPOST.out.1 HE6.out; rw [hr] at this; exact this)
        obtain ⟨_, _, c2, cz⟩ := A7.out.1.cells
        have z2 := cz 2
        have A8 := Lib.hid (show AtG 39 #[.int .i64 0, .int .i64 0, .int .i64 0, .int .u64 0] k g c A bs W (x7.setCell ⟨k, 2, none⟩ (.int .i64 3)) p3 3 o.plain.toArray from A7.out.step P.out ((Off.refl k x7).set 2 _) (A7.out.1.setE 3))
        have rgl := A8.out.2.1.range
        have bg := A8.out.2.2.1
        clear hr cz
        go_wp2_with (first | (refine wpList_load_midg (by rfl) 39 _ rfl _ _ rfl (OpR.plain o) _ rgl Tryz.underlying39 rfl (pinfoL6 _) ?_) | (refine wpList_store_blk rfl 39 _ _ rfl W.heap.size 39 _ o.plain.toArray rfl rfl bg (pinfoA6 _) (plain_siz o) (plain_one o) ?_; intro hrow))
        refine bodyPost_row (t := 39) o.plain.toArray rfl rfl rfl Tryz.underlying39 rfl (pinfoA6 _) hrow ?_
        exact ⟨o, p3, 3, rfl, (A8.out.res P.out _).1, (A8.out.res P.out _).2, by rw [HL.out.1]; exact PostP.err HL.out.2 (by decide)⟩
    · have f1 : (e3 == 0) = false := by simpa using he6
      have HE6 := Lib.hid he6
      have bg := AF.out.2.2.1
      clear he6
      go_wp2_with (first | (refine wpList_load_midg (by rfl) 39 _ rfl _ _ rfl (OpR.plain o) _ rgl Tryz.underlying39 rfl (pinfoL6 _) ?_) | (refine wpList_store_blk rfl 39 _ _ rfl W.heap.size 39 _ o.plain.toArray rfl rfl bg (pinfoA6 _) (plain_siz o) (plain_one o) ?_; intro hrow))
      refine bodyPost_row (t := 39) o.plain.toArray rfl rfl rfl Tryz.underlying39 rfl (pinfoA6 _) hrow ?_
      refine ⟨o, p3, e3, rfl, (AF.out.res P.out _).1, (AF.out.res P.out _).2, fun _ => HE6.out, fun h0 => ?_⟩
      obtain ⟨y, hy⟩ := HPOST.out.2 HE6.out h0
      rw [hy]
      exact HE6.out
  · have c0 := A1.out.2.1.cell 0
    have c0 := A1.out.2.1.cell 0
    go_wp2_with fail
    refine (refsmall_any k c A bs hlen hby 40 (by decide) p1 e1 x1 A1.out.1).mono ?_
    rintro r w2 ⟨s, p2, e2, rfl, hS, hO, hs40, hP⟩
    have HP2 := Lib.hid hP
    have B2 := Lib.hid (A1.out.step P.out hO hS)
    clear hS hO hP c0
    have c0 := B2.out.2.1.cell 0
    have k0 := B2.out.2.1.cell 1
    have z0 := B2.out.2.1.frozen 1
    have A2 := Lib.hid (show AtG 39 #[.int .i64 0, .int .i64 0, .int .i64 0, .int .u64 0] k g c A bs W _ p2 e2 #[.int .i64 2, .int .i64 (s : Nat), .int .i64 0, .int .u64 0] from B2.out.set P.out 1 (.int .i64 (s : Nat)))
    go_upto_region 4 with fail
    obtain ⟨x2, hx⟩ : ∃ x2, x2 = w2.setCell ⟨g, 1, none⟩ (.int .i64 (s : Nat)) := ⟨_, rfl⟩
    rw [← hx] at A2 ⊢
    clear hx k0 z0 c0 B2 A1
    have c0 := A2.out.2.1.cell 0
    go_wp2_with fail
    refine (refint_any k c A bs hlen hby p2 e2 x2 A2.out.1).mono ?_
    rintro r w3 ⟨q, p3, e3, rfl, hS, hO, hqb, hP⟩
    have HP3 := Lib.hid hP
    have B3 := Lib.hid (A2.out.step P.out hO hS)
    clear hS hO hP c0
    have c0 := B3.out.2.1.cell 0
    have k0 := B3.out.2.1.cell 2
    have z0 := B3.out.2.1.frozen 2
    have A3 := Lib.hid (show AtG 39 #[.int .i64 0, .int .i64 0, .int .i64 0, .int .u64 0] k g c A bs W _ p3 e3 #[.int .i64 2, .int .i64 (s : Nat), .int .i64 q, .int .u64 0] from B3.out.set P.out 2 (.int .i64 q))
    go_upto_region 6 with fail
    obtain ⟨x3, hx⟩ : ∃ x3, x3 = w3.setCell ⟨g, 2, none⟩ (.int .i64 q) := ⟨_, rfl⟩
    rw [← hx] at A3 ⊢
    clear hx k0 z0 c0 B3 A2
    have HP4 := Lib.hid (PostP.pure (0 : Nat) bs p3 e3)
    have HPOST := Lib.hid (op_post (k := 2) (s := s) (q := q) (b := 0) HP1.out (by exact HP2.out) (by exact HP3.out) (by exact HP4.out))
    obtain ⟨o, ho⟩ : ∃ o, o = OpR.mk ((2 : Nat) : Int) ((s : Nat) : Int) q 0 := ⟨_, rfl⟩
    rw [← ho] at HPOST
    have AF := Lib.hid (show AtG 39 #[.int .i64 0, .int .i64 0, .int .i64 0, .int .u64 0] k g c A bs W x3 p3 e3 o.plain.toArray from by rw [ho, plain_arr]; exact A3.out)
    clear ho
    have c0 := A3.out.2.1.cell 0
    go_upto_region 8 with fail
    clear c0 A3
    obtain ⟨_, _, c2, cz⟩ := AF.out.1.cells
    have z2 := cz 2
    have rgl := AF.out.2.1.range
    clear cz
    by_cases he6 : e3 = 0
    · have HE6 := Lib.hid he6
      rw [he6] at c2
      clear he6
      go_wp2_with (first | (refine wpList_load_midg (by rfl) 39 _ rfl _ _ rfl (OpR.plain o) _ rgl Tryz.underlying39 rfl (pinfoL6 _) ?_))
      refine (rmay6_any o x3).mono ?_
      rintro r x7 ⟨rfl, hb⟩
      have A7 := Lib.hid (AF.out.next P.out hb)
      clear hb c2 z2 rgl AF
      rw [rmayB_eq]
      cases hr : mayO o with
      | true =>
        have HL := Lib.hid (show e = 0 ∧ opP (bs.drop p) = .ok (o, bs.drop p3) from by have := HPOST.out.1 HE6.out; rwa [hr, if_pos rfl] at this)
        have rgl := A7.out.2.1.range
        have bg := A7.out.2.2.1
        clear hr
        go_wp2_with (first | (refine wpList_load_midg (by rfl) 39 _ rfl _ _ rfl (OpR.plain o) _ rgl Tryz.underlying39 rfl (pinfoL6 _) ?_) | (refine wpList_store_blk rfl 39 _ _ rfl W.heap.size 39 _ o.plain.toArray rfl rfl bg (pinfoA6 _) (plain_siz o) (plain_one o) ?_; intro hrow))
        refine bodyPost_row (t := 39) o.plain.toArray rfl rfl rfl Tryz.underlying39 rfl (pinfoA6 _) hrow ?_
        exact ⟨o, p3, e3, rfl, (A7.out.res P.out _).1, (A7.out.res P.out _).2, by rw [HL.out.1, HE6.out]; exact PostP.good HL.out.2 rfl rfl⟩
      | false =>
        have HL := Lib.hid (show e = 0 ∧ opP (bs.drop p) = .error 3 from by have := HPOST.out.1 HE6.out; rw [hr] at this; exact this)
        obtain ⟨_, _, c2, cz⟩ := A7.out.1.cells
        have z2 := cz 2
        have A8 := Lib.hid (show AtG 39 #[.int .i64 0, .int .i64 0, .int .i64 0, .int .u64 0] k g c A bs W (x7.setCell ⟨k, 2, none⟩ (.int .i64 3)) p3 3 o.plain.toArray from A7.out.step P.out ((Off.refl k x7).set 2 _) (A7.out.1.setE 3))
        have rgl := A8.out.2.1.range
        have bg := A8.out.2.2.1
        clear hr cz
        go_wp2_with (first | (refine wpList_load_midg (by rfl) 39 _ rfl _ _ rfl (OpR.plain o) _ rgl Tryz.underlying39 rfl (pinfoL6 _) ?_) | (refine wpList_store_blk rfl 39 _ _ rfl W.heap.size 39 _ o.plain.toArray rfl rfl bg (pinfoA6 _) (plain_siz o) (plain_one o) ?_; intro hrow))
        refine bodyPost_row (t := 39) o.plain.toArray rfl rfl rfl Tryz.underlying39 rfl (pinfoA6 _) hrow ?_
        exact ⟨o, p3, 3, rfl, (A8.out.res P.out _).1, (A8.out.res P.out _).2, by rw [HL.out.1]; exact PostP.err HL.out.2 (by decide)⟩
    · have f1 : (e3 == 0) = false := by simpa using he6
      have HE6 := Lib.hid he6
      have bg := AF.out.2.2.1
      clear he6
      go_wp2_with (first | (refine wpList_load_midg (by rfl) 39 _ rfl _ _ rfl (OpR.plain o) _ rgl Tryz.underlying39 rfl (pinfoL6 _) ?_) | (refine wpList_store_blk rfl 39 _ _ rfl W.heap.size 39 _ o.plain.toArray rfl rfl bg (pinfoA6 _) (plain_siz o) (plain_one o) ?_; intro hrow))
      refine bodyPost_row (t := 39) o.plain.toArray rfl rfl rfl Tryz.underlying39 rfl (pinfoA6 _) hrow ?_
      refine ⟨o, p3, e3, rfl, (AF.out.res P.out _).1, (AF.out.res P.out _).2, fun _ => HE6.out, fun h0 => ?_⟩
      obtain ⟨y, hy⟩ := HPOST.out.2 HE6.out h0
      rw [hy]
      exact HE6.out
  · have c0 := A1.out.2.1.cell 0
    have c0 := A1.out.2.1.cell 0
    go_wp2_with fail
    refine (refsmall_any k c A bs hlen hby 40 (by decide) p1 e1 x1 A1.out.1).mono ?_
    rintro r w2 ⟨s, p2, e2, rfl, hS, hO, hs40, hP⟩
    have HP2 := Lib.hid hP
    have B2 := Lib.hid (A1.out.step P.out hO hS)
    clear hS hO hP c0
    have c0 := B2.out.2.1.cell 0
    have k0 := B2.out.2.1.cell 1
    have z0 := B2.out.2.1.frozen 1
    have A2 := Lib.hid (show AtG 39 #[.int .i64 0, .int .i64 0, .int .i64 0, .int .u64 0] k g c A bs W _ p2 e2 #[.int .i64 3, .int .i64 (s : Nat), .int .i64 0, .int .u64 0] from B2.out.set P.out 1 (.int .i64 (s : Nat)))
    go_upto_region 4 with fail
    obtain ⟨x2, hx⟩ : ∃ x2, x2 = w2.setCell ⟨g, 1, none⟩ (.int .i64 (s : Nat)) := ⟨_, rfl⟩
    rw [← hx] at A2 ⊢
    clear hx k0 z0 c0 B2 A1
    have HP3 := Lib.hid (PostP.pure (0 : Int) bs p2 e2)
    have HP4 := Lib.hid (PostP.pure (0 : Nat) bs p2 e2)
    have HPOST := Lib.hid (op_post (k := 3) (s := s) (q := 0) (b := 0) HP1.out (by exact HP2.out) (by exact HP3.out) (by exact HP4.out))
    obtain ⟨o, ho⟩ : ∃ o, o = OpR.mk ((3 : Nat) : Int) ((s : Nat) : Int) 0 0 := ⟨_, rfl⟩
    rw [← ho] at HPOST
    have AF := Lib.hid (show AtG 39 #[.int .i64 0, .int .i64 0, .int .i64 0, .int .u64 0] k g c A bs W x2 p2 e2 o.plain.toArray from by rw [ho, plain_arr]; exact A2.out)
    clear ho
    have c0 := A2.out.2.1.cell 0
    go_upto_region 8 with fail
    clear c0 A2
    obtain ⟨_, _, c2, cz⟩ := AF.out.1.cells
    have z2 := cz 2
    have rgl := AF.out.2.1.range
    clear cz
    by_cases he6 : e2 = 0
    · have HE6 := Lib.hid he6
      rw [he6] at c2
      clear he6
      go_wp2_with (first | (refine wpList_load_midg (by rfl) 39 _ rfl _ _ rfl (OpR.plain o) _ rgl Tryz.underlying39 rfl (pinfoL6 _) ?_))
      refine (rmay6_any o x2).mono ?_
      rintro r x7 ⟨rfl, hb⟩
      have A7 := Lib.hid (AF.out.next P.out hb)
      clear hb c2 z2 rgl AF
      rw [rmayB_eq]
      cases hr : mayO o with
      | true =>
        have HL := Lib.hid (show e = 0 ∧ opP (bs.drop p) = .ok (o, bs.drop p2) from by have := HPOST.out.1 HE6.out; rwa [hr, if_pos rfl] at this)
        have rgl := A7.out.2.1.range
        have bg := A7.out.2.2.1
        clear hr
        go_wp2_with (first | (refine wpList_load_midg (by rfl) 39 _ rfl _ _ rfl (OpR.plain o) _ rgl Tryz.underlying39 rfl (pinfoL6 _) ?_) | (refine wpList_store_blk rfl 39 _ _ rfl W.heap.size 39 _ o.plain.toArray rfl rfl bg (pinfoA6 _) (plain_siz o) (plain_one o) ?_; intro hrow))
        refine bodyPost_row (t := 39) o.plain.toArray rfl rfl rfl Tryz.underlying39 rfl (pinfoA6 _) hrow ?_
        exact ⟨o, p2, e2, rfl, (A7.out.res P.out _).1, (A7.out.res P.out _).2, by rw [HL.out.1, HE6.out]; exact PostP.good HL.out.2 rfl rfl⟩
      | false =>
        have HL := Lib.hid (show e = 0 ∧ opP (bs.drop p) = .error 3 from by have := HPOST.out.1 HE6.out; rw [hr] at this; exact this)
        obtain ⟨_, _, c2, cz⟩ := A7.out.1.cells
        have z2 := cz 2
        have A8 := Lib.hid (show AtG 39 #[.int .i64 0, .int .i64 0, .int .i64 0, .int .u64 0] k g c A bs W (x7.setCell ⟨k, 2, none⟩ (.int .i64 3)) p2 3 o.plain.toArray from A7.out.step P.out ((Off.refl k x7).set 2 _) (A7.out.1.setE 3))
        have rgl := A8.out.2.1.range
        have bg := A8.out.2.2.1
        clear hr cz
        go_wp2_with (first | (refine wpList_load_midg (by rfl) 39 _ rfl _ _ rfl (OpR.plain o) _ rgl Tryz.underlying39 rfl (pinfoL6 _) ?_) | (refine wpList_store_blk rfl 39 _ _ rfl W.heap.size 39 _ o.plain.toArray rfl rfl bg (pinfoA6 _) (plain_siz o) (plain_one o) ?_; intro hrow))
        refine bodyPost_row (t := 39) o.plain.toArray rfl rfl rfl Tryz.underlying39 rfl (pinfoA6 _) hrow ?_
        exact ⟨o, p2, 3, rfl, (A8.out.res P.out _).1, (A8.out.res P.out _).2, by rw [HL.out.1]; exact PostP.err HL.out.2 (by decide)⟩
    · have f1 : (e2 == 0) = false := by simpa using he6
      have HE6 := Lib.hid he6
      have bg := AF.out.2.2.1
      clear he6
      go_wp2_with (first | (refine wpList_load_midg (by rfl) 39 _ rfl _ _ rfl (OpR.plain o) _ rgl Tryz.underlying39 rfl (pinfoL6 _) ?_) | (refine wpList_store_blk rfl 39 _ _ rfl W.heap.size 39 _ o.plain.toArray rfl rfl bg (pinfoA6 _) (plain_siz o) (plain_one o) ?_; intro hrow))
      refine bodyPost_row (t := 39) o.plain.toArray rfl rfl rfl Tryz.underlying39 rfl (pinfoA6 _) hrow ?_
      refine ⟨o, p2, e2, rfl, (AF.out.res P.out _).1, (AF.out.res P.out _).2, fun _ => HE6.out, fun h0 => ?_⟩
      obtain ⟨y, hy⟩ := HPOST.out.2 HE6.out h0
      rw [hy]
      exact HE6.out
  · have c0 := A1.out.2.1.cell 0
    have HP2 := Lib.hid (PostP.pure (0 : Nat) bs p1 e1)
    have HP3 := Lib.hid (PostP.pure (0 : Int) bs p1 e1)
    have HP4 := Lib.hid (PostP.pure (0 : Nat) bs p1 e1)
    have HPOST := Lib.hid (op_post (k := 4) (s := 0) (q := 0) (b := 0) HP1.out (by exact HP2.out) (by exact HP3.out) (by exact HP4.out))
    obtain ⟨o, ho⟩ : ∃ o, o = OpR.mk ((4 : Nat) : Int) ((0 : Nat) : Int) 0 0 := ⟨_, rfl⟩
    rw [← ho] at HPOST
    have AF := Lib.hid (show AtG 39 #[.int .i64 0, .int .i64 0, .int .i64 0, .int .u64 0] k g c A bs W x1 p1 e1 o.plain.toArray from by rw [ho, plain_arr]; exact A1.out)
    clear ho
    have c0 := A1.out.2.1.cell 0
    go_upto_region 8 with fail
    clear c0 A1
    obtain ⟨_, _, c2, cz⟩ := AF.out.1.cells
    have z2 := cz 2
    have rgl := AF.out.2.1.range
    clear cz
    by_cases he6 : e1 = 0
    · have HE6 := Lib.hid he6
      rw [he6] at c2
      clear he6
      go_wp2_with (first | (refine wpList_load_midg (by rfl) 39 _ rfl _ _ rfl (OpR.plain o) _ rgl Tryz.underlying39 rfl (pinfoL6 _) ?_))
      refine (rmay6_any o x1).mono ?_
      rintro r x7 ⟨rfl, hb⟩
      have A7 := Lib.hid (AF.out.next P.out hb)
      clear hb c2 z2 rgl AF
      rw [rmayB_eq]
      cases hr : mayO o with
      | true =>
        have HL := Lib.hid (show e = 0 ∧ opP (bs.drop p) = .ok (o, bs.drop p1) from by have := HPOST.out.1 HE6.out; rwa [hr, if_pos rfl] at this)
        have rgl := A7.out.2.1.range
        have bg := A7.out.2.2.1
        clear hr
        go_wp2_with (first | (refine wpList_load_midg (by rfl) 39 _ rfl _ _ rfl (OpR.plain o) _ rgl Tryz.underlying39 rfl (pinfoL6 _) ?_) | (refine wpList_store_blk rfl 39 _ _ rfl W.heap.size 39 _ o.plain.toArray rfl rfl bg (pinfoA6 _) (plain_siz o) (plain_one o) ?_; intro hrow))
        refine bodyPost_row (t := 39) o.plain.toArray rfl rfl rfl Tryz.underlying39 rfl (pinfoA6 _) hrow ?_
        exact ⟨o, p1, e1, rfl, (A7.out.res P.out _).1, (A7.out.res P.out _).2, by rw [HL.out.1, HE6.out]; exact PostP.good HL.out.2 rfl rfl⟩
      | false =>
        have HL := Lib.hid (show e = 0 ∧ opP (bs.drop p) = .error 3 from by have := HPOST.out.1 HE6.out; rw [hr] at this; exact this)
        obtain ⟨_, _, c2, cz⟩ := A7.out.1.cells
        have z2 := cz 2
        have A8 := Lib.hid (show AtG 39 #[.int .i64 0, .int .i64 0, .int .i64 0, .int .u64 0] k g c A bs W (x7.setCell ⟨k, 2, none⟩ (.int .i64 3)) p1 3 o.plain.toArray from A7.out.step P.out ((Off.refl k x7).set 2 _) (A7.out.1.setE 3))
        have rgl := A8.out.2.1.range
        have bg := A8.out.2.2.1
        clear hr cz
        go_wp2_with (first | (refine wpList_load_midg (by rfl) 39 _ rfl _ _ rfl (OpR.plain o) _ rgl Tryz.underlying39 rfl (pinfoL6 _) ?_) | (refine wpList_store_blk rfl 39 _ _ rfl W.heap.size 39 _ o.plain.toArray rfl rfl bg (pinfoA6 _) (plain_siz o) (plain_one o) ?_; intro hrow))
        refine bodyPost_row (t := 39) o.plain.toArray rfl rfl rfl Tryz.underlying39 rfl (pinfoA6 _) hrow ?_
        exact ⟨o, p1, 3, rfl, (A8.out.res P.out _).1, (A8.out.res P.out _).2, by rw [HL.out.1]; exact PostP.err HL.out.2 (by decide)⟩
    · have f1 : (e1 == 0) = false := by simpa using he6
      have HE6 := Lib.hid he6
      have bg := AF.out.2.2.1
      clear he6
      go_wp2_with (first | (refine wpList_load_midg (by rfl) 39 _ rfl _ _ rfl (OpR.plain o) _ rgl Tryz.underlying39 rfl (pinfoL6 _) ?_) | (refine wpList_store_blk rfl 39 _ _ rfl W.heap.size 39 _ o.plain.toArray rfl rfl bg (pinfoA6 _) (plain_siz o) (plain_one o) ?_; intro hrow))
      refine bodyPost_row (t := 39) o.plain.toArray rfl rfl rfl Tryz.underlying39 rfl (pinfoA6 _) hrow ?_
      refine ⟨o, p1, e1, rfl, (AF.out.res P.out _).1, (AF.out.res P.out _).2, fun _ => HE6.out, fun h0 => ?_⟩
      obtain ⟨y, hy⟩ := HPOST.out.2 HE6.out h0
      rw [hy]
      exact HE6.out
  · have c0 := A1.out.2.1.cell 0
    have c0 := A1.out.2.1.cell 0
    go_wp2_with fail
    refine (refsmall_any k c A bs hlen hby 40 (by decide) p1 e1 x1 A1.out.1).mono ?_
    rintro r w2 ⟨s, p2, e2, rfl, hS, hO, hs40, hP⟩
    have HP2 := Lib.hid hP
    have B2 := Lib.hid (A1.out.step P.out hO hS)
    clear hS hO hP c0
    have c0 := B2.out.2.1.cell 0
    have k0 := B2.out.2.1.cell 1
    have z0 := B2.out.2.1.frozen 1
    have A2 := Lib.hid (show AtG 39 #[.int .i64 0, .int .i64 0, .int .i64 0, .int .u64 0] k g c A bs W _ p2 e2 #[.int .i64 5, .int .i64 (s : Nat), .int .i64 0, .int .u64 0] from B2.out.set P.out 1 (.int .i64 (s : Nat)))
    go_upto_region 4 with fail
    obtain ⟨x2, hx⟩ : ∃ x2, x2 = w2.setCell ⟨g, 1, none⟩ (.int .i64 (s : Nat)) := ⟨_, rfl⟩
    rw [← hx] at A2 ⊢
    clear hx k0 z0 c0 B2 A1
    have c0 := A2.out.2.1.cell 0
    go_wp2_with fail
    refine (refint_any k c A bs hlen hby p2 e2 x2 A2.out.1).mono ?_
    rintro r w3 ⟨q, p3, e3, rfl, hS, hO, hqb, hP⟩
    have HP3 := Lib.hid hP
    have B3 := Lib.hid (A2.out.step P.out hO hS)
    clear hS hO hP c0
    have c0 := B3.out.2.1.cell 0
    have k0 := B3.out.2.1.cell 2
    have z0 := B3.out.2.1.frozen 2
    have A3 := Lib.hid (show AtG 39 #[.int .i64 0, .int .i64 0, .int .i64 0, .int .u64 0] k g c A bs W _ p3 e3 #[.int .i64 5, .int .i64 (s : Nat), .int .i64 q, .int .u64 0] from B3.out.set P.out 2 (.int .i64 q))
    go_upto_region 6 with fail
    obtain ⟨x3, hx⟩ : ∃ x3, x3 = w3.setCell ⟨g, 2, none⟩ (.int .i64 q) := ⟨_, rfl⟩
    rw [← hx] at A3 ⊢
    clear hx k0 z0 c0 B3 A2
    have HP4 := Lib.hid (PostP.pure (0 : Nat) bs p3 e3)
    have HPOST := Lib.hid (op_post (k := 5) (s := s) (q := q) (b := 0) HP1.out (by exact HP2.out) (by exact HP3.out) (by exact HP4.out))
    obtain ⟨o, ho⟩ : ∃ o, o = OpR.mk ((5 : Nat) : Int) ((s : Nat) : Int) q 0 := ⟨_, rfl⟩
    rw [← ho] at HPOST
    have AF := Lib.hid (show AtG 39 #[.int .i64 0, .int .i64 0, .int .i64 0, .int .u64 0] k g c A bs W x3 p3 e3 o.plain.toArray from by rw [ho, plain_arr]; exact A3.out)
    clear ho
    have c0 := A3.out.2.1.cell 0
    go_upto_region 8 with fail
    clear c0 A3
    obtain ⟨_, _, c2, cz⟩ := AF.out.1.cells
    have z2 := cz 2
    have rgl := AF.out.2.1.range
    clear cz
    by_cases he6 : e3 = 0
    · have HE6 := Lib.hid he6
      rw [he6] at c2
      clear he6
      go_wp2_with (first | (refine wpList_load_midg (by rfl) 39 _ rfl _ _ rfl (OpR.plain o) _ rgl Tryz.underlying39 rfl (pinfoL6 _) ?_))
      refine (rmay6_any o x3).mono ?_
      rintro r x7 ⟨rfl, hb⟩
      have A7 := Lib.hid (AF.out.next P.out hb)
      clear hb c2 z2 rgl AF
      rw [rmayB_eq]
      cases hr : mayO o with
      | true =>
        have HL := Lib.hid (show e = 0 ∧ opP (bs.drop p) = .ok (o, bs.drop p3) from by have := HPOST.out.1 HE6.out; rwa [hr, if_pos rfl] at this)
        have rgl := A7.out.2.1.range
        have bg := A7.out.2.2.1
        clear hr
        go_wp2_with (first | (refine wpList_load_midg (by rfl) 39 _ rfl _ _ rfl (OpR.plain o) _ rgl Tryz.underlying39 rfl (pinfoL6 _) ?_) | (refine wpList_store_blk rfl 39 _ _ rfl W.heap.size 39 _ o.plain.toArray rfl rfl bg (pinfoA6 _) (plain_siz o) (plain_one o) ?_; intro hrow))
        refine bodyPost_row (t := 39) o.plain.toArray rfl rfl rfl Tryz.underlying39 rfl (pinfoA6 _) hrow ?_
        exact ⟨o, p3, e3, rfl, (A7.out.res P.out _).1, (A7.out.res P.out _).2, by rw [HL.out.1, HE6.out]; exact PostP.good HL.out.2 rfl rfl⟩
      | false =>
        have HL := Lib.hid (show e = 0 ∧ opP (bs.drop p) = .error 3 from by have := HPOST.out.1 HE6.out; rw [hr] at this; exact this)
        obtain ⟨_, _, c2, cz⟩ := A7.out.1.cells
        have z2 := cz 2
        have A8 := Lib.hid (show AtG 39 #[.int .i64 0, .int .i64 0, .int .i64 0, .int .u64 0] k g c A bs W (x7.setCell ⟨k, 2, none⟩ (.int .i64 3)) p3 3 o.plain.toArray from A7.out.step P.out ((Off.refl k x7).set 2 _) (A7.out.1.setE 3))
        have rgl := A8.out.2.1.range
        have bg := A8.out.2.2.1
        clear hr cz
        go_wp2_with (first | (refine wpList_load_midg (by rfl) 39 _ rfl _ _ rfl (OpR.plain o) _ rgl Tryz.underlying39 rfl (pinfoL6 _) ?_) | (refine wpList_store_blk rfl 39 _ _ rfl W.heap.size 39 _ o.plain.toArray rfl rfl bg (pinfoA6 _) (plain_siz o) (plain_one o) ?_; intro hrow))
        refine bodyPost_row (t := 39) o.plain.toArray rfl rfl rfl Tryz.underlying39 rfl (pinfoA6 _) hrow ?_
        exact ⟨o, p3, 3, rfl, (A8.out.res P.out _).1, (A8.out.res P.out _).2, by rw [HL.out.1]; exact PostP.err HL.out.2 (by decide)⟩
    · have f1 : (e3 == 0) = false := by simpa using he6
      have HE6 := Lib.hid he6
      have bg := AF.out.2.2.1
      clear he6
      go_wp2_with (first | (refine wpList_load_midg (by rfl) 39 _ rfl _ _ rfl (OpR.plain o) _ rgl Tryz.underlying39 rfl (pinfoL6 _) ?_) | (refine wpList_store_blk rfl 39 _ _ rfl W.heap.size 39 _ o.plain.toArray rfl rfl bg (pinfoA6 _) (plain_siz o) (plain_one o) ?_; intro hrow))
      refine bodyPost_row (t := 39) o.plain.toArray rfl rfl rfl Tryz.underlying39 rfl (pinfoA6 _) hrow ?_
      refine ⟨o, p3, e3, rfl, (AF.out.res P.out _).1, (AF.out.res P.out _).2, fun _ => HE6.out, fun h0 => ?_⟩
      obtain ⟨y, hy⟩ := HPOST.out.2 HE6.out h0
      rw [hy]
      exact HE6.out
  · have c0 := A1.out.2.1.cell 0
    have c0 := A1.out.2.1.cell 0
    go_wp2_with fail
    refine (refsmall_any k c A bs hlen hby 40 (by decide) p1 e1 x1 A1.out.1).mono ?_
    rintro r w2 ⟨s, p2, e2, rfl, hS, hO, hs40, hP⟩
    have HP2 := Lib.hid hP
    have B2 := Lib.hid (A1.out.step P.out hO hS)
    clear hS hO hP c0
    have c0 := B2.out.2.1.cell 0
    have k0 := B2.out.2.1.cell 1
    have z0 := B2.out.2.1.frozen 1
    have A2 := Lib.hid (show AtG 39 #[.int .i64 0, .int .i64 0, .int .i64 0, .int .u64 0] k g c A bs W _ p2 e2 #[.int .i64 6, .int .i64 (s : Nat), .int .i64 0, .int .u64 0] from B2.out.set P.out 1 (.int .i64 (s : Nat)))
    go_upto_region 4 with fail
    obtain ⟨x2, hx⟩ : ∃ x2, x2 = w2.setCell ⟨g, 1, none⟩ (.int .i64 (s : Nat)) := ⟨_, rfl⟩
    rw [← hx] at A2 ⊢
    clear hx k0 z0 c0 B2 A1
    have HP3 := Lib.hid (PostP.pure (0 : Int) bs p2 e2)
    have c0 := A2.out.2.1.cell 0
    go_wp2_with fail
    refine (reffloat_any k c A bs hlen hc hby p2 e2 x2 A2.out.1).mono ?_
    rintro r w4 ⟨b, p4, e4, rfl, hS, hO, hP⟩
    have HP4 := Lib.hid hP
    have B4 := Lib.hid (A2.out.step P.out hO hS)
    clear hS hO hP c0
    have c0 := B4.out.2.1.cell 0
    have k0 := B4.out.2.1.cell 3
    have z0 := B4.out.2.1.frozen 3
    have A4 := Lib.hid (show AtG 39 #[.int .i64 0, .int .i64 0, .int .i64 0, .int .u64 0] k g c A bs W _ p4 e4 #[.int .i64 6, .int .i64 (s : Nat), .int .i64 0, .int .u64 (b : Nat)] from B4.out.set P.out 3 (.int .u64 (b : Nat)))
    go_upto_region 8 with fail
    obtain ⟨x4, hx⟩ : ∃ x4, x4 = w4.setCell ⟨g, 3, none⟩ (.int .u64 (b : Nat)) := ⟨_, rfl⟩
    rw [← hx] at A4 ⊢
    clear hx k0 z0 c0 B4 A2
    have HPOST := Lib.hid (op_post (k := 6) (s := s) (q := 0) (b := b) HP1.out (by exact HP2.out) (by exact HP3.out) (by exact HP4.out))
    obtain ⟨o, ho⟩ : ∃ o, o = OpR.mk ((6 : Nat) : Int) ((s : Nat) : Int) 0 b := ⟨_, rfl⟩
    rw [← ho] at HPOST
    have AF := Lib.hid (show AtG 39 #[.int .i64 0, .int .i64 0, .int .i64 0, .int .u64 0] k g c A bs W x4 p4 e4 o.plain.toArray from by rw [ho, plain_arr]; exact A4.out)
    clear ho
    have c0 := A4.out.2.1.cell 0
    go_upto_region 8 with fail
    clear c0 A4
    obtain ⟨_, _, c2, cz⟩ := AF.out.1.cells
    have z2 := cz 2
    have rgl := AF.out.2.1.range
    clear cz
    by_cases he6 : e4 = 0
    · have HE6 := Lib.hid he6
      rw [he6] at c2
      clear he6
      go_wp2_with (first | (refine wpList_load_midg (by rfl) 39 _ rfl _ _ rfl (OpR.plain o) _ rgl Tryz.underlying39 rfl (pinfoL6 _) ?_))
      refine (rmay6_any o x4).mono ?_
      rintro r x7 ⟨rfl, hb⟩
      have A7 := Lib.hid (AF.out.next P.out hb)
      clear hb c2 z2 rgl AF
      rw [rmayB_eq]
      cases hr : mayO o with
      | true =>
        have HL := Lib.hid (show e = 0 ∧ opP (bs.drop p) = .ok (o, bs.drop p4) from by have := HPOST.out.1 HE6.out; rwa [hr, if_pos rfl] at this)
        have rgl := A7.out.2.1.range
        have bg := A7.out.2.2.1
        clear hr
        go_wp2_with (first | (refine wpList_load_midg (by rfl) 39 _ rfl _ _ rfl (OpR.plain o) _ rgl Tryz.underlying39 rfl (pinfoL6 _) ?_) | (refine wpList_store_blk rfl 39 _ _ rfl W.heap.size 39 _ o.plain.toArray rfl rfl bg (pinfoA6 _) (plain_siz o) (plain_one o) ?_; intro hrow))
        refine bodyPost_row (t := 39) o.plain.toArray rfl rfl rfl Tryz.underlying39 rfl (pinfoA6 _) hrow ?_
        exact ⟨o, p4, e4, rfl, (A7.out.res P.out _).1, (A7.out.res P.out _).2, by rw [HL.out.1, HE6.out]; exact PostP.good HL.out.2 rfl rfl⟩
      | false =>
        have HL := Lib.hid (show e = 0 ∧ opP (bs.drop p) = .error 3 from by have := HPOST.out.1 HE6.out; rw [hr] at this; exact this)
        obtain ⟨_, _, c2, cz⟩ := A7.out.1.cells
        have z2 := cz 2
        have A8 := Lib.hid (show AtG 39 #[.int .i64 0, .int .i64 0, .int .i64 0, .int .u64 0] k g c A bs W (x7.setCell ⟨k, 2, none⟩ (.int .i64 3)) p4 3 o.plain.toArray from A7.out.step P.out ((Off.refl k x7).set 2 _) (A7.out.1.setE 3))
        have rgl := A8.out.2.1.range
        have bg := A8.out.2.2.1
        clear hr cz
        go_wp2_with (first | (refine wpList_load_midg (by rfl) 39 _ rfl _ _ rfl (OpR.plain o) _ rgl Tryz.underlying39 rfl (pinfoL6 _) ?_) | (refine wpList_store_blk rfl 39 _ _ rfl W.heap.size 39 _ o.plain.toArray rfl rfl bg (pinfoA6 _) (plain_siz o) (plain_one o) ?_; intro hrow))
        refine bodyPost_row (t := 39) o.plain.toArray rfl rfl rfl Tryz.underlying39 rfl (pinfoA6 _) hrow ?_
        exact ⟨o, p4, 3, rfl, (A8.out.res P.out _).1, (A8.out.res P.out _).2, by rw [HL.out.1]; exact PostP.err HL.out.2 (by decide)⟩
    · have f1 : (e4 == 0) = false := by simpa using he6
      have HE6 := Lib.hid he6
      have bg := AF.out.2.2.1
      clear he6
      go_wp2_with (first | (refine wpList_load_midg (by rfl) 39 _ rfl _ _ rfl (OpR.plain o) _ rgl Tryz.underlying39 rfl (pinfoL6 _) ?_) | (refine wpList_store_blk rfl 39 _ _ rfl W.heap.size 39 _ o.plain.toArray rfl rfl bg (pinfoA6 _) (plain_siz o) (plain_one o) ?_; intro hrow))
      refine bodyPost_row (t := 39) o.plain.toArray rfl rfl rfl Tryz.underlying39 rfl (pinfoA6 _) hrow ?_
      refine ⟨o, p4, e4, rfl, (AF.out.res P.out _).1, (AF.out.res P.out _).2, fun _ => HE6.out, fun h0 => ?_⟩
      obtain ⟨y, hy⟩ := HPOST.out.2 HE6.out h0
      rw [hy]
      exact HE6.out
end Go.Proofs.YtkigaclcmodjaaaGreat
namespace Go.Proofs.YtkigaclcmodjaaaGreat
open Go.RowKit
set_option linter.unusedSimpArgs false
set_option linter.unusedVariables false
attribute [local go_sem] Tot.run_store_float
theorem einfoL6 (x : Ev) : (Tryz.prog.info? 41).map (·.size) = some x.item.length := by rw [item_len]; kernel_rfl
theorem einfoA6 (x : Ev) : (Tryz.prog.info? 41).map (·.size) = some x.item.toArray.size := by rw [List.size_toArray, item_len]; kernel_rfl
theorem item_siz (x : Ev) : (#[.int .u64 0, .int .i64 0, .int .u32 0, .int .i64 0, .int .i64 0, .int .u32 0, .int .u32 0, .int .u32 0, .int .u32 0, .int .u32 0, .int .u32 0, .int .u32 0, .int .u32 0, .int .u32 0, .int .u32 0, .int .u32 0, .int .u32 0, .int .i64 0, .int .i64 0, .int .i64 0, .int .u64 0] : Array Value).size = x.item.toArray.size := show 21 = x.item.toArray.size by rw [List.size_toArray, item_len]
def zOpR : OpR := ⟨0, 0, 0, 0⟩
def zOpRL : List Value := [.int .i64 0, .int .i64 0, .int .i64 0, .int .u64 0]
theorem zOpR_plain : zOpR.plain = zOpRL := congrArg Array.toList (plain_arr zOpR)
theorem built_rev_fill (parts : List (Nat × Value)) : Tryz.prog.built 41 parts = Instr.fill (#[(0, 17), (17, 4)][·]?) #[.int .u64 0, .int .i64 0, .int .u32 0, .int .i64 0, .int .i64 0, .int .u32 0, .int .u32 0, .int .u32 0, .int .u32 0, .int .u32 0, .int .u32 0, .int .u32 0, .int .u32 0, .int .u32 0, .int .u32 0, .int .u32 0, .int .u32 0, .int .i64 0, .int .i64 0, .int .i64 0, .int .u64 0] parts := by kernel_rfl
theorem built_rev (l : Lab) : Tryz.prog.built 41 [(0, .agg l.cells.toArray)] = some (Ev.mk l zOpR).item.toArray := by
  rw [built_rev_fill]
  have h1 := fill_one (place := (#[(0, 17), (17, 4)][·]?)) (i := 0) (off := 0) (cs := l.cells) (pre := []) (mid := zLabL) (post := zOpRL) (rest := []) (by rw [lab_len]; rfl) rfl (by rw [lab_len]; rfl)
  have e : (#[.int .u64 0, .int .i64 0, .int .u32 0, .int .i64 0, .int .i64 0, .int .u32 0, .int .u32 0, .int .u32 0, .int .u32 0, .int .u32 0, .int .u32 0, .int .u32 0, .int .u32 0, .int .u32 0, .int .u32 0, .int .u32 0, .int .u32 0, .int .i64 0, .int .i64 0, .int .i64 0, .int .u64 0] : Array Value) = ([] ++ (zLabL ++ zOpRL)).toArray := rfl
  rw [e, h1, List.nil_append, Instr.fill, item_def, zOpR_plain]
theorem rev_op (l : Lab) (o : OpR) : setL (Ev.mk l zOpR).item.toArray 17 o.plain = (Ev.mk l o).item.toArray := by
  have := setL_app o.plain zOpRL l.cells (by rw [plain_len]; rfl)
  rw [lab_len] at this
  rw [item_def, zOpR_plain, this, item_def]
/-- What lies where in an event's box. -/
theorem item_cells {W : World} {b : Nat} {t : TypeId} {x : Ev} (h : Blk W b t x.item.toArray) : W.rangeAt b 0 x.item ∧ W.rangeAt b 0 x.l.cells ∧ W.rangeAt b 17 x.o.plain ∧ W.cell? ⟨b, 4, none⟩ = some (.int .i64 x.l.se) := by
  obtain ⟨h1, h2, h3⟩ := item_all h
  exact ⟨h1, h2, h3, by have := h2 4 _ lab_4; rwa [Nat.zero_add] at this⟩
set_option maxRecDepth 20000 in
set_option maxHeartbeats 8000000 in
theorem rright6_any (x : Ev) (hf : ∀ i, x.l.f i < 4294967296) (hn : x.l.n < 4294967296) (W : World) : Calls Tryz.prog 51 #[.agg x.item.toArray] W fun e W' => e = .returned (.bool (rightE x)) ∧ Below W.heap.size W W' := by
  have bA := Blk.new W 41 x.item.toArray
  have hB0 := (Below.refl W.heap.size W).alloc (Nat.le_refl _) (.cells x.item.toArray 41)
  have HB := Lib.hid hB0
  have HBK := Lib.hid bA
  obtain ⟨_, rl, _, _⟩ := item_cells bA
  have HR := Lib.hid (rright5_any x.l hf hn)
  clear bA hB0
  cases hr : rightL x.l with
  | false =>
    have HE := Lib.hid (show rightE x = false from by unfold rightE; rw [hr]; rfl)
    rw [hr] at HR
    clear hr
    go_enter Tryz.func51, Tryz.ntmps51
    go_wp2_with (first | (refine wpList_load_midg (by rfl) 38 _ rfl _ _ rfl (Lab.cells x.l) _ rl Tryz.underlying38 rfl (rlinfo _) ?_))
    refine (HR.out _).mono ?_
    rintro e w2 ⟨rfl, hb⟩
    have HB2 := Lib.hid (HB.out.trans (hb.mono HB.out.size))
    clear hb rl
    go_wp2_with fail
    go_ret
    exact ⟨by rw [HE.out] <;> rfl, HB2.out⟩
  | true =>
    have hse : 0 ≤ x.l.se := by
      unfold rightL placeB at hr
      simp only [Bool.and_eq_true, decide_eq_true_eq] at hr
      exact hr.1.1.2.1.2
    rw [hr] at HR
    cases hs : decide (0 < x.l.se) with
    | false =>
      have HE := Lib.hid (show rightE x = false from by
        have : x.l.se = 0 := by have := of_decide_eq_false hs; omega
        unfold rightE; rw [hr, this]; rfl)
      clear hr hse
      go_enter Tryz.func51, Tryz.ntmps51
      go_wp2_with (first | (refine wpList_load_midg (by rfl) 38 _ rfl _ _ rfl (Lab.cells x.l) _ rl Tryz.underlying38 rfl (rlinfo _) ?_))
      refine (HR.out _).mono ?_
      rintro e w2 ⟨rfl, hb⟩
      have HB2 := Lib.hid (HB.out.trans (hb.mono HB.out.size))
      obtain ⟨_, _, _, c4⟩ := item_cells (HBK.out.next hb)
      clear hb rl
      go_wp2_with fail
      go_ret
      exact ⟨by rw [HE.out] <;> rfl, HB2.out⟩
    | true =>
      have HE := Lib.hid (show rightE x = mayO x.o from by
        have h1 : (x.l.se != 0) = true := by have := of_decide_eq_true hs; simp; omega
        unfold rightE; rw [hr, h1]; rfl)
      clear hr hse
      go_enter Tryz.func51, Tryz.ntmps51
      go_wp2_with (first | (refine wpList_load_midg (by rfl) 38 _ rfl _ _ rfl (Lab.cells x.l) _ rl Tryz.underlying38 rfl (rlinfo _) ?_))
      refine (HR.out _).mono ?_
      rintro e w2 ⟨rfl, hb⟩
      have HB2 := Lib.hid (HB.out.trans (hb.mono HB.out.size))
      obtain ⟨_, _, rp, c4⟩ := item_cells (HBK.out.next hb)
      clear hb rl
      go_wp2_with (first | (refine wpList_load_midg (by rfl) 39 _ rfl _ _ rfl (OpR.plain x.o) _ rp Tryz.underlying39 rfl (pinfoL6 _) ?_))
      refine (rmay6_any x.o w2).mono ?_
      rintro e w3 ⟨rfl, hb⟩
      have HB3 := Lib.hid (HB2.out.trans (hb.mono HB2.out.size))
      clear hb rp c4
      go_wp2_with fail
      go_ret
      exact ⟨by rw [HE.out, rmayB_eq] <;> rfl, HB3.out⟩
theorem ev_post {bs : List Nat} {p p1 p2 : Nat} {e e1 e2 : Int} {l : Lab} {o : OpR} (P1 : PostP labP bs p p1 e e1 (fun x => l = x)) (P2 : PostP opP bs p1 p2 e1 e2 (fun x => o = x)) :
    (e2 = 0 → e = 0 ∧ evP (bs.drop p) = if rightE ⟨l, o⟩ then .ok (⟨l, o⟩, bs.drop p2) else .error 3) ∧ (e2 ≠ 0 → e = 0 → ∃ y, evP (bs.drop p) = .error y) := by
  constructor
  · intro h2
    obtain ⟨h1, o', r2, rfl⟩ := P2.ok h2
    obtain ⟨h0, l', r1, rfl⟩ := P1.ok h1
    refine ⟨h0, ?_⟩
    rw [evP_def]
    refine (bindP_ok r1).trans ?_
    exact bindP_ok r2
  · intro h2 h0
    rw [evP_def]
    by_cases h1 : e1 = 0
    · obtain ⟨_, l', r1, rfl⟩ := P1.ok h1
      obtain ⟨y, hy⟩ := P2.no h1 h2
      exact ⟨y, (bindP_ok r1).trans (bindP_err hy)⟩
    · obtain ⟨y, hy⟩ := P1.no h0 h1
      exact ⟨y, bindP_err hy⟩
set_option maxRecDepth 20000 in
set_option maxHeartbeats 16000000 in
theorem refget6_any (k c : Nat) (A : Option Addr) (bs : List Nat) (hlen : bs.length ≤ 140737488355328) (hc : bs.length ≤ c) (hby : ∀ x ∈ bs, x < 256) (p : Nat) (e : Int) (W : World) (h : RS W k A c bs p e) :
    Calls Tryz.prog 41 #[.pointer (some ⟨k, 0, none⟩)] W fun r W' => ∃ (o : Ev) (p' : Nat) (e' : Int), r = .returned (.agg o.item.toArray) ∧ RS W' k A c bs p' e' ∧ Off k W W' ∧ PostP evP bs p p' e e' (fun x => o = x) := by
  have hk := h.1.lt
  have hlow := h.low
  have b1 := (Below.refl W.heap.size W).alloc (Nat.le_refl _) (.cells #[.int .u64 0, .int .i64 0, .int .u32 0, .int .i64 0, .int .i64 0, .int .u32 0, .int .u32 0, .int .u32 0, .int .u32 0, .int .u32 0, .int .u32 0, .int .u32 0, .int .u32 0, .int .u32 0, .int .u32 0, .int .u32 0, .int .u32 0, .int .i64 0, .int .i64 0, .int .i64 0, .int .u64 0] 41)
  have hg := Blk.new W 41 #[.int .u64 0, .int .i64 0, .int .u32 0, .int .i64 0, .int .i64 0, .int .u32 0, .int .u32 0, .int .u32 0, .int .u32 0, .int .u32 0, .int .u32 0, .int .u32 0, .int .u32 0, .int .u32 0, .int .u32 0, .int .u32 0, .int .u32 0, .int .i64 0, .int .i64 0, .int .i64 0, .int .u64 0]
  have hsz : (W.alloc (.cells #[.int .u64 0, .int .i64 0, .int .u32 0, .int .i64 0, .int .i64 0, .int .u32 0, .int .u32 0, .int .u32 0, .int .u32 0, .int .u32 0, .int .u32 0, .int .u32 0, .int .u32 0, .int .u32 0, .int .u32 0, .int .u32 0, .int .u32 0, .int .i64 0, .int .i64 0, .int .i64 0, .int .u64 0] 41)).heap.size = W.heap.size + 1 := by simp
  obtain ⟨w0, hw0⟩ : ∃ w0, w0 = W.alloc (.cells #[.int .u64 0, .int .i64 0, .int .u32 0, .int .i64 0, .int .i64 0, .int .u32 0, .int .u32 0, .int .u32 0, .int .u32 0, .int .u32 0, .int .u32 0, .int .u32 0, .int .u32 0, .int .u32 0, .int .u32 0, .int .u32 0, .int .u32 0, .int .i64 0, .int .i64 0, .int .i64 0, .int .u64 0] 41) := ⟨_, rfl⟩
  have HS0 := Lib.hid (h.next b1)
  rw [← hw0] at b1 hg hsz HS0
  have HG0 := Lib.hid hg
  have HB0 := Lib.hid b1
  have HSZ := Lib.hid hsz
  have HK := Lib.hid hk
  have HLOW := Lib.hid hlow
  go_enter Tryz.func41, Tryz.ntmps41
  go_upto_region 1 with fail
  rw [← hw0]
  clear hw0 h b1 hg hsz hk hlow
  go_wp2_with fail
  refine (refget5_any k c A bs hlen hby p e w0 HS0.out).mono ?_
  rintro r w1 ⟨l, p1, e1, rfl, hS, hO, hlb, hP⟩
  have HP1 := Lib.hid hP
  have HLB := Lib.hid hlb
  have bb := (Below.refl w1.heap.size w1).alloc (Nat.le_refl _) (.cells #[.int .u64 0, .int .i64 0, .int .u32 0, .int .i64 0, .int .i64 0, .int .u32 0, .int .u32 0, .int .u32 0, .int .u32 0, .int .u32 0, .int .u32 0, .int .u32 0, .int .u32 0, .int .u32 0, .int .u32 0, .int .u32 0, .int .u32 0, .int .i64 0, .int .i64 0, .int .i64 0, .int .u64 0] 41)
  have hgl : W.heap.size < w1.heap.size := by have := hO.size; have := HSZ.out; omega
  have P := Lib.hid (show PlR k w1.heap.size A bs W.heap.size from ⟨HK.out, hgl, HLOW.out⟩)
  have hn0 := Blk.new w1 41 #[.int .u64 0, .int .i64 0, .int .u32 0, .int .i64 0, .int .i64 0, .int .u32 0, .int .u32 0, .int .u32 0, .int .u32 0, .int .u32 0, .int .u32 0, .int .u32 0, .int .u32 0, .int .u32 0, .int .u32 0, .int .u32 0, .int .u32 0, .int .i64 0, .int .i64 0, .int .i64 0, .int .u64 0]
  have A0 := Lib.hid (show AtG 41 #[.int .u64 0, .int .i64 0, .int .u32 0, .int .i64 0, .int .i64 0, .int .u32 0, .int .u32 0, .int .u32 0, .int .u32 0, .int .u32 0, .int .u32 0, .int .u32 0, .int .u32 0, .int .u32 0, .int .u32 0, .int .u32 0, .int .u32 0, .int .i64 0, .int .i64 0, .int .i64 0, .int .u64 0] k w1.heap.size c A bs W (w1.alloc (.cells #[.int .u64 0, .int .i64 0, .int .u32 0, .int .i64 0, .int .i64 0, .int .u32 0, .int .u32 0, .int .u32 0, .int .u32 0, .int .u32 0, .int .u32 0, .int .u32 0, .int .u32 0, .int .u32 0, .int .u32 0, .int .u32 0, .int .u32 0, .int .i64 0, .int .i64 0, .int .i64 0, .int .u64 0] 41)) p1 e1 #[.int .u64 0, .int .i64 0, .int .u32 0, .int .i64 0, .int .i64 0, .int .u32 0, .int .u32 0, .int .u32 0, .int .u32 0, .int .u32 0, .int .u32 0, .int .u32 0, .int .u32 0, .int .u32 0, .int .u32 0, .int .u32 0, .int .u32 0, .int .i64 0, .int .i64 0, .int .i64 0, .int .u64 0] from ⟨hS.next bb, hn0, (hO.blk HG0.out (by have := HK.out; omega)).next bb, ((Off.ofBelow HB0.out).trans hO).trans (Off.ofBelow bb)⟩)
  clear hS hO hP bb hgl HG0 HB0 HS0 HSZ hlb
  go_upto_region 2 with (first | (refine wpList_build_lit (Ev.mk l zOpR).item.toArray (by rfl) 41 [(0, _)] rfl (built_rev l) ?_) | (refine wpList_store_blk rfl 41 _ _ rfl w1.heap.size 41 #[.int .u64 0, .int .i64 0, .int .u32 0, .int .i64 0, .int .i64 0, .int .u32 0, .int .u32 0, .int .u32 0, .int .u32 0, .int .u32 0, .int .u32 0, .int .u32 0, .int .u32 0, .int .u32 0, .int .u32 0, .int .u32 0, .int .u32 0, .int .i64 0, .int .i64 0, .int .i64 0, .int .u64 0] (Ev.mk l zOpR).item.toArray rfl rfl hn0 (einfoA6 _) (item_siz _) (item_one _) ?_; intro hrow))
  have A1 := Lib.hid (A0.out.row P.out (Ev.mk l zOpR).item.toArray)
  obtain ⟨x1, hx1⟩ : ∃ x1, x1 = (w1.alloc (.cells #[.int .u64 0, .int .i64 0, .int .u32 0, .int .i64 0, .int .i64 0, .int .u32 0, .int .u32 0, .int .u32 0, .int .u32 0, .int .u32 0, .int .u32 0, .int .u32 0, .int .u32 0, .int .u32 0, .int .u32 0, .int .u32 0, .int .u32 0, .int .i64 0, .int .i64 0, .int .i64 0, .int .u64 0] 41)).setRow w1.heap.size (Ev.mk l zOpR).item.toArray := ⟨_, rfl⟩
  rw [← hx1] at A1 hrow ⊢
  clear hx1 hrow hn0 A0
  obtain ⟨g, hgg⟩ : ∃ g, g = w1.heap.size := ⟨_, rfl⟩
  rw [← hgg] at A1 P ⊢
  clear hgg
  go_wp2_with fail
  refine (refgetop_any k c A bs hlen hc hby p1 e1 x1 A1.out.1).mono ?_
  rintro r w2 ⟨o, p2, e2, rfl, hS, hO, hP⟩
  have HP2 := Lib.hid hP
  have B2 := Lib.hid (A1.out.step P.out hO hS)
  clear hS hO hP A1
  have ht := B2.out.2.1.there (o := 17) (n := o.plain.toArray.size) (by rw [List.size_toArray, List.size_toArray, plain_len, item_len]; exact Nat.le_refl 21)
  have A2 := Lib.hid (AtG.sets P.out o.plain 17 _ _ B2.out)
  rw [rev_op] at A2
  obtain ⟨x, hx⟩ : ∃ x, x = Ev.mk l o := ⟨_, rfl⟩
  have HPOST := Lib.hid (ev_post HP1.out HP2.out)
  have HXB := Lib.hid (show (∀ i, x.l.f i < 4294967296) ∧ x.l.n < 4294967296 from by rw [hx]; exact HLB.out)
  rw [← hx] at A2 HPOST
  clear hx
  go_upto_region 3 with (first | (refine wpList_store_mid rfl 39 _ _ rfl g 17 o.plain.toArray rfl rfl ht (pinfoA6 _) (plain_one _) ?_))
  obtain ⟨x2, hx2⟩ : ∃ x2, x2 = w2.setCells g 17 o.plain := ⟨_, rfl⟩
  rw [← hx2] at A2 ⊢
  clear hx2 ht B2
  obtain ⟨_, _, c2, cz⟩ := A2.out.1.cells
  have z2 := cz 2
  have rgl := A2.out.2.1.range
  clear cz
  by_cases he6 : e2 = 0
  · have HE6 := Lib.hid he6
    rw [he6] at c2
    clear he6
    go_wp2_with (first | (refine wpList_load_midg (by rfl) 41 _ rfl _ _ rfl (Ev.item x) _ rgl Tryz.underlying41 rfl (einfoL6 _) ?_))
    refine (rright6_any x HXB.out.1 HXB.out.2 x2).mono ?_
    rintro r x7 ⟨rfl, hb⟩
    have A7 := Lib.hid (A2.out.next P.out hb)
    clear hb c2 z2 rgl A2
    cases hr : rightE x with
    | true =>
      have HL := Lib.hid (show e = 0 ∧ evP (bs.drop p) = .ok (x, bs.drop p2) from by have := HPOST.out.1 HE6.out; rwa [hr, if_pos rfl] at this)
      have rgl := A7.out.2.1.range
      have bg := A7.out.2.2.1
      clear hr
      go_wp2_with (first | (refine wpList_load_midg (by rfl) 41 _ rfl _ _ rfl (Ev.item x) _ rgl Tryz.underlying41 rfl (einfoL6 _) ?_) | (refine wpList_store_blk rfl 41 _ _ rfl W.heap.size 41 _ x.item.toArray rfl rfl bg (einfoA6 _) (item_siz x) (item_one x) ?_; intro hrow))
      refine bodyPost_row (t := 41) x.item.toArray rfl rfl rfl Tryz.underlying41 rfl (einfoA6 _) hrow ?_
      exact ⟨x, p2, e2, rfl, (A7.out.res P.out _).1, (A7.out.res P.out _).2, by rw [HL.out.1, HE6.out]; exact PostP.good HL.out.2 rfl rfl⟩
    | false =>
      have HL := Lib.hid (show e = 0 ∧ evP (bs.drop p) = .error 3 from by have := HPOST.out.1 HE6.out; rw [hr] at this; exact this)
      obtain ⟨_, _, c2, cz⟩ := A7.out.1.cells
      have z2 := cz 2
      have A8 := Lib.hid (show AtG 41 #[.int .u64 0, .int .i64 0, .int .u32 0, .int .i64 0, .int .i64 0, .int .u32 0, .int .u32 0, .int .u32 0, .int .u32 0, .int .u32 0, .int .u32 0, .int .u32 0, .int .u32 0, .int .u32 0, .int .u32 0, .int .u32 0, .int .u32 0, .int .i64 0, .int .i64 0, .int .i64 0, .int .u64 0] k g c A bs W (x7.setCell ⟨k, 2, none⟩ (.int .i64 3)) p2 3 x.item.toArray from A7.out.step P.out ((Off.refl k x7).set 2 _) (A7.out.1.setE 3))
      have rgl := A8.out.2.1.range
      have bg := A8.out.2.2.1
      clear hr cz
      go_wp2_with (first | (refine wpList_load_midg (by rfl) 41 _ rfl _ _ rfl (Ev.item x) _ rgl Tryz.underlying41 rfl (einfoL6 _) ?_) | (refine wpList_store_blk rfl 41 _ _ rfl W.heap.size 41 _ x.item.toArray rfl rfl bg (einfoA6 _) (item_siz x) (item_one x) ?_; intro hrow))
      refine bodyPost_row (t := 41) x.item.toArray rfl rfl rfl Tryz.underlying41 rfl (einfoA6 _) hrow ?_
      exact ⟨x, p2, 3, rfl, (A8.out.res P.out _).1, (A8.out.res P.out _).2, by rw [HL.out.1]; exact PostP.err HL.out.2 (by decide)⟩
  · have f1 : (e2 == 0) = false := by simpa using he6
    have HE6 := Lib.hid he6
    have bg := A2.out.2.2.1
    clear he6
    go_wp2_with (first | (refine wpList_load_midg (by rfl) 41 _ rfl _ _ rfl (Ev.item x) _ rgl Tryz.underlying41 rfl (einfoL6 _) ?_) | (refine wpList_store_blk rfl 41 _ _ rfl W.heap.size 41 _ x.item.toArray rfl rfl bg (einfoA6 _) (item_siz x) (item_one x) ?_; intro hrow))
    refine bodyPost_row (t := 41) x.item.toArray rfl rfl rfl Tryz.underlying41 rfl (einfoA6 _) hrow ?_
    refine ⟨x, p2, e2, rfl, (A2.out.res P.out _).1, (A2.out.res P.out _).2, fun _ => HE6.out, fun h0 => ?_⟩
    obtain ⟨y, hy⟩ := HPOST.out.2 HE6.out h0
    rw [hy]
    exact HE6.out
end Go.Proofs.YtkigaclcmodjaaaGreat
namespace Go.Proofs.YtkigaclcmodjaaaGreat
open Go.RowKit
set_option linter.unusedSimpArgs false
set_option linter.unusedVariables false
attribute [local go_sem] Tot.run_store_float
end Go.Proofs.YtkigaclcmodjaaaGreat
namespace Go.Proofs.YtkigaclcmodjaaaGreat
open Go.RowKit
set_option linter.unusedSimpArgs false
set_option linter.unusedVariables false
theorem encO_cases (o : OpR) : encO o = ((enc (wordN o.k) ++ (if hasS o.k then enc (wordN o.s) else [])) ++ (if hasQ o.k then enc (zig o.q) else [])) ++ (if hasP o.k then encF o.p else []) := by unfold encO; simp only [List.append_assoc]
set_option maxRecDepth 20000 in
set_option maxHeartbeats 8000000 in
theorem rwriteop6_any (o : OpR) (hok : o.Ok) (W : World) :
    Calls Tryz.prog 81 #[.agg o.plain.toArray] W fun e W' => ∃ v, e = .returned v ∧ Made W W' v (encO o) := by
  have hb0 := (Below.refl W.heap.size W).alloc (Nat.le_refl _) (.cells o.plain.toArray 39)
  have hbk := Blk.new W 39 o.plain.toArray
  have hsz : (W.alloc (.cells o.plain.toArray 39)).heap.size = W.heap.size + 1 := by simp
  have HLE := Lib.hid (show (enc (wordN o.k)).length ≤ 10 ∧ (enc (wordN o.s)).length ≤ 10 ∧ (enc (zig o.q)).length ≤ 10 ∧ (encF o.p).length ≤ 10 from ⟨enc_len _ (wordN_lt _), enc_len _ (wordN_lt _), enc_len _ (zig_lt hok.q1 hok.q2), by unfold encF; rw [be8_len]; omega⟩)
  have HOK := Lib.hid hok
  have w1 := wrap_word o.k
  have w2 := wrap_word o.s
  have cb := Tot.call_frombits
  have HE := Lib.hid (encO_cases o)
  go_enter Tryz.func81, Tryz.ntmps81
  go_upto_region 1 with fail
  obtain ⟨x1, hx1⟩ : ∃ x1, x1 = W.alloc (.cells o.plain.toArray 39) := ⟨_, rfl⟩
  rw [← hx1] at hb0 hbk hsz ⊢
  have HB := Lib.hid hb0
  have HQ := Lib.hid (show ∀ w', Below x1.heap.size x1 w' → w'.cell? ⟨W.heap.size, 0, none⟩ = some (.int .i64 o.k) ∧ w'.cell? ⟨W.heap.size, 1, none⟩ = some (.int .i64 o.s) ∧ w'.cell? ⟨W.heap.size, 2, none⟩ = some (.int .i64 o.q) ∧ w'.cell? ⟨W.heap.size, 3, none⟩ = some (.int .u64 (o.p : Nat)) from fun w' hb => plain_all (hbk.next hb))
  clear hx1 hb0 hbk hsz hok
  obtain ⟨q0, q1, q2, q3⟩ := HQ.out x1 (Below.refl _ _)
  go_upto_region 2 with (first | (go_at_call 57; refine (rfnum_any (wordN o.k) _ (wordN_lt _)).mono ?_; rintro e y1 ⟨v1, rfl, hM⟩; have HO1 := Lib.hid (Own8.first hM); clear hM q0 q1 q2 q3))
  obtain ⟨q0, q1, q2, q3⟩ := HQ.out y1 HO1.out.2
  have hcs : o.k = 4 ∨ o.k = 6 ∨ o.k = 1 ∨ o.k = 2 ∨ o.k = 5 ∨ (o.k ≠ 4 ∧ o.k ≠ 6 ∧ o.k ≠ 1 ∧ o.k ≠ 2 ∧ o.k ≠ 5) := by omega
  rcases hcs with h | h | h | h | h | h
  · have f4 : (o.k == 4) = true := by rw [h]; rfl
    have g4 : (o.k != 4) = false := by rw [h]; rfl
    have f6 : (o.k == 6) = false := by rw [h]; rfl
    have g6 : (o.k != 6) = true := by rw [h]; rfl
    have f1 : (o.k == 1) = false := by rw [h]; rfl
    have g1 : (o.k != 1) = true := by rw [h]; rfl
    have f2 : (o.k == 2) = false := by rw [h]; rfl
    have g2 : (o.k != 2) = true := by rw [h]; rfl
    have f5 : (o.k == 5) = false := by rw [h]; rfl
    have g5 : (o.k != 5) = true := by rw [h]; rfl
    have e1 : hasS o.k = false := by rw [h]; rfl
    have e2 : hasQ o.k = false := by rw [h]; rfl
    have e3 : hasP o.k = false := by rw [h]; rfl
    have HR := Lib.hid (show encO o = enc (wordN o.k) from by rw [HE.out, e1, e2, e3]; simp only [if_true, if_false, Bool.false_eq_true, List.append_nil])
    clear e1 e2 e3 h HE
    go_wp2_with fail
    go_ret
    refine ⟨v1, rfl, ?_, HB.out.trans (HO1.out.2.mono HB.out.size)⟩
    rw [HR.out]
    exact own_le HO1.out.1 HB.out.size
  · have f4 : (o.k == 4) = false := by rw [h]; rfl
    have g4 : (o.k != 4) = true := by rw [h]; rfl
    have f6 : (o.k == 6) = true := by rw [h]; rfl
    have g6 : (o.k != 6) = false := by rw [h]; rfl
    have f1 : (o.k == 1) = false := by rw [h]; rfl
    have g1 : (o.k != 1) = true := by rw [h]; rfl
    have f2 : (o.k == 2) = false := by rw [h]; rfl
    have g2 : (o.k != 2) = true := by rw [h]; rfl
    have f5 : (o.k == 5) = false := by rw [h]; rfl
    have g5 : (o.k != 5) = true := by rw [h]; rfl
    have e1 : hasS o.k = true := by rw [h]; rfl
    have e2 : hasQ o.k = false := by rw [h]; rfl
    have e3 : hasP o.k = true := by rw [h]; rfl
    have HR := Lib.hid (show encO o = enc (wordN o.k) ++ enc (wordN o.s) ++ encF o.p from by rw [HE.out, e1, e2, e3]; simp only [if_true, if_false, Bool.false_eq_true, List.append_nil])
    clear e1 e2 e3 h HE
    go_wp2_with (first | (go_at_call 57; refine (rfnum_any (wordN o.s) _ (wordN_lt _)).mono ?_; rintro e z2 ⟨u2, rfl, hM⟩; obtain ⟨A2, c2, rfl, hS2⟩ := src_own hM.1; have HM2 := Lib.hid hM; have HS2 := Lib.hid hS2; clear hM hS2 q0 q1 q2 q3) | (refine wpList_append_u8 _ rfl _ _ rfl x1.heap.size v1 (enc (wordN o.k)).length (u8s (enc (wordN o.k))) rfl (own_next HO1.out.1 HM2.out.2 HO1.out.2.size) A2 (enc (wordN o.s)).length c2 (u8s (enc (wordN o.s))) rfl (u8s_len _) HS2.out (u8s_one _) (by (try simp only [List.length_append]); obtain ⟨_, _, _, _⟩ := HLE.out; omega) (Nat.le_trans HO1.out.2.size HM2.out.2.size) ?_; intro v2 y2 hown hgrow _; have HO2 := Lib.hid (Own8.more rfl HO1.out HM2.out rfl hown hgrow); clear hown hgrow HO1 HM2 HS2; obtain ⟨q0, q1, q2, q3⟩ := HQ.out y2 HO2.out.2) | (go_at_call 102; refine (rffloat_any o.p _ HOK.out.p).mono ?_; rintro e z3 ⟨u3, rfl, hM⟩; obtain ⟨A3, c3, rfl, hS3⟩ := src_own hM.1; have HM3 := Lib.hid hM; have HS3 := Lib.hid hS3; clear hM hS3 q0 q1 q2 q3) | (refine wpList_append_u8 _ rfl _ _ rfl x1.heap.size v2 (enc (wordN o.k) ++ enc (wordN o.s)).length (u8s (enc (wordN o.k) ++ enc (wordN o.s))) rfl (own_next HO2.out.1 HM3.out.2 HO2.out.2.size) A3 (encF o.p).length c3 (u8s (encF o.p)) rfl (u8s_len _) HS3.out (u8s_one _) (by (try simp only [List.length_append]); obtain ⟨_, _, _, _⟩ := HLE.out; omega) (Nat.le_trans HO2.out.2.size HM3.out.2.size) ?_; intro v3 y3 hown hgrow _; have HO3 := Lib.hid (Own8.more rfl HO2.out HM3.out rfl hown hgrow); clear hown hgrow HO2 HM3 HS3; obtain ⟨q0, q1, q2, q3⟩ := HQ.out y3 HO3.out.2))
    go_ret
    refine ⟨v3, rfl, ?_, HB.out.trans (HO3.out.2.mono HB.out.size)⟩
    rw [HR.out]
    exact own_le HO3.out.1 HB.out.size
  · have f4 : (o.k == 4) = false := by rw [h]; rfl
    have g4 : (o.k != 4) = true := by rw [h]; rfl
    have f6 : (o.k == 6) = false := by rw [h]; rfl
    have g6 : (o.k != 6) = true := by rw [h]; rfl
    have f1 : (o.k == 1) = true := by rw [h]; rfl
    have g1 : (o.k != 1) = false := by rw [h]; rfl
    have f2 : (o.k == 2) = false := by rw [h]; rfl
    have g2 : (o.k != 2) = true := by rw [h]; rfl
    have f5 : (o.k == 5) = false := by rw [h]; rfl
    have g5 : (o.k != 5) = true := by rw [h]; rfl
    have e1 : hasS o.k = true := by rw [h]; rfl
    have e2 : hasQ o.k = true := by rw [h]; rfl
    have e3 : hasP o.k = false := by rw [h]; rfl
    have HR := Lib.hid (show encO o = enc (wordN o.k) ++ enc (wordN o.s) ++ enc (zig o.q) from by rw [HE.out, e1, e2, e3]; simp only [if_true, if_false, Bool.false_eq_true, List.append_nil])
    clear e1 e2 e3 h HE
    go_wp2_with (first | (go_at_call 57; refine (rfnum_any (wordN o.s) _ (wordN_lt _)).mono ?_; rintro e z2 ⟨u2, rfl, hM⟩; obtain ⟨A2, c2, rfl, hS2⟩ := src_own hM.1; have HM2 := Lib.hid hM; have HS2 := Lib.hid hS2; clear hM hS2 q0 q1 q2 q3) | (refine wpList_append_u8 _ rfl _ _ rfl x1.heap.size v1 (enc (wordN o.k)).length (u8s (enc (wordN o.k))) rfl (own_next HO1.out.1 HM2.out.2 HO1.out.2.size) A2 (enc (wordN o.s)).length c2 (u8s (enc (wordN o.s))) rfl (u8s_len _) HS2.out (u8s_one _) (by (try simp only [List.length_append]); obtain ⟨_, _, _, _⟩ := HLE.out; omega) (Nat.le_trans HO1.out.2.size HM2.out.2.size) ?_; intro v2 y2 hown hgrow _; have HO2 := Lib.hid (Own8.more rfl HO1.out HM2.out rfl hown hgrow); clear hown hgrow HO1 HM2 HS2; obtain ⟨q0, q1, q2, q3⟩ := HQ.out y2 HO2.out.2) | (go_at_call 101; refine (rfint_any o.q _ HOK.out.q1 HOK.out.q2).mono ?_; rintro e z3 ⟨u3, rfl, hM⟩; obtain ⟨A3, c3, rfl, hS3⟩ := src_own hM.1; have HM3 := Lib.hid hM; have HS3 := Lib.hid hS3; clear hM hS3 q0 q1 q2 q3) | (refine wpList_append_u8 _ rfl _ _ rfl x1.heap.size v2 (enc (wordN o.k) ++ enc (wordN o.s)).length (u8s (enc (wordN o.k) ++ enc (wordN o.s))) rfl (own_next HO2.out.1 HM3.out.2 HO2.out.2.size) A3 (enc (zig o.q)).length c3 (u8s (enc (zig o.q))) rfl (u8s_len _) HS3.out (u8s_one _) (by (try simp only [List.length_append]); obtain ⟨_, _, _, _⟩ := HLE.out; omega) (Nat.le_trans HO2.out.2.size HM3.out.2.size) ?_; intro v3 y3 hown hgrow _; have HO3 := Lib.hid (Own8.more rfl HO2.out HM3.out rfl hown hgrow); clear hown hgrow HO2 HM3 HS3; obtain ⟨q0, q1, q2, q3⟩ := HQ.out y3 HO3.out.2))
    go_ret
    refine ⟨v3, rfl, ?_, HB.out.trans (HO3.out.2.mono HB.out.size)⟩
    rw [HR.out]
    exact own_le HO3.out.1 HB.out.size
  · have f4 : (o.k == 4) = false := by rw [h]; rfl
    have g4 : (o.k != 4) = true := by rw [h]; rfl
    have f6 : (o.k == 6) = false := by rw [h]; rfl
    have g6 : (o.k != 6) = true := by rw [h]; rfl
    have f1 : (o.k == 1) = false := by rw [h]; rfl
    have g1 : (o.k != 1) = true := by rw [h]; rfl
    have f2 : (o.k == 2) = true := by rw [h]; rfl
    have g2 : (o.k != 2) = false := by rw [h]; rfl
    have f5 : (o.k == 5) = false := by rw [h]; rfl
    have g5 : (o.k != 5) = true := by rw [h]; rfl
    have e1 : hasS o.k = true := by rw [h]; rfl
    have e2 : hasQ o.k = true := by rw [h]; rfl
    have e3 : hasP o.k = false := by rw [h]; rfl
    have HR := Lib.hid (show encO o = enc (wordN o.k) ++ enc (wordN o.s) ++ enc (zig o.q) from by rw [HE.out, e1, e2, e3]; simp only [if_true, if_false, Bool.false_eq_true, List.append_nil])
    clear e1 e2 e3 h HE
    go_wp2_with (first | (go_at_call 57; refine (rfnum_any (wordN o.s) _ (wordN_lt _)).mono ?_; rintro e z2 ⟨u2, rfl, hM⟩; obtain ⟨A2, c2, rfl, hS2⟩ := src_own hM.1; have HM2 := Lib.hid hM; have HS2 := Lib.hid hS2; clear hM hS2 q0 q1 q2 q3) | (refine wpList_append_u8 _ rfl _ _ rfl x1.heap.size v1 (enc (wordN o.k)).length (u8s (enc (wordN o.k))) rfl (own_next HO1.out.1 HM2.out.2 HO1.out.2.size) A2 (enc (wordN o.s)).length c2 (u8s (enc (wordN o.s))) rfl (u8s_len _) HS2.out (u8s_one _) (by (try simp only [List.length_append]); obtain ⟨_, _, _, _⟩ := HLE.out; omega) (Nat.le_trans HO1.out.2.size HM2.out.2.size) ?_; intro v2 y2 hown hgrow _; have HO2 := Lib.hid (Own8.more rfl HO1.out HM2.out rfl hown hgrow); clear hown hgrow HO1 HM2 HS2; obtain ⟨q0, q1, q2, q3⟩ := HQ.out y2 HO2.out.2) | (go_at_call 101; refine (rfint_any o.q _ HOK.out.q1 HOK.out.q2).mono ?_; rintro e z3 ⟨u3, rfl, hM⟩; obtain ⟨A3, c3, rfl, hS3⟩ := src_own hM.1; have HM3 := Lib.hid hM; have HS3 := Lib.hid hS3; clear hM hS3 q0 q1 q2 q3) | (refine wpList_append_u8 _ rfl _ _ rfl x1.heap.size v2 (enc (wordN o.k) ++ enc (wordN o.s)).length (u8s (enc (wordN o.k) ++ enc (wordN o.s))) rfl (own_next HO2.out.1 HM3.out.2 HO2.out.2.size) A3 (enc (zig o.q)).length c3 (u8s (enc (zig o.q))) rfl (u8s_len _) HS3.out (u8s_one _) (by (try simp only [List.length_append]); obtain ⟨_, _, _, _⟩ := HLE.out; omega) (Nat.le_trans HO2.out.2.size HM3.out.2.size) ?_; intro v3 y3 hown hgrow _; have HO3 := Lib.hid (Own8.more rfl HO2.out HM3.out rfl hown hgrow); clear hown hgrow HO2 HM3 HS3; obtain ⟨q0, q1, q2, q3⟩ := HQ.out y3 HO3.out.2))
    go_ret
    refine ⟨v3, rfl, ?_, HB.out.trans (HO3.out.2.mono HB.out.size)⟩
    rw [HR.out]
    exact own_le HO3.out.1 HB.out.size
  · have f4 : (o.k == 4) = false := by rw [h]; rfl
    have g4 : (o.k != 4) = true := by rw [h]; rfl
    have f6 : (o.k == 6) = false := by rw [h]; rfl
    have g6 : (o.k != 6) = true := by rw [h]; rfl
    have f1 : (o.k == 1) = false := by rw [h]; rfl
    have g1 : (o.k != 1) = true := by rw [h]; rfl
    have f2 : (o.k == 2) = false := by rw [h]; rfl
    have g2 : (o.k != 2) = true := by rw [h]; rfl
    have f5 : (o.k == 5) = true := by rw [h]; rfl
    have g5 : (o.k != 5) = false := by rw [h]; rfl
    have e1 : hasS o.k = true := by rw [h]; rfl
    have e2 : hasQ o.k = true := by rw [h]; rfl
    have e3 : hasP o.k = false := by rw [h]; rfl
    have HR := Lib.hid (show encO o = enc (wordN o.k) ++ enc (wordN o.s) ++ enc (zig o.q) from by rw [HE.out, e1, e2, e3]; simp only [if_true, if_false, Bool.false_eq_true, List.append_nil])
    clear e1 e2 e3 h HE
    go_wp2_with (first | (go_at_call 57; refine (rfnum_any (wordN o.s) _ (wordN_lt _)).mono ?_; rintro e z2 ⟨u2, rfl, hM⟩; obtain ⟨A2, c2, rfl, hS2⟩ := src_own hM.1; have HM2 := Lib.hid hM; have HS2 := Lib.hid hS2; clear hM hS2 q0 q1 q2 q3) | (refine wpList_append_u8 _ rfl _ _ rfl x1.heap.size v1 (enc (wordN o.k)).length (u8s (enc (wordN o.k))) rfl (own_next HO1.out.1 HM2.out.2 HO1.out.2.size) A2 (enc (wordN o.s)).length c2 (u8s (enc (wordN o.s))) rfl (u8s_len _) HS2.out (u8s_one _) (by (try simp only [List.length_append]); obtain ⟨_, _, _, _⟩ := HLE.out; omega) (Nat.le_trans HO1.out.2.size HM2.out.2.size) ?_; intro v2 y2 hown hgrow _; have HO2 := Lib.hid (Own8.more rfl HO1.out HM2.out rfl hown hgrow); clear hown hgrow HO1 HM2 HS2; obtain ⟨q0, q1, q2, q3⟩ := HQ.out y2 HO2.out.2) | (go_at_call 101; refine (rfint_any o.q _ HOK.out.q1 HOK.out.q2).mono ?_; rintro e z3 ⟨u3, rfl, hM⟩; obtain ⟨A3, c3, rfl, hS3⟩ := src_own hM.1; have HM3 := Lib.hid hM; have HS3 := Lib.hid hS3; clear hM hS3 q0 q1 q2 q3) | (refine wpList_append_u8 _ rfl _ _ rfl x1.heap.size v2 (enc (wordN o.k) ++ enc (wordN o.s)).length (u8s (enc (wordN o.k) ++ enc (wordN o.s))) rfl (own_next HO2.out.1 HM3.out.2 HO2.out.2.size) A3 (enc (zig o.q)).length c3 (u8s (enc (zig o.q))) rfl (u8s_len _) HS3.out (u8s_one _) (by (try simp only [List.length_append]); obtain ⟨_, _, _, _⟩ := HLE.out; omega) (Nat.le_trans HO2.out.2.size HM3.out.2.size) ?_; intro v3 y3 hown hgrow _; have HO3 := Lib.hid (Own8.more rfl HO2.out HM3.out rfl hown hgrow); clear hown hgrow HO2 HM3 HS3; obtain ⟨q0, q1, q2, q3⟩ := HQ.out y3 HO3.out.2))
    go_ret
    refine ⟨v3, rfl, ?_, HB.out.trans (HO3.out.2.mono HB.out.size)⟩
    rw [HR.out]
    exact own_le HO3.out.1 HB.out.size
  · have f4 : (o.k == 4) = false := by (have := h; simp; omega)
    have g4 : (o.k != 4) = true := by (have := h; simp; omega)
    have f6 : (o.k == 6) = false := by (have := h; simp; omega)
    have g6 : (o.k != 6) = true := by (have := h; simp; omega)
    have f1 : (o.k == 1) = false := by (have := h; simp; omega)
    have g1 : (o.k != 1) = true := by (have := h; simp; omega)
    have f2 : (o.k == 2) = false := by (have := h; simp; omega)
    have g2 : (o.k != 2) = true := by (have := h; simp; omega)
    have f5 : (o.k == 5) = false := by (have := h; simp; omega)
    have g5 : (o.k != 5) = true := by (have := h; simp; omega)
    have e1 : hasS o.k = true := by unfold hasS; rw [g4]
    have e2 : hasQ o.k = false := by unfold hasQ; rw [f1, f2, f5]; rfl
    have e3 : hasP o.k = false := by unfold hasP; rw [f6]
    have HR := Lib.hid (show encO o = enc (wordN o.k) ++ enc (wordN o.s) from by rw [HE.out, e1, e2, e3]; simp only [if_true, if_false, Bool.false_eq_true, List.append_nil])
    clear e1 e2 e3 h HE
    go_wp2_with (first | (go_at_call 57; refine (rfnum_any (wordN o.s) _ (wordN_lt _)).mono ?_; rintro e z2 ⟨u2, rfl, hM⟩; obtain ⟨A2, c2, rfl, hS2⟩ := src_own hM.1; have HM2 := Lib.hid hM; have HS2 := Lib.hid hS2; clear hM hS2 q0 q1 q2 q3) | (refine wpList_append_u8 _ rfl _ _ rfl x1.heap.size v1 (enc (wordN o.k)).length (u8s (enc (wordN o.k))) rfl (own_next HO1.out.1 HM2.out.2 HO1.out.2.size) A2 (enc (wordN o.s)).length c2 (u8s (enc (wordN o.s))) rfl (u8s_len _) HS2.out (u8s_one _) (by (try simp only [List.length_append]); obtain ⟨_, _, _, _⟩ := HLE.out; omega) (Nat.le_trans HO1.out.2.size HM2.out.2.size) ?_; intro v2 y2 hown hgrow _; have HO2 := Lib.hid (Own8.more rfl HO1.out HM2.out rfl hown hgrow); clear hown hgrow HO1 HM2 HS2; obtain ⟨q0, q1, q2, q3⟩ := HQ.out y2 HO2.out.2))
    go_ret
    refine ⟨v2, rfl, ?_, HB.out.trans (HO2.out.2.mono HB.out.size)⟩
    rw [HR.out]
    exact own_le HO2.out.1 HB.out.size
end Go.Proofs.YtkigaclcmodjaaaGreat
