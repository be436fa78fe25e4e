/-
The document's op of bytes.
-/
import Derived.Test.YteplplmfepamdaaORef
namespace Go.Proofs.Yteplplmfepamdaa
open Go.RowKit
set_option linter.unusedSimpArgs false
set_option linter.unusedVariables false
attribute [local go_sem] Tot.run_store_float
/-- In the middle of a read into a box of some type. -/
def AtG (T : TypeId) (z : Array Value) (k g c : Nat) (A : Option Addr) (bs : List Nat) (W wx : World) (p : Nat) (e : Int) (cs : Array Value) : Prop :=
  RS wx k A c bs p e ∧ Blk wx g T cs ∧ Blk wx W.heap.size T z ∧ Off k W wx
section
variable {T : TypeId} {z : Array Value} {k g c : Nat} {A : Option Addr} {bs : List Nat} {W wx wy : World} {p p' : Nat} {e e' : Int} {cs : Array Value}
theorem AtG.set (P : PlR k g A bs W.heap.size) (h : AtG T z k g c A bs W wx p e cs) (j : Nat) (u : Value) : AtG T z k g c A bs W (wx.setCell ⟨g, j, none⟩ u) p e (cs.setIfInBounds j u) :=
  ⟨h.1.off ((Off.refl g wx).set j u) (by have := P.k; have := P.g; omega) (fun hbs b q hA hb => by have := P.low hbs b q hA; have := P.g; omega), h.2.1.setCell j u, h.2.2.1.far (by show W.heap.size ≠ g; have := P.g; omega) u, h.2.2.2.far (by have := P.g; omega) j u⟩
theorem AtG.row (P : PlR k g A bs W.heap.size) (h : AtG T z k g c A bs W wx p e cs) (ds : Array Value) : AtG T z k g c A bs W (wx.setRow g ds) p e ds :=
  ⟨h.1.off (j := g) ⟨rfl, rfl, rfl, by simp, fun j _ hj => setRow_other wx g j ds hj⟩ (by have := P.k; have := P.g; omega) (fun hbs b q hA hb => by have := P.low hbs b q hA; have := P.g; omega), h.2.1.setRow ds, h.2.2.1.farRow (by have := P.g; omega) ds, h.2.2.2.turn (Nat.le_of_lt P.g) rfl rfl rfl (by simp) (fun j hj => setRow_other wx g j ds hj)⟩
theorem AtG.sets (P : PlR k g A bs W.heap.size) : ∀ (vs : List Value) (j : Nat) (wx : World) (cs : Array Value), AtG T z k g c A bs W wx p e cs → AtG T z k g c A bs W (wx.setCells g j vs) p e (setL cs j vs)
  | [], _, _, _, h => h
  | v :: r, j, _, _, h => AtG.sets P r (j + 1) _ _ (h.set P j v)
theorem AtG.step (P : PlR k g A bs W.heap.size) (h : AtG T z k g c A bs W wx p e cs) (hO : Off k wx wy) (hS : RS wy k A c bs p' e') : AtG T z k g c A bs W wy p' e' cs :=
  ⟨hS, hO.blk h.2.1 (by have := P.k; have := P.g; omega), hO.blk h.2.2.1 (by have := P.k; omega), h.2.2.2.trans hO⟩
theorem AtG.next (P : PlR k g A bs W.heap.size) (h : AtG T z k g c A bs W wx p e cs) (hb : Below wx.heap.size wx wy) : AtG T z k g c A bs W wy p e cs := h.step P (Off.ofBelow hb) (h.1.next hb)
theorem AtG.res (P : PlR k g A bs W.heap.size) (h : AtG T z k g c A bs W wx p e cs) (ds : Array Value) : RS (wx.setRow W.heap.size ds) k A c bs p e ∧ Off k W (wx.setRow W.heap.size ds) :=
  ⟨h.1.off (j := W.heap.size) ⟨rfl, rfl, rfl, by simp, fun j _ hj => setRow_other wx W.heap.size j ds hj⟩ (by have := P.k; omega) (fun hbs b q hA hb => by have := P.low hbs b q hA; omega), h.2.2.2.turn (Nat.le_refl _) rfl rfl rfl (by simp) (fun j hj => setRow_other wx W.heap.size j ds hj)⟩
end
theorem PostP.pure {α : Type} (x0 : α) (bs : List Nat) (p : Nat) (e : Int) : PostP (pureP x0) bs p p e e (fun x => x0 = x) := ⟨id, fun h => ⟨rfl, h, rfl⟩⟩
/-- Four parts make an op, or none. -/
theorem op_post {bs : List Nat} {p p1 p2 p3 p4 : Nat} {e e1 e2 e3 e4 : Int} {k s b : Nat} {q : Int}
    (P1 : PostP (smallP (6 : Nat)) bs p p1 e e1 (fun x => k = x)) (P2 : PostP (if hasS (k : Nat) then smallP (40 : Nat) else pureP 0) bs p1 p2 e1 e2 (fun x => s = x)) (P3 : PostP (if hasQ (k : Nat) then intP else pureP 0) bs p2 p3 e2 e3 (fun x => q = x)) (P4 : PostP (if hasP (k : Nat) then floatP else pureP 0) bs p3 p4 e3 e4 (fun x => b = x)) :
    (e4 = 0 → e = 0 ∧ opP (bs.drop p) = if mayO ⟨(k : Nat), (s : Nat), q, b⟩ then .ok (⟨(k : Nat), (s : Nat), q, b⟩, bs.drop p4) else .error 3) ∧ (e4 ≠ 0 → e = 0 → ∃ y, opP (bs.drop p) = .error y) := by
  constructor
  · intro h4
    obtain ⟨h3, b', r4, rfl⟩ := P4.ok h4
    obtain ⟨h2, q', r3, rfl⟩ := P3.ok h3
    obtain ⟨h1, s', r2, rfl⟩ := P2.ok h2
    obtain ⟨h0, k', r1, rfl⟩ := P1.ok h1
    refine ⟨h0, ?_⟩
    rw [opP_def]
    refine (bindP_ok r1).trans ?_
    refine (bindP_ok r2).trans ?_
    refine (bindP_ok r3).trans ?_
    exact bindP_ok r4
  · intro h4 h0
    rw [opP_def]
    by_cases h1 : e1 = 0
    · obtain ⟨_, k', r1, rfl⟩ := P1.ok h1
      by_cases h2 : e2 = 0
      · obtain ⟨_, s', r2, rfl⟩ := P2.ok h2
        by_cases h3 : e3 = 0
        · obtain ⟨_, q', r3, rfl⟩ := P3.ok h3
          obtain ⟨y, hy⟩ := P4.no h3 h4
          exact ⟨y, ((bindP_ok r1).trans ((bindP_ok r2).trans (bindP_ok r3))).trans (bindP_err hy)⟩
        · obtain ⟨y, hy⟩ := P3.no h2 h3
          exact ⟨y, ((bindP_ok r1).trans (bindP_ok r2)).trans (bindP_err hy)⟩
      · obtain ⟨y, hy⟩ := P2.no h1 h2
        exact ⟨y, (bindP_ok r1).trans (bindP_err hy)⟩
    · obtain ⟨y, hy⟩ := P1.no h0 h1
      exact ⟨y, bindP_err hy⟩
theorem pinfoL6 (o : OpR) : (Try.prog.info? 35).map (·.size) = some o.plain.length := by rw [plain_len]; kernel_rfl
theorem pinfoA6 (o : OpR) : (Try.prog.info? 35).map (·.size) = some o.plain.toArray.size := by rw [List.size_toArray, plain_len]; kernel_rfl
theorem plain_siz (o : OpR) : (#[.int .i64 0, .int .i64 0, .int .i64 0, .int .u64 0] : Array Value).size = o.plain.toArray.size := show 4 = o.plain.toArray.size by rw [List.size_toArray, plain_len]
set_option maxRecDepth 20000 in
set_option maxHeartbeats 16000000 in
theorem refgetop_any (k c : Nat) (A : Option Addr) (bs : List Nat) (hlen : bs.length ≤ 140737488355328) (hc : bs.length ≤ c) (hby : ∀ x ∈ bs, x < 256) (p : Nat) (e : Int) (W : World) (h : RS W k A c bs p e) :
    Calls Try.prog 52 #[.pointer (some ⟨k, 0, none⟩)] W fun r W' => ∃ (o : OpR) (p' : Nat) (e' : Int), r = .returned (.agg o.plain.toArray) ∧ RS W' k A c bs p' e' ∧ Off k W W' ∧ PostP opP bs p p' e e' (fun x => o = x) := by
  have hk := h.1.lt
  have hlow := h.low
  have cbt := Tot.call_bits
  have b1 := (Below.refl W.heap.size W).alloc (Nat.le_refl _) (.cells #[.int .i64 0, .int .i64 0, .int .i64 0, .int .u64 0] 35)
  have hg := Blk.new W 35 #[.int .i64 0, .int .i64 0, .int .i64 0, .int .u64 0]
  have hsz : (W.alloc (.cells #[.int .i64 0, .int .i64 0, .int .i64 0, .int .u64 0] 35)).heap.size = W.heap.size + 1 := by simp
  obtain ⟨w0, hw0⟩ : ∃ w0, w0 = W.alloc (.cells #[.int .i64 0, .int .i64 0, .int .i64 0, .int .u64 0] 35) := ⟨_, rfl⟩
  have HS0 := Lib.hid (h.next b1)
  rw [← hw0] at b1 hg hsz HS0
  have HG0 := Lib.hid hg
  have HB0 := Lib.hid b1
  have HSZ := Lib.hid hsz
  have HK := Lib.hid hk
  have HLOW := Lib.hid hlow
  go_enter Try.func52, Try.ntmps52
  go_upto_region 1 with fail
  rw [← hw0]
  clear hw0 h b1 hg hsz hk hlow
  go_wp2_with fail
  refine (refsmall_any k c A bs hlen hby 6 (by decide) p e w0 HS0.out).mono ?_
  rintro r w1 ⟨kd, p1, e1, rfl, hS, hO, hk6, hP⟩
  have HP1 := Lib.hid hP
  have bb := (Below.refl w1.heap.size w1).alloc (Nat.le_refl _) (.cells #[.int .i64 0, .int .i64 0, .int .i64 0, .int .u64 0] 35)
  have hgl : W.heap.size < w1.heap.size := by have := hO.size; have := HSZ.out; omega
  have P := Lib.hid (show PlR k w1.heap.size A bs W.heap.size from ⟨HK.out, hgl, HLOW.out⟩)
  have hn0 := Blk.new w1 35 #[.int .i64 0, .int .i64 0, .int .i64 0, .int .u64 0]
  have A0 := Lib.hid (show AtG 35 #[.int .i64 0, .int .i64 0, .int .i64 0, .int .u64 0] k w1.heap.size c A bs W (w1.alloc (.cells #[.int .i64 0, .int .i64 0, .int .i64 0, .int .u64 0] 35)) p1 e1 #[.int .i64 0, .int .i64 0, .int .i64 0, .int .u64 0] from ⟨hS.next bb, hn0, (hO.blk HG0.out (by have := HK.out; omega)).next bb, ((Off.ofBelow HB0.out).trans hO).trans (Off.ofBelow bb)⟩)
  clear hS hO hP bb hgl HG0 HB0 HS0 HSZ
  go_upto_region 2 with (first | (refine wpList_store_blk rfl 35 _ _ rfl w1.heap.size 35 #[.int .i64 0, .int .i64 0, .int .i64 0, .int .u64 0] #[.int .i64 (kd : Nat), .int .i64 0, .int .i64 0, .int .u64 0] rfl rfl hn0 (by kernel_rfl) rfl (by simp [Value.oneCell']) ?_; intro hrow))
  have A1 := Lib.hid (A0.out.row P.out #[.int .i64 (kd : Nat), .int .i64 0, .int .i64 0, .int .u64 0])
  obtain ⟨x1, hx1⟩ : ∃ x1, x1 = (w1.alloc (.cells #[.int .i64 0, .int .i64 0, .int .i64 0, .int .u64 0] 35)).setRow w1.heap.size #[.int .i64 (kd : Nat), .int .i64 0, .int .i64 0, .int .u64 0] := ⟨_, rfl⟩
  rw [← hx1] at A1 hrow ⊢
  clear hx1 hrow hn0 A0
  obtain ⟨g, hgg⟩ : ∃ g, g = w1.heap.size := ⟨_, rfl⟩
  rw [← hgg] at A1 P ⊢
  clear hgg
  rcases (show kd = 0 ∨ kd = 1 ∨ kd = 2 ∨ kd = 3 ∨ kd = 4 ∨ kd = 5 ∨ kd = 6 by omega) with rfl | rfl | rfl | rfl | rfl | rfl | rfl
  · have c0 := A1.out.2.1.cell 0
    have c0 := A1.out.2.1.cell 0
    go_wp2_with fail
    refine (refsmall_any k c A bs hlen hby 40 (by decide) p1 e1 x1 A1.out.1).mono ?_
    rintro r w2 ⟨s, p2, e2, rfl, hS, hO, hs40, hP⟩
    have HP2 := Lib.hid hP
    have B2 := Lib.hid (A1.out.step P.out hO hS)
    clear hS hO hP c0
    have c0 := B2.out.2.1.cell 0
    have k0 := B2.out.2.1.cell 1
    have z0 := B2.out.2.1.frozen 1
    have A2 := Lib.hid (show AtG 35 #[.int .i64 0, .int .i64 0, .int .i64 0, .int .u64 0] k g c A bs W _ p2 e2 #[.int .i64 0, .int .i64 (s : Nat), .int .i64 0, .int .u64 0] from B2.out.set P.out 1 (.int .i64 (s : Nat)))
    go_upto_region 4 with fail
    obtain ⟨x2, hx⟩ : ∃ x2, x2 = w2.setCell ⟨g, 1, none⟩ (.int .i64 (s : Nat)) := ⟨_, rfl⟩
    rw [← hx] at A2 ⊢
    clear hx k0 z0 c0 B2 A1
    have HP3 := Lib.hid (PostP.pure (0 : Int) bs p2 e2)
    have HP4 := Lib.hid (PostP.pure (0 : Nat) bs p2 e2)
    have HPOST := Lib.hid (op_post (k := 0) (s := s) (q := 0) (b := 0) HP1.out (by exact HP2.out) (by exact HP3.out) (by exact HP4.out))
    obtain ⟨o, ho⟩ : ∃ o, o = OpR.mk ((0 : Nat) : Int) ((s : Nat) : Int) 0 0 := ⟨_, rfl⟩
    rw [← ho] at HPOST
    have AF := Lib.hid (show AtG 35 #[.int .i64 0, .int .i64 0, .int .i64 0, .int .u64 0] k g c A bs W x2 p2 e2 o.plain.toArray from by rw [ho, plain_arr]; exact A2.out)
    clear ho
    have c0 := A2.out.2.1.cell 0
    go_upto_region 8 with fail
    clear c0 A2
    obtain ⟨_, _, c2, cz⟩ := AF.out.1.cells
    have z2 := cz 2
    have rgl := AF.out.2.1.range
    clear cz
    by_cases he6 : e2 = 0
    · have HE6 := Lib.hid he6
      rw [he6] at c2
      clear he6
      go_wp2_with (first | (refine wpList_load_midg (by rfl) 35 _ rfl _ _ rfl (OpR.plain o) _ rgl Try.underlying35 rfl (pinfoL6 _) ?_))
      refine (rmay6_any o x2).mono ?_
      rintro r x7 ⟨rfl, hb⟩
      have A7 := Lib.hid (AF.out.next P.out hb)
      clear hb c2 z2 rgl AF
      rw [rmayB_eq]
      cases hr : mayO o with
      | true =>
        have HL := Lib.hid (show e = 0 ∧ opP (bs.drop p) = .ok (o, bs.drop p2) from by have := HPOST.out.1 HE6.out; rwa [hr, if_pos rfl] at this)
        have rgl := A7.out.2.1.range
        have bg := A7.out.2.2.1
        clear hr
        go_wp2_with (first | (refine wpList_load_midg (by rfl) 35 _ rfl _ _ rfl (OpR.plain o) _ rgl Try.underlying35 rfl (pinfoL6 _) ?_) | (refine wpList_store_blk rfl 35 _ _ rfl W.heap.size 35 _ o.plain.toArray rfl rfl bg (pinfoA6 _) (plain_siz o) (plain_one o) ?_; intro hrow))
        refine bodyPost_row (t := 35) o.plain.toArray rfl rfl rfl Try.underlying35 rfl (pinfoA6 _) hrow ?_
        exact ⟨o, p2, e2, rfl, (A7.out.res P.out _).1, (A7.out.res P.out _).2, by rw [HL.out.1, HE6.out]; exact PostP.good HL.out.2 rfl rfl⟩
      | false =>
        have HL := Lib.hid (show e = 0 ∧ opP (bs.drop p) = .error 3 from by have := HPOST.out.1 HE6.out; rw [hr] at this; exact this)
        obtain ⟨_, _, c2, cz⟩ := A7.out.1.cells
        have z2 := cz 2
        have A8 := Lib.hid (show AtG 35 #[.int .i64 0, .int .i64 0, .int .i64 0, .int .u64 0] k g c A bs W (x7.setCell ⟨k, 2, none⟩ (.int .i64 3)) p2 3 o.plain.toArray from A7.out.step P.out ((Off.refl k x7).set 2 _) (A7.out.1.setE 3))
        have rgl := A8.out.2.1.range
        have bg := A8.out.2.2.1
        clear hr cz
        go_wp2_with (first | (refine wpList_load_midg (by rfl) 35 _ rfl _ _ rfl (OpR.plain o) _ rgl Try.underlying35 rfl (pinfoL6 _) ?_) | (refine wpList_store_blk rfl 35 _ _ rfl W.heap.size 35 _ o.plain.toArray rfl rfl bg (pinfoA6 _) (plain_siz o) (plain_one o) ?_; intro hrow))
        refine bodyPost_row (t := 35) o.plain.toArray rfl rfl rfl Try.underlying35 rfl (pinfoA6 _) hrow ?_
        exact ⟨o, p2, 3, rfl, (A8.out.res P.out _).1, (A8.out.res P.out _).2, by rw [HL.out.1]; exact PostP.err HL.out.2 (by decide)⟩
    · have f1 : (e2 == 0) = false := by simpa using he6
      have HE6 := Lib.hid he6
      have bg := AF.out.2.2.1
      clear he6
      go_wp2_with (first | (refine wpList_load_midg (by rfl) 35 _ rfl _ _ rfl (OpR.plain o) _ rgl Try.underlying35 rfl (pinfoL6 _) ?_) | (refine wpList_store_blk rfl 35 _ _ rfl W.heap.size 35 _ o.plain.toArray rfl rfl bg (pinfoA6 _) (plain_siz o) (plain_one o) ?_; intro hrow))
      refine bodyPost_row (t := 35) o.plain.toArray rfl rfl rfl Try.underlying35 rfl (pinfoA6 _) hrow ?_
      refine ⟨o, p2, e2, rfl, (AF.out.res P.out _).1, (AF.out.res P.out _).2, fun _ => HE6.out, fun h0 => ?_⟩
      obtain ⟨y, hy⟩ := HPOST.out.2 HE6.out h0
      rw [hy]
      exact HE6.out
  · have c0 := A1.out.2.1.cell 0
    have c0 := A1.out.2.1.cell 0
    go_wp2_with fail
    refine (refsmall_any k c A bs hlen hby 40 (by decide) p1 e1 x1 A1.out.1).mono ?_
    rintro r w2 ⟨s, p2, e2, rfl, hS, hO, hs40, hP⟩
    have HP2 := Lib.hid hP
    have B2 := Lib.hid (A1.out.step P.out hO hS)
    clear hS hO hP c0
    have c0 := B2.out.2.1.cell 0
    have k0 := B2.out.2.1.cell 1
    have z0 := B2.out.2.1.frozen 1
    have A2 := Lib.hid (show AtG 35 #[.int .i64 0, .int .i64 0, .int .i64 0, .int .u64 0] k g c A bs W _ p2 e2 #[.int .i64 1, .int .i64 (s : Nat), .int .i64 0, .int .u64 0] from B2.out.set P.out 1 (.int .i64 (s : Nat)))
    go_upto_region 4 with fail
    obtain ⟨x2, hx⟩ : ∃ x2, x2 = w2.setCell ⟨g, 1, none⟩ (.int .i64 (s : Nat)) := ⟨_, rfl⟩
    rw [← hx] at A2 ⊢
    clear hx k0 z0 c0 B2 A1
    have c0 := A2.out.2.1.cell 0
    go_wp2_with fail
    refine (refint_any k c A bs hlen hby p2 e2 x2 A2.out.1).mono ?_
    rintro r w3 ⟨q, p3, e3, rfl, hS, hO, hqb, hP⟩
    have HP3 := Lib.hid hP
    have B3 := Lib.hid (A2.out.step P.out hO hS)
    clear hS hO hP c0
    have c0 := B3.out.2.1.cell 0
    have k0 := B3.out.2.1.cell 2
    have z0 := B3.out.2.1.frozen 2
    have A3 := Lib.hid (show AtG 35 #[.int .i64 0, .int .i64 0, .int .i64 0, .int .u64 0] k g c A bs W _ p3 e3 #[.int .i64 1, .int .i64 (s : Nat), .int .i64 q, .int .u64 0] from B3.out.set P.out 2 (.int .i64 q))
    go_upto_region 6 with fail
    obtain ⟨x3, hx⟩ : ∃ x3, x3 = w3.setCell ⟨g, 2, none⟩ (.int .i64 q) := ⟨_, rfl⟩
    rw [← hx] at A3 ⊢
    clear hx k0 z0 c0 B3 A2
    have HP4 := Lib.hid (PostP.pure (0 : Nat) bs p3 e3)
    have HPOST := Lib.hid (op_post (k := 1) (s := s) (q := q) (b := 0) HP1.out (by exact HP2.out) (by exact HP3.out) (by exact HP4.out))
    obtain ⟨o, ho⟩ : ∃ o, o = OpR.mk ((1 : Nat) : Int) ((s : Nat) : Int) q 0 := ⟨_, rfl⟩
    rw [← ho] at HPOST
    have AF := Lib.hid (show AtG 35 #[.int .i64 0, .int .i64 0, .int .i64 0, .int .u64 0] k g c A bs W x3 p3 e3 o.plain.toArray from by rw [ho, plain_arr]; exact A3.out)
    clear ho
    have c0 := A3.out.2.1.cell 0
    go_upto_region 8 with fail
    clear c0 A3
    obtain ⟨_, _, c2, cz⟩ := AF.out.1.cells
    have z2 := cz 2
    have rgl := AF.out.2.1.range
    clear cz
    by_cases he6 : e3 = 0
    · have HE6 := Lib.hid he6
      rw [he6] at c2
      clear he6
      go_wp2_with (first | (refine wpList_load_midg (by rfl) 35 _ rfl _ _ rfl (OpR.plain o) _ rgl Try.underlying35 rfl (pinfoL6 _) ?_))
      refine (rmay6_any o x3).mono ?_
      rintro r x7 ⟨rfl, hb⟩
      have A7 := Lib.hid (AF.out.next P.out hb)
      clear hb c2 z2 rgl AF
      rw [rmayB_eq]
      cases hr : mayO o with
      | true =>
        have HL := Lib.hid (show e = 0 ∧ opP (bs.drop p) = .ok (o, bs.drop p3) from by have := HPOST.out.1 HE6.out; rwa [hr, if_pos rfl] at this)
        have rgl := A7.out.2.1.range
        have bg := A7.out.2.2.1
        clear hr
        go_wp2_with (first | (refine wpList_load_midg (by rfl) 35 _ rfl _ _ rfl (OpR.plain o) _ rgl Try.underlying35 rfl (pinfoL6 _) ?_) | (refine wpList_store_blk rfl 35 _ _ rfl W.heap.size 35 _ o.plain.toArray rfl rfl bg (pinfoA6 _) (plain_siz o) (plain_one o) ?_; intro hrow))
        refine bodyPost_row (t := 35) o.plain.toArray rfl rfl rfl Try.underlying35 rfl (pinfoA6 _) hrow ?_
        exact ⟨o, p3, e3, rfl, (A7.out.res P.out _).1, (A7.out.res P.out _).2, by rw [HL.out.1, HE6.out]; exact PostP.good HL.out.2 rfl rfl⟩
      | false =>
        have HL := Lib.hid (show e = 0 ∧ opP (bs.drop p) = .error 3 from by have := HPOST.out.1 HE6.out; rw [hr] at this; exact this)
        obtain ⟨_, _, c2, cz⟩ := A7.out.1.cells
        have z2 := cz 2
        have A8 := Lib.hid (show AtG 35 #[.int .i64 0, .int .i64 0, .int .i64 0, .int .u64 0] k g c A bs W (x7.setCell ⟨k, 2, none⟩ (.int .i64 3)) p3 3 o.plain.toArray from A7.out.step P.out ((Off.refl k x7).set 2 _) (A7.out.1.setE 3))
        have rgl := A8.out.2.1.range
        have bg := A8.out.2.2.1
        clear hr cz
        go_wp2_with (first | (refine wpList_load_midg (by rfl) 35 _ rfl _ _ rfl (OpR.plain o) _ rgl Try.underlying35 rfl (pinfoL6 _) ?_) | (refine wpList_store_blk rfl 35 _ _ rfl W.heap.size 35 _ o.plain.toArray rfl rfl bg (pinfoA6 _) (plain_siz o) (plain_one o) ?_; intro hrow))
        refine bodyPost_row (t := 35) o.plain.toArray rfl rfl rfl Try.underlying35 rfl (pinfoA6 _) hrow ?_
        exact ⟨o, p3, 3, rfl, (A8.out.res P.out _).1, (A8.out.res P.out _).2, by rw [HL.out.1]; exact PostP.err HL.out.2 (by decide)⟩
    · have f1 : (e3 == 0) = false := by simpa using he6
      have HE6 := Lib.hid he6
      have bg := AF.out.2.2.1
      clear he6
      go_wp2_with (first | (refine wpList_load_midg (by rfl) 35 _ rfl _ _ rfl (OpR.plain o) _ rgl Try.underlying35 rfl (pinfoL6 _) ?_) | (refine wpList_store_blk rfl 35 _ _ rfl W.heap.size 35 _ o.plain.toArray rfl rfl bg (pinfoA6 _) (plain_siz o) (plain_one o) ?_; intro hrow))
      refine bodyPost_row (t := 35) o.plain.toArray rfl rfl rfl Try.underlying35 rfl (pinfoA6 _) hrow ?_
      refine ⟨o, p3, e3, rfl, (AF.out.res P.out _).1, (AF.out.res P.out _).2, fun _ => HE6.out, fun h0 => ?_⟩
      obtain ⟨y, hy⟩ := HPOST.out.2 HE6.out h0
      rw [hy]
      exact HE6.out
  · have c0 := A1.out.2.1.cell 0
    have c0 := A1.out.2.1.cell 0
    go_wp2_with fail
    refine (refsmall_any k c A bs hlen hby 40 (by decide) p1 e1 x1 A1.out.1).mono ?_
    rintro r w2 ⟨s, p2, e2, rfl, hS, hO, hs40, hP⟩
    have HP2 := Lib.hid hP
    have B2 := Lib.hid (A1.out.step P.out hO hS)
    clear hS hO hP c0
    have c0 := B2.out.2.1.cell 0
    have k0 := B2.out.2.1.cell 1
    have z0 := B2.out.2.1.frozen 1
    have A2 := Lib.hid (show AtG 35 #[.int .i64 0, .int .i64 0, .int .i64 0, .int .u64 0] k g c A bs W _ p2 e2 #[.int .i64 2, .int .i64 (s : Nat), .int .i64 0, .int .u64 0] from B2.out.set P.out 1 (.int .i64 (s : Nat)))
    go_upto_region 4 with fail
    obtain ⟨x2, hx⟩ : ∃ x2, x2 = w2.setCell ⟨g, 1, none⟩ (.int .i64 (s : Nat)) := ⟨_, rfl⟩
    rw [← hx] at A2 ⊢
    clear hx k0 z0 c0 B2 A1
    have c0 := A2.out.2.1.cell 0
    go_wp2_with fail
    refine (refint_any k c A bs hlen hby p2 e2 x2 A2.out.1).mono ?_
    rintro r w3 ⟨q, p3, e3, rfl, hS, hO, hqb, hP⟩
    have HP3 := Lib.hid hP
    have B3 := Lib.hid (A2.out.step P.out hO hS)
    clear hS hO hP c0
    have c0 := B3.out.2.1.cell 0
    have k0 := B3.out.2.1.cell 2
    have z0 := B3.out.2.1.frozen 2
    have A3 := Lib.hid (show AtG 35 #[.int .i64 0, .int .i64 0, .int .i64 0, .int .u64 0] k g c A bs W _ p3 e3 #[.int .i64 2, .int .i64 (s : Nat), .int .i64 q, .int .u64 0] from B3.out.set P.out 2 (.int .i64 q))
    go_upto_region 6 with fail
    obtain ⟨x3, hx⟩ : ∃ x3, x3 = w3.setCell ⟨g, 2, none⟩ (.int .i64 q) := ⟨_, rfl⟩
    rw [← hx] at A3 ⊢
    clear hx k0 z0 c0 B3 A2
    have HP4 := Lib.hid (PostP.pure (0 : Nat) bs p3 e3)
    have HPOST := Lib.hid (op_post (k := 2) (s := s) (q := q) (b := 0) HP1.out (by exact HP2.out) (by exact HP3.out) (by exact HP4.out))
    obtain ⟨o, ho⟩ : ∃ o, o = OpR.mk ((2 : Nat) : Int) ((s : Nat) : Int) q 0 := ⟨_, rfl⟩
    rw [← ho] at HPOST
    have AF := Lib.hid (show AtG 35 #[.int .i64 0, .int .i64 0, .int .i64 0, .int .u64 0] k g c A bs W x3 p3 e3 o.plain.toArray from by rw [ho, plain_arr]; exact A3.out)
    clear ho
    have c0 := A3.out.2.1.cell 0
    go_upto_region 8 with fail
    clear c0 A3
    obtain ⟨_, _, c2, cz⟩ := AF.out.1.cells
    have z2 := cz 2
    have rgl := AF.out.2.1.range
    clear cz
    by_cases he6 : e3 = 0
    · have HE6 := Lib.hid he6
      rw [he6] at c2
      clear he6
      go_wp2_with (first | (refine wpList_load_midg (by rfl) 35 _ rfl _ _ rfl (OpR.plain o) _ rgl Try.underlying35 rfl (pinfoL6 _) ?_))
      refine (rmay6_any o x3).mono ?_
      rintro r x7 ⟨rfl, hb⟩
      have A7 := Lib.hid (AF.out.next P.out hb)
      clear hb c2 z2 rgl AF
      rw [rmayB_eq]
      cases hr : mayO o with
      | true =>
        have HL := Lib.hid (show e = 0 ∧ opP (bs.drop p) = .ok (o, bs.drop p3) from by have := HPOST.out.1 HE6.out; rwa [hr, if_pos rfl] at this)
        have rgl := A7.out.2.1.range
        have bg := A7.out.2.2.1
        clear hr
        go_wp2_with (first | (refine wpList_load_midg (by rfl) 35 _ rfl _ _ rfl (OpR.plain o) _ rgl Try.underlying35 rfl (pinfoL6 _) ?_) | (refine wpList_store_blk rfl 35 _ _ rfl W.heap.size 35 _ o.plain.toArray rfl rfl bg (pinfoA6 _) (plain_siz o) (plain_one o) ?_; intro hrow))
        refine bodyPost_row (t := 35) o.plain.toArray rfl rfl rfl Try.underlying35 rfl (pinfoA6 _) hrow ?_
        exact ⟨o, p3, e3, rfl, (A7.out.res P.out _).1, (A7.out.res P.out _).2, by rw [HL.out.1, HE6.out]; exact PostP.good HL.out.2 rfl rfl⟩
      | false =>
        have HL := Lib.hid (show e = 0 ∧ opP (bs.drop p) = .error 3 from by have := HPOST.out.1 HE6.out; rw [hr] at this; exact this)
        obtain ⟨_, _, c2, cz⟩ := A7.out.1.cells
        have z2 := cz 2
        have A8 := Lib.hid (show AtG 35 #[.int .i64 0, .int .i64 0, .int .i64 0, .int .u64 0] k g c A bs W (x7.setCell ⟨k, 2, none⟩ (.int .i64 3)) p3 3 o.plain.toArray from A7.out.step P.out ((Off.refl k x7).set 2 _) (A7.out.1.setE 3))
        have rgl := A8.out.2.1.range
        have bg := A8.out.2.2.1
        clear hr cz
        go_wp2_with (first | (refine wpList_load_midg (by rfl) 35 _ rfl _ _ rfl (OpR.plain o) _ rgl Try.underlying35 rfl (pinfoL6 _) ?_) | (refine wpList_store_blk rfl 35 _ _ rfl W.heap.size 35 _ o.plain.toArray rfl rfl bg (pinfoA6 _) (plain_siz o) (plain_one o) ?_; intro hrow))
        refine bodyPost_row (t := 35) o.plain.toArray rfl rfl rfl Try.underlying35 rfl (pinfoA6 _) hrow ?_
        exact ⟨o, p3, 3, rfl, (A8.out.res P.out _).1, (A8.out.res P.out _).2, by rw [HL.out.1]; exact PostP.err HL.out.2 (by decide)⟩
    · have f1 : (e3 == 0) = false := by simpa using he6
      have HE6 := Lib.hid he6
      have bg := AF.out.2.2.1
      clear he6
      go_wp2_with (first | (refine wpList_load_midg (by rfl) 35 _ rfl _ _ rfl (OpR.plain o) _ rgl Try.underlying35 rfl (pinfoL6 _) ?_) | (refine wpList_store_blk rfl 35 _ _ rfl W.heap.size 35 _ o.plain.toArray rfl rfl bg (pinfoA6 _) (plain_siz o) (plain_one o) ?_; intro hrow))
      refine bodyPost_row (t := 35) o.plain.toArray rfl rfl rfl Try.underlying35 rfl (pinfoA6 _) hrow ?_
      refine ⟨o, p3, e3, rfl, (AF.out.res P.out _).1, (AF.out.res P.out _).2, fun _ => HE6.out, fun h0 => ?_⟩
      obtain ⟨y, hy⟩ := HPOST.out.2 HE6.out h0
      rw [hy]
      exact HE6.out
  · have c0 := A1.out.2.1.cell 0
    have c0 := A1.out.2.1.cell 0
    go_wp2_with fail
    refine (refsmall_any k c A bs hlen hby 40 (by decide) p1 e1 x1 A1.out.1).mono ?_
    rintro r w2 ⟨s, p2, e2, rfl, hS, hO, hs40, hP⟩
    have HP2 := Lib.hid hP
    have B2 := Lib.hid (A1.out.step P.out hO hS)
    clear hS hO hP c0
    have c0 := B2.out.2.1.cell 0
    have k0 := B2.out.2.1.cell 1
    have z0 := B2.out.2.1.frozen 1
    have A2 := Lib.hid (show AtG 35 #[.int .i64 0, .int .i64 0, .int .i64 0, .int .u64 0] k g c A bs W _ p2 e2 #[.int .i64 3, .int .i64 (s : Nat), .int .i64 0, .int .u64 0] from B2.out.set P.out 1 (.int .i64 (s : Nat)))
    go_upto_region 4 with fail
    obtain ⟨x2, hx⟩ : ∃ x2, x2 = w2.setCell ⟨g, 1, none⟩ (.int .i64 (s : Nat)) := ⟨_, rfl⟩
    rw [← hx] at A2 ⊢
    clear hx k0 z0 c0 B2 A1
    have HP3 := Lib.hid (PostP.pure (0 : Int) bs p2 e2)
    have HP4 := Lib.hid (PostP.pure (0 : Nat) bs p2 e2)
    have HPOST := Lib.hid (op_post (k := 3) (s := s) (q := 0) (b := 0) HP1.out (by exact HP2.out) (by exact HP3.out) (by exact HP4.out))
    obtain ⟨o, ho⟩ : ∃ o, o = OpR.mk ((3 : Nat) : Int) ((s : Nat) : Int) 0 0 := ⟨_, rfl⟩
    rw [← ho] at HPOST
    have AF := Lib.hid (show AtG 35 #[.int .i64 0, .int .i64 0, .int .i64 0, .int .u64 0] k g c A bs W x2 p2 e2 o.plain.toArray from by rw [ho, plain_arr]; exact A2.out)
    clear ho
    have c0 := A2.out.2.1.cell 0
    go_upto_region 8 with fail
    clear c0 A2
    obtain ⟨_, _, c2, cz⟩ := AF.out.1.cells
    have z2 := cz 2
    have rgl := AF.out.2.1.range
    clear cz
    by_cases he6 : e2 = 0
    · have HE6 := Lib.hid he6
      rw [he6] at c2
      clear he6
      go_wp2_with (first | (refine wpList_load_midg (by rfl) 35 _ rfl _ _ rfl (OpR.plain o) _ rgl Try.underlying35 rfl (pinfoL6 _) ?_))
      refine (rmay6_any o x2).mono ?_
      rintro r x7 ⟨rfl, hb⟩
      have A7 := Lib.hid (AF.out.next P.out hb)
      clear hb c2 z2 rgl AF
      rw [rmayB_eq]
      cases hr : mayO o with
      | true =>
        have HL := Lib.hid (show e = 0 ∧ opP (bs.drop p) = .ok (o, bs.drop p2) from by have := HPOST.out.1 HE6.out; rwa [hr, if_pos rfl] at this)
        have rgl := A7.out.2.1.range
        have bg := A7.out.2.2.1
        clear hr
        go_wp2_with (first | (refine wpList_load_midg (by rfl) 35 _ rfl _ _ rfl (OpR.plain o) _ rgl Try.underlying35 rfl (pinfoL6 _) ?_) | (refine wpList_store_blk rfl 35 _ _ rfl W.heap.size 35 _ o.plain.toArray rfl rfl bg (pinfoA6 _) (plain_siz o) (plain_one o) ?_; intro hrow))
        refine bodyPost_row (t := 35) o.plain.toArray rfl rfl rfl Try.underlying35 rfl (pinfoA6 _) hrow ?_
        exact ⟨o, p2, e2, rfl, (A7.out.res P.out _).1, (A7.out.res P.out _).2, by rw [HL.out.1, HE6.out]; exact PostP.good HL.out.2 rfl rfl⟩
      | false =>
        have HL := Lib.hid (show e = 0 ∧ opP (bs.drop p) = .error 3 from by have := HPOST.out.1 HE6.out; rw [hr] at this; exact this)
        obtain ⟨_, _, c2, cz⟩ := A7.out.1.cells
        have z2 := cz 2
        have A8 := Lib.hid (show AtG 35 #[.int .i64 0, .int .i64 0, .int .i64 0, .int .u64 0] k g c A bs W (x7.setCell ⟨k, 2, none⟩ (.int .i64 3)) p2 3 o.plain.toArray from A7.out.step P.out ((Off.refl k x7).set 2 _) (A7.out.1.setE 3))
        have rgl := A8.out.2.1.range
        have bg := A8.out.2.2.1
        clear hr cz
        go_wp2_with (first | (refine wpList_load_midg (by rfl) 35 _ rfl _ _ rfl (OpR.plain o) _ rgl Try.underlying35 rfl (pinfoL6 _) ?_) | (refine wpList_store_blk rfl 35 _ _ rfl W.heap.size 35 _ o.plain.toArray rfl rfl bg (pinfoA6 _) (plain_siz o) (plain_one o) ?_; intro hrow))
        refine bodyPost_row (t := 35) o.plain.toArray rfl rfl rfl Try.underlying35 rfl (pinfoA6 _) hrow ?_
        exact ⟨o, p2, 3, rfl, (A8.out.res P.out _).1, (A8.out.res P.out _).2, by rw [HL.out.1]; exact PostP.err HL.out.2 (by decide)⟩
    · have f1 : (e2 == 0) = false := by simpa using he6
      have HE6 := Lib.hid he6
      have bg := AF.out.2.2.1
      clear he6
      go_wp2_with (first | (refine wpList_load_midg (by rfl) 35 _ rfl _ _ rfl (OpR.plain o) _ rgl Try.underlying35 rfl (pinfoL6 _) ?_) | (refine wpList_store_blk rfl 35 _ _ rfl W.heap.size 35 _ o.plain.toArray rfl rfl bg (pinfoA6 _) (plain_siz o) (plain_one o) ?_; intro hrow))
      refine bodyPost_row (t := 35) o.plain.toArray rfl rfl rfl Try.underlying35 rfl (pinfoA6 _) hrow ?_
      refine ⟨o, p2, e2, rfl, (AF.out.res P.out _).1, (AF.out.res P.out _).2, fun _ => HE6.out, fun h0 => ?_⟩
      obtain ⟨y, hy⟩ := HPOST.out.2 HE6.out h0
      rw [hy]
      exact HE6.out
  · have c0 := A1.out.2.1.cell 0
    have HP2 := Lib.hid (PostP.pure (0 : Nat) bs p1 e1)
    have HP3 := Lib.hid (PostP.pure (0 : Int) bs p1 e1)
    have HP4 := Lib.hid (PostP.pure (0 : Nat) bs p1 e1)
    have HPOST := Lib.hid (op_post (k := 4) (s := 0) (q := 0) (b := 0) HP1.out (by exact HP2.out) (by exact HP3.out) (by exact HP4.out))
    obtain ⟨o, ho⟩ : ∃ o, o = OpR.mk ((4 : Nat) : Int) ((0 : Nat) : Int) 0 0 := ⟨_, rfl⟩
    rw [← ho] at HPOST
    have AF := Lib.hid (show AtG 35 #[.int .i64 0, .int .i64 0, .int .i64 0, .int .u64 0] k g c A bs W x1 p1 e1 o.plain.toArray from by rw [ho, plain_arr]; exact A1.out)
    clear ho
    have c0 := A1.out.2.1.cell 0
    go_upto_region 8 with fail
    clear c0 A1
    obtain ⟨_, _, c2, cz⟩ := AF.out.1.cells
    have z2 := cz 2
    have rgl := AF.out.2.1.range
    clear cz
    by_cases he6 : e1 = 0
    · have HE6 := Lib.hid he6
      rw [he6] at c2
      clear he6
      go_wp2_with (first | (refine wpList_load_midg (by rfl) 35 _ rfl _ _ rfl (OpR.plain o) _ rgl Try.underlying35 rfl (pinfoL6 _) ?_))
      refine (rmay6_any o x1).mono ?_
      rintro r x7 ⟨rfl, hb⟩
      have A7 := Lib.hid (AF.out.next P.out hb)
      clear hb c2 z2 rgl AF
      rw [rmayB_eq]
      cases hr : mayO o with
      | true =>
        have HL := Lib.hid (show e = 0 ∧ opP (bs.drop p) = .ok (o, bs.drop p1) from by have := HPOST.out.1 HE6.out; rwa [hr, if_pos rfl] at this)
        have rgl := A7.out.2.1.range
        have bg := A7.out.2.2.1
        clear hr
        go_wp2_with (first | (refine wpList_load_midg (by rfl) 35 _ rfl _ _ rfl (OpR.plain o) _ rgl Try.underlying35 rfl (pinfoL6 _) ?_) | (refine wpList_store_blk rfl 35 _ _ rfl W.heap.size 35 _ o.plain.toArray rfl rfl bg (pinfoA6 _) (plain_siz o) (plain_one o) ?_; intro hrow))
        refine bodyPost_row (t := 35) o.plain.toArray rfl rfl rfl Try.underlying35 rfl (pinfoA6 _) hrow ?_
        exact ⟨o, p1, e1, rfl, (A7.out.res P.out _).1, (A7.out.res P.out _).2, by rw [HL.out.1, HE6.out]; exact PostP.good HL.out.2 rfl rfl⟩
      | false =>
        have HL := Lib.hid (show e = 0 ∧ opP (bs.drop p) = .error 3 from by have := HPOST.out.1 HE6.out; rw [hr] at this; exact this)
        obtain ⟨_, _, c2, cz⟩ := A7.out.1.cells
        have z2 := cz 2
        have A8 := Lib.hid (show AtG 35 #[.int .i64 0, .int .i64 0, .int .i64 0, .int .u64 0] k g c A bs W (x7.setCell ⟨k, 2, none⟩ (.int .i64 3)) p1 3 o.plain.toArray from A7.out.step P.out ((Off.refl k x7).set 2 _) (A7.out.1.setE 3))
        have rgl := A8.out.2.1.range
        have bg := A8.out.2.2.1
        clear hr cz
        go_wp2_with (first | (refine wpList_load_midg (by rfl) 35 _ rfl _ _ rfl (OpR.plain o) _ rgl Try.underlying35 rfl (pinfoL6 _) ?_) | (refine wpList_store_blk rfl 35 _ _ rfl W.heap.size 35 _ o.plain.toArray rfl rfl bg (pinfoA6 _) (plain_siz o) (plain_one o) ?_; intro hrow))
        refine bodyPost_row (t := 35) o.plain.toArray rfl rfl rfl Try.underlying35 rfl (pinfoA6 _) hrow ?_
        exact ⟨o, p1, 3, rfl, (A8.out.res P.out _).1, (A8.out.res P.out _).2, by rw [HL.out.1]; exact PostP.err HL.out.2 (by decide)⟩
    · have f1 : (e1 == 0) = false := by simpa using he6
      have HE6 := Lib.hid he6
      have bg := AF.out.2.2.1
      clear he6
      go_wp2_with (first | (refine wpList_load_midg (by rfl) 35 _ rfl _ _ rfl (OpR.plain o) _ rgl Try.underlying35 rfl (pinfoL6 _) ?_) | (refine wpList_store_blk rfl 35 _ _ rfl W.heap.size 35 _ o.plain.toArray rfl rfl bg (pinfoA6 _) (plain_siz o) (plain_one o) ?_; intro hrow))
      refine bodyPost_row (t := 35) o.plain.toArray rfl rfl rfl Try.underlying35 rfl (pinfoA6 _) hrow ?_
      refine ⟨o, p1, e1, rfl, (AF.out.res P.out _).1, (AF.out.res P.out _).2, fun _ => HE6.out, fun h0 => ?_⟩
      obtain ⟨y, hy⟩ := HPOST.out.2 HE6.out h0
      rw [hy]
      exact HE6.out
  · have c0 := A1.out.2.1.cell 0
    have c0 := A1.out.2.1.cell 0
    go_wp2_with fail
    refine (refsmall_any k c A bs hlen hby 40 (by decide) p1 e1 x1 A1.out.1).mono ?_
    rintro r w2 ⟨s, p2, e2, rfl, hS, hO, hs40, hP⟩
    have HP2 := Lib.hid hP
    have B2 := Lib.hid (A1.out.step P.out hO hS)
    clear hS hO hP c0
    have c0 := B2.out.2.1.cell 0
    have k0 := B2.out.2.1.cell 1
    have z0 := B2.out.2.1.frozen 1
    have A2 := Lib.hid (show AtG 35 #[.int .i64 0, .int .i64 0, .int .i64 0, .int .u64 0] k g c A bs W _ p2 e2 #[.int .i64 5, .int .i64 (s : Nat), .int .i64 0, .int .u64 0] from B2.out.set P.out 1 (.int .i64 (s : Nat)))
    go_upto_region 4 with fail
    obtain ⟨x2, hx⟩ : ∃ x2, x2 = w2.setCell ⟨g, 1, none⟩ (.int .i64 (s : Nat)) := ⟨_, rfl⟩
    rw [← hx] at A2 ⊢
    clear hx k0 z0 c0 B2 A1
    have c0 := A2.out.2.1.cell 0
    go_wp2_with fail
    refine (refint_any k c A bs hlen hby p2 e2 x2 A2.out.1).mono ?_
    rintro r w3 ⟨q, p3, e3, rfl, hS, hO, hqb, hP⟩
    have HP3 := Lib.hid hP
    have B3 := Lib.hid (A2.out.step P.out hO hS)
    clear hS hO hP c0
    have c0 := B3.out.2.1.cell 0
    have k0 := B3.out.2.1.cell 2
    have z0 := B3.out.2.1.frozen 2
    have A3 := Lib.hid (show AtG 35 #[.int .i64 0, .int .i64 0, .int .i64 0, .int .u64 0] k g c A bs W _ p3 e3 #[.int .i64 5, .int .i64 (s : Nat), .int .i64 q, .int .u64 0] from B3.out.set P.out 2 (.int .i64 q))
    go_upto_region 6 with fail
    obtain ⟨x3, hx⟩ : ∃ x3, x3 = w3.setCell ⟨g, 2, none⟩ (.int .i64 q) := ⟨_, rfl⟩
    rw [← hx] at A3 ⊢
    clear hx k0 z0 c0 B3 A2
    have HP4 := Lib.hid (PostP.pure (0 : Nat) bs p3 e3)
    have HPOST := Lib.hid (op_post (k := 5) (s := s) (q := q) (b := 0) HP1.out (by exact HP2.out) (by exact HP3.out) (by exact HP4.out))
    obtain ⟨o, ho⟩ : ∃ o, o = OpR.mk ((5 : Nat) : Int) ((s : Nat) : Int) q 0 := ⟨_, rfl⟩
    rw [← ho] at HPOST
    have AF := Lib.hid (show AtG 35 #[.int .i64 0, .int .i64 0, .int .i64 0, .int .u64 0] k g c A bs W x3 p3 e3 o.plain.toArray from by rw [ho, plain_arr]; exact A3.out)
    clear ho
    have c0 := A3.out.2.1.cell 0
    go_upto_region 8 with fail
    clear c0 A3
    obtain ⟨_, _, c2, cz⟩ := AF.out.1.cells
    have z2 := cz 2
    have rgl := AF.out.2.1.range
    clear cz
    by_cases he6 : e3 = 0
    · have HE6 := Lib.hid he6
      rw [he6] at c2
      clear he6
      go_wp2_with (first | (refine wpList_load_midg (by rfl) 35 _ rfl _ _ rfl (OpR.plain o) _ rgl Try.underlying35 rfl (pinfoL6 _) ?_))
      refine (rmay6_any o x3).mono ?_
      rintro r x7 ⟨rfl, hb⟩
      have A7 := Lib.hid (AF.out.next P.out hb)
      clear hb c2 z2 rgl AF
      rw [rmayB_eq]
      cases hr : mayO o with
      | true =>
        have HL := Lib.hid (show e = 0 ∧ opP (bs.drop p) = .ok (o, bs.drop p3) from by have := HPOST.out.1 HE6.out; rwa [hr, if_pos rfl] at this)
        have rgl := A7.out.2.1.range
        have bg := A7.out.2.2.1
        clear hr
        go_wp2_with (first | (refine wpList_load_midg (by rfl) 35 _ rfl _ _ rfl (OpR.plain o) _ rgl Try.underlying35 rfl (pinfoL6 _) ?_) | (refine wpList_store_blk rfl 35 _ _ rfl W.heap.size 35 _ o.plain.toArray rfl rfl bg (pinfoA6 _) (plain_siz o) (plain_one o) ?_; intro hrow))
        refine bodyPost_row (t := 35) o.plain.toArray rfl rfl rfl Try.underlying35 rfl (pinfoA6 _) hrow ?_
        exact ⟨o, p3, e3, rfl, (A7.out.res P.out _).1, (A7.out.res P.out _).2, by rw [HL.out.1, HE6.out]; exact PostP.good HL.out.2 rfl rfl⟩
      | false =>
        have HL := Lib.hid (show e = 0 ∧ opP (bs.drop p) = .error 3 from by have := HPOST.out.1 HE6.out; rw [hr] at this; exact this)
        obtain ⟨_, _, c2, cz⟩ := A7.out.1.cells
        have z2 := cz 2
        have A8 := Lib.hid (show AtG 35 #[.int .i64 0, .int .i64 0, .int .i64 0, .int .u64 0] k g c A bs W (x7.setCell ⟨k, 2, none⟩ (.int .i64 3)) p3 3 o.plain.toArray from A7.out.step P.out ((Off.refl k x7).set 2 _) (A7.out.1.setE 3))
        have rgl := A8.out.2.1.range
        have bg := A8.out.2.2.1
        clear hr cz
        go_wp2_with (first | (refine wpList_load_midg (by rfl) 35 _ rfl _ _ rfl (OpR.plain o) _ rgl Try.underlying35 rfl (pinfoL6 _) ?_) | (refine wpList_store_blk rfl 35 _ _ rfl W.heap.size 35 _ o.plain.toArray rfl rfl bg (pinfoA6 _) (plain_siz o) (plain_one o) ?_; intro hrow))
        refine bodyPost_row (t := 35) o.plain.toArray rfl rfl rfl Try.underlying35 rfl (pinfoA6 _) hrow ?_
        exact ⟨o, p3, 3, rfl, (A8.out.res P.out _).1, (A8.out.res P.out _).2, by rw [HL.out.1]; exact PostP.err HL.out.2 (by decide)⟩
    · have f1 : (e3 == 0) = false := by simpa using he6
      have HE6 := Lib.hid he6
      have bg := AF.out.2.2.1
      clear he6
      go_wp2_with (first | (refine wpList_load_midg (by rfl) 35 _ rfl _ _ rfl (OpR.plain o) _ rgl Try.underlying35 rfl (pinfoL6 _) ?_) | (refine wpList_store_blk rfl 35 _ _ rfl W.heap.size 35 _ o.plain.toArray rfl rfl bg (pinfoA6 _) (plain_siz o) (plain_one o) ?_; intro hrow))
      refine bodyPost_row (t := 35) o.plain.toArray rfl rfl rfl Try.underlying35 rfl (pinfoA6 _) hrow ?_
      refine ⟨o, p3, e3, rfl, (AF.out.res P.out _).1, (AF.out.res P.out _).2, fun _ => HE6.out, fun h0 => ?_⟩
      obtain ⟨y, hy⟩ := HPOST.out.2 HE6.out h0
      rw [hy]
      exact HE6.out
  · have c0 := A1.out.2.1.cell 0
    have c0 := A1.out.2.1.cell 0
    go_wp2_with fail
    refine (refsmall_any k c A bs hlen hby 40 (by decide) p1 e1 x1 A1.out.1).mono ?_
    rintro r w2 ⟨s, p2, e2, rfl, hS, hO, hs40, hP⟩
    have HP2 := Lib.hid hP
    have B2 := Lib.hid (A1.out.step P.out hO hS)
    clear hS hO hP c0
    have c0 := B2.out.2.1.cell 0
    have k0 := B2.out.2.1.cell 1
    have z0 := B2.out.2.1.frozen 1
    have A2 := Lib.hid (show AtG 35 #[.int .i64 0, .int .i64 0, .int .i64 0, .int .u64 0] k g c A bs W _ p2 e2 #[.int .i64 6, .int .i64 (s : Nat), .int .i64 0, .int .u64 0] from B2.out.set P.out 1 (.int .i64 (s : Nat)))
    go_upto_region 4 with fail
    obtain ⟨x2, hx⟩ : ∃ x2, x2 = w2.setCell ⟨g, 1, none⟩ (.int .i64 (s : Nat)) := ⟨_, rfl⟩
    rw [← hx] at A2 ⊢
    clear hx k0 z0 c0 B2 A1
    have HP3 := Lib.hid (PostP.pure (0 : Int) bs p2 e2)
    have c0 := A2.out.2.1.cell 0
    go_wp2_with fail
    refine (reffloat_any k c A bs hlen hc hby p2 e2 x2 A2.out.1).mono ?_
    rintro r w4 ⟨b, p4, e4, rfl, hS, hO, hP⟩
    have HP4 := Lib.hid hP
    have B4 := Lib.hid (A2.out.step P.out hO hS)
    clear hS hO hP c0
    have c0 := B4.out.2.1.cell 0
    have k0 := B4.out.2.1.cell 3
    have z0 := B4.out.2.1.frozen 3
    have A4 := Lib.hid (show AtG 35 #[.int .i64 0, .int .i64 0, .int .i64 0, .int .u64 0] k g c A bs W _ p4 e4 #[.int .i64 6, .int .i64 (s : Nat), .int .i64 0, .int .u64 (b : Nat)] from B4.out.set P.out 3 (.int .u64 (b : Nat)))
    go_upto_region 8 with fail
    obtain ⟨x4, hx⟩ : ∃ x4, x4 = w4.setCell ⟨g, 3, none⟩ (.int .u64 (b : Nat)) := ⟨_, rfl⟩
    rw [← hx] at A4 ⊢
    clear hx k0 z0 c0 B4 A2
    have HPOST := Lib.hid (op_post (k := 6) (s := s) (q := 0) (b := b) HP1.out (by exact HP2.out) (by exact HP3.out) (by exact HP4.out))
    obtain ⟨o, ho⟩ : ∃ o, o = OpR.mk ((6 : Nat) : Int) ((s : Nat) : Int) 0 b := ⟨_, rfl⟩
    rw [← ho] at HPOST
    have AF := Lib.hid (show AtG 35 #[.int .i64 0, .int .i64 0, .int .i64 0, .int .u64 0] k g c A bs W x4 p4 e4 o.plain.toArray from by rw [ho, plain_arr]; exact A4.out)
    clear ho
    have c0 := A4.out.2.1.cell 0
    go_upto_region 8 with fail
    clear c0 A4
    obtain ⟨_, _, c2, cz⟩ := AF.out.1.cells
    have z2 := cz 2
    have rgl := AF.out.2.1.range
    clear cz
    by_cases he6 : e4 = 0
    · have HE6 := Lib.hid he6
      rw [he6] at c2
      clear he6
      go_wp2_with (first | (refine wpList_load_midg (by rfl) 35 _ rfl _ _ rfl (OpR.plain o) _ rgl Try.underlying35 rfl (pinfoL6 _) ?_))
      refine (rmay6_any o x4).mono ?_
      rintro r x7 ⟨rfl, hb⟩
      have A7 := Lib.hid (AF.out.next P.out hb)
      clear hb c2 z2 rgl AF
      rw [rmayB_eq]
      cases hr : mayO o with
      | true =>
        have HL := Lib.hid (show e = 0 ∧ opP (bs.drop p) = .ok (o, bs.drop p4) from by have := HPOST.out.1 HE6.out; rwa [hr, if_pos rfl] at this)
        have rgl := A7.out.2.1.range
        have bg := A7.out.2.2.1
        clear hr
        go_wp2_with (first | (refine wpList_load_midg (by rfl) 35 _ rfl _ _ rfl (OpR.plain o) _ rgl Try.underlying35 rfl (pinfoL6 _) ?_) | (refine wpList_store_blk rfl 35 _ _ rfl W.heap.size 35 _ o.plain.toArray rfl rfl bg (pinfoA6 _) (plain_siz o) (plain_one o) ?_; intro hrow))
        refine bodyPost_row (t := 35) o.plain.toArray rfl rfl rfl Try.underlying35 rfl (pinfoA6 _) hrow ?_
        exact ⟨o, p4, e4, rfl, (A7.out.res P.out _).1, (A7.out.res P.out _).2, by rw [HL.out.1, HE6.out]; exact PostP.good HL.out.2 rfl rfl⟩
      | false =>
        have HL := Lib.hid (show e = 0 ∧ opP (bs.drop p) = .error 3 from by have := HPOST.out.1 HE6.out; rw [hr] at this; exact this)
        obtain ⟨_, _, c2, cz⟩ := A7.out.1.cells
        have z2 := cz 2
        have A8 := Lib.hid (show AtG 35 #[.int .i64 0, .int .i64 0, .int .i64 0, .int .u64 0] k g c A bs W (x7.setCell ⟨k, 2, none⟩ (.int .i64 3)) p4 3 o.plain.toArray from A7.out.step P.out ((Off.refl k x7).set 2 _) (A7.out.1.setE 3))
        have rgl := A8.out.2.1.range
        have bg := A8.out.2.2.1
        clear hr cz
        go_wp2_with (first | (refine wpList_load_midg (by rfl) 35 _ rfl _ _ rfl (OpR.plain o) _ rgl Try.underlying35 rfl (pinfoL6 _) ?_) | (refine wpList_store_blk rfl 35 _ _ rfl W.heap.size 35 _ o.plain.toArray rfl rfl bg (pinfoA6 _) (plain_siz o) (plain_one o) ?_; intro hrow))
        refine bodyPost_row (t := 35) o.plain.toArray rfl rfl rfl Try.underlying35 rfl (pinfoA6 _) hrow ?_
        exact ⟨o, p4, 3, rfl, (A8.out.res P.out _).1, (A8.out.res P.out _).2, by rw [HL.out.1]; exact PostP.err HL.out.2 (by decide)⟩
    · have f1 : (e4 == 0) = false := by simpa using he6
      have HE6 := Lib.hid he6
      have bg := AF.out.2.2.1
      clear he6
      go_wp2_with (first | (refine wpList_load_midg (by rfl) 35 _ rfl _ _ rfl (OpR.plain o) _ rgl Try.underlying35 rfl (pinfoL6 _) ?_) | (refine wpList_store_blk rfl 35 _ _ rfl W.heap.size 35 _ o.plain.toArray rfl rfl bg (pinfoA6 _) (plain_siz o) (plain_one o) ?_; intro hrow))
      refine bodyPost_row (t := 35) o.plain.toArray rfl rfl rfl Try.underlying35 rfl (pinfoA6 _) hrow ?_
      refine ⟨o, p4, e4, rfl, (AF.out.res P.out _).1, (AF.out.res P.out _).2, fun _ => HE6.out, fun h0 => ?_⟩
      obtain ⟨y, hy⟩ := HPOST.out.2 HE6.out h0
      rw [hy]
      exact HE6.out
end Go.Proofs.Yteplplmfepamdaa
