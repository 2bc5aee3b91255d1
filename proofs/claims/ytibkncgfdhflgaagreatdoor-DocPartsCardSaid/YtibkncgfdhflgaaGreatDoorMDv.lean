/-
  doc's parser in memory; its tokens.
-/
import Derived.Test.YtibkncgfdhflgaaGreatDoorMDm
import Derived.Test.YtibkncgfdhflgaaGreatDoorMVAt
import Derived.Lib.BufferMore
import Derived.Test.YtibkncgfdhflgaaGreatDoorMAw
namespace Go.Proofs.YtibkncgfdhflgaaGreatDoor
open Go.RowKit

/-- What stays the same all along: blocks below N are older than the parse, the parser lies in block R, its tokens in a row at a, the text has z bytes. -/
structure Cx where
  N : Nat
  R : Nat
  a : Option Addr
  cap : Nat
  ts : List Tk
  z : Nat

def prCells (c : Cx) (k m p : Nat) (er wr : Nat) : Obj := .cells #[.slice c.a m c.cap, .int .i64 (p : Int), .int .i64 (c.z : Int), .int .i64 (k : Int), .int .i64 (er : Int), .int .i64 (wr : Int)] 67 (0, 0)

/-- The parser with k sets open, in state s. -/
structure Pv (c : Cx) (k : Nat) (s : Ms) (w : World) : Prop where
  bk : ∃ m p, w.heap[c.R]? = some (prCells c k m p s.er s.wr) ∧ p ≤ m ∧ m ≤ c.ts.length ∧ (c.ts.take m).drop p = s.l
  bad : Bad s
  tk : 0 < c.ts.length → ∃ g, c.a = some ⟨g, 0, none⟩ ∧ g ≠ c.R ∧ g < c.N ∧ ∀ j u, (tkCells c.ts)[j]? = some u → w.cell? ⟨g, j, none⟩ = some u
  tn : c.ts.length = 0 → c.a = none ∨ ∃ g, c.a = some ⟨g, 0, none⟩
  hN : c.N ≤ w.heap.size
  hR : c.R < c.N
  hc : c.ts.length ≤ c.cap
  hs : c.ts.length ≤ 600
  hz : c.z ≤ 4000
  hk : k ≤ 100
  sz : ∀ t ∈ c.ts, t.s.length ≤ 1000000

theorem Pv.lt {c : Cx} {k : Nat} {s : Ms} {w : World} (h : Pv c k s w) : c.R < w.heap.size := Nat.lt_of_lt_of_le h.hR h.hN
/-- Nothing below N has changed. -/
theorem Pv.keep {c : Cx} {k : Nat} {s : Ms} {w w' : World} (h : Pv c k s w) (hb : ∀ b, b < c.N → w'.heap[b]? = w.heap[b]?) (hN : c.N ≤ w'.heap.size) : Pv c k s w' := by
  refine ⟨?_, h.bad, fun h0 => ?_, h.tn, hN, h.hR, h.hc, h.hs, h.hz, h.hk, h.sz⟩
  · obtain ⟨m, p, h1, h2⟩ := h.bk
    exact ⟨m, p, (hb _ h.hR).trans h1, h2⟩
  · obtain ⟨g, e, hg, hl, hcell⟩ := h.tk h0
    exact ⟨g, e, hg, hl, fun j u hj => (World.cell?_of_block (a := ⟨g, j, none⟩) (hb g hl)).trans (hcell j u hj)⟩
theorem Pv.below {c : Cx} {k : Nat} {s : Ms} {w w' : World} {n : Nat} (h : Pv c k s w) (hb : Below n w w') (hn : c.N ≤ n) : Pv c k s w' :=
  h.keep (fun b hl => hb.block b (by omega)) (Nat.le_trans h.hN hb.size)
theorem Pv.alloc {c : Cx} {k : Nat} {s : Ms} {w : World} (h : Pv c k s w) (o : Obj) : Pv c k s (w.alloc o) := h.below ((Below.refl _ w).alloc (Nat.le_refl _) o) h.hN
theorem Pv.set {c : Cx} {k : Nat} {s : Ms} {w : World} (h : Pv c k s w) {q : Addr} (hq : c.N ≤ q.block) (v : Value) : Pv c k s (w.setCell q v) :=
  h.keep (fun b hl => Below.heap_setCell _ _ _ _ (by omega)) (by simpa [World.setCell] using h.hN)
theorem Pv.drewN {c : Cx} {k : Nat} {s : Ms} {w : World} (h : Pv c k s w) (n : Nat) : Pv c k s (w.drewN n) := h.keep (fun _ _ => rfl) h.hN
/-- The parser's own block has been written, nothing else below N. -/
theorem Pv.turn {c : Cx} {k k' : Nat} {s s' : Ms} {w w' : World} (h : Pv c k s w) {m p : Nat} (hb : w'.heap[c.R]? = some (prCells c k' m p s'.er s'.wr)) (hp : p ≤ m) (hm : m ≤ c.ts.length) (hl : (c.ts.take m).drop p = s'.l)
    (hbad : Bad s') (hk : k' ≤ 100) (ho : ∀ b, b < c.N → b ≠ c.R → w'.heap[b]? = w.heap[b]?) (hN : c.N ≤ w'.heap.size) : Pv c k' s' w' := by
  refine ⟨⟨m, p, hb, hp, hm, hl⟩, hbad, fun h0 => ?_, h.tn, hN, h.hR, h.hc, h.hs, h.hz, hk, h.sz⟩
  obtain ⟨g, e, hg, hlt, hcell⟩ := h.tk h0
  exact ⟨g, e, hg, hlt, fun j u hj => (World.cell?_of_block (a := ⟨g, j, none⟩) (ho g hlt hg)).trans (hcell j u hj)⟩

/-- What a call leaves: the parser in state s; nothing older has changed but it. -/
def Pw (c : Cx) (k : Nat) (s : Ms) (w w' : World) : Prop := Pv c k s w' ∧ Aw c.R w.heap.size w w'
theorem Pw.of {c : Cx} {k : Nat} {s : Ms} {w w' : World} (h : Pv c k s w) (hb : Below w.heap.size w w') : Pw c k s w w' := ⟨h.below hb h.hN, .of hb⟩

theorem prCell {c : Cx} {k m p er wr : Nat} {w : World} (h : w.heap[c.R]? = some (prCells c k m p er wr)) :
    w.cell? ⟨c.R, 0, none⟩ = some (.slice c.a m c.cap) ∧ w.cell? ⟨c.R, 1, none⟩ = some (.int .i64 (p : Int)) ∧ w.cell? ⟨c.R, 2, none⟩ = some (.int .i64 (c.z : Int)) ∧ w.cell? ⟨c.R, 3, none⟩ = some (.int .i64 (k : Int)) ∧
    w.cell? ⟨c.R, 4, none⟩ = some (.int .i64 (er : Int)) ∧ w.cell? ⟨c.R, 5, none⟩ = some (.int .i64 (wr : Int)) ∧ ∀ j, w.frozen? ⟨c.R, j, none⟩ = false :=
  ⟨Lib.cell_of_heap h 0, Lib.cell_of_heap h 1, Lib.cell_of_heap h 2, Lib.cell_of_heap h 3, Lib.cell_of_heap h 4, Lib.cell_of_heap h 5, fun j => by
    simp [World.frozen?, h, prCells]⟩

theorem hdT_nil : hdT [] = ⟨0, [], 0⟩ := rfl
theorem take_drop_get {ts : List Tk} {m p : Nat} (hp : p < m) (hm : m ≤ ts.length) : ∃ r, (ts.take m).drop p = ts[p]'(by omega) :: r ∧ r = (ts.take m).drop (p + 1) := by
  have hl : p < (ts.take m).length := by rw [List.length_take]; omega
  refine ⟨_, ?_, rfl⟩
  rw [List.drop_eq_getElem_cons hl, List.getElem_take]
theorem take_drop_len {ts : List Tk} {m p : Nat} (hm : m ≤ ts.length) : ((ts.take m).drop p).length = m - p := by rw [List.length_drop, List.length_take]; omega

/-- The token ahead lies there; at the end there is none. -/
theorem Pv.tok {c : Cx} {k : Nat} {s : Ms} {w : World} (h : Pv c k s w) {m p : Nat} (hp : p ≤ m) (hm : m ≤ c.ts.length) (hl : (c.ts.take m).drop p = s.l) :
    (p = m ∧ s.l = []) ∨ (p < m ∧ ∃ t g, hdT s.l = t ∧ s.l = t :: s.l.tail ∧ s.l.tail = (c.ts.take m).drop (p + 1) ∧ c.a = some ⟨g, 0, none⟩ ∧ g < w.heap.size ∧ t.s.length ≤ 1000000 ∧ w.cell? ⟨g, p * 3, none⟩ = some (.int .i64 t.k) ∧ w.cell? ⟨g, p * 3 + 1, none⟩ = some (.string ⟨t.s.toArray⟩) ∧ w.cell? ⟨g, p * 3 + 2, none⟩ = some (.int .i64 t.at_)) := by
  by_cases he : p = m
  · left
    refine ⟨he, ?_⟩
    rw [← hl, he, List.drop_eq_nil_of_le (by rw [List.length_take]; omega)]
  · right
    have hlt : p < m := by omega
    obtain ⟨r, e1, e2⟩ := take_drop_get hlt hm
    obtain ⟨g, ha, _, hgN, hc⟩ := h.tk (by omega)
    obtain ⟨k0, k1, k2⟩ := tkCells_at c.ts p c.ts[p] (List.getElem?_eq_getElem (by omega))
    have hl1 : s.l = c.ts[p] :: r := hl.symm.trans e1
    refine ⟨hlt, c.ts[p], g, by rw [hl1]; rfl, by rw [hl1]; rfl, by rw [hl1]; exact e2, ha, Nat.lt_of_lt_of_le hgN h.hN, h.sz _ (List.getElem_mem (by omega)), hc _ _ k0, hc _ _ k1, hc _ _ k2⟩

set_option maxHeartbeats 2000000 in
set_option maxRecDepth 100000 in
theorem ptoken_any {c : Cx} {k : Nat} {s : Ms} (w : World) (h : Pv c k s w) : Calls Tryz.prog 126 #[.pointer (some ⟨c.R, 0, none⟩)] w fun e w' => e = .returned (.agg #[.int .i64 (hdT s.l).k, .string ⟨(hdT s.l).s.toArray⟩, .int .i64 (hdT s.l).at_]) ∧ Below w.heap.size w w' := by
  have hRlt := h.lt
  have hA := h.alloc (.cells #[.int .i64 0, .string ⟨#[]⟩, .int .i64 0] 83)
  obtain ⟨m, p, hbk, hp, hm, hl⟩ := hA.bk
  have hx := hA.tok hp hm hl
  obtain ⟨c0, c1, -, -, -, -, -⟩ := prCell hbk
  have hs := h.hs
  have hc := h.hc
  have hbA : Below w.heap.size w (w.alloc (.cells #[.int .i64 0, .string ⟨#[]⟩, .int .i64 0] 83)) := (Below.refl _ w).alloc (Nat.le_refl _) _
  clear hA hbk hl h
  rcases hx with ⟨he, hst⟩ | ⟨hlt, t, g, ht, -, -, ha, hg, hsz, g0, g1, g2⟩
  · have e1 : ((p : Int) == (m : Int)) = true := by simp; omega
    rw [hst]
    clear he hst
    go_enter Tryz.func126, Tryz.ntmps126
    go_upto_region 1 with fail
    go_quiet (fail)
    go_wp2_with fail
    refine bodyPost_ret (v := .agg #[.int .i64 0, .string ⟨#[]⟩, .int .i64 0]) (by simp [results, Tryz.results126, go_sem]) rfl ?_
    exact ⟨rfl, below_three (below_drewN hbA _) _ _ _⟩
  · have e1 : ((p : Int) == (m : Int)) = false := by simp; omega
    rw [ht]
    rw [ha] at c0
    have hmc : m ≤ c.cap := by omega
    clear ht ha hm hc
    generalize c.cap = cp at *
    go_enter Tryz.func126, Tryz.ntmps126
    go_upto_region 1 with fail
    go_quiet (fail)
    go_upto_region 3 with fail
    go_region
    all_goals
      go_wp2_with fail
      refine bodyPost_ret (v := .agg #[.int .i64 t.k, .string ⟨t.s.toArray⟩, .int .i64 t.at_]) (by simp [results, Tryz.results126, go_sem]) rfl ?_
      exact ⟨rfl, below_three (below_drewN hbA _) _ _ _⟩

set_option maxHeartbeats 1000000 in
set_option maxRecDepth 100000 in
theorem dSign_any (t : Tk) (g : List UInt8) (w : World) : Calls Tryz.prog 132 #[.agg #[.int .i64 t.k, .string ⟨t.s.toArray⟩, .int .i64 t.at_], .string ⟨g.toArray⟩] w fun e w' => e = .returned (.bool (isSg g t)) ∧ Below w.heap.size w w' := by
  have hbA : ∀ o, Below w.heap.size w (w.alloc o) := fun o => (Below.refl _ w).alloc (Nat.le_refl _) o
  cases hk : ((t.k : Int) == 5) with
  | false =>
    have HS := Lib.hid (show isSg g t = false by unfold isSg; rw [show (t.k == 5) = false by simp at hk ⊢; omega]; rfl)
    go_enter Tryz.func132, Tryz.ntmps132
    go_wp2_with fail
    go_ret
    exact ⟨by rw [HS.out]; rfl, hbA _⟩
  | true =>
    have HS := Lib.hid (show isSg g t = (t.s == g) by unfold isSg; rw [show (t.k == 5) = true by simp at hk ⊢; omega]; rfl)
    go_enter Tryz.func132, Tryz.ntmps132
    go_wp2_with fail
    go_ret
    refine ⟨?_, hbA _⟩
    rw [HS.out]; rfl

end Go.Proofs.YtibkncgfdhflgaaGreatDoor

/-
  doc's parser: what stands next, what is taken, what is wrong.
-/
namespace Go.Proofs.YtibkncgfdhflgaaGreatDoor
open Go.RowKit

set_option maxRecDepth 100000 in
theorem pSign_any {c : Cx} {k : Nat} {s : Ms} (g : List UInt8) (w : World) (h : Pv c k s w) : Calls Tryz.prog 91 #[.pointer (some ⟨c.R, 0, none⟩), .string ⟨g.toArray⟩] w fun e w' => e = .returned (.bool (isSg g (hdT s.l))) ∧ Below w.heap.size w w' := by
  have HT := ptoken_any w h
  clear h
  generalize hdT s.l = t at *
  go_enter Tryz.func91, Tryz.ntmps91
  go_wp2_with fail
  refine HT.mono ?_
  rintro e w1 ⟨rfl, hb⟩
  go_wp2_with fail
  refine (dSign_any t g w1).mono ?_
  rintro e w2 ⟨rfl, hb2⟩
  go_wp2_with fail
  go_ret
  exact ⟨rfl, hb.trans (hb2.mono hb.size)⟩

theorem kBeq (n : Nat) (m : Nat) : ((n : Int) == (m : Int)) = (n == m) := by
  rw [Bool.eq_iff_iff, beq_iff_eq, beq_iff_eq]; omega

theorem tokField (k0 : Int) (s0 : ByteArray) (a0 : Int) (W : World) : (Instr.field 83 (.agg #[.int .i64 k0, .string s0, .int .i64 a0]) 0).run Tryz.prog W = .ok (.int .i64 k0) W := by kernel_rfl
theorem tokField1 (k0 : Int) (s0 : ByteArray) (a0 : Int) (W : World) : (Instr.field 83 (.agg #[.int .i64 k0, .string s0, .int .i64 a0]) 1).run Tryz.prog W = .ok (.string s0) W := by kernel_rfl
set_option maxRecDepth 100000 in
theorem pName_any {c : Cx} {k : Nat} {s : Ms} (w : World) (h : Pv c k s w) : Calls Tryz.prog 125 #[.pointer (some ⟨c.R, 0, none⟩)] w fun e w' => e = .returned (.bool ((hdT s.l).k == 1)) ∧ Below w.heap.size w w' := by
  have HT := ptoken_any w h
  clear h
  generalize hdT s.l = t at *
  have HK := Lib.hid (kBeq t.k 1)
  have HF := tokField t.k ⟨t.s.toArray⟩ t.at_
  go_enter Tryz.func125, Tryz.ntmps125
  go_wp2_with fail
  refine HT.mono ?_
  rintro e w1 ⟨rfl, hb⟩
  go_wp2_with fail
  go_ret
  exact ⟨by rw [← HK.out]; rfl, hb⟩

set_option maxRecDepth 100000 in
theorem pWord_any {c : Cx} {k : Nat} {s : Ms} (g : List UInt8) (w : World) (h : Pv c k s w) : Calls Tryz.prog 85 #[.pointer (some ⟨c.R, 0, none⟩), .string ⟨g.toArray⟩] w fun e w' => e = .returned (.bool (isWd g (hdT s.l))) ∧ Below w.heap.size w w' := by
  have HN := pName_any w h
  have HT := fun W hb => ptoken_any W (h.below (n := w.heap.size) hb h.hN)
  clear h
  unfold isWd
  generalize hdT s.l = t at *
  have HF := tokField1 t.k ⟨t.s.toArray⟩ t.at_
  cases hk : (t.k == 1) with
  | false =>
    rw [hk] at HN
    clear hk
    go_enter Tryz.func85, Tryz.ntmps85
    go_wp2_with fail
    refine HN.mono ?_
    rintro e w1 ⟨rfl, hb⟩
    go_wp2_with fail
    go_ret
    exact ⟨rfl, hb⟩
  | true =>
    rw [hk] at HN
    clear hk
    go_enter Tryz.func85, Tryz.ntmps85
    go_wp2_with fail
    refine HN.mono ?_
    rintro e w1 ⟨rfl, hb⟩
    go_wp2_with fail
    refine (HT w1 hb).mono ?_
    rintro e w2 ⟨rfl, hb2⟩
    go_wp2_with fail
    go_ret
    exact ⟨rfl, hb.trans (hb2.mono hb.size)⟩

/-- The parser behind a token. -/
theorem Pv.next {c : Cx} {k : Nat} {s : Ms} {w : World} (h : Pv c k s w) {m p : Nat} (hbk : w.heap[c.R]? = some (prCells c k m p s.er s.wr)) (hm : m ≤ c.ts.length) (hl : (c.ts.take m).drop p = s.l) (hp : p < m) :
    Pw c k (tlM s) w (w.setCell ⟨c.R, 1, none⟩ (.int .i64 ((p : Int) + 1))) := by
  refine ⟨h.turn (m := m) (p := p + 1) ?_ (by omega) hm ?_ (bad_tl h.bad) h.hk (fun b _ hb => Below.heap_setCell _ _ _ _ hb) (by simpa [World.setCell] using h.hN), (Aw.refl _ _ _).set _⟩
  · rw [Lib.heap_setCell_same hbk]; rfl
  · show _ = s.l.tail
    rw [← hl, List.tail_drop]

theorem sg_pos {c : Cx} {k : Nat} {s : Ms} {w : World} (h : Pv c k s w) {m p : Nat} (hp : p ≤ m) (hm : m ≤ c.ts.length) (hl : (c.ts.take m).drop p = s.l) (hk : (hdT s.l).k ≠ 0) : p < m := by
  rcases h.tok hp hm hl with ⟨_, e⟩ | ⟨h, _⟩
  · rw [e] at hk; exact absurd rfl hk
  · exact h

set_option maxHeartbeats 1000000 in
set_option maxRecDepth 100000 in
theorem pTakeSign_any {c : Cx} {k : Nat} {s : Ms} (g : List UInt8) (w : World) (h : Pv c k s w) : Calls Tryz.prog 128 #[.pointer (some ⟨c.R, 0, none⟩), .string ⟨g.toArray⟩] w fun e w' => e = .returned (.bool (isSg g (hdT s.l))) ∧ Pw c k (if isSg g (hdT s.l) then tlM s else s) w w' := by
  have HS := pSign_any g w h
  cases hi : isSg g (hdT s.l) with
  | false =>
    rw [hi] at HS
    have HH := Lib.hid h
    clear h hi
    go_enter Tryz.func128, Tryz.ntmps128
    go_wp2_with fail
    refine HS.mono ?_
    rintro e w1 ⟨rfl, hb⟩
    go_wp2_with fail
    go_ret
    exact ⟨rfl, .of HH.out hb⟩
  | true =>
    rw [hi] at HS
    have hk5 : (hdT s.l).k ≠ 0 := by
      unfold isSg at hi
      rw [Bool.and_eq_true, beq_iff_eq] at hi
      rw [hi.1]; decide
    have HH := Lib.hid h
    have hs := h.hs
    clear hi
    go_enter Tryz.func128, Tryz.ntmps128
    go_wp2_with fail
    refine HS.mono ?_
    rintro e w1 ⟨rfl, hb⟩
    have h1 := h.below hb h.hN
    obtain ⟨m, p, hbk, hp, hm, hl⟩ := h1.bk
    have hlt := sg_pos h1 hp hm hl hk5
    have HN := Lib.hid (h1.next hbk hm hl hlt)
    obtain ⟨-, c1, -, -, -, -, fz⟩ := prCell hbk
    have hw : IntKind.i64.wrap ((p : Int) + 1) = (p : Int) + 1 := IntWalk.i64_in _ (by omega)
    have hRl := h1.lt
    clear h h1 HS hk5 hbk hl hm hp hlt hs
    go_wp2_with fail
    go_ret
    exact ⟨rfl, HN.out.1, (Aw.of hb).trans (HN.out.2.mono hb.size)⟩

set_option maxHeartbeats 1000000 in
set_option maxRecDepth 100000 in
theorem pTakeWord_any {c : Cx} {k : Nat} {s : Ms} (g : List UInt8) (w : World) (h : Pv c k s w) : Calls Tryz.prog 63 #[.pointer (some ⟨c.R, 0, none⟩), .string ⟨g.toArray⟩] w fun e w' => e = .returned (.bool (isWd g (hdT s.l))) ∧ Pw c k (if isWd g (hdT s.l) then tlM s else s) w w' := by
  have HS := pWord_any g w h
  cases hi : isWd g (hdT s.l) with
  | false =>
    rw [hi] at HS
    have HH := Lib.hid h
    clear h hi
    go_enter Tryz.func63, Tryz.ntmps63
    go_wp2_with fail
    refine HS.mono ?_
    rintro e w1 ⟨rfl, hb⟩
    go_wp2_with fail
    go_ret
    exact ⟨rfl, .of HH.out hb⟩
  | true =>
    rw [hi] at HS
    have hk5 : (hdT s.l).k ≠ 0 := by
      unfold isWd at hi
      rw [Bool.and_eq_true, beq_iff_eq] at hi
      rw [hi.1]; decide
    have HH := Lib.hid h
    have hs := h.hs
    clear hi
    go_enter Tryz.func63, Tryz.ntmps63
    go_wp2_with fail
    refine HS.mono ?_
    rintro e w1 ⟨rfl, hb⟩
    have h1 := h.below hb h.hN
    obtain ⟨m, p, hbk, hp, hm, hl⟩ := h1.bk
    have hlt := sg_pos h1 hp hm hl hk5
    have HN := Lib.hid (h1.next hbk hm hl hlt)
    obtain ⟨-, c1, -, -, -, -, fz⟩ := prCell hbk
    have hw : IntKind.i64.wrap ((p : Int) + 1) = (p : Int) + 1 := IntWalk.i64_in _ (by omega)
    have hRl := h1.lt
    clear h h1 HS hk5 hbk hl hm hp hlt hs
    go_wp2_with fail
    go_ret
    exact ⟨rfl, HN.out.1, (Aw.of hb).trans (HN.out.2.mono hb.size)⟩

theorem below_draw {B : Nat} {a w : World} (h : Below B a w) (n : Nat) : Below B a (w.drewN n) := below_drewN h n

/-- The parser behind its first fault. -/
theorem Pv.failed {c : Cx} {k e x : Nat} {s : Ms} {w W : World} (h : Pv c k s w) (h0 : s.er = 0) {m p : Nat} (hm : m ≤ c.ts.length) (hp : p ≤ m) (hx : W.heap[c.R]? = some (prCells c k p p e x)) (hxe : x = plM c.z s.l)
    (ho : ∀ b, b ≠ c.R → W.heap[b]? = w.heap[b]?) (hW : W.heap.size = w.heap.size) (os : W.os = w.os) (tp : W.tape = w.tape) (out : W.output = w.output) : Pw c k (failM c.z e s) w W := by
  have hf : failM c.z e s = ⟨[], e, x⟩ := by rw [failM, if_pos h0, hxe]
  rw [hf]
  refine ⟨h.turn (m := p) (p := p) hx (Nat.le_refl _) (by omega) ?_ (fun _ => rfl) h.hk (fun b _ hb => ho b hb) (by rw [hW]; exact h.hN), os, tp, out, by omega, fun b _ hb => ho b hb⟩
  exact List.drop_eq_nil_of_le (by rw [List.length_take]; omega)

theorem slice_all (T : TypeId) (hu : Tryz.prog.underlying T = some (.slice 83)) (a : Option Addr) (ha : a = none ∨ ∃ g, a = some ⟨g, 0, none⟩) (m cap p : Nat) (hp : p ≤ cap) (wx : World) :
    (Instr.slice T (.slice a m cap) none (some (.int .i64 (p : Int))) none).run Tryz.prog wx = .ok (.slice a p cap) wx := by
  have he : Tryz.prog.elem T = 83 := by simp [Program.elem, hu]
  have h1 := run_slice_h (P := Tryz.prog) (w := wx) T a m cap (by rw [he]; exact hu) .i64 (p : Int) (by omega) (by omega)
  refine h1.trans ?_
  rw [he]
  rcases ha with rfl | ⟨g, rfl⟩
  · simp [go_sem, sliced]
  · simp [go_sem, sliced, Addr.add]

end Go.Proofs.YtibkncgfdhflgaaGreatDoor

/-
  doc's parser: a fault; what must stand next.
-/
namespace Go.Proofs.YtibkncgfdhflgaaGreatDoor
open Go.RowKit

theorem Pv.addr {c : Cx} {k : Nat} {s : Ms} {w : World} (h : Pv c k s w) : c.a = none ∨ ∃ g, c.a = some ⟨g, 0, none⟩ := by
  by_cases h0 : 0 < c.ts.length
  · obtain ⟨g, e, _⟩ := h.tk h0
    exact .inr ⟨g, e⟩
  · exact h.tn (by omega)

theorem cell_of_other {w : World} {q : Addr} {v : Value} {b o : Nat} (h : b ≠ q.block) : (w.setCell q v).cell? ⟨b, o, none⟩ = w.cell? ⟨b, o, none⟩ := World.cell?_of_block (a := ⟨b, o, none⟩) (Below.heap_setCell _ _ _ _ h)

set_option maxHeartbeats 4000000 in
set_option maxRecDepth 100000 in
theorem pFail_any {c : Cx} {k : Nat} {s : Ms} (e : Nat) (w : World) (h : Pv c k s w) : Calls Tryz.prog 127 #[.pointer (some ⟨c.R, 0, none⟩), .int .i64 (e : Int)] w fun x w' => x = .returned (.tuple #[]) ∧ Pw c k (failM c.z e s) w w' := by
  obtain ⟨m, p, hbk, hp, hm, hl⟩ := h.bk
  have hRlt := h.lt
  have HH := Lib.hid h
  have hx := h.tok hp hm hl
  have HA := h.addr
  have hc := h.hc
  have hs := h.hs
  have hpc : p ≤ c.cap := by omega
  by_cases he : s.er = 0
  · have HSL := slice_all 62 Tryz.underlying62 c.a HA m c.cap p hpc
    obtain ⟨c0, c1, c2, -, c4, c5, fz⟩ := prCell hbk
    rw [he] at c4
    rcases hx with ⟨hpm, hst⟩ | ⟨hlt, t, g, ht, htl, -, ha, hg, hsz, g0, g1, g2⟩
    · have hd : decide ((p : Int) < (m : Int)) = false := decide_eq_false (by omega)
      have hd2 : decide (p < m) = false := decide_eq_false (by omega)
      have HN := fun (W : World) (hW1 : W.heap = ((((w.setCell ⟨c.R, 4, none⟩ (.int .i64 e)).setCell ⟨c.R, 5, none⟩ (.int .i64 c.z)).setCell ⟨c.R, 0, none⟩ (.slice c.a p c.cap))).heap) (h2 : W.os = w.os) (h3 : W.tape = w.tape) (h4 : W.output = w.output) =>
        h.failed (e := e) (x := c.z) (W := W) he hm hp (by rw [hW1, Lib.heap_setCell_same (Lib.heap_setCell_same (Lib.heap_setCell_same hbk _) _)]; rfl) (by rw [hst]; rfl) (fun b hb => by rw [hW1, Below.heap_setCell _ _ _ _ hb, Below.heap_setCell _ _ _ _ hb, Below.heap_setCell _ _ _ _ hb]) (by rw [hW1]; simp [World.setCell]) h2 h3 h4
      have HNN := Lib.hid HN
      clear h hbk hl hm hp hc hs hst hpm he HN HA hpc HH
      go_enter Tryz.func127, Tryz.ntmps127
      go_upto_region 3 with fail
      go_quiet (fail)
      go_upto_region 5 with fail
      go_region
      all_goals
        go_wp2_with fail
        go_end0
        exact ⟨rfl, HNN.out _ rfl rfl rfl rfl⟩
    · have hd : decide ((p : Int) < (m : Int)) = true := decide_eq_true (by omega)
      have hd2 : decide (p < m) = true := decide_eq_true (by omega)
      have hgR : g ≠ c.R := by
        obtain ⟨g', e', hgR, _⟩ := h.tk (by omega)
        rw [ha] at e'
        injection e' with e'
        injection e' with e' _ _
        rw [e']; exact hgR
      have HN := fun (W : World) (hW1 : W.heap = ((((w.setCell ⟨c.R, 4, none⟩ (.int .i64 e)).setCell ⟨c.R, 5, none⟩ (.int .i64 c.z)).setCell ⟨c.R, 5, none⟩ (.int .i64 t.at_)).setCell ⟨c.R, 0, none⟩ (.slice c.a p c.cap)).heap) (h2 : W.os = w.os) (h3 : W.tape = w.tape) (h4 : W.output = w.output) =>
        h.failed (e := e) (x := t.at_) (W := W) he hm hp (by rw [hW1, Lib.heap_setCell_same (Lib.heap_setCell_same (Lib.heap_setCell_same (Lib.heap_setCell_same hbk _) _) _)]; rfl) (by rw [htl]; rfl) (fun b hb => by rw [hW1, Below.heap_setCell _ _ _ _ hb, Below.heap_setCell _ _ _ _ hb, Below.heap_setCell _ _ _ _ hb, Below.heap_setCell _ _ _ _ hb]) (by rw [hW1]; simp [World.setCell]) h2 h3 h4
      have HNN := Lib.hid HN
      have hmc : m ≤ c.cap := by omega
      rw [ha] at c0 HSL
      have HAA := Lib.hid ha
      clear h hbk hl hm hp hc hs he HN HA hpc htl ht g0 g1 hsz HH ha
      go_enter Tryz.func127, Tryz.ntmps127
      go_upto_region 3 with fail
      go_quiet (fail)
      go_upto_region 4 with fail
      go_region
      all_goals
        go_upto_region 5 with fail
        go_region
        all_goals
          go_wp2_with fail
          go_end0
          exact ⟨rfl, HNN.out _ (by rw [HAA.out]; rfl) rfl rfl rfl⟩
  · obtain ⟨-, -, -, -, c4, -, -⟩ := prCell hbk
    have hd : ((s.er : Int) != 0) = true := by simp; omega
    have HX := Lib.hid (show Pw c k (failM c.z e s) w w from by
      rw [failM, if_neg he]
      exact .of h (Below.refl _ _))
    clear h hbk hl hm hp hx HA hc hs hpc he HH
    go_enter Tryz.func127, Tryz.ntmps127
    go_wp2_with fail
    refine bodyPost_ret (v := .tuple #[]) (results_none rfl _ _ _) rfl ?_
    exact ⟨rfl, HX.out⟩

end Go.Proofs.YtibkncgfdhflgaaGreatDoor

/-
  Documents in memory: what a slice of records holds, as plain lists; such a slice as it grows.
-/
namespace Go.Proofs.YtibkncgfdhflgaaGreatDoor
open Go.RowKit

/-! ### what is read is a piece of what stood ahead -/
theorem tail_le {α : Type} (l : List α) : l.tail.length ≤ l.length := by rw [List.length_tail]; omega
theorem list_le (V : List Sk → VR) (hV : ∀ l, (V l).2.1.length ≤ l.length) : ∀ (n : Nat) (l : List Sk) (xs : List JV), (vListGo V n l xs).2.1.length ≤ l.length
  | 0, _, _ => Nat.le_refl _
  | n + 1, l, xs => by
    unfold vListGo
    split
    · exact tail_le l
    · split
      · exact Nat.le_trans (list_le V hV n _ _) (hV l)
      · exact hV l
theorem obj_le (V : List Sk → VR) (hV : ∀ l, (V l).2.1.length ≤ l.length) : ∀ (n : Nat) (l : List Sk) (ns : List ByteArray) (xs : List JV), (vObjGo V n l ns xs).2.1.length ≤ l.length
  | 0, _, _, _ => Nat.le_refl _
  | n + 1, l, ns, xs => by
    have h5 : l.tail.tail.length ≤ l.length := by rw [List.length_tail, List.length_tail]; omega
    unfold vObjGo
    split
    · exact tail_le l
    · split
      · split
        · split
          · exact Nat.le_trans (obj_le V hV n _ _ _) (Nat.le_trans (hV _) h5)
          · exact Nat.le_trans (hV _) h5
        · exact tail_le l
      · exact Nat.le_refl _
theorem pvT_le : ∀ (f : Nat) (l : List Sk), (pvT f l).2.1.length ≤ l.length
  | 0, l => by
    unfold pvT
    split
    · exact tail_le l
    · split
      · exact Nat.le_trans (var_le _) (tail_le l)
      · split <;> exact Nat.le_refl _
  | f + 1, l => by
    unfold pvT
    split
    · exact tail_le l
    · split
      · exact Nat.le_trans (var_le _) (tail_le l)
      · split
        · exact Nat.le_trans (list_le _ (pvT_le f) _ _ _) (tail_le l)
        · split
          · exact Nat.le_trans (obj_le _ (pvT_le f) _ _ _ _) (tail_le l)
          · exact Nat.le_refl _
theorem opensL_le : ∀ (k : Nat) (l : List Sk), (opensL k l).length ≤ l.length
  | 0, _ => Nat.le_refl _
  | k + 1, l => by
    unfold opensL
    split
    · exact Nat.le_trans (opensL_le k _) (tail_le l)
    · exact Nat.le_refl _
theorem bang_le (l : List Sk) : (bangP l).2.length ≤ l.length := by
  unfold bangP
  split
  · exact tail_le l
  · exact Nat.le_refl _
theorem tyEnds_le : ∀ (n : Nat) (l : List Sk) (ws : List UInt8) (q : List UInt8 × List Sk), tyEnds n l ws = some q → q.2.length ≤ l.length
  | 0, l, ws, q, h => by
    unfold tyEnds at h
    injection h with h
    rw [← h]; exact Nat.le_refl _
  | n + 1, l, ws, q, h => by
    unfold tyEnds at h
    split at h
    · exact Nat.le_trans (tyEnds_le n _ _ q h) (Nat.le_trans (bang_le _) (tail_le l))
    · cases h
theorem type_le {l : List Sk} {nm ws : List UInt8} {r : List Sk} (h : typeP l = some (nm, ws, r)) : r.length ≤ l.length := by
  unfold typeP at h
  split at h
  · cases ht : tyEnds (opensN 12 l) (bangP (opensL 12 l).tail).2 (bangP (opensL 12 l).tail).1 with
    | none => rw [ht] at h; cases h
    | some q =>
      rw [ht] at h
      injection h with h
      have h2 := tyEnds_le _ _ _ _ ht
      rw [show r = q.2 from (congrArg (fun x => x.2.2) h).symm]
      exact Nat.le_trans h2 (Nat.le_trans (bang_le _) (Nat.le_trans (tail_le _) (opensL_le 12 l)))
  · cases h

/-! ### records -/
abbrev ElemR (α : Type) := World → (Nat → Prop) → α → List Value → Prop
/-- A slice of records of sz cells each reads as xs, through blocks that D names. -/
def RowD {α : Type} (E : ElemR α) (sz : Nat) (w : World) (D : Nat → Prop) (xs : List α) (v : Value) : Prop :=
  ∃ a cap, v = .slice a xs.length cap ∧ xs.length ≤ 1000000 ∧ xs.length ≤ cap ∧ (0 < xs.length → ∃ g off, a = some ⟨g, off, none⟩ ∧ D g ∧
    ∀ i x, xs[i]? = some x → ∃ cs : List Value, cs.length = sz ∧ (∀ k u, cs[k]? = some u → w.cell? ⟨g, off + i * sz + k, none⟩ = some u) ∧ E w D x cs)
/-- What holds of a record's cells where nothing that it reads has changed; how many cells it has. -/
structure ElemOk {α : Type} (E : ElemR α) (sz : Nat) : Prop where
  step : ∀ {w w' : World} {D D' : Nat → Prop} {x : α} {cs : List Value}, (∀ b, D b → D' b) → (∀ b o, D b → w'.cell? ⟨b, o, none⟩ = w.cell? ⟨b, o, none⟩) → E w D x cs → E w' D' x cs
  len : ∀ {w : World} {D : Nat → Prop} {x : α} {cs : List Value}, E w D x cs → cs.length = sz
  one : ∀ {w : World} {D : Nat → Prop} {x : α} {cs : List Value}, E w D x cs → ∀ u ∈ cs, u.oneCell' = true

theorem RowD.step {α : Type} {E : ElemR α} {sz : Nat} (hE : ElemOk E sz) {w w' : World} {D D' : Nat → Prop} {xs : List α} {v : Value} (hD : ∀ b, D b → D' b) (hk : ∀ b o, D b → w'.cell? ⟨b, o, none⟩ = w.cell? ⟨b, o, none⟩)
    (h : RowD E sz w D xs v) : RowD E sz w' D' xs v := by
  obtain ⟨a, cap, e, h1, h2, hr⟩ := h
  refine ⟨a, cap, e, h1, h2, fun hp => ?_⟩
  obtain ⟨g, off, e, hg, hc⟩ := hr hp
  refine ⟨g, off, e, hD g hg, fun i x hx => ?_⟩
  obtain ⟨cs, hl, hcs, hR⟩ := hc i x hx
  exact ⟨cs, hl, fun k u hu => (hk g _ hg).trans (hcs k u hu), hE.step hD hk hR⟩
theorem RowD.nil {α : Type} {E : ElemR α} {sz : Nat} {w : World} {D : Nat → Prop} : RowD E sz w D [] (.slice none 0 0) := ⟨none, 0, rfl, Nat.zero_le _, Nat.le_refl _, fun h => absurd h (Nat.lt_irrefl 0)⟩
theorem RowD.shape {α : Type} {E : ElemR α} {sz : Nat} {w : World} {D : Nat → Prop} {xs : List α} {v : Value} (h : RowD E sz w D xs v) : ∃ a cap, v = .slice a xs.length cap := by
  obtain ⟨a, cap, e, _⟩ := h
  exact ⟨a, cap, e⟩

def ArgE : ElemR ArgT := fun w D x cs => x.1.length ≤ 1000000 ∧ ∃ c0 c1 c2 c3, cs = [.string ⟨x.1.toArray⟩, c0, c1, c2, c3] ∧ RdD w D 13 x.2 (.agg #[c0, c1, c2, c3])
def DirE : ElemR DirT := fun w D x cs => x.1.length ≤ 1000000 ∧ ∃ v, cs = [.string ⟨x.1.toArray⟩, v] ∧ RowD ArgE 5 w D x.2 v
def SelE : Nat → ElemR SelT
  | 0 => fun _ _ _ _ => False
  | n + 1 => fun w D x cs => (x.al.length ≤ 1000000 ∧ x.nm.length ≤ 1000000 ∧ x.on_.length ≤ 1000000) ∧ ∃ va vd vs, cs = [.int .i64 (x.k : Int), .string ⟨x.al.toArray⟩, .string ⟨x.nm.toArray⟩, .string ⟨x.on_.toArray⟩, va, vd, vs] ∧ RowD ArgE 5 w D x.args va ∧ RowD DirE 2 w D x.dirs vd ∧ RowD (SelE n) 7 w D x.sels vs
def VarE : ElemR VarT := fun w D x cs => (x.nm.length ≤ 1000000) ∧ ∃ c0 c1 c2 c3, cs = [.string ⟨x.nm.toArray⟩, .string ⟨x.ty.1.toArray⟩, .string ⟨x.ty.2.toArray⟩, c0, c1, c2, c3] ∧ RdD w D 13 x.dflt (.agg #[c0, c1, c2, c3])
def OpE : ElemR OpT := fun w D x cs => x.nm.length ≤ 1000000 ∧ ∃ vv vd vs, cs = [.bool x.mut_, .string ⟨x.nm.toArray⟩, vv, vd, vs] ∧ RowD VarE 7 w D x.vars vv ∧ RowD DirE 2 w D x.dirs vd ∧ RowD (SelE 12) 7 w D x.sels vs
def FragE : ElemR FragT := fun w D x cs => (x.nm.length ≤ 1000000 ∧ x.on_.length ≤ 1000000) ∧ ∃ vd vs, cs = [.string ⟨x.nm.toArray⟩, .string ⟨x.on_.toArray⟩, vd, vs] ∧ RowD DirE 2 w D x.dirs vd ∧ RowD (SelE 12) 7 w D x.sels vs
def DocE (w : World) (D : Nat → Prop) (x : DocT) (v : Value) : Prop := ∃ vo vf, v = .agg #[vo, vf] ∧ RowD OpE 5 w D x.ops vo ∧ RowD FragE 4 w D x.frags vf

theorem rd_one {w : World} {D : Nat → Prop} {n : Nat} {x : JV} {c0 c1 c2 c3 : Value} (h : RdD w D n x (.agg #[c0, c1, c2, c3])) : c0.oneCell' = true ∧ c1.oneCell' = true ∧ c2.oneCell' = true ∧ c3.oneCell' = true := by
  obtain ⟨an, cn, ap, cp, e⟩ := h.shape
  injection e with e
  have e' := congrArg Array.toList e
  simp at e'
  obtain ⟨rfl, rfl, rfl, rfl⟩ := e'
  exact ⟨rfl, rfl, rfl, rfl⟩
theorem row_one {α : Type} {E : ElemR α} {sz : Nat} {w : World} {D : Nat → Prop} {xs : List α} {v : Value} (h : RowD E sz w D xs v) : v.oneCell' = true := by
  obtain ⟨a, cap, rfl⟩ := h.shape
  rfl
theorem argOk : ElemOk ArgE 5 := by
  refine ⟨fun hD hk h => ?_, fun h => ?_, fun h => ?_⟩
  · obtain ⟨h1, c0, c1, c2, c3, e, hR⟩ := h
    exact ⟨h1, c0, c1, c2, c3, e, RdD.step hD hk hR⟩
  · obtain ⟨_, c0, c1, c2, c3, rfl, _⟩ := h; rfl
  · obtain ⟨_, c0, c1, c2, c3, rfl, hR⟩ := h
    obtain ⟨o0, o1, o2, o3⟩ := rd_one hR
    intro u hu
    simp at hu
    rcases hu with rfl | rfl | rfl | rfl | rfl
    · rfl
    · exact o0
    · exact o1
    · exact o2
    · exact o3
theorem dirOk : ElemOk DirE 2 := by
  refine ⟨fun hD hk h => ?_, fun h => ?_, fun h => ?_⟩
  · obtain ⟨h1, v, e, hR⟩ := h
    exact ⟨h1, v, e, RowD.step argOk hD hk hR⟩
  · obtain ⟨_, v, rfl, _⟩ := h; rfl
  · obtain ⟨_, v, rfl, hR⟩ := h
    intro u hu
    simp at hu
    rcases hu with rfl | rfl
    · rfl
    · exact row_one hR
theorem selOk : ∀ n, ElemOk (SelE n) 7
  | 0 => ⟨fun _ _ h => h.elim, fun h => h.elim, fun h => h.elim⟩
  | n + 1 => by
    refine ⟨fun hD hk h => ?_, fun h => ?_, fun h => ?_⟩
    · obtain ⟨h1, va, vd, vs, e, ha, hd, hs⟩ := h
      exact ⟨h1, va, vd, vs, e, RowD.step argOk hD hk ha, RowD.step dirOk hD hk hd, RowD.step (selOk n) hD hk hs⟩
    · obtain ⟨_, va, vd, vs, rfl, _⟩ := h; rfl
    · obtain ⟨_, va, vd, vs, rfl, ha, hd, hs⟩ := h
      intro u hu
      simp at hu
      rcases hu with rfl | rfl | rfl | rfl | rfl | rfl | rfl
      · rfl
      · rfl
      · rfl
      · rfl
      · exact row_one ha
      · exact row_one hd
      · exact row_one hs
theorem varOk : ElemOk VarE 7 := by
  refine ⟨fun hD hk h => ?_, fun h => ?_, fun h => ?_⟩
  · obtain ⟨h1, c0, c1, c2, c3, e, hR⟩ := h
    exact ⟨h1, c0, c1, c2, c3, e, RdD.step hD hk hR⟩
  · obtain ⟨_, c0, c1, c2, c3, rfl, _⟩ := h; rfl
  · obtain ⟨_, c0, c1, c2, c3, rfl, hR⟩ := h
    obtain ⟨o0, o1, o2, o3⟩ := rd_one hR
    intro u hu
    simp at hu
    rcases hu with rfl | rfl | rfl | rfl | rfl | rfl | rfl
    · rfl
    · rfl
    · rfl
    · exact o0
    · exact o1
    · exact o2
    · exact o3
theorem opOk : ElemOk OpE 5 := by
  refine ⟨fun hD hk h => ?_, fun h => ?_, fun h => ?_⟩
  · obtain ⟨h1, vv, vd, vs, e, hv, hd, hs⟩ := h
    exact ⟨h1, vv, vd, vs, e, RowD.step varOk hD hk hv, RowD.step dirOk hD hk hd, RowD.step (selOk 12) hD hk hs⟩
  · obtain ⟨_, vv, vd, vs, rfl, _⟩ := h; rfl
  · obtain ⟨_, vv, vd, vs, rfl, hv, hd, hs⟩ := h
    intro u hu
    simp at hu
    rcases hu with rfl | rfl | rfl | rfl | rfl
    · rfl
    · rfl
    · exact row_one hv
    · exact row_one hd
    · exact row_one hs
theorem fragOk : ElemOk FragE 4 := by
  refine ⟨fun hD hk h => ?_, fun h => ?_, fun h => ?_⟩
  · obtain ⟨h1, vd, vs, e, hd, hs⟩ := h
    exact ⟨h1, vd, vs, e, RowD.step dirOk hD hk hd, RowD.step (selOk 12) hD hk hs⟩
  · obtain ⟨_, vd, vs, rfl, _⟩ := h; rfl
  · obtain ⟨_, vd, vs, rfl, hd, hs⟩ := h
    intro u hu
    simp at hu
    rcases hu with rfl | rfl | rfl | rfl
    · rfl
    · rfl
    · exact row_one hd
    · exact row_one hs
theorem DocE.step {w w' : World} {D D' : Nat → Prop} {x : DocT} {v : Value} (hD : ∀ b, D b → D' b) (hk : ∀ b o, D b → w'.cell? ⟨b, o, none⟩ = w.cell? ⟨b, o, none⟩) (h : DocE w D x v) : DocE w' D' x v := by
  obtain ⟨vo, vf, e, ho, hf⟩ := h
  exact ⟨vo, vf, e, RowD.step opOk hD hk ho, RowD.step fragOk hD hk hf⟩

/-! ### a row as it grows -/
def OD (B : Nat) (W : World) (v : Value) (b : Nat) : Prop := B ≤ b ∧ b < W.heap.size ∧ v.ownBlock ≠ some b
structure OwnR {α : Type} (E : ElemR α) (B : Nat) (T : TypeId) (sz : Nat) (xs : List α) (cs : List Value) (v : Value) (W : World) : Prop where
  own : W.ownsRow B T sz v xs.length cs
  el : ∀ i x, xs[i]? = some x → ∃ es, es.length = sz ∧ (∀ k u, es[k]? = some u → cs[i * sz + k]? = some u) ∧ E W (OD B W v) x es

theorem OwnR.nil {α : Type} {E : ElemR α} {B : Nat} {T : TypeId} {sz : Nat} {W : World} : OwnR E B T sz [] [] (.slice none 0 0) W := ⟨World.ownsRow_nil _ _ _ _, fun i x hx => by simp at hx⟩
/-- Nothing from B on has changed but what is new (and what lies in another block than any of the row's). -/
theorem OwnR.keep {α : Type} {E : ElemR α} {B : Nat} {T : TypeId} {sz : Nat} (hE : ElemOk E sz) {xs : List α} {cs : List Value} {v : Value} {W W' : World} (h : OwnR E B T sz xs cs v W)
    (hb : ∀ b, B ≤ b → b < W.heap.size → W'.heap[b]? = W.heap[b]?) (hs : W.heap.size ≤ W'.heap.size) : OwnR E B T sz xs cs v W' := by
  refine ⟨ownsRow_block h.own (fun g e => ?_), fun i x hx => ?_⟩
  · have := h.own.lt g e
    exact hb g this.1 this.2
  · obtain ⟨es, hl, hc, hR⟩ := h.el i x hx
    exact ⟨es, hl, hc, hE.step (fun b hd => ⟨hd.1, by have := hd.2.1; omega, hd.2.2⟩) (fun b o hd => World.cell?_of_block (a := ⟨b, o, none⟩) (hb b hd.1 hd.2.1)) hR⟩
/-- One more record. -/
theorem OwnR.snoc {α : Type} {E : ElemR α} {B : Nat} {T : TypeId} {sz : Nat} (hE : ElemOk E sz) {xs : List α} {cs : List Value} {v v' : Value} {W W' : World} {x : α} {es : List Value} (h : OwnR E B T sz xs cs v W)
    (hx : E W (OD B W v) x es) (hown : W'.ownsRow B T sz v' (xs.length + 1) (cs ++ es)) (hg : W.grownBy W' v.ownBlock) (hlie : v'.ownBlock = v.ownBlock ∨ v'.ownBlock = some W.heap.size) : OwnR E B T sz (xs ++ [x]) (cs ++ es) v' W' := by
  have hz := hg.size
  have hcl : cs.length = xs.length * sz := h.own.1
  have hel := hE.len hx
  have hD : ∀ b, OD B W v b → OD B W' v' b := fun b hd => ⟨hd.1, by have := hd.2.1; omega, by
    rcases hlie with e | e
    · rw [e]; exact hd.2.2
    · rw [e]; intro e2; have := Option.some.inj e2; have := hd.2.1; omega⟩
  have hk : ∀ b o, OD B W v b → W'.cell? ⟨b, o, none⟩ = W.cell? ⟨b, o, none⟩ := fun b o hd => World.cell?_of_block (a := ⟨b, o, none⟩) (hg.block b hd.2.1 (by first | exact hd.2.2 | exact fun e => hd.2.2 e.symm))
  refine ⟨by rw [List.length_append, List.length_singleton]; exact hown, fun i y hy => ?_⟩
  by_cases hi : i < xs.length
  · rw [List.getElem?_append_left hi] at hy
    obtain ⟨fs, hl, hc, hR⟩ := h.el i y hy
    refine ⟨fs, hl, fun k u hu => ?_, hE.step hD hk hR⟩
    have hkl : k < sz := by rw [← hl]; exact (List.getElem?_eq_some_iff.1 hu).1
    have : i * sz + sz ≤ xs.length * sz := by rw [← Nat.succ_mul]; exact Nat.mul_le_mul_right sz hi
    rw [List.getElem?_append_left (by omega)]
    exact hc k u hu
  · have hlt := (List.getElem?_eq_some_iff.1 hy).1
    rw [List.length_append, List.length_singleton] at hlt
    obtain rfl : i = xs.length := by omega
    rw [List.getElem?_append_right (Nat.le_refl _), Nat.sub_self] at hy
    simp at hy
    subst hy
    refine ⟨es, hel, fun k u hu => ?_, hE.step hD hk hx⟩
    rw [List.getElem?_append_right (by omega), hcl, Nat.add_sub_cancel_left]
    exact hu
/-- The row as it is handed back. -/
theorem OwnR.done {α : Type} {E : ElemR α} {B : Nat} {T : TypeId} {sz : Nat} (hE : ElemOk E sz) {xs : List α} {cs : List Value} {v : Value} {W : World} (h : OwnR E B T sz xs cs v W) (hx : xs.length ≤ 1000000) : RowD E sz W (fun b => B ≤ b ∧ b < W.heap.size) xs v := by
  obtain ⟨a, c, rfl, hc, hr⟩ := fresh_row h.own
  have hcl : cs.length = xs.length * sz := h.own.1
  refine ⟨a, c, rfl, hx, hc, fun hp => ?_⟩
  obtain ⟨g, e, hg1, hg2, _, hcell⟩ := hr hp
  refine ⟨g, 0, e, ⟨hg1, hg2⟩, fun i x hx => ?_⟩
  obtain ⟨es, hl, hce, hR⟩ := h.el i x hx
  have hi := (List.getElem?_eq_some_iff.1 hx).1
  refine ⟨es, hl, fun k u hu => ?_, hE.step (fun b hd => ⟨hd.1, hd.2.1⟩) (fun _ _ _ => rfl) hR⟩
  have hkl : k < sz := by rw [← hl]; exact (List.getElem?_eq_some_iff.1 hu).1
  have : i * sz + sz ≤ xs.length * sz := by rw [← Nat.succ_mul]; exact Nat.mul_le_mul_right sz hi
  rw [Nat.zero_add, hcell (i * sz + k) (by omega)]
  exact hce k u hu

end Go.Proofs.YtibkncgfdhflgaaGreatDoor

/-
  doc's parser: a sign, a word, a name that must stand next.
-/
namespace Go.Proofs.YtibkncgfdhflgaaGreatDoor
open Go.RowKit

theorem Pw.trans {c : Cx} {k k2 : Nat} {s s2 : Ms} {w w1 w2 : World} (h : Pw c k s w w1) (h2 : Pw c k2 s2 w1 w2) : Pw c k2 s2 w w2 := ⟨h2.1, h.2.trans (h2.2.mono h.2.size)⟩
theorem Pw.below {c : Cx} {k : Nat} {s : Ms} {w w1 w2 : World} (h : Pw c k s w w1) (hb : Below w1.heap.size w1 w2) : Pw c k s w w2 := ⟨h.1.below hb h.1.hN, h.2.trans (.of (hb.mono h.2.size))⟩
theorem Pw.refl {c : Cx} {k : Nat} {s : Ms} {w : World} (h : Pv c k s w) : Pw c k s w w := .of h (Below.refl _ _)

set_option maxHeartbeats 1000000 in
set_option maxRecDepth 100000 in
theorem pMust_any {c : Cx} {k : Nat} {s : Ms} (g : List UInt8) (w : World) (h : Pv c k s w) : Calls Tryz.prog 154 #[.pointer (some ⟨c.R, 0, none⟩), .string ⟨g.toArray⟩] w fun e w' => e = .returned (.tuple #[]) ∧ Pw c k (sgM c.z g s) w w' := by
  have HT := pTakeSign_any g w h
  have HM := Lib.hid (show sgM c.z g s = if isSg g (hdT s.l) then tlM s else failM c.z 2 s from rfl)
  clear h
  cases hi : isSg g (hdT s.l) with
  | true =>
    rw [hi] at HT HM
    clear hi
    go_enter Tryz.func154, Tryz.ntmps154
    go_wp2_with fail
    refine HT.mono ?_
    rintro e w1 ⟨rfl, hp⟩
    go_wp2_with fail
    go_end0
    rw [HM.out]
    exact ⟨rfl, hp⟩
  | false =>
    rw [hi] at HT HM
    clear hi
    go_enter Tryz.func154, Tryz.ntmps154
    go_wp2_with fail
    refine HT.mono ?_
    rintro e w1 ⟨rfl, hp⟩
    rw [if_neg (by decide)] at hp
    have HF := pFail_any 2 w1 hp.1
    go_wp2_with fail
    refine HF.mono ?_
    rintro e w2 ⟨rfl, hp2⟩
    go_wp2_with fail
    go_end0
    rw [HM.out]
    exact ⟨rfl, hp.trans hp2⟩

set_option maxHeartbeats 1000000 in
set_option maxRecDepth 100000 in
theorem pMustWord_any {c : Cx} {k : Nat} {s : Ms} (g : List UInt8) (w : World) (h : Pv c k s w) : Calls Tryz.prog 87 #[.pointer (some ⟨c.R, 0, none⟩), .string ⟨g.toArray⟩] w fun e w' => e = .returned (.tuple #[]) ∧ Pw c k (wdM c.z g s) w w' := by
  have HT := pTakeWord_any g w h
  have HM := Lib.hid (show wdM c.z g s = if isWd g (hdT s.l) then tlM s else failM c.z 2 s from rfl)
  clear h
  cases hi : isWd g (hdT s.l) with
  | true =>
    rw [hi] at HT HM
    clear hi
    go_enter Tryz.func87, Tryz.ntmps87
    go_wp2_with fail
    refine HT.mono ?_
    rintro e w1 ⟨rfl, hp⟩
    go_wp2_with fail
    go_end0
    rw [HM.out]
    exact ⟨rfl, hp⟩
  | false =>
    rw [hi] at HT HM
    clear hi
    go_enter Tryz.func87, Tryz.ntmps87
    go_wp2_with fail
    refine HT.mono ?_
    rintro e w1 ⟨rfl, hp⟩
    rw [if_neg (by decide)] at hp
    have HF := pFail_any 2 w1 hp.1
    go_wp2_with fail
    refine HF.mono ?_
    rintro e w2 ⟨rfl, hp2⟩
    go_wp2_with fail
    go_end0
    rw [HM.out]
    exact ⟨rfl, hp.trans hp2⟩

theorem hdT_size {c : Cx} {k : Nat} {s : Ms} {w : World} (h : Pv c k s w) : (hdT s.l).s.length ≤ 1000000 := by
  obtain ⟨m, p, _, hp, hm, hl⟩ := h.bk
  rcases h.tok hp hm hl with ⟨_, e⟩ | ⟨_, t, _, e, _, _, _, _, hz, _⟩
  · rw [e]; decide
  · rw [e]; exact hz
theorem nmM_size {c : Cx} {k : Nat} {s : Ms} {w : World} (h : Pv c k s w) : (nmM c.z s).1.length ≤ 1000000 := by
  unfold nmM
  split
  · exact hdT_size h
  · exact Nat.zero_le _

set_option maxHeartbeats 1000000 in
set_option maxRecDepth 100000 in
theorem pNm_any {c : Cx} {k : Nat} {s : Ms} (w : World) (h : Pv c k s w) : Calls Tryz.prog 88 #[.pointer (some ⟨c.R, 0, none⟩)] w fun e w' => e = .returned (.string ⟨(nmM c.z s).1.toArray⟩) ∧ Pw c k (nmM c.z s).2 w w' := by
  have HT := ptoken_any w h
  have HM := Lib.hid (show nmM c.z s = if (hdT s.l).k = 1 then ((hdT s.l).s, tlM s) else ([], failM c.z 2 s) from rfl)
  have HH := Lib.hid h
  have hs := h.hs
  by_cases hk : (hdT s.l).k = 1
  · rw [if_pos hk] at HM
    have hk5 : (hdT s.l).k ≠ 0 := by rw [hk]; decide
    have hne : (((hdT s.l).k : Int) != 1) = false := by simp; omega
    have F : ∀ w1, Below w.heap.size w w1 → ∃ p : Nat, Pw c k (tlM s) w1 ((w1.setCell ⟨c.R, 1, none⟩ (.int .i64 ((p : Int) + 1))).alloc (.cells #[.int .i64 (hdT s.l).k, .string ⟨(hdT s.l).s.toArray⟩, .int .i64 (hdT s.l).at_] 83)) ∧
        (w1.alloc (.cells #[.int .i64 (hdT s.l).k, .string ⟨(hdT s.l).s.toArray⟩, .int .i64 (hdT s.l).at_] 83)).cell? ⟨c.R, 1, none⟩ = some (.int .i64 (p : Int)) ∧ (w1.alloc (.cells #[.int .i64 (hdT s.l).k, .string ⟨(hdT s.l).s.toArray⟩, .int .i64 (hdT s.l).at_] 83)).frozen? ⟨c.R, 1, none⟩ = false ∧ IntKind.i64.wrap ((p : Int) + 1) = (p : Int) + 1 ∧ c.R < w1.heap.size := by
      intro w1 hb
      have h1 := h.below hb h.hN
      obtain ⟨m, p, hbk, hp, hm, hl⟩ := h1.bk
      have hlt := sg_pos h1 hp hm hl hk5
      have hbk2 := (Below.heap_alloc w1 (.cells #[.int .i64 (hdT s.l).k, .string ⟨(hdT s.l).s.toArray⟩, .int .i64 (hdT s.l).at_] 83) _ h1.lt).trans hbk
      obtain ⟨-, c1, -, -, -, -, fz⟩ := prCell hbk2
      have hn := h1.next hbk hm hl hlt
      exact ⟨p, hn.below ((Below.refl _ _).alloc (Nat.le_refl _) _), c1, fz 1, IntWalk.i64_in _ (by omega), h1.lt⟩
    clear hk hk5 h
    generalize hdT s.l = t at *
    go_enter Tryz.func88, Tryz.ntmps88
    go_wp2_with fail
    refine HT.mono ?_
    rintro e w1 ⟨rfl, hb⟩
    obtain ⟨p, hn, c1, fz, hw, hRl⟩ := F w1 hb
    have HB := Lib.hid hb
    have HN := Lib.hid hn
    clear hb hn F HH
    go_wp2_with fail
    go_ret
    rw [HM.out]
    exact ⟨rfl, (⟨HN.out.1, (Aw.of HB.out).trans (HN.out.2.mono HB.out.size)⟩ : Pw c k (tlM s) w _)⟩
  · rw [if_neg hk] at HM
    have hne : (((hdT s.l).k : Int) != 1) = true := by simp; omega
    have F : ∀ w1, Below w.heap.size w w1 → ∀ o, Calls Tryz.prog 127 #[.pointer (some ⟨c.R, 0, none⟩), .int .i64 2] (w1.alloc o) fun x w' => x = .returned (.tuple #[]) ∧ Pw c k (failM c.z 2 s) (w1.alloc o) w' :=
      fun w1 hb o => pFail_any 2 _ ((h.below hb h.hN).alloc o)
    clear hk h
    generalize hdT s.l = t at *
    go_enter Tryz.func88, Tryz.ntmps88
    go_wp2_with fail
    refine HT.mono ?_
    rintro e w1 ⟨rfl, hb⟩
    have FF := F w1 hb (.cells #[.int .i64 t.k, .string ⟨t.s.toArray⟩, .int .i64 t.at_] 83)
    clear F
    go_wp2_with fail
    refine FF.mono ?_
    rintro e w2 ⟨rfl, hp2⟩
    have HX := Lib.hid ((Pw.refl HH.out).below (hb.alloc hb.size (.cells #[.int .i64 t.k, .string ⟨t.s.toArray⟩, .int .i64 t.at_] 83)) |>.trans hp2)
    clear hp2 FF hb
    go_wp2_with fail
    go_ret
    rw [HM.out]
    exact ⟨rfl, HX.out⟩

set_option maxHeartbeats 1000000 in
set_option maxRecDepth 100000 in
theorem pNmOr_any {c : Cx} {k : Nat} {s : Ms} (w : World) (h : Pv c k s w) : Calls Tryz.prog 133 #[.pointer (some ⟨c.R, 0, none⟩)] w fun e w' => e = .returned (.string ⟨(nnM c.z s).1.toArray⟩) ∧ Pw c k (nnM c.z s).2 w w' := by
  have HT := pName_any w h
  have HM := Lib.hid (show nnM c.z s = if (hdT s.l).k = 1 then nmM c.z s else ([], s) from rfl)
  have HH := Lib.hid h
  by_cases hk : (hdT s.l).k = 1
  · rw [if_pos hk] at HM
    rw [show ((hdT s.l).k == 1) = true by simpa using hk] at HT
    clear hk
    go_enter Tryz.func133, Tryz.ntmps133
    go_wp2_with fail
    refine HT.mono ?_
    rintro e w1 ⟨rfl, hb⟩
    have HN := pNm_any w1 (h.below hb h.hN)
    clear h
    go_wp2_with fail
    refine HN.mono ?_
    rintro e w2 ⟨rfl, hp⟩
    go_wp2_with fail
    go_ret
    rw [HM.out]
    exact ⟨rfl, ((Pw.refl HH.out).below hb).trans hp⟩
  · rw [if_neg hk] at HM
    rw [show ((hdT s.l).k == 1) = false by simpa using hk] at HT
    clear hk h
    go_enter Tryz.func133, Tryz.ntmps133
    go_wp2_with fail
    refine HT.mono ?_
    rintro e w1 ⟨rfl, hb⟩
    go_wp2_with fail
    go_ret
    rw [HM.out]
    exact ⟨rfl, (Pw.refl HH.out).below hb⟩

end Go.Proofs.YtibkncgfdhflgaaGreatDoor

/-
  doc's parser: a struct that a function builds in a block of its own, beside the box of its result.
-/
namespace Go.Proofs.YtibkncgfdhflgaaGreatDoor
open Go.RowKit

theorem blk2 {W : World} {g : Nat} {c0 c1 : Value} {T : TypeId} (h : W.heap[g]? = some (.cells #[c0, c1] T (0, 0))) : W.cell? ⟨g, 0, none⟩ = some c0 ∧ W.cell? ⟨g, 1, none⟩ = some c1 ∧ (∀ j, W.frozen? ⟨g, j, none⟩ = false) ∧ g < W.heap.size :=
  ⟨Lib.cell_of_heap h 0, Lib.cell_of_heap h 1, fun j => by simp [World.frozen?, h], (Array.getElem?_eq_some_iff.1 h).1⟩
theorem blk4 {W : World} {g : Nat} {c0 c1 c2 c3 : Value} {T : TypeId} (h : W.heap[g]? = some (.cells #[c0, c1, c2, c3] T (0, 0))) : W.cell? ⟨g, 0, none⟩ = some c0 ∧ W.cell? ⟨g, 1, none⟩ = some c1 ∧ W.cell? ⟨g, 2, none⟩ = some c2 ∧ W.cell? ⟨g, 3, none⟩ = some c3 ∧ (∀ j, W.frozen? ⟨g, j, none⟩ = false) ∧ g < W.heap.size :=
  ⟨Lib.cell_of_heap h 0, Lib.cell_of_heap h 1, Lib.cell_of_heap h 2, Lib.cell_of_heap h 3, fun j => by simp [World.frozen?, h], (Array.getElem?_eq_some_iff.1 h).1⟩
theorem blk5 {W : World} {g : Nat} {c0 c1 c2 c3 c4 : Value} {T : TypeId} (h : W.heap[g]? = some (.cells #[c0, c1, c2, c3, c4] T (0, 0))) : W.cell? ⟨g, 0, none⟩ = some c0 ∧ W.cell? ⟨g, 1, none⟩ = some c1 ∧ W.cell? ⟨g, 2, none⟩ = some c2 ∧ W.cell? ⟨g, 3, none⟩ = some c3 ∧ W.cell? ⟨g, 4, none⟩ = some c4 ∧ (∀ j, W.frozen? ⟨g, j, none⟩ = false) ∧ g < W.heap.size :=
  ⟨Lib.cell_of_heap h 0, Lib.cell_of_heap h 1, Lib.cell_of_heap h 2, Lib.cell_of_heap h 3, Lib.cell_of_heap h 4, fun j => by simp [World.frozen?, h], (Array.getElem?_eq_some_iff.1 h).1⟩
theorem blk7 {W : World} {g : Nat} {c0 c1 c2 c3 c4 c5 c6 : Value} {T : TypeId} (h : W.heap[g]? = some (.cells #[c0, c1, c2, c3, c4, c5, c6] T (0, 0))) :
    W.cell? ⟨g, 0, none⟩ = some c0 ∧ W.cell? ⟨g, 1, none⟩ = some c1 ∧ W.cell? ⟨g, 2, none⟩ = some c2 ∧ W.cell? ⟨g, 3, none⟩ = some c3 ∧ W.cell? ⟨g, 4, none⟩ = some c4 ∧ W.cell? ⟨g, 5, none⟩ = some c5 ∧ W.cell? ⟨g, 6, none⟩ = some c6 ∧ (∀ j, W.frozen? ⟨g, j, none⟩ = false) ∧ g < W.heap.size :=
  ⟨Lib.cell_of_heap h 0, Lib.cell_of_heap h 1, Lib.cell_of_heap h 2, Lib.cell_of_heap h 3, Lib.cell_of_heap h 4, Lib.cell_of_heap h 5, Lib.cell_of_heap h 6, fun j => by simp [World.frozen?, h], (Array.getElem?_eq_some_iff.1 h).1⟩

/-- What was made since the boxes were laid stays. -/
structure Keeps (w W W' : World) : Prop where
  size : W.heap.size ≤ W'.heap.size
  heap : ∀ b, w.heap.size + 2 ≤ b → b < W.heap.size → W'.heap[b]? = W.heap[b]?
theorem Keeps.refl (w W : World) : Keeps w W W := ⟨Nat.le_refl _, fun _ _ _ => rfl⟩
theorem Keeps.trans {w a b d : World} (h : Keeps w a b) (k : Keeps w b d) : Keeps w a d := ⟨Nat.le_trans h.size k.size, fun x h1 h2 => (k.heap x h1 (by have := h.size; omega)).trans (h.heap x h1 h2)⟩
theorem Keeps.set {w W : World} {q : Addr} (hq : q.block < w.heap.size + 2) (v : Value) : Keeps w W (W.setCell q v) := ⟨by simp [World.setCell], fun b hb _ => Below.heap_setCell _ _ _ _ (by omega)⟩
theorem Keeps.below {w W W' : World} (h : Below W.heap.size W W') : Keeps w W W' := ⟨h.size, fun b _ hb => h.block b hb⟩
def Dn (w W : World) (b : Nat) : Prop := w.heap.size + 2 ≤ b ∧ b < W.heap.size
theorem Keeps.cell {w W W' : World} (h : Keeps w W W') : ∀ b o, Dn w W b → W'.cell? ⟨b, o, none⟩ = W.cell? ⟨b, o, none⟩ := fun b o hd => World.cell?_of_block (a := ⟨b, o, none⟩) (h.heap b hd.1 hd.2)
theorem Keeps.dn {w W W' : World} (h : Keeps w W W') : ∀ b, Dn w W b → Dn w W' b := fun _ hd => ⟨hd.1, Nat.lt_of_lt_of_le hd.2 h.size⟩
theorem Keeps.row {α : Type} {E : ElemR α} {sz : Nat} (hE : ElemOk E sz) {w W W' : World} (h : Keeps w W W') {xs : List α} {v : Value} (hr : RowD E sz W (Dn w W) xs v) : RowD E sz W' (Dn w W') xs v := RowD.step hE h.dn h.cell hr
theorem Keeps.rd {w W W' : World} (h : Keeps w W W') {n : Nat} {x : JV} {v : Value} (hr : RdD W (Dn w W) n x v) : RdD W' (Dn w W') n x v := RdD.step h.dn h.cell hr

/-- The box of the result lies in block w.heap.size, the struct in the next one. -/
structure Lo (c : Cx) (k : Nat) (w : World) (T : TypeId) (b0 b1 : Array Value) (s : Ms) (W : World) : Prop where
  p : Pw c k s w W
  h0 : W.heap[w.heap.size]? = some (.cells b0 T (0, 0))
  h1 : W.heap[w.heap.size + 1]? = some (.cells b1 T (0, 0))
  hN : c.N ≤ w.heap.size
theorem Lo.sz {c : Cx} {k : Nat} {w : World} {T : TypeId} {b0 b1 : Array Value} {s : Ms} {W : World} (h : Lo c k w T b0 b1 s W) : w.heap.size + 2 ≤ W.heap.size := by
  have := (Array.getElem?_eq_some_iff.1 h.h1).1
  omega
theorem Pw.set {c : Cx} {k : Nat} {s : Ms} {w W : World} (h : Pw c k s w W) (hN : c.N ≤ w.heap.size) {q : Addr} (hq : w.heap.size ≤ q.block) (v : Value) : Pw c k s w (W.setCell q v) := ⟨h.1.set (Nat.le_trans hN hq) v, h.2.setNew hq v⟩
theorem Lo.new {c : Cx} {k : Nat} {s : Ms} {w : World} (h : Pv c k s w) (T : TypeId) (b0 b1 : Array Value) : Lo c k w T b0 b1 s ((w.alloc (.cells b0 T (0, 0))).alloc (.cells b1 T (0, 0))) := by
  refine ⟨.of h (((Below.refl _ w).alloc (Nat.le_refl _) _).alloc (by simp) _), ?_, ?_, h.hN⟩
  · rw [Below.heap_alloc _ _ _ (by simp)]; exact heap_alloc_new _ _
  · have := heap_alloc_new (w.alloc (.cells b0 T (0, 0))) (.cells b1 T (0, 0))
    rwa [show (w.alloc (.cells b0 T (0, 0))).heap.size = w.heap.size + 1 by simp] at this
/-- A call of the parser's. -/
theorem Lo.call {c : Cx} {k k' : Nat} {w : World} {T : TypeId} {b0 b1 : Array Value} {s s' : Ms} {W W' : World} (h : Lo c k w T b0 b1 s W) (hp : Pw c k' s' W W') : Lo c k' w T b0 b1 s' W' ∧ Keeps w W W' := by
  have hs := h.sz
  have hR := h.p.1.hR
  have hN := h.hN
  exact ⟨⟨h.p.trans hp, (hp.2.block _ (by omega) (by omega)).trans h.h0, (hp.2.block _ (by omega) (by omega)).trans h.h1, h.hN⟩, ⟨hp.2.size, fun b hb hl => hp.2.block b hl (by omega)⟩⟩
theorem Lo.below {c : Cx} {k : Nat} {w : World} {T : TypeId} {b0 b1 : Array Value} {s : Ms} {W W' : World} (h : Lo c k w T b0 b1 s W) (hb : Below W.heap.size W W') : Lo c k w T b0 b1 s W' ∧ Keeps w W W' :=
  h.call (.of h.p.1 hb)
/-- A store into the struct. -/
theorem Lo.set {c : Cx} {k : Nat} {w : World} {T : TypeId} {b0 b1 : Array Value} {s : Ms} {W : World} (h : Lo c k w T b0 b1 s W) (i : Nat) (v : Value) : Lo c k w T b0 (b1.setIfInBounds i v) s (W.setCell ⟨w.heap.size + 1, i, none⟩ v) ∧ Keeps w W (W.setCell ⟨w.heap.size + 1, i, none⟩ v) :=
  ⟨⟨h.p.set h.hN (by show _ ≤ w.heap.size + 1; omega) v, (Below.heap_setCell _ _ _ _ (by show w.heap.size ≠ w.heap.size + 1; omega)).trans h.h0, Lib.heap_setCell_same h.h1 v, h.hN⟩, .set (by show w.heap.size + 1 < _; omega) v⟩
/-- A store into the box. -/
theorem Lo.fin {c : Cx} {k : Nat} {w : World} {T : TypeId} {b0 b1 : Array Value} {s : Ms} {W : World} (h : Lo c k w T b0 b1 s W) (i : Nat) (v : Value) : Lo c k w T (b0.setIfInBounds i v) b1 s (W.setCell ⟨w.heap.size, i, none⟩ v) ∧ Keeps w W (W.setCell ⟨w.heap.size, i, none⟩ v) :=
  ⟨⟨h.p.set h.hN (Nat.le_refl _) v, Lib.heap_setCell_same h.h0 v, (Below.heap_setCell _ _ _ _ (by show w.heap.size + 1 ≠ w.heap.size; omega)).trans h.h1, h.hN⟩, .set (by show w.heap.size < _; omega) v⟩

/-- What was read out of a call's new blocks. -/
theorem dn_of {c : Cx} {k : Nat} {w : World} {T : TypeId} {b0 b1 : Array Value} {s : Ms} {W W' : World} (h : Lo c k w T b0 b1 s W) : ∀ b, (W.heap.size ≤ b ∧ b < W'.heap.size) → Dn w W' b := fun _ hd => ⟨Nat.le_trans h.sz hd.1, hd.2⟩
theorem dn_fin {w W : World} : ∀ b, Dn w W b → w.heap.size ≤ b ∧ b < W.heap.size := fun _ hd => ⟨by have := hd.1; omega, hd.2⟩

/-- A call that answers a record. -/
def RecAns {α : Type} (E : ElemR α) (c : Cx) (k : Nat) (w : World) (r : α × Ms) (e : Ending) (w' : World) : Prop :=
  ∃ cs : List Value, e = .returned (.agg cs.toArray) ∧ E w' (fun b => w.heap.size ≤ b ∧ b < w'.heap.size) r.1 cs ∧ Pw c k r.2 w w'
/-- A call that answers a slice of records. -/
def RowAns {α : Type} (E : ElemR α) (sz : Nat) (c : Cx) (k : Nat) (w : World) (r : List α × Ms) (e : Ending) (w' : World) : Prop :=
  ∃ v, e = .returned v ∧ RowD E sz w' (fun b => w.heap.size ≤ b ∧ b < w'.heap.size) r.1 v ∧ Pw c k r.2 w w'
/-- A call that answers a value. -/
def ValueAns (c : Cx) (k : Nat) (w : World) (r : JV × Ms) (e : Ending) (w' : World) : Prop :=
  ∃ kk ss an ln cn ap lp cp, e = .returned (.agg #[.int .i64 kk, .string ss, .slice an ln cn, .slice ap lp cp]) ∧ RdD w' (fun b => w.heap.size ≤ b ∧ b < w'.heap.size) 13 r.1 (.agg #[.int .i64 kk, .string ss, .slice an ln cn, .slice ap lp cp]) ∧ Pw c k r.2 w w'

end Go.Proofs.YtibkncgfdhflgaaGreatDoor

/-
  doc's parser: Type and Value, asked of its tokens.
-/
namespace Go.Proofs.YtibkncgfdhflgaaGreatDoor
open Go.RowKit

theorem tkCells_take (ts : List Tk) (m j : Nat) (u : Value) (h : (tkCells (ts.take m))[j]? = some u) : (tkCells ts)[j]? = some u := by
  have e : tkCells ts = tkCells (ts.take m) ++ tkCells (ts.drop m) := by
    unfold tkCells
    rw [← List.flatMap_append, List.take_append_drop]
  rw [e, List.getElem?_append_left (List.getElem?_eq_some_iff.1 h).1]
  exact h
theorem Pv.tkAt {c : Cx} {k : Nat} {s : Ms} {w : World} (h : Pv c k s w) (m : Nat) : TkAt w c.a (c.ts.take m) := fun h0 => by
  obtain ⟨g, e, _, _, hc⟩ := h.tk (by rw [List.length_take] at h0; omega)
  exact ⟨g, e, fun j u hj => hc j u (tkCells_take _ _ _ _ hj)⟩
theorem take_len {ts : List Tk} {m : Nat} (hm : m ≤ ts.length) : (ts.take m).length = m := by rw [List.length_take]; omega
theorem ahead_take (ts : List Tk) (m p : Nat) : ahead (ts.take m) p = ((ts.take m).drop p).map strip := rfl

/-- Type, asked of the tokens up to m. -/
theorem vtype_at {c : Cx} {k : Nat} {s : Ms} (W : World) (h : Pv c k s W) {m p : Nat} (hp : p ≤ m) (hm : m ≤ c.ts.length) (hl : (c.ts.take m).drop p = s.l) :
    Calls Tryz.prog 174 #[.slice c.a m c.cap, .int .i64 (p : Int)] W (TyAnsP p m W (typeP (s.l.map strip))) := by
  have H := valType_at (p := p) (a := c.a) (cap := c.cap) (ts := c.ts.take m) W (by rw [take_len hm]; exact hp) (h.tkAt m) (by rw [take_len hm]; exact Nat.le_trans hm h.hc) (by rw [take_len hm]; have := h.hs; omega) (fun t ht => h.sz t (List.mem_of_mem_take ht))
  rw [take_len hm, ahead_take, hl] at H
  exact H
theorem vvalue_at {c : Cx} {k : Nat} {s : Ms} (W : World) (h : Pv c k s W) {m p : Nat} (hp : p ≤ m) (hm : m ≤ c.ts.length) :
    Calls Tryz.prog 188 #[.slice c.a m c.cap, .int .i64 (p : Int)] W (ValAns m W (pvT 12 (((c.ts.take m).drop p).map strip))) := by
  have H := valValue_at (p := p) (a := c.a) (cap := c.cap) (ts := c.ts.take m) W (by rw [take_len hm]; exact hp) (h.tkAt m) (by rw [take_len hm]; exact Nat.le_trans hm h.hc) (by rw [take_len hm]; have := h.hs; omega) (fun t ht => h.sz t (List.mem_of_mem_take ht))
  rw [take_len hm, ahead_take] at H
  exact H

/-- The parser, gone on to place q. -/
theorem Pv.goTo {c : Cx} {k : Nat} {s : Ms} {w : World} (h : Pv c k s w) {m p q : Nat} (hbk : w.heap[c.R]? = some (prCells c k m p s.er s.wr)) (hm : m ≤ c.ts.length) (hl : (c.ts.take m).drop p = s.l) (hp : p ≤ q) (hq : q ≤ m) :
    Pw c k ⟨s.l.drop (q - p), s.er, s.wr⟩ w (w.setCell ⟨c.R, 1, none⟩ (.int .i64 (q : Int))) := by
  refine ⟨h.turn (m := m) (p := q) ?_ hq hm ?_ (fun he => ?_) h.hk (fun b _ hb => Below.heap_setCell _ _ _ _ hb) (by simpa [World.setCell] using h.hN), (Aw.refl _ _ _).set _⟩
  · rw [Lib.heap_setCell_same hbk]; rfl
  · show _ = s.l.drop (q - p)
    rw [← hl, List.drop_drop, show p + (q - p) = q by omega]
  · show s.l.drop (q - p) = []
    rw [h.bad he, List.drop_nil]

theorem Pv.drew {c : Cx} {k : Nat} {s : Ms} {w : World} (h : Pv c k s w) : Pv c k s w.drew := h.keep (fun _ _ => rfl) h.hN

end Go.Proofs.YtibkncgfdhflgaaGreatDoor
