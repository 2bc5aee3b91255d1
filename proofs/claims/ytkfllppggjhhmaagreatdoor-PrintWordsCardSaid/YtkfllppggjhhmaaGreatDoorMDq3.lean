/-
  What value.Value and value.Type answer, from any token of a row on.
-/
import Derived.Test.YtkfllppggjhhmaaGreatDoorMPwd
import Derived.Test.YtkfllppggjhhmaaGreatDoorMPm
import Derived.Lib.BufferMore
namespace Go.Proofs.YtkfllppggjhhmaaGreatDoor
open Go.RowKit

set_option maxHeartbeats 1000000 in
theorem readerAt_at (a : Option Addr) (n cap p : Nat) (w : World) (hp : p ≤ n) : Calls Tryz.prog 317 #[.slice a n cap, .int .i64 (p : Int)] w fun e w' => e = .returned (.pointer (some ⟨w.heap.size, 0, none⟩)) ∧ w' = w.alloc (.cells #[.slice a n cap, .int .i64 (p : Int)] 329) := by
  have hd0 : decide ((p : Int) < 0) = false := decide_eq_false (by omega)
  have hd : decide (n < p) = false := decide_eq_false (by omega)
  clear hp
  go_enter Tryz.func317, Tryz.ntmps317
  go_wp2_with fail
  go_ret
  exact ⟨rfl, rfl⟩

theorem rv_at {w W : World} {a : Option Addr} {cap : Nat} {ts : List Tk} {p : Nat} (hp : p ≤ ts.length) (hb : Below w.heap.size w W) (ht : TkAt w a ts) (hc : ts.length ≤ cap) (hs : ts.length ≤ 9000) (hz : ∀ t ∈ ts, t.s.length ≤ 1000000) : Rv (W.alloc (.cells #[.slice a ts.length cap, .int .i64 (p : Int)] 329)) W.heap.size a cap ts p := by
  have hbk : (W.alloc (.cells #[.slice a ts.length cap, .int .i64 (p : Int)] 329)).heap[W.heap.size]? = some (.cells #[.slice a ts.length cap, .int .i64 (p : Int)] 329 (0, 0)) := heap_alloc_new _ _
  have hsz := hb.size
  refine ⟨Lib.cell_of_heap hbk 0, Lib.cell_of_heap hbk 1, fun j => by go_simp, hp, hc, hs, hz, fun h0 => ?_⟩
  obtain ⟨g, e, hcell⟩ := ht h0
  obtain ⟨u, hu⟩ := tkCells_first h0
  have hg := cell_lt (hcell 0 u hu)
  refine ⟨g, e, by omega, fun j u hj => ?_⟩
  rw [World.cell?_of_block (a := ⟨g, j, none⟩) (Below.heap_alloc _ _ _ (by show g < W.heap.size; omega))]
  exact (World.cell?_of_block (a := ⟨g, j, none⟩) (hb.block g hg)).trans (hcell j u hj)

/-- What Type answers of a row of n tokens, from place p on. -/
def TyAnsP (p n : Nat) (w : World) (o : Option (List UInt8 × List UInt8 × List Sk)) (e : Ending) (w' : World) : Prop :=
  Below w.heap.size w w' ∧ match o with
    | none => e = .returned (.tuple #[.agg #[.string ⟨#[]⟩, .string ⟨#[]⟩], .int .i64 (p : Int), .bool false])
    | some (nm, ws, r) => e = .returned (.tuple #[.agg #[.string ⟨nm.toArray⟩, .string ⟨ws.toArray⟩], .int .i64 ((n - r.length : Nat) : Int), .bool true])

set_option maxHeartbeats 4000000 in
set_option maxRecDepth 100000 in
theorem valValue_at {p : Nat} {a : Option Addr} {cap : Nat} {ts : List Tk} (w : World) (hp : p ≤ ts.length) (ht : TkAt w a ts) (hc : ts.length ≤ cap) (hs : ts.length ≤ 9000) (hz : ∀ t ∈ ts, t.s.length ≤ 1000000) :
    Calls Tryz.prog 319 #[.slice a ts.length cap, .int .i64 (p : Int)] w (ValAns ts.length w (pvT 12 (ahead ts p))) := by
  have hb0 : Below w.heap.size w (w.alloc (.cells #[.int .i64 0, .string ⟨#[]⟩, .slice none 0 0, .slice none 0 0] 53)) := (Below.refl _ w).alloc (Nat.le_refl _) _
  have HR := readerAt_at a ts.length cap p (w.alloc (.cells #[.int .i64 0, .string ⟨#[]⟩, .slice none 0 0, .slice none 0 0] 53)) hp
  have hs0 : (w.alloc (.cells #[.int .i64 0, .string ⟨#[]⟩, .slice none 0 0, .slice none 0 0] 53)).heap.size = w.heap.size + 1 := by simp
  have hr := rv_at hp hb0 ht hc hs hz
  rw [hs0] at hr HR
  have hX : Bx ((w.alloc (.cells #[.int .i64 0, .string ⟨#[]⟩, .slice none 0 0, .slice none 0 0] 53)).alloc (.cells #[.slice a ts.length cap, .int .i64 (p : Int)] 329)) w.heap.size := (Bx.new w).keep (Below.heap_alloc _ _ _ (by simp))
  have hb1 : Below w.heap.size w ((w.alloc (.cells #[.int .i64 0, .string ⟨#[]⟩, .slice none 0 0, .slice none 0 0] 53)).alloc (.cells #[.slice a ts.length cap, .int .i64 (p : Int)] 329)) := hb0.alloc (by simp) _
  have hs1 : ((w.alloc (.cells #[.int .i64 0, .string ⟨#[]⟩, .slice none 0 0, .slice none 0 0] 53)).alloc (.cells #[.slice a ts.length cap, .int .i64 (p : Int)] 329)).heap.size = w.heap.size + 2 := by simp
  have HV := vvalue_any (R := w.heap.size + 1) (a := a) (cap := cap) (ts := ts) 12 1 rfl p _ hr
  clear hr hb0 hs0 hp
  generalize pvT 12 (ahead ts p) = RV at *
  obtain ⟨x, l', er⟩ := RV
  go_enter Tryz.func319, Tryz.ntmps319
  go_wp2_with fail
  refine HR.mono ?_
  rintro e w1 ⟨rfl, rfl⟩
  go_wp2_with fail
  refine HV.mono ?_
  rintro e w2 ⟨⟨q, hl, hr, ha⟩, hv⟩
  dsimp only at hl hv
  have hz2 := ha.size
  rw [hs1] at hz2
  have hlt2 : w.heap.size < w2.heap.size := by omega
  have hx2 : Bx w2 w.heap.size := hX.keep (ha.block _ (by rw [hs1]; omega) (by omega))
  have ha2 : Below w.heap.size w w2 := hb1.trans ((ha.mono (by rw [hs1]; omega)).below (by omega))
  have hq : ts.length - l'.length = q := by
    have := hr.hp
    rw [← hl, ahead_len]; omega
  obtain ⟨v, rfl, ⟨k, s, an, ln, cn, ap, lp, cp, rfl⟩, hfin⟩ : ∃ v, e = .returned (.tuple #[v, .int .i64 er]) ∧ (∃ k s an ln cn ap lp cp, v = .agg #[.int .i64 k, .string s, .slice an ln cn, .slice ap lp cp]) ∧
      (if er = 0 then RdD w2 (fun b => w.heap.size + 2 ≤ b ∧ b < w2.heap.size) 13 x v else v = leaf 0 ⟨#[]⟩) := by
    by_cases he : er = 0
    · subst he
      rw [if_pos rfl] at hv
      obtain ⟨v, rfl, hR⟩ := hv
      have hs : ∃ k s an ln cn ap lp cp, v = .agg #[.int .i64 k, .string s, .slice an ln cn, .slice ap lp cp] := by
        obtain ⟨an, cn, ap, cp, e⟩ := hR.shape
        exact ⟨_, _, _, _, _, _, _, _, e⟩
      refine ⟨v, rfl, hs, ?_⟩
      rw [if_pos rfl]
      rw [hs1] at hR
      exact hR
    · rw [if_neg he] at hv
      refine ⟨_, hv.1, ⟨_, _, _, _, _, _, _, _, rfl⟩, ?_⟩
      rw [if_neg he]
  have HQ := Lib.hid hq
  have c1 := hr.c1
  have hRlt : w.heap.size + 1 < w2.heap.size := by omega
  have HF := Lib.hid (fun c0 c1 c2 c3 o => bx_fourA hx2 c0 c1 c2 c3 o)
  have HA := Lib.hid ha2
  have HFIN := Lib.hid hfin
  obtain ⟨r0, r1, r2, r3, rf⟩ := hx2
  clear hv hq ha ha2 hr hl HV HR hX hb1 hs1 hz2 hfin
  go_upto_region 3 with fail
  go_region
  all_goals
    go_wp2_with fail
    obtain ⟨k0, k1, k2, k3⟩ := HF.out (.int .i64 k) (.string s) (.slice an ln cn) (.slice ap lp cp) (.cells #[.int .i64 k, .string s, .slice an ln cn, .slice ap lp cp] 53)
    refine bodyPost_ret (v := .tuple #[.agg #[.int .i64 k, .string s, .slice an ln cn, .slice ap lp cp], .int .i64 q, .int .i64 er]) (by simp [results, Tryz.results319, go_sem, k0, k1, k2, k3]) rfl ?_
    refine ⟨below_drewN ((below_four HA.out (Nat.le_refl _) _ _ _ _).alloc (by rw [size_four]; omega) _) _, _, by rw [← HQ.out], ⟨_, _, _, _, _, _, _, _, rfl⟩, valAns_fin HFIN.out (fun b hb hne => ?_) ?_⟩
    · exact (Below.heap_alloc _ _ _ (by rw [size_four]; exact hb)).trans (heap_four _ _ _ _ _ _ b hne)
    · show w2.heap.size ≤ (World.alloc _ _).heap.size
      rw [show ∀ (W : World) (o : Obj), (W.alloc o).heap.size = W.heap.size + 1 from fun W o => by simp, size_four]
      omega

set_option maxHeartbeats 4000000 in
set_option maxRecDepth 100000 in
theorem valType_at {p : Nat} {a : Option Addr} {cap : Nat} {ts : List Tk} (w : World) (hp : p ≤ ts.length) (ht : TkAt w a ts) (hc : ts.length ≤ cap) (hs : ts.length ≤ 9000) (hz : ∀ t ∈ ts, t.s.length ≤ 1000000) :
    Calls Tryz.prog 304 #[.slice a ts.length cap, .int .i64 (p : Int)] w (TyAnsP p ts.length w (typeP (ahead ts p))) := by
  have hb0 : Below w.heap.size w (w.alloc (.cells #[.string ⟨#[]⟩, .string ⟨#[]⟩] 57)) := (Below.refl _ w).alloc (Nat.le_refl _) _
  have HR := readerAt_at a ts.length cap p (w.alloc (.cells #[.string ⟨#[]⟩, .string ⟨#[]⟩] 57)) hp
  have hs0 : (w.alloc (.cells #[.string ⟨#[]⟩, .string ⟨#[]⟩] 57)).heap.size = w.heap.size + 1 := by simp
  have hr := rv_at hp hb0 ht hc hs hz
  rw [hs0] at hr HR
  have hX : Bt ((w.alloc (.cells #[.string ⟨#[]⟩, .string ⟨#[]⟩] 57)).alloc (.cells #[.slice a ts.length cap, .int .i64 (p : Int)] 329)) w.heap.size := (Bt.new w).keep (Below.heap_alloc _ _ _ (by simp))
  have hb1 : Below w.heap.size w ((w.alloc (.cells #[.string ⟨#[]⟩, .string ⟨#[]⟩] 57)).alloc (.cells #[.slice a ts.length cap, .int .i64 (p : Int)] 329)) := hb0.alloc (by simp) _
  have hs1 : ((w.alloc (.cells #[.string ⟨#[]⟩, .string ⟨#[]⟩] 57)).alloc (.cells #[.slice a ts.length cap, .int .i64 (p : Int)] 329)).heap.size = w.heap.size + 2 := by simp
  have HV := typeOf_any (R := w.heap.size + 1) (a := a) (cap := cap) (ts := ts) (p := p) _ hr
  clear hr hb0 hs0 hp
  cases ho : typeP (ahead ts p) with
  | none =>
    rw [ho] at HV
    go_enter Tryz.func304, Tryz.ntmps304
    go_wp2_with fail
    refine HR.mono ?_
    rintro e w1 ⟨rfl, rfl⟩
    go_wp2_with fail
    refine HV.mono ?_
    rintro e w2 ⟨rfl, ha⟩
    have hz2 := ha.size
    rw [hs1] at hz2
    have hlt2 : w.heap.size < w2.heap.size := by omega
    have hx2 : Bt w2 w.heap.size := hX.keep (ha.block _ (by rw [hs1]; omega) (by omega))
    have ha2 : Below w.heap.size w w2 := hb1.trans ((ha.mono (by rw [hs1]; omega)).below (by omega))
    have HF := Lib.hid (fun c0 c1 o => hx2.twoA hlt2 c0 c1 o)
    have HA := Lib.hid ha2
    obtain ⟨r0, r1, rf⟩ := hx2
    clear ha ha2 HV HR hX hb1 hs1 hz2 ho
    go_wp2_with fail
    obtain ⟨k0, k1⟩ := HF.out (.string ⟨#[]⟩) (.string ⟨#[]⟩) (.cells #[.string ⟨#[]⟩, .string ⟨#[]⟩] 57)
    refine bodyPost_ret (v := .tuple #[.agg #[.string ⟨#[]⟩, .string ⟨#[]⟩], .int .i64 (p : Int), .bool false]) (by simp [results, Tryz.results304, go_sem, k0, k1]) rfl ?_
    exact ⟨((HA.out.setCell (p := ⟨w.heap.size, 0, none⟩) (Nat.le_refl _) _).setCell (p := ⟨w.heap.size, 1, none⟩) (Nat.le_refl _) _).alloc (by rw [size_two]; omega) _, rfl⟩
  | some o =>
    obtain ⟨nm, ws, r⟩ := o
    rw [ho] at HV
    go_enter Tryz.func304, Tryz.ntmps304
    go_wp2_with fail
    refine HR.mono ?_
    rintro e w1 ⟨rfl, rfl⟩
    go_wp2_with fail
    refine HV.mono ?_
    rintro e w2 ⟨rfl, q, hl, hr, ha⟩
    have hz2 := ha.size
    rw [hs1] at hz2
    have hlt2 : w.heap.size < w2.heap.size := by omega
    have hx2 : Bt w2 w.heap.size := hX.keep (ha.block _ (by rw [hs1]; omega) (by omega))
    have ha2 : Below w.heap.size w w2 := hb1.trans ((ha.mono (by rw [hs1]; omega)).below (by omega))
    have hq : ts.length - r.length = q := by
      have := hr.hp
      rw [← hl, ahead_len]; omega
    have HQ := Lib.hid hq
    have c1 := hr.c1
    have hRlt : w.heap.size + 1 < w2.heap.size := by omega
    have HF := Lib.hid (fun c0 c1 o => hx2.twoA hlt2 c0 c1 o)
    have HA := Lib.hid ha2
    obtain ⟨r0, r1, rf⟩ := hx2
    clear ha ha2 HV HR hX hb1 hs1 hz2 ho hq hl hr
    go_upto_region 5 with fail
    go_region
    all_goals
      go_wp2_with fail
      obtain ⟨k0, k1⟩ := HF.out (.string ⟨nm.toArray⟩) (.string ⟨ws.toArray⟩) (.cells #[.string ⟨nm.toArray⟩, .string ⟨ws.toArray⟩] 57)
      refine bodyPost_ret (v := .tuple #[.agg #[.string ⟨nm.toArray⟩, .string ⟨ws.toArray⟩], .int .i64 q, .bool true]) (by simp [results, Tryz.results304, go_sem, k0, k1]) rfl ?_
      exact ⟨below_drewN (((HA.out.setCell (p := ⟨w.heap.size, 0, none⟩) (Nat.le_refl _) _).setCell (p := ⟨w.heap.size, 1, none⟩) (Nat.le_refl _) _).alloc (by rw [size_two]; omega) _) _, by rw [← HQ.out]⟩

end Go.Proofs.YtkfllppggjhhmaaGreatDoor
/-
  doc's parser in memory; its tokens.
-/
namespace Go.Proofs.YtkfllppggjhhmaaGreatDoor
open Go.RowKit

/-- What stays the same all along: blocks below N are older than the parse, the parser lies in block R, its tokens in a row at a, the text has z bytes. -/
structure Cx where
  N : Nat
  R : Nat
  a : Option Addr
  cap : Nat
  ts : List Tk
  z : Nat

def prCells (c : Cx) (k m p : Nat) (er wr : Nat) : Obj := .cells #[.slice c.a m c.cap, .int .i64 (p : Int), .int .i64 (c.z : Int), .int .i64 (k : Int), .int .i64 (er : Int), .int .i64 (wr : Int)] 93 (0, 0)

/-- The parser with k sets open, in state s. -/
structure Pv (c : Cx) (k : Nat) (s : Ms) (w : World) : Prop where
  bk : ∃ m p, w.heap[c.R]? = some (prCells c k m p s.er s.wr) ∧ p ≤ m ∧ m ≤ c.ts.length ∧ (c.ts.take m).drop p = s.l
  bad : Bad s
  tk : 0 < c.ts.length → ∃ g, c.a = some ⟨g, 0, none⟩ ∧ g ≠ c.R ∧ g < c.N ∧ ∀ j u, (tkCells c.ts)[j]? = some u → w.cell? ⟨g, j, none⟩ = some u
  tn : c.ts.length = 0 → c.a = none ∨ ∃ g, c.a = some ⟨g, 0, none⟩
  hN : c.N ≤ w.heap.size
  hR : c.R < c.N
  hc : c.ts.length ≤ c.cap
  hs : c.ts.length ≤ 600
  hz : c.z ≤ 4000
  hk : k ≤ 100
  sz : ∀ t ∈ c.ts, t.s.length ≤ 1000000

theorem Pv.lt {c : Cx} {k : Nat} {s : Ms} {w : World} (h : Pv c k s w) : c.R < w.heap.size := Nat.lt_of_lt_of_le h.hR h.hN
/-- Nothing below N has changed. -/
theorem Pv.keep {c : Cx} {k : Nat} {s : Ms} {w w' : World} (h : Pv c k s w) (hb : ∀ b, b < c.N → w'.heap[b]? = w.heap[b]?) (hN : c.N ≤ w'.heap.size) : Pv c k s w' := by
  refine ⟨?_, h.bad, fun h0 => ?_, h.tn, hN, h.hR, h.hc, h.hs, h.hz, h.hk, h.sz⟩
  · obtain ⟨m, p, h1, h2⟩ := h.bk
    exact ⟨m, p, (hb _ h.hR).trans h1, h2⟩
  · obtain ⟨g, e, hg, hl, hcell⟩ := h.tk h0
    exact ⟨g, e, hg, hl, fun j u hj => (World.cell?_of_block (a := ⟨g, j, none⟩) (hb g hl)).trans (hcell j u hj)⟩
theorem Pv.below {c : Cx} {k : Nat} {s : Ms} {w w' : World} {n : Nat} (h : Pv c k s w) (hb : Below n w w') (hn : c.N ≤ n) : Pv c k s w' :=
  h.keep (fun b hl => hb.block b (by omega)) (Nat.le_trans h.hN hb.size)
theorem Pv.alloc {c : Cx} {k : Nat} {s : Ms} {w : World} (h : Pv c k s w) (o : Obj) : Pv c k s (w.alloc o) := h.below ((Below.refl _ w).alloc (Nat.le_refl _) o) h.hN
theorem Pv.set {c : Cx} {k : Nat} {s : Ms} {w : World} (h : Pv c k s w) {q : Addr} (hq : c.N ≤ q.block) (v : Value) : Pv c k s (w.setCell q v) :=
  h.keep (fun b hl => Below.heap_setCell _ _ _ _ (by omega)) (by simpa [World.setCell] using h.hN)
theorem Pv.drewN {c : Cx} {k : Nat} {s : Ms} {w : World} (h : Pv c k s w) (n : Nat) : Pv c k s (w.drewN n) := h.keep (fun _ _ => rfl) h.hN
/-- The parser's own block has been written, nothing else below N. -/
theorem Pv.turn {c : Cx} {k k' : Nat} {s s' : Ms} {w w' : World} (h : Pv c k s w) {m p : Nat} (hb : w'.heap[c.R]? = some (prCells c k' m p s'.er s'.wr)) (hp : p ≤ m) (hm : m ≤ c.ts.length) (hl : (c.ts.take m).drop p = s'.l)
    (hbad : Bad s') (hk : k' ≤ 100) (ho : ∀ b, b < c.N → b ≠ c.R → w'.heap[b]? = w.heap[b]?) (hN : c.N ≤ w'.heap.size) : Pv c k' s' w' := by
  refine ⟨⟨m, p, hb, hp, hm, hl⟩, hbad, fun h0 => ?_, h.tn, hN, h.hR, h.hc, h.hs, h.hz, hk, h.sz⟩
  obtain ⟨g, e, hg, hlt, hcell⟩ := h.tk h0
  exact ⟨g, e, hg, hlt, fun j u hj => (World.cell?_of_block (a := ⟨g, j, none⟩) (ho g hlt hg)).trans (hcell j u hj)⟩

/-- What a call leaves: the parser in state s; nothing older has changed but it. -/
def Pw (c : Cx) (k : Nat) (s : Ms) (w w' : World) : Prop := Pv c k s w' ∧ Aw c.R w.heap.size w w'
theorem Pw.of {c : Cx} {k : Nat} {s : Ms} {w w' : World} (h : Pv c k s w) (hb : Below w.heap.size w w') : Pw c k s w w' := ⟨h.below hb h.hN, .of hb⟩

theorem prCell {c : Cx} {k m p er wr : Nat} {w : World} (h : w.heap[c.R]? = some (prCells c k m p er wr)) :
    w.cell? ⟨c.R, 0, none⟩ = some (.slice c.a m c.cap) ∧ w.cell? ⟨c.R, 1, none⟩ = some (.int .i64 (p : Int)) ∧ w.cell? ⟨c.R, 2, none⟩ = some (.int .i64 (c.z : Int)) ∧ w.cell? ⟨c.R, 3, none⟩ = some (.int .i64 (k : Int)) ∧
    w.cell? ⟨c.R, 4, none⟩ = some (.int .i64 (er : Int)) ∧ w.cell? ⟨c.R, 5, none⟩ = some (.int .i64 (wr : Int)) ∧ ∀ j, w.frozen? ⟨c.R, j, none⟩ = false :=
  ⟨Lib.cell_of_heap h 0, Lib.cell_of_heap h 1, Lib.cell_of_heap h 2, Lib.cell_of_heap h 3, Lib.cell_of_heap h 4, Lib.cell_of_heap h 5, fun j => by
    simp [World.frozen?, h, prCells]⟩

theorem take_drop_get {ts : List Tk} {m p : Nat} (hp : p < m) (hm : m ≤ ts.length) : ∃ r, (ts.take m).drop p = ts[p]'(by omega) :: r ∧ r = (ts.take m).drop (p + 1) := by
  have hl : p < (ts.take m).length := by rw [List.length_take]; omega
  refine ⟨_, ?_, rfl⟩
  rw [List.drop_eq_getElem_cons hl, List.getElem_take]
theorem take_drop_len {ts : List Tk} {m p : Nat} (hm : m ≤ ts.length) : ((ts.take m).drop p).length = m - p := by rw [List.length_drop, List.length_take]; omega

/-- The token ahead lies there; at the end there is none. -/
theorem Pv.tok {c : Cx} {k : Nat} {s : Ms} {w : World} (h : Pv c k s w) {m p : Nat} (hp : p ≤ m) (hm : m ≤ c.ts.length) (hl : (c.ts.take m).drop p = s.l) :
    (p = m ∧ s.l = []) ∨ (p < m ∧ ∃ t g, hdT s.l = t ∧ s.l = t :: s.l.tail ∧ s.l.tail = (c.ts.take m).drop (p + 1) ∧ c.a = some ⟨g, 0, none⟩ ∧ g < w.heap.size ∧ t.s.length ≤ 1000000 ∧ w.cell? ⟨g, p * 3, none⟩ = some (.int .i64 t.k) ∧ w.cell? ⟨g, p * 3 + 1, none⟩ = some (.string ⟨t.s.toArray⟩) ∧ w.cell? ⟨g, p * 3 + 2, none⟩ = some (.int .i64 t.at_)) := by
  by_cases he : p = m
  · left
    refine ⟨he, ?_⟩
    rw [← hl, he, List.drop_eq_nil_of_le (by rw [List.length_take]; omega)]
  · right
    have hlt : p < m := by omega
    obtain ⟨r, e1, e2⟩ := take_drop_get hlt hm
    obtain ⟨g, ha, _, hgN, hc⟩ := h.tk (by omega)
    obtain ⟨k0, k1, k2⟩ := tkCells_at c.ts p c.ts[p] (List.getElem?_eq_getElem (by omega))
    have hl1 : s.l = c.ts[p] :: r := hl.symm.trans e1
    refine ⟨hlt, c.ts[p], g, by rw [hl1]; rfl, by rw [hl1]; rfl, by rw [hl1]; exact e2, ha, Nat.lt_of_lt_of_le hgN h.hN, h.sz _ (List.getElem_mem (by omega)), hc _ _ k0, hc _ _ k1, hc _ _ k2⟩

set_option maxHeartbeats 2000000 in
set_option maxRecDepth 100000 in
theorem ptoken_any {c : Cx} {k : Nat} {s : Ms} (w : World) (h : Pv c k s w) : Calls Tryz.prog 241 #[.pointer (some ⟨c.R, 0, none⟩)] w fun e w' => e = .returned (.agg #[.int .i64 (hdT s.l).k, .string ⟨(hdT s.l).s.toArray⟩, .int .i64 (hdT s.l).at_]) ∧ Below w.heap.size w w' := by
  have hRlt := h.lt
  have hA := h.alloc (.cells #[.int .i64 0, .string ⟨#[]⟩, .int .i64 0] 150)
  obtain ⟨m, p, hbk, hp, hm, hl⟩ := hA.bk
  have hx := hA.tok hp hm hl
  obtain ⟨c0, c1, -, -, -, -, -⟩ := prCell hbk
  have hs := h.hs
  have hc := h.hc
  have hbA : Below w.heap.size w (w.alloc (.cells #[.int .i64 0, .string ⟨#[]⟩, .int .i64 0] 150)) := (Below.refl _ w).alloc (Nat.le_refl _) _
  clear hA hbk hl h
  rcases hx with ⟨he, hst⟩ | ⟨hlt, t, g, ht, -, -, ha, hg, hsz, g0, g1, g2⟩
  · have e1 : ((p : Int) == (m : Int)) = true := by simp; omega
    rw [hst]
    clear he hst
    go_enter Tryz.func241, Tryz.ntmps241
    go_upto_region 1 with fail
    go_quiet (fail)
    go_wp2_with fail
    refine bodyPost_ret (v := .agg #[.int .i64 0, .string ⟨#[]⟩, .int .i64 0]) (by simp [results, Tryz.results241, go_sem]) rfl ?_
    exact ⟨rfl, below_three (below_drewN hbA _) _ _ _⟩
  · have e1 : ((p : Int) == (m : Int)) = false := by simp; omega
    rw [ht]
    rw [ha] at c0
    have hmc : m ≤ c.cap := by omega
    clear ht ha hm hc
    generalize c.cap = cp at *
    go_enter Tryz.func241, Tryz.ntmps241
    go_upto_region 1 with fail
    go_quiet (fail)
    go_upto_region 3 with fail
    go_region
    all_goals
      go_wp2_with fail
      refine bodyPost_ret (v := .agg #[.int .i64 t.k, .string ⟨t.s.toArray⟩, .int .i64 t.at_]) (by simp [results, Tryz.results241, go_sem]) rfl ?_
      exact ⟨rfl, below_three (below_drewN hbA _) _ _ _⟩

set_option maxHeartbeats 2000000 in
set_option maxRecDepth 100000 in
theorem dSign_any (t : Tk) (g : List UInt8) (w : World) : Calls Tryz.prog 247 #[.agg #[.int .i64 t.k, .string ⟨t.s.toArray⟩, .int .i64 t.at_], .string ⟨g.toArray⟩] w fun e w' => e = .returned (.bool (isSg g t)) ∧ Below w.heap.size w w' := by
  have hbA : ∀ o, Below w.heap.size w (w.alloc o) := fun o => (Below.refl _ w).alloc (Nat.le_refl _) o
  cases hk : ((t.k : Int) == 5) with
  | false =>
    have HS := Lib.hid (show isSg g t = false by unfold isSg; rw [show (t.k == 5) = false by simp at hk ⊢; omega]; rfl)
    go_enter Tryz.func247, Tryz.ntmps247
    go_wp2_with fail
    go_ret
    exact ⟨by rw [HS.out]; rfl, hbA _⟩
  | true =>
    have HS := Lib.hid (show isSg g t = (t.s == g) by unfold isSg; rw [show (t.k == 5) = true by simp at hk ⊢; omega]; rfl)
    go_enter Tryz.func247, Tryz.ntmps247
    go_wp2_with fail
    go_ret
    refine ⟨?_, hbA _⟩
    rw [HS.out]; rfl

end Go.Proofs.YtkfllppggjhhmaaGreatDoor
/-
  doc's parser: what stands next, what is taken, what is wrong.
-/
namespace Go.Proofs.YtkfllppggjhhmaaGreatDoor
open Go.RowKit

set_option maxRecDepth 100000 in
theorem pSign_any {c : Cx} {k : Nat} {s : Ms} (g : List UInt8) (w : World) (h : Pv c k s w) : Calls Tryz.prog 191 #[.pointer (some ⟨c.R, 0, none⟩), .string ⟨g.toArray⟩] w fun e w' => e = .returned (.bool (isSg g (hdT s.l))) ∧ Below w.heap.size w w' := by
  have HT := ptoken_any w h
  clear h
  generalize hdT s.l = t at *
  go_enter Tryz.func191, Tryz.ntmps191
  go_wp2_with fail
  refine HT.mono ?_
  rintro e w1 ⟨rfl, hb⟩
  go_wp2_with fail
  refine (dSign_any t g w1).mono ?_
  rintro e w2 ⟨rfl, hb2⟩
  go_wp2_with fail
  go_ret
  exact ⟨rfl, hb.trans (hb2.mono hb.size)⟩

theorem kBeq (n : Nat) (m : Nat) : ((n : Int) == (m : Int)) = (n == m) := by
  rw [Bool.eq_iff_iff, beq_iff_eq, beq_iff_eq]; omega

theorem tokField (k0 : Int) (s0 : ByteArray) (a0 : Int) (W : World) : (Instr.field 150 (.agg #[.int .i64 k0, .string s0, .int .i64 a0]) 0).run Tryz.prog W = .ok (.int .i64 k0) W := by kernel_rfl
theorem tokField1 (k0 : Int) (s0 : ByteArray) (a0 : Int) (W : World) : (Instr.field 150 (.agg #[.int .i64 k0, .string s0, .int .i64 a0]) 1).run Tryz.prog W = .ok (.string s0) W := by kernel_rfl
set_option maxRecDepth 100000 in
theorem pName_any {c : Cx} {k : Nat} {s : Ms} (w : World) (h : Pv c k s w) : Calls Tryz.prog 240 #[.pointer (some ⟨c.R, 0, none⟩)] w fun e w' => e = .returned (.bool ((hdT s.l).k == 1)) ∧ Below w.heap.size w w' := by
  have HT := ptoken_any w h
  clear h
  generalize hdT s.l = t at *
  have HK := Lib.hid (kBeq t.k 1)
  have HF := tokField t.k ⟨t.s.toArray⟩ t.at_
  go_enter Tryz.func240, Tryz.ntmps240
  go_wp2_with fail
  refine HT.mono ?_
  rintro e w1 ⟨rfl, hb⟩
  go_wp2_with fail
  go_ret
  exact ⟨by rw [← HK.out]; rfl, hb⟩

set_option maxRecDepth 100000 in
theorem pWord_any {c : Cx} {k : Nat} {s : Ms} (g : List UInt8) (w : World) (h : Pv c k s w) : Calls Tryz.prog 185 #[.pointer (some ⟨c.R, 0, none⟩), .string ⟨g.toArray⟩] w fun e w' => e = .returned (.bool (isWd g (hdT s.l))) ∧ Below w.heap.size w w' := by
  have HN := pName_any w h
  have HT := fun W hb => ptoken_any W (h.below (n := w.heap.size) hb h.hN)
  clear h
  unfold isWd
  generalize hdT s.l = t at *
  have HF := tokField1 t.k ⟨t.s.toArray⟩ t.at_
  cases hk : (t.k == 1) with
  | false =>
    rw [hk] at HN
    clear hk
    go_enter Tryz.func185, Tryz.ntmps185
    go_wp2_with fail
    refine HN.mono ?_
    rintro e w1 ⟨rfl, hb⟩
    go_wp2_with fail
    go_ret
    exact ⟨rfl, hb⟩
  | true =>
    rw [hk] at HN
    clear hk
    go_enter Tryz.func185, Tryz.ntmps185
    go_wp2_with fail
    refine HN.mono ?_
    rintro e w1 ⟨rfl, hb⟩
    go_wp2_with fail
    refine (HT w1 hb).mono ?_
    rintro e w2 ⟨rfl, hb2⟩
    go_wp2_with fail
    go_ret
    exact ⟨rfl, hb.trans (hb2.mono hb.size)⟩

/-- The parser behind a token. -/
theorem Pv.next {c : Cx} {k : Nat} {s : Ms} {w : World} (h : Pv c k s w) {m p : Nat} (hbk : w.heap[c.R]? = some (prCells c k m p s.er s.wr)) (hm : m ≤ c.ts.length) (hl : (c.ts.take m).drop p = s.l) (hp : p < m) :
    Pw c k (tlM s) w (w.setCell ⟨c.R, 1, none⟩ (.int .i64 ((p : Int) + 1))) := by
  refine ⟨h.turn (m := m) (p := p + 1) ?_ (by omega) hm ?_ (bad_tl h.bad) h.hk (fun b _ hb => Below.heap_setCell _ _ _ _ hb) (by simpa [World.setCell] using h.hN), (Aw.refl _ _ _).set _⟩
  · rw [Lib.heap_setCell_same hbk]; rfl
  · show _ = s.l.tail
    rw [← hl, List.tail_drop]

theorem sg_pos {c : Cx} {k : Nat} {s : Ms} {w : World} (h : Pv c k s w) {m p : Nat} (hp : p ≤ m) (hm : m ≤ c.ts.length) (hl : (c.ts.take m).drop p = s.l) (hk : (hdT s.l).k ≠ 0) : p < m := by
  rcases h.tok hp hm hl with ⟨_, e⟩ | ⟨h, _⟩
  · rw [e] at hk; exact absurd rfl hk
  · exact h

set_option maxHeartbeats 2000000 in
set_option maxRecDepth 100000 in
theorem pTakeSign_any {c : Cx} {k : Nat} {s : Ms} (g : List UInt8) (w : World) (h : Pv c k s w) : Calls Tryz.prog 243 #[.pointer (some ⟨c.R, 0, none⟩), .string ⟨g.toArray⟩] w fun e w' => e = .returned (.bool (isSg g (hdT s.l))) ∧ Pw c k (if isSg g (hdT s.l) then tlM s else s) w w' := by
  have HS := pSign_any g w h
  cases hi : isSg g (hdT s.l) with
  | false =>
    rw [hi] at HS
    have HH := Lib.hid h
    clear h hi
    go_enter Tryz.func243, Tryz.ntmps243
    go_wp2_with fail
    refine HS.mono ?_
    rintro e w1 ⟨rfl, hb⟩
    go_wp2_with fail
    go_ret
    exact ⟨rfl, .of HH.out hb⟩
  | true =>
    rw [hi] at HS
    have hk5 : (hdT s.l).k ≠ 0 := by
      unfold isSg at hi
      rw [Bool.and_eq_true, beq_iff_eq] at hi
      rw [hi.1]; decide
    have HH := Lib.hid h
    have hs := h.hs
    clear hi
    go_enter Tryz.func243, Tryz.ntmps243
    go_wp2_with fail
    refine HS.mono ?_
    rintro e w1 ⟨rfl, hb⟩
    have h1 := h.below hb h.hN
    obtain ⟨m, p, hbk, hp, hm, hl⟩ := h1.bk
    have hlt := sg_pos h1 hp hm hl hk5
    have HN := Lib.hid (h1.next hbk hm hl hlt)
    obtain ⟨-, c1, -, -, -, -, fz⟩ := prCell hbk
    have hw : IntKind.i64.wrap ((p : Int) + 1) = (p : Int) + 1 := IntWalk.i64_in _ (by omega)
    have hRl := h1.lt
    clear h h1 HS hk5 hbk hl hm hp hlt hs
    go_wp2_with fail
    go_ret
    exact ⟨rfl, HN.out.1, (Aw.of hb).trans (HN.out.2.mono hb.size)⟩

set_option maxHeartbeats 2000000 in
set_option maxRecDepth 100000 in
theorem pTakeWord_any {c : Cx} {k : Nat} {s : Ms} (g : List UInt8) (w : World) (h : Pv c k s w) : Calls Tryz.prog 136 #[.pointer (some ⟨c.R, 0, none⟩), .string ⟨g.toArray⟩] w fun e w' => e = .returned (.bool (isWd g (hdT s.l))) ∧ Pw c k (if isWd g (hdT s.l) then tlM s else s) w w' := by
  have HS := pWord_any g w h
  cases hi : isWd g (hdT s.l) with
  | false =>
    rw [hi] at HS
    have HH := Lib.hid h
    clear h hi
    go_enter Tryz.func136, Tryz.ntmps136
    go_wp2_with fail
    refine HS.mono ?_
    rintro e w1 ⟨rfl, hb⟩
    go_wp2_with fail
    go_ret
    exact ⟨rfl, .of HH.out hb⟩
  | true =>
    rw [hi] at HS
    have hk5 : (hdT s.l).k ≠ 0 := by
      unfold isWd at hi
      rw [Bool.and_eq_true, beq_iff_eq] at hi
      rw [hi.1]; decide
    have HH := Lib.hid h
    have hs := h.hs
    clear hi
    go_enter Tryz.func136, Tryz.ntmps136
    go_wp2_with fail
    refine HS.mono ?_
    rintro e w1 ⟨rfl, hb⟩
    have h1 := h.below hb h.hN
    obtain ⟨m, p, hbk, hp, hm, hl⟩ := h1.bk
    have hlt := sg_pos h1 hp hm hl hk5
    have HN := Lib.hid (h1.next hbk hm hl hlt)
    obtain ⟨-, c1, -, -, -, -, fz⟩ := prCell hbk
    have hw : IntKind.i64.wrap ((p : Int) + 1) = (p : Int) + 1 := IntWalk.i64_in _ (by omega)
    have hRl := h1.lt
    clear h h1 HS hk5 hbk hl hm hp hlt hs
    go_wp2_with fail
    go_ret
    exact ⟨rfl, HN.out.1, (Aw.of hb).trans (HN.out.2.mono hb.size)⟩

/-- The parser behind its first fault. -/
theorem Pv.failed {c : Cx} {k e x : Nat} {s : Ms} {w W : World} (h : Pv c k s w) (h0 : s.er = 0) {m p : Nat} (hm : m ≤ c.ts.length) (hp : p ≤ m) (hx : W.heap[c.R]? = some (prCells c k p p e x)) (hxe : x = plM c.z s.l)
    (ho : ∀ b, b ≠ c.R → W.heap[b]? = w.heap[b]?) (hW : W.heap.size = w.heap.size) (os : W.os = w.os) (tp : W.tape = w.tape) (out : W.output = w.output) : Pw c k (failM c.z e s) w W := by
  have hf : failM c.z e s = ⟨[], e, x⟩ := by rw [failM, if_pos h0, hxe]
  rw [hf]
  refine ⟨h.turn (m := p) (p := p) hx (Nat.le_refl _) (by omega) ?_ (fun _ => rfl) h.hk (fun b _ hb => ho b hb) (by rw [hW]; exact h.hN), os, tp, out, by omega, fun b _ hb => ho b hb⟩
  exact List.drop_eq_nil_of_le (by rw [List.length_take]; omega)

theorem slice_all (T : TypeId) (hu : Tryz.prog.underlying T = some (.slice 150)) (a : Option Addr) (ha : a = none ∨ ∃ g, a = some ⟨g, 0, none⟩) (m cap p : Nat) (hp : p ≤ cap) (wx : World) :
    (Instr.slice T (.slice a m cap) none (some (.int .i64 (p : Int))) none).run Tryz.prog wx = .ok (.slice a p cap) wx := by
  have he : Tryz.prog.elem T = 150 := by simp [Program.elem, hu]
  have h1 := run_slice_h (P := Tryz.prog) (w := wx) T a m cap (by rw [he]; exact hu) .i64 (p : Int) (by omega) (by omega)
  refine h1.trans ?_
  rw [he]
  rcases ha with rfl | ⟨g, rfl⟩
  · simp [go_sem, sliced]
  · simp [go_sem, sliced, Addr.add]

end Go.Proofs.YtkfllppggjhhmaaGreatDoor
/-
  doc's parser: a fault; what must stand next.
-/
namespace Go.Proofs.YtkfllppggjhhmaaGreatDoor
open Go.RowKit

theorem Pv.addr {c : Cx} {k : Nat} {s : Ms} {w : World} (h : Pv c k s w) : c.a = none ∨ ∃ g, c.a = some ⟨g, 0, none⟩ := by
  by_cases h0 : 0 < c.ts.length
  · obtain ⟨g, e, _⟩ := h.tk h0
    exact .inr ⟨g, e⟩
  · exact h.tn (by omega)

set_option maxHeartbeats 4000000 in
set_option maxRecDepth 100000 in
theorem pFail_any {c : Cx} {k : Nat} {s : Ms} (e : Nat) (w : World) (h : Pv c k s w) : Calls Tryz.prog 242 #[.pointer (some ⟨c.R, 0, none⟩), .int .i64 (e : Int)] w fun x w' => x = .returned (.tuple #[]) ∧ Pw c k (failM c.z e s) w w' := by
  obtain ⟨m, p, hbk, hp, hm, hl⟩ := h.bk
  have hRlt := h.lt
  have HH := Lib.hid h
  have hx := h.tok hp hm hl
  have HA := h.addr
  have hc := h.hc
  have hs := h.hs
  have hpc : p ≤ c.cap := by omega
  by_cases he : s.er = 0
  · have HSL := slice_all 88 Tryz.underlying88 c.a HA m c.cap p hpc
    obtain ⟨c0, c1, c2, -, c4, c5, fz⟩ := prCell hbk
    rw [he] at c4
    rcases hx with ⟨hpm, hst⟩ | ⟨hlt, t, g, ht, htl, -, ha, hg, hsz, g0, g1, g2⟩
    · have hd : decide ((p : Int) < (m : Int)) = false := decide_eq_false (by omega)
      have hd2 : decide (p < m) = false := decide_eq_false (by omega)
      have HN := fun (W : World) (hW1 : W.heap = ((((w.setCell ⟨c.R, 4, none⟩ (.int .i64 e)).setCell ⟨c.R, 5, none⟩ (.int .i64 c.z)).setCell ⟨c.R, 0, none⟩ (.slice c.a p c.cap))).heap) (h2 : W.os = w.os) (h3 : W.tape = w.tape) (h4 : W.output = w.output) =>
        h.failed (e := e) (x := c.z) (W := W) he hm hp (by rw [hW1, Lib.heap_setCell_same (Lib.heap_setCell_same (Lib.heap_setCell_same hbk _) _)]; rfl) (by rw [hst]; rfl) (fun b hb => by rw [hW1, Below.heap_setCell _ _ _ _ hb, Below.heap_setCell _ _ _ _ hb, Below.heap_setCell _ _ _ _ hb]) (by rw [hW1]; simp [World.setCell]) h2 h3 h4
      have HNN := Lib.hid HN
      clear h hbk hl hm hp hc hs hst hpm he HN HA hpc HH
      go_enter Tryz.func242, Tryz.ntmps242
      go_upto_region 3 with fail
      go_quiet (fail)
      go_upto_region 5 with fail
      go_region
      all_goals
        go_wp2_with fail
        go_end0
        exact ⟨rfl, HNN.out _ rfl rfl rfl rfl⟩
    · have hd : decide ((p : Int) < (m : Int)) = true := decide_eq_true (by omega)
      have hd2 : decide (p < m) = true := decide_eq_true (by omega)
      have hgR : g ≠ c.R := by
        obtain ⟨g', e', hgR, _⟩ := h.tk (by omega)
        rw [ha] at e'
        injection e' with e'
        injection e' with e' _ _
        rw [e']; exact hgR
      have HN := fun (W : World) (hW1 : W.heap = ((((w.setCell ⟨c.R, 4, none⟩ (.int .i64 e)).setCell ⟨c.R, 5, none⟩ (.int .i64 c.z)).setCell ⟨c.R, 5, none⟩ (.int .i64 t.at_)).setCell ⟨c.R, 0, none⟩ (.slice c.a p c.cap)).heap) (h2 : W.os = w.os) (h3 : W.tape = w.tape) (h4 : W.output = w.output) =>
        h.failed (e := e) (x := t.at_) (W := W) he hm hp (by rw [hW1, Lib.heap_setCell_same (Lib.heap_setCell_same (Lib.heap_setCell_same (Lib.heap_setCell_same hbk _) _) _)]; rfl) (by rw [htl]; rfl) (fun b hb => by rw [hW1, Below.heap_setCell _ _ _ _ hb, Below.heap_setCell _ _ _ _ hb, Below.heap_setCell _ _ _ _ hb, Below.heap_setCell _ _ _ _ hb]) (by rw [hW1]; simp [World.setCell]) h2 h3 h4
      have HNN := Lib.hid HN
      have hmc : m ≤ c.cap := by omega
      rw [ha] at c0 HSL
      have HAA := Lib.hid ha
      clear h hbk hl hm hp hc hs he HN HA hpc htl ht g0 g1 hsz HH ha
      go_enter Tryz.func242, Tryz.ntmps242
      go_upto_region 3 with fail
      go_quiet (fail)
      go_upto_region 4 with fail
      go_region
      all_goals
        go_upto_region 5 with fail
        go_region
        all_goals
          go_wp2_with fail
          go_end0
          exact ⟨rfl, HNN.out _ (by rw [HAA.out]; rfl) rfl rfl rfl⟩
  · obtain ⟨-, -, -, -, c4, -, -⟩ := prCell hbk
    have hd : ((s.er : Int) != 0) = true := by simp; omega
    have HX := Lib.hid (show Pw c k (failM c.z e s) w w from by
      rw [failM, if_neg he]
      exact .of h (Below.refl _ _))
    clear h hbk hl hm hp hx HA hc hs hpc he HH
    go_enter Tryz.func242, Tryz.ntmps242
    go_wp2_with fail
    refine bodyPost_ret (v := .tuple #[]) (results_none rfl _ _ _) rfl ?_
    exact ⟨rfl, HX.out⟩

end Go.Proofs.YtkfllppggjhhmaaGreatDoor
