/-
  What value.Value and value.Type answer, from any token of a row on.
-/
import Derived.Test.YtkahnlgedacppaaGreatDoorMV18
import Derived.Test.YtkahnlgedacppaaGreatDoorMDm
import Derived.Lib.BufferMore
namespace Go.Proofs.YtkahnlgedacppaaGreatDoor
open Go.RowKit

set_option maxHeartbeats 1000000 in
theorem readerAt_at (a : Option Addr) (n cap p : Nat) (w : World) (hp : p ≤ n) : Calls Tryz.prog 283 #[.slice a n cap, .int .i64 (p : Int)] w fun e w' => e = .returned (.pointer (some ⟨w.heap.size, 0, none⟩)) ∧ w' = w.alloc (.cells #[.slice a n cap, .int .i64 (p : Int)] 303) := by
  have hd0 : decide ((p : Int) < 0) = false := decide_eq_false (by omega)
  have hd : decide (n < p) = false := decide_eq_false (by omega)
  clear hp
  go_enter Tryz.func283, Tryz.ntmps283
  go_wp2_with fail
  go_ret
  exact ⟨rfl, rfl⟩

theorem rv_at {w W : World} {a : Option Addr} {cap : Nat} {ts : List Tk} {p : Nat} (hp : p ≤ ts.length) (hb : Below w.heap.size w W) (ht : TkO w a ts) (hc : ts.length ≤ cap) (hs : ts.length ≤ 9000) (hz : ∀ t ∈ ts, t.s.length ≤ 1000000) : Rv (W.alloc (.cells #[.slice a ts.length cap, .int .i64 (p : Int)] 303)) W.heap.size a cap ts p := by
  have hbk : (W.alloc (.cells #[.slice a ts.length cap, .int .i64 (p : Int)] 303)).heap[W.heap.size]? = some (.cells #[.slice a ts.length cap, .int .i64 (p : Int)] 303 (0, 0)) := heap_alloc_new _ _
  have hsz := hb.size
  refine ⟨Lib.cell_of_heap hbk 0, Lib.cell_of_heap hbk 1, fun j => by go_simp, hp, hc, hs, hz, fun h0 => ?_⟩
  obtain ⟨g, off, e, hcell⟩ := ht h0
  obtain ⟨u, hu⟩ := tkCells_first h0
  have hg := cell_lt (hcell 0 u hu)
  refine ⟨g, off, e, by omega, fun j u hj => ?_⟩
  rw [World.cell?_of_block (a := ⟨g, off + j, none⟩) (Below.heap_alloc _ _ _ (by show g < W.heap.size; omega))]
  exact (World.cell?_of_block (a := ⟨g, off + j, none⟩) (hb.block g hg)).trans (hcell j u hj)

/-- What Type answers of a row of n tokens, from place p on. -/
def TyAnsP (p n : Nat) (w : World) (o : Option (List UInt8 × List UInt8 × List Sk)) (e : Ending) (w' : World) : Prop :=
  Below w.heap.size w w' ∧ match o with
    | none => e = .returned (.tuple #[.agg #[.string ⟨#[]⟩, .string ⟨#[]⟩], .int .i64 (p : Int), .bool false])
    | some (nm, ws, r) => e = .returned (.tuple #[.agg #[.string ⟨nm.toArray⟩, .string ⟨ws.toArray⟩], .int .i64 ((n - r.length : Nat) : Int), .bool true])

set_option maxHeartbeats 4000000 in
set_option maxRecDepth 100000 in
theorem valValue_at {p : Nat} {a : Option Addr} {cap : Nat} {ts : List Tk} (w : World) (hp : p ≤ ts.length) (ht : TkO w a ts) (hc : ts.length ≤ cap) (hs : ts.length ≤ 9000) (hz : ∀ t ∈ ts, t.s.length ≤ 1000000) :
    Calls Tryz.prog 287 #[.slice a ts.length cap, .int .i64 (p : Int)] w (ValAns ts.length w (pvT 12 (ahead ts p))) := by
  have hb0 : Below w.heap.size w (w.alloc (.cells #[.int .i64 0, .string ⟨#[]⟩, .slice none 0 0, .slice none 0 0] 52)) := (Below.refl _ w).alloc (Nat.le_refl _) _
  have HR := readerAt_at a ts.length cap p (w.alloc (.cells #[.int .i64 0, .string ⟨#[]⟩, .slice none 0 0, .slice none 0 0] 52)) hp
  have hs0 : (w.alloc (.cells #[.int .i64 0, .string ⟨#[]⟩, .slice none 0 0, .slice none 0 0] 52)).heap.size = w.heap.size + 1 := by simp
  have hr := rv_at hp hb0 ht hc hs hz
  rw [hs0] at hr HR
  have hX : Bx ((w.alloc (.cells #[.int .i64 0, .string ⟨#[]⟩, .slice none 0 0, .slice none 0 0] 52)).alloc (.cells #[.slice a ts.length cap, .int .i64 (p : Int)] 303)) w.heap.size := (Bx.new w).keep (Below.heap_alloc _ _ _ (by simp))
  have hb1 : Below w.heap.size w ((w.alloc (.cells #[.int .i64 0, .string ⟨#[]⟩, .slice none 0 0, .slice none 0 0] 52)).alloc (.cells #[.slice a ts.length cap, .int .i64 (p : Int)] 303)) := hb0.alloc (by simp) _
  have hs1 : ((w.alloc (.cells #[.int .i64 0, .string ⟨#[]⟩, .slice none 0 0, .slice none 0 0] 52)).alloc (.cells #[.slice a ts.length cap, .int .i64 (p : Int)] 303)).heap.size = w.heap.size + 2 := by simp
  have HV := vvalue_any (R := w.heap.size + 1) (a := a) (cap := cap) (ts := ts) 12 1 rfl p _ hr
  clear hr hb0 hs0 hp
  generalize pvT 12 (ahead ts p) = RV at *
  obtain ⟨x, l', er⟩ := RV
  go_enter Tryz.func287, Tryz.ntmps287
  go_wp2_with fail
  refine HR.mono ?_
  rintro e w1 ⟨rfl, rfl⟩
  go_wp2_with fail
  refine HV.mono ?_
  rintro e w2 ⟨⟨q, hl, hr, ha⟩, hv⟩
  dsimp only at hl hv
  have hz2 := ha.size
  rw [hs1] at hz2
  have hlt2 : w.heap.size < w2.heap.size := by omega
  have hx2 : Bx w2 w.heap.size := hX.keep (ha.block _ (by rw [hs1]; omega) (by omega))
  have ha2 : Below w.heap.size w w2 := hb1.trans ((ha.mono (by rw [hs1]; omega)).below (by omega))
  have hq : ts.length - l'.length = q := by
    have := hr.hp
    rw [← hl, ahead_len]; omega
  obtain ⟨v, rfl, ⟨k, s, an, ln, cn, ap, lp, cp, rfl⟩, hfin⟩ : ∃ v, e = .returned (.tuple #[v, .int .i64 er]) ∧ (∃ k s an ln cn ap lp cp, v = .agg #[.int .i64 k, .string s, .slice an ln cn, .slice ap lp cp]) ∧
      (if er = 0 then RdD w2 (fun b => w.heap.size + 2 ≤ b ∧ b < w2.heap.size) 13 x v else v = leaf 0 ⟨#[]⟩) := by
    by_cases he : er = 0
    · subst he
      rw [if_pos rfl] at hv
      obtain ⟨v, rfl, hR⟩ := hv
      have hs : ∃ k s an ln cn ap lp cp, v = .agg #[.int .i64 k, .string s, .slice an ln cn, .slice ap lp cp] := by
        obtain ⟨an, cn, ap, cp, e⟩ := hR.shape
        exact ⟨_, _, _, _, _, _, _, _, e⟩
      refine ⟨v, rfl, hs, ?_⟩
      rw [if_pos rfl]
      rw [hs1] at hR
      exact hR
    · rw [if_neg he] at hv
      refine ⟨_, hv.1, ⟨_, _, _, _, _, _, _, _, rfl⟩, ?_⟩
      rw [if_neg he]
  have HQ := Lib.hid hq
  have c1 := hr.c1
  have hRlt : w.heap.size + 1 < w2.heap.size := by omega
  have HF := Lib.hid (fun c0 c1 c2 c3 o => bx_fourA hx2 c0 c1 c2 c3 o)
  have HA := Lib.hid ha2
  have HFIN := Lib.hid hfin
  obtain ⟨r0, r1, r2, r3, rf⟩ := hx2
  clear hv hq ha ha2 hr hl HV HR hX hb1 hs1 hz2 hfin
  go_upto_region 3 with fail
  go_region
  all_goals
    go_wp2_with fail
    obtain ⟨k0, k1, k2, k3⟩ := HF.out (.int .i64 k) (.string s) (.slice an ln cn) (.slice ap lp cp) (.cells #[.int .i64 k, .string s, .slice an ln cn, .slice ap lp cp] 52)
    refine bodyPost_ret (v := .tuple #[.agg #[.int .i64 k, .string s, .slice an ln cn, .slice ap lp cp], .int .i64 q, .int .i64 er]) (by simp [results, Tryz.results287, go_sem, k0, k1, k2, k3]) rfl ?_
    refine ⟨below_drewN ((below_four HA.out (Nat.le_refl _) _ _ _ _).alloc (by rw [size_four]; omega) _) _, _, by rw [← HQ.out], ⟨_, _, _, _, _, _, _, _, rfl⟩, valAns_fin HFIN.out (fun b hb hne => ?_) ?_⟩
    · exact (Below.heap_alloc _ _ _ (by rw [size_four]; exact hb)).trans (heap_four _ _ _ _ _ _ b hne)
    · show w2.heap.size ≤ (World.alloc _ _).heap.size
      rw [show ∀ (W : World) (o : Obj), (W.alloc o).heap.size = W.heap.size + 1 from fun W o => by simp, size_four]
      omega

set_option maxHeartbeats 4000000 in
set_option maxRecDepth 100000 in
theorem valType_at {p : Nat} {a : Option Addr} {cap : Nat} {ts : List Tk} (w : World) (hp : p ≤ ts.length) (ht : TkO w a ts) (hc : ts.length ≤ cap) (hs : ts.length ≤ 9000) (hz : ∀ t ∈ ts, t.s.length ≤ 1000000) :
    Calls Tryz.prog 232 #[.slice a ts.length cap, .int .i64 (p : Int)] w (TyAnsP p ts.length w (typeP (ahead ts p))) := by
  have hb0 : Below w.heap.size w (w.alloc (.cells #[.string ⟨#[]⟩, .string ⟨#[]⟩] 47)) := (Below.refl _ w).alloc (Nat.le_refl _) _
  have HR := readerAt_at a ts.length cap p (w.alloc (.cells #[.string ⟨#[]⟩, .string ⟨#[]⟩] 47)) hp
  have hs0 : (w.alloc (.cells #[.string ⟨#[]⟩, .string ⟨#[]⟩] 47)).heap.size = w.heap.size + 1 := by simp
  have hr := rv_at hp hb0 ht hc hs hz
  rw [hs0] at hr HR
  have hX : Bt ((w.alloc (.cells #[.string ⟨#[]⟩, .string ⟨#[]⟩] 47)).alloc (.cells #[.slice a ts.length cap, .int .i64 (p : Int)] 303)) w.heap.size := (Bt.new w).keep (Below.heap_alloc _ _ _ (by simp))
  have hb1 : Below w.heap.size w ((w.alloc (.cells #[.string ⟨#[]⟩, .string ⟨#[]⟩] 47)).alloc (.cells #[.slice a ts.length cap, .int .i64 (p : Int)] 303)) := hb0.alloc (by simp) _
  have hs1 : ((w.alloc (.cells #[.string ⟨#[]⟩, .string ⟨#[]⟩] 47)).alloc (.cells #[.slice a ts.length cap, .int .i64 (p : Int)] 303)).heap.size = w.heap.size + 2 := by simp
  have HV := typeOf_any (R := w.heap.size + 1) (a := a) (cap := cap) (ts := ts) (p := p) _ hr
  clear hr hb0 hs0 hp
  cases ho : typeP (ahead ts p) with
  | none =>
    rw [ho] at HV
    go_enter Tryz.func232, Tryz.ntmps232
    go_wp2_with fail
    refine HR.mono ?_
    rintro e w1 ⟨rfl, rfl⟩
    go_wp2_with fail
    refine HV.mono ?_
    rintro e w2 ⟨rfl, ha⟩
    have hz2 := ha.size
    rw [hs1] at hz2
    have hlt2 : w.heap.size < w2.heap.size := by omega
    have hx2 : Bt w2 w.heap.size := hX.keep (ha.block _ (by rw [hs1]; omega) (by omega))
    have ha2 : Below w.heap.size w w2 := hb1.trans ((ha.mono (by rw [hs1]; omega)).below (by omega))
    have HF := Lib.hid (fun c0 c1 o => hx2.twoA hlt2 c0 c1 o)
    have HA := Lib.hid ha2
    obtain ⟨r0, r1, rf⟩ := hx2
    clear ha ha2 HV HR hX hb1 hs1 hz2 ho
    go_wp2_with fail
    obtain ⟨k0, k1⟩ := HF.out (.string ⟨#[]⟩) (.string ⟨#[]⟩) (.cells #[.string ⟨#[]⟩, .string ⟨#[]⟩] 47)
    refine bodyPost_ret (v := .tuple #[.agg #[.string ⟨#[]⟩, .string ⟨#[]⟩], .int .i64 (p : Int), .bool false]) (by simp [results, Tryz.results232, go_sem, k0, k1]) rfl ?_
    exact ⟨((HA.out.setCell (p := ⟨w.heap.size, 0, none⟩) (Nat.le_refl _) _).setCell (p := ⟨w.heap.size, 1, none⟩) (Nat.le_refl _) _).alloc (by rw [size_two]; omega) _, rfl⟩
  | some o =>
    obtain ⟨nm, ws, r⟩ := o
    rw [ho] at HV
    go_enter Tryz.func232, Tryz.ntmps232
    go_wp2_with fail
    refine HR.mono ?_
    rintro e w1 ⟨rfl, rfl⟩
    go_wp2_with fail
    refine HV.mono ?_
    rintro e w2 ⟨rfl, q, hl, hr, ha⟩
    have hz2 := ha.size
    rw [hs1] at hz2
    have hlt2 : w.heap.size < w2.heap.size := by omega
    have hx2 : Bt w2 w.heap.size := hX.keep (ha.block _ (by rw [hs1]; omega) (by omega))
    have ha2 : Below w.heap.size w w2 := hb1.trans ((ha.mono (by rw [hs1]; omega)).below (by omega))
    have hq : ts.length - r.length = q := by
      have := hr.hp
      rw [← hl, ahead_len]; omega
    have HQ := Lib.hid hq
    have c1 := hr.c1
    have hRlt : w.heap.size + 1 < w2.heap.size := by omega
    have HF := Lib.hid (fun c0 c1 o => hx2.twoA hlt2 c0 c1 o)
    have HA := Lib.hid ha2
    obtain ⟨r0, r1, rf⟩ := hx2
    clear ha ha2 HV HR hX hb1 hs1 hz2 ho hq hl hr
    go_upto_region 5 with fail
    go_region
    all_goals
      go_wp2_with fail
      obtain ⟨k0, k1⟩ := HF.out (.string ⟨nm.toArray⟩) (.string ⟨ws.toArray⟩) (.cells #[.string ⟨nm.toArray⟩, .string ⟨ws.toArray⟩] 47)
      refine bodyPost_ret (v := .tuple #[.agg #[.string ⟨nm.toArray⟩, .string ⟨ws.toArray⟩], .int .i64 q, .bool true]) (by simp [results, Tryz.results232, go_sem, k0, k1]) rfl ?_
      exact ⟨below_drewN (((HA.out.setCell (p := ⟨w.heap.size, 0, none⟩) (Nat.le_refl _) _).setCell (p := ⟨w.heap.size, 1, none⟩) (Nat.le_refl _) _).alloc (by rw [size_two]; omega) _) _, by rw [← HQ.out]⟩

end Go.Proofs.YtkahnlgedacppaaGreatDoor
/-
  The cursor in memory; its tokens.
-/
namespace Go.Proofs.YtkahnlgedacppaaGreatDoor
open Go.RowKit

/-- What stays the same all along: blocks below N are older than the parse, the cursor lies in block R, its tokens in a row at a, the text has z bytes; who holds the cursor lies in block Q, as q says with k sets open; J is said of blocks below N0 alone, T of each token. -/
structure Cx where
  N : Nat
  R : Nat
  a : Option Addr
  cap : Nat
  ts : List Tk
  z : Nat
  Q : Nat
  q : Nat → Obj
  N0 : Nat
  J : World → Prop
  T : Tk → Bool

def crCells (c : Cx) (m p : Nat) (er wr : Nat) : Obj := .cells #[.slice c.a m c.cap, .int .i64 (p : Int), .int .i64 (c.z : Int), .int .i64 (er : Int), .int .i64 (wr : Int)] 155 (0, 0)

/-- The cursor in state s; its holder with k sets open. -/
structure Pv (c : Cx) (k : Nat) (s : Ms) (w : World) : Prop where
  bk : ∃ m p, w.heap[c.R]? = some (crCells c m p s.er s.wr) ∧ p ≤ m ∧ m ≤ c.ts.length ∧ (c.ts.take m).drop p = s.l
  bad : Bad s
  tk : 0 < c.ts.length → ∃ g, c.a = some ⟨g, 0, none⟩ ∧ g ≠ c.R ∧ g ≠ c.Q ∧ g < c.N ∧ ∀ j u, (tkCells c.ts)[j]? = some u → w.cell? ⟨g, j, none⟩ = some u
  tn : c.ts.length = 0 → c.a = none ∨ ∃ g, c.a = some ⟨g, 0, none⟩
  qk : w.heap[c.Q]? = some (c.q k)
  hN : c.N ≤ w.heap.size
  hR : c.R < c.N
  hQ : c.Q < c.N
  hRQ : c.Q ≠ c.R
  hc : c.ts.length ≤ c.cap
  hs : c.ts.length ≤ 8000
  hz : c.z ≤ 8000
  hk : k ≤ 100
  sz : ∀ t ∈ c.ts, t.s.length ≤ 1000000
  j : c.J w
  hJ : ∀ w w' : World, (∀ b, b < c.N0 → w'.heap[b]? = w.heap[b]?) → c.J w → c.J w'
  hJR : c.N0 ≤ c.R
  hJQ : c.N0 ≤ c.Q
  ht : ∀ t ∈ c.ts, c.T t = true

theorem Pv.ltQ {c : Cx} {k : Nat} {s : Ms} {w : World} (h : Pv c k s w) : c.Q < w.heap.size := Nat.lt_of_lt_of_le h.hQ h.hN
theorem Pv.lt {c : Cx} {k : Nat} {s : Ms} {w : World} (h : Pv c k s w) : c.R < w.heap.size := Nat.lt_of_lt_of_le h.hR h.hN
/-- Nothing below N has changed. -/
theorem Pv.keep {c : Cx} {k : Nat} {s : Ms} {w w' : World} (h : Pv c k s w) (hb : ∀ b, b < c.N → w'.heap[b]? = w.heap[b]?) (hN : c.N ≤ w'.heap.size) : Pv c k s w' := by
  refine ⟨?_, h.bad, fun h0 => ?_, h.tn, (hb _ h.hQ).trans h.qk, hN, h.hR, h.hQ, h.hRQ, h.hc, h.hs, h.hz, h.hk, h.sz, h.hJ w w' (fun b hl => hb b (by have := h.hJR; have := h.hR; omega)) h.j, h.hJ, h.hJR, h.hJQ, h.ht⟩
  · obtain ⟨m, p, h1, h2⟩ := h.bk
    exact ⟨m, p, (hb _ h.hR).trans h1, h2⟩
  · obtain ⟨g, e, hg, hgq, hl, hcell⟩ := h.tk h0
    exact ⟨g, e, hg, hgq, hl, fun j u hj => (World.cell?_of_block (a := ⟨g, j, none⟩) (hb g hl)).trans (hcell j u hj)⟩
theorem Pv.below {c : Cx} {k : Nat} {s : Ms} {w w' : World} {n : Nat} (h : Pv c k s w) (hb : Below n w w') (hn : c.N ≤ n) : Pv c k s w' :=
  h.keep (fun b hl => hb.block b (by omega)) (Nat.le_trans h.hN hb.size)
theorem Pv.alloc {c : Cx} {k : Nat} {s : Ms} {w : World} (h : Pv c k s w) (o : Obj) : Pv c k s (w.alloc o) := h.below ((Below.refl _ w).alloc (Nat.le_refl _) o) h.hN
theorem Pv.set {c : Cx} {k : Nat} {s : Ms} {w : World} (h : Pv c k s w) {q : Addr} (hq : c.N ≤ q.block) (v : Value) : Pv c k s (w.setCell q v) :=
  h.keep (fun b hl => Below.heap_setCell _ _ _ _ (by omega)) (by simpa [World.setCell] using h.hN)
theorem Pv.drewN {c : Cx} {k : Nat} {s : Ms} {w : World} (h : Pv c k s w) (n : Nat) : Pv c k s (w.drewN n) := h.keep (fun _ _ => rfl) h.hN
/-- The cursor's own block has been written, nothing else below N. -/
theorem Pv.turn {c : Cx} {k : Nat} {s s' : Ms} {w w' : World} (h : Pv c k s w) {m p : Nat} (hb : w'.heap[c.R]? = some (crCells c m p s'.er s'.wr)) (hp : p ≤ m) (hm : m ≤ c.ts.length) (hl : (c.ts.take m).drop p = s'.l)
    (hbad : Bad s') (ho : ∀ b, b < c.N → b ≠ c.R → w'.heap[b]? = w.heap[b]?) (hN : c.N ≤ w'.heap.size) : Pv c k s' w' := by
  refine ⟨⟨m, p, hb, hp, hm, hl⟩, hbad, fun h0 => ?_, h.tn, (ho _ h.hQ h.hRQ).trans h.qk, hN, h.hR, h.hQ, h.hRQ, h.hc, h.hs, h.hz, h.hk, h.sz, h.hJ w w' (fun b hl => ho b (by have := h.hJR; have := h.hR; omega) (by have := h.hJR; omega)) h.j, h.hJ, h.hJR, h.hJQ, h.ht⟩
  obtain ⟨g, e, hg, hgq, hlt, hcell⟩ := h.tk h0
  exact ⟨g, e, hg, hgq, hlt, fun j u hj => (World.cell?_of_block (a := ⟨g, j, none⟩) (ho g hlt hg)).trans (hcell j u hj)⟩
/-- The holder's block has been written. -/
theorem Pv.held {c : Cx} {k k' : Nat} {s : Ms} {w w' : World} (h : Pv c k s w) (hb : w'.heap[c.Q]? = some (c.q k')) (hk : k' ≤ 100) (ho : ∀ b, b < c.N → b ≠ c.Q → w'.heap[b]? = w.heap[b]?) (hN : c.N ≤ w'.heap.size) : Pv c k' s w' := by
  refine ⟨?_, h.bad, fun h0 => ?_, h.tn, hb, hN, h.hR, h.hQ, h.hRQ, h.hc, h.hs, h.hz, hk, h.sz, h.hJ w w' (fun b hl => ho b (by have := h.hJQ; have := h.hQ; omega) (by have := h.hJQ; omega)) h.j, h.hJ, h.hJR, h.hJQ, h.ht⟩
  · obtain ⟨m, p, h1, h2⟩ := h.bk
    exact ⟨m, p, (ho _ h.hR (Ne.symm h.hRQ)).trans h1, h2⟩
  · obtain ⟨g, e, hg, hgq, hl, hcell⟩ := h.tk h0
    exact ⟨g, e, hg, hgq, hl, fun j u hj => (World.cell?_of_block (a := ⟨g, j, none⟩) (ho g hl hgq)).trans (hcell j u hj)⟩

/-- What a call leaves: the parser in state s; nothing older has changed but it. -/
def Pw (c : Cx) (k : Nat) (s : Ms) (w w' : World) : Prop := Pv c k s w' ∧ Aw c.R w.heap.size w w'
theorem Pw.of {c : Cx} {k : Nat} {s : Ms} {w w' : World} (h : Pv c k s w) (hb : Below w.heap.size w w') : Pw c k s w w' := ⟨h.below hb h.hN, .of hb⟩

theorem prCell {c : Cx} {m p er wr : Nat} {w : World} (h : w.heap[c.R]? = some (crCells c m p er wr)) :
    w.cell? ⟨c.R, 0, none⟩ = some (.slice c.a m c.cap) ∧ w.cell? ⟨c.R, 1, none⟩ = some (.int .i64 (p : Int)) ∧ w.cell? ⟨c.R, 2, none⟩ = some (.int .i64 (c.z : Int)) ∧
    w.cell? ⟨c.R, 3, none⟩ = some (.int .i64 (er : Int)) ∧ w.cell? ⟨c.R, 4, none⟩ = some (.int .i64 (wr : Int)) ∧ (∀ j, w.frozen? ⟨c.R, j, none⟩ = false) ∧ c.R < w.heap.size :=
  ⟨Lib.cell_of_heap h 0, Lib.cell_of_heap h 1, Lib.cell_of_heap h 2, Lib.cell_of_heap h 3, Lib.cell_of_heap h 4, fun j => by
    simp [World.frozen?, h, crCells], (Array.getElem?_eq_some_iff.1 h).1⟩

theorem take_drop_get {ts : List Tk} {m p : Nat} (hp : p < m) (hm : m ≤ ts.length) : ∃ r, (ts.take m).drop p = ts[p]'(by omega) :: r ∧ r = (ts.take m).drop (p + 1) := by
  have hl : p < (ts.take m).length := by rw [List.length_take]; omega
  refine ⟨_, ?_, rfl⟩
  rw [List.drop_eq_getElem_cons hl, List.getElem_take]
theorem take_drop_len {ts : List Tk} {m p : Nat} (hm : m ≤ ts.length) : ((ts.take m).drop p).length = m - p := by rw [List.length_drop, List.length_take]; omega

/-- The token ahead lies there; at the end there is none. -/
theorem Pv.tok {c : Cx} {k : Nat} {s : Ms} {w : World} (h : Pv c k s w) {m p : Nat} (hp : p ≤ m) (hm : m ≤ c.ts.length) (hl : (c.ts.take m).drop p = s.l) :
    (p = m ∧ s.l = []) ∨ (p < m ∧ ∃ t g, hdT s.l = t ∧ s.l = t :: s.l.tail ∧ s.l.tail = (c.ts.take m).drop (p + 1) ∧ c.a = some ⟨g, 0, none⟩ ∧ g < w.heap.size ∧ t.s.length ≤ 1000000 ∧ w.cell? ⟨g, p * 3, none⟩ = some (.int .i64 t.k) ∧ w.cell? ⟨g, p * 3 + 1, none⟩ = some (.string ⟨t.s.toArray⟩) ∧ w.cell? ⟨g, p * 3 + 2, none⟩ = some (.int .i64 t.at_)) := by
  by_cases he : p = m
  · left
    refine ⟨he, ?_⟩
    rw [← hl, he, List.drop_eq_nil_of_le (by rw [List.length_take]; omega)]
  · right
    have hlt : p < m := by omega
    obtain ⟨r, e1, e2⟩ := take_drop_get hlt hm
    obtain ⟨g, ha, _, _, hgN, hc⟩ := h.tk (by omega)
    obtain ⟨k0, k1, k2⟩ := tkCells_at c.ts p c.ts[p] (List.getElem?_eq_getElem (by omega))
    have hl1 : s.l = c.ts[p] :: r := hl.symm.trans e1
    refine ⟨hlt, c.ts[p], g, by rw [hl1]; rfl, by rw [hl1]; rfl, by rw [hl1]; exact e2, ha, Nat.lt_of_lt_of_le hgN h.hN, h.sz _ (List.getElem_mem (by omega)), hc _ _ k0, hc _ _ k1, hc _ _ k2⟩

theorem bk3 {W : World} {g : Nat} {c0 c1 c2 : Value} {T : TypeId} (h : W.heap[g]? = some (.cells #[c0, c1, c2] T (0, 0))) : W.cell? ⟨g, 0, none⟩ = some c0 ∧ W.cell? ⟨g, 1, none⟩ = some c1 ∧ W.cell? ⟨g, 2, none⟩ = some c2 ∧ (∀ j, W.frozen? ⟨g, j, none⟩ = false) ∧ g < W.heap.size :=
  ⟨Lib.cell_of_heap h 0, Lib.cell_of_heap h 1, Lib.cell_of_heap h 2, fun j => by simp [World.frozen?, h], (Array.getElem?_eq_some_iff.1 h).1⟩
theorem three_set {W : World} {g : Nat} {x0 x1 x2 : Value} {T : TypeId} (h : W.heap[g]? = some (.cells #[x0, x1, x2] T (0, 0))) (c0 c1 c2 : Value) : (((W.setCell ⟨g, 0, none⟩ c0).setCell ⟨g, 1, none⟩ c1).setCell ⟨g, 2, none⟩ c2).heap[g]? = some (.cells #[c0, c1, c2] T (0, 0)) := by
  rw [Lib.heap_setCell_same (Lib.heap_setCell_same (Lib.heap_setCell_same h c0) c1) c2]; rfl

/-- Nothing has changed but the order of what was drawn. -/
structure SameW (w w' : World) : Prop where
  heap : w'.heap = w.heap
  os : w'.os = w.os
  tape : w'.tape = w.tape
  output : w'.output = w.output
theorem SameW.below {w w' : World} (h : SameW w w') (n : Nat) : Below n w w' := ⟨h.os, h.tape, h.output, by rw [h.heap]; exact Nat.le_refl _, fun b _ => by rw [h.heap]⟩
set_option maxHeartbeats 2000000 in
set_option maxRecDepth 100000 in
/-- How many tokens there still are. -/
theorem cLeft_any {R : Nat} {a : Option Addr} {m cap p : Nat} {z er wr : Int} {T : TypeId} (w : World) (hbk : w.heap[R]? = some (.cells #[.slice a m cap, .int .i64 (p : Int), .int .i64 z, .int .i64 er, .int .i64 wr] T (0, 0))) (hp : p ≤ m) (hm : m ≤ 9000) :
    Calls Tryz.prog 47 #[.pointer (some ⟨R, 0, none⟩)] w fun e w' => e = .returned (.int .i64 ((m - p : Nat) : Int)) ∧ SameW w w' := by
  have c0 := Lib.cell_of_heap hbk 0
  have c1 := Lib.cell_of_heap hbk 1
  have hRlt := (Array.getElem?_eq_some_iff.1 hbk).1
  have hw : IntKind.i64.wrap ((m : Int) - (p : Int)) = ((m - p : Nat) : Int) := by
    rw [show (m : Int) - (p : Int) = ((m - p : Nat) : Int) by omega]
    exact IntWalk.i64_in _ (by omega)
  clear hbk
  go_enter Tryz.func47, Tryz.ntmps47
  go_upto_region 1 with fail
  go_quiet (fail)
  go_wp2_with fail
  go_ret
  exact ⟨rfl, rfl, rfl, rfl, rfl⟩
theorem Pv.left {c : Cx} {w : World} {m p er wr : Nat} (hbk : w.heap[c.R]? = some (crCells c m p er wr)) (hp : p ≤ m) (hm : m ≤ 9000) :
    Calls Tryz.prog 47 #[.pointer (some ⟨c.R, 0, none⟩)] w fun e w' => e = .returned (.int .i64 ((m - p : Nat) : Int)) ∧ SameW w w' := cLeft_any w hbk hp hm

def tkB : Obj := .cells #[.int .i64 0, .string ⟨#[]⟩, .int .i64 0] 197
set_option maxHeartbeats 2000000 in
set_option maxRecDepth 100000 in
theorem ptoken_any {c : Cx} {k : Nat} {s : Ms} (w : World) (h : Pv c k s w) : Calls Tryz.prog 189 #[.pointer (some ⟨c.R, 0, none⟩)] w fun e w' => e = .returned (.agg #[.int .i64 (hdT s.l).k, .string ⟨(hdT s.l).s.toArray⟩, .int .i64 (hdT s.l).at_]) ∧ Below w.heap.size w w' := by
  have hRlt := h.lt
  have hA := h.alloc tkB
  obtain ⟨m, p, hbk, hp, hm, hl⟩ := hA.bk
  have HL := Pv.left hbk hp (by have := h.hs; omega)
  have hbA : Below w.heap.size w (w.alloc tkB) := (Below.refl _ w).alloc (Nat.le_refl _) _
  have hbx : (w.alloc tkB).heap[w.heap.size]? = some tkB := heap_alloc_new _ _
  have hsA : (w.alloc tkB).heap.size = w.heap.size + 1 := by simp
  have HV := Lib.hid (show ∀ w1, Below (w.alloc tkB).heap.size (w.alloc tkB) w1 → w1.heap[c.R]? = some (crCells c m p s.er s.wr) ∧ w1.heap[w.heap.size]? = some tkB ∧ Below w.heap.size w w1 from fun w1 hb =>
    ⟨(hb.block _ (by omega)).trans hbk, (hb.block _ (by omega)).trans hbx, hbA.trans (hb.mono (by omega))⟩)
  have hs := h.hs
  have hc := h.hc
  have hx := hA.tok hp hm hl
  clear hA hbk hbA hbx h
  rcases hx with ⟨he, hst⟩ | ⟨hlt, t, g, ht, -, -, ha, hg, hsz, g0, g1, g2⟩
  · have e1 : (((m - p : Nat) : Int) == 0) = true := by simp; omega
    rw [hst]
    unfold tkB at HL HV
    go_enter Tryz.func189, Tryz.ntmps189
    go_wp2_with fail
    refine HL.mono ?_
    rintro e w1 ⟨rfl, hsm⟩
    have hb := hsm.below w1.heap.size
    rw [show w1.heap.size = _ from congrArg Array.size hsm.heap] at hb
    obtain ⟨hbk, hbx, hb1⟩ := HV.out w1 hb
    obtain ⟨c0, c1, -, -, -, -, -⟩ := prCell hbk
    obtain ⟨b0, b1, b2, bf, bl⟩ := bk3 hbx
    have hBR : w.heap.size ≠ c.R := by omega
    have HF := Lib.hid (fun (n : Nat) (x0 x1 x2 : Value) => bk3 (three_set (W := w1.drewN n) hbx x0 x1 x2))
    have HF0 := Lib.hid (fun (x0 x1 x2 : Value) => bk3 (three_set (W := w1) hbx x0 x1 x2))
    have HB1 := Lib.hid hb1
    clear HL HV hb hb1 hbx hbk hsm he hst hl
    go_wp2_with fail
    obtain ⟨k0, k1, k2, -, -⟩ := HF0.out (.int .i64 0) (.string ⟨#[]⟩) (.int .i64 0)
    refine bodyPost_ret (v := .agg #[.int .i64 0, .string ⟨#[]⟩, .int .i64 0]) (by simp [results, Tryz.results189, go_sem, k0, k1, k2]) rfl ?_
    exact ⟨rfl, below_three HB1.out _ _ _⟩
  · have e1 : (((m - p : Nat) : Int) == 0) = false := by simp; omega
    rw [ht]
    unfold tkB at HL HV hg g0 g1 g2
    go_enter Tryz.func189, Tryz.ntmps189
    go_wp2_with fail
    refine HL.mono ?_
    rintro e w1 ⟨rfl, hsm⟩
    have hb := hsm.below w1.heap.size
    rw [show w1.heap.size = _ from congrArg Array.size hsm.heap] at hb
    obtain ⟨hbk, hbx, hb1⟩ := HV.out w1 hb
    obtain ⟨c0, c1, -, -, -, -, -⟩ := prCell hbk
    obtain ⟨b0, b1, b2, bf, bl⟩ := bk3 hbx
    have hBR : w.heap.size ≠ c.R := by omega
    have HF := Lib.hid (fun (n : Nat) (x0 x1 x2 : Value) => bk3 (three_set (W := w1.drewN n) hbx x0 x1 x2))
    have HF0 := Lib.hid (fun (x0 x1 x2 : Value) => bk3 (three_set (W := w1) hbx x0 x1 x2))
    have HB1 := Lib.hid hb1
    have hcell : ∀ j, w1.cell? ⟨g, j, none⟩ = _ := fun j => World.cell?_of_block (a := ⟨g, j, none⟩) (congrArg (·[g]?) hsm.heap)
    have g0 := (hcell _).trans g0
    have g1 := (hcell _).trans g1
    have g2 := (hcell _).trans g2
    have hg1 : g < w1.heap.size := by rw [hsm.heap]; exact hg
    rw [ha] at c0
    have hmc : m ≤ c.cap := by omega
    clear HL HV hb hb1 hbx hbk hsm ht hm hc hl hcell hg
    generalize c.cap = cp at *
    go_upto_region 3 with fail
    go_region
    all_goals
      go_wp2_with fail
      obtain ⟨k0, k1, k2, -, -⟩ := HF0.out (.int .i64 t.k) (.string ⟨t.s.toArray⟩) (.int .i64 t.at_)
      refine bodyPost_ret (v := .agg #[.int .i64 t.k, .string ⟨t.s.toArray⟩, .int .i64 t.at_]) (by
        first
        | simp [results, Tryz.results189, go_sem, k0, k1, k2]
        | (obtain ⟨j0, j1, j2, -, -⟩ := HF.out 1 (.int .i64 t.k) (.string ⟨t.s.toArray⟩) (.int .i64 t.at_)
           simp [results, Tryz.results189, go_sem, j0, j1, j2])) rfl ?_
      exact ⟨rfl, below_three (below_drewN HB1.out _) _ _ _⟩

set_option maxHeartbeats 2000000 in
set_option maxRecDepth 100000 in
theorem dSign_any (t : Tk) (g : List UInt8) (w : World) : Calls Tryz.prog 241 #[.agg #[.int .i64 t.k, .string ⟨t.s.toArray⟩, .int .i64 t.at_], .string ⟨g.toArray⟩] w fun e w' => e = .returned (.bool (isSg g t)) ∧ Below w.heap.size w w' := by
  have hbA : ∀ o, Below w.heap.size w (w.alloc o) := fun o => (Below.refl _ w).alloc (Nat.le_refl _) o
  cases hk : ((t.k : Int) == 5) with
  | false =>
    have HS := Lib.hid (show isSg g t = false by unfold isSg; rw [show (t.k == 5) = false by simp at hk ⊢; omega]; rfl)
    go_enter Tryz.func241, Tryz.ntmps241
    go_wp2_with fail
    go_ret
    exact ⟨by rw [HS.out]; rfl, hbA _⟩
  | true =>
    have HS := Lib.hid (show isSg g t = (t.s == g) by unfold isSg; rw [show (t.k == 5) = true by simp at hk ⊢; omega]; rfl)
    go_enter Tryz.func241, Tryz.ntmps241
    go_wp2_with fail
    go_ret
    refine ⟨?_, hbA _⟩
    rw [HS.out]; rfl

end Go.Proofs.YtkahnlgedacppaaGreatDoor
