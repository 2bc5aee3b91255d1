/-
  The cursor: a struct that a function builds in a block of its own, beside the box of its result.
-/
import Derived.Test.YtkahnlgedacppaaGreatDoorMKq4
import Derived.Deep.DeepCutAuto
namespace Go.Proofs.YtkahnlgedacppaaGreatDoor
open Go.RowKit

theorem blk2 {W : World} {g : Nat} {c0 c1 : Value} {T : TypeId} (h : W.heap[g]? = some (.cells #[c0, c1] T (0, 0))) : W.cell? ⟨g, 0, none⟩ = some c0 ∧ W.cell? ⟨g, 1, none⟩ = some c1 ∧ (∀ j, W.frozen? ⟨g, j, none⟩ = false) ∧ g < W.heap.size :=
  ⟨Lib.cell_of_heap h 0, Lib.cell_of_heap h 1, fun j => by simp [World.frozen?, h], (Array.getElem?_eq_some_iff.1 h).1⟩
theorem blk4 {W : World} {g : Nat} {c0 c1 c2 c3 : Value} {T : TypeId} (h : W.heap[g]? = some (.cells #[c0, c1, c2, c3] T (0, 0))) : W.cell? ⟨g, 0, none⟩ = some c0 ∧ W.cell? ⟨g, 1, none⟩ = some c1 ∧ W.cell? ⟨g, 2, none⟩ = some c2 ∧ W.cell? ⟨g, 3, none⟩ = some c3 ∧ (∀ j, W.frozen? ⟨g, j, none⟩ = false) ∧ g < W.heap.size :=
  ⟨Lib.cell_of_heap h 0, Lib.cell_of_heap h 1, Lib.cell_of_heap h 2, Lib.cell_of_heap h 3, fun j => by simp [World.frozen?, h], (Array.getElem?_eq_some_iff.1 h).1⟩
theorem blk5 {W : World} {g : Nat} {c0 c1 c2 c3 c4 : Value} {T : TypeId} (h : W.heap[g]? = some (.cells #[c0, c1, c2, c3, c4] T (0, 0))) : W.cell? ⟨g, 0, none⟩ = some c0 ∧ W.cell? ⟨g, 1, none⟩ = some c1 ∧ W.cell? ⟨g, 2, none⟩ = some c2 ∧ W.cell? ⟨g, 3, none⟩ = some c3 ∧ W.cell? ⟨g, 4, none⟩ = some c4 ∧ (∀ j, W.frozen? ⟨g, j, none⟩ = false) ∧ g < W.heap.size :=
  ⟨Lib.cell_of_heap h 0, Lib.cell_of_heap h 1, Lib.cell_of_heap h 2, Lib.cell_of_heap h 3, Lib.cell_of_heap h 4, fun j => by simp [World.frozen?, h], (Array.getElem?_eq_some_iff.1 h).1⟩
theorem blk7 {W : World} {g : Nat} {c0 c1 c2 c3 c4 c5 c6 : Value} {T : TypeId} (h : W.heap[g]? = some (.cells #[c0, c1, c2, c3, c4, c5, c6] T (0, 0))) :
    W.cell? ⟨g, 0, none⟩ = some c0 ∧ W.cell? ⟨g, 1, none⟩ = some c1 ∧ W.cell? ⟨g, 2, none⟩ = some c2 ∧ W.cell? ⟨g, 3, none⟩ = some c3 ∧ W.cell? ⟨g, 4, none⟩ = some c4 ∧ W.cell? ⟨g, 5, none⟩ = some c5 ∧ W.cell? ⟨g, 6, none⟩ = some c6 ∧ (∀ j, W.frozen? ⟨g, j, none⟩ = false) ∧ g < W.heap.size :=
  ⟨Lib.cell_of_heap h 0, Lib.cell_of_heap h 1, Lib.cell_of_heap h 2, Lib.cell_of_heap h 3, Lib.cell_of_heap h 4, Lib.cell_of_heap h 5, Lib.cell_of_heap h 6, fun j => by simp [World.frozen?, h], (Array.getElem?_eq_some_iff.1 h).1⟩

/-- What was made since the boxes were laid stays. -/
structure Keeps (w W W' : World) : Prop where
  size : W.heap.size ≤ W'.heap.size
  heap : ∀ b, w.heap.size + 2 ≤ b → b < W.heap.size → W'.heap[b]? = W.heap[b]?
theorem Keeps.refl (w W : World) : Keeps w W W := ⟨Nat.le_refl _, fun _ _ _ => rfl⟩
theorem Keeps.trans {w a b d : World} (h : Keeps w a b) (k : Keeps w b d) : Keeps w a d := ⟨Nat.le_trans h.size k.size, fun x h1 h2 => (k.heap x h1 (by have := h.size; omega)).trans (h.heap x h1 h2)⟩
theorem Keeps.set {w W : World} {q : Addr} (hq : q.block < w.heap.size + 2) (v : Value) : Keeps w W (W.setCell q v) := ⟨by simp [World.setCell], fun b hb _ => Below.heap_setCell _ _ _ _ (by omega)⟩
theorem Keeps.below {w W W' : World} (h : Below W.heap.size W W') : Keeps w W W' := ⟨h.size, fun b _ hb => h.block b hb⟩
def Dn (w W : World) (b : Nat) : Prop := w.heap.size + 2 ≤ b ∧ b < W.heap.size
theorem Keeps.cell {w W W' : World} (h : Keeps w W W') : ∀ b o, Dn w W b → W'.cell? ⟨b, o, none⟩ = W.cell? ⟨b, o, none⟩ := fun b o hd => World.cell?_of_block (a := ⟨b, o, none⟩) (h.heap b hd.1 hd.2)
theorem Keeps.dn {w W W' : World} (h : Keeps w W W') : ∀ b, Dn w W b → Dn w W' b := fun _ hd => ⟨hd.1, Nat.lt_of_lt_of_le hd.2 h.size⟩
theorem Keeps.row {α : Type} {E : ElemR α} {sz : Nat} (hE : ElemOk E sz) {w W W' : World} (h : Keeps w W W') {xs : List α} {v : Value} (hr : RowD E sz W (Dn w W) xs v) : RowD E sz W' (Dn w W') xs v := RowD.step hE h.dn h.cell hr
theorem Keeps.rd {w W W' : World} (h : Keeps w W W') {n : Nat} {x : JV} {v : Value} (hr : RdD W (Dn w W) n x v) : RdD W' (Dn w W') n x v := RdD.step h.dn h.cell hr

/-- The box of the result lies in block w.heap.size, the struct in the next one. -/
structure Lo (c : Cx) (k : Nat) (w : World) (T : TypeId) (b0 b1 : Array Value) (s : Ms) (W : World) : Prop where
  p : Pw c k s w W
  h0 : W.heap[w.heap.size]? = some (.cells b0 T (0, 0))
  h1 : W.heap[w.heap.size + 1]? = some (.cells b1 T (0, 0))
  hN : c.N ≤ w.heap.size
theorem Lo.sz {c : Cx} {k : Nat} {w : World} {T : TypeId} {b0 b1 : Array Value} {s : Ms} {W : World} (h : Lo c k w T b0 b1 s W) : w.heap.size + 2 ≤ W.heap.size := by
  have := (Array.getElem?_eq_some_iff.1 h.h1).1
  omega
theorem Pw.set {c : Cx} {k : Nat} {s : Ms} {w W : World} (h : Pw c k s w W) (hN : c.N ≤ w.heap.size) {q : Addr} (hq : w.heap.size ≤ q.block) (v : Value) : Pw c k s w (W.setCell q v) := ⟨h.1.set (Nat.le_trans hN hq) v, h.2.setNew hq v⟩
theorem Lo.new {c : Cx} {k : Nat} {s : Ms} {w : World} (h : Pv c k s w) (T : TypeId) (b0 b1 : Array Value) : Lo c k w T b0 b1 s ((w.alloc (.cells b0 T (0, 0))).alloc (.cells b1 T (0, 0))) := by
  refine ⟨.of h (((Below.refl _ w).alloc (Nat.le_refl _) _).alloc (by simp) _), ?_, ?_, h.hN⟩
  · rw [Below.heap_alloc _ _ _ (by simp)]; exact heap_alloc_new _ _
  · have := heap_alloc_new (w.alloc (.cells b0 T (0, 0))) (.cells b1 T (0, 0))
    rwa [show (w.alloc (.cells b0 T (0, 0))).heap.size = w.heap.size + 1 by simp] at this
/-- A call of the parser's. -/
theorem Lo.call {c : Cx} {k k' : Nat} {w : World} {T : TypeId} {b0 b1 : Array Value} {s s' : Ms} {W W' : World} (h : Lo c k w T b0 b1 s W) (hp : Pw c k' s' W W') : Lo c k' w T b0 b1 s' W' ∧ Keeps w W W' := by
  have hs := h.sz
  have hR := h.p.1.hR
  have hN := h.hN
  exact ⟨⟨h.p.trans hp, (hp.2.block _ (by omega) (by omega)).trans h.h0, (hp.2.block _ (by omega) (by omega)).trans h.h1, h.hN⟩, ⟨hp.2.size, fun b hb hl => hp.2.block b hl (by omega)⟩⟩
theorem Lo.below {c : Cx} {k : Nat} {w : World} {T : TypeId} {b0 b1 : Array Value} {s : Ms} {W W' : World} (h : Lo c k w T b0 b1 s W) (hb : Below W.heap.size W W') : Lo c k w T b0 b1 s W' ∧ Keeps w W W' :=
  h.call (.of h.p.1 hb)
/-- A store into the struct. -/
theorem Lo.set {c : Cx} {k : Nat} {w : World} {T : TypeId} {b0 b1 : Array Value} {s : Ms} {W : World} (h : Lo c k w T b0 b1 s W) (i : Nat) (v : Value) : Lo c k w T b0 (b1.setIfInBounds i v) s (W.setCell ⟨w.heap.size + 1, i, none⟩ v) ∧ Keeps w W (W.setCell ⟨w.heap.size + 1, i, none⟩ v) :=
  ⟨⟨h.p.set h.hN (by show _ ≤ w.heap.size + 1; omega) v, (Below.heap_setCell _ _ _ _ (by show w.heap.size ≠ w.heap.size + 1; omega)).trans h.h0, Lib.heap_setCell_same h.h1 v, h.hN⟩, .set (by show w.heap.size + 1 < _; omega) v⟩
/-- A store into the box. -/
theorem Lo.fin {c : Cx} {k : Nat} {w : World} {T : TypeId} {b0 b1 : Array Value} {s : Ms} {W : World} (h : Lo c k w T b0 b1 s W) (i : Nat) (v : Value) : Lo c k w T (b0.setIfInBounds i v) b1 s (W.setCell ⟨w.heap.size, i, none⟩ v) ∧ Keeps w W (W.setCell ⟨w.heap.size, i, none⟩ v) :=
  ⟨⟨h.p.set h.hN (Nat.le_refl _) v, Lib.heap_setCell_same h.h0 v, (Below.heap_setCell _ _ _ _ (by show w.heap.size + 1 ≠ w.heap.size; omega)).trans h.h1, h.hN⟩, .set (by show w.heap.size < _; omega) v⟩

/-- A call that answers a record. -/
def RecAns {α : Type} (E : ElemR α) (c : Cx) (k : Nat) (w : World) (r : α × Ms) (e : Ending) (w' : World) : Prop :=
  ∃ cs : List Value, e = .returned (.agg cs.toArray) ∧ E w' (fun b => w.heap.size ≤ b ∧ b < w'.heap.size) r.1 cs ∧ Pw c k r.2 w w'
/-- A call that answers a slice of records. -/
def RowAns {α : Type} (E : ElemR α) (sz : Nat) (c : Cx) (k : Nat) (w : World) (r : List α × Ms) (e : Ending) (w' : World) : Prop :=
  ∃ v, e = .returned v ∧ RowD E sz w' (fun b => w.heap.size ≤ b ∧ b < w'.heap.size) r.1 v ∧ Pw c k r.2 w w'
/-- A call that answers a value. -/
def ValueAns (c : Cx) (k : Nat) (w : World) (r : JV × Ms) (e : Ending) (w' : World) : Prop :=
  ∃ kk ss an ln cn ap lp cp, e = .returned (.agg #[.int .i64 kk, .string ss, .slice an ln cn, .slice ap lp cp]) ∧ RdD w' (fun b => w.heap.size ≤ b ∧ b < w'.heap.size) 13 r.1 (.agg #[.int .i64 kk, .string ss, .slice an ln cn, .slice ap lp cp]) ∧ Pw c k r.2 w w'

end Go.Proofs.YtkahnlgedacppaaGreatDoor
/-
  The cursor: Type and Value, asked of its tokens.
-/
namespace Go.Proofs.YtkahnlgedacppaaGreatDoor
open Go.RowKit

theorem tkCells_take (ts : List Tk) (m j : Nat) (u : Value) (h : (tkCells (ts.take m))[j]? = some u) : (tkCells ts)[j]? = some u := by
  have e : tkCells ts = tkCells (ts.take m) ++ tkCells (ts.drop m) := by
    unfold tkCells
    rw [← List.flatMap_append, List.take_append_drop]
  rw [e, List.getElem?_append_left (List.getElem?_eq_some_iff.1 h).1]
  exact h
theorem Pv.tkAt {c : Cx} {k : Nat} {s : Ms} {w : World} (h : Pv c k s w) (m : Nat) : TkAt w c.a (c.ts.take m) := fun h0 => by
  obtain ⟨g, e, _, _, _, hc⟩ := h.tk (by rw [List.length_take] at h0; omega)
  exact ⟨g, e, fun j u hj => hc j u (tkCells_take _ _ _ _ hj)⟩
theorem take_len {ts : List Tk} {m : Nat} (hm : m ≤ ts.length) : (ts.take m).length = m := by rw [List.length_take]; omega
theorem ahead_take (ts : List Tk) (m p : Nat) : ahead (ts.take m) p = ((ts.take m).drop p).map strip := rfl

/-- Type, asked of the tokens up to m. -/
theorem vtype_at {c : Cx} {k : Nat} {s : Ms} (W : World) (h : Pv c k s W) {m p : Nat} (hp : p ≤ m) (hm : m ≤ c.ts.length) (hl : (c.ts.take m).drop p = s.l) :
    Calls Tryz.prog 232 #[.slice c.a m c.cap, .int .i64 (p : Int)] W (TyAnsP p m W (typeP (s.l.map strip))) := by
  have H := valType_at (p := p) (a := c.a) (cap := c.cap) (ts := c.ts.take m) W (by rw [take_len hm]; exact hp) (h.tkAt m).o (by rw [take_len hm]; exact Nat.le_trans hm h.hc) (by rw [take_len hm]; have := h.hs; omega) (fun t ht => h.sz t (List.mem_of_mem_take ht))
  rw [take_len hm, ahead_take, hl] at H
  exact H
/-- The tokens from p up to q, as a row by itself. -/
theorem Pv.tkO {c : Cx} {k : Nat} {s : Ms} {w : World} (h : Pv c k s w) {p q : Nat} (hpq : p ≤ q) (hq : q ≤ c.ts.length) : TkO w (if c.cap = p then c.a else c.a.map (·.add (p * 3))) ((c.ts.take q).drop p) := fun h0 => by
  rw [take_drop_len hq] at h0
  obtain ⟨g, e, _, _, _, hc⟩ := h.tk (by omega)
  have hcap := h.hc
  refine ⟨g, p * 3, ?_, fun j u hj => ?_⟩
  · rw [if_neg (by omega), e]
    simp [Addr.add]
    try omega
  · refine hc _ _ (tkCells_take c.ts q _ _ ?_)
    have e1 : tkCells (c.ts.take q) = tkCells ((c.ts.take q).take p) ++ tkCells ((c.ts.take q).drop p) := by
      unfold tkCells
      rw [← List.flatMap_append, List.take_append_drop]
    have hl : (tkCells ((c.ts.take q).take p)).length = p * 3 := by
      have : ∀ l : List Tk, (tkCells l).length = l.length * 3 := fun l => by
        unfold tkCells
        induction l with
        | nil => rfl
        | cons a r ih => rw [List.flatMap_cons, List.length_append, ih, List.length_cons]; simp; omega
      rw [this, List.take_take, List.length_take]
      omega
    rw [e1, List.getElem?_append_right (by omega), hl, Nat.add_sub_cancel_left]
    exact hj
theorem vvalue_from {c : Cx} {k : Nat} {s : Ms} (W : World) (h : Pv c k s W) {p q cap : Nat} (hpq : p ≤ q) (hq : q ≤ c.ts.length) (hcap : q - p ≤ cap) :
    Calls Tryz.prog 287 #[.slice (if c.cap = p then c.a else c.a.map (·.add (p * 3))) (q - p) cap, .int .i64 0] W (ValAns (q - p) W (pvT 12 (((c.ts.take q).drop p).map strip))) := by
  have H := valValue_at (p := 0) (a := if c.cap = p then c.a else c.a.map (·.add (p * 3))) (cap := cap) (ts := (c.ts.take q).drop p) W (Nat.zero_le _) (h.tkO hpq hq) (by rw [take_drop_len hq]; exact hcap) (by rw [take_drop_len hq]; have := h.hs; omega) (fun t ht => h.sz t (List.mem_of_mem_take (List.mem_of_mem_drop ht)))
  rw [take_drop_len hq] at H
  exact H
/-- The parser, gone on to place q. -/
theorem Pv.goTo {c : Cx} {k : Nat} {s : Ms} {w : World} (h : Pv c k s w) {m p q : Nat} (hbk : w.heap[c.R]? = some (crCells c m p s.er s.wr)) (hm : m ≤ c.ts.length) (hl : (c.ts.take m).drop p = s.l) (hp : p ≤ q) (hq : q ≤ m) :
    Pw c k ⟨s.l.drop (q - p), s.er, s.wr⟩ w (w.setCell ⟨c.R, 1, none⟩ (.int .i64 (q : Int))) := by
  refine ⟨h.turn (m := m) (p := q) ?_ hq hm ?_ (fun he => ?_) (fun b _ hb => Below.heap_setCell _ _ _ _ hb) (by simpa [World.setCell] using h.hN), (Aw.refl _ _ _).set _⟩
  · rw [Lib.heap_setCell_same hbk]; rfl
  · show _ = s.l.drop (q - p)
    rw [← hl, List.drop_drop, show p + (q - p) = q by omega]
  · show s.l.drop (q - p) = []
    rw [h.bad he, List.drop_nil]

theorem Pv.drew {c : Cx} {k : Nat} {s : Ms} {w : World} (h : Pv c k s w) : Pv c k s w.drew := h.keep (fun _ _ => rfl) h.hN

end Go.Proofs.YtkahnlgedacppaaGreatDoor
/-
  The cursor: a value, out of the tokens that are handed on.
-/
namespace Go.Proofs.YtkahnlgedacppaaGreatDoor
open Go.RowKit

def vzB : Obj := .cells #[.int .i64 0, .string ⟨#[]⟩, .slice none 0 0, .slice none 0 0] 52
theorem Pw.four {c : Cx} {k : Nat} {s : Ms} {w W : World} (h : Pw c k s w W) (hN : c.N ≤ w.heap.size) (c0 c1 c2 c3 : Value) : Pw c k s w ((((W.setCell ⟨w.heap.size, 0, none⟩ c0).setCell ⟨w.heap.size, 1, none⟩ c1).setCell ⟨w.heap.size, 2, none⟩ c2).setCell ⟨w.heap.size, 3, none⟩ c3) :=
  (((h.set hN (q := ⟨w.heap.size, 0, none⟩) (Nat.le_refl _) c0).set hN (q := ⟨w.heap.size, 1, none⟩) (Nat.le_refl _) c1).set hN (q := ⟨w.heap.size, 2, none⟩) (Nat.le_refl _) c2).set hN (q := ⟨w.heap.size, 3, none⟩) (Nat.le_refl _) c3

set_option maxHeartbeats 4000000 in
set_option maxRecDepth 100000 in
theorem pAmong_any {c : Cx} {k : Nat} {s : Ms} (w : World) (h : Pv c k s w) {m p q cap : Nat} (hbk : w.heap[c.R]? = some (crCells c m p s.er s.wr)) (hpq : p ≤ q) (hqm : q ≤ m) (hm : m ≤ c.ts.length) (hl : (c.ts.take m).drop p = s.l) (hcap : q - p ≤ cap) :
    Calls Tryz.prog 237 #[.pointer (some ⟨c.R, 0, none⟩), .slice (if c.cap = p then c.a else c.a.map (·.add (p * 3))) (q - p) cap] w (ValueAns c k w (vaM c.z ((c.ts.take q).drop p) s)) := by
  have hA := h.alloc vzB
  have hbA := (Below.heap_alloc w vzB _ h.lt).trans hbk
  obtain ⟨-, c1, -, -, -, -, -⟩ := prCell hbA
  have hqt : q ≤ c.ts.length := by omega
  have HT := vvalue_from _ hA hpq hqt hcap
  have hle := pvT_le 12 (((c.ts.take q).drop p).map strip)
  rw [List.length_map, take_drop_len hqt] at hle
  have HM := Lib.hid (show vaM c.z ((c.ts.take q).drop p) s = if (pvT 12 (((c.ts.take q).drop p).map strip)).2.2 = 0 then ((pvT 12 (((c.ts.take q).drop p).map strip)).1, (⟨s.l.drop (q - p - (pvT 12 (((c.ts.take q).drop p).map strip)).2.1.length), s.er, s.wr⟩ : Ms)) else (vz, failM c.z (pvT 12 (((c.ts.take q).drop p).map strip)).2.2 ⟨s.l.drop (q - p - (pvT 12 (((c.ts.take q).drop p).map strip)).2.1.length), s.er, s.wr⟩) by
    unfold vaM
    dsimp only
    rw [take_drop_len hqt])
  generalize pvT 12 (((c.ts.take q).drop p).map strip) = RV at *
  obtain ⟨x, l', er⟩ := RV
  dsimp only at hle HM
  unfold ValAns at HT
  dsimp only at HT
  have hsl : q - p - l'.length ≤ q - p := Nat.sub_le _ _
  generalize q - p - l'.length = sz at *
  have hs8 := h.hs
  have hw : IntKind.i64.wrap ((p : Int) + (sz : Int)) = ((p : Int) + (sz : Int)) := by
    exact IntWalk.i64_in _ (by omega)
  have hRlt := h.lt
  have HH := Lib.hid h
  have hN := h.hN
  have hRN := h.hR
  have HB1 := Lib.hid (fun w1 (hb : Below (w.alloc vzB).heap.size (w.alloc vzB) w1) => (show Below w.heap.size w w1 ∧ Bx w1 w.heap.size ∧ w.heap.size + 1 ≤ w1.heap.size from by
    have hs : (w.alloc vzB).heap.size = w.heap.size + 1 := by simp
    have h0 : Below w.heap.size w (w.alloc vzB) := (Below.refl _ w).alloc (Nat.le_refl _) _
    exact ⟨h0.trans (hb.mono h0.size), (Bx.new w).keep (hb.block _ (by rw [hs]; omega)), by have := hb.size; omega⟩))
  have HG := Lib.hid (fun w1 (hb : Below w.heap.size w w1) => (show Pw c k ⟨s.l.drop sz, s.er, s.wr⟩ w (w1.setCell ⟨c.R, 1, none⟩ (.int .i64 ((p : Int) + (sz : Int)))) ∧ w1.cell? ⟨c.R, 1, none⟩ = some (.int .i64 (p : Int)) ∧ w1.frozen? ⟨c.R, 1, none⟩ = false from by
    have hk1 := (hb.block _ h.lt).trans hbk
    obtain ⟨-, k1, -, -, -, kf, -⟩ := prCell hk1
    have hg := (h.below hb h.hN).goTo (q := p + sz) hk1 hm hl (by omega) (by omega)
    rw [Nat.add_sub_cancel_left, show ((p + sz : Nat) : Int) = (p : Int) + (sz : Int) by omega] at hg
    exact ⟨((Pw.refl h).below hb).trans hg, k1, kf 1⟩))
  have hs0 : (w.alloc vzB).heap.size = w.heap.size + 1 := by simp
  clear h hA hbk hbA hl hqt hpq hqm hm hle hsl hs8 hcap
  generalize (if c.cap = p then c.a else c.a.map (·.add (p * 3))) = ra at *
  generalize q - p = qp at *
  unfold vzB at HT c1 hs0 HB1
  go_enter Tryz.func237, Tryz.ntmps237
  go_wp2_with fail
  refine HT.mono ?_
  rintro e w1 ⟨b1, v, rfl, ⟨kk, ss, an, ln, cn, ap, lp, cp, rfl⟩, hv⟩
  try dsimp only at hv
  obtain ⟨b2, hbx, hz1⟩ := HB1.out w1 b1
  obtain ⟨hg, k1, kf⟩ := HG.out w1 b2
  rw [hs0] at hv
  have HV := Lib.hid hv
  have HGG := Lib.hid hg
  have HF := Lib.hid (fun (W : World) (hW : W.heap[w.heap.size]? = w1.heap[w.heap.size]?) c0 c1 c2 c3 o => bx_fourA (hbx.keep hW) c0 c1 c2 c3 o)
  obtain ⟨r0, r1, r2, r3, rf⟩ := hbx
  have hBR : w.heap.size ≠ c.R := by omega
  have hR1 : c.R < w1.heap.size := by omega
  have hB1 : w.heap.size < w1.heap.size := by omega
  have HB2 := Lib.hid b2
  by_cases he : er = 0
  · subst he
    rw [if_pos rfl] at HM
    have HVV := Lib.hid (show RdD w1 (fun b => w.heap.size + 1 ≤ b ∧ b < w1.heap.size) 13 x (.agg #[.int .i64 kk, .string ss, .slice an ln cn, .slice ap lp cp]) from by have := HV.out; rwa [if_pos rfl] at this)
    clear hv hg b1 HT HV hs0 b2
    go_wp2_with fail
    obtain ⟨k0, k1', k2, k3⟩ := HF.out (w1.setCell ⟨c.R, 1, none⟩ (.int .i64 ((p : Int) + (sz : Int)))) (Below.heap_setCell _ _ _ _ hBR) (.int .i64 kk) (.string ss) (.slice an ln cn) (.slice ap lp cp) (.cells #[.int .i64 kk, .string ss, .slice an ln cn, .slice ap lp cp] 52)
    refine bodyPost_ret (v := .agg #[.int .i64 kk, .string ss, .slice an ln cn, .slice ap lp cp]) (by simp [results, Tryz.results237, go_sem, k0, k1', k2, k3]) rfl ?_
    rw [HM.out]
    refine ⟨_, _, _, _, _, _, _, _, rfl, ?_, (HGG.out.four HH.out.hN _ _ _ _).below ((Below.refl _ _).alloc (Nat.le_refl _) _)⟩
    refine RdD.step (fun b hd => ⟨by omega, ?_⟩) (fun b o hd => World.cell?_of_block (a := ⟨b, o, none⟩) ?_) HVV.out
    · have hsz : (w1.setCell ⟨c.R, 1, none⟩ (.int .i64 ((p : Int) + (sz : Int)))).heap.size = w1.heap.size := by simp [World.setCell]
      rw [Below.heap_alloc _ _ _ (by rw [size_four, hsz]; exact hd.2), heap_four _ _ _ _ _ _ b (by omega), Below.heap_setCell _ _ _ _ (show b ≠ c.R by omega)]
    · rw [show ∀ (W : World) (o : Obj), (W.alloc o).heap.size = W.heap.size + 1 from fun W o => by simp, size_four]
      have : (w1.setCell ⟨c.R, 1, none⟩ (.int .i64 ((p : Int) + (sz : Int)))).heap.size = w1.heap.size := by simp [World.setCell]
      omega
  · rw [if_neg he] at HM
    have hv0 := HV.out
    rw [if_neg he] at hv0
    unfold leaf at hv0
    injection hv0 with hv0
    have hv1 := congrArg Array.toList hv0
    simp at hv1
    obtain ⟨rfl, rfl, ⟨rfl, rfl, rfl⟩, ⟨rfl, rfl, rfl⟩⟩ := hv1
    have hne : ((er : Int) != 0) = true := by simp; omega
    have hne2 : ((er : Int) == 0) = false := by rw [beq_eq_false_iff_ne]; omega
    have hP2 := HGG.out.below ((Below.refl _ _).alloc (Nat.le_refl _) vzB)
    have HFL := pFail_any er _ hP2.1
    have HP2 := Lib.hid hP2
    unfold vzB at HFL
    have hbb : ((w1.setCell ⟨c.R, 1, none⟩ (.int .i64 ((p : Int) + (sz : Int)))).alloc vzB).heap[w1.heap.size]? = some vzB := by
      have := heap_alloc_new (w1.setCell ⟨c.R, 1, none⟩ (.int .i64 ((p : Int) + (sz : Int)))) vzB
      rwa [show (w1.setCell ⟨c.R, 1, none⟩ (.int .i64 ((p : Int) + (sz : Int)))).heap.size = w1.heap.size by simp [World.setCell]] at this
    have hb0 : ((w1.setCell ⟨c.R, 1, none⟩ (.int .i64 ((p : Int) + (sz : Int)))).alloc vzB).heap[w.heap.size]? = w1.heap[w.heap.size]? := by
      rw [Below.heap_alloc _ _ _ (by simp [World.setCell]; omega), Below.heap_setCell _ _ _ _ hBR]
    have hsz2 : ((w1.setCell ⟨c.R, 1, none⟩ (.int .i64 ((p : Int) + (sz : Int)))).alloc vzB).heap.size = w1.heap.size + 1 := by simp [World.setCell]
    have HBB := Lib.hid hbb
    have HB0 := Lib.hid hb0
    have HSZ := Lib.hid hsz2
    have HFN := Lib.hid (fun (W : World) (hW : W.heap[w.heap.size]? = w1.heap[w.heap.size]?) c0 c1 c2 c3 => bx_four ((⟨r0, r1, r2, r3, rf⟩ : Bx w1 w.heap.size).keep hW) c0 c1 c2 c3)
    clear hv hg b1 HT HV hs0 hv0 b2 he hP2 hbb hb0 hsz2
    go_wp2_with fail
    refine HFL.mono ?_
    rintro e w2 ⟨rfl, hp2⟩
    have hB1 := hp2.2.block w1.heap.size (by have := HSZ.out; unfold vzB at this; omega) (by omega)
    have hB0 := hp2.2.block w.heap.size (by have := HSZ.out; unfold vzB at this; omega) hBR
    have hbb := hB1.trans HBB.out
    have hb0 := hB0.trans HB0.out
    unfold vzB at hbb
    obtain ⟨d0, d1, d2, d3, df, dl⟩ := blk4 hbb
    have hbx2 := (⟨r0, r1, r2, r3, rf⟩ : Bx w1 w.heap.size).keep hb0
    have HX := Lib.hid (HP2.out.trans hp2)
    have HF2 := Lib.hid (bx_four hbx2 (.int .i64 0) (.string ⟨#[]⟩) (.slice none 0 0) (.slice none 0 0))
    clear hp2 hB1 hB0 hbb hb0 HFL r0 r1 r2 r3 rf k1 kf
    obtain ⟨r0, r1, r2, r3, rf⟩ := hbx2
    go_wp2_with fail
    obtain ⟨k0, k1, k2, k3⟩ := HF2.out
    refine bodyPost_ret (v := .agg #[.int .i64 0, .string ⟨#[]⟩, .slice none 0 0, .slice none 0 0]) (by simp [results, Tryz.results237, go_sem, k0, k1, k2, k3]) rfl ?_
    rw [HM.out]
    exact ⟨_, _, _, _, _, _, _, _, rfl, rd_leaf _ _ 12 0 ⟨#[]⟩ (Nat.zero_le _), HX.out.four HH.out.hN _ _ _ _⟩

theorem slice_from (T : TypeId) (hu : Tryz.prog.underlying T = some (.slice 197)) (a : Option Addr) (m cap p : Nat) (hp : p ≤ m) (wx : World) :
    (Instr.slice T (.slice a m cap) (some (.int .i64 (p : Int))) none none).run Tryz.prog wx = .ok (.slice (if cap = p then a else a.map (·.add (p * 3))) (m - p) (cap - p)) wx := by
  have he : Tryz.prog.elem T = 197 := by simp [Program.elem, hu]
  have h1 := run_slice_l (P := Tryz.prog) (w := wx) T a m cap (by rw [he]; exact hu) .i64 (p : Int) (by omega) (by omega)
  refine h1.trans ?_
  rw [he]
  simp [go_sem, sliced]

theorem box_four {c : Cx} {k : Nat} {s9 s0 s : Ms} {w W w1 : World} (h : Pv c k s9 w) (hW : Pw c k s0 w W) (hbx : W.heap[w.heap.size]? = some vzB) {r : JV} {kk : Int} {ss : ByteArray} {an ap : Option Addr} {ln cn lp cp : Nat} (hp : Pw c k s W w1) (hR : RdD w1 (fun b => W.heap.size ≤ b ∧ b < w1.heap.size) 13 r (.agg #[.int .i64 kk, .string ss, .slice an ln cn, .slice ap lp cp])) :
    Bx w1 w.heap.size ∧ ValueAns c k w (r, s) (.returned (.agg #[.int .i64 kk, .string ss, .slice an ln cn, .slice ap lp cp])) ((((w1.setCell ⟨w.heap.size, 0, none⟩ (.int .i64 kk)).setCell ⟨w.heap.size, 1, none⟩ (.string ss)).setCell ⟨w.heap.size, 2, none⟩ (.slice an ln cn)).setCell ⟨w.heap.size, 3, none⟩ (.slice ap lp cp)) := by
  have hlt := (Array.getElem?_eq_some_iff.1 hbx).1
  have hN := h.hN
  have hRN := h.hR
  have hb : w1.heap[w.heap.size]? = some vzB := (hp.2.block _ hlt (by omega)).trans hbx
  refine ⟨⟨Lib.cell_of_heap hb 0, Lib.cell_of_heap hb 1, Lib.cell_of_heap hb 2, Lib.cell_of_heap hb 3, fun j => by simp [World.frozen?, hb, vzB]⟩, _, _, _, _, _, _, _, _, rfl, ?_, (hW.trans hp).four h.hN _ _ _ _⟩
  exact RdD.step (fun b hd => ⟨by omega, by rw [size_four]; exact hd.2⟩) (fun b o hd => World.cell?_of_block (a := ⟨b, o, none⟩) (heap_four _ _ _ _ _ _ b (by omega))) hR

end Go.Proofs.YtkahnlgedacppaaGreatDoor
/-
  The cursor: parts that are appended, one behind the other.
-/
namespace Go.Proofs.YtkahnlgedacppaaGreatDoor
open Go.RowKit

theorem Pv.len {c : Cx} {k : Nat} {s : Ms} {w : World} (h : Pv c k s w) : s.l.length ≤ 8000 := by
  obtain ⟨m, p, _, hp, hm, hl⟩ := h.bk
  rw [← hl, take_drop_len hm]
  have := h.hs
  omega
theorem agg4_inj {a b c d a' b' c' d' : Value} (h : Value.agg #[a, b, c, d] = .agg #[a', b', c', d']) : a = a' ∧ b = b' ∧ c = c' ∧ d = d' := by
  injection h with h
  have h' := congrArg Array.toList h
  simp at h'
  exact h'
/-- What remains of a loop of several. -/
def SevRel {α : Type} (E : ElemR α) (c : Cx) (k : Nat) (w : World) (T : TypeId) (sz : Nat) (e : List UInt8) (P : Ms → α × Ms) (RES : List α × Ms) (j : Nat) (v : Value) (wr : World) : Prop :=
  ∃ (s2 : Ms) (xs : List α) (cs : List Value), Pw c k s2 w wr ∧ (s2.er = 0 → s2.l.length < j) ∧ (s2.er = 0 → xs.length + s2.l.length ≤ 8000) ∧ xs.length ≤ 8001 ∧ OwnR E w.heap.size T sz xs cs v wr ∧ moreM e P j s2 xs = RES

theorem rec_new (w : World) (sz : Nat) (cs : Array Value) (T : TypeId) : ∀ j u, cs.toList[j]? = some u → (w.alloc (.cells cs T (0, 0))).cell? ((⟨w.heap.size, 0, none⟩ : Addr).add j) = some u := by
  intro j u hj
  have _ := sz
  rw [Go.WideShapes.add_plain, Nat.zero_add]
  have hb : (w.alloc (.cells cs T (0, 0))).heap[w.heap.size]? = some (.cells cs T (0, 0)) := heap_alloc_new _ _
  rw [Lib.cell_of_heap hb j, ← hj, Array.getElem?_toList]

/-- A part has been read, and its cells laid once more: the row as it was, and the part. -/
theorem OwnR.app {α : Type} {E : ElemR α} {T : TypeId} {sz : Nat} {c : Cx} {k k2 : Nat} {w wr w2 : World} {s2 s3 : Ms} {xs : List α} {cs es : List Value} {v : Value} {x : α} (h : OwnR E w.heap.size T sz xs cs v wr) (hE : ElemOk E sz) (hN : c.N ≤ w.heap.size) (hp : Pw c k s2 w wr) (hc : Pw c k2 s3 wr w2)
    (hx : E w2 (fun b => wr.heap.size ≤ b ∧ b < w2.heap.size) x es) (o : Obj) : OwnR E w.heap.size T sz xs cs v (w2.alloc o) ∧ E (w2.alloc o) (OD w.heap.size (w2.alloc o) v) x es ∧ (w2.alloc o).heap.size = w2.heap.size + 1 := by
  have hz : (w2.alloc o).heap.size = w2.heap.size + 1 := by simp
  have h1 := hp.2.size
  have h2 := hc.2.size
  have hR := hp.1.hR
  refine ⟨h.keep hE (fun b hb hl => ?_) (by omega), hE.step (fun b hd => ⟨by omega, by omega, fun e => ?_⟩) (fun b o' hd => World.cell?_of_block (a := ⟨b, o', none⟩) (Below.heap_alloc _ _ _ hd.2)) hx, hz⟩
  · rw [Below.heap_alloc _ _ _ (by omega)]
    exact hc.2.block b hl (by omega)
  · have := (h.own.lt b e).2
    omega
theorem app_done {α : Type} {E : ElemR α} {T : TypeId} {sz : Nat} {c : Cx} {k k2 : Nat} {w wr w2 w8 : World} {s2 s3 : Ms} {xs : List α} {cs es : List Value} {v v' : Value} {x : α} {o : Obj} (hE : ElemOk E sz) (hp : Pw c k s2 w wr) (hc : Pw c k2 s3 wr w2)
    (hA : OwnR E w.heap.size T sz xs cs v (w2.alloc o) ∧ E (w2.alloc o) (OD w.heap.size (w2.alloc o) v) x es ∧ (w2.alloc o).heap.size = w2.heap.size + 1) (hN : c.N ≤ w.heap.size)
    (hown : w8.ownsRow w.heap.size T sz v' (xs.length + 1) (cs ++ es)) (hg : (w2.alloc o).grownBy w8 v.ownBlock) (hlie : v'.ownBlock = v.ownBlock ∨ v'.ownBlock = some (w2.alloc o).heap.size) :
    OwnR E w.heap.size T sz (xs ++ [x]) (cs ++ es) v' w8 ∧ Pw c k2 s3 w w8 := by
  have hz := hg.size
  have h1 := hp.2.size
  have h2 := hc.2.size
  have hb : Below w.heap.size (w2.alloc o) w8 := ⟨hg.os, hg.tape, hg.output, hg.size, fun b hb => hg.block b (by rw [hA.2.2]; omega) (fun e => by
    have := (hA.1.own.lt b (by first | exact e | exact e.symm)).1
    omega)⟩
  refine ⟨hA.1.snoc hE hA.2.1 hown hg hlie, (hc.1.alloc o).below hb hN, ?_⟩
  exact (hp.2.trans (hc.2.mono h1)).trans (.of (((Below.refl w.heap.size w2).alloc (by omega) o).trans hb))
theorem OwnR.call {α : Type} {E : ElemR α} {T : TypeId} {sz : Nat} {c : Cx} {k k2 : Nat} {w W W' : World} {s2 s3 : Ms} {xs : List α} {cs : List Value} {v : Value} (h : OwnR E w.heap.size T sz xs cs v W) (hE : ElemOk E sz) (hN : c.N ≤ w.heap.size) (hR : c.R < c.N) (_ : Pw c k s2 w W) (hc : Pw c k2 s3 W W') : OwnR E w.heap.size T sz xs cs v W' :=
  h.keep hE (fun b hb hl => hc.2.block b hl (by omega)) hc.2.size
theorem sevRel_next {α : Type} {E : ElemR α} {c : Cx} {k : Nat} {w w9 : World} {T : TypeId} {sz : Nat} {e : List UInt8} {P : Ms → α × Ms} {RES : List α × Ms} {j : Nat} {v : Value} {s2 s3 : Ms} {xs : List α} {x : α} {cs : List Value} (hrow : OwnR E w.heap.size T sz (xs ++ [x]) cs v w9) (hp : Pw c k s3 w w9)
    (_ : s2.er = 0) (hless : s3.er = 0 → s3.l.length < s2.l.length) (hx : xs.length + s2.l.length ≤ 8000) (hj : s2.l.length < j + 1) (hres : RES = moreM e P j s3 (xs ++ [x])) : SevRel E c k w T sz e P RES j v w9 := by
  have hxl : (xs ++ [x]).length = xs.length + 1 := by rw [List.length_append, List.length_singleton]
  by_cases h3 : s3.er = 0
  · have := hless h3
    exact ⟨s3, xs ++ [x], cs, hp, fun _ => by omega, fun _ => by omega, by omega, hrow, hres.symm⟩
  · exact ⟨s3, xs ++ [x], cs, hp, fun h => absurd h h3, fun h => absurd h h3, by omega, hrow, hres.symm⟩
theorem moreM_bad {α : Type} (e : List UInt8) (P : Ms → α × Ms) {s : Ms} (h : s.er ≠ 0) : ∀ (n : Nat) (acc : List α), moreM e P n s acc = (acc, s)
  | 0, _ => rfl
  | n + 1, acc => by rw [moreM, if_neg h]

end Go.Proofs.YtkahnlgedacppaaGreatDoor
/-
  The cursor: one or more parts of type api.Arg.
-/
namespace Go.Proofs.YtkahnlgedacppaaGreatDoor
open Go.RowKit

end Go.Proofs.YtkahnlgedacppaaGreatDoor
/-
  doc's parser, around the cursor: what is read is taken; an argument.
-/
namespace Go.Proofs.YtkahnlgedacppaaGreatDoor
open Go.RowKit

/-- The holder is doc's parser. -/
structure Cd extends Cx where
  hq : q = fun k => .cells #[.pointer (some ⟨R, 0, none⟩), .int .i64 (k : Int)] 107 (0, 0)
instance : CoeOut Cd Cx := ⟨Cd.toCx⟩
/-! ### what is read takes a token -/
theorem tl_less {s : Ms} (h : (hdT s.l).k ≠ 0) : (tlM s).l.length < s.l.length := by
  show s.l.tail.length < s.l.length
  cases hs : s.l with
  | nil => rw [hs] at h; exact absurd rfl h
  | cons t r => show r.length < r.length + 1; omega
theorem tl_le (s : Ms) : (tlM s).l.length ≤ s.l.length := tail_le _
theorem fail_le (z e : Nat) (s : Ms) : (failM z e s).l.length ≤ s.l.length := by
  unfold failM
  split
  · exact Nat.zero_le _
  · exact Nat.le_refl _
theorem fail_er (z : Nat) {e : Nat} (he : e ≠ 0) (s : Ms) : (failM z e s).er ≠ 0 := by
  unfold failM
  split
  · exact he
  · assumption
/-- It does not go back; where it has gone wrong it stays so. -/
structure Fwd (s s' : Ms) : Prop where
  le : s'.l.length ≤ s.l.length
  er : s.er ≠ 0 → s'.er ≠ 0
/-- It has read a token, or gone wrong. -/
structure Eats (s s' : Ms) : Prop where
  le : s'.l.length ≤ s.l.length
  er : s.er ≠ 0 → s'.er ≠ 0
  lt : s'.er = 0 → s'.l.length < s.l.length
theorem Fwd.refl (s : Ms) : Fwd s s := ⟨Nat.le_refl _, id⟩
theorem Fwd.trans {a b d : Ms} (h : Fwd a b) (k : Fwd b d) : Fwd a d := ⟨Nat.le_trans k.le h.le, fun e => k.er (h.er e)⟩
theorem Eats.fwd {a b : Ms} (h : Eats a b) : Fwd a b := ⟨h.le, h.er⟩
theorem Eats.then {a b d : Ms} (h : Eats a b) (k : Fwd b d) : Eats a d := ⟨Nat.le_trans k.le h.le, fun e => k.er (h.er e), fun e => by
  have h1 : b.er = 0 := Classical.byContradiction fun hb => k.er hb e
  have := h.lt h1
  have := k.le
  omega⟩
theorem Fwd.then {a b d : Ms} (h : Fwd a b) (k : Eats b d) : Eats a d := ⟨Nat.le_trans k.le h.le, fun e => k.er (h.er e), fun e => by
  have := k.lt e
  have := h.le
  omega⟩
theorem tl_eats {s : Ms} (h : (hdT s.l).k ≠ 0) : Eats s (tlM s) := ⟨tl_le s, id, fun _ => tl_less h⟩
theorem fail_eats (z : Nat) {e : Nat} (he : e ≠ 0) (s : Ms) : Eats s (failM z e s) := ⟨fail_le z e s, fun _ => fail_er z he s, fun h => absurd h (fail_er z he s)⟩
theorem sgM_eats (z : Nat) (g : List UInt8) (s : Ms) : Eats s (sgM z g s) := by
  unfold sgM
  split
  · rename_i h; exact tl_eats (sgT_k h)
  · exact fail_eats z (by decide) s
theorem wdM_eats (z : Nat) (g : List UInt8) (s : Ms) : Eats s (wdM z g s) := by
  unfold wdM
  split
  · rename_i h; exact tl_eats (wdT_k h)
  · exact fail_eats z (by decide) s
theorem nmM_eats (z : Nat) (s : Ms) : Eats s (nmM z s).2 := by
  unfold nmM
  split
  · rename_i h; exact tl_eats (by rw [h]; decide)
  · exact fail_eats z (by decide) s
theorem vaM_fwd (z : Nat) (m : List Tk) (s : Ms) : Fwd s (vaM z m s).2 := by
  unfold vaM
  dsimp only
  have h1 : ∀ n, Fwd s ⟨s.l.drop n, s.er, s.wr⟩ := fun n => ⟨by show (s.l.drop n).length ≤ _; rw [List.length_drop]; omega, id⟩
  split
  · exact h1 _
  · rename_i he
    exact (h1 _).trans (fail_eats z he _).fwd
theorem moreM_fwd {α : Type} (e : List UInt8) {P : Ms → α × Ms} (hP : ∀ s, Fwd s (P s).2) : ∀ (n : Nat) (s : Ms) (acc : List α), Fwd s (moreM e P n s acc).2
  | 0, s, _ => .refl s
  | n + 1, s, acc => by
    unfold moreM
    split
    · split
      · exact (hP s).trans ⟨tl_le _, id⟩
      · exact (hP s).trans (moreM_fwd e hP n _ _)
    · exact .refl s
theorem svM_eats {α : Type} (z : Nat) (b e : List UInt8) {P : Ms → α × Ms} (hP : ∀ s, Fwd s (P s).2) (s : Ms) : Eats s (svM z b e P s).2 := (sgM_eats z b s).then (moreM_fwd e hP _ _ _)
theorem soM_fwd {α : Type} (z : Nat) (b e : List UInt8) {P : Ms → α × Ms} (hP : ∀ s, Fwd s (P s).2) (s : Ms) : Fwd s (soM z b e P s).2 := by
  unfold soM
  split
  · exact (svM_eats z b e hP s).fwd
  · exact .refl s
/-! ### arguments -/
end Go.Proofs.YtkahnlgedacppaaGreatDoor
