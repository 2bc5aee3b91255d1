/-
  The state of jval.copyOf: lists that are still to be laid anew; all read as they did.
-/
import Derived.Test.YtiblffipfldgjaaGreatDoorCopy
import Derived.Test.YtiblffipfldgjaaGreatDoorChk
import Derived.WalkSmall
import Derived.OneCell
import Derived.Deep.AppendLies
import Derived.Deep.LoopGhost
namespace Go.Proofs.YtiblffipfldgjaaGreatDoor
open Go.RowKit

theorem app_fresh {w : World} {ops : Array Oper} {rest : List Oper} {o : Oper} {a : Act} {Q : Exit → Act → World → Prop} (hgd : o.guard = none) (s x : Operand) (t : TypeId)
    (ho : o.op = .call { callee := .builtin .append, args := #[s, x], argTypes := #[t, t] }) (e : TypeId) (i : TypeInfo) (z : Value) (size bytes : Nat) (ht : Tryz.prog.underlying t = some (.slice e)) (hi : Tryz.prog.info? e = some i) (hz : i.zero = some z)
    (hsize : i.size = size) (hby : i.bytes = bytes) (hzs : z.cells.size = size) (hsz : 0 < size) (hs : a.eval s = .slice none 0 0) (A : Option Addr) (m c : Nat) (news : List Value) (hx : a.eval x = .slice A m c) (hl : news.length = m * size)
    (hA : 0 < m → ∃ b off, A = some ⟨b, off, none⟩ ∧ ∀ j u, news[j]? = some u → w.cell? ⟨b, off + j, none⟩ = some u) (h1 : ∀ u ∈ news, u.oneCell' = true) (h63 : m ≤ maxLen) (hbytes : m * bytes ≤ 140737488355328)
    (h : ∀ v' w', w'.ownsRow w.heap.size e size v' m news → Below w.heap.size w w' → wpList Tryz.prog ops Q rest (a.put o.dst v') w') : wpList Tryz.prog ops Q (o :: rest) a w := by
  have hbel : ∀ {w' : World}, w.grownBy w' none → Below w.heap.size w w' := fun hg => ⟨hg.os, hg.tape, hg.output, hg.size, fun k hk => hg.block k hk (by simp)⟩
  cases A with
  | none =>
    have hm : m = 0 := by
      rcases Nat.eq_zero_or_pos m with h0 | h0
      · exact h0
      · obtain ⟨b, off, e, _⟩ := hA h0; cases e
    subst hm
    have hn : news = [] := List.eq_nil_of_length_eq_zero (by rw [hl]; simp)
    subst hn
    have hrun : (Builtin.append_ #[t, t] o.type #[.slice none 0 0, .slice none 0 c]).run Tryz.prog w = .ok (.slice none 0 0) w := by
      simp [Builtin.append_, run_underlying ht, sizeOf, typeInfo, hi, Builtin.lenOf, Builtin.firstCells]
    refine wpList_plain hgd fun K hK => ?_
    unfold Oper.wp
    simp [execOp, ho, resolve, invoke, builtin, hs, hx, hrun, Result.andThen]
    exact hK _ _ (h _ _ (World.ownsRow_nil _ _ _ _) (Below.refl _ _))
  | some ad =>
    refine wpList_append_own w hgd s x t ho w.heap.size e i z size bytes ht hi hz hsize hby hzs hsz (.slice none 0 0) 0 [] hs (World.ownsRow_nil _ _ _ _) ad m c news hx hl ?_ h1 (by rw [Nat.zero_add]; exact h63) (by rw [Nat.zero_add]; exact hbytes) (Nat.le_refl _) ?_
    · intro j u hu
      have hm : 0 < m := by
        rcases Nat.eq_zero_or_pos m with h0 | h0
        · subst h0; rw [List.eq_nil_of_length_eq_zero (l := news) (by rw [hl]; simp)] at hu; simp at hu
        · exact h0
      obtain ⟨b, off, ea, hc⟩ := hA hm
      obtain rfl := Option.some.inj ea
      rw [Go.WideShapes.add_plain]
      exact hc j u hu
    · intro v' w' h2 h3 _
      rw [Nat.zero_add, List.nil_append] at h2
      exact h v' w' h2 (hbel h3)

/-- A fresh row, told: its address, its room, its cells, which none has frozen. -/
theorem fresh_row {w : World} {base : Nat} {e : TypeId} {size : Nat} {v : Value} {m : Nat} {news : List Value} (h : w.ownsRow base e size v m news) :
    ∃ a c, v = .slice a m c ∧ m ≤ c ∧ (0 < m → ∃ g, a = some ⟨g, 0, none⟩ ∧ base ≤ g ∧ g < w.heap.size ∧ (∀ j, w.frozen? ⟨g, j, none⟩ = false) ∧ ∀ j, j < m * size → w.cell? ⟨g, j, none⟩ = news[j]?) := by
  rcases h.2 with ⟨hv, h0⟩ | ⟨g, cap, cur, hv, hb, hg, hnc, hcm, hcs, ht⟩
  · exact ⟨none, 0, by rw [hv, h0], by omega, fun hp => by omega⟩
  · subst hv
    refine ⟨_, cap, rfl, hnc, fun _ => ⟨g, rfl, hb, (Array.getElem?_eq_some_iff.1 hg).1, fun j => h.frozenAt j, fun j hj => h.cellAt j hj⟩⟩

/-- The cells that a slice of parts leads to. -/
theorem rows_cells {w : World} {D : Nat → Prop} {n : Nat} {a : Option Addr} {ps : List JV} (h : Rows4D w D (RdD w D n) a ps) :
    ∃ news : List Value, news.length = ps.length * 4 ∧ (0 < ps.length → ∃ b off, a = some ⟨b, off, none⟩ ∧ ∀ j u, news[j]? = some u → w.cell? ⟨b, off + j, none⟩ = some u) ∧ ∀ u ∈ news, u.oneCell' = true := by
  by_cases hp : 0 < ps.length
  · obtain ⟨b, off, e, _, hc⟩ := h hp
    have hat : ∀ j, j < ps.length * 4 → ∃ u, w.cell? ⟨b, off + j, none⟩ = some u ∧ u.oneCell' = true := by
      intro j hj
      obtain ⟨c0, c1, c2, c3, ⟨f0, f1, f2, f3⟩, hR⟩ := hc (j / 4) _ (List.getElem?_eq_getElem (by omega))
      obtain ⟨an1, cn1, ap1, cp1, ev⟩ := hR.shape
      injection ev with ev
      have ev' : [c0, c1, c2, c3] = _ := congrArg Array.toList ev
      simp only [List.cons.injEq, and_true] at ev'
      obtain ⟨rfl, rfl, rfl, rfl⟩ := ev'
      have hm : j % 4 < 4 := Nat.mod_lt _ (by omega)
      match hk : j % 4, hm with
      | 0, _ => exact ⟨_, by rw [show off + j = off + j / 4 * 4 by omega]; exact f0, rfl⟩
      | 1, _ => exact ⟨_, by rw [show off + j = off + j / 4 * 4 + 1 by omega]; exact f1, rfl⟩
      | 2, _ => exact ⟨_, by rw [show off + j = off + j / 4 * 4 + 2 by omega]; exact f2, rfl⟩
      | 3, _ => exact ⟨_, by rw [show off + j = off + j / 4 * 4 + 3 by omega]; exact f3, rfl⟩
    refine ⟨(List.range (ps.length * 4)).map fun j => (w.cell? ⟨b, off + j, none⟩).getD undef, by simp, fun _ => ⟨b, off, e, fun j u hu => ?_⟩, fun u hu => ?_⟩
    · rw [List.getElem?_map] at hu
      obtain ⟨k, hk, e2⟩ := Option.map_eq_some_iff.1 hu
      obtain ⟨hlt, e3⟩ := List.getElem?_eq_some_iff.1 hk
      rw [List.getElem_range] at e3
      subst e3
      rw [List.length_range] at hlt
      obtain ⟨u', h1, _⟩ := hat j hlt
      rw [h1] at e2
      rw [h1, ← e2]
      rfl
    · obtain ⟨k, hk, rfl⟩ := List.mem_map.1 hu
      obtain ⟨u', h1, h2⟩ := hat k (List.mem_range.1 hk)
      rw [h1]
      exact h2
  · exact ⟨[], by simp; omega, fun h => absurd h hp, by simp⟩

theorem names_cells {w : World} {D : Nat → Prop} {a : Option Addr} {ns : List ByteArray} (h : StrsD w D a ns) :
    ∃ news : List Value, news.length = ns.length * 1 ∧ news = ns.map Value.string ∧ (0 < ns.length → ∃ b off, a = some ⟨b, off, none⟩ ∧ ∀ j u, news[j]? = some u → w.cell? ⟨b, off + j, none⟩ = some u) ∧ ∀ u ∈ news, u.oneCell' = true := by
  refine ⟨ns.map Value.string, by simp, rfl, fun hp => ?_, fun u hu => ?_⟩
  · obtain ⟨b, off, e, _, hc⟩ := h hp
    refine ⟨b, off, e, fun j u hu => ?_⟩
    rw [List.getElem?_map] at hu
    obtain ⟨x, hx, rfl⟩ := Option.map_eq_some_iff.1 hu
    exact (hc j x hx).2
  · obtain ⟨x, _, rfl⟩ := List.mem_map.1 hu
    rfl

/-- How many values there are in one. -/
def nodes : Nat → JV → Nat
  | 0, _ => 0
  | n + 1, x => 1 + (x.ps.map (nodes n)).sum

structure CE where
  g : Nat
  cap : Nat
  n : Nat
  xs : List JV
def CE.cell (e : CE) : Value := .slice (some ⟨e.g, 0, none⟩) e.xs.length e.cap
def CE.wt (e : CE) : Nat := 1 + (e.xs.map (nodes e.n)).sum
def mC (es : List CE) : Nat := (es.map CE.wt).sum
theorem mC_snoc (es : List CE) (e : CE) : mC (es ++ [e]) = mC es + e.wt := by simp [mC]
theorem mC_len (es : List CE) : es.length ≤ mC es := by
  induction es with
  | nil => exact Nat.le_refl _
  | cons e r ih =>
    have : mC (e :: r) = e.wt + mC r := by simp [mC]
    rw [this, List.length_cons]
    unfold CE.wt
    omega

def Dm (w : World) (X : Nat → Prop) (go : Nat) (b : Nat) : Prop := b < w.heap.size ∧ b ≠ go ∧ ¬ X b
structure CE.Ok (w : World) (X : Nat → Prop) (go B0 : Nat) (e : CE) : Prop where
  lo : B0 ≤ e.g
  hi : e.g < w.heap.size
  ne : e.g ≠ go
  ner : ¬ X e.g
  fz : ∀ j, w.frozen? ⟨e.g, j, none⟩ = false
  len : e.xs.length ≤ 2000000
  cap : e.xs.length ≤ e.cap
  rd : Rows4D w (Dm w X go) (RdD w (Dm w X go) e.n) (some ⟨e.g, 0, none⟩) e.xs

def CS (X : Nat → Prop) (B0 : Nat) (w0 : World) (es ks : List CE) (v : Value) (w : World) : Prop :=
  ∃ go, w.ownsRow B0 23 1 v es.length (es.map CE.cell) ∧ v.ownBlock = some go ∧ Below B0 w0 w ∧ B0 ≤ w.heap.size ∧ ∀ e, (e ∈ es ∨ e ∈ ks) → e.Ok w X go B0

theorem CE.Ok.below {w w' : World} {X : Nat → Prop} {go B0 : Nat} {e : CE} (h : e.Ok w X go B0) (hb : Below w.heap.size w w') : e.Ok w' X go B0 :=
  ⟨h.lo, Nat.lt_of_lt_of_le h.hi hb.size, h.ne, h.ner, fun j => (hb.frozen (p := ⟨e.g, j, none⟩) h.hi).trans (h.fz j), h.len, h.cap, h.rd.step (fun _ hd => ⟨Nat.lt_of_lt_of_le hd.1 hb.size, hd.2⟩) (fun b o hd => hb.cell (p := ⟨b, o, none⟩) hd.1)⟩

theorem CS.below {X : Nat → Prop} {B0 : Nat} {w0 w w' : World} {es ks : List CE} {v : Value} (h : CS X B0 w0 es ks v w) (hb : Below w.heap.size w w') : CS X B0 w0 es ks v w' := by
  obtain ⟨go, hown, hgo, hbw, hle, hok⟩ := h
  exact ⟨go, hown.kept (row := none) ⟨hb.os, hb.tape, hb.output, hb.size, fun j hj _ => hb.block j hj⟩ (by cases hv : v.ownBlock <;> simp), hgo, hbw.trans (hb.mono hle), Nat.le_trans hle hb.size, fun e he => (hok e he).below hb⟩

/-- A slice laid anew into a cell of a fresh block. -/
theorem CS.set {X : Nat → Prop} {B0 : Nat} {w0 w : World} {es ks : List CE} {v : Value} (h : CS X B0 w0 es ks v w) {g o : Nat} (vo vn : Value) (hg : B0 ≤ g) (hne : ∀ go, v.ownBlock = some go → g ≠ go)
    (hR : ∀ go, v.ownBlock = some go → Redir w (w.setCell ⟨g, o, none⟩ vn) (Dm w X go) ⟨g, o, none⟩ vo vn) : CS X B0 w0 es ks v (w.setCell ⟨g, o, none⟩ vn) := by
  obtain ⟨go, hown, hgo, hbw, hle, hok⟩ := h
  have hR := hR go hgo
  have hsz : (w.setCell ⟨g, o, none⟩ vn).heap.size = w.heap.size := by simp [World.setCell]
  have hD : Dm (w.setCell ⟨g, o, none⟩ vn) X go = Dm w X go := by unfold Dm; rw [hsz]
  refine ⟨go, ownsRow_setCell_other hown (by rw [hgo]; intro e; exact hne go hgo (Option.some.inj e).symm) _, hgo, hbw.setCell (p := ⟨g, o, none⟩) hg _, by rw [hsz]; exact hle, fun e he => ?_⟩
  have ho := hok e he
  refine ⟨ho.lo, by rw [hsz]; exact ho.hi, ho.ne, ho.ner, fun j => ?_, ho.len, ho.cap, by rw [hD]; exact hR.rows4 ho.rd⟩
  rw [World.frozen?_setCell]
  exact ho.fz j

/-- One more onto the stack. -/
theorem CS.push {X : Nat → Prop} {B0 : Nat} {w0 w w' : World} {es ks : List CE} {v v' : Value} {o : Obj} (e : CE) (h : CS X B0 w0 es ks v w) (he : ∀ go, v.ownBlock = some go → e.Ok w X go B0)
    (hown' : w'.ownsRow B0 23 1 v' (es.length + 1) (es.map CE.cell ++ [e.cell])) (hg : (w.alloc o).grownBy w' v.ownBlock) (hlie : v'.ownBlock = v.ownBlock ∨ v'.ownBlock = some (w.alloc o).heap.size) : CS X B0 w0 (es ++ [e]) ks v' w' := by
  obtain ⟨go, hown, hgo, hbw, hle, hok⟩ := h
  have hlt := (hown.lt go hgo)
  have hsz : w.heap.size + 1 ≤ w'.heap.size := by have := hg.size; simpa using this
  have hcell : ∀ b o', b < w.heap.size → b ≠ go → w'.cell? ⟨b, o', none⟩ = w.cell? ⟨b, o', none⟩ := fun b o' hb hne =>
    (World.cell?_of_block (a := ⟨b, o', none⟩) ((hg.block b (by simp; omega) (by rw [hgo]; intro e; exact hne (Option.some.inj e))).trans (Below.heap_alloc w o b hb)))
  have hfr : ∀ b o', b < w.heap.size → b ≠ go → w'.frozen? ⟨b, o', none⟩ = w.frozen? ⟨b, o', none⟩ := fun b o' hb hne =>
    (World.frozen?_of_block (a := ⟨b, o', none⟩) ((hg.block b (by simp; omega) (by rw [hgo]; intro e; exact hne (Option.some.inj e))).trans (Below.heap_alloc w o b hb)))
  obtain ⟨go', hgo', hgn⟩ : ∃ go', v'.ownBlock = some go' ∧ (go' = go ∨ w.heap.size ≤ go') := by
    rcases hlie with hl | hl
    · exact ⟨go, hl.trans hgo, .inl rfl⟩
    · exact ⟨_, hl, .inr (by simp)⟩
  have hkeep : ∀ x : CE, x.Ok w X go B0 → x.Ok w' X go' B0 := fun x hx => by
    have hne' : x.g ≠ go' := by
      have h1 := hx.ne
      have h2 := hx.hi
      rcases hgn with rfl | h3
      · exact h1
      · omega
    refine ⟨hx.lo, Nat.lt_of_lt_of_le hx.hi (by omega), hne', hx.ner, fun j => (hfr x.g j hx.hi hx.ne).trans (hx.fz j), hx.len, hx.cap, hx.rd.step (fun b hd => ⟨by have := hd.1; omega, ?_, hd.2.2⟩) (fun b o' hd => hcell b o' hd.1 hd.2.1)⟩
    have h1 := hd.1
    have h2 := hd.2.1
    rcases hgn with rfl | h3
    · exact h2
    · omega
  refine ⟨go', by rw [List.length_append, List.length_singleton, List.map_append]; exact hown', hgo', ?_, by omega, fun x hx => ?_⟩
  · refine hbw.trans ⟨hg.os, hg.tape, hg.output, by omega, fun k hk => ?_⟩
    exact (hg.block k (by simp; omega) (by rw [hgo]; intro e; have := Option.some.inj e; omega)).trans (Below.heap_alloc w o k (by omega))
  · rcases hx with hx | hx
    · rcases List.mem_append.1 hx with hx | hx
      · exact hkeep x (hok x (.inl hx))
      · simp at hx
        subst hx
        exact hkeep x (he go hgo)
    · exact hkeep x (hok x (.inr hx))

/-- One of the entry's values, its cells written out. -/
theorem CE.Ok.elem {w : World} {X : Nat → Prop} {go B0 : Nat} {e : CE} (h : e.Ok w X go B0) {i : Nat} (hi : i < e.xs.length) :
    ∃ y an cn ap cp, Hid (e.xs[i] = y) ∧ RdD w (Dm w X go) e.n y (.agg #[.int .i64 y.k, .string y.s, .slice an y.ns.length cn, .slice ap y.ps.length cp]) ∧
      w.cell? ⟨e.g, i * 4, none⟩ = some (.int .i64 y.k) ∧ w.cell? ⟨e.g, i * 4 + 1, none⟩ = some (.string y.s) ∧ w.cell? ⟨e.g, i * 4 + 2, none⟩ = some (.slice an y.ns.length cn) ∧ w.cell? ⟨e.g, i * 4 + 3, none⟩ = some (.slice ap y.ps.length cp) := by
  obtain ⟨b, off, ea, hb, hc⟩ := h.rd (by omega)
  injection ea with ea
  injection ea with eb eo
  subst eb eo
  obtain ⟨c0, c1, c2, c3, ⟨f0, f1, f2, f3⟩, hR⟩ := hc i _ (List.getElem?_eq_getElem hi)
  obtain ⟨an1, cn1, ap1, cp1, ev⟩ := hR.shape
  injection ev with ev
  have ev' : [c0, c1, c2, c3] = _ := congrArg Array.toList ev
  simp only [List.cons.injEq, and_true] at ev'
  obtain ⟨rfl, rfl, rfl, rfl⟩ := ev'
  rw [Nat.zero_add] at f0 f1 f2 f3
  exact ⟨_, an1, cn1, ap1, cp1, Lib.hid rfl, hR, f0, f1, f2, f3⟩

end Go.Proofs.YtiblffipfldgjaaGreatDoor
