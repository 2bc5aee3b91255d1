/-
  A row of tokens, as a later call finds it.
-/
import Derived.Test.YtkahnlgedacppaaGreatDoorMText
import Derived.Laws.AppendOwnNone
import Derived.Maps.AppendAt
import Derived.Laws.OwnMore
import Derived.WalkSmall
import Derived.OneCell
import Derived.Deep.AppendLies
import Derived.Deep.LoopGhost
namespace Go.Proofs.YtkahnlgedacppaaGreatDoor
open Go.RowKit

theorem tkCells_at : ∀ (ts : List Tk) (j : Nat) (t : Tk), ts[j]? = some t → (tkCells ts)[j * 3]? = some (.int .i64 t.k) ∧ (tkCells ts)[j * 3 + 1]? = some (.string ⟨t.s.toArray⟩) ∧ (tkCells ts)[j * 3 + 2]? = some (.int .i64 t.at_)
  | [], _, _, h => by simp at h
  | a :: ts, 0, t, h => by
    simp only [List.getElem?_cons_zero, Option.some.injEq] at h
    subst h
    exact ⟨rfl, rfl, rfl⟩
  | a :: ts, j + 1, t, h => by
    have := tkCells_at ts j t (by simpa using h)
    have e : tkCells (a :: ts) = [.int .i64 a.k, .string ⟨a.s.toArray⟩, .int .i64 a.at_] ++ tkCells ts := rfl
    rw [e, show (j + 1) * 3 = 3 + j * 3 by omega]
    refine ⟨?_, ?_, ?_⟩
    · rw [List.getElem?_append_right (by simp)]; simpa using this.1
    · rw [List.getElem?_append_right (by simp; omega)]
      rw [show 3 + j * 3 + 1 - [Value.int .i64 a.k, .string ⟨a.s.toArray⟩, .int .i64 a.at_].length = j * 3 + 1 by simp; omega]
      exact this.2.1
    · rw [List.getElem?_append_right (by simp; omega)]
      rw [show 3 + j * 3 + 2 - [Value.int .i64 a.k, .string ⟨a.s.toArray⟩, .int .i64 a.at_].length = j * 3 + 2 by simp; omega]
      exact this.2.2
/-- A row of tokens, as a call finds it. -/
def TkAt (w : World) (a : Option Addr) (ts : List Tk) : Prop := 0 < ts.length → ∃ g, a = some ⟨g, 0, none⟩ ∧ ∀ j u, (tkCells ts)[j]? = some u → w.cell? ⟨g, j, none⟩ = some u
/-- Such a row from any place of its block on. -/
def TkO (w : World) (a : Option Addr) (ts : List Tk) : Prop := 0 < ts.length → ∃ g off, a = some ⟨g, off, none⟩ ∧ ∀ j u, (tkCells ts)[j]? = some u → w.cell? ⟨g, off + j, none⟩ = some u
theorem TkAt.o {w : World} {a : Option Addr} {ts : List Tk} (h : TkAt w a ts) : TkO w a ts := fun h0 => by
  obtain ⟨g, e, hc⟩ := h h0
  exact ⟨g, 0, e, fun j u hj => by rw [Nat.zero_add]; exact hc j u hj⟩
theorem tkAt_of {w : World} {B : Nat} {T : TypeId} {v : Value} {ts : List Tk} (h : w.ownsRow B T 3 v ts.length (tkCells ts)) : ∃ a cap, v = .slice a ts.length cap ∧ ts.length ≤ cap ∧ TkAt w a ts ∧ ∀ w', Below w.heap.size w w' → TkAt w' a ts := by
  rcases h.2 with ⟨hv, h0⟩ | ⟨g, cap, cur, hv, hB, hg, hcap, _⟩
  · exact ⟨none, 0, by rw [hv, h0], by omega, fun h' => absurd h' (by omega), fun _ _ h' => absurd h' (by omega)⟩
  · refine ⟨some ⟨g, 0, none⟩, cap, hv, hcap, fun _ => ⟨g, rfl, fun j u hj => ?_⟩, fun w' hb _ => ⟨g, rfl, fun j u hj => ?_⟩⟩
    · have := h.cells (g := g) (by rw [hv]; rfl) j u hj
      have e : (⟨g, 0, none⟩ : Addr).add j = ⟨g, j, none⟩ := by cases j <;> simp [Addr.add]
      rwa [e] at this
    · have := (own_below h hb).cells (g := g) (by rw [hv]; rfl) j u hj
      have e : (⟨g, 0, none⟩ : Addr).add j = ⟨g, j, none⟩ := by cases j <;> simp [Addr.add]
      rwa [e] at this

theorem lxGo_len : ∀ (f a : Nat) (l : List UInt8) (acc : List Tk), (lxGo f a l acc).1.length ≤ acc.length + l.length
  | 0, _, _, _ => Nat.le_add_right _ _
  | _ + 1, _, [], _ => Nat.le_add_right _ _
  | f + 1, a, b :: r, acc => by
    cases hb : lxBlank b with
    | true =>
      rw [lxGo_blank _ _ _ _ _ hb]
      have := lxGo_len f (a + 1) r acc
      rw [List.length_cons]
      omega
    | false =>
      cases h35 : (b == 35) with
      | true =>
        rw [lxGo_rem _ _ _ _ _ hb h35]
        have := lxGo_len f (a + lxRem (b :: r)) ((b :: r).drop (lxRem (b :: r))) acc
        rw [List.length_drop] at this
        omega
      | false =>
        cases hw : lxWord (b :: r) with
        | none =>
          rw [lxGo_none _ _ _ _ _ hb h35 hw]
          exact Nat.zero_le _
        | some o =>
          obtain ⟨k, s, m⟩ := o
          rw [lxGo_some _ _ _ _ _ hb h35 hw]
          have hp := lxWord_le hw
          have := lxGo_len f (a + m) ((b :: r).drop m) (acc ++ [⟨k, s, a⟩])
          rw [List.length_drop, List.length_append, List.length_singleton] at this
          omega
theorem lexP_len (l : List UInt8) : (lexP l).1.length ≤ 8000 := by
  unfold lexP
  split
  · exact Nat.zero_le _
  · have := lxGo_len (l.length + 1) 0 l []
    simp only [List.length_nil] at this
    omega


end Go.Proofs.YtkahnlgedacppaaGreatDoor
/-
  Readings through blocks that are named by a test; a slice laid anew with the same cells reads as it did.
-/
namespace Go.Proofs.YtkahnlgedacppaaGreatDoor
open Go.RowKit

def StrsD (w : World) (D : Nat → Prop) (a : Option Addr) (ns : List ByteArray) : Prop :=
  0 < ns.length → ∃ b off, a = some ⟨b, off, none⟩ ∧ D b ∧ ∀ j x, ns[j]? = some x → x.size ≤ 2000000 ∧ w.cell? ⟨b, off + j, none⟩ = some (.string x)
def Rows4D (w : World) (D : Nat → Prop) (R : JV → Value → Prop) (a : Option Addr) (ps : List JV) : Prop :=
  0 < ps.length → ∃ b off, a = some ⟨b, off, none⟩ ∧ D b ∧ ∀ i x, ps[i]? = some x → ∃ c0 c1 c2 c3, Four w b (off + i * 4) c0 c1 c2 c3 ∧ R x (.agg #[c0, c1, c2, c3])
def RdD (w : World) (D : Nat → Prop) : Nat → JV → Value → Prop
  | 0, _, _ => False
  | n + 1, x, v => ∃ an cn ap cp, v = .agg #[.int .i64 x.k, .string x.s, .slice an x.ns.length cn, .slice ap x.ps.length cp] ∧
      (x.s.size ≤ 2000000 ∧ x.ns.length ≤ 2000000 ∧ x.ps.length ≤ 2000000 ∧ x.ns.length ≤ cn ∧ x.ps.length ≤ cp) ∧ StrsD w D an x.ns ∧ Rows4D w D (RdD w D n) ap x.ps

theorem RdD.shape {w : World} {D : Nat → Prop} {n : Nat} {x : JV} {v : Value} (h : RdD w D n x v) : ∃ an cn ap cp, v = .agg #[.int .i64 x.k, .string x.s, .slice an x.ns.length cn, .slice ap x.ps.length cp] := by
  match n, h with
  | _ + 1, ⟨an, cn, ap, cp, e, _⟩ => exact ⟨an, cn, ap, cp, e⟩

theorem RdD.step {w w' : World} {D D' : Nat → Prop} (hD : ∀ b, D b → D' b) (hk : ∀ b o, D b → w'.cell? ⟨b, o, none⟩ = w.cell? ⟨b, o, none⟩) : ∀ {n : Nat} {x : JV} {v : Value}, RdD w D n x v → RdD w' D' n x v
  | 0, _, _, h => h
  | _ + 1, _, _, h => by
    obtain ⟨an, cn, ap, cp, e, hz, hs, hr⟩ := h
    refine ⟨an, cn, ap, cp, e, hz, fun hp => ?_, fun hp => ?_⟩
    · obtain ⟨b, off, e, hb, hc⟩ := hs hp
      exact ⟨b, off, e, hD b hb, fun j x hx => ⟨(hc j x hx).1, (hk b _ hb).trans (hc j x hx).2⟩⟩
    · obtain ⟨b, off, e, hb, hc⟩ := hr hp
      refine ⟨b, off, e, hD b hb, fun i x hx => ?_⟩
      obtain ⟨c0, c1, c2, c3, h4, hR⟩ := hc i x hx
      exact ⟨c0, c1, c2, c3, h4.keep fun o => hk b o hb, RdD.step hD hk hR⟩
theorem Rows4D.step {w w' : World} {D D' : Nat → Prop} {n : Nat} {a : Option Addr} {ps : List JV} (h : Rows4D w D (RdD w D n) a ps) (hD : ∀ b, D b → D' b) (hk : ∀ b o, D b → w'.cell? ⟨b, o, none⟩ = w.cell? ⟨b, o, none⟩) : Rows4D w' D' (RdD w' D' n) a ps := fun hp => by
  obtain ⟨b, off, e, hb, hc⟩ := h hp
  refine ⟨b, off, e, hD b hb, fun i x hx => ?_⟩
  obtain ⟨c0, c1, c2, c3, h4, hR⟩ := hc i x hx
  exact ⟨c0, c1, c2, c3, h4.keep fun o => hk b o hb, RdD.step hD hk hR⟩

/-- One cell, a slice, laid anew: what reads through it reads as it did. -/
structure Redir (w w' : World) (D : Nat → Prop) (p : Addr) (vo vn : Value) : Prop where
  same : ∀ b o, (⟨b, o, none⟩ : Addr) ≠ p → w'.cell? ⟨b, o, none⟩ = w.cell? ⟨b, o, none⟩
  old : w.cell? p = some vo
  new : w'.cell? p = some vn
  slice : ∃ a n c, vo = .slice a n c
  str : ∀ (ns : List ByteArray) a c, vo = .slice a ns.length c → StrsD w D a ns → ∃ a' c', vn = .slice a' ns.length c' ∧ ns.length ≤ c' ∧ StrsD w' D a' ns
  rows : ∀ (m : Nat) (ps : List JV) a c, vo = .slice a ps.length c → Rows4D w D (RdD w D m) a ps → (∀ x v, RdD w D m x v → RdD w' D m x v) → ∃ a' c', vn = .slice a' ps.length c' ∧ ps.length ≤ c' ∧ Rows4D w' D (RdD w' D m) a' ps

theorem Redir.int {w w' : World} {D : Nat → Prop} {p : Addr} {vo vn : Value} (R : Redir w w' D p vo vn) {b o : Nat} {k : IntKind} {z : Int} (h : w.cell? ⟨b, o, none⟩ = some (.int k z)) : w'.cell? ⟨b, o, none⟩ = some (.int k z) := by
  rw [R.same b o ?_]; exact h
  rintro rfl
  obtain ⟨a, n, c, e⟩ := R.slice
  rw [R.old, e] at h
  cases h
theorem Redir.string {w w' : World} {D : Nat → Prop} {p : Addr} {vo vn : Value} (R : Redir w w' D p vo vn) {b o : Nat} {s : ByteArray} (h : w.cell? ⟨b, o, none⟩ = some (.string s)) : w'.cell? ⟨b, o, none⟩ = some (.string s) := by
  rw [R.same b o ?_]; exact h
  rintro rfl
  obtain ⟨a, n, c, e⟩ := R.slice
  rw [R.old, e] at h
  cases h
theorem Redir.any {w w' : World} {D : Nat → Prop} {p : Addr} {vo vn : Value} (R : Redir w w' D p vo vn) {b o : Nat} {u : Value} (h : w.cell? ⟨b, o, none⟩ = some u) : ∃ d, w'.cell? ⟨b, o, none⟩ = some d ∧ (d = u ∨ (u = vo ∧ d = vn)) := by
  by_cases e : (⟨b, o, none⟩ : Addr) = p
  · subst e
    refine ⟨vn, R.new, .inr ⟨?_, rfl⟩⟩
    rw [R.old] at h
    exact (Option.some.inj h).symm
  · exact ⟨u, (R.same b o e).trans h, .inl rfl⟩

theorem Redir.agg {w w' : World} {D : Nat → Prop} {p : Addr} {vo vn : Value} (R : Redir w w' D p vo vn) : ∀ (m : Nat) (x : JV) (c2 c3 d2 d3 : Value), (d2 = c2 ∨ (c2 = vo ∧ d2 = vn)) → (d3 = c3 ∨ (c3 = vo ∧ d3 = vn)) → RdD w D m x (.agg #[.int .i64 x.k, .string x.s, c2, c3]) → RdD w' D m x (.agg #[.int .i64 x.k, .string x.s, d2, d3])
  | 0, _, _, _, _, _, _, _, h => h
  | m + 1, x, c2, c3, d2, d3, h2, h3, h => by
    have ih : ∀ x v, RdD w D m x v → RdD w' D m x v := fun y v hv => by
      obtain ⟨an, cn, ap, cp, rfl⟩ := hv.shape
      exact R.agg m y _ _ _ _ (.inl rfl) (.inl rfl) hv
    obtain ⟨an, cn, ap, cp, e, ⟨z1, z2, z3, z4, z5⟩, hs, hr⟩ := h
    injection e with e
    have e' : [Value.int .i64 x.k, .string x.s, c2, c3] = _ := congrArg Array.toList e
    simp only [List.cons.injEq, true_and, and_true] at e'
    obtain ⟨rfl, rfl⟩ := e'
    obtain ⟨an', cn', rfl, q4, hs'⟩ : ∃ an' cn', d2 = .slice an' x.ns.length cn' ∧ x.ns.length ≤ cn' ∧ StrsD w' D an' x.ns := by
      rcases h2 with rfl | ⟨hv, rfl⟩
      · refine ⟨an, cn, rfl, z4, fun hp => ?_⟩
        obtain ⟨b, off, e, hb, hc⟩ := hs hp
        exact ⟨b, off, e, hb, fun j y hy => ⟨(hc j y hy).1, R.string (hc j y hy).2⟩⟩
      · exact R.str x.ns an cn hv.symm hs
    obtain ⟨ap', cp', rfl, q5, hr'⟩ : ∃ ap' cp', d3 = .slice ap' x.ps.length cp' ∧ x.ps.length ≤ cp' ∧ Rows4D w' D (RdD w' D m) ap' x.ps := by
      rcases h3 with rfl | ⟨hv, rfl⟩
      · refine ⟨ap, cp, rfl, z5, fun hp => ?_⟩
        obtain ⟨b, off, e, hb, hc⟩ := hr hp
        refine ⟨b, off, e, hb, fun i y hy => ?_⟩
        obtain ⟨c0, c1, c2, c3, ⟨f0, f1, f2, f3⟩, hR⟩ := hc i y hy
        obtain ⟨an1, cn1, ap1, cp1, ev⟩ := hR.shape
        injection ev with ev
        have ev' : [c0, c1, c2, c3] = _ := congrArg Array.toList ev
        simp only [List.cons.injEq, and_true] at ev'
        obtain ⟨rfl, rfl, rfl, rfl⟩ := ev'
        obtain ⟨d2, g2, s2⟩ := R.any f2
        obtain ⟨d3, g3, s3⟩ := R.any f3
        exact ⟨_, _, d2, d3, ⟨R.int f0, R.string f1, g2, g3⟩, R.agg m y _ _ d2 d3 s2 s3 hR⟩
      · exact R.rows m x.ps ap cp hv.symm hr ih
    exact ⟨an', cn', ap', cp', rfl, ⟨z1, z2, z3, q4, q5⟩, hs', hr'⟩

theorem Redir.rd {w w' : World} {D : Nat → Prop} {p : Addr} {vo vn : Value} (R : Redir w w' D p vo vn) {m : Nat} {x : JV} {v : Value} (h : RdD w D m x v) : RdD w' D m x v := by
  obtain ⟨an, cn, ap, cp, rfl⟩ := h.shape
  exact R.agg m x _ _ _ _ (.inl rfl) (.inl rfl) h
theorem Redir.rows4 {w w' : World} {D : Nat → Prop} {p : Addr} {vo vn : Value} (R : Redir w w' D p vo vn) {m : Nat} {a : Option Addr} {ps : List JV} (h : Rows4D w D (RdD w D m) a ps) : Rows4D w' D (RdD w' D m) a ps := fun hp => by
  obtain ⟨b, off, e, hb, hc⟩ := h hp
  refine ⟨b, off, e, hb, fun i y hy => ?_⟩
  obtain ⟨c0, c1, c2, c3, ⟨f0, f1, f2, f3⟩, hR⟩ := hc i y hy
  obtain ⟨an1, cn1, ap1, cp1, ev⟩ := hR.shape
  injection ev with ev
  have ev' : [c0, c1, c2, c3] = _ := congrArg Array.toList ev
  simp only [List.cons.injEq, and_true] at ev'
  obtain ⟨rfl, rfl, rfl, rfl⟩ := ev'
  obtain ⟨d2, g2, s2⟩ := R.any f2
  obtain ⟨d3, g3, s3⟩ := R.any f3
  exact ⟨_, _, d2, d3, ⟨R.int f0, R.string f1, g2, g3⟩, R.agg m y _ _ d2 d3 s2 s3 hR⟩

/-- Names, laid anew. -/
theorem Redir.names {w : World} {D : Nat → Prop} {p : Addr} {an an' : Option Addr} {cn cn' : Nat} {ns : List ByteArray} (hold : w.cell? p = some (.slice an ns.length cn)) (hs : StrsD w D an ns) (hs' : StrsD w D an' ns) (hc' : ns.length ≤ cn')
    (hnew : (w.setCell p (.slice an' ns.length cn')).cell? p = some (.slice an' ns.length cn')) : Redir w (w.setCell p (.slice an' ns.length cn')) D p (.slice an ns.length cn) (.slice an' ns.length cn') := by
  have hsame : ∀ b o, (⟨b, o, none⟩ : Addr) ≠ p → (w.setCell p (.slice an' ns.length cn')).cell? ⟨b, o, none⟩ = w.cell? ⟨b, o, none⟩ := fun b o hne => World.cell?_setCell_other _ _ _ _ hne.symm
  refine ⟨hsame, hold, hnew, ⟨_, _, _, rfl⟩, ?_, ?_⟩
  · intro ns1 a c e h1
    injection e with e1 e2 e3
    subst e1 e3
    have hns : ns1 = ns := by
      by_cases hp : 0 < ns.length
      · obtain ⟨b, off, ea, hb, hc⟩ := hs hp
        obtain ⟨b1, off1, ea1, hb1, hc1⟩ := h1 (by omega)
        rw [ea] at ea1
        injection ea1 with ea1
        injection ea1 with e4 e5
        subst e4 e5
        refine List.ext_getElem? fun j => ?_
        by_cases hj : j < ns.length
        · have h2 := (hc j _ (List.getElem?_eq_getElem hj)).2
          have h3 := (hc1 j _ (List.getElem?_eq_getElem (by omega))).2
          rw [h2] at h3
          injection h3 with h3
          injection h3 with h3
          rw [List.getElem?_eq_getElem hj, List.getElem?_eq_getElem (by omega), h3]
        · rw [List.getElem?_eq_none (by omega), List.getElem?_eq_none (by omega)]
      · rw [List.eq_nil_of_length_eq_zero (l := ns) (by omega), List.eq_nil_of_length_eq_zero (l := ns1) (by omega)]
    subst hns
    refine ⟨an', cn', rfl, hc', fun hp => ?_⟩
    obtain ⟨b, off, ea, hb, hc⟩ := hs' hp
    refine ⟨b, off, ea, hb, fun j x hx => ⟨(hc j x hx).1, ?_⟩⟩
    rw [hsame b _ ?_]; exact (hc j x hx).2
    rintro rfl
    have := (hc j x hx).2
    rw [hold] at this
    cases this
  · intro m ps a c e h1 _
    injection e with e1 e2 e3
    subst e1 e3
    refine ⟨an', cn', by rw [e2], by omega, fun hp => ?_⟩
    exfalso
    obtain ⟨b, off, ea, hb, hc⟩ := hs (by omega)
    obtain ⟨b1, off1, ea1, hb1, hc1⟩ := h1 hp
    rw [ea] at ea1
    injection ea1 with ea1
    injection ea1 with e4 e5
    subst e4 e5
    obtain ⟨c0, c1, c2, c3, ⟨f0, _⟩, hR⟩ := hc1 0 _ (List.getElem?_eq_getElem hp)
    obtain ⟨an1, cn1, ap1, cp1, ev⟩ := hR.shape
    injection ev with ev
    have ev' : [c0, c1, c2, c3] = _ := congrArg Array.toList ev
    simp only [List.cons.injEq] at ev'
    have h2 := (hc 0 _ (List.getElem?_eq_getElem (by omega))).2
    rw [Nat.zero_mul, Nat.add_zero, ev'.1] at f0
    rw [Nat.add_zero, f0] at h2
    cases h2

/-- Parts, laid anew. -/
theorem Redir.parts {w : World} {D : Nat → Prop} {p : Addr} {ap : Option Addr} {cp g cp' m0 : Nat} {ps : List JV} (hold : w.cell? p = some (.slice ap ps.length cp)) (hr : Rows4D w D (RdD w D m0) ap ps) {v' : Option Addr} (hD : 0 < ps.length → v' = some ⟨g, 0, none⟩ ∧ D g ∧ g ≠ p.block)
    (hcopy : ∀ b off, 0 < ps.length → ap = some ⟨b, off, none⟩ → ∀ j, j < ps.length * 4 → w.cell? ⟨g, j, none⟩ = w.cell? ⟨b, off + j, none⟩) (hc' : ps.length ≤ cp')
    (hnew : (w.setCell p (.slice v' ps.length cp')).cell? p = some (.slice v' ps.length cp')) : Redir w (w.setCell p (.slice v' ps.length cp')) D p (.slice ap ps.length cp) (.slice v' ps.length cp') := by
  have hsame : ∀ b o, (⟨b, o, none⟩ : Addr) ≠ p → (w.setCell p (.slice v' ps.length cp')).cell? ⟨b, o, none⟩ = w.cell? ⟨b, o, none⟩ := fun b o hne => World.cell?_setCell_other _ _ _ _ hne.symm
  refine ⟨hsame, hold, hnew, ⟨_, _, _, rfl⟩, ?_, ?_⟩
  · intro ns a c e h1
    injection e with e1 e2 e3
    subst e1 e3
    refine ⟨v', cp', by rw [e2], by omega, fun hp => ?_⟩
    exfalso
    obtain ⟨b, off, ea, hb, hc⟩ := h1 hp
    obtain ⟨b1, off1, ea1, hb1, hc1⟩ := hr (by omega)
    rw [ea] at ea1
    injection ea1 with ea1
    injection ea1 with e4 e5
    subst e4 e5
    obtain ⟨c0, c1, c2, c3, ⟨f0, _⟩, hR⟩ := hc1 0 _ (List.getElem?_eq_getElem (by omega))
    obtain ⟨an1, cn1, ap1, cp1, ev⟩ := hR.shape
    injection ev with ev
    have ev' : [c0, c1, c2, c3] = _ := congrArg Array.toList ev
    simp only [List.cons.injEq] at ev'
    have h2 := (hc 0 _ (List.getElem?_eq_getElem hp)).2
    rw [Nat.zero_mul, Nat.add_zero, ev'.1] at f0
    rw [Nat.add_zero, f0] at h2
    cases h2
  · intro m ps1 a c e h1 ih
    injection e with e1 e2 e3
    subst e1 e3
    refine ⟨v', cp', by rw [e2], by omega, fun hp => ?_⟩
    obtain ⟨rfl, hg, hgp⟩ := hD (by omega)
    obtain ⟨b, off, ea, hb, hc⟩ := h1 hp
    refine ⟨g, 0, rfl, hg, fun i y hy => ?_⟩
    have hi : i < ps1.length := (List.getElem?_eq_some_iff.1 hy).1
    obtain ⟨c0, c1, c2, c3, ⟨f0, f1, f2, f3⟩, hR⟩ := hc i y hy
    have hcp := hcopy b off (by omega) ea
    have hat : ∀ k u, k < 4 → w.cell? ⟨b, off + i * 4 + k, none⟩ = some u → (w.setCell p (.slice (some ⟨g, 0, none⟩) ps.length cp')).cell? ⟨g, 0 + i * 4 + k, none⟩ = some u := fun k u hk hu => by
      rw [hsame g _ (fun e => hgp (by rw [← e])), Nat.zero_add, hcp (i * 4 + k) (by omega), ← Nat.add_assoc]
      exact hu
    exact ⟨c0, c1, c2, c3, ⟨hat 0 c0 (by omega) f0, hat 1 c1 (by omega) f1, hat 2 c2 (by omega) f2, hat 3 c3 (by omega) f3⟩, ih y _ hR⟩

end Go.Proofs.YtkahnlgedacppaaGreatDoor
/-
  The state of jval.copyOf: lists that are still to be laid anew; all read as they did.
-/
namespace Go.Proofs.YtkahnlgedacppaaGreatDoor
open Go.RowKit

/-- A fresh row, told: its address, its room, its cells, which none has frozen. -/
theorem fresh_row {w : World} {base : Nat} {e : TypeId} {size : Nat} {v : Value} {m : Nat} {news : List Value} (h : w.ownsRow base e size v m news) :
    ∃ a c, v = .slice a m c ∧ m ≤ c ∧ (0 < m → ∃ g, a = some ⟨g, 0, none⟩ ∧ base ≤ g ∧ g < w.heap.size ∧ (∀ j, w.frozen? ⟨g, j, none⟩ = false) ∧ ∀ j, j < m * size → w.cell? ⟨g, j, none⟩ = news[j]?) := by
  rcases h.2 with ⟨hv, h0⟩ | ⟨g, cap, cur, hv, hb, hg, hnc, hcm, hcs, ht⟩
  · exact ⟨none, 0, by rw [hv, h0], by omega, fun hp => by omega⟩
  · subst hv
    refine ⟨_, cap, rfl, hnc, fun _ => ⟨g, rfl, hb, (Array.getElem?_eq_some_iff.1 hg).1, fun j => h.frozenAt j, fun j hj => h.cellAt j hj⟩⟩

/-- How many values there are in one. -/
def nodes : Nat → JV → Nat
  | 0, _ => 0
  | n + 1, x => 1 + (x.ps.map (nodes n)).sum

structure CE where
  g : Nat
  cap : Nat
  n : Nat
  xs : List JV
def CE.cell (e : CE) : Value := .slice (some ⟨e.g, 0, none⟩) e.xs.length e.cap
def Dm (w : World) (X : Nat → Prop) (go : Nat) (b : Nat) : Prop := b < w.heap.size ∧ b ≠ go ∧ ¬ X b
structure CE.Ok (w : World) (X : Nat → Prop) (go B0 : Nat) (e : CE) : Prop where
  lo : B0 ≤ e.g
  hi : e.g < w.heap.size
  ne : e.g ≠ go
  ner : ¬ X e.g
  fz : ∀ j, w.frozen? ⟨e.g, j, none⟩ = false
  len : e.xs.length ≤ 2000000
  cap : e.xs.length ≤ e.cap
  rd : Rows4D w (Dm w X go) (RdD w (Dm w X go) e.n) (some ⟨e.g, 0, none⟩) e.xs

def CS (X : Nat → Prop) (B0 : Nat) (w0 : World) (es ks : List CE) (v : Value) (w : World) : Prop :=
  ∃ go, w.ownsRow B0 50 1 v es.length (es.map CE.cell) ∧ v.ownBlock = some go ∧ Below B0 w0 w ∧ B0 ≤ w.heap.size ∧ ∀ e, (e ∈ es ∨ e ∈ ks) → e.Ok w X go B0

theorem CE.Ok.below {w w' : World} {X : Nat → Prop} {go B0 : Nat} {e : CE} (h : e.Ok w X go B0) (hb : Below w.heap.size w w') : e.Ok w' X go B0 :=
  ⟨h.lo, Nat.lt_of_lt_of_le h.hi hb.size, h.ne, h.ner, fun j => (hb.frozen (p := ⟨e.g, j, none⟩) h.hi).trans (h.fz j), h.len, h.cap, h.rd.step (fun _ hd => ⟨Nat.lt_of_lt_of_le hd.1 hb.size, hd.2⟩) (fun b o hd => hb.cell (p := ⟨b, o, none⟩) hd.1)⟩

theorem CS.below {X : Nat → Prop} {B0 : Nat} {w0 w w' : World} {es ks : List CE} {v : Value} (h : CS X B0 w0 es ks v w) (hb : Below w.heap.size w w') : CS X B0 w0 es ks v w' := by
  obtain ⟨go, hown, hgo, hbw, hle, hok⟩ := h
  exact ⟨go, hown.kept (row := none) ⟨hb.os, hb.tape, hb.output, hb.size, fun j hj _ => hb.block j hj⟩ (by cases hv : v.ownBlock <;> simp), hgo, hbw.trans (hb.mono hle), Nat.le_trans hle hb.size, fun e he => (hok e he).below hb⟩

/-- A slice laid anew into a cell of a fresh block. -/
theorem CS.set {X : Nat → Prop} {B0 : Nat} {w0 w : World} {es ks : List CE} {v : Value} (h : CS X B0 w0 es ks v w) {g o : Nat} (vo vn : Value) (hg : B0 ≤ g) (hne : ∀ go, v.ownBlock = some go → g ≠ go)
    (hR : ∀ go, v.ownBlock = some go → Redir w (w.setCell ⟨g, o, none⟩ vn) (Dm w X go) ⟨g, o, none⟩ vo vn) : CS X B0 w0 es ks v (w.setCell ⟨g, o, none⟩ vn) := by
  obtain ⟨go, hown, hgo, hbw, hle, hok⟩ := h
  have hR := hR go hgo
  have hsz : (w.setCell ⟨g, o, none⟩ vn).heap.size = w.heap.size := by simp [World.setCell]
  have hD : Dm (w.setCell ⟨g, o, none⟩ vn) X go = Dm w X go := by unfold Dm; rw [hsz]
  refine ⟨go, ownsRow_setCell_other hown (by rw [hgo]; intro e; exact hne go hgo (Option.some.inj e).symm) _, hgo, hbw.setCell (p := ⟨g, o, none⟩) hg _, by rw [hsz]; exact hle, fun e he => ?_⟩
  have ho := hok e he
  refine ⟨ho.lo, by rw [hsz]; exact ho.hi, ho.ne, ho.ner, fun j => ?_, ho.len, ho.cap, by rw [hD]; exact hR.rows4 ho.rd⟩
  rw [World.frozen?_setCell]
  exact ho.fz j

/-- One of the entry's values, its cells written out. -/
theorem CE.Ok.elem {w : World} {X : Nat → Prop} {go B0 : Nat} {e : CE} (h : e.Ok w X go B0) {i : Nat} (hi : i < e.xs.length) :
    ∃ y an cn ap cp, Hid (e.xs[i] = y) ∧ RdD w (Dm w X go) e.n y (.agg #[.int .i64 y.k, .string y.s, .slice an y.ns.length cn, .slice ap y.ps.length cp]) ∧
      w.cell? ⟨e.g, i * 4, none⟩ = some (.int .i64 y.k) ∧ w.cell? ⟨e.g, i * 4 + 1, none⟩ = some (.string y.s) ∧ w.cell? ⟨e.g, i * 4 + 2, none⟩ = some (.slice an y.ns.length cn) ∧ w.cell? ⟨e.g, i * 4 + 3, none⟩ = some (.slice ap y.ps.length cp) := by
  obtain ⟨b, off, ea, hb, hc⟩ := h.rd (by omega)
  injection ea with ea
  injection ea with eb eo
  subst eb eo
  obtain ⟨c0, c1, c2, c3, ⟨f0, f1, f2, f3⟩, hR⟩ := hc i _ (List.getElem?_eq_getElem hi)
  obtain ⟨an1, cn1, ap1, cp1, ev⟩ := hR.shape
  injection ev with ev
  have ev' : [c0, c1, c2, c3] = _ := congrArg Array.toList ev
  simp only [List.cons.injEq, and_true] at ev'
  obtain ⟨rfl, rfl, rfl, rfl⟩ := ev'
  rw [Nat.zero_add] at f0 f1 f2 f3
  exact ⟨_, an1, cn1, ap1, cp1, Lib.hid rfl, hR, f0, f1, f2, f3⟩

end Go.Proofs.YtkahnlgedacppaaGreatDoor
/-
  What jval.copyOf answers: a value that reads as the one that it is given.
-/
namespace Go.Proofs.YtkahnlgedacppaaGreatDoor
open Go.RowKit

theorem infoVal : (Tryz.prog.info? 52).map (fun i => (i.zero, i.size, i.bytes)) = some (some (.agg #[.int .i64 0, .string ⟨#[]⟩, .slice none 0 0, .slice none 0 0]), 4, 72) := by kernel_rfl
theorem infoStr : (Tryz.prog.info? 9).map (fun i => (i.zero, i.size, i.bytes)) = some (some (.string ⟨#[]⟩), 1, 16) := by kernel_rfl

end Go.Proofs.YtkahnlgedacppaaGreatDoor
